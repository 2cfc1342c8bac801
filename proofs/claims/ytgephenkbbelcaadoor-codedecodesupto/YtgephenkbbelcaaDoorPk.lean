import Derived.Test.YtgephenkbbelcaaDoorPj
import Derived.Laws.BytesString
import Derived.Laws.Cells
namespace Go.Proofs.YtgephenkbbelcaaDoor
open Go.RowKit
set_option linter.unusedVariables false
set_option linter.unusedSimpArgs false
theorem num_any (n : Int) (w : World) : Calls Tryd.prog 9 #[.int .i64 n] w fun e w' => e = .returned (.int .i64 n) ∧ w = w' := by
  go_enter Tryd.func9, Tryd.ntmps9
  go_wp2
  go_ret
  exact ⟨rfl, rfl⟩
theorem owns_void (w : World) (B size : Nat) (e : TypeId) (hB : B ≤ w.heap.size) : (w.alloc (.cells #[] e)).ownsRow B e size (.slice (some ⟨w.heap.size, 0, none⟩) 0 0) 0 [] :=
  ⟨by simp, .inr ⟨w.heap.size, 0, #[], rfl, hB, by show (w.heap.push _)[w.heap.size]? = _; simp, by omega, by simp [maxLen], by simp, by simp⟩⟩
theorem owns_insA {w : World} {B : Nat} {v : Value} {l : List Ins} (h : w.ownsRow B 42 5 v l.length (insV l)) : ∃ a cap, v = .slice a l.length cap ∧ InsA w a l ∧ l.length ≤ cap := by
  rcases h.2 with ⟨rfl, h0⟩ | ⟨g, cap, cur, rfl, hb, hg, hn, hm, hs, ht⟩
  · obtain rfl : l = [] := List.length_eq_zero_iff.1 h0
    exact ⟨none, 0, rfl, .inl rfl, Nat.le_refl _⟩
  · refine ⟨_, cap, rfl, .inr ⟨g, 0, rfl, fun k x hx => ?_⟩, hn⟩
    have hk : k < l.length := (List.getElem?_eq_some_iff.1 hx).1
    have key : ∀ j u, x.cs[j]? = some u → w.cell? ⟨g, 0 + k * 5 + j, none⟩ = some u := by
      intro j u hu
      have hj : j < 5 := by have := (List.getElem?_eq_some_iff.1 hu).1; simpa [Ins.cs] using this
      have e1 : (insV l)[k * 5 + j]? = some u := by
        have hsplit : insV l = insV (l.take k) ++ (x.cs ++ insV (l.drop (k + 1))) := by
          have : l = l.take k ++ (x :: l.drop (k + 1)) := by
            have hd := List.drop_eq_getElem_cons hk
            have hx' : l[k] = x := by rw [List.getElem?_eq_getElem hk] at hx; exact Option.some.inj hx
            rw [hx'] at hd
            rw [← hd, List.take_append_drop]
          conv => lhs; rw [this]
          simp [insV, List.flatMap_append]
        rw [hsplit, List.getElem?_append_right (by rw [insV_len]; simp; omega), List.getElem?_append_left (by rw [insV_len]; simp [Ins.cs]; omega)]
        rw [insV_len, List.length_take, Nat.min_eq_left (by omega), show k * 5 + j - k * 5 = j by omega]
        exact hu
      have e2 : cur[k * 5 + j]? = some u := by
        rw [← ht, List.getElem?_take, if_pos (by omega)] at e1
        simpa using e1
      rw [cell_at hg, Nat.zero_add]; exact e2
    exact ⟨key 0 _ rfl, key 1 _ rfl, key 2 _ rfl, key 3 _ rfl, key 4 _ rfl⟩
theorem insV_get {l : List Ins} {j : Nat} {u : Value} (h : (insV l)[j]? = some u) : ∃ k x i, l[k]? = some x ∧ j = k * 5 + i ∧ i < 5 ∧ x.cs[i]? = some u := by
  induction l generalizing j with
  | nil => simp [insV] at h
  | cons x r ih =>
    have e : insV (x :: r) = x.cs ++ insV r := rfl
    rw [e] at h
    by_cases hj : j < 5
    · rw [List.getElem?_append_left (by simpa [Ins.cs] using hj)] at h
      exact ⟨0, x, j, rfl, by omega, hj, h⟩
    · rw [List.getElem?_append_right (by simp [Ins.cs]; omega)] at h
      obtain ⟨k, y, i, h1, h2, h3, h4⟩ := ih h
      refine ⟨k + 1, y, i, by simpa using h1, ?_, h3, h4⟩
      simp [Ins.cs] at h2; omega
theorem insA_cells {w : World} {b off : Nat} {l : List Ins} (h : ∀ k x, l[k]? = some x → w.cell? ⟨b, off + k * 5, none⟩ = some (.int .i64 x.o) ∧ w.cell? ⟨b, off + k * 5 + 1, none⟩ = some (.int .i64 x.d) ∧
    w.cell? ⟨b, off + k * 5 + 2, none⟩ = some (.int .i64 x.s) ∧ w.cell? ⟨b, off + k * 5 + 3, none⟩ = some (.int .i64 x.f) ∧ w.cell? ⟨b, off + k * 5 + 4, none⟩ = some (.int .i64 x.i)) :
    ∀ j u, (insV l)[j]? = some u → w.cell? ((⟨b, off, none⟩ : Addr).add j) = some u := by
  intro j u hu
  obtain ⟨k, x, i, hx, rfl, hi, hu⟩ := insV_get hu
  obtain ⟨c0, c1, c2, c3, c4⟩ := h k x hx
  rw [WideShapes.add_plain]
  match i, hi, hu with
  | 0, _, hu => cases hu; exact c0
  | 1, _, hu => cases hu; exact c1
  | 2, _, hu => cases hu; exact c2
  | 3, _, hu => cases hu; exact c3
  | 4, _, hu => cases hu; exact c4
theorem insV_one (l : List Ins) : ∀ u ∈ insV l, u.oneCell' = true := by
  intro u hu
  obtain ⟨x, hx, hu⟩ := List.mem_flatMap.1 hu
  exact ins_one x u hu
theorem copyI (w : World) (a : Option Addr) (n cap : Nat) (l : List Ins) (hn : l.length = n) (hi : InsA w a l) (hm : n ≤ 3518437208883) : Calls Tryd.prog 18 #[.slice a n cap] w fun e w' => ∃ v, e = .returned v ∧ OwnI w w' v l ∧ Out w w' := by
  obtain ⟨i0, hi0, hz0, hz1, hz2⟩ := info_parts info55
  cases a with
  | none =>
    obtain rfl : l = [] := by
      rcases hi with h | ⟨b, off, h, _⟩
      · exact h
      · cases h
    obtain rfl : n = 0 := by simpa using hn.symm
    go_enter Tryd.func18, Tryd.ntmps18
    go_wp2
    go_ret
    exact ⟨_, rfl, owns_void w _ _ _ (Nat.le_refl _), Out.alloc (Out.refl _) _⟩
  | some ad =>
    have hcells : ∀ j u, (insV l)[j]? = some u → (w.alloc (.cells #[] 42)).cell? (ad.add j) = some u := by
      intro j u hu
      rcases hi with rfl | ⟨b, off, h, hc⟩
      · simp [insV] at hu
      · cases h
        have := insA_cells hc j u hu
        rw [WideShapes.add_plain] at this ⊢
        exact cell_later ((Out.refl w).alloc _) this
    subst hn
    go_enter Tryd.func18, Tryd.ntmps18
    go_wp2_with (first | (at_builtin; go_loud (refine wpList_append_own _ rfl (.tmp 3) (.tmp 4) 30 rfl w.heap.size 42 i0 _ 5 40 Tryd.underlying30 hi0 hz0 hz1 hz2 rfl (by decide) _ 0 [] rfl (owns_void w _ _ _ (Nat.le_refl _)) ad l.length cap (insV l) rfl (insV_len l) hcells (insV_one l) (by simp only [maxLen]; omega) (by omega) (by rw [size_alloc]; omega) ?_); intro v1 w1 hown1 hgrow1 _))
    go_ret
    refine ⟨_, rfl, by simpa [OwnI] using hown1, ?_⟩
    exact Chg.out (S := fun k => k = w.heap.size) (Chg.of_grown hgrow1 (fun k h => (Option.some.inj h).symm)) ((Out.refl w).alloc _) (fun k hk => by omega)
theorem drewN_twice (w : World) (a b : Nat) : (w.drewN a).drewN b = w.drewN (a + b) := by
  simp only [World.drewN, Nat.add_assoc]
theorem sameI (w : World) (a1 a2 : Option Addr) (n c1 c2 : Nat) (l : List Ins) (hn : l.length = n) (h1 : InsA w a1 l) (h2 : InsA w a2 l) (hm : n ≤ 3518437208883) : Calls Tryd.prog 10 #[.slice a1 n c1, .slice a2 n c2] w fun e w' => e = .returned (.bool true) ∧ ∃ m, w' = w.drewN m := by
  have H1 := hidOf h1
  have H2 := hidOf h2
  have Hn := hidOf hn
  clear h1 h2 hn
  go_enter Tryd.func10, Tryd.ntmps10
  go_wp2
  go_loopw [5] (fun i wr => ∃ k : Nat, k ≤ n ∧ i = .int .i64 k ∧ ∃ m, wr = w.drewN m) (fun i _ => n - (intOf i).toNat)
  case atStart => exact ⟨0, by omega, rfl, 0, rfl⟩
  case round =>
    obtain ⟨k, hk, rfl, m, rfl⟩ := hrel
    by_cases hkl : k < n
    · have hlt : (k : Int) < n := by omega
      obtain ⟨x, hx⟩ : ∃ x, l[k]? = some x := ⟨_, List.getElem?_eq_getElem (by have := Hn.out; omega)⟩
      rcases H1.out with hz | ⟨b1, o1, rfl, hc1⟩
      · simp [hz] at hx
      rcases H2.out with hz | ⟨b2, o2, rfl, hc2⟩
      · simp [hz] at hx
      obtain ⟨p0, p1, p2, p3, p4⟩ := hc1 k x hx
      obtain ⟨q0, q1, q2, q3, q4⟩ := hc2 k x hx
      have p0' : (w.drewN m).cell? ⟨b1, o1 + k * 5, none⟩ = some (.int .i64 x.o) := p0
      have p1' : (w.drewN m).cell? ⟨b1, o1 + k * 5 + 1, none⟩ = some (.int .i64 x.d) := p1
      have p2' : (w.drewN m).cell? ⟨b1, o1 + k * 5 + 2, none⟩ = some (.int .i64 x.s) := p2
      have p3' : (w.drewN m).cell? ⟨b1, o1 + k * 5 + 3, none⟩ = some (.int .i64 x.f) := p3
      have p4' : (w.drewN m).cell? ⟨b1, o1 + k * 5 + 4, none⟩ = some (.int .i64 x.i) := p4
      have q0' : (w.drewN m).cell? ⟨b2, o2 + k * 5, none⟩ = some (.int .i64 x.o) := q0
      have q1' : (w.drewN m).cell? ⟨b2, o2 + k * 5 + 1, none⟩ = some (.int .i64 x.d) := q1
      have q2' : (w.drewN m).cell? ⟨b2, o2 + k * 5 + 2, none⟩ = some (.int .i64 x.s) := q2
      have q3' : (w.drewN m).cell? ⟨b2, o2 + k * 5 + 3, none⟩ = some (.int .i64 x.f) := q3
      have q4' : (w.drewN m).cell? ⟨b2, o2 + k * 5 + 4, none⟩ = some (.int .i64 x.i) := q4
      clear hc1 hc2 p0 p1 p2 p3 p4 q0 q1 q2 q3 q4 hx
      obtain ⟨xo, xd, xs, xf, xi⟩ := x
      simp only at p0' p1' p2' p3' p4' q0' q1' q2' q3' q4'
      generalize hwm : w.drewN m = wm at *
      go_wp2
      go_quiet (fail)
      go_wp2
      go_roundw
      case rel => exact ⟨k + 1, by omega, by simp, by subst hwm; first | exact ⟨_, rfl⟩ | exact ⟨_, (drewN_twice _ _ _)⟩⟩
      case measure => simp [intOf]; omega
    · have hlt : ¬ (k : Int) < n := by omega
      obtain rfl : k = n := by omega
      go_wp2
      go_ret
      exact ⟨rfl, _, rfl⟩
theorem bV_one (B : List Int) : ∀ u ∈ bV B, u.oneCell' = true := by
  intro u hu
  obtain ⟨z, -, rfl⟩ := List.mem_map.1 hu
  rfl
theorem bV_get {B : List Int} {j : Nat} {u : Value} (h : (bV B)[j]? = some u) : j < B.length ∧ u = .int .u8 (gB B j) := by
  rw [bV, List.getElem?_map] at h
  obtain ⟨z, hz, rfl⟩ := Option.map_eq_some_iff.1 h
  exact ⟨(List.getElem?_eq_some_iff.1 hz).1, by simp [gB, List.getD, hz]⟩
theorem copyB (w : World) (a : Option Addr) (n cap : Nat) (B : List Int) (hn : B.length = n) (hi : BytA w a B) (hm : n ≤ 3518437208883) : Calls Tryd.prog 14 #[.slice a n cap] w fun e w' => ∃ v, e = .returned v ∧ OwnB w w' v B ∧ Out w w' := by
  obtain ⟨i0, hi0, hz0, hz1, hz2⟩ := info_parts info8
  cases a with
  | none =>
    obtain rfl : B = [] := by
      rcases hi with h | ⟨b, off, h, _⟩
      · exact h
      · cases h
    obtain rfl : n = 0 := by simpa using hn.symm
    go_enter Tryd.func14, Tryd.ntmps14
    go_wp2
    go_ret
    exact ⟨_, rfl, owns_void w _ _ _ (Nat.le_refl _), Out.alloc (Out.refl _) _⟩
  | some ad =>
    have hcells : ∀ j u, (bV B)[j]? = some u → (w.alloc (.cells #[] 5)).cell? (ad.add j) = some u := by
      intro j u hu
      obtain ⟨hj, rfl⟩ := bV_get hu
      rcases hi with rfl | ⟨b, off, h, hc⟩
      · simp at hj
      · cases h
        rw [WideShapes.add_plain]
        exact cell_later ((Out.refl w).alloc _) (hc j hj)
    subst hn
    go_enter Tryd.func14, Tryd.ntmps14
    go_wp2_with (first | (at_builtin; go_loud (refine wpList_append_own _ rfl (.tmp 3) (.tmp 4) 22 rfl w.heap.size 5 i0 _ 1 1 Tryd.underlying22 hi0 hz0 hz1 hz2 rfl (by decide) _ 0 [] rfl (owns_void w _ _ _ (Nat.le_refl _)) ad B.length cap (bV B) rfl (by simp [bV]) hcells (bV_one B) (by simp only [maxLen]; omega) (by omega) (by rw [size_alloc]; omega) ?_); intro v1 w1 hown1 hgrow1 _))
    go_ret
    refine ⟨_, rfl, by simpa [OwnB] using hown1, ?_⟩
    exact Chg.out (S := fun k => k = w.heap.size) (Chg.of_grown hgrow1 (fun k h => (Option.some.inj h).symm)) ((Out.refl w).alloc _) (fun k hk => by omega)
theorem owns_bytA {w : World} {B : Nat} {v : Value} {L : List Int} (h : w.ownsRow B 5 1 v L.length (bV L)) : ∃ a cap, v = .slice a L.length cap ∧ BytA w a L ∧ L.length ≤ cap := by
  rcases h.2 with ⟨rfl, h0⟩ | ⟨g, cap, cur, rfl, hb, hg, hn, hm, hs, ht⟩
  · obtain rfl : L = [] := List.length_eq_zero_iff.1 h0
    exact ⟨none, 0, rfl, .inl rfl, Nat.le_refl _⟩
  · refine ⟨_, cap, rfl, .inr ⟨g, 0, rfl, fun k hk => ?_⟩, hn⟩
    have e1 : (bV L)[k]? = some (.int .u8 (gB L k)) := by simp [bV, gB, List.getD, List.getElem?_eq_getElem hk]
    rw [← ht, List.getElem?_take, if_pos (by omega)] at e1
    rw [cell_at hg, Nat.zero_add]; simpa using e1
def strB (B : List Int) : ByteArray := B.foldl (fun r n => r.push (UInt8.ofNat n.toNat)) ByteArray.empty
theorem conv_bytes (w : World) (a : Option Addr) (n cap : Nat) (B : List Int) (hn : B.length = n) (h : BytA w a B) : (convert 22 9 (.slice a n cap)).run Tryd.prog w = .ok (.string (strB B)) w := by
  rw [run_convert_bytes_string w 22 9 5 a n cap Tryd.underlying22 Tryd.underlying5 Tryd.underlying9]
  subst hn
  cases a with
  | none =>
    obtain rfl : B = [] := by
      rcases h with h | ⟨b, off, h, _⟩
      · exact h
      · cases h
    rfl
  | some ad =>
    refine run_bytesToString w ad B.length cap B ?_
    have hl : B.length = (bV B).length := by simp [bV]
    rw [hl]
    refine run_loadCells_list w ad (bV B) (fun j u hu => ?_)
    obtain ⟨hj, rfl⟩ := bV_get hu
    rcases h with rfl | ⟨b, off, h, hc⟩
    · simp at hj
    · cases h
      rw [WideShapes.add_plain]
      exact hc j hj
end Go.Proofs.YtgephenkbbelcaaDoor
