import Derived.Test.YtlfcjbeldnkkoaaGb46
import Derived.Test.YtlfcjbeldnkkoaaGb20
namespace Go.Proofs.Ytlfcjbeldnkkoaa
open Go.RowKit
open Go.Maps (Keyed)
set_option linter.unusedVariables false
set_option linter.unusedSimpArgs false
theorem twZ_step {m : List UInt8} {k : Nat} {b : UInt8} (h : ∀ j, j < k → ∃ y, m[j]? = some y ∧ ¬ y = 0) (hb : m[k]? = some b) (hz : b = 0) : (twZ m).length = k := by
  refine tw_len' _ m k ?_ (by have := (List.getElem?_eq_some_iff.1 hb).1; omega) (.inr ⟨b, hb, by simp [hz]⟩)
  rw [List.all_eq_true]
  intro y hy
  obtain ⟨j, hj⟩ := List.mem_iff_getElem?.1 hy
  rw [List.getElem?_take] at hj
  split at hj
  · rename_i hjk
    obtain ⟨y', h1, h2⟩ := h j hjk
    rw [hj] at h1
    cases h1
    simp [h2]
  · cases hj
theorem twZ_all {m : List UInt8} (h : ∀ j, j < m.length → ∃ y, m[j]? = some y ∧ ¬ y = 0) : (twZ m).length = m.length := by
  refine tw_len' _ m m.length ?_ (Nat.le_refl _) (.inl rfl)
  rw [List.take_length, List.all_eq_true]
  intro y hy
  obtain ⟨j, hj⟩ := List.mem_iff_getElem?.1 hy
  obtain ⟨y', h1, h2⟩ := h j (List.getElem?_eq_some_iff.1 hj).1
  rw [hj] at h1
  cases h1
  simp [h2]
theorem chg_set (w : World) (g : Nat) (v : Value) : Chg (fun k => k = g) w (w.setCell ⟨g, 0, none⟩ v) := Chg.setCell (S := fun k => k = g) (Chg.refl _ w) (p := ⟨g, 0, none⟩) rfl v
theorem RS.keep {w0 X w' : World} {N : List (List UInt8)} {v : Value} (h : RS w0 X N v) (hg : X.grownBy w' v.ownBlock) : w'.frozen? ⟨w0.heap.size + 1, 0, none⟩ = false ∧ w'.cell? ⟨w0.heap.size + 1, 0, none⟩ = some v := by
  have hlt := h.lt
  have hne : ¬ some (w0.heap.size + 1) = v.ownBlock := fun e => by have := (h.own.lt _ e.symm).1; omega
  exact ⟨(hg.frozen_far ⟨w0.heap.size + 1, 0, none⟩ (show w0.heap.size + 1 < X.heap.size by omega) hne).trans h.f1, (hg.cell_far ⟨w0.heap.size + 1, 0, none⟩ (show w0.heap.size + 1 < X.heap.size by omega) hne).trans h.c1⟩
theorem RS.rt_after {w0 wr w' : World} {N : List (List UInt8)} {a : Option Addr} {c : Nat} (h : RS w0 wr N (.slice a N.length c)) (hc : Chg (fun k => k = w0.heap.size) wr w') : RT w' a N := by
  rcases h.rt.1 with hn | ⟨g, off, hg, ha, hx⟩
  · exact .inl hn
  · have hge := (h.own.lt g (by rw [ha]; rfl)).1
    exact .inr ⟨g, off, Nat.lt_of_lt_of_le hg hc.size, ha, fun k x hk => hc.cell (hx k x hk) (by show ¬ g = _; omega)⟩
theorem set_tab {w : World} {g : Nat} {v : Value} (h : w.heap[g]? = some nilO) : (w.setCell ⟨g, 0, none⟩ v).heap[g]? = some (.cells #[v] 119 (0, 0)) := by
  simp [World.setCell, Array.getElem?_modify, h, nilO, tabO]
theorem set_nil {w : World} {g : Nat} (h : w.heap[g]? = some nilO) : (w.setCell ⟨g, 0, none⟩ (.slice none 0 0)).heap[g]? = some (.cells #[.slice none 0 0] 119 (0, 0)) := by
  simp [World.setCell, Array.getElem?_modify, h, nilO, tabO]
set_option maxRecDepth 20000 in
set_option maxHeartbeats 4000000 in
theorem rread_zero (g off c : Nat) (r : List UInt8) (w : World) (hg : g < w.heap.size) (hc : r.length + 1 ≤ c) (hl : r.length + 1 ≤ 1000000000000) (h : ∀ k x, ((0 : UInt8) :: r)[k]? = some x → w.cell? ⟨g, off + k, none⟩ = some (.int .u8 (x.toNat : Int))) :
    Calls Try.prog 64 #[.slice (some ⟨g, off, none⟩) (r.length + 1) c] w fun e w' => RREnd w (0 :: r) e w' := by
  obtain ⟨i0, hi, hz0, hz1, hz2⟩ := info_parts infoStr
  obtain ⟨l, hle⟩ : ∃ l, l = (0 : UInt8) :: r := ⟨_, rfl⟩
  have hll : l.length = r.length + 1 := by rw [hle]; rfl
  have HR : Hid (rdP l = rdR (l.drop 1) []) := by rw [hle]; rfl
  have c0 : ∀ O, (w.alloc O).cell? ⟨g, off, none⟩ = some (.int .u8 0) := fun O => cell_later ((Out.refl w).alloc O) (h 0 0 rfl)
  rw [← hle] at h ⊢
  rw [← hll] at hc hl ⊢
  have HC := hidOf h
  obtain ⟨n, hn⟩ : ∃ n, n = l.length := ⟨_, rfl⟩
  have Hn := hidOf hn
  have h1 : 1 ≤ n := by omega
  rw [← hn] at hc hl ⊢
  have h1' : (1 : Int) ≤ n := by omega
  have hcI : (n : Int) ≤ c := by omega
  have hlI : (n : Int) ≤ 1000000000000 := by omega
  have hb0 : ((n : Int) == 0) = false := by simp; omega
  have Hg := hidOf hg
  clear h hll hle hg hn
  have HS0 : Hid (RS w ((w.alloc nilO).alloc nilO) [] (.slice none 0 0)) := hidOf (by
    have s1 := size_alloc w nilO
    have o2 : Out (w.alloc nilO) ((w.alloc nilO).alloc nilO) := (Out.refl _).alloc _
    refine ⟨?_, ?_, World.ownsRow_nil _ _ _ _, ((Out.refl w).alloc _).alloc _⟩
    · rw [o2.block _ (by rw [s1]; omega)]; exact heap_alloc_new _ _
    · rw [← s1]; exact heap_alloc_new _ _)
  go_enter Try.func64, Try.ntmps64
  go_upto_region 5 with fail
  show Code.wp _ _ _ _ ((w.alloc nilO).alloc nilO)
  generalize (w.alloc nilO).alloc nilO = w1 at *
  clear c0
  go_loopw [6] (fun av wr => ∃ (N : List (List UInt8)) (s : Nat) (va : Option Addr) (vc : Nat), av = .int .i64 s ∧ s ≤ n ∧ 1 ≤ s ∧ Hid (s = szF 1 N) ∧ Hid (rdP l = rdR (l.drop s) N) ∧ Hid (RS w wr N (.slice va N.length vc))) (fun av _ => n - (intOf av).toNat)
  case atStart => exact ⟨[], 1, none, 0, rfl, h1, by omega, hidOf rfl, HR.out, HS0.out⟩
  case round =>
    obtain ⟨N, s, va, vc, rfl, hs, hs1, HSz, HRr, HS⟩ := hrel
    have hsI : (1 : Int) ≤ s := by omega
    have hsz := szF_ge N 1
    rw [← HSz.out] at hsz
    have Hsz := hidOf hsz
    clear hsz
    by_cases hlt : s < n
    · have hltI : (s : Int) < n := by omega
      obtain ⟨m, hm⟩ : ∃ m, m = l.drop s := ⟨_, rfl⟩
      have hml : m.length = n - s := by rw [hm, List.length_drop, ← Hn.out]
      have hm0 : ¬ m = [] := fun e => by rw [e] at hml; simp at hml; omega
      have hcell : ∀ wx, Out w wx → ∀ k x, m[k]? = some x → wx.cell? ⟨g, off + s + k, none⟩ = some (.int .u8 (x.toNat : Int)) := fun wx ho k x hx => by
        rw [hm, List.getElem?_drop] at hx
        rw [Nat.add_assoc, ho.cells g _ Hg.out]
        exact HC.out (s + k) x hx
      have Hcell := hidOf hcell
      have Hm := hidOf hm
      have Hm0 := hidOf hm0
      have Hml := hidOf hml
      clear hm hml hm0 hcell
      go_upto_region 7 with fail
      obtain ⟨w2, hw2⟩ : ∃ w2, w2 = wr := ⟨_, rfl⟩
      rw [← hw2] at HS ⊢
      clear hw2
      go_loopw [7] (fun ev wr => ∃ e : Nat, ev = .int .i64 ((s : Int) + e) ∧ s + e ≤ n ∧ Hid (∀ j, j < e → ∃ y, m[j]? = some y ∧ ¬ y = 0) ∧ wr = w2) (fun ev _ => n - (intOf ev).toNat)
      case atStart => exact ⟨0, by simp, by omega, hidOf (fun j hj => by omega), rfl⟩
      case round =>
        obtain ⟨e, rfl, he, HE0, rfl⟩ := hrel
        by_cases hen : s + e < n
        · have henI : (s : Int) + e < n := by omega
          have h0e : (0 : Int) ≤ (s : Int) + e := by omega
          obtain ⟨b, hb⟩ : ∃ b, m[e]? = some b := ⟨_, List.getElem?_eq_getElem (by have := Hml.out; omega)⟩
          have d := Hcell.out wr HS.out.out e b hb
          rw [Nat.add_assoc] at d
          have hz := u8_zero (b := b)
          by_cases hb0' : b = 0
          · rw [decide_eq_true hb0'] at hz
            go_upto_region 9 with fail
            have hte : (twZ m).length = e := twZ_step HE0.out hb hb0'
            have Hne : Hid (¬ (twZ m).length = m.length) := hidOf (by rw [hte, Hml.out]; omega)
            clear hb hb0' d hz
            obtain ⟨x, hx⟩ : ∃ x, x = twZ m := ⟨_, rfl⟩
            have hxl : x.length = e := by rw [hx]; exact hte
            have hxt : x = m.take e := by rw [hx]; conv => lhs; rw [twZ_take m, hte]
            have hcv : (convert 24 9 (.slice (some ⟨g, off + s, none⟩) e (c - s))).run Try.prog wr = .ok (.string ⟨x.toArray⟩) wr := by
              rw [← hxl]
              exact conv_rest (N := g + 1) (.inr ⟨g, off + s, by omega, rfl, fun k y hy => Hcell.out wr HS.out.out k y (by rw [hxt, List.getElem?_take] at hy; split at hy; exact hy; cases hy)⟩) (c - s)
            have HNm := hidOf (named_any x wr (by omega))
            have Hx := hidOf hx
            have Hxl := hidOf hxl
            have q0 := HS.out.c0
            have g0 := HS.out.f0
            have q1 := HS.out.c1
            clear hxt hxl hx hte
            have hel : ((s : Int) + e == n) = false := by simp; omega
            cases hok : nameOk x
            · have Hres : Hid (rdP l = (none, s)) := hidOf (by rw [HRr.out, ← Hm.out, rdR_bad m N Hm0.out (step_bad (.inl (by rw [← Hx.out]; exact hok))), ← HSz.out])
              rw [hok] at HNm
              clear hok
              go_wp2_with (go_at_call 80; refine (HNm.out).mono ?_; rintro e' w3 ⟨rfl, hw3⟩; subst hw3)
              refine bodyPost_ret (results_cell3 rfl _ _ w.heap.size 119 #[.slice none 0 0] (0, 0) _ rfl (set_nil HS.out.b0) Try.underlying119 rfl sizeT) rfl ?_
              exact ⟨Chg.out (chg_set _ w.heap.size _) HS.out.out (fun k hk => by omega), .inl ⟨by rw [Hres.out], by rw [Hres.out]; rfl⟩⟩
            · rw [hok] at HNm
              have hl64 := name_len hok
              have HP := hidOf (place_any va vc N x wr HS.out.rt.1 HS.out.rt.2 (by rw [← HSz.out]; omega))
              by_cases hin : x ∈ N
              · have Hres : Hid (rdP l = (none, s)) := hidOf (by rw [HRr.out, ← Hm.out, rdR_bad m N Hm0.out (step_bad (.inr (.inr (by rw [← Hx.out]; exact hin)))), ← HSz.out])
                have hpp := (plF_zero N 1 x (Nat.le_refl _)).1 hin
                generalize plF 1 N x = pp at *
                have hppI : (0 : Int) < pp := by omega
                clear hok hin hpp
                go_upto_region 12 with (first | (go_at_call 80; refine (HNm.out).mono ?_; rintro e' w3 ⟨rfl, hw3⟩; subst hw3) | (go_at_call 81; refine (HP.out).mono ?_; rintro e' w4 ⟨rfl, ho4⟩; have HS4 := hidOf (HS.out.more ho4); clear ho4))
                have q4 := HS4.out.c0
                have g4 := HS4.out.f0
                go_wp2
                refine bodyPost_ret (results_cell3 rfl _ _ w.heap.size 119 #[.slice none 0 0] (0, 0) _ rfl (set_nil HS4.out.b0) Try.underlying119 rfl sizeT) rfl ?_
                exact ⟨Chg.out (chg_set _ w.heap.size _) HS4.out.out (fun k hk => by omega), .inl ⟨by rw [Hres.out], by rw [Hres.out]; rfl⟩⟩
              · obtain ⟨e1, e2, e3⟩ := step_ok (N := N) (by rw [← Hx.out]; exact hok) Hne.out (by rw [← Hx.out]; exact hin)
                rw [← Hx.out] at e1
                have hpp : plF 1 N x = 0 := by
                  have := plF_zero N 1 x (Nat.le_refl _)
                  have : ¬ 0 < plF 1 N x := fun h => hin (this.2 h)
                  omega
                rw [hpp] at HP
                have Hst : Hid (rdP l = rdR (l.drop (s + e + 1)) (N ++ [x])) := hidOf (by
                  rw [HRr.out, ← Hm.out, rdR_ok m N Hm0.out e2 e3, e1, Hxl.out, Hm.out, List.drop_drop]
                  rfl)
                clear hok hin hpp e1 e2 e3
                go_upto_region 13 with (first | (go_at_call 80; refine (HNm.out).mono ?_; rintro e' w3 ⟨rfl, hw3⟩; subst hw3) | (go_at_call 81; refine (HP.out).mono ?_; rintro e' w4 ⟨rfl, ho4⟩; have HS4 := hidOf (HS.out.more ho4); clear ho4))
                have q4 := HS4.out.c1
                have q4' : ∀ O, (w4.alloc O).cell? ⟨w.heap.size + 1, 0, none⟩ = some (.slice va N.length vc) := fun O => (HS4.out.more ((Out.refl w4).alloc O)).c1
                have hN9 : N.length ≤ 1000000000000 := by have := Hsz.out; omega
                have hsz4 := HS4.out.lt
                clear q0 g0 q1 HP HNm hcv HS
                go_wp2_with (at_builtin; refine wpList_append_lies _ rfl (.tmp 62) (.tmp 64) 85 rfl (w.heap.size + 2) 9 i0 _ 1 16 Try.underlying85 hi hz0 hz1 hz2 rfl (by decide) (.slice va N.length vc) N.length (N.map strV) rfl (HS4.out.more ((Out.refl w4).alloc _)).own ⟨w4.heap.size, 0, none⟩ 1 1 [.string ⟨x.toArray⟩] rfl rfl (news_new w4 _ _ _ rfl) (str_one x) (by decide) (by unfold maxLen; omega) (by omega) (by rw [size_alloc]; omega) _ rfl ?_; intro g5 cap5 w5 hown5 hgrow5 _ _; have HO5 := hidOf hown5; have HG5 := hidOf hgrow5; obtain ⟨f5, q5⟩ := RS.keep (HS4.out.more ((Out.refl w4).alloc _)) hgrow5; clear hown5 hgrow5)
                go_roundw
                case rel =>
                  have hm := (HS4.out.more ((Out.refl w4).alloc _)).push (x := x) HG5.out rfl HO5.out
                  have eN : (N ++ [x]).length = N.length + 1 := by simp
                  refine ⟨N ++ [x], s + e + 1, some ⟨g5, 0, none⟩, cap5, by simp, by omega, by omega, hidOf (by rw [szF_snoc, ← HSz.out, Hxl.out]), hidOf Hst.out, hidOf ?_⟩
                  rw [eN]
                  exact hm
                case measure => simp [intOf]; omega
          · rw [decide_eq_false hb0'] at hz
            have Hb := hidOf hb
            have Hb0 := hidOf hb0'
            clear hb hb0'
            go_wp2
            go_roundw
            case rel => exact ⟨e + 1, by simp; omega, by omega, hidOf (fun j hj => by
              by_cases hje : j < e
              · exact HE0.out j hje
              · obtain rfl : j = e := by omega
                exact ⟨b, Hb.out, Hb0.out⟩), trivial⟩
            case measure => simp [intOf]; omega
        · have henI : ¬ (s : Int) + e < n := by omega
          have hte : (twZ m).length = e := by
            have hme : m.length = e := by rw [Hml.out]; omega
            rw [twZ_all (fun j hj => HE0.out j (by omega)), hme]
          have Hee : Hid ((twZ m).length = m.length) := hidOf (by rw [hte, Hml.out]; omega)
          go_upto_region 9 with fail
          obtain ⟨x, hx⟩ : ∃ x, x = twZ m := ⟨_, rfl⟩
          have hxl : x.length = e := by rw [hx]; exact hte
          have hxt : x = m.take e := by rw [hx]; conv => lhs; rw [twZ_take m, hte]
          have hcv : (convert 24 9 (.slice (some ⟨g, off + s, none⟩) e (c - s))).run Try.prog wr = .ok (.string ⟨x.toArray⟩) wr := by
            rw [← hxl]
            exact conv_rest (N := g + 1) (.inr ⟨g, off + s, by omega, rfl, fun k y hy => Hcell.out wr HS.out.out k y (by rw [hxt, List.getElem?_take] at hy; split at hy; exact hy; cases hy)⟩) (c - s)
          have HNm := hidOf (named_any x wr (by omega))
          have Hx := hidOf hx
          have Hxl := hidOf hxl
          have q0 := HS.out.c0
          have g0 := HS.out.f0
          have q1 := HS.out.c1
          clear hxt hxl hx hte
          have hel : ((s : Int) + e == n) = true := by simp; omega
          have Hres : Hid (rdP l = (none, s)) := hidOf (by rw [HRr.out, ← Hm.out, rdR_bad m N Hm0.out (step_bad (.inr (.inl Hee.out))), ← HSz.out])
          cases hok : nameOk x
          · rw [hok] at HNm
            clear hok
            go_wp2_with (go_at_call 80; refine (HNm.out).mono ?_; rintro e' w3 ⟨rfl, hw3⟩; subst hw3)
            refine bodyPost_ret (results_cell3 rfl _ _ w.heap.size 119 #[.slice none 0 0] (0, 0) _ rfl (set_nil HS.out.b0) Try.underlying119 rfl sizeT) rfl ?_
            exact ⟨Chg.out (chg_set _ w.heap.size _) HS.out.out (fun k hk => by omega), .inl ⟨by rw [Hres.out], by rw [Hres.out]; rfl⟩⟩
          · rw [hok] at HNm
            clear hok
            go_wp2_with (go_at_call 80; refine (HNm.out).mono ?_; rintro e' w3 ⟨rfl, hw3⟩; subst hw3)
            refine bodyPost_ret (results_cell3 rfl _ _ w.heap.size 119 #[.slice none 0 0] (0, 0) _ rfl (set_nil HS.out.b0) Try.underlying119 rfl sizeT) rfl ?_
            exact ⟨Chg.out (chg_set _ w.heap.size _) HS.out.out (fun k hk => by omega), .inl ⟨by rw [Hres.out], by rw [Hres.out]; rfl⟩⟩
    · have hltI : ¬ (s : Int) < n := by omega
      have hsn : s = n := by omega
      have Hres : Hid (rdP l = (some N, 0)) := hidOf (by rw [HRr.out, hsn, Hn.out, List.drop_length]; rfl)
      have q0 := HS.out.c0
      have g0 := HS.out.f0
      have q1 := HS.out.c1
      clear hsn
      go_wp2
      refine bodyPost_ret (results_cell3 rfl _ _ w.heap.size 119 #[.slice va N.length vc] (0, 0) _ rfl (set_tab HS.out.b0) Try.underlying119 rfl sizeT) rfl ?_
      have c2 : Chg (fun k => k = w.heap.size) wr (wr.setCell ⟨w.heap.size, 0, none⟩ (.slice va N.length vc)) := chg_set _ _ _
      refine ⟨Chg.out c2 HS.out.out (fun k hk => by omega), .inr ⟨N, va, vc, by rw [Hres.out], rfl, ?_⟩⟩
      exact owns_base (owns_chg HS.out.own (fun k hk e => by have := (HS.out.own.lt k hk).1; omega) c2) (by omega)
/-- the reference's Read -/
theorem rread_any (a : Option Addr) (c : Nat) (l : List UInt8) (w : World) (h : RestAt w.heap.size w a l) (hc : l.length ≤ c) (hl : l.length ≤ 1000000000000) : Calls Try.prog 64 #[.slice a l.length c] w fun e w' => RREnd w l e w' := by
  cases l with
  | nil =>
    refine (rread_empty a c w).mono ?_
    rintro e w' ⟨rfl, ho⟩
    exact ⟨ho, .inl ⟨rfl, rfl⟩⟩
  | cons x r =>
    rcases h with h | ⟨g, off, hg, rfl, hx⟩
    · cases h
    · by_cases h0 : x = 0
      · subst h0
        exact rread_zero g off c r w hg hc hl hx
      · refine (rread_first g off c r.length x w h0 hc (by simpa using hx 0 x rfl)).mono ?_
        rintro e w' ⟨rfl, ho⟩
        have e : rdP (x :: r) = (none, 0) := by simp [rdP, h0]
        exact ⟨ho, .inl ⟨by rw [e], by rw [e]; rfl⟩⟩
end Go.Proofs.Ytlfcjbeldnkkoaa
namespace Go.Proofs.Ytlfcjbeldnkkoaa
open Go.RowKit
set_option linter.unusedVariables false
set_option linter.unusedSimpArgs false
theorem take_sz (N : List (List UInt8)) {k : Nat} {x : List UInt8} (h : N[k]? = some x) : szF 1 (N.take (k + 1)) = szF 1 (N.take k) + x.length + 1 := by
  rw [List.take_add_one, h]
  exact szF_snoc _ _ _
theorem sz_lt (N : List (List UInt8)) : ∀ (j k : Nat), j < k → k ≤ N.length → szF 1 (N.take j) < szF 1 (N.take k)
  | j, 0, h, _ => by omega
  | j, k + 1, h, hk => by
    obtain ⟨x, hx⟩ : ∃ x, N[k]? = some x := ⟨_, List.getElem?_eq_getElem (by omega)⟩
    have h1 := take_sz N hx
    by_cases e : j = k
    · subst e; omega
    · have := sz_lt N j k (by omega) (by omega)
      omega
theorem sz_inj {N : List (List UInt8)} {j k : Nat} (hj : j ≤ N.length) (hk : k ≤ N.length) (h : szF 1 (N.take j) = szF 1 (N.take k)) : j = k := by
  by_cases h1 : j < k
  · have := sz_lt N j k h1 hk; omega
  · by_cases h2 : k < j
    · have := sz_lt N k j h2 hj; omega
    · omega
theorem at_place : ∀ (N : List (List UInt8)) (a : Nat) (p : Int) (x : List UInt8), atF a N p = some x → ∃ k : Nat, N[k]? = some x ∧ p = (szF a (N.take k) : Nat)
  | [], _, _, _, h => by simp [atF] at h
  | y :: r, a, p, x, h => by
    unfold atF at h
    split at h
    · rename_i e
      cases h
      exact ⟨0, rfl, by simp [szF, e]⟩
    · obtain ⟨k, h1, h2⟩ := at_place r _ p x h
      exact ⟨k + 1, by simpa using h1, by rw [h2]; rfl⟩
/-- the name at a place: among the first met of them -/
theorem nm_hit {N : List (List UInt8)} {k : Nat} {x : List UInt8} {here : Int} (hx : N[k]? = some x) (hp : here = (szF 1 (N.take k) : Nat)) : atF 1 N here = some x := by
  rw [hp]; exact atF_end N 1 x k hx
/-- one entry, as the program has it, out of what the reference sees -/
theorem nmG_in {N : List (List UInt8)} {met k : Nat} {x : List UInt8} {e : En} {r : List En} (hm : met ≤ N.length) (hk : k < met) (hx : N[k]? = some x) (hp : e.na = (szF 1 (N.take k) : Nat)) (hl : ¬ (r = [] ∧ x ≠ shN)) : nmG N (szF 1 (N.take met)) (e :: r) = ({ e with nm := x } :: (nmG N (szF 1 (N.take met)) r).1, (nmG N (szF 1 (N.take met)) r).2) := by
  have hlt := sz_lt N k met hk hm
  rw [nmG, nm_hit hx hp]
  simp only
  rw [if_neg (by
    intro h
    rcases h with h | h
    · omega
    · exact hl h), if_neg (by omega)]
theorem nmG_new {N : List (List UInt8)} {met : Nat} {x : List UInt8} {e : En} {r : List En} (hx : N[met]? = some x) (hp : e.na = (szF 1 (N.take met) : Nat)) (hl : ¬ (r = [] ∧ x ≠ shN)) : nmG N (szF 1 (N.take met)) (e :: r) = ({ e with nm := x } :: (nmG N (szF 1 (N.take (met + 1))) r).1, (nmG N (szF 1 (N.take (met + 1))) r).2) := by
  rw [nmG, nm_hit hx hp]
  simp only
  rw [if_neg (by
    intro h
    rcases h with h | h
    · omega
    · exact hl h), if_pos hp, ← take_sz N hx]
theorem nmG_last {N : List (List UInt8)} {b k : Nat} {x : List UInt8} {e : En} (hx : N[k]? = some x) (hp : e.na = (szF 1 (N.take k) : Nat)) (hne : x ≠ shN) : (nmG N b [e]).2.2 = some e.pl := by
  rw [nmG, nm_hit hx hp]
  simp only
  rw [if_pos (.inr (by first | exact ⟨rfl, hne⟩ | exact ⟨trivial, hne⟩))]
theorem nmG_out {N : List (List UInt8)} {met : Nat} {e : En} {r : List En} (hm : met ≤ N.length) (hno : ∀ j, j < met → ¬ e.na = (szF 1 (N.take j) : Nat)) (hnb : e.na = (szF 1 (N.take met) : Nat) → ¬ met < N.length) : (nmG N (szF 1 (N.take met)) (e :: r)).2.2 = some e.pl := by
  rw [nmG]
  cases ha : atF 1 N e.na with
  | none => rfl
  | some x =>
    obtain ⟨k, h1, h2⟩ := at_place N 1 _ x ha
    have hkl := (List.getElem?_eq_some_iff.1 h1).1
    have hk : ¬ k < met := fun h => hno k h h2
    have hb : ((szF 1 (N.take met) : Nat) : Int) < e.na := by
      by_cases e1 : k = met
      · exact absurd hkl (by subst e1; exact hnb h2)
      · have := sz_lt N met k (by omega) (by omega)
        omega
    simp only
    rw [if_pos (.inl hb)]
/-- where an entry comes from -/
theorem tk_atR (l : List UInt8) (T : Nat) : ∀ (k place begin : Nat) (R : List En), TkOk l T k place begin R → ∀ (i : Nat) (e : En), R[i]? = some e → ∃ bg : Nat, e = enP (rowB l (place + 64 * i)) ((place + 64 * i : Nat) : Int) bg ∧ fltF (rowB l (place + 64 * i)) 0 (rowW T l.length (place + 64 * i) bg).fds = none
  | 0, _, _, R, h, i, e, he => by have h : R = [] := h; rw [h] at he; simp at he
  | k + 1, place, begin, R, ⟨m, R', hf, _, _, h, h2⟩, i, e, he => by
    rw [h] at he
    cases i with
    | zero =>
      simp at he
      exact ⟨begin, by rw [← he]; rfl, hf⟩
    | succ i =>
      obtain ⟨bg, h3, h4⟩ := tk_atR l T k _ _ R' h2 i e (by simpa using he)
      refine ⟨bg, ?_, ?_⟩
      · rw [h3, show place + 64 + 64 * i = place + 64 * (i + 1) by omega]
      · rw [show place + 64 * (i + 1) = place + 64 + 64 * i by omega]; exact h4
theorem fld_of (b : List UInt8) (row o w : Nat) (h : o + w ≤ 64) (hs : fB b (row + o) w ≤ 9223372036854775807) : fldI (rowB b row) o w = (fB b (row + o) w : Nat) := by
  unfold fldI
  rw [rowB_fld b row o w h]
  unfold wrap64
  omega
theorem Rdg.na {b : List UInt8} {T k : Nat} {E : List En} {nb : En} (r : Rdg b T k E nb) {i : Nat} {e : En} (he : E[i]? = some e) : e.na = (fB b (T + 64 * i) 4 : Nat) ∧ e.pl = ((T + 64 * i : Nat) : Int) := by
  obtain ⟨bg, h1, _⟩ := tk_atR b T k T 64 E r.ok i e he
  rw [h1]
  refine ⟨?_, rfl⟩
  show fldI (rowB b (T + 64 * i)) 0 4 = _
  rw [fld_of b (T + 64 * i) 0 4 (by omega) (by have := fB_lt b (T + 64 * i + 0) 4 (by omega); omega)]
  rfl
end Go.Proofs.Ytlfcjbeldnkkoaa
namespace Go.Proofs.Ytlfcjbeldnkkoaa
open Go.RowKit
set_option linter.unusedVariables false
set_option linter.unusedSimpArgs false
/-- what named answers -/
def NmE (w : World) (b : List UInt8) (E : List En) (B0 E1 n : Nat) (e : Ending) (w' : World) : Prop := Out w w' ∧ (((tnR b E B0 E1).2.1 = true ∧ e = .returned (.tuple #[.slice none 0 0, .int .i64 (tnR b E B0 E1).1])) ∨ ((tnR b E B0 E1).2.1 = false ∧ ∃ a c, e = .returned (.tuple #[.slice a n c, .int .i64 (-1)]) ∧ OwS w.heap.size (.slice a n c) (((tnR b E B0 E1).2.2.drop 1).map En.nm) w' ∧ ((tnR b E B0 E1).2.2.drop 1).length = n))
theorem tn_bad {b : List UInt8} {E : List En} {B0 sz : Nat} (h : (rdP ((b.drop B0).take sz)).1 = none) : tnR b E B0 (B0 + sz) = ((B0 : Int) + ((rdP ((b.drop B0).take sz)).2 : Nat), true, []) := by
  unfold tnR; rw [show B0 + sz - B0 = sz by omega, h]
theorem tn_fault {b : List UInt8} {E : List En} {B0 sz : Nat} {N : List (List UInt8)} {pl : Int} (h : (rdP ((b.drop B0).take sz)).1 = some N) (h2 : (nmG N 1 (E.drop 1)).2.2 = some pl) : tnR b E B0 (B0 + sz) = (pl, true, []) := by
  unfold tnR; rw [show B0 + sz - B0 = sz by omega, h]; simp only [h2]
theorem tn_end {b : List UInt8} {E : List En} {B0 sz : Nat} {N : List (List UInt8)} (h : (rdP ((b.drop B0).take sz)).1 = some N) (h2 : (nmG N 1 (E.drop 1)).2.2 = none) : tnR b E B0 (B0 + sz) = ((B0 : Int) + ((nmG N 1 (E.drop 1)).2.1 : Nat), decide (B0 + (nmG N 1 (E.drop 1)).2.1 < B0 + sz), E.take 1 ++ (nmG N 1 (E.drop 1)).1) := by
  unfold tnR; rw [show B0 + sz - B0 = sz by omega, h]; simp only [h2]
theorem NmE.bad {w w' : World} {b : List UInt8} {E : List En} {B0 E1 n : Nat} {z : Int} {X : List En} (o : Out w w') (h : tnR b E B0 E1 = (z, true, X)) : NmE w b E B0 E1 n (.returned (.tuple #[.slice none 0 0, .int .i64 z])) w' := ⟨o, .inl (by rw [h]; exact ⟨rfl, rfl⟩)⟩
def spO (x : Nat × Nat) : Obj := .cells #[.int .i64 (x.1 : Int), .int .i64 (x.2 : Int)] 90
theorem drop_cons {E : List En} {i : Nat} {e : En} (h : E[i]? = some e) : E.drop i = e :: E.drop (i + 1) := by
  obtain ⟨hi, hx⟩ := List.getElem?_eq_some_iff.1 h
  rw [List.drop_eq_getElem_cons hi, hx]
set_option maxRecDepth 20000 in
set_option maxHeartbeats 8000000 in
theorem named9_bad (w : World) (g off c : Nat) (b : List UInt8) (hg : g < w.heap.size) (hb : BAt w g off b) (hc : b.length ≤ c) (hl : b.length ≤ 1000000000000) (T k : Nat) (E : List En) (nb : En) (r : Rdg b T k E nb) (hk : HdOk b T k) (B : Nat) (a : Option Addr) (ca : Nat) (K : Nat) (hKk : k = K + 2) (hS : OwSp B (.slice a (K + 1) ca) (spsE E) w) (hSl : (spsE E).length = K + 1) (hSc : K + 1 ≤ ca) (B0 sz : Nat) (hB0 : nb.bg = (B0 : Int)) (hE1 : nb.en = ((B0 + sz : Nat) : Int)) (hN : (rdP ((b.drop B0).take sz)).1 = none) :
    Calls Try.prog 37 #[.slice (some ⟨g, off, none⟩) b.length c, .slice a (K + 1) ca] w fun e w' => NmE w b E B0 (B0 + sz) (K + 1) e w' := by
  obtain ⟨j0, ji, jz0, jz1, jz2⟩ := info_parts infoStr
  have k18 := r.k18
  have hnb := r.all nb (List.mem_of_getElem? r.last)
  have hE1b : B0 + sz ≤ b.length := by have := hnb.en; have := r.hk; omega
  have hcB : ¬ c = B0 := by have := hnb.en; have := r.hk; omega
  have hlastS : (spsE E)[K]? = some (B0, sz) := by
    unfold spsE
    rw [List.getElem?_map, List.getElem?_drop, show 1 + K = E.length - 1 by rw [r.len]; omega, r.last]
    simp [spE, hB0, hE1]
    omega
  obtain ⟨ga, rfl, q0, q1⟩ := OwSp.cells hS hlastS
  have hsub : B0 + sz - B0 = sz := by omega
  have hlsl : (((b.drop B0).take sz).length) = sz := by rw [List.length_take, List.length_drop]; omega
  have HB := hidOf hb
  have Hr := hidOf r
  have Hlsl := hidOf hlsl
  have HKk := hidOf hKk
  have Hsub := hidOf hsub
  have hKc : (K : Int) + 1 ≤ ca := by omega
  have hK18 : (K : Int) ≤ 16 := by omega
  have hE1I : (B0 : Int) + sz ≤ c := by omega
  have hE1J : (B0 : Int) + sz ≤ b.length := by omega
  have hlI : (b.length : Int) ≤ 1000000000000 := by omega
  have hs0 : (0 : Int) ≤ sz := by omega
  have hb0 : (0 : Int) ≤ B0 := by omega
  have CR : Hid (∀ wx, Out w wx → Calls Try.prog 64 #[.slice (some ⟨g, off + B0, none⟩) sz (c - B0)] wx fun e w' => RREnd wx ((b.drop B0).take sz) e w') := hidOf (fun wx o => by
    have h := rread_any (some ⟨g, off + B0, none⟩) (c - B0) ((b.drop B0).take sz) wx (((hb.out hg o).cut B0 sz).rest (Nat.lt_of_lt_of_le hg o.size)) (by rw [hlsl]; omega) (by rw [hlsl]; omega)
    rw [hlsl] at h
    exact h)
  have C40 : Hid (∀ wx, Out w wx → Calls Try.prog 38 #[.slice (some ⟨g, off, none⟩) b.length c, .int .i64 40, .int .i64 8] wx fun e w' => e = .returned (.int .i64 (T : Int)) ∧ w' = wx) := hidOf (fun wx o => by
    have h := at9_any wx g off c b (hb.out hg o) hc hl 40 8 (by omega) (by have := r.hk; have := r.hT; omega)
    rw [hk.t] at h
    exact h)
  have C4 : Hid (∀ wx, Out w wx → ∀ row : Nat, row + 64 ≤ b.length → Calls Try.prog 38 #[.slice (some ⟨g, off, none⟩) b.length c, .int .i64 (row : Int), .int .i64 4] wx fun e w' => e = .returned (.int .i64 (fB b row 4 : Nat)) ∧ w' = wx) := hidOf (fun wx o row hr => by
    have h := at9_any wx g off c b (hb.out hg o) hc hl row 4 (by omega) (by omega)
    rw [atP4] at h
    exact h)
  have O1 := hidOf ((Out.refl w).alloc (spO (B0, sz)))
  have hTI : (T : Int) ≤ 1000000000000 := by have := r.hk; omega
  have hT0 : (0 : Int) ≤ T := by omega
  clear hb r hk hS hlsl hlastS hnb hB0 hE1 hsub hKk k18
  have HT := hidOf (tn_bad (E := E) hN)
  have CR2 : Hid (∀ wx, Out w wx → Calls Try.prog 64 #[.slice (some ⟨g, off + B0, none⟩) sz (c - B0)] wx fun e w' => e = .returned (.tuple #[.agg #[.slice none 0 0], .int .i64 ((rdP ((b.drop B0).take sz)).2 : Nat), .int .i64 80]) ∧ Out wx w') := hidOf (fun wx o => (CR.out wx o).mono (fun e w' h => by
    obtain ⟨ho, ⟨_, he⟩ | ⟨N, a, c, hs, _⟩⟩ := h
    · exact ⟨he, ho⟩
    · rw [hN] at hs; cases hs))
  have hrp : (rdP ((b.drop B0).take sz)).2 ≤ 1000000000001 := by have := rdP_le ((b.drop B0).take sz); have := Hlsl.out; omega
  generalize (rdP ((b.drop B0).take sz)).2 = rp at *
  have hrpI : (rp : Int) ≤ 1000000000001 := by omega
  have hrp0 : (0 : Int) ≤ rp := by omega
  clear CR hN C4 C40
  go_enter Try.func37, Try.ntmps37
  go_upto_region 2 with fail
  have c60 : (w.alloc (spO (B0, sz))).cell? ⟨w.heap.size, 0, none⟩ = some (.int .i64 (B0 : Int)) := by unfold spO; rw [cell_fresh _ _ _ _ _ rfl]; rfl
  have c61 : (w.alloc (spO (B0, sz))).cell? ⟨w.heap.size, 1, none⟩ = some (.int .i64 (sz : Int)) := by unfold spO; rw [cell_fresh _ _ _ _ _ rfl]; rfl
  show Code.wp _ _ _ _ (w.alloc (spO (B0, sz)))
  have h6 : w.heap.size < (w.alloc (spO (B0, sz))).heap.size := by rw [size_alloc]; omega
  generalize w.alloc (spO (B0, sz)) = w1 at *
  generalize w.heap.size = q6 at *
  go_upto_region 3 with (go_at_call 64; refine (CR2.out w1 O1.out).mono ?_; rintro e w2 ⟨rfl, ho⟩; have O2 := hidOf ho; have d60 := cell_later ho c60; clear ho)
  have O3 : Hid (Out w (w2.alloc (.cells #[.slice none 0 0] 119))) := hidOf ((O1.out.trans O2.out).alloc _)
  have b6 := cell_later ((Out.refl w2).alloc (.cells #[.slice none 0 0] 119)) d60
  generalize w2.alloc (.cells #[.slice none 0 0] 119) = w3 at *
  clear c60 c61 d60
  go_upto_region 4 with fail
  go_quiet (fail)
  go_wp2
  go_ret2
  exact NmE.bad (O3.out.drewN _) (by rw [HT.out])
end Go.Proofs.Ytlfcjbeldnkkoaa
