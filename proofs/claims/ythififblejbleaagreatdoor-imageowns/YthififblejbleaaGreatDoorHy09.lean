import Derived.Test.YthififblejbleaaGreatDoorHy08
import Derived.Laws.CopyRow
import Derived.Laws.IdiomCopy
namespace Go.Proofs.YthififblejbleaaGreatDoor
open Go.RowKit
set_option linter.unusedVariables false
set_option linter.unusedSimpArgs false
theorem split_atK {α : Type} (L : List α) (i : Nat) (x : α) (h : L[i]? = some x) : L = L.take i ++ (x :: L.drop (i + 1)) := by
  have hk : i < L.length := (List.getElem?_eq_some_iff.1 h).1
  have hd := List.drop_eq_getElem_cons hk
  have hx' : L[i] = x := by rw [List.getElem?_eq_getElem hk] at h; exact Option.some.inj h
  rw [hx'] at hd
  rw [← hd, List.take_append_drop]
theorem flat_len {α : Type} (f : α → List Value) (c : Nat) (hf : ∀ x, (f x).length = c) (L : List α) : (L.flatMap f).length = L.length * c := by
  induction L with
  | nil => simp
  | cons x r ih => rw [List.flatMap_cons, List.length_append, hf, ih, List.length_cons, Nat.succ_mul]; omega
theorem flat_get {α : Type} (f : α → List Value) (c : Nat) (hf : ∀ x, (f x).length = c) {L : List α} {i j : Nat} {x : α} {u : Value} (hx : L[i]? = some x) (hu : (f x)[j]? = some u) : (L.flatMap f)[i * c + j]? = some u := by
  have hi : i < L.length := (List.getElem?_eq_some_iff.1 hx).1
  have hj : j < c := by have := (List.getElem?_eq_some_iff.1 hu).1; rw [hf] at this; exact this
  have hl : ((L.take i).flatMap f).length = i * c := by rw [flat_len f c hf, List.length_take, Nat.min_eq_left (by omega)]
  conv => lhs; rw [split_atK L i x hx]
  rw [List.flatMap_append, List.flatMap_cons, List.getElem?_append_right (by omega), List.getElem?_append_left (by rw [hf]; omega), hl, show i * c + j - i * c = j by omega]
  exact hu
theorem flat_of {α : Type} (f : α → List Value) (c : Nat) (hf : ∀ x, (f x).length = c) {L : List α} {j : Nat} {u : Value} (h : (L.flatMap f)[j]? = some u) : ∃ k x i, L[k]? = some x ∧ j = k * c + i ∧ (f x)[i]? = some u := by
  induction L generalizing j with
  | nil => simp at h
  | cons x r ih =>
    rw [List.flatMap_cons] at h
    by_cases hj : j < c
    · rw [List.getElem?_append_left (by rw [hf]; exact hj)] at h
      exact ⟨0, x, j, rfl, by omega, h⟩
    · rw [List.getElem?_append_right (by rw [hf]; omega), hf] at h
      obtain ⟨k, y, i, h1, h2, h3⟩ := ih h
      exact ⟨k + 1, y, i, by simpa using h1, by rw [Nat.succ_mul]; omega, h3⟩
set_option maxRecDepth 20000 in
theorem run_copy_row (w : World) (ty t e : TypeId) (i0 : TypeInfo) (c : Nat) (ht : Tryz.prog.underlying t = some (.slice e)) (hi : Tryz.prog.info? e = some i0) (hz1 : i0.size = c) (g dLen dCap : Nat) (a : Option Addr) (n cp : Nat) (V V2 : List Value) (hg : w.heap[g]? = some (.cells V.toArray e (0, 0))) (hn : V2.length = n * c) (hA : V2 = [] ∧ n = 0 ∨ ∃ ad, a = some ad ∧ ∀ j u, V2[j]? = some u → w.cell? (ad.add j) = some u) (h1 : n ≤ dLen) (h2 : n * c ≤ V.length) (hone : ∀ u ∈ V2, u.oneCell' = true) :
    ∃ w', (Builtin.copy_ #[t, t] ty #[.slice (some ⟨g, 0, none⟩) dLen dCap, .slice a n cp]).run Tryz.prog w = .ok (.int .i64 n) w' ∧ w'.heap[g]? = some (.cells (V2 ++ V.drop (n * c)).toArray e (0, 0)) ∧ Chg (fun k => k = g) w w' := by
  have hmin : Nat.min n dLen = n := Nat.min_eq_left h1
  rcases hA with ⟨rfl, rfl⟩ | ⟨ad, rfl, hcells⟩
  · refine ⟨w, ?_, by simpa using hg, Chg.refl _ _⟩
    simp [Builtin.copy_, run_underlying ht, Builtin.lenOf, Builtin.firstCells, sizeOf, typeInfo, hi, storeCells, loadCells, loadCellsFrom, goInt]
    all_goals (cases a <;> simp [loadCells, loadCellsFrom, storeCells])
  · have hl := run_loadCells_list (P := Tryz.prog) w ad V2 hcells
    rw [hn] at hl
    have hst := run_storeCells_at Tryz.prog g 0 e V2 0 V.toArray w hg (by simp; omega) hone
    refine ⟨w.setRow g (V2 ++ V.drop (n * c)).toArray, ?_, ?_, ?_⟩
    · have e1 : (V.toArray.toList.take (0 + 0) ++ V2 ++ V.toArray.toList.drop (0 + 0 + V2.length)).toArray = (V2 ++ V.drop (n * c)).toArray := by
        congr 1
        simp only [Nat.add_zero, List.take_zero, List.nil_append, Nat.zero_add, hn]
      rw [e1] at hst
      simp [Builtin.copy_, run_underlying ht, Builtin.lenOf, Builtin.firstCells, sizeOf, typeInfo, hi, hz1, hmin, hl, hst, goInt]
    · exact setRow_heap w g _ _ _ _ hg
    · exact ⟨rfl, rfl, rfl, by simp [World.setRow], fun k hk hs => setRow_other w g k _ hs⟩
theorem owns_void17 (w : World) (B size : Nat) (e : TypeId) (hB : B ≤ w.heap.size) : (w.alloc (.cells #[] e)).ownsRow B e size (.slice (some ⟨w.heap.size, 0, none⟩) 0 0) 0 [] :=
  ⟨by simp, .inr ⟨w.heap.size, 0, #[], rfl, hB, heap_alloc_new w _, Nat.le_refl _, by decide, by simp, by simp⟩⟩
theorem blk_setR {w : World} {q : Nat} {cs : Array Value} {t : TypeId} (h : w.heap[q]? = some (.cells cs t (0, 0))) (k : Nat) (v : Value) : (w.setCell ⟨q, k, none⟩ v).heap[q]? = some (.cells (cs.setIfInBounds k v) t (0, 0)) := set_atL h k v
def csI (x : Ins) : List Value := [.int .i64 x.o, .int .i64 x.d, .int .i64 x.s, .int .i64 x.f, .int .i64 x.i]
def rowI (L : List Ins) : List Value := L.flatMap csI
theorem csI_len (x : Ins) : (csI x).length = 5 := rfl
theorem rowI_len (L : List Ins) : (rowI L).length = L.length * 5 := flat_len _ _ csI_len L
theorem rowI_one (L : List Ins) : ∀ u ∈ rowI L, u.oneCell' = true := by
  intro u hu
  obtain ⟨x, hx, hu⟩ := List.mem_flatMap.1 hu
  simp only [csI, List.mem_cons, List.not_mem_nil, or_false] at hu
  rcases hu with rfl | rfl | rfl | rfl | rfl <;> rfl
theorem infoI17 : (Tryz.prog.info? 67).map (fun i => (i.zero, i.size, i.bytes)) = some (some (.agg #[.int .i64 0, .int .i64 0, .int .i64 0, .int .i64 0, .int .i64 0]), 5, 40) := by kernel_rfl
theorem InsA.flat {w : World} {b off : Nat} {l : List Ins} (h : InsA w (some ⟨b, off, none⟩) l) : ∀ j u, (rowI l)[j]? = some u → w.cell? ((⟨b, off, none⟩ : Addr).add j) = some u := by
  intro j u hu
  obtain ⟨k, x, i, hx, rfl, hv⟩ := flat_of _ _ csI_len hu
  clear hu
  rcases h with rfl | ⟨b', off', he, hc⟩
  · simp at hx
  cases he
  obtain ⟨c0, c1, c2, c3, c4⟩ := hc k x hx
  rw [WideShapes.add_plain, ← Nat.add_assoc]
  have hi : i < 5 := by have := (List.getElem?_eq_some_iff.1 hv).1; rw [csI_len] at this; exact this
  match i, hi, hv with
  | 0, _, hu => cases hu; exact c0
  | 1, _, hu => cases hu; exact c1
  | 2, _, hu => cases hu; exact c2
  | 3, _, hu => cases hu; exact c3
  | 4, _, hu => cases hu; exact c4
set_option maxHeartbeats 800000 in
theorem copyI17 (w : World) (a : Option Addr) (n cap : Nat) (l : List Ins) (hn : l.length = n) (hi : InsA w a l) (hm : n ≤ 2900000000000) : Calls Tryz.prog 70 #[.slice a n cap] w fun e w' => ∃ a' c', e = .returned (.slice a' n c') ∧ w'.ownsRow w.heap.size 67 5 (.slice a' n c') n (rowI l) ∧ Out w w' := by
  obtain ⟨i0, hi0, hz0, hz1, hz2⟩ := info_parts infoI17
  have H0 := hidOf (owns_void17 w w.heap.size 5 67 (Nat.le_refl _))
  rcases hi with rfl | ⟨b, off, rfl, hc⟩
  · obtain rfl : n = 0 := by simpa using hn.symm
    cases a with
    | none =>
      go_enter Tryz.func70, Tryz.ntmps70
      go_wp2
      go_ret
      exact ⟨_, _, rfl, H0.out, Out.alloc (Out.refl _) _⟩
    | some ad =>
      go_enter Tryz.func70, Tryz.ntmps70
      go_wp2_with (at_builtin; refine wpList_append_own _ rfl (.tmp 3) (.tmp 4) 22 rfl w.heap.size 67 i0 _ 5 40 Tryz.underlying22 hi0 hz0 hz1 hz2 rfl (by decide) (.slice (some ⟨w.heap.size, 0, none⟩) 0 0) 0 [] rfl H0.out ad 0 cap [] rfl rfl (fun j u hu => by simp at hu) (fun u hu => by cases hu) (by unfold maxLen; omega) (by omega) (by rw [size_alloc]; omega) ?_; intro v3 w3 hown3 hgrow3 _; have HN := hidOf hown3; have H3 := hidOf (Chg.out (S := fun k => k = w.heap.size) (Chg.of_grown hgrow3 (fun k h => (Option.some.inj h).symm)) (Out.alloc (Out.refl w) _) (fun k hk => by omega)); obtain ⟨a3, c3, rfl⟩ := own_form hown3; clear hown3 hgrow3)
      go_ret
      exact ⟨_, _, rfl, HN.out, H3.out⟩
  · have HC : Hid (∀ j u, (rowI l)[j]? = some u → (w.alloc (.cells #[] 67)).cell? ((⟨b, off, none⟩ : Addr).add j) = some u) := hidOf (fun j u hu => cell_later ((Out.refl w).alloc _) (InsA.flat (.inr ⟨b, off, rfl, hc⟩) j u hu))
    clear hc
    go_enter Tryz.func70, Tryz.ntmps70
    go_wp2_with (at_builtin; refine wpList_append_own _ rfl (.tmp 3) (.tmp 4) 22 rfl w.heap.size 67 i0 _ 5 40 Tryz.underlying22 hi0 hz0 hz1 hz2 rfl (by decide) (.slice (some ⟨w.heap.size, 0, none⟩) 0 0) 0 [] rfl H0.out ⟨b, off, none⟩ n cap (rowI l) rfl (by rw [rowI_len, hn]) HC.out (rowI_one l) (by unfold maxLen; omega) (by omega) (by rw [size_alloc]; omega) ?_; intro v3 w3 hown3 hgrow3 _; rw [Nat.zero_add, List.nil_append] at hown3; have HN := hidOf hown3; have H3 := hidOf (Chg.out (S := fun k => k = w.heap.size) (Chg.of_grown hgrow3 (fun k h => (Option.some.inj h).symm)) (Out.alloc (Out.refl w) _) (fun k hk => by omega)); obtain ⟨a3, c3, rfl⟩ := own_form hown3; clear hown3 hgrow3)
    go_ret
    exact ⟨_, _, rfl, HN.out, H3.out⟩
def csF (x : Fn) : List Value := [.string ⟨x.nm.toArray⟩, .int .i64 x.ob, .int .i64 x.fi, .int .i64 x.ct]
def rowF (L : List Fn) : List Value := L.flatMap csF
theorem csF_len (x : Fn) : (csF x).length = 4 := rfl
theorem rowF_len (L : List Fn) : (rowF L).length = L.length * 4 := flat_len _ _ csF_len L
theorem rowF_one (L : List Fn) : ∀ u ∈ rowF L, u.oneCell' = true := by
  intro u hu
  obtain ⟨x, hx, hu⟩ := List.mem_flatMap.1 hu
  simp only [csF, List.mem_cons, List.not_mem_nil, or_false] at hu
  rcases hu with rfl | rfl | rfl | rfl <;> rfl
theorem infoF17 : (Tryz.prog.info? 69).map (fun i => (i.zero, i.size, i.bytes)) = some (some (.agg #[.string ⟨#[]⟩, .int .i64 0, .int .i64 0, .int .i64 0]), 4, 40) := by kernel_rfl
theorem FnA.flat {w : World} {b off : Nat} {l : List Fn} (h : FnA w (some ⟨b, off, none⟩) l) : ∀ j u, (rowF l)[j]? = some u → w.cell? ((⟨b, off, none⟩ : Addr).add j) = some u := by
  intro j u hu
  obtain ⟨k, x, i, hx, rfl, hv⟩ := flat_of _ _ csF_len hu
  clear hu
  rcases h with rfl | ⟨b', off', he, hc⟩
  · simp at hx
  cases he
  obtain ⟨c0, c1, c2, c3⟩ := hc k x hx
  rw [WideShapes.add_plain, ← Nat.add_assoc]
  have hi : i < 4 := by have := (List.getElem?_eq_some_iff.1 hv).1; rw [csF_len] at this; exact this
  match i, hi, hv with
  | 0, _, hu => cases hu; exact c0
  | 1, _, hu => cases hu; exact c1
  | 2, _, hu => cases hu; exact c2
  | 3, _, hu => cases hu; exact c3
set_option maxHeartbeats 800000 in
theorem copyF17 (w : World) (a : Option Addr) (n cap : Nat) (l : List Fn) (hn : l.length = n) (hi : FnA w a l) (hm : n ≤ 2900000000000) : Calls Tryz.prog 71 #[.slice a n cap] w fun e w' => ∃ a' c', e = .returned (.slice a' n c') ∧ w'.ownsRow w.heap.size 69 4 (.slice a' n c') n (rowF l) ∧ Out w w' := by
  obtain ⟨i0, hi0, hz0, hz1, hz2⟩ := info_parts infoF17
  have H0 := hidOf (owns_void17 w w.heap.size 4 69 (Nat.le_refl _))
  rcases hi with rfl | ⟨b, off, rfl, hc⟩
  · obtain rfl : n = 0 := by simpa using hn.symm
    cases a with
    | none =>
      go_enter Tryz.func71, Tryz.ntmps71
      go_wp2
      go_ret
      exact ⟨_, _, rfl, H0.out, Out.alloc (Out.refl _) _⟩
    | some ad =>
      go_enter Tryz.func71, Tryz.ntmps71
      go_wp2_with (at_builtin; refine wpList_append_own _ rfl (.tmp 3) (.tmp 4) 23 rfl w.heap.size 69 i0 _ 4 40 Tryz.underlying23 hi0 hz0 hz1 hz2 rfl (by decide) (.slice (some ⟨w.heap.size, 0, none⟩) 0 0) 0 [] rfl H0.out ad 0 cap [] rfl rfl (fun j u hu => by simp at hu) (fun u hu => by cases hu) (by unfold maxLen; omega) (by omega) (by rw [size_alloc]; omega) ?_; intro v3 w3 hown3 hgrow3 _; have HN := hidOf hown3; have H3 := hidOf (Chg.out (S := fun k => k = w.heap.size) (Chg.of_grown hgrow3 (fun k h => (Option.some.inj h).symm)) (Out.alloc (Out.refl w) _) (fun k hk => by omega)); obtain ⟨a3, c3, rfl⟩ := own_form hown3; clear hown3 hgrow3)
      go_ret
      exact ⟨_, _, rfl, HN.out, H3.out⟩
  · have HC : Hid (∀ j u, (rowF l)[j]? = some u → (w.alloc (.cells #[] 69)).cell? ((⟨b, off, none⟩ : Addr).add j) = some u) := hidOf (fun j u hu => cell_later ((Out.refl w).alloc _) (FnA.flat (.inr ⟨b, off, rfl, hc⟩) j u hu))
    clear hc
    go_enter Tryz.func71, Tryz.ntmps71
    go_wp2_with (at_builtin; refine wpList_append_own _ rfl (.tmp 3) (.tmp 4) 23 rfl w.heap.size 69 i0 _ 4 40 Tryz.underlying23 hi0 hz0 hz1 hz2 rfl (by decide) (.slice (some ⟨w.heap.size, 0, none⟩) 0 0) 0 [] rfl H0.out ⟨b, off, none⟩ n cap (rowF l) rfl (by rw [rowF_len, hn]) HC.out (rowF_one l) (by unfold maxLen; omega) (by omega) (by rw [size_alloc]; omega) ?_; intro v3 w3 hown3 hgrow3 _; rw [Nat.zero_add, List.nil_append] at hown3; have HN := hidOf hown3; have H3 := hidOf (Chg.out (S := fun k => k = w.heap.size) (Chg.of_grown hgrow3 (fun k h => (Option.some.inj h).symm)) (Out.alloc (Out.refl w) _) (fun k hk => by omega)); obtain ⟨a3, c3, rfl⟩ := own_form hown3; clear hown3 hgrow3)
    go_ret
    exact ⟨_, _, rfl, HN.out, H3.out⟩
def csD (x : Td) : List Value := [.string ⟨x.nm.toArray⟩, .int .i64 x.kd, .int .i64 x.ky, .int .i64 x.vl, .int .i64 x.en]
def rowD (L : List Td) : List Value := L.flatMap csD
theorem csD_len (x : Td) : (csD x).length = 5 := rfl
theorem rowD_len (L : List Td) : (rowD L).length = L.length * 5 := flat_len _ _ csD_len L
theorem rowD_one (L : List Td) : ∀ u ∈ rowD L, u.oneCell' = true := by
  intro u hu
  obtain ⟨x, hx, hu⟩ := List.mem_flatMap.1 hu
  simp only [csD, List.mem_cons, List.not_mem_nil, or_false] at hu
  rcases hu with rfl | rfl | rfl | rfl | rfl <;> rfl
theorem infoD17 : (Tryz.prog.info? 72).map (fun i => (i.zero, i.size, i.bytes)) = some (some (.agg #[.string ⟨#[]⟩, .int .i64 0, .int .i64 0, .int .i64 0, .int .i64 0]), 5, 48) := by kernel_rfl
theorem TdA.flat {w : World} {b off : Nat} {l : List Td} (h : TdA w (some ⟨b, off, none⟩) l) : ∀ j u, (rowD l)[j]? = some u → w.cell? ((⟨b, off, none⟩ : Addr).add j) = some u := by
  intro j u hu
  obtain ⟨k, x, i, hx, rfl, hv⟩ := flat_of _ _ csD_len hu
  clear hu
  rcases h with rfl | ⟨b', off', he, hc⟩
  · simp at hx
  cases he
  obtain ⟨c0, c1, c2, c3, c4⟩ := hc k x hx
  rw [WideShapes.add_plain, ← Nat.add_assoc]
  have hi : i < 5 := by have := (List.getElem?_eq_some_iff.1 hv).1; rw [csD_len] at this; exact this
  match i, hi, hv with
  | 0, _, hu => cases hu; exact c0
  | 1, _, hu => cases hu; exact c1
  | 2, _, hu => cases hu; exact c2
  | 3, _, hu => cases hu; exact c3
  | 4, _, hu => cases hu; exact c4
set_option maxHeartbeats 800000 in
theorem copyD17 (w : World) (a : Option Addr) (n cap : Nat) (l : List Td) (hn : l.length = n) (hi : TdA w a l) (hm : n ≤ 2900000000000) : Calls Tryz.prog 72 #[.slice a n cap] w fun e w' => ∃ a' c', e = .returned (.slice a' n c') ∧ w'.ownsRow w.heap.size 72 5 (.slice a' n c') n (rowD l) ∧ Out w w' := by
  obtain ⟨i0, hi0, hz0, hz1, hz2⟩ := info_parts infoD17
  have H0 := hidOf (owns_void17 w w.heap.size 5 72 (Nat.le_refl _))
  rcases hi with rfl | ⟨b, off, rfl, hc⟩
  · obtain rfl : n = 0 := by simpa using hn.symm
    cases a with
    | none =>
      go_enter Tryz.func72, Tryz.ntmps72
      go_wp2
      go_ret
      exact ⟨_, _, rfl, H0.out, Out.alloc (Out.refl _) _⟩
    | some ad =>
      go_enter Tryz.func72, Tryz.ntmps72
      go_wp2_with (at_builtin; refine wpList_append_own _ rfl (.tmp 3) (.tmp 4) 24 rfl w.heap.size 72 i0 _ 5 48 Tryz.underlying24 hi0 hz0 hz1 hz2 rfl (by decide) (.slice (some ⟨w.heap.size, 0, none⟩) 0 0) 0 [] rfl H0.out ad 0 cap [] rfl rfl (fun j u hu => by simp at hu) (fun u hu => by cases hu) (by unfold maxLen; omega) (by omega) (by rw [size_alloc]; omega) ?_; intro v3 w3 hown3 hgrow3 _; have HN := hidOf hown3; have H3 := hidOf (Chg.out (S := fun k => k = w.heap.size) (Chg.of_grown hgrow3 (fun k h => (Option.some.inj h).symm)) (Out.alloc (Out.refl w) _) (fun k hk => by omega)); obtain ⟨a3, c3, rfl⟩ := own_form hown3; clear hown3 hgrow3)
      go_ret
      exact ⟨_, _, rfl, HN.out, H3.out⟩
  · have HC : Hid (∀ j u, (rowD l)[j]? = some u → (w.alloc (.cells #[] 72)).cell? ((⟨b, off, none⟩ : Addr).add j) = some u) := hidOf (fun j u hu => cell_later ((Out.refl w).alloc _) (TdA.flat (.inr ⟨b, off, rfl, hc⟩) j u hu))
    clear hc
    go_enter Tryz.func72, Tryz.ntmps72
    go_wp2_with (at_builtin; refine wpList_append_own _ rfl (.tmp 3) (.tmp 4) 24 rfl w.heap.size 72 i0 _ 5 48 Tryz.underlying24 hi0 hz0 hz1 hz2 rfl (by decide) (.slice (some ⟨w.heap.size, 0, none⟩) 0 0) 0 [] rfl H0.out ⟨b, off, none⟩ n cap (rowD l) rfl (by rw [rowD_len, hn]) HC.out (rowD_one l) (by unfold maxLen; omega) (by omega) (by rw [size_alloc]; omega) ?_; intro v3 w3 hown3 hgrow3 _; rw [Nat.zero_add, List.nil_append] at hown3; have HN := hidOf hown3; have H3 := hidOf (Chg.out (S := fun k => k = w.heap.size) (Chg.of_grown hgrow3 (fun k h => (Option.some.inj h).symm)) (Out.alloc (Out.refl w) _) (fun k hk => by omega)); obtain ⟨a3, c3, rfl⟩ := own_form hown3; clear hown3 hgrow3)
    go_ret
    exact ⟨_, _, rfl, HN.out, H3.out⟩
end Go.Proofs.YthififblejbleaaGreatDoor
