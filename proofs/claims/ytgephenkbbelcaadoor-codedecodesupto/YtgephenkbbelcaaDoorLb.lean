import Derived.Test.YtgephenkbbelcaaDoorLa
import Derived.Test.YtgephenkbbelcaaDoorJd
namespace Go.Proofs.YtgephenkbbelcaaDoor
open Go.RowKit
set_option linter.unusedVariables false
set_option linter.unusedSimpArgs false

def RowAt (w : World) (g k : Nat) (r : RowP) : Prop := ∃ iv, NumsAt w iv r.imms ∧ w.cell? ⟨g, k * 10, none⟩ = some (.int .i64 r.form) ∧ w.cell? ⟨g, k * 10 + 1, none⟩ = some (.int .i64 r.group) ∧ w.cell? ⟨g, k * 10 + 2, none⟩ = some (.bool r.dst) ∧ w.cell? ⟨g, k * 10 + 3, none⟩ = some (.bool r.src) ∧
  w.cell? ⟨g, k * 10 + 4, none⟩ = some (.bool r.off) ∧ w.cell? ⟨g, k * 10 + 5, none⟩ = some (.bool r.imm) ∧ w.cell? ⟨g, k * 10 + 6, none⟩ = some (.bool r.any) ∧ w.cell? ⟨g, k * 10 + 7, none⟩ = some (.int .i64 r.srcIs) ∧ w.cell? ⟨g, k * 10 + 8, none⟩ = some (.int .i64 r.offIs) ∧ w.cell? ⟨g, k * 10 + 9, none⟩ = some iv
def RowsAt (w : World) (v : Value) (L : List RowP) : Prop := (L = [] ∧ v = .slice none 0 0) ∨ ∃ g cap, v = .slice (some ⟨g, 0, none⟩) L.length cap ∧ ∀ k r, L[k]? = some r → RowAt w g k r
theorem RowAt.out {w w' : World} {g k : Nat} {r : RowP} (h : RowAt w g k r) (o : Out w w') : RowAt w' g k r := by
  obtain ⟨iv, h, h0, h1, h2, h3, h4, h5, h6, h7, h8, h9⟩ := h
  exact ⟨iv, h.out o, cell_later o h0, cell_later o h1, cell_later o h2, cell_later o h3, cell_later o h4, cell_later o h5, cell_later o h6, cell_later o h7, cell_later o h8, cell_later o h9⟩
theorem RowsAt.out {w w' : World} {v : Value} {L : List RowP} (h : RowsAt w v L) (o : Out w w') : RowsAt w' v L := by
  rcases h with h | ⟨g, cap, e, h⟩
  · exact .inl h
  · exact .inr ⟨g, cap, e, fun k r hk => (h k r hk).out o⟩
theorem rowsAt1 {w : World} {g cap : Nat} {r : RowP} (h : RowAt w g 0 r) : RowsAt w (.slice (some ⟨g, 0, none⟩) 1 cap) [r] :=
  .inr ⟨g, cap, rfl, fun k x hk => by
    match k, hk with
    | 0, hk => simp at hk; subst hk; exact h⟩
theorem rowsAt2 {w : World} {g cap : Nat} {r s : RowP} (h : RowAt w g 0 r) (h1 : RowAt w g 1 s) : RowsAt w (.slice (some ⟨g, 0, none⟩) 2 cap) [r, s] :=
  .inr ⟨g, cap, rfl, fun k x hk => by
    match k, hk with
    | 0, hk => simp at hk; subst hk; exact h
    | 1, hk => simp at hk; subst hk; exact h1⟩
theorem cell_new (w : World) (cs : Array Value) (t : TypeId) (b j : Nat) (hb : b = w.heap.size) : (w.alloc (.cells cs t)).cell? ⟨b, j, none⟩ = cs[j]? := by
  subst hb
  exact cell_of_row _ _ _ _ _ _ (heap_alloc_new w _)
def rowL (r : RowP) (iv : Value) : List Value := [.int .i64 r.form, .int .i64 r.group, .bool r.dst, .bool r.src, .bool r.off, .bool r.imm, .bool r.any, .int .i64 r.srcIs, .int .i64 r.offIs, iv]
theorem rowAt_of {w : World} {g k : Nat} {r : RowP} {iv : Value} {xs : List Value} (hn : NumsAt w iv r.imms) (hx : (xs.drop (k * 10)).take 10 = rowL r iv) (hc : ∀ j u, xs[j]? = some u → w.cell? ⟨g, j, none⟩ = some u) : RowAt w g k r := by
  have key : ∀ j u, (rowL r iv)[j]? = some u → w.cell? ⟨g, k * 10 + j, none⟩ = some u := by
    intro j u hu
    rw [← hx, List.getElem?_take] at hu
    split at hu
    · rw [List.getElem?_drop] at hu
      exact hc _ _ hu
    · cases hu
  exact ⟨iv, hn, key 0 _ rfl, key 1 _ rfl, key 2 _ rfl, key 3 _ rfl, key 4 _ rfl, key 5 _ rfl, key 6 _ rfl, key 7 _ rfl, key 8 _ rfl, key 9 _ rfl⟩
theorem rowAt_new {w : World} {cs : Array Value} {t : TypeId} {b k : Nat} {r : RowP} {iv : Value} (hb : b = w.heap.size) (hn : NumsAt (w.alloc (.cells cs t)) iv r.imms) (hx : (cs.toList.drop (k * 10)).take 10 = rowL r iv) : RowAt (w.alloc (.cells cs t)) b k r :=
  rowAt_of hn hx (fun j u hu => by rw [cell_new _ _ _ _ _ hb]; simpa using hu)
def jumpsR (c code : Int) (src : Bool) : List RowP :=
  if code == 0 && !src then [⟨7, 1, false, false, c == 5, c == 6, false, 0, 0, []⟩]
  else if (code == 128 && c == 5) && !src then [⟨9, 1, false, false, false, true, false, 0, 0, []⟩, ⟨9, 1, false, false, false, true, false, 1, 0, []⟩]
  else if (code == 144 && c == 5) && !src then [⟨1, 1, false, false, false, false, false, 0, 0, []⟩]
  else if (decide (16 ≤ code) && decide (code ≤ 112)) || (decide (160 ≤ code) && decide (code ≤ 208)) then [⟨8, 1, true, src, true, !src, false, 0, 0, []⟩]
  else []
theorem jumps_1 (c : Int) (w : World) : Calls Tryd.prog 41 #[.int .i64 c, .int .i64 0, .bool false] w fun e w' => (∃ v, e = .returned v ∧ RowsAt w' v (jumpsR c 0 false)) ∧ Out w w' := by
  go_enter Tryd.func41, Tryd.ntmps41
  go_wp2
  all_goals go_ret
  all_goals go_light
  all_goals refine ⟨⟨_, rfl, ?_⟩, by repeat (first | exact Out.refl _ | apply Out.alloc)⟩
  rw [show jumpsR c 0 false = [⟨7, 1, false, false, c == 5, c == 6, false, 0, 0, []⟩] from by simp [jumpsR]]
  exact rowsAt1 (rowAt_new (by simp) (.inl ⟨rfl, rfl⟩) rfl)
theorem jumps_2  (w : World) : Calls Tryd.prog 41 #[.int .i64 5, .int .i64 128, .bool false] w fun e w' => (∃ v, e = .returned v ∧ RowsAt w' v (jumpsR 5 128 false)) ∧ Out w w' := by
  go_enter Tryd.func41, Tryd.ntmps41
  go_wp2
  all_goals go_ret
  all_goals go_light
  all_goals refine ⟨⟨_, rfl, ?_⟩, by repeat (first | exact Out.refl _ | apply Out.alloc)⟩
  rw [show jumpsR 5 128 false = [⟨9, 1, false, false, false, true, false, 0, 0, []⟩, ⟨9, 1, false, false, false, true, false, 1, 0, []⟩] from by simp [jumpsR]]
  exact rowsAt2 (rowAt_new (by simp) (.inl ⟨rfl, rfl⟩) rfl) (rowAt_new (by simp) (.inl ⟨rfl, rfl⟩) rfl)
theorem jumps_3  (w : World) : Calls Tryd.prog 41 #[.int .i64 5, .int .i64 144, .bool false] w fun e w' => (∃ v, e = .returned v ∧ RowsAt w' v (jumpsR 5 144 false)) ∧ Out w w' := by
  go_enter Tryd.func41, Tryd.ntmps41
  go_wp2
  all_goals go_ret
  all_goals go_light
  all_goals refine ⟨⟨_, rfl, ?_⟩, by repeat (first | exact Out.refl _ | apply Out.alloc)⟩
  rw [show jumpsR 5 144 false = [⟨1, 1, false, false, false, false, false, 0, 0, []⟩] from by simp [jumpsR]]
  exact rowsAt1 (rowAt_new (by simp) (.inl ⟨rfl, rfl⟩) rfl)
theorem jumps_4 (c code : Int) (src : Bool) (h1 : 16 ≤ code) (h2 : code ≤ 112) (w : World) : Calls Tryd.prog 41 #[.int .i64 c, .int .i64 code, .bool src] w fun e w' => (∃ v, e = .returned v ∧ RowsAt w' v (jumpsR c code src)) ∧ Out w w' := by
  have a0 : (code == 0) = false := by simp; omega
  have a1 : (code == 128) = false := by simp; omega
  have a2 : (code == 144) = false := by simp; omega
  go_enter Tryd.func41, Tryd.ntmps41
  go_wp2
  all_goals go_ret
  all_goals go_light
  all_goals refine ⟨⟨_, rfl, ?_⟩, by repeat (first | exact Out.refl _ | apply Out.alloc)⟩
  rw [show jumpsR c code src = [⟨8, 1, true, src, true, !src, false, 0, 0, []⟩] from by simp [jumpsR, a0, a1, a2, h1, h2]]
  exact rowsAt1 (rowAt_new (by simp) (.inl ⟨rfl, rfl⟩) rfl)
theorem jumps_5 (c code : Int) (src : Bool) (h1 : 160 ≤ code) (h2 : code ≤ 208) (w : World) : Calls Tryd.prog 41 #[.int .i64 c, .int .i64 code, .bool src] w fun e w' => (∃ v, e = .returned v ∧ RowsAt w' v (jumpsR c code src)) ∧ Out w w' := by
  have a0 : (code == 0) = false := by simp; omega
  have a1 : (code == 128) = false := by simp; omega
  have a2 : (code == 144) = false := by simp; omega
  have h3 : ¬ code ≤ 112 := by omega
  have h4 : 16 ≤ code := by omega
  go_enter Tryd.func41, Tryd.ntmps41
  go_wp2
  all_goals go_ret
  all_goals go_light
  all_goals refine ⟨⟨_, rfl, ?_⟩, by repeat (first | exact Out.refl _ | apply Out.alloc)⟩
  rw [show jumpsR c code src = [⟨8, 1, true, src, true, !src, false, 0, 0, []⟩] from by simp [jumpsR, a0, a1, a2, h1, h2, h3, h4]]
  exact rowsAt1 (rowAt_new (by simp) (.inl ⟨rfl, rfl⟩) rfl)
theorem jumps_6 (c : Int) (w : World) : Calls Tryd.prog 41 #[.int .i64 c, .int .i64 0, .bool true] w fun e w' => (∃ v, e = .returned v ∧ RowsAt w' v (jumpsR c 0 true)) ∧ Out w w' := by
  go_enter Tryd.func41, Tryd.ntmps41
  go_wp2
  all_goals go_ret
  all_goals go_light
  all_goals refine ⟨⟨_, rfl, ?_⟩, by repeat (first | exact Out.refl _ | apply Out.alloc)⟩
  all_goals (rw [show jumpsR c 0 true = [] from by simp_all [jumpsR]]; exact .inl ⟨rfl, rfl⟩)
theorem jumps_7 (c : Int) (w : World) : Calls Tryd.prog 41 #[.int .i64 c, .int .i64 128, .bool true] w fun e w' => (∃ v, e = .returned v ∧ RowsAt w' v (jumpsR c 128 true)) ∧ Out w w' := by
  go_enter Tryd.func41, Tryd.ntmps41
  go_wp2
  all_goals go_ret
  all_goals go_light
  all_goals refine ⟨⟨_, rfl, ?_⟩, by repeat (first | exact Out.refl _ | apply Out.alloc)⟩
  all_goals (rw [show jumpsR c 128 true = [] from by simp_all [jumpsR]]; exact .inl ⟨rfl, rfl⟩)
theorem jumps_8 (c : Int) (hc : (c == 5) = false) (w : World) : Calls Tryd.prog 41 #[.int .i64 c, .int .i64 128, .bool false] w fun e w' => (∃ v, e = .returned v ∧ RowsAt w' v (jumpsR c 128 false)) ∧ Out w w' := by
  go_enter Tryd.func41, Tryd.ntmps41
  go_wp2
  all_goals go_ret
  all_goals go_light
  all_goals refine ⟨⟨_, rfl, ?_⟩, by repeat (first | exact Out.refl _ | apply Out.alloc)⟩
  all_goals (rw [show jumpsR c 128 false = [] from by simp_all [jumpsR]]; exact .inl ⟨rfl, rfl⟩)
theorem jumps_9 (c : Int) (w : World) : Calls Tryd.prog 41 #[.int .i64 c, .int .i64 144, .bool true] w fun e w' => (∃ v, e = .returned v ∧ RowsAt w' v (jumpsR c 144 true)) ∧ Out w w' := by
  go_enter Tryd.func41, Tryd.ntmps41
  go_wp2
  all_goals go_ret
  all_goals go_light
  all_goals refine ⟨⟨_, rfl, ?_⟩, by repeat (first | exact Out.refl _ | apply Out.alloc)⟩
  all_goals (rw [show jumpsR c 144 true = [] from by simp_all [jumpsR]]; exact .inl ⟨rfl, rfl⟩)
theorem jumps_10 (c : Int) (hc : (c == 5) = false) (w : World) : Calls Tryd.prog 41 #[.int .i64 c, .int .i64 144, .bool false] w fun e w' => (∃ v, e = .returned v ∧ RowsAt w' v (jumpsR c 144 false)) ∧ Out w w' := by
  go_enter Tryd.func41, Tryd.ntmps41
  go_wp2
  all_goals go_ret
  all_goals go_light
  all_goals refine ⟨⟨_, rfl, ?_⟩, by repeat (first | exact Out.refl _ | apply Out.alloc)⟩
  all_goals (rw [show jumpsR c 144 false = [] from by simp_all [jumpsR]]; exact .inl ⟨rfl, rfl⟩)
theorem jumps_11 (c code : Int) (src : Bool) (h1 : 208 < code) (w : World) : Calls Tryd.prog 41 #[.int .i64 c, .int .i64 code, .bool src] w fun e w' => (∃ v, e = .returned v ∧ RowsAt w' v (jumpsR c code src)) ∧ Out w w' := by
  have a0 : (code == 0) = false := by simp; omega
  have a1 : (code == 128) = false := by simp; omega
  have a2 : (code == 144) = false := by simp; omega
  have h3 : ¬ code ≤ 112 := by omega
  have h4 : 16 ≤ code := by omega
  have h5 : ¬ code ≤ 208 := by omega
  go_enter Tryd.func41, Tryd.ntmps41
  go_wp2
  all_goals go_ret
  all_goals go_light
  all_goals refine ⟨⟨_, rfl, ?_⟩, by repeat (first | exact Out.refl _ | apply Out.alloc)⟩
  all_goals (rw [show jumpsR c code src = [] from by simp [jumpsR, a0, a1, a2, h3, h4, h5]]; exact .inl ⟨rfl, rfl⟩)
theorem jumps_any (c code : Int) (src : Bool) (hk : code = 0 ∨ code = 128 ∨ code = 144 ∨ (16 ≤ code ∧ code ≤ 112) ∨ (160 ≤ code ∧ code ≤ 208) ∨ 208 < code) (w : World) : Calls Tryd.prog 41 #[.int .i64 c, .int .i64 code, .bool src] w fun e w' => (∃ v, e = .returned v ∧ RowsAt w' v (jumpsR c code src)) ∧ Out w w' := by
  rcases hk with rfl | rfl | rfl | ⟨h1, h2⟩ | ⟨h1, h2⟩ | h1
  · cases src
    · exact jumps_1 c w
    · exact jumps_6 c w
  · cases src
    · cases hc : (c == 5)
      · exact jumps_8 c hc w
      · obtain rfl : c = 5 := by simpa using hc
        exact jumps_2 w
    · exact jumps_7 c w
  · cases src
    · cases hc : (c == 5)
      · exact jumps_10 c hc w
      · obtain rfl : c = 5 := by simpa using hc
        exact jumps_3 w
    · exact jumps_9 c w
  · exact jumps_4 c code src h1 h2 w
  · exact jumps_5 c code src h1 h2 w
  · exact jumps_11 c code src h1 w
end Go.Proofs.YtgephenkbbelcaaDoor
