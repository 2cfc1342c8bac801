import Derived.Test.YthdgmhohofakgaaGreatDoorAc
import Derived.Lib.IndexLaws
namespace Go.Proofs.YthdgmhohofakgaaGreatDoor
open Go.RowKit
open Go.Maps (Keyed)
set_option linter.unusedVariables false
set_option linter.unusedSimpArgs false
/-- a table, its blocks within F -/
def Tab (p : Nat) (w : World) (N : List (List UInt8)) (F : Nat → Prop) : Prop := ∃ nv sv mv, T3 p w N N N nv sv mv ∧ ∀ k, fp p nv sv mv k → F k
/-- F, and what has been made since -/
def FN (F : Nat → Prop) (w w' : World) (k : Nat) : Prop := F k ∨ (w.heap.size ≤ k ∧ k < w'.heap.size)
theorem Tab.chg {p : Nat} {w w' : World} {N : List (List UInt8)} {F S : Nat → Prop} (h : Tab p w N F) (hc : Chg S w w') (hs : ∀ k, F k → ¬ S k) : Tab p w' N F := by
  obtain ⟨nv, sv, mv, t, hf⟩ := h
  exact ⟨nv, sv, mv, t.chg hc (fun k hk => hs k (hf k hk)), hf⟩
theorem Tab.out {p : Nat} {w w' : World} {N : List (List UInt8)} {F : Nat → Prop} (h : Tab p w N F) (o : Out w w') : Tab p w' N F := h.chg (S := fun _ => False) (Chg.of_out o) (fun _ _ h => h)
theorem Tab.mono {p : Nat} {w : World} {N : List (List UInt8)} {F G : Nat → Prop} (h : Tab p w N F) (hg : ∀ k, F k → G k) : Tab p w N G := by
  obtain ⟨nv, sv, mv, t, hf⟩ := h
  exact ⟨nv, sv, mv, t, fun k hk => hg k (hf k hk)⟩
theorem Tab.lt {p : Nat} {w : World} {N : List (List UInt8)} {F : Nat → Prop} (h : Tab p w N F) : p < w.heap.size := by
  obtain ⟨nv, sv, mv, t, hf⟩ := h
  exact t.lt
def newO : Obj := .cells #[.slice none 0 0, .slice none 0 0, .map none] 136 (0, 0)
theorem new_any (w : World) : Calls Tryz.prog 68 #[] w fun e w' => e = .returned (.pointer (some ⟨w.heap.size, 0, none⟩)) ∧ w' = w.alloc newO := by
  go_enter Tryz.func68, Tryz.ntmps68
  go_wp2
  go_ret
  exact ⟨rfl, rfl⟩
theorem new_tab (w : World) : Tab w.heap.size (w.alloc newO) [] (fun k => k = w.heap.size) := by
  refine ⟨.slice none 0 0, .slice none 0 0, .map none, ⟨heap_alloc_new w _, World.ownsRow_nil _ _ _ _, World.ownsRow_nil _ _ _ _, .inl ⟨rfl, rfl⟩⟩, ?_⟩
  intro k hk
  rcases hk with hk | hk | hk | hk
  · exact hk
  · cases hk
  · cases hk
  · cases hk
theorem idx_neg (x : List UInt8) : decide (Lib.indexByte x 0 < 0) = !x.contains 0 := by
  have hge := Lib.indexByte_ge x 0
  by_cases h : Lib.indexByte x 0 < 0
  · have hn := Lib.indexByte_none (l := x) (c := 0) (by omega)
    have : ¬ (0 : UInt8) ∈ x := fun hm => by
      obtain ⟨k, hk⟩ := List.mem_iff_getElem?.1 hm
      exact hn k hk
    simp [h, this]
  · obtain ⟨o, ho⟩ : ∃ o : Nat, Lib.indexByte x 0 = o := ⟨(Lib.indexByte x 0).toNat, by omega⟩
    have := (Lib.indexByte_some (l := x) (c := 0) ho).1
    have hm : (0 : UInt8) ∈ x := List.mem_of_getElem? this
    simp [hm]; omega
theorem isName_any (x : List UInt8) (w : World) : Calls Tryz.prog 89 #[.string ⟨x.toArray⟩] w fun e w' => e = .returned (.bool (nameOk x)) ∧ w = w' := by
  have hsz : (⟨x.toArray⟩ : ByteArray).size = x.length := mk_size x
  have hli : (⟨x.toArray⟩ : ByteArray).toList = x := mk_list x
  have hI := Tryz.strings_IndexByte ⟨x.toArray⟩ 0 w
  simp only [show ((0 : Int).toNat.toUInt8) = 0 from rfl] at hI
  have hneg := idx_neg x
  unfold nameOk
  go_enter Tryz.func89, Tryz.ntmps89
  go_wp2_with (go_at_call 97; refine (hI).mono ?_; rintro e w1 ⟨rfl, rfl⟩)
  all_goals (go_ret; refine ret_bool ?_; simp_all <;> (try (rw [decide_eq_true (by omega : x.length ≤ 64)]; simp)) <;> (try omega))
theorem zeroI (w : World) : (zeroValue 3).run Tryz.prog w = .ok (.int .i64 0) w := by kernel_rfl
theorem look_any {w : World} {mv : Value} {N : List (List UInt8)} (h : MapOk w mv N) (x : List UInt8) (hl : x.length ≤ 1000000000000) : ∃ (r : Option Nat) (c : Int), mv = .map r ∧ (Instr.lookup 134 (.map r) (.string ⟨x.toArray⟩) true).run Tryz.prog w = .ok (.tuple #[.int .i64 c, .bool (decide (x ∈ N))]) w ∧ (x ∈ N → c = (plF 1 N x : Nat)) := by
  have hk := keyOf_tx x hl
  rcases h with ⟨rfl, rfl⟩ | ⟨b, D, rfl, ho, hm⟩
  · refine ⟨none, 0, rfl, ?_, by simp⟩
    have := Maps.look_nil (w := w) true strLaw Tryz.underlying134 (zeroI w) hk
    simpa using this
  · have hw0 : (Lit.int .i64 0).wf = true := by decide
    obtain ⟨v, ps, hr, hv⟩ := ho.look_ok strLaw Tryz.underlying134 (zeroI w) (zd := .lit (.int .i64 0)) (zp := []) (plainElem_int Tryz.underlying3 hw0) hk
    obtain ⟨c, rfl, hc, hwc⟩ := plainElem_int_inv Tryz.underlying3 hv
    refine ⟨some b, c, rfl, by rw [hr, (hm.2 x).1], fun hx => ?_⟩
    have h1 := congrArg Prod.fst hc
    simp only at h1
    rw [(hm.2 x).2 hx] at h1
    cases h1
    rfl
theorem clone_any (x : List UInt8) (w : World) (hl : x.length ≤ 1000000000000) : Calls Tryz.prog 90 #[.string ⟨x.toArray⟩] w fun e w' => e = .returned (.string ⟨x.toArray⟩) ∧ Out w w' := by
  have hsz : (⟨x.toArray⟩ : ByteArray).size = x.length := mk_size x
  have HC := hidOf (Tryz.stringslite_Clone ⟨x.toArray⟩ w (by rw [hsz]; omega))
  go_enter Tryz.func90, Tryz.ntmps90
  go_wp2_with (go_at_call 98; refine (HC.out).mono ?_; rintro e w1 ⟨rfl, ho⟩; have Ho := hidOf ho; clear ho)
  go_ret
  exact ⟨rfl, Ho.out⟩
theorem add_bad (p : Nat) (x : List UInt8) (w : World) (hx : nameOk x = false) : Calls Tryz.prog 70 #[.pointer (some ⟨p, 0, none⟩), .string ⟨x.toArray⟩] w fun e w' => e = .returned (.tuple #[.int .i64 0, .int .i64 81]) ∧ w = w' := by
  have HI := hidOf (isName_any x w)
  rw [hx] at HI
  go_enter Tryz.func70, Tryz.ntmps70
  go_wp2_with (go_at_call 89; refine (HI.out).mono ?_; rintro e w1 ⟨rfl, rfl⟩)
  go_ret2
  exact ⟨rfl, rfl⟩
theorem name_len {x : List UInt8} (h : nameOk x = true) : x.length ≤ 64 := by
  unfold nameOk at h
  simp at h
  exact h.1.2
theorem add_old (p : Nat) (x : List UInt8) (w : World) (N : List (List UInt8)) (F : Nat → Prop) (h : Tab p w N F) (hx : nameOk x = true) (hm : x ∈ N) : Calls Tryz.prog 70 #[.pointer (some ⟨p, 0, none⟩), .string ⟨x.toArray⟩] w fun e w' => e = .returned (.tuple #[.int .i64 (plF 1 N x : Nat), .int .i64 0]) ∧ w = w' := by
  obtain ⟨nv, sv, mv, t, hf⟩ := h
  have HI := hidOf (isName_any x w)
  rw [hx] at HI
  obtain ⟨r, c, rfl, hr, hc⟩ := look_any t.mp x (by have := name_len hx; omega)
  obtain rfl := hc hm
  rw [decide_eq_true hm] at hr
  have c2 : w.cell? ⟨p, 2, none⟩ = some (.map r) := t.cell 2
  clear t hf hc
  generalize plF 1 N x = c at *
  go_enter Tryz.func70, Tryz.ntmps70
  go_wp2_with (go_at_call 89; refine (HI.out).mono ?_; rintro e w1 ⟨rfl, rfl⟩)
  go_ret2
  exact ⟨rfl, rfl⟩
theorem add_new (p : Nat) (x : List UInt8) (w : World) (N : List (List UInt8)) (F : Nat → Prop) (h : Tab p w N F) (hx : nameOk x = true) (hm : ¬ x ∈ N) (hb : szF 1 N ≤ 1000000000000) : Calls Tryz.prog 70 #[.pointer (some ⟨p, 0, none⟩), .string ⟨x.toArray⟩] w fun e w' => e = .returned (.tuple #[.int .i64 (szF 1 N : Nat), .int .i64 0]) ∧ Tab p w' (N ++ [x]) (FN F w w') ∧ Chg F w w' := by
  obtain ⟨nv, sv, mv, t, hf⟩ := h
  have hxl := name_len hx
  have HI := hidOf (isName_any x w)
  rw [hx] at HI
  obtain ⟨r, c, rfl, hr, hc⟩ := look_any t.mp x (by omega)
  rw [decide_eq_false hm] at hr
  have c2 : w.cell? ⟨p, 2, none⟩ = some (.map r) := t.cell 2
  have HT := hidOf t
  have HF := hidOf hf
  have Hm := hidOf hm
  have Hb := hidOf hb
  have Hx := hidOf hxl
  clear t hf hc hm hb hxl
  go_enter Tryz.func70, Tryz.ntmps70
  go_wp2_with (first | (go_at_call 89; refine (HI.out).mono ?_; rintro e w1 ⟨rfl, rfl⟩) | (go_at_call 90; refine (clone_any x _ (by have := Hx.out; omega)).mono ?_; rintro e w2 ⟨rfl, ho⟩; have Ho := hidOf ho; clear ho) | (go_at_call 81; refine (push_any p w2 N _ _ _ x (HT.out.out Ho.out) Hm.out Hb.out (by have := Hx.out; omega)).mono ?_; rintro e w3 ⟨rfl, hp⟩; have Hp := hidOf hp; clear hp))
  go_ret2
  obtain ⟨nv', sv', mv', t', hc', hi'⟩ := Hp.out
  refine ⟨rfl, ⟨nv', sv', mv', t', fun k hk => ?_⟩, ?_⟩
  · rcases hi' k hk with h | h
    · exact .inl (HF.out k h)
    · exact .inr ⟨Nat.le_trans Ho.out.size h, t'.fp_lt k hk⟩
  · exact (Chg.of_out Ho.out).trans hc' (fun k hk _ => HF.out k hk)
end Go.Proofs.YthdgmhohofakgaaGreatDoor
