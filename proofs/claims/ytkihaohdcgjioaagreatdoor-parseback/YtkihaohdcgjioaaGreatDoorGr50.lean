import Derived.Test.YtkihaohdcgjioaaGreatDoorGr49
namespace Go.Proofs.YtkihaohdcgjioaaGreatDoor
open Go.RowKit
set_option linter.unusedVariables false
set_option linter.unusedSimpArgs false
def StmI (x : Stm) : Prop := x.nm.length ≤ 140737488355328 ∧ x.tg.length ≤ 140737488355328 ∧ I64 x.f ∧ I64 x.i
theorem print_own (w : World) (hE : AEnv w) {B : Nat} {v : Value} {L : List Stm} (h : OwQ B v L w) (hl : L.length ≤ 1034834473171) (hx : ∀ x ∈ L, StmI x) :
    Calls Tryz.prog 12 #[v] w fun e w' => e = .returned (.tuple #[.string ⟨(prF [] 0 (L.map lnA)).1.toArray⟩, .int .i64 (prF [] 0 (L.map lnA)).2]) ∧ Out w w' := by
  obtain ⟨Y, h1, h2, h3⟩ := h.ex
  have h2' := h2
  rcases h2.2 with ⟨hv, hn⟩ | ⟨g, cap, cur, hv, hb, hg, hc, _⟩
  · rw [List.length_eq_zero_iff] at hn
    rw [hv, hn]
    exact print6_nil w
  · have hYl : Y.length = L.length := by rw [← h1]; simp
    have hS : StR w g 0 Y := fun k y hy => by
      have hls := h3 y (List.mem_of_getElem? hy)
      obtain ⟨aw, cw, e1⟩ := own_form hls.1
      obtain ⟨an, cn, e2⟩ := own_form hls.2
      refine ⟨⟨_, _, _, e1⟩, ⟨_, _, _, e2⟩, fun i u hu => ?_⟩
      have hi : i < 11 := (List.getElem?_eq_some_iff.1 hu).1
      have h4 := h2'.cells (g := g) (by rw [hv]; rfl) (k * 11 + i) u (by rw [stC_get Y k y i hy hi, hu])
      rw [← h4, Go.WideShapes.add_plain, Nat.add_assoc]
    have hR : L.map lnA = Y.map (fun y => lnA y.1) := by rw [← h1, List.map_map]; rfl
    have := print7_any w g 0 cap Y (Y.map (fun y => lnA y.1)) (by simp) hS (Array.getElem?_eq_some_iff.1 hg).1 (by omega) (by omega) (fun wx o k y r hy hr => ?_) (fun r hr h0 => ?_)
    · rw [hv, hR, ← hYl]
      exact this
    · rw [List.getElem?_map, hy] at hr
      have hr : lnA y.1 = r := Option.some.inj hr
      have hls := (h3 y (List.mem_of_getElem? hy)).ls
      obtain ⟨aw, cw, an, cn, e1, e2, r1, r2, _⟩ := hls
      obtain ⟨x1, x2, x3, x4⟩ := hx y.1 (by rw [← h1]; exact List.mem_map.2 ⟨y, List.mem_of_getElem? hy, rfl⟩)
      unfold stE
      rw [e1, e2, ← hr]
      exact lineOf_any y.1 aw an cw cn wx (hE.out o) x1 x2 x3 x4 (r1.out o) (r2.out o)
    · obtain ⟨y, hy, rfl⟩ := List.mem_map.1 hr
      exact ln_len (hx y.1 (by rw [← h1]; exact List.mem_map.2 ⟨y, hy, rfl⟩)).2.2.2 h0
theorem bw_rest (w : World) (l : List UInt8) : Lx.RestAt (Lib.bytesWorld w 5 ⟨l.toArray⟩).heap.size (Lib.bytesWorld w 5 ⟨l.toArray⟩) (some ⟨w.heap.size, 0, none⟩) l := by
  by_cases h0 : l = []
  · exact .inl h0
  · refine .inr ⟨w.heap.size, 0, ?_, rfl, fun k x hx => ?_⟩
    · rw [Lib.bytesWorld_size]; omega
    · have hk : k < l.length := (List.getElem?_eq_some_iff.1 hx).1
      rw [Nat.zero_add, Lib.bytesWorld_cell w 5 ⟨l.toArray⟩ k (by rw [mk_size]; exact hk)]
      simp [List.getD, hx]
theorem numL_len : ∀ (n : Nat) (L : List Stm), (numL n L).length = L.length
  | _, [] => rfl
  | n, x :: r => by show (numL (n + 1) r).length + 1 = r.length + 1; rw [numL_len (n + 1) r]
theorem numL_get : ∀ (n i : Nat) (L : List Stm) (x : Stm), L[i]? = some x → (numL n L)[i]? = some { x with l := ((n + i : Nat) : Int) + 1 }
  | n, i, [], x, h => by simp at h
  | n, 0, y :: r, x, h => by
    have : y = x := by simpa using h
    subst this
    rfl
  | n, i + 1, y :: r, x, h => by
    show (numL (n + 1) r)[i]? = _
    rw [numL_get (n + 1) i r x (by simpa using h), show n + 1 + i = n + (i + 1) by omega]
end Go.Proofs.YtkihaohdcgjioaaGreatDoor
