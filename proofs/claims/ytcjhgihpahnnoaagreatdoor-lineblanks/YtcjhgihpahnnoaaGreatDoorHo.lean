import Derived.Test.YtcjhgihpahnnoaaGreatDoorGm
namespace Go.Proofs.YtcjhgihpahnnoaaGreatDoor
open Go.RowKit
set_option linter.unusedVariables false
set_option linter.unusedSimpArgs false
/-- what is left behind n tokens -/
def restN : Nat → List UInt8 → List UInt8
  | 0, l => l
  | n + 1, l => restN n (restP l)
/-- two texts with the same tokens -/
def TE (l m : List UInt8) : Prop := ∀ n, tokP (restN n l) = tokP (restN n m)
theorem TE.tok {l m : List UInt8} (h : TE l m) : tokP l = tokP m := h 0
theorem TE.rest {l m : List UInt8} (h : TE l m) : TE (restP l) (restP m) := fun n => h (n + 1)
/-- two readers that stand alike -/
def ER (r q : RS) : Prop := ∃ x, q = { r with rest := x } ∧ TE r.rest x
theorem ER.mk {r : RS} {x : List UInt8} (h : TE r.rest x) : ER r { r with rest := x } := ⟨x, rfl, h⟩
theorem ER.next {r q : RS} (h : ER r q) : ER r.next q.next := by
  obtain ⟨x, rfl, h⟩ := h
  exact ⟨restP x, by simp only [RS.next]; rw [h.tok], h.rest⟩
theorem ER.set {r q : RS} (h : ER r q) (f : RS → RS) (hf : ∀ r x, f { r with rest := x } = { f r with rest := x }) (hr : ∀ r, (f r).rest = r.rest) : ER (f r) (f q) := by
  obtain ⟨x, rfl, h⟩ := h
  exact ⟨x, hf r x, by rw [hr]; exact h⟩
theorem ER.skip {r q : RS} (h : ER r q) (m : List UInt8) : ER (skipP m r).1 (skipP m q).1 ∧ (skipP m r).2 = (skipP m q).2 := by
  have ht : q.tok = r.tok := by obtain ⟨x, rfl, _⟩ := h; rfl
  unfold skipP
  rw [ht]
  split
  · exact ⟨h.next, rfl⟩
  · exact ⟨h, rfl⟩
theorem ER.mark {r q : RS} (h : ER r q) (m : List UInt8) : ER (markS m r) (markS m q) := by
  have h1 := h.skip m
  unfold markS
  rw [← h1.2]
  split
  · exact h1.1
  · exact h1.1.set (fun r => { r with wrong := true }) (fun _ _ => rfl) (fun _ => rfl)
theorem ER.reg {r q : RS} (h : ER r q) : ER (regS r).1 (regS q).1 ∧ (regS r).2 = (regS q).2 := by
  have hn := h.next
  obtain ⟨x, rfl, hx⟩ := h
  unfold regS
  simp only
  cases regN r.tok with
  | none => exact ⟨⟨x, rfl, hx⟩, rfl⟩
  | some k => exact ⟨hn, rfl⟩
theorem ER.sgn {r q : RS} (h : ER r q) : ER (sgnS r).1 (sgnS q).1 ∧ (sgnS r).2 = (sgnS q).2 := by
  have h1 := h.skip [45]
  unfold sgnS
  rw [← h1.2]
  split
  · exact ⟨h1.1, rfl⟩
  · exact ⟨(h1.1.skip [43]).1, rfl⟩
theorem ER.pgn {r q : RS} (h : ER r q) : ER (pgnS r).1 (pgnS q).1 ∧ (pgnS r).2 = (pgnS q).2 := by
  have h1 := h.skip [45]
  unfold pgnS
  rw [← h1.2]
  split
  · exact ⟨h1.1, rfl⟩
  · exact ⟨h1.1.mark [43], rfl⟩
theorem ER.num {r q : RS} (h : ER r q) (b : Bool) (half high : Int) : ER (numS b half high r) (numS b half high q) ∧ ∀ w, numV b w r = numV b w q := by
  have ht : q.tok = r.tok ∧ q.wrong = r.wrong ∧ q.outside = r.outside := by obtain ⟨x, rfl, _⟩ := h; exact ⟨rfl, rfl, rfl⟩
  constructor
  · unfold numS
    rw [ht.1, ht.2.2]
    have h1 : ER (RS.next { r with wrong := r.wrong || !(valP r.tok).2.2 }) (RS.next { q with wrong := q.wrong || !(valP r.tok).2.2 }) := by
      rw [ht.2.1]
      exact (h.set (fun p => { p with wrong := r.wrong || !(valP r.tok).2.2 }) (fun _ _ => rfl) (fun _ => rfl)).next
    exact h1.set (fun p => { p with outside := r.outside || ((valP r.tok).2.1 || decide ((if b then half else high) < (valP r.tok).1)) }) (fun _ _ => rfl) (fun _ => rfl)
  · intro w
    unfold numV
    rw [ht.1]
theorem ER.imm {r q : RS} (h : ER r q) : ER (immS r) (immS q) := by
  have ho : q.o = r.o := by obtain ⟨x, rfl, _⟩ := h; rfl
  have h1 := h.sgn
  unfold immS
  rw [ho, ← h1.2]
  split
  · have h2 := h1.1.num (sgnS r).2 9223372036854775808 18446744073709551615
    rw [← h2.2 64]
    exact h2.1.set (fun p => { p with i := numV (sgnS r).2 64 (sgnS r).1 }) (fun _ _ => rfl) (fun _ => rfl)
  · have h2 := h1.1.num (sgnS r).2 2147483648 4294967295
    rw [← h2.2 32]
    exact h2.1.set (fun p => { p with i := numV (sgnS r).2 32 (sgnS r).1 }) (fun _ _ => rfl) (fun _ => rfl)
theorem ER.place {r q : RS} (h : ER r q) : ER (placeS r).1 (placeS q).1 ∧ (placeS r).2 = (placeS q).2 := by
  have h1 := (h.mark [91]).reg
  have h2 := h1.1.pgn
  have h3 := h2.1.num (pgnS (regS (markS [91] r)).1).2 32768 32767
  unfold placeS
  rw [← h2.2, ← h1.2, ← h3.2 16]
  exact ⟨h3.1.mark [93], rfl⟩
theorem ER.name {r q : RS} (h : ER r q) : ER (nameS r) (nameS q) := by
  have ht : q.tok = r.tok ∧ q.wrong = r.wrong := by obtain ⟨x, rfl, _⟩ := h; exact ⟨rfl, rfl⟩
  unfold nameS
  rw [ht.1, ht.2]
  exact (h.set (fun p => { p with wrong := r.wrong || !nameP r.tok, tgt := r.tok }) (fun _ _ => rfl) (fun _ => rfl)).next
theorem ER.srcS {r q : RS} (h : ER r q) : ER (srcS r) (srcS q) := by
  have hi := h.imm
  have h1 := (h.set (fun p => { p with o := orB r.o }) (fun _ _ => rfl) (fun _ => rfl)).reg
  obtain ⟨x, rfl, hx⟩ := h
  unfold YtcjhgihpahnnoaaGreatDoor.srcS
  simp only
  cases startP r.tok with
  | false => exact hi
  | true =>
    simp only [if_true] at h1 ⊢
    rw [← h1.2]
    exact h1.1.set (fun p => { p with s := (regS { r with o := orB r.o }).2 }) (fun _ _ => rfl) (fun _ => rfl)
theorem ER.helpS {r q : RS} (h : ER r q) : ER (helpS r) (helpS q) := by
  have hi := h.imm
  have h1 := (h.set (fun p => { p with s := 1, i := -1 }) (fun _ _ => rfl) (fun _ => rfl)).name
  obtain ⟨x, rfl, hx⟩ := h
  unfold YtcjhgihpahnnoaaGreatDoor.helpS
  simp only
  cases startP r.tok with
  | false => exact hi
  | true => exact h1
theorem ER.opS {r q : RS} (h : ER r q) (c : Int) : ER (opS c r) (opS c q) := by
  unfold YtcjhgihpahnnoaaGreatDoor.opS
  split
  · rw [← h.reg.2]; exact h.reg.1.set (fun p => { p with d := (regS r).2 }) (fun _ _ => rfl) (fun _ => rfl)
  split
  · rw [← h.reg.2]; exact h.reg.1.set (fun p => { p with s := (regS r).2 }) (fun _ _ => rfl) (fun _ => rfl)
  split
  · exact h.imm
  split
  · exact h.srcS
  split
  · rw [← h.place.2]; exact h.place.1.set (fun p => { p with s := (placeS r).2.1, f := (placeS r).2.2 }) (fun _ _ => rfl) (fun _ => rfl)
  split
  · rw [← h.place.2]; exact h.place.1.set (fun p => { p with d := (placeS r).2.1, f := (placeS r).2.2 }) (fun _ _ => rfl) (fun _ => rfl)
  split
  · exact h.name
  split
  · exact h.helpS
  · exact h
theorem ER.opdL {r q : RS} (h : ER r q) (t : Int × Int × Int) : ER (opdL t r) (opdL t q) := by
  unfold YtcjhgihpahnnoaaGreatDoor.opdL
  split
  · exact h
  split
  · exact h.opS _
  split
  · exact ((h.opS _).mark _).opS _
  · exact ((((h.opS _).mark _).opS _).mark _).opS _
theorem ER.behind {r q : RS} (h : ER r q) (m : Mn) : ER (behindS m r) (behindS m q) := by
  have h1 : ER (YtcjhgihpahnnoaaGreatDoor.opdL (tOf m.1 m.2.1 m.2.2.1) (RS.next { r with o := m.1, d := 0, s := m.2.1, f := m.2.2.1, i := m.2.2.2 })) (YtcjhgihpahnnoaaGreatDoor.opdL (tOf m.1 m.2.1 m.2.2.1) (RS.next { q with o := m.1, d := 0, s := m.2.1, f := m.2.2.1, i := m.2.2.2 })) :=
    ((h.set (fun p => { p with o := m.1, d := 0, s := m.2.1, f := m.2.2.1, i := m.2.2.2 }) (fun _ _ => rfl) (fun _ => rfl)).next).opdL _
  unfold behindS opsS
  have ht : (YtcjhgihpahnnoaaGreatDoor.opdL (tOf m.1 m.2.1 m.2.2.1) (RS.next { q with o := m.1, d := 0, s := m.2.1, f := m.2.2.1, i := m.2.2.2 })).tok = (YtcjhgihpahnnoaaGreatDoor.opdL (tOf m.1 m.2.1 m.2.2.1) (RS.next { r with o := m.1, d := 0, s := m.2.1, f := m.2.2.1, i := m.2.2.2 })).tok ∧ (YtcjhgihpahnnoaaGreatDoor.opdL (tOf m.1 m.2.1 m.2.2.1) (RS.next { q with o := m.1, d := 0, s := m.2.1, f := m.2.2.1, i := m.2.2.2 })).wrong = (YtcjhgihpahnnoaaGreatDoor.opdL (tOf m.1 m.2.1 m.2.2.1) (RS.next { r with o := m.1, d := 0, s := m.2.1, f := m.2.2.1, i := m.2.2.2 })).wrong := by
    obtain ⟨x, e, _⟩ := h1
    rw [e]
    exact ⟨rfl, rfl⟩
  rw [ht.1, ht.2]
  exact h1.set (fun p => { p with wrong := (YtcjhgihpahnnoaaGreatDoor.opdL (tOf m.1 m.2.1 m.2.2.1) (RS.next { r with o := m.1, d := 0, s := m.2.1, f := m.2.2.1, i := m.2.2.2 })).wrong || !(YtcjhgihpahnnoaaGreatDoor.opdL (tOf m.1 m.2.1 m.2.2.1) (RS.next { r with o := m.1, d := 0, s := m.2.1, f := m.2.2.1, i := m.2.2.2 })).tok.isEmpty }) (fun _ _ => rfl) (fun _ => rfl)
/-- texts with the same tokens read alike -/
theorem parse_TE {l m : List UInt8} (h : TE l m) : parseP l = parseP m := by
  have h0 : ER (newR l) (newR m) := ⟨restP m, by show (⟨restP m, tokP m, 0, 0, 0, 0, 0, [], false, false⟩ : RS) = ⟨restP m, tokP l, 0, 0, 0, 0, 0, [], false, false⟩; rw [h.tok], h.rest⟩
  have ht : (newR m).tok = (newR l).tok := by obtain ⟨x, e, _⟩ := h0; rw [e]
  unfold parseP
  rw [ht]
  cases meanOf (newR l).tok with
  | none => rfl
  | some k =>
    simp only
    obtain ⟨x, e, _⟩ := h0.behind k
    rw [e]
end Go.Proofs.YtcjhgihpahnnoaaGreatDoor
