import Derived.Test.YtcalbhcgimipeaaElr
namespace Go.Proofs.Ytcalbhcgimipeaa
open Go.RowKit
set_option linter.unusedVariables false
set_option linter.unusedSimpArgs false
def enV (l : List En) : List Value := l.flatMap En.cs
theorem enV_len (l : List En) : (enV l).length = l.length * 12 := by
  induction l with
  | nil => rfl
  | cons x r ih => show (x.cs ++ enV r).length = _; rw [List.length_append, ih]; simp [En.cs]; omega
theorem enV_app (l m : List En) : enV (l ++ m) = enV l ++ enV m := by simp [enV, List.flatMap_append]
theorem enV_one (l : List En) : ∀ u ∈ enV l, u.oneCell' = true := by
  intro u hu
  simp only [enV, List.mem_flatMap] at hu
  obtain ⟨x, _, hx⟩ := hu
  simp only [En.cs, List.mem_cons, List.not_mem_nil, or_false] at hx
  rcases hx with rfl | rfl | rfl | rfl | rfl | rfl | rfl | rfl | rfl | rfl | rfl | rfl <;> rfl
def OwE (B : Nat) (v : Value) (E : List En) (w : World) : Prop := w.ownsRow B 126 12 v E.length (enV E)
/-- the file that is being read, at p -/
structure FS (w0 wr : World) (p g off n c T : Nat) (ev : Value) (E : List En) : Prop where
  fil : wr.heap[p]? = some (.cells #[.slice (some ⟨g, off, none⟩) n c, .int .i64 (T : Int), ev] 91 (0, 0))
  own : OwE w0.heap.size ev E wr
  ge : w0.heap.size ≤ p
  out : Out w0 wr
theorem FS.cell {w0 wr : World} {p g off n c T : Nat} {ev : Value} {E : List En} (h : FS w0 wr p g off n c T ev E) (j : Nat) : wr.cell? ⟨p, j, none⟩ = (#[.slice (some ⟨g, off, none⟩) n c, .int .i64 (T : Int), ev] : Array Value)[j]? := by simp [World.cell?, h.fil]
theorem FS.frozen {w0 wr : World} {p g off n c T : Nat} {ev : Value} {E : List En} (h : FS w0 wr p g off n c T ev E) (j : Nat) : wr.frozen? ⟨p, j, none⟩ = false := by simp [World.frozen?, h.fil]
theorem FS.lt {w0 wr : World} {p g off n c T : Nat} {ev : Value} {E : List En} (h : FS w0 wr p g off n c T ev E) : p < wr.heap.size := (Array.getElem?_eq_some_iff.1 h.fil).1
theorem FS.on {w0 wr w' : World} {p g off n c T : Nat} {ev : Value} {E : List En} (h : FS w0 wr p g off n c T ev E) (o : Out wr w') : FS w0 w' p g off n c T ev E :=
  ⟨(o.block p h.lt).trans h.fil, owns_chg (S := fun _ => False) h.own (fun _ _ h => h) (Chg.of_out o), h.ge, h.out.trans o⟩
/-- behind an append to the entries, and the store of the list -/
theorem FS.push {w0 X w' : World} {p g off n c T g4 c4 : Nat} {ev : Value} {E : List En} {x : En} (h : FS w0 X p g off n c T ev E) (hg : X.grownBy w' ev.ownBlock) (ho : w'.ownsRow w0.heap.size 126 12 (.slice (some ⟨g4, 0, none⟩) (E.length + 1) c4) (E.length + 1) (enV E ++ x.cs)) (hw : ev.ownBlock = some g4 ∨ g4 = X.heap.size) :
    FS w0 (w'.setCell ⟨p, 2, none⟩ (.slice (some ⟨g4, 0, none⟩) (E.length + 1) c4)) p g off n c T (.slice (some ⟨g4, 0, none⟩) (E.length + 1) c4) (E ++ [x]) ∧ w'.cell? ⟨p, 2, none⟩ = some ev ∧ w'.frozen? ⟨p, 2, none⟩ = false := by
  have hnp : ¬ ev.ownBlock = some p := own_type h.own h.fil (by decide)
  have hc : Chg (fun k => ev.ownBlock = some k) X w' := Chg.of_grown hg (fun k hk => hk)
  have hp : w'.heap[p]? = X.heap[p]? := hc.block p h.lt hnp
  have hf := hp.trans h.fil
  have hne : ¬ g4 = p := by
    rcases hw with hw | hw
    · intro e; exact hnp (by rw [hw, e])
    · have := h.lt; omega
  have c2 : Chg (fun k => k = p) w' (w'.setCell ⟨p, 2, none⟩ (.slice (some ⟨g4, 0, none⟩) (E.length + 1) c4)) := Chg.setCell (S := fun k => k = p) (Chg.refl _ w') (p := ⟨p, 2, none⟩) rfl _
  refine ⟨⟨?_, ?_, h.ge, ?_⟩, by simp [World.cell?, hf], by simp [World.frozen?, hf]⟩
  · simp [World.setCell, Array.getElem?_modify, hf]
  · have := owns_chg ho (fun k hk e => by simp [Value.ownBlock] at hk; exact hne (by rw [hk, e])) c2
    unfold OwE
    rw [enV_app, List.length_append]
    simpa [enV] using this
  · exact (Chg.out (S := fun k => ev.ownBlock = some k) hc h.out (fun k hk => (h.own.lt k hk).1)).setCell (a := ⟨p, 2, none⟩) h.ge _
/-- entry by entry -/
def tkF (l : List UInt8) (T : Nat) : Nat → Nat → Nat → List En → List En × Option Nat
  | 0, _, _, E => (E, none)
  | k + 1, place, begin, E =>
    match fltF ((l.drop place).take 64) 0 (rowW T l.length place begin).fds with
    | some a => (E, some (place + a))
    | none => tkF l T k (place + 64) (up8 (begin + (fldI ((l.drop place).take 64) 32 8).toNat)) (E ++ [enP ((l.drop place).take 64) place begin])
/-- a field that is right -/
theorem flt_get (l : List UInt8) : ∀ (L : List Fd) (i p : Nat) (f : Fd), fltF l p L = none → L[i]? = some f → f.lo ≤ nmB ((l.drop (p + widF (L.take i))).take f.w) ∧ nmB ((l.drop (p + widF (L.take i))).take f.w) ≤ f.hi
  | [], i, p, f, _, h => by simp at h
  | f' :: r, 0, p, f, hn, h => by
    simp at h; subst h
    unfold fltF at hn
    split at hn
    · cases hn
    · simp [widF]; omega
  | f' :: r, i + 1, p, f, hn, h => by
    unfold fltF at hn
    split at hn
    · cases hn
    · have := flt_get l r i (p + f'.w) f hn (by simpa using h)
      simpa [widF, Nat.add_assoc] using this
theorem wrap64_small (n : Nat) (h : n ≤ 1000000000000) : wrap64 (n : Int) = n := by
  unfold wrap64
  first | omega | (rw [IntKind.wrap_i64]; omega) | (simp; omega)
theorem size_le {l : List UInt8} {T n place begin : Nat} (hT : T ≤ 1000000000000) (hb : begin ≤ T) (h : fltF l 0 (rowW T n place begin).fds = none) : nmB ((l.drop 32).take 8) ≤ T - begin := by
  have h5 : ∀ r : Rw, fltF l 0 r.fds = none → nmB ((l.drop 32).take 8) ≤ r.s.2 := fun r hr => (flt_get l r.fds 5 0 ⟨8, r.s.1, r.s.2⟩ hr rfl).2
  have hj : jw ((T : Int) - begin) = T - begin := by unfold jw; omega
  unfold rowW at h
  split at h
  · have := h5 _ h; simp [zRw] at this; omega
  · split at h
    · have := h5 _ h; simp only [rowL] at this; rw [hj] at this; exact this
    · have := h5 _ h; simp only [rowM] at this; rw [hj] at this; exact this
end Go.Proofs.Ytcalbhcgimipeaa
