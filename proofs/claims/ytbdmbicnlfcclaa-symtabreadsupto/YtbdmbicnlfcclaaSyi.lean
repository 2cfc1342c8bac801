import Derived.Test.YtbdmbicnlfcclaaSyh
import Derived.Test.YtbdmbicnlfcclaaSye1
import Derived.Test.YtbdmbicnlfcclaaSye2
import Derived.Test.YtbdmbicnlfcclaaSye3
import Derived.Test.YtbdmbicnlfcclaaSye4
namespace Go.Proofs.Ytbdmbicnlfcclaa
open Go.RowKit
set_option linter.unusedVariables false
set_option linter.unusedSimpArgs false
theorem take_any (k : Nat) (hk : 1 ≤ k ∧ k ≤ 4) (w : World) (p : Nat) (r c v n : Int) (h : RB w p ⟨r, c, v⟩) (hc : 0 ≤ c ∧ c ≤ 10000000000000) : Calls Try.prog 32 #[.pointer (some ⟨p, 0, none⟩), kv k, .int .i64 n] w fun e w' => TkEnd w p (tkS ⟨r, c, v⟩ k n) e w' := by
  match k, hk with
  | 1, _ => exact take1 w p r c v n h hc
  | 2, _ => exact take2 w p r c v n h hc
  | 3, _ => exact take3 w p r c v n h hc
  | 4, _ => exact take4 w p r c v n h hc
def Sy.cs (s : Sy) : List Value := [.int .i64 s.na, .int .i64 s.bi, .int .i64 s.ki, .int .i64 s.se, .int .i64 s.va, .int .i64 s.si]
def syV (l : List Sy) : List Value := l.flatMap Sy.cs
theorem syV_len (l : List Sy) : (syV l).length = l.length * 6 := by
  induction l with
  | nil => rfl
  | cons x r ih => show (x.cs ++ syV r).length = _; rw [List.length_append, ih]; simp [Sy.cs]; omega
theorem syV_app (l m : List Sy) : syV (l ++ m) = syV l ++ syV m := by simp [syV, List.flatMap_append]
theorem syV_one (l : List Sy) : ∀ u ∈ syV l, u.oneCell' = true := by
  intro u hu
  simp only [syV, List.mem_flatMap] at hu
  obtain ⟨x, _, hx⟩ := hu
  simp only [Sy.cs, List.mem_cons, List.not_mem_nil, or_false] at hx
  rcases hx with rfl | rfl | rfl | rfl | rfl | rfl <;> rfl
theorem syV_get : ∀ (l : List Sy) (i : Nat) (x : Sy) (j : Nat), l[i]? = some x → j < 6 → (syV l)[i * 6 + j]? = x.cs[j]?
  | [], _, _, _, h, _ => by simp at h
  | y :: r, 0, x, j, h, hj => by
    simp at h; subst h
    show (y.cs ++ syV r)[0 * 6 + j]? = _
    rw [List.getElem?_append_left (by simp [Sy.cs]; omega)]; simp
  | y :: r, i + 1, x, j, h, hj => by
    show (y.cs ++ syV r)[(i + 1) * 6 + j]? = _
    rw [List.getElem?_append_right (by simp [Sy.cs]; omega), ← syV_get r i x j (by simpa using h) hj]
    congr 1
    simp [Sy.cs]; omega
/-- symbols at an address -/
def SyAt (B : Nat) (w : World) (a : Option Addr) (L : List Sy) : Prop := L = [] ∨ ∃ b off, b < B ∧ a = some ⟨b, off, none⟩ ∧ ∀ k u, (syV L)[k]? = some u → w.cell? ⟨b, off + k, none⟩ = some u
theorem SyAt.out {w w' : World} {a : Option Addr} {L : List Sy} (h : SyAt w.heap.size w a L) (o : Out w w') : SyAt w'.heap.size w' a L := by
  rcases h with h | ⟨g, of, hg, ha, hc⟩
  · exact .inl h
  · exact .inr ⟨g, of, Nat.lt_of_lt_of_le hg o.size, ha, fun k x hx => cell_later o (hc k x hx)⟩
structure Cells6 (w : World) (b off : Nat) (x : Sy) : Prop where
  c0 : w.cell? ⟨b, off, none⟩ = some (.int .i64 x.na)
  c1 : w.cell? ⟨b, off + 1, none⟩ = some (.int .i64 x.bi)
  c2 : w.cell? ⟨b, off + 2, none⟩ = some (.int .i64 x.ki)
  c3 : w.cell? ⟨b, off + 3, none⟩ = some (.int .i64 x.se)
  c4 : w.cell? ⟨b, off + 4, none⟩ = some (.int .i64 x.va)
  c5 : w.cell? ⟨b, off + 5, none⟩ = some (.int .i64 x.si)
theorem SyAt.get {B : Nat} {w : World} {a : Option Addr} {L : List Sy} (h : SyAt B w a L) {i : Nat} {x : Sy} (hx : L[i]? = some x) : ∃ b off, a = some ⟨b, off, none⟩ ∧ b < B ∧ Cells6 w b (off + i * 6) x := by
  rcases h with rfl | ⟨g, o, hg, ha, hc⟩
  · simp at hx
  · have key : ∀ j, j < 6 → w.cell? ⟨g, o + i * 6 + j, none⟩ = x.cs[j]? := fun j hj => by
      have hlt : j < x.cs.length := by simpa [Sy.cs] using hj
      rw [Nat.add_assoc, hc (i * 6 + j) (x.cs[j]'hlt) (by rw [syV_get L i x j hx hj, List.getElem?_eq_getElem hlt]), List.getElem?_eq_getElem hlt]
    exact ⟨g, o, ha, hg, key 0 (by omega), key 1 (by omega), key 2 (by omega), key 3 (by omega), key 4 (by omega), key 5 (by omega)⟩
theorem Cells6.later {w w' : World} {b off : Nat} {x : Sy} (h : Cells6 w b off x) (o : Out w w') : Cells6 w' b off x := ⟨cell_later o h.c0, cell_later o h.c1, cell_later o h.c2, cell_later o h.c3, cell_later o h.c4, cell_later o h.c5⟩
/-- numbers that are ints -/
structure SyOk (s : Sy) : Prop where
  va : s.va ≤ 9223372036854775807
  si : s.si ≤ 9223372036854775807
/-- what Write answers -/
def wrF (q : Rn) : List Sy → List UInt8 → Option (List UInt8) × Int
  | [], b => (some b, 0)
  | s :: r, b => if soP s = 0 then (none, 100) else match tkS q (soP s) s.va with
    | none => (none, 101)
    | some q' => wrF q' r (b ++ enB s)
def wrP (ss : List Sy) : Option (List UInt8) × Int := wrF ⟨0, 0, 0⟩ ss (List.replicate 24 0)
theorem wrF_step {q : Rn} {L : List Sy} {i : Nat} {x : Sy} {b : List UInt8} (h : L[i]? = some x) : wrF q (L.drop i) b = if soP x = 0 then (none, 100) else match tkS q (soP x) x.va with
    | none => (none, 101)
    | some q' => wrF q' (L.drop (i + 1)) (b ++ enB x) := by
  obtain ⟨hi, hx⟩ := List.getElem?_eq_some_iff.1 h
  rw [List.drop_eq_getElem_cons hi, hx, wrF]
theorem tkS_c {q q' : Rn} {k : Nat} {v : Int} (h : tkS q k v = some q') : q'.c ≤ max q.c 0 + 1 ∧ (0 ≤ q.c → 0 ≤ q'.c) := by
  unfold tkS at h
  split at h
  · cases h
  · split at h
    · cases h
    · have h := Option.some.inj h
      rw [← h]
      unfold upS
      split <;> simp only <;> omega
theorem so_facts {s : Sy} (h : 0 < soP s) : 1 ≤ soP s ∧ soP s ≤ 4 ∧ soP s = fifP (16 * s.bi + s.ki) ∧ 0 ≤ s.na ∧ s.na ≤ 4294967295 ∧ 0 ≤ s.bi ∧ s.bi < 16 ∧ 0 ≤ s.ki ∧ s.ki < 16 ∧ ffP (soP s) s = none := by
  have h4 := fif_lt (16 * s.bi + s.ki)
  unfold soP at h ⊢
  split at h
  · rename_i hc
    rw [if_pos hc]
    exact ⟨h, h4, rfl, hc.2.2.2.2.1, hc.2.2.2.2.2.1, hc.1, hc.2.1, hc.2.2.1, hc.2.2.2.1, hc.2.2.2.2.2.2⟩
  · omega
theorem ff_facts {k : Nat} {s : Sy} (h : ffP k s = none) : s.se = seP k ∧ vaP k s.va = true ∧ siP k s.si = true := by
  unfold ffP at h
  split at h
  · cases h
  · rename_i h1
    split at h
    · cases h
    · rename_i h2
      split at h
      · cases h
      · rename_i h3
        exact ⟨Classical.byContradiction h1, by simpa using h2, by simpa using h3⟩
theorem va_pos {k : Nat} {n : Int} (h : vaP k n = true) : 0 ≤ n := by
  unfold vaP at h
  split at h
  · simp at h; omega
  · simp at h; omega
  · simp at h; omega
theorem si_pos {k : Nat} {n : Int} (h : siP k n = true) : 0 ≤ n := by
  unfold siP at h
  split at h
  · simp at h; omega
  · simp at h; omega
  · simp at h; omega
theorem se_pos (k : Nat) : 0 ≤ seP k ∧ seP k ≤ 2 := by
  unfold seP
  split <;> omega
theorem lay_ok {s : Sy} (h : 0 < soP s) (hk : SyOk s) : LayOk s := by
  obtain ⟨_, _, _, h1, h2, h3, h4, h5, h6, h7⟩ := so_facts h
  obtain ⟨f1, f2, f3⟩ := ff_facts h7
  have := se_pos (soP s)
  exact ⟨⟨h1, by omega⟩, ⟨h3, h4⟩, ⟨h5, h6⟩, ⟨by omega, by omega⟩, ⟨va_pos f2, hk.va⟩, ⟨si_pos f3, hk.si⟩⟩
end Go.Proofs.Ytbdmbicnlfcclaa
