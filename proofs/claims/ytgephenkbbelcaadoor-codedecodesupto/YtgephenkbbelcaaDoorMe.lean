import Derived.Test.YtgephenkbbelcaaDoorPm
import Derived.Deep.OwnRows
namespace Go.Proofs.YtgephenkbbelcaaDoor
open Go.RowKit
set_option linter.unusedVariables false
set_option linter.unusedSimpArgs false

/-- only blocks of S, or new ones, are changed -/
structure Chg (S : Nat → Prop) (w w' : World) : Prop where
  os : w'.os = w.os
  tape : w'.tape = w.tape
  output : w'.output = w.output
  size : w.heap.size ≤ w'.heap.size
  block : ∀ k, k < w.heap.size → ¬ S k → w'.heap[k]? = w.heap[k]?
theorem Chg.refl (S : Nat → Prop) (w : World) : Chg S w w := ⟨rfl, rfl, rfl, Nat.le_refl _, fun _ _ _ => rfl⟩
theorem Chg.trans {S T : Nat → Prop} {a b c : World} (h : Chg S a b) (k : Chg T b c) (hST : ∀ x, T x → x < a.heap.size → S x) : Chg S a c :=
  ⟨k.os.trans h.os, k.tape.trans h.tape, k.output.trans h.output, Nat.le_trans h.size k.size, fun i hi hs => (k.block i (Nat.lt_of_lt_of_le hi h.size) (fun ht => hs (hST i ht hi))).trans (h.block i hi hs)⟩
theorem Chg.of_out {S : Nat → Prop} {w w' : World} (h : Out w w') : Chg S w w' := ⟨h.os, h.tape, h.output, h.size, fun k hk _ => h.block k hk⟩
theorem Chg.of_grown {S : Nat → Prop} {w w' : World} {row : Option Nat} (h : w.grownBy w' row) (hr : ∀ k, row = some k → S k) : Chg S w w' :=
  ⟨h.os, h.tape, h.output, h.size, fun k hk hs => h.block k hk (fun e => hs (hr k e.symm))⟩
theorem Chg.alloc {S : Nat → Prop} {a w : World} (h : Chg S a w) (o : Obj) : Chg S a (w.alloc o) :=
  h.trans (T := fun _ => False) ⟨rfl, rfl, rfl, by simp, fun k hk _ => Below.heap_alloc _ _ _ hk⟩ (fun _ hx _ => hx.elim)
theorem Chg.drew {S : Nat → Prop} {a w : World} (h : Chg S a w) : Chg S a w.drew := ⟨h.os, h.tape, h.output, h.size, h.block⟩
theorem Chg.setCell {S : Nat → Prop} {a w : World} (h : Chg S a w) {p : Addr} (hp : S p.block) (u : Value) : Chg S a (w.setCell p u) :=
  h.trans (T := fun k => k = p.block) ⟨rfl, rfl, rfl, by simp [World.setCell], fun k hk hs => Below.heap_setCell _ _ _ _ hs⟩ (fun x hx _ => hx ▸ hp)
theorem Chg.mono {S T : Nat → Prop} {w w' : World} (h : Chg S w w') (hST : ∀ x, S x → x < w.heap.size → T x) : Chg T w w' :=
  ⟨h.os, h.tape, h.output, h.size, fun k hk ht => h.block k hk (fun hs => ht (hST k hs hk))⟩
theorem Chg.below {S : Nat → Prop} {B : Nat} {w w' : World} (h : Chg S w w') (hB : B ≤ w.heap.size) (hS : ∀ k, S k → B ≤ k) : Below B w w' :=
  ⟨h.os, h.tape, h.output, h.size, fun k hk => h.block k (by omega) (fun hs => by have := hS k hs; omega)⟩
theorem Chg.out {S : Nat → Prop} {w0 w w' : World} (h : Chg S w w') (ho : Out w0 w) (hS : ∀ k, S k → w0.heap.size ≤ k) : Out w0 w' :=
  Below.trans ho (h.below ho.size hS)
theorem Chg.cell {S : Nat → Prop} {w w' : World} (h : Chg S w w') {a : Addr} {v : Value} (hc : w.cell? a = some v) (hs : ¬ S a.block) : w'.cell? a = some v := by
  rw [← hc]; exact World.cell?_of_block (h.block _ (World.block_lt_of_cell? w a hc) hs)
/-- the tables -/
def Tabs (w : World) : Prop := TabA w ∧ TabO w
theorem Tabs.out {w w' : World} (h : Tabs w) (o : Out w w') : Tabs w' := ⟨h.1.out o, h.2.out o⟩

/-- a slice of instructions at an address, that reads l -/
def InsA (w : World) (a : Option Addr) (l : List Ins) : Prop :=
  l = [] ∨ ∃ b off, a = some ⟨b, off, none⟩ ∧ ∀ k x, l[k]? = some x → w.cell? ⟨b, off + k * 5, none⟩ = some (.int .i64 x.o) ∧ w.cell? ⟨b, off + k * 5 + 1, none⟩ = some (.int .i64 x.d) ∧
    w.cell? ⟨b, off + k * 5 + 2, none⟩ = some (.int .i64 x.s) ∧ w.cell? ⟨b, off + k * 5 + 3, none⟩ = some (.int .i64 x.f) ∧ w.cell? ⟨b, off + k * 5 + 4, none⟩ = some (.int .i64 x.i)
theorem InsA.out {w w' : World} {a : Option Addr} {l : List Ins} (h : InsA w a l) (o : Out w w') : InsA w' a l := by
  rcases h with h | ⟨b, off, rfl, h⟩
  · exact .inl h
  · exact .inr ⟨b, off, rfl, fun k x hx => by
      obtain ⟨h0, h1, h2, h3, h4⟩ := h k x hx
      exact ⟨cell_later o h0, cell_later o h1, cell_later o h2, cell_later o h3, cell_later o h4⟩⟩
/-- bytes at an address, that read B -/
def BytA (w : World) (a : Option Addr) (B : List Int) : Prop :=
  B = [] ∨ ∃ b off, a = some ⟨b, off, none⟩ ∧ ∀ k, k < B.length → w.cell? ⟨b, off + k, none⟩ = some (.int .u8 (gB B k))
theorem BytA.out {w w' : World} {a : Option Addr} {B : List Int} (h : BytA w a B) (o : Out w w') : BytA w' a B := by
  rcases h with h | ⟨b, off, rfl, h⟩
  · exact .inl h
  · exact .inr ⟨b, off, rfl, fun k hk => cell_later o (h k hk)⟩
def may (x : Ins) : Int := mayP x.o x.d x.s x.f x.i

theorem wide_lit (w : World) (o d s f i : Int) : Calls Tryd.prog 29 #[.agg #[.int .i64 o, .int .i64 d, .int .i64 s, .int .i64 f, .int .i64 i]] w fun e w' => e = .returned (.bool (isW o)) ∧ Out w w' := by
  go_enter Tryd.func29, Tryd.ntmps29
  go_wp2
  go_ret
  exact ⟨rfl, Out.alloc (Out.refl _) _⟩
theorem take_filter (l : List Ins) (k : Nat) (x : Ins) (h : l[k]? = some x) : ((l.take (k + 1)).filter (fun x => isW x.o)).length = ((l.take k).filter (fun x => isW x.o)).length + (if isW x.o then 1 else 0) := by
  rw [List.take_add_one, h]
  simp only [Option.toList_some, List.filter_append, List.length_append, List.filter_cons, List.filter_nil]
  split <;> simp
theorem slots_any (w : World) (a : Option Addr) (n cap : Nat) (l : List Ins) (hn : l.length = n) (hi : InsA w a l) (hm : n ≤ 3518437208883) : Calls Tryd.prog 23 #[.slice a n cap] w fun e w' => e = .returned (.int .i64 (slotsP l : Nat)) ∧ Out w w' := by
  have hb0 : ∀ k : Nat, ((l.take k).filter (fun x => isW x.o)).length ≤ n := fun k => Nat.le_trans (List.length_filter_le _ _) (by simp; omega)
  go_enter Tryd.func23, Tryd.ntmps23
  go_wp2
  go_loopw [3, 10] (fun c i wr => ∃ k m : Nat, k ≤ n ∧ Hid (m = ((l.take k).filter (fun x => isW x.o)).length) ∧ m ≤ n ∧ c = .int .i64 ((n : Int) + m) ∧ i = .int .i64 k ∧ Out w wr) (fun _ i _ => n - (intOf i).toNat)
  case atStart => exact ⟨0, 0, by omega, by simp [Hid], by omega, by simp, rfl, Out.refl _⟩
  case round =>
    obtain ⟨k, m, hk, hm1, hm2, rfl, rfl, hor⟩ := hrel
    by_cases hkl : k < n
    · have hlt : (k : Int) < n := by omega
      rcases hi with hz | ⟨b, off, rfl, hc⟩
      · simp [hz] at hn; omega
      obtain ⟨x, hx⟩ : ∃ x, l[k]? = some x := ⟨_, List.getElem?_eq_getElem (by omega)⟩
      obtain ⟨c0, c1, c2, c3, c4⟩ := hc k x hx
      have q0 := cell_later hor c0
      have q1 := cell_later hor c1
      have q2 := cell_later hor c2
      have q3 := cell_later hor c3
      have q4 := cell_later hor c4
      have hF := take_filter l k x hx
      have hb1 := hb0 (k + 1)
      obtain ⟨o, d, s, f, i⟩ := x
      clear hc c0 c1 c2 c3 c4
      simp only at q0 q1 q2 q3 q4 hF
      cases hw : isW o
      · rw [hw] at hF
        go_wp2_with (go_at_call 29; refine (wide_lit _ _ _ _ _ _).mono ?_; rw [hw]; rintro e w1 ⟨rfl, h1⟩)
        go_roundw
        case rel => exact ⟨k + 1, m, by omega, by have := hm1.out; simp [Hid]; rw [hF]; simpa using this, hm2, rfl, by simp, Out.trans (hor.alloc _) h1⟩
        case measure => simp [intOf]; omega
      · rw [hw] at hF
        have hm3 : m + 1 ≤ n := by have := hm1.out; simp at hF; omega
        go_wp2_with (go_at_call 29; refine (wide_lit _ _ _ _ _ _).mono ?_; rw [hw]; rintro e w1 ⟨rfl, h1⟩)
        go_roundw
        case rel => exact ⟨k + 1, m + 1, by omega, by have := hm1.out; simp [Hid]; rw [hF]; simp; exact this, hm3, by simp; omega, by simp, Out.trans (hor.alloc _) h1⟩
        case measure => simp [intOf]; omega
    · have hlt : ¬ (k : Int) < n := by omega
      obtain rfl : k = n := by omega
      go_wp2
      go_ret
      refine ⟨?_, hor⟩
      have := hm1.out
      rw [List.take_of_length_le (by omega)] at this
      simp only [slotsP, ← this, hn]
      simp
end Go.Proofs.YtgephenkbbelcaaDoor
