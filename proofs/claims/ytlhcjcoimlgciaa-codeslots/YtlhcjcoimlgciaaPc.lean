import Derived.Test.YtlhcjcoimlgciaaPb
namespace Go.Proofs.Ytlhcjcoimlgciaa
open Go.RowKit
set_option linter.unusedVariables false
set_option linter.unusedSimpArgs false

theorem hidOf {p : Prop} (h : p) : Hid p := h
theorem cell_fresh (w : World) (cs : Array Value) (t : TypeId) (j : Nat) (b : Nat) (hb : b = w.heap.size) : (w.alloc (.cells cs t)).cell? ⟨b, j, none⟩ = cs[j]? := by
  subst hb
  rw [World.cell?, show (w.alloc (.cells cs t)).heap[w.heap.size]? = some (.cells cs t) from heap_alloc_new w _]
  rfl
/-- the box of an instruction -/
structure Box (w : World) (p : Nat) (o d s f i : Int) : Prop where
  c0 : w.cell? ⟨p, 0, none⟩ = some (.int .i64 o)
  c1 : w.cell? ⟨p, 1, none⟩ = some (.int .i64 d)
  c2 : w.cell? ⟨p, 2, none⟩ = some (.int .i64 s)
  c3 : w.cell? ⟨p, 3, none⟩ = some (.int .i64 f)
  c4 : w.cell? ⟨p, 4, none⟩ = some (.int .i64 i)
theorem Box.new (w : World) (o d s f i : Int) (t : TypeId) : Box (w.alloc (.cells #[.int .i64 o, .int .i64 d, .int .i64 s, .int .i64 f, .int .i64 i] t)) w.heap.size o d s f i :=
  ⟨cell_fresh _ _ _ _ _ rfl, cell_fresh _ _ _ _ _ rfl, cell_fresh _ _ _ _ _ rfl, cell_fresh _ _ _ _ _ rfl, cell_fresh _ _ _ _ _ rfl⟩
theorem Box.chg {S : Nat → Prop} {w w' : World} {p : Nat} {o d s f i : Int} (h : Box w p o d s f i) (c : Chg S w w') (hs : ¬ S p) : Box w' p o d s f i :=
  ⟨c.cell h.c0 hs, c.cell h.c1 hs, c.cell h.c2 hs, c.cell h.c3 hs, c.cell h.c4 hs⟩
theorem Box.drew {w : World} {p : Nat} {o d s f i : Int} (h : Box w p o d s f i) : Box w.drew p o d s f i := ⟨h.c0, h.c1, h.c2, h.c3, h.c4⟩
theorem or16 (d s : Int) (d0 : 0 ≤ d) (d1 : d < 16) (s0 : 0 ≤ s) (s1 : s < 16) : bits .or .i64 (s * 16) d = d + 16 * s := by
  have h : ∀ a : Nat, a < 16 → ∀ b : Nat, b < 16 → bits .or .i64 ((b : Int) * 16) (a : Int) = (a : Int) + 16 * (b : Int) := by decide +kernel
  have := h d.toNat (by omega) s.toNat (by omega)
  rwa [show ((d.toNat : Nat) : Int) = d by omega, show ((s.toNat : Nat) : Int) = s by omega] at this
theorem w64_lo (x : Int) : 0 ≤ IntKind.u64.wrap x := by rw [IntKind.wrap_u64]; omega
theorem w64_hi (x : Int) : IntKind.u64.wrap x < 18446744073709551616 := by rw [IntKind.wrap_u64]; omega
theorem w64_16 (x : Int) : [IntKind.u64.wrap x % 256, IntKind.u64.wrap x / 256 % 256] = [x % 256, x / 256 % 256] := by
  rw [IntKind.wrap_u64]; simp only [List.cons.injEq, and_true]; omega
theorem w64_by4 (x : Int) : by4 (IntKind.u64.wrap x) = by4 x := by
  rw [IntKind.wrap_u64]; simp only [by4, List.cons.injEq, and_true]; omega
theorem w64_hi4 (x : Int) : by4 (IntKind.u64.wrap x / 4294967296) = by4 (x / 4294967296) := by
  have : IntKind.u64.wrap x / 4294967296 = x / 4294967296 % 4294967296 := by rw [IntKind.wrap_u64]; omega
  rw [this]
  generalize x / 4294967296 = y
  simp only [by4, List.cons.injEq, and_true]; omega
theorem w64_or (d s : Int) (d0 : 0 ≤ d) (d1 : d < 16) (s0 : 0 ≤ s) (s1 : s < 16) : IntKind.u64.wrap (bits BinOp.or IntKind.i64 (IntKind.i64.wrap (s * 16)) d) = d + 16 * s := by
  rw [show IntKind.i64.wrap (s * 16) = s * 16 from by rw [IntKind.wrap_i64]; omega, or16 d s d0 d1 s0 s1, IntKind.wrap_u64]; omega
theorem lay_app (f : Nat → Value) (o q : Nat) (A B : List Int) (h : q = o + A.length) : lay (lay f o A) q B = lay f o (A ++ B) := by
  subst h; funext j; exact lay_lay f o A B j
theorem lay_enc (f : Nat → Value) (o : Nat) (op d s fo i : Int) (hw : isW op = false) : lay (lay (lay (lay f o [op % 256]) (o + 1) [(d + 16 * s) % 256]) (o + 2) [IntKind.u64.wrap fo % 256, IntKind.u64.wrap fo / 256 % 256]) (o + 4) (by4 (IntKind.u64.wrap i)) = lay f o (enc1 ⟨op, d, s, fo, i⟩) := by
  rw [w64_16, w64_by4, lay_app f o (o + 1) _ _ rfl, lay_app f o (o + 2) _ _ rfl, lay_app f o (o + 4) _ _ rfl]
  simp [enc1, encT, hw]
theorem lay_encW (f : Nat → Value) (n o : Nat) (op d s fo i : Int) (hw : isW op = true) (hz : ∀ j, o ≤ j → j < n → f j = .int .u8 0) (ho : o + 16 ≤ n) (j : Nat) (hj : j < n) : lay (lay (lay (lay (lay f o [op % 256]) (o + 1) [(d + 16 * s) % 256]) (o + 2) [IntKind.u64.wrap fo % 256, IntKind.u64.wrap fo / 256 % 256]) (o + 4) (by4 (IntKind.u64.wrap i))) (o + 12) (by4 (IntKind.u64.wrap i / 4294967296)) j = lay f o (enc1 ⟨op, d, s, fo, i⟩) j := by
  rw [w64_16, w64_by4, w64_hi4, lay_app f o (o + 1) _ _ rfl, lay_app f o (o + 2) _ _ rfl, lay_app f o (o + 4) _ _ rfl]
  have e8 : ∀ F : Nat → Value, (∀ j, o ≤ j → j < n → F j = .int .u8 0) → ∀ A : List Int, A.length = 8 → ∀ C : List Int, C.length = 4 → lay (lay F o A) (o + 12) C j = lay F o (A ++ ([0, 0, 0, 0] ++ C)) j := by
    intro F hF A hA C hC
    have hm : lay F o (A ++ ([0, 0, 0, 0] ++ C)) j = lay (lay (lay F o A) (o + 8) [0, 0, 0, 0]) (o + 12) C j := by
      rw [lay_app F o (o + 8) _ _ (by omega), lay_app F o (o + 12) _ _ (by simp; omega), List.append_assoc]
    rw [hm]
    unfold lay
    simp only [hA, hC, List.length_cons, List.length_nil]
    by_cases h1 : o + 12 ≤ j ∧ j < o + 12 + 4
    · rw [if_pos h1, if_pos h1]
    · rw [if_neg h1, if_neg h1]
      by_cases h2 : o + 8 ≤ j ∧ j < o + 8 + (0 + 1 + 1 + 1 + 1)
      · rw [if_pos h2, if_neg (by omega), hF j (by omega) hj]
        have : ∀ q, gB [0, 0, 0, 0] q = 0 := by
          intro q
          match q with
          | 0 => rfl
          | 1 => rfl
          | 2 => rfl
          | 3 => rfl
          | q + 4 => rfl
        rw [this]
      · rw [if_neg h2]
  have := e8 f hz ([op % 256] ++ [(d + 16 * s) % 256] ++ [fo % 256, fo / 256 % 256] ++ by4 i) rfl (by4 (i / 4294967296)) rfl
  rw [this]
  simp [enc1, encT, hw, by4]
end Go.Proofs.Ytlhcjcoimlgciaa
