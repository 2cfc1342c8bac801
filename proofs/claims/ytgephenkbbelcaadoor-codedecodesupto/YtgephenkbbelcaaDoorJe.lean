import Derived.Test.YtgephenkbbelcaaDoorJd
namespace Go.Proofs.YtgephenkbbelcaaDoor
open Go.RowKit
set_option linter.unusedVariables false
set_option linter.unusedSimpArgs false

def insC (o d s f i : Int) : Array Value := #[.int .i64 o, .int .i64 d, .int .i64 s, .int .i64 f, .int .i64 i]
def usC (fm g : Int) (x y z u : Bool) : Array Value := #[.int .i64 fm, .int .i64 g, .bool x, .bool y, .bool z, .bool u]
def dstP (x : Bool) (d : Int) : Bool := if x then isReg d else d == 0
def srcP (fm : Int) (y : Bool) (s : Int) : Bool := if y then isReg s else if fm == 9 then (s == 0 || s == 1) else if fm == 10 then (s == 0 || s == 1) else s == 0
def offP (o fm : Int) (z : Bool) (f : Int) : Bool := if z then (decide (-32768 ≤ f) && decide (f ≤ 32767)) else if f == 0 then true else if fm == 3 then variantP o f else false
def immP (o fm s : Int) (u : Bool) (i : Int) : Bool := if fm == 10 && s == 0 then true else if u then (decide (-2147483648 ≤ i) && decide (i ≤ 2147483647)) else if fm == 6 then atomP i else if ordersP o then ((i == 16 || i == 32) || i == 64) else i == 0
def boxed (w : World) (o d s f i : Int) (fm g : Int) (x y z u : Bool) : World := (w.alloc (.cells (insC o d s f i) 42)).alloc (.cells (usC fm g x y z u) 77)

theorem dst_any (w : World) (o d s f i : Int) (fm g : Int) (x y z u : Bool) : Calls Tryd.prog 47 #[.agg (insC o d s f i), .agg (usC fm g x y z u)] w fun e w' => e = .returned (.bool (dstP x d)) ∧ boxed w o d s f i fm g x y z u = w' := by
  unfold boxed insC usC
  go_enter Tryd.func47, Tryd.ntmps47
  go_wp2_with (go_at_call 53; refine (isRegister_any _ _).mono ?_; rintro e w' ⟨rfl, rfl⟩)
  all_goals go_ret
  all_goals go_light
  all_goals (subst_vars; exact ⟨by simp [dstP], rfl⟩)
theorem src_any (w : World) (o d s f i : Int) (fm g : Int) (x y z u : Bool) : Calls Tryd.prog 48 #[.agg (insC o d s f i), .agg (usC fm g x y z u)] w fun e w' => e = .returned (.bool (srcP fm y s)) ∧ boxed w o d s f i fm g x y z u = w' := by
  unfold boxed insC usC
  go_enter Tryd.func48, Tryd.ntmps48
  go_wp2_with (go_at_call 53; refine (isRegister_any _ _).mono ?_; rintro e w' ⟨rfl, rfl⟩)
  all_goals go_ret
  all_goals go_light
  all_goals first | (refine ⟨?_, by simp [*]⟩; simp_all [srcP]; done)
theorem off_any (w : World) (o d s f i : Int) (fm g : Int) (x y z u : Bool) : Calls Tryd.prog 49 #[.agg (insC o d s f i), .agg (usC fm g x y z u)] w fun e w' => e = .returned (.bool (offP o fm z f)) ∧ boxed w o d s f i fm g x y z u = w' := by
  unfold boxed insC usC
  go_enter Tryd.func49, Tryd.ntmps49
  go_wp2_with (go_at_call 54; refine (variant_any _ _ _).mono ?_; rintro e w' ⟨rfl, rfl⟩)
  all_goals go_ret
  all_goals go_light
  all_goals first | (refine ⟨?_, by simp [*]⟩; simp_all [offP]; done) | (refine ⟨?_, by simp [*]⟩; simp_all [offP]; omega)
theorem imm_any (w : World) (hA : TabA w) (o d s f i : Int) (fm g : Int) (x y z u : Bool) : Calls Tryd.prog 50 #[.agg (insC o d s f i), .agg (usC fm g x y z u)] w fun e w' => e = .returned (.bool (immP o fm s u i)) ∧ boxed w o d s f i fm g x y z u = w' := by
  unfold boxed insC usC
  go_enter Tryd.func50, Tryd.ntmps50
  go_wp2_with (first | (go_at_call 55; refine (atomic_any _ _ ((hA.alloc _).alloc _)).mono ?_; rintro e w' ⟨rfl, rfl⟩) | (go_at_call 56; refine (orders_any _ _).mono ?_; rintro e w' ⟨rfl, rfl⟩))
  all_goals go_ret
  all_goals go_light
  all_goals first | (refine ⟨?_, by simp [*]⟩; simp_all [immP]; done) | (refine ⟨?_, by simp [*]⟩; simp_all [immP]; omega)
theorem dst_lit (w : World) (o d s f i : Int) (fm g : Int) (x y z u : Bool) : Calls Tryd.prog 47 #[.agg #[.int .i64 o, .int .i64 d, .int .i64 s, .int .i64 f, .int .i64 i], .agg #[.int .i64 fm, .int .i64 g, .bool x, .bool y, .bool z, .bool u]] w fun e w' => e = .returned (.bool (dstP x d)) ∧ (w.alloc (.cells #[.int .i64 o, .int .i64 d, .int .i64 s, .int .i64 f, .int .i64 i] 42)).alloc (.cells #[.int .i64 fm, .int .i64 g, .bool x, .bool y, .bool z, .bool u] 77) = w' := dst_any w o d s f i fm g x y z u
theorem src_lit (w : World) (o d s f i : Int) (fm g : Int) (x y z u : Bool) : Calls Tryd.prog 48 #[.agg #[.int .i64 o, .int .i64 d, .int .i64 s, .int .i64 f, .int .i64 i], .agg #[.int .i64 fm, .int .i64 g, .bool x, .bool y, .bool z, .bool u]] w fun e w' => e = .returned (.bool (srcP fm y s)) ∧ (w.alloc (.cells #[.int .i64 o, .int .i64 d, .int .i64 s, .int .i64 f, .int .i64 i] 42)).alloc (.cells #[.int .i64 fm, .int .i64 g, .bool x, .bool y, .bool z, .bool u] 77) = w' := src_any w o d s f i fm g x y z u
theorem off_lit (w : World) (o d s f i : Int) (fm g : Int) (x y z u : Bool) : Calls Tryd.prog 49 #[.agg #[.int .i64 o, .int .i64 d, .int .i64 s, .int .i64 f, .int .i64 i], .agg #[.int .i64 fm, .int .i64 g, .bool x, .bool y, .bool z, .bool u]] w fun e w' => e = .returned (.bool (offP o fm z f)) ∧ (w.alloc (.cells #[.int .i64 o, .int .i64 d, .int .i64 s, .int .i64 f, .int .i64 i] 42)).alloc (.cells #[.int .i64 fm, .int .i64 g, .bool x, .bool y, .bool z, .bool u] 77) = w' := off_any w o d s f i fm g x y z u
theorem imm_lit (w : World) (hA : TabA w) (o d s f i : Int) (fm g : Int) (x y z u : Bool) : Calls Tryd.prog 50 #[.agg #[.int .i64 o, .int .i64 d, .int .i64 s, .int .i64 f, .int .i64 i], .agg #[.int .i64 fm, .int .i64 g, .bool x, .bool y, .bool z, .bool u]] w fun e w' => e = .returned (.bool (immP o fm s u i)) ∧ (w.alloc (.cells #[.int .i64 o, .int .i64 d, .int .i64 s, .int .i64 f, .int .i64 i] 42)).alloc (.cells #[.int .i64 fm, .int .i64 g, .bool x, .bool y, .bool z, .bool u] 77) = w' := imm_any w hA o d s f i fm g x y z u
def fitP (o d s f i fm : Int) (x y z u : Bool) : Bool := dstP x d && (srcP fm y s && (offP o fm z f && immP o fm s u i))
theorem fits_any (w : World) (hA : TabA w) (o d s f i : Int) (fm g : Int) (x y z u : Bool) : Calls Tryd.prog 39 #[.agg (insC o d s f i), .agg (usC fm g x y z u)] w fun e w' => e = .returned (.bool (fitP o d s f i fm x y z u)) ∧ Out w w' := by
  unfold insC usC
  go_enter Tryd.func39, Tryd.ntmps39
  go_wp2_with (first | (go_at_call 47; refine (dst_lit _ _ _ _ _ _ _ _ _ _ _ _).mono ?_; rintro e w' ⟨rfl, rfl⟩) | (go_at_call 48; refine (src_lit _ _ _ _ _ _ _ _ _ _ _ _).mono ?_; rintro e w' ⟨rfl, rfl⟩) | (go_at_call 49; refine (off_lit _ _ _ _ _ _ _ _ _ _ _ _).mono ?_; rintro e w' ⟨rfl, rfl⟩) | (go_at_call 50; refine (imm_lit _ (by repeat (first | exact hA | apply TabA.alloc)) _ _ _ _ _ _ _ _ _ _ _).mono ?_; rintro e w' ⟨rfl, rfl⟩))
  all_goals go_ret
  all_goals go_light
  all_goals first | (refine ⟨by simp_all [fitP], ?_⟩; repeat (first | exact Out.refl _ | apply Out.alloc))
end Go.Proofs.YtgephenkbbelcaaDoor
