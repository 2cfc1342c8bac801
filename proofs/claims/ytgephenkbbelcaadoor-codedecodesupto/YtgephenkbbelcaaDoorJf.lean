import Derived.Test.YtgephenkbbelcaaDoorJe
namespace Go.Proofs.YtgephenkbbelcaaDoor
open Go.RowKit
set_option linter.unusedVariables false
set_option linter.unusedSimpArgs false

def fitO (o d s f i : Int) : Bool := fitP o d s f i (formP o) (useD o (formP o)) (useS o (formP o)) (useO o (formP o)) (useI o (formP o))
def mayP (o d s f i : Int) : Int := if formP o == 0 then 20 else if fitO o d s f i then 0 else 21
def wholeP (o d s f i : Int) : Int := if formP o == 0 then 0 else if fitO o d s f i then formP o else 0
theorem info_ok_lit (op : Int) (w : World) (h : TabO w) (hf : (formP op == 0) = false) : Calls Tryd.prog 38 #[.int .i64 op] w fun e w' => e = .returned (.tuple #[.agg #[.int .i64 (formP op), .int .i64 (groupP op (formP op)), .bool (useD op (formP op)), .bool (useS op (formP op)), .bool (useO op (formP op)), .bool (useI op (formP op))], .int .i64 0]) ∧
    ((w.alloc (.cells #[.int .i64 (formP op), .int .i64 (groupP op (formP op)), .bool (useD op (formP op)), .bool (useS op (formP op)), .bool (useO op (formP op)), .bool (useI op (formP op))] 77)).alloc (.cells #[.int .i64 (formP op), .int .i64 (groupP op (formP op)), .bool (useD op (formP op)), .bool (useS op (formP op)), .bool (useO op (formP op)), .bool (useI op (formP op))] 77)).alloc (.cells #[.int .i64 (formP op), .int .i64 (groupP op (formP op)), .bool (useD op (formP op)), .bool (useS op (formP op)), .bool (useO op (formP op)), .bool (useI op (formP op))] 77) = w' := info_ok op w h hf
theorem info_no_lit (op : Int) (w : World) (h : TabO w) (hf : (formP op == 0) = true) : Calls Tryd.prog 38 #[.int .i64 op] w fun e w' => e = .returned (.tuple #[.agg #[.int .i64 0, .int .i64 0, .bool false, .bool false, .bool false, .bool false], .int .i64 20]) ∧ w.alloc (.cells #[.int .i64 0, .int .i64 0, .bool false, .bool false, .bool false, .bool false] 77) = w' := info_no op w h hf
theorem fitO_lit (w : World) (hA : TabA w) (op d s f i : Int) : Calls Tryd.prog 39 #[.agg #[.int .i64 op, .int .i64 d, .int .i64 s, .int .i64 f, .int .i64 i], .agg #[.int .i64 (formP op), .int .i64 (groupP op (formP op)), .bool (useD op (formP op)), .bool (useS op (formP op)), .bool (useO op (formP op)), .bool (useI op (formP op))]] w fun e w' => e = .returned (.bool (fitO op d s f i)) ∧ Out w w' := fits_any w hA op d s f i _ _ _ _ _ _

theorem may_any (w : World) (hA : TabA w) (hO : TabO w) (o d s f i : Int) : Calls Tryd.prog 31 #[.agg (insC o d s f i)] w fun e w' => e = .returned (.int .i64 (mayP o d s f i)) ∧ Out w w' := by
  unfold insC
  cases hf : (formP o == 0)
  · cases hfit : fitO o d s f i
    · have HR : Hid (mayP o d s f i = 21) := by simp [mayP, hf, hfit, Hid]
      go_enter Tryd.func31, Tryd.ntmps31
      go_wp2_with (first | (go_at_call 38; refine (info_ok_lit _ _ (hO.alloc _) hf).mono ?_; rintro e w' ⟨rfl, rfl⟩) | (go_at_call 39; refine (fitO_lit _ (by repeat (first | exact hA | apply TabA.alloc)) _ _ _ _ _).mono ?_; rintro e w' ⟨rfl, hout⟩))
      go_ret
      exact ⟨by simp [HR.out], Out.trans (by repeat (first | exact Out.refl _ | apply Out.alloc)) hout⟩
    · have HR : Hid (mayP o d s f i = 0) := by simp [mayP, hf, hfit, Hid]
      go_enter Tryd.func31, Tryd.ntmps31
      go_wp2_with (first | (go_at_call 38; refine (info_ok_lit _ _ (hO.alloc _) hf).mono ?_; rintro e w' ⟨rfl, rfl⟩) | (go_at_call 39; refine (fitO_lit _ (by repeat (first | exact hA | apply TabA.alloc)) _ _ _ _ _).mono ?_; rintro e w' ⟨rfl, hout⟩))
      go_ret
      exact ⟨by simp [HR.out], Out.trans (by repeat (first | exact Out.refl _ | apply Out.alloc)) hout⟩
  · have HR : Hid (mayP o d s f i = 20) := by simp [mayP, hf, Hid]
    go_enter Tryd.func31, Tryd.ntmps31
    go_wp2_with (first | (go_at_call 38; refine (info_no_lit _ _ (hO.alloc _) hf).mono ?_; rintro e w' ⟨rfl, rfl⟩))
    go_ret
    exact ⟨by simp [HR.out], by repeat (first | exact Out.refl _ | apply Out.alloc)⟩
theorem may_lit (w : World) (hA : TabA w) (hO : TabO w) (o d s f i : Int) : Calls Tryd.prog 31 #[.agg #[.int .i64 o, .int .i64 d, .int .i64 s, .int .i64 f, .int .i64 i]] w fun e w' => e = .returned (.int .i64 (mayP o d s f i)) ∧ Out w w' := may_any w hA hO o d s f i
end Go.Proofs.YtgephenkbbelcaaDoor
