import Derived.Test.YtgephenkbbelcaaDoorJb
import Derived.Deep.Light
import Derived.Deep.Cut
import Derived.Deep.CutRange
import Derived.Deep.DeepCutAuto
namespace Go.Proofs.YtgephenkbbelcaaDoor
open Go.RowKit
set_option linter.unusedVariables false
set_option linter.unusedSimpArgs false

structure RowP where
  form : Int
  group : Int
  dst : Bool
  src : Bool
  off : Bool
  imm : Bool
  any : Bool
  srcIs : Int
  offIs : Int
  imms : List Int
/-- a list of numbers lies at a slice's place -/
def NumsAt (w : World) (v : Value) (l : List Int) : Prop :=
  (l = [] ∧ v = .slice none 0 0) ∨ ∃ b cap, v = .slice (some ⟨b, 0, none⟩) l.length cap ∧ ∀ j, j < l.length → w.cell? ⟨b, j, none⟩ = some (.int .i64 (l.getD j 0))
theorem NumsAt.out {w w' : World} {v : Value} {l : List Int} (h : NumsAt w v l) (o : Out w w') : NumsAt w' v l := by
  rcases h with h | ⟨b, cap, e, hc⟩
  · exact .inl h
  · exact .inr ⟨b, cap, e, fun j hj => cell_later o (hc j hj)⟩
theorem has_walk (b n cap : Nat) (x : Int) (f : Nat → Int) (r : Bool) (w : World) (hn : n ≤ 100) (hc : ∀ j, j < n → w.cell? ⟨b, j, none⟩ = some (.int .i64 (f j)))
    (h1 : Hid (∀ k, k < n → f k = x → r = true)) (h2 : Hid ((∀ k, k < n → f k ≠ x) → r = false)) :
    Calls Tryd.prog 43 #[.slice (some ⟨b, 0, none⟩) n cap, .int .i64 x] w fun e w' => e = .returned (.bool r) ∧ w = w' := by
  go_enter Tryd.func43, Tryd.ntmps43
  go_wp2
  go_loop [5] (fun i => ∃ k : Nat, k ≤ n ∧ i = .int .i64 k ∧ Hid (∀ j, j < k → f j ≠ x)) (fun i => n - (intOf i).toNat)
  case atStart => exact ⟨0, by omega, rfl, fun j hj => by omega⟩
  case round =>
    obtain ⟨k, hk, rfl, hno⟩ := hrel
    go_wp2
    · have e : (f k == x) = true := by assumption
      have := h1.out k (by omega) (by simpa using e)
      subst this
      go_ret
      exact ⟨rfl, rfl⟩
    · have e : (f k == x) = false := by assumption
      refine ⟨⟨k + 1, by omega, by simp, fun j hj => ?_⟩, by simp [intOf]; omega⟩
      by_cases z : j = k
      · subst z; simpa using e
      · exact hno.out j (by omega)
    · obtain rfl : k = n := by omega
      have := h2.out hno.out
      subst this
      go_ret
      exact ⟨rfl, rfl⟩
theorem contains_at (l : List Int) (x : Int) (k : Nat) (h : k < l.length) (p : l.getD k 0 = x) : l.contains x = true := by
  rw [getD_lt _ _ _ h] at p
  subst p
  simp
theorem contains_not (l : List Int) (x : Int) (p : ∀ k, k < l.length → l.getD k 0 ≠ x) : l.contains x = false := by
  simp only [List.contains_eq_mem, decide_eq_false_iff_not]
  intro hx
  obtain ⟨j, hj, e⟩ := List.getElem_of_mem hx
  exact p j hj ((getD_lt _ _ _ hj).trans e)
theorem has_any (l : List Int) (b cap : Nat) (x : Int) (w : World) (hl : l.length ≤ 100) (hc : ∀ j, j < l.length → w.cell? ⟨b, j, none⟩ = some (.int .i64 (l.getD j 0))) :
    Calls Tryd.prog 43 #[.slice (some ⟨b, 0, none⟩) l.length cap, .int .i64 x] w fun e w' => e = .returned (.bool (l.contains x)) ∧ w = w' :=
  has_walk b l.length cap x (fun j => l.getD j 0) _ w hl hc (fun k hk e => contains_at l x k hk e) (fun h => contains_not l x h)
def regP (used : Bool) (is x : Int) : Bool := if used then (decide (0 ≤ x) && decide (x ≤ 10)) else x == is
theorem register_any (used : Bool) (is x : Int) (w : World) : Calls Tryd.prog 44 #[.bool used, .int .i64 is, .int .i64 x] w fun e w' => e = .returned (.bool (regP used is x)) ∧ w = w' := by
  go_enter Tryd.func44, Tryd.ntmps44
  go_wp2
  all_goals go_ret
  all_goals go_light
  all_goals first | (refine ⟨?_, rfl⟩; simp_all [regP]; done) | (refine ⟨?_, rfl⟩; simp_all [regP]; omega)
def offR (r : RowP) (f : Int) : Bool := if r.off then (decide (-32768 ≤ f) && decide (f ≤ 32767)) else f == r.offIs
def immR (r : RowP) (i : Int) : Bool := if r.imm then (r.any || (decide (-2147483648 ≤ i) && decide (i ≤ 2147483647))) else if r.imms = [] then i == 0 else r.imms.contains i
def fitR (r : RowP) (d s f i : Int) : Bool := offR r f && (immR r i && (regP r.dst 0 d && regP r.src r.srcIs s))
theorem fits_nil (form group srcIs offIs : Int) (dst src off imm any : Bool) (o d s f i : Int) (w : World) :
    Calls Tryd.prog 37 #[.agg #[.int .i64 form, .int .i64 group, .bool dst, .bool src, .bool off, .bool imm, .bool any, .int .i64 srcIs, .int .i64 offIs, .slice none 0 0], .agg #[.int .i64 o, .int .i64 d, .int .i64 s, .int .i64 f, .int .i64 i]] w fun e w' => e = .returned (.bool (fitR ⟨form, group, dst, src, off, imm, any, srcIs, offIs, []⟩ d s f i)) ∧ Out w w' := by
  go_enter Tryd.func37, Tryd.ntmps37
  go_upto_if 13 with fail
  go_cut [5] (fun s5 wx => s5 = .bool (offR ⟨form, group, dst, src, off, imm, any, srcIs, offIs, []⟩ f) ∧ (w.alloc (.cells #[.int .i64 form, .int .i64 group, .bool dst, .bool src, .bool off, .bool imm, .bool any, .int .i64 srcIs, .int .i64 offIs, .slice none 0 0] 74)).alloc (.cells #[.int .i64 o, .int .i64 d, .int .i64 s, .int .i64 f, .int .i64 i] 42) = wx)
  case first =>
    cases off
    all_goals go_wp2
    all_goals go_meet
    all_goals go_light
    all_goals first | (refine ⟨?_, rfl⟩; simp_all [offR]; done) | (refine ⟨?_, rfl⟩; simp_all [offR]; omega)
  case rest =>
    obtain ⟨rfl, rfl⟩ := hcut
    go_upto_if 35 with fail
    go_cut [6] (fun s6 wx => s6 = .bool (immR ⟨form, group, dst, src, off, imm, any, srcIs, offIs, []⟩ i) ∧ (w.alloc (.cells #[.int .i64 form, .int .i64 group, .bool dst, .bool src, .bool off, .bool imm, .bool any, .int .i64 srcIs, .int .i64 offIs, .slice none 0 0] 74)).alloc (.cells #[.int .i64 o, .int .i64 d, .int .i64 s, .int .i64 f, .int .i64 i] 42) = wx)
    case first =>
      cases imm <;> cases any
      all_goals go_wp2
      all_goals go_meet
      all_goals go_light
      all_goals first | (refine ⟨?_, rfl⟩; simp_all [immR]; done) | (refine ⟨?_, rfl⟩; simp_all [immR]; omega)
    case rest =>
      obtain ⟨rfl, rfl⟩ := hcut
      go_wp2_with (first | (go_at_call 44; refine (register_any _ _ _ _).mono ?_; rintro e w' ⟨rfl, rfl⟩))
      all_goals go_ret
      all_goals go_light
      all_goals (refine ⟨?_, by repeat (first | exact Out.refl _ | apply Out.alloc)⟩; simp_all [fitR])
theorem fits_imms (form group srcIs offIs : Int) (dst src off imm any : Bool) (o d s f i : Int) (w : World) (imms : List Int) (b cap : Nat) (hp : 0 < imms.length) (hl : imms.length ≤ 100) (hne : imms ≠ []) (hc : ∀ j, j < imms.length → w.cell? ⟨b, j, none⟩ = some (.int .i64 (imms.getD j 0))) :
    Calls Tryd.prog 37 #[.agg #[.int .i64 form, .int .i64 group, .bool dst, .bool src, .bool off, .bool imm, .bool any, .int .i64 srcIs, .int .i64 offIs, .slice (some ⟨b, 0, none⟩) imms.length cap], .agg #[.int .i64 o, .int .i64 d, .int .i64 s, .int .i64 f, .int .i64 i]] w fun e w' => e = .returned (.bool (fitR ⟨form, group, dst, src, off, imm, any, srcIs, offIs, imms⟩ d s f i)) ∧ Out w w' := by
  have hh := fun x w1 (h1 : ∀ j, j < imms.length → w1.cell? ⟨b, j, none⟩ = some (.int .i64 (imms.getD j 0))) => has_any imms b cap x w1 hl h1
  have hz : (0 : Int) < (imms.length : Int) := by omega
  go_enter Tryd.func37, Tryd.ntmps37
  go_upto_if 13 with fail
  go_cut [5] (fun s5 wx => s5 = .bool (offR ⟨form, group, dst, src, off, imm, any, srcIs, offIs, imms⟩ f) ∧ (w.alloc (.cells #[.int .i64 form, .int .i64 group, .bool dst, .bool src, .bool off, .bool imm, .bool any, .int .i64 srcIs, .int .i64 offIs, .slice (some ⟨b, 0, none⟩) imms.length cap] 74)).alloc (.cells #[.int .i64 o, .int .i64 d, .int .i64 s, .int .i64 f, .int .i64 i] 42) = wx)
  case first =>
    cases off
    all_goals go_wp2
    all_goals go_meet
    all_goals go_light
    all_goals first | (refine ⟨?_, rfl⟩; simp_all [offR]; done) | (refine ⟨?_, rfl⟩; simp_all [offR]; omega)
  case rest =>
    obtain ⟨rfl, rfl⟩ := hcut
    go_upto_if 35 with ((go_at_call 43; refine (hh _ _ (fun j hj => cell_later (by repeat (first | exact Out.refl _ | apply Out.alloc)) (hc j hj))).mono ?_; rintro e w1 ⟨rfl, rfl⟩))
    go_cut [6] (fun s6 wx => s6 = .bool (immR ⟨form, group, dst, src, off, imm, any, srcIs, offIs, imms⟩ i) ∧ (w.alloc (.cells #[.int .i64 form, .int .i64 group, .bool dst, .bool src, .bool off, .bool imm, .bool any, .int .i64 srcIs, .int .i64 offIs, .slice (some ⟨b, 0, none⟩) imms.length cap] 74)).alloc (.cells #[.int .i64 o, .int .i64 d, .int .i64 s, .int .i64 f, .int .i64 i] 42) = wx)
    case first =>
      cases imm <;> cases any
      all_goals go_wp2
      all_goals go_meet
      all_goals go_light
      all_goals first | (refine ⟨?_, rfl⟩; simp_all [immR]; done) | (refine ⟨?_, rfl⟩; simp_all [immR]; omega)
    case rest =>
      obtain ⟨rfl, rfl⟩ := hcut
      go_wp2_with (first | (go_at_call 44; refine (register_any _ _ _ _).mono ?_; rintro e w' ⟨rfl, rfl⟩))
      all_goals go_ret
      all_goals go_light
      all_goals (refine ⟨?_, by repeat (first | exact Out.refl _ | apply Out.alloc)⟩; simp_all [fitR])
end Go.Proofs.YtgephenkbbelcaaDoor
