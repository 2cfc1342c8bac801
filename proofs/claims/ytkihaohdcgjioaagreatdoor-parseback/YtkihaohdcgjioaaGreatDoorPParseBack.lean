import Derived.Test.YtkihaohdcgjioaaGreatDoorCards
import Derived.Test.YtkihaohdcgjioaaGreatDoorTie
import Derived.Test.YtkihaohdcgjioaaGreatDoorGr43
import Derived.Test.YtkihaohdcgjioaaGreatDoorGr37
import Derived.Test.YtkihaohdcgjioaaGreatDoorGr51
import Derived.ChangeOld
import Derived.Deep.DeepHandedRow
import Derived.Deep.DeepWitnessRowRef
import Derived.LaidMore
import Derived.Lay
import Derived.ChangeMaps5
namespace Go.Proofs.YtkihaohdcgjioaaGreatDoor.parseBack
open Go.ChangeShapes Go.WideShapes Go.ChangeAt Go.RowKit Go.ChangeMaps
set_option linter.unusedVariables false

theorem own : ownKnob Tryz.prog.godebug = none := by kernel_rfl
theorem laidOut : laidOutB Tryz.prog = true := by kernel_rfl
theorem envL {W : World} (h : laidMetH Tryz.prog Rows.parseBackRow.laid W) : Lx.LEnv W :=
  Lx.env_of _ (by kernel_rfl) h (by simp [Rows.parseBackRow]) (by simp [Rows.parseBackRow]) (by simp [Rows.parseBackRow])
theorem envP {W : World} (h : laidMetH Tryz.prog Rows.parseBackRow.laid W) : PEnv W :=
  (env_of _ (by kernel_rfl) h (by simp [Rows.parseBackRow]) (by simp [Rows.parseBackRow]) (by simp [Rows.parseBackRow]) (by simp [Rows.parseBackRow]) (by simp [Rows.parseBackRow]) (by simp [Rows.parseBackRow]) (by simp [Rows.parseBackRow]) (by simp [Rows.parseBackRow]) (by simp [Rows.parseBackRow]) (by simp [Rows.parseBackRow])).1
theorem envA {W : World} (h : laidMetH Tryz.prog Rows.parseBackRow.laid W) : AEnv W :=
  env_of _ (by kernel_rfl) h (by simp [Rows.parseBackRow]) (by simp [Rows.parseBackRow]) (by simp [Rows.parseBackRow]) (by simp [Rows.parseBackRow]) (by simp [Rows.parseBackRow]) (by simp [Rows.parseBackRow]) (by simp [Rows.parseBackRow]) (by simp [Rows.parseBackRow]) (by simp [Rows.parseBackRow]) (by simp [Rows.parseBackRow])
set_option maxRecDepth 20000 in
theorem contract (H : Type) (enc : TypeId × Value → H) (W : World) (base : Nat) (args : Array Value) (ds gs : List (DataW H)) (before : List MemPlace)
    (hval : ∀ (j : Nat) t v, Tryz.f5.params[j]? = some t → args[j]? = some v → Value.okWide Tryz.prog W .any base t v)
    (hW : DataW.Whole enc Tryz.prog Tryz.f5.params.toList Rows.parseBackSpec.vars false W args.toList ds gs before)
    (hwt : (DataW.weightsEach Tryz.prog (Tryz.f5.params.toList ++ (OpenSpec.ofChange Rows.parseBackSpec).bare.plain.varTypes Tryz.prog) (ds ++ gs)).all (· ≤ reachBytes) = true) (hL : laidMetH Tryz.prog Rows.parseBackRow.laid W) :
    Calls Tryz.prog 5 args W fun e W' => ∃ v, e = .returned v ∧ Rows.parseBackSpec.post enc Tryz.prog Tryz.f5 false true false false W args v W' := by
  have hW' := hW
  obtain ⟨p, q, hA0, hV, rfl, hfz, hnd⟩ := hW
  have hA : DataW.TrodAll enc Tryz.prog W 0 (fun _ => true) true Tryz.f5.params.toList args.toList ds p := hA0
  rw [Tryz.params5] at hA hval
  rw [Tryz.params5] at hwt
  obtain ⟨v0, vs0, d0, ds0, p0, q0, hargs, rfl, rfl, h0, r0⟩ := trodAll_cons hA
  obtain ⟨rfl, rfl, rfl⟩ := trodAll_nil r0
  obtain rfl : args = #[v0] := by clear hwt; cases args; simp_all
  obtain ⟨rfl, rfl⟩ := trodVars_none hV
  have k0 := h0
  have lt0 : ∀ x ∈ p0, x.block < W.heap.size := by obtain ⟨m, hm⟩ := k0; exact DataW.trod_lt m _ _ _ hm
  have h2 : (d0.weights Tryz.prog 43 ++ ([])).all (· ≤ reachBytes) = true := hwt
  simp only [List.all_append, Bool.and_eq_true] at h2
  have hw0 : (d0.weights Tryz.prog 43).all (· ≤ reachBytes) = true := h2.1
  clear h2
  obtain ⟨a0, len0, cap0, rfl⟩ := okWide_slice Tryz.underlying43 (hval 0 43 v0 rfl rfl)
  obtain ⟨Y0, hl0, s0, y0, cp0, bd0⟩ := (show ∃ Y : List (Stm × Value × Value), Y.length = len0 ∧ StA W a0 Y ∧ (∀ y ∈ Y, LsR W y ∧ (∀ aw n c, (y.2.1 = .slice aw n c ∨ y.2.2 = .slice aw n c) → aw = none → c = 0) ∧ (y.1.ws.length ≤ 8796093022208 ∧ y.1.ns.length ≤ 17592186044416) ∧ StmI y.1) ∧ len0 ≤ cap0 ∧ len0 ≤ 1034834473171 from by
    obtain ⟨fuel, hf⟩ := h0
    exact open_sts hf hw0)
  subst hl0
  have hE := envL hL
  have hP := envP hL
  have hA := envA hL
  refine (parseBack_walk W hE hA a0 cap0 Y0 s0 (fun y hy => (y0 y hy).1) (fun y hy => (y0 y hy).2.1) (fun y hy => (y0 y hy).2.2.1) (fun y hy => (y0 y hy).2.2.2) bd0).mono fun e W' ⟨he, bel⟩ => ?_
  subst he
  exact ⟨_, rfl, _, _, _, [], _, [], hW', trodAll_mk1 (shut_bool Tryz.underlying4 _), (trodAll_cons_mk (Below.trod laidOut (by kernel_rfl) (of_decide_eq_true (by kernel_rfl)) k0 bel lt0) trodAll_mk0), rfl, Below.frame bel _, fun h => by cases h⟩
theorem laid_met (os : Os) : laidMetH Tryz.prog Rows.parseBackRow.laid ((World.laidAll Tryz.prog os Rows.parseBackRow.laid).forCall (fun _ _ => 0) ⟨#[], #[.slice none 0 0], []⟩).memory := by
  rw [MakeChecks.laidMetH_plain _ _ _ (by kernel_rfl)]
  exact laidMet_laidAll _ (by kernel_rfl) (by kernel_rfl)
theorem reads (os : Os) {H : Type} (enc : TypeId × Value → H) : ∃ places, DataW.whole enc Tryz.prog ((World.laidAll Tryz.prog os Rows.parseBackRow.laid).forCall (fun _ _ => 0) ⟨#[], #[.slice none 0 0], []⟩).memory Tryz.f5.params.toList Rows.parseBackSpec.vars false (#[.slice none 0 0] : Array Value).toList 8 = some ([.nil], [], places) :=
  ⟨[], by kernel_rfl⟩
set_option maxRecDepth 100000 in
theorem lifted (os : Os) (started : os.Started) (H : Type) (enc : TypeId × Value → H) (F : Stop.Interp) :
    ReturnsInHanded {} Tryz.checked os 5 .any ((OpenSpec.ofChange Rows.parseBackSpec).preRow enc Tryz.prog Tryz.f5 Rows.parseBackRow.domain false Rows.parseBackRow.laid) (((OpenSpec.ofChange Rows.parseBackSpec).at F).post enc Tryz.prog Tryz.f5 false true false false) := by
  obtain ⟨places, hx⟩ := reads os enc
  refine returnsInHanded_of_row (C := Tryz.checked) (s := OpenSpec.ofChange Rows.parseBackSpec) own started (by kernel_rfl) Tryz.func5
    (witness_row_atRef (enc := enc) (C := Tryz.checked) false (World.laidAll Tryz.prog os Rows.parseBackRow.laid) #[.slice none 0 0] (World.laidAll_os _ _ _) (by kernel_rfl) (by kernel_rfl) (by kernel_rfl)
      (OpenSpec.preRow_of_cond 8 hx (by kernel_rfl) (fun k hk => by cases hk) (by kernel_rfl) (laid_met os))) ?_
  intro W base args ds gs before hval hW _ _ hwt hL _ _
  exact contract H enc W base args ds gs before hval hW hwt hL
set_option maxRecDepth 100000 in
set_option maxHeartbeats 40000000 in
theorem closed : joinedFacts Tryz.pinned.checked.prog 5 Tryz.f5 (OpenSpec.ofChange Rows.parseBackSpec).bare Rows.parseBackRow = true := by
  unfold joinedFacts
  repeat' (with_reducible refine Bool.and_eq_true_iff.2 ⟨?_, ?_⟩)
  all_goals as_aux_lemma => kernel_rfl
theorem said : Rows.ParseBackSaid :=
  OpenClaim.holds_of_cond 5 Tryz.f5 rfl rfl rfl rfl rfl rfl rfl ⟨rfl, rfl, rfl, rfl, rfl⟩ rfl rfl rfl rfl rfl (by as_aux_lemma => kernel_rfl) Tryz.func5 closed
    (of_decide_eq_true (by kernel_rfl)) (by unfold Func.isWrapper; first | (rw [if_pos (by decide +kernel)]; kernel_rfl) | (rw [if_neg (by decide +kernel)]; exact ⟨rfl, rfl⟩))
    (fun os started H enc _ F => by rw [OpenClaim.pre_eq_preRow]; exact lifted os started H enc F)
theorem plain (f : FuncId) (fn : Func) (hf : Tryz.pinned.checked.prog.funcNamed "spindle/spindlelaw6.ParseBack" = some f) (hfn : Tryz.pinned.checked.prog.funcs[f]? = some fn) :
    true = Tryz.pinned.checked.prog.looks [] ∧ ∀ (j : Nat) t, fn.params[j]? = some t → Tryz.pinned.checked.prog.wantsStandIn t = false := by
  obtain rfl : f = 5 := Option.some.inj ((show Tryz.prog.funcNamed "spindle/spindlelaw6.ParseBack" = some 5 by kernel_rfl).symm.trans hf) |>.symm
  obtain rfl : fn = Tryz.f5 := (Option.some.inj (Tryz.func5.symm.trans hfn)).symm
  refine ⟨by kernel_rfl, fun j t ht => ?_⟩
  rw [Tryz.params5] at ht
  obtain rfl : t = 43 := by simpa using Array.mem_of_getElem? ht
  exact (show Tryz.prog.wantsStandIn 43 = false by kernel_rfl)
theorem card : Rows.ParseBackCardSaid :=
  Claim7.holds_tied_plain_at .later [] _ _ _ _ said (fun _ h => by cases h) (by kernel_rfl) (fun _ h => by cases h) parseBack_row_tie rfl ⟨rfl, rfl⟩ (by kernel_rfl) rfl plain (by kernel_rfl)
#print axioms card
end Go.Proofs.YtkihaohdcgjioaaGreatDoor.parseBack
