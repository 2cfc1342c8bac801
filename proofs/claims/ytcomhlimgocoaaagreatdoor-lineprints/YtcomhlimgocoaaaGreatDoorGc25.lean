import Derived.Test.YtcomhlimgocoaaaGreatDoorGc23
import Derived.Test.YtcomhlimgocoaaaGreatDoorGc24
import Derived.Test.YtcomhlimgocoaaaGreatDoorGc20
namespace Go.Proofs.YtcomhlimgocoaaaGreatDoor
open Go.RowKit Go.Shelf
set_option linter.unusedVariables false
set_option linter.unusedSimpArgs false
theorem pR : ∀ k, k ≤ 13 → mnR k <+: mnAll := fun k hk => (show ∀ k : Fin 14, mnR k.val <+: mnAll by decide +kernel) ⟨k, by omega⟩
theorem pJ : ∀ k, k ≤ 14 → mnJ k <+: mnAll := fun k hk => (show ∀ k : Fin 15, mnJ k.val <+: mnAll by decide +kernel) ⟨k, by omega⟩
theorem pM : ∀ k j, k < 4 → j ≤ 4 → mnM k j <+: mnAll := fun k j hk hj => (show ∀ k : Fin 4, ∀ j : Fin 5, mnM k.val j.val <+: mnAll by decide +kernel) ⟨k, by omega⟩ ⟨j, by omega⟩
theorem pO : ∀ k, k ≤ 9 → mnO k <+: mnAll := fun k hk => (show ∀ k : Fin 10, mnO k.val <+: mnAll by decide +kernel) ⟨k, by omega⟩
theorem pI : ∀ k, k ≤ 29 → mnI k <+: mnAll := fun k hk => (show ∀ k : Fin 30, mnI k.val <+: mnAll by decide +kernel) ⟨k, by omega⟩
theorem mnAll_len : mnAll.length < 111 := by decide +kernel
theorem live_mean : ∀ x ∈ live mnAll, meanOf x.1 = some x.2 := by decide +kernel
theorem live_none (t : List UInt8) (h : ∀ x ∈ live mnAll, x.1 ≠ t) : meanOf t = none := by
  unfold meanOf
  by_cases ht : t = []
  · rw [if_pos ht]
  · rw [if_neg ht]
    unfold lastAt
    rw [Option.map_eq_none_iff, List.find?_eq_none]
    intro x hx e
    have he : x.1 = t := eq_of_beq e
    refine h x (List.mem_filter.2 ⟨List.mem_reverse.1 hx, ?_⟩) he
    rw [he]
    cases t with
    | nil => exact absurd rfl ht
    | cons a b => rfl
theorem each_seq (F : Fence) (hd : F.depth = none) (hro : F.round = none) (h66 : F.fn 63) (h105 : F.fn 102) (n : Nat) (w0 : World) (hT : WTabs w0) :
    SeqStopsK F n Tryz.prog 63 #[] encM KC (fun ys => ys = live mnAll) (fun pre => pre <+: live mnAll) 111 w0 := fun l J Jx W hW hJ hJx hY h0 => by
  have hT := hT.out hW
  exact each_in F hd hro h66 h105 n l 111 mnAll_len J Jx W hJ hJx (fun m pre x W1 h1 hl => yield_any hd m (hY pre x W1 h1 hl)) h0
    reckCs hT.1 (show (Tryz.prog.info? 133).map (·.size) = some reckCs.length by kernel_rfl) reckA reckB (fun k hk w => reck_idx k (by omega) w) (fun k hk => by rw [mnR_step, reck_ent k hk, List.append_assoc]; rfl) pR
    jumpCs hT.2.1 (show (Tryz.prog.info? 107).map (·.size) = some jumpCs.length by kernel_rfl) jumpA jumpB (fun k hk w => jump_idx k (by omega) w) (fun k hk => by rw [mnJ_step, jump_ent k hk, List.append_assoc]; rfl) pJ
    memCs hT.2.2.1 (show (Tryz.prog.info? 136).map (·.size) = some memCs.length by kernel_rfl) memA memW (fun k hk w => mem_idx k (by omega) w) (fun k j hj w => idx4s (fun j => .string ⟨(memW k j).toArray⟩) j (by omega) w)
    (fun k j hk hj => (mem_all ⟨k, hk⟩ ⟨j, hj⟩).2.2.1) (fun k j hk hj => by rw [mnM_step, (mem_all ⟨k, hk⟩ ⟨j, hj⟩).1]) pM
    offCs hT.2.2.2.1 (show (Tryz.prog.info? 142).map (·.size) = some offCs.length by kernel_rfl) offA offB offS3 (fun k hk w => off_idx k (by omega) w) (fun k hk => by rw [mnO_step, off_ent k hk]) pO
    immCs hT.2.2.2.2 (show (Tryz.prog.info? 144).map (·.size) = some immCs.length by kernel_rfl) immA immB immS3 (fun k hk w => imm_idx k (by omega) w) (fun k hk => by rw [mnI_step, imm_ent k hk]) pI
/-- the contract of meaningOf -/
theorem meaning_any (w : World) (t : List UInt8) (hT : WTabs w) : Calls Tryz.prog 33 #[.string ⟨t.toArray⟩] w fun e w' => e = .returned (.tuple #[mnV ((meanOf t).getD (0, 0, 0, 0)), .bool (meanOf t).isSome]) ∧ Out w w' := by
  refine (callsIn_wide (n := 5)).1 ?_
  refine (meaning_in Fence.wide rfl rfl trivial trivial trivial 5 111 (by omega) w t (fun w0 hB => each_seq Fence.wide rfl rfl trivial trivial 4 w0 (hT.out hB))).mono ?_
  rintro e W' ⟨⟨x, hx, rfl, rfl⟩ | ⟨hn, rfl⟩, hB⟩
  · rw [live_mean x hx]; exact ⟨rfl, hB⟩
  · rw [live_none t hn]; exact ⟨rfl, hB⟩
end Go.Proofs.YtcomhlimgocoaaaGreatDoor
namespace Go.Proofs.YtcomhlimgocoaaaGreatDoor
open Go.RowKit
set_option linter.unusedVariables false
set_option linter.unusedSimpArgs false
/-- the reader behind the mnemonic -/
def r0Of (m : Mn) : RS := ⟨[], [], m.1, 0, m.2.1, m.2.2.1, m.2.2.2, [], false, false⟩
def rzOf (o d s f i : Int) (t : List UInt8) (a b c : Int) (r : RS) : RS :=
  if a = 0 then r else if b = 0 then opE o d s f i t a r else if c = 0 then opE o d s f i t b (opE o d s f i t a r) else opE o d s f i t c (opE o d s f i t b (opE o d s f i t a r))
def wordOk (W : List UInt8) (m : Mn) : Bool := headOk W && W.all runU && (meanOf W == some m)
theorem parse_core (o d s f i : Int) (t : List UInt8) (m : Mn) (a b c : Int) (hW : wordOk (wordP o s f i) m = true) (hT : tOf o s f = (a, b, c)) (hT' : tOf m.1 m.2.1 m.2.2.1 = (a, b, c))
    (ha : ¬ a = 0 → opOk o d s f i t a (r0Of m)) (hb : ¬ a = 0 → ¬ b = 0 → opOk o d s f i t b (opE o d s f i t a (r0Of m))) (hc : ¬ a = 0 → ¬ b = 0 → ¬ c = 0 → opOk o d s f i t c (opE o d s f i t b (opE o d s f i t a (r0Of m))))
    (hz : rzOf o d s f i t a b c (r0Of m) = ⟨[], [], o, d, s, f, i, t, false, false⟩) : parseP (lineP o d s f i t) = ⟨o, d, s, f, i, t, 0⟩ := by
  simp only [wordOk, Bool.and_eq_true, beq_iff_eq] at hW
  obtain ⟨⟨h1, h2⟩, h3⟩ := hW
  unfold lineP
  rw [hT]
  generalize wordP o s f i = W at *
  have hst := tail_stop (a, b, c) (opdTx o d s f i t)
  have htail := tail_at o d s f i t a b c (r0Of m) ha hb hc
  generalize tailP (a, b, c) (opdTx o d s f i t) = T at *
  have hn : newR (W ++ T) = ⟨T, W, 0, 0, 0, 0, 0, [], false, false⟩ := at_run ⟨[], [], 0, 0, 0, 0, 0, [], false, false⟩ W T h1 h2 hst
  have hb2 : behindS m (newR (W ++ T)) = ⟨[], [], o, d, s, f, i, t, false, false⟩ := by
    rw [hn]
    unfold behindS
    rw [hT']
    show opsS (a, b, c) ((r0Of m).at T) = _
    unfold opsS
    rw [htail]
    unfold rzOf at hz
    rw [hz]
    rfl
  have hm : meanOf (newR (W ++ T)).tok = some m := by rw [hn]; exact h3
  unfold parseP
  rw [hm]
  simp only [hb2, Bool.false_eq_true, if_false]
theorem form_ex (op : Int) (h : formP op ≠ 0) : ∃ l ∈ opsT, op ∈ l := by
  apply Classical.byContradiction
  intro hn
  exact h (formIn_none op opsT 0 (fun x hx hop => hn ⟨x, hx, hop⟩))
theorem ops_at (k : Nat) (hk : k < 11) (o : Int) (h : formP o = (k : Int)) (hk0 : ¬ k = 0) : o ∈ opsL k := by
  have h0 : formP o ≠ 0 := by rw [h]; omega
  obtain ⟨l, hl, ho⟩ := form_ex o h0
  have := (show ∀ j : Fin 11, ∀ x ∈ opsL j.val, formP x = (j.val : Int) by decide +kernel)
  obtain ⟨j, hj, e⟩ := List.getElem_of_mem hl
  have hj' : j < 11 := hj
  have e2 : opsL j = l := by rw [← e]; exact getD_lt opsT [] j hj
  have e3 := this ⟨j, hj'⟩ o (by rw [e2]; exact ho)
  rw [h] at e3
  have : j = k := by simp only at e3; omega
  subst this
  rw [e2]
  exact ho
/-- the fields of an instruction that may be -/
theorem may_parts (o d s f i : Int) (h : mayP o d s f i = 0) : ¬ formP o = 0 ∧ dstP (useD o (formP o)) d = true ∧ srcP (formP o) (useS o (formP o)) s = true ∧ offP o (formP o) (useO o (formP o)) f = true ∧ immP o (formP o) s (useI o (formP o)) i = true := by
  unfold mayP at h
  by_cases hf : formP o = 0
  · rw [if_pos (by simpa using hf)] at h; simp at h
  rw [if_neg (by simpa using hf)] at h
  cases hO : fitO o d s f i
  · rw [hO] at h; simp at h
  simp only [fitO, fitP, Bool.and_eq_true] at hO
  exact ⟨hf, hO.1, hO.2.1, hO.2.2.1, hO.2.2.2⟩
theorem form_le (o : Int) : 0 ≤ formP o ∧ formP o ≤ 10 := by
  by_cases h : formP o = 0
  · rw [h]; decide
  · obtain ⟨l, hl, ho⟩ := form_ex o h
    exact (show ∀ l ∈ opsT, ∀ x ∈ l, 0 ≤ formP x ∧ formP x ≤ 10 by decide +kernel) l hl o ho
theorem line_1 (o d s f i : Int) (t : List UInt8) (hk : formP o = 1) (h : mayP o d s f i = 0) (ht : tfitP o s f i t = true) : parseP (lineP o d s f i t) = ⟨o, d, s, f, i, t, 0⟩ := by
  obtain ⟨_, h1, h2, h3, h4⟩ := may_parts o d s f i h
  have ho := ops_at 1 (by decide) o hk (by decide)
  have : o = 149 := by simpa [opsL, opsT] using ho
  subst this
  have e : useD 149 (formP 149) = false ∧ useS 149 (formP 149) = false ∧ useO 149 (formP 149) = false ∧ useI 149 (formP 149) = false ∧ ordersP 149 = false ∧ formP 149 = 1 := by decide +kernel
  rw [e.1] at h1
  rw [e.2.1, e.2.2.2.2.2] at h2
  rw [e.2.2.1, e.2.2.2.2.2] at h3
  rw [e.2.2.2.1, e.2.2.2.2.2] at h4
  have hd : d = 0 := by simpa [dstP] using h1
  have hs : s = 0 := by simpa [srcP] using h2
  have hf : f = 0 := by simpa [offP] using h3
  have hi : i = 0 := by simpa [immP, e.2.2.2.2.1] using h4
  have htt : t = [] := by simpa [tfitP, hk] using ht
  subst hd hs hf hi htt
  exact parse_core 149 0 0 0 0 [] (149, 0, 0, 0) 0 0 0 (by decide +kernel) (by decide +kernel) (by decide +kernel) (fun h => absurd rfl h) (fun h => absurd rfl h) (fun h => absurd rfl h) rfl
/-- what the tables say of an opcode of each form -/
theorem uses_of : ∀ k : Fin 11, ∀ o ∈ opsL k.val, useD o (formP o) = (match k.val with | 1 => false | 7 => false | 9 => false | _ => true) ∧ useS o (formP o) = (match k.val with | 3 => hasSrc o | 4 => true | 5 => (cls o == 3) | 6 => true | 8 => hasSrc o | _ => false) ∧ useO o (formP o) = (match k.val with | 4 => true | 5 => true | 6 => true | 7 => (o == 5) | 8 => true | _ => false) ∧ useI o (formP o) = (match k.val with | 3 => !hasSrc o | 5 => (cls o == 2) | 7 => (o == 6) | 8 => !hasSrc o | 9 => true | 10 => true | _ => false) := by decide +kernel
theorem line_2 (o d s f i : Int) (t : List UInt8) (hk : formP o = 2) (h : mayP o d s f i = 0) (ht : tfitP o s f i t = true) : parseP (lineP o d s f i t) = ⟨o, d, s, f, i, t, 0⟩ := by
  obtain ⟨_, h1, h2, h3, h4⟩ := may_parts o d s f i h
  have ho := ops_at 2 (by decide) o hk (by decide)
  obtain ⟨u1, u2, u3, u4⟩ := uses_of 2 o ho
  simp only at u1 u2 u3 u4
  rw [u1] at h1
  rw [u2, hk] at h2
  rw [u3, hk] at h3
  rw [u4, hk] at h4
  have hd : isReg d = true := by simpa [dstP] using h1
  have hs : s = 0 := by simpa [srcP] using h2
  have hf : f = 0 := by simpa [offP] using h3
  have htt : t = [] := by simpa [tfitP, hk] using ht
  have hi : i ∈ (if ordersP o then [16, 32, 64] else [0] : List Int) := by
    cases hz : ordersP o
    · simpa [immP, hz] using h4
    · have := h4
      simp [immP, hz] at this
      simp
      omega
  subst hs hf htt
  have hA : ∀ o ∈ opsL 2, ∀ i ∈ (if ordersP o then [16, 32, 64] else [0] : List Int), wordOk (wordP o 0 0 i) (o, 0, 0, i) = true ∧ tOf o 0 0 = (1, 0, 0) := by decide +kernel
  obtain ⟨a1, a2⟩ := hA o ho i hi
  refine parse_core o d 0 0 i [] (o, 0, 0, i) 1 0 0 a1 a2 a2 (fun _ => .inl ⟨rfl, hd⟩) (fun _ h => absurd rfl h) (fun _ h => absurd rfl h) rfl
end Go.Proofs.YtcomhlimgocoaaaGreatDoor
