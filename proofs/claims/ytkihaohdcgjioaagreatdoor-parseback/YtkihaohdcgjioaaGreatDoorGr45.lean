import Derived.Test.YtkihaohdcgjioaaGreatDoorGr43
namespace Go.Proofs.YtkihaohdcgjioaaGreatDoor
open Go.RowKit
set_option linter.unusedVariables false
set_option linter.unusedSimpArgs false
theorem mk_ok {c : UInt8} (h : Lx.markB [c] = true) : (It.mk c).ok := h
theorem it_app : ∀ (A B : List (Bool × It)), itOk A → itOk B → aptI B → itOk (A ++ B)
  | [], B, _, hB, _ => hB
  | (b, x) :: r, B, h, hB, hb => ⟨h.1, fun hr => by
      cases r with
      | nil => exact hb
      | cons y q => exact h.2.1 hr, it_app r B h.2.2 hB hb⟩
theorem itT_app : ∀ (A B : List (Bool × It)), itT (A ++ B) = itT A ++ itT B
  | [], B => rfl
  | (b, x) :: r, B => by
    show (if b then [32] else []) ++ (x.tx ++ itT (r ++ B)) = (if b then [32] else []) ++ (x.tx ++ itT r) ++ itT B
    rw [itT_app r B]
    simp only [List.append_assoc]
structure Opd (X : List UInt8) (I : List (Bool × It)) : Prop where
  ok : itOk I
  tx : itT I = X
  pl : ∀ y ∈ I, y.2.pl = true
  hd : ∃ x r, I = (false, x) :: r ∧ ¬ x = .mk 58
  len : X.length ≤ 64
def spI : List (Bool × It) → List (Bool × It)
  | [] => []
  | (_, x) :: r => (true, x) :: r
theorem Opd.sp {X : List UInt8} {I : List (Bool × It)} (h : Opd X I) : itOk (spI I) ∧ itT (spI I) = 32 :: X ∧ (∀ y ∈ spI I, y.2.pl = true) ∧ ∃ x r, spI I = (true, x) :: r ∧ ¬ x = .mk 58 := by
  obtain ⟨x, r, rfl, hx⟩ := h.hd
  refine ⟨h.ok, ?_, fun y hy => ?_, x, r, rfl, hx⟩
  · rw [← h.tx]; rfl
  · rcases List.mem_cons.1 hy with rfl | hy
    · exact h.pl (false, x) (by simp)
    · exact h.pl y (List.mem_cons_of_mem _ hy)
theorem let_nn : ∀ n : Fin 256, letP (n.val : Int) = true → Lx.kindP (n.val : Int) = 3 := by decide +kernel
theorem run_nn : ∀ n : Fin 256, runP (n.val : Int) = Lx.runP (n.val : Int) := by decide +kernel
theorem run_uu (b : UInt8) : runU b = Lx.runU b := run_nn ⟨b.toNat, b.toNat_lt⟩
theorem name_word {t : List UInt8} (h : nameP t = true) : Lx.wordP t = true := by
  simp only [nameP, Bool.and_eq_true, decide_eq_true_eq] at h
  obtain ⟨⟨h1, h2⟩, h3⟩ := h
  unfold Lx.wordP
  rw [Bool.and_eq_true, Bool.and_eq_true, decide_eq_true_eq]
  refine ⟨⟨h1, ?_⟩, ?_⟩
  · cases t with
    | nil => cases h2
    | cons c r =>
      have := let_nn ⟨c.toNat, c.toNat_lt⟩ h2
      simp only [Lx.startP]
      simpa [Lx.bI] using this
  · rw [List.all_eq_true] at h3 ⊢
    intro b hb
    have := h3 b hb
    rw [← run_uu]
    exact this
theorem opd_reg {k : Nat} (hk : k < 11) : Opd (regL k) [(false, .wd (regL k))] :=
  ⟨⟨(show ∀ j : Fin 11, Lx.wordP (regL j.val) = true by decide) ⟨k, hk⟩, fun _ => trivial, trivial⟩, by simp [itT, It.tx], fun y hy => by rw [List.mem_singleton.1 hy]; rfl, ⟨_, _, rfl, fun e => by cases e⟩, (show ∀ j : Fin 11, (regL j.val).length ≤ 64 by decide) ⟨k, hk⟩⟩
theorem opd_name {t : List UInt8} (h : nameP t = true) : Opd t [(false, .wd t)] :=
  ⟨⟨name_word h, fun _ => trivial, trivial⟩, by simp [itT, It.tx], fun y hy => by rw [List.mem_singleton.1 hy]; rfl, ⟨_, _, rfl, fun e => by cases e⟩, by
    simp only [nameP, Bool.and_eq_true, decide_eq_true_eq] at h
    exact h.1.1⟩
theorem opd_int {i : Int} (h : -9223372036854775808 ≤ i ∧ i < 9223372036854775808) : ∃ I, Opd (Lib.itoa i) I ∧ (Lib.itoa i).length ≤ 21 ∧ (i < 0 → ∃ r, I = (false, .mk 45) :: r) := by
  by_cases hi : i < 0
  · rw [itoa_neg i hi]
    have hl := Lx.dd_len 19 i.natAbs (by omega)
    refine ⟨[(false, .mk 45), (false, .nu i.natAbs)], ⟨⟨mk_ok (by decide), fun e => (by cases e), ⟨by show i.natAbs ≤ 18446744073709551615; omega, fun _ => trivial, trivial⟩⟩, by simp [itT, It.tx], fun y hy => ?_, ⟨_, _, rfl, fun e => by injection e with e; revert e; decide⟩, ?_⟩, ?_, fun _ => ⟨_, rfl⟩⟩
    · simp at hy
      rcases hy with rfl | rfl <;> rfl
    · simp only [List.length_cons]; omega
    · simp only [List.length_cons]; omega
  · rw [itoa_pos i hi]
    have hl := Lx.dd_len 19 i.toNat (by omega)
    refine ⟨[(false, .nu i.toNat)], ⟨⟨by show i.toNat ≤ 18446744073709551615; omega, fun _ => trivial, trivial⟩, by simp [itT, It.tx], fun y hy => by rw [List.mem_singleton.1 hy]; rfl, ⟨_, _, rfl, fun e => by cases e⟩, by omega⟩, by omega, fun h => absurd h hi⟩
theorem opd_place {k : Nat} (hk : k < 11) {f : Int} (hf : -32768 ≤ f ∧ f < 32768) : ∃ I, Opd (placeTx k f) I := by
  obtain ⟨J, hJ, hl, hn⟩ := opd_int (i := f) (by omega)
  have hr : Lx.wordP (regL k) = true := (show ∀ j : Fin 11, Lx.wordP (regL j.val) = true by decide) ⟨k, hk⟩
  have hrl : (regL k).length ≤ 3 := (show ∀ j : Fin 11, (regL j.val).length ≤ 3 by decide) ⟨k, hk⟩
  have hE : itOk (J ++ [(false, It.mk 93)]) := it_app J _ hJ.ok ⟨mk_ok (by decide), fun e => (by cases e), trivial⟩ (.inr rfl)
  have hT : itT (J ++ [(false, It.mk 93)]) = Lib.itoa f ++ [93] := by rw [itT_app, hJ.tx]; rfl
  have hP : ∀ y ∈ J ++ [(false, It.mk 93)], y.2.pl = true := fun y hy => by
    rcases List.mem_append.1 hy with hy | hy
    · exact hJ.pl y hy
    · rw [List.mem_singleton.1 hy]; rfl
  have hlen : (placeTx k f).length ≤ 64 := by
    unfold placeTx
    by_cases h0 : 0 ≤ f
    · rw [if_pos h0]; simp only [List.length_cons, List.length_append, List.length_nil]; omega
    · rw [if_neg h0]; simp only [List.length_cons, List.length_append, List.length_nil]; omega
  by_cases h0 : 0 ≤ f
  · refine ⟨(false, .mk 91) :: (false, .wd (regL k)) :: (false, .mk 43) :: (J ++ [(false, It.mk 93)]), ⟨⟨mk_ok (by decide), fun e => (by cases e), ⟨hr, fun _ => .inr rfl, ⟨mk_ok (by decide), fun e => (by cases e), hE⟩⟩⟩, ?_, fun y hy => ?_, ⟨_, _, rfl, fun e => by injection e with e; revert e; decide⟩, hlen⟩⟩
    · show [] ++ ([91] ++ ([] ++ (regL k ++ ([] ++ ([43] ++ itT (J ++ [(false, It.mk 93)])))))) = _
      rw [hT]
      unfold placeTx
      rw [if_pos h0]
      rfl
    · simp only [List.mem_cons] at hy
      rcases hy with rfl | rfl | rfl | hy
      · rfl
      · rfl
      · rfl
      · exact hP y hy
  · obtain ⟨r, rfl⟩ := hn (by omega)
    refine ⟨(false, .mk 91) :: (false, .wd (regL k)) :: (((false, It.mk 45) :: r) ++ [(false, It.mk 93)]), ⟨⟨mk_ok (by decide), fun e => (by cases e), ⟨hr, fun _ => .inr rfl, hE⟩⟩, ?_, fun y hy => ?_, ⟨_, _, rfl, fun e => by injection e with e; revert e; decide⟩, hlen⟩⟩
    · show [] ++ ([91] ++ ([] ++ (regL k ++ itT (((false, It.mk 45) :: r) ++ [(false, It.mk 93)])))) = _
      rw [hT]
      unfold placeTx
      rw [if_neg h0]
      rfl
    · simp only [List.mem_cons] at hy
      rcases hy with rfl | rfl | hy
      · rfl
      · rfl
      · exact hP y hy
theorem imm_b {i : Int} {r : RS} (h : immOk i r) : -9223372036854775808 ≤ i ∧ i < 9223372036854775808 := by
  unfold immOk at h
  split at h
  · exact h
  · omega
theorem opd_of {o d s f i : Int} {t : List UInt8} {c : Int} {r : RS} (h : opOk o d s f i t c r) : ∃ I, Opd (opdTx o d s f i t c) I := by
  rcases h with ⟨rfl, h⟩ | ⟨rfl, h⟩ | ⟨rfl, h⟩ | ⟨rfl, hs, h⟩ | ⟨rfl, hs, h⟩ | ⟨rfl, h, hf⟩ | ⟨rfl, h, hf⟩ | ⟨rfl, h⟩ | ⟨rfl, hs, h⟩ | ⟨rfl, hs, h⟩
  · exact ⟨_, opd_reg (isReg_nat h).1⟩
  · exact ⟨_, opd_reg (isReg_nat h).1⟩
  · obtain ⟨I, hI, _⟩ := opd_int (imm_b h)
    exact ⟨I, hI⟩
  · have e : opdTx o d s f i t 4 = regL s.toNat := by show (if hasSrc o then _ else _) = _; rw [hs]; rfl
    rw [e]
    exact ⟨_, opd_reg (isReg_nat h).1⟩
  · have e : opdTx o d s f i t 4 = Lib.itoa i := by show (if hasSrc o then _ else _) = _; rw [hs]; rfl
    rw [e]
    obtain ⟨I, hI, _⟩ := opd_int (imm_b h)
    exact ⟨I, hI⟩
  · exact opd_place (isReg_nat h).1 hf
  · exact opd_place (isReg_nat h).1 hf
  · exact ⟨_, opd_name h⟩
  · have e : opdTx o d s f i t 8 = t := by show (if s = 1 then _ else _) = _; rw [if_pos hs]
    rw [e]
    exact ⟨_, opd_name h⟩
  · have e : opdTx o d s f i t 8 = Lib.itoa i := by show (if s = 1 then _ else _) = _; rw [if_neg hs]
    rw [e]
    obtain ⟨I, hI, _⟩ := opd_int (imm_b h)
    exact ⟨I, hI⟩
structure GdL (X : List UInt8) (L : List (Bool × It)) : Prop where
  ok : itOk L
  tx : itT L = X
  pl : ∀ y ∈ L, y.2.pl = true
  hd : ∃ W r, L = (false, .wd W) :: r ∧ (r = [] ∨ ∃ b x q, r = (b, x) :: q ∧ ¬ x = .mk 58)
  len : X.length ≤ 300
def GoodL (o d s f i : Int) (t : List UInt8) : Prop := ∃ L, GdL (lineP o d s f i t) L
theorem mean_word {W : List UInt8} {m : Mn} (h : meanOf W = some m) : Lx.wordP W = true := by
  unfold meanOf at h
  split at h
  · cases h
  · rename_i hk
    unfold lastAt at h
    cases hf : mnAll.reverse.find? (fun x => x.1 == W) with
    | none => rw [hf] at h; cases h
    | some x =>
      have h1 := List.mem_reverse.1 (List.mem_of_find?_eq_some hf)
      have h2 := List.find?_some hf
      simp only [beq_iff_eq] at h2
      have h3 := (show ∀ x ∈ mnAll, x.1 = [] ∨ Lx.wordP x.1 = true by decide +kernel) x h1
      rw [h2] at h3
      exact h3.resolve_left hk
theorem more_it {X Y : List UInt8} {I T : List (Bool × It)} (h : Opd X I) (hT : itOk T) (hA : aptI T) (hY : itT T = Y) (hp : ∀ y ∈ T, y.2.pl = true) : itOk ((false, .mk 44) :: (spI I ++ T)) ∧ itT ((false, .mk 44) :: (spI I ++ T)) = 44 :: 32 :: (X ++ Y) ∧ ∀ y ∈ (false, It.mk 44) :: (spI I ++ T), y.2.pl = true := by
  obtain ⟨h1, h2, h3, _⟩ := h.sp
  refine ⟨⟨mk_ok (by decide), fun e => (by cases e), it_app _ _ h1 hT hA⟩, ?_, fun y hy => ?_⟩
  · show [] ++ ([44] ++ itT (spI I ++ T)) = _
    rw [itT_app, h2, hY]
    rfl
  · rcases List.mem_cons.1 hy with rfl | hy
    · rfl
    · rcases List.mem_append.1 hy with hy | hy
      · exact h3 y hy
      · exact hp y hy
theorem good_core (o d s f i : Int) (t : List UInt8) (m : Mn) (a b c : Int) (hW : wordOk (wordP o s f i) m = true) (hT : tOf o s f = (a, b, c)) (hT' : tOf m.1 m.2.1 m.2.2.1 = (a, b, c))
    (ha : ¬ a = 0 → opOk o d s f i t a (r0Of m)) (hb : ¬ a = 0 → ¬ b = 0 → opOk o d s f i t b (opE o d s f i t a (r0Of m))) (hc : ¬ a = 0 → ¬ b = 0 → ¬ c = 0 → opOk o d s f i t c (opE o d s f i t b (opE o d s f i t a (r0Of m))))
    (hz : rzOf o d s f i t a b c (r0Of m) = ⟨[], [], o, d, s, f, i, t, false, false⟩) : GoodL o d s f i t := by
  simp only [wordOk, Bool.and_eq_true, beq_iff_eq] at hW
  have hw := mean_word hW.2
  have hwl : (wordP o s f i).length ≤ 64 := by
    obtain ⟨_, _, _, _, _, h⟩ := Lx.word_start hw
    exact h
  unfold GoodL lineP
  rw [hT]
  generalize wordP o s f i = W at hw hwl
  clear hW hT hT' hz
  unfold tailP
  simp only
  by_cases h0 : a = 0
  · rw [if_pos h0]
    refine ⟨[(false, .wd W)], ⟨hw, fun _ => trivial, trivial⟩, by simp [itT, It.tx], fun y hy => by rw [List.mem_singleton.1 hy]; rfl, ⟨W, [], rfl, .inl rfl⟩, by rw [List.append_nil]; omega⟩
  rw [if_neg h0]
  obtain ⟨A, hA⟩ := opd_of (ha h0)
  obtain ⟨a1, a2, a3, xa, ra, a4, a5⟩ := hA.sp
  have al := hA.len
  generalize opdTx o d s f i t a = XA at hA a2 al ⊢
  have fin : ∀ (T : List (Bool × It)) (Y : List UInt8), itOk T → aptI T → itT T = Y → (∀ y ∈ T, y.2.pl = true) → Y.length ≤ 132 → ∃ L, GdL (W ++ 32 :: (XA ++ Y)) L := fun T Y t1 t2 t3 t4 t5 => by
    refine ⟨(false, .wd W) :: (spI A ++ T), ⟨hw, fun _ => ?_, it_app _ _ a1 t1 t2⟩, ?_, fun y hy => ?_, ⟨W, _, rfl, .inr ⟨true, xa, ra ++ T, ?_, a5⟩⟩, ?_⟩
    · rw [a4]; exact .inl rfl
    · show [] ++ (W ++ itT (spI A ++ T)) = _
      rw [itT_app, a2, t3]
      rfl
    · rcases List.mem_cons.1 hy with rfl | hy
      · rfl
      · rcases List.mem_append.1 hy with hy | hy
        · exact a3 y hy
        · exact t4 y hy
    · rw [a4]; rfl
    · simp only [List.length_append, List.length_cons]; omega
  by_cases h1 : b = 0
  · rw [if_pos h1]
    exact fin [] [] trivial trivial rfl (fun y hy => by cases hy) (by simp)
  rw [if_neg h1]
  obtain ⟨B, hB⟩ := opd_of (hb h0 h1)
  have bl := hB.len
  generalize opdTx o d s f i t b = XB at hB bl ⊢
  by_cases h2 : c = 0
  · rw [if_pos h2]
    obtain ⟨m1, m2, m3⟩ := more_it hB (T := []) trivial trivial rfl (fun y hy => by cases hy)
    exact fin _ _ m1 (.inr rfl) m2 m3 (by simp only [List.length_append, List.length_cons, List.length_nil]; omega)
  rw [if_neg h2]
  obtain ⟨C, hC⟩ := opd_of (hc h0 h1 h2)
  have cl := hC.len
  generalize opdTx o d s f i t c = XC at hC cl ⊢
  obtain ⟨n1, n2, n3⟩ := more_it hC (T := []) trivial trivial rfl (fun y hy => by cases hy)
  obtain ⟨m1, m2, m3⟩ := more_it hB n1 (.inr rfl) n2 n3
  exact fin _ _ m1 (.inr rfl) m2 m3 (by simp only [List.length_append, List.length_cons, List.length_nil]; omega)
theorem good_1 (o d s f i : Int) (t : List UInt8) (hk : formP o = 1) (h : mayP o d s f i = 0) (ht : tfitP o s f i t = true) : GoodL o d s f i t := by
  obtain ⟨_, h1, h2, h3, h4⟩ := may_parts o d s f i h
  have ho := ops_at 1 (by decide) o hk (by decide)
  have : o = 149 := by simpa [opsL, opsT] using ho
  subst this
  have e : useD 149 (formP 149) = false ∧ useS 149 (formP 149) = false ∧ useO 149 (formP 149) = false ∧ useI 149 (formP 149) = false ∧ ordersP 149 = false ∧ formP 149 = 1 := by decide +kernel
  rw [e.1] at h1
  rw [e.2.1, e.2.2.2.2.2] at h2
  rw [e.2.2.1, e.2.2.2.2.2] at h3
  rw [e.2.2.2.1, e.2.2.2.2.2] at h4
  have hd : d = 0 := by simpa [dstP] using h1
  have hs : s = 0 := by simpa [srcP] using h2
  have hf : f = 0 := by simpa [offP] using h3
  have hi : i = 0 := by simpa [immP, e.2.2.2.2.1] using h4
  have htt : t = [] := by simpa [tfitP, hk] using ht
  subst hd hs hf hi htt
  exact good_core 149 0 0 0 0 [] (149, 0, 0, 0) 0 0 0 (by decide +kernel) (by decide +kernel) (by decide +kernel) (fun h => absurd rfl h) (fun h => absurd rfl h) (fun h => absurd rfl h) rfl
theorem good_2 (o d s f i : Int) (t : List UInt8) (hk : formP o = 2) (h : mayP o d s f i = 0) (ht : tfitP o s f i t = true) : GoodL o d s f i t := by
  obtain ⟨_, h1, h2, h3, h4⟩ := may_parts o d s f i h
  have ho := ops_at 2 (by decide) o hk (by decide)
  obtain ⟨u1, u2, u3, u4⟩ := uses_of 2 o ho
  simp only at u1 u2 u3 u4
  rw [u1] at h1
  rw [u2, hk] at h2
  rw [u3, hk] at h3
  rw [u4, hk] at h4
  have hd : isReg d = true := by simpa [dstP] using h1
  have hs : s = 0 := by simpa [srcP] using h2
  have hf : f = 0 := by simpa [offP] using h3
  have htt : t = [] := by simpa [tfitP, hk] using ht
  have hi : i ∈ (if ordersP o then [16, 32, 64] else [0] : List Int) := by
    cases hz : ordersP o
    · simpa [immP, hz] using h4
    · have := h4
      simp [immP, hz] at this
      simp
      omega
  subst hs hf htt
  have hA : ∀ o ∈ opsL 2, ∀ i ∈ (if ordersP o then [16, 32, 64] else [0] : List Int), wordOk (wordP o 0 0 i) (o, 0, 0, i) = true ∧ tOf o 0 0 = (1, 0, 0) := by decide +kernel
  obtain ⟨a1, a2⟩ := hA o ho i hi
  refine good_core o d 0 0 i [] (o, 0, 0, i) 1 0 0 a1 a2 a2 (fun _ => .inl ⟨rfl, hd⟩) (fun _ h => absurd rfl h) (fun _ h => absurd rfl h) rfl
theorem good_3 (o d s f i : Int) (t : List UInt8) (hk : formP o = 3) (h : mayP o d s f i = 0) (ht : tfitP o s f i t = true) : GoodL o d s f i t := by
  obtain ⟨_, h1, h2, h3, h4⟩ := may_parts o d s f i h
  have ho := ops_at 3 (by decide) o hk (by decide)
  have u1 : useD o (formP o) = true := (uses_of 3 o ho).1
  have u2 : useS o (formP o) = (hasSrc o) := (uses_of 3 o ho).2.1
  have u3 : useO o (formP o) = false := (uses_of 3 o ho).2.2.1
  have u4 : useI o (formP o) = (!hasSrc o) := (uses_of 3 o ho).2.2.2
  rw [u1] at h1
  rw [u2, hk] at h2
  rw [u3, hk] at h3
  rw [u4, hk] at h4
  have hd : isReg d = true := by simpa [dstP] using h1
  have htt : t = [] := by simpa [tfitP, hk] using ht
  have hf : (f == 0 || variantP o f) = true := by
    unfold offP at h3
    simp only [Bool.false_eq_true, if_false] at h3
    split at h3
    · rename_i hz; simp [hz]
    · simp only [beq_self_eq_true, if_true] at h3; simp [h3]
  have hfi : f ∈ ([0, 1, 8, 16, 32] : List Int) := by
    by_cases hz : f = 0
    · simp [hz]
    · exact variant_in (by simpa [hz] using hf)
  subst htt
  have hA : ∀ o ∈ opsL 3, ∀ f ∈ ([0, 1, 8, 16, 32] : List Int), (f == 0 || variantP o f) = true → wordOk (wordP o 0 f 0) (mo3 o f, 0, f, 0) = true ∧ formP (mo3 o f) = 3 ∧ (8 ≤ f → hasSrc o = true) ∧ (¬ 8 ≤ f → hasSrc o = true → orB (mo3 o f) = o) ∧ (hasSrc o = false → mo3 o f = o) ∧ ordersP o = false ∧ ¬ o = 24 := by decide +kernel
  obtain ⟨a1, a2, a3, a4, a5, a6, a7⟩ := hA o ho f hfi hf
  have hW : wordOk (wordP o s f i) (mo3 o f, 0, f, 0) = true := by rw [w3 o s f i ho]; exact a1
  cases hx : hasSrc o
  · rw [hx] at h2 h4
    have hs : s = 0 := by simpa [srcP] using h2
    have h8 : ¬ 8 ≤ f := fun h8 => by rw [a3 h8] at hx; cases hx
    have hi : (decide (-2147483648 ≤ i) && decide (i ≤ 2147483647)) = true := by simpa [immP] using h4
    have e1 : tOf o s f = (1, 4, 0) := by unfold tOf opdsP; rw [hk, if_pos rfl, if_neg h8]
    have e2 : tOf (mo3 o f) 0 f = (1, 4, 0) := by unfold tOf opdsP; rw [a2, if_pos rfl, if_neg h8]
    subst hs
    refine good_core o d 0 f i [] (mo3 o f, 0, f, 0) 1 4 0 hW e1 e2 (fun _ => .inl ⟨rfl, hd⟩) (fun _ _ => .inr (.inr (.inr (.inr (.inl ⟨rfl, hx, ?_⟩))))) (fun _ _ h => absurd rfl h) ?_
    · exact imm32 hi _ (by show ¬ mo3 o f = 24; rw [a5 hx]; exact a7)
    · show (if hasSrc o then _ else _) = _
      rw [hx]
      show ({ r0Of (mo3 o f, 0, f, 0) with d := d, i := i } : RS) = _
      unfold r0Of
      simp only [a5 hx]
  · rw [hx] at h2 h4
    have hs : isReg s = true := by simpa [srcP] using h2
    have hi : i = 0 := by simpa [immP, a6] using h4
    subst hi
    by_cases h8 : 8 ≤ f
    · have e1 : tOf o s f = (1, 2, 0) := by unfold tOf opdsP; rw [hk, if_pos rfl, if_pos h8]
      have em : mo3 o f = o := by unfold mo3; rw [if_pos h8]
      have e2 : tOf (mo3 o f) 0 f = (1, 2, 0) := by unfold tOf opdsP; rw [a2, if_pos rfl, if_pos h8]
      refine good_core o d s f 0 [] (mo3 o f, 0, f, 0) 1 2 0 hW e1 e2 (fun _ => .inl ⟨rfl, hd⟩) (fun _ _ => .inr (.inl ⟨rfl, hs⟩)) (fun _ _ h => absurd rfl h) ?_
      rw [em]
      rfl
    · have e1 : tOf o s f = (1, 4, 0) := by unfold tOf opdsP; rw [hk, if_pos rfl, if_neg h8]
      have e2 : tOf (mo3 o f) 0 f = (1, 4, 0) := by unfold tOf opdsP; rw [a2, if_pos rfl, if_neg h8]
      refine good_core o d s f 0 [] (mo3 o f, 0, f, 0) 1 4 0 hW e1 e2 (fun _ => .inl ⟨rfl, hd⟩) (fun _ _ => .inr (.inr (.inr (.inl ⟨rfl, hx, hs⟩)))) (fun _ _ h => absurd rfl h) ?_
      show (if hasSrc o then _ else _) = _
      rw [hx]
      show ({ r0Of (mo3 o f, 0, f, 0) with d := d, o := orB (mo3 o f), s := s } : RS) = _
      unfold r0Of
      simp only [a4 h8 hx]
theorem good_4 (o d s f i : Int) (t : List UInt8) (hk : formP o = 4) (h : mayP o d s f i = 0) (ht : tfitP o s f i t = true) : GoodL o d s f i t := by
  obtain ⟨_, h1, h2, h3, h4⟩ := may_parts o d s f i h
  have ho := ops_at 4 (by decide) o hk (by decide)
  have u1 : useD o (formP o) = true := (uses_of 4 o ho).1
  have u2 : useS o (formP o) = (true) := (uses_of 4 o ho).2.1
  have u3 : useO o (formP o) = true := (uses_of 4 o ho).2.2.1
  have u4 : useI o (formP o) = (false) := (uses_of 4 o ho).2.2.2
  rw [u1] at h1
  rw [u2, hk] at h2
  rw [u3, hk] at h3
  rw [u4, hk] at h4
  have hA : ∀ o ∈ opsL 4, wordOk (wordP o 0 0 0) (o, 0, 0, 0) = true ∧ (¬ cls o = 0 ∧ ¬ cls o = 7 ∧ ¬ cls o = 4 ∧ ¬ cls o = 5 ∧ ¬ cls o = 6) ∧ ordersP o = false := by decide +kernel
  obtain ⟨a1, a2, a4⟩ := hA o ho
  have hd : isReg d = true := by simpa [dstP] using h1
  have hs : isReg s = true := by simpa [srcP] using h2
  have hf := off16 (f := f) (by simpa [offP] using h3)
  have hi : i = 0 := by simpa [immP, a4] using h4
  have htt : t = [] := by simpa [tfitP, hk] using ht
  subst hi htt
  have e1 : tOf o s f = (1, 5, 0) := by unfold tOf opdsP; rw [hk]; rfl
  have e2 : tOf o 0 0 = (1, 5, 0) := by unfold tOf opdsP; rw [hk]; rfl
  have hW : wordOk (wordP o s f 0) (o, 0, 0, 0) = true := by rw [wM o s f 0 a2]; rw [wM o 0 0 0 a2] at a1; exact a1
  exact good_core o d s f 0 [] (o, 0, 0, 0) 1 5 0 hW e1 e2 (fun _ => .inl ⟨rfl, hd⟩) (fun _ _ => .inr (.inr (.inr (.inr (.inr (.inl ⟨rfl, hs, hf⟩)))))) (fun _ _ h => absurd rfl h) rfl
theorem good_5 (o d s f i : Int) (t : List UInt8) (hk : formP o = 5) (h : mayP o d s f i = 0) (ht : tfitP o s f i t = true) : GoodL o d s f i t := by
  obtain ⟨_, h1, h2, h3, h4⟩ := may_parts o d s f i h
  have ho := ops_at 5 (by decide) o hk (by decide)
  have u1 : useD o (formP o) = true := (uses_of 5 o ho).1
  have u2 : useS o (formP o) = ((cls o == 3)) := (uses_of 5 o ho).2.1
  have u3 : useO o (formP o) = true := (uses_of 5 o ho).2.2.1
  have u4 : useI o (formP o) = ((cls o == 2)) := (uses_of 5 o ho).2.2.2
  have hA : ∀ o ∈ opsL 5, wordOk (wordP o 0 0 0) (o, 0, 0, 0) = true ∧ (¬ cls o = 0 ∧ ¬ cls o = 7 ∧ ¬ cls o = 4 ∧ ¬ cls o = 5 ∧ ¬ cls o = 6) ∧ ordersP o = false ∧ (memT.find? (fun r => bits .andNot .i64 o 24 == r.1)).isSome = true ∧ (cls o == 2) = !(cls o == 3) ∧ ¬ o = 24 := by decide +kernel
  obtain ⟨a1, a2, a4, a5, a6, a7⟩ := hA o ho
  rw [a6] at u4
  have u2' := u2
  rw [u1] at h1
  rw [u2, hk] at h2
  rw [u3, hk] at h3
  rw [u4, hk] at h4
  have hd : isReg d = true := by simpa [dstP] using h1
  have hf := off16 (f := f) (by simpa [offP] using h3)
  have htt : t = [] := by simpa [tfitP, hk] using ht
  subst htt
  have hW : wordOk (wordP o s f i) (o, 0, 0, 0) = true := by rw [wM o s f i a2, wM_some o i a5]; rw [wM o 0 0 0 a2] at a1; exact a1
  cases hx : (cls o == 3)
  · rw [hx] at h2 h4 u2'
    have hs : s = 0 := by simpa [srcP] using h2
    have hi : (decide (-2147483648 ≤ i) && decide (i ≤ 2147483647)) = true := by simpa [immP] using h4
    have e1 : tOf o s f = (6, 3, 0) := by unfold tOf opdsP; rw [u2', hk]; rfl
    have e2 : tOf o 0 0 = (6, 3, 0) := by unfold tOf opdsP; rw [u2', hk]; rfl
    subst hs
    exact good_core o d 0 f i [] (o, 0, 0, 0) 6 3 0 hW e1 e2 (fun _ => .inr (.inr (.inr (.inr (.inr (.inr (.inl ⟨rfl, hd, hf⟩))))))) (fun _ _ => .inr (.inr (.inl ⟨rfl, imm32 hi _ a7⟩))) (fun _ _ h => absurd rfl h) rfl
  · rw [hx] at h2 h4 u2'
    have hs : isReg s = true := by simpa [srcP] using h2
    have hi : i = 0 := by simpa [immP, a4] using h4
    have e1 : tOf o s f = (6, 2, 0) := by unfold tOf opdsP; rw [u2', hk]; rfl
    have e2 : tOf o 0 0 = (6, 2, 0) := by unfold tOf opdsP; rw [u2', hk]; rfl
    subst hi
    exact good_core o d s f 0 [] (o, 0, 0, 0) 6 2 0 hW e1 e2 (fun _ => .inr (.inr (.inr (.inr (.inr (.inr (.inl ⟨rfl, hd, hf⟩))))))) (fun _ _ => .inr (.inl ⟨rfl, hs⟩)) (fun _ _ h => absurd rfl h) rfl
theorem good_6 (o d s f i : Int) (t : List UInt8) (hk : formP o = 6) (h : mayP o d s f i = 0) (ht : tfitP o s f i t = true) : GoodL o d s f i t := by
  obtain ⟨_, h1, h2, h3, h4⟩ := may_parts o d s f i h
  have ho := ops_at 6 (by decide) o hk (by decide)
  have u1 : useD o (formP o) = true := (uses_of 6 o ho).1
  have u2 : useS o (formP o) = (true) := (uses_of 6 o ho).2.1
  have u3 : useO o (formP o) = true := (uses_of 6 o ho).2.2.1
  have u4 : useI o (formP o) = (false) := (uses_of 6 o ho).2.2.2
  have u2' := u2
  rw [u1] at h1
  rw [u2, hk] at h2
  rw [u3, hk] at h3
  rw [u4, hk] at h4
  have hA : ∀ o ∈ opsL 6, ∀ i ∈ immsT, wordOk (wordP o 0 0 i) (o, 0, 0, i) = true ∧ (¬ cls o = 0 ∧ ¬ cls o = 7 ∧ ¬ cls o = 4 ∧ ¬ cls o = 5 ∧ ¬ cls o = 6) := by decide +kernel
  have hi : i ∈ immsT := by simpa [immP, atomP] using h4
  obtain ⟨a1, a2⟩ := hA o ho i hi
  have hd : isReg d = true := by simpa [dstP] using h1
  have hs : isReg s = true := by simpa [srcP] using h2
  have hf := off16 (f := f) (by simpa [offP] using h3)
  have htt : t = [] := by simpa [tfitP, hk] using ht
  subst htt
  have hW : wordOk (wordP o s f i) (o, 0, 0, i) = true := by rw [wM o s f i a2]; rw [wM o 0 0 i a2] at a1; exact a1
  have e1 : tOf o s f = (6, 2, 0) := by unfold tOf opdsP; rw [u2', hk]; rfl
  have e2 : tOf o 0 0 = (6, 2, 0) := by unfold tOf opdsP; rw [u2', hk]; rfl
  exact good_core o d s f i [] (o, 0, 0, i) 6 2 0 hW e1 e2 (fun _ => .inr (.inr (.inr (.inr (.inr (.inr (.inl ⟨rfl, hd, hf⟩))))))) (fun _ _ => .inr (.inl ⟨rfl, hs⟩)) (fun _ _ h => absurd rfl h) rfl
theorem good_7 (o d s f i : Int) (t : List UInt8) (hk : formP o = 7) (h : mayP o d s f i = 0) (ht : tfitP o s f i t = true) : GoodL o d s f i t := by
  obtain ⟨_, h1, h2, h3, h4⟩ := may_parts o d s f i h
  have ho := ops_at 7 (by decide) o hk (by decide)
  have u1 : useD o (formP o) = false := (uses_of 7 o ho).1
  have u2 : useS o (formP o) = (false) := (uses_of 7 o ho).2.1
  have u3 : useO o (formP o) = (o == 5) := (uses_of 7 o ho).2.2.1
  have u4 : useI o (formP o) = ((o == 6)) := (uses_of 7 o ho).2.2.2
  rw [u1] at h1
  rw [u2, hk] at h2
  have hA : ∀ o ∈ opsL 7, wordOk (wordP o 0 0 0) (o, 0, 0, 0) = true ∧ (¬ cls o = 0 ∧ ¬ cls o = 7 ∧ ¬ cls o = 4 ∧ (cls o = 5 ∨ cls o = 6)) := by decide +kernel
  obtain ⟨a1, a2⟩ := hA o ho
  have hd : d = 0 := by simpa [dstP] using h1
  have hs : s = 0 := by simpa [srcP] using h2
  have htt : nameP t = true ∧ f = 0 ∧ i = 0 := by simpa [tfitP, hk, and_assoc] using ht
  obtain ⟨hn, hf, hi⟩ := htt
  subst hd hs hf hi
  have e1 : tOf o 0 0 = (7, 0, 0) := by unfold tOf opdsP; rw [hk]; rfl
  exact good_core o 0 0 0 0 t (o, 0, 0, 0) 7 0 0 a1 e1 e1 (fun _ => .inr (.inr (.inr (.inr (.inr (.inr (.inr (.inl ⟨rfl, hn⟩)))))))) (fun _ h => absurd rfl h) (fun _ h => absurd rfl h) rfl
theorem good_8 (o d s f i : Int) (t : List UInt8) (hk : formP o = 8) (h : mayP o d s f i = 0) (ht : tfitP o s f i t = true) : GoodL o d s f i t := by
  obtain ⟨_, h1, h2, h3, h4⟩ := may_parts o d s f i h
  have ho := ops_at 8 (by decide) o hk (by decide)
  have u1 : useD o (formP o) = true := (uses_of 8 o ho).1
  have u2 : useS o (formP o) = (hasSrc o) := (uses_of 8 o ho).2.1
  have u3 : useO o (formP o) = true := (uses_of 8 o ho).2.2.1
  have u4 : useI o (formP o) = (!hasSrc o) := (uses_of 8 o ho).2.2.2
  rw [u1] at h1
  rw [u2, hk] at h2
  rw [u4, hk] at h4
  have hA : ∀ o ∈ opsL 8, wordOk (wordP o 0 0 0) (mo3 o 0, 0, 0, 0) = true ∧ (¬ cls o = 0 ∧ ¬ cls o = 7 ∧ ¬ cls o = 4 ∧ (cls o = 5 ∨ cls o = 6)) ∧ formP (mo3 o 0) = 8 ∧ (hasSrc o = true → orB (mo3 o 0) = o) ∧ (hasSrc o = false → mo3 o 0 = o) ∧ ordersP o = false ∧ ¬ o = 24 := by decide +kernel
  obtain ⟨a1, a2, a3, a4, a5, a6, a7⟩ := hA o ho
  have hd : isReg d = true := by simpa [dstP] using h1
  have htt : nameP t = true ∧ f = 0 := by simpa [tfitP, hk, and_assoc] using ht
  obtain ⟨hn, hf⟩ := htt
  subst hf
  have e1 : tOf o s 0 = (1, 4, 7) := by unfold tOf opdsP; rw [hk]; rfl
  have e2 : tOf (mo3 o 0) 0 0 = (1, 4, 7) := by unfold tOf opdsP; rw [a3]; rfl
  have hW : wordOk (wordP o s 0 i) (mo3 o 0, 0, 0, 0) = true := by rw [wJ o s 0 i a2]; exact a1
  cases hx : hasSrc o
  · rw [hx] at h2 h4
    have hs : s = 0 := by simpa [srcP] using h2
    have hi : (decide (-2147483648 ≤ i) && decide (i ≤ 2147483647)) = true := by simpa [immP] using h4
    subst hs
    refine good_core o d 0 0 i t (mo3 o 0, 0, 0, 0) 1 4 7 hW e1 e2 (fun _ => .inl ⟨rfl, hd⟩) (fun _ _ => .inr (.inr (.inr (.inr (.inl ⟨rfl, hx, ?_⟩))))) (fun _ _ _ => .inr (.inr (.inr (.inr (.inr (.inr (.inr (.inl ⟨rfl, hn⟩)))))))) ?_
    · exact imm32 hi _ (by show ¬ mo3 o 0 = 24; rw [a5 hx]; exact a7)
    · have e4 : opE o d 0 0 i t 4 (opE o d 0 0 i t 1 (r0Of (mo3 o 0, 0, 0, 0))) = { r0Of (mo3 o 0, 0, 0, 0) with d := d, i := i } := by
        show (if hasSrc o then _ else _) = _
        rw [hx]
        rfl
      show { opE o d 0 0 i t 4 (opE o d 0 0 i t 1 (r0Of (mo3 o 0, 0, 0, 0))) with tgt := t } = _
      rw [e4]
      unfold r0Of
      simp only [a5 hx]
  · rw [hx] at h2 h4
    have hs : isReg s = true := by simpa [srcP] using h2
    have hi : i = 0 := by simpa [immP, a6] using h4
    subst hi
    refine good_core o d s 0 0 t (mo3 o 0, 0, 0, 0) 1 4 7 hW e1 e2 (fun _ => .inl ⟨rfl, hd⟩) (fun _ _ => .inr (.inr (.inr (.inl ⟨rfl, hx, hs⟩)))) (fun _ _ _ => .inr (.inr (.inr (.inr (.inr (.inr (.inr (.inl ⟨rfl, hn⟩)))))))) ?_
    have e4 : opE o d s 0 0 t 4 (opE o d s 0 0 t 1 (r0Of (mo3 o 0, 0, 0, 0))) = { r0Of (mo3 o 0, 0, 0, 0) with d := d, o := orB (mo3 o 0), s := s } := by
      show (if hasSrc o then _ else _) = _
      rw [hx]
      rfl
    show { opE o d s 0 0 t 4 (opE o d s 0 0 t 1 (r0Of (mo3 o 0, 0, 0, 0))) with tgt := t } = _
    rw [e4]
    unfold r0Of
    simp only [a4 hx]
theorem good_9 (o d s f i : Int) (t : List UInt8) (hk : formP o = 9) (h : mayP o d s f i = 0) (ht : tfitP o s f i t = true) : GoodL o d s f i t := by
  obtain ⟨_, h1, h2, h3, h4⟩ := may_parts o d s f i h
  have ho := ops_at 9 (by decide) o hk (by decide)
  have u1 : useD o (formP o) = false := (uses_of 9 o ho).1
  have u2 : useS o (formP o) = (false) := (uses_of 9 o ho).2.1
  have u3 : useO o (formP o) = false := (uses_of 9 o ho).2.2.1
  have u4 : useI o (formP o) = (true) := (uses_of 9 o ho).2.2.2
  rw [u1] at h1
  rw [u2, hk] at h2
  rw [u3, hk] at h3
  rw [u4, hk] at h4
  have hA : ∀ o ∈ opsL 9, wordOk (wordP o 0 0 0) (o, 0, 0, 0) = true ∧ (¬ cls o = 0 ∧ ¬ cls o = 7 ∧ ¬ cls o = 4 ∧ (cls o = 5 ∨ cls o = 6)) ∧ ¬ o = 24 := by decide +kernel
  obtain ⟨a1, a2, a7⟩ := hA o ho
  have hd : d = 0 := by simpa [dstP] using h1
  have hs : s = 0 ∨ s = 1 := by simpa [srcP] using h2
  have hf : f = 0 := by simpa [offP] using h3
  have hi : (decide (-2147483648 ≤ i) && decide (i ≤ 2147483647)) = true := by simpa [immP] using h4
  subst hd hf
  have e1 : tOf o s 0 = (8, 0, 0) := by unfold tOf opdsP; rw [hk]; rfl
  have e2 : tOf o 0 0 = (8, 0, 0) := by unfold tOf opdsP; rw [hk]; rfl
  have hW : wordOk (wordP o s 0 i) (o, 0, 0, 0) = true := by rw [wJ o s 0 i a2]; exact a1
  rcases hs with rfl | rfl
  · have htt : t = [] := by simpa [tfitP, hk] using ht
    subst htt
    exact good_core o 0 0 0 i [] (o, 0, 0, 0) 8 0 0 hW e1 e2 (fun _ => .inr (.inr (.inr (.inr (.inr (.inr (.inr (.inr (.inr ⟨rfl, by decide, imm32 hi _ a7⟩))))))))) (fun _ h => absurd rfl h) (fun _ h => absurd rfl h) rfl
  · have htt : nameP t = true ∧ i = -1 := by simpa [tfitP, hk] using ht
    obtain ⟨hn, rfl⟩ := htt
    exact good_core o 0 1 0 (-1) t (o, 0, 0, 0) 8 0 0 hW e1 e2 (fun _ => .inr (.inr (.inr (.inr (.inr (.inr (.inr (.inr (.inl ⟨rfl, rfl, hn⟩))))))))) (fun _ h => absurd rfl h) (fun _ h => absurd rfl h) rfl
theorem good_10 (o d s f i : Int) (t : List UInt8) (hk : formP o = 10) (h : mayP o d s f i = 0) (ht : tfitP o s f i t = true) (hi : -9223372036854775808 ≤ i ∧ i < 9223372036854775808) : GoodL o d s f i t := by
  obtain ⟨_, h1, h2, h3, h4⟩ := may_parts o d s f i h
  have ho := ops_at 10 (by decide) o hk (by decide)
  have u1 : useD o (formP o) = true := (uses_of 10 o ho).1
  have u2 : useS o (formP o) = (false) := (uses_of 10 o ho).2.1
  have u3 : useO o (formP o) = false := (uses_of 10 o ho).2.2.1
  have u4 : useI o (formP o) = (true) := (uses_of 10 o ho).2.2.2
  rw [u1] at h1
  rw [u2, hk] at h2
  rw [u3, hk] at h3
  have ho' : o = 24 := by simpa [opsL, opsT] using ho
  subst ho'
  have hd : isReg d = true := by simpa [dstP] using h1
  have hs : s = 0 ∨ s = 1 := by simpa [srcP] using h2
  have hf : f = 0 := by simpa [offP] using h3
  subst hf
  rcases hs with rfl | rfl
  · have htt : t = [] := by simpa [tfitP, hk] using ht
    subst htt
    exact good_core 24 d 0 0 i [] (24, 0, 0, 0) 1 3 0 (by rw [show wordP 24 0 0 i = wordP 24 0 0 0 from rfl]; decide +kernel) (by decide +kernel) (by decide +kernel) (fun _ => .inl ⟨rfl, hd⟩) (fun _ _ => .inr (.inr (.inl ⟨rfl, by show (if (24 : Int) = 24 then _ else _); rw [if_pos rfl]; exact hi⟩))) (fun _ _ h => absurd rfl h) rfl
  · have htt : nameP t = true ∧ i = 0 := by simpa [tfitP, hk] using ht
    obtain ⟨hn, rfl⟩ := htt
    exact good_core 24 d 1 0 0 t (24, 1, 0, 0) 1 7 0 (by decide +kernel) (by decide +kernel) (by decide +kernel) (fun _ => .inl ⟨rfl, hd⟩) (fun _ _ => .inr (.inr (.inr (.inr (.inr (.inr (.inr (.inl ⟨rfl, hn⟩)))))))) (fun _ _ h => absurd rfl h) rfl
theorem good_line (o d s f i : Int) (t : List UInt8) (h : mayP o d s f i = 0) (ht : tfitP o s f i t = true) (hi : -9223372036854775808 ≤ i ∧ i < 9223372036854775808) : GoodL o d s f i t := by
  have hn := (may_parts o d s f i h).1
  have hle := form_le o
  rcases (show formP o = 1 ∨ formP o = 2 ∨ formP o = 3 ∨ formP o = 4 ∨ formP o = 5 ∨ formP o = 6 ∨ formP o = 7 ∨ formP o = 8 ∨ formP o = 9 ∨ formP o = 10 from by omega) with hk | hk | hk | hk | hk | hk | hk | hk | hk | hk
  · exact good_1 o d s f i t hk h ht
  · exact good_2 o d s f i t hk h ht
  · exact good_3 o d s f i t hk h ht
  · exact good_4 o d s f i t hk h ht
  · exact good_5 o d s f i t hk h ht
  · exact good_6 o d s f i t hk h ht
  · exact good_7 o d s f i t hk h ht
  · exact good_8 o d s f i t hk h ht
  · exact good_9 o d s f i t hk h ht
  · exact good_10 o d s f i t hk h ht hi
end Go.Proofs.YtkihaohdcgjioaaGreatDoor
