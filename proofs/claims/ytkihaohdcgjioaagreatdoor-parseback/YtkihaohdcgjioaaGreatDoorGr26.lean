import Derived.Test.YtkihaohdcgjioaaGreatDoorGr25
namespace Go.Proofs.YtkihaohdcgjioaaGreatDoor
open Go.RowKit
set_option linter.unusedVariables false
set_option linter.unusedSimpArgs false
def fine (r : RS) : Prop := r.wrong = false ∧ r.outside = false
def flds (r : RS) : Int × Int × Int × Int × Int × List UInt8 := (r.o, r.d, r.s, r.f, r.i, r.tgt)
theorem skip_eff (m : List UInt8) (r : RS) : flds (skipP m r).1 = flds r ∧ (skipP m r).1.wrong = r.wrong ∧ (skipP m r).1.outside = r.outside := by
  unfold skipP
  split <;> exact ⟨rfl, rfl, rfl⟩
theorem mark_eff (m : List UInt8) (r : RS) (h : fine (markS m r)) : fine r ∧ flds (markS m r) = flds r := by
  obtain ⟨h1, h2, h3⟩ := skip_eff m r
  unfold markS at h ⊢
  split
  · rename_i hb
    rw [if_pos hb] at h
    exact ⟨⟨h2.symm.trans h.1, h3.symm.trans h.2⟩, h1⟩
  · rename_i hb
    rw [if_neg hb] at h
    exact absurd h.1 (by simp)
theorem reg_eff (r : RS) (h : fine (regS r).1) : fine r ∧ flds (regS r).1 = flds r ∧ isReg (regS r).2 = true := by
  unfold regS at h ⊢
  split
  · rename_i k hk
    rw [hk] at h
    refine ⟨h, rfl, ?_⟩
    have := List.mem_of_find?_eq_some hk
    simp only [List.mem_range] at this
    simp only [isReg, Bool.and_eq_true, decide_eq_true_eq]
    omega
  · rename_i hk
    rw [hk] at h
    exact absurd h.1 (by simp)
theorem num_eff (b : Bool) (half high : Int) (r : RS) (h : fine (numS b half high r)) : fine r ∧ flds (numS b half high r) = flds r ∧ 0 ≤ (valP r.tok).1 ∧ (valP r.tok).1 ≤ (if b then half else high) := by
  obtain ⟨h1, h2⟩ := h
  have hv := (valP_rng r.tok).1
  have e1 : (numS b half high r).wrong = (r.wrong || !(valP r.tok).2.2) := rfl
  have e2 : (numS b half high r).outside = (r.outside || ((valP r.tok).2.1 || decide ((if b then half else high) < (valP r.tok).1))) := rfl
  rw [e1, Bool.or_eq_false_iff] at h1
  rw [e2, Bool.or_eq_false_iff, Bool.or_eq_false_iff, decide_eq_false_iff_not] at h2
  exact ⟨⟨h1.1, h2.1⟩, rfl, hv, by omega⟩
theorem sgn_eff (r : RS) : flds (sgnS r).1 = flds r ∧ (sgnS r).1.wrong = r.wrong ∧ (sgnS r).1.outside = r.outside := by
  obtain ⟨h1, h2, h3⟩ := skip_eff [45] r
  obtain ⟨k1, k2, k3⟩ := skip_eff [43] (skipP [45] r).1
  unfold sgnS
  split
  · exact ⟨h1, h2, h3⟩
  · exact ⟨k1.trans h1, k2.trans h2, k3.trans h3⟩
theorem negV (n : Int) (h0 : 0 ≤ n) (h1 : n ≤ 9223372036854775808) : Wo.negW n = if n = 0 then 0 else 18446744073709551616 - n := by
  unfold Wo.negW
  simp only [IntKind.wrap_u64]
  split <;> omega
theorem numV_rng (b : Bool) (r : RS) (width H M : Int) (eM : Wo.mW width = M) (eH : Wo.hW width = H) (h : (H = 32768 ∧ M = 65536) ∨ (H = 2147483648 ∧ M = 4294967296) ∨ (H = 9223372036854775808 ∧ M = 18446744073709551616)) (h0 : 0 ≤ (valP r.tok).1) (hb : b = true → (valP r.tok).1 ≤ 9223372036854775808) : -H ≤ numV b width r ∧ numV b width r < H := by
  have hv := (valP_rng r.tok).2
  unfold numV Wo.sgnW Wo.sgnM wrap64
  rw [eM, eH]
  cases b
  · simp only [Bool.false_eq_true, if_false]
    rcases h with ⟨rfl, rfl⟩ | ⟨rfl, rfl⟩ | ⟨rfl, rfl⟩ <;> (split <;> omega)
  · simp only [if_true]
    rw [negV _ h0 (hb rfl)]
    rcases h with ⟨rfl, rfl⟩ | ⟨rfl, rfl⟩ | ⟨rfl, rfl⟩ <;> (split <;> split <;> omega)
theorem imm_eff (r : RS) (h : fine (immS r)) : fine r ∧ ∃ i, flds (immS r) = (r.o, r.d, r.s, r.f, i, r.tgt) ∧ immOk i r := by
  obtain ⟨h1, h2, h3⟩ := sgn_eff r
  have h1' : (sgnS r).1.o = r.o ∧ (sgnS r).1.d = r.d ∧ (sgnS r).1.s = r.s ∧ (sgnS r).1.f = r.f ∧ (sgnS r).1.i = r.i ∧ (sgnS r).1.tgt = r.tgt := by simpa [flds] using h1
  obtain ⟨q1, q2, q3, q4, q5, q6⟩ := h1'
  unfold immS at h ⊢
  unfold immOk
  by_cases ho : r.o = 24
  · rw [if_pos ho] at h
    rw [if_pos ho]
    obtain ⟨k1, k2, k3, k4⟩ := num_eff (sgnS r).2 9223372036854775808 18446744073709551615 (sgnS r).1 h
    refine ⟨⟨h2.symm.trans k1.1, h3.symm.trans k1.2⟩, numV (sgnS r).2 64 (sgnS r).1, ?_, ?_⟩
    · show ((sgnS r).1.o, (sgnS r).1.d, (sgnS r).1.s, (sgnS r).1.f, _, (sgnS r).1.tgt) = _
      rw [q1, q2, q3, q4, q6]
    · have := numV_rng (sgnS r).2 (sgnS r).1 64 _ _ rfl rfl (.inr (.inr ⟨rfl, rfl⟩)) k3 (fun hb => by rw [hb] at k4; exact k4)
      rw [if_pos ho]
      exact ⟨this.1, this.2⟩
  · rw [if_neg ho] at h
    rw [if_neg ho]
    obtain ⟨k1, k2, k3, k4⟩ := num_eff (sgnS r).2 2147483648 4294967295 (sgnS r).1 h
    refine ⟨⟨h2.symm.trans k1.1, h3.symm.trans k1.2⟩, numV (sgnS r).2 32 (sgnS r).1, ?_, ?_⟩
    · show ((sgnS r).1.o, (sgnS r).1.d, (sgnS r).1.s, (sgnS r).1.f, _, (sgnS r).1.tgt) = _
      rw [q1, q2, q3, q4, q6]
    · have := numV_rng (sgnS r).2 (sgnS r).1 32 _ _ rfl rfl (.inr (.inl ⟨rfl, rfl⟩)) k3 (fun hb => by rw [hb] at k4; have : (valP (sgnS r).1.tok).1 ≤ 2147483648 := k4; omega)
      rw [if_neg ho]
      exact ⟨this.1, this.2⟩
theorem pgn_eff (r : RS) (h : fine (pgnS r).1) : fine r ∧ flds (pgnS r).1 = flds r := by
  obtain ⟨h1, h2, h3⟩ := skip_eff [45] r
  unfold pgnS at h ⊢
  split
  · rename_i hb
    rw [if_pos hb] at h
    exact ⟨⟨h2.symm.trans h.1, h3.symm.trans h.2⟩, h1⟩
  · rename_i hb
    rw [if_neg hb] at h
    obtain ⟨k1, k2⟩ := mark_eff [43] _ h
    exact ⟨⟨h2.symm.trans k1.1, h3.symm.trans k1.2⟩, k2.trans h1⟩
theorem place_eff (r : RS) (h : fine (placeS r).1) : fine r ∧ flds (placeS r).1 = flds r ∧ isReg (placeS r).2.1 = true ∧ -32768 ≤ (placeS r).2.2 ∧ (placeS r).2.2 < 32768 := by
  unfold placeS at h ⊢
  simp only at h ⊢
  obtain ⟨a1, a2⟩ := mark_eff [93] _ h
  obtain ⟨b1, b2, b3, b4⟩ := num_eff _ _ _ _ a1
  obtain ⟨c1, c2⟩ := pgn_eff _ b1
  obtain ⟨d1, d2, d3⟩ := reg_eff _ c1
  obtain ⟨e1, e2⟩ := mark_eff [91] _ d1
  have := numV_rng (pgnS (regS (markS [91] r)).1).2 (pgnS (regS (markS [91] r)).1).1 16 _ _ rfl rfl (.inl ⟨rfl, rfl⟩) b3 (fun hb => by rw [hb] at b4; have : (valP (pgnS (regS (markS [91] r)).1).1.tok).1 ≤ 32768 := b4; omega)
  exact ⟨e1, a2.trans (b2.trans (c2.trans (d2.trans e2))), d3, this.1, this.2⟩
theorem name_eff (r : RS) (h : fine (nameS r)) : fine r ∧ ∃ t, flds (nameS r) = (r.o, r.d, r.s, r.f, r.i, t) ∧ nameP t = true := by
  obtain ⟨h1, h2⟩ := h
  have e1 : (nameS r).wrong = (r.wrong || !nameP r.tok) := rfl
  rw [e1, Bool.or_eq_false_iff] at h1
  exact ⟨⟨h1.1, h2⟩, r.tok, rfl, by simpa using h1.2⟩
inductive EffOk (r : RS) : Int → Int × Int × Int × Int × Int × List UInt8 → Prop
  | a1 (d : Int) : isReg d = true → EffOk r 1 (r.o, d, r.s, r.f, r.i, r.tgt)
  | a2 (s : Int) : isReg s = true → EffOk r 2 (r.o, r.d, s, r.f, r.i, r.tgt)
  | a3 (i : Int) : immOk i r → EffOk r 3 (r.o, r.d, r.s, r.f, i, r.tgt)
  | a4 (s : Int) : isReg s = true → EffOk r 4 (orB r.o, r.d, s, r.f, r.i, r.tgt)
  | b4 (i : Int) : immOk i r → EffOk r 4 (r.o, r.d, r.s, r.f, i, r.tgt)
  | a5 (s f : Int) : isReg s = true → -32768 ≤ f ∧ f < 32768 → EffOk r 5 (r.o, r.d, s, f, r.i, r.tgt)
  | a6 (d f : Int) : isReg d = true → -32768 ≤ f ∧ f < 32768 → EffOk r 6 (r.o, d, r.s, f, r.i, r.tgt)
  | a7 (t : List UInt8) : nameP t = true → EffOk r 7 (r.o, r.d, r.s, r.f, r.i, t)
  | a8 (t : List UInt8) : nameP t = true → EffOk r 8 (r.o, r.d, 1, r.f, -1, t)
  | b8 (i : Int) : immOk i r → EffOk r 8 (r.o, r.d, r.s, r.f, i, r.tgt)
theorem flds_eq {a b : RS} (h : flds a = flds b) : a.o = b.o ∧ a.d = b.d ∧ a.s = b.s ∧ a.f = b.f ∧ a.i = b.i ∧ a.tgt = b.tgt := by simpa [flds] using h
theorem op_eff (c : Int) (r : RS) (hc : 1 ≤ c ∧ c ≤ 8) (h : fine (opS c r)) : fine r ∧ EffOk r c (flds (opS c r)) := by
  rcases (show c = 1 ∨ c = 2 ∨ c = 3 ∨ c = 4 ∨ c = 5 ∨ c = 6 ∨ c = 7 ∨ c = 8 from by omega) with rfl | rfl | rfl | rfl | rfl | rfl | rfl | rfl
  · obtain ⟨h1, h2, h3⟩ := reg_eff r h
    obtain ⟨q1, q2, q3, q4, q5, q6⟩ := flds_eq h2
    refine ⟨h1, ?_⟩
    have e : flds (opS 1 r) = (r.o, (regS r).2, r.s, r.f, r.i, r.tgt) := by show ((regS r).1.o, _, (regS r).1.s, (regS r).1.f, (regS r).1.i, (regS r).1.tgt) = _; rw [q1, q3, q4, q5, q6]; rfl
    rw [e]
    exact .a1 _ h3
  · obtain ⟨h1, h2, h3⟩ := reg_eff r h
    obtain ⟨q1, q2, q3, q4, q5, q6⟩ := flds_eq h2
    refine ⟨h1, ?_⟩
    have e : flds (opS 2 r) = (r.o, r.d, (regS r).2, r.f, r.i, r.tgt) := by show ((regS r).1.o, (regS r).1.d, _, (regS r).1.f, (regS r).1.i, (regS r).1.tgt) = _; rw [q1, q2, q4, q5, q6]; rfl
    rw [e]
    exact .a2 _ h3
  · obtain ⟨h1, i, h2, h3⟩ := imm_eff r h
    refine ⟨h1, ?_⟩
    rw [show flds (opS 3 r) = _ from h2]
    exact .a3 _ h3
  · have e0 : opS 4 r = srcS r := rfl
    rw [e0] at h ⊢
    unfold srcS at h ⊢
    split
    · rename_i hb
      rw [if_pos hb] at h
      obtain ⟨h1, h2, h3⟩ := reg_eff { r with o := orB r.o } h
      obtain ⟨q1, q2, q3, q4, q5, q6⟩ := flds_eq h2
      refine ⟨h1, ?_⟩
      have e : flds { (regS { r with o := orB r.o }).1 with s := (regS { r with o := orB r.o }).2 } = (orB r.o, r.d, (regS { r with o := orB r.o }).2, r.f, r.i, r.tgt) := by show ((regS { r with o := orB r.o }).1.o, (regS { r with o := orB r.o }).1.d, _, (regS { r with o := orB r.o }).1.f, (regS { r with o := orB r.o }).1.i, (regS { r with o := orB r.o }).1.tgt) = _; rw [q1, q2, q4, q5, q6]
      rw [e]
      exact .a4 _ h3
    · rename_i hb
      rw [if_neg hb] at h
      obtain ⟨h1, i, h2, h3⟩ := imm_eff r h
      refine ⟨h1, ?_⟩
      rw [h2]
      exact .b4 _ h3
  · obtain ⟨h1, h2, h3, h4⟩ := place_eff r h
    obtain ⟨q1, q2, q3, q4, q5, q6⟩ := flds_eq h2
    refine ⟨h1, ?_⟩
    have e : flds (opS 5 r) = (r.o, r.d, (placeS r).2.1, (placeS r).2.2, r.i, r.tgt) := by show ((placeS r).1.o, (placeS r).1.d, _, _, (placeS r).1.i, (placeS r).1.tgt) = _; rw [q1, q2, q5, q6]; rfl
    rw [e]
    exact .a5 _ _ h3 h4
  · obtain ⟨h1, h2, h3, h4⟩ := place_eff r h
    obtain ⟨q1, q2, q3, q4, q5, q6⟩ := flds_eq h2
    refine ⟨h1, ?_⟩
    have e : flds (opS 6 r) = (r.o, (placeS r).2.1, r.s, (placeS r).2.2, r.i, r.tgt) := by show ((placeS r).1.o, _, (placeS r).1.s, _, (placeS r).1.i, (placeS r).1.tgt) = _; rw [q1, q3, q5, q6]; rfl
    rw [e]
    exact .a6 _ _ h3 h4
  · obtain ⟨h1, t, h2, h3⟩ := name_eff r h
    refine ⟨h1, ?_⟩
    rw [show flds (opS 7 r) = _ from h2]
    exact .a7 _ h3
  · have e0 : opS 8 r = helpS r := rfl
    rw [e0] at h ⊢
    unfold helpS at h ⊢
    split
    · rename_i hb
      rw [if_pos hb] at h
      obtain ⟨h1, t, h2, h3⟩ := name_eff { r with s := 1, i := -1 } h
      refine ⟨h1, ?_⟩
      rw [h2]
      exact .a8 _ h3
    · rename_i hb
      rw [if_neg hb] at h
      obtain ⟨h1, i, h2, h3⟩ := imm_eff r h
      refine ⟨h1, ?_⟩
      rw [h2]
      exact .b8 _ h3
theorem mean_mem (k : List UInt8) (m : Mn) (h : meanOf k = some m) : ∃ x ∈ mnAll, ¬ x.1 = [] ∧ x.2 = m := by
  unfold meanOf at h
  split at h
  · cases h
  · rename_i hk
    unfold lastAt at h
    rw [Option.map_eq_some_iff] at h
    obtain ⟨x, hx, rfl⟩ := h
    have h1 := List.mem_of_find?_eq_some hx
    have h2 := List.find?_some hx
    simp only [beq_iff_eq] at h2
    exact ⟨x, by simpa using h1, by rw [h2]; exact hk, rfl⟩
theorem may_mk (o d s f i : Int) (h0 : ¬ formP o = 0) (h1 : dstP (useD o (formP o)) d = true) (h2 : srcP (formP o) (useS o (formP o)) s = true) (h3 : offP o (formP o) (useO o (formP o)) f = true) (h4 : immP o (formP o) s (useI o (formP o)) i = true) : mayP o d s f i = 0 := by
  unfold mayP fitO fitP
  rw [if_neg (by simpa using h0), h1, h2, h3, h4]
  rfl
def Lawful (x : Int × Int × Int × Int × Int × List UInt8) : Prop :=
  mayP x.1 x.2.1 x.2.2.1 x.2.2.2.1 x.2.2.2.2.1 = 0 ∧ tfitP x.1 x.2.2.1 x.2.2.2.1 x.2.2.2.2.1 x.2.2.2.2.2 = true ∧ -9223372036854775808 ≤ x.2.2.2.2.1 ∧ x.2.2.2.2.1 < 9223372036854775808
theorem imm32_of {i : Int} {r : RS} (h : immOk i r) (hr : ¬ r.o = 24) : (decide (-2147483648 ≤ i) && decide (i ≤ 2147483647)) = true ∧ -9223372036854775808 ≤ i ∧ i < 9223372036854775808 := by
  unfold immOk at h
  rw [if_neg hr] at h
  simp only [Bool.and_eq_true, decide_eq_true_eq]
  omega
theorem off16_of {f : Int} (h : -32768 ≤ f ∧ f < 32768) : (decide (-32768 ≤ f) && decide (f ≤ 32767)) = true := by
  simp only [Bool.and_eq_true, decide_eq_true_eq]
  omega
theorem mean_1 : ∀ x ∈ mnAll, ¬ x.1 = [] → formP x.2.1 = 1 → x.2 = (149, 0, 0, 0) := by decide +kernel
theorem mean_2 : ∀ x ∈ mnAll, ¬ x.1 = [] → formP x.2.1 = 2 → x.2.2.1 = 0 ∧ x.2.2.2.1 = 0 ∧ x.2.1 ∈ opsL 2 ∧ immP x.2.1 2 0 false x.2.2.2.2 = true ∧ 0 ≤ x.2.2.2.2 ∧ x.2.2.2.2 < 256 := by decide +kernel
theorem mean_3 : ∀ x ∈ mnAll, ¬ x.1 = [] → formP x.2.1 = 3 → x.2.2.1 = 0 ∧ x.2.2.2.2 = 0 ∧ x.2.1 ∈ opsL 3 ∧ ordersP x.2.1 = false ∧ ¬ x.2.1 = 24 ∧ (x.2.2.2.1 == 0 || variantP x.2.1 x.2.2.2.1) = true ∧ (8 ≤ x.2.2.2.1 → hasSrc x.2.1 = true) ∧ (¬ 8 ≤ x.2.2.2.1 → hasSrc x.2.1 = false ∧ orB x.2.1 ∈ opsL 3 ∧ formP (orB x.2.1) = 3 ∧ hasSrc (orB x.2.1) = true ∧ ordersP (orB x.2.1) = false ∧ (x.2.2.2.1 == 0 || variantP (orB x.2.1) x.2.2.2.1) = true) := by decide +kernel
theorem mean_4 : ∀ x ∈ mnAll, ¬ x.1 = [] → formP x.2.1 = 4 → x.2.2 = (0, 0, 0) ∧ x.2.1 ∈ opsL 4 ∧ ordersP x.2.1 = false := by decide +kernel
theorem mean_5 : ∀ x ∈ mnAll, ¬ x.1 = [] → formP x.2.1 = 5 → x.2.2 = (0, 0, 0) ∧ x.2.1 ∈ opsL 5 ∧ ordersP x.2.1 = false ∧ ¬ x.2.1 = 24 ∧ (cls x.2.1 == 2) = !(cls x.2.1 == 3) := by decide +kernel
theorem mean_6 : ∀ x ∈ mnAll, ¬ x.1 = [] → formP x.2.1 = 6 → x.2.2.1 = 0 ∧ x.2.2.2.1 = 0 ∧ x.2.1 ∈ opsL 6 ∧ atomP x.2.2.2.2 = true ∧ 0 ≤ x.2.2.2.2 ∧ x.2.2.2.2 < 256 := by decide +kernel
theorem mean_7 : ∀ x ∈ mnAll, ¬ x.1 = [] → formP x.2.1 = 7 → x.2.2 = (0, 0, 0) ∧ x.2.1 ∈ opsL 7 ∧ offP x.2.1 7 (x.2.1 == 5) 0 = true ∧ immP x.2.1 7 0 (x.2.1 == 6) 0 = true := by decide +kernel
theorem mean_8 : ∀ x ∈ mnAll, ¬ x.1 = [] → formP x.2.1 = 8 → x.2.2 = (0, 0, 0) ∧ x.2.1 ∈ opsL 8 ∧ ¬ x.2.1 = 24 ∧ hasSrc x.2.1 = false ∧ orB x.2.1 ∈ opsL 8 ∧ formP (orB x.2.1) = 8 ∧ hasSrc (orB x.2.1) = true ∧ ordersP (orB x.2.1) = false := by decide +kernel
theorem mean_9 : ∀ x ∈ mnAll, ¬ x.1 = [] → formP x.2.1 = 9 → x.2 = (133, 0, 0, 0) := by decide +kernel
theorem mean_10 : ∀ x ∈ mnAll, ¬ x.1 = [] → formP x.2.1 = 10 → x.2 = (24, 0, 0, 0) ∨ x.2 = (24, 1, 0, 0) := by decide +kernel
theorem mean_f : ∀ x ∈ mnAll, ¬ x.1 = [] → 1 ≤ formP x.2.1 ∧ formP x.2.1 ≤ 10 := by decide +kernel
inductive Steps : List Int → RS → Int × Int × Int × Int × Int × List UInt8 → Prop
  | nil (r : RS) : Steps [] r (flds r)
  | cons (c : Int) (l : List Int) (r r' : RS) (x) : EffOk r c (flds r') → Steps l r' x → Steps (c :: l) r x
def listOf (t : Int × Int × Int) : List Int := if t.1 = 0 then [] else if t.2.1 = 0 then [t.1] else if t.2.2 = 0 then [t.1, t.2.1] else [t.1, t.2.1, t.2.2]
theorem Steps.cons' {c : Int} {l : List Int} {r r' r'' : RS} {x : Int × Int × Int × Int × Int × List UInt8} (h : EffOk r c (flds r')) (e : flds r'' = flds r') (k : Steps l r'' x) : Steps (c :: l) r x := .cons c l r r'' x (e ▸ h) k
theorem steps_of (t : Int × Int × Int) (r : RS) (h1 : 1 ≤ t.1 ∧ t.1 ≤ 8 ∨ t.1 = 0) (h2 : 1 ≤ t.2.1 ∧ t.2.1 ≤ 8 ∨ t.2.1 = 0) (h3 : 1 ≤ t.2.2 ∧ t.2.2 ≤ 8 ∨ t.2.2 = 0) (h : fine (opdL t r)) : Steps (listOf t) r (flds (opdL t r)) := by
  unfold opdL at h ⊢
  unfold listOf
  by_cases z1 : t.1 = 0
  · rw [if_pos z1] at h; rw [if_pos z1, if_pos z1]; exact .nil r
  · rw [if_neg z1] at h; rw [if_neg z1, if_neg z1]
    by_cases z2 : t.2.1 = 0
    · rw [if_pos z2] at h; rw [if_pos z2, if_pos z2]
      exact .cons _ _ _ _ _ (op_eff _ r (by omega) h).2 (.nil _)
    · rw [if_neg z2] at h; rw [if_neg z2, if_neg z2]
      by_cases z3 : t.2.2 = 0
      · rw [if_pos z3] at h; rw [if_pos z3, if_pos z3]
        obtain ⟨a1, a2⟩ := op_eff _ _ (by omega) h
        obtain ⟨b1, b2⟩ := mark_eff _ _ a1
        obtain ⟨c1, c2⟩ := op_eff _ _ (by omega) b1
        exact Steps.cons' c2 b2 (.cons _ _ _ _ _ a2 (.nil _))
      · rw [if_neg z3] at h; rw [if_neg z3, if_neg z3]
        obtain ⟨a1, a2⟩ := op_eff _ _ (by omega) h
        obtain ⟨b1, b2⟩ := mark_eff _ _ a1
        obtain ⟨c1, c2⟩ := op_eff _ _ (by omega) b1
        obtain ⟨d1, d2⟩ := mark_eff _ _ c1
        obtain ⟨e1, e2⟩ := op_eff _ _ (by omega) d1
        exact Steps.cons' e2 d2 (Steps.cons' c2 b2 (.cons _ _ _ _ _ a2 (.nil _)))
theorem Steps.inv {c : Int} {l : List Int} {r : RS} {x : Int × Int × Int × Int × Int × List UInt8} (h : Steps (c :: l) r x) : ∃ r', EffOk r c (flds r') ∧ Steps l r' x := by
  cases h with
  | cons _ _ _ r' _ h1 h2 => exact ⟨r', h1, h2⟩
theorem Steps.inv0 {r : RS} {x : Int × Int × Int × Int × Int × List UInt8} (h : Steps [] r x) : x = flds r := by
  cases h
  rfl
theorem eff_1 {r : RS} {c : Int} {y : Int × Int × Int × Int × Int × List UInt8} (h : EffOk r c y) (hc : c = 1) : ∃ d, isReg d = true ∧ y = (r.o, d, r.s, r.f, r.i, r.tgt) := by
  cases h <;> first | exact ⟨_, ‹_›, rfl⟩ | exact absurd hc (by decide)
theorem eff_2 {r : RS} {c : Int} {y : Int × Int × Int × Int × Int × List UInt8} (h : EffOk r c y) (hc : c = 2) : ∃ s, isReg s = true ∧ y = (r.o, r.d, s, r.f, r.i, r.tgt) := by
  cases h <;> first | exact ⟨_, ‹_›, rfl⟩ | exact absurd hc (by decide)
theorem eff_3 {r : RS} {c : Int} {y : Int × Int × Int × Int × Int × List UInt8} (h : EffOk r c y) (hc : c = 3) : ∃ i, immOk i r ∧ y = (r.o, r.d, r.s, r.f, i, r.tgt) := by
  cases h <;> first | exact ⟨_, ‹_›, rfl⟩ | exact absurd hc (by decide)
theorem eff_4 {r : RS} {c : Int} {y : Int × Int × Int × Int × Int × List UInt8} (h : EffOk r c y) (hc : c = 4) : (∃ s, isReg s = true ∧ y = (orB r.o, r.d, s, r.f, r.i, r.tgt)) ∨ (∃ i, immOk i r ∧ y = (r.o, r.d, r.s, r.f, i, r.tgt)) := by
  cases h <;> first | exact .inl ⟨_, ‹_›, rfl⟩ | exact .inr ⟨_, ‹_›, rfl⟩ | exact absurd hc (by decide)
theorem eff_5 {r : RS} {c : Int} {y : Int × Int × Int × Int × Int × List UInt8} (h : EffOk r c y) (hc : c = 5) : ∃ s f, isReg s = true ∧ (-32768 ≤ f ∧ f < 32768) ∧ y = (r.o, r.d, s, f, r.i, r.tgt) := by
  cases h <;> first | exact ⟨_, _, ‹_›, ‹_›, rfl⟩ | exact absurd hc (by decide)
theorem eff_6 {r : RS} {c : Int} {y : Int × Int × Int × Int × Int × List UInt8} (h : EffOk r c y) (hc : c = 6) : ∃ d f, isReg d = true ∧ (-32768 ≤ f ∧ f < 32768) ∧ y = (r.o, d, r.s, f, r.i, r.tgt) := by
  cases h <;> first | exact ⟨_, _, ‹_›, ‹_›, rfl⟩ | exact absurd hc (by decide)
theorem eff_7 {r : RS} {c : Int} {y : Int × Int × Int × Int × Int × List UInt8} (h : EffOk r c y) (hc : c = 7) : ∃ t, nameP t = true ∧ y = (r.o, r.d, r.s, r.f, r.i, t) := by
  cases h <;> first | exact ⟨_, ‹_›, rfl⟩ | exact absurd hc (by decide)
theorem eff_8 {r : RS} {c : Int} {y : Int × Int × Int × Int × Int × List UInt8} (h : EffOk r c y) (hc : c = 8) : (∃ t, nameP t = true ∧ y = (r.o, r.d, 1, r.f, -1, t)) ∨ (∃ i, immOk i r ∧ y = (r.o, r.d, r.s, r.f, i, r.tgt)) := by
  cases h <;> first | exact .inl ⟨_, ‹_›, rfl⟩ | exact .inr ⟨_, ‹_›, rfl⟩ | exact absurd hc (by decide)
theorem flds_mk {r : RS} {o d s f i : Int} {t : List UInt8} (h : flds r = (o, d, s, f, i, t)) : r.o = o ∧ r.d = d ∧ r.s = s ∧ r.f = f ∧ r.i = i ∧ r.tgt = t := by simpa [flds] using h
theorem off_0 (o fm : Int) (z : Bool) : offP o fm z 0 = true := by unfold offP; cases z <;> rfl
theorem law_1 (r : RS) (x) (hr : flds r = (149, 0, 0, 0, 0, [])) (h : Steps (listOf (tOf 149 0 0)) r x) : Lawful x := by
  rw [show listOf (tOf 149 0 0) = [] from by decide +kernel] at h
  rw [h.inv0, hr]
  exact ⟨by decide +kernel, by decide +kernel, by decide, by decide⟩
theorem law_2 (r : RS) (x) (o i : Int) (hk : formP o = 2) (ho : o ∈ opsL 2) (hi : immP o 2 0 false i = true) (hi' : 0 ≤ i ∧ i < 256) (hr : flds r = (o, 0, 0, 0, i, [])) (h : Steps (listOf (tOf o 0 0)) r x) : Lawful x := by
  rw [show listOf (tOf o 0 0) = [1] from by unfold tOf opdsP; rw [hk]; rfl] at h
  obtain ⟨r1, e1, h⟩ := h.inv
  obtain ⟨d, hd, e1⟩ := eff_1 e1 rfl
  obtain ⟨q1, q2, q3, q4, q5, q6⟩ := flds_mk hr
  rw [h.inv0, e1, q1, q3, q4, q5, q6]
  have u1 : useD o (formP o) = true := (uses_of 2 o ho).1
  have u2 : useS o (formP o) = false := (uses_of 2 o ho).2.1
  have u4 : useI o (formP o) = false := (uses_of 2 o ho).2.2.2
  refine ⟨may_mk o d 0 0 i (by rw [hk]; decide) (by rw [u1]; exact hd) (by rw [u2, hk]; rfl) (off_0 _ _ _) (by rw [u4, hk]; exact hi), ?_, by show _ ≤ i; omega, by show i < _; omega⟩
  show tfitP o 0 0 i [] = true
  unfold tfitP
  rw [hk]
  rfl
theorem law_3 (r : RS) (x) (o f : Int) (hk : formP o = 3) (ho : o ∈ opsL 3) (hz : ordersP o = false) (h24 : ¬ o = 24) (hf : (f == 0 || variantP o f) = true) (h8 : 8 ≤ f → hasSrc o = true) (h8' : ¬ 8 ≤ f → hasSrc o = false ∧ orB o ∈ opsL 3 ∧ formP (orB o) = 3 ∧ hasSrc (orB o) = true ∧ ordersP (orB o) = false ∧ (f == 0 || variantP (orB o) f) = true)
    (hr : flds r = (o, 0, 0, f, 0, [])) (h : Steps (listOf (tOf o 0 f)) r x) : Lawful x := by
  have hoff : ∀ o, (f == 0 || variantP o f) = true → offP o 3 false f = true := by
    intro o h
    unfold offP
    cases hz : (f == 0)
    · rw [hz] at h; simpa using h
    · rfl
  obtain ⟨q1, q2, q3, q4, q5, q6⟩ := flds_mk hr
  by_cases hc : 8 ≤ f
  · rw [show listOf (tOf o 0 f) = [1, 2] from by unfold tOf opdsP; rw [hk, if_pos rfl, if_pos hc]; rfl] at h
    obtain ⟨r1, e1, h⟩ := h.inv
    obtain ⟨d, hd, e1⟩ := eff_1 e1 rfl
    obtain ⟨p1, p2, p3, p4, p5, p6⟩ := flds_mk e1
    obtain ⟨r2, e2, h⟩ := h.inv
    obtain ⟨s, hs, e2⟩ := eff_2 e2 rfl
    rw [h.inv0, e2, p1, p2, p4, p5, p6, q1, q4, q5, q6]
    have u1 : useD o (formP o) = true := (uses_of 3 o ho).1
    have u2 : useS o (formP o) = hasSrc o := (uses_of 3 o ho).2.1
    have u3 : useO o (formP o) = false := (uses_of 3 o ho).2.2.1
    have u4 : useI o (formP o) = !hasSrc o := (uses_of 3 o ho).2.2.2
    rw [h8 hc] at u2 u4
    refine ⟨may_mk o d s f 0 (by rw [hk]; decide) (by rw [u1]; exact hd) (by rw [u2, hk]; exact hs) (by rw [u3, hk]; exact hoff o hf) (by rw [u4, hk]; show (if ordersP o then _ else _) = _; rw [hz]; rfl), ?_, by show (_ : Int) ≤ 0; decide, by show (0 : Int) < _; decide⟩
    show tfitP o s f 0 [] = true
    unfold tfitP
    rw [hk]
    rfl
  · obtain ⟨a1, a2, a3, a4, a5, a6⟩ := h8' hc
    rw [show listOf (tOf o 0 f) = [1, 4] from by unfold tOf opdsP; rw [hk, if_pos rfl, if_neg hc]; rfl] at h
    obtain ⟨r1, e1, h⟩ := h.inv
    obtain ⟨d, hd, e1⟩ := eff_1 e1 rfl
    obtain ⟨p1, p2, p3, p4, p5, p6⟩ := flds_mk e1
    obtain ⟨r2, e2, h⟩ := h.inv
    rcases eff_4 e2 rfl with ⟨s, hs, e2⟩ | ⟨i, hi, e2⟩
    · rw [h.inv0, e2, p1, p2, p4, p5, p6, q1, q4, q5, q6]
      have u1 : useD (orB o) (formP (orB o)) = true := (uses_of 3 _ a2).1
      have u2 : useS (orB o) (formP (orB o)) = hasSrc (orB o) := (uses_of 3 _ a2).2.1
      have u3 : useO (orB o) (formP (orB o)) = false := (uses_of 3 _ a2).2.2.1
      have u4 : useI (orB o) (formP (orB o)) = !hasSrc (orB o) := (uses_of 3 _ a2).2.2.2
      rw [a4] at u2 u4
      refine ⟨may_mk (orB o) d s f 0 (by rw [a3]; decide) (by rw [u1]; exact hd) (by rw [u2, a3]; exact hs) (by rw [u3, a3]; exact hoff _ a6) (by rw [u4, a3]; show (if ordersP (orB o) then _ else _) = _; rw [a5]; rfl), ?_, by show (_ : Int) ≤ 0; decide, by show (0 : Int) < _; decide⟩
      show tfitP (orB o) s f 0 [] = true
      unfold tfitP
      rw [a3]
      rfl
    · obtain ⟨hi1, hi2, hi3⟩ := imm32_of hi (by rw [p1, q1]; exact h24)
      rw [h.inv0, e2, p1, p2, p3, p4, p6, q1, q3, q4, q6]
      have u1 : useD o (formP o) = true := (uses_of 3 o ho).1
      have u2 : useS o (formP o) = hasSrc o := (uses_of 3 o ho).2.1
      have u3 : useO o (formP o) = false := (uses_of 3 o ho).2.2.1
      have u4 : useI o (formP o) = !hasSrc o := (uses_of 3 o ho).2.2.2
      rw [a1] at u2 u4
      refine ⟨may_mk o d 0 f i (by rw [hk]; decide) (by rw [u1]; exact hd) (by rw [u2, hk]; rfl) (by rw [u3, hk]; exact hoff o hf) (by rw [u4, hk]; exact hi1), ?_, hi2, hi3⟩
      show tfitP o 0 f i [] = true
      unfold tfitP
      rw [hk]
      rfl
theorem law_4 (r : RS) (x) (o : Int) (hk : formP o = 4) (ho : o ∈ opsL 4) (hz : ordersP o = false) (hr : flds r = (o, 0, 0, 0, 0, [])) (h : Steps (listOf (tOf o 0 0)) r x) : Lawful x := by
  obtain ⟨q1, q2, q3, q4, q5, q6⟩ := flds_mk hr
  rw [show listOf (tOf o 0 0) = [1, 5] from by unfold tOf opdsP; rw [hk]; rfl] at h
  obtain ⟨r1, e1, h⟩ := h.inv
  obtain ⟨d, hd, e1⟩ := eff_1 e1 rfl
  obtain ⟨p1, p2, p3, p4, p5, p6⟩ := flds_mk e1
  obtain ⟨r2, e2, h⟩ := h.inv
  obtain ⟨s, f, hs, hf, e2⟩ := eff_5 e2 rfl
  rw [h.inv0, e2, p1, p2, p5, p6, q1, q5, q6]
  have u1 : useD o (formP o) = true := (uses_of 4 o ho).1
  have u2 : useS o (formP o) = true := (uses_of 4 o ho).2.1
  have u3 : useO o (formP o) = true := (uses_of 4 o ho).2.2.1
  have u4 : useI o (formP o) = false := (uses_of 4 o ho).2.2.2
  refine ⟨may_mk o d s f 0 (by rw [hk]; decide) (by rw [u1]; exact hd) (by rw [u2, hk]; exact hs) (by rw [u3, hk]; exact off16_of hf) (by rw [u4, hk]; show (if ordersP o then _ else _) = _; rw [hz]; rfl), ?_, by show (_ : Int) ≤ 0; decide, by show (0 : Int) < _; decide⟩
  show tfitP o s f 0 [] = true
  unfold tfitP
  rw [hk]
  rfl
theorem law_5 (r : RS) (x) (o : Int) (hk : formP o = 5) (ho : o ∈ opsL 5) (hz : ordersP o = false) (h24 : ¬ o = 24) (hcl : (cls o == 2) = !(cls o == 3)) (hr : flds r = (o, 0, 0, 0, 0, [])) (h : Steps (listOf (tOf o 0 0)) r x) : Lawful x := by
  obtain ⟨q1, q2, q3, q4, q5, q6⟩ := flds_mk hr
  have u1 : useD o (formP o) = true := (uses_of 5 o ho).1
  have u2 : useS o (formP o) = (cls o == 3) := (uses_of 5 o ho).2.1
  have u3 : useO o (formP o) = true := (uses_of 5 o ho).2.2.1
  have u4 : useI o (formP o) = (cls o == 2) := (uses_of 5 o ho).2.2.2
  rw [hcl] at u4
  cases hx : (cls o == 3)
  · rw [hx] at u2 u4
    rw [show listOf (tOf o 0 0) = [6, 3] from by unfold tOf opdsP; rw [u2, hk]; rfl] at h
    obtain ⟨r1, e1, h⟩ := h.inv
    obtain ⟨d, f, hd, hf, e1⟩ := eff_6 e1 rfl
    obtain ⟨p1, p2, p3, p4, p5, p6⟩ := flds_mk e1
    obtain ⟨r2, e2, h⟩ := h.inv
    obtain ⟨i, hi, e2⟩ := eff_3 e2 rfl
    obtain ⟨hi1, hi2, hi3⟩ := imm32_of hi (by rw [p1, q1]; exact h24)
    rw [h.inv0, e2, p1, p2, p3, p4, p6, q1, q3, q6]
    refine ⟨may_mk o d 0 f i (by rw [hk]; decide) (by rw [u1]; exact hd) (by rw [u2, hk]; rfl) (by rw [u3, hk]; exact off16_of hf) (by rw [u4, hk]; exact hi1), ?_, hi2, hi3⟩
    show tfitP o 0 f i [] = true
    unfold tfitP
    rw [hk]
    rfl
  · rw [hx] at u2 u4
    rw [show listOf (tOf o 0 0) = [6, 2] from by unfold tOf opdsP; rw [u2, hk]; rfl] at h
    obtain ⟨r1, e1, h⟩ := h.inv
    obtain ⟨d, f, hd, hf, e1⟩ := eff_6 e1 rfl
    obtain ⟨p1, p2, p3, p4, p5, p6⟩ := flds_mk e1
    obtain ⟨r2, e2, h⟩ := h.inv
    obtain ⟨s, hs, e2⟩ := eff_2 e2 rfl
    rw [h.inv0, e2, p1, p2, p4, p5, p6, q1, q5, q6]
    refine ⟨may_mk o d s f 0 (by rw [hk]; decide) (by rw [u1]; exact hd) (by rw [u2, hk]; exact hs) (by rw [u3, hk]; exact off16_of hf) (by rw [u4, hk]; show (if ordersP o then _ else _) = _; rw [hz]; rfl), ?_, by show (_ : Int) ≤ 0; decide, by show (0 : Int) < _; decide⟩
    show tfitP o s f 0 [] = true
    unfold tfitP
    rw [hk]
    rfl
theorem law_6 (r : RS) (x) (o i : Int) (hk : formP o = 6) (ho : o ∈ opsL 6) (hi : atomP i = true) (hi' : 0 ≤ i ∧ i < 256) (hr : flds r = (o, 0, 0, 0, i, [])) (h : Steps (listOf (tOf o 0 0)) r x) : Lawful x := by
  obtain ⟨q1, q2, q3, q4, q5, q6⟩ := flds_mk hr
  have u1 : useD o (formP o) = true := (uses_of 6 o ho).1
  have u2 : useS o (formP o) = true := (uses_of 6 o ho).2.1
  have u3 : useO o (formP o) = true := (uses_of 6 o ho).2.2.1
  have u4 : useI o (formP o) = false := (uses_of 6 o ho).2.2.2
  rw [show listOf (tOf o 0 0) = [6, 2] from by unfold tOf opdsP; rw [u2, hk]; rfl] at h
  obtain ⟨r1, e1, h⟩ := h.inv
  obtain ⟨d, f, hd, hf, e1⟩ := eff_6 e1 rfl
  obtain ⟨p1, p2, p3, p4, p5, p6⟩ := flds_mk e1
  obtain ⟨r2, e2, h⟩ := h.inv
  obtain ⟨s, hs, e2⟩ := eff_2 e2 rfl
  rw [h.inv0, e2, p1, p2, p4, p5, p6, q1, q5, q6]
  refine ⟨may_mk o d s f i (by rw [hk]; decide) (by rw [u1]; exact hd) (by rw [u2, hk]; exact hs) (by rw [u3, hk]; exact off16_of hf) (by rw [u4, hk]; exact hi), ?_, by show _ ≤ i; omega, by show i < _; omega⟩
  show tfitP o s f i [] = true
  unfold tfitP
  rw [hk]
  rfl
theorem law_7 (r : RS) (x) (o : Int) (hk : formP o = 7) (ho : o ∈ opsL 7) (h1 : offP o 7 (o == 5) 0 = true) (h2 : immP o 7 0 (o == 6) 0 = true) (hr : flds r = (o, 0, 0, 0, 0, [])) (h : Steps (listOf (tOf o 0 0)) r x) : Lawful x := by
  obtain ⟨q1, q2, q3, q4, q5, q6⟩ := flds_mk hr
  rw [show listOf (tOf o 0 0) = [7] from by unfold tOf opdsP; rw [hk]; rfl] at h
  obtain ⟨r1, e1, h⟩ := h.inv
  obtain ⟨t, ht, e1⟩ := eff_7 e1 rfl
  rw [h.inv0, e1, q1, q2, q3, q4, q5]
  have u1 : useD o (formP o) = false := (uses_of 7 o ho).1
  have u2 : useS o (formP o) = false := (uses_of 7 o ho).2.1
  have u3 : useO o (formP o) = (o == 5) := (uses_of 7 o ho).2.2.1
  have u4 : useI o (formP o) = (o == 6) := (uses_of 7 o ho).2.2.2
  refine ⟨may_mk o 0 0 0 0 (by rw [hk]; decide) (by rw [u1]; rfl) (by rw [u2, hk]; rfl) (by rw [u3, hk]; exact h1) (by rw [u4, hk]; exact h2), ?_, by show (_ : Int) ≤ 0; decide, by show (0 : Int) < _; decide⟩
  show tfitP o 0 0 0 t = true
  unfold tfitP
  rw [hk, if_pos rfl, ht]
  rfl
theorem law_8 (r : RS) (x) (o : Int) (hk : formP o = 8) (ho : o ∈ opsL 8) (h24 : ¬ o = 24) (a1 : hasSrc o = false) (a2 : orB o ∈ opsL 8) (a3 : formP (orB o) = 8) (a4 : hasSrc (orB o) = true) (a5 : ordersP (orB o) = false) (hr : flds r = (o, 0, 0, 0, 0, [])) (h : Steps (listOf (tOf o 0 0)) r x) : Lawful x := by
  obtain ⟨q1, q2, q3, q4, q5, q6⟩ := flds_mk hr
  rw [show listOf (tOf o 0 0) = [1, 4, 7] from by unfold tOf opdsP; rw [hk]; rfl] at h
  obtain ⟨r1, e1, h⟩ := h.inv
  obtain ⟨d, hd, e1⟩ := eff_1 e1 rfl
  obtain ⟨p1, p2, p3, p4, p5, p6⟩ := flds_mk e1
  obtain ⟨r2, e2, h⟩ := h.inv
  obtain ⟨r3, e3, h⟩ := h.inv
  obtain ⟨t, ht, e3⟩ := eff_7 e3 rfl
  rcases eff_4 e2 rfl with ⟨s, hs, e2⟩ | ⟨i, hi, e2⟩
  · obtain ⟨y1, y2, y3, y4, y5, y6⟩ := flds_mk e2
    rw [h.inv0, e3, y1, y2, y3, y4, y5, p1, p2, p4, p5, q1, q4, q5]
    have u1 : useD (orB o) (formP (orB o)) = true := (uses_of 8 _ a2).1
    have u2 : useS (orB o) (formP (orB o)) = hasSrc (orB o) := (uses_of 8 _ a2).2.1
    have u4 : useI (orB o) (formP (orB o)) = !hasSrc (orB o) := (uses_of 8 _ a2).2.2.2
    rw [a4] at u2 u4
    refine ⟨may_mk (orB o) d s 0 0 (by rw [a3]; decide) (by rw [u1]; exact hd) (by rw [u2, a3]; exact hs) (off_0 _ _ _) (by rw [u4, a3]; show (if ordersP (orB o) then _ else _) = _; rw [a5]; rfl), ?_, by show (_ : Int) ≤ 0; decide, by show (0 : Int) < _; decide⟩
    show tfitP (orB o) s 0 0 t = true
    unfold tfitP
    rw [a3, if_neg (by decide), if_pos rfl, ht]
    rfl
  · obtain ⟨hi1, hi2, hi3⟩ := imm32_of hi (by rw [p1, q1]; exact h24)
    obtain ⟨y1, y2, y3, y4, y5, y6⟩ := flds_mk e2
    rw [h.inv0, e3, y1, y2, y3, y4, y5, p1, p2, p3, p4, q1, q3, q4]
    have u1 : useD o (formP o) = true := (uses_of 8 o ho).1
    have u2 : useS o (formP o) = hasSrc o := (uses_of 8 o ho).2.1
    have u3 : useO o (formP o) = true := (uses_of 8 o ho).2.2.1
    have u4 : useI o (formP o) = !hasSrc o := (uses_of 8 o ho).2.2.2
    rw [a1] at u2 u4
    refine ⟨may_mk o d 0 0 i (by rw [hk]; decide) (by rw [u1]; exact hd) (by rw [u2, hk]; rfl) (by rw [u3, hk]; rfl) (by rw [u4, hk]; exact hi1), ?_, hi2, hi3⟩
    show tfitP o 0 0 i t = true
    unfold tfitP
    rw [hk, if_neg (by decide), if_pos rfl, ht]
    rfl
theorem law_9 (r : RS) (x) (hr : flds r = (133, 0, 0, 0, 0, [])) (h : Steps (listOf (tOf 133 0 0)) r x) : Lawful x := by
  obtain ⟨q1, q2, q3, q4, q5, q6⟩ := flds_mk hr
  rw [show listOf (tOf 133 0 0) = [8] from by decide +kernel] at h
  obtain ⟨r1, e1, h⟩ := h.inv
  have hk : formP 133 = 9 := by decide +kernel
  have ho : (133 : Int) ∈ opsL 9 := by decide +kernel
  have u1 : useD 133 (formP 133) = false := (uses_of 9 _ ho).1
  have u2 : useS 133 (formP 133) = false := (uses_of 9 _ ho).2.1
  have u3 : useO 133 (formP 133) = false := (uses_of 9 _ ho).2.2.1
  have u4 : useI 133 (formP 133) = true := (uses_of 9 _ ho).2.2.2
  rcases eff_8 e1 rfl with ⟨t, ht, e1⟩ | ⟨i, hi, e1⟩
  · rw [h.inv0, e1, q1, q2, q4]
    refine ⟨may_mk 133 0 1 0 (-1) (by rw [hk]; decide) (by rw [u1]; rfl) (by rw [u2, hk]; rfl) (by rw [u3, hk]; rfl) (by rw [u4, hk]; rfl), ?_, by show (_ : Int) ≤ -1; decide, by show (-1 : Int) < _; decide⟩
    show tfitP 133 1 0 (-1) t = true
    unfold tfitP
    rw [hk, if_neg (by decide), if_neg (by decide), if_pos (by decide), ht]
    rfl
  · obtain ⟨hi1, hi2, hi3⟩ := imm32_of hi (by rw [q1]; decide)
    rw [h.inv0, e1, q1, q2, q3, q4, q6]
    refine ⟨may_mk 133 0 0 0 i (by rw [hk]; decide) (by rw [u1]; rfl) (by rw [u2, hk]; rfl) (by rw [u3, hk]; rfl) (by rw [u4, hk]; exact hi1), ?_, hi2, hi3⟩
    show tfitP 133 0 0 i [] = true
    unfold tfitP
    rw [hk]
    rfl
theorem law_10 (r : RS) (x) (s : Int) (hs : s = 0 ∨ s = 1) (hr : flds r = (24, 0, s, 0, 0, [])) (h : Steps (listOf (tOf 24 s 0)) r x) : Lawful x := by
  obtain ⟨q1, q2, q3, q4, q5, q6⟩ := flds_mk hr
  have hk : formP 24 = 10 := by decide +kernel
  have ho : (24 : Int) ∈ opsL 10 := by decide +kernel
  have u1 : useD 24 (formP 24) = true := (uses_of 10 _ ho).1
  have u2 : useS 24 (formP 24) = false := (uses_of 10 _ ho).2.1
  have u3 : useO 24 (formP 24) = false := (uses_of 10 _ ho).2.2.1
  have u4 : useI 24 (formP 24) = true := (uses_of 10 _ ho).2.2.2
  rcases hs with rfl | rfl
  · rw [show listOf (tOf 24 0 0) = [1, 3] from by decide +kernel] at h
    obtain ⟨r1, e1, h⟩ := h.inv
    obtain ⟨d, hd, e1⟩ := eff_1 e1 rfl
    obtain ⟨p1, p2, p3, p4, p5, p6⟩ := flds_mk e1
    obtain ⟨r2, e2, h⟩ := h.inv
    obtain ⟨i, hi, e2⟩ := eff_3 e2 rfl
    unfold immOk at hi
    rw [if_pos (by rw [p1, q1])] at hi
    rw [h.inv0, e2, p1, p2, p3, p4, p6, q1, q3, q4, q6]
    refine ⟨may_mk 24 d 0 0 i (by rw [hk]; decide) (by rw [u1]; exact hd) (by rw [u2, hk]; rfl) (by rw [u3, hk]; rfl) (by rw [u4, hk]; rfl), ?_, hi.1, hi.2⟩
    show tfitP 24 0 0 i [] = true
    unfold tfitP
    rw [hk]
    rfl
  · rw [show listOf (tOf 24 1 0) = [1, 7] from by decide +kernel] at h
    obtain ⟨r1, e1, h⟩ := h.inv
    obtain ⟨d, hd, e1⟩ := eff_1 e1 rfl
    obtain ⟨p1, p2, p3, p4, p5, p6⟩ := flds_mk e1
    obtain ⟨r2, e2, h⟩ := h.inv
    obtain ⟨t, ht, e2⟩ := eff_7 e2 rfl
    rw [h.inv0, e2, p1, p2, p3, p4, p5, q1, q3, q4, q5]
    refine ⟨may_mk 24 d 1 0 0 (by rw [hk]; decide) (by rw [u1]; exact hd) (by rw [u2, hk]; rfl) (by rw [u3, hk]; rfl) (by rw [u4, hk]; rfl), ?_, by show (_ : Int) ≤ 0; decide, by show (0 : Int) < _; decide⟩
    show tfitP 24 1 0 0 t = true
    unfold tfitP
    rw [hk, if_neg (by decide), if_neg (by decide), if_neg (by decide), if_pos (by decide), ht]
    rfl
end Go.Proofs.YtkihaohdcgjioaaGreatDoor
