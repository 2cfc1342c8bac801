import Derived.Test.YtcomhlimgocoaaaGreatDoorGc52
import Derived.Test.YtcomhlimgocoaaaGreatDoorGc30
import Derived.Sort.KeysCollected
import Derived.Deep.QuietTactic
import Derived.Laws.Cover1
namespace Go.Proofs.YtcomhlimgocoaaaGreatDoor
open Go.RowKit
set_option linter.unusedVariables false
set_option linter.unusedSimpArgs false
theorem off_i64 (o d s f i : Int) (h : mayP o d s f i = 0) : I64 f := by
  have h3 := (may_parts o d s f i h).2.2.2.1
  unfold offP at h3
  unfold I64
  split at h3
  · simp only [Bool.and_eq_true, decide_eq_true_eq] at h3; omega
  · split at h3
    · rename_i hz; simp only [beq_iff_eq] at hz; omega
    · split at h3
      · have := variant_in h3
        simp only [List.mem_cons, List.not_mem_nil, or_false] at this
        omega
      · cases h3
theorem tail_len (t : Int × Int × Int) (x : Int → List UInt8) (h : ∀ c, c = t.1 ∨ c = t.2.1 ∨ c = t.2.2 → ¬ c = 0 → (x c).length ≤ 1000) : (tailP t x).length ≤ 3010 := by
  unfold tailP
  split
  · simp
  rename_i h1
  have l1 := h t.1 (.inl rfl) h1
  split
  · simp; omega
  rename_i h2
  have l2 := h t.2.1 (.inr (.inl rfl)) h2
  split
  · simp; omega
  rename_i h3
  have l3 := h t.2.2 (.inr (.inr rfl)) h3
  simp; omega
theorem line_len (o d s f i : Int) (t : List UInt8) (hf : I64 f) (hi : I64 i) (hm : mayP o d s f i = 0) (ht : tfitP o s f i t = true) : (lineP o d s f i t).length ≤ 140737488355328 := by
  have hrng : (1 ≤ (tOf o s f).1 ∧ (tOf o s f).1 ≤ 8 ∨ (tOf o s f).1 = 0) ∧ (1 ≤ (tOf o s f).2.1 ∧ (tOf o s f).2.1 ≤ 8 ∨ (tOf o s f).2.1 = 0) ∧ (1 ≤ (tOf o s f).2.2 ∧ (tOf o s f).2.2 ≤ 8 ∨ (tOf o s f).2.2 = 0) := opds_rng _ _ _ _
  have h1 := wordP_len o s f i
  have h2 := tail_len (tOf o s f) (opdTx o d s f i t) (fun c hc hn => opdTx_len o d s f i c t hf hi (fun _ => tgt_len o d s f i t hm ht) (by rcases hc with hc | hc | hc <;> omega))
  unfold lineP
  rw [List.length_append]
  omega
end Go.Proofs.YtcomhlimgocoaaaGreatDoor
namespace Go.Proofs.YtcomhlimgocoaaaGreatDoor
open Go.RowKit
set_option linter.unusedVariables false
set_option linter.unusedSimpArgs false
def wordsS : List (List UInt8) := [[97, 97, 100, 100], [97, 97, 100, 100, 51, 50], [97, 97, 110, 100], [97, 97, 110, 100, 51, 50], [97, 99, 109, 112, 120, 99, 104, 103], [97, 99, 109, 112, 120, 99, 104, 103, 51, 50], [97, 100, 100], [97, 100, 100, 51, 50], [97, 102, 97, 100, 100], [97, 102, 97, 100, 100, 51, 50], [97, 102, 97, 110, 100], [97, 102, 97, 110, 100, 51, 50], [97, 102, 111, 114], [97, 102, 111, 114, 51, 50], [97, 102, 120, 111, 114], [97, 102, 120, 111, 114, 51, 50], [97, 110, 100], [97, 110, 100, 51, 50], [97, 111, 114], [97, 111, 114, 51, 50], [97, 114, 115, 104], [97, 114, 115, 104, 51, 50], [97, 120, 99, 104, 103], [97, 120, 99, 104, 103, 51, 50], [97, 120, 111, 114], [97, 120, 111, 114, 51, 50], [98, 101, 49, 54], [98, 101, 51, 50], [98, 101, 54, 52], [99, 97, 108, 108], [100, 105, 118], [100, 105, 118, 51, 50], [101, 120, 105, 116], [106, 97], [106, 97, 51, 50], [106, 101, 113], [106, 101, 113, 51, 50], [106, 103, 101], [106, 103, 101, 51, 50], [106, 103, 116], [106, 103, 116, 51, 50], [106, 108, 101], [106, 108, 101, 51, 50], [106, 108, 116], [106, 108, 116, 51, 50], [106, 110, 101], [106, 110, 101, 51, 50], [106, 115, 101, 116], [106, 115, 101, 116, 51, 50], [106, 115, 103, 101], [106, 115, 103, 101, 51, 50], [106, 115, 103, 116], [106, 115, 103, 116, 51, 50], [106, 115, 108, 101], [106, 115, 108, 101, 51, 50], [106, 115, 108, 116], [106, 115, 108, 116, 51, 50], [108, 100, 100, 119], [108, 100, 109, 97, 112], [108, 100, 120, 98], [108, 100, 120, 100, 119], [108, 100, 120, 104], [108, 100, 120, 115, 98], [108, 100, 120, 115, 104], [108, 100, 120, 115, 119], [108, 100, 120, 119], [108, 101, 49, 54], [108, 101, 51, 50], [108, 101, 54, 52], [108, 115, 104], [108, 115, 104, 51, 50], [109, 111, 100], [109, 111, 100, 51, 50], [109, 111, 118], [109, 111, 118, 51, 50], [109, 111, 118, 115, 49, 54], [109, 111, 118, 115, 49, 54, 119], [109, 111, 118, 115, 51, 50], [109, 111, 118, 115, 56], [109, 111, 118, 115, 56, 119], [109, 117, 108], [109, 117, 108, 51, 50], [110, 101, 103], [110, 101, 103, 51, 50], [111, 114], [111, 114, 51, 50], [114, 115, 104], [114, 115, 104, 51, 50], [115, 100, 105, 118], [115, 100, 105, 118, 51, 50], [115, 109, 111, 100], [115, 109, 111, 100, 51, 50], [115, 116, 98], [115, 116, 100, 119], [115, 116, 104], [115, 116, 119], [115, 116, 120, 98], [115, 116, 120, 100, 119], [115, 116, 120, 104], [115, 116, 120, 119], [115, 117, 98], [115, 117, 98, 51, 50], [115, 119, 97, 112, 49, 54], [115, 119, 97, 112, 51, 50], [115, 119, 97, 112, 54, 52], [120, 111, 114], [120, 111, 114, 51, 50]]
theorem words_len : wordsS.length = 107 := rfl
theorem words_perm : (strKeys mnDat).isPerm wordsS = true := by decide +kernel
theorem words_sorted : wordsS.Pairwise (fun x y => leB x y = true) := by decide +kernel
theorem words_strict : ∀ k : Fin 106, (wordsS.getD (k.val + 1) []) ≠ (wordsS.getD k.val []) ∧ leB (wordsS.getD (k.val + 1) []) (wordsS.getD k.val []) = false := by decide +kernel
theorem words_of {ss : List (List UInt8)} (h : ss.Perm (strKeys mnDat)) : ss.mergeSort (fun x y => decide (x ≤ y)) = wordsS ∧ ss.length = 107 := by
  have hp : ss.Perm wordsS := h.trans (List.isPerm_iff.1 words_perm)
  refine ⟨(mergeSort_of_perm hp).trans (List.mergeSort_of_pairwise words_sorted), by rw [hp.length_eq]; rfl⟩
theorem mn_words : ∀ x ∈ mnAll, x.1 = [] ∨ x.1 ∈ wordsS := by decide +kernel
theorem words_mn : ∀ x ∈ wordsS, (meanOf x).isSome = true ∧ headOk x = true ∧ x.all runU = true ∧ x.length ≤ 20 := by decide +kernel
theorem mean_words (k : List UInt8) (h : (meanOf k).isSome = true) : k ∈ wordsS := by
  cases hm : meanOf k with
  | none => rw [hm] at h; cases h
  | some m =>
    unfold meanOf at hm
    split at hm
    · cases hm
    · rename_i hk
      unfold lastAt at hm
      cases hf : mnAll.reverse.find? (fun x => x.1 == k) with
      | none => rw [hf] at hm; cases hm
      | some x =>
        have h1 := List.mem_of_find?_eq_some hf
        have h2 := List.find?_some hf
        simp only [beq_iff_eq] at h2
        rcases mn_words x (List.mem_reverse.1 h1) with h3 | h3
        · rw [h2] at h3; exact absurd h3 hk
        · rwa [h2] at h3
/-- what Parse says of a word alone -/
theorem tok_of_run {l : List UInt8} (h : headOk l = true) (ha : l.all runU = true) : (newR l).tok = l := by
  have e := at_run ⟨[], [], 0, 0, 0, 0, 0, [], false, false⟩ l [] h ha rfl
  rw [List.append_nil] at e
  exact congrArg RS.tok e
theorem err_form (l : List UInt8) : (parseP l).e = 40 ↔ meanOf (newR l).tok = none := by
  constructor
  · intro h
    unfold parseP at h
    cases hm : meanOf (newR l).tok with
    | none => rfl
    | some m =>
      rw [hm] at h
      simp only at h
      split at h
      · cases h
      split at h
      · cases h
      · cases h
  · intro h
    unfold parseP
    rw [h]
theorem word_fine (x : List UInt8) (h : x ∈ wordsS) : ¬ (parseP x).e = 40 := by
  obtain ⟨h1, h2, h3, _⟩ := words_mn x h
  rw [err_form, tok_of_run h2 h3]
  intro e
  rw [e] at h1
  cases h1
/-- a word of inner bytes is a mnemonic just if it is in the list -/
theorem word_iff (x : List UInt8) (ha : x.all runU = true) : (x ∈ wordsS) ↔ ¬ (parseP x).e = 40 := by
  refine ⟨word_fine x, fun h => ?_⟩
  rw [err_form] at h
  by_cases hh : headOk x = true
  · rw [tok_of_run hh ha] at h
    refine mean_words x ?_
    cases hm : meanOf x with
    | none => exact absurd hm h
    | some m => rfl
  · exfalso
    apply h
    cases x with
    | nil => rfl
    | cons c l =>
      have hr : runU c = true := (by simpa using ha : runU c = true ∧ _).1
      have hnb : ¬ c = 32 ∧ ¬ c = 9 := ⟨fun e => (by rw [e] at hr; revert hr; decide), fun e => (by rw [e] at hr; revert hr; decide)⟩
      have hho : headOk [c] = false := by
        cases hb : headOk [c]
        · rfl
        · exact absurd (show headOk (c :: l) = true from hb) hh
      have ht : (newR (c :: l)).tok = [c] := (tok_mark c l hho hnb.1 hnb.2).1
      rw [ht]
      have hc : c = 46 ∨ c = 36 := by
        have : ∀ b : Fin 256, runU (UInt8.ofNat b.val) = true → headOk [UInt8.ofNat b.val] = false → UInt8.ofNat b.val = 46 ∨ UInt8.ofNat b.val = 36 := by decide +kernel
        have hlt : c.toNat < 256 := c.toNat_lt
        have h2 := this ⟨c.toNat, hlt⟩
        simp only [UInt8.ofNat_toNat] at h2
        exact h2 hr hho
      rcases hc with rfl | rfl <;> decide +kernel
end Go.Proofs.YtcomhlimgocoaaaGreatDoor
namespace Go.Proofs.YtcomhlimgocoaaaGreatDoor
open Go.RowKit
set_option linter.unusedVariables false
set_option linter.unusedSimpArgs false
def wd (k : Nat) : List UInt8 := wordsS.getD k []
/-- a name of two bytes -/
theorem name2_any (c : UInt8) (w : World) : Calls Tryz.prog 18 #[.string ⟨#[97, c]⟩] w fun e w' => e = .returned (.bool (runU c)) ∧ w = w' := by
  have hrc : runP (c.toNat : Int) = runU c := rfl
  have CL : Hid (∀ wx : World, Calls Tryz.prog 48 #[.int .u8 97] wx fun e w' => e = .returned (.bool true) ∧ wx = w') := fun wx => refLetter_any 97 wx
  have CI : Hid (∀ wx : World, Calls Tryz.prog 49 #[.int .u8 97] wx fun e w' => e = .returned (.bool true) ∧ wx = w') := fun wx => refInner_any 97 wx
  have CC : Hid (∀ wx : World, Calls Tryz.prog 49 #[.int .u8 (c.toNat : Int)] wx fun e w' => e = .returned (.bool (runU c)) ∧ wx = w') := fun wx => refInner_any _ wx
  clear hrc
  have i0 : ∀ h, (⟨#[97, c]⟩ : ByteArray)[0]'h = 97 := fun _ => rfl
  have i1 : ∀ h, (⟨#[97, c]⟩ : ByteArray)[1]'h = c := fun _ => rfl
  have t97 : (97 : UInt8).toNat = 97 := rfl
  generalize runU c = b at *
  cases b
  all_goals go_enter Tryz.func18, Tryz.ntmps18
  all_goals go_wp2_with (go_at_call 48; refine (CL.out _).mono ?_; rintro e w1 ⟨rfl, hw⟩; subst hw)
  all_goals refine wp_loop_rounds 4 ?_
  all_goals rw [rounds_succ]
  all_goals go_wp2_with (go_at_call 49; refine (CI.out _).mono ?_; rintro e w1 ⟨rfl, hw⟩; subst hw)
  all_goals rw [rounds_succ]
  all_goals go_wp2_with (go_at_call 49; refine (CC.out _).mono ?_; rintro e w1 ⟨rfl, hw⟩; subst hw)
  · go_ret
    exact ⟨rfl, rfl⟩
  · rw [rounds_succ]
    go_wp2
    go_ret
    exact ⟨rfl, rfl⟩
theorem words_less : ∀ j : Fin 106, Op.bytesLess (wd (j.val + 1)) (wd j.val) = false ∧ (wd (j.val + 1) == wd j.val) = false := by decide +kernel
theorem Out.drewN {w w' : World} (h : Out w w') (n : Nat) : Out w (w'.drewN n) := ⟨h.os, h.tape, h.output, h.size, h.block⟩
theorem ext_one (l : List UInt8) (k : Nat) (c : UInt8) (h : l[k]? = some c) : (⟨l.toArray⟩ : ByteArray).extract k (k + 1) = ⟨#[c]⟩ := by
  have hk : k < l.length := (List.getElem?_eq_some_iff.1 h).1
  have hc : l[k] = c := (List.getElem?_eq_some_iff.1 h).2
  apply ByteArray.ext
  rw [ByteArray.data_extract]
  apply Array.ext'
  rw [Array.toList_extract]
  simp only [List.extract]
  rw [show k + 1 - k = 1 from by omega, List.drop_eq_getElem_cons (show k < l.toArray.toList.length from hk), List.take_succ_cons, List.take_zero]
  exact congrArg (fun x => [x]) hc
def WordsC (w : World) : Prop := ∀ wx, Out w wx → Calls Tryz.prog 14 #[] wx fun e w' => ∃ g cap, e = .returned (.slice (some ⟨g, 0, none⟩) 107 cap) ∧ 107 ≤ cap ∧ (∀ k, k < 107 → w'.cell? ⟨g, k, none⟩ = some (.string ⟨(wd k).toArray⟩)) ∧ Out wx w'
set_option maxRecDepth 20000 in
set_option maxHeartbeats 3200000 in
theorem lineMeant_walk (l : List UInt8) (w : World) (hE : AEnv w) (hl : l.length ≤ 140737488355328) (hW : WordsC w) : Calls Tryz.prog 6 #[.string ⟨l.toArray⟩] w fun e w' => e = .returned (.bool true) ∧ Out w w' := by
  have CA : Hid (∀ wx, Out w wx → Calls Tryz.prog 7 #[] wx fun e w' => e = .returned (.bool true) ∧ Out wx w') := fun wx ho => awake_any wx (hE.out ho)
  have CW := hidOf hW
  have CP : Hid (∀ (x : List UInt8), x.length ≤ 140737488355328 → ∀ wx, Out w wx → Calls Tryz.prog 11 #[.string ⟨x.toArray⟩] wx fun e w' => e = .returned (.tuple #[.agg #[.int .i64 (parseP x).o, .int .i64 (parseP x).d, .int .i64 (parseP x).s, .int .i64 (parseP x).f, .int .i64 (parseP x).i], .string ⟨(parseP x).tgt.toArray⟩, .int .i64 (parseP x).e]) ∧ Out wx w') := fun x hx wx ho => parse_any wx x (hE.out ho).1 hx
  clear hE
  go_enter Tryz.func6, Tryz.ntmps6
  go_wp2_with (first | (go_at_call 7; refine (CA.out w (Out.refl w)).mono ?_; rintro e w1 ⟨rfl, ho⟩; have H1 := hidOf ho; clear ho CA) | (go_at_call 14; refine (CW.out w1 H1.out).mono ?_; rintro e w2 ⟨g, cap, rfl, hcap, hws, ho⟩; have H2 := hidOf (Out.trans H1.out ho); have HWs := hidOf hws; clear ho CW hW hws))
  go_loopw [4, 5] (fun isv kv wr => ∃ (b : Bool) (k : Nat), k ≤ 107 ∧ isv = .bool b ∧ kv = .int .i64 k ∧ Hid (b = (wordsS.take k).contains l) ∧ Hid (Out w2 wr)) (fun _ kv _ => 107 - (intOf kv).toNat)
  case atStart => exact ⟨false, 0, by omega, rfl, rfl, by simp [Hid], Out.refl w2⟩
  case round =>
    obtain ⟨b, k, hk, rfl, rfl, HBk, Ho⟩ := hrel
    by_cases hkN : k < 107
    · have hmem : wd k ∈ wordsS := by
        unfold wd
        rw [List.getD_eq_getElem?_getD, List.getElem?_eq_getElem (by rw [words_len]; exact hkN)]
        exact List.getElem_mem _
      have CPk := hidOf (CP.out (wd k) (by have := (words_mn _ hmem).2.2.2; omega) wr (Out.trans H2.out Ho.out))
      have hm : ((parseP (wd k)).e == 40) = false := by simpa using word_fine _ hmem
      have Hnext : Hid ((wordsS.take (k + 1)).contains l = (b || (wd k == l))) := by
        have e : wordsS.take (k + 1) = wordsS.take k ++ [wd k] := by
          rw [List.take_add_one]
          unfold wd
          rw [List.getD_eq_getElem?_getD, List.getElem?_eq_getElem (by rw [words_len]; exact hkN)]
          rfl
        refine hidOf ?_
        rw [e, HBk.out]
        simp only [List.contains_eq_mem, List.mem_append, List.mem_singleton]
        by_cases h : l = wd k
        · simp [h]
        · have h' : ¬ wd k = l := fun e => h e.symm
          simp [h, h']
      cases k with
      | zero =>
        have c0 := cell_later Ho.out (HWs.out 0 hkN)
        have hq : ∀ w', Out wr w' → ∀ O, (w'.alloc O).cell? ⟨g, 0, none⟩ = some (.string ⟨(wd 0).toArray⟩) := fun w' ho O => cell_later (ho.alloc O) c0
        have HQ := hidOf hq
        clear hq
        generalize parseP (wd 0) = P at *
        generalize wd 0 = T at *
        obtain ⟨o, d, s, f, i, t, m⟩ := P
        simp only at CPk hm
        cases he : (T == l) <;> cases b
        all_goals (rw [he] at Hnext)
        all_goals go_wp2_with (first | (go_at_call 10; refine (num_any _ _).mono ?_; rintro e wn ⟨rfl, hw⟩; have hw := hw.symm; subst hw) | (go_at_call 11; refine CPk.out.mono ?_; rintro e w3 ⟨rfl, ho⟩; have H3 := hidOf (Out.trans Ho.out ho); have q0 := HQ.out w3 ho; clear ho))
        all_goals go_quiet ((go_at_call 10; exact Calls.quiet_of_same (num_any _ _)))
        all_goals go_wp2
        all_goals refine ⟨⟨_, 0 + 1, by omega, rfl, by simp, hidOf ?_, hidOf ?_⟩, ?_⟩
        all_goals first | exact Hnext.out.symm | exact (H3.out.alloc _).drewN _ | (simp [intOf])
      | succ j =>
        have c0 := cell_later Ho.out (HWs.out (j + 1) hkN)
        have c1 := cell_later Ho.out (HWs.out j (by omega))
        have HQ : Hid (∀ w', Out wr w' → ∀ O, (w'.alloc O).cell? ⟨g, j + 1, none⟩ = some (.string ⟨(wd (j + 1)).toArray⟩)) := fun w' ho O => cell_later (ho.alloc O) c0
        have HQ1 : Hid (∀ w', Out wr w' → ∀ O, (w'.alloc O).cell? ⟨g, j, none⟩ = some (.string ⟨(wd j).toArray⟩)) := fun w' ho O => cell_later (ho.alloc O) c1
        obtain ⟨l1, l2⟩ := words_less ⟨j, by omega⟩
        simp only at l1 l2
        have hj1 : (j : Int) + 1 < 107 := by omega
        have hj2 : (j : Int) < 107 := by omega
        clear c1
        generalize parseP (wd (j + 1)) = P at *
        generalize wd (j + 1) = T at *
        generalize wd j = V at *
        obtain ⟨o, d, s, f, i, t, m⟩ := P
        simp only at CPk hm
        cases he : (T == l) <;> cases b
        all_goals (rw [he] at Hnext)
        all_goals go_wp2_with (first | (go_at_call 11; refine CPk.out.mono ?_; rintro e w3 ⟨rfl, ho⟩; have H3 := hidOf (Out.trans Ho.out ho); have q0 := HQ.out w3 ho; have q1 := HQ1.out w3 ho; clear ho))
        all_goals go_quiet ((go_at_call 10; exact Calls.quiet_of_same (num_any _ _)))
        all_goals go_wp2
        all_goals refine ⟨⟨_, j + 1 + 1, by omega, rfl, by simp, hidOf ?_, hidOf ?_⟩, ?_⟩
        all_goals first | exact Hnext.out.symm | exact (H3.out.alloc _).drewN _ | (simp [intOf]; omega)
    · obtain rfl : k = 107 := by omega
      have HB : Hid (b = wordsS.contains l) := by
        have := HBk.out
        rwa [List.take_of_length_le (by rw [words_len]; exact Nat.le_refl _)] at this
      clear hkN hk HWs HBk
      rw [show ((107 : Nat) : Int) = 107 from rfl]
      go_wp2
      go_loopw [9] (fun kv wq => ∃ k : Nat, k ≤ l.length ∧ kv = .int .i64 k ∧ Hid ((l.take k).all runU = true) ∧ Hid (Out w2 wq)) (fun kv _ => l.length - (intOf kv).toNat)
      case atStart => exact ⟨0, by omega, rfl, by simp [Hid], Ho.out⟩
      case round =>
        obtain ⟨k, hk, rfl, HA, Hq⟩ := hrel
        by_cases hkl : k < l.length
        · have hlt : (k : Int) < l.length := by omega
          have hlt1 : (k : Int) + 1 ≤ l.length := by omega
          obtain ⟨c, hc⟩ : ∃ c, l[k]? = some c := ⟨_, List.getElem?_eq_getElem hkl⟩
          have hext : (⟨l.toArray⟩ : ByteArray).extract k (k + 1) = ⟨#[c]⟩ := ext_one l k c hc
          have a1 : ∀ w, (Op.stringOp .add ⟨#[97]⟩ ⟨#[c]⟩).run Tryz.prog w = .ok (.string ⟨#[97, c]⟩) w := add_lists [97] [c] [97, c] rfl (by simp)
          have HN : Hid (runU c = true → (l.take (k + 1)).all runU = true) := fun hr => by
            rw [List.take_add_one, hc, List.all_append, HA.out]
            simp [hr]
          have CN := hidOf (name2_any c)
          clear hc
          cases hu : runU c
          · rw [hu] at CN
            go_wp2_with (go_at_call 18; refine (CN.out _).mono ?_; rintro e wn ⟨rfl, hw⟩; subst hw)
            go_ret
            exact ⟨rfl, Out.trans H2.out Hq.out⟩
          · rw [hu] at CN
            have HN' := hidOf (HN.out hu)
            go_wp2_with (go_at_call 18; refine (CN.out _).mono ?_; rintro e wn ⟨rfl, hw⟩; subst hw)
            go_roundw
            case rel => exact ⟨k + 1, by omega, by simp, HN', Hq⟩
            case measure => simp [intOf]; omega
        · obtain rfl : k = l.length := by omega
          have hall : l.all runU = true := by have := HA.out; rwa [List.take_length] at this
          have CPl := hidOf (CP.out l hl wr (Out.trans H2.out Hq.out))
          have hm : ((parseP l).e != 40) = b := by
            rw [HB.out]
            have hi := word_iff l hall
            by_cases h : (parseP l).e = 40
            · have : ¬ l ∈ wordsS := fun x => hi.1 x h
              simp [h, this]
            · have : l ∈ wordsS := hi.2 h
              simp [h, this]
          clear hall HA HB CP hkl hk
          generalize parseP l = P at *
          obtain ⟨o, d, s, f, i, t, m⟩ := P
          simp only at CPl hm
          cases b
          all_goals go_wp2_with (first | (go_at_call 10; refine (num_any _ _).mono ?_; rintro e wn ⟨rfl, hw⟩; have hw := hw.symm; subst hw) | (go_at_call 11; refine CPl.out.mono ?_; rintro e w3 ⟨rfl, ho⟩; have H3 := hidOf (Out.trans Hq.out ho); clear ho))
          all_goals go_ret
          all_goals exact ⟨rfl, Out.trans H2.out (H3.out.alloc _)⟩
end Go.Proofs.YtcomhlimgocoaaaGreatDoor
