import Derived.Test.YtggfjbbpbfhijabGreatDoorGt
import Derived.Test.YtggfjbbpbfhijabGreatDoorHj
import Derived.Deep.QuietTactic
import Derived.Laws.Cover1
namespace Go.Proofs.YtggfjbbpbfhijabGreatDoor
open Go.RowKit
set_option linter.unusedVariables false
set_option linter.unusedSimpArgs false
def wd (k : Nat) : List UInt8 := wordsS.getD k []
/-- a name of two bytes -/
theorem name2_any (c : UInt8) (w : World) : Calls Tryz.prog 11 #[.string ⟨#[97, c]⟩] w fun e w' => e = .returned (.bool (runU c)) ∧ w = w' := by
  have hrc : runP (c.toNat : Int) = runU c := rfl
  have CL : Hid (∀ wx : World, Calls Tryz.prog 26 #[.int .u8 97] wx fun e w' => e = .returned (.bool true) ∧ wx = w') := fun wx => refLetter_any 97 wx
  have CI : Hid (∀ wx : World, Calls Tryz.prog 27 #[.int .u8 97] wx fun e w' => e = .returned (.bool true) ∧ wx = w') := fun wx => refInner_any 97 wx
  have CC : Hid (∀ wx : World, Calls Tryz.prog 27 #[.int .u8 (c.toNat : Int)] wx fun e w' => e = .returned (.bool (runU c)) ∧ wx = w') := fun wx => refInner_any _ wx
  clear hrc
  have i0 : ∀ h, (⟨#[97, c]⟩ : ByteArray)[0]'h = 97 := fun _ => rfl
  have i1 : ∀ h, (⟨#[97, c]⟩ : ByteArray)[1]'h = c := fun _ => rfl
  have t97 : (97 : UInt8).toNat = 97 := rfl
  generalize runU c = b at *
  cases b
  all_goals go_enter Tryz.func11, Tryz.ntmps11
  all_goals go_wp2_with (go_at_call 26; refine (CL.out _).mono ?_; rintro e w1 ⟨rfl, hw⟩; subst hw)
  all_goals refine wp_loop_rounds 4 ?_
  all_goals rw [rounds_succ]
  all_goals go_wp2_with (go_at_call 27; refine (CI.out _).mono ?_; rintro e w1 ⟨rfl, hw⟩; subst hw)
  all_goals rw [rounds_succ]
  all_goals go_wp2_with (go_at_call 27; refine (CC.out _).mono ?_; rintro e w1 ⟨rfl, hw⟩; subst hw)
  · go_ret
    exact ⟨rfl, rfl⟩
  · rw [rounds_succ]
    go_wp2
    go_ret
    exact ⟨rfl, rfl⟩
theorem words_less : ∀ j : Fin 106, Op.bytesLess (wd (j.val + 1)) (wd j.val) = false ∧ (wd (j.val + 1) == wd j.val) = false := by decide +kernel
theorem Out.drewN {w w' : World} (h : Out w w') (n : Nat) : Out w (w'.drewN n) := ⟨h.os, h.tape, h.output, h.size, h.block⟩
theorem ext_one (l : List UInt8) (k : Nat) (c : UInt8) (h : l[k]? = some c) : (⟨l.toArray⟩ : ByteArray).extract k (k + 1) = ⟨#[c]⟩ := by
  have hk : k < l.length := (List.getElem?_eq_some_iff.1 h).1
  have hc : l[k] = c := (List.getElem?_eq_some_iff.1 h).2
  apply ByteArray.ext
  rw [ByteArray.data_extract]
  apply Array.ext'
  rw [Array.toList_extract]
  simp only [List.extract]
  rw [show k + 1 - k = 1 from by omega, List.drop_eq_getElem_cons (show k < l.toArray.toList.length from hk), List.take_succ_cons, List.take_zero]
  exact congrArg (fun x => [x]) hc
def WordsC (w : World) : Prop := ∀ wx, Out w wx → Calls Tryz.prog 10 #[] wx fun e w' => ∃ g cap, e = .returned (.slice (some ⟨g, 0, none⟩) 107 cap) ∧ 107 ≤ cap ∧ (∀ k, k < 107 → w'.cell? ⟨g, k, none⟩ = some (.string ⟨(wd k).toArray⟩)) ∧ Out wx w'
set_option maxRecDepth 20000 in
set_option maxHeartbeats 3200000 in
theorem lineMeant_walk (l : List UInt8) (w : World) (hE : AEnv w) (hl : l.length ≤ 140737488355328) (hW : WordsC w) : Calls Tryz.prog 4 #[.string ⟨l.toArray⟩] w fun e w' => e = .returned (.bool true) ∧ Out w w' := by
  have CA : Hid (∀ wx, Out w wx → Calls Tryz.prog 5 #[] wx fun e w' => e = .returned (.bool true) ∧ Out wx w') := fun wx ho => awake_any wx (hE.out ho)
  have CW := hidOf hW
  have CP : Hid (∀ (x : List UInt8), x.length ≤ 140737488355328 → ∀ wx, Out w wx → Calls Tryz.prog 7 #[.string ⟨x.toArray⟩] wx fun e w' => e = .returned (.tuple #[.agg #[.int .i64 (parseP x).o, .int .i64 (parseP x).d, .int .i64 (parseP x).s, .int .i64 (parseP x).f, .int .i64 (parseP x).i], .string ⟨(parseP x).tgt.toArray⟩, .int .i64 (parseP x).e]) ∧ Out wx w') := fun x hx wx ho => parse_any wx x (hE.out ho).1 hx
  clear hE
  go_enter Tryz.func4, Tryz.ntmps4
  go_wp2_with (first | (go_at_call 5; refine (CA.out w (Out.refl w)).mono ?_; rintro e w1 ⟨rfl, ho⟩; have H1 := hidOf ho; clear ho CA) | (go_at_call 10; refine (CW.out w1 H1.out).mono ?_; rintro e w2 ⟨g, cap, rfl, hcap, hws, ho⟩; have H2 := hidOf (Out.trans H1.out ho); have HWs := hidOf hws; clear ho CW hW hws))
  go_loopw [4, 5] (fun isv kv wr => ∃ (b : Bool) (k : Nat), k ≤ 107 ∧ isv = .bool b ∧ kv = .int .i64 k ∧ Hid (b = (wordsS.take k).contains l) ∧ Hid (Out w2 wr)) (fun _ kv _ => 107 - (intOf kv).toNat)
  case atStart => exact ⟨false, 0, by omega, rfl, rfl, by simp [Hid], Out.refl w2⟩
  case round =>
    obtain ⟨b, k, hk, rfl, rfl, HBk, Ho⟩ := hrel
    by_cases hkN : k < 107
    · have hmem : wd k ∈ wordsS := by
        unfold wd
        rw [List.getD_eq_getElem?_getD, List.getElem?_eq_getElem (by rw [words_len]; exact hkN)]
        exact List.getElem_mem _
      have CPk := hidOf (CP.out (wd k) (by have := (words_mn _ hmem).2.2.2; omega) wr (Out.trans H2.out Ho.out))
      have hm : ((parseP (wd k)).e == 40) = false := by simpa using word_fine _ hmem
      have Hnext : Hid ((wordsS.take (k + 1)).contains l = (b || (wd k == l))) := by
        have e : wordsS.take (k + 1) = wordsS.take k ++ [wd k] := by
          rw [List.take_add_one]
          unfold wd
          rw [List.getD_eq_getElem?_getD, List.getElem?_eq_getElem (by rw [words_len]; exact hkN)]
          rfl
        refine hidOf ?_
        rw [e, HBk.out]
        simp only [List.contains_eq_mem, List.mem_append, List.mem_singleton]
        by_cases h : l = wd k
        · simp [h]
        · have h' : ¬ wd k = l := fun e => h e.symm
          simp [h, h']
      cases k with
      | zero =>
        have c0 := cell_later Ho.out (HWs.out 0 hkN)
        have hq : ∀ w', Out wr w' → ∀ O, (w'.alloc O).cell? ⟨g, 0, none⟩ = some (.string ⟨(wd 0).toArray⟩) := fun w' ho O => cell_later (ho.alloc O) c0
        have HQ := hidOf hq
        clear hq
        generalize parseP (wd 0) = P at *
        generalize wd 0 = T at *
        obtain ⟨o, d, s, f, i, t, m⟩ := P
        simp only at CPk hm
        cases he : (T == l) <;> cases b
        all_goals (rw [he] at Hnext)
        all_goals go_wp2_with (first | (go_at_call 9; refine (num_any _ _).mono ?_; rintro e wn ⟨rfl, hw⟩; have hw := hw.symm; subst hw) | (go_at_call 7; refine CPk.out.mono ?_; rintro e w3 ⟨rfl, ho⟩; have H3 := hidOf (Out.trans Ho.out ho); have q0 := HQ.out w3 ho; clear ho))
        all_goals go_quiet ((go_at_call 9; exact Calls.quiet_of_same (num_any _ _)))
        all_goals go_wp2
        all_goals refine ⟨⟨_, 0 + 1, by omega, rfl, by simp, hidOf ?_, hidOf ?_⟩, ?_⟩
        all_goals first | exact Hnext.out.symm | exact (H3.out.alloc _).drewN _ | (simp [intOf])
      | succ j =>
        have c0 := cell_later Ho.out (HWs.out (j + 1) hkN)
        have c1 := cell_later Ho.out (HWs.out j (by omega))
        have HQ : Hid (∀ w', Out wr w' → ∀ O, (w'.alloc O).cell? ⟨g, j + 1, none⟩ = some (.string ⟨(wd (j + 1)).toArray⟩)) := fun w' ho O => cell_later (ho.alloc O) c0
        have HQ1 : Hid (∀ w', Out wr w' → ∀ O, (w'.alloc O).cell? ⟨g, j, none⟩ = some (.string ⟨(wd j).toArray⟩)) := fun w' ho O => cell_later (ho.alloc O) c1
        obtain ⟨l1, l2⟩ := words_less ⟨j, by omega⟩
        simp only at l1 l2
        have hj1 : (j : Int) + 1 < 107 := by omega
        have hj2 : (j : Int) < 107 := by omega
        clear c1
        generalize parseP (wd (j + 1)) = P at *
        generalize wd (j + 1) = T at *
        generalize wd j = V at *
        obtain ⟨o, d, s, f, i, t, m⟩ := P
        simp only at CPk hm
        cases he : (T == l) <;> cases b
        all_goals (rw [he] at Hnext)
        all_goals go_wp2_with (first | (go_at_call 7; refine CPk.out.mono ?_; rintro e w3 ⟨rfl, ho⟩; have H3 := hidOf (Out.trans Ho.out ho); have q0 := HQ.out w3 ho; have q1 := HQ1.out w3 ho; clear ho))
        all_goals go_quiet ((go_at_call 9; exact Calls.quiet_of_same (num_any _ _)))
        all_goals go_wp2
        all_goals refine ⟨⟨_, j + 1 + 1, by omega, rfl, by simp, hidOf ?_, hidOf ?_⟩, ?_⟩
        all_goals first | exact Hnext.out.symm | exact (H3.out.alloc _).drewN _ | (simp [intOf]; omega)
    · obtain rfl : k = 107 := by omega
      have HB : Hid (b = wordsS.contains l) := by
        have := HBk.out
        rwa [List.take_of_length_le (by rw [words_len]; exact Nat.le_refl _)] at this
      clear hkN hk HWs HBk
      rw [show ((107 : Nat) : Int) = 107 from rfl]
      go_wp2
      go_loopw [9] (fun kv wq => ∃ k : Nat, k ≤ l.length ∧ kv = .int .i64 k ∧ Hid ((l.take k).all runU = true) ∧ Hid (Out w2 wq)) (fun kv _ => l.length - (intOf kv).toNat)
      case atStart => exact ⟨0, by omega, rfl, by simp [Hid], Ho.out⟩
      case round =>
        obtain ⟨k, hk, rfl, HA, Hq⟩ := hrel
        by_cases hkl : k < l.length
        · have hlt : (k : Int) < l.length := by omega
          have hlt1 : (k : Int) + 1 ≤ l.length := by omega
          obtain ⟨c, hc⟩ : ∃ c, l[k]? = some c := ⟨_, List.getElem?_eq_getElem hkl⟩
          have hext : (⟨l.toArray⟩ : ByteArray).extract k (k + 1) = ⟨#[c]⟩ := ext_one l k c hc
          have a1 : ∀ w, (Op.stringOp .add ⟨#[97]⟩ ⟨#[c]⟩).run Tryz.prog w = .ok (.string ⟨#[97, c]⟩) w := add_lists [97] [c] [97, c] rfl (by simp)
          have HN : Hid (runU c = true → (l.take (k + 1)).all runU = true) := fun hr => by
            rw [List.take_add_one, hc, List.all_append, HA.out]
            simp [hr]
          have CN := hidOf (name2_any c)
          clear hc
          cases hu : runU c
          · rw [hu] at CN
            go_wp2_with (go_at_call 11; refine (CN.out _).mono ?_; rintro e wn ⟨rfl, hw⟩; subst hw)
            go_ret
            exact ⟨rfl, Out.trans H2.out Hq.out⟩
          · rw [hu] at CN
            have HN' := hidOf (HN.out hu)
            go_wp2_with (go_at_call 11; refine (CN.out _).mono ?_; rintro e wn ⟨rfl, hw⟩; subst hw)
            go_roundw
            case rel => exact ⟨k + 1, by omega, by simp, HN', Hq⟩
            case measure => simp [intOf]; omega
        · obtain rfl : k = l.length := by omega
          have hall : l.all runU = true := by have := HA.out; rwa [List.take_length] at this
          have CPl := hidOf (CP.out l hl wr (Out.trans H2.out Hq.out))
          have hm : ((parseP l).e != 40) = b := by
            rw [HB.out]
            have hi := word_iff l hall
            by_cases h : (parseP l).e = 40
            · have : ¬ l ∈ wordsS := fun x => hi.1 x h
              simp [h, this]
            · have : l ∈ wordsS := hi.2 h
              simp [h, this]
          clear hall HA HB CP hkl hk
          generalize parseP l = P at *
          obtain ⟨o, d, s, f, i, t, m⟩ := P
          simp only at CPl hm
          cases b
          all_goals go_wp2_with (first | (go_at_call 9; refine (num_any _ _).mono ?_; rintro e wn ⟨rfl, hw⟩; have hw := hw.symm; subst hw) | (go_at_call 7; refine CPl.out.mono ?_; rintro e w3 ⟨rfl, ho⟩; have H3 := hidOf (Out.trans Hq.out ho); clear ho))
          all_goals go_ret
          all_goals exact ⟨rfl, Out.trans H2.out (H3.out.alloc _)⟩
end Go.Proofs.YtggfjbbpbfhijabGreatDoor
