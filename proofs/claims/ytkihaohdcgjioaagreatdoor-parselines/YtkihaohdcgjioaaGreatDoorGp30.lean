import Derived.Test.YtkihaohdcgjioaaGreatDoorGp27
import Derived.Test.YtkihaohdcgjioaaGreatDoorGp23
namespace Go.Proofs.YtkihaohdcgjioaaGreatDoor
open Go.RowKit
set_option linter.unusedVariables false
set_option linter.unusedSimpArgs false
theorem reckCs_at : ∀ k : Fin 13, reckCs[k.val * 2]? = some (.string ⟨(reckA k.val).toArray⟩) ∧ reckCs[k.val * 2 + 1]? = some (.string ⟨(reckB k.val).toArray⟩) := by
  intro k
  obtain ⟨k, hk⟩ := k
  rcases (show k = 0 ∨ k = 1 ∨ k = 2 ∨ k = 3 ∨ k = 4 ∨ k = 5 ∨ k = 6 ∨ k = 7 ∨ k = 8 ∨ k = 9 ∨ k = 10 ∨ k = 11 ∨ k = 12 from by omega) with rfl | rfl | rfl | rfl | rfl | rfl | rfl | rfl | rfl | rfl | rfl | rfl | rfl <;> exact ⟨rfl, rfl⟩
theorem jumpCs_at : ∀ k : Fin 14, jumpCs[k.val * 2]? = some (.string ⟨(jumpA k.val).toArray⟩) ∧ jumpCs[k.val * 2 + 1]? = some (.string ⟨(jumpB k.val).toArray⟩) := by
  intro k
  obtain ⟨k, hk⟩ := k
  rcases (show k = 0 ∨ k = 1 ∨ k = 2 ∨ k = 3 ∨ k = 4 ∨ k = 5 ∨ k = 6 ∨ k = 7 ∨ k = 8 ∨ k = 9 ∨ k = 10 ∨ k = 11 ∨ k = 12 ∨ k = 13 from by omega) with rfl | rfl | rfl | rfl | rfl | rfl | rfl | rfl | rfl | rfl | rfl | rfl | rfl | rfl <;> exact ⟨rfl, rfl⟩
theorem ReckTb.at {w : World} (h : ReckTb w) (k : Nat) (hk : k < 13) : w.cell? ⟨3, k * 2, none⟩ = some (.string ⟨(reckA k).toArray⟩) ∧ w.cell? ⟨3, k * 2 + 1, none⟩ = some (.string ⟨(reckB k).toArray⟩) := by
  have a := h _ _ (reckCs_at ⟨k, hk⟩).1
  have b := h _ _ (reckCs_at ⟨k, hk⟩).2
  simp only [Nat.zero_add] at a b
  exact ⟨a, b⟩
theorem JumpTb.at {w : World} (h : JumpTb w) (k : Nat) (hk : k < 14) : w.cell? ⟨0, k * 2, none⟩ = some (.string ⟨(jumpA k).toArray⟩) ∧ w.cell? ⟨0, k * 2 + 1, none⟩ = some (.string ⟨(jumpB k).toArray⟩) := by
  have a := h _ _ (jumpCs_at ⟨k, hk⟩).1
  have b := h _ _ (jumpCs_at ⟨k, hk⟩).2
  simp only [Nat.zero_add] at a b
  exact ⟨a, b⟩
theorem pick_reck (k : Nat) (hk : k < 13) (b : Bool) : pick2 reckT k b = if b then reckB k else reckA k := by
  unfold pick2
  rw [reck_row k hk]
theorem pick_jump (k : Nat) (hk : k < 14) (b : Bool) : pick2 jumpT k b = if b then jumpB k else jumpA k := by
  unfold pick2
  rw [jump_row k hk]
/-- the word of an arithmetic instruction -/
theorem reckonWord_any (o d s f i : Int) (w : World) (h0 : 0 ≤ o) (hT : WTabs w) (hd : f = 0 → ¬ shrO o = 13 → shrO o < 13) : Calls Tryz.prog 126 #[.agg #[.int .i64 o, .int .i64 d, .int .i64 s, .int .i64 f, .int .i64 i]] w fun e w' => e = .returned (.string ⟨(wReck o f i).toArray⟩) ∧ Out w w' := by
  have CI : Hid (∀ wx, Out w wx → Calls Tryz.prog 169 #[.agg #[.int .i64 o, .int .i64 d, .int .i64 s, .int .i64 f, .int .i64 i]] wx fun e w' => e = .returned (.string ⟨(wImm o i).toArray⟩) ∧ Out wx w') := fun wx ho => immWord_any o d s f i wx (rangeAt_out hT.2.2.2.2 ho)
  have CO : Hid (∀ wx, Out w wx → Calls Tryz.prog 168 #[.agg #[.int .i64 o, .int .i64 d, .int .i64 s, .int .i64 f, .int .i64 i]] wx fun e w' => e = .returned (.string ⟨(wOff o f).toArray⟩) ∧ Out wx w') := fun wx ho => offWord_any o d s f i wx (rangeAt_out hT.2.2.2.1 ho)
  obtain ⟨k, hk, hke⟩ : ∃ k : Nat, o / 16 = (k : Int) ∧ k = shrO o := ⟨shrO o, by unfold shrO; omega, rfl⟩
  rw [← hke] at hd
  unfold wReck
  rw [← hke]
  by_cases hf : f = 0
  · rw [if_pos hf]
    by_cases h13 : k = 13
    · rw [if_pos h13]
      subst hf h13
      clear hd hT CO hke
      go_enter Tryz.func126, Tryz.ntmps126
      go_wp2_with (go_at_call 169; refine (CI.out _ ((Out.refl w).alloc _)).mono ?_; rintro e w1 ⟨rfl, ho1⟩; have Ho1 := hidOf ho1; clear ho1)
      go_ret
      exact ⟨rfl, Out.trans ((Out.refl w).alloc _) Ho1.out⟩
    · rw [if_neg h13]
      have hk13 := hd hf h13
      rw [pick_reck k hk13]
      have c0 : ∀ O, (w.alloc O).cell? ⟨3, k * 2, none⟩ = some (.string ⟨(reckA k).toArray⟩) := fun O => cell_later ((Out.refl w).alloc O) (ReckTb.at hT.1 k hk13).1
      have c1 : ∀ O, (w.alloc O).cell? ⟨3, k * 2 + 1, none⟩ = some (.string ⟨(reckB k).toArray⟩) := fun O => cell_later ((Out.refl w).alloc O) (ReckTb.at hT.1 k hk13).2
      have hlt : (k : Int) < 13 := by omega
      have hne : ((k : Int) == 13) = false := by simp only [beq_eq_false_iff_ne]; omega
      generalize reckA k = RA at *
      generalize reckB k = RB at *
      subst hf
      clear hd hT CO CI hke h13 hk13
      unfold cls
      cases h7 : (bits .and .i64 o 7 == 7)
      · go_enter Tryz.func126, Tryz.ntmps126
        go_wp2
        go_ret
        exact ⟨rfl, (Out.refl w).alloc _⟩
      · go_enter Tryz.func126, Tryz.ntmps126
        go_wp2
        go_ret
        exact ⟨rfl, (Out.refl w).alloc _⟩
  · rw [if_neg hf]
    have hne : (f != 0) = true := by simpa using hf
    clear hd hT CI hke hf
    go_enter Tryz.func126, Tryz.ntmps126
    go_wp2_with (go_at_call 168; refine (CO.out _ ((Out.refl w).alloc _)).mono ?_; rintro e w1 ⟨rfl, ho1⟩; have Ho1 := hidOf ho1; clear ho1)
    go_ret
    exact ⟨rfl, Out.trans ((Out.refl w).alloc _) Ho1.out⟩
/-- the word of an instruction -/
theorem wordOf_any (o d s f i : Int) (w : World) (h0 : 0 ≤ o) (h1 : o < 256) (hT : WTabs w) (hd : (cls o = 7 ∨ cls o = 4) → f = 0 → ¬ shrO o = 13 → shrO o < 13) (hj : (cls o = 5 ∨ cls o = 6) → shrO o < 14) : Calls Tryz.prog 84 #[.agg #[.int .i64 o, .int .i64 d, .int .i64 s, .int .i64 f, .int .i64 i]] w fun e w' => e = .returned (.string ⟨(wordP o s f i).toArray⟩) ∧ Out w w' := by
  obtain ⟨k, hk, hke⟩ : ∃ k : Nat, o / 16 = (k : Int) ∧ k = shrO o := ⟨shrO o, by unfold shrO; omega, rfl⟩
  unfold wordP
  by_cases c0 : cls o = 0
  · rw [if_pos c0]
    have hc : bits .and .i64 o 7 = 0 := c0
    clear hd hj hT
    by_cases hs : s = 1
    · rw [if_pos hs]
      subst hs
      go_enter Tryz.func84, Tryz.ntmps84
      go_wp2
      go_ret
      exact ⟨rfl, (Out.refl w).alloc _⟩
    · rw [if_neg hs]
      have hs' : (s == 1) = false := by simpa using hs
      go_enter Tryz.func84, Tryz.ntmps84
      go_wp2
      go_ret
      exact ⟨rfl, (Out.refl w).alloc _⟩
  rw [if_neg c0]
  by_cases c7 : cls o = 7
  · rw [if_pos c7]
    have CR : Hid (∀ wx, Out w wx → Calls Tryz.prog 126 #[.agg #[.int .i64 o, .int .i64 d, .int .i64 s, .int .i64 f, .int .i64 i]] wx fun e w' => e = .returned (.string ⟨(wReck o f i).toArray⟩) ∧ Out wx w') := fun wx ho => reckonWord_any o d s f i wx h0 (hT.out ho) (hd (.inl c7))
    have hc : bits .and .i64 o 7 = 7 := c7
    clear hd hj hT c0 c7
    go_enter Tryz.func84, Tryz.ntmps84
    go_wp2_with (go_at_call 126; refine (CR.out _ ((Out.refl w).alloc _)).mono ?_; rintro e w1 ⟨rfl, ho1⟩; have Ho1 := hidOf ho1; clear ho1)
    go_ret
    exact ⟨rfl, Out.trans ((Out.refl w).alloc _) Ho1.out⟩
  rw [if_neg c7]
  by_cases c4 : cls o = 4
  · rw [if_pos c4]
    have CR : Hid (∀ wx, Out w wx → Calls Tryz.prog 126 #[.agg #[.int .i64 o, .int .i64 d, .int .i64 s, .int .i64 f, .int .i64 i]] wx fun e w' => e = .returned (.string ⟨(wReck o f i).toArray⟩) ∧ Out wx w') := fun wx ho => reckonWord_any o d s f i wx h0 (hT.out ho) (hd (.inr c4))
    have hc : bits .and .i64 o 7 = 4 := c4
    clear hd hj hT c0 c7 c4
    go_enter Tryz.func84, Tryz.ntmps84
    go_wp2_with (go_at_call 126; refine (CR.out _ ((Out.refl w).alloc _)).mono ?_; rintro e w1 ⟨rfl, ho1⟩; have Ho1 := hidOf ho1; clear ho1)
    go_ret
    exact ⟨rfl, Out.trans ((Out.refl w).alloc _) Ho1.out⟩
  rw [if_neg c4]
  by_cases c5 : cls o = 5
  · rw [if_pos c5]
    have hk14 := hj (.inl c5)
    rw [← hke] at hk14 ⊢
    rw [pick_jump k hk14, if_neg (by decide)]
    have q0 : ∀ O, (w.alloc O).cell? ⟨0, k * 2, none⟩ = some (.string ⟨(jumpA k).toArray⟩) := fun O => cell_later ((Out.refl w).alloc O) (JumpTb.at hT.2.1 k hk14).1
    have hlt : (k : Int) < 14 := by omega
    have hc : bits .and .i64 o 7 = 5 := c5
    generalize jumpA k = RA at *
    clear hd hj hT c0 c7 c4 c5 hke hk14
    go_enter Tryz.func84, Tryz.ntmps84
    go_wp2
    go_ret
    exact ⟨rfl, (Out.refl w).alloc _⟩
  rw [if_neg c5]
  by_cases c6 : cls o = 6
  · rw [if_pos c6]
    have hk14 := hj (.inr c6)
    rw [← hke] at hk14 ⊢
    rw [pick_jump k hk14, if_pos rfl]
    have q0 : ∀ O, (w.alloc O).cell? ⟨0, k * 2 + 1, none⟩ = some (.string ⟨(jumpB k).toArray⟩) := fun O => cell_later ((Out.refl w).alloc O) (JumpTb.at hT.2.1 k hk14).2
    have hlt : (k : Int) < 14 := by omega
    have hc : bits .and .i64 o 7 = 6 := c6
    generalize jumpB k = RA at *
    clear hd hj hT c0 c7 c4 c5 c6 hke hk14
    go_enter Tryz.func84, Tryz.ntmps84
    go_wp2
    go_ret
    exact ⟨rfl, (Out.refl w).alloc _⟩
  rw [if_neg c6]
  have CM : Hid (∀ wx, Out w wx → Calls Tryz.prog 127 #[.agg #[.int .i64 o, .int .i64 d, .int .i64 s, .int .i64 f, .int .i64 i]] wx fun e w' => e = .returned (.string ⟨(wMem o i).toArray⟩) ∧ Out wx w') := fun wx ho => memoryWord_any o d s f i h0 h1 wx (hT.out ho).2.2.1 (hT.out ho).2.2.2.2
  have n0 : (bits .and .i64 o 7 == 0) = false := beq_eq_false_iff_ne.2 c0
  have n7 : (bits .and .i64 o 7 == 7) = false := beq_eq_false_iff_ne.2 c7
  have n4 : (bits .and .i64 o 7 == 4) = false := beq_eq_false_iff_ne.2 c4
  have n5 : (bits .and .i64 o 7 == 5) = false := beq_eq_false_iff_ne.2 c5
  have n6 : (bits .and .i64 o 7 == 6) = false := beq_eq_false_iff_ne.2 c6
  clear hd hj hT c0 c7 c4 c5 c6 hke
  go_enter Tryz.func84, Tryz.ntmps84
  go_wp2_with (go_at_call 127; refine (CM.out _ ((Out.refl w).alloc _)).mono ?_; rintro e w1 ⟨rfl, ho1⟩; have Ho1 := hidOf ho1; clear ho1)
  go_ret
  exact ⟨rfl, Out.trans ((Out.refl w).alloc _) Ho1.out⟩
end Go.Proofs.YtkihaohdcgjioaaGreatDoor
namespace Go.Proofs.YtkihaohdcgjioaaGreatDoor
open Go.RowKit
set_option linter.unusedVariables false
set_option linter.unusedSimpArgs false
def tfitC (c s f i : Int) (t : List UInt8) : Bool :=
  if c = 7 then nameP t && f == 0 && i == 0 else if c = 8 then nameP t && f == 0 else if c = 9 ∧ s = 1 then nameP t && i == -1 else if c = 10 ∧ s = 1 then nameP t && i == 0 else t.isEmpty
theorem tfitC_eq (o s f i : Int) (t : List UInt8) : tfitP o s f i t = tfitC (formP o) s f i t := rfl
set_option maxHeartbeats 1600000 in
theorem targetFits_at (o d s f i c g : Int) (t : List UInt8) (u1 u2 u3 u4 : Bool) (w : World) (ht : t.length ≤ 140737488355328) (CI : Hid (∀ wx : World, Out w wx → Calls Tryz.prog 123 #[.int .i64 o] wx fun e w' => e = .returned (.tuple #[.agg #[.int .i64 c, .int .i64 g, .bool u1, .bool u2, .bool u3, .bool u4], .int .i64 0]) ∧ Out wx w')) : Calls Tryz.prog 83 #[.agg #[.int .i64 o, .int .i64 d, .int .i64 s, .int .i64 f, .int .i64 i], .string ⟨t.toArray⟩] w fun e w' => e = .returned (.bool (tfitC c s f i t)) ∧ Out w w' := by
  have CN : Hid (∀ wx : World, Calls Tryz.prog 125 #[.string ⟨t.toArray⟩] wx fun e w' => e = .returned (.bool (nameP t)) ∧ wx = w') := fun wx => by
    have h := isName_any ⟨t.toArray⟩ wx (by rw [mk_size]; omega)
    rw [mk_list] at h
    exact h
  clear ht
  have W0 : Hid (∀ j, (w.alloc (.cells #[.int .i64 o, .int .i64 d, .int .i64 s, .int .i64 f, .int .i64 i] 58)).cell? ⟨w.heap.size, j, none⟩ = (#[.int .i64 o, .int .i64 d, .int .i64 s, .int .i64 f, .int .i64 i] : Array Value)[j]?) := fun j => new_cell w _ _ j
  unfold tfitC
  generalize nameP t = nt at *
  by_cases c7 : c = 7
  · rw [if_pos c7]
    subst c7
    cases nt <;> cases hf : (f == 0) <;> cases hi : (i == 0)
    all_goals go_enter Tryz.func83, Tryz.ntmps83
    all_goals go_wp2_with (first | (go_at_call 125; refine (CN.out _).mono ?_; rintro e wn ⟨rfl, rfl⟩) | (go_at_call 123; refine (CI.out _ ((Out.refl w).alloc _)).mono ?_; rintro e w1 ⟨rfl, ho1⟩; have Ho1 := hidOf ho1; have q2 : ∀ O, (w1.alloc O).cell? ⟨w.heap.size, 2, none⟩ = some (.int .i64 s) := fun O => cell_later (ho1.alloc O) (W0.out 2); have q3 : ∀ O, (w1.alloc O).cell? ⟨w.heap.size, 3, none⟩ = some (.int .i64 f) := fun O => cell_later (ho1.alloc O) (W0.out 3); have q4 : ∀ O, (w1.alloc O).cell? ⟨w.heap.size, 4, none⟩ = some (.int .i64 i) := fun O => cell_later (ho1.alloc O) (W0.out 4); clear ho1))
    all_goals go_ret
    all_goals exact ⟨rfl, Out.trans ((Out.refl w).alloc _) (Ho1.out.alloc _)⟩
  rw [if_neg c7]
  have n7 : (c == 7) = false := by simpa using c7
  clear c7
  by_cases c8 : c = 8
  · rw [if_pos c8]
    subst c8
    cases nt <;> cases hf : (f == 0)
    all_goals go_enter Tryz.func83, Tryz.ntmps83
    all_goals go_wp2_with (first | (go_at_call 125; refine (CN.out _).mono ?_; rintro e wn ⟨rfl, rfl⟩) | (go_at_call 123; refine (CI.out _ ((Out.refl w).alloc _)).mono ?_; rintro e w1 ⟨rfl, ho1⟩; have Ho1 := hidOf ho1; have q2 : ∀ O, (w1.alloc O).cell? ⟨w.heap.size, 2, none⟩ = some (.int .i64 s) := fun O => cell_later (ho1.alloc O) (W0.out 2); have q3 : ∀ O, (w1.alloc O).cell? ⟨w.heap.size, 3, none⟩ = some (.int .i64 f) := fun O => cell_later (ho1.alloc O) (W0.out 3); have q4 : ∀ O, (w1.alloc O).cell? ⟨w.heap.size, 4, none⟩ = some (.int .i64 i) := fun O => cell_later (ho1.alloc O) (W0.out 4); clear ho1))
    all_goals go_ret
    all_goals exact ⟨rfl, Out.trans ((Out.refl w).alloc _) (Ho1.out.alloc _)⟩
  rw [if_neg c8]
  have n8 : (c == 8) = false := by simpa using c8
  clear c8
  by_cases c9 : c = 9 ∧ s = 1
  · rw [if_pos c9]
    obtain ⟨rfl, rfl⟩ := c9
    cases nt <;> cases hi : (i == -1)
    all_goals go_enter Tryz.func83, Tryz.ntmps83
    all_goals go_wp2_with (first | (go_at_call 125; refine (CN.out _).mono ?_; rintro e wn ⟨rfl, rfl⟩) | (go_at_call 123; refine (CI.out _ ((Out.refl w).alloc _)).mono ?_; rintro e w1 ⟨rfl, ho1⟩; have Ho1 := hidOf ho1; have q2 : ∀ O, (w1.alloc O).cell? ⟨w.heap.size, 2, none⟩ = some (.int .i64 1) := fun O => cell_later (ho1.alloc O) (W0.out 2); have q3 : ∀ O, (w1.alloc O).cell? ⟨w.heap.size, 3, none⟩ = some (.int .i64 f) := fun O => cell_later (ho1.alloc O) (W0.out 3); have q4 : ∀ O, (w1.alloc O).cell? ⟨w.heap.size, 4, none⟩ = some (.int .i64 i) := fun O => cell_later (ho1.alloc O) (W0.out 4); clear ho1))
    all_goals go_ret
    all_goals exact ⟨rfl, Out.trans ((Out.refl w).alloc _) (Ho1.out.alloc _)⟩
  rw [if_neg c9]
  by_cases c10 : c = 10 ∧ s = 1
  · rw [if_pos c10]
    obtain ⟨rfl, rfl⟩ := c10
    clear c9
    cases nt <;> cases hi : (i == 0)
    all_goals go_enter Tryz.func83, Tryz.ntmps83
    all_goals go_wp2_with (first | (go_at_call 125; refine (CN.out _).mono ?_; rintro e wn ⟨rfl, rfl⟩) | (go_at_call 123; refine (CI.out _ ((Out.refl w).alloc _)).mono ?_; rintro e w1 ⟨rfl, ho1⟩; have Ho1 := hidOf ho1; have q2 : ∀ O, (w1.alloc O).cell? ⟨w.heap.size, 2, none⟩ = some (.int .i64 1) := fun O => cell_later (ho1.alloc O) (W0.out 2); have q3 : ∀ O, (w1.alloc O).cell? ⟨w.heap.size, 3, none⟩ = some (.int .i64 f) := fun O => cell_later (ho1.alloc O) (W0.out 3); have q4 : ∀ O, (w1.alloc O).cell? ⟨w.heap.size, 4, none⟩ = some (.int .i64 i) := fun O => cell_later (ho1.alloc O) (W0.out 4); clear ho1))
    all_goals go_ret
    all_goals exact ⟨rfl, Out.trans ((Out.refl w).alloc _) (Ho1.out.alloc _)⟩
  rw [if_neg c10]
  by_cases hs : s = 1
  · have n9 : (c == 9) = false := by simp only [beq_eq_false_iff_ne]; exact fun h => c9 ⟨h, hs⟩
    have n10 : (c == 10) = false := by simp only [beq_eq_false_iff_ne]; exact fun h => c10 ⟨h, hs⟩
    subst hs
    clear c9 c10
    cases he : t.isEmpty
    all_goals go_enter Tryz.func83, Tryz.ntmps83
    all_goals go_wp2_with (first | (go_at_call 125; refine (CN.out _).mono ?_; rintro e wn ⟨rfl, rfl⟩) | (go_at_call 123; refine (CI.out _ ((Out.refl w).alloc _)).mono ?_; rintro e w1 ⟨rfl, ho1⟩; have Ho1 := hidOf ho1; have q2 : ∀ O, (w1.alloc O).cell? ⟨w.heap.size, 2, none⟩ = some (.int .i64 1) := fun O => cell_later (ho1.alloc O) (W0.out 2); have q3 : ∀ O, (w1.alloc O).cell? ⟨w.heap.size, 3, none⟩ = some (.int .i64 f) := fun O => cell_later (ho1.alloc O) (W0.out 3); have q4 : ∀ O, (w1.alloc O).cell? ⟨w.heap.size, 4, none⟩ = some (.int .i64 i) := fun O => cell_later (ho1.alloc O) (W0.out 4); clear ho1))
    all_goals go_ret
    all_goals exact ⟨rfl, Out.trans ((Out.refl w).alloc _) (Ho1.out.alloc _)⟩
  · have n1 : (s == 1) = false := by simpa using hs
    clear c9 c10 hs
    cases he : t.isEmpty <;> cases n9 : (c == 9) <;> cases n10 : (c == 10)
    all_goals try (exfalso; simp only [beq_iff_eq] at n9 n10; omega)
    all_goals go_enter Tryz.func83, Tryz.ntmps83
    all_goals go_wp2_with (first | (go_at_call 125; refine (CN.out _).mono ?_; rintro e wn ⟨rfl, rfl⟩) | (go_at_call 123; refine (CI.out _ ((Out.refl w).alloc _)).mono ?_; rintro e w1 ⟨rfl, ho1⟩; have Ho1 := hidOf ho1; have q2 : ∀ O, (w1.alloc O).cell? ⟨w.heap.size, 2, none⟩ = some (.int .i64 s) := fun O => cell_later (ho1.alloc O) (W0.out 2); have q3 : ∀ O, (w1.alloc O).cell? ⟨w.heap.size, 3, none⟩ = some (.int .i64 f) := fun O => cell_later (ho1.alloc O) (W0.out 3); have q4 : ∀ O, (w1.alloc O).cell? ⟨w.heap.size, 4, none⟩ = some (.int .i64 i) := fun O => cell_later (ho1.alloc O) (W0.out 4); clear ho1))
    all_goals go_ret
    all_goals exact ⟨rfl, Out.trans ((Out.refl w).alloc _) (Ho1.out.alloc _)⟩
theorem targetFits_any (o d s f i : Int) (t : List UInt8) (w : World) (ht : t.length ≤ 140737488355328) (hT : Tabs w) (hf : (formP o == 0) = false) : Calls Tryz.prog 83 #[.agg #[.int .i64 o, .int .i64 d, .int .i64 s, .int .i64 f, .int .i64 i], .string ⟨t.toArray⟩] w fun e w' => e = .returned (.bool (tfitP o s f i t)) ∧ Out w w' := by
  rw [tfitC_eq]
  exact targetFits_at o d s f i (formP o) _ t _ _ _ _ w ht (fun wx ho => info_ok_out o wx (hT.out ho).2 hf)
end Go.Proofs.YtkihaohdcgjioaaGreatDoor
