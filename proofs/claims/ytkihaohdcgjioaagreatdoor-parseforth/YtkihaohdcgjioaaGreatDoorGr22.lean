import Derived.Test.YtkihaohdcgjioaaGreatDoorGr21
namespace Go.Proofs.YtkihaohdcgjioaaGreatDoor
open Go.RowKit
set_option linter.unusedVariables false
set_option linter.unusedSimpArgs false
theorem chk_any (B b : Nat) (bs : List Value) (w : World) (h : Lib.IsBuilder 77 5 B b bs w) : Calls Tryz.prog 89 #[.pointer (some ⟨b, 0, none⟩)] w fun e w' => e = .returned (.tuple #[]) ∧ Lib.BuilderAt 77 5 B b (.pointer (some ⟨b, 0, none⟩)) bs w' ∧ Below B w w' := by
  rcases h with h | h
  · exact (chk_new b w h.cell0 h.shape h.frozen0).mono fun e w' ⟨he, hw⟩ => ⟨he, hw ▸ h.used _, hw ▸ (Below.refl B w).setCell (p := ⟨b, 0, none⟩) h.1 _⟩
  · exact (chk_used b w h.cell0).mono fun e w' ⟨he, hw⟩ => ⟨he, hw ▸ h, hw ▸ Below.refl B _⟩
set_option maxRecDepth 100000 in
set_option maxHeartbeats 2000000 in
theorem write_any (B b : Nat) (bs : List Value) (s : ByteArray) (w : World) (h : Lib.IsBuilder 77 5 B b bs w) (hlen : bs.length + s.size ≤ 140737488355328) (hBw : B ≤ w.heap.size) :
    Calls Tryz.prog 58 #[.pointer (some ⟨b, 0, none⟩), .string s] w fun e w' => (∃ v, e = .returned v) ∧ Lib.IsBuilder 77 5 B b (bs ++ Lib.strCells s) w' ∧ Below B w w' := by
  obtain ⟨i0, hi, hz0, hz1, hz2⟩ := info_parts (show (Tryz.prog.info? 5).map (fun i => (i.zero, i.size, i.bytes)) = some (some (.int .u8 0), 1, 1) from Tryz.Builder_Extra_169.infoByte)
  have CK := hidOf (chk_any B b bs w h)
  clear h
  go_enter Tryz.func58, Tryz.ntmps58
  go_wp2_with (go_at_call 89; refine CK.out.mono ?_)
  rintro e w1 ⟨rfl, ⟨hB, v, hbk, hown, hne⟩, hb1⟩
  have hsz := hb1.size
  have c0 : w1.cell? ⟨b, 0, none⟩ = some (.pointer (some ⟨b, 0, none⟩)) := by rw [Lib.cell_of_heap hbk]; rfl
  have c1 : w1.cell? ⟨b, 1, none⟩ = some v := by rw [Lib.cell_of_heap hbk]; rfl
  have hlt : b < w1.heap.size := (Array.getElem?_eq_some_iff.1 hbk).1
  go_wp2_with (at_builtin; refine Lib.wpList_append_own_string _ rfl _ _ 24 9 rfl B 5 i0 Tryz.underlying24 Tryz.underlying9 hi hz0 hz1 hz2 _ _ _ rfl hown s rfl (by unfold maxLen; omega) (by omega) (by omega) ?_)
  intro v' w2 hown' hgrow _
  have hb2 : w2.heap[b]? = some (.cells #[.pointer (some ⟨b, 0, none⟩), v] 77 (0, 0)) := (hgrow.block b hlt (fun e => hne e.symm)).trans hbk
  have d0 : w2.cell? ⟨b, 0, none⟩ = some (.pointer (some ⟨b, 0, none⟩)) := by rw [Lib.cell_of_heap hb2]; rfl
  have d1 : w2.cell? ⟨b, 1, none⟩ = some v := by rw [Lib.cell_of_heap hb2]; rfl
  have f1 : w2.frozen? ⟨b, 1, none⟩ = false := Lib.frozen_of_heap hb2 1
  have HW := hidOf ((hb1.grown hgrow (by omega) (fun k hk => (hown.lt k hk).1)).setCell (p := ⟨b, 1, none⟩) hB v')
  obtain ⟨ao, n', cap, rfl⟩ : ∃ ao n' cap, v' = .slice ao n' cap := by
    rcases hown'.2 with ⟨hv, _⟩ | ⟨g, cap, cur, hv, _⟩
    · exact ⟨_, _, _, hv⟩
    · exact ⟨_, _, _, hv⟩
  have HB : Hid (Lib.IsBuilder 77 5 B b (bs ++ Lib.strCells s) (w2.setCell ⟨b, 1, none⟩ (.slice ao n' cap))) := .inr (Lib.BuilderAt.put (T := 77) (e := 5) hB hb2 (bs' := bs ++ Lib.strCells s) (by rw [List.length_append, Lib.strCells_length]; exact hown') (by decide))
  clear hown' hgrow hb2 hbk hown hne hb1 c0 c1
  go_wp2
  go_ret2
  exact ⟨⟨_, rfl⟩, HB.out, HW.out⟩
end Go.Proofs.YtkihaohdcgjioaaGreatDoor
namespace Go.Proofs.YtkihaohdcgjioaaGreatDoor
open Go.RowKit Go.Shelf
set_option linter.unusedVariables false
set_option linter.unusedSimpArgs false
theorem pR : ∀ k, k ≤ 13 → mnR k <+: mnAll := fun k hk => (show ∀ k : Fin 14, mnR k.val <+: mnAll by decide +kernel) ⟨k, by omega⟩
theorem pJ : ∀ k, k ≤ 14 → mnJ k <+: mnAll := fun k hk => (show ∀ k : Fin 15, mnJ k.val <+: mnAll by decide +kernel) ⟨k, by omega⟩
theorem pM : ∀ k j, k < 4 → j ≤ 4 → mnM k j <+: mnAll := fun k j hk hj => (show ∀ k : Fin 4, ∀ j : Fin 5, mnM k.val j.val <+: mnAll by decide +kernel) ⟨k, by omega⟩ ⟨j, by omega⟩
theorem pO : ∀ k, k ≤ 9 → mnO k <+: mnAll := fun k hk => (show ∀ k : Fin 10, mnO k.val <+: mnAll by decide +kernel) ⟨k, by omega⟩
theorem pI : ∀ k, k ≤ 29 → mnI k <+: mnAll := fun k hk => (show ∀ k : Fin 30, mnI k.val <+: mnAll by decide +kernel) ⟨k, by omega⟩
theorem mnAll_len : mnAll.length < 111 := by decide +kernel
theorem live_mean : ∀ x ∈ live mnAll, meanOf x.1 = some x.2 := by decide +kernel
theorem live_none (t : List UInt8) (h : ∀ x ∈ live mnAll, x.1 ≠ t) : meanOf t = none := by
  unfold meanOf
  by_cases ht : t = []
  · rw [if_pos ht]
  · rw [if_neg ht]
    unfold lastAt
    rw [Option.map_eq_none_iff, List.find?_eq_none]
    intro x hx e
    have he : x.1 = t := eq_of_beq e
    refine h x (List.mem_filter.2 ⟨List.mem_reverse.1 hx, ?_⟩) he
    rw [he]
    cases t with
    | nil => exact absurd rfl ht
    | cons a b => rfl
theorem each_seq (F : Fence) (hd : F.depth = none) (hro : F.round = none) (h66 : F.fn 221) (h105 : F.fn 240) (n : Nat) (w0 : World) (hT : WTabs w0) :
    SeqStopsK F n Tryz.prog 221 #[] encM KC (fun ys => ys = live mnAll) (fun pre => pre <+: live mnAll) 111 w0 := fun l J Jx W hW hJ hJx hY h0 => by
  have hT := hT.out hW
  exact each_in F hd hro h66 h105 n l 111 mnAll_len J Jx W hJ hJx (fun m pre x W1 h1 hl => yield_any hd m (hY pre x W1 h1 hl)) h0
    reckCs hT.1 (show (Tryz.prog.info? 206).map (·.size) = some reckCs.length by kernel_rfl) reckA reckB (fun k hk w => reck_idx k (by omega) w) (fun k hk => by rw [mnR_step, reck_ent k hk, List.append_assoc]; rfl) pR
    jumpCs hT.2.1 (show (Tryz.prog.info? 173).map (·.size) = some jumpCs.length by kernel_rfl) jumpA jumpB (fun k hk w => jump_idx k (by omega) w) (fun k hk => by rw [mnJ_step, jump_ent k hk, List.append_assoc]; rfl) pJ
    memCs hT.2.2.1 (show (Tryz.prog.info? 209).map (·.size) = some memCs.length by kernel_rfl) memA memW (fun k hk w => mem_idx k (by omega) w) (fun k j hj w => idx4s (fun j => .string ⟨(memW k j).toArray⟩) j (by omega) w)
    (fun k j hk hj => (mem_all ⟨k, hk⟩ ⟨j, hj⟩).2.2.1) (fun k j hk hj => by rw [mnM_step, (mem_all ⟨k, hk⟩ ⟨j, hj⟩).1]) pM
    offCs hT.2.2.2.1 (show (Tryz.prog.info? 243).map (·.size) = some offCs.length by kernel_rfl) offA offB offS3 (fun k hk w => off_idx k (by omega) w) (fun k hk => by rw [mnO_step, off_ent k hk]) pO
    immCs hT.2.2.2.2 (show (Tryz.prog.info? 245).map (·.size) = some immCs.length by kernel_rfl) immA immB immS3 (fun k hk w => imm_idx k (by omega) w) (fun k hk => by rw [mnI_step, imm_ent k hk]) pI
theorem meaning_any (w : World) (t : List UInt8) (hT : WTabs w) : Calls Tryz.prog 176 #[.string ⟨t.toArray⟩] w fun e w' => e = .returned (.tuple #[mnV ((meanOf t).getD (0, 0, 0, 0)), .bool (meanOf t).isSome]) ∧ Out w w' := by
  refine (callsIn_wide (n := 5)).1 ?_
  refine (meaning_in Fence.wide rfl rfl trivial trivial trivial 5 111 (by omega) w t (fun w0 hB => each_seq Fence.wide rfl rfl trivial trivial 4 w0 (hT.out hB))).mono ?_
  rintro e W' ⟨⟨x, hx, rfl, rfl⟩ | ⟨hn, rfl⟩, hB⟩
  · rw [live_mean x hx]; exact ⟨rfl, hB⟩
  · rw [live_none t hn]; exact ⟨rfl, hB⟩
end Go.Proofs.YtkihaohdcgjioaaGreatDoor
namespace Go.Proofs.YtkihaohdcgjioaaGreatDoor
open Go.RowKit
set_option linter.unusedVariables false
set_option linter.unusedSimpArgs false
def tfitC (c s f i : Int) (t : List UInt8) : Bool :=
  if c = 7 then nameP t && f == 0 && i == 0 else if c = 8 then nameP t && f == 0 else if c = 9 ∧ s = 1 then nameP t && i == -1 else if c = 10 ∧ s = 1 then nameP t && i == 0 else t.isEmpty
theorem tfitC_eq (o s f i : Int) (t : List UInt8) : tfitP o s f i t = tfitC (formP o) s f i t := rfl
set_option maxHeartbeats 1600000 in
theorem targetFits_at (o d s f i c g : Int) (t : List UInt8) (u1 u2 u3 u4 : Bool) (w : World) (ht : t.length ≤ 140737488355328) (CI : Hid (∀ wx : World, Out w wx → Calls Tryz.prog 123 #[.int .i64 o] wx fun e w' => e = .returned (.tuple #[.agg #[.int .i64 c, .int .i64 g, .bool u1, .bool u2, .bool u3, .bool u4], .int .i64 0]) ∧ Out wx w')) : Calls Tryz.prog 83 #[.agg #[.int .i64 o, .int .i64 d, .int .i64 s, .int .i64 f, .int .i64 i], .string ⟨t.toArray⟩] w fun e w' => e = .returned (.bool (tfitC c s f i t)) ∧ Out w w' := by
  have CN : Hid (∀ wx : World, Calls Tryz.prog 125 #[.string ⟨t.toArray⟩] wx fun e w' => e = .returned (.bool (nameP t)) ∧ wx = w') := fun wx => by
    have h := isName_any ⟨t.toArray⟩ wx (by rw [mk_size]; omega)
    rw [mk_list] at h
    exact h
  clear ht
  have W0 : Hid (∀ j, (w.alloc (.cells #[.int .i64 o, .int .i64 d, .int .i64 s, .int .i64 f, .int .i64 i] 58)).cell? ⟨w.heap.size, j, none⟩ = (#[.int .i64 o, .int .i64 d, .int .i64 s, .int .i64 f, .int .i64 i] : Array Value)[j]?) := fun j => new_cell w _ _ j
  unfold tfitC
  generalize nameP t = nt at *
  by_cases c7 : c = 7
  · rw [if_pos c7]
    subst c7
    cases nt <;> cases hf : (f == 0) <;> cases hi : (i == 0)
    all_goals go_enter Tryz.func83, Tryz.ntmps83
    all_goals go_wp2_with (first | (go_at_call 125; refine (CN.out _).mono ?_; rintro e wn ⟨rfl, rfl⟩) | (go_at_call 123; refine (CI.out _ ((Out.refl w).alloc _)).mono ?_; rintro e w1 ⟨rfl, ho1⟩; have Ho1 := hidOf ho1; have q2 : ∀ O, (w1.alloc O).cell? ⟨w.heap.size, 2, none⟩ = some (.int .i64 s) := fun O => cell_later (ho1.alloc O) (W0.out 2); have q3 : ∀ O, (w1.alloc O).cell? ⟨w.heap.size, 3, none⟩ = some (.int .i64 f) := fun O => cell_later (ho1.alloc O) (W0.out 3); have q4 : ∀ O, (w1.alloc O).cell? ⟨w.heap.size, 4, none⟩ = some (.int .i64 i) := fun O => cell_later (ho1.alloc O) (W0.out 4); clear ho1))
    all_goals go_ret
    all_goals exact ⟨rfl, Out.trans ((Out.refl w).alloc _) (Ho1.out.alloc _)⟩
  rw [if_neg c7]
  have n7 : (c == 7) = false := by simpa using c7
  clear c7
  by_cases c8 : c = 8
  · rw [if_pos c8]
    subst c8
    cases nt <;> cases hf : (f == 0)
    all_goals go_enter Tryz.func83, Tryz.ntmps83
    all_goals go_wp2_with (first | (go_at_call 125; refine (CN.out _).mono ?_; rintro e wn ⟨rfl, rfl⟩) | (go_at_call 123; refine (CI.out _ ((Out.refl w).alloc _)).mono ?_; rintro e w1 ⟨rfl, ho1⟩; have Ho1 := hidOf ho1; have q2 : ∀ O, (w1.alloc O).cell? ⟨w.heap.size, 2, none⟩ = some (.int .i64 s) := fun O => cell_later (ho1.alloc O) (W0.out 2); have q3 : ∀ O, (w1.alloc O).cell? ⟨w.heap.size, 3, none⟩ = some (.int .i64 f) := fun O => cell_later (ho1.alloc O) (W0.out 3); have q4 : ∀ O, (w1.alloc O).cell? ⟨w.heap.size, 4, none⟩ = some (.int .i64 i) := fun O => cell_later (ho1.alloc O) (W0.out 4); clear ho1))
    all_goals go_ret
    all_goals exact ⟨rfl, Out.trans ((Out.refl w).alloc _) (Ho1.out.alloc _)⟩
  rw [if_neg c8]
  have n8 : (c == 8) = false := by simpa using c8
  clear c8
  by_cases c9 : c = 9 ∧ s = 1
  · rw [if_pos c9]
    obtain ⟨rfl, rfl⟩ := c9
    cases nt <;> cases hi : (i == -1)
    all_goals go_enter Tryz.func83, Tryz.ntmps83
    all_goals go_wp2_with (first | (go_at_call 125; refine (CN.out _).mono ?_; rintro e wn ⟨rfl, rfl⟩) | (go_at_call 123; refine (CI.out _ ((Out.refl w).alloc _)).mono ?_; rintro e w1 ⟨rfl, ho1⟩; have Ho1 := hidOf ho1; have q2 : ∀ O, (w1.alloc O).cell? ⟨w.heap.size, 2, none⟩ = some (.int .i64 1) := fun O => cell_later (ho1.alloc O) (W0.out 2); have q3 : ∀ O, (w1.alloc O).cell? ⟨w.heap.size, 3, none⟩ = some (.int .i64 f) := fun O => cell_later (ho1.alloc O) (W0.out 3); have q4 : ∀ O, (w1.alloc O).cell? ⟨w.heap.size, 4, none⟩ = some (.int .i64 i) := fun O => cell_later (ho1.alloc O) (W0.out 4); clear ho1))
    all_goals go_ret
    all_goals exact ⟨rfl, Out.trans ((Out.refl w).alloc _) (Ho1.out.alloc _)⟩
  rw [if_neg c9]
  by_cases c10 : c = 10 ∧ s = 1
  · rw [if_pos c10]
    obtain ⟨rfl, rfl⟩ := c10
    clear c9
    cases nt <;> cases hi : (i == 0)
    all_goals go_enter Tryz.func83, Tryz.ntmps83
    all_goals go_wp2_with (first | (go_at_call 125; refine (CN.out _).mono ?_; rintro e wn ⟨rfl, rfl⟩) | (go_at_call 123; refine (CI.out _ ((Out.refl w).alloc _)).mono ?_; rintro e w1 ⟨rfl, ho1⟩; have Ho1 := hidOf ho1; have q2 : ∀ O, (w1.alloc O).cell? ⟨w.heap.size, 2, none⟩ = some (.int .i64 1) := fun O => cell_later (ho1.alloc O) (W0.out 2); have q3 : ∀ O, (w1.alloc O).cell? ⟨w.heap.size, 3, none⟩ = some (.int .i64 f) := fun O => cell_later (ho1.alloc O) (W0.out 3); have q4 : ∀ O, (w1.alloc O).cell? ⟨w.heap.size, 4, none⟩ = some (.int .i64 i) := fun O => cell_later (ho1.alloc O) (W0.out 4); clear ho1))
    all_goals go_ret
    all_goals exact ⟨rfl, Out.trans ((Out.refl w).alloc _) (Ho1.out.alloc _)⟩
  rw [if_neg c10]
  by_cases hs : s = 1
  · have n9 : (c == 9) = false := by simp only [beq_eq_false_iff_ne]; exact fun h => c9 ⟨h, hs⟩
    have n10 : (c == 10) = false := by simp only [beq_eq_false_iff_ne]; exact fun h => c10 ⟨h, hs⟩
    subst hs
    clear c9 c10
    cases he : t.isEmpty
    all_goals go_enter Tryz.func83, Tryz.ntmps83
    all_goals go_wp2_with (first | (go_at_call 125; refine (CN.out _).mono ?_; rintro e wn ⟨rfl, rfl⟩) | (go_at_call 123; refine (CI.out _ ((Out.refl w).alloc _)).mono ?_; rintro e w1 ⟨rfl, ho1⟩; have Ho1 := hidOf ho1; have q2 : ∀ O, (w1.alloc O).cell? ⟨w.heap.size, 2, none⟩ = some (.int .i64 1) := fun O => cell_later (ho1.alloc O) (W0.out 2); have q3 : ∀ O, (w1.alloc O).cell? ⟨w.heap.size, 3, none⟩ = some (.int .i64 f) := fun O => cell_later (ho1.alloc O) (W0.out 3); have q4 : ∀ O, (w1.alloc O).cell? ⟨w.heap.size, 4, none⟩ = some (.int .i64 i) := fun O => cell_later (ho1.alloc O) (W0.out 4); clear ho1))
    all_goals go_ret
    all_goals exact ⟨rfl, Out.trans ((Out.refl w).alloc _) (Ho1.out.alloc _)⟩
  · have n1 : (s == 1) = false := by simpa using hs
    clear c9 c10 hs
    cases he : t.isEmpty <;> cases n9 : (c == 9) <;> cases n10 : (c == 10)
    all_goals try (exfalso; simp only [beq_iff_eq] at n9 n10; omega)
    all_goals go_enter Tryz.func83, Tryz.ntmps83
    all_goals go_wp2_with (first | (go_at_call 125; refine (CN.out _).mono ?_; rintro e wn ⟨rfl, rfl⟩) | (go_at_call 123; refine (CI.out _ ((Out.refl w).alloc _)).mono ?_; rintro e w1 ⟨rfl, ho1⟩; have Ho1 := hidOf ho1; have q2 : ∀ O, (w1.alloc O).cell? ⟨w.heap.size, 2, none⟩ = some (.int .i64 s) := fun O => cell_later (ho1.alloc O) (W0.out 2); have q3 : ∀ O, (w1.alloc O).cell? ⟨w.heap.size, 3, none⟩ = some (.int .i64 f) := fun O => cell_later (ho1.alloc O) (W0.out 3); have q4 : ∀ O, (w1.alloc O).cell? ⟨w.heap.size, 4, none⟩ = some (.int .i64 i) := fun O => cell_later (ho1.alloc O) (W0.out 4); clear ho1))
    all_goals go_ret
    all_goals exact ⟨rfl, Out.trans ((Out.refl w).alloc _) (Ho1.out.alloc _)⟩
theorem targetFits_any (o d s f i : Int) (t : List UInt8) (w : World) (ht : t.length ≤ 140737488355328) (hT : Tabs w) (hf : (formP o == 0) = false) : Calls Tryz.prog 83 #[.agg #[.int .i64 o, .int .i64 d, .int .i64 s, .int .i64 f, .int .i64 i], .string ⟨t.toArray⟩] w fun e w' => e = .returned (.bool (tfitP o s f i t)) ∧ Out w w' := by
  rw [tfitC_eq]
  exact targetFits_at o d s f i (formP o) _ t _ _ _ _ w ht (fun wx ho => info_ok_out o wx (hT.out ho).2 hf)
end Go.Proofs.YtkihaohdcgjioaaGreatDoor
