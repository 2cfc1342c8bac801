import Derived.Test.YtcjhgihpahnnoabGreatDoorGz
import Derived.Test.YtcjhgihpahnnoabGreatDoorHb
namespace Go.Proofs.YtcjhgihpahnnoabGreatDoor
open Go.RowKit
set_option linter.unusedVariables false
set_option linter.unusedSimpArgs false
/-- Parse, in plain words -/
theorem parse_any (w : World) (l : List UInt8) (hE : PEnv w) (hl : l.length ≤ 140737488355328) : Calls Tryz.prog 7 #[.string ⟨l.toArray⟩] w fun e w' => e = .returned (.tuple #[.agg #[.int .i64 (parseP l).o, .int .i64 (parseP l).d, .int .i64 (parseP l).s, .int .i64 (parseP l).f, .int .i64 (parseP l).i], .string ⟨(parseP l).tgt.toArray⟩, .int .i64 (parseP l).e]) ∧ Out w w' := by
  cases hm : meanOf (newR l).tok with
  | none =>
    have hp : parseP l = ⟨0, 0, 0, 0, 0, [], 40⟩ := by unfold parseP; rw [hm]
    rw [hp]
    exact parse_none w l hE hl hm
  | some m =>
    obtain ⟨o, s, f, i⟩ := m
    refine (parse_some w l hE hl o s f i hm).mono fun e w' ⟨he, ho⟩ => ⟨?_, ho⟩
    unfold parseP
    rw [hm]
    simp only
    rcases he with ⟨h1, he⟩ | ⟨h1, h2, he⟩ | ⟨h1, h2, he⟩
    · rw [if_pos h1, he]; rfl
    · rw [if_neg (by rw [h1]; decide), if_pos h2, he]; rfl
    · rw [if_neg (by rw [h1]; decide), if_neg (by rw [h2]; decide), he]
end Go.Proofs.YtcjhgihpahnnoabGreatDoor
namespace Go.Proofs.YtcjhgihpahnnoabGreatDoor
open Go.RowKit
set_option linter.unusedVariables false
set_option linter.unusedSimpArgs false
theorem num_any (w : World) (x : Int) : Calls Tryz.prog 9 #[.int .i64 x] w fun e w' => e = .returned (.int .i64 x) ∧ w' = w := by
  go_enter Tryz.func9, Tryz.ntmps9
  go_wp2
  go_ret
  exact ⟨rfl, rfl⟩
theorem aw_1 : printP 15 1 2 0 0 [] = ([97, 100, 100, 32, 114, 49, 44, 32, 114, 50], 0) := by decide +kernel
theorem itoa_7 : Lib.itoa 7 = [55] := by rw [itoa_pos 7 (by decide), dd_small (by decide)]; rfl
theorem aw_2 : printP 21 1 0 0 7 [120] = ([106, 101, 113, 32, 114, 49, 44, 32, 55, 44, 32, 120], 0) := by
  have h1 : mayP 21 1 0 0 7 = 0 := by decide +kernel
  have h2 : tfitP 21 0 0 7 [120] = true := by decide +kernel
  have h3 : tOf 21 0 0 = (1, 4, 7) := by decide +kernel
  have h4 : wordP 21 0 0 7 = [106, 101, 113] := by decide +kernel
  have h5 : hasSrc 21 = false := by decide +kernel
  unfold printP
  rw [if_pos h1, if_pos h2]
  unfold lineP tailP
  rw [h3, h4]
  have e1 : opdTx 21 1 0 0 7 [120] 1 = [114, 49] := rfl
  have e2 : opdTx 21 1 0 0 7 [120] 4 = [55] := by
    show (if hasSrc 21 then regL (0 : Int).toNat else Lib.itoa 7) = [55]
    rw [h5, itoa_7]
    rfl
  have e3 : opdTx 21 1 0 0 7 [120] 7 = [120] := rfl
  simp only
  rw [e1, e2, e3]
  rfl
theorem aw_3 : parseP [109, 111, 118, 32, 114, 49, 32, 44, 48, 120, 70, 70, 70, 70, 70, 70, 70, 70, 32] = ⟨183, 1, 0, 0, -1, [], 0⟩ := by
  have h : ∀ p : PR, (p.o == 183 && p.d == 1 && p.s == 0 && p.f == 0 && p.i == -1 && p.tgt == [] && p.e == 0) = true → p = ⟨183, 1, 0, 0, -1, [], 0⟩ := by
    rintro ⟨o, d, s, f, i, t, e⟩ h
    simp only [Bool.and_eq_true, beq_iff_eq] at h
    obtain ⟨⟨⟨⟨⟨⟨rfl, rfl⟩, rfl⟩, rfl⟩, rfl⟩, rfl⟩, rfl⟩ := h
    rfl
  exact h _ (by decide +kernel)
theorem aw_4 : parseP [109, 111, 118, 113, 32, 114, 49, 44, 32, 114, 50] = ⟨0, 0, 0, 0, 0, [], 40⟩ := by
  have h : meanOf (newR [109, 111, 118, 113, 32, 114, 49, 44, 32, 114, 50]).tok = none := by decide +kernel
  unfold parseP
  rw [h]
set_option maxRecDepth 20000 in
set_option maxHeartbeats 1600000 in
theorem awake_any (w : World) (hE : AEnv w) : Calls Tryz.prog 5 #[] w fun e w' => e = .returned (.bool true) ∧ Out w w' := by
  have C1 : Hid (∀ wx, Out w wx → Calls Tryz.prog 8 #[.agg #[.int .i64 15, .int .i64 1, .int .i64 2, .int .i64 0, .int .i64 0], .string ⟨#[]⟩] wx fun e w' => e = .returned (.tuple #[.string ⟨#[97, 100, 100, 32, 114, 49, 44, 32, 114, 50]⟩, .int .i64 0]) ∧ Out wx w') := fun wx ho => by
    have := print_any 15 1 2 0 0 [] wx (hE.out ho) (by decide) ⟨by decide, by decide⟩ ⟨by decide, by decide⟩
    rw [aw_1] at this
    exact this
  have C2 : Hid (∀ wx, Out w wx → Calls Tryz.prog 8 #[.agg #[.int .i64 21, .int .i64 1, .int .i64 0, .int .i64 0, .int .i64 7], .string ⟨#[120]⟩] wx fun e w' => e = .returned (.tuple #[.string ⟨#[106, 101, 113, 32, 114, 49, 44, 32, 55, 44, 32, 120]⟩, .int .i64 0]) ∧ Out wx w') := fun wx ho => by
    have := print_any 21 1 0 0 7 [120] wx (hE.out ho) (by decide) ⟨by decide, by decide⟩ ⟨by decide, by decide⟩
    rw [aw_2] at this
    exact this
  have C3 : Hid (∀ wx, Out w wx → Calls Tryz.prog 7 #[.string ⟨#[109, 111, 118, 32, 114, 49, 32, 44, 48, 120, 70, 70, 70, 70, 70, 70, 70, 70, 32]⟩] wx fun e w' => e = .returned (.tuple #[.agg #[.int .i64 183, .int .i64 1, .int .i64 0, .int .i64 0, .int .i64 (-1)], .string ⟨#[]⟩, .int .i64 0]) ∧ Out wx w') := fun wx ho => by
    have := parse_any wx [109, 111, 118, 32, 114, 49, 32, 44, 48, 120, 70, 70, 70, 70, 70, 70, 70, 70, 32] (hE.out ho).1 (by decide)
    rw [aw_3] at this
    exact this
  have C4 : Hid (∀ wx, Out w wx → Calls Tryz.prog 7 #[.string ⟨#[109, 111, 118, 113, 32, 114, 49, 44, 32, 114, 50]⟩] wx fun e w' => e = .returned (.tuple #[.agg #[.int .i64 0, .int .i64 0, .int .i64 0, .int .i64 0, .int .i64 0], .string ⟨#[]⟩, .int .i64 40]) ∧ Out wx w') := fun wx ho => by
    have := parse_any wx [109, 111, 118, 113, 32, 114, 49, 44, 32, 114, 50] (hE.out ho).1 (by decide)
    rw [aw_4] at this
    exact this
  clear hE
  go_enter Tryz.func5, Tryz.ntmps5
  go_wp2_with (go_at_call 8; refine (C1.out w (Out.refl w)).mono ?_; rintro e w1 ⟨rfl, ho⟩; have H1 := hidOf ho; clear ho C1)
  go_wp2_with (go_at_call 8; refine (C2.out w1 H1.out).mono ?_; rintro e w2 ⟨rfl, ho⟩; have H2 := hidOf (Out.trans H1.out ho); clear ho C2)
  go_wp2_with (go_at_call 7; refine (C3.out w2 H2.out).mono ?_; rintro e w3 ⟨rfl, ho⟩; have H3 := hidOf (Out.trans H2.out ho); clear ho C3)
  go_wp2_with (go_at_call 7; refine (C4.out _ (H3.out.alloc _)).mono ?_; rintro e w4 ⟨rfl, ho⟩; have H4 := hidOf (Out.trans (H3.out.alloc _) ho); have bx : Hid (∀ O, Bx w3.heap.size 183 1 0 0 (-1) (w4.alloc O)) := hidOf (fun O => (Bx.new w3 183 1 0 0 (-1)).out (ho.alloc O)); have b0 := fun O => (bx.out O).1; have b1 := fun O => (bx.out O).2.1; have b2 := fun O => (bx.out O).2.2.1; have b3 := fun O => (bx.out O).2.2.2.1; have b4 := fun O => (bx.out O).2.2.2.2; clear ho C4)
  go_wp2_with (go_at_call 9; refine (num_any _ _).mono ?_; rintro e wn ⟨rfl, rfl⟩)
  go_ret
  exact ⟨rfl, H4.out.alloc _⟩
end Go.Proofs.YtcjhgihpahnnoabGreatDoor
namespace Go.Proofs.YtcjhgihpahnnoabGreatDoor
open Go.RowKit
set_option linter.unusedVariables false
set_option linter.unusedSimpArgs false
theorem off_i64 (o d s f i : Int) (h : mayP o d s f i = 0) : I64 f := by
  have h3 := (may_parts o d s f i h).2.2.2.1
  unfold offP at h3
  unfold I64
  split at h3
  · simp only [Bool.and_eq_true, decide_eq_true_eq] at h3; omega
  · split at h3
    · rename_i hz; simp only [beq_iff_eq] at hz; omega
    · split at h3
      · have := variant_in h3
        simp only [List.mem_cons, List.not_mem_nil, or_false] at this
        omega
      · cases h3
theorem tail_len (t : Int × Int × Int) (x : Int → List UInt8) (h : ∀ c, c = t.1 ∨ c = t.2.1 ∨ c = t.2.2 → ¬ c = 0 → (x c).length ≤ 1000) : (tailP t x).length ≤ 3010 := by
  unfold tailP
  split
  · simp
  rename_i h1
  have l1 := h t.1 (.inl rfl) h1
  split
  · simp; omega
  rename_i h2
  have l2 := h t.2.1 (.inr (.inl rfl)) h2
  split
  · simp; omega
  rename_i h3
  have l3 := h t.2.2 (.inr (.inr rfl)) h3
  simp; omega
theorem line_len (o d s f i : Int) (t : List UInt8) (hf : I64 f) (hi : I64 i) (hm : mayP o d s f i = 0) (ht : tfitP o s f i t = true) : (lineP o d s f i t).length ≤ 140737488355328 := by
  have hrng : (1 ≤ (tOf o s f).1 ∧ (tOf o s f).1 ≤ 8 ∨ (tOf o s f).1 = 0) ∧ (1 ≤ (tOf o s f).2.1 ∧ (tOf o s f).2.1 ≤ 8 ∨ (tOf o s f).2.1 = 0) ∧ (1 ≤ (tOf o s f).2.2 ∧ (tOf o s f).2.2 ≤ 8 ∨ (tOf o s f).2.2 = 0) := opds_rng _ _ _ _
  have h1 := wordP_len o s f i
  have h2 := tail_len (tOf o s f) (opdTx o d s f i t) (fun c hc hn => opdTx_len o d s f i c t hf hi (fun _ => tgt_len o d s f i t hm ht) (by rcases hc with hc | hc | hc <;> omega))
  unfold lineP
  rw [List.length_append]
  omega
end Go.Proofs.YtcjhgihpahnnoabGreatDoor
