import Derived.Test.YtcomhlimgocoaaaGreatDoorGh01
import Derived.Test.YtcomhlimgocoaaaGreatDoorGc39
import Derived.Test.YtcomhlimgocoaaaGreatDoorGc42
import Derived.Test.YtcomhlimgocoaaaGreatDoorGc47
import Derived.Test.YtcomhlimgocoaaaGreatDoorGc30
import Derived.Test.YtcomhlimgocoaaaGreatDoorGc20
import Derived.Test.YtcomhlimgocoaaaGreatDoorGc15
import Derived.Test.YtcomhlimgocoaaaGreatDoorGc52
import Derived.Test.YtcomhlimgocoaaaGreatDoorGc37
import Derived.LaidMore
import Derived.Deep.Slices
import Derived.ChangeSlices
import Derived.SliceStrings
namespace Go.Proofs.YtcomhlimgocoaaaGreatDoor
open Go.RowKit
set_option linter.unusedVariables false
set_option linter.unusedSimpArgs false
set_option maxRecDepth 20000 in
set_option maxHeartbeats 4000000 in
theorem sums4w_any (w0 w : World) (pb : Nat) (o : Int) (W0 : List UInt8) (hW0 : 0 < W0.length) (hW1 : W0.length ≤ 140737488355328) (h : Pk w0 w pb (Pw W0 []) o W0) : Calls Tryz.prog 70 #[.pointer (some ⟨pb, 0, none⟩)] w fun e w' => (∃ q, e = .returned q) ∧ Pk w0 w' pb (Pw W0 (rwA ++ rwB ++ rwC)) o W0 := by
  have H := hidOf h
  clear h
  go_enter Tryz.func70, Tryz.ntmps70
  go_upto_region 2 with fail
  obtain ⟨q1, hq1⟩ : ∃ q1, q1 = w.heap.size := ⟨_, rfl⟩
  obtain ⟨q2, hq2⟩ : ∃ q2, q2 = w.heap.size + 1 := ⟨_, rfl⟩
  obtain ⟨qw, hqw⟩ : ∃ qw, qw = (w.alloc (.cells sWC 153)).alloc (.cells sCC 154) := ⟨_, rfl⟩
  have hsq : (w.alloc (.cells sWC 153)).heap.size = w.heap.size + 1 := size_alloc _ _
  have bq1 : qw.heap[q1]? = some (.cells sWC 153 (0, 0)) := by
    rw [hqw, hq1]
    exact blk_out ((Out.refl _).alloc _) (heap_alloc_new w _)
  have bq2 : qw.heap[q2]? = some (.cells sCC 154 (0, 0)) := by
    rw [hqw, hq2, ← hsq]
    exact heap_alloc_new (w.alloc (.cells sWC 153)) _
  have oq : Out w qw := by rw [hqw]; exact ((Out.refl w).alloc _).alloc _
  change Code.wp _ _ _ _ ((w.alloc (.cells sWC 153)).alloc (.cells sCC 154))
  rw [← hqw, ← hq2, ← hq1]
  have Bq1 := hidOf bq1
  have Bq2 := hidOf bq2
  have Oq := hidOf oq
  clear hqw hq1 hq2 hsq bq1 bq2 oq
  have H0 : Hid (Pk w0 qw pb (Pw W0 (rwA.take (2 * 0))) o W0) := hidOf (H.out.on Oq.out)
  clear H Oq
  go_wp2
  go_loopw [4] (fun iv wr => ∃ i : Nat, iv = .int .i64 i ∧ i ≤ 12 ∧ Hid (Pk w0 wr pb (Pw W0 (rwA.take (2 * i))) o W0) ∧ Hid (wr.heap[q1]? = some (.cells sWC 153 (0, 0))) ∧ Hid (wr.heap[q2]? = some (.cells sCC 154 (0, 0)))) (fun iv _ => 12 - (intOf iv).toNat)
  case atStart => exact ⟨0, rfl, by omega, H0, Bq1, Bq2⟩
  case round =>
    clear H0 Bq1 Bq2
    obtain ⟨i, rfl, hi, HP, B1, B2⟩ := hrel
    by_cases hin : i < 12
    · have hiI : (i : Int) < 12 := by omega
      have hi0 : (0 : Int) ≤ i := by omega
      have c1 : wr.cell? ⟨q1, i, none⟩ = some (.string ⟨(sW i).toArray⟩) := by rw [cell_atL B1.out]; exact sW_at i hin
      have c2 : wr.cell? ⟨q2, i, none⟩ = some (.int .i64 (sC i)) := by rw [cell_atL B2.out]; exact sC_at i hin
      have hl1 := sW_len i hin
      have hb2 := sC_bd i hin
      obtain ⟨A, hA⟩ : ∃ A, A = sW i := ⟨_, rfl⟩
      obtain ⟨cd, hcd⟩ : ∃ cd, cd = sC i := ⟨_, rfl⟩
      have HS := hidOf (sA i hin)
      rw [← hA, ← hcd] at HS
      rw [← hA] at c1 hl1
      rw [← hcd] at c2 hb2
      have CB : Hid (∀ wx, Pk w0 wx pb (Pw W0 (rwA.take (2 * i))) o W0 → Calls Tryz.prog 117 #[.pointer (some ⟨pb, 0, none⟩), .string ⟨A.toArray⟩, .int .i64 1, .int .i64 cd, .int .i64 0] wx fun e w' => (∃ q, e = .returned q) ∧ Pk w0 w' pb (Pw W0 (rwA.take (2 * i) ++ bothL A 1 cd 0)) o W0 ∧ FrK wx w') := hidOf (fun wx hx => both4w_any w0 wx pb _ o W0 hW0 hW1 hx (by have : (rwA.take (2 * i)).length ≤ 24 := Nat.le_trans (List.length_take_le' _ _) (by decide); omega) A hl1.1 hl1.2 1 cd 0 hb2.1 hb2.2)
      clear hA hcd hl1 hb2
      go_upto_region 5 with fail
      go_region_held3 (fun w' => w'.cell? ⟨q1, i, none⟩ = some (.string ⟨A.toArray⟩) ∧ w'.cell? ⟨q2, i, none⟩ = some (.int .i64 cd)) (first | exact ⟨c1, c2⟩ | exact ⟨e1, e2⟩ | go_keep) (first | (go_at_call 117; refine (CB.out _ (HP.out.on ((Out.refl wr).dN _))).mono ?_; rintro e w2 ⟨⟨y2, rfl⟩, hp, hf⟩; have P2 := hidOf hp; have F2 := hidOf ((FrK.out ((Out.refl wr).dN _)).trans hf); have e1 : w2.cell? ⟨q1, i, none⟩ = some (.string ⟨A.toArray⟩) := (by rw [cell_atL (F2.out _ _ _ _ B1.out (by decide) (by decide)), ← cell_atL B1.out]; exact c1); have e2 : w2.cell? ⟨q2, i, none⟩ = some (.int .i64 cd) := (by rw [cell_atL (F2.out _ _ _ _ B2.out (by decide) (by decide)), ← cell_atL B2.out]; exact c2); clear hp hf))
      go_wp2
      go_roundw
      case rel => exact ⟨i + 1, by simp, by omega, hidOf (by rw [HS.out]; exact P2.out), hidOf (F2.out _ _ _ _ B1.out (by decide) (by decide)), hidOf (F2.out _ _ _ _ B2.out (by decide) (by decide))⟩
      case measure => simp [intOf]; omega
    · have hiI : ¬ (i : Int) < 12 := by omega
      obtain rfl : i = 12 := by omega
      have HP0 : Hid (Pk w0 wr pb (Pw W0 rwA) o W0) := hidOf HP.out
      clear HP B1 B2
      go_upto_region 6 with fail
      have C0 := hidOf (both4w_any w0 _ pb _ o W0 hW0 hW1 HP0.out (by decide) [115, 100, 105, 118] (by decide) (by decide) 1 48 1 (by omega) (by omega))
      go_upto_region 7 with (go_at_call 117; refine C0.out.mono ?_; rintro e x0 ⟨⟨y0, rfl⟩, hp, hf⟩; have HP1 := hidOf hp; have FK1 := hidOf hf; clear hp hf)
      clear C0 HP0
      have C1 := hidOf (both4w_any w0 _ pb _ o W0 hW0 hW1 HP1.out (by decide) [115, 109, 111, 100] (by decide) (by decide) 1 144 1 (by omega) (by omega))
      go_upto_region 8 with (go_at_call 117; refine C1.out.mono ?_; rintro e x1 ⟨⟨y1, rfl⟩, hp, hf⟩; have HP2 := hidOf hp; have FK2 := hidOf hf; clear hp hf)
      clear C1 HP1
      have C2 := hidOf (both4w_any w0 _ pb _ o W0 hW0 hW1 HP2.out (by decide) [110, 101, 103] (by decide) (by decide) 3 128 0 (by omega) (by omega))
      go_upto_region 9 with (go_at_call 117; refine C2.out.mono ?_; rintro e x2 ⟨⟨y2, rfl⟩, hp, hf⟩; have HP3 := hidOf hp; have FK3 := hidOf hf; clear hp hf)
      clear C2 HP2
      have C3 := hidOf (add4w_any w0 _ pb _ o W0 hW0 hW1 HP3.out (by decide) [109, 111, 118, 115, 56] [] (by decide) (by decide) (by decide) 2 191 8 0 (by omega) (by omega) [109, 111, 118, 115, 56] rfl)
      go_upto_region 10 with (go_at_call 118; refine C3.out.mono ?_; rintro e x3 ⟨⟨y3, rfl⟩, hp, hf⟩; have HP4 := hidOf hp; have FK4 := hidOf hf; clear hp hf)
      clear C3 HP3
      have C4 := hidOf (add4w_any w0 _ pb _ o W0 hW0 hW1 HP4.out (by decide) [109, 111, 118, 115, 49, 54] [] (by decide) (by decide) (by decide) 2 191 16 0 (by omega) (by omega) [109, 111, 118, 115, 49, 54] rfl)
      go_upto_region 11 with (go_at_call 118; refine C4.out.mono ?_; rintro e x4 ⟨⟨y4, rfl⟩, hp, hf⟩; have HP5 := hidOf hp; have FK5 := hidOf hf; clear hp hf)
      clear C4 HP4
      have C5 := hidOf (add4w_any w0 _ pb _ o W0 hW0 hW1 HP5.out (by decide) [109, 111, 118, 115, 51, 50] [] (by decide) (by decide) (by decide) 2 191 32 0 (by omega) (by omega) [109, 111, 118, 115, 51, 50] rfl)
      go_upto_region 12 with (go_at_call 118; refine C5.out.mono ?_; rintro e x5 ⟨⟨y5, rfl⟩, hp, hf⟩; have HP6 := hidOf hp; have FK6 := hidOf hf; clear hp hf)
      clear C5 HP5
      have C6 := hidOf (add4w_any w0 _ pb _ o W0 hW0 hW1 HP6.out (by decide) [109, 111, 118, 115, 56, 119] [] (by decide) (by decide) (by decide) 2 188 8 0 (by omega) (by omega) [109, 111, 118, 115, 56, 119] rfl)
      go_upto_region 13 with (go_at_call 118; refine C6.out.mono ?_; rintro e x6 ⟨⟨y6, rfl⟩, hp, hf⟩; have HP7 := hidOf hp; have FK7 := hidOf hf; clear hp hf)
      clear C6 HP6
      have C7 := hidOf (add4w_any w0 _ pb _ o W0 hW0 hW1 HP7.out (by decide) [109, 111, 118, 115, 49, 54, 119] [] (by decide) (by decide) (by decide) 2 188 16 0 (by omega) (by omega) [109, 111, 118, 115, 49, 54, 119] rfl)
      go_upto_region 14 with (go_at_call 118; refine C7.out.mono ?_; rintro e x7 ⟨⟨y7, rfl⟩, hp, hf⟩; have HP8 := hidOf hp; have FK8 := hidOf hf; clear hp hf)
      clear C7 HP7
      go_upto_region 16 with fail
      obtain ⟨r1, hr1⟩ : ∃ r1, r1 = x7.heap.size := ⟨_, rfl⟩
      obtain ⟨r2, hr2⟩ : ∃ r2, r2 = x7.heap.size + 1 := ⟨_, rfl⟩
      obtain ⟨rw, hrw⟩ : ∃ rw, rw = (x7.alloc (.cells eWC 157)).alloc (.cells eCC 158) := ⟨_, rfl⟩
      have hsr : (x7.alloc (.cells eWC 157)).heap.size = x7.heap.size + 1 := size_alloc _ _
      have br1 : rw.heap[r1]? = some (.cells eWC 157 (0, 0)) := by
        rw [hrw, hr1]
        exact blk_out ((Out.refl _).alloc _) (heap_alloc_new x7 _)
      have br2 : rw.heap[r2]? = some (.cells eCC 158 (0, 0)) := by
        rw [hrw, hr2, ← hsr]
        exact heap_alloc_new (x7.alloc (.cells eWC 157)) _
      have or : Out x7 rw := by rw [hrw]; exact ((Out.refl x7).alloc _).alloc _
      change Code.wp _ _ _ _ ((x7.alloc (.cells eWC 157)).alloc (.cells eCC 158))
      rw [← hrw, ← hr2, ← hr1]
      have Br1 := hidOf br1
      have Br2 := hidOf br2
      have Or := hidOf or
      clear hrw hr1 hr2 hsr br1 br2 or
      have H8 : Hid (Pk w0 rw pb (Pw W0 (rwA ++ rwB ++ rwC.take (3 * 0))) o W0) := hidOf (HP8.out.on Or.out)
      clear HP8 Or
      go_wp2
      go_loopw [7] (fun iv wr => ∃ i : Nat, iv = .int .i64 i ∧ i ≤ 3 ∧ Hid (Pk w0 wr pb (Pw W0 (rwA ++ rwB ++ rwC.take (3 * i))) o W0) ∧ Hid (wr.heap[r1]? = some (.cells eWC 157 (0, 0))) ∧ Hid (wr.heap[r2]? = some (.cells eCC 158 (0, 0)))) (fun iv _ => 3 - (intOf iv).toNat)
      case atStart => exact ⟨0, rfl, by omega, H8, Br1, Br2⟩
      case round =>
        clear H8 Br1 Br2
        obtain ⟨i, rfl, hi, HP_0, B1_0, B2_0⟩ := hrel
        by_cases hin : i < 3
        · have hiI : (i : Int) < 3 := by omega
          have hi0 : (0 : Int) ≤ i := by omega
          have c1_0 : wr.cell? ⟨r1, i, none⟩ = some (.string ⟨(eW i).toArray⟩) := by rw [cell_atL B1_0.out]; exact eW_at i hin
          have c2_0 : wr.cell? ⟨r2, i, none⟩ = some (.int .i64 (eC i)) := by rw [cell_atL B2_0.out]; exact eC_at i hin
          obtain ⟨hl1, hl2⟩ := eW_len i hin
          obtain ⟨hb1, hb2⟩ := eC_bd i hin
          have HS := hidOf (sE i hin)
          obtain ⟨A, hA⟩ : ∃ A, A = eW i := ⟨_, rfl⟩
          obtain ⟨cd, hcd⟩ : ∃ cd, cd = eC i := ⟨_, rfl⟩
          rw [← hA, ← hcd] at HS
          rw [← hA] at c1_0 hl1 hl2
          rw [← hcd] at c2_0 hb1 hb2
          clear hA hcd
          obtain ⟨L0, hL0⟩ : ∃ L0, L0 = rwA ++ rwB ++ rwC.take (3 * i) := ⟨_, rfl⟩
          have hLl : L0.length ≤ 100 := by
            have : (rwC.take (3 * i)).length ≤ 9 := Nat.le_trans (List.length_take_le' _ _) (by decide)
            rw [hL0, List.length_append, List.length_append, show rwA.length = 24 from rfl, show rwB.length = 11 from rfl]; omega
          rw [← hL0] at HP_0
          have HL0 := hidOf hL0
          clear hL0
          have C1 : Hid (∀ wx, Pk w0 wx pb (Pw W0 (L0)) o W0 → Calls Tryz.prog 118 #[.pointer (some ⟨pb, 0, none⟩), .string ⟨A.toArray⟩, .string ⟨#[49, 54]⟩, .int .i64 3, .int .i64 cd, .int .i64 0, .int .i64 16] wx fun e w' => (∃ q, e = .returned q) ∧ Pk w0 w' pb (Pw W0 ((L0) ++ [⟨A ++ [49, 54], 3, cd, 0, 16⟩])) o W0 ∧ FrK wx w') := hidOf (fun wx hx => add4w_any w0 wx pb _ o W0 hW0 hW1 hx (by omega) (A) ([49, 54]) (by first | omega | (simp; done) | (simp; omega)) (by first | omega | (simp; done) | (simp; omega)) (by first | omega | (simp; done) | (simp; omega)) 3 (cd) 0 (16) (by omega) (by omega) (A ++ [49, 54]) (by first | rfl | simp))
          have C2 : Hid (∀ wx, Pk w0 wx pb (Pw W0 (L0 ++ [⟨A ++ [49, 54], 3, cd, 0, 16⟩])) o W0 → Calls Tryz.prog 118 #[.pointer (some ⟨pb, 0, none⟩), .string ⟨A.toArray⟩, .string ⟨#[51, 50]⟩, .int .i64 3, .int .i64 cd, .int .i64 0, .int .i64 32] wx fun e w' => (∃ q, e = .returned q) ∧ Pk w0 w' pb (Pw W0 ((L0 ++ [⟨A ++ [49, 54], 3, cd, 0, 16⟩]) ++ [⟨A ++ [51, 50], 3, cd, 0, 32⟩])) o W0 ∧ FrK wx w') := hidOf (fun wx hx => add4w_any w0 wx pb _ o W0 hW0 hW1 hx (by simp; omega) (A) ([51, 50]) (by first | omega | (simp; done) | (simp; omega)) (by first | omega | (simp; done) | (simp; omega)) (by first | omega | (simp; done) | (simp; omega)) 3 (cd) 0 (32) (by omega) (by omega) (A ++ [51, 50]) (by first | rfl | simp))
          have C3 : Hid (∀ wx, Pk w0 wx pb (Pw W0 (L0 ++ [⟨A ++ [49, 54], 3, cd, 0, 16⟩] ++ [⟨A ++ [51, 50], 3, cd, 0, 32⟩])) o W0 → Calls Tryz.prog 118 #[.pointer (some ⟨pb, 0, none⟩), .string ⟨A.toArray⟩, .string ⟨#[54, 52]⟩, .int .i64 3, .int .i64 cd, .int .i64 0, .int .i64 64] wx fun e w' => (∃ q, e = .returned q) ∧ Pk w0 w' pb (Pw W0 ((L0 ++ [⟨A ++ [49, 54], 3, cd, 0, 16⟩] ++ [⟨A ++ [51, 50], 3, cd, 0, 32⟩]) ++ [⟨A ++ [54, 52], 3, cd, 0, 64⟩])) o W0 ∧ FrK wx w') := hidOf (fun wx hx => add4w_any w0 wx pb _ o W0 hW0 hW1 hx (by simp; omega) (A) ([54, 52]) (by first | omega | (simp; done) | (simp; omega)) (by first | omega | (simp; done) | (simp; omega)) (by first | omega | (simp; done) | (simp; omega)) 3 (cd) 0 (64) (by omega) (by omega) (A ++ [54, 52]) (by first | rfl | simp))
          clear hl1 hl2 hb1 hb2 hLl
          go_upto_region 19 with fail
          go_region_held3 (fun w' => w'.cell? ⟨r1, i, none⟩ = some (.string ⟨A.toArray⟩) ∧ w'.cell? ⟨r2, i, none⟩ = some (.int .i64 cd)) (first | exact ⟨c1_0, c2_0⟩ | exact ⟨c1_1, c2_1⟩ | go_keep) (first | (go_at_call 118; refine (C1.out _ (HP_0.out.on ((Out.refl wr).dN _))).mono ?_; rintro e u1 ⟨⟨y2, rfl⟩, hp, hf⟩; have HP_1 := hidOf hp; have F_1 := hidOf ((FrK.out ((Out.refl wr).dN _)).trans hf); have c1_1 : u1.cell? ⟨r1, i, none⟩ = some (.string ⟨A.toArray⟩) := (by rw [cell_atL (F_1.out _ _ _ _ B1_0.out (by decide) (by decide)), ← cell_atL B1_0.out]; exact c1_0); have c2_1 : u1.cell? ⟨r2, i, none⟩ = some (.int .i64 cd) := (by rw [cell_atL (F_1.out _ _ _ _ B2_0.out (by decide) (by decide)), ← cell_atL B2_0.out]; exact c2_0); clear hp hf))
          have B1_1 := hidOf (F_1.out _ _ _ _ B1_0.out (by decide) (by decide))
          have B2_1 := hidOf (F_1.out _ _ _ _ B2_0.out (by decide) (by decide))
          clear c1_0 c2_0 HP_0 F_1 B1_0 B2_0
          go_upto_region 20 with fail
          go_region_held3 (fun w' => w'.cell? ⟨r1, i, none⟩ = some (.string ⟨A.toArray⟩) ∧ w'.cell? ⟨r2, i, none⟩ = some (.int .i64 cd)) (first | exact ⟨c1_1, c2_1⟩ | exact ⟨c1_2, c2_2⟩ | go_keep) (first | (go_at_call 118; refine (C2.out _ (HP_1.out.on ((Out.refl u1).dN _))).mono ?_; rintro e u2 ⟨⟨y2, rfl⟩, hp, hf⟩; have HP_2 := hidOf hp; have F_2 := hidOf ((FrK.out ((Out.refl u1).dN _)).trans hf); have c1_2 : u2.cell? ⟨r1, i, none⟩ = some (.string ⟨A.toArray⟩) := (by rw [cell_atL (F_2.out _ _ _ _ B1_1.out (by decide) (by decide)), ← cell_atL B1_1.out]; exact c1_1); have c2_2 : u2.cell? ⟨r2, i, none⟩ = some (.int .i64 cd) := (by rw [cell_atL (F_2.out _ _ _ _ B2_1.out (by decide) (by decide)), ← cell_atL B2_1.out]; exact c2_1); clear hp hf))
          have B1_2 := hidOf (F_2.out _ _ _ _ B1_1.out (by decide) (by decide))
          have B2_2 := hidOf (F_2.out _ _ _ _ B2_1.out (by decide) (by decide))
          clear c1_1 c2_1 HP_1 F_2 B1_1 B2_1
          go_upto_region 21 with fail
          go_region_held3 (fun w' => w'.cell? ⟨r1, i, none⟩ = some (.string ⟨A.toArray⟩) ∧ w'.cell? ⟨r2, i, none⟩ = some (.int .i64 cd)) (first | exact ⟨c1_2, c2_2⟩ | exact ⟨c1_3, c2_3⟩ | go_keep) (first | (go_at_call 118; refine (C3.out _ (HP_2.out.on ((Out.refl u2).dN _))).mono ?_; rintro e u3 ⟨⟨y2, rfl⟩, hp, hf⟩; have HP_3 := hidOf hp; have F_3 := hidOf ((FrK.out ((Out.refl u2).dN _)).trans hf); have c1_3 : u3.cell? ⟨r1, i, none⟩ = some (.string ⟨A.toArray⟩) := (by rw [cell_atL (F_3.out _ _ _ _ B1_2.out (by decide) (by decide)), ← cell_atL B1_2.out]; exact c1_2); have c2_3 : u3.cell? ⟨r2, i, none⟩ = some (.int .i64 cd) := (by rw [cell_atL (F_3.out _ _ _ _ B2_2.out (by decide) (by decide)), ← cell_atL B2_2.out]; exact c2_2); clear hp hf))
          have B1_3 := hidOf (F_3.out _ _ _ _ B1_2.out (by decide) (by decide))
          have B2_3 := hidOf (F_3.out _ _ _ _ B2_2.out (by decide) (by decide))
          clear c1_2 c2_2 HP_2 F_3 B1_2 B2_2
          have HQ : Hid (Pk w0 u3 pb (Pw W0 (rwA ++ rwB ++ rwC.take (3 * (i + 1)))) o W0) := hidOf (by
            have h := HP_3.out
            rw [HL0.out] at h
            rw [HS.out]
            simpa using h)
          clear HP_3 HS HL0 c1_3 c2_3
          go_wp2
          go_roundw
          case rel => exact ⟨i + 1, by simp, by omega, HQ, B1_3, B2_3⟩
          case measure => simp [intOf]; omega
        · have hiI : ¬ (i : Int) < 3 := by omega
          obtain rfl : i = 3 := by omega
          go_wp2
          go_end0
          exact ⟨⟨_, rfl⟩, HP_0.out⟩
end Go.Proofs.YtcomhlimgocoaaaGreatDoor
namespace Go.Proofs.YtcomhlimgocoaaaGreatDoor
open Go.RowKit
set_option linter.unusedVariables false
set_option linter.unusedSimpArgs false
set_option maxRecDepth 20000 in
set_option maxHeartbeats 4000000 in
theorem places4w_any (w0 w : World) (pb : Nat) (o : Int) (W0 : List UInt8) (hW0 : 0 < W0.length) (hW1 : W0.length ≤ 140737488355328) (h : Pk w0 w pb (Pw W0 (rwA ++ rwB ++ rwC)) o W0) : Calls Tryz.prog 71 #[.pointer (some ⟨pb, 0, none⟩)] w fun e w' => (∃ q, e = .returned q) ∧ Pk w0 w' pb (Pw W0 (rwA ++ rwB ++ rwC ++ rwD ++ rwE ++ rwF)) o W0 := by
  have H := hidOf h
  clear h
  obtain ⟨S0, hS0⟩ : ∃ S0, S0 = rwA ++ rwB ++ rwC := ⟨_, rfl⟩
  have hSl : S0.length = 44 := by rw [hS0]; rfl
  rw [← hS0] at H ⊢
  obtain ⟨FL, hFL⟩ : ∃ FL, FL = S0 ++ rwD ++ rwE ++ rwF := ⟨_, rfl⟩
  rw [← hFL]
  have HFL := hidOf hFL
  clear hS0 hFL
  go_enter Tryz.func71, Tryz.ntmps71
  go_upto_region 1 with fail
  obtain ⟨q1, hq1⟩ : ∃ q1, q1 = w.heap.size := ⟨_, rfl⟩
  obtain ⟨qw, hqw⟩ : ∃ qw, qw = w.alloc (.cells mWdC 134) := ⟨_, rfl⟩
  have bq1 : qw.heap[q1]? = some (.cells mWdC 134 (0, 0)) := by rw [hqw, hq1]; exact heap_alloc_new w _
  have oq : Out w qw := by rw [hqw]; exact (Out.refl w).alloc _
  change Code.wp _ _ _ _ (w.alloc (.cells mWdC 134))
  rw [← hqw, ← hq1]
  have Bq1 := hidOf bq1
  have H0 : Hid (Pk w0 qw pb (Pw W0 (S0 ++ rwD.take (3 * 0))) o W0) := hidOf (by have := H.out.on oq; simpa using this)
  clear H oq bq1 hqw hq1
  go_wp2
  go_loopw [3] (fun iv wr => ∃ i : Nat, iv = .int .i64 i ∧ i ≤ 4 ∧ Hid (Pk w0 wr pb (Pw W0 (S0 ++ rwD.take (3 * i))) o W0) ∧ Hid (wr.heap[q1]? = some (.cells mWdC 134 (0, 0)))) (fun iv _ => 4 - (intOf iv).toNat)
  case atStart => exact ⟨0, rfl, by omega, H0, Bq1⟩
  case round =>
    clear H0 Bq1
    obtain ⟨i, rfl, hi, HP_0, B1_0⟩ := hrel
    by_cases hin : i < 4
    · have hiI : (i : Int) < 4 := by omega
      have hi0 : (0 : Int) ≤ i := by omega
      have c1_0 : wr.cell? ⟨q1, i, none⟩ = some (.string ⟨(mWd i).toArray⟩) := by rw [cell_atL B1_0.out]; exact mWd_at i hin
      obtain ⟨hl1, hl2⟩ := mWd_len i hin
      have HS := hidOf (sM i hin)
      obtain ⟨A, hA⟩ : ∃ A, A = mWd i := ⟨_, rfl⟩
      rw [← hA] at HS c1_0 hl1 hl2
      clear hA
      obtain ⟨L0, hL0⟩ : ∃ L0, L0 = S0 ++ rwD.take (3 * i) := ⟨_, rfl⟩
      have hLl : L0.length ≤ 100 := by
        have : (rwD.take (3 * i)).length ≤ 12 := Nat.le_trans (List.length_take_le' _ _) (by decide)
        rw [hL0, List.length_append, hSl]; omega
      rw [← hL0] at HP_0
      have HL0 := hidOf hL0
      clear hL0
      have C1 : Hid (∀ wx, Pk w0 wx pb (Pw W0 (L0)) o W0 → Calls Tryz.prog 118 #[.pointer (some ⟨pb, 0, none⟩), .string ⟨#[108, 100, 120]⟩, .string ⟨A.toArray⟩, .int .i64 4, .int .i64 (97 + 8 * (i : Int)), .int .i64 0, .int .i64 0] wx fun e w' => (∃ q, e = .returned q) ∧ Pk w0 w' pb (Pw W0 ((L0) ++ [⟨[108, 100, 120] ++ A, 4, (97 + 8 * (i : Int)), 0, 0⟩])) o W0 ∧ FrK wx w') := hidOf (fun wx hx => add4w_any w0 wx pb _ o W0 hW0 hW1 hx (by omega) ([108, 100, 120]) (A) (by first | omega | (simp; done) | (simp; omega)) (by first | omega | (simp; done) | (simp; omega)) (by first | omega | (simp; done) | (simp; omega)) 4 ((97 + 8 * (i : Int))) 0 (0) (by omega) (by omega) ([108, 100, 120] ++ A) (by first | rfl | simp))
      have C2 : Hid (∀ wx, Pk w0 wx pb (Pw W0 (L0 ++ [⟨[108, 100, 120] ++ A, 4, 97 + 8 * (i : Int), 0, 0⟩])) o W0 → Calls Tryz.prog 118 #[.pointer (some ⟨pb, 0, none⟩), .string ⟨#[115, 116]⟩, .string ⟨A.toArray⟩, .int .i64 5, .int .i64 (98 + 8 * (i : Int)), .int .i64 0, .int .i64 0] wx fun e w' => (∃ q, e = .returned q) ∧ Pk w0 w' pb (Pw W0 ((L0 ++ [⟨[108, 100, 120] ++ A, 4, 97 + 8 * (i : Int), 0, 0⟩]) ++ [⟨[115, 116] ++ A, 5, (98 + 8 * (i : Int)), 0, 0⟩])) o W0 ∧ FrK wx w') := hidOf (fun wx hx => add4w_any w0 wx pb _ o W0 hW0 hW1 hx (by simp; omega) ([115, 116]) (A) (by first | omega | (simp; done) | (simp; omega)) (by first | omega | (simp; done) | (simp; omega)) (by first | omega | (simp; done) | (simp; omega)) 5 ((98 + 8 * (i : Int))) 0 (0) (by omega) (by omega) ([115, 116] ++ A) (by first | rfl | simp))
      have C3 : Hid (∀ wx, Pk w0 wx pb (Pw W0 (L0 ++ [⟨[108, 100, 120] ++ A, 4, 97 + 8 * (i : Int), 0, 0⟩] ++ [⟨[115, 116] ++ A, 5, 98 + 8 * (i : Int), 0, 0⟩])) o W0 → Calls Tryz.prog 118 #[.pointer (some ⟨pb, 0, none⟩), .string ⟨#[115, 116, 120]⟩, .string ⟨A.toArray⟩, .int .i64 6, .int .i64 (99 + 8 * (i : Int)), .int .i64 0, .int .i64 0] wx fun e w' => (∃ q, e = .returned q) ∧ Pk w0 w' pb (Pw W0 ((L0 ++ [⟨[108, 100, 120] ++ A, 4, 97 + 8 * (i : Int), 0, 0⟩] ++ [⟨[115, 116] ++ A, 5, 98 + 8 * (i : Int), 0, 0⟩]) ++ [⟨[115, 116, 120] ++ A, 6, (99 + 8 * (i : Int)), 0, 0⟩])) o W0 ∧ FrK wx w') := hidOf (fun wx hx => add4w_any w0 wx pb _ o W0 hW0 hW1 hx (by simp; omega) ([115, 116, 120]) (A) (by first | omega | (simp; done) | (simp; omega)) (by first | omega | (simp; done) | (simp; omega)) (by first | omega | (simp; done) | (simp; omega)) 6 ((99 + 8 * (i : Int))) 0 (0) (by omega) (by omega) ([115, 116, 120] ++ A) (by first | rfl | simp))
      clear hl1 hl2 hLl
      go_upto_region 4 with fail
      go_upto_region 5 with (go_at_call 118; refine (C1.out _ HP_0.out).mono ?_; rintro e u1 ⟨⟨y2, rfl⟩, hp, hf⟩; have HP_1 := hidOf hp; have F_1 := hidOf hf; have c1_1 : u1.cell? ⟨q1, i, none⟩ = some (.string ⟨A.toArray⟩) := (by rw [cell_atL (F_1.out _ _ _ _ B1_0.out (by decide) (by decide)), ← cell_atL B1_0.out]; exact c1_0); clear hp hf)
      have B1_1 := hidOf (F_1.out _ _ _ _ B1_0.out (by decide) (by decide))
      clear c1_0 HP_0 F_1 B1_0
      go_upto_region 6 with (go_at_call 118; refine (C2.out _ HP_1.out).mono ?_; rintro e u2 ⟨⟨y2, rfl⟩, hp, hf⟩; have HP_2 := hidOf hp; have F_2 := hidOf hf; have c1_2 : u2.cell? ⟨q1, i, none⟩ = some (.string ⟨A.toArray⟩) := (by rw [cell_atL (F_2.out _ _ _ _ B1_1.out (by decide) (by decide)), ← cell_atL B1_1.out]; exact c1_1); clear hp hf)
      have B1_2 := hidOf (F_2.out _ _ _ _ B1_1.out (by decide) (by decide))
      clear c1_1 HP_1 F_2 B1_1
      go_wp2_with (go_at_call 118; refine (C3.out _ HP_2.out).mono ?_; rintro e u3 ⟨⟨y2, rfl⟩, hp, hf⟩; have HP_3 := hidOf hp; have F_3 := hidOf hf; clear hp hf)
      have HQ : Hid (Pk w0 u3 pb (Pw W0 (S0 ++ rwD.take (3 * (i + 1)))) o W0) := hidOf (by
        have h := HP_3.out
        rw [HL0.out] at h
        rw [HS.out]
        simpa using h)
      have B1_3 := hidOf (F_3.out _ _ _ _ B1_2.out (by decide) (by decide))
      clear HP_3 HS HL0 c1_2 B1_2
      go_roundw
      case rel => exact ⟨i + 1, by simp, by omega, HQ, B1_3⟩
      case measure => simp [intOf]; omega
    · have hiI : ¬ (i : Int) < 4 := by omega
      obtain rfl : i = 4 := by omega
      have HP0 : Hid (Pk w0 wr pb (Pw W0 (S0 ++ rwD)) o W0) := hidOf HP_0.out
      have hl0 : (S0 ++ rwD).length = 56 := by rw [List.length_append, hSl]; rfl
      clear HP_0 B1_0
      go_upto_region 7 with fail
      have C0 := hidOf (add4w_any w0 _ pb _ o W0 hW0 hW1 HP0.out (by omega) [108, 100, 120, 115, 119] [] (by decide) (by decide) (by decide) 4 129 0 0 (by omega) (by omega) [108, 100, 120, 115, 119] rfl)
      go_upto_region 8 with (go_at_call 118; refine C0.out.mono ?_; rintro e x0 ⟨⟨y0, rfl⟩, hp, hf⟩; have HP1 := hidOf hp; clear hp hf)
      have hl1 : (S0 ++ rwD ++ [(⟨[108, 100, 120, 115, 119], 4, 129, 0, 0⟩ : Rw)]).length = 57 := by rw [List.length_append, hl0]; rfl
      clear C0 HP0 hl0
      have C1 := hidOf (add4w_any w0 _ pb _ o W0 hW0 hW1 HP1.out (by omega) [108, 100, 120, 115, 104] [] (by decide) (by decide) (by decide) 4 137 0 0 (by omega) (by omega) [108, 100, 120, 115, 104] rfl)
      go_upto_region 9 with (go_at_call 118; refine C1.out.mono ?_; rintro e x1 ⟨⟨y1, rfl⟩, hp, hf⟩; have HP2 := hidOf hp; clear hp hf)
      have hl2 : (S0 ++ rwD ++ [(⟨[108, 100, 120, 115, 119], 4, 129, 0, 0⟩ : Rw)] ++ [(⟨[108, 100, 120, 115, 104], 4, 137, 0, 0⟩ : Rw)]).length = 58 := by rw [List.length_append, hl1]; rfl
      clear C1 HP1 hl1
      have C2 := hidOf (add4w_any w0 _ pb _ o W0 hW0 hW1 HP2.out (by omega) [108, 100, 120, 115, 98] [] (by decide) (by decide) (by decide) 4 145 0 0 (by omega) (by omega) [108, 100, 120, 115, 98] rfl)
      go_upto_region 10 with (go_at_call 118; refine C2.out.mono ?_; rintro e x2 ⟨⟨y2, rfl⟩, hp, hf⟩; have HP3 := hidOf hp; clear hp hf)
      have hl3 : (S0 ++ rwD ++ [(⟨[108, 100, 120, 115, 119], 4, 129, 0, 0⟩ : Rw)] ++ [(⟨[108, 100, 120, 115, 104], 4, 137, 0, 0⟩ : Rw)] ++ [(⟨[108, 100, 120, 115, 98], 4, 145, 0, 0⟩ : Rw)]).length = 59 := by rw [List.length_append, hl2]; rfl
      clear C2 HP2 hl2
      go_upto_region 12 with fail
      obtain ⟨r1, hr1⟩ : ∃ r1, r1 = x2.heap.size := ⟨_, rfl⟩
      obtain ⟨r2, hr2⟩ : ∃ r2, r2 = x2.heap.size + 1 := ⟨_, rfl⟩
      obtain ⟨rw, hrw⟩ : ∃ rw, rw = (x2.alloc (.cells aWC 159)).alloc (.cells aIC 160) := ⟨_, rfl⟩
      have hsr : (x2.alloc (.cells aWC 159)).heap.size = x2.heap.size + 1 := size_alloc _ _
      have br1 : rw.heap[r1]? = some (.cells aWC 159 (0, 0)) := by
        rw [hrw, hr1]
        exact blk_out ((Out.refl _).alloc _) (heap_alloc_new x2 _)
      have br2 : rw.heap[r2]? = some (.cells aIC 160 (0, 0)) := by
        rw [hrw, hr2, ← hsr]
        exact heap_alloc_new (x2.alloc (.cells aWC 159)) _
      have or : Out x2 rw := by rw [hrw]; exact ((Out.refl x2).alloc _).alloc _
      change Code.wp _ _ _ _ ((x2.alloc (.cells aWC 159)).alloc (.cells aIC 160))
      rw [← hrw, ← hr2, ← hr1]
      have Br1 := hidOf br1
      have Br2 := hidOf br2
      have Or := hidOf or
      clear hrw hr1 hr2 hsr br1 br2 or
      have H8 : Hid (Pk w0 rw pb (Pw W0 (S0 ++ rwD ++ rwE ++ rwF.take (2 * 0))) o W0) := hidOf (by have := HP3.out.on Or.out; simpa [rwE] using this)
      clear HP3 Or hl3
      go_wp2
      go_loopw [6] (fun iv wr => ∃ i : Nat, iv = .int .i64 i ∧ i ≤ 10 ∧ Hid (Pk w0 wr pb (Pw W0 (S0 ++ rwD ++ rwE ++ rwF.take (2 * i))) o W0) ∧ Hid (wr.heap[r1]? = some (.cells aWC 159 (0, 0))) ∧ Hid (wr.heap[r2]? = some (.cells aIC 160 (0, 0)))) (fun iv _ => 10 - (intOf iv).toNat)
      case atStart => exact ⟨0, rfl, by omega, H8, Br1, Br2⟩
      case round =>
        clear H8 Br1 Br2
        obtain ⟨i, rfl, hi, HP_0, B1_0, B2_0⟩ := hrel
        by_cases hin : i < 10
        · have hiI : (i : Int) < 10 := by omega
          have hi0 : (0 : Int) ≤ i := by omega
          have c1_0 : wr.cell? ⟨r1, i, none⟩ = some (.string ⟨(aW i).toArray⟩) := by rw [cell_atL B1_0.out]; exact aW_at i hin
          have c2_0 : wr.cell? ⟨r2, i, none⟩ = some (.int .i64 (aI i)) := by rw [cell_atL B2_0.out]; exact aI_at i hin
          obtain ⟨hl1, hl2⟩ := aW_len i hin
          have HS := hidOf (sF i hin)
          obtain ⟨A, hA⟩ : ∃ A, A = aW i := ⟨_, rfl⟩
          obtain ⟨cd, hcd⟩ : ∃ cd, cd = aI i := ⟨_, rfl⟩
          rw [← hA, ← hcd] at HS
          rw [← hA] at c1_0 hl1 hl2
          rw [← hcd] at c2_0
          clear hA hcd
          obtain ⟨L0, hL0⟩ : ∃ L0, L0 = S0 ++ rwD ++ rwE ++ rwF.take (2 * i) := ⟨_, rfl⟩
          have hLl : L0.length ≤ 100 := by
            have : (rwF.take (2 * i)).length ≤ 20 := Nat.le_trans (List.length_take_le' _ _) (by decide)
            rw [hL0, List.length_append, List.length_append, List.length_append, hSl, show rwD.length = 12 from rfl, show rwE.length = 3 from rfl]; omega
          rw [← hL0] at HP_0
          have HL0 := hidOf hL0
          clear hL0
          have C1 : Hid (∀ wx, Pk w0 wx pb (Pw W0 (L0)) o W0 → Calls Tryz.prog 118 #[.pointer (some ⟨pb, 0, none⟩), .string ⟨A.toArray⟩, .string ⟨#[]⟩, .int .i64 6, .int .i64 219, .int .i64 0, .int .i64 cd] wx fun e w' => (∃ q, e = .returned q) ∧ Pk w0 w' pb (Pw W0 ((L0) ++ [⟨A, 6, 219, 0, cd⟩])) o W0 ∧ FrK wx w') := hidOf (fun wx hx => add4w_any w0 wx pb _ o W0 hW0 hW1 hx (by omega) (A) ([]) (by first | omega | (simp; done) | (simp; omega)) (by first | omega | (simp; done) | (simp; omega)) (by first | omega | (simp; done) | (simp; omega)) 6 (219) 0 (cd) (by omega) (by omega) (A) (by first | rfl | simp))
          have C2 : Hid (∀ wx, Pk w0 wx pb (Pw W0 (L0 ++ [⟨A, 6, 219, 0, cd⟩])) o W0 → Calls Tryz.prog 118 #[.pointer (some ⟨pb, 0, none⟩), .string ⟨A.toArray⟩, .string ⟨#[51, 50]⟩, .int .i64 6, .int .i64 195, .int .i64 0, .int .i64 cd] wx fun e w' => (∃ q, e = .returned q) ∧ Pk w0 w' pb (Pw W0 ((L0 ++ [⟨A, 6, 219, 0, cd⟩]) ++ [⟨A ++ [51, 50], 6, 195, 0, cd⟩])) o W0 ∧ FrK wx w') := hidOf (fun wx hx => add4w_any w0 wx pb _ o W0 hW0 hW1 hx (by simp; omega) (A) ([51, 50]) (by first | omega | (simp; done) | (simp; omega)) (by first | omega | (simp; done) | (simp; omega)) (by first | omega | (simp; done) | (simp; omega)) 6 (195) 0 (cd) (by omega) (by omega) (A ++ [51, 50]) (by first | rfl | simp))
          clear hl1 hl2 hLl
          go_upto_region 15 with fail
          go_region_held3 (fun w' => w'.cell? ⟨r1, i, none⟩ = some (.string ⟨A.toArray⟩) ∧ w'.cell? ⟨r2, i, none⟩ = some (.int .i64 cd)) (first | exact ⟨c1_0, c2_0⟩ | exact ⟨c1_1, c2_1⟩ | go_keep) (first | (go_at_call 118; refine (C1.out _ (HP_0.out.on ((Out.refl wr).dN _))).mono ?_; rintro e u1 ⟨⟨y2, rfl⟩, hp, hf⟩; have HP_1 := hidOf hp; have F_1 := hidOf ((FrK.out ((Out.refl wr).dN _)).trans hf); have c1_1 : u1.cell? ⟨r1, i, none⟩ = some (.string ⟨A.toArray⟩) := (by rw [cell_atL (F_1.out _ _ _ _ B1_0.out (by decide) (by decide)), ← cell_atL B1_0.out]; exact c1_0); have c2_1 : u1.cell? ⟨r2, i, none⟩ = some (.int .i64 cd) := (by rw [cell_atL (F_1.out _ _ _ _ B2_0.out (by decide) (by decide)), ← cell_atL B2_0.out]; exact c2_0); clear hp hf))
          have B1_1 := hidOf (F_1.out _ _ _ _ B1_0.out (by decide) (by decide))
          have B2_1 := hidOf (F_1.out _ _ _ _ B2_0.out (by decide) (by decide))
          clear c1_0 c2_0 HP_0 F_1 B1_0 B2_0
          go_upto_region 16 with fail
          go_region_held3 (fun w' => w'.cell? ⟨r1, i, none⟩ = some (.string ⟨A.toArray⟩) ∧ w'.cell? ⟨r2, i, none⟩ = some (.int .i64 cd)) (first | exact ⟨c1_1, c2_1⟩ | exact ⟨c1_2, c2_2⟩ | go_keep) (first | (go_at_call 118; refine (C2.out _ (HP_1.out.on ((Out.refl u1).dN _))).mono ?_; rintro e u2 ⟨⟨y2, rfl⟩, hp, hf⟩; have HP_2 := hidOf hp; have F_2 := hidOf ((FrK.out ((Out.refl u1).dN _)).trans hf); have c1_2 : u2.cell? ⟨r1, i, none⟩ = some (.string ⟨A.toArray⟩) := (by rw [cell_atL (F_2.out _ _ _ _ B1_1.out (by decide) (by decide)), ← cell_atL B1_1.out]; exact c1_1); have c2_2 : u2.cell? ⟨r2, i, none⟩ = some (.int .i64 cd) := (by rw [cell_atL (F_2.out _ _ _ _ B2_1.out (by decide) (by decide)), ← cell_atL B2_1.out]; exact c2_1); clear hp hf))
          have B1_2 := hidOf (F_2.out _ _ _ _ B1_1.out (by decide) (by decide))
          have B2_2 := hidOf (F_2.out _ _ _ _ B2_1.out (by decide) (by decide))
          clear c1_1 c2_1 HP_1 F_2 B1_1 B2_1
          have HQ : Hid (Pk w0 u2 pb (Pw W0 (S0 ++ rwD ++ rwE ++ rwF.take (2 * (i + 1)))) o W0) := hidOf (by
            have h := HP_2.out
            rw [HL0.out] at h
            rw [HS.out]
            simpa using h)
          clear HP_2 HS HL0 c1_2 c2_2
          go_wp2
          go_roundw
          case rel => exact ⟨i + 1, by simp, by omega, HQ, B1_2, B2_2⟩
          case measure => simp [intOf]; omega
        · have hiI : ¬ (i : Int) < 10 := by omega
          obtain rfl : i = 10 := by omega
          go_wp2
          go_end0
          exact ⟨⟨_, rfl⟩, by rw [HFL.out]; exact HP_0.out⟩
end Go.Proofs.YtcomhlimgocoaaaGreatDoor
namespace Go.Proofs.YtcomhlimgocoaaaGreatDoor
open Go.RowKit
set_option linter.unusedVariables false
set_option linter.unusedSimpArgs false
set_option maxRecDepth 20000 in
set_option maxHeartbeats 4000000 in
theorem jumps4w_any (w0 w : World) (pb : Nat) (o : Int) (W0 : List UInt8) (hW0 : 0 < W0.length) (hW1 : W0.length ≤ 140737488355328) (h : Pk w0 w pb (Pw W0 (rwA ++ rwB ++ rwC ++ rwD ++ rwE ++ rwF)) o W0) : Calls Tryz.prog 72 #[.pointer (some ⟨pb, 0, none⟩)] w fun e w' => (∃ q, e = .returned q) ∧ Pk w0 w' pb (Pw W0 rowsAll) o W0 := by
  have H := hidOf h
  clear h
  obtain ⟨S0, hS0⟩ : ∃ S0, S0 = rwA ++ rwB ++ rwC ++ rwD ++ rwE ++ rwF := ⟨_, rfl⟩
  have hSl : S0.length = 79 := by rw [hS0]; rfl
  have HFL : Hid (rowsAll = S0 ++ rwG ++ rwH) := hidOf (by rw [hS0]; rfl)
  rw [← hS0] at H
  clear hS0
  obtain ⟨FL, hFL⟩ : ∃ FL, FL = rowsAll := ⟨_, rfl⟩
  rw [← hFL] at HFL ⊢
  clear hFL
  go_enter Tryz.func72, Tryz.ntmps72
  go_upto_region 2 with fail
  obtain ⟨q1, hq1⟩ : ∃ q1, q1 = w.heap.size := ⟨_, rfl⟩
  obtain ⟨q2, hq2⟩ : ∃ q2, q2 = w.heap.size + 1 := ⟨_, rfl⟩
  obtain ⟨qw, hqw⟩ : ∃ qw, qw = (w.alloc (.cells jWC 109)).alloc (.cells jCC 161) := ⟨_, rfl⟩
  have hsq : (w.alloc (.cells jWC 109)).heap.size = w.heap.size + 1 := size_alloc _ _
  have bq1 : qw.heap[q1]? = some (.cells jWC 109 (0, 0)) := by
    rw [hqw, hq1]
    exact blk_out ((Out.refl _).alloc _) (heap_alloc_new w _)
  have bq2 : qw.heap[q2]? = some (.cells jCC 161 (0, 0)) := by
    rw [hqw, hq2, ← hsq]
    exact heap_alloc_new (w.alloc (.cells jWC 109)) _
  have oq : Out w qw := by rw [hqw]; exact ((Out.refl w).alloc _).alloc _
  change Code.wp _ _ _ _ ((w.alloc (.cells jWC 109)).alloc (.cells jCC 161))
  rw [← hqw, ← hq2, ← hq1]
  have Bq1 := hidOf bq1
  have Bq2 := hidOf bq2
  have Oq := hidOf oq
  clear hqw hq1 hq2 hsq bq1 bq2 oq
  have H0 : Hid (Pk w0 qw pb (Pw W0 (S0 ++ rwG.take (2 * 0))) o W0) := hidOf (by have := H.out.on Oq.out; simpa using this)
  clear H Oq
  go_wp2
  go_loopw [4] (fun iv wr => ∃ i : Nat, iv = .int .i64 i ∧ i ≤ 11 ∧ Hid (Pk w0 wr pb (Pw W0 (S0 ++ rwG.take (2 * i))) o W0) ∧ Hid (wr.heap[q1]? = some (.cells jWC 109 (0, 0))) ∧ Hid (wr.heap[q2]? = some (.cells jCC 161 (0, 0)))) (fun iv _ => 11 - (intOf iv).toNat)
  case atStart => exact ⟨0, rfl, by omega, H0, Bq1, Bq2⟩
  case round =>
    clear H0 Bq1 Bq2
    obtain ⟨i, rfl, hi, HP, B1, B2⟩ := hrel
    by_cases hin : i < 11
    · have hiI : (i : Int) < 11 := by omega
      have hi0 : (0 : Int) ≤ i := by omega
      have c1 : wr.cell? ⟨q1, i, none⟩ = some (.string ⟨(jW i).toArray⟩) := by rw [cell_atL B1.out]; exact jW_at i hin
      have c2 : wr.cell? ⟨q2, i, none⟩ = some (.int .i64 (jC i)) := by rw [cell_atL B2.out]; exact jC_at i hin
      have hl1 := jW_len i hin
      have hb2 := jC_bd i hin
      obtain ⟨A, hA⟩ : ∃ A, A = jW i := ⟨_, rfl⟩
      obtain ⟨cd, hcd⟩ : ∃ cd, cd = jC i := ⟨_, rfl⟩
      have HS := hidOf (sG i hin)
      rw [← hA, ← hcd] at HS
      rw [← hA] at c1 hl1
      rw [← hcd] at c2 hb2
      obtain ⟨L0, hL0⟩ : ∃ L0, L0 = S0 ++ rwG.take (2 * i) := ⟨_, rfl⟩
      have hLl : L0.length ≤ 110 := by
        have : (rwG.take (2 * i)).length ≤ 22 := Nat.le_trans (List.length_take_le' _ _) (by decide)
        rw [hL0, List.length_append, hSl]; omega
      rw [← hL0] at HP
      have HL0 := hidOf hL0
      clear hL0
      have CB : Hid (∀ wx, Pk w0 wx pb (Pw W0 L0) o W0 → Calls Tryz.prog 117 #[.pointer (some ⟨pb, 0, none⟩), .string ⟨A.toArray⟩, .int .i64 8, .int .i64 cd, .int .i64 0] wx fun e w' => (∃ q, e = .returned q) ∧ Pk w0 w' pb (Pw W0 (L0 ++ bothL A 8 cd 0)) o W0 ∧ FrK wx w') := hidOf (fun wx hx => both4w_any w0 wx pb _ o W0 hW0 hW1 hx (by omega) A hl1.1 hl1.2 8 cd 0 hb2.1 hb2.2)
      clear hA hcd hl1 hb2 hLl
      go_upto_region 5 with fail
      go_region_held3 (fun w' => w'.cell? ⟨q1, i, none⟩ = some (.string ⟨A.toArray⟩) ∧ w'.cell? ⟨q2, i, none⟩ = some (.int .i64 cd)) (first | exact ⟨c1, c2⟩ | exact ⟨e1, e2⟩ | go_keep) (first | (go_at_call 117; refine (CB.out _ (HP.out.on ((Out.refl wr).dN _))).mono ?_; rintro e w2 ⟨⟨y2, rfl⟩, hp, hf⟩; have P2 := hidOf hp; have F2 := hidOf ((FrK.out ((Out.refl wr).dN _)).trans hf); have e1 : w2.cell? ⟨q1, i, none⟩ = some (.string ⟨A.toArray⟩) := (by rw [cell_atL (F2.out _ _ _ _ B1.out (by decide) (by decide)), ← cell_atL B1.out]; exact c1); have e2 : w2.cell? ⟨q2, i, none⟩ = some (.int .i64 cd) := (by rw [cell_atL (F2.out _ _ _ _ B2.out (by decide) (by decide)), ← cell_atL B2.out]; exact c2); clear hp hf))
      have HQ : Hid (Pk w0 w2 pb (Pw W0 (S0 ++ rwG.take (2 * (i + 1)))) o W0) := hidOf (by
        have h := P2.out
        rw [HL0.out] at h
        rw [HS.out]
        simpa using h)
      clear P2 HS HL0
      go_wp2
      go_roundw
      case rel => exact ⟨i + 1, by simp, by omega, HQ, hidOf (F2.out _ _ _ _ B1.out (by decide) (by decide)), hidOf (F2.out _ _ _ _ B2.out (by decide) (by decide))⟩
      case measure => simp [intOf]; omega
    · have hiI : ¬ (i : Int) < 11 := by omega
      obtain rfl : i = 11 := by omega
      have HP0 : Hid (Pk w0 wr pb (Pw W0 (S0 ++ rwG)) o W0) := hidOf HP.out
      have hl0 : (S0 ++ rwG).length = 101 := by rw [List.length_append, hSl]; rfl
      clear HP B1 B2
      go_upto_region 6 with fail
      have C0 := hidOf (add4w_any w0 _ pb _ o W0 hW0 hW1 HP0.out (by omega) [106, 97] [] (by decide) (by decide) (by decide) 7 5 0 0 (by omega) (by omega) [106, 97] rfl)
      go_upto_region 7 with (go_at_call 118; refine C0.out.mono ?_; rintro e x0 ⟨⟨y0, rfl⟩, hp, hf⟩; have HP1 := hidOf hp; clear hp hf)
      have hl1 : (S0 ++ rwG ++ [(⟨[106, 97], 7, 5, 0, 0⟩ : Rw)]).length = 102 := by rw [List.length_append, hl0]; rfl
      clear C0 HP0 hl0
      have C1 := hidOf (add4w_any w0 _ pb _ o W0 hW0 hW1 HP1.out (by omega) [106, 97, 51, 50] [] (by decide) (by decide) (by decide) 7 6 0 0 (by omega) (by omega) [106, 97, 51, 50] rfl)
      go_upto_region 8 with (go_at_call 118; refine C1.out.mono ?_; rintro e x1 ⟨⟨y1, rfl⟩, hp, hf⟩; have HP2 := hidOf hp; clear hp hf)
      have hl2 : (S0 ++ rwG ++ [(⟨[106, 97], 7, 5, 0, 0⟩ : Rw)] ++ [(⟨[106, 97, 51, 50], 7, 6, 0, 0⟩ : Rw)]).length = 103 := by rw [List.length_append, hl1]; rfl
      clear C1 HP1 hl1
      have C2 := hidOf (add4w_any w0 _ pb _ o W0 hW0 hW1 HP2.out (by omega) [99, 97, 108, 108] [] (by decide) (by decide) (by decide) 9 133 0 0 (by omega) (by omega) [99, 97, 108, 108] rfl)
      go_upto_region 9 with (go_at_call 118; refine C2.out.mono ?_; rintro e x2 ⟨⟨y2, rfl⟩, hp, hf⟩; have HP3 := hidOf hp; clear hp hf)
      have hl3 : (S0 ++ rwG ++ [(⟨[106, 97], 7, 5, 0, 0⟩ : Rw)] ++ [(⟨[106, 97, 51, 50], 7, 6, 0, 0⟩ : Rw)] ++ [(⟨[99, 97, 108, 108], 9, 133, 0, 0⟩ : Rw)]).length = 104 := by rw [List.length_append, hl2]; rfl
      clear C2 HP2 hl2
      have C3 := hidOf (add4w_any w0 _ pb _ o W0 hW0 hW1 HP3.out (by omega) [101, 120, 105, 116] [] (by decide) (by decide) (by decide) 10 149 0 0 (by omega) (by omega) [101, 120, 105, 116] rfl)
      go_upto_region 10 with (go_at_call 118; refine C3.out.mono ?_; rintro e x3 ⟨⟨y3, rfl⟩, hp, hf⟩; have HP4 := hidOf hp; clear hp hf)
      have hl4 : (S0 ++ rwG ++ [(⟨[106, 97], 7, 5, 0, 0⟩ : Rw)] ++ [(⟨[106, 97, 51, 50], 7, 6, 0, 0⟩ : Rw)] ++ [(⟨[99, 97, 108, 108], 9, 133, 0, 0⟩ : Rw)] ++ [(⟨[101, 120, 105, 116], 10, 149, 0, 0⟩ : Rw)]).length = 105 := by rw [List.length_append, hl3]; rfl
      clear C3 HP3 hl3
      have C4 := hidOf (add4w_any w0 _ pb _ o W0 hW0 hW1 HP4.out (by omega) [108, 100, 100, 119] [] (by decide) (by decide) (by decide) 11 24 0 0 (by omega) (by omega) [108, 100, 100, 119] rfl)
      go_upto_region 11 with (go_at_call 118; refine C4.out.mono ?_; rintro e x4 ⟨⟨y4, rfl⟩, hp, hf⟩; have HP5 := hidOf hp; clear hp hf)
      have hl5 : (S0 ++ rwG ++ [(⟨[106, 97], 7, 5, 0, 0⟩ : Rw)] ++ [(⟨[106, 97, 51, 50], 7, 6, 0, 0⟩ : Rw)] ++ [(⟨[99, 97, 108, 108], 9, 133, 0, 0⟩ : Rw)] ++ [(⟨[101, 120, 105, 116], 10, 149, 0, 0⟩ : Rw)] ++ [(⟨[108, 100, 100, 119], 11, 24, 0, 0⟩ : Rw)]).length = 106 := by rw [List.length_append, hl4]; rfl
      clear C4 HP4 hl4
      have C5 := hidOf (add4w_any w0 _ pb _ o W0 hW0 hW1 HP5.out (by omega) [108, 100, 109, 97, 112] [] (by decide) (by decide) (by decide) 12 24 0 0 (by omega) (by omega) [108, 100, 109, 97, 112] rfl)
      go_wp2_with (go_at_call 118; refine C5.out.mono ?_; rintro e x5 ⟨⟨y5, rfl⟩, hp, hf⟩; have HP6 := hidOf hp; clear hp hf)
      go_end0
      refine ⟨⟨_, rfl⟩, ?_⟩
      have h := HP6.out
      rw [HFL.out]
      simpa [rwH] using h
set_option maxRecDepth 8000 in
theorem picked4w_any (w : World) (o : Int) (W0 : List UInt8) (hW0 : 0 < W0.length) (hW1 : W0.length ≤ 140737488355328) : Calls Tryz.prog 38 #[.agg #[.slice none 0 0, .bool false, .int .i64 o, .string ⟨W0.toArray⟩]] w fun e w' => ∃ a c, e = .returned (.slice a (Pw W0 rowsAll).length c) ∧ w'.ownsRow w.heap.size 67 5 (.slice a (Pw W0 rowsAll).length c) (Pw W0 rowsAll).length (rowsC (Pw W0 rowsAll)) ∧ Out w w' := by
  have H0 := hidOf (Pk.new w o W0)
  go_enter Tryz.func38, Tryz.ntmps38
  go_upto_region 1 with fail
  obtain ⟨p, hp⟩ : ∃ p, p = w.heap.size := ⟨_, rfl⟩
  obtain ⟨w1, hw1⟩ : ∃ w1, w1 = w.alloc (.cells #[.slice none 0 0, .bool false, .int .i64 o, .string ⟨W0.toArray⟩] 89) := ⟨_, rfl⟩
  have H1 : Hid (Pk w w1 p (Pw W0 []) o W0) := hidOf (by rw [hw1, hp]; exact H0.out)
  rw [← hw1, ← hp]
  clear hw1 hp H0
  have C1 := hidOf (sums4w_any w w1 p o W0 hW0 hW1 H1.out)
  go_upto_region 2 with (go_at_call 70; refine C1.out.mono ?_; rintro e w2 ⟨⟨y2, rfl⟩, hq⟩; have H2 := hidOf hq; clear hq)
  have C2 := hidOf (places4w_any w w2 p o W0 hW0 hW1 H2.out)
  go_upto_region 3 with (go_at_call 71; refine C2.out.mono ?_; rintro e w3 ⟨⟨y3, rfl⟩, hq⟩; have H3 := hidOf hq; clear hq)
  have C3 := hidOf (jumps4w_any w w3 p o W0 hW0 hW1 H3.out)
  go_upto_region 4 with (go_at_call 72; refine C3.out.mono ?_; rintro e w4 ⟨⟨y4, rfl⟩, hq⟩; have H4 := hidOf hq; clear hq)
  obtain ⟨a, c, st, own⟩ := H4.out.st
  have c0 : w4.cell? ⟨p, 0, none⟩ = some (.slice a (Pw W0 rowsAll).length c) := by rw [cell_atL st]; rfl
  have HO := hidOf own
  clear st own C1 C2 C3
  go_wp2
  go_ret
  exact ⟨a, c, rfl, HO.out, H4.out.out⟩
end Go.Proofs.YtcomhlimgocoaaaGreatDoor
namespace Go.Proofs.YtcomhlimgocoaaaGreatDoor
open Go.RowKit
set_option linter.unusedVariables false
set_option linter.unusedSimpArgs false
def s40 (l : List UInt8) : S4 := ⟨wdK l 0, false, false⟩
/-- the reference's Parse -/
def rparseP (l : List UInt8) : PR :=
  if wdP l 0 = [] then ⟨0, 0, 0, 0, 0, [], 40⟩ else
  match Pw (wdP l 0) rowsAll with
  | [] => ⟨0, 0, 0, 0, 0, [], 40⟩
  | r :: _ => if ((opdR4 r l (s40 l)).t.pk l).bad || decide (((opdR4 r l (s40 l)).t.pk l).k < l.length) then ⟨0, 0, 0, 0, 0, [], 41⟩ else if ((opdR4 r l (s40 l)).t.pk l).far then ⟨0, 0, 0, 0, 0, [], 42⟩
    else ⟨(opdR4 r l (s40 l)).o, (opdR4 r l (s40 l)).d, (opdR4 r l (s40 l)).s, (opdR4 r l (s40 l)).f, (opdR4 r l (s40 l)).i, (opdR4 r l (s40 l)).g, 0⟩
theorem blanks4_s (w : World) (p : Nat) (l : List UInt8) (s : S4) (h : A4 w p l s) (hk : s.In l) (hl : l.length ≤ 140737488355328) : Calls Tryz.prog 40 #[.pointer (some ⟨p, 0, none⟩)] w fun e w' => (∃ v, e = .returned v) ∧ E4 p l (s.pk l) w w' := blanks4_any w p l s.k s.bad s.far h hk hl
theorem word4_s (w : World) (p : Nat) (l : List UInt8) (h : A4 w p l ⟨0, false, false⟩) (hl : l.length ≤ 140737488355328) : Calls Tryz.prog 37 #[.pointer (some ⟨p, 0, none⟩)] w fun e w' => e = .returned (.string ⟨(wdP l 0).toArray⟩) ∧ E4 p l (s40 l) w w' := word4_any w p l 0 false false h (Nat.zero_le _) hl
theorem opd_in (r : Rw) (l : List UInt8) (t : S4) (h : t.In l) : (opdR4 r l t).t.In l := by
  have m1 := (S4.In.rg h).mk4 (c := 44) (by decide)
  have m2 := (S4.In.pl h).mk4 (c := 44) (by decide)
  unfold opdR4
  by_cases h1 : r.sh = 1
  · rw [if_pos h1]; exact m1.sc
  rw [if_neg h1]
  by_cases h8 : r.sh = 8
  · rw [if_pos h8]; exact (m1.sc.mk4 (c := 44) (by decide)).tg
  rw [if_neg h8]
  by_cases h2 : r.sh = 2
  · rw [if_pos h2]; exact m1.rg
  rw [if_neg h2]
  by_cases h3 : r.sh = 3
  · rw [if_pos h3]; exact S4.In.rg h
  rw [if_neg h3]
  by_cases h4 : r.sh = 4
  · rw [if_pos h4]; exact m1.pl
  rw [if_neg h4]
  by_cases h5 : r.sh = 5
  · rw [if_pos h5]; exact m2.im
  rw [if_neg h5]
  by_cases h6 : r.sh = 6
  · rw [if_pos h6]; exact m2.rg
  rw [if_neg h6]
  by_cases h7 : r.sh = 7
  · rw [if_pos h7]; exact h.tg
  rw [if_neg h7]
  by_cases h9 : r.sh = 9
  · rw [if_pos h9]
    cases letP ((pkP l t.k).toNat : Int)
    · rw [if_neg (by decide)]; exact h.pk.im
    · rw [if_pos rfl]; exact h.pk.tg
  rw [if_neg h9]
  by_cases h11 : r.sh = 11
  · rw [if_pos h11]; exact m1.sg
  rw [if_neg h11]
  by_cases h12 : r.sh = 12
  · rw [if_pos h12]; exact m1.tg
  rw [if_neg h12]
  exact h
theorem size5r : (Tryz.prog.info? 25).map (·.size) = some 5 := by kernel_rfl
set_option maxRecDepth 20000 in
set_option maxHeartbeats 8000000 in
theorem rparse4_any (w : World) (l : List UInt8) (hl : l.length ≤ 140737488355328) : Calls Tryz.prog 12 #[.string ⟨l.toArray⟩] w fun e w' => e = .returned (.tuple #[.agg #[.int .i64 (rparseP l).o, .int .i64 (rparseP l).d, .int .i64 (rparseP l).s, .int .i64 (rparseP l).f, .int .i64 (rparseP l).i], .string ⟨(rparseP l).tgt.toArray⟩, .int .i64 (rparseP l).e]) ∧ Out w w' := by
  obtain ⟨X, hX⟩ : ∃ X, rparseP l = X := ⟨_, rfl⟩
  have HX := hidOf hX
  rw [hX]
  unfold rparseP at HX
  clear hX
  have hs0 : (s40 l).In l := wdK_le (Nat.zero_le _)
  have CW := hidOf (fun wx p (hx : A4 wx p l ⟨0, false, false⟩) => word4_s wx p l hx hl)
  have CB := hidOf (fun wx p (s : S4) (hx : A4 wx p l s) (hs : s.In l) => blanks4_s wx p l s hx hs hl)
  have hWl : (wdP l 0).length ≤ 140737488355328 := by
    have e : (wdP l 0).length ≤ l.length := by
      unfold wdP
      split
      · exact rnP_len
      · simp
    omega
  go_enter Tryz.func12, Tryz.ntmps12
  go_upto_region 2 with fail
  obtain ⟨wC, hwC⟩ : ∃ wC, wC = (w.alloc (.cells #[.int .i64 0, .int .i64 0, .int .i64 0, .int .i64 0, .int .i64 0] 25)).alloc (.cells #[.string ⟨l.toArray⟩, .int .i64 0, .bool false, .bool false] 85) := ⟨_, rfl⟩
  obtain ⟨p, hp⟩ : ∃ p, p = w.heap.size + 1 := ⟨_, rfl⟩
  obtain ⟨qR, hqR⟩ : ∃ qR, qR = w.heap.size := ⟨_, rfl⟩
  have z1 : (w.alloc (.cells #[.int .i64 0, .int .i64 0, .int .i64 0, .int .i64 0, .int .i64 0] 25)).heap.size = w.heap.size + 1 := size_alloc _ _
  have oC : Out w wC := by rw [hwC]; exact ((Out.refl w).alloc _).alloc _
  have hA : A4 wC p l ⟨0, false, false⟩ := by rw [hwC, hp, ← z1]; exact heap_alloc_new _ _
  have hRr : wC.heap[qR]? = some (.cells #[.int .i64 0, .int .i64 0, .int .i64 0, .int .i64 0, .int .i64 0] 25 (0, 0)) := by
    rw [hwC, hqR]
    exact blk_out ((Out.refl _).alloc _) (heap_alloc_new _ _)
  have hlt : qR < wC.heap.size := (Array.getElem?_eq_some_iff.1 hRr).1
  have HRr : Hid (∀ wx, Chg (fun x => x = p) wC wx → wx.heap[qR]? = some (.cells #[.int .i64 0, .int .i64 0, .int .i64 0, .int .i64 0, .int .i64 0] 25 (0, 0))) := hidOf (fun wx hc => (hc.block qR hlt (by omega)).trans hRr)
  have HEnd : Hid (∀ (w' : World) (x0 x1 x2 x3 x4 : Value), Chg (fun x => x = p) wC w' → Out w (((((w'.setCell ⟨qR, 0, none⟩ x0).setCell ⟨qR, 1, none⟩ x1).setCell ⟨qR, 2, none⟩ x2).setCell ⟨qR, 3, none⟩ x3).setCell ⟨qR, 4, none⟩ x4)) := hidOf (fun w' x0 x1 x2 x3 x4 hc => set5_out (Chg.out hc oC (fun k hk => by omega)) (by omega))
  rw [← hwC, ← hp, ← hqR]
  have HA := hidOf hA
  clear hwC hp hqR z1 oC hA hRr hlt
  go_upto_region 3 with (go_at_call 37; refine (CW.out _ _ HA.out).mono ?_; rintro e w1 ⟨rfl, hm⟩; have H1 := hidOf hm; clear hm)
  have hR := HRr.out _ H1.out.2
  have HR := hidOf hR
  have r0 : w1.cell? ⟨qR, 0, none⟩ = some (.int .i64 0) := by rw [cell_atL hR]; rfl
  have r1 : w1.cell? ⟨qR, 1, none⟩ = some (.int .i64 0) := by rw [cell_atL hR]; rfl
  have r2 : w1.cell? ⟨qR, 2, none⟩ = some (.int .i64 0) := by rw [cell_atL hR]; rfl
  have r3 : w1.cell? ⟨qR, 3, none⟩ = some (.int .i64 0) := by rw [cell_atL hR]; rfl
  have r4 : w1.cell? ⟨qR, 4, none⟩ = some (.int .i64 0) := by rw [cell_atL hR]; rfl
  have f0 := frozen_atL hR 0
  have f1 := frozen_atL hR 1
  have f2 := frozen_atL hR 2
  have f3 := frozen_atL hR 3
  have f4 := frozen_atL hR 4
  clear hR
  by_cases hW : wdP l 0 = []
  · rw [if_pos hW] at HX
    rw [hW]
    go_wp2
    refine bodyPost_ret (results_row_tmp2 rfl _ _ qR 25 _ (0, 0) _ rfl (set5c_heap HR.out) Tryz.underlying25 rfl size5r) rfl ?_
    exact ⟨by rw [← HX.out]; rfl, HEnd.out _ _ _ _ _ _ H1.out.2⟩
  rw [if_neg hW] at HX
  have hWe : (wdP l 0).isEmpty = false := by cases h : wdP l 0 with | nil => exact absurd h hW | cons => rfl
  have hW0 : 0 < (wdP l 0).length := by cases h : wdP l 0 with | nil => exact absurd h hW | cons => simp
  have CK := hidOf (fun wx => picked4w_any wx 0 (wdP l 0) hW0 hWl)
  have hPl := Pw_len (wdP l 0) rowsAll
  have hPm : ∀ r ∈ Pw (wdP l 0) rowsAll, r ∈ rowsAll := fun r hr => (List.mem_filter.1 hr).1
  have hP7 : (Pw (wdP l 0) rowsAll).length ≤ 107 := Nat.le_trans hPl (by decide)
  generalize Pw (wdP l 0) rowsAll = PW at *
  generalize wdP l 0 = W at *
  clear hW hW0 hWl hPl
  clear r0 r1 r2 r3 r4 f0 f1 f2 f3 f4 HR
  go_upto_region 6 with (go_at_call 38; refine (CK.out _).mono ?_; rintro e w2 ⟨a, c, rfl, hown, ho⟩; have OW := hidOf hown; have O2 := hidOf ho; clear hown ho)
  have H2 : Hid (E4 p l (s40 l) wC w2) := hidOf (M4.more H1.out O2.out)
  cases hPW : PW with
  | nil =>
    rw [hPW] at HX
    simp only at HX
    rw [hPW] at OW
    have hR := HRr.out _ H2.out.2
    have HR := hidOf hR
    have r0 : w2.cell? ⟨qR, 0, none⟩ = some (.int .i64 0) := by rw [cell_atL hR]; rfl
    have r1 : w2.cell? ⟨qR, 1, none⟩ = some (.int .i64 0) := by rw [cell_atL hR]; rfl
    have r2 : w2.cell? ⟨qR, 2, none⟩ = some (.int .i64 0) := by rw [cell_atL hR]; rfl
    have r3 : w2.cell? ⟨qR, 3, none⟩ = some (.int .i64 0) := by rw [cell_atL hR]; rfl
    have r4 : w2.cell? ⟨qR, 4, none⟩ = some (.int .i64 0) := by rw [cell_atL hR]; rfl
    have f0 := frozen_atL hR 0
    have f1 := frozen_atL hR 1
    have f2 := frozen_atL hR 2
    have f3 := frozen_atL hR 3
    have f4 := frozen_atL hR 4
    clear hR
    go_wp2
    refine bodyPost_ret (results_row_tmp2 rfl _ _ qR 25 _ (0, 0) _ rfl (set5c_heap HR.out) Tryz.underlying25 rfl size5r) rfl ?_
    exact ⟨by rw [← HX.out]; rfl, HEnd.out _ _ _ _ _ _ H2.out.2⟩
  | cons r rs =>
    have hmem : r ∈ rowsAll := hPm r (by rw [hPW]; exact List.mem_cons_self)
    obtain ⟨o0, o1, p2, p3⟩ := row_bd r hmem
    have hr0 : PW[0]? = some r := by rw [hPW]; rfl
    rw [hPW] at HX
    simp only at HX
    obtain ⟨n, hn⟩ : ∃ n, PW.length = n := ⟨_, rfl⟩
    have hn0 : (0 : Int) < n := by rw [← hn, hPW]; simp
    have OW2 := OW.out
    rw [hn] at OW2
    rw [← hPW, hn]
    obtain ⟨g, rfl, k0, k1, k2, k3, k4⟩ := rows_at OW2 hr0 hn
    have hcap : (n : Int) ≤ c := by
      rcases OW2.2 with ⟨hv, _⟩ | ⟨g3, cap3, cur3, hv, _, _, hc3, _⟩
      · cases hv
      · simp only [Value.slice.injEq] at hv; omega
    have CO := hidOf (fun wx (hx : A4 wx p l (s40 l)) => operands4_any wx p l (s40 l) r.w r.sh r.op r.off r.imm hx hs0 hl o0 o1 p2 p3)
    have hin := opd_in r l (s40 l) hs0
    rw [show (⟨r.w, r.sh, r.op, r.off, r.imm⟩ : Rw) = r from rfl] at CO
    generalize opdR4 r l (s40 l) = Y at *
    obtain ⟨yo, yd, ys, yf, yi, yg, yt⟩ := Y
    simp only at CO HX hin
    obtain ⟨L, sh, op, off, imm⟩ := r
    simp only at k0 k1 k2 k3 k4 CO
    simp only [Nat.zero_mul, Nat.zero_add] at k0 k1 k2 k3 k4
    clear hmem o0 o1 p2 p3 hr0 OW OW2 hPm hPW hn hP7 CK
    go_upto_region 8 with (go_at_call 39; refine (CO.out _ H2.out.1).mono ?_; rintro e w3 ⟨rfl, hm⟩; have H3 := hidOf (H2.out.then hm); clear hm)
    obtain ⟨w4, hw4⟩ : ∃ w4, w4 = w3.alloc (.cells #[.int .i64 yo, .int .i64 yd, .int .i64 ys, .int .i64 yf, .int .i64 yi] 25) := ⟨_, rfl⟩
    obtain ⟨q8, hq8⟩ : ∃ q8, q8 = w3.heap.size := ⟨_, rfl⟩
    have H4 : Hid (E4 p l yt wC w4) := hidOf (M4.more H3.out (by rw [hw4]; exact (Out.refl w3).alloc _))
    have hB8 : w4.heap[q8]? = some (.cells #[.int .i64 yo, .int .i64 yd, .int .i64 ys, .int .i64 yf, .int .i64 yi] 25 (0, 0)) := by rw [hw4, hq8]; exact heap_alloc_new _ _
    have hne8 : ¬ q8 = p := by
      have : p < w3.heap.size := (Array.getElem?_eq_some_iff.1 H3.out.1).1
      omega
    have HB8 : Hid (∀ wx, Chg (fun x => x = p) w4 wx → wx.heap[q8]? = some (.cells #[.int .i64 yo, .int .i64 yd, .int .i64 ys, .int .i64 yf, .int .i64 yi] 25 (0, 0))) := hidOf (fun wx hc => (hc.block q8 (Array.getElem?_eq_some_iff.1 hB8).1 hne8).trans hB8)
    rw [← hw4, ← hq8]
    clear hw4 hq8 hB8 hne8 k0 k1 k2 k3 k4
    have CB2 := hidOf (CB.out w4 p yt H4.out.1 hin)
    go_upto_region 9 with (go_at_call 40; refine CB2.out.mono ?_; rintro e w5 ⟨⟨v5, rfl⟩, hm⟩; have HM := hidOf hm; have H5 := hidOf (H4.out.then hm); clear hm)
    generalize yt.pk l = T at *
    obtain ⟨tk, tb, tf⟩ := T
    simp only at HX
    obtain ⟨c0, c1, c2, c3⟩ := H5.out.1.cells
    simp only at c0 c1 c2 c3
    have hB := HB8.out w5 HM.out.2
    have i0 : w5.cell? ⟨q8, 0, none⟩ = some (.int .i64 yo) := by rw [cell_atL hB]; rfl
    have i1 : w5.cell? ⟨q8, 1, none⟩ = some (.int .i64 yd) := by rw [cell_atL hB]; rfl
    have i2 : w5.cell? ⟨q8, 2, none⟩ = some (.int .i64 ys) := by rw [cell_atL hB]; rfl
    have i3 : w5.cell? ⟨q8, 3, none⟩ = some (.int .i64 yf) := by rw [cell_atL hB]; rfl
    have i4 : w5.cell? ⟨q8, 4, none⟩ = some (.int .i64 yi) := by rw [cell_atL hB]; rfl
    clear hB
    have hR := HRr.out _ H5.out.2
    have HR := hidOf hR
    have r0 : w5.cell? ⟨qR, 0, none⟩ = some (.int .i64 0) := by rw [cell_atL hR]; rfl
    have r1 : w5.cell? ⟨qR, 1, none⟩ = some (.int .i64 0) := by rw [cell_atL hR]; rfl
    have r2 : w5.cell? ⟨qR, 2, none⟩ = some (.int .i64 0) := by rw [cell_atL hR]; rfl
    have r3 : w5.cell? ⟨qR, 3, none⟩ = some (.int .i64 0) := by rw [cell_atL hR]; rfl
    have r4 : w5.cell? ⟨qR, 4, none⟩ = some (.int .i64 0) := by rw [cell_atL hR]; rfl
    have f0 := frozen_atL hR 0
    have f1 := frozen_atL hR 1
    have f2 := frozen_atL hR 2
    have f3 := frozen_atL hR 3
    have f4 := frozen_atL hR 4
    clear hR
    have hL : (⟨l.toArray⟩ : ByteArray).size = l.length := rfl
    cases tb
    · by_cases hk : tk < l.length
      · have hkI : (tk : Int) < l.length := by omega
        rw [if_pos (by simp [hk])] at HX
        go_quiet (fail)
        go_wp2
        refine bodyPost_ret (results_row_tmp2 rfl _ _ qR 25 _ (0, 0) _ rfl (set5c_heap HR.out) Tryz.underlying25 rfl size5r) rfl ?_
        exact ⟨by rw [← HX.out]; rfl, HEnd.out _ _ _ _ _ _ (Chg.drewN H5.out.2 _)⟩
      · have hkI : ¬ (tk : Int) < l.length := by omega
        rw [if_neg (by simp [hk])] at HX
        cases tf
        · rw [if_neg (by decide)] at HX
          go_quiet (fail)
          go_wp2
          refine bodyPost_ret (results_row_tmp2 rfl _ _ qR 25 _ (0, 0) _ rfl (set5c_heap HR.out) Tryz.underlying25 rfl size5r) rfl ?_
          exact ⟨by rw [← HX.out]; rfl, HEnd.out _ _ _ _ _ _ (Chg.drewN H5.out.2 _)⟩
        · rw [if_pos rfl] at HX
          go_quiet (fail)
          go_wp2
          refine bodyPost_ret (results_row_tmp2 rfl _ _ qR 25 _ (0, 0) _ rfl (set5c_heap HR.out) Tryz.underlying25 rfl size5r) rfl ?_
          exact ⟨by rw [← HX.out]; rfl, HEnd.out _ _ _ _ _ _ (Chg.drewN H5.out.2 _)⟩
    · rw [if_pos (by simp)] at HX
      go_quiet (fail)
      go_wp2
      refine bodyPost_ret (results_row_tmp2 rfl _ _ qR 25 _ (0, 0) _ rfl (set5c_heap HR.out) Tryz.underlying25 rfl size5r) rfl ?_
      exact ⟨by rw [← HX.out]; rfl, HEnd.out _ _ _ _ _ _ (Chg.drewN H5.out.2 _)⟩
end Go.Proofs.YtcomhlimgocoaaaGreatDoor
namespace Go.Proofs.YtcomhlimgocoaaaGreatDoor
open Go.RowKit
set_option linter.unusedVariables false
set_option linter.unusedSimpArgs false
theorem pgn_w (r : RS) : (r.wrong = true → (pgnS r).1.wrong = true) ∧ (pgnS r).1.outside = r.outside ∧ (pgnS r).1.o = r.o ∧ (pgnS r).1.d = r.d ∧ (pgnS r).1.s = r.s ∧ (pgnS r).1.f = r.f ∧ (pgnS r).1.i = r.i ∧ (pgnS r).1.tgt = r.tgt := by
  unfold pgnS skipP
  by_cases h : r.tok = [45]
  · simp [h, RS.next]
  · have := mark_f [43] r
    simp only [h, if_false, Bool.false_eq_true]
    exact this
theorem place_f (r : RS) : (r.wrong = true → (placeS r).1.wrong = true) ∧ (r.outside = true → (placeS r).1.outside = true) ∧ (placeS r).1.o = r.o ∧ (placeS r).1.d = r.d ∧ (placeS r).1.s = r.s ∧ (placeS r).1.f = r.f ∧ (placeS r).1.i = r.i ∧ (placeS r).1.tgt = r.tgt := by
  unfold placeS
  obtain ⟨a1, a2, a3, a4, a5, a6, a7, a8⟩ := mark_f [91] r
  obtain ⟨b1, b2, b3, b4, b5, b6, b7, b8⟩ := reg_f (markS [91] r)
  obtain ⟨c1, c2, c3, c4, c5, c6, c7, c8⟩ := pgn_w (regS (markS [91] r)).1
  obtain ⟨d1, d2, d3, d4, d5, d6, d7, d8⟩ := num_f (pgnS (regS (markS [91] r)).1).2 32768 32767 (pgnS (regS (markS [91] r)).1).1
  obtain ⟨e1, e2, e3, e4, e5, e6, e7, e8⟩ := mark_f [93] (numS (pgnS (regS (markS [91] r)).1).2 32768 32767 (pgnS (regS (markS [91] r)).1).1)
  exact ⟨fun h => e1 (d1 (c1 (b1 (a1 h)))), fun h => by rw [e2]; exact d2 (by rw [c2, b2, a2]; exact h), by rw [e3, d3, c3, b3, a3], by rw [e4, d4, c4, b4, a4], by rw [e5, d5, c5, b5, a5], by rw [e6, d6, c6, b6, a6], by rw [e7, d7, c7, b7, a7], by rw [e8, d8, c8, b8, a8]⟩
theorem sim_pgn {l : List UInt8} {r2 : RS} {t2 : S4} (s2 : Sim l r2 t2) : Sim l (numS (pgnS r2).2 32768 32767 (pgnS r2).1) (t2.sg l 32767 32768 true) ∧ ((numS (pgnS r2).2 32768 32767 (pgnS r2).1).wrong = false → (numS (pgnS r2).2 32768 32767 (pgnS r2).1).outside = false → numV (pgnS r2).2 16 (pgnS r2).1 = t2.sv l 32767 32768 true) := by
  rcases s2 with ⟨hw, hb⟩ | ⟨hw, hb, ho, hi, ht, hr⟩
  · have hx := (num_f (pgnS r2).2 32768 32767 (pgnS r2).1).1 ((pgn_w r2).1 hw)
    exact ⟨.inl ⟨hx, sg_bad hb⟩, fun e => by rw [hx] at e; cases e⟩
  · rcases sgn_cases hw ho hi ht hr with ⟨hp, h1, m⟩ | ⟨hp, h1, m⟩ | ⟨p1, p2, h1, h2, m⟩
    · have e : pgnS r2 = (r2.next, true) := by simp [pgnS, skipP, h1]
      rw [e]
      obtain ⟨q1, q2⟩ := sim_num (al := true) 32767 32768 m hb hi (by rw [hp]; rfl)
      exact ⟨q1, fun e1 e2 => by obtain ⟨x1, x2, x3⟩ := q2 e1 e2; exact (nv16 x1 x2).trans x3.symm⟩
    · have e : pgnS r2 = (r2.next, false) := by simp [pgnS, skipP, markS, h1]
      rw [e]
      obtain ⟨q1, q2⟩ := sim_num (al := true) 32767 32768 m hb hi (by rw [hp]; rfl)
      exact ⟨q1, fun e1 e2 => by obtain ⟨x1, x2, x3⟩ := q2 e1 e2; exact (nv16 x1 x2).trans x3.symm⟩
    · have e : (pgnS r2).1.wrong = true := by simp [pgnS, skipP, markS, h1, h2]
      have hx := (num_f (pgnS r2).2 32768 32767 (pgnS r2).1).1 e
      have hy : (t2.sg l 32767 32768 true).bad = true := by
        show (sgR l t2.k t2.bad t2.far 32767 32768 true).2.2.1 = true
        unfold sgR
        rw [if_pos (by simp [p1, p2])]
      exact ⟨.inl ⟨hx, hy⟩, fun e => by rw [hx] at e; cases e⟩
theorem sim_place {l : List UInt8} {r : RS} {t : S4} (h : Sim l r t) : Sim l (placeS r).1 (t.pl l) ∧ ((placeS r).1.wrong = false → (placeS r).1.outside = false → (placeS r).2.1 = t.pr l ∧ (placeS r).2.2 = t.pf l) := by
  have s1 := sim_mark (c := 91) h (by decide) (by decide)
  obtain ⟨s2, v2⟩ := sim_reg s1
  obtain ⟨s3, v3⟩ := sim_pgn s2
  have s4 := sim_mark (c := 93) s3 (by decide) (by decide)
  obtain ⟨e1, e2, _⟩ := mark_f [93] (numS (pgnS (regS (markS [91] r)).1).2 32768 32767 (pgnS (regS (markS [91] r)).1).1)
  obtain ⟨d1, _⟩ := num_f (pgnS (regS (markS [91] r)).1).2 32768 32767 (pgnS (regS (markS [91] r)).1).1
  obtain ⟨c1, _⟩ := pgn_w (regS (markS [91] r)).1
  refine ⟨s4, fun h1 h2 => ?_⟩
  have w3 := false_of e1 h1
  exact ⟨v2 (false_of c1 (false_of d1 w3)), v3 w3 (e2.symm.trans h2)⟩
theorem St.pS {l : List UInt8} {r : RS} {t : S4} {o d s f i : Int} {g : List UInt8} (h : St l r t o d s f i g) : St l { (placeS r).1 with s := (placeS r).2.1, f := (placeS r).2.2 } (t.pl l) o d (t.pr l) (t.pf l) i g := by
  obtain ⟨m1, m2, m3, m4, m5, m6, m7, m8⟩ := place_f r
  obtain ⟨s1, s2⟩ := sim_place h.sim
  refine ⟨s1, fun e1 e2 => ?_⟩
  obtain ⟨q1, q2, q3, q4, q5, q6⟩ := h.eq (false_of m1 e1) (false_of m2 e2)
  exact ⟨m3.trans q1, m4.trans q2, (s2 e1 e2).1, (s2 e1 e2).2, m7.trans q5, m8.trans q6⟩
theorem St.pD {l : List UInt8} {r : RS} {t : S4} {o d s f i : Int} {g : List UInt8} (h : St l r t o d s f i g) : St l { (placeS r).1 with d := (placeS r).2.1, f := (placeS r).2.2 } (t.pl l) o (t.pr l) s (t.pf l) i g := by
  obtain ⟨m1, m2, m3, m4, m5, m6, m7, m8⟩ := place_f r
  obtain ⟨s1, s2⟩ := sim_place h.sim
  refine ⟨s1, fun e1 e2 => ?_⟩
  obtain ⟨q1, q2, q3, q4, q5, q6⟩ := h.eq (false_of m1 e1) (false_of m2 e2)
  exact ⟨m3.trans q1, (s2 e1 e2).1, m5.trans q3, (s2 e1 e2).2, m7.trans q5, m8.trans q6⟩
def t3R (sh : Int) : Int × Int × Int := if sh = 1 then (1, 4, 0) else if sh = 8 then (1, 4, 7) else if sh = 2 then (1, 2, 0) else if sh = 3 then (1, 0, 0) else if sh = 4 then (1, 5, 0) else if sh = 5 then (6, 3, 0) else if sh = 6 then (6, 2, 0) else if sh = 7 then (7, 0, 0) else if sh = 9 then (8, 0, 0) else if sh = 11 then (1, 3, 0) else if sh = 12 then (1, 7, 0) else (0, 0, 0)
def rowB4 (r : Rw) : Bool := (meanOf r.w == some (r.op, (if r.sh = 12 then 1 else 0), r.off, r.imm)) && (tOf r.op (if r.sh = 12 then 1 else 0) r.off == t3R r.sh) && (!(r.sh == 1 || r.sh == 8) || (orB r.op == r.op + 8)) && ((r.op == 24) == (r.sh == 11 || r.sh == 12)) && (match r.w with | [] => false | c :: _ => letP (bI c)) && decide (1 ≤ r.sh ∧ r.sh ≤ 12)
theorem rowB_all : (rowsAll.all rowB4) = true := by decide +kernel
theorem mn_all : (mnAll.all (fun x => x.1.isEmpty || rowsAll.any (fun r => r.w == x.1))) = true := by decide +kernel
theorem mean_row {k : List UInt8} {m : Mn} (h : meanOf k = some m) : ∃ r ∈ rowsAll, r.w = k := by
  unfold meanOf at h
  split at h
  · cases h
  · rename_i hk
    unfold lastAt at h
    rw [Option.map_eq_some_iff] at h
    obtain ⟨x, hx, _⟩ := h
    have h1 : x.1 = k := by simpa using List.find?_some hx
    have h2 : x ∈ mnAll := List.mem_reverse.1 (List.mem_of_find?_eq_some hx)
    have h3 := List.all_eq_true.1 mn_all x h2
    rw [Bool.or_eq_true] at h3
    rcases h3 with h3 | h3
    · exact absurd (by rw [← h1]; exact List.isEmpty_iff.1 h3) hk
    · obtain ⟨r, hr, e⟩ := List.any_eq_true.1 h3
      exact ⟨r, hr, by rw [← h1]; simpa using e⟩
theorem row_of4 {r : Rw} (h : r ∈ rowsAll) : meanOf r.w = some (r.op, (if r.sh = 12 then 1 else 0), r.off, r.imm) ∧ tOf r.op (if r.sh = 12 then 1 else 0) r.off = t3R r.sh ∧ ((r.sh = 1 ∨ r.sh = 8) → orB r.op = r.op + 8) ∧ (r.op = 24 ↔ (r.sh = 11 ∨ r.sh = 12)) ∧ (∃ c v, r.w = c :: v ∧ letP (bI c) = true) ∧ 1 ≤ r.sh ∧ r.sh ≤ 12 := by
  have hb := List.all_eq_true.1 rowB_all r h
  unfold rowB4 at hb
  simp only [Bool.and_eq_true, decide_eq_true_eq] at hb
  obtain ⟨⟨⟨⟨⟨h1, h2⟩, h3⟩, h4⟩, h5⟩, h6⟩ := hb
  refine ⟨by simpa using h1, by simpa using h2, fun e => ?_, ?_, ?_, h6⟩
  · rcases e with e | e <;> simpa [e] using h3
  · have h4' : (r.op == 24) = (r.sh == 11 || r.sh == 12) := by simpa using h4
    rw [Bool.eq_iff_iff] at h4'
    simpa using h4'
  · cases hw : r.w with
    | nil => rw [hw] at h5; cases h5
    | cons c v => rw [hw] at h5; exact ⟨c, v, rfl, h5⟩
end Go.Proofs.YtcomhlimgocoaaaGreatDoor
namespace Go.Proofs.YtcomhlimgocoaaaGreatDoor
open Go.RowKit
set_option linter.unusedVariables false
set_option linter.unusedSimpArgs false
def StO (l : List UInt8) (r : RS) (x : PO) : Prop := St l r x.t x.o x.d x.s x.f x.i x.g
theorem regD_o {r : RS} : ({ (regS r).1 with d := (regS r).2 } : RS).o = r.o := (reg_f r).2.2.1
theorem mark_o {r : RS} {m : List UInt8} : (markS m r).o = r.o := (mark_f m r).2.2.1
theorem pD_o {r : RS} : ({ (placeS r).1 with d := (placeS r).2.1, f := (placeS r).2.2 } : RS).o = r.o := (place_f r).2.2.1
theorem opd_St {l : List UInt8} {r : RS} {t : S4} {w : Rw} (hw : w ∈ rowsAll) (ho : r.o = w.op) (h : St l r t w.op 0 (if w.sh = 12 then 1 else 0) w.off w.imm []) : StO l (opdL (t3R w.sh) r) (opdR4 w l t) := by
  obtain ⟨_, _, hor, h24, _, h1, h12⟩ := row_of4 hw
  have hsh : w.sh = 1 ∨ w.sh = 2 ∨ w.sh = 3 ∨ w.sh = 4 ∨ w.sh = 5 ∨ w.sh = 6 ∨ w.sh = 7 ∨ w.sh = 8 ∨ w.sh = 9 ∨ w.sh = 10 ∨ w.sh = 11 ∨ w.sh = 12 := by omega
  have n24 : ¬ (w.sh = 11 ∨ w.sh = 12) → ¬ w.op = 24 := fun a b => a (h24.1 b)
  obtain ⟨L, sh, op, off, imm⟩ := w
  simp only at *
  rcases hsh with rfl | rfl | rfl | rfl | rfl | rfl | rfl | rfl | rfl | rfl | rfl | rfl
  · have h0 : St l r t op 0 0 off imm [] := h
    show St l (srcS (markS [44] { (regS r).1 with d := (regS r).2 })) _ _ _ _ _ _ _
    exact St.src (h0.regD.mark) (by rw [mark_o, regD_o]; exact ho) (n24 (by omega)) (hor (.inl rfl))
  · have h0 : St l r t op 0 0 off imm [] := h
    exact h0.regD.mark.regS
  · have h0 : St l r t op 0 0 off imm [] := h
    exact h0.regD
  · have h0 : St l r t op 0 0 off imm [] := h
    exact h0.regD.mark.pS
  · have h0 : St l r t op 0 0 off imm [] := h
    show St l (immS (markS [44] { (placeS r).1 with d := (placeS r).2.1, f := (placeS r).2.2 })) _ _ _ _ _ _ _
    exact St.imm (h0.pD.mark) (by rw [mark_o, pD_o, ho]; exact n24 (by omega))
  · have h0 : St l r t op 0 0 off imm [] := h
    exact h0.pD.mark.regS
  · have h0 : St l r t op 0 0 off imm [] := h
    exact h0.name
  · have h0 : St l r t op 0 0 off imm [] := h
    show St l (nameS (markS [44] (srcS (markS [44] { (regS r).1 with d := (regS r).2 })))) _ _ _ _ _ _ _
    exact ((St.src (h0.regD.mark) (by rw [mark_o, regD_o]; exact ho) (n24 (by omega)) (hor (.inr rfl))).mark).name
  · have h0 : St l r t op 0 0 off imm [] := h
    have hO : ¬ r.o = 24 := by rw [ho]; exact n24 (by omega)
    show St l (helpS r) _ _ _ _ _ _ _
    have hA : St l (nameS { r with s := 1, i := -1 }) ((t.pk l).tg l) op 0 1 off (-1) (wdP l (t.pk l).k) :=
      St.name (r := { r with s := 1, i := -1 }) (o := op) (d := 0) (s := 1) (f := off) (i := -1) (g := []) ⟨h0.sim.pk, fun e1 e2 => by obtain ⟨q1, q2, q3, q4, q5, q6⟩ := h0.eq e1 e2; exact ⟨q1, q2, rfl, q4, rfl, q6⟩⟩
    have hB : St l (immS r) ((t.pk l).im l) op 0 0 off ((t.pk l).iv l) [] := St.imm ⟨h0.sim.pk, h0.eq⟩ hO
    rcases h0.sim with ⟨hw2, hb⟩ | ⟨hw2, hb, hou, hi, ht, hr⟩
    · have w1 : (helpS r).wrong = true := by
        unfold helpS
        split
        · show (r.wrong || !nameP r.tok) = true
          rw [hw2]; rfl
        · rcases hB.sim with h2 | h2
          · exact h2.1
          · have := h2.2.1; rw [show ((t.pk l).im l).bad = true from sg_bad (by exact hb)] at this; cases this
      have hbb : (opdR4 ⟨L, 9, op, off, imm⟩ l t).t.bad = true := by
        show (if letP ((pkP l t.k).toNat : Int) then (⟨op, 0, 1, off, -1, wdP l (t.pk l).k, (t.pk l).tg l⟩ : PO) else ⟨op, 0, 0, off, (t.pk l).iv l, [], (t.pk l).im l⟩).t.bad = true
        cases letP ((pkP l t.k).toNat : Int)
        · exact sg_bad (by exact hb)
        · show (t.bad || _) = true
          rw [hb]; rfl
      exact ⟨.inl ⟨w1, hbb⟩, fun e => by rw [w1] at e; cases e⟩
    · have hs := start_pk hi ht
      have hop : opdR4 ⟨L, 9, op, off, imm⟩ l t = if letP ((pkP l t.k).toNat : Int) then (⟨op, 0, 1, off, -1, wdP l (t.pk l).k, (t.pk l).tg l⟩ : PO) else ⟨op, 0, 0, off, (t.pk l).iv l, [], (t.pk l).im l⟩ := rfl
      rw [hop]
      unfold helpS
      rw [hs]
      cases letP ((pkP l t.k).toNat : Int)
      · exact hB
      · exact hA
  · exact h
  · have h0 : St l r t op 0 0 off imm [] := h
    show St l (immS (markS [44] { (regS r).1 with d := (regS r).2 })) _ _ _ _ _ _ _
    exact St.imm64 (h0.regD.mark) (by rw [mark_o, regD_o, ho]; exact h24.2 (.inl rfl))
  · have h0 : St l r t op 0 1 off imm [] := h
    exact h0.regD.mark.name
theorem rparse_eq (l : List UInt8) : rparseP l = parseP l := by
  have hi : (⟨0, false, false⟩ : S4).In l := Nat.zero_le _
  have h0 : l.drop 0 = l := rfl
  have ht : (newR l).tok = tokP l := rfl
  have hr : (newR l).rest = restP l := rfl
  have none40 : wdP l 0 = [] → meanOf (newR l).tok = none → rparseP l = parseP l := fun e1 e2 => by
    unfold rparseP parseP
    rw [if_pos e1, e2]
  have nolet : (∀ c, (newR l).tok.head? = some c → letP (bI c) = false) → meanOf (newR l).tok = none := fun hn => by
    cases e : meanOf (newR l).tok with
    | none => rfl
    | some m =>
      obtain ⟨r, hr, hw⟩ := mean_row e
      obtain ⟨_, _, _, _, ⟨c, v, hc, hl⟩, _⟩ := row_of4 hr
      have := hn c (by rw [← hw, hc]; rfl)
      rw [hl] at this; cases this
  rcases view4 l 0 (Nat.zero_le _) with ⟨hp, v1, v2, v3⟩ | ⟨x, hp, v0, v1, v2, v3, v4⟩ | ⟨x, hp, v0, v1, v2, v3⟩
  · refine none40 (by unfold wdP; rw [hp]; rfl) (nolet (fun c hc => ?_))
    rw [ht, ← h0, v1] at hc; cases hc
  · cases hL : letP (bI x)
    · refine none40 (by unfold wdP; rw [pk_bI hp, hL]; rfl) (nolet (fun c hc => ?_))
      rw [ht, ← h0, v2, v4] at hc; cases hc; exact hL
    · have hW : wdP l 0 = rnP l 0 := by unfold wdP; rw [pk_bI hp, hL]; rfl
      have hK : wdK l 0 = rnK l 0 := by unfold wdK; rw [pk_bI hp, hL]; rfl
      have v2' : tokP l = rnP l 0 := v2
      have hT : (newR l).tok = wdP l 0 := by rw [hW, ht, v2']
      have hne : ¬ wdP l 0 = [] := by rw [hW]; intro e; rw [e] at v4; cases v4
      unfold rparseP parseP
      rw [if_neg hne, hT]
      cases hP : Pw (wdP l 0) rowsAll with
      | nil =>
        have hm : meanOf (wdP l 0) = none := by
          cases e : meanOf (wdP l 0) with
          | none => rfl
          | some m =>
            obtain ⟨r, hr, hw⟩ := mean_row e
            have : r ∈ Pw (wdP l 0) rowsAll := List.mem_filter.2 ⟨hr, by simp [hw]⟩
            rw [hP] at this; cases this
        rw [hm]
      | cons w ws =>
        have hmem : w ∈ Pw (wdP l 0) rowsAll := by rw [hP]; exact List.mem_cons_self
        obtain ⟨hw, hww⟩ := List.mem_filter.1 hmem
        have hw2 : wdP l 0 = w.w := by simpa using hww
        obtain ⟨e1, e2, _⟩ := row_of4 hw
        rw [hw2, e1]
        simp only
        have hB : behindS (w.op, (if w.sh = 12 then 1 else 0), w.off, w.imm) (newR l) = opsS (t3R w.sh) (RS.next { newR l with o := w.op, d := 0, s := (if w.sh = 12 then 1 else 0), f := w.off, i := w.imm }) := by
          unfold behindS
          rw [e2]
        rw [hB]
        have hS : St l (RS.next { newR l with o := w.op, d := 0, s := (if w.sh = 12 then 1 else 0), f := w.off, i := w.imm }) (s40 l) w.op 0 (if w.sh = 12 then 1 else 0) w.off w.imm [] := by
          refine ⟨.inr ⟨rfl, rfl, rfl, wdK_le (Nat.zero_le _), ?_, ?_⟩, fun _ _ => ⟨rfl, rfl, rfl, rfl, rfl, rfl⟩⟩
          · show tokP (restP l) = tokP (l.drop (wdK l 0))
            rw [hK, ← v3, h0]
          · show restP (restP l) = restP (l.drop (wdK l 0))
            rw [hK, ← v3, h0]
        have hF := opd_St hw rfl hS
        generalize RS.next { newR l with o := w.op, d := 0, s := (if w.sh = 12 then 1 else 0), f := w.off, i := w.imm } = R0 at *
        unfold opsS
        generalize opdL (t3R w.sh) R0 = F at *
        generalize opdR4 w l (s40 l) = X at *
        obtain ⟨hs, heq⟩ := hF
        rcases hs with ⟨hw3, hb⟩ | ⟨hw3, hb, hou, hin, htk, hrs⟩
        · rw [if_pos (by show (X.t.bad || _) = true; rw [hb]; rfl), if_pos (by show (F.wrong || _) = true; rw [hw3]; rfl)]
        · have hkey : decide ((X.t.pk l).k < l.length) = !F.tok.isEmpty := by
            show decide (blK l X.t.k < l.length) = _
            rcases view4 l X.t.k hin with ⟨_, u1, _, u3⟩ | ⟨y, _, u0, u1, u2, _, u4⟩ | ⟨y, _, u0, u1, u2, _⟩
            · rw [htk, u1, u3]; simp
            · rw [htk, u2, decide_eq_true u0]
              cases hR : rnP l X.t.k with
              | nil => rw [hR] at u4; cases u4
              | cons a b => rfl
            · rw [htk, u2, decide_eq_true u0]; rfl
          have hb2 : (X.t.pk l).bad = false := hb
          have hf2 : (X.t.pk l).far = F.outside := hou.symm
          rw [hb2, hf2, hkey, hw3]
          simp only [Bool.false_or]
          cases hE : F.tok.isEmpty
          · rw [if_pos (by rfl), if_pos (by rfl)]
          · cases hO : F.outside
            · obtain ⟨q1, q2, q3, q4, q5, q6⟩ := heq hw3 hO
              simp only [Bool.not_true, Bool.false_eq_true, if_false, q1, q2, q3, q4, q5, q6]
            · simp only [Bool.not_true, Bool.false_eq_true, if_false, if_true]
  · have hL : letP (bI x) = false := by cases h : letP (bI x) <;> simp_all
    refine none40 (by unfold wdP; rw [pk_bI hp, hL]; rfl) (nolet (fun c hc => ?_))
    rw [ht, ← h0, v2] at hc; cases hc; exact hL
end Go.Proofs.YtcomhlimgocoaaaGreatDoor
namespace Go.Proofs.YtcomhlimgocoaaaGreatDoor
open Go.ChangeShapes Go.WideShapes Go.ChangeAt Go.RowKit Go.Deep
set_option linter.unusedVariables false
set_option linter.unusedSimpArgs false
/-- texts in a row -/
def TxAt (w : World) (a : Option Addr) (l : List (List UInt8)) : Prop := l = [] ∨ ∃ b off, a = some ⟨b, off, none⟩ ∧ ∀ k y, l[k]? = some y → w.cell? ⟨b, off + k, none⟩ = some (.string ⟨y.toArray⟩)
set_option maxRecDepth 20000 in
set_option maxHeartbeats 4000000 in
theorem lineParses_walk (a : Option Addr) (cap : Nat) (l : List (List UInt8)) (w : World) (hE : AEnv w) (ha : TxAt w a l) (hn : l.length ≤ 140737488355328) (hcp : l.length ≤ cap) (hk : ∀ y ∈ l, y.length ≤ 140737488355328) : Calls Tryz.prog 4 #[.slice a l.length cap] w fun e w' => e = .returned (.bool true) ∧ Out w w' := by
  have CA := hidOf (fun wx (ho : Out w wx) => awake_any wx (hE.out ho))
  have CA0 := hidOf (CA.out w (Out.refl w))
  have HK := hidOf hk
  have HA := hidOf ha
  have HEn := hidOf hE
  obtain ⟨n, hnn⟩ : ∃ n, l.length = n := ⟨_, rfl⟩
  rw [hnn] at hn hcp ⊢
  have Hn := hidOf hnn
  have hcI : (n : Int) ≤ cap := by omega
  clear hk ha hE hnn CA
  go_enter Tryz.func4, Tryz.ntmps4
  go_wp2_with (go_at_call 7; refine CA0.out.mono ?_; rintro e w1 ⟨rfl, ho⟩; have O1 := hidOf ho; clear ho)
  clear CA0
  go_loopw [3] (fun kv wr => ∃ k : Nat, kv = .int .i64 k ∧ k ≤ n ∧ Hid (Out w wr)) (fun kv _ => n - (intOf kv).toNat)
  case atStart => exact ⟨0, rfl, by omega, O1⟩
  case round =>
    clear O1
    obtain ⟨k, rfl, hkn, HO⟩ := hrel
    by_cases hlt : k < n
    · have hltI : (k : Int) < n := by omega
      have hk0 : (0 : Int) ≤ k := by omega
      obtain ⟨y, hy⟩ : ∃ y, l[k]? = some y := ⟨_, List.getElem?_eq_getElem (by rw [Hn.out]; exact hlt)⟩
      obtain ⟨b, off, rfl, hc⟩ : ∃ b off, a = some ⟨b, off, none⟩ ∧ ∀ k y, l[k]? = some y → w.cell? ⟨b, off + k, none⟩ = some (.string ⟨y.toArray⟩) := by
        rcases HA.out with h | h
        · rw [h] at hy; simp at hy
        · exact h
      have hc0 := hc k y hy
      have HC := hidOf (fun wx (ho : Out w wx) => cell_later ho hc0)
      have hyl := HK.out y (List.mem_of_getElem? hy)
      have CP := hidOf (fun wx (ho : Out w wx) => parse_any wx y (HEn.out.out ho).1 hyl)
      have CR := hidOf (fun wx => rparse4_any wx y hyl)
      rw [rparse_eq] at CR
      generalize parseP y = P at *
      obtain ⟨o, d, s, f, i, tg, ec⟩ := P
      simp only at CP CR
      have d0 := HC.out wr HO.out
      clear hc hc0 hy hyl
      go_upto_region 7 with (go_at_call 11; refine (CP.out _ HO.out).mono ?_; rintro e w2 ⟨rfl, ho⟩; have O2 := hidOf (HO.out.trans ho); clear ho)
      clear d0
      obtain ⟨wB, hwB⟩ : ∃ wB, wB = w2.alloc (.cells #[.int .i64 o, .int .i64 d, .int .i64 s, .int .i64 f, .int .i64 i] 25) := ⟨_, rfl⟩
      obtain ⟨q, hq⟩ : ∃ q, q = w2.heap.size := ⟨_, rfl⟩
      have oB : Out w wB := by rw [hwB]; exact O2.out.alloc _
      have hB : wB.heap[q]? = some (.cells #[.int .i64 o, .int .i64 d, .int .i64 s, .int .i64 f, .int .i64 i] 25 (0, 0)) := by rw [hwB, hq]; exact heap_alloc_new _ _
      have HB := hidOf (fun wx (ox : Out wB wx) => blk_out ox hB)
      rw [← hwB, ← hq]
      have OB := hidOf oB
      have d0 := HC.out wB oB
      clear hwB hq oB hB
      go_upto_region 8 with (go_at_call 12; refine (CR.out _).mono ?_; rintro e w3 ⟨rfl, ho⟩; have O3 := hidOf ho; clear ho)
      clear d0
      obtain ⟨wD, hwD⟩ : ∃ wD, wD = w3.alloc (.cells #[.int .i64 o, .int .i64 d, .int .i64 s, .int .i64 f, .int .i64 i] 25) := ⟨_, rfl⟩
      obtain ⟨q2, hq2⟩ : ∃ q2, q2 = w3.heap.size := ⟨_, rfl⟩
      have oD : Out wB wD := by rw [hwD]; exact O3.out.alloc _
      have hD : wD.heap[q2]? = some (.cells #[.int .i64 o, .int .i64 d, .int .i64 s, .int .i64 f, .int .i64 i] 25 (0, 0)) := by rw [hwD, hq2]; exact heap_alloc_new _ _
      have hB2 := HB.out wD oD
      rw [← hwD, ← hq2]
      have OD := hidOf oD
      have x0 : wD.cell? ⟨q, 0, none⟩ = some (.int .i64 o) := by rw [cell_atL hB2]; rfl
      have x1 : wD.cell? ⟨q, 1, none⟩ = some (.int .i64 d) := by rw [cell_atL hB2]; rfl
      have x2 : wD.cell? ⟨q, 2, none⟩ = some (.int .i64 s) := by rw [cell_atL hB2]; rfl
      have x3 : wD.cell? ⟨q, 3, none⟩ = some (.int .i64 f) := by rw [cell_atL hB2]; rfl
      have x4 : wD.cell? ⟨q, 4, none⟩ = some (.int .i64 i) := by rw [cell_atL hB2]; rfl
      have y0 : wD.cell? ⟨q2, 0, none⟩ = some (.int .i64 o) := by rw [cell_atL hD]; rfl
      have y1 : wD.cell? ⟨q2, 1, none⟩ = some (.int .i64 d) := by rw [cell_atL hD]; rfl
      have y2 : wD.cell? ⟨q2, 2, none⟩ = some (.int .i64 s) := by rw [cell_atL hD]; rfl
      have y3 : wD.cell? ⟨q2, 3, none⟩ = some (.int .i64 f) := by rw [cell_atL hD]; rfl
      have y4 : wD.cell? ⟨q2, 4, none⟩ = some (.int .i64 i) := by rw [cell_atL hD]; rfl
      clear hwD hq2 oD hD hB2
      go_wp2_with (go_at_call 10; refine (num_any _ _).mono ?_; rintro e wn ⟨rfl, hw⟩; have hw := hw.symm; subst hw)
      go_roundw
      case rel => exact ⟨k + 1, by simp, by omega, hidOf (OB.out.trans OD.out)⟩
      case measure => simp [intOf]; omega
    · have hltI : ¬ (k : Int) < n := by omega
      go_wp2
      go_ret
      exact ⟨rfl, HO.out⟩
theorem bStr : Tryz.prog.bytesOf 9 = 16 := by kernel_rfl
theorem weights_memS {H : Type} {P : Program} {e : TypeId} : ∀ {l : List (DataW H)}, (DataW.weightsAll P e l).all (· ≤ reachBytes) = true → ∀ d ∈ l, (d.weights P e).all (· ≤ reachBytes) = true
  | [], _, d, hd => by cases hd
  | x :: r, h, d, hd => by
    simp only [DataW.weightsAll, List.all_append, Bool.and_eq_true] at h
    rcases List.mem_cons.1 hd with rfl | hd
    · exact h.1
    · exact weights_memS h.2 d hd
theorem list_ofS {α : Type} (P : Nat → α → Prop) : ∀ n, (∀ i, i < n → ∃ x, P i x) → ∃ l : List α, l.length = n ∧ ∀ i x, l[i]? = some x → P i x
  | 0, _ => ⟨[], rfl, fun i x h => by simp at h⟩
  | n + 1, h => by
    obtain ⟨l, hl, hp⟩ := list_ofS P n (fun i hi => h i (by omega))
    obtain ⟨x, hx⟩ := h n (by omega)
    refine ⟨l ++ [x], by simp [hl], fun i y hy => ?_⟩
    by_cases hi : i < n
    · rw [List.getElem?_append_left (by omega)] at hy; exact hp i y hy
    · have : i < n + 1 := by have := (List.getElem?_eq_some_iff.1 hy).1; simp [hl] at this; exact this
      obtain rfl : i = n := by omega
      rw [List.getElem?_append_right (by omega)] at hy
      simp [hl] at hy
      subst hy; exact hx
set_option maxRecDepth 20000 in
/-- texts that came in -/
theorem open_texts {H : Type} {enc : TypeId × Value → H} {w : World} {base : Nat} {spare : Nat → Bool} {held : Bool} {fuel : Nat} {a : Option Addr} {len cap : Nat} {x : DataW H × List MemPlace}
    (h : DataW.trod enc Tryz.prog w base spare held fuel 35 [.slice a len cap] = some x) (hw : (x.1.weights Tryz.prog 35).all (· ≤ reachBytes) = true) : ∃ ts : List (List UInt8), ts.length = len ∧ TxAt w a ts ∧ len ≤ cap ∧ len ≤ 140737488355328 ∧ ∀ y ∈ ts, y.length ≤ 140737488355328 := by
  rcases open_slice Tryz.underlying35 h with ⟨hcs, rfl⟩ | ⟨ad, l, c, m, n, D, Pl, hcs, hb, hl, hm, hmm, rfl, hx⟩
  · simp at hcs
    obtain ⟨rfl, rfl, rfl⟩ := hcs
    exact ⟨[], rfl, .inl rfl, Nat.le_refl _, Nat.zero_le _, by simp⟩
  · simp at hcs
    obtain ⟨rfl, rfl, rfl⟩ := hcs
    simp only [DataW.weights, Tryz.underlying35, bStr, List.all_cons, List.all_append, Bool.and_eq_true, List.length_map, List.length_range] at hw
    have hwl : (len + (m - len)) * 16 ≤ 140737488351232 := of_decide_eq_true hw.1
    have hwe := hw.2.1
    by_cases z : len = 0
    · subst z; exact ⟨[], rfl, .inl rfl, hl, by omega, by simp⟩
    have hlm : len ≤ m := by rw [hmm]; split <;> omega
    obtain ⟨b, off, spot⟩ := ad
    have hs : spot = none := by
      obtain ⟨cs', h1, h2⟩ := hx 0 (by omega)
      simp only [cStr] at h1
      obtain ⟨_, hlen, hcell⟩ := World.cells?_some h1
      match cs', hlen with
      | [v0], _ =>
        have e0 : w.cell? (((⟨b, off, spot⟩ : Addr).add (0 * 1)).add 0) = some v0 := hcell 0 (by simp)
        simpa [Addr.add] using World.cell?_spot e0
    subst hs
    have key : ∀ i, i < len → ∃ y : List UInt8, w.cell? ⟨b, off + i, none⟩ = some (.string ⟨y.toArray⟩) ∧ y.length ≤ 140737488355328 := by
      intro i hi
      obtain ⟨cs', h1, h2⟩ := hx i (by omega)
      simp only [cStr] at h1
      obtain ⟨_, hlen, hcell⟩ := World.cells?_some h1
      have hwi := weights_memS hwe (D i) (List.mem_map.2 ⟨i, List.mem_range.2 hi, rfl⟩)
      match cs', hlen with
      | [v0], _ =>
        have e0 := hcell 0 (by simp)
        simp only [add_plain] at e0
        simp at e0
        obtain ⟨B, r5, q5, _⟩ := DataW.trod_string Tryz.underlying9 h2
        have hD : D i = .lit (.string B.data.toList) := congrArg Prod.fst q5
        rw [hD] at hwi
        obtain ⟨lt, rfl⟩ : ∃ lt : List UInt8, B = ⟨lt.toArray⟩ := ⟨B.data.toList, by simp⟩
        simp at r5
        subst r5
        exact ⟨lt, e0, str_weight hwi⟩
    obtain ⟨l, hl1, hp⟩ := list_ofS _ len key
    refine ⟨l, hl1, .inr ⟨b, off, rfl, fun k y hy => (hp k y hy).1⟩, hl, by omega, fun y hy => ?_⟩
    obtain ⟨i, hi⟩ := List.getElem?_of_mem hy
    exact (hp i y hi).2
end Go.Proofs.YtcomhlimgocoaaaGreatDoor
