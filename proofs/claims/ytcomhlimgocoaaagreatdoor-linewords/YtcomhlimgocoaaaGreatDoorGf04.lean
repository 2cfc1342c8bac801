import Derived.Test.YtcomhlimgocoaaaGreatDoorGf03
import Derived.Test.YtcomhlimgocoaaaGreatDoorGc42
import Derived.Test.YtcomhlimgocoaaaGreatDoorGf01
import Derived.Test.YtcomhlimgocoaaaGreatDoorGe00
import Derived.Test.YtcomhlimgocoaaaGreatDoorGe02
import Derived.Test.YtcomhlimgocoaaaGreatDoorGc52
import Derived.Laws.Bits64b
namespace Go.Proofs.YtcomhlimgocoaaaGreatDoor
open Go.RowKit
set_option linter.unusedVariables false
set_option linter.unusedSimpArgs false
set_option maxRecDepth 20000 in
set_option maxHeartbeats 4000000 in
theorem places4a_any (w0 w : World) (pb : Nat) (o : Int) (h : Pa w0 w pb (Pal (rwA ++ rwB ++ rwC)) o []) : Calls Tryz.prog 71 #[.pointer (some ⟨pb, 0, none⟩)] w fun e w' => (∃ q, e = .returned q) ∧ Pa w0 w' pb (Pal (rwA ++ rwB ++ rwC ++ rwD ++ rwE ++ rwF)) o [] := by
  have H := hidOf h
  clear h
  obtain ⟨S0, hS0⟩ : ∃ S0, S0 = rwA ++ rwB ++ rwC := ⟨_, rfl⟩
  have hSl : S0.length = 44 := by rw [hS0]; rfl
  rw [← hS0] at H ⊢
  obtain ⟨FL, hFL⟩ : ∃ FL, FL = S0 ++ rwD ++ rwE ++ rwF := ⟨_, rfl⟩
  rw [← hFL]
  have HFL := hidOf hFL
  clear hS0 hFL
  go_enter Tryz.func71, Tryz.ntmps71
  go_upto_region 1 with fail
  obtain ⟨q1, hq1⟩ : ∃ q1, q1 = w.heap.size := ⟨_, rfl⟩
  obtain ⟨qw, hqw⟩ : ∃ qw, qw = w.alloc (.cells mWdC 134) := ⟨_, rfl⟩
  have bq1 : qw.heap[q1]? = some (.cells mWdC 134 (0, 0)) := by rw [hqw, hq1]; exact heap_alloc_new w _
  have oq : Out w qw := by rw [hqw]; exact (Out.refl w).alloc _
  change Code.wp _ _ _ _ (w.alloc (.cells mWdC 134))
  rw [← hqw, ← hq1]
  have Bq1 := hidOf bq1
  have H0 : Hid (Pa w0 qw pb (Pal (S0 ++ rwD.take (3 * 0))) o []) := hidOf (by have := H.out.on oq; simpa using this)
  clear H oq bq1 hqw hq1
  go_wp2
  go_loopw [3] (fun iv wr => ∃ i : Nat, iv = .int .i64 i ∧ i ≤ 4 ∧ Hid (Pa w0 wr pb (Pal (S0 ++ rwD.take (3 * i))) o []) ∧ Hid (wr.heap[q1]? = some (.cells mWdC 134 (0, 0)))) (fun iv _ => 4 - (intOf iv).toNat)
  case atStart => exact ⟨0, rfl, by omega, H0, Bq1⟩
  case round =>
    clear H0 Bq1
    obtain ⟨i, rfl, hi, HP_0, B1_0⟩ := hrel
    by_cases hin : i < 4
    · have hiI : (i : Int) < 4 := by omega
      have hi0 : (0 : Int) ≤ i := by omega
      have c1_0 : wr.cell? ⟨q1, i, none⟩ = some (.string ⟨(mWd i).toArray⟩) := by rw [cell_atL B1_0.out]; exact mWd_at i hin
      obtain ⟨hl1, hl2⟩ := mWd_len i hin
      have HS := hidOf (sM i hin)
      obtain ⟨A, hA⟩ : ∃ A, A = mWd i := ⟨_, rfl⟩
      rw [← hA] at HS c1_0 hl1 hl2
      clear hA
      obtain ⟨L0, hL0⟩ : ∃ L0, L0 = S0 ++ rwD.take (3 * i) := ⟨_, rfl⟩
      have hLl : L0.length ≤ 100 := by
        have : (rwD.take (3 * i)).length ≤ 12 := Nat.le_trans (List.length_take_le' _ _) (by decide)
        rw [hL0, List.length_append, hSl]; omega
      rw [← hL0] at HP_0
      have HL0 := hidOf hL0
      clear hL0
      have C1 : Hid (∀ wx, Pa w0 wx pb (Pal (L0)) o [] → Calls Tryz.prog 118 #[.pointer (some ⟨pb, 0, none⟩), .string ⟨#[108, 100, 120]⟩, .string ⟨A.toArray⟩, .int .i64 4, .int .i64 (97 + 8 * (i : Int)), .int .i64 0, .int .i64 0] wx fun e w' => (∃ q, e = .returned q) ∧ Pa w0 w' pb (Pal ((L0) ++ [⟨[108, 100, 120] ++ A, 4, (97 + 8 * (i : Int)), 0, 0⟩])) o [] ∧ FrK wx w') := hidOf (fun wx hx => add4a_any w0 wx pb _ o hx (by omega) ([108, 100, 120]) (A) (by first | omega | (simp; done) | (simp; omega)) (by first | omega | (simp; done) | (simp; omega)) (by first | omega | (simp; done) | (simp; omega)) 4 ((97 + 8 * (i : Int))) 0 (0) (by omega) (by omega) ([108, 100, 120] ++ A) (by first | rfl | simp))
      have C2 : Hid (∀ wx, Pa w0 wx pb (Pal (L0 ++ [⟨[108, 100, 120] ++ A, 4, 97 + 8 * (i : Int), 0, 0⟩])) o [] → Calls Tryz.prog 118 #[.pointer (some ⟨pb, 0, none⟩), .string ⟨#[115, 116]⟩, .string ⟨A.toArray⟩, .int .i64 5, .int .i64 (98 + 8 * (i : Int)), .int .i64 0, .int .i64 0] wx fun e w' => (∃ q, e = .returned q) ∧ Pa w0 w' pb (Pal ((L0 ++ [⟨[108, 100, 120] ++ A, 4, 97 + 8 * (i : Int), 0, 0⟩]) ++ [⟨[115, 116] ++ A, 5, (98 + 8 * (i : Int)), 0, 0⟩])) o [] ∧ FrK wx w') := hidOf (fun wx hx => add4a_any w0 wx pb _ o hx (by simp; omega) ([115, 116]) (A) (by first | omega | (simp; done) | (simp; omega)) (by first | omega | (simp; done) | (simp; omega)) (by first | omega | (simp; done) | (simp; omega)) 5 ((98 + 8 * (i : Int))) 0 (0) (by omega) (by omega) ([115, 116] ++ A) (by first | rfl | simp))
      have C3 : Hid (∀ wx, Pa w0 wx pb (Pal (L0 ++ [⟨[108, 100, 120] ++ A, 4, 97 + 8 * (i : Int), 0, 0⟩] ++ [⟨[115, 116] ++ A, 5, 98 + 8 * (i : Int), 0, 0⟩])) o [] → Calls Tryz.prog 118 #[.pointer (some ⟨pb, 0, none⟩), .string ⟨#[115, 116, 120]⟩, .string ⟨A.toArray⟩, .int .i64 6, .int .i64 (99 + 8 * (i : Int)), .int .i64 0, .int .i64 0] wx fun e w' => (∃ q, e = .returned q) ∧ Pa w0 w' pb (Pal ((L0 ++ [⟨[108, 100, 120] ++ A, 4, 97 + 8 * (i : Int), 0, 0⟩] ++ [⟨[115, 116] ++ A, 5, 98 + 8 * (i : Int), 0, 0⟩]) ++ [⟨[115, 116, 120] ++ A, 6, (99 + 8 * (i : Int)), 0, 0⟩])) o [] ∧ FrK wx w') := hidOf (fun wx hx => add4a_any w0 wx pb _ o hx (by simp; omega) ([115, 116, 120]) (A) (by first | omega | (simp; done) | (simp; omega)) (by first | omega | (simp; done) | (simp; omega)) (by first | omega | (simp; done) | (simp; omega)) 6 ((99 + 8 * (i : Int))) 0 (0) (by omega) (by omega) ([115, 116, 120] ++ A) (by first | rfl | simp))
      clear hl1 hl2 hLl
      go_upto_region 4 with fail
      go_upto_region 5 with (go_at_call 118; refine (C1.out _ HP_0.out).mono ?_; rintro e u1 ⟨⟨y2, rfl⟩, hp, hf⟩; have HP_1 := hidOf hp; have F_1 := hidOf hf; have c1_1 : u1.cell? ⟨q1, i, none⟩ = some (.string ⟨A.toArray⟩) := (by rw [cell_atL (F_1.out _ _ _ _ B1_0.out (by decide) (by decide)), ← cell_atL B1_0.out]; exact c1_0); clear hp hf)
      have B1_1 := hidOf (F_1.out _ _ _ _ B1_0.out (by decide) (by decide))
      clear c1_0 HP_0 F_1 B1_0
      go_upto_region 6 with (go_at_call 118; refine (C2.out _ HP_1.out).mono ?_; rintro e u2 ⟨⟨y2, rfl⟩, hp, hf⟩; have HP_2 := hidOf hp; have F_2 := hidOf hf; have c1_2 : u2.cell? ⟨q1, i, none⟩ = some (.string ⟨A.toArray⟩) := (by rw [cell_atL (F_2.out _ _ _ _ B1_1.out (by decide) (by decide)), ← cell_atL B1_1.out]; exact c1_1); clear hp hf)
      have B1_2 := hidOf (F_2.out _ _ _ _ B1_1.out (by decide) (by decide))
      clear c1_1 HP_1 F_2 B1_1
      go_wp2_with (go_at_call 118; refine (C3.out _ HP_2.out).mono ?_; rintro e u3 ⟨⟨y2, rfl⟩, hp, hf⟩; have HP_3 := hidOf hp; have F_3 := hidOf hf; clear hp hf)
      have HQ : Hid (Pa w0 u3 pb (Pal (S0 ++ rwD.take (3 * (i + 1)))) o []) := hidOf (by
        have h := HP_3.out
        rw [HL0.out] at h
        rw [HS.out]
        simpa using h)
      have B1_3 := hidOf (F_3.out _ _ _ _ B1_2.out (by decide) (by decide))
      clear HP_3 HS HL0 c1_2 B1_2
      go_roundw
      case rel => exact ⟨i + 1, by simp, by omega, HQ, B1_3⟩
      case measure => simp [intOf]; omega
    · have hiI : ¬ (i : Int) < 4 := by omega
      obtain rfl : i = 4 := by omega
      have HP0 : Hid (Pa w0 wr pb (Pal (S0 ++ rwD)) o []) := hidOf HP_0.out
      have hl0 : (S0 ++ rwD).length = 56 := by rw [List.length_append, hSl]; rfl
      clear HP_0 B1_0
      go_upto_region 7 with fail
      have C0 := hidOf (add4a_any w0 _ pb _ o HP0.out (by omega) [108, 100, 120, 115, 119] [] (by decide) (by decide) (by decide) 4 129 0 0 (by omega) (by omega) [108, 100, 120, 115, 119] rfl)
      go_upto_region 8 with (go_at_call 118; refine C0.out.mono ?_; rintro e x0 ⟨⟨y0, rfl⟩, hp, hf⟩; have HP1 := hidOf hp; clear hp hf)
      have hl1 : (S0 ++ rwD ++ [(⟨[108, 100, 120, 115, 119], 4, 129, 0, 0⟩ : Rw)]).length = 57 := by rw [List.length_append, hl0]; rfl
      clear C0 HP0 hl0
      have C1 := hidOf (add4a_any w0 _ pb _ o HP1.out (by omega) [108, 100, 120, 115, 104] [] (by decide) (by decide) (by decide) 4 137 0 0 (by omega) (by omega) [108, 100, 120, 115, 104] rfl)
      go_upto_region 9 with (go_at_call 118; refine C1.out.mono ?_; rintro e x1 ⟨⟨y1, rfl⟩, hp, hf⟩; have HP2 := hidOf hp; clear hp hf)
      have hl2 : (S0 ++ rwD ++ [(⟨[108, 100, 120, 115, 119], 4, 129, 0, 0⟩ : Rw)] ++ [(⟨[108, 100, 120, 115, 104], 4, 137, 0, 0⟩ : Rw)]).length = 58 := by rw [List.length_append, hl1]; rfl
      clear C1 HP1 hl1
      have C2 := hidOf (add4a_any w0 _ pb _ o HP2.out (by omega) [108, 100, 120, 115, 98] [] (by decide) (by decide) (by decide) 4 145 0 0 (by omega) (by omega) [108, 100, 120, 115, 98] rfl)
      go_upto_region 10 with (go_at_call 118; refine C2.out.mono ?_; rintro e x2 ⟨⟨y2, rfl⟩, hp, hf⟩; have HP3 := hidOf hp; clear hp hf)
      have hl3 : (S0 ++ rwD ++ [(⟨[108, 100, 120, 115, 119], 4, 129, 0, 0⟩ : Rw)] ++ [(⟨[108, 100, 120, 115, 104], 4, 137, 0, 0⟩ : Rw)] ++ [(⟨[108, 100, 120, 115, 98], 4, 145, 0, 0⟩ : Rw)]).length = 59 := by rw [List.length_append, hl2]; rfl
      clear C2 HP2 hl2
      go_upto_region 12 with fail
      obtain ⟨r1, hr1⟩ : ∃ r1, r1 = x2.heap.size := ⟨_, rfl⟩
      obtain ⟨r2, hr2⟩ : ∃ r2, r2 = x2.heap.size + 1 := ⟨_, rfl⟩
      obtain ⟨rw, hrw⟩ : ∃ rw, rw = (x2.alloc (.cells aWC 159)).alloc (.cells aIC 160) := ⟨_, rfl⟩
      have hsr : (x2.alloc (.cells aWC 159)).heap.size = x2.heap.size + 1 := size_alloc _ _
      have br1 : rw.heap[r1]? = some (.cells aWC 159 (0, 0)) := by
        rw [hrw, hr1]
        exact blk_out ((Out.refl _).alloc _) (heap_alloc_new x2 _)
      have br2 : rw.heap[r2]? = some (.cells aIC 160 (0, 0)) := by
        rw [hrw, hr2, ← hsr]
        exact heap_alloc_new (x2.alloc (.cells aWC 159)) _
      have or : Out x2 rw := by rw [hrw]; exact ((Out.refl x2).alloc _).alloc _
      change Code.wp _ _ _ _ ((x2.alloc (.cells aWC 159)).alloc (.cells aIC 160))
      rw [← hrw, ← hr2, ← hr1]
      have Br1 := hidOf br1
      have Br2 := hidOf br2
      have Or := hidOf or
      clear hrw hr1 hr2 hsr br1 br2 or
      have H8 : Hid (Pa w0 rw pb (Pal (S0 ++ rwD ++ rwE ++ rwF.take (2 * 0))) o []) := hidOf (by have := HP3.out.on Or.out; simpa [rwE] using this)
      clear HP3 Or hl3
      go_wp2
      go_loopw [6] (fun iv wr => ∃ i : Nat, iv = .int .i64 i ∧ i ≤ 10 ∧ Hid (Pa w0 wr pb (Pal (S0 ++ rwD ++ rwE ++ rwF.take (2 * i))) o []) ∧ Hid (wr.heap[r1]? = some (.cells aWC 159 (0, 0))) ∧ Hid (wr.heap[r2]? = some (.cells aIC 160 (0, 0)))) (fun iv _ => 10 - (intOf iv).toNat)
      case atStart => exact ⟨0, rfl, by omega, H8, Br1, Br2⟩
      case round =>
        clear H8 Br1 Br2
        obtain ⟨i, rfl, hi, HP_0, B1_0, B2_0⟩ := hrel
        by_cases hin : i < 10
        · have hiI : (i : Int) < 10 := by omega
          have hi0 : (0 : Int) ≤ i := by omega
          have c1_0 : wr.cell? ⟨r1, i, none⟩ = some (.string ⟨(aW i).toArray⟩) := by rw [cell_atL B1_0.out]; exact aW_at i hin
          have c2_0 : wr.cell? ⟨r2, i, none⟩ = some (.int .i64 (aI i)) := by rw [cell_atL B2_0.out]; exact aI_at i hin
          obtain ⟨hl1, hl2⟩ := aW_len i hin
          have HS := hidOf (sF i hin)
          obtain ⟨A, hA⟩ : ∃ A, A = aW i := ⟨_, rfl⟩
          obtain ⟨cd, hcd⟩ : ∃ cd, cd = aI i := ⟨_, rfl⟩
          rw [← hA, ← hcd] at HS
          rw [← hA] at c1_0 hl1 hl2
          rw [← hcd] at c2_0
          clear hA hcd
          obtain ⟨L0, hL0⟩ : ∃ L0, L0 = S0 ++ rwD ++ rwE ++ rwF.take (2 * i) := ⟨_, rfl⟩
          have hLl : L0.length ≤ 100 := by
            have : (rwF.take (2 * i)).length ≤ 20 := Nat.le_trans (List.length_take_le' _ _) (by decide)
            rw [hL0, List.length_append, List.length_append, List.length_append, hSl, show rwD.length = 12 from rfl, show rwE.length = 3 from rfl]; omega
          rw [← hL0] at HP_0
          have HL0 := hidOf hL0
          clear hL0
          have C1 : Hid (∀ wx, Pa w0 wx pb (Pal (L0)) o [] → Calls Tryz.prog 118 #[.pointer (some ⟨pb, 0, none⟩), .string ⟨A.toArray⟩, .string ⟨#[]⟩, .int .i64 6, .int .i64 219, .int .i64 0, .int .i64 cd] wx fun e w' => (∃ q, e = .returned q) ∧ Pa w0 w' pb (Pal ((L0) ++ [⟨A, 6, 219, 0, cd⟩])) o [] ∧ FrK wx w') := hidOf (fun wx hx => add4a_any w0 wx pb _ o hx (by omega) (A) ([]) (by first | omega | (simp; done) | (simp; omega)) (by first | omega | (simp; done) | (simp; omega)) (by first | omega | (simp; done) | (simp; omega)) 6 (219) 0 (cd) (by omega) (by omega) (A) (by first | rfl | simp))
          have C2 : Hid (∀ wx, Pa w0 wx pb (Pal (L0 ++ [⟨A, 6, 219, 0, cd⟩])) o [] → Calls Tryz.prog 118 #[.pointer (some ⟨pb, 0, none⟩), .string ⟨A.toArray⟩, .string ⟨#[51, 50]⟩, .int .i64 6, .int .i64 195, .int .i64 0, .int .i64 cd] wx fun e w' => (∃ q, e = .returned q) ∧ Pa w0 w' pb (Pal ((L0 ++ [⟨A, 6, 219, 0, cd⟩]) ++ [⟨A ++ [51, 50], 6, 195, 0, cd⟩])) o [] ∧ FrK wx w') := hidOf (fun wx hx => add4a_any w0 wx pb _ o hx (by simp; omega) (A) ([51, 50]) (by first | omega | (simp; done) | (simp; omega)) (by first | omega | (simp; done) | (simp; omega)) (by first | omega | (simp; done) | (simp; omega)) 6 (195) 0 (cd) (by omega) (by omega) (A ++ [51, 50]) (by first | rfl | simp))
          clear hl1 hl2 hLl
          go_upto_region 15 with fail
          go_region_held3 (fun w' => w'.cell? ⟨r1, i, none⟩ = some (.string ⟨A.toArray⟩) ∧ w'.cell? ⟨r2, i, none⟩ = some (.int .i64 cd)) (first | exact ⟨c1_0, c2_0⟩ | exact ⟨c1_1, c2_1⟩ | go_keep) (first | (go_at_call 118; refine (C1.out _ (HP_0.out.on ((Out.refl wr).dN _))).mono ?_; rintro e u1 ⟨⟨y2, rfl⟩, hp, hf⟩; have HP_1 := hidOf hp; have F_1 := hidOf ((FrK.out ((Out.refl wr).dN _)).trans hf); have c1_1 : u1.cell? ⟨r1, i, none⟩ = some (.string ⟨A.toArray⟩) := (by rw [cell_atL (F_1.out _ _ _ _ B1_0.out (by decide) (by decide)), ← cell_atL B1_0.out]; exact c1_0); have c2_1 : u1.cell? ⟨r2, i, none⟩ = some (.int .i64 cd) := (by rw [cell_atL (F_1.out _ _ _ _ B2_0.out (by decide) (by decide)), ← cell_atL B2_0.out]; exact c2_0); clear hp hf))
          have B1_1 := hidOf (F_1.out _ _ _ _ B1_0.out (by decide) (by decide))
          have B2_1 := hidOf (F_1.out _ _ _ _ B2_0.out (by decide) (by decide))
          clear c1_0 c2_0 HP_0 F_1 B1_0 B2_0
          go_upto_region 16 with fail
          go_region_held3 (fun w' => w'.cell? ⟨r1, i, none⟩ = some (.string ⟨A.toArray⟩) ∧ w'.cell? ⟨r2, i, none⟩ = some (.int .i64 cd)) (first | exact ⟨c1_1, c2_1⟩ | exact ⟨c1_2, c2_2⟩ | go_keep) (first | (go_at_call 118; refine (C2.out _ (HP_1.out.on ((Out.refl u1).dN _))).mono ?_; rintro e u2 ⟨⟨y2, rfl⟩, hp, hf⟩; have HP_2 := hidOf hp; have F_2 := hidOf ((FrK.out ((Out.refl u1).dN _)).trans hf); have c1_2 : u2.cell? ⟨r1, i, none⟩ = some (.string ⟨A.toArray⟩) := (by rw [cell_atL (F_2.out _ _ _ _ B1_1.out (by decide) (by decide)), ← cell_atL B1_1.out]; exact c1_1); have c2_2 : u2.cell? ⟨r2, i, none⟩ = some (.int .i64 cd) := (by rw [cell_atL (F_2.out _ _ _ _ B2_1.out (by decide) (by decide)), ← cell_atL B2_1.out]; exact c2_1); clear hp hf))
          have B1_2 := hidOf (F_2.out _ _ _ _ B1_1.out (by decide) (by decide))
          have B2_2 := hidOf (F_2.out _ _ _ _ B2_1.out (by decide) (by decide))
          clear c1_1 c2_1 HP_1 F_2 B1_1 B2_1
          have HQ : Hid (Pa w0 u2 pb (Pal (S0 ++ rwD ++ rwE ++ rwF.take (2 * (i + 1)))) o []) := hidOf (by
            have h := HP_2.out
            rw [HL0.out] at h
            rw [HS.out]
            simpa using h)
          clear HP_2 HS HL0 c1_2 c2_2
          go_wp2
          go_roundw
          case rel => exact ⟨i + 1, by simp, by omega, HQ, B1_2, B2_2⟩
          case measure => simp [intOf]; omega
        · have hiI : ¬ (i : Int) < 10 := by omega
          obtain rfl : i = 10 := by omega
          go_wp2
          go_end0
          exact ⟨⟨_, rfl⟩, by rw [HFL.out]; exact HP_0.out⟩
end Go.Proofs.YtcomhlimgocoaaaGreatDoor
namespace Go.Proofs.YtcomhlimgocoaaaGreatDoor
open Go.RowKit
set_option linter.unusedVariables false
set_option linter.unusedSimpArgs false
set_option maxRecDepth 20000 in
set_option maxHeartbeats 4000000 in
theorem jumps4a_any (w0 w : World) (pb : Nat) (o : Int) (h : Pa w0 w pb (Pal (rwA ++ rwB ++ rwC ++ rwD ++ rwE ++ rwF)) o []) : Calls Tryz.prog 72 #[.pointer (some ⟨pb, 0, none⟩)] w fun e w' => (∃ q, e = .returned q) ∧ Pa w0 w' pb (Pal rowsAll) o [] := by
  have H := hidOf h
  clear h
  obtain ⟨S0, hS0⟩ : ∃ S0, S0 = rwA ++ rwB ++ rwC ++ rwD ++ rwE ++ rwF := ⟨_, rfl⟩
  have hSl : S0.length = 79 := by rw [hS0]; rfl
  have HFL : Hid (rowsAll = S0 ++ rwG ++ rwH) := hidOf (by rw [hS0]; rfl)
  rw [← hS0] at H
  clear hS0
  obtain ⟨FL, hFL⟩ : ∃ FL, FL = rowsAll := ⟨_, rfl⟩
  rw [← hFL] at HFL ⊢
  clear hFL
  go_enter Tryz.func72, Tryz.ntmps72
  go_upto_region 2 with fail
  obtain ⟨q1, hq1⟩ : ∃ q1, q1 = w.heap.size := ⟨_, rfl⟩
  obtain ⟨q2, hq2⟩ : ∃ q2, q2 = w.heap.size + 1 := ⟨_, rfl⟩
  obtain ⟨qw, hqw⟩ : ∃ qw, qw = (w.alloc (.cells jWC 109)).alloc (.cells jCC 161) := ⟨_, rfl⟩
  have hsq : (w.alloc (.cells jWC 109)).heap.size = w.heap.size + 1 := size_alloc _ _
  have bq1 : qw.heap[q1]? = some (.cells jWC 109 (0, 0)) := by
    rw [hqw, hq1]
    exact blk_out ((Out.refl _).alloc _) (heap_alloc_new w _)
  have bq2 : qw.heap[q2]? = some (.cells jCC 161 (0, 0)) := by
    rw [hqw, hq2, ← hsq]
    exact heap_alloc_new (w.alloc (.cells jWC 109)) _
  have oq : Out w qw := by rw [hqw]; exact ((Out.refl w).alloc _).alloc _
  change Code.wp _ _ _ _ ((w.alloc (.cells jWC 109)).alloc (.cells jCC 161))
  rw [← hqw, ← hq2, ← hq1]
  have Bq1 := hidOf bq1
  have Bq2 := hidOf bq2
  have Oq := hidOf oq
  clear hqw hq1 hq2 hsq bq1 bq2 oq
  have H0 : Hid (Pa w0 qw pb (Pal (S0 ++ rwG.take (2 * 0))) o []) := hidOf (by have := H.out.on Oq.out; simpa using this)
  clear H Oq
  go_wp2
  go_loopw [4] (fun iv wr => ∃ i : Nat, iv = .int .i64 i ∧ i ≤ 11 ∧ Hid (Pa w0 wr pb (Pal (S0 ++ rwG.take (2 * i))) o []) ∧ Hid (wr.heap[q1]? = some (.cells jWC 109 (0, 0))) ∧ Hid (wr.heap[q2]? = some (.cells jCC 161 (0, 0)))) (fun iv _ => 11 - (intOf iv).toNat)
  case atStart => exact ⟨0, rfl, by omega, H0, Bq1, Bq2⟩
  case round =>
    clear H0 Bq1 Bq2
    obtain ⟨i, rfl, hi, HP, B1, B2⟩ := hrel
    by_cases hin : i < 11
    · have hiI : (i : Int) < 11 := by omega
      have hi0 : (0 : Int) ≤ i := by omega
      have c1 : wr.cell? ⟨q1, i, none⟩ = some (.string ⟨(jW i).toArray⟩) := by rw [cell_atL B1.out]; exact jW_at i hin
      have c2 : wr.cell? ⟨q2, i, none⟩ = some (.int .i64 (jC i)) := by rw [cell_atL B2.out]; exact jC_at i hin
      have hl1 := jW_len i hin
      have hb2 := jC_bd i hin
      obtain ⟨A, hA⟩ : ∃ A, A = jW i := ⟨_, rfl⟩
      obtain ⟨cd, hcd⟩ : ∃ cd, cd = jC i := ⟨_, rfl⟩
      have HS := hidOf (sG i hin)
      rw [← hA, ← hcd] at HS
      rw [← hA] at c1 hl1
      rw [← hcd] at c2 hb2
      obtain ⟨L0, hL0⟩ : ∃ L0, L0 = S0 ++ rwG.take (2 * i) := ⟨_, rfl⟩
      have hLl : L0.length ≤ 110 := by
        have : (rwG.take (2 * i)).length ≤ 22 := Nat.le_trans (List.length_take_le' _ _) (by decide)
        rw [hL0, List.length_append, hSl]; omega
      rw [← hL0] at HP
      have HL0 := hidOf hL0
      clear hL0
      have CB : Hid (∀ wx, Pa w0 wx pb (Pal L0) o [] → Calls Tryz.prog 117 #[.pointer (some ⟨pb, 0, none⟩), .string ⟨A.toArray⟩, .int .i64 8, .int .i64 cd, .int .i64 0] wx fun e w' => (∃ q, e = .returned q) ∧ Pa w0 w' pb (Pal (L0 ++ bothL A 8 cd 0)) o [] ∧ FrK wx w') := hidOf (fun wx hx => both4a_any w0 wx pb _ o hx (by omega) A hl1.1 hl1.2 8 cd 0 hb2.1 hb2.2)
      clear hA hcd hl1 hb2 hLl
      go_upto_region 5 with fail
      go_region_held3 (fun w' => w'.cell? ⟨q1, i, none⟩ = some (.string ⟨A.toArray⟩) ∧ w'.cell? ⟨q2, i, none⟩ = some (.int .i64 cd)) (first | exact ⟨c1, c2⟩ | exact ⟨e1, e2⟩ | go_keep) (first | (go_at_call 117; refine (CB.out _ (HP.out.on ((Out.refl wr).dN _))).mono ?_; rintro e w2 ⟨⟨y2, rfl⟩, hp, hf⟩; have P2 := hidOf hp; have F2 := hidOf ((FrK.out ((Out.refl wr).dN _)).trans hf); have e1 : w2.cell? ⟨q1, i, none⟩ = some (.string ⟨A.toArray⟩) := (by rw [cell_atL (F2.out _ _ _ _ B1.out (by decide) (by decide)), ← cell_atL B1.out]; exact c1); have e2 : w2.cell? ⟨q2, i, none⟩ = some (.int .i64 cd) := (by rw [cell_atL (F2.out _ _ _ _ B2.out (by decide) (by decide)), ← cell_atL B2.out]; exact c2); clear hp hf))
      have HQ : Hid (Pa w0 w2 pb (Pal (S0 ++ rwG.take (2 * (i + 1)))) o []) := hidOf (by
        have h := P2.out
        rw [HL0.out] at h
        rw [HS.out]
        simpa using h)
      clear P2 HS HL0
      go_wp2
      go_roundw
      case rel => exact ⟨i + 1, by simp, by omega, HQ, hidOf (F2.out _ _ _ _ B1.out (by decide) (by decide)), hidOf (F2.out _ _ _ _ B2.out (by decide) (by decide))⟩
      case measure => simp [intOf]; omega
    · have hiI : ¬ (i : Int) < 11 := by omega
      obtain rfl : i = 11 := by omega
      have HP0 : Hid (Pa w0 wr pb (Pal (S0 ++ rwG)) o []) := hidOf HP.out
      have hl0 : (S0 ++ rwG).length = 101 := by rw [List.length_append, hSl]; rfl
      clear HP B1 B2
      go_upto_region 6 with fail
      have C0 := hidOf (add4a_any w0 _ pb _ o HP0.out (by omega) [106, 97] [] (by decide) (by decide) (by decide) 7 5 0 0 (by omega) (by omega) [106, 97] rfl)
      go_upto_region 7 with (go_at_call 118; refine C0.out.mono ?_; rintro e x0 ⟨⟨y0, rfl⟩, hp, hf⟩; have HP1 := hidOf hp; clear hp hf)
      have hl1 : (S0 ++ rwG ++ [(⟨[106, 97], 7, 5, 0, 0⟩ : Rw)]).length = 102 := by rw [List.length_append, hl0]; rfl
      clear C0 HP0 hl0
      have C1 := hidOf (add4a_any w0 _ pb _ o HP1.out (by omega) [106, 97, 51, 50] [] (by decide) (by decide) (by decide) 7 6 0 0 (by omega) (by omega) [106, 97, 51, 50] rfl)
      go_upto_region 8 with (go_at_call 118; refine C1.out.mono ?_; rintro e x1 ⟨⟨y1, rfl⟩, hp, hf⟩; have HP2 := hidOf hp; clear hp hf)
      have hl2 : (S0 ++ rwG ++ [(⟨[106, 97], 7, 5, 0, 0⟩ : Rw)] ++ [(⟨[106, 97, 51, 50], 7, 6, 0, 0⟩ : Rw)]).length = 103 := by rw [List.length_append, hl1]; rfl
      clear C1 HP1 hl1
      have C2 := hidOf (add4a_any w0 _ pb _ o HP2.out (by omega) [99, 97, 108, 108] [] (by decide) (by decide) (by decide) 9 133 0 0 (by omega) (by omega) [99, 97, 108, 108] rfl)
      go_upto_region 9 with (go_at_call 118; refine C2.out.mono ?_; rintro e x2 ⟨⟨y2, rfl⟩, hp, hf⟩; have HP3 := hidOf hp; clear hp hf)
      have hl3 : (S0 ++ rwG ++ [(⟨[106, 97], 7, 5, 0, 0⟩ : Rw)] ++ [(⟨[106, 97, 51, 50], 7, 6, 0, 0⟩ : Rw)] ++ [(⟨[99, 97, 108, 108], 9, 133, 0, 0⟩ : Rw)]).length = 104 := by rw [List.length_append, hl2]; rfl
      clear C2 HP2 hl2
      have C3 := hidOf (add4a_any w0 _ pb _ o HP3.out (by omega) [101, 120, 105, 116] [] (by decide) (by decide) (by decide) 10 149 0 0 (by omega) (by omega) [101, 120, 105, 116] rfl)
      go_upto_region 10 with (go_at_call 118; refine C3.out.mono ?_; rintro e x3 ⟨⟨y3, rfl⟩, hp, hf⟩; have HP4 := hidOf hp; clear hp hf)
      have hl4 : (S0 ++ rwG ++ [(⟨[106, 97], 7, 5, 0, 0⟩ : Rw)] ++ [(⟨[106, 97, 51, 50], 7, 6, 0, 0⟩ : Rw)] ++ [(⟨[99, 97, 108, 108], 9, 133, 0, 0⟩ : Rw)] ++ [(⟨[101, 120, 105, 116], 10, 149, 0, 0⟩ : Rw)]).length = 105 := by rw [List.length_append, hl3]; rfl
      clear C3 HP3 hl3
      have C4 := hidOf (add4a_any w0 _ pb _ o HP4.out (by omega) [108, 100, 100, 119] [] (by decide) (by decide) (by decide) 11 24 0 0 (by omega) (by omega) [108, 100, 100, 119] rfl)
      go_upto_region 11 with (go_at_call 118; refine C4.out.mono ?_; rintro e x4 ⟨⟨y4, rfl⟩, hp, hf⟩; have HP5 := hidOf hp; clear hp hf)
      have hl5 : (S0 ++ rwG ++ [(⟨[106, 97], 7, 5, 0, 0⟩ : Rw)] ++ [(⟨[106, 97, 51, 50], 7, 6, 0, 0⟩ : Rw)] ++ [(⟨[99, 97, 108, 108], 9, 133, 0, 0⟩ : Rw)] ++ [(⟨[101, 120, 105, 116], 10, 149, 0, 0⟩ : Rw)] ++ [(⟨[108, 100, 100, 119], 11, 24, 0, 0⟩ : Rw)]).length = 106 := by rw [List.length_append, hl4]; rfl
      clear C4 HP4 hl4
      have C5 := hidOf (add4a_any w0 _ pb _ o HP5.out (by omega) [108, 100, 109, 97, 112] [] (by decide) (by decide) (by decide) 12 24 0 0 (by omega) (by omega) [108, 100, 109, 97, 112] rfl)
      go_wp2_with (go_at_call 118; refine C5.out.mono ?_; rintro e x5 ⟨⟨y5, rfl⟩, hp, hf⟩; have HP6 := hidOf hp; clear hp hf)
      go_end0
      refine ⟨⟨_, rfl⟩, ?_⟩
      have h := HP6.out
      rw [HFL.out]
      simpa [rwH] using h
theorem Pa.newA (w0 : World) (o : Int) (W0 : List UInt8) : Pa w0 (w0.alloc (.cells #[.slice none 0 0, .bool true, .int .i64 o, .string ⟨W0.toArray⟩] 89)) w0.heap.size [] o W0 := ⟨⟨none, 0, heap_alloc_new w0 _, World.ownsRow_nil _ _ _ _⟩, Nat.le_refl _, (Out.refl w0).alloc _⟩
set_option maxRecDepth 8000 in
theorem picked4a_any (w : World) (o : Int) : Calls Tryz.prog 38 #[.agg #[.slice none 0 0, .bool true, .int .i64 o, .string ⟨#[]⟩]] w fun e w' => ∃ a c, e = .returned (.slice a (Pal rowsAll).length c) ∧ w'.ownsRow w.heap.size 67 5 (.slice a (Pal rowsAll).length c) (Pal rowsAll).length (rowsC (Pal rowsAll)) ∧ Out w w' := by
  have H0 := hidOf (Pa.newA w o [])
  go_enter Tryz.func38, Tryz.ntmps38
  go_upto_region 1 with fail
  obtain ⟨p, hp⟩ : ∃ p, p = w.heap.size := ⟨_, rfl⟩
  obtain ⟨w1, hw1⟩ : ∃ w1, w1 = w.alloc (.cells #[.slice none 0 0, .bool true, .int .i64 o, .string ⟨#[]⟩] 89) := ⟨_, rfl⟩
  have H1 : Hid (Pa w w1 p (Pal []) o []) := hidOf (by rw [hw1, hp]; exact H0.out)
  rw [← hw1, ← hp]
  clear hw1 hp H0
  have C1 := hidOf (sums4a_any w w1 p o H1.out)
  go_upto_region 2 with (go_at_call 70; refine C1.out.mono ?_; rintro e w2 ⟨⟨y2, rfl⟩, hq⟩; have H2 := hidOf hq; clear hq)
  have C2 := hidOf (places4a_any w w2 p o H2.out)
  go_upto_region 3 with (go_at_call 71; refine C2.out.mono ?_; rintro e w3 ⟨⟨y3, rfl⟩, hq⟩; have H3 := hidOf hq; clear hq)
  have C3 := hidOf (jumps4a_any w w3 p o H3.out)
  go_upto_region 4 with (go_at_call 72; refine C3.out.mono ?_; rintro e w4 ⟨⟨y4, rfl⟩, hq⟩; have H4 := hidOf hq; clear hq)
  obtain ⟨a, c, st, own⟩ := H4.out.st
  have c0 : w4.cell? ⟨p, 0, none⟩ = some (.slice a (Pal rowsAll).length c) := by rw [cell_atL st]; rfl
  have HO := hidOf own
  clear st own C1 C2 C3
  go_wp2
  go_ret
  exact ⟨a, c, rfl, HO.out, H4.out.out⟩
theorem rows4_any (w : World) : Calls Tryz.prog 41 #[] w fun e w' => ∃ a c, e = .returned (.slice a 107 c) ∧ w'.ownsRow w.heap.size 67 5 (.slice a 107 c) 107 (rowsC rowsAll) ∧ Out w w' := by
  have C1 := hidOf (picked4a_any w 0)
  have hl : (Pal rowsAll).length = 107 := rfl
  rw [hl] at C1
  go_enter Tryz.func41, Tryz.ntmps41
  go_wp2_with (go_at_call 38; refine C1.out.mono ?_; rintro e w2 ⟨a, c, rfl, ho, hb⟩; have HO := hidOf ho; have HB := hidOf hb; clear ho hb)
  go_ret
  exact ⟨a, c, rfl, HO.out, HB.out⟩
end Go.Proofs.YtcomhlimgocoaaaGreatDoor
namespace Go.Proofs.YtcomhlimgocoaaaGreatDoor
open Go.RowKit
set_option linter.unusedVariables false
set_option linter.unusedSimpArgs false
theorem rowsA_get {R : List Rw} {k : Nat} {r : Rw} (h : R[k]? = some r) (j : Nat) (hj : j < 5) : (rowsC R)[k * 5 + j]? = r.cs[j]? := by
  have hi := (List.getElem?_eq_some_iff.1 h).1
  have e : R = R.take k ++ (r :: R.drop (k + 1)) := by
    have := List.take_append_drop k R
    rw [List.drop_eq_getElem_cons hi] at this
    rw [(List.getElem?_eq_some_iff.1 h).2] at this
    exact this.symm
  rw [e, rowsC_app, List.getElem?_append_right (by rw [rowsC_len, List.length_take]; omega), rowsC_len, List.length_take, Nat.min_eq_left (by omega), show k * 5 + j - k * 5 = j by omega]
  show (r.cs ++ rowsC _)[j]? = _
  rw [List.getElem?_append_left (by simp [Rw.cs]; omega)]
theorem rowsA_at {B : Nat} {w : World} {a : Option Addr} {n c : Nat} {R : List Rw} (h : w.ownsRow B 67 5 (.slice a n c) n (rowsC R)) {k : Nat} {r : Rw} (hr : R[k]? = some r) (hn : R.length = n) : ∃ g, a = some ⟨g, 0, none⟩ ∧ w.cell? ⟨g, k * 5, none⟩ = some (.string ⟨r.w.toArray⟩) ∧ w.cell? ⟨g, k * 5 + 1, none⟩ = some (.int .i64 r.sh) ∧ w.cell? ⟨g, k * 5 + 2, none⟩ = some (.int .i64 r.op) ∧ w.cell? ⟨g, k * 5 + 3, none⟩ = some (.int .i64 r.off) ∧ w.cell? ⟨g, k * 5 + 4, none⟩ = some (.int .i64 r.imm) := by
  have hk := (List.getElem?_eq_some_iff.1 hr).1
  rcases h.2 with ⟨_, h0⟩ | ⟨g, cap, cur, e, _⟩
  · omega
  · have e2 := e
    simp only [Value.slice.injEq] at e2
    have key : ∀ j u, j < 5 → r.cs[j]? = some u → w.cell? ⟨g, k * 5 + j, none⟩ = some u := fun j u hj hu => by
      have := World.ownsRow.cells h (g := g) (by rw [e]; rfl) (k * 5 + j) u (by rw [rowsA_get hr j hj]; exact hu)
      rw [Go.WideShapes.add_plain, Nat.zero_add] at this
      exact this
    exact ⟨g, e2.1, key 0 _ (by omega) rfl, key 1 _ (by omega) rfl, key 2 _ (by omega) rfl, key 3 _ (by omega) rfl, key 4 _ (by omega) rfl⟩
/-- the greater of two texts, as the walk writes it -/
def gtB (x V : List UInt8) : Bool := !Op.bytesLess x V && !(x == V)
/-- a row is looked at -/
def stepB (k : Nat) (best x : List UInt8) : List UInt8 := if (k == 0 || gtB x (wd (k - 1))) && (best.isEmpty || Op.bytesLess x best) then x else best
def scanR (k i : Nat) : List UInt8 := (rowsAll.take i).foldl (fun b r => stepB k b r.w) []
theorem scan_all : ∀ k : Fin 107, scanR k.val 107 = wd k.val := by decide +kernel
theorem scan_succ (k i : Nat) (r : Rw) (h : rowsAll[i]? = some r) : scanR k (i + 1) = stepB k (scanR k i) r.w := by
  unfold scanR
  rw [List.take_add_one, h]
  simp [List.foldl_append]
theorem take_wd (k : Nat) (h : k < 107) : wordsS.take (k + 1) = wordsS.take k ++ [wd k] := by
  rw [List.take_add_one]
  unfold wd
  rw [List.getD_eq_getElem?_getD, List.getElem?_eq_getElem (by rw [words_len]; exact h)]
  rfl
theorem rowsAll_len : rowsAll.length = 107 := rfl
theorem step_t {k : Nat} {b x : List UInt8} (h1 : (k == 0 || gtB x (wd (k - 1))) = true) (h2 : (b.isEmpty || Op.bytesLess x b) = true) : stepB k b x = x := by
  unfold stepB
  rw [h1, h2]
  rfl
theorem step_f1 {k : Nat} {b x : List UInt8} (h1 : (k == 0 || gtB x (wd (k - 1))) = false) : stepB k b x = b := by
  unfold stepB
  rw [h1]
  rfl
theorem step_f2 {k : Nat} {b x : List UInt8} (h2 : (b.isEmpty || Op.bytesLess x b) = false) : stepB k b x = b := by
  unfold stepB
  rw [h2]
  simp
/-- the same with a last word ahead -/
def stepS (V best x : List UInt8) : List UInt8 := if gtB x V && (best.isEmpty || Op.bytesLess x best) then x else best
theorem step_succ (j : Nat) (b x : List UInt8) : stepB (j + 1) b x = stepS (wd j) b x := by
  unfold stepB stepS
  rw [show ((j + 1 == 0) : Bool) = false from by simp, Bool.false_or, Nat.add_sub_cancel]
theorem OwT.up {B : Nat} {v : Value} {N : List (List UInt8)} {w : World} (h : OwT 0 v N w) (hb : ∀ b, v.ownBlock = some b → B ≤ b) : OwT B v N w := by
  refine ⟨h.1, ?_⟩
  rcases h.2 with h | ⟨g, cap, cur, e1, _, rest⟩
  · exact .inl h
  · exact .inr ⟨g, cap, cur, e1, hb g (by rw [e1]; rfl), rest⟩
set_option maxRecDepth 20000 in
set_option maxHeartbeats 4000000 in
theorem refWords_any (w : World) : Calls Tryz.prog 13 #[] w fun e w' => ∃ a c, e = .returned (.slice a 107 c) ∧ OwT w.heap.size (.slice a 107 c) wordsS w' ∧ Out w w' := by
  have CR := hidOf (rows4_any w)
  go_enter Tryz.func13, Tryz.ntmps13
  go_upto_region 2 with (go_at_call 41; refine CR.out.mono ?_; rintro e w1 ⟨ar, cr, rfl, hr, ho⟩; have HR := hidOf hr; have O1 := hidOf ho; clear hr ho)
  go_wp2
  go_loopw [2] (fun ov wr => ∃ (k : Nat) (a : Option Addr) (c : Nat), ov = .slice a k c ∧ k ≤ 107 ∧ Hid (OwT 0 (.slice a k c) (wordsS.take k) wr) ∧ Hid (Out w1 wr) ∧ Hid (∀ b, (Value.slice a k c).ownBlock = some b → w1.heap.size ≤ b)) (fun ov _ => match ov with | .slice _ n _ => 107 - n | _ => 0)
  case atStart => exact ⟨0, none, 0, rfl, by omega, hidOf (World.ownsRow_nil _ _ _ _), hidOf (Out.refl _), hidOf (fun b hb => by cases hb)⟩
  case round =>
    obtain ⟨k, a, c, rfl, hk, HO, HX, HN⟩ := hrel
    have hkl : (wordsS.take k).length = k := by rw [List.length_take, words_len]; omega
    have Hkl := hidOf hkl
    clear hkl
    by_cases hk7 : k < 107
    · have hkI : (k : Int) < 107 := by omega
      have hk0 : (0 : Int) ≤ k := by omega
      obtain ⟨B0, hB0⟩ : ∃ B0, B0 = scanR k 0 := ⟨_, rfl⟩
      obtain ⟨w3, hw3⟩ : ∃ w3, w3 = wr := ⟨_, rfl⟩
      rw [← hw3] at HO HX
      have Hw3 := hidOf hw3
      clear hw3
      go_wp2
      go_loopw [3, 4] (fun bv iv wr => ∃ i : Nat, iv = .int .i64 i ∧ i ≤ 107 ∧ bv = .string ⟨(scanR k i).toArray⟩ ∧ wr = w3) (fun _ iv _ => 107 - (intOf iv).toNat)
      case atStart => exact ⟨0, rfl, by omega, rfl, Hw3.out.symm⟩
      case round =>
        obtain ⟨i, rfl, hi, rfl, rfl⟩ := hrel
        clear Hw3
        by_cases hi7 : i < 107
        · have hiI : (i : Int) < 107 := by omega
          have hi0 : (0 : Int) ≤ i := by omega
          obtain ⟨r, hr⟩ : ∃ r, rowsAll[i]? = some r := ⟨_, List.getElem?_eq_getElem (by rw [rowsAll_len]; exact hi7)⟩
          obtain ⟨gr, rfl, q0, -⟩ := rowsA_at HR.out hr rowsAll_len
          have q1 := cell_later HX.out q0
          have HSc := hidOf (scan_succ k i r hr)
          obtain ⟨x, hx⟩ : ∃ x, x = r.w := ⟨_, rfl⟩
          rw [← hx] at q1 HSc
          clear hx q0 hr
          generalize scanR k i = b at *
          obtain ⟨nb, hnb⟩ : ∃ nb, nb = scanR k (i + 1) := ⟨_, rfl⟩
          have HE : Hid (nb = stepB k b x) := hidOf (by rw [hnb]; exact HSc.out)
          have Hnb := hidOf hnb
          clear hnb HSc
          cases k with
          | zero =>
            cases hb : b.isEmpty
            · cases hl : Op.bytesLess x b
              · have HF : Hid (nb = b) := hidOf (by rw [HE.out]; exact step_f2 (by rw [hb, hl]; rfl))
                go_wp2
                go_roundw
                case rel => exact ⟨i + 1, by simp, by omega, by rw [← Hnb.out, HF.out], by first | rfl | trivial⟩
                case measure => simp [intOf]; omega
              · have HF : Hid (nb = x) := hidOf (by rw [HE.out]; exact step_t rfl (by rw [hb, hl]; rfl))
                go_wp2
                go_roundw
                case rel => exact ⟨i + 1, by simp, by omega, by rw [← Hnb.out, HF.out], by first | rfl | trivial⟩
                case measure => simp [intOf]; omega
            · have HF : Hid (nb = x) := hidOf (by rw [HE.out]; exact step_t rfl (by rw [hb]; rfl))
              go_wp2
              go_roundw
              case rel => exact ⟨i + 1, by simp, by omega, by rw [← Hnb.out, HF.out], by first | rfl | trivial⟩
              case measure => simp [intOf]; omega
          | succ j =>
            obtain ⟨g, rfl⟩ := HO.out.adr (by rw [Hkl.out]; omega)
            have q2 : wr.cell? ⟨g, j, none⟩ = some (.string ⟨(wd j).toArray⟩) := (HO.out.cell1 (i := j) (x := wd j) (by rw [List.getElem?_take_of_lt (by omega)]; unfold wd; rw [List.getD_eq_getElem?_getD, List.getElem?_eq_getElem (by rw [words_len]; omega)]; rfl)).1
            have hj1 : (j : Int) < 107 := by omega
            have hj0 : (0 : Int) ≤ j := by omega
            have hne : (((j + 1 : Nat) : Int) == 0) = false := by simp; omega
            have hne2 : ((j : Int) + 1 == 0) = false := by simp; omega
            have HS : Hid (nb = stepS (wd j) b x) := hidOf (by rw [HE.out, step_succ])
            clear HE
            generalize wd j = V at *
            by_cases hv1 : Op.bytesLess x V = true
            · have HF : Hid (nb = b) := hidOf (by rw [HS.out]; unfold stepS gtB; rw [hv1]; rfl)
              go_wp2
              go_roundw
              case rel => exact ⟨i + 1, by simp, by omega, by rw [← Hnb.out, HF.out], by first | rfl | trivial⟩
              case measure => simp [intOf]; omega
            by_cases hv2 : x = V
            · have HF : Hid (nb = b) := hidOf (by rw [HS.out, hv2]; unfold stepS gtB; rw [show (V == V) = true from by simp]; simp)
              have hv3 : (x == V) = true := by simp [hv2]
              clear hv2 hv1
              go_wp2
              go_roundw
              case rel => exact ⟨i + 1, by simp, by omega, by rw [← Hnb.out, HF.out], by first | rfl | trivial⟩
              case measure => simp [intOf]; omega
            · have hv1 : Op.bytesLess x V = false := by simpa using hv1
              have hv3 : (x == V) = false := by simpa using hv2
              have hv : gtB x V = true := by unfold gtB; rw [hv1, hv3]; rfl
              cases hb : b.isEmpty
              · cases hl : Op.bytesLess x b
                · have HF : Hid (nb = b) := hidOf (by rw [HS.out]; unfold stepS; rw [hv, hb, hl]; rfl)
                  go_wp2
                  go_roundw
                  case rel => exact ⟨i + 1, by simp, by omega, by rw [← Hnb.out, HF.out], by first | rfl | trivial⟩
                  case measure => simp [intOf]; omega
                · have HF : Hid (nb = x) := hidOf (by rw [HS.out]; unfold stepS; rw [hv, hb, hl]; rfl)
                  go_wp2
                  go_roundw
                  case rel => exact ⟨i + 1, by simp, by omega, by rw [← Hnb.out, HF.out], by first | rfl | trivial⟩
                  case measure => simp [intOf]; omega
              · have HF : Hid (nb = x) := hidOf (by rw [HS.out]; unfold stepS; rw [hv, hb]; rfl)
                go_wp2
                go_roundw
                case rel => exact ⟨i + 1, by simp, by omega, by rw [← Hnb.out, HF.out], by first | rfl | trivial⟩
                case measure => simp [intOf]; omega
        · have hiI : ¬ (i : Int) < 107 := by omega
          obtain rfl : i = 107 := by omega
          have hsc : scanR k 107 = wd k := scan_all ⟨k, hk7⟩
          have Htk := hidOf (take_wd k hk7)
          rw [hsc]
          clear hsc
          generalize wd k = x at *
          go_wp2_with (at_builtin; refine wpList_app6 rfl (.tmp 46) (.tmp 48) rfl (.slice a k c) (wordsS.take k) rfl (HO.out.out ((Out.refl wr).alloc _)) ⟨wr.heap.size, 0, none⟩ [x] 1 1 rfl (by omega) rfl (news_new wr _ _ _ rfl) (by rw [Hkl.out]; omega) ?_; intro v5 w5 ha; obtain ⟨a5, c5, rfl⟩ := ha.form Hkl.out rfl; have A5 := hidOf ha; clear ha)
          have O4 := hidOf (HX.out.alloc (.cells #[.string ⟨x.toArray⟩] 9))
          refine ⟨⟨k + 1, a5, c5, rfl, by omega, hidOf (by rw [Htk.out]; exact A5.out.own), hidOf (Chg.out A5.out.chg O4.out HN.out), hidOf (fun b hb => ?_)⟩, by simp; omega⟩
          rcases A5.out.blk b hb with e | e
          · exact HN.out b e
          · exact Nat.le_trans O4.out.size e
    · have hkI : ¬ (k : Int) < 107 := by omega
      obtain rfl : k = 107 := by omega
      go_wp2
      go_ret
      refine ⟨a, c, rfl, ?_, Out.trans O1.out HX.out⟩
      have h1 := HO.out
      rw [List.take_of_length_le (by rw [words_len]; omega)] at h1
      exact h1.up (fun b hb => Nat.le_trans O1.out.size (HN.out b hb))
end Go.Proofs.YtcomhlimgocoaaaGreatDoor
namespace Go.Proofs.YtcomhlimgocoaaaGreatDoor
open Go.RowKit
set_option linter.unusedVariables false
set_option linter.unusedSimpArgs false
theorem QI.new (w : World) (B : Nat) (hB : B ≤ w.heap.size) : QI B (w.alloc (.cells #[.int .i64 0, .bool false, .slice none 0 0, .slice none 0 0, .slice none 0 0, .slice none 0 0] 45)) w.heap.size 0 (fun _ => .slice none 0 0) (fun _ => []) := by
  have n0 : ∀ {α : Type} {j : Nat} {x : α}, ([] : List α)[j]? = some x → False := fun h => by simp at h
  refine ⟨⟨heap_alloc_new w _, fun j _ => World.ownsRow_nil _ _ _ _, ?_⟩, rfl, rfl, ?_, ?_, ?_, ?_, ?_, ?_⟩
  · intro i j b _ _ _ h; cases h
  · intro i x y hx; exact (n0 hx).elim
  · intro i x y hx; exact (n0 hx).elim
  · intro x hx; cases hx
  · intro i j x y hx; exact (n0 hx).elim
  · intro l y b _ _ j x hx; exact (n0 hx).elim
  · intro b hb
    rcases hb with e | ⟨j, _, e⟩ | ⟨x, hx, _⟩
    · rw [e]; exact hB
    · cases e
    · cases hx
/-- a list that is newer than all that the queue knows -/
theorem QI.newer {B : Nat} {w : World} {p : Nat} {tt : Int} {r : Nat → Value} {L : Nat → List Value} (h : QI B w p tt r L) {x : Value} {g : Nat} (hg : w.heap.size ≤ g) (hx : ∀ b, x.ownBlock = some b → g ≤ b) : New6 B L x := by
  have hpB : B ≤ p := h.lb p (.inl rfl)
  have hpw := h.sh.lt
  refine ⟨fun b hb => by have := hx b hb; omega, fun j y b hy hb hyb => ?_, fun l y b hy hb hyb => ?_⟩
  · obtain ⟨N, _, h2⟩ := h.bl y (List.mem_of_getElem? hy)
    have := (own_blkQ h2 hyb).1
    have := hx b hb
    omega
  · have hlt : b < w.heap.size := by
      rcases hy with hy | hy
      · obtain ⟨z, hz⟩ : ∃ z, (L 3)[l]? = some z := ⟨_, List.getElem?_eq_getElem (by rw [h.kl]; exact (List.getElem?_eq_some_iff.1 hy).1)⟩
        obtain ⟨N, _, _, _, _, _, _, o1, _⟩ := h.pk l y z hy hz
        exact (own_blkQ o1 hyb).1
      · obtain ⟨z, hz⟩ : ∃ z, (L 2)[l]? = some z := ⟨_, List.getElem?_eq_getElem (by rw [← h.kl]; exact (List.getElem?_eq_some_iff.1 hy).1)⟩
        obtain ⟨N, _, _, _, _, _, _, _, o2, _⟩ := h.pk l z y hz hy
        exact (own_blkQ o2 hyb).1
    have := hx b hb
    omega
theorem and3 (x : Int) : ∃ m : Nat, m ≤ 3 ∧ bits BinOp.and IntKind.i64 x 3 = (m : Int) := by
  have e : bits BinOp.and IntKind.i64 x 3 = x % 4 := by
    show IntKind.i64.wrap ((BitVec.ofInt 64 x &&& BitVec.ofInt 64 3).toNat : Int) = _
    have h2 : (BitVec.ofInt 64 3).toNat = 2 ^ 2 - 1 := by decide
    rw [BitVec.toNat_and, h2, Nat.and_two_pow_sub_one_eq_mod, BitVec.toNat_ofInt, IntKind.wrap_i64]
    omega
  exact ⟨(x % 4).toNat, by omega, by rw [e]; omega⟩
/-- between two rounds: the queue at p, what is wanted, all that lay ahead as it was -/
structure LwS (w : World) (B p : Nat) (want : Value) (WS : List (List UInt8)) (k : Nat) (wr : World) : Prop where
  qi : ∃ tt r L, QI B wr p tt r L ∧ 0 ≤ tt ∧ tt ≤ 107 * (k : Int) ∧ (L 0).length ≤ 2 ∧ (L 2).length ≤ 15 * k
  own : OwT 0 want WS wr
  lt : ∀ b, want.ownBlock = some b → b < B
  out : Out w wr
  wB : w.heap.size ≤ B
  sz : B ≤ wr.heap.size
theorem LwS.on {w wr w' : World} {B p : Nat} {want : Value} {WS : List (List UInt8)} {k : Nat} (h : LwS w B p want WS k wr) (o : Out wr w') : LwS w B p want WS k w' := by
  obtain ⟨tt, r, L, hq, h1, h2, h3, h4⟩ := h.qi
  exact ⟨⟨tt, r, L, hq.out o, h1, h2, h3, h4⟩, h.own.out o, h.lt, h.out.trans o, h.wB, Nat.le_trans h.sz o.size⟩
/-- a list is handed in -/
theorem LwS.take {w wr : World} {B p : Nat} {want : Value} {WS : List (List UInt8)} {k : Nat} (h : LwS w B p want WS k wr) (hk : k ≤ 1000) {w0 : World} {a : Option Addr} {c : Nat} (hl : WS.length = 107) (hx : OwT 0 (.slice a 107 c) WS wr) (h0 : LwS w B p want WS k w0) (o : Out w0 wr) (hb : ∀ b, (Value.slice a 107 c).ownBlock = some b → w0.heap.size ≤ b) :
    Calls Tryz.prog 16 #[.pointer (some ⟨p, 0, none⟩), .slice a 107 c] wr fun e w' => (∃ q, e = .returned q) ∧ LwS w B p want WS (k + 1) w' := by
  obtain ⟨tt, r, L, hq0, h1, h2, h3, h4⟩ := h0.qi
  have hq := hq0.out o
  have hn : New6 B L (.slice a 107 c) := hq0.newer (Nat.le_refl _) hb
  refine (ownQ_any B wr p tt r L hq h3 (by omega) h1 (by omega) a 107 c WS hl (by omega) hx hn).mono ?_
  rintro e w' ⟨he, r', L', hq', g1, g2, g3⟩
  refine ⟨he, ⟨tt + 107, r', L', hq', by omega, by push_cast; omega, g1, by omega⟩, ?_, h.lt, ?_, h.wB, Nat.le_trans h.sz g3.size⟩
  · refine h.own.chg g3 (fun b hb hs => ?_)
    have h5 := h.lt b hb
    rcases hs with e | e
    · have := hq.lb b e; omega
    · have := hn.lb b e; omega
  · refine Chg.out g3 h.out (fun b hs => ?_)
    have h6 := h.wB
    rcases hs with e | e
    · have := hq.lb b e; omega
    · have := hn.lb b e; omega
theorem LwS.holds {w wr : World} {B p : Nat} {want : Value} {WS : List (List UInt8)} {k : Nat} (h : LwS w B p want WS k wr) (hk : k ≤ 1000) :
    Calls Tryz.prog 17 #[.pointer (some ⟨p, 0, none⟩)] wr fun e w' => e = .returned (.bool true) ∧ Out wr w' := by
  obtain ⟨tt, r, L, hq, h1, h2, h3, h4⟩ := h.qi
  exact holdsQ_any wr p tt r L hq.sh hq.wl hq.pf (by omega) hq.kl hq.pk (by omega)
set_option maxRecDepth 20000 in
set_option maxHeartbeats 4000000 in
theorem lineWords_walk (x : Int) (w : World) (hE : AEnv w) : Calls Tryz.prog 5 #[.int .i64 x] w fun e w' => e = .returned (.bool true) ∧ Out w w' := by
  have CA := hidOf (awake_any w hE)
  have CW : Hid (∀ wx, Out w wx → Calls Tryz.prog 14 #[] wx fun e w' => ∃ a c, e = .returned (.slice a 107 c) ∧ OwT wx.heap.size (.slice a 107 c) wordsS w' ∧ Out wx w') := hidOf (fun wx ho => (wordsO_any wx (hE.out ho).1.2).mono (fun e w' ⟨v, he, b, o⟩ => by obtain ⟨a, c, hv⟩ := own_form b; exact ⟨a, c, by rw [he, hv], by rw [← hv]; exact b, o⟩))
  have hwl : wordsS.length = 107 := words_len
  have CR : Hid (∀ wx, Calls Tryz.prog 13 #[] wx fun e w' => ∃ a c, e = .returned (.slice a 107 c) ∧ OwT wx.heap.size (.slice a 107 c) wordsS w' ∧ Out wx w') := hidOf (fun wx => refWords_any wx)
  generalize wordsS = WS at CW CR hwl
  have Hwl := hidOf hwl
  obtain ⟨m, hm, hand⟩ := and3 x
  clear hE hwl
  go_enter Tryz.func5, Tryz.ntmps5
  go_upto_region 4 with (first | (go_at_call 7; refine CA.out.mono ?_; rintro e w1 ⟨rfl, ho⟩; have O1 := hidOf ho; clear ho) | (go_at_call 13; refine (CR.out _).mono ?_; rintro e w2 ⟨ar, cr, rfl, hr, ho⟩; have HR := hidOf hr; have O2 := hidOf (Out.trans O1.out ho); clear hr ho))
  clear CA CR
  go_upto_region 5 with fail
  have S0 : Hid (LwS w w2.heap.size w2.heap.size (.slice ar 107 cr) WS 0 (w2.alloc (.cells #[.int .i64 0, .bool false, .slice none 0 0, .slice none 0 0, .slice none 0 0, .slice none 0 0] 45))) := hidOf ⟨⟨0, _, _, QI.new w2 w2.heap.size (Nat.le_refl _), Int.le_refl _, by simp, by simp, by simp⟩, (HR.out.low (Nat.zero_le _)).out ((Out.refl w2).alloc _), fun b hb => (own_blkQ HR.out hb).1, O2.out.alloc _, O2.out.size, by rw [size_alloc]; omega⟩
  obtain ⟨p, hp⟩ : ∃ p, p = w2.heap.size := ⟨_, rfl⟩
  obtain ⟨w3, hw3⟩ : ∃ w3, w3 = w2.alloc (.cells #[.int .i64 0, .bool false, .slice none 0 0, .slice none 0 0, .slice none 0 0, .slice none 0 0] 45) := ⟨_, rfl⟩
  rw [← hp, ← hw3] at S0
  rw [← hp, ← hw3]
  clear hp hw3 HR O1 O2
  go_wp2
  go_loopw [5] (fun kv wr => ∃ k : Nat, kv = .int .i64 k ∧ k ≤ 6 + m ∧ Hid (LwS w p p (.slice ar 107 cr) WS k wr)) (fun kv _ => 6 + m - (intOf kv).toNat)
  case atStart => exact ⟨0, rfl, by omega, S0⟩
  case round =>
    clear S0
    obtain ⟨k, rfl, hk, HS⟩ := hrel
    by_cases hlt : k < 6 + m
    · have hltI : (k : Int) < 6 + (m : Int) := by omega
      have hmI : (m : Int) ≤ 3 := by omega
      have hm0 : (0 : Int) ≤ m := by omega
      go_upto_region 9 with (go_at_call 14; refine (CW.out _ HS.out.out).mono ?_; rintro e w4 ⟨a4, c4, rfl, ho4, ho⟩; have X4 := hidOf ho4; have O4 := hidOf ho; clear ho4 ho)
      have S4 := hidOf (HS.out.on O4.out)
      have CS : Hid (Calls Tryz.prog 15 #[.slice a4 107 c4, .slice ar 107 cr] w4 fun e w' => e = .returned (.bool true) ∧ ∃ m, w' = w4.drewN m) := hidOf (by
        have := same0_any a4 ar c4 cr WS w4 X4.out.at2 S4.out.own.at2 (by rw [Hwl.out]; omega)
        rw [Hwl.out] at this
        exact this)
      go_upto_region 11 with (go_at_call 15; refine CS.out.mono ?_; rintro e w5 ⟨rfl, n5, hw5⟩; have O5 := hidOf (show Out w4 w5 from by rw [hw5]; exact (Out.refl w4).dN n5); clear hw5)
      have CO := hidOf ((S4.out.on O5.out).take (by omega) (a := a4) (c := c4) Hwl.out ((X4.out.low (Nat.zero_le _)).out O5.out) HS.out (O4.out.trans O5.out) (fun b hb => (X4.out.lt b hb).1))
      go_upto_region 12 with (go_at_call 16; refine CO.out.mono ?_; rintro e w6 ⟨⟨q6, rfl⟩, hs⟩; have S6 := hidOf hs; clear hs)
      have CH := hidOf (S6.out.holds (by omega))
      go_wp2_with (go_at_call 17; refine CH.out.mono ?_; rintro e w7 ⟨rfl, ho⟩; have S7 := hidOf (S6.out.on ho); clear ho)
      go_roundw
      case rel => exact ⟨k + 1, by simp, by omega, S7⟩
      case measure => simp [intOf]; omega
    · have hltI : ¬ (k : Int) < 6 + (m : Int) := by omega
      have CH := hidOf (HS.out.holds (by omega))
      go_wp2_with (go_at_call 17; refine CH.out.mono ?_; rintro e w5 ⟨rfl, ho⟩; have O5 := hidOf (Out.trans HS.out.out ho); clear ho)
      go_ret
      exact ⟨rfl, O5.out⟩
end Go.Proofs.YtcomhlimgocoaaaGreatDoor
