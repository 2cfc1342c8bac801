import Derived.Test.YtkihaohdcgjioaaGreatDoorGr06
import Derived.Laws.BytesString
import Derived.Laws.MakeOwn
namespace Go.Proofs.YtkihaohdcgjioaaGreatDoor.Lx
open Go.RowKit
set_option linter.unusedVariables false
set_option linter.unusedSimpArgs false
def bCells (O : List UInt8) : List Value := O.map (fun b => .int .u8 (b.toNat : Int))
theorem bCells_length (O : List UInt8) : (bCells O).length = O.length := by simp [bCells]
theorem fold_bytes (O : List UInt8) : ∀ r : ByteArray, (O.map (fun b => (b.toNat : Int))).foldl (fun r n => r.push (UInt8.ofNat n.toNat)) r = ⟨r.data ++ O.toArray⟩ := by
  induction O with
  | nil => intro r; simp
  | cons b l ih =>
    intro r
    rw [List.map_cons, List.foldl_cons, ih]
    simp [ByteArray.push]
theorem conv_list (w : World) (a : Addr) (cap : Nat) (O : List UInt8) (h : ∀ j u, (bCells O)[j]? = some u → w.cell? (a.add j) = some u) : (convert 24 9 (.slice (some a) O.length cap)).run Tryz.prog w = .ok (.string ⟨O.toArray⟩) w := by
  rw [run_convert_bytes_string w 24 9 5 (some a) O.length cap Tryz.underlying24 Tryz.underlying5 Tryz.underlying9]
  have h1 := run_loadCells_list (P := Tryz.prog) w a (bCells O) h
  rw [bCells_length] at h1
  rw [run_bytesToString w a O.length cap (O.map (fun b => (b.toNat : Int))) (by rw [show (O.map (fun b => (b.toNat : Int))).map (Value.int .u8) = bCells O from by simp [bCells]]; exact h1), fold_bytes]
  simp
theorem conv_rest {N : Nat} {w : World} {a : Option Addr} {l : List UInt8} (h : RestAt N w a l) (cap : Nat) : (convert 24 9 (.slice a l.length cap)).run Tryz.prog w = .ok (.string ⟨l.toArray⟩) w := by
  rcases h with rfl | ⟨b, off, hb, rfl, hc⟩
  · cases a with
    | none =>
      rw [run_convert_bytes_string w 24 9 5 none _ _ Tryz.underlying24 Tryz.underlying5 Tryz.underlying9]
      rfl
    | some a => exact conv_list w a cap [] (fun j u hj => by simp [bCells] at hj)
  · refine conv_list w ⟨b, off, none⟩ cap l (fun j u hj => ?_)
    rw [Go.WideShapes.add_plain]
    simp only [bCells, List.getElem?_map] at hj
    cases hl : l[j]? with
    | none => rw [hl] at hj; simp at hj
    | some x => rw [hl] at hj; simp at hj; rw [← hj]; exact hc j x hl
def LEnd (N p : Nat) (w : World) (s : Sn) (l : List UInt8) (e : Ending) (w' : World) : Prop :=
  e = .returned (.int .i64 (lineP (cutL l).1).1) ∧ Below N w w' ∧ w'.cell? ⟨p, 2, none⟩ = some (.int .i64 ((s.num : Int) + 1)) ∧
    ((lineP (cutL l).1).1 = 0 → ∃ a2 c2 tv' L at', RestAt N w' a2 (cutL l).2 ∧ (cutL l).2.length ≤ c2 ∧ Sc N p w' (.slice a2 (cutL l).2.length c2) tv' (putS s L at' ((lineP (cutL l).1).2 ++ [(5, [], 0)])))
def atOf (p : Nat) (w : World) : Nat := match w.cell? ⟨p, 3, none⟩ with | some (.int _ a) => a.toNat | _ => 0
set_option maxHeartbeats 4000000 in
theorem nextLine_any (CV : ValC) (CC : CutC) (N p : Nat) (w : World) (hE : Env N w) (ra : Option Addr) (rc : Nat) (tv : Value) (s : Sn) (l : List UInt8) (h : Sc N p w (.slice ra l.length rc) tv s) (hr : RestAt N w ra l) (hne : ¬ l = []) (hcap : l.length ≤ rc) (hl : l.length ≤ 16777216) (hc : s.cnt + l.length ≤ 500000000) (hT : s.T.length ≤ s.cnt) (hnum : s.num ≤ 500000000) :
    Calls Tryz.prog 65 #[.pointer (some ⟨p, 0, none⟩)] w fun e w' => LEnd N p w s l e w' := by
  have hcl := cutL_len l hne
  have c0 : w.cell? ⟨p, 0, none⟩ = some (.slice ra l.length rc) := h.cell 0
  have H := hidOf h
  have HE := hidOf hE
  have hsz := h.lt
  have CK : Hid (Calls Tryz.prog 100 #[.slice ra l.length rc, .slice (some ⟨w.heap.size, 0, none⟩) 1 1] (w.alloc (.cells #[.int .u8 10] 5)) fun e w' => ∃ a1 c1 a2 c2 fd, e = .returned (.tuple #[.slice a1 (cutL l).1.length c1, .slice a2 (cutL l).2.length c2, .bool fd]) ∧ RestAt N (w.alloc (.cells #[.int .u8 10] 5)) a1 (cutL l).1 ∧ RestAt N (w.alloc (.cells #[.int .u8 10] 5)) a2 (cutL l).2 ∧ (cutL l).2.length ≤ c2 ∧ ∃ q, w' = (w.alloc (.cells #[.int .u8 10] 5)).drewN q) :=
    CC N l ra rc w.heap.size _ (hr.below (Below.of_out ((Out.refl w).alloc _) h.base)) hne hcap hl (cell_fresh _ _ _ _ _ rfl)
  unfold LEnd
  generalize hq : cutL l = q at *
  obtain ⟨L, M⟩ := q
  simp only at hcl CK ⊢
  clear h hr hE
  have hLI : (L.length : Int) ≤ 16777216 := by omega
  by_cases h1024 : L.length ≤ 1024
  · have hP : lineP L = scanD L := by unfold lineP; rw [if_pos h1024]
    rw [hP]
    have hsm : ¬ (1024 : Int) < L.length := by omega
    have hsm' : (L.length : Int) ≤ 1024 := by omega
    have hnI : (s.num : Int) ≤ 500000000 := by omega
    obtain ⟨E, D0, HD⟩ : ∃ E D0, Hid (scanD L = (E, D0)) := ⟨_, _, hidOf rfl⟩
    rw [HD.out]
    simp only
    go_enter Tryz.func65, Tryz.ntmps65
    go_upto_region 2 with (go_at_call 100; refine CK.out.mono ?_; rintro e w1 ⟨a1, k1, a2, k2, fd, rfl, r1, r2, hk2, q, rfl⟩; have R1 := hidOf r1; have R2 := hidOf r2; clear r1 r2)
    have B1 : Hid (Below N w ((w.alloc (.cells #[.int .u8 10] 5)).drewN q)) := Below.of_out (((Out.refl w).alloc _).drewN q) H.out.base
    have H1 := hidOf ((H.out.out ((Out.refl w).alloc (.cells #[.int .u8 10] 5))).drewN q)
    have R1' : Hid (RestAt N ((w.alloc (.cells #[.int .u8 10] 5)).drewN q) a1 L) := R1.out
    have R2' : Hid (RestAt N ((w.alloc (.cells #[.int .u8 10] 5)).drewN q) a2 M) := R2.out
    clear c0 CK R1 R2
    generalize (w.alloc (.cells #[.int .u8 10] 5)).drewN q = w1 at *
    have d0 : w1.cell? ⟨p, 0, none⟩ = some (.slice ra l.length rc) := H1.out.cell 0
    have d2 : w1.cell? ⟨p, 2, none⟩ = some (.int .i64 s.num) := H1.out.cell 2
    have f0 := H1.out.frozen 0
    have f2 := H1.out.frozen 2
    go_upto_region 6 with fail
    have H2 := hidOf ((H1.out.set 0 (.slice a2 M.length k2) s (rv' := .slice a2 M.length k2) rfl (by simp [Sn.cells])).set 2 (.int .i64 ((s.num : Int) + 1)) { s with num := s.num + 1 } (rv' := .slice a2 M.length k2) rfl (by simp [Sn.cells]))
    have B2 := hidOf (Below.set_own (Below.set_own B1.out H.out.le (j := 0) (.slice a2 M.length k2)) H.out.le (j := 2) (.int .i64 ((s.num : Int) + 1)))
    have R1 := hidOf (R1'.out.below (Below.set_own (Below.set_own (Below.refl N w1) H.out.le (j := 0) (.slice a2 M.length k2)) H.out.le (j := 2) (.int .i64 ((s.num : Int) + 1))))
    have R2 := hidOf (R2'.out.below (Below.set_own (Below.set_own (Below.refl N w1) H.out.le (j := 0) (.slice a2 M.length k2)) H.out.le (j := 2) (.int .i64 ((s.num : Int) + 1))))
    clear d0 d2 f0 f2 R1' R2' H1 B1
    generalize (w1.setCell ⟨p, 0, none⟩ (.slice a2 M.length k2)).setCell ⟨p, 2, none⟩ (.int .i64 ((s.num : Int) + 1)) = w2 at *
    have d1 : w2.cell? ⟨p, 1, none⟩ = some (.string ⟨s.line.toArray⟩) := H2.out.cell 1
    have d3 : w2.cell? ⟨p, 3, none⟩ = some (.int .i64 s.at') := H2.out.cell 3
    have f1 := H2.out.frozen 1
    have f3 := H2.out.frozen 3
    have hcv := conv_rest R1.out k1
    go_wp2
    have H3 : Hid (Sc N p ((w2.setCell ⟨p, 1, none⟩ (.string ⟨L.toArray⟩)).setCell ⟨p, 3, none⟩ (.int .i64 0)) (.slice a2 M.length k2) tv (putS s L 0 [])) :=
      (H2.out.set 1 (.string ⟨L.toArray⟩) { s with num := s.num + 1, line := L } (rv' := .slice a2 M.length k2) rfl (by simp [Sn.cells])).set 3 (.int .i64 0) (putS s L 0 []) (rv' := .slice a2 M.length k2) (by simp [putS]) (by simp [Sn.cells, putS])
    have B3 := hidOf (Below.set_own (Below.set_own B2.out H.out.le (j := 1) (.string ⟨L.toArray⟩)) H.out.le (j := 3) (.int .i64 0))
    have R3 := hidOf (R2.out.below (Below.set_own (Below.set_own (Below.refl N w2) H.out.le (j := 1) (.string ⟨L.toArray⟩)) H.out.le (j := 3) (.int .i64 0)))
    clear d1 d3 f1 f3 hcv R1 R2 H2 B2
    generalize (w2.setCell ⟨p, 1, none⟩ (.string ⟨L.toArray⟩)).setCell ⟨p, 3, none⟩ (.int .i64 0) = w3 at *
    go_loopw [6] (fun ev wr => ∃ (a : Nat) (D : List (Int × List UInt8 × Int)) (tv' : Value), a ≤ L.length ∧ D.length ≤ a ∧ Hid (E = (scanD (L.drop a)).1 ∧ D0 = D ++ (scanD (L.drop a)).2) ∧ Hid (Sc N p wr (.slice a2 M.length k2) tv' (putS s L a D)) ∧ Hid (Below N w3 wr)) (fun ev wr => L.length - atOf p wr)
    case atStart => exact ⟨0, [], tv, by omega, by simp, hidOf ⟨by rw [List.drop_zero, HD.out], by rw [List.drop_zero, HD.out]; rfl⟩, H3, hidOf (Below.refl _ _)⟩
    case round =>
      obtain ⟨a, D, tv', ha, hD, HS, HR, HB⟩ := hrel
      have HA : Hid (atOf p wr = a) := by
        have : wr.cell? ⟨p, 3, none⟩ = some (.int .i64 a) := HR.out.cell 3
        exact hidOf (by unfold atOf; rw [this]; rfl)
      have d1 : wr.cell? ⟨p, 1, none⟩ = some (.string ⟨L.toArray⟩) := HR.out.cell 1
      have d3 : wr.cell? ⟨p, 3, none⟩ = some (.int .i64 a) := HR.out.cell 3
      by_cases hlt : a < L.length
      · have hltI : (a : Int) < L.length := by omega
        obtain ⟨c, R, hR⟩ : ∃ c R, L.drop a = c :: R := by
          cases hdr : L.drop a with
          | nil => have := congrArg List.length hdr; rw [List.length_drop] at this; simp at this; omega
          | cons c R => exact ⟨c, R, rfl⟩
        have CN : Hid (∀ n, Calls Tryz.prog 101 #[.pointer (some ⟨p, 0, none⟩)] (wr.drewN n) fun e w' => EEnd N p (.slice a2 M.length k2) (wr.drewN n) (pieceP (c :: R)).1 (putS s L a D) ((putS s L a D).adv (pieceP (c :: R)).2.1 (pieceP (c :: R)).2.2) e w') := fun n =>
          next_any CV N p (wr.drewN n) ((HE.out.below (Below.step B3.out HB.out)).below ⟨rfl, rfl, rfl, Nat.le_refl _, fun _ _ => rfl⟩) _ tv' _ c R (HR.out.drewN n) (by simpa [putS] using hlt) (by simp [putS]; omega) (by simp only [putS]; omega) (putS_len hT L a D) (by simpa [putS] using hR)
        rw [putS_adv] at CN
        have hpl := piece_len c R
        have hRl : L.length - a = R.length + 1 := by have := congrArg List.length hR; rw [List.length_drop] at this; simpa using this
        have hdd : ∀ n, (c :: R).drop n = L.drop (a + n) := fun n => by rw [← List.drop_drop, hR]
        have hok : (pieceP (c :: R)).1 = 0 → scanD (L.drop a) = ((scanD (L.drop (a + (pieceP (c :: R)).2.2))).1, (pieceP (c :: R)).2.1.toList ++ (scanD (L.drop (a + (pieceP (c :: R)).2.2))).2) := fun h => by
          have h1 := scanD_ok c R h
          rw [hdd] at h1
          rw [hR]
          exact h1
        have hbad : ¬ (pieceP (c :: R)).1 = 0 → scanD (L.drop a) = ((pieceP (c :: R)).1, []) := fun h => by rw [hR]; exact scanD_bad c R h
        have htl : (pieceP (c :: R)).2.1.toList.length ≤ 1 := by cases (pieceP (c :: R)).2.1 <;> simp
        generalize hq : pieceP (c :: R) = q at *
        obtain ⟨x, tk, n⟩ := q
        simp only at CN hpl hok hbad htl
        clear hq hdd
        by_cases hx : x = 0
        · subst hx
          have h1 := hpl rfl
          have h2 := hok rfl
          have HS' : Hid (E = (scanD (L.drop (a + n))).1 ∧ D0 = (D ++ tk.toList) ++ (scanD (L.drop (a + n))).2) := ⟨by rw [HS.out.1, h2], by rw [HS.out.2, h2, List.append_assoc]⟩
          clear hok hbad hpl h2 HS hR
          go_upto_region 7 with fail
          go_quiet (fail)
          go_wp2_with (go_at_call 101; refine (CN.out nq).mono ?_; rintro e w4 ⟨rfl, q1, q2, q3⟩; obtain ⟨tv4, q1⟩ := q1 (by first | rfl | trivial); have H4 := hidOf q1; have B4 : Hid (Below N w3 w4) := Below.step (Below.step HB.out (show Below N wr (wr.drewN nq) from ⟨rfl, rfl, rfl, Nat.le_refl _, fun _ _ => rfl⟩)) q3; clear q1 q2 q3)
          go_roundw
          case rel => exact ⟨a + n, D ++ tk.toList, tv4, by omega, by rw [List.length_append]; omega, HS', H4, B4⟩
          case measure =>
            have : atOf p w4 = a + n := by
              have : w4.cell? ⟨p, 3, none⟩ = some (.int .i64 ((a + n : Nat) : Int)) := H4.out.cell 3
              unfold atOf; rw [this]; rfl
            rw [this, HA.out]
            omega
        · have hx' : (x == 0) = false := by simpa using hx
          have HX : Hid (E = x) := by rw [HS.out.1, hbad hx]; exact hidOf rfl
          clear hok hbad hpl HS hR
          go_upto_region 7 with fail
          go_quiet (fail)
          go_wp2_with (go_at_call 101; refine (CN.out nq).mono ?_; rintro e w4 ⟨rfl, q1, ⟨tv4, s4, hs4, q2⟩, q3⟩; have H4 := hidOf q2; have B4 : Hid (Below N w3 w4) := Below.step (Below.step HB.out (show Below N wr (wr.drewN nq) from ⟨rfl, rfl, rfl, Nat.le_refl _, fun _ _ => rfl⟩)) q3; have HN4 := hidOf hs4; clear q1 q2 q3 hs4)
          go_ret
          have e2 : w4.cell? ⟨p, 2, none⟩ = some (.int .i64 (s4.num : Int)) := H4.out.cell 2
          rw [HN4.out] at e2
          exact ⟨by rw [HX.out]; rfl, Below.step B3.out B4.out, e2, fun h0 => absurd (by rw [← HX.out]; exact h0) hx⟩
      · have hltI : ¬ (a : Int) < L.length := by omega
        have haL : a = L.length := by omega
        have HX : Hid (E = 0 ∧ D0 = D) := by
          have h1 := HS.out
          rw [haL, List.drop_length, scanD_nil] at h1
          exact hidOf ⟨h1.1, by rw [h1.2]; simp⟩
        have CA : Hid (∀ n, Calls Tryz.prog 66 #[.pointer (some ⟨p, 0, none⟩), .int .i64 5, .string ⟨#[]⟩, .int .u64 0] (wr.drewN n) fun e w' => (∃ v, e = .returned v) ∧ SEnd N p (.slice a2 M.length k2) (wr.drewN n) ((putS s L a D).add 5 [] 0) w') := fun n => add_any N p _ _ tv' _ 5 [] 0 (HR.out.drewN n) (by simp only [putS]; omega) (putS_len hT L a D)
        clear HS
        go_upto_region 7 with fail
        go_quiet (fail)
        go_wp2_with (go_at_call 66; refine (CA.out nq).mono ?_; rintro e w4 ⟨⟨v, rfl⟩, ⟨tv4, q2⟩, q3⟩; have H4 := hidOf q2; have B4 : Hid (Below N w3 w4) := Below.step (Below.step HB.out (show Below N wr (wr.drewN nq) from ⟨rfl, rfl, rfl, Nat.le_refl _, fun _ _ => rfl⟩)) q3; clear q2 q3)
        go_ret
        have e2 : w4.cell? ⟨p, 2, none⟩ = some (.int .i64 ((s.num + 1 : Nat) : Int)) := H4.out.cell 2
        have e3 : (putS s L a D).add 5 [] 0 = putS s L a (D ++ [(5, [], 0)]) := putS_adv s L a D (some (5, [], 0)) 0
        have h4 := H4.out
        rw [e3] at h4
        exact ⟨by rw [HX.out.1]; rfl, Below.step B3.out B4.out, e2, fun _ => ⟨a2, k2, tv4, L, a, R3.out.below B4.out, hk2, by rw [HX.out.2]; exact h4⟩⟩
  · have hP : lineP L = (51, []) := by unfold lineP; rw [if_neg h1024]
    rw [hP]
    simp only
    have hbig : (1024 : Int) < L.length := by omega
    have hnI : (s.num : Int) ≤ 500000000 := by omega
    go_enter Tryz.func65, Tryz.ntmps65
    go_upto_region 2 with (go_at_call 100; refine CK.out.mono ?_; rintro e w1 ⟨a1, k1, a2, k2, fd, rfl, r1, r2, hk2, q, rfl⟩; have R1 := hidOf r1; have R2 := hidOf r2; clear r1 r2)
    have B1 : Hid (Below N w ((w.alloc (.cells #[.int .u8 10] 5)).drewN q)) := Below.of_out (((Out.refl w).alloc _).drewN q) H.out.base
    have H1 := hidOf ((H.out.out ((Out.refl w).alloc (.cells #[.int .u8 10] 5))).drewN q)
    clear c0 CK
    generalize (w.alloc (.cells #[.int .u8 10] 5)).drewN q = w1 at *
    have d0 : w1.cell? ⟨p, 0, none⟩ = some (.slice ra l.length rc) := H1.out.cell 0
    have d2 : w1.cell? ⟨p, 2, none⟩ = some (.int .i64 s.num) := H1.out.cell 2
    have f0 := H1.out.frozen 0
    have f2 := H1.out.frozen 2
    go_wp2
    go_ret
    have H2 := (H1.out.set 0 (.slice a2 M.length k2) s (rv' := .slice a2 M.length k2) rfl (by simp [Sn.cells])).set 2 (.int .i64 ((s.num : Int) + 1)) { s with num := s.num + 1 } (rv' := .slice a2 M.length k2) rfl (by simp [Sn.cells])
    exact ⟨rfl, Below.set_own (Below.set_own B1.out H.out.le _) H.out.le _, H2.cell 2, fun e => by cases e⟩
def textF : Nat → Nat → List UInt8 → Int × Nat × List Tk
  | 0, n, _ => (0, n, [])
  | _ + 1, n, [] => (0, n, [])
  | f + 1, n, c :: r =>
    if (lineP (cutL (c :: r)).1).1 = 0 then ((textF f (n + 1) (cutL (c :: r)).2).1, (textF f (n + 1) (cutL (c :: r)).2).2.1, ((lineP (cutL (c :: r)).1).2 ++ [(5, [], 0)]).map (mkT (n + 1)) ++ (textF f (n + 1) (cutL (c :: r)).2).2.2)
    else ((lineP (cutL (c :: r)).1).1, n + 1, [])
theorem textF_eq : ∀ (f g n : Nat) (l : List UInt8), l.length ≤ f → l.length ≤ g → textF f n l = textF g n l
  | 0, 0, _, _, _, _ => rfl
  | 0, g + 1, n, [], _, _ => rfl
  | 0, g + 1, n, c :: r, h, _ => by simp at h
  | f + 1, 0, n, [], _, _ => rfl
  | f + 1, 0, n, c :: r, _, h => by simp at h
  | f + 1, g + 1, n, [], _, _ => rfl
  | f + 1, g + 1, n, c :: r, hf, hg => by
    have hc := (cutL_len (c :: r) (by simp)).2
    simp only [List.length_cons] at hf hg hc
    unfold textF
    rw [textF_eq f g (n + 1) _ (by omega) (by omega)]
def textD (n : Nat) (l : List UInt8) : Int × Nat × List Tk := textF l.length n l
theorem textD_nil (n : Nat) : textD n [] = (0, n, []) := rfl
theorem textD_ok (n : Nat) (l : List UInt8) (hl : ¬ l = []) (h : (lineP (cutL l).1).1 = 0) : textD n l = ((textD (n + 1) (cutL l).2).1, (textD (n + 1) (cutL l).2).2.1, ((lineP (cutL l).1).2 ++ [(5, [], 0)]).map (mkT (n + 1)) ++ (textD (n + 1) (cutL l).2).2.2) := by
  cases l with
  | nil => exact absurd rfl hl
  | cons c r =>
    have hc := (cutL_len (c :: r) (by simp)).2
    show textF (r.length + 1) n (c :: r) = _
    unfold textF
    simp only [List.length_cons] at hc
    rw [if_pos h, textF_eq r.length _ (n + 1) (cutL (c :: r)).2 (by omega) (Nat.le_refl _)]
    rfl
theorem textD_bad (n : Nat) (l : List UInt8) (hl : ¬ l = []) (h : ¬ (lineP (cutL l).1).1 = 0) : textD n l = ((lineP (cutL l).1).1, n + 1, []) := by
  cases l with
  | nil => exact absurd rfl hl
  | cons c r =>
    show textF (r.length + 1) n (c :: r) = _
    unfold textF
    rw [if_neg h]
structure Run (s0 s : Sn) (D : List Tk) : Prop where
  keeps : s.keeps = s0.keeps
  cnt : s.cnt = s0.cnt + D.length
  T : s.T = if s0.keeps then s0.T ++ D else s0.T
def restOf (p : Nat) (w : World) : Nat := match w.cell? ⟨p, 0, none⟩ with | some (.slice _ n _) => n | _ => 0
def TEnd (N p : Nat) (w : World) (s : Sn) (l : List UInt8) (e : Ending) (w' : World) : Prop :=
  e = .returned (.int .i64 (textD s.num l).1) ∧ Below N w w' ∧
    (¬ (textD s.num l).1 = 0 → w'.cell? ⟨p, 2, none⟩ = some (.int .i64 ((textD s.num l).2.1 : Nat))) ∧
    ((textD s.num l).1 = 0 → ∃ rv tv' s', Sc N p w' rv tv' s' ∧ Run s s' ((textD s.num l).2.2 ++ [⟨0, [], 0, (textD s.num l).2.1⟩]))
theorem Run.putS {s0 s : Sn} {D : List Tk} (h : Run s0 s D) (L : List UInt8) (a : Nat) (X : List (Int × List UInt8 × Int)) : Run s0 (putS s L a X) (D ++ X.map (mkT (s.num + 1))) := by
  refine ⟨h.keeps, ?_, ?_⟩
  · show s.cnt + X.length = _
    rw [h.cnt, List.length_append, List.length_map]; omega
  · show (if s.keeps then s.T ++ X.map (mkT (s.num + 1)) else s.T) = _
    rw [h.keeps, h.T]
    by_cases hk : s0.keeps = true
    · simp [hk]
    · simp [hk]
theorem Run.len {s0 s : Sn} {D : List Tk} (h : Run s0 s D) (h0 : s0.T.length ≤ s0.cnt) : s.T.length ≤ s.cnt := by
  rw [h.T, h.cnt]
  by_cases hk : s0.keeps = true
  · simp [hk]; omega
  · simp [hk]; omega
theorem Run.add {s0 s : Sn} {D : List Tk} (h : Run s0 s D) (k : Int) (t : List UInt8) (n : Int) : Run s0 (s.add k t n) (D ++ [⟨k, t, n, s.num⟩]) := by
  refine ⟨h.keeps, ?_, ?_⟩
  · show s.cnt + 1 = _
    rw [h.cnt, List.length_append]; simp; omega
  · show (if s.keeps then s.T ++ [⟨k, t, n, s.num⟩] else s.T) = _
    rw [h.keeps, h.T]
    by_cases hk : s0.keeps = true
    · simp [hk]
    · simp [hk]
set_option maxHeartbeats 4000000 in
theorem lines_any (CV : ValC) (CC : CutC) (N p : Nat) (w : World) (hE : Env N w) (ra : Option Addr) (rc : Nat) (tv : Value) (s : Sn) (l : List UInt8) (h : Sc N p w (.slice ra l.length rc) tv s) (hr : RestAt N w ra l) (hcap : l.length ≤ rc) (hl : l.length ≤ 16777216) (hc : s.cnt = 0) (hT : s.T.length = 0) (hnum : s.num = 0) :
    Calls Tryz.prog 37 #[.pointer (some ⟨p, 0, none⟩)] w fun e w' => TEnd N p w s l e w' := by
  have H := hidOf h
  have HE := hidOf hE
  have HR := hidOf hr
  unfold TEnd
  rw [hnum]
  obtain ⟨E, n0, D0, HD⟩ : ∃ E n0 D0, Hid (textD 0 l = (E, n0, D0)) := ⟨_, _, _, hidOf rfl⟩
  rw [HD.out]
  simp only
  clear h hr hE
  go_enter Tryz.func37, Tryz.ntmps37
  go_wp2
  go_loopw [3] (fun ev wr => ∃ (m : List UInt8) (D : List Tk) (ra' : Option Addr) (rc' : Nat) (tv' : Value) (s' : Sn), m.length ≤ rc' ∧ m.length ≤ l.length ∧ s'.num + m.length ≤ 16777216 ∧ s'.cnt + 2 * m.length ≤ 33554432 ∧ Hid (E = (textD s'.num m).1 ∧ n0 = (textD s'.num m).2.1 ∧ (E = 0 → D0 = D ++ (textD s'.num m).2.2)) ∧ Hid (Sc N p wr (.slice ra' m.length rc') tv' s') ∧ Hid (Run s s' D) ∧ Hid (RestAt N wr ra' m) ∧ Hid (Below N w wr)) (fun ev wr => restOf p wr)
  case atStart => exact ⟨l, [], ra, rc, tv, s, hcap, by omega, by omega, by omega, hidOf ⟨by rw [hnum, HD.out], by rw [hnum, HD.out], fun _ => by rw [hnum, HD.out]; rfl⟩, H, hidOf ⟨rfl, by simp, by simp⟩, HR, hidOf (Below.refl _ _)⟩
  case round =>
    obtain ⟨m, D, ra', rc', tv', s', hm, hml, hn, hct, HS, HC, HU, HA, HB⟩ := hrel
    have d0 : wr.cell? ⟨p, 0, none⟩ = some (.slice ra' m.length rc') := HC.out.cell 0
    have hro : Hid (restOf p wr = m.length) := hidOf (by unfold restOf; rw [d0])
    by_cases hme : m = []
    · subst hme
      have HX : Hid (E = 0 ∧ n0 = s'.num ∧ D0 = D) := by
        have h1 := HS.out
        rw [textD_nil] at h1
        exact hidOf ⟨h1.1, h1.2.1, by rw [h1.2.2 h1.1]; simp⟩
      have CA : Hid (Calls Tryz.prog 66 #[.pointer (some ⟨p, 0, none⟩), .int .i64 0, .string ⟨#[]⟩, .int .u64 0] wr fun e w' => (∃ v, e = .returned v) ∧ SEnd N p (.slice ra' 0 rc') wr (s'.add 0 [] 0) w') := add_any N p _ _ tv' _ 0 [] 0 HC.out (by omega) (HU.out.len (by omega))
      simp only [List.length_nil] at d0
      go_wp2_with (go_at_call 66; refine CA.out.mono ?_; rintro e w4 ⟨⟨v, rfl⟩, ⟨tv4, q2⟩, q3⟩; have H4 := hidOf q2; have B4 := hidOf q3; clear q2 q3)
      go_ret
      refine ⟨by rw [HX.out.1]; rfl, Below.step HB.out B4.out, fun h0 => absurd HX.out.1 h0, fun _ => ⟨_, _, _, H4.out, ?_⟩⟩
      rw [HX.out.2.1, HX.out.2.2]
      exact HU.out.add 0 [] 0
    · have hpos : 0 < m.length := List.length_pos_iff.2 hme
      have hposI : (0 : Int) < m.length := by omega
      have CN := hidOf (nextLine_any CV CC N p wr (HE.out.below HB.out) ra' rc' tv' s' m HC.out HA.out hme hm (by omega) (by omega) (HU.out.len (by omega)) (by omega))
      have hcl := cutL_len m hme
      have hll := lineP_len (cutL m).1
      have hok := textD_ok s'.num m hme
      have hbad := textD_bad s'.num m hme
      unfold LEnd at CN
      generalize cutL m = q at *
      obtain ⟨L, M⟩ := q
      simp only at CN hcl hll hok hbad
      generalize lineP L = z at *
      obtain ⟨x, X⟩ := z
      simp only at CN hll hok hbad
      by_cases hx : x = 0
      · subst hx
        have h2 := hok rfl
        have HS' : Hid (E = (textD (s'.num + 1) M).1 ∧ n0 = (textD (s'.num + 1) M).2.1 ∧ (E = 0 → D0 = (D ++ (X ++ [(5, [], 0)]).map (mkT (s'.num + 1))) ++ (textD (s'.num + 1) M).2.2)) := by
          have h3 := HS.out
          rw [h2] at h3
          exact hidOf ⟨h3.1, h3.2.1, fun e => by rw [h3.2.2 e, List.append_assoc]⟩
        clear hok hbad h2 HS
        go_wp2_with (go_at_call 65; refine CN.out.mono ?_; rintro e w4 ⟨rfl, q1, q2, q3⟩; obtain ⟨a2, c2, tv4, L4, at4, r4, hc4, h4⟩ := q3 (by first | rfl | trivial); have H4 := hidOf h4; have B4 := hidOf q1; have R4 := hidOf r4; clear q1 q2 q3 h4 r4)
        go_roundw
        case rel =>
          refine ⟨M, _, a2, c2, tv4, _, hc4, by omega, ?_, ?_, HS', H4, hidOf (HU.out.putS L4 at4 _), R4, hidOf (Below.step HB.out B4.out)⟩
          · show s'.num + 1 + M.length ≤ 16777216
            omega
          · show s'.cnt + (X ++ [(5, [], 0)]).length + 2 * M.length ≤ 33554432
            rw [List.length_append]
            simp only [List.length_cons, List.length_nil]
            omega
        case measure =>
          have e0 : w4.cell? ⟨p, 0, none⟩ = some (.slice a2 M.length c2) := H4.out.cell 0
          rw [hro.out]
          unfold restOf
          rw [e0]
          exact hcl.2
      · have hx' : (x == 0) = false := by simpa using hx
        have h2 := hbad hx
        have HX : Hid (E = x ∧ n0 = s'.num + 1) := by
          have h3 := HS.out
          rw [h2] at h3
          exact hidOf ⟨h3.1, h3.2.1⟩
        clear hok hbad h2 HS
        go_wp2_with (go_at_call 65; refine CN.out.mono ?_; rintro e w4 ⟨rfl, q1, q2, q3⟩; have B4 := hidOf q1; have Q2 := hidOf q2; clear q1 q2 q3)
        go_ret
        refine ⟨by rw [HX.out.1]; rfl, Below.step HB.out B4.out, fun _ => by rw [HX.out.2]; exact Q2.out, fun h0 => absurd (by rw [← HX.out.1]; exact h0) hx⟩
def tokensP (l : List UInt8) : List Tk × Int × Int :=
  if l.length ≤ 16777216 then (if (textD 0 l).1 = 0 then ((textD 0 l).2.2 ++ [⟨0, [], 0, (textD 0 l).2.1⟩], 0, 0) else ([], ((textD 0 l).2.1 : Nat), (textD 0 l).1)) else ([], 0, 50)
theorem textF_len : ∀ (f n : Nat) (l : List UInt8), (textF f n l).2.2.length ≤ 2 * l.length
  | 0, _, _ => by simp [textF]
  | _ + 1, _, [] => by simp [textF]
  | f + 1, n, c :: r => by
    have hc := cutL_len (c :: r) (by simp)
    have hx := lineP_len (cutL (c :: r)).1
    have ih := textF_len f (n + 1) (cutL (c :: r)).2
    unfold textF
    split
    · simp only [List.length_append, List.length_map, List.length_cons, List.length_nil] at hc ⊢
      omega
    · simp
def sn0 (k : Bool) : Sn := ⟨[], 0, 0, 0, k, []⟩
theorem sc_new {N : Nat} {w : World} (hN : N ≤ w.heap.size) (rv tv : Value) (k : Bool) (ho : w.ownsRow N 117 4 tv 0 []) (hne : ∀ g, tv.ownBlock = some g → g < w.heap.size) : Sc N w.heap.size (w.alloc (.cells ((sn0 k).cells rv tv) 88)) rv tv (sn0 k) := by
  refine ⟨hN, heap_alloc_new w _, ?_, fun g hg e => ?_⟩
  · exact owns_chg (S := fun _ => False) ho (fun _ _ h => h) (Chg.of_out ((Out.refl w).alloc _))
  · have := hne g hg; omega
set_option maxHeartbeats 4000000 in
theorem tokens_any (CV : ValC) (CC : CutC) (w : World) (hE : Env w.heap.size w) (a : Option Addr) (cap : Nat) (l : List UInt8) (hr : RestAt w.heap.size w a l) (hcap : l.length ≤ cap) (hll : l.length ≤ 140737488355328) :
    Calls Tryz.prog 18 #[.slice a l.length cap] w fun e w' => ∃ v, e = .returned (.tuple #[v, .int .i64 (tokensP l).2.1, .int .i64 (tokensP l).2.2]) ∧ w'.ownsRow w.heap.size 117 4 v (tokensP l).1.length (tkV (tokensP l).1) ∧ Out w w' := by
  by_cases hl : l.length ≤ 16777216
  · have hlI : (l.length : Int) ≤ 16777216 := by omega
    have hlI' : ¬ (16777216 : Int) < l.length := by omega
    have CL : Hid (∀ wx p tv k, Below w.heap.size w wx → Sc w.heap.size p wx (.slice a l.length cap) tv (sn0 k) → Calls Tryz.prog 37 #[.pointer (some ⟨p, 0, none⟩)] wx fun e w' => TEnd w.heap.size p wx (sn0 k) l e w') := fun wx p tv k hb hs => lines_any CV CC w.heap.size p wx (hE.below hb) a cap tv (sn0 k) l hs (hr.below hb) hcap hl rfl rfl rfl
    have H1 : Hid (Sc w.heap.size w.heap.size (w.alloc (.cells #[.slice a l.length cap, .string ⟨#[]⟩, .int .i64 0, .int .i64 0, .int .i64 0, .bool false, .slice none 0 0] 88)) (.slice a l.length cap) (.slice none 0 0) (sn0 false)) := sc_new (Nat.le_refl _) _ _ false (World.ownsRow_nil _ _ _ _) (fun g hg => by cases hg)
    have B1 : Hid (Below w.heap.size w (w.alloc (.cells #[.slice a l.length cap, .string ⟨#[]⟩, .int .i64 0, .int .i64 0, .int .i64 0, .bool false, .slice none 0 0] 88))) := (Out.refl w).alloc _
    have hlen : (textD 0 l).2.2.length ≤ 2 * l.length := textF_len _ _ _
    have hP : tokensP l = (if (textD 0 l).1 = 0 then ((textD 0 l).2.2 ++ [⟨0, [], 0, (textD 0 l).2.1⟩], (0 : Int), (0 : Int)) else ([], (((textD 0 l).2.1 : Nat) : Int), (textD 0 l).1)) := by unfold tokensP; rw [if_pos hl]
    rw [hP]
    clear hP
    unfold TEnd at CL
    have hz : ∀ k, (sn0 k).num = 0 := fun _ => rfl
    simp only [hz] at CL
    obtain ⟨E, n0, D0, HD⟩ : ∃ E n0 D0, Hid (textD 0 l = (E, n0, D0)) := ⟨_, _, _, hidOf rfl⟩
    rw [HD.out] at CL hlen ⊢
    simp only at CL hlen ⊢
    clear hE hr
    by_cases hx : E = 0
    · subst hx
      rw [if_pos rfl]
      simp only
      obtain ⟨i0, hi, hz0, hz1, hz2⟩ := info_parts infoTk
      go_enter Tryz.func18, Tryz.ntmps18
      go_upto_region 4 with fail
      generalize w.alloc (.cells #[.slice a l.length cap, .string ⟨#[]⟩, .int .i64 0, .int .i64 0, .int .i64 0, .bool false, .slice none 0 0] 88) = w1 at *
      go_upto_region 7 with (go_at_call 37; refine (CL.out w1 _ _ _ B1.out H1.out).mono ?_; rintro e w2 ⟨rfl, q1, q2, q3⟩; obtain ⟨rv2, tv2, s2, q4, q5⟩ := q3 (by first | rfl | trivial); have H2 := hidOf q4; have B2 := hidOf (Below.step B1.out q1); have U2 := hidOf q5; clear q1 q2 q3 q4 q5)
      obtain ⟨cn, hcn⟩ : ∃ cn, cn = s2.cnt := ⟨_, rfl⟩
      have hcD : cn = D0.length + 1 := by rw [hcn, U2.out.cnt]; simp [sn0]
      have d4 : w2.cell? ⟨w.heap.size, 4, none⟩ = some (.int .i64 (cn : Int)) := by rw [hcn]; exact H2.out.cell 4
      obtain ⟨w3, hmk, hown3, hgr3⟩ := run_make_own (P := Tryz.prog) w2 w.heap.size 65 117 i0 _ 4 Tryz.underlying65 hi hz0 hz1 .i64 .i64 cn (by rw [hz2]; omega) (by unfold maxLen; omega) B2.out.size
      have hlt3 := (hown3.lt w2.heap.size rfl).2
      have H3 := hidOf (sc_new (N := w.heap.size) (w := w3) (Nat.le_trans B2.out.size hgr3.size) (.slice a l.length cap) (.slice (some ⟨w2.heap.size, 0, none⟩) 0 cn) true hown3 (fun g hg => by simp [Value.ownBlock] at hg; omega))
      have B3 : Hid (Below w.heap.size w (w3.alloc (.cells ((sn0 true).cells (.slice a l.length cap) (.slice (some ⟨w2.heap.size, 0, none⟩) 0 cn)) 88))) := Below.alloc (Below.of_grown B2.out (Nat.le_refl _) hgr3 (fun k hk => by cases hk)) (Nat.le_trans B2.out.size hgr3.size) _
      clear hown3 hgr3 hlt3 hcD hi hz0 hz1 hz2
      have hcn' := hidOf hcn
      clear hcn
      go_upto_region 8 with fail
      have H3' : Hid (Sc w.heap.size w3.heap.size (w3.alloc (.cells #[.slice a l.length cap, .string ⟨#[]⟩, .int .i64 0, .int .i64 0, .int .i64 0, .bool true, .slice (some ⟨w2.heap.size, 0, none⟩) 0 cn] 88)) (.slice a l.length cap) (.slice (some ⟨w2.heap.size, 0, none⟩) 0 cn) (sn0 true)) := H3
      have B3' : Hid (Below w.heap.size w (w3.alloc (.cells #[.slice a l.length cap, .string ⟨#[]⟩, .int .i64 0, .int .i64 0, .int .i64 0, .bool true, .slice (some ⟨w2.heap.size, 0, none⟩) 0 cn] 88))) := B3
      clear H3 B3 hmk d4 H2 B2 U2 hcn'
      generalize w3.alloc (.cells #[.slice a l.length cap, .string ⟨#[]⟩, .int .i64 0, .int .i64 0, .int .i64 0, .bool true, .slice (some ⟨w2.heap.size, 0, none⟩) 0 cn] 88) = w4 at *
      generalize hg3 : (.slice (some ⟨w2.heap.size, 0, none⟩) 0 cn : Value) = tv4 at H3'
      generalize w3.heap.size = p3 at *
      go_upto_region 9 with (go_at_call 37; refine (CL.out w4 p3 tv4 true B3'.out H3'.out).mono ?_; rintro e w5 ⟨rfl, q1, q2, q3⟩; obtain ⟨rv5, tv5, s5, q4, q5⟩ := q3 (by first | rfl | trivial); have H5 := hidOf q4; have B5 := hidOf (Below.step B3'.out q1); have U5 := hidOf q5; clear q1 q2 q3 q4 q5)
      obtain ⟨ad5, cp5, rfl⟩ : ∃ ad cp, tv5 = .slice ad s5.T.length cp := own_form H5.out.own
      have d6 : w5.cell? ⟨p3, 6, none⟩ = some (.slice ad5 s5.T.length cp5) := H5.out.cell 6
      go_wp2
      go_ret3
      have e1 : s5.T = D0 ++ [⟨0, [], 0, n0⟩] := by rw [U5.out.T]; simp [sn0]
      refine ⟨.slice ad5 s5.T.length cp5, rfl, ?_, B5.out⟩
      rw [← e1]
      exact H5.out.own
    · rw [if_neg hx]
      have hx' : (E == 0) = false := by simpa using hx
      simp only
      go_enter Tryz.func18, Tryz.ntmps18
      go_upto_region 4 with fail
      generalize w.alloc (.cells #[.slice a l.length cap, .string ⟨#[]⟩, .int .i64 0, .int .i64 0, .int .i64 0, .bool false, .slice none 0 0] 88) = w1 at *
      go_upto_region 6 with (go_at_call 37; refine (CL.out w1 _ _ _ B1.out H1.out).mono ?_; rintro e w2 ⟨rfl, q1, q2, q3⟩; have d2 := q2 hx; have B2 := hidOf (Below.step B1.out q1); clear q1 q2 q3)
      go_quiet (fail)
      go_wp2
      go_ret3
      exact ⟨.slice none 0 0, rfl, World.ownsRow_nil _ _ _ _, Below.step B2.out ⟨rfl, rfl, rfl, Nat.le_refl _, fun _ _ => rfl⟩⟩
  · have hlI' : (16777216 : Int) < l.length := by omega
    have hP : tokensP l = ([], 0, 50) := by unfold tokensP; rw [if_neg hl]
    rw [hP]
    go_enter Tryz.func18, Tryz.ntmps18
    go_wp2
    go_ret3
    exact ⟨.slice none 0 0, rfl, World.ownsRow_nil _ _ _ _, Out.refl _⟩
theorem bldSize : (Tryz.prog.info? 77).map (·.size) = some 2 := Tryz.Builder_Extra_169.sizeBuilder
theorem wrtLies : liesAt Tryz.prog Tryz.prog.depth 177 (4 / Tryz.prog.cellsOf 177) 0 77 1 = true := by kernel_rfl
set_option maxRecDepth 100000 in
set_option maxHeartbeats 1000000 in
theorem chk_used (b : Nat) (w : World) (h0 : w.cell? ⟨b, 0, none⟩ = some (.pointer (some ⟨b, 0, none⟩))) : Calls Tryz.prog 89 #[.pointer (some ⟨b, 0, none⟩)] w fun e w' => e = .returned (.tuple #[]) ∧ w' = w := by
  obtain ⟨j, hj, _⟩ := Option.map_eq_some_iff.1 bldSize
  go_enter Tryz.func89, Tryz.ntmps89
  go_wp2
  rw [Lib.run_neq_ptr_same w _ Tryz.underlying75 hj]
  go_wp2
  go_end0
  exact ⟨rfl, rfl⟩
set_option maxRecDepth 100000 in
set_option maxHeartbeats 1000000 in
theorem chk_new (b : Nat) (w : World) (h0 : w.cell? ⟨b, 0, none⟩ = some (.pointer none)) (hs : w.shape? b = some (177, 4)) (hf : w.frozen? ⟨b, 0, none⟩ = false) : Calls Tryz.prog 89 #[.pointer (some ⟨b, 0, none⟩)] w fun e w' => e = .returned (.tuple #[]) ∧ w' = w.setCell ⟨b, 0, none⟩ (.pointer (some ⟨b, 0, none⟩)) := by
  obtain ⟨j, hj, hj2⟩ := Option.map_eq_some_iff.1 bldSize
  go_enter Tryz.func89, Tryz.ntmps89
  go_wp2
  rw [Lib.run_to_unsafe w ⟨b, 0, none⟩ Tryz.underlying75 Tryz.underlying181 hj (by rw [hj2]; decide) hs (Nat.zero_lt_succ 3)]
  simp only [Result.andThen]
  rw [Oper.upon_value]
  go_wp2
  rw [run_callFunc_extern Tryz.func133 (by kernel_rfl) (by kernel_rfl) (by kernel_rfl) (e := Extern.AbiNoEscape.same) (by kernel_rfl), Lib.run_noEscape]
  simp only [Result.andThen]
  rw [Oper.upon_value]
  go_wp2
  rw [Lib.run_from_unsafe w ⟨b, 0, none⟩ Tryz.underlying181 Tryz.underlying75 hj hs wrtLies]
  simp only [Result.andThen]
  rw [Oper.upon_value]
  go_wp2
  go_end0
  exact ⟨rfl, rfl⟩
structure Wr (N p : Nat) (w : World) (l : List UInt8) (size line : Nat) (ad bv : Value) : Prop where
  le : N ≤ p
  at_ : w.heap[p]? = some (.cells #[ad, bv, .int .i64 size, .int .i64 line] 177 (0, 0))
  ad_ : ad = .pointer none ∨ ad = .pointer (some ⟨p, 0, none⟩)
  own : w.ownsRow N 5 1 bv l.length (Lib.byteCells l)
  ne : ∀ k, bv.ownBlock = some k → ¬ k = p
  nil_ : l = [] → bv = .slice none 0 0
theorem Wr.cell {N p : Nat} {w : World} {l : List UInt8} {a b : Nat} {ad bv : Value} (h : Wr N p w l a b ad bv) (j : Nat) : w.cell? ⟨p, j, none⟩ = (#[ad, bv, .int .i64 a, .int .i64 b] : Array Value)[j]? := by simp [World.cell?, h.at_]
theorem Wr.frozen {N p : Nat} {w : World} {l : List UInt8} {a b : Nat} {ad bv : Value} (h : Wr N p w l a b ad bv) (j : Nat) : w.frozen? ⟨p, j, none⟩ = false := by simp [World.frozen?, h.at_]
theorem Wr.lt {N p : Nat} {w : World} {l : List UInt8} {a b : Nat} {ad bv : Value} (h : Wr N p w l a b ad bv) : p < w.heap.size := (Array.getElem?_eq_some_iff.1 h.at_).1
theorem Wr.base {N p : Nat} {w : World} {l : List UInt8} {a b : Nat} {ad bv : Value} (h : Wr N p w l a b ad bv) : N ≤ w.heap.size := by have := h.lt; have := h.le; omega
theorem Wr.out {N p : Nat} {w w' : World} {l : List UInt8} {a b : Nat} {ad bv : Value} (h : Wr N p w l a b ad bv) (o : Out w w') : Wr N p w' l a b ad bv := ⟨h.le, (o.block p h.lt).trans h.at_, h.ad_, owns_chg (S := fun _ => False) h.own (fun _ _ h => h) (Chg.of_out o), h.ne, h.nil_⟩
theorem Wr.set2 {N p : Nat} {w : World} {l : List UInt8} {a b : Nat} {ad bv : Value} (h : Wr N p w l a b ad bv) (a' : Nat) : Wr N p (w.setCell ⟨p, 2, none⟩ (.int .i64 a')) l a' b ad bv :=
  ⟨h.le, by simp [World.setCell, Array.getElem?_modify, h.at_], h.ad_, owns_chg (S := fun k => k = p) h.own h.ne (Chg.setCell (S := fun k => k = p) (Chg.refl _ w) (p := ⟨p, 2, none⟩) rfl _), h.ne, h.nil_⟩
theorem Wr.set3 {N p : Nat} {w : World} {l : List UInt8} {a b : Nat} {ad bv : Value} (h : Wr N p w l a b ad bv) (b' : Nat) : Wr N p (w.setCell ⟨p, 3, none⟩ (.int .i64 b')) l a b' ad bv :=
  ⟨h.le, by simp [World.setCell, Array.getElem?_modify, h.at_], h.ad_, owns_chg (S := fun k => k = p) h.own h.ne (Chg.setCell (S := fun k => k = p) (Chg.refl _ w) (p := ⟨p, 3, none⟩) rfl _), h.ne, h.nil_⟩
theorem Wr.set0 {N p : Nat} {w : World} {l : List UInt8} {a b : Nat} {ad bv : Value} (h : Wr N p w l a b ad bv) : Wr N p (w.setCell ⟨p, 0, none⟩ (.pointer (some ⟨p, 0, none⟩))) l a b (.pointer (some ⟨p, 0, none⟩)) bv :=
  ⟨h.le, by simp [World.setCell, Array.getElem?_modify, h.at_], .inr rfl, owns_chg (S := fun k => k = p) h.own h.ne (Chg.setCell (S := fun k => k = p) (Chg.refl _ w) (p := ⟨p, 0, none⟩) rfl _), h.ne, h.nil_⟩
theorem chk_any (N p : Nat) (w : World) (l : List UInt8) (a b : Nat) (ad bv : Value) (h : Wr N p w l a b ad bv) : Calls Tryz.prog 89 #[.pointer (some ⟨p, 0, none⟩)] w fun e w' => e = .returned (.tuple #[]) ∧ Wr N p w' l a b (.pointer (some ⟨p, 0, none⟩)) bv ∧ Below N w w' := by
  rcases h.ad_ with rfl | rfl
  · exact (chk_new p w (h.cell 0) (by simp [World.shape?, h.at_]) (h.frozen 0)).mono fun e w' ⟨he, hw⟩ => ⟨he, hw ▸ h.set0, hw ▸ Below.set_own (Below.refl N w) h.le _⟩
  · exact (chk_used p w (h.cell 0)).mono fun e w' ⟨he, hw⟩ => ⟨he, hw ▸ h, hw ▸ Below.refl N _⟩
set_option maxRecDepth 100000 in
set_option maxHeartbeats 2000000 in
theorem write_any (N p : Nat) (w : World) (l : List UInt8) (a b : Nat) (ad bv : Value) (t : List UInt8) (h : Wr N p w l a b ad bv) (hlen : l.length + t.length ≤ 100000000) :
    Calls Tryz.prog 58 #[.pointer (some ⟨p, 0, none⟩), .string ⟨t.toArray⟩] w fun e w' => (∃ v, e = .returned v) ∧ (∃ ad' bv', Wr N p w' (l ++ t) a b ad' bv') ∧ Below N w w' := by
  obtain ⟨i0, hi, hz0, hz1, hz2⟩ := info_parts (show (Tryz.prog.info? 5).map (fun i => (i.zero, i.size, i.bytes)) = some (some (.int .u8 0), 1, 1) from Tryz.Builder_Extra_169.infoByte)
  have CK := hidOf (chk_any N p w l a b ad bv h)
  have hts : (⟨t.toArray⟩ : ByteArray).size = t.length := mk_size t
  have hN0 := h.base
  clear h
  go_enter Tryz.func58, Tryz.ntmps58
  go_wp2_with (go_at_call 89; refine CK.out.mono ?_)
  rintro e w1 ⟨rfl, hW, hb1⟩
  have hsz := hb1.size
  have c1 : w1.cell? ⟨p, 1, none⟩ = some bv := hW.cell 1
  have hlt : p < w1.heap.size := hW.lt
  have hNw := hW.base
  go_wp2_with (at_builtin; refine Lib.wpList_append_own_string _ rfl _ _ 24 9 rfl N 5 i0 Tryz.underlying24 Tryz.underlying9 hi hz0 hz1 hz2 bv l.length (Lib.byteCells l) rfl hW.own ⟨t.toArray⟩ rfl (by unfold maxLen; omega) (by omega) hNw ?_)
  intro v' w2 hown' hgrow hiff
  have hb2 : w2.heap[p]? = some (.cells #[.pointer (some ⟨p, 0, none⟩), bv, .int .i64 a, .int .i64 b] 177 (0, 0)) := (hgrow.block p hlt (fun e => hW.ne p e.symm rfl)).trans hW.at_
  have d1 : w2.cell? ⟨p, 1, none⟩ = some bv := by rw [Lib.cell_of_heap hb2]; rfl
  have f1 : w2.frozen? ⟨p, 1, none⟩ = false := Lib.frozen_of_heap hb2 1
  have HW := hidOf (Below.set_own (j := 1) (Below.of_grown hb1 hN0 hgrow (own_le hW.own)) hW.le v')
  have hne2 : ∀ k, v'.ownBlock = some k → ¬ k = p := fun k hk e => by
    subst e
    rcases hown'.2 with ⟨hv, _⟩ | ⟨g, cap, cur, hv, _, hg, _⟩
    · rw [hv] at hk; cases hk
    · rw [hv] at hk
      simp [Value.ownBlock] at hk
      subst hk
      rw [hb2] at hg
      simp at hg
  have hst : Lib.strCells ⟨t.toArray⟩ = Lib.byteCells t := by simp [Lib.strCells, Lib.byteCells]
  rw [hst] at hown'
  have hbl : Lib.byteCells l ++ Lib.byteCells t = Lib.byteCells (l ++ t) := by simp [Lib.byteCells]
  rw [hbl, show l.length + t.length = (l ++ t).length from by simp] at hown'
  have hnil2 : l ++ t = [] → v' = .slice none 0 0 := fun h0 => by
    obtain ⟨h1, h2⟩ := List.append_eq_nil_iff.1 h0
    exact hiff.2 ⟨hW.nil_ h1, by first | exact h2 | simp [h2]⟩
  have HN : Hid (Wr N p (w2.setCell ⟨p, 1, none⟩ v') (l ++ t) a b (.pointer (some ⟨p, 0, none⟩)) v') := ⟨hW.le, by simp [World.setCell, Array.getElem?_modify, hb2], .inr rfl, owns_chg (S := fun k => k = p) hown' hne2 (Chg.setCell (S := fun k => k = p) (Chg.refl _ w2) (p := ⟨p, 1, none⟩) rfl _), hne2, hnil2⟩
  obtain ⟨ao, cp, rfl⟩ : ∃ ao cp, v' = .slice ao (l.length + t.length) cp := by have := own_form hown'; rw [List.length_append] at this; exact this
  clear hown' hgrow hb2 hne2 hnil2 hiff hW hb1 c1 hbl hst
  go_wp2
  go_ret2
  exact ⟨⟨_, rfl⟩, ⟨_, _, HN.out⟩, HW.out⟩
end Go.Proofs.YtkihaohdcgjioaaGreatDoor.Lx
