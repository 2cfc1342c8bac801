import Derived.Test.YtoobdcjkhphlcaaRec
import Derived.Lib.MinMax
namespace Go.Proofs.Ytoobdcjkhphlcaa
open Go.RowKit
set_option linter.unusedVariables false
set_option linter.unusedSimpArgs false
def Rl.cs (s : Rl) : List Value := [.int .i64 s.sl, .int .i64 s.ki, .int .i64 s.sy]
def rlV (l : List Rl) : List Value := l.flatMap Rl.cs
theorem rlV_len (l : List Rl) : (rlV l).length = l.length * 3 := by
  induction l with
  | nil => rfl
  | cons x r ih => show (x.cs ++ rlV r).length = _; rw [List.length_append, ih]; simp [Rl.cs]; omega
theorem rlV_app (l m : List Rl) : rlV (l ++ m) = rlV l ++ rlV m := by simp [rlV, List.flatMap_append]
theorem rlV_get : ∀ (l : List Rl) (i : Nat) (x : Rl) (j : Nat), l[i]? = some x → j < 3 → (rlV l)[i * 3 + j]? = x.cs[j]?
  | [], _, _, _, h, _ => by simp at h
  | y :: r, 0, x, j, h, hj => by
    simp at h; subst h
    show (y.cs ++ rlV r)[0 * 3 + j]? = _
    rw [List.getElem?_append_left (by simp [Rl.cs]; omega)]; simp
  | y :: r, i + 1, x, j, h, hj => by
    show (y.cs ++ rlV r)[(i + 1) * 3 + j]? = _
    rw [List.getElem?_append_right (by simp [Rl.cs]; omega), ← rlV_get r i x j (by simpa using h) hj]
    congr 1
    simp [Rl.cs]; omega
/-- relocations at an address -/
def RlAt (B : Nat) (w : World) (a : Option Addr) (L : List Rl) : Prop := L = [] ∨ ∃ b off, b < B ∧ a = some ⟨b, off, none⟩ ∧ ∀ k u, (rlV L)[k]? = some u → w.cell? ⟨b, off + k, none⟩ = some u
theorem RlAt.out {w w' : World} {a : Option Addr} {L : List Rl} (h : RlAt w.heap.size w a L) (o : Out w w') : RlAt w'.heap.size w' a L := by
  rcases h with h | ⟨g, of, hg, ha, hc⟩
  · exact .inl h
  · exact .inr ⟨g, of, Nat.lt_of_lt_of_le hg o.size, ha, fun k x hx => cell_later o (hc k x hx)⟩
structure Cells3 (w : World) (b off : Nat) (x : Rl) : Prop where
  c0 : w.cell? ⟨b, off, none⟩ = some (.int .i64 x.sl)
  c1 : w.cell? ⟨b, off + 1, none⟩ = some (.int .i64 x.ki)
  c2 : w.cell? ⟨b, off + 2, none⟩ = some (.int .i64 x.sy)
theorem RlAt.get {B : Nat} {w : World} {a : Option Addr} {L : List Rl} (h : RlAt B w a L) {i : Nat} {x : Rl} (hx : L[i]? = some x) : ∃ b off, a = some ⟨b, off, none⟩ ∧ b < B ∧ Cells3 w b (off + i * 3) x := by
  rcases h with rfl | ⟨g, o, hg, ha, hc⟩
  · simp at hx
  · have key : ∀ j, j < 3 → w.cell? ⟨g, o + i * 3 + j, none⟩ = x.cs[j]? := fun j hj => by
      have hlt : j < x.cs.length := by simpa [Rl.cs] using hj
      rw [Nat.add_assoc, hc (i * 3 + j) (x.cs[j]'hlt) (by rw [rlV_get L i x j hx hj, List.getElem?_eq_getElem hlt]), List.getElem?_eq_getElem hlt]
    exact ⟨g, o, ha, hg, key 0 (by omega), key 1 (by omega), key 2 (by omega)⟩
theorem Cells3.later {w w' : World} {b off : Nat} {x : Rl} (h : Cells3 w b off x) (o : Out w w') : Cells3 w' b off x := ⟨cell_later o h.c0, cell_later o h.c1, cell_later o h.c2⟩
/-- what Write answers -/
def wrF (ah : Int) : List Rl → List UInt8 → Option (List UInt8) × Int
  | [], b => (some b, 0)
  | s :: r, b => if mayP s = 0 then (none, 110) else if s.sl ≤ ah then (none, 111) else wrF s.sl r (b ++ enR s (mayP s))
def wrP (rs : List Rl) : Option (List UInt8) × Int := wrF (-1) rs []
theorem wrF_step {ah : Int} {L : List Rl} {i : Nat} {x : Rl} {b : List UInt8} (h : L[i]? = some x) : wrF ah (L.drop i) b = if mayP x = 0 then (none, 110) else if x.sl ≤ ah then (none, 111) else wrF x.sl (L.drop (i + 1)) (b ++ enR x (mayP x)) := by
  obtain ⟨hi, hx⟩ := List.getElem?_eq_some_iff.1 h
  rw [List.drop_eq_getElem_cons hi, hx, wrF]
theorem ty_le (k : Int) : tyP k ≤ 10 := by unfold tyP; split <;> (try split) <;> omega
theorem may_facts {s : Rl} (h : 0 < mayP s) : 0 ≤ s.sl ∧ s.sl < 65536 ∧ 1 ≤ s.sy ∧ s.sy ≤ 4294967295 ∧ mayP s = tyP s.ki ∧ mayP s ≤ 10 := by
  have := ty_le s.ki
  unfold mayP at h ⊢
  split at h
  · rename_i hc
    rw [if_pos hc]
    exact ⟨hc.1, hc.2.1, hc.2.2.1, hc.2.2.2, rfl, this⟩
  · omega
theorem run_make_b0 (n : Nat) (hn : n ≤ 1000000000000) (w : World) : ∃ cur : Array Value, (Instr.makeSlice 30 (.int .i64 0) (.int .i64 (n : Int))).run Try.prog w = .ok (.slice (some ⟨w.heap.size, 0, none⟩) 0 n) (w.alloc (.cells cur 5)) ∧ OwB w.heap.size (.slice (some ⟨w.heap.size, 0, none⟩) 0 n) [] (w.alloc (.cells cur 5)) := by
  obtain ⟨i0, hi, hz0, hz1, hz2⟩ := info_parts infoB
  have h := run_make (P := Try.prog) w 30 5 i0 _ Try.underlying30 hi hz0 .i64 .i64 0 (n : Int) (by omega) (by omega) (by rw [hz2]; omega) (by omega)
  rw [hz1] at h
  refine ⟨_, h, rfl, .inr ⟨w.heap.size, n, _, rfl, Nat.le_refl _, heap_alloc_new w _, by simp, by unfold maxLen; omega, by simp [madeCells], ?_⟩⟩
  simp [Lib.byteCells]
def WrE (w : World) (o : Option (List UInt8) × Int) (e : Ending) (w' : World) : Prop := Out w w' ∧ match o with
  | (none, er) => e = .returned (.tuple #[.slice none 0 0, .int .i64 er])
  | (some b, _) => ∃ a c, e = .returned (.tuple #[.slice a b.length c, .int .i64 0]) ∧ OwB w.heap.size (.slice a b.length c) b w'
set_option maxRecDepth 8000 in
set_option maxHeartbeats 1000000 in
theorem write_any (w : World) (a : Option Addr) (c : Nat) (L : List Rl) (h : RlAt w.heap.size w a L) (hc : L.length ≤ c) (hl : L.length ≤ 140737488355328) : Calls Try.prog 13 #[.slice a L.length c] w fun e w' => WrE w (wrP L) e w' := by
  obtain ⟨m, hm⟩ : ∃ m, m = min L.length 65536 := ⟨_, rfl⟩
  have hmI : (min (L.length : Int) 65536) = m := by omega
  obtain ⟨n, hn⟩ : ∃ n : Nat, n = 16 * m := ⟨_, rfl⟩
  have hnI : (16 : Int) * m = n := by omega
  have hm6 : (m : Int) ≤ 65536 := by omega
  have hm0 : (0 : Int) ≤ m := by omega
  obtain ⟨cur, hmk, hown⟩ := run_make_b0 n (by omega) w
  have HL := hidOf h
  have hlI : (L.length : Int) ≤ 140737488355328 := by omega
  have hcI : (L.length : Int) ≤ c := by omega
  obtain ⟨O0, hO0⟩ : ∃ O, O = wrP L := ⟨_, rfl⟩
  rw [← hO0]
  have H0 : Hid (O0 = wrF (-1) L []) := hidOf hO0
  have HW0 : Hid (OwB w.heap.size (.slice (some ⟨w.heap.size, 0, none⟩) 0 n) [] (w.alloc (.cells cur 5))) := hidOf hown
  have HO0 := hidOf ((Out.refl w).alloc (.cells cur 5))
  clear h hn hO0 hown hm
  go_enter Try.func13, Try.ntmps13
  go_wp2
  clear hmk hmI hnI hm6 hm0
  generalize w.alloc (.cells cur 5) = W1 at *
  go_loopw [17, 4, 5] (fun iv bv av wr => ∃ (i : Nat) (P : List UInt8) (a1 : Option Addr) (c1 : Nat) (ah : Int), iv = .int .i64 i ∧ bv = .slice a1 P.length c1 ∧ av = .int .i64 ah ∧ i ≤ L.length ∧ Hid (O0 = wrF ah (L.drop i) P) ∧ Hid (P.length = 16 * i ∧ (i : Int) ≤ ah + 1 ∧ ah < 65536) ∧ Hid (OwB w.heap.size (.slice a1 P.length c1) P wr) ∧ Hid (Out w wr)) (fun iv _ _ _ => L.length - (intOf iv).toNat)
  case atStart => exact ⟨0, [], _, _, -1, rfl, rfl, rfl, by omega, H0.out, ⟨by simp, by simp, by decide⟩, HW0.out, HO0.out⟩
  case round =>
    obtain ⟨i, P, a1, c1, ah, rfl, rfl, rfl, hi, HO, HPl, HW, HOu⟩ := hrel
    by_cases hiL : i < L.length
    · have hlt : (i : Int) < L.length := by omega
      have h0 : (0 : Int) ≤ i := by omega
      obtain ⟨x, hx⟩ : ∃ x, L[i]? = some x := ⟨_, List.getElem?_eq_getElem hiL⟩
      obtain ⟨g, off, rfl, hg, h6⟩ := HL.out.get hx
      obtain ⟨x0, x1, x2⟩ := h6.later HOu.out
      have Hst := hidOf (wrF_step (ah := ah) (b := P) hx)
      obtain ⟨sl, ki, sy⟩ := x
      simp only at x0 x1 x2
      obtain ⟨qb, hqb⟩ : ∃ qb, qb = wr.heap.size := ⟨_, rfl⟩
      have HX : Hid ((wr.alloc (.cells #[.int .i64 sl, .int .i64 ki, .int .i64 sy] 27)).heap[qb]? = some (.cells #[.int .i64 sl, .int .i64 ki, .int .i64 sy] 27 (0, 0))) := hidOf (by rw [hqb]; exact heap_alloc_new wr _)
      have HOb := hidOf (HOu.out.alloc (.cells #[.int .i64 sl, .int .i64 ki, .int .i64 sy] 27))
      have HWb := hidOf (HW.out.out ((Out.refl wr).alloc (.cells #[.int .i64 sl, .int .i64 ki, .int .i64 sy] 27)))
      have CS := hidOf (fun wx => typeOfRel_any sl ki sy wx)
      clear hx h6
      go_upto_region 6 with fail
      rw [← hqb]
      clear hqb x0 x1 x2 HW HOu
      generalize wr.alloc (.cells #[.int .i64 sl, .int .i64 ki, .int .i64 sy] 27) = wb at *
      have HK : Hid (∀ wx, Keep wb wx → wx.cell? ⟨qb, 0, none⟩ = some (.int .i64 sl) ∧ wx.cell? ⟨qb, 1, none⟩ = some (.int .i64 ki) ∧ wx.cell? ⟨qb, 2, none⟩ = some (.int .i64 sy)) := fun wx k => by
        have h := k _ _ _ HX.out (by decide)
        exact ⟨box_cell h 0, box_cell h 1, box_cell h 2⟩
      obtain ⟨k0, k1, k2⟩ := HK.out wb (Keep.refl wb)
      obtain ⟨ty, hty⟩ : ∃ ty, ty = mayP ⟨sl, ki, sy⟩ := ⟨_, rfl⟩
      rw [← hty] at CS Hst
      by_cases hs0 : ty = 0
      · subst hs0
        rw [if_pos rfl] at Hst
        have hdec : decide (0 < 0) = false := rfl
        rw [hdec] at CS
        clear hty
        go_wp2_with (first | (go_at_call 30; refine (CS.out _).mono ?_; rintro e w2 ⟨rfl, hO⟩; have HO2 := hidOf (HOb.out.trans hO); clear hO))
        go_ret2
        rw [HO.out, Hst.out]
        exact ⟨HO2.out, rfl⟩
      · have hpos : 0 < ty := by omega
        rw [if_neg hs0] at Hst
        obtain ⟨f1, f2, f3, f4, f5, f6⟩ := may_facts (s := ⟨sl, ki, sy⟩) (by rw [← hty]; exact hpos)
        simp only at f1 f2 f3 f4 f5 f6 Hst
        rw [← hty] at f6
        rw [decide_eq_true hpos] at CS
        by_cases hah : sl ≤ ah
        · rw [if_pos hah] at Hst
          clear hty hs0 hpos f1 f2 f3 f4 f5 f6
          go_upto_region 9 with (first | (go_at_call 30; refine (CS.out _).mono ?_; rintro e w2 ⟨rfl, hO⟩; have HO2 := hidOf (HOb.out.trans hO); have HKp2 := hidOf (Keep.of_out hO); clear hO))
          clear k0 k1 k2
          obtain ⟨k0, k1, k2⟩ := HK.out w2 HKp2.out
          go_wp2
          go_ret2
          rw [HO.out, Hst.out]
          exact ⟨HO2.out, rfl⟩
        · rw [if_neg hah] at Hst
          obtain ⟨s1, rfl⟩ : ∃ s1 : Nat, sl = s1 := ⟨sl.toNat, by omega⟩
          obtain ⟨y1, rfl⟩ : ∃ y1 : Nat, sy = y1 := ⟨sy.toNat, by omega⟩
          obtain ⟨P2, hP2⟩ : ∃ P2, P2 = P ++ enR ⟨s1, ki, y1⟩ ty := ⟨_, rfl⟩
          obtain ⟨p1, p2, p3⟩ := HPl.out
          have HP2l : Hid (P2.length = 16 * (i + 1) ∧ ((i + 1 : Nat) : Int) ≤ (s1 : Int) + 1 ∧ (s1 : Int) < 65536) := hidOf ⟨by rw [hP2, List.length_append, enR_len]; omega, by omega, by omega⟩
          have CLy := hidOf (fun wx a' c' (ho : OwB w.heap.size (.slice a' P.length c') P wx) (hx : w.heap.size ≤ wx.heap.size) => layEntry_any w.heap.size wx a' c' P P2 s1 y1 ki ty hP2 ho hx (by omega) (by omega) (by omega) f6)
          rw [← hP2] at Hst
          have hlt2 : ah < (s1 : Int) := by omega
          clear hty hs0 hpos f1 f2 f3 f4 f5 f6 hP2 p1 p2 p3
          go_upto_region 9 with (first | (go_at_call 30; refine (CS.out _).mono ?_; rintro e w2 ⟨rfl, hO⟩; have HO2 := hidOf (HOb.out.trans hO); have HW2 := hidOf (HWb.out.out hO); have HKp2 := hidOf (Keep.of_out hO); clear hO))
          clear k0 k1 k2
          obtain ⟨k0, k1, k2⟩ := HK.out w2 HKp2.out
          go_wp2_with (first | (go_at_call 31; refine (CLy.out _ _ _ HW2.out HO2.out.size).mono ?_; rintro e w4 ⟨a4, c4, rfl, ho, hb, hkp⟩; have HW4 := hidOf ho; have HO4 := hidOf (Below.trans HO2.out hb); clear ho hb hkp))
          exact ⟨⟨i + 1, P2, a4, c4, s1, by simp, rfl, rfl, by omega, by show _ = _; rw [HO.out, Hst.out], HP2l.out, HW4.out, HO4.out⟩, by simp [intOf]; omega⟩
    · have hlt : ¬ (i : Int) < L.length := by omega
      obtain rfl : i = L.length := by omega
      have HO2 : Hid (O0 = (some P, 0)) := hidOf (by rw [HO.out, List.drop_length]; rfl)
      go_wp2
      go_ret2
      rw [HO2.out]
      exact ⟨HOu.out, a1, c1, rfl, HW.out⟩
end Go.Proofs.Ytoobdcjkhphlcaa
