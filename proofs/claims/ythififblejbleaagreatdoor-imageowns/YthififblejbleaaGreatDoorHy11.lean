import Derived.Test.YthififblejbleaaGreatDoorHy10
namespace Go.Proofs.YthififblejbleaaGreatDoor
open Go.RowKit
open Go.Maps (Keyed)
set_option linter.unusedVariables false
set_option linter.unusedSimpArgs false
theorem SN.push {w0 X w' : World} {p g cap k : Nat} {K : List (List UInt8)} {v : Value} {F : Nat → Prop} {x : List UInt8} (ht : Tab p X (namesF (K ++ [x])) F) (hlt : ∀ k, F k → k < X.heap.size) (hge : ∀ k, F k → w0.heap.size ≤ k) (hap : ∀ k, v.ownBlock = some k → ¬ F k) (ho : Out w0 X) (hown : X.ownsRow w0.heap.size 3 1 v k ((pcs K).map (Value.int .i64))) (hk : K.length = k)
    (hg : X.grownBy w' v.ownBlock) (hn : w'.ownsRow w0.heap.size 3 1 (.slice (some ⟨g, 0, none⟩) (k + 1) cap) (k + 1) ((pcs K).map (Value.int .i64) ++ [.int .i64 (plF 1 (addN (namesF K) x) x : Nat)])) (hl : v.ownBlock = some g ∨ g = X.heap.size) :
    SN w0 w' p (K ++ [x]) (.slice (some ⟨g, 0, none⟩) (k + 1) cap) F := by
  have c : Chg (fun b => v.ownBlock = some b) X w' := Chg.of_grown hg (fun k h => h)
  refine ⟨ht.chg c (fun k hk hs => hap k hs hk), fun k hk => Nat.lt_of_lt_of_le (hlt k hk) hg.size, hge, ?_, ?_, Chg.out c ho (fun k hk => (hown.lt k hk).1)⟩
  · unfold OwI
    rw [pcs_snoc, List.map_append]
    simp only [List.length_append, pcs_len, hk]
    exact hn
  · intro b hb hF
    simp only [Value.ownBlock, Option.some.injEq] at hb
    subst hb
    rcases hl with h | h
    · exact hap _ h hF
    · have := hlt _ hF; omega
theorem names_sz {K : List (List UInt8)} (h : ∀ x ∈ K, nameOk x = true) (hl : K.length ≤ 10000) : szF 1 (namesF K) ≤ 1000000000000 := by
  have := (namesF_ok K h).2.2.2; omega
set_option maxRecDepth 8000 in
set_option maxHeartbeats 4000000 in
theorem stringsOf_any (m : Img) (w : World) (ta fa da : Option Addr) (tc fc dc : Nat) (h : ImA w ta fa da m) (hf : m.F.length ≤ 4096) (hd : m.D.length ≤ 1024) (hok : ∀ x ∈ allN m, nameOk x = true) : Calls Tryz.prog 51 #[.agg #[.slice ta m.T.length tc, .slice fa m.F.length fc, .slice da m.D.length dc, .int .i64 m.en]] w fun e w' => ∃ pa pc na nc, e = .returned (.tuple #[.slice pa (allN m).length pc, .slice na (byP (tabM m)).length nc, .int .i64 0]) ∧ OwI w.heap.size (.slice pa (allN m).length pc) (pcs (allN m)) w' ∧ OwB w.heap.size (.slice na (byP (tabM m)).length nc) (byP (tabM m)) w' ∧ Out w w' := by
  obtain ⟨i0, hi, hz0, hz1, hz2⟩ := info_parts infoInt
  have hN : (allN m).length ≤ 5120 := by simp [allN]; omega
  have CN : Hid (∀ wx, Out w wx → Calls Tryz.prog 85 #[.agg #[.slice ta m.T.length tc, .slice fa m.F.length fc, .slice da m.D.length dc, .int .i64 m.en]] wx fun e w' => ∃ a c, e = .returned (.slice a (allN m).length c) ∧ OwS wx.heap.size (.slice a (allN m).length c) (allN m) w' ∧ Out wx w') := fun wx ox => namesOf_any m wx ta fa da tc fc dc (h.out ox) hf hd
  obtain ⟨N, hNN⟩ : ∃ N, Hid (N = allN m) := ⟨_, rfl⟩
  have htab : Hid (tabM m = namesF N) := hidOf (by rw [hNN.out]; rfl)
  rw [htab.out]
  rw [← hNN.out] at CN hN hok ⊢
  have HOK := hidOf hok
  clear h hok hf hd
  generalize m.T.length = tn at *
  generalize m.F.length = fn at *
  generalize m.D.length = dn at *
  obtain ⟨n, hn⟩ : ∃ n, Hid (n = N.length) := ⟨_, rfl⟩
  rw [← hn.out] at CN hN ⊢
  obtain ⟨wi, hwi⟩ : ∃ wi, Hid (wi = w.alloc (Obj.cells #[Value.slice ta tn tc, Value.slice fa fn fc, Value.slice da dn dc, Value.int IntKind.i64 m.en] 26)) := ⟨_, rfl⟩
  have Owi : Hid (Out w wi) := hidOf (by rw [hwi.out]; exact Out.alloc (Out.refl _) _)
  have hsi : wi.heap.size = w.heap.size + 1 := by rw [hwi.out, size_alloc]
  have x0 : wi.cell? ⟨w.heap.size, 0, none⟩ = some (.slice ta tn tc) := by rw [hwi.out]; exact cell_fresh w _ _ 0 _ rfl
  have x1 : wi.cell? ⟨w.heap.size, 1, none⟩ = some (.slice fa fn fc) := by rw [hwi.out]; exact cell_fresh w _ _ 1 _ rfl
  have x2 : wi.cell? ⟨w.heap.size, 2, none⟩ = some (.slice da dn dc) := by rw [hwi.out]; exact cell_fresh w _ _ 2 _ rfl
  have x3 : wi.cell? ⟨w.heap.size, 3, none⟩ = some (.int .i64 m.en) := by rw [hwi.out]; exact cell_fresh w _ _ 3 _ rfl
  have HT0 := hidOf (new_tab wi)
  have O1 : Hid (Out w (wi.alloc newO)) := hidOf (Out.alloc Owi.out _)
  rw [hsi] at HT0
  go_enter Tryz.func51, Tryz.ntmps51
  go_upto_region 1 with fail
  rw [← hwi.out]
  have NW : Hid (Calls Tryz.prog 84 #[] wi fun e w' => e = .returned (.pointer (some ⟨w.heap.size + 1, 0, none⟩)) ∧ w' = wi.alloc newO) := hidOf (by have := new_any wi; rw [hsi] at this; exact this)
  go_upto_region 4 with (first | (go_at_call 84; refine (NW.out).mono ?_; rintro e w1 ⟨rfl, rfl⟩) | (go_at_call 85; refine (CN.out _ O1.out).mono ?_; rintro e w2 ⟨na, nc, rfl, hns, o2⟩))
  have hp2 : w.heap.size + 2 = (wi.alloc newO).heap.size := by rw [size_alloc, hsi]
  rw [← hp2] at hns
  have O2 : Hid (Out w w2) := hidOf (O1.out.trans o2)
  have S2 : Hid (SN w w2 (w.heap.size + 1) [] (.slice none 0 0) (fun k => k = w.heap.size + 1)) := hidOf ⟨HT0.out.out o2, fun k hk => by have := o2.size; omega, fun k hk => by omega, ⟨by simp [pcs], .inl ⟨rfl, by simp [pcs]⟩⟩, fun k hk => (by cases hk), O2.out⟩
  have NR2 : Hid (∀ b, (Value.slice na n nc).ownBlock = some b → ¬ b = w.heap.size + 1) := hidOf (fun b hb e => by have := (hns.lt b hb).1; omega)
  have HNS := hidOf hns
  have hn5 : (n : Int) ≤ 5120 := by omega
  clear hns HT0 O1 x0 x1 x2 x3 o2 NW CN hp2
  go_loopw [6, 17] (fun v i wr => ∃ (k : Nat) (a : Option Addr) (c : Nat) (F : Nat → Prop), k ≤ n ∧ v = .slice a k c ∧ i = .int .i64 k ∧ Hid (SN w wr (w.heap.size + 1) (N.take k) (.slice a k c) F) ∧ Hid (OwS (w.heap.size + 2) (.slice na n nc) N wr) ∧ Hid (∀ b, (Value.slice na n nc).ownBlock = some b → ¬ F b)) (fun _ i _ => n - (intOf i).toNat)
  case atStart => exact ⟨0, none, 0, _, by omega, rfl, rfl, hidOf (by simpa using S2.out), HNS, NR2⟩
  case round =>
    obtain ⟨k, a, c, F, hk, rfl, rfl, hs, hr, hnr⟩ := hrel
    by_cases hkl : k < n
    · have hlt : (k : Int) < n := by omega
      obtain ⟨x, hx⟩ : ∃ x, N[k]? = some x := ⟨_, List.getElem?_eq_getElem (by rw [← hn.out]; exact hkl)⟩
      have hrr := hr.out
      unfold OwS at hrr
      rw [← hn.out] at hrr
      obtain ⟨g, cap, hv, hcap, q0⟩ := own_cell hrr (k := k) (u := strV x) (by simp [hx])
      simp only [Value.slice.injEq] at hv
      obtain ⟨rfl, -, rfl⟩ := hv
      simp only [strV] at q0
      have hxo := HOK.out x (List.mem_of_getElem? hx)
      have hts := hidOf (take_snoc hx)
      have hlk : Hid ((N.take k).length = k) := hidOf (by rw [List.length_take, ← hn.out]; omega)
      have AD : Hid (Calls Tryz.prog 86 #[.pointer (some ⟨w.heap.size + 1, 0, none⟩), .string ⟨x.toArray⟩] wr fun e w' => e = .returned (.tuple #[.int .i64 (plF 1 (addN (namesF (N.take k)) x) x : Nat), .int .i64 0]) ∧ Tab (w.heap.size + 1) w' (addN (namesF (N.take k)) x) (FN F wr w') ∧ Chg F wr w') := hidOf (add_any _ x wr _ F hs.out.tab hxo (names_sz (fun y hy => HOK.out y (List.mem_of_mem_take hy)) (by rw [hlk.out]; omega)) hs.out.lt)
      clear hx hxo hrr
      obtain ⟨pl, hpl⟩ : ∃ pl : Nat, Hid (pl = plF 1 (addN (namesF (N.take k)) x) x) := ⟨_, rfl⟩
      rw [← hpl.out] at AD
      go_upto_region 9 with (go_at_call 86; refine (AD.out).mono ?_; rintro e w4 ⟨rfl, ht4, hc4⟩)
      obtain ⟨t1, t2, t3, t4, t5, t6⟩ := hs.out.add ht4 hc4
      have HC4 := hidOf hc4
      have NR4 : Hid (OwS (w.heap.size + 2) (.slice (some ⟨g, 0, none⟩) n nc) N w4) := hidOf (owns_chg hr.out hnr.out hc4)
      have NF4 : Hid (∀ b, (Value.slice (some ⟨g, 0, none⟩) n nc).ownBlock = some b → ¬ FN F wr w4 b) := hidOf (fun b hb hF => by
        rcases hF with h | h
        · exact hnr.out b hb h
        · have := (hr.out.lt b hb).2; omega)
      have T1 := hidOf t1
      have T2 := hidOf t2
      have T3_ := hidOf t3
      have T4 : Hid (w4.ownsRow w.heap.size 3 1 (.slice a k c) k ((pcs (N.take k)).map (Value.int .i64))) := hidOf (by have := t4; unfold OwI at this; rw [pcs_len, hlk.out] at this; exact this)
      have T5 := hidOf t5
      have T6 := hidOf t6
      clear t1 t2 t3 t4 t5 t6 ht4 hc4 hr hnr AD q0
      have hs4 : w.heap.size ≤ w4.heap.size := T6.out.size
      have HA4 : Hid (∀ B, (w4.alloc B).ownsRow w.heap.size 3 1 (.slice a k c) k ((pcs (N.take k)).map (Value.int .i64))) := hidOf (fun B => owns_chg (S := fun _ => False) T4.out (fun _ _ h => h) (Chg.of_out (Out.alloc (Out.refl _) B)))
      go_wp2_with (at_builtin; refine wpList_append_lies _ rfl (.tmp 30) (.tmp 32) 34 rfl w.heap.size 3 i0 _ 1 8 Tryz.underlying34 hi hz0 hz1 hz2 rfl (by decide) (.slice a k c) k ((pcs (N.take k)).map (Value.int .i64)) rfl (HA4.out _) ⟨w4.heap.size, 0, none⟩ 1 1 [.int .i64 (pl : Nat)] rfl rfl (news_new w4 _ _ _ rfl) (int_one _) (by decide) (by unfold maxLen; omega) (by omega) (by rw [size_alloc]; omega) _ rfl ?_; intro g5 cap5 w5 hown5 hgrow5 hg5 hlt5; have HO5 := hidOf hown5; have HG5 := hidOf hgrow5; have HH5 := hidOf hg5; clear hown5 hgrow5 hg5 hlt5)
      go_roundw
      case rel =>
        refine ⟨k + 1, some ⟨g5, 0, none⟩, cap5, FN F wr w4, by omega, rfl, by simp, hidOf ?_, hidOf ?_, NF4⟩
        · rw [hts.out]
          exact SN.push (T1.out.out (Out.alloc (Out.refl _) _)) (fun k hk => by rw [size_alloc]; have := T2.out k hk; omega) T3_.out T5.out (Out.alloc T6.out _) (HA4.out _) hlk.out HG5.out (by rw [← hpl.out]; exact HO5.out) HH5.out
        · exact owns_chg (S := fun b => (Value.slice a k c).ownBlock = some b) (OwS.out NR4.out (Out.alloc (Out.refl _) _)) (fun b hb hs => own_apart (by decide) NR4.out T4.out b hb hs) (Chg.of_grown HG5.out (fun k h => h))
      case measure => simp [intOf]; omega
    · have hlt : ¬ (k : Int) < n := by omega
      have hkn : Hid (k = n) := hidOf (by omega)
      have HF : Hid (SN w wr (w.heap.size + 1) N (.slice a n c) F) := hidOf (by have := hs.out; rw [hkn.out, List.take_of_length_le (by rw [← hn.out]; omega)] at this; exact this)
      have BY : Hid (Calls Tryz.prog 87 #[.pointer (some ⟨w.heap.size + 1, 0, none⟩)] wr fun e w' => ∃ a c, e = .returned (.tuple #[.slice a (byP (namesF N)).length c, .int .i64 0]) ∧ OwB wr.heap.size (.slice a (byP (namesF N)).length c) (byP (namesF N)) w' ∧ Out wr w') := hidOf (bytes_any _ wr _ F HF.out.tab (names_sz HOK.out (by rw [← hn.out]; omega)))
      clear hs hr hnr
      go_wp2_with (go_at_call 87; refine (BY.out).mono ?_; rintro e w6 ⟨ba, bc, rfl, hb6, o6⟩)
      go_ret3
      exact ⟨a, c, ba, bc, by rw [hkn.out]; rfl, HF.out.row.out o6, owns_base17 hb6 HF.out.out.size, HF.out.out.trans o6⟩
end Go.Proofs.YthififblejbleaaGreatDoor
namespace Go.Proofs.YthififblejbleaaGreatDoor
open Go.RowKit
set_option linter.unusedVariables false
set_option linter.unusedSimpArgs false
def FldE (h n : Nat) (w : World) (e : Ending) (w' : World) : Prop := ∃ q, e = .returned (.slice (some ⟨q, 0, none⟩) n n) ∧ w.heap.size ≤ q ∧ q < w'.heap.size ∧ (∀ i, i < n → w'.cell? ⟨q, i, none⟩ = some (.pointer (some ⟨h, i, none⟩))) ∧ Out w w'
theorem headFields_any (h : Nat) (w : World) : Calls Tryz.prog 55 #[.pointer (some ⟨h, 0, none⟩)] w (FldE h 5 w) := by
  go_enter Tryz.func55, Tryz.ntmps55
  go_upto_region 1 with fail
  go_region_held3 (fun _ => True) (trivial) (fail)
  go_wp2
  go_ret
  refine ⟨_, rfl, Nat.le_refl _, ?_, ?_, ?_⟩
  · simp
  · intro i hi
    obtain rfl | rfl | rfl | rfl | rfl : i = 0 ∨ i = 1 ∨ i = 2 ∨ i = 3 ∨ i = 4 := by omega
    all_goals exact cell_fresh _ _ _ _ _ rfl
  · first | exact Out.alloc (Out.drew (Out.refl _)) _ | exact Out.drew (Out.alloc (Out.drew (Out.refl _)) _)
theorem tableFields_any (h : Nat) (w : World) : Calls Tryz.prog 90 #[.pointer (some ⟨h, 0, none⟩)] w (FldE h 5 w) := by
  go_enter Tryz.func90, Tryz.ntmps90
  go_upto_region 1 with fail
  go_region_held3 (fun _ => True) (trivial) (fail)
  go_wp2
  go_ret
  refine ⟨_, rfl, Nat.le_refl _, ?_, ?_, ?_⟩
  · simp
  · intro i hi
    obtain rfl | rfl | rfl | rfl | rfl : i = 0 ∨ i = 1 ∨ i = 2 ∨ i = 3 ∨ i = 4 := by omega
    all_goals exact cell_fresh _ _ _ _ _ rfl
  · first | exact Out.alloc (Out.drew (Out.refl _)) _ | exact Out.drew (Out.alloc (Out.drew (Out.refl _)) _)
theorem funcFields_any (h : Nat) (w : World) : Calls Tryz.prog 89 #[.pointer (some ⟨h, 0, none⟩)] w (FldE h 4 w) := by
  go_enter Tryz.func89, Tryz.ntmps89
  go_upto_region 1 with fail
  go_region_held3 (fun _ => True) (trivial) (fail)
  go_wp2
  go_ret
  refine ⟨_, rfl, Nat.le_refl _, ?_, ?_, ?_⟩
  · simp
  · intro i hi
    obtain rfl | rfl | rfl | rfl : i = 0 ∨ i = 1 ∨ i = 2 ∨ i = 3 := by omega
    all_goals exact cell_fresh _ _ _ _ _ rfl
  · first | exact Out.alloc (Out.drew (Out.refl _)) _ | exact Out.drew (Out.alloc (Out.drew (Out.refl _)) _)
theorem headSize_any (h : Nat) (w : World) (s f d n : Nat) (c0 : w.cell? ⟨h, 0, none⟩ = some (.int .i64 s)) (c1 : w.cell? ⟨h, 1, none⟩ = some (.int .i64 f)) (c2 : w.cell? ⟨h, 2, none⟩ = some (.int .i64 d)) (c3 : w.cell? ⟨h, 3, none⟩ = some (.int .i64 n)) (hs : s < 4294967296) (hf : f < 4294967296) (hd : d < 4294967296) (hn : n < 4294967296) : Calls Tryz.prog 53 #[.pointer (some ⟨h, 0, none⟩)] w fun e w' => e = .returned (.int .i64 (sizP s f d n : Nat)) ∧ ∃ m, w' = w.drewN m := by
  have e1 : ((sizP s f d n : Nat) : Int) = 28 + 8 * (s : Int) + 16 * (f : Int) + 20 * (d : Int) + (n : Int) := by unfold sizP; omega
  rw [e1]
  have g1 : (s : Int) < 4294967296 := by omega
  have g2 : (f : Int) < 4294967296 := by omega
  have g3 : (d : Int) < 4294967296 := by omega
  have g4 : (n : Int) < 4294967296 := by omega
  go_enter Tryz.func53, Tryz.ntmps53
  go_upto_region 1 with fail
  go_quiet (fail)
  go_wp2
  go_ret
  exact ⟨rfl, _, rfl⟩
theorem bits_or_i64 (a b : Nat) (ha : a < 18446744073709551616) (hb : b < 18446744073709551616) : bits BinOp.or IntKind.i64 (wrap64 (a : Int)) (wrap64 (b : Int)) = wrap64 ((a ||| b : Nat) : Int) := by
  have hx : a ||| b < 2 ^ 64 := Nat.or_lt_two_pow (by omega) (by omega)
  have key : ∀ n : Nat, n < 18446744073709551616 → (BitVec.ofInt 64 (wrap64 (n : Int))).toNat = n := by
    intro n hn
    rw [BitVec.toNat_ofInt]
    have : wrap64 (n : Int) % (2 ^ 64 : Nat) = n := by
      unfold wrap64
      first | omega | (rw [IntKind.wrap_i64]; omega) | (simp; omega)
    rw [this]; rfl
  show IntKind.i64.wrap ((BitVec.ofInt 64 (wrap64 (a : Int)) ||| BitVec.ofInt 64 (wrap64 (b : Int))).toNat : Int) = _
  rw [BitVec.toNat_or, key a ha, key b hb]
  first | rfl | (unfold wrap64; rw [IntKind.wrap_i64])
theorem or_join {k x z c : Nat} {a u : Int} (hzl : z < 18446744073709551616) (hc : z = 2 ^ k * c) (hxM : x < 2 ^ k) (hx : (x : Int) = a) (w1 : wrap64 (z : Int) = u) (w2 : wrap64 (x : Int) = a) (w3 : wrap64 ((z + x : Nat) : Int) = a + u) (hxl : x < 18446744073709551616 := by omega) : bits BinOp.or IntKind.i64 a u = a + u := by
  have h1 := bits_or_i64 x z hxl hzl
  rw [w1, w2] at h1
  rw [h1, Nat.or_comm, hc, ← Nat.two_pow_add_eq_or_of_lt hxM, ← hc, w3]
theorem or_8 (a b : Int) (ha : 0 ≤ a) (hk : a < 256) (hb : -9223372036854775808 ≤ b * 256) (hb2 : b * 256 + a ≤ 9223372036854775807) : bits BinOp.or IntKind.i64 a (b * 256) = a + b * 256 := by
  obtain ⟨z, hz⟩ : ∃ z : Nat, (z : Int) = (b * 256) % 18446744073709551616 := ⟨((b * 256) % 18446744073709551616).toNat, by omega⟩
  obtain ⟨x, hx⟩ : ∃ x : Nat, (x : Int) = a := ⟨a.toNat, by omega⟩
  exact or_join (z := z) (x := x) (k := 8) (c := z / 256) (by omega) (by have : (2 : Nat) ^ 8 = 256 := rfl; omega) (by have : (2 : Nat) ^ 8 = 256 := rfl; omega) hx (by unfold wrap64; omega) (by unfold wrap64; omega) (by unfold wrap64; omega)
theorem or_12 (a b : Int) (ha : 0 ≤ a) (hk : a < 4096) (hb : -9223372036854775808 ≤ b * 4096) (hb2 : b * 4096 + a ≤ 9223372036854775807) : bits BinOp.or IntKind.i64 a (b * 4096) = a + b * 4096 := by
  obtain ⟨z, hz⟩ : ∃ z : Nat, (z : Int) = (b * 4096) % 18446744073709551616 := ⟨((b * 4096) % 18446744073709551616).toNat, by omega⟩
  obtain ⟨x, hx⟩ : ∃ x : Nat, (x : Int) = a := ⟨a.toNat, by omega⟩
  exact or_join (z := z) (x := x) (k := 12) (c := z / 4096) (by omega) (by have : (2 : Nat) ^ 12 = 4096 := rfl; omega) (by have : (2 : Nat) ^ 12 = 4096 := rfl; omega) hx (by unfold wrap64; omega) (by unfold wrap64; omega) (by unfold wrap64; omega)
theorem or_16 (a b : Int) (ha : 0 ≤ a) (hk : a < 65536) (hb : -9223372036854775808 ≤ b * 65536) (hb2 : b * 65536 + a ≤ 9223372036854775807) : bits BinOp.or IntKind.i64 a (b * 65536) = a + b * 65536 := by
  obtain ⟨z, hz⟩ : ∃ z : Nat, (z : Int) = (b * 65536) % 18446744073709551616 := ⟨((b * 65536) % 18446744073709551616).toNat, by omega⟩
  obtain ⟨x, hx⟩ : ∃ x : Nat, (x : Int) = a := ⟨a.toNat, by omega⟩
  exact or_join (z := z) (x := x) (k := 16) (c := z / 65536) (by omega) (by have : (2 : Nat) ^ 16 = 65536 := rfl; omega) (by have : (2 : Nat) ^ 16 = 65536 := rfl; omega) hx (by unfold wrap64; omega) (by unfold wrap64; omega) (by unfold wrap64; omega)
theorem or_24 (a b : Int) (ha : 0 ≤ a) (hk : a < 16777216) (hb : -9223372036854775808 ≤ b * 16777216) (hb2 : b * 16777216 + a ≤ 9223372036854775807) : bits BinOp.or IntKind.i64 a (b * 16777216) = a + b * 16777216 := by
  obtain ⟨z, hz⟩ : ∃ z : Nat, (z : Int) = (b * 16777216) % 18446744073709551616 := ⟨((b * 16777216) % 18446744073709551616).toNat, by omega⟩
  obtain ⟨x, hx⟩ : ∃ x : Nat, (x : Int) = a := ⟨a.toNat, by omega⟩
  exact or_join (z := z) (x := x) (k := 24) (c := z / 16777216) (by omega) (by have : (2 : Nat) ^ 24 = 16777216 := rfl; omega) (by have : (2 : Nat) ^ 24 = 16777216 := rfl; omega) hx (by unfold wrap64; omega) (by unfold wrap64; omega) (by unfold wrap64; omega)
theorem or_32 (a b : Int) (ha : 0 ≤ a) (hk : a < 4294967296) (hb : -9223372036854775808 ≤ b * 4294967296) (hb2 : b * 4294967296 + a ≤ 9223372036854775807) : bits BinOp.or IntKind.i64 a (b * 4294967296) = a + b * 4294967296 := by
  obtain ⟨z, hz⟩ : ∃ z : Nat, (z : Int) = (b * 4294967296) % 18446744073709551616 := ⟨((b * 4294967296) % 18446744073709551616).toNat, by omega⟩
  obtain ⟨x, hx⟩ : ∃ x : Nat, (x : Int) = a := ⟨a.toNat, by omega⟩
  exact or_join (z := z) (x := x) (k := 32) (c := z / 4294967296) (by omega) (by have : (2 : Nat) ^ 32 = 4294967296 := rfl; omega) (by have : (2 : Nat) ^ 32 = 4294967296 := rfl; omega) hx (by unfold wrap64; omega) (by unfold wrap64; omega) (by unfold wrap64; omega)
theorem txt_take {T : List Ins} {k : Nat} {x : Ins} (h : T[k]? = some x) : txtB (T.take (k + 1)) = txtB (T.take k) ++ insB x := by rw [take_snoc h, txtB_app]; simp [txtB]
theorem slots_take {T : List Ins} {k : Nat} {x : Ins} (h : T[k]? = some x) : slotsP (T.take (k + 1)) = slotsP (T.take k) + (if isW x.o then 2 else 1) := by
  rw [take_snoc h, slots_app, slots_cons]; simp [slotsP]
theorem slots_le (T : List Ins) (k : Nat) : slotsP (T.take k) ≤ slotsP T := by
  have : slotsP T = slotsP (T.take k) + slotsP (T.drop k) := by rw [← slots_app, List.take_append_drop]
  omega
theorem fit_parts {x : Ins} (h : fitI x = true) : (0 ≤ x.o ∧ x.o ≤ 255) ∧ (0 ≤ x.d ∧ x.d ≤ 15) ∧ (0 ≤ x.s ∧ x.s ≤ 15) ∧ (-32768 ≤ x.f ∧ x.f ≤ 32767) := by
  simp only [fitI, Bool.and_eq_true, decide_eq_true_eq, Bool.or_eq_true] at h
  obtain ⟨⟨⟨⟨h1, h2⟩, h3⟩, h4⟩, h5⟩ := h
  exact ⟨h1, h2, h3, h4⟩
theorem fld_or {x : Ins} (h : fitI x = true) : bits BinOp.or IntKind.i64 (bits BinOp.or IntKind.i64 (bits BinOp.or IntKind.i64 x.o (x.d * 256)) (x.s * 4096)) (x.f * 65536) = fldI x := by
  obtain ⟨⟨a, b⟩, ⟨c, d⟩, ⟨e, f⟩, g, i⟩ := fit_parts h
  rw [or_8 _ _ (by omega) (by omega) (by omega) (by omega), or_12 _ _ (by omega) (by omega) (by omega) (by omega), or_16 _ _ (by omega) (by omega) (by omega) (by omega)]
  unfold fldI; omega
theorem num2W (w : World) (p g o : Nat) (B : List UInt8) (c1 o1 c2 o2 : Nat) (x1 x2 : Int) (t : TypeId) (h : Tp w p g o B) (h1 : w.cell? ⟨c1, o1, none⟩ = some (.int .i64 x1)) (h2 : w.cell? ⟨c2, o2, none⟩ = some (.int .i64 x2)) (n1 : ¬ c1 = p ∧ ¬ c1 = g) (n2 : ¬ c2 = p ∧ ¬ c2 = g) (hr : o + 8 ≤ B.length) (hB : B.length ≤ 1000000000000) :
    Calls Tryz.prog 54 #[.pointer (some ⟨p, 0, none⟩), .slice (some ⟨w.heap.size, 0, none⟩) 2 2] (w.alloc (.cells #[.pointer (some ⟨c1, o1, none⟩), .pointer (some ⟨c2, o2, none⟩)] t)) fun e w' => (∃ v, e = .returned v) ∧ Tp w' p g (o + 8) (putB B o (b4 x1 ++ b4 x2)) ∧ Chg (fun k => k = p ∨ k = g) (w.alloc (.cells #[.pointer (some ⟨c1, o1, none⟩), .pointer (some ⟨c2, o2, none⟩)] t)) w' := by
  have hpl := (Array.getElem?_eq_some_iff.1 h.t).1
  have hgl := (Array.getElem?_eq_some_iff.1 h.b).1
  have oA : Out w (w.alloc (.cells #[.pointer (some ⟨c1, o1, none⟩), .pointer (some ⟨c2, o2, none⟩)] t)) := Out.alloc (Out.refl _) _
  have := numbersW_any (w.alloc (.cells #[.pointer (some ⟨c1, o1, none⟩), .pointer (some ⟨c2, o2, none⟩)] t)) p g o w.heap.size B [(c1, o1, x1), (c2, o2, x2)] (h.out oA) (fun i b o' x hx => by
    rcases i with _ | _ | i
    · simp at hx; obtain ⟨rfl, rfl, rfl⟩ := hx; exact ⟨cell_fresh w _ _ 0 _ rfl, cell_later oA h1⟩
    · simp at hx; obtain ⟨rfl, rfl, rfl⟩ := hx; exact ⟨cell_fresh w _ _ 1 _ rfl, cell_later oA h2⟩
    · simp at hx) (fun y hy => by
    simp at hy
    rcases hy with rfl | rfl
    · exact n1
    · exact n2) (by omega) (by omega) (by simpa using hr) hB
  simpa [b4s] using this
theorem out_chg {S : Nat → Prop} {wT w w' : World} (ho : Out wT w) (hc : Chg S w w') (hS : ∀ k, S k → wT.heap.size ≤ k) : Out wT w' := Chg.out hc ho hS
set_option maxRecDepth 8000 in
set_option maxHeartbeats 4000000 in
theorem layText_any (wT w : World) (p g o : Nat) (B : List UInt8) (T : List Ins) (ta : Option Addr) (tc : Nat) (h : Tp w p g o B) (hT : InsA wT ta T) (ho : Out wT w) (hp : wT.heap.size ≤ p) (hg : wT.heap.size ≤ g) (hf : ∀ x ∈ T, fitI x = true) (hi : ∀ x ∈ T, -9223372036854775808 ≤ x.i ∧ x.i ≤ 9223372036854775807) (hr : o + 8 * slotsP T ≤ B.length) (hB : B.length ≤ 1000000000) :
    Calls Tryz.prog 56 #[.pointer (some ⟨p, 0, none⟩), .slice ta T.length tc] w fun e w' => (∃ v, e = .returned v) ∧ Tp w' p g (o + 8 * slotsP T) (putB B o (txtB T)) ∧ Chg (fun k => k = p ∨ k = g) w w' := by
  obtain ⟨n, hn⟩ : ∃ n, Hid (n = T.length) := ⟨_, rfl⟩
  rw [← hn.out]
  have hnb : n ≤ 1000000000 := by have : T.length ≤ slotsP T := by unfold slotsP; omega
                                  rw [hn.out]; omega
  have hpl := (Array.getElem?_eq_some_iff.1 h.t).1
  have hgl := (Array.getElem?_eq_some_iff.1 h.b).1
  have HF := hidOf hf
  have HI := hidOf hi
  have HR := hidOf hr
  clear hf hi hr
  obtain ⟨w1, hw1⟩ : ∃ w1, Hid (w1 = w.alloc (.cells #[.int .i64 0] 3)) := ⟨_, rfl⟩
  have T1 : Hid (Tp w1 p g o B) := hidOf (by rw [hw1.out]; exact h.out (Out.alloc (Out.refl _) _))
  have z1 : Hid (w1.cell? ⟨w.heap.size, 0, none⟩ = some (.int .i64 0)) := hidOf (by rw [hw1.out]; exact cell_fresh w _ _ 0 _ rfl)
  have O1 : Hid (Out wT w1) := hidOf (by rw [hw1.out]; exact Out.alloc ho _)
  have hs1 : w1.heap.size = w.heap.size + 1 := by rw [hw1.out, size_alloc]
  go_enter Tryz.func56, Tryz.ntmps56
  go_upto_region 1 with fail
  rw [← hw1.out]
  go_wp2
  go_loopw [11] (fun i wr => ∃ k : Nat, k ≤ n ∧ i = .int .i64 k ∧ Hid (Tp wr p g (o + 8 * slotsP (T.take k)) (putB B o (txtB (T.take k)))) ∧ Hid (Chg (fun k => k = p ∨ k = g) w1 wr)) (fun i _ => n - (intOf i).toNat)
  case atStart => exact ⟨0, by omega, rfl, hidOf (by simpa [txtB, putB_nil, slotsP] using T1.out), hidOf (Chg.refl _ _)⟩
  case round =>
    obtain ⟨k, hk, rfl, ht, hc⟩ := hrel
    by_cases hkl : k < n
    · have hlt : (k : Int) < n := by omega
      obtain ⟨x, hx⟩ : ∃ x, T[k]? = some x := ⟨_, List.getElem?_eq_getElem (by rw [← hn.out]; exact hkl)⟩
      have HO : Hid (Out wT wr) := hidOf (out_chg O1.out hc.out (fun k hk => by omega))
      obtain ⟨b, off, rfl, q0, q1, q2, q3, q4⟩ := (hT.out HO.out).get hx
      have hfx := HF.out x (List.mem_of_getElem? hx)
      have hix := HI.out x (List.mem_of_getElem? hx)
      have hor := fld_or hfx
      have HT2 := hidOf (txt_take hx)
      have HS2 := hidOf (slots_take hx)
      obtain ⟨⟨a1, a2⟩, ⟨a3, a4⟩, ⟨a5, a6⟩, a7, a8⟩ := fit_parts hfx
      obtain ⟨xo, xd, xs, xf, xi⟩ := x
      simp only at q0 q1 q2 q3 q4 hor hix a1 a2 a3 a4 a5 a6 a7 a8 HS2
      have hsw : w.heap.size < wr.heap.size := by have := hc.out.size; omega
      obtain ⟨fl, hfl⟩ : ∃ fl, Hid (fl = fldI ⟨xo, xd, xs, xf, xi⟩) := ⟨_, rfl⟩
      rw [← hfl.out] at hor
      clear hx hT
      have Hor := hidOf hor
      obtain ⟨L, hL⟩ : ∃ L, Hid (L = putB B o (txtB (T.take k))) := ⟨_, rfl⟩
      have hsl := slots_le T (k + 1)
      have HLl : Hid (L.length = B.length) := hidOf (by rw [hL.out]; exact putB_len (by rw [txtB_len]; have := HR.out; have := slots_le T k; omega))
      obtain ⟨oo, hoo⟩ : ∃ oo, Hid (oo = o + 8 * slotsP (T.take k)) := ⟨_, rfl⟩
      rw [← hL.out, ← hoo.out] at ht
      go_upto_region 5 with fail
      obtain ⟨w5, hw5⟩ : ∃ w5, Hid (w5 = (wr.alloc (.cells #[.int .i64 xo, .int .i64 xd, .int .i64 xs, .int .i64 xf, .int .i64 xi] 67)).alloc (.cells #[.int .i64 fl] 3)) := ⟨_, rfl⟩
      rw [← hw5.out]
      have hs5 : w5.heap.size = wr.heap.size + 2 := by rw [hw5.out, size_alloc, size_alloc]
      have O5 : Hid (Out wr w5) := hidOf (by rw [hw5.out]; exact Out.alloc (Out.alloc (Out.refl _) _) _)
      have I5 : Hid (∀ j, w5.cell? ⟨wr.heap.size, j, none⟩ = (#[.int .i64 xo, .int .i64 xd, .int .i64 xs, .int .i64 xf, .int .i64 xi] : Array Value)[j]?) := hidOf (fun j => by
        rw [hw5.out, World.cell?_alloc_lt _ _ _ (by show wr.heap.size < _; rw [size_alloc]; omega)]; exact cell_fresh wr _ _ j _ rfl)
      have F5 : Hid (w5.cell? ⟨wr.heap.size + 1, 0, none⟩ = some (.int .i64 fl)) := hidOf (by rw [hw5.out]; exact cell_fresh _ _ _ 0 _ (by rw [size_alloc]))
      have hpw : p < wr.heap.size := by have := hc.out.size; omega
      have hgw : g < wr.heap.size := by have := hc.out.size; omega
      have N5 := hidOf (num2W w5 p g oo L (wr.heap.size + 1) 0 wr.heap.size 4 fl xi 144 (ht.out.out O5.out) F5.out (I5.out 4) (by omega) (by omega) (by rw [HLl.out, hoo.out]; have := HR.out; have := HS2.out; split at this <;> omega) (by rw [HLl.out]; omega))
      rw [hs5] at N5
      go_upto_region 6 with (go_at_call 54; refine (N5.out).mono ?_; rintro e w6 ⟨⟨rv, rfl⟩, t6, c6⟩)
      have T6 := hidOf t6
      have C6 : Hid (Chg (fun k => k = p ∨ k = g) w1 w6) := hidOf ((hc.out.trans (T := fun _ => False) (Chg.of_out (Out.alloc O5.out _)) (fun _ h _ => h.elim)).trans c6 (fun x h _ => h))
      have I6 : Hid (∀ j v, w5.cell? ⟨wr.heap.size, j, none⟩ = some v → w6.cell? ⟨wr.heap.size, j, none⟩ = some v) := hidOf (fun j v hv => c6.cell (cell_later (Out.alloc (Out.refl _) _) hv) (by simp; omega))
      have i0 : w6.cell? ⟨wr.heap.size, 0, none⟩ = some (.int .i64 xo) := I6.out 0 _ (I5.out 0)
      have i1 : w6.cell? ⟨wr.heap.size, 1, none⟩ = some (.int .i64 xd) := I6.out 1 _ (I5.out 1)
      have i2 : w6.cell? ⟨wr.heap.size, 2, none⟩ = some (.int .i64 xs) := I6.out 2 _ (I5.out 2)
      have i3 : w6.cell? ⟨wr.heap.size, 3, none⟩ = some (.int .i64 xf) := I6.out 3 _ (I5.out 3)
      have i4 : w6.cell? ⟨wr.heap.size, 4, none⟩ = some (.int .i64 xi) := I6.out 4 _ (I5.out 4)
      have hsw6 : w.heap.size < w6.heap.size := by have := C6.out.size; omega
      have hlenL : Hid ((txtB (T.take k)).length = 8 * slotsP (T.take k)) := hidOf (txtB_len _)
      clear t6 c6 N5 I5 F5 O5 ht hc hor q0 q1 q2 q3 q4
      have hx8 : Hid (oo = o + (txtB (T.take k)).length) := hidOf (by rw [hlenL.out, hoo.out])
      cases hw : isW xo
      · have E6 : Hid (putB L oo (b4 fl ++ b4 xi) = putB B o (txtB (T.take (k + 1))) ∧ oo + 8 = o + 8 * slotsP (T.take (k + 1))) := hidOf (by
          have e1 := HS2.out
          rw [hw] at e1
          simp only [Bool.false_eq_true, if_false] at e1
          refine ⟨?_, by rw [hoo.out, e1]; omega⟩
          rw [HT2.out, hL.out, hx8.out, putB_put (by rw [List.length_append, b4_len, b4_len, hlenL.out]; have := HR.out; omega)]
          simp only [insB, hw, Bool.false_eq_true, if_false, List.append_nil, hfl.out])
        go_wp2_with (go_at_call 88; refine (wide_lit _ _ _ _ _ _).mono ?_; rw [hw]; rintro e w7 ⟨rfl, o7⟩)
        go_roundw
        case rel => exact ⟨k + 1, by omega, by simp, hidOf (by rw [← E6.out.1, ← E6.out.2]; exact T6.out.out o7), hidOf (C6.out.trans (T := fun _ => False) (Chg.of_out o7) (fun _ h _ => h.elim))⟩
        case measure => simp [intOf]; omega
      · go_upto_region 7 with (go_at_call 88; refine (wide_lit _ _ _ _ _ _).mono ?_; rw [hw]; rintro e w7 ⟨rfl, o7⟩)
        have j4 : w7.cell? ⟨wr.heap.size, 4, none⟩ = some (.int .i64 xi) := cell_later o7 i4
        have T7 := hidOf (T6.out.out o7)
        have C7 : Hid (Chg (fun k => k = p ∨ k = g) w1 w7) := hidOf (C6.out.trans (T := fun _ => False) (Chg.of_out o7) (fun _ h _ => h.elim))
        have Z7 : Hid (w7.cell? ⟨w.heap.size, 0, none⟩ = some (.int .i64 0)) := hidOf (C7.out.cell z1.out (by simp; omega))
        clear i0 i1 i2 i3 i4 T6 C6 I6 o7
        go_upto_region 8 with fail
        obtain ⟨w8, hw8⟩ : ∃ w8, Hid (w8 = w7.alloc (.cells #[.int .i64 (xi / 4294967296)] 3)) := ⟨_, rfl⟩
        rw [← hw8.out]
        have hs8 : w8.heap.size = w7.heap.size + 1 := by rw [hw8.out, size_alloc]
        have O8 : Hid (Out w7 w8) := hidOf (by rw [hw8.out]; exact Out.alloc (Out.refl _) _)
        have U8 : Hid (w8.cell? ⟨w7.heap.size, 0, none⟩ = some (.int .i64 (xi / 4294967296))) := hidOf (by rw [hw8.out]; exact cell_fresh _ _ _ 0 _ rfl)
        have hp7 : p < w7.heap.size := by have := C7.out.size; omega
        have hg7 : g < w7.heap.size := by have := C7.out.size; omega
        have hLl2 : Hid ((putB L oo (b4 fl ++ b4 xi)).length = B.length) := hidOf (by
          rw [putB_len (by rw [List.length_append, b4_len, b4_len, HLl.out, hoo.out]; have := HR.out; have := HS2.out; split at this <;> omega)]; exact HLl.out)
        have N8 := hidOf (num2W w8 p g (oo + 8) (putB L oo (b4 fl ++ b4 xi)) w.heap.size 0 w7.heap.size 0 0 (xi / 4294967296) 144 (T7.out.out O8.out) (cell_later O8.out Z7.out) U8.out (by omega) (by omega) (by rw [hLl2.out, hoo.out]; have e1 := HS2.out; rw [hw] at e1; simp only [if_true] at e1; have := HR.out; omega) (by rw [hLl2.out]; omega))
        rw [hs8] at N8
        have E8 : Hid (putB (putB L oo (b4 fl ++ b4 xi)) (oo + 8) (b4 0 ++ b4 (xi / 4294967296)) = putB B o (txtB (T.take (k + 1))) ∧ oo + 8 + 8 = o + 8 * slotsP (T.take (k + 1))) := hidOf (by
          have e1 := HS2.out
          rw [hw] at e1
          simp only [if_true] at e1
          refine ⟨?_, by rw [hoo.out, e1]; omega⟩
          have hr := HR.out
          have e2 : oo + 8 = oo + (b4 fl ++ b4 xi).length := by rw [List.length_append, b4_len, b4_len]
          rw [e2, putB_put (by rw [List.length_append, List.length_append, b4_len, b4_len, b4_len, b4_len, HLl.out, hoo.out]; omega), HT2.out, hL.out, hx8.out, putB_put (by rw [List.length_append, List.length_append, List.length_append, b4_len, b4_len, b4_len, b4_len, hlenL.out]; omega)]
          simp only [insB, hw, if_true, List.append_assoc, hfl.out])
        go_wp2_with (go_at_call 54; refine (N8.out).mono ?_; rintro e w9 ⟨⟨rv2, rfl⟩, t9, c9⟩)
        go_roundw
        case rel => exact ⟨k + 1, by omega, by simp, hidOf (by rw [← E8.out.1, ← E8.out.2]; exact t9), hidOf ((C7.out.trans (T := fun _ => False) (Chg.of_out (Out.alloc O8.out _)) (fun _ h _ => h.elim)).trans c9 (fun x h _ => h))⟩
        case measure => simp [intOf]; omega
    · have hlt : ¬ (k : Int) < n := by omega
      have hkn : Hid (k = n) := hidOf (by omega)
      go_wp2
      go_end0
      have hA : T.take k = T := List.take_of_length_le (by rw [← hn.out]; have := hkn.out; omega)
      exact ⟨⟨_, rfl⟩, by have := ht.out; rw [hA] at this; exact this, by have := hc.out; rw [hw1.out] at this; exact Chg.trans (T := fun k => k = p ∨ k = g) (Chg.alloc (Chg.refl _ w) _) this (fun x h _ => h)⟩
end Go.Proofs.YthififblejbleaaGreatDoor
