import Derived.Test.YthdgmhohofakgaaGreatDoorImo
namespace Go.Proofs.YthdgmhohofakgaaGreatDoor
open Go.RowKit
open Go.Maps (Keyed)
set_option linter.unusedVariables false
set_option linter.unusedSimpArgs false
/-- behind the append of a place -/
theorem SN.push {w0 X w' : World} {p g cap k : Nat} {K : List (List UInt8)} {v : Value} {F : Nat → Prop} {x : List UInt8} (ht : Tab p X (namesF (K ++ [x])) F) (hlt : ∀ k, F k → k < X.heap.size) (hge : ∀ k, F k → w0.heap.size ≤ k) (hap : ∀ k, v.ownBlock = some k → ¬ F k) (ho : Out w0 X) (hown : X.ownsRow w0.heap.size 3 1 v k ((pcs K).map (Value.int .i64))) (hk : K.length = k)
    (hg : X.grownBy w' v.ownBlock) (hn : w'.ownsRow w0.heap.size 3 1 (.slice (some ⟨g, 0, none⟩) (k + 1) cap) (k + 1) ((pcs K).map (Value.int .i64) ++ [.int .i64 (plF 1 (addN (namesF K) x) x : Nat)])) (hl : v.ownBlock = some g ∨ g = X.heap.size) :
    SN w0 w' p (K ++ [x]) (.slice (some ⟨g, 0, none⟩) (k + 1) cap) F := by
  have c : Chg (fun b => v.ownBlock = some b) X w' := Chg.of_grown hg (fun k h => h)
  refine ⟨ht.chg c (fun k hk hs => hap k hs hk), fun k hk => Nat.lt_of_lt_of_le (hlt k hk) hg.size, hge, ?_, ?_, Chg.out c ho (fun k hk => (hown.lt k hk).1)⟩
  · unfold OwI
    rw [pcs_snoc, List.map_append]
    simp only [List.length_append, pcs_len, hk]
    exact hn
  · intro b hb hF
    simp only [Value.ownBlock, Option.some.injEq] at hb
    subst hb
    rcases hl with h | h
    · exact hap _ h hF
    · have := hlt _ hF; omega
theorem names_sz {K : List (List UInt8)} (h : ∀ x ∈ K, nameOk x = true) (hl : K.length ≤ 10000) : szF 1 (namesF K) ≤ 1000000000000 := by
  have := (namesF_ok K h).2.2.2; omega
set_option maxRecDepth 8000 in
set_option maxHeartbeats 4000000 in
theorem stringsOf_any (m : Img) (w : World) (ta fa da : Option Addr) (tc fc dc : Nat) (h : ImA w ta fa da m) (hf : m.F.length ≤ 4096) (hd : m.D.length ≤ 1024) (hok : ∀ x ∈ allN m, nameOk x = true) : Calls Tryz.prog 45 #[.agg #[.slice ta m.T.length tc, .slice fa m.F.length fc, .slice da m.D.length dc, .int .i64 m.en]] w fun e w' => ∃ pa pc na nc, e = .returned (.tuple #[.slice pa (allN m).length pc, .slice na (byP (tabM m)).length nc, .int .i64 0]) ∧ OwI w.heap.size (.slice pa (allN m).length pc) (pcs (allN m)) w' ∧ OwB w.heap.size (.slice na (byP (tabM m)).length nc) (byP (tabM m)) w' ∧ Out w w' := by
  obtain ⟨i0, hi, hz0, hz1, hz2⟩ := info_parts infoInt
  have hN : (allN m).length ≤ 5120 := by simp [allN]; omega
  have CN : Hid (∀ wx, Out w wx → Calls Tryz.prog 69 #[.agg #[.slice ta m.T.length tc, .slice fa m.F.length fc, .slice da m.D.length dc, .int .i64 m.en]] wx fun e w' => ∃ a c, e = .returned (.slice a (allN m).length c) ∧ OwS wx.heap.size (.slice a (allN m).length c) (allN m) w' ∧ Out wx w') := fun wx ox => namesOf_any m wx ta fa da tc fc dc (h.out ox) hf hd
  obtain ⟨N, hNN⟩ : ∃ N, Hid (N = allN m) := ⟨_, rfl⟩
  have htab : Hid (tabM m = namesF N) := hidOf (by rw [hNN.out]; rfl)
  rw [htab.out]
  rw [← hNN.out] at CN hN hok ⊢
  have HOK := hidOf hok
  clear h hok hf hd
  generalize m.T.length = tn at *
  generalize m.F.length = fn at *
  generalize m.D.length = dn at *
  obtain ⟨n, hn⟩ : ∃ n, Hid (n = N.length) := ⟨_, rfl⟩
  rw [← hn.out] at CN hN ⊢
  obtain ⟨wi, hwi⟩ : ∃ wi, Hid (wi = w.alloc (Obj.cells #[Value.slice ta tn tc, Value.slice fa fn fc, Value.slice da dn dc, Value.int IntKind.i64 m.en] 34)) := ⟨_, rfl⟩
  have Owi : Hid (Out w wi) := hidOf (by rw [hwi.out]; exact Out.alloc (Out.refl _) _)
  have hsi : wi.heap.size = w.heap.size + 1 := by rw [hwi.out, size_alloc]
  have x0 : wi.cell? ⟨w.heap.size, 0, none⟩ = some (.slice ta tn tc) := by rw [hwi.out]; exact cell_fresh w _ _ 0 _ rfl
  have x1 : wi.cell? ⟨w.heap.size, 1, none⟩ = some (.slice fa fn fc) := by rw [hwi.out]; exact cell_fresh w _ _ 1 _ rfl
  have x2 : wi.cell? ⟨w.heap.size, 2, none⟩ = some (.slice da dn dc) := by rw [hwi.out]; exact cell_fresh w _ _ 2 _ rfl
  have x3 : wi.cell? ⟨w.heap.size, 3, none⟩ = some (.int .i64 m.en) := by rw [hwi.out]; exact cell_fresh w _ _ 3 _ rfl
  have HT0 := hidOf (new_tab wi)
  have O1 : Hid (Out w (wi.alloc newO)) := hidOf (Out.alloc Owi.out _)
  rw [hsi] at HT0
  go_enter Tryz.func45, Tryz.ntmps45
  go_upto_region 1 with fail
  rw [← hwi.out]
  have NW : Hid (Calls Tryz.prog 68 #[] wi fun e w' => e = .returned (.pointer (some ⟨w.heap.size + 1, 0, none⟩)) ∧ w' = wi.alloc newO) := hidOf (by have := new_any wi; rw [hsi] at this; exact this)
  go_upto_region 4 with (first | (go_at_call 68; refine (NW.out).mono ?_; rintro e w1 ⟨rfl, rfl⟩) | (go_at_call 69; refine (CN.out _ O1.out).mono ?_; rintro e w2 ⟨na, nc, rfl, hns, o2⟩))
  have hp2 : w.heap.size + 2 = (wi.alloc newO).heap.size := by rw [size_alloc, hsi]
  rw [← hp2] at hns
  have O2 : Hid (Out w w2) := hidOf (O1.out.trans o2)
  have S2 : Hid (SN w w2 (w.heap.size + 1) [] (.slice none 0 0) (fun k => k = w.heap.size + 1)) := hidOf ⟨HT0.out.out o2, fun k hk => by have := o2.size; omega, fun k hk => by omega, ⟨by simp [pcs], .inl ⟨rfl, by simp [pcs]⟩⟩, fun k hk => (by cases hk), O2.out⟩
  have NR2 : Hid (∀ b, (Value.slice na n nc).ownBlock = some b → ¬ b = w.heap.size + 1) := hidOf (fun b hb e => by have := (hns.lt b hb).1; omega)
  have HNS := hidOf hns
  have hn5 : (n : Int) ≤ 5120 := by omega
  clear hns HT0 O1 x0 x1 x2 x3 o2 NW CN hp2
  go_loopw [6, 17] (fun v i wr => ∃ (k : Nat) (a : Option Addr) (c : Nat) (F : Nat → Prop), k ≤ n ∧ v = .slice a k c ∧ i = .int .i64 k ∧ Hid (SN w wr (w.heap.size + 1) (N.take k) (.slice a k c) F) ∧ Hid (OwS (w.heap.size + 2) (.slice na n nc) N wr) ∧ Hid (∀ b, (Value.slice na n nc).ownBlock = some b → ¬ F b)) (fun _ i _ => n - (intOf i).toNat)
  case atStart => exact ⟨0, none, 0, _, by omega, rfl, rfl, hidOf (by simpa using S2.out), HNS, NR2⟩
  case round =>
    obtain ⟨k, a, c, F, hk, rfl, rfl, hs, hr, hnr⟩ := hrel
    by_cases hkl : k < n
    · have hlt : (k : Int) < n := by omega
      obtain ⟨x, hx⟩ : ∃ x, N[k]? = some x := ⟨_, List.getElem?_eq_getElem (by rw [← hn.out]; exact hkl)⟩
      have hrr := hr.out
      unfold OwS at hrr
      rw [← hn.out] at hrr
      obtain ⟨g, cap, hv, hcap, q0⟩ := own_cell hrr (k := k) (u := strV x) (by simp [hx])
      simp only [Value.slice.injEq] at hv
      obtain ⟨rfl, -, rfl⟩ := hv
      simp only [strV] at q0
      have hxo := HOK.out x (List.mem_of_getElem? hx)
      have hts := hidOf (take_snoc hx)
      have hlk : Hid ((N.take k).length = k) := hidOf (by rw [List.length_take, ← hn.out]; omega)
      have AD : Hid (Calls Tryz.prog 70 #[.pointer (some ⟨w.heap.size + 1, 0, none⟩), .string ⟨x.toArray⟩] wr fun e w' => e = .returned (.tuple #[.int .i64 (plF 1 (addN (namesF (N.take k)) x) x : Nat), .int .i64 0]) ∧ Tab (w.heap.size + 1) w' (addN (namesF (N.take k)) x) (FN F wr w') ∧ Chg F wr w') := hidOf (add_any _ x wr _ F hs.out.tab hxo (names_sz (fun y hy => HOK.out y (List.mem_of_mem_take hy)) (by rw [hlk.out]; omega)) hs.out.lt)
      clear hx hxo hrr
      obtain ⟨pl, hpl⟩ : ∃ pl : Nat, Hid (pl = plF 1 (addN (namesF (N.take k)) x) x) := ⟨_, rfl⟩
      rw [← hpl.out] at AD
      go_upto_region 9 with (go_at_call 70; refine (AD.out).mono ?_; rintro e w4 ⟨rfl, ht4, hc4⟩)
      obtain ⟨t1, t2, t3, t4, t5, t6⟩ := hs.out.add ht4 hc4
      have HC4 := hidOf hc4
      have NR4 : Hid (OwS (w.heap.size + 2) (.slice (some ⟨g, 0, none⟩) n nc) N w4) := hidOf (owns_chg hr.out hnr.out hc4)
      have NF4 : Hid (∀ b, (Value.slice (some ⟨g, 0, none⟩) n nc).ownBlock = some b → ¬ FN F wr w4 b) := hidOf (fun b hb hF => by
        rcases hF with h | h
        · exact hnr.out b hb h
        · have := (hr.out.lt b hb).2; omega)
      have T1 := hidOf t1
      have T2 := hidOf t2
      have T3_ := hidOf t3
      have T4 : Hid (w4.ownsRow w.heap.size 3 1 (.slice a k c) k ((pcs (N.take k)).map (Value.int .i64))) := hidOf (by have := t4; unfold OwI at this; rw [pcs_len, hlk.out] at this; exact this)
      have T5 := hidOf t5
      have T6 := hidOf t6
      clear t1 t2 t3 t4 t5 t6 ht4 hc4 hr hnr AD q0
      have hs4 : w.heap.size ≤ w4.heap.size := T6.out.size
      have HA4 : Hid (∀ B, (w4.alloc B).ownsRow w.heap.size 3 1 (.slice a k c) k ((pcs (N.take k)).map (Value.int .i64))) := hidOf (fun B => owns_chg (S := fun _ => False) T4.out (fun _ _ h => h) (Chg.of_out (Out.alloc (Out.refl _) B)))
      go_wp2_with (at_builtin; refine wpList_append_lies _ rfl (.tmp 30) (.tmp 32) 102 rfl w.heap.size 3 i0 _ 1 8 Tryz.underlying102 hi hz0 hz1 hz2 rfl (by decide) (.slice a k c) k ((pcs (N.take k)).map (Value.int .i64)) rfl (HA4.out _) ⟨w4.heap.size, 0, none⟩ 1 1 [.int .i64 (pl : Nat)] rfl rfl (news_new w4 _ _ _ rfl) (int_one _) (by decide) (by unfold maxLen; omega) (by omega) (by rw [size_alloc]; omega) _ rfl ?_; intro g5 cap5 w5 hown5 hgrow5 hg5 hlt5; have HO5 := hidOf hown5; have HG5 := hidOf hgrow5; have HH5 := hidOf hg5; clear hown5 hgrow5 hg5 hlt5)
      go_roundw
      case rel =>
        refine ⟨k + 1, some ⟨g5, 0, none⟩, cap5, FN F wr w4, by omega, rfl, by simp, hidOf ?_, hidOf ?_, NF4⟩
        · rw [hts.out]
          exact SN.push (T1.out.out (Out.alloc (Out.refl _) _)) (fun k hk => by rw [size_alloc]; have := T2.out k hk; omega) T3_.out T5.out (Out.alloc T6.out _) (HA4.out _) hlk.out HG5.out (by rw [← hpl.out]; exact HO5.out) HH5.out
        · exact owns_chg (S := fun b => (Value.slice a k c).ownBlock = some b) (OwS.out NR4.out (Out.alloc (Out.refl _) _)) (fun b hb hs => own_apart (by decide) NR4.out T4.out b hb hs) (Chg.of_grown HG5.out (fun k h => h))
      case measure => simp [intOf]; omega
    · have hlt : ¬ (k : Int) < n := by omega
      have hkn : Hid (k = n) := hidOf (by omega)
      have HF : Hid (SN w wr (w.heap.size + 1) N (.slice a n c) F) := hidOf (by have := hs.out; rw [hkn.out, List.take_of_length_le (by rw [← hn.out]; omega)] at this; exact this)
      have BY : Hid (Calls Tryz.prog 71 #[.pointer (some ⟨w.heap.size + 1, 0, none⟩)] wr fun e w' => ∃ a c, e = .returned (.tuple #[.slice a (byP (namesF N)).length c, .int .i64 0]) ∧ OwB wr.heap.size (.slice a (byP (namesF N)).length c) (byP (namesF N)) w' ∧ Out wr w') := hidOf (bytes_any _ wr _ F HF.out.tab (names_sz HOK.out (by rw [← hn.out]; omega)))
      clear hs hr hnr
      go_wp2_with (go_at_call 71; refine (BY.out).mono ?_; rintro e w6 ⟨ba, bc, rfl, hb6, o6⟩)
      go_ret3
      exact ⟨a, c, ba, bc, by rw [hkn.out]; rfl, HF.out.row.out o6, owns_base17 hb6 HF.out.out.size, HF.out.out.trans o6⟩
end Go.Proofs.YthdgmhohofakgaaGreatDoor
