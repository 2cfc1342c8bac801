import Derived.Test.YtfhmhdhaibmcfaaDoorDi
import Derived.Test.YtfhmhdhaibmcfaaDoorDh
namespace Go.Proofs.YtfhmhdhaibmcfaaDoor
open Go.RowKit
set_option linter.unusedVariables false
set_option linter.unusedSimpArgs false
theorem tokOw (w : World) (hE : LEnv w) (a : Option Addr) (cap : Nat) (l : List UInt8) (hr : RestAt w.heap.size w a l) (hcap : l.length ≤ cap) (hll : l.length ≤ 140737488355328) : Calls Tryd.prog 15 #[.slice a l.length cap] w fun e w' => ∃ v, e = .returned (.tuple #[v, .int .i64 (tokensP l).2.1, .int .i64 (tokensP l).2.2]) ∧ OwT w.heap.size v (tokensP l).1 w' ∧ Out w w' :=
  tokens_any valC cutC w hE.1 a cap l hr hcap hll
theorem shv_new {w : World} {p : Nat} (h : w.heap[p]? = some (.cells #[.int .i64 0, .int .i64 0, .bool false, .slice none 0 0, .slice none 0 0, .slice none 0 0, .slice none 0 0] 42 (0, 0))) (B : Nat) (hB : B ≤ p) : Shv w B p 0 0 0 :=
  ⟨_, _, _, _, [], [], [], [], ⟨h, hB, World.ownsRow_nil _ _ _ _, World.ownsRow_nil _ _ _ _, World.ownsRow_nil _ _ _ _, World.ownsRow_nil _ _ _ _, fun b hb => (by cases hb), fun b hb => (by cases hb), fun b hb => (by cases hb)⟩,
    ⟨rfl, fun i x y hx => by simp at hx, fun i x hx => by simp at hx, fun j x hx => by simp at hx, fun i j x y hx => by simp at hx, fun i j x y hx => by simp at hx, rfl⟩, by simp, by simp⟩
theorem shv_holds {w : World} {B p : Nat} {ct tt : Int} {nk : Nat} (h : Shv w B p ct tt nk) (hn : nk ≤ 1000) : Calls Tryd.prog 19 #[.pointer (some ⟨p, 0, none⟩)] w fun e w' => e = .returned (.bool true) ∧ Out w w' := by
  obtain ⟨fa, wa, ka, ma, F, W, K, M, h1, h2, h3, h4⟩ := h
  exact holds_any w B p ct tt fa wa ka ma F W K M h1 h2.wl h2.prs' (by omega) h2.kp (by omega) h2.ml
theorem shv_total {w : World} {B p : Nat} {ct tt : Int} {nk : Nat} (h : Shv w B p ct tt nk) : w.cell? ⟨p, 1, none⟩ = some (.int .i64 tt) := by
  obtain ⟨fa, wa, ka, ma, F, W, K, M, h1, _⟩ := h
  rw [cell_atL h1.st]; rfl
set_option maxRecDepth 20000 in
set_option maxHeartbeats 2000000 in
theorem lexOwns_walk (w : World) (hE : LEnv w) (a1 : Option Addr) (c1 : Nat) (l1 : List UInt8) (hr1 : RestAt w.heap.size w a1 l1) (hc1 : l1.length ≤ c1) (hb1 : l1.length ≤ 140737488351232) (a2 : Option Addr) (c2 : Nat) (l2 : List UInt8) (hr2 : RestAt w.heap.size w a2 l2) (hc2 : l2.length ≤ c2) (hb2 : l2.length ≤ 140737488351232) :
    Calls Tryd.prog 5 #[.slice a1 l1.length c1, .slice a2 l2.length c2] w fun e w' => e = .returned (.bool true) ∧ Out w w' := by
  have CA : Hid (∀ wx, Out w wx → Calls Tryd.prog 11 #[] wx fun e w' => e = .returned (.bool true) ∧ Out wx w') := fun wx ho => awake_any wx (hE.out ho)
  obtain ⟨B, hB⟩ : ∃ B, B = w.heap.size := ⟨_, rfl⟩
  have S1 : Hid (Shv (w.alloc (.cells #[.int .i64 0, .int .i64 0, .bool false, .slice none 0 0, .slice none 0 0, .slice none 0 0, .slice none 0 0] 42)) B B 0 0 0) := shv_new (by rw [hB]; exact heap_alloc_new w _) B (Nat.le_refl _)
  have RX : Hid (∀ (a : Option Addr) (l : List UInt8) wx, RestAt w.heap.size w a l → Out w wx → RestAt wx.heap.size wx a l) := fun a l wx hr ho => by
    rcases hr with h | ⟨b, o, hb, h, hc⟩
    · exact .inl h
    · exact .inr ⟨b, o, by have := ho.size; omega, h, fun k x hx => cell_later ho (hc k x hx)⟩
  have CC : Hid (∀ wx a c l, RestAt wx.heap.size wx a l → l.length ≤ 140737488351232 → Calls Tryd.prog 14 #[.slice a l.length c] wx fun e w' => ∃ v, e = .returned v ∧ OwB wx.heap.size v l w' ∧ Out wx w') := fun wx a c l h1 h2 => copyBytes_any wx a c l h1 h2
  have CR : Hid (∀ wx b cp l, RestAt wx.heap.size wx b l → l.length ≤ cp → Calls Tryd.prog 13 #[.slice b l.length cp] wx fun e w' => ∃ v, e = .returned (.tuple #[v, .int .i64 (tokensP l).2.1, .int .i64 (tokensP l).2.2]) ∧ OwT wx.heap.size v (tokensP l).1 w' ∧ Out wx w') := fun wx b cp l h1 h2 => refTokens_any wx b cp l h1 h2
  have CT : Hid (∀ wx b cp l, Out w wx → RestAt wx.heap.size wx b l → l.length ≤ cp → l.length ≤ 140737488351232 → Calls Tryd.prog 15 #[.slice b l.length cp] wx fun e w' => ∃ v, e = .returned (.tuple #[v, .int .i64 (tokensP l).2.1, .int .i64 (tokensP l).2.2]) ∧ OwT wx.heap.size v (tokensP l).1 w' ∧ Out wx w') := fun wx b cp l h0 h1 h2 h3 => tokOw wx (hE.out h0) b cp l h1 h2 (by omega)
  have R1 := hidOf hr1
  have R2 := hidOf hr2
  have HB := hidOf hB
  have O1 := hidOf ((Out.refl w).alloc (.cells #[.int .i64 0, .int .i64 0, .bool false, .slice none 0 0, .slice none 0 0, .slice none 0 0, .slice none 0 0] 42))
  clear hE hr1 hr2 hB
  go_enter Tryd.func5, Tryd.ntmps5
  go_upto_region 2 with fail
  rw [← HB.out]
  generalize w.alloc (.cells #[.int .i64 0, .int .i64 0, .bool false, .slice none 0 0, .slice none 0 0, .slice none 0 0, .slice none 0 0] 42) = w1 at *
  go_wp2
  go_loopw [6] (fun iv wr => ∃ (i : Nat) (ct tt : Int) (nk : Nat), iv = .int .i64 i ∧ i ≤ 9 ∧ 0 ≤ ct ∧ ct ≤ 4 * i ∧ 0 ≤ tt ∧ tt ≤ 40000000 ∧ nk ≤ 12 * i ∧ Hid (Shv wr B B ct tt nk) ∧ Hid (Out w wr)) (fun iv _ => 9 - (intOf iv).toNat)
  case atStart => exact ⟨0, 0, 0, 0, rfl, by omega, by omega, by omega, by omega, by omega, by omega, S1, O1⟩
  case round =>
    clear S1 O1
    obtain ⟨i, ct, tt, nk, rfl, hi, hct0, hct1, htt0, htt1, hnk, HS, HO⟩ := hrel
    by_cases hlt : i < 9
    · have hltI : (i : Int) < 9 := by omega
      go_upto_if 22 with fail
      go_cut [7] (fun s7 wx => wx = wr ∧ ∃ a c l, s7 = .slice a (List.length (α := UInt8) l) c ∧ RestAt w.heap.size w a l ∧ l.length ≤ c ∧ l.length ≤ 140737488351232)
      case first =>
        by_cases h4 : i = 4
        · have h4b : ((i : Int) == 4) = true := by simp; omega
          go_wp2
          go_meet
          exact ⟨rfl, a2, c2, l2, rfl, R2.out, hc2, hb2⟩
        · have h4b : ((i : Int) == 4) = false := by simp; omega
          go_wp2
          go_meet
          exact ⟨rfl, a1, c1, l1, rfl, R1.out, hc1, hb1⟩
      case rest =>
        obtain ⟨rfl, a, c, l, rfl, hr, hc, hb⟩ := hcut
        have HR := hidOf hr
        have htl := tokens_len l
        clear hr
        obtain ⟨T, L1, L2, hT⟩ : ∃ T L1 L2, tokensP l = (T, L1, L2) := ⟨_, _, _, rfl⟩
        have CR' := hidOf (fun wx b cp h1 h2 => CR.out wx b cp l h1 h2)
        have CT' := hidOf (fun wx b cp h0 h1 h2 => CT.out wx b cp l h0 h1 h2 hb)
        rw [hT] at CR' CT' htl
        simp only at CR' CT' htl
        clear hT
        have RW := hidOf (RX.out a l wc HR.out HO.out)
        have CCw := hidOf (CC.out wc a c l RW.out hb)
        go_upto_region 9 with (first | (go_at_call 14; refine CCw.out.mono ?_; rintro e w2 ⟨v2, rfl, hown, ho⟩; have P2 := hidOf ho; obtain ⟨b2, cc2, rfl, hcc2, hr2⟩ := OwB.rest hown; have RR2 := hidOf hr2; clear hown ho hr2) | (go_at_call 13; refine (CR'.out w2 b2 cc2 RR2.out hcc2).mono ?_; rintro e w3 ⟨v3, rfl, hown, ho⟩; have W3 := hidOf hown; have P3 := hidOf (Out.trans P2.out ho); clear hown ho))
        have O3 := hidOf (Out.trans HO.out P3.out)
        have S3 := hidOf (HS.out.out P3.out)
        have RW3 := hidOf (RX.out a l w3 HR.out O3.out)
        go_upto_region 10 with (go_at_call 15; refine (CT'.out w3 a c O3.out RW3.out hc).mono ?_; rintro e w4 ⟨v4, rfl, hown, ho⟩; have W4 := hidOf hown; have P4 := hidOf ho; clear hown ho)
        obtain ⟨a3, c3, rfl, _, ht3⟩ := owns_tks (W3.out.out P4.out)
        obtain ⟨a4, c4, rfl, _, ht4⟩ := owns_tks W4.out
        have CS := hidOf (sameTokens_any w4 a4 a3 c4 c3 T ht4 ht3 (by omega))
        clear ht3 ht4
        go_upto_region 12 with (first | (go_at_call 16; refine CS.out.mono ?_; rintro e w5 ⟨rfl, ho⟩; have P5 := hidOf ho; clear ho) | (go_at_call 17; refine (refNum_any _ _).mono ?_; rintro e w7 ⟨rfl, hw⟩; subst hw))
        have O5 := hidOf (Out.trans (Out.trans O3.out P4.out) P5.out)
        have P35 := hidOf (Out.trans P4.out P5.out)
        have S5 := hidOf (S3.out.out P35.out)
        have X5 := hidOf (W4.out.out P5.out)
        have d1 := shv_total S5.out
        by_cases h3 : tt < 3000
        · have CO := hidOf (own_any writeC w3 w5 B B ct tt nk S3.out P35.out a4 c4 T X5.out (by omega) hct0 (by omega) htt0 (by omega) (by omega))
          clear CR' CT' CS CCw S5 X5
          go_upto_region 14 with (go_at_call 18; refine CO.out.mono ?_; rintro e w6 ⟨⟨r6, rfl⟩, ⟨ct6, hs6, h60, h61⟩, hc6⟩; have S6 := hidOf hs6; have O6 := hidOf (Chg.out hc6 O5.out (fun k hk => by rw [← HB.out]; exact hk)); clear hs6 hc6)
          have CH := hidOf (shv_holds S6.out (by omega))
          go_wp2_with (go_at_call 19; refine CH.out.mono ?_; rintro e w7 ⟨rfl, ho⟩; have P7 := hidOf ho; clear ho)
          go_roundw
          case rel => exact ⟨i + 1, ct6, tt + T.length, nk + 12, by simp, by omega, h60, by omega, by omega, by omega, by omega, hidOf (S6.out.out P7.out), hidOf (Out.trans O6.out P7.out)⟩
          case measure => simp [intOf]; omega
        · have CH := hidOf (shv_holds S5.out (by omega))
          clear CR' CT' CS CCw X5
          go_wp2_with (go_at_call 19; refine CH.out.mono ?_; rintro e w7 ⟨rfl, ho⟩; have P7 := hidOf ho; clear ho)
          go_roundw
          case rel => exact ⟨i + 1, ct, tt, nk, by simp, by omega, hct0, by omega, htt0, htt1, by omega, hidOf (S5.out.out P7.out), hidOf (Out.trans O5.out P7.out)⟩
          case measure => simp [intOf]; omega
    · have hltI : ¬ (i : Int) < 9 := by omega
      go_wp2_with (go_at_call 11; refine (CA.out _ HO.out).mono ?_; rintro e w2 ⟨rfl, ho⟩; have O2 := hidOf (Out.trans HO.out ho); clear ho)
      go_ret
      exact ⟨rfl, O2.out⟩
end Go.Proofs.YtfhmhdhaibmcfaaDoor
