import Derived.Test.YtjlgkcnfdpnlkaaDoorLOwns
import Derived.Test.YtjlgkcnfdpnlkaaDoorCm
import Derived.Test.YtjlgkcnfdpnlkaaDoorTie
import Derived.ChangeSlices
namespace Go.Proofs.YtjlgkcnfdpnlkaaDoor
open Go.ChangeShapes Go.WideShapes Go.ChangeAt Go.RowKit Go.Deep
set_option linter.unusedVariables false
set_option linter.unusedSimpArgs false
theorem bulk_one {H : Type} (d : DataW H) : 1 ≤ Rows.uptoBulk d := by
  cases d with
  | lit l => cases l <;> simp [Rows.uptoBulk]
  | nil => simp [Rows.uptoBulk]
  | ptr d => simp [Rows.uptoBulk]
  | slice elems spare => simp [Rows.uptoBulk]
  | agg parts => simp [Rows.uptoBulk]
  | iface t d => simp [Rows.uptoBulk]
  | map entries => simp [Rows.uptoBulk]
  | held h => simp [Rows.uptoBulk]
theorem bulk_len {H : Type} (l : List (DataW H)) : l.length ≤ Rows.uptoBulkAll l := by
  induction l with
  | nil => simp [Rows.uptoBulkAll]
  | cons x r ih => have := bulk_one x; simp only [Rows.uptoBulkAll, List.length_cons]; omega
theorem bulk_insns {H : Type} {enc : TypeId × Value → H} {w : World} {base : Nat} {spare : Nat → Bool} {held : Bool} {fuel : Nat} {a : Option Addr} {len cap : Nat} {x : DataW H × List MemPlace}
    (h : DataW.trod enc Tryd.prog w base spare held fuel 22 [.slice a len cap] = some x) : len ≤ Rows.uptoBulk x.1 := by
  rcases open_slice Tryd.underlying22 h with ⟨hcs, rfl⟩ | ⟨ad, l, c, m, n, D, Pl, hcs, hb, hl, hm, hmm, rfl, hx⟩
  · simp at hcs
    obtain ⟨rfl, rfl, rfl⟩ := hcs
    exact Nat.zero_le _
  · simp at hcs
    obtain ⟨rfl, rfl, rfl⟩ := hcs
    have := bulk_len ((List.range len).map D)
    simp only [Rows.uptoBulk, List.length_map, List.length_range] at this ⊢
    omega
/-- the state of the law's loops -/
structure Lq (w wr : World) (B p : Nat) (c : Int) (F : List (Value × List Int)) (m : Nat) : Prop where
  bk : Books B wr p c F m
  fl : F.length = m
  out : Out w wr
  c0 : 0 ≤ c
set_option maxRecDepth 20000 in
set_option maxHeartbeats 2000000 in
theorem isaOwns_walk (a : Option Addr) (len cap : Nat) (w : World) (hi : IsInsns w a len) (hlen : len ≤ 1048576) (hA : TabA w) (hO : TabO w) : Calls Tryd.prog 3 #[.slice a len cap] w fun e w' => e = .returned (.bool true) ∧ Out w w' := by
  have Hi := hidOf hi
  have HA := hidOf hA
  have HO := hidOf hO
  clear hi hA hO
  have HBk := hidOf (Books.new w)
  have Ho0 : Hid (Out w (w.alloc (.cells #[.int .i64 0, .int .i64 0, .bool false, .slice none 0 0, .slice none 0 0, .slice none 0 0, .slice none 0 0, .slice none 0 0] 27))) := (Out.refl w).alloc _
  go_enter Tryd.func3, Tryd.ntmps3
  go_wp2
  have HQ0 : Hid (Lq w (w.alloc (.cells #[.int .i64 0, .int .i64 0, .bool false, .slice none 0 0, .slice none 0 0, .slice none 0 0, .slice none 0 0, .slice none 0 0] 27)) w.heap.size w.heap.size 0 [] 0) := ⟨HBk.out, rfl, Ho0.out, by omega⟩
  generalize w.alloc (.cells #[.int .i64 0, .int .i64 0, .bool false, .slice none 0 0, .slice none 0 0, .slice none 0 0, .slice none 0 0, .slice none 0 0] 27) = wb at *
  clear HBk Ho0
  go_loopw [4] (fun iv wr => ∃ (i : Nat) (c : Int) (F : List (Value × List Int)) (m : Nat), i ≤ len ∧ iv = .int .i64 i ∧ Hid (Lq w wr w.heap.size w.heap.size c F m) ∧ Hid (c ≤ 7 * i)) (fun iv _ => len - (intOf iv).toNat)
  case atStart => exact ⟨0, 0, [], 0, by omega, rfl, HQ0, by simp [Hid]⟩
  case round =>
    clear HQ0
    obtain ⟨i, c, F, m, hil, rfl, HQ, Hc⟩ := hrel
    by_cases hin : i < len
    · have hlt : (i : Int) < len := by omega
      obtain ⟨b, off, hab, hcs⟩ : ∃ b off : Nat, a = some ⟨b, off, none⟩ ∧ ∃ A B C D E : Int, w.cell? ⟨b, off + i * 5, none⟩ = some (.int .i64 A) ∧ w.cell? ⟨b, off + i * 5 + 1, none⟩ = some (.int .i64 B) ∧ w.cell? ⟨b, off + i * 5 + 2, none⟩ = some (.int .i64 C) ∧ w.cell? ⟨b, off + i * 5 + 3, none⟩ = some (.int .i64 D) ∧ w.cell? ⟨b, off + i * 5 + 4, none⟩ = some (.int .i64 E) := by
        rcases Hi.out with hz | ⟨b, off, hab, hx⟩
        · omega
        · exact ⟨b, off, hab, hx i hin⟩
      subst hab
      obtain ⟨o, d, s, f, im, d0, d1, d2, d3, d4⟩ := hcs
      have D0 := hidOf d0
      have D1 := hidOf d1
      have D2 := hidOf d2
      have D3 := hidOf d3
      have D4 := hidOf d4
      clear d0 d1 d2 d3 d4
      obtain ⟨L1, HL1⟩ : ∃ L, Hid (writesP o d s f im = L) := ⟨_, hidOf rfl⟩
      obtain ⟨L2, HL2⟩ : ∃ L, Hid (readsP o d s f im = L) := ⟨_, hidOf rfl⟩
      obtain ⟨n1, Hn1⟩ : ∃ n, Hid (L1.length = n) := ⟨_, hidOf rfl⟩
      obtain ⟨n2, Hn2⟩ : ∃ n, Hid (L2.length = n) := ⟨_, hidOf rfl⟩
      have hl1 : n1 ≤ 1000 := by rw [← Hn1.out, ← HL1.out]; exact (lists_len o d s f im).1
      have hl2 : n2 ≤ 1000 := by rw [← Hn2.out, ← HL2.out]; exact (lists_len o d s f im).2
      have CW : Hid (∀ wx, Out w wx → Calls Tryd.prog 4 #[.agg #[.int .i64 o, .int .i64 d, .int .i64 s, .int .i64 f, .int .i64 im]] wx fun e w' => ∃ a c, e = .returned (.slice a n1 c) ∧ w'.ownsRow wx.heap.size 3 1 (.slice a n1 c) n1 (bV L1) ∧ NumsAt w' (.slice a n1 c) L1 ∧ Out wx w') := fun wx ho => by
        have h := writes_b o d s f im wx (HA.out.out ho) (HO.out.out ho) n1 (by rw [HL1.out, Hn1.out])
        rw [HL1.out] at h; exact h
      have CR : Hid (∀ wx, Out w wx → Calls Tryd.prog 5 #[.agg #[.int .i64 o, .int .i64 d, .int .i64 s, .int .i64 f, .int .i64 im]] wx fun e w' => ∃ a c, e = .returned (.slice a n2 c) ∧ w'.ownsRow wx.heap.size 3 1 (.slice a n2 c) n2 (bV L2) ∧ NumsAt w' (.slice a n2 c) L2 ∧ Out wx w') := fun wx ho => by
        have h := reads_b o d s f im wx (HA.out.out ho) (HO.out.out ho) n2 (by rw [HL2.out, Hn2.out])
        rw [HL2.out] at h; exact h
      have CrW : Hid (∀ wx, Calls Tryd.prog 7 #[.agg #[.int .i64 o, .int .i64 d, .int .i64 s, .int .i64 f, .int .i64 im]] wx fun e w' => ∃ a c, e = .returned (.slice a n1 c) ∧ NumsAt w' (.slice a n1 c) L1 ∧ Out wx w') := fun wx => by
        have h := refWrites_b o d s f im wx n1 (by rw [HL1.out, Hn1.out])
        rw [HL1.out] at h; exact h
      have CrR : Hid (∀ wx, Calls Tryd.prog 8 #[.agg #[.int .i64 o, .int .i64 d, .int .i64 s, .int .i64 f, .int .i64 im]] wx fun e w' => ∃ a c, e = .returned (.slice a n2 c) ∧ NumsAt w' (.slice a n2 c) L2 ∧ Out wx w') := fun wx => by
        have h := refReads_b o d s f im wx n2 (by rw [HL2.out, Hn2.out])
        rw [HL2.out] at h; exact h
      have h0i : (0 : Int) ≤ (i : Int) := by omega
      go_upto_region 6 with fail
      go_loopw [5] (fun kv wr => ∃ (k : Nat) (c : Int) (F : List (Value × List Int)) (m : Nat), k ≤ 3 ∧ kv = .int .i64 k ∧ Hid (Lq w wr w.heap.size w.heap.size c F m) ∧ Hid (c ≤ 7 * i + 2 * k)) (fun kv _ => 3 - (intOf kv).toNat)
      case atStart => exact ⟨0, c, F, m, by omega, rfl, HQ, hidOf (by have := Hc.out; omega)⟩
      case round =>
        clear HQ Hc
        obtain ⟨k, c, F, m, hk3, rfl, HQ, Hc⟩ := hrel
        by_cases hkl : k < 3
        · have hklt : (k : Int) < 3 := by omega
          have q0 := cell_later HQ.out.out D0.out
          have q1 := cell_later HQ.out.out D1.out
          have q2 := cell_later HQ.out.out D2.out
          have q3 := cell_later HQ.out.out D3.out
          have q4 := cell_later HQ.out.out D4.out
          go_upto_region 9 with (go_at_call 4; refine (CW.out _ HQ.out.out).mono ?_; rintro e w1 ⟨a1, c1, rfl, hown1, hnum1, ho1⟩; have Ho1 := hidOf (Out.trans HQ.out.out ho1); have HB1 := hidOf (HQ.out.bk.take ho1 Hn1.out hown1 (by omega)); have HN1 := hidOf hnum1; clear hown1 hnum1 ho1)
          clear q0 q1 q2 q3 q4
          have q0 := cell_later Ho1.out D0.out
          have q1 := cell_later Ho1.out D1.out
          have q2 := cell_later Ho1.out D2.out
          have q3 := cell_later Ho1.out D3.out
          have q4 := cell_later Ho1.out D4.out
          go_upto_region 10 with (go_at_call 5; refine (CR.out _ Ho1.out).mono ?_; rintro e w2 ⟨a2, c2, rfl, hown2, hnum2, ho2⟩; have Ho2 := hidOf (Out.trans Ho1.out ho2); have HB2 := hidOf (HB1.out.take ho2 Hn2.out hown2 (by omega)); have HN1 := hidOf (HN1.out.out ho2); have HN2 := hidOf hnum2; clear hown2 hnum2 ho2)
          clear q0 q1 q2 q3 q4
          have q0 := cell_later Ho2.out D0.out
          have q1 := cell_later Ho2.out D1.out
          have q2 := cell_later Ho2.out D2.out
          have q3 := cell_later Ho2.out D3.out
          have q4 := cell_later Ho2.out D4.out
          go_upto_region 12 with (first | (go_at_call 7; refine (CrW.out _).mono ?_; rintro e w3 ⟨a3, c3, rfl, hnum3, ho3⟩; have Ho3 := hidOf (Out.trans Ho2.out ho3); have HN13 := hidOf (HN1.out.out ho3); have HN3 := hidOf hnum3; have Ho23 := hidOf ho3; clear hnum3 ho3) | (go_at_call 8; refine (CrR.out _).mono ?_; rintro e w5 ⟨a5, c5, rfl, hnum5, ho5⟩; have Ho5 := hidOf (Out.trans Ho4.out ho5); have HN25 := hidOf (HN24.out.out ho5); have HN5 := hidOf hnum5; have Ho45 := hidOf ho5; clear hnum5 ho5) | (go_at_call 6; refine (same_n (l := L2) (by rw [Hn2.out]; omega) HN25.out HN5.out).mono ?_; rintro e w6 ⟨rfl, q6, rfl⟩; have Ho6 := hidOf (Ho5.out.drewN q6); have HB6 := hidOf (HB4.out.out (Ho45.out.drewN q6))) | (go_at_call 6; refine (same_n (l := L1) (by rw [Hn1.out]; omega) HN13.out HN3.out).mono ?_; rintro e w4 ⟨rfl, qq4, rfl⟩; have Ho4 := hidOf (Ho3.out.drewN qq4); have HB4 := hidOf (HB2.out.out (Ho23.out.drewN qq4)); have HN24 := hidOf (HN2.out.out (Ho23.out.drewN qq4)); have x0 := cell_later Ho4.out D0.out; have x1 := cell_later Ho4.out D1.out; have x2 := cell_later Ho4.out D2.out; have x3 := cell_later Ho4.out D3.out; have x4 := cell_later Ho4.out D4.out))
          clear q0 q1 q2 q3 q4 x0 x1 x2 x3 x4
          have Hx1 : Hid ((F ++ [(Value.slice a1 n1 c1, L1)] ++ [(Value.slice a2 n2 c2, L2)])[m]? = some (.slice a1 n1 c1, L1)) := by
            show _ = _
            rw [List.append_assoc, List.getElem?_append_right (by have := HQ.out.fl; omega), HQ.out.fl, Nat.sub_self]; rfl
          have Hx2 : Hid ((F ++ [(Value.slice a1 n1 c1, L1)] ++ [(Value.slice a2 n2 c2, L2)])[m + 1]? = some (.slice a2 n2 c2, L2)) := by
            show _ = _
            rw [List.append_assoc, List.getElem?_append_right (by have := HQ.out.fl; omega), HQ.out.fl, Nat.add_sub_cancel_left]; rfl
          have Hlen2 : Hid ((F ++ [(Value.slice a1 n1 c1, L1)] ++ [(Value.slice a2 n2 c2, L2)]).length = m + 1 + 1) := by
            show _ = _
            simp [HQ.out.fl]
          have hc1 : c ≤ 7 * i + 2 * k := Hc.out
          have hc2 : 0 ≤ c := HQ.out.c0
          go_upto_region 13 with (go_at_call 9; refine (HB6.out.own Hx1.out Hn1.out Hlen2.out _ (by omega) (by omega) (by omega)).mono ?_; rintro e w9 ⟨⟨r9, rfl⟩, F9, m9, hb9, hl9, hx9, hc9⟩; have HB9 := hidOf hb9; have Hl9 := hidOf hl9; have Hx9 := hidOf (hx9 _ Hx2.out); have Ho9 := hidOf (Chg.out hc9 Ho6.out (fun k hk => hk.1)); clear hb9 hl9 hx9 hc9)
          go_wp2_with (go_at_call 9; refine (HB9.out.own (r := 0) Hx9.out Hn2.out (by have := Hl9.out; omega) _ (by omega) (by omega) (by omega)).mono ?_; rintro e w10 ⟨⟨r10, rfl⟩, F10, m10, hb10, hl10, hx10, hc10⟩; have HB10 := hidOf hb10; have Hl10 := hidOf hl10; have Ho10 := hidOf (Chg.out hc10 Ho9.out (fun k hk => hk.1)); clear hb10 hl10 hx10 hc10)
          go_roundw
          case rel => exact ⟨k + 1, c + 1 + 1, F10, m10, by omega, by simp, ⟨HB10.out, by have := Hl10.out; omega, Ho10.out, by omega⟩, hidOf (by omega)⟩
          case measure => simp [intOf]; omega
        · have hklt : ¬ (k : Int) < 3 := by omega
          obtain rfl : k = 3 := by omega
          have Hfin : Hid (∀ wx (c' : Int) (F' : List (Value × List Int)) (m' : Nat), Lq w wx w.heap.size w.heap.size c' F' m' → c' ≤ 7 * i + 7 → Calls Tryd.prog 12 #[.pointer (some ⟨w.heap.size, 0, none⟩)] wx fun e w' => e = .returned (.bool true) ∧ ∃ q, w' = wx.drewN q) := fun wx c' F' m' h hc' => h.bk.holds (by omega)
          have hc1 : c ≤ 7 * i + 2 * (3 : Nat) := Hc.out
          have hc2 : 0 ≤ c := HQ.out.c0
          have htm : (i : Int).tmod 8 = (i : Int) % 8 := Int.tmod_eq_emod_of_nonneg (by omega)
          by_cases hi3 : i < 3
          · have hi3' : (i : Int) < 3 := by omega
            have h87 : ((i : Int).tmod 8 == 7) = false := by rw [htm]; simp; omega
            have h88 : ((i : Int) % 8 == 7) = false := by simp; omega
            clear htm
            go_upto_region 18 with (first | (go_at_call 10; refine (ops_b _ (HO.out.out HQ.out.out)).mono ?_; rintro e w1 ⟨a1, c1, rfl, hown1, hnum1, ho1⟩; have Ho1 := hidOf (Out.trans HQ.out.out ho1); have HB1 := hidOf (HQ.out.bk.take ho1 opsS_length hown1 (by omega)); have HN1 := hidOf hnum1; clear hown1 hnum1 ho1) | (go_at_call 11; refine (refOps_b _).mono ?_; rintro e w3 ⟨a3, c3, rfl, hnum3, ho3⟩; have Ho3 := hidOf (Out.trans Ho1.out ho3); have HN13 := hidOf (HN1.out.out ho3); have HN3 := hidOf hnum3; have Ho23 := hidOf ho3; clear hnum3 ho3) | (go_at_call 6; refine (same_n (l := opsS) (by rw [opsS_length]; omega) HN13.out HN3.out).mono ?_; rintro e w4 ⟨rfl, qq4, rfl⟩; have Ho4 := hidOf (Ho3.out.drewN qq4); have HB4 := hidOf (HB1.out.out (Ho23.out.drewN qq4))))
            have Hx1 : Hid ((F ++ [(Value.slice a1 119 c1, opsS)])[m]? = some (.slice a1 119 c1, opsS)) := by
              show _ = _
              rw [List.getElem?_append_right (by have := HQ.out.fl; omega), HQ.out.fl, Nat.sub_self]; rfl
            have Hlen2 : Hid ((F ++ [(Value.slice a1 119 c1, opsS)]).length = m + 1 + 0) := by
              show _ = _
              simp [HQ.out.fl]
            go_wp2_with (go_at_call 9; refine (HB4.out.own Hx1.out opsS_length Hlen2.out _ (by omega) (by omega) (by omega)).mono ?_; rintro e w10 ⟨⟨r10, rfl⟩, F10, m10, hb10, hl10, hx10, hc10⟩; have HB10 := hidOf hb10; have Hl10 := hidOf hl10; have Ho10 := hidOf (Chg.out hc10 Ho4.out (fun k hk => hk.1)); clear hb10 hl10 hx10 hc10)
            go_roundw
            case rel => exact ⟨i + 1, c + 1, F10, m10, by omega, by simp, ⟨HB10.out, by have := Hl10.out; omega, Ho10.out, by omega⟩, hidOf (by omega)⟩
            case measure => simp [intOf]; omega
          · have hi3' : ¬ (i : Int) < 3 := by omega
            cases h88 : ((i : Int) % 8 == 7)
            · have h87 : ((i : Int).tmod 8 == 7) = false := by rw [htm]; exact h88
              clear htm
              go_wp2
              go_roundw
              case rel => exact ⟨i + 1, c, F, m, by omega, by simp, HQ, hidOf (by omega)⟩
              case measure => simp [intOf]; omega
            · have h87 : ((i : Int).tmod 8 == 7) = true := by rw [htm]; exact h88
              clear htm
              go_wp2_with (go_at_call 12; refine (Hfin.out _ c F m HQ.out (by omega)).mono ?_; rintro e w11 ⟨rfl, q11, rfl⟩)
              go_roundw
              case rel => exact ⟨i + 1, c, F, m, by omega, by simp, ⟨HQ.out.bk.out ((Out.refl _).drewN q11), HQ.out.fl, HQ.out.out.drewN q11, hc2⟩, hidOf (by omega)⟩
              case measure => simp [intOf]; omega
    · have hlt : ¬ (i : Int) < len := by omega
      have hc1 : c ≤ 7 * i := Hc.out
      go_wp2_with (first | (go_at_call 10; refine (ops_b _ (HO.out.out HQ.out.out)).mono ?_; rintro e w1 ⟨a1, c1, rfl, hown1, hnum1, ho1⟩; have Ho1 := hidOf (Out.trans HQ.out.out ho1); have HB1 := hidOf (HQ.out.bk.out ho1); have HN1 := hidOf hnum1; clear hown1 hnum1 ho1) | (go_at_call 11; go_loud (refine (refOps_b _).mono ?_); rintro e w3 ⟨a3, c3, rfl, hnum3, ho3⟩; have Ho3 := hidOf (Out.trans Ho1.out ho3); have HN13 := hidOf (HN1.out.out ho3); have HN3 := hidOf hnum3; have HB3 := hidOf (HB1.out.out ho3); clear hnum3 ho3) | (go_at_call 6; go_loud (refine (same_n (l := opsS) (by rw [opsS_length]; omega) HN13.out HN3.out).mono ?_); rintro e w4 ⟨rfl, qq4, rfl⟩; have Ho4 := hidOf (Ho3.out.drewN qq4); have HB4 := hidOf (HB3.out.out ((Out.refl _).drewN qq4))) | (go_at_call 12; go_loud (refine (HB4.out.holds (by omega)).mono ?_); rintro e w11 ⟨rfl, q11, rfl⟩; have Ho11 := hidOf (Ho3.out.drewN (qq4 + q11))) | (go_at_call 13; go_loud (refine (awake_any _ (HA.out.out Ho11.out) (HO.out.out Ho11.out)).mono ?_); rintro e w12 ⟨rfl, ho12⟩; have Ho12 := hidOf (Out.trans Ho11.out ho12); clear ho12))
      go_ret
      exact ⟨rfl, Ho12.out⟩
end Go.Proofs.YtjlgkcnfdpnlkaaDoor
