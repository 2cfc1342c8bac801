import Derived.Test.YtcojejdkjffkeaaRes
namespace Go.Proofs.Ytcojejdkjffkeaa
open Go.RowKit
set_option linter.unusedVariables false
set_option linter.unusedSimpArgs false
set_option maxRecDepth 20000 in
set_option maxHeartbeats 1000000 in
theorem relocWrites_walk (a : Option Addr) (cap : Nat) (l : List Rl) (w : World) (hr : RlAt w.heap.size w a l) (hcap : l.length ≤ cap) (hll : l.length ≤ 1000000000) :
    Calls Try.prog 3 #[.slice a l.length cap] w fun e w' => e = .returned (.bool true) ∧ Out w w' := by
  have CA := hidOf awake11
  obtain ⟨B, hB⟩ : ∃ B, B = w.heap.size := ⟨_, rfl⟩
  have S1 : Hid (TS (w.alloc (.cells #[.slice none 0 0] 25)) B B l.length) := .inl (by rw [hB]; exact heap_alloc_new w _)
  have CC : Hid (∀ wx b c O, O.length = l.length → l.length ≤ c → Out w wx → RlAt wx.heap.size wx b O → TS wx B B l.length → ApT wx B b O → Calls Try.prog 8 #[.pointer (some ⟨B, 0, none⟩), .slice b l.length c] wx fun e w' => e = .returned (.bool true) ∧ TS w' B B l.length ∧ Out w w') := fun wx b c O hO hc ho h1 h2 h3 => by
    have := written_any w wx ho B B hB (Nat.le_refl _) b c O h1 (by omega) (by rw [hO]; exact h2) h3 (by omega)
    rw [hO] at this
    exact this
  have HR := hidOf hr
  have HB := hidOf hB
  have O1 := hidOf ((Out.refl w).alloc (.cells #[.slice none 0 0] 25))
  have AX : Hid (∀ wx, Out w wx → TS wx B B l.length → ApT wx B a l) := fun wx ho hs hl ad had => by
    have hlt : ad.block < w.heap.size := by
      rcases hr with h | ⟨b, o, hb, h, hc⟩
      · exact absurd h hl
      · rw [h] at had; cases had; exact hb
    refine ⟨Nat.lt_of_lt_of_le hlt ho.size, by omega, fun g m L hb => ?_⟩
    rcases hs with s | ⟨g1, m1, L1, s, hg, _⟩
    · have h1 := hb.hp
      rw [s] at h1; simp at h1
    · have h1 := hb.hp
      rw [s.hp] at h1
      simp at h1
      omega
  have A1 : Hid (∀ wx O b c, Out (w.alloc (.cells #[.slice none 0 0] 25)) wx → OwR (w.alloc (.cells #[.slice none 0 0] 25)).heap.size (.slice b O.length c) O wx → ApT wx B b O) := fun wx O b c ho hown hl ad had => by
    have hbk := World.ownsRow.lt hown ad.block (by rw [had]; rfl)
    rw [size_alloc] at hbk
    refine ⟨hbk.2, by omega, fun g m L hb => ?_⟩
    have h1 := hb.hp
    have h0 := heap_alloc_new w (.cells #[.slice none 0 0] 25)
    rw [hB, ho.block w.heap.size (by rw [size_alloc]; omega), h0] at h1
    simp at h1
  obtain ⟨i1, hi', hy0, hy1, hy2⟩ := info_parts infoRl
  clear hr hB
  go_enter Try.func3, Try.ntmps3
  go_upto_region 2 with fail
  rw [← HB.out]
  generalize w.alloc (.cells #[.slice none 0 0] 25) = w1 at *
  go_wp2
  go_loopw [4, 5] (fun ov iv wr => ∃ (i : Nat) (T : List Rl) (al : Option Addr) (cl : Nat), ov = .slice al T.length cl ∧ iv = .int .i64 i ∧ i ≤ l.length ∧ T.length = i ∧ Hid (OwR w1.heap.size (.slice al T.length cl) T wr) ∧ Hid (Out w1 wr)) (fun _ iv _ => l.length - (intOf iv).toNat)
  case atStart => exact ⟨0, [], none, 0, rfl, rfl, by omega, rfl, hidOf ⟨rfl, .inl ⟨rfl, rfl⟩⟩, hidOf (Out.refl w1)⟩
  case round =>
    obtain ⟨i, T, al, cl, rfl, rfl, hi, hTl, HOT, HO⟩ := hrel
    by_cases hlt : i < l.length
    · have hltI : (i : Int) < l.length := by omega
      obtain ⟨x, hx⟩ : ∃ x, l[i]? = some x := ⟨_, List.getElem?_eq_getElem hlt⟩
      obtain ⟨g, off, rfl, hg, h6⟩ := HR.out.get hx
      obtain ⟨q0, q1, q2⟩ := h6.later (Out.trans O1.out HO.out)
      obtain ⟨sl, ki, sy⟩ := x
      simp only at q0 q1 q2
      clear hx h6
      go_upto_region 9 with fail
      generalize wrap64 (3 - ki) = k2 at *
      generalize bits BinOp.xor IntKind.i64 sy 1 = s2 at *
      have HO4 := hidOf ((Out.refl wr).alloc (.cells #[.int .i64 sl, .int .i64 k2, .int .i64 s2] 27))
      have c0 : (wr.alloc (.cells #[.int .i64 sl, .int .i64 k2, .int .i64 s2] 27)).cell? ⟨wr.heap.size, 0, none⟩ = some (.int .i64 sl) := by rw [cell_fresh _ _ _ _ _ rfl]; rfl
      have c1 : (wr.alloc (.cells #[.int .i64 sl, .int .i64 k2, .int .i64 s2] 27)).cell? ⟨wr.heap.size, 1, none⟩ = some (.int .i64 k2) := by rw [cell_fresh _ _ _ _ _ rfl]; rfl
      have c2 : (wr.alloc (.cells #[.int .i64 sl, .int .i64 k2, .int .i64 s2] 27)).cell? ⟨wr.heap.size, 2, none⟩ = some (.int .i64 s2) := by rw [cell_fresh _ _ _ _ _ rfl]; rfl
      generalize wr.alloc (.cells #[.int .i64 sl, .int .i64 k2, .int .i64 s2] 27) = W at *
      generalize wr.heap.size = Bk at *
      have O4 := hidOf (Out.trans HO.out HO4.out)
      have HOT4 := hidOf (own_at HOT.out HO4.out)
      obtain ⟨T2, hT2⟩ : ∃ T2, T2 = T ++ [⟨sl, k2, s2⟩] := ⟨_, rfl⟩
      have hT2l : T2.length = T.length + 1 := by rw [hT2]; simp
      have HT2 := hidOf hT2
      have HT2l := hidOf hT2l
      have HTl := hidOf hTl
      clear hT2 hT2l hTl q0 q1 q2
      go_wp2_with (at_builtin; refine wpList_append_own _ rfl (.tmp 27) (.tmp 29) 22 rfl w1.heap.size 27 i1 _ 3 24 Try.underlying22 hi' hy0 hy1 hy2 rfl (by decide) (.slice al T.length cl) T.length (rlV T) rfl (own_at HOT4.out ((Out.refl W).alloc _)) ⟨W.heap.size, 0, none⟩ 1 1 (Rl.cs ⟨sl, k2, s2⟩) rfl rfl (news_new W _ _ _ rfl) (fun u hu => by simp only [Rl.cs, List.mem_cons, List.not_mem_nil, or_false] at hu; rcases hu with rfl | rfl | rfl <;> rfl) (by unfold maxLen; have := HTl.out; omega) (by have := HTl.out; omega) (by have := O4.out.size; rw [size_alloc]; omega) ?_; intro v' w6 hown' hgrow _; have O6 := hidOf (out_rowN (O4.out.alloc _) (own_at HOT4.out ((Out.refl W).alloc _)) hgrow); have HN6 : Hid (OwR w1.heap.size v' T2 w6) := hidOf (by unfold OwR; rw [HT2.out, rlV_app, List.length_append]; simpa [rlV] using hown'); obtain ⟨g6, c6, rfl⟩ : ∃ ad cp, v' = .slice ad T2.length cp := own_form HN6.out; clear hown' hgrow)
      go_roundw
      case rel => exact ⟨i + 1, T2, g6, c6, rfl, by simp, by omega, by have := HT2l.out; have := HTl.out; omega, HN6, O6⟩
      case measure => simp [intOf]; omega
    · have hltI : ¬ (i : Int) < l.length := by omega
      have hil : T.length = l.length := by omega
      have A2 := hidOf (A1.out wr T al cl HO.out HOT.out)
      obtain ⟨ta, tc, het, htc, htt⟩ := OwR.at HOT.out
      simp only [Value.slice.injEq] at het
      obtain ⟨rfl, _, rfl⟩ := het
      have R2 := hidOf htt
      have S2 := hidOf (S1.out.out HO.out)
      have O2 := hidOf (Out.trans O1.out HO.out)
      have Hil := hidOf hil
      have htc2 : l.length ≤ cl := by omega
      rw [hil]
      clear hTl hil htt HOT htc
      go_wp2_with (first
        | (go_at_call 8; refine (CC.out w4 a cap l rfl hcap O4.out (HR.out.out O4.out) S4.out (AX.out w4 O4.out S4.out)).mono ?_; rintro e w5 ⟨rfl, hs, ho⟩; have O5 := hidOf ho; clear hs ho)
        | (go_at_call 8; refine (CC.out w3 a cap l rfl hcap O3.out (HR.out.out O3.out) S3.out (AX.out w3 O3.out S3.out)).mono ?_; rintro e w4 ⟨rfl, hs, ho⟩; have O4 := hidOf ho; have S4 := hidOf hs; clear hs ho)
        | (go_at_call 8; refine (CC.out wr al cl T Hil.out htc2 O2.out R2.out S2.out A2.out).mono ?_; rintro e w3 ⟨rfl, hs, ho⟩; have O3 := hidOf ho; have S3 := hidOf hs; clear hs ho)
        | (go_at_call 9; refine (CA.out w5).mono ?_; rintro e w6 ⟨rfl, ho⟩; have O6 := hidOf (Out.trans O5.out ho); clear ho))
      go_ret
      exact ⟨rfl, O6.out⟩
end Go.Proofs.Ytcojejdkjffkeaa
