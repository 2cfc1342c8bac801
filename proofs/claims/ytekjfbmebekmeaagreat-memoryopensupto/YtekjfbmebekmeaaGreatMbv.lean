import Derived.Test.YtekjfbmebekmeaaGreatMbr
namespace Go.Proofs.YtekjfbmebekmeaaGreat
open Go.RowKit
set_option linter.unusedVariables false
set_option linter.unusedSimpArgs false
/-- what access gives -/
def AccE (F : List Rg) (at_ n : Nat) (e : Ending) : Prop := (acP F at_ n = none ∧ e = .returned (.tuple #[.slice none 0 0, .int .i64 200])) ∨ ∃ y o b, acP F at_ n = some (y, o) ∧ y.a = some b ∧ e = .returned (.tuple #[.slice (some ⟨b, o, none⟩) n (y.c - o), .int .i64 0])
set_option maxHeartbeats 2000000 in
set_option maxRecDepth 100000 in
theorem access_any (w : World) (B s : Nat) (v1 v2 : Value) (X Y : List Rw) (m at_ n : Nat) (h : SpD B w s v1 v2 X Y m) (hn : 0 < n) (hn8 : n ≤ 8) (ha : at_ < 18446744073709551616) :
    Calls Tryz.prog 67 #[.pointer (some ⟨s, 0, none⟩), .int .u64 at_, .int .i64 n] w fun e w' => AccE (flat X) at_ n e ∧ Out w w' := by
  have U := hidOf (upTo_any w B s 0 v1 X at_ h.sp.fil h.sp.c1 h.ok.sf (by have := h.sp.nX; omega))
  have HS := hidOf h
  have hn0 : ¬ ((n : Int) < 0) := by omega
  have hnz : ¬ ((n : Int) = 0) := by omega
  have hnzb : ((n : Int) == 0) = false := by rw [beq_eq_false_iff_ne]; exact hnz
  clear h
  go_enter Tryz.func67, Tryz.ntmps67
  go_upto_region 8 with (go_at_call 78; refine U.out.mono ?_; rintro e w1 ⟨⟨hu, rfl⟩ | ⟨y, hu, hy, rfl⟩, ho1⟩ <;> (have HU := hidOf hu; have O1 := hidOf ho1; clear hu ho1))
  · go_wp2
    refine bodyPost_ret (results_tmp2 rfl _ _ _) rfl ?_
    exact ⟨.inl ⟨by simp [acP, HU.out], rfl⟩, O1.out.alloc _⟩
  · have hyd := HS.out.ok.fd y hy
    have hyl := HS.out.le y (List.mem_append_left _ hy)
    have hyf : y.f ≤ at_ := by
      rcases upF_hit HS.out.ok.sf at_ with ⟨z, hz, _, hz2, _⟩ | ⟨hz, _⟩
      · rw [HU.out] at hz; cases hz; exact hz2
      · rw [HU.out] at hz; cases hz
    have hda := HS.out.da y (List.mem_append_left _ hy)
    obtain ⟨yb, hyb⟩ : ∃ yb, y.a = some yb := by
      cases hya : y.a with
      | some b => exact ⟨b, rfl⟩
      | none =>
        rcases hda.2 with ⟨_, h0⟩ | ⟨g, cap, cur, e, _⟩
        · omega
        · rw [daV, hya] at e; cases e
    have hyc : y.d.length ≤ y.c := by
      rcases hda.2 with ⟨_, h0⟩ | ⟨g, cap, cur, e, _, _, h1, _⟩
      · omega
      · rw [daV] at e; simp only [Value.slice.injEq] at e; omega
    have HY := hidOf hyb
    have hacc : Hid (acP (flat X) at_ n = if at_ - y.f < y.d.length ∧ n ≤ y.d.length - (at_ - y.f) then some (y, at_ - y.f) else none) := hidOf (by simp only [acP, HU.out])
    rw [hyb]
    simp only [Option.map_some]
    obtain ⟨o, hoe⟩ : ∃ o, at_ = y.f + o := ⟨at_ - y.f, by omega⟩
    subst hoe
    rw [show y.f + o - y.f = o by omega] at hacc
    obtain ⟨wB, HB, b0, b1, oB, _⟩ := box_two w1 (.int .u64 (y.f : Nat)) (.slice (some ⟨yb, 0, none⟩) y.d.length y.c) 36
    rw [← HB.out]
    have OB := hidOf oB
    have HAS := hidOf (fun W => hasR W y.f y.d.length y.c (y.f + o) (some ⟨yb, 0, none⟩) hyl (by omega) ha)
    rw [show y.f + o - y.f = o by omega] at HAS
    obtain ⟨yf, hyfe⟩ : ∃ yf, Hid (yf = y.f) := ⟨_, rfl⟩
    obtain ⟨yl, hyle⟩ : ∃ yl, Hid (yl = y.d.length) := ⟨_, rfl⟩
    obtain ⟨yc, hyce⟩ : ∃ yc, Hid (yc = y.c) := ⟨_, rfl⟩
    rw [← hyfe.out] at b0 HAS ha
    rw [← hyle.out, ← hyce.out] at b1 HAS
    rw [← hyle.out, ← hyce.out] at hyc
    rw [← hyle.out] at hyl
    have hw1 : IntKind.u64.wrap (((yf + o : Nat) : Int) - yf) = (o : Int) := by rw [IntKind.wrap_u64]; omega
    have hw2 : IntKind.u64.wrap ((yf : Int) + o - yf) = (o : Int) := by rw [IntKind.wrap_u64]; omega
    clear hy hyd hda hyb hyf oB
    rw [← hyfe.out]
    by_cases hol : o < yl
    · have hb : decide (o < yl) = true := by simpa using hol
      rw [hb] at HAS
      have hoI : (o : Int) ≤ (yl : Int) := by omega
      have hco : ¬ (yc = o) := by omega
      by_cases hnl : n ≤ yl - o
      · have hnlI : ¬ (((yl - o : Nat) : Int) < (n : Int)) := by omega
        have hnlJ : (n : Int) ≤ ((yc - o : Nat) : Int) := by omega
        have hac2 := hacc.out
        rw [← hyle.out, if_pos ⟨hol, hnl⟩] at hac2
        have HAC := hidOf hac2
        clear hb hol hac2
        go_wp2_with (go_at_call 97; refine (HAS.out _).mono ?_; rintro e w2 ⟨rfl, ho2⟩; have O2 := hidOf ho2; have c0 := cell_later ho2 b0; have c1 := cell_later ho2 b1; clear ho2)
        refine bodyPost_ret (results_tmp2 rfl _ _ _) rfl ?_
        exact ⟨.inr ⟨y, o, yb, HAC.out, HY.out, by rw [← hyce.out]; rfl⟩, (O1.out.trans OB.out).trans O2.out⟩
      · have hnlI : (((yl - o : Nat) : Int) < (n : Int)) := by omega
        have hac2 := hacc.out
        rw [← hyle.out, if_neg (by omega)] at hac2
        have HAC := hidOf hac2
        clear hb hol hac2
        go_wp2_with (go_at_call 97; refine (HAS.out _).mono ?_; rintro e w2 ⟨rfl, ho2⟩; have O2 := hidOf ho2; have c0 := cell_later ho2 b0; have c1 := cell_later ho2 b1; clear ho2)
        refine bodyPost_ret (results_tmp2 rfl _ _ _) rfl ?_
        exact ⟨.inl ⟨HAC.out, rfl⟩, (O1.out.trans OB.out).trans O2.out⟩
    · have hb : decide (o < yl) = false := by simpa using hol
      rw [hb] at HAS
      have hac2 := hacc.out
      rw [← hyle.out, if_neg (by omega)] at hac2
      have HAC := hidOf hac2
      clear hb hol hac2
      go_wp2_with (go_at_call 97; refine (HAS.out _).mono ?_; rintro e w2 ⟨rfl, ho2⟩; have O2 := hidOf ho2; clear ho2)
      refine bodyPost_ret (results_tmp2 rfl _ _ _) rfl ?_
      exact ⟨.inl ⟨HAC.out, rfl⟩, (O1.out.trans OB.out).trans O2.out⟩
end Go.Proofs.YtekjfbmebekmeaaGreat
