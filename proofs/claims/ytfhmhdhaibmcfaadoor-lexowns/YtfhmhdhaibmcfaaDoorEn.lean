import Derived.Test.YtfhmhdhaibmcfaaDoorEm
namespace Go.Proofs.YtfhmhdhaibmcfaaDoor
open Go.RowKit
set_option linter.unusedVariables false
set_option linter.unusedSimpArgs false
theorem pre2 (l : List UInt8) : Lib.hasPrefix l [48, 120] = decide (l.take 2 = [48, 120]) := by
  unfold Lib.hasPrefix
  match l with
  | [] => rfl
  | [a] => simp [List.isPrefixOf]
  | a :: b :: r =>
    by_cases ha : a = 48
    · by_cases hb : b = 120
      · simp [List.isPrefixOf, ha, hb]
      · have hb' : ¬ 120 = b := fun h => hb h.symm
        simp [List.isPrefixOf, ha, hb, hb']
    · have ha' : ¬ 48 = a := fun h => ha h.symm
      simp [List.isPrefixOf, ha, ha']
set_option maxRecDepth 20000 in
theorem int_empty (w : World) : Calls Tryd.prog 100 #[.string ⟨#[]⟩, .int .i64 16, .int .i64 64] w fun e w' => e = .returned (.tuple #[.int .u64 0, .iface 136 (.int .i64 2)]) ∧ w' = w := by
  go_enter Tryd.func100, Tryd.ntmps100
  go_wp2
  go_ret2
  exact ⟨rfl, rfl⟩
theorem pub_empty (N : Nat) (w : World) (hE : Env N w) : Calls Tryd.prog 97 #[.string ⟨#[]⟩, .int .i64 16, .int .i64 64] w fun e w' => PubEnd w none e w' := by
  have CP := hidOf (int_empty w)
  obtain ⟨ev, hv, hev⟩ := hE.es
  have CT : Hid (Calls Tryd.prog 101 #[.string ⟨#[80, 97, 114, 115, 101, 85, 105, 110, 116]⟩, .string ⟨#[]⟩, .int .i64 16, .int .i64 64, .iface 136 (.int .i64 2)] w fun e w' => ∃ N, e = .returned (.iface 138 (.pointer (some ⟨N, 0, none⟩))) ∧ Out w w') := (Tryd.strconv_toError_syntax _ ⟨#[]⟩ 16 64 ev w (by decide) hv hev).mono fun e w' ⟨M, h1, _, _, h4⟩ => ⟨M, h1, h4⟩
  clear hv hev
  go_enter Tryd.func97, Tryd.ntmps97
  go_wp2_with (first | (go_at_call 100; refine CP.out.mono ?_; rintro e wx ⟨rfl, hwx⟩; have hwx := hwx.symm; subst hwx) | (go_at_call 101; refine CT.out.mono ?_; rintro e w2 ⟨M, rfl, ho⟩; have HO := hidOf ho; clear ho))
  go_ret2
  exact ⟨HO.out, _, _, _, rfl⟩
set_option maxHeartbeats 2000000 in
theorem valC : ValC := by
  intro N t w hE hne hlen
  have hsz : (⟨t.toArray⟩ : ByteArray).size = t.length := mk_size t
  have CC : Hid (Calls Tryd.prog 47 #[.string ⟨t.toArray⟩, .string ⟨#[48, 120]⟩] w fun e w' => e = .returned (.tuple #[.string ⟨(Lib.trimPrefix t [48, 120]).toArray⟩, .bool (Lib.hasPrefix t [48, 120])]) ∧ w' = w) := Tryd.strings_CutPrefix ⟨t.toArray⟩ ⟨#[48, 120]⟩ w
  unfold Lib.trimPrefix at CC
  rw [pre2] at CC
  unfold valP
  by_cases hx : t.take 2 = [48, 120]
  · rw [if_pos hx]
    rw [decide_eq_true hx, if_pos rfl] at CC
    obtain ⟨d, hd⟩ : ∃ d, d = t.drop 2 := ⟨_, rfl⟩
    have hl2 : 2 ≤ t.length := by have := congrArg List.length hx; rw [List.length_take] at this; simp at this; omega
    have hdl : d.length = t.length - 2 := by rw [hd, List.length_drop]
    rw [show t.drop [(48 : UInt8), 120].length = d from hd.symm] at CC
    rw [← hd]
    clear hd hx
    by_cases h16 : 16 < d.length
    · have h16' : (16 : Int) < d.length := by omega
      rw [if_neg (fun h => by omega)]
      go_enter Tryd.func88, Tryd.ntmps88
      go_wp2_with (go_at_call 47; refine CC.out.mono ?_; rintro e w1 ⟨rfl, hw1⟩; have hw1 := hw1.symm; subst hw1)
      go_ret2
      exact ⟨rfl, Out.refl _⟩
    · have h16' : ¬ (16 : Int) < d.length := by omega
      have hdsz : (⟨d.toArray⟩ : ByteArray).size = d.length := mk_size d
      by_cases h0 : d.length = 0
      · obtain rfl : d = [] := List.length_eq_zero_iff.1 h0
        rw [if_neg (fun h => by simp at hdl; omega)]
        have CP : Hid (Calls Tryd.prog 97 #[.string ⟨#[]⟩, .int .i64 16, .int .i64 64] w fun e w' => PubEnd w none e w') := pub_empty N w hE
        go_enter Tryd.func88, Tryd.ntmps88
        go_wp2_with (first | (go_at_call 47; refine CC.out.mono ?_; rintro e w1 ⟨rfl, hw1⟩; have hw1 := hw1.symm; subst hw1) | (go_at_call 97; refine CP.out.mono ?_; rintro e w2 ⟨ho, x, a, b, rfl⟩; have HO := hidOf ho; clear ho))
        go_ret2
        exact ⟨rfl, HO.out⟩
      · have CP := hidOf (pub16 N ⟨d.toArray⟩ (by rw [hdsz]; exact h0) (by rw [hdsz]; omega) w hE)
        have hdd : (⟨d.toArray⟩ : ByteArray).data.toList = d := rfl
        rw [hdd] at CP
        by_cases ha : d.all hexU = true
        · rw [if_pos ⟨by omega, by omega, ha⟩]
          rw [if_pos ha] at CP
          go_enter Tryd.func88, Tryd.ntmps88
          go_wp2_with (first | (go_at_call 47; refine CC.out.mono ?_; rintro e w1 ⟨rfl, hw1⟩; have hw1 := hw1.symm; subst hw1) | (go_at_call 97; refine CP.out.mono ?_; rintro e w2 ⟨ho, rfl⟩; have HO := hidOf ho; clear ho))
          go_ret2
          exact ⟨rfl, HO.out⟩
        · rw [if_neg (fun h => ha h.2.2)]
          rw [if_neg ha] at CP
          go_enter Tryd.func88, Tryd.ntmps88
          go_wp2_with (first | (go_at_call 47; refine CC.out.mono ?_; rintro e w1 ⟨rfl, hw1⟩; have hw1 := hw1.symm; subst hw1) | (go_at_call 97; refine CP.out.mono ?_; rintro e w2 ⟨ho, x, a, b, rfl⟩; have HO := hidOf ho; clear ho))
          go_ret2
          exact ⟨rfl, HO.out⟩
  · rw [if_neg hx]
    rw [decide_eq_false hx, if_neg (by decide)] at CC
    obtain ⟨c, r, rfl⟩ : ∃ c r, t = c :: r := by cases t with | nil => exact absurd rfl hne | cons c r => exact ⟨c, r, rfl⟩
    have hlt : (0 : Int) < (⟨(c :: r).toArray⟩ : ByteArray).size := by rw [hsz]; simp
    have ix : ∀ h, (⟨(c :: r).toArray⟩ : ByteArray)[0]'h = c := fun h => rfl
    have hie : (⟨(c :: r).toArray⟩ : ByteArray).toList = c :: r := mk_list _
    by_cases hc : c = 48
    · subst hc
      by_cases hr : r = []
      · subst hr
        rw [if_neg (fun h => h.2 rfl)]
        have CP := hidOf (pub10 N [48] (by simp) (by simp) w hE)
        rw [if_pos ⟨by decide, by decide⟩] at CP ⊢
        have e0 : ((decV 0 [48] : Nat) : Int) = 0 := by decide
        rw [e0] at CP ⊢
        go_enter Tryd.func88, Tryd.ntmps88
        go_wp2_with (first | (go_at_call 47; refine CC.out.mono ?_; rintro e w1 ⟨rfl, hw1⟩; have hw1 := hw1.symm; subst hw1) | (go_at_call 97; refine CP.out.mono ?_; rintro e w2 ⟨ho, rfl⟩; have HO := hidOf ho; clear ho))
        go_ret2
        exact ⟨rfl, HO.out⟩
      · rw [if_pos ⟨rfl, fun h => hr (by simpa using h)⟩]
        have hq : r.isEmpty = false := by cases r with | nil => exact absurd rfl hr | cons x y => rfl
        go_enter Tryd.func88, Tryd.ntmps88
        go_wp2_with (go_at_call 47; refine CC.out.mono ?_; rintro e w1 ⟨rfl, hw1⟩; have hw1 := hw1.symm; subst hw1)
        go_ret2
        exact ⟨rfl, Out.refl _⟩
    · rw [if_neg (fun h => hc (by simpa using h.1))]
      have hcn : ((c.toNat : Int) == 48) = false := by
        simp only [beq_eq_false_iff_ne]
        intro h
        exact hc (UInt8.toNat_inj.1 (by show c.toNat = 48; omega))
      have CP := hidOf (pub10 N (c :: r) (by simp) (by omega) w hE)
      by_cases ha : (c :: r).all digU = true ∧ decV 0 (c :: r) ≤ 18446744073709551615
      · rw [if_pos ha] at CP ⊢
        go_enter Tryd.func88, Tryd.ntmps88
        go_wp2_with (first | (go_at_call 47; refine CC.out.mono ?_; rintro e w1 ⟨rfl, hw1⟩; have hw1 := hw1.symm; subst hw1) | (go_at_call 97; refine CP.out.mono ?_; rintro e w2 ⟨ho, rfl⟩; have HO := hidOf ho; clear ho))
        go_ret2
        exact ⟨rfl, HO.out⟩
      · rw [if_neg ha] at CP ⊢
        go_enter Tryd.func88, Tryd.ntmps88
        go_wp2_with (first | (go_at_call 47; refine CC.out.mono ?_; rintro e w1 ⟨rfl, hw1⟩; have hw1 := hw1.symm; subst hw1) | (go_at_call 97; refine CP.out.mono ?_; rintro e w2 ⟨ho, x, a, b, rfl⟩; have HO := hidOf ho; clear ho))
        go_ret2
        exact ⟨rfl, HO.out⟩
end Go.Proofs.YtfhmhdhaibmcfaaDoor
