import Derived.Test.YtfhmhdhaibmcfaaDoorEl
namespace Go.Proofs.YtfhmhdhaibmcfaaDoor
open Go.RowKit
set_option linter.unusedVariables false
set_option linter.unusedSimpArgs false
theorem decV_ge : ∀ (l : List UInt8) (a : Nat), a ≤ decV a l
  | [], a => Nat.le_refl a
  | b :: l, a => Nat.le_trans (by omega) (decV_ge l (a * 10 + (b.toNat - 48)))
theorem digU_iff (b : UInt8) : digU b = true ↔ 48 ≤ b.toNat ∧ b.toNat ≤ 57 := by
  unfold digU digP bI
  simp only [Bool.and_eq_true, decide_eq_true_eq]
  omega
theorem pM_dec (M : Nat) (hM : M = 18446744073709551615) (l : List UInt8) : ∀ (a : Nat), a ≤ M → l.all digU = true → Lib.parseUintM M a l = if decV a l ≤ M then .ok (decV a l) else .range := by
  induction l with
  | nil =>
    intro a ha _
    have hd : decV a [] = a := rfl
    have hp : Lib.parseUintM M a [] = .ok a := rfl
    rw [hd, hp, if_pos ha]
  | cons b l ih =>
    intro a ha hl
    simp only [List.all_cons, Bool.and_eq_true] at hl
    have hb := (digU_iff b).1 hl.1
    have hge := decV_ge l (a * 10 + (b.toNat - 48))
    have hd : decV a (b :: l) = decV (a * 10 + (b.toNat - 48)) l := rfl
    rw [hd]
    simp only [Lib.parseUintM]
    rw [if_pos hb]
    by_cases h1 : 1844674407370955162 ≤ a
    · rw [if_pos h1, if_neg (by omega)]
    · rw [if_neg h1]
      by_cases h2 : M < a * 10 + (b.toNat - 48)
      · rw [if_pos h2, if_neg (by omega)]
      · rw [if_neg h2]
        exact ih _ (by omega) hl.2
theorem pM_bad (M : Nat) (l : List UInt8) : ∀ a : Nat, l.all digU = false → Lib.parseUintM M a l = .syntax ∨ Lib.parseUintM M a l = .range := by
  induction l with
  | nil => intro a h; simp at h
  | cons b l ih =>
    intro a h
    simp only [Lib.parseUintM]
    by_cases hb : 48 ≤ b.toNat ∧ b.toNat ≤ 57
    · rw [if_pos hb]
      have hl : l.all digU = false := by
        rw [List.all_cons, (digU_iff b).2 hb] at h
        simpa using h
      by_cases h1 : 1844674407370955162 ≤ a
      · rw [if_pos h1]; exact .inr rfl
      · rw [if_neg h1]
        by_cases h2 : M < a * 10 + (b.toNat - 48)
        · rw [if_pos h2]; exact .inr rfl
        · rw [if_neg h2]; exact ih _ hl
    · rw [if_neg hb]; exact .inl rfl
theorem pB_dec (l : List UInt8) (hne : ¬ l = []) (hl : l.all digU = true) : Lib.parseUintB 64 l = if decV 0 l ≤ 18446744073709551615 then .ok (decV 0 l) else .range := by
  unfold Lib.parseUintB
  rw [if_neg hne]
  exact pM_dec _ (by decide) l 0 (by omega) hl
theorem pB_bad (l : List UInt8) (hl : l.all digU = false) : Lib.parseUintB 64 l = .syntax ∨ Lib.parseUintB 64 l = .range := by
  unfold Lib.parseUintB
  split
  · exact .inl rfl
  · exact pM_bad _ l 0 hl
/-- what a public ParseUint gives: a number, or an error that is one -/
def PubEnd (w : World) (r : Option Int) (e : Ending) (w' : World) : Prop := Out w w' ∧ (match r with | some n => e = .returned (.tuple #[.int .u64 n, .nilIface]) | none => ∃ x a b, e = .returned (.tuple #[.int .u64 x, .iface a (.pointer (some ⟨b, 0, none⟩))]))
theorem bw_out (w : World) (t : TypeId) (s : ByteArray) : Out w (Lib.bytesWorld w t s) := Lib.bytesWorld_below _ _ _
set_option maxHeartbeats 1000000 in
theorem pub16 (N : Nat) (t : ByteArray) (hne : t.size ≠ 0) (h16 : t.size ≤ 16) (w : World) (hE : Env N w) :
    Calls Tryd.prog 97 #[.string t, .int .i64 16, .int .i64 64] w fun e w' => PubEnd w (if t.data.toList.all hexU = true then some (hexV 0 t.data.toList) else none) e w' := by
  have CP := hidOf (parse16 t hne h16 w)
  have HB := hidOf (bw_out w 5 t)
  generalize Lib.bytesWorld w 5 t = w1 at *
  unfold val16 at CP
  by_cases ha : t.data.toList.all hexU = true
  · rw [if_pos ha] at CP ⊢
    go_enter Tryd.func97, Tryd.ntmps97
    go_wp2_with (go_at_call 100; refine CP.out.mono ?_; rintro e wx ⟨rfl, hwx⟩; subst hwx)
    go_ret2
    exact ⟨HB.out, rfl⟩
  · rw [if_neg ha] at CP ⊢
    obtain ⟨ev, hv, hev⟩ := hE.es
    have CT : Hid (Calls Tryd.prog 101 #[.string ⟨#[80, 97, 114, 115, 101, 85, 105, 110, 116]⟩, .string t, .int .i64 16, .int .i64 64, .iface 136 (.int .i64 2)] w1 fun e w' => ∃ N, e = .returned (.iface 138 (.pointer (some ⟨N, 0, none⟩))) ∧ Out w1 w') := (Tryd.strconv_toError_syntax _ t 16 64 ev w1 (by omega) (cell_later HB.out hv) hev).mono fun e w' ⟨M, h1, _, _, h4⟩ => ⟨M, h1, h4⟩
    clear hv hev
    go_enter Tryd.func97, Tryd.ntmps97
    go_wp2_with (first | (go_at_call 100; refine CP.out.mono ?_; rintro e wx ⟨rfl, hwx⟩; subst hwx) | (go_at_call 101; refine CT.out.mono ?_; rintro e w2 ⟨M, rfl, ho⟩; have HO := hidOf ho; clear ho))
    go_ret2
    exact ⟨Out.trans HB.out HO.out, _, _, _, rfl⟩
theorem pub10 (N : Nat) (l : List UInt8) (hne : ¬ l = []) (hl : l.length ≤ 281474976710656) (w : World) (hE : Env N w) :
    Calls Tryd.prog 97 #[.string ⟨l.toArray⟩, .int .i64 10, .int .i64 64] w fun e w' => PubEnd w (if l.all digU = true ∧ decV 0 l ≤ 18446744073709551615 then some ((decV 0 l : Nat) : Int) else none) e w' := by
  have hsz : (⟨l.toArray⟩ : ByteArray).size ≤ 281474976710656 := by rw [mk_size]; exact hl
  have hrange : Lib.parseUintB 64 l = .range → Calls Tryd.prog 97 #[.string ⟨l.toArray⟩, .int .i64 10, .int .i64 64] w fun e w' => PubEnd w none e w' := fun h => by
    obtain ⟨ev, hv, hev⟩ := hE.er
    exact (Tryd.strconv_ParseUint_10_at64_range ⟨l.toArray⟩ hsz h ev w hv hev).mono fun e w' ⟨M, h1, _, _, h4⟩ => ⟨h4, _, _, _, h1⟩
  have hsyn : Lib.parseUintB 64 l = .syntax → Calls Tryd.prog 97 #[.string ⟨l.toArray⟩, .int .i64 10, .int .i64 64] w fun e w' => PubEnd w none e w' := fun h => by
    obtain ⟨ev, hv, hev⟩ := hE.es
    exact (Tryd.strconv_ParseUint_10_at64_syntax ⟨l.toArray⟩ hsz h ev w hv hev).mono fun e w' ⟨M, h1, _, _, h4⟩ => ⟨h4, _, _, _, h1⟩
  cases ha : l.all digU
  · rw [if_neg (by simp)]
    rcases pB_bad l ha with h | h
    · exact hsyn h
    · exact hrange h
  · have hp := pB_dec l hne ha
    by_cases hd : decV 0 l ≤ 18446744073709551615
    · rw [if_pos ⟨rfl, hd⟩]
      rw [if_pos hd] at hp
      refine (Tryd.strconv_ParseUint_10_at64_ok ⟨l.toArray⟩ (by omega) _ hp w).mono ?_
      rintro e w' ⟨rfl, h | h⟩
      · subst h; exact ⟨Out.refl _, rfl⟩
      · subst h; exact ⟨bw_out w _ _, rfl⟩
    · rw [if_neg (fun h => hd h.2)]
      rw [if_neg hd] at hp
      exact hrange hp
end Go.Proofs.YtfhmhdhaibmcfaaDoor
