import Derived.Test.YtfhmhdhaibmcfaaDoorEa
namespace Go.Proofs.YtfhmhdhaibmcfaaDoor
open Go.RowKit
set_option linter.unusedVariables false
set_option linter.unusedSimpArgs false
def runN (l : List UInt8) : Nat := (l.takeWhile runU).length
theorem runN_le (l : List UInt8) : runN l ≤ l.length := (List.takeWhile_sublist _).length_le
theorem tw_len {α : Type} (p : α → Bool) : ∀ (l : List α) (k : Nat), (l.take k).all p = true → k ≤ l.length → (k = l.length ∨ ∃ b, l[k]? = some b ∧ p b = false) → (l.takeWhile p).length = k
  | [], k, _, h, _ => by simp at h; simp [h]
  | x :: r, 0, _, _, h => by
    rcases h with h | ⟨b, hb, hp⟩
    · simp at h
    · simp at hb; subst hb; simp [List.takeWhile, hp]
  | x :: r, k + 1, ha, hk, h => by
    simp only [List.take_succ_cons, List.all_cons, Bool.and_eq_true] at ha
    simp only [List.takeWhile, ha.1, List.length_cons]
    rw [tw_len p r k ha.2 (by simpa using hk) (by simpa using h)]
theorem all_step {α : Type} (p : α → Bool) (l : List α) (k : Nat) (b : α) (h : (l.take k).all p = true) (hb : l[k]? = some b) (hp : p b = true) : (l.take (k + 1)).all p = true := by
  rw [List.take_add_one, List.all_append, h, hb]; simp [hp]
theorem inRun_of {c : Int} {b : Bool} (h : runP c = b) (w : World) : Calls Tryd.prog 72 #[.int .u8 c] w fun e w' => e = .returned (.bool b) ∧ w = w' := h ▸ inRun_any c w
theorem runSize_any (s : ByteArray) (w : World) (hs : s.size ≤ 4611686018427387904) : Calls Tryd.prog 60 #[.string s] w fun e w' => e = .returned (.int .i64 (runN s.toList : Nat)) ∧ w = w' := by
  have HN : Hid (∀ k, (s.toList.take k).all runU = true → k ≤ s.size → (k = s.size ∨ ∃ b, s.toList[k]? = some b ∧ runU b = false) → runN s.toList = k) := fun k ha hk hs => tw_len _ _ k ha (by rw [lsize]; exact hk) (by rw [lsize]; exact hs)
  go_enter Tryd.func60, Tryd.ntmps60
  go_wp2
  go_loopw [6] (fun nv wr => ∃ k : Nat, k ≤ s.size ∧ nv = .int .i64 k ∧ Hid ((s.toList.take k).all runU = true) ∧ wr = w) (fun nv _ => s.size - (intOf nv).toNat)
  case atStart => exact ⟨0, by omega, rfl, hidOf (by simp), rfl⟩
  case round =>
    obtain ⟨k, hk2, rfl, Ha, rfl⟩ := hrel
    by_cases hk : k < s.size
    · have hlt : (k : Int) < s.size := by omega
      have h0k : (0 : Int) ≤ k := by omega
      have Hg := hidOf (lget s k hk)
      cases hr : runP (bI s[k])
      · have Hfin := hidOf (HN.out k Ha.out hk2 (.inr ⟨_, Hg.out, hr⟩))
        go_wp2_with (go_at_call 72; refine (inRun_of hr _).mono ?_; rintro e w3 ⟨rfl, rfl⟩)
        go_ret
        exact ⟨by rw [Hfin.out]; rfl, rfl⟩
      · have Ha' := hidOf (all_step runU _ k _ Ha.out Hg.out hr)
        go_wp2_with (go_at_call 72; refine (inRun_of hr _).mono ?_; rintro e w3 ⟨rfl, rfl⟩)
        go_roundw
        case rel => exact ⟨k + 1, by omega, by simp, Ha', trivial⟩
        case measure => simp [intOf]; omega
    · have hlt : ¬ (k : Int) < s.size := by omega
      have hks : k = s.size := by omega
      have Hfin := hidOf (HN.out k Ha.out hk2 (.inl (by omega)))
      go_wp2
      go_ret
      exact ⟨by rw [Hfin.out, hks]; rfl, rfl⟩
def startP (l : List UInt8) : Bool := match l with | [] => false | c :: _ => kindP (bI c) == 3
def wordP (l : List UInt8) : Bool := decide (l.length ≤ 64) && startP l && l.all runU
theorem isEmpty_of {s : ByteArray} (h : ¬ s.size = 0) : s.toList.isEmpty = false ∧ ¬ s.toList = [] := by
  have hne : ¬ s.toList = [] := fun h' => by have := lsize s; rw [h'] at this; simp at this; omega
  exact ⟨by cases hl : s.toList with | nil => exact absurd hl hne | cons x r => rfl, hne⟩
theorem head_of {s : ByteArray} (h : 0 < s.size) : ∃ r, s.toList = s[0] :: r := by
  have hb := lget s 0 h
  cases hl : s.toList with
  | nil => rw [hl] at hb; simp at hb
  | cons x r => rw [hl] at hb; simp at hb; exact ⟨r, by rw [hb]⟩
theorem startsWord_any (s : ByteArray) (w : World) : Calls Tryd.prog 59 #[.string s] w fun e w' => e = .returned (.bool (startP s.toList)) ∧ w = w' := by
  by_cases h0 : s.size = 0
  · have hl : s.toList = [] := List.length_eq_zero_iff.1 (by rw [lsize, h0])
    have hN : startP s.toList = false := by rw [hl]; rfl
    rw [hN]
    go_enter Tryd.func59, Tryd.ntmps59
    go_wp2
    go_ret
    exact ⟨rfl, rfl⟩
  · have h0' : (0 : Int) < s.size := by omega
    obtain ⟨hie, hne⟩ := isEmpty_of h0
    obtain ⟨r, hr⟩ := head_of (s := s) (by omega)
    have hN : startP s.toList = (kindP (bI s[0]) == 3) := by rw [hr]; rfl
    rw [hN]
    generalize hk : kindP (bI s[0]) = k
    clear hN hr
    go_enter Tryd.func59, Tryd.ntmps59
    go_wp2_with (go_at_call 62; refine (kind_of hk _).mono ?_; rintro e w1 ⟨rfl, rfl⟩)
    go_ret
    exact ⟨rfl, rfl⟩
theorem tw_all {α : Type} (p : α → Bool) : ∀ l : List α, ((l.takeWhile p).length = l.length) ↔ (l.all p = true)
  | [] => by simp
  | x :: l => by
    have ih := tw_all p l
    cases hp : p x
    · simp [List.takeWhile, hp]
    · simp only [List.takeWhile, hp, List.length_cons, List.all_cons, Bool.true_and, ← ih]; omega
theorem isWord_any (s : ByteArray) (w : World) (hs : s.size ≤ 4611686018427387904) : Calls Tryd.prog 46 #[.string s] w fun e w' => e = .returned (.bool (wordP s.toList)) ∧ w = w' := by
  have hl := lsize s
  by_cases h64 : s.size ≤ 64
  · have h64' : (s.size : Int) ≤ 64 := by omega
    cases h1 : startP s.toList
    · have hN : wordP s.toList = false := by simp [wordP, h1]
      rw [hN]
      clear hN
      go_enter Tryd.func46, Tryd.ntmps46
      go_wp2_with (go_at_call 59; refine (startsWord_any _ _).mono ?_; rw [h1]; rintro e w1 ⟨rfl, rfl⟩)
      go_ret
      exact ⟨rfl, rfl⟩
    · have hN : wordP s.toList = (runN s.toList == s.size) := by
        have h2 := tw_all runU s.toList
        rw [hl] at h2
        rw [Bool.eq_iff_iff, beq_iff_eq, runN, h2]
        simp [wordP, h1, hl, h64]
      rw [hN]
      clear hN
      go_enter Tryd.func46, Tryd.ntmps46
      go_wp2_with (first | (go_at_call 59; refine (startsWord_any _ _).mono ?_; rw [h1]; rintro e w1 ⟨rfl, rfl⟩) | (go_at_call 60; refine (runSize_any _ _ hs).mono ?_; rintro e w2 ⟨rfl, rfl⟩))
      go_ret
      refine ret_bool ?_
      rw [Bool.eq_iff_iff]; simp; omega
  · have h64' : ¬ (s.size : Int) ≤ 64 := by omega
    have hN : wordP s.toList = false := by simp [wordP, hl, h64]
    rw [hN]
    clear hN
    go_enter Tryd.func46, Tryd.ntmps46
    go_wp2
    go_ret
    exact ⟨rfl, rfl⟩
/-- one of the six marks, alone -/
def markB (l : List UInt8) : Bool := match l with | [c] => kindP (bI c) == 7 | _ => false
theorem isMark_any (s : ByteArray) (w : World) : Calls Tryd.prog 48 #[.string s] w fun e w' => e = .returned (.bool (markB s.toList)) ∧ w = w' := by
  have hl := lsize s
  by_cases h1 : s.size = 1
  · have h1' : ((s.size : Int) == 1) = true := by simp; omega
    have hlt : (0 : Int) < s.size := by omega
    obtain ⟨r, hr⟩ := head_of (s := s) (by omega)
    have hr0 : r = [] := by rw [hr] at hl; simp at hl; exact List.length_eq_zero_iff.1 (by omega)
    have hN : markB s.toList = (kindP (bI s[0]) == 7) := by rw [hr, hr0]; rfl
    rw [hN]
    generalize hk : kindP (bI s[0]) = k
    clear hN hr hl hr0
    go_enter Tryd.func48, Tryd.ntmps48
    go_wp2_with (go_at_call 62; refine (kind_of hk _).mono ?_; rintro e w1 ⟨rfl, rfl⟩)
    go_ret
    exact ⟨rfl, rfl⟩
  · have h1' : ((s.size : Int) == 1) = false := by simp; omega
    have hN : markB s.toList = false := by
      unfold markB
      split
      · rename_i c hc; rw [hc] at hl; simp at hl; omega
      · rfl
    rw [hN]
    clear hN
    go_enter Tryd.func48, Tryd.ntmps48
    go_wp2
    go_ret
    exact ⟨rfl, rfl⟩
end Go.Proofs.YtfhmhdhaibmcfaaDoor
