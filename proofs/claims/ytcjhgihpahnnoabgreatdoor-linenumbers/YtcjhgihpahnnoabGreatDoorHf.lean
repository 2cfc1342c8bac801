import Derived.Test.YtcjhgihpahnnoabGreatDoorGl
namespace Go.Proofs.YtcjhgihpahnnoabGreatDoor
open Go.RowKit
set_option linter.unusedVariables false
set_option linter.unusedSimpArgs false
/-- a word in hexadecimals -/
def HexOf (x : Int) (s : List UInt8) : Prop := ¬ s = [] ∧ s.all hexU = true ∧ s.length ≤ 16 ∧ hexV 0 s = x
def hxT (s : List UInt8) : List UInt8 := 48 :: 120 :: s
theorem hex_run {b : UInt8} (h : hexU b = true) : runU b = true := by
  have h' : hexP (bI b) = true := h
  show runP (bI b) = true
  simp only [hexP, Bool.or_eq_true, Bool.and_eq_true, decide_eq_true_eq] at h'
  rcases h' with (h' | h') | h'
  · simp [runP, h']
  · have : letP (bI b) = true := by simp [letP]; omega
    simp [runP, this]
  · have : letP (bI b) = true := by simp [letP]; omega
    simp [runP, this]
theorem hx_all {s : List UInt8} (h : s.all hexU = true) : (hxT s).all runU = true := by
  unfold hxT
  rw [List.all_cons, List.all_cons, show runU 48 = true from by decide, show runU 120 = true from by decide, Bool.true_and, Bool.true_and, List.all_eq_true]
  exact fun b hb => hex_run (List.all_eq_true.1 h b hb)
theorem hx_head (s : List UInt8) : headOk (hxT s) = true := by
  unfold hxT headOk
  rfl
theorem hx_val {x : Int} {s : List UInt8} (h : HexOf x s) : valP (hxT s) = (x, false, true) := by
  obtain ⟨h1, h2, h3, h4⟩ := h
  unfold valP
  rw [if_neg (by unfold hxT; simp), if_pos (by unfold hxT; simp [Lib.hasPrefix])]
  have ht : Lib.trimPrefix (hxT s) [48, 120] = s := by unfold hxT; simp [Lib.trimPrefix, Lib.hasPrefix]
  rw [ht, if_neg (by omega)]
  unfold dig16
  rw [if_neg h1, if_pos h2, h4]
theorem hx_at (r : RS) {s : List UInt8} (h : s.all hexU = true) (l : List UInt8) (hl : stopP l = true) : r.at (hxT s ++ l) = { r with rest := l, tok := hxT s } := at_run r (hxT s) l (hx_head s) (hx_all h) hl
theorem hx_num (r : RS) {x : Int} {s : List UInt8} (h : HexOf x s) (half high : Int) : numS false half high (r.at (hxT s)) = { r.at [] with outside := r.outside || decide (high < x) } ∧ ∀ width, numV false width (r.at (hxT s)) = wrap64 (Wo.sgnW width x) := by
  have e := hx_at r h.2.1 [] rfl
  rw [List.append_nil] at e
  rw [e]
  have ev := hx_val h
  constructor
  · unfold numS
    simp only [ev, Bool.not_true, Bool.or_false, Bool.false_or, Bool.false_eq_true, if_false]
    rfl
  · intro width
    unfold numV
    simp only [ev, Bool.false_eq_true, if_false]
theorem hx_skip (r : RS) {s : List UInt8} (h : s.all hexU = true) (c : UInt8) : skipP [c] (r.at (hxT s)) = (r.at (hxT s), false) := by
  refine skip_no r [c] _ ?_
  have e := (tok_run (hxT s) [] (hx_head s) (hx_all h) rfl).1
  rw [List.append_nil] at e
  rw [e]
  unfold hxT
  simp
theorem hx_sgn (r : RS) {s : List UInt8} (h : s.all hexU = true) : sgnS (r.at (hxT s)) = (r.at (hxT s), false) := by
  unfold sgnS
  rw [hx_skip r h 45]
  simp only [Bool.false_eq_true, if_false]
  rw [hx_skip r h 43]
theorem hx_plus (r : RS) {s : List UInt8} (h : s.all hexU = true) : sgnS (r.at (43 :: 32 :: hxT s)) = (r.at (hxT s), false) := by
  unfold sgnS
  rw [skip_no r [45] _ (by rw [(tok_mark 43 _ (by decide) (by decide) (by decide)).1]; decide)]
  simp only [Bool.false_eq_true, if_false]
  rw [skip_at r 43 _ (by decide) (by decide) (by decide), at_blank r 32 _ (.inl rfl)]
def ex64 (x : Int) : Int := if x < 9223372036854775808 then x else x - 18446744073709551616
def ex32 (x : Int) : Int := if x < 2147483648 then x else x - 4294967296
theorem wsgn64 (x : Int) (h0 : 0 ≤ x) (h1 : x < 18446744073709551616) : wrap64 (Wo.sgnW 64 x) = ex64 x := by
  unfold Wo.sgnW Wo.sgnM wrap64 ex64
  rw [show Wo.mW 64 = 18446744073709551616 from rfl, show Wo.hW 64 = 9223372036854775808 from rfl]
  split <;> split <;> omega
theorem wsgn32 (x : Int) (h0 : 0 ≤ x) (h1 : x ≤ 4294967295) : wrap64 (Wo.sgnW 32 x) = ex32 x := by
  unfold Wo.sgnW Wo.sgnM wrap64 ex32
  rw [show Wo.mW 32 = 4294967296 from rfl, show Wo.hW 32 = 2147483648 from rfl]
  split <;> split <;> omega
/-- a mnemonic, r1, and what a second operand reads -/
theorem two_imm (W : List UInt8) (m : Mn) (c : Int) (Y : List UInt8) (i : Int) (out : Bool) (hW : wordOk W m = true) (hT : tOf m.1 m.2.1 m.2.2.1 = (1, c, 0)) (hc : ¬ c = 0) (hI : ∀ r : RS, r.o = m.1 → opS c (r.at Y) = { r.at [] with i := i, outside := r.outside || out }) :
    parseP (W ++ (32 :: (regL 1 ++ (44 :: 32 :: Y)))) = if out then ⟨0, 0, 0, 0, 0, [], 42⟩ else ⟨m.1, 1, m.2.1, m.2.2.1, i, [], 0⟩ := by
  simp only [wordOk, Bool.and_eq_true, beq_iff_eq] at hW
  obtain ⟨⟨h1, h2⟩, h3⟩ := hW
  have hn : newR (W ++ (32 :: (regL 1 ++ (44 :: 32 :: Y)))) = ⟨32 :: (regL 1 ++ (44 :: 32 :: Y)), W, 0, 0, 0, 0, 0, [], false, false⟩ := at_run ⟨[], [], 0, 0, 0, 0, 0, [], false, false⟩ W _ h1 h2 rfl
  have hb2 : behindS m (newR (W ++ (32 :: (regL 1 ++ (44 :: 32 :: Y))))) = ⟨[], [], m.1, 1, m.2.1, m.2.2.1, i, [], false, out⟩ := by
    rw [hn]
    unfold behindS
    rw [hT]
    show opsS (1, c, 0) ((r0Of m).at (32 :: (regL 1 ++ (44 :: 32 :: Y)))) = _
    unfold opsS
    have e : opdL (1, c, 0) ((r0Of m).at (32 :: (regL 1 ++ (44 :: 32 :: Y)))) = ⟨[], [], m.1, 1, m.2.1, m.2.2.1, i, [], false, out⟩ := by
      unfold opdL
      simp only
      rw [if_neg (by decide), if_neg hc, if_pos trivial, at_blank _ 32 _ (.inl rfl)]
      have e1 : opS 1 ((r0Of m).at (regL 1 ++ (44 :: 32 :: Y))) = RS.at { r0Of m with d := 1 } (44 :: 32 :: Y) := by
        show { (regS ((r0Of m).at (regL 1 ++ (44 :: 32 :: Y)))).1 with d := (regS ((r0Of m).at (regL 1 ++ (44 :: 32 :: Y)))).2 } = _
        rw [reg_at (r0Of m) 1 (by decide) _ rfl]
        rfl
      rw [e1, comma_at, hI { r0Of m with d := 1 } rfl]
      cases out <;> rfl
    rw [e]
    rfl
  have hm : meanOf (newR (W ++ (32 :: (regL 1 ++ (44 :: 32 :: Y))))).tok = some m := by rw [hn]; exact h3
  unfold parseP
  rw [hm]
  simp only [hb2, Bool.false_eq_true, if_false]
theorem lddw_hex {x : Int} {s : List UInt8} (h : HexOf x s) (h0 : 0 ≤ x) (h1 : x < 18446744073709551616) : parseP ([108, 100, 100, 119, 32, 114, 49, 44, 32] ++ hxT s) = ⟨24, 1, 0, 0, ex64 x, [], 0⟩ := by
  refine (two_imm [108, 100, 100, 119] (24, 0, 0, 0) 3 (hxT s) (ex64 x) false (by decide +kernel) (by decide +kernel) (by decide) (fun r hr => ?_)).trans rfl
  show immS (r.at (hxT s)) = _
  unfold immS
  rw [show (r.at (hxT s)).o = 24 from hr, if_pos rfl, hx_sgn r h.2.1]
  obtain ⟨e1, e2⟩ := hx_num r h 9223372036854775808 18446744073709551615
  simp only [e1, e2 64]
  rw [wsgn64 x h0 h1, show decide (18446744073709551615 < x) = false from decide_eq_false (by omega)]
theorem lddw_plus {x : Int} {s : List UInt8} (h : HexOf x s) (h0 : 0 ≤ x) (h1 : x < 18446744073709551616) : parseP ([108, 100, 100, 119, 32, 114, 49, 44, 32, 43, 32] ++ hxT s) = ⟨24, 1, 0, 0, ex64 x, [], 0⟩ := by
  refine (two_imm [108, 100, 100, 119] (24, 0, 0, 0) 3 (43 :: 32 :: hxT s) (ex64 x) false (by decide +kernel) (by decide +kernel) (by decide) (fun r hr => ?_)).trans rfl
  show immS (r.at (43 :: 32 :: hxT s)) = _
  unfold immS
  rw [show (r.at (43 :: 32 :: hxT s)).o = 24 from hr, if_pos rfl, hx_plus r h.2.1]
  obtain ⟨e1, e2⟩ := hx_num r h 9223372036854775808 18446744073709551615
  simp only [e1, e2 64]
  rw [wsgn64 x h0 h1, show decide (18446744073709551615 < x) = false from decide_eq_false (by omega)]
theorem mov_hex {x : Int} {s : List UInt8} (h : HexOf x s) (h0 : 0 ≤ x) : parseP ([109, 111, 118, 32, 114, 49, 44, 32] ++ hxT s) = if decide (4294967295 < x) then ⟨0, 0, 0, 0, 0, [], 42⟩ else ⟨183, 1, 0, 0, ex32 x, [], 0⟩ := by
  have e := two_imm [109, 111, 118] (183, 0, 0, 0) 4 (hxT s) (wrap64 (Wo.sgnW 32 x)) (decide (4294967295 < x)) (by decide +kernel) (by decide +kernel) (by decide) (fun r hr => ?_)
  · refine e.trans ?_
    by_cases hx : 4294967295 < x
    · rw [show decide (4294967295 < x) = true from decide_eq_true hx]
      rfl
    · rw [show decide (4294967295 < x) = false from decide_eq_false hx, wsgn32 x h0 (by omega)]
  · show srcS (r.at (hxT s)) = _
    unfold srcS
    have et := (tok_run (hxT s) [] (hx_head s) (hx_all h.2.1) rfl).1
    rw [List.append_nil] at et
    rw [show startP (r.at (hxT s)).tok = false from by show startP (tokP (hxT s)) = false; rw [et]; rfl]
    simp only [Bool.false_eq_true, if_false]
    unfold immS
    rw [show (r.at (hxT s)).o = 183 from hr, if_neg (by decide), hx_sgn r h.2.1]
    obtain ⟨e1, e2⟩ := hx_num r h 2147483648 4294967295
    simp only [e1, e2 32]
theorem may_lddw (i : Int) : mayP 24 1 0 0 i = 0 := by
  have h1 : (formP 24 == 0) = false := by decide +kernel
  have h2 : formP 24 = 10 := by decide +kernel
  have h3 : dstP (useD 24 10) 1 = true := by decide +kernel
  have h4 : srcP 10 (useS 24 10) 0 = true := by decide +kernel
  have h5 : offP 24 10 (useO 24 10) 0 = true := by decide +kernel
  have h6 : immP 24 10 0 (useI 24 10) i = true := rfl
  unfold mayP
  rw [h1]
  simp only [Bool.false_eq_true, if_false]
  unfold fitO fitP
  rw [h2, h3, h4, h5, h6]
  rfl
theorem tfit_lddw (i : Int) : tfitP 24 0 0 i [] = true := by
  have h2 : formP 24 = 10 := by decide +kernel
  unfold tfitP
  rw [h2]
  simp
theorem ex64_rng {x : Int} (h0 : 0 ≤ x) (h1 : x < 18446744073709551616) : -9223372036854775808 ≤ ex64 x ∧ ex64 x < 9223372036854775808 ∧ ex64 x % 18446744073709551616 = x := by
  unfold ex64
  split <;> omega
theorem ex32_rng {x : Int} (h0 : 0 ≤ x) (h1 : x ≤ 4294967295) : -2147483648 ≤ ex32 x ∧ ex32 x < 2147483648 ∧ ex32 x % 4294967296 = x % 4294967296 := by
  unfold ex32
  split <;> omega
/-- one digit more in front -/
theorem hexV_cons (b : UInt8) (s : List UInt8) : ∀ a : Int, hexV a s = a * 16 ^ s.length + hexV 0 s := by
  induction s with
  | nil => intro a; simp [hexV]
  | cons c l ih =>
    intro a
    simp only [hexV, List.length_cons]
    rw [ih (a * 16 + hexD (bI c)), ih (0 * 16 + hexD (bI c)), Int.pow_succ]
    rw [Int.add_mul, Int.mul_assoc, Int.mul_comm 16, Int.zero_mul, Int.zero_add]
    omega
end Go.Proofs.YtcjhgihpahnnoabGreatDoor
