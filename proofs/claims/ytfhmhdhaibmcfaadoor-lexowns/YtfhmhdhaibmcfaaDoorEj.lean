import Derived.Test.YtfhmhdhaibmcfaaDoorEi
import Derived.Laws.MakeOwn
namespace Go.Proofs.YtfhmhdhaibmcfaaDoor
open Go.RowKit
set_option linter.unusedVariables false
set_option linter.unusedSimpArgs false
/-- what Tokens gives -/
def tokensP (l : List UInt8) : List Tk × Int × Int :=
  if l.length ≤ 16777216 then (if (textD 0 l).1 = 0 then ((textD 0 l).2.2 ++ [⟨0, [], 0, (textD 0 l).2.1⟩], 0, 0) else ([], ((textD 0 l).2.1 : Nat), (textD 0 l).1)) else ([], 0, 50)
theorem textF_len : ∀ (f n : Nat) (l : List UInt8), (textF f n l).2.2.length ≤ 2 * l.length
  | 0, _, _ => by simp [textF]
  | _ + 1, _, [] => by simp [textF]
  | f + 1, n, c :: r => by
    have hc := cutL_len (c :: r) (by simp)
    have hx := lineP_len (cutL (c :: r)).1
    have ih := textF_len f (n + 1) (cutL (c :: r)).2
    unfold textF
    split
    · simp only [List.length_append, List.length_map, List.length_cons, List.length_nil] at hc ⊢
      omega
    · simp
def sn0 (k : Bool) : Sn := ⟨[], 0, 0, 0, k, []⟩
theorem sc_new {N : Nat} {w : World} (hN : N ≤ w.heap.size) (rv tv : Value) (k : Bool) (ho : w.ownsRow N 36 4 tv 0 []) (hne : ∀ g, tv.ownBlock = some g → g < w.heap.size) : Sc N w.heap.size (w.alloc (.cells ((sn0 k).cells rv tv) 65)) rv tv (sn0 k) := by
  refine ⟨hN, heap_alloc_new w _, ?_, fun g hg e => ?_⟩
  · exact owns_chg (S := fun _ => False) ho (fun _ _ h => h) (Chg.of_out ((Out.refl w).alloc _))
  · have := hne g hg; omega
set_option maxHeartbeats 4000000 in
theorem tokens_any (CV : ValC) (CC : CutC) (w : World) (hE : Env w.heap.size w) (a : Option Addr) (cap : Nat) (l : List UInt8) (hr : RestAt w.heap.size w a l) (hcap : l.length ≤ cap) (hll : l.length ≤ 140737488355328) :
    Calls Tryd.prog 15 #[.slice a l.length cap] w fun e w' => ∃ v, e = .returned (.tuple #[v, .int .i64 (tokensP l).2.1, .int .i64 (tokensP l).2.2]) ∧ w'.ownsRow w.heap.size 36 4 v (tokensP l).1.length (tkV (tokensP l).1) ∧ Out w w' := by
  by_cases hl : l.length ≤ 16777216
  · have hlI : (l.length : Int) ≤ 16777216 := by omega
    have hlI' : ¬ (16777216 : Int) < l.length := by omega
    have CL : Hid (∀ wx p tv k, Below w.heap.size w wx → Sc w.heap.size p wx (.slice a l.length cap) tv (sn0 k) → Calls Tryd.prog 30 #[.pointer (some ⟨p, 0, none⟩)] wx fun e w' => TEnd w.heap.size p wx (sn0 k) l e w') := fun wx p tv k hb hs => lines_any CV CC w.heap.size p wx (hE.below hb) a cap tv (sn0 k) l hs (hr.below hb) hcap hl rfl rfl rfl
    have H1 : Hid (Sc w.heap.size w.heap.size (w.alloc (.cells #[.slice a l.length cap, .string ⟨#[]⟩, .int .i64 0, .int .i64 0, .int .i64 0, .bool false, .slice none 0 0] 65)) (.slice a l.length cap) (.slice none 0 0) (sn0 false)) := sc_new (Nat.le_refl _) _ _ false (World.ownsRow_nil _ _ _ _) (fun g hg => by cases hg)
    have B1 : Hid (Below w.heap.size w (w.alloc (.cells #[.slice a l.length cap, .string ⟨#[]⟩, .int .i64 0, .int .i64 0, .int .i64 0, .bool false, .slice none 0 0] 65))) := (Out.refl w).alloc _
    have hlen : (textD 0 l).2.2.length ≤ 2 * l.length := textF_len _ _ _
    have hP : tokensP l = (if (textD 0 l).1 = 0 then ((textD 0 l).2.2 ++ [⟨0, [], 0, (textD 0 l).2.1⟩], (0 : Int), (0 : Int)) else ([], (((textD 0 l).2.1 : Nat) : Int), (textD 0 l).1)) := by unfold tokensP; rw [if_pos hl]
    rw [hP]
    clear hP
    unfold TEnd at CL
    have hz : ∀ k, (sn0 k).num = 0 := fun _ => rfl
    simp only [hz] at CL
    obtain ⟨E, n0, D0, HD⟩ : ∃ E n0 D0, Hid (textD 0 l = (E, n0, D0)) := ⟨_, _, _, hidOf rfl⟩
    rw [HD.out] at CL hlen ⊢
    simp only at CL hlen ⊢
    clear hE hr
    by_cases hx : E = 0
    · subst hx
      rw [if_pos rfl]
      simp only
      obtain ⟨i0, hi, hz0, hz1, hz2⟩ := info_parts infoTk
      go_enter Tryd.func15, Tryd.ntmps15
      go_upto_region 4 with fail
      generalize w.alloc (.cells #[.slice a l.length cap, .string ⟨#[]⟩, .int .i64 0, .int .i64 0, .int .i64 0, .bool false, .slice none 0 0] 65) = w1 at *
      go_upto_region 7 with (go_at_call 30; refine (CL.out w1 _ _ _ B1.out H1.out).mono ?_; rintro e w2 ⟨rfl, q1, q2, q3⟩; obtain ⟨rv2, tv2, s2, q4, q5⟩ := q3 (by first | rfl | trivial); have H2 := hidOf q4; have B2 := hidOf (Below.step B1.out q1); have U2 := hidOf q5; clear q1 q2 q3 q4 q5)
      obtain ⟨cn, hcn⟩ : ∃ cn, cn = s2.cnt := ⟨_, rfl⟩
      have hcD : cn = D0.length + 1 := by rw [hcn, U2.out.cnt]; simp [sn0]
      have d4 : w2.cell? ⟨w.heap.size, 4, none⟩ = some (.int .i64 (cn : Int)) := by rw [hcn]; exact H2.out.cell 4
      obtain ⟨w3, hmk, hown3, hgr3⟩ := run_make_own (P := Tryd.prog) w2 w.heap.size 30 36 i0 _ 4 Tryd.underlying30 hi hz0 hz1 .i64 .i64 cn (by rw [hz2]; omega) (by unfold maxLen; omega) B2.out.size
      have hlt3 := (hown3.lt w2.heap.size rfl).2
      have H3 := hidOf (sc_new (N := w.heap.size) (w := w3) (Nat.le_trans B2.out.size hgr3.size) (.slice a l.length cap) (.slice (some ⟨w2.heap.size, 0, none⟩) 0 cn) true hown3 (fun g hg => by simp [Value.ownBlock] at hg; omega))
      have B3 : Hid (Below w.heap.size w (w3.alloc (.cells ((sn0 true).cells (.slice a l.length cap) (.slice (some ⟨w2.heap.size, 0, none⟩) 0 cn)) 65))) := Below.alloc (Below.of_grown B2.out (Nat.le_refl _) hgr3 (fun k hk => by cases hk)) (Nat.le_trans B2.out.size hgr3.size) _
      clear hown3 hgr3 hlt3 hcD hi hz0 hz1 hz2
      have hcn' := hidOf hcn
      clear hcn
      go_upto_region 8 with fail
      have H3' : Hid (Sc w.heap.size w3.heap.size (w3.alloc (.cells #[.slice a l.length cap, .string ⟨#[]⟩, .int .i64 0, .int .i64 0, .int .i64 0, .bool true, .slice (some ⟨w2.heap.size, 0, none⟩) 0 cn] 65)) (.slice a l.length cap) (.slice (some ⟨w2.heap.size, 0, none⟩) 0 cn) (sn0 true)) := H3
      have B3' : Hid (Below w.heap.size w (w3.alloc (.cells #[.slice a l.length cap, .string ⟨#[]⟩, .int .i64 0, .int .i64 0, .int .i64 0, .bool true, .slice (some ⟨w2.heap.size, 0, none⟩) 0 cn] 65))) := B3
      clear H3 B3 hmk d4 H2 B2 U2 hcn'
      generalize w3.alloc (.cells #[.slice a l.length cap, .string ⟨#[]⟩, .int .i64 0, .int .i64 0, .int .i64 0, .bool true, .slice (some ⟨w2.heap.size, 0, none⟩) 0 cn] 65) = w4 at *
      generalize hg3 : (.slice (some ⟨w2.heap.size, 0, none⟩) 0 cn : Value) = tv4 at H3'
      generalize w3.heap.size = p3 at *
      go_upto_region 9 with (go_at_call 30; refine (CL.out w4 p3 tv4 true B3'.out H3'.out).mono ?_; rintro e w5 ⟨rfl, q1, q2, q3⟩; obtain ⟨rv5, tv5, s5, q4, q5⟩ := q3 (by first | rfl | trivial); have H5 := hidOf q4; have B5 := hidOf (Below.step B3'.out q1); have U5 := hidOf q5; clear q1 q2 q3 q4 q5)
      obtain ⟨ad5, cp5, rfl⟩ : ∃ ad cp, tv5 = .slice ad s5.T.length cp := own_form H5.out.own
      have d6 : w5.cell? ⟨p3, 6, none⟩ = some (.slice ad5 s5.T.length cp5) := H5.out.cell 6
      go_wp2
      go_ret3
      have e1 : s5.T = D0 ++ [⟨0, [], 0, n0⟩] := by rw [U5.out.T]; simp [sn0]
      refine ⟨.slice ad5 s5.T.length cp5, rfl, ?_, B5.out⟩
      rw [← e1]
      exact H5.out.own
    · rw [if_neg hx]
      have hx' : (E == 0) = false := by simpa using hx
      simp only
      go_enter Tryd.func15, Tryd.ntmps15
      go_upto_region 4 with fail
      generalize w.alloc (.cells #[.slice a l.length cap, .string ⟨#[]⟩, .int .i64 0, .int .i64 0, .int .i64 0, .bool false, .slice none 0 0] 65) = w1 at *
      go_upto_region 6 with (go_at_call 30; refine (CL.out w1 _ _ _ B1.out H1.out).mono ?_; rintro e w2 ⟨rfl, q1, q2, q3⟩; have d2 := q2 hx; have B2 := hidOf (Below.step B1.out q1); clear q1 q2 q3)
      go_quiet (fail)
      go_wp2
      go_ret3
      exact ⟨.slice none 0 0, rfl, World.ownsRow_nil _ _ _ _, Below.step B2.out ⟨rfl, rfl, rfl, Nat.le_refl _, fun _ _ => rfl⟩⟩
  · have hlI' : (16777216 : Int) < l.length := by omega
    have hP : tokensP l = ([], 0, 50) := by unfold tokensP; rw [if_neg hl]
    rw [hP]
    go_enter Tryd.func15, Tryd.ntmps15
    go_wp2
    go_ret3
    exact ⟨.slice none 0 0, rfl, World.ownsRow_nil _ _ _ _, Out.refl _⟩
end Go.Proofs.YtfhmhdhaibmcfaaDoor
