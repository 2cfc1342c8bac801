import Derived.Test.YtkihaohdcgjioaaGreatDoorGp07
import Derived.Laws.MakeOwn
import Derived.Test.YtkihaohdcgjioaaGreatDoorGp01
import Derived.Lib.AppendIntMem
import Derived.Lib.ItoaNum
namespace Go.Proofs.YtkihaohdcgjioaaGreatDoor.Lx
open Go.RowKit
set_option linter.unusedVariables false
set_option linter.unusedSimpArgs false
/-- what Tokens gives -/
def tokensP (l : List UInt8) : List Tk × Int × Int :=
  if l.length ≤ 16777216 then (if (textD 0 l).1 = 0 then ((textD 0 l).2.2 ++ [⟨0, [], 0, (textD 0 l).2.1⟩], 0, 0) else ([], ((textD 0 l).2.1 : Nat), (textD 0 l).1)) else ([], 0, 50)
theorem textF_len : ∀ (f n : Nat) (l : List UInt8), (textF f n l).2.2.length ≤ 2 * l.length
  | 0, _, _ => by simp [textF]
  | _ + 1, _, [] => by simp [textF]
  | f + 1, n, c :: r => by
    have hc := cutL_len (c :: r) (by simp)
    have hx := lineP_len (cutL (c :: r)).1
    have ih := textF_len f (n + 1) (cutL (c :: r)).2
    unfold textF
    split
    · simp only [List.length_append, List.length_map, List.length_cons, List.length_nil] at hc ⊢
      omega
    · simp
def sn0 (k : Bool) : Sn := ⟨[], 0, 0, 0, k, []⟩
theorem sc_new {N : Nat} {w : World} (hN : N ≤ w.heap.size) (rv tv : Value) (k : Bool) (ho : w.ownsRow N 117 4 tv 0 []) (hne : ∀ g, tv.ownBlock = some g → g < w.heap.size) : Sc N w.heap.size (w.alloc (.cells ((sn0 k).cells rv tv) 88)) rv tv (sn0 k) := by
  refine ⟨hN, heap_alloc_new w _, ?_, fun g hg e => ?_⟩
  · exact owns_chg (S := fun _ => False) ho (fun _ _ h => h) (Chg.of_out ((Out.refl w).alloc _))
  · have := hne g hg; omega
set_option maxHeartbeats 4000000 in
theorem tokens_any (CV : ValC) (CC : CutC) (w : World) (hE : Env w.heap.size w) (a : Option Addr) (cap : Nat) (l : List UInt8) (hr : RestAt w.heap.size w a l) (hcap : l.length ≤ cap) (hll : l.length ≤ 140737488355328) :
    Calls Tryz.prog 18 #[.slice a l.length cap] w fun e w' => ∃ v, e = .returned (.tuple #[v, .int .i64 (tokensP l).2.1, .int .i64 (tokensP l).2.2]) ∧ w'.ownsRow w.heap.size 117 4 v (tokensP l).1.length (tkV (tokensP l).1) ∧ Out w w' := by
  by_cases hl : l.length ≤ 16777216
  · have hlI : (l.length : Int) ≤ 16777216 := by omega
    have hlI' : ¬ (16777216 : Int) < l.length := by omega
    have CL : Hid (∀ wx p tv k, Below w.heap.size w wx → Sc w.heap.size p wx (.slice a l.length cap) tv (sn0 k) → Calls Tryz.prog 37 #[.pointer (some ⟨p, 0, none⟩)] wx fun e w' => TEnd w.heap.size p wx (sn0 k) l e w') := fun wx p tv k hb hs => lines_any CV CC w.heap.size p wx (hE.below hb) a cap tv (sn0 k) l hs (hr.below hb) hcap hl rfl rfl rfl
    have H1 : Hid (Sc w.heap.size w.heap.size (w.alloc (.cells #[.slice a l.length cap, .string ⟨#[]⟩, .int .i64 0, .int .i64 0, .int .i64 0, .bool false, .slice none 0 0] 88)) (.slice a l.length cap) (.slice none 0 0) (sn0 false)) := sc_new (Nat.le_refl _) _ _ false (World.ownsRow_nil _ _ _ _) (fun g hg => by cases hg)
    have B1 : Hid (Below w.heap.size w (w.alloc (.cells #[.slice a l.length cap, .string ⟨#[]⟩, .int .i64 0, .int .i64 0, .int .i64 0, .bool false, .slice none 0 0] 88))) := (Out.refl w).alloc _
    have hlen : (textD 0 l).2.2.length ≤ 2 * l.length := textF_len _ _ _
    have hP : tokensP l = (if (textD 0 l).1 = 0 then ((textD 0 l).2.2 ++ [⟨0, [], 0, (textD 0 l).2.1⟩], (0 : Int), (0 : Int)) else ([], (((textD 0 l).2.1 : Nat) : Int), (textD 0 l).1)) := by unfold tokensP; rw [if_pos hl]
    rw [hP]
    clear hP
    unfold TEnd at CL
    have hz : ∀ k, (sn0 k).num = 0 := fun _ => rfl
    simp only [hz] at CL
    obtain ⟨E, n0, D0, HD⟩ : ∃ E n0 D0, Hid (textD 0 l = (E, n0, D0)) := ⟨_, _, _, hidOf rfl⟩
    rw [HD.out] at CL hlen ⊢
    simp only at CL hlen ⊢
    clear hE hr
    by_cases hx : E = 0
    · subst hx
      rw [if_pos rfl]
      simp only
      obtain ⟨i0, hi, hz0, hz1, hz2⟩ := info_parts infoTk
      go_enter Tryz.func18, Tryz.ntmps18
      go_upto_region 4 with fail
      generalize w.alloc (.cells #[.slice a l.length cap, .string ⟨#[]⟩, .int .i64 0, .int .i64 0, .int .i64 0, .bool false, .slice none 0 0] 88) = w1 at *
      go_upto_region 7 with (go_at_call 37; refine (CL.out w1 _ _ _ B1.out H1.out).mono ?_; rintro e w2 ⟨rfl, q1, q2, q3⟩; obtain ⟨rv2, tv2, s2, q4, q5⟩ := q3 (by first | rfl | trivial); have H2 := hidOf q4; have B2 := hidOf (Below.step B1.out q1); have U2 := hidOf q5; clear q1 q2 q3 q4 q5)
      obtain ⟨cn, hcn⟩ : ∃ cn, cn = s2.cnt := ⟨_, rfl⟩
      have hcD : cn = D0.length + 1 := by rw [hcn, U2.out.cnt]; simp [sn0]
      have d4 : w2.cell? ⟨w.heap.size, 4, none⟩ = some (.int .i64 (cn : Int)) := by rw [hcn]; exact H2.out.cell 4
      obtain ⟨w3, hmk, hown3, hgr3⟩ := run_make_own (P := Tryz.prog) w2 w.heap.size 65 117 i0 _ 4 Tryz.underlying65 hi hz0 hz1 .i64 .i64 cn (by rw [hz2]; omega) (by unfold maxLen; omega) B2.out.size
      have hlt3 := (hown3.lt w2.heap.size rfl).2
      have H3 := hidOf (sc_new (N := w.heap.size) (w := w3) (Nat.le_trans B2.out.size hgr3.size) (.slice a l.length cap) (.slice (some ⟨w2.heap.size, 0, none⟩) 0 cn) true hown3 (fun g hg => by simp [Value.ownBlock] at hg; omega))
      have B3 : Hid (Below w.heap.size w (w3.alloc (.cells ((sn0 true).cells (.slice a l.length cap) (.slice (some ⟨w2.heap.size, 0, none⟩) 0 cn)) 88))) := Below.alloc (Below.of_grown B2.out (Nat.le_refl _) hgr3 (fun k hk => by cases hk)) (Nat.le_trans B2.out.size hgr3.size) _
      clear hown3 hgr3 hlt3 hcD hi hz0 hz1 hz2
      have hcn' := hidOf hcn
      clear hcn
      go_upto_region 8 with fail
      have H3' : Hid (Sc w.heap.size w3.heap.size (w3.alloc (.cells #[.slice a l.length cap, .string ⟨#[]⟩, .int .i64 0, .int .i64 0, .int .i64 0, .bool true, .slice (some ⟨w2.heap.size, 0, none⟩) 0 cn] 88)) (.slice a l.length cap) (.slice (some ⟨w2.heap.size, 0, none⟩) 0 cn) (sn0 true)) := H3
      have B3' : Hid (Below w.heap.size w (w3.alloc (.cells #[.slice a l.length cap, .string ⟨#[]⟩, .int .i64 0, .int .i64 0, .int .i64 0, .bool true, .slice (some ⟨w2.heap.size, 0, none⟩) 0 cn] 88))) := B3
      clear H3 B3 hmk d4 H2 B2 U2 hcn'
      generalize w3.alloc (.cells #[.slice a l.length cap, .string ⟨#[]⟩, .int .i64 0, .int .i64 0, .int .i64 0, .bool true, .slice (some ⟨w2.heap.size, 0, none⟩) 0 cn] 88) = w4 at *
      generalize hg3 : (.slice (some ⟨w2.heap.size, 0, none⟩) 0 cn : Value) = tv4 at H3'
      generalize w3.heap.size = p3 at *
      go_upto_region 9 with (go_at_call 37; refine (CL.out w4 p3 tv4 true B3'.out H3'.out).mono ?_; rintro e w5 ⟨rfl, q1, q2, q3⟩; obtain ⟨rv5, tv5, s5, q4, q5⟩ := q3 (by first | rfl | trivial); have H5 := hidOf q4; have B5 := hidOf (Below.step B3'.out q1); have U5 := hidOf q5; clear q1 q2 q3 q4 q5)
      obtain ⟨ad5, cp5, rfl⟩ : ∃ ad cp, tv5 = .slice ad s5.T.length cp := own_form H5.out.own
      have d6 : w5.cell? ⟨p3, 6, none⟩ = some (.slice ad5 s5.T.length cp5) := H5.out.cell 6
      go_wp2
      go_ret3
      have e1 : s5.T = D0 ++ [⟨0, [], 0, n0⟩] := by rw [U5.out.T]; simp [sn0]
      refine ⟨.slice ad5 s5.T.length cp5, rfl, ?_, B5.out⟩
      rw [← e1]
      exact H5.out.own
    · rw [if_neg hx]
      have hx' : (E == 0) = false := by simpa using hx
      simp only
      go_enter Tryz.func18, Tryz.ntmps18
      go_upto_region 4 with fail
      generalize w.alloc (.cells #[.slice a l.length cap, .string ⟨#[]⟩, .int .i64 0, .int .i64 0, .int .i64 0, .bool false, .slice none 0 0] 88) = w1 at *
      go_upto_region 6 with (go_at_call 37; refine (CL.out w1 _ _ _ B1.out H1.out).mono ?_; rintro e w2 ⟨rfl, q1, q2, q3⟩; have d2 := q2 hx; have B2 := hidOf (Below.step B1.out q1); clear q1 q2 q3)
      go_quiet (fail)
      go_wp2
      go_ret3
      exact ⟨.slice none 0 0, rfl, World.ownsRow_nil _ _ _ _, Below.step B2.out ⟨rfl, rfl, rfl, Nat.le_refl _, fun _ _ => rfl⟩⟩
  · have hlI' : (16777216 : Int) < l.length := by omega
    have hP : tokensP l = ([], 0, 50) := by unfold tokensP; rw [if_neg hl]
    rw [hP]
    go_enter Tryz.func18, Tryz.ntmps18
    go_wp2
    go_ret3
    exact ⟨.slice none 0 0, rfl, World.ownsRow_nil _ _ _ _, Out.refl _⟩
end Go.Proofs.YtkihaohdcgjioaaGreatDoor.Lx
namespace Go.Proofs.YtkihaohdcgjioaaGreatDoor.Lx
open Go.RowKit
set_option linter.unusedVariables false
set_option linter.unusedSimpArgs false
theorem bldSize : (Tryz.prog.info? 77).map (·.size) = some 2 := Tryz.Builder_Extra_169.sizeBuilder
theorem wrtLies : liesAt Tryz.prog Tryz.prog.depth 177 (4 / Tryz.prog.cellsOf 177) 0 77 1 = true := by kernel_rfl
set_option maxRecDepth 100000 in
set_option maxHeartbeats 1000000 in
theorem chk_used (b : Nat) (w : World) (h0 : w.cell? ⟨b, 0, none⟩ = some (.pointer (some ⟨b, 0, none⟩))) : Calls Tryz.prog 89 #[.pointer (some ⟨b, 0, none⟩)] w fun e w' => e = .returned (.tuple #[]) ∧ w' = w := by
  obtain ⟨j, hj, _⟩ := Option.map_eq_some_iff.1 bldSize
  go_enter Tryz.func89, Tryz.ntmps89
  go_wp2
  rw [Lib.run_neq_ptr_same w _ Tryz.underlying75 hj]
  go_wp2
  go_end0
  exact ⟨rfl, rfl⟩
set_option maxRecDepth 100000 in
set_option maxHeartbeats 1000000 in
theorem chk_new (b : Nat) (w : World) (h0 : w.cell? ⟨b, 0, none⟩ = some (.pointer none)) (hs : w.shape? b = some (177, 4)) (hf : w.frozen? ⟨b, 0, none⟩ = false) : Calls Tryz.prog 89 #[.pointer (some ⟨b, 0, none⟩)] w fun e w' => e = .returned (.tuple #[]) ∧ w' = w.setCell ⟨b, 0, none⟩ (.pointer (some ⟨b, 0, none⟩)) := by
  obtain ⟨j, hj, hj2⟩ := Option.map_eq_some_iff.1 bldSize
  go_enter Tryz.func89, Tryz.ntmps89
  go_wp2
  rw [Lib.run_to_unsafe w ⟨b, 0, none⟩ Tryz.underlying75 Tryz.underlying181 hj (by rw [hj2]; decide) hs (Nat.zero_lt_succ 3)]
  simp only [Result.andThen]
  rw [Oper.upon_value]
  go_wp2
  rw [run_callFunc_extern Tryz.func133 (by kernel_rfl) (by kernel_rfl) (by kernel_rfl) (e := Extern.AbiNoEscape.same) (by kernel_rfl), Lib.run_noEscape]
  simp only [Result.andThen]
  rw [Oper.upon_value]
  go_wp2
  rw [Lib.run_from_unsafe w ⟨b, 0, none⟩ Tryz.underlying181 Tryz.underlying75 hj hs wrtLies]
  simp only [Result.andThen]
  rw [Oper.upon_value]
  go_wp2
  go_end0
  exact ⟨rfl, rfl⟩
/-- the writer's block: its builder, how much was to be written, how much on the line -/
structure Wr (N p : Nat) (w : World) (l : List UInt8) (size line : Nat) (ad bv : Value) : Prop where
  le : N ≤ p
  at_ : w.heap[p]? = some (.cells #[ad, bv, .int .i64 size, .int .i64 line] 177 (0, 0))
  ad_ : ad = .pointer none ∨ ad = .pointer (some ⟨p, 0, none⟩)
  own : w.ownsRow N 5 1 bv l.length (Lib.byteCells l)
  ne : ∀ k, bv.ownBlock = some k → ¬ k = p
  nil_ : l = [] → bv = .slice none 0 0
theorem Wr.cell {N p : Nat} {w : World} {l : List UInt8} {a b : Nat} {ad bv : Value} (h : Wr N p w l a b ad bv) (j : Nat) : w.cell? ⟨p, j, none⟩ = (#[ad, bv, .int .i64 a, .int .i64 b] : Array Value)[j]? := by simp [World.cell?, h.at_]
theorem Wr.frozen {N p : Nat} {w : World} {l : List UInt8} {a b : Nat} {ad bv : Value} (h : Wr N p w l a b ad bv) (j : Nat) : w.frozen? ⟨p, j, none⟩ = false := by simp [World.frozen?, h.at_]
theorem Wr.lt {N p : Nat} {w : World} {l : List UInt8} {a b : Nat} {ad bv : Value} (h : Wr N p w l a b ad bv) : p < w.heap.size := (Array.getElem?_eq_some_iff.1 h.at_).1
theorem Wr.base {N p : Nat} {w : World} {l : List UInt8} {a b : Nat} {ad bv : Value} (h : Wr N p w l a b ad bv) : N ≤ w.heap.size := by have := h.lt; have := h.le; omega
theorem Wr.out {N p : Nat} {w w' : World} {l : List UInt8} {a b : Nat} {ad bv : Value} (h : Wr N p w l a b ad bv) (o : Out w w') : Wr N p w' l a b ad bv := ⟨h.le, (o.block p h.lt).trans h.at_, h.ad_, owns_chg (S := fun _ => False) h.own (fun _ _ h => h) (Chg.of_out o), h.ne, h.nil_⟩
theorem Wr.set2 {N p : Nat} {w : World} {l : List UInt8} {a b : Nat} {ad bv : Value} (h : Wr N p w l a b ad bv) (a' : Nat) : Wr N p (w.setCell ⟨p, 2, none⟩ (.int .i64 a')) l a' b ad bv :=
  ⟨h.le, by simp [World.setCell, Array.getElem?_modify, h.at_], h.ad_, owns_chg (S := fun k => k = p) h.own h.ne (Chg.setCell (S := fun k => k = p) (Chg.refl _ w) (p := ⟨p, 2, none⟩) rfl _), h.ne, h.nil_⟩
theorem Wr.set3 {N p : Nat} {w : World} {l : List UInt8} {a b : Nat} {ad bv : Value} (h : Wr N p w l a b ad bv) (b' : Nat) : Wr N p (w.setCell ⟨p, 3, none⟩ (.int .i64 b')) l a b' ad bv :=
  ⟨h.le, by simp [World.setCell, Array.getElem?_modify, h.at_], h.ad_, owns_chg (S := fun k => k = p) h.own h.ne (Chg.setCell (S := fun k => k = p) (Chg.refl _ w) (p := ⟨p, 3, none⟩) rfl _), h.ne, h.nil_⟩
theorem Wr.set0 {N p : Nat} {w : World} {l : List UInt8} {a b : Nat} {ad bv : Value} (h : Wr N p w l a b ad bv) : Wr N p (w.setCell ⟨p, 0, none⟩ (.pointer (some ⟨p, 0, none⟩))) l a b (.pointer (some ⟨p, 0, none⟩)) bv :=
  ⟨h.le, by simp [World.setCell, Array.getElem?_modify, h.at_], .inr rfl, owns_chg (S := fun k => k = p) h.own h.ne (Chg.setCell (S := fun k => k = p) (Chg.refl _ w) (p := ⟨p, 0, none⟩) rfl _), h.ne, h.nil_⟩
theorem chk_any (N p : Nat) (w : World) (l : List UInt8) (a b : Nat) (ad bv : Value) (h : Wr N p w l a b ad bv) : Calls Tryz.prog 89 #[.pointer (some ⟨p, 0, none⟩)] w fun e w' => e = .returned (.tuple #[]) ∧ Wr N p w' l a b (.pointer (some ⟨p, 0, none⟩)) bv ∧ Below N w w' := by
  rcases h.ad_ with rfl | rfl
  · exact (chk_new p w (h.cell 0) (by simp [World.shape?, h.at_]) (h.frozen 0)).mono fun e w' ⟨he, hw⟩ => ⟨he, hw ▸ h.set0, hw ▸ Below.set_own (Below.refl N w) h.le _⟩
  · exact (chk_used p w (h.cell 0)).mono fun e w' ⟨he, hw⟩ => ⟨he, hw ▸ h, hw ▸ Below.refl N _⟩
set_option maxRecDepth 100000 in
set_option maxHeartbeats 2000000 in
theorem write_any (N p : Nat) (w : World) (l : List UInt8) (a b : Nat) (ad bv : Value) (t : List UInt8) (h : Wr N p w l a b ad bv) (hlen : l.length + t.length ≤ 100000000) :
    Calls Tryz.prog 58 #[.pointer (some ⟨p, 0, none⟩), .string ⟨t.toArray⟩] w fun e w' => (∃ v, e = .returned v) ∧ (∃ ad' bv', Wr N p w' (l ++ t) a b ad' bv') ∧ Below N w w' := by
  obtain ⟨i0, hi, hz0, hz1, hz2⟩ := info_parts (show (Tryz.prog.info? 5).map (fun i => (i.zero, i.size, i.bytes)) = some (some (.int .u8 0), 1, 1) from Tryz.Builder_Extra_169.infoByte)
  have CK := hidOf (chk_any N p w l a b ad bv h)
  have hts : (⟨t.toArray⟩ : ByteArray).size = t.length := mk_size t
  have hN0 := h.base
  clear h
  go_enter Tryz.func58, Tryz.ntmps58
  go_wp2_with (go_at_call 89; refine CK.out.mono ?_)
  rintro e w1 ⟨rfl, hW, hb1⟩
  have hsz := hb1.size
  have c1 : w1.cell? ⟨p, 1, none⟩ = some bv := hW.cell 1
  have hlt : p < w1.heap.size := hW.lt
  have hNw := hW.base
  go_wp2_with (at_builtin; refine Lib.wpList_append_own_string _ rfl _ _ 24 9 rfl N 5 i0 Tryz.underlying24 Tryz.underlying9 hi hz0 hz1 hz2 bv l.length (Lib.byteCells l) rfl hW.own ⟨t.toArray⟩ rfl (by unfold maxLen; omega) (by omega) hNw ?_)
  intro v' w2 hown' hgrow hiff
  have hb2 : w2.heap[p]? = some (.cells #[.pointer (some ⟨p, 0, none⟩), bv, .int .i64 a, .int .i64 b] 177 (0, 0)) := (hgrow.block p hlt (fun e => hW.ne p e.symm rfl)).trans hW.at_
  have d1 : w2.cell? ⟨p, 1, none⟩ = some bv := by rw [Lib.cell_of_heap hb2]; rfl
  have f1 : w2.frozen? ⟨p, 1, none⟩ = false := Lib.frozen_of_heap hb2 1
  have HW := hidOf (Below.set_own (j := 1) (Below.of_grown hb1 hN0 hgrow (own_le hW.own)) hW.le v')
  have hne2 : ∀ k, v'.ownBlock = some k → ¬ k = p := fun k hk e => by
    subst e
    rcases hown'.2 with ⟨hv, _⟩ | ⟨g, cap, cur, hv, _, hg, _⟩
    · rw [hv] at hk; cases hk
    · rw [hv] at hk
      simp [Value.ownBlock] at hk
      subst hk
      rw [hb2] at hg
      simp at hg
  have hst : Lib.strCells ⟨t.toArray⟩ = Lib.byteCells t := by simp [Lib.strCells, Lib.byteCells]
  rw [hst] at hown'
  have hbl : Lib.byteCells l ++ Lib.byteCells t = Lib.byteCells (l ++ t) := by simp [Lib.byteCells]
  rw [hbl, show l.length + t.length = (l ++ t).length from by simp] at hown'
  have hnil2 : l ++ t = [] → v' = .slice none 0 0 := fun h0 => by
    obtain ⟨h1, h2⟩ := List.append_eq_nil_iff.1 h0
    exact hiff.2 ⟨hW.nil_ h1, by first | exact h2 | simp [h2]⟩
  have HN : Hid (Wr N p (w2.setCell ⟨p, 1, none⟩ v') (l ++ t) a b (.pointer (some ⟨p, 0, none⟩)) v') := ⟨hW.le, by simp [World.setCell, Array.getElem?_modify, hb2], .inr rfl, owns_chg (S := fun k => k = p) hown' hne2 (Chg.setCell (S := fun k => k = p) (Chg.refl _ w2) (p := ⟨p, 1, none⟩) rfl _), hne2, hnil2⟩
  obtain ⟨ao, cp, rfl⟩ : ∃ ao cp, v' = .slice ao (l.length + t.length) cp := by have := own_form hown'; rw [List.length_append] at this; exact this
  clear hown' hgrow hb2 hne2 hnil2 hiff hW hb1 c1 hbl hst
  go_wp2
  go_ret2
  exact ⟨⟨_, rfl⟩, ⟨_, _, HN.out⟩, HW.out⟩
end Go.Proofs.YtkihaohdcgjioaaGreatDoor.Lx
namespace Go.Proofs.YtkihaohdcgjioaaGreatDoor.Lx
open Go.RowKit Go.Sort
set_option linter.unusedVariables false
set_option linter.unusedSimpArgs false
/-- the table of the powers of ten -/
def Pow (w : World) : Prop := Lib.TabIs Tryz.prog w "internal/strconv.uint64pow10" .u64 Lib.pow10Tab
set_option maxRecDepth 100000 in
set_option maxHeartbeats 2000000 in
theorem intFmt_any (u : Nat) (hu64 : u < 18446744073709551616) (w : World) (htab : Pow w) :
    Calls Tryz.prog 149 #[.int .u64 (u : Int), .int .i64 10] w fun e w' => e = .returned (.string ⟨(Lib.decDigits u).toArray⟩) ∧ Out w w' := by
  by_cases hs : u < 100
  · have hs' : (u : Int) < 100 := by omega
    have CS := hidOf (Tryz.internal_strconv_small u hs w)
    go_enter Tryz.func149, Tryz.ntmps149
    go_wp2_with (go_at_call 191; refine CS.out.mono ?_; rintro e w' ⟨rfl, hw⟩; have hw := hw.symm; subst hw)
    go_ret
    exact ⟨rfl, Out.refl _⟩
  · have hs' : ¬ (u : Int) < 100 := by omega
    have hu1 : 1 ≤ u := by omega
    have hnd20 : Lib.nDigits u ≤ 20 := by have := Lib.numDigits_eq u hu1 hu64; split at this <;> omega
    have hal : Tryz.prog.arrayLen 223 = 24 := by simp [Program.arrayLen, Tryz.underlying223]
    have hsl : ∀ W, (Instr.sliceAt 223 (.pointer (some ⟨w.heap.size, 0, none⟩)) none (some (.int .i64 (Lib.nDigits u : Int))) none).run Tryz.prog W = .ok (.slice (some ⟨w.heap.size, 0, none⟩) (Lib.nDigits u) 24) W := fun W => by
      rw [run_sliceAt_array_h W 223 ⟨w.heap.size, 0, none⟩ (by simp [Program.arrayLen, Program.elem, Tryz.underlying223]) .i64 (Lib.nDigits u : Int) (by omega) (by rw [hal]; omega)]
      go_simp
      try omega
    have hH0 := Lib.holds_zero0 w 223 (Lib.nDigits u) (by omega)
    have hfmt := Tryz.internal_strconv_formatBase10 w.heap.size 0 24 u (Array.replicate (Lib.nDigits u) 0) (w.alloc (.cells Lib.zeros24 223)) hH0 (by rw [Array.size_replicate]; exact Lib.lt_pow_nDigits u) hu64 (by rw [Array.size_replicate]; omega)
    rw [Array.size_replicate] at hfmt
    have HH0 := hidOf hH0
    have CF := hidOf hfmt
    have CN := hidOf (Tryz.internal_strconv_numDigits u hu1 hu64 (w.alloc (.cells Lib.zeros24 223)) (Lib.tabIs_alloc htab _))
    clear hH0 hal hfmt
    go_enter Tryz.func149, Tryz.ntmps149
    go_wp2_with (go_at_call 192; refine CN.out.mono ?_; rintro e w' ⟨rfl, hw⟩; subst hw)
    go_at_call 193
    refine CF.out.mono ?_
    rintro e w' ⟨rfl, k, v', dk, rfl, hF⟩
    have hcv : (convert 24 9 (.slice (some ⟨w.heap.size, 0, none⟩) (Lib.nDigits u) 24)).run Tryz.prog ((putRow (fun (b : UInt8) => Value.int .u8 (b.toNat : Int)) (w.alloc (.cells Lib.zeros24 223)) w.heap.size 0 dk).drewN k) = .ok (.string ⟨(Lib.decDigits u).toArray⟩) ((putRow (fun (b : UInt8) => Value.int .u8 (b.toNat : Int)) (w.alloc (.cells Lib.zeros24 223)) w.heap.size 0 dk).drewN k) := by
      have h := run_convert_bytes_back (P := Tryz.prog) ((putRow (fun (b : UInt8) => Value.int .u8 (b.toNat : Int)) (w.alloc (.cells Lib.zeros24 223)) w.heap.size 0 dk).drewN k) 24 9 5 ⟨w.heap.size, 0, none⟩ 24 (Lib.decDigits u) Tryz.underlying24 Tryz.underlying5 Tryz.underlying9 (fun j hj => by
        rw [Lib.row_is_numeral hF j hj, Lib.add_plain, World.cell?_drewN]
        exact cell?_putRow (fun (b : UInt8) => Value.int .u8 (b.toNat : Int)) _ w.heap.size 0 _ dk HH0.out (by rw [hF.size, Array.size_replicate]) j (by rw [hF.size]; rw [Lib.decDigits_length] at hj; exact hj))
      rw [Lib.decDigits_length] at h
      exact h
    have HO : Hid (Out w ((putRow (fun (b : UInt8) => Value.int .u8 (b.toNat : Int)) (w.alloc (.cells Lib.zeros24 223)) w.heap.size 0 dk).drewN k)) := by
      obtain ⟨os, eo⟩ := Lib.fin_at w (.cells Lib.zeros24 223) dk k 0
      rw [eo]
      exact hidOf (Lib.below_grow _ w (Nat.le_refl _) k os)
    go_wp2
    go_ret
    exact ⟨rfl, HO.out⟩
theorem Pow.out {w w' : World} (h : Pow w) (o : Out w w') : Pow w' := Lib.tabBelow_of_tabIs h w' o
theorem fmt_any (u : Nat) (hu64 : u < 18446744073709551616) (w : World) (htab : Pow w) :
    Calls Tryz.prog 104 #[.int .u64 (u : Int), .int .i64 10] w fun e w' => e = .returned (.string ⟨(Lib.decDigits u).toArray⟩) ∧ Out w w' := by
  have CF := hidOf (intFmt_any u hu64 w htab)
  go_enter Tryz.func104, Tryz.ntmps104
  go_wp2_with (go_at_call 149; refine CF.out.mono ?_; rintro e w1 ⟨rfl, ho⟩; have HO := hidOf ho; clear ho)
  go_ret
  exact ⟨rfl, HO.out⟩
/-- what was written, how much was to be, how much on the line -/
structure WS where
  l : List UInt8
  size : Nat
  line : Nat
def WS.put (s : WS) (t : List UInt8) : WS := ⟨if s.size + t.length ≤ 16777216 then s.l ++ t else s.l, s.size + t.length, s.line + t.length⟩
/-- the writer in memory -/
def WrAt (N p : Nat) (w : World) (s : WS) : Prop := ∃ ad bv, Wr N p w s.l s.size s.line ad bv
def WEnd (N p : Nat) (w : World) (s : WS) (e : Ending) (w' : World) : Prop := (∃ v, e = .returned v) ∧ WrAt N p w' s ∧ Below N w w'
set_option maxHeartbeats 1000000 in
theorem put_any (N p : Nat) (w : World) (s : WS) (t : List UInt8) (h : WrAt N p w s) (hl : s.l.length ≤ 16777216) (hs : s.size + t.length ≤ 4611686018427387904) (hli : s.line + t.length ≤ 4611686018427387904) (ht : t.length ≤ 16777216) :
    Calls Tryz.prog 174 #[.pointer (some ⟨p, 0, none⟩), .string ⟨t.toArray⟩] w fun e w' => WEnd N p w (s.put t) e w' := by
  obtain ⟨ad, bv, h⟩ := h
  obtain ⟨l, size, line⟩ := s
  simp only at h hl hs hli
  unfold WS.put
  simp only
  have H := hidOf h
  have c2 : w.cell? ⟨p, 2, none⟩ = some (.int .i64 size) := h.cell 2
  have c3 : w.cell? ⟨p, 3, none⟩ = some (.int .i64 line) := h.cell 3
  have f2 := h.frozen 2
  have f3 := h.frozen 3
  have i1 : (size : Int) + t.length ≤ 4611686018427387904 := by omega
  have i2 : (line : Int) + t.length ≤ 4611686018427387904 := by omega
  have H2 : Hid (Wr N p ((w.setCell ⟨p, 2, none⟩ (.int .i64 ((size : Int) + t.length))).setCell ⟨p, 3, none⟩ (.int .i64 ((line : Int) + t.length))) l (size + t.length) (line + t.length) ad bv) := (h.set2 (size + t.length)).set3 (line + t.length)
  have B2 : Hid (Below N w ((w.setCell ⟨p, 2, none⟩ (.int .i64 ((size : Int) + t.length))).setCell ⟨p, 3, none⟩ (.int .i64 ((line : Int) + t.length)))) := Below.set_own (Below.set_own (Below.refl _ _) h.le _) h.le _
  clear h
  go_enter Tryz.func174, Tryz.ntmps174
  go_upto_region 2 with fail
  generalize (w.setCell ⟨p, 2, none⟩ (.int .i64 ((size : Int) + t.length))).setCell ⟨p, 3, none⟩ (.int .i64 ((line : Int) + t.length)) = w1 at *
  clear c2 c3 f2 f3
  have c2 : w1.cell? ⟨p, 2, none⟩ = some (.int .i64 ((size : Int) + t.length)) := H2.out.cell 2
  by_cases hm : size + t.length ≤ 16777216
  · have hm' : (size : Int) + t.length ≤ 16777216 := by omega
    have CW := hidOf (write_any N p w1 l _ _ ad bv t H2.out (by omega))
    go_wp2_with (go_at_call 58; refine CW.out.mono ?_; rintro e w2 ⟨⟨v, rfl⟩, ⟨ad', bv', q⟩, hb⟩; have H3 := hidOf q; have B3 := hidOf hb; clear q hb)
    go_end0
    exact ⟨⟨_, rfl⟩, ⟨_, _, H3.out⟩, Below.step B2.out B3.out⟩
  · have hm' : ¬ (size : Int) + t.length ≤ 16777216 := by omega
    go_wp2
    go_end0
    exact ⟨⟨_, rfl⟩, ⟨_, _, H2.out⟩, B2.out⟩
def WS.piece (s : WS) (t : List UInt8) : WS := if 0 < s.line then (s.put [32]).put t else s.put t
theorem put_len (s : WS) (t : List UInt8) (h : s.l.length ≤ 16777216) (hs : s.l.length ≤ s.size) : (s.put t).l.length ≤ 16777216 ∧ (s.put t).l.length ≤ (s.put t).size := by
  unfold WS.put
  simp only
  split
  · rw [List.length_append]; omega
  · omega
set_option maxHeartbeats 1000000 in
theorem piece_any (N p : Nat) (w : World) (s : WS) (t : List UInt8) (h : WrAt N p w s) (hl : s.l.length ≤ 16777216) (hls : s.l.length ≤ s.size) (hs : s.size + t.length + 1 ≤ 4611686018427387904) (hli : s.line ≤ s.size) (ht : t.length ≤ 16777216) :
    Calls Tryz.prog 173 #[.pointer (some ⟨p, 0, none⟩), .string ⟨t.toArray⟩] w fun e w' => WEnd N p w (s.piece t) e w' := by
  obtain ⟨ad, bv, h'⟩ := h
  have c3 : w.cell? ⟨p, 3, none⟩ = some (.int .i64 s.line) := h'.cell 3
  have H : Hid (WrAt N p w s) := ⟨ad, bv, h'⟩
  clear h'
  unfold WS.piece
  by_cases h0 : 0 < s.line
  · have h0' : (0 : Int) < s.line := by omega
    rw [if_pos h0]
    have C1 := hidOf (put_any N p w s [32] H.out hl (by simp; omega) (by simp; omega) (by simp))
    have C2 : Hid (∀ wx, WrAt N p wx (s.put [32]) → Calls Tryz.prog 174 #[.pointer (some ⟨p, 0, none⟩), .string ⟨t.toArray⟩] wx fun e w' => WEnd N p wx ((s.put [32]).put t) e w') := fun wx hx => put_any N p wx _ t hx (put_len s [32] hl hls).1 (by simp [WS.put]; omega) (by simp [WS.put]; omega) ht
    go_enter Tryz.func173, Tryz.ntmps173
    go_upto_region 2 with (go_at_call 174; refine C1.out.mono ?_; rintro e w1 ⟨⟨v, rfl⟩, hq, hb⟩; have H1 := hidOf hq; have B1 := hidOf hb; clear hq hb)
    go_wp2_with (go_at_call 174; refine (C2.out w1 H1.out).mono ?_; rintro e w2 ⟨⟨v, rfl⟩, hq, hb⟩; have H2 := hidOf hq; have B2 := hidOf hb; clear hq hb)
    go_end0
    exact ⟨⟨_, rfl⟩, H2.out, Below.step B1.out B2.out⟩
  · have h0' : ¬ (0 : Int) < s.line := by omega
    rw [if_neg h0]
    have C1 := hidOf (put_any N p w s t H.out hl (by omega) (by omega) ht)
    go_enter Tryz.func173, Tryz.ntmps173
    go_wp2_with (go_at_call 174; refine C1.out.mono ?_; rintro e w1 ⟨⟨v, rfl⟩, hq, hb⟩; have H1 := hidOf hq; have B1 := hidOf hb; clear hq hb)
    go_end0
    exact ⟨⟨_, rfl⟩, H1.out, B1.out⟩
end Go.Proofs.YtkihaohdcgjioaaGreatDoor.Lx
