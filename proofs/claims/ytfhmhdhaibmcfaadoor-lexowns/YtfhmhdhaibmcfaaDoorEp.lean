import Derived.Test.YtfhmhdhaibmcfaaDoorEo
import Derived.Lib.AppendIntMem
import Derived.Lib.ItoaNum
namespace Go.Proofs.YtfhmhdhaibmcfaaDoor
open Go.RowKit Go.Sort
set_option linter.unusedVariables false
set_option linter.unusedSimpArgs false
/-- the table of the powers of ten -/
def Pow (w : World) : Prop := Lib.TabIs Tryd.prog w "internal/strconv.uint64pow10" .u64 Lib.pow10Tab
set_option maxRecDepth 100000 in
set_option maxHeartbeats 2000000 in
theorem intFmt_any (u : Nat) (hu64 : u < 18446744073709551616) (w : World) (htab : Pow w) :
    Calls Tryd.prog 63 #[.int .u64 (u : Int), .int .i64 10] w fun e w' => e = .returned (.string ⟨(Lib.decDigits u).toArray⟩) ∧ Out w w' := by
  by_cases hs : u < 100
  · have hs' : (u : Int) < 100 := by omega
    have CS := hidOf (Tryd.internal_strconv_small u hs w)
    go_enter Tryd.func63, Tryd.ntmps63
    go_wp2_with (go_at_call 74; refine CS.out.mono ?_; rintro e w' ⟨rfl, hw⟩; have hw := hw.symm; subst hw)
    go_ret
    exact ⟨rfl, Out.refl _⟩
  · have hs' : ¬ (u : Int) < 100 := by omega
    have hu1 : 1 ≤ u := by omega
    have hnd20 : Lib.nDigits u ≤ 20 := by have := Lib.numDigits_eq u hu1 hu64; split at this <;> omega
    have hal : Tryd.prog.arrayLen 108 = 24 := by simp [Program.arrayLen, Tryd.underlying108]
    have hsl : ∀ W, (Instr.sliceAt 108 (.pointer (some ⟨w.heap.size, 0, none⟩)) none (some (.int .i64 (Lib.nDigits u : Int))) none).run Tryd.prog W = .ok (.slice (some ⟨w.heap.size, 0, none⟩) (Lib.nDigits u) 24) W := fun W => by
      rw [run_sliceAt_array_h W 108 ⟨w.heap.size, 0, none⟩ (by simp [Program.arrayLen, Program.elem, Tryd.underlying108]) .i64 (Lib.nDigits u : Int) (by omega) (by rw [hal]; omega)]
      go_simp
      try omega
    have hH0 := Lib.holds_zero0 w 108 (Lib.nDigits u) (by omega)
    have hfmt := Tryd.internal_strconv_formatBase10 w.heap.size 0 24 u (Array.replicate (Lib.nDigits u) 0) (w.alloc (.cells Lib.zeros24 108)) hH0 (by rw [Array.size_replicate]; exact Lib.lt_pow_nDigits u) hu64 (by rw [Array.size_replicate]; omega)
    rw [Array.size_replicate] at hfmt
    have HH0 := hidOf hH0
    have CF := hidOf hfmt
    have CN := hidOf (Tryd.internal_strconv_numDigits u hu1 hu64 (w.alloc (.cells Lib.zeros24 108)) (Lib.tabIs_alloc htab _))
    clear hH0 hal hfmt
    go_enter Tryd.func63, Tryd.ntmps63
    go_wp2_with (go_at_call 75; refine CN.out.mono ?_; rintro e w' ⟨rfl, hw⟩; subst hw)
    go_at_call 76
    refine CF.out.mono ?_
    rintro e w' ⟨rfl, k, v', dk, rfl, hF⟩
    have hcv : (convert 22 9 (.slice (some ⟨w.heap.size, 0, none⟩) (Lib.nDigits u) 24)).run Tryd.prog ((putRow (fun (b : UInt8) => Value.int .u8 (b.toNat : Int)) (w.alloc (.cells Lib.zeros24 108)) w.heap.size 0 dk).drewN k) = .ok (.string ⟨(Lib.decDigits u).toArray⟩) ((putRow (fun (b : UInt8) => Value.int .u8 (b.toNat : Int)) (w.alloc (.cells Lib.zeros24 108)) w.heap.size 0 dk).drewN k) := by
      have h := run_convert_bytes_back (P := Tryd.prog) ((putRow (fun (b : UInt8) => Value.int .u8 (b.toNat : Int)) (w.alloc (.cells Lib.zeros24 108)) w.heap.size 0 dk).drewN k) 22 9 5 ⟨w.heap.size, 0, none⟩ 24 (Lib.decDigits u) Tryd.underlying22 Tryd.underlying5 Tryd.underlying9 (fun j hj => by
        rw [Lib.row_is_numeral hF j hj, Lib.add_plain, World.cell?_drewN]
        exact cell?_putRow (fun (b : UInt8) => Value.int .u8 (b.toNat : Int)) _ w.heap.size 0 _ dk HH0.out (by rw [hF.size, Array.size_replicate]) j (by rw [hF.size]; rw [Lib.decDigits_length] at hj; exact hj))
      rw [Lib.decDigits_length] at h
      exact h
    have HO : Hid (Out w ((putRow (fun (b : UInt8) => Value.int .u8 (b.toNat : Int)) (w.alloc (.cells Lib.zeros24 108)) w.heap.size 0 dk).drewN k)) := by
      obtain ⟨os, eo⟩ := Lib.fin_at w (.cells Lib.zeros24 108) dk k 0
      rw [eo]
      exact hidOf (Lib.below_grow _ w (Nat.le_refl _) k os)
    go_wp2
    go_ret
    exact ⟨rfl, HO.out⟩
theorem Pow.out {w w' : World} (h : Pow w) (o : Out w w') : Pow w' := Lib.tabBelow_of_tabIs h w' o
theorem fmt_any (u : Nat) (hu64 : u < 18446744073709551616) (w : World) (htab : Pow w) :
    Calls Tryd.prog 50 #[.int .u64 (u : Int), .int .i64 10] w fun e w' => e = .returned (.string ⟨(Lib.decDigits u).toArray⟩) ∧ Out w w' := by
  have CF := hidOf (intFmt_any u hu64 w htab)
  go_enter Tryd.func50, Tryd.ntmps50
  go_wp2_with (go_at_call 63; refine CF.out.mono ?_; rintro e w1 ⟨rfl, ho⟩; have HO := hidOf ho; clear ho)
  go_ret
  exact ⟨rfl, HO.out⟩
/-- what was written, how much was to be, how much on the line -/
structure WS where
  l : List UInt8
  size : Nat
  line : Nat
def WS.put (s : WS) (t : List UInt8) : WS := ⟨if s.size + t.length ≤ 16777216 then s.l ++ t else s.l, s.size + t.length, s.line + t.length⟩
/-- the writer in memory -/
def WrAt (N p : Nat) (w : World) (s : WS) : Prop := ∃ ad bv, Wr N p w s.l s.size s.line ad bv
def WEnd (N p : Nat) (w : World) (s : WS) (e : Ending) (w' : World) : Prop := (∃ v, e = .returned v) ∧ WrAt N p w' s ∧ Below N w w'
set_option maxHeartbeats 1000000 in
theorem put_any (N p : Nat) (w : World) (s : WS) (t : List UInt8) (h : WrAt N p w s) (hl : s.l.length ≤ 16777216) (hs : s.size + t.length ≤ 4611686018427387904) (hli : s.line + t.length ≤ 4611686018427387904) (ht : t.length ≤ 16777216) :
    Calls Tryd.prog 51 #[.pointer (some ⟨p, 0, none⟩), .string ⟨t.toArray⟩] w fun e w' => WEnd N p w (s.put t) e w' := by
  obtain ⟨ad, bv, h⟩ := h
  obtain ⟨l, size, line⟩ := s
  simp only at h hl hs hli
  unfold WS.put
  simp only
  have H := hidOf h
  have c2 : w.cell? ⟨p, 2, none⟩ = some (.int .i64 size) := h.cell 2
  have c3 : w.cell? ⟨p, 3, none⟩ = some (.int .i64 line) := h.cell 3
  have f2 := h.frozen 2
  have f3 := h.frozen 3
  have i1 : (size : Int) + t.length ≤ 4611686018427387904 := by omega
  have i2 : (line : Int) + t.length ≤ 4611686018427387904 := by omega
  have H2 : Hid (Wr N p ((w.setCell ⟨p, 2, none⟩ (.int .i64 ((size : Int) + t.length))).setCell ⟨p, 3, none⟩ (.int .i64 ((line : Int) + t.length))) l (size + t.length) (line + t.length) ad bv) := (h.set2 (size + t.length)).set3 (line + t.length)
  have B2 : Hid (Below N w ((w.setCell ⟨p, 2, none⟩ (.int .i64 ((size : Int) + t.length))).setCell ⟨p, 3, none⟩ (.int .i64 ((line : Int) + t.length)))) := Below.set_own (Below.set_own (Below.refl _ _) h.le _) h.le _
  clear h
  go_enter Tryd.func51, Tryd.ntmps51
  go_upto_region 2 with fail
  generalize (w.setCell ⟨p, 2, none⟩ (.int .i64 ((size : Int) + t.length))).setCell ⟨p, 3, none⟩ (.int .i64 ((line : Int) + t.length)) = w1 at *
  clear c2 c3 f2 f3
  have c2 : w1.cell? ⟨p, 2, none⟩ = some (.int .i64 ((size : Int) + t.length)) := H2.out.cell 2
  by_cases hm : size + t.length ≤ 16777216
  · have hm' : (size : Int) + t.length ≤ 16777216 := by omega
    have CW := hidOf (write_any N p w1 l _ _ ad bv t H2.out (by omega))
    go_wp2_with (go_at_call 64; refine CW.out.mono ?_; rintro e w2 ⟨⟨v, rfl⟩, ⟨ad', bv', q⟩, hb⟩; have H3 := hidOf q; have B3 := hidOf hb; clear q hb)
    go_end0
    exact ⟨⟨_, rfl⟩, ⟨_, _, H3.out⟩, Below.step B2.out B3.out⟩
  · have hm' : ¬ (size : Int) + t.length ≤ 16777216 := by omega
    go_wp2
    go_end0
    exact ⟨⟨_, rfl⟩, ⟨_, _, H2.out⟩, B2.out⟩
def WS.piece (s : WS) (t : List UInt8) : WS := if 0 < s.line then (s.put [32]).put t else s.put t
theorem put_len (s : WS) (t : List UInt8) (h : s.l.length ≤ 16777216) (hs : s.l.length ≤ s.size) : (s.put t).l.length ≤ 16777216 ∧ (s.put t).l.length ≤ (s.put t).size := by
  unfold WS.put
  simp only
  split
  · rw [List.length_append]; omega
  · omega
set_option maxHeartbeats 1000000 in
theorem piece_any (N p : Nat) (w : World) (s : WS) (t : List UInt8) (h : WrAt N p w s) (hl : s.l.length ≤ 16777216) (hls : s.l.length ≤ s.size) (hs : s.size + t.length + 1 ≤ 4611686018427387904) (hli : s.line ≤ s.size) (ht : t.length ≤ 16777216) :
    Calls Tryd.prog 49 #[.pointer (some ⟨p, 0, none⟩), .string ⟨t.toArray⟩] w fun e w' => WEnd N p w (s.piece t) e w' := by
  obtain ⟨ad, bv, h'⟩ := h
  have c3 : w.cell? ⟨p, 3, none⟩ = some (.int .i64 s.line) := h'.cell 3
  have H : Hid (WrAt N p w s) := ⟨ad, bv, h'⟩
  clear h'
  unfold WS.piece
  by_cases h0 : 0 < s.line
  · have h0' : (0 : Int) < s.line := by omega
    rw [if_pos h0]
    have C1 := hidOf (put_any N p w s [32] H.out hl (by simp; omega) (by simp; omega) (by simp))
    have C2 : Hid (∀ wx, WrAt N p wx (s.put [32]) → Calls Tryd.prog 51 #[.pointer (some ⟨p, 0, none⟩), .string ⟨t.toArray⟩] wx fun e w' => WEnd N p wx ((s.put [32]).put t) e w') := fun wx hx => put_any N p wx _ t hx (put_len s [32] hl hls).1 (by simp [WS.put]; omega) (by simp [WS.put]; omega) ht
    go_enter Tryd.func49, Tryd.ntmps49
    go_upto_region 2 with (go_at_call 51; refine C1.out.mono ?_; rintro e w1 ⟨⟨v, rfl⟩, hq, hb⟩; have H1 := hidOf hq; have B1 := hidOf hb; clear hq hb)
    go_wp2_with (go_at_call 51; refine (C2.out w1 H1.out).mono ?_; rintro e w2 ⟨⟨v, rfl⟩, hq, hb⟩; have H2 := hidOf hq; have B2 := hidOf hb; clear hq hb)
    go_end0
    exact ⟨⟨_, rfl⟩, H2.out, Below.step B1.out B2.out⟩
  · have h0' : ¬ (0 : Int) < s.line := by omega
    rw [if_neg h0]
    have C1 := hidOf (put_any N p w s t H.out hl (by omega) (by omega) ht)
    go_enter Tryd.func49, Tryd.ntmps49
    go_wp2_with (go_at_call 51; refine C1.out.mono ?_; rintro e w1 ⟨⟨v, rfl⟩, hq, hb⟩; have H1 := hidOf hq; have B1 := hidOf hb; clear hq hb)
    go_end0
    exact ⟨⟨_, rfl⟩, H1.out, B1.out⟩
end Go.Proofs.YtfhmhdhaibmcfaaDoor
