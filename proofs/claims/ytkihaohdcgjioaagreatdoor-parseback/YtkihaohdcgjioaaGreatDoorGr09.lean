import Derived.Test.YtkihaohdcgjioaaGreatDoorGr08
import Derived.Test.YtkihaohdcgjioaaGreatDoorGr07
import Derived.Lib.AppendIntMem
import Derived.Lib.ItoaNum
namespace Go.Proofs.YtkihaohdcgjioaaGreatDoor
open Go.RowKit
set_option linter.unusedVariables false
set_option linter.unusedSimpArgs false
theorem cell_later {w w' : World} (o : Out w w') {a : Addr} {v : Value} (h : w.cell? a = some v) : w'.cell? a = some v := by
  rw [← h]; exact World.cell?_of_block (o.block _ (World.block_lt_of_cell? w a h))
theorem owns_chg {B size : Nat} {S : Nat → Prop} {w w' : World} {e : TypeId} {v : Value} {n : Nat} {xs : List Value} (h : w.ownsRow B e size v n xs) (hs : ∀ k, v.ownBlock = some k → ¬ S k) (hc : Chg S w w') : w'.ownsRow B e size v n xs := by
  refine ⟨h.1, ?_⟩
  rcases h.2 with hn | ⟨g, cap, cur, rfl, hb, hg, rest⟩
  · exact .inl hn
  · refine .inr ⟨g, cap, cur, rfl, hb, ?_, rest⟩
    rw [hc.block g (Array.getElem?_eq_some_iff.1 hg).1 (hs g rfl)]
    exact hg
theorem own_form {B n sz : Nat} {X : World} {e : TypeId} {v : Value} {xs : List Value} (h : X.ownsRow B e sz v n xs) : ∃ ad cp, v = .slice ad n cp := by
  rcases h.2 with ⟨rfl, rfl⟩ | ⟨g, cap, cur, rfl, _⟩
  · exact ⟨none, 0, rfl⟩
  · exact ⟨_, _, rfl⟩
theorem cell_fresh (w : World) (cs : Array Value) (t : TypeId) (j : Nat) (b : Nat) (hb : b = w.heap.size) : (w.alloc (.cells cs t)).cell? ⟨b, j, none⟩ = cs[j]? := by
  subst hb
  rw [World.cell?, show (w.alloc (.cells cs t)).heap[w.heap.size]? = some (.cells cs t) from heap_alloc_new w _]
  rfl
theorem news_new (w : World) (cs : Array Value) (t : TypeId) (b : Nat) (hb : b = w.heap.size) : ∀ j u, cs.toList[j]? = some u → (w.alloc (.cells cs t)).cell? ((⟨b, 0, none⟩ : Addr).add j) = some u := by
  intro j u hu
  rw [WideShapes.add_plain, Nat.zero_add, cell_fresh _ _ _ _ _ hb]
  simpa using hu
theorem cell_atL {w : World} {p : Nat} {cs : Array Value} {t : TypeId} (h : w.heap[p]? = some (.cells cs t (0, 0))) (j : Nat) : w.cell? ⟨p, j, none⟩ = cs[j]? := by simp [World.cell?, h]
theorem frozen_atL {w : World} {p : Nat} {cs : Array Value} {t : TypeId} (h : w.heap[p]? = some (.cells cs t (0, 0))) (j : Nat) : w.frozen? ⟨p, j, none⟩ = false := by simp [World.frozen?, h]
theorem set_atL {w : World} {p : Nat} {cs : Array Value} {t : TypeId} (h : w.heap[p]? = some (.cells cs t (0, 0))) (j : Nat) (u : Value) : (w.setCell ⟨p, j, none⟩ u).heap[p]? = some (.cells (cs.setIfInBounds j u) t (0, 0)) := by
  simp [World.setCell, Array.getElem?_modify, h]
theorem own_kind {B s n : Nat} {w : World} {e t : TypeId} {v : Value} {xs : List Value} {b : Nat} {cs : Array Value} {fr : Nat × Nat} (h : w.ownsRow B e s v n xs) (hb : w.heap[b]? = some (.cells cs t fr)) (hne : ¬ e = t) : ¬ v.ownBlock = some b := fun hv => by
  rcases h.2 with ⟨hx, _⟩ | ⟨g, cap, cur, hx, _, hg, _⟩
  · rw [hx] at hv; cases hv
  · rw [hx] at hv
    simp [Value.ownBlock] at hv
    subst hv
    rw [hb] at hg; simp at hg; exact hne hg.2.1.symm
theorem Out.dN {w w' : World} (h : Out w w') (n : Nat) : Out w (w'.drewN n) := ⟨h.os, h.tape, h.output, h.size, h.block⟩
theorem add_l4 (x y z : List UInt8) (hz : z = x ++ y) (h : x.length + y.length ≤ 9223372036854775807) (w : World) : (Op.stringOp .add ⟨x.toArray⟩ ⟨y.toArray⟩).run Tryz.prog w = .ok (.string ⟨z.toArray⟩) w := by
  rw [run_string_add_sum w _ _ (by simp [ByteArray.size]; omega), ByteArray.mk_append_mk, hz]
end Go.Proofs.YtkihaohdcgjioaaGreatDoor
namespace Go.Proofs.YtkihaohdcgjioaaGreatDoor.Lx
open Go.RowKit Go.Sort
set_option linter.unusedVariables false
set_option linter.unusedSimpArgs false
def Pow (w : World) : Prop := Lib.TabIs Tryz.prog w "internal/strconv.uint64pow10" .u64 Lib.pow10Tab
set_option maxRecDepth 100000 in
set_option maxHeartbeats 2000000 in
theorem intFmt_any (u : Nat) (hu64 : u < 18446744073709551616) (w : World) (htab : Pow w) :
    Calls Tryz.prog 149 #[.int .u64 (u : Int), .int .i64 10] w fun e w' => e = .returned (.string ⟨(Lib.decDigits u).toArray⟩) ∧ Out w w' := by
  by_cases hs : u < 100
  · have hs' : (u : Int) < 100 := by omega
    have CS := hidOf (Tryz.internal_strconv_small u hs w)
    go_enter Tryz.func149, Tryz.ntmps149
    go_wp2_with (go_at_call 191; refine CS.out.mono ?_; rintro e w' ⟨rfl, hw⟩; have hw := hw.symm; subst hw)
    go_ret
    exact ⟨rfl, Out.refl _⟩
  · have hs' : ¬ (u : Int) < 100 := by omega
    have hu1 : 1 ≤ u := by omega
    have hnd20 : Lib.nDigits u ≤ 20 := by have := Lib.numDigits_eq u hu1 hu64; split at this <;> omega
    have hal : Tryz.prog.arrayLen 223 = 24 := by simp [Program.arrayLen, Tryz.underlying223]
    have hsl : ∀ W, (Instr.sliceAt 223 (.pointer (some ⟨w.heap.size, 0, none⟩)) none (some (.int .i64 (Lib.nDigits u : Int))) none).run Tryz.prog W = .ok (.slice (some ⟨w.heap.size, 0, none⟩) (Lib.nDigits u) 24) W := fun W => by
      rw [run_sliceAt_array_h W 223 ⟨w.heap.size, 0, none⟩ (by simp [Program.arrayLen, Program.elem, Tryz.underlying223]) .i64 (Lib.nDigits u : Int) (by omega) (by rw [hal]; omega)]
      go_simp
      try omega
    have hH0 := Lib.holds_zero0 w 223 (Lib.nDigits u) (by omega)
    have hfmt := Tryz.internal_strconv_formatBase10 w.heap.size 0 24 u (Array.replicate (Lib.nDigits u) 0) (w.alloc (.cells Lib.zeros24 223)) hH0 (by rw [Array.size_replicate]; exact Lib.lt_pow_nDigits u) hu64 (by rw [Array.size_replicate]; omega)
    rw [Array.size_replicate] at hfmt
    have HH0 := hidOf hH0
    have CF := hidOf hfmt
    have CN := hidOf (Tryz.internal_strconv_numDigits u hu1 hu64 (w.alloc (.cells Lib.zeros24 223)) (Lib.tabIs_alloc htab _))
    clear hH0 hal hfmt
    go_enter Tryz.func149, Tryz.ntmps149
    go_wp2_with (go_at_call 192; refine CN.out.mono ?_; rintro e w' ⟨rfl, hw⟩; subst hw)
    go_at_call 193
    refine CF.out.mono ?_
    rintro e w' ⟨rfl, k, v', dk, rfl, hF⟩
    have hcv : (convert 24 9 (.slice (some ⟨w.heap.size, 0, none⟩) (Lib.nDigits u) 24)).run Tryz.prog ((putRow (fun (b : UInt8) => Value.int .u8 (b.toNat : Int)) (w.alloc (.cells Lib.zeros24 223)) w.heap.size 0 dk).drewN k) = .ok (.string ⟨(Lib.decDigits u).toArray⟩) ((putRow (fun (b : UInt8) => Value.int .u8 (b.toNat : Int)) (w.alloc (.cells Lib.zeros24 223)) w.heap.size 0 dk).drewN k) := by
      have h := run_convert_bytes_back (P := Tryz.prog) ((putRow (fun (b : UInt8) => Value.int .u8 (b.toNat : Int)) (w.alloc (.cells Lib.zeros24 223)) w.heap.size 0 dk).drewN k) 24 9 5 ⟨w.heap.size, 0, none⟩ 24 (Lib.decDigits u) Tryz.underlying24 Tryz.underlying5 Tryz.underlying9 (fun j hj => by
        rw [Lib.row_is_numeral hF j hj, Lib.add_plain, World.cell?_drewN]
        exact cell?_putRow (fun (b : UInt8) => Value.int .u8 (b.toNat : Int)) _ w.heap.size 0 _ dk HH0.out (by rw [hF.size, Array.size_replicate]) j (by rw [hF.size]; rw [Lib.decDigits_length] at hj; exact hj))
      rw [Lib.decDigits_length] at h
      exact h
    have HO : Hid (Out w ((putRow (fun (b : UInt8) => Value.int .u8 (b.toNat : Int)) (w.alloc (.cells Lib.zeros24 223)) w.heap.size 0 dk).drewN k)) := by
      obtain ⟨os, eo⟩ := Lib.fin_at w (.cells Lib.zeros24 223) dk k 0
      rw [eo]
      exact hidOf (Lib.below_grow _ w (Nat.le_refl _) k os)
    go_wp2
    go_ret
    exact ⟨rfl, HO.out⟩
theorem Pow.out {w w' : World} (h : Pow w) (o : Out w w') : Pow w' := Lib.tabBelow_of_tabIs h w' o
theorem fmt_any (u : Nat) (hu64 : u < 18446744073709551616) (w : World) (htab : Pow w) :
    Calls Tryz.prog 104 #[.int .u64 (u : Int), .int .i64 10] w fun e w' => e = .returned (.string ⟨(Lib.decDigits u).toArray⟩) ∧ Out w w' := by
  have CF := hidOf (intFmt_any u hu64 w htab)
  go_enter Tryz.func104, Tryz.ntmps104
  go_wp2_with (go_at_call 149; refine CF.out.mono ?_; rintro e w1 ⟨rfl, ho⟩; have HO := hidOf ho; clear ho)
  go_ret
  exact ⟨rfl, HO.out⟩
structure WS where
  l : List UInt8
  size : Nat
  line : Nat
def WS.put (s : WS) (t : List UInt8) : WS := ⟨if s.size + t.length ≤ 16777216 then s.l ++ t else s.l, s.size + t.length, s.line + t.length⟩
def WrAt (N p : Nat) (w : World) (s : WS) : Prop := ∃ ad bv, Wr N p w s.l s.size s.line ad bv
def WEnd (N p : Nat) (w : World) (s : WS) (e : Ending) (w' : World) : Prop := (∃ v, e = .returned v) ∧ WrAt N p w' s ∧ Below N w w'
set_option maxHeartbeats 1000000 in
theorem put_any (N p : Nat) (w : World) (s : WS) (t : List UInt8) (h : WrAt N p w s) (hl : s.l.length ≤ 16777216) (hs : s.size + t.length ≤ 4611686018427387904) (hli : s.line + t.length ≤ 4611686018427387904) (ht : t.length ≤ 16777216) :
    Calls Tryz.prog 174 #[.pointer (some ⟨p, 0, none⟩), .string ⟨t.toArray⟩] w fun e w' => WEnd N p w (s.put t) e w' := by
  obtain ⟨ad, bv, h⟩ := h
  obtain ⟨l, size, line⟩ := s
  simp only at h hl hs hli
  unfold WS.put
  simp only
  have H := hidOf h
  have c2 : w.cell? ⟨p, 2, none⟩ = some (.int .i64 size) := h.cell 2
  have c3 : w.cell? ⟨p, 3, none⟩ = some (.int .i64 line) := h.cell 3
  have f2 := h.frozen 2
  have f3 := h.frozen 3
  have i1 : (size : Int) + t.length ≤ 4611686018427387904 := by omega
  have i2 : (line : Int) + t.length ≤ 4611686018427387904 := by omega
  have H2 : Hid (Wr N p ((w.setCell ⟨p, 2, none⟩ (.int .i64 ((size : Int) + t.length))).setCell ⟨p, 3, none⟩ (.int .i64 ((line : Int) + t.length))) l (size + t.length) (line + t.length) ad bv) := (h.set2 (size + t.length)).set3 (line + t.length)
  have B2 : Hid (Below N w ((w.setCell ⟨p, 2, none⟩ (.int .i64 ((size : Int) + t.length))).setCell ⟨p, 3, none⟩ (.int .i64 ((line : Int) + t.length)))) := Below.set_own (Below.set_own (Below.refl _ _) h.le _) h.le _
  clear h
  go_enter Tryz.func174, Tryz.ntmps174
  go_upto_region 2 with fail
  generalize (w.setCell ⟨p, 2, none⟩ (.int .i64 ((size : Int) + t.length))).setCell ⟨p, 3, none⟩ (.int .i64 ((line : Int) + t.length)) = w1 at *
  clear c2 c3 f2 f3
  have c2 : w1.cell? ⟨p, 2, none⟩ = some (.int .i64 ((size : Int) + t.length)) := H2.out.cell 2
  by_cases hm : size + t.length ≤ 16777216
  · have hm' : (size : Int) + t.length ≤ 16777216 := by omega
    have CW := hidOf (write_any N p w1 l _ _ ad bv t H2.out (by omega))
    go_wp2_with (go_at_call 58; refine CW.out.mono ?_; rintro e w2 ⟨⟨v, rfl⟩, ⟨ad', bv', q⟩, hb⟩; have H3 := hidOf q; have B3 := hidOf hb; clear q hb)
    go_end0
    exact ⟨⟨_, rfl⟩, ⟨_, _, H3.out⟩, Below.step B2.out B3.out⟩
  · have hm' : ¬ (size : Int) + t.length ≤ 16777216 := by omega
    go_wp2
    go_end0
    exact ⟨⟨_, rfl⟩, ⟨_, _, H2.out⟩, B2.out⟩
def WS.piece (s : WS) (t : List UInt8) : WS := if 0 < s.line then (s.put [32]).put t else s.put t
theorem put_len (s : WS) (t : List UInt8) (h : s.l.length ≤ 16777216) (hs : s.l.length ≤ s.size) : (s.put t).l.length ≤ 16777216 ∧ (s.put t).l.length ≤ (s.put t).size := by
  unfold WS.put
  simp only
  split
  · rw [List.length_append]; omega
  · omega
set_option maxHeartbeats 1000000 in
theorem piece_any (N p : Nat) (w : World) (s : WS) (t : List UInt8) (h : WrAt N p w s) (hl : s.l.length ≤ 16777216) (hls : s.l.length ≤ s.size) (hs : s.size + t.length + 1 ≤ 4611686018427387904) (hli : s.line ≤ s.size) (ht : t.length ≤ 16777216) :
    Calls Tryz.prog 173 #[.pointer (some ⟨p, 0, none⟩), .string ⟨t.toArray⟩] w fun e w' => WEnd N p w (s.piece t) e w' := by
  obtain ⟨ad, bv, h'⟩ := h
  have c3 : w.cell? ⟨p, 3, none⟩ = some (.int .i64 s.line) := h'.cell 3
  have H : Hid (WrAt N p w s) := ⟨ad, bv, h'⟩
  clear h'
  unfold WS.piece
  by_cases h0 : 0 < s.line
  · have h0' : (0 : Int) < s.line := by omega
    rw [if_pos h0]
    have C1 := hidOf (put_any N p w s [32] H.out hl (by simp; omega) (by simp; omega) (by simp))
    have C2 : Hid (∀ wx, WrAt N p wx (s.put [32]) → Calls Tryz.prog 174 #[.pointer (some ⟨p, 0, none⟩), .string ⟨t.toArray⟩] wx fun e w' => WEnd N p wx ((s.put [32]).put t) e w') := fun wx hx => put_any N p wx _ t hx (put_len s [32] hl hls).1 (by simp [WS.put]; omega) (by simp [WS.put]; omega) ht
    go_enter Tryz.func173, Tryz.ntmps173
    go_upto_region 2 with (go_at_call 174; refine C1.out.mono ?_; rintro e w1 ⟨⟨v, rfl⟩, hq, hb⟩; have H1 := hidOf hq; have B1 := hidOf hb; clear hq hb)
    go_wp2_with (go_at_call 174; refine (C2.out w1 H1.out).mono ?_; rintro e w2 ⟨⟨v, rfl⟩, hq, hb⟩; have H2 := hidOf hq; have B2 := hidOf hb; clear hq hb)
    go_end0
    exact ⟨⟨_, rfl⟩, H2.out, Below.step B1.out B2.out⟩
  · have h0' : ¬ (0 : Int) < s.line := by omega
    rw [if_neg h0]
    have C1 := hidOf (put_any N p w s t H.out hl (by omega) (by omega) ht)
    go_enter Tryz.func173, Tryz.ntmps173
    go_wp2_with (go_at_call 174; refine C1.out.mono ?_; rintro e w1 ⟨⟨v, rfl⟩, hq, hb⟩; have H1 := hidOf hq; have B1 := hidOf hb; clear hq hb)
    go_end0
    exact ⟨⟨_, rfl⟩, H1.out, B1.out⟩
end Go.Proofs.YtkihaohdcgjioaaGreatDoor.Lx
namespace Go.Proofs.YtkihaohdcgjioaaGreatDoor.Lx
open Go.RowKit
set_option linter.unusedVariables false
set_option linter.unusedSimpArgs false
theorem mixed_ : Tryz.prog.follows Departure.mixedOrders = true := by kernel_rfl
set_option maxHeartbeats 2000000 in
set_option maxRecDepth 100000 in
theorem string_any (N p : Nat) (w : World) (s : WS) (h : WrAt N p w s) (hl : s.l.length ≤ 16777216) :
    Calls Tryz.prog 32 #[.pointer (some ⟨p, 0, none⟩)] w fun e w' => e = .returned (.string ⟨s.l.toArray⟩) ∧ Below N w w' := by
  have mixed := mixed_
  obtain ⟨ad, bv, h⟩ := h
  obtain ⟨l, size, line⟩ := s
  simp only at h hl ⊢
  by_cases h0 : l = []
  · subst h0
    have hbv := h.nil_ rfl
    subst hbv
    have c1 : w.drew.cell? ⟨p, 1, none⟩ = some (.slice none 0 0) := h.cell 1
    have hUS : ∀ W, (Builtin.unsafeString_ #[108, 3] 9 #[.pointer none, .int .i64 0]).run Tryz.prog W = .ok (.string .empty) W := fun W => Lib.run_unsafeString_none W _ _ _ none
    have hSD : (Builtin.unsafeSliceData_ #[24] 108 #[.slice none 0 0]).run Tryz.prog w.drew = .ok (.pointer none) w.drew := rfl
    clear h
    go_enter Tryz.func32, Tryz.ntmps32
    go_wp2
    go_region_o
    all_goals (go_wp2; go_ret; exact ⟨rfl, Below.drew (Below.refl N w)⟩)
  · have hl0 : l.length ≠ 0 := by simpa using h0
    obtain ⟨g, cap, cur, rfl, hbg, hg, hnc, hcm, hcs, htake⟩ : ∃ g cap cur, bv = .slice (some ⟨g, 0, none⟩) l.length cap ∧ N ≤ g ∧ w.heap[g]? = some (.cells cur 5 (0, 0)) ∧ l.length ≤ cap ∧ cap ≤ maxLen ∧ cur.size = cap * 1 ∧ cur.toList.take (l.length * 1) = Lib.byteCells l := by
      rcases h.own.2 with ⟨_, hz⟩ | ⟨g, cap, cur, hv, r⟩
      · exact absurd hz hl0
      · exact ⟨g, cap, cur, hv, r⟩
    have c1 : w.drew.cell? ⟨p, 1, none⟩ = some (.slice (some ⟨g, 0, none⟩) l.length cap) := h.cell 1
    have hSD : (Builtin.unsafeSliceData_ #[24] 108 #[.slice (some ⟨g, 0, none⟩) l.length cap]).run Tryz.prog w.drew = .ok (.pointer (some ⟨g, 0, none⟩)) w.drew :=
      Lib.run_unsafeSliceData_row _ _ _ _ _ _ (by omega)
    have hown := h.own
    have hUS : (Builtin.unsafeString_ #[108, 3] 9 #[.pointer (some ⟨g, 0, none⟩), .int .i64 l.length]).run Tryz.prog w.drew = .ok (.string ⟨l.toArray⟩) (w.drew.freeze ⟨g, 0, none⟩ l.length) := by
      refine Lib.run_unsafeString_row w.drew 108 3 9 5 Tryz.underlying108 Tryz.Builder_Extra_169.cellsByte g cur.size (by have hg' : w.drew.heap[g]? = some (.cells cur 5 (0, 0)) := hg; simp [World.shape?, hg']) l h0 (by omega) (by omega) ?_
      intro j x hx
      have := hown.cells (g := g) rfl j (.int .u8 x.toNat) (by simp [Lib.byteCells, hx])
      exact this
    clear h hown htake hcs hg
    go_enter Tryz.func32, Tryz.ntmps32
    go_wp2
    go_region_o
    all_goals (go_wp2; go_ret; exact ⟨rfl, Lib.below_freeze (Below.drew (Below.refl N w)) (p := ⟨g, 0, none⟩) hbg _⟩)
theorem pre2 (l : List UInt8) : Lib.hasPrefix l [48, 120] = decide (l.take 2 = [48, 120]) := by
  unfold Lib.hasPrefix
  match l with
  | [] => rfl
  | [a] => simp [List.isPrefixOf]
  | a :: b :: r =>
    by_cases ha : a = 48
    · by_cases hb : b = 120
      · simp [List.isPrefixOf, ha, hb]
      · have hb' : ¬ 120 = b := fun h => hb h.symm
        simp [List.isPrefixOf, ha, hb, hb']
    · have ha' : ¬ 48 = a := fun h => ha h.symm
      simp [List.isPrefixOf, ha, ha']
set_option maxRecDepth 20000 in
theorem int_empty (w : World) : Calls Tryz.prog 252 #[.string ⟨#[]⟩, .int .i64 16, .int .i64 64] w fun e w' => e = .returned (.tuple #[.int .u64 0, .iface 291 (.int .i64 2)]) ∧ w' = w := by
  go_enter Tryz.func252, Tryz.ntmps252
  go_wp2
  go_ret2
  exact ⟨rfl, rfl⟩
theorem pub_empty (N : Nat) (w : World) (hE : Env N w) : Calls Tryz.prog 226 #[.string ⟨#[]⟩, .int .i64 16, .int .i64 64] w fun e w' => PubEnd w none e w' := by
  have CP := hidOf (int_empty w)
  obtain ⟨ev, hv, hev⟩ := hE.es
  have CT : Hid (Calls Tryz.prog 253 #[.string ⟨#[80, 97, 114, 115, 101, 85, 105, 110, 116]⟩, .string ⟨#[]⟩, .int .i64 16, .int .i64 64, .iface 291 (.int .i64 2)] w fun e w' => ∃ N, e = .returned (.iface 293 (.pointer (some ⟨N, 0, none⟩))) ∧ Out w w') := (Tryz.strconv_toError_syntax _ ⟨#[]⟩ 16 64 ev w (by decide) hv hev).mono fun e w' ⟨M, h1, _, _, h4⟩ => ⟨M, h1, h4⟩
  clear hv hev
  go_enter Tryz.func226, Tryz.ntmps226
  go_wp2_with (first | (go_at_call 252; refine CP.out.mono ?_; rintro e wx ⟨rfl, hwx⟩; have hwx := hwx.symm; subst hwx) | (go_at_call 253; refine CT.out.mono ?_; rintro e w2 ⟨M, rfl, ho⟩; have HO := hidOf ho; clear ho))
  go_ret2
  exact ⟨HO.out, _, _, _, rfl⟩
set_option maxHeartbeats 2000000 in
theorem valC : ValC := by
  intro N t w hE hne hlen
  have hsz : (⟨t.toArray⟩ : ByteArray).size = t.length := mk_size t
  have CC : Hid (Calls Tryz.prog 171 #[.string ⟨t.toArray⟩, .string ⟨#[48, 120]⟩] w fun e w' => e = .returned (.tuple #[.string ⟨(Lib.trimPrefix t [48, 120]).toArray⟩, .bool (Lib.hasPrefix t [48, 120])]) ∧ w' = w) := Tryz.strings_CutPrefix ⟨t.toArray⟩ ⟨#[48, 120]⟩ w
  unfold Lib.trimPrefix at CC
  rw [pre2] at CC
  unfold valP
  by_cases hx : t.take 2 = [48, 120]
  · rw [if_pos hx]
    rw [decide_eq_true hx, if_pos rfl] at CC
    obtain ⟨d, hd⟩ : ∃ d, d = t.drop 2 := ⟨_, rfl⟩
    have hl2 : 2 ≤ t.length := by have := congrArg List.length hx; rw [List.length_take] at this; simp at this; omega
    have hdl : d.length = t.length - 2 := by rw [hd, List.length_drop]
    rw [show t.drop [(48 : UInt8), 120].length = d from hd.symm] at CC
    rw [← hd]
    clear hd hx
    by_cases h16 : 16 < d.length
    · have h16' : (16 : Int) < d.length := by omega
      rw [if_neg (fun h => by omega)]
      go_enter Tryz.func188, Tryz.ntmps188
      go_wp2_with (go_at_call 171; refine CC.out.mono ?_; rintro e w1 ⟨rfl, hw1⟩; have hw1 := hw1.symm; subst hw1)
      go_ret2
      exact ⟨rfl, Out.refl _⟩
    · have h16' : ¬ (16 : Int) < d.length := by omega
      have hdsz : (⟨d.toArray⟩ : ByteArray).size = d.length := mk_size d
      by_cases h0 : d.length = 0
      · obtain rfl : d = [] := List.length_eq_zero_iff.1 h0
        rw [if_neg (fun h => by simp at hdl; omega)]
        have CP : Hid (Calls Tryz.prog 226 #[.string ⟨#[]⟩, .int .i64 16, .int .i64 64] w fun e w' => PubEnd w none e w') := pub_empty N w hE
        go_enter Tryz.func188, Tryz.ntmps188
        go_wp2_with (first | (go_at_call 171; refine CC.out.mono ?_; rintro e w1 ⟨rfl, hw1⟩; have hw1 := hw1.symm; subst hw1) | (go_at_call 226; refine CP.out.mono ?_; rintro e w2 ⟨ho, x, a, b, rfl⟩; have HO := hidOf ho; clear ho))
        go_ret2
        exact ⟨rfl, HO.out⟩
      · have CP := hidOf (pub16 N ⟨d.toArray⟩ (by rw [hdsz]; exact h0) (by rw [hdsz]; omega) w hE)
        have hdd : (⟨d.toArray⟩ : ByteArray).data.toList = d := rfl
        rw [hdd] at CP
        by_cases ha : d.all hexU = true
        · rw [if_pos ⟨by omega, by omega, ha⟩]
          rw [if_pos ha] at CP
          go_enter Tryz.func188, Tryz.ntmps188
          go_wp2_with (first | (go_at_call 171; refine CC.out.mono ?_; rintro e w1 ⟨rfl, hw1⟩; have hw1 := hw1.symm; subst hw1) | (go_at_call 226; refine CP.out.mono ?_; rintro e w2 ⟨ho, rfl⟩; have HO := hidOf ho; clear ho))
          go_ret2
          exact ⟨rfl, HO.out⟩
        · rw [if_neg (fun h => ha h.2.2)]
          rw [if_neg ha] at CP
          go_enter Tryz.func188, Tryz.ntmps188
          go_wp2_with (first | (go_at_call 171; refine CC.out.mono ?_; rintro e w1 ⟨rfl, hw1⟩; have hw1 := hw1.symm; subst hw1) | (go_at_call 226; refine CP.out.mono ?_; rintro e w2 ⟨ho, x, a, b, rfl⟩; have HO := hidOf ho; clear ho))
          go_ret2
          exact ⟨rfl, HO.out⟩
  · rw [if_neg hx]
    rw [decide_eq_false hx, if_neg (by decide)] at CC
    obtain ⟨c, r, rfl⟩ : ∃ c r, t = c :: r := by cases t with | nil => exact absurd rfl hne | cons c r => exact ⟨c, r, rfl⟩
    have hlt : (0 : Int) < (⟨(c :: r).toArray⟩ : ByteArray).size := by rw [hsz]; simp
    have ix : ∀ h, (⟨(c :: r).toArray⟩ : ByteArray)[0]'h = c := fun h => rfl
    have hie : (⟨(c :: r).toArray⟩ : ByteArray).toList = c :: r := mk_list _
    by_cases hc : c = 48
    · subst hc
      by_cases hr : r = []
      · subst hr
        rw [if_neg (fun h => h.2 rfl)]
        have CP := hidOf (pub10 N [48] (by simp) (by simp) w hE)
        rw [if_pos ⟨by decide, by decide⟩] at CP ⊢
        have e0 : ((decV 0 [48] : Nat) : Int) = 0 := by decide
        rw [e0] at CP ⊢
        go_enter Tryz.func188, Tryz.ntmps188
        go_wp2_with (first | (go_at_call 171; refine CC.out.mono ?_; rintro e w1 ⟨rfl, hw1⟩; have hw1 := hw1.symm; subst hw1) | (go_at_call 226; refine CP.out.mono ?_; rintro e w2 ⟨ho, rfl⟩; have HO := hidOf ho; clear ho))
        go_ret2
        exact ⟨rfl, HO.out⟩
      · rw [if_pos ⟨rfl, fun h => hr (by simpa using h)⟩]
        have hq : r.isEmpty = false := by cases r with | nil => exact absurd rfl hr | cons x y => rfl
        go_enter Tryz.func188, Tryz.ntmps188
        go_wp2_with (go_at_call 171; refine CC.out.mono ?_; rintro e w1 ⟨rfl, hw1⟩; have hw1 := hw1.symm; subst hw1)
        go_ret2
        exact ⟨rfl, Out.refl _⟩
    · rw [if_neg (fun h => hc (by simpa using h.1))]
      have hcn : ((c.toNat : Int) == 48) = false := by
        simp only [beq_eq_false_iff_ne]
        intro h
        exact hc (UInt8.toNat_inj.1 (by show c.toNat = 48; omega))
      have CP := hidOf (pub10 N (c :: r) (by simp) (by omega) w hE)
      by_cases ha : (c :: r).all digU = true ∧ decV 0 (c :: r) ≤ 18446744073709551615
      · rw [if_pos ha] at CP ⊢
        go_enter Tryz.func188, Tryz.ntmps188
        go_wp2_with (first | (go_at_call 171; refine CC.out.mono ?_; rintro e w1 ⟨rfl, hw1⟩; have hw1 := hw1.symm; subst hw1) | (go_at_call 226; refine CP.out.mono ?_; rintro e w2 ⟨ho, rfl⟩; have HO := hidOf ho; clear ho))
        go_ret2
        exact ⟨rfl, HO.out⟩
      · rw [if_neg ha] at CP ⊢
        go_enter Tryz.func188, Tryz.ntmps188
        go_wp2_with (first | (go_at_call 171; refine CC.out.mono ?_; rintro e w1 ⟨rfl, hw1⟩; have hw1 := hw1.symm; subst hw1) | (go_at_call 226; refine CP.out.mono ?_; rintro e w2 ⟨ho, x, a, b, rfl⟩; have HO := hidOf ho; clear ho))
        go_ret2
        exact ⟨rfl, HO.out⟩
end Go.Proofs.YtkihaohdcgjioaaGreatDoor.Lx
