import Derived.Test.YtbdmbicnlfcclaaSql
namespace Go.Proofs.Ytbdmbicnlfcclaa
open Go.RowKit
set_option linter.unusedVariables false
set_option linter.unusedSimpArgs false
theorem xor8 (a z : Nat) (ha : a < 256) (hz : z < 256) : bits BinOp.xor IntKind.u8 (a : Int) (z : Int) = ((a ^^^ z : Nat) : Int) := by
  have hx : a ^^^ z < 2 ^ 8 := Nat.xor_lt_two_pow (by omega) (by omega)
  have h1 : (BitVec.ofInt 8 (a : Int)).toNat = a := by
    rw [BitVec.ofInt_natCast, BitVec.toNat_ofNat]; exact Nat.mod_eq_of_lt (by omega)
  have h2 : (BitVec.ofInt 8 (z : Int)).toNat = z := by
    rw [BitVec.ofInt_natCast, BitVec.toNat_ofNat]; exact Nat.mod_eq_of_lt (by omega)
  show IntKind.u8.wrap ((BitVec.ofInt 8 (a : Int) ^^^ BitVec.ofInt 8 (z : Int)).toNat : Int) = _
  rw [BitVec.toNat_xor, h1, h2, IntKind.wrap_u8]
  omega
theorem OwB.setB {B g c n : Nat} {l : List UInt8} {w : World} (h : OwB B (.slice (some ⟨g, 0, none⟩) n c) l w) (k : Nat) (y : UInt8) : OwB B (.slice (some ⟨g, 0, none⟩) n c) (l.set k y) (w.setCell ⟨g, k, none⟩ (.int .u8 (y.toNat : Int))) ∧ w.frozen? ⟨g, k, none⟩ = false ∧ B ≤ g := by
  rcases h.2 with ⟨hv, _⟩ | ⟨g', cap, cur, hv, hb, hg, hc, hm, hs, ht⟩
  · cases hv
  · simp only [Value.slice.injEq, Option.some.injEq, Addr.mk.injEq] at hv
    obtain ⟨⟨rfl, _⟩, rfl, rfl⟩ := hv
    refine ⟨⟨by simp [Lib.byteCells], .inr ⟨g, c, cur.setIfInBounds k (.int .u8 (y.toNat : Int)), by simp, hb, ?_, by simpa using hc, hm, by simpa using hs, ?_⟩⟩, by simp [World.frozen?, hg], hb⟩
    · simp [World.setCell, Array.getElem?_modify, hg]
    · rw [Array.toList_setIfInBounds, List.take_set, List.length_set, ht]
      simp [Lib.byteCells, List.map_set]
/-- what is new lies apart from the lender -/
theorem Rsy.apart {W w w' : World} {pl ps B : Nat} {tt : Int} {kn : Nat} (h : Rsy W w pl ps B tt kn) (o : Out w w') {v : Value} (hv : ∀ b, v.ownBlock = some b → w.heap.size ≤ b) : ApB w' pl v := fun b hb g m N L hD => by
  have h3 := hv b hb
  rcases h.ls with hn | ⟨g1, m1, N1, L1, hD1, hg1⟩
  · have h1 := hD.hp
    rw [(o.block pl (Array.getElem?_eq_some_iff.1 hn).1).trans hn] at h1; simp at h1
  · rw [hD.uniq2 (hD1.out o)]
    have := hD1.ltg
    omega
theorem OwB.adr {B n c : Nat} {a : Option Addr} {L : List UInt8} {w : World} (h : OwB B (.slice a n c) L w) (h0 : 0 < L.length) : ∃ g, a = some ⟨g, 0, none⟩ := by
  rcases h.2 with ⟨_, e⟩ | ⟨g, cap, cur, e, _⟩
  · omega
  · simp only [Value.slice.injEq] at e
    exact ⟨g, e.1⟩
theorem OwB.cellB {B g n c : Nat} {L : List UInt8} {w : World} (h : OwB B (.slice (some ⟨g, 0, none⟩) n c) L w) {k : Nat} {x : UInt8} (hx : L[k]? = some x) : w.cell? ⟨g, k, none⟩ = some (.int .u8 (x.toNat : Int)) ∧ w.frozen? ⟨g, k, none⟩ = false := by
  obtain ⟨a', c', hv, _, hat⟩ := OwB.rest h
  simp only [Value.slice.injEq] at hv
  obtain ⟨e1, _, _⟩ := hv
  have hk : 0 < L.length := by have := (List.getElem?_eq_some_iff.1 hx).1; omega
  obtain ⟨g', o', e2, _, hB⟩ := RestAt.at hat hk
  rw [e2] at e1
  simp only [Option.some.injEq, Addr.mk.injEq] at e1
  obtain ⟨rfl, rfl, _⟩ := e1
  refine ⟨by have := hB k x hx; rwa [Nat.zero_add] at this, ?_⟩
  obtain ⟨_, cs, hc⟩ := own_blkQ h (b := g) rfl
  exact frozen_atL hc k
set_option maxRecDepth 20000 in
set_option maxHeartbeats 400000 in
theorem symtabReads_walk (W : World) (a : Option Addr) (cap : Nat) (LL : List (List UInt8)) (hr : LbAt W a LL) (hcap : LL.length ≤ cap) (hll : LL.length ≤ 1048576) (hl : ∀ l ∈ LL, l.length ≤ 1048576) :
    Calls Try.prog 4 #[.slice a LL.length cap] W fun e W' => e = .returned (.bool true) ∧ Out W W' := by
  have HR := hidOf hr
  have HL := hidOf hl
  have hcI : (LL.length : Int) ≤ cap := by omega
  clear hr hl
  go_enter Try.func4, Try.ntmps4
  go_upto_region 5 with (go_at_call 8; refine (awake10 _).mono ?_; rintro e w1 ⟨rfl, ho⟩; have O1 := hidOf ho; clear ho)
  have HW0 := hidOf (Rsy.start O1.out)
  show Code.wp _ _ _ _ ((w1.alloc lendO).alloc symsO)
  have hsz : (w1.alloc (Obj.cells #[.slice none 0 0, .int .i64 0] 39 (0, 0))).heap.size = w1.heap.size + 1 := size_alloc _ _
  try rw [hsz]
  generalize (w1.alloc lendO).alloc symsO = w2 at *
  generalize w1.heap.size = d at *
  clear hsz O1
  go_wp2
  go_loopw [5] (fun iv wr => ∃ (i : Nat) (tt : Int), iv = .int .i64 i ∧ i ≤ LL.length ∧ tt ≤ 5000000 * (i : Int) ∧ Hid (Rsy W wr d (d + 1) d tt (60 * i))) (fun iv _ => LL.length - (intOf iv).toNat)
  case atStart => exact ⟨0, 0, rfl, by omega, by omega, HW0⟩
  case round =>
    clear HW0
    obtain ⟨i, tt, rfl, hi, htt, HS⟩ := hrel
    by_cases hiN : i < LL.length
    · have hlt : (i : Int) < LL.length := by omega
      have h0 : (0 : Int) ≤ i := by omega
      obtain ⟨l, hx⟩ : ∃ l, LL[i]? = some l := ⟨_, List.getElem?_eq_getElem hiN⟩
      obtain ⟨b, off, rfl, hcell⟩ := HR.out.resolve_left (fun e => by rw [e] at hiN; simp at hiN)
      obtain ⟨la, lc, q0, hsy, hlc⟩ := hcell i l hx
      have hll1 : l.length ≤ 1048576 := HL.out l (List.mem_of_getElem? hx)
      have CI : Hid (∀ wx tt kn, Rsy W wx d (d + 1) d tt kn → kn ≤ 400000000000 → tt ≤ 700000000000000 → Calls Try.prog 13 #[.slice la l.length lc, .pointer (some ⟨d, 0, none⟩), .pointer (some ⟨d + 1, 0, none⟩)] wx fun e w' => e = .returned (.bool true) ∧ ∃ tt', Rsy W w' d (d + 1) d tt' (kn + 15) ∧ tt' ≤ tt + l.length ∧ Frm d wx w') := fun wx tt kn h h1 h2 => h.readsI hsy hlc (by omega) h1 h2
      have CC : Hid (∀ wx, Out W wx → Calls Try.prog 12 #[.slice la l.length lc] wx fun e w' => ∃ v, e = .returned v ∧ OwB wx.heap.size v l w' ∧ Out wx w') := fun wx o => copyBytes_any wx la lc l (rest_out hsy o) (by omega)
      have q1 := cell_later HS.out.out q0
      have Q0 := hidOf q0
      clear hx hcell hsy q0
      go_upto_region 9 with (go_at_call 12; refine (CC.out wr HS.out.out).mono ?_; rintro e w4 ⟨v4, rfl, hown, ho⟩; obtain ⟨b4, c4, rfl⟩ := own_form hown; have W4 := hidOf hown; have P4 := hidOf ho; clear hown ho)
      have A4 := hidOf (HS.out.apart P4.out (v := .slice b4 l.length c4) (fun b hb => (World.ownsRow.lt W4.out b hb).1))
      have S4 := hidOf (HS.out.more P4.out)
      have q4 := cell_later S4.out.out Q0.out
      clear q1
      by_cases hl0 : l.length = 0
      · have hlI : ¬ (0 : Int) < l.length := by omega
        obtain ⟨O5, hO5⟩ : ∃ O, O = l := ⟨_, rfl⟩
        have W5 : Hid (OwB wr.heap.size (.slice b4 l.length c4) O5 w4) := hidOf (by rw [hO5]; exact W4.out)
        have A5 := A4
        have S5 := S4
        have HO5 : Hid (O5.length = l.length) := hidOf (by rw [hO5])
        clear hl0 hO5
        go_wp2_with (first
          | ((fail_if_success (have hh := S6)); go_at_call 13; refine (CI.out _ _ _ S5.out (by omega) (by omega)).mono ?_; rintro e w6 ⟨rfl, t6, hs, ht6, hf⟩; have S6 := hidOf hs; have W6 := hidOf (W5.out.frm A5.out hf); have q6 := cell_later hs.out Q0.out; clear hs hf)
          | ((fail_if_success (have hh := S7)); go_at_call 13; refine (CI.out w6 _ _ S6.out (by omega) (by omega)).mono ?_; rintro e w7 ⟨rfl, t7, hs, ht7, hf⟩; have S7 := hidOf hs; have W7 := hidOf (W6.out.1.frm W6.out.2 hf); have q7 := cell_later hs.out Q0.out; clear hs hf)
          | ((fail_if_success (have hh := S8)); go_at_call 13; go_loud (refine (S7.out.readsT W7.out.1 HO5.out W7.out.2 (by have := HO5.out; omega) (by omega) (by omega)).mono ?_); rintro e w8 ⟨rfl, t8, hs, ht8, hf⟩; have S8 := hidOf hs; have q8 := cell_later hs.out Q0.out; go_loud (have hu8 : t8 ≤ t7 + (l.length : Int) := by (have := HO5.out; omega)); clear hs hf ht8)
          | (go_at_call 13; go_loud (refine (CI.out w8 _ _ S8.out (by omega) (by omega)).mono ?_); rintro e w9 ⟨rfl, t9, hs, ht9, hf⟩; have S9 := hidOf hs; clear hs hf))
        go_roundw
        case rel =>
          refine ⟨i + 1, t9, by simp, by omega, by omega, ?_⟩
          have h := S9.out
          rw [show 60 * i + 15 + 15 + 15 + 15 = 60 * (i + 1) by omega] at h
          exact hidOf h
        case measure => simp [intOf]; omega
      · have hlI : (0 : Int) < l.length := by omega
        obtain ⟨g, rfl⟩ := W4.out.adr (by omega)
        obtain ⟨x, hx⟩ : ∃ x, l[l.length - 1]? = some x := ⟨_, List.getElem?_eq_getElem (by omega)⟩
        obtain ⟨k1, f1⟩ := W4.out.cellB hx
        obtain ⟨K, hK⟩ : ∃ K, K = l.length - 1 := ⟨_, rfl⟩
        rw [← hK] at k1 f1
        have hKI : (l.length : Int) - 1 = K := by omega
        have hKw : IntKind.i64.wrap ((l.length : Int) - 1) = K := by rw [IntKind.wrap_i64]; omega
        have hK0 : (0 : Int) ≤ K := by omega
        have hKl : (K : Int) < l.length := by omega
        have hx256 := x.toNat_lt
        obtain ⟨z, hz⟩ : ∃ z : UInt8, bits BinOp.xor IntKind.u8 (x.toNat : Int) 8 = (z.toNat : Int) := ⟨UInt8.ofNat (x.toNat ^^^ 8), by
          have hlt : x.toNat ^^^ 8 < 2 ^ 8 := Nat.xor_lt_two_pow (by omega) (by omega)
          rw [show (8 : Int) = ((8 : Nat) : Int) from rfl, xor8 x.toNat 8 (by omega) (by omega), UInt8.toNat_ofNat_of_lt' (by simpa [UInt8.size] using hlt)]⟩
        obtain ⟨O5, hO5⟩ : ∃ O, O = l.set K z := ⟨_, rfl⟩
        have W5 : Hid (OwB wr.heap.size (.slice (some ⟨g, 0, none⟩) l.length c4) O5 (w4.setCell ⟨g, K, none⟩ (.int .u8 (z.toNat : Int)))) := hidOf (by rw [hO5]; exact (W4.out.setB K z).1)
        have hgw : Hid (wr.heap.size ≤ g) := hidOf (World.ownsRow.lt W4.out g rfl).1
        have P5 : Hid (Out wr (w4.setCell ⟨g, K, none⟩ (.int .u8 (z.toNat : Int)))) := hidOf (Out.setCell P4.out (a := ⟨g, K, none⟩) hgw.out _)
        have A5 := hidOf (HS.out.apart P5.out (v := .slice (some ⟨g, 0, none⟩) l.length c4) (fun b hb => (World.ownsRow.lt W4.out b hb).1))
        have S5 := hidOf (HS.out.more P5.out)
        have q5 := cell_later S5.out.out Q0.out
        have HO5 : Hid (O5.length = l.length) := hidOf (by rw [hO5]; simp)
        clear hx hK hO5
        go_upto_region 11 with fail
        clear k1 f1
        generalize w4.setCell ⟨g, K, none⟩ (.int .u8 (z.toNat : Int)) = w5 at *
        go_wp2_with (first
          | ((fail_if_success (have hh := S6)); go_at_call 13; refine (CI.out _ _ _ S5.out (by omega) (by omega)).mono ?_; rintro e w6 ⟨rfl, t6, hs, ht6, hf⟩; have S6 := hidOf hs; have W6 := hidOf (W5.out.frm A5.out hf); have q6 := cell_later hs.out Q0.out; clear hs hf)
          | ((fail_if_success (have hh := S7)); go_at_call 13; refine (CI.out w6 _ _ S6.out (by omega) (by omega)).mono ?_; rintro e w7 ⟨rfl, t7, hs, ht7, hf⟩; have S7 := hidOf hs; have W7 := hidOf (W6.out.1.frm W6.out.2 hf); have q7 := cell_later hs.out Q0.out; clear hs hf)
          | ((fail_if_success (have hh := S8)); go_at_call 13; go_loud (refine (S7.out.readsT W7.out.1 HO5.out W7.out.2 (by have := HO5.out; omega) (by omega) (by omega)).mono ?_); rintro e w8 ⟨rfl, t8, hs, ht8, hf⟩; have S8 := hidOf hs; have q8 := cell_later hs.out Q0.out; go_loud (have hu8 : t8 ≤ t7 + (l.length : Int) := by (have := HO5.out; omega)); clear hs hf ht8)
          | (go_at_call 13; go_loud (refine (CI.out w8 _ _ S8.out (by omega) (by omega)).mono ?_); rintro e w9 ⟨rfl, t9, hs, ht9, hf⟩; have S9 := hidOf hs; clear hs hf))
        go_roundw
        case rel =>
          refine ⟨i + 1, t9, by simp, by omega, by omega, ?_⟩
          have h := S9.out
          rw [show 60 * i + 15 + 15 + 15 + 15 = 60 * (i + 1) by omega] at h
          exact hidOf h
        case measure => simp [intOf]; omega
    · have hlt : ¬ (i : Int) < LL.length := by omega
      have CH := hidOf (HS.out.holds (by omega))
      go_wp2_with (go_at_call 14; refine CH.out.mono ?_; rintro e w3 ⟨rfl, ho⟩; have O3 := hidOf (Out.trans HS.out.out ho); clear ho)
      go_ret
      exact ⟨rfl, O3.out⟩
end Go.Proofs.Ytbdmbicnlfcclaa
