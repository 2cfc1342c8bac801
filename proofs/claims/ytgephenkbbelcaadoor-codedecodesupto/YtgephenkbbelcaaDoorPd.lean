import Derived.Test.YtgephenkbbelcaaDoorPf
namespace Go.Proofs.YtgephenkbbelcaaDoor
open Go.RowKit
set_option linter.unusedVariables false
set_option linter.unusedSimpArgs false

theorem info8 : (Tryd.prog.info? 5).map (fun i => (i.zero, i.size, i.bytes)) = some (some (.int .u8 0), 1, 1) := by kernel_rfl
def bV (B : List Int) : List Value := B.map (Value.int .u8)
theorem owns_row {w : World} {B g n : Nat} {e : TypeId} {f : Nat → Value} {xs : List Value} (h : w.rowIs g e n f) (hB : B ≤ g) (hn : n ≤ maxLen) (hx : xs.length = n) (hf : ∀ j, j < n → xs[j]? = some (f j)) : w.ownsRow B e 1 (.slice (some ⟨g, 0, none⟩) n n) n xs := by
  obtain ⟨c, hb, hs, hc⟩ := h
  refine ⟨by omega, .inr ⟨g, n, c, rfl, hB, hb, Nat.le_refl _, hn, by omega, ?_⟩⟩
  apply List.ext_getElem?
  intro j
  rw [Nat.mul_one, List.getElem?_take]
  by_cases hj : j < n
  · rw [if_pos hj, hf j hj, ← hc j hj]; simp
  · rw [if_neg hj, List.getElem?_eq_none (by omega)]
/-- bytes in memory of the call's own -/
def OwnB (w w' : World) (v : Value) (B : List Int) : Prop := w'.ownsRow w.heap.size 5 1 v B.length (bV B)
/-- Encode's answer -/
def EncIs (w w' : World) (l : List Ins) (v : Value) (k f : Int) : Prop :=
  (v = .slice none 0 0 ∧ RefIs l k f ∧ f ≠ 0) ∨ (k = 0 ∧ f = 0 ∧ (∀ x ∈ l, may x = 0) ∧ OwnB w w' v (encL l) ∧ ∃ g, w.heap.size ≤ g ∧ v = .slice (some ⟨g, 0, none⟩) (encL l).length (encL l).length)
def zrow : Nat → Value := fun _ => .int .u8 0
theorem enc_take (l : List Ins) (k : Nat) (x : Ins) (h : l[k]? = some x) : encL (l.take (k + 1)) = encL (l.take k) ++ enc1 x := by
  rw [List.take_add_one, h, encL_append]; simp [encL]
theorem slots_take (l : List Ins) (k : Nat) : slotsP (l.take k) ≤ slotsP l := by
  have : slotsP l = slotsP (l.take k) + slotsP (l.drop k) := by rw [← slotsP_append, List.take_append_drop]
  omega
theorem slots_le (l : List Ins) : slotsP l ≤ 2 * l.length := by
  have := List.length_filter_le (fun x : Ins => isW x.o) l
  simp only [slotsP]; omega
theorem layInsn_any (w : World) (g n o len cap : Nat) (f : Nat → Value) (op d s fo i : Int) (hr : w.rowIs g 5 n f) (ho : o + sizeI op ≤ n) (hl : sizeI op ≤ len) (hll : len ≤ 1000000000000000) (hcap : len ≤ cap) (hx : Fit ⟨op, d, s, fo, i⟩) (hz : ∀ j, o ≤ j → j < n → f j = .int .u8 0) :
    Calls Tryd.prog 24 #[.slice (some ⟨g, o, none⟩) len cap, .agg #[.int .i64 op, .int .i64 d, .int .i64 s, .int .i64 fo, .int .i64 i]] w fun e w' => e = .returned (.int .i64 (sizeI op : Nat)) ∧ Lays g n o f (enc1 ⟨op, d, s, fo, i⟩) w w' := by
  cases hw : isW op
  · have e : sizeI op = 8 := by simp [sizeI, hw]
    rw [e] at ho hl ⊢
    exact layInsn_narrow w g n o len cap f op d s fo i hr ho hl hll hcap hx hw
  · have e : sizeI op = 16 := by simp [sizeI, hw]
    rw [e] at ho hl ⊢
    exact layInsn_wide w g n o len cap f op d s fo i hr ho hl hll hcap hx hw hz
theorem encode_any (w : World) (ht : Tabs w) (a : Option Addr) (n cap : Nat) (l : List Ins) (hn : l.length = n) (hi : InsA w a l) (hm : n ≤ 3518437208883) (hI : ∀ x ∈ l, -9223372036854775808 ≤ x.i ∧ x.i ≤ 9223372036854775807) :
    Calls Tryd.prog 13 #[.slice a n cap] w fun e w' => ∃ v k f, e = .returned (.tuple #[v, .int .i64 k, .int .i64 f]) ∧ EncIs w w' l v k f ∧ Out w w' := by
  have HS := slots_le l
  obtain ⟨q, hq⟩ : ∃ q, slotsP l = q := ⟨_, rfl⟩
  have hq0 : q ≤ 7036874417766 := by omega
  have hmk : ∀ w : World, (Instr.makeSlice 22 (.int .i64 (8 * (q : Int))) (.int .i64 (8 * (q : Int)))).run Tryd.prog w = .ok (.slice (some ⟨w.heap.size, 0, none⟩) (8 * q) (8 * q)) (w.alloc (.cells (madeCells #[.int .u8 0] (8 * q)) 5)) := fun w => by
    have := run_make_row' (P := Tryd.prog) 22 5 (.int .u8 0) 1 Tryd.underlying22 info8 rfl .i64 .i64 (8 * q) (by omega) (by omega) w
    simpa using this
  have Hn := hidOf hn
  have HI := hidOf hI
  have Hq := hidOf hq
  have Hi := hidOf hi
  have Ht := hidOf ht
  clear hn hI hq hi ht HS
  have hs1 : (q : Int) ≤ 7036874417766 := by omega
  go_enter Tryd.func13, Tryd.ntmps13
  go_upto_region 2 with (go_at_call 22; refine (refused_any _ Ht.out a n cap l Hn.out Hi.out (by omega)).mono ?_; rintro e w1 ⟨k, f, rfl, href, ho1⟩)
  have Href := hidOf href
  have Ho1 := hidOf ho1
  clear href ho1
  cases hf : (f != 0)
  · have hf0 : f = 0 := by simpa using hf
    subst hf0
    have Hall : Hid (∀ x ∈ l, may x = 0) := by
      rcases Href.out with ⟨h, _⟩ | ⟨_, _, _, _, _, h, _⟩
      · exact h
      · exact absurd rfl h
    go_wp2_with (go_at_call 23; refine (slots_any _ a n cap l Hn.out (Hi.out.out Ho1.out) (by omega)).mono ?_; rw [Hq.out]; rintro e w2 ⟨rfl, ho2⟩)
    have hg : w.heap.size ≤ w2.heap.size := Nat.le_trans Ho1.out.size ho2.size
    have Hw2 := hidOf (Out.trans Ho1.out ho2)
    clear hmk hf ho2
    go_loopw [8, 27] (fun v i wr => ∃ j o r p : Nat, j ≤ n ∧ i = .int .i64 j ∧ o + r = 8 * q ∧ (r ≠ 0 → p = o) ∧ v = .slice (some ⟨w2.heap.size, p, none⟩) r r ∧ Hid (o = (encL (l.take j)).length) ∧ Hid (wr.rowIs w2.heap.size 5 (8 * q) (lay zrow 0 (encL (l.take j)))) ∧ Hid (Out w wr)) (fun _ i _ => n - (intOf i).toNat)
    case atStart =>
      refine ⟨0, 0, 8 * q, 0, by omega, rfl, by omega, fun _ => rfl, rfl, by simp [Hid, encL], ?_, hidOf (Hw2.out.alloc _)⟩
      exact (World.rowIs_made w2 (.int .u8 0) (8 * q) 5).congr (fun j _ => by simp [lay, encL, zrow])
    case round =>
      obtain ⟨j, o, r, p, hj, rfl, hor, hp, rfl, Ho, Hrow, Hout⟩ := hrel
      by_cases hjn : j < n
      · have hlt : (j : Int) < n := by omega
        obtain ⟨x, hx⟩ : ∃ x, l[j]? = some x := ⟨_, List.getElem?_eq_getElem (by have := Hn.out; omega)⟩
        have hxm : x ∈ l := List.mem_of_getElem? hx
        have hfit : Fit x := may_fit x (Hall.out x hxm) (HI.out x hxm).1 (HI.out x hxm).2
        have hsz : o + sizeI x.o ≤ 8 * q := by
          have e1 := enc_take l j x hx
          have e2 := encL_len (l.take (j + 1))
          have e3 := slots_take l (j + 1)
          rw [e1, List.length_append, enc1_len, ← Ho.out] at e2
          have := Hq.out
          omega
        have hpos : 8 ≤ sizeI x.o := by unfold sizeI; split <;> omega
        obtain rfl : p = o := hp (by omega)
        clear hp
        rcases Hi.out with hz | ⟨b, off, rfl, hc⟩
        · have := Hn.out; simp [hz] at this; omega
        obtain ⟨c0, c1, c2, c3, c4⟩ := hc j x hx
        have q0 := cell_later Hout.out c0
        have q1 := cell_later Hout.out c1
        have q2 := cell_later Hout.out c2
        have q3 := cell_later Hout.out c3
        have q4 := cell_later Hout.out c4
        have hz0 : ∀ y, p ≤ y → y < 8 * q → lay zrow 0 (encL (l.take j)) y = .int .u8 0 := fun y hy _ => by
          have := Ho.out
          unfold lay; rw [if_neg (by omega)]; rfl
        have HL : Hid (∀ wx : World, wx.rowIs w2.heap.size 5 (8 * q) (lay zrow 0 (encL (l.take j))) → Calls Tryd.prog 24 #[.slice (some ⟨w2.heap.size, p, none⟩) r r, .agg #[.int .i64 x.o, .int .i64 x.d, .int .i64 x.s, .int .i64 x.f, .int .i64 x.i]] wx fun e w' => e = .returned (.int .i64 (sizeI x.o : Nat)) ∧ Lays w2.heap.size (8 * q) p (lay zrow 0 (encL (l.take j))) (enc1 x) wx w') := fun wx hwx => layInsn_any wx w2.heap.size (8 * q) p r r _ x.o x.d x.s x.f x.i hwx hsz (by omega) (by omega) (Nat.le_refl _) hfit hz0
        have hnew := enc_take l j x hx
        have Hnew := hidOf hnew
        have Hsx := hidOf (enc1_len x)
        generalize hsz' : sizeI x.o = z at *
        generalize x.o = xo at *
        generalize x.d = xd at *
        generalize x.s = xs at *
        generalize x.f = xf at *
        generalize x.i = xi at *
        clear hc c0 c1 c2 c3 c4 hz0 hnew hfit
        have hzr : (z : Int) ≤ r := by omega
        have Hfin : Hid (∀ wz : World, wz.rowIs w2.heap.size 5 (8 * q) (lay (lay zrow 0 (encL (l.take j))) p (enc1 x)) → wz.rowIs w2.heap.size 5 (8 * q) (lay zrow 0 (encL (l.take (j + 1))))) := fun wz h => by
          rw [lay_app zrow 0 p _ _ (by have := Ho.out; omega)] at h
          rw [Hnew.out]; exact h
        have Hl : Hid (p + z = (encL (l.take (j + 1))).length) := by
          show _ = _
          rw [Hnew.out, List.length_append, Hsx.out, ← Ho.out]
        by_cases hlast : r = z
        · subst hlast
          go_wp2_with (go_at_call 24; refine (HL.out _ (Hrow.out.alloc _)).mono ?_; rintro e w3 ⟨rfl, hrow3, hchg⟩)
          go_roundw
          case rel => exact ⟨j + 1, p + r, 0, p, by omega, by simp, by omega, fun h => absurd rfl h, by simp, Hl, Hfin.out _ hrow3, Chg.out hchg (Hout.out.alloc _) (fun k hk => by omega)⟩
          case measure => simp [intOf]; omega
        · go_wp2_with (go_at_call 24; refine (HL.out _ (Hrow.out.alloc _)).mono ?_; rintro e w3 ⟨rfl, hrow3, hchg⟩)
          go_roundw
          case rel => exact ⟨j + 1, p + z, r - z, p + z, by omega, by simp, by omega, fun h => rfl, by simp, Hl, Hfin.out _ hrow3, Chg.out hchg (Hout.out.alloc _) (fun k hk => by omega)⟩
          case measure => simp [intOf]; omega
      · have hlt : ¬ (j : Int) < n := by omega
        obtain rfl : j = n := by omega
        go_wp2
        go_ret3
        have e1 : l.take j = l := List.take_of_length_le (by have := Hn.out; omega)
        have e2 : (encL l).length = 8 * q := by rw [encL_len, Hq.out]
        have hrow := Hrow.out
        rw [e1] at hrow
        refine ⟨.slice (some ⟨w2.heap.size, 0, none⟩) (8 * q) (8 * q), 0, 0, rfl, .inr ⟨rfl, rfl, Hall.out, ?_, w2.heap.size, hg, by rw [e2]⟩, Hout.out⟩
        unfold OwnB
        rw [e2]
        refine owns_row hrow hg (by simp only [maxLen]; omega) (by rw [bV, List.length_map, e2]) (fun y hy => ?_)
        rw [bV, List.getElem?_map, List.getElem?_eq_getElem (by omega)]
        unfold lay
        rw [if_pos (by omega)]
        simp [gB, List.getElem?_eq_getElem (show y < (encL l).length by omega)]
  · go_wp2
    go_ret3
    exact ⟨_, _, _, rfl, .inl ⟨rfl, Href.out, by simpa using hf⟩, Ho1.out⟩
end Go.Proofs.YtgephenkbbelcaaDoor
