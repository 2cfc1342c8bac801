import Derived.Test.YthdgmhohofakgaaGreatDoorImq
namespace Go.Proofs.YthdgmhohofakgaaGreatDoor
open Go.RowKit
set_option linter.unusedVariables false
set_option linter.unusedSimpArgs false
theorem txt_take {T : List Ins} {k : Nat} {x : Ins} (h : T[k]? = some x) : txtB (T.take (k + 1)) = txtB (T.take k) ++ insB x := by rw [take_snoc h, txtB_app]; simp [txtB]
theorem slots_take {T : List Ins} {k : Nat} {x : Ins} (h : T[k]? = some x) : slotsP (T.take (k + 1)) = slotsP (T.take k) + (if isW x.o then 2 else 1) := by
  rw [take_snoc h, slots_app, slots_cons]; simp [slotsP]
theorem slots_le (T : List Ins) (k : Nat) : slotsP (T.take k) ≤ slotsP T := by
  have : slotsP T = slotsP (T.take k) + slotsP (T.drop k) := by rw [← slots_app, List.take_append_drop]
  omega
theorem fit_parts {x : Ins} (h : fitI x = true) : (0 ≤ x.o ∧ x.o ≤ 255) ∧ (0 ≤ x.d ∧ x.d ≤ 15) ∧ (0 ≤ x.s ∧ x.s ≤ 15) ∧ (-32768 ≤ x.f ∧ x.f ≤ 32767) := by
  simp only [fitI, Bool.and_eq_true, decide_eq_true_eq, Bool.or_eq_true] at h
  obtain ⟨⟨⟨⟨h1, h2⟩, h3⟩, h4⟩, h5⟩ := h
  exact ⟨h1, h2, h3, h4⟩
/-- the fields of a slot, put together -/
theorem fld_or {x : Ins} (h : fitI x = true) : bits BinOp.or IntKind.i64 (bits BinOp.or IntKind.i64 (bits BinOp.or IntKind.i64 x.o (x.d * 256)) (x.s * 4096)) (x.f * 65536) = fldI x := by
  obtain ⟨⟨a, b⟩, ⟨c, d⟩, ⟨e, f⟩, g, i⟩ := fit_parts h
  rw [or_8 _ _ (by omega) (by omega) (by omega) (by omega), or_12 _ _ (by omega) (by omega) (by omega) (by omega), or_16 _ _ (by omega) (by omega) (by omega) (by omega)]
  unfold fldI; omega
/-- two numbers, by a list that is made on the spot -/
theorem num2W (w : World) (p g o : Nat) (B : List UInt8) (c1 o1 c2 o2 : Nat) (x1 x2 : Int) (t : TypeId) (h : Tp w p g o B) (h1 : w.cell? ⟨c1, o1, none⟩ = some (.int .i64 x1)) (h2 : w.cell? ⟨c2, o2, none⟩ = some (.int .i64 x2)) (n1 : ¬ c1 = p ∧ ¬ c1 = g) (n2 : ¬ c2 = p ∧ ¬ c2 = g) (hr : o + 8 ≤ B.length) (hB : B.length ≤ 1000000000000) :
    Calls Tryz.prog 48 #[.pointer (some ⟨p, 0, none⟩), .slice (some ⟨w.heap.size, 0, none⟩) 2 2] (w.alloc (.cells #[.pointer (some ⟨c1, o1, none⟩), .pointer (some ⟨c2, o2, none⟩)] t)) fun e w' => (∃ v, e = .returned v) ∧ Tp w' p g (o + 8) (putB B o (b4 x1 ++ b4 x2)) ∧ Chg (fun k => k = p ∨ k = g) (w.alloc (.cells #[.pointer (some ⟨c1, o1, none⟩), .pointer (some ⟨c2, o2, none⟩)] t)) w' := by
  have hpl := (Array.getElem?_eq_some_iff.1 h.t).1
  have hgl := (Array.getElem?_eq_some_iff.1 h.b).1
  have oA : Out w (w.alloc (.cells #[.pointer (some ⟨c1, o1, none⟩), .pointer (some ⟨c2, o2, none⟩)] t)) := Out.alloc (Out.refl _) _
  have := numbersW_any (w.alloc (.cells #[.pointer (some ⟨c1, o1, none⟩), .pointer (some ⟨c2, o2, none⟩)] t)) p g o w.heap.size B [(c1, o1, x1), (c2, o2, x2)] (h.out oA) (fun i b o' x hx => by
    rcases i with _ | _ | i
    · simp at hx; obtain ⟨rfl, rfl, rfl⟩ := hx; exact ⟨cell_fresh w _ _ 0 _ rfl, cell_later oA h1⟩
    · simp at hx; obtain ⟨rfl, rfl, rfl⟩ := hx; exact ⟨cell_fresh w _ _ 1 _ rfl, cell_later oA h2⟩
    · simp at hx) (fun y hy => by
    simp at hy
    rcases hy with rfl | rfl
    · exact n1
    · exact n2) (by omega) (by omega) (by simpa using hr) hB
  simpa [b4s] using this
theorem out_chg {S : Nat → Prop} {wT w w' : World} (ho : Out wT w) (hc : Chg S w w') (hS : ∀ k, S k → wT.heap.size ≤ k) : Out wT w' := Chg.out hc ho hS
set_option maxRecDepth 8000 in
set_option maxHeartbeats 4000000 in
theorem layText_any (wT w : World) (p g o : Nat) (B : List UInt8) (T : List Ins) (ta : Option Addr) (tc : Nat) (h : Tp w p g o B) (hT : InsA wT ta T) (ho : Out wT w) (hp : wT.heap.size ≤ p) (hg : wT.heap.size ≤ g) (hf : ∀ x ∈ T, fitI x = true) (hi : ∀ x ∈ T, -9223372036854775808 ≤ x.i ∧ x.i ≤ 9223372036854775807) (hr : o + 8 * slotsP T ≤ B.length) (hB : B.length ≤ 1000000000) :
    Calls Tryz.prog 50 #[.pointer (some ⟨p, 0, none⟩), .slice ta T.length tc] w fun e w' => (∃ v, e = .returned v) ∧ Tp w' p g (o + 8 * slotsP T) (putB B o (txtB T)) ∧ Chg (fun k => k = p ∨ k = g) w w' := by
  obtain ⟨n, hn⟩ : ∃ n, Hid (n = T.length) := ⟨_, rfl⟩
  rw [← hn.out]
  have hnb : n ≤ 1000000000 := by have : T.length ≤ slotsP T := by unfold slotsP; omega
                                  rw [hn.out]; omega
  have hpl := (Array.getElem?_eq_some_iff.1 h.t).1
  have hgl := (Array.getElem?_eq_some_iff.1 h.b).1
  have HF := hidOf hf
  have HI := hidOf hi
  have HR := hidOf hr
  clear hf hi hr
  obtain ⟨w1, hw1⟩ : ∃ w1, Hid (w1 = w.alloc (.cells #[.int .i64 0] 3)) := ⟨_, rfl⟩
  have T1 : Hid (Tp w1 p g o B) := hidOf (by rw [hw1.out]; exact h.out (Out.alloc (Out.refl _) _))
  have z1 : Hid (w1.cell? ⟨w.heap.size, 0, none⟩ = some (.int .i64 0)) := hidOf (by rw [hw1.out]; exact cell_fresh w _ _ 0 _ rfl)
  have O1 : Hid (Out wT w1) := hidOf (by rw [hw1.out]; exact Out.alloc ho _)
  have hs1 : w1.heap.size = w.heap.size + 1 := by rw [hw1.out, size_alloc]
  go_enter Tryz.func50, Tryz.ntmps50
  go_upto_region 1 with fail
  rw [← hw1.out]
  go_wp2
  go_loopw [11] (fun i wr => ∃ k : Nat, k ≤ n ∧ i = .int .i64 k ∧ Hid (Tp wr p g (o + 8 * slotsP (T.take k)) (putB B o (txtB (T.take k)))) ∧ Hid (Chg (fun k => k = p ∨ k = g) w1 wr)) (fun i _ => n - (intOf i).toNat)
  case atStart => exact ⟨0, by omega, rfl, hidOf (by simpa [txtB, putB_nil, slotsP] using T1.out), hidOf (Chg.refl _ _)⟩
  case round =>
    obtain ⟨k, hk, rfl, ht, hc⟩ := hrel
    by_cases hkl : k < n
    · have hlt : (k : Int) < n := by omega
      obtain ⟨x, hx⟩ : ∃ x, T[k]? = some x := ⟨_, List.getElem?_eq_getElem (by rw [← hn.out]; exact hkl)⟩
      have HO : Hid (Out wT wr) := hidOf (out_chg O1.out hc.out (fun k hk => by omega))
      obtain ⟨b, off, rfl, q0, q1, q2, q3, q4⟩ := (hT.out HO.out).get hx
      have hfx := HF.out x (List.mem_of_getElem? hx)
      have hix := HI.out x (List.mem_of_getElem? hx)
      have hor := fld_or hfx
      have HT2 := hidOf (txt_take hx)
      have HS2 := hidOf (slots_take hx)
      obtain ⟨⟨a1, a2⟩, ⟨a3, a4⟩, ⟨a5, a6⟩, a7, a8⟩ := fit_parts hfx
      obtain ⟨xo, xd, xs, xf, xi⟩ := x
      simp only at q0 q1 q2 q3 q4 hor hix a1 a2 a3 a4 a5 a6 a7 a8 HS2
      have hsw : w.heap.size < wr.heap.size := by have := hc.out.size; omega
      obtain ⟨fl, hfl⟩ : ∃ fl, Hid (fl = fldI ⟨xo, xd, xs, xf, xi⟩) := ⟨_, rfl⟩
      rw [← hfl.out] at hor
      clear hx hT
      have Hor := hidOf hor
      obtain ⟨L, hL⟩ : ∃ L, Hid (L = putB B o (txtB (T.take k))) := ⟨_, rfl⟩
      have hsl := slots_le T (k + 1)
      have HLl : Hid (L.length = B.length) := hidOf (by rw [hL.out]; exact putB_len (by rw [txtB_len]; have := HR.out; have := slots_le T k; omega))
      obtain ⟨oo, hoo⟩ : ∃ oo, Hid (oo = o + 8 * slotsP (T.take k)) := ⟨_, rfl⟩
      rw [← hL.out, ← hoo.out] at ht
      go_upto_region 5 with fail
      obtain ⟨w5, hw5⟩ : ∃ w5, Hid (w5 = (wr.alloc (.cells #[.int .i64 xo, .int .i64 xd, .int .i64 xs, .int .i64 xf, .int .i64 xi] 83)).alloc (.cells #[.int .i64 fl] 3)) := ⟨_, rfl⟩
      rw [← hw5.out]
      have hs5 : w5.heap.size = wr.heap.size + 2 := by rw [hw5.out, size_alloc, size_alloc]
      have O5 : Hid (Out wr w5) := hidOf (by rw [hw5.out]; exact Out.alloc (Out.alloc (Out.refl _) _) _)
      have I5 : Hid (∀ j, w5.cell? ⟨wr.heap.size, j, none⟩ = (#[.int .i64 xo, .int .i64 xd, .int .i64 xs, .int .i64 xf, .int .i64 xi] : Array Value)[j]?) := hidOf (fun j => by
        rw [hw5.out, World.cell?_alloc_lt _ _ _ (by show wr.heap.size < _; rw [size_alloc]; omega)]; exact cell_fresh wr _ _ j _ rfl)
      have F5 : Hid (w5.cell? ⟨wr.heap.size + 1, 0, none⟩ = some (.int .i64 fl)) := hidOf (by rw [hw5.out]; exact cell_fresh _ _ _ 0 _ (by rw [size_alloc]))
      have hpw : p < wr.heap.size := by have := hc.out.size; omega
      have hgw : g < wr.heap.size := by have := hc.out.size; omega
      have N5 := hidOf (num2W w5 p g oo L (wr.heap.size + 1) 0 wr.heap.size 4 fl xi 125 (ht.out.out O5.out) F5.out (I5.out 4) (by omega) (by omega) (by rw [HLl.out, hoo.out]; have := HR.out; have := HS2.out; split at this <;> omega) (by rw [HLl.out]; omega))
      rw [hs5] at N5
      go_upto_region 6 with (go_at_call 48; refine (N5.out).mono ?_; rintro e w6 ⟨⟨rv, rfl⟩, t6, c6⟩)
      have T6 := hidOf t6
      have C6 : Hid (Chg (fun k => k = p ∨ k = g) w1 w6) := hidOf ((hc.out.trans (T := fun _ => False) (Chg.of_out (Out.alloc O5.out _)) (fun _ h _ => h.elim)).trans c6 (fun x h _ => h))
      have I6 : Hid (∀ j v, w5.cell? ⟨wr.heap.size, j, none⟩ = some v → w6.cell? ⟨wr.heap.size, j, none⟩ = some v) := hidOf (fun j v hv => c6.cell (cell_later (Out.alloc (Out.refl _) _) hv) (by simp; omega))
      have i0 : w6.cell? ⟨wr.heap.size, 0, none⟩ = some (.int .i64 xo) := I6.out 0 _ (I5.out 0)
      have i1 : w6.cell? ⟨wr.heap.size, 1, none⟩ = some (.int .i64 xd) := I6.out 1 _ (I5.out 1)
      have i2 : w6.cell? ⟨wr.heap.size, 2, none⟩ = some (.int .i64 xs) := I6.out 2 _ (I5.out 2)
      have i3 : w6.cell? ⟨wr.heap.size, 3, none⟩ = some (.int .i64 xf) := I6.out 3 _ (I5.out 3)
      have i4 : w6.cell? ⟨wr.heap.size, 4, none⟩ = some (.int .i64 xi) := I6.out 4 _ (I5.out 4)
      have hsw6 : w.heap.size < w6.heap.size := by have := C6.out.size; omega
      have hlenL : Hid ((txtB (T.take k)).length = 8 * slotsP (T.take k)) := hidOf (txtB_len _)
      clear t6 c6 N5 I5 F5 O5 ht hc hor q0 q1 q2 q3 q4
      have hx8 : Hid (oo = o + (txtB (T.take k)).length) := hidOf (by rw [hlenL.out, hoo.out])
      cases hw : isW xo
      · have E6 : Hid (putB L oo (b4 fl ++ b4 xi) = putB B o (txtB (T.take (k + 1))) ∧ oo + 8 = o + 8 * slotsP (T.take (k + 1))) := hidOf (by
          have e1 := HS2.out
          rw [hw] at e1
          simp only [Bool.false_eq_true, if_false] at e1
          refine ⟨?_, by rw [hoo.out, e1]; omega⟩
          rw [HT2.out, hL.out, hx8.out, putB_put (by rw [List.length_append, b4_len, b4_len, hlenL.out]; have := HR.out; omega)]
          simp only [insB, hw, Bool.false_eq_true, if_false, List.append_nil, hfl.out])
        go_wp2_with (go_at_call 72; refine (wide_lit _ _ _ _ _ _).mono ?_; rw [hw]; rintro e w7 ⟨rfl, o7⟩)
        go_roundw
        case rel => exact ⟨k + 1, by omega, by simp, hidOf (by rw [← E6.out.1, ← E6.out.2]; exact T6.out.out o7), hidOf (C6.out.trans (T := fun _ => False) (Chg.of_out o7) (fun _ h _ => h.elim))⟩
        case measure => simp [intOf]; omega
      · go_upto_region 7 with (go_at_call 72; refine (wide_lit _ _ _ _ _ _).mono ?_; rw [hw]; rintro e w7 ⟨rfl, o7⟩)
        have j4 : w7.cell? ⟨wr.heap.size, 4, none⟩ = some (.int .i64 xi) := cell_later o7 i4
        have T7 := hidOf (T6.out.out o7)
        have C7 : Hid (Chg (fun k => k = p ∨ k = g) w1 w7) := hidOf (C6.out.trans (T := fun _ => False) (Chg.of_out o7) (fun _ h _ => h.elim))
        have Z7 : Hid (w7.cell? ⟨w.heap.size, 0, none⟩ = some (.int .i64 0)) := hidOf (C7.out.cell z1.out (by simp; omega))
        clear i0 i1 i2 i3 i4 T6 C6 I6 o7
        go_upto_region 8 with fail
        obtain ⟨w8, hw8⟩ : ∃ w8, Hid (w8 = w7.alloc (.cells #[.int .i64 (xi / 4294967296)] 3)) := ⟨_, rfl⟩
        rw [← hw8.out]
        have hs8 : w8.heap.size = w7.heap.size + 1 := by rw [hw8.out, size_alloc]
        have O8 : Hid (Out w7 w8) := hidOf (by rw [hw8.out]; exact Out.alloc (Out.refl _) _)
        have U8 : Hid (w8.cell? ⟨w7.heap.size, 0, none⟩ = some (.int .i64 (xi / 4294967296))) := hidOf (by rw [hw8.out]; exact cell_fresh _ _ _ 0 _ rfl)
        have hp7 : p < w7.heap.size := by have := C7.out.size; omega
        have hg7 : g < w7.heap.size := by have := C7.out.size; omega
        have hLl2 : Hid ((putB L oo (b4 fl ++ b4 xi)).length = B.length) := hidOf (by
          rw [putB_len (by rw [List.length_append, b4_len, b4_len, HLl.out, hoo.out]; have := HR.out; have := HS2.out; split at this <;> omega)]; exact HLl.out)
        have N8 := hidOf (num2W w8 p g (oo + 8) (putB L oo (b4 fl ++ b4 xi)) w.heap.size 0 w7.heap.size 0 0 (xi / 4294967296) 125 (T7.out.out O8.out) (cell_later O8.out Z7.out) U8.out (by omega) (by omega) (by rw [hLl2.out, hoo.out]; have e1 := HS2.out; rw [hw] at e1; simp only [if_true] at e1; have := HR.out; omega) (by rw [hLl2.out]; omega))
        rw [hs8] at N8
        have E8 : Hid (putB (putB L oo (b4 fl ++ b4 xi)) (oo + 8) (b4 0 ++ b4 (xi / 4294967296)) = putB B o (txtB (T.take (k + 1))) ∧ oo + 8 + 8 = o + 8 * slotsP (T.take (k + 1))) := hidOf (by
          have e1 := HS2.out
          rw [hw] at e1
          simp only [if_true] at e1
          refine ⟨?_, by rw [hoo.out, e1]; omega⟩
          have hr := HR.out
          have e2 : oo + 8 = oo + (b4 fl ++ b4 xi).length := by rw [List.length_append, b4_len, b4_len]
          rw [e2, putB_put (by rw [List.length_append, List.length_append, b4_len, b4_len, b4_len, b4_len, HLl.out, hoo.out]; omega), HT2.out, hL.out, hx8.out, putB_put (by rw [List.length_append, List.length_append, List.length_append, b4_len, b4_len, b4_len, b4_len, hlenL.out]; omega)]
          simp only [insB, hw, if_true, List.append_assoc, hfl.out])
        go_wp2_with (go_at_call 48; refine (N8.out).mono ?_; rintro e w9 ⟨⟨rv2, rfl⟩, t9, c9⟩)
        go_roundw
        case rel => exact ⟨k + 1, by omega, by simp, hidOf (by rw [← E8.out.1, ← E8.out.2]; exact t9), hidOf ((C7.out.trans (T := fun _ => False) (Chg.of_out (Out.alloc O8.out _)) (fun _ h _ => h.elim)).trans c9 (fun x h _ => h))⟩
        case measure => simp [intOf]; omega
    · have hlt : ¬ (k : Int) < n := by omega
      have hkn : Hid (k = n) := hidOf (by omega)
      go_wp2
      go_end0
      have hA : T.take k = T := List.take_of_length_le (by rw [← hn.out]; have := hkn.out; omega)
      exact ⟨⟨_, rfl⟩, by have := ht.out; rw [hA] at this; exact this, by have := hc.out; rw [hw1.out] at this; exact Chg.trans (T := fun k => k = p ∨ k = g) (Chg.alloc (Chg.refl _ w) _) this (fun x h _ => h)⟩
end Go.Proofs.YthdgmhohofakgaaGreatDoor
