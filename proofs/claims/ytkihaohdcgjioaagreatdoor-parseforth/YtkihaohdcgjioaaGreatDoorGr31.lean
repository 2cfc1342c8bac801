import Derived.Test.YtkihaohdcgjioaaGreatDoorGr22
import Derived.Test.YtkihaohdcgjioaaGreatDoorGr27
import Derived.Test.YtkihaohdcgjioaaGreatDoorGr30
import Derived.Test.YtkihaohdcgjioaaGreatDoorGr20
namespace Go.Proofs.YtkihaohdcgjioaaGreatDoor
open Go.RowKit
set_option linter.unusedVariables false
set_option linter.unusedSimpArgs false
theorem brow_out {B size : Nat} {w w' : World} {e : TypeId} {v : Value} {n : Nat} {xs : List Value} (h : w.ownsRow B e size v n xs) (o : Out w w') : w'.ownsRow B e size v n xs := by
  refine ⟨h.1, ?_⟩
  rcases h.2 with hn | ⟨g, cap, cur, rfl, hb, hg, rest⟩
  · exact .inl hn
  · refine .inr ⟨g, cap, cur, rfl, hb, ?_, rest⟩
    rw [o.block g (Array.getElem?_eq_some_iff.1 hg).1]
    exact hg
def Bd (w0 : World) (b : Nat) (L : List UInt8) (w : World) : Prop := Lib.IsBuilder 77 5 w0.heap.size b (Lib.byteCells L) w ∧ Out w0 w
theorem Bd.out {w0 w w' : World} {b : Nat} {L : List UInt8} (h : Bd w0 b L w) (o : Out w w') : Bd w0 b L w' := by
  refine ⟨?_, Out.trans h.2 o⟩
  rcases h.1 with ⟨hB, v, hb, hown, hne⟩ | ⟨hB, v, hb, hown, hne⟩
  · exact .inl ⟨hB, v, (o.block b (Array.getElem?_eq_some_iff.1 hb).1).trans hb, brow_out hown o, hne⟩
  · exact .inr ⟨hB, v, (o.block b (Array.getElem?_eq_some_iff.1 hb).1).trans hb, brow_out hown o, hne⟩
theorem Bd.new (w0 : World) : Bd w0 w0.heap.size [] (w0.alloc (.cells #[.pointer none, .slice none 0 0] 77)) := by
  refine ⟨.inl ⟨Nat.le_refl _, .slice none 0 0, heap_alloc_new w0 _, ?_, ?_⟩, (Out.refl w0).alloc _⟩
  · exact ⟨by simp [Lib.byteCells], .inl ⟨rfl, rfl⟩⟩
  · simp [Value.ownBlock]
theorem Bd.write {w0 w : World} {b : Nat} {L : List UInt8} (h : Bd w0 b L w) (l : List UInt8) (hl : L.length + l.length ≤ 140737488355328) : Calls Tryz.prog 58 #[.pointer (some ⟨b, 0, none⟩), .string ⟨l.toArray⟩] w fun e w' => (∃ v, e = .returned v) ∧ Bd w0 b (L ++ l) w' := by
  refine (write_any w0.heap.size b _ ⟨l.toArray⟩ w h.1 (by rw [Lib.byteCells_length, mk_size]; exact hl) h.2.size).mono fun e w' ⟨he, hb, hB⟩ => ⟨he, ?_, Below.trans h.2 hB⟩
  rw [show Lib.byteCells (L ++ l) = Lib.byteCells L ++ Lib.strCells ⟨l.toArray⟩ from by simp [Lib.byteCells, Lib.strCells]]
  exact hb
theorem Bd.text {w0 w : World} {b : Nat} {L : List UInt8} (h : Bd w0 b L w) : Calls Tryz.prog 32 #[.pointer (some ⟨b, 0, none⟩)] w fun e w' => e = .returned (.string ⟨L.toArray⟩) ∧ Out w0 w' :=
  (Tryz.Builder_String_any w0.heap.size b L w h.1 h.2.size).mono fun e w' ⟨he, hb⟩ => ⟨he, Below.trans h.2 hb⟩
def Bx (ib : Nat) (o d s f i : Int) (wx : World) : Prop := wx.cell? ⟨ib, 0, none⟩ = some (.int .i64 o) ∧ wx.cell? ⟨ib, 1, none⟩ = some (.int .i64 d) ∧ wx.cell? ⟨ib, 2, none⟩ = some (.int .i64 s) ∧ wx.cell? ⟨ib, 3, none⟩ = some (.int .i64 f) ∧ wx.cell? ⟨ib, 4, none⟩ = some (.int .i64 i)
theorem Bx.new (w : World) (o d s f i : Int) : Bx w.heap.size o d s f i (w.alloc (.cells #[.int .i64 o, .int .i64 d, .int .i64 s, .int .i64 f, .int .i64 i] 58)) := ⟨new_cell w _ _ 0, new_cell w _ _ 1, new_cell w _ _ 2, new_cell w _ _ 3, new_cell w _ _ 4⟩
theorem Bx.out {ib : Nat} {o d s f i : Int} {w w' : World} (h : Bx ib o d s f i w) (u : Out w w') : Bx ib o d s f i w' := ⟨cell_later u h.1, cell_later u h.2.1, cell_later u h.2.2.1, cell_later u h.2.2.2.1, cell_later u h.2.2.2.2⟩
theorem Bd.box {w0 w : World} {b : Nat} {L : List UInt8} (h : Bd w0 b L w) {ib : Nat} {o d s f i : Int} (k : Bx ib o d s f i w0) : Bx ib o d s f i w := k.out h.2
set_option maxRecDepth 20000 in
set_option maxHeartbeats 3200000 in
theorem print_0 (o d s f i : Int) (t W : List UInt8) (a b c : Int) (w : World) (hz : a = 0) (hW : W.length ≤ 1000)
    (CM : Hid (∀ wx, Out w wx → Calls Tryz.prog 82 #[.agg #[.int .i64 o, .int .i64 d, .int .i64 s, .int .i64 f, .int .i64 i]] wx fun e w' => e = .returned (.int .i64 0) ∧ Out wx w'))
    (CF : Hid (∀ wx, Out w wx → Calls Tryz.prog 83 #[.agg #[.int .i64 o, .int .i64 d, .int .i64 s, .int .i64 f, .int .i64 i], .string ⟨t.toArray⟩] wx fun e w' => e = .returned (.bool true) ∧ Out wx w'))
    (CW : Hid (∀ wx, Out w wx → Calls Tryz.prog 84 #[.agg #[.int .i64 o, .int .i64 d, .int .i64 s, .int .i64 f, .int .i64 i]] wx fun e w' => e = .returned (.string ⟨W.toArray⟩) ∧ Out wx w'))
    (CO : Hid (∀ wx, Out w wx → Calls Tryz.prog 85 #[.agg #[.int .i64 o, .int .i64 d, .int .i64 s, .int .i64 f, .int .i64 i]] wx fun e w' => e = .returned (.agg #[.int .u8 a, .int .u8 b, .int .u8 c]) ∧ Out wx w'))
    : Calls Tryz.prog 53 #[.agg #[.int .i64 o, .int .i64 d, .int .i64 s, .int .i64 f, .int .i64 i], .string ⟨t.toArray⟩] w fun e w' => e = .returned (.tuple #[.string ⟨([] ++ W).toArray⟩, .int .i64 0]) ∧ Out w w' := by
  subst hz
  have hx0 : ∀ w : World, (Instr.index 133 (.agg #[.int .u8 0, .int .u8 b, .int .u8 c]) (.int .i64 0)).run Tryz.prog w = .ok (.int .u8 0) w := fun w => idx3_0 _ _ _ w
  have HX := hidOf (Bx.new w o d s f i)
  have HW := hidOf hW
  clear hW
  go_enter Tryz.func53, Tryz.ntmps53
  go_wp2_with (first | (go_at_call 82; refine (CM.out _ ((Out.refl w).alloc _)).mono ?_; rintro e w1 ⟨rfl, ho⟩; have H1 := hidOf ho; obtain ⟨c0, c1, c2, c3, c4⟩ := HX.out.out ho; clear ho) | (go_at_call 83; refine (CF.out _ (Out.trans ((Out.refl w).alloc _) H1.out)).mono ?_; rintro e w2 ⟨rfl, ho⟩; have H2 := hidOf (Out.trans H1.out ho); have c0 : ∀ O, (w2.alloc O).cell? ⟨w.heap.size, 0, none⟩ = some (.int .i64 o) := fun O => (HX.out.out (Out.trans H1.out (ho.alloc O))).1; have c1 : ∀ O, (w2.alloc O).cell? ⟨w.heap.size, 1, none⟩ = some (.int .i64 d) := fun O => (HX.out.out (Out.trans H1.out (ho.alloc O))).2.1; have c2 : ∀ O, (w2.alloc O).cell? ⟨w.heap.size, 2, none⟩ = some (.int .i64 s) := fun O => (HX.out.out (Out.trans H1.out (ho.alloc O))).2.2.1; have c3 : ∀ O, (w2.alloc O).cell? ⟨w.heap.size, 3, none⟩ = some (.int .i64 f) := fun O => (HX.out.out (Out.trans H1.out (ho.alloc O))).2.2.2.1; have c4 : ∀ O, (w2.alloc O).cell? ⟨w.heap.size, 4, none⟩ = some (.int .i64 i) := fun O => (HX.out.out (Out.trans H1.out (ho.alloc O))).2.2.2.2; clear ho) | (go_at_call 84; refine (CW.out _ (Out.trans (Out.trans ((Out.refl w).alloc _) H2.out) ((Out.refl w2).alloc _))).mono ?_; rintro e w3 ⟨rfl, ho⟩; have B3 := hidOf ((Bd.new w2).out ho); clear ho) | (go_at_call 58; refine (B3.out.write W (by have := HW.out; simp; omega)).mono ?_; rintro e w4 ⟨⟨v4, rfl⟩, hb⟩; have B4 := hidOf hb; obtain ⟨c0, c1, c2, c3, c4⟩ := hb.box (HX.out.out H2.out); clear hb) | (go_at_call 85; refine (CO.out _ (Out.trans (Out.trans ((Out.refl w).alloc _) H2.out) B4.out.2)).mono ?_; rintro e w5 ⟨rfl, ho⟩; have B5 := hidOf (B4.out.out ho); clear ho))
  refine wp_loop_rounds 4 ?_
  rw [rounds_succ]
  go_wp2_with (go_at_call 32; refine B5.out.text.mono ?_; rintro e wz ⟨rfl, ho⟩; have HZ := hidOf ho; clear ho)
  go_ret2
  exact ⟨by first | rfl | simp [List.append_assoc], Out.trans (Out.trans ((Out.refl w).alloc _) H2.out) HZ.out⟩
set_option maxRecDepth 20000 in
set_option maxHeartbeats 3200000 in
theorem print_1 (o d s f i : Int) (t W T1 : List UInt8) (a b c : Int) (w : World) (za : (a == 0) = false) (hz : b = 0) (hW : W.length ≤ 1000) (hT1 : T1.length ≤ 1000)
    (CM : Hid (∀ wx, Out w wx → Calls Tryz.prog 82 #[.agg #[.int .i64 o, .int .i64 d, .int .i64 s, .int .i64 f, .int .i64 i]] wx fun e w' => e = .returned (.int .i64 0) ∧ Out wx w'))
    (CF : Hid (∀ wx, Out w wx → Calls Tryz.prog 83 #[.agg #[.int .i64 o, .int .i64 d, .int .i64 s, .int .i64 f, .int .i64 i], .string ⟨t.toArray⟩] wx fun e w' => e = .returned (.bool true) ∧ Out wx w'))
    (CW : Hid (∀ wx, Out w wx → Calls Tryz.prog 84 #[.agg #[.int .i64 o, .int .i64 d, .int .i64 s, .int .i64 f, .int .i64 i]] wx fun e w' => e = .returned (.string ⟨W.toArray⟩) ∧ Out wx w'))
    (CO : Hid (∀ wx, Out w wx → Calls Tryz.prog 85 #[.agg #[.int .i64 o, .int .i64 d, .int .i64 s, .int .i64 f, .int .i64 i]] wx fun e w' => e = .returned (.agg #[.int .u8 a, .int .u8 b, .int .u8 c]) ∧ Out wx w'))
    (C1 : Hid (∀ wx, Out w wx → Calls Tryz.prog 86 #[.agg #[.int .i64 o, .int .i64 d, .int .i64 s, .int .i64 f, .int .i64 i], .int .u8 a, .string ⟨t.toArray⟩] wx fun e w' => e = .returned (.string ⟨T1.toArray⟩) ∧ Out wx w'))
    : Calls Tryz.prog 53 #[.agg #[.int .i64 o, .int .i64 d, .int .i64 s, .int .i64 f, .int .i64 i], .string ⟨t.toArray⟩] w fun e w' => e = .returned (.tuple #[.string ⟨([] ++ W ++ [32] ++ T1).toArray⟩, .int .i64 0]) ∧ Out w w' := by
  subst hz
  have hx0 : ∀ w : World, (Instr.index 133 (.agg #[.int .u8 a, .int .u8 0, .int .u8 c]) (.int .i64 0)).run Tryz.prog w = .ok (.int .u8 a) w := fun w => idx3_0 _ _ _ w
  have hx1 : ∀ w : World, (Instr.index 133 (.agg #[.int .u8 a, .int .u8 0, .int .u8 c]) (.int .i64 1)).run Tryz.prog w = .ok (.int .u8 0) w := fun w => idx3_1 _ _ _ w
  have HX := hidOf (Bx.new w o d s f i)
  have HW := hidOf hW; have HT1 := hidOf hT1
  clear hW hT1
  go_enter Tryz.func53, Tryz.ntmps53
  go_wp2_with (first | (go_at_call 82; refine (CM.out _ ((Out.refl w).alloc _)).mono ?_; rintro e w1 ⟨rfl, ho⟩; have H1 := hidOf ho; obtain ⟨c0, c1, c2, c3, c4⟩ := HX.out.out ho; clear ho) | (go_at_call 83; refine (CF.out _ (Out.trans ((Out.refl w).alloc _) H1.out)).mono ?_; rintro e w2 ⟨rfl, ho⟩; have H2 := hidOf (Out.trans H1.out ho); have c0 : ∀ O, (w2.alloc O).cell? ⟨w.heap.size, 0, none⟩ = some (.int .i64 o) := fun O => (HX.out.out (Out.trans H1.out (ho.alloc O))).1; have c1 : ∀ O, (w2.alloc O).cell? ⟨w.heap.size, 1, none⟩ = some (.int .i64 d) := fun O => (HX.out.out (Out.trans H1.out (ho.alloc O))).2.1; have c2 : ∀ O, (w2.alloc O).cell? ⟨w.heap.size, 2, none⟩ = some (.int .i64 s) := fun O => (HX.out.out (Out.trans H1.out (ho.alloc O))).2.2.1; have c3 : ∀ O, (w2.alloc O).cell? ⟨w.heap.size, 3, none⟩ = some (.int .i64 f) := fun O => (HX.out.out (Out.trans H1.out (ho.alloc O))).2.2.2.1; have c4 : ∀ O, (w2.alloc O).cell? ⟨w.heap.size, 4, none⟩ = some (.int .i64 i) := fun O => (HX.out.out (Out.trans H1.out (ho.alloc O))).2.2.2.2; clear ho) | (go_at_call 84; refine (CW.out _ (Out.trans (Out.trans ((Out.refl w).alloc _) H2.out) ((Out.refl w2).alloc _))).mono ?_; rintro e w3 ⟨rfl, ho⟩; have B3 := hidOf ((Bd.new w2).out ho); clear ho) | (go_at_call 58; refine (B3.out.write W (by have := HW.out; simp; omega)).mono ?_; rintro e w4 ⟨⟨v4, rfl⟩, hb⟩; have B4 := hidOf hb; obtain ⟨c0, c1, c2, c3, c4⟩ := hb.box (HX.out.out H2.out); clear hb) | (go_at_call 85; refine (CO.out _ (Out.trans (Out.trans ((Out.refl w).alloc _) H2.out) B4.out.2)).mono ?_; rintro e w5 ⟨rfl, ho⟩; have B5 := hidOf (B4.out.out ho); clear ho))
  refine wp_loop_rounds 4 ?_
  rw [rounds_succ]
  go_wp2_with (first | (go_at_call 58; refine (B7.out.write T1 (by have l0 := HW.out; have l1 := HT1.out; simp; omega)).mono ?_; rintro e w8 ⟨⟨v8, rfl⟩, hb⟩; have B8 := hidOf hb; clear hb) | (go_at_call 86; refine (C1.out _ (Out.trans (Out.trans ((Out.refl w).alloc _) H2.out) B6.out.2)).mono ?_; rintro e w7 ⟨rfl, ho⟩; have B7 := hidOf (B6.out.out ho); clear ho) | (go_at_call 58; refine (B5.out.write [32] (by have l0 := HW.out; have l1 := HT1.out; simp; omega)).mono ?_; rintro e w6 ⟨⟨v6, rfl⟩, hb⟩; have B6 := hidOf hb; obtain ⟨c0, c1, c2, c3, c4⟩ := hb.box (HX.out.out H2.out); clear hb))
  rw [rounds_succ]
  go_wp2_with (go_at_call 32; refine B8.out.text.mono ?_; rintro e wz ⟨rfl, ho⟩; have HZ := hidOf ho; clear ho)
  go_ret2
  exact ⟨by first | rfl | simp [List.append_assoc], Out.trans (Out.trans ((Out.refl w).alloc _) H2.out) HZ.out⟩
set_option maxRecDepth 20000 in
set_option maxHeartbeats 3200000 in
theorem print_2 (o d s f i : Int) (t W T1 T2 : List UInt8) (a b c : Int) (w : World) (za : (a == 0) = false) (zb : (b == 0) = false) (hz : c = 0) (hW : W.length ≤ 1000) (hT1 : T1.length ≤ 1000) (hT2 : T2.length ≤ 1000)
    (CM : Hid (∀ wx, Out w wx → Calls Tryz.prog 82 #[.agg #[.int .i64 o, .int .i64 d, .int .i64 s, .int .i64 f, .int .i64 i]] wx fun e w' => e = .returned (.int .i64 0) ∧ Out wx w'))
    (CF : Hid (∀ wx, Out w wx → Calls Tryz.prog 83 #[.agg #[.int .i64 o, .int .i64 d, .int .i64 s, .int .i64 f, .int .i64 i], .string ⟨t.toArray⟩] wx fun e w' => e = .returned (.bool true) ∧ Out wx w'))
    (CW : Hid (∀ wx, Out w wx → Calls Tryz.prog 84 #[.agg #[.int .i64 o, .int .i64 d, .int .i64 s, .int .i64 f, .int .i64 i]] wx fun e w' => e = .returned (.string ⟨W.toArray⟩) ∧ Out wx w'))
    (CO : Hid (∀ wx, Out w wx → Calls Tryz.prog 85 #[.agg #[.int .i64 o, .int .i64 d, .int .i64 s, .int .i64 f, .int .i64 i]] wx fun e w' => e = .returned (.agg #[.int .u8 a, .int .u8 b, .int .u8 c]) ∧ Out wx w'))
    (C1 : Hid (∀ wx, Out w wx → Calls Tryz.prog 86 #[.agg #[.int .i64 o, .int .i64 d, .int .i64 s, .int .i64 f, .int .i64 i], .int .u8 a, .string ⟨t.toArray⟩] wx fun e w' => e = .returned (.string ⟨T1.toArray⟩) ∧ Out wx w'))
    (C2 : Hid (∀ wx, Out w wx → Calls Tryz.prog 86 #[.agg #[.int .i64 o, .int .i64 d, .int .i64 s, .int .i64 f, .int .i64 i], .int .u8 b, .string ⟨t.toArray⟩] wx fun e w' => e = .returned (.string ⟨T2.toArray⟩) ∧ Out wx w'))
    : Calls Tryz.prog 53 #[.agg #[.int .i64 o, .int .i64 d, .int .i64 s, .int .i64 f, .int .i64 i], .string ⟨t.toArray⟩] w fun e w' => e = .returned (.tuple #[.string ⟨([] ++ W ++ [32] ++ T1 ++ [44, 32] ++ T2).toArray⟩, .int .i64 0]) ∧ Out w w' := by
  subst hz
  have hx0 : ∀ w : World, (Instr.index 133 (.agg #[.int .u8 a, .int .u8 b, .int .u8 0]) (.int .i64 0)).run Tryz.prog w = .ok (.int .u8 a) w := fun w => idx3_0 _ _ _ w
  have hx1 : ∀ w : World, (Instr.index 133 (.agg #[.int .u8 a, .int .u8 b, .int .u8 0]) (.int .i64 1)).run Tryz.prog w = .ok (.int .u8 b) w := fun w => idx3_1 _ _ _ w
  have hx2 : ∀ w : World, (Instr.index 133 (.agg #[.int .u8 a, .int .u8 b, .int .u8 0]) (.int .i64 2)).run Tryz.prog w = .ok (.int .u8 0) w := fun w => idx3_2 _ _ _ w
  have HX := hidOf (Bx.new w o d s f i)
  have HW := hidOf hW; have HT1 := hidOf hT1; have HT2 := hidOf hT2
  clear hW hT1 hT2
  go_enter Tryz.func53, Tryz.ntmps53
  go_wp2_with (first | (go_at_call 82; refine (CM.out _ ((Out.refl w).alloc _)).mono ?_; rintro e w1 ⟨rfl, ho⟩; have H1 := hidOf ho; obtain ⟨c0, c1, c2, c3, c4⟩ := HX.out.out ho; clear ho) | (go_at_call 83; refine (CF.out _ (Out.trans ((Out.refl w).alloc _) H1.out)).mono ?_; rintro e w2 ⟨rfl, ho⟩; have H2 := hidOf (Out.trans H1.out ho); have c0 : ∀ O, (w2.alloc O).cell? ⟨w.heap.size, 0, none⟩ = some (.int .i64 o) := fun O => (HX.out.out (Out.trans H1.out (ho.alloc O))).1; have c1 : ∀ O, (w2.alloc O).cell? ⟨w.heap.size, 1, none⟩ = some (.int .i64 d) := fun O => (HX.out.out (Out.trans H1.out (ho.alloc O))).2.1; have c2 : ∀ O, (w2.alloc O).cell? ⟨w.heap.size, 2, none⟩ = some (.int .i64 s) := fun O => (HX.out.out (Out.trans H1.out (ho.alloc O))).2.2.1; have c3 : ∀ O, (w2.alloc O).cell? ⟨w.heap.size, 3, none⟩ = some (.int .i64 f) := fun O => (HX.out.out (Out.trans H1.out (ho.alloc O))).2.2.2.1; have c4 : ∀ O, (w2.alloc O).cell? ⟨w.heap.size, 4, none⟩ = some (.int .i64 i) := fun O => (HX.out.out (Out.trans H1.out (ho.alloc O))).2.2.2.2; clear ho) | (go_at_call 84; refine (CW.out _ (Out.trans (Out.trans ((Out.refl w).alloc _) H2.out) ((Out.refl w2).alloc _))).mono ?_; rintro e w3 ⟨rfl, ho⟩; have B3 := hidOf ((Bd.new w2).out ho); clear ho) | (go_at_call 58; refine (B3.out.write W (by have := HW.out; simp; omega)).mono ?_; rintro e w4 ⟨⟨v4, rfl⟩, hb⟩; have B4 := hidOf hb; obtain ⟨c0, c1, c2, c3, c4⟩ := hb.box (HX.out.out H2.out); clear hb) | (go_at_call 85; refine (CO.out _ (Out.trans (Out.trans ((Out.refl w).alloc _) H2.out) B4.out.2)).mono ?_; rintro e w5 ⟨rfl, ho⟩; have B5 := hidOf (B4.out.out ho); clear ho))
  refine wp_loop_rounds 4 ?_
  rw [rounds_succ]
  go_wp2_with (first | (go_at_call 58; refine (B7.out.write T1 (by have l0 := HW.out; have l1 := HT1.out; simp; omega)).mono ?_; rintro e w8 ⟨⟨v8, rfl⟩, hb⟩; have B8 := hidOf hb; clear hb) | (go_at_call 86; refine (C1.out _ (Out.trans (Out.trans ((Out.refl w).alloc _) H2.out) B6.out.2)).mono ?_; rintro e w7 ⟨rfl, ho⟩; have B7 := hidOf (B6.out.out ho); clear ho) | (go_at_call 58; refine (B5.out.write [32] (by have l0 := HW.out; have l1 := HT1.out; simp; omega)).mono ?_; rintro e w6 ⟨⟨v6, rfl⟩, hb⟩; have B6 := hidOf hb; obtain ⟨c0, c1, c2, c3, c4⟩ := hb.box (HX.out.out H2.out); clear hb))
  rw [rounds_succ]
  go_wp2_with (first | (go_at_call 58; refine (B10.out.write T2 (by have l0 := HW.out; have l1 := HT1.out; have l2 := HT2.out; simp; omega)).mono ?_; rintro e w11 ⟨⟨v11, rfl⟩, hb⟩; have B11 := hidOf hb; clear hb) | (go_at_call 86; refine (C2.out _ (Out.trans (Out.trans ((Out.refl w).alloc _) H2.out) B9.out.2)).mono ?_; rintro e w10 ⟨rfl, ho⟩; have B10 := hidOf (B9.out.out ho); clear ho) | (go_at_call 58; refine (B8.out.write [44, 32] (by have l0 := HW.out; have l1 := HT1.out; have l2 := HT2.out; simp; omega)).mono ?_; rintro e w9 ⟨⟨v9, rfl⟩, hb⟩; have B9 := hidOf hb; obtain ⟨c0, c1, c2, c3, c4⟩ := hb.box (HX.out.out H2.out); clear hb))
  rw [rounds_succ]
  go_wp2_with (go_at_call 32; refine B11.out.text.mono ?_; rintro e wz ⟨rfl, ho⟩; have HZ := hidOf ho; clear ho)
  go_ret2
  exact ⟨by first | rfl | simp [List.append_assoc], Out.trans (Out.trans ((Out.refl w).alloc _) H2.out) HZ.out⟩
set_option maxRecDepth 20000 in
set_option maxHeartbeats 3200000 in
theorem print_3 (o d s f i : Int) (t W T1 T2 T3 : List UInt8) (a b c : Int) (w : World) (za : (a == 0) = false) (zb : (b == 0) = false) (zc : (c == 0) = false) (hW : W.length ≤ 1000) (hT1 : T1.length ≤ 1000) (hT2 : T2.length ≤ 1000) (hT3 : T3.length ≤ 1000)
    (CM : Hid (∀ wx, Out w wx → Calls Tryz.prog 82 #[.agg #[.int .i64 o, .int .i64 d, .int .i64 s, .int .i64 f, .int .i64 i]] wx fun e w' => e = .returned (.int .i64 0) ∧ Out wx w'))
    (CF : Hid (∀ wx, Out w wx → Calls Tryz.prog 83 #[.agg #[.int .i64 o, .int .i64 d, .int .i64 s, .int .i64 f, .int .i64 i], .string ⟨t.toArray⟩] wx fun e w' => e = .returned (.bool true) ∧ Out wx w'))
    (CW : Hid (∀ wx, Out w wx → Calls Tryz.prog 84 #[.agg #[.int .i64 o, .int .i64 d, .int .i64 s, .int .i64 f, .int .i64 i]] wx fun e w' => e = .returned (.string ⟨W.toArray⟩) ∧ Out wx w'))
    (CO : Hid (∀ wx, Out w wx → Calls Tryz.prog 85 #[.agg #[.int .i64 o, .int .i64 d, .int .i64 s, .int .i64 f, .int .i64 i]] wx fun e w' => e = .returned (.agg #[.int .u8 a, .int .u8 b, .int .u8 c]) ∧ Out wx w'))
    (C1 : Hid (∀ wx, Out w wx → Calls Tryz.prog 86 #[.agg #[.int .i64 o, .int .i64 d, .int .i64 s, .int .i64 f, .int .i64 i], .int .u8 a, .string ⟨t.toArray⟩] wx fun e w' => e = .returned (.string ⟨T1.toArray⟩) ∧ Out wx w'))
    (C2 : Hid (∀ wx, Out w wx → Calls Tryz.prog 86 #[.agg #[.int .i64 o, .int .i64 d, .int .i64 s, .int .i64 f, .int .i64 i], .int .u8 b, .string ⟨t.toArray⟩] wx fun e w' => e = .returned (.string ⟨T2.toArray⟩) ∧ Out wx w'))
    (C3 : Hid (∀ wx, Out w wx → Calls Tryz.prog 86 #[.agg #[.int .i64 o, .int .i64 d, .int .i64 s, .int .i64 f, .int .i64 i], .int .u8 c, .string ⟨t.toArray⟩] wx fun e w' => e = .returned (.string ⟨T3.toArray⟩) ∧ Out wx w'))
    : Calls Tryz.prog 53 #[.agg #[.int .i64 o, .int .i64 d, .int .i64 s, .int .i64 f, .int .i64 i], .string ⟨t.toArray⟩] w fun e w' => e = .returned (.tuple #[.string ⟨([] ++ W ++ [32] ++ T1 ++ [44, 32] ++ T2 ++ [44, 32] ++ T3).toArray⟩, .int .i64 0]) ∧ Out w w' := by
  have hx0 : ∀ w : World, (Instr.index 133 (.agg #[.int .u8 a, .int .u8 b, .int .u8 c]) (.int .i64 0)).run Tryz.prog w = .ok (.int .u8 a) w := fun w => idx3_0 _ _ _ w
  have hx1 : ∀ w : World, (Instr.index 133 (.agg #[.int .u8 a, .int .u8 b, .int .u8 c]) (.int .i64 1)).run Tryz.prog w = .ok (.int .u8 b) w := fun w => idx3_1 _ _ _ w
  have hx2 : ∀ w : World, (Instr.index 133 (.agg #[.int .u8 a, .int .u8 b, .int .u8 c]) (.int .i64 2)).run Tryz.prog w = .ok (.int .u8 c) w := fun w => idx3_2 _ _ _ w
  have HX := hidOf (Bx.new w o d s f i)
  have HW := hidOf hW; have HT1 := hidOf hT1; have HT2 := hidOf hT2; have HT3 := hidOf hT3
  clear hW hT1 hT2 hT3
  go_enter Tryz.func53, Tryz.ntmps53
  go_wp2_with (first | (go_at_call 82; refine (CM.out _ ((Out.refl w).alloc _)).mono ?_; rintro e w1 ⟨rfl, ho⟩; have H1 := hidOf ho; obtain ⟨c0, c1, c2, c3, c4⟩ := HX.out.out ho; clear ho) | (go_at_call 83; refine (CF.out _ (Out.trans ((Out.refl w).alloc _) H1.out)).mono ?_; rintro e w2 ⟨rfl, ho⟩; have H2 := hidOf (Out.trans H1.out ho); have c0 : ∀ O, (w2.alloc O).cell? ⟨w.heap.size, 0, none⟩ = some (.int .i64 o) := fun O => (HX.out.out (Out.trans H1.out (ho.alloc O))).1; have c1 : ∀ O, (w2.alloc O).cell? ⟨w.heap.size, 1, none⟩ = some (.int .i64 d) := fun O => (HX.out.out (Out.trans H1.out (ho.alloc O))).2.1; have c2 : ∀ O, (w2.alloc O).cell? ⟨w.heap.size, 2, none⟩ = some (.int .i64 s) := fun O => (HX.out.out (Out.trans H1.out (ho.alloc O))).2.2.1; have c3 : ∀ O, (w2.alloc O).cell? ⟨w.heap.size, 3, none⟩ = some (.int .i64 f) := fun O => (HX.out.out (Out.trans H1.out (ho.alloc O))).2.2.2.1; have c4 : ∀ O, (w2.alloc O).cell? ⟨w.heap.size, 4, none⟩ = some (.int .i64 i) := fun O => (HX.out.out (Out.trans H1.out (ho.alloc O))).2.2.2.2; clear ho) | (go_at_call 84; refine (CW.out _ (Out.trans (Out.trans ((Out.refl w).alloc _) H2.out) ((Out.refl w2).alloc _))).mono ?_; rintro e w3 ⟨rfl, ho⟩; have B3 := hidOf ((Bd.new w2).out ho); clear ho) | (go_at_call 58; refine (B3.out.write W (by have := HW.out; simp; omega)).mono ?_; rintro e w4 ⟨⟨v4, rfl⟩, hb⟩; have B4 := hidOf hb; obtain ⟨c0, c1, c2, c3, c4⟩ := hb.box (HX.out.out H2.out); clear hb) | (go_at_call 85; refine (CO.out _ (Out.trans (Out.trans ((Out.refl w).alloc _) H2.out) B4.out.2)).mono ?_; rintro e w5 ⟨rfl, ho⟩; have B5 := hidOf (B4.out.out ho); clear ho))
  refine wp_loop_rounds 4 ?_
  rw [rounds_succ]
  go_wp2_with (first | (go_at_call 58; refine (B7.out.write T1 (by have l0 := HW.out; have l1 := HT1.out; simp; omega)).mono ?_; rintro e w8 ⟨⟨v8, rfl⟩, hb⟩; have B8 := hidOf hb; clear hb) | (go_at_call 86; refine (C1.out _ (Out.trans (Out.trans ((Out.refl w).alloc _) H2.out) B6.out.2)).mono ?_; rintro e w7 ⟨rfl, ho⟩; have B7 := hidOf (B6.out.out ho); clear ho) | (go_at_call 58; refine (B5.out.write [32] (by have l0 := HW.out; have l1 := HT1.out; simp; omega)).mono ?_; rintro e w6 ⟨⟨v6, rfl⟩, hb⟩; have B6 := hidOf hb; obtain ⟨c0, c1, c2, c3, c4⟩ := hb.box (HX.out.out H2.out); clear hb))
  rw [rounds_succ]
  go_wp2_with (first | (go_at_call 58; refine (B10.out.write T2 (by have l0 := HW.out; have l1 := HT1.out; have l2 := HT2.out; simp; omega)).mono ?_; rintro e w11 ⟨⟨v11, rfl⟩, hb⟩; have B11 := hidOf hb; clear hb) | (go_at_call 86; refine (C2.out _ (Out.trans (Out.trans ((Out.refl w).alloc _) H2.out) B9.out.2)).mono ?_; rintro e w10 ⟨rfl, ho⟩; have B10 := hidOf (B9.out.out ho); clear ho) | (go_at_call 58; refine (B8.out.write [44, 32] (by have l0 := HW.out; have l1 := HT1.out; have l2 := HT2.out; simp; omega)).mono ?_; rintro e w9 ⟨⟨v9, rfl⟩, hb⟩; have B9 := hidOf hb; obtain ⟨c0, c1, c2, c3, c4⟩ := hb.box (HX.out.out H2.out); clear hb))
  rw [rounds_succ]
  go_wp2_with (first | (go_at_call 58; refine (B13.out.write T3 (by have l0 := HW.out; have l1 := HT1.out; have l2 := HT2.out; have l3 := HT3.out; simp; omega)).mono ?_; rintro e w14 ⟨⟨v14, rfl⟩, hb⟩; have B14 := hidOf hb; clear hb) | (go_at_call 86; refine (C3.out _ (Out.trans (Out.trans ((Out.refl w).alloc _) H2.out) B12.out.2)).mono ?_; rintro e w13 ⟨rfl, ho⟩; have B13 := hidOf (B12.out.out ho); clear ho) | (go_at_call 58; refine (B11.out.write [44, 32] (by have l0 := HW.out; have l1 := HT1.out; have l2 := HT2.out; have l3 := HT3.out; simp; omega)).mono ?_; rintro e w12 ⟨⟨v12, rfl⟩, hb⟩; have B12 := hidOf hb; obtain ⟨c0, c1, c2, c3, c4⟩ := hb.box (HX.out.out H2.out); clear hb))
  rw [rounds_succ]
  go_wp2_with (go_at_call 32; refine B14.out.text.mono ?_; rintro e wz ⟨rfl, ho⟩; have HZ := hidOf ho; clear ho)
  go_ret2
  exact ⟨by first | rfl | simp [List.append_assoc], Out.trans (Out.trans ((Out.refl w).alloc _) H2.out) HZ.out⟩
end Go.Proofs.YtkihaohdcgjioaaGreatDoor
