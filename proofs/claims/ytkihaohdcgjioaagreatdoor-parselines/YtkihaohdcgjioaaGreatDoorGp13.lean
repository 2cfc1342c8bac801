import Derived.Test.YtkihaohdcgjioaaGreatDoorGp08
import Derived.Test.YtkihaohdcgjioaaGreatDoorGp12
namespace Go.Proofs.YtkihaohdcgjioaaGreatDoor.Lx
open Go.RowKit
set_option linter.unusedVariables false
set_option linter.unusedSimpArgs false
theorem mixed_ : Tryz.prog.follows Departure.mixedOrders = true := by kernel_rfl
set_option maxHeartbeats 2000000 in
set_option maxRecDepth 100000 in
theorem string_any (N p : Nat) (w : World) (s : WS) (h : WrAt N p w s) (hl : s.l.length ≤ 16777216) :
    Calls Tryz.prog 32 #[.pointer (some ⟨p, 0, none⟩)] w fun e w' => e = .returned (.string ⟨s.l.toArray⟩) ∧ Below N w w' := by
  have mixed := mixed_
  obtain ⟨ad, bv, h⟩ := h
  obtain ⟨l, size, line⟩ := s
  simp only at h hl ⊢
  by_cases h0 : l = []
  · subst h0
    have hbv := h.nil_ rfl
    subst hbv
    have c1 : w.drew.cell? ⟨p, 1, none⟩ = some (.slice none 0 0) := h.cell 1
    have hUS : ∀ W, (Builtin.unsafeString_ #[108, 3] 9 #[.pointer none, .int .i64 0]).run Tryz.prog W = .ok (.string .empty) W := fun W => Lib.run_unsafeString_none W _ _ _ none
    have hSD : (Builtin.unsafeSliceData_ #[24] 108 #[.slice none 0 0]).run Tryz.prog w.drew = .ok (.pointer none) w.drew := rfl
    clear h
    go_enter Tryz.func32, Tryz.ntmps32
    go_wp2
    go_region_o
    all_goals (go_wp2; go_ret; exact ⟨rfl, Below.drew (Below.refl N w)⟩)
  · have hl0 : l.length ≠ 0 := by simpa using h0
    obtain ⟨g, cap, cur, rfl, hbg, hg, hnc, hcm, hcs, htake⟩ : ∃ g cap cur, bv = .slice (some ⟨g, 0, none⟩) l.length cap ∧ N ≤ g ∧ w.heap[g]? = some (.cells cur 5 (0, 0)) ∧ l.length ≤ cap ∧ cap ≤ maxLen ∧ cur.size = cap * 1 ∧ cur.toList.take (l.length * 1) = Lib.byteCells l := by
      rcases h.own.2 with ⟨_, hz⟩ | ⟨g, cap, cur, hv, r⟩
      · exact absurd hz hl0
      · exact ⟨g, cap, cur, hv, r⟩
    have c1 : w.drew.cell? ⟨p, 1, none⟩ = some (.slice (some ⟨g, 0, none⟩) l.length cap) := h.cell 1
    have hSD : (Builtin.unsafeSliceData_ #[24] 108 #[.slice (some ⟨g, 0, none⟩) l.length cap]).run Tryz.prog w.drew = .ok (.pointer (some ⟨g, 0, none⟩)) w.drew :=
      Lib.run_unsafeSliceData_row _ _ _ _ _ _ (by omega)
    have hown := h.own
    have hUS : (Builtin.unsafeString_ #[108, 3] 9 #[.pointer (some ⟨g, 0, none⟩), .int .i64 l.length]).run Tryz.prog w.drew = .ok (.string ⟨l.toArray⟩) (w.drew.freeze ⟨g, 0, none⟩ l.length) := by
      refine Lib.run_unsafeString_row w.drew 108 3 9 5 Tryz.underlying108 Tryz.Builder_Extra_169.cellsByte g cur.size (by have hg' : w.drew.heap[g]? = some (.cells cur 5 (0, 0)) := hg; simp [World.shape?, hg']) l h0 (by omega) (by omega) ?_
      intro j x hx
      have := hown.cells (g := g) rfl j (.int .u8 x.toNat) (by simp [Lib.byteCells, hx])
      exact this
    clear h hown htake hcs hg
    go_enter Tryz.func32, Tryz.ntmps32
    go_wp2
    go_region_o
    all_goals (go_wp2; go_ret; exact ⟨rfl, Lib.below_freeze (Below.drew (Below.refl N w)) (p := ⟨g, 0, none⟩) hbg _⟩)
end Go.Proofs.YtkihaohdcgjioaaGreatDoor.Lx
namespace Go.Proofs.YtkihaohdcgjioaaGreatDoor.Lx
open Go.RowKit
set_option linter.unusedVariables false
set_option linter.unusedSimpArgs false
theorem dd_small {u : Nat} (h : u < 10) : Lib.decDigits u = [UInt8.ofNat (48 + u)] := by
  unfold Lib.decDigits
  simp [h]
def WS.tok (s : WS) (x : Tk) : WS :=
  if x.k = 1 ∨ x.k = 2 ∨ x.k = 4 then s.piece x.t else if x.k = 3 then s.piece (Lib.decDigits x.n.toNat) else if x.k = 5 then ⟨(s.put [10]).l, (s.put [10]).size, 0⟩ else s
theorem Wr.line0 {N p : Nat} {w : World} {s : WS} (h : WrAt N p w s) : WrAt N p (w.setCell ⟨p, 3, none⟩ (.int .i64 0)) ⟨s.l, s.size, 0⟩ := by
  obtain ⟨ad, bv, h⟩ := h
  exact ⟨ad, bv, h.set3 0⟩
theorem WrAt.out {N p : Nat} {w w' : World} {s : WS} (h : WrAt N p w s) (o : Out w w') : WrAt N p w' s := by
  obtain ⟨ad, bv, h⟩ := h
  exact ⟨ad, bv, h.out o⟩
theorem WrAt.base {N p : Nat} {w : World} {s : WS} (h : WrAt N p w s) : N ≤ w.heap.size := by
  obtain ⟨ad, bv, h⟩ := h
  exact h.base
theorem WrAt.le {N p : Nat} {w : World} {s : WS} (h : WrAt N p w s) : N ≤ p := by
  obtain ⟨ad, bv, h⟩ := h
  exact h.le
theorem WrAt.c3 {N p : Nat} {w : World} {s : WS} (h : WrAt N p w s) : w.cell? ⟨p, 3, none⟩ = some (.int .i64 s.line) ∧ w.frozen? ⟨p, 3, none⟩ = false := by
  obtain ⟨ad, bv, h⟩ := h
  exact ⟨h.cell 3, h.frozen 3⟩
set_option maxHeartbeats 2000000 in
theorem wtoken_any (N p : Nat) (w : World) (s : WS) (x : Tk) (hpw : Pow w) (h : WrAt N p w s) (hl : s.l.length ≤ 16777216) (hls : s.l.length ≤ s.size) (hs : s.size ≤ 1000000000000000000) (hli : s.line ≤ s.size) (ht : x.t.length ≤ 16777216) (hn : 0 ≤ x.n ∧ x.n < 18446744073709551616) (hdl : (Lib.decDigits x.n.toNat).length ≤ 100) :
    Calls Tryz.prog 132 #[.pointer (some ⟨p, 0, none⟩), .agg #[.int .i64 x.k, .string ⟨x.t.toArray⟩, .int .u64 x.n, .int .i64 x.l]] w fun e w' => WEnd N p w (s.tok x) e w' := by
  obtain ⟨k, t, n, l⟩ := x
  simp only at ht hn hdl ⊢
  obtain ⟨u, rfl⟩ : ∃ u : Nat, n = u := ⟨n.toNat, by omega⟩
  simp only [Int.toNat_natCast] at hdl
  have HO : Hid (Out w (w.alloc (.cells #[.int .i64 k, .string ⟨t.toArray⟩, .int .u64 (u : Int), .int .i64 l] 117))) := (Out.refl w).alloc _
  have d0 : (w.alloc (.cells #[.int .i64 k, .string ⟨t.toArray⟩, .int .u64 (u : Int), .int .i64 l] 117)).cell? ⟨w.heap.size, 0, none⟩ = some (.int .i64 k) := cell_fresh _ _ _ _ _ rfl
  have d1 : (w.alloc (.cells #[.int .i64 k, .string ⟨t.toArray⟩, .int .u64 (u : Int), .int .i64 l] 117)).cell? ⟨w.heap.size, 1, none⟩ = some (.string ⟨t.toArray⟩) := cell_fresh _ _ _ _ _ rfl
  have d2 : (w.alloc (.cells #[.int .i64 k, .string ⟨t.toArray⟩, .int .u64 (u : Int), .int .i64 l] 117)).cell? ⟨w.heap.size, 2, none⟩ = some (.int .u64 (u : Int)) := cell_fresh _ _ _ _ _ rfl
  have HP := hidOf (hpw.out HO.out)
  have H1 := hidOf (h.out HO.out)
  have B1 : Hid (Below N w (w.alloc (.cells #[.int .i64 k, .string ⟨t.toArray⟩, .int .u64 (u : Int), .int .i64 l] 117))) := Below.of_out HO.out h.base
  have hle := hidOf h.le
  clear h hpw
  have CP : Hid (∀ (y : List UInt8) wx, y.length ≤ 16777216 → WrAt N p wx s → Calls Tryz.prog 173 #[.pointer (some ⟨p, 0, none⟩), .string ⟨y.toArray⟩] wx fun e w' => WEnd N p wx (s.piece y) e w') := fun y wx hy hx => piece_any N p wx s y hx hl hls (by omega) hli hy
  by_cases k1 : k = 1 ∨ k = 2 ∨ k = 4
  · have hP : s.tok ⟨k, t, u, l⟩ = s.piece t := by unfold WS.tok; rw [if_pos k1]
    rw [hP]
    rcases k1 with rfl | rfl | rfl
    all_goals (
      go_enter Tryz.func132, Tryz.ntmps132
      go_wp2_with (go_at_call 173; refine (CP.out t _ ht H1.out).mono ?_; rintro e w1 ⟨⟨v, rfl⟩, hq, hb⟩; have H2 := hidOf hq; have B2 := hidOf hb; clear hq hb)
      go_end0
      exact ⟨⟨_, rfl⟩, H2.out, Below.step B1.out B2.out⟩)
  have j1 : (k == 1) = false := by simp only [beq_eq_false_iff_ne]; exact fun h => k1 (.inl h)
  have j2 : (k == 2) = false := by simp only [beq_eq_false_iff_ne]; exact fun h => k1 (.inr (.inl h))
  have j4 : (k == 4) = false := by simp only [beq_eq_false_iff_ne]; exact fun h => k1 (.inr (.inr h))
  by_cases k3 : k = 3
  · have hP : s.tok ⟨k, t, u, l⟩ = s.piece (Lib.decDigits u) := by unfold WS.tok; rw [if_neg k1, if_pos k3]; rfl
    rw [hP]
    subst k3
    have CF := hidOf (fmt_any u (by omega) _ HP.out)
    go_enter Tryz.func132, Tryz.ntmps132
    go_wp2_with (first | (go_at_call 104; refine CF.out.mono ?_; rintro e wf ⟨rfl, ho⟩; have HF := hidOf ho; clear ho) | (go_at_call 173; refine (CP.out (Lib.decDigits u) wf (by omega) (H1.out.out HF.out)).mono ?_; rintro e w1 ⟨⟨v, rfl⟩, hq, hb⟩; have H2 := hidOf hq; have B2 := hidOf hb; clear hq hb))
    go_end0
    exact ⟨⟨_, rfl⟩, H2.out, Below.step B1.out (Below.step (Below.of_out HF.out H1.out.base) B2.out)⟩
  have j3 : (k == 3) = false := by simpa using k3
  by_cases k5 : k = 5
  · have hP : s.tok ⟨k, t, u, l⟩ = ⟨(s.put [10]).l, (s.put [10]).size, 0⟩ := by unfold WS.tok; rw [if_neg k1, if_neg k3, if_pos k5]
    rw [hP]
    subst k5
    have CU := hidOf (put_any N p _ s [10] H1.out hl (by simp; omega) (by simp; omega) (by simp))
    go_enter Tryz.func132, Tryz.ntmps132
    go_upto_region 10 with (go_at_call 174; refine CU.out.mono ?_; rintro e w1 ⟨⟨v, rfl⟩, hq, hb⟩; have H2 := hidOf hq; have B2 := hidOf hb; clear hq hb)
    obtain ⟨e3, f3⟩ := H2.out.c3
    go_wp2
    go_end0
    exact ⟨⟨_, rfl⟩, Wr.line0 H2.out, Below.step B1.out (Below.set_own B2.out hle.out _)⟩
  have j5 : (k == 5) = false := by simpa using k5
  have hP : s.tok ⟨k, t, u, l⟩ = s := by unfold WS.tok; rw [if_neg k1, if_neg k3, if_neg k5]
  rw [hP]
  go_enter Tryz.func132, Tryz.ntmps132
  go_wp2
  go_end0
  exact ⟨⟨_, rfl⟩, H1.out, B1.out⟩
end Go.Proofs.YtkihaohdcgjioaaGreatDoor.Lx
namespace Go.Proofs.YtkihaohdcgjioaaGreatDoor
open Go.RowKit
set_option linter.unusedVariables false
set_option linter.unusedSimpArgs false
/-- a reader at the text's first token -/
def newR (l : List UInt8) : RS := RS.next ⟨l, [], 0, 0, 0, 0, 0, [], false, false⟩
theorem newR_sm {l : List UInt8} (h : l.length ≤ 140737488355328) : Sm (newR l) := Sm.next (r := ⟨l, [], 0, 0, 0, 0, 0, [], false, false⟩) ⟨h, Nat.zero_le _⟩
theorem newReader_any (w : World) (l : List UInt8) (h : l.length ≤ 140737488355328) : Calls Tryz.prog 175 #[.string ⟨l.toArray⟩] w fun e w' => ∃ p, e = .returned (.pointer (some ⟨p, 0, none⟩)) ∧ w.heap.size ≤ p ∧ RdAt w' p (newR l).cells ∧ Out w w' := by
  have CN : Hid (∀ wx p, RdAt wx p (RS.cells ⟨l, [], 0, 0, 0, 0, 0, [], false, false⟩) → Calls Tryz.prog 178 #[.pointer (some ⟨p, 0, none⟩)] wx fun e w' => (∃ v, e = .returned v) ∧ MEnd p (newR l) wx w') := fun wx p hx => nextR wx p _ hx ⟨h, Nat.zero_le _⟩
  have H0 : Hid (RdAt (w.alloc (.cells #[.string ⟨l.toArray⟩, .string ⟨#[]⟩, .int .i64 0, .int .i64 0, .int .i64 0, .int .i64 0, .int .i64 0, .string ⟨#[]⟩, .bool false, .bool false] 220)) w.heap.size (RS.cells ⟨l, [], 0, 0, 0, 0, 0, [], false, false⟩)) := heap_alloc_new w _
  go_enter Tryz.func175, Tryz.ntmps175
  go_wp2_with (go_at_call 178; go_loud (refine (CN.out _ _ H0.out).mono ?_); rintro e w1 ⟨⟨v, rfl⟩, hend⟩; have He := hidOf hend; clear hend)
  go_ret
  exact ⟨w.heap.size, rfl, Nat.le_refl _, He.out.1, Chg.out He.out.2 ((Out.refl w).alloc _) (fun k hk => by omega)⟩
end Go.Proofs.YtkihaohdcgjioaaGreatDoor
