import Derived.Test.YteelicelpkjmhaaGreatDoorQe
namespace Go.Proofs.YteelicelpkjmhaaGreatDoor
open Go.RowKit
set_option linter.unusedVariables false
set_option linter.unusedSimpArgs false
set_option maxHeartbeats 800000 in
theorem name_any (w : World) (p : Nat) (r : RS) (h : RdAt w p r.cells) (hs : Sm r) : Calls Tryz.prog 118 #[.pointer (some ⟨p, 0, none⟩)] w fun e w' => (∃ v, e = .returned v) ∧ MEnd p (nameS r) w w' := by
  have hts := hs.2
  have CI : Hid (∀ wx : World, Calls Tryz.prog 55 #[.string ⟨r.tok.toArray⟩] wx fun e w' => e = .returned (.bool (nameP r.tok)) ∧ wx = w') := fun wx => by
    have h := isName_any ⟨r.tok.toArray⟩ wx (by rw [mk_size]; omega)
    rw [mk_list] at h
    exact h
  have CC : Hid (∀ wx : World, Calls Tryz.prog 137 #[.string ⟨r.tok.toArray⟩] wx fun e w' => e = .returned (.string ⟨r.tok.toArray⟩) ∧ Below wx.heap.size wx w') := fun wx => clone_any _ wx (by rw [mk_size]; omega)
  have CX : Hid (∀ wx : World, RdAt wx p ({ r with wrong := r.wrong || !nameP r.tok, tgt := r.tok } : RS).cells → Calls Tryz.prog 38 #[.pointer (some ⟨p, 0, none⟩)] wx fun e w' => (∃ v, e = .returned v) ∧ MEnd p (nameS r) wx w') := fun wx hx => nextR wx p _ hx hs
  have H := hidOf h
  have c1 : w.cell? ⟨p, 1, none⟩ = some (.string ⟨r.tok.toArray⟩) := h.cell 1
  have c8 : w.cell? ⟨p, 8, none⟩ = some (.bool r.wrong) := h.cell 8
  have f8 := h.frozen 8
  clear h hs
  obtain ⟨b, Hb⟩ : ∃ b, Hid (nameP r.tok = b) := ⟨_, hidOf rfl⟩
  rw [Hb.out] at CI CX
  have H1 : Hid (RdAt (w.setCell ⟨p, 8, none⟩ (.bool (r.wrong || !b))) p #[tx r.rest, tx r.tok, .int .i64 r.o, .int .i64 r.d, .int .i64 r.s, .int .i64 r.f, .int .i64 r.i, tx r.tgt, .bool (r.wrong || !b), .bool r.outside]) := H.out.set 8 _
  have HC1 : Hid (Chg (fun k => k = p) w (w.setCell ⟨p, 8, none⟩ (.bool (r.wrong || !b)))) := Chg.setCell (Chg.refl (fun k => k = p) w) (p := ⟨p, 8, none⟩) (show p = p from rfl) _
  generalize hw : r.wrong = rw at *
  have HC : Hid (∀ wx : World, Below (w.setCell ⟨p, 8, none⟩ (.bool (rw || !b))).heap.size (w.setCell ⟨p, 8, none⟩ (.bool (rw || !b))) wx → RdAt wx p #[tx r.rest, tx r.tok, .int .i64 r.o, .int .i64 r.d, .int .i64 r.s, .int .i64 r.f, .int .i64 r.i, tx r.tgt, .bool (rw || !b), .bool r.outside] ∧ Chg (fun k => k = p) w wx) := fun wx hb => ⟨H1.out.below hb, HC1.out.trans (Chg.of_out (S := fun _ => False) hb) (fun _ h _ => h.elim)⟩
  cases rw <;> (
    simp only [Bool.false_or, Bool.true_or] at HC CX
    go_enter Tryz.func118, Tryz.ntmps118
    go_wp2_with (first | (go_at_call 55; refine (CI.out _).mono ?_; rintro e w1 ⟨rfl, rfl⟩) | (go_at_call 137; refine (CC.out _).mono ?_; rintro e w2 ⟨rfl, hb2⟩; obtain ⟨hR2, hC2⟩ := HC.out _ hb2; have d7 : w2.cell? ⟨p, 7, none⟩ = some (.string ⟨r.tgt.toArray⟩) := hR2.cell 7; have f7 := hR2.frozen 7; have HR2 := hidOf hR2; have HC2 := hidOf hC2; clear hR2 hC2 hb2) | (go_at_call 38; refine (CX.out _ (HR2.out.set 7 _)).mono ?_; rintro e w3 ⟨⟨v3, rfl⟩, hend⟩; have He := hidOf hend; clear hend))
    go_end0
    exact ⟨⟨_, rfl⟩, He.out.1, (Chg.setCell HC2.out (p := ⟨p, 7, none⟩) (show p = p from rfl) _).trans He.out.2 (fun k hk _ => hk)⟩)
end Go.Proofs.YteelicelpkjmhaaGreatDoor
