import Derived.Test.YtcomhlimgocoaaaGreatDoorGc05
import Derived.Lib.ConvBytes
import Derived.Lib.AtoiAllMem
namespace Go.Proofs.YtcomhlimgocoaaaGreatDoor
open Go.RowKit
set_option linter.unusedVariables false
set_option linter.unusedSimpArgs false
/-- the reader in plain words -/
structure RS where
  rest : List UInt8
  tok : List UInt8
  o : Int
  d : Int
  s : Int
  f : Int
  i : Int
  tgt : List UInt8
  wrong : Bool
  outside : Bool
def RS.cells (r : RS) : Array Value := #[tx r.rest, tx r.tok, .int .i64 r.o, .int .i64 r.d, .int .i64 r.s, .int .i64 r.f, .int .i64 r.i, tx r.tgt, .bool r.wrong, .bool r.outside]
def RS.next (r : RS) : RS := { r with rest := restP r.rest, tok := tokP r.rest }
/-- a small text -/
def Sm (r : RS) : Prop := r.rest.length ≤ 140737488355328 ∧ r.tok.length ≤ 140737488355328
theorem restP_le (l : List UInt8) : (restP l).length ≤ l.length := by
  have := blank_le l
  unfold restP
  rw [List.length_drop]; omega
theorem tokP_le (l : List UInt8) : (tokP l).length ≤ l.length := by
  have := blank_le l
  unfold tokP
  rw [List.length_take]; omega
theorem Sm.next {r : RS} (h : Sm r) : Sm r.next := ⟨Nat.le_trans (restP_le r.rest) h.1, Nat.le_trans (tokP_le r.rest) h.1⟩
/-- a method's end: the reader's block reads r', nothing else has changed -/
def MEnd (p : Nat) (r' : RS) (w w' : World) : Prop := RdAt w' p r'.cells ∧ Chg (fun k => k = p) w w'
theorem nextR (w : World) (p : Nat) (r : RS) (h : RdAt w p r.cells) (hs : Sm r) : Calls Tryz.prog 35 #[.pointer (some ⟨p, 0, none⟩)] w fun e w' => (∃ v, e = .returned v) ∧ MEnd p r.next w w' :=
  next_any w p r.rest _ _ _ _ _ _ _ _ _ h (by have := hs.1; omega)
def skipP (m : List UInt8) (r : RS) : RS × Bool := if r.tok = m then (r.next, true) else (r, false)
theorem skip_any (w : World) (p : Nat) (r : RS) (m : List UInt8) (h : RdAt w p r.cells) (hs : Sm r) : Calls Tryz.prog 110 #[.pointer (some ⟨p, 0, none⟩), .string ⟨m.toArray⟩] w fun e w' => e = .returned (.bool (skipP m r).2) ∧ MEnd p (skipP m r).1 w w' := by
  have c1 : w.cell? ⟨p, 1, none⟩ = some (.string ⟨r.tok.toArray⟩) := h.cell 1
  by_cases hm : r.tok = m
  · have e1 : skipP m r = (r.next, true) := by simp [skipP, hm]
    rw [e1]
    have CN := hidOf (nextR w p r h hs)
    clear h hs e1
    go_enter Tryz.func110, Tryz.ntmps110
    go_wp2_with (go_at_call 35; refine CN.out.mono ?_; rintro e w1 ⟨⟨v, rfl⟩, hend⟩)
    go_ret
    exact ⟨rfl, hend⟩
  · have e1 : skipP m r = (r, false) := by simp [skipP, hm]
    rw [e1]
    have hR := hidOf h
    have hm1 : (r.tok == m) = false := by simpa using hm
    have hm2 : (r.tok != m) = true := by simpa using hm
    clear h hs e1
    go_enter Tryz.func110, Tryz.ntmps110
    go_wp2
    go_ret
    exact ⟨rfl, hR.out, Chg.refl _ _⟩
theorem Sm.skip {r : RS} (h : Sm r) (m : List UInt8) : Sm (skipP m r).1 := by
  unfold skipP
  split
  · exact h.next
  · exact h
/-- a mark must stand here -/
def markS (m : List UInt8) (r : RS) : RS := if (skipP m r).2 then (skipP m r).1 else { (skipP m r).1 with wrong := true }
theorem Sm.mark {r : RS} (h : Sm r) (m : List UInt8) : Sm (markS m r) := by
  unfold markS
  split
  · exact h.skip m
  · exact h.skip m
theorem mark_any (w : World) (p : Nat) (r : RS) (m : List UInt8) (h : RdAt w p r.cells) (hs : Sm r) : Calls Tryz.prog 66 #[.pointer (some ⟨p, 0, none⟩), .string ⟨m.toArray⟩] w fun e w' => (∃ v, e = .returned v) ∧ MEnd p (markS m r) w w' := by
  have CS := hidOf (skip_any w p r m h hs)
  clear h hs
  unfold markS
  generalize hq : skipP m r = q at *
  obtain ⟨r1, b⟩ := q
  cases b
  · go_enter Tryz.func66, Tryz.ntmps66
    go_wp2_with (go_at_call 110; refine CS.out.mono ?_; rintro e w1 ⟨rfl, hend⟩; have d8 : w1.cell? ⟨p, 8, none⟩ = some (.bool r1.wrong) := hend.1.cell 8; have f8 := hend.1.frozen 8; have He := hidOf hend; clear hend)
    go_end0
    exact ⟨⟨_, rfl⟩, He.out.1.set 8 _, Chg.setCell He.out.2 (p := ⟨p, 8, none⟩) (show p = p from rfl) _⟩
  · go_enter Tryz.func66, Tryz.ntmps66
    go_wp2_with (go_at_call 110; refine CS.out.mono ?_; rintro e w1 ⟨rfl, hend⟩; have He := hidOf hend; clear hend)
    go_end0
    exact ⟨⟨_, rfl⟩, He.out⟩
theorem clone_any (s : ByteArray) (w : World) (hl : s.size ≤ 281474976710656) : Calls Tryz.prog 134 #[.string s] w fun e w' => e = .returned (.string s) ∧ Below w.heap.size w w' := by
  go_enter Tryz.func134, Tryz.ntmps134
  go_wp2_with (go_at_call 156; refine (Tryz.stringslite_Clone s _ hl).mono ?_; rintro e w1 ⟨rfl, hb⟩)
  go_ret
  exact ⟨rfl, hb⟩
/-- a name must stand here -/
def nameS (r : RS) : RS := RS.next { r with wrong := r.wrong || !nameP r.tok, tgt := r.tok }
theorem Sm.name {r : RS} (h : Sm r) : Sm (nameS r) := Sm.next (r := { r with wrong := r.wrong || !nameP r.tok, tgt := r.tok }) h
end Go.Proofs.YtcomhlimgocoaaaGreatDoor
namespace Go.Proofs.YtcomhlimgocoaaaGreatDoor
open Go.RowKit
set_option linter.unusedVariables false
set_option linter.unusedSimpArgs false
set_option maxHeartbeats 800000 in
theorem name_any (w : World) (p : Nat) (r : RS) (h : RdAt w p r.cells) (hs : Sm r) : Calls Tryz.prog 115 #[.pointer (some ⟨p, 0, none⟩)] w fun e w' => (∃ v, e = .returned v) ∧ MEnd p (nameS r) w w' := by
  have hts := hs.2
  have CI : Hid (∀ wx : World, Calls Tryz.prog 52 #[.string ⟨r.tok.toArray⟩] wx fun e w' => e = .returned (.bool (nameP r.tok)) ∧ wx = w') := fun wx => by
    have h := isName_any ⟨r.tok.toArray⟩ wx (by rw [mk_size]; omega)
    rw [mk_list] at h
    exact h
  have CC : Hid (∀ wx : World, Calls Tryz.prog 134 #[.string ⟨r.tok.toArray⟩] wx fun e w' => e = .returned (.string ⟨r.tok.toArray⟩) ∧ Below wx.heap.size wx w') := fun wx => clone_any _ wx (by rw [mk_size]; omega)
  have CX : Hid (∀ wx : World, RdAt wx p ({ r with wrong := r.wrong || !nameP r.tok, tgt := r.tok } : RS).cells → Calls Tryz.prog 35 #[.pointer (some ⟨p, 0, none⟩)] wx fun e w' => (∃ v, e = .returned v) ∧ MEnd p (nameS r) wx w') := fun wx hx => nextR wx p _ hx hs
  have H := hidOf h
  have c1 : w.cell? ⟨p, 1, none⟩ = some (.string ⟨r.tok.toArray⟩) := h.cell 1
  have c8 : w.cell? ⟨p, 8, none⟩ = some (.bool r.wrong) := h.cell 8
  have f8 := h.frozen 8
  clear h hs
  obtain ⟨b, Hb⟩ : ∃ b, Hid (nameP r.tok = b) := ⟨_, hidOf rfl⟩
  rw [Hb.out] at CI CX
  have H1 : Hid (RdAt (w.setCell ⟨p, 8, none⟩ (.bool (r.wrong || !b))) p #[tx r.rest, tx r.tok, .int .i64 r.o, .int .i64 r.d, .int .i64 r.s, .int .i64 r.f, .int .i64 r.i, tx r.tgt, .bool (r.wrong || !b), .bool r.outside]) := H.out.set 8 _
  have HC1 : Hid (Chg (fun k => k = p) w (w.setCell ⟨p, 8, none⟩ (.bool (r.wrong || !b)))) := Chg.setCell (Chg.refl (fun k => k = p) w) (p := ⟨p, 8, none⟩) (show p = p from rfl) _
  generalize hw : r.wrong = rw at *
  have HC : Hid (∀ wx : World, Below (w.setCell ⟨p, 8, none⟩ (.bool (rw || !b))).heap.size (w.setCell ⟨p, 8, none⟩ (.bool (rw || !b))) wx → RdAt wx p #[tx r.rest, tx r.tok, .int .i64 r.o, .int .i64 r.d, .int .i64 r.s, .int .i64 r.f, .int .i64 r.i, tx r.tgt, .bool (rw || !b), .bool r.outside] ∧ Chg (fun k => k = p) w wx) := fun wx hb => ⟨H1.out.below hb, HC1.out.trans (Chg.of_out (S := fun _ => False) hb) (fun _ h _ => h.elim)⟩
  cases rw <;> (
    simp only [Bool.false_or, Bool.true_or] at HC CX
    go_enter Tryz.func115, Tryz.ntmps115
    go_wp2_with (first | (go_at_call 52; refine (CI.out _).mono ?_; rintro e w1 ⟨rfl, rfl⟩) | (go_at_call 134; refine (CC.out _).mono ?_; rintro e w2 ⟨rfl, hb2⟩; obtain ⟨hR2, hC2⟩ := HC.out _ hb2; have d7 : w2.cell? ⟨p, 7, none⟩ = some (.string ⟨r.tgt.toArray⟩) := hR2.cell 7; have f7 := hR2.frozen 7; have HR2 := hidOf hR2; have HC2 := hidOf hC2; clear hR2 hC2 hb2) | (go_at_call 35; refine (CX.out _ (HR2.out.set 7 _)).mono ?_; rintro e w3 ⟨⟨v3, rfl⟩, hend⟩; have He := hidOf hend; clear hend))
    go_end0
    exact ⟨⟨_, rfl⟩, He.out.1, (Chg.setCell HC2.out (p := ⟨p, 7, none⟩) (show p = p from rfl) _).trans He.out.2 (fun k hk _ => hk)⟩)
end Go.Proofs.YtcomhlimgocoaaaGreatDoor
namespace Go.Proofs.YtcomhlimgocoaaaGreatDoor
open Go.RowKit
set_option linter.unusedVariables false
set_option linter.unusedSimpArgs false
/-- the registers' words -/
def regL (k : Nat) : List UInt8 := if k = 10 then [114, 49, 48] else [114, UInt8.ofNat (48 + k)]
def RegT (w : World) : Prop := ∀ k, k < 11 → w.cell? ⟨1, k, none⟩ = some (.string ⟨(regL k).toArray⟩)
theorem RegT.chg {w w' : World} {S : Nat → Prop} (h : RegT w) (c : Chg S w w') (hS : ¬ S 1) : RegT w' := fun k hk => c.cell (h k hk) hS
theorem idx11s (s : Nat → Value) (k : Nat) (hk : (k : Int) < 11) (w : World) : (Instr.index 109 (.agg #[s 0, s 1, s 2, s 3, s 4, s 5, s 6, s 7, s 8, s 9, s 10]) (.int .i64 k)).run Tryz.prog w = .ok (s k) w := by
  rcases (show k = 0 ∨ k = 1 ∨ k = 2 ∨ k = 3 ∨ k = 4 ∨ k = 5 ∨ k = 6 ∨ k = 7 ∨ k = 8 ∨ k = 9 ∨ k = 10 from by omega) with rfl | rfl | rfl | rfl | rfl | rfl | rfl | rfl | rfl | rfl | rfl <;> kernel_rfl
/-- a register must stand here -/
def regIs (l : List UInt8) (k : Nat) : Prop := k < 11 ∧ l = regL k
def registerS (r : RS) (r' : RS) (n : Int) : Prop := (∃ k, regIs r.tok k ∧ r' = r.next ∧ n = k) ∨ ((∀ k, ¬ regIs r.tok k) ∧ r' = { r with wrong := true } ∧ n = 0)
def RegEnd (p : Nat) (r : RS) (w : World) (e : Ending) (w' : World) : Prop := ∃ n r', e = .returned (.int .i64 n) ∧ registerS r r' n ∧ MEnd p r' w w'
set_option maxRecDepth 20000 in
set_option maxHeartbeats 800000 in
theorem register_any (w : World) (p : Nat) (r : RS) (h : RdAt w p r.cells) (hs : Sm r) (ht : RegT w) : Calls Tryz.prog 111 #[.pointer (some ⟨p, 0, none⟩)] w fun e w' => RegEnd p r w e w' := by
  have CN := hidOf (nextR w p r h hs)
  have H := hidOf h
  obtain ⟨g, hg⟩ : ∃ g : Nat → List UInt8, g = regL := ⟨_, rfl⟩
  have hl : ∀ k, k < 11 → w.cell? ⟨1, k, none⟩ = some (.string ⟨(g k).toArray⟩) := by rw [hg]; exact ht
  have HG := hidOf hg
  clear hg ht
  have c1 : w.cell? ⟨p, 1, none⟩ = some (.string ⟨r.tok.toArray⟩) := h.cell 1
  have c8 : w.cell? ⟨p, 8, none⟩ = some (.bool r.wrong) := h.cell 8
  have f8 := h.frozen 8
  clear h hs
  have hix := idx11s (fun k => .string ⟨(g k).toArray⟩)
  go_enter Tryz.func111, Tryz.ntmps111
  go_wp2
  clear hl
  go_loopw [6] (fun iv wr => ∃ k : Nat, k ≤ 11 ∧ iv = .int .i64 k ∧ Hid (∀ j, j < k → r.tok ≠ g j) ∧ wr = w) (fun iv _ => 11 - (intOf iv).toNat)
  case atStart => exact ⟨0, by omega, rfl, fun j hj => by omega, rfl⟩
  case round =>
    obtain ⟨k, hk, rfl, Hno, rfl⟩ := hrel
    by_cases hk11 : k < 11
    · have hlt : (k : Int) < 11 := by omega
      by_cases he : r.tok = g k
      · have He := hidOf he
        go_wp2_with (go_at_call 35; refine CN.out.mono ?_; rintro e w1 ⟨⟨v, rfl⟩, hend⟩; have Hend := hidOf hend; clear hend)
        go_ret
        exact ⟨k, r.next, rfl, .inl ⟨k, ⟨hk11, by rw [He.out, HG.out]⟩, rfl, rfl⟩, Hend.out⟩
      · have h1 : (r.tok == g k) = false := by simpa using he
        have Hno' : Hid (∀ j, j < k + 1 → r.tok ≠ g j) := fun j hj => by
          by_cases z : j = k
          · subst z; exact he
          · exact Hno.out j (by omega)
        go_wp2
        go_roundw
        case rel => exact ⟨k + 1, by omega, by simp, Hno', trivial⟩
        case measure => simp [intOf]; omega
    · have hlt : ¬ (k : Int) < 11 := by omega
      obtain rfl : k = 11 := by omega
      go_wp2
      go_ret
      refine ⟨0, { r with wrong := true }, rfl, .inr ⟨fun j hj => ?_, rfl, rfl⟩, H.out.set 8 _, Chg.setCell (Chg.refl (fun k => k = p) _) (p := ⟨p, 8, none⟩) (show p = p from rfl) _⟩
      exact Hno.out j hj.1 (by rw [HG.out]; exact hj.2)
end Go.Proofs.YtcomhlimgocoaaaGreatDoor
namespace Go.Proofs.YtcomhlimgocoaaaGreatDoor
open Go.RowKit
set_option linter.unusedVariables false
set_option linter.unusedSimpArgs false
/-- a reader at the text's first token -/
def newR (l : List UInt8) : RS := RS.next ⟨l, [], 0, 0, 0, 0, 0, [], false, false⟩
theorem newR_sm {l : List UInt8} (h : l.length ≤ 140737488355328) : Sm (newR l) := Sm.next (r := ⟨l, [], 0, 0, 0, 0, 0, [], false, false⟩) ⟨h, Nat.zero_le _⟩
theorem newReader_any (w : World) (l : List UInt8) (h : l.length ≤ 140737488355328) : Calls Tryz.prog 32 #[.string ⟨l.toArray⟩] w fun e w' => ∃ p, e = .returned (.pointer (some ⟨p, 0, none⟩)) ∧ w.heap.size ≤ p ∧ RdAt w' p (newR l).cells ∧ Out w w' := by
  have CN : Hid (∀ wx p, RdAt wx p (RS.cells ⟨l, [], 0, 0, 0, 0, 0, [], false, false⟩) → Calls Tryz.prog 35 #[.pointer (some ⟨p, 0, none⟩)] wx fun e w' => (∃ v, e = .returned v) ∧ MEnd p (newR l) wx w') := fun wx p hx => nextR wx p _ hx ⟨h, Nat.zero_le _⟩
  have H0 : Hid (RdAt (w.alloc (.cells #[.string ⟨l.toArray⟩, .string ⟨#[]⟩, .int .i64 0, .int .i64 0, .int .i64 0, .int .i64 0, .int .i64 0, .string ⟨#[]⟩, .bool false, .bool false] 81)) w.heap.size (RS.cells ⟨l, [], 0, 0, 0, 0, 0, [], false, false⟩)) := heap_alloc_new w _
  go_enter Tryz.func32, Tryz.ntmps32
  go_wp2_with (go_at_call 35; go_loud (refine (CN.out _ _ H0.out).mono ?_); rintro e w1 ⟨⟨v, rfl⟩, hend⟩; have He := hidOf hend; clear hend)
  go_ret
  exact ⟨w.heap.size, rfl, Nat.le_refl _, He.out.1, Chg.out He.out.2 ((Out.refl w).alloc _) (fun k hk => by omega)⟩
end Go.Proofs.YtcomhlimgocoaaaGreatDoor
namespace Go.Proofs.YtcomhlimgocoaaaGreatDoor
open Go.RowKit
set_option linter.unusedVariables false
set_option linter.unusedSimpArgs false
/-- a hexadecimal digit's value -/
def hexD (c : Int) : Int := if c ≤ 57 then c - 48 else if 97 ≤ c then c - 87 else c - 55
theorem lower_any (c : Int) (w : World) : Calls Tryz.prog 195 #[.int .u8 c] w fun e w' => e = .returned (.int .u8 (bits .or .u8 c 32)) ∧ w = w' := by
  go_enter Tryz.func195, Tryz.ntmps195
  go_wp2
  go_ret
  exact ⟨rfl, rfl⟩
theorem low_hex : ∀ n : Fin 256, hexP (n.val : Int) = true → digP (n.val : Int) = false → 97 ≤ bits .or .u8 (n.val : Int) 32 ∧ bits .or .u8 (n.val : Int) 32 ≤ 102 ∧ bits .or .u8 (n.val : Int) 32 - 87 = hexD (n.val : Int) := by decide +kernel
theorem low65 : ∀ n : Fin 256, hexP (n.val : Int) = true → digP (n.val : Int) = false → 65 ≤ (n.val : Int) := by decide +kernel
theorem dig_hex : ∀ n : Fin 256, digP (n.val : Int) = true → hexD (n.val : Int) = (n.val : Int) - 48 ∧ 48 ≤ (n.val : Int) ∧ (n.val : Int) ≤ 57 := by decide +kernel
theorem not95 : ∀ n : Fin 256, hexP (n.val : Int) = true → ((n.val : Int) == 95) = false := by decide +kernel
def hexV : Int → List UInt8 → Int
  | a, [] => a
  | a, b :: l => hexV (a * 16 + hexD (bI b)) l
/-- how much k hexadecimal digits can tell -/
def cap16 (k : Nat) : Int := 16 ^ k
theorem cap16_le : ∀ k, k ≤ 15 → cap16 k ≤ 1152921504606846976 := by decide
theorem cap16_succ (k : Nat) : cap16 (k + 1) = cap16 k * 16 := Int.pow_succ _ _
theorem hexD_rng : ∀ n : Fin 256, hexP (n.val : Int) = true → 0 ≤ hexD (n.val : Int) ∧ hexD (n.val : Int) ≤ 15 := by decide +kernel
theorem hexV_snoc (a : Int) (l : List UInt8) (b : UInt8) : hexV a (l ++ [b]) = hexV a l * 16 + hexD (bI b) := by
  induction l generalizing a with
  | nil => rfl
  | cons x l ih => exact ih _
set_option maxRecDepth 20000 in
set_option maxHeartbeats 4000000 in
theorem parse16 (t : ByteArray) (hne : t.size ≠ 0) (h16 : t.size ≤ 16) (hall : ∀ b ∈ t.data.toList, hexP (bI b) = true) (w : World) :
    Calls Tryz.prog 193 #[.string t, .int .i64 16, .int .i64 64] w fun e w' => e = .returned (.tuple #[.int .u64 (hexV 0 t.data.toList), .nilIface]) ∧ w' = Lib.bytesWorld w 5 t := by
  obtain ⟨hie, hne'⟩ := isEmpty_of hne
  have hcv := Lib.run_convert_string_bytes (P := Tryz.prog) w 9 53 5 t (u := .string) Tryz.underlying9 Tryz.underlying53 Tryz.underlying5
  have HB : Hid (∀ j, j < t.size → (Lib.bytesWorld w 5 t).cell? ⟨w.heap.size, j, none⟩ = some (.int .u8 (t.data.toList.getD j 0).toNat)) := fun j hj => Lib.bytesWorld_cell w 5 t j hj
  have HA := hidOf hall
  clear hall
  obtain ⟨W1, hW1⟩ : ∃ W1, W1 = Lib.bytesWorld w 5 t := ⟨_, rfl⟩
  rw [← hW1] at hcv HB ⊢
  clear hW1
  obtain ⟨bs, hL⟩ : ∃ bs, bs = t.data.toList := ⟨_, rfl⟩
  have hLn : bs.length = t.size := by rw [hL]; rfl
  rw [← hL] at HB HA ⊢
  clear hL
  have hmv : IntKind.u64.wrap (IntKind.u64.wrap 18446744073709551616 - 1) = 18446744073709551615 := by
    rw [IntKind.wrap_u64, IntKind.wrap_u64]; decide
  go_enter Tryz.func193, Tryz.ntmps193
  go_wp2
  go_loop [12, 13, 101] (fun vu vn vi => ∃ (k : Nat) (a : Int), vu = .bool false ∧ vn = .int .u64 a ∧ vi = .int .i64 k ∧ k ≤ t.size ∧ Hid (0 ≤ a ∧ a < cap16 k ∧ a = hexV 0 (bs.take k))) (fun _ _ vi => t.size - (intOf vi).toNat)
  case atStart => exact ⟨0, 0, rfl, rfl, rfl, by omega, by omega, by decide, rfl⟩
  case round =>
    obtain ⟨k, a, rfl, rfl, rfl, hk, hh⟩ := hrel
    by_cases hkn : k < t.size
    · have hc := HB.out k hkn
      have hget : bs[k]? = some (bs[k]'(by omega)) := List.getElem?_eq_getElem (by omega)
      have hgd : bs.getD k 0 = bs[k]'(by omega) := by simp [List.getD, hget]
      have hx := HA.out _ (List.getElem_mem (show k < bs.length by omega))
      rw [hgd] at hc
      have htk : bs.take (k + 1) = bs.take k ++ [bs[k]'(by omega)] := by rw [List.take_add_one, hget]; rfl
      have hcap := cap16_le k (by omega)
      have hcs := cap16_succ k
      obtain ⟨a0, a1, a2⟩ := hh.out
      have hv := hexV_snoc 0 (bs.take k) (bs[k]'(by omega))
      rw [← htk, ← a2] at hv
      generalize bs[k]'(by omega) = cb at hc hx hv
      have h256 : cb.toNat < 256 := cb.toNat_lt
      have hr := hexD_rng ⟨cb.toNat, h256⟩ hx
      have h95 := not95 ⟨cb.toNat, h256⟩ hx
      have hlw := low_hex ⟨cb.toNat, h256⟩ hx
      have hdg := dig_hex ⟨cb.toNat, h256⟩
      have h65 := low65 ⟨cb.toNat, h256⟩ hx
      simp only at hr h95 hlw hdg h65
      have hbI : bI cb = (cb.toNat : Int) := rfl
      rw [hbI] at hv
      generalize hD : hexD (cb.toNat : Int) = dd at *
      have HN : Hid (0 ≤ a * 16 + dd ∧ a * 16 + dd < cap16 (k + 1) ∧ a * 16 + dd = hexV 0 (bs.take (k + 1))) := ⟨by omega, by omega, hv.symm⟩
      have icut : a < 1152921504606846976 := by omega
      have iov : a * 16 + dd < 18446744073709551616 := by omega
      have i0 : 0 ≤ a * 16 := by omega
      obtain ⟨r0, r1⟩ := hr
      clear hh a1 a2 hv hcap hcs hget hgd htk hD hbI hx HB
      cases hdig : digP (cb.toNat : Int)
      · obtain ⟨l0, l1, l2⟩ := hlw hdig
        have c65 := h65 hdig
        have c57 : ¬ (cb.toNat : Int) ≤ 57 := by omega
        have CL : Hid (∀ wx : World, Calls Tryz.prog 195 #[.int .u8 (cb.toNat : Int)] wx fun e w' => e = .returned (.int .u8 (dd + 87)) ∧ wx = w') := fun wx => by
          have h := lower_any (cb.toNat : Int) wx
          rw [show bits .or .u8 (cb.toNat : Int) 32 = dd + 87 by omega] at h
          exact h
        have q0 : 97 ≤ dd + 87 := by omega
        have q1 : dd + 87 ≤ 122 := by omega
        have q2 : 10 ≤ dd := by omega
        clear hlw hdg hdig l0 l1 l2 h65
        go_wp2_with (go_at_call 195; refine (CL.out _).mono ?_; rintro e w3 ⟨rfl, rfl⟩)
        exact ⟨⟨k + 1, a * 16 + dd, rfl, by congr 1; omega, by simp, by omega, HN⟩, by simp [intOf]; omega⟩
      · obtain ⟨e1, e2, e3⟩ := hdg hdig
        clear hlw hdg hdig h65
        subst e1
        go_wp2
        exact ⟨⟨k + 1, _, rfl, rfl, by simp, by omega, HN⟩, by simp [intOf]; omega⟩
    · obtain rfl : k = t.size := by omega
      obtain ⟨a0, a1, a2⟩ := hh.out
      have e1 : bs.take t.size = bs := List.take_of_length_le (by omega)
      rw [e1] at a2
      have A2 := hidOf a2
      clear hh a2 a1
      go_wp2
      go_ret2
      exact ⟨by rw [A2.out]; rfl, rfl⟩
end Go.Proofs.YtcomhlimgocoaaaGreatDoor
