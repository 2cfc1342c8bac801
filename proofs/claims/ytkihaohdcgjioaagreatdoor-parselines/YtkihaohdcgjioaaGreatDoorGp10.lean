import Derived.Test.YtkihaohdcgjioaaGreatDoorGp03
import Derived.Test.YtkihaohdcgjioaaGreatDoorGp01
import Derived.Lib.ConvBytes
import Derived.Lib.AtoiAllMem
import Derived.Shelf.Bytes.SlSearch1
import Derived.Shelf.Bytes.SlSearch2
import Derived.Shelf.Bytes.SlIndexWhole
import Derived.Ground.SlbtProg
import Derived.Shelf.Bytes.SlCut
import Derived.WalkKit
import Derived.Test.YtkihaohdcgjioaaGreatDoorGp06
import Derived.ProofKit
import Derived.OpenShut
import Derived.Lib.LaidTab
import Derived.Test.YtkihaohdcgjioaaGreatDoorTie
namespace Go.Proofs.YtkihaohdcgjioaaGreatDoor.Lx
open Go.RowKit
set_option linter.unusedVariables false
set_option linter.unusedSimpArgs false
theorem lower_any (c : Int) (w : World) : Calls Tryz.prog 262 #[.int .u8 c] w fun e w' => e = .returned (.int .u8 (bits .or .u8 c 32)) ∧ w = w' := by
  go_enter Tryz.func262, Tryz.ntmps262
  go_wp2
  go_ret
  exact ⟨rfl, rfl⟩
theorem low_hex : ∀ n : Fin 256, hexP (n.val : Int) = true → digP (n.val : Int) = false → 97 ≤ bits .or .u8 (n.val : Int) 32 ∧ bits .or .u8 (n.val : Int) 32 ≤ 102 ∧ bits .or .u8 (n.val : Int) 32 - 87 = hexD (n.val : Int) := by decide +kernel
theorem low65 : ∀ n : Fin 256, hexP (n.val : Int) = true → digP (n.val : Int) = false → 65 ≤ (n.val : Int) := by decide +kernel
theorem dig_hex : ∀ n : Fin 256, digP (n.val : Int) = true → hexD (n.val : Int) = (n.val : Int) - 48 ∧ 48 ≤ (n.val : Int) ∧ (n.val : Int) ≤ 57 := by decide +kernel
theorem not95 : ∀ n : Fin 256, hexP (n.val : Int) = true → ((n.val : Int) == 95) = false := by decide +kernel
theorem low_bad : ∀ n : Fin 256, hexP (n.val : Int) = false → digP (n.val : Int) = false ∧ 0 ≤ bits .or .u8 (n.val : Int) 32 ∧ bits .or .u8 (n.val : Int) 32 < 256 ∧ (97 ≤ bits .or .u8 (n.val : Int) 32 → bits .or .u8 (n.val : Int) 32 ≤ 122 → 103 ≤ bits .or .u8 (n.val : Int) 32) ∧ ((n.val : Int) = 95 → bits .or .u8 (n.val : Int) 32 = 127) := by decide +kernel
def cap16 (k : Nat) : Int := 16 ^ k
theorem cap16_le : ∀ k, k ≤ 15 → cap16 k ≤ 1152921504606846976 := by decide
theorem cap16_succ (k : Nat) : cap16 (k + 1) = cap16 k * 16 := Int.pow_succ _ _
theorem hexD_rng : ∀ n : Fin 256, hexP (n.val : Int) = true → 0 ≤ hexD (n.val : Int) ∧ hexD (n.val : Int) ≤ 15 := by decide +kernel
theorem hexV_snoc (a : Int) (l : List UInt8) (b : UInt8) : hexV a (l ++ [b]) = hexV a l * 16 + hexD (bI b) := by
  induction l generalizing a with
  | nil => rfl
  | cons x l ih => exact ih _
theorem all_take {α : Type} (p : α → Bool) (l : List α) (k : Nat) (b : α) (h : (l.take k).all p = true) (hb : l[k]? = some b) (hp : p b = true) : (l.take (k + 1)).all p = true := by
  rw [List.take_add_one, List.all_append, h, hb]; simp [hp]
theorem all_not {α : Type} (p : α → Bool) (l : List α) (k : Nat) (b : α) (hb : l[k]? = some b) (hp : p b = false) : l.all p = false := by
  rw [List.all_eq_false]
  exact ⟨b, List.mem_of_getElem? hb, by simp [hp]⟩
def val16 (l : List UInt8) : Value × Value := if l.all hexU = true then (.int .u64 (hexV 0 l), .nilIface) else (.int .u64 0, .iface 291 (.int .i64 2))
set_option maxRecDepth 20000 in
set_option maxHeartbeats 4000000 in
theorem parse16 (t : ByteArray) (hne : t.size ≠ 0) (h16 : t.size ≤ 16) (w : World) :
    Calls Tryz.prog 252 #[.string t, .int .i64 16, .int .i64 64] w fun e w' => e = .returned (.tuple #[(val16 t.data.toList).1, (val16 t.data.toList).2]) ∧ w' = Lib.bytesWorld w 5 t := by
  have hie : t.toList.isEmpty = false ∧ ¬ t.toList = [] := isEmpty_of hne
  obtain ⟨hie, hne'⟩ := hie
  have hcv := Lib.run_convert_string_bytes (P := Tryz.prog) w 9 24 5 t (u := .string) Tryz.underlying9 Tryz.underlying24 Tryz.underlying5
  have HB : Hid (∀ j, j < t.size → (Lib.bytesWorld w 5 t).cell? ⟨w.heap.size, j, none⟩ = some (.int .u8 (t.data.toList.getD j 0).toNat)) := fun j hj => Lib.bytesWorld_cell w 5 t j hj
  obtain ⟨W1, hW1⟩ : ∃ W1, W1 = Lib.bytesWorld w 5 t := ⟨_, rfl⟩
  rw [← hW1] at hcv HB ⊢
  clear hW1
  obtain ⟨bs, hL⟩ : ∃ bs, bs = t.data.toList := ⟨_, rfl⟩
  have hLn : bs.length = t.size := by rw [hL]; rfl
  rw [← hL] at HB ⊢
  clear hL
  have hmv : IntKind.u64.wrap (IntKind.u64.wrap 18446744073709551616 - 1) = 18446744073709551615 := by
    rw [IntKind.wrap_u64, IntKind.wrap_u64]; decide
  go_enter Tryz.func252, Tryz.ntmps252
  go_wp2
  go_loop [12, 13, 101] (fun vu vn vi => ∃ (k : Nat) (a : Int), vu = .bool false ∧ vn = .int .u64 a ∧ vi = .int .i64 k ∧ k ≤ t.size ∧ Hid (0 ≤ a ∧ a < cap16 k ∧ a = hexV 0 (bs.take k) ∧ (bs.take k).all hexU = true)) (fun _ _ vi => t.size - (intOf vi).toNat)
  case atStart => exact ⟨0, 0, rfl, rfl, rfl, by omega, by omega, by decide, rfl, by simp⟩
  case round =>
    obtain ⟨k, a, rfl, rfl, rfl, hk, hh⟩ := hrel
    by_cases hkn : k < t.size
    · have hc := HB.out k hkn
      have hget : bs[k]? = some (bs[k]'(by omega)) := List.getElem?_eq_getElem (by omega)
      have hgd : bs.getD k 0 = bs[k]'(by omega) := by simp [List.getD, hget]
      rw [hgd] at hc
      have htk : bs.take (k + 1) = bs.take k ++ [bs[k]'(by omega)] := by rw [List.take_add_one, hget]; rfl
      have hcap := cap16_le k (by omega)
      have hcs := cap16_succ k
      obtain ⟨a0, a1, a2, a3⟩ := hh.out
      have hv := hexV_snoc 0 (bs.take k) (bs[k]'(by omega))
      rw [← htk, ← a2] at hv
      have hall := all_take hexU bs k _ a3 hget
      have hnot := all_not hexU bs k _ hget
      generalize bs[k]'(by omega) = cb at hc hv hall hnot
      have h256 : cb.toNat < 256 := cb.toNat_lt
      cases hx : hexU cb
      · have HN : Hid (bs.all hexU = false) := hnot hx
        have hb := low_bad ⟨cb.toNat, h256⟩ hx
        simp only at hb
        obtain ⟨hdig, l0, l1, l2, l3⟩ := hb
        have CL : Hid (∀ wx : World, Calls Tryz.prog 262 #[.int .u8 (cb.toNat : Int)] wx fun e w' => e = .returned (.int .u8 (bits .or .u8 (cb.toNat : Int) 32)) ∧ wx = w') := fun wx => lower_any (cb.toNat : Int) wx
        generalize bits .or .u8 (cb.toNat : Int) 32 = dd at *
        have hd1 : ¬ (48 ≤ (cb.toNat : Int) ∧ (cb.toNat : Int) ≤ 57) := fun h => by
          rw [show digP (cb.toNat : Int) = true from by simp only [digP, Bool.and_eq_true, decide_eq_true_eq]; exact h] at hdig; cases hdig
        clear hh a1 a2 a3 hv hcap hcs hget hgd htk hall hnot hx HB hdig
        have hfin : ∀ x : Ending, x = .returned (.tuple #[.int .u64 0, .iface 291 (.int .i64 2)]) → x = .returned (.tuple #[(val16 bs).1, (val16 bs).2]) := fun x hxx => by
          have : val16 bs = (.int .u64 0, .iface 291 (.int .i64 2)) := by unfold val16; rw [HN.out]; rfl
          rw [this]; exact hxx
        have HF := hidOf hfin
        clear hfin HN
        by_cases p1 : 97 ≤ dd
        · by_cases p2 : dd ≤ 122
          · have p3 : 103 ≤ dd := l2 p1 p2
            have p4 : ¬ (dd - 97 + 10 < 16) := by omega
            have p5 : 16 ≤ dd - 97 + 10 := by omega
            clear l2
            by_cases p6 : 48 ≤ (cb.toNat : Int)
            · have p7 : ¬ (cb.toNat : Int) ≤ 57 := fun h => hd1 ⟨p6, h⟩
              have h95 : ((cb.toNat : Int) == 95) = false := by simp only [beq_eq_false_iff_ne]; intro h; have := l3 h; omega
              clear l3
              go_wp2_with (go_at_call 262; refine (CL.out _).mono ?_; rintro e w3 ⟨rfl, rfl⟩)
              all_goals (go_ret2; exact ⟨HF.out _ rfl, rfl⟩)
            · have h95 : ((cb.toNat : Int) == 95) = false := by simp only [beq_eq_false_iff_ne]; omega
              go_wp2_with (go_at_call 262; refine (CL.out _).mono ?_; rintro e w3 ⟨rfl, rfl⟩)
              all_goals (go_ret2; exact ⟨HF.out _ rfl, rfl⟩)
          · clear l2
            by_cases p6 : 48 ≤ (cb.toNat : Int)
            · have p7 : ¬ (cb.toNat : Int) ≤ 57 := fun h => hd1 ⟨p6, h⟩
              by_cases hq : (cb.toNat : Int) = 95
              · rw [hq] at hc CL p6 p7
                clear l3 hd1 hq
                go_wp2_with (go_at_call 262; refine (CL.out _).mono ?_; rintro e w3 ⟨rfl, rfl⟩)
                all_goals (go_ret2; exact ⟨HF.out _ rfl, rfl⟩)
              · have h95 : ((cb.toNat : Int) == 95) = false := by simpa using hq
                clear l3
                go_wp2_with (go_at_call 262; refine (CL.out _).mono ?_; rintro e w3 ⟨rfl, rfl⟩)
                all_goals (go_ret2; exact ⟨HF.out _ rfl, rfl⟩)
            · have h95 : ((cb.toNat : Int) == 95) = false := by simp only [beq_eq_false_iff_ne]; omega
              go_wp2_with (go_at_call 262; refine (CL.out _).mono ?_; rintro e w3 ⟨rfl, rfl⟩)
              all_goals (go_ret2; exact ⟨HF.out _ rfl, rfl⟩)
        · clear l2
          by_cases p6 : 48 ≤ (cb.toNat : Int)
          · have p7 : ¬ (cb.toNat : Int) ≤ 57 := fun h => hd1 ⟨p6, h⟩
            have h95 : ((cb.toNat : Int) == 95) = false := by simp only [beq_eq_false_iff_ne]; intro h; have := l3 h; omega
            clear l3
            go_wp2_with (go_at_call 262; refine (CL.out _).mono ?_; rintro e w3 ⟨rfl, rfl⟩)
            all_goals (go_ret2; exact ⟨HF.out _ rfl, rfl⟩)
          · have h95 : ((cb.toNat : Int) == 95) = false := by simp only [beq_eq_false_iff_ne]; omega
            go_wp2_with (go_at_call 262; refine (CL.out _).mono ?_; rintro e w3 ⟨rfl, rfl⟩)
            all_goals (go_ret2; exact ⟨HF.out _ rfl, rfl⟩)
      · have hall := hall hx
        have hr := hexD_rng ⟨cb.toNat, h256⟩ hx
        have h95 := not95 ⟨cb.toNat, h256⟩ hx
        have hlw := low_hex ⟨cb.toNat, h256⟩ hx
        have hdg := dig_hex ⟨cb.toNat, h256⟩
        have h65 := low65 ⟨cb.toNat, h256⟩ hx
        simp only at hr h95 hlw hdg h65
        have hbI : bI cb = (cb.toNat : Int) := rfl
        rw [hbI] at hv
        generalize hD : hexD (cb.toNat : Int) = dd at *
        have HN : Hid (0 ≤ a * 16 + dd ∧ a * 16 + dd < cap16 (k + 1) ∧ a * 16 + dd = hexV 0 (bs.take (k + 1)) ∧ (bs.take (k + 1)).all hexU = true) := ⟨by omega, by omega, hv.symm, hall⟩
        have icut : a < 1152921504606846976 := by omega
        have iov : a * 16 + dd < 18446744073709551616 := by omega
        have i0 : 0 ≤ a * 16 := by omega
        obtain ⟨r0, r1⟩ := hr
        clear hh a1 a2 a3 hv hcap hcs hget hgd htk hD hbI hx HB hall hnot
        cases hdig : digP (cb.toNat : Int)
        · obtain ⟨l0, l1, l2⟩ := hlw hdig
          have c65 := h65 hdig
          have c57 : ¬ (cb.toNat : Int) ≤ 57 := by
            intro h
            rw [show digP (cb.toNat : Int) = true from by simp only [digP, Bool.and_eq_true, decide_eq_true_eq]; omega] at hdig; cases hdig
          have CL : Hid (∀ wx : World, Calls Tryz.prog 262 #[.int .u8 (cb.toNat : Int)] wx fun e w' => e = .returned (.int .u8 (dd + 87)) ∧ wx = w') := fun wx => by
            have h := lower_any (cb.toNat : Int) wx
            rw [show bits .or .u8 (cb.toNat : Int) 32 = dd + 87 by omega] at h
            exact h
          have q0 : 97 ≤ dd + 87 := by omega
          have q1 : dd + 87 ≤ 122 := by omega
          have q2 : 10 ≤ dd := by omega
          clear hlw hdg hdig l0 l1 l2 h65
          go_wp2_with (go_at_call 262; refine (CL.out _).mono ?_; rintro e w3 ⟨rfl, rfl⟩)
          exact ⟨⟨k + 1, a * 16 + dd, rfl, by congr 1; omega, by simp, by omega, HN⟩, by simp [intOf]; omega⟩
        · obtain ⟨e1, e2, e3⟩ := hdg hdig
          clear hlw hdg hdig h65
          subst e1
          go_wp2
          exact ⟨⟨k + 1, _, rfl, rfl, by simp, by omega, HN⟩, by simp [intOf]; omega⟩
    · obtain rfl : k = t.size := by omega
      obtain ⟨a0, a1, a2, a3⟩ := hh.out
      have e1 : bs.take t.size = bs := List.take_of_length_le (by omega)
      rw [e1] at a2 a3
      have A2 : Hid (val16 bs = (.int .u64 a, .nilIface)) := by unfold val16; rw [if_pos a3, a2]; exact hidOf rfl
      clear hh a2 a1 a3
      go_wp2
      go_ret2
      exact ⟨by rw [A2.out]; rfl, rfl⟩
end Go.Proofs.YtkihaohdcgjioaaGreatDoor.Lx
namespace Go.Proofs.YtkihaohdcgjioaaGreatDoor.Lx
open Go.RowKit
set_option linter.unusedVariables false
set_option linter.unusedSimpArgs false
theorem decV_ge : ∀ (l : List UInt8) (a : Nat), a ≤ decV a l
  | [], a => Nat.le_refl a
  | b :: l, a => Nat.le_trans (by omega) (decV_ge l (a * 10 + (b.toNat - 48)))
theorem digU_iff (b : UInt8) : digU b = true ↔ 48 ≤ b.toNat ∧ b.toNat ≤ 57 := by
  unfold digU digP bI
  simp only [Bool.and_eq_true, decide_eq_true_eq]
  omega
theorem pM_dec (M : Nat) (hM : M = 18446744073709551615) (l : List UInt8) : ∀ (a : Nat), a ≤ M → l.all digU = true → Lib.parseUintM M a l = if decV a l ≤ M then .ok (decV a l) else .range := by
  induction l with
  | nil =>
    intro a ha _
    have hd : decV a [] = a := rfl
    have hp : Lib.parseUintM M a [] = .ok a := rfl
    rw [hd, hp, if_pos ha]
  | cons b l ih =>
    intro a ha hl
    simp only [List.all_cons, Bool.and_eq_true] at hl
    have hb := (digU_iff b).1 hl.1
    have hge := decV_ge l (a * 10 + (b.toNat - 48))
    have hd : decV a (b :: l) = decV (a * 10 + (b.toNat - 48)) l := rfl
    rw [hd]
    simp only [Lib.parseUintM]
    rw [if_pos hb]
    by_cases h1 : 1844674407370955162 ≤ a
    · rw [if_pos h1, if_neg (by omega)]
    · rw [if_neg h1]
      by_cases h2 : M < a * 10 + (b.toNat - 48)
      · rw [if_pos h2, if_neg (by omega)]
      · rw [if_neg h2]
        exact ih _ (by omega) hl.2
theorem pM_bad (M : Nat) (l : List UInt8) : ∀ a : Nat, l.all digU = false → Lib.parseUintM M a l = .syntax ∨ Lib.parseUintM M a l = .range := by
  induction l with
  | nil => intro a h; simp at h
  | cons b l ih =>
    intro a h
    simp only [Lib.parseUintM]
    by_cases hb : 48 ≤ b.toNat ∧ b.toNat ≤ 57
    · rw [if_pos hb]
      have hl : l.all digU = false := by
        rw [List.all_cons, (digU_iff b).2 hb] at h
        simpa using h
      by_cases h1 : 1844674407370955162 ≤ a
      · rw [if_pos h1]; exact .inr rfl
      · rw [if_neg h1]
        by_cases h2 : M < a * 10 + (b.toNat - 48)
        · rw [if_pos h2]; exact .inr rfl
        · rw [if_neg h2]; exact ih _ hl
    · rw [if_neg hb]; exact .inl rfl
theorem pB_dec (l : List UInt8) (hne : ¬ l = []) (hl : l.all digU = true) : Lib.parseUintB 64 l = if decV 0 l ≤ 18446744073709551615 then .ok (decV 0 l) else .range := by
  unfold Lib.parseUintB
  rw [if_neg hne]
  exact pM_dec _ (by decide) l 0 (by omega) hl
theorem pB_bad (l : List UInt8) (hl : l.all digU = false) : Lib.parseUintB 64 l = .syntax ∨ Lib.parseUintB 64 l = .range := by
  unfold Lib.parseUintB
  split
  · exact .inl rfl
  · exact pM_bad _ l 0 hl
/-- what a public ParseUint gives: a number, or an error that is one -/
def PubEnd (w : World) (r : Option Int) (e : Ending) (w' : World) : Prop := Out w w' ∧ (match r with | some n => e = .returned (.tuple #[.int .u64 n, .nilIface]) | none => ∃ x a b, e = .returned (.tuple #[.int .u64 x, .iface a (.pointer (some ⟨b, 0, none⟩))]))
theorem bw_out (w : World) (t : TypeId) (s : ByteArray) : Out w (Lib.bytesWorld w t s) := Lib.bytesWorld_below _ _ _
set_option maxHeartbeats 1000000 in
theorem pub16 (N : Nat) (t : ByteArray) (hne : t.size ≠ 0) (h16 : t.size ≤ 16) (w : World) (hE : Env N w) :
    Calls Tryz.prog 226 #[.string t, .int .i64 16, .int .i64 64] w fun e w' => PubEnd w (if t.data.toList.all hexU = true then some (hexV 0 t.data.toList) else none) e w' := by
  have CP := hidOf (parse16 t hne h16 w)
  have HB := hidOf (bw_out w 5 t)
  generalize Lib.bytesWorld w 5 t = w1 at *
  unfold val16 at CP
  by_cases ha : t.data.toList.all hexU = true
  · rw [if_pos ha] at CP ⊢
    go_enter Tryz.func226, Tryz.ntmps226
    go_wp2_with (go_at_call 252; refine CP.out.mono ?_; rintro e wx ⟨rfl, hwx⟩; subst hwx)
    go_ret2
    exact ⟨HB.out, rfl⟩
  · rw [if_neg ha] at CP ⊢
    obtain ⟨ev, hv, hev⟩ := hE.es
    have CT : Hid (Calls Tryz.prog 253 #[.string ⟨#[80, 97, 114, 115, 101, 85, 105, 110, 116]⟩, .string t, .int .i64 16, .int .i64 64, .iface 291 (.int .i64 2)] w1 fun e w' => ∃ N, e = .returned (.iface 293 (.pointer (some ⟨N, 0, none⟩))) ∧ Out w1 w') := (Tryz.strconv_toError_syntax _ t 16 64 ev w1 (by omega) (cell_later HB.out hv) hev).mono fun e w' ⟨M, h1, _, _, h4⟩ => ⟨M, h1, h4⟩
    clear hv hev
    go_enter Tryz.func226, Tryz.ntmps226
    go_wp2_with (first | (go_at_call 252; refine CP.out.mono ?_; rintro e wx ⟨rfl, hwx⟩; subst hwx) | (go_at_call 253; refine CT.out.mono ?_; rintro e w2 ⟨M, rfl, ho⟩; have HO := hidOf ho; clear ho))
    go_ret2
    exact ⟨Out.trans HB.out HO.out, _, _, _, rfl⟩
theorem pub10 (N : Nat) (l : List UInt8) (hne : ¬ l = []) (hl : l.length ≤ 281474976710656) (w : World) (hE : Env N w) :
    Calls Tryz.prog 226 #[.string ⟨l.toArray⟩, .int .i64 10, .int .i64 64] w fun e w' => PubEnd w (if l.all digU = true ∧ decV 0 l ≤ 18446744073709551615 then some ((decV 0 l : Nat) : Int) else none) e w' := by
  have hsz : (⟨l.toArray⟩ : ByteArray).size ≤ 281474976710656 := by rw [mk_size]; exact hl
  have hrange : Lib.parseUintB 64 l = .range → Calls Tryz.prog 226 #[.string ⟨l.toArray⟩, .int .i64 10, .int .i64 64] w fun e w' => PubEnd w none e w' := fun h => by
    obtain ⟨ev, hv, hev⟩ := hE.er
    exact (Tryz.strconv_ParseUint_10_at64_range ⟨l.toArray⟩ hsz h ev w hv hev).mono fun e w' ⟨M, h1, _, _, h4⟩ => ⟨h4, _, _, _, h1⟩
  have hsyn : Lib.parseUintB 64 l = .syntax → Calls Tryz.prog 226 #[.string ⟨l.toArray⟩, .int .i64 10, .int .i64 64] w fun e w' => PubEnd w none e w' := fun h => by
    obtain ⟨ev, hv, hev⟩ := hE.es
    exact (Tryz.strconv_ParseUint_10_at64_syntax ⟨l.toArray⟩ hsz h ev w hv hev).mono fun e w' ⟨M, h1, _, _, h4⟩ => ⟨h4, _, _, _, h1⟩
  cases ha : l.all digU
  · rw [if_neg (by simp)]
    rcases pB_bad l ha with h | h
    · exact hsyn h
    · exact hrange h
  · have hp := pB_dec l hne ha
    by_cases hd : decV 0 l ≤ 18446744073709551615
    · rw [if_pos ⟨rfl, hd⟩]
      rw [if_pos hd] at hp
      refine (Tryz.strconv_ParseUint_10_at64_ok ⟨l.toArray⟩ (by omega) _ hp w).mono ?_
      rintro e w' ⟨rfl, h | h⟩
      · subst h; exact ⟨Out.refl _, rfl⟩
      · subst h; exact ⟨bw_out w _ _, rfl⟩
    · rw [if_neg (fun h => hd h.2)]
      rw [if_neg hd] at hp
      exact hrange hp
end Go.Proofs.YtkihaohdcgjioaaGreatDoor.Lx
namespace Go.Proofs
open Go.Shelf
def Tryz.lays185_ren : Go.Shelf.Ren := ⟨fun | 185 => 139 | 187 => 60 | 115 => 182 | 253 => 183 | 224 => 184 | 254 => 185 | 255 => 90 | 291 => 225 | n => n, fun | 37 => 24 | 3 => 3 | 4 => 4 | 0 => 0 | 5 => 5 | 46 => 171 | 9 => 9 | 146 => 250 | 51 => 249 | n => n, fun | 1 => 2 | n => n⟩
theorem Tryz.lays185 : Go.Proofs.Lays.n185 Tryz.prog Tryz.lays185_ren := {
  mixed := by kernel_rfl
  f115 := Tryz.func182.trans (congrArg some (by kernel_rfl))
  f185 := Tryz.func139.trans (congrArg some (by kernel_rfl))
  f187 := Tryz.func60.trans (congrArg some (by kernel_rfl))
  f224 := Tryz.func184.trans (congrArg some (by kernel_rfl))
  f253 := Tryz.func183.trans (congrArg some (by kernel_rfl))
  f254 := Tryz.func185.trans (congrArg some (by kernel_rfl))
  f255 := Tryz.func90.trans (congrArg some (by kernel_rfl))
  f291 := Tryz.func225.trans (congrArg some (by kernel_rfl))
  t0 := Tryz.underlying0
  a0 := Tryz.isAgg0
  z0 := Tryz.sizeOf0
  v0 := Tryz.zeroValue0
  t3 := Tryz.underlying3
  a3 := Tryz.isAgg3
  z3 := Tryz.sizeOf3
  v3 := Tryz.zeroValue3
  t4 := Tryz.underlying4
  a4 := Tryz.isAgg4
  z4 := Tryz.sizeOf4
  v4 := Tryz.zeroValue4
  t5 := Tryz.underlying5
  a5 := Tryz.isAgg5
  z5 := Tryz.sizeOf5
  v5 := Tryz.zeroValue5
  t9 := Tryz.underlying9
  a9 := Tryz.isAgg9
  z9 := Tryz.sizeOf9
  v9 := Tryz.zeroValue9
  t37 := Tryz.underlying24
  a37 := Tryz.isAgg24
  z37 := Tryz.sizeOf24
  v37 := Tryz.zeroValue24
  t46 := Tryz.underlying171
  a46 := Tryz.isAgg171
  z46 := Tryz.sizeOf171
  v46 := Tryz.zeroValue171
  t51 := Tryz.underlying249
  a51 := Tryz.isAgg249
  z51 := Tryz.sizeOf249
  v51 := Tryz.zeroValue249
  t146 := Tryz.underlying250
  a146 := Tryz.isAgg250
  z146 := Tryz.sizeOf250
  v146 := Tryz.zeroValue250
  g1 := by kernel_rfl }
open Go.RowKit Go.Lib in
theorem Tryz.bytes_Index_one (b o n c b2 o2 d : Nat) (xs : List Int) (cv : Int) (w : World) (hx : xs.length = n) (hc : ∀ i, i < n → w.cell? ⟨b, o + i, none⟩ = some (.int .u8 (xs.getD i 0))) (hc2 : w.cell? ⟨b2, o2, none⟩ = some (.int .u8 cv)) :
    Calls Tryz.prog 139 #[.slice (some ⟨b, o, none⟩) n c, .slice (some ⟨b2, o2, none⟩) 1 d] w fun e w' => e = .returned (.int .i64 (Lib.indexByte (Lib.bytesOf xs) cv.toNat.toUInt8)) ∧ w' = w := Any.bytes_Index_one Tryz.lays185 b o n c b2 o2 d xs cv w hx hc hc2
def Tryz.laysSlT4_ren : Go.Shelf.Ren := ⟨fun | 4 => 100 | 5 => 139 | 6 => 60 | 7 => 182 | 8 => 183 | 9 => 184 | 10 => 185 | 11 => 90 | 12 => 225 | n => n, fun | 22 => 24 | 4 => 4 | 3 => 3 | 0 => 0 | 5 => 5 | 29 => 171 | 9 => 9 | 31 => 250 | 30 => 249 | n => n, fun | 0 => 2 | n => n⟩
theorem Tryz.laysSlT4 : Go.Proofs.SlLaysT.n4 Tryz.prog Tryz.laysSlT4_ren := {
  mixed := by kernel_rfl
  f4 := Tryz.func100.trans (congrArg some (by kernel_rfl))
  f5 := Tryz.func139.trans (congrArg some (by kernel_rfl))
  f6 := Tryz.func60.trans (congrArg some (by kernel_rfl))
  f7 := Tryz.func182.trans (congrArg some (by kernel_rfl))
  f8 := Tryz.func183.trans (congrArg some (by kernel_rfl))
  f9 := Tryz.func184.trans (congrArg some (by kernel_rfl))
  f10 := Tryz.func185.trans (congrArg some (by kernel_rfl))
  f11 := Tryz.func90.trans (congrArg some (by kernel_rfl))
  f12 := Tryz.func225.trans (congrArg some (by kernel_rfl))
  t0 := Tryz.underlying0
  a0 := Tryz.isAgg0
  z0 := Tryz.sizeOf0
  v0 := Tryz.zeroValue0
  t3 := Tryz.underlying3
  a3 := Tryz.isAgg3
  z3 := Tryz.sizeOf3
  v3 := Tryz.zeroValue3
  t4 := Tryz.underlying4
  a4 := Tryz.isAgg4
  z4 := Tryz.sizeOf4
  v4 := Tryz.zeroValue4
  t5 := Tryz.underlying5
  a5 := Tryz.isAgg5
  z5 := Tryz.sizeOf5
  v5 := Tryz.zeroValue5
  t9 := Tryz.underlying9
  a9 := Tryz.isAgg9
  z9 := Tryz.sizeOf9
  v9 := Tryz.zeroValue9
  t22 := Tryz.underlying24
  a22 := Tryz.isAgg24
  z22 := Tryz.sizeOf24
  v22 := Tryz.zeroValue24
  t29 := Tryz.underlying171
  a29 := Tryz.isAgg171
  z29 := Tryz.sizeOf171
  v29 := Tryz.zeroValue171
  t30 := Tryz.underlying249
  a30 := Tryz.isAgg249
  z30 := Tryz.sizeOf249
  v30 := Tryz.zeroValue249
  t31 := Tryz.underlying250
  a31 := Tryz.isAgg250
  z31 := Tryz.sizeOf250
  v31 := Tryz.zeroValue250
  g0 := by kernel_rfl }
theorem Tryz.bytes_Cut_of (p1 p2 : Option Addr) (n c1 k c2 : Nat) (i : Int) (w : World) (hcap : n ≤ c1) (hlo : -1 ≤ i) (hroom : 0 ≤ i → i + k ≤ n) (hn : n ≤ 4611686018427387904) (hidx : Calls Tryz.prog 139 #[.slice p1 n c1, .slice p2 k c2] w fun e w' => e = .returned (.int .i64 i) ∧ ∃ q, w' = w.drewN q) :
    Calls Tryz.prog 100 #[.slice p1 n c1, .slice p2 k c2] w fun e w' => e = .returned (Lib.cutV p1 n c1 k i) ∧ ∃ q, w' = w.drewN q := Any.bytes_Cut_of Tryz.laysSlT4 p1 p2 n c1 k c2 i w hcap hlo hroom hn hidx
end Go.Proofs
namespace Go.Proofs.YtkihaohdcgjioaaGreatDoor.Wo
/-! PLAIN: the words' functions on numbers. n, d: narrowed words; m: 2 to the width; h: half of it. -/
def negM (h n : Int) : Bool := decide (h ≤ n)
def magM (h m n : Int) : Int := if h ≤ n then m - n else n
def sgnM (h m n : Int) : Int := if h ≤ n then 18446744073709551616 - m + n else n
def divM (n d : Int) : Int := if d = 0 then 0 else n / d
def modM (n d : Int) : Int := if d = 0 then n else n % d
def sdivM (h m n d : Int) : Int := if d = 0 then 0 else if negM h n = negM h d then magM h m n / magM h m d else (-(magM h m n / magM h m d)) % m
def smodM (h m n d : Int) : Int := if d = 0 then n else if h ≤ n then (-(magM h m n % magM h m d)) % m else magM h m n % magM h m d
def shlM (m n k : Int) : Int := n * 2 ^ k.toNat % m
def shrM (n k : Int) : Int := n / 2 ^ k.toNat
def sarM (h m n k : Int) : Int := if h ≤ n then m - 1 - (m - 1 - n) / 2 ^ k.toNat else n / 2 ^ k.toNat
def lessM (n d : Int) : Bool := decide (n < d)
def slessM (h m n d : Int) : Bool := decide ((if h ≤ n then n - m else n) < (if h ≤ d then d - m else d))

def mW (width : Int) : Int := if width = 8 then 256 else if width = 16 then 65536 else if width = 32 then 4294967296 else 18446744073709551616
def hW (width : Int) : Int := if width = 8 then 128 else if width = 16 then 32768 else if width = 32 then 2147483648 else 9223372036854775808
def bW (width : Int) : Int := if width = 8 then 8 else if width = 16 then 16 else if width = 32 then 32 else 64
def addW (a b : Int) : Int := IntKind.u64.wrap (a + b)
def subW (a b : Int) : Int := IntKind.u64.wrap (a - b)
def mulW (a b : Int) : Int := IntKind.u64.wrap (a * b)
def negW (a : Int) : Int := IntKind.u64.wrap (-a)
def andW (a b : Int) : Int := bits .and .u64 a b
def orW (a b : Int) : Int := bits .or .u64 a b
def xorW (a b : Int) : Int := bits .xor .u64 a b
def narW (width a : Int) : Int := a % mW width
def sgnW (width a : Int) : Int := sgnM (hW width) (mW width) (a % mW width)
def divW (width a b : Int) : Int := divM (a % mW width) (b % mW width)
def modW (width a b : Int) : Int := modM (a % mW width) (b % mW width)
def sdivW (width a b : Int) : Int := sdivM (hW width) (mW width) (a % mW width) (b % mW width)
def smodW (width a b : Int) : Int := smodM (hW width) (mW width) (a % mW width) (b % mW width)
def shlW (width a k : Int) : Int := shlM (mW width) (a % mW width) (k % bW width)
def shrW (width a k : Int) : Int := shrM (a % mW width) (k % bW width)
def sarW (width a k : Int) : Int := sarM (hW width) (mW width) (a % mW width) (k % bW width)
def lessW (width a b : Int) : Bool := lessM (a % mW width) (b % mW width)
def slessW (width a b : Int) : Bool := slessM (hW width) (mW width) (a % mW width) (b % mW width)

theorem mag_bd {h m n : Int} (hm : m = 2 * h) (h0 : 0 ≤ n) (h1 : n < m) : 0 ≤ magM h m n ∧ magM h m n ≤ h := by
  unfold magM; split <;> omega
theorem mag_pos {h m n : Int} (hm : m = 2 * h) (h0 : 0 < n) (h1 : n < m) : 0 < magM h m n := by
  unfold magM; split <;> omega
theorem div_bd {x y B : Int} (h0 : 0 ≤ x) (h1 : x ≤ B) (h2 : 0 < y) : 0 ≤ x / y ∧ x / y ≤ B := by
  have a := Int.ediv_nonneg h0 (Int.le_of_lt h2)
  have b := Int.ediv_le_self y h0
  omega
theorem rem_bd {x y : Int} (h2 : 0 < y) : 0 ≤ x % y ∧ x % y < y := ⟨Int.emod_nonneg _ (by omega), Int.emod_lt_of_pos _ h2⟩
theorem rem_le {x y : Int} (h0 : 0 ≤ x) (h2 : 0 < y) : x % y ≤ x := by
  have := Int.emod_add_mul_ediv x y
  have := Int.mul_nonneg (Int.le_of_lt h2) (Int.ediv_nonneg h0 (Int.le_of_lt h2))
  omega
theorem pow_pos2 (k : Nat) : (0 : Int) < 2 ^ k := by
  have := Nat.two_pow_pos k
  have e : ((2 ^ k : Nat) : Int) = 2 ^ k := by simp
  omega
theorem wide_cases (width : Int) : width = 8 ∨ width = 16 ∨ width = 32 ∨ (width ≠ 8 ∧ width ≠ 16 ∧ width ≠ 32) := by omega
theorem W8 : mW 8 = 256 ∧ hW 8 = 128 ∧ bW 8 = 8 := ⟨rfl, rfl, rfl⟩
theorem W16 : mW 16 = 65536 ∧ hW 16 = 32768 ∧ bW 16 = 16 := ⟨rfl, rfl, rfl⟩
theorem W32 : mW 32 = 4294967296 ∧ hW 32 = 2147483648 ∧ bW 32 = 32 := ⟨rfl, rfl, rfl⟩
theorem W64 {width : Int} (a : width ≠ 8) (b : width ≠ 16) (c : width ≠ 32) : mW width = 18446744073709551616 ∧ hW width = 9223372036854775808 ∧ bW width = 64 := by
  simp [mW, hW, bW, a, b, c]
theorem ret_int {k : IntKind} {a b : Int} (h : a = b) : Ending.returned (.int k a) = .returned (.int k b) := by rw [h]
theorem ret_bool {a b : Bool} (h : a = b) : Ending.returned (.bool a) = .returned (.bool b) := by rw [h]

theorem max_u8 : IntKind.u8.max = 255 := rfl
theorem max_u16 : IntKind.u16.max = 65535 := rfl
theorem max_u32 : IntKind.u32.max = 4294967295 := rfl
theorem max_u64 : IntKind.u64.max = 18446744073709551615 := rfl
theorem not_u8 (a : Int) (h0 : 0 ≤ a) (h1 : a < 256) : bits .xor .u8 IntKind.u8.max a = 255 - a := by
  obtain ⟨n, rfl⟩ := Int.eq_ofNat_of_zero_le h0
  show IntKind.u8.wrap ((BitVec.ofInt 8 255 ^^^ BitVec.ofInt 8 (n : Int)).toNat : Int) = _
  have e : BitVec.ofInt 8 255 = BitVec.allOnes 8 := by decide
  rw [e, BitVec.allOnes_xor, BitVec.toNat_not, ofInt_u8 n (by omega), IntKind.wrap_u8']
  omega
theorem not_u16 (a : Int) (h0 : 0 ≤ a) (h1 : a < 65536) : bits .xor .u16 IntKind.u16.max a = 65535 - a := by
  obtain ⟨n, rfl⟩ := Int.eq_ofNat_of_zero_le h0
  show IntKind.u16.wrap ((BitVec.ofInt 16 65535 ^^^ BitVec.ofInt 16 (n : Int)).toNat : Int) = _
  have e : BitVec.ofInt 16 65535 = BitVec.allOnes 16 := by decide
  rw [e, BitVec.allOnes_xor, BitVec.toNat_not, ofInt_u16 n (by omega), IntKind.wrap_u16]
  omega
theorem not_u32 (a : Int) (h0 : 0 ≤ a) (h1 : a < 4294967296) : bits .xor .u32 IntKind.u32.max a = 4294967295 - a := by
  obtain ⟨n, rfl⟩ := Int.eq_ofNat_of_zero_le h0
  show IntKind.u32.wrap ((BitVec.ofInt 32 4294967295 ^^^ BitVec.ofInt 32 (n : Int)).toNat : Int) = _
  have e : BitVec.ofInt 32 4294967295 = BitVec.allOnes 32 := by decide
  rw [e, BitVec.allOnes_xor, BitVec.toNat_not, ofInt_u32 n (by omega), IntKind.wrap_u32']
  omega
theorem not_u64 (a : Int) (h0 : 0 ≤ a) (h1 : a < 18446744073709551616) : bits .xor .u64 IntKind.u64.max a = 18446744073709551615 - a := by
  obtain ⟨n, rfl⟩ := Int.eq_ofNat_of_zero_le h0
  show IntKind.u64.wrap ((BitVec.ofInt 64 18446744073709551615 ^^^ BitVec.ofInt 64 (n : Int)).toNat : Int) = _
  have e : BitVec.ofInt 64 18446744073709551615 = BitVec.allOnes 64 := by decide
  rw [e, BitVec.allOnes_xor, BitVec.toNat_not, ofInt_u64 n (by omega), IntKind.wrap_u64]
  omega
end Go.Proofs.YtkihaohdcgjioaaGreatDoor.Wo
namespace Go.Proofs.YtkihaohdcgjioaaGreatDoor
open Go.RowKit Go.ChangeShapes Go.WideShapes Go.ChangeAt
set_option linter.unusedVariables false
set_option linter.unusedSimpArgs false

theorem gOps : Tryz.prog.globalNamed "spindle/isa.opcodes" = some 5 := by kernel_rfl
theorem gImms : Tryz.prog.globalNamed "spindle/isa.atomicImms" = some 9 := by kernel_rfl
theorem tOps : (Tryz.prog.globals[5]?).map (·.type) = some 239 := by kernel_rfl
theorem tImms : (Tryz.prog.globals[9]?).map (·.type) = some 274 := by kernel_rfl
theorem cellsArr : Tryz.prog.cellsOf 239 = 11 := by kernel_rfl
theorem cellsSl : Tryz.prog.cellsOf 24 = 1 := by kernel_rfl
theorem cellsU8 : Tryz.prog.cellsOf 5 = 1 := by kernel_rfl
theorem cellsArr10 : Tryz.prog.cellsOf 274 = 10 := by kernel_rfl

def listD (l : List Int) : DataW Unit := if l = [] then .nil else .slice (l.map fun z => .lit (.int .u8 z)) []
theorem laidO_eq : (Rows.laid_spindle_isa_opcodes : DataW Unit) = .agg (opsT.map listD) := by
  simp [Rows.laid_spindle_isa_opcodes, opsT, listD]
theorem laidA_eq : (Rows.laid_spindle_isa_atomicImms : DataW Unit) = Lib.tabData .u8 immsT := by
  simp [Rows.laid_spindle_isa_atomicImms, immsT, Lib.tabData]

/-- what the reading of the table of opcodes gives -/
theorem tabO_of {W : World} {base : Nat} {sp : Nat → Bool} {held : Bool} {fuel : Nat} {enc : TypeId × Value → Unit} {cs : Array Value} {p : List MemPlace}
    (hv : W.var? Tryz.prog "spindle/isa.opcodes" = some cs) (h : DataW.trod enc Tryz.prog W base sp held fuel 239 cs.toList = some (Rows.laid_spindle_isa_opcodes, p)) : TabO W := by
  rw [laidO_eq] at h
  obtain ⟨xs, m, rfl, hx, hlen, hxl, hel⟩ := DataW.trod_array Tryz.underlying239 h
  rw [cellsArr] at hlen
  simp only [cellsSl, Nat.mul_one] at hel
  simp only [Prod.mk.injEq, DataW.agg.injEq] at hx
  have hcell := World.var?_cell gOps hv
  refine ⟨fun k => cs[k]?.getD (.slice none 0 0), fun k hk => ?_, fun k hk => ?_⟩
  · have hk' : k < cs.size := by simpa using (show k < cs.toList.length by omega)
    simp only [hcell k, Array.getElem?_eq_getElem hk', Option.getD_some]
  · have hk' : k < cs.size := by simpa using (show k < cs.toList.length by omega)
    have hxk : k < xs.length := by omega
    have hl : k < opsT.length := by simpa [opsT] using hk
    have e1 : xs[k].1 = listD (opsL k) := by
      have := congrArg (fun l => l[k]?) hx.1
      simp only [List.getElem?_map, List.getElem?_eq_getElem hxk, List.getElem?_eq_getElem hl, Option.map_some, Option.some.injEq] at this
      rw [← this, opsL, getD_lt opsT [] k hl]
    have e2 : (cs.toList.drop k).take 1 = [cs[k]] := by
      rw [List.drop_eq_getElem_cons (by simpa using hk'), List.take_succ_cons]; simp
    have h2 := hel k hk
    rw [e2, List.getElem?_eq_getElem hxk, show xs[k] = (listD (opsL k), xs[k].2) from by rw [← e1]] at h2
    simp only [Array.getElem?_eq_getElem hk', Option.getD_some]
    by_cases z : opsL k = []
    · left
      rw [z] at h2 ⊢
      simp only [listD, ↓reduceIte] at h2
      rcases DataW.trod_slice Tryz.underlying24 h2 with ⟨hcs, _⟩ | ⟨a, len, cap, elems, rest, n, _, hcs, hx, _⟩
      · simp at hcs
        exact ⟨hcs, rfl⟩
      · simp at hx
    · right
      simp only [listD, if_neg z] at h2
      obtain ⟨a, cap, hcs, hle, hc⟩ := open_row Tryz.underlying24 cellsU8 h2
      simp only [List.cons.injEq, and_true, List.length_map] at hcs
      have hcell2 : ∀ j, j < (opsL k).length → W.cell? (a.add j) = some (.int .u8 ((opsL k).getD j 0)) := by
        intro j hj
        obtain ⟨v, n, q, hv1, hv2⟩ := hc j _ (by rw [List.getElem?_map, List.getElem?_eq_getElem hj]; rfl)
        obtain ⟨z, r1, r2, _⟩ := DataW.trod_int Tryz.underlying5 hv2
        simp at r1 r2
        rw [hv1, r1, getD_lt _ _ j hj, r2.1]
      obtain ⟨b, off, spot⟩ := a
      have hs : spot = none := by
        have hpos : 0 < (opsL k).length := List.length_pos_iff.2 z
        simpa [Addr.add] using World.cell?_spot (hcell2 0 hpos)
      subst hs
      refine ⟨b, off, cap, hcs, fun j hj => ?_⟩
      have := hcell2 j hj
      rwa [show (⟨b, off, none⟩ : Addr).add j = ⟨b, off + j, none⟩ from by simp only [Addr.add]; split <;> simp_all] at this
theorem tabs_of {W : World} (h : laidMetH Tryz.prog [("spindle/isa.atomicImms", Rows.laid_spindle_isa_atomicImms), ("spindle/isa.opcodes", Rows.laid_spindle_isa_opcodes)] W) : Tabs W := by
  rw [MakeChecks.laidMetH_plain _ _ _ (by kernel_rfl)] at h
  obtain ⟨ps, ⟨g0, t0, cs0, f0, p0, q0, hg0, ht0, hv0, hd0, ⟨g1, t1, cs1, f1, p1, q1, hg1, ht1, hv1, hd1, _, _⟩, _⟩, _, _⟩ := h
  obtain rfl := Option.some.inj (gImms.symm.trans hg0)
  obtain rfl := Option.some.inj (gOps.symm.trans hg1)
  obtain rfl := Option.some.inj (tImms.symm.trans ht0)
  obtain rfl := Option.some.inj (tOps.symm.trans ht1)
  refine ⟨?_, tabO_of hv1 hd1⟩
  rw [laidA_eq] at hd0
  have hT : Lib.TabIs Tryz.prog W "spindle/isa.atomicImms" .u8 immsT := by
    unfold Lib.TabIs
    rw [hv0, ← Lib.cells_of_tab Tryz.underlying274 Tryz.underlying5 cellsU8 cellsArr10 hd0]
  exact fun k hk => hT.cell gImms k (by simpa [immsT] using hk)
end Go.Proofs.YtkihaohdcgjioaaGreatDoor
