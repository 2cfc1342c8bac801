import Derived.Test.YtfhmhdhaibmcfaaDoorEf
import Derived.Test.YtfhmhdhaibmcfaaDoorEs
import Derived.Lib.ConvBytes
import Derived.Lib.AtoiAllMem
namespace Go.Proofs.YtfhmhdhaibmcfaaDoor
open Go.RowKit
set_option linter.unusedVariables false
set_option linter.unusedSimpArgs false
theorem lower_any (c : Int) (w : World) : Calls Tryd.prog 102 #[.int .u8 c] w fun e w' => e = .returned (.int .u8 (bits .or .u8 c 32)) ∧ w = w' := by
  go_enter Tryd.func102, Tryd.ntmps102
  go_wp2
  go_ret
  exact ⟨rfl, rfl⟩
theorem low_hex : ∀ n : Fin 256, hexP (n.val : Int) = true → digP (n.val : Int) = false → 97 ≤ bits .or .u8 (n.val : Int) 32 ∧ bits .or .u8 (n.val : Int) 32 ≤ 102 ∧ bits .or .u8 (n.val : Int) 32 - 87 = hexD (n.val : Int) := by decide +kernel
theorem low65 : ∀ n : Fin 256, hexP (n.val : Int) = true → digP (n.val : Int) = false → 65 ≤ (n.val : Int) := by decide +kernel
theorem dig_hex : ∀ n : Fin 256, digP (n.val : Int) = true → hexD (n.val : Int) = (n.val : Int) - 48 ∧ 48 ≤ (n.val : Int) ∧ (n.val : Int) ≤ 57 := by decide +kernel
theorem not95 : ∀ n : Fin 256, hexP (n.val : Int) = true → ((n.val : Int) == 95) = false := by decide +kernel
theorem low_bad : ∀ n : Fin 256, hexP (n.val : Int) = false → digP (n.val : Int) = false ∧ 0 ≤ bits .or .u8 (n.val : Int) 32 ∧ bits .or .u8 (n.val : Int) 32 < 256 ∧ (97 ≤ bits .or .u8 (n.val : Int) 32 → bits .or .u8 (n.val : Int) 32 ≤ 122 → 103 ≤ bits .or .u8 (n.val : Int) 32) ∧ ((n.val : Int) = 95 → bits .or .u8 (n.val : Int) 32 = 127) := by decide +kernel
def cap16 (k : Nat) : Int := 16 ^ k
theorem cap16_le : ∀ k, k ≤ 15 → cap16 k ≤ 1152921504606846976 := by decide
theorem cap16_succ (k : Nat) : cap16 (k + 1) = cap16 k * 16 := Int.pow_succ _ _
theorem hexD_rng : ∀ n : Fin 256, hexP (n.val : Int) = true → 0 ≤ hexD (n.val : Int) ∧ hexD (n.val : Int) ≤ 15 := by decide +kernel
theorem hexV_snoc (a : Int) (l : List UInt8) (b : UInt8) : hexV a (l ++ [b]) = hexV a l * 16 + hexD (bI b) := by
  induction l generalizing a with
  | nil => rfl
  | cons x l ih => exact ih _
theorem all_take {α : Type} (p : α → Bool) (l : List α) (k : Nat) (b : α) (h : (l.take k).all p = true) (hb : l[k]? = some b) (hp : p b = true) : (l.take (k + 1)).all p = true := by
  rw [List.take_add_one, List.all_append, h, hb]; simp [hp]
theorem all_not {α : Type} (p : α → Bool) (l : List α) (k : Nat) (b : α) (hb : l[k]? = some b) (hp : p b = false) : l.all p = false := by
  rw [List.all_eq_false]
  exact ⟨b, List.mem_of_getElem? hb, by simp [hp]⟩
def val16 (l : List UInt8) : Value × Value := if l.all hexU = true then (.int .u64 (hexV 0 l), .nilIface) else (.int .u64 0, .iface 136 (.int .i64 2))
set_option maxRecDepth 20000 in
set_option maxHeartbeats 4000000 in
theorem parse16 (t : ByteArray) (hne : t.size ≠ 0) (h16 : t.size ≤ 16) (w : World) :
    Calls Tryd.prog 100 #[.string t, .int .i64 16, .int .i64 64] w fun e w' => e = .returned (.tuple #[(val16 t.data.toList).1, (val16 t.data.toList).2]) ∧ w' = Lib.bytesWorld w 5 t := by
  have hie : t.toList.isEmpty = false ∧ ¬ t.toList = [] := isEmpty_of hne
  obtain ⟨hie, hne'⟩ := hie
  have hcv := Lib.run_convert_string_bytes (P := Tryd.prog) w 9 22 5 t (u := .string) Tryd.underlying9 Tryd.underlying22 Tryd.underlying5
  have HB : Hid (∀ j, j < t.size → (Lib.bytesWorld w 5 t).cell? ⟨w.heap.size, j, none⟩ = some (.int .u8 (t.data.toList.getD j 0).toNat)) := fun j hj => Lib.bytesWorld_cell w 5 t j hj
  obtain ⟨W1, hW1⟩ : ∃ W1, W1 = Lib.bytesWorld w 5 t := ⟨_, rfl⟩
  rw [← hW1] at hcv HB ⊢
  clear hW1
  obtain ⟨bs, hL⟩ : ∃ bs, bs = t.data.toList := ⟨_, rfl⟩
  have hLn : bs.length = t.size := by rw [hL]; rfl
  rw [← hL] at HB ⊢
  clear hL
  have hmv : IntKind.u64.wrap (IntKind.u64.wrap 18446744073709551616 - 1) = 18446744073709551615 := by
    rw [IntKind.wrap_u64, IntKind.wrap_u64]; decide
  go_enter Tryd.func100, Tryd.ntmps100
  go_wp2
  go_loop [12, 13, 101] (fun vu vn vi => ∃ (k : Nat) (a : Int), vu = .bool false ∧ vn = .int .u64 a ∧ vi = .int .i64 k ∧ k ≤ t.size ∧ Hid (0 ≤ a ∧ a < cap16 k ∧ a = hexV 0 (bs.take k) ∧ (bs.take k).all hexU = true)) (fun _ _ vi => t.size - (intOf vi).toNat)
  case atStart => exact ⟨0, 0, rfl, rfl, rfl, by omega, by omega, by decide, rfl, by simp⟩
  case round =>
    obtain ⟨k, a, rfl, rfl, rfl, hk, hh⟩ := hrel
    by_cases hkn : k < t.size
    · have hc := HB.out k hkn
      have hget : bs[k]? = some (bs[k]'(by omega)) := List.getElem?_eq_getElem (by omega)
      have hgd : bs.getD k 0 = bs[k]'(by omega) := by simp [List.getD, hget]
      rw [hgd] at hc
      have htk : bs.take (k + 1) = bs.take k ++ [bs[k]'(by omega)] := by rw [List.take_add_one, hget]; rfl
      have hcap := cap16_le k (by omega)
      have hcs := cap16_succ k
      obtain ⟨a0, a1, a2, a3⟩ := hh.out
      have hv := hexV_snoc 0 (bs.take k) (bs[k]'(by omega))
      rw [← htk, ← a2] at hv
      have hall := all_take hexU bs k _ a3 hget
      have hnot := all_not hexU bs k _ hget
      generalize bs[k]'(by omega) = cb at hc hv hall hnot
      have h256 : cb.toNat < 256 := cb.toNat_lt
      cases hx : hexU cb
      · have HN : Hid (bs.all hexU = false) := hnot hx
        have hb := low_bad ⟨cb.toNat, h256⟩ hx
        simp only at hb
        obtain ⟨hdig, l0, l1, l2, l3⟩ := hb
        have CL : Hid (∀ wx : World, Calls Tryd.prog 102 #[.int .u8 (cb.toNat : Int)] wx fun e w' => e = .returned (.int .u8 (bits .or .u8 (cb.toNat : Int) 32)) ∧ wx = w') := fun wx => lower_any (cb.toNat : Int) wx
        generalize bits .or .u8 (cb.toNat : Int) 32 = dd at *
        have hd1 : ¬ (48 ≤ (cb.toNat : Int) ∧ (cb.toNat : Int) ≤ 57) := fun h => by
          rw [show digP (cb.toNat : Int) = true from by simp only [digP, Bool.and_eq_true, decide_eq_true_eq]; exact h] at hdig; cases hdig
        clear hh a1 a2 a3 hv hcap hcs hget hgd htk hall hnot hx HB hdig
        have hfin : ∀ x : Ending, x = .returned (.tuple #[.int .u64 0, .iface 136 (.int .i64 2)]) → x = .returned (.tuple #[(val16 bs).1, (val16 bs).2]) := fun x hxx => by
          have : val16 bs = (.int .u64 0, .iface 136 (.int .i64 2)) := by unfold val16; rw [HN.out]; rfl
          rw [this]; exact hxx
        have HF := hidOf hfin
        clear hfin HN
        by_cases p1 : 97 ≤ dd
        · by_cases p2 : dd ≤ 122
          · have p3 : 103 ≤ dd := l2 p1 p2
            have p4 : ¬ (dd - 97 + 10 < 16) := by omega
            have p5 : 16 ≤ dd - 97 + 10 := by omega
            clear l2
            by_cases p6 : 48 ≤ (cb.toNat : Int)
            · have p7 : ¬ (cb.toNat : Int) ≤ 57 := fun h => hd1 ⟨p6, h⟩
              have h95 : ((cb.toNat : Int) == 95) = false := by simp only [beq_eq_false_iff_ne]; intro h; have := l3 h; omega
              clear l3
              go_wp2_with (go_at_call 102; refine (CL.out _).mono ?_; rintro e w3 ⟨rfl, rfl⟩)
              all_goals (go_ret2; exact ⟨HF.out _ rfl, rfl⟩)
            · have h95 : ((cb.toNat : Int) == 95) = false := by simp only [beq_eq_false_iff_ne]; omega
              go_wp2_with (go_at_call 102; refine (CL.out _).mono ?_; rintro e w3 ⟨rfl, rfl⟩)
              all_goals (go_ret2; exact ⟨HF.out _ rfl, rfl⟩)
          · clear l2
            by_cases p6 : 48 ≤ (cb.toNat : Int)
            · have p7 : ¬ (cb.toNat : Int) ≤ 57 := fun h => hd1 ⟨p6, h⟩
              by_cases hq : (cb.toNat : Int) = 95
              · rw [hq] at hc CL p6 p7
                clear l3 hd1 hq
                go_wp2_with (go_at_call 102; refine (CL.out _).mono ?_; rintro e w3 ⟨rfl, rfl⟩)
                all_goals (go_ret2; exact ⟨HF.out _ rfl, rfl⟩)
              · have h95 : ((cb.toNat : Int) == 95) = false := by simpa using hq
                clear l3
                go_wp2_with (go_at_call 102; refine (CL.out _).mono ?_; rintro e w3 ⟨rfl, rfl⟩)
                all_goals (go_ret2; exact ⟨HF.out _ rfl, rfl⟩)
            · have h95 : ((cb.toNat : Int) == 95) = false := by simp only [beq_eq_false_iff_ne]; omega
              go_wp2_with (go_at_call 102; refine (CL.out _).mono ?_; rintro e w3 ⟨rfl, rfl⟩)
              all_goals (go_ret2; exact ⟨HF.out _ rfl, rfl⟩)
        · clear l2
          by_cases p6 : 48 ≤ (cb.toNat : Int)
          · have p7 : ¬ (cb.toNat : Int) ≤ 57 := fun h => hd1 ⟨p6, h⟩
            have h95 : ((cb.toNat : Int) == 95) = false := by simp only [beq_eq_false_iff_ne]; intro h; have := l3 h; omega
            clear l3
            go_wp2_with (go_at_call 102; refine (CL.out _).mono ?_; rintro e w3 ⟨rfl, rfl⟩)
            all_goals (go_ret2; exact ⟨HF.out _ rfl, rfl⟩)
          · have h95 : ((cb.toNat : Int) == 95) = false := by simp only [beq_eq_false_iff_ne]; omega
            go_wp2_with (go_at_call 102; refine (CL.out _).mono ?_; rintro e w3 ⟨rfl, rfl⟩)
            all_goals (go_ret2; exact ⟨HF.out _ rfl, rfl⟩)
      · have hall := hall hx
        have hr := hexD_rng ⟨cb.toNat, h256⟩ hx
        have h95 := not95 ⟨cb.toNat, h256⟩ hx
        have hlw := low_hex ⟨cb.toNat, h256⟩ hx
        have hdg := dig_hex ⟨cb.toNat, h256⟩
        have h65 := low65 ⟨cb.toNat, h256⟩ hx
        simp only at hr h95 hlw hdg h65
        have hbI : bI cb = (cb.toNat : Int) := rfl
        rw [hbI] at hv
        generalize hD : hexD (cb.toNat : Int) = dd at *
        have HN : Hid (0 ≤ a * 16 + dd ∧ a * 16 + dd < cap16 (k + 1) ∧ a * 16 + dd = hexV 0 (bs.take (k + 1)) ∧ (bs.take (k + 1)).all hexU = true) := ⟨by omega, by omega, hv.symm, hall⟩
        have icut : a < 1152921504606846976 := by omega
        have iov : a * 16 + dd < 18446744073709551616 := by omega
        have i0 : 0 ≤ a * 16 := by omega
        obtain ⟨r0, r1⟩ := hr
        clear hh a1 a2 a3 hv hcap hcs hget hgd htk hD hbI hx HB hall hnot
        cases hdig : digP (cb.toNat : Int)
        · obtain ⟨l0, l1, l2⟩ := hlw hdig
          have c65 := h65 hdig
          have c57 : ¬ (cb.toNat : Int) ≤ 57 := by
            intro h
            rw [show digP (cb.toNat : Int) = true from by simp only [digP, Bool.and_eq_true, decide_eq_true_eq]; omega] at hdig; cases hdig
          have CL : Hid (∀ wx : World, Calls Tryd.prog 102 #[.int .u8 (cb.toNat : Int)] wx fun e w' => e = .returned (.int .u8 (dd + 87)) ∧ wx = w') := fun wx => by
            have h := lower_any (cb.toNat : Int) wx
            rw [show bits .or .u8 (cb.toNat : Int) 32 = dd + 87 by omega] at h
            exact h
          have q0 : 97 ≤ dd + 87 := by omega
          have q1 : dd + 87 ≤ 122 := by omega
          have q2 : 10 ≤ dd := by omega
          clear hlw hdg hdig l0 l1 l2 h65
          go_wp2_with (go_at_call 102; refine (CL.out _).mono ?_; rintro e w3 ⟨rfl, rfl⟩)
          exact ⟨⟨k + 1, a * 16 + dd, rfl, by congr 1; omega, by simp, by omega, HN⟩, by simp [intOf]; omega⟩
        · obtain ⟨e1, e2, e3⟩ := hdg hdig
          clear hlw hdg hdig h65
          subst e1
          go_wp2
          exact ⟨⟨k + 1, _, rfl, rfl, by simp, by omega, HN⟩, by simp [intOf]; omega⟩
    · obtain rfl : k = t.size := by omega
      obtain ⟨a0, a1, a2, a3⟩ := hh.out
      have e1 : bs.take t.size = bs := List.take_of_length_le (by omega)
      rw [e1] at a2 a3
      have A2 : Hid (val16 bs = (.int .u64 a, .nilIface)) := by unfold val16; rw [if_pos a3, a2]; exact hidOf rfl
      clear hh a2 a1 a3
      go_wp2
      go_ret2
      exact ⟨by rw [A2.out]; rfl, rfl⟩
end Go.Proofs.YtfhmhdhaibmcfaaDoor
