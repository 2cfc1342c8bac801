import Derived.Test.YtkihaohdcgjioaaGreatDoorGr05
import Derived.Lib.ConvBytes
import Derived.Lib.AtoiAllMem
namespace Go.Proofs.YtkihaohdcgjioaaGreatDoor.Lx
open Go.RowKit
set_option linter.unusedVariables false
set_option linter.unusedSimpArgs false
theorem piece_len (c : UInt8) (r : List UInt8) (h : (pieceP (c :: r)).1 = 0) : 1 ≤ (pieceP (c :: r)).2.2 ∧ (pieceP (c :: r)).2.2 ≤ r.length + 1 := by
  have h2 := runN_le (c :: r)
  simp only [List.length_cons] at h2
  unfold pieceP at h ⊢
  simp only at h ⊢
  by_cases k1 : kindP (bI c) = 1
  · rw [if_pos k1]; simp
  rw [if_neg k1] at h ⊢
  by_cases k2 : kindP (bI c) = 2
  · rw [if_pos k2]; simp
  rw [if_neg k2] at h ⊢
  by_cases k3 : kindP (bI c) = 3
  · have := run_pos (c := c) (r := r) (.inl k3)
    rw [if_pos k3]; simp only; omega
  rw [if_neg k3] at h ⊢
  by_cases k5 : kindP (bI c) = 5
  · have := run_pos (c := c) (r := r) (.inr (.inr k5))
    rw [if_pos k5]; simp only; omega
  rw [if_neg k5] at h ⊢
  by_cases k4 : kindP (bI c) = 4
  · have := run_pos (c := c) (r := r) (.inr (.inl k4))
    rw [if_pos k4]; simp only; omega
  rw [if_neg k4] at h ⊢
  by_cases k7 : kindP (bI c) = 7
  · rw [if_pos k7]; simp
  rw [if_neg k7] at h
  simp at h
def scanF : Nat → List UInt8 → Int × List (Int × List UInt8 × Int)
  | 0, _ => (0, [])
  | _ + 1, [] => (0, [])
  | f + 1, c :: r => if (pieceP (c :: r)).1 = 0 then ((scanF f ((c :: r).drop (pieceP (c :: r)).2.2)).1, (pieceP (c :: r)).2.1.toList ++ (scanF f ((c :: r).drop (pieceP (c :: r)).2.2)).2) else ((pieceP (c :: r)).1, [])
theorem scanF_eq : ∀ (f g : Nat) (l : List UInt8), l.length ≤ f → l.length ≤ g → scanF f l = scanF g l
  | 0, 0, _, _, _ => rfl
  | 0, g + 1, [], _, _ => rfl
  | 0, g + 1, c :: r, h, _ => by simp at h
  | f + 1, 0, [], _, _ => rfl
  | f + 1, 0, c :: r, _, h => by simp at h
  | f + 1, g + 1, [], _, _ => rfl
  | f + 1, g + 1, c :: r, hf, hg => by
    unfold scanF
    by_cases h : (pieceP (c :: r)).1 = 0
    · rw [if_pos h, if_pos h]
      have := piece_len c r h
      have hd : ((c :: r).drop (pieceP (c :: r)).2.2).length ≤ r.length := by rw [List.length_drop]; simp; omega
      simp only [List.length_cons] at hf hg
      rw [scanF_eq f g _ (by omega) (by omega)]
    · rw [if_neg h, if_neg h]
def scanD (l : List UInt8) : Int × List (Int × List UInt8 × Int) := scanF l.length l
theorem scanD_nil : scanD [] = (0, []) := rfl
theorem scanD_ok (c : UInt8) (r : List UInt8) (h : (pieceP (c :: r)).1 = 0) : scanD (c :: r) = ((scanD ((c :: r).drop (pieceP (c :: r)).2.2)).1, (pieceP (c :: r)).2.1.toList ++ (scanD ((c :: r).drop (pieceP (c :: r)).2.2)).2) := by
  have := piece_len c r h
  have hd : ((c :: r).drop (pieceP (c :: r)).2.2).length ≤ r.length := by rw [List.length_drop]; simp; omega
  show scanF (r.length + 1) (c :: r) = _
  unfold scanF
  rw [if_pos h, scanF_eq r.length _ _ hd (Nat.le_refl _)]
  rfl
theorem scanD_bad (c : UInt8) (r : List UInt8) (h : ¬ (pieceP (c :: r)).1 = 0) : scanD (c :: r) = ((pieceP (c :: r)).1, []) := by
  show scanF (r.length + 1) (c :: r) = _
  unfold scanF
  rw [if_neg h]
def lineP (l : List UInt8) : Int × List (Int × List UInt8 × Int) := if l.length ≤ 1024 then scanD l else (51, [])
theorem scanF_len : ∀ (f : Nat) (l : List UInt8), (scanF f l).2.length ≤ l.length
  | 0, _ => by simp [scanF]
  | _ + 1, [] => by simp [scanF]
  | f + 1, c :: r => by
    unfold scanF
    by_cases h : (pieceP (c :: r)).1 = 0
    · rw [if_pos h]
      have h1 := piece_len c r h
      have h2 := scanF_len f ((c :: r).drop (pieceP (c :: r)).2.2)
      rw [List.length_drop] at h2
      have h3 : (pieceP (c :: r)).2.1.toList.length ≤ 1 := by cases (pieceP (c :: r)).2.1 <;> simp
      rw [List.length_append]
      simp only [List.length_cons] at h2 ⊢
      omega
    · rw [if_neg h]; simp
theorem lineP_len (l : List UInt8) : (lineP l).2.length ≤ l.length := by
  unfold lineP
  split
  · exact scanF_len _ _
  · simp
def cutL (l : List UInt8) : List UInt8 × List UInt8 := (l.takeWhile (fun b => !(b == 10)), (l.dropWhile (fun b => !(b == 10))).drop 1)
theorem cutL_len (l : List UInt8) (h : ¬ l = []) : (cutL l).1.length + (cutL l).2.length ≤ l.length ∧ (cutL l).2.length < l.length := by
  have h1 : (l.takeWhile (fun b => !(b == 10))).length + (l.dropWhile (fun b => !(b == 10))).length = l.length := by rw [← List.length_append, List.takeWhile_append_dropWhile]
  have hp : 0 < l.length := List.length_pos_iff.2 h
  unfold cutL
  simp only [List.length_drop]
  omega
def RestAt (N : Nat) (w : World) (a : Option Addr) (l : List UInt8) : Prop := l = [] ∨ ∃ b off, b < N ∧ a = some ⟨b, off, none⟩ ∧ ∀ k x, l[k]? = some x → w.cell? ⟨b, off + k, none⟩ = some (.int .u8 (x.toNat : Int))
theorem RestAt.below {N : Nat} {w w' : World} {a : Option Addr} {l : List UInt8} (h : RestAt N w a l) (b : Below N w w') : RestAt N w' a l := by
  rcases h with h | ⟨g, o, hg, ha, hc⟩
  · exact .inl h
  · exact .inr ⟨g, o, hg, ha, fun k x hx => (Below.cell b hg).trans (hc k x hx)⟩
def CutC : Prop := ∀ (N : Nat) (l : List UInt8) (a : Option Addr) (cap sb : Nat) (w : World), RestAt N w a l → ¬ l = [] → l.length ≤ cap → l.length ≤ 16777216 → w.cell? ⟨sb, 0, none⟩ = some (.int .u8 10) →
  Calls Tryz.prog 100 #[.slice a l.length cap, .slice (some ⟨sb, 0, none⟩) 1 1] w fun e w' => ∃ a1 c1 a2 c2 fd, e = .returned (.tuple #[.slice a1 (cutL l).1.length c1, .slice a2 (cutL l).2.length c2, .bool fd]) ∧ RestAt N w a1 (cutL l).1 ∧ RestAt N w a2 (cutL l).2 ∧ (cutL l).2.length ≤ c2 ∧ ∃ q, w' = w.drewN q
def mkT (n : Nat) (x : Int × List UInt8 × Int) : Tk := ⟨x.1, x.2.1, x.2.2, n⟩
def putS (s : Sn) (L : List UInt8) (a : Nat) (D : List (Int × List UInt8 × Int)) : Sn := ⟨L, s.num + 1, a, s.cnt + D.length, s.keeps, if s.keeps then s.T ++ D.map (mkT (s.num + 1)) else s.T⟩
theorem putS_adv (s : Sn) (L : List UInt8) (a : Nat) (D : List (Int × List UInt8 × Int)) (t : Option (Int × List UInt8 × Int)) (n : Nat) : (putS s L a D).adv t n = putS s L (a + n) (D ++ t.toList) := by
  cases t with
  | none => simp [putS, Sn.adv]
  | some t =>
    obtain ⟨k, x, v⟩ := t
    simp only [putS, Sn.adv, tokS, Sn.add, Option.toList, List.length_append, List.map_append, Sn.mk.injEq, true_and, List.length_cons, List.length_nil]
    refine ⟨by omega, ?_⟩
    by_cases hk : s.keeps = true
    · simp [hk, mkT]
    · simp [hk]
theorem putS_len {s : Sn} (h : s.T.length ≤ s.cnt) (L : List UInt8) (a : Nat) (D : List (Int × List UInt8 × Int)) : (putS s L a D).T.length ≤ (putS s L a D).cnt := by
  unfold putS
  by_cases hk : s.keeps = true
  · simp [hk]; omega
  · simp [hk]; omega
theorem lower_any (c : Int) (w : World) : Calls Tryz.prog 262 #[.int .u8 c] w fun e w' => e = .returned (.int .u8 (bits .or .u8 c 32)) ∧ w = w' := by
  go_enter Tryz.func262, Tryz.ntmps262
  go_wp2
  go_ret
  exact ⟨rfl, rfl⟩
theorem low_hex : ∀ n : Fin 256, hexP (n.val : Int) = true → digP (n.val : Int) = false → 97 ≤ bits .or .u8 (n.val : Int) 32 ∧ bits .or .u8 (n.val : Int) 32 ≤ 102 ∧ bits .or .u8 (n.val : Int) 32 - 87 = hexD (n.val : Int) := by decide +kernel
theorem low65 : ∀ n : Fin 256, hexP (n.val : Int) = true → digP (n.val : Int) = false → 65 ≤ (n.val : Int) := by decide +kernel
theorem dig_hex : ∀ n : Fin 256, digP (n.val : Int) = true → hexD (n.val : Int) = (n.val : Int) - 48 ∧ 48 ≤ (n.val : Int) ∧ (n.val : Int) ≤ 57 := by decide +kernel
theorem not95 : ∀ n : Fin 256, hexP (n.val : Int) = true → ((n.val : Int) == 95) = false := by decide +kernel
theorem low_bad : ∀ n : Fin 256, hexP (n.val : Int) = false → digP (n.val : Int) = false ∧ 0 ≤ bits .or .u8 (n.val : Int) 32 ∧ bits .or .u8 (n.val : Int) 32 < 256 ∧ (97 ≤ bits .or .u8 (n.val : Int) 32 → bits .or .u8 (n.val : Int) 32 ≤ 122 → 103 ≤ bits .or .u8 (n.val : Int) 32) ∧ ((n.val : Int) = 95 → bits .or .u8 (n.val : Int) 32 = 127) := by decide +kernel
def cap16 (k : Nat) : Int := 16 ^ k
theorem cap16_le : ∀ k, k ≤ 15 → cap16 k ≤ 1152921504606846976 := by decide
theorem cap16_succ (k : Nat) : cap16 (k + 1) = cap16 k * 16 := Int.pow_succ _ _
theorem hexD_rng : ∀ n : Fin 256, hexP (n.val : Int) = true → 0 ≤ hexD (n.val : Int) ∧ hexD (n.val : Int) ≤ 15 := by decide +kernel
theorem hexV_snoc (a : Int) (l : List UInt8) (b : UInt8) : hexV a (l ++ [b]) = hexV a l * 16 + hexD (bI b) := by
  induction l generalizing a with
  | nil => rfl
  | cons x l ih => exact ih _
theorem all_take {α : Type} (p : α → Bool) (l : List α) (k : Nat) (b : α) (h : (l.take k).all p = true) (hb : l[k]? = some b) (hp : p b = true) : (l.take (k + 1)).all p = true := by
  rw [List.take_add_one, List.all_append, h, hb]; simp [hp]
theorem all_not {α : Type} (p : α → Bool) (l : List α) (k : Nat) (b : α) (hb : l[k]? = some b) (hp : p b = false) : l.all p = false := by
  rw [List.all_eq_false]
  exact ⟨b, List.mem_of_getElem? hb, by simp [hp]⟩
def val16 (l : List UInt8) : Value × Value := if l.all hexU = true then (.int .u64 (hexV 0 l), .nilIface) else (.int .u64 0, .iface 291 (.int .i64 2))
set_option maxRecDepth 20000 in
set_option maxHeartbeats 4000000 in
theorem parse16 (t : ByteArray) (hne : t.size ≠ 0) (h16 : t.size ≤ 16) (w : World) :
    Calls Tryz.prog 252 #[.string t, .int .i64 16, .int .i64 64] w fun e w' => e = .returned (.tuple #[(val16 t.data.toList).1, (val16 t.data.toList).2]) ∧ w' = Lib.bytesWorld w 5 t := by
  have hie : t.toList.isEmpty = false ∧ ¬ t.toList = [] := isEmpty_of hne
  obtain ⟨hie, hne'⟩ := hie
  have hcv := Lib.run_convert_string_bytes (P := Tryz.prog) w 9 24 5 t (u := .string) Tryz.underlying9 Tryz.underlying24 Tryz.underlying5
  have HB : Hid (∀ j, j < t.size → (Lib.bytesWorld w 5 t).cell? ⟨w.heap.size, j, none⟩ = some (.int .u8 (t.data.toList.getD j 0).toNat)) := fun j hj => Lib.bytesWorld_cell w 5 t j hj
  obtain ⟨W1, hW1⟩ : ∃ W1, W1 = Lib.bytesWorld w 5 t := ⟨_, rfl⟩
  rw [← hW1] at hcv HB ⊢
  clear hW1
  obtain ⟨bs, hL⟩ : ∃ bs, bs = t.data.toList := ⟨_, rfl⟩
  have hLn : bs.length = t.size := by rw [hL]; rfl
  rw [← hL] at HB ⊢
  clear hL
  have hmv : IntKind.u64.wrap (IntKind.u64.wrap 18446744073709551616 - 1) = 18446744073709551615 := by
    rw [IntKind.wrap_u64, IntKind.wrap_u64]; decide
  go_enter Tryz.func252, Tryz.ntmps252
  go_wp2
  go_loop [12, 13, 101] (fun vu vn vi => ∃ (k : Nat) (a : Int), vu = .bool false ∧ vn = .int .u64 a ∧ vi = .int .i64 k ∧ k ≤ t.size ∧ Hid (0 ≤ a ∧ a < cap16 k ∧ a = hexV 0 (bs.take k) ∧ (bs.take k).all hexU = true)) (fun _ _ vi => t.size - (intOf vi).toNat)
  case atStart => exact ⟨0, 0, rfl, rfl, rfl, by omega, by omega, by decide, rfl, by simp⟩
  case round =>
    obtain ⟨k, a, rfl, rfl, rfl, hk, hh⟩ := hrel
    by_cases hkn : k < t.size
    · have hc := HB.out k hkn
      have hget : bs[k]? = some (bs[k]'(by omega)) := List.getElem?_eq_getElem (by omega)
      have hgd : bs.getD k 0 = bs[k]'(by omega) := by simp [List.getD, hget]
      rw [hgd] at hc
      have htk : bs.take (k + 1) = bs.take k ++ [bs[k]'(by omega)] := by rw [List.take_add_one, hget]; rfl
      have hcap := cap16_le k (by omega)
      have hcs := cap16_succ k
      obtain ⟨a0, a1, a2, a3⟩ := hh.out
      have hv := hexV_snoc 0 (bs.take k) (bs[k]'(by omega))
      rw [← htk, ← a2] at hv
      have hall := all_take hexU bs k _ a3 hget
      have hnot := all_not hexU bs k _ hget
      generalize bs[k]'(by omega) = cb at hc hv hall hnot
      have h256 : cb.toNat < 256 := cb.toNat_lt
      cases hx : hexU cb
      · have HN : Hid (bs.all hexU = false) := hnot hx
        have hb := low_bad ⟨cb.toNat, h256⟩ hx
        simp only at hb
        obtain ⟨hdig, l0, l1, l2, l3⟩ := hb
        have CL : Hid (∀ wx : World, Calls Tryz.prog 262 #[.int .u8 (cb.toNat : Int)] wx fun e w' => e = .returned (.int .u8 (bits .or .u8 (cb.toNat : Int) 32)) ∧ wx = w') := fun wx => lower_any (cb.toNat : Int) wx
        generalize bits .or .u8 (cb.toNat : Int) 32 = dd at *
        have hd1 : ¬ (48 ≤ (cb.toNat : Int) ∧ (cb.toNat : Int) ≤ 57) := fun h => by
          rw [show digP (cb.toNat : Int) = true from by simp only [digP, Bool.and_eq_true, decide_eq_true_eq]; exact h] at hdig; cases hdig
        clear hh a1 a2 a3 hv hcap hcs hget hgd htk hall hnot hx HB hdig
        have hfin : ∀ x : Ending, x = .returned (.tuple #[.int .u64 0, .iface 291 (.int .i64 2)]) → x = .returned (.tuple #[(val16 bs).1, (val16 bs).2]) := fun x hxx => by
          have : val16 bs = (.int .u64 0, .iface 291 (.int .i64 2)) := by unfold val16; rw [HN.out]; rfl
          rw [this]; exact hxx
        have HF := hidOf hfin
        clear hfin HN
        by_cases p1 : 97 ≤ dd
        · by_cases p2 : dd ≤ 122
          · have p3 : 103 ≤ dd := l2 p1 p2
            have p4 : ¬ (dd - 97 + 10 < 16) := by omega
            have p5 : 16 ≤ dd - 97 + 10 := by omega
            clear l2
            by_cases p6 : 48 ≤ (cb.toNat : Int)
            · have p7 : ¬ (cb.toNat : Int) ≤ 57 := fun h => hd1 ⟨p6, h⟩
              have h95 : ((cb.toNat : Int) == 95) = false := by simp only [beq_eq_false_iff_ne]; intro h; have := l3 h; omega
              clear l3
              go_wp2_with (go_at_call 262; refine (CL.out _).mono ?_; rintro e w3 ⟨rfl, rfl⟩)
              all_goals (go_ret2; exact ⟨HF.out _ rfl, rfl⟩)
            · have h95 : ((cb.toNat : Int) == 95) = false := by simp only [beq_eq_false_iff_ne]; omega
              go_wp2_with (go_at_call 262; refine (CL.out _).mono ?_; rintro e w3 ⟨rfl, rfl⟩)
              all_goals (go_ret2; exact ⟨HF.out _ rfl, rfl⟩)
          · clear l2
            by_cases p6 : 48 ≤ (cb.toNat : Int)
            · have p7 : ¬ (cb.toNat : Int) ≤ 57 := fun h => hd1 ⟨p6, h⟩
              by_cases hq : (cb.toNat : Int) = 95
              · rw [hq] at hc CL p6 p7
                clear l3 hd1 hq
                go_wp2_with (go_at_call 262; refine (CL.out _).mono ?_; rintro e w3 ⟨rfl, rfl⟩)
                all_goals (go_ret2; exact ⟨HF.out _ rfl, rfl⟩)
              · have h95 : ((cb.toNat : Int) == 95) = false := by simpa using hq
                clear l3
                go_wp2_with (go_at_call 262; refine (CL.out _).mono ?_; rintro e w3 ⟨rfl, rfl⟩)
                all_goals (go_ret2; exact ⟨HF.out _ rfl, rfl⟩)
            · have h95 : ((cb.toNat : Int) == 95) = false := by simp only [beq_eq_false_iff_ne]; omega
              go_wp2_with (go_at_call 262; refine (CL.out _).mono ?_; rintro e w3 ⟨rfl, rfl⟩)
              all_goals (go_ret2; exact ⟨HF.out _ rfl, rfl⟩)
        · clear l2
          by_cases p6 : 48 ≤ (cb.toNat : Int)
          · have p7 : ¬ (cb.toNat : Int) ≤ 57 := fun h => hd1 ⟨p6, h⟩
            have h95 : ((cb.toNat : Int) == 95) = false := by simp only [beq_eq_false_iff_ne]; intro h; have := l3 h; omega
            clear l3
            go_wp2_with (go_at_call 262; refine (CL.out _).mono ?_; rintro e w3 ⟨rfl, rfl⟩)
            all_goals (go_ret2; exact ⟨HF.out _ rfl, rfl⟩)
          · have h95 : ((cb.toNat : Int) == 95) = false := by simp only [beq_eq_false_iff_ne]; omega
            go_wp2_with (go_at_call 262; refine (CL.out _).mono ?_; rintro e w3 ⟨rfl, rfl⟩)
            all_goals (go_ret2; exact ⟨HF.out _ rfl, rfl⟩)
      · have hall := hall hx
        have hr := hexD_rng ⟨cb.toNat, h256⟩ hx
        have h95 := not95 ⟨cb.toNat, h256⟩ hx
        have hlw := low_hex ⟨cb.toNat, h256⟩ hx
        have hdg := dig_hex ⟨cb.toNat, h256⟩
        have h65 := low65 ⟨cb.toNat, h256⟩ hx
        simp only at hr h95 hlw hdg h65
        have hbI : bI cb = (cb.toNat : Int) := rfl
        rw [hbI] at hv
        generalize hD : hexD (cb.toNat : Int) = dd at *
        have HN : Hid (0 ≤ a * 16 + dd ∧ a * 16 + dd < cap16 (k + 1) ∧ a * 16 + dd = hexV 0 (bs.take (k + 1)) ∧ (bs.take (k + 1)).all hexU = true) := ⟨by omega, by omega, hv.symm, hall⟩
        have icut : a < 1152921504606846976 := by omega
        have iov : a * 16 + dd < 18446744073709551616 := by omega
        have i0 : 0 ≤ a * 16 := by omega
        obtain ⟨r0, r1⟩ := hr
        clear hh a1 a2 a3 hv hcap hcs hget hgd htk hD hbI hx HB hall hnot
        cases hdig : digP (cb.toNat : Int)
        · obtain ⟨l0, l1, l2⟩ := hlw hdig
          have c65 := h65 hdig
          have c57 : ¬ (cb.toNat : Int) ≤ 57 := by
            intro h
            rw [show digP (cb.toNat : Int) = true from by simp only [digP, Bool.and_eq_true, decide_eq_true_eq]; omega] at hdig; cases hdig
          have CL : Hid (∀ wx : World, Calls Tryz.prog 262 #[.int .u8 (cb.toNat : Int)] wx fun e w' => e = .returned (.int .u8 (dd + 87)) ∧ wx = w') := fun wx => by
            have h := lower_any (cb.toNat : Int) wx
            rw [show bits .or .u8 (cb.toNat : Int) 32 = dd + 87 by omega] at h
            exact h
          have q0 : 97 ≤ dd + 87 := by omega
          have q1 : dd + 87 ≤ 122 := by omega
          have q2 : 10 ≤ dd := by omega
          clear hlw hdg hdig l0 l1 l2 h65
          go_wp2_with (go_at_call 262; refine (CL.out _).mono ?_; rintro e w3 ⟨rfl, rfl⟩)
          exact ⟨⟨k + 1, a * 16 + dd, rfl, by congr 1; omega, by simp, by omega, HN⟩, by simp [intOf]; omega⟩
        · obtain ⟨e1, e2, e3⟩ := hdg hdig
          clear hlw hdg hdig h65
          subst e1
          go_wp2
          exact ⟨⟨k + 1, _, rfl, rfl, by simp, by omega, HN⟩, by simp [intOf]; omega⟩
    · obtain rfl : k = t.size := by omega
      obtain ⟨a0, a1, a2, a3⟩ := hh.out
      have e1 : bs.take t.size = bs := List.take_of_length_le (by omega)
      rw [e1] at a2 a3
      have A2 : Hid (val16 bs = (.int .u64 a, .nilIface)) := by unfold val16; rw [if_pos a3, a2]; exact hidOf rfl
      clear hh a2 a1 a3
      go_wp2
      go_ret2
      exact ⟨by rw [A2.out]; rfl, rfl⟩
theorem decV_ge : ∀ (l : List UInt8) (a : Nat), a ≤ decV a l
  | [], a => Nat.le_refl a
  | b :: l, a => Nat.le_trans (by omega) (decV_ge l (a * 10 + (b.toNat - 48)))
theorem digU_iff (b : UInt8) : digU b = true ↔ 48 ≤ b.toNat ∧ b.toNat ≤ 57 := by
  unfold digU digP bI
  simp only [Bool.and_eq_true, decide_eq_true_eq]
  omega
theorem pM_dec (M : Nat) (hM : M = 18446744073709551615) (l : List UInt8) : ∀ (a : Nat), a ≤ M → l.all digU = true → Lib.parseUintM M a l = if decV a l ≤ M then .ok (decV a l) else .range := by
  induction l with
  | nil =>
    intro a ha _
    have hd : decV a [] = a := rfl
    have hp : Lib.parseUintM M a [] = .ok a := rfl
    rw [hd, hp, if_pos ha]
  | cons b l ih =>
    intro a ha hl
    simp only [List.all_cons, Bool.and_eq_true] at hl
    have hb := (digU_iff b).1 hl.1
    have hge := decV_ge l (a * 10 + (b.toNat - 48))
    have hd : decV a (b :: l) = decV (a * 10 + (b.toNat - 48)) l := rfl
    rw [hd]
    simp only [Lib.parseUintM]
    rw [if_pos hb]
    by_cases h1 : 1844674407370955162 ≤ a
    · rw [if_pos h1, if_neg (by omega)]
    · rw [if_neg h1]
      by_cases h2 : M < a * 10 + (b.toNat - 48)
      · rw [if_pos h2, if_neg (by omega)]
      · rw [if_neg h2]
        exact ih _ (by omega) hl.2
theorem pM_bad (M : Nat) (l : List UInt8) : ∀ a : Nat, l.all digU = false → Lib.parseUintM M a l = .syntax ∨ Lib.parseUintM M a l = .range := by
  induction l with
  | nil => intro a h; simp at h
  | cons b l ih =>
    intro a h
    simp only [Lib.parseUintM]
    by_cases hb : 48 ≤ b.toNat ∧ b.toNat ≤ 57
    · rw [if_pos hb]
      have hl : l.all digU = false := by
        rw [List.all_cons, (digU_iff b).2 hb] at h
        simpa using h
      by_cases h1 : 1844674407370955162 ≤ a
      · rw [if_pos h1]; exact .inr rfl
      · rw [if_neg h1]
        by_cases h2 : M < a * 10 + (b.toNat - 48)
        · rw [if_pos h2]; exact .inr rfl
        · rw [if_neg h2]; exact ih _ hl
    · rw [if_neg hb]; exact .inl rfl
theorem pB_dec (l : List UInt8) (hne : ¬ l = []) (hl : l.all digU = true) : Lib.parseUintB 64 l = if decV 0 l ≤ 18446744073709551615 then .ok (decV 0 l) else .range := by
  unfold Lib.parseUintB
  rw [if_neg hne]
  exact pM_dec _ (by decide) l 0 (by omega) hl
theorem pB_bad (l : List UInt8) (hl : l.all digU = false) : Lib.parseUintB 64 l = .syntax ∨ Lib.parseUintB 64 l = .range := by
  unfold Lib.parseUintB
  split
  · exact .inl rfl
  · exact pM_bad _ l 0 hl
def PubEnd (w : World) (r : Option Int) (e : Ending) (w' : World) : Prop := Out w w' ∧ (match r with | some n => e = .returned (.tuple #[.int .u64 n, .nilIface]) | none => ∃ x a b, e = .returned (.tuple #[.int .u64 x, .iface a (.pointer (some ⟨b, 0, none⟩))]))
theorem bw_out (w : World) (t : TypeId) (s : ByteArray) : Out w (Lib.bytesWorld w t s) := Lib.bytesWorld_below _ _ _
set_option maxHeartbeats 1000000 in
theorem pub16 (N : Nat) (t : ByteArray) (hne : t.size ≠ 0) (h16 : t.size ≤ 16) (w : World) (hE : Env N w) :
    Calls Tryz.prog 226 #[.string t, .int .i64 16, .int .i64 64] w fun e w' => PubEnd w (if t.data.toList.all hexU = true then some (hexV 0 t.data.toList) else none) e w' := by
  have CP := hidOf (parse16 t hne h16 w)
  have HB := hidOf (bw_out w 5 t)
  generalize Lib.bytesWorld w 5 t = w1 at *
  unfold val16 at CP
  by_cases ha : t.data.toList.all hexU = true
  · rw [if_pos ha] at CP ⊢
    go_enter Tryz.func226, Tryz.ntmps226
    go_wp2_with (go_at_call 252; refine CP.out.mono ?_; rintro e wx ⟨rfl, hwx⟩; subst hwx)
    go_ret2
    exact ⟨HB.out, rfl⟩
  · rw [if_neg ha] at CP ⊢
    obtain ⟨ev, hv, hev⟩ := hE.es
    have CT : Hid (Calls Tryz.prog 253 #[.string ⟨#[80, 97, 114, 115, 101, 85, 105, 110, 116]⟩, .string t, .int .i64 16, .int .i64 64, .iface 291 (.int .i64 2)] w1 fun e w' => ∃ N, e = .returned (.iface 293 (.pointer (some ⟨N, 0, none⟩))) ∧ Out w1 w') := (Tryz.strconv_toError_syntax _ t 16 64 ev w1 (by omega) (cell_later HB.out hv) hev).mono fun e w' ⟨M, h1, _, _, h4⟩ => ⟨M, h1, h4⟩
    clear hv hev
    go_enter Tryz.func226, Tryz.ntmps226
    go_wp2_with (first | (go_at_call 252; refine CP.out.mono ?_; rintro e wx ⟨rfl, hwx⟩; subst hwx) | (go_at_call 253; refine CT.out.mono ?_; rintro e w2 ⟨M, rfl, ho⟩; have HO := hidOf ho; clear ho))
    go_ret2
    exact ⟨Out.trans HB.out HO.out, _, _, _, rfl⟩
theorem pub10 (N : Nat) (l : List UInt8) (hne : ¬ l = []) (hl : l.length ≤ 281474976710656) (w : World) (hE : Env N w) :
    Calls Tryz.prog 226 #[.string ⟨l.toArray⟩, .int .i64 10, .int .i64 64] w fun e w' => PubEnd w (if l.all digU = true ∧ decV 0 l ≤ 18446744073709551615 then some ((decV 0 l : Nat) : Int) else none) e w' := by
  have hsz : (⟨l.toArray⟩ : ByteArray).size ≤ 281474976710656 := by rw [mk_size]; exact hl
  have hrange : Lib.parseUintB 64 l = .range → Calls Tryz.prog 226 #[.string ⟨l.toArray⟩, .int .i64 10, .int .i64 64] w fun e w' => PubEnd w none e w' := fun h => by
    obtain ⟨ev, hv, hev⟩ := hE.er
    exact (Tryz.strconv_ParseUint_10_at64_range ⟨l.toArray⟩ hsz h ev w hv hev).mono fun e w' ⟨M, h1, _, _, h4⟩ => ⟨h4, _, _, _, h1⟩
  have hsyn : Lib.parseUintB 64 l = .syntax → Calls Tryz.prog 226 #[.string ⟨l.toArray⟩, .int .i64 10, .int .i64 64] w fun e w' => PubEnd w none e w' := fun h => by
    obtain ⟨ev, hv, hev⟩ := hE.es
    exact (Tryz.strconv_ParseUint_10_at64_syntax ⟨l.toArray⟩ hsz h ev w hv hev).mono fun e w' ⟨M, h1, _, _, h4⟩ => ⟨h4, _, _, _, h1⟩
  cases ha : l.all digU
  · rw [if_neg (by simp)]
    rcases pB_bad l ha with h | h
    · exact hsyn h
    · exact hrange h
  · have hp := pB_dec l hne ha
    by_cases hd : decV 0 l ≤ 18446744073709551615
    · rw [if_pos ⟨rfl, hd⟩]
      rw [if_pos hd] at hp
      refine (Tryz.strconv_ParseUint_10_at64_ok ⟨l.toArray⟩ (by omega) _ hp w).mono ?_
      rintro e w' ⟨rfl, h | h⟩
      · subst h; exact ⟨Out.refl _, rfl⟩
      · subst h; exact ⟨bw_out w _ _, rfl⟩
    · rw [if_neg (fun h => hd h.2)]
      rw [if_neg hd] at hp
      exact hrange hp
end Go.Proofs.YtkihaohdcgjioaaGreatDoor.Lx
