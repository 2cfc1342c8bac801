import Derived.Test.YtkihaohdcgjioaaGreatDoorGp14
import Derived.Test.YtkihaohdcgjioaaGreatDoorGp11
import Derived.Test.YtkihaohdcgjioaaGreatDoorGp06
import Derived.Test.YtkihaohdcgjioaaGreatDoorGp16
import Derived.Test.YtkihaohdcgjioaaGreatDoorGp23
import Derived.Deep.MidRow
namespace Go.Proofs.YtkihaohdcgjioaaGreatDoor.Lx
open Go.RowKit
set_option linter.unusedVariables false
set_option linter.unusedSimpArgs false
def Tk.rw (x : Tk) : Int × List UInt8 × Int := (x.k, x.t, x.n)
/-- what stands behind a token: nothing, or a byte that belongs to no run -/
def Stop (e : List UInt8) : Prop := e = [] ∨ ∃ c r, e = c :: r ∧ runU c = false
theorem run_stop {t e : List UInt8} (ht : t.all runU = true) (he : Stop e) : runN (t ++ e) = t.length := by
  unfold runN
  have h1 : (t ++ e).takeWhile runU = t := by
    induction t with
    | nil =>
      rcases he with rfl | ⟨c, r, rfl, hc⟩
      · rfl
      · simp [List.takeWhile, hc]
    | cons c t ih =>
      rw [List.all_cons, Bool.and_eq_true] at ht
      rw [List.cons_append, List.takeWhile_cons, ht.1]
      simp [ih ht.2]
  rw [h1]
theorem take_len {α : Type} (t e : List α) : (t ++ e).take t.length = t := by simp
theorem word_start {t : List UInt8} (h : wordP t = true) : ∃ c r, t = c :: r ∧ kindP (bI c) = 3 ∧ t.all runU = true ∧ t.length ≤ 64 := by
  simp only [wordP, Bool.and_eq_true, decide_eq_true_eq] at h
  cases t with
  | nil => simp [startP] at h
  | cons c r => exact ⟨c, r, rfl, by simpa [startP] using h.1.2, h.2, h.1.1⟩
theorem piece_cons (c : UInt8) (r : List UInt8) : pieceP (c :: r) = (if kindP (bI c) = 1 then (0, none, 1)
    else if kindP (bI c) = 2 then (0, none, r.length + 1)
    else if kindP (bI c) = 3 then (if runN (c :: r) ≤ 64 then 0 else 53, some (1, (c :: r).take (runN (c :: r)), 0), runN (c :: r))
    else if kindP (bI c) = 5 then (if startP r = true then (if runN (c :: r) ≤ 65 then 0 else 53) else 52, some (2, (c :: r).take (runN (c :: r)), 0), runN (c :: r))
    else if kindP (bI c) = 4 then (if (valP ((c :: r).take (runN (c :: r)))).2 = true then 0 else 54, some (3, [], (valP ((c :: r).take (runN (c :: r)))).1), runN (c :: r))
    else if kindP (bI c) = 7 then (0, some (4, [c], 0), 1)
    else (52, none, 0)) := rfl
theorem piece_word {t e : List UInt8} (h : wordP t = true) (he : Stop e) : pieceP (t ++ e) = (0, some (1, t, 0), t.length) := by
  obtain ⟨c, r, rfl, hk, ha, hl⟩ := word_start h
  have hr := run_stop ha he
  have ht := take_len (c :: r) e
  rw [List.cons_append] at hr ht ⊢
  rw [piece_cons, hk, hr, ht]
  simp at hl
  simp [hl]
theorem piece_dot {t e : List UInt8} (h : dotP t = true) (he : Stop e) : pieceP (t ++ e) = (0, some (2, t, 0), t.length) := by
  simp only [dotP, Bool.and_eq_true] at h
  obtain ⟨hp, hw⟩ := h
  obtain ⟨r, rfl⟩ : ∃ r, t = 46 :: r := by
    unfold Lib.hasPrefix at hp
    cases t with
    | nil => simp [List.isPrefixOf] at hp
    | cons c r =>
      simp [List.isPrefixOf] at hp
      exact ⟨r, by rw [hp]⟩
  have hr : Lib.trimPrefix (46 :: r) [46] = r := by unfold Lib.trimPrefix; rw [if_pos hp]; rfl
  rw [hr] at hw
  obtain ⟨c, r', rfl, hk, ha, hl⟩ := word_start hw
  have hrun := run_stop (t := 46 :: c :: r') (e := e) (by rw [List.all_cons, ha]; decide) he
  have ht := take_len (46 :: c :: r') e
  rw [List.cons_append] at hrun ht ⊢
  rw [piece_cons]
  have k46 : kindP (bI 46) = 5 := by decide
  have hs : startP (c :: r' ++ e) = true := by simp [startP, hk]
  rw [k46, hrun, ht, hs]
  simp at hl
  simp
  omega
theorem piece_mark {t e : List UInt8} (h : markB t = true) : pieceP (t ++ e) = (0, some (4, t, 0), t.length) := by
  unfold markB at h
  split at h
  · rename_i c
    have hk : kindP (bI c) = 7 := by simpa using h
    show pieceP (c :: e) = _
    rw [piece_cons, hk]
    simp
  · cases h
theorem digU_lt (n : Nat) (h : n < 10) : digU (UInt8.ofNat (48 + n)) = true ∧ (UInt8.ofNat (48 + n)).toNat = 48 + n := by
  have h1 : (UInt8.ofNat (48 + n)).toNat = 48 + n := by rw [UInt8.toNat_ofNat']; omega
  exact ⟨(digU_iff _).2 (by omega), h1⟩
theorem decV_app (l m : List UInt8) : ∀ a, decV a (l ++ m) = decV (decV a l) m := by
  induction l with
  | nil => intro a; rfl
  | cons b l ih => intro a; exact ih _
theorem dd_all (u : Nat) : (Lib.decDigits u).all digU = true ∧ decV 0 (Lib.decDigits u) = u ∧ (∃ c l, Lib.decDigits u = c :: l ∧ (¬ u = 0 → ¬ c = 48)) := by
  induction u using Nat.strongRecOn with
  | _ u ih =>
    by_cases h : u < 10
    · have hd := digU_lt u h
      rw [dd_small h]
      refine ⟨by rw [List.all_cons, hd.1]; rfl, ?_, _, _, rfl, fun h0 e => ?_⟩
      · show 0 * 10 + ((UInt8.ofNat (48 + u)).toNat - 48) = u
        omega
      · have e2 := congrArg UInt8.toNat e
        rw [hd.2] at e2
        have : (48 : UInt8).toNat = 48 := rfl
        omega
    · obtain ⟨i1, i2, c, l, i3, i4⟩ := ih (u / 10) (by omega)
      have hd := digU_lt (u % 10) (by omega)
      rw [dd_big h]
      refine ⟨by rw [List.all_append, i1, List.all_cons, hd.1]; rfl, ?_, c, l ++ [UInt8.ofNat (48 + u % 10)], by rw [i3]; rfl, fun _ => i4 (by omega)⟩
      rw [decV_app, i2]
      show u / 10 * 10 + ((UInt8.ofNat (48 + u % 10)).toNat - 48) = u
      omega
theorem dig_run {b : UInt8} (h : digU b = true) : runU b = true := by
  have h' : digP (bI b) = true := h
  simp [runU, runP, h']
theorem dig_kind : ∀ n : Fin 256, digP (n.val : Int) = true → kindP (n.val : Int) = 4 := by decide +kernel
theorem val_dd (u : Nat) (h : u ≤ 18446744073709551615) : valP (Lib.decDigits u) = ((u : Int), true) := by
  obtain ⟨h1, h2, c, l, h3, h4⟩ := dd_all u
  by_cases h0 : u = 0
  · subst h0
    rw [dd_small (by decide)]
    decide
  · have hc : ¬ c = 48 := h4 h0
    unfold valP
    rw [if_neg (by rw [h3]; intro e; simp at e; exact hc e.1), if_neg (by rw [h3]; intro e; simp at e; exact hc e.1), if_pos ⟨h1, by rw [h2]; exact h⟩, h2]
theorem piece_num {u : Nat} {e : List UInt8} (h : u ≤ 18446744073709551615) (he : Stop e) : pieceP (Lib.decDigits u ++ e) = (0, some (3, [], (u : Int)), (Lib.decDigits u).length) := by
  obtain ⟨h1, h2, c, l, h3, h4⟩ := dd_all u
  have hv := val_dd u h
  have ha : (Lib.decDigits u).all runU = true := by
    rw [List.all_eq_true] at h1 ⊢
    exact fun x hx => dig_run (h1 x hx)
  have hr := run_stop ha he
  have ht := take_len (Lib.decDigits u) e
  rw [h3] at h1 hv hr ht ⊢
  rw [List.all_cons, Bool.and_eq_true] at h1
  have hk : kindP (bI c) = 4 := dig_kind ⟨c.toNat, c.toNat_lt⟩ h1.1
  rw [List.cons_append] at hr ht ⊢
  rw [piece_cons, hk, hr, ht, hv]
  simp
end Go.Proofs.YtkihaohdcgjioaaGreatDoor.Lx
namespace Go.Proofs.YtkihaohdcgjioaaGreatDoor
open Go.RowKit
set_option linter.unusedVariables false
set_option linter.unusedSimpArgs false
theorem find_at {α : Type} (p : α → Bool) : ∀ (l : List α) (k : Nat) (x : α), l[k]? = some x → p x = true → (∀ j y, j < k → l[j]? = some y → p y = false) → l.find? p = some x
  | [], k, x, h, _, _ => by simp at h
  | y :: l, 0, x, h, hp, _ => by
    simp at h
    subst h
    simp [hp]
  | y :: l, k + 1, x, h, hp, hno => by
    have h0 : p y = false := hno 0 y (by omega) (by simp)
    rw [List.find?_cons, h0]
    exact find_at p l k x (by simpa using h) hp (fun j z hj hz => hno (j + 1) z (by omega) (by simpa using hz))
theorem find_no {α : Type} (p : α → Bool) (l : List α) (h : ∀ j y, j < l.length → l[j]? = some y → p y = false) : l.find? p = none := by
  rw [List.find?_eq_none]
  intro y hy
  obtain ⟨j, hj, e⟩ := List.getElem_of_mem hy
  have := h j y hj (by rw [List.getElem?_eq_getElem hj, e])
  simp [this]
/-- the tables' cells, one behind the other -/
theorem rangeAt_out {w w' : World} {b o : Nat} {cs : List Value} (h : w.rangeAt b o cs) (u : Out w w') : w'.rangeAt b o cs := fun j v hv => cell_later u (h j v hv)
def immCs : List Value := immT.flatMap (fun r => [.int .u8 r.1, .int .u8 r.2.1, .string ⟨r.2.2.toArray⟩])
def ImmTb (w : World) : Prop := w.rangeAt 7 0 immCs
theorem immT_len : immT.length = 29 := rfl
def immA (k : Nat) : Int := match immT[k]? with | some r => r.1 | none => 0
def immB (k : Nat) : Int := match immT[k]? with | some r => r.2.1 | none => 0
def immS3 (k : Nat) : List UInt8 := match immT[k]? with | some r => r.2.2 | none => []
theorem immT_bd : ∀ r ∈ immT, 0 ≤ r.1 ∧ r.1 < 256 ∧ 0 ≤ r.2.1 ∧ r.2.1 < 256 := by decide
theorem imm_row (k : Nat) (hk : k < 29) : immT[k]? = some (immA k, immB k, immS3 k) ∧ 0 ≤ immA k ∧ immA k < 256 ∧ 0 ≤ immB k ∧ immB k < 256 := by
  obtain ⟨r, hr⟩ : ∃ r, immT[k]? = some r := ⟨_, List.getElem?_eq_getElem (by rw [immT_len]; exact hk)⟩
  have hb := immT_bd r (List.mem_of_getElem? hr)
  unfold immA immB immS3
  rw [hr]
  exact ⟨rfl, hb⟩
set_option maxRecDepth 20000 in
theorem imm_idx (k : Nat) (hk : k < 29) (w : World) : (Instr.index 245 (.agg immCs.toArray) (.int .i64 k)).run Tryz.prog w = .ok (.agg #[.int .u8 (immA k), .int .u8 (immB k), .string ⟨(immS3 k).toArray⟩]) w := by
  rcases (show k = 0 ∨ k = 1 ∨ k = 2 ∨ k = 3 ∨ k = 4 ∨ k = 5 ∨ k = 6 ∨ k = 7 ∨ k = 8 ∨ k = 9 ∨ k = 10 ∨ k = 11 ∨ k = 12 ∨ k = 13 ∨ k = 14 ∨ k = 15 ∨ k = 16 ∨ k = 17 ∨ k = 18 ∨ k = 19 ∨ k = 20 ∨ k = 21 ∨ k = 22 ∨ k = 23 ∨ k = 24 ∨ k = 25 ∨ k = 26 ∨ k = 27 ∨ k = 28 from by omega) with rfl | rfl | rfl | rfl | rfl | rfl | rfl | rfl | rfl | rfl | rfl | rfl | rfl | rfl | rfl | rfl | rfl | rfl | rfl | rfl | rfl | rfl | rfl | rfl | rfl | rfl | rfl | rfl | rfl <;> kernel_rfl
theorem imm_hit (o x : Int) (k : Nat) (hk : k < 29) (h : (o == (immA k) && x == immB k) = true) (hno : ∀ j, j < k → (o == (immA j) && x == immB j) = false) : wImm o x = immS3 k := by
  unfold wImm
  rw [find_at (fun r : Int × Int × List UInt8 => o == r.1 && x == r.2.1) immT k _ (imm_row k hk).1 h (fun j y hj hy => by
    rw [(imm_row j (by omega)).1] at hy
    simp only [Option.some.injEq] at hy
    subst hy
    exact hno j hj)]
theorem imm_miss (o x : Int) (hno : ∀ j, j < 29 → (o == (immA j) && x == immB j) = false) : wImm o x = [] := by
  unfold wImm
  rw [find_no (fun r : Int × Int × List UInt8 => o == r.1 && x == r.2.1) immT (fun j y hj hy => by
    rw [immT_len] at hj
    rw [(imm_row j hj).1] at hy
    simp only [Option.some.injEq] at hy
    subst hy
    exact hno j hj)]
set_option maxRecDepth 20000 in
set_option maxHeartbeats 1600000 in
theorem immWord_any (o d s f i : Int) (w : World) (hT : ImmTb w) : Calls Tryz.prog 169 #[.agg #[.int .i64 o, .int .i64 d, .int .i64 s, .int .i64 f, .int .i64 i]] w fun e w' => e = .returned (.string ⟨(wImm o i).toArray⟩) ∧ Out w w' := by
  have HH := hidOf (imm_hit o i)
  have HM := hidOf (imm_miss o i)
  obtain ⟨A, HA⟩ : ∃ A : Nat → Int, Hid (A = immA) := ⟨_, hidOf rfl⟩
  obtain ⟨B, HB⟩ : ∃ B : Nat → Int, Hid (B = immB) := ⟨_, hidOf rfl⟩
  obtain ⟨T, HT⟩ : ∃ T : Nat → List UInt8, Hid (T = immS3) := ⟨_, hidOf rfl⟩
  obtain ⟨cs, hcs⟩ : ∃ cs, cs = immCs := ⟨_, rfl⟩
  rw [← HA.out, ← HB.out] at HH HM
  rw [← HT.out] at HH
  generalize wImm o i = R at *
  have HAB : Hid (∀ k : Nat, k < 29 → 0 ≤ A k ∧ A k < 256 ∧ 0 ≤ B k ∧ B k < 256) := by rw [HA.out, HB.out]; exact fun k hk => (imm_row k hk).2
  have hix : ∀ (k : Nat), (k : Int) < 29 → ∀ w : World, (Instr.index 245 (.agg cs.toArray) (.int .i64 k)).run Tryz.prog w = .ok (.agg #[.int .u8 (A k), .int .u8 (B k), .string ⟨(T k).toArray⟩]) w := fun k hk w => by
    rw [hcs, imm_idx k (by omega) w, HA.out, HB.out, HT.out]
  have HRg : Hid ((w.alloc (.cells #[.int .i64 o, .int .i64 d, .int .i64 s, .int .i64 f, .int .i64 i] 58)).rangeAt 7 0 cs) := by rw [hcs]; exact rangeAt_out hT ((Out.refl w).alloc _)
  have HSz : Hid ((Tryz.prog.info? 245).map (·.size) = some cs.length) := by
    rw [hcs]
    exact (show (Tryz.prog.info? 245).map (·.size) = some immCs.length by kernel_rfl)
  clear hT hcs
  go_enter Tryz.func169, Tryz.ntmps169
  go_wp2
  refine wp_load_mid 245 (.global 7) rfl 7 0 rfl cs _ HRg.out Tryz.underlying245 rfl HSz.out ?_
  go_wp2
  go_loopw [6] (fun iv wr => ∃ k : Nat, k ≤ 29 ∧ iv = .int .i64 k ∧ Hid (∀ j, j < k → (o == (A j) && i == B j) = false) ∧ Out (w.alloc (.cells #[.int .i64 o, .int .i64 d, .int .i64 s, .int .i64 f, .int .i64 i] 58)) wr) (fun iv _ => 29 - (intOf iv).toNat)
  case atStart => exact ⟨0, by omega, rfl, fun j hj => by omega, Out.refl _⟩
  case round =>
    obtain ⟨k, hk, rfl, Hno, ho⟩ := hrel
    have q0 : ∀ O, (wr.alloc O).cell? ⟨w.heap.size, 0, none⟩ = some (.int .i64 o) := fun O => cell_later (ho.alloc O) (new_cell w _ _ 0)
    have q4 : ∀ O, (wr.alloc O).cell? ⟨w.heap.size, 4, none⟩ = some (.int .i64 i) := fun O => cell_later (ho.alloc O) (new_cell w _ _ 4)
    have Ho := hidOf ho
    clear ho
    by_cases hkN : k < 29
    · have hlt : (k : Int) < 29 := by omega
      obtain ⟨b1, b2, b3, b4⟩ := HAB.out k hkN
      cases h1 : (o == (A k))
      · have Hno' : Hid (∀ j, j < k + 1 → (o == (A j) && i == B j) = false) := fun j hj => by
          by_cases z : j = k
          · subst z; rw [h1]; rfl
          · exact Hno.out j (by omega)
        go_wp2
        go_roundw
        case rel => exact ⟨k + 1, by omega, by simp, Hno', Ho.out.alloc _⟩
        case measure => simp [intOf]; omega
      · cases h2 : (i == B k)
        · have Hno' : Hid (∀ j, j < k + 1 → (o == (A j) && i == B j) = false) := fun j hj => by
            by_cases z : j = k
            · subst z; rw [h2]; simp
            · exact Hno.out j (by omega)
          go_wp2
          go_roundw
          case rel => exact ⟨k + 1, by omega, by simp, Hno', Ho.out.alloc _⟩
          case measure => simp [intOf]; omega
        · have HRes : Hid (R = T k) := HH.out k hkN (by rw [h1, h2]; rfl) Hno.out
          go_wp2
          go_ret
          exact ⟨by rw [HRes.out]; rfl, Out.trans ((Out.refl w).alloc _) (Ho.out.alloc _)⟩
    · have hlt : ¬ (k : Int) < 29 := by omega
      obtain rfl : k = 29 := by omega
      have HRes : Hid (R = []) := HM.out Hno.out
      go_wp2
      go_ret
      exact ⟨by rw [HRes.out]; rfl, Out.trans ((Out.refl w).alloc _) Ho.out⟩
end Go.Proofs.YtkihaohdcgjioaaGreatDoor
namespace Go.Proofs.YtkihaohdcgjioaaGreatDoor
open Go.RowKit
set_option linter.unusedVariables false
set_option linter.unusedSimpArgs false
def offCs : List Value := offT.flatMap (fun r => [.int .u8 r.1, .int .u8 r.2.1, .string ⟨r.2.2.toArray⟩])
def OffTb (w : World) : Prop := w.rangeAt 6 0 offCs
theorem offT_len : offT.length = 9 := rfl
def offA (k : Nat) : Int := match offT[k]? with | some r => r.1 | none => 0
def offB (k : Nat) : Int := match offT[k]? with | some r => r.2.1 | none => 0
def offS3 (k : Nat) : List UInt8 := match offT[k]? with | some r => r.2.2 | none => []
theorem offT_bd : ∀ r ∈ offT, 0 ≤ r.1 ∧ r.1 < 256 ∧ 0 ≤ r.2.1 ∧ r.2.1 < 256 := by decide
theorem off_row (k : Nat) (hk : k < 9) : offT[k]? = some (offA k, offB k, offS3 k) ∧ 0 ≤ offA k ∧ offA k < 256 ∧ 0 ≤ offB k ∧ offB k < 256 := by
  obtain ⟨r, hr⟩ : ∃ r, offT[k]? = some r := ⟨_, List.getElem?_eq_getElem (by rw [offT_len]; exact hk)⟩
  have hb := offT_bd r (List.mem_of_getElem? hr)
  unfold offA offB offS3
  rw [hr]
  exact ⟨rfl, hb⟩
set_option maxRecDepth 20000 in
theorem off_idx (k : Nat) (hk : k < 9) (w : World) : (Instr.index 243 (.agg offCs.toArray) (.int .i64 k)).run Tryz.prog w = .ok (.agg #[.int .u8 (offA k), .int .u8 (offB k), .string ⟨(offS3 k).toArray⟩]) w := by
  rcases (show k = 0 ∨ k = 1 ∨ k = 2 ∨ k = 3 ∨ k = 4 ∨ k = 5 ∨ k = 6 ∨ k = 7 ∨ k = 8 from by omega) with rfl | rfl | rfl | rfl | rfl | rfl | rfl | rfl | rfl <;> kernel_rfl
theorem off_hit (o x : Int) (k : Nat) (hk : k < 9) (h : (bits .or .i64 o 8 == bits .or .i64 (offA k) 8 && x == offB k) = true) (hno : ∀ j, j < k → (bits .or .i64 o 8 == bits .or .i64 (offA j) 8 && x == offB j) = false) : wOff o x = offS3 k := by
  unfold wOff
  rw [find_at (fun r : Int × Int × List UInt8 => bits .or .i64 o 8 == bits .or .i64 r.1 8 && x == r.2.1) offT k _ (off_row k hk).1 h (fun j y hj hy => by
    rw [(off_row j (by omega)).1] at hy
    simp only [Option.some.injEq] at hy
    subst hy
    exact hno j hj)]
theorem off_miss (o x : Int) (hno : ∀ j, j < 9 → (bits .or .i64 o 8 == bits .or .i64 (offA j) 8 && x == offB j) = false) : wOff o x = [] := by
  unfold wOff
  rw [find_no (fun r : Int × Int × List UInt8 => bits .or .i64 o 8 == bits .or .i64 r.1 8 && x == r.2.1) offT (fun j y hj hy => by
    rw [offT_len] at hj
    rw [(off_row j hj).1] at hy
    simp only [Option.some.injEq] at hy
    subst hy
    exact hno j hj)]
set_option maxRecDepth 20000 in
set_option maxHeartbeats 1600000 in
theorem offWord_any (o d s f i : Int) (w : World) (hT : OffTb w) : Calls Tryz.prog 168 #[.agg #[.int .i64 o, .int .i64 d, .int .i64 s, .int .i64 f, .int .i64 i]] w fun e w' => e = .returned (.string ⟨(wOff o f).toArray⟩) ∧ Out w w' := by
  have HH := hidOf (off_hit o f)
  have HM := hidOf (off_miss o f)
  obtain ⟨A, HA⟩ : ∃ A : Nat → Int, Hid (A = offA) := ⟨_, hidOf rfl⟩
  obtain ⟨B, HB⟩ : ∃ B : Nat → Int, Hid (B = offB) := ⟨_, hidOf rfl⟩
  obtain ⟨T, HT⟩ : ∃ T : Nat → List UInt8, Hid (T = offS3) := ⟨_, hidOf rfl⟩
  obtain ⟨cs, hcs⟩ : ∃ cs, cs = offCs := ⟨_, rfl⟩
  rw [← HA.out, ← HB.out] at HH HM
  rw [← HT.out] at HH
  generalize wOff o f = R at *
  have HAB : Hid (∀ k : Nat, k < 9 → 0 ≤ A k ∧ A k < 256 ∧ 0 ≤ B k ∧ B k < 256) := by rw [HA.out, HB.out]; exact fun k hk => (off_row k hk).2
  have hix : ∀ (k : Nat), (k : Int) < 9 → ∀ w : World, (Instr.index 243 (.agg cs.toArray) (.int .i64 k)).run Tryz.prog w = .ok (.agg #[.int .u8 (A k), .int .u8 (B k), .string ⟨(T k).toArray⟩]) w := fun k hk w => by
    rw [hcs, off_idx k (by omega) w, HA.out, HB.out, HT.out]
  have HRg : Hid ((w.alloc (.cells #[.int .i64 o, .int .i64 d, .int .i64 s, .int .i64 f, .int .i64 i] 58)).rangeAt 6 0 cs) := by rw [hcs]; exact rangeAt_out hT ((Out.refl w).alloc _)
  have HSz : Hid ((Tryz.prog.info? 243).map (·.size) = some cs.length) := by
    rw [hcs]
    exact (show (Tryz.prog.info? 243).map (·.size) = some offCs.length by kernel_rfl)
  clear hT hcs
  go_enter Tryz.func168, Tryz.ntmps168
  go_wp2_with (refine wpList_load_mid rfl 243 (.global 6) rfl 6 0 rfl cs _ HRg.out Tryz.underlying243 rfl HSz.out ?_)
  go_loopw [6] (fun iv wr => ∃ k : Nat, k ≤ 9 ∧ iv = .int .i64 k ∧ Hid (∀ j, j < k → (bits .or .i64 o 8 == bits .or .i64 (A j) 8 && f == B j) = false) ∧ Out (w.alloc (.cells #[.int .i64 o, .int .i64 d, .int .i64 s, .int .i64 f, .int .i64 i] 58)) wr) (fun iv _ => 9 - (intOf iv).toNat)
  case atStart => exact ⟨0, by omega, rfl, fun j hj => by omega, Out.refl _⟩
  case round =>
    obtain ⟨k, hk, rfl, Hno, ho⟩ := hrel
    have q0 : ∀ O, (wr.alloc O).cell? ⟨w.heap.size, 0, none⟩ = some (.int .i64 o) := fun O => cell_later (ho.alloc O) (new_cell w _ _ 0)
    have q4 : ∀ O, (wr.alloc O).cell? ⟨w.heap.size, 3, none⟩ = some (.int .i64 f) := fun O => cell_later (ho.alloc O) (new_cell w _ _ 3)
    have Ho := hidOf ho
    clear ho
    by_cases hkN : k < 9
    · have hlt : (k : Int) < 9 := by omega
      obtain ⟨b1, b2, b3, b4⟩ := HAB.out k hkN
      cases h1 : (bits .or .i64 o 8 == bits .or .i64 (A k) 8)
      · have Hno' : Hid (∀ j, j < k + 1 → (bits .or .i64 o 8 == bits .or .i64 (A j) 8 && f == B j) = false) := fun j hj => by
          by_cases z : j = k
          · subst z; rw [h1]; rfl
          · exact Hno.out j (by omega)
        go_wp2
        go_roundw
        case rel => exact ⟨k + 1, by omega, by simp, Hno', Ho.out.alloc _⟩
        case measure => simp [intOf]; omega
      · cases h2 : (f == B k)
        · have Hno' : Hid (∀ j, j < k + 1 → (bits .or .i64 o 8 == bits .or .i64 (A j) 8 && f == B j) = false) := fun j hj => by
            by_cases z : j = k
            · subst z; rw [h2]; simp
            · exact Hno.out j (by omega)
          go_wp2
          go_roundw
          case rel => exact ⟨k + 1, by omega, by simp, Hno', Ho.out.alloc _⟩
          case measure => simp [intOf]; omega
        · have HRes : Hid (R = T k) := HH.out k hkN (by rw [h1, h2]; rfl) Hno.out
          go_wp2
          go_ret
          exact ⟨by rw [HRes.out]; rfl, Out.trans ((Out.refl w).alloc _) (Ho.out.alloc _)⟩
    · have hlt : ¬ (k : Int) < 9 := by omega
      obtain rfl : k = 9 := by omega
      have HRes : Hid (R = []) := HM.out Hno.out
      go_wp2
      go_ret
      exact ⟨by rw [HRes.out]; rfl, Out.trans ((Out.refl w).alloc _) Ho.out⟩
end Go.Proofs.YtkihaohdcgjioaaGreatDoor
