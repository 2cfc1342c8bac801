import Derived.Test.YthdgmhohofakgaaGreatDoorImj
import Derived.DeepKeys4
namespace Go.Proofs.YthdgmhohofakgaaGreatDoor
open Go.RowKit
open Go.Maps (Keyed)
set_option linter.unusedVariables false
set_option linter.unusedSimpArgs false
theorem run_leq (a b : List UInt8) (w : World) : (binOp .leq 9 (.string ⟨a.toArray⟩) (.string ⟨b.toArray⟩)).run Tryz.prog w = .ok (.bool (leS a b)) w := by
  have e1 : (⟨a.toArray⟩ : ByteArray).toList = a := mk_list a
  have e2 : (⟨b.toArray⟩ : ByteArray).toList = b := mk_list b
  have : binOp .leq 9 (.string ⟨a.toArray⟩) (.string ⟨b.toArray⟩) = Op.stringOp .leq ⟨a.toArray⟩ ⟨b.toArray⟩ := rfl
  rw [this]
  simp only [Op.stringOp, e1, e2]
  rfl
theorem ahN_succ {D : List Td} {k : Nat} {x : Td} (h : D[k]? = some x) : ahN D (k + 1) = x.nm := by simp [ahN, h]
theorem tableName_any (D : List Td) (w : World) (da : Option Addr) (dc : Nat) (hD : TdA w da D) (hm : D.length ≤ 1024) : Calls Tryz.prog 85 #[.slice da D.length dc] w (FltE (fstB (tdB D) D.length) w) := by
  obtain ⟨R, hR⟩ : ∃ R, Hid (R = fstB (tdB D) D.length) := ⟨_, rfl⟩
  rw [← hR.out]
  obtain ⟨n, hn⟩ : ∃ n, Hid (n = D.length) := ⟨_, rfl⟩
  rw [← hn.out] at hm ⊢ hR
  go_enter Tryz.func85, Tryz.ntmps85
  go_wp2
  go_loopw [4, 9] (fun c i wr => ∃ (k : Nat) (z : List UInt8), k ≤ n ∧ c = .string ⟨z.toArray⟩ ∧ i = .int .i64 k ∧ Hid (z = ahN D k) ∧ Hid (∀ j, j < k → tdB D j = false) ∧ Hid (Out w wr)) (fun _ i _ => n - (intOf i).toNat)
  case atStart => exact ⟨0, [], by omega, rfl, rfl, hidOf rfl, hidOf (fun j hj => by omega), hidOf (Out.refl _)⟩
  case round =>
    obtain ⟨k, z, hk, rfl, rfl, hzz, hg, hor⟩ := hrel
    by_cases hkl : k < n
    · have hlt : (k : Int) < n := by omega
      obtain ⟨x, hx⟩ : ∃ x, D[k]? = some x := ⟨_, List.getElem?_eq_getElem (by rw [← hn.out]; exact hkl)⟩
      obtain ⟨b, off, rfl, q0, q1, q2, q3, q4⟩ := (hD.out hor.out).get hx
      have hB : tdB D k = (!wordP x.nm || leS x.nm z) := by simp [tdB, hx, hzz.out]
      have hA := ahN_succ hx
      clear hD
      obtain ⟨nm, kd, ky, vl, en⟩ := x
      simp only at q0 q1 q2 q3 q4 hB hA
      have CN : Hid (∀ wx, Calls Tryz.prog 95 #[.string ⟨nm.toArray⟩] wx fun e w' => e = .returned (.bool (wordP nm)) ∧ Out wx w') := fun wx => isNameI_any nm wx
      generalize wordP nm = bw at *
      cases bw
      · have hfin : Hid (R = some k) := hidOf (by rw [hR.out, fstB_some hkl hg.out (by rw [hB]; rfl)])
        clear hB hA
        go_wp2_with (go_at_call 95; refine (CN.out _).mono ?_; rintro e w1 ⟨rfl, o1⟩)
        go_ret2
        exact ⟨k, by rw [hfin.out]; rfl, fun z hz => by rw [hfin.out] at hz; cases hz; rfl, Out.trans (Out.alloc hor.out _) o1⟩
      · have HL := run_leq nm z
        generalize leS nm z = bl at *
        cases bl
        · have Hg2 : Hid (∀ j, j < k + 1 → tdB D j = false) := hidOf (fun j hj => by
            by_cases e : j = k
            · rw [e, hB]; rfl
            · exact hg.out j (by omega))
          have HA := hidOf hA.symm
          clear hB hA
          go_wp2_with (go_at_call 95; refine (CN.out _).mono ?_; rintro e w1 ⟨rfl, o1⟩; have x0 := cell_later o1 (cell_fresh wr _ _ 0 _ rfl))
          go_roundw
          case rel => exact ⟨k + 1, nm, by omega, rfl, by simp, HA, Hg2, hidOf (Out.trans (Out.alloc hor.out _) o1)⟩
          case measure => simp [intOf]; omega
        · have hfin : Hid (R = some k) := hidOf (by rw [hR.out, fstB_some hkl hg.out (by rw [hB]; rfl)])
          clear hB hA
          go_wp2_with (go_at_call 95; refine (CN.out _).mono ?_; rintro e w1 ⟨rfl, o1⟩; have x0 := cell_later o1 (cell_fresh wr _ _ 0 _ rfl))
          go_ret2
          exact ⟨k, by rw [hfin.out]; rfl, fun z hz => by rw [hfin.out] at hz; cases hz; rfl, Out.trans (Out.alloc hor.out _) o1⟩
    · have hlt : ¬ (k : Int) < n := by omega
      have hfin : Hid (R = none) := hidOf (by rw [hR.out, fstB_none fun j hj => hg.out j (by omega)])
      go_wp2
      go_ret2
      exact ⟨0, by rw [hfin.out]; rfl, (fun q hq => by rw [hfin.out] at hq; cases hq), hor.out⟩
end Go.Proofs.YthdgmhohofakgaaGreatDoor
