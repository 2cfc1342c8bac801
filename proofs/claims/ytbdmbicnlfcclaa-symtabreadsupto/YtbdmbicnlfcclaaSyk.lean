import Derived.Test.YtbdmbicnlfcclaaSyj
namespace Go.Proofs.Ytbdmbicnlfcclaa
open Go.RowKit
set_option linter.unusedVariables false
set_option linter.unusedSimpArgs false
/-- a number that stands in bytes -/
def nuB (l : List UInt8) (i n : Nat) : Int := wrap64 (nmB ((l.drop i).take n) : Nat)
theorem nu_small (l : List UInt8) (i n : Nat) (hn : n ≤ 7) : nuB l i n = nmB ((l.drop i).take n) := by
  have h := nmB_lt ((l.drop i).take n)
  have : 256 ^ ((l.drop i).take n).length ≤ 256 ^ 7 := Nat.pow_le_pow_right (by omega) (by rw [List.length_take]; omega)
  exact w64_small _ (by omega)
theorem nu_byte (l : List UInt8) (i : Nat) : 0 ≤ nuB l i 1 ∧ nuB l i 1 < 256 := by
  have h := nmB_lt ((l.drop i).take 1)
  have : 256 ^ ((l.drop i).take 1).length ≤ 256 ^ 1 := Nat.pow_le_pow_right (by omega) (by rw [List.length_take]; omega)
  rw [nu_small l i 1 (by omega)]
  omega
theorem num_cut {w : World} {g off : Nat} {l : List UInt8} (hg : g < w.heap.size) (h : BAt w g off l) (i n c' : Nat) (hn : n ≤ 8) (hi : i + n ≤ l.length) : Calls Try.prog 48 #[.slice (some ⟨g, off + i, none⟩) n c'] w fun e w' => e = .returned (.int .i64 (nuB l i n)) ∧ w' = w := by
  have hl : ((l.drop i).take n).length = n := by rw [List.length_take, List.length_drop]; omega
  have := number_any w.heap.size (some ⟨g, off + i, none⟩) c' ((l.drop i).take n) w ((h.cut i n).rest hg) (by omega)
  rwa [hl] at this
/-- the symbol of an entry -/
def syB (l : List UInt8) : Sy := ⟨nuB l 0 4, nuB l 4 1 / 16, nuB l 4 1 % 16, nuB l 6 2, nuB l 8 8, nuB l 16 8⟩
theorem sizeSm : (Try.prog.info? 57).map (·.size) = some 6 := by kernel_rfl
set_option maxHeartbeats 1000000 in
theorem symbolOf_any (w : World) (g off c : Nat) (l : List UInt8) (hg : g < w.heap.size) (h : BAt w g off l) (hl : l.length = 24) (hc : 24 ≤ c) : Calls Try.prog 49 #[.slice (some ⟨g, off, none⟩) 24 c] w fun e w' => e = .returned (.agg (syB l).ar) ∧ Out w w' := by
  have HO := hidOf ((Out.refl w).alloc (.cells #[.int .i64 0, .int .i64 0, .int .i64 0, .int .i64 0, .int .i64 0, .int .i64 0] 57))
  have NN : ∀ i n, n ≤ 8 → i + n ≤ 24 → ∀ wx, Out w wx → ∀ c', Calls Try.prog 48 #[.slice (some ⟨g, off + i, none⟩) n c'] wx fun e w' => e = .returned (.int .i64 (nuB l i n)) ∧ w' = wx := fun i n hn hi wx o c' => num_cut (Nat.lt_of_lt_of_le hg o.size) (h.out hg o) i n c' hn (by omega)
  have N0 := hidOf (NN 0 4 (by omega) (by omega))
  rw [Nat.add_zero] at N0
  have N4 := hidOf (NN 4 1 (by omega) (by omega))
  have N6 := hidOf (NN 6 2 (by omega) (by omega))
  have N8 := hidOf (NN 8 8 (by omega) (by omega))
  have N16 := hidOf (NN 16 8 (by omega) (by omega))
  have hcI : (24 : Int) ≤ c := by omega
  have hc4 : (4 : Int) ≤ c := by omega
  have hc8 : (8 : Int) ≤ c := by omega
  have hc16 : (16 : Int) ≤ c := by omega
  have hb := nu_byte l 4
  unfold syB Sy.ar
  generalize nuB l 0 4 = n0 at *
  generalize nuB l 4 1 = n4 at *
  generalize nuB l 6 2 = n6 at *
  generalize nuB l 8 8 = n8 at *
  generalize nuB l 16 8 = n16 at *
  obtain ⟨hb0, hb1⟩ := hb
  have hd1 : n4.tdiv 16 = n4 / 16 := Int.tdiv_eq_ediv_of_nonneg hb0
  have hd2 : n4.tmod 16 = n4 % 16 := Int.tmod_eq_emod_of_nonneg hb0
  have hne4 : ¬ c = 4 := by omega
  have hne6 : ¬ c = 6 := by omega
  have hne8 : ¬ c = 8 := by omega
  have hne16 : ¬ c = 16 := by omega
  have hne0 : ¬ c = 0 := by omega
  clear h hg hl NN
  go_enter Try.func49, Try.ntmps49
  go_upto_region 2 with (go_at_call 48; (first | with_reducible refine (N4.out _ (by first | exact HO.out | exact HO.out.drew | exact HO.out.drewN _) _).mono ?_ | with_reducible refine (N0.out _ (by first | exact HO.out | exact HO.out.drew | exact HO.out.drewN _) _).mono ?_ | with_reducible refine (N6.out _ (by first | exact HO.out | exact HO.out.drew | exact HO.out.drewN _) _).mono ?_ | with_reducible refine (N8.out _ (by first | exact HO.out | exact HO.out.drew | exact HO.out.drewN _) _).mono ?_ | with_reducible refine (N16.out _ (by first | exact HO.out | exact HO.out.drew | exact HO.out.drewN _) _).mono ?_); rintro e w1 ⟨rfl, hw⟩; subst hw)
  go_region_held3 (fun _ => True) (first | trivial | fail) (first | (go_at_call 48; (first | with_reducible refine (N4.out _ (by first | exact HO.out | exact HO.out.drew | exact HO.out.drewN _) _).mono ?_ | with_reducible refine (N0.out _ (by first | exact HO.out | exact HO.out.drew | exact HO.out.drewN _) _).mono ?_ | with_reducible refine (N6.out _ (by first | exact HO.out | exact HO.out.drew | exact HO.out.drewN _) _).mono ?_ | with_reducible refine (N8.out _ (by first | exact HO.out | exact HO.out.drew | exact HO.out.drewN _) _).mono ?_ | with_reducible refine (N16.out _ (by first | exact HO.out | exact HO.out.drew | exact HO.out.drewN _) _).mono ?_); rintro e w1 ⟨rfl, hw⟩; subst hw) | fail)
  all_goals
    go_wp2
    refine bodyPost_ret (results_cell_row rfl _ _ w.heap.size 57 _ (0, 0) _ rfl (heap_alloc_new _ _) Try.underlying57 rfl sizeSm) rfl ?_
    exact ⟨by first | rfl | (rw [show IntKind.i64.wrap (n4 / 16) = n4 / 16 from by rw [IntKind.wrap_i64]; omega]), ((Out.refl w).alloc _).drew⟩
/-- the first byte of the first entry that is not zero -/
def fzB : List UInt8 → Nat → Option Nat
  | [], _ => none
  | x :: r, k => if x = 0 then fzB r (k + 1) else some k
def fzP (b : List UInt8) : Option Nat := if b.length < 24 then some b.length else fzB (b.take 24) 0
theorem fz_step {l : List UInt8} {k : Nat} {x : UInt8} (h : l[k]? = some x) : fzB (l.drop k) k = if x = 0 then fzB (l.drop (k + 1)) (k + 1) else some k := by
  obtain ⟨hi, hx⟩ := List.getElem?_eq_some_iff.1 h
  rw [List.drop_eq_getElem_cons hi, hx, fzB]
theorem first_short (w : World) (a : Option Addr) (n c : Nat) (hn : n < 24) : Calls Try.prog 34 #[.slice a n c] w fun e w' => e = .returned (.tuple #[.int .i64 n, .bool true]) ∧ w' = w := by
  have hnI : (n : Int) < 24 := by omega
  go_enter Try.func34, Try.ntmps34
  go_wp2
  go_ret2
  exact ⟨rfl, rfl⟩
theorem first_long (w : World) (g off c : Nat) (b : List UInt8) (h : BAt w g off b) (hn : 24 ≤ b.length) (hc : b.length ≤ c) : Calls Try.prog 34 #[.slice (some ⟨g, off, none⟩) b.length c] w fun e w' => e = .returned (.tuple #[.int .i64 ((fzB (b.take 24) 0).getD 0 : Nat), .bool (fzB (b.take 24) 0).isSome]) ∧ w' = w := by
  have hnI : ¬ (b.length : Int) < 24 := by omega
  have hcI : (24 : Int) ≤ c := by omega
  have H := hidOf h
  obtain ⟨R, hR⟩ : ∃ R, R = fzB (b.take 24) 0 := ⟨_, rfl⟩
  rw [← hR]
  obtain ⟨l, hl⟩ : ∃ l, l = b.take 24 := ⟨_, rfl⟩
  rw [← hl] at hR
  have HR := hidOf hR
  have hll : l.length = 24 := by rw [hl, List.length_take]; omega
  have HG : Hid (∀ k, k < 24 → ∃ x, l[k]? = some x ∧ w.cell? ⟨g, off + k, none⟩ = some (.int .u8 (x.toNat : Int))) := fun k hk => by
    refine ⟨l[k], List.getElem?_eq_getElem (by omega), ?_⟩
    refine h k _ ?_
    have : l[k]? = b[k]? := by rw [hl, List.getElem?_take_of_lt hk]
    rw [← this, List.getElem?_eq_getElem (by omega)]
  clear h hR hl H
  go_enter Try.func34, Try.ntmps34
  go_wp2
  go_loopw [14] (fun iv wr => ∃ k : Nat, iv = .int .i64 k ∧ k ≤ 24 ∧ Hid (R = fzB (l.drop k) k) ∧ wr = w) (fun iv _ => 24 - (intOf iv).toNat)
  case atStart => exact ⟨0, rfl, by omega, HR, rfl⟩
  case round =>
    obtain ⟨k, rfl, hk, Hk, rfl⟩ := hrel
    by_cases hkN : k < 24
    · have hlt : (k : Int) < 24 := by omega
      have h0 : (0 : Int) ≤ k := by omega
      obtain ⟨x, hx, d⟩ := HG.out k hkN
      have hst := hidOf (fz_step hx)
      by_cases hx0 : x = 0
      · have hz : ((x.toNat : Int) != 0) = false := by rw [hx0]; rfl
        have Hn : Hid (R = fzB (l.drop (k + 1)) (k + 1)) := hidOf (by rw [Hk.out, hst.out, if_pos hx0])
        clear hx hst hx0
        go_wp2
        refine ⟨⟨k + 1, by simp, by omega, Hn, trivial⟩, ?_⟩
        simp [intOf]; omega
      · have hz : ((x.toNat : Int) != 0) = true := by
          have : x.toNat ≠ 0 := fun e => hx0 (UInt8.toNat_inj.1 e)
          simp; omega
        have Hn : Hid (R = some k) := hidOf (by rw [Hk.out, hst.out, if_neg hx0])
        clear hx hst hx0
        go_wp2
        go_ret2
        rw [Hn.out]
        exact ⟨rfl, rfl⟩
    · have hlt : ¬ (k : Int) < 24 := by omega
      obtain rfl : k = 24 := by omega
      have Hn : Hid (R = none) := hidOf (by rw [Hk.out, ← hll, List.drop_length]; rfl)
      go_wp2
      go_ret2
      rw [Hn.out]
      exact ⟨rfl, rfl⟩
end Go.Proofs.Ytbdmbicnlfcclaa
