import Derived.Test.YtbdmbicnlfcclaaSyb
namespace Go.Proofs.Ytbdmbicnlfcclaa
open Go.RowKit
set_option linter.unusedVariables false
set_option linter.unusedSimpArgs false
/-- blocks of other kinds than bytes are as they were -/
def Keep (w w' : World) : Prop := ∀ (p : Nat) (cs : Array Value) (t : TypeId), w.heap[p]? = some (.cells cs t (0, 0)) → t ≠ 5 → w'.heap[p]? = some (.cells cs t (0, 0))
theorem Keep.refl (w : World) : Keep w w := fun _ _ _ h _ => h
theorem Keep.trans {a b c : World} (h : Keep a b) (k : Keep b c) : Keep a c := fun p cs t h1 h2 => k p cs t (h p cs t h1 h2) h2
theorem Keep.of_out {w w' : World} (o : Out w w') : Keep w w' := fun p cs t h _ => (o.block p (Array.getElem?_eq_some_iff.1 h).1).trans h
theorem Keep.grown {N : Nat} {X w' : World} {v : Value} {O : List UInt8} (ho : OwB N v O X) (hg : X.grownBy w' v.ownBlock) : Keep X w' := fun p cs t h ht => by
  have hc : Chg (fun k => v.ownBlock = some k) X w' := Chg.of_grown hg (fun k hk => hk)
  exact (hc.block p (Array.getElem?_eq_some_iff.1 h).1 (own_type ho h ht.symm)).trans h
theorem shr_i64 (n k : Nat) (hk : k < 8) : IntKind.u8.wrap ((n : Int) / 2 ^ (8 * k)) = ((UInt8.ofNat (n / 256 ^ k % 256)).toNat : Int) := shr_byte n k hk
set_option maxRecDepth 8000 in
set_option maxHeartbeats 1000000 in
theorem lay_any (N : Nat) (w : World) (ba : Option Addr) (bc : Nat) (O R : List UInt8) (n wd : Nat) (hR : R = O ++ leB n wd) (hb : OwB N (.slice ba O.length bc) O w) (hN : N ≤ w.heap.size) (hw : wd ≤ 8) (hl : O.length + wd ≤ 140737488355328) (hn : n ≤ 9223372036854775807) :
    Calls Try.prog 47 #[.slice ba O.length bc, .int .i64 (n : Int), .int .i64 (wd : Int)] w fun e w' => ∃ a c, e = .returned (.slice a R.length c) ∧ OwB N (.slice a R.length c) R w' ∧ Below N w w' ∧ Keep w w' := by
  have HR := hidOf hR
  clear hR
  obtain ⟨i0, hi, hz0, hz1, hz2⟩ := info_parts infoB
  have HB := hidOf hb
  have hn0 : (0 : Int) ≤ n := by omega
  have hnI : (n : Int) ≤ 9223372036854775807 := by omega
  clear hb
  go_enter Try.func47, Try.ntmps47
  go_wp2
  go_loopw [9, 0] (fun kv bv wr => ∃ (k : Nat) (P : List UInt8) (a : Option Addr) (c : Nat), kv = .int .i64 k ∧ bv = .slice a P.length c ∧ k ≤ wd ∧ Hid (P = O ++ leB n k) ∧ Hid (OwB N (.slice a P.length c) P wr) ∧ Hid (Below N w wr) ∧ Hid (Keep w wr)) (fun kv _ _ => wd - (intOf kv).toNat)
  case atStart => exact ⟨0, O, ba, bc, rfl, rfl, by omega, hidOf (by simp [leB]), HB.out, Below.refl _ _, Keep.refl _⟩
  case round =>
    obtain ⟨k, P, a, c, rfl, rfl, hk, HP, HO, Hbel, HKp⟩ := hrel
    by_cases hkw : k < wd
    · have hklt : (k : Int) < wd := by omega
      have hk0 : (0 : Int) ≤ k := by omega
      have hk8 : (k : Int) ≤ 7 := by omega
      have hPl : P.length + 1 ≤ 140737488355328 := by rw [HP.out, List.length_append, leB_len]; omega
      have Hby := hidOf (shr_i64 n k (by omega))
      have hNk : N ≤ wr.heap.size := Nat.le_trans hN Hbel.out.size
      go_wp2_with (at_builtin; refine wpList_append_own _ rfl (.tmp 12) (.tmp 18) 37 rfl N 5 i0 _ 1 1 Try.underlying37 hi hz0 hz1 hz2 rfl (by decide) (.slice a P.length c) P.length (Lib.byteCells P) rfl (World.ownsRow.alloc HO.out _) ⟨wr.heap.size, 0, none⟩ 1 1 [.int .u8 (IntKind.u8.wrap ((n : Int) / 2 ^ (8 * k)))] rfl rfl (news_new wr _ _ _ rfl) (fun u hu => by rw [List.mem_singleton.1 hu]; rfl) (by unfold maxLen; omega) (by omega) (by rw [size_alloc]; omega) ?_; intro v4 w4 hown4 hgrow4 _; have HO4 := hidOf hown4; have Hg4 := hidOf hgrow4; clear hgrow4; obtain ⟨a4, c4, rfl⟩ := own_form hown4; clear hown4)
      have e2 : O ++ leB n (k + 1) = P ++ [UInt8.ofNat (n / 256 ^ k % 256)] := by rw [leB_snoc, ← List.append_assoc, ← HP.out]
      have e3 : (O ++ leB n (k + 1)).length = P.length + 1 := by rw [e2]; simp
      refine ⟨⟨k + 1, O ++ leB n (k + 1), a4, c4, by simp, by rw [e3], by omega, rfl, ?_, ?_, ?_⟩, by simp [intOf]; omega⟩
      · show World.ownsRow _ _ _ _ _ _ _
        rw [e3, e2, bc_app]
        have h4 := HO4.out
        rw [Hby.out] at h4
        exact h4
      · exact Below.grownB (Hbel.out.alloc hNk _) hN (World.ownsRow.alloc HO.out _) Hg4.out
      · exact (HKp.out.trans (Keep.of_out ((Out.refl wr).alloc _))).trans (Keep.grown (World.ownsRow.alloc HO.out _) Hg4.out)
    · have hklt : ¬ (k : Int) < wd := by omega
      obtain rfl : k = wd := by omega
      go_wp2
      go_ret
      have e : R = P := HR.out.trans HP.out.symm
      rw [e]
      exact ⟨a, c, rfl, HO.out, Hbel.out, HKp.out⟩
end Go.Proofs.Ytbdmbicnlfcclaa
