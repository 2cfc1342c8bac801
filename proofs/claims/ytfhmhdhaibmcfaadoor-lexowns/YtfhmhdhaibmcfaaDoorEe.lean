import Derived.Test.YtfhmhdhaibmcfaaDoorEd
import Derived.Deep.RegionWith
namespace Go.Proofs.YtfhmhdhaibmcfaaDoor
open Go.RowKit
set_option linter.unusedVariables false
set_option linter.unusedSimpArgs false
set_option maxHeartbeats 1000000 in
theorem mark_any (N p : Nat) (w : World) (rv tv : Value) (s : Sn) (c : UInt8) (R : List UInt8) (h : Sc N p w rv tv s) (ha : s.at' < s.line.length) (hl : s.line.length ≤ 4611686018427387904) (hc : s.cnt ≤ 1000000000) (hT : s.T.length ≤ s.cnt) (hR : s.line.drop s.at' = c :: R) :
    Calls Tryd.prog 71 #[.pointer (some ⟨p, 0, none⟩)] w fun e w' => EEnd N p rv w 0 s (tokS s 4 [c] 0 1) e w' := by
  have c1 : w.cell? ⟨p, 1, none⟩ = some (.string ⟨s.line.toArray⟩) := h.cell 1
  have c3 : w.cell? ⟨p, 3, none⟩ = some (.int .i64 s.at') := h.cell 3
  have H := hidOf h
  have e1 : (⟨s.line.toArray⟩ : ByteArray).extract s.at' (s.at' + 1) = ⟨#[c]⟩ := by
    rw [ext_mid s.line s.at' 1 (by omega), hR]; rfl
  have CA : Hid (∀ wx, Sc N p wx rv tv s → Calls Tryd.prog 44 #[.pointer (some ⟨p, 0, none⟩), .int .i64 4, .string ⟨#[c]⟩, .int .u64 0] wx fun e w' => (∃ v, e = .returned v) ∧ SEnd N p rv wx (s.add 4 [c] 0) w') := fun wx hx => add_any N p wx rv tv s 4 [c] 0 hx hc hT
  have haI : (s.at' : Int) + 1 ≤ s.line.length := by omega
  have haJ : (s.at' : Int) ≤ (s.at' : Int) + 1 := by omega
  have hlI : (s.line.length : Int) ≤ 4611686018427387904 := by omega
  have hwr : IntKind.i64.wrap ((s.at' : Int) + 1) = (s.at' : Int) + 1 := by rw [IntKind.wrap_i64]; omega
  clear h hR
  go_enter Tryd.func71, Tryd.ntmps71
  go_upto_region 1 with fail
  go_region_with (go_at_call 44; refine (CA.out _ H.out.drew).mono ?_; rintro e w2 ⟨⟨v, rfl⟩, ⟨tv2, hs2⟩, hb2⟩; have H2 := hidOf hs2; have B2 := hidOf hb2; clear hs2 hb2)
  all_goals
    have d3 : w2.cell? ⟨p, 3, none⟩ = some (.int .i64 s.at') := H2.out.cell 3
    have f3 := H2.out.frozen 3
    go_wp2
    go_ret
    exact EEnd.ok (H2.out.set 3 _ (tokS s 4 [c] 0 1) rfl (by simp [Sn.cells, tokS, Sn.add])) rfl (Below.set_own (Below.step ((Below.refl _ _).drew) B2.out) H.out.le _)
end Go.Proofs.YtfhmhdhaibmcfaaDoor
