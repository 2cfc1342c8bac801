import Derived.Test.YtekjfbmebekmeaaGreatMbf
namespace Go.Proofs.YtekjfbmebekmeaaGreat
open Go.RowKit
set_option linter.unusedVariables false
set_option linter.unusedSimpArgs false
set_option maxHeartbeats 2000000 in
theorem place1_any (wr : World) (b1 b2 s o gR n cR gi li ci f at_ i : Nat) (hb1 : wr.cell? ⟨b1, 0, none⟩ = some (.pointer (some ⟨s, o, none⟩))) (hb2 : wr.cell? ⟨b2, 0, none⟩ = some (.int .u64 at_)) (hs : wr.cell? ⟨s, o, none⟩ = some (.slice (some ⟨gR, 0, none⟩) n cR)) (hi : i < n) (hr : wr.cell? ⟨gR, i, none⟩ = some (.slice (some ⟨gi, 0, none⟩) li ci)) (hl : 0 < li) (hc : wr.cell? ⟨gi, 0, none⟩ = some (.int .u64 f)) :
    Calls Tryz.prog 103 (#[.int .i64 (i : Nat)] ++ #[.pointer (some ⟨b1, 0, none⟩), .pointer (some ⟨b2, 0, none⟩)]) wr fun e w' => e = .returned (.bool (decide (at_ < f))) ∧ Out wr w' := by
  have hiz : (i : Int) < (n : Int) := by omega
  have hlz : (0 : Int) < (li : Int) := by omega
  go_enter Tryz.func103, Tryz.ntmps103
  go_wp2
  go_quiet (fail)
  go_wp2
  go_ret
  refine ⟨?_, by first | exact (Out.refl wr).drew | exact (Out.refl wr).drewN _⟩
  simp
set_option maxHeartbeats 2000000 in
theorem place2_any (wr : World) (b1 b2 gi li ci f at_ i : Nat) (hb1 : wr.cell? ⟨b1, 0, none⟩ = some (.slice (some ⟨gi, 0, none⟩) li ci)) (hb2 : wr.cell? ⟨b2, 0, none⟩ = some (.int .u64 at_)) (hi : i < li) (hc : wr.cell? ⟨gi, i * 2, none⟩ = some (.int .u64 f)) :
    Calls Tryz.prog 104 (#[.int .i64 (i : Nat)] ++ #[.pointer (some ⟨b1, 0, none⟩), .pointer (some ⟨b2, 0, none⟩)]) wr fun e w' => e = .returned (.bool (decide (at_ < f))) ∧ Out wr w' := by
  have hiz : (i : Int) < (li : Int) := by omega
  go_enter Tryz.func104, Tryz.ntmps104
  go_wp2
  go_quiet (fail)
  go_wp2
  go_ret
  refine ⟨?_, by first | exact (Out.refl wr).drew | exact (Out.refl wr).drewN _⟩
  simp
end Go.Proofs.YtekjfbmebekmeaaGreat
