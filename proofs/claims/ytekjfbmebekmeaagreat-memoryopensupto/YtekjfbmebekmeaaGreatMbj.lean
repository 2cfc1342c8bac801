import Derived.Test.YtekjfbmebekmeaaGreatMbi
namespace Go.Proofs.YtekjfbmebekmeaaGreat
open Go.RowKit
set_option linter.unusedVariables false
set_option linter.unusedSimpArgs false
theorem begF {F : List Rg} (hs : Srt F) (at_ : Nat) : (∀ y, upF F at_ = some y → F.any (fun x => x.f == at_) = (y.f == at_)) ∧ (upF F at_ = none → F.any (fun x => x.f == at_) = false) := by
  rcases upF_hit hs at_ with ⟨y, hu, hy, hle, hiff, _⟩ | ⟨hu, hall⟩
  · refine ⟨fun z hz => ?_, fun hz => by rw [hu] at hz; cases hz⟩
    rw [hu] at hz; cases hz
    rw [Bool.eq_iff_iff]
    simp only [List.any_eq_true, beq_iff_eq]
    exact hiff.symm
  · refine ⟨fun z hz => (by rw [hu] at hz; cases hz), fun _ => ?_⟩
    rw [List.any_eq_false]
    intro x hx
    have := hall x hx
    simp; omega
set_option maxHeartbeats 4000000 in
set_option maxRecDepth 100000 in
theorem begins_any (w : World) (B s o : Nat) (v : Value) (X : List Rw) (at_ : Nat) (h : Sh B w v X) (hc : w.cell? ⟨s, o, none⟩ = some v) (hs : Srt (flat X)) (hN : X.length < 4611686018427387904) :
    Calls Tryz.prog 77 #[.pointer (some ⟨s, o, none⟩), .int .u64 at_] w fun e w' => e = .returned (.bool ((flat X).any fun x => x.f == at_)) ∧ Out w w' := by
  have P1 := hidOf (upTo_any w B s o v X at_ h hc hs hN)
  have BF := hidOf (begF hs at_)
  generalize (flat X).any (fun x => x.f == at_) = b at BF ⊢
  generalize flat X = F at P1 BF hs
  clear h hc hN hs
  go_enter Tryz.func77, Tryz.ntmps77
  go_upto_region 1 with fail
  go_upto_region 2 with (go_at_call 78; refine P1.out.mono ?_; rintro e w1 ⟨⟨hu, rfl⟩ | ⟨y, hu, hy, rfl⟩, ho1⟩ <;> (have HU := hidOf hu; have O1 := hidOf ho1; clear hu ho1))
  · have hb := BF.out.2 HU.out
    subst hb
    go_wp2
    go_ret
    exact ⟨rfl, O1.out.alloc _⟩
  · have hb := BF.out.1 y HU.out
    have hcell : ∀ O1 O2 : Value, (w1.alloc (.cells #[O1, O2] 36)).cell? ⟨w1.heap.size, 0, none⟩ = some O1 := fun O1 O2 => by rw [cell_fresh _ _ _ 0 _ rfl]; rfl
    generalize y.f = f at *
    by_cases hf : f = at_
    · have hft : ((f : Int) == (at_ : Int)) = true := by simp [hf]
      rw [show (f == at_) = true by simp [hf]] at hb
      subst hb
      clear hf
      go_wp2
      go_ret
      exact ⟨rfl, O1.out.alloc _⟩
    · have hft : ((f : Int) == (at_ : Int)) = false := by rw [beq_eq_false_iff_ne]; omega
      rw [show (f == at_) = false by simp [hf]] at hb
      subst hb
      clear hf
      go_wp2
      go_ret
      exact ⟨rfl, O1.out.alloc _⟩
end Go.Proofs.YtekjfbmebekmeaaGreat
