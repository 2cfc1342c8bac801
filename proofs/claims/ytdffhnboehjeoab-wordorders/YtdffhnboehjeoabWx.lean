import Derived.Test.YtdffhnboehjeoabWk
import Derived.Test.YtdffhnboehjeoabWj
import Derived.WalkKit
import Derived.WalkLawsBesides
import Derived.Outline
namespace Go.Proofs.Ytdffhnboehjeoab
open Go.RowKit
set_option linter.unusedVariables false
set_option linter.unusedSimpArgs false

theorem Wide_any (width : Int) (w : World) : Calls Try.prog 9 #[.int .i64 width] w fun e w' => e = .returned (.int .i64 (bW width)) ∧ w' = w := by
  rcases wide_cases width with rfl | rfl | rfl | ⟨n8, n16, n32⟩
  · go_enter Try.func9, Try.ntmps9
    go_wp2
    go_ret
    exact ⟨rfl, rfl⟩
  · go_enter Try.func9, Try.ntmps9
    go_wp2
    go_ret
    exact ⟨rfl, rfl⟩
  · go_enter Try.func9, Try.ntmps9
    go_wp2
    go_ret
    exact ⟨rfl, rfl⟩
  · rw [(W64 n8 n16 n32).2.2]
    have g8 : (width == 8) = false := by simp [n8]
    have g16 : (width == 16) = false := by simp [n16]
    have g32 : (width == 32) = false := by simp [n32]
    clear n8 n16 n32
    go_enter Try.func9, Try.ntmps9
    go_wp2
    go_ret
    exact ⟨rfl, rfl⟩
end Go.Proofs.Ytdffhnboehjeoab
