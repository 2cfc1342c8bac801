import Derived.Test.YtbdmbicnlfcclaaSyd
namespace Go.Proofs.Ytbdmbicnlfcclaa
open Go.RowKit
theorem nilA1 (w : World) : (nilAhead 220 98 (.agg #[]) "spindle/symtab.follows").run Try.prog w = .ok (some false) w := by kernel_rfl
theorem nilA2 (w : World) : (nilAhead 220 99 (.agg #[]) "spindle/symtab.follows").run Try.prog w = .ok (some false) w := by kernel_rfl
theorem nilA3 (w : World) : (nilAhead 220 100 (.agg #[]) "spindle/symtab.follows").run Try.prog w = .ok (some false) w := by kernel_rfl
theorem nilA4 (w : World) : (nilAhead 220 101 (.agg #[]) "spindle/symtab.follows").run Try.prog w = .ok (some false) w := by kernel_rfl
end Go.Proofs.Ytbdmbicnlfcclaa
