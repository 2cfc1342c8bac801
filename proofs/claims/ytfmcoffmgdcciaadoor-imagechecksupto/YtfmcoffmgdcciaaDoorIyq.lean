import Derived.Test.YtfmcoffmgdcciaaDoorImv
import Derived.Test.YtfmcoffmgdcciaaDoorIyo
namespace Go.Proofs.YtfmcoffmgdcciaaDoor
open Go.RowKit
set_option linter.unusedVariables false
set_option linter.unusedSimpArgs false
def oneM : Img := ⟨[⟨149, 0, 0, 0, 0⟩], [⟨[102], 0, 0, 1⟩], [], 0⟩
/-- the document's example -/
theorem one17_any (w : World) : Calls Tryd.prog 16 #[] w fun e w' => ∃ t f, e = .returned (.agg #[.slice (some ⟨t, 0, none⟩) 1 1, .slice (some ⟨f, 0, none⟩) 1 1, .slice none 0 0, .int .i64 0]) ∧ ImA w' (some ⟨t, 0, none⟩) (some ⟨f, 0, none⟩) none oneM ∧ Out w w' := by
  obtain ⟨w3, hw3⟩ : ∃ w3, Hid (w3 = ((w.alloc (.cells #[.slice (some ⟨w.heap.size + 1, 0, none⟩) 1 1, .slice (some ⟨w.heap.size + 1 + 1, 0, none⟩) 1 1, .slice none 0 0, .int .i64 0] 26)).alloc (.cells #[.int .i64 149, .int .i64 0, .int .i64 0, .int .i64 0, .int .i64 0] 40)).alloc (.cells #[.string ⟨#[102]⟩, .int .i64 0, .int .i64 0, .int .i64 1] 59)) := ⟨_, rfl⟩
  have b0 : w3.heap[w.heap.size]? = some (.cells #[.slice (some ⟨w.heap.size + 1, 0, none⟩) 1 1, .slice (some ⟨w.heap.size + 1 + 1, 0, none⟩) 1 1, .slice none 0 0, .int .i64 0] 26 (0, 0)) := by
    rw [hw3.out, Below.heap_alloc _ _ _ (by rw [size_alloc, size_alloc]; omega), Below.heap_alloc _ _ _ (by rw [size_alloc]; omega)]; exact heap_alloc_new w _
  have b1 : w3.heap[w.heap.size + 1]? = some (.cells #[.int .i64 149, .int .i64 0, .int .i64 0, .int .i64 0, .int .i64 0] 40 (0, 0)) := by
    rw [hw3.out, Below.heap_alloc _ _ _ (by rw [size_alloc, size_alloc]; omega)]
    have := heap_alloc_new (w.alloc (.cells #[.slice (some ⟨w.heap.size + 1, 0, none⟩) 1 1, .slice (some ⟨w.heap.size + 1 + 1, 0, none⟩) 1 1, .slice none 0 0, .int .i64 0] 26)) (.cells #[.int .i64 149, .int .i64 0, .int .i64 0, .int .i64 0, .int .i64 0] 40)
    rw [size_alloc] at this; exact this
  have b2 : w3.heap[w.heap.size + 1 + 1]? = some (.cells #[.string ⟨#[102]⟩, .int .i64 0, .int .i64 0, .int .i64 1] 59 (0, 0)) := by
    have := heap_alloc_new ((w.alloc (.cells #[.slice (some ⟨w.heap.size + 1, 0, none⟩) 1 1, .slice (some ⟨w.heap.size + 1 + 1, 0, none⟩) 1 1, .slice none 0 0, .int .i64 0] 26)).alloc (.cells #[.int .i64 149, .int .i64 0, .int .i64 0, .int .i64 0, .int .i64 0] 40)) (.cells #[.string ⟨#[102]⟩, .int .i64 0, .int .i64 0, .int .i64 1] 59)
    rw [size_alloc, size_alloc, ← hw3.out] at this; exact this
  have hA : ImA w3 (some ⟨w.heap.size + 1, 0, none⟩) (some ⟨w.heap.size + 1 + 1, 0, none⟩) none oneM := by
    refine ⟨.inr ⟨_, _, rfl, fun k x hx => ?_⟩, .inr ⟨_, _, rfl, fun k x hx => ?_⟩, .inl rfl, by decide, fun x hx => ?_⟩
    · match k, hx with
      | 0, hx => cases hx; exact ⟨by rw [cell_atL b1]; rfl, by rw [cell_atL b1]; rfl, by rw [cell_atL b1]; rfl, by rw [cell_atL b1]; rfl, by rw [cell_atL b1]; rfl⟩
    · match k, hx with
      | 0, hx => cases hx; exact ⟨by rw [cell_atL b2]; rfl, by rw [cell_atL b2]; rfl, by rw [cell_atL b2]; rfl, by rw [cell_atL b2]; rfl⟩
    · simp [oneM] at hx; subst hx; exact ⟨by decide, by decide, by decide⟩
  have hO : Out w w3 := by rw [hw3.out]; exact Out.alloc (Out.alloc (Out.alloc (Out.refl _) _) _) _
  go_enter Tryd.func16, Tryd.ntmps16
  go_wp2
  rw [← hw3.out]
  refine bodyPost_ret (results_cell_row rfl _ _ w.heap.size 26 _ (0, 0) _ rfl b0 Tryd.underlying26 rfl (by kernel_rfl)) rfl ?_
  exact ⟨_, _, rfl, hA, hO⟩
theorem one_len : (wrB oneM).length = 55 := by decide +kernel
theorem one_28 : (wrB oneM)[28]? = some 149 := by decide +kernel
theorem one_53 : (wrB oneM)[53]? = some 102 := by decide +kernel
theorem one_ck : (ckP oneM).2 = 0 := by decide +kernel
theorem awake17_any (w : World) : Calls Tryd.prog 7 #[] w fun e w' => e = .returned (.bool true) ∧ Out w w' := by
  have CO := hidOf (one17_any w)
  have CW : Hid (∀ wx t f, ImA wx (some ⟨t, 0, none⟩) (some ⟨f, 0, none⟩) none oneM → Calls Tryd.prog 15 #[.agg #[.slice (some ⟨t, 0, none⟩) 1 1, .slice (some ⟨f, 0, none⟩) 1 1, .slice none 0 0, .int .i64 0]] wx fun e w' => ∃ g off c, e = .returned (.tuple #[.slice (some ⟨g, off, none⟩) 55 c, .int .i64 0, .int .i64 0]) ∧ 55 ≤ c ∧ w'.cell? ⟨g, off + 28, none⟩ = some (.int .u8 149) ∧ w'.cell? ⟨g, off + 53, none⟩ = some (.int .u8 102) ∧ Out wx w') := hidOf (fun wx t f hA => by
    refine (write_any oneM wx (some ⟨t, 0, none⟩) (some ⟨f, 0, none⟩) none 1 1 0 hA (by decide) (fun x hx => by simp [oneM] at hx; subst hx; simp)).mono ?_
    rintro e w' (⟨_, a, c, rfl, ow, o⟩ | ⟨h, _⟩)
    · obtain ⟨a', c', he, hc, hr⟩ := ow.rest
      cases he
      rcases hr with h | ⟨b, off, hb, rfl, hcell⟩
      · exact absurd (congrArg List.length h) (by rw [one_len]; decide)
      · rw [one_len] at hc ⊢
        exact ⟨b, off, c, rfl, hc, hcell 28 149 one_28, hcell 53 102 one_53, o⟩
    · exact absurd one_ck h)
  go_enter Tryd.func7, Tryd.ntmps7
  go_upto_region 2 with (first
    | (go_at_call 16; refine CO.out.mono ?_; rintro e w1 ⟨t, f, rfl, hA, o1⟩; have HA := hidOf hA; have O1 := hidOf o1; clear hA o1)
    | (go_at_call 15; refine (CW.out _ _ _ HA.out).mono ?_; rintro e w2 ⟨g, off, c, rfl, hc, c28, c53, o2⟩; have O2 := hidOf (O1.out.trans o2); clear o2))
  have hci : (55 : Int) ≤ c := by omega
  go_wp2
  go_ret
  exact ⟨by simp, O2.out⟩
end Go.Proofs.YtfmcoffmgdcciaaDoor
