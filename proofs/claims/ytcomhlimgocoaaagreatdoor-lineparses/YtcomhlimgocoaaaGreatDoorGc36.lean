import Derived.Test.YtcomhlimgocoaaaGreatDoorGc31
import Derived.Test.YtcomhlimgocoaaaGreatDoorGc35
namespace Go.Proofs.YtcomhlimgocoaaaGreatDoor
open Go.RowKit Go.ChangeShapes Go.WideShapes Go.ChangeAt
set_option linter.unusedVariables false
set_option linter.unusedSimpArgs false
theorem iface_flat {H : Type} {enc : TypeId × Value → H} {P : Program} {W : World} {base : Nat} {sp : Nat → Bool} {held : Bool} {fuel : Nat} {t : TypeId} {ms : Array Nat} {cs : List Value} {x : DataW H × List MemPlace} (ht : ∃ z, P.underlying t = some (.interface z)) (h : DataW.trod enc P W base sp held fuel t cs = some x) : cs = [.nilIface] ∨ ∃ u v, cs = [.iface u v] := by
  obtain ⟨z, ht⟩ := ht
  cases fuel with
  | zero => simp [DataW.trod] at h
  | succ n =>
    unfold DataW.trod at h
    rw [ht] at h
    split at h <;> simp_all
theorem cU8 : Tryz.prog.cellsOf 5 = 1 := by kernel_rfl
theorem cStr : Tryz.prog.cellsOf 9 = 1 := by kernel_rfl
theorem c2s : Tryz.prog.cellsOf 106 = 2 := by kernel_rfl
theorem c4s : Tryz.prog.cellsOf 134 = 4 := by kernel_rfl
theorem regs_of {W : World} {fuel : Nat} {enc : TypeId × Value → Unit} {sp : Nat → Bool} {held : Bool} {cs : List Value} {p : List MemPlace} (h : DataW.trod enc Tryz.prog W 0 sp held fuel 109 cs = some (Rows.laid_spindle_line_registers, p)) : cs = (List.range 11).map (fun k => .string ⟨(regL k).toArray⟩) :=
  (arr_flat Tryz.underlying109 cStr (by kernel_rfl) fS (str_flat Tryz.underlying9) h).trans (by rfl)
theorem reck_of {W : World} {fuel : Nat} {enc : TypeId × Value → Unit} {sp : Nat → Bool} {held : Bool} {cs : List Value} {p : List MemPlace} (h : DataW.trod enc Tryz.prog W 0 sp held fuel 133 cs = some (Rows.laid_spindle_line_reckonWords, p)) : cs = reckCs :=
  (arr_flat Tryz.underlying133 c2s (by kernel_rfl) (fA fS) (agg_flat Tryz.underlying106 cStr (by kernel_rfl) fS (str_flat Tryz.underlying9)) h).trans (by rfl)
theorem jump_of {W : World} {fuel : Nat} {enc : TypeId × Value → Unit} {sp : Nat → Bool} {held : Bool} {cs : List Value} {p : List MemPlace} (h : DataW.trod enc Tryz.prog W 0 sp held fuel 107 cs = some (Rows.laid_spindle_line_jumpWords, p)) : cs = jumpCs :=
  (arr_flat Tryz.underlying107 c2s (by kernel_rfl) (fA fS) (agg_flat Tryz.underlying106 cStr (by kernel_rfl) fS (str_flat Tryz.underlying9)) h).trans (by rfl)
theorem mem_of {W : World} {fuel : Nat} {enc : TypeId × Value → Unit} {sp : Nat → Bool} {held : Bool} {cs : List Value} {p : List MemPlace} (h : DataW.trod enc Tryz.prog W 0 sp held fuel 136 cs = some (Rows.laid_spindle_line_memoryWords, p)) : cs = memCs :=
  (arr_flat Tryz.underlying136 (c := 5) (by kernel_rfl) (by kernel_rfl) f2 (row2_flat Tryz.underlying135 ⟨rfl, rfl⟩ ⟨rfl, rfl⟩ Tryz.underlying5 Tryz.underlying134 Tryz.underlying9 cU8 c4s cStr (by kernel_rfl)) h).trans (by rfl)
theorem off_of {W : World} {fuel : Nat} {enc : TypeId × Value → Unit} {sp : Nat → Bool} {held : Bool} {cs : List Value} {p : List MemPlace} (h : DataW.trod enc Tryz.prog W 0 sp held fuel 142 cs = some (Rows.laid_spindle_line_offWords, p)) : cs = offCs :=
  (arr_flat Tryz.underlying142 (c := 3) (by kernel_rfl) (by kernel_rfl) f3 (row3_flat Tryz.underlying141 ⟨rfl, rfl⟩ ⟨rfl, rfl⟩ ⟨rfl, rfl⟩ Tryz.underlying5 Tryz.underlying5 Tryz.underlying9 cU8 cU8 cStr (by kernel_rfl)) h).trans (by rfl)
theorem imm_of {W : World} {fuel : Nat} {enc : TypeId × Value → Unit} {sp : Nat → Bool} {held : Bool} {cs : List Value} {p : List MemPlace} (h : DataW.trod enc Tryz.prog W 0 sp held fuel 144 cs = some (Rows.laid_spindle_line_immWords, p)) : cs = immCs :=
  (arr_flat Tryz.underlying144 (c := 3) (by kernel_rfl) (by kernel_rfl) f3 (row3_flat Tryz.underlying143 ⟨rfl, rfl⟩ ⟨rfl, rfl⟩ ⟨rfl, rfl⟩ Tryz.underlying5 Tryz.underlying5 Tryz.underlying9 cU8 cU8 cStr (by kernel_rfl)) h).trans (by rfl)
theorem pow_of {W : World} {fuel : Nat} {enc : TypeId × Value → Unit} {sp : Nat → Bool} {held : Bool} {cs : List Value} {p : List MemPlace} (h : DataW.trod enc Tryz.prog W 0 sp held fuel 205 cs = some (Rows.laid_internal_strconv_uint64pow10, p)) : cs = Lib.pow10Tab.map (fun z => Value.int .u64 z) :=
  (arr_flat (c := 1) Tryz.underlying205 (by kernel_rfl) (by kernel_rfl) fI (int_flat Tryz.underlying113) h).trans (by rfl)
/-- all that the calls lean on, off the listed variables -/
theorem env_of {W : World} (laid : List (String × DataW Unit)) (hp : (laid.all fun x => x.2.handleName?.isNone) = true) (h : laidMetH Tryz.prog laid W)
    (m1 : ("spindle/isa.atomicImms", Rows.laid_spindle_isa_atomicImms) ∈ laid) (m2 : ("spindle/isa.opcodes", Rows.laid_spindle_isa_opcodes) ∈ laid) (m3 : ("spindle/line.registers", Rows.laid_spindle_line_registers) ∈ laid)
    (m4 : ("spindle/line.reckonWords", Rows.laid_spindle_line_reckonWords) ∈ laid) (m5 : ("spindle/line.jumpWords", Rows.laid_spindle_line_jumpWords) ∈ laid) (m6 : ("spindle/line.memoryWords", Rows.laid_spindle_line_memoryWords) ∈ laid)
    (m7 : ("spindle/line.offWords", Rows.laid_spindle_line_offWords) ∈ laid) (m8 : ("spindle/line.immWords", Rows.laid_spindle_line_immWords) ∈ laid) (m9 : ("internal/strconv.uint64pow10", Rows.laid_internal_strconv_uint64pow10) ∈ laid) (m10 : ("strconv.ErrRange", Rows.laid_strconv_ErrRange) ∈ laid) : AEnv W := by
  rw [MakeChecks.laidMetH_plain _ _ _ hp] at h
  obtain ⟨ps, h, _, _⟩ := h
  have e3 : RegT W := by
    obtain ⟨g, t, cs, f, p, hg, ht, hv, hd⟩ := laid_at h m3
    obtain rfl := Option.some.inj ((show Tryz.prog.globalNamed "spindle/line.registers" = some 1 by kernel_rfl).symm.trans hg)
    obtain rfl := Option.some.inj ((show (Tryz.prog.globals[1]?).map (·.type) = some 109 by kernel_rfl).symm.trans ht)
    intro k hk
    have := range_of hg hv (regs_of hd) k _ (by rw [List.getElem?_map, List.getElem?_range hk]; rfl)
    rwa [Nat.zero_add] at this
  have e4 : ReckTb W := by
    obtain ⟨g, t, cs, f, p, hg, ht, hv, hd⟩ := laid_at h m4
    obtain rfl := Option.some.inj ((show Tryz.prog.globalNamed "spindle/line.reckonWords" = some 2 by kernel_rfl).symm.trans hg)
    obtain rfl := Option.some.inj ((show (Tryz.prog.globals[2]?).map (·.type) = some 133 by kernel_rfl).symm.trans ht)
    exact range_of hg hv (reck_of hd)
  have e5 : JumpTb W := by
    obtain ⟨g, t, cs, f, p, hg, ht, hv, hd⟩ := laid_at h m5
    obtain rfl := Option.some.inj ((show Tryz.prog.globalNamed "spindle/line.jumpWords" = some 0 by kernel_rfl).symm.trans hg)
    obtain rfl := Option.some.inj ((show (Tryz.prog.globals[0]?).map (·.type) = some 107 by kernel_rfl).symm.trans ht)
    exact range_of hg hv (jump_of hd)
  have e6 : MemTb W := by
    obtain ⟨g, t, cs, f, p, hg, ht, hv, hd⟩ := laid_at h m6
    obtain rfl := Option.some.inj ((show Tryz.prog.globalNamed "spindle/line.memoryWords" = some 3 by kernel_rfl).symm.trans hg)
    obtain rfl := Option.some.inj ((show (Tryz.prog.globals[3]?).map (·.type) = some 136 by kernel_rfl).symm.trans ht)
    exact range_of hg hv (mem_of hd)
  have e7 : OffTb W := by
    obtain ⟨g, t, cs, f, p, hg, ht, hv, hd⟩ := laid_at h m7
    obtain rfl := Option.some.inj ((show Tryz.prog.globalNamed "spindle/line.offWords" = some 4 by kernel_rfl).symm.trans hg)
    obtain rfl := Option.some.inj ((show (Tryz.prog.globals[4]?).map (·.type) = some 142 by kernel_rfl).symm.trans ht)
    exact range_of hg hv (off_of hd)
  have e8 : ImmTb W := by
    obtain ⟨g, t, cs, f, p, hg, ht, hv, hd⟩ := laid_at h m8
    obtain rfl := Option.some.inj ((show Tryz.prog.globalNamed "spindle/line.immWords" = some 5 by kernel_rfl).symm.trans hg)
    obtain rfl := Option.some.inj ((show (Tryz.prog.globals[5]?).map (·.type) = some 144 by kernel_rfl).symm.trans ht)
    exact range_of hg hv (imm_of hd)
  have e9 : Pow W := by
    obtain ⟨g, t, cs, f, p, hg, ht, hv, hd⟩ := laid_at h m9
    obtain rfl := Option.some.inj ((show Tryz.prog.globalNamed "internal/strconv.uint64pow10" = some 8 by kernel_rfl).symm.trans hg)
    obtain rfl := Option.some.inj ((show (Tryz.prog.globals[8]?).map (·.type) = some 205 by kernel_rfl).symm.trans ht)
    unfold Pow Lib.TabIs
    rw [hv, ← pow_of hd]
  have e10 : ErrR W := by
    obtain ⟨g, t, cs, f, p, hg, ht, hv, hd⟩ := laid_at h m10
    obtain rfl := Option.some.inj ((show Tryz.prog.globalNamed "strconv.ErrRange" = some 15 by kernel_rfl).symm.trans hg)
    obtain rfl := Option.some.inj ((show (Tryz.prog.globals[15]?).map (·.type) = some 57 by kernel_rfl).symm.trans ht)
    rcases iface_flat (ms := #[]) ⟨_, Tryz.underlying57⟩ hd with hc | ⟨u, v, hc⟩
    · exact ⟨_, by have := range_of hg hv hc 0 .nilIface rfl; rwa [Nat.zero_add] at this, .inl rfl⟩
    · exact ⟨_, by have := range_of hg hv hc 0 (.iface u v) rfl; rwa [Nat.zero_add] at this, .inr ⟨u, v, rfl⟩⟩
  have e1 : TabA W := by
    obtain ⟨g, t, cs, f, p, hg, ht, hv, hd⟩ := laid_at h m1
    obtain rfl := Option.some.inj (gImms.symm.trans hg)
    obtain rfl := Option.some.inj (tImms.symm.trans ht)
    rw [laidA_eq] at hd
    have hT : Lib.TabIs Tryz.prog W "spindle/isa.atomicImms" .u8 immsT := by
      unfold Lib.TabIs
      rw [hv, ← Lib.cells_of_tab Tryz.underlying190 Tryz.underlying5 cellsU8 cellsArr10 hd]
    exact fun k hk => hT.cell gImms k (by simpa [immsT] using hk)
  have e2 : TabO W := by
    obtain ⟨g, t, cs, f, p, hg, ht, hv, hd⟩ := laid_at h m2
    obtain rfl := Option.some.inj (gOps.symm.trans hg)
    obtain rfl := Option.some.inj (tOps.symm.trans ht)
    exact tabO_of hv hd
  exact ⟨⟨⟨e10, e3, e1, e2⟩, e4, e5, e6, e7, e8⟩, e9⟩
end Go.Proofs.YtcomhlimgocoaaaGreatDoor
