import Derived.Test.YtkihaohdcgjioaaGreatDoorGr36
import Derived.Test.YtkihaohdcgjioaaGreatDoorGr32
namespace Go.Proofs.YtkihaohdcgjioaaGreatDoor.Lx
open Go.RowKit
set_option linter.unusedVariables false
set_option linter.unusedSimpArgs false
def isPiece (x : Tk) : Prop := x.k = 1 ∨ x.k = 2 ∨ x.k = 4 ∨ x.k = 3
theorem piece_kind (c : UInt8) (r : List UInt8) (q : Int × List UInt8 × Int) (h : (pieceP (c :: r)).2.1 = some q) : q.1 = 1 ∨ q.1 = 2 ∨ q.1 = 3 ∨ q.1 = 4 := by
  rw [piece_cons] at h
  by_cases k1 : kindP (bI c) = 1
  · rw [if_pos k1] at h; simp at h
  rw [if_neg k1] at h
  by_cases k2 : kindP (bI c) = 2
  · rw [if_pos k2] at h; simp at h
  rw [if_neg k2] at h
  by_cases k3 : kindP (bI c) = 3
  · rw [if_pos k3] at h; simp at h; rw [← h]; exact .inl rfl
  rw [if_neg k3] at h
  by_cases k5 : kindP (bI c) = 5
  · rw [if_pos k5] at h; simp at h; rw [← h]; exact .inr (.inl rfl)
  rw [if_neg k5] at h
  by_cases k4 : kindP (bI c) = 4
  · rw [if_pos k4] at h; simp at h; rw [← h]; exact .inr (.inr (.inl rfl))
  rw [if_neg k4] at h
  by_cases k7 : kindP (bI c) = 7
  · rw [if_pos k7] at h; simp at h; rw [← h]; exact .inr (.inr (.inr rfl))
  rw [if_neg k7] at h; simp at h
theorem scan_kind : ∀ (f : Nat) (l : List UInt8) (q : Int × List UInt8 × Int), q ∈ (scanF f l).2 → q.1 = 1 ∨ q.1 = 2 ∨ q.1 = 3 ∨ q.1 = 4
  | 0, _, q, h => by simp [scanF] at h
  | _ + 1, [], q, h => by simp [scanF] at h
  | f + 1, c :: r, q, h => by
    unfold scanF at h
    split at h
    · simp only [List.mem_append, Option.mem_toList] at h
      rcases h with h | h
      · exact piece_kind c r q h
      · exact scan_kind f _ q h
    · simp at h
theorem line_kind (l : List UInt8) (q : Int × List UInt8 × Int) (h : q ∈ (lineP l).2) : q.1 = 1 ∨ q.1 = 2 ∨ q.1 = 3 ∨ q.1 = 4 := by
  unfold lineP at h
  split at h
  · exact scan_kind _ _ _ h
  · simp at h
theorem tokens_len (l : List UInt8) : (tokensP l).1.length ≤ 33554433 := by
  unfold tokensP
  split
  · split
    · have := textF_len l.length 0 l
      show ((textF l.length 0 l).2.2 ++ _).length ≤ _
      rw [List.length_append]; simp; omega
    · simp
  · simp
end Go.Proofs.YtkihaohdcgjioaaGreatDoor.Lx
namespace Go.Proofs.YtkihaohdcgjioaaGreatDoor
open Go.RowKit Go.ChangeShapes Go.WideShapes Go.ChangeAt
set_option linter.unusedVariables false
set_option linter.unusedSimpArgs false
theorem iface_flat {H : Type} {enc : TypeId × Value → H} {P : Program} {W : World} {base : Nat} {sp : Nat → Bool} {held : Bool} {fuel : Nat} {t : TypeId} {ms : Array Nat} {cs : List Value} {x : DataW H × List MemPlace} (ht : ∃ z, P.underlying t = some (.interface z)) (h : DataW.trod enc P W base sp held fuel t cs = some x) : cs = [.nilIface] ∨ ∃ u v, cs = [.iface u v] := by
  obtain ⟨z, ht⟩ := ht
  cases fuel with
  | zero => simp [DataW.trod] at h
  | succ n =>
    unfold DataW.trod at h
    rw [ht] at h
    split at h <;> simp_all
theorem cU8 : Tryz.prog.cellsOf 5 = 1 := by kernel_rfl
theorem cStr : Tryz.prog.cellsOf 9 = 1 := by kernel_rfl
theorem c2s : Tryz.prog.cellsOf 172 = 2 := by kernel_rfl
theorem c4s : Tryz.prog.cellsOf 207 = 4 := by kernel_rfl
theorem regs_of {W : World} {fuel : Nat} {enc : TypeId × Value → Unit} {sp : Nat → Bool} {held : Bool} {cs : List Value} {p : List MemPlace} (h : DataW.trod enc Tryz.prog W 0 sp held fuel 175 cs = some (Rows.laid_spindle_line_registers, p)) : cs = (List.range 11).map (fun k => .string ⟨(regL k).toArray⟩) :=
  (arr_flat Tryz.underlying175 cStr (by kernel_rfl) fS (str_flat Tryz.underlying9) h).trans (by rfl)
theorem reck_of {W : World} {fuel : Nat} {enc : TypeId × Value → Unit} {sp : Nat → Bool} {held : Bool} {cs : List Value} {p : List MemPlace} (h : DataW.trod enc Tryz.prog W 0 sp held fuel 206 cs = some (Rows.laid_spindle_line_reckonWords, p)) : cs = reckCs :=
  (arr_flat Tryz.underlying206 c2s (by kernel_rfl) (fA fS) (agg_flat Tryz.underlying172 cStr (by kernel_rfl) fS (str_flat Tryz.underlying9)) h).trans (by rfl)
theorem jump_of {W : World} {fuel : Nat} {enc : TypeId × Value → Unit} {sp : Nat → Bool} {held : Bool} {cs : List Value} {p : List MemPlace} (h : DataW.trod enc Tryz.prog W 0 sp held fuel 173 cs = some (Rows.laid_spindle_line_jumpWords, p)) : cs = jumpCs :=
  (arr_flat Tryz.underlying173 c2s (by kernel_rfl) (fA fS) (agg_flat Tryz.underlying172 cStr (by kernel_rfl) fS (str_flat Tryz.underlying9)) h).trans (by rfl)
theorem mem_of {W : World} {fuel : Nat} {enc : TypeId × Value → Unit} {sp : Nat → Bool} {held : Bool} {cs : List Value} {p : List MemPlace} (h : DataW.trod enc Tryz.prog W 0 sp held fuel 209 cs = some (Rows.laid_spindle_line_memoryWords, p)) : cs = memCs :=
  (arr_flat Tryz.underlying209 (c := 5) (by kernel_rfl) (by kernel_rfl) f2 (row2_flat Tryz.underlying208 ⟨rfl, rfl⟩ ⟨rfl, rfl⟩ Tryz.underlying5 Tryz.underlying207 Tryz.underlying9 cU8 c4s cStr (by kernel_rfl)) h).trans (by rfl)
theorem off_of {W : World} {fuel : Nat} {enc : TypeId × Value → Unit} {sp : Nat → Bool} {held : Bool} {cs : List Value} {p : List MemPlace} (h : DataW.trod enc Tryz.prog W 0 sp held fuel 243 cs = some (Rows.laid_spindle_line_offWords, p)) : cs = offCs :=
  (arr_flat Tryz.underlying243 (c := 3) (by kernel_rfl) (by kernel_rfl) f3 (row3_flat Tryz.underlying242 ⟨rfl, rfl⟩ ⟨rfl, rfl⟩ ⟨rfl, rfl⟩ Tryz.underlying5 Tryz.underlying5 Tryz.underlying9 cU8 cU8 cStr (by kernel_rfl)) h).trans (by rfl)
theorem imm_of {W : World} {fuel : Nat} {enc : TypeId × Value → Unit} {sp : Nat → Bool} {held : Bool} {cs : List Value} {p : List MemPlace} (h : DataW.trod enc Tryz.prog W 0 sp held fuel 245 cs = some (Rows.laid_spindle_line_immWords, p)) : cs = immCs :=
  (arr_flat Tryz.underlying245 (c := 3) (by kernel_rfl) (by kernel_rfl) f3 (row3_flat Tryz.underlying244 ⟨rfl, rfl⟩ ⟨rfl, rfl⟩ ⟨rfl, rfl⟩ Tryz.underlying5 Tryz.underlying5 Tryz.underlying9 cU8 cU8 cStr (by kernel_rfl)) h).trans (by rfl)
theorem pow_of {W : World} {fuel : Nat} {enc : TypeId × Value → Unit} {sp : Nat → Bool} {held : Bool} {cs : List Value} {p : List MemPlace} (h : DataW.trod enc Tryz.prog W 0 sp held fuel 259 cs = some (Rows.laid_internal_strconv_uint64pow10, p)) : cs = Lib.pow10Tab.map (fun z => Value.int .u64 z) :=
  (arr_flat (c := 1) Tryz.underlying259 (by kernel_rfl) (by kernel_rfl) fI (int_flat Tryz.underlying115) h).trans (by rfl)
theorem env_of {W : World} (laid : List (String × DataW Unit)) (hp : (laid.all fun x => x.2.handleName?.isNone) = true) (h : laidMetH Tryz.prog laid W)
    (m1 : ("spindle/isa.atomicImms", Rows.laid_spindle_isa_atomicImms) ∈ laid) (m2 : ("spindle/isa.opcodes", Rows.laid_spindle_isa_opcodes) ∈ laid) (m3 : ("spindle/line.registers", Rows.laid_spindle_line_registers) ∈ laid)
    (m4 : ("spindle/line.reckonWords", Rows.laid_spindle_line_reckonWords) ∈ laid) (m5 : ("spindle/line.jumpWords", Rows.laid_spindle_line_jumpWords) ∈ laid) (m6 : ("spindle/line.memoryWords", Rows.laid_spindle_line_memoryWords) ∈ laid)
    (m7 : ("spindle/line.offWords", Rows.laid_spindle_line_offWords) ∈ laid) (m8 : ("spindle/line.immWords", Rows.laid_spindle_line_immWords) ∈ laid) (m9 : ("internal/strconv.uint64pow10", Rows.laid_internal_strconv_uint64pow10) ∈ laid) (m10 : ("strconv.ErrRange", Rows.laid_strconv_ErrRange) ∈ laid) : AEnv W := by
  rw [MakeChecks.laidMetH_plain _ _ _ hp] at h
  obtain ⟨ps, h, _, _⟩ := h
  have e3 : RegT W := by
    obtain ⟨g, t, cs, f, p, hg, ht, hv, hd⟩ := laid_at h m3
    obtain rfl := Option.some.inj ((show Tryz.prog.globalNamed "spindle/line.registers" = some 1 by kernel_rfl).symm.trans hg)
    obtain rfl := Option.some.inj ((show (Tryz.prog.globals[1]?).map (·.type) = some 175 by kernel_rfl).symm.trans ht)
    intro k hk
    have := range_of hg hv (regs_of hd) k _ (by rw [List.getElem?_map, List.getElem?_range hk]; rfl)
    rwa [Nat.zero_add] at this
  have e4 : ReckTb W := by
    obtain ⟨g, t, cs, f, p, hg, ht, hv, hd⟩ := laid_at h m4
    obtain rfl := Option.some.inj ((show Tryz.prog.globalNamed "spindle/line.reckonWords" = some 3 by kernel_rfl).symm.trans hg)
    obtain rfl := Option.some.inj ((show (Tryz.prog.globals[3]?).map (·.type) = some 206 by kernel_rfl).symm.trans ht)
    exact range_of hg hv (reck_of hd)
  have e5 : JumpTb W := by
    obtain ⟨g, t, cs, f, p, hg, ht, hv, hd⟩ := laid_at h m5
    obtain rfl := Option.some.inj ((show Tryz.prog.globalNamed "spindle/line.jumpWords" = some 0 by kernel_rfl).symm.trans hg)
    obtain rfl := Option.some.inj ((show (Tryz.prog.globals[0]?).map (·.type) = some 173 by kernel_rfl).symm.trans ht)
    exact range_of hg hv (jump_of hd)
  have e6 : MemTb W := by
    obtain ⟨g, t, cs, f, p, hg, ht, hv, hd⟩ := laid_at h m6
    obtain rfl := Option.some.inj ((show Tryz.prog.globalNamed "spindle/line.memoryWords" = some 4 by kernel_rfl).symm.trans hg)
    obtain rfl := Option.some.inj ((show (Tryz.prog.globals[4]?).map (·.type) = some 209 by kernel_rfl).symm.trans ht)
    exact range_of hg hv (mem_of hd)
  have e7 : OffTb W := by
    obtain ⟨g, t, cs, f, p, hg, ht, hv, hd⟩ := laid_at h m7
    obtain rfl := Option.some.inj ((show Tryz.prog.globalNamed "spindle/line.offWords" = some 6 by kernel_rfl).symm.trans hg)
    obtain rfl := Option.some.inj ((show (Tryz.prog.globals[6]?).map (·.type) = some 243 by kernel_rfl).symm.trans ht)
    exact range_of hg hv (off_of hd)
  have e8 : ImmTb W := by
    obtain ⟨g, t, cs, f, p, hg, ht, hv, hd⟩ := laid_at h m8
    obtain rfl := Option.some.inj ((show Tryz.prog.globalNamed "spindle/line.immWords" = some 7 by kernel_rfl).symm.trans hg)
    obtain rfl := Option.some.inj ((show (Tryz.prog.globals[7]?).map (·.type) = some 245 by kernel_rfl).symm.trans ht)
    exact range_of hg hv (imm_of hd)
  have e9 : Pow W := by
    obtain ⟨g, t, cs, f, p, hg, ht, hv, hd⟩ := laid_at h m9
    obtain rfl := Option.some.inj ((show Tryz.prog.globalNamed "internal/strconv.uint64pow10" = some 8 by kernel_rfl).symm.trans hg)
    obtain rfl := Option.some.inj ((show (Tryz.prog.globals[8]?).map (·.type) = some 259 by kernel_rfl).symm.trans ht)
    unfold Pow Lib.TabIs
    rw [hv, ← pow_of hd]
  have e10 : ErrR W := by
    obtain ⟨g, t, cs, f, p, hg, ht, hv, hd⟩ := laid_at h m10
    obtain rfl := Option.some.inj ((show Tryz.prog.globalNamed "strconv.ErrRange" = some 13 by kernel_rfl).symm.trans hg)
    obtain rfl := Option.some.inj ((show (Tryz.prog.globals[13]?).map (·.type) = some 104 by kernel_rfl).symm.trans ht)
    rcases iface_flat (ms := #[]) ⟨_, Tryz.underlying104⟩ hd with hc | ⟨u, v, hc⟩
    · exact ⟨_, by have := range_of hg hv hc 0 .nilIface rfl; rwa [Nat.zero_add] at this, .inl rfl⟩
    · exact ⟨_, by have := range_of hg hv hc 0 (.iface u v) rfl; rwa [Nat.zero_add] at this, .inr ⟨u, v, rfl⟩⟩
  have e1 : TabA W := by
    obtain ⟨g, t, cs, f, p, hg, ht, hv, hd⟩ := laid_at h m1
    obtain rfl := Option.some.inj (gImms.symm.trans hg)
    obtain rfl := Option.some.inj (tImms.symm.trans ht)
    rw [laidA_eq] at hd
    have hT : Lib.TabIs Tryz.prog W "spindle/isa.atomicImms" .u8 immsT := by
      unfold Lib.TabIs
      rw [hv, ← Lib.cells_of_tab Tryz.underlying274 Tryz.underlying5 cellsU8 cellsArr10 hd]
    exact fun k hk => hT.cell gImms k (by simpa [immsT] using hk)
  have e2 : TabO W := by
    obtain ⟨g, t, cs, f, p, hg, ht, hv, hd⟩ := laid_at h m2
    obtain rfl := Option.some.inj (gOps.symm.trans hg)
    obtain rfl := Option.some.inj (tOps.symm.trans ht)
    exact tabO_of hv hd
  exact ⟨⟨⟨e10, e3, e1, e2⟩, e4, e5, e6, e7, e8⟩, e9⟩
end Go.Proofs.YtkihaohdcgjioaaGreatDoor
