import Derived.Test.YtcjhgihpahnnoabGreatDoorGs
import Derived.Test.YtcjhgihpahnnoabGreatDoorHb
import Derived.WalkKit
import Derived.ProofKit
import Derived.OpenShut
import Derived.ChangeOld
import Derived.Deep.Slices
import Derived.ChangeSlices
namespace Go.Proofs.YtcjhgihpahnnoabGreatDoor
open Go.RowKit Go.ChangeShapes Go.WideShapes Go.ChangeAt
set_option linter.unusedVariables false
set_option linter.unusedSimpArgs false
theorem iface_flat {H : Type} {enc : TypeId × Value → H} {P : Program} {W : World} {base : Nat} {sp : Nat → Bool} {held : Bool} {fuel : Nat} {t : TypeId} {ms : Array Nat} {cs : List Value} {x : DataW H × List MemPlace} (ht : ∃ z, P.underlying t = some (.interface z)) (h : DataW.trod enc P W base sp held fuel t cs = some x) : cs = [.nilIface] ∨ ∃ u v, cs = [.iface u v] := by
  obtain ⟨z, ht⟩ := ht
  cases fuel with
  | zero => simp [DataW.trod] at h
  | succ n =>
    unfold DataW.trod at h
    rw [ht] at h
    split at h <;> simp_all
theorem cU8 : Tryz.prog.cellsOf 5 = 1 := by kernel_rfl
theorem cStr : Tryz.prog.cellsOf 9 = 1 := by kernel_rfl
theorem c2s : Tryz.prog.cellsOf 81 = 2 := by kernel_rfl
theorem c4s : Tryz.prog.cellsOf 92 = 4 := by kernel_rfl
theorem regs_of {W : World} {fuel : Nat} {enc : TypeId × Value → Unit} {sp : Nat → Bool} {held : Bool} {cs : List Value} {p : List MemPlace} (h : DataW.trod enc Tryz.prog W 0 sp held fuel 84 cs = some (Rows.laid_spindle_line_registers, p)) : cs = (List.range 11).map (fun k => .string ⟨(regL k).toArray⟩) :=
  (arr_flat Tryz.underlying84 cStr (by kernel_rfl) fS (str_flat Tryz.underlying9) h).trans (by rfl)
theorem reck_of {W : World} {fuel : Nat} {enc : TypeId × Value → Unit} {sp : Nat → Bool} {held : Bool} {cs : List Value} {p : List MemPlace} (h : DataW.trod enc Tryz.prog W 0 sp held fuel 91 cs = some (Rows.laid_spindle_line_reckonWords, p)) : cs = reckCs :=
  (arr_flat Tryz.underlying91 c2s (by kernel_rfl) (fA fS) (agg_flat Tryz.underlying81 cStr (by kernel_rfl) fS (str_flat Tryz.underlying9)) h).trans (by rfl)
theorem jump_of {W : World} {fuel : Nat} {enc : TypeId × Value → Unit} {sp : Nat → Bool} {held : Bool} {cs : List Value} {p : List MemPlace} (h : DataW.trod enc Tryz.prog W 0 sp held fuel 82 cs = some (Rows.laid_spindle_line_jumpWords, p)) : cs = jumpCs :=
  (arr_flat Tryz.underlying82 c2s (by kernel_rfl) (fA fS) (agg_flat Tryz.underlying81 cStr (by kernel_rfl) fS (str_flat Tryz.underlying9)) h).trans (by rfl)
theorem mem_of {W : World} {fuel : Nat} {enc : TypeId × Value → Unit} {sp : Nat → Bool} {held : Bool} {cs : List Value} {p : List MemPlace} (h : DataW.trod enc Tryz.prog W 0 sp held fuel 94 cs = some (Rows.laid_spindle_line_memoryWords, p)) : cs = memCs :=
  (arr_flat Tryz.underlying94 (c := 5) (by kernel_rfl) (by kernel_rfl) f2 (row2_flat Tryz.underlying93 ⟨rfl, rfl⟩ ⟨rfl, rfl⟩ Tryz.underlying5 Tryz.underlying92 Tryz.underlying9 cU8 c4s cStr (by kernel_rfl)) h).trans (by rfl)
theorem off_of {W : World} {fuel : Nat} {enc : TypeId × Value → Unit} {sp : Nat → Bool} {held : Bool} {cs : List Value} {p : List MemPlace} (h : DataW.trod enc Tryz.prog W 0 sp held fuel 96 cs = some (Rows.laid_spindle_line_offWords, p)) : cs = offCs :=
  (arr_flat Tryz.underlying96 (c := 3) (by kernel_rfl) (by kernel_rfl) f3 (row3_flat Tryz.underlying95 ⟨rfl, rfl⟩ ⟨rfl, rfl⟩ ⟨rfl, rfl⟩ Tryz.underlying5 Tryz.underlying5 Tryz.underlying9 cU8 cU8 cStr (by kernel_rfl)) h).trans (by rfl)
theorem imm_of {W : World} {fuel : Nat} {enc : TypeId × Value → Unit} {sp : Nat → Bool} {held : Bool} {cs : List Value} {p : List MemPlace} (h : DataW.trod enc Tryz.prog W 0 sp held fuel 98 cs = some (Rows.laid_spindle_line_immWords, p)) : cs = immCs :=
  (arr_flat Tryz.underlying98 (c := 3) (by kernel_rfl) (by kernel_rfl) f3 (row3_flat Tryz.underlying97 ⟨rfl, rfl⟩ ⟨rfl, rfl⟩ ⟨rfl, rfl⟩ Tryz.underlying5 Tryz.underlying5 Tryz.underlying9 cU8 cU8 cStr (by kernel_rfl)) h).trans (by rfl)
theorem pow_of {W : World} {fuel : Nat} {enc : TypeId × Value → Unit} {sp : Nat → Bool} {held : Bool} {cs : List Value} {p : List MemPlace} (h : DataW.trod enc Tryz.prog W 0 sp held fuel 168 cs = some (Rows.laid_internal_strconv_uint64pow10, p)) : cs = Lib.pow10Tab.map (fun z => Value.int .u64 z) :=
  (arr_flat (c := 1) Tryz.underlying168 (by kernel_rfl) (by kernel_rfl) fI (int_flat Tryz.underlying22) h).trans (by rfl)
/-- all that the calls lean on, off the listed variables -/
theorem env_of {W : World} (laid : List (String × DataW Unit)) (hp : (laid.all fun x => x.2.handleName?.isNone) = true) (h : laidMetH Tryz.prog laid W)
    (m1 : ("spindle/isa.atomicImms", Rows.laid_spindle_isa_atomicImms) ∈ laid) (m2 : ("spindle/isa.opcodes", Rows.laid_spindle_isa_opcodes) ∈ laid) (m3 : ("spindle/line.registers", Rows.laid_spindle_line_registers) ∈ laid)
    (m4 : ("spindle/line.reckonWords", Rows.laid_spindle_line_reckonWords) ∈ laid) (m5 : ("spindle/line.jumpWords", Rows.laid_spindle_line_jumpWords) ∈ laid) (m6 : ("spindle/line.memoryWords", Rows.laid_spindle_line_memoryWords) ∈ laid)
    (m7 : ("spindle/line.offWords", Rows.laid_spindle_line_offWords) ∈ laid) (m8 : ("spindle/line.immWords", Rows.laid_spindle_line_immWords) ∈ laid) (m9 : ("internal/strconv.uint64pow10", Rows.laid_internal_strconv_uint64pow10) ∈ laid) (m10 : ("strconv.ErrRange", Rows.laid_strconv_ErrRange) ∈ laid) : AEnv W := by
  rw [MakeChecks.laidMetH_plain _ _ _ hp] at h
  obtain ⟨ps, h, _, _⟩ := h
  have e3 : RegT W := by
    obtain ⟨g, t, cs, f, p, hg, ht, hv, hd⟩ := laid_at h m3
    obtain rfl := Option.some.inj ((show Tryz.prog.globalNamed "spindle/line.registers" = some 1 by kernel_rfl).symm.trans hg)
    obtain rfl := Option.some.inj ((show (Tryz.prog.globals[1]?).map (·.type) = some 84 by kernel_rfl).symm.trans ht)
    intro k hk
    have := range_of hg hv (regs_of hd) k _ (by rw [List.getElem?_map, List.getElem?_range hk]; rfl)
    rwa [Nat.zero_add] at this
  have e4 : ReckTb W := by
    obtain ⟨g, t, cs, f, p, hg, ht, hv, hd⟩ := laid_at h m4
    obtain rfl := Option.some.inj ((show Tryz.prog.globalNamed "spindle/line.reckonWords" = some 2 by kernel_rfl).symm.trans hg)
    obtain rfl := Option.some.inj ((show (Tryz.prog.globals[2]?).map (·.type) = some 91 by kernel_rfl).symm.trans ht)
    exact range_of hg hv (reck_of hd)
  have e5 : JumpTb W := by
    obtain ⟨g, t, cs, f, p, hg, ht, hv, hd⟩ := laid_at h m5
    obtain rfl := Option.some.inj ((show Tryz.prog.globalNamed "spindle/line.jumpWords" = some 0 by kernel_rfl).symm.trans hg)
    obtain rfl := Option.some.inj ((show (Tryz.prog.globals[0]?).map (·.type) = some 82 by kernel_rfl).symm.trans ht)
    exact range_of hg hv (jump_of hd)
  have e6 : MemTb W := by
    obtain ⟨g, t, cs, f, p, hg, ht, hv, hd⟩ := laid_at h m6
    obtain rfl := Option.some.inj ((show Tryz.prog.globalNamed "spindle/line.memoryWords" = some 3 by kernel_rfl).symm.trans hg)
    obtain rfl := Option.some.inj ((show (Tryz.prog.globals[3]?).map (·.type) = some 94 by kernel_rfl).symm.trans ht)
    exact range_of hg hv (mem_of hd)
  have e7 : OffTb W := by
    obtain ⟨g, t, cs, f, p, hg, ht, hv, hd⟩ := laid_at h m7
    obtain rfl := Option.some.inj ((show Tryz.prog.globalNamed "spindle/line.offWords" = some 4 by kernel_rfl).symm.trans hg)
    obtain rfl := Option.some.inj ((show (Tryz.prog.globals[4]?).map (·.type) = some 96 by kernel_rfl).symm.trans ht)
    exact range_of hg hv (off_of hd)
  have e8 : ImmTb W := by
    obtain ⟨g, t, cs, f, p, hg, ht, hv, hd⟩ := laid_at h m8
    obtain rfl := Option.some.inj ((show Tryz.prog.globalNamed "spindle/line.immWords" = some 5 by kernel_rfl).symm.trans hg)
    obtain rfl := Option.some.inj ((show (Tryz.prog.globals[5]?).map (·.type) = some 98 by kernel_rfl).symm.trans ht)
    exact range_of hg hv (imm_of hd)
  have e9 : Pow W := by
    obtain ⟨g, t, cs, f, p, hg, ht, hv, hd⟩ := laid_at h m9
    obtain rfl := Option.some.inj ((show Tryz.prog.globalNamed "internal/strconv.uint64pow10" = some 10 by kernel_rfl).symm.trans hg)
    obtain rfl := Option.some.inj ((show (Tryz.prog.globals[10]?).map (·.type) = some 168 by kernel_rfl).symm.trans ht)
    unfold Pow Lib.TabIs
    rw [hv, ← pow_of hd]
  have e10 : ErrR W := by
    obtain ⟨g, t, cs, f, p, hg, ht, hv, hd⟩ := laid_at h m10
    obtain rfl := Option.some.inj ((show Tryz.prog.globalNamed "strconv.ErrRange" = some 15 by kernel_rfl).symm.trans hg)
    obtain rfl := Option.some.inj ((show (Tryz.prog.globals[15]?).map (·.type) = some 54 by kernel_rfl).symm.trans ht)
    rcases iface_flat (ms := #[]) ⟨_, Tryz.underlying54⟩ hd with hc | ⟨u, v, hc⟩
    · exact ⟨_, by have := range_of hg hv hc 0 .nilIface rfl; rwa [Nat.zero_add] at this, .inl rfl⟩
    · exact ⟨_, by have := range_of hg hv hc 0 (.iface u v) rfl; rwa [Nat.zero_add] at this, .inr ⟨u, v, rfl⟩⟩
  have e1 : TabA W := by
    obtain ⟨g, t, cs, f, p, hg, ht, hv, hd⟩ := laid_at h m1
    obtain rfl := Option.some.inj (gImms.symm.trans hg)
    obtain rfl := Option.some.inj (tImms.symm.trans ht)
    rw [laidA_eq] at hd
    have hT : Lib.TabIs Tryz.prog W "spindle/isa.atomicImms" .u8 immsT := by
      unfold Lib.TabIs
      rw [hv, ← Lib.cells_of_tab Tryz.underlying143 Tryz.underlying5 cellsU8 cellsArr10 hd]
    exact fun k hk => hT.cell gImms k (by simpa [immsT] using hk)
  have e2 : TabO W := by
    obtain ⟨g, t, cs, f, p, hg, ht, hv, hd⟩ := laid_at h m2
    obtain rfl := Option.some.inj (gOps.symm.trans hg)
    obtain rfl := Option.some.inj (tOps.symm.trans ht)
    exact tabO_of hv hd
  exact ⟨⟨⟨e10, e3, e1, e2⟩, e4, e5, e6, e7, e8⟩, e9⟩
end Go.Proofs.YtcjhgihpahnnoabGreatDoor
namespace Go.Proofs.YtcjhgihpahnnoabGreatDoor
open Go.ChangeShapes Go.WideShapes Go.ChangeAt Go.RowKit
set_option linter.unusedVariables false
theorem cInsn : Tryz.prog.cellsOf 26 = 5 := by kernel_rfl
theorem cInt : Tryz.prog.cellsOf 3 = 1 := by kernel_rfl
theorem wfI64 {n : Int} (h : (Lit.int .i64 n).wf = true) : I64 n := by
  simp [Lit.wf, IntKind.min, IntKind.max, IntKind.bits, IntKind.signed] at h
  unfold I64
  omega
set_option maxRecDepth 100000 in
/-- an instruction that came in -/
theorem open_insn {H : Type} {enc : TypeId × Value → H} {W : World} {base b2 : Nat} {sp : Nat → Bool} {held : Bool} {v : Value} {d : DataW H} {p : List MemPlace} (hv : Value.okWide Tryz.prog W .any base 26 v) (h : DataW.Trod enc Tryz.prog W b2 sp held 26 v d p) :
    ∃ a0 a1 a2 a3 a4 : Int, v = .agg #[.int .i64 a0, .int .i64 a1, .int .i64 a2, .int .i64 a3, .int .i64 a4] ∧ I64 a0 ∧ I64 a1 ∧ I64 a2 ∧ I64 a3 ∧ I64 a4 := by
  obtain ⟨cs, rfl, hsz⟩ := okWide_struct Tryz.underlying26 hv
  rw [cInsn] at hsz
  obtain ⟨fuel, hf⟩ := h
  obtain ⟨xs, k, hk, hxy, _, hxl, hg⟩ := DataW.trod_struct Tryz.underlying26 hf
  obtain ⟨cl⟩ := cs
  match xs, hxl, cl, hsz with
  | [y0, y1, y2, y3, y4], _, [v0, v1, v2, v3, v4], _ =>
    have g0 := hg 0 _ rfl
    have g1 := hg 1 _ rfl
    have g2 := hg 2 _ rfl
    have g3 := hg 3 _ rfl
    have g4 := hg 4 _ rfl
    simp [cInt, Value.cells] at g0 g1 g2 g3 g4
    obtain ⟨a0, r0, _, z0⟩ := DataW.trod_int Tryz.underlying3 g0
    obtain ⟨a1, r1, _, z1⟩ := DataW.trod_int Tryz.underlying3 g1
    obtain ⟨a2, r2, _, z2⟩ := DataW.trod_int Tryz.underlying3 g2
    obtain ⟨a3, r3, _, z3⟩ := DataW.trod_int Tryz.underlying3 g3
    obtain ⟨a4, r4, _, z4⟩ := DataW.trod_int Tryz.underlying3 g4
    simp at r0 r1 r2 r3 r4
    subst r0 r1 r2 r3 r4
    exact ⟨a0, a1, a2, a3, a4, rfl, wfI64 z0, wfI64 z1, wfI64 z2, wfI64 z3, wfI64 z4⟩
theorem str_weight {H : Type} {P : Program} {t : TypeId} {l : List UInt8} (h : ((DataW.lit (.string (⟨l.toArray⟩ : ByteArray).data.toList) : DataW H).weights P t).all (fun x => decide (x ≤ reachBytes)) = true) : l.length ≤ 140737488355328 := by
  have h' : (decide (l.length ≤ reachBytes) && true) = true := h
  rw [Bool.and_true] at h'
  have h2 : l.length ≤ 140737488351232 := of_decide_eq_true h'
  omega
end Go.Proofs.YtcjhgihpahnnoabGreatDoor
namespace Go.Proofs.YtcjhgihpahnnoabGreatDoor
open Go.ChangeShapes Go.WideShapes Go.ChangeAt Go.RowKit Go.Deep
set_option linter.unusedVariables false
theorem byte_cells : Tryz.prog.cellsOf 5 = 1 := by kernel_rfl
theorem byte_bytes : Tryz.prog.bytesOf 5 = 1 := by kernel_rfl
theorem byte_wf {n : Int} (h : (Lit.int .u8 n).wf = true) : 0 ≤ n ∧ n < 256 := by
  simp [Lit.wf, IntKind.min, IntKind.max, IntKind.bits, IntKind.signed] at h; omega
/-- a byte that came in -/
theorem byte_of {n : Int} (h : 0 ≤ n ∧ n < 256) : ∃ c : UInt8, (c.toNat : Int) = n := by
  refine ⟨UInt8.ofNat n.toNat, ?_⟩
  have : n.toNat < 256 := by omega
  rw [UInt8.toNat_ofNat_of_lt' (by simpa [UInt8.size] using this)]
  omega
/-- bytes that came in -/
theorem open_gaps {H : Type} {enc : TypeId × Value → H} {w : World} {base : Nat} {spare : Nat → Bool} {held : Bool} {fuel : Nat} {a : Option Addr} {len cap : Nat} {x : DataW H × List MemPlace}
    (h : DataW.trod enc Tryz.prog w base spare held fuel 50 [.slice a len cap] = some x) :
    (∃ G : Nat → Int, ∀ k, k < len → ∃ b off, a = some ⟨b, off, none⟩ ∧ w.cell? ⟨b, off + k, none⟩ = some (.int .u8 (G k)) ∧ 0 ≤ G k ∧ G k < 256) ∧ ((x.1.weights Tryz.prog 50).all (· ≤ reachBytes) = true → len ≤ 140737488351232) := by
  rcases open_ints Tryz.underlying50 Tryz.underlying5 byte_cells h with ⟨hcs, rfl⟩ | ⟨ad, len', cap', zs, hcs, _, hl, hm, hz, rfl, hcell, hwz⟩
  · simp at hcs
    obtain ⟨rfl, rfl, rfl⟩ := hcs
    exact ⟨⟨fun _ => 0, fun k hk => absurd hk (by omega)⟩, fun _ => Nat.zero_le _⟩
  · simp at hcs
    obtain ⟨rfl, rfl, rfl⟩ := hcs
    have hlz : len ≤ zs.length := by rw [hz]; split <;> omega
    refine ⟨⟨fun k => zs.getD k 0, fun k hk => ?_⟩, ?_⟩
    · obtain ⟨b, off, spot⟩ := ad
      have hs : spot = none := by simpa [Addr.add] using World.cell?_spot (hcell 0 (by omega))
      subst hs
      have hk' : k < zs.length := by omega
      have e1 := hcell k hk'
      rw [add_plain] at e1
      have e2 : zs.getD k 0 = zs[k] := by simp [List.getD, List.getElem?_eq_getElem hk']
      have := byte_wf (hwz _ (List.getElem_mem hk'))
      rw [← e2] at this
      exact ⟨b, off, rfl, e1, this.1, this.2⟩
    · intro hw
      have e : (lits (H := H) .u8 (zs.take len)).length = len := by simp [lits]; omega
      simp only [DataW.weights, Tryz.underlying50, byte_bytes, List.all_cons, Bool.and_eq_true, e] at hw
      have h2 : (len + (lits (H := H) .u8 (zs.drop len)).length) * 1 ≤ 140737488351232 := of_decide_eq_true hw.1
      omega
end Go.Proofs.YtcjhgihpahnnoabGreatDoor
