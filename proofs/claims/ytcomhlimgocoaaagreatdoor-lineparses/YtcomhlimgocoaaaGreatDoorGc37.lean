import Derived.Test.YtcomhlimgocoaaaGreatDoorGc36
import Derived.WalkKit
import Derived.ProofKit
import Derived.OpenShut
import Derived.ChangeOld
import Derived.Test.YtcomhlimgocoaaaGreatDoorGc00
import Derived.Test.YtcomhlimgocoaaaGreatDoorGc05
import Derived.Test.YtcomhlimgocoaaaGreatDoorGc07
import Derived.Deep.AppendLies
import Derived.Deep.RegionLaw
import Derived.Deep.RegionHeld3
import Derived.OwnWalk
namespace Go.Proofs.YtcomhlimgocoaaaGreatDoor
open Go.ChangeShapes Go.WideShapes Go.ChangeAt Go.RowKit
set_option linter.unusedVariables false
theorem cInsn : Tryz.prog.cellsOf 25 = 5 := by kernel_rfl
theorem cInt : Tryz.prog.cellsOf 3 = 1 := by kernel_rfl
theorem wfI64 {n : Int} (h : (Lit.int .i64 n).wf = true) : I64 n := by
  simp [Lit.wf, IntKind.min, IntKind.max, IntKind.bits, IntKind.signed] at h
  unfold I64
  omega
set_option maxRecDepth 100000 in
/-- an instruction that came in -/
theorem open_insn {H : Type} {enc : TypeId × Value → H} {W : World} {base b2 : Nat} {sp : Nat → Bool} {held : Bool} {v : Value} {d : DataW H} {p : List MemPlace} (hv : Value.okWide Tryz.prog W .any base 25 v) (h : DataW.Trod enc Tryz.prog W b2 sp held 25 v d p) :
    ∃ a0 a1 a2 a3 a4 : Int, v = .agg #[.int .i64 a0, .int .i64 a1, .int .i64 a2, .int .i64 a3, .int .i64 a4] ∧ I64 a0 ∧ I64 a1 ∧ I64 a2 ∧ I64 a3 ∧ I64 a4 := by
  obtain ⟨cs, rfl, hsz⟩ := okWide_struct Tryz.underlying25 hv
  rw [cInsn] at hsz
  obtain ⟨fuel, hf⟩ := h
  obtain ⟨xs, k, hk, hxy, _, hxl, hg⟩ := DataW.trod_struct Tryz.underlying25 hf
  obtain ⟨cl⟩ := cs
  match xs, hxl, cl, hsz with
  | [y0, y1, y2, y3, y4], _, [v0, v1, v2, v3, v4], _ =>
    have g0 := hg 0 _ rfl
    have g1 := hg 1 _ rfl
    have g2 := hg 2 _ rfl
    have g3 := hg 3 _ rfl
    have g4 := hg 4 _ rfl
    simp [cInt, Value.cells] at g0 g1 g2 g3 g4
    obtain ⟨a0, r0, _, z0⟩ := DataW.trod_int Tryz.underlying3 g0
    obtain ⟨a1, r1, _, z1⟩ := DataW.trod_int Tryz.underlying3 g1
    obtain ⟨a2, r2, _, z2⟩ := DataW.trod_int Tryz.underlying3 g2
    obtain ⟨a3, r3, _, z3⟩ := DataW.trod_int Tryz.underlying3 g3
    obtain ⟨a4, r4, _, z4⟩ := DataW.trod_int Tryz.underlying3 g4
    simp at r0 r1 r2 r3 r4
    subst r0 r1 r2 r3 r4
    exact ⟨a0, a1, a2, a3, a4, rfl, wfI64 z0, wfI64 z1, wfI64 z2, wfI64 z3, wfI64 z4⟩
theorem str_weight {H : Type} {P : Program} {t : TypeId} {l : List UInt8} (h : ((DataW.lit (.string (⟨l.toArray⟩ : ByteArray).data.toList) : DataW H).weights P t).all (fun x => decide (x ≤ reachBytes)) = true) : l.length ≤ 140737488355328 := by
  have h' : (decide (l.length ≤ reachBytes) && true) = true := h
  rw [Bool.and_true] at h'
  have h2 : l.length ≤ 140737488351232 := of_decide_eq_true h'
  omega
end Go.Proofs.YtcomhlimgocoaaaGreatDoor
namespace Go.Proofs.YtcomhlimgocoaaaGreatDoor
open Go.RowKit
set_option linter.unusedVariables false
set_option linter.unusedSimpArgs false
/-- a row of the document's table -/
structure Rw where
  w : List UInt8
  sh : Int
  op : Int
  off : Int
  imm : Int
deriving instance DecidableEq for Rw
def rwA : List Rw := [⟨[97, 100, 100], 1, 7, 0, 0⟩, ⟨[97, 100, 100, 51, 50], 1, 4, 0, 0⟩, ⟨[115, 117, 98], 1, 23, 0, 0⟩, ⟨[115, 117, 98, 51, 50], 1, 20, 0, 0⟩, ⟨[109, 117, 108], 1, 39, 0, 0⟩, ⟨[109, 117, 108, 51, 50], 1, 36, 0, 0⟩, ⟨[100, 105, 118], 1, 55, 0, 0⟩, ⟨[100, 105, 118, 51, 50], 1, 52, 0, 0⟩, ⟨[111, 114], 1, 71, 0, 0⟩, ⟨[111, 114, 51, 50], 1, 68, 0, 0⟩, ⟨[97, 110, 100], 1, 87, 0, 0⟩, ⟨[97, 110, 100, 51, 50], 1, 84, 0, 0⟩, ⟨[108, 115, 104], 1, 103, 0, 0⟩, ⟨[108, 115, 104, 51, 50], 1, 100, 0, 0⟩, ⟨[114, 115, 104], 1, 119, 0, 0⟩, ⟨[114, 115, 104, 51, 50], 1, 116, 0, 0⟩, ⟨[109, 111, 100], 1, 151, 0, 0⟩, ⟨[109, 111, 100, 51, 50], 1, 148, 0, 0⟩, ⟨[120, 111, 114], 1, 167, 0, 0⟩, ⟨[120, 111, 114, 51, 50], 1, 164, 0, 0⟩, ⟨[109, 111, 118], 1, 183, 0, 0⟩, ⟨[109, 111, 118, 51, 50], 1, 180, 0, 0⟩, ⟨[97, 114, 115, 104], 1, 199, 0, 0⟩, ⟨[97, 114, 115, 104, 51, 50], 1, 196, 0, 0⟩]
def rwB : List Rw := [⟨[115, 100, 105, 118], 1, 55, 1, 0⟩, ⟨[115, 100, 105, 118, 51, 50], 1, 52, 1, 0⟩, ⟨[115, 109, 111, 100], 1, 151, 1, 0⟩, ⟨[115, 109, 111, 100, 51, 50], 1, 148, 1, 0⟩, ⟨[110, 101, 103], 3, 135, 0, 0⟩, ⟨[110, 101, 103, 51, 50], 3, 132, 0, 0⟩, ⟨[109, 111, 118, 115, 56], 2, 191, 8, 0⟩, ⟨[109, 111, 118, 115, 49, 54], 2, 191, 16, 0⟩, ⟨[109, 111, 118, 115, 51, 50], 2, 191, 32, 0⟩, ⟨[109, 111, 118, 115, 56, 119], 2, 188, 8, 0⟩, ⟨[109, 111, 118, 115, 49, 54, 119], 2, 188, 16, 0⟩]
def rwC : List Rw := [⟨[108, 101, 49, 54], 3, 212, 0, 16⟩, ⟨[108, 101, 51, 50], 3, 212, 0, 32⟩, ⟨[108, 101, 54, 52], 3, 212, 0, 64⟩, ⟨[98, 101, 49, 54], 3, 220, 0, 16⟩, ⟨[98, 101, 51, 50], 3, 220, 0, 32⟩, ⟨[98, 101, 54, 52], 3, 220, 0, 64⟩, ⟨[115, 119, 97, 112, 49, 54], 3, 215, 0, 16⟩, ⟨[115, 119, 97, 112, 51, 50], 3, 215, 0, 32⟩, ⟨[115, 119, 97, 112, 54, 52], 3, 215, 0, 64⟩]
def rwD : List Rw := [⟨[108, 100, 120, 119], 4, 97, 0, 0⟩, ⟨[115, 116, 119], 5, 98, 0, 0⟩, ⟨[115, 116, 120, 119], 6, 99, 0, 0⟩, ⟨[108, 100, 120, 104], 4, 105, 0, 0⟩, ⟨[115, 116, 104], 5, 106, 0, 0⟩, ⟨[115, 116, 120, 104], 6, 107, 0, 0⟩, ⟨[108, 100, 120, 98], 4, 113, 0, 0⟩, ⟨[115, 116, 98], 5, 114, 0, 0⟩, ⟨[115, 116, 120, 98], 6, 115, 0, 0⟩, ⟨[108, 100, 120, 100, 119], 4, 121, 0, 0⟩, ⟨[115, 116, 100, 119], 5, 122, 0, 0⟩, ⟨[115, 116, 120, 100, 119], 6, 123, 0, 0⟩]
def rwE : List Rw := [⟨[108, 100, 120, 115, 119], 4, 129, 0, 0⟩, ⟨[108, 100, 120, 115, 104], 4, 137, 0, 0⟩, ⟨[108, 100, 120, 115, 98], 4, 145, 0, 0⟩]
def rwF : List Rw := [⟨[97, 97, 100, 100], 6, 219, 0, 0⟩, ⟨[97, 97, 100, 100, 51, 50], 6, 195, 0, 0⟩, ⟨[97, 111, 114], 6, 219, 0, 64⟩, ⟨[97, 111, 114, 51, 50], 6, 195, 0, 64⟩, ⟨[97, 97, 110, 100], 6, 219, 0, 80⟩, ⟨[97, 97, 110, 100, 51, 50], 6, 195, 0, 80⟩, ⟨[97, 120, 111, 114], 6, 219, 0, 160⟩, ⟨[97, 120, 111, 114, 51, 50], 6, 195, 0, 160⟩, ⟨[97, 102, 97, 100, 100], 6, 219, 0, 1⟩, ⟨[97, 102, 97, 100, 100, 51, 50], 6, 195, 0, 1⟩, ⟨[97, 102, 111, 114], 6, 219, 0, 65⟩, ⟨[97, 102, 111, 114, 51, 50], 6, 195, 0, 65⟩, ⟨[97, 102, 97, 110, 100], 6, 219, 0, 81⟩, ⟨[97, 102, 97, 110, 100, 51, 50], 6, 195, 0, 81⟩, ⟨[97, 102, 120, 111, 114], 6, 219, 0, 161⟩, ⟨[97, 102, 120, 111, 114, 51, 50], 6, 195, 0, 161⟩, ⟨[97, 120, 99, 104, 103], 6, 219, 0, 225⟩, ⟨[97, 120, 99, 104, 103, 51, 50], 6, 195, 0, 225⟩, ⟨[97, 99, 109, 112, 120, 99, 104, 103], 6, 219, 0, 241⟩, ⟨[97, 99, 109, 112, 120, 99, 104, 103, 51, 50], 6, 195, 0, 241⟩]
def rwG : List Rw := [⟨[106, 101, 113], 8, 21, 0, 0⟩, ⟨[106, 101, 113, 51, 50], 8, 22, 0, 0⟩, ⟨[106, 103, 116], 8, 37, 0, 0⟩, ⟨[106, 103, 116, 51, 50], 8, 38, 0, 0⟩, ⟨[106, 103, 101], 8, 53, 0, 0⟩, ⟨[106, 103, 101, 51, 50], 8, 54, 0, 0⟩, ⟨[106, 115, 101, 116], 8, 69, 0, 0⟩, ⟨[106, 115, 101, 116, 51, 50], 8, 70, 0, 0⟩, ⟨[106, 110, 101], 8, 85, 0, 0⟩, ⟨[106, 110, 101, 51, 50], 8, 86, 0, 0⟩, ⟨[106, 115, 103, 116], 8, 101, 0, 0⟩, ⟨[106, 115, 103, 116, 51, 50], 8, 102, 0, 0⟩, ⟨[106, 115, 103, 101], 8, 117, 0, 0⟩, ⟨[106, 115, 103, 101, 51, 50], 8, 118, 0, 0⟩, ⟨[106, 108, 116], 8, 165, 0, 0⟩, ⟨[106, 108, 116, 51, 50], 8, 166, 0, 0⟩, ⟨[106, 108, 101], 8, 181, 0, 0⟩, ⟨[106, 108, 101, 51, 50], 8, 182, 0, 0⟩, ⟨[106, 115, 108, 116], 8, 197, 0, 0⟩, ⟨[106, 115, 108, 116, 51, 50], 8, 198, 0, 0⟩, ⟨[106, 115, 108, 101], 8, 213, 0, 0⟩, ⟨[106, 115, 108, 101, 51, 50], 8, 214, 0, 0⟩]
def rwH : List Rw := [⟨[106, 97], 7, 5, 0, 0⟩, ⟨[106, 97, 51, 50], 7, 6, 0, 0⟩, ⟨[99, 97, 108, 108], 9, 133, 0, 0⟩, ⟨[101, 120, 105, 116], 10, 149, 0, 0⟩, ⟨[108, 100, 100, 119], 11, 24, 0, 0⟩, ⟨[108, 100, 109, 97, 112], 12, 24, 0, 0⟩]
def rowsAll : List Rw := rwA ++ rwB ++ rwC ++ rwD ++ rwE ++ rwF ++ rwG ++ rwH
def twoR (r : Rw) : Bool := r.sh == 1 || r.sh == 8
def opR (r : Rw) (o : Int) : Bool := o == r.op || twoR r && o == r.op + 8
def ofR (r : Rw) (o s f i : Int) : Bool :=
  if r.sh = 1 ∨ r.sh = 2 then opR r o && f == r.off else if r.sh = 3 then o == r.op && i == r.imm else if r.sh = 6 then o == r.op && (i == r.imm || r.op != 219 && r.op != 195)
  else if r.sh = 11 then o == r.op && s == 0 else if r.sh = 12 then o == r.op && s == 1 else opR r o
def secR (r : Rw) (o : Int) : Bool := twoR r && o == r.op + 8
def usR (r : Rw) (o : Int) : Bool × Bool × Bool × Bool :=
  if r.sh = 1 then (true, secR r o, false, !secR r o) else if r.sh = 2 then (true, true, false, false) else if r.sh = 3 then (true, false, false, false) else if r.sh = 4 ∨ r.sh = 6 then (true, true, true, false)
  else if r.sh = 5 then (true, false, true, true) else if r.sh = 7 then (false, false, r.op == 5, r.op == 6) else if r.sh = 8 then (true, secR r o, true, !secR r o) else if r.sh = 9 then (false, false, false, true)
  else if r.sh = 11 ∨ r.sh = 12 then (true, false, false, true) else (false, false, false, false)
def inR (x a b : Int) : Bool := decide (a ≤ x) && decide (x ≤ b)
def lawR (r : Rw) (o d s f i : Int) : Bool :=
  (d == 0 || (usR r o).1 && inR d 0 10) && (s == 0 || (usR r o).2.1 && inR s 0 10 || s == 1 && (r.sh == 9 || r.sh == 12)) && (f == r.off || (usR r o).2.2.1 && inR f (-32768) 32767) &&
  ((usR r o).2.2.2 && (inR i (-2147483648) 2147483647 || r.sh == 11) || !(usR r o).2.2.2 && i == r.imm)
def pickO (o : Int) : List Rw := rowsAll.filter (fun r => opR r o)
def findR (o d s f i : Int) : Option Rw := (pickO o).find? (fun r => ofR r o s f i && lawR r o d s f i)
def shapeR (o s f : Int) : Int :=
  if o = 149 then 10 else if o = 133 then 9 else if o = 24 ∧ s = 1 then 12 else if o = 24 then 11 else if o = 5 ∨ o = 6 then 7 else if o.tmod 8 = 1 then 4 else if o.tmod 8 = 2 then 5 else if o.tmod 8 = 3 then 6 else if o.tmod 8 = 5 ∨ o.tmod 8 = 6 then 8
  else if o.tdiv 16 = 8 ∨ o.tdiv 16 = 13 then 3 else if o.tdiv 16 = 11 ∧ ¬ f = 0 then 2 else 1
def tgtR (o s f i : Int) : Bool × Int :=
  if shapeR o s f = 7 ∨ shapeR o s f = 8 then (true, if o = 6 then i else f) else if shapeR o s f = 9 then (s == 1, i + 1) else if shapeR o s f = 12 then (true, i) else (false, 0)
end Go.Proofs.YtcomhlimgocoaaaGreatDoor
namespace Go.Proofs.YtcomhlimgocoaaaGreatDoor
open Go.RowKit
set_option linter.unusedVariables false
set_option linter.unusedSimpArgs false
theorem cell_later {w w' : World} (o : Out w w') {a : Addr} {v : Value} (h : w.cell? a = some v) : w'.cell? a = some v := by
  rw [← h]; exact World.cell?_of_block (o.block _ (World.block_lt_of_cell? w a h))
theorem owns_chg {B size : Nat} {S : Nat → Prop} {w w' : World} {e : TypeId} {v : Value} {n : Nat} {xs : List Value} (h : w.ownsRow B e size v n xs) (hs : ∀ k, v.ownBlock = some k → ¬ S k) (hc : Chg S w w') : w'.ownsRow B e size v n xs := by
  refine ⟨h.1, ?_⟩
  rcases h.2 with hn | ⟨g, cap, cur, rfl, hb, hg, rest⟩
  · exact .inl hn
  · refine .inr ⟨g, cap, cur, rfl, hb, ?_, rest⟩
    rw [hc.block g (Array.getElem?_eq_some_iff.1 hg).1 (hs g rfl)]
    exact hg
theorem own_form {B n sz : Nat} {X : World} {e : TypeId} {v : Value} {xs : List Value} (h : X.ownsRow B e sz v n xs) : ∃ ad cp, v = .slice ad n cp := by
  rcases h.2 with ⟨rfl, rfl⟩ | ⟨g, cap, cur, rfl, _⟩
  · exact ⟨none, 0, rfl⟩
  · exact ⟨_, _, rfl⟩
theorem cell_fresh (w : World) (cs : Array Value) (t : TypeId) (j : Nat) (b : Nat) (hb : b = w.heap.size) : (w.alloc (.cells cs t)).cell? ⟨b, j, none⟩ = cs[j]? := by
  subst hb
  rw [World.cell?, show (w.alloc (.cells cs t)).heap[w.heap.size]? = some (.cells cs t) from heap_alloc_new w _]
  rfl
theorem news_new (w : World) (cs : Array Value) (t : TypeId) (b : Nat) (hb : b = w.heap.size) : ∀ j u, cs.toList[j]? = some u → (w.alloc (.cells cs t)).cell? ((⟨b, 0, none⟩ : Addr).add j) = some u := by
  intro j u hu
  rw [WideShapes.add_plain, Nat.zero_add, cell_fresh _ _ _ _ _ hb]
  simpa using hu
theorem cell_atL {w : World} {p : Nat} {cs : Array Value} {t : TypeId} (h : w.heap[p]? = some (.cells cs t (0, 0))) (j : Nat) : w.cell? ⟨p, j, none⟩ = cs[j]? := by simp [World.cell?, h]
theorem frozen_atL {w : World} {p : Nat} {cs : Array Value} {t : TypeId} (h : w.heap[p]? = some (.cells cs t (0, 0))) (j : Nat) : w.frozen? ⟨p, j, none⟩ = false := by simp [World.frozen?, h]
theorem set_atL {w : World} {p : Nat} {cs : Array Value} {t : TypeId} (h : w.heap[p]? = some (.cells cs t (0, 0))) (j : Nat) (u : Value) : (w.setCell ⟨p, j, none⟩ u).heap[p]? = some (.cells (cs.setIfInBounds j u) t (0, 0)) := by
  simp [World.setCell, Array.getElem?_modify, h]
theorem own_kind {B s n : Nat} {w : World} {e t : TypeId} {v : Value} {xs : List Value} {b : Nat} {cs : Array Value} {fr : Nat × Nat} (h : w.ownsRow B e s v n xs) (hb : w.heap[b]? = some (.cells cs t fr)) (hne : ¬ e = t) : ¬ v.ownBlock = some b := fun hv => by
  rcases h.2 with ⟨hx, _⟩ | ⟨g, cap, cur, hx, _, hg, _⟩
  · rw [hx] at hv; cases hv
  · rw [hx] at hv
    simp [Value.ownBlock] at hv
    subst hv
    rw [hb] at hg; simp at hg; exact hne hg.2.1.symm
theorem Out.dN {w w' : World} (h : Out w w') (n : Nat) : Out w (w'.drewN n) := ⟨h.os, h.tape, h.output, h.size, h.block⟩
theorem add_l4 (x y z : List UInt8) (hz : z = x ++ y) (h : x.length + y.length ≤ 9223372036854775807) (w : World) : (Op.stringOp .add ⟨x.toArray⟩ ⟨y.toArray⟩).run Tryz.prog w = .ok (.string ⟨z.toArray⟩) w := by
  rw [run_string_add_sum w _ _ (by simp [ByteArray.size]; omega), ByteArray.mk_append_mk, hz]
end Go.Proofs.YtcomhlimgocoaaaGreatDoor
namespace Go.Proofs.YtcomhlimgocoaaaGreatDoor
open Go.RowKit
set_option linter.unusedVariables false
set_option linter.unusedSimpArgs false
theorem two4_any (L : List UInt8) (sh op off imm : Int) (w : World) : Calls Tryz.prog 29 #[.agg #[.string ⟨L.toArray⟩, .int .i64 sh, .int .i64 op, .int .i64 off, .int .i64 imm]] w fun e w' => e = .returned (.bool (twoR ⟨L, sh, op, off, imm⟩)) ∧ Out w w' := by
  cases h1 : (sh == 1)
  · cases h8 : (sh == 8)
    · have hR : Hid (twoR ⟨L, sh, op, off, imm⟩ = false) := hidOf (by simp [twoR, h1, h8])
      go_enter Tryz.func29, Tryz.ntmps29
      go_wp2
      go_ret
      exact ⟨by rw [hR.out]; rfl, (Out.refl w).alloc _⟩
    · have hR : Hid (twoR ⟨L, sh, op, off, imm⟩ = true) := hidOf (by simp [twoR, h8])
      go_enter Tryz.func29, Tryz.ntmps29
      go_wp2
      go_ret
      exact ⟨by rw [hR.out]; rfl, (Out.refl w).alloc _⟩
  · have hR : Hid (twoR ⟨L, sh, op, off, imm⟩ = true) := hidOf (by simp [twoR, h1])
    go_enter Tryz.func29, Tryz.ntmps29
    go_wp2
    go_ret
    exact ⟨by rw [hR.out]; rfl, (Out.refl w).alloc _⟩
theorem op4_any (L : List UInt8) (sh op off imm o : Int) (h0 : 0 ≤ op) (h1 : op ≤ 1000) (w : World) : Calls Tryz.prog 99 #[.agg #[.string ⟨L.toArray⟩, .int .i64 sh, .int .i64 op, .int .i64 off, .int .i64 imm], .int .i64 o] w fun e w' => e = .returned (.bool (opR ⟨L, sh, op, off, imm⟩ o)) ∧ Out w w' := by
  have CT := hidOf (fun wx => two4_any L sh op off imm wx)
  cases h2 : (o == op)
  · cases h3 : twoR ⟨L, sh, op, off, imm⟩
    · have hR : Hid (opR ⟨L, sh, op, off, imm⟩ o = false) := hidOf (by simp [opR, h2, h3])
      rw [h3] at CT
      go_enter Tryz.func99, Tryz.ntmps99
      go_wp2_with (go_at_call 29; refine (CT.out _).mono ?_; rintro e w1 ⟨rfl, ho⟩; have O1 := hidOf (((Out.refl w).alloc _).trans ho); clear ho)
      go_ret
      exact ⟨by rw [hR.out]; rfl, O1.out⟩
    · rw [h3] at CT
      have hR : Hid (opR ⟨L, sh, op, off, imm⟩ o = (o == op + 8)) := hidOf (by simp [opR, h2, h3])
      cases h4 : (o == op + 8)
      · go_enter Tryz.func99, Tryz.ntmps99
        go_upto_region 1 with fail
        obtain ⟨wB, hwB⟩ : ∃ wB, wB = w.alloc (.cells #[.string ⟨L.toArray⟩, .int .i64 sh, .int .i64 op, .int .i64 off, .int .i64 imm] 67) := ⟨_, rfl⟩
        have q2 : ∀ wx, Out wB wx → wx.cell? ⟨w.heap.size, 2, none⟩ = some (.int .i64 op) := fun wx o => cell_later o (by rw [hwB, new_cell]; rfl)
        have HQ := hidOf q2
        have HB := hidOf hwB
        clear q2 hwB
        go_wp2_with (go_at_call 29; refine (CT.out _).mono ?_; rintro e w1 ⟨rfl, ho⟩; have O1 := hidOf (((Out.refl w).alloc _).trans ho); have q2 := HQ.out w1 (by rw [HB.out]; exact ho); clear ho)
        go_ret
        exact ⟨by rw [hR.out, h4]; rfl, O1.out⟩
      · go_enter Tryz.func99, Tryz.ntmps99
        go_upto_region 1 with fail
        obtain ⟨wB, hwB⟩ : ∃ wB, wB = w.alloc (.cells #[.string ⟨L.toArray⟩, .int .i64 sh, .int .i64 op, .int .i64 off, .int .i64 imm] 67) := ⟨_, rfl⟩
        have q2 : ∀ wx, Out wB wx → wx.cell? ⟨w.heap.size, 2, none⟩ = some (.int .i64 op) := fun wx o => cell_later o (by rw [hwB, new_cell]; rfl)
        have HQ := hidOf q2
        have HB := hidOf hwB
        clear q2 hwB
        go_wp2_with (go_at_call 29; refine (CT.out _).mono ?_; rintro e w1 ⟨rfl, ho⟩; have O1 := hidOf (((Out.refl w).alloc _).trans ho); have q2 := HQ.out w1 (by rw [HB.out]; exact ho); clear ho)
        go_ret
        exact ⟨by rw [hR.out, h4]; rfl, O1.out⟩
  · have hR : Hid (opR ⟨L, sh, op, off, imm⟩ o = true) := hidOf (by simp [opR, h2])
    go_enter Tryz.func99, Tryz.ntmps99
    go_wp2
    go_ret
    exact ⟨by rw [hR.out]; rfl, (Out.refl w).alloc _⟩
end Go.Proofs.YtcomhlimgocoaaaGreatDoor
