import Derived.Test.YtekjfbmebekmeaaGreatMbh
namespace Go.Proofs.YtekjfbmebekmeaaGreat
open Go.RowKit
set_option linter.unusedVariables false
set_option linter.unusedSimpArgs false
theorem results_cell2 {P : Program} {fn : Func} {p u : Tmp} {ty : TypeId} (h : fn.results = #[.cell p ty, .tmp u]) (tmps : Array Value) (w : World) (g : Nat) (t : TypeId) (cs : Array Value) (fr : Nat × Nat) (d : TypeDesc)
    (hp : tmps.getD p undef = .pointer (some ⟨g, 0, none⟩)) (hg : w.heap[g]? = some (.cells cs t fr))
    (hu : P.underlying ty = some d) (hd : (match d with | .struct _ | .array _ _ => true | _ => false) = true) (hi : (P.info? ty).map (·.size) = some cs.size) :
    (results fn tmps).run P w = .ok (.tuple #[.agg cs, tmps.getD u undef]) w := by
  have hp' : tmps[p]?.getD undef = .pointer (some ⟨g, 0, none⟩) := by simpa using hp
  simp [results, h, hp', asAddr, run_loadVar_row w g t ty cs fr d hg hu hd hi]
theorem blk_out {w w' : World} {q : Nat} {X : Obj} (h : w.heap[q]? = some X) (o : Out w w') : w'.heap[q]? = some X := (o.block q (Array.getElem?_eq_some_iff.1 h).1).trans h
theorem blk_chg {S : Nat → Prop} {w w' : World} {q : Nat} {X : Obj} (h : w.heap[q]? = some X) (c : Chg S w w') (hs : ¬ S q) : w'.heap[q]? = some X := (c.block q (Array.getElem?_eq_some_iff.1 h).1 hs).trans h
/-- a region as a value -/
def agG (y : Rg) : Value := .agg #[.int .u64 (y.f : Nat), .slice (y.a.map fun b => ⟨b, 0, none⟩) y.d.length y.c]
/-- what upTo gives -/
def UpE (F : List Rg) (at_ : Nat) (e : Ending) : Prop := (upF F at_ = none ∧ e = .returned (.tuple #[.agg #[.int .u64 0, .slice none 0 0], .bool false])) ∨ ∃ y, upF F at_ = some y ∧ y ∈ F ∧ e = .returned (.tuple #[.agg #[.int .u64 (y.f : Nat), .slice (y.a.map fun b => ⟨b, 0, none⟩) y.d.length y.c], .bool true])
set_option maxHeartbeats 4000000 in
set_option maxRecDepth 100000 in
theorem upTo_any (w : World) (B s o : Nat) (v : Value) (X : List Rw) (at_ : Nat) (h : Sh B w v X) (hc : w.cell? ⟨s, o, none⟩ = some v) (hs : Srt (flat X)) (hN : X.length < 4611686018427387904) :
    Calls Tryz.prog 78 #[.pointer (some ⟨s, o, none⟩), .int .u64 at_] w fun e w' => UpE (flat X) at_ e ∧ Out w w' := by
  obtain ⟨wA, HA, bA, oA⟩ : ∃ wA, Hid (wA = w.alloc (.cells #[.int .u64 0, .slice none 0 0] 36)) ∧ wA.heap[w.heap.size]? = some (.cells #[.int .u64 0, .slice none 0 0] 36 (0, 0)) ∧ Out w wA := ⟨_, rfl, heap_alloc_new w _, (Out.refl w).alloc _⟩
  have H := hidOf h
  have HC := hidOf hc
  have OA := hidOf oA
  have BA := hidOf bA
  have P1 := hidOf (place_any wA B s o v X at_ (h.out oA) (cell_later oA hc) hs hN)
  clear h hc oA bA
  go_enter Tryz.func78, Tryz.ntmps78
  go_upto_region 1 with fail
  rw [← HA.out]
  go_upto_region 2 with (go_at_call 80; refine P1.out.mono ?_; rintro e w1 ⟨r, k, rfl, hp, ho1⟩; have PL := hidOf hp; have O1 := hidOf ho1; clear hp ho1)
  have hblk := hidOf (blk_out BA.out O1.out)
  have f0 : w1.frozen? ⟨w.heap.size, 0, none⟩ = false := froz_B hblk.out 0
  have f1 : w1.frozen? ⟨w.heap.size, 1, none⟩ = false := froz_B hblk.out 1
  have c0 : w1.cell? ⟨w.heap.size, 0, none⟩ = some (.int .u64 0) := by rw [cell_B hblk.out]; rfl
  have c1 : w1.cell? ⟨w.heap.size, 1, none⟩ = some (.slice none 0 0) := by rw [cell_B hblk.out]; rfl
  rcases PL.out.up with ⟨rfl, rfl, hu⟩ | ⟨i, j, x, y, rfl, rfl, hx, hy, hu⟩
  · have HU := hidOf hu
    clear hu
    go_wp2
    refine bodyPost_ret (results_cell2 rfl _ _ w.heap.size 36 _ (0, 0) _ rfl (set_B (set_B hblk.out 0 _) 1 _) Tryz.underlying36 rfl (by kernel_rfl)) rfl ?_
    exact ⟨.inl ⟨HU.out, rfl⟩, Out.setCell (Out.setCell (OA.out.trans O1.out) (Nat.le_refl _) _) (Nat.le_refl _) _⟩
  · obtain ⟨gR, cR, e, hr, _, _⟩ := H.out.at_ hx
    have ow := OA.out.trans O1.out
    have hr1 := cell_later ow hr
    have hs1 := cell_later ow HC.out
    rw [e] at hs1
    have hrg := H.out.reg hx hy
    have g0 := cell_later ow hrg.1
    have g1 := cell_later ow hrg.2
    have hil : (i : Int) < (X.length : Int) := by have := (List.getElem?_eq_some_iff.1 hx).1; omega
    have hjl : (j : Int) < (x.L.length : Int) := by have := (List.getElem?_eq_some_iff.1 hy).1; omega
    have hym : y ∈ flat X := flat_mem hx (List.mem_of_getElem? hy)
    have HU := hidOf hu
    have HYM := hidOf hym
    obtain ⟨n, hn⟩ : ∃ n, n = X.length := ⟨_, rfl⟩
    obtain ⟨l, hl⟩ : ∃ l, l = x.L.length := ⟨_, rfl⟩
    obtain ⟨gx, hgx⟩ : ∃ gx, gx = x.g := ⟨_, rfl⟩
    obtain ⟨cx, hcx⟩ : ∃ cx, cx = x.c := ⟨_, rfl⟩
    obtain ⟨yn, hyn⟩ : ∃ yn, Hid (yn = y.d.length) := ⟨_, rfl⟩
    obtain ⟨ya, hya⟩ : ∃ ya : Option Addr, Hid (ya = y.a.map fun b => ⟨b, 0, none⟩) := ⟨_, rfl⟩
    obtain ⟨yc, hyc⟩ : ∃ yc, Hid (yc = y.c) := ⟨_, rfl⟩
    obtain ⟨yf, hyf⟩ : ∃ yf, Hid (yf = y.f) := ⟨_, rfl⟩
    rw [← hn] at hil hs1
    rw [← hl] at hjl hr1
    rw [← hgx] at hr1 g0 g1
    rw [← hcx] at hr1
    rw [← hyf.out] at g0
    rw [← hyn.out, ← hya.out, ← hyc.out] at g1
    clear hu hym hx hy hn hl hgx hcx e hr hrg
    go_wp2
    refine bodyPost_ret (results_cell2 rfl _ _ w.heap.size 36 _ (0, 0) _ rfl (set_B (set_B hblk.out 0 _) 1 _) Tryz.underlying36 rfl (by kernel_rfl)) rfl ?_
    refine ⟨.inr ⟨y, HU.out, HYM.out, ?_⟩, Out.setCell (Out.setCell ow (Nat.le_refl _) _) (Nat.le_refl _) _⟩
    rw [← hyf.out, ← hyn.out, ← hya.out, ← hyc.out]
    rfl
end Go.Proofs.YtekjfbmebekmeaaGreat
