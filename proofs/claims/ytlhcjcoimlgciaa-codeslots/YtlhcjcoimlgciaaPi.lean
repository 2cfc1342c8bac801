import Derived.Test.YtlhcjcoimlgciaaPh
namespace Go.Proofs.Ytlhcjcoimlgciaa
open Go.RowKit
set_option linter.unusedVariables false
set_option linter.unusedSimpArgs false
theorem results_row_tmp2 {P : Program} {fn : Func} {p u v : Tmp} {ty : TypeId} (h : fn.results = #[.cell p ty, .tmp u, .tmp v]) (tmps : Array Value) (w : World) (g : Nat) (t : TypeId) (cs : Array Value) (fr : Nat × Nat) (d : TypeDesc)
    (hp : tmps.getD p undef = .pointer (some ⟨g, 0, none⟩)) (hg : w.heap[g]? = some (.cells cs t fr))
    (hu : P.underlying ty = some d) (hd : (match d with | .struct _ | .array _ _ => true | _ => false) = true) (hi : (P.info? ty).map (·.size) = some cs.size) :
    (results fn tmps).run P w = .ok (.tuple #[.agg cs, tmps.getD u undef, tmps.getD v undef]) w := by
  have hp' : tmps[p]?.getD undef = .pointer (some ⟨g, 0, none⟩) := by simpa using hp
  simp only [results, h]
  simp [hp', asAddr, run_loadVar_row w g t ty cs fr d hg hu hd hi]
/-- what takeInsn answers -/
def InsO (x : Ins) : Value := .agg #[.int .i64 x.o, .int .i64 x.d, .int .i64 x.s, .int .i64 x.f, .int .i64 x.i]
def TakeIs (B : List Int) (r : Value) : Prop := ∃ x size, r = .tuple #[InsO x, .int .i64 size, .int .i64 (errD may B)] ∧ (errD may B = 0 → x = insD B ∧ size = sizeD B)
def zC : Array Value := #[.int .i64 0, .int .i64 0, .int .i64 0, .int .i64 0, .int .i64 0]
structure TI (w W : World) (p q : Nat) (cs : Array Value) : Prop where
  rp : W.heap[p]? = some (.cells #[.int .i64 0, .int .i64 0, .int .i64 0, .int .i64 0, .int .i64 0] 25 (0, 0))
  rq : W.heap[q]? = some (.cells cs 25 (0, 0))
  out : Out w W
  wp : w.heap.size ≤ p
  wq : w.heap.size ≤ q
  pq : p ≠ q
theorem TI.later {w W W' : World} {p q : Nat} {cs : Array Value} (h : TI w W p q cs) (o : Out W W') : TI w W' p q cs :=
  ⟨(o.block p (Array.getElem?_eq_some_iff.1 h.rp).1).trans h.rp, (o.block q (Array.getElem?_eq_some_iff.1 h.rq).1).trans h.rq, Out.trans h.out o, h.wp, h.wq, h.pq⟩
theorem TI.drewN {w W : World} {p q : Nat} {cs : Array Value} (h : TI w W p q cs) (m : Nat) : TI w (W.drewN m) p q cs := ⟨h.rp, h.rq, h.out.drewN m, h.wp, h.wq, h.pq⟩
theorem TI.set {w W : World} {p q : Nat} {cs : Array Value} (h : TI w W p q cs) (j : Nat) (u : Value) : TI w (W.setCell ⟨q, j, none⟩ u) p q (cs.setIfInBounds j u) :=
  ⟨(Below.heap_setCell _ _ _ _ h.pq).trans h.rp, set_at h.rq j u, h.out.setCell (a := ⟨q, j, none⟩) h.wq u, h.wp, h.wq, h.pq⟩
/-- the facts that a walk wants of the two boxes -/
structure TIc (W : World) (p q : Nat) (a b c d e : Int) : Prop where
  c0 : W.cell? ⟨q, 0, none⟩ = some (.int .i64 a)
  c1 : W.cell? ⟨q, 1, none⟩ = some (.int .i64 b)
  c2 : W.cell? ⟨q, 2, none⟩ = some (.int .i64 c)
  c3 : W.cell? ⟨q, 3, none⟩ = some (.int .i64 d)
  c4 : W.cell? ⟨q, 4, none⟩ = some (.int .i64 e)
  p0 : W.cell? ⟨p, 0, none⟩ = some (.int .i64 0)
  p1 : W.cell? ⟨p, 1, none⟩ = some (.int .i64 0)
  p2 : W.cell? ⟨p, 2, none⟩ = some (.int .i64 0)
  p3 : W.cell? ⟨p, 3, none⟩ = some (.int .i64 0)
  p4 : W.cell? ⟨p, 4, none⟩ = some (.int .i64 0)
  f0 : W.frozen? ⟨p, 0, none⟩ = false
  f1 : W.frozen? ⟨p, 1, none⟩ = false
  f2 : W.frozen? ⟨p, 2, none⟩ = false
  f3 : W.frozen? ⟨p, 3, none⟩ = false
  f4 : W.frozen? ⟨p, 4, none⟩ = false
  g4 : W.frozen? ⟨q, 4, none⟩ = false
theorem TI.facts {w W : World} {p q : Nat} {a b c d e : Int} (h : TI w W p q #[.int .i64 a, .int .i64 b, .int .i64 c, .int .i64 d, .int .i64 e]) : TIc W p q a b c d e :=
  ⟨cell_at h.rq 0, cell_at h.rq 1, cell_at h.rq 2, cell_at h.rq 3, cell_at h.rq 4, cell_at h.rp 0, cell_at h.rp 1, cell_at h.rp 2, cell_at h.rp 3, cell_at h.rp 4, frozen_at h.rp 0, frozen_at h.rp 1, frozen_at h.rp 2, frozen_at h.rp 3, frozen_at h.rp 4, frozen_at h.rq 4⟩
theorem TI.done {w W : World} {p q : Nat} {cs : Array Value} (h : TI w W p q cs) (v0 v1 v2 v3 v4 : Value) : Out w (((((W.setCell ⟨p, 0, none⟩ v0).setCell ⟨p, 1, none⟩ v1).setCell ⟨p, 2, none⟩ v2).setCell ⟨p, 3, none⟩ v3).setCell ⟨p, 4, none⟩ v4) :=
  ((((h.out.setCell (a := ⟨p, 0, none⟩) h.wp _).setCell (a := ⟨p, 1, none⟩) h.wp _).setCell (a := ⟨p, 2, none⟩) h.wp _).setCell (a := ⟨p, 3, none⟩) h.wp _).setCell (a := ⟨p, 4, none⟩) h.wp _
theorem conv64 (x y : Int) (x0 : 0 ≤ x) (x1 : x < 4294967296) (y0 : 0 ≤ y) (y1 : y < 4294967296) : IntKind.i64.wrap (bits .or .u64 (IntKind.u64.wrap (y * 4294967296)) x) = x + 4294967296 * sx 2147483648 y := by
  rw [show IntKind.u64.wrap (y * 4294967296) = y * 4294967296 from by rw [IntKind.wrap_u64]; omega, orHi 32 (y * 4294967296) x (by omega) (by omega) (by omega) x0 (by omega) (by omega), IntKind.wrap_i64]
  unfold sx; split <;> omega
end Go.Proofs.Ytlhcjcoimlgciaa
