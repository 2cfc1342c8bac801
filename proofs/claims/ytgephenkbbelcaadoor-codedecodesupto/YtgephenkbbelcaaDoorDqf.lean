import Derived.Test.YtgephenkbbelcaaDoorDqe
namespace Go.Proofs.YtgephenkbbelcaaDoor
open Go.RowKit
set_option linter.unusedVariables false
set_option linter.unusedSimpArgs false
/-- marks are laid over a list -/
theorem copy5 (w : World) (a : Option Addr) (n c : Nat) (N : List Ins) (h : OwI 0 (.slice a n c) N w) (gm cm : Nat) (Z : List Ins) (hZ : Z.length = n) (hm : OwI 0 (.slice (some ⟨gm, 0, none⟩) n cm) Z w) :
    ∃ w', (∀ ty, (Builtin.copy_ #[30, 30] ty #[.slice a n c, .slice (some ⟨gm, 0, none⟩) n cm]).run Tryd.prog w = .ok (.int .i64 n) w') ∧ OwI 0 (.slice a n c) Z w' ∧ Chg (fun b => (Value.slice a n c).ownBlock = some b) w w' := by
  have hl := h.len
  cases a with
  | none =>
    rcases h.2 with ⟨e, h0⟩ | ⟨g, cap, cur, e, _⟩
    · simp only [Value.slice.injEq] at e
      obtain ⟨_, rfl, rfl⟩ := e
      obtain rfl : Z = [] := List.length_eq_zero_iff.1 hZ
      obtain ⟨i0, hi, hz0, hz1, hz2⟩ := info_parts info55
      have hl0 : (loadCells ⟨gm, 0, none⟩ 0).run Tryd.prog w = .ok #[] w := by
        have := run_loadCells_list (P := Tryd.prog) w ⟨gm, 0, none⟩ [] (fun j u hu => by simp at hu)
        simpa using this
      refine ⟨w, fun ty => ?_, ⟨rfl, .inl ⟨rfl, rfl⟩⟩, Chg.refl _ _⟩
      simp [hl0, Builtin.copy_, run_underlying Tryd.underlying30, Builtin.lenOf, Builtin.firstCells, sizeOf, typeInfo, hi, storeCells, goInt, loadCellsFrom]
    · cases e
  | some ad =>
    rcases owns_rowI (show w.ownsRow 0 42 5 (.slice (some ad) n c) N.length (insV N) from h) with ⟨e, _⟩ | ⟨g, cap, R, e, hR, hrest⟩
    · cases e
    · simp only [Value.slice.injEq, Option.some.injEq] at e
      obtain ⟨rfl, _, rfl⟩ := e
      have key := fun ty => run_copy_ins w ty g n c (some ⟨gm, 0, none⟩) n cm N Z R hR hZ hm.at2 (Nat.le_refl _) (by omega)
      obtain ⟨w', hr, hR', hC⟩ := key 3
      have same : ∀ ty, (Builtin.copy_ #[30, 30] ty #[.slice (some ⟨g, 0, none⟩) n c, .slice (some ⟨gm, 0, none⟩) n cm]).run Tryd.prog w = .ok (.int .i64 n) w' := fun ty => hr
      refine ⟨w', same, ?_, hC.mono (fun b hb _ => by simp [Value.ownBlock, hb])⟩
      have e0 : Z ++ N.drop n = Z := by rw [List.drop_of_length_le (by omega)]; simp
      rw [e0] at hR'
      rcases h.2 with ⟨e, _⟩ | ⟨g2, cap2, cur, e, hb, hg, hnc, hcm, hcs, ht⟩
      · cases e
      · simp only [Value.slice.injEq, Option.some.injEq, Addr.mk.injEq] at e
        obtain ⟨⟨rfl, _⟩, _, rfl⟩ := e
        have hsz : Z.length * 5 + R.length = c * 5 := by
          have h1 : w.heap[g]? = _ := hR
          rw [hg] at h1
          simp only [Option.some.injEq, Obj.cells.injEq] at h1
          have h2 := congrArg Array.size h1.1
          simp [insV_len] at h2
          omega
        have := rowI_owns (B := 0) (cap := c) hR' (Nat.zero_le _) hcm hsz
        unfold OwI
        rw [hZ] at this ⊢
        exact this
theorem wpList_copy5 {w : World} {ops : Array Oper} {rest : List Oper} {o : Oper} {ac : Act} {Q : Exit → Act → World → Prop} (hgd : o.guard = none) (d s : Operand)
    (ho : o.op = .call { callee := .builtin .copy, args := #[d, s], argTypes := #[30, 30] })
    (a : Option Addr) (n c : Nat) (N : List Ins) (h : OwI 0 (.slice a n c) N w) (gm cm : Nat) (Z : List Ins) (hZ : Z.length = n) (hm : OwI 0 (.slice (some ⟨gm, 0, none⟩) n cm) Z w) (hd : ac.eval d = .slice a n c) (hs : ac.eval s = .slice (some ⟨gm, 0, none⟩) n cm)
    (hw : ∀ w', OwI 0 (.slice a n c) Z w' → Chg (fun b => (Value.slice a n c).ownBlock = some b) w w' → wpList Tryd.prog ops Q rest (ac.put o.dst (.int .i64 n)) w') : wpList Tryd.prog ops Q (o :: rest) ac w := by
  obtain ⟨w', hr, hR, hC⟩ := copy5 w a n c N h gm cm Z hZ hm
  refine wpList_plain hgd fun K hK => ?_
  unfold Oper.wp
  simp [execOp, ho, resolve, invoke, builtin, hd, hs, hr, Result.andThen]
  exact hK _ _ (hw w' hR hC)
/-- while a list grows out of f -/
structure Gr5 (wB wq : World) (f g fe : Value) (n : Nat) (N Z : List Ins) : Prop where
  gown : OwI 0 g N wq
  few : OwI 0 fe Z wq
  chg : Chg (fun b => f.ownBlock = some b) wB wq
  pre : ∀ B v M, OwI B v M wB → M.length ≤ n → OwI B v M wq
  gb : ∀ b, g.ownBlock = some b → f.ownBlock = some b ∨ wB.heap.size ≤ b
  nl : n ≤ N.length
  feb : ∀ b, fe.ownBlock = some b → b < wB.heap.size ∧ ¬ f.ownBlock = some b
theorem Gr5.out {wB wq w' : World} {f g fe : Value} {n : Nat} {N Z : List Ins} (h : Gr5 wB wq f g fe n N Z) (o : Out wq w') : Gr5 wB w' f g fe n N Z :=
  ⟨h.gown.out o, h.few.out o, h.chg.then_out o, fun B v M h1 h2 => (h.pre B v M h1 h2).out o, h.gb, h.nl, h.feb⟩
theorem Gr5.step {wB wq w' : World} {f g g' fe : Value} {n : Nat} {N Z zs : List Ins} (h : Gr5 wB wq f g fe n N Z) (a : App5 wq w' g g' N zs) : Gr5 wB w' f g' fe n (N ++ zs) Z := by
  have hs := h.chg.size
  refine ⟨a.own, h.few.chg a.chg (fun b hb hg => ?_), h.chg.trans a.chg (fun b hb hlt => ?_), fun B v M h1 h2 => a.pre B v M (h.pre B v M h1 h2) (Nat.le_trans h2 h.nl), fun b hb => ?_, by have := h.nl; simp; omega, h.feb⟩
  · have h1 := h.feb b hb
    rcases h.gb b hg with e | e
    · exact h1.2 e
    · omega
  · rcases h.gb b hb with e | e
    · exact e
    · omega
  · rcases a.blk b hb with e | e
    · exact h.gb b e
    · exact .inr (by omega)
section
variable {w : World} {p : Nat} {tt : Int} {r0 : Nat → Value} {fa : Value} {F : List Value} {wr w' : World} {mk : Int} {K W P R : List Value} {lo plo : Nat}
/-- marks are made -/
theorem WQ.some_ (h : WQ w p tt r0 fa F wr mk K W P R lo plo) (k : Nat) (hk : k ≤ 1000000000) (m0 : 0 ≤ mk) (m1 : mk ≤ 1000000000000000) :
    Calls Tryd.prog 32 #[.pointer (some ⟨p, 0, none⟩), .int .i64 k] wr fun e w' => ∃ g Z, e = .returned (.slice (some ⟨g, 0, none⟩) k k) ∧ Z.length = k ∧ wr.heap.size ≤ g ∧ OwI 0 (.slice (some ⟨g, 0, none⟩) k k) Z w' ∧ WQ w p tt r0 fa F w' (mk + k) K W P R lo plo ∧ (∀ B v N, OwI B v N wr → OwI B v N w') ∧ wr.heap.size ≤ w'.heap.size := by
  obtain ⟨r, L, h⟩ := h
  refine (some_any wr p mk tt r L h.sh k hk m0 m1).mono ?_
  rintro e w' ⟨g, Z, he, hZ, ho, hq, hc⟩
  have kp : ∀ B v N, OwI B v N wr → OwI B v N w' := fun B v N hv => hv.chg hc (fun b hb e => h.sh.soq hv hb (.inl e))
  have kpp : ∀ X Y, PrQ wr X Y → PrQ w' X Y := fun X Y hp i x y hx hy => by
    obtain ⟨N, a1, c1, a2, c2, e1, e2, o1, o2, hb⟩ := hp i x y hx hy
    exact ⟨N, a1, c1, a2, c2, e1, e2, kp _ _ _ o1, kp _ _ _ o2, hb⟩
  refine ⟨g, Z, he, hZ, (World.ownsRow.lt ho g rfl).1, ho.low (Nat.zero_le _), ⟨r, L, hq, h.n0, h.n1, h.z0, h.z1, h.l2, h.l3, owns_chg h.lr (fun k hk e => own_kind h.lr h.sh.st (by decide) (by rw [hk, e])) hc, h.ls, h.kl, h.pl, kpp _ _ h.pr, kpp _ _ h.pp, h.kf, h.kw, h.pf, fun j x hx => ?_, h.fb, h.b2, h.b3, h.pv, h.chg.trans hc (fun b hb _ => .inl hb)⟩, kp, hc.size⟩
  obtain ⟨N, h1, h2⟩ := h.fm j x hx
  exact ⟨N, h1, kp _ _ _ h2⟩
theorem WQ.cells (h : WQ w p tt r0 fa F wr mk K W P R lo plo) : wr.cell? ⟨p, 1, none⟩ = some (.int .i64 tt) ∧ (∃ a2 c2, wr.cell? ⟨p, 5, none⟩ = some (.slice a2 (K ++ P).length c2)) ∧ (∃ a3 c3, wr.cell? ⟨p, 6, none⟩ = some (.slice a3 (W ++ R).length c3) ∧ wr.ownsRow 0 30 1 (.slice a3 (W ++ R).length c3) (W ++ R).length (W ++ R)) ∧ wr.ownsRow 0 30 1 fa F.length F := by
  obtain ⟨r, L, h⟩ := h
  obtain ⟨a2, c2, e2⟩ := own_form (h.sh.row 2 (by omega))
  obtain ⟨a3, c3, e3⟩ := own_form (h.sh.row 3 (by omega))
  refine ⟨by rw [cell_atL h.sh.st]; rfl, ⟨a2, c2, by rw [cell_atL h.sh.st, ← h.l2, ← e2]; rfl⟩, ⟨a3, c3, by rw [cell_atL h.sh.st, ← h.l3, ← e3]; rfl, ?_⟩, h.lr⟩
  have := h.sh.row 3 (by omega)
  rw [e3, h.l3] at this
  exact this
theorem WQ.size (h : WQ w p tt r0 fa F wr mk K W P R lo plo) : w.heap.size ≤ wr.heap.size := by
  obtain ⟨r, L, h⟩ := h
  exact h.chg.size
theorem WQ.fown (h : WQ w p tt r0 fa F wr mk K W P R lo plo) {j : Nat} {x : Value} (hx : F[j]? = some x) : ∃ N : List Ins, N.length ≤ 100000000 ∧ OwI 0 x N wr := by
  obtain ⟨r, L, h⟩ := h
  exact h.fm j x hx
theorem WQ.new (h : WQ w p tt r0 fa F wr mk K W P R lo plo) {b : Nat} (hb : w.heap.size ≤ b) (j : Nat) (z : Value) (hz : F[j]? = some z) : ¬ z.ownBlock = some b := fun e => by
  obtain ⟨r, L, h⟩ := h
  have := h.fb z (List.mem_of_getElem? hz) b e
  omega
theorem WQ.wl (h : WQ w p tt r0 fa F wr mk K W P R lo plo) : W.length = K.length := by
  obtain ⟨r, L, h⟩ := h
  exact h.kl
end
end Go.Proofs.YtgephenkbbelcaaDoor
