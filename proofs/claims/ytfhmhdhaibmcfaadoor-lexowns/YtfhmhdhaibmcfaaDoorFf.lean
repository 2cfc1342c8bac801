import Derived.Test.YtfhmhdhaibmcfaaDoorFe
namespace Go.Proofs.YtfhmhdhaibmcfaaDoor
open Go.RowKit
set_option linter.unusedVariables false
set_option linter.unusedSimpArgs false
theorem infoB : (Tryd.prog.info? 5).map (fun i => (i.zero, i.size, i.bytes)) = some (some (.int .u8 0), 1, 1) := Tryd.Builder_Extra_169.infoByte
/-- rows of two kinds lie apart -/
theorem own_apart {B B' s s' n n' : Nat} {w : World} {e e' : TypeId} {v v' : Value} {xs xs' : List Value} (he : ¬ e = e') (h : w.ownsRow B e s v n xs) (h' : w.ownsRow B' e' s' v' n' xs') : ∀ k, v.ownBlock = some k → ¬ v'.ownBlock = some k := fun k hk hk' => by
  rcases h.2 with ⟨hv, _⟩ | ⟨g, cap, cur, hv, _, hg, _⟩
  · rw [hv] at hk; cases hk
  · rcases h'.2 with ⟨hv', _⟩ | ⟨g', cap', cur', hv', _, hg', _⟩
    · rw [hv'] at hk'; cases hk'
    · rw [hv] at hk; rw [hv'] at hk'
      simp [Value.ownBlock] at hk hk'
      subst hk hk'
      rw [hg] at hg'
      simp at hg'
      exact he hg'.2
theorem own_low {B B' s s' n n' : Nat} {w : World} {e e' : TypeId} {v v' : Value} {xs xs' : List Value} (hlt : ∀ k, v.ownBlock = some k → k < B') (h' : w.ownsRow B' e' s' v' n' xs') : ∀ k, v.ownBlock = some k → ¬ v'.ownBlock = some k := fun k hk hk' => by
  have := hlt k hk
  have := (h'.lt k hk').1
  omega
/-- bytes of the call's own -/
def OwB (B : Nat) (v : Value) (O : List UInt8) (w : World) : Prop := w.ownsRow B 5 1 v O.length (Lib.byteCells O)
def OwT (B : Nat) (v : Value) (T : List Tk) (w : World) : Prop := w.ownsRow B 36 4 v T.length (tkV T)
theorem OwB.rest {B : Nat} {v : Value} {O : List UInt8} {w : World} (h : OwB B v O w) : ∃ a cp, v = .slice a O.length cp ∧ O.length ≤ cp ∧ RestAt w.heap.size w a O := by
  rcases h.2 with ⟨hv, hn⟩ | ⟨g, cap, cur, hv, hb, hg, hc, _⟩
  · exact ⟨none, 0, by rw [hv, hn], by omega, .inl (List.length_eq_zero_iff.1 hn)⟩
  · refine ⟨_, _, hv, hc, .inr ⟨g, 0, (Array.getElem?_eq_some_iff.1 hg).1, rfl, fun k x hx => ?_⟩⟩
    have h1 := h.cells (g := g) (by rw [hv]; rfl) k (.int .u8 (x.toNat : Int)) (by simp [Lib.byteCells, hx])
    rw [Nat.zero_add, ← h1, Go.WideShapes.add_plain, Nat.zero_add]
theorem OwB.cells {B : Nat} {v : Value} {O : List UInt8} {w : World} (h : OwB B v O w) : O = [] ∨ ∃ g cp, v = .slice (some ⟨g, 0, none⟩) O.length cp ∧ ∀ j u, (Lib.byteCells O)[j]? = some u → w.cell? ((⟨g, 0, none⟩ : Addr).add j) = some u := by
  rcases h.2 with ⟨hv, hn⟩ | ⟨g, cap, cur, hv, hb, hg, hc, _⟩
  · exact .inl (List.length_eq_zero_iff.1 hn)
  · exact .inr ⟨g, cap, hv, World.ownsRow.cells h (g := g) (by rw [hv]; rfl)⟩
theorem tks_news {w : World} {b off : Nat} {T : List Tk} (hc : ∀ k x, T[k]? = some x → w.cell? ⟨b, off + k * 4, none⟩ = some (.int .i64 x.k) ∧ w.cell? ⟨b, off + k * 4 + 1, none⟩ = some (.string ⟨x.t.toArray⟩) ∧ w.cell? ⟨b, off + k * 4 + 2, none⟩ = some (.int .u64 x.n) ∧ w.cell? ⟨b, off + k * 4 + 3, none⟩ = some (.int .i64 x.l)) : ∀ j u, (tkV T)[j]? = some u → w.cell? ((⟨b, off, none⟩ : Addr).add j) = some u := fun j u hj => by
  have hjl : j < (tkV T).length := (List.getElem?_eq_some_iff.1 hj).1
  rw [tkV_len] at hjl
  have hk : j / 4 < T.length := by omega
  obtain ⟨x, hx⟩ : ∃ x, T[j / 4]? = some x := ⟨_, List.getElem?_eq_getElem hk⟩
  obtain ⟨c0, c1, c2, c3⟩ := hc (j / 4) x hx
  have hg := tkV_get T (j / 4) x (j % 4) hx (by omega)
  rw [show j / 4 * 4 + j % 4 = j by omega, hj] at hg
  rw [Go.WideShapes.add_plain]
  have h4 : j % 4 = 0 ∨ j % 4 = 1 ∨ j % 4 = 2 ∨ j % 4 = 3 := by omega
  rcases h4 with h4 | h4 | h4 | h4
  · rw [h4] at hg; rw [show off + j = off + j / 4 * 4 by omega, c0]; exact hg.symm
  · rw [h4] at hg; rw [show off + j = off + j / 4 * 4 + 1 by omega, c1]; exact hg.symm
  · rw [h4] at hg; rw [show off + j = off + j / 4 * 4 + 2 by omega, c2]; exact hg.symm
  · rw [h4] at hg; rw [show off + j = off + j / 4 * 4 + 3 by omega, c3]; exact hg.symm
theorem tkV_app (S T : List Tk) : tkV (S ++ T) = tkV S ++ tkV T := by simp [tkV, List.flatMap_append]
theorem tkV_one (T : List Tk) : ∀ u ∈ tkV T, u.oneCell' = true := fun u hu => by
  obtain ⟨x, _, hx⟩ := List.mem_flatMap.1 hu
  exact tk_one x u hx
theorem bc_one (O : List UInt8) : ∀ u ∈ Lib.byteCells O, u.oneCell' = true := fun u hu => by
  simp only [Lib.byteCells, List.mem_map] at hu
  obtain ⟨b, _, rfl⟩ := hu
  rfl
theorem bc_app (O P : List UInt8) : Lib.byteCells (O ++ P) = Lib.byteCells O ++ Lib.byteCells P := by simp [Lib.byteCells]
/-- lists of bytes at an address -/
def LinesAt (w : World) (a : Option Addr) (Ls : List (List UInt8)) : Prop := Ls = [] ∨ ∃ b off, a = some ⟨b, off, none⟩ ∧ ∀ k l, Ls[k]? = some l → ∃ la lc, w.cell? ⟨b, off + k, none⟩ = some (.slice la l.length lc) ∧ RestAt w.heap.size w la l ∧ l.length ≤ lc
theorem cap_le {need old : Nat} (h : old < need) : Builtin.nextslicecap need old ≤ need + need / 2 + 600 := by
  unfold Builtin.nextslicecap
  split
  · omega
  · split
    · omega
    · rw [growBy_four]
      repeat' split
      all_goals omega
/-- an append, by what it runs to -/
theorem wp_run {P : Program} {ops : Array Oper} {rest : List Oper} {o : Oper} {a : Act} {Q : Exit → Act → World → Prop} {w w' : World} {v1 v2 v' : Value} (hgd : o.guard = none) (s x : Operand) (t : TypeId) (ho : o.op = .call { callee := .builtin .append, args := #[s, x], argTypes := #[t, t] })
    (hs : a.eval s = v1) (hx : a.eval x = v2) (hr : ∀ ty, (Builtin.append_ #[t, t] ty #[v1, v2]).run P w = .ok v' w') (h : wpList P ops Q rest (a.put o.dst v') w') : wpList P ops Q (o :: rest) a w := by
  refine wpList_plain hgd fun K hK => ?_
  unfold Oper.wp execOp
  simp only [ho, resolve, invoke, builtin, Sem.run_bind, Sem.run_pure, Result.andThen_ok, List.map_toArray, List.map_cons, List.map_nil, hs, hx, hr]
  exact hK _ _ h
/-- bytes put behind bytes of the call's own, however many -/
theorem wide_run {w0 w : World} {v : Value} {W : List UInt8} (h : OwB w0.heap.size v W w) (ho : Out w0 w) (ad : Addr) (m c : Nat) (L : List UInt8) (hm : L.length = m) (hm0 : 0 < m) (hc : ∀ j u, (Lib.byteCells L)[j]? = some u → w.cell? (ad.add j) = some u) (hb : W.length + m ≤ 150000000000000) :
    ∃ a' c' w', (∀ ty, (Builtin.append_ #[22, 22] ty #[v, .slice (some ad) m c]).run Tryd.prog w = .ok (.slice a' (W.length + m) c') w') ∧ Out w0 w' := by
  obtain ⟨i0, hi, hz0, hz1, hz2⟩ := info_parts infoB
  have hnl : (Lib.byteCells L).length = m * i0.size := by rw [Lib.byteCells_length, hz1, hm, Nat.mul_one]
  rcases h.2 with ⟨hv, hn⟩ | ⟨g, cap, cur, hv, hbg, hg, hnc, hcm, hcs, htake⟩
  · have hr := fun ty => run_append_nil (P := Tryd.prog) w 22 ty 5 i0 _ Tryd.underlying22 hi hz0 ad m c (Lib.byteCells L) hnl hc hm0 (by omega) (by rw [hz2]; omega)
    rw [hv, hn, Nat.zero_add]
    exact ⟨_, _, _, hr, ho.drew.alloc _⟩
  · have hold : ∀ j u, (Lib.byteCells W)[j]? = some u → w.cell? ((⟨g, 0, none⟩ : Addr).add j) = some u := World.ownsRow.cells h (g := g) (by rw [hv]; rfl)
    by_cases hroom : W.length + m ≤ cap
    · have hr := fun ty => run_append_room (P := Tryd.prog) w 22 ty 5 i0 Tryd.underlying22 hi g W.length cap cur hg ad m c (Lib.byteCells L) hnl hc (bc_one L) hroom (by rw [hz1, Lib.byteCells_length, hm]; omega)
      refine ⟨_, _, _, fun ty => by rw [hv]; exact hr ty, ?_⟩
      have hch : ∀ cs, Chg (fun k => k = g) w (w.setRow g cs) := fun cs => ⟨rfl, rfl, rfl, by simp [World.setRow], fun k _ hk => setRow_other w g k cs hk⟩
      exact Chg.out (hch _) ho (fun k hk => by rw [hk]; exact hbg)
    · have hf := cap_le (need := W.length + m) (old := cap) (by omega)
      have hr := fun ty => run_append_grow (P := Tryd.prog) w 22 ty 5 i0 _ Tryd.underlying22 hi hz0 ⟨g, 0, none⟩ W.length cap (Lib.byteCells W) (by rw [Lib.byteCells_length, hz1, Nat.mul_one]) hold ad m c (Lib.byteCells L) hnl hc (by omega) (by omega) (by rw [hz2]; omega)
      exact ⟨_, _, _, fun ty => by rw [hv]; exact hr ty, ho.drew.alloc _⟩
end Go.Proofs.YtfhmhdhaibmcfaaDoor
