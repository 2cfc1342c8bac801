import Derived.Test.YtbdmbicnlfcclaaSqd
import Derived.Laws.AppendOwnNone
namespace Go.Proofs.Ytbdmbicnlfcclaa
open Go.RowKit
set_option linter.unusedVariables false
set_option linter.unusedSimpArgs false
theorem app6_same {w : World} {v : Value} (h : OwS 0 v [] w) : App6 w w v v [] [] := ⟨h, Chg.refl _ _, fun b hb => .inl hb, fun B g M h _ => h, fun B g M h => ⟨M, rfl, h⟩⟩
/-- a copy -/
theorem copy6 (w : World) (g : Nat) (hv : OwS 0 (.slice (some ⟨g, 0, none⟩) 0 0) [] w) (ax : Option Addr) (zs : List Sy) (m c : Nat) (hzl : zs.length = m) (hX : OwS 0 (.slice ax m c) zs w) (hn : m ≤ 2900000000000) :
    ∃ v' w', (∀ ty, (Builtin.append_ #[25, 25] ty #[.slice (some ⟨g, 0, none⟩) 0 0, .slice ax m c]).run Try.prog w = .ok v' w') ∧ App6 w w' (.slice (some ⟨g, 0, none⟩) 0 0) v' [] zs := by
  obtain ⟨i0, hi, hz0, hz1, hz2⟩ := info_parts infoSm
  by_cases h0 : m = 0
  · subst h0
    obtain rfl : zs = [] := List.length_eq_zero_iff.1 hzl
    cases ax with
    | none =>
      rcases hX.2 with ⟨e, _⟩ | ⟨_, _, _, e, _⟩
      · simp only [Value.slice.injEq] at e
        obtain ⟨_, _, rfl⟩ := e
        exact ⟨_, _, fun ty => run_append_owned_none (P := Try.prog) (w := w) 0 25 ty 57 i0 6 Try.underlying25 hi _ 0 [] hv, app6_same hv⟩
      · cases e
    | some ad =>
      have hr := fun ty => run_append_room_cells (P := Try.prog) w 25 ty 57 i0 Try.underlying25 hi g 0 0 0 ad 0 c [] (by simp) (by simp) (by simp) (by omega) (by simp) (by simp)
      exact ⟨_, _, hr, app6_same hv⟩
  · obtain ⟨ad, rfl, hc⟩ : ∃ ad, ax = some ad ∧ ∀ j u, (syV zs)[j]? = some u → w.cell? (ad.add j) = some u := by
      have hat := hX.at2
      rcases hat with e | ⟨b, o, _, e, _⟩
      · subst e; simp at hzl; omega
      · exact ⟨_, e, by subst e; exact SyAt.news hX.at2⟩
    exact app6 w _ [] hv ad zs m c hzl (by omega) hc (by simp; omega)
theorem wpList_copy6 {w : World} {ops : Array Oper} {rest : List Oper} {o : Oper} {a : Act} {Q : Exit → Act → World → Prop} (hgd : o.guard = none) (s x : Operand)
    (ho : o.op = .call { callee := .builtin .append, args := #[s, x], argTypes := #[25, 25] })
    (g : Nat) (hs : a.eval s = .slice (some ⟨g, 0, none⟩) 0 0) (hv : OwS 0 (.slice (some ⟨g, 0, none⟩) 0 0) [] w) (ax : Option Addr) (zs : List Sy) (m c : Nat) (hzl : zs.length = m) (hx : a.eval x = .slice ax m c) (hX : OwS 0 (.slice ax m c) zs w) (hn : m ≤ 2900000000000)
    (h : ∀ v' w', App6 w w' (.slice (some ⟨g, 0, none⟩) 0 0) v' [] zs → wpList Try.prog ops Q rest (a.put o.dst v') w') : wpList Try.prog ops Q (o :: rest) a w := by
  refine wpList_plain hgd fun K hK => ?_
  obtain ⟨v', w', hr, h2⟩ := copy6 w g hv ax zs m c hzl hX hn
  unfold Oper.wp execOp
  simp only [ho, resolve, invoke, builtin, Sem.run_bind, Sem.run_pure, Result.andThen_ok, List.map_toArray, List.map_cons, List.map_nil, hs, hx, hr]
  exact hK _ _ (h v' w' h2)
theorem step_copy6 {w : World} {ops : Array Oper} {o : Oper} {a : Act} {K : Act → World → Prop} {Q : Exit → Act → World → Prop} {E : Prop} (hgd : o.guard = none) (s x : Operand)
    (ho : o.op = .call { callee := .builtin .append, args := #[s, x], argTypes := #[25, 25] })
    (g : Nat) (hs : a.eval s = .slice (some ⟨g, 0, none⟩) 0 0) (hv : OwS 0 (.slice (some ⟨g, 0, none⟩) 0 0) [] w) (ax : Option Addr) (zs : List Sy) (m c : Nat) (hzl : zs.length = m) (hx : a.eval x = .slice ax m c) (hX : OwS 0 (.slice ax m c) zs w) (hn : m ≤ 2900000000000)
    (h : ∀ v' w', App6 w w' (.slice (some ⟨g, 0, none⟩) 0 0) v' [] zs → K (a.put o.dst v') w') : if Region.wanted o (yielded ops a.tmps) = true then Oper.wp Try.prog o a w K Q else E := by
  have hw : Region.wanted o (yielded ops a.tmps) = true := by simp [Region.wanted, hgd]
  rw [if_pos hw]
  obtain ⟨v', w', hr, h2⟩ := copy6 w g hv ax zs m c hzl hX hn
  unfold Oper.wp execOp
  simp only [ho, resolve, invoke, builtin, Sem.run_bind, Sem.run_pure, Result.andThen_ok, List.map_toArray, List.map_cons, List.map_nil, hs, hx, hr]
  exact h v' w' h2
/-- the copy is new -/
theorem App6.copied {w w' : World} {v' : Value} {zs : List Sy} (h : App6 (w.alloc (.cells #[] 57)) w' (.slice (some ⟨w.heap.size, 0, none⟩) 0 0) v' [] zs) : OwS 0 v' zs w' ∧ Out w w' ∧ ∀ b, v'.ownBlock = some b → w.heap.size ≤ b := by
  refine ⟨by simpa using h.own, Chg.out h.chg ((Out.refl w).alloc _) (fun k hk => ?_), fun b hb => ?_⟩
  · simp [Value.ownBlock] at hk; omega
  · rcases h.blk b hb with e | e
    · simp [Value.ownBlock] at e; omega
    · rw [size_alloc] at e; omega
theorem void6 (w : World) : OwS 0 (.slice (some ⟨w.heap.size, 0, none⟩) 0 0) [] (w.alloc (.cells #[] 57)) := owns_void w 0 6 57 (Nat.zero_le _)
theorem put6_list (A C : List Value) (y0 y1 y2 y3 y4 y5 x0 x1 x2 x3 x4 x5 : Value) (k : Nat) (hk : A.length = k) : ((((((A ++ ([y0, y1, y2, y3, y4, y5] ++ C)).set k x0).set (k + 1) x1).set (k + 2) x2).set (k + 3) x3).set (k + 4) x4).set (k + 5) x5 = A ++ ([x0, x1, x2, x3, x4, x5] ++ C) := by
  subst hk
  simp [List.set_append]
theorem split6 (L : List Sy) (i : Nat) (x : Sy) (h : L[i]? = some x) : L = L.take i ++ (x :: L.drop (i + 1)) := by
  have hk : i < L.length := (List.getElem?_eq_some_iff.1 h).1
  have hd := List.drop_eq_getElem_cons hk
  have hx' : L[i] = x := by rw [List.getElem?_eq_getElem hk] at h; exact Option.some.inj h
  rw [hx'] at hd
  rw [← hd, List.take_append_drop]
/-- the six cells of a symbol are stored -/
def put6 (w : World) (g o : Nat) (a b c d e f : Int) : World := (((((w.setCell ⟨g, o, none⟩ (.int .i64 a)).setCell ⟨g, o + 1, none⟩ (.int .i64 b)).setCell ⟨g, o + 2, none⟩ (.int .i64 c)).setCell ⟨g, o + 3, none⟩ (.int .i64 d)).setCell ⟨g, o + 4, none⟩ (.int .i64 e)).setCell ⟨g, o + 5, none⟩ (.int .i64 f)
theorem OwS.put {B g n c : Nat} {L : List Sy} {w : World} (h : OwS B (.slice (some ⟨g, 0, none⟩) n c) L w) {i : Nat} (hi : i < L.length) (p0 p1 p2 p3 p4 p5 : Int) : OwS B (.slice (some ⟨g, 0, none⟩) n c) (L.set i ⟨p0, p1, p2, p3, p4, p5⟩) (put6 w g (i * 6) p0 p1 p2 p3 p4 p5) ∧ Chg (fun b => (Value.slice (some ⟨g, 0, none⟩) n c).ownBlock = some b) w (put6 w g (i * 6) p0 p1 p2 p3 p4 p5) := by
  have hl' : (L.set i ⟨p0, p1, p2, p3, p4, p5⟩).length = L.length := List.length_set
  refine ⟨⟨by rw [syV_len], ?_⟩, ?_⟩
  · rcases h.2 with ⟨hv, _⟩ | ⟨g', cap, cur, hv, hb, hg, hn, hm, hs, ht⟩
    · cases hv
    · rw [hl']
      simp only [Value.slice.injEq, Option.some.injEq, Addr.mk.injEq] at hv
      obtain ⟨⟨rfl, _⟩, hnn, rfl⟩ := hv
      have h4 := set_atL (set_atL (set_atL (set_atL (set_atL (set_atL hg (i * 6) (.int .i64 p0)) (i * 6 + 1) (.int .i64 p1)) (i * 6 + 2) (.int .i64 p2)) (i * 6 + 3) (.int .i64 p3)) (i * 6 + 4) (.int .i64 p4)) (i * 6 + 5) (.int .i64 p5)
      refine .inr ⟨g, c, _, by rw [hnn], hb, h4, hn, hm, by simpa using hs, ?_⟩
      simp only [Array.toList_setIfInBounds, List.take_set, ht]
      obtain ⟨x, hx⟩ : ∃ x, L[i]? = some x := ⟨_, List.getElem?_eq_getElem hi⟩
      have e1 : syV L = syV (L.take i) ++ ([.int .i64 x.na, .int .i64 x.bi, .int .i64 x.ki, .int .i64 x.se, .int .i64 x.va, .int .i64 x.si] ++ syV (L.drop (i + 1))) := by
        conv => lhs; rw [split6 L i x hx]
        rw [syV_app]; rfl
      have e2 : syV (L.set i ⟨p0, p1, p2, p3, p4, p5⟩) = syV (L.take i) ++ ([.int .i64 p0, .int .i64 p1, .int .i64 p2, .int .i64 p3, .int .i64 p4, .int .i64 p5] ++ syV (L.drop (i + 1))) := by
        rw [List.set_eq_take_append_cons_drop, if_pos hi, syV_app]; rfl
      have hl : (syV (L.take i)).length = i * 6 := by rw [syV_len, List.length_take, Nat.min_eq_left (by omega)]
      rw [e1, e2, put6_list _ _ _ _ _ _ _ _ _ _ _ _ _ _ (i * 6) hl]
  · exact ((((((Chg.refl (fun b => (Value.slice (some ⟨g, 0, none⟩) n c).ownBlock = some b) w).setCell (p := ⟨g, i * 6, none⟩) rfl _).setCell (p := ⟨g, i * 6 + 1, none⟩) rfl _).setCell (p := ⟨g, i * 6 + 2, none⟩) rfl _).setCell (p := ⟨g, i * 6 + 3, none⟩) rfl _).setCell (p := ⟨g, i * 6 + 4, none⟩) rfl _).setCell (p := ⟨g, i * 6 + 5, none⟩) rfl _
/-- a place of a list -/
theorem OwS.cells6 {B g n c : Nat} {L : List Sy} {w : World} (h : OwS B (.slice (some ⟨g, 0, none⟩) n c) L w) {i : Nat} {x : Sy} (hx : L[i]? = some x) : Cells6 w g (i * 6) x ∧ ∀ j, w.frozen? ⟨g, j, none⟩ = false := by
  obtain ⟨b, off, e, _, h6⟩ := h.at2.get hx
  simp only [Option.some.injEq, Addr.mk.injEq] at e
  obtain ⟨rfl, rfl, _⟩ := e
  rw [Nat.zero_add] at h6
  refine ⟨h6, fun j => ?_⟩
  obtain ⟨_, cs, hc⟩ := own_blkQ h (b := g) rfl
  exact frozen_atL hc j
theorem OwS.adr {B n c : Nat} {a : Option Addr} {L : List Sy} {w : World} (h : OwS B (.slice a n c) L w) (h0 : 0 < L.length) : ∃ g, a = some ⟨g, 0, none⟩ := by
  rcases h.2 with ⟨_, e⟩ | ⟨g, cap, cur, e, _⟩
  · omega
  · simp only [Value.slice.injEq] at e
    exact ⟨g, e.1⟩
theorem mks_set {l : Int} {n k : Nat} {N : List Sy} (hN : N.length = n) (hk : k < n) (h : N.take k = mks l 0 k) : (N.set k (mk6 l k)).take (k + 1) = mks l 0 (k + 1) := by
  rw [mks_succ, ← h, List.take_add_one, List.take_set, List.getElem?_set, if_pos rfl, if_pos (by omega)]
  rw [List.set_eq_of_length_le (by rw [List.length_take]; omega)]
  simp
theorem news6 (w : World) (l k : Int) (t : TypeId) : ∀ j u, (syV [mk6 l k])[j]? = some u → (w.alloc (.cells #[.int .i64 (-1 - l), .int .i64 k, .int .i64 7, .int .i64 l, .int .i64 (k + l), .int .i64 9] t)).cell? ((⟨w.heap.size, 0, none⟩ : Addr).add j) = some u := news_new w _ _ _ rfl
theorem news66 (w : World) (l k k2 : Int) (t : TypeId) : ∀ j u, (syV [mk6 l k, mk6 l k2])[j]? = some u → (w.alloc (.cells #[.int .i64 (-1 - l), .int .i64 k, .int .i64 7, .int .i64 l, .int .i64 (k + l), .int .i64 9, .int .i64 (-1 - l), .int .i64 k2, .int .i64 7, .int .i64 l, .int .i64 (k2 + l), .int .i64 9] t)).cell? ((⟨w.heap.size, 0, none⟩ : Addr).add j) = some u := news_new w _ _ _ rfl
end Go.Proofs.Ytbdmbicnlfcclaa
