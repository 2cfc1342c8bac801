import Derived.Test.YtlfcjbeldnkkoaaGb38
import Derived.Laws.AppendOwnNone
namespace Go.Proofs.Ytlfcjbeldnkkoaa
open Go.RowKit
set_option linter.unusedVariables false
set_option linter.unusedSimpArgs false
theorem appZ_same {w : World} {v : Value} (h : OwZ 0 v [] w) : App8 w w v v [] [] := ⟨h, Chg.refl _ _, fun b hb => .inl hb, fun B g M h _ => h, fun B g M h => ⟨M, rfl, h⟩, fun B g M h _ => h⟩
/-- a copy -/
theorem copyZ (w : World) (g : Nat) (hv : OwZ 0 (.slice (some ⟨g, 0, none⟩) 0 0) [] w) (ax : Option Addr) (zs : List Fs) (m c : Nat) (hzl : zs.length = m) (hX : OwZ 0 (.slice ax m c) zs w) (hn : m ≤ 1500000000000) :
    ∃ v' w', (∀ ty, (Builtin.append_ #[38, 38] ty #[.slice (some ⟨g, 0, none⟩) 0 0, .slice ax m c]).run Try.prog w = .ok v' w') ∧ App8 w w' (.slice (some ⟨g, 0, none⟩) 0 0) v' [] zs := by
  obtain ⟨i0, hi, hz0, hz1, hz2⟩ := info_parts infoSc
  by_cases h0 : m = 0
  · subst h0
    obtain rfl : zs = [] := List.length_eq_zero_iff.1 hzl
    cases ax with
    | none =>
      rcases hX.2 with ⟨e, _⟩ | ⟨_, _, _, e, _⟩
      · simp only [Value.slice.injEq] at e
        obtain ⟨_, _, rfl⟩ := e
        exact ⟨_, _, fun ty => run_append_owned_none (P := Try.prog) (w := w) 0 38 ty 46 i0 8 Try.underlying38 hi _ 0 [] hv, appZ_same hv⟩
      · cases e
    | some ad =>
      have hr := fun ty => run_append_room_cells (P := Try.prog) w 38 ty 46 i0 Try.underlying38 hi g 0 0 0 ad 0 c [] (by simp) (by simp) (by simp) (by omega) (by simp) (by simp)
      exact ⟨_, _, hr, appZ_same hv⟩
  · obtain ⟨ad, rfl, hc⟩ : ∃ ad, ax = some ad ∧ ∀ j u, (fsV zs)[j]? = some u → w.cell? (ad.add j) = some u := by
      rcases hX.2 with ⟨_, e⟩ | ⟨g', cap, cur, e, _⟩
      · omega
      · simp only [Value.slice.injEq] at e
        refine ⟨_, e.1, fun j u hu => ?_⟩
        exact World.ownsRow.cells hX (g := g') (by rw [e.1]; rfl) j u hu
    exact app8 w _ [] hv ad zs m c hzl (by omega) hc (by simp; omega)
theorem wpList_copyZ {w : World} {ops : Array Oper} {rest : List Oper} {o : Oper} {a : Act} {Q : Exit → Act → World → Prop} (hgd : o.guard = none) (s x : Operand)
    (ho : o.op = .call { callee := .builtin .append, args := #[s, x], argTypes := #[38, 38] })
    (g : Nat) (hs : a.eval s = .slice (some ⟨g, 0, none⟩) 0 0) (hv : OwZ 0 (.slice (some ⟨g, 0, none⟩) 0 0) [] w) (ax : Option Addr) (zs : List Fs) (m c : Nat) (hzl : zs.length = m) (hx : a.eval x = .slice ax m c) (hX : OwZ 0 (.slice ax m c) zs w) (hn : m ≤ 1500000000000)
    (h : ∀ v' w', App8 w w' (.slice (some ⟨g, 0, none⟩) 0 0) v' [] zs → wpList Try.prog ops Q rest (a.put o.dst v') w') : wpList Try.prog ops Q (o :: rest) a w := by
  refine wpList_plain hgd fun K hK => ?_
  obtain ⟨v', w', hr, h2⟩ := copyZ w g hv ax zs m c hzl hX hn
  unfold Oper.wp execOp
  simp only [ho, resolve, invoke, builtin, Sem.run_bind, Sem.run_pure, Result.andThen_ok, List.map_toArray, List.map_cons, List.map_nil, hs, hx, hr]
  exact hK _ _ (h v' w' h2)
theorem step_copyZ {w : World} {ops : Array Oper} {o : Oper} {a : Act} {K : Act → World → Prop} {Q : Exit → Act → World → Prop} {E : Prop} (hgd : o.guard = none) (s x : Operand)
    (ho : o.op = .call { callee := .builtin .append, args := #[s, x], argTypes := #[38, 38] })
    (g : Nat) (hs : a.eval s = .slice (some ⟨g, 0, none⟩) 0 0) (hv : OwZ 0 (.slice (some ⟨g, 0, none⟩) 0 0) [] w) (ax : Option Addr) (zs : List Fs) (m c : Nat) (hzl : zs.length = m) (hx : a.eval x = .slice ax m c) (hX : OwZ 0 (.slice ax m c) zs w) (hn : m ≤ 1500000000000)
    (h : ∀ v' w', App8 w w' (.slice (some ⟨g, 0, none⟩) 0 0) v' [] zs → K (a.put o.dst v') w') : if Region.wanted o (yielded ops a.tmps) = true then Oper.wp Try.prog o a w K Q else E := by
  have hw : Region.wanted o (yielded ops a.tmps) = true := by simp [Region.wanted, hgd]
  rw [if_pos hw]
  obtain ⟨v', w', hr, h2⟩ := copyZ w g hv ax zs m c hzl hX hn
  unfold Oper.wp execOp
  simp only [ho, resolve, invoke, builtin, Sem.run_bind, Sem.run_pure, Result.andThen_ok, List.map_toArray, List.map_cons, List.map_nil, hs, hx, hr]
  exact h v' w' h2
/-- the copy is new -/
theorem App8.copied {w w' : World} {v' : Value} {zs : List Fs} (h : App8 (w.alloc (.cells #[] 46)) w' (.slice (some ⟨w.heap.size, 0, none⟩) 0 0) v' [] zs) : OwZ 0 v' zs w' ∧ Out w w' ∧ ∀ b, v'.ownBlock = some b → w.heap.size ≤ b := by
  refine ⟨by simpa using h.own, Chg.out h.chg ((Out.refl w).alloc _) (fun k hk => ?_), fun b hb => ?_⟩
  · simp [Value.ownBlock] at hk; omega
  · rcases h.blk b hb with e | e
    · simp [Value.ownBlock] at e; omega
    · rw [size_alloc] at e; omega
theorem voidZ (w : World) : OwZ 0 (.slice (some ⟨w.heap.size, 0, none⟩) 0 0) [] (w.alloc (.cells #[] 46)) := owns_void w 0 8 46 (Nat.zero_le _)
theorem putZ_list (A C : List Value) (y0 y1 y2 y3 y4 y5 y6 y7 x0 x1 x2 x3 x4 x5 x6 x7 : Value) (k : Nat) (hk : A.length = k) : ((((((((A ++ ([y0, y1, y2, y3, y4, y5, y6, y7] ++ C)).set k x0).set (k + 1) x1).set (k + 2) x2).set (k + 3) x3).set (k + 4) x4).set (k + 5) x5).set (k + 6) x6).set (k + 7) x7 = A ++ ([x0, x1, x2, x3, x4, x5, x6, x7] ++ C) := by
  subst hk
  simp [List.set_append]
theorem splitZ (L : List Fs) (i : Nat) (x : Fs) (h : L[i]? = some x) : L = L.take i ++ (x :: L.drop (i + 1)) := by
  have hk : i < L.length := (List.getElem?_eq_some_iff.1 h).1
  have hd := List.drop_eq_getElem_cons hk
  have hx' : L[i] = x := by rw [List.getElem?_eq_getElem hk] at h; exact Option.some.inj h
  rw [hx'] at hd
  rw [← hd, List.take_append_drop]
/-- the eight cells of a section are stored -/
def putZ (w : World) (g o : Nat) (x : Fs) : World := (((((((w.setCell ⟨g, o, none⟩ (.string ⟨x.nm.toArray⟩)).setCell ⟨g, o + 1, none⟩ (.int .i64 x.ty)).setCell ⟨g, o + 2, none⟩ (.int .i64 x.fl)).setCell ⟨g, o + 3, none⟩ (.int .i64 x.li)).setCell ⟨g, o + 4, none⟩ (.int .i64 x.inf)).setCell ⟨g, o + 5, none⟩ (.int .i64 x.al)).setCell ⟨g, o + 6, none⟩ (.int .i64 x.es)).setCell ⟨g, o + 7, none⟩ (.slice x.da x.dl x.dc)
theorem OwZ.put {B g n c : Nat} {L : List Fs} {w : World} (h : OwZ B (.slice (some ⟨g, 0, none⟩) n c) L w) {i : Nat} (hi : i < L.length) (y : Fs) : OwZ B (.slice (some ⟨g, 0, none⟩) n c) (L.set i y) (putZ w g (i * 8) y) ∧ Chg (fun b => (Value.slice (some ⟨g, 0, none⟩) n c).ownBlock = some b) w (putZ w g (i * 8) y) := by
  have hl' : (L.set i y).length = L.length := List.length_set
  refine ⟨⟨by rw [fsV_len], ?_⟩, ?_⟩
  · rcases h.2 with ⟨hv, _⟩ | ⟨g', cap, cur, hv, hb, hg, hn, hm, hs, ht⟩
    · cases hv
    · rw [hl']
      simp only [Value.slice.injEq, Option.some.injEq, Addr.mk.injEq] at hv
      obtain ⟨⟨rfl, _⟩, hnn, rfl⟩ := hv
      have h4 := set_atL (set_atL (set_atL (set_atL (set_atL (set_atL (set_atL (set_atL hg (i * 8) (.string ⟨y.nm.toArray⟩)) (i * 8 + 1) (.int .i64 y.ty)) (i * 8 + 2) (.int .i64 y.fl)) (i * 8 + 3) (.int .i64 y.li)) (i * 8 + 4) (.int .i64 y.inf)) (i * 8 + 5) (.int .i64 y.al)) (i * 8 + 6) (.int .i64 y.es)) (i * 8 + 7) (.slice y.da y.dl y.dc)
      refine .inr ⟨g, c, _, by rw [hnn], hb, h4, hn, hm, by simpa using hs, ?_⟩
      simp only [Array.toList_setIfInBounds, List.take_set, ht]
      obtain ⟨x, hx⟩ : ∃ x, L[i]? = some x := ⟨_, List.getElem?_eq_getElem hi⟩
      have e1 : fsV L = fsV (L.take i) ++ ([.string ⟨x.nm.toArray⟩, .int .i64 x.ty, .int .i64 x.fl, .int .i64 x.li, .int .i64 x.inf, .int .i64 x.al, .int .i64 x.es, .slice x.da x.dl x.dc] ++ fsV (L.drop (i + 1))) := by
        conv => lhs; rw [splitZ L i x hx]
        rw [fsV_app]; rfl
      have e2 : fsV (L.set i y) = fsV (L.take i) ++ ([.string ⟨y.nm.toArray⟩, .int .i64 y.ty, .int .i64 y.fl, .int .i64 y.li, .int .i64 y.inf, .int .i64 y.al, .int .i64 y.es, .slice y.da y.dl y.dc] ++ fsV (L.drop (i + 1))) := by
        rw [List.set_eq_take_append_cons_drop, if_pos hi, fsV_app]; rfl
      have hl : (fsV (L.take i)).length = i * 8 := by rw [fsV_len, List.length_take, Nat.min_eq_left (by omega)]
      rw [e1, e2, putZ_list _ _ _ _ _ _ _ _ _ _ _ _ _ _ _ _ _ _ (i * 8) hl]
  · exact ((((((((Chg.refl (fun b => (Value.slice (some ⟨g, 0, none⟩) n c).ownBlock = some b) w).setCell (p := ⟨g, i * 8, none⟩) rfl _).setCell (p := ⟨g, i * 8 + 1, none⟩) rfl _).setCell (p := ⟨g, i * 8 + 2, none⟩) rfl _).setCell (p := ⟨g, i * 8 + 3, none⟩) rfl _).setCell (p := ⟨g, i * 8 + 4, none⟩) rfl _).setCell (p := ⟨g, i * 8 + 5, none⟩) rfl _).setCell (p := ⟨g, i * 8 + 6, none⟩) rfl _).setCell (p := ⟨g, i * 8 + 7, none⟩) rfl _
theorem OwZ.frz {B g n c : Nat} {L : List Fs} {w : World} (h : OwZ B (.slice (some ⟨g, 0, none⟩) n c) L w) : ∀ j, w.frozen? ⟨g, j, none⟩ = false := fun j => by
  obtain ⟨_, cs, hc⟩ := own_blkZ h (b := g) rfl
  exact frozen_atL hc j
theorem OwZ.adr {B n c : Nat} {a : Option Addr} {L : List Fs} {w : World} (h : OwZ B (.slice a n c) L w) (h0 : 0 < L.length) : ∃ g, a = some ⟨g, 0, none⟩ := by
  rcases h.2 with ⟨_, e⟩ | ⟨g, cap, cur, e, _⟩
  · omega
  · simp only [Value.slice.injEq] at e
    exact ⟨g, e.1⟩
theorem mks_set {l : Int} {n k : Nat} {N : List Fs} (hN : N.length = n) (hk : k < n) (h : N.take k = mks l 0 k) : (N.set k (mk8 l k)).take (k + 1) = mks l 0 (k + 1) := by
  rw [mks_succ, ← h, List.take_add_one, List.take_set, List.getElem?_set, if_pos rfl, if_pos (by omega)]
  rw [List.set_eq_of_length_le (by rw [List.length_take]; omega)]
  simp
theorem newsZ (w : World) (l k : Int) (t : TypeId) : ∀ j u, (fsV [mk8 l k])[j]? = some u → (w.alloc (.cells #[.string ⟨#[109, 105, 110, 101]⟩, .int .i64 (1000003 * l + k), .int .i64 0, .int .i64 0, .int .i64 0, .int .i64 0, .int .i64 0, .slice none 0 0] t)).cell? ((⟨w.heap.size, 0, none⟩ : Addr).add j) = some u := news_new w _ _ _ rfl
end Go.Proofs.Ytlfcjbeldnkkoaa
namespace Go.Proofs.Ytlfcjbeldnkkoaa
open Go.RowKit
set_option linter.unusedVariables false
set_option linter.unusedSimpArgs false
/-- the queue's blocks -/
def ZSZ (p : Nat) (r : Nat → Value) (F : List Value) (b : Nat) : Prop := b = p ∨ (∃ j, j < 4 ∧ (r j).ownBlock = some b) ∨ ∃ x ∈ F, x.ownBlock = some b
/-- the queue between two calls -/
structure ZI (B : Nat) (w : World) (p : Nat) (ct tt : Int) (r : Nat → Value) (L : Nat → List Value) : Prop where
  sh : ShZ w p ct tt r L
  wl : (L 1).length = (L 0).length
  kl : (L 3).length = (L 2).length
  pf : PrZ w (L 0) (L 1)
  pk : PrZ w (L 2) (L 3)
  bl : ∀ x ∈ L 0, ∃ N : List Fs, N.length ≤ 100000000000 ∧ OwZ 0 x N w
  ds : DstZ (L 0)
  ap : ∀ (l : Nat) y b, (L 2)[l]? = some y ∨ (L 3)[l]? = some y → y.ownBlock = some b → ∀ (j : Nat) x, (L 0)[j]? = some x → ¬ x.ownBlock = some b
  lb : ∀ b, ZSZ p r (L 0) b → B ≤ b
theorem ZI.out {B : Nat} {w w' : World} {p : Nat} {ct tt : Int} {r : Nat → Value} {L : Nat → List Value} (h : ZI B w p ct tt r L) (o : Out w w') : ZI B w' p ct tt r L :=
  ⟨h.sh.out o, h.wl, h.kl, h.pf.out o, h.pk.out o, fun x hx => by
    obtain ⟨N, h1, h2⟩ := h.bl x hx
    exact ⟨N, h1, h2.out o⟩, h.ds, h.ap, h.lb⟩
theorem ZI.start {B : Nat} {w : World} {p : Nat} {ct tt : Int} {r : Nat → Value} {L : Nat → List Value} (h : ZI B w p ct tt r L) (base : Int) : WZ w p ct tt r (L 0) base w (L 2) (L 3) [] [] 0 0 :=
  ⟨r, L, h.sh, rfl, rfl, by simp, by simp, h.kl, rfl, h.pk, fun l y b hy hb j x _ hx => h.ap l y b hy hb j x hx, fun j x _ hx => by
    obtain ⟨N, h1, h2⟩ := h.bl x (List.mem_of_getElem? hx)
    exact ⟨N, h1, h2, fun h => by omega⟩, fun x hx b hb => by
    obtain ⟨N, _, h2⟩ := h.bl x hx
    exact (own_blkZ h2 hb).1, fun b hb => .inl hb, fun b hb => .inl hb, Chg.refl _ _⟩
/-- a row is done away with -/
theorem ShZ.nil {w : World} {p : Nat} {ct tt : Int} {r : Nat → Value} {L : Nat → List Value} (h : ShZ w p ct tt r L) (j : Nat) (hj : j < 4) : ShZ (w.setCell ⟨p, 3 + j, none⟩ (.slice none 0 0)) p ct tt (upd r j (.slice none 0 0)) (upd L j []) := by
  refine ShZ.store h.st j hj _ _ (fun i hi => ?_) (fun i k b hi hk hne hib hkb => ?_)
  · unfold upd
    by_cases hij : i = j
    · rw [if_pos hij, if_pos hij]; exact World.ownsRow_nil _ _ _ _
    · rw [if_neg hij, if_neg hij]; exact h.row i hi
  · unfold upd at hib hkb
    by_cases hij : i = j
    · rw [if_pos hij] at hib; cases hib
    · by_cases hkj : k = j
      · rw [if_pos hkj] at hkb; cases hkb
      · rw [if_neg hij] at hib; rw [if_neg hkj] at hkb; exact h.sep i k b hi hk hne hib hkb
/-- what a writing leaves behind -/
def WrZ (B : Nat) (w : World) (p : Nat) (ct tt : Int) (r : Nat → Value) (L : Nat → List Value) (kn : Nat) (w' : World) : Prop :=
  ∃ r' L', ZI B w' p ct tt r' L' ∧ L' 0 = [] ∧ (L' 2).length = kn ∧ Chg (ZSZ p r (L 0)) w w'
theorem WrZ.out {B : Nat} {w w1 w' : World} {p : Nat} {ct tt : Int} {r : Nat → Value} {L : Nat → List Value} {kn : Nat} (h : WrZ B w p ct tt r L kn w1) (o : Out w1 w') : WrZ B w p ct tt r L kn w' := by
  obtain ⟨r', L', h1, h2, h3, h4⟩ := h
  exact ⟨r', L', h1.out o, h2, h3, h4.then_out o⟩
theorem WZ.done {B : Nat} {w : World} {p : Nat} {ct tt : Int} {r : Nat → Value} {L : Nat → List Value} {base : Int} {wr : World} {K W : List Value} {lo hi kn : Nat} (hq : ZI B w p ct tt r L) (h : WZ w p ct tt r (L 0) base wr K W [] [] lo hi) (hk : K.length = kn) : WrZ B w p ct tt r L kn ((wr.setCell ⟨p, 3, none⟩ (.slice none 0 0)).setCell ⟨p, 4, none⟩ (.slice none 0 0)) := by
  obtain ⟨r1, L1, h⟩ := h
  have hs : ShZ ((wr.setCell ⟨p, 3, none⟩ (.slice none 0 0)).setCell ⟨p, 4, none⟩ (.slice none 0 0)) p ct tt (upd (upd r1 0 (.slice none 0 0)) 1 (.slice none 0 0)) (upd (upd L1 0 []) 1 []) := (h.sh.nil 0 (by omega)).nil 1 (by omega)
  have c : Chg (fun b => b = p) wr ((wr.setCell ⟨p, 3, none⟩ (.slice none 0 0)).setCell ⟨p, 4, none⟩ (.slice none 0 0)) := ((Chg.refl (fun b => b = p) wr).setCell (p := ⟨p, 3, none⟩) rfl _).setCell (p := ⟨p, 4, none⟩) rfl _
  have l2 : L1 2 = K := by rw [h.l2]; simp
  have l3 : L1 3 = W := by rw [h.l3]; simp
  have hpB : B ≤ p := hq.lb p (.inl rfl)
  have hpw := hq.sh.lt
  refine ⟨_, _, ⟨hs, rfl, ?_, (fun i x y hx => by cases hx), ?_, (fun x hx => by cases hx), (fun i j x y hx => by cases hx), (fun l y b _ _ j x hx => by cases hx), fun b hb => ?_⟩, rfl, ?_, h.chg.trans c (fun b hb _ => .inl hb) |>.mono (fun b hb _ => ?_)⟩
  · show (L1 3).length = (L1 2).length; rw [l2, l3]; exact h.kl
  · show PrZ _ (L1 2) (L1 3)
    rw [l2, l3]
    intro i x y hx hy
    obtain ⟨N, a1, c1, a2, c2, e1, e2, o1, o2, hb⟩ := h.pr i x y hx hy
    exact ⟨N, a1, c1, a2, c2, e1, e2, o1.chg c (fun b hb he => h.sh.soq o1 hb (.inl he)), o2.chg c (fun b hb he => h.sh.soq o2 hb (.inl he)), hb⟩
  · rcases hb with e | ⟨j, hj, e⟩ | ⟨x, hx, _⟩
    · rw [e]; exact hpB
    · obtain rfl | rfl | rfl | rfl : j = 0 ∨ j = 1 ∨ j = 2 ∨ j = 3 := by omega
      · cases e
      · cases e
      · rcases h.b2 b e with e | e
        · exact hq.lb b (.inr (.inl ⟨2, by omega, e⟩))
        · omega
      · rcases h.b3 b e with e | e
        · exact hq.lb b (.inr (.inl ⟨3, by omega, e⟩))
        · omega
    · cases hx
  · show (L1 2).length = kn; rw [l2]; exact hk
  · rcases hb with e | e | e | e
    · exact .inl e
    · exact .inr (.inl ⟨2, by omega, e⟩)
    · exact .inr (.inl ⟨3, by omega, e⟩)
    · exact .inr (.inr e)
/-- amid the marking of a list -/
def MkZ (wr : World) (f : Value) (l : Int) (n k : Nat) : Prop := ∃ N : List Fs, N.length = n ∧ OwZ 0 f N wr ∧ N.take k = mks l 0 k
end Go.Proofs.Ytlfcjbeldnkkoaa
namespace Go.Proofs.Ytlfcjbeldnkkoaa
open Go.RowKit
set_option linter.unusedVariables false
set_option linter.unusedSimpArgs false
theorem ExZ.kp {w w' : World} {v : Value} {n : Nat} (h : ExZ w v n) (k : ∀ B v N, OwZ B v N w → OwZ B v N w') : ExZ w' v n := by
  obtain ⟨M, h1, h2⟩ := h
  exact ⟨M, h1, k _ _ _ h2⟩
theorem App8.form0 {w w' : World} {v v' : Value} {zs : List Fs} (h : App8 w w' v v' [] zs) {m : Nat} (hm : zs.length = m) : ∃ a c, v' = .slice a m c := by
  obtain ⟨a, c, e⟩ := own_form h.own
  exact ⟨a, c, by rw [e, List.nil_append, hm]⟩
/-- within a round, ahead of the keeping: the list f lies as it was -/
structure RnZ (w0 wr : World) (f : Value) (M : List Fs) : Prop where
  own : OwZ 0 f M wr
  chg : Chg (fun b => f.ownBlock = some b) w0 wr
theorem RnZ.out {w0 wr w' : World} {f : Value} {M : List Fs} (h : RnZ w0 wr f M) (o : Out wr w') : RnZ w0 w' f M := ⟨h.own.out o, h.chg.then_out o⟩
theorem RnZ.app {w0 wr w' : World} {f g : Value} {M zs : List Fs} (h : RnZ w0 wr f M) (a : App8 wr w' f g M zs) : RnZ w0 w' f M := ⟨a.pre 0 f M h.own (Nat.le_refl _), h.chg.trans a.chg (fun _ hb _ => hb)⟩
/-- where what was grown out of f lies -/
def GBZ (w : World) (f g : Value) : Prop := ∀ b, g.ownBlock = some b → f.ownBlock = some b ∨ w.heap.size ≤ b
theorem GBZ.app {w wr w' : World} {f g : Value} {M zs : List Fs} (a : App8 wr w' f g M zs) (h : w.heap.size ≤ wr.heap.size) : GBZ w f g := fun b hb => by
  rcases a.blk b hb with e | e
  · exact .inl e
  · exact .inr (by omega)
section
variable {w : World} {p : Nat} {ct tt : Int} {r0 : Nat → Value} {F : List Value} {base : Int} {wr w' : World} {K W P R : List Value} {lo hi : Nat}
/-- the blocks of what is at rest -/
theorem WZ.old (h : WZ w p ct tt r0 F base wr K W P R lo hi) (l : Nat) (y : Value) (b : Nat) (hy : K[l]? = some y ∨ W[l]? = some y) (hb : y.ownBlock = some b) : b < wr.heap.size := by
  obtain ⟨r, L, h⟩ := h
  rcases hy with hy | hy
  · obtain ⟨z, hz⟩ : ∃ z, W[l]? = some z := ⟨_, List.getElem?_eq_getElem (by rw [h.kl]; exact (List.getElem?_eq_some_iff.1 hy).1)⟩
    obtain ⟨N, _, _, _, _, _, _, o1, _⟩ := h.pr l y z hy hz
    exact (own_blkZ o1 hb).1
  · obtain ⟨z, hz⟩ : ∃ z, K[l]? = some z := ⟨_, List.getElem?_eq_getElem (by rw [← h.kl]; exact (List.getElem?_eq_some_iff.1 hy).1)⟩
    obtain ⟨N, _, _, _, _, _, _, _, o2, _⟩ := h.pr l z y hz hy
    exact (own_blkZ o2 hb).1
/-- the list in place i turns, and newer ones -/
theorem WZ.turn2 (h : WZ w p ct tt r0 F base wr K W P R lo hi) (hd : DstZ F) {i : Nat} {f : Value} {S : Nat → Prop} {M : List Fs} (hf : F[i]? = some f) (hlo : lo ≤ i) (c : Chg S wr w') (hS : ∀ b, b < wr.heap.size → S b → f.ownBlock = some b ∨ (w.heap.size ≤ b ∧ (∀ (l : Nat) y, K[l]? = some y ∨ W[l]? = some y → ¬ y.ownBlock = some b) ∧ ∃ cs, wr.heap[b]? = some (.cells cs 46 (0, 0)))) (hM : M.length ≤ 100000000000) (ho : OwZ 0 f M w') (hm : i < hi → M = mks (base + i) 0 M.length) : WZ w p ct tt r0 F base w' K W P R lo hi := by
  have hold := h.old
  obtain ⟨r, L, h⟩ := h
  obtain ⟨N0, _, ho0, _⟩ := h.fm i f hlo hf
  have hsz := h.chg.size
  refine ⟨r, L, h.sh.sym c (fun b hb hs => ?_), h.r0_, h.l0, h.l2, h.l3, h.kl, h.pl, h.pr.chg c (fun l y b hy hb hs => ?_), h.ks, fun j x hj hx => ?_, h.fb, h.b2, h.b3, h.chg.trans c (fun b hs hb => ?_)⟩
  · rcases hS b hb hs with e | ⟨_, _, e⟩
    · exact (own_blkZ ho0 e).2
    · exact e
  · rcases hS b (hold l y b hy hb) hs with e | ⟨_, e, _⟩
    · exact h.ks l y b hy hb i f hlo hf e
    · exact e l y hy hb
  · by_cases hji : j = i
    · subst hji
      rw [hf] at hx
      obtain rfl := Option.some.inj hx
      exact ⟨M, hM, ho, hm⟩
    · obtain ⟨N1, h1, h2, h3⟩ := h.fm j x hj hx
      refine ⟨N1, h1, h2.chg c (fun b hb hs => ?_), h3⟩
      rcases hS b (own_blkZ h2 hb).1 hs with e | ⟨e, _⟩
      · exact hd j i x f hx hf hji b hb e
      · have := h.fb x (List.mem_of_getElem? hx) b hb
        omega
  · rcases hS b (by omega) hs with e | ⟨e, _⟩
    · exact .inr (.inr (.inr ⟨f, List.mem_of_getElem? hf, e⟩))
    · omega
/-- a pair is kept, and at rest -/
theorem WZ.keepRest (h : WZ w p ct tt r0 F base wr K W [] [] lo hi) (hd : DstZ F) {i : Nat} {f : Value} (hf : F[i]? = some f) (hlo : i < lo) (hK : K.length ≤ 1000000000000) {a a' : Option Addr} {n c c' : Nat} {N : List Fs} (hn : N.length ≤ 1000000000000) (h1 : OwZ 0 (.slice a n c) N wr) (h2 : OwZ 0 (.slice a' n c') N wr) (g1 : GBZ w f (.slice a n c)) (g2 : ∀ b, (Value.slice a' n c').ownBlock = some b → w.heap.size ≤ b) :
    Calls Try.prog 86 #[.pointer (some ⟨p, 0, none⟩), .slice a n c, .slice a' n c'] wr fun e w' => (∃ q, e = .returned q) ∧ WZ w p ct tt r0 F base w' (K ++ [.slice a n c]) (W ++ [.slice a' n c']) [] [] lo hi ∧ (∀ B v N, OwZ B v N wr → OwZ B v N w') := by
  refine (h.keep (by simpa using hK) a a' n c n c').mono ?_
  rintro e w' ⟨he, hw, hk, _⟩
  refine ⟨he, hw.rest hn (hk _ _ _ h1) (hk _ _ _ h2) (fun b hb j z hj hz => ?_) (fun b hb j z hj hz => hw.new (g2 b hb) j z hz), hk⟩
  rcases g1 b hb with e | e
  · exact fun e2 => hd j i z f hz hf (by omega) b e2 e
  · exact hw.new e j z hz
end
/-- amid the growing: the list, what it must hold, the marks, and those that were grown: all stand, whatever more of the marks is written -/
structure GrZ (w0 wr : World) (f full more one many : Value) (M R : List Fs) (k : Nat) : Prop where
  fown : OwZ 0 f M wr
  uown : OwZ 0 full M wr
  mown : OwZ 0 more R wr
  own1 : OwZ 0 one (M ++ R.take 1) wr
  grow : OwZ 0 many (M ++ R.take k) wr
  chg : Chg (fun b => f.ownBlock = some b) w0 wr
  b1 : ∀ b, one.ownBlock = some b → f.ownBlock = some b ∨ w0.heap.size ≤ b
  bg : ∀ b, many.ownBlock = some b → f.ownBlock = some b ∨ w0.heap.size ≤ b
theorem GrZ.out {w0 wr w' : World} {f full more one many : Value} {M R : List Fs} {k : Nat} (h : GrZ w0 wr f full more one many M R k) (o : Out wr w') : GrZ w0 w' f full more one many M R k := ⟨h.fown.out o, h.uown.out o, h.mown.out o, h.own1.out o, h.grow.out o, h.chg.then_out o, h.b1, h.bg⟩
/-- what agrees with one more mark -/
theorem agr_take {M R : List Fs} {k i : Nat} {z : Fs} (hk : R[k]? = some z) : ∀ j y, [z][j]? = some y → (M ++ R.take i)[(M ++ R.take k).length + j]? = none ∨ (M ++ R.take i)[(M ++ R.take k).length + j]? = some y := by
  intro j y hy
  obtain rfl : j = 0 := by have := (List.getElem?_eq_some_iff.1 hy).1; simp at this; omega
  simp at hy
  subst hy
  have hkl := (List.getElem?_eq_some_iff.1 hk).1
  have hl : (M ++ R.take k).length + 0 = M.length + k := by simp; omega
  rw [hl, List.getElem?_append_right (by omega), show M.length + k - M.length = k by omega, List.getElem?_take]
  split
  · exact .inr hk
  · exact .inl rfl
theorem agr_all {M R : List Fs} {k i : Nat} : ∀ j y, R[j]? = some y → (M ++ R.take i)[M.length + j]? = none ∨ (M ++ R.take i)[M.length + j]? = some y := by
  intro j y hy
  rw [List.getElem?_append_right (by omega), show M.length + j - M.length = j by omega, List.getElem?_take]
  split
  · exact .inr hy
  · exact .inl rfl
/-- one place more -/
theorem GrZ.step {w0 wr w' : World} {f full more one many many' : Value} {M R : List Fs} {k : Nat} {z : Fs} (h : GrZ w0 wr f full more one many M R k) (hk : R[k]? = some z) (a : App8 wr w' many many' (M ++ R.take k) [z]) (hm : ∀ b, many.ownBlock = some b → ¬ more.ownBlock = some b) : GrZ w0 w' f full more one many' M R (k + 1) := by
  have e : M ++ R.take (k + 1) = M ++ R.take k ++ [z] := by rw [List.take_add_one, hk]; simp
  have hs := h.chg.size
  have hM : ∀ B g, OwZ B g M wr → OwZ B g M w' := fun B g hg => a.pre B g M hg (by simp)
  refine ⟨hM _ _ h.fown, hM _ _ h.uown, h.mown.chg a.chg (fun b hb hc => hm b hc hb), a.agr _ _ _ h.own1 (agr_take hk), by rw [e]; exact a.own, h.chg.trans a.chg (fun b hb hlt => ?_), h.b1, fun b hb => ?_⟩
  · rcases h.bg b hb with e | e
    · exact e
    · omega
  · rcases a.blk b hb with e | e
    · exact h.bg b e
    · exact .inr (by omega)
end Go.Proofs.Ytlfcjbeldnkkoaa
namespace Go.Proofs.Ytlfcjbeldnkkoaa
open Go.RowKit
set_option linter.unusedVariables false
set_option linter.unusedSimpArgs false
theorem newsz (w : World) (z l k : Int) (h : z = 1000003 * l + k) (t : TypeId) : ∀ j u, (fsV [mk8 l k])[j]? = some u → (w.alloc (.cells #[.string ⟨#[109, 105, 110, 101]⟩, .int .i64 z, .int .i64 0, .int .i64 0, .int .i64 0, .int .i64 0, .int .i64 0, .slice none 0 0] t)).cell? ((⟨w.heap.size, 0, none⟩ : Addr).add j) = some u := by
  subst h
  exact newsZ w l k t
set_option maxRecDepth 8000 in
set_option maxHeartbeats 1000000 in
theorem marks9_any (w : World) (z l a : Int) (n : Nat) (hz : z = 1000003 * l + a) (z0 : 0 ≤ z) (z1 : z ≤ 4000000000000000000) (hn : n ≤ 1000000000000) : Calls Try.prog 85 #[.int .i64 z, .int .i64 (n : Int)] w fun e w' => ∃ ad c, e = .returned (.slice ad n c) ∧ OwZ 0 (.slice ad n c) (mks l a n) w' ∧ (∀ b, (Value.slice ad n c).ownBlock = some b → w.heap.size ≤ b) ∧ Out w w' := by
  have Hz := hidOf hz
  clear hz
  go_enter Try.func85, Try.ntmps85
  go_wp2
  go_loopw [5, 6] (fun ov iv wr => ∃ (i : Nat) (ad : Option Addr) (c : Nat), ov = .slice ad i c ∧ iv = .int .i64 i ∧ i ≤ n ∧ Hid (OwZ 0 (.slice ad i c) (mks l a i) wr) ∧ Hid (∀ b, (Value.slice ad i c).ownBlock = some b → w.heap.size ≤ b) ∧ Hid (Out w wr)) (fun _ iv _ => n - (intOf iv).toNat)
  case atStart => exact ⟨0, none, 0, rfl, rfl, by omega, hidOf (World.ownsRow_nil _ _ _ _), hidOf (fun b hb => by cases hb), hidOf (Out.refl _)⟩
  case round =>
    obtain ⟨i, ad, c, rfl, rfl, hi, HW, HB, HO⟩ := hrel
    by_cases hlt : i < n
    · have hltI : (i : Int) < n := by omega
      have h0 : (0 : Int) ≤ i := by omega
      have hnI : (n : Int) ≤ 1000000000000 := by omega
      have Hzi : Hid (z + (i : Int) = 1000003 * l + (a + (i : Int))) := hidOf (by rw [Hz.out]; omega)
      go_wp2_with (first | (go_at_call 84; refine (mine9_any _ _).mono ?_; rintro e w4 ⟨rfl, ho⟩; have P4 := hidOf ho; clear ho) | (at_builtin; refine wpList_app8 rfl (.tmp 12) (.tmp 17) rfl (.slice ad i c) (mks l a i) rfl ((HW.out.out P4.out).out ((Out.refl w4).alloc _)) ⟨w4.heap.size, 0, none⟩ [mk8 l (a + (i : Int))] 1 1 rfl (by omega) rfl (newsz w4 _ _ _ Hzi.out _) (by rw [mks_len]; omega) ?_; intro v5 w5 ha; obtain ⟨a5, c5, rfl⟩ := ha.form (mks_len _ _ _) rfl; have A5 := hidOf ha; clear ha))
      refine ⟨⟨i + 1, a5, c5, rfl, by simp, by omega, hidOf (by rw [mks_succ]; exact A5.out.own), hidOf (fun b hb => ?_), hidOf ?_⟩, by simp [intOf] <;> omega⟩
      · have h1 := HO.out.size
        have h2 := P4.out.size
        rcases A5.out.blk b hb with e | e
        · exact HB.out b e
        · rw [size_alloc] at e; omega
      · exact Chg.out A5.out.chg ((HO.out.trans P4.out).alloc _) (fun k hk => HB.out k hk)
    · have hltI : ¬ (i : Int) < n := by omega
      obtain rfl : i = n := by omega
      go_wp2
      go_ret
      exact ⟨ad, c, rfl, HW.out, HB.out, HO.out⟩
end Go.Proofs.Ytlfcjbeldnkkoaa
namespace Go.Proofs.Ytlfcjbeldnkkoaa
open Go.RowKit
set_option linter.unusedVariables false
set_option linter.unusedSimpArgs false
set_option maxRecDepth 8000 in
set_option maxHeartbeats 1000000 in
theorem copied9_any (w : World) (ax : Option Addr) (m c : Nat) (zs : List Fs) (hl : zs.length = m) (hX : OwZ 0 (.slice ax m c) zs w) (hn : m ≤ 1000000000000) : Calls Try.prog 67 #[.slice ax m c] w fun e w' => ∃ ad cc, e = .returned (.slice ad m cc) ∧ OwZ 0 (.slice ad m cc) zs w' ∧ (∀ b, (Value.slice ad m cc).ownBlock = some b → w.heap.size ≤ b) ∧ Out w w' := by
  have HX := hidOf hX
  have Hl := hidOf hl
  clear hX hl
  go_enter Try.func67, Try.ntmps67
  go_wp2_with (at_builtin; (first | refine wpList_copyZ rfl (.tmp 2) (.tmp 3) rfl w.heap.size rfl (voidZ w) ax zs m c Hl.out rfl (HX.out.out ((Out.refl w).alloc _)) (by omega) ?_ | refine wpList_copyZ rfl (.tmp 3) (.tmp 4) rfl w.heap.size rfl (voidZ w) ax zs m c Hl.out rfl (HX.out.out ((Out.refl w).alloc _)) (by omega) ?_); intro v5 w5 ha; obtain ⟨a5, c5, rfl⟩ := own_form ha.own; rw [List.nil_append, Hl.out] at ha ⊢; have A5 := hidOf ha; clear ha)
  go_ret
  obtain ⟨h1, h2, h3⟩ := A5.out.copied
  exact ⟨a5, c5, rfl, h1, h3, h2⟩
end Go.Proofs.Ytlfcjbeldnkkoaa
