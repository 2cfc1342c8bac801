import Derived.Test.YtekjfbmebekmeaaGreatGa40
namespace Go.Proofs.YtekjfbmebekmeaaGreat
open Go.RowKit
set_option linter.unusedVariables false
set_option linter.unusedSimpArgs false
section
variable {B m m' d : Nat} {w w0 w1 w2 : World} {t t0 t1 t2 : DkT}
theorem DkR.trans (h : DkR B d m w0 t0 w1 t1) (k : DkR B d m' w1 t1 w2 t2) : DkR B d m' w0 t0 w2 t2 :=
  ⟨k.dk, h.chg.trans k.chg (fun x hx hl => h.into hx hl), fun x hx => (k.new x hx).elim (fun e => h.new x e) (fun e => .inr (Nat.le_trans h.chg.size e))⟩
theorem DkR.chgQ (h : DkR B d m w0 t0 w1 t1) {q : Nat} (c : Chg (fun b => b = q) w1 w2) (hq : ¬ t1.fp d q) (h0 : w0.heap.size ≤ q) : DkR B d m w0 t0 w2 t1 :=
  ⟨h.dk.keep c (fun k hk e => hq (by subst e; exact hk)), h.chg.trans c (fun k hk hl => by omega), h.new⟩
theorem Dk.fA_lt (h : Dk B w d t m) {k : Nat} (hk : t.fA k) : k < w.heap.size := (h.lt (.inl hk)).2
theorem dbs_filter {A C : List Rg} {p q : Rg → Bool} {b : Nat} (h : dbs (A.filter p ++ C.filter q) b) : dbs (A ++ C) b := by
  obtain ⟨z, hz, hb⟩ := h
  rcases List.mem_append.1 hz with hz | hz
  · exact ⟨z, List.mem_append_left _ (List.mem_filter.1 hz).1, hb⟩
  · exact ⟨z, List.mem_append_right _ (List.mem_filter.1 hz).1, hb⟩
theorem fpA_upd {s : Nat} {v1 v2 : Value} {X Y : List Rw} {f : Nat} {b : List UInt8} {k : Nat} (h : fpA s v1 v2 (updX f b X) Y k) : fpA s v1 v2 X Y k := by
  rcases h with (h | h | h) | ⟨z, hz, hb⟩
  · exact .inl (.inl h)
  · refine .inl (.inr (.inl ?_))
    rcases h with h | ⟨x, hx, rfl⟩
    · exact .inl h
    · obtain ⟨y, hy, rfl⟩ := List.mem_map.1 hx
      exact .inr ⟨y, hy, rfl⟩
  · exact .inl (.inr (.inr h))
  · refine .inr ?_
    rw [flat_updX] at hz
    rcases List.mem_append.1 hz with hz | hz
    · obtain ⟨y, hy, rfl⟩ := List.mem_map.1 hz
      exact ⟨y, List.mem_append_left _ hy, by rw [updR_a] at hb; exact hb⟩
    · exact ⟨z, List.mem_append_right _ hz, hb⟩
theorem dRemove (h : DkR B d m w0 t0 w t) (hm : m ≤ 5864062014804) (P : List (Nat × List UInt8)) (hP : P.Perm ((flat t.X ++ flat t.Y).map fdR)) (f : Nat) (hf : f < 18446744073709551616) :
    Calls Tryz.prog 26 #[.pointer (some ⟨t.s, 0, none⟩), .int .u64 f] w fun e w' => ∃ v1 v2 X Y, e = .returned (.int .i64 (RemQ P f).2) ∧ DkR B d m w0 t0 w' { t with v1 := v1, v2 := v2, X := X, Y := Y } ∧ (RemQ P f).1.Perm ((flat X ++ flat Y).map fdR) ∧ Chg t.fA w w' := by
  refine (Remove_any w B t.s t.v1 t.v2 t.X t.Y m f h.dk.sp hm hf).mono ?_
  intro e w' hr
  have ha := rem_any hP f
  rcases hr with ⟨hn, he, ho⟩ | ⟨hy, he, v1, v2, X, Y, sp, c, hnew, eX, eY⟩
  · rw [hn] at ha
    refine ⟨t.v1, t.v2, t.X, t.Y, ?_, h.out ho, ?_, Chg.of_out ho⟩
    · rw [he]; simp [RemQ, ha]
    · simp only [RemQ, ha, Bool.false_eq_true, if_false]; exact hP
  · rw [hy] at ha
    have c2 : Chg t.fA w w' := c.mono (fun k hk _ => .inl hk)
    refine ⟨v1, v2, X, Y, ?_, h.prog sp c2 (fun k hk => ?_), ?_, c2⟩
    · rw [he]; simp [RemQ, ha]
    · rcases hk with hk | hk
      · exact (hnew k hk).imp (fun e => .inl e) id
      · rw [eX, eY] at hk; exact .inl (.inr (dbs_filter hk))
    · simp only [RemQ, ha, if_true]; rw [eX, eY]; exact rem_perm hP f
theorem putQ_none {F E : List Rg} {P : List (Nat × List UInt8)} (h : SpOk F E) (hp : P.Perm ((F ++ E).map fdR)) (at_ : Nat) (b : List UInt8) (hb : ¬ b = []) (ha : acP F at_ b.length = none) : PutQ P at_ b = (P, 200) := by
  unfold PutQ
  rw [if_neg hb]
  rcases fnd_acP h hp at_ b.length with ⟨e, _⟩ | ⟨i, y, _, _, _, e, _⟩
  · rw [e]
  · rw [ha] at e; cases e
theorem putQ_some {F E : List Rg} {P : List (Nat × List UInt8)} (h : SpOk F E) (hp : P.Perm ((F ++ E).map fdR)) (at_ : Nat) (b : List UInt8) (hb : ¬ b = []) {y : Rg} {o : Nat} (ha : acP F at_ b.length = some (y, o)) : (PutQ P at_ b).2 = 0 ∧ (PutQ P at_ b).1.Perm (((F.map (updR y.f (layL y.d o b))) ++ E).map fdR) := by
  unfold PutQ
  rw [if_neg hb]
  rcases fnd_acP h hp at_ b.length with ⟨_, e⟩ | ⟨i, z, e1, e2, hz, e, _⟩
  · rw [ha] at e; cases e
  · rw [ha] at e
    simp only [Option.some.injEq, Prod.mk.injEq] at e
    obtain ⟨rfl, rfl⟩ := e
    rw [e1]
    exact ⟨rfl, putP_perm h hp e2 hz b⟩
theorem dStore (h : DkR B d m w0 t0 w t) (P : List (Nat × List UInt8)) (hP : P.Perm ((flat t.X ++ flat t.Y).map fdR)) (at_ x : Nat) (N : Int) (ha : at_ < 18446744073709551616) (hx : x < 18446744073709551616) :
    Calls Tryz.prog 30 #[.pointer (some ⟨t.s, 0, none⟩), .int .u64 at_, .int .i64 N, .int .u64 x] w fun e w' => ∃ v1 v2 X Y, e = .returned (.int .i64 (PutQ P at_ (bysN x (widN N))).2) ∧ DkR B d m w0 t0 w' { t with v1 := v1, v2 := v2, X := X, Y := Y } ∧ (PutQ P at_ (bysN x (widN N))).1.Perm ((flat X ++ flat Y).map fdR) ∧ Chg t.fA w w' := by
  have hb : ¬ bysN x (widN N) = [] := fun e => by
    have h1 := congrArg List.length e
    rw [bysN_len] at h1
    unfold widN at h1
    revert h1
    (repeat' split) <;> simp
  have hl : (bysN x (widN N)).length = widN N := bysN_len _ _
  refine (Store_any w B t.s t.v1 t.v2 t.X t.Y m at_ x N h.dk.sp ha hx).mono ?_
  intro e w' hr
  rcases hr with ⟨hn, he, ho⟩ | ⟨y, o, hy, he, sp, c⟩
  · rw [putQ_none h.dk.sp.ok hP at_ _ hb (by rw [hl]; exact hn)]
    exact ⟨t.v1, t.v2, t.X, t.Y, he, h.out ho, hP, Chg.of_out ho⟩
  · obtain ⟨q1, q2⟩ := putQ_some h.dk.sp.ok hP at_ _ hb (by rw [hl]; exact hy)
    have c2 : Chg t.fA w w' := c.mono (fun k hk _ => .inr hk)
    refine ⟨_, _, _, _, by rw [q1]; exact he, h.prog sp c2 (fun k hk => .inl (fpA_upd hk)), ?_, c2⟩
    rw [flat_updX]; exact q2
theorem dPut (h : DkR B d m w0 t0 w t) (P : List (Nat × List UInt8)) (hP : P.Perm ((flat t.X ++ flat t.Y).map fdR)) (at_ bc : Nat) (ba : Option Addr) (l : List UInt8) (ha : at_ < 18446744073709551616) (hr0 : RestA w ba l) (hl : l.length ≤ 140737488355328) :
    Calls Tryz.prog 35 #[.pointer (some ⟨t.s, 0, none⟩), .int .u64 at_, .slice ba l.length bc] w fun e w' => ∃ v1 v2 X Y, e = .returned (.int .i64 (PutQ P at_ l).2) ∧ DkR B d m w0 t0 w' { t with v1 := v1, v2 := v2, X := X, Y := Y } ∧ (PutQ P at_ l).1.Perm ((flat X ++ flat Y).map fdR) ∧ Chg t.fA w w' := by
  refine (Put_any w B t.s t.v1 t.v2 t.X t.Y m at_ bc ba l h.dk.sp ha hr0 hl).mono ?_
  intro e w' hr
  rcases hr with ⟨hn, he, ho⟩ | ⟨hb, hn, he, ho⟩ | ⟨hb, y, o, hy, he, sp, c⟩
  · subst hn
    exact ⟨t.v1, t.v2, t.X, t.Y, he, h.out ho, hP, Chg.of_out ho⟩
  · rw [putQ_none h.dk.sp.ok hP at_ _ hb hn]
    exact ⟨t.v1, t.v2, t.X, t.Y, he, h.out ho, hP, Chg.of_out ho⟩
  · obtain ⟨q1, q2⟩ := putQ_some h.dk.sp.ok hP at_ _ hb hy
    have c2 : Chg t.fA w w' := c.mono (fun k hk _ => .inr hk)
    refine ⟨_, _, _, _, by rw [q1]; exact he, h.prog sp c2 (fun k hk => .inl (fpA_upd hk)), ?_, c2⟩
    rw [flat_updX]; exact q2
def AdQ (P : List (Nat × List UInt8)) (f : Nat) (l : List UInt8) : List (Nat × List UInt8) × Int := if noQ P f l.length = true then (P, 201) else (P ++ [(f, l)], 0)
theorem noQ_clP {F E : List Rg} {P : List (Nat × List UInt8)} (h : SpOk F E) (hp : P.Perm ((F ++ E).map fdR)) (f n : Nat) : noQ P f n = (!mayR f n || clP F E f n) := by
  unfold noQ
  rw [clP_any h]
  congr 1
  have e1 : (F ++ E).any (fun x => cl1 x.f x.d.length f n) = ((F ++ E).map fdR).any (fun p => cl1 p.1 p.2.length f n) := by rw [List.any_map]; rfl
  rw [e1]
  exact any_perm hp _
theorem dbs_perm1 {F F' : List Rg} {x : Rg} {b : Nat} (hp : F'.Perm (F ++ [x])) (h : dbs F' b) : x.a = some b ∨ dbs F b := by
  obtain ⟨z, hz, hb⟩ := h
  rcases List.mem_append.1 (hp.subset hz) with hz | hz
  · exact .inr ⟨z, hz, hb⟩
  · simp only [List.mem_cons, List.not_mem_nil, or_false] at hz
    subst hz; exact .inl hb
theorem dAdd (h : DkR B d m w0 t0 w t) (hm : m + 1 ≤ 5864062014804) (P : List (Nat × List UInt8)) (hP : P.Perm ((flat t.X ++ flat t.Y).map fdR)) (f bc : Nat) (ba : Option Addr) (l : List UInt8) (hf : f < 18446744073709551616) (hr0 : RestA w ba l) (hl : l.length ≤ 140737488355328) :
    Calls Tryz.prog 22 #[.pointer (some ⟨t.s, 0, none⟩), .agg #[.int .u64 f, .slice ba l.length bc]] w fun e w' => ∃ v1 v2 X Y, e = .returned (.int .i64 (AdQ P f l).2) ∧ DkR B d (m + 1) w0 t0 w' { t with v1 := v1, v2 := v2, X := X, Y := Y } ∧ (AdQ P f l).1.Perm ((flat X ++ flat Y).map fdR) ∧ Chg t.fA w w' := by
  refine (Add_any w B t.s t.v1 t.v2 t.X t.Y m f bc ba l h.dk.sp hm hr0 hl hf).mono ?_
  intro e w' hr
  have hq := noQ_clP h.dk.sp.ok hP f l.length
  rcases hr with ⟨hn, he, ho⟩ | ⟨hn, he, v1, v2, X, Y, x, sp, c, hnew, xf, xd, hins⟩
  · rw [hn] at hq
    refine ⟨t.v1, t.v2, t.X, t.Y, ?_, (h.out ho).mono (Nat.le_succ m), ?_, Chg.of_out ho⟩
    · rw [he]; simp [AdQ, hq]
    · simp only [AdQ, hq, if_true]; exact hP
  · rw [hn] at hq
    have c2 : Chg t.fA w w' := c.mono (fun k hk _ => .inl hk)
    have hpp : (flat X ++ flat Y).Perm ((flat t.X ++ flat t.Y) ++ [x]) := by
      rcases hins with ⟨_, hi, rfl⟩ | ⟨_, hi, rfl⟩
      · exact (List.Perm.append_left _ (ins_perm hi)).trans (by rw [← List.append_assoc])
      · refine (List.Perm.append_right _ (ins_perm hi)).trans ?_
        rw [List.append_assoc, List.append_assoc]
        exact List.Perm.append_left _ List.perm_append_comm
    refine ⟨v1, v2, X, Y, ?_, h.prog sp c2 (fun k hk => ?_), ?_, c2⟩
    · rw [he]; simp [AdQ, hq]
    · rcases hk with hk | hk
      · exact (hnew k (.inl hk)).imp (fun e => .inl e) id
      · rcases dbs_perm1 hpp hk with e | e
        · exact (hnew k (.inr e)).imp (fun e => .inl e) id
        · exact .inl (.inr e)
    · simp only [AdQ, hq, Bool.false_eq_true, if_false]
      refine (hP.append_right _).trans ?_
      have e1 : [(f, l)] = [x].map fdR := by simp [fdR, xf, xd]
      rw [e1, ← List.map_append]
      exact (hpp.map fdR).symm
theorem rRemove (h : DkW B w d t m) (hm : m + 1 ≤ 1000000000) (f : Nat) (hf : f < 18446744073709551616) :
    Calls Tryz.prog 25 #[.agg #[.slice t.a t.n t.c], .int .u64 f] w fun e w' => ∃ a c n R, e = .returned (.tuple #[.agg #[.slice a n c], .int .i64 (RemQ (t.R.map fdR) f).2]) ∧ DkR B d m w t w' { t with a := a, c := c, n := n, R := R } ∧ R.map fdR = (RemQ (t.R.map fdR) f).1 ∧ Out w w' := by
  have hnm := h.nm
  refine (refRemove_any w B t.a t.c t.n t.R f h.1.rl h.1.rn h.hb (by omega) hf).mono ?_
  rintro e w' ⟨ho, ⟨h1, he⟩ | ⟨a, c, n, R, he, hrl, hl, hmp⟩⟩
  · exact ⟨t.a, t.c, t.n, t.R, he, (DkR.start h.1).out ho, h1.symm, ho⟩
  · exact ⟨a, c, n, R, he, (DkR.start h.1).ref ho hrl hl, hmp, ho⟩
theorem rPutE (h : DkW B w d t m) {at_ : Nat} {b : List UInt8} {e : Ending} {w' : World} (hr : PutE t.a t.c t.n t.R at_ b w e w') : ∃ a c n R, e = .returned (.tuple #[.agg #[.slice a n c], .int .i64 (PutQ (t.R.map fdR) at_ b).2]) ∧ DkR B d m w t w' { t with a := a, c := c, n := n, R := R } ∧ R.map fdR = (PutQ (t.R.map fdR) at_ b).1 ∧ Out w w' := by
  obtain ⟨ho, ⟨h1, he⟩ | ⟨a, c, R, he, hrl, hmp⟩⟩ := hr
  · exact ⟨t.a, t.c, t.n, t.R, he, (DkR.start h.1).out ho, h1.symm, ho⟩
  · refine ⟨a, c, t.n, R, he, (DkR.start h.1).ref ho hrl ?_, hmp, ho⟩
    have h2 := congrArg List.length hmp
    rw [List.length_map] at h2
    rw [h2, ← h.1.rn]
    unfold PutQ
    split
    · simp
    · split
      · simp
      · unfold putP; split <;> simp
theorem rStore (h : DkW B w d t m) (hm : m + 1 ≤ 1000000000) (at_ x : Nat) (N : Int) (ha : at_ < 18446744073709551616) (hx : x < 18446744073709551616) :
    Calls Tryz.prog 29 #[.agg #[.slice t.a t.n t.c], .int .u64 at_, .int .i64 N, .int .u64 x] w fun e w' => ∃ a c n R, e = .returned (.tuple #[.agg #[.slice a n c], .int .i64 (PutQ (t.R.map fdR) at_ (bysN x (widN N))).2]) ∧ DkR B d m w t w' { t with a := a, c := c, n := n, R := R } ∧ R.map fdR = (PutQ (t.R.map fdR) at_ (bysN x (widN N))).1 ∧ Out w w' := by
  have hnm := h.nm
  exact (refStore_any w B t.a t.c t.n t.R at_ x N h.1.rl h.1.rn h.hb (by omega) ha hx).mono (fun e w' hr => rPutE h hr)
theorem rPut (h : DkW B w d t m) (hm : m + 1 ≤ 1000000000) (at_ bc : Nat) (ba : Option Addr) (l : List UInt8) (ha : at_ < 18446744073709551616) (hB : RestG w ba l) (hl : l.length ≤ 140737488355328) :
    Calls Tryz.prog 34 #[.agg #[.slice t.a t.n t.c], .int .u64 at_, .slice ba l.length bc] w fun e w' => ∃ a c n R, e = .returned (.tuple #[.agg #[.slice a n c], .int .i64 (PutQ (t.R.map fdR) at_ l).2]) ∧ DkR B d m w t w' { t with a := a, c := c, n := n, R := R } ∧ R.map fdR = (PutQ (t.R.map fdR) at_ l).1 ∧ Out w w' := by
  have hnm := h.nm
  exact (refPut_any w B t.a t.c t.n t.R at_ bc ba l h.1.rl h.1.rn h.hb (by omega) ha hB hl).mono (fun e w' hr => rPutE h hr)
theorem rAdd (h : DkW B w d t m) (hm : m + 1 ≤ 1000000000) (f rc : Nat) (ra : Option Addr) (l : List UInt8) (hf : f < 18446744073709551616) (hr0 : RestA w ra l) (hl : l.length ≤ 140737488355328) :
    Calls Tryz.prog 20 #[.agg #[.slice t.a t.n t.c], .agg #[.int .u64 f, .slice ra l.length rc]] w fun e w' => ∃ a c n R, e = .returned (.tuple #[.agg #[.slice a n c], .int .i64 (AdQ (t.R.map fdR) f l).2]) ∧ DkR B d m w t w' { t with a := a, c := c, n := n, R := R } ∧ R.map fdR = (AdQ (t.R.map fdR) f l).1 ∧ Out w w' := by
  have hnm := h.nm
  refine (refAdd_any w B t.a t.c t.n t.R f rc ra l h.1.rl h.1.rn h.hb (by omega) hr0 hl hf).mono ?_
  rintro e w' ⟨ho, ⟨h1, he⟩ | ⟨h1, a, c, R, he, hrl, hmp⟩⟩
  · exact ⟨t.a, t.c, t.n, t.R, by rw [he]; simp [AdQ, h1], (DkR.start h.1).out ho, by simp [AdQ, h1], ho⟩
  · refine ⟨a, c, t.n + 1, R, by rw [he]; simp [AdQ, h1], (DkR.start h.1).ref ho hrl ?_, by rw [hmp]; simp [AdQ, h1], ho⟩
    have h2 := congrArg List.length hmp
    rw [List.length_map] at h2
    rw [h2, List.length_append, List.length_map, h.1.rn]; rfl
end
end Go.Proofs.YtekjfbmebekmeaaGreat
