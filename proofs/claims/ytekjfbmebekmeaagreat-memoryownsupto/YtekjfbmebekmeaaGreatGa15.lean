import Derived.Test.YtekjfbmebekmeaaGreatGa14
namespace Go.Proofs.YtekjfbmebekmeaaGreat.Bo
open Go.RowKit
set_option linter.unusedVariables false
set_option linter.unusedSimpArgs false
section
variable {B : Nat} {w w' wA w1 : World} {p : Nat} {c0 c1 d0 d1 : Int} {fa ha ma ka wa r : Value} {fs hs : List Value} {M : List Int} {K W : List Value} {F : List (Value × List Int)} {n : Nat}
theorem Arr.stset (h : Arr B w p c0 c1 fa ha ma ka wa fs hs M K W) (c : Chg (fun k => k = p) w w') (st : StAt w' p #[.int .i64 d0, .int .i64 d1, .bool false, fa, ha, ma, ka, wa]) : Arr B w' p d0 d1 fa ha ma ka wa fs hs M K W := by
  have hrow : ∀ {et : TypeId} {u : Value} {m : Nat} {xs : List Value}, w.ownsRow B et 1 u m xs → et ≠ 42 → w'.ownsRow B et 1 u m xs := fun ho het =>
    owns_chg ho (fun k hk hc => by subst hc; exact st_apart h.st het ho hk) c
  exact ⟨st, hrow h.fa_ (by decide), hrow h.ha_ (by decide), hrow h.ma_ (by decide), hrow h.ka_ (by decide), hrow h.wa_ (by decide), h.fh, h.fk, h.fw, h.hk, h.hw, h.kw, h.bp, Nat.le_trans h.bw c.size⟩
theorem Arr.mk_ (h : Arr B w p c0 c1 fa ha ma ka wa fs hs M K W) : Dis ma ka ∧ Dis ma wa ∧ Dis fa ma ∧ Dis ha ma :=
  ⟨fun k hk hk' => apart_types h.ma_ h.ka_ (by decide) hk hk', fun k hk hk' => apart_types h.ma_ h.wa_ (by decide) hk hk', fun k hk hk' => apart_types h.fa_ h.ma_ (by decide) hk hk', fun k hk hk' => apart_types h.ha_ h.ma_ (by decide) hk hk'⟩
theorem grow_chg (o : Out w wA) (hg : wA.grownBy w1 r.ownBlock) (u : Value) (j : Nat) : Chg (fun k => k = p ∨ r.ownBlock = some k) w (w1.setCell ⟨p, j, none⟩ u) :=
  Chg.setCell ((chg_grow o hg).mono (fun k hk _ => .inr hk)) (p := ⟨p, j, none⟩) (.inl rfl) u
theorem grow_row {u0 : Value} {j : Nat} {st0 : Array Value} (hst : StAt w p st0) (o : Out w wA) (hg : wA.grownBy w1 r.ownBlock) {et : TypeId} {u : Value} {m : Nat} {xs : List Value} (ho : w.ownsRow B et 1 u m xs) (het : et ≠ 42) (d : Dis r u) : (w1.setCell ⟨p, j, none⟩ u0).ownsRow B et 1 u m xs :=
  owns_chg ho (fun k hk hc => by
    rcases hc with rfl | hc
    · exact st_apart hst het ho hk
    · exact d k hc hk) (grow_chg o hg u0 j)
theorem grow_dis {r' u : Value} {e et : TypeId} {m q k1 : Nat} {news xs : List Value} (o : Out w wA) (hat : AppAt wA w1 e r r' q k1 news) (ho : w.ownsRow B et 1 u m xs) (d : Dis r u) : Dis r' u := fun k hk hk' => by
  rcases hat.block k hk with h1 | h1
  · exact d k h1 hk'
  · have h2 := (ownsRow_block_lt ho hk').1
    have h3 := o.size
    omega
theorem grow_self {r' u0 : Value} {e : TypeId} {m q k1 j : Nat} {st0 : Array Value} {news xs : List Value} (hst : StAt w p st0) (he : e ≠ 42) (hr : w.ownsRow B e 1 r q xs) (o : Out w wA) (hat : AppAt wA w1 e r r' q k1 news) (hown : w1.ownsRow B e 1 r' m (xs ++ news)) : (w1.setCell ⟨p, j, none⟩ u0).ownsRow B e 1 r' m (xs ++ news) :=
  owns_setCell hown (fun hk => by
    rcases hat.block _ hk with h | h
    · exact st_apart hst he hr h
    · have h2 := hst.lt
      have h3 := o.size
      simp only at h
      omega)
theorem grow_st {st0 : Array Value} {j : Nat} {u0 : Value} {e : TypeId} {q : Nat} {xs : List Value} (hst : StAt w p st0) (he : e ≠ 42) (hr : w.ownsRow B e 1 r q xs) (o : Out w wA) (hg : wA.grownBy w1 r.ownBlock) : StAt w1 p st0 :=
  hst.same ((chg_grow o hg).block p hst.lt (fun hk => st_apart hst he hr hk))
theorem Arr.app3 (h : Arr B w p c0 c1 fa ha ma ka wa fs hs M K W) (o : Out w wA) {r' v : Value} {q : Nat} (hq : fs.length = q) (hat : AppAt wA w1 29 fa r' q 1 [v]) (hg : wA.grownBy w1 fa.ownBlock) (hown : w1.ownsRow B 29 1 r' (q + 1) (fs ++ [v])) :
    Arr B (w1.setCell ⟨p, 3, none⟩ r') p c0 c1 r' ha ma ka wa (fs ++ [v]) hs M K W := by
  subst hq
  obtain ⟨m1, m2, m3, m4⟩ := h.mk_
  have s1 := (grow_st (j := 3) (u0 := r') h.st (by decide) h.fa_ o hg).set 3 r'
  exact ⟨s1, by rw [List.length_append]; exact grow_self h.st (by decide) h.fa_ o hat hown, grow_row h.st o hg h.ha_ (by decide) h.fh, grow_row h.st o hg h.ma_ (by decide) m3, grow_row h.st o hg h.ka_ (by decide) h.fk, grow_row h.st o hg h.wa_ (by decide) h.fw,
    grow_dis o hat h.ha_ h.fh, grow_dis o hat h.ka_ h.fk, grow_dis o hat h.wa_ h.fw, h.hk, h.hw, h.kw, h.bp, Nat.le_trans h.bw (grow_chg (p := p) o hg r' 3).size⟩
theorem Arr.app4 (h : Arr B w p c0 c1 fa ha ma ka wa fs hs M K W) (o : Out w wA) {r' v : Value} {q : Nat} (hq : hs.length = q) (hat : AppAt wA w1 29 ha r' q 1 [v]) (hg : wA.grownBy w1 ha.ownBlock) (hown : w1.ownsRow B 29 1 r' (q + 1) (hs ++ [v])) :
    Arr B (w1.setCell ⟨p, 4, none⟩ r') p c0 c1 fa r' ma ka wa fs (hs ++ [v]) M K W := by
  subst hq
  obtain ⟨m1, m2, m3, m4⟩ := h.mk_
  have s1 := (grow_st (j := 4) (u0 := r') h.st (by decide) h.ha_ o hg).set 4 r'
  exact ⟨s1, grow_row h.st o hg h.fa_ (by decide) h.fh.symm, by rw [List.length_append]; exact grow_self h.st (by decide) h.ha_ o hat hown, grow_row h.st o hg h.ma_ (by decide) m4, grow_row h.st o hg h.ka_ (by decide) h.hk, grow_row h.st o hg h.wa_ (by decide) h.hw,
    (grow_dis o hat h.fa_ h.fh.symm).symm, h.fk, h.fw, grow_dis o hat h.ka_ h.hk, grow_dis o hat h.wa_ h.hw, h.kw, h.bp, Nat.le_trans h.bw (grow_chg (p := p) o hg r' 4).size⟩
theorem Arr.app5 (h : Arr B w p c0 c1 fa ha ma ka wa fs hs M K W) (o : Out w wA) {r' : Value} {m : Int} {q : Nat} (hq : M.length = q) (hat : AppAt wA w1 3 ma r' q 1 [.int .i64 m]) (hg : wA.grownBy w1 ma.ownBlock) (hown : w1.ownsRow B 3 1 r' (q + 1) (M.map (Value.int .i64) ++ [.int .i64 m])) :
    Arr B (w1.setCell ⟨p, 5, none⟩ r') p c0 c1 fa ha r' ka wa fs hs (M ++ [m]) K W := by
  subst hq
  obtain ⟨m1, m2, m3, m4⟩ := h.mk_
  have s1 := (grow_st (j := 5) (u0 := r') h.st (by decide) h.ma_ o hg).set 5 r'
  exact ⟨s1, grow_row h.st o hg h.fa_ (by decide) m3.symm, grow_row h.st o hg h.ha_ (by decide) m4.symm, by rw [List.length_append, List.map_append]; exact grow_self h.st (by decide) h.ma_ o hat hown, grow_row h.st o hg h.ka_ (by decide) m1, grow_row h.st o hg h.wa_ (by decide) m2,
    h.fh, h.fk, h.fw, h.hk, h.hw, h.kw, h.bp, Nat.le_trans h.bw (grow_chg (p := p) o hg r' 5).size⟩
end
structure Bk (B : Nat) (w : World) (p : Nat) (c0 c1 : Int) (fa ha ma ka wa : Value) (F : List (Value × List Int)) (n : Nat) (hs : List Value) (M : List Int) (K W : List Value) : Prop where
  arr : Arr B w p c0 c1 fa ha ma ka wa ((F.take n).map Prod.fst) hs M K W
  fr : Fresh B w F
  kep : Kep B (Frs F) w K W
  held : ∀ (j : Nat) x y, F[j]? = some x → hs[j]? = some y → Rd B (Frs F) w y x.2
  hl : hs.length = n
  ml : M.length = n
  nf : n ≤ F.length
  bl : ∀ x ∈ F, x.2.length ≤ 60000000000000
  bm : ∀ m ∈ M, 0 ≤ m ∧ m ≤ 10000000000000
  n2 : n ≤ 2
  b0 : 0 ≤ c0
  b1 : 0 ≤ c1
  bb : c1 ≤ 1000000000000000
  kl : (K.length : Int) + 6 * n ≤ 6 * c0
def Bkt (B : Nat) (w : World) (ma : Value) (k : Nat) : Prop := B ≤ k ∧ ∃ cur t, w.heap[k]? = some (.cells cur t (0, 0)) ∧ (t = 42 ∨ t = 29 ∨ t = 5 ∨ ma.ownBlock = some k)
section
variable {B : Nat} {w w' : World} {p : Nat} {c0 c1 : Int} {fa ha ma ka wa : Value} {hs : List Value} {M : List Int} {K W : List Value} {F : List (Value × List Int)} {n : Nat}
theorem Bk.away {S : Nat → Prop} (h : Bk B w p c0 c1 fa ha ma ka wa F n hs M K W) (c : Chg S w w') (hS : ∀ k, S k → ¬ Bkt B w ma k) : Bk B w' p c0 c1 fa ha ma ka wa F n hs M K W := by
  have h8 : ∀ k, B ≤ k → IsT8 w k → ¬ S k := fun k hB ⟨cur, hc⟩ hs => hS k hs ⟨hB, cur, _, hc, .inr (.inr (.inl rfl))⟩
  have row : ∀ {et : TypeId} {u : Value} {m : Nat} {xs : List Value}, w.ownsRow B et 1 u m xs → (∀ k, u.ownBlock = some k → et = 42 ∨ et = 29 ∨ et = 5 ∨ ma.ownBlock = some k) → w'.ownsRow B et 1 u m xs := fun ho het =>
    owns_chg ho (fun k hk hs => by
      obtain ⟨-, hb, cur, hc⟩ := ownsRow_block_lt ho hk
      exact hS k hs ⟨hb, cur, _, hc, het k hk⟩) c
  have rd : ∀ {v : Value} {l : List Int}, Rd B (Frs F) w v l → Rd B (Frs F) w' v l := fun hr => by
    rcases hr with hr | ⟨g, cc, cur, rfl, hB, hs, hg, ht⟩
    · exact .inl hr
    · exact .inr ⟨g, cc, cur, rfl, hB, hs, (c.block g (Array.getElem?_eq_some_iff.1 hg).1 (h8 g hB ⟨cur, hg⟩)).trans hg, ht⟩
  have A := h.arr
  exact ⟨⟨A.st.same (c.block p A.st.lt (fun hk => hS p hk ⟨A.bp, _, _, A.st, .inl rfl⟩)), row A.fa_ (fun _ _ => .inr (.inl rfl)), row A.ha_ (fun _ _ => .inr (.inl rfl)), row A.ma_ (fun _ hk => .inr (.inr (.inr hk))), row A.ka_ (fun _ _ => .inr (.inl rfl)), row A.wa_ (fun _ _ => .inr (.inl rfl)), A.fh, A.fk, A.fw, A.hk, A.hw, A.kw, A.bp, Nat.le_trans A.bw c.size⟩,
    ⟨fun x hx => row (h.fr.1 x hx) (fun _ _ => .inr (.inr (.inl rfl))), h.fr.2⟩, ⟨h.kep.1, fun j x y hx hy => by
      obtain ⟨l, h1, h2⟩ := h.kep.2 j x y hx hy
      exact ⟨l, rd h1, rd h2⟩⟩, fun j x y hx hy => rd (h.held j x y hx hy), h.hl, h.ml, h.nf, h.bl, h.bm, h.n2, h.b0, h.b1, h.bb, h.kl⟩
theorem Bk.pairs (h : Bk B w p c0 c1 fa ha ma ka wa F n hs M K W) : Pairs w ((F.take n).map Prod.fst) hs := by
  refine pairs_of (B := B) (S := fun _ => False) (T := Frs F) (fun j x y hx hy => ?_)
  have hj : j < n := by have h1 := (List.getElem?_eq_some_iff.1 hy).1; have := h.hl; omega
  rw [List.getElem?_map, List.getElem?_take, if_pos hj] at hx
  cases hz : F[j]? with
  | none => rw [hz] at hx; simp at hx
  | some z =>
    rw [hz] at hx
    simp at hx
    subst hx
    exact ⟨z.2, rd_of_owns (h.fr.at hz) (fun _ _ h => h), h.held j z y hz hy⟩
structure Rs (B : Nat) (w : World) (F : List (Value × List Int)) (hs : List Value) (K W : List Value) : Prop where
  fr : Fresh B w F
  kep : Kep B (Frs F) w K W
  held : ∀ (j : Nat) x y, F[j]? = some x → hs[j]? = some y → Rd B (Frs F) w y x.2
theorem Rs.chg8 {U : Nat → Prop} (h : Rs B w F hs K W) (c : Chg U w w') (hU : ∀ k, IsT8 w k → ¬ U k) : Rs B w' F hs K W :=
  ⟨h.fr.chg c (fun k hk hu => hU k (h.fr.isT8 hk) hu), h.kep.chg c (fun k _ h8 hu => hU k h8 hu) (fun _ _ h => h), fun j x y hx hy => (h.held j x y hx hy).chg c (fun k cur _ hc hu => hU k ⟨cur, hc⟩ hu) (fun _ _ h => h)⟩
theorem Rs.out (h : Rs B w F hs K W) (o : Out w w') : Rs B w' F hs K W := h.chg8 (Chg.of_out (S := fun _ => False) o) (fun _ _ h => h)
theorem Rs.snoc (h : Rs B w F hs K W) {x : Value × List Int} {y : Value} (hx : F[hs.length]? = some x) (hy : Rd B (Frs F) w y x.2) : Rs B w F (hs ++ [y]) K W := by
  refine ⟨h.fr, h.kep, fun j a b ha hb => ?_⟩
  by_cases hj : j < hs.length
  · rw [List.getElem?_append_left hj] at hb
    exact h.held j a b ha hb
  · rw [List.getElem?_append_right (by omega)] at hb
    have h0 : j - hs.length = 0 := by
      have := (List.getElem?_eq_some_iff.1 hb).1; simp at this; omega
    rw [h0] at hb
    simp at hb
    subst hb
    obtain rfl : j = hs.length := by omega
    rw [hx] at ha
    obtain rfl := Option.some.inj ha
    exact hy
theorem Fresh.drop (h : Fresh B w F) (m : Nat) : Fresh B w (F.drop m) := ⟨fun x hx => h.1 x (List.mem_of_mem_drop hx), h.2.sublist (List.drop_sublist m F)⟩
theorem Fresh.two (h : Fresh B w F) (m k : Nat) (h1 : Frs (F.drop m) k) : ¬ Frs (F.take m) k := by
  rintro ⟨x, hx, hk⟩
  obtain ⟨y, hy, hk2⟩ := h1
  have hp := h.2
  rw [← List.take_append_drop m F, List.pairwise_append] at hp
  exact hp.2.2 x hx y hy k hk hk2
theorem Bk.holds (h : Bk B w p c0 c1 fa ha ma ka wa F n hs M K W) (hc : c0 ≤ 100000000000) : Calls Tryz.prog 11 #[.pointer (some ⟨p, 0, none⟩)] w fun e w' => e = .returned (.bool true) ∧ ∃ m, w' = w.drewN m := by
  have hn : ((F.take n).map Prod.fst).length = n := by have := h.nf; simp; omega
  have A := h.arr
  have h2 := h.n2
  have h3 := h.kl
  have f1 := A.fa_
  have f2 := A.ha_
  have f4 := A.wa_
  rw [hn] at f1
  rw [h.hl] at f2
  rw [h.kep.1] at f4
  exact books_holds w B p _ _ fa ha ma ka wa n K.length _ hs K W (by omega) (by omega) A.st f1 f2 h.pairs A.ka_ f4 h.kep.pairs
end
theorem step_append_two {P : Program} {w : World} {ops : Array Oper} {o : Oper} {a : Act} {K : Act → World → Prop} {Q : Exit → Act → World → Prop} {E : Prop} (hgd : o.guard = none) (s x : Operand) (t : TypeId)
    (ho : o.op = .call { callee := .builtin .append, args := #[s, x], argTypes := #[t, t] })
    (base : Nat) (e : TypeId) (i : TypeInfo) (z : Value) (bytes : Nat) (ht : P.underlying t = some (.slice e)) (hi : P.info? e = some i) (hz : i.zero = some z)
    (hsize : i.size = 1) (hby : i.bytes = bytes) (hzs : z.cells.size = 1)
    (v : Value) (n : Nat) (xs : List Value) (hs : a.eval s = v) (hown : w.ownsRow base e 1 v n xs)
    (ad : Addr) (m c : Nat) (news : List Value) (hm : 0 < m) (hx : a.eval x = .slice (some ad) m c) (hl : news.length = m) (hnews : ∀ j u, news[j]? = some u → w.cell? (ad.add j) = some u) (h1 : ∀ u ∈ news, u.oneCell' = true)
    (hbytes : (n + m) * bytes ≤ 140737488355328) (h47 : n + m ≤ 140737488355328) (hbase : base ≤ w.heap.size)
    (h : ∀ v' w', w'.ownsRow base e 1 v' (n + m) (xs ++ news) → w.grownBy w' v.ownBlock → AppAt w w' e v v' n m news → K (a.put o.dst v') w') : if Region.wanted o (yielded ops a.tmps) = true then Oper.wp P o a w K Q else E := by
  have hw : Region.wanted o (yielded ops a.tmps) = true := by simp [Region.wanted, hgd]
  rw [if_pos hw]
  obtain ⟨v', w', hr, h2, h3, h4⟩ := run_append_two (P := P) (w := w) base t o.type e i z bytes ht hi hz hsize hby hzs v n xs hown ad m c news hm hl hnews h1 hbytes h47 hbase
  unfold Oper.wp execOp
  simp only [ho, resolve, invoke, builtin, Sem.run_bind, Sem.run_pure, Result.andThen_ok, List.map_toArray, List.map_cons, List.map_nil, hs, hx, hr]
  exact h v' w' h2 h3 h4
theorem infoIntBk : (Tryz.prog.info? 3).map (fun i => (i.zero, i.size, i.bytes)) = some (some (.int .i64 0), 1, 8) := by kernel_rfl
def OwnEnd (Q : Nat → Prop) (ma0 : Value) (B p : Nat) (c0 c1' : Int) (F : List (Value × List Int)) (n : Nat) (w w' : World) : Prop :=
  ∃ fa' ha' ma' ka' wa' hs' M' K' W' F' n', Bk B w' p (c0 + 1) c1' fa' ha' ma' ka' wa' F' n' hs' M' K' W' ∧ (F' = F ∧ n' = n + 1 ∨ F' = F.drop (n + 1) ∧ n' = 0) ∧ Chg (Q) w w' ∧ (∀ k, ma'.ownBlock = some k → ma0.ownBlock = some k ∨ w.heap.size ≤ k)
structure Mid (Q : Nat → Prop) (ma0 : Value) (B p : Nat) (c0 : Int) (F : List (Value × List Int)) (n : Nat) (w0 w : World) (c1 : Int) (fa ha ma ka wa : Value) (hs : List Value) (M : List Int) (K W : List Value) : Prop where
  arr : Arr B w p (c0 + 1) c1 fa ha ma ka wa ((F.take (n + 1)).map Prod.fst) hs M K W
  rs : Rs B w F hs K W
  hl : hs.length = n + 1
  ml : M.length = n + 1
  nf : n + 1 ≤ F.length
  bl : ∀ x ∈ F, x.2.length ≤ 60000000000000
  bm : ∀ m ∈ M, 0 ≤ m ∧ m ≤ 10000000000000
  b0 : 0 ≤ c0
  b1 : 0 ≤ c1
  bb : c1 ≤ 1000000000000000
  kl : (K.length : Int) + 6 * n ≤ 6 * c0
  chg : Chg (Q) w0 w
  ub : ∀ k, Bks p fa ha ma ka wa (F.take (n + 1)) k → k < w0.heap.size → Q k
  mb : ∀ k, ma.ownBlock = some k → ma0.ownBlock = some k ∨ w0.heap.size ≤ k
theorem own_mid {Q : Nat → Prop} {B p : Nat} {w w2 w4 w5 w7 w9 : World} {c0 c1 : Int} {fa ha ma ka wa fa3 ha6 ma8 : Value} {F : List (Value × List Int)} {n : Nat} {hs : List Value} {M : List Int} {K W : List Value} {v y : Value} {l : List Int} {q : Nat} {mark : Int} (hc1 : c1 ≤ 900000000000000) (hb : Bk B w p c0 c1 fa ha ma ka wa F n hs M K W) (hx : F[n]? = some (v, l)) (hq : l.length = q)
    (c2 : Chg (fun k => k = p) w w2) (c3 : Chg (fun k => k = p ∨ fa.ownBlock = some k) w2 w4) (o5 : Out w4 w5) (c7 : Chg (fun k => k = p ∨ ha.ownBlock = some k) w5 w7) (c9 : Chg (fun k => k = p ∨ ma.ownBlock = some k) w7 w9)
    (b3 : ∀ k, fa3.ownBlock = some k → fa.ownBlock = some k ∨ w2.heap.size ≤ k) (b6 : ∀ k, ha6.ownBlock = some k → ha.ownBlock = some k ∨ w5.heap.size ≤ k) (b8 : ∀ k, ma8.ownBlock = some k → ma.ownBlock = some k ∨ w7.heap.size ≤ k)
    (hA : Arr B w9 p (c0 + 1) (c1 + q) fa3 ha6 ma8 ka wa ((F.take (n + 1)).map Prod.fst) (hs ++ [y]) (M ++ [mark + 31 * (c0 + 1)]) K W) (hR : Rs B w9 F (hs ++ [y]) K W) (m0 : 0 ≤ mark + 31 * (c0 + 1)) (m1 : mark + 31 * (c0 + 1) ≤ 10000000000000) (key : ∀ k, Bks p fa ha ma ka wa (F.take (n + 1)) k → Q k) :
    Mid Q ma B p c0 F n w w9 (c1 + q) fa3 ha6 ma8 ka wa (hs ++ [y]) (M ++ [mark + 31 * (c0 + 1)]) K W := by
  have hn : n < F.length := (List.getElem?_eq_some_iff.1 hx).1
  have hl : q ≤ 60000000000000 := by rw [← hq]; exact hb.bl _ (List.mem_of_getElem? hx)
  have z2 := c2.size
  have z4 := c3.size
  have z5 := o5.size
  have z7 := c7.size
  have b0 := hb.b0
  have b1 := hb.b1
  have bb := hb.bb
  refine ⟨hA, hR, by rw [List.length_append, hb.hl]; rfl, by rw [List.length_append, hb.ml]; rfl, hn, hb.bl, ?_, hb.b0, by omega, by omega, hb.kl, ?_, ?_, fun k hk => (b8 k hk).imp id (fun h => by omega)⟩
  · intro m hm
    rcases List.mem_append.1 hm with hm | hm
    · exact hb.bm m hm
    · simp at hm
      subst hm
      exact ⟨m0, m1⟩
  · have s2 : Chg Q w w2 := c2.mono (fun k hk _ => key k (.inl hk))
    have s4 := s2.trans c3 (fun k hk _ => key k (by
      rcases hk with hk | hk
      · exact .inl hk
      · exact .inr (.inl hk)))
    have s5 := s4.trans (Chg.of_out (S := fun _ => False) o5) (fun _ h _ => h.elim)
    have s7 := s5.trans c7 (fun k hk _ => key k (by
      rcases hk with hk | hk
      · exact .inl hk
      · exact .inr (.inr (.inl hk))))
    exact s7.trans c9 (fun k hk _ => key k (by
      rcases hk with hk | hk
      · exact .inl hk
      · exact .inr (.inr (.inr (.inl hk)))))
  · intro k hk hlt
    refine key k ?_
    rcases hk with hk | hk | hk | hk | hk | hk | ⟨x, hx, hk⟩
    · exact .inl hk
    · rcases b3 k hk with h | h
      · exact .inr (.inl h)
      · omega
    · rcases b6 k hk with h | h
      · exact .inr (.inr (.inl h))
      · omega
    · rcases b8 k hk with h | h
      · exact .inr (.inr (.inr (.inl h)))
      · omega
    · exact .inr (.inr (.inr (.inr (.inl hk))))
    · exact .inr (.inr (.inr (.inr (.inr (.inl hk)))))
    · exact .inr (.inr (.inr (.inr (.inr (.inr ⟨x, hx, hk⟩)))))
theorem Mid.stay {Q : Nat → Prop} {ma0 : Value} {B p : Nat} {c0 : Int} {F : List (Value × List Int)} {n : Nat} {w0 w : World} {c1 : Int} {fa ha ma ka wa : Value} {hs : List Value} {M : List Int} {K W : List Value} (h : Mid Q ma0 B p c0 F n w0 w c1 fa ha ma ka wa hs M K W) (hn : n + 1 ≤ 2) : OwnEnd Q ma0 B p c0 c1 F n w0 w :=
  ⟨fa, ha, ma, ka, wa, hs, M, K, W, F, n + 1, ⟨h.arr, h.rs.fr, h.rs.kep, h.rs.held, h.hl, h.ml, h.nf, h.bl, h.bm, hn, by have := h.b0; omega, h.b1, h.bb, by have := h.kl; omega⟩, .inl ⟨rfl, rfl⟩, h.chg, h.mb⟩
theorem Mid.write {Q : Nat → Prop} {ma0 : Value} {B p : Nat} {c0 : Int} {F : List (Value × List Int)} {n : Nat} {w0 w w' : World} {c1 : Int} {fa ha ma ka wa ka' wa' : Value} {hs : List Value} {M : List Int} {K W K' W' : List Value} (h : Mid Q ma0 B p c0 F n w0 w c1 fa ha ma ka wa hs M K W)
    (hA : Arr B w' p (c0 + 1) c1 (.slice none 0 0) (.slice none 0 0) (.slice none 0 0) ka' wa' [] [] [] K' W') (hK : Kep B (Frs (F.drop (n + 1))) w' K' W') (hl : K'.length ≤ K.length + 6 * (n + 1)) (c : Chg (Bks p fa ha ma ka wa (F.take (n + 1))) w w') : OwnEnd Q ma0 B p c0 c1 F n w0 w' := by
  refine ⟨_, _, _, ka', wa', [], [], K', W', F.drop (n + 1), 0, ⟨hA, ?_, hK, (fun j x y _ hy => by simp at hy), rfl, rfl, Nat.zero_le _, fun x hx => h.bl x (List.mem_of_mem_drop hx), (fun m hm => by cases hm), by omega, by have := h.b0; omega, h.b1, h.bb, by have := h.kl; simp; omega⟩, .inr ⟨rfl, rfl⟩, h.chg.trans c h.ub, fun k hk => by cases hk⟩
  refine (h.rs.fr.drop (n + 1)).chg c (fun k hk hu => ?_)
  have h8 := (h.rs.fr.drop (n + 1)).isT8 hk
  rcases hu with rfl | hu | hu | hu | hu | hu | hu
  · exact st_notT8 h.arr.st h8
  · exact notT8 h.arr.fa_ (by decide) hu h8
  · exact notT8 h.arr.ha_ (by decide) hu h8
  · exact notT8 h.arr.ma_ (by decide) hu h8
  · exact notT8 h.arr.ka_ (by decide) hu h8
  · exact notT8 h.arr.wa_ (by decide) hu h8
  · exact h.rs.fr.two (n + 1) k hk hu
theorem own_write {Q : Nat → Prop} {ma0 : Value} {B p : Nat} {c0 : Int} {F : List (Value × List Int)} {n : Nat} {w0 w : World} {c1 : Int} {fa ha ma ka wa : Value} {hs : List Value} {M : List Int} {K W : List Value} (h : Mid Q ma0 B p c0 F n w0 w c1 fa ha ma ka wa hs M K W) (hn : n ≤ 2) (hc : c0 ≤ 100000000000) :
    Calls Tryz.prog 39 #[.pointer (some ⟨p, 0, none⟩)] w fun e w' => (∃ r, e = .returned r) ∧ OwnEnd Q ma0 B p c0 c1 F n w0 w' := by
  have hpairs : Pairs w ((F.take (n + 1)).map Prod.fst) hs := by
    refine pairs_of (B := B) (S := fun _ => False) (T := Frs F) (fun j x y hx hy => ?_)
    have hj : j < n + 1 := by have h1 := (List.getElem?_eq_some_iff.1 hy).1; have := h.hl; omega
    rw [List.getElem?_map, List.getElem?_take, if_pos hj] at hx
    cases hz : F[j]? with
    | none => rw [hz] at hx; simp at hx
    | some z =>
      rw [hz] at hx
      simp at hx
      subst hx
      exact ⟨z.2, rd_of_owns (h.rs.fr.at hz) (fun _ _ h => h), h.rs.held j z y hz hy⟩
  refine (books_write w B p (c0 + 1) c1 fa ha ma ka wa F (n + 1) hs M K W h.arr h.rs.fr h.rs.kep hpairs h.ml h.hl (by omega) h.nf (by omega) (by have := h.kl; omega) h.bl h.bm h.b1).mono ?_
  rintro e w' ⟨hr, ka', wa', K', W', hA, hK, hl, c⟩
  exact ⟨hr, h.write hA hK hl c⟩
set_option maxRecDepth 20000 in
set_option maxHeartbeats 2000000 in
theorem books_own (Q : Nat → Prop) (w : World) (B p : Nat) (c0 c1 : Int) (fa ha ma ka wa : Value) (F : List (Value × List Int)) (n : Nat) (hs : List Value) (M : List Int) (K W : List Value) (hc1 : c1 ≤ 900000000000000) (hb : Bk B w p c0 c1 fa ha ma ka wa F n hs M K W)
    (a : Option Addr) (q c : Nat) (l : List Int) (hx : F[n]? = some (.slice a q c, l)) (hq : l.length = q) (mark : Int) (m0 : 0 ≤ mark) (m1 : mark ≤ 100000000000) (hc0 : c0 ≤ 100000000000) (hQ : ∀ k, Bks p fa ha ma ka wa (F.take (n + 1)) k → Q k) :
    Calls Tryz.prog 10 #[.pointer (some ⟨p, 0, none⟩), .slice a q c, .int .i64 mark] w fun e w' => (∃ r, e = .returned r) ∧ OwnEnd Q ma B p c0 (c1 + q) F n w w' := by
  obtain ⟨i30, hi30, hy0, hy1, hy2⟩ := info_parts info31
  obtain ⟨i3, hi3, hz0, hz1, hz2⟩ := info_parts infoIntBk
  have b0 := hb.b0
  have b1 := hb.b1
  have bb := hb.bb
  have hn2 := hb.n2
  have hql : q ≤ 60000000000000 := by rw [← hq]; exact hb.bl _ (List.mem_of_getElem? hx)
  have hst := hb.arr.st
  have k0 : w.cell? ⟨p, 0, none⟩ = some (.int .i64 c0) := hst.cell 0
  have f0 := hst.frozen 0
  have hs1 := hst.set 0 (.int .i64 (c0 + 1))
  have k1 : (w.setCell ⟨p, 0, none⟩ (.int .i64 (c0 + 1))).cell? ⟨p, 1, none⟩ = some (.int .i64 c1) := hs1.cell 1
  have f1 := hs1.frozen 1
  have Hst2 : Hid (StAt ((w.setCell ⟨p, 0, none⟩ (.int .i64 (c0 + 1))).setCell ⟨p, 1, none⟩ (.int .i64 (c1 + q))) p #[.int .i64 (c0 + 1), .int .i64 (c1 + q), .bool false, fa, ha, ma, ka, wa]) := hs1.set 1 (.int .i64 (c1 + q))
  have Hc2 : Hid (Chg (fun k => k = p) w ((w.setCell ⟨p, 0, none⟩ (.int .i64 (c0 + 1))).setCell ⟨p, 1, none⟩ (.int .i64 (c1 + q)))) :=
    Chg.setCell (Chg.setCell (Chg.refl (fun k => k = p) w) (p := ⟨p, 0, none⟩) (show p = p from rfl) _) (p := ⟨p, 1, none⟩) (show p = p from rfl) _
  have HA2 := hidOf (hb.arr.stset Hc2.out Hst2.out)
  have HR : Hid (Rs B w F hs K W) := ⟨hb.fr, hb.kep, hb.held⟩
  have HR2 := hidOf (HR.out.chg8 Hc2.out (fun k h8 hk => st_notT8 hb.arr.st (by subst hk; exact h8)))
  have HB := hidOf hb
  have Hx := hidOf hx
  have Hq := hidOf hq
  have Hfl : Hid (((F.take n).map Prod.fst).length = n) := by show _ = _; have := hb.nf; simp; omega
  have Hhl := hidOf hb.hl
  have Hml := hidOf hb.ml
  have Hnf : Hid (n < F.length) := (List.getElem?_eq_some_iff.1 hx).1
  clear hb hx hq hst hs1 HR
  go_enter Tryz.func10, Tryz.ntmps10
  go_upto_region 2 with fail
  clear k0 f0 k1 f1
  generalize (w.setCell ⟨p, 0, none⟩ (.int .i64 (c0 + 1))).setCell ⟨p, 1, none⟩ (.int .i64 (c1 + q)) = w2 at *
  have k3 : w2.cell? ⟨p, 3, none⟩ = some fa := HA2.out.st.cell 3
  go_upto_region 3 with (at_builtin; go_loud (refine wpList_append_two rfl (.tmp 27) (.tmp 29) 39 rfl B 29 i30 (.slice none 0 0) 24 Tryz.underlying39 hi30 hy0 hy1 hy2 rfl fa n ((F.take n).map Prod.fst) rfl (owns_alloc (by have h := HA2.out.fa_; rw [Hfl.out] at h; exact h) _) ⟨w2.heap.size, 0, none⟩ 1 1 [.slice a q c] (by omega) rfl rfl (one_row _ _ _) (by intro x hx; simp at hx; subst hx; rfl) (by omega) (by omega) (Nat.le_trans HA2.out.bw (by rw [size_alloc]; omega)) ?_); intro g3 w3 hown3 hgrow3 hat3; obtain ⟨a3, cc3, rfl⟩ := hat3.form; have hs3 := grow_st (j := 3) (u0 := .slice a3 (n + 1) cc3) HA2.out.st (by decide) HA2.out.fa_ ((Out.refl w2).alloc _) hgrow3; have k33 : w3.cell? ⟨p, 3, none⟩ = some fa := hs3.cell 3; have f33 := hs3.frozen 3; have Hat3 := hidOf hat3; have Hgr3 := hidOf hgrow3; have Hown3 := hidOf hown3; clear hat3 hgrow3 hown3 hs3)
  clear k33 f33 k3
  have HA3 := hidOf (HA2.out.app3 ((Out.refl w2).alloc _) Hfl.out Hat3.out Hgr3.out Hown3.out)
  have HC3 : Hid (Chg (fun k => k = p ∨ fa.ownBlock = some k) w2 (w3.setCell ⟨p, 3, none⟩ (.slice a3 (n + 1) cc3))) := grow_chg ((Out.refl w2).alloc _) Hgr3.out _ 3
  have HR3 := hidOf (HR2.out.chg8 HC3.out (fun k h8 hk => by
    rcases hk with rfl | hk
    · exact st_notT8 HA2.out.st h8
    · exact notT8 HA2.out.fa_ (by decide) hk h8))
  have Hb3 : Hid (∀ k, (Value.slice a3 (n + 1) cc3).ownBlock = some k → fa.ownBlock = some k ∨ w2.heap.size ≤ k) := fun k hk => by
    rcases Hat3.out.block k hk with h | h
    · exact .inl h
    · rw [size_alloc] at h; exact .inr (by omega)
  have Hfs : Hid ((F.take n).map Prod.fst ++ [.slice a q c] = (F.take (n + 1)).map Prod.fst) := by
    show _ = _
    rw [List.take_add_one, Hx.out, List.map_append]; rfl
  clear Hat3 Hgr3 Hown3
  generalize w3.setCell ⟨p, 3, none⟩ (.slice a3 (n + 1) cc3) = w4 at *
  have k4 : w4.drew.cell? ⟨p, 4, none⟩ = some ha := HA3.out.st.cell 4
  have HbA : Hid (BytA w4.drew a l) := by
    obtain ⟨a', c', e, hb, _⟩ := owns_bytA (HR3.out.fr.at Hx.out)
    injection e with e1
    subst e1
    exact hb.out ((Out.refl w4).drewN 1)
  go_region_law (first | (refine step_append_two rfl (.tmp 37) (.tmp 40) 39 rfl B 29 i30 (.slice none 0 0) 24 Tryz.underlying39 hi30 hy0 hy1 hy2 rfl ha n hs rfl (owns_alloc (by have h := HA5.out.ha_; rw [Hhl.out] at h; exact h) _) ⟨w5.heap.size, 0, none⟩ 1 1 [.slice a5 q c5] (by omega) rfl rfl (one_row _ _ _) (by intro x hx; simp at hx; subst hx; rfl) (by omega) (by omega) (Nat.le_trans HA5.out.bw (by rw [size_alloc]; omega)) ?_; intro g6 w6 hown6 hgrow6 hat6; obtain ⟨a6, cc6, rfl⟩ := hat6.form; have hs6 := grow_st (j := 4) (u0 := .slice a6 (n + 1) cc6) HA5.out.st (by decide) HA5.out.ha_ ((Out.refl w5).alloc _) hgrow6; have k46 : w6.cell? ⟨p, 4, none⟩ = some ha := hs6.cell 4; have f46 := hs6.frozen 4; have Hat6 := hidOf hat6; have Hgr6 := hidOf hgrow6; have Hown6 := hidOf hown6; clear hat6 hgrow6 hown6 hs6) | (go_simp; go_at_call 21; refine (copyW _ a q c l Hq.out HbA.out (by omega)).mono ?_; rintro e w5 ⟨a5, c5, rfl, hown5, ho5⟩; (try dsimp only); have HA5 := hidOf (HA3.out.out (Out.trans ((Out.refl w4).drewN 1) ho5)); have Ho5 := hidOf (Out.trans ((Out.refl w4).drewN 1) ho5); have Hown5 := hidOf hown5; have k45 : w5.cell? ⟨p, 4, none⟩ = some ha := HA5.out.st.cell 4; have k45a : (w5.alloc (.cells #[.slice a5 q c5] 29)).cell? ⟨p, 4, none⟩ = some ha := cell_later ((Out.refl w5).alloc _) k45; clear hown5 ho5))
  all_goals
    clear k45 k45a k46 f46 k4
    have HA7 := hidOf (HA5.out.app4 ((Out.refl w5).alloc _) Hhl.out Hat6.out Hgr6.out Hown6.out)
    have HC7 : Hid (Chg (fun k => k = p ∨ ha.ownBlock = some k) w5 (w6.setCell ⟨p, 4, none⟩ (.slice a6 (n + 1) cc6))) := grow_chg ((Out.refl w5).alloc _) Hgr6.out _ 4
    have HT7 : Hid (∀ k, IsT8 w5 k → ¬ (k = p ∨ ha.ownBlock = some k)) := fun k h8 hk => by
      rcases hk with rfl | hk
      · exact st_notT8 HA5.out.st h8
      · exact notT8 HA5.out.ha_ (by decide) hk h8
    have HR7 : Hid (Rs B (w6.setCell ⟨p, 4, none⟩ (.slice a6 (n + 1) cc6)) F (hs ++ [.slice a5 q c5]) K W) := by
      refine ((HR3.out.out Ho5.out).snoc (x := (.slice a q c, l)) (by rw [Hhl.out]; exact Hx.out) ?_).chg8 HC7.out HT7.out
      exact rd_new Hown5.out Hq.out HA3.out.bw (fun k hk => (HR3.out.fr.isT8 hk).lt)
    have Hb6 : Hid (∀ k, (Value.slice a6 (n + 1) cc6).ownBlock = some k → ha.ownBlock = some k ∨ w5.heap.size ≤ k) := fun k hk => by
      rcases Hat6.out.block k hk with h | h
      · exact .inl h
      · rw [size_alloc] at h; exact .inr (by omega)
    clear Hat6 Hgr6 Hown6 Hown5
    generalize w6.setCell ⟨p, 4, none⟩ (.slice a6 (n + 1) cc6) = w7 at *
    have k0 : w7.drew.cell? ⟨p, 0, none⟩ = some (.int .i64 (c0 + 1)) := HA7.out.st.cell 0
    have k5 : w7.drew.cell? ⟨p, 5, none⟩ = some ma := HA7.out.st.cell 5
    have hw1 : IntKind.i64.wrap (31 * (c0 + 1)) = 31 * (c0 + 1) := by rw [IntKind.wrap_i64]; omega
    have hw2 : IntKind.i64.wrap (mark + 31 * (c0 + 1)) = mark + 31 * (c0 + 1) := by rw [IntKind.wrap_i64]; omega
    have k5a : (w7.alloc (.cells #[.int .i64 (mark + 31 * (c0 + 1))] 3)).cell? ⟨p, 5, none⟩ = some ma := cell_later ((Out.refl w7).alloc _) (HA7.out.st.cell 5)
    go_upto_region 4 with fail
    go_region_law (first | (refine step_append_two rfl (.tmp 48) (.tmp 56) 40 rfl B 3 i3 (.int .i64 0) 8 Tryz.underlying40 hi3 hz0 hz1 hz2 rfl ma n (M.map (Value.int .i64)) rfl (owns_out (by have h := HA7.out.ma_; rw [Hml.out] at h; exact h) (((Out.refl w7).alloc _).drewN 1)) ⟨w7.heap.size, 0, none⟩ 1 1 [.int .i64 (mark + 31 * (c0 + 1))] (by omega) rfl rfl (fun j u h => one_row w7 _ _ j u h) (by intro x hx; simp at hx; subst hx; rfl) (by omega) (by omega) (Nat.le_trans HA7.out.bw (((Out.refl w7).alloc _).drewN 1).size) ?_; intro g8 w8 hown8 hgrow8 hat8; obtain ⟨a8, cc8, rfl⟩ := hat8.form; have hs8 := grow_st (j := 5) (u0 := .slice a8 (n + 1) cc8) HA7.out.st (by decide) HA7.out.ma_ (((Out.refl w7).alloc _).drewN 1) hgrow8; have k58 : w8.cell? ⟨p, 5, none⟩ = some ma := hs8.cell 5; have f58 := hs8.frozen 5; have Hat8 := hidOf hat8; have Hgr8 := hidOf hgrow8; have Hown8 := hidOf hown8; clear hat8 hgrow8 hown8 hs8))
    all_goals
      clear k58 f58 k5 k5a k0
      have HA9 := hidOf (HA7.out.app5 (((Out.refl w7).alloc _).drewN 1) Hml.out Hat8.out Hgr8.out Hown8.out)
      have HC9 : Hid (Chg (fun k => k = p ∨ ma.ownBlock = some k) w7 (w8.setCell ⟨p, 5, none⟩ (.slice a8 (n + 1) cc8))) := grow_chg (((Out.refl w7).alloc _).drewN 1) Hgr8.out _ 5
      have HR9 := hidOf (HR7.out.chg8 HC9.out (fun k h8 hk => by
        rcases hk with rfl | hk
        · exact st_notT8 HA7.out.st h8
        · exact notT8 HA7.out.ma_ (by decide) hk h8))
      have Hb8 : Hid (∀ k, (Value.slice a8 (n + 1) cc8).ownBlock = some k → ma.ownBlock = some k ∨ w7.heap.size ≤ k) := fun k hk => by
        rcases Hat8.out.block k hk with h | h
        · exact .inl h
        · exact .inr (by rw [h]; exact (((Out.refl w7).alloc _).drewN 1).size)
      clear Hat8 Hgr8 Hown8
      generalize w8.setCell ⟨p, 5, none⟩ (.slice a8 (n + 1) cc8) = w9 at *
      have HE := hidOf (own_mid hc1 HB.out Hx.out Hq.out Hc2.out HC3.out Ho5.out HC7.out HC9.out Hb3.out Hb6.out Hb8.out (by have h := HA9.out; rw [Hfs.out] at h; exact h) HR9.out (by omega) (by omega) hQ)
      clear HA2 HA3 HA5 HA7 HR2 HR3 HR7 HR9 Hc2 HC3 HC7 HC9 Ho5 Hb3 Hb6 Hb8 hw1 hw2 HT7 HbA Hst2
      have k0 : w9.cell? ⟨p, 0, none⟩ = some (.int .i64 (c0 + 1)) := HA9.out.st.cell 0
      have k3 : w9.cell? ⟨p, 3, none⟩ = some (.slice a3 (n + 1) cc3) := HA9.out.st.cell 3
      obtain rfl | rfl | rfl : n = 0 ∨ n = 1 ∨ n = 2 := by omega
      · have ht : (c0 + 1).tmod 4 = (c0 + 1) % 4 := Int.tmod_eq_emod_of_nonneg (by omega)
        cases h4 : ((c0 + 1) % 4 == 0)
        · have h5 : ((c0 + 1).tmod 4 == 0) = false := by rw [ht]; exact h4
          clear ht
          go_wp2
          go_end0
          exact ⟨⟨_, rfl⟩, HE.out.stay (by omega)⟩
        · have h5 : ((c0 + 1).tmod 4 == 0) = true := by rw [ht]; exact h4
          clear ht
          go_wp2_with (go_at_call 39; refine (own_write HE.out hn2 hc0).mono ?_; rintro e w' ⟨⟨r, rfl⟩, hend⟩)
          go_end0
          exact ⟨⟨_, rfl⟩, hend⟩
      · go_wp2
        go_end0
        exact ⟨⟨_, rfl⟩, HE.out.stay (by omega)⟩
      · go_wp2_with (go_at_call 39; refine (own_write HE.out hn2 hc0).mono ?_; rintro e w' ⟨⟨r, rfl⟩, hend⟩)
        go_end0
        exact ⟨⟨_, rfl⟩, hend⟩
end Go.Proofs.YtekjfbmebekmeaaGreat.Bo
