import Derived.Test.YtlfcjbeldnkkoaaGb31
namespace Go.Proofs.Ytlfcjbeldnkkoaa
open Go.RowKit
set_option linter.unusedVariables false
set_option linter.unusedSimpArgs false
section
variable {B : Nat} {w w' wA w1 : World} {p : Nat} {c0 c1 d0 d1 : Int} {fa ha ma ka wa r : Value} {fs hs : List Value} {M : List Int} {K W : List Value} {F : List (Value × List Int)} {n : Nat}
/-- the struct alone turns -/
theorem Arr.stset (h : Arr B w p c0 c1 fa ha ma ka wa fs hs M K W) (c : Chg (fun k => k = p) w w') (st : StAt w' p #[.int .i64 d0, .int .i64 d1, .bool false, fa, ha, ma, ka, wa]) : Arr B w' p d0 d1 fa ha ma ka wa fs hs M K W := by
  have hrow : ∀ {et : TypeId} {u : Value} {m : Nat} {xs : List Value}, w.ownsRow B et 1 u m xs → et ≠ 32 → w'.ownsRow B et 1 u m xs := fun ho het =>
    owns_chg ho (fun k hk hc => by subst hc; exact st_apart h.st het ho hk) c
  exact ⟨st, hrow h.fa_ (by decide), hrow h.ha_ (by decide), hrow h.ma_ (by decide), hrow h.ka_ (by decide), hrow h.wa_ (by decide), h.fh, h.fk, h.fw, h.hk, h.hw, h.kw, h.bp, Nat.le_trans h.bw c.size⟩
theorem Arr.mk_ (h : Arr B w p c0 c1 fa ha ma ka wa fs hs M K W) : Dis ma ka ∧ Dis ma wa ∧ Dis fa ma ∧ Dis ha ma :=
  ⟨fun k hk hk' => apart_types h.ma_ h.ka_ (by decide) hk hk', fun k hk hk' => apart_types h.ma_ h.wa_ (by decide) hk hk', fun k hk hk' => apart_types h.fa_ h.ma_ (by decide) hk hk', fun k hk hk' => apart_types h.ha_ h.ma_ (by decide) hk hk'⟩
theorem grow_chg (o : Out w wA) (hg : wA.grownBy w1 r.ownBlock) (u : Value) (j : Nat) : Chg (fun k => k = p ∨ r.ownBlock = some k) w (w1.setCell ⟨p, j, none⟩ u) :=
  Chg.setCell ((chg_grow o hg).mono (fun k hk _ => .inr hk)) (p := ⟨p, j, none⟩) (.inl rfl) u
/-- what other rows say behind an append to the row r and a store into the struct -/
theorem grow_row {u0 : Value} {j : Nat} {st0 : Array Value} (hst : StAt w p st0) (o : Out w wA) (hg : wA.grownBy w1 r.ownBlock) {et : TypeId} {u : Value} {m : Nat} {xs : List Value} (ho : w.ownsRow B et 1 u m xs) (het : et ≠ 32) (d : Dis r u) : (w1.setCell ⟨p, j, none⟩ u0).ownsRow B et 1 u m xs :=
  owns_chg ho (fun k hk hc => by
    rcases hc with rfl | hc
    · exact st_apart hst het ho hk
    · exact d k hc hk) (grow_chg o hg u0 j)
theorem grow_dis {r' u : Value} {e et : TypeId} {m q k1 : Nat} {news xs : List Value} (o : Out w wA) (hat : AppAt wA w1 e r r' q k1 news) (ho : w.ownsRow B et 1 u m xs) (d : Dis r u) : Dis r' u := fun k hk hk' => by
  rcases hat.block k hk with h1 | h1
  · exact d k h1 hk'
  · have h2 := (ownsRow_block_lt ho hk').1
    have h3 := o.size
    omega
theorem grow_self {r' u0 : Value} {e : TypeId} {m q k1 j : Nat} {st0 : Array Value} {news xs : List Value} (hst : StAt w p st0) (he : e ≠ 32) (hr : w.ownsRow B e 1 r q xs) (o : Out w wA) (hat : AppAt wA w1 e r r' q k1 news) (hown : w1.ownsRow B e 1 r' m (xs ++ news)) : (w1.setCell ⟨p, j, none⟩ u0).ownsRow B e 1 r' m (xs ++ news) :=
  owns_setCell hown (fun hk => by
    rcases hat.block _ hk with h | h
    · exact st_apart hst he hr h
    · have h2 := hst.lt
      have h3 := o.size
      simp only at h
      omega)
theorem grow_st {st0 : Array Value} {j : Nat} {u0 : Value} {e : TypeId} {q : Nat} {xs : List Value} (hst : StAt w p st0) (he : e ≠ 32) (hr : w.ownsRow B e 1 r q xs) (o : Out w wA) (hg : wA.grownBy w1 r.ownBlock) : StAt w1 p st0 :=
  hst.same ((chg_grow o hg).block p hst.lt (fun hk => st_apart hst he hr hk))
theorem Arr.app3 (h : Arr B w p c0 c1 fa ha ma ka wa fs hs M K W) (o : Out w wA) {r' v : Value} {q : Nat} (hq : fs.length = q) (hat : AppAt wA w1 24 fa r' q 1 [v]) (hg : wA.grownBy w1 fa.ownBlock) (hown : w1.ownsRow B 24 1 r' (q + 1) (fs ++ [v])) :
    Arr B (w1.setCell ⟨p, 3, none⟩ r') p c0 c1 r' ha ma ka wa (fs ++ [v]) hs M K W := by
  subst hq
  obtain ⟨m1, m2, m3, m4⟩ := h.mk_
  have s1 := (grow_st (j := 3) (u0 := r') h.st (by decide) h.fa_ o hg).set 3 r'
  exact ⟨s1, by rw [List.length_append]; exact grow_self h.st (by decide) h.fa_ o hat hown, grow_row h.st o hg h.ha_ (by decide) h.fh, grow_row h.st o hg h.ma_ (by decide) m3, grow_row h.st o hg h.ka_ (by decide) h.fk, grow_row h.st o hg h.wa_ (by decide) h.fw,
    grow_dis o hat h.ha_ h.fh, grow_dis o hat h.ka_ h.fk, grow_dis o hat h.wa_ h.fw, h.hk, h.hw, h.kw, h.bp, Nat.le_trans h.bw (grow_chg (p := p) o hg r' 3).size⟩
theorem Arr.app4 (h : Arr B w p c0 c1 fa ha ma ka wa fs hs M K W) (o : Out w wA) {r' v : Value} {q : Nat} (hq : hs.length = q) (hat : AppAt wA w1 24 ha r' q 1 [v]) (hg : wA.grownBy w1 ha.ownBlock) (hown : w1.ownsRow B 24 1 r' (q + 1) (hs ++ [v])) :
    Arr B (w1.setCell ⟨p, 4, none⟩ r') p c0 c1 fa r' ma ka wa fs (hs ++ [v]) M K W := by
  subst hq
  obtain ⟨m1, m2, m3, m4⟩ := h.mk_
  have s1 := (grow_st (j := 4) (u0 := r') h.st (by decide) h.ha_ o hg).set 4 r'
  exact ⟨s1, grow_row h.st o hg h.fa_ (by decide) h.fh.symm, by rw [List.length_append]; exact grow_self h.st (by decide) h.ha_ o hat hown, grow_row h.st o hg h.ma_ (by decide) m4, grow_row h.st o hg h.ka_ (by decide) h.hk, grow_row h.st o hg h.wa_ (by decide) h.hw,
    (grow_dis o hat h.fa_ h.fh.symm).symm, h.fk, h.fw, grow_dis o hat h.ka_ h.hk, grow_dis o hat h.wa_ h.hw, h.kw, h.bp, Nat.le_trans h.bw (grow_chg (p := p) o hg r' 4).size⟩
theorem Arr.app5 (h : Arr B w p c0 c1 fa ha ma ka wa fs hs M K W) (o : Out w wA) {r' : Value} {m : Int} {q : Nat} (hq : M.length = q) (hat : AppAt wA w1 3 ma r' q 1 [.int .i64 m]) (hg : wA.grownBy w1 ma.ownBlock) (hown : w1.ownsRow B 3 1 r' (q + 1) (M.map (Value.int .i64) ++ [.int .i64 m])) :
    Arr B (w1.setCell ⟨p, 5, none⟩ r') p c0 c1 fa ha r' ka wa fs hs (M ++ [m]) K W := by
  subst hq
  obtain ⟨m1, m2, m3, m4⟩ := h.mk_
  have s1 := (grow_st (j := 5) (u0 := r') h.st (by decide) h.ma_ o hg).set 5 r'
  exact ⟨s1, grow_row h.st o hg h.fa_ (by decide) m3.symm, grow_row h.st o hg h.ha_ (by decide) m4.symm, by rw [List.length_append, List.map_append]; exact grow_self h.st (by decide) h.ma_ o hat hown, grow_row h.st o hg h.ka_ (by decide) m1, grow_row h.st o hg h.wa_ (by decide) m2,
    h.fh, h.fk, h.fw, h.hk, h.hw, h.kw, h.bp, Nat.le_trans h.bw (grow_chg (p := p) o hg r' 5).size⟩
end
theorem owns_lower {B B' size n : Nat} {w : World} {e : TypeId} {v : Value} {xs : List Value} (h : w.ownsRow B' e size v n xs) (hB : B ≤ B') : w.ownsRow B e size v n xs := by
  refine ⟨h.1, ?_⟩
  rcases h.2 with h | ⟨g, cap, cur, e1, hb, rest⟩
  · exact .inl h
  · exact .inr ⟨g, cap, cur, e1, Nat.le_trans hB hb, rest⟩
/-- the books: of the lists F the first n lie in them untouched, those behind are still to be handed in -/
structure Bk (B : Nat) (w : World) (p : Nat) (c0 c1 : Int) (fa ha ma ka wa : Value) (F : List (Value × List Int)) (n : Nat) (hs : List Value) (M : List Int) (K W : List Value) : Prop where
  arr : Arr B w p c0 c1 fa ha ma ka wa ((F.take n).map Prod.fst) hs M K W
  fr : Fresh B w F
  kep : Kep B (Frs F) w K W
  held : ∀ (j : Nat) x y, F[j]? = some x → hs[j]? = some y → Rd B (Frs F) w y x.2
  hl : hs.length = n
  ml : M.length = n
  nf : n ≤ F.length
  bl : ∀ x ∈ F, x.2.length ≤ 60000000000000
  bm : ∀ m ∈ M, 0 ≤ m ∧ m ≤ 1000000000000
  n2 : n ≤ 2
  b0 : 0 ≤ c0
  b1 : 0 ≤ c1
  bb : c1 ≤ 1000000000000000
  kl : (K.length : Int) + 6 * n ≤ 6 * c0
/-- the blocks that the books may turn -/
def Bkt (B : Nat) (w : World) (ma : Value) (k : Nat) : Prop := B ≤ k ∧ ∃ cur t, w.heap[k]? = some (.cells cur t (0, 0)) ∧ (t = 32 ∨ t = 24 ∨ t = 5 ∨ ma.ownBlock = some k)
theorem bks_bkt {B : Nat} {w : World} {p : Nat} {c0 c1 : Int} {fa ha ma ka wa : Value} {fs hs : List Value} {M : List Int} {K W : List Value} {F : List (Value × List Int)} (h : Arr B w p c0 c1 fa ha ma ka wa fs hs M K W) (hf : Fresh B w F) {k : Nat} (hk : Bks p fa ha ma ka wa F k) : Bkt B w ma k := by
  have row : ∀ {et : TypeId} {u : Value} {m : Nat} {xs : List Value}, w.ownsRow B et 1 u m xs → (et = 32 ∨ et = 24 ∨ et = 5 ∨ ma.ownBlock = some k) → u.ownBlock = some k → Bkt B w ma k := fun ho het hu => by
    obtain ⟨-, hb, cur, hc⟩ := ownsRow_block_lt ho hu
    exact ⟨hb, cur, _, hc, het⟩
  rcases hk with rfl | hk | hk | hk | hk | hk | ⟨x, hx, hk⟩
  · exact ⟨h.bp, _, _, h.st, .inl rfl⟩
  · exact row h.fa_ (.inr (.inl rfl)) hk
  · exact row h.ha_ (.inr (.inl rfl)) hk
  · exact row h.ma_ (.inr (.inr (.inr hk))) hk
  · exact row h.ka_ (.inr (.inl rfl)) hk
  · exact row h.wa_ (.inr (.inl rfl)) hk
  · exact row (hf.1 x hx) (.inr (.inr (.inl rfl))) hk
section
variable {B : Nat} {w w' : World} {p : Nat} {c0 c1 : Int} {fa ha ma ka wa : Value} {hs : List Value} {M : List Int} {K W : List Value} {F : List (Value × List Int)} {n : Nat}
theorem Bk.out (h : Bk B w p c0 c1 fa ha ma ka wa F n hs M K W) (o : Out w w') : Bk B w' p c0 c1 fa ha ma ka wa F n hs M K W :=
  ⟨h.arr.out o, h.fr.out o, h.kep.out o, fun j x y hx hy => (h.held j x y hx hy).chg (Chg.of_out (S := fun _ => False) o) (fun _ _ _ _ h => h) (fun _ _ h => h), h.hl, h.ml, h.nf, h.bl, h.bm, h.n2, h.b0, h.b1, h.bb, h.kl⟩
/-- a block that the books do not know turns -/
theorem Bk.away {S : Nat → Prop} (h : Bk B w p c0 c1 fa ha ma ka wa F n hs M K W) (c : Chg S w w') (hS : ∀ k, S k → ¬ Bkt B w ma k) : Bk B w' p c0 c1 fa ha ma ka wa F n hs M K W := by
  have h8 : ∀ k, B ≤ k → IsT8 w k → ¬ S k := fun k hB ⟨cur, hc⟩ hs => hS k hs ⟨hB, cur, _, hc, .inr (.inr (.inl rfl))⟩
  have row : ∀ {et : TypeId} {u : Value} {m : Nat} {xs : List Value}, w.ownsRow B et 1 u m xs → (∀ k, u.ownBlock = some k → et = 32 ∨ et = 24 ∨ et = 5 ∨ ma.ownBlock = some k) → w'.ownsRow B et 1 u m xs := fun ho het =>
    owns_chg ho (fun k hk hs => by
      obtain ⟨-, hb, cur, hc⟩ := ownsRow_block_lt ho hk
      exact hS k hs ⟨hb, cur, _, hc, het k hk⟩) c
  have rd : ∀ {v : Value} {l : List Int}, Rd B (Frs F) w v l → Rd B (Frs F) w' v l := fun hr => by
    rcases hr with hr | ⟨g, cc, cur, rfl, hB, hs, hg, ht⟩
    · exact .inl hr
    · exact .inr ⟨g, cc, cur, rfl, hB, hs, (c.block g (Array.getElem?_eq_some_iff.1 hg).1 (h8 g hB ⟨cur, hg⟩)).trans hg, ht⟩
  have A := h.arr
  exact ⟨⟨A.st.same (c.block p A.st.lt (fun hk => hS p hk ⟨A.bp, _, _, A.st, .inl rfl⟩)), row A.fa_ (fun _ _ => .inr (.inl rfl)), row A.ha_ (fun _ _ => .inr (.inl rfl)), row A.ma_ (fun _ hk => .inr (.inr (.inr hk))), row A.ka_ (fun _ _ => .inr (.inl rfl)), row A.wa_ (fun _ _ => .inr (.inl rfl)), A.fh, A.fk, A.fw, A.hk, A.hw, A.kw, A.bp, Nat.le_trans A.bw c.size⟩,
    ⟨fun x hx => row (h.fr.1 x hx) (fun _ _ => .inr (.inr (.inl rfl))), h.fr.2⟩, ⟨h.kep.1, fun j x y hx hy => by
      obtain ⟨l, h1, h2⟩ := h.kep.2 j x y hx hy
      exact ⟨l, rd h1, rd h2⟩⟩, fun j x y hx hy => rd (h.held j x y hx hy), h.hl, h.ml, h.nf, h.bl, h.bm, h.n2, h.b0, h.b1, h.bb, h.kl⟩
/-- a list that is new is to be handed in -/
theorem Bk.take (h : Bk B w p c0 c1 fa ha ma ka wa F n hs M K W) (o : Out w w') {v : Value} {l : List Int} (hv : w'.ownsRow w.heap.size 5 1 v l.length (bV l)) (hl : l.length ≤ 60000000000000) : Bk B w' p c0 c1 fa ha ma ka wa (F ++ [(v, l)]) n hs M K W := by
  have h' := h.out o
  have hvB : ∀ k, v.ownBlock = some k → w.heap.size ≤ k := fun k hk => (ownsRow_block_lt hv hk).2.1
  have hS : ∀ k, k < w.heap.size → ¬ Frs F k → ¬ Frs (F ++ [(v, l)]) k := by
    rintro k hk hn ⟨x, hx, hkx⟩
    rcases List.mem_append.1 hx with hx | hx
    · exact hn ⟨x, hx, hkx⟩
    · simp at hx
      subst hx
      have := hvB k hkx
      omega
  refine ⟨?_, ⟨?_, ?_⟩, ?_, ?_, h.hl, h.ml, by rw [List.length_append]; have := h.nf; omega, ?_, h.bm, h.n2, h.b0, h.b1, h.bb, h.kl⟩
  · rw [List.take_append_of_le_length h.nf]; exact h'.arr
  · intro x hx
    rcases List.mem_append.1 hx with hx | hx
    · exact h'.fr.1 x hx
    · simp at hx
      subst hx
      exact owns_lower hv h.arr.bw
  · rw [List.pairwise_append]
    refine ⟨h.fr.2, List.pairwise_singleton _ _, fun x hx y hy => ?_⟩
    simp at hy
    subst hy
    intro k hk hk'
    have h1 := (ownsRow_block_lt (h.fr.1 x hx) hk).1
    have h2 := hvB k hk'
    omega
  · exact h.kep.chg (Chg.of_out (S := fun _ => False) o) (fun _ _ _ h => h) hS
  · intro j x y hx hy
    have hj : j < F.length := by have h1 := (List.getElem?_eq_some_iff.1 hy).1; have := h.hl; have := h.nf; omega
    rw [List.getElem?_append_left hj] at hx
    exact (h.held j x y hx hy).chg (Chg.of_out (S := fun _ => False) o) (fun _ _ _ _ h => h) hS
  · intro x hx
    rcases List.mem_append.1 hx with hx | hx
    · exact h.bl x hx
    · simp at hx
      subst hx
      exact hl
theorem Bk.pairs (h : Bk B w p c0 c1 fa ha ma ka wa F n hs M K W) : Pairs w ((F.take n).map Prod.fst) hs := by
  refine pairs_of (B := B) (S := fun _ => False) (T := Frs F) (fun j x y hx hy => ?_)
  have hj : j < n := by have h1 := (List.getElem?_eq_some_iff.1 hy).1; have := h.hl; omega
  rw [List.getElem?_map, List.getElem?_take, if_pos hj] at hx
  cases hz : F[j]? with
  | none => rw [hz] at hx; simp at hx
  | some z =>
    rw [hz] at hx
    simp at hx
    subst hx
    exact ⟨z.2, rd_of_owns (h.fr.at hz) (fun _ _ h => h), h.held j z y hz hy⟩
/-- what lies outside the books' own blocks -/
structure Rs (B : Nat) (w : World) (F : List (Value × List Int)) (hs : List Value) (K W : List Value) : Prop where
  fr : Fresh B w F
  kep : Kep B (Frs F) w K W
  held : ∀ (j : Nat) x y, F[j]? = some x → hs[j]? = some y → Rd B (Frs F) w y x.2
theorem Rs.chg8 {U : Nat → Prop} (h : Rs B w F hs K W) (c : Chg U w w') (hU : ∀ k, IsT8 w k → ¬ U k) : Rs B w' F hs K W :=
  ⟨h.fr.chg c (fun k hk hu => hU k (h.fr.isT8 hk) hu), h.kep.chg c (fun k _ h8 hu => hU k h8 hu) (fun _ _ h => h), fun j x y hx hy => (h.held j x y hx hy).chg c (fun k cur _ hc hu => hU k ⟨cur, hc⟩ hu) (fun _ _ h => h)⟩
theorem Rs.out (h : Rs B w F hs K W) (o : Out w w') : Rs B w' F hs K W := h.chg8 (Chg.of_out (S := fun _ => False) o) (fun _ _ h => h)
theorem Rs.snoc (h : Rs B w F hs K W) {x : Value × List Int} {y : Value} (hx : F[hs.length]? = some x) (hy : Rd B (Frs F) w y x.2) : Rs B w F (hs ++ [y]) K W := by
  refine ⟨h.fr, h.kep, fun j a b ha hb => ?_⟩
  by_cases hj : j < hs.length
  · rw [List.getElem?_append_left hj] at hb
    exact h.held j a b ha hb
  · rw [List.getElem?_append_right (by omega)] at hb
    have h0 : j - hs.length = 0 := by
      have := (List.getElem?_eq_some_iff.1 hb).1; simp at this; omega
    rw [h0] at hb
    simp at hb
    subst hb
    obtain rfl : j = hs.length := by omega
    rw [hx] at ha
    obtain rfl := Option.some.inj ha
    exact hy
theorem Fresh.drop (h : Fresh B w F) (m : Nat) : Fresh B w (F.drop m) := ⟨fun x hx => h.1 x (List.mem_of_mem_drop hx), h.2.sublist (List.drop_sublist m F)⟩
theorem Fresh.two (h : Fresh B w F) (m k : Nat) (h1 : Frs (F.drop m) k) : ¬ Frs (F.take m) k := by
  rintro ⟨x, hx, hk⟩
  obtain ⟨y, hy, hk2⟩ := h1
  have hp := h.2
  rw [← List.take_append_drop m F, List.pairwise_append] at hp
  exact hp.2.2 x hx y hy k hk hk2
/-- no list has changed -/
theorem Bk.holds (h : Bk B w p c0 c1 fa ha ma ka wa F n hs M K W) (hc : c0 ≤ 20000000000) : Calls Try.prog 17 #[.pointer (some ⟨p, 0, none⟩)] w fun e w' => e = .returned (.bool true) ∧ ∃ m, w' = w.drewN m := by
  have hn : ((F.take n).map Prod.fst).length = n := by have := h.nf; simp; omega
  have A := h.arr
  have h2 := h.n2
  have h3 := h.kl
  have f1 := A.fa_
  have f2 := A.ha_
  have f4 := A.wa_
  rw [hn] at f1
  rw [h.hl] at f2
  rw [h.kep.1] at f4
  exact books_holds w B p _ _ fa ha ma ka wa n K.length _ hs K W (by omega) (by omega) A.st f1 f2 h.pairs A.ka_ f4 h.kep.pairs
end
end Go.Proofs.Ytlfcjbeldnkkoaa
