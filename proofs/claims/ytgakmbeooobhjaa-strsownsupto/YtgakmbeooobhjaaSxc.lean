import Derived.Test.YtgakmbeooobhjaaStj
import Derived.Test.YtgakmbeooobhjaaSxb
import Derived.Test.YtgakmbeooobhjaaBkn
import Derived.Test.YtgakmbeooobhjaaAk
namespace Go.Proofs.Ytgakmbeooobhjaa
open Go.RowKit
open Go.Maps (Keyed)
set_option linter.unusedVariables false
set_option linter.unusedSimpArgs false
/-- a block of another kind than the books' -/
def Kok (w : World) (k : Nat) : Prop := ∀ cur t fr, w.heap[k]? = some (.cells cur t fr) → ¬ (t = 44 ∨ t = 22 ∨ t = 5)
theorem Kok.of {w : World} {k : Nat} {cs : Array Value} {t : TypeId} (h : w.heap[k]? = some (.cells cs t (0, 0))) (ht : ¬ (t = 44 ∨ t = 22 ∨ t = 5)) : Kok w k := fun cur t' fr h' => by
  rw [h] at h'
  simp at h'
  rw [← h'.2.1]; exact ht
theorem Kok.row {w : World} {B s n : Nat} {e : TypeId} {v : Value} {xs : List Value} (h : w.ownsRow B e s v n xs) (ht : ¬ (e = 44 ∨ e = 22 ∨ e = 5)) {k : Nat} (hk : v.ownBlock = some k) : Kok w k := by
  obtain ⟨cs, hb⟩ := own_blk h hk
  exact Kok.of hb ht
theorem Kok.chg {S : Nat → Prop} {w w' : World} {k : Nat} (h : Kok w k) (c : Chg S w w') (hk : k < w.heap.size) (hs : ¬ S k) : Kok w' k := fun cur t fr h' => by
  rw [c.block k hk hs] at h'
  exact h cur t fr h'
theorem DS.exact {d : Nat} {w : World} {S : Option (List (List UInt8))} {G : Nat → Prop} (h : DS d w S G) : ∃ G0 : Nat → Prop, DS d w S G0 ∧ (∀ k, G0 k → G k) ∧ (∀ k, G0 k → Kok w k) ∧ ∀ k, G0 k → k < w.heap.size := by
  cases S with
  | none => exact ⟨fun k => k = d, ⟨h.1, rfl⟩, fun k hk => by rw [hk]; exact h.2, fun k hk => by rw [hk]; exact Kok.of h.1 (by decide), fun k hk => by rw [hk]; exact h.1.lt⟩
  | some N =>
    obtain ⟨p, ra, rc, F, hd, hg⟩ := h
    obtain ⟨nv, sv, mv, t, hf⟩ := hd.tab
    have hd0 : Dk d w p N ra rc (fp p nv sv mv) := ⟨hd.at_, ⟨nv, sv, mv, t, fun k h => h⟩, hd.own, fun h => hd.nd (hf d h), fun k hk h => hd.nr k hk (hf k h), fun k h => hd.lt k (hf k h)⟩
    refine ⟨dkF d ra (fp p nv sv mv), ⟨p, ra, rc, _, hd0, fun k h => h⟩, fun k hk => hg k ?_, fun k hk => ?_, fun k hk => hd0.flt k hk⟩
    · rcases hk with hk | hk | hk
      · exact .inl hk
      · exact .inr (.inl hk)
      · exact .inr (.inr (hf k hk))
    · rcases hk with hk | hk | hk
      · rw [hk]; exact Kok.of hd.at_ (by decide)
      · exact Kok.row hd.own (by decide) (by rw [ob_len (n' := 0) (c' := 0)]; exact hk)
      · rcases hk with hk | hk | hk | hk
        · rw [hk]; exact Kok.of t.at_ (by decide)
        · exact Kok.row t.nm (by decide) hk
        · exact Kok.row t.st (by decide) hk
        · rcases t.mp with ⟨rfl, _⟩ | ⟨b, D, rfl, ho, _⟩
          · cases hk
          · simp only [mapBlk, Option.some.injEq] at hk
            subst hk
            obtain ⟨es, clock, hb, _⟩ := ho
            intro cur t' fr h'
            rw [hb] at h'
            simp at h'
theorem ShI.qlt {w : World} {p : Nat} {ct tt : Int} {r : Nat → Value} {L : Nat → List Value} (h : ShI w p ct tt r L) {k : Nat} (hk : QS p r L k) : k < w.heap.size := by
  have pl : ∀ {X Y : List Value}, PrS w X Y → X.length = Y.length → ∀ x, x ∈ X ∨ x ∈ Y → ∀ b, x.ownBlock = some b → b < w.heap.size := fun {X Y} hp hl x hx b hb => by
    rcases hx with hx | hx
    · obtain ⟨i, hi⟩ := List.getElem?_of_mem hx
      obtain ⟨z, hz⟩ : ∃ z, Y[i]? = some z := ⟨_, List.getElem?_eq_getElem (by rw [← hl]; exact (List.getElem?_eq_some_iff.1 hi).1)⟩
      obtain ⟨M, _, _, _, _, _, _, ho, _⟩ := hp i x z hi hz
      exact (World.ownsRow.lt ho b hb).2
    · obtain ⟨i, hi⟩ := List.getElem?_of_mem hx
      obtain ⟨z, hz⟩ : ∃ z, X[i]? = some z := ⟨_, List.getElem?_eq_getElem (by rw [hl]; exact (List.getElem?_eq_some_iff.1 hi).1)⟩
      obtain ⟨M, _, _, _, _, _, _, _, ho, _⟩ := hp i z x hz hi
      exact (World.ownsRow.lt ho b hb).2
  rcases hk with e | ⟨j, hj, e⟩
  · rw [e]; exact h.sh.lt
  · rcases e with e | ⟨x, hx, e⟩
    · exact ((h.sh.row j hj).lt k e).2
    · obtain rfl | rfl | rfl | rfl : j = 0 ∨ j = 1 ∨ j = 2 ∨ j = 3 := by omega
      · exact pl h.pf h.wl.symm x (.inl hx) k e
      · exact pl h.pf h.wl.symm x (.inr hx) k e
      · exact pl h.pk h.kl.symm x (.inl hx) k e
      · exact pl h.pk h.kl.symm x (.inr hx) k e
theorem ShI.qok {w : World} {p : Nat} {ct tt : Int} {r : Nat → Value} {L : Nat → List Value} (h : ShI w p ct tt r L) {k : Nat} (hk : QS p r L k) : Kok w k ∧ ∀ {B n : Nat} {v : Value} {xs : List Value}, w.ownsRow B 3 1 v n xs → ¬ v.ownBlock = some k := by
  have key : ∀ {t : TypeId} {cs : Array Value}, w.heap[k]? = some (.cells cs t (0, 0)) → ¬ (t = 44 ∨ t = 22 ∨ t = 5) → ¬ 3 = t → Kok w k ∧ ∀ {B n : Nat} {v : Value} {xs : List Value}, w.ownsRow B 3 1 v n xs → ¬ v.ownBlock = some k := fun hb h1 h2 => ⟨Kok.of hb h1, fun hv => own_kindS hv hb h2⟩
  have str : ∀ {v : Value} {N : List (List UInt8)}, OwS 0 v N w → v.ownBlock = some k → Kok w k ∧ ∀ {B n : Nat} {v : Value} {xs : List Value}, w.ownsRow B 3 1 v n xs → ¬ v.ownBlock = some k := fun ho hb => by
    obtain ⟨cs, hc⟩ := own_blk ho hb
    exact key hc (by decide) (by decide)
  have pl : ∀ {X Y : List Value}, PrS w X Y → X.length = Y.length → ∀ x, x ∈ X ∨ x ∈ Y → x.ownBlock = some k → Kok w k ∧ ∀ {B n : Nat} {v : Value} {xs : List Value}, w.ownsRow B 3 1 v n xs → ¬ v.ownBlock = some k := fun {X Y} hp hl x hx hb => by
    rcases hx with hx | hx
    · obtain ⟨i, hi⟩ := List.getElem?_of_mem hx
      obtain ⟨z, hz⟩ : ∃ z, Y[i]? = some z := ⟨_, List.getElem?_eq_getElem (by rw [← hl]; exact (List.getElem?_eq_some_iff.1 hi).1)⟩
      obtain ⟨M, _, _, _, _, _, _, ho, _⟩ := hp i x z hi hz
      exact str ho hb
    · obtain ⟨i, hi⟩ := List.getElem?_of_mem hx
      obtain ⟨z, hz⟩ : ∃ z, X[i]? = some z := ⟨_, List.getElem?_eq_getElem (by rw [hl]; exact (List.getElem?_eq_some_iff.1 hi).1)⟩
      obtain ⟨M, _, _, _, _, _, _, _, ho, _⟩ := hp i z x hz hi
      exact str ho hb
  rcases hk with e | ⟨j, hj, e⟩
  · subst e; exact key h.sh.st (by decide) (by decide)
  · rcases e with e | ⟨x, hx, e⟩
    · obtain ⟨cs, hc⟩ := own_blk (h.sh.row j hj) e
      exact key hc (by decide) (by decide)
    · obtain rfl | rfl | rfl | rfl : j = 0 ∨ j = 1 ∨ j = 2 ∨ j = 3 := by omega
      · exact pl h.pf h.wl.symm x (.inl hx) e
      · exact pl h.pf h.wl.symm x (.inr hx) e
      · exact pl h.pk h.kl.symm x (.inl hx) e
      · exact pl h.pk h.kl.symm x (.inr hx) e
theorem not_bkt {B : Nat} {w : World} {ma : Value} {k : Nat} (h : Kok w k) (hm : ¬ ma.ownBlock = some k) : ¬ Bkt B w ma k := fun ⟨_, cur, t, hc, ht⟩ => by
  have := h cur t _ hc
  rcases ht with e | e | e | e
  · exact this (.inl e)
  · exact this (.inr (.inl e))
  · exact this (.inr (.inr e))
  · exact hm e
section
variable {B : Nat} {w w' : World} {p : Nat} {c0 c1 : Int} {fa ha ma ka wa : Value} {hs : List Value} {M : List Int} {K W : List Value} {F : List (Value × List Int)} {n : Nat}
/-- a list that is new is to be handed in, others turn -/
theorem Bk.take2 {S : Nat → Prop} (h : Bk B w p c0 c1 fa ha ma ka wa F n hs M K W) (c : Chg S w w') (hS0 : ∀ k, S k → ¬ Bkt B w ma k) (h8 : ∀ k, IsT8 w k → ¬ S k) {v : Value} {l : List Int} (hv : w'.ownsRow w.heap.size 5 1 v l.length (bV l)) (hl : l.length ≤ 60000000000000) : Bk B w' p c0 c1 fa ha ma ka wa (F ++ [(v, l)]) n hs M K W := by
  have h' := h.away c hS0
  have hvB : ∀ k, v.ownBlock = some k → w.heap.size ≤ k := fun k hk => (ownsRow_block_lt hv hk).2.1
  have hS : ∀ k, k < w.heap.size → ¬ Frs F k → ¬ Frs (F ++ [(v, l)]) k := by
    rintro k hk hn ⟨x, hx, hkx⟩
    rcases List.mem_append.1 hx with hx | hx
    · exact hn ⟨x, hx, hkx⟩
    · simp at hx
      subst hx
      have := hvB k hkx
      omega
  refine ⟨?_, ⟨?_, ?_⟩, ?_, ?_, h.hl, h.ml, by rw [List.length_append]; have := h.nf; omega, ?_, h.bm, h.n2, h.b0, h.b1, h.bb, h.kl⟩
  · rw [List.take_append_of_le_length h.nf]; exact h'.arr
  · intro x hx
    rcases List.mem_append.1 hx with hx | hx
    · exact h'.fr.1 x hx
    · simp at hx
      subst hx
      exact owns_lower hv h.arr.bw
  · rw [List.pairwise_append]
    refine ⟨h.fr.2, List.pairwise_singleton _ _, fun x hx y hy => ?_⟩
    simp at hy
    subst hy
    intro k hk hk'
    have h1 := (ownsRow_block_lt (h.fr.1 x hx) hk).1
    have h2 := hvB k hk'
    omega
  · exact h.kep.chg c (fun k _ h9 => h8 k h9) hS
  · intro j x y hx hy
    have hj : j < F.length := by have h1 := (List.getElem?_eq_some_iff.1 hy).1; have := h.hl; have := h.nf; omega
    rw [List.getElem?_append_left hj] at hx
    exact (h.held j x y hx hy).chg c (fun k cur _ hc => h8 k ⟨cur, hc⟩) hS
  · intro x hx
    rcases List.mem_append.1 hx with hx | hx
    · exact h.bl x hx
    · simp at hx
      subst hx
      exact hl
end
/-- amid StrsOwns: the desk, the books (q is still to be handed in), the shelf -/
structure OS (W wr : World) (d pb ps B : Nat) (T : Option (List (List UInt8))) (G : Nat → Prop) (q : List (Value × List Int)) (cb c1 : Int) (ma : Value) (cs tt : Int) (r : Nat → Value) (L : Nat → List Value) : Prop where
  ds : DS d wr T G
  gW : ∀ k, G k → W.heap.size ≤ k
  gl : ∀ k, G k → k < wr.heap.size
  gk : ∀ k, G k → Kok wr k
  gm : ∀ k, G k → ¬ ma.ownBlock = some k
  gs : ∀ k, G k → ¬ QS ps r L k
  bk : ∃ fa ha ka wa F n hs M K V, Bk B wr pb cb c1 fa ha ma ka wa (F ++ q) n hs M K V ∧ F.length = n
  sh : ShI wr ps cs tt r L
  f2 : (L 0).length ≤ 2
  ki : ((L 2).length : Int) + 4 * (L 0).length ≤ 4 * cs
  t0 : 0 ≤ tt
  t1 : tt ≤ 300000000000
  sW : ∀ k, QS ps r L k → W.heap.size ≤ k
  bW : W.heap.size ≤ B
  out : Out W wr
section
variable {W w w' : World} {d pb ps B : Nat} {T T' : Option (List (List UInt8))} {G G' : Nat → Prop} {q : List (Value × List Int)} {cb c1 cs tt : Int} {ma : Value} {r : Nat → Value} {L : Nat → List Value}
theorem OS.mrow (h : OS W w d pb ps B T G q cb c1 ma cs tt r L) : ∃ n xs, w.ownsRow B 3 1 ma n xs := by
  obtain ⟨fa, ha, ka, wa, F, n, hs, M, K, V, hb, _⟩ := h.bk
  exact ⟨_, _, hb.arr.ma_⟩
theorem OS.gnb (h : OS W w d pb ps B T G q cb c1 ma cs tt r L) {k : Nat} (hk : G k) : ¬ Bkt B w ma k := not_bkt (h.gk k hk) (h.gm k hk)
theorem OS.qnb (h : OS W w d pb ps B T G q cb c1 ma cs tt r L) {k : Nat} (hk : QS ps r L k) : ¬ Bkt B w ma k := by
  obtain ⟨n, xs, hm⟩ := h.mrow
  have := h.sh.qok hk
  exact not_bkt this.1 (this.2 hm)
theorem OS.c (h : OS W w d pb ps B T G q cb c1 ma cs tt r L) : 0 ≤ c1 ∧ c1 ≤ 100000000000000 ∧ 0 ≤ cb ∧ w.cell? ⟨pb, 1, none⟩ = some (.int .i64 c1) ∧ w.cell? ⟨ps, 1, none⟩ = some (.int .i64 tt) := by
  obtain ⟨fa, ha, ka, wa, F, n, hs, M, K, V, hb, _⟩ := h.bk
  exact ⟨hb.b1, hb.bb, hb.b0, hb.arr.st.cell 1, by rw [cell_atL h.sh.sh.st]; rfl⟩
theorem OS.more (h : OS W w d pb ps B T G q cb c1 ma cs tt r L) (o : Out w w') : OS W w' d pb ps B T G q cb c1 ma cs tt r L := by
  obtain ⟨fa, ha, ka, wa, F, n, hs, M, K, V, hb, hF⟩ := h.bk
  exact ⟨h.ds.out o, h.gW, fun k hk => Nat.lt_of_lt_of_le (h.gl k hk) o.size, fun k hk => (h.gk k hk).chg (S := fun _ => False) (Chg.of_out o) (h.gl k hk) (fun h => h), h.gm, h.gs, ⟨fa, ha, ka, wa, F, n, hs, M, K, V, hb.out o, hF⟩, h.sh.out o, h.f2, h.ki, h.t0, h.t1, h.sW, h.bW, h.out.trans o⟩
/-- behind an act -/
theorem OS.act (h : OS W w d pb ps B T G [] cb c1 ma cs tt r L) (hd : DS d w' T' G') (c : Chg G w w') (hg : ∀ k, G' k → FN G w w' k) : ∃ G0 : Nat → Prop, (∀ k, G0 k → G' k) ∧ OS W w' d pb ps B T' G0 [] cb c1 ma cs tt r L ∧
    ∀ (v : Value) (l : List Int), w'.ownsRow w.heap.size 5 1 v l.length (bV l) → l.length ≤ 60000000000000 → OS W w' d pb ps B T' G0 [(v, l)] cb c1 ma cs tt r L := by
  obtain ⟨G0, hd0, h1, h2, h3⟩ := hd.exact
  obtain ⟨fa, ha, ka, wa, F, n, hs, M, K, V, hb, hF⟩ := h.bk
  rw [List.append_nil] at hb
  have z := c.size
  have gS : ∀ k, G k → ¬ Bkt B w ma k := fun k hk => h.gnb hk
  have g8 : ∀ k, IsT8 w k → ¬ G k := fun k ⟨cur, hc⟩ hk => h.gk k hk cur _ _ hc (.inr (.inr rfl))
  have gW : ∀ k, G0 k → W.heap.size ≤ k := fun k hk => by
    rcases hg k (h1 k hk) with e | e
    · exact h.gW k e
    · have := h.out.size; omega
  have gm : ∀ k, G0 k → ¬ ma.ownBlock = some k := fun k hk e => by
    rcases hg k (h1 k hk) with e1 | e1
    · exact h.gm k e1 e
    · have := (hb.arr.ma_.lt k e).2; omega
  have gs : ∀ k, G0 k → ¬ QS ps r L k := fun k hk e => by
    rcases hg k (h1 k hk) with e1 | e1
    · exact h.gs k e1 e
    · have := h.sh.qlt e; omega
  have sh := h.sh.chg c (fun b hb hg => h.gs b hg hb)
  have out := Chg.out c h.out (fun k hk => h.gW k hk)
  refine ⟨G0, h1, ⟨hd0, gW, h3, h2, gm, gs, ⟨fa, ha, ka, wa, F, n, hs, M, K, V, by rw [List.append_nil]; exact hb.away c gS, hF⟩, sh, h.f2, h.ki, h.t0, h.t1, h.sW, h.bW, out⟩, fun v l hv hl => ⟨hd0, gW, h3, h2, gm, gs, ⟨fa, ha, ka, wa, F, n, hs, M, K, V, hb.take2 c gS g8 hv hl, hF⟩, sh, h.f2, h.ki, h.t0, h.t1, h.sW, h.bW, out⟩⟩
/-- the books' Own -/
theorem OS.ownB {a : Option Addr} {n c : Nat} {l : List Int} (h : OS W w d pb ps B T G [(.slice a n c, l)] cb c1 ma cs tt r L) (hn : l.length = n) (hc1 : c1 ≤ 3000) (mark : Int) (m0 : 0 ≤ mark) (m1 : mark ≤ 100000000000) (hcb : cb ≤ 20000000000) :
    Calls Try.prog 13 #[.pointer (some ⟨pb, 0, none⟩), .slice a n c, .int .i64 mark] w fun e w' => (∃ q, e = .returned q) ∧ ∃ c1' ma', OS W w' d pb ps B T G [] (cb + 1) c1' ma' cs tt r L ∧ Chg (Bkt B w ma) w w' := by
  obtain ⟨fa, ha, ka, wa, F, m, hs, M, K, V, hb, hF⟩ := h.bk
  refine (books_own w B pb cb c1 fa ha ma ka wa (F ++ [(.slice a n c, l)]) m hs M K V hc1 hb a n c l (by rw [List.getElem?_append_right (by omega), hF, Nat.sub_self]; rfl) hn mark m0 m1 hcb).mono ?_
  rintro e w' ⟨he, c1', fa', ha', ma', ka', wa', hs', M', K', V', F', n', hb', hF', hc, hma⟩
  have hF2 : F'.length = n' := by
    rcases hF' with ⟨rfl, rfl⟩ | ⟨rfl, rfl⟩
    · simp; omega
    · simp; omega
  refine ⟨he, c1', ma', ⟨h.ds.chg hc (fun k hk => h.gnb hk), h.gW, fun k hk => Nat.lt_of_lt_of_le (h.gl k hk) hc.size, fun k hk => (h.gk k hk).chg hc (h.gl k hk) (h.gnb hk), fun k hk e => ?_, h.gs, ⟨fa', ha', ka', wa', F', n', hs', M', K', V', by rw [List.append_nil]; exact hb', hF2⟩, h.sh.chg hc (fun b hb => h.qnb hb), h.f2, h.ki, h.t0, h.t1, h.sW, h.bW, Chg.out hc h.out (fun k hk => Nat.le_trans h.bW hk.1)⟩, hc⟩
  rcases hma k e with e1 | e1
  · exact h.gm k hk e1
  · have := h.gl k hk; omega
/-- the shelf's Own -/
theorem OS.ownS {a : Option Addr} {n c : Nat} {N : List (List UInt8)} (h : OS W w d pb ps B T G [] cb c1 ma cs tt r L) (hn : n = N.length) (hN : N.length ≤ 100000000000) (hx : OwS 0 (.slice a n c) N w) (hq : ∀ b, (Value.slice a n c).ownBlock = some b → ¬ QS ps r L b ∧ ¬ G b ∧ W.heap.size ≤ b) (htt : tt ≤ 3000) (hcs : cs ≤ 100000000000) :
    Calls Try.prog 14 #[.pointer (some ⟨ps, 0, none⟩), .slice a n c] w fun e w' => (∃ q, e = .returned q) ∧ ∃ tt' r' L', OS W w' d pb ps B T G [] cb c1 ma (cs + 1) tt' r' L' ∧ Chg (fun b => QS ps r L b ∨ (Value.slice a n c).ownBlock = some b) w w' ∧ ∀ b, QS ps r' L' b → QS ps r L b ∨ (Value.slice a n c).ownBlock = some b ∨ w.heap.size ≤ b := by
  refine (ownS_any w ps cs tt r L h.sh h.f2 h.ki hcs h.t0 htt a n c N hn hN hx (fun b hb => (hq b hb).1)).mono ?_
  rintro e w' ⟨he, r', L', tt', h1, h2, h3, h4, h5, hc, h6⟩
  obtain ⟨fa, ha, ka, wa, F, m, hs, M, K, V, hb, hF⟩ := h.bk
  have gS : ∀ k, G k → ¬ (QS ps r L k ∨ (Value.slice a n c).ownBlock = some k) := fun k hk e => by
    rcases e with e | e
    · exact h.gs k hk e
    · exact (hq k e).2.1 hk
  have bS : ∀ k, (QS ps r L k ∨ (Value.slice a n c).ownBlock = some k) → ¬ Bkt B w ma k := fun k hk => by
    rcases hk with hk | hk
    · exact h.qnb hk
    · obtain ⟨cs', hcs'⟩ := own_blk hx hk
      exact not_bkt (Kok.of hcs' (by decide)) (own_kindS hb.arr.ma_ hcs' (by decide))
  refine ⟨he, tt', r', L', ⟨h.ds.chg hc gS, h.gW, fun k hk => Nat.lt_of_lt_of_le (h.gl k hk) hc.size, fun k hk => (h.gk k hk).chg hc (h.gl k hk) (gS k hk), h.gm, fun k hk e => ?_, ⟨fa, ha, ka, wa, F, m, hs, M, K, V, hb.away hc bS, hF⟩, h1, h2, h3, h4, h5, fun k hk => ?_, h.bW, Chg.out hc h.out (fun k hk => ?_)⟩, hc, h6⟩
  · rcases h6 k e with e1 | e1 | e1
    · exact h.gs k hk e1
    · exact (hq k e1).2.1 hk
    · have := h.gl k hk; omega
  · rcases h6 k hk with e1 | e1 | e1
    · exact h.sW k e1
    · exact (hq k e1).2.2
    · have := h.out.size; omega
  · rcases hk with e1 | e1
    · exact h.sW k e1
    · exact (hq k e1).2.2
theorem OS.holdsB (h : OS W w d pb ps B T G [] cb c1 ma cs tt r L) (hcb : cb ≤ 20000000000) : Calls Try.prog 15 #[.pointer (some ⟨pb, 0, none⟩)] w fun e w' => e = .returned (.bool true) ∧ Out w w' := by
  obtain ⟨fa, ha, ka, wa, F, m, hs, M, K, V, hb, hF⟩ := h.bk
  refine (hb.holds hcb).mono ?_
  rintro e w' ⟨rfl, k, rfl⟩
  exact ⟨rfl, (Out.refl w).drewN k⟩
theorem OS.holdsS (h : OS W w d pb ps B T G [] cb c1 ma cs tt r L) (hcs : cs ≤ 100000000000) : Calls Try.prog 16 #[.pointer (some ⟨ps, 0, none⟩)] w fun e w' => e = .returned (.bool true) ∧ Out w w' := by
  have := h.f2
  have := h.ki
  exact holdsS_any w ps cs tt r L h.sh.sh h.sh.wl h.sh.pf (by omega) h.sh.kl h.sh.pk (by omega)
end
def bookO : Obj := .cells #[.int .i64 0, .int .i64 0, .bool false, .slice none 0 0, .slice none 0 0, .slice none 0 0, .slice none 0 0, .slice none 0 0] 44 (0, 0)
def shelfO : Obj := .cells #[.int .i64 0, .int .i64 0, .bool false, .slice none 0 0, .slice none 0 0, .slice none 0 0, .slice none 0 0] 48 (0, 0)
theorem Bk.new (w : World) : Bk w.heap.size (w.alloc bookO) w.heap.size 0 0 (.slice none 0 0) (.slice none 0 0) (.slice none 0 0) (.slice none 0 0) (.slice none 0 0) [] 0 [] [] [] [] := by
  have hd : ∀ y : Value, Dis (.slice none 0 0) y := fun y k hk => by simp [Value.ownBlock] at hk
  exact ⟨⟨heap_alloc_new w _, World.ownsRow_nil _ _ _ _, World.ownsRow_nil _ _ _ _, World.ownsRow_nil _ _ _ _, World.ownsRow_nil _ _ _ _, World.ownsRow_nil _ _ _ _, hd _, hd _, hd _, hd _, hd _, hd _, Nat.le_refl _, by rw [size_alloc]; omega⟩,
    ⟨(fun x hx => by cases hx), List.Pairwise.nil⟩, ⟨rfl, fun j x y hx _ => by simp at hx⟩, (fun j x y hx _ => by simp at hx), rfl, rfl, Nat.le_refl _, (fun x hx => by cases hx), (fun m hm => by cases hm), by omega, by omega, by omega, by omega, by simp⟩
theorem ShI.new (w : World) : ShI (w.alloc shelfO) w.heap.size 0 0 (fun _ => .slice none 0 0) (fun _ => []) :=
  ⟨⟨heap_alloc_new w _, fun j _ => World.ownsRow_nil _ _ _ _, (fun i j b _ _ _ h => by cases h)⟩, rfl, rfl, (fun i x y hx => by cases hx), (fun i x y hx => by cases hx), (fun j x hx => by cases hx), (fun i j x y hx => by cases hx), (fun l y hy j x hx => by cases hx)⟩
theorem qs_new {p k : Nat} (h : QS p (fun _ => .slice none 0 0) (fun _ => []) k) : k = p := by
  rcases h with e | ⟨j, _, e | ⟨x, hx, _⟩⟩
  · exact e
  · cases e
  · cases hx
theorem OS.start {W w1 : World} {d : Nat} {S : Option (List (List UInt8))} (hd : DS d w1 S (FN (fun _ => False) W w1)) (o : Out W w1) : ∃ G : Nat → Prop, OS W ((w1.alloc bookO).alloc shelfO) d w1.heap.size (w1.heap.size + 1) w1.heap.size S G [] 0 0 (.slice none 0 0) 0 0 (fun _ => .slice none 0 0) (fun _ => []) := by
  obtain ⟨G0, hd0, h1, h2, h3⟩ := hd.exact
  have o1 : Out w1 (w1.alloc bookO) := (Out.refl w1).alloc _
  have o2 : Out (w1.alloc bookO) ((w1.alloc bookO).alloc shelfO) := (Out.refl _).alloc _
  have o3 := o1.trans o2
  have hs : (w1.alloc bookO).heap.size = w1.heap.size + 1 := size_alloc _ _
  refine ⟨G0, hd0.out o3, fun k hk => ((h1 k hk).resolve_left id).1, fun k hk => Nat.lt_of_lt_of_le (h3 k hk) o3.size, fun k hk => (h2 k hk).chg (S := fun _ => False) (Chg.of_out o3) (h3 k hk) (fun h => h), (fun k _ e => by cases e), fun k hk e => ?_, ⟨_, _, _, _, [], 0, _, _, _, _, (Bk.new w1).out o2, rfl⟩, by rw [← hs]; exact ShI.new (w1.alloc bookO), Nat.zero_le _, by simp, Int.le_refl _, by omega, fun k hk => ?_, o.size, o.trans o3⟩
  · have := qs_new e; have := h3 k hk; omega
  · have := qs_new hk; have := o.size; omega
/-- the five asks -/
def AskB (w : World) (kb : Nat) (x : Ac) : Prop := w.heap[kb]? = some (.cells #[.int .i64 x.w, .int .i64 x.k, .string ⟨x.s.toArray⟩, .int .i64 x.p, .int .i64 0, .int .i64 3, .string ⟨#[]⟩, .int .i64 0, .int .i64 0, .int .i64 3, .string ⟨#[]⟩, .int .i64 0, .int .i64 0, .int .i64 4, .string ⟨#[]⟩, .int .i64 0, .int .i64 0, .int .i64 4, .string ⟨#[]⟩, .int .i64 0] 29 (0, 0))
theorem AskB.get {kb : Nat} {x : Ac} {m : Nat} (hx : x.s.length ≤ m) (k : Nat) (hk : k < 5) : ∃ y : Ac, y.s.length ≤ m ∧ ∀ w, AskB w kb x → w.cell? ⟨kb, k * 4, none⟩ = some (.int .i64 y.w) ∧ w.cell? ⟨kb, k * 4 + 1, none⟩ = some (.int .i64 y.k) ∧ w.cell? ⟨kb, k * 4 + 2, none⟩ = some (.string ⟨y.s.toArray⟩) ∧ w.cell? ⟨kb, k * 4 + 3, none⟩ = some (.int .i64 y.p) := by
  have key : ∀ y : Ac, (∀ w, AskB w kb x → w.cell? ⟨kb, k * 4, none⟩ = some (.int .i64 y.w) ∧ w.cell? ⟨kb, k * 4 + 1, none⟩ = some (.int .i64 y.k) ∧ w.cell? ⟨kb, k * 4 + 2, none⟩ = some (.string ⟨y.s.toArray⟩) ∧ w.cell? ⟨kb, k * 4 + 3, none⟩ = some (.int .i64 y.p)) → y.s.length ≤ m → ∃ y : Ac, y.s.length ≤ m ∧ ∀ w, AskB w kb x → w.cell? ⟨kb, k * 4, none⟩ = some (.int .i64 y.w) ∧ w.cell? ⟨kb, k * 4 + 1, none⟩ = some (.int .i64 y.k) ∧ w.cell? ⟨kb, k * 4 + 2, none⟩ = some (.string ⟨y.s.toArray⟩) ∧ w.cell? ⟨kb, k * 4 + 3, none⟩ = some (.int .i64 y.p) := fun y h1 h2 => ⟨y, h2, h1⟩
  have cell : ∀ {w : World}, AskB w kb x → ∀ j, w.cell? ⟨kb, j, none⟩ = (#[.int .i64 x.w, .int .i64 x.k, .string ⟨x.s.toArray⟩, .int .i64 x.p, .int .i64 0, .int .i64 3, .string ⟨#[]⟩, .int .i64 0, .int .i64 0, .int .i64 3, .string ⟨#[]⟩, .int .i64 0, .int .i64 0, .int .i64 4, .string ⟨#[]⟩, .int .i64 0, .int .i64 0, .int .i64 4, .string ⟨#[]⟩, .int .i64 0] : Array Value)[j]? := fun {w} h j => cell_atL (show w.heap[kb]? = _ from h) j
  obtain rfl | rfl | rfl | rfl | rfl : k = 0 ∨ k = 1 ∨ k = 2 ∨ k = 3 ∨ k = 4 := by omega
  · exact key x (fun w h => ⟨cell h 0, cell h 1, cell h 2, cell h 3⟩) hx
  · exact key ⟨0, 3, [], 0⟩ (fun w h => ⟨cell h 4, cell h 5, cell h 6, cell h 7⟩) (Nat.zero_le _)
  · exact key ⟨0, 3, [], 0⟩ (fun w h => ⟨cell h 8, cell h 9, cell h 10, cell h 11⟩) (Nat.zero_le _)
  · exact key ⟨0, 4, [], 0⟩ (fun w h => ⟨cell h 12, cell h 13, cell h 14, cell h 15⟩) (Nat.zero_le _)
  · exact key ⟨0, 4, [], 0⟩ (fun w h => ⟨cell h 16, cell h 17, cell h 18, cell h 19⟩) (Nat.zero_le _)
theorem AskB.chg {S : Nat → Prop} {w w' : World} {kb : Nat} {x : Ac} (h : AskB w kb x) (c : Chg S w w') (hs : ¬ S kb) : AskB w' kb x := (c.block kb (Array.getElem?_eq_some_iff.1 h).1 hs).trans h
theorem AskB.lt {w : World} {kb : Nat} {x : Ac} (h : AskB w kb x) : kb < w.heap.size := (Array.getElem?_eq_some_iff.1 h).1
/-- the whole state of a round -/
def OQ (W w : World) (d pb ps B kb : Nat) (x : Ac) (m : Nat) (c : Int) : Prop := ∃ T G cb c1 ma cs tt r L, OS W w d pb ps B T G [] cb c1 ma cs tt r L ∧ szS T ≤ m ∧ cb ≤ c ∧ cs ≤ c ∧ AskB w kb x ∧ ¬ G kb ∧ ¬ QS ps r L kb
theorem bV_bytes (O : List UInt8) : bV (O.map (fun b => (b.toNat : Int))) = Lib.byteCells O := by simp [bV, Lib.byteCells]
/-- behind an act: the sums, and the two calls -/
def Mid5 (W w : World) (d pb ps B kb : Nat) (x : Ac) (m : Nat) (c : Int) (a1 : Option Addr) (n1 q1 : Nat) (a2 : Option Addr) (n2 q2 : Nat) : Prop :=
  ∃ T G cb c1 ma cs tt r L O N, OS W w d pb ps B T G [] cb c1 ma cs tt r L ∧ OS W w d pb ps B T G [(.slice a1 n1 q1, O)] cb c1 ma cs tt r L ∧ O.length = n1 ∧ n2 = N.length ∧ N.length ≤ 100000000000 ∧ OwS 0 (.slice a2 n2 q2) N w ∧ (∀ b, (Value.slice a2 n2 q2).ownBlock = some b → ¬ QS ps r L b ∧ ¬ G b ∧ W.heap.size ≤ b) ∧ szS T ≤ m ∧ cb ≤ c ∧ cs ≤ c ∧ AskB w kb x ∧ ¬ G kb ∧ ¬ QS ps r L kb
theorem OQ.act {W w : World} {d pb ps B kb : Nat} {x : Ac} {m : Nat} {c : Int} (h : OQ W w d pb ps B kb x m c) (y : Ac) (hm : m ≤ 1000000000) (hy : y.s.length ≤ 1048576) :
    Calls Try.prog 9 #[.pointer (some ⟨d, 0, none⟩), .agg y.cs] w fun e w' => ∃ a1 n1 q1 a2 n2 q2, e = .returned (.tuple #[.bool true, .slice a1 n1 q1, .slice a2 n2 q2]) ∧ Mid5 W w' d pb ps B kb x (m + 65) c a1 n1 q1 a2 n2 q2 := by
  obtain ⟨T, G, cb, c1, ma, cs, tt, r, L, ho, hz, hcb, hcs, hA, hG, hQ⟩ := h
  refine (act_own d y w T G ho.ds ho.gl m hz (by omega) (by omega)).mono ?_
  rintro e w' ⟨a1, n1, q1, a2, n2, q2, O, N, G', rfl, rfl, rfl, hO, hN, hOB, hOS, hD, hC, hg, hnb⟩
  obtain ⟨G0, h1, h2, h3⟩ := ho.act hD hC hg
  have hz2 := szS_add T y
  have lt := hA.lt
  refine ⟨a1, _, q1, a2, _, q2, rfl, addS T y, G0, cb, c1, ma, cs, tt, r, L, O.map (fun b => (b.toNat : Int)), N, h2, h3 _ _ (by rw [bV_bytes, List.length_map]; exact hOB) (by rw [List.length_map]; omega), by simp, rfl, by omega, OwS.lower hOS (Nat.zero_le _), fun b hb => ⟨fun hq => ?_, fun hg => hnb b (.inr hb) (h1 b hg), ?_⟩, by omega, hcb, hcs, hA.chg hC hG, fun hg0 => ?_, hQ⟩
  · have := (World.ownsRow.lt hOS b hb).1; have := ho.sh.qlt hq; omega
  · have := (World.ownsRow.lt hOS b hb).1; have := ho.out.size; omega
  · rcases hg kb (h1 kb hg0) with e | e
    · exact hG e
    · omega
theorem Mid5.sums {W w : World} {d pb ps B kb : Nat} {x : Ac} {m : Nat} {c : Int} {a1 a2 : Option Addr} {n1 q1 n2 q2 : Nat} (h : Mid5 W w d pb ps B kb x m c a1 n1 q1 a2 n2 q2) : ∃ c1 tt : Int, w.cell? ⟨pb, 1, none⟩ = some (.int .i64 c1) ∧ w.cell? ⟨ps, 1, none⟩ = some (.int .i64 tt) ∧ 0 ≤ c1 ∧ 0 ≤ tt ∧ c1 ≤ 100000000000000 ∧ tt ≤ 300000000000 ∧ OQ W w d pb ps B kb x m c ∧
    (c1 + tt < 3000 → c ≤ 10000000000 → ∀ mark : Int, 0 ≤ mark → mark ≤ 100000000000 → Calls Try.prog 13 #[.pointer (some ⟨pb, 0, none⟩), .slice a1 n1 q1, .int .i64 mark] w fun e w' => (∃ q, e = .returned q) ∧ Calls Try.prog 14 #[.pointer (some ⟨ps, 0, none⟩), .slice a2 n2 q2] w' fun e w'' => (∃ q, e = .returned q) ∧ OQ W w'' d pb ps B kb x m (c + 1)) := by
  obtain ⟨T, G, cb, c1, ma, cs, tt, r, L, O, N, h1, h2, hO, hN, hNl, hS, hq, hz, hcb, hcs, hA, hG, hQ⟩ := h
  have hc := h1.c
  refine ⟨c1, tt, hc.2.2.2.1, hc.2.2.2.2, hc.1, h1.t0, hc.2.1, h1.t1, ⟨T, G, cb, c1, ma, cs, tt, r, L, h1, hz, hcb, hcs, hA, hG, hQ⟩, fun hlt hc9 mark m0 m1 => ?_⟩
  have := h1.t0
  refine (h2.ownB hO (by omega) mark m0 m1 (by omega)).mono ?_
  rintro e w' ⟨he, c1', ma', h3, hC⟩
  refine ⟨he, ?_⟩
  obtain ⟨nm, xm, hmr⟩ := h1.mrow
  have nb : ∀ {v : Value} {xs : List Value} {n : Nat}, w.ownsRow 0 9 1 v n xs → ∀ b, v.ownBlock = some b → ¬ Bkt B w ma b := fun hv b hb => by
    obtain ⟨cs', hcs'⟩ := own_blk hv hb
    exact not_bkt (Kok.of hcs' (by decide)) (own_kindS hmr hcs' (by decide))
  have hA' := hA.chg hC (not_bkt (Kok.of (show w.heap[kb]? = _ from hA) (by decide)) (own_kindS hmr (show w.heap[kb]? = _ from hA) (by decide)))
  have hS' : OwS 0 (.slice a2 n2 q2) N w' := owns_chg hS (fun b hb => nb hS b hb) hC
  refine (h3.ownS hN hNl hS' hq (by omega) (by omega)).mono ?_
  rintro e w'' ⟨he2, tt', r', L', h4, hC2, h6⟩
  have kx : ¬ (Value.slice a2 n2 q2).ownBlock = some kb := own_kindS hS (show w.heap[kb]? = _ from hA) (by decide)
  refine ⟨he2, T, G, cb + 1, c1', ma', cs + 1, tt', r', L', h4, hz, by omega, by omega, hA'.chg hC2 (fun e => by
    rcases e with e | e
    · exact hQ e
    · exact kx e), hG, fun e => ?_⟩
  rcases h6 kb e with e | e | e
  · exact hQ e
  · exact kx e
  · have := hA'.lt; omega
/-- the whole state between two rounds -/
def OP (W w : World) (d pb ps B : Nat) (m : Nat) (c : Int) : Prop := ∃ T G cb c1 ma cs tt r L, OS W w d pb ps B T G [] cb c1 ma cs tt r L ∧ szS T ≤ m ∧ cb ≤ c ∧ cs ≤ c
theorem OQ.op {W w : World} {d pb ps B kb : Nat} {x : Ac} {m : Nat} {c : Int} (h : OQ W w d pb ps B kb x m c) : OP W w d pb ps B m c := by
  obtain ⟨T, G, cb, c1, ma, cs, tt, r, L, h1, h2, h3, h4, _⟩ := h
  exact ⟨T, G, cb, c1, ma, cs, tt, r, L, h1, h2, h3, h4⟩
theorem OP.out {W w : World} {d pb ps B : Nat} {m : Nat} {c : Int} (h : OP W w d pb ps B m c) : Out W w := by
  obtain ⟨T, G, cb, c1, ma, cs, tt, r, L, h1, _⟩ := h
  exact h1.out
theorem OP.more {W w w' : World} {d pb ps B : Nat} {m : Nat} {c : Int} (h : OP W w d pb ps B m c) (o : Out w w') : OP W w' d pb ps B m c := by
  obtain ⟨T, G, cb, c1, ma, cs, tt, r, L, h1, h2, h3, h4⟩ := h
  exact ⟨T, G, cb, c1, ma, cs, tt, r, L, h1.more o, h2, h3, h4⟩
theorem OP.ask {W w : World} {d pb ps B : Nat} {m : Nat} {c : Int} (h : OP W w d pb ps B m c) (O : Obj) (x : Ac) (hA : AskB (w.alloc O) w.heap.size x) : OQ W (w.alloc O) d pb ps B w.heap.size x m c := by
  obtain ⟨T, G, cb, c1, ma, cs, tt, r, L, h1, h2, h3, h4⟩ := h
  exact ⟨T, G, cb, c1, ma, cs, tt, r, L, h1.more ((Out.refl w).alloc O), h2, h3, h4, hA, fun hg => by have := h1.gl _ hg; omega, fun hq => by have := h1.sh.qlt hq; omega⟩
theorem OP.holdsB {W w : World} {d pb ps B : Nat} {m : Nat} {c : Int} (h : OP W w d pb ps B m c) (hc : c ≤ 10000000000) : Calls Try.prog 15 #[.pointer (some ⟨pb, 0, none⟩)] w fun e w' => e = .returned (.bool true) ∧ Out w w' := by
  obtain ⟨T, G, cb, c1, ma, cs, tt, r, L, h1, h2, h3, h4⟩ := h
  exact h1.holdsB (by omega)
theorem OP.holdsS {W w : World} {d pb ps B : Nat} {m : Nat} {c : Int} (h : OP W w d pb ps B m c) (hc : c ≤ 10000000000) : Calls Try.prog 16 #[.pointer (some ⟨ps, 0, none⟩)] w fun e w' => e = .returned (.bool true) ∧ Out w w' := by
  obtain ⟨T, G, cb, c1, ma, cs, tt, r, L, h1, h2, h3, h4⟩ := h
  exact h1.holdsS (by omega)
theorem Mid5.more {W w w' : World} {d pb ps B kb : Nat} {x : Ac} {m : Nat} {c : Int} {a1 a2 : Option Addr} {n1 q1 n2 q2 : Nat} (h : Mid5 W w d pb ps B kb x m c a1 n1 q1 a2 n2 q2) (o : Out w w') : Mid5 W w' d pb ps B kb x m c a1 n1 q1 a2 n2 q2 := by
  obtain ⟨T, G, cb, c1, ma, cs, tt, r, L, O, N, h1, h2, hO, hN, hNl, hS, hq, hz, hcb, hcs, hA, hG, hQ⟩ := h
  exact ⟨T, G, cb, c1, ma, cs, tt, r, L, O, N, h1.more o, h2.more o, hO, hN, hNl, hS.out o, hq, hz, hcb, hcs, hA.chg (S := fun _ => False) (Chg.of_out o) (fun h => h), hG, hQ⟩
set_option maxRecDepth 20000 in
set_option maxHeartbeats 4000000 in
theorem strsOwns_walk (W : World) (a1 a3 : Option Addr) (c1 c3 : Nat) (l1 : List UInt8) (sc : List Ac) (hr1 : RestAt W.heap.size W a1 l1) (hc1 : l1.length ≤ c1) (hl1 : l1.length ≤ 1048576)
    (hs : ActsAt W.heap.size W a3 sc) (hc3 : sc.length ≤ c3) (hl3 : sc.length ≤ 1048576) (hok : ActsOk sc 1048576) :
    Calls Try.prog 5 #[.slice a1 l1.length c1, .slice a3 sc.length c3] W fun e W' => e = .returned (.bool true) ∧ Out W W' := by
  have CO1 := hidOf (open_any a1 c1 l1 W hr1 hc1 (by omega))
  have HS := hidOf hs
  have Hok := hidOf hok
  have hc3I : (sc.length : Int) ≤ c3 := by omega
  clear hr1 hs hok
  go_enter Try.func5, Try.ntmps5
  go_upto_region 2 with (go_at_call 7; refine CO1.out.mono ?_; rintro e w1 ⟨d, S1, rfl, hd, hz, ho⟩; have E1 := hidOf hd; have Z1 := hidOf hz; have P1 := hidOf ho; clear hd hz ho)
  go_wp2
  obtain ⟨G, hO⟩ := OS.start E1.out P1.out
  have HO : Hid (OP W ((w1.alloc bookO).alloc shelfO) d w1.heap.size (w1.heap.size + 1) w1.heap.size (l1.length + 1) 0) := ⟨_, _, _, _, _, _, _, _, _, hO, Z1.out, Int.le_refl _, Int.le_refl _⟩
  clear hO E1 Z1 P1 CO1
  show Code.wp _ _ _ _ ((w1.alloc bookO).alloc shelfO)
  generalize (w1.alloc bookO).alloc shelfO = w2 at *
  generalize w1.heap.size = pb at *
  go_loopw [9] (fun iv wr => ∃ i : Nat, iv = .int .i64 i ∧ i ≤ sc.length ∧ Hid (OP W wr d pb (pb + 1) pb (l1.length + 1 + 325 * i) (5 * i))) (fun iv _ => sc.length - (intOf iv).toNat)
  case atStart => exact ⟨0, rfl, by omega, HO⟩
  case round =>
    clear HO
    obtain ⟨i, rfl, hi, HO⟩ := hrel
    by_cases hiN : i < sc.length
    · have hlt : (i : Int) < sc.length := by omega
      have h0 : (0 : Int) ≤ i := by omega
      obtain ⟨x, hx⟩ : ∃ x, sc[i]? = some x := ⟨_, List.getElem?_eq_getElem hiN⟩
      have hxl : x.s.length ≤ 1048576 := Hok.out x (List.mem_of_getElem? hx)
      obtain ⟨b, off, rfl, q0, q1, q2, q3⟩ := HS.out.get (Nat.le_refl _) HO.out.out hx
      clear hx
      go_upto_region 11 with fail
      have HQ5 := hidOf (HO.out.ask (.cells #[.int .i64 x.w, .int .i64 x.k, .string ⟨x.s.toArray⟩, .int .i64 x.p, .int .i64 0, .int .i64 3, .string ⟨#[]⟩, .int .i64 0, .int .i64 0, .int .i64 3, .string ⟨#[]⟩, .int .i64 0, .int .i64 0, .int .i64 4, .string ⟨#[]⟩, .int .i64 0, .int .i64 0, .int .i64 4, .string ⟨#[]⟩, .int .i64 0] 29) x (heap_alloc_new wr _))
      clear HO q0 q1 q2 q3
      generalize wr.alloc (.cells #[.int .i64 x.w, .int .i64 x.k, .string ⟨x.s.toArray⟩, .int .i64 x.p, .int .i64 0, .int .i64 3, .string ⟨#[]⟩, .int .i64 0, .int .i64 0, .int .i64 3, .string ⟨#[]⟩, .int .i64 0, .int .i64 0, .int .i64 4, .string ⟨#[]⟩, .int .i64 0, .int .i64 0, .int .i64 4, .string ⟨#[]⟩, .int .i64 0] 29) = w5 at *
      generalize wr.heap.size = kb at *
      go_loopw [11] (fun kv wr => ∃ k : Nat, kv = .int .i64 k ∧ k ≤ 5 ∧ Hid (OQ W wr d pb (pb + 1) pb kb x (l1.length + 1 + 325 * i + 65 * k) (5 * i + k))) (fun kv _ => 5 - (intOf kv).toNat)
      case atStart => exact ⟨0, rfl, by omega, by simpa using HQ5⟩
      case round =>
        clear HQ5
        obtain ⟨k, rfl, hk, HQ⟩ := hrel
        by_cases hk5 : k < 5
        · have hkI : (k : Int) < 5 := by omega
          have hk0 : (0 : Int) ≤ k := by omega
          obtain ⟨y, hyl, hy⟩ := AskB.get (kb := kb) hxl k hk5
          have CA := hidOf (HQ.out.act y (by omega) hyl)
          have hAsk : AskB wr kb x := by obtain ⟨_, _, _, _, _, _, _, _, _, _, _, _, _, h, _⟩ := HQ.out; exact h
          obtain ⟨q0, q1, q2, q3⟩ := hy wr hAsk
          clear hy hAsk
          simp only [Ac.cs] at CA
          obtain ⟨yw, yk, ys, yp⟩ := y
          simp only at q0 q1 q2 q3 CA
          go_upto_region 16 with (go_at_call 9; refine CA.out.mono ?_; rintro e w6 ⟨b1, n1, d1, b2, n2, d2, rfl, hM⟩; have HM := hidOf hM; clear hM)
          obtain ⟨s1, s2, g1, g2, j1, j2, j3, j4, hOQ, hcalls⟩ := (HM.out.more (Out.refl w6).drew).sums
          have hw : IntKind.i64.wrap (s1 + s2) = s1 + s2 := by rw [IntKind.wrap_i64]; omega
          have HOQ := hidOf hOQ
          have HC := hidOf hcalls
          clear hOQ hcalls q0 q1 q2 q3 CA
          by_cases hsum : s1 + s2 < 3000
          · have CB := hidOf (HC.out hsum (by omega) (5 * i + k) (by omega) (by omega))
            go_region_law (fail)
            all_goals
             go_wp2_with (first | (go_at_call 13; refine CB.out.mono ?_; rintro e w7 ⟨⟨r7, rfl⟩, hs7⟩; have H7 := hidOf hs7; clear hs7) | (go_at_call 14; refine H7.out.mono ?_; rintro e w8 ⟨⟨r8, rfl⟩, hq8⟩; have HQ8 := hidOf hq8; clear hq8))
             go_roundw
             case rel =>
               refine ⟨k + 1, by simp, by omega, ?_⟩
               have := HQ8.out
               rw [show l1.length + 1 + 325 * i + 65 * k + 65 = l1.length + 1 + 325 * i + 65 * (k + 1) by omega, show (5 * (i : Int) + k + 1) = 5 * i + ((k + 1 : Nat) : Int) by omega] at this
               exact hidOf this
             case measure => simp [intOf]; omega
          · go_region_law (fail)
            all_goals
             go_wp2
             go_roundw
             case rel =>
               refine ⟨k + 1, by simp, by omega, ?_⟩
               obtain ⟨T, G, cb, c1', ma, cs, tt, r, L, h1, h2, h3, h4, h5, h6, h7⟩ := HOQ.out
               exact hidOf ⟨T, G, cb, c1', ma, cs, tt, r, L, h1, by omega, by omega, by omega, h5, h6, h7⟩
             case measure => simp [intOf]; omega
        · have hkI : ¬ (k : Int) < 5 := by omega
          obtain rfl : k = 5 := by omega
          have hOP : OP W wr d pb (pb + 1) pb (l1.length + 1 + 325 * (i + 1)) (5 * ((i + 1 : Nat) : Int)) := by
            have := HQ.out.op
            rw [show l1.length + 1 + 325 * i + 65 * 5 = l1.length + 1 + 325 * (i + 1) by omega, show (5 * (i : Int) + ((5 : Nat) : Int)) = 5 * ((i + 1 : Nat) : Int) by omega] at this
            exact this
          have HO := hidOf hOP
          have CB := hidOf (hOP.holdsB (by omega))
          clear hOP HQ
          have ht : (i : Int).tmod 4 = (i : Int) % 4 := Int.tmod_eq_emod_of_nonneg (by omega)
          cases h4 : ((i : Int) % 4 == 3)
          · have h5 : ((i : Int).tmod 4 == 3) = false := by rw [ht]; exact h4
            clear ht
            go_wp2
            go_roundw
            case rel => exact ⟨i + 1, by simp, by omega, HO⟩
            case measure => simp [intOf]; omega
          · have h5 : ((i : Int).tmod 4 == 3) = true := by rw [ht]; exact h4
            clear ht
            go_wp2_with (first | (go_at_call 15; refine CB.out.mono ?_; rintro e w3 ⟨rfl, ho⟩; have HO3 := hidOf (HO.out.more ho); have CS := hidOf (HO3.out.holdsS (by omega)); clear ho) | (go_at_call 16; refine CS.out.mono ?_; rintro e w4 ⟨rfl, ho⟩; have HO4 := hidOf (HO3.out.more ho); clear ho))
            go_roundw
            case rel => exact ⟨i + 1, by simp, by omega, HO4⟩
            case measure => simp [intOf]; omega
    · have hlt : ¬ (i : Int) < sc.length := by omega
      have CB := hidOf (HO.out.holdsB (by omega))
      go_wp2_with (first | (go_at_call 15; refine CB.out.mono ?_; rintro e w3 ⟨rfl, ho⟩; have HO3 := hidOf (HO.out.more ho); have CS := hidOf (HO3.out.holdsS (by omega)); clear ho) | (go_at_call 16; refine CS.out.mono ?_; rintro e w4 ⟨rfl, ho⟩; have HO4 := hidOf (HO3.out.more ho); clear ho) | (go_at_call 10; refine (awake_any _).mono ?_; rintro e w5 ⟨rfl, ho⟩; have HO5 := hidOf (HO4.out.more ho); clear ho))
      go_ret
      exact ⟨rfl, HO5.out.out⟩
end Go.Proofs.Ytgakmbeooobhjaa
