import Derived.Test.YthififblejbleaaGreatDoorHy19
namespace Go.Proofs.YthififblejbleaaGreatDoor
open Go.RowKit
set_option linter.unusedVariables false
set_option linter.unusedSimpArgs false
theorem setCell_selfI {w : World} {b j : Nat} {cs : Array Value} {t : TypeId} {fr : Nat × Nat} {u : Value} (h : w.heap[b]? = some (.cells cs t fr)) (hj : cs[j]? = some u) : w.setCell ⟨b, j, none⟩ u = w := by
  have hh : (w.setCell ⟨b, j, none⟩ u).heap = w.heap := by
    apply Array.ext_getElem?
    intro k
    by_cases hk : k = b
    · subst hk
      have hset : cs.setIfInBounds j u = cs := by
        apply Array.ext_getElem?
        intro x
        rw [Array.getElem?_setIfInBounds]
        by_cases hx : j = x
        · subst hx; simp [hj]; exact (Array.getElem?_eq_some_iff.1 hj).1
        · rw [if_neg hx]
      simp [World.setCell, Array.getElem?_modify, h, hset]
    · exact Below.heap_setCell w ⟨b, j, none⟩ u k hk
  cases w
  simp only [World.setCell] at hh ⊢
  simp only [hh]
section
variable {w wr wx : World} {B p : Nat} {ct tt : Int} {F : List Iv} {n1 n2 n3 k1 k2 k3 : Nat → Nat} {r : Nat → Value} {L : Nat → List Iv} {lo : Nat}
theorem WrI.away {S : Nat → Prop} (h : WrI w B p ct tt F n1 n2 n3 wr r L lo) (c : Chg S wr wx) (hS : ∀ b, S b → b < wr.heap.size → ¬ LsB wr b ∧ ¬ b = p ∧ ∀ j, j < 4 → ¬ (r j).ownBlock = some b) (hq : ∀ b, S b → b < wr.heap.size → w.heap.size ≤ b) : WrI w B p ct tt F n1 n2 n3 wx r L lo := by
  have keepH : ∀ {u : Iv} {M : Img}, HoI wr u M → HoI wx u M := fun hu => hu.chg c (fun b hb e => (hS b e (hu.lt b hb)).1 (hu.ls b hb))
  have keepM : ∀ {K : Kd} {v : Value} {m : Int} {n0 n : Nat}, ML K wr v m n0 n → (K = kI ∨ K = kF ∨ K = kD) → ML K wx v m n0 n := fun hv hK => hv.chg c (fun b hb e => (hS b e (hv.blk b hb).1).1 (by
    obtain ⟨_, cs, q⟩ := hv.blk b hb
    rcases hK with rfl | rfl | rfl
    · exact .inl ⟨cs, q⟩
    · exact .inr (.inl ⟨cs, q⟩)
    · exact .inr (.inr ⟨cs, q⟩)))
  refine ⟨⟨(c.block p h.sh.lt (fun e => (hS p e h.sh.lt).2.1 rfl)).trans h.sh.st, h.sh.bp, fun j hj => owns_chg (h.sh.row j hj) (fun b hb e => (hS b e ((h.sh.row j hj).lt b hb).2).2.2 j hj hb) c, h.sh.sep⟩, h.l0, h.kl, fun l x y hx hy => ?_, ?_, ?_, ?_, h.wn, h.chg.trans c (fun b hb hlt => by have := hq b hb (Nat.lt_of_lt_of_le hlt h.chg.size); omega)⟩
  · obtain ⟨M, m1, m2, m3⟩ := h.pr l x y hx hy
    exact ⟨M, keepH m1, keepH m2, m3⟩
  · intro l x hx j z hz b a1 a2
    obtain ⟨e1, n, e2⟩ := h.c1 l x hx j z hz b a1 a2
    exact ⟨e1, n, keepM e2 (.inl rfl)⟩
  · intro l x hx j z hz b a1 a2
    obtain ⟨e1, n, e2⟩ := h.c2 l x hx j z hz b a1 a2
    exact ⟨e1, n, keepM e2 (.inr (.inl rfl))⟩
  · intro l x hx j z hz b a1 a2
    obtain ⟨e1, n, e2⟩ := h.c3 l x hx j z hz b a1 a2
    exact ⟨e1, n, keepM e2 (.inr (.inr rfl))⟩
theorem WrI.out (h : WrI w B p ct tt F n1 n2 n3 wr r L lo) (o : Out wr wx) : WrI w B p ct tt F n1 n2 n3 wx r L lo := h.away (S := fun _ => False) (Chg.of_out o) (fun _ h => h.elim) (fun _ h => h.elim)
theorem FM.out (h : FM wr ct F n1 n2 n3 k1 k2 k3) (o : Out wr wx) : FM wx ct F n1 n2 n3 k1 k2 k3 := h.chg (S := fun _ => False) (Chg.of_out o) (fun _ h => h.elim)
end
structure PW (w : World) (B p : Nat) (ct tt : Int) (F : List Iv) (n1 n2 n3 : Nat → Nat) (rf : Value) (wr : World) (r : Nat → Value) (L : Nat → List Iv) (lo c : Nat) (k1 k2 k3 : Nat → Nat) : Prop where
  wi : WrI w B p ct tt F n1 n2 n3 wr r L lo
  fm : FM wr ct F n1 n2 n3 k1 k2 k3
  ln : (L 2).length = c
  r0 : r 0 = rf
  fd : FdI B F
  sz : ∀ j, n1 j ≤ 100000000 ∧ n2 j ≤ 100000000 ∧ n3 j ≤ 100000000
section
variable {w wr wx : World} {B p : Nat} {ct tt : Int} {F : List Iv} {n1 n2 n3 k1 k2 k3 : Nat → Nat} {r : Nat → Value} {L : Nat → List Iv} {lo c : Nat} {rf : Value}
theorem PW.out (h : PW w B p ct tt F n1 n2 n3 rf wr r L lo c k1 k2 k3) (o : Out wr wx) : PW w B p ct tt F n1 n2 n3 rf wx r L lo c k1 k2 k3 := ⟨h.wi.out o, h.fm.out o, h.ln, h.r0, h.fd, h.sz⟩
theorem PW.cells {g f cf : Nat} (h : PW w B p ct tt F n1 n2 n3 (.slice (some ⟨g, 0, none⟩) f cf) wr r L lo c k1 k2 k3) (hf : F.length = f) {i : Nat} {z : Iv} (hz : F[i]? = some z) : wr.cell? ⟨p, 3, none⟩ = some (.slice (some ⟨g, 0, none⟩) f cf) ∧ wr.cell? ⟨p, 0, none⟩ = some (.int .i64 ct) ∧ wr.cell? ⟨p, 1, none⟩ = some (.int .i64 tt) ∧ wr.cell? ⟨g, i * 4, none⟩ = some z.t ∧ wr.cell? ⟨g, i * 4 + 1, none⟩ = some z.f ∧ wr.cell? ⟨g, i * 4 + 2, none⟩ = some z.d ∧ wr.cell? ⟨g, i * 4 + 3, none⟩ = some (.int .i64 z.e) := by
  have q := h.wi.sh.row 0 (by omega)
  rw [h.wi.l0, h.r0, hf] at q
  obtain ⟨g', e, u0, u1, u2, u3⟩ := own_getI q hz
  simp only [Option.some.injEq, Addr.mk.injEq] at e
  rw [← e.1] at u0 u1 u2 u3
  exact ⟨by rw [cell_atL h.wi.sh.st, ← h.r0]; rfl, by rw [cell_atL h.wi.sh.st]; rfl, by rw [cell_atL h.wi.sh.st]; rfl, u0, u1, u2, u3⟩
theorem PW.c3 (h : PW w B p ct tt F n1 n2 n3 rf wr r L lo c k1 k2 k3) : wr.cell? ⟨p, 3, none⟩ = some rf := by rw [cell_atL h.wi.sh.st, ← h.r0]; rfl
theorem PW.form (h : PW w B p ct tt F n1 n2 n3 rf wr r L lo c k1 k2 k3) {i : Nat} {z : Iv} (hz : F[i]? = some z) : ∃ a1 c1 a2 c2 a3 c3, z = ⟨.slice a1 (n1 i) c1, .slice a2 (n2 i) c2, .slice a3 (n3 i) c3, z.e⟩ := by
  obtain ⟨h1, h2, h3⟩ := h.fm i z hz
  obtain ⟨z1, z2, z3, z4⟩ := z
  obtain ⟨a1, c1, e1⟩ := h1.form
  obtain ⟨a2, c2, e2⟩ := h2.form
  obtain ⟨a3, c3, e3⟩ := h3.form
  simp only at e1 e2 e3
  exact ⟨a1, c1, a2, c2, a3, c3, by rw [e1, e2, e3]⟩
theorem PW.ap3 (h : PW w B p ct tt F n1 n2 n3 rf wr r L lo c k1 k2 k3) {i : Nat} {z : Iv} (hz : F[i]? = some z) : Ap3 z.t.ownBlock z.f.ownBlock z.d.ownBlock := by
  obtain ⟨h1, h2, h3⟩ := h.fm i z hz
  have ne : ∀ {e e' : TypeId} {b : Nat} {cs cs' : Array Value}, wr.heap[b]? = some (.cells cs e (0, 0)) → wr.heap[b]? = some (.cells cs' e' (0, 0)) → e = e' := fun h1 h2 => by rw [h1] at h2; simp at h2; exact h2.2
  refine ⟨fun b x y => ?_, fun b x y => ?_, fun b x y => ?_⟩
  · obtain ⟨_, _, u⟩ := h1.blk b x; obtain ⟨_, _, v⟩ := h2.blk b y; exact absurd (ne u v) (by decide)
  · obtain ⟨_, _, u⟩ := h1.blk b x; obtain ⟨_, _, v⟩ := h3.blk b y; exact absurd (ne u v) (by decide)
  · obtain ⟨_, _, u⟩ := h2.blk b x; obtain ⟨_, _, v⟩ := h3.blk b y; exact absurd (ne u v) (by decide)
structure Kx (ct : Int) (F : List Iv) (n1 n2 n3 : Nat → Nat) (wx : World) (x : Iv) (lo : Nat) (M : Img) : Prop where
  ho : HoI wx x M
  sz : SzI M
  g1 : ∀ (j : Nat) z, F[j]? = some z → ∀ b, x.t.ownBlock = some b → z.t.ownBlock = some b → j < lo ∧ ∃ n, ML kI wx x.t (mj ct j) (n1 j) n
  g2 : ∀ (j : Nat) z, F[j]? = some z → ∀ b, x.f.ownBlock = some b → z.f.ownBlock = some b → j < lo ∧ ∃ n, ML kF wx x.f (mj ct j) (n2 j) n
  g3 : ∀ (j : Nat) z, F[j]? = some z → ∀ b, x.d.ownBlock = some b → z.d.ownBlock = some b → j < lo ∧ ∃ n, ML kD wx x.d (mj ct j) (n3 j) n
theorem Kx.chg {S : Nat → Prop} {wy : World} {x : Iv} {M : Img} (h : Kx ct F n1 n2 n3 wx x lo M) (c : Chg S wx wy) (hs : ∀ b, x.blk b → ¬ S b) : Kx ct F n1 n2 n3 wy x lo M :=
  ⟨h.ho.chg c hs, h.sz, fun j z hz b a1 a2 => by obtain ⟨e1, n, e2⟩ := h.g1 j z hz b a1 a2; exact ⟨e1, n, e2.chg c (fun b hb => hs b (.inl hb))⟩, fun j z hz b a1 a2 => by obtain ⟨e1, n, e2⟩ := h.g2 j z hz b a1 a2; exact ⟨e1, n, e2.chg c (fun b hb => hs b (.inr (.inl hb)))⟩, fun j z hz b a1 a2 => by obtain ⟨e1, n, e2⟩ := h.g3 j z hz b a1 a2; exact ⟨e1, n, e2.chg c (fun b hb => hs b (.inr (.inr hb)))⟩⟩
theorem Kx.out {wy : World} {x : Iv} {M : Img} (h : Kx ct F n1 n2 n3 wx x lo M) (o : Out wx wy) : Kx ct F n1 n2 n3 wy x lo M := h.chg (S := fun _ => False) (Chg.of_out o) (fun _ _ h => h)
theorem PW.keep (h : PW w B p ct tt F n1 n2 n3 rf wr r L lo c k1 k2 k3) {lo' : Nat} (hlo : lo ≤ lo') {x : Iv} {M : Img} (hx : Kx ct F n1 n2 n3 wr x lo' M) (hc : c ≤ 1000) : Calls Tryz.prog 73 #[.pointer (some ⟨p, 0, none⟩), .agg #[x.t, x.f, x.d, .int .i64 x.e]] wr fun e w' => (∃ q, e = .returned q) ∧ (∃ r' L', PW w B p ct tt F n1 n2 n3 rf w' r' L' lo' (c + 1) k1 k2 k3) ∧ ∀ U v1 v2 v3 en, BxI wr U v1 v2 v3 en → (∀ j, j < 4 → ¬ (r j).ownBlock = some U) → BxI w' U v1 v2 v3 en := by
  refine (keepI_any wr B p ct tt r L h.wi.sh (by rw [h.ln]; exact hc) h.wi.kl x M hx.ho hx.sz).mono ?_
  rintro e w' ⟨he, hk⟩
  obtain ⟨r', L', h1, h2, h3, h4, _⟩ := h.wi.keep h.fm hlo hx.sz hx.g1 hx.g2 hx.g3 hx.ho hk
  refine ⟨he, ⟨r', L', h1, h3, by rw [h2, h.ln], by rw [h4, h.r0], h.fd, h.sz⟩, fun U v1 v2 v3 en hU hn => ?_⟩
  obtain ⟨v2, v3, y, s1, s2, s3, s4, s5, s6, s7⟩ := hk
  refine (s5.block U hU.lt (fun e => ?_)).trans hU
  rcases e with e | e | e
  · have hU' : wr.heap[U]? = _ := hU
    rw [e, h.wi.sh.st] at hU'; simp at hU'
  · exact hn 2 (by omega) e
  · exact hn 3 (by omega) e
theorem PW.self (h : PW w B p ct tt F n1 n2 n3 rf wr r L lo c k1 k2 k3) {i : Nat} {z : Iv} (hz : F[i]? = some z) (e1 : k1 i = n1 i) (e2 : k2 i = n2 i) (e3 : k3 i = n3 i) : Kx ct F n1 n2 n3 wr z (i + 1) ⟨insM (mj ct i) (n1 i) (n1 i), fnM (mj ct i) (n2 i) (n2 i), tdM (mj ct i) (n3 i) (n3 i), z.e⟩ := by
  obtain ⟨h1, h2, h3⟩ := h.fm i z hz
  rw [e1] at h1
  rw [e2] at h2
  rw [e3] at h3
  obtain ⟨b1, b2, b3⟩ := h.sz i
  refine ⟨ML.hoI h1 h2 h3, szM (by omega) (by omega) (by omega), fun j y hy b a1 a2 => ?_, fun j y hy b a1 a2 => ?_, fun j y hy b a1 a2 => ?_⟩
  · obtain rfl := h.fd.fd i j z y hz hy b (.inl a1) (.inl a2)
    exact ⟨by omega, _, h1⟩
  · obtain rfl := h.fd.fd i j z y hz hy b (.inr (.inl a1)) (.inr (.inl a2))
    exact ⟨by omega, _, h2⟩
  · obtain rfl := h.fd.fd i j z y hz hy b (.inr (.inr a1)) (.inr (.inr a2))
    exact ⟨by omega, _, h3⟩
def GwE (w : World) (B p : Nat) (ct tt : Int) (F : List Iv) (n1 n2 n3 : Nat → Nat) (rf : Value) (wr : World) (r : Nat → Value) (L : Nat → List Iv) (c i k : Nat) (en : Int) (e : Ending) (w' : World) : Prop :=
  ∃ a1 c1 a2 c2 a3 c3, e = .returned (.agg #[.slice a1 (n1 i + k) c1, .slice a2 (n2 i + k) c2, .slice a3 (n3 i + k) c3, .int .i64 en]) ∧ PW w B p ct tt F n1 n2 n3 rf w' r L F.length c n1 n2 n3 ∧ (∃ M, Kx ct F n1 n2 n3 w' ⟨.slice a1 (n1 i + k) c1, .slice a2 (n2 i + k) c2, .slice a3 (n3 i + k) c3, en⟩ F.length M) ∧ wr.heap.size ≤ w'.heap.size ∧ ∀ U v1 v2 v3 en, BxI wr U v1 v2 v3 en → BxI w' U v1 v2 v3 en
theorem PW.grown (h : PW w B p ct tt F n1 n2 n3 rf wr r L F.length c n1 n2 n3) {i k : Nat} {z : Iv} (hz : F[i]? = some z) {a1 a2 a3 : Option Addr} {c1 c2 c3 : Nat} {en m : Int} (ez : z = ⟨.slice a1 (n1 i) c1, .slice a2 (n2 i) c2, .slice a3 (n3 i) c3, en⟩) (hm : mj ct i = m) (hct0 : 0 ≤ ct) (hct1 : ct ≤ 1000) (hk : k ≤ 800000000) (hi : i ≤ 3) :
    Calls Tryz.prog 74 #[.agg #[.slice a1 (n1 i) c1, .slice a2 (n2 i) c2, .slice a3 (n3 i) c3, .int .i64 en], .int .i64 m, .int .i64 k] wr (GwE w B p ct tt F n1 n2 n3 rf wr r L c i k en) := by
  obtain ⟨h1, h2, h3⟩ := h.fm i z hz
  obtain ⟨b1, b2, b3⟩ := h.sz i
  have hA := h.ap3 hz
  have hm0 : 0 ≤ m := by rw [← hm]; unfold mj; omega
  have hm1 : m ≤ 100000000000 := by rw [← hm]; unfold mj; omega
  rw [hm] at h1 h2 h3
  have G := grown17_any wr en m z.t.ownBlock z.f.ownBlock z.d.ownBlock a1 a2 a3 c1 c2 c3 (n1 i) (n2 i) (n3 i) (n1 i) (n2 i) (n3 i) k (by rw [ez] at h1; exact h1) (by rw [ez] at h2; exact h2) (by rw [ez] at h3; exact h3) (by rw [ez]) (by rw [ez]) (by rw [ez]) (Nat.le_refl _) (Nat.le_refl _) (Nat.le_refl _) (by omega) (by omega) (by omega) hm0 hm1
  refine G.mono ?_
  rintro e w' ⟨a4, c4, a5, c5, a6, c6, rfl, l1, l2, l3, st, q1, q2, q3⟩
  rw [← hm] at st
  have hW := h.wi.grow h.fm h.fd hz hA st
  have fm' : FM w' ct F n1 n2 n3 n1 n2 n3 := fun j y hy => by
    obtain ⟨f1, f2, f3⟩ := h.fm j y hy
    have hy3 := h.ap3 hy
    refine ⟨ML.st f1 st (fun b hb o u hu => ?_), ML.st f2 st (fun b hb o u hu => ?_), ML.st f3 st (fun b hb o u hu => ?_)⟩
    · obtain rfl := h.fd.fd i j z y hz hy b (ph3_no hu) (.inl hb)
      rw [hz] at hy
      obtain rfl := Option.some.inj hy
      rw [ph3_1 o hb] at hu; exact hu
    · obtain rfl := h.fd.fd i j z y hz hy b (ph3_no hu) (.inr (.inl hb))
      rw [hz] at hy
      obtain rfl := Option.some.inj hy
      rw [ph3_2 hA o hb] at hu; exact hu
    · obtain rfl := h.fd.fd i j z y hz hy b (ph3_no hu) (.inr (.inr hb))
      rw [hz] at hy
      obtain rfl := Option.some.inj hy
      rw [ph3_3 hA o hb] at hu; exact hu
  have hif := (List.getElem?_eq_some_iff.1 hz).1
  refine ⟨a4, c4, a5, c5, a6, c6, rfl, ⟨hW, fm', h.ln, h.r0, h.fd, h.sz⟩, ⟨_, ML.hoI (x := ⟨.slice a4 (n1 i + k) c4, .slice a5 (n2 i + k) c5, .slice a6 (n3 i + k) c6, en⟩) l1 l2 l3, szM (by omega) (by omega) (by omega), fun j y hy b a1 a2 => ?_, fun j y hy b a1 a2 => ?_, fun j y hy b a1 a2 => ?_⟩, st.chg.size, fun U v1 v2 v3 en hU => ?_⟩
  · rcases q1 b a1 with e | e
    · obtain rfl := h.fd.fd i j z y hz hy b (.inl e) (.inl a2)
      exact ⟨hif, _, by rw [hm]; exact l1⟩
    · have := h.fm.lt hy b (.inl a2); omega
  · rcases q2 b a1 with e | e
    · obtain rfl := h.fd.fd i j z y hz hy b (.inr (.inl e)) (.inr (.inl a2))
      exact ⟨hif, _, by rw [hm]; exact l2⟩
    · have := h.fm.lt hy b (.inr (.inl a2)); omega
  · rcases q3 b a1 with e | e
    · obtain rfl := h.fd.fd i j z y hz hy b (.inr (.inr e)) (.inr (.inr a2))
      exact ⟨hif, _, by rw [hm]; exact l3⟩
    · have := h.fm.lt hy b (.inr (.inr a2)); omega
  · refine (st.chg.block U hU.lt (fun ⟨o, u, hu⟩ => ?_)).trans hU
    have hU' : wr.heap[U]? = _ := hU
    rcases h.fm.ls hz U (ph3_no hu) with ⟨cs, q⟩ | ⟨cs, q⟩ | ⟨cs, q⟩ <;> (rw [hU'] at q; simp at q; exact absurd q.2 (by decide))
theorem PW.box (h : PW w B p ct tt F n1 n2 n3 rf wr r L lo c k1 k2 k3) {U : Nat} {v1 v2 v3 : Value} {en : Int} (hU : BxI wr U v1 v2 v3 en) (hn : ∀ j, j < 4 → ¬ (r j).ownBlock = some U) (hw : w.heap.size ≤ U) (ch : Chg (fun b => b = U) wr wx) : PW w B p ct tt F n1 n2 n3 rf wx r L lo c k1 k2 k3 := by
  have nl : ¬ LsB wr U := fun hl => by
    have hU' : wr.heap[U]? = _ := hU
    rcases hl with ⟨cs, q⟩ | ⟨cs, q⟩ | ⟨cs, q⟩ <;> (rw [hU'] at q; simp at q; exact absurd q.2 (by decide))
  refine ⟨h.wi.away ch (fun b hb _ => ?_) (fun b hb _ => by rw [hb]; exact hw), h.fm.chg ch (fun b hb => by rw [hb]; exact nl), h.ln, h.r0, h.fd, h.sz⟩
  subst hb
  refine ⟨nl, fun e => ?_, hn⟩
  have hU' : wr.heap[b]? = _ := hU
  rw [e, h.wi.sh.st] at hU'; simp at hU'
theorem PW.rows (h : PW w B p ct tt F n1 n2 n3 rf wr r L lo c k1 k2 k3) {U : Nat} (hU : wr.heap.size ≤ U) : ∀ j, j < 4 → ¬ (r j).ownBlock = some U := fun j hj e => by
  have := ((h.wi.sh.row j hj).lt U e).2; omega
end
theorem get5 (cs : Array Value) (q : Nat) (u0 u1 u2 u3 u4 : Value) (h : q + 5 ≤ cs.size) : (((((cs.setIfInBounds q u0).setIfInBounds (q + 1) u1).setIfInBounds (q + 2) u2).setIfInBounds (q + 3) u3).setIfInBounds (q + 4) u4).size = cs.size ∧ (∀ o, o < q → (((((cs.setIfInBounds q u0).setIfInBounds (q + 1) u1).setIfInBounds (q + 2) u2).setIfInBounds (q + 3) u3).setIfInBounds (q + 4) u4)[o]? = cs[o]?) ∧ ∀ j, j < 5 → (((((cs.setIfInBounds q u0).setIfInBounds (q + 1) u1).setIfInBounds (q + 2) u2).setIfInBounds (q + 3) u3).setIfInBounds (q + 4) u4)[q + j]? = [u0, u1, u2, u3, u4][j]? := by
  refine ⟨by simp, fun o ho => ?_, fun j hj => ?_⟩
  · simp only [Array.getElem?_setIfInBounds, Array.size_setIfInBounds]
    rw [if_neg (by omega), if_neg (by omega), if_neg (by omega), if_neg (by omega), if_neg (by omega)]
  · simp only [Array.getElem?_setIfInBounds, Array.size_setIfInBounds]
    obtain rfl | rfl | rfl | rfl | rfl : j = 0 ∨ j = 1 ∨ j = 2 ∨ j = 3 ∨ j = 4 := by omega
    · rw [if_neg (by omega), if_neg (by omega), if_neg (by omega), if_neg (by omega), if_pos (by omega), if_pos (by omega)]; rfl
    · rw [if_neg (by omega), if_neg (by omega), if_neg (by omega), if_pos (by omega), if_pos (by omega)]; rfl
    · rw [if_neg (by omega), if_neg (by omega), if_pos (by omega), if_pos (by omega)]; rfl
    · rw [if_neg (by omega), if_pos (by omega), if_pos (by omega)]; rfl
    · rw [if_pos (by omega), if_pos (by omega)]; rfl
theorem get4 (cs : Array Value) (q : Nat) (u0 u1 u2 u3 : Value) (h : q + 4 ≤ cs.size) : ((((cs.setIfInBounds q u0).setIfInBounds (q + 1) u1).setIfInBounds (q + 2) u2).setIfInBounds (q + 3) u3).size = cs.size ∧ (∀ o, o < q → ((((cs.setIfInBounds q u0).setIfInBounds (q + 1) u1).setIfInBounds (q + 2) u2).setIfInBounds (q + 3) u3)[o]? = cs[o]?) ∧ ∀ j, j < 4 → ((((cs.setIfInBounds q u0).setIfInBounds (q + 1) u1).setIfInBounds (q + 2) u2).setIfInBounds (q + 3) u3)[q + j]? = [u0, u1, u2, u3][j]? := by
  refine ⟨by simp, fun o ho => ?_, fun j hj => ?_⟩
  · simp only [Array.getElem?_setIfInBounds, Array.size_setIfInBounds]
    rw [if_neg (by omega), if_neg (by omega), if_neg (by omega), if_neg (by omega)]
  · simp only [Array.getElem?_setIfInBounds, Array.size_setIfInBounds]
    obtain rfl | rfl | rfl | rfl : j = 0 ∨ j = 1 ∨ j = 2 ∨ j = 3 := by omega
    · rw [if_neg (by omega), if_neg (by omega), if_neg (by omega), if_pos (by omega), if_pos (by omega)]; rfl
    · rw [if_neg (by omega), if_neg (by omega), if_pos (by omega), if_pos (by omega)]; rfl
    · rw [if_neg (by omega), if_pos (by omega), if_pos (by omega)]; rfl
    · rw [if_pos (by omega), if_pos (by omega)]; rfl
theorem MP.mark {K : Kd} (hK : K.Ok) {w wx : World} {g c n k : Nat} {m : Int} (h : MP K w (.slice (some ⟨g, 0, none⟩) n c) m n n k) (hk : k < n)
    (hx : ∀ cs, w.heap[g]? = some (.cells cs K.e (0, 0)) → k * K.k + K.k ≤ cs.size → ∃ cs', wx.heap[g]? = some (.cells cs' K.e (0, 0)) ∧ cs'.size = cs.size ∧ (∀ o, o < k * K.k → cs'[o]? = cs[o]?) ∧ ∀ j, j < K.k → cs'[k * K.k + j]? = (K.c false (m + (k : Int)))[j]?) : MP K wx (.slice (some ⟨g, 0, none⟩) n c) m n n (k + 1) := by
  rcases h with ⟨e, _⟩ | ⟨g', c', cs, e, hg, hs, hn, hm⟩
  · cases e
  · simp only [Value.slice.injEq, Option.some.injEq, Addr.mk.injEq] at e
    obtain ⟨⟨rfl, _⟩, _, rfl⟩ := e
    have hf : k * K.k + K.k ≤ cs.size := by rw [hs, ← Nat.succ_mul]; exact Nat.mul_le_mul_right _ (by omega)
    obtain ⟨cs', h1, h2, h3, h4⟩ := hx cs hg hf
    refine .inr ⟨g, c, cs', rfl, h1, h2.trans hs, hn, Mk.succ hK (fun o ho => by rw [h3 o ho]; exact hm o ho) (fun j hj => by rw [h4 j hj, decide_eq_false (by omega)])⟩
theorem MP.at {K : Kd} {w : World} {a : Option Addr} {n c k : Nat} {m : Int} {n0 : Nat} (h : MP K w (.slice a n c) m n0 n k) (i : Nat) (hi : i < n) : ∃ g cs, a = some ⟨g, 0, none⟩ ∧ w.heap[g]? = some (.cells cs K.e (0, 0)) ∧ i * K.k + K.k ≤ cs.size := by
  rcases h with ⟨e, h0⟩ | ⟨g, c', cs, e, hg, hs, hn, hm⟩
  · omega
  · simp only [Value.slice.injEq] at e
    exact ⟨g, cs, e.1, hg, by rw [hs, ← Nat.succ_mul]; exact Nat.mul_le_mul_right _ (by omega)⟩
theorem cell_in {w : World} {g : Nat} {cs : Array Value} {t : TypeId} (h : w.heap[g]? = some (.cells cs t (0, 0))) {i : Nat} (hi : i < cs.size) : ∃ u, w.cell? ⟨g, i, none⟩ = some u := ⟨cs[i], by rw [cell_atL h, Array.getElem?_eq_getElem hi]⟩
def kA (n : Nat → Nat) (i j : Nat) : Nat := if j < i then n j else 0
theorem kA_zero (n : Nat → Nat) (i : Nat) : upd (kA n i) i 0 = kA n i := by
  funext j; unfold upd kA; by_cases h : j = i
  · rw [if_pos h, if_neg (by omega)]
  · rw [if_neg h]
theorem kA_full (n : Nat → Nat) (i : Nat) : upd (kA n i) i (n i) = kA n (i + 1) := by
  funext j; unfold upd kA; by_cases h : j = i
  · rw [if_pos h, if_pos (by omega), h]
  · rw [if_neg h]; by_cases h2 : j < i
    · rw [if_pos h2, if_pos (by omega)]
    · rw [if_neg h2, if_neg (by omega)]
theorem upd_self (k : Nat → Nat) (i v : Nat) : upd k i v i = v := by unfold upd; rw [if_pos rfl]
section
variable {w wr wx : World} {B p : Nat} {ct tt : Int} {F : List Iv} {n1 n2 n3 k1 k2 k3 : Nat → Nat} {r : Nat → Value} {L : Nat → List Iv} {lo c : Nat} {rf : Value}
theorem PW.mark1 (h : PW w B p ct tt F n1 n2 n3 rf wr r L lo c k1 k2 k3) {i k g x cc : Nat} {m : Int} {z : Iv} (hz : F[i]? = some z) (hlo : lo ≤ i) (hm : mj ct i = m) (hx : n1 i = x) (ez : z.t = .slice (some ⟨g, 0, none⟩) x cc) (ek : k1 i = k) (hk : k < x) : PW w B p ct tt F n1 n2 n3 rf ((((((wr).setCell ⟨g, k * 5, none⟩ (.int .i64 98)).setCell ⟨g, k * 5 + 1, none⟩ (.int .i64 0)).setCell ⟨g, k * 5 + 2, none⟩ (.int .i64 0)).setCell ⟨g, k * 5 + 3, none⟩ (.int .i64 0)).setCell ⟨g, k * 5 + 4, none⟩ (.int .i64 (m + (k : Int)))) r L lo c (upd k1 i (k + 1)) k2 k3 := by
  have hc : Chg (fun b => b = g) wr ((((((wr).setCell ⟨g, k * 5, none⟩ (.int .i64 98)).setCell ⟨g, k * 5 + 1, none⟩ (.int .i64 0)).setCell ⟨g, k * 5 + 2, none⟩ (.int .i64 0)).setCell ⟨g, k * 5 + 3, none⟩ (.int .i64 0)).setCell ⟨g, k * 5 + 4, none⟩ (.int .i64 (m + (k : Int)))) := ((((Chg.setCell (S := fun b => b = g) (Chg.refl _ wr) (p := ⟨g, k * 5, none⟩) rfl _).setCell (p := ⟨g, k * 5 + 1, none⟩) rfl _).setCell (p := ⟨g, k * 5 + 2, none⟩) rfl _).setCell (p := ⟨g, k * 5 + 3, none⟩) rfl _).setCell (p := ⟨g, k * 5 + 4, none⟩) rfl _
  have hb : z.blk g := .inl (by rw [ez]; rfl)
  have hcz : Chg (fun b => z.blk b) wr ((((((wr).setCell ⟨g, k * 5, none⟩ (.int .i64 98)).setCell ⟨g, k * 5 + 1, none⟩ (.int .i64 0)).setCell ⟨g, k * 5 + 2, none⟩ (.int .i64 0)).setCell ⟨g, k * 5 + 3, none⟩ (.int .i64 0)).setCell ⟨g, k * 5 + 4, none⟩ (.int .i64 (m + (k : Int)))) := hc.mono (fun b hb' _ => by rw [hb']; exact hb)
  refine ⟨h.wi.turn h.fm h.fd hz hlo hcz, fun j y hy => ?_, h.ln, h.r0, h.fd, h.sz⟩
  obtain ⟨f1, f2, f3⟩ := h.fm j y hy
  by_cases hij : j = i
  · subst hij
    rw [hz] at hy
    obtain rfl := Option.some.inj hy
    have hA := h.ap3 hz
    have hg : z.t.ownBlock = some g := by rw [ez]; rfl
    have q1 : MP kI ((((((wr).setCell ⟨g, k * 5, none⟩ (.int .i64 98)).setCell ⟨g, k * 5 + 1, none⟩ (.int .i64 0)).setCell ⟨g, k * 5 + 2, none⟩ (.int .i64 0)).setCell ⟨g, k * 5 + 3, none⟩ (.int .i64 0)).setCell ⟨g, k * 5 + 4, none⟩ (.int .i64 (m + (k : Int)))) z.t (mj ct j) (n1 j) (n1 j) (k + 1) := by
      rw [ek] at f1
      rw [hx] at f1 ⊢
      rw [hm] at f1 ⊢
      rw [ez] at f1 ⊢
      refine f1.mark kI_ok hk (fun cs hg hs => ?_)
      obtain ⟨e1, e2, e3⟩ := get5 cs (k * 5) (.int .i64 98) (.int .i64 0) (.int .i64 0) (.int .i64 0) (.int .i64 (m + (k : Int))) hs
      exact ⟨_, (set_atL (set_atL (set_atL (set_atL (set_atL hg _ _) _ _) _ _) _ _) _ _), e1, e2, e3⟩
    exact ⟨by rw [upd_self]; exact q1, f2.chg hc (fun b hb e => hA.1 b (by rw [e]; exact hg) hb), f3.chg hc (fun b hb e => hA.2.1 b (by rw [e]; exact hg) hb)⟩
  · have hn : ∀ b, y.blk b → ¬ b = g := fun b hb' e => hij (h.fd.fd j i y z hy hz b hb' (by rw [e]; exact hb))
    have hu : ∀ v, upd k1 i v j = k1 j := fun v => by unfold upd; rw [if_neg hij]
    exact ⟨by rw [hu]; exact f1.chg hc (fun b hb => hn b (.inl hb)), f2.chg hc (fun b hb => hn b (.inr (.inl hb))), f3.chg hc (fun b hb => hn b (.inr (.inr hb)))⟩
theorem PW.mark2 (h : PW w B p ct tt F n1 n2 n3 rf wr r L lo c k1 k2 k3) {i k g x cc : Nat} {m : Int} {z : Iv} (hz : F[i]? = some z) (hlo : lo ≤ i) (hm : mj ct i = m) (hx : n2 i = x) (ez : z.f = .slice (some ⟨g, 0, none⟩) x cc) (ek : k2 i = k) (hk : k < x) : PW w B p ct tt F n1 n2 n3 rf (((((wr).setCell ⟨g, k * 4, none⟩ (.string ⟨#[109, 105, 110, 101]⟩)).setCell ⟨g, k * 4 + 1, none⟩ (.int .i64 0)).setCell ⟨g, k * 4 + 2, none⟩ (.int .i64 (m + (k : Int)))).setCell ⟨g, k * 4 + 3, none⟩ (.int .i64 0)) r L lo c k1 (upd k2 i (k + 1)) k3 := by
  have hc : Chg (fun b => b = g) wr (((((wr).setCell ⟨g, k * 4, none⟩ (.string ⟨#[109, 105, 110, 101]⟩)).setCell ⟨g, k * 4 + 1, none⟩ (.int .i64 0)).setCell ⟨g, k * 4 + 2, none⟩ (.int .i64 (m + (k : Int)))).setCell ⟨g, k * 4 + 3, none⟩ (.int .i64 0)) := (((Chg.setCell (S := fun b => b = g) (Chg.refl _ wr) (p := ⟨g, k * 4, none⟩) rfl _).setCell (p := ⟨g, k * 4 + 1, none⟩) rfl _).setCell (p := ⟨g, k * 4 + 2, none⟩) rfl _).setCell (p := ⟨g, k * 4 + 3, none⟩) rfl _
  have hb : z.blk g := .inr <| .inl (by rw [ez]; rfl)
  have hcz : Chg (fun b => z.blk b) wr (((((wr).setCell ⟨g, k * 4, none⟩ (.string ⟨#[109, 105, 110, 101]⟩)).setCell ⟨g, k * 4 + 1, none⟩ (.int .i64 0)).setCell ⟨g, k * 4 + 2, none⟩ (.int .i64 (m + (k : Int)))).setCell ⟨g, k * 4 + 3, none⟩ (.int .i64 0)) := hc.mono (fun b hb' _ => by rw [hb']; exact hb)
  refine ⟨h.wi.turn h.fm h.fd hz hlo hcz, fun j y hy => ?_, h.ln, h.r0, h.fd, h.sz⟩
  obtain ⟨f1, f2, f3⟩ := h.fm j y hy
  by_cases hij : j = i
  · subst hij
    rw [hz] at hy
    obtain rfl := Option.some.inj hy
    have hA := h.ap3 hz
    have hg : z.f.ownBlock = some g := by rw [ez]; rfl
    have q2 : MP kF (((((wr).setCell ⟨g, k * 4, none⟩ (.string ⟨#[109, 105, 110, 101]⟩)).setCell ⟨g, k * 4 + 1, none⟩ (.int .i64 0)).setCell ⟨g, k * 4 + 2, none⟩ (.int .i64 (m + (k : Int)))).setCell ⟨g, k * 4 + 3, none⟩ (.int .i64 0)) z.f (mj ct j) (n2 j) (n2 j) (k + 1) := by
      rw [ek] at f2
      rw [hx] at f2 ⊢
      rw [hm] at f2 ⊢
      rw [ez] at f2 ⊢
      refine f2.mark kF_ok hk (fun cs hg hs => ?_)
      obtain ⟨e1, e2, e3⟩ := get4 cs (k * 4) (.string ⟨#[109, 105, 110, 101]⟩) (.int .i64 0) (.int .i64 (m + (k : Int))) (.int .i64 0) hs
      exact ⟨_, (set_atL (set_atL (set_atL (set_atL hg _ _) _ _) _ _) _ _), e1, e2, e3⟩
    exact ⟨f1.chg hc (fun b hb e => hA.1 b hb (by rw [e]; exact hg)), by rw [upd_self]; exact q2, f3.chg hc (fun b hb e => hA.2.2 b (by rw [e]; exact hg) hb)⟩
  · have hn : ∀ b, y.blk b → ¬ b = g := fun b hb' e => hij (h.fd.fd j i y z hy hz b hb' (by rw [e]; exact hb))
    have hu : ∀ v, upd k2 i v j = k2 j := fun v => by unfold upd; rw [if_neg hij]
    exact ⟨f1.chg hc (fun b hb => hn b (.inl hb)), by rw [hu]; exact f2.chg hc (fun b hb => hn b (.inr (.inl hb))), f3.chg hc (fun b hb => hn b (.inr (.inr hb)))⟩
theorem PW.mark3 (h : PW w B p ct tt F n1 n2 n3 rf wr r L lo c k1 k2 k3) {i k g x cc : Nat} {m : Int} {z : Iv} (hz : F[i]? = some z) (hlo : lo ≤ i) (hm : mj ct i = m) (hx : n3 i = x) (ez : z.d = .slice (some ⟨g, 0, none⟩) x cc) (ek : k3 i = k) (hk : k < x) : PW w B p ct tt F n1 n2 n3 rf ((((((wr).setCell ⟨g, k * 5, none⟩ (.string ⟨#[109, 105, 110, 101]⟩)).setCell ⟨g, k * 5 + 1, none⟩ (.int .i64 0)).setCell ⟨g, k * 5 + 2, none⟩ (.int .i64 (m + (k : Int)))).setCell ⟨g, k * 5 + 3, none⟩ (.int .i64 0)).setCell ⟨g, k * 5 + 4, none⟩ (.int .i64 0)) r L lo c k1 k2 (upd k3 i (k + 1)) := by
  have hc : Chg (fun b => b = g) wr ((((((wr).setCell ⟨g, k * 5, none⟩ (.string ⟨#[109, 105, 110, 101]⟩)).setCell ⟨g, k * 5 + 1, none⟩ (.int .i64 0)).setCell ⟨g, k * 5 + 2, none⟩ (.int .i64 (m + (k : Int)))).setCell ⟨g, k * 5 + 3, none⟩ (.int .i64 0)).setCell ⟨g, k * 5 + 4, none⟩ (.int .i64 0)) := ((((Chg.setCell (S := fun b => b = g) (Chg.refl _ wr) (p := ⟨g, k * 5, none⟩) rfl _).setCell (p := ⟨g, k * 5 + 1, none⟩) rfl _).setCell (p := ⟨g, k * 5 + 2, none⟩) rfl _).setCell (p := ⟨g, k * 5 + 3, none⟩) rfl _).setCell (p := ⟨g, k * 5 + 4, none⟩) rfl _
  have hb : z.blk g := .inr <| .inr (by rw [ez]; rfl)
  have hcz : Chg (fun b => z.blk b) wr ((((((wr).setCell ⟨g, k * 5, none⟩ (.string ⟨#[109, 105, 110, 101]⟩)).setCell ⟨g, k * 5 + 1, none⟩ (.int .i64 0)).setCell ⟨g, k * 5 + 2, none⟩ (.int .i64 (m + (k : Int)))).setCell ⟨g, k * 5 + 3, none⟩ (.int .i64 0)).setCell ⟨g, k * 5 + 4, none⟩ (.int .i64 0)) := hc.mono (fun b hb' _ => by rw [hb']; exact hb)
  refine ⟨h.wi.turn h.fm h.fd hz hlo hcz, fun j y hy => ?_, h.ln, h.r0, h.fd, h.sz⟩
  obtain ⟨f1, f2, f3⟩ := h.fm j y hy
  by_cases hij : j = i
  · subst hij
    rw [hz] at hy
    obtain rfl := Option.some.inj hy
    have hA := h.ap3 hz
    have hg : z.d.ownBlock = some g := by rw [ez]; rfl
    have q3 : MP kD ((((((wr).setCell ⟨g, k * 5, none⟩ (.string ⟨#[109, 105, 110, 101]⟩)).setCell ⟨g, k * 5 + 1, none⟩ (.int .i64 0)).setCell ⟨g, k * 5 + 2, none⟩ (.int .i64 (m + (k : Int)))).setCell ⟨g, k * 5 + 3, none⟩ (.int .i64 0)).setCell ⟨g, k * 5 + 4, none⟩ (.int .i64 0)) z.d (mj ct j) (n3 j) (n3 j) (k + 1) := by
      rw [ek] at f3
      rw [hx] at f3 ⊢
      rw [hm] at f3 ⊢
      rw [ez] at f3 ⊢
      refine f3.mark kD_ok hk (fun cs hg hs => ?_)
      obtain ⟨e1, e2, e3⟩ := get5 cs (k * 5) (.string ⟨#[109, 105, 110, 101]⟩) (.int .i64 0) (.int .i64 (m + (k : Int))) (.int .i64 0) (.int .i64 0) hs
      exact ⟨_, (set_atL (set_atL (set_atL (set_atL (set_atL hg _ _) _ _) _ _) _ _) _ _), e1, e2, e3⟩
    exact ⟨f1.chg hc (fun b hb e => hA.2.1 b hb (by rw [e]; exact hg)), f2.chg hc (fun b hb e => hA.2.2 b hb (by rw [e]; exact hg)), by rw [upd_self]; exact q3⟩
  · have hn : ∀ b, y.blk b → ¬ b = g := fun b hb' e => hij (h.fd.fd j i y z hy hz b hb' (by rw [e]; exact hb))
    have hu : ∀ v, upd k3 i v j = k3 j := fun v => by unfold upd; rw [if_neg hij]
    exact ⟨f1.chg hc (fun b hb => hn b (.inl hb)), f2.chg hc (fun b hb => hn b (.inr (.inl hb))), by rw [hu]; exact f3.chg hc (fun b hb => hn b (.inr (.inr hb)))⟩
end
section
variable {w : World} {B p : Nat} {ct tt : Int} {r : Nat → Value} {L : Nat → List Iv}
theorem ShI.num (h : ShI w B p ct tt r L) (j : Nat) (v : Value) (ct' tt' : Int) (e : (#[.int .i64 ct, .int .i64 tt, .bool false, r 0, r 1, r 2, r 3] : Array Value).setIfInBounds j v = #[.int .i64 ct', .int .i64 tt', .bool false, r 0, r 1, r 2, r 3]) : ShI (w.setCell ⟨p, j, none⟩ v) B p ct' tt' r L := by
  have c : Chg (fun k => k = p) w (w.setCell ⟨p, j, none⟩ v) := Chg.setCell (S := fun k => k = p) (Chg.refl _ w) (p := ⟨p, j, none⟩) rfl v
  exact ⟨by rw [set_atL h.st, e], h.bp, fun i hi => owns_chg (h.row i hi) (fun k hk e => own_kind (h.row i hi) h.st (by decide) (by rw [hk, e])) c, h.sep⟩
theorem ShI.nil (h : ShI w B p ct tt r L) (j : Nat) (hj : j < 4) : ShI (w.setCell ⟨p, 3 + j, none⟩ (.slice none 0 0)) B p ct tt (upd r j (.slice none 0 0)) (upd L j []) := by
  refine ShI.store h.st h.bp j hj _ _ (fun i hi => ?_) (fun i k b hi hk hne h1 h2 => ?_)
  · unfold upd
    by_cases hij : i = j
    · rw [if_pos hij, if_pos hij]; exact World.ownsRow_nil _ _ _ _
    · rw [if_neg hij, if_neg hij]; exact h.row i hi
  · unfold upd at h1 h2
    by_cases hij : i = j
    · rw [if_pos hij] at h1; cases h1
    · rw [if_neg hij] at h1
      by_cases hkj : k = j
      · rw [if_pos hkj] at h2; cases h2
      · rw [if_neg hkj] at h2; exact h.sep i k b hi hk hne h1 h2
end
end Go.Proofs.YthififblejbleaaGreatDoor
