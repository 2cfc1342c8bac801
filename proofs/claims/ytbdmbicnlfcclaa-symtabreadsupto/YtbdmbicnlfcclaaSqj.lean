import Derived.Test.YtbdmbicnlfcclaaSqi
import Derived.Test.YtbdmbicnlfcclaaSqk
import Derived.Test.YtbdmbicnlfcclaaSfc
import Derived.Test.YtbdmbicnlfcclaaSwo
namespace Go.Proofs.Ytbdmbicnlfcclaa
open Go.RowKit
set_option linter.unusedVariables false
set_option linter.unusedSimpArgs false
/-- the lender: new, or with a buffer -/
def LS2 (w : World) (p B : Nat) : Prop := w.heap[p]? = some (.cells #[.slice none 0 0, .int .i64 0] 39 (0, 0)) ∨ ∃ g m N L, LeB w p g m N L ∧ B ≤ g
theorem LS2.lt {w : World} {p B : Nat} (h : LS2 w p B) : p < w.heap.size := by
  rcases h with h | ⟨g, m, N, L, h, _⟩
  · exact (Array.getElem?_eq_some_iff.1 h).1
  · exact h.ltp
theorem LS2.out {w w' : World} {p B : Nat} (h : LS2 w p B) (o : Out w w') : LS2 w' p B := by
  have hl := h.lt
  rcases h with h | ⟨g, m, N, L, h, hg⟩
  · exact .inl ((o.block p hl).trans h)
  · exact .inr ⟨g, m, N, L, h.out o, hg⟩
/-- a text lies apart from the lender -/
def Ap2 (w : World) (p : Nat) (a : Option Addr) (l : List UInt8) : Prop := ¬ l = [] → ∀ ad, a = some ad → ¬ ad.block = p ∧ ∀ g m N L, LeB w p g m N L → ¬ ad.block = g
theorem Ap2.out {w w' : World} {p B : Nat} {a : Option Addr} {l : List UInt8} (h : Ap2 w p a l) (s : LS2 w p B) (o : Out w w') : Ap2 w' p a l := fun hl ad ha => by
  refine ⟨(h hl ad ha).1, fun g m N L hb => ?_⟩
  rcases s with s | ⟨g1, m1, N1, L1, s, _⟩
  · have h1 := hb.hp
    rw [(o.block p (Array.getElem?_eq_some_iff.1 s).1).trans s] at h1
    simp at h1
  · have h1 := hb.hp
    rw [(s.out o).hp] at h1
    simp at h1
    rw [← h1.1.1]
    exact (h hl ad ha).2 _ _ _ _ s
/-- the blocks that Lend writes hold bytes -/
def LP2 (w : World) (p g : Nat) : Prop := (∃ cs, w.heap[p]? = some (.cells cs 39 (0, 0))) ∧ (w.heap.size ≤ g ∨ ∃ cs, w.heap[g]? = some (.cells cs 5 (0, 0)))
theorem LeB.lp2 {w : World} {p g m : Nat} {N : Int} {L : List UInt8} (h : LeB w p g m N L) : LP2 w p g := ⟨⟨_, h.hp⟩, .inr ⟨_, h.hg⟩⟩
theorem LP2.kind {w : World} {p g : Nat} (k : LP2 w p g) (b : Nat) (hb : b < w.heap.size) (hs : SL p g b) : ∃ cs t, w.heap[b]? = some (.cells cs t (0, 0)) ∧ (t = 39 ∨ t = 5) := by
  rcases hs with e | e
  · obtain ⟨cs, h1⟩ := k.1
    exact ⟨cs, _, by rw [e]; exact h1, .inl rfl⟩
  · rcases k.2 with h1 | ⟨cs, h1⟩
    · omega
    · exact ⟨cs, _, by rw [e]; exact h1, .inr rfl⟩
theorem OwS.lp2 {B p g : Nat} {v : Value} {T : List Sy} {w w' : World} (h : OwS B v T w) (k : LP2 w p g) (c : Chg (SL p g) w w') : OwS B v T w' := by
  refine h.chg c (fun b hb hs => ?_)
  obtain ⟨cs, t, h1, h2⟩ := k.kind b (own_blkQ h hb).1 hs
  rcases h2 with e | e
  · subst e; exact own_kind h h1 (by decide) hb
  · subst e; exact own_kind h h1 (by decide) hb
theorem lend_any2 (w : World) (p B : Nat) (a : Option Addr) (cap : Nat) (l : List UInt8) (hs : LS2 w p B) (hB : B ≤ w.heap.size) (hr : RestAt w.heap.size w a l) (ha : Ap2 w p a l) (hll : l.length ≤ 60000000000000) :
    Calls Try.prog 26 #[.pointer (some ⟨p, 0, none⟩), .slice a l.length cap] w fun e w' => ∃ g m R, e = .returned (.slice (some ⟨g, 0, none⟩) l.length (2 * l.length + 70)) ∧ LeB w' p g m l.length (l ++ (lmsB l.length (l.length + 70) ++ R)) ∧ Chg (SL p g) w w' ∧ LP2 w p g ∧ B ≤ g ∧ ((∃ m N L, LeB w p g m N L) ∨ w.heap.size ≤ g) ∧ (¬ l = [] → ∀ ad, a = some ad → ¬ SL p g ad.block) := by
  have new : ∀ (ha' : Option Addr) (hn hc : Nat) (N : Int), w.heap[p]? = some (.cells #[.slice ha' hn hc, .int .i64 N] 39 (0, 0)) → hn < 2 * l.length + 70 → Calls Try.prog 26 #[.pointer (some ⟨p, 0, none⟩), .slice a l.length cap] w fun e w' => ∃ g m R, e = .returned (.slice (some ⟨g, 0, none⟩) l.length (2 * l.length + 70)) ∧ LeB w' p g m l.length (l ++ (lmsB l.length (l.length + 70) ++ R)) ∧ Chg (SL p g) w w' ∧ LP2 w p g ∧ B ≤ g ∧ ((∃ m N L, LeB w p g m N L) ∨ w.heap.size ≤ g) ∧ (¬ l = [] → ∀ ad, a = some ad → ¬ SL p g ad.block) := fun ha' hn hc N hs hhn => by
    refine (lend_make w.heap.size w p w.heap.size (4 * l.length + 512) (List.replicate (4 * l.length + 512) 0) ha' hn hc N hs a cap l hr (Nat.le_refl _) (fun h ad had => (ha h ad had).1) rfl rfl rfl hll hhn).mono ?_
    rintro e w' ⟨he, hb, hc⟩
    refine ⟨_, _, _, he, hb, hc, ⟨⟨_, hs⟩, .inl (Nat.le_refl _)⟩, hB, .inr (Nat.le_refl _), fun h ad had hsl => ?_⟩
    rcases hsl with e | e
    · exact (ha h ad had).1 e
    · rcases hr with h1 | ⟨b, o, hb, h1, _⟩
      · exact h h1
      · rw [h1] at had; cases had; simp at e; omega
  rcases hs with hs | ⟨g, m, N, L, hs, hg⟩
  · exact new none 0 0 0 hs (by omega)
  · by_cases hm : 2 * l.length + 70 ≤ m
    · refine (lend_again w.heap.size w p g m N L hs a cap l hr (fun h ad had => (ha h ad had).1) (fun h ad had => (ha h ad had).2 _ _ _ _ hs) hm (by omega)).mono ?_
      rintro e w' ⟨he, hb, hc⟩
      refine ⟨_, _, _, he, hb, hc, hs.lp2, hg, .inl ⟨_, _, _, hs⟩, fun h ad had hsl => ?_⟩
      rcases hsl with e | e
      · exact (ha h ad had).1 e
      · exact (ha h ad had).2 _ _ _ _ hs e
    · exact new _ m m N hs.hp (by omega)
theorem RestAt.keep2 {N : Nat} {S : Nat → Prop} {w w' : World} {a : Option Addr} {l : List UInt8} (h : RestAt N w a l) (c : Chg S w w') (hs : ¬ l = [] → ∀ ad, a = some ad → ¬ S ad.block) : RestAt N w' a l := by
  by_cases hl : l = []
  · exact .inl hl
  · rcases h with h | ⟨b, o, hb, ha, hc⟩
    · exact .inl h
    · exact .inr ⟨b, o, hb, ha, fun k x hx => c.cell (hc k x hx) (show ¬ S b from hs hl ⟨b, o, none⟩ ha)⟩
theorem RestAt.wide {N N' : Nat} {w : World} {a : Option Addr} {l : List UInt8} (h : RestAt N w a l) (hN : N ≤ N') : RestAt N' w a l := by
  rcases h with h | ⟨b, o, hb, ha, hc⟩
  · exact .inl h
  · exact .inr ⟨b, o, by omega, ha, hc⟩
/-- what Read tells, as symbols, a place and an error -/
def rdL (b : List UInt8) : List Sy := (rdS b).1.getD []
def rdA (b : List UInt8) : Int := match rdS b with
  | (none, a, _) => a
  | (some _, _, _) => 0
def rdN (b : List UInt8) : Int := match rdS b with
  | (none, _, e) => e
  | (some _, _, _) => 0
theorem RdE.flat {w w' : World} {b : List UInt8} {e : Ending} (h : RdE w (rdS b) e w') : ∃ a c, e = .returned (.tuple #[.slice a (rdL b).length c, .int .i64 (rdA b), .int .i64 (rdN b)]) ∧ OwS w.heap.size (.slice a (rdL b).length c) (rdL b) w' ∧ Out w w' := by
  unfold rdA rdN rdL
  cases hT : rdS b with
  | mk o r =>
    obtain ⟨a, er⟩ := r
    rw [hT] at h
    cases o with
    | none => exact ⟨none, 0, h.2, ⟨rfl, .inl ⟨rfl, rfl⟩⟩, h.1⟩
    | some S =>
      obtain ⟨ho, a, c, he, hw⟩ := h
      exact ⟨a, c, he, hw, ho⟩
theorem rdG_len (st : Nat → Rn → Option (Sy × Rn) × Nat × Int) (L : Nat) : ∀ (n place : Nat) (q : Rn) (S S' : List Sy) (r : Int × Int), rdG st L n place q S = (some S', r) → S'.length ≤ S.length + n
  | 0, place, q, S, S', r, h => by
    rw [rdG] at h
    cases h
    omega
  | n + 1, place, q, S, S', r, h => by
    rw [rdG] at h
    split at h
    · cases h; omega
    · split at h
      · cases h
      · split at h
        · cases h
        · have := rdG_len st L n _ _ _ _ _ h
          rw [List.length_append, List.length_singleton] at this
          omega
theorem rdL_len (b : List UInt8) : (rdL b).length ≤ b.length := by
  unfold rdL
  cases hT : rdS b with
  | mk o r =>
    cases o with
    | none => simp
    | some S =>
      unfold rdS at hT
      split at hT
      · cases hT
      · have := rdG_len _ _ _ _ _ _ _ _ hT
        simpa using this
/-- blocks turn that are none of the queue's kinds -/
theorem QI.away {B : Nat} {w w' : World} {p : Nat} {tt : Int} {r : Nat → Value} {L : Nat → List Value} {S : Nat → Prop} (h : QI B w p tt r L) (c : Chg S w w') (hS : ∀ b, b < w.heap.size → S b → ∃ cs t, w.heap[b]? = some (.cells cs t (0, 0)) ∧ (t = 39 ∨ t = 5)) : QI B w' p tt r L := by
  have kp : ∀ B v N, OwS B v N w → OwS B v N w' := fun B v N hv => hv.chg c (fun b hb hs => by
    obtain ⟨cs, t, h1, h2⟩ := hS b (own_blkQ hv hb).1 hs
    rcases h2 with e | e
    · subst e; exact own_kind hv h1 (by decide) hb
    · subst e; exact own_kind hv h1 (by decide) hb)
  have kpp : ∀ X Y, PrQ w X Y → PrQ w' X Y := fun X Y hp i x y hx hy => by
    obtain ⟨N, a1, c1, a2, c2, e1, e2, o1, o2, hb⟩ := hp i x y hx hy
    exact ⟨N, a1, c1, a2, c2, e1, e2, kp _ _ _ o1, kp _ _ _ o2, hb⟩
  refine ⟨⟨(c.block p h.sh.lt (fun hs => ?_)).trans h.sh.st, fun j hj => owns_chg (h.sh.row j hj) (fun k hk hs => ?_) c, h.sh.sep⟩, h.wl, h.kl, kpp _ _ h.pf, kpp _ _ h.pk, fun x hx => ?_, h.ds, h.ap, h.lb⟩
  · obtain ⟨cs, t, h1, h2⟩ := hS p h.sh.lt hs
    rw [h.sh.st] at h1
    simp at h1
    rcases h2 with e | e
    · rw [e] at h1; exact absurd h1.2 (by decide)
    · rw [e] at h1; exact absurd h1.2 (by decide)
  · obtain ⟨cs, t, h1, h2⟩ := hS k (own_blkQ (h.sh.row j hj) hk).1 hs
    rcases h2 with e | e
    · subst e; exact own_kind (h.sh.row j hj) h1 (by decide) hk
    · subst e; exact own_kind (h.sh.row j hj) h1 (by decide) hk
  · obtain ⟨N, h1, h2⟩ := h.bl x hx
    exact ⟨N, h1, kp _ _ _ h2⟩
/-- a list that is newer than all that the queue knows -/
theorem QI.newer {B : Nat} {w : World} {p : Nat} {tt : Int} {r : Nat → Value} {L : Nat → List Value} (h : QI B w p tt r L) {x : Value} {g : Nat} (hg : w.heap.size ≤ g) (hx : ∀ b, x.ownBlock = some b → g ≤ b) : New6 B L x := by
  have hpB : B ≤ p := h.lb p (.inl rfl)
  have hpw := h.sh.lt
  refine ⟨fun b hb => by have := hx b hb; omega, fun j y b hy hb hyb => ?_, fun l y b hy hb hyb => ?_⟩
  · obtain ⟨N, _, h2⟩ := h.bl y (List.mem_of_getElem? hy)
    have := (own_blkQ h2 hyb).1
    have := hx b hb
    omega
  · have hlt : b < w.heap.size := by
      rcases hy with hy | hy
      · obtain ⟨z, hz⟩ : ∃ z, (L 3)[l]? = some z := ⟨_, List.getElem?_eq_getElem (by rw [h.kl]; exact (List.getElem?_eq_some_iff.1 hy).1)⟩
        obtain ⟨N, _, _, _, _, _, _, o1, _⟩ := h.pk l y z hy hz
        exact (own_blkQ o1 hyb).1
      · obtain ⟨z, hz⟩ : ∃ z, (L 2)[l]? = some z := ⟨_, List.getElem?_eq_getElem (by rw [← h.kl]; exact (List.getElem?_eq_some_iff.1 hy).1)⟩
        obtain ⟨N, _, _, _, _, _, _, _, o2, _⟩ := h.pk l z y hz hy
        exact (own_blkQ o2 hyb).1
    have := hx b hb
    omega
/-- amid SymtabReads: the lender at pl, the queue at ps -/
structure Rsy (W wr : World) (pl ps B : Nat) (tt : Int) (kn : Nat) : Prop where
  qi : ∃ r L, QI B wr ps tt r L ∧ (L 0).length ≤ 2 ∧ (L 2).length ≤ kn
  ls : LS2 wr pl B
  lB : B ≤ pl
  bW : W.heap.size ≤ B
  out : Out W wr
  t0 : 0 ≤ tt
theorem Rsy.more {W w w' : World} {pl ps B : Nat} {tt : Int} {kn : Nat} (h : Rsy W w pl ps B tt kn) (o : Out w w') : Rsy W w' pl ps B tt kn := by
  obtain ⟨r, L, h1, h2, h3⟩ := h.qi
  exact ⟨⟨r, L, h1.out o, h2, h3⟩, h.ls.out o, h.lB, h.bW, h.out.trans o, h.t0⟩
theorem Rsy.holds {W w : World} {pl ps B : Nat} {tt : Int} {kn : Nat} (h : Rsy W w pl ps B tt kn) (hk : kn ≤ 1000000000000) : Calls Try.prog 14 #[.pointer (some ⟨ps, 0, none⟩)] w fun e w' => e = .returned (.bool true) ∧ Out w w' := by
  obtain ⟨r, L, h1, h2, h3⟩ := h.qi
  exact holdsQ_any w ps tt r L h1.sh h1.wl h1.pf (by omega) h1.kl h1.pk (by omega)
end Go.Proofs.Ytbdmbicnlfcclaa
