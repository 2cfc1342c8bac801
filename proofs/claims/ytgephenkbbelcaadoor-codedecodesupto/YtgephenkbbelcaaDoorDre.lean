import Derived.Test.YtgephenkbbelcaaDoorDqi
import Derived.Test.YtgephenkbbelcaaDoorDlc
import Derived.Test.YtgephenkbbelcaaDoorDrc
import Derived.Test.YtgephenkbbelcaaDoorDrd
namespace Go.Proofs.YtgephenkbbelcaaDoor
open Go.RowKit
set_option linter.unusedVariables false
set_option linter.unusedSimpArgs false
/-- the lender: new, or with a buffer -/
def LS2 (w : World) (p B : Nat) : Prop := w.heap[p]? = some (.cells #[.slice none 0 0, .int .i64 0] 25 (0, 0)) ∨ ∃ g m N L, LeB w p g m N L ∧ B ≤ g
theorem LS2.lt {w : World} {p B : Nat} (h : LS2 w p B) : p < w.heap.size := by
  rcases h with h | ⟨g, m, N, L, h, _⟩
  · exact (Array.getElem?_eq_some_iff.1 h).1
  · exact h.ltp
theorem LS2.out {w w' : World} {p B : Nat} (h : LS2 w p B) (o : Out w w') : LS2 w' p B := by
  have hl := h.lt
  rcases h with h | ⟨g, m, N, L, h, hg⟩
  · exact .inl ((o.block p hl).trans h)
  · exact .inr ⟨g, m, N, L, h.out o, hg⟩
/-- a text lies apart from the lender -/
def Ap2 (w : World) (p : Nat) (a : Option Addr) (l : List UInt8) : Prop := ¬ l = [] → ∀ ad, a = some ad → ¬ ad.block = p ∧ ∀ g m N L, LeB w p g m N L → ¬ ad.block = g
theorem Ap2.out {w w' : World} {p B : Nat} {a : Option Addr} {l : List UInt8} (h : Ap2 w p a l) (s : LS2 w p B) (o : Out w w') : Ap2 w' p a l := fun hl ad ha => by
  refine ⟨(h hl ad ha).1, fun g m N L hb => ?_⟩
  rcases s with s | ⟨g1, m1, N1, L1, s, _⟩
  · have h1 := hb.hp
    rw [(o.block p (Array.getElem?_eq_some_iff.1 s).1).trans s] at h1
    simp at h1
  · have h1 := hb.hp
    rw [(s.out o).hp] at h1
    simp at h1
    rw [← h1.1.1]
    exact (h hl ad ha).2 _ _ _ _ s
/-- the blocks that Lend writes hold bytes -/
def LP2 (w : World) (p g : Nat) : Prop := (∃ cs, w.heap[p]? = some (.cells cs 25 (0, 0))) ∧ (w.heap.size ≤ g ∨ ∃ cs, w.heap[g]? = some (.cells cs 5 (0, 0)))
theorem LeB.lp2 {w : World} {p g m : Nat} {N : Int} {L : List UInt8} (h : LeB w p g m N L) : LP2 w p g := ⟨⟨_, h.hp⟩, .inr ⟨_, h.hg⟩⟩
theorem LP2.kind {w : World} {p g : Nat} (k : LP2 w p g) (b : Nat) (hb : b < w.heap.size) (hs : SL p g b) : ∃ cs t, w.heap[b]? = some (.cells cs t (0, 0)) ∧ (t = 25 ∨ t = 5) := by
  rcases hs with e | e
  · obtain ⟨cs, h1⟩ := k.1
    exact ⟨cs, _, by rw [e]; exact h1, .inl rfl⟩
  · rcases k.2 with h1 | ⟨cs, h1⟩
    · omega
    · exact ⟨cs, _, by rw [e]; exact h1, .inr rfl⟩
theorem OwI.lp2 {B p g : Nat} {v : Value} {T : List Ins} {w w' : World} (h : OwI B v T w) (k : LP2 w p g) (c : Chg (SL p g) w w') : OwI B v T w' := by
  refine h.chg c (fun b hb hs => ?_)
  obtain ⟨cs, t, h1, h2⟩ := k.kind b (own_blkQ h hb).1 hs
  rcases h2 with e | e
  · subst e; exact own_kind h h1 (by decide) hb
  · subst e; exact own_kind h h1 (by decide) hb
theorem lend_any2 (w : World) (p B : Nat) (a : Option Addr) (cap : Nat) (l : List UInt8) (hs : LS2 w p B) (hB : B ≤ w.heap.size) (hr : RestAt w.heap.size w a l) (ha : Ap2 w p a l) (hll : l.length ≤ 60000000000000) :
    Calls Tryd.prog 7 #[.pointer (some ⟨p, 0, none⟩), .slice a l.length cap] w fun e w' => ∃ g m R, e = .returned (.slice (some ⟨g, 0, none⟩) l.length (2 * l.length + 70)) ∧ LeB w' p g m l.length (l ++ (lmsB l.length (l.length + 70) ++ R)) ∧ Chg (SL p g) w w' ∧ LP2 w p g ∧ B ≤ g ∧ ((∃ m N L, LeB w p g m N L) ∨ w.heap.size ≤ g) ∧ (¬ l = [] → ∀ ad, a = some ad → ¬ SL p g ad.block) := by
  have new : ∀ (ha' : Option Addr) (hn hc : Nat) (N : Int), w.heap[p]? = some (.cells #[.slice ha' hn hc, .int .i64 N] 25 (0, 0)) → hn < 2 * l.length + 70 → Calls Tryd.prog 7 #[.pointer (some ⟨p, 0, none⟩), .slice a l.length cap] w fun e w' => ∃ g m R, e = .returned (.slice (some ⟨g, 0, none⟩) l.length (2 * l.length + 70)) ∧ LeB w' p g m l.length (l ++ (lmsB l.length (l.length + 70) ++ R)) ∧ Chg (SL p g) w w' ∧ LP2 w p g ∧ B ≤ g ∧ ((∃ m N L, LeB w p g m N L) ∨ w.heap.size ≤ g) ∧ (¬ l = [] → ∀ ad, a = some ad → ¬ SL p g ad.block) := fun ha' hn hc N hs hhn => by
    refine (lend_make w.heap.size w p w.heap.size (4 * l.length + 512) (List.replicate (4 * l.length + 512) 0) ha' hn hc N hs a cap l hr (Nat.le_refl _) (fun h ad had => (ha h ad had).1) rfl rfl rfl hll hhn).mono ?_
    rintro e w' ⟨he, hb, hc⟩
    refine ⟨_, _, _, he, hb, hc, ⟨⟨_, hs⟩, .inl (Nat.le_refl _)⟩, hB, .inr (Nat.le_refl _), fun h ad had hsl => ?_⟩
    rcases hsl with e | e
    · exact (ha h ad had).1 e
    · rcases hr with h1 | ⟨b, o, hb, h1, _⟩
      · exact h h1
      · rw [h1] at had; cases had; simp at e; omega
  rcases hs with hs | ⟨g, m, N, L, hs, hg⟩
  · exact new none 0 0 0 hs (by omega)
  · by_cases hm : 2 * l.length + 70 ≤ m
    · refine (lend_again w.heap.size w p g m N L hs a cap l hr (fun h ad had => (ha h ad had).1) (fun h ad had => (ha h ad had).2 _ _ _ _ hs) hm (by omega)).mono ?_
      rintro e w' ⟨he, hb, hc⟩
      refine ⟨_, _, _, he, hb, hc, hs.lp2, hg, .inl ⟨_, _, _, hs⟩, fun h ad had hsl => ?_⟩
      rcases hsl with e | e
      · exact (ha h ad had).1 e
      · exact (ha h ad had).2 _ _ _ _ hs e
    · exact new _ m m N hs.hp (by omega)
theorem RestAt.keep2 {N : Nat} {S : Nat → Prop} {w w' : World} {a : Option Addr} {l : List UInt8} (h : RestAt N w a l) (c : Chg S w w') (hs : ¬ l = [] → ∀ ad, a = some ad → ¬ S ad.block) : RestAt N w' a l := by
  by_cases hl : l = []
  · exact .inl hl
  · rcases h with h | ⟨b, o, hb, ha, hc⟩
    · exact .inl h
    · exact .inr ⟨b, o, hb, ha, fun k x hx => c.cell (hc k x hx) (show ¬ S b from hs hl ⟨b, o, none⟩ ha)⟩
theorem RestAt.wide {N N' : Nat} {w : World} {a : Option Addr} {l : List UInt8} (h : RestAt N w a l) (hN : N ≤ N') : RestAt N' w a l := by
  rcases h with h | ⟨b, o, hb, ha, hc⟩
  · exact .inl h
  · exact .inr ⟨b, o, by omega, ha, hc⟩
/-- blocks turn that are none of the queue's kinds -/
theorem QI.away {B : Nat} {w w' : World} {p : Nat} {mk tt : Int} {r : Nat → Value} {L : Nat → List Value} {S : Nat → Prop} (h : QI B w p mk tt r L) (c : Chg S w w') (hS : ∀ b, b < w.heap.size → S b → ∃ cs t, w.heap[b]? = some (.cells cs t (0, 0)) ∧ (t = 25 ∨ t = 5)) : QI B w' p mk tt r L := by
  have kp : ∀ B v N, OwI B v N w → OwI B v N w' := fun B v N hv => hv.chg c (fun b hb hs => by
    obtain ⟨cs, t, h1, h2⟩ := hS b (own_blkQ hv hb).1 hs
    rcases h2 with e | e
    · subst e; exact own_kind hv h1 (by decide) hb
    · subst e; exact own_kind hv h1 (by decide) hb)
  have kpp : ∀ X Y, PrQ w X Y → PrQ w' X Y := fun X Y hp i x y hx hy => by
    obtain ⟨N, a1, c1, a2, c2, e1, e2, o1, o2, hb⟩ := hp i x y hx hy
    exact ⟨N, a1, c1, a2, c2, e1, e2, kp _ _ _ o1, kp _ _ _ o2, hb⟩
  refine ⟨⟨(c.block p h.sh.lt (fun hs => ?_)).trans h.sh.st, fun j hj => owns_chg (h.sh.row j hj) (fun k hk hs => ?_) c, h.sh.sep⟩, h.wl, h.kl, kpp _ _ h.pf, kpp _ _ h.pk, fun x hx => ?_, h.ds, h.ap, h.lb⟩
  · obtain ⟨cs, t, h1, h2⟩ := hS p h.sh.lt hs
    rw [h.sh.st] at h1
    simp at h1
    rcases h2 with e | e
    · rw [e] at h1; exact absurd h1.2 (by decide)
    · rw [e] at h1; exact absurd h1.2 (by decide)
  · obtain ⟨cs, t, h1, h2⟩ := hS k (own_blkQ (h.sh.row j hj) hk).1 hs
    rcases h2 with e | e
    · subst e; exact own_kind (h.sh.row j hj) h1 (by decide) hk
    · subst e; exact own_kind (h.sh.row j hj) h1 (by decide) hk
  · obtain ⟨N, h1, h2⟩ := h.bl x hx
    exact ⟨N, h1, kp _ _ _ h2⟩
/-- a list that is newer than all that the queue knows -/
theorem QI.newer {B : Nat} {w : World} {p : Nat} {mk tt : Int} {r : Nat → Value} {L : Nat → List Value} (h : QI B w p mk tt r L) {x : Value} {g : Nat} (hg : w.heap.size ≤ g) (hx : ∀ b, x.ownBlock = some b → g ≤ b) : New5 B L x := by
  have hpB : B ≤ p := h.lb p (.inl rfl)
  have hpw := h.sh.lt
  refine ⟨fun b hb => by have := hx b hb; omega, fun j y b hy hb hyb => ?_, fun l y b hy hb hyb => ?_⟩
  · obtain ⟨N, _, h2⟩ := h.bl y (List.mem_of_getElem? hy)
    have := (own_blkQ h2 hyb).1
    have := hx b hb
    omega
  · have hlt : b < w.heap.size := by
      rcases hy with hy | hy
      · obtain ⟨z, hz⟩ : ∃ z, (L 3)[l]? = some z := ⟨_, List.getElem?_eq_getElem (by rw [h.kl]; exact (List.getElem?_eq_some_iff.1 hy).1)⟩
        obtain ⟨N, _, _, _, _, _, _, o1, _⟩ := h.pk l y z hy hz
        exact (own_blkQ o1 hyb).1
      · obtain ⟨z, hz⟩ : ∃ z, (L 2)[l]? = some z := ⟨_, List.getElem?_eq_getElem (by rw [← h.kl]; exact (List.getElem?_eq_some_iff.1 hy).1)⟩
        obtain ⟨N, _, _, _, _, _, _, _, o2, _⟩ := h.pk l z y hz hy
        exact (own_blkQ o2 hyb).1
    have := hx b hb
    omega
/-- the queue's blocks are none of the lender's -/
theorem QI.nokind {B : Nat} {w : World} {p : Nat} {mk tt : Int} {r : Nat → Value} {L : Nat → List Value} {x : Value} {T : List Ins} (h : QI B w p mk tt r L) (hx : OwI 0 x T w) (b : Nat) (cs : Array Value) (t : TypeId) (hb : w.heap[b]? = some (.cells cs t (0, 0))) (ht : t = 25 ∨ t = 5) : ¬ (QSQ p r (L 0) b ∨ x.ownBlock = some b) := fun hs => by
    rcases hs with (e | ⟨j, hj, e⟩ | ⟨y, hy, e⟩) | e
    · have h1 := h.sh.st
      rw [← e, hb] at h1
      simp at h1
      rcases ht with e | e
      · rw [e] at h1; exact absurd h1.2 (by decide)
      · rw [e] at h1; exact absurd h1.2 (by decide)
    · rcases ht with e2 | e2
      · subst e2; exact own_kind (h.sh.row j hj) hb (by decide) e
      · subst e2; exact own_kind (h.sh.row j hj) hb (by decide) e
    · obtain ⟨M, _, h2⟩ := h.bl y hy
      rcases ht with e2 | e2
      · subst e2; exact own_kind h2 hb (by decide) e
      · subst e2; exact own_kind h2 hb (by decide) e
    · rcases ht with e2 | e2
      · subst e2; exact own_kind hx hb (by decide) e
      · subst e2; exact own_kind hx hb (by decide) e
theorem QI.lender {B : Nat} {w w' : World} {p pl g m : Nat} {N : Int} {Lb : List UInt8} {mk tt : Int} {r : Nat → Value} {L : Nat → List Value} {x : Value} {T : List Ins} (h : QI B w p mk tt r L) (hx : OwI 0 x T w) (hl : LeB w pl g m N Lb) (c : Chg (fun b => QSQ p r (L 0) b ∨ x.ownBlock = some b) w w') : LeB w' pl g m N Lb :=
  ⟨(c.block pl hl.ltp (h.nokind hx pl _ _ hl.hp (.inl rfl))).trans hl.hp, (c.block g hl.ltg (h.nokind hx g _ _ hl.hg (.inr rfl))).trans hl.hg, hl.len_⟩
theorem LeB.uniq2 {w : World} {p g m g' m' : Nat} {N N' : Int} {L L' : List UInt8} (h : LeB w p g m N L) (h' : LeB w p g' m' N' L') : g = g' := by
  have h1 := h.hp
  rw [h'.hp] at h1
  simp at h1
  exact h1.1.1.symm
def lendO : Obj := .cells #[.slice none 0 0, .int .i64 0] 25 (0, 0)
def shelfO : Obj := .cells #[.int .i64 0, .int .i64 0, .bool false, .slice none 0 0, .slice none 0 0, .slice none 0 0, .slice none 0 0] 28 (0, 0)
theorem QI.new (w : World) (B : Nat) (hB : B ≤ w.heap.size) : QI B (w.alloc shelfO) w.heap.size 0 0 (fun _ => .slice none 0 0) (fun _ => []) := by
  have n0 : ∀ {α : Type} {j : Nat} {x : α}, ([] : List α)[j]? = some x → False := fun h => by simp at h
  refine ⟨⟨heap_alloc_new w _, fun j _ => World.ownsRow_nil _ _ _ _, ?_⟩, rfl, rfl, ?_, ?_, ?_, ?_, ?_, ?_⟩
  · intro i j b _ _ _ h; cases h
  · intro i x y hx; exact (n0 hx).elim
  · intro i x y hx; exact (n0 hx).elim
  · intro x hx; cases hx
  · intro i j x y hx; exact (n0 hx).elim
  · intro l y b _ _ j x hx; exact (n0 hx).elim
  · intro b hb
    rcases hb with e | ⟨j, _, e⟩ | ⟨x, hx, _⟩
    · rw [e]; exact hB
    · cases e
    · cases hx
/-- amid CodeDecodes: the lender at pl, the shelf at ps -/
structure Rcd (W wr : World) (pl ps B : Nat) (mk tt : Int) (kn : Nat) : Prop where
  qi : ∃ r L, QI B wr ps mk tt r L ∧ (L 0).length ≤ 2 ∧ (L 2).length ≤ kn
  ls : LS2 wr pl B
  lB : B ≤ pl
  bW : W.heap.size ≤ B
  out : Out W wr
theorem Rcd.more {W w w' : World} {pl ps B : Nat} {mk tt : Int} {kn : Nat} (h : Rcd W w pl ps B mk tt kn) (o : Out w w') : Rcd W w' pl ps B mk tt kn := by
  obtain ⟨r, L, h1, h2, h3⟩ := h.qi
  exact ⟨⟨r, L, h1.out o, h2, h3⟩, h.ls.out o, h.lB, h.bW, h.out.trans o⟩
theorem Rcd.start {W w : World} (o : Out W w) : Rcd W ((w.alloc lendO).alloc shelfO) w.heap.size (w.heap.size + 1) w.heap.size 0 0 0 := by
  have hs : (w.alloc lendO).heap.size = w.heap.size + 1 := size_alloc _ _
  have o2 : Out (w.alloc lendO) ((w.alloc lendO).alloc shelfO) := (Out.refl _).alloc _
  refine ⟨⟨_, _, by rw [← hs]; exact QI.new (w.alloc lendO) w.heap.size (by omega), by simp, by simp⟩, ?_, Nat.le_refl _, o.size, (o.alloc _).trans o2⟩
  exact (show LS2 (w.alloc lendO) w.heap.size w.heap.size from .inl (heap_alloc_new w _)).out o2
/-- a list and the second one that is still to be owned -/
theorem New5.later {B B2 : Nat} {w : World} {L L' : Nat → List Value} {x z : Value} {p : Nat} {mk tt : Int} {r : Nat → Value} (hz : New5 B L z) (hlt : ∀ b, z.ownBlock = some b → b < w.heap.size) (hne : ∀ b, z.ownBlock = some b → ¬ x.ownBlock = some b)
    (pv : ∀ y b, (y ∈ L' 0 ∨ y ∈ L' 2 ∨ y ∈ L' 3) → y.ownBlock = some b → w.heap.size ≤ b ∨ (∃ z, (z ∈ L 0 ∨ z ∈ L 2 ∨ z ∈ L 3) ∧ z.ownBlock = some b) ∨ x.ownBlock = some b) : New5 B L' z := by
  have key : ∀ y b, (y ∈ L' 0 ∨ y ∈ L' 2 ∨ y ∈ L' 3) → z.ownBlock = some b → ¬ y.ownBlock = some b := fun y b hy hb hyb => by
    rcases pv y b hy hyb with e | ⟨u, hu, hub⟩ | e
    · have := hlt b hb; omega
    · rcases hu with hu | hu | hu
      · obtain ⟨j, hj⟩ := List.getElem?_of_mem hu
        exact hz.f j u b hj hb hub
      · obtain ⟨j, hj⟩ := List.getElem?_of_mem hu
        exact hz.k j u b (.inl hj) hb hub
      · obtain ⟨j, hj⟩ := List.getElem?_of_mem hu
        exact hz.k j u b (.inr hj) hb hub
    · exact hne b hb e
  refine ⟨hz.lb, fun j y b hy hb => key y b (.inl (List.mem_of_getElem? hy)) hb, fun l y b hy hb => ?_⟩
  rcases hy with hy | hy
  · exact key y b (.inr (.inl (List.mem_of_getElem? hy))) hb
  · exact key y b (.inr (.inr (List.mem_of_getElem? hy))) hb
/-- bytes as such -/
def u8L (B : List Int) : List UInt8 := B.map (fun x => UInt8.ofNat x.toNat)
theorem u8L_len (B : List Int) : (u8L B).length = B.length := by simp [u8L]
theorem u8_back {x : Int} (h0 : 0 ≤ x) (h1 : x < 256) : ((UInt8.ofNat x.toNat).toNat : Int) = x := by
  rw [UInt8.toNat_ofNat_of_lt' (by simp [UInt8.size]; omega)]; omega
theorem own_u8 {B0 : Nat} {v : Value} {n : Nat} {B : List Int} {w : World} (h : w.ownsRow B0 5 1 v n (bV B)) (hB : Byts B) : OwB B0 v (u8L B) w := by
  have hl : (u8L B).length = n := by rw [u8L_len]; have := h.1; simpa [bV] using this
  have e : Lib.byteCells (u8L B) = bV B := by
    simp only [Lib.byteCells, u8L, bV, List.map_map]
    apply List.map_congr_left
    intro x hx
    have := hB.mem hx
    simp only [Function.comp]
    rw [u8_back this.1 this.2]
  unfold OwB
  rw [hl, e]; exact h
theorem u8_get {B : List Int} (hB : Byts B) {k : Nat} (hk : k < B.length) : ∃ x, (u8L B)[k]? = some x ∧ (x.toNat : Int) = gB B k := by
  refine ⟨UInt8.ofNat (B[k]).toNat, by simp [u8L, List.getElem?_eq_getElem hk], ?_⟩
  have h := hB.mem (List.getElem_mem hk)
  rw [u8_back h.1 h.2]
  simp [gB, List.getD, List.getElem?_eq_getElem hk]
end Go.Proofs.YtgephenkbbelcaaDoor
