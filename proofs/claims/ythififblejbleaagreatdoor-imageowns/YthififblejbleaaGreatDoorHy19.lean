import Derived.Test.YthififblejbleaaGreatDoorHy18
namespace Go.Proofs.YthififblejbleaaGreatDoor
open Go.RowKit
set_option linter.unusedVariables false
set_option linter.unusedSimpArgs false
def MP (K : Kd) (w : World) (v : Value) (m : Int) (n0 n k : Nat) : Prop := (v = .slice none 0 0 ∧ n = 0) ∨ ∃ g c cs, v = .slice (some ⟨g, 0, none⟩) n c ∧ w.heap[g]? = some (.cells cs K.e (0, 0)) ∧ cs.size = c * K.k ∧ n ≤ c ∧ Mk K m n0 k cs
theorem MP.form {K : Kd} {w : World} {v : Value} {m : Int} {n0 n k : Nat} (h : MP K w v m n0 n k) : ∃ a c, v = .slice a n c := by
  rcases h with ⟨rfl, rfl⟩ | ⟨g, c, cs, rfl, _⟩
  · exact ⟨_, _, rfl⟩
  · exact ⟨_, _, rfl⟩
theorem MP.blk {K : Kd} {w : World} {v : Value} {m : Int} {n0 n k : Nat} (h : MP K w v m n0 n k) : ∀ b, v.ownBlock = some b → b < w.heap.size ∧ ∃ cs, w.heap[b]? = some (.cells cs K.e (0, 0)) := fun b hb => by
  rcases h with ⟨rfl, _⟩ | ⟨g, c, cs, rfl, hg, _⟩
  · cases hb
  · simp [Value.ownBlock] at hb; subst hb; exact ⟨(Array.getElem?_eq_some_iff.1 hg).1, cs, hg⟩
theorem MP.chg {S : Nat → Prop} {K : Kd} {w w' : World} {v : Value} {m : Int} {n0 n k : Nat} (h : MP K w v m n0 n k) (c : Chg S w w') (hs : ∀ b, v.ownBlock = some b → ¬ S b) : MP K w' v m n0 n k := by
  rcases h with h | ⟨g, cp, cs, hv, hg, h⟩
  · exact .inl h
  · exact .inr ⟨g, cp, cs, hv, (c.block g (Array.getElem?_eq_some_iff.1 hg).1 (hs g (by rw [hv]; rfl))).trans hg, h⟩
theorem MP.of_ho {K : Kd} (hK : K.Ok) {w : World} {v : Value} {V : List Value} (h : Ho K w v V) {n : Nat} (hn : V.length = n * K.k) (m : Int) (n0 : Nat) : MP K w v m n0 n 0 := by
  obtain ⟨n', hn', h⟩ := h
  obtain rfl : n' = n := Nat.eq_of_mul_eq_mul_right hK.k0 (hn'.symm.trans hn)
  rcases h with h | ⟨g, c, cs, hv, hg, hs, hc, _⟩
  · exact .inl h
  · exact .inr ⟨g, c, cs, hv, hg, hs, hc, Mk.zero _ _ _ _⟩
def mkV (K : Kd) (m : Int) (n0 n : Nat) : List Value := (List.range n).flatMap fun i => K.c (decide (n0 ≤ i)) (m + (i : Int))
theorem mkV_len {K : Kd} (hK : K.Ok) (m : Int) (n0 n : Nat) : (mkV K m n0 n).length = n * K.k := by
  rw [mkV, flat_len _ K.k (fun i => hK.cl _ _), List.length_range]
theorem mkV_get {K : Kd} (hK : K.Ok) (m : Int) (n0 n o : Nat) (ho : o < n * K.k) : (mkV K m n0 n)[o]? = cfi K m n0 o := by
  have h1 : o / K.k < n := (Nat.div_lt_iff_lt_mul hK.k0).2 ho
  have h2 : o % K.k < K.k := Nat.mod_lt _ hK.k0
  have hl : o % K.k < (K.c (decide (n0 ≤ o / K.k)) (m + ((o / K.k : Nat) : Int))).length := by rw [hK.cl]; exact h2
  have := flat_get (fun i : Nat => K.c (decide (n0 ≤ i)) (m + (i : Int))) K.k (fun i => hK.cl _ _) (L := List.range n) (i := o / K.k) (x := o / K.k) (by rw [List.getElem?_range h1]) (List.getElem?_eq_getElem hl)
  rw [show o / K.k * K.k + o % K.k = o by rw [Nat.mul_comm]; exact Nat.div_add_mod o K.k] at this
  rw [mkV, this]
  exact (List.getElem?_eq_getElem hl).symm
theorem ML.ho {K : Kd} (hK : K.Ok) {w : World} {v : Value} {m : Int} {n0 n : Nat} (h : ML K w v m n0 n) : Ho K w v (mkV K m n0 n) := by
  refine ⟨n, mkV_len hK m n0 n, ?_⟩
  rcases h with h | ⟨g, c, cs, hv, hg, hs, hn, hm⟩
  · exact .inl h
  · refine .inr ⟨g, c, cs, hv, hg, hs, hn, ?_⟩
    have hc : n * K.k ≤ cs.size := by rw [hs]; exact Nat.mul_le_mul_right _ hn
    apply List.ext_getElem?
    intro o
    rw [List.getElem?_take]
    by_cases ho : o < n * K.k
    · rw [if_pos ho, mkV_get hK m n0 n o ho, ← hm o ho]; simp
    · rw [if_neg ho, List.getElem?_eq_none (by rw [mkV_len hK]; omega)]
theorem ML.hoV {K : Kd} (hK : K.Ok) {w : World} {v : Value} {V : List Value} {m : Int} {n0 n : Nat} (h : ML K w v m n0 n) (k : Ho K w v V) : V = mkV K m n0 n := by
  have h2 := h.ho hK
  obtain ⟨n1, l1, k⟩ := k
  obtain ⟨n2, l2, h2⟩ := h2
  rcases k with ⟨e1, rfl⟩ | ⟨g, c, cs, e1, hg, _, _, t1⟩
  · rcases h2 with ⟨e2, rfl⟩ | ⟨g', c', cs', e2, _⟩
    · rw [Nat.zero_mul] at l1 l2
      rw [List.eq_nil_of_length_eq_zero l1, List.eq_nil_of_length_eq_zero l2]
    · rw [e1] at e2; cases e2
  · rcases h2 with ⟨e2, rfl⟩ | ⟨g', c', cs', e2, hg', _, _, t2⟩
    · rw [e1] at e2; cases e2
    · rw [e1] at e2
      simp only [Value.slice.injEq, Option.some.injEq, Addr.mk.injEq] at e2
      obtain ⟨⟨rfl, _⟩, rfl, _⟩ := e2
      rw [hg] at hg'
      simp only [Option.some.injEq, Obj.cells.injEq] at hg'
      rw [← t1, ← t2, hg'.1]
theorem St.ho {φ : Nat → Nat → Option Value} {K : Kd} (hK : K.Ok) {w w' : World} {v : Value} {V : List Value} {m : Int} {n0 : Nat} {ob : Option Nat} (k : St φ w w') (h : Ho K w v V) (hin : ∀ b, v.ownBlock = some b → ob = some b → ∃ n, ML K w v m n0 n) (h1 : ∀ b, ob = some b → ∀ o, φ b o = cfi K m n0 o) (h2 : ∀ b, v.ownBlock = some b → ¬ ob = some b → ∀ o u, ¬ φ b o = some u) : Ho K w' v V := by
  by_cases hb : ∃ b, v.ownBlock = some b ∧ ob = some b
  · obtain ⟨b, hb1, hb2⟩ := hb
    obtain ⟨n, hm⟩ := hin b hb1 hb2
    have := hm.st k (fun b' hb' o u hu => by
      rw [hb1] at hb'
      obtain rfl := Option.some.inj hb'
      rw [h1 b hb2] at hu; exact hu)
    rw [hm.hoV hK h]; exact this.ho hK
  · exact h.chg k.chg (fun b hb1 ⟨o, u, hu⟩ => h2 b hb1 (fun e => hb ⟨b, hb1, e⟩) o u hu)
def insM (m : Int) (n0 n : Nat) : List Ins := (List.range n).map fun i => mI (decide (n0 ≤ i)) (m + (i : Int))
def fnM (m : Int) (n0 n : Nat) : List Fn := (List.range n).map fun i => mF (decide (n0 ≤ i)) (m + (i : Int))
def tdM (m : Int) (n0 n : Nat) : List Td := (List.range n).map fun i => mD (decide (n0 ≤ i)) (m + (i : Int))
theorem rowI_M (m : Int) (n0 n : Nat) : rowI (insM m n0 n) = mkV kI m n0 n := by unfold rowI insM mkV; rw [List.flatMap_map]; rfl
theorem rowF_M (m : Int) (n0 n : Nat) : rowF (fnM m n0 n) = mkV kF m n0 n := by unfold rowF fnM mkV; rw [List.flatMap_map]; rfl
theorem rowD_M (m : Int) (n0 n : Nat) : rowD (tdM m n0 n) = mkV kD m n0 n := by unfold rowD tdM mkV; rw [List.flatMap_map]; rfl
theorem ML.hoI {w : World} {x : Iv} {m : Int} {n1 n2 n3 l1 l2 l3 : Nat} (h1 : ML kI w x.t m n1 l1) (h2 : ML kF w x.f m n2 l2) (h3 : ML kD w x.d m n3 l3) : HoI w x ⟨insM m n1 l1, fnM m n2 l2, tdM m n3 l3, x.e⟩ :=
  ⟨by rw [rowI_M]; exact h1.ho kI_ok, by rw [rowF_M]; exact h2.ho kF_ok, by rw [rowD_M]; exact h3.ho kD_ok, rfl⟩
theorem szM {m e : Int} {n1 n2 n3 l1 l2 l3 : Nat} (h1 : l1 ≤ 1000000000) (h2 : l2 ≤ 1000000000) (h3 : l3 ≤ 1000000000) : SzI ⟨insM m n1 l1, fnM m n2 l2, tdM m n3 l3, e⟩ := by
  refine ⟨?_, ?_, ?_⟩
  · simpa [insM] using h1
  · simpa [fnM] using h2
  · simpa [tdM] using h3
def K5 (w : World) (b : Nat) : Prop := ∃ cs t fr, w.heap[b]? = some (.cells cs t fr) ∧ (t = 31 ∨ t = 26 ∨ t = 67 ∨ t = 69 ∨ t = 72)
def SQ (w : World) (B b : Nat) : Prop := B ≤ b ∧ K5 w b
theorem SQ.step {S : Nat → Prop} {w w1 w2 : World} {B : Nat} (h : Chg (SQ w B) w w1) (c : Chg S w1 w2) (hS : ∀ b, S b → b < w1.heap.size → SQ w1 B b) : Chg (SQ w B) w w2 :=
  h.trans c (fun x hx hlt => by
    by_cases hq : SQ w B x
    · exact hq
    · have he := h.block x hlt hq
      obtain ⟨hB, cs, t, fr, hk, ht⟩ := hS x hx (Nat.lt_of_lt_of_le hlt h.size)
      rw [he] at hk
      exact ⟨hB, cs, t, fr, hk, ht⟩)
theorem K5.t {w : World} {b : Nat} (h : ∃ cs, w.heap[b]? = some (.cells cs kI.e (0, 0))) : K5 w b := by obtain ⟨cs, h⟩ := h; exact ⟨cs, _, _, h, .inr (.inr (.inl rfl))⟩
theorem K5.f {w : World} {b : Nat} (h : ∃ cs, w.heap[b]? = some (.cells cs kF.e (0, 0))) : K5 w b := by obtain ⟨cs, h⟩ := h; exact ⟨cs, _, _, h, .inr (.inr (.inr (.inl rfl)))⟩
theorem K5.d {w : World} {b : Nat} (h : ∃ cs, w.heap[b]? = some (.cells cs kD.e (0, 0))) : K5 w b := by obtain ⟨cs, h⟩ := h; exact ⟨cs, _, _, h, .inr (.inr (.inr (.inr rfl)))⟩
def LsB (w : World) (b : Nat) : Prop := (∃ cs, w.heap[b]? = some (.cells cs kI.e (0, 0))) ∨ (∃ cs, w.heap[b]? = some (.cells cs kF.e (0, 0))) ∨ ∃ cs, w.heap[b]? = some (.cells cs kD.e (0, 0))
theorem LsB.k5 {w : World} {b : Nat} (h : LsB w b) : K5 w b := by
  rcases h with h | h | h
  · exact K5.t h
  · exact K5.f h
  · exact K5.d h
theorem HoI.ls {w : World} {x : Iv} {M : Img} (h : HoI w x M) (b : Nat) (hb : x.blk b) : LsB w b := by
  rcases hb with hb | hb | hb
  · exact .inl (h.t.blk b hb).2
  · exact .inr (.inl (h.f.blk b hb).2)
  · exact .inr (.inr (h.d.blk b hb).2)
section
variable {w wr wx : World} {B p : Nat} {ct tt : Int} {r : Nat → Value} {L : Nat → List Iv}
theorem ShI.k5 (h : ShI w B p ct tt r L) (b : Nat) (hb : b = p ∨ ∃ j, j < 4 ∧ (r j).ownBlock = some b) : SQ w B b := by
  rcases hb with rfl | ⟨j, hj, hb⟩
  · exact ⟨h.bp, _, _, _, h.st, .inl rfl⟩
  · obtain ⟨h1, cs, fr, h2⟩ := own_cells (h.row j hj) hb
    exact ⟨h1, cs, _, fr, h2, .inr (.inl rfl)⟩
theorem ShI.lists {S : Nat → Prop} (h : ShI w B p ct tt r L) (c : Chg S w wx) (hS : ∀ b, S b → b < w.heap.size → LsB w b) : ShI wx B p ct tt r L := by
  refine ⟨(c.block p h.lt (fun hs => ?_)).trans h.st, h.bp, fun j hj => owns_chg (h.row j hj) (fun b hb hs => ?_) c, h.sep⟩
  · rcases hS p hs h.lt with ⟨cs, h1⟩ | ⟨cs, h1⟩ | ⟨cs, h1⟩ <;> (rw [h.st] at h1; simp at h1; exact absurd h1.2 (by decide))
  · rcases hS b hs ((h.row j hj).lt b hb).2 with ⟨cs, h1⟩ | ⟨cs, h1⟩ | ⟨cs, h1⟩ <;> exact own_kind (h.row j hj) h1 (by decide) hb
end
def mj (ct : Int) (j : Nat) : Int := 1000003 * (ct + (j : Int))
structure FdI (B : Nat) (F : List Iv) : Prop where
  fb : ∀ (j : Nat) z, F[j]? = some z → ∀ b, z.blk b → B ≤ b
  fd : ∀ (i j : Nat) x y, F[i]? = some x → F[j]? = some y → ∀ b, x.blk b → y.blk b → i = j
def FM (w : World) (ct : Int) (F : List Iv) (n1 n2 n3 k1 k2 k3 : Nat → Nat) : Prop := ∀ (j : Nat) z, F[j]? = some z → MP kI w z.t (mj ct j) (n1 j) (n1 j) (k1 j) ∧ MP kF w z.f (mj ct j) (n2 j) (n2 j) (k2 j) ∧ MP kD w z.d (mj ct j) (n3 j) (n3 j) (k3 j)
theorem FM.ls {w : World} {ct : Int} {F : List Iv} {n1 n2 n3 k1 k2 k3 : Nat → Nat} (h : FM w ct F n1 n2 n3 k1 k2 k3) {j : Nat} {z : Iv} (hz : F[j]? = some z) (b : Nat) (hb : z.blk b) : LsB w b := by
  obtain ⟨h1, h2, h3⟩ := h j z hz
  rcases hb with hb | hb | hb
  · exact .inl (h1.blk b hb).2
  · exact .inr (.inl (h2.blk b hb).2)
  · exact .inr (.inr (h3.blk b hb).2)
theorem FM.lt {w : World} {ct : Int} {F : List Iv} {n1 n2 n3 k1 k2 k3 : Nat → Nat} (h : FM w ct F n1 n2 n3 k1 k2 k3) {j : Nat} {z : Iv} (hz : F[j]? = some z) (b : Nat) (hb : z.blk b) : b < w.heap.size := by
  obtain ⟨h1, h2, h3⟩ := h j z hz
  rcases hb with hb | hb | hb
  · exact (h1.blk b hb).1
  · exact (h2.blk b hb).1
  · exact (h3.blk b hb).1
theorem FM.chg {S : Nat → Prop} {w w' : World} {ct : Int} {F : List Iv} {n1 n2 n3 k1 k2 k3 : Nat → Nat} (h : FM w ct F n1 n2 n3 k1 k2 k3) (c : Chg S w w') (hs : ∀ b, S b → ¬ LsB w b) : FM w' ct F n1 n2 n3 k1 k2 k3 := fun j z hz => by
  have hn : ∀ b, z.blk b → ¬ S b := fun b hb e => hs b e (h.ls hz b hb)
  obtain ⟨h1, h2, h3⟩ := h j z hz
  exact ⟨h1.chg c (fun b hb => hn b (.inl hb)), h2.chg c (fun b hb => hn b (.inr (.inl hb))), h3.chg c (fun b hb => hn b (.inr (.inr hb)))⟩
structure WrI (w : World) (B p : Nat) (ct tt : Int) (F : List Iv) (n1 n2 n3 : Nat → Nat) (wr : World) (r : Nat → Value) (L : Nat → List Iv) (lo : Nat) : Prop where
  sh : ShI wr B p ct tt r L
  l0 : L 0 = F
  kl : (L 3).length = (L 2).length
  pr : PrI wr (L 2) (L 3)
  c1 : ∀ (l : Nat) x, (L 2)[l]? = some x → ∀ (j : Nat) z, F[j]? = some z → ∀ b, x.t.ownBlock = some b → z.t.ownBlock = some b → j < lo ∧ ∃ n, ML kI wr x.t (mj ct j) (n1 j) n
  c2 : ∀ (l : Nat) x, (L 2)[l]? = some x → ∀ (j : Nat) z, F[j]? = some z → ∀ b, x.f.ownBlock = some b → z.f.ownBlock = some b → j < lo ∧ ∃ n, ML kF wr x.f (mj ct j) (n2 j) n
  c3 : ∀ (l : Nat) x, (L 2)[l]? = some x → ∀ (j : Nat) z, F[j]? = some z → ∀ b, x.d.ownBlock = some b → z.d.ownBlock = some b → j < lo ∧ ∃ n, ML kD wr x.d (mj ct j) (n3 j) n
  wn : ∀ (l : Nat) y, (L 3)[l]? = some y → ∀ (j : Nat) z, F[j]? = some z → ∀ b, y.blk b → ¬ z.blk b
  chg : Chg (SQ w B) w wr
section
variable {w wr wx : World} {B p : Nat} {ct tt : Int} {F : List Iv} {n1 n2 n3 k1 k2 k3 : Nat → Nat} {r : Nat → Value} {L : Nat → List Iv} {lo : Nat}
theorem WrI.pair (h : WrI w B p ct tt F n1 n2 n3 wr r L lo) {l : Nat} {x : Iv} (hx : (L 2)[l]? = some x) : ∃ y M, (L 3)[l]? = some y ∧ HoI wr x M ∧ HoI wr y M ∧ SzI M := by
  have hl := (List.getElem?_eq_some_iff.1 hx).1
  obtain ⟨y, hy⟩ : ∃ y, (L 3)[l]? = some y := ⟨_, List.getElem?_eq_getElem (by rw [h.kl]; exact hl)⟩
  obtain ⟨M, h1, h2, h3⟩ := h.pr l x y hx hy
  exact ⟨y, M, hy, h1, h2, h3⟩
theorem blk_same {x z : Iv} {M : Img} {j : Nat} (hx : HoI wr x M) (hF : FM wr ct F n1 n2 n3 k1 k2 k3) (hz : F[j]? = some z) (b : Nat) :
    (x.t.ownBlock = some b → ¬ z.f.ownBlock = some b ∧ ¬ z.d.ownBlock = some b) ∧ (x.f.ownBlock = some b → ¬ z.t.ownBlock = some b ∧ ¬ z.d.ownBlock = some b) ∧ (x.d.ownBlock = some b → ¬ z.t.ownBlock = some b ∧ ¬ z.f.ownBlock = some b) := by
  obtain ⟨q1, q2, q3⟩ := hF j z hz
  have ne : ∀ {e e' : TypeId} {cs cs' : Array Value}, wr.heap[b]? = some (.cells cs e (0, 0)) → wr.heap[b]? = some (.cells cs' e' (0, 0)) → e = e' := fun h1 h2 => by rw [h1] at h2; simp at h2; exact h2.2
  refine ⟨fun h => ⟨fun e => ?_, fun e => ?_⟩, fun h => ⟨fun e => ?_, fun e => ?_⟩, fun h => ⟨fun e => ?_, fun e => ?_⟩⟩
  · obtain ⟨_, _, u⟩ := hx.t.blk b h; obtain ⟨_, _, v⟩ := q2.blk b e; exact absurd (ne u v) (by decide)
  · obtain ⟨_, _, u⟩ := hx.t.blk b h; obtain ⟨_, _, v⟩ := q3.blk b e; exact absurd (ne u v) (by decide)
  · obtain ⟨_, _, u⟩ := hx.f.blk b h; obtain ⟨_, _, v⟩ := q1.blk b e; exact absurd (ne u v) (by decide)
  · obtain ⟨_, _, u⟩ := hx.f.blk b h; obtain ⟨_, _, v⟩ := q3.blk b e; exact absurd (ne u v) (by decide)
  · obtain ⟨_, _, u⟩ := hx.d.blk b h; obtain ⟨_, _, v⟩ := q1.blk b e; exact absurd (ne u v) (by decide)
  · obtain ⟨_, _, u⟩ := hx.d.blk b h; obtain ⟨_, _, v⟩ := q2.blk b e; exact absurd (ne u v) (by decide)
theorem WrI.turn (h : WrI w B p ct tt F n1 n2 n3 wr r L lo) (hF : FM wr ct F n1 n2 n3 k1 k2 k3) (hD : FdI B F) {i : Nat} {z : Iv} (hz : F[i]? = some z) (hlo : lo ≤ i) (c : Chg (fun b => z.blk b) wr wx) : WrI w B p ct tt F n1 n2 n3 wx r L lo := by
  have apart : ∀ (l : Nat) x, (L 2)[l]? = some x → ∀ b, x.blk b → ¬ z.blk b := fun l x hx b hb hzb => by
    obtain ⟨y, M, hy, h1, h2, h3⟩ := h.pair hx
    obtain ⟨s1, s2, s3⟩ := blk_same h1 hF hz b
    rcases hb with hb | hb | hb <;> rcases hzb with e | e | e
    · have := (h.c1 l x hx i z hz b hb e).1; omega
    · exact (s1 hb).1 e
    · exact (s1 hb).2 e
    · exact (s2 hb).1 e
    · have := (h.c2 l x hx i z hz b hb e).1; omega
    · exact (s2 hb).2 e
    · exact (s3 hb).1 e
    · exact (s3 hb).2 e
    · have := (h.c3 l x hx i z hz b hb e).1; omega
  refine ⟨h.sh.lists c (fun b hb _ => hF.ls hz b hb), h.l0, h.kl, h.pr.chg c (fun l x b hx hb => ?_), ?_, ?_, ?_, h.wn, SQ.step h.chg c (fun b hb _ => ⟨hD.fb i z hz b hb, (hF.ls hz b hb).k5⟩)⟩
  · rcases hx with hx | hx
    · exact apart l x hx b hb
    · exact h.wn l x hx i z hz b hb
  · intro l x hx j y hy b h1 h2
    obtain ⟨e1, n, e2⟩ := h.c1 l x hx j y hy b h1 h2
    exact ⟨e1, n, e2.chg c (fun b' hb' => apart l x hx b' (.inl hb'))⟩
  · intro l x hx j y hy b h1 h2
    obtain ⟨e1, n, e2⟩ := h.c2 l x hx j y hy b h1 h2
    exact ⟨e1, n, e2.chg c (fun b' hb' => apart l x hx b' (.inr (.inl hb')))⟩
  · intro l x hx j y hy b h1 h2
    obtain ⟨e1, n, e2⟩ := h.c3 l x hx j y hy b h1 h2
    exact ⟨e1, n, e2.chg c (fun b' hb' => apart l x hx b' (.inr (.inr hb')))⟩
theorem WrI.grow (h : WrI w B p ct tt F n1 n2 n3 wr r L lo) (hF : FM wr ct F n1 n2 n3 k1 k2 k3) (hD : FdI B F) {i : Nat} {z : Iv} (hz : F[i]? = some z) (hA : Ap3 z.t.ownBlock z.f.ownBlock z.d.ownBlock) (k : St (ph3 z.t.ownBlock z.f.ownBlock z.d.ownBlock (mj ct i) (n1 i) (n2 i) (n3 i)) wr wx) : WrI w B p ct tt F n1 n2 n3 wx r L lo := by
  have dom : ∀ b o u, ph3 z.t.ownBlock z.f.ownBlock z.d.ownBlock (mj ct i) (n1 i) (n2 i) (n3 i) b o = some u → z.blk b := fun b o u hu => ph3_no hu
  refine ⟨h.sh.lists k.chg (fun b ⟨o, u, hu⟩ _ => hF.ls hz b (dom b o u hu)), h.l0, h.kl, fun l x y hx hy => ?_, ?_, ?_, ?_, h.wn, SQ.step h.chg k.chg (fun b ⟨o, u, hu⟩ _ => ⟨hD.fb i z hz b (dom b o u hu), (hF.ls hz b (dom b o u hu)).k5⟩)⟩
  · obtain ⟨M, m1, m2, m3⟩ := h.pr l x y hx hy
    have s := fun b => blk_same m1 hF hz b
    refine ⟨M, ⟨?_, ?_, ?_, m1.e⟩, m2.chg k.chg (fun b hb ⟨o, u, hu⟩ => h.wn l y hy i z hz b hb (dom b o u hu)), m3⟩
    · exact k.ho kI_ok m1.t (m := mj ct i) (n0 := n1 i) (ob := z.t.ownBlock) (fun b e1 e2 => (h.c1 l x hx i z hz b e1 e2).2) (fun b e o => ph3_1 o e) (fun b e1 e2 o u hu => by
        rcases ph3_no hu with q | q | q
        · exact e2 q
        · exact ((s b).1 e1).1 q
        · exact ((s b).1 e1).2 q)
    · exact k.ho kF_ok m1.f (m := mj ct i) (n0 := n2 i) (ob := z.f.ownBlock) (fun b e1 e2 => (h.c2 l x hx i z hz b e1 e2).2) (fun b e o => ph3_2 hA o e) (fun b e1 e2 o u hu => by
        rcases ph3_no hu with q | q | q
        · exact ((s b).2.1 e1).1 q
        · exact e2 q
        · exact ((s b).2.1 e1).2 q)
    · exact k.ho kD_ok m1.d (m := mj ct i) (n0 := n3 i) (ob := z.d.ownBlock) (fun b e1 e2 => (h.c3 l x hx i z hz b e1 e2).2) (fun b e o => ph3_3 hA o e) (fun b e1 e2 o u hu => by
        rcases ph3_no hu with q | q | q
        · exact ((s b).2.2 e1).1 q
        · exact ((s b).2.2 e1).2 q
        · exact e2 q)
  · intro l x hx j y hy b h1 h2
    obtain ⟨e1, n, e2⟩ := h.c1 l x hx j y hy b h1 h2
    obtain ⟨_, M, _, m1, _⟩ := h.pair hx
    refine ⟨e1, n, e2.st k (fun b' hb' o u hu => ?_)⟩
    have s := (blk_same m1 hF hz b').1
    rcases ph3_no hu with q | q | q
    · have hij : i = j := hD.fd i j z y hz hy b' (.inl q) (by rw [h1] at hb'; obtain rfl := Option.some.inj hb'; exact .inl h2)
      subst hij
      rw [ph3_1 o q] at hu; exact hu
    · exact absurd q (s hb').1
    · exact absurd q (s hb').2
  · intro l x hx j y hy b h1 h2
    obtain ⟨e1, n, e2⟩ := h.c2 l x hx j y hy b h1 h2
    obtain ⟨_, M, _, m1, _⟩ := h.pair hx
    refine ⟨e1, n, e2.st k (fun b' hb' o u hu => ?_)⟩
    have s := (blk_same m1 hF hz b').2.1
    rcases ph3_no hu with q | q | q
    · exact absurd q (s hb').1
    · have hij : i = j := hD.fd i j z y hz hy b' (.inr (.inl q)) (by rw [h1] at hb'; obtain rfl := Option.some.inj hb'; exact .inr (.inl h2))
      subst hij
      rw [ph3_2 hA o q] at hu; exact hu
    · exact absurd q (s hb').2
  · intro l x hx j y hy b h1 h2
    obtain ⟨e1, n, e2⟩ := h.c3 l x hx j y hy b h1 h2
    obtain ⟨_, M, _, m1, _⟩ := h.pair hx
    refine ⟨e1, n, e2.st k (fun b' hb' o u hu => ?_)⟩
    have s := (blk_same m1 hF hz b').2.2
    rcases ph3_no hu with q | q | q
    · exact absurd q (s hb').1
    · exact absurd q (s hb').2
    · have hij : i = j := hD.fd i j z y hz hy b' (.inr (.inr q)) (by rw [h1] at hb'; obtain rfl := Option.some.inj hb'; exact .inr (.inr h2))
      subst hij
      rw [ph3_3 hA o q] at hu; exact hu
theorem WrI.keep {w' : World} {M : Img} {x : Iv} (h : WrI w B p ct tt F n1 n2 n3 wr r L lo) (hF : FM wr ct F n1 n2 n3 k1 k2 k3) {lo' : Nat} (hlo : lo ≤ lo') (hs : SzI M)
    (g1 : ∀ (j : Nat) z, F[j]? = some z → ∀ b, x.t.ownBlock = some b → z.t.ownBlock = some b → j < lo' ∧ ∃ n, ML kI wr x.t (mj ct j) (n1 j) n)
    (g2 : ∀ (j : Nat) z, F[j]? = some z → ∀ b, x.f.ownBlock = some b → z.f.ownBlock = some b → j < lo' ∧ ∃ n, ML kF wr x.f (mj ct j) (n2 j) n)
    (g3 : ∀ (j : Nat) z, F[j]? = some z → ∀ b, x.d.ownBlock = some b → z.d.ownBlock = some b → j < lo' ∧ ∃ n, ML kD wr x.d (mj ct j) (n3 j) n)
    (hx : HoI wr x M) (hk : KpE wr B p ct tt r L x M w') : ∃ r' L', WrI w B p ct tt F n1 n2 n3 w' r' L' lo' ∧ (L' 2).length = (L 2).length + 1 ∧ FM w' ct F n1 n2 n3 k1 k2 k3 ∧ r' 0 = r 0 ∧ (∀ K v m n0 n, ML K wr v m n0 n → (K = kI ∨ K = kF ∨ K = kD) → ML K w' v m n0 n) ∧ wr.heap.size ≤ w'.heap.size := by
  obtain ⟨v2, v3, y, s1, s2, s3, s4, s5, s6, s7⟩ := hk
  have nl : ∀ b, SOI p r b → ¬ LsB wr b := fun b hb hl => by
    have : b = p ∨ ∃ j, j < 4 ∧ (r j).ownBlock = some b := by
      rcases hb with e | e | e
      · exact .inl e
      · exact .inr ⟨2, by omega, e⟩
      · exact .inr ⟨3, by omega, e⟩
    rcases this with rfl | ⟨j, hj, e⟩
    · rcases hl with ⟨cs, h1⟩ | ⟨cs, h1⟩ | ⟨cs, h1⟩ <;> (rw [h.sh.st] at h1; simp at h1; exact absurd h1.2 (by decide))
    · rcases hl with ⟨cs, h1⟩ | ⟨cs, h1⟩ | ⟨cs, h1⟩ <;> exact own_kind (h.sh.row j hj) h1 (by decide) e
  have keepM : ∀ K v m n0 n, ML K wr v m n0 n → (K = kI ∨ K = kF ∨ K = kD) → ML K w' v m n0 n := fun K v m n0 n hv hK => hv.chg s5 (fun b hb e => nl b e (by
    obtain ⟨_, cs, q⟩ := hv.blk b hb
    rcases hK with rfl | rfl | rfl
    · exact .inl ⟨cs, q⟩
    · exact .inr (.inl ⟨cs, q⟩)
    · exact .inr (.inr ⟨cs, q⟩)))
  have u2 : (upd (upd L 2 (L 2 ++ [x])) 3 (L 3 ++ [y])) 2 = L 2 ++ [x] := rfl
  have u3 : (upd (upd L 2 (L 2 ++ [x])) 3 (L 3 ++ [y])) 3 = L 3 ++ [y] := rfl
  have last2 : ∀ {l : Nat} {u : Iv}, (L 2 ++ [x])[l]? = some u → (L 2)[l]? = some u ∨ (l = (L 2).length ∧ u = x) := fun {l u} hu => by
    by_cases hl : l < (L 2).length
    · rw [List.getElem?_append_left hl] at hu; exact .inl hu
    · rw [List.getElem?_append_right (by omega)] at hu
      have h0 : l - (L 2).length = 0 := by have := (List.getElem?_eq_some_iff.1 hu).1; simp at this; omega
      rw [h0] at hu; simp at hu; exact .inr ⟨by omega, hu.symm⟩
  have last3 : ∀ {l : Nat} {u : Iv}, (L 3 ++ [y])[l]? = some u → (L 3)[l]? = some u ∨ (l = (L 3).length ∧ u = y) := fun {l u} hu => by
    by_cases hl : l < (L 3).length
    · rw [List.getElem?_append_left hl] at hu; exact .inl hu
    · rw [List.getElem?_append_right (by omega)] at hu
      have h0 : l - (L 3).length = 0 := by have := (List.getElem?_eq_some_iff.1 hu).1; simp at this; omega
      rw [h0] at hu; simp at hu; exact .inr ⟨by omega, hu.symm⟩
  have keepH : ∀ {u : Iv} {M : Img}, HoI wr u M → HoI w' u M := fun hu => hu.chg s5 (fun b hb e => nl b e (hu.ls b hb))
  refine ⟨_, _, ⟨s1, h.l0, by rw [u2, u3]; simp [h.kl], ?_, ?_, ?_, ?_, ?_, SQ.step h.chg s5 (fun b hb _ => h.sh.k5 b (by
    rcases hb with e | e | e
    · exact .inl e
    · exact .inr ⟨2, by omega, e⟩
    · exact .inr ⟨3, by omega, e⟩))⟩, by rw [u2]; simp, hF.chg s5 (fun b hb => nl b hb), rfl, keepM, s5.size⟩
  · intro l u v hu hv
    rw [u2] at hu
    rw [u3] at hv
    rcases last2 hu with hu | ⟨e, rfl⟩
    · rcases last3 hv with hv | ⟨e', rfl⟩
      · obtain ⟨M', m1, m2, m3⟩ := h.pr l u v hu hv
        exact ⟨M', keepH m1, keepH m2, m3⟩
      · have := (List.getElem?_eq_some_iff.1 hu).1; rw [e', h.kl] at this; omega
    · rcases last3 hv with hv | ⟨e', rfl⟩
      · have := (List.getElem?_eq_some_iff.1 hv).1; rw [e, h.kl] at this; omega
      · exact ⟨M, s2, s3, hs⟩
  · intro l u hu j z hz b h1 h2
    rw [u2] at hu
    rcases last2 hu with hu | ⟨_, rfl⟩
    · obtain ⟨e1, n, e2⟩ := h.c1 l u hu j z hz b h1 h2
      exact ⟨by omega, n, keepM _ _ _ _ _ e2 (.inl rfl)⟩
    · obtain ⟨e1, n, e2⟩ := g1 j z hz b h1 h2
      exact ⟨e1, n, keepM _ _ _ _ _ e2 (.inl rfl)⟩
  · intro l u hu j z hz b h1 h2
    rw [u2] at hu
    rcases last2 hu with hu | ⟨_, rfl⟩
    · obtain ⟨e1, n, e2⟩ := h.c2 l u hu j z hz b h1 h2
      exact ⟨by omega, n, keepM _ _ _ _ _ e2 (.inr (.inl rfl))⟩
    · obtain ⟨e1, n, e2⟩ := g2 j z hz b h1 h2
      exact ⟨e1, n, keepM _ _ _ _ _ e2 (.inr (.inl rfl))⟩
  · intro l u hu j z hz b h1 h2
    rw [u2] at hu
    rcases last2 hu with hu | ⟨_, rfl⟩
    · obtain ⟨e1, n, e2⟩ := h.c3 l u hu j z hz b h1 h2
      exact ⟨by omega, n, keepM _ _ _ _ _ e2 (.inr (.inr rfl))⟩
    · obtain ⟨e1, n, e2⟩ := g3 j z hz b h1 h2
      exact ⟨e1, n, keepM _ _ _ _ _ e2 (.inr (.inr rfl))⟩
  · intro l u hu j z hz b h1 h2
    rw [u3] at hu
    rcases last3 hu with hu | ⟨_, rfl⟩
    · exact h.wn l u hu j z hz b h1 h2
    · have := s4 b h1
      have := hF.lt hz b h2
      omega
end
end Go.Proofs.YthififblejbleaaGreatDoor
