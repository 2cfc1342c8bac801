import Derived.Test.YthdgmhohofakgaaGreatDoorImw
namespace Go.Proofs.YthdgmhohofakgaaGreatDoor
open Go.RowKit
set_option linter.unusedVariables false
set_option linter.unusedSimpArgs false
/-- of block p only the place is another -/
structure Mv (p : Nat) (o : Nat) (w w' : World) : Prop where
  chg : Chg (fun k => k = p) w w'
  blk : ∀ cs t, w.heap[p]? = some (.cells cs t (0, 0)) → w'.heap[p]? = some (.cells (cs.setIfInBounds 1 (.int .i64 (o : Nat))) t (0, 0))
/-- a tape that is taken up -/
structure Tk (w : World) (p g go n c o : Nat) (l : List UInt8) : Prop where
  l_ : l.length = n
  nc : n ≤ c
  bt : BtA w g go l
  blk : ∃ cs t, w.heap[p]? = some (.cells cs t (0, 0)) ∧ cs[0]? = some (.slice (some ⟨g, go, none⟩) n c) ∧ cs[1]? = some (.int .i64 o) ∧ cs[2]? = some (.bool true)
  pg : ¬ p = g
  gl : g < w.heap.size
theorem Tk.pl {w : World} {p g go n c o : Nat} {l : List UInt8} (h : Tk w p g go n c o l) : p < w.heap.size := by
  obtain ⟨cs, t, hb, _⟩ := h.blk; exact (Array.getElem?_eq_some_iff.1 hb).1
theorem BtA.chg {w w' : World} {g go : Nat} {l : List UInt8} {S : Nat → Prop} (h : BtA w g go l) (c : Chg S w w') (hs : ¬ S g) : BtA w' g go l := fun k x hx => c.cell (h k x hx) hs
theorem Tk.chg {w w' : World} {p g go n c o : Nat} {l : List UInt8} {S : Nat → Prop} (h : Tk w p g go n c o l) (k : Chg S w w') (hp : ¬ S p) (hg : ¬ S g) : Tk w' p g go n c o l := by
  obtain ⟨cs, t, hb, r⟩ := h.blk
  exact ⟨h.l_, h.nc, h.bt.chg k hg, ⟨cs, t, (k.block p h.pl hp).trans hb, r⟩, h.pg, Nat.lt_of_lt_of_le h.gl k.size⟩
theorem Tk.out {w w' : World} {p g go n c o : Nat} {l : List UInt8} (h : Tk w p g go n c o l) (k : Out w w') : Tk w' p g go n c o l := h.chg (S := fun _ => False) (Chg.of_out k) (fun h => h) (fun h => h)
theorem Tk.mv {w w' : World} {p g go n c o o' : Nat} {l : List UInt8} (h : Tk w p g go n c o l) (k : Mv p o' w w') : Tk w' p g go n c o' l := by
  obtain ⟨cs, t, hb, h0, h1, h2⟩ := h.blk
  refine ⟨h.l_, h.nc, h.bt.chg k.chg (fun e => h.pg e.symm), ⟨_, t, k.blk cs t hb, ?_, ?_, ?_⟩, h.pg, Nat.lt_of_lt_of_le h.gl k.chg.size⟩
  · rw [Array.getElem?_setIfInBounds_ne (by decide)]; exact h0
  · have hl := (Array.getElem?_eq_some_iff.1 h1).1
    rw [Array.getElem?_setIfInBounds_self_of_lt hl]
  · rw [Array.getElem?_setIfInBounds_ne (by decide)]; exact h2
theorem Mv.trans {p o o' : Nat} {a b c : World} (h : Mv p o a b) (k : Mv p o' b c) : Mv p o' a c :=
  ⟨h.chg.trans k.chg (fun x h _ => h), fun cs t hb => by rw [k.blk _ t (h.blk cs t hb), Array.setIfInBounds_setIfInBounds]⟩
theorem Mv.after {p o : Nat} {a b c : World} (h : Out a b) (hp : p < a.heap.size) (k : Mv p o b c) : Mv p o a c :=
  ⟨(Chg.of_out (S := fun k => k = p) h).trans k.chg (fun x h _ => h), fun cs t hb => k.blk cs t ((h.block p hp).trans hb)⟩
theorem Mv.then {p o : Nat} {a b c : World} (h : Mv p o a b) (hp : p < a.heap.size) (k : Out b c) : Mv p o a c :=
  ⟨h.chg.trans (T := fun _ => False) (Chg.of_out k) (fun _ h _ => h.elim), fun cs t hb => (k.block p (Nat.lt_of_lt_of_le hp h.chg.size)).trans (h.blk cs t hb)⟩
theorem Mv.setF {p o : Nat} {a b : World} (h : Mv p o a b) (hp : p < a.heap.size) {q : Nat} (hq : a.heap.size ≤ q) (k : Nat) (v : Value) : Mv p o a (b.setCell ⟨q, k, none⟩ v) :=
  ⟨h.chg.trans ((Chg.refl (fun k => k = q) b).setCell (p := ⟨q, k, none⟩) rfl v) (fun x hx hlt => by omega), fun cs t hb => by rw [Below.heap_setCell _ _ _ _ (show p ≠ q by omega)]; exact h.blk cs t hb⟩
theorem blk_set {w : World} {q : Nat} {cs : Array Value} {t : TypeId} (h : w.heap[q]? = some (.cells cs t (0, 0))) (k : Nat) (v : Value) : (w.setCell ⟨q, k, none⟩ v).heap[q]? = some (.cells (cs.setIfInBounds k v) t (0, 0)) := by
  exact set_atL h k v
theorem set5 (z a b c d e : Value) : (((((#[z, z, z, z, z] : Array Value).setIfInBounds 0 a).setIfInBounds 1 b).setIfInBounds 2 c).setIfInBounds 3 d).setIfInBounds 4 e = #[a, b, c, d, e] := rfl
theorem step_blk (l : List UInt8) (p o : Nat) (w : World) (y : Nat × Nat) (hy : ¬ y.1 = p) (cs : Array Value) (t : TypeId) (hb : w.heap[p]? = some (.cells cs t (0, 0))) : (stepN l p o w y).heap[p]? = some (.cells (cs.setIfInBounds 1 (.int .i64 ((o + 4 : Nat) : Int))) t (0, 0)) := by
  unfold stepN
  have h1 : (w.setCell ⟨y.1, y.2, none⟩ (.int .i64 (g4 l o : Nat))).heap[p]? = some (.cells cs t (0, 0)) := by rw [Below.heap_setCell _ _ _ _ (show p ≠ y.1 from fun e => hy e.symm)]; exact hb
  rw [set_atL h1]; simp
theorem setN_blk (l : List UInt8) (p : Nat) : ∀ (A : List (Nat × Nat)) (o : Nat) (w : World) (cs : Array Value) (t : TypeId), (∀ y ∈ A, ¬ y.1 = p) → A ≠ [] → w.heap[p]? = some (.cells cs t (0, 0)) → (setN l p o A w).heap[p]? = some (.cells (cs.setIfInBounds 1 (.int .i64 ((o + 4 * A.length : Nat) : Int))) t (0, 0))
  | [], _, _, _, _, _, h, _ => absurd rfl h
  | [y], o, w, cs, t, hA, _, hb => by simp only [setN]; exact step_blk l p o w y (hA y (by simp)) cs t hb
  | y :: z :: r, o, w, cs, t, hA, _, hb => by
    rw [setN, setN_blk l p (z :: r) (o + 4) _ _ t (fun x hx => hA x (by simp [hx])) (by simp) (step_blk l p o w y (hA y (by simp)) cs t hb), Array.setIfInBounds_setIfInBounds]
    simp only [List.length_cons]
    rw [show o + 4 + 4 * (r.length + 1) = o + 4 * (r.length + 1 + 1) by omega]
theorem setN_get (l : List UInt8) (p : Nat) : ∀ (A : List (Nat × Nat)) (o : Nat) (w : World) (i : Nat) (y : Nat × Nat), A.Nodup → (∀ z ∈ A, z ≠ (p, 1)) → (∀ z ∈ A, (w.cell? ⟨z.1, z.2, none⟩).isSome = true) → A[i]? = some y → (setN l p o A w).cell? ⟨y.1, y.2, none⟩ = some (.int .i64 (g4 l (o + 4 * i) : Nat))
  | [], _, _, _, _, _, _, _, h => by simp at h
  | x :: r, o, w, 0, y, hd, hp, hs, h => by
    simp at h; subst h
    rw [setN, setN_keep l p x (hp x (by simp)) r _ _ (fun z hz e => (List.nodup_cons.1 hd).1 (by rw [← e]; exact hz))]
    unfold stepN
    rw [cell_set_ne _ (p, 1) x _ (fun e => hp x (by simp) e.symm), World.cell?_setCell_same' _ _ _ (hs x (by simp))]
    simp
  | x :: r, o, w, i + 1, y, hd, hp, hs, h => by
    have := setN_get l p r (o + 4) (stepN l p o w x) i y (List.nodup_cons.1 hd).2 (fun z hz => hp z (by simp [hz])) (fun z hz => by unfold stepN; exact isSome_set _ _ _ _ (isSome_set _ _ _ _ (hs z (by simp [hz])))) (by simpa using h)
    rw [setN, this, show o + 4 + 4 * i = o + 4 * (i + 1) by omega]
/-- numbers are taken up into boxes of the call's own -/
theorem numR (wb w : World) (p g go n c o q : Nat) (l : List UInt8) (X : List (Nat × Nat)) (h : Tk w p g go n c o l) (ob : Out wb w) (hpb : p < wb.heap.size) (hgb : g < wb.heap.size) (hXn : ∀ y ∈ X, wb.heap.size ≤ y.1) (hd : X.Nodup) (hne : X ≠ []) (hq : ∀ i y, X[i]? = some y → w.cell? ⟨q, i, none⟩ = some (.pointer (some ⟨y.1, y.2, none⟩))) (hqb : wb.heap.size ≤ q)
    (hX : ∀ y ∈ X, (w.cell? ⟨y.1, y.2, none⟩).isSome = true ∧ w.frozen? ⟨y.1, y.2, none⟩ = false ∧ ¬ y.1 = q) (hr : o + 4 * X.length ≤ n) (hn : n ≤ 1000000000000) :
    Calls Tryz.prog 48 #[.pointer (some ⟨p, 0, none⟩), .slice (some ⟨q, 0, none⟩) X.length X.length] w fun e w' => (∃ v, e = .returned v) ∧ Mv p (o + 4 * X.length) wb w' ∧ (∀ i y, X[i]? = some y → w'.cell? ⟨y.1, y.2, none⟩ = some (.int .i64 (g4 l (o + 4 * i) : Nat))) ∧ Chg (fun k => k = p ∨ ∃ y ∈ X, y.1 = k) w w' := by
  obtain ⟨cs, t, hb, h0, h1, h2⟩ := h.blk
  refine (numbersR_any w p g go n c o q l X h.l_ h.bt h.nc (by rw [cell_atL hb]; exact h0) (by rw [cell_atL hb]; exact h1) (by rw [cell_atL hb]; exact h2) (frozen_atL hb 1) hq (fun y hy => ⟨(hX y hy).1, (hX y hy).2.1, fun e => by have := hXn y hy; omega, (hX y hy).2.2, fun e => by have := hXn y hy; omega⟩) h.pg (by omega) hr (by omega)).mono ?_
  rintro e w' ⟨hv, he⟩
  have hc := setN_chg l p X o w
  refine ⟨hv, ⟨?_, ?_⟩, ?_, he.chg hc⟩
  · refine he.chg ((Chg.of_out (S := fun k => k = p) ob).trans hc (fun x hx hlt => ?_))
    rcases hx with e | ⟨y, hy, e⟩
    · exact e
    · have := hXn y hy; omega
  · intro cs' t' hb'
    have hb2 := (ob.block p hpb).trans hb'
    have := setN_blk l p X o w cs' t' (fun y hy e => by have := hXn y hy; omega) hne hb2
    rw [he.heap]; exact this
  · intro i y hy
    rw [he.cell]
    exact setN_get l p X o w i y hd (fun z hz e => by have := hXn z hz; rw [e] at this; simp at this; omega) (fun z hz => (hX z hz).1) hy
theorem bits_and_i64 (a b : Nat) (ha : a < 18446744073709551616) (hb : b < 18446744073709551616) : bits BinOp.and IntKind.i64 (wrap64 (a : Int)) (wrap64 (b : Int)) = wrap64 ((a &&& b : Nat) : Int) := by
  have key : ∀ n : Nat, n < 18446744073709551616 → (BitVec.ofInt 64 (wrap64 (n : Int))).toNat = n := by
    intro n hn
    rw [BitVec.toNat_ofInt]
    have : wrap64 (n : Int) % (2 ^ 64 : Nat) = n := by
      unfold wrap64
      first | omega | (rw [IntKind.wrap_i64]; omega) | (simp; omega)
    rw [this]; rfl
  show IntKind.i64.wrap ((BitVec.ofInt 64 (wrap64 (a : Int)) &&& BitVec.ofInt 64 (wrap64 (b : Int))).toNat : Int) = _
  rw [BitVec.toNat_and, key a ha, key b hb]
  first | rfl | (unfold wrap64; rw [IntKind.wrap_i64])
theorem and_255 (v : Nat) (h : v < 4294967296) : bits BinOp.and IntKind.i64 (v : Int) 255 = (v : Int) % 256 := by
  have h1 := bits_and_i64 v 255 (by omega) (by omega)
  rw [show wrap64 (v : Int) = v by unfold wrap64; omega, show wrap64 ((255 : Nat) : Int) = 255 by unfold wrap64; omega, show v &&& 255 = v % 256 from Nat.and_two_pow_sub_one_eq_mod v 8] at h1
  rw [h1]; unfold wrap64; omega
theorem and_15 (v : Nat) (h : v < 4294967296) : bits BinOp.and IntKind.i64 (v : Int) 15 = (v : Int) % 16 := by
  have h1 := bits_and_i64 v 15 (by omega) (by omega)
  rw [show wrap64 (v : Int) = v by unfold wrap64; omega, show wrap64 ((15 : Nat) : Int) = 15 by unfold wrap64; omega, show v &&& 15 = v % 16 from Nat.and_two_pow_sub_one_eq_mod v 4] at h1
  rw [h1]; unfold wrap64; omega
theorem wrap_i16 (v : Int) (h0 : 0 ≤ v) (h1 : v < 65536) : IntKind.i16.wrap v = sxP 32768 v := by
  have : IntKind.i16.wrap v = (v + 32768) % 65536 - 32768 := by simp [IntKind.wrap, IntKind.bits, IntKind.signed]; split <;> omega
  rw [this]; unfold sxP; split <;> omega
theorem wrap_i32 (v : Int) (h0 : 0 ≤ v) (h1 : v < 4294967296) : IntKind.i32.wrap v = sxP 2147483648 v := by
  have : IntKind.i32.wrap v = (v + 2147483648) % 4294967296 - 2147483648 := by simp [IntKind.wrap, IntKind.bits, IntKind.signed]; split <;> omega
  rw [this]; unfold sxP; split <;> omega
theorem g4_lt17 (l : List UInt8) (p : Nat) : g4 l p < 4294967296 := by
  have h : ∀ p, g1 l p < 256 := fun p => by unfold g1; exact UInt8.toNat_lt _
  have := h p; have := h (p + 1); have := h (p + 2); have := h (p + 3); unfold g4; omega
def insAg (x : Ins) : Value := .agg #[.int .i64 x.o, .int .i64 x.d, .int .i64 x.s, .int .i64 x.f, .int .i64 x.i]
set_option maxRecDepth 8000 in
set_option maxHeartbeats 2000000 in
theorem takeSlot_any (w : World) (p g go n c o : Nat) (l : List UInt8) (h : Tk w p g go n c o l) (hr : o + 8 ≤ n) (hn : n ≤ 1000000000000) : Calls Tryz.prog 77 #[.pointer (some ⟨p, 0, none⟩)] w fun e w' => e = .returned (insAg (insR l o)) ∧ Mv p (o + 8) w w' := by
  have hpl := h.pl
  have hgl := h.gl
  obtain ⟨w3, hw3⟩ : ∃ w3, Hid (w3 = ((w.alloc (.cells #[.int .i64 0, .int .i64 0, .int .i64 0, .int .i64 0, .int .i64 0] 83)).alloc (.cells #[.int .i64 0] 3)).alloc (.cells #[.int .i64 0] 3)) := ⟨_, rfl⟩
  have O3 : Hid (Out w w3) := hidOf (by rw [hw3.out]; exact Out.alloc (Out.alloc (Out.alloc (Out.refl _) _) _) _)
  have hs3 : w3.heap.size = w.heap.size + 3 := by rw [hw3.out, size_alloc, size_alloc, size_alloc]
  have R3 : Hid (w3.heap[w.heap.size]? = some (.cells #[.int .i64 0, .int .i64 0, .int .i64 0, .int .i64 0, .int .i64 0] 83 (0, 0))) := hidOf (by
    rw [hw3.out, Below.heap_alloc _ _ _ (by rw [size_alloc, size_alloc]; omega), Below.heap_alloc _ _ _ (by rw [size_alloc]; omega)]; exact heap_alloc_new w _)
  have A3 : Hid (w3.heap[w.heap.size + 1]? = some (.cells #[.int .i64 0] 3 (0, 0))) := hidOf (by
    rw [hw3.out, Below.heap_alloc _ _ _ (by rw [size_alloc, size_alloc]; omega)]
    have := heap_alloc_new (w.alloc (.cells #[.int .i64 0, .int .i64 0, .int .i64 0, .int .i64 0, .int .i64 0] 83)) (.cells #[.int .i64 0] 3)
    rw [size_alloc] at this; exact this)
  have B3 : Hid (w3.heap[w.heap.size + 2]? = some (.cells #[.int .i64 0] 3 (0, 0))) := hidOf (by
    rw [hw3.out]
    have := heap_alloc_new ((w.alloc (.cells #[.int .i64 0, .int .i64 0, .int .i64 0, .int .i64 0, .int .i64 0] 83)).alloc (.cells #[.int .i64 0] 3)) (.cells #[.int .i64 0] 3)
    rw [size_alloc, size_alloc] at this; exact this)
  have NU : Hid (∀ t, Calls Tryz.prog 48 #[.pointer (some ⟨p, 0, none⟩), .slice (some ⟨w.heap.size + 3, 0, none⟩) 2 2] (w3.alloc (.cells #[.pointer (some ⟨w.heap.size + 1, 0, none⟩), .pointer (some ⟨w.heap.size + 2, 0, none⟩)] t)) fun e w' => (∃ v, e = .returned v) ∧ Mv p (o + 8) w w' ∧ w'.cell? ⟨w.heap.size + 1, 0, none⟩ = some (.int .i64 (g4 l o : Nat)) ∧ w'.cell? ⟨w.heap.size + 2, 0, none⟩ = some (.int .i64 (g4 l (o + 4) : Nat)) ∧ w'.heap[w.heap.size]? = some (.cells #[.int .i64 0, .int .i64 0, .int .i64 0, .int .i64 0, .int .i64 0] 83 (0, 0))) := hidOf (fun t => by
    have oW : Out w3 (w3.alloc (.cells #[.pointer (some ⟨w.heap.size + 1, 0, none⟩), .pointer (some ⟨w.heap.size + 2, 0, none⟩)] t)) := Out.alloc (Out.refl _) _
    have hA := (oW.block _ (by omega)).trans A3.out
    have hB := (oW.block _ (by omega)).trans B3.out
    have hR := (oW.block _ (by omega)).trans R3.out
    have := numR w _ p g go n c o (w.heap.size + 3) l [(w.heap.size + 1, 0), (w.heap.size + 2, 0)] (h.out (O3.out.trans oW)) (O3.out.trans oW) hpl hgl (fun y hy => by simp at hy; rcases hy with rfl | rfl <;> simp) (by simp) (by simp) (fun i y hy => by
      rcases i with _ | _ | i
      · simp at hy; subst hy; exact cell_fresh w3 _ _ 0 _ hs3.symm
      · simp at hy; subst hy; exact cell_fresh w3 _ _ 1 _ hs3.symm
      · simp at hy) (by omega) (fun y hy => by
      simp at hy
      rcases hy with rfl | rfl
      · exact ⟨by rw [cell_atL hA]; rfl, frozen_atL hA 0, by simp⟩
      · exact ⟨by rw [cell_atL hB]; rfl, frozen_atL hB 0, by simp⟩) (by simpa using hr) hn
    refine this.mono ?_
    rintro e w' ⟨hv, hm, hg, hc⟩
    refine ⟨hv, hm, ?_, ?_, ?_⟩
    · simpa using hg 0 (w.heap.size + 1, 0) rfl
    · simpa using hg 1 (w.heap.size + 2, 0) rfl
    · exact (hc.block _ (Array.getElem?_eq_some_iff.1 hR).1 (by simp; omega)).trans hR)
  obtain ⟨v, hv⟩ : ∃ v, Hid (v = g4 l o) := ⟨_, rfl⟩
  obtain ⟨u, hu⟩ : ∃ u, Hid (u = g4 l (o + 4)) := ⟨_, rfl⟩
  have hvl : v < 4294967296 := by rw [hv.out]; exact g4_lt17 l o
  have hul : u < 4294967296 := by rw [hu.out]; exact g4_lt17 l (o + 4)
  rw [← hv.out, ← hu.out] at NU
  have a1 := and_255 v hvl
  have a2 : bits BinOp.and IntKind.i64 ((v : Int) / 256) 15 = (v : Int) / 256 % 16 := by have := and_15 (v / 256) (by omega); rw [Int.natCast_ediv] at this; exact this
  have a3 : bits BinOp.and IntKind.i64 ((v : Int) / 4096) 15 = (v : Int) / 4096 % 16 := by have := and_15 (v / 4096) (by omega); rw [Int.natCast_ediv] at this; exact this
  have a4 : IntKind.i16.wrap ((v : Int) / 65536) = sxP 32768 ((v : Int) / 65536) := wrap_i16 _ (by omega) (by omega)
  have a5 : IntKind.i32.wrap (u : Int) = sxP 2147483648 (u : Int) := wrap_i32 _ (by omega) (by omega)
  go_enter Tryz.func77, Tryz.ntmps77
  go_upto_region 2 with fail
  rw [← hw3.out]
  rw [show w.heap.size + 1 + 1 = w.heap.size + 2 from rfl]
  go_upto_region 3 with (go_at_call 48; refine (NU.out _).mono ?_; rintro e w4 ⟨⟨rv, rfl⟩, hmv, c1, c2, hR⟩)
  have f0 : ∀ k, w4.frozen? ⟨w.heap.size, k, none⟩ = false := fun k => frozen_atL hR k
  have g0 : w4.cell? ⟨w.heap.size, 0, none⟩ = some (.int .i64 0) := by rw [cell_atL hR]; rfl
  have g1 : w4.cell? ⟨w.heap.size, 1, none⟩ = some (.int .i64 0) := by rw [cell_atL hR]; rfl
  have g2 : w4.cell? ⟨w.heap.size, 2, none⟩ = some (.int .i64 0) := by rw [cell_atL hR]; rfl
  have g3 : w4.cell? ⟨w.heap.size, 3, none⟩ = some (.int .i64 0) := by rw [cell_atL hR]; rfl
  have g4' : w4.cell? ⟨w.heap.size, 4, none⟩ = some (.int .i64 0) := by rw [cell_atL hR]; rfl
  have f1 := f0 0
  have f2 := f0 1
  have f3 := f0 2
  have f4 := f0 3
  have f5 := f0 4
  clear NU h O3 R3 A3 B3 hw3
  go_wp2
  have e4 : wrap64 (sxP 32768 ((v : Int) / 65536)) = sxP 32768 ((v : Int) / 65536) := by unfold wrap64 sxP; split <;> omega
  have e5 : wrap64 (sxP 2147483648 (u : Int)) = sxP 2147483648 (u : Int) := by unfold wrap64 sxP; split <;> omega
  rw [e4, e5]
  refine bodyPost_ret (results_cell_row rfl _ _ w.heap.size 83 _ (0, 0) _ rfl (blk_set (blk_set (blk_set (blk_set (blk_set hR _ _) _ _) _ _) _ _) _ _) Tryz.underlying83 rfl (by kernel_rfl)) rfl ?_
  refine ⟨?_, (((((hmv.setF hpl (Nat.le_refl _) _ _).setF hpl (Nat.le_refl _) _ _).setF hpl (Nat.le_refl _) _ _).setF hpl (Nat.le_refl _) _ _).setF hpl (Nat.le_refl _) _ _)⟩
  rw [set5, hv.out, hu.out]
  simp only [insAg, insR]
  try rfl
end Go.Proofs.YthdgmhohofakgaaGreatDoor
