import Derived.Test.YtcomhlimgocoaaaGreatDoorGf00
import Derived.Laws.AppendOwnNone
namespace Go.Proofs.YtcomhlimgocoaaaGreatDoor
open Go.RowKit
set_option linter.unusedVariables false
set_option linter.unusedSimpArgs false
/-- what stands in a place that was written over -/
def mk6 (l k : Int) : (List UInt8) := [UInt8.ofNat (65 + l % 26).toNat, UInt8.ofNat (97 + (k + 9) % 26).toNat, UInt8.ofNat (97 + (k + 9) / 26 % 26).toNat, UInt8.ofNat (97 + l / 26 % 26).toNat]
def mks (l a : Int) (n : Nat) : List (List UInt8) := (List.range n).map (fun (k : Nat) => mk6 l (a + (k : Int)))
theorem mks_len (l a : Int) (n : Nat) : (mks l a n).length = n := by simp [mks]
theorem mks_succ (l a : Int) (n : Nat) : mks l a (n + 1) = mks l a n ++ [mk6 l (a + n)] := by simp [mks, List.range_succ]
theorem mks_get (l a : Int) {n k : Nat} (h : k < n) : (mks l a n)[k]? = some (mk6 l (a + k)) := by simp [mks, h]
theorem u8_back (x : Int) (h0 : 0 ≤ x) (h1 : x < 256) : ((UInt8.ofNat x.toNat).toNat : Int) = x := by
  rw [UInt8.toNat_ofNat']; omega
def bCells (O : List UInt8) : List Value := O.map (fun b => .int .u8 (b.toNat : Int))
theorem bCells_length (O : List UInt8) : (bCells O).length = O.length := by simp [bCells]
theorem fold_bytes (O : List UInt8) : ∀ r : ByteArray, (O.map (fun b => (b.toNat : Int))).foldl (fun r n => r.push (UInt8.ofNat n.toNat)) r = ⟨r.data ++ O.toArray⟩ := by
  induction O with
  | nil => intro r; simp
  | cons b l ih =>
    intro r
    rw [List.map_cons, List.foldl_cons, ih]
    simp [ByteArray.push]
theorem conv_list (w : World) (a : Addr) (cap : Nat) (O : List UInt8) (h : ∀ j u, (bCells O)[j]? = some u → w.cell? (a.add j) = some u) : (convert 53 9 (.slice (some a) O.length cap)).run Tryz.prog w = .ok (.string ⟨O.toArray⟩) w := by
  rw [run_convert_bytes_string w 53 9 5 (some a) O.length cap Tryz.underlying53 Tryz.underlying5 Tryz.underlying9]
  have h1 := run_loadCells_list (P := Tryz.prog) w a (bCells O) h
  rw [bCells_length] at h1
  rw [run_bytesToString w a O.length cap (O.map (fun b => (b.toNat : Int))) (by rw [show (O.map (fun b => (b.toNat : Int))).map (Value.int .u8) = bCells O from by simp [bCells]]; exact h1), fold_bytes]
  simp
theorem tm26 (x : Int) (h : 0 ≤ x) : x.tmod 26 = x % 26 := Int.tmod_eq_emod_of_nonneg h
theorem td26 (x : Int) (h : 0 ≤ x) : x.tdiv 26 = x / 26 := Int.tdiv_eq_ediv_of_nonneg h
set_option maxRecDepth 20000 in
set_option maxHeartbeats 1000000 in
theorem mark6_any (l k : Int) (h0 : 0 ≤ l) (h1 : l ≤ 1000000000000000) (k0 : -9 ≤ k) (k1 : k ≤ 1000000000000000) (w : World) : Calls Tryz.prog 84 #[.int .i64 l, .int .i64 k] w fun e w' => e = .returned (.string ⟨(mk6 l k).toArray⟩) ∧ Out w w' := by
  obtain ⟨a0, ha0⟩ : ∃ a0, a0 = 65 + l % 26 := ⟨_, rfl⟩
  obtain ⟨a1, ha1⟩ : ∃ a1, a1 = 97 + (k + 9) % 26 := ⟨_, rfl⟩
  obtain ⟨a2, ha2⟩ : ∃ a2, a2 = 97 + (k + 9) / 26 % 26 := ⟨_, rfl⟩
  obtain ⟨a3, ha3⟩ : ∃ a3, a3 = 97 + l / 26 % 26 := ⟨_, rfl⟩
  have hcv := conv_list (w.alloc (.cells #[.int .u8 a0, .int .u8 a1, .int .u8 a2, .int .u8 a3] 5)) ⟨w.heap.size, 0, none⟩ 4 (mk6 l k) (fun j u hu => by
    refine news_new w _ _ _ rfl j u ?_
    have e0 := u8_back a0 (by omega) (by omega)
    have e1 := u8_back a1 (by omega) (by omega)
    have e2 := u8_back a2 (by omega) (by omega)
    have e3 := u8_back a3 (by omega) (by omega)
    rw [← hu]
    simp only [mk6, bCells, List.map_cons, List.map_nil, ← ha0, ← ha1, ← ha2, ← ha3, e0, e1, e2, e3])
  have hcv : (convert 53 9 (.slice (some ⟨w.heap.size, 0, none⟩) 4 4)).run Tryz.prog _ = _ := hcv
  obtain ⟨mv, hmv⟩ : ∃ mv, mv = mk6 l k := ⟨_, rfl⟩
  rw [← hmv] at hcv
  rw [← hmv]
  clear hmv
  subst ha0 ha1 ha2 ha3
  go_enter Tryz.func84, Tryz.ntmps84
  go_wp2
  go_ret
  exact ⟨rfl, Out.alloc (Out.refl _) _⟩
/-- some symbols -/
def ExS (w : World) (v : Value) (n : Nat) : Prop := ∃ M : List (List UInt8), M.length = n ∧ OwT 0 v M w
theorem ExS.out {w w' : World} {v : Value} {n : Nat} (h : ExS w v n) (o : Out w w') : ExS w' v n := by
  obtain ⟨M, h1, h2⟩ := h
  exact ⟨M, h1, h2.out o⟩
theorem ExS.app {w w' : World} {v u u' : Value} {n : Nat} {L zs : List (List UInt8)} (h : ExS w v n) (a : App6 w w' u u' L zs) : ExS w' v n := by
  obtain ⟨M, h1, h2⟩ := h
  obtain ⟨M', h3, h4⟩ := a.ex 0 v M h2
  exact ⟨M', by omega, h4⟩
theorem ExS.form {w : World} {v : Value} {n : Nat} (h : ExS w v n) : ∃ a c, v = .slice a n c := by
  obtain ⟨M, rfl, h⟩ := h
  exact own_form h
theorem own_blkQ {B s n : Nat} {w : World} {e : TypeId} {v : Value} {xs : List Value} (h : w.ownsRow B e s v n xs) {b : Nat} (hb : v.ownBlock = some b) : b < w.heap.size ∧ ∃ cs, w.heap[b]? = some (.cells cs e (0, 0)) := by
  rcases h.2 with ⟨hv, _⟩ | ⟨g, cap, cur, hv, _, hg, _⟩
  · rw [hv] at hb; cases hb
  · rw [hv] at hb; simp [Value.ownBlock] at hb; subst hb; exact ⟨(Array.getElem?_eq_some_iff.1 hg).1, cur, hg⟩
/-- the queue's own blocks and lists of texts lie apart -/
theorem QF.soq {w : World} {p : Nat} {tt : Int} {r : Nat → Value} {L : Nat → List Value} (h : QF w p tt r L) {v : Value} {N : List (List UInt8)} {B : Nat} (hv : OwT B v N w) {b : Nat} (hb : v.ownBlock = some b) : ¬ SOQ p r b := fun hs => by
  obtain ⟨_, cs, hc⟩ := own_blkQ hv hb
  rcases hs with e | e | e
  · have := h.st; rw [← e, hc] at this; simp at this
  · exact own_kind (h.row 2 (by omega)) hc (by decide) e
  · exact own_kind (h.row 3 (by omega)) hc (by decide) e
/-- only lists of texts turn -/
theorem QF.sym {w w' : World} {p : Nat} {tt : Int} {r : Nat → Value} {L : Nat → List Value} (h : QF w p tt r L) {S : Nat → Prop} (c : Chg S w w') (hS : ∀ b, b < w.heap.size → S b → ∃ cs, w.heap[b]? = some (.cells cs 9 (0, 0))) : QF w' p tt r L := by
  refine ⟨(c.block p h.lt (fun hs => ?_)).trans h.st, fun j hj => owns_chg (h.row j hj) (fun k hk hs => ?_) c, h.sep⟩
  · obtain ⟨cs, hb⟩ := hS p h.lt hs
    rw [h.st] at hb; simp at hb
  · obtain ⟨cs, hb⟩ := hS k (own_blkQ (h.row j hj) hk).1 hs
    exact own_kind (h.row j hj) hb (by decide) hk
/-- the blocks that a writing writes -/
def WFQ (p : Nat) (r0 : Nat → Value) (F : List Value) (b : Nat) : Prop := b = p ∨ (r0 2).ownBlock = some b ∨ (r0 3).ownBlock = some b ∨ ∃ x ∈ F, x.ownBlock = some b
/-- each list has a block of its own -/
def DstQ (F : List Value) : Prop := ∀ (i j : Nat) x y, F[i]? = some x → F[j]? = some y → ¬ i = j → ∀ b, x.ownBlock = some b → ¬ y.ownBlock = some b
/-- amid the writing: K, W at rest; P, R kept but still under way; the lists from lo on lie as they were handed in, those ahead of hi with marks -/
structure WQr (w : World) (p : Nat) (tt : Int) (r0 : Nat → Value) (F : List Value) (base : Int) (wr : World) (r : Nat → Value) (L : Nat → List Value) (K W P R : List Value) (lo hi : Nat) : Prop where
  sh : QF wr p tt r L
  r0_ : r 0 = r0 0
  l0 : L 0 = F
  l2 : L 2 = K ++ P
  l3 : L 3 = W ++ R
  kl : W.length = K.length
  pl : R.length = P.length
  pr : PrQ wr K W
  ks : ∀ (l : Nat) y b, K[l]? = some y ∨ W[l]? = some y → y.ownBlock = some b → ∀ (j : Nat) x, lo ≤ j → F[j]? = some x → ¬ x.ownBlock = some b
  fm : ∀ (j : Nat) x, lo ≤ j → F[j]? = some x → ∃ N : List (List UInt8), N.length ≤ 100000000000 ∧ OwT 0 x N wr ∧ (j < hi → N = mks (base + j) 0 N.length)
  fb : ∀ x ∈ F, ∀ b, x.ownBlock = some b → b < w.heap.size
  b2 : ∀ b, (r 2).ownBlock = some b → (r0 2).ownBlock = some b ∨ w.heap.size ≤ b
  b3 : ∀ b, (r 3).ownBlock = some b → (r0 3).ownBlock = some b ∨ w.heap.size ≤ b
  chg : Chg (WFQ p r0 F) w wr
def WQ (w : World) (p : Nat) (tt : Int) (r0 : Nat → Value) (F : List Value) (base : Int) (wr : World) (K W P R : List Value) (lo hi : Nat) : Prop := ∃ r L, WQr w p tt r0 F base wr r L K W P R lo hi
section
variable {w : World} {p : Nat} {tt : Int} {r0 : Nat → Value} {F : List Value} {base : Int} {wr w' : World} {K W P R : List Value} {lo hi : Nat}
theorem WQ.out (h : WQ w p tt r0 F base wr K W P R lo hi) (o : Out wr w') : WQ w p tt r0 F base w' K W P R lo hi := by
  obtain ⟨r, L, h⟩ := h
  exact ⟨r, L, h.sh.out o, h.r0_, h.l0, h.l2, h.l3, h.kl, h.pl, h.pr.out o, h.ks, fun j x hj hx => by
    obtain ⟨N, h1, h2, h3⟩ := h.fm j x hj hx
    exact ⟨N, h1, h2.out o, h3⟩, h.fb, h.b2, h.b3, h.chg.then_out o⟩
/-- the list in place i turns -/
theorem WQ.turn (h : WQ w p tt r0 F base wr K W P R lo hi) (hd : DstQ F) {i hi' : Nat} {f : Value} {N : List (List UInt8)} (hf : F[i]? = some f) (hlo : lo ≤ i) (c : Chg (fun b => f.ownBlock = some b) wr w') (hN : N.length ≤ 100000000000) (ho : OwT 0 f N w') (hm : i < hi' → N = mks (base + i) 0 N.length) (hh : ∀ j, ¬ j = i → j < hi' → j < hi) : WQ w p tt r0 F base w' K W P R lo hi' := by
  obtain ⟨r, L, h⟩ := h
  obtain ⟨N0, _, ho0, _⟩ := h.fm i f hlo hf
  refine ⟨r, L, h.sh.sym c (fun b _ hb => (own_blkQ ho0 hb).2), h.r0_, h.l0, h.l2, h.l3, h.kl, h.pl, h.pr.chg c (fun l y b hy hb hs => h.ks l y b hy hb i f hlo hf hs), h.ks, fun j x hj hx => ?_, h.fb, h.b2, h.b3, h.chg.trans c (fun b hb _ => .inr (.inr (.inr ⟨f, List.mem_of_getElem? hf, hb⟩)))⟩
  by_cases hji : j = i
  · subst hji
    rw [hf] at hx
    obtain rfl := Option.some.inj hx
    exact ⟨N, hN, ho, hm⟩
  · obtain ⟨N1, h1, h2, h3⟩ := h.fm j x hj hx
    exact ⟨N1, h1, h2.chg c (fun b hb hs => hd j i x f hx hf hji b hb hs), fun hlt => h3 (hh j hji hlt)⟩
theorem WQ.up (h : WQ w p tt r0 F base wr K W P R lo hi) {lo' : Nat} (hl : lo ≤ lo') : WQ w p tt r0 F base wr K W P R lo' hi := by
  obtain ⟨r, L, h⟩ := h
  exact ⟨r, L, h.sh, h.r0_, h.l0, h.l2, h.l3, h.kl, h.pl, h.pr, fun l y b hy hb j x hj hx => h.ks l y b hy hb j x (by omega) hx, fun j x hj hx => h.fm j x (by omega) hx, h.fb, h.b2, h.b3, h.chg⟩
/-- a pair is kept -/
theorem WQ.keep (h : WQ w p tt r0 F base wr K W P R lo hi) (hK : K.length + P.length ≤ 1000000000000) (a a' : Option Addr) (n c n' c' : Nat) :
    Calls Tryz.prog 85 #[.pointer (some ⟨p, 0, none⟩), .slice a n c, .slice a' n' c'] wr fun e w' => (∃ q, e = .returned q) ∧ WQ w p tt r0 F base w' K W (P ++ [.slice a n c]) (R ++ [.slice a' n' c']) lo hi ∧ (∀ B v N, OwT B v N wr → OwT B v N w') ∧ wr.heap.size ≤ w'.heap.size := by
  obtain ⟨r, L, h⟩ := h
  refine (keepQ_any wr p tt r L h.sh (by rw [h.l2, List.length_append]; exact hK) (by rw [h.l2, h.l3, List.length_append, List.length_append, h.kl, h.pl]) a a' n c n' c').mono ?_
  rintro e w' ⟨he, v2, v3, hS, hC, h2, h3⟩
  have keep : ∀ B v N, OwT B v N wr → OwT B v N w' := fun B v N hv => hv.chg hC (fun b hb hs => h.sh.soq hv hb hs)
  have hz := h.chg.size
  refine ⟨he, ⟨_, _, hS, h.r0_, h.l0, ?_, ?_, h.kl, by simp [h.pl], ?_, h.ks, fun j x hj hx => ?_, h.fb, ?_, ?_, ?_⟩, keep, hC.size⟩
  · show L 2 ++ _ = _; rw [h.l2, List.append_assoc]
  · show L 3 ++ _ = _; rw [h.l3, List.append_assoc]
  · intro i x y hx hy
    obtain ⟨N, a1, c1, a2, c2, e1, e2, o1, o2, hb⟩ := h.pr i x y hx hy
    exact ⟨N, a1, c1, a2, c2, e1, e2, keep _ _ _ o1, keep _ _ _ o2, hb⟩
  · obtain ⟨N, h4, h5, h6⟩ := h.fm j x hj hx
    exact ⟨N, h4, keep _ _ _ h5, h6⟩
  · intro b hb
    rcases h2 b hb with h9 | h9
    · exact h.b2 b h9
    · right; omega
  · intro b hb
    rcases h3 b hb with h9 | h9
    · exact h.b3 b h9
    · right; omega
  · refine h.chg.trans hC (fun b hb hlt => ?_)
    rcases hb with e | e | e
    · exact .inl e
    · rcases h.b2 b e with h9 | h9
      · exact .inr (.inl h9)
      · omega
    · rcases h.b3 b e with h9 | h9
      · exact .inr (.inr (.inl h9))
      · omega
/-- a kept pair comes to rest -/
theorem WQ.rest {x y : Value} (h : WQ w p tt r0 F base wr K W (x :: P) (y :: R) lo hi) {N : List (List UInt8)} (hN : N.length ≤ 1000000000000) (h1 : OwT 0 x N wr) (h2 : OwT 0 y N wr) (hx : ∀ b, x.ownBlock = some b → ∀ (j : Nat) z, lo ≤ j → F[j]? = some z → ¬ z.ownBlock = some b) (hy : ∀ b, y.ownBlock = some b → ∀ (j : Nat) z, lo ≤ j → F[j]? = some z → ¬ z.ownBlock = some b) : WQ w p tt r0 F base wr (K ++ [x]) (W ++ [y]) P R lo hi := by
  obtain ⟨r, L, h⟩ := h
  obtain ⟨ax, cx, ex⟩ := own_form h1
  obtain ⟨ay, cy, ey⟩ := own_form h2
  refine ⟨r, L, h.sh, h.r0_, h.l0, by rw [h.l2]; simp, by rw [h.l3]; simp, by simp [h.kl], by have := h.pl; simpa using this, ?_, ?_, h.fm, h.fb, h.b2, h.b3, h.chg⟩
  · intro i u z hu hz
    by_cases hi : i < K.length
    · rw [List.getElem?_append_left hi] at hu
      rw [List.getElem?_append_left (by rw [h.kl]; exact hi)] at hz
      exact h.pr i u z hu hz
    · have hie : i - K.length = 0 := by have := (List.getElem?_eq_some_iff.1 hu).1; simp at this; omega
      rw [List.getElem?_append_right (by omega), hie] at hu
      rw [List.getElem?_append_right (by rw [h.kl]; omega), h.kl, hie] at hz
      simp at hu hz
      subst hu hz
      exact ⟨N, ax, cx, ay, cy, ex, ey, h1, h2, hN⟩
  · intro l u b hu hb
    rcases hu with hu | hu
    · by_cases hi : l < K.length
      · rw [List.getElem?_append_left hi] at hu
        exact h.ks l u b (.inl hu) hb
      · have hie : l - K.length = 0 := by have := (List.getElem?_eq_some_iff.1 hu).1; simp at this; omega
        rw [List.getElem?_append_right (by omega), hie] at hu
        simp at hu
        subst hu
        exact hx b hb
    · by_cases hi : l < W.length
      · rw [List.getElem?_append_left hi] at hu
        exact h.ks l u b (.inr hu) hb
      · have hie : l - W.length = 0 := by have := (List.getElem?_eq_some_iff.1 hu).1; simp at this; omega
        rw [List.getElem?_append_right (by omega), hie] at hu
        simp at hu
        subst hu
        exact hy b hb
/-- a block that is new is none of the lists' -/
theorem WQ.new (h : WQ w p tt r0 F base wr K W P R lo hi) {b : Nat} (hb : w.heap.size ≤ b) (j : Nat) (z : Value) (hz : F[j]? = some z) : ¬ z.ownBlock = some b := fun e => by
  obtain ⟨r, L, h⟩ := h
  have := h.fb z (List.mem_of_getElem? hz) b e
  omega
theorem WQ.fown (h : WQ w p tt r0 F base wr K W P R lo hi) {j : Nat} {x : Value} (hj : lo ≤ j) (hx : F[j]? = some x) : ∃ N : List (List UInt8), N.length ≤ 100000000000 ∧ OwT 0 x N wr ∧ (j < hi → N = mks (base + j) 0 N.length) := by
  obtain ⟨r, L, h⟩ := h
  exact h.fm j x hj hx
theorem WQ.size (h : WQ w p tt r0 F base wr K W P R lo hi) : w.heap.size ≤ wr.heap.size := by
  obtain ⟨r, L, h⟩ := h
  exact h.chg.size
theorem WQ.cells (h : WQ w p tt r0 F base wr K W P R lo hi) {af : Option Addr} {cf : Nat} (e : r0 0 = .slice af F.length cf) : wr.cell? ⟨p, 0, none⟩ = some (.int .i64 tt) ∧ wr.cell? ⟨p, 1, none⟩ = some (.bool false) ∧ wr.cell? ⟨p, 2, none⟩ = some (.slice af F.length cf) ∧ (∀ j, wr.frozen? ⟨p, j, none⟩ = false) ∧ wr.ownsRow 0 35 1 (.slice af F.length cf) F.length F := by
  obtain ⟨r, L, h⟩ := h
  refine ⟨by rw [cell_atL h.sh.st]; rfl, by rw [cell_atL h.sh.st]; rfl, by rw [cell_atL h.sh.st, ← e, ← h.r0_]; rfl, fun j => frozen_atL h.sh.st j, ?_⟩
  have := h.sh.row 0 (by omega)
  rw [h.r0_, e, h.l0] at this
  exact this
end
end Go.Proofs.YtcomhlimgocoaaaGreatDoor
namespace Go.Proofs.YtcomhlimgocoaaaGreatDoor
open Go.RowKit
set_option linter.unusedVariables false
set_option linter.unusedSimpArgs false
theorem app6_same {w : World} {v : Value} (h : OwT 0 v [] w) : App6 w w v v [] [] := ⟨h, Chg.refl _ _, fun b hb => .inl hb, fun B g M h _ => h, fun B g M h => ⟨M, rfl, h⟩⟩
/-- a copy -/
theorem copy6 (w : World) (g : Nat) (hv : OwT 0 (.slice (some ⟨g, 0, none⟩) 0 0) [] w) (ax : Option Addr) (zs : List (List UInt8)) (m c : Nat) (hzl : zs.length = m) (hX : OwT 0 (.slice ax m c) zs w) (hn : m ≤ 2900000000000) :
    ∃ v' w', (∀ ty, (Builtin.append_ #[35, 35] ty #[.slice (some ⟨g, 0, none⟩) 0 0, .slice ax m c]).run Tryz.prog w = .ok v' w') ∧ App6 w w' (.slice (some ⟨g, 0, none⟩) 0 0) v' [] zs := by
  obtain ⟨i0, hi, hz0, hz1, hz2⟩ := info_parts infoTx
  by_cases h0 : m = 0
  · subst h0
    obtain rfl : zs = [] := List.length_eq_zero_iff.1 hzl
    cases ax with
    | none =>
      rcases hX.2 with ⟨e, _⟩ | ⟨_, _, _, e, _⟩
      · simp only [Value.slice.injEq] at e
        obtain ⟨_, _, rfl⟩ := e
        exact ⟨_, _, fun ty => run_append_owned_none (P := Tryz.prog) (w := w) 0 35 ty 9 i0 1 Tryz.underlying35 hi _ 0 [] hv, app6_same hv⟩
      · cases e
    | some ad =>
      have hr := fun ty => run_append_room_cells (P := Tryz.prog) w 35 ty 9 i0 Tryz.underlying35 hi g 0 0 0 ad 0 c [] (by simp) (by simp) (by simp) (by omega) (by simp) (by simp)
      exact ⟨_, _, hr, app6_same hv⟩
  · obtain ⟨ad, rfl, hc⟩ : ∃ ad, ax = some ad ∧ ∀ j u, (txV zs)[j]? = some u → w.cell? (ad.add j) = some u := by
      have hat := hX.at2
      rcases hat with e | ⟨b, o, _, e, _⟩
      · subst e; simp at hzl; omega
      · exact ⟨_, e, by subst e; exact TyAt.news hX.at2⟩
    exact app6 w _ [] hv ad zs m c hzl (by omega) hc (by simp; omega)
theorem wpList_copy6 {w : World} {ops : Array Oper} {rest : List Oper} {o : Oper} {a : Act} {Q : Exit → Act → World → Prop} (hgd : o.guard = none) (s x : Operand)
    (ho : o.op = .call { callee := .builtin .append, args := #[s, x], argTypes := #[35, 35] })
    (g : Nat) (hs : a.eval s = .slice (some ⟨g, 0, none⟩) 0 0) (hv : OwT 0 (.slice (some ⟨g, 0, none⟩) 0 0) [] w) (ax : Option Addr) (zs : List (List UInt8)) (m c : Nat) (hzl : zs.length = m) (hx : a.eval x = .slice ax m c) (hX : OwT 0 (.slice ax m c) zs w) (hn : m ≤ 2900000000000)
    (h : ∀ v' w', App6 w w' (.slice (some ⟨g, 0, none⟩) 0 0) v' [] zs → wpList Tryz.prog ops Q rest (a.put o.dst v') w') : wpList Tryz.prog ops Q (o :: rest) a w := by
  refine wpList_plain hgd fun K hK => ?_
  obtain ⟨v', w', hr, h2⟩ := copy6 w g hv ax zs m c hzl hX hn
  unfold Oper.wp execOp
  simp only [ho, resolve, invoke, builtin, Sem.run_bind, Sem.run_pure, Result.andThen_ok, List.map_toArray, List.map_cons, List.map_nil, hs, hx, hr]
  exact hK _ _ (h v' w' h2)
theorem step_copy6 {w : World} {ops : Array Oper} {o : Oper} {a : Act} {K : Act → World → Prop} {Q : Exit → Act → World → Prop} {E : Prop} (hgd : o.guard = none) (s x : Operand)
    (ho : o.op = .call { callee := .builtin .append, args := #[s, x], argTypes := #[35, 35] })
    (g : Nat) (hs : a.eval s = .slice (some ⟨g, 0, none⟩) 0 0) (hv : OwT 0 (.slice (some ⟨g, 0, none⟩) 0 0) [] w) (ax : Option Addr) (zs : List (List UInt8)) (m c : Nat) (hzl : zs.length = m) (hx : a.eval x = .slice ax m c) (hX : OwT 0 (.slice ax m c) zs w) (hn : m ≤ 2900000000000)
    (h : ∀ v' w', App6 w w' (.slice (some ⟨g, 0, none⟩) 0 0) v' [] zs → K (a.put o.dst v') w') : if Region.wanted o (yielded ops a.tmps) = true then Oper.wp Tryz.prog o a w K Q else E := by
  have hw : Region.wanted o (yielded ops a.tmps) = true := by simp [Region.wanted, hgd]
  rw [if_pos hw]
  obtain ⟨v', w', hr, h2⟩ := copy6 w g hv ax zs m c hzl hX hn
  unfold Oper.wp execOp
  simp only [ho, resolve, invoke, builtin, Sem.run_bind, Sem.run_pure, Result.andThen_ok, List.map_toArray, List.map_cons, List.map_nil, hs, hx, hr]
  exact h v' w' h2
/-- the copy is new -/
theorem App6.copied {w w' : World} {v' : Value} {zs : List (List UInt8)} (h : App6 (w.alloc (.cells #[] 9)) w' (.slice (some ⟨w.heap.size, 0, none⟩) 0 0) v' [] zs) : OwT 0 v' zs w' ∧ Out w w' ∧ ∀ b, v'.ownBlock = some b → w.heap.size ≤ b := by
  refine ⟨by simpa using h.own, Chg.out h.chg ((Out.refl w).alloc _) (fun k hk => ?_), fun b hb => ?_⟩
  · simp [Value.ownBlock] at hk; omega
  · rcases h.blk b hb with e | e
    · simp [Value.ownBlock] at e; omega
    · rw [size_alloc] at e; omega
theorem void6 (w : World) : OwT 0 (.slice (some ⟨w.heap.size, 0, none⟩) 0 0) [] (w.alloc (.cells #[] 9)) := owns_void w 0 1 9 (Nat.zero_le _)
/-- a place of a list is stored -/
theorem OwT.put {B g n c : Nat} {L : List (List UInt8)} {w : World} (h : OwT B (.slice (some ⟨g, 0, none⟩) n c) L w) {i : Nat} (hi : i < L.length) (x : (List UInt8)) : OwT B (.slice (some ⟨g, 0, none⟩) n c) (L.set i x) (w.setCell ⟨g, i, none⟩ (.string ⟨x.toArray⟩)) ∧ Chg (fun b => (Value.slice (some ⟨g, 0, none⟩) n c).ownBlock = some b) w (w.setCell ⟨g, i, none⟩ (.string ⟨x.toArray⟩)) := by
  have hl' : (L.set i x).length = L.length := List.length_set
  refine ⟨⟨by rw [txV_len], ?_⟩, (Chg.refl (fun b => (Value.slice (some ⟨g, 0, none⟩) n c).ownBlock = some b) w).setCell (p := ⟨g, i, none⟩) rfl _⟩
  rcases h.2 with ⟨hv, _⟩ | ⟨g', cap, cur, hv, hb, hg, hn, hm, hs, ht⟩
  · cases hv
  · rw [hl']
    simp only [Value.slice.injEq, Option.some.injEq, Addr.mk.injEq] at hv
    obtain ⟨⟨rfl, _⟩, hnn, rfl⟩ := hv
    refine .inr ⟨g, c, _, by rw [hnn], hb, set_atL hg i (.string ⟨x.toArray⟩), hn, hm, by simpa using hs, ?_⟩
    simp only [Array.toList_setIfInBounds, List.take_set, ht]
    unfold txV
    rw [List.map_set]
/-- a place of a list -/
theorem OwT.cell1 {B g n c : Nat} {L : List (List UInt8)} {w : World} (h : OwT B (.slice (some ⟨g, 0, none⟩) n c) L w) {i : Nat} {x : (List UInt8)} (hx : L[i]? = some x) : w.cell? ⟨g, i, none⟩ = some (.string ⟨x.toArray⟩) ∧ ∀ j, w.frozen? ⟨g, j, none⟩ = false := by
  obtain ⟨b, off, e, h6⟩ := h.at2.get hx
  simp only [Option.some.injEq, Addr.mk.injEq] at e
  obtain ⟨rfl, rfl, _⟩ := e
  rw [Nat.zero_add] at h6
  refine ⟨h6, fun j => ?_⟩
  obtain ⟨_, cs, hc⟩ := own_blkQ h (b := g) rfl
  exact frozen_atL hc j
theorem OwT.adr {B n c : Nat} {a : Option Addr} {L : List (List UInt8)} {w : World} (h : OwT B (.slice a n c) L w) (h0 : 0 < L.length) : ∃ g, a = some ⟨g, 0, none⟩ := by
  rcases h.2 with ⟨_, e⟩ | ⟨g, cap, cur, e, _⟩
  · omega
  · simp only [Value.slice.injEq] at e
    exact ⟨g, e.1⟩
theorem mks_set {l : Int} {n k : Nat} {N : List (List UInt8)} (hN : N.length = n) (hk : k < n) (h : N.take k = mks l 0 k) : (N.set k (mk6 l k)).take (k + 1) = mks l 0 (k + 1) := by
  rw [mks_succ, ← h, List.take_add_one, List.take_set, List.getElem?_set, if_pos rfl, if_pos (by omega)]
  rw [List.set_eq_of_length_le (by rw [List.length_take]; omega)]
  simp
theorem news6 (w : World) (l k : Int) (t : TypeId) : ∀ j u, (txV [mk6 l k])[j]? = some u → (w.alloc (.cells #[.string ⟨(mk6 l k).toArray⟩] t)).cell? ((⟨w.heap.size, 0, none⟩ : Addr).add j) = some u := news_new w _ _ _ rfl
theorem news66 (w : World) (l k k2 : Int) (t : TypeId) : ∀ j u, (txV [mk6 l k, mk6 l k2])[j]? = some u → (w.alloc (.cells #[.string ⟨(mk6 l k).toArray⟩, .string ⟨(mk6 l k2).toArray⟩] t)).cell? ((⟨w.heap.size, 0, none⟩ : Addr).add j) = some u := news_new w _ _ _ rfl
end Go.Proofs.YtcomhlimgocoaaaGreatDoor
namespace Go.Proofs.YtcomhlimgocoaaaGreatDoor
open Go.RowKit
set_option linter.unusedVariables false
set_option linter.unusedSimpArgs false
/-- the queue's blocks -/
def QSQ (p : Nat) (r : Nat → Value) (F : List Value) (b : Nat) : Prop := b = p ∨ (∃ j, j < 4 ∧ (r j).ownBlock = some b) ∨ ∃ x ∈ F, x.ownBlock = some b
/-- the queue between two calls -/
structure QI (B : Nat) (w : World) (p : Nat) (tt : Int) (r : Nat → Value) (L : Nat → List Value) : Prop where
  sh : QF w p tt r L
  wl : (L 1).length = (L 0).length
  kl : (L 3).length = (L 2).length
  pf : PrQ w (L 0) (L 1)
  pk : PrQ w (L 2) (L 3)
  bl : ∀ x ∈ L 0, ∃ N : List (List UInt8), N.length ≤ 100000000000 ∧ OwT 0 x N w
  ds : DstQ (L 0)
  ap : ∀ (l : Nat) y b, (L 2)[l]? = some y ∨ (L 3)[l]? = some y → y.ownBlock = some b → ∀ (j : Nat) x, (L 0)[j]? = some x → ¬ x.ownBlock = some b
  lb : ∀ b, QSQ p r (L 0) b → B ≤ b
theorem QI.out {B : Nat} {w w' : World} {p : Nat} {tt : Int} {r : Nat → Value} {L : Nat → List Value} (h : QI B w p tt r L) (o : Out w w') : QI B w' p tt r L :=
  ⟨h.sh.out o, h.wl, h.kl, h.pf.out o, h.pk.out o, fun x hx => by
    obtain ⟨N, h1, h2⟩ := h.bl x hx
    exact ⟨N, h1, h2.out o⟩, h.ds, h.ap, h.lb⟩
theorem QI.start {B : Nat} {w : World} {p : Nat} {tt : Int} {r : Nat → Value} {L : Nat → List Value} (h : QI B w p tt r L) (base : Int) : WQ w p tt r (L 0) base w (L 2) (L 3) [] [] 0 0 :=
  ⟨r, L, h.sh, rfl, rfl, by simp, by simp, h.kl, rfl, h.pk, fun l y b hy hb j x _ hx => h.ap l y b hy hb j x hx, fun j x _ hx => by
    obtain ⟨N, h1, h2⟩ := h.bl x (List.mem_of_getElem? hx)
    exact ⟨N, h1, h2, fun h => by omega⟩, fun x hx b hb => by
    obtain ⟨N, _, h2⟩ := h.bl x hx
    exact (own_blkQ h2 hb).1, fun b hb => .inl hb, fun b hb => .inl hb, Chg.refl _ _⟩
/-- a row is done away with -/
theorem QF.nil {w : World} {p : Nat} {tt : Int} {r : Nat → Value} {L : Nat → List Value} (h : QF w p tt r L) (j : Nat) (hj : j < 4) : QF (w.setCell ⟨p, 2 + j, none⟩ (.slice none 0 0)) p tt (upd r j (.slice none 0 0)) (upd L j []) := by
  refine QF.store h.st j hj _ _ (fun i hi => ?_) (fun i k b hi hk hne hib hkb => ?_)
  · unfold upd
    by_cases hij : i = j
    · rw [if_pos hij, if_pos hij]; exact World.ownsRow_nil _ _ _ _
    · rw [if_neg hij, if_neg hij]; exact h.row i hi
  · unfold upd at hib hkb
    by_cases hij : i = j
    · rw [if_pos hij] at hib; cases hib
    · by_cases hkj : k = j
      · rw [if_pos hkj] at hkb; cases hkb
      · rw [if_neg hij] at hib; rw [if_neg hkj] at hkb; exact h.sep i k b hi hk hne hib hkb
/-- what a writing leaves behind -/
def WrQ (B : Nat) (w : World) (p : Nat) (tt : Int) (r : Nat → Value) (L : Nat → List Value) (kn : Nat) (w' : World) : Prop :=
  ∃ r' L', QI B w' p tt r' L' ∧ L' 0 = [] ∧ (L' 2).length = kn ∧ Chg (QSQ p r (L 0)) w w'
theorem WrQ.out {B : Nat} {w w1 w' : World} {p : Nat} {tt : Int} {r : Nat → Value} {L : Nat → List Value} {kn : Nat} (h : WrQ B w p tt r L kn w1) (o : Out w1 w') : WrQ B w p tt r L kn w' := by
  obtain ⟨r', L', h1, h2, h3, h4⟩ := h
  exact ⟨r', L', h1.out o, h2, h3, h4.then_out o⟩
theorem WQ.done {B : Nat} {w : World} {p : Nat} {tt : Int} {r : Nat → Value} {L : Nat → List Value} {base : Int} {wr : World} {K W : List Value} {lo hi kn : Nat} (hq : QI B w p tt r L) (h : WQ w p tt r (L 0) base wr K W [] [] lo hi) (hk : K.length = kn) : WrQ B w p tt r L kn ((wr.setCell ⟨p, 2, none⟩ (.slice none 0 0)).setCell ⟨p, 3, none⟩ (.slice none 0 0)) := by
  obtain ⟨r1, L1, h⟩ := h
  have hs : QF ((wr.setCell ⟨p, 2, none⟩ (.slice none 0 0)).setCell ⟨p, 3, none⟩ (.slice none 0 0)) p tt (upd (upd r1 0 (.slice none 0 0)) 1 (.slice none 0 0)) (upd (upd L1 0 []) 1 []) := (h.sh.nil 0 (by omega)).nil 1 (by omega)
  have c : Chg (fun b => b = p) wr ((wr.setCell ⟨p, 2, none⟩ (.slice none 0 0)).setCell ⟨p, 3, none⟩ (.slice none 0 0)) := ((Chg.refl (fun b => b = p) wr).setCell (p := ⟨p, 2, none⟩) rfl _).setCell (p := ⟨p, 3, none⟩) rfl _
  have l2 : L1 2 = K := by rw [h.l2]; simp
  have l3 : L1 3 = W := by rw [h.l3]; simp
  have hpB : B ≤ p := hq.lb p (.inl rfl)
  have hpw := hq.sh.lt
  refine ⟨_, _, ⟨hs, rfl, ?_, (fun i x y hx => by cases hx), ?_, (fun x hx => by cases hx), (fun i j x y hx => by cases hx), (fun l y b _ _ j x hx => by cases hx), fun b hb => ?_⟩, rfl, ?_, h.chg.trans c (fun b hb _ => .inl hb) |>.mono (fun b hb _ => ?_)⟩
  · show (L1 3).length = (L1 2).length; rw [l2, l3]; exact h.kl
  · show PrQ _ (L1 2) (L1 3)
    rw [l2, l3]
    intro i x y hx hy
    obtain ⟨N, a1, c1, a2, c2, e1, e2, o1, o2, hb⟩ := h.pr i x y hx hy
    exact ⟨N, a1, c1, a2, c2, e1, e2, o1.chg c (fun b hb he => h.sh.soq o1 hb (.inl he)), o2.chg c (fun b hb he => h.sh.soq o2 hb (.inl he)), hb⟩
  · rcases hb with e | ⟨j, hj, e⟩ | ⟨x, hx, _⟩
    · rw [e]; exact hpB
    · obtain rfl | rfl | rfl | rfl : j = 0 ∨ j = 1 ∨ j = 2 ∨ j = 3 := by omega
      · cases e
      · cases e
      · rcases h.b2 b e with e | e
        · exact hq.lb b (.inr (.inl ⟨2, by omega, e⟩))
        · omega
      · rcases h.b3 b e with e | e
        · exact hq.lb b (.inr (.inl ⟨3, by omega, e⟩))
        · omega
    · cases hx
  · show (L1 2).length = kn; rw [l2]; exact hk
  · rcases hb with e | e | e | e
    · exact .inl e
    · exact .inr (.inl ⟨2, by omega, e⟩)
    · exact .inr (.inl ⟨3, by omega, e⟩)
    · exact .inr (.inr e)
/-- amid the marking of a list -/
def Mkd (wr : World) (f : Value) (l : Int) (n k : Nat) : Prop := ∃ N : List (List UInt8), N.length = n ∧ OwT 0 f N wr ∧ N.take k = mks l 0 k
end Go.Proofs.YtcomhlimgocoaaaGreatDoor
namespace Go.Proofs.YtcomhlimgocoaaaGreatDoor
open Go.RowKit
set_option linter.unusedVariables false
set_option linter.unusedSimpArgs false
theorem ExS.kp {w w' : World} {v : Value} {n : Nat} (h : ExS w v n) (k : ∀ B v N, OwT B v N w → OwT B v N w') : ExS w' v n := by
  obtain ⟨M, h1, h2⟩ := h
  exact ⟨M, h1, k _ _ _ h2⟩
theorem App6.form0 {w w' : World} {v v' : Value} {zs : List (List UInt8)} (h : App6 w w' v v' [] zs) {m : Nat} (hm : zs.length = m) : ∃ a c, v' = .slice a m c := by
  obtain ⟨a, c, e⟩ := own_form h.own
  exact ⟨a, c, by rw [e, List.nil_append, hm]⟩
/-- within a round, ahead of the keeping: the list f lies as it was -/
structure Rnd (w0 wr : World) (f : Value) (M : List (List UInt8)) : Prop where
  own : OwT 0 f M wr
  chg : Chg (fun b => f.ownBlock = some b) w0 wr
theorem Rnd.out {w0 wr w' : World} {f : Value} {M : List (List UInt8)} (h : Rnd w0 wr f M) (o : Out wr w') : Rnd w0 w' f M := ⟨h.own.out o, h.chg.then_out o⟩
theorem Rnd.app {w0 wr w' : World} {f g : Value} {M zs : List (List UInt8)} (h : Rnd w0 wr f M) (a : App6 wr w' f g M zs) : Rnd w0 w' f M := ⟨a.pre 0 f M h.own (Nat.le_refl _), h.chg.trans a.chg (fun _ hb _ => hb)⟩
/-- where what was grown out of f lies -/
def GBk (w : World) (f g : Value) : Prop := ∀ b, g.ownBlock = some b → f.ownBlock = some b ∨ w.heap.size ≤ b
theorem GBk.app {w wr w' : World} {f g : Value} {M zs : List (List UInt8)} (a : App6 wr w' f g M zs) (h : w.heap.size ≤ wr.heap.size) : GBk w f g := fun b hb => by
  rcases a.blk b hb with e | e
  · exact .inl e
  · exact .inr (by omega)
section
variable {w : World} {p : Nat} {tt : Int} {r0 : Nat → Value} {F : List Value} {base : Int} {wr w' : World} {K W P R : List Value} {lo hi : Nat}
/-- the blocks of what is at rest -/
theorem WQ.old (h : WQ w p tt r0 F base wr K W P R lo hi) (l : Nat) (y : Value) (b : Nat) (hy : K[l]? = some y ∨ W[l]? = some y) (hb : y.ownBlock = some b) : b < wr.heap.size := by
  obtain ⟨r, L, h⟩ := h
  rcases hy with hy | hy
  · obtain ⟨z, hz⟩ : ∃ z, W[l]? = some z := ⟨_, List.getElem?_eq_getElem (by rw [h.kl]; exact (List.getElem?_eq_some_iff.1 hy).1)⟩
    obtain ⟨N, _, _, _, _, _, _, o1, _⟩ := h.pr l y z hy hz
    exact (own_blkQ o1 hb).1
  · obtain ⟨z, hz⟩ : ∃ z, K[l]? = some z := ⟨_, List.getElem?_eq_getElem (by rw [← h.kl]; exact (List.getElem?_eq_some_iff.1 hy).1)⟩
    obtain ⟨N, _, _, _, _, _, _, _, o2, _⟩ := h.pr l z y hz hy
    exact (own_blkQ o2 hb).1
/-- the list in place i turns, and newer ones -/
theorem WQ.turn2 (h : WQ w p tt r0 F base wr K W P R lo hi) (hd : DstQ F) {i : Nat} {f : Value} {S : Nat → Prop} {M : List (List UInt8)} (hf : F[i]? = some f) (hlo : lo ≤ i) (c : Chg S wr w') (hS : ∀ b, b < wr.heap.size → S b → f.ownBlock = some b ∨ (w.heap.size ≤ b ∧ (∀ (l : Nat) y, K[l]? = some y ∨ W[l]? = some y → ¬ y.ownBlock = some b) ∧ ∃ cs, wr.heap[b]? = some (.cells cs 9 (0, 0)))) (hM : M.length ≤ 100000000000) (ho : OwT 0 f M w') (hm : i < hi → M = mks (base + i) 0 M.length) : WQ w p tt r0 F base w' K W P R lo hi := by
  have hold := h.old
  obtain ⟨r, L, h⟩ := h
  obtain ⟨N0, _, ho0, _⟩ := h.fm i f hlo hf
  have hsz := h.chg.size
  refine ⟨r, L, h.sh.sym c (fun b hb hs => ?_), h.r0_, h.l0, h.l2, h.l3, h.kl, h.pl, h.pr.chg c (fun l y b hy hb hs => ?_), h.ks, fun j x hj hx => ?_, h.fb, h.b2, h.b3, h.chg.trans c (fun b hs hb => ?_)⟩
  · rcases hS b hb hs with e | ⟨_, _, e⟩
    · exact (own_blkQ ho0 e).2
    · exact e
  · rcases hS b (hold l y b hy hb) hs with e | ⟨_, e, _⟩
    · exact h.ks l y b hy hb i f hlo hf e
    · exact e l y hy hb
  · by_cases hji : j = i
    · subst hji
      rw [hf] at hx
      obtain rfl := Option.some.inj hx
      exact ⟨M, hM, ho, hm⟩
    · obtain ⟨N1, h1, h2, h3⟩ := h.fm j x hj hx
      refine ⟨N1, h1, h2.chg c (fun b hb hs => ?_), h3⟩
      rcases hS b (own_blkQ h2 hb).1 hs with e | ⟨e, _⟩
      · exact hd j i x f hx hf hji b hb e
      · have := h.fb x (List.mem_of_getElem? hx) b hb
        omega
  · rcases hS b (by omega) hs with e | ⟨e, _⟩
    · exact .inr (.inr (.inr ⟨f, List.mem_of_getElem? hf, e⟩))
    · omega
/-- a pair is kept, and at rest -/
theorem WQ.keepRest (h : WQ w p tt r0 F base wr K W [] [] lo hi) (hd : DstQ F) {i : Nat} {f : Value} (hf : F[i]? = some f) (hlo : i < lo) (hK : K.length ≤ 1000000000000) {a a' : Option Addr} {n c c' : Nat} {N : List (List UInt8)} (hn : N.length ≤ 1000000000000) (h1 : OwT 0 (.slice a n c) N wr) (h2 : OwT 0 (.slice a' n c') N wr) (g1 : GBk w f (.slice a n c)) (g2 : ∀ b, (Value.slice a' n c').ownBlock = some b → w.heap.size ≤ b) :
    Calls Tryz.prog 85 #[.pointer (some ⟨p, 0, none⟩), .slice a n c, .slice a' n c'] wr fun e w' => (∃ q, e = .returned q) ∧ WQ w p tt r0 F base w' (K ++ [.slice a n c]) (W ++ [.slice a' n c']) [] [] lo hi ∧ (∀ B v N, OwT B v N wr → OwT B v N w') := by
  refine (h.keep (by simpa using hK) a a' n c n c').mono ?_
  rintro e w' ⟨he, hw, hk, _⟩
  refine ⟨he, hw.rest hn (hk _ _ _ h1) (hk _ _ _ h2) (fun b hb j z hj hz => ?_) (fun b hb j z hj hz => hw.new (g2 b hb) j z hz), hk⟩
  rcases g1 b hb with e | e
  · exact fun e2 => hd j i z f hz hf (by omega) b e2 e
  · exact hw.new e j z hz
end
/-- amid the growing place by place -/
structure Lp6 (wB wq : World) (T0 : Nat → Prop) (f g t u g1 g2 g3 mo : Value) (M N : List (List UInt8)) (n R : Nat) : Prop where
  gown : OwT 0 g N wq
  town : OwT 0 t N wq
  fown : OwT 0 f M wq
  uown : OwT 0 u M wq
  e1 : ExS wq g1 (n + 1)
  e2 : ExS wq g2 (n + 2)
  e3 : ExS wq g3 (n + R)
  em : ExS wq mo R
  chg : Chg (fun b => f.ownBlock = some b ∨ T0 b) wB wq
  tb : ∀ b, t.ownBlock = some b → T0 b ∨ wB.heap.size ≤ b
  fg : ∀ b, g.ownBlock = some b → f.ownBlock = some b ∨ wB.heap.size ≤ b
  ne : ∀ b, g.ownBlock = some b → ¬ t.ownBlock = some b
  ml : M.length ≤ N.length
section
variable {wB wq w' : World} {T0 : Nat → Prop} {f g t u g1 g2 g3 mo g' t' : Value} {M N : List (List UInt8)} {n R : Nat} {z : (List UInt8)}
theorem Lp6.out (h : Lp6 wB wq T0 f g t u g1 g2 g3 mo M N n R) (o : Out wq w') : Lp6 wB w' T0 f g t u g1 g2 g3 mo M N n R :=
  ⟨h.gown.out o, h.town.out o, h.fown.out o, h.uown.out o, h.e1.out o, h.e2.out o, h.e3.out o, h.em.out o, h.chg.then_out o, h.tb, h.fg, h.ne, h.ml⟩
/-- one place more -/
theorem Lp6.step {wA wT : World} (h : Lp6 wB wq T0 f g t u g1 g2 g3 mo M N n R) (a : App6 wq wA g g' N [z]) (o : Out wA wT) (b : App6 wT w' t t' N [z]) : Lp6 wB w' T0 f g' t' u g1 g2 g3 mo M (N ++ [z]) n R := by
  have hs1 := h.chg.size
  have hs2 := a.chg.size
  have hs3 := o.size
  have tA : OwT 0 t N wT := (a.pre 0 t N h.town (Nat.le_refl _)).out o
  have gA : OwT 0 g' (N ++ [z]) wT := a.own.out o
  have ne1 : ∀ b, g'.ownBlock = some b → ¬ t.ownBlock = some b := fun b hb ht => by
    rcases a.blk b hb with e | e
    · exact h.ne b e ht
    · have := (own_blkQ h.town ht).1; omega
  refine ⟨gA.chg b.chg ne1, b.own, b.pre 0 f M ((a.pre 0 f M h.fown h.ml).out o) h.ml, b.pre 0 u M ((a.pre 0 u M h.uown h.ml).out o) h.ml, ((h.e1.app a).out o).app b, ((h.e2.app a).out o).app b, ((h.e3.app a).out o).app b, ((h.em.app a).out o).app b,
    ((h.chg.trans a.chg (fun k hk hlt => ?_)).then_out o).trans b.chg (fun k hk hlt => ?_), fun k hk => ?_, fun k hk => ?_, fun k hk ht => ?_, by have := h.ml; simp; omega⟩
  · rcases h.fg k hk with e | e
    · exact .inl e
    · omega
  · rcases h.tb k hk with e | e
    · exact .inr e
    · omega
  · rcases b.blk k hk with e | e
    · exact h.tb k e
    · exact .inr (by omega)
  · rcases a.blk k hk with e | e
    · exact h.fg k e
    · exact .inr (by omega)
  · rcases b.blk k ht with e | e
    · exact ne1 k hk e
    · have := (own_blkQ gA hk).1; omega
end
end Go.Proofs.YtcomhlimgocoaaaGreatDoor
