import Derived.Test.YtekjfbmebekmeaaGreatGa37
import Derived.Test.YtekjfbmebekmeaaGreatGa38
namespace Go.Proofs.YtekjfbmebekmeaaGreat
open Go.RowKit
theorem open_any (w : World) (a : Option Addr) (c : Nat) (L : List RI) (h : InR w a L) (hL : ∀ x ∈ L, x.f < 18446744073709551616 ∧ x.d.length ≤ 1000000000) (hn : L.length ≤ 1000000000) :
    Calls Tryz.prog 6 #[.slice a L.length c] w fun e w' => OpenE L L.length w e w' := by
  by_cases hok : okQ (L.map fdI)
  · exact open_ok w a c L h hL hn hok
  · exact open_not w a c L h hL hn hok
end Go.Proofs.YtekjfbmebekmeaaGreat
namespace Go.Proofs.YtekjfbmebekmeaaGreat
open Go.RowKit
set_option linter.unusedVariables false
set_option linter.unusedSimpArgs false
set_option maxRecDepth 20000 in
set_option maxHeartbeats 3000000 in
theorem lendC_make (B : Nat) (W : World) (p po g m : Nat) (cs0 cs : Array Value) (L : List UInt8) (ha : Option Addr) (hn hc : Nat) (N : Int) (h : W.heap[p]? = some (.cells cs0 61 (0, 0))) (e0 : cs0[po]? = some (.slice ha hn hc)) (e1 : cs0[po + 1]? = some (.int .i64 N)) (hcs : cs = cs0.setIfInBounds po (.slice (some ⟨g, 0, none⟩) m m)) (a : Option Addr) (cap : Nat) (l : List UInt8) (hr : RestAt B W a l) (hBW : B ≤ W.heap.size) (hbp : ¬ l = [] → ∀ ad, a = some ad → ¬ ad.block = p) (hg : g = W.heap.size) (hm0 : m = 4 * l.length + 512) (hL : L = List.replicate m 0) (hll : l.length ≤ 60000000000000) (hhn : hn < 2 * l.length + 70) :
    Calls Tryz.prog 54 #[.pointer (some ⟨p, po, none⟩), .slice a l.length cap] W fun e w' => LendC W p po g m cs l L e w' := by
  have hplt : p < W.heap.size := (Array.getElem?_eq_some_iff.1 h).1
  have HR := hidOf hr
  have hBp := hidOf hbp
  have hBg : Hid (¬ l = [] → ∀ ad, a = some ad → ¬ ad.block = g) := fun hl0 ad had => by
    rcases hr with h | ⟨b, o, hb, ha, _⟩
    · exact absurd h hl0
    · rw [ha] at had; cases had; show ¬ b = g; omega
  have c0 : W.cell? ⟨p, po, none⟩ = some (.slice ha hn hc) := by rw [cell_atL h]; exact e0
  have f0 : W.frozen? ⟨p, po, none⟩ = false := frozen_atL h po
  have hmk : (Instr.makeSlice 29 (.int .i64 (4 * (l.length : Int) + 512)) (.int .i64 (4 * (l.length : Int) + 512))).run Tryz.prog W = .ok (.slice (some ⟨g, 0, none⟩) m m) (W.alloc (.cells (bCells L).toArray 5)) := by
    have := run_make_bytes m (by omega) W
    rw [← hL, ← hg, hm0] at this
    simpa [hm0] using this
  have hsm : (hn : Int) < 2 * (l.length : Int) + 70 := by omega
  have hsz : (W.setCell ⟨p, po, none⟩ (.slice (some ⟨g, 0, none⟩) m m)).heap.size = W.heap.size := by simp [World.setCell]
  have H : Hid (LeC ((W.setCell ⟨p, po, none⟩ (.slice (some ⟨g, 0, none⟩) m m)).alloc (.cells (bCells L).toArray 5)) p po g m cs N L) := by
    refine ⟨?_, ?_, ?_, ?_, by rw [hL]; simp⟩
    · rw [Below.heap_alloc _ _ _ (by rw [hsz]; exact hplt), set_atL h, hcs]
    · rw [hcs, Array.getElem?_setIfInBounds_self_of_lt (Array.getElem?_eq_some_iff.1 e0).1]
    · rw [hcs, Array.getElem?_setIfInBounds_ne (by omega)]; exact e1
    · have := heap_alloc_new (W.setCell ⟨p, po, none⟩ (.slice (some ⟨g, 0, none⟩) m m)) (.cells (bCells L).toArray 5)
      rw [hsz, ← hg] at this
      exact this
  have HC0 : Hid (Chg (SL p g) W ((W.setCell ⟨p, po, none⟩ (.slice (some ⟨g, 0, none⟩) m m)).alloc (.cells (bCells L).toArray 5))) := (Chg.setCell (Chg.refl _ W) (p := ⟨p, po, none⟩) (.inl rfl) _).alloc _
  have hm : 2 * l.length + 70 ≤ m := by omega
  have hmN : l.length ≤ m := by omega
  have Hx := hidOf (And.intro hg hm0)
  clear h hr hbp hm0 hg hL hcs e0 e1
  go_enter Tryz.func54, Tryz.ntmps54
  go_upto_region 3 with fail
  generalize (W.setCell ⟨p, po, none⟩ (.slice (some ⟨g, 0, none⟩) m m)).alloc (.cells (bCells L).toArray 5) = W1 at *
  clear c0 f0 hmk hsm hsz
  go_wp2
  have Hll := hidOf hll
  go_loopw [5] (fun kv wr => ∃ (j : Nat) (A : List UInt8), kv = .int .i64 j ∧ j ≤ l.length ∧ Hid (A = l.take j) ∧ Hid (LeC wr p po g m cs N (ov A L)) ∧ Hid (Chg (SL p g) W wr)) (fun kv _ => l.length - (intOf kv).toNat)
  case atStart => exact ⟨0, [], rfl, by omega, hidOf rfl, by rw [ov_nil]; exact H, HC0⟩
  case round =>
    obtain ⟨j, A, rfl, hj, HA, HB, HC⟩ := hrel
    have hAl : Hid (A.length = j) := by rw [HA.out]; exact hidOf (by simp; omega)
    have hLl : Hid (L.length = m) := H.out.len_
    by_cases hlt : j < l.length
    · have hltI : (j : Int) < l.length := by omega
      obtain ⟨y, hy⟩ : ∃ y, l[j]? = some y := ⟨_, List.getElem?_eq_getElem hlt⟩
      obtain ⟨b, o, hb, rfl, hcx⟩ : ∃ b o, b < B ∧ a = some ⟨b, o, none⟩ ∧ ∀ k y, l[k]? = some y → W.cell? ⟨b, o + k, none⟩ = some (.int .u8 (y.toNat : Int)) := by
        rcases HR.out with h | h
        · rw [h] at hlt; simp at hlt
        · exact h
      have hl0 : ¬ l = [] := fun e => by rw [e] at hlt; simp at hlt
      have nb1 : ¬ b = p := hBp.out hl0 ⟨b, o, none⟩ rfl
      have nb2 : ¬ b = g := hBg.out hl0 ⟨b, o, none⟩ rfl
      have qy := HC.out.cell (hcx j y hy) (fun h => by rcases h with h | h; exact nb1 h; exact nb2 h)
      obtain ⟨z, hz⟩ : ∃ z, (ov A L)[j]? = some z := ⟨_, List.getElem?_eq_getElem (by have := hAl.out; have := hLl.out; rw [ov_len (by omega)]; omega)⟩
      have d0 := HB.out.c0
      have dz := HB.out.cell hz
      have fz := HB.out.fg j
      have HB2 : Hid (LeC (wr.setCell ⟨g, j, none⟩ (.int .u8 (y.toNat : Int))) p po g m cs N (ov (A ++ [y]) L)) := by
        have := HB.out.set j y
        rw [ov_set hAl.out (by have := hLl.out; omega)] at this
        exact this
      have HA2 : Hid (A ++ [y] = l.take (j + 1)) := by rw [HA.out]; exact hidOf (take_snocL hy)
      have HC2 : Hid (Chg (SL p g) W (wr.setCell ⟨g, j, none⟩ (.int .u8 (y.toNat : Int)))) := Chg.setCell HC.out (p := ⟨g, j, none⟩) (.inr rfl) _
      have hjm : (j : Int) < m := by omega
      have hgb : ¬ g = b := fun e => nb2 e.symm
      have hgp : ¬ g = p := fun e => HB.out.ne e.symm
      clear hcx hy hz
      go_upto_region 6 with fail
      go_region_held3 (fun w' => w'.cell? ⟨p, po, none⟩ = some (.slice (some ⟨g, 0, none⟩) m m) ∧ w'.cell? ⟨b, o + j, none⟩ = some (.int .u8 (y.toNat : Int))) (first | exact ⟨d0, qy⟩ | go_keep) (fail)
      go_wp2
      go_roundw
      case rel =>
        exact ⟨j + 1, A ++ [y], by simp, by omega, HA2, HB2.out.drew, HC2.out.drew⟩
      case measure => simp [intOf]; omega
    · have hltI : ¬ (j : Int) < l.length := by omega
      obtain rfl : j = l.length := by omega
      have HA0 : Hid (A = l ++ lmsB l.length (l.length - l.length)) := by rw [HA.out, List.take_length, Nat.sub_self]; exact hidOf (by simp [lmsB])
      clear HA hAl
      go_wp2
      obtain ⟨w1, hw1⟩ : ∃ w1, w1 = wr := ⟨_, rfl⟩
      rw [← hw1] at HB HC
      have Hw1 := hidOf hw1
      clear hw1
      go_loopw [6] (fun kv wr => ∃ (j : Nat) (A : List UInt8), kv = .int .i64 j ∧ l.length ≤ j ∧ j ≤ 2 * l.length + 70 ∧ Hid (A = l ++ lmsB l.length (j - l.length)) ∧ Hid (LeC wr p po g m cs N (ov A L)) ∧ Hid (Chg (SL p g) W wr)) (fun kv _ => 2 * l.length + 70 - (intOf kv).toNat)
      case atStart => exact ⟨l.length, A, rfl, by omega, by omega, HA0, by rw [← Hw1.out]; exact HB, by rw [← Hw1.out]; exact HC⟩
      case round =>
        clear HB HC HA0 Hw1
        obtain ⟨j, A, rfl, hj0, hj, HA, HB, HC⟩ := hrel
        have hAl : Hid (A.length = j) := by rw [HA.out, List.length_append, lmsB_len]; exact hidOf (by omega)
        by_cases hlt : j < 2 * l.length + 70
        · have hltI : (j : Int) < 2 * (l.length : Int) + 70 := by omega
          obtain ⟨z, hz⟩ : ∃ z, (ov A L)[j]? = some z := ⟨_, List.getElem?_eq_getElem (by have := hAl.out; have := hLl.out; rw [ov_len (by omega)]; omega)⟩
          have d0 := HB.out.c0
          have dz := HB.out.cell hz
          have fz := HB.out.fg j
          have HB2 : Hid (LeC (wr.setCell ⟨g, j, none⟩ (.int .u8 ((lmB j).toNat : Int))) p po g m cs N (ov (A ++ [lmB j]) L)) := by
            have := HB.out.set j (lmB j)
            rw [ov_set hAl.out (by have := hLl.out; omega)] at this
            exact this
          have HA2 : Hid (A ++ [lmB j] = l ++ lmsB l.length (j + 1 - l.length)) := by
            rw [HA.out, show j + 1 - l.length = (j - l.length) + 1 by omega, lmsB_succ, show l.length + (j - l.length) = j by omega]
            exact hidOf (by simp)
          have HC2 : Hid (Chg (SL p g) W (wr.setCell ⟨g, j, none⟩ (.int .u8 ((lmB j).toNat : Int)))) := Chg.setCell HC.out (p := ⟨g, j, none⟩) (.inr rfl) _
          have hjm : (j : Int) < m := by omega
          have hgp : ¬ g = p := fun e => HB.out.ne e.symm
          have CMk : Hid (∀ wx, Calls Tryz.prog 55 #[.pointer (some ⟨p, po, none⟩), .int .i64 j] wx fun e w' => e = .returned (.int .u8 ((lmB j).toNat : Int)) ∧ wx = w') := fun wx => lmark_any _ j (by omega) wx
          generalize lmB j = y at *
          clear hz
          go_upto_region 10 with fail
          go_region_held3 (fun w' => w'.cell? ⟨p, po, none⟩ = some (.slice (some ⟨g, 0, none⟩) m m)) (first | exact d0 | go_keep) (first | (go_at_call 55; refine (CMk.out _).mono ?_; rintro e w2 ⟨rfl, rfl⟩))
          go_wp2
          go_roundw
          case rel => exact ⟨j + 1, A ++ [y], by simp, by omega, by omega, HA2, HB2.out.drew, HC2.out.drew⟩
          case measure => simp [intOf]; omega
        · have hltI : ¬ (j : Int) < 2 * (l.length : Int) + 70 := by omega
          have hje : Hid (A = l ++ lmsB l.length (l.length + 70)) := by rw [HA.out, show j - l.length = l.length + 70 by omega]; exact hidOf rfl
          have d0 := HB.out.c0
          have d1 := HB.out.c1
          have f1 := HB.out.fp (po + 1)
          have HB2 : Hid (LeC (wr.setCell ⟨p, po + 1, none⟩ (.int .i64 (l.length : Int))) p po g m (cs.setIfInBounds (po + 1) (.int .i64 (l.length : Int))) l.length (l ++ (lmsB l.length (l.length + 70) ++ L.drop (2 * l.length + 70)))) := by
            have := HB.out.setN (l.length : Int)
            rw [hje.out, ov_end l L _ rfl] at this
            exact this
          have HC2 : Hid (Chg (SL p g) W (wr.setCell ⟨p, po + 1, none⟩ (.int .i64 (l.length : Int)))) := Chg.setCell HC.out (p := ⟨p, po + 1, none⟩) (.inl rfl) _
          have e1 : (l.length : Int) ≤ 2 * (l.length : Int) + 70 := by omega
          have e2 : 2 * (l.length : Int) + 70 ≤ m := by omega
          go_wp2
          go_ret
          exact ⟨rfl, HB2.out, HC2.out⟩
def fpL (d : Nat) (bv : Value) (k : Nat) : Prop := k = d ∨ bv.ownBlock = some k
structure DkT where
  s : Nat
  v1 : Value
  v2 : Value
  X : List Rw
  Y : List Rw
  cv : Value
  a : Option Addr
  c : Nat
  n : Nat
  R : List Rg
  bv : Value
  N : Int
def DkT.fA (t : DkT) : Nat → Prop := fpA t.s t.v1 t.v2 t.X t.Y
def DkT.fR (t : DkT) : Nat → Prop := fpR (.slice t.a t.n t.c) t.R
def DkT.fp (t : DkT) (d k : Nat) : Prop := t.fA k ∨ t.fR k ∨ fpL d t.bv k
def BufI (B : Nat) (w : World) (bv : Value) : Prop := bv = .slice none 0 0 ∨ ∃ (g m : Nat) (L : List UInt8), bv = .slice (some ⟨g, 0, none⟩) m m ∧ B ≤ g ∧ w.heap[g]? = some (.cells (bCells L).toArray 5 (0, 0)) ∧ L.length = m ∧ m ≤ 5000000
structure Dk (B : Nat) (w : World) (d : Nat) (t : DkT) (m : Nat) : Prop where
  blk : w.heap[d]? = some (.cells #[.pointer (some ⟨t.s, 0, none⟩), t.cv, t.bv, .int .i64 t.N] 61 (0, 0))
  db : B ≤ d
  sp : SpD B w t.s t.v1 t.v2 t.X t.Y m
  rl : RLs B w t.a t.c t.n t.R
  rn : t.R.length = t.n
  bf : BufI B w t.bv
  AR : ∀ k, t.fA k → ¬ t.fR k
  AL : ∀ k, t.fA k → ¬ fpL d t.bv k
  RL : ∀ k, t.fR k → ¬ fpL d t.bv k
theorem BufI.lt {B : Nat} {w : World} {bv : Value} (h : BufI B w bv) {k : Nat} (hk : bv.ownBlock = some k) : B ≤ k ∧ k < w.heap.size := by
  rcases h with rfl | ⟨g, m, L, rfl, h1, h2, _⟩
  · cases hk
  · simp [Value.ownBlock] at hk
    subst hk
    exact ⟨h1, (Array.getElem?_eq_some_iff.1 h2).1⟩
theorem BufI.keep {S : Nat → Prop} {B : Nat} {w w' : World} {bv : Value} (h : BufI B w bv) (c : Chg S w w') (hs : ∀ k, bv.ownBlock = some k → ¬ S k) : BufI B w' bv := by
  rcases h with rfl | ⟨g, m, L, rfl, h1, h2, h3⟩
  · exact .inl rfl
  · exact .inr ⟨g, m, L, rfl, h1, blk_chg h2 c (hs g rfl), h3⟩
section
variable {B m m' d : Nat} {w w' w0 : World} {t t0 : DkT} {S : Nat → Prop}
theorem Dk.lt (h : Dk B w d t m) {k : Nat} (hk : t.fp d k) : B ≤ k ∧ k < w.heap.size := by
  rcases hk with hk | hk | rfl | hk
  · exact h.sp.ltA hk
  · exact h.rl.lt hk
  · exact ⟨h.db, (Array.getElem?_eq_some_iff.1 h.blk).1⟩
  · exact h.bf.lt hk
theorem RLs.keep {a : Option Addr} {c n : Nat} {R : List Rg} (h : RLs B w a c n R) (o : Chg S w w') (hs : ∀ k, fpR (.slice a n c) R k → ¬ S k) : RLs B w' a c n R :=
  ⟨own_chg h.own o (fun b hb => hs b (.inl hb)), fun z hz => (h.da z hz).chg o (fun b hb => hs b (.inr ⟨z, hz, hb⟩))⟩
theorem Dk.keep (h : Dk B w d t m) (c : Chg S w w') (hs : ∀ k, t.fp d k → ¬ S k) : Dk B w' d t m :=
  ⟨blk_chg h.blk c (hs d (.inr (.inr (.inl rfl)))), h.db, h.sp.keep c (fun k hk => hs k (.inl hk)), h.rl.keep c (fun k hk => hs k (.inr (.inl hk))), h.rn, h.bf.keep c (fun k hk => hs k (.inr (.inr (.inr hk)))), h.AR, h.AL, h.RL⟩
theorem Dk.out (h : Dk B w d t m) (o : Out w w') : Dk B w' d t m := h.keep (Chg.of_out (S := fun _ => False) o) (fun _ _ h => h)
theorem SpD.mono {s : Nat} {v1 v2 : Value} {X Y : List Rw} (h : SpD B w s v1 v2 X Y m) (hm : m ≤ m') : SpD B w s v1 v2 X Y m' :=
  ⟨h.sp, h.ok, h.lX, h.lY, h.da, h.dn, h.ds, h.le, Nat.le_trans h.nm hm⟩
theorem Dk.mono (h : Dk B w d t m) (hm : m ≤ m') : Dk B w d t m' := ⟨h.blk, h.db, h.sp.mono hm, h.rl, h.rn, h.bf, h.AR, h.AL, h.RL⟩
structure DkR (B d m : Nat) (w0 : World) (t0 : DkT) (w : World) (t : DkT) : Prop where
  dk : Dk B w d t m
  chg : Chg (t0.fp d) w0 w
  new : ∀ k, t.fp d k → t0.fp d k ∨ w0.heap.size ≤ k
theorem DkR.start (h : Dk B w d t m) : DkR B d m w t w t := ⟨h, Chg.refl _ _, fun k hk => .inl hk⟩
theorem DkR.mono (h : DkR B d m w0 t0 w t) (hm : m ≤ m') : DkR B d m' w0 t0 w t := ⟨h.dk.mono hm, h.chg, h.new⟩
theorem DkR.out (h : DkR B d m w0 t0 w t) (o : Out w w') : DkR B d m w0 t0 w' t := ⟨h.dk.out o, h.chg.trans (Chg.of_out (S := fun _ => False) o) (fun _ hk _ => hk.elim), h.new⟩
theorem DkR.ref (h : DkR B d m w0 t0 w t) (o : Out w w') {a : Option Addr} {c n : Nat} {R : List Rg} (hr : RLs w.heap.size w' a c n R) (hn : R.length = n) : DkR B d m w0 t0 w' { t with a := a, c := c, n := n, R := R } := by
  have h1 := h.out o
  have hB : B ≤ w.heap.size := Nat.le_of_lt (Nat.lt_of_le_of_lt h.dk.db (h.dk.lt (.inr (.inr (.inl rfl)))).2)
  refine ⟨⟨h1.dk.blk, h1.dk.db, h1.dk.sp, hr.base hB, hn, h1.dk.bf, fun k hk hk2 => ?_, h.dk.AL, fun k hk hk2 => ?_⟩, h1.chg, fun k hk => ?_⟩
  · have h2 := (h.dk.lt (.inl hk)).2
    have h3 := (hr.lt hk2).1
    omega
  · have h2 := (h.dk.lt (.inr (.inr hk2))).2
    have h3 := (hr.lt hk).1
    omega
  · rcases hk with hk | hk | hk
    · exact h.new k (.inl hk)
    · have h3 := (hr.lt hk).1
      exact .inr (Nat.le_trans h.chg.size h3)
    · exact h.new k (.inr (.inr hk))
theorem DkR.into (h : DkR B d m w0 t0 w t) {k : Nat} (hk : t.fp d k) (hl : k < w0.heap.size) : t0.fp d k := (h.new k hk).resolve_right (by omega)
theorem DkR.prog (h : DkR B d m w0 t0 w t) {v1 v2 : Value} {X Y : List Rw} (sp : SpD B w' t.s v1 v2 X Y m') (c : Chg t.fA w w') (hn : ∀ k, fpA t.s v1 v2 X Y k → t.fA k ∨ w.heap.size ≤ k) : DkR B d m' w0 t0 w' { t with v1 := v1, v2 := v2, X := X, Y := Y } := by
  refine ⟨⟨blk_chg h.dk.blk c (fun hk => h.dk.AL _ hk (.inl rfl)), h.dk.db, sp, h.dk.rl.keep c (fun k hk hk2 => h.dk.AR k hk2 hk), h.dk.rn, h.dk.bf.keep c (fun k hk hk2 => h.dk.AL k hk2 (.inr hk)), fun k hk hk2 => ?_, fun k hk hk2 => ?_, h.dk.RL⟩, h.chg.trans c (fun k hk hl => h.into (.inl hk) hl), fun k hk => ?_⟩
  · rcases hn k hk with h1 | h1
    · exact h.dk.AR k h1 hk2
    · have := (h.dk.lt (.inr (.inl hk2))).2
      omega
  · rcases hn k hk with h1 | h1
    · exact h.dk.AL k h1 hk2
    · have := (h.dk.lt (.inr (.inr hk2))).2
      omega
  · rcases hk with hk | hk
    · rcases hn k hk with h1 | h1
      · exact h.new k (.inl h1)
      · exact .inr (Nat.le_trans h.chg.size h1)
    · exact h.new k (.inr hk)
theorem DkR.setR (h : DkR B d m w0 t0 w t) (u : Value) : DkR B d m w0 t0 (w.setCell ⟨d, 1, none⟩ u) { t with cv := u } := by
  have c : Chg (fun b => b = d) w (w.setCell ⟨d, 1, none⟩ u) := (Chg.refl (fun b => b = d) w).setCell rfl _
  refine ⟨⟨?_, h.dk.db, h.dk.sp.keep c (fun k hk e => h.dk.AL k hk (.inl e)), h.dk.rl.keep c (fun k hk e => h.dk.RL k hk (.inl e)), h.dk.rn, ?_, h.dk.AR, h.dk.AL, h.dk.RL⟩, h.chg.trans c (fun k hk hl => by subst hk; exact h.into (.inr (.inr (.inl rfl))) hl), h.new⟩
  · rw [set_atL h.dk.blk]; rfl
  · refine h.dk.bf.keep c (fun k hk e => ?_)
    subst e
    rcases h.dk.bf with e | ⟨g, mm, L, e, _, hg, _⟩
    · rw [e] at hk; cases hk
    · rw [e] at hk
      simp [Value.ownBlock] at hk
      subst hk
      rw [h.dk.blk] at hg
      simp at hg
theorem DkR.lend (h : DkR B d m w0 t0 w t) {g mm : Nat} {N : Int} {L : List UInt8} (c : Chg (SL d g) w w') (hg : t.bv.ownBlock = some g ∨ w.heap.size ≤ g) (hl : LeC w' d 2 g mm #[.pointer (some ⟨t.s, 0, none⟩), t.cv, .slice (some ⟨g, 0, none⟩) mm mm, .int .i64 N] N L) (hm : mm ≤ 5000000) : DkR B d m w0 t0 w' { t with bv := .slice (some ⟨g, 0, none⟩) mm mm, N := N } := by
  have hB : B ≤ w.heap.size := Nat.le_of_lt (Nat.lt_of_le_of_lt h.dk.db (h.dk.lt (.inr (.inr (.inl rfl)))).2)
  have hBg : B ≤ g := hg.elim (fun e => (h.dk.bf.lt e).1) (fun e => Nat.le_trans hB e)
  have hA : ∀ k, t.fA k → ¬ SL d g k := fun k hk hs => by
    rcases hs with rfl | rfl
    · exact h.dk.AL k hk (.inl rfl)
    · rcases hg with e | e
      · exact h.dk.AL k hk (.inr e)
      · have := (h.dk.lt (.inl hk)).2; omega
  have hR : ∀ k, t.fR k → ¬ SL d g k := fun k hk hs => by
    rcases hs with rfl | rfl
    · exact h.dk.RL k hk (.inl rfl)
    · rcases hg with e | e
      · exact h.dk.RL k hk (.inr e)
      · have := (h.dk.lt (.inr (.inl hk))).2; omega
  have hS : ∀ k, fpL d (.slice (some ⟨g, 0, none⟩) mm mm) k → SL d g k := fun k hk => by
    rcases hk with rfl | hk
    · exact .inl rfl
    · simp [Value.ownBlock] at hk; exact .inr hk.symm
  refine ⟨⟨hl.hp, h.dk.db, h.dk.sp.keep c (fun k hk => hA k hk), h.dk.rl.keep c (fun k hk => hR k hk), h.dk.rn, .inr ⟨g, mm, L, rfl, hBg, hl.hg, hl.len_, hm⟩, h.dk.AR, fun k hk hk2 => hA k hk (hS k hk2), fun k hk hk2 => hR k hk (hS k hk2)⟩, h.chg.trans c (fun k hk hkl => ?_), fun k hk => ?_⟩
  · rcases hk with rfl | rfl
    · exact h.into (.inr (.inr (.inl rfl))) hkl
    · rcases hg with e | e
      · exact h.into (.inr (.inr (.inr e))) hkl
      · have := h.chg.size; omega
  · rcases hk with hk | hk | hk
    · exact h.new k (.inl hk)
    · exact h.new k (.inr (.inl hk))
    · rcases hS k hk with rfl | rfl
      · exact h.new k (.inr (.inr (.inl rfl)))
      · rcases hg with e | e
        · exact h.new k (.inr (.inr (.inr e)))
        · exact .inr (Nat.le_trans h.chg.size e)
end
def csD (t : DkT) (g mm : Nat) (n : Nat) : Array Value := #[.pointer (some ⟨t.s, 0, none⟩), t.cv, .slice (some ⟨g, 0, none⟩) mm mm, .int .i64 (n : Int)]
theorem Dk.sz {B m d : Nat} {w : World} {t : DkT} (h : Dk B w d t m) : B ≤ w.heap.size := Nat.le_of_lt (Nat.lt_of_le_of_lt h.db (h.lt (.inr (.inr (.inl rfl)))).2)
theorem RestAt.nb {B : Nat} {w : World} {a : Option Addr} {l : List UInt8} (hr : RestAt B w a l) : ¬ l = [] → ∀ ad, a = some ad → ad.block < B := fun h0 ad had => by
  rcases hr with h1 | ⟨b, o, hb, h1, _⟩
  · exact absurd h1 h0
  · rw [h1] at had; cases had; exact hb
theorem lendL_any (B m d : Nat) (w : World) (t : DkT) (h : Dk B w d t m) (a : Option Addr) (cap : Nat) (l : List UInt8) (hr : RestAt B w a l) (hl : l.length ≤ 1048576) :
    Calls Tryz.prog 54 #[.pointer (some ⟨d, 2, none⟩), .slice a l.length cap] w fun e w' => ∃ g mm R, e = .returned (.slice (some ⟨g, 0, none⟩) l.length (2 * l.length + 70)) ∧ LeC w' d 2 g mm (csD t g mm l.length) l.length (l ++ (lmsB l.length (l.length + 70) ++ R)) ∧ Chg (SL d g) w w' ∧ (t.bv.ownBlock = some g ∨ w.heap.size ≤ g) ∧ mm ≤ 5000000 := by
  have nb := hr.nb
  have hdb := h.db
  have mk : ∀ (ha : Option Addr) (hn hc : Nat), t.bv = .slice ha hn hc → hn < 2 * l.length + 70 → Calls Tryz.prog 54 #[.pointer (some ⟨d, 2, none⟩), .slice a l.length cap] w fun e w' => ∃ g mm R, e = .returned (.slice (some ⟨g, 0, none⟩) l.length (2 * l.length + 70)) ∧ LeC w' d 2 g mm (csD t g mm l.length) l.length (l ++ (lmsB l.length (l.length + 70) ++ R)) ∧ Chg (SL d g) w w' ∧ (t.bv.ownBlock = some g ∨ w.heap.size ≤ g) ∧ mm ≤ 5000000 := fun ha hn hc e hlt => by
    refine (lendC_make B w d 2 w.heap.size (4 * l.length + 512) _ _ (List.replicate (4 * l.length + 512) 0) ha hn hc t.N h.blk (by rw [e]; rfl) rfl rfl a cap l hr h.sz (fun h0 ad had => by have := nb h0 ad had; omega) rfl rfl rfl (by omega) hlt).mono ?_
    rintro e1 w1 ⟨he, hlc, hc1⟩
    exact ⟨_, _, _, he, hlc, hc1, .inr (Nat.le_refl _), by omega⟩
  rcases h.bf with e | ⟨g, mm, L, e, hBg, hg, hlen, hmm⟩
  · exact mk none 0 0 e (by omega)
  · by_cases hm : 2 * l.length + 70 ≤ mm
    · refine (lendC_again B w d 2 g mm _ t.N L ⟨h.blk, by rw [e]; rfl, rfl, hg, hlen⟩ a cap l hr (fun h0 ad had => by have := nb h0 ad had; omega) (fun h0 ad had => by have := nb h0 ad had; omega) hm (by omega)).mono ?_
      rintro e1 w1 ⟨he, hlc, hc1⟩
      refine ⟨g, mm, L.drop (2 * l.length + 70), he, ?_, hc1, .inl (by rw [e]; rfl), hmm⟩
      rw [e] at hlc
      exact hlc
    · exact mk (some ⟨g, 0, none⟩) mm mm e (by omega)
def LdE (B d : Nat) (t : DkT) (l : List UInt8) (w : World) (e : Ending) (w' : World) : Prop := ∃ g mm R ba bc, e = .returned (.slice ba l.length bc) ∧ RestA w' ba l ∧ LeC w' d 2 g mm (csD t g mm l.length) l.length (l ++ (lmsB l.length (l.length + 70) ++ R)) ∧ ∃ w1, Out w w1 ∧ Chg (SL d g) w1 w' ∧ (t.bv.ownBlock = some g ∨ w1.heap.size ≤ g) ∧ mm ≤ 5000000
theorem LeC.chg {S : Nat → Prop} {w w' : World} {p po g m : Nat} {cs : Array Value} {N : Int} {L : List UInt8} (h : LeC w p po g m cs N L) (c : Chg S w w') (hp : ¬ S p) (hg : ¬ S g) : LeC w' p po g m cs N L := ⟨blk_chg h.hp c hp, h.h0, h.h1, blk_chg h.hg c hg, h.len_⟩
set_option maxHeartbeats 4000000 in
theorem lendD_any (B m d : Nat) (w : World) (t : DkT) (h : Dk B w d t m) (which kind : Int) (at_ : Nat) (N : Int) (x dc : Nat) (da : Option Addr) (l : List UInt8) (hr : RestAt B w da l) (hl : l.length ≤ 1048576) (hx : x < 18446744073709551616) :
    Calls Tryz.prog 23 #[.pointer (some ⟨d, 0, none⟩), actV which kind at_ N x l.length dc da] w fun e w' => LdE B d t l w e w' := by
  unfold actV
  obtain ⟨k, hk⟩ : ∃ k, Hid (k = l.length) := ⟨_, rfl⟩
  obtain ⟨p, hp⟩ : ∃ p, Hid (p = w.heap.size) := ⟨_, rfl⟩
  obtain ⟨w0, H0, b0, o0⟩ : ∃ w0, Hid (w0 = w.alloc (.cells #[.int .i64 which, .int .i64 kind, .int .u64 at_, .int .i64 N, .int .u64 x, .slice da l.length dc] 31)) ∧ w0.heap[p]? = some (.cells #[.int .i64 which, .int .i64 kind, .int .u64 at_, .int .i64 N, .int .u64 x, .slice da l.length dc] 31 (0, 0)) ∧ Out w w0 := ⟨_, rfl, by rw [hp.out]; exact heap_alloc_new w _, (Out.refl w).alloc _⟩
  have c4 : w0.cell? ⟨p, 4, none⟩ = some (.int .u64 x) := (cell_B b0 4).trans rfl
  have c5 : w0.cell? ⟨p, 5, none⟩ = some (.slice da l.length dc) := (cell_B b0 5).trans rfl
  have h0 := h.out o0
  have LC := hidOf (lendL_any B m d w0.drew t (h0.out (Out.refl w0).drew) da dc l (hr.imp id (fun ⟨b, o, h1, h2, h3⟩ => ⟨b, o, h1, h2, fun k x hk => cell_later o0 (h3 k x hk)⟩)) hl)
  have hpd : ¬ p = d := fun e => by have := (h.lt (.inr (.inr (.inl rfl)))).2; rw [hp.out] at e; omega
  have hpg : ∀ g, (t.bv.ownBlock = some g ∨ w0.heap.size ≤ g) → ¬ p = g := fun g hg e => by
    rcases hg with hg | hg
    · have := (h.bf.lt hg).2; rw [hp.out] at e; omega
    · have := (Array.getElem?_eq_some_iff.1 b0).1; omega
  have HPD := hidOf hpd
  have HPG := hidOf hpg
  have O0 := hidOf o0
  rw [← hk.out] at H0 c5 LC ⊢
  have hnil : l = [] ∨ ¬ k = 0 := by
    by_cases h1 : l = []
    · exact .inl h1
    · exact .inr (by rw [hk.out]; exact fun e => h1 (List.eq_nil_of_length_eq_zero e))
  have fin : Hid (∀ W g mm R ba bc, RestA W ba l → LeC W d 2 g mm (csD t g mm k) k (l ++ (lmsB k (k + 70) ++ R)) → Chg (SL d g) w0.drew W → (t.bv.ownBlock = some g ∨ w0.heap.size ≤ g) → mm ≤ 5000000 → LdE B d t l w (.returned (.slice ba k bc)) W) := hidOf (fun W g mm R ba bc h1 h2 h3 h4 h5 => by
    rw [hk.out] at *
    exact ⟨g, mm, R, ba, bc, rfl, h1, h2, w0.drew, O0.out.drew, h3, h4, h5⟩)
  clear b0 o0 h h0 hr hpd hpg
  by_cases hz : k = 0
  · have hl0 : Hid (l = []) := hidOf (hnil.resolve_right (by omega))
    have hkI : ((k : Int) == 0) = true := by rw [hz]; rfl
    have HZ := hidOf hz
    clear hnil hz
    cases hxb : (bits BinOp.and IntKind.u64 (x : Int) 1 == 1) with
    | true =>
      go_enter Tryz.func23, Tryz.ntmps23
      go_upto_region 1 with fail
      rw [← hp.out]
      rw [← H0.out]
      refine wp_region_held_drew (S := (fun w' => w'.cell? ⟨p, 5, none⟩ = some (.slice da k dc))) (by kernel_rfl) ?_ (fun hHeld => ?_)
      · exact c5
      refine tkLB [0, 1, 2, 3, 4] ?_
      iterate 5 (refine tkLC (v := ?_) rfl rfl (by kernel_rfl) (by kernel_rfl) (by kernel_rfl) (fun _ _ _ h => h) (by rfl) (by assumption) ?_ ?_; rotate_left; (· (intro w hSw; (try dsimp only at hSw); go_simp; (try with_reducible rfl))); simp only [Act.put, List.setIfInBounds_toArray, List.set_cons_zero, List.set_cons_succ])
      refine tkLE ?_
      refine wpAnyH_ready (rs := [5]) (by kernel_rfl) (by simp) ?_
      refine (AllReadyH.cons rfl (fun Ko5 hKo5 => ?_) AllReadyH.nil)
      rw [if_pos (by rfl)]
      go_simp
      go_at_call 54
      refine (LC.out).mono ?_
      rintro e w1 ⟨g, mm, R, rfl, hlc, hc1, hg1, hm1⟩
      have HLC := hidOf hlc
      have HC1 := hidOf hc1
      have HG1 := hidOf hg1
      have HM1 := hidOf hm1
      have e4 := hc1.cell (show w0.drew.cell? _ = _ from c4) (fun hs => hs.elim HPD.out (HPG.out g hg1))
      have e5 := hc1.cell (show w0.drew.cell? _ = _ from c5) (fun hs => hs.elim HPD.out (HPG.out g hg1))
      clear hlc hc1 hg1 hm1
      refine hKo5.out _ _ e5 (fun hHeld5 => ?_)
      try simp only [Act.put, List.setIfInBounds_toArray, List.set_cons_zero, List.set_cons_succ]
      refine tkLB [6] ?_
      iterate 1 (refine tkLC (v := ?_) rfl rfl (by kernel_rfl) (by kernel_rfl) (by kernel_rfl) (fun _ _ _ h => h) (by rfl) (by assumption) ?_ ?_; rotate_left; (· (intro w hSw; (try dsimp only at hSw); go_simp; (try with_reducible rfl))); simp only [Act.put, List.setIfInBounds_toArray, List.set_cons_zero, List.set_cons_succ])
      refine tkLE ?_
      refine wpAnyH_done (by kernel_rfl) ?_ _
      go_wp2
      go_ret
      have h9 := fin.out w1 g mm R none 0 (.inl hl0.out) HLC.out HC1.out HG1.out HM1.out
      rw [HZ.out] at h9
      exact h9
    | false =>
      go_enter Tryz.func23, Tryz.ntmps23
      go_upto_region 1 with fail
      rw [← hp.out]
      rw [← H0.out]
      refine wp_region_held_drew (S := (fun w' => w'.cell? ⟨p, 5, none⟩ = some (.slice da k dc))) (by kernel_rfl) ?_ (fun hHeld => ?_)
      · exact c5
      refine tkLB [0, 1, 2, 3, 4] ?_
      iterate 5 (refine tkLC (v := ?_) rfl rfl (by kernel_rfl) (by kernel_rfl) (by kernel_rfl) (fun _ _ _ h => h) (by rfl) (by assumption) ?_ ?_; rotate_left; (· (intro w hSw; (try dsimp only at hSw); go_simp; (try with_reducible rfl))); simp only [Act.put, List.setIfInBounds_toArray, List.set_cons_zero, List.set_cons_succ])
      refine tkLE ?_
      refine wpAnyH_ready (rs := [5]) (by kernel_rfl) (by simp) ?_
      refine (AllReadyH.cons rfl (fun Ko5 hKo5 => ?_) AllReadyH.nil)
      rw [if_pos (by rfl)]
      go_simp
      go_at_call 54
      refine (LC.out).mono ?_
      rintro e w1 ⟨g, mm, R, rfl, hlc, hc1, hg1, hm1⟩
      have HLC := hidOf hlc
      have HC1 := hidOf hc1
      have HG1 := hidOf hg1
      have HM1 := hidOf hm1
      have e4 := hc1.cell (show w0.drew.cell? _ = _ from c4) (fun hs => hs.elim HPD.out (HPG.out g hg1))
      have e5 := hc1.cell (show w0.drew.cell? _ = _ from c5) (fun hs => hs.elim HPD.out (HPG.out g hg1))
      clear hlc hc1 hg1 hm1
      refine hKo5.out _ _ e5 (fun hHeld5 => ?_)
      try simp only [Act.put, List.setIfInBounds_toArray, List.set_cons_zero, List.set_cons_succ]
      refine tkLB [6] ?_
      iterate 1 (refine tkLC (v := ?_) rfl rfl (by kernel_rfl) (by kernel_rfl) (by kernel_rfl) (fun _ _ _ h => h) (by rfl) (by assumption) ?_ ?_; rotate_left; (· (intro w hSw; (try dsimp only at hSw); go_simp; (try with_reducible rfl))); simp only [Act.put, List.setIfInBounds_toArray, List.set_cons_zero, List.set_cons_succ])
      refine tkLE ?_
      refine wpAnyH_done (by kernel_rfl) ?_ _
      go_wp2
      go_ret
      exact fin.out w1 g mm R _ _ (.inl hl0.out) HLC.out HC1.out HG1.out HM1.out
  · have hkI : ((k : Int) == 0) = false := by rw [beq_eq_false_iff_ne]; omega
    clear hnil hz
    go_enter Tryz.func23, Tryz.ntmps23
    go_upto_region 1 with fail
    rw [← hp.out]
    rw [← H0.out]
    refine wp_region_held_drew (S := (fun w' => w'.cell? ⟨p, 5, none⟩ = some (.slice da k dc))) (by kernel_rfl) ?_ (fun hHeld => ?_)
    · exact c5
    refine tkLB [0, 1, 2, 3, 4] ?_
    iterate 5 (refine tkLC (v := ?_) rfl rfl (by kernel_rfl) (by kernel_rfl) (by kernel_rfl) (fun _ _ _ h => h) (by rfl) (by assumption) ?_ ?_; rotate_left; (· (intro w hSw; (try dsimp only at hSw); go_simp; (try with_reducible rfl))); simp only [Act.put, List.setIfInBounds_toArray, List.set_cons_zero, List.set_cons_succ])
    refine tkLE ?_
    refine wpAnyH_ready (rs := [5]) (by kernel_rfl) (by simp) ?_
    refine (AllReadyH.cons rfl (fun Ko5 hKo5 => ?_) AllReadyH.nil)
    rw [if_pos (by rfl)]
    go_simp
    go_at_call 54
    refine (LC.out).mono ?_
    rintro e w1 ⟨g, mm, R, rfl, hlc, hc1, hg1, hm1⟩
    have HLC := hidOf hlc
    have HC1 := hidOf hc1
    have HG1 := hidOf hg1
    have HM1 := hidOf hm1
    have e4 := hc1.cell (show w0.drew.cell? _ = _ from c4) (fun hs => hs.elim HPD.out (HPG.out g hg1))
    have e5 := hc1.cell (show w0.drew.cell? _ = _ from c5) (fun hs => hs.elim HPD.out (HPG.out g hg1))
    clear hlc hc1 hg1 hm1
    refine hKo5.out _ _ e5 (fun hHeld5 => ?_)
    try simp only [Act.put, List.setIfInBounds_toArray, List.set_cons_zero, List.set_cons_succ]
    refine tkLB [6] ?_
    iterate 1 (refine tkLC (v := ?_) rfl rfl (by kernel_rfl) (by kernel_rfl) (by kernel_rfl) (fun _ _ _ h => h) (by rfl) (by assumption) ?_ ?_; rotate_left; (· (intro w hSw; (try dsimp only at hSw); go_simp; (try with_reducible rfl))); simp only [Act.put, List.setIfInBounds_toArray, List.set_cons_zero, List.set_cons_succ])
    refine tkLE ?_
    refine wpAnyH_done (by kernel_rfl) ?_ _
    go_wp2
    go_ret
    exact fin.out w1 g mm R _ _ (HLC.out.rest.a) HLC.out HC1.out HG1.out HM1.out
theorem sorted_of {R F : List Rg} (hp : (R.map fdR).Perm (F.map fdR)) (hd : F.Pairwise (fun x y => x.f ≠ y.f)) : ∃ S : List (Nat × List UInt8), (R.map fdR).Perm S ∧ S.Pairwise (fun x y => x.1 < y.1) := by
  have h1 := List.pairwise_mergeSort (le := fun (x y : Rg) => decide (x.f ≤ y.f)) (by intro a b c h1 h2; simp at h1 h2 ⊢; omega) (by intro a b; simp; omega) R
  have h2 := List.mergeSort_perm R (fun (x y : Rg) => decide (x.f ≤ y.f))
  have h3 : ((R.mergeSort (fun (x y : Rg) => decide (x.f ≤ y.f))).map fdR).Perm (R.map fdR) := h2.map fdR
  have h4 := strict_of (R := R.mergeSort (fun (x y : Rg) => decide (x.f ≤ y.f))) (h1.imp (fun {a b} hab => by simpa using hab)) (h3.trans hp) hd
  exact ⟨_, h3.symm, srt_fd h4⟩
end Go.Proofs.YtekjfbmebekmeaaGreat
