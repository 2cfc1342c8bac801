import Derived.Test.YtbdmbicnlfcclaaSqj
namespace Go.Proofs.Ytbdmbicnlfcclaa
open Go.RowKit
set_option linter.unusedVariables false
set_option linter.unusedSimpArgs false
/-- the queue's blocks are none of the lender's -/
theorem QI.nokind {B : Nat} {w : World} {p : Nat} {tt : Int} {r : Nat → Value} {L : Nat → List Value} {x : Value} {T : List Sy} (h : QI B w p tt r L) (hx : OwS 0 x T w) (b : Nat) (cs : Array Value) (t : TypeId) (hb : w.heap[b]? = some (.cells cs t (0, 0))) (ht : t = 39 ∨ t = 5) : ¬ (QSQ p r (L 0) b ∨ x.ownBlock = some b) := fun hs => by
    rcases hs with (e | ⟨j, hj, e⟩ | ⟨y, hy, e⟩) | e
    · have h1 := h.sh.st
      rw [← e, hb] at h1
      simp at h1
      rcases ht with e | e
      · rw [e] at h1; exact absurd h1.2 (by decide)
      · rw [e] at h1; exact absurd h1.2 (by decide)
    · rcases ht with e2 | e2
      · subst e2; exact own_kind (h.sh.row j hj) hb (by decide) e
      · subst e2; exact own_kind (h.sh.row j hj) hb (by decide) e
    · obtain ⟨M, _, h2⟩ := h.bl y hy
      rcases ht with e2 | e2
      · subst e2; exact own_kind h2 hb (by decide) e
      · subst e2; exact own_kind h2 hb (by decide) e
    · rcases ht with e2 | e2
      · subst e2; exact own_kind hx hb (by decide) e
      · subst e2; exact own_kind hx hb (by decide) e
theorem QI.lender {B : Nat} {w w' : World} {p pl g m : Nat} {N : Int} {Lb : List UInt8} {tt : Int} {r : Nat → Value} {L : Nat → List Value} {x : Value} {T : List Sy} (h : QI B w p tt r L) (hx : OwS 0 x T w) (hl : LeB w pl g m N Lb) (c : Chg (fun b => QSQ p r (L 0) b ∨ x.ownBlock = some b) w w') : LeB w' pl g m N Lb :=
  ⟨(c.block pl hl.ltp (h.nokind hx pl _ _ hl.hp (.inl rfl))).trans hl.hp, (c.block g hl.ltg (h.nokind hx g _ _ hl.hg (.inr rfl))).trans hl.hg, hl.len_⟩
theorem LeB.uniq2 {w : World} {p g m g' m' : Nat} {N N' : Int} {L L' : List UInt8} (h : LeB w p g m N L) (h' : LeB w p g' m' N' L') : g = g' := by
  have h1 := h.hp
  rw [h'.hp] at h1
  simp at h1
  exact h1.1.1.symm
/-- what is told of blocks of bytes that are not the lender's -/
def Frm (pl : Nat) (w w' : World) : Prop := ∀ b cs, w.heap[b]? = some (.cells cs 5 (0, 0)) → (∀ g m N L, LeB w pl g m N L → ¬ b = g) → w'.heap[b]? = w.heap[b]? ∧ ∀ g m N L, LeB w' pl g m N L → ¬ b = g
theorem Frm.trans {pl : Nat} {w w' w'' : World} (h : Frm pl w w') (k : Frm pl w' w'') : Frm pl w w'' := fun b cs hb hn => by
  obtain ⟨h1, h2⟩ := h b cs hb hn
  obtain ⟨h3, h4⟩ := k b cs (h1.trans hb) h2
  exact ⟨h3.trans h1, h4⟩
/-- bytes of the law's own that lie apart from the lender -/
def ApB (w : World) (pl : Nat) (v : Value) : Prop := ∀ b, v.ownBlock = some b → ∀ g m N L, LeB w pl g m N L → ¬ b = g
theorem OwB.frm {B pl : Nat} {v : Value} {O : List UInt8} {w w' : World} (h : OwB B v O w) (ha : ApB w pl v) (f : Frm pl w w') : OwB B v O w' ∧ ApB w' pl v := by
  rcases h.2 with ⟨e, h0⟩ | ⟨g, cap, cur, e, hb, hg, hn, hm, hs, ht⟩
  · exact ⟨⟨h.1, .inl ⟨e, h0⟩⟩, fun b hb => by rw [e] at hb; cases hb⟩
  · obtain ⟨h1, h2⟩ := f g cur hg (ha g (by rw [e]; rfl))
    refine ⟨⟨h.1, .inr ⟨g, cap, cur, e, hb, h1.trans hg, hn, hm, hs, ht⟩⟩, fun b hb => ?_⟩
    rw [e] at hb
    simp [Value.ownBlock] at hb
    subst hb
    exact h2
set_option maxRecDepth 20000 in
set_option maxHeartbeats 2000000 in
theorem reads_any (W w : World) (pl ps B : Nat) (tt : Int) (kn : Nat) (h : Rsy W w pl ps B tt kn) (a : Option Addr) (cap : Nat) (l : List UInt8) (hr : RestAt w.heap.size w a l) (hcap : l.length ≤ cap) (hll : l.length ≤ 2000000) (ha : Ap2 w pl a l) (hkn : kn ≤ 400000000000) (htt : tt ≤ 700000000000000) :
    Calls Try.prog 13 #[.slice a l.length cap, .pointer (some ⟨pl, 0, none⟩), .pointer (some ⟨ps, 0, none⟩)] w fun e w' => e = .returned (.bool true) ∧ ∃ tt', Rsy W w' pl ps B tt' (kn + 15) ∧ tt' ≤ tt + l.length ∧ Frm pl w w' := by
  have CR := hidOf ((refRead_any w a cap l hr hcap (by omega)).mono fun e w' h => h.flat)
  have CT : Hid (∀ wx g m R, LeB wx pl g m l.length (l ++ (lmsB l.length (l.length + 70) ++ R)) → Calls Try.prog 17 #[.slice (some ⟨g, 0, none⟩) l.length (2 * l.length + 70)] wx fun e w' => ∃ a c, e = .returned (.tuple #[.slice a (rdL l).length c, .int .i64 (rdA l), .int .i64 (rdN l)]) ∧ OwS wx.heap.size (.slice a (rdL l).length c) (rdL l) w' ∧ Out wx w') := fun wx g m R hb => (read_any wx g 0 (2 * l.length + 70) l hb.ltg (fun k x hx => by rw [Nat.zero_add]; exact hb.cell (by rw [List.getElem?_append_left (List.getElem?_eq_some_iff.1 hx).1]; exact hx)) (by omega) (by omega)).mono fun e w' h => h.flat
  have CB : Hid (∀ wx g m R, LeB wx pl g m l.length (l ++ (lmsB l.length (l.length + 70) ++ R)) → RestAt wx.heap.size wx a l → Calls Try.prog 27 #[.pointer (some ⟨pl, 0, none⟩), .slice a l.length cap] wx fun e w' => e = .returned (.bool true) ∧ (∃ L', LeB w' pl g m l.length L') ∧ Chg (SL pl g) wx w') := fun wx g m R h1 h2 => back_any wx pl g m l R h1 _ a cap h2 (by omega)
  have htl : (rdL l).length ≤ 2000000 := Nat.le_trans (rdL_len l) hll
  have Htl := hidOf (rdL_len l)
  have HH := hidOf h
  have HR := hidOf hr
  have HA := hidOf ha
  have ht0 := h.t0
  have HBw : Hid (B ≤ w.heap.size) := hidOf (by have := h.lB; have := h.ls.lt; omega)
  clear h hr ha
  generalize rdA l = E1 at *
  generalize rdN l = E2 at *
  generalize rdL l = T at *
  obtain ⟨n, hn⟩ : ∃ n, n = T.length := ⟨_, rfl⟩
  have HTn := hidOf hn.symm
  rw [← hn] at CR CT htl Htl
  clear hn
  go_enter Try.func13, Try.ntmps13
  go_upto_region 2 with (go_at_call 25; refine CR.out.mono ?_; rintro e w1 ⟨a1, c1, rfl, hown, ho⟩; have W1 := hidOf hown; have P1 := hidOf ho; clear hown ho)
  have CL := hidOf (lend_any2 w1 pl B a cap l (HH.out.ls.out P1.out) (Nat.le_trans HBw.out P1.out.size) (rest_out HR.out P1.out) (HA.out.out HH.out.ls P1.out) (by omega))
  go_upto_region 3 with (first | (go_at_call 26; refine CL.out.mono ?_; rintro e w2 ⟨g, m, R, rfl, hb, hc, hlp, hg, hgo, hne⟩; have B2 := hidOf hb; have C2 := hidOf hc; have LP := hidOf hlp; have Hg := hidOf hg; have HGo := hidOf hgo; have NE := hidOf hne; clear hb hc hlp hg hgo hne) | (go_at_call 17; refine (CT.out w2 g m R B2.out).mono ?_; rintro e w3 ⟨a3, c3, rfl, hown, ho⟩; have W3 := hidOf hown; have P3 := hidOf ho; clear hown ho))
  have V3 : Hid (OwS 0 (.slice a1 n c1) T w3) := hidOf (((W1.out.lp2 LP.out C2.out).out P3.out).low (Nat.zero_le _))
  have G3 : Hid (OwS 0 (.slice a3 n c3) T w3) := hidOf (W3.out.low (Nat.zero_le _))
  have B3 := hidOf (B2.out.out P3.out)
  have R3 : Hid (RestAt w3.heap.size w3 a l) := hidOf (rest_out (((rest_out HR.out P1.out).keep2 C2.out NE.out).wide C2.out.size) P3.out)
  have CS := hidOf (sameQ2 w3 a3 a1 n c3 n c1 T HTn.out HTn.out G3.out V3.out (by rw [HTn.out]; omega))
  clear V3
  go_upto_region 5 with (first | (go_at_call 16; refine (num_any _ _).mono ?_; rintro e w8 ⟨rfl, hw⟩; subst hw) | (go_at_call 18; refine CS.out.mono ?_; rintro e w4 ⟨rfl, ho⟩; have P4 := hidOf ho; clear ho) | (go_at_call 27; refine (CB.out w4 g m R (B3.out.out P4.out) (rest_out R3.out P4.out)).mono ?_; rintro e w5 ⟨rfl, ⟨L5, hb5⟩, hc5⟩; have B5 := hidOf hb5; have C5 := hidOf hc5; clear hb5 hc5))
  have KEY : Hid (Calls Try.prog 28 #[.pointer (some ⟨ps, 0, none⟩), .slice a3 n c3] w5 fun e w' => (∃ q, e = .returned q) ∧ Rsy W w' pl ps B (tt + n) (kn + 15) ∧ Frm pl w w') := by
    obtain ⟨r, L, hq, hf, hk⟩ := HH.out.qi
    have q2 : QI B w2 ps tt r L := (hq.out P1.out).away C2.out LP.out.kind
    have B4 := B3.out.out P4.out
    have q5 : QI B w5 ps tt r L := ((q2.out P3.out).out P4.out).away C5.out B4.lp2.kind
    have G5 : OwS 0 (.slice a3 n c3) T w5 := (G3.out.out P4.out).lp2 B4.lp2 C5.out
    have hnew : New6 B L (.slice a3 n c3) := q2.newer (Nat.le_refl _) (fun b hb => (World.ownsRow.lt W3.out b hb).1)
    have hlB := HH.out.lB
    have hbW := HH.out.bW
    have hg := Hg.out
    have o2 : Out W w2 := Chg.out C2.out (HH.out.out.trans P1.out) (fun k hk => by rcases hk with e | e <;> omega)
    have o5 : Out W w5 := Chg.out C5.out ((o2.trans P3.out).trans P4.out) (fun k hk => by rcases hk with e | e <;> omega)
    refine (ownQ_any B w5 ps tt r L q5 hf (by omega) ht0 (by omega) a3 n c3 T HTn.out (by omega) G5 hnew).mono ?_
    rintro e w' ⟨he, r', L', h1, h2, h3, c⟩
    have BL := q5.lender G5 B5.out c
    refine ⟨he, ⟨⟨r', L', h1, h2, by omega⟩, .inr ⟨g, m, _, L5, BL, hg⟩, hlB, hbW, Chg.out c o5 (fun k hk => ?_), by omega⟩, fun b cs hb hn => ?_⟩
    · rcases hk with e | e
      · have := q5.lb k e; omega
      · have := hnew.lb k e; omega
    · have hbl : b < w.heap.size := (Array.getElem?_eq_some_iff.1 hb).1
      have hb1 : w1.heap[b]? = w.heap[b]? := P1.out.block b hbl
      have hbl1 : b < w1.heap.size := Nat.lt_of_lt_of_le hbl P1.out.size
      have hbp : ¬ b = pl := fun e => by
        obtain ⟨cs2, h4⟩ := LP.out.1
        rw [← e, hb1, hb] at h4; simp at h4
      have hbg : ¬ b = g := by
        rcases HGo.out with ⟨m1, N1, L1, h4⟩ | h4
        · rcases HH.out.ls with h5 | ⟨g2, m2, N2, L2, h5, _⟩
          · have h6 := h4.hp
            rw [(P1.out.block pl (Array.getElem?_eq_some_iff.1 h5).1).trans h5] at h6; simp at h6
          · rw [h4.uniq2 (h5.out P1.out)]
            exact hn _ _ _ _ h5
        · omega
      have hsl : ¬ SL pl g b := fun hs => by
        rcases hs with e | e
        · exact hbp e
        · exact hbg e
      have hb2 : w2.heap[b]? = w1.heap[b]? := C2.out.block b hbl1 hsl
      have hbl2 : b < w2.heap.size := Nat.lt_of_lt_of_le hbl1 C2.out.size
      have hb3 : w3.heap[b]? = w2.heap[b]? := P3.out.block b hbl2
      have hbl3 : b < w3.heap.size := Nat.lt_of_lt_of_le hbl2 P3.out.size
      have hb4 : w4.heap[b]? = w3.heap[b]? := P4.out.block b hbl3
      have hbl4 : b < w4.heap.size := Nat.lt_of_lt_of_le hbl3 P4.out.size
      have hb5 : w5.heap[b]? = w4.heap[b]? := C5.out.block b hbl4 hsl
      have hbl5 : b < w5.heap.size := Nat.lt_of_lt_of_le hbl4 C5.out.size
      have h05 : w5.heap[b]? = w.heap[b]? := hb5.trans (hb4.trans (hb3.trans (hb2.trans hb1)))
      refine ⟨(c.block b hbl5 (q5.nokind G5 b cs _ (h05.trans hb) (.inr rfl))).trans h05, fun g' m' N' L' h6 => ?_⟩
      rw [h6.uniq2 BL]
      exact hbg
  go_upto_region 6 with (go_at_call 28; refine KEY.out.mono ?_; rintro e w6 ⟨⟨q6, rfl⟩, hs, hfr⟩; have S6 := hidOf hs; have F6 := hidOf hfr; clear hs hfr)
  have CH := hidOf (S6.out.holds (by omega))
  go_wp2_with (go_at_call 14; refine CH.out.mono ?_; rintro e w7 ⟨rfl, ho⟩; have P7 := hidOf ho; clear ho)
  go_ret
  refine ⟨rfl, _, S6.out.more P7.out, by have := Htl.out; omega, F6.out.trans (fun b cs hb hn => ⟨P7.out.block b (Array.getElem?_eq_some_iff.1 hb).1, fun g' m' N' L' h6 => ?_⟩)⟩
  rcases S6.out.ls with h5 | ⟨g2, m2, N2, L2, h5, _⟩
  · have h7 := h6.hp
    rw [(P7.out.block pl (Array.getElem?_eq_some_iff.1 h5).1).trans h5] at h7; simp at h7
  · rw [h6.uniq2 (h5.out P7.out)]
    exact hn _ _ _ _ h5
/-- a text that came in -/
theorem Rsy.readsI {W w : World} {pl ps B : Nat} {tt : Int} {kn : Nat} (h : Rsy W w pl ps B tt kn) {a : Option Addr} {cap : Nat} {l : List UInt8} (hr : RestAt W.heap.size W a l) (hcap : l.length ≤ cap) (hll : l.length ≤ 2000000) (hkn : kn ≤ 400000000000) (htt : tt ≤ 700000000000000) :
    Calls Try.prog 13 #[.slice a l.length cap, .pointer (some ⟨pl, 0, none⟩), .pointer (some ⟨ps, 0, none⟩)] w fun e w' => e = .returned (.bool true) ∧ ∃ tt', Rsy W w' pl ps B tt' (kn + 15) ∧ tt' ≤ tt + l.length ∧ Frm pl w w' := by
  have hlt : ¬ l = [] → ∀ ad, a = some ad → ad.block < W.heap.size := fun hl ad had => by
    rcases hr with e | ⟨b, o, hb, e, _⟩
    · exact absurd e hl
    · rw [e] at had; cases had; exact hb
  have hlB := h.lB
  have hbW := h.bW
  refine reads_any W w pl ps B tt kn h a cap l (rest_out hr h.out) hcap hll (fun hl ad had => ⟨by have := hlt hl ad had; omega, fun g m N L hD => ?_⟩) hkn htt
  have h3 := hlt hl ad had
  rcases h.ls with hn | ⟨g1, m1, N1, L1, hD1, hg1⟩
  · have h1 := hD.hp
    rw [hn] at h1; simp at h1
  · have h1 := hD.hp
    rw [hD1.hp] at h1
    simp at h1
    omega
/-- a text of the law's own -/
theorem Rsy.readsT {W w : World} {pl ps B : Nat} {tt : Int} {kn : Nat} (h : Rsy W w pl ps B tt kn) {a : Option Addr} {n cap B0 : Nat} {l : List UInt8} (hown : OwB B0 (.slice a n cap) l w) (hn : l.length = n) (hap : ApB w pl (.slice a n cap)) (hll : l.length ≤ 2000000) (hkn : kn ≤ 400000000000) (htt : tt ≤ 700000000000000) :
    Calls Try.prog 13 #[.slice a n cap, .pointer (some ⟨pl, 0, none⟩), .pointer (some ⟨ps, 0, none⟩)] w fun e w' => e = .returned (.bool true) ∧ ∃ tt', Rsy W w' pl ps B tt' (kn + 15) ∧ tt' ≤ tt + l.length ∧ Frm pl w w' := by
  subst hn
  obtain ⟨a', c', hv, hcap, hat⟩ := OwB.rest hown
  simp only [Value.slice.injEq] at hv
  obtain ⟨rfl, _, rfl⟩ := hv
  refine reads_any W w pl ps B tt kn h a cap l hat hcap hll (fun hl ad had => ⟨fun e => ?_, fun g m N L hD => hap ad.block (by rw [had]; rfl) g m N L hD⟩) hkn htt
  have hk : ∃ cs, w.heap[pl]? = some (.cells cs 39 (0, 0)) := by
    rcases h.ls with hn | ⟨g1, m1, N1, L1, hD1, hg1⟩
    · exact ⟨_, hn⟩
    · exact ⟨_, hD1.hp⟩
  obtain ⟨cs, hk⟩ := hk
  exact own_kind hown hk (by decide) (by rw [had, ← e]; rfl)
/-- texts at an address -/
def LbAt (W : World) (a : Option Addr) (LL : List (List UInt8)) : Prop := LL = [] ∨ ∃ b off, a = some ⟨b, off, none⟩ ∧ ∀ (k : Nat) l, LL[k]? = some l → ∃ la lc, W.cell? ⟨b, off + k, none⟩ = some (.slice la l.length lc) ∧ RestAt W.heap.size W la l ∧ l.length ≤ lc
def lendO : Obj := .cells #[.slice none 0 0, .int .i64 0] 39 (0, 0)
def symsO : Obj := .cells #[.int .i64 0, .bool false, .slice none 0 0, .slice none 0 0, .slice none 0 0, .slice none 0 0] 42 (0, 0)
theorem QI.new (w : World) (B : Nat) (hB : B ≤ w.heap.size) : QI B (w.alloc symsO) w.heap.size 0 (fun _ => .slice none 0 0) (fun _ => []) := by
  have n0 : ∀ {α : Type} {j : Nat} {x : α}, ([] : List α)[j]? = some x → False := fun h => by simp at h
  refine ⟨⟨heap_alloc_new w _, fun j _ => World.ownsRow_nil _ _ _ _, ?_⟩, rfl, rfl, ?_, ?_, ?_, ?_, ?_, ?_⟩
  · intro i j b _ _ _ h; cases h
  · intro i x y hx; exact (n0 hx).elim
  · intro i x y hx; exact (n0 hx).elim
  · intro x hx; cases hx
  · intro i j x y hx; exact (n0 hx).elim
  · intro l y b _ _ j x hx; exact (n0 hx).elim
  · intro b hb
    rcases hb with e | ⟨j, _, e⟩ | ⟨x, hx, _⟩
    · rw [e]; exact hB
    · cases e
    · cases hx
theorem Rsy.start {W w : World} (o : Out W w) : Rsy W ((w.alloc lendO).alloc symsO) w.heap.size (w.heap.size + 1) w.heap.size 0 0 := by
  have hs : (w.alloc lendO).heap.size = w.heap.size + 1 := size_alloc _ _
  have o2 : Out (w.alloc lendO) ((w.alloc lendO).alloc symsO) := (Out.refl _).alloc _
  refine ⟨⟨_, _, by rw [← hs]; exact QI.new (w.alloc lendO) w.heap.size (by omega), by simp, by simp⟩, ?_, Nat.le_refl _, o.size, (o.alloc _).trans o2, Int.le_refl _⟩
  exact (show LS2 (w.alloc lendO) w.heap.size w.heap.size from .inl (heap_alloc_new w _)).out o2
end Go.Proofs.Ytbdmbicnlfcclaa
