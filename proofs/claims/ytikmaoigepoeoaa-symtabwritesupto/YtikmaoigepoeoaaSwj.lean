import Derived.Test.YtikmaoigepoeoaaSwi
namespace Go.Proofs.Ytikmaoigepoeoaa
open Go.RowKit
set_option linter.unusedVariables false
set_option linter.unusedSimpArgs false
/-- lists of symbols at an address -/
def LsAt (W : World) (a : Option Addr) (LL : List (List Sy)) : Prop := LL = [] ∨ ∃ b off, a = some ⟨b, off, none⟩ ∧ ∀ (k : Nat) l, LL[k]? = some l → ∃ la lc, W.cell? ⟨b, off + k, none⟩ = some (.slice la l.length lc) ∧ SyAt W.heap.size W la l ∧ l.length ≤ lc
theorem Db.uniq {w : World} {p g m g' m' : Nat} {L L' : List Sy} (h : Db w p g m L) (h' : Db w p g' m' L') : g = g' := by
  have h1 := h.hp
  rw [h'.hp] at h1
  simp at h1
  exact h1.1.symm
theorem Db.not_nil {w : World} {p g m : Nat} {L : List Sy} (h : Db w p g m L) (h' : w.heap[p]? = some (.cells #[.slice none 0 0] 27 (0, 0))) : False := by
  have h1 := h.hp
  rw [h'] at h1
  simp at h1
/-- a list that came in -/
theorem Wsy.writesI {W w : World} {d pb B : Nat} {cb c1 : Int} (h : Wsy W w d pb B cb c1) {a : Option Addr} {cap : Nat} {l : List Sy} (hr : SyAt W.heap.size W a l) (hcap : l.length ≤ cap) (hll : l.length ≤ 2000000) (hk : ∀ s ∈ l, SyOk s) (hcb : cb ≤ 10000000000) (hc1 : c1 ≤ 800000000000000) :
    Calls Try.prog 9 #[.slice a l.length cap, .pointer (some ⟨d, 0, none⟩), .pointer (some ⟨pb, 0, none⟩)] w fun e w' => e = .returned (.bool true) ∧ ∃ c1', Wsy W w' d pb B (cb + 1) c1' ∧ c1' ≤ c1 + 24 * l.length + 24 := by
  have hlt : ¬ l = [] → ∀ ad, a = some ad → ad.block < W.heap.size := fun hl ad had => by
    rcases hr with e | ⟨b, o, hb, e, _⟩
    · exact absurd e hl
    · rw [e] at had; cases had; exact hb
  have hdB := h.dB
  have hbW := h.bW
  have hsz := h.out.size
  refine writes_any W w d pb B cb c1 h a cap l (hr.out h.out) hcap hll hk (fun hl ad had => ⟨by have := hlt hl ad had; omega, by have := hlt hl ad had; omega, fun g m L hD => ?_⟩) (fun hl ad had => .inl (by have := hlt hl ad had; omega)) hcb hc1
  have h3 := hlt hl ad had
  rcases h.ds with hn | ⟨g1, m1, L1, hD1, hg1, _⟩
  · exact (hD.not_nil hn).elim
  · have := hD.uniq hD1
    omega
/-- a list of the law's own, new since w -/
theorem Wsy.writesT {W w w' : World} {d pb B : Nat} {cb c1 : Int} (h : Wsy W w d pb B cb c1) (o : Out w w') {a : Option Addr} {n cap : Nat} {l : List Sy} (hown : OwS w.heap.size (.slice a n cap) l w') (hn : l.length = n) (hll : l.length ≤ 2000000) (hk : ∀ s ∈ l, SyOk s) (hcb : cb ≤ 10000000000) (hc1 : c1 ≤ 800000000000000) :
    Calls Try.prog 9 #[.slice a n cap, .pointer (some ⟨d, 0, none⟩), .pointer (some ⟨pb, 0, none⟩)] w' fun e w' => e = .returned (.bool true) ∧ ∃ c1', Wsy W w' d pb B (cb + 1) c1' ∧ c1' ≤ c1 + 24 * l.length + 24 := by
  subst hn
  obtain ⟨a', c', hv, hcap, hat⟩ := OwS.at hown
  simp only [Value.slice.injEq] at hv
  obtain ⟨rfl, _, rfl⟩ := hv
  have hlt : ∀ ad, a = some ad → w.heap.size ≤ ad.block ∧ ad.block < w'.heap.size := fun ad had => World.ownsRow.lt hown ad.block (by rw [had]; rfl)
  have hd := h.ds.lt
  refine writes_any W w' d pb B cb c1 (h.more o) a cap l hat hcap hll hk (fun hl ad had => ⟨(hlt ad had).2, by have := hlt ad had; omega, fun g m L hD => ?_⟩) (fun hl ad had => .inr ?_) hcb hc1
  · have h3 := hlt ad had
    rcases h.ds with hn | ⟨g1, m1, L1, hD1, hg1, _⟩
    · exact (hD.not_nil ((o.block d hd).trans hn)).elim
    · have e := hD.uniq (hD1.out o)
      have := hD1.hg.lt
      omega
  · obtain ⟨_, cs, fr, hc⟩ := own_cells hown (b := ad.block) (by rw [had]; rfl)
    rcases hown.2 with ⟨hv, _⟩ | ⟨g', cap', cur, hv, _, hg, _⟩
    · rw [had] at hv; cases hv
    · simp only [Value.slice.injEq] at hv
      rw [had] at hv
      simp only [Option.some.injEq] at hv
      rw [hv.1]
      exact ⟨cur, hg⟩
def bookO : Obj := .cells #[.int .i64 0, .int .i64 0, .bool false, .slice none 0 0, .slice none 0 0, .slice none 0 0, .slice none 0 0, .slice none 0 0] 32 (0, 0)
def deskO : Obj := .cells #[.slice none 0 0] 27 (0, 0)
theorem Bk.new (w : World) (B : Nat) (hB : B ≤ w.heap.size) : Bk B (w.alloc bookO) w.heap.size 0 0 (.slice none 0 0) (.slice none 0 0) (.slice none 0 0) (.slice none 0 0) (.slice none 0 0) [] 0 [] [] [] [] := by
  have hd : ∀ y : Value, Dis (.slice none 0 0) y := fun y k hk => by simp [Value.ownBlock] at hk
  exact ⟨⟨heap_alloc_new w _, World.ownsRow_nil _ _ _ _, World.ownsRow_nil _ _ _ _, World.ownsRow_nil _ _ _ _, World.ownsRow_nil _ _ _ _, World.ownsRow_nil _ _ _ _, hd _, hd _, hd _, hd _, hd _, hd _, hB, by rw [size_alloc]; omega⟩,
    ⟨(fun x hx => by cases hx), List.Pairwise.nil⟩, ⟨rfl, fun j x y hx _ => by simp at hx⟩, (fun j x y hx _ => by simp at hx), rfl, rfl, Nat.le_refl _, (fun x hx => by cases hx), (fun m hm => by cases hm), by omega, by omega, by omega, by omega, by simp⟩
theorem Wsy.start {W w : World} (o : Out W w) : Wsy W ((w.alloc deskO).alloc bookO) w.heap.size (w.heap.size + 1) w.heap.size 0 0 := by
  have hs : (w.alloc deskO).heap.size = w.heap.size + 1 := size_alloc _ _
  have o2 : Out (w.alloc deskO) ((w.alloc deskO).alloc bookO) := (Out.refl _).alloc _
  refine ⟨⟨_, _, _, _, _, [], 0, _, _, _, _, by rw [← hs]; exact Bk.new (w.alloc deskO) w.heap.size (by omega), rfl⟩, ?_, Nat.le_refl _, o.size, (o.alloc _).trans o2⟩
  exact (show DSt (w.alloc deskO) w.heap.size w.heap.size from .inl (heap_alloc_new w _)).out o2
set_option maxRecDepth 20000 in
set_option maxHeartbeats 4000000 in
theorem symtabWrites_walk (W : World) (a : Option Addr) (cap : Nat) (LL : List (List Sy)) (hr : LsAt W a LL) (hcap : LL.length ≤ cap) (hll : LL.length ≤ 1048576) (hl : ∀ l ∈ LL, l.length ≤ 1048576) (hk : ∀ l ∈ LL, ∀ s ∈ l, SyOk s) :
    Calls Try.prog 3 #[.slice a LL.length cap] W fun e W' => e = .returned (.bool true) ∧ Out W W' := by
  have HR := hidOf hr
  have HL := hidOf hl
  have HK := hidOf hk
  have hcI : (LL.length : Int) ≤ cap := by omega
  clear hr hl hk
  go_enter Try.func3, Try.ntmps3
  go_upto_region 5 with (go_at_call 8; refine (awake10 _).mono ?_; rintro e w1 ⟨rfl, ho⟩; have O1 := hidOf ho; clear ho)
  have HW0 := hidOf (Wsy.start O1.out)
  show Code.wp _ _ _ _ ((w1.alloc deskO).alloc bookO)
  have hsz : (w1.alloc (Obj.cells #[.slice none 0 0] 27 (0, 0))).heap.size = w1.heap.size + 1 := size_alloc _ _
  try rw [hsz]
  generalize (w1.alloc deskO).alloc bookO = w2 at *
  generalize w1.heap.size = d at *
  clear hsz O1
  go_wp2
  go_loopw [5] (fun iv wr => ∃ (i : Nat) (c1 : Int), iv = .int .i64 i ∧ i ≤ LL.length ∧ c1 ≤ 110000000 * (i : Int) ∧ Hid (Wsy W wr d (d + 1) d (4 * (i : Int)) c1)) (fun iv _ => LL.length - (intOf iv).toNat)
  case atStart => exact ⟨0, 0, rfl, by omega, by omega, HW0⟩
  case round =>
    clear HW0
    obtain ⟨i, c1, rfl, hi, hc1, HS⟩ := hrel
    by_cases hiN : i < LL.length
    · have hlt : (i : Int) < LL.length := by omega
      have h0 : (0 : Int) ≤ i := by omega
      obtain ⟨l, hx⟩ : ∃ l, LL[i]? = some l := ⟨_, List.getElem?_eq_getElem hiN⟩
      obtain ⟨b, off, rfl, hcell⟩ := HR.out.resolve_left (fun e => by rw [e] at hiN; simp at hiN)
      obtain ⟨la, lc, q0, hsy, hlc⟩ := hcell i l hx
      have hll1 : l.length ≤ 1048576 := HL.out l (List.mem_of_getElem? hx)
      have hkk := HK.out l (List.mem_of_getElem? hx)
      have CI : Hid (∀ wx cb c1, Wsy W wx d (d + 1) d cb c1 → cb ≤ 10000000000 → c1 ≤ 800000000000000 → Calls Try.prog 9 #[.slice la l.length lc, .pointer (some ⟨d, 0, none⟩), .pointer (some ⟨d + 1, 0, none⟩)] wx fun e w' => e = .returned (.bool true) ∧ ∃ c1', Wsy W w' d (d + 1) d (cb + 1) c1' ∧ c1' ≤ c1 + 24 * l.length + 24) := fun wx cb c1 h h1 h2 => h.writesI hsy hlc (by omega) hkk h1 h2
      have CT : Hid (∀ wx, Out W wx → Calls Try.prog 10 #[.slice la l.length lc] wx fun e w' => ∃ L' b c, e = .returned (.slice b l.length c) ∧ L'.length = l.length ∧ OwS wx.heap.size (.slice b l.length c) L' w' ∧ (∀ s ∈ L', SyOk s) ∧ Out wx w') := fun wx o => turnedY_any wx la lc l (hsy.out o) (by omega) hkk
      have q1 := cell_later HS.out.out q0
      have Q0 := hidOf q0
      clear hx hcell hsy hkk q0
      go_wp2_with (first
        | (go_at_call 9; refine (CI.out w6 _ _ S6.out (by omega) (by omega)).mono ?_; rintro e w7 ⟨rfl, c7, hs, hc7⟩; have S7 := hidOf hs; clear hs)
        | (go_at_call 9; refine (S4.out.writesT P5.out W5.out HL5.out (by have := HL5.out; omega) K5.out (by omega) (by omega)).mono ?_; rintro e w6 ⟨rfl, c6, hs, hc6⟩; have S6 := hidOf hs; have q6 := cell_later hs.out Q0.out; rw [HL5.out] at hc6; clear hs)
        | (go_at_call 10; refine (CT.out w4 S4.out.out).mono ?_; rintro e w5 ⟨L5, b5, d5, rfl, hl5, hown, hk5, ho⟩; have HL5 := hidOf hl5; have W5 := hidOf hown; have K5 := hidOf hk5; have P5 := hidOf ho; clear hl5 hown hk5 ho)
        | (go_at_call 9; refine (CI.out w3 _ _ S3.out (by omega) (by omega)).mono ?_; rintro e w4 ⟨rfl, c4, hs, hc4⟩; have S4 := hidOf hs; have q4 := cell_later hs.out Q0.out; clear hs)
        | (go_at_call 9; refine (CI.out wr _ _ HS.out (by omega) (by omega)).mono ?_; rintro e w3 ⟨rfl, c3, hs, hc3⟩; have S3 := hidOf hs; have q3 := cell_later hs.out Q0.out; clear hs))
      go_roundw
      case rel =>
        refine ⟨i + 1, c7, by simp, by omega, by omega, ?_⟩
        have h := S7.out
        rw [show (4 * (i : Int) + 1 + 1 + 1 + 1) = 4 * ((i + 1 : Nat) : Int) by omega] at h
        exact hidOf h
      case measure => simp [intOf]; omega
    · have hlt : ¬ (i : Int) < LL.length := by omega
      have CH := hidOf (HS.out.holds (by omega))
      go_wp2_with (go_at_call 11; refine CH.out.mono ?_; rintro e w3 ⟨rfl, ho⟩; have O3 := hidOf (Out.trans HS.out.out ho); clear ho)
      go_ret
      exact ⟨rfl, O3.out⟩
end Go.Proofs.Ytikmaoigepoeoaa
