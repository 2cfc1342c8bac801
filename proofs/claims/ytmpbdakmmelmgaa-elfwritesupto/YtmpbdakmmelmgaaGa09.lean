import Derived.Test.YtmpbdakmmelmgaaGa08
namespace Go.Proofs.Ytmpbdakmmelmgaa
open Go.RowKit
set_option linter.unusedVariables false
set_option linter.unusedSimpArgs false
/-- fields of one byte -/
def bwF (l : List UInt8) : List Fd := l.map fun b => ⟨1, b.toNat, b.toNat⟩
theorem bwF_app (l m : List UInt8) : bwF (l ++ m) = bwF l ++ bwF m := by simp [bwF]
theorem bwF_w (l : List UInt8) : ∀ f ∈ bwF l, f.w = 1 := by
  intro f hf
  simp [bwF] at hf
  obtain ⟨b, _, rfl⟩ := hf
  rfl
theorem bwF_len (l : List UInt8) : (bwF l).length = l.length := by simp [bwF]
theorem bwF_wid (l : List UInt8) : widF (bwF l) = l.length := by
  induction l with
  | nil => rfl
  | cons b r ih => simp only [bwF, widF, List.map_cons, List.sum_cons, List.length_cons] at ih ⊢; omega
theorem layB_bw (l : List UInt8) : layB (bwF l) = l := by
  induction l with
  | nil => rfl
  | cons b r ih =>
    show leB b.toNat 1 ++ layB (bwF r) = _
    rw [ih]
    simp [leB]
theorem owB_nil (B : Nat) (w : World) : OwB B (.slice none 0 0) [] w := World.ownsRow_nil _ _ _ _
theorem owF_nil (B : Nat) (w : World) : OwF B (.slice none 0 0) [] w := World.ownsRow_nil _ _ _ _
theorem OwB.cell {B : Nat} {v : Value} {O : List UInt8} {w : World} (h : OwB B v O w) {i : Nat} {x : UInt8} (hx : O[i]? = some x) : ∃ g c, v = .slice (some ⟨g, 0, none⟩) O.length c ∧ O.length ≤ c ∧ w.cell? ⟨g, i, none⟩ = some (.int .u8 (x.toNat : Int)) := by
  obtain ⟨g, c, hv, hc, d⟩ := own_cell h (k := i) (u := .int .u8 (x.toNat : Int)) (by simp [Lib.byteCells, hx])
  exact ⟨g, c, hv, hc, d⟩
/-- the state of bytewise -/
structure BwS (w wr : World) (bv cv : Value) (R : List UInt8) (C : List Fd) : Prop where
  by_ : OwB w.heap.size bv R wr
  cut : OwF w.heap.size cv C wr
  out : Out w wr
theorem BwS.alloc {w wr : World} {bv cv : Value} {R : List UInt8} {C : List Fd} (h : BwS w wr bv cv R C) (o : Obj) : BwS w (wr.alloc o) bv cv R C :=
  have c : Chg (fun _ => False) wr (wr.alloc o) := (Chg.refl _ wr).alloc o
  ⟨owns_chg h.by_ (fun _ _ h => h) c, owns_chg h.cut (fun _ _ h => h) c, h.out.alloc o⟩
theorem BwS.grow {w X w' : World} {bv cv cv' : Value} {R : List UInt8} {C C' : List Fd} (h : BwS w X bv cv R C) (ho : OwF w.heap.size cv' C' w') (hg : X.grownBy w' cv.ownBlock) : BwS w w' bv cv' R C' :=
  have c : Chg (fun k => cv.ownBlock = some k) X w' := Chg.of_grown hg (fun k hk => hk)
  ⟨owns_chg h.by_ (fun k hk hk' => own_apart (by decide) h.by_ h.cut k hk hk') c, ho, Chg.out c h.out (fun k hk => (h.cut.lt k hk).1)⟩
theorem bw_len (R : List UInt8) (i : Nat) (h : i ≤ R.length) : (bwF (R.take i)).length = i := by rw [bwF_len, List.length_take]; omega
set_option maxRecDepth 4000 in
set_option maxHeartbeats 2000000 in
theorem bytewise_any (w : World) (fa : Option Addr) (fc : Nat) (L : List Fd) (R : List UInt8) (hF : OwF 0 (.slice fa L.length fc) L w) (hw : ∀ f ∈ L, f.w ≤ 8) (hl : widF L ≤ 1000) (hL : L.length ≤ 1000) (hR : R = layB L) :
    Calls Try.prog 73 #[.slice fa L.length fc] w fun e w' => ∃ a c, e = .returned (.slice a R.length c) ∧ OwF w.heap.size (.slice a R.length c) (bwF R) w' ∧ Out w w' := by
  obtain ⟨i0, hi, hz0, hz1, hz2⟩ := info_parts infoFd
  have hRl : R.length ≤ 1000 := by rw [hR, layB_len]; exact hl
  have HL := hidOf (lay_any w.heap.size w none 0 [] R fa fc L (owB_nil _ _) (Nat.le_refl _) hF hw (by simp; omega) (by omega) (by simp [hR]))
  have hRI : (R.length : Int) ≤ 1000 := by omega
  simp only [List.length_nil] at HL
  clear hF hw hl hL hR
  go_enter Try.func73, Try.ntmps73
  go_wp2_with (go_at_call 36; refine (HL.out).mono ?_; rintro e w1 ⟨a, c, rfl, hb, hO⟩; have HB : Hid (BwS w w1 (.slice a R.length c) (.slice none 0 0) R []) := ⟨hb, owF_nil _ _, hO⟩; clear hb hO)
  go_loopw [9, 3] (fun iv cv wr => ∃ (i : Nat) (a' : Option Addr) (c' : Nat), iv = .int .i64 i ∧ cv = .slice a' i c' ∧ i ≤ R.length ∧ Hid (BwS w wr (.slice a R.length c) (.slice a' i c') R (bwF (R.take i)))) (fun iv _ _ => R.length - (intOf iv).toNat)
  case atStart => exact ⟨0, _, _, rfl, rfl, by omega, HB.out⟩
  case round =>
    obtain ⟨i, a', c', rfl, rfl, hi', HS⟩ := hrel
    by_cases hiR : i < R.length
    · have hlt : (i : Int) < R.length := by omega
      have h0 : (0 : Int) ≤ i := by omega
      obtain ⟨x, hx⟩ : ∃ x, R[i]? = some x := ⟨_, List.getElem?_eq_getElem hiR⟩
      obtain ⟨g, c2, hv, hc2, d⟩ := HS.out.by_.cell hx
      simp only [Value.slice.injEq] at hv
      obtain ⟨rfl, _, rfl⟩ := hv
      have hx0 := x.toNat_lt
      have hjw : jw (x.toNat : Int) = x.toNat := jw_nat _ (by omega)
      have CJ : Hid (∀ wx, Calls Try.prog 38 #[.int .i64 (x.toNat : Int)] wx fun e w' => e = .returned (.agg #[.int .u64 (x.toNat : Int), .int .u64 (x.toNat : Int)]) ∧ w' = wx.alloc (.cells #[.int .u64 (x.toNat : Int), .int .u64 (x.toNat : Int)] 87)) := by
        intro wx
        have := just_any (x.toNat : Int) wx
        rwa [hjw] at this
      have Hst := hidOf (take_snoc hx)
      have Hln := hidOf (bw_len R i (by omega))
      have Hln2 := hidOf (bw_len R (i + 1) (by omega))
      have HOw : Hid (((wr.alloc (.cells #[.int .u64 (x.toNat : Int), .int .u64 (x.toNat : Int)] 87)).alloc (.cells #[.int .i64 1, .int .u64 (x.toNat : Int), .int .u64 (x.toNat : Int)] 128)).ownsRow w.heap.size 128 3 (.slice a' i c') i (fdV (bwF (R.take i)))) := by
        have h := ((HS.out.alloc (.cells #[.int .u64 (x.toNat : Int), .int .u64 (x.toNat : Int)] 87)).alloc (.cells #[.int .i64 1, .int .u64 (x.toNat : Int), .int .u64 (x.toNat : Int)] 128)).cut
        unfold OwF at h
        rwa [Hln.out] at h
      have hsz' : w.heap.size ≤ wr.heap.size := HS.out.out.size
      clear hx hjw
      go_wp2_with (first | (go_at_call 38; refine (CJ.out _).mono ?_; rintro e w2 ⟨rfl, rfl⟩) | (at_builtin; refine wpList_append_own _ rfl (.tmp 13) (.tmp 18) 83 rfl w.heap.size 128 i0 _ 3 24 Try.underlying83 hi hz0 hz1 hz2 rfl (by decide) (.slice a' i c') i (fdV (bwF (R.take i))) rfl HOw.out ⟨wr.heap.size + 1, 0, none⟩ 1 1 (Fd.cs ⟨1, x.toNat, x.toNat⟩) rfl rfl (news_new _ _ _ _ (by rw [size_alloc])) (fdV_one [⟨1, x.toNat, x.toNat⟩]) (by unfold maxLen; omega) (by omega) (by rw [size_alloc, size_alloc]; omega) ?_; intro v4 w4 hown4 hgrow4 _; have HO4 := hidOf hown4; have Hg4 := hidOf hgrow4; clear hgrow4; obtain ⟨a4, c4, rfl⟩ := own_form hown4; clear hown4))
      refine ⟨⟨i + 1, a4, c4, by simp, rfl, by omega, ?_⟩, by simp [intOf]; omega⟩
      refine ((HS.out.alloc (.cells #[.int .u64 (x.toNat : Int), .int .u64 (x.toNat : Int)] 87)).alloc (.cells #[.int .i64 1, .int .u64 (x.toNat : Int), .int .u64 (x.toNat : Int)] 128)).grow ?_ Hg4.out
      show World.ownsRow _ _ _ _ _ _ _
      rw [Hln2.out, Hst.out, bwF_app, fdV_app]
      exact HO4.out
    · have hlt : ¬ (i : Int) < R.length := by omega
      obtain rfl : i = R.length := by omega
      go_wp2
      go_ret
      have h := HS.out
      rw [List.take_length] at h
      exact ⟨a', c', rfl, h.cut, h.out⟩
/-- the header's fields -/
def hdA : List UInt8 := [127, 69, 76, 70, 2, 1, 1, 0, 0, 0, 0, 0, 0, 0, 0, 0, 1, 0, 247, 0, 1, 0, 0, 0, 0, 0, 0, 0, 0, 0, 0, 0, 0, 0, 0, 0, 0, 0, 0, 0]
def hdB : List UInt8 := [0, 0, 0, 0, 64, 0, 0, 0, 0, 0, 64, 0]
def headF (t c s : Nat × Nat) : List Fd := bwF hdA ++ [⟨8, t.1, t.2⟩] ++ bwF hdB ++ [⟨2, c.1, c.2⟩, ⟨2, s.1, s.2⟩]
def hA : List Fd := [⟨8, 282584257676671, 282584257676671⟩, ⟨8, 0, 0⟩, ⟨2, 1, 1⟩, ⟨2, 247, 247⟩, ⟨4, 1, 1⟩, ⟨8, 0, 0⟩, ⟨8, 0, 0⟩]
def hB : List Fd := [⟨4, 0, 0⟩, ⟨2, 64, 64⟩, ⟨2, 0, 0⟩, ⟨2, 0, 0⟩, ⟨2, 64, 64⟩]
theorem lay_hA : hdA = layB hA := by decide
theorem lay_hB : hdB = layB hB := by decide
end Go.Proofs.Ytmpbdakmmelmgaa
namespace Go.Proofs.Ytmpbdakmmelmgaa
open Go.RowKit
set_option linter.unusedVariables false
set_option linter.unusedSimpArgs false
theorem own_base {w : World} {base base' : Nat} {e : TypeId} {size : Nat} {v : Value} {n : Nat} {xs : List Value} (h : w.ownsRow base e size v n xs) (hb : base' ≤ base) : w.ownsRow base' e size v n xs := by
  refine ⟨h.1, ?_⟩
  rcases h.2 with h | ⟨g, cap, cur, h1, h2, h3⟩
  · exact .inl h
  · exact .inr ⟨g, cap, cur, h1, Nat.le_trans hb h2, h3⟩
theorem out_rowN {w0 X w' : World} {v : Value} {e n sz : Nat} {xs : List Value} (h : Out w0 X) (hown : X.ownsRow w0.heap.size e sz v n xs) (hg : X.grownBy w' v.ownBlock) : Out w0 w' := Below.grown h hg h.size (fun k hk => (hown.lt k hk).1)
theorem just_of {W : World} (n : Int) (w : World) (ho : Out W w) : Calls Try.prog 38 #[.int .i64 n] w fun e w' => e = .returned (.agg #[.int .u64 (jw n : Nat), .int .u64 (jw n : Nat)]) ∧ Out W w' := (just_any n w).mono fun e w' he => ⟨he.1, by rw [he.2]; exact ho.alloc _⟩
theorem bytewise_of {W : World} (wx : World) (g : Nat) (L : List Fd) (n m : Nat) (R : List UInt8) (ho : Out W wx) (hg : wx.heap[g]? = some (.cells (fdV L).toArray 128 (0, 0))) (hn : L.length = n) (hm : R.length = m) (hw : ∀ f ∈ L, f.w ≤ 8) (hl : widF L ≤ 1000) (hn2 : n ≤ 1000) (hR : R = layB L) :
    Calls Try.prog 73 #[.slice (some ⟨g, 0, none⟩) n n] wx fun e w' => ∃ a c, e = .returned (.slice a m c) ∧ OwF W.heap.size (.slice a m c) (bwF R) w' ∧ Out W w' ∧ Out wx w' := by
  subst hn hm
  have hrow : OwF 0 (.slice (some ⟨g, 0, none⟩) L.length L.length) L wx := own_mk hg (by omega) (show (fdV L).toArray.size = _ from List.size_toArray.trans (fdV_len L)) (by omega)
  refine (bytewise_any wx (some ⟨g, 0, none⟩) L.length L R hrow hw hl hn2 hR).mono ?_
  rintro e w' ⟨a, c, rfl, h1, h2⟩
  exact ⟨a, c, rfl, own_base h1 ho.size, ho.trans h2, h2⟩
/-- the boxes of head's three spans -/
structure Sp3 (w W : World) (p : Nat) (t1 t2 c1 c2 s1 s2 : Nat) : Prop where
  out : Out w W
  lt : p + 2 < W.heap.size
  t : W.heap[p]? = some (.cells #[.int .u64 (t1 : Int), .int .u64 (t2 : Int)] 87 (0, 0))
  c : W.heap[p + 1]? = some (.cells #[.int .u64 (c1 : Int), .int .u64 (c2 : Int)] 87 (0, 0))
  s : W.heap[p + 1 + 1]? = some (.cells #[.int .u64 (s1 : Int), .int .u64 (s2 : Int)] 87 (0, 0))
theorem box_cell {w : World} {p : Nat} {cs : Array Value} {t : TypeId} (h : w.heap[p]? = some (.cells cs t (0, 0))) (j : Nat) : w.cell? ⟨p, j, none⟩ = cs[j]? := by simp [World.cell?, h]
theorem sp3_new (w : World) (t1 t2 c1 c2 s1 s2 : Nat) : Sp3 w (((w.alloc (.cells #[.int .u64 (t1 : Int), .int .u64 (t2 : Int)] 87)).alloc (.cells #[.int .u64 (c1 : Int), .int .u64 (c2 : Int)] 87)).alloc (.cells #[.int .u64 (s1 : Int), .int .u64 (s2 : Int)] 87)) w.heap.size t1 t2 c1 c2 s1 s2 := by
  refine ⟨((((Out.refl w).alloc _).alloc _).alloc _), by rw [size_alloc, size_alloc, size_alloc]; omega, ?_, ?_, ?_⟩
  · exact (Below.heap_alloc _ _ _ (by rw [size_alloc, size_alloc]; omega)).trans ((Below.heap_alloc _ _ _ (by rw [size_alloc]; omega)).trans (heap_alloc_new w _))
  · refine (Below.heap_alloc _ _ _ (by rw [size_alloc, size_alloc]; omega)).trans ?_
    exact heap_new2 w _ _
  · exact heap_new2 (w.alloc _) _ _ |> fun h => by rw [size_alloc] at h; exact h
set_option maxRecDepth 8000 in
set_option maxHeartbeats 4000000 in
theorem head_any (t1 t2 c1 c2 s1 s2 : Nat) (w : World) : Calls Try.prog 37 #[.agg #[.int .u64 (t1 : Int), .int .u64 (t2 : Int)], .agg #[.int .u64 (c1 : Int), .int .u64 (c2 : Int)], .agg #[.int .u64 (s1 : Int), .int .u64 (s2 : Int)]] w fun e w' => ∃ a c, e = .returned (.slice a 55 c) ∧ OwF w.heap.size (.slice a 55 c) (headF (t1, t2) (c1, c2) (s1, s2)) w' ∧ Out w w' := by
  have HS := hidOf (sp3_new w t1 t2 c1 c2 s1 s2)
  obtain ⟨p, hp⟩ : ∃ p, p = w.heap.size := ⟨_, rfl⟩
  rw [← hp] at HS
  go_enter Try.func37, Try.ntmps37
  go_upto_region 1 with fail
  rw [← hp]
  have Hp := hidOf hp
  clear hp
  generalize ((w.alloc (.cells #[.int .u64 (t1 : Int), .int .u64 (t2 : Int)] 87)).alloc (.cells #[.int .u64 (c1 : Int), .int .u64 (c2 : Int)] 87)).alloc (.cells #[.int .u64 (s1 : Int), .int .u64 (s2 : Int)] 87) = W at *
  have J := hidOf (fun n wx => just_of (W := W) n wx)
  have O0 := hidOf (Out.refl W)
  have B1 : Hid (∀ wx : World, Out W wx → Calls Try.prog 73 #[.slice (some ⟨wx.heap.size, 0, none⟩) 7 7] (wx.alloc (.cells #[.int .i64 8, .int .u64 (jw 282584257676671 : Nat), .int .u64 (jw 282584257676671 : Nat), .int .i64 8, .int .u64 (jw 0 : Nat), .int .u64 (jw 0 : Nat), .int .i64 2, .int .u64 (jw 1 : Nat), .int .u64 (jw 1 : Nat), .int .i64 2, .int .u64 (jw 247 : Nat), .int .u64 (jw 247 : Nat), .int .i64 4, .int .u64 (jw 1 : Nat), .int .u64 (jw 1 : Nat), .int .i64 8, .int .u64 (jw 0 : Nat), .int .u64 (jw 0 : Nat), .int .i64 8, .int .u64 (jw 0 : Nat), .int .u64 (jw 0 : Nat)] 128)) fun e w' => ∃ a c, e = .returned (.slice a 40 c) ∧ OwF W.heap.size (.slice a 40 c) (bwF hdA) w' ∧ Out W w') := by
    intro wx ho
    refine (bytewise_of (W := W) _ wx.heap.size hA 7 40 hdA (ho.alloc _) (heap_alloc_new wx _) rfl rfl (by decide) (by decide) (by decide) lay_hA).mono ?_
    rintro e w' ⟨a, c, rfl, h1, h2, _⟩
    exact ⟨a, c, rfl, h1, h2⟩
  go_upto_region 2 with (first | (go_at_call 38; refine (J.out _ _ (Hid.out (by assumption))).mono ?_; rintro e w2 ⟨rfl, hO2⟩; have HO2 := hidOf hO2; clear hO2) | (go_at_call 73; refine (B1.out _ (Hid.out (by assumption))).mono ?_; rintro e wf ⟨af, cf, rfl, hF1, hO1⟩; have HF1 := hidOf hF1; have HO1 := hidOf hO1; clear hF1 hO1))
  obtain ⟨i0, hi, hz0, hz1, hz2⟩ := info_parts infoFd
  have HF1' : Hid ((wf.alloc (.cells #[.int .i64 8, .int .u64 (t1 : Int), .int .u64 (t2 : Int)] 128)).ownsRow W.heap.size 128 3 (.slice af 40 cf) 40 (fdV (bwF hdA))) := HF1.out.alloc _
  have HO1a : Hid (Out W (wf.alloc (.cells #[.int .i64 8, .int .u64 (t1 : Int), .int .u64 (t2 : Int)] 128))) := HO1.out.alloc _
  have hWs : W.heap.size ≤ wf.heap.size := HO1.out.size
  have q0 : wf.cell? ⟨p, 0, none⟩ = some (.int .u64 (t1 : Int)) := cell_later HO1.out (box_cell HS.out.t 0)
  have q1 : wf.cell? ⟨p, 1, none⟩ = some (.int .u64 (t2 : Int)) := cell_later HO1.out (box_cell HS.out.t 1)
  go_upto_region 3 with (at_builtin; refine wpList_append_own _ rfl (.tmp 24) (.tmp 27) 83 rfl W.heap.size 128 i0 _ 3 24 Try.underlying83 hi hz0 hz1 hz2 rfl (by decide) (.slice af 40 cf) 40 (fdV (bwF hdA)) rfl HF1'.out ⟨wf.heap.size, 0, none⟩ 1 1 (Fd.cs ⟨8, t1, t2⟩) rfl rfl (news_new _ _ _ _ rfl) (fdV_one [⟨8, t1, t2⟩]) (by unfold maxLen; omega) (by omega) (by rw [size_alloc]; omega) ?_; intro v4 w4 hown4 hgrow4 _; have HO4 := hidOf hown4; have Hg4 := hidOf hgrow4; clear hgrow4; obtain ⟨a4, c4, rfl⟩ := own_form hown4; clear hown4)
  have Hw4 : Hid (Out W w4) := out_rowN HO1a.out HF1'.out Hg4.out
  clear q0 q1 hWs HF1 HF1' HO1 HO1a Hg4 B1
  have hWs : W.heap.size ≤ w4.heap.size := Hw4.out.size
  have B2 : Hid (∀ wx : World, Out w4 wx → Calls Try.prog 73 #[.slice (some ⟨wx.heap.size, 0, none⟩) 5 5] (wx.alloc (.cells #[.int .i64 4, .int .u64 (jw 0 : Nat), .int .u64 (jw 0 : Nat), .int .i64 2, .int .u64 (jw 64 : Nat), .int .u64 (jw 64 : Nat), .int .i64 2, .int .u64 (jw 0 : Nat), .int .u64 (jw 0 : Nat), .int .i64 2, .int .u64 (jw 0 : Nat), .int .u64 (jw 0 : Nat), .int .i64 2, .int .u64 (jw 64 : Nat), .int .u64 (jw 64 : Nat)] 128)) fun e w' => ∃ g c, e = .returned (.slice (some ⟨g, 0, none⟩) 12 c) ∧ OwF w4.heap.size (.slice (some ⟨g, 0, none⟩) 12 c) (bwF hdB) w' ∧ Out w4 w') := by
    intro wx ho
    refine (bytewise_of (W := w4) _ wx.heap.size hB 5 12 hdB (ho.alloc _) (heap_alloc_new wx _) rfl rfl (by decide) (by decide) (by decide) lay_hB).mono ?_
    rintro e w' ⟨a, c, rfl, h1, h2, _⟩
    rcases h1.2 with ⟨_, h0⟩ | ⟨g, cap, cur, hv, _⟩
    · cases h0
    · cases hv
      exact ⟨g, c, rfl, h1, h2⟩
  have J := hidOf (fun n wx => just_of (W := w4) n wx)
  have O4 := hidOf (Out.refl w4)
  go_upto_region 4 with (first | (go_at_call 38; refine (J.out _ _ (Hid.out (by assumption))).mono ?_; rintro e w2 ⟨rfl, hO2⟩; have HO2 := hidOf hO2; clear hO2) | (go_at_call 73; refine (B2.out _ (Hid.out (by assumption))).mono ?_; rintro e wg ⟨g2, cg, rfl, hF1, hO1⟩; have HF5 := hidOf hF1; have HO5 := hidOf hO1; clear hF1 hO1; have HV5 : Hid (wg.ownsRow W.heap.size 128 3 (.slice a4 41 c4) 41 (fdV (bwF hdA) ++ Fd.cs ⟨8, t1, t2⟩)) := owns_chg (S := fun _ => False) HO4.out (fun _ _ h => h) (Chg.of_out HO5.out); have hWg : W.heap.size ≤ wg.heap.size := Nat.le_trans hWs HO5.out.size) | (at_builtin; refine wpList_append_own _ rfl (.tmp 29) (.tmp 41) 83 rfl W.heap.size 128 i0 _ 3 24 Try.underlying83 hi hz0 hz1 hz2 rfl (by decide) (.slice a4 41 c4) 41 (fdV (bwF hdA) ++ Fd.cs ⟨8, t1, t2⟩) rfl HV5.out ⟨g2, 0, none⟩ 12 cg (fdV (bwF hdB)) rfl rfl (fun j u hu => World.ownsRow.cells HF5.out (g := g2) rfl j u hu) (fdV_one (bwF hdB)) (by unfold maxLen; omega) (by omega) hWg ?_; intro v6 w6 hown6 hgrow6 _; have HO6 := hidOf hown6; have Hg6 := hidOf hgrow6; clear hgrow6; obtain ⟨a6, c6, rfl⟩ := own_form hown6; clear hown6))
  have Hw6 : Hid (Out W w6) := out_rowN (Hw4.out.trans HO5.out) HV5.out Hg6.out
  clear B2 J HO4 HV5 HF5 HO5 Hg6 O4 hWg hWs
  have hWs : W.heap.size ≤ w6.heap.size := Hw6.out.size
  have q0 : w6.cell? ⟨p + 1, 0, none⟩ = some (.int .u64 (c1 : Int)) := cell_later Hw6.out (box_cell HS.out.c 0)
  have q1 : w6.cell? ⟨p + 1, 1, none⟩ = some (.int .u64 (c2 : Int)) := cell_later Hw6.out (box_cell HS.out.c 1)
  have q2 : w6.cell? ⟨p + 1 + 1, 0, none⟩ = some (.int .u64 (s1 : Int)) := cell_later Hw6.out (box_cell HS.out.s 0)
  have q3 : w6.cell? ⟨p + 1 + 1, 1, none⟩ = some (.int .u64 (s2 : Int)) := cell_later Hw6.out (box_cell HS.out.s 1)
  have HV6 : Hid ((w6.alloc (.cells #[.int .i64 2, .int .u64 (c1 : Int), .int .u64 (c2 : Int), .int .i64 2, .int .u64 (s1 : Int), .int .u64 (s2 : Int)] 128)).ownsRow W.heap.size 128 3 (.slice a6 53 c6) 53 (fdV (bwF hdA) ++ Fd.cs ⟨8, t1, t2⟩ ++ fdV (bwF hdB))) := HO6.out.alloc _
  go_wp2_with (at_builtin; refine wpList_append_own _ rfl (.tmp 43) (.tmp 48) 83 rfl W.heap.size 128 i0 _ 3 24 Try.underlying83 hi hz0 hz1 hz2 rfl (by decide) (.slice a6 53 c6) 53 (fdV (bwF hdA) ++ Fd.cs ⟨8, t1, t2⟩ ++ fdV (bwF hdB)) rfl HV6.out ⟨w6.heap.size, 0, none⟩ 2 2 (Fd.cs ⟨2, c1, c2⟩ ++ Fd.cs ⟨2, s1, s2⟩) rfl rfl (news_new _ _ _ _ rfl) (fdV_one [⟨2, c1, c2⟩, ⟨2, s1, s2⟩]) (by unfold maxLen; omega) (by omega) (by rw [size_alloc]; omega) ?_; intro v7 w7 hown7 hgrow7 _; have HO7 := hidOf hown7; have Hg7 := hidOf hgrow7; clear hgrow7; obtain ⟨a7, c7, rfl⟩ := own_form hown7; clear hown7)
  have Hw7 : Hid (Out W w7) := out_rowN (Hw6.out.alloc _) HV6.out Hg7.out
  go_ret
  refine ⟨a7, c7, rfl, ?_, HS.out.out.trans Hw7.out⟩
  have e1 : fdV (headF (t1, t2) (c1, c2) (s1, s2)) = fdV (bwF hdA) ++ Fd.cs ⟨8, t1, t2⟩ ++ fdV (bwF hdB) ++ (Fd.cs ⟨2, c1, c2⟩ ++ Fd.cs ⟨2, s1, s2⟩) := by simp [headF, fdV_app, fdV]
  have e2 : (headF (t1, t2) (c1, c2) (s1, s2)).length = 55 := by simp [headF, bwF_len]; decide
  unfold OwF
  rw [e1, e2]
  exact own_base HO7.out HS.out.out.size
end Go.Proofs.Ytmpbdakmmelmgaa
