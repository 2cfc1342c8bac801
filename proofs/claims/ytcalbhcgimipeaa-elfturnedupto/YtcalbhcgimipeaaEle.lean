import Derived.Test.YtcalbhcgimipeaaEld
namespace Go.Proofs.Ytcalbhcgimipeaa
open Go.RowKit
set_option linter.unusedVariables false
set_option linter.unusedSimpArgs false
/-- fields of one byte -/
def bwF (l : List UInt8) : List Fd := l.map fun b => ⟨1, b.toNat, b.toNat⟩
theorem bwF_app (l m : List UInt8) : bwF (l ++ m) = bwF l ++ bwF m := by simp [bwF]
theorem bwF_w (l : List UInt8) : ∀ f ∈ bwF l, f.w = 1 := by
  intro f hf
  simp [bwF] at hf
  obtain ⟨b, _, rfl⟩ := hf
  rfl
theorem bwF_len (l : List UInt8) : (bwF l).length = l.length := by simp [bwF]
theorem bwF_wid (l : List UInt8) : widF (bwF l) = l.length := by
  induction l with
  | nil => rfl
  | cons b r ih => simp only [bwF, widF, List.map_cons, List.sum_cons, List.length_cons] at ih ⊢; omega
theorem layB_bw (l : List UInt8) : layB (bwF l) = l := by
  induction l with
  | nil => rfl
  | cons b r ih =>
    show leB b.toNat 1 ++ layB (bwF r) = _
    rw [ih]
    simp [leB]
theorem owB_nil (B : Nat) (w : World) : OwB B (.slice none 0 0) [] w := World.ownsRow_nil _ _ _ _
theorem owF_nil (B : Nat) (w : World) : OwF B (.slice none 0 0) [] w := World.ownsRow_nil _ _ _ _
theorem OwB.cell {B : Nat} {v : Value} {O : List UInt8} {w : World} (h : OwB B v O w) {i : Nat} {x : UInt8} (hx : O[i]? = some x) : ∃ g c, v = .slice (some ⟨g, 0, none⟩) O.length c ∧ O.length ≤ c ∧ w.cell? ⟨g, i, none⟩ = some (.int .u8 (x.toNat : Int)) := by
  obtain ⟨g, c, hv, hc, d⟩ := own_cell h (k := i) (u := .int .u8 (x.toNat : Int)) (by simp [Lib.byteCells, hx])
  exact ⟨g, c, hv, hc, d⟩
/-- the state of bytewise -/
structure BwS (w wr : World) (bv cv : Value) (R : List UInt8) (C : List Fd) : Prop where
  by_ : OwB w.heap.size bv R wr
  cut : OwF w.heap.size cv C wr
  out : Out w wr
theorem BwS.alloc {w wr : World} {bv cv : Value} {R : List UInt8} {C : List Fd} (h : BwS w wr bv cv R C) (o : Obj) : BwS w (wr.alloc o) bv cv R C :=
  have c : Chg (fun _ => False) wr (wr.alloc o) := (Chg.refl _ wr).alloc o
  ⟨owns_chg h.by_ (fun _ _ h => h) c, owns_chg h.cut (fun _ _ h => h) c, h.out.alloc o⟩
theorem BwS.grow {w X w' : World} {bv cv cv' : Value} {R : List UInt8} {C C' : List Fd} (h : BwS w X bv cv R C) (ho : OwF w.heap.size cv' C' w') (hg : X.grownBy w' cv.ownBlock) : BwS w w' bv cv' R C' :=
  have c : Chg (fun k => cv.ownBlock = some k) X w' := Chg.of_grown hg (fun k hk => hk)
  ⟨owns_chg h.by_ (fun k hk hk' => own_apart (by decide) h.by_ h.cut k hk hk') c, ho, Chg.out c h.out (fun k hk => (h.cut.lt k hk).1)⟩
theorem bw_len (R : List UInt8) (i : Nat) (h : i ≤ R.length) : (bwF (R.take i)).length = i := by rw [bwF_len, List.length_take]; omega
set_option maxRecDepth 4000 in
set_option maxHeartbeats 2000000 in
theorem bytewise_any (w : World) (fa : Option Addr) (fc : Nat) (L : List Fd) (R : List UInt8) (hF : OwF 0 (.slice fa L.length fc) L w) (hw : ∀ f ∈ L, f.w ≤ 8) (hl : widF L ≤ 1000) (hL : L.length ≤ 1000) (hR : R = layB L) :
    Calls Try.prog 70 #[.slice fa L.length fc] w fun e w' => ∃ a c, e = .returned (.slice a R.length c) ∧ OwF w.heap.size (.slice a R.length c) (bwF R) w' ∧ Out w w' := by
  obtain ⟨i0, hi, hz0, hz1, hz2⟩ := info_parts infoFd
  have hRl : R.length ≤ 1000 := by rw [hR, layB_len]; exact hl
  have HL := hidOf (lay_any w.heap.size w none 0 [] R fa fc L (owB_nil _ _) (Nat.le_refl _) hF hw (by simp; omega) (by omega) (by simp [hR]))
  have hRI : (R.length : Int) ≤ 1000 := by omega
  simp only [List.length_nil] at HL
  clear hF hw hl hL hR
  go_enter Try.func70, Try.ntmps70
  go_wp2_with (go_at_call 36; refine (HL.out).mono ?_; rintro e w1 ⟨a, c, rfl, hb, hO⟩; have HB : Hid (BwS w w1 (.slice a R.length c) (.slice none 0 0) R []) := ⟨hb, owF_nil _ _, hO⟩; clear hb hO)
  go_loopw [9, 3] (fun iv cv wr => ∃ (i : Nat) (a' : Option Addr) (c' : Nat), iv = .int .i64 i ∧ cv = .slice a' i c' ∧ i ≤ R.length ∧ Hid (BwS w wr (.slice a R.length c) (.slice a' i c') R (bwF (R.take i)))) (fun iv _ _ => R.length - (intOf iv).toNat)
  case atStart => exact ⟨0, _, _, rfl, rfl, by omega, HB.out⟩
  case round =>
    obtain ⟨i, a', c', rfl, rfl, hi', HS⟩ := hrel
    by_cases hiR : i < R.length
    · have hlt : (i : Int) < R.length := by omega
      have h0 : (0 : Int) ≤ i := by omega
      obtain ⟨x, hx⟩ : ∃ x, R[i]? = some x := ⟨_, List.getElem?_eq_getElem hiR⟩
      obtain ⟨g, c2, hv, hc2, d⟩ := HS.out.by_.cell hx
      simp only [Value.slice.injEq] at hv
      obtain ⟨rfl, _, rfl⟩ := hv
      have hx0 := x.toNat_lt
      have hjw : jw (x.toNat : Int) = x.toNat := jw_nat _ (by omega)
      have CJ : Hid (∀ wx, Calls Try.prog 38 #[.int .i64 (x.toNat : Int)] wx fun e w' => e = .returned (.agg #[.int .u64 (x.toNat : Int), .int .u64 (x.toNat : Int)]) ∧ w' = wx.alloc (.cells #[.int .u64 (x.toNat : Int), .int .u64 (x.toNat : Int)] 81)) := by
        intro wx
        have := just_any (x.toNat : Int) wx
        rwa [hjw] at this
      have Hst := hidOf (take_snoc hx)
      have Hln := hidOf (bw_len R i (by omega))
      have Hln2 := hidOf (bw_len R (i + 1) (by omega))
      have HOw : Hid (((wr.alloc (.cells #[.int .u64 (x.toNat : Int), .int .u64 (x.toNat : Int)] 81)).alloc (.cells #[.int .i64 1, .int .u64 (x.toNat : Int), .int .u64 (x.toNat : Int)] 119)).ownsRow w.heap.size 119 3 (.slice a' i c') i (fdV (bwF (R.take i)))) := by
        have h := ((HS.out.alloc (.cells #[.int .u64 (x.toNat : Int), .int .u64 (x.toNat : Int)] 81)).alloc (.cells #[.int .i64 1, .int .u64 (x.toNat : Int), .int .u64 (x.toNat : Int)] 119)).cut
        unfold OwF at h
        rwa [Hln.out] at h
      have hsz' : w.heap.size ≤ wr.heap.size := HS.out.out.size
      clear hx hjw
      go_wp2_with (first | (go_at_call 38; refine (CJ.out _).mono ?_; rintro e w2 ⟨rfl, rfl⟩) | (at_builtin; refine wpList_append_own _ rfl (.tmp 13) (.tmp 18) 77 rfl w.heap.size 119 i0 _ 3 24 Try.underlying77 hi hz0 hz1 hz2 rfl (by decide) (.slice a' i c') i (fdV (bwF (R.take i))) rfl HOw.out ⟨wr.heap.size + 1, 0, none⟩ 1 1 (Fd.cs ⟨1, x.toNat, x.toNat⟩) rfl rfl (news_new _ _ _ _ (by rw [size_alloc])) (fdV_one [⟨1, x.toNat, x.toNat⟩]) (by unfold maxLen; omega) (by omega) (by rw [size_alloc, size_alloc]; omega) ?_; intro v4 w4 hown4 hgrow4 _; have HO4 := hidOf hown4; have Hg4 := hidOf hgrow4; clear hgrow4; obtain ⟨a4, c4, rfl⟩ := own_form hown4; clear hown4))
      refine ⟨⟨i + 1, a4, c4, by simp, rfl, by omega, ?_⟩, by simp [intOf]; omega⟩
      refine ((HS.out.alloc (.cells #[.int .u64 (x.toNat : Int), .int .u64 (x.toNat : Int)] 81)).alloc (.cells #[.int .i64 1, .int .u64 (x.toNat : Int), .int .u64 (x.toNat : Int)] 119)).grow ?_ Hg4.out
      show World.ownsRow _ _ _ _ _ _ _
      rw [Hln2.out, Hst.out, bwF_app, fdV_app]
      exact HO4.out
    · have hlt : ¬ (i : Int) < R.length := by omega
      obtain rfl : i = R.length := by omega
      go_wp2
      go_ret
      have h := HS.out
      rw [List.take_length] at h
      exact ⟨a', c', rfl, h.cut, h.out⟩
/-- the header's fields -/
def hdA : List UInt8 := [127, 69, 76, 70, 2, 1, 1, 0, 0, 0, 0, 0, 0, 0, 0, 0, 1, 0, 247, 0, 1, 0, 0, 0, 0, 0, 0, 0, 0, 0, 0, 0, 0, 0, 0, 0, 0, 0, 0, 0]
def hdB : List UInt8 := [0, 0, 0, 0, 64, 0, 0, 0, 0, 0, 64, 0]
def headF (t c s : Nat × Nat) : List Fd := bwF hdA ++ [⟨8, t.1, t.2⟩] ++ bwF hdB ++ [⟨2, c.1, c.2⟩, ⟨2, s.1, s.2⟩]
def hA : List Fd := [⟨8, 282584257676671, 282584257676671⟩, ⟨8, 0, 0⟩, ⟨2, 1, 1⟩, ⟨2, 247, 247⟩, ⟨4, 1, 1⟩, ⟨8, 0, 0⟩, ⟨8, 0, 0⟩]
def hB : List Fd := [⟨4, 0, 0⟩, ⟨2, 64, 64⟩, ⟨2, 0, 0⟩, ⟨2, 0, 0⟩, ⟨2, 64, 64⟩]
theorem lay_hA : hdA = layB hA := by decide
theorem lay_hB : hdB = layB hB := by decide
end Go.Proofs.Ytcalbhcgimipeaa
