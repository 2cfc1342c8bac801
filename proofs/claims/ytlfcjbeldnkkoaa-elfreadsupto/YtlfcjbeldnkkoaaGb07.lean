import Derived.Test.YtlfcjbeldnkkoaaGb06
import Derived.Lib.MinMax
import Derived.Lib.SliceRun
namespace Go.Proofs.Ytlfcjbeldnkkoaa
open Go.RowKit
set_option linter.unusedVariables false
set_option linter.unusedSimpArgs false
theorem own_base {w : World} {base base' : Nat} {e : TypeId} {size : Nat} {v : Value} {n : Nat} {xs : List Value} (h : w.ownsRow base e size v n xs) (hb : base' ≤ base) : w.ownsRow base' e size v n xs := by
  refine ⟨h.1, ?_⟩
  rcases h.2 with h | ⟨g, cap, cur, h1, h2, h3⟩
  · exact .inl h
  · exact .inr ⟨g, cap, cur, h1, Nat.le_trans hb h2, h3⟩
theorem out_rowN {w0 X w' : World} {v : Value} {e n sz : Nat} {xs : List Value} (h : Out w0 X) (hown : X.ownsRow w0.heap.size e sz v n xs) (hg : X.grownBy w' v.ownBlock) : Out w0 w' := Below.grown h hg h.size (fun k hk => (hown.lt k hk).1)
theorem just_of {W : World} (n : Int) (w : World) (ho : Out W w) : Calls Try.prog 31 #[.int .i64 n] w fun e w' => e = .returned (.agg #[.int .u64 (jw n : Nat), .int .u64 (jw n : Nat)]) ∧ Out W w' := (just_any n w).mono fun e w' he => ⟨he.1, by rw [he.2]; exact ho.alloc _⟩
theorem bytewise_of {W : World} (wx : World) (g : Nat) (L : List Fd) (n m : Nat) (R : List UInt8) (ho : Out W wx) (hg : wx.heap[g]? = some (.cells (fdV L).toArray 113 (0, 0))) (hn : L.length = n) (hm : R.length = m) (hw : ∀ f ∈ L, f.w ≤ 8) (hl : widF L ≤ 1000) (hn2 : n ≤ 1000) (hR : R = layB L) :
    Calls Try.prog 59 #[.slice (some ⟨g, 0, none⟩) n n] wx fun e w' => ∃ a c, e = .returned (.slice a m c) ∧ OwF W.heap.size (.slice a m c) (bwF R) w' ∧ Out W w' ∧ Out wx w' := by
  subst hn hm
  have hrow : OwF 0 (.slice (some ⟨g, 0, none⟩) L.length L.length) L wx := own_mk hg (by omega) (show (fdV L).toArray.size = _ from List.size_toArray.trans (fdV_len L)) (by omega)
  refine (bytewise_any wx (some ⟨g, 0, none⟩) L.length L R hrow hw hl hn2 hR).mono ?_
  rintro e w' ⟨a, c, rfl, h1, h2⟩
  exact ⟨a, c, rfl, own_base h1 ho.size, ho.trans h2, h2⟩
/-- the boxes of head's three spans -/
structure Sp3 (w W : World) (p : Nat) (t1 t2 c1 c2 s1 s2 : Nat) : Prop where
  out : Out w W
  lt : p + 2 < W.heap.size
  t : W.heap[p]? = some (.cells #[.int .u64 (t1 : Int), .int .u64 (t2 : Int)] 76 (0, 0))
  c : W.heap[p + 1]? = some (.cells #[.int .u64 (c1 : Int), .int .u64 (c2 : Int)] 76 (0, 0))
  s : W.heap[p + 1 + 1]? = some (.cells #[.int .u64 (s1 : Int), .int .u64 (s2 : Int)] 76 (0, 0))
theorem box_cell {w : World} {p : Nat} {cs : Array Value} {t : TypeId} (h : w.heap[p]? = some (.cells cs t (0, 0))) (j : Nat) : w.cell? ⟨p, j, none⟩ = cs[j]? := by simp [World.cell?, h]
theorem sp3_new (w : World) (t1 t2 c1 c2 s1 s2 : Nat) : Sp3 w (((w.alloc (.cells #[.int .u64 (t1 : Int), .int .u64 (t2 : Int)] 76)).alloc (.cells #[.int .u64 (c1 : Int), .int .u64 (c2 : Int)] 76)).alloc (.cells #[.int .u64 (s1 : Int), .int .u64 (s2 : Int)] 76)) w.heap.size t1 t2 c1 c2 s1 s2 := by
  refine ⟨((((Out.refl w).alloc _).alloc _).alloc _), by rw [size_alloc, size_alloc, size_alloc]; omega, ?_, ?_, ?_⟩
  · exact (Below.heap_alloc _ _ _ (by rw [size_alloc, size_alloc]; omega)).trans ((Below.heap_alloc _ _ _ (by rw [size_alloc]; omega)).trans (heap_alloc_new w _))
  · refine (Below.heap_alloc _ _ _ (by rw [size_alloc, size_alloc]; omega)).trans ?_
    exact heap_new2 w _ _
  · exact heap_new2 (w.alloc _) _ _ |> fun h => by rw [size_alloc] at h; exact h
set_option maxRecDepth 8000 in
set_option maxHeartbeats 4000000 in
theorem head_any (t1 t2 c1 c2 s1 s2 : Nat) (w : World) : Calls Try.prog 30 #[.agg #[.int .u64 (t1 : Int), .int .u64 (t2 : Int)], .agg #[.int .u64 (c1 : Int), .int .u64 (c2 : Int)], .agg #[.int .u64 (s1 : Int), .int .u64 (s2 : Int)]] w fun e w' => ∃ a c, e = .returned (.slice a 55 c) ∧ OwF w.heap.size (.slice a 55 c) (headF (t1, t2) (c1, c2) (s1, s2)) w' ∧ Out w w' := by
  have HS := hidOf (sp3_new w t1 t2 c1 c2 s1 s2)
  obtain ⟨p, hp⟩ : ∃ p, p = w.heap.size := ⟨_, rfl⟩
  rw [← hp] at HS
  go_enter Try.func30, Try.ntmps30
  go_upto_region 1 with fail
  rw [← hp]
  have Hp := hidOf hp
  clear hp
  generalize ((w.alloc (.cells #[.int .u64 (t1 : Int), .int .u64 (t2 : Int)] 76)).alloc (.cells #[.int .u64 (c1 : Int), .int .u64 (c2 : Int)] 76)).alloc (.cells #[.int .u64 (s1 : Int), .int .u64 (s2 : Int)] 76) = W at *
  have J := hidOf (fun n wx => just_of (W := W) n wx)
  have O0 := hidOf (Out.refl W)
  have B1 : Hid (∀ wx : World, Out W wx → Calls Try.prog 59 #[.slice (some ⟨wx.heap.size, 0, none⟩) 7 7] (wx.alloc (.cells #[.int .i64 8, .int .u64 (jw 282584257676671 : Nat), .int .u64 (jw 282584257676671 : Nat), .int .i64 8, .int .u64 (jw 0 : Nat), .int .u64 (jw 0 : Nat), .int .i64 2, .int .u64 (jw 1 : Nat), .int .u64 (jw 1 : Nat), .int .i64 2, .int .u64 (jw 247 : Nat), .int .u64 (jw 247 : Nat), .int .i64 4, .int .u64 (jw 1 : Nat), .int .u64 (jw 1 : Nat), .int .i64 8, .int .u64 (jw 0 : Nat), .int .u64 (jw 0 : Nat), .int .i64 8, .int .u64 (jw 0 : Nat), .int .u64 (jw 0 : Nat)] 113)) fun e w' => ∃ a c, e = .returned (.slice a 40 c) ∧ OwF W.heap.size (.slice a 40 c) (bwF hdA) w' ∧ Out W w') := by
    intro wx ho
    refine (bytewise_of (W := W) _ wx.heap.size hA 7 40 hdA (ho.alloc _) (heap_alloc_new wx _) rfl rfl (by decide) (by decide) (by decide) lay_hA).mono ?_
    rintro e w' ⟨a, c, rfl, h1, h2, _⟩
    exact ⟨a, c, rfl, h1, h2⟩
  go_upto_region 2 with (first | (go_at_call 31; refine (J.out _ _ (Hid.out (by assumption))).mono ?_; rintro e w2 ⟨rfl, hO2⟩; have HO2 := hidOf hO2; clear hO2) | (go_at_call 59; refine (B1.out _ (Hid.out (by assumption))).mono ?_; rintro e wf ⟨af, cf, rfl, hF1, hO1⟩; have HF1 := hidOf hF1; have HO1 := hidOf hO1; clear hF1 hO1))
  obtain ⟨i0, hi, hz0, hz1, hz2⟩ := info_parts infoFd
  have HF1' : Hid ((wf.alloc (.cells #[.int .i64 8, .int .u64 (t1 : Int), .int .u64 (t2 : Int)] 113)).ownsRow W.heap.size 113 3 (.slice af 40 cf) 40 (fdV (bwF hdA))) := HF1.out.alloc _
  have HO1a : Hid (Out W (wf.alloc (.cells #[.int .i64 8, .int .u64 (t1 : Int), .int .u64 (t2 : Int)] 113))) := HO1.out.alloc _
  have hWs : W.heap.size ≤ wf.heap.size := HO1.out.size
  have q0 : wf.cell? ⟨p, 0, none⟩ = some (.int .u64 (t1 : Int)) := cell_later HO1.out (box_cell HS.out.t 0)
  have q1 : wf.cell? ⟨p, 1, none⟩ = some (.int .u64 (t2 : Int)) := cell_later HO1.out (box_cell HS.out.t 1)
  go_upto_region 3 with (at_builtin; refine wpList_append_own _ rfl (.tmp 24) (.tmp 27) 72 rfl W.heap.size 113 i0 _ 3 24 Try.underlying72 hi hz0 hz1 hz2 rfl (by decide) (.slice af 40 cf) 40 (fdV (bwF hdA)) rfl HF1'.out ⟨wf.heap.size, 0, none⟩ 1 1 (Fd.cs ⟨8, t1, t2⟩) rfl rfl (news_new _ _ _ _ rfl) (fdV_one [⟨8, t1, t2⟩]) (by unfold maxLen; omega) (by omega) (by rw [size_alloc]; omega) ?_; intro v4 w4 hown4 hgrow4 _; have HO4 := hidOf hown4; have Hg4 := hidOf hgrow4; clear hgrow4; obtain ⟨a4, c4, rfl⟩ := own_form hown4; clear hown4)
  have Hw4 : Hid (Out W w4) := out_rowN HO1a.out HF1'.out Hg4.out
  clear q0 q1 hWs HF1 HF1' HO1 HO1a Hg4 B1
  have hWs : W.heap.size ≤ w4.heap.size := Hw4.out.size
  have B2 : Hid (∀ wx : World, Out w4 wx → Calls Try.prog 59 #[.slice (some ⟨wx.heap.size, 0, none⟩) 5 5] (wx.alloc (.cells #[.int .i64 4, .int .u64 (jw 0 : Nat), .int .u64 (jw 0 : Nat), .int .i64 2, .int .u64 (jw 64 : Nat), .int .u64 (jw 64 : Nat), .int .i64 2, .int .u64 (jw 0 : Nat), .int .u64 (jw 0 : Nat), .int .i64 2, .int .u64 (jw 0 : Nat), .int .u64 (jw 0 : Nat), .int .i64 2, .int .u64 (jw 64 : Nat), .int .u64 (jw 64 : Nat)] 113)) fun e w' => ∃ g c, e = .returned (.slice (some ⟨g, 0, none⟩) 12 c) ∧ OwF w4.heap.size (.slice (some ⟨g, 0, none⟩) 12 c) (bwF hdB) w' ∧ Out w4 w') := by
    intro wx ho
    refine (bytewise_of (W := w4) _ wx.heap.size hB 5 12 hdB (ho.alloc _) (heap_alloc_new wx _) rfl rfl (by decide) (by decide) (by decide) lay_hB).mono ?_
    rintro e w' ⟨a, c, rfl, h1, h2, _⟩
    rcases h1.2 with ⟨_, h0⟩ | ⟨g, cap, cur, hv, _⟩
    · cases h0
    · cases hv
      exact ⟨g, c, rfl, h1, h2⟩
  have J := hidOf (fun n wx => just_of (W := w4) n wx)
  have O4 := hidOf (Out.refl w4)
  go_upto_region 4 with (first | (go_at_call 31; refine (J.out _ _ (Hid.out (by assumption))).mono ?_; rintro e w2 ⟨rfl, hO2⟩; have HO2 := hidOf hO2; clear hO2) | (go_at_call 59; refine (B2.out _ (Hid.out (by assumption))).mono ?_; rintro e wg ⟨g2, cg, rfl, hF1, hO1⟩; have HF5 := hidOf hF1; have HO5 := hidOf hO1; clear hF1 hO1; have HV5 : Hid (wg.ownsRow W.heap.size 113 3 (.slice a4 41 c4) 41 (fdV (bwF hdA) ++ Fd.cs ⟨8, t1, t2⟩)) := owns_chg (S := fun _ => False) HO4.out (fun _ _ h => h) (Chg.of_out HO5.out); have hWg : W.heap.size ≤ wg.heap.size := Nat.le_trans hWs HO5.out.size) | (at_builtin; refine wpList_append_own _ rfl (.tmp 29) (.tmp 41) 72 rfl W.heap.size 113 i0 _ 3 24 Try.underlying72 hi hz0 hz1 hz2 rfl (by decide) (.slice a4 41 c4) 41 (fdV (bwF hdA) ++ Fd.cs ⟨8, t1, t2⟩) rfl HV5.out ⟨g2, 0, none⟩ 12 cg (fdV (bwF hdB)) rfl rfl (fun j u hu => World.ownsRow.cells HF5.out (g := g2) rfl j u hu) (fdV_one (bwF hdB)) (by unfold maxLen; omega) (by omega) hWg ?_; intro v6 w6 hown6 hgrow6 _; have HO6 := hidOf hown6; have Hg6 := hidOf hgrow6; clear hgrow6; obtain ⟨a6, c6, rfl⟩ := own_form hown6; clear hown6))
  have Hw6 : Hid (Out W w6) := out_rowN (Hw4.out.trans HO5.out) HV5.out Hg6.out
  clear B2 J HO4 HV5 HF5 HO5 Hg6 O4 hWg hWs
  have hWs : W.heap.size ≤ w6.heap.size := Hw6.out.size
  have q0 : w6.cell? ⟨p + 1, 0, none⟩ = some (.int .u64 (c1 : Int)) := cell_later Hw6.out (box_cell HS.out.c 0)
  have q1 : w6.cell? ⟨p + 1, 1, none⟩ = some (.int .u64 (c2 : Int)) := cell_later Hw6.out (box_cell HS.out.c 1)
  have q2 : w6.cell? ⟨p + 1 + 1, 0, none⟩ = some (.int .u64 (s1 : Int)) := cell_later Hw6.out (box_cell HS.out.s 0)
  have q3 : w6.cell? ⟨p + 1 + 1, 1, none⟩ = some (.int .u64 (s2 : Int)) := cell_later Hw6.out (box_cell HS.out.s 1)
  have HV6 : Hid ((w6.alloc (.cells #[.int .i64 2, .int .u64 (c1 : Int), .int .u64 (c2 : Int), .int .i64 2, .int .u64 (s1 : Int), .int .u64 (s2 : Int)] 113)).ownsRow W.heap.size 113 3 (.slice a6 53 c6) 53 (fdV (bwF hdA) ++ Fd.cs ⟨8, t1, t2⟩ ++ fdV (bwF hdB))) := HO6.out.alloc _
  go_wp2_with (at_builtin; refine wpList_append_own _ rfl (.tmp 43) (.tmp 48) 72 rfl W.heap.size 113 i0 _ 3 24 Try.underlying72 hi hz0 hz1 hz2 rfl (by decide) (.slice a6 53 c6) 53 (fdV (bwF hdA) ++ Fd.cs ⟨8, t1, t2⟩ ++ fdV (bwF hdB)) rfl HV6.out ⟨w6.heap.size, 0, none⟩ 2 2 (Fd.cs ⟨2, c1, c2⟩ ++ Fd.cs ⟨2, s1, s2⟩) rfl rfl (news_new _ _ _ _ rfl) (fdV_one [⟨2, c1, c2⟩, ⟨2, s1, s2⟩]) (by unfold maxLen; omega) (by omega) (by rw [size_alloc]; omega) ?_; intro v7 w7 hown7 hgrow7 _; have HO7 := hidOf hown7; have Hg7 := hidOf hgrow7; clear hgrow7; obtain ⟨a7, c7, rfl⟩ := own_form hown7; clear hown7)
  have Hw7 : Hid (Out W w7) := out_rowN (Hw6.out.alloc _) HV6.out Hg7.out
  go_ret
  refine ⟨a7, c7, rfl, ?_, HS.out.out.trans Hw7.out⟩
  have e1 : fdV (headF (t1, t2) (c1, c2) (s1, s2)) = fdV (bwF hdA) ++ Fd.cs ⟨8, t1, t2⟩ ++ fdV (bwF hdB) ++ (Fd.cs ⟨2, c1, c2⟩ ++ Fd.cs ⟨2, s1, s2⟩) := by simp [headF, fdV_app, fdV]
  have e2 : (headF (t1, t2) (c1, c2) (s1, s2)).length = 55 := by simp [headF, bwF_len]; decide
  unfold OwF
  rw [e1, e2]
  exact own_base HO7.out HS.out.out.size
end Go.Proofs.Ytlfcjbeldnkkoaa
namespace Go.Proofs.Ytlfcjbeldnkkoaa
open Go.RowKit
set_option linter.unusedVariables false
set_option linter.unusedSimpArgs false
/-- a section -/
structure Sec where
  nm : List UInt8
  ty : Int
  fl : Int
  li : Int
  inf : Int
  al : Int
  es : Int
  d : List UInt8
/-- a section as it lies: where its data are -/
structure SV where
  s : Sec
  da : Option Addr
  dc : Nat
def SV.cs (x : SV) : List Value := [.string ⟨x.s.nm.toArray⟩, .int .i64 x.s.ty, .int .i64 x.s.fl, .int .i64 x.s.li, .int .i64 x.s.inf, .int .i64 x.s.al, .int .i64 x.s.es, .slice x.da x.s.d.length x.dc]
def svV (l : List SV) : List Value := l.flatMap SV.cs
theorem svV_len (l : List SV) : (svV l).length = l.length * 8 := by
  induction l with
  | nil => rfl
  | cons x r ih => show (x.cs ++ svV r).length = _; rw [List.length_append, ih]; simp [SV.cs]; omega
theorem svV_app (l m : List SV) : svV (l ++ m) = svV l ++ svV m := by simp [svV, List.flatMap_append]
theorem svV_one (l : List SV) : ∀ u ∈ svV l, u.oneCell' = true := by
  intro u hu
  simp only [svV, List.mem_flatMap] at hu
  obtain ⟨x, _, hx⟩ := hu
  simp [SV.cs] at hx
  rcases hx with rfl | rfl | rfl | rfl | rfl | rfl | rfl | rfl <;> rfl
theorem svV_get : ∀ (l : List SV) (i : Nat) (x : SV) (j : Nat), l[i]? = some x → j < 8 → (svV l)[i * 8 + j]? = x.cs[j]?
  | [], i, x, j, h, _ => by simp at h
  | y :: r, 0, x, j, h, hj => by
    simp at h; subst h
    show (y.cs ++ svV r)[0 * 8 + j]? = _
    rw [List.getElem?_append_left (by simp [SV.cs]; omega)]; simp
  | y :: r, i + 1, x, j, h, hj => by
    show (y.cs ++ svV r)[(i + 1) * 8 + j]? = _
    rw [List.getElem?_append_right (by simp [SV.cs]; omega), ← svV_get r i x j (by simpa using h) hj]
    congr 1
    simp [SV.cs]; omega
theorem infoSc : (Try.prog.info? 46).map (fun i => (i.zero, i.size, i.bytes)) = some (some (.agg #[.string ⟨#[]⟩, .int .i64 0, .int .i64 0, .int .i64 0, .int .i64 0, .int .i64 0, .int .i64 0, .slice none 0 0]), 8, 88) := by kernel_rfl
/-- sections at an address, by their cells -/
def ScAt (B : Nat) (w : World) (a : Option Addr) (L : List SV) : Prop := L = [] ∨ ∃ b off, b < B ∧ a = some ⟨b, off, none⟩ ∧ ∀ k u, (svV L)[k]? = some u → w.cell? ⟨b, off + k, none⟩ = some u
theorem ScAt.below {B : Nat} {w w' : World} {a : Option Addr} {L : List SV} (h : ScAt B w a L) (b : Below B w w') : ScAt B w' a L := by
  rcases h with h | ⟨g, o, hg, ha, hc⟩
  · exact .inl h
  · exact .inr ⟨g, o, hg, ha, fun k x hx => (Below.cell b hg).trans (hc k x hx)⟩
structure Cells8 (w : World) (b off : Nat) (x : SV) : Prop where
  c0 : w.cell? ⟨b, off, none⟩ = some (.string ⟨x.s.nm.toArray⟩)
  c1 : w.cell? ⟨b, off + 1, none⟩ = some (.int .i64 x.s.ty)
  c2 : w.cell? ⟨b, off + 2, none⟩ = some (.int .i64 x.s.fl)
  c3 : w.cell? ⟨b, off + 3, none⟩ = some (.int .i64 x.s.li)
  c4 : w.cell? ⟨b, off + 4, none⟩ = some (.int .i64 x.s.inf)
  c5 : w.cell? ⟨b, off + 5, none⟩ = some (.int .i64 x.s.al)
  c6 : w.cell? ⟨b, off + 6, none⟩ = some (.int .i64 x.s.es)
  c7 : w.cell? ⟨b, off + 7, none⟩ = some (.slice x.da x.s.d.length x.dc)
theorem cells8_of {w : World} {b off : Nat} {L : List SV} {i : Nat} {x : SV} (hc : ∀ k u, (svV L)[k]? = some u → w.cell? ⟨b, off + k, none⟩ = some u) (hx : L[i]? = some x) : Cells8 w b (off + i * 8) x := by
  have key : ∀ j, j < 8 → w.cell? ⟨b, off + i * 8 + j, none⟩ = x.cs[j]? := fun j hj => by
    have hlt : j < x.cs.length := by simpa [SV.cs] using hj
    rw [Nat.add_assoc, hc (i * 8 + j) (x.cs[j]'hlt) (by rw [svV_get L i x j hx hj, List.getElem?_eq_getElem hlt]), List.getElem?_eq_getElem hlt]
  exact ⟨key 0 (by omega), key 1 (by omega), key 2 (by omega), key 3 (by omega), key 4 (by omega), key 5 (by omega), key 6 (by omega), key 7 (by omega)⟩
theorem ScAt.get {B : Nat} {w : World} {a : Option Addr} {L : List SV} (h : ScAt B w a L) {i : Nat} {x : SV} (hx : L[i]? = some x) : ∃ b off, a = some ⟨b, off, none⟩ ∧ b < B ∧ Cells8 w b (off + i * 8) x := by
  rcases h with rfl | ⟨g, o, hg, ha, hc⟩
  · simp at hx
  · exact ⟨g, o, ha, hg, cells8_of hc hx⟩
def badP (s : Sec) : Bool := decide (s.ty < 0 ∨ s.fl < 0 ∨ s.li < 0 ∨ s.inf < 0 ∨ s.al < 0 ∨ s.es < 0 ∨ 4294967295 < s.ty ∨ 4294967295 < s.li ∨ 4294967295 < s.inf)
theorem min_eq2 (x y : Int) : (if y < x then y else x) = min x y := by
  rw [Int.min_def]
  split <;> split <;> omega
theorem max_eq2 (x y : Int) : (if y > x then y else x) = max x y := by
  rw [Int.max_def]
  split <;> split <;> omega
theorem run_min6 (w : World) (ts : Array TypeId) (t : TypeId) (a b c d e f : Int) : (Builtin.min_ ts t #[.int .i64 a, .int .i64 b, .int .i64 c, .int .i64 d, .int .i64 e, .int .i64 f]).run Try.prog w = .ok (.int .i64 (min (min (min (min (min a b) c) d) e) f)) w := by
  simp [Builtin.min_, Builtin.min2, min_eq2]
theorem run_max3 (w : World) (ts : Array TypeId) (t : TypeId) (a b c : Int) : (Builtin.max_ ts t #[.int .i64 a, .int .i64 b, .int .i64 c]).run Try.prog w = .ok (.int .i64 (max (max a b) c)) w := by
  simp [Builtin.max_, Builtin.max2, max_eq2]
set_option maxRecDepth 8000 in
set_option maxHeartbeats 4000000 in
theorem wrong_any (x : SV) (w : World) : Calls Try.prog 25 #[.agg #[.string ⟨x.s.nm.toArray⟩, .int .i64 x.s.ty, .int .i64 x.s.fl, .int .i64 x.s.li, .int .i64 x.s.inf, .int .i64 x.s.al, .int .i64 x.s.es, .slice x.da x.s.d.length x.dc]] w fun e w' => e = .returned (.bool (badP x.s)) ∧ Out w w' := by
  obtain ⟨⟨nm, ty, fl, li, inf, al, es, d⟩, da, dc⟩ := x
  obtain ⟨m, hm⟩ : ∃ m, m = min (min (min (min (min ty fl) li) inf) al) es := ⟨_, rfl⟩
  obtain ⟨M, hM⟩ : ∃ m, m = max (max ty li) inf := ⟨_, rfl⟩
  have h1 := fun w => run_min6 w #[3, 3, 3, 3, 3, 3] 3 ty fl li inf al es
  have h2 := fun w => run_max3 w #[3, 3, 3] 3 ty li inf
  rw [← hm] at h1
  rw [← hM] at h2
  have hb : badP ⟨nm, ty, fl, li, inf, al, es, d⟩ = decide (m < 0 ∨ 4294967295 < M) := by
    unfold badP
    congr 1
    simp only [eq_iff_iff]
    omega
  show Calls _ _ _ _ (fun e w' => e = .returned (.bool (badP ⟨nm, ty, fl, li, inf, al, es, d⟩)) ∧ Out w w')
  rw [hb]
  clear hm hM hb
  have Ho := hidOf ((Out.refl w).alloc (.cells #[.string ⟨nm.toArray⟩, .int .i64 ty, .int .i64 fl, .int .i64 li, .int .i64 inf, .int .i64 al, .int .i64 es, .slice da d.length dc] 46))
  by_cases hm0 : m < 0
  · go_enter Try.func25, Try.ntmps25
    go_wp2
    all_goals (go_ret; exact ⟨by simp [hm0], by first | exact Ho.out | exact Ho.out.drew⟩)
  · by_cases hM0 : 4294967295 < M
    · go_enter Try.func25, Try.ntmps25
      go_wp2
      all_goals (go_ret; exact ⟨by simp [hM0], by first | exact Ho.out | exact Ho.out.drew⟩)
    · go_enter Try.func25, Try.ntmps25
      go_wp2
      all_goals (go_ret; exact ⟨by simp [hm0, hM0], by first | exact Ho.out | exact Ho.out.drew⟩)
set_option maxRecDepth 8000 in
set_option maxHeartbeats 4000000 in
theorem index_any (B : Nat) (a : Option Addr) (c : Nat) (L : List SV) (w : World) (h : ScAt B w a L) (hB : B ≤ w.heap.size) (hc : L.length ≤ c) (hl : L.length ≤ 1000) :
    Calls Try.prog 55 #[.slice a L.length c, .func (.func 25) #[] #[]] w fun e w' => (∃ n : Int, e = .returned (.int .i64 n) ∧ (0 ≤ n ↔ L.any (fun x => badP x.s) = true)) ∧ Out w w' := by
  have H := hidOf h
  have hcI : (L.length : Int) ≤ c := by omega
  have hlI : (L.length : Int) ≤ 1000 := by omega
  clear h
  go_enter Try.func55, Try.ntmps55
  go_wp2
  go_loopw [8] (fun iv wr => ∃ i : Nat, iv = .int .i64 i ∧ i ≤ L.length ∧ Hid ((L.take i).any (fun x => badP x.s) = false) ∧ Hid (Out w wr)) (fun iv _ => L.length - (intOf iv).toNat)
  case atStart => exact ⟨0, rfl, by omega, rfl, Out.refl _⟩
  case round =>
    obtain ⟨i, rfl, hi, HA, Ho⟩ := hrel
    by_cases hiL : i < L.length
    · have hlt : (i : Int) < L.length := by omega
      have h0 : (0 : Int) ≤ i := by omega
      obtain ⟨x, hx⟩ : ∃ x, L[i]? = some x := ⟨_, List.getElem?_eq_getElem hiL⟩
      obtain ⟨b, off, rfl, hb, hc8⟩ := (H.out.below (Below.mono Ho.out hB)).get hx
      obtain ⟨d0, d1, d2, d3, d4, d5, d6, d7⟩ := hc8
      have Hst := hidOf (take_snoc hx)
      have Hm := hidOf (List.mem_of_getElem? hx)
      have CW := hidOf (wrong_any x wr)
      clear hx
      cases hbad : badP x.s
      · rw [hbad] at CW
        go_wp2_with (go_at_call 25; refine (CW.out).mono ?_; rintro e w1 ⟨rfl, hO1⟩; have HO1 := hidOf hO1; clear hO1)
        refine ⟨⟨i + 1, by simp, by omega, ?_, Ho.out.trans HO1.out⟩, by simp [intOf]; omega⟩
        show _ = _
        rw [Hst.out, List.any_append, HA.out]
        simp [hbad]
      · rw [hbad] at CW
        go_wp2_with (go_at_call 25; refine (CW.out).mono ?_; rintro e w1 ⟨rfl, hO1⟩; have HO1 := hidOf hO1; clear hO1)
        go_ret
        refine ⟨⟨i, rfl, ⟨fun _ => ?_, fun _ => by omega⟩⟩, Ho.out.trans HO1.out⟩
        rw [List.any_eq_true]
        exact ⟨x, Hm.out, hbad⟩
    · have hlt : ¬ (i : Int) < L.length := by omega
      obtain rfl : i = L.length := by omega
      rw [List.take_length] at HA
      go_wp2
      go_ret
      refine ⟨⟨-1, rfl, ?_⟩, Ho.out⟩
      have hA := HA.out
      simp at hA ⊢
      exact hA
theorem contains_any (B : Nat) (a : Option Addr) (c : Nat) (L : List SV) (w : World) (h : ScAt B w a L) (hB : B ≤ w.heap.size) (hc : L.length ≤ c) (hl : L.length ≤ 1000) :
    Calls Try.prog 24 #[.slice a L.length c, .func (.func 25) #[] #[]] w fun e w' => e = .returned (.bool (L.any (fun x => badP x.s))) ∧ Out w w' := by
  have HI := hidOf (index_any B a c L w h hB hc hl)
  clear h
  cases hb : L.any (fun x => badP x.s)
  · have HJ : Hid (Calls Try.prog 55 #[.slice a L.length c, .func (.func 25) #[] #[]] w fun e w' => ∃ n : Int, e = .returned (.int .i64 n) ∧ ¬ (0 ≤ n) ∧ Out w w') := by
      refine (HI.out).mono ?_
      rintro e w1 ⟨⟨n, rfl, hn⟩, hO1⟩
      rw [hb] at hn
      exact ⟨n, rfl, by simpa using hn, hO1⟩
    clear HI
    go_enter Try.func24, Try.ntmps24
    go_wp2_with (go_at_call 55; refine (HJ.out).mono ?_; rintro e w1 ⟨n, rfl, hn0, hO1⟩; have HO1 := hidOf hO1; clear hO1)
    go_ret
    exact ⟨by simp [hn0], HO1.out⟩
  · have HJ : Hid (Calls Try.prog 55 #[.slice a L.length c, .func (.func 25) #[] #[]] w fun e w' => ∃ n : Int, e = .returned (.int .i64 n) ∧ 0 ≤ n ∧ Out w w') := by
      refine (HI.out).mono ?_
      rintro e w1 ⟨⟨n, rfl, hn⟩, hO1⟩
      rw [hb] at hn
      exact ⟨n, rfl, by simpa using hn, hO1⟩
    clear HI
    go_enter Try.func24, Try.ntmps24
    go_wp2_with (go_at_call 55; refine (HJ.out).mono ?_; rintro e w1 ⟨n, rfl, hn0, hO1⟩; have HO1 := hidOf hO1; clear hO1)
    go_ret
    exact ⟨by simp [hn0], HO1.out⟩
def OwV (B : Nat) (v : Value) (L : List SV) (w : World) : Prop := w.ownsRow B 46 8 v L.length (svV L)
set_option maxRecDepth 8000 in
theorem cloneV_any (B : Nat) (a : Option Addr) (c : Nat) (L : List SV) (w : World) (h : ScAt B w a L) (hl : L.length ≤ 1000) :
    Calls Try.prog 26 #[.slice a L.length c] w fun e w' => ∃ a' c', e = .returned (.slice a' L.length c') ∧ OwV w.heap.size (.slice a' L.length c') L w' ∧ Out w w' := by
  obtain ⟨i0, hi, hz0, hz1, hz2⟩ := info_parts infoSc
  cases a with
  | none =>
    obtain rfl : L = [] := by
      rcases h with h | ⟨b, off, _, h, _⟩
      · exact h
      · cases h
    have hq := fun w : World => Lib.run_eql_slice_nil (P := Try.prog) w 38 46 none 0 c 0 0 Try.underlying38
    simp only [List.length_nil]
    go_enter Try.func26, Try.ntmps26
    go_wp2
    go_ret
    exact ⟨none, 0, rfl, World.ownsRow_nil _ _ _ _, Out.refl _⟩
  | some ad =>
    have H : Hid (∀ j u, (svV L)[j]? = some u → w.cell? (ad.add j) = some u) := by
      intro j u hu
      rcases h with rfl | ⟨b, off, _, h, hc⟩
      · simp [svV] at hu
      · cases h
        rw [WideShapes.add_plain]
        exact hc j u hu
    have hq := fun w : World => Lib.run_eql_slice_nil (P := Try.prog) w 38 46 (some ad) L.length c 0 0 Try.underlying38
    clear h
    have HO : Hid ((w.alloc (.cells #[] 46)).ownsRow w.heap.size 46 8 (.slice (some ⟨w.heap.size, 0, none⟩) 0 0) 0 []) := own_mk (n := 0) (heap_alloc_new w _) (Nat.le_refl _) rfl (by omega)
    have Ho := hidOf ((Out.refl w).alloc (.cells #[] 46))
    go_enter Try.func26, Try.ntmps26
    go_wp2_with (at_builtin; refine wpList_append_own _ rfl (.tmp 5) (.tmp 6) 38 rfl w.heap.size 46 i0 _ 8 88 Try.underlying38 hi hz0 hz1 hz2 rfl (by decide) (.slice (some ⟨w.heap.size, 0, none⟩) 0 0) 0 [] rfl HO.out ad L.length c (svV L) rfl (svV_len L) (fun j u hu => cell_later Ho.out (H.out j u hu)) (svV_one L) (by unfold maxLen; omega) (by omega) (by rw [size_alloc]; omega) ?_; intro v4 w4 hown4 hgrow4 _; have HO4 := hidOf hown4; have Hg4 := hidOf hgrow4; clear hgrow4; obtain ⟨a4, c4, rfl⟩ := own_form hown4; clear hown4)
    go_ret
    refine ⟨a4, c4, rfl, ?_, out_rowN Ho.out HO.out Hg4.out⟩
    have h4 := HO4.out
    rw [Nat.zero_add, List.nil_append] at h4
    exact h4
end Go.Proofs.Ytlfcjbeldnkkoaa
