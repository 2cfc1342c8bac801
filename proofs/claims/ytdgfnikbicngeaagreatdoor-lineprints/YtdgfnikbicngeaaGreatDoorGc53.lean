import Derived.Test.YtdgfnikbicngeaaGreatDoorGc51
import Derived.Test.YtdgfnikbicngeaaGreatDoorGc52
import Derived.Test.YtdgfnikbicngeaaGreatDoorGc37
import Derived.LaidMore
import Derived.Deep.Slices
import Derived.ChangeSlices
import Derived.SliceStrings
namespace Go.Proofs.YtdgfnikbicngeaaGreatDoor
open Go.RowKit
set_option linter.unusedVariables false
set_option linter.unusedSimpArgs false
theorem Ca.box (w : World) (y : Ca) : ∀ wx, Out (w.alloc (.cells #[.int .i64 y.o, .int .i64 y.d, .int .i64 y.s, .int .i64 y.f, .int .i64 y.i, .string ⟨y.t.toArray⟩] 27)) wx → wx.heap[w.heap.size]? = some (.cells #[.int .i64 y.o, .int .i64 y.d, .int .i64 y.s, .int .i64 y.f, .int .i64 y.i, .string ⟨y.t.toArray⟩] 27 (0, 0)) :=
  fun wx ox => blk_out ox (heap_alloc_new w _)
set_option maxRecDepth 20000 in
set_option maxHeartbeats 4000000 in
theorem linePrints_walk (a : Option Addr) (cap : Nat) (l : List Ca) (w : World) (hE : AEnv w) (ha : CaAt w a l) (hn : l.length ≤ 140737488355328) (hcp : l.length ≤ cap) (hk : ∀ y ∈ l, CaOk y) : Calls Tryz.prog 3 #[.slice a l.length cap] w fun e w' => e = .returned (.bool true) ∧ Out w w' := by
  have CA := hidOf (fun wx (ho : Out w wx) => awake_any wx (hE.out ho))
  have CA0 := hidOf (CA.out w (Out.refl w))
  have HK := hidOf hk
  have HA := hidOf ha
  have HEn := hidOf hE
  obtain ⟨n, hnn⟩ : ∃ n, l.length = n := ⟨_, rfl⟩
  rw [hnn] at hn hcp ⊢
  have Hn := hidOf hnn
  have hcI : (n : Int) ≤ cap := by omega
  clear hk ha hE hnn CA
  go_enter Tryz.func3, Tryz.ntmps3
  go_wp2_with (go_at_call 5; refine CA0.out.mono ?_; rintro e w1 ⟨rfl, ho⟩; have O1 := hidOf ho; clear ho)
  clear CA0
  go_loopw [3] (fun kv wr => ∃ k : Nat, kv = .int .i64 k ∧ k ≤ n ∧ Hid (Out w wr)) (fun kv _ => n - (intOf kv).toNat)
  case atStart => exact ⟨0, rfl, by omega, O1⟩
  case round =>
    clear O1
    obtain ⟨k, rfl, hkn, HO⟩ := hrel
    by_cases hlt : k < n
    · have hltI : (k : Int) < n := by omega
      have hk0 : (0 : Int) ≤ k := by omega
      obtain ⟨y, hy⟩ : ∃ y, l[k]? = some y := ⟨_, List.getElem?_eq_getElem (by rw [Hn.out]; exact hlt)⟩
      obtain ⟨b, off, rfl, hc⟩ : ∃ b off, a = some ⟨b, off, none⟩ ∧ ∀ k y, l[k]? = some y → Cells6c w b (off + k * 6) y := by
        rcases HA.out with h | h
        · rw [h] at hy; simp at hy
        · exact h
      have c := hc k y hy
      obtain ⟨q1, q2, q3, q4, q5, q6⟩ := HK.out y (List.mem_of_getElem? hy)
      have CP := hidOf (fun wx (ho : Out w wx) => print_any y.o y.d y.s y.f y.i y.t wx (HEn.out.out ho) q6 q4 q5)
      have CR := hidOf (fun wx => rprint4_any y.o y.d y.s y.f y.i y.t q6 q1.1 q1.2 q4.1 q4.2 q5.1 q5.2 wx)
      have HBx := hidOf (Ca.box wr y)
      obtain ⟨yo, yd, ys, yf, yi, yt⟩ := y
      simp only at CP CR HBx
      rw [rprint_eq] at CR
      generalize printP yo yd ys yf yi yt = P at *
      obtain ⟨X, ec⟩ := P
      simp only at CP CR
      have d0 : wr.cell? ⟨b, off + k * 6, none⟩ = some (.int .i64 yo) := cell_later HO.out c.c0
      have d1 : wr.cell? ⟨b, off + k * 6 + 1, none⟩ = some (.int .i64 yd) := cell_later HO.out c.c1
      have d2 : wr.cell? ⟨b, off + k * 6 + 2, none⟩ = some (.int .i64 ys) := cell_later HO.out c.c2
      have d3 : wr.cell? ⟨b, off + k * 6 + 3, none⟩ = some (.int .i64 yf) := cell_later HO.out c.c3
      have d4 : wr.cell? ⟨b, off + k * 6 + 4, none⟩ = some (.int .i64 yi) := cell_later HO.out c.c4
      have d5 : wr.cell? ⟨b, off + k * 6 + 5, none⟩ = some (.string ⟨yt.toArray⟩) := cell_later HO.out c.c5
      clear c hc hy q1 q2 q3 q4 q5 q6
      go_upto_region 7 with fail
      obtain ⟨wB, hwB⟩ : ∃ wB, wB = wr.alloc (.cells #[.int .i64 yo, .int .i64 yd, .int .i64 ys, .int .i64 yf, .int .i64 yi, .string ⟨yt.toArray⟩] 27) := ⟨_, rfl⟩
      obtain ⟨q, hq⟩ : ∃ q, q = wr.heap.size := ⟨_, rfl⟩
      have oB : Out w wB := by rw [hwB]; exact HO.out.alloc _
      have HB : Hid (∀ wx, Out wB wx → wx.cell? ⟨q, 0, none⟩ = some (.int .i64 yo) ∧ wx.cell? ⟨q, 1, none⟩ = some (.int .i64 yd) ∧ wx.cell? ⟨q, 2, none⟩ = some (.int .i64 ys) ∧ wx.cell? ⟨q, 3, none⟩ = some (.int .i64 yf) ∧ wx.cell? ⟨q, 4, none⟩ = some (.int .i64 yi) ∧ wx.cell? ⟨q, 5, none⟩ = some (.string ⟨yt.toArray⟩)) := hidOf (fun wx ox => by
        rw [hwB] at ox
        have h := HBx.out wx ox
        rw [← hq] at h
        exact ⟨by rw [cell_atL h]; rfl, by rw [cell_atL h]; rfl, by rw [cell_atL h]; rfl, by rw [cell_atL h]; rfl, by rw [cell_atL h]; rfl, by rw [cell_atL h]; rfl⟩)
      rw [← hwB, ← hq]
      have OB := hidOf oB
      obtain ⟨x0, x1, x2, x3, x4, x5⟩ := HB.out wB (Out.refl wB)
      clear hwB hq oB HBx d0 d1 d2 d3 d4 d5
      go_upto_region 8 with (go_at_call 6; refine (CP.out _ OB.out).mono ?_; rintro e w2 ⟨rfl, ho⟩; have O2 := hidOf ho; clear ho)
      clear x0 x1 x2 x3 x4 x5
      obtain ⟨x0, x1, x2, x3, x4, x5⟩ := HB.out w2 O2.out
      go_upto_region 9 with (go_at_call 7; refine (CR.out _).mono ?_; rintro e w3 ⟨rfl, ho⟩; have O3 := hidOf ho; clear ho)
      go_wp2_with (go_at_call 8; refine (num_any _ _).mono ?_; rintro e wn ⟨rfl, hw⟩; have hw := hw.symm; subst hw)
      go_roundw
      case rel => exact ⟨k + 1, by simp, by omega, hidOf (OB.out.trans (O2.out.trans O3.out))⟩
      case measure => simp [intOf]; omega
    · have hltI : ¬ (k : Int) < n := by omega
      go_wp2
      go_ret
      exact ⟨rfl, HO.out⟩
end Go.Proofs.YtdgfnikbicngeaaGreatDoor
namespace Go.Proofs.YtdgfnikbicngeaaGreatDoor
open Go.ChangeShapes Go.WideShapes Go.ChangeAt Go.RowKit Go.Deep
set_option linter.unusedVariables false
set_option linter.unusedSimpArgs false
theorem list_of4 {α : Type} (P : Nat → α → Prop) : ∀ n, (∀ i, i < n → ∃ x, P i x) → ∃ l : List α, l.length = n ∧ ∀ i x, l[i]? = some x → P i x
  | 0, _ => ⟨[], rfl, fun i x h => by simp at h⟩
  | n + 1, h => by
    obtain ⟨l, hl, hp⟩ := list_of4 P n (fun i hi => h i (by omega))
    obtain ⟨x, hx⟩ := h n (by omega)
    refine ⟨l ++ [x], by simp [hl], fun i y hy => ?_⟩
    by_cases hi : i < n
    · rw [List.getElem?_append_left (by omega)] at hy; exact hp i y hy
    · have : i < n + 1 := by have := (List.getElem?_eq_some_iff.1 hy).1; simp [hl] at this; exact this
      obtain rfl : i = n := by omega
      rw [List.getElem?_append_right (by omega)] at hy
      simp [hl] at hy
      subst hy; exact hx
theorem weights_mem4 {H : Type} {P : Program} {e : TypeId} : ∀ {l : List (DataW H)}, (DataW.weightsAll P e l).all (· ≤ reachBytes) = true → ∀ d ∈ l, (d.weights P e).all (· ≤ reachBytes) = true
  | [], _, d, hd => by cases hd
  | x :: r, h, d, hd => by
    simp only [DataW.weightsAll, List.all_append, Bool.and_eq_true] at h
    rcases List.mem_cons.1 hd with rfl | hd
    · exact h.1
    · exact weights_mem4 h.2 d hd
theorem cCase : Tryz.prog.cellsOf 27 = 6 := by kernel_rfl
theorem bCase : Tryz.prog.bytesOf 27 = 56 := by kernel_rfl
set_option maxRecDepth 20000 in
set_option maxHeartbeats 1000000 in
/-- cases that came in -/
theorem open_cases {H : Type} {enc : TypeId × Value → H} {w : World} {base : Nat} {spare : Nat → Bool} {held : Bool} {fuel : Nat} {a : Option Addr} {len cap : Nat} {x : DataW H × List MemPlace}
    (h : DataW.trod enc Tryz.prog w base spare held fuel 22 [.slice a len cap] = some x) (hw : (x.1.weights Tryz.prog 22).all (· ≤ reachBytes) = true) : ∃ ts : List Ca, ts.length = len ∧ CaAt w a ts ∧ len ≤ cap ∧ len ≤ 140737488355328 ∧ ∀ y ∈ ts, CaOk y := by
  rcases open_slice Tryz.underlying22 h with ⟨hcs, rfl⟩ | ⟨ad, l, c, m, n, D, Pl, hcs, hb, hl, hm, hmm, rfl, hx⟩
  · simp at hcs
    obtain ⟨rfl, rfl, rfl⟩ := hcs
    exact ⟨[], rfl, .inl rfl, Nat.le_refl _, Nat.zero_le _, by simp⟩
  · simp at hcs
    obtain ⟨rfl, rfl, rfl⟩ := hcs
    simp only [DataW.weights, Tryz.underlying22, bCase, List.all_cons, List.all_append, Bool.and_eq_true, List.length_map, List.length_range] at hw
    have hwl : (len + (m - len)) * 56 ≤ 140737488351232 := of_decide_eq_true hw.1
    have hwe := hw.2.1
    by_cases z : len = 0
    · subst z; exact ⟨[], rfl, .inl rfl, hl, by omega, by simp⟩
    have hlm : len ≤ m := by rw [hmm]; split <;> omega
    obtain ⟨b, off, spot⟩ := ad
    have hs : spot = none := by
      obtain ⟨cs', h1, h2⟩ := hx 0 (by omega)
      simp only [cCase] at h1
      obtain ⟨_, hlen, hcell⟩ := World.cells?_some h1
      match cs', hlen with
      | [v0, v1, v2, v3, v4, v5], _ =>
        have e0 : w.cell? (((⟨b, off, spot⟩ : Addr).add (0 * 6)).add 0) = some v0 := hcell 0 (by simp)
        simpa [Addr.add] using World.cell?_spot e0
    subst hs
    have key : ∀ i, i < len → ∃ y : Ca, Cells6c w b (off + i * 6) y ∧ CaOk y := by
      intro i hi
      obtain ⟨cs', h1, h2⟩ := hx i (by omega)
      simp only [cCase] at h1
      obtain ⟨_, hlen, hcell⟩ := World.cells?_some h1
      have hwi := weights_mem4 hwe (D i) (List.mem_map.2 ⟨i, List.mem_range.2 hi, rfl⟩)
      obtain ⟨xs, k, hk, hxy, _, hxl, hf⟩ := DataW.trod_struct Tryz.underlying27 h2
      match xs, hxl, cs', hlen with
      | [y0, y1], _, [v0, v1, v2, v3, v4, v5], _ =>
        have g0 := hf 0 _ rfl
        have g1 := hf 1 _ rfl
        simp [cInsn, cStr] at g0 g1
        obtain ⟨xi, k2, hk2, _, _, hxl2, hg⟩ := DataW.trod_struct Tryz.underlying25 g0
        obtain ⟨B, r5, q5, _⟩ := DataW.trod_string Tryz.underlying9 g1
        have hD : D i = .agg [y0.1, y1.1] := congrArg Prod.fst hxy
        rw [hD, q5] at hwi
        have hwb : ((DataW.lit (.string B.data.toList) : DataW H).weights Tryz.prog 9).all (fun x => decide (x ≤ reachBytes)) = true := by
          have h3 : ((y0.1.weights Tryz.prog 25) ++ ((DataW.lit (.string B.data.toList) : DataW H).weights Tryz.prog 9 ++ [])).all (fun x => decide (x ≤ reachBytes)) = true := by
            simp only [DataW.weights, Tryz.underlying27] at hwi
            exact hwi
          rw [List.all_append, List.all_append, Bool.and_eq_true, Bool.and_eq_true] at h3
          exact h3.2.1
        obtain ⟨lt, rfl⟩ : ∃ lt : List UInt8, B = ⟨lt.toArray⟩ := ⟨B.data.toList, by simp⟩
        have hlt := str_weight hwb
        match xi, hxl2 with
        | [z0, z1, z2, z3, z4], _ =>
          have m0 := hg 0 _ rfl
          have m1 := hg 1 _ rfl
          have m2 := hg 2 _ rfl
          have m3 := hg 3 _ rfl
          have m4 := hg 4 _ rfl
          simp [cInt] at m0 m1 m2 m3 m4
          obtain ⟨a0, r0, _, f0⟩ := DataW.trod_int Tryz.underlying3 m0
          obtain ⟨a1, r1, _, f1⟩ := DataW.trod_int Tryz.underlying3 m1
          obtain ⟨a2, r2, _, f2⟩ := DataW.trod_int Tryz.underlying3 m2
          obtain ⟨a3, r3, _, f3⟩ := DataW.trod_int Tryz.underlying3 m3
          obtain ⟨a4, r4, _, f4⟩ := DataW.trod_int Tryz.underlying3 m4
          have e0 := hcell 0 (by simp)
          have e1 := hcell 1 (by simp)
          have e2 := hcell 2 (by simp)
          have e3 := hcell 3 (by simp)
          have e4 := hcell 4 (by simp)
          have e5 := hcell 5 (by simp)
          simp at r0 r1 r2 r3 r4 r5
          subst r0 r1 r2 r3 r4 r5
          simp only [add_plain] at e0 e1 e2 e3 e4 e5
          simp at e0 e1 e2 e3 e4 e5
          exact ⟨⟨a0, a1, a2, a3, a4, lt⟩, ⟨e0, e1, e2, e3, e4, e5⟩, ⟨wfI64 f0, wfI64 f1, wfI64 f2, wfI64 f3, wfI64 f4, hlt⟩⟩
    obtain ⟨l, hl1, hp⟩ := list_of4 _ len key
    refine ⟨l, hl1, .inr ⟨b, off, rfl, fun k y hy => (hp k y hy).1⟩, hl, by omega, fun y hy => ?_⟩
    obtain ⟨i, hi⟩ := List.getElem?_of_mem hy
    exact (hp i y hi).2
end Go.Proofs.YtdgfnikbicngeaaGreatDoor
