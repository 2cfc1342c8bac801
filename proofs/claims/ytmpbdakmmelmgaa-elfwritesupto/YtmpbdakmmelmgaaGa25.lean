import Derived.Test.YtmpbdakmmelmgaaGa24
import Derived.Test.YtmpbdakmmelmgaaGa06
namespace Go.Proofs.Ytmpbdakmmelmgaa
open Go.RowKit
set_option linter.unusedVariables false
set_option linter.unusedSimpArgs false
theorem read_back1 (ss : List Sec) (hok : writeOk ss = true) (h64 : ∀ s ∈ ss, I64 s) (hs : sumD ss ≤ 100000000000) (w : World) (g c : Nat) (hB : Bin w g 0 c (writeB ss)) : Calls Try.prog 8 #[.slice (some ⟨g, 0, none⟩) (writeB ss).length c] w fun e w' => ∃ a c' Ls, e = .returned (.tuple #[.slice a ss.length c', .int .i64 0, .int .i64 0]) ∧ SS w w' (.slice a ss.length c') Ls ∧ secs Ls = ss := by
  refine (read_elf w g 0 c _ hB).mono ?_
  have hb := back_P ss hok h64 hs
  rintro e w' (⟨h1, _⟩ | ⟨S, a, c', Ls, h1, he, h2, h3⟩)
  · rw [hb] at h1; cases h1
  · rw [hb] at h1
    cases h1
    exact ⟨a, c', Ls, he, h2, h3⟩
theorem s0_64 : ∀ s ∈ [s0], I64 s := by
  intro s hs
  simp at hs
  subst hs
  exact ⟨by decide, by decide, by decide⟩
theorem rest3 {w wx : World} {p : Nat} (h : w.heap[p]? = some (.cells #[.int .u8 1, .int .u8 2, .int .u8 3] 5 (0, 0))) (o : Out w wx) : RestAt wx.heap.size wx (some ⟨p, 0, none⟩) [1, 2, 3] := by
  have hp := (Array.getElem?_eq_some_iff.1 h).1
  refine .inr ⟨p, 0, Nat.lt_of_lt_of_le hp o.size, rfl, fun k x hx => ?_⟩
  refine cell_later o ?_
  rw [Nat.zero_add, box_cell h]
  match k, hx with
  | 0, hx | 1, hx | 2, hx => simp at hx; subst hx; rfl
  | k + 3, hx => simp at hx
set_option maxRecDepth 8000 in
set_option maxHeartbeats 2000000 in
theorem awake9 (w : World) : Calls Try.prog 5 #[] w fun e w' => e = .returned (.bool true) ∧ Out w w' := by
  have CR := hidOf (fun wx a c => read_short wx a 3 c (by omega))
  go_enter Try.func5, Try.ntmps5
  go_upto_region 4 with (first | (go_at_call 8; refine (CR.out _ _ _).mono ?_; rintro e w1 ⟨rfl, hw⟩; have hw := hw.symm; subst hw) | (go_at_call 9; refine (num_any _ _).mono ?_; rintro e w1 ⟨rfl, hw⟩; subst hw))
  have OA := hidOf ((Out.refl w).alloc (.cells #[.int .u8 1, .int .u8 2, .int .u8 3] 5))
  generalize w.alloc (.cells #[.int .u8 1, .int .u8 2, .int .u8 3] 5) = wA at *
  have HB3 := hidOf (heap_alloc_new wA (.cells #[.int .u8 1, .int .u8 2, .int .u8 3] 5 (0, 0)))
  have OB := hidOf (OA.out.alloc (.cells #[.int .u8 1, .int .u8 2, .int .u8 3] 5))
  have CW : Hid (∀ w2, Out (wA.alloc (.cells #[.int .u8 1, .int .u8 2, .int .u8 3] 5)) w2 → Calls Try.prog 10 #[.slice (some ⟨w2.heap.size, 0, none⟩) 1 1] (w2.alloc (.cells #[.string ⟨#[46, 116, 101, 120, 116]⟩, .int .i64 1, .int .i64 6, .int .i64 0, .int .i64 0, .int .i64 8, .int .i64 0, .slice (some ⟨wA.heap.size, 0, none⟩) 3 3] 52)) fun e w' => ∃ g c, e = .returned (.tuple #[.slice (some ⟨g, 0, none⟩) 288 c, .int .i64 0]) ∧ Bin w' g 0 c (writeB [s0]) ∧ Out w w' ∧ 288 ≤ c) := by
    intro w2 o2
    obtain ⟨W, hW⟩ : ∃ W, W = w2.alloc (.cells #[.string ⟨#[46, 116, 101, 120, 116]⟩, .int .i64 1, .int .i64 6, .int .i64 0, .int .i64 0, .int .i64 8, .int .i64 0, .slice (some ⟨wA.heap.size, 0, none⟩) 3 3] 52) := ⟨_, rfl⟩
    have o3 : Out w2 W := by rw [hW]; exact (Out.refl w2).alloc _
    have hbx : W.heap[w2.heap.size]? = some (.cells #[.string ⟨#[46, 116, 101, 120, 116]⟩, .int .i64 1, .int .i64 6, .int .i64 0, .int .i64 0, .int .i64 8, .int .i64 0, .slice (some ⟨wA.heap.size, 0, none⟩) 3 3] 52 (0, 0)) := by rw [hW]; exact heap_alloc_new _ _
    rw [← hW]
    have hsc : ScAt W.heap.size W (some ⟨w2.heap.size, 0, none⟩) [⟨s0, some ⟨wA.heap.size, 0, none⟩, 3⟩] := by
      refine .inr ⟨w2.heap.size, 0, (Array.getElem?_eq_some_iff.1 hbx).1, rfl, fun k u hu => ?_⟩
      rw [Nat.zero_add, box_cell hbx]
      rw [← hu]
      simp [svV, SV.cs, s0]
    have hd : ∀ x ∈ [(⟨s0, some ⟨wA.heap.size, 0, none⟩, 3⟩ : SV)], DatAt W.heap.size W x := by
      intro x hx
      simp at hx
      subst hx
      have hr := rest3 HB3.out (o2.trans o3)
      refine .inr ⟨_, rfl, ?_, fun j u hu => ?_⟩
      · rcases hr with h | ⟨b, off, hb, h, _⟩
        · cases h
        · cases h; exact .inr hb
      · simp only [Lib.byteCells, List.getElem?_map, Option.map_eq_some_iff] at hu
        obtain ⟨y, hy, rfl⟩ := hu
        rcases hr with h | ⟨b, off, _, h, hc⟩
        · cases h
        · cases h
          rw [WideShapes.add_plain]
          exact hc j y hy
    refine (write_elf W _ 1 [⟨s0, some ⟨wA.heap.size, 0, none⟩, 3⟩] hsc hd (by simp) (by simp) (by show sumD [s0] ≤ _; decide)).mono ?_
    rintro e w' (⟨h, _⟩ | ⟨_, a, c, he, ho, o⟩)
    · rw [show secs [(⟨s0, some ⟨wA.heap.size, 0, none⟩, 3⟩ : SV)] = [s0] from rfl, s0_ok] at h; cases h
    · rw [show secs [(⟨s0, some ⟨wA.heap.size, 0, none⟩, 3⟩ : SV)] = [s0] from rfl, s0_len] at he
      rw [show secs [(⟨s0, some ⟨wA.heap.size, 0, none⟩, 3⟩ : SV)] = [s0] from rfl, s0_len] at ho
      obtain ⟨g, rfl, _, hB⟩ := ho.bin (by rw [s0_len]; omega) (by rw [s0_len]; omega)
      exact ⟨g, c, he, hB, ((OB.out.trans o2).trans o3).trans o, by have := hB.cap; rwa [s0_len] at this⟩
  go_upto_region 5 with (first | (go_at_call 11; refine (plain_any _ _ _ _ _).mono ?_; rintro e w2 ⟨rfl, hO2⟩; have HO2 := hidOf hO2; clear hO2) | (go_at_call 10; refine (CW.out _ HO2.out).mono ?_; rintro e w3 ⟨g, c, rfl, hB3, hO3, hc3⟩; have HBn := hidOf hB3; have HO3 := hidOf hO3; clear hB3 hO3))
  have b1 : w3.cell? ⟨g, 66, none⟩ = some (.int .u8 3) := by have := HBn.out.at_ 66 3 s0_at.1; rwa [Nat.zero_add] at this
  have b2 : w3.cell? ⟨g, 72, none⟩ = some (.int .u8 0) := by have := HBn.out.at_ 72 0 s0_at.2.1; rwa [Nat.zero_add] at this
  have b3 : w3.cell? ⟨g, 73, none⟩ = some (.int .u8 46) := by have := HBn.out.at_ 73 46 s0_at.2.2; rwa [Nat.zero_add] at this
  have hc3I : (288 : Int) ≤ c := by omega
  clear CR CW HB3 OB OA
  go_upto_region 7 with (go_at_call 9; refine (num_any _ _).mono ?_; rintro e w4 ⟨rfl, hw⟩; subst hw)
  have CR : Hid (Calls Try.prog 8 #[.slice (some ⟨g, 0, none⟩) 288 c] w3 fun e w' => ∃ g2 c2 y, e = .returned (.tuple #[.slice (some ⟨g2, 0, none⟩) 1 c2, .int .i64 0, .int .i64 0]) ∧ Cells8 w' g2 0 y ∧ DR w' y ∧ y.s = s0 ∧ Out w3 w') := by
    have := read_back1 [s0] s0_ok s0_64 (by decide) w3 g c HBn.out
    rw [s0_len] at this
    refine this.mono ?_
    rintro e w' ⟨a, c', Ls, rfl, hS, hs⟩
    obtain ⟨g2, c2, hv⟩ := own_some hS.own (by have := congrArg List.length hs; rw [secs_len] at this; rw [this]; decide)
    simp only [Value.slice.injEq] at hv
    obtain ⟨rfl, _, rfl⟩ := hv
    match Ls, hs, hS with
    | [y], hs, hS =>
      obtain ⟨b, off, hb, _, h8⟩ := hS.at.1.get (i := 0) (x := y) rfl
      cases hb
      exact ⟨g2, c', y, rfl, h8, hS.dr y (by simp), by simpa [secs] using hs, hS.out⟩
    | [], hs, _ => cases hs
    | _ :: _ :: _, hs, _ => simp [secs] at hs
  go_upto_region 8 with (go_at_call 8; refine (CR.out).mono ?_; rintro e w4 ⟨g2, c2, y, rfl, h8, hdr, hys, hO4⟩; have H8 := hidOf h8; have HDR := hidOf hdr; have Hys := hidOf hys; have HO4 := hidOf (HO3.out.trans hO4); clear h8 hdr hys hO4)
  obtain ⟨ys, yda, ydc⟩ := y
  have hys : ys = s0 := Hys.out
  subst hys
  have CS : Hid (∀ wk wx, Out w4 wk → Out (wk.alloc (.cells #[.int .u8 1, .int .u8 2, .int .u8 3] 5)) wx → Calls Try.prog 12 #[.agg #[.string ⟨#[46, 116, 101, 120, 116]⟩, .int .i64 1, .int .i64 6, .int .i64 0, .int .i64 0, .int .i64 8, .int .i64 0, .slice yda 3 ydc], .agg #[.string ⟨#[46, 116, 101, 120, 116]⟩, .int .i64 1, .int .i64 6, .int .i64 0, .int .i64 0, .int .i64 8, .int .i64 0, .slice (some ⟨wk.heap.size, 0, none⟩) 3 3]] wx fun e w' => e = .returned (.bool true) ∧ Out w4 w') := by
    intro wk wx o1 o2
    have oo : Out w4 wx := (o1.alloc _).trans o2
    have hr := rest3 (heap_alloc_new wk (.cells #[.int .u8 1, .int .u8 2, .int .u8 3] 5 (0, 0))) o2
    have := same1 ⟨s0, yda, ydc⟩ ⟨s0, some ⟨wk.heap.size, 0, none⟩, 3⟩ wx (HDR.out.out oo) ⟨hr, Nat.le_refl 3⟩
    rw [(sameS_iff s0 s0).2 rfl] at this
    exact this.mono fun e w' ⟨he, o⟩ => ⟨he, oo.trans o⟩
  have HK : Hid (∀ wx, Out w4 wx → wx.cell? ⟨g2, 0, none⟩ = some (.string ⟨#[46, 116, 101, 120, 116]⟩) ∧ wx.cell? ⟨g2, 1, none⟩ = some (.int .i64 1) ∧ wx.cell? ⟨g2, 2, none⟩ = some (.int .i64 6) ∧ wx.cell? ⟨g2, 3, none⟩ = some (.int .i64 0) ∧ wx.cell? ⟨g2, 4, none⟩ = some (.int .i64 0) ∧ wx.cell? ⟨g2, 5, none⟩ = some (.int .i64 8) ∧ wx.cell? ⟨g2, 6, none⟩ = some (.int .i64 0) ∧ wx.cell? ⟨g2, 7, none⟩ = some (.slice yda 3 ydc)) := fun wx o => by
    obtain ⟨p0, p1, p2, p3, p4, p5, p6, p7⟩ := H8.out.later o
    exact ⟨p0, p1, p2, p3, p4, p5, p6, p7⟩
  have OD := hidOf ((Out.refl w4).drew)
  clear CR H8 HDR Hys HBn b1 b2 b3 hc3I hc3 HO2
  go_region_held3 (fun wx => wx.cell? ⟨g2, 0, none⟩ = some (.string ⟨#[46, 116, 101, 120, 116]⟩) ∧ wx.cell? ⟨g2, 1, none⟩ = some (.int .i64 1) ∧ wx.cell? ⟨g2, 2, none⟩ = some (.int .i64 6) ∧ wx.cell? ⟨g2, 3, none⟩ = some (.int .i64 0) ∧ wx.cell? ⟨g2, 4, none⟩ = some (.int .i64 0) ∧ wx.cell? ⟨g2, 5, none⟩ = some (.int .i64 8) ∧ wx.cell? ⟨g2, 6, none⟩ = some (.int .i64 0) ∧ wx.cell? ⟨g2, 7, none⟩ = some (.slice yda 3 ydc)) (first | with_reducible exact HK.out _ (Hid.out (by assumption)) | with_reducible exact HK.out _ (Out.drew (Out.alloc (Out.refl _) _)) | fail) (first | (go_at_call 9; refine (num_any _ _).mono ?_; rintro e w5 ⟨rfl, hw⟩; subst hw) | (go_at_call 11; refine (plain_any _ _ _ _ _).mono ?_; rintro e w5 ⟨rfl, hO5⟩; have HO5 := hidOf (Out.trans (Out.drew (Out.refl _)) hO5); have HO5' := hidOf (Out.trans (Out.drew (Out.alloc (Out.refl w4) _)) hO5); clear hO5) | (go_at_call 12; refine (CS.out _ _ (Out.refl _) HO5.out).mono ?_; rintro e w6 ⟨rfl, hO6⟩; have HO6' := hidOf hO6; have HO6 := hidOf (HO4.out.trans hO6); clear hO6) | fail)
  all_goals
    go_wp2
    go_ret
    exact ⟨rfl, HO6.out⟩
end Go.Proofs.Ytmpbdakmmelmgaa
namespace Go.Proofs.Ytmpbdakmmelmgaa
open Go.RowKit
open Go.Maps (Keyed)
set_option linter.unusedVariables false
set_option linter.unusedSimpArgs false
/-- texts at an address -/
def StrAt (B : Nat) (w : World) (a : Option Addr) (N : List (List UInt8)) : Prop := N = [] ∨ ∃ b off, b < B ∧ a = some ⟨b, off, none⟩ ∧ ∀ k x, N[k]? = some x → w.cell? ⟨b, off + k, none⟩ = some (.string ⟨x.toArray⟩)
theorem StrAt.below {B : Nat} {w w' : World} {a : Option Addr} {N : List (List UInt8)} (h : StrAt B w a N) (b : Below B w w') : StrAt B w' a N := by
  rcases h with h | ⟨g, o, hg, ha, hc⟩
  · exact .inl h
  · exact .inr ⟨g, o, hg, ha, fun k x hx => (Below.cell b hg).trans (hc k x hx)⟩
theorem StrAt.get {B : Nat} {w : World} {a : Option Addr} {N : List (List UInt8)} (h : StrAt B w a N) {k : Nat} {x : List UInt8} (hx : N[k]? = some x) : ∃ b off, a = some ⟨b, off, none⟩ ∧ b < B ∧ w.cell? ⟨b, off + k, none⟩ = some (.string ⟨x.toArray⟩) := by
  rcases h with rfl | ⟨g, o, hg, ha, hc⟩
  · simp at hx
  · exact ⟨g, o, ha, hg, hc k x hx⟩
def suP : List (List UInt8) → Nat
  | [] => 0
  | x :: r => x.length + 2 + suP r
theorem suP_snoc (N : List (List UInt8)) (x : List UInt8) : suP (N ++ [x]) = suP N + x.length + 2 := by
  induction N with
  | nil => simp [suP]
  | cons y r ih => simp only [List.cons_append, suP, ih]; omega
theorem suP_take (N : List (List UInt8)) (k : Nat) : suP (N.take k) ≤ suP N := by
  induction N generalizing k with
  | nil => simp
  | cons y r ih => cases k with
    | zero => simp [suP]
    | succ k => simp only [List.take_succ_cons, suP]; have := ih k; omega
theorem suP_len (N : List (List UInt8)) : 2 * N.length ≤ suP N := by
  induction N with
  | nil => simp [suP]
  | cons y r ih => simp only [List.length_cons, suP]; omega
end Go.Proofs.Ytmpbdakmmelmgaa
