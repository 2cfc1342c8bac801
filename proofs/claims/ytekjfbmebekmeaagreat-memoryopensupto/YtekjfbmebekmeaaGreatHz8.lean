import Derived.Test.YtekjfbmebekmeaaGreatHz7
import Derived.Test.YtekjfbmebekmeaaGreatMcw
namespace Go.Proofs.YtekjfbmebekmeaaGreat
open Go.RowKit
set_option linter.unusedVariables false
set_option linter.unusedSimpArgs false
/-- what a desk holds behind open -/
def DeskO (L : List RI) (n B1 : Nat) (w : World) (d : Nat) : Prop := w.cell? ⟨d, 0, none⟩ = some (.pointer none) ∨
    ∃ B0 s v1 v2 X Y a' c', ∃ R : List Rg, w.cell? ⟨d, 0, none⟩ = some (.pointer (some ⟨s, 0, none⟩)) ∧ w.cell? ⟨d, 1, none⟩ = some (.slice a' n c') ∧ SpD B0 w s v1 v2 X Y n ∧ RLs B1 w a' c' n R ∧ R.map fdR = L.map fdI ∧ ((flat X ++ flat Y).map fdR).Perm (L.map fdI)
theorem OpenE.desk {L : List RI} {n : Nat} {w w' : World} {e : Ending} (h : OpenE L n w e w') : ∃ d, e = .returned (.tuple #[.pointer (some ⟨d, 0, none⟩), .bool true]) ∧ Out w w' ∧ DeskO L n w.heap.size w' d := h
theorem sorted_of {R F : List Rg} (hp : (R.map fdR).Perm (F.map fdR)) (hd : F.Pairwise (fun x y => x.f ≠ y.f)) : ∃ S : List (Nat × List UInt8), (R.map fdR).Perm S ∧ S.Pairwise (fun x y => x.1 < y.1) := by
  have h1 := List.pairwise_mergeSort (le := fun (x y : Rg) => decide (x.f ≤ y.f)) (by intro a b c h1 h2; simp at h1 h2 ⊢; omega) (by intro a b; simp; omega) R
  have h2 := List.mergeSort_perm R (fun (x y : Rg) => decide (x.f ≤ y.f))
  have h3 : ((R.mergeSort (fun (x y : Rg) => decide (x.f ≤ y.f))).map fdR).Perm (R.map fdR) := h2.map fdR
  have h4 := strict_of (R := R.mergeSort (fun (x y : Rg) => decide (x.f ≤ y.f))) (h1.imp (fun {a b} hab => by simpa using hab)) (h3.trans hp) hd
  exact ⟨_, h3.symm, srt_fd h4⟩
set_option maxHeartbeats 8000000 in
set_option maxRecDepth 100000 in
theorem act_any (w : World) (L : List RI) (n B1 d : Nat) (h : DeskO L n B1 w d) (hL : ∀ x ∈ L, x.f < 18446744073709551616 ∧ x.d.length ≤ 1000000000) (hn : n ≤ 1000000000) (hl : L.length = n) :
    Calls Tryz.prog 8 #[.pointer (some ⟨d, 0, none⟩), actR] w fun e w' => ∃ v, e = .returned (.tuple #[.bool true, .slice none 0 0, v]) ∧ Out w w' := by
  obtain ⟨p, hp⟩ : ∃ p, Hid (p = w.heap.size) := ⟨_, rfl⟩
  obtain ⟨w0, H0, b0, o0⟩ : ∃ w0, Hid (w0 = w.alloc (.cells #[.int .i64 0, .int .i64 7, .int .u64 0, .int .i64 0, .int .u64 0, .slice none 0 0] 31)) ∧ w0.heap[p]? = some (.cells #[.int .i64 0, .int .i64 7, .int .u64 0, .int .i64 0, .int .u64 0, .slice none 0 0] 31 (0, 0)) ∧ Out w w0 := ⟨_, rfl, by rw [hp.out]; exact heap_alloc_new w _, (Out.refl w).alloc _⟩
  have c0 : w0.cell? ⟨p, 0, none⟩ = some (.int .i64 0) := (cell_B b0 0).trans rfl
  have c1 : w0.cell? ⟨p, 1, none⟩ = some (.int .i64 7) := (cell_B b0 1).trans rfl
  have c2 : w0.cell? ⟨p, 2, none⟩ = some (.int .u64 0) := (cell_B b0 2).trans rfl
  have c3 : w0.cell? ⟨p, 3, none⟩ = some (.int .i64 0) := (cell_B b0 3).trans rfl
  have c4 : w0.cell? ⟨p, 4, none⟩ = some (.int .u64 0) := (cell_B b0 4).trans rfl
  have c5 : w0.cell? ⟨p, 5, none⟩ = some (.slice none 0 0) := (cell_B b0 5).trans rfl
  have O0 := hidOf o0
  rcases h with h | ⟨B0, s, v1, v2, X, Y, a', c', R, h0, h1, hsp, hrl, hmr, hpm⟩
  · have cd : w0.cell? ⟨d, 0, none⟩ = some (.pointer none) := cell_later o0 h
    have NOC := hidOf (nothing_any w0 d cd)
    unfold actR at NOC ⊢
    clear b0 o0 h
    go_enter Tryz.func8, Tryz.ntmps8
    go_upto_region 1 with fail
    rw [← hp.out]
    rw [← H0.out]
    go_wp2_with (go_at_call 19; refine NOC.out.mono ?_; rintro e w1 ⟨rfl, ho1⟩; have O1 := hidOf (O0.out.trans ho1); clear ho1)
    refine bodyPost_ret (results_tmp3 rfl _ _ _) rfl ?_
    exact ⟨_, rfl, O1.out⟩
  · have cd0 : w0.cell? ⟨d, 0, none⟩ = some (.pointer (some ⟨s, 0, none⟩)) := cell_later o0 h0
    have cd1 : w0.cell? ⟨d, 1, none⟩ = some (.slice a' n c') := cell_later o0 h1
    have hRl : R.length = n := by have := congrArg List.length hmr; simpa [hl] using this
    have hRb : ∀ z ∈ R, z.d.length ≤ 140737488355328 ∧ z.f < 18446744073709551616 := fun z hz => by
      have h2 : fdR z ∈ L.map fdI := by rw [← hmr]; exact List.mem_map.2 ⟨z, hz, rfl⟩
      obtain ⟨y, hy, ey⟩ := List.mem_map.1 h2
      have h3 := hL y hy
      simp only [fdI, fdR, Prod.mk.injEq] at ey
      rw [ey.1, ey.2] at h3
      exact ⟨by omega, h3.1⟩
    have hpm2 : (R.map fdR).Perm ((flat X ++ flat Y).map fdR) := by rw [hmr]; exact hpm.symm
    obtain ⟨S, hS1, hS2⟩ := sorted_of hpm2 hsp.ok.dif
    have QC := hidOf (refRegions_any w0 B1 a' c' n R (hrl.out o0) hRl hRb (by omega) S hS1 hS2)
    have MC := hidOf (fun (W : World) (o : Out w W) => Regions_any W B0 s v1 v2 X Y n (hsp.out o) (by omega))
    have HS1 := hidOf hS1
    have HS2 := hidOf hS2
    have HP2 := hidOf hpm2
    have HRl := hidOf hRl
    unfold actR
    clear b0 o0 h0 h1 hsp hrl hmr hpm hRb hS1 hS2 hpm2 hRl c0 c2 c3 c4 c5
    go_enter Tryz.func8, Tryz.ntmps8
    go_upto_region 1 with fail
    rw [← hp.out]
    rw [← H0.out]
    go_upto_region 36 with (go_at_call 36; refine QC.out.mono ?_; rintro e w1 ⟨a1, c1', R1, rfl, hr1, hm1, ho1⟩; have RL1 := hidOf hr1; have HM1 := hidOf hm1; have O1 := hidOf ho1; have cd2 := cell_later ho1 cd0; clear hr1 hm1 ho1)
    have MC1 := hidOf (MC.out w1 (O0.out.trans O1.out))
    go_upto_region 37 with (go_at_call 37; refine MC1.out.mono ?_; rintro e w2 ⟨a2, c2', R2, rfl, hown2, hda2, hpm2, hsr2, ho2⟩; have W2 := hidOf hown2; have D2 := hidOf hda2; have P2 := hidOf hpm2; have T2 := hidOf hsr2; have O2 := hidOf ho2; clear hown2 hda2 hpm2 hsr2 ho2)
    have he : R2.map fdR = S := sorted_eq _ _ (srt_fd T2.out) HS2.out (P2.out.trans (HP2.out.symm.trans HS1.out))
    have hl2 : R2.length = n := by
      have e1 := congrArg List.length he
      have e2 := HS1.out.length_eq
      rw [List.length_map] at e1 e2
      rw [e1, ← e2]; exact HRl.out
    have SRC := hidOf (sameRegs_any w2 w1.heap.size w0.heap.size n c2' c1' a2 a1 R2 R1 ⟨by have h9 := W2.out; rw [hl2] at h9; exact h9, D2.out⟩ (RL1.out.out O2.out) (by rw [he]; exact HM1.out.symm) hl2 hn)
    rw [hl2]
    clear he hl2
    go_wp2_with (go_at_call 38; refine SRC.out.mono ?_; rintro e w3 ⟨rfl, ho3⟩; have O3 := hidOf ho3; clear ho3)
    refine bodyPost_ret (results_tmp3 rfl _ _ _) rfl ?_
    exact ⟨_, by first | rfl | simp, (O0.out.trans O1.out).trans (O2.out.trans O3.out)⟩
end Go.Proofs.YtekjfbmebekmeaaGreat
namespace Go.Proofs.YtekjfbmebekmeaaGreat
open Go.RowKit
set_option linter.unusedVariables false
set_option linter.unusedSimpArgs false
def csI2 (x : RI) : List Value := [.int .u64 (x.f : Nat), .slice x.a x.d.length x.c]
def rowI2 (L : List RI) : List Value := L.flatMap csI2
theorem rowI2_get {L : List RI} {i : Nat} {x : RI} (h : L[i]? = some x) : (rowI2 L)[i * 2]? = some (.int .u64 (x.f : Nat)) ∧ (rowI2 L)[i * 2 + 1]? = some (.slice x.a x.d.length x.c) := by
  induction L generalizing i with
  | nil => simp at h
  | cons y r ih =>
    have e : rowI2 (y :: r) = csI2 y ++ rowI2 r := rfl
    rw [e]
    cases i with
    | zero => simp at h; subst h; exact ⟨rfl, rfl⟩
    | succ i =>
      have h2 : r[i]? = some x := by simpa using h
      obtain ⟨h3, h4⟩ := ih h2
      refine ⟨?_, ?_⟩
      · rw [List.getElem?_append_right (by simp [csI2]; omega), show (i + 1) * 2 - (csI2 y).length = i * 2 by simp [csI2]; omega]; exact h3
      · rw [List.getElem?_append_right (by simp [csI2]; omega), show (i + 1) * 2 + 1 - (csI2 y).length = i * 2 + 1 by simp [csI2]; omega]; exact h4
/-- a region one further on -/
def bump (x : RI) : RI := ⟨(x.f + 1) % 18446744073709551616, x.a, x.c, x.d⟩
theorem inR_bump {w w' : World} {B n c : Nat} {a oa : Option Addr} {L : List RI} (h : InR w a L) (o : Out w w') (ho : w'.ownsRow B 36 2 (.slice oa n c) n (rowI2 (L.map bump))) (hl : L.length = n) : InR w' oa (L.map bump) := by
  by_cases h0 : L = []
  · exact .inl (by rw [h0]; rfl)
  obtain ⟨g, cc, e, _, _⟩ := ho.form (by have := List.length_pos_iff.2 h0; omega)
  simp only [Value.slice.injEq] at e
  obtain ⟨rfl, _, rfl⟩ := e
  refine .inr ⟨g, 0, rfl, fun i y hy => ?_⟩
  obtain ⟨q0, q1⟩ := rowI2_get hy
  refine ⟨by rw [Nat.zero_add]; exact (own_cellK ho q0).1, by rw [Nat.zero_add]; exact (own_cellK ho q1).1, ?_⟩
  rw [List.getElem?_map] at hy
  cases hx : L[i]? with
  | none => rw [hx] at hy; cases hy
  | some x =>
    rw [hx] at hy
    cases hy
    obtain ⟨g2, o2, _, hcs⟩ := h.resolve_left h0
    exact (hcs i x hx).2.2.out o
set_option maxHeartbeats 8000000 in
set_option maxRecDepth 100000 in
theorem memoryOpens_walk (w : World) (a : Option Addr) (c : Nat) (L : List RI) (h : InR w a L) (hL : ∀ x ∈ L, x.f < 18446744073709551616 ∧ x.d.length ≤ 1000000000) (hn : L.length ≤ 1000000000) :
    Calls Tryz.prog 4 #[.slice a L.length c] w fun e w' => e = .returned (.bool true) ∧ Out w w' := by
  obtain ⟨i0, hi0, hz0, hz1, hz2⟩ := info_parts infoR
  have OC2 : Hid (∀ W, Out w W → Calls Tryz.prog 6 #[.slice a L.length c] W fun e w' => OpenE L L.length W e w') := hidOf (fun W o => open_any W a c L (h.out o) hL hn)
  obtain ⟨n, hN⟩ : ∃ n, Hid (n = L.length) := ⟨_, rfl⟩
  rw [← hN.out] at hn OC2 ⊢
  have OC1 : Hid (∀ (W : World) (B cc : Nat) (oa : Option Addr), Out w W → W.ownsRow B 36 2 (.slice oa n cc) n (rowI2 (L.map bump)) → Calls Tryz.prog 6 #[.slice oa n cc] W fun e w' => OpenE (L.map bump) n W e w') := hidOf (fun W B cc oa o ho => by
    have h9 := open_any W oa cc (L.map bump) (inR_bump h o ho hN.out.symm) (fun y hy => by
      obtain ⟨x, hx, rfl⟩ := List.mem_map.1 hy
      exact ⟨Nat.mod_lt _ (by decide), (hL x hx).2⟩) (by rw [List.length_map, ← hN.out]; exact hn)
    rw [List.length_map, ← hN.out] at h9
    exact h9)
  have HI := hidOf h
  have HL := hidOf hL
  have HNN := hidOf hn
  clear h hL
  go_enter Tryz.func4, Tryz.ntmps4
  go_wp2
  go_loopw [3, 4] (fun ov iv wr => ∃ (k : Nat) (oa : Option Addr) (oc : Nat), ov = .slice oa k oc ∧ iv = .int .i64 (k : Nat) ∧ k ≤ n ∧ Hid (wr.ownsRow w.heap.size 36 2 (.slice oa k oc) k (rowI2 ((L.take k).map bump))) ∧ Hid (Out w wr)) (fun _ iv _ => n - (intOf iv).toNat)
  case atStart => exact ⟨0, none, 0, rfl, rfl, Nat.zero_le _, hidOf (World.ownsRow_nil _ _ _ _), hidOf (Out.refl _)⟩
  case round =>
    obtain ⟨k, oa, oc, rfl, rfl, hk, OWN, OR⟩ := hrel
    by_cases hkn : k < n
    · have hlt : (k : Int) < n := by omega
      obtain ⟨x, hx⟩ : ∃ x, L[k]? = some x := ⟨_, List.getElem?_eq_getElem (by rw [← hN.out]; exact hkn)⟩
      obtain ⟨g, o, rfl, hcs⟩ : ∃ g o, a = some ⟨g, o, none⟩ ∧ _ := HI.out.resolve_left (fun e => by rw [e] at hx; simp at hx)
      obtain ⟨q0, q1, q2⟩ := hcs k x hx
      have hxm := HL.out _ (List.mem_of_getElem? hx)
      have HX := hidOf hx
      obtain ⟨xf, hxf⟩ : ∃ xf, Hid (xf = x.f) := ⟨_, rfl⟩
      obtain ⟨xn, hxn⟩ : ∃ xn, Hid (xn = x.d.length) := ⟨_, rfl⟩
      obtain ⟨xa, hxa⟩ : ∃ xa, Hid (xa = x.a) := ⟨_, rfl⟩
      obtain ⟨xc, hxc⟩ : ∃ xc, Hid (xc = x.c) := ⟨_, rfl⟩
      rw [← hxf.out] at q0 hxm
      rw [← hxn.out, ← hxa.out, ← hxc.out] at q1
      have Q0 := hidOf q0
      have Q1 := hidOf q1
      have p0 : wr.drew.cell? ⟨g, o + k * 2, none⟩ = some (.int .u64 xf) := cell_later OR.out q0
      have p1 : wr.drew.cell? ⟨g, o + k * 2 + 1, none⟩ = some (.slice xa xn xc) := cell_later OR.out q1
      obtain ⟨yf, hyf⟩ : ∃ yf, Hid (yf = (xf + 1) % 18446744073709551616) := ⟨_, rfl⟩
      have hw1 : IntKind.u64.wrap ((xf : Int) + 1) = (yf : Int) := by have := hyf.out; rw [IntKind.wrap_u64]; omega
      obtain ⟨wC, HC, u0, u1, oC, sC⟩ := box_two wr.drew (.int .u64 (yf : Nat)) (.slice xa xn xc) 36
      have HC2 : Hid (((wr.alloc (.cells #[.int .u64 (yf : Nat), .slice xa xn xc] 36)).drew) = wC) := hidOf (by rw [HC.out]; rfl)
      have oRC : Out wr wC := ((Out.refl wr).drew).trans oC
      obtain ⟨v2, w4, hap, hown2, hgr2, _, _⟩ := run_append_own_at (P := Tryz.prog) (ty := 22) wC w.heap.size 22 36 i0 _ 2 32 Tryz.underlying22 hi0 hz0 hz1 hz2 rfl (by decide) (.slice oa k oc) k (rowI2 ((L.take k).map bump)) (own_out OWN.out oRC) ⟨wr.heap.size, 0, none⟩ 1 1 [.int .u64 (yf : Nat), .slice xa xn xc] rfl (fun j u hj => by rw [add_B, Nat.zero_add]; match j, hj with | 0, hj => cases hj; exact u0 | 1, hj => cases hj; exact u1) (by intro u hu; simp at hu; rcases hu with rfl | rfl <;> rfl) (by have := HNN.out; simp only [maxLen]; omega) (by have := HNN.out; omega) (OR.out.trans oRC).size
      obtain ⟨a2, c2, rfl, _, _⟩ := own_slice hown2
      have hc2 : Chg (fun b => (Value.slice oa k oc).ownBlock = some b) wC w4 := Chg.of_grown hgr2 (fun q hq => hq)
      have O4 : Hid (Out w w4) := hidOf (Chg.out hc2 (OR.out.trans oRC) (fun b hb => ((own_out OWN.out oRC).lt b hb).1))
      have OWN4 : Hid (w4.ownsRow w.heap.size 36 2 (.slice a2 (k + 1 : Nat) c2) (k + 1) (rowI2 ((L.take (k + 1)).map bump))) := hidOf (by
        have e : rowI2 ((L.take (k + 1)).map bump) = rowI2 ((L.take k).map bump) ++ [.int .u64 (yf : Nat), .slice xa xn xc] := by
          rw [List.take_add_one, HX.out, List.map_append]
          simp only [rowI2, List.flatMap_append, Option.toList, List.map_cons, List.map_nil, List.flatMap_cons, List.flatMap_nil, List.append_nil, csI2, bump]
          rw [← hxf.out, ← hyf.out, ← hxn.out, ← hxa.out, ← hxc.out]
        rw [e]; exact hown2)
      have HAP := hidOf hap
      have s0 := cell_later oC p0
      have s1 := cell_later oC p1
      have t0 : w4.cell? ⟨g, o + k * 2, none⟩ = some (.int .u64 xf) := cell_later O4.out Q0.out
      have t1 : w4.cell? ⟨g, o + k * 2 + 1, none⟩ = some (.slice xa xn xc) := cell_later O4.out Q1.out
      clear hcs q0 q1 q2 hx hxm u0 u1 oC sC oRC hap hown2 hgr2 hc2
      go_upto_region 5 with fail
      refine wp_region_held_drew (S := (fun w' => w'.cell? ⟨g, o + k * 2, none⟩ = some (.int .u64 xf) ∧ w'.cell? ⟨g, o + k * 2 + 1, none⟩ = some (.slice xa xn xc))) (by kernel_rfl) ?_ (fun hHeld => ?_)
      · exact ⟨p0, p1⟩
      refine wpAnyH_take (i := 0) (v := ?_) rfl (by kernel_rfl) (by kernel_rfl) (by kernel_rfl) (fun _ _ _ h => h) (Or.inl ⟨by rfl, ?_⟩) (by assumption) ?_
      rotate_left
      · (intro w hSw; (try dsimp only at hSw); go_simp; (try with_reducible rfl))
      show wpAnyH _ _ _ _ _ _ _ (Act.put _ (some 18) _) _
      simp only [Act.put, List.setIfInBounds_toArray, List.set_cons_zero, List.set_cons_succ]
      refine wpAnyH_take (i := 1) (v := ?_) rfl (by kernel_rfl) (by kernel_rfl) (by kernel_rfl) (fun _ _ _ h => h) (Or.inl ⟨by rfl, ?_⟩) (by assumption) ?_
      rotate_left
      · (intro w hSw; (try dsimp only at hSw); go_simp; (try with_reducible rfl))
      show wpAnyH _ _ _ _ _ _ _ (Act.put _ (some 19) _) _
      simp only [Act.put, List.setIfInBounds_toArray, List.set_cons_zero, List.set_cons_succ]
      refine wpAnyH_take (i := 2) (v := ?_) rfl (by kernel_rfl) (by kernel_rfl) (by kernel_rfl) (fun _ _ _ h => h) (Or.inl ⟨by rfl, ?_⟩) (by assumption) ?_
      rotate_left
      · (intro w hSw; (try dsimp only at hSw); go_simp; (try with_reducible rfl))
      show wpAnyH _ _ _ _ _ _ _ (Act.put _ (some 20) _) _
      simp only [Act.put, List.setIfInBounds_toArray, List.set_cons_zero, List.set_cons_succ]
      refine wpAnyH_take (i := 3) (v := ?_) rfl (by kernel_rfl) (by kernel_rfl) (by kernel_rfl) (fun _ _ _ h => h) (Or.inl ⟨by rfl, ?_⟩) (by assumption) ?_
      rotate_left
      · (intro w hSw; (try dsimp only at hSw); go_simp; (try with_reducible rfl))
      show wpAnyH _ _ _ _ _ _ _ (Act.put _ (some 21) _) _
      simp only [Act.put, List.setIfInBounds_toArray, List.set_cons_zero, List.set_cons_succ]
      refine wpAnyH_take (i := 4) (v := ?_) rfl (by kernel_rfl) (by kernel_rfl) (by kernel_rfl) (fun _ _ _ h => h) (Or.inl ⟨by rfl, ?_⟩) (by assumption) ?_
      rotate_left
      · (intro w hSw; (try dsimp only at hSw); go_simp; (try with_reducible rfl))
      show wpAnyH _ _ _ _ _ _ _ (Act.put _ (some 22) _) _
      simp only [Act.put, List.setIfInBounds_toArray, List.set_cons_zero, List.set_cons_succ]
      refine wpAnyH_take (i := 5) (v := ?_) rfl (by kernel_rfl) (by kernel_rfl) (by kernel_rfl) (fun _ _ _ h => h) (Or.inl ⟨by rfl, ?_⟩) (by assumption) ?_
      rotate_left
      · (intro w hSw; (try dsimp only at hSw); go_simp; (try with_reducible rfl))
      show wpAnyH _ _ _ _ _ _ _ (Act.put _ (some 23) _) _
      simp only [Act.put, List.setIfInBounds_toArray, List.set_cons_zero, List.set_cons_succ]
      refine wpAnyH_take (i := 6) (v := ?_) rfl (by kernel_rfl) (by kernel_rfl) (by kernel_rfl) (fun _ _ _ h => h) (Or.inl ⟨by rfl, ?_⟩) (by assumption) ?_
      rotate_left
      · (intro w hSw; (try dsimp only at hSw); go_simp; (try with_reducible rfl))
      show wpAnyH _ _ _ _ _ _ _ (Act.put _ (some 24) _) _
      simp only [Act.put, List.setIfInBounds_toArray, List.set_cons_zero, List.set_cons_succ]
      refine wpAnyH_take (i := 7) (v := ?_) rfl (by kernel_rfl) (by kernel_rfl) (by kernel_rfl) (fun _ _ _ h => h) (Or.inl ⟨by rfl, ?_⟩) (by assumption) ?_
      rotate_left
      · (intro w hSw; (try dsimp only at hSw); go_simp; (try with_reducible rfl))
      show wpAnyH _ _ _ _ _ _ _ (Act.put _ (some 25) _) _
      simp only [Act.put, List.setIfInBounds_toArray, List.set_cons_zero, List.set_cons_succ]
      refine wpAnyH_take (i := 8) (v := ?_) rfl (by kernel_rfl) (by kernel_rfl) (by kernel_rfl) (fun _ _ _ h => h) (Or.inl ⟨by rfl, ?_⟩) (by assumption) ?_
      rotate_left
      · (intro w hSw; (try dsimp only at hSw); go_simp; (try with_reducible rfl))
      show wpAnyH _ _ _ _ _ _ _ (Act.put _ (some 26) _) _
      simp only [Act.put, List.setIfInBounds_toArray, List.set_cons_zero, List.set_cons_succ]
      refine wpAnyH_take (i := 9) (v := ?_) rfl (by kernel_rfl) (by kernel_rfl) (by kernel_rfl) (fun _ _ _ h => h) (Or.inl ⟨by rfl, ?_⟩) (by assumption) ?_
      rotate_left
      · (intro w hSw; (try dsimp only at hSw); go_simp; (try with_reducible rfl))
      show wpAnyH _ _ _ _ _ _ _ (Act.put _ (some 27) _) _
      simp only [Act.put, List.setIfInBounds_toArray, List.set_cons_zero, List.set_cons_succ]
      refine wpAnyH_take (i := 10) (v := ?_) rfl (by kernel_rfl) (by kernel_rfl) (by kernel_rfl) (fun _ _ _ h => h) (Or.inl ⟨by rfl, ?_⟩) (by assumption) ?_
      rotate_left
      · (intro w hSw; (try dsimp only at hSw); go_simp; (try with_reducible rfl))
      show wpAnyH _ _ _ _ _ _ _ (Act.put _ (some 28) _) _
      simp only [Act.put, List.setIfInBounds_toArray, List.set_cons_zero, List.set_cons_succ]
      refine wpAnyH_take (i := 11) (v := ?_) rfl (by kernel_rfl) (by kernel_rfl) (by kernel_rfl) (fun _ _ _ h => h) (Or.inl ⟨by rfl, ?_⟩) (by assumption) ?_
      rotate_left
      · (intro w hSw; (try dsimp only at hSw); go_simp; (try with_reducible rfl))
      show wpAnyH _ _ _ _ _ _ _ (Act.put _ (some 29) _) _
      simp only [Act.put, List.setIfInBounds_toArray, List.set_cons_zero, List.set_cons_succ]
      refine wpAnyH_take (i := 12) (v := ?_) rfl (by kernel_rfl) (by kernel_rfl) (by kernel_rfl) (fun _ _ _ h => h) (Or.inl ⟨by rfl, ?_⟩) (by assumption) ?_
      rotate_left
      · (intro w hSw; (try dsimp only at hSw); go_simp; (try with_reducible rfl))
      show wpAnyH _ _ _ _ _ _ _ (Act.put _ (some 30) _) _
      simp only [Act.put, List.setIfInBounds_toArray, List.set_cons_zero, List.set_cons_succ]
      refine wpAnyH_ready (rs := [13]) (by kernel_rfl) (by simp) ?_
      refine (AllReadyH.cons rfl (fun Ko13 hKo13 => ?_) AllReadyH.nil)
      rw [if_pos (by rfl)]
      go_simp
      first | rw [HC2.out] | rw [← HC.out]
      refine hKo13.out _ _ ⟨s0, s1⟩ (fun hHeld13 => ?_)
      try simp only [Act.put, List.setIfInBounds_toArray, List.set_cons_zero, List.set_cons_succ]
      refine wpAnyH_ready (rs := [14]) (by kernel_rfl) (by simp) ?_
      refine (AllReadyH.cons rfl (fun Ko14 hKo14 => ?_) AllReadyH.nil)
      rw [if_pos (by rfl)]
      refine Lib.wp_append_run _ (.tmp 18) (.tmp 31) 22 22 rfl _ _ (by simp [Act.eval, Act.put]) (by simp [Act.eval, Act.put]) _ _ HAP.out ?_
      refine hKo14.out _ _ ⟨t0, t1⟩ (fun hHeld14 => ?_)
      try simp only [Act.put, List.setIfInBounds_toArray, List.set_cons_zero, List.set_cons_succ]
      refine wpAnyH_take (i := 15) (v := ?_) rfl (by kernel_rfl) (by kernel_rfl) (by kernel_rfl) (fun _ _ _ h => h) (Or.inl ⟨by rfl, ?_⟩) (by assumption) ?_
      rotate_left
      · (intro w hSw; (try dsimp only at hSw); go_simp; (try with_reducible rfl))
      show wpAnyH _ _ _ _ _ _ _ (Act.put _ (some 3) _) _
      simp only [Act.put, List.setIfInBounds_toArray, List.set_cons_zero, List.set_cons_succ]
      refine wpAnyH_done (by kernel_rfl) ?_ _
      clear p0 p1 s0 s1 t0 t1
      go_wp2
      go_roundw
      case rel => exact ⟨k + 1, a2, c2, by first | rfl | simp, by simp, by omega, OWN4, O4⟩
      case measure => simp [intOf]; omega
    · have hlt : ¬ (k : Int) < n := by omega
      obtain rfl : k = n := by omega
      have ht : L.take k = L := List.take_of_length_le (by rw [← hN.out]; exact Nat.le_refl _)
      have C1 := hidOf (OC1.out wr w.heap.size oc oa OR.out (by have h9 := OWN.out; rw [ht] at h9; exact h9))
      clear ht
      go_upto_region 7 with (go_at_call 6; refine C1.out.mono ?_; rintro e w1 ⟨d1, rfl, ho1, hd1⟩; have O1 := hidOf (OR.out.trans ho1); clear ho1 hd1)
      have C2 := hidOf (OC2.out w1 O1.out)
      go_upto_region 8 with (go_at_call 6; refine C2.out.mono ?_; rintro e w2 ⟨d2, rfl, ho2, hd2⟩; have O2 := hidOf (O1.out.trans ho2); have D2 : Hid (DeskO L k w1.heap.size w2 d2) := hidOf hd2; clear ho2 hd2)
      have AC := hidOf (act_any w2 L k w1.heap.size d2 D2.out HL.out hn hN.out.symm)
      unfold actR at AC
      have AW := hidOf (fun W => awake_any W)
      go_upto_region 11 with (go_at_call 8; refine AC.out.mono ?_; rintro e w3 ⟨v, rfl, ho3⟩; have O3 := hidOf (O2.out.trans ho3); clear ho3)
      go_wp2_with (go_at_call 9; refine (AW.out _).mono ?_; rintro e w4 ⟨rfl, ho4⟩; have O4 := hidOf (O3.out.trans ho4); clear ho4)
      go_ret
      exact ⟨rfl, O4.out⟩
end Go.Proofs.YtekjfbmebekmeaaGreat
