import Derived.Test.YtkihaohdcgjioaaGreatDoorGr19
import Derived.Test.YtkihaohdcgjioaaGreatDoorGr14
import Derived.Deep.DeepCutAuto
namespace Go.Proofs.YtkihaohdcgjioaaGreatDoor
open Go.RowKit
set_option linter.unusedVariables false
set_option linter.unusedSimpArgs false
def stL (x : Stm) (wv nv : Value) : List Value := [.int .i64 x.k, .string ⟨x.nm.toArray⟩, wv, nv, .int .i64 x.o, .int .i64 x.d, .int .i64 x.s, .int .i64 x.f, .int .i64 x.i, .string ⟨x.tg.toArray⟩, .int .i64 x.l]
def stC (Y : List (Stm × Value × Value)) : List Value := Y.flatMap fun y => stL y.1 y.2.1 y.2.2
theorem stC_snoc (Y : List (Stm × Value × Value)) (y : Stm × Value × Value) : stC (Y ++ [y]) = stC Y ++ stL y.1 y.2.1 y.2.2 := by simp [stC]
structure OwQ (B : Nat) (sv : Value) (L : List Stm) (w : World) : Prop where
  ex : ∃ Y : List (Stm × Value × Value), Y.map (fun y => y.1) = L ∧ w.ownsRow B 60 11 sv L.length (stC Y) ∧ ∀ y ∈ Y, LsOk B w y.1 y.2.1 y.2.2
theorem OwQ.out {B : Nat} {sv : Value} {L : List Stm} {w w' : World} (h : OwQ B sv L w) (o : Out w w') : OwQ B sv L w' := by
  obtain ⟨Y, h1, h2, h3⟩ := h.ex
  exact ⟨Y, h1, owns_chg (S := fun _ => False) h2 (fun _ _ h => h) (Chg.of_out o), fun y hy => (h3 y hy).out o⟩
theorem OwQ.atp {B p : Nat} {sv tv mv sv' : Value} {L : List Stm} {w w' : World} (h : OwQ B sv L w) (hR : RB w p tv mv sv') (c : Chg (fun b => b = p) w w') : OwQ B sv L w' := by
  obtain ⟨Y, h1, h2, h3⟩ := h.ex
  exact ⟨Y, h1, owns_chg h2 (fun k hk e => own_kind h2 hR (by decide) (by rw [← e]; exact hk)) c, fun y hy => (h3 y hy).atp hR c⟩
theorem OwQ.nil (B : Nat) (w : World) : OwQ B (.slice none 0 0) [] w := ⟨[], rfl, World.ownsRow_nil _ _ _ _, fun y hy => by cases hy⟩
theorem infoSt : (Tryz.prog.info? 60).map (fun i => (i.zero, i.size, i.bytes)) = some (some (.agg #[.int .i64 0, .string ⟨#[]⟩, .slice none 0 0, .slice none 0 0, .int .i64 0, .int .i64 0, .int .i64 0, .int .i64 0, .int .i64 0, .string ⟨#[]⟩, .int .i64 0]), 11, 136) := by kernel_rfl
theorem PS.rb {B : Nat} {w : World} {p g mb : Nat} {sv : Value} {ts : List Lx.Tk} (h : PS B w p g mb sv ts) : ∃ tv, RB w p tv (.map (some mb)) sv := by
  obtain ⟨off, cap, hr, _⟩ := h.st
  exact ⟨_, hr⟩
theorem PS.push {B : Nat} {w wA w8 : World} {p g mb n cap gs : Nat} {sv : Value} {ts : List Lx.Tk} {L : List Stm} {x : Stm} {wv nv : Value} (h : PS B w p g mb sv ts) (ho : OwQ B sv L w) (hx : LsOk B w x wv nv) (k_ : Out w wA) (hg : wA.grownBy w8 sv.ownBlock) (hn : L.length = n) (Y : List (Stm × Value × Value)) (hY : Y.map (fun y => y.1) = L ∧ w.ownsRow B 60 11 sv L.length (stC Y) ∧ ∀ y ∈ Y, LsOk B w y.1 y.2.1 y.2.2) (hown : w8.ownsRow B 60 11 (.slice (some ⟨gs, 0, none⟩) (n + 1) cap) (n + 1) (stC Y ++ stL x wv nv)) :
    PS B (w8.setCell ⟨p, 2, none⟩ (.slice (some ⟨gs, 0, none⟩) (n + 1) cap)) p g mb (.slice (some ⟨gs, 0, none⟩) (n + 1) cap) ts ∧ OwQ B (.slice (some ⟨gs, 0, none⟩) (n + 1) cap) (L ++ [x]) (w8.setCell ⟨p, 2, none⟩ (.slice (some ⟨gs, 0, none⟩) (n + 1) cap)) ∧ Chg (KQ B w) w (w8.setCell ⟨p, 2, none⟩ (.slice (some ⟨gs, 0, none⟩) (n + 1) cap)) := by
  obtain ⟨hY1, hY2, hY3⟩ := hY
  have hA := h.out k_
  obtain ⟨off, cp, hr, ht, hc⟩ := hA.st
  obtain ⟨cs, fr, h4⟩ := hA.gk
  have hYA := owns_chg (S := fun _ => False) hY2 (fun _ _ h => h) (Chg.of_out k_)
  have c8 : Chg (fun b => sv.ownBlock = some b) wA w8 := Chg.of_grown hg (fun k h => h)
  have hp8 : RB w8 p (.slice (some ⟨g, off, none⟩) ts.length cp) (.map (some mb)) sv := (c8.block p (Array.getElem?_eq_some_iff.1 hr).1 (fun e => own_kind hYA hr (by decide) e)).trans hr
  have hgs : ¬ sv.ownBlock = some g := own_kind hYA h4 (by decide)
  have hg8 : w8.heap[g]? = some (.cells cs 117 fr) := (c8.block g (Array.getElem?_eq_some_iff.1 h4).1 hgs).trans h4
  have ht8 := ht.chg c8 hgs
  have hls : ∀ y wv nv, LsOk B wA y wv nv → LsOk B w8 y wv nv := fun y wv nv hl => by
    refine ⟨owns_chg hl.1 (fun k hk e => ?_) c8, owns_chg hl.2 (fun k hk e => ?_) c8⟩
    · obtain ⟨_, _, _⟩ := hl
      rcases hYA.2 with ⟨hv, _⟩ | ⟨g3, cap3, cur3, hv, _, hg3, _⟩
      · rw [hv] at e; cases e
      · rw [hv] at e; simp [Value.ownBlock] at e; subst e; exact own_kind (by assumption) hg3 (by decide) hk
    · obtain ⟨_, hl2⟩ := hl
      rcases hYA.2 with ⟨hv, _⟩ | ⟨g3, cap3, cur3, hv, _, hg3, _⟩
      · rw [hv] at e; cases e
      · rw [hv] at e; simp [Value.ownBlock] at e; subst e; exact own_kind hl2 hg3 (by decide) hk
  have cS : Chg (fun b => b = p) w8 (w8.setCell ⟨p, 2, none⟩ (.slice (some ⟨gs, 0, none⟩) (n + 1) cap)) := Chg.setCell (S := fun b => b = p) (Chg.refl _ w8) (p := ⟨p, 2, none⟩) rfl _
  have hgp : ¬ g = p := hA.gp
  refine ⟨⟨⟨off, cp, ?_, ht8.chg cS hgp, hc⟩, ⟨cs, fr, (cS.block g (Array.getElem?_eq_some_iff.1 hg8).1 hgp).trans hg8⟩, h.pB⟩, ⟨Y ++ [(x, wv, nv)], by simp [hY1], ?_, fun y hy => ?_⟩, ?_⟩
  · unfold RB
    rw [set_atL hp8]
    rfl
  · rw [stC_snoc, List.length_append, List.length_singleton, hn]
    exact owns_chg hown (fun k hk e => own_kind hown hp8 (by decide) (by rw [← e]; exact hk)) cS
  · have key : LsOk B w8 y.1 y.2.1 y.2.2 := by
      rcases List.mem_append.1 hy with hy | hy
      · exact hls _ _ _ ((hY3 y hy).out k_)
      · rw [List.mem_singleton.1 hy]
        exact hls _ _ _ (hx.out k_)
    exact key.atp hp8 cS
  · refine ((Chg.of_out k_).trans c8 (fun b hb hlt => ?_)).trans cS (fun b hb hlt => ?_)
    · rcases hY2.2 with ⟨hv, _⟩ | ⟨g3, cap3, cur3, hv, hB3, hg3, _⟩
      · rw [hv] at hb; cases hb
      · rw [hv] at hb; simp [Value.ownBlock] at hb; subst hb; exact ⟨hB3, _, _, _, hg3, .inr rfl⟩
    · rw [hb]; exact h.kq
set_option maxRecDepth 20000 in
set_option maxHeartbeats 4000000 in
theorem add6_any (B : Nat) (w : World) (p g mb : Nat) (sv : Value) (t : Lx.Tk) (r : List Lx.Tk) (L : List Stm) (x : Stm) (wv nv : Value) (h : PS B w p g mb sv (t :: r)) (ho : OwQ B sv L w) (hx : LsOk B w x wv nv) (hL : L.length ≤ 100000000000) (hB : B ≤ w.heap.size) :
    Calls Tryz.prog 95 #[.pointer (some ⟨p, 0, none⟩), stE x wv nv] w fun e w' => (∃ q, e = .returned q) ∧ ∃ sv', PS B w' p g mb sv' (t :: r) ∧ OwQ B sv' (L ++ [{ x with l := t.l }]) w' ∧ Chg (KQ B w) w w' := by
  obtain ⟨aw, cw, rfl⟩ := own_form hx.1
  obtain ⟨an, cn, rfl⟩ := own_form hx.2
  obtain ⟨nw, hnw⟩ : ∃ nw, nw = x.ws.length := ⟨_, rfl⟩
  obtain ⟨nn, hnn⟩ : ∃ nn, nn = x.ns.length := ⟨_, rfl⟩
  obtain ⟨Y, hY⟩ := ho.ex
  have hY2 := hY.2.1
  obtain ⟨as_, cs_, rfl⟩ := own_form hY2
  obtain ⟨n, hn⟩ : ∃ n, L.length = n := ⟨_, rfl⟩
  obtain ⟨off, cap, hR, hT, hc⟩ := h.st
  obtain ⟨q0, q1, q2, q3⟩ := hT 0 t rfl
  simp only [Nat.zero_mul, Nat.add_zero] at q0 q1 q2 q3
  obtain ⟨m, hm⟩ : ∃ m, m = (t :: r).length := ⟨_, rfl⟩
  have hm1 : (1 : Int) ≤ m := by rw [hm]; simp; omega
  rw [← hm] at hR
  rw [hn] at hR
  have hpl := h.gl.1
  unfold stE
  rw [← hnw, ← hnn]
  obtain ⟨q, hq⟩ : ∃ q, q = w.heap.size := ⟨_, rfl⟩
  obtain ⟨w1, hw1⟩ : ∃ w1, w1 = w.alloc (.cells #[.int .i64 x.k, .string ⟨x.nm.toArray⟩, .slice aw nw cw, .slice an nn cn, .int .i64 x.o, .int .i64 x.d, .int .i64 x.s, .int .i64 x.f, .int .i64 x.i, .string ⟨x.tg.toArray⟩, .int .i64 x.l] 60) := ⟨_, rfl⟩
  have o1 : Out w w1 := by rw [hw1]; exact (Out.refl w).alloc _
  have b1 : w1.heap[q]? = some (.cells #[.int .i64 x.k, .string ⟨x.nm.toArray⟩, .slice aw nw cw, .slice an nn cn, .int .i64 x.o, .int .i64 x.d, .int .i64 x.s, .int .i64 x.f, .int .i64 x.i, .string ⟨x.tg.toArray⟩, .int .i64 x.l] 60 (0, 0)) := by rw [hw1, hq]; exact heap_alloc_new w _
  have e0 : w1.cell? ⟨p, 0, none⟩ = some (.slice (some ⟨g, off, none⟩) m cap) := cell_later o1 (by rw [cell_atL hR]; rfl)
  have e3 := cell_later o1 q3
  have e10 : w1.cell? ⟨q, 10, none⟩ = some (.int .i64 x.l) := by rw [cell_atL b1]; rfl
  have f10 := frozen_atL b1 10
  have HP := hidOf h
  have HO := hidOf ho
  have HX : Hid (LsOk B w { x with l := t.l } (.slice aw nw cw) (.slice an nn cn)) := hidOf (by rw [hnw, hnn]; exact hx)
  have HY : Hid (Y.map (fun y => y.1) = L ∧ w.ownsRow B 60 11 (.slice as_ n cs_) L.length (stC Y) ∧ ∀ y ∈ Y, LsOk B w y.1 y.2.1 y.2.2) := hidOf (by rw [← hn]; exact hY)
  have Hn := hidOf hn
  have B1 := hidOf b1
  have O1 := hidOf o1
  have Hq := hidOf hq
  have Hw1 := hidOf hw1
  have HR := hidOf hR
  rw [hn] at HP HO
  clear h ho hx hY hY2 hnw hnn hR hT hc q0 q1 q2 q3 b1 o1 hq hw1 hm
  go_enter Tryz.func95, Tryz.ntmps95
  go_upto_region 1 with fail
  rw [← Hw1.out, ← Hq.out]
  go_upto_region 2 with fail
  obtain ⟨wC, hwC⟩ : ∃ wC, wC = w1.setCell ⟨q, 10, none⟩ (.int .i64 t.l) := ⟨_, rfl⟩
  rw [← hwC]
  have hC : wC.heap[q]? = some (.cells #[.int .i64 x.k, .string ⟨x.nm.toArray⟩, .slice aw nw cw, .slice an nn cn, .int .i64 x.o, .int .i64 x.d, .int .i64 x.s, .int .i64 x.f, .int .i64 x.i, .string ⟨x.tg.toArray⟩, .int .i64 t.l] 60 (0, 0)) := by rw [hwC, set_atL B1.out]; rfl
  have oC : Out w wC := by rw [hwC]; exact Out.setCell O1.out (by rw [Hq.out]; exact Nat.le_refl _) _
  have HC := hidOf hC
  have OC := hidOf oC
  have hpb : wC.heap[p]? = _ := (oC.block p hpl).trans HR.out
  have hown : wC.ownsRow B 60 11 (.slice as_ n cs_) n (stC Y) := owns_chg (S := fun _ => False) (by have := HY.out.2.1; rw [Hn.out] at this; exact this) (fun _ _ h => h) (Chg.of_out oC)
  obtain ⟨i0, hi, hz0, hz1, hz2⟩ := info_parts infoSt
  have pD : wC.drew.cell? ⟨p, 2, none⟩ = some (.slice as_ n cs_) := by rw [cell_atL (show wC.drew.heap[p]? = _ from hpb)]; rfl
  have d0 : wC.drew.cell? ⟨q, 0, none⟩ = some (.int .i64 x.k) := by rw [cell_atL (show wC.drew.heap[q]? = _ from hC)]; rfl
  have d1 : wC.drew.cell? ⟨q, 1, none⟩ = some (.string ⟨x.nm.toArray⟩) := by rw [cell_atL (show wC.drew.heap[q]? = _ from hC)]; rfl
  have d2 : wC.drew.cell? ⟨q, 2, none⟩ = some (.slice aw nw cw) := by rw [cell_atL (show wC.drew.heap[q]? = _ from hC)]; rfl
  have d3 : wC.drew.cell? ⟨q, 3, none⟩ = some (.slice an nn cn) := by rw [cell_atL (show wC.drew.heap[q]? = _ from hC)]; rfl
  have d4 : wC.drew.cell? ⟨q, 4, none⟩ = some (.int .i64 x.o) := by rw [cell_atL (show wC.drew.heap[q]? = _ from hC)]; rfl
  have d5 : wC.drew.cell? ⟨q, 5, none⟩ = some (.int .i64 x.d) := by rw [cell_atL (show wC.drew.heap[q]? = _ from hC)]; rfl
  have d6 : wC.drew.cell? ⟨q, 6, none⟩ = some (.int .i64 x.s) := by rw [cell_atL (show wC.drew.heap[q]? = _ from hC)]; rfl
  have d7 : wC.drew.cell? ⟨q, 7, none⟩ = some (.int .i64 x.f) := by rw [cell_atL (show wC.drew.heap[q]? = _ from hC)]; rfl
  have d8 : wC.drew.cell? ⟨q, 8, none⟩ = some (.int .i64 x.i) := by rw [cell_atL (show wC.drew.heap[q]? = _ from hC)]; rfl
  have d9 : wC.drew.cell? ⟨q, 9, none⟩ = some (.string ⟨x.tg.toArray⟩) := by rw [cell_atL (show wC.drew.heap[q]? = _ from hC)]; rfl
  have d10 : wC.drew.cell? ⟨q, 10, none⟩ = some (.int .i64 t.l) := by rw [cell_atL (show wC.drew.heap[q]? = _ from hC)]; rfl
  have pDa : (wC.alloc (.cells #[.int .i64 x.k, .string ⟨x.nm.toArray⟩, .slice aw nw cw, .slice an nn cn, .int .i64 x.o, .int .i64 x.d, .int .i64 x.s, .int .i64 x.f, .int .i64 x.i, .string ⟨x.tg.toArray⟩, .int .i64 t.l] 60)).cell? ⟨p, 2, none⟩ = some (.slice as_ n cs_) := cell_later (((Out.refl wC)).alloc _) (show wC.cell? ⟨p, 2, none⟩ = _ from pD)
  have RX : Hid (∀ O, (wC.alloc O).drew.ownsRow B 60 11 (.slice as_ n cs_) n (stC Y)) := hidOf (fun O => owns_chg (S := fun _ => False) hown (fun _ _ h => h) (Chg.of_out (((Out.refl wC).alloc O).drew)))
  have HPw : Hid (∀ O w8, (wC.alloc O).drew.grownBy w8 (Value.slice as_ n cs_).ownBlock → w8.cell? ⟨p, 2, none⟩ = some (.slice as_ n cs_) ∧ w8.frozen? ⟨p, 2, none⟩ = false) := hidOf (fun O w8 hg => by
    have hA : (wC.alloc O).drew.heap[p]? = _ := ((((Out.refl wC).alloc O).drew).block p (Array.getElem?_eq_some_iff.1 hpb).1).trans hpb
    have hs : w8.heap[p]? = _ := (hg.block p (Array.getElem?_eq_some_iff.1 hA).1 (fun e => own_kind (RX.out O) hA (by decide) e.symm)).trans hA
    exact ⟨by rw [cell_atL hs]; rfl, frozen_atL hs 2⟩)
  have hbase : Hid (∀ O, B ≤ (wC.alloc O).drew.heap.size) := hidOf (fun O => Nat.le_trans hB ((oC.alloc O).drew.size))
  have hnn3 : n ≤ 100000000000 := by have := Hn.out; omega
  clear hwC hC oC hpb hown e0 e3 e10 f10
  go_region_law (first | (refine step_append_lies _ rfl (.tmp 16) (.tmp 18) 43 rfl B 60 i0 _ 11 136 Tryz.underlying43 hi hz0 hz1 hz2 rfl (by decide) (.slice as_ n cs_) n (stC Y) rfl (RX.out _) ⟨wC.heap.size, 0, none⟩ 1 1 (#[.int .i64 x.k, .string ⟨x.nm.toArray⟩, .slice aw nw cw, .slice an nn cn, .int .i64 x.o, .int .i64 x.d, .int .i64 x.s, .int .i64 x.f, .int .i64 x.i, .string ⟨x.tg.toArray⟩, .int .i64 t.l]).toList rfl rfl (fun j u hu => cell_later ((Out.refl _).drew) (news_new wC _ _ _ rfl j u hu)) (by intro u hu; simp at hu; rcases hu with h | h | h | h | h | h | h | h | h | h | h <;> subst h <;> rfl) (by decide) (by unfold maxLen; omega) (by omega) (hbase.out _) _ rfl ?_; intro g9 cap9 w9 hown9 hgrow9 hg9 hlt9; obtain ⟨q9, f9⟩ := HPw.out _ w9 hgrow9; have W9 := hidOf hown9; have G9 := hidOf hgrow9; clear hown9 hgrow9 hg9 hlt9))
  all_goals
    go_end0
    have hP := PS.push (x := { x with l := t.l }) HP.out HO.out HX.out (OC.out.trans (((Out.refl wC).alloc _).drew)) G9.out Hn.out Y HY.out W9.out
    exact ⟨⟨_, rfl⟩, _, hP.1, hP.2.1, hP.2.2⟩
def Pow (w : World) : Prop := Lib.TabIs Tryz.prog w "internal/strconv.uint64pow10" .u64 Lib.pow10Tab
theorem Pow.out {w w' : World} (h : Pow w) (o : Out w w') : Pow w' := Lib.tabBelow_of_tabIs h w' o
theorem itoa_any (f : Int) (h : -9223372036854775808 ≤ f ∧ f < 9223372036854775808) (w : World) (ht : Pow w) : Calls Tryz.prog 81 #[.int .i64 f] w fun e w' => e = .returned (.string ⟨(Lib.itoa f).toArray⟩) ∧ Out w w' :=
  (Tryz.strconv_Itoa f h.1 (by omega) w ht).mono fun e w' ⟨he, k, os, hw⟩ => ⟨he, by rw [hw]; exact Lib.below_grow _ w (Nat.le_refl _) k os⟩
theorem dd_len : ∀ (k u : Nat), u < 10 ^ (k + 1) → (Lib.decDigits u).length ≤ k + 1
  | 0, u, h => by rw [dd_small (by omega)]; simp
  | k + 1, u, h => by
    by_cases hu : u < 10
    · rw [dd_small hu]; simp
    · rw [dd_big hu, List.length_append]
      have := dd_len k (u / 10) (by rw [Nat.pow_succ] at h; omega)
      simp; omega
theorem itoa_len (f : Int) (h : -9223372036854775808 ≤ f ∧ f < 9223372036854775808) : (Lib.itoa f).length ≤ 100 := by
  by_cases hf : f < 0
  · rw [itoa_neg f hf]
    have := dd_len 19 f.natAbs (by omega)
    simp; omega
  · rw [itoa_pos f hf]
    have := dd_len 19 f.toNat (by omega)
    omega
theorem add_lists (x y z : List UInt8) (hz : z = x ++ y) (h : x.length + y.length ≤ 9223372036854775807) (w : World) : (Op.stringOp .add ⟨x.toArray⟩ ⟨y.toArray⟩).run Tryz.prog w = .ok (.string ⟨z.toArray⟩) w := by
  rw [run_string_add_sum w _ _ (by simp [ByteArray.size]; omega), ByteArray.mk_append_mk, hz]
theorem regL_len (k : Nat) : (regL k).length ≤ 3 := by unfold regL; split <;> simp
theorem place_at0 (f : Int) (w : World) (k : Nat) (l m : List UInt8) (hl : l.length ≤ 3) (hm : m.length ≤ 100) (h11 : (k : Int) < 11) (c0 : w.cell? ⟨1, k, none⟩ = some (.string ⟨l.toArray⟩)) (CI : Hid (∀ wx, Out w wx → Calls Tryz.prog 81 #[.int .i64 f] wx fun e w' => e = .returned (.string ⟨m.toArray⟩) ∧ Out wx w')) : Calls Tryz.prog 129 #[.int .i64 k, .int .i64 f] w fun e w' => e = .returned (.string ⟨([91] ++ l ++ (if 0 ≤ f then [43] else []) ++ m ++ [93]).toArray⟩) ∧ Out w w' := by
  obtain ⟨sg, hsg⟩ : ∃ sg : List UInt8, sg = if 0 ≤ f then [43] else [] := ⟨_, rfl⟩
  rw [← hsg]
  obtain ⟨l1, h1⟩ : ∃ l1, l1 = [91] ++ l := ⟨_, rfl⟩
  obtain ⟨l2, h2⟩ : ∃ l2, l2 = l1 ++ sg := ⟨_, rfl⟩
  obtain ⟨l3, h3⟩ : ∃ l3, l3 = l2 ++ m := ⟨_, rfl⟩
  obtain ⟨l4, h4⟩ : ∃ l4, l4 = l3 ++ [93] := ⟨_, rfl⟩
  have zs : sg.length ≤ 1 := by rw [hsg]; split <;> simp
  have z1 : l1.length ≤ 4 := by rw [h1]; simp; omega
  have z2 : l2.length ≤ 5 := by rw [h2]; simp; omega
  have z3 : l3.length ≤ 105 := by rw [h3]; simp; omega
  have a1 : ∀ w, (Op.stringOp .add ⟨#[91]⟩ ⟨l.toArray⟩).run Tryz.prog w = .ok (.string ⟨l1.toArray⟩) w := add_lists [91] l l1 h1 (by simp; omega)
  have a2 : ∀ w, (Op.stringOp .add ⟨l1.toArray⟩ ⟨sg.toArray⟩).run Tryz.prog w = .ok (.string ⟨l2.toArray⟩) w := add_lists l1 sg l2 h2 (by omega)
  have a3 : ∀ w, (Op.stringOp .add ⟨l2.toArray⟩ ⟨m.toArray⟩).run Tryz.prog w = .ok (.string ⟨l3.toArray⟩) w := add_lists l2 m l3 h3 (by omega)
  have a4 : ∀ w, (Op.stringOp .add ⟨l3.toArray⟩ ⟨#[93]⟩).run Tryz.prog w = .ok (.string ⟨l4.toArray⟩) w := add_lists l3 [93] l4 h4 (by simp; omega)
  rw [← h1, ← h2, ← h3, ← h4]
  clear h1 h2 h3 h4 z1 z2 z3 hl hm zs
  by_cases hf : 0 ≤ f
  · rw [if_pos hf] at hsg
    subst hsg
    have hp : (decide (0 ≤ f)) = true := by simpa using hf
    go_enter Tryz.func129, Tryz.ntmps129
    go_wp2
    go_region_held3 (fun w' => w'.cell? ⟨1, k, none⟩ = some (.string ⟨l.toArray⟩)) (first | exact c0 | exact d0 | go_keep) (first | (go_at_call 81; refine (CI.out _ (by first | exact Out.refl _ | exact (Out.refl _).drew)).mono ?_; rintro e w1 ⟨rfl, ho1⟩; have Ho1 := hidOf ho1; have d0 := cell_later ho1 c0; clear ho1))
    all_goals go_wp2
    all_goals go_ret
    all_goals exact ⟨rfl, Out.trans (Out.refl w).drew Ho1.out⟩
  · rw [if_neg hf] at hsg
    subst hsg
    have hp : (decide (0 ≤ f)) = false := by simpa using hf
    go_enter Tryz.func129, Tryz.ntmps129
    go_wp2
    go_region_held3 (fun w' => w'.cell? ⟨1, k, none⟩ = some (.string ⟨l.toArray⟩)) (first | exact c0 | exact d0 | go_keep) (first | (go_at_call 81; refine (CI.out _ (by first | exact Out.refl _ | exact (Out.refl _).drew)).mono ?_; rintro e w1 ⟨rfl, ho1⟩; have Ho1 := hidOf ho1; have d0 := cell_later ho1 c0; clear ho1))
    all_goals go_wp2
    all_goals go_ret
    all_goals exact ⟨rfl, Out.trans (Out.refl w).drew Ho1.out⟩
theorem placeText_any (k : Nat) (hk : k < 11) (f : Int) (h : -9223372036854775808 ≤ f ∧ f < 9223372036854775808) (w : World) (hR : RegT w) (ht : Pow w) : Calls Tryz.prog 129 #[.int .i64 k, .int .i64 f] w fun e w' => e = .returned (.string ⟨(placeTx k f).toArray⟩) ∧ Out w w' := by
  have := place_at0 f w k (regL k) (Lib.itoa f) (regL_len k) (itoa_len f h) (by omega) (hR k hk) (fun wx ho => itoa_any f h wx (ht.out ho))
  rw [show [91] ++ regL k ++ (if 0 ≤ f then [43] else []) ++ Lib.itoa f ++ [93] = placeTx k f from by unfold placeTx; simp [List.append_assoc]] at this
  exact this
def txOk (o d s f i c : Int) : Prop := (c = 1 ∧ isReg d = true) ∨ (c = 2 ∧ isReg s = true) ∨ c = 3 ∨ (c = 4 ∧ (hasSrc o = true → isReg s = true)) ∨ (c = 5 ∧ isReg s = true) ∨ (c = 6 ∧ isReg d = true) ∨ c = 7 ∨ c = 8
set_option maxHeartbeats 1600000 in
theorem operandText_any (o d s f i c : Int) (t : List UInt8) (hc : txOk o d s f i c) (hf : -9223372036854775808 ≤ f ∧ f < 9223372036854775808) (hi : -9223372036854775808 ≤ i ∧ i < 9223372036854775808) (w : World) (hR : RegT w) (ht : Pow w) : Calls Tryz.prog 86 #[.agg #[.int .i64 o, .int .i64 d, .int .i64 s, .int .i64 f, .int .i64 i], .int .u8 c, .string ⟨t.toArray⟩] w fun e w' => e = .returned (.string ⟨(opdTx o d s f i t c).toArray⟩) ∧ Out w w' := by
  have CI : Hid (∀ wx, Out w wx → Calls Tryz.prog 81 #[.int .i64 i] wx fun e w' => e = .returned (.string ⟨(Lib.itoa i).toArray⟩) ∧ Out wx w') := fun wx ho => itoa_any i hi wx (ht.out ho)
  rcases hc with ⟨rfl, hr⟩ | ⟨rfl, hr⟩ | rfl | ⟨rfl, hr⟩ | ⟨rfl, hr⟩ | ⟨rfl, hr⟩ | rfl | rfl
  · rw [show opdTx o d s f i t 1 = regL d.toNat from rfl]
    obtain ⟨hk, he⟩ := isReg_nat hr
    generalize d.toNat = k at *
    subst he
    have hlt : (k : Int) < 11 := by omega
    have c0 : ∀ O, (w.alloc O).cell? ⟨1, k, none⟩ = some (.string ⟨(regL k).toArray⟩) := fun O => cell_later ((Out.refl w).alloc O) (hR k hk)
    clear hR ht hr hf hi CI hk
    generalize regL k = l at *
    go_enter Tryz.func86, Tryz.ntmps86
    go_wp2
    go_ret
    exact ⟨rfl, (Out.refl w).alloc _⟩
  · rw [show opdTx o d s f i t 2 = regL s.toNat from rfl]
    obtain ⟨hk, he⟩ := isReg_nat hr
    generalize s.toNat = k at *
    subst he
    have hlt : (k : Int) < 11 := by omega
    have c0 : ∀ O, (w.alloc O).cell? ⟨1, k, none⟩ = some (.string ⟨(regL k).toArray⟩) := fun O => cell_later ((Out.refl w).alloc O) (hR k hk)
    clear hR ht hr hf hi CI hk
    generalize regL k = l at *
    go_enter Tryz.func86, Tryz.ntmps86
    go_wp2
    go_ret
    exact ⟨rfl, (Out.refl w).alloc _⟩
  · rw [show opdTx o d s f i t 3 = Lib.itoa i from rfl]
    generalize Lib.itoa i = l at *
    clear hR ht hf hi
    go_enter Tryz.func86, Tryz.ntmps86
    go_wp2_with (go_at_call 81; refine (CI.out _ ((Out.refl w).alloc _)).mono ?_; rintro e w1 ⟨rfl, ho1⟩; have Ho1 := hidOf ho1; clear ho1)
    go_ret
    exact ⟨rfl, Out.trans ((Out.refl w).alloc _) Ho1.out⟩
  · cases hh : hasSrc o
    · rw [show opdTx o d s f i t 4 = Lib.itoa i from by show (if hasSrc o then _ else _) = _; rw [hh]; rfl]
      have hb : (bits .and .i64 o 8 != 0) = false := hh
      generalize Lib.itoa i = l at *
      clear hR ht hf hi hr hh
      go_enter Tryz.func86, Tryz.ntmps86
      go_wp2_with (go_at_call 81; refine (CI.out _ ((Out.refl w).alloc _)).mono ?_; rintro e w1 ⟨rfl, ho1⟩; have Ho1 := hidOf ho1; clear ho1)
      go_ret
      exact ⟨rfl, Out.trans ((Out.refl w).alloc _) Ho1.out⟩
    · rw [show opdTx o d s f i t 4 = regL s.toNat from by show (if hasSrc o then _ else _) = _; rw [hh]; rfl]
      have hb : (bits .and .i64 o 8 != 0) = true := hh
      obtain ⟨hk, he⟩ := isReg_nat (hr hh)
      generalize s.toNat = k at *
      subst he
      have hlt : (k : Int) < 11 := by omega
      have c0 : ∀ O, (w.alloc O).cell? ⟨1, k, none⟩ = some (.string ⟨(regL k).toArray⟩) := fun O => cell_later ((Out.refl w).alloc O) (hR k hk)
      clear hR ht hr hf hi CI hk hh
      generalize regL k = l at *
      go_enter Tryz.func86, Tryz.ntmps86
      go_wp2
      go_ret
      exact ⟨rfl, (Out.refl w).alloc _⟩
  · rw [show opdTx o d s f i t 5 = placeTx s.toNat f from rfl]
    obtain ⟨hk, he⟩ := isReg_nat hr
    have CP : Hid (∀ wx, Out w wx → Calls Tryz.prog 129 #[.int .i64 s, .int .i64 f] wx fun e w' => e = .returned (.string ⟨(placeTx s.toNat f).toArray⟩) ∧ Out wx w') := fun wx ho => by
      have := placeText_any s.toNat hk f hf wx (hR.out ho) (ht.out ho)
      rw [he] at this
      exact this
    generalize placeTx s.toNat f = l at *
    clear hR ht hf hi CI hr hk he
    go_enter Tryz.func86, Tryz.ntmps86
    go_wp2_with (go_at_call 129; refine (CP.out _ ((Out.refl w).alloc _)).mono ?_; rintro e w1 ⟨rfl, ho1⟩; have Ho1 := hidOf ho1; clear ho1)
    go_ret
    exact ⟨rfl, Out.trans ((Out.refl w).alloc _) Ho1.out⟩
  · rw [show opdTx o d s f i t 6 = placeTx d.toNat f from rfl]
    obtain ⟨hk, he⟩ := isReg_nat hr
    have CP : Hid (∀ wx, Out w wx → Calls Tryz.prog 129 #[.int .i64 d, .int .i64 f] wx fun e w' => e = .returned (.string ⟨(placeTx d.toNat f).toArray⟩) ∧ Out wx w') := fun wx ho => by
      have := placeText_any d.toNat hk f hf wx (hR.out ho) (ht.out ho)
      rw [he] at this
      exact this
    generalize placeTx d.toNat f = l at *
    clear hR ht hf hi CI hr hk he
    go_enter Tryz.func86, Tryz.ntmps86
    go_wp2_with (go_at_call 129; refine (CP.out _ ((Out.refl w).alloc _)).mono ?_; rintro e w1 ⟨rfl, ho1⟩; have Ho1 := hidOf ho1; clear ho1)
    go_ret
    exact ⟨rfl, Out.trans ((Out.refl w).alloc _) Ho1.out⟩
  · rw [show opdTx o d s f i t 7 = t from rfl]
    clear hR ht hf hi CI
    go_enter Tryz.func86, Tryz.ntmps86
    go_wp2
    go_ret
    exact ⟨rfl, (Out.refl w).alloc _⟩
  · by_cases hs : s = 1
    · rw [show opdTx o d s f i t 8 = t from by show (if s = 1 then _ else _) = _; rw [if_pos hs]]
      subst hs
      clear hR ht hf hi CI
      go_enter Tryz.func86, Tryz.ntmps86
      go_wp2
      go_ret
      exact ⟨rfl, (Out.refl w).alloc _⟩
    · rw [show opdTx o d s f i t 8 = Lib.itoa i from by show (if s = 1 then _ else _) = _; rw [if_neg hs]]
      have hb : (s != 1) = true := by simpa using hs
      generalize Lib.itoa i = l at *
      clear hR ht hf hi hs
      go_enter Tryz.func86, Tryz.ntmps86
      go_wp2_with (go_at_call 81; refine (CI.out _ ((Out.refl w).alloc _)).mono ?_; rintro e w1 ⟨rfl, ho1⟩; have Ho1 := hidOf ho1; clear ho1)
      go_ret
      exact ⟨rfl, Out.trans ((Out.refl w).alloc _) Ho1.out⟩
end Go.Proofs.YtkihaohdcgjioaaGreatDoor
