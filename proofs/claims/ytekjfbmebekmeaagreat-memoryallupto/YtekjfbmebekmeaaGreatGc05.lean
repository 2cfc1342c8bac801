import Derived.Test.YtekjfbmebekmeaaGreatGc04
namespace Go.Proofs.YtekjfbmebekmeaaGreat
open Go.RowKit
set_option linter.unusedVariables false
set_option linter.unusedSimpArgs false
set_option maxHeartbeats 2000000 in
theorem place1_any (wr : World) (b1 b2 s o gR n cR gi li ci f at_ i : Nat) (hb1 : wr.cell? ⟨b1, 0, none⟩ = some (.pointer (some ⟨s, o, none⟩))) (hb2 : wr.cell? ⟨b2, 0, none⟩ = some (.int .u64 at_)) (hs : wr.cell? ⟨s, o, none⟩ = some (.slice (some ⟨gR, 0, none⟩) n cR)) (hi : i < n) (hr : wr.cell? ⟨gR, i, none⟩ = some (.slice (some ⟨gi, 0, none⟩) li ci)) (hl : 0 < li) (hc : wr.cell? ⟨gi, 0, none⟩ = some (.int .u64 f)) :
    Calls Tryz.prog 103 (#[.int .i64 (i : Nat)] ++ #[.pointer (some ⟨b1, 0, none⟩), .pointer (some ⟨b2, 0, none⟩)]) wr fun e w' => e = .returned (.bool (decide (at_ < f))) ∧ Out wr w' := by
  have hiz : (i : Int) < (n : Int) := by omega
  have hlz : (0 : Int) < (li : Int) := by omega
  go_enter Tryz.func103, Tryz.ntmps103
  go_wp2
  go_quiet (fail)
  go_wp2
  go_ret
  refine ⟨?_, by first | exact (Out.refl wr).drew | exact (Out.refl wr).drewN _⟩
  simp
set_option maxHeartbeats 2000000 in
theorem place2_any (wr : World) (b1 b2 gi li ci f at_ i : Nat) (hb1 : wr.cell? ⟨b1, 0, none⟩ = some (.slice (some ⟨gi, 0, none⟩) li ci)) (hb2 : wr.cell? ⟨b2, 0, none⟩ = some (.int .u64 at_)) (hi : i < li) (hc : wr.cell? ⟨gi, i * 2, none⟩ = some (.int .u64 f)) :
    Calls Tryz.prog 104 (#[.int .i64 (i : Nat)] ++ #[.pointer (some ⟨b1, 0, none⟩), .pointer (some ⟨b2, 0, none⟩)]) wr fun e w' => e = .returned (.bool (decide (at_ < f))) ∧ Out wr w' := by
  have hiz : (i : Int) < (li : Int) := by omega
  go_enter Tryz.func104, Tryz.ntmps104
  go_wp2
  go_quiet (fail)
  go_wp2
  go_ret
  refine ⟨?_, by first | exact (Out.refl wr).drew | exact (Out.refl wr).drewN _⟩
  simp
end Go.Proofs.YtekjfbmebekmeaaGreat
namespace Go.Proofs.YtekjfbmebekmeaaGreat
open Go.RowKit
set_option linter.unusedVariables false
set_option linter.unusedSimpArgs false
theorem two_boxes (w : World) (p u : Value) (t1 t2 : TypeId) : ∃ wA, Hid (wA = (w.alloc (.cells #[p] t1)).alloc (.cells #[u] t2)) ∧ wA.cell? ⟨w.heap.size, 0, none⟩ = some p ∧ wA.cell? ⟨w.heap.size + 1, 0, none⟩ = some u ∧ Out w wA ∧ wA.heap.size = w.heap.size + 2 := by
  have h1 : ((w.alloc (.cells #[p] t1)).alloc (.cells #[u] t2)).cell? ⟨w.heap.size, 0, none⟩ = some p := by
    refine cell_later (Out.alloc (Out.refl _) _) ?_
    rw [cell_fresh w _ _ 0 _ rfl]; rfl
  have h2 : ((w.alloc (.cells #[p] t1)).alloc (.cells #[u] t2)).cell? ⟨w.heap.size + 1, 0, none⟩ = some u := by
    rw [cell_fresh _ _ _ 0 _ (size_alloc w _).symm]; rfl
  exact ⟨_, rfl, h1, h2, ((Out.refl w).alloc _).alloc _, by rw [size_alloc, size_alloc]⟩
theorem box_one (w : World) (u : Value) (t : TypeId) : ∃ wB, Hid (wB = w.alloc (.cells #[u] t)) ∧ wB.cell? ⟨w.heap.size, 0, none⟩ = some u ∧ Out w wB ∧ wB.heap.size = w.heap.size + 1 := by
  refine ⟨_, rfl, ?_, (Out.refl w).alloc _, size_alloc _ _⟩
  rw [cell_fresh _ _ _ 0 _ rfl]; rfl
theorem own_slice {w : World} {B s n : Nat} {e : TypeId} {v : Value} {xs : List Value} (h : w.ownsRow B e s v n xs) : ∃ a c, v = .slice a n c ∧ (a = none ∨ ∃ g, a = some ⟨g, 0, none⟩) ∧ (0 < n → ∃ g, a = some ⟨g, 0, none⟩) := by
  rcases h.2 with ⟨rfl, rfl⟩ | ⟨g, cap, cur, rfl, _⟩
  · exact ⟨none, 0, rfl, .inl rfl, fun h => absurd h (Nat.lt_irrefl 0)⟩
  · exact ⟨some ⟨g, 0, none⟩, cap, rfl, .inr ⟨g, rfl⟩, fun _ => ⟨g, rfl⟩⟩
set_option maxHeartbeats 4000000 in
set_option maxRecDepth 100000 in
theorem place_any (w : World) (B s o : Nat) (v : Value) (X : List Rw) (at_ : Nat) (h : Sh B w v X) (hc : w.cell? ⟨s, o, none⟩ = some v) (hs : Srt (flat X)) (hN : X.length < 4611686018427387904) :
    Calls Tryz.prog 80 #[.pointer (some ⟨s, o, none⟩), .int .u64 at_] w fun e w' => ∃ r k : Int, e = .returned (.tuple #[.int .i64 r, .int .i64 k]) ∧ PlIs X at_ r k ∧ Out w w' := by
  obtain ⟨a, c, rfl, _, hpos⟩ := own_slice h.own
  obtain ⟨wA, HA, cA1, cA2, oA, sA⟩ := two_boxes w (.pointer (some ⟨s, o, none⟩)) (.int .u64 at_) 120 28
  obtain ⟨n, hn⟩ : ∃ n, Hid (n = X.length) := ⟨_, rfl⟩
  rw [← hn.out] at h hc hpos hN
  have H := hidOf h
  have OA := hidOf oA
  have HC := hidOf hc
  have HS := hidOf hs
  have HP := hidOf hpos
  have hcs : wA.cell? ⟨s, o, none⟩ = some (.slice a n c) := cell_later oA hc
  have first : ∀ (i : Nat), i < n → ∃ (x : Rw) (y : Rg), X[i]? = some x ∧ x.L[0]? = some y := fun i hi => by
    obtain ⟨x, hx⟩ : ∃ x, X[i]? = some x := ⟨_, List.getElem?_eq_getElem (by rw [← hn.out]; exact hi)⟩
    exact ⟨x, _, hx, List.getElem?_eq_getElem (List.length_pos_iff.2 (h.ne x (List.mem_of_getElem? hx)))⟩
  have FI := hidOf first
  have S1 := hidOf (search_any 103 #[.pointer (some ⟨w.heap.size, 0, none⟩), .pointer (some ⟨w.heap.size + 1, 0, none⟩)] n (fun t => decide (at_ < fstX X t)) wA (enters_of Tryz.func103 (by kernel_rfl) rfl) hN (fun wr i ho hi => by
    obtain ⟨x, y, hx, hy⟩ := FI.out i hi
    obtain ⟨gR, cR, e, hr, _, _⟩ := H.out.at_ hx
    simp only [Value.slice.injEq] at e
    obtain ⟨rfl, _, rfl⟩ := e
    have hrg := H.out.reg hx hy
    have ow := OA.out.trans ho
    have hl : 0 < x.L.length := by have := (List.getElem?_eq_some_iff.1 hy).1; omega
    have := place1_any wr w.heap.size (w.heap.size + 1) s o gR n c x.g x.L.length x.c y.f at_ i (cell_later ho cA1) (cell_later ho cA2) (cell_later ow HC.out) hi (cell_later ow hr) hl (cell_later ow (by simpa using hrg.1))
    rw [fstX_at hx hy]
    exact this) (fun a b hab hb hp => by
    have := fstX_mono HS.out H.out.ne hab (by rw [← hn.out]; exact hb)
    simp only [decide_eq_true_eq] at hp ⊢
    omega))
  clear h hc hs hpos first oA
  go_enter Tryz.func80, Tryz.ntmps80
  go_upto_region 1 with fail
  rw [← HA.out]
  go_upto_region 2 with (go_at_call 102; refine S1.out.mono ?_; rintro e w1 ⟨j, rfl, hj, hj1, hj2, ho1⟩; have J1 := hidOf hj1; have J2 := hidOf hj2; have O1 := hidOf ho1; clear hj1 hj2 ho1)
  by_cases hj0 : j = 0
  · subst hj0
    go_wp2
    refine bodyPost_ret (results_tmp2 rfl _ _ _) rfl ?_
    exact ⟨-1, -1, rfl, plIs_no HS.out (fun t ht => J2.out t (Nat.zero_le _) (by rw [hn.out]; exact ht)), OA.out.trans O1.out⟩
  · obtain ⟨r, rfl⟩ : ∃ r, j = r + 1 := ⟨j - 1, by omega⟩
    obtain ⟨x, y0, hx, hy0⟩ := FI.out r (by omega)
    obtain ⟨gR, cR, e, hr, _, _⟩ := H.out.at_ hx
    simp only [Value.slice.injEq] at e
    obtain ⟨rfl, _, rfl⟩ := e
    have ow := OA.out.trans O1.out
    have hcs1 := cell_later ow HC.out
    have hr1 := cell_later ow hr
    have hb1 := cell_later O1.out cA1
    have hb2 := cell_later O1.out cA2
    have hw1 : ((r + 1 : Nat) : Int) - 1 = (r : Int) := by omega
    have hrn : (r : Int) < (n : Int) := by omega
    have hlx : x.L.length ≤ 129 := H.out.le x (List.mem_of_getElem? hx)
    obtain ⟨l, hl⟩ : ∃ l, Hid (l = x.L.length) := ⟨_, rfl⟩
    obtain ⟨gx, hgx⟩ : ∃ gx, Hid (gx = x.g) := ⟨_, rfl⟩
    obtain ⟨cx, hcx⟩ : ∃ cx, Hid (cx = x.c) := ⟨_, rfl⟩
    rw [← hl.out, ← hgx.out, ← hcx.out] at hr1
    rw [← hl.out] at hlx
    obtain ⟨wB, HB, cB, oB, _⟩ := box_one w1 (.slice (some ⟨gx, 0, none⟩) l cx) 22
    have OB := hidOf oB
    have hb2B := cell_later oB hb2
    have HX := hidOf hx
    have HY0 := hidOf hy0
    have hsx : Srt x.L := by
      have := HS.out
      rw [at_split hx] at this
      exact (srt_flat this).2.1
    have HSX := hidOf hsx
    have HR := hidOf hr
    have S2 := hidOf (search_any 104 #[.pointer (some ⟨w1.heap.size, 0, none⟩), .pointer (some ⟨w.heap.size + 1, 0, none⟩)] l (fun t => decide (at_ < fstL x.L t)) wB (enters_of Tryz.func104 (by kernel_rfl) rfl) (by omega) (fun wr i ho hi => by
      obtain ⟨y, hy⟩ : ∃ y, x.L[i]? = some y := ⟨_, List.getElem?_eq_getElem (by rw [← hl.out]; exact hi)⟩
      have hrg := H.out.reg HX.out hy
      have ow2 := ((OA.out.trans O1.out).trans OB.out).trans ho
      have := place2_any wr w1.heap.size (w.heap.size + 1) gx l cx y.f at_ i (cell_later ho cB) (cell_later ho hb2B) hi (by rw [hgx.out]; exact cell_later ow2 hrg.1)
      rw [fstL_at hy]
      exact this) (fun a b hab hb hp => by
      have := fstL_mono HSX.out hab (by rw [← hl.out]; exact hb)
      simp only [decide_eq_true_eq] at hp ⊢
      omega))
    clear hx hy0 hsx hr oB hj0
    go_upto_region 5 with fail
    rw [← HB.out]
    go_wp2_with (go_at_call 102; refine S2.out.mono ?_; rintro e w2 ⟨j2, rfl, hj2, hk1, hk2, ho2⟩; have K1 := hidOf hk1; have K2 := hidOf hk2; have O2 := hidOf ho2; clear hk1 hk2 ho2)
    refine bodyPost_ret (results_tmp2 rfl _ _ _) rfl ?_
    have hj20 : ¬ j2 = 0 := fun e => by
      subst e
      have h1 := J1.out r (by omega)
      have h2 := K2.out 0 (Nat.le_refl _) (by have := (List.getElem?_eq_some_iff.1 HY0.out).1; rw [hl.out]; omega)
      rw [fstX_at HX.out HY0.out] at h1
      rw [fstL_at HY0.out] at h2
      rw [h1] at h2; cases h2
    obtain ⟨k, rfl⟩ : ∃ k, j2 = k + 1 := ⟨j2 - 1, by omega⟩
    obtain ⟨y, hy⟩ : ∃ y, x.L[k]? = some y := ⟨_, List.getElem?_eq_getElem (by rw [← hl.out]; omega)⟩
    refine ⟨r, k, by simp, plIs_yes HS.out HX.out hy ?_ (fun t h1 h2 => K2.out t h1 (by rw [hl.out]; exact h2)) (fun t h1 h2 => J2.out t h1 (by rw [hn.out]; exact h2)), ((OA.out.trans O1.out).trans OB.out).trans O2.out⟩
    have := K1.out k (by omega)
    rw [fstL_at hy] at this
    simpa using this
end Go.Proofs.YtekjfbmebekmeaaGreat
namespace Go.Proofs.YtekjfbmebekmeaaGreat
open Go.RowKit
set_option linter.unusedVariables false
set_option linter.unusedSimpArgs false
theorem results_cell2 {P : Program} {fn : Func} {p u : Tmp} {ty : TypeId} (h : fn.results = #[.cell p ty, .tmp u]) (tmps : Array Value) (w : World) (g : Nat) (t : TypeId) (cs : Array Value) (fr : Nat × Nat) (d : TypeDesc)
    (hp : tmps.getD p undef = .pointer (some ⟨g, 0, none⟩)) (hg : w.heap[g]? = some (.cells cs t fr))
    (hu : P.underlying ty = some d) (hd : (match d with | .struct _ | .array _ _ => true | _ => false) = true) (hi : (P.info? ty).map (·.size) = some cs.size) :
    (results fn tmps).run P w = .ok (.tuple #[.agg cs, tmps.getD u undef]) w := by
  have hp' : tmps[p]?.getD undef = .pointer (some ⟨g, 0, none⟩) := by simpa using hp
  simp [results, h, hp', asAddr, run_loadVar_row w g t ty cs fr d hg hu hd hi]
theorem blk_out {w w' : World} {q : Nat} {X : Obj} (h : w.heap[q]? = some X) (o : Out w w') : w'.heap[q]? = some X := (o.block q (Array.getElem?_eq_some_iff.1 h).1).trans h
theorem blk_chg {S : Nat → Prop} {w w' : World} {q : Nat} {X : Obj} (h : w.heap[q]? = some X) (c : Chg S w w') (hs : ¬ S q) : w'.heap[q]? = some X := (c.block q (Array.getElem?_eq_some_iff.1 h).1 hs).trans h
/-- a region as a value -/
def agG (y : Rg) : Value := .agg #[.int .u64 (y.f : Nat), .slice (y.a.map fun b => ⟨b, 0, none⟩) y.d.length y.c]
/-- what upTo gives -/
def UpE (F : List Rg) (at_ : Nat) (e : Ending) : Prop := (upF F at_ = none ∧ e = .returned (.tuple #[.agg #[.int .u64 0, .slice none 0 0], .bool false])) ∨ ∃ y, upF F at_ = some y ∧ y ∈ F ∧ e = .returned (.tuple #[.agg #[.int .u64 (y.f : Nat), .slice (y.a.map fun b => ⟨b, 0, none⟩) y.d.length y.c], .bool true])
set_option maxHeartbeats 4000000 in
set_option maxRecDepth 100000 in
theorem upTo_any (w : World) (B s o : Nat) (v : Value) (X : List Rw) (at_ : Nat) (h : Sh B w v X) (hc : w.cell? ⟨s, o, none⟩ = some v) (hs : Srt (flat X)) (hN : X.length < 4611686018427387904) :
    Calls Tryz.prog 78 #[.pointer (some ⟨s, o, none⟩), .int .u64 at_] w fun e w' => UpE (flat X) at_ e ∧ Out w w' := by
  obtain ⟨wA, HA, bA, oA⟩ : ∃ wA, Hid (wA = w.alloc (.cells #[.int .u64 0, .slice none 0 0] 36)) ∧ wA.heap[w.heap.size]? = some (.cells #[.int .u64 0, .slice none 0 0] 36 (0, 0)) ∧ Out w wA := ⟨_, rfl, heap_alloc_new w _, (Out.refl w).alloc _⟩
  have H := hidOf h
  have HC := hidOf hc
  have OA := hidOf oA
  have BA := hidOf bA
  have P1 := hidOf (place_any wA B s o v X at_ (h.out oA) (cell_later oA hc) hs hN)
  clear h hc oA bA
  go_enter Tryz.func78, Tryz.ntmps78
  go_upto_region 1 with fail
  rw [← HA.out]
  go_upto_region 2 with (go_at_call 80; refine P1.out.mono ?_; rintro e w1 ⟨r, k, rfl, hp, ho1⟩; have PL := hidOf hp; have O1 := hidOf ho1; clear hp ho1)
  have hblk := hidOf (blk_out BA.out O1.out)
  have f0 : w1.frozen? ⟨w.heap.size, 0, none⟩ = false := froz_B hblk.out 0
  have f1 : w1.frozen? ⟨w.heap.size, 1, none⟩ = false := froz_B hblk.out 1
  have c0 : w1.cell? ⟨w.heap.size, 0, none⟩ = some (.int .u64 0) := by rw [cell_B hblk.out]; rfl
  have c1 : w1.cell? ⟨w.heap.size, 1, none⟩ = some (.slice none 0 0) := by rw [cell_B hblk.out]; rfl
  rcases PL.out.up with ⟨rfl, rfl, hu⟩ | ⟨i, j, x, y, rfl, rfl, hx, hy, hu⟩
  · have HU := hidOf hu
    clear hu
    go_wp2
    refine bodyPost_ret (results_cell2 rfl _ _ w.heap.size 36 _ (0, 0) _ rfl (set_B (set_B hblk.out 0 _) 1 _) Tryz.underlying36 rfl (by kernel_rfl)) rfl ?_
    exact ⟨.inl ⟨HU.out, rfl⟩, Out.setCell (Out.setCell (OA.out.trans O1.out) (Nat.le_refl _) _) (Nat.le_refl _) _⟩
  · obtain ⟨gR, cR, e, hr, _, _⟩ := H.out.at_ hx
    have ow := OA.out.trans O1.out
    have hr1 := cell_later ow hr
    have hs1 := cell_later ow HC.out
    rw [e] at hs1
    have hrg := H.out.reg hx hy
    have g0 := cell_later ow hrg.1
    have g1 := cell_later ow hrg.2
    have hil : (i : Int) < (X.length : Int) := by have := (List.getElem?_eq_some_iff.1 hx).1; omega
    have hjl : (j : Int) < (x.L.length : Int) := by have := (List.getElem?_eq_some_iff.1 hy).1; omega
    have hym : y ∈ flat X := flat_mem hx (List.mem_of_getElem? hy)
    have HU := hidOf hu
    have HYM := hidOf hym
    obtain ⟨n, hn⟩ : ∃ n, n = X.length := ⟨_, rfl⟩
    obtain ⟨l, hl⟩ : ∃ l, l = x.L.length := ⟨_, rfl⟩
    obtain ⟨gx, hgx⟩ : ∃ gx, gx = x.g := ⟨_, rfl⟩
    obtain ⟨cx, hcx⟩ : ∃ cx, cx = x.c := ⟨_, rfl⟩
    obtain ⟨yn, hyn⟩ : ∃ yn, Hid (yn = y.d.length) := ⟨_, rfl⟩
    obtain ⟨ya, hya⟩ : ∃ ya : Option Addr, Hid (ya = y.a.map fun b => ⟨b, 0, none⟩) := ⟨_, rfl⟩
    obtain ⟨yc, hyc⟩ : ∃ yc, Hid (yc = y.c) := ⟨_, rfl⟩
    obtain ⟨yf, hyf⟩ : ∃ yf, Hid (yf = y.f) := ⟨_, rfl⟩
    rw [← hn] at hil hs1
    rw [← hl] at hjl hr1
    rw [← hgx] at hr1 g0 g1
    rw [← hcx] at hr1
    rw [← hyf.out] at g0
    rw [← hyn.out, ← hya.out, ← hyc.out] at g1
    clear hu hym hx hy hn hl hgx hcx e hr hrg
    go_wp2
    refine bodyPost_ret (results_cell2 rfl _ _ w.heap.size 36 _ (0, 0) _ rfl (set_B (set_B hblk.out 0 _) 1 _) Tryz.underlying36 rfl (by kernel_rfl)) rfl ?_
    refine ⟨.inr ⟨y, HU.out, HYM.out, ?_⟩, Out.setCell (Out.setCell ow (Nat.le_refl _) _) (Nat.le_refl _) _⟩
    rw [← hyf.out, ← hyn.out, ← hya.out, ← hyc.out]
    rfl
end Go.Proofs.YtekjfbmebekmeaaGreat
namespace Go.Proofs.YtekjfbmebekmeaaGreat
open Go.RowKit
set_option linter.unusedVariables false
set_option linter.unusedSimpArgs false
theorem begF {F : List Rg} (hs : Srt F) (at_ : Nat) : (∀ y, upF F at_ = some y → F.any (fun x => x.f == at_) = (y.f == at_)) ∧ (upF F at_ = none → F.any (fun x => x.f == at_) = false) := by
  rcases upF_hit hs at_ with ⟨y, hu, hy, hle, hiff, _⟩ | ⟨hu, hall⟩
  · refine ⟨fun z hz => ?_, fun hz => by rw [hu] at hz; cases hz⟩
    rw [hu] at hz; cases hz
    rw [Bool.eq_iff_iff]
    simp only [List.any_eq_true, beq_iff_eq]
    exact hiff.symm
  · refine ⟨fun z hz => (by rw [hu] at hz; cases hz), fun _ => ?_⟩
    rw [List.any_eq_false]
    intro x hx
    have := hall x hx
    simp; omega
set_option maxHeartbeats 4000000 in
set_option maxRecDepth 100000 in
theorem begins_any (w : World) (B s o : Nat) (v : Value) (X : List Rw) (at_ : Nat) (h : Sh B w v X) (hc : w.cell? ⟨s, o, none⟩ = some v) (hs : Srt (flat X)) (hN : X.length < 4611686018427387904) :
    Calls Tryz.prog 77 #[.pointer (some ⟨s, o, none⟩), .int .u64 at_] w fun e w' => e = .returned (.bool ((flat X).any fun x => x.f == at_)) ∧ Out w w' := by
  have P1 := hidOf (upTo_any w B s o v X at_ h hc hs hN)
  have BF := hidOf (begF hs at_)
  generalize (flat X).any (fun x => x.f == at_) = b at BF ⊢
  generalize flat X = F at P1 BF hs
  clear h hc hN hs
  go_enter Tryz.func77, Tryz.ntmps77
  go_upto_region 1 with fail
  go_upto_region 2 with (go_at_call 78; refine P1.out.mono ?_; rintro e w1 ⟨⟨hu, rfl⟩ | ⟨y, hu, hy, rfl⟩, ho1⟩ <;> (have HU := hidOf hu; have O1 := hidOf ho1; clear hu ho1))
  · have hb := BF.out.2 HU.out
    subst hb
    go_wp2
    go_ret
    exact ⟨rfl, O1.out.alloc _⟩
  · have hb := BF.out.1 y HU.out
    have hcell : ∀ O1 O2 : Value, (w1.alloc (.cells #[O1, O2] 36)).cell? ⟨w1.heap.size, 0, none⟩ = some O1 := fun O1 O2 => by rw [cell_fresh _ _ _ 0 _ rfl]; rfl
    generalize y.f = f at *
    by_cases hf : f = at_
    · have hft : ((f : Int) == (at_ : Int)) = true := by simp [hf]
      rw [show (f == at_) = true by simp [hf]] at hb
      subst hb
      clear hf
      go_wp2
      go_ret
      exact ⟨rfl, O1.out.alloc _⟩
    · have hft : ((f : Int) == (at_ : Int)) = false := by rw [beq_eq_false_iff_ne]; omega
      rw [show (f == at_) = false by simp [hf]] at hb
      subst hb
      clear hf
      go_wp2
      go_ret
      exact ⟨rfl, O1.out.alloc _⟩
end Go.Proofs.YtekjfbmebekmeaaGreat
