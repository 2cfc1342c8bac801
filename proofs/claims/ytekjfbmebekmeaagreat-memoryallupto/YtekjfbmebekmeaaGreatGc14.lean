import Derived.Test.YtekjfbmebekmeaaGreatGc13
namespace Go.Proofs.YtekjfbmebekmeaaGreat
open Go.RowKit
set_option linter.unusedVariables false
set_option linter.unusedSimpArgs false
set_option maxHeartbeats 2000000 in
set_option maxRecDepth 100000 in
theorem growN_any (w : World) (n : Nat) (hn : n * 32 ≤ 140737488355328) :
    Calls Tryz.prog 98 #[.slice none 0 0, .int .i64 (n : Nat)] w fun e w' => ∃ a c, e = .returned (.slice a 0 c) ∧ w'.ownsRow w.heap.size 36 2 (.slice a 0 c) 0 [] ∧ Out w w' := by
  obtain ⟨i0, hi0, hz0, hz1, hz2⟩ := info_parts infoR
  have hnI : ¬ ((n : Int) < 0) := by omega
  by_cases h0 : n = 0
  · subst h0
    have hx : ((0 : Nat) : Int) = 0 := rfl
    go_enter Tryz.func98, Tryz.ntmps98
    go_wp2
    go_ret
    exact ⟨none, 0, rfl, World.ownsRow_nil _ _ _ _, Out.refl w⟩
  · have hpos : (0 : Int) < (n : Int) := by omega
    have h1 := fun ty => Lib.run_append_grow_zeros (P := Tryz.prog) w 22 3 ty 36 i0 _ .i64 .i64 Tryz.underlying22 Tryz.underlying3 hi0 hz0 none 0 0 [] (by rw [hz1]; exact run_firstCells_none _ 2 0 0 0) n (by omega) (by omega) (by omega) (by omega) (by rw [hz2]; omega) (by rw [hz2, Nat.zero_add]; exact growslice_fits (by omega) hn)
    have hG1 := grownCap_ge w (0 + n) 0 36
    have hG2 := grownCap_le_maxLen w (0 + n) 0 36 (by unfold maxLen; omega)
    generalize grownCap w (0 + n) 0 36 = G at h1 hG1 hG2
    simp only [Nat.zero_add] at h1 hG1 hG2
    obtain ⟨W1, hW1⟩ : ∃ W1, W1 = w.drew.alloc (.cells ((([] : List Value).toArray ++ Builtin.zeroCells (Value.agg #[.int .u64 0, .slice none 0 0]).cells n ++ Builtin.zeroCells (Value.agg #[.int .u64 0, .slice none 0 0]).cells (G - n)) : Array Value) 36) := ⟨_, rfl⟩
    have hr : ∀ ty, (Builtin.append_ #[22, 3] ty #[.slice none 0 0, .int .i64 (n : Nat)]).run Tryz.prog w = .ok (.slice (some ⟨w.heap.size, 0, none⟩) n G) W1 := fun ty => by rw [hW1]; exact h1 ty
    have hown : W1.ownsRow w.heap.size 36 2 (.slice (some ⟨w.heap.size, 0, none⟩) 0 G) 0 [] := by
      rw [hW1]
      exact World.ownsRow_made w.drew _ G (Nat.le_refl _) hG2 (by simp [size_zeroCells, Value.cells]; omega)
    have ho : Out w W1 := by rw [hW1]; exact (Out.refl w).drew.alloc _
    have HR := hidOf hr
    have HOW := hidOf hown
    have HO := hidOf ho
    have hGI : (0 : Int) ≤ (G : Int) := by omega
    clear hr hown ho h1 hW1 h0
    go_enter Tryz.func98, Tryz.ntmps98
    go_wp2_with (at_builtin; refine Lib.wpList_append_run _ rfl _ _ _ _ rfl _ _ rfl rfl _ _ (HR.out _) ?_)
    go_ret
    exact ⟨_, _, rfl, HOW.out, HO.out⟩
/-- a row of regions as an argument -/
structure VI where
  a : Option Addr
  c : Nat
  L : List Rg
def SrcG (w : World) (a : Option Addr) (L : List Rg) : Prop := L = [] ∨ ∃ ad, a = some ad ∧ ∀ j u, (rowG L)[j]? = some u → w.cell? (ad.add j) = some u
theorem SrcG.out {w w' : World} {a : Option Addr} {L : List Rg} (h : SrcG w a L) (o : Out w w') : SrcG w' a L := h.imp id (fun ⟨ad, h1, h2⟩ => ⟨ad, h1, fun j u hj => cell_later o (h2 j u hj)⟩)
def InV (w : World) (a : Option Addr) (V : List VI) : Prop := V = [] ∨ ∃ g o, a = some ⟨g, o, none⟩ ∧ ∀ i x, V[i]? = some x → w.cell? ⟨g, o + i, none⟩ = some (.slice x.a x.L.length x.c) ∧ SrcG w x.a x.L
/-- a list of regions put behind an own row -/
theorem app_any (w : World) (B : Nat) (oa : Option Addr) (k oc : Nat) (R : List Rg) (a : Option Addr) (c : Nat) (L : List Rg) (own : w.ownsRow B 36 2 (.slice oa k oc) k (rowG R)) (h : SrcG w a L) (hb : (k + L.length) * 32 ≤ 140737488355328) (hB : B ≤ w.heap.size) :
    ∃ a' c' W1, (∀ ty, (Builtin.append_ #[22, 22] ty #[.slice oa k oc, .slice a L.length c]).run Tryz.prog w = .ok (.slice a' (k + L.length) c') W1) ∧ W1.ownsRow B 36 2 (.slice a' (k + L.length) c') (k + L.length) (rowG (R ++ L)) ∧ Chg (fun b => (Value.slice oa k oc).ownBlock = some b) w W1 := by
  obtain ⟨i0, hi0, hz0, hz1, hz2⟩ := info_parts infoR
  rcases h with rfl | ⟨ad, rfl, hsrc⟩
  · refine ⟨oa, oc, w, fun ty => ?_, by rw [List.append_nil]; exact own, Chg.refl _ w⟩
    have hle : k ≤ oc := by
      rcases own.2 with ⟨e, h0⟩ | ⟨g, cap, cur, e, _, _, h1, _⟩
      · simp at e; omega
      · simp at e; omega
    cases a <;> cases oa <;> simp [Builtin.append_, run_underlying Tryz.underlying22, sizeOf, typeInfo, hi0, Builtin.lenOf, Builtin.firstCells, loadCells, loadCellsFrom, storeCells, hle]
  · obtain ⟨v, W1, hr, hown, hgr, _, _⟩ := run_append_own_at (P := Tryz.prog) w B 22 22 36 i0 _ 2 32 Tryz.underlying22 hi0 hz0 hz1 hz2 rfl (by decide) (.slice oa k oc) k (rowG R) own ad L.length c (rowG L) (rowG_len L) hsrc (rowG_one L) (by unfold maxLen; omega) hb hB
    obtain ⟨a2, c2, rfl, _, _⟩ := own_slice hown
    exact ⟨a2, c2, W1, fun ty => hr, by rw [rowG_app]; exact hown, Chg.of_grown hgr (fun q hq => hq)⟩
/-- the regions of the first rows -/
def conV (V : List VI) : List Rg := V.flatMap VI.L
theorem conV_take {V : List VI} {k : Nat} {x : VI} (h : V[k]? = some x) : conV (V.take (k + 1)) = conV (V.take k) ++ x.L := by
  rw [List.take_add_one, h]; simp [conV]
theorem conV_le (V : List VI) (k : Nat) : (conV (V.take k)).length ≤ (conV V).length := by
  have e : conV V = conV (V.take k) ++ conV (V.drop k) := by
    conv => lhs; rw [← List.take_append_drop k V]
    simp only [conV, List.flatMap_append]
  rw [e, List.length_append]; omega
set_option maxHeartbeats 2000000 in
set_option maxRecDepth 100000 in
theorem concat_any (w : World) (a : Option Addr) (c : Nat) (V : List VI) (h : InV w a V) (hV : V.length ≤ 5864062014805) (hN : (conV V).length ≤ 4398046511104) :
    Calls Tryz.prog 69 #[.slice a V.length c] w fun e w' => ∃ a' c', e = .returned (.slice a' (conV V).length c') ∧ w'.ownsRow w.heap.size 36 2 (.slice a' (conV V).length c') (conV V).length (rowG (conV V)) ∧ Out w w' := by
  obtain ⟨n, hn⟩ : ∃ n, Hid (n = V.length) := ⟨_, rfl⟩
  rw [← hn.out] at hV ⊢
  have HI := hidOf h
  have HN := hidOf hN
  clear h hN
  go_enter Tryz.func69, Tryz.ntmps69
  go_wp2
  go_loopw [3, 11] (fun sv kv wr => ∃ k q : Nat, sv = .int .i64 (q : Nat) ∧ kv = .int .i64 (k : Nat) ∧ k ≤ n ∧ Hid (q = (conV (V.take k)).length) ∧ Hid (Out w wr)) (fun _ kv _ => n - (intOf kv).toNat)
  case atStart => exact ⟨0, 0, rfl, rfl, Nat.zero_le _, hidOf (by simp [conV]), hidOf (Out.refl w)⟩
  case round =>
    obtain ⟨k, q, rfl, rfl, hk, HQ, OR⟩ := hrel
    by_cases hkn : k < n
    · have hlt : (k : Int) < n := by omega
      obtain ⟨x, hx⟩ : ∃ x, V[k]? = some x := ⟨_, List.getElem?_eq_getElem (by rw [← hn.out]; exact hkn)⟩
      obtain ⟨g, o, rfl, hcs⟩ : ∃ g o, a = some ⟨g, o, none⟩ ∧ _ := HI.out.resolve_left (fun e => by rw [e] at hx; simp at hx)
      obtain ⟨q0, _⟩ := hcs k x hx
      have p0 := cell_later OR.out q0
      have h1 := conV_take hx
      have h2 := conV_le V (k + 1)
      have h3 := HN.out
      have h4 := HQ.out
      rw [h1, List.length_append, ← h4] at h2
      obtain ⟨xl, hxl⟩ : ∃ xl, Hid (xl = x.L.length) := ⟨_, rfl⟩
      rw [← hxl.out] at p0 h2
      have hq2 : q + xl ≤ 4398046511104 := by omega
      have hwq : IntKind.i64.wrap ((q : Int) + xl) = (q : Int) + xl := by rw [IntKind.wrap_i64]; omega
      have hnn : ¬ ((q : Int) + xl < 0) := by omega
      have H1 := hidOf h1
      clear hcs q0 h1 h2 h3 h4
      go_wp2
      go_roundw
      case rel => exact ⟨k + 1, q + xl, by simp, by simp, by omega, hidOf (by rw [H1.out, List.length_append, ← HQ.out, hxl.out]), OR⟩
      case measure => simp [intOf]; omega
    · have hlt : ¬ (k : Int) < n := by omega
      obtain rfl : n = k := by omega
      have et : V.take n = V := by rw [hn.out]; exact List.take_length
      have hq := HQ.out
      rw [et] at hq
      have HQ2 := hidOf hq
      have GR := hidOf (growN_any wr q (by rw [hq]; have := HN.out; omega))
      clear hq et
      go_upto_region 11 with (go_at_call 98; refine GR.out.mono ?_; rintro e w1 ⟨ga, gc, rfl, hown, ho1⟩; have OW1 := hidOf (own_base hown OR.out.size); have O1 := hidOf (OR.out.trans ho1); clear hown ho1)
      clear OR
      go_wp2
      go_loopw [6, 27] (fun ov kv wr2 => ∃ (k2 q2 : Nat) (oa : Option Addr) (oc : Nat), ov = .slice oa q2 oc ∧ kv = .int .i64 (k2 : Nat) ∧ k2 ≤ n ∧ Hid (q2 = (conV (V.take k2)).length) ∧ Hid (wr2.ownsRow w.heap.size 36 2 (.slice oa q2 oc) q2 (rowG (conV (V.take k2)))) ∧ Hid (Out w wr2)) (fun _ kv _ => n - (intOf kv).toNat)
      case atStart => exact ⟨0, 0, ga, gc, rfl, rfl, Nat.zero_le _, hidOf (by simp [conV]), OW1, O1⟩
      case round =>
        obtain ⟨k2, q2, oa, oc, rfl, rfl, hk2, HQ3, OW2, O2⟩ := hrel
        by_cases hkn : k2 < n
        · have hlt2 : (k2 : Int) < n := by omega
          obtain ⟨x, hx⟩ : ∃ x, V[k2]? = some x := ⟨_, List.getElem?_eq_getElem (by rw [← hn.out]; exact hkn)⟩
          obtain ⟨g, o, rfl, hcs⟩ : ∃ g o, a = some ⟨g, o, none⟩ ∧ _ := HI.out.resolve_left (fun e => by rw [e] at hx; simp at hx)
          obtain ⟨q0, hsrc⟩ := hcs k2 x hx
          have p0 := cell_later O2.out q0
          have h1 := conV_take hx
          have h2 := conV_le V (k2 + 1)
          have h3 := HN.out
          have h4 := HQ3.out
          rw [h1, List.length_append, ← h4] at h2
          obtain ⟨a', c', W1, hr, hown, hc⟩ := app_any _ w.heap.size oa q2 oc (conV (V.take k2)) x.a x.c x.L OW2.out (hsrc.out O2.out) (by omega) O2.out.size
          obtain ⟨xl, hxl⟩ : ∃ xl, Hid (xl = x.L.length) := ⟨_, rfl⟩
          rw [← hxl.out] at p0 hr hown
          have HR := hidOf hr
          have HO := hidOf hown
          have HC := hidOf hc
          have H1 := hidOf h1
          clear hcs q0 h1 h2 h3 h4 hr hown hc hsrc hx
          go_upto_region 14 with (at_builtin; refine Lib.wpList_append_run _ rfl _ _ _ _ rfl _ _ rfl rfl _ _ (HR.out _) ?_)
          go_wp2
          go_roundw
          case rel =>
            have hown := HO.out
            rw [← H1.out] at hown
            exact ⟨k2 + 1, q2 + xl, a', c', rfl, by simp, by omega, hidOf (by rw [H1.out, List.length_append, ← HQ3.out, hxl.out]), hidOf hown, hidOf (Chg.out HC.out O2.out (fun b hb => (OW2.out.lt b hb).1))⟩
          case measure => simp [intOf]; omega
        · have hlt2 : ¬ (k2 : Int) < n := by omega
          obtain rfl : n = k2 := by omega
          have et : V.take n = V := by rw [hn.out]; exact List.take_length
          have hq := HQ3.out
          have hown := OW2.out
          rw [et] at hq hown
          have HQ4 := hidOf hq
          have HOW := hidOf hown
          clear hq hown et
          go_wp2
          go_ret
          rw [← HQ4.out]
          exact ⟨oa, oc, rfl, HOW.out, O2.out⟩
end Go.Proofs.YtekjfbmebekmeaaGreat
