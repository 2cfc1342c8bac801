import Derived.Test.YtekjfbmebekmeaaGreatGa27
namespace Go.Proofs.YtekjfbmebekmeaaGreat
open Go.RowKit
set_option linter.unusedVariables false
set_option linter.unusedSimpArgs false
def rkS (p : Nat) (Q : List LQ) (b : Nat) : Prop := b = p ∨ ∃ q ∈ Q, q.b = b
structure BkI (w0 wr : World) (p n i : Nat) (fa : Option Addr) (fc : Nat) (L : List RI) (Q : List LQ) (V : List Rg) : Prop where
  own : wr.ownsRow w0.heap.size 36 2 (.slice (some ⟨p, 0, none⟩) (n + 70 : Nat) (n + 70 : Nat)) (n + 70) (rowG (Q.map LQ.g ++ V))
  fu : wr.ownsRow w0.heap.size 29 1 (.slice fa n fc) n (Q.map LQ.u)
  ow : ∀ (j : Nat) q, i ≤ j → Q[j]? = some q → wr.ownsRow w0.heap.size 5 1 q.u (2 * q.x.d.length + 70) ((q.x.d ++ spB q.x.d.length).map byV)
  ri : Q.Pairwise (fun x y => x.b < y.b)
  mr : ∀ z ∈ V, DaI w0.heap.size wr z ∧ ∀ q ∈ Q, ∀ b, z.a = some b → q.b < b
  lq : Q.map LQ.x = L
  mv : V.map fdR = (List.range 70).map (mkM n)
  ll : L.length = n
  out : Out w0 wr
theorem LnI.bk {w0 w : World} {p n : Nat} {fa : Option Addr} {fc : Nat} {L : List RI} {Q : List LQ} {V : List Rg} (h : LnI w0 w p n (n + 70) fa fc L Q V) : BkI w0 w p n 0 fa fc L Q V := by
  have hql : Q.length = n := by have := h.qlen; omega
  have h1 := h.own
  have h2 := h.fu
  rw [Nat.sub_self, List.replicate_zero, List.append_nil] at h1
  rw [hql] at h2
  refine ⟨h1, h2, fun j q _ hq => h.ow q (List.mem_of_getElem? hq), h.ri, h.mr, ?_, ?_, h.ll, h.out⟩
  · rw [h.lq, List.take_of_length_le (by rw [h.ll]; omega)]
  · rw [h.mv, Nat.add_sub_cancel_left]
theorem BkI.upto {w0 wr wr' : World} {p n i : Nat} {fa : Option Addr} {fc : Nat} {L : List RI} {Q : List LQ} {V : List Rg} (h : BkI w0 wr p n i fa fc L Q V) (o : Out wr wr') : BkI w0 wr' p n i fa fc L Q V :=
  ⟨own_out h.own o, own_out h.fu o, fun j q hj hq => own_out (h.ow j q hj hq) o, h.ri, fun z hz => ⟨(h.mr z hz).1.out o, (h.mr z hz).2⟩, h.lq, h.mv, h.ll, h.out.trans o⟩
theorem BkI.next {w0 wr wr' : World} {p n i : Nat} {fa : Option Addr} {fc : Nat} {L : List RI} {Q : List LQ} {V : List Rg} (h : BkI w0 wr p n i fa fc L Q V) {q : LQ} (hq : Q[i]? = some q) (o : Chg (fun b => b = q.b) wr wr') : BkI w0 wr' p n (i + 1) fa fc L Q V := by
  have hw := h.ow i q (Nat.le_refl _) hq
  obtain ⟨cur, hg, hB, _⟩ := owns_blk (show wr.ownsRow w0.heap.size 5 1 (.slice (some ⟨q.b, 0, none⟩) (2 * q.x.d.length + 70 : Nat) q.c) (2 * q.x.d.length + 70) _ from hw)
  refine ⟨own_chg h.own o (fun b hb e => own_ne h.own hg (by decide) (by subst e; exact hb)), own_chg h.fu o (fun b hb e => own_ne h.fu hg (by decide) (by subst e; exact hb)), fun j y hj hy => own_chg (h.ow j y (by omega) hy) o (fun b hb e => ?_), h.ri, fun z hz => ⟨(h.mr z hz).1.chg o (fun b hb e => ?_), (h.mr z hz).2⟩, h.lq, h.mv, h.ll, Chg.out o h.out (fun b e => by subst e; exact hB)⟩
  · have hi : i < Q.length := (List.getElem?_eq_some_iff.1 hq).1
    have hjl : j < Q.length := (List.getElem?_eq_some_iff.1 hy).1
    have h1 := List.pairwise_iff_getElem.1 h.ri i j hi hjl (by omega)
    rw [(List.getElem?_eq_some_iff.1 hq).2, (List.getElem?_eq_some_iff.1 hy).2] at h1
    have hb2 : y.b = b := by simpa [LQ.u, Value.ownBlock] using hb
    omega
  · have := (h.mr z hz).2 q (List.mem_of_getElem? hq) b hb
    omega
theorem BkI.skip {w0 wr : World} {p n i : Nat} {fa : Option Addr} {fc : Nat} {L : List RI} {Q : List LQ} {V : List Rg} (h : BkI w0 wr p n i fa fc L Q V) : BkI w0 wr p n (i + 1) fa fc L Q V :=
  ⟨h.own, h.fu, fun j q hj hq => h.ow j q (by omega) hq, h.ri, h.mr, h.lq, h.mv, h.ll, h.out⟩
theorem BkI.at_ {w0 wr : World} {p n i : Nat} {fa : Option Addr} {fc : Nat} {L : List RI} {Q : List LQ} {V : List Rg} (h : BkI w0 wr p n i fa fc L Q V) (hi : i < n) :
    ∃ q fg, Q[i]? = some q ∧ L[i]? = some q.x ∧ fa = some ⟨fg, 0, none⟩ ∧ wr.cell? ⟨p, i * 2, none⟩ = some (.int .u64 (q.x.f : Nat)) ∧ wr.cell? ⟨p, i * 2 + 1, none⟩ = some (.slice (some ⟨q.b, 0, none⟩) q.x.d.length q.c) ∧ wr.cell? ⟨fg, i, none⟩ = some (.slice (some ⟨q.b, 0, none⟩) (2 * q.x.d.length + 70 : Nat) q.c) ∧ ¬ fg = q.b := by
  have hql : Q.length = n := by rw [← h.ll, ← h.lq, List.length_map]
  obtain ⟨q, hq⟩ : ∃ q, Q[i]? = some q := ⟨_, List.getElem?_eq_getElem (by rw [hql]; exact hi)⟩
  obtain ⟨fg, cc, e, _, _⟩ := h.fu.form (by omega)
  simp only [Value.slice.injEq] at e
  obtain ⟨rfl, _, rfl⟩ := e
  have hg : (Q.map LQ.g ++ V)[i]? = some q.g := by rw [List.getElem?_append_left (by rw [List.length_map, hql]; exact hi), List.getElem?_map, hq]; rfl
  obtain ⟨q0, q1⟩ := rowG_get hg
  have hw := h.ow i q (Nat.le_refl _) hq
  obtain ⟨cur, hgb, _⟩ := owns_blk (show wr.ownsRow w0.heap.size 5 1 (.slice (some ⟨q.b, 0, none⟩) (2 * q.x.d.length + 70 : Nat) q.c) (2 * q.x.d.length + 70) _ from hw)
  refine ⟨q, fg, hq, by rw [← h.lq, List.getElem?_map, hq]; rfl, rfl, (own_cellK h.own q0).1, (own_cellK h.own q1).1, (own_cellK h.fu (show (Q.map LQ.u)[i]? = some q.u by rw [List.getElem?_map, hq]; rfl)).1, fun e => ?_⟩
  exact own_ne h.fu hgb (by decide) (by rw [← e]; rfl)
theorem BkI.mark {w0 wr : World} {p n i : Nat} {fa : Option Addr} {fc : Nat} {L : List RI} {Q : List LQ} {V : List Rg} (h : BkI w0 wr p n i fa fc L Q V) (hi : n ≤ i) (hi2 : i < n + 70) :
    ∃ zb zc, wr.cell? ⟨p, i * 2, none⟩ = some (.int .u64 (i : Nat)) ∧ wr.cell? ⟨p, i * 2 + 1, none⟩ = some (.slice (some ⟨zb, 0, none⟩) 1 zc) ∧ wr.cell? ⟨zb, 0, none⟩ = some (.int .u8 77) := by
  have hql : Q.length = n := by rw [← h.ll, ← h.lq, List.length_map]
  have hvl : V.length = 70 := by have := congrArg List.length h.mv; simpa using this
  obtain ⟨z, hz⟩ : ∃ z, V[i - n]? = some z := ⟨_, List.getElem?_eq_getElem (by omega)⟩
  have hfd : fdR z = (i, [77]) := by
    have h1 : (V.map fdR)[i - n]? = some (fdR z) := by rw [List.getElem?_map, hz]; rfl
    rw [h.mv, List.getElem?_map, List.getElem?_range (by omega)] at h1
    have h2 := Option.some.inj h1
    rw [← h2]
    show (n + (i - n), [77]) = (i, [77])
    rw [show n + (i - n) = i by omega]
  simp only [fdR, Prod.mk.injEq] at hfd
  obtain ⟨hf, hd⟩ := hfd
  have hg : (Q.map LQ.g ++ V)[i]? = some z := by rw [List.getElem?_append_right (by rw [List.length_map, hql]; exact hi), List.length_map, hql]; exact hz
  obtain ⟨q0, q1⟩ := rowG_get hg
  have D := (h.mr z (List.mem_of_getElem? hz)).1
  unfold DaI at D
  obtain ⟨b, k, j, _, _⟩ := D.form (by rw [hd]; decide)
  rw [daV] at j
  simp only [Value.slice.injEq] at j
  have c0 := (own_cellK h.own q0).1
  have c1 := (own_cellK h.own q1).1
  rw [daV, j.1, j.2.2, hd] at D
  rw [daV, j.1, j.2.2, hd] at c1
  rw [hf] at c0
  exact ⟨b, k, c0, c1, (own_cellK D (j := 0) (u := .int .u8 77) rfl).1⟩
set_option maxHeartbeats 4000000 in
set_option maxRecDepth 100000 in
theorem back_any (w0 w : World) (p n : Nat) (fa : Option Addr) (fc : Nat) (L : List RI) (Q : List LQ) (V : List Rg) (a : Option Addr) (c : Nat) (h : LnI w0 w p n (n + 70) fa fc L Q V) (hin : InR w0 a L) (hL : ∀ x ∈ L, x.f < 18446744073709551616 ∧ x.d.length ≤ 1000000000) (hn : n ≤ 1000000000) :
    Calls Tryz.prog 17 #[.slice (some ⟨p, 0, none⟩) (n + 70 : Nat) (n + 70 : Nat), .slice fa n fc, .slice a n c] w fun e w' => e = .returned (.bool true) ∧ Chg (rkS p Q) w w' := by
  have HK := hidOf h.bk
  have HI := hidOf hin
  have HL := hidOf hL
  have HNN := hidOf hn
  obtain ⟨N, hNN⟩ : ∃ N, Hid (N = n + 70) := ⟨_, rfl⟩
  have hN9 : N ≤ 2000000000 := by have := hNN.out; omega
  rw [← hNN.out]
  have HLN : Hid (L.length = n) := hidOf h.ll
  clear h hin hL
  go_enter Tryz.func17, Tryz.ntmps17
  go_wp2
  go_loopw [7] (fun iv wr => ∃ (i : Nat), iv = .int .i64 (i : Nat) ∧ Hid (i ≤ N) ∧ Hid (BkI w0 wr p n i fa fc L Q V) ∧ Hid (Chg (rkS p Q) w wr)) (fun iv _ => N - (intOf iv).toNat)
  case atStart => exact ⟨0, rfl, hidOf (Nat.zero_le _), HK, hidOf (Chg.refl _ w)⟩
  case round =>
    obtain ⟨i, rfl, HIN, BK, CG⟩ := hrel
    by_cases hiN : i < N
    · have hltN : (i : Int) < N := by omega
      by_cases hin : i < n
      · have hlt : (i : Int) < n := by omega
        obtain ⟨q, fg, hq, hx, rfl, k0, k1, k2, hfb⟩ := BK.out.at_ hin
        obtain ⟨g, o, rfl, hcs⟩ : ∃ g o, a = some ⟨g, o, none⟩ ∧ _ := HI.out.resolve_left (fun e => by rw [e] at hx; simp at hx)
        obtain ⟨q0, q1, q2⟩ := hcs i q.x hx
        have p0 := cell_later BK.out.out q0
        have p1 := cell_later BK.out.out q1
        have hxm := HL.out _ (List.mem_of_getElem? hx)
        have how := BK.out.ow i q (Nat.le_refl _) hq
        obtain ⟨xf, hxf⟩ : ∃ xf, Hid (xf = q.x.f) := ⟨_, rfl⟩
        obtain ⟨xn, hxn⟩ : ∃ xn, Hid (xn = q.x.d.length) := ⟨_, rfl⟩
        obtain ⟨nn, hnn⟩ : ∃ nn, Hid (nn = 2 * xn + 70) := ⟨_, rfl⟩
        obtain ⟨b, hb⟩ : ∃ b, Hid (b = q.b) := ⟨_, rfl⟩
        obtain ⟨cap, hcap⟩ : ∃ cap, Hid (cap = q.c) := ⟨_, rfl⟩
        obtain ⟨xa, hxa⟩ : ∃ xa, Hid (xa = q.x.a) := ⟨_, rfl⟩
        obtain ⟨xc, hxc⟩ : ∃ xc, Hid (xc = q.x.c) := ⟨_, rfl⟩
        have SKC := hidOf (spareKept_any wr.drew w0.heap.size q.b q.c q.x.c q.x.a q.x.d (own_out how (Out.refl wr).drew) (q2.out (BK.out.out.trans (Out.refl wr).drew)) (by have := hxm.2; omega))
        rw [← hxn.out, ← hnn.out, ← hb.out, ← hcap.out, ← hxa.out, ← hxc.out] at SKC
        rw [← hxf.out] at p0 k0
        rw [← hxn.out, ← hxa.out, ← hxc.out] at p1
        rw [← hxn.out, ← hb.out, ← hcap.out] at k1
        rw [← hxn.out, ← hnn.out, ← hb.out, ← hcap.out] at k2
        rw [← hb.out] at hfb
        have HQ := hidOf hq
        have HFB := hidOf hfb
        have hn3 : Hid (nn ≤ 3000000000) := hidOf (by have := hnn.out; have := hxn.out; have := hxm.2; omega)
        have HW : Hid (∃ cur : Array Value, wr.heap[b]? = some (.cells cur 5 (0, 0)) ∧ nn ≤ cur.size) := hidOf (by
          obtain ⟨cur, hg, _, hle, _, hcl, _⟩ := owns_blk (show wr.ownsRow w0.heap.size 5 1 (.slice (some ⟨q.b, 0, none⟩) (2 * q.x.d.length + 70 : Nat) q.c) (2 * q.x.d.length + 70) _ from how)
          refine ⟨_, by rw [hb.out]; exact hg, ?_⟩
          rw [List.size_toArray]
          have := hnn.out; have := hxn.out; omega)
        clear hcs q0 q1 q2 hx hxm how hq hfb
        go_upto_region 5 with fail
        refine wp_region_held_drew (S := (fun w' => w'.cell? ⟨p, i * 2, none⟩ = some (.int .u64 xf) ∧ w'.cell? ⟨p, i * 2 + 1, none⟩ = some (.slice (some ⟨b, 0, none⟩) xn cap) ∧ w'.cell? ⟨g, o + i * 2, none⟩ = some (.int .u64 xf) ∧ w'.cell? ⟨g, o + i * 2 + 1, none⟩ = some (.slice xa xn xc) ∧ w'.cell? ⟨fg, i, none⟩ = some (.slice (some ⟨b, 0, none⟩) nn cap))) (by kernel_rfl) ?_ (fun hHeld => ?_)
        · exact ⟨k0, k1, p0, p1, k2⟩
        refine tkLB [0, 1, 2, 3, 4, 5, 6, 7, 8, 9, 10, 11, 12, 13, 14, 15, 16, 17, 18, 19, 20, 21, 22, 23, 24, 25, 26, 27, 28, 29, 30, 31, 32, 33, 34, 35] ?_
        iterate 36 (refine tkLC (v := ?_) rfl rfl (by kernel_rfl) (by kernel_rfl) (by kernel_rfl) (fun _ _ _ h => h) (by rfl) (by assumption) ?_ ?_; rotate_left; (· (intro w hSw; (try dsimp only at hSw); go_simp; (try with_reducible rfl))); simp only [Act.put, List.setIfInBounds_toArray, List.set_cons_zero, List.set_cons_succ])
        refine tkLE ?_
        refine wpAnyH_ready (rs := [36]) (by kernel_rfl) (by simp) ?_
        refine (AllReadyH.cons rfl (fun Ko36 hKo36 => ?_) AllReadyH.nil)
        rw [if_pos (by rfl)]
        go_simp
        go_at_call 44
        refine (SKC.out).mono ?_
        rintro e w2 ⟨rfl, ho2⟩
        have O2 : Hid (Out wr w2) := hidOf ((Out.refl wr).drew.trans ho2)
        have t0 := cell_later ho2 (show wr.drew.cell? _ = _ from k0)
        have t1 := cell_later ho2 (show wr.drew.cell? _ = _ from k1)
        have t2 := cell_later ho2 (show wr.drew.cell? _ = _ from p0)
        have t3 := cell_later ho2 (show wr.drew.cell? _ = _ from p1)
        have t4 := cell_later ho2 (show wr.drew.cell? _ = _ from k2)
        clear ho2
        refine hKo36.out _ _ ⟨t0, t1, t2, t3, t4⟩ (fun hHeld36 => ?_)
        try simp only [Act.put, List.setIfInBounds_toArray, List.set_cons_zero, List.set_cons_succ]
        refine tkLB [37, 38] ?_
        iterate 2 (refine tkLC (v := ?_) rfl rfl (by kernel_rfl) (by kernel_rfl) (by kernel_rfl) (fun _ _ _ h => h) (by rfl) (by assumption) ?_ ?_; rotate_left; (· (intro w hSw; (try dsimp only at hSw); go_simp; (try with_reducible rfl))); simp only [Act.put, List.setIfInBounds_toArray, List.set_cons_zero, List.set_cons_succ])
        refine tkLE ?_
        refine wpAnyH_done (by kernel_rfl) ?_ _
        clear k0 k1 k2 p0 p1 t0 t1 t2 t3
        have BK2 := hidOf (BK.out.upto O2.out)
        have CG2 := hidOf (CG.out.trans (T := fun _ => False) (Chg.of_out O2.out) (fun _ h _ => h.elim))
        have HW2 : Hid (∃ cur : Array Value, w2.heap[b]? = some (.cells cur 5 (0, 0)) ∧ nn ≤ cur.size) := hidOf (by obtain ⟨cur, h1, h2⟩ := HW.out; exact ⟨cur, blk_out h1 O2.out, h2⟩)
        have T4 := hidOf t4
        clear HW BK CG t4
        go_upto_region 7 with fail
        go_wp2
        go_loopw [8] (fun kv wq => ∃ (k : Nat), kv = .int .i64 (k : Nat) ∧ Hid (k ≤ nn) ∧ Hid (∃ cur : Array Value, wq.heap[b]? = some (.cells cur 5 (0, 0)) ∧ nn ≤ cur.size) ∧ Hid (Chg (fun x => x = b) w2 wq)) (fun kv _ => nn - (intOf kv).toNat)
        case atStart => exact ⟨0, rfl, hidOf (Nat.zero_le _), HW2, hidOf (Chg.refl _ w2)⟩
        case round =>
          obtain ⟨k, rfl, HKN, ⟨cur, HCU, HCS⟩, CK⟩ := hrel
          have f0 : wr.cell? ⟨fg, i, none⟩ = some (.slice (some ⟨b, 0, none⟩) nn cap) := CK.out.cell T4.out (by show ¬ fg = b; exact HFB.out)
          have hk9 : nn ≤ 3000000000 := hn3.out
          by_cases hkn : k < nn
          · have hlk : (k : Int) < nn := by omega
            obtain ⟨u, hu⟩ : ∃ u, wr.cell? ⟨b, k, none⟩ = some u := ⟨_, (cell_B HCU k).trans (Array.getElem?_eq_getElem (by omega))⟩
            have hz : wr.frozen? ⟨b, k, none⟩ = false := froz_B HCU k
            obtain ⟨wS, HS, HB2, HC2⟩ : ∃ wS, Hid (wS = wr.setCell ⟨b, k, none⟩ (.int .u8 66)) ∧ Hid (∃ cur : Array Value, wS.heap[b]? = some (.cells cur 5 (0, 0)) ∧ nn ≤ cur.size) ∧ Hid (Chg (fun x => x = b) w2 wS) := ⟨_, rfl, hidOf ⟨_, set_B HCU k _, by rw [Array.size_setIfInBounds]; exact HCS⟩, hidOf (CK.out.setCell rfl _)⟩
            go_wp2
            rw [← HS.out]
            go_roundw
            case rel => exact ⟨k + 1, by simp, hidOf (by omega), HB2, HC2⟩
            case measure => simp [intOf]; omega
          · have hlk : ¬ (k : Int) < nn := by omega
            have CKq : Chg (fun x => x = q.b) w2 wr := by have h9 := CK.out; rw [hb.out] at h9; exact h9
            have BK3 := hidOf (BK2.out.next HQ.out CKq)
            have CG3 : Hid (Chg (rkS p Q) w wr) := hidOf (CG2.out.trans CKq (fun x hx _ => .inr ⟨q, List.mem_of_getElem? HQ.out, hx.symm⟩))
            clear CKq
            go_wp2
            go_roundw
            case rel => exact ⟨i + 1, by simp, hidOf (by omega), BK3, CG3⟩
            case measure => simp [intOf]; omega
      · have hlt : ¬ (i : Int) < n := by omega
        have hw64 : IntKind.u64.wrap (i : Int) = (i : Int) := by rw [IntKind.wrap_u64]; omega
        obtain ⟨zb, zc, c0, c1, c2⟩ := BK.out.mark (by omega) (by have := hNN.out; omega)
        have BK3 := hidOf BK.out.skip
        go_wp2
        go_roundw
        case rel => exact ⟨i + 1, by simp, hidOf (by omega), BK3, CG⟩
        case measure => simp [intOf]; omega
    · have hltN : ¬ (i : Int) < N := by omega
      have HW : Hid (∃ cur : Array Value, wr.heap[p]? = some (.cells cur 36 (0, 0)) ∧ N * 2 ≤ cur.size) := hidOf (by
        obtain ⟨cur, hg, _, hle, _, hcl, _⟩ := owns_blk BK.out.own
        refine ⟨_, hg, ?_⟩
        rw [List.size_toArray]
        have := hNN.out; omega)
      have hnN : n ≤ N := by have := hNN.out; omega
      clear BK
      go_upto_region 13 with fail
      go_wp2
      go_loopw [9] (fun kv wq => ∃ (k : Nat), kv = .int .i64 (k : Nat) ∧ Hid (k ≤ n) ∧ Hid (∃ cur : Array Value, wq.heap[p]? = some (.cells cur 36 (0, 0)) ∧ N * 2 ≤ cur.size) ∧ Hid (Chg (rkS p Q) w wq)) (fun kv _ => n - (intOf kv).toNat)
      case atStart => exact ⟨0, rfl, hidOf (Nat.zero_le _), HW, CG⟩
      case round =>
        clear HW CG
        obtain ⟨k, rfl, HKN, ⟨cur, HCU, HCS⟩, CK⟩ := hrel
        by_cases hkn : k < n
        · have hlk : (k : Int) < n := by omega
          have hlk2 : (k : Int) < N := by omega
          obtain ⟨u0, hu0⟩ : ∃ u, wr.cell? ⟨p, k * 2, none⟩ = some u := ⟨_, (cell_B HCU (k * 2)).trans (Array.getElem?_eq_getElem (by omega))⟩
          obtain ⟨u1, hu1⟩ : ∃ u, wr.cell? ⟨p, k * 2 + 1, none⟩ = some u := ⟨_, (cell_B HCU (k * 2 + 1)).trans (Array.getElem?_eq_getElem (by omega))⟩
          have hz0 : wr.frozen? ⟨p, k * 2, none⟩ = false := froz_B HCU (k * 2)
          have hz1 : wr.frozen? ⟨p, k * 2 + 1, none⟩ = false := froz_B HCU (k * 2 + 1)
          obtain ⟨wS, HS, HB2, HC2⟩ : ∃ wS, Hid (wS = (wr.setCell ⟨p, k * 2, none⟩ (.int .u64 1)).setCell ⟨p, k * 2 + 1, none⟩ (.slice none 0 0)) ∧ Hid (∃ cur : Array Value, wS.heap[p]? = some (.cells cur 36 (0, 0)) ∧ N * 2 ≤ cur.size) ∧ Hid (Chg (rkS p Q) w wS) := ⟨_, rfl, hidOf ⟨_, set_B (set_B HCU (k * 2) _) (k * 2 + 1) _, by rw [Array.size_setIfInBounds, Array.size_setIfInBounds]; exact HCS⟩, hidOf ((CK.out.setCell (.inl rfl) _).setCell (.inl rfl) _)⟩
          go_wp2
          rw [← HS.out]
          go_roundw
          case rel => exact ⟨k + 1, by simp, hidOf (by omega), HB2, HC2⟩
          case measure => simp [intOf]; omega
        · have hlk : ¬ (k : Int) < n := by omega
          go_wp2
          go_ret
          exact ⟨rfl, CK.out⟩
end Go.Proofs.YtekjfbmebekmeaaGreat
