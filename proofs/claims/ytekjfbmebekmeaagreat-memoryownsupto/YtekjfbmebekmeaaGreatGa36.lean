import Derived.Test.YtekjfbmebekmeaaGreatGa28
import Derived.Test.YtekjfbmebekmeaaGreatGa35
namespace Go.Proofs.YtekjfbmebekmeaaGreat
open Go.RowKit
set_option linter.unusedVariables false
set_option linter.unusedSimpArgs false
theorem sameB8_any (w : World) (a1 a2 : Option Addr) (n c1 c2 : Nat) (d : List UInt8) (hn : n = d.length) (h1 : RestA w a1 d) (h2 : RestA w a2 d) : Calls Tryz.prog 33 #[.slice a1 n c1, .slice a2 n c2] w fun e w' => e = .returned (.bool true) ∧ w' = w := by
  have k1 := conv_any h1 n hn c1
  have k2 := conv_any h2 n hn c2
  clear h1 h2 hn
  generalize (⟨d.toArray⟩ : ByteArray) = S at *
  go_enter Tryz.func33, Tryz.ntmps33
  go_wp2
  go_ret
  exact ⟨rfl, rfl⟩
set_option maxHeartbeats 2000000 in
set_option maxRecDepth 100000 in
theorem sameRegs_any (w : World) (B1 B2 n c1 c2 : Nat) (a1 a2 : Option Addr) (R1 R2 : List Rg) (h1 : RLs B1 w a1 c1 n R1) (h2 : RLs B2 w a2 c2 n R2) (he : R1.map fdR = R2.map fdR) (hl : R1.length = n) (hn : n ≤ 1000000000) :
    Calls Tryz.prog 38 #[.slice a1 n c1, .slice a2 n c2] w fun e w' => e = .returned (.bool true) ∧ Out w w' := by
  have HA := hidOf h1
  have HB := hidOf h2
  have HE := hidOf he
  have HLN := hidOf hl
  clear h1 h2 he hl
  go_enter Tryz.func38, Tryz.ntmps38
  go_wp2
  go_loopw [5] (fun iv wr => ∃ (i : Nat), iv = .int .i64 (i : Nat) ∧ i ≤ n ∧ Hid (Out w wr)) (fun iv _ => n - (intOf iv).toNat)
  case atStart => exact ⟨0, rfl, Nat.zero_le _, hidOf (Out.refl _)⟩
  case round =>
    obtain ⟨i, rfl, hi, OR⟩ := hrel
    by_cases hin : i < n
    · have hlt : (i : Int) < n := by omega
      obtain ⟨y, hy⟩ : ∃ y, R1[i]? = some y := ⟨_, List.getElem?_eq_getElem (by rw [HLN.out]; exact hin)⟩
      have hl2 : R2.length = n := by have := congrArg List.length HE.out; simp only [List.length_map] at this; rw [← this]; exact HLN.out
      obtain ⟨z, hz⟩ : ∃ z, R2[i]? = some z := ⟨_, List.getElem?_eq_getElem (by rw [hl2]; exact hin)⟩
      have hyz : fdR y = fdR z := by
        have e1 : (R1.map fdR)[i]? = some (fdR y) := by rw [List.getElem?_map, hy]; rfl
        have e2 : (R2.map fdR)[i]? = some (fdR z) := by rw [List.getElem?_map, hz]; rfl
        rw [HE.out, e2] at e1
        exact (Option.some.inj e1).symm
      simp only [fdR, Prod.mk.injEq] at hyz
      have o1 := (HA.out.out OR.out).own
      have o2 := (HB.out.out OR.out).own
      obtain ⟨g1, cc1, e1, _, _⟩ := o1.form (by omega)
      obtain ⟨g2, cc2, e2, _, _⟩ := o2.form (by omega)
      simp only [Value.slice.injEq] at e1 e2
      obtain ⟨rfl, _, rfl⟩ := e1
      obtain ⟨rfl, _, rfl⟩ := e2
      have p0 := (own_cellK o1 (rowG_get hy).1).1
      have p1 := (own_cellK o1 (rowG_get hy).2).1
      have q0 := (own_cellK o2 (rowG_get hz).1).1
      have q1 := (own_cellK o2 (rowG_get hz).2).1
      have r1 : RestA wr.drew (y.a.map fun b => ⟨b, 0, none⟩) z.d := by rw [← hyz.2]; exact (DaI.rest (HA.out.da y (List.mem_of_getElem? hy))).out (OR.out.drew)
      have r2 : RestA wr.drew (z.a.map fun b => ⟨b, 0, none⟩) z.d := (DaI.rest (HB.out.da z (List.mem_of_getElem? hz))).out (OR.out.drew)
      obtain ⟨m, hm⟩ : ∃ m, Hid (m = z.d.length) := ⟨_, rfl⟩
      have SBC := hidOf (sameB8_any wr.drew _ _ m y.c z.c z.d hm.out r1 r2)
      rw [daV] at p1 q1
      rw [hyz.2, ← hm.out] at p1
      rw [← hm.out] at q1
      rw [hyz.1] at p0
      clear o1 o2 r1 r2 hyz hy hz hl2
      obtain ⟨f, hf⟩ : ∃ f, Hid (f = z.f) := ⟨_, rfl⟩
      rw [← hf.out] at p0 q0
      generalize (y.a.map fun b => (⟨b, 0, none⟩ : Addr)) = ya at *
      generalize (z.a.map fun b => (⟨b, 0, none⟩ : Addr)) = za at *
      generalize y.c = yc at *
      generalize z.c = zc at *
      go_upto_region 6 with fail
      refine wp_region_held_drew (S := (fun w' => w'.cell? ⟨g1, i * 2, none⟩ = some (.int .u64 f) ∧ w'.cell? ⟨g1, i * 2 + 1, none⟩ = some (.slice ya m yc) ∧ w'.cell? ⟨g2, i * 2, none⟩ = some (.int .u64 f) ∧ w'.cell? ⟨g2, i * 2 + 1, none⟩ = some (.slice za m zc))) (by kernel_rfl) ?_ (fun hHeld => ?_)
      · exact ⟨p0, p1, q0, q1⟩
      refine tkLB [0, 1, 2, 3, 4, 5, 6, 7, 8, 9, 10, 11, 12, 13, 14, 15, 16, 17, 18, 19, 20, 21] ?_
      iterate 22 (refine tkLC (v := ?_) rfl rfl (by kernel_rfl) (by kernel_rfl) (by kernel_rfl) (fun _ _ _ h => h) (by rfl) (by assumption) ?_ ?_; rotate_left; (· (intro w hSw; (try dsimp only at hSw); go_simp; (try with_reducible rfl))); simp only [Act.put, List.setIfInBounds_toArray, List.set_cons_zero, List.set_cons_succ])
      refine tkLE ?_
      refine wpAnyH_ready (rs := [22]) (by kernel_rfl) (by simp) ?_
      refine (AllReadyH.cons rfl (fun Ko22 hKo22 => ?_) AllReadyH.nil)
      rw [if_pos (by rfl)]
      go_simp
      go_at_call 33
      refine (SBC.out).mono ?_
      rintro e w2 ⟨rfl, ho2⟩
      subst ho2
      refine hKo22.out _ _ ⟨p0, p1, q0, q1⟩ (fun hHeld22 => ?_)
      try simp only [Act.put, List.setIfInBounds_toArray, List.set_cons_zero, List.set_cons_succ]
      refine tkLB [23, 24] ?_
      iterate 2 (refine tkLC (v := ?_) rfl rfl (by kernel_rfl) (by kernel_rfl) (by kernel_rfl) (fun _ _ _ h => h) (by rfl) (by assumption) ?_ ?_; rotate_left; (· (intro w hSw; (try dsimp only at hSw); go_simp; (try with_reducible rfl))); simp only [Act.put, List.setIfInBounds_toArray, List.set_cons_zero, List.set_cons_succ])
      refine tkLE ?_
      refine wpAnyH_done (by kernel_rfl) ?_ _
      go_wp2
      go_roundw
      case rel => exact ⟨i + 1, by simp, by omega, hidOf OR.out.drew⟩
      case measure => simp [intOf]; omega
    · have hlt : ¬ (i : Int) < n := by omega
      go_wp2
      go_ret
      exact ⟨rfl, OR.out⟩
theorem regions_nil (w : World) : Calls Tryz.prog 37 #[.pointer none] w fun e w' => e = .returned (.tuple #[.slice none 0 0, .int .i64 1]) ∧ Out w w' := by
  go_enter Tryz.func37, Tryz.ntmps37
  go_wp2
  refine bodyPost_ret (results_tmp2 rfl _ _ _) rfl ?_
  exact ⟨rfl, by first | exact Out.refl _ | exact (Out.refl _).alloc _⟩
theorem inR_own2 {w : World} {B B2 : Nat} {a : Option Addr} {c : Nat} {R : List Rg} (h : w.ownsRow B 36 2 (.slice a R.length c) R.length (rowG R)) (hd : ∀ z ∈ R, DaI B2 w z) : InR w a (R.map Rg.ri) := by
  by_cases h0 : R = []
  · exact .inl (by rw [h0]; rfl)
  obtain ⟨g, cc, e, _, _⟩ := h.form (List.length_pos_iff.2 h0)
  simp only [Value.slice.injEq] at e
  obtain ⟨rfl, _, rfl⟩ := e
  refine .inr ⟨g, 0, rfl, fun i x hx => ?_⟩
  rw [List.getElem?_map] at hx
  cases hz : R[i]? with
  | none => rw [hz] at hx; cases hx
  | some z =>
    rw [hz] at hx
    cases hx
    obtain ⟨q0, q1⟩ := rowG_get hz
    refine ⟨by rw [Nat.zero_add]; exact (own_cellK h q0).1, by rw [Nat.zero_add]; exact (own_cellK h q1).1, ?_⟩
    have D := hd z (List.mem_of_getElem? hz)
    by_cases hl : z.d = []
    · exact .inl hl
    · unfold DaI at D
      obtain ⟨b, k, j, _, _⟩ := D.form (List.length_pos_iff.2 hl)
      rw [daV] at j
      simp only [Value.slice.injEq] at j
      rw [daV, j.1, j.2.2] at D
      exact .inr ⟨⟨b, 0, none⟩, j.1, fun k u hk => by rw [add_B, Nat.zero_add]; exact (own_cellK D hk).1⟩
theorem num20_any (x : Int) (w : World) : Calls Tryz.prog 18 #[.int .i64 x] w fun e w' => e = .returned (.int .i64 x) ∧ w' = w := by
  go_enter Tryz.func18, Tryz.ntmps18
  go_wp2
  go_ret
  exact ⟨rfl, rfl⟩
theorem RLs.old {S : Nat → Prop} {B : Nat} {w w5 w6 : World} {a : Option Addr} {c n : Nat} {R : List Rg} (h : RLs B w a c n R) (o : Out w w5) (g : Chg S w5 w6) (hS : ∀ b, b < w.heap.size → ¬ S b) : RLs B w6 a c n R := by
  have c2 : Chg S w w6 := (Chg.of_out (S := S) o).trans g (fun x hx _ => hx)
  exact ⟨own_chg h.own c2 (fun b hb => hS b (h.own.lt b hb).2), fun z hz => (h.da z hz).chg c2 (fun b hb => hS b (DaI.blk (h.da z hz) hb).2)⟩
theorem LnI.rk {w0 w : World} {p n i : Nat} {fa : Option Addr} {fc : Nat} {L : List RI} {Q : List LQ} {V : List Rg} (h : LnI w0 w p n i fa fc L Q V) {b : Nat} (hb : rkS p Q b) : w0.heap.size ≤ b ∧ b < w.heap.size := by
  rcases hb with rfl | ⟨q, hq, rfl⟩
  · exact h.own.lt _ rfl
  · exact (h.ow q hq).lt _ rfl
theorem LnI.inR {w0 w : World} {p n : Nat} {fa : Option Addr} {fc : Nat} {L : List RI} {Q : List LQ} {V : List Rg} (h : LnI w0 w p n (n + 70) fa fc L Q V) : InR w (some ⟨p, 0, none⟩) (Q.map LQ.ri) := by
  have hk := h.bk
  refine .inr ⟨p, 0, rfl, fun i x hx => ?_⟩
  rw [List.getElem?_map] at hx
  cases hq : Q[i]? with
  | none => rw [hq] at hx; cases hx
  | some q =>
    rw [hq] at hx
    cases hx
    have hi : i < n := by
      have h1 := (List.getElem?_eq_some_iff.1 hq).1
      have h2 := h.qlen; omega
    have hg : (Q.map LQ.g ++ V)[i]? = some q.g := by rw [List.getElem?_append_left (by rw [List.length_map]; exact (List.getElem?_eq_some_iff.1 hq).1), List.getElem?_map, hq]; rfl
    obtain ⟨q0, q1⟩ := rowG_get hg
    refine ⟨by rw [Nat.zero_add]; exact (own_cellK hk.own q0).1, by rw [Nat.zero_add]; exact (own_cellK hk.own q1).1, ?_⟩
    exact rest_own (h.ow q (List.mem_of_getElem? hq)) 0 q.x.d (fun j x hx => by rw [Nat.zero_add, List.getElem?_append_left (List.getElem?_eq_some_iff.1 hx).1]; exact hx)
theorem LnI.fdI {w0 w : World} {p n : Nat} {fa : Option Addr} {fc : Nat} {L : List RI} {Q : List LQ} {V : List Rg} (h : LnI w0 w p n (n + 70) fa fc L Q V) : (Q.map LQ.ri).map fdI = L.map fdI := by
  rw [← h.bk.lq, List.map_map, List.map_map]
  rfl
theorem LnI.oldL {w0 w : World} {p n : Nat} {fa : Option Addr} {fc : Nat} {L : List RI} {Q : List LQ} {V : List Rg} (h : LnI w0 w p n (n + 70) fa fc L Q V) {y : RI} (hy : y ∈ Q.map LQ.ri) : ∃ x ∈ L, y.f = x.f ∧ y.d = x.d := by
  obtain ⟨q, hq, rfl⟩ := List.mem_map.1 hy
  exact ⟨q.x, by rw [← h.bk.lq]; exact List.mem_map.2 ⟨q, hq, rfl⟩, rfl, rfl⟩
def fpA (s : Nat) (v1 v2 : Value) (X Y : List Rw) (k : Nat) : Prop := fpD s v1 v2 X Y k ∨ dbs (flat X ++ flat Y) k
def fpR (v : Value) (R : List Rg) (k : Nat) : Prop := v.ownBlock = some k ∨ dbs R k
theorem SpD.ltA {B : Nat} {w : World} {s : Nat} {v1 v2 : Value} {X Y : List Rw} {m : Nat} (h : SpD B w s v1 v2 X Y m) {k : Nat} (hk : fpA s v1 v2 X Y k) : B ≤ k ∧ k < w.heap.size := by
  rcases hk with hk | ⟨z, hz, hb⟩
  · exact h.lt hk
  · exact DaI.blk (h.da z hz) hb
theorem RLs.lt {B : Nat} {w : World} {a : Option Addr} {c n : Nat} {R : List Rg} (h : RLs B w a c n R) {k : Nat} (hk : fpR (.slice a n c) R k) : B ≤ k ∧ k < w.heap.size := by
  rcases hk with hk | ⟨z, hz, hb⟩
  · exact h.own.lt k hk
  · exact DaI.blk (h.da z hz) hb
def OX (B B0 : Nat) (w : World) (d s : Nat) (v1 v2 : Value) (X Y : List Rw) (a : Option Addr) (c n : Nat) (R : List Rg) : Prop := B ≤ B0 ∧ (∀ k, fpR (.slice a n c) R k → k < B0) ∧ w.heap[d]? = some (.cells #[.pointer (some ⟨s, 0, none⟩), .slice a n c, .slice none 0 0, .int .i64 0] 61 (0, 0)) ∧ (∀ k, fpA s v1 v2 X Y k → k < d) ∧ B0 ≤ d
def OpenE (L : List RI) (n : Nat) (w : World) (e : Ending) (w' : World) : Prop :=
  ∃ d, e = .returned (.tuple #[.pointer (some ⟨d, 0, none⟩), .bool true]) ∧ Out w w' ∧ ((w'.cell? ⟨d, 0, none⟩ = some (.pointer none) ∧ (∃ cs, w'.heap[d]? = some (.cells cs 61 (0, 0))) ∧ w.heap.size ≤ d) ∨
    ∃ B0 s v1 v2 X Y a' c', ∃ R : List Rg, w'.cell? ⟨d, 0, none⟩ = some (.pointer (some ⟨s, 0, none⟩)) ∧ w'.cell? ⟨d, 1, none⟩ = some (.slice a' n c') ∧ SpD B0 w' s v1 v2 X Y n ∧ RLs w.heap.size w' a' c' n R ∧ R.map fdR = L.map fdI ∧ ((flat X ++ flat Y).map fdR).Perm (L.map fdI) ∧ OX w.heap.size B0 w' d s v1 v2 X Y a' c' n R)
def actV (which kind : Int) (at_ : Nat) (N : Int) (x k dc : Nat) (da : Option Addr) : Value := .agg #[.int .i64 which, .int .i64 kind, .int .u64 at_, .int .i64 N, .int .u64 x, .slice da k dc]
set_option maxHeartbeats 4000000 in
theorem nothingK_any (w : World) (d : Nat) (h : w.cell? ⟨d, 0, none⟩ = some (.pointer none)) (which kind : Int) (at_ : Nat) (N : Int) (x k dc : Nat) (da : Option Addr) (hx : x < 18446744073709551616) (hk : 1 ≤ kind ∧ kind ≤ 7) : Calls Tryz.prog 19 #[.pointer (some ⟨d, 0, none⟩), actV which kind at_ N x k dc da] w fun e w' => e = .returned (.bool true) ∧ Out w w' := by
  unfold actV
  obtain ⟨p, hp⟩ : ∃ p, Hid (p = w.heap.size) := ⟨_, rfl⟩
  obtain ⟨w0, H0, b0, o0⟩ : ∃ w0, Hid (w0 = w.alloc (.cells #[.int .i64 which, .int .i64 kind, .int .u64 at_, .int .i64 N, .int .u64 x, .slice da k dc] 31)) ∧ w0.heap[p]? = some (.cells #[.int .i64 which, .int .i64 kind, .int .u64 at_, .int .i64 N, .int .u64 x, .slice da k dc] 31 (0, 0)) ∧ Out w w0 := ⟨_, rfl, by rw [hp.out]; exact heap_alloc_new w _, (Out.refl w).alloc _⟩
  have c1 : w0.cell? ⟨p, 1, none⟩ = some (.int .i64 kind) := (cell_B b0 1).trans rfl
  have c2 : w0.cell? ⟨p, 2, none⟩ = some (.int .u64 at_) := (cell_B b0 2).trans rfl
  have c3 : w0.cell? ⟨p, 3, none⟩ = some (.int .i64 N) := (cell_B b0 3).trans rfl
  have c4 : w0.cell? ⟨p, 4, none⟩ = some (.int .u64 x) := (cell_B b0 4).trans rfl
  have c5 : w0.cell? ⟨p, 5, none⟩ = some (.slice da k dc) := (cell_B b0 5).trans rfl
  have cd : w0.cell? ⟨d, 0, none⟩ = some (.pointer none) := cell_later o0 h
  have O0 := hidOf o0
  have AC := hidOf (fun W => Add_nil W at_ k dc da)
  have RC := hidOf (fun W => Remove_nil W at_)
  have LC := hidOf (fun W => Load_nil W at_ N)
  have SC := hidOf (fun W => Store_nil W at_ x N hx)
  have BC := hidOf (fun W => Bytes_nil W at_ N)
  have PC := hidOf (fun W => Put_nil W at_ k dc da)
  have GC := hidOf (fun W => regions_nil W)
  clear b0 o0 h
  obtain rfl | rfl | rfl | rfl | rfl | rfl | rfl : kind = 1 ∨ kind = 2 ∨ kind = 3 ∨ kind = 4 ∨ kind = 5 ∨ kind = 6 ∨ kind = 7 := by omega
  · go_enter Tryz.func19, Tryz.ntmps19
    go_upto_region 1 with fail
    rw [← hp.out]
    rw [← H0.out]
    go_upto_region 5 with fail
    refine wp_region_held_drew (S := (fun w' => w'.cell? ⟨d, 0, none⟩ = some (.pointer none) ∧ w'.cell? ⟨p, 2, none⟩ = some (.int .u64 at_) ∧ w'.cell? ⟨p, 5, none⟩ = some (.slice da k dc))) (by kernel_rfl) ?_ (fun hHeld => ?_)
    · exact ⟨cd, c2, c5⟩
    refine tkLB [0, 1, 2, 3, 4, 5, 6, 7, 8] ?_
    iterate 9 (refine tkLC (v := ?_) rfl rfl (by kernel_rfl) (by kernel_rfl) (by kernel_rfl) (fun _ _ _ h => h) (by rfl) (by assumption) ?_ ?_; rotate_left; (· (intro w hSw; (try dsimp only at hSw); go_simp; (try with_reducible rfl))); simp only [Act.put, List.setIfInBounds_toArray, List.set_cons_zero, List.set_cons_succ])
    refine tkLE ?_
    refine wpAnyH_ready (rs := [9]) (by kernel_rfl) (by simp) ?_
    refine (AllReadyH.cons rfl (fun Ko9 hKo9 => ?_) AllReadyH.nil)
    rw [if_pos (by rfl)]
    go_simp
    go_at_call 22
    refine (AC.out _).mono ?_
    rintro e w1 ⟨rfl, ho1⟩
    have O1 := hidOf (O0.out.trans ((Out.refl w0).drew.trans ho1))
    have ed := cell_later ho1 (show w0.drew.cell? _ = _ from cd)
    have e2 := cell_later ho1 (show w0.drew.cell? _ = _ from c2)
    have e5 := cell_later ho1 (show w0.drew.cell? _ = _ from c5)
    clear ho1
    refine hKo9.out _ _ ⟨ed, e2, e5⟩ (fun hHeld9 => ?_)
    try simp only [Act.put, List.setIfInBounds_toArray, List.set_cons_zero, List.set_cons_succ]
    refine tkLB [10] ?_
    iterate 1 (refine tkLC (v := ?_) rfl rfl (by kernel_rfl) (by kernel_rfl) (by kernel_rfl) (fun _ _ _ h => h) (by rfl) (by assumption) ?_ ?_; rotate_left; (· (intro w hSw; (try dsimp only at hSw); go_simp; (try with_reducible rfl))); simp only [Act.put, List.setIfInBounds_toArray, List.set_cons_zero, List.set_cons_succ])
    refine tkLE ?_
    refine wpAnyH_done (by kernel_rfl) ?_ _
    go_wp2
    go_ret
    exact ⟨rfl, O1.out⟩
  · go_enter Tryz.func19, Tryz.ntmps19
    go_upto_region 1 with fail
    rw [← hp.out]
    rw [← H0.out]
    go_upto_region 7 with fail
    refine wp_region_held_drew (S := (fun w' => w'.cell? ⟨d, 0, none⟩ = some (.pointer none) ∧ w'.cell? ⟨p, 2, none⟩ = some (.int .u64 at_))) (by kernel_rfl) ?_ (fun hHeld => ?_)
    · exact ⟨cd, c2⟩
    refine tkLB [0, 1, 2, 3, 4, 5] ?_
    iterate 6 (refine tkLC (v := ?_) rfl rfl (by kernel_rfl) (by kernel_rfl) (by kernel_rfl) (fun _ _ _ h => h) (by rfl) (by assumption) ?_ ?_; rotate_left; (· (intro w hSw; (try dsimp only at hSw); go_simp; (try with_reducible rfl))); simp only [Act.put, List.setIfInBounds_toArray, List.set_cons_zero, List.set_cons_succ])
    refine tkLE ?_
    refine wpAnyH_ready (rs := [6]) (by kernel_rfl) (by simp) ?_
    refine (AllReadyH.cons rfl (fun Ko6 hKo6 => ?_) AllReadyH.nil)
    rw [if_pos (by rfl)]
    go_simp
    go_at_call 26
    refine (RC.out _).mono ?_
    rintro e w1 ⟨rfl, hw1⟩
    subst hw1
    have O1 := hidOf O0.out.drew
    refine hKo6.out _ _ ⟨cd, c2⟩ (fun hHeld6 => ?_)
    try simp only [Act.put, List.setIfInBounds_toArray, List.set_cons_zero, List.set_cons_succ]
    refine tkLB [7] ?_
    iterate 1 (refine tkLC (v := ?_) rfl rfl (by kernel_rfl) (by kernel_rfl) (by kernel_rfl) (fun _ _ _ h => h) (by rfl) (by assumption) ?_ ?_; rotate_left; (· (intro w hSw; (try dsimp only at hSw); go_simp; (try with_reducible rfl))); simp only [Act.put, List.setIfInBounds_toArray, List.set_cons_zero, List.set_cons_succ])
    refine tkLE ?_
    refine wpAnyH_done (by kernel_rfl) ?_ _
    go_wp2
    go_ret
    exact ⟨rfl, O1.out⟩
  · go_enter Tryz.func19, Tryz.ntmps19
    go_upto_region 1 with fail
    rw [← hp.out]
    rw [← H0.out]
    go_upto_region 9 with fail
    refine wp_region_held_drew (S := (fun w' => w'.cell? ⟨d, 0, none⟩ = some (.pointer none) ∧ w'.cell? ⟨p, 2, none⟩ = some (.int .u64 at_) ∧ w'.cell? ⟨p, 3, none⟩ = some (.int .i64 N))) (by kernel_rfl) ?_ (fun hHeld => ?_)
    · exact ⟨cd, c2, c3⟩
    refine tkLB [0, 1, 2, 3, 4, 5, 6, 7] ?_
    iterate 8 (refine tkLC (v := ?_) rfl rfl (by kernel_rfl) (by kernel_rfl) (by kernel_rfl) (fun _ _ _ h => h) (by rfl) (by assumption) ?_ ?_; rotate_left; (· (intro w hSw; (try dsimp only at hSw); go_simp; (try with_reducible rfl))); simp only [Act.put, List.setIfInBounds_toArray, List.set_cons_zero, List.set_cons_succ])
    refine tkLE ?_
    refine wpAnyH_ready (rs := [8]) (by kernel_rfl) (by simp) ?_
    refine (AllReadyH.cons rfl (fun Ko8 hKo8 => ?_) AllReadyH.nil)
    rw [if_pos (by rfl)]
    go_simp
    go_at_call 28
    refine (LC.out _).mono ?_
    rintro e w1 ⟨rfl, hw1⟩
    subst hw1
    have O1 := hidOf O0.out.drew
    refine hKo8.out _ _ ⟨cd, c2, c3⟩ (fun hHeld8 => ?_)
    try simp only [Act.put, List.setIfInBounds_toArray, List.set_cons_zero, List.set_cons_succ]
    refine tkLB [9, 10, 11, 12, 13] ?_
    iterate 5 (refine tkLC (v := ?_) rfl rfl (by kernel_rfl) (by kernel_rfl) (by kernel_rfl) (fun _ _ _ h => h) (by rfl) (by assumption) ?_ ?_; rotate_left; (· (intro w hSw; (try dsimp only at hSw); go_simp; (try with_reducible rfl))); simp only [Act.put, List.setIfInBounds_toArray, List.set_cons_zero, List.set_cons_succ])
    refine tkLE ?_
    refine wpAnyH_done (by kernel_rfl) ?_ _
    go_wp2
    go_ret
    exact ⟨rfl, O1.out⟩
  · go_enter Tryz.func19, Tryz.ntmps19
    go_upto_region 1 with fail
    rw [← hp.out]
    rw [← H0.out]
    go_upto_region 13 with fail
    refine wp_region_held_drew (S := (fun w' => w'.cell? ⟨d, 0, none⟩ = some (.pointer none) ∧ w'.cell? ⟨p, 2, none⟩ = some (.int .u64 at_) ∧ w'.cell? ⟨p, 3, none⟩ = some (.int .i64 N) ∧ w'.cell? ⟨p, 4, none⟩ = some (.int .u64 x))) (by kernel_rfl) ?_ (fun hHeld => ?_)
    · exact ⟨cd, c2, c3, c4⟩
    refine tkLB [0, 1, 2, 3, 4, 5, 6, 7, 8, 9] ?_
    iterate 10 (refine tkLC (v := ?_) rfl rfl (by kernel_rfl) (by kernel_rfl) (by kernel_rfl) (fun _ _ _ h => h) (by rfl) (by assumption) ?_ ?_; rotate_left; (· (intro w hSw; (try dsimp only at hSw); go_simp; (try with_reducible rfl))); simp only [Act.put, List.setIfInBounds_toArray, List.set_cons_zero, List.set_cons_succ])
    refine tkLE ?_
    refine wpAnyH_ready (rs := [10]) (by kernel_rfl) (by simp) ?_
    refine (AllReadyH.cons rfl (fun Ko10 hKo10 => ?_) AllReadyH.nil)
    rw [if_pos (by rfl)]
    go_simp
    go_at_call 30
    refine (SC.out _).mono ?_
    rintro e w1 ⟨rfl, hw1⟩
    subst hw1
    have O1 := hidOf O0.out.drew
    refine hKo10.out _ _ ⟨cd, c2, c3, c4⟩ (fun hHeld10 => ?_)
    try simp only [Act.put, List.setIfInBounds_toArray, List.set_cons_zero, List.set_cons_succ]
    refine tkLB [11] ?_
    iterate 1 (refine tkLC (v := ?_) rfl rfl (by kernel_rfl) (by kernel_rfl) (by kernel_rfl) (fun _ _ _ h => h) (by rfl) (by assumption) ?_ ?_; rotate_left; (· (intro w hSw; (try dsimp only at hSw); go_simp; (try with_reducible rfl))); simp only [Act.put, List.setIfInBounds_toArray, List.set_cons_zero, List.set_cons_succ])
    refine tkLE ?_
    refine wpAnyH_done (by kernel_rfl) ?_ _
    go_wp2
    go_ret
    exact ⟨rfl, O1.out⟩
  · go_enter Tryz.func19, Tryz.ntmps19
    go_upto_region 1 with fail
    rw [← hp.out]
    rw [← H0.out]
    go_upto_region 15 with fail
    refine wp_region_held_drew (S := (fun w' => w'.cell? ⟨d, 0, none⟩ = some (.pointer none) ∧ w'.cell? ⟨p, 2, none⟩ = some (.int .u64 at_) ∧ w'.cell? ⟨p, 3, none⟩ = some (.int .i64 N))) (by kernel_rfl) ?_ (fun hHeld => ?_)
    · exact ⟨cd, c2, c3⟩
    refine tkLB [0, 1, 2, 3, 4, 5, 6, 7] ?_
    iterate 8 (refine tkLC (v := ?_) rfl rfl (by kernel_rfl) (by kernel_rfl) (by kernel_rfl) (fun _ _ _ h => h) (by rfl) (by assumption) ?_ ?_; rotate_left; (· (intro w hSw; (try dsimp only at hSw); go_simp; (try with_reducible rfl))); simp only [Act.put, List.setIfInBounds_toArray, List.set_cons_zero, List.set_cons_succ])
    refine tkLE ?_
    refine wpAnyH_ready (rs := [8]) (by kernel_rfl) (by simp) ?_
    refine (AllReadyH.cons rfl (fun Ko8 hKo8 => ?_) AllReadyH.nil)
    rw [if_pos (by rfl)]
    go_simp
    go_at_call 32
    refine (BC.out _).mono ?_
    rintro e w1 ⟨rfl, hw1⟩
    subst hw1
    have O1 := hidOf O0.out.drew
    refine hKo8.out _ _ ⟨cd, c2, c3⟩ (fun hHeld8 => ?_)
    try simp only [Act.put, List.setIfInBounds_toArray, List.set_cons_zero, List.set_cons_succ]
    refine tkLB [9, 10, 11, 12, 13] ?_
    iterate 5 (refine tkLC (v := ?_) rfl rfl (by kernel_rfl) (by kernel_rfl) (by kernel_rfl) (fun _ _ _ h => h) (by rfl) (by assumption) ?_ ?_; rotate_left; (· (intro w hSw; (try dsimp only at hSw); go_simp; (try with_reducible rfl))); simp only [Act.put, List.setIfInBounds_toArray, List.set_cons_zero, List.set_cons_succ])
    refine tkLE ?_
    refine wpAnyH_done (by kernel_rfl) ?_ _
    go_wp2
    go_ret
    exact ⟨rfl, O1.out⟩
  · go_enter Tryz.func19, Tryz.ntmps19
    go_upto_region 1 with fail
    rw [← hp.out]
    rw [← H0.out]
    go_upto_region 19 with fail
    refine wp_region_held_drew (S := (fun w' => w'.cell? ⟨d, 0, none⟩ = some (.pointer none) ∧ w'.cell? ⟨p, 2, none⟩ = some (.int .u64 at_) ∧ w'.cell? ⟨p, 5, none⟩ = some (.slice da k dc))) (by kernel_rfl) ?_ (fun hHeld => ?_)
    · exact ⟨cd, c2, c5⟩
    refine tkLB [0, 1, 2, 3, 4, 5, 6, 7] ?_
    iterate 8 (refine tkLC (v := ?_) rfl rfl (by kernel_rfl) (by kernel_rfl) (by kernel_rfl) (fun _ _ _ h => h) (by rfl) (by assumption) ?_ ?_; rotate_left; (· (intro w hSw; (try dsimp only at hSw); go_simp; (try with_reducible rfl))); simp only [Act.put, List.setIfInBounds_toArray, List.set_cons_zero, List.set_cons_succ])
    refine tkLE ?_
    refine wpAnyH_ready (rs := [8]) (by kernel_rfl) (by simp) ?_
    refine (AllReadyH.cons rfl (fun Ko8 hKo8 => ?_) AllReadyH.nil)
    rw [if_pos (by rfl)]
    go_simp
    go_at_call 35
    refine (PC.out _).mono ?_
    rintro e w1 ⟨rfl, hw1⟩
    subst hw1
    have O1 := hidOf O0.out.drew
    refine hKo8.out _ _ ⟨cd, c2, c5⟩ (fun hHeld8 => ?_)
    try simp only [Act.put, List.setIfInBounds_toArray, List.set_cons_zero, List.set_cons_succ]
    refine tkLB [9] ?_
    iterate 1 (refine tkLC (v := ?_) rfl rfl (by kernel_rfl) (by kernel_rfl) (by kernel_rfl) (fun _ _ _ h => h) (by rfl) (by assumption) ?_ ?_; rotate_left; (· (intro w hSw; (try dsimp only at hSw); go_simp; (try with_reducible rfl))); simp only [Act.put, List.setIfInBounds_toArray, List.set_cons_zero, List.set_cons_succ])
    refine tkLE ?_
    refine wpAnyH_done (by kernel_rfl) ?_ _
    go_wp2
    go_ret
    exact ⟨rfl, O1.out⟩
  · go_enter Tryz.func19, Tryz.ntmps19
    go_upto_region 1 with fail
    rw [← hp.out]
    rw [← H0.out]
    go_wp2_with (go_at_call 37; refine (GC.out _).mono ?_; rintro e w1 ⟨rfl, ho1⟩; have O1 := hidOf (O0.out.trans ho1); clear ho1)
    go_ret
    exact ⟨rfl, O1.out⟩
end Go.Proofs.YtekjfbmebekmeaaGreat
