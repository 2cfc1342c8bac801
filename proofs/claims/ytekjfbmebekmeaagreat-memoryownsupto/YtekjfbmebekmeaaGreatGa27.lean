import Derived.Test.YtekjfbmebekmeaaGreatGa25
import Derived.Test.YtekjfbmebekmeaaGreatGa26
namespace Go.Proofs.YtekjfbmebekmeaaGreat
open Go.RowKit
set_option linter.unusedVariables false
set_option linter.unusedSimpArgs false
structure LQ where
  x : RI
  b : Nat
  c : Nat
def LQ.g (q : LQ) : Rg := ⟨q.x.f, some q.b, q.c, q.x.d⟩
def LQ.u (q : LQ) : Value := .slice (some ⟨q.b, 0, none⟩) (2 * q.x.d.length + 70 : Nat) q.c
def LQ.ri (q : LQ) : RI := ⟨q.x.f, some ⟨q.b, 0, none⟩, q.c, q.x.d⟩
def z0R : Rg := ⟨0, none, 0, []⟩
def mkM (n j : Nat) : Nat × List UInt8 := (n + j, [77])
theorem rowG_rep (N : Nat) : ∀ j, j < N * 2 → (rowG (List.replicate N z0R))[j]? = (csG z0R)[j % 2]? := by
  induction N with
  | zero => intro j h; omega
  | succ N ih =>
    intro j h
    rw [List.replicate_succ, rowG_cons]
    by_cases hj : j < 2
    · rw [List.getElem?_append_left (by simpa [csG] using hj), Nat.mod_eq_of_lt hj]
    · rw [List.getElem?_append_right (by simp [csG]; omega), show (csG z0R).length = 2 from rfl, ih (j - 2) (by omega)]
      congr 1; omega
theorem madeG (N : Nat) : madeCells #[.int .u64 0, .slice none 0 0] (N * 2) = (rowG (List.replicate N z0R)).toArray := by
  apply Array.ext_getElem?
  intro j
  simp only [madeCells, Array.getElem?_map, List.getElem?_toArray]
  by_cases hj : j < N * 2
  · rw [Array.getElem?_range, if_pos hj, rowG_rep N j hj]
    have h5 : j % 2 < 2 := Nat.mod_lt _ (by omega)
    have : ∀ k, k < 2 → some ((#[.int .u64 0, .slice none 0 0] : Array Value)[k]!) = (csG z0R)[k]? := by
      intro k hk
      match k, hk with
        | 0, _ => rfl
        | 1, _ => rfl
    exact this _ h5
  · rw [Array.getElem?_range, if_neg hj]
    have : (rowG (List.replicate N z0R)).length ≤ j := by rw [rowG_len, List.length_replicate]; omega
    rw [List.getElem?_eq_none this]; rfl
theorem run_makeG (n : Nat) (hn : 32 * n ≤ 281474976710656) (w : World) : (Instr.makeSlice 22 (.int .i64 (n : Int)) (.int .i64 (n : Int))).run Tryz.prog w = .ok (.slice (some ⟨w.heap.size, 0, none⟩) n n) (w.alloc (.cells (rowG (List.replicate n z0R)).toArray 36)) := by
  obtain ⟨i0, hi, hz0, hz1, hz2⟩ := info_parts infoR
  have h := run_make (P := Tryz.prog) w 22 36 i0 _ Tryz.underlying22 hi hz0 .i64 .i64 (n : Int) (n : Int) (by omega) (Int.le_refl _) (by rw [hz2]; omega) (by omega)
  rw [hz1] at h
  simp only [Int.toNat_natCast, Value.cells] at h
  rw [madeG] at h
  exact h
theorem infoB8 : (Tryz.prog.info? 29).map (fun i => (i.zero, i.size, i.bytes)) = some (some (.slice none 0 0), 1, 24) := by kernel_rfl
structure LnI (w wr : World) (g n i : Nat) (fa : Option Addr) (fc : Nat) (L : List RI) (Q : List LQ) (V : List Rg) : Prop where
  own : wr.ownsRow w.heap.size 36 2 (.slice (some ⟨g, 0, none⟩) (n + 70 : Nat) (n + 70 : Nat)) (n + 70) (rowG (Q.map LQ.g ++ V ++ List.replicate (n + 70 - i) z0R))
  fu : wr.ownsRow w.heap.size 29 1 (.slice fa Q.length fc) Q.length (Q.map LQ.u)
  ow : ∀ q ∈ Q, wr.ownsRow w.heap.size 5 1 q.u (2 * q.x.d.length + 70) ((q.x.d ++ spB q.x.d.length).map byV)
  ri : Q.Pairwise (fun x y => x.b < y.b)
  mr : ∀ z ∈ V, DaI w.heap.size wr z ∧ ∀ q ∈ Q, ∀ b, z.a = some b → q.b < b
  lq : Q.map LQ.x = L.take i
  mv : V.map fdR = (List.range (i - n)).map (mkM n)
  ll : L.length = n
  le : i ≤ n + 70
  out : Out w wr
theorem LnI.upto {w wr wr' : World} {g n i : Nat} {fa : Option Addr} {fc : Nat} {L : List RI} {Q : List LQ} {V : List Rg} (h : LnI w wr g n i fa fc L Q V) (o : Out wr wr') : LnI w wr' g n i fa fc L Q V :=
  ⟨own_out h.own o, own_out h.fu o, fun q hq => own_out (h.ow q hq) o, h.ri, fun z hz => ⟨(h.mr z hz).1.out o, (h.mr z hz).2⟩, h.lq, h.mv, h.ll, h.le, h.out.trans o⟩
theorem LnI.vlen {w wr : World} {g n i : Nat} {fa : Option Addr} {fc : Nat} {L : List RI} {Q : List LQ} {V : List Rg} (h : LnI w wr g n i fa fc L Q V) : V.length = i - n := by
  have := congrArg List.length h.mv
  simpa using this
theorem LnI.qlen {w wr : World} {g n i : Nat} {fa : Option Addr} {fc : Nat} {L : List RI} {Q : List LQ} {V : List Rg} (h : LnI w wr g n i fa fc L Q V) : Q.length = min i n := by
  have := congrArg List.length h.lq
  rw [List.length_map, List.length_take, h.ll] at this
  exact this
theorem set_rep (A : List Rg) (m : Nat) (z : Rg) : (A ++ List.replicate (m + 1) z0R).set A.length z = A ++ [z] ++ List.replicate m z0R := by
  rw [List.set_append_right _ _ (Nat.le_refl _), Nat.sub_self, List.replicate_succ, List.set_cons_zero, List.append_assoc, List.singleton_append]
theorem LnI.own1 {w wr : World} {g n i : Nat} {fa : Option Addr} {fc : Nat} {L : List RI} {Q : List LQ} {V : List Rg} (h : LnI w wr g n i fa fc L Q V) (hi : i < n + 70) (z : Rg) :
    (((wr.setCell ⟨g, i * 2, none⟩ (.int .u64 (z.f : Nat))).setCell ⟨g, i * 2 + 1, none⟩ (daV z)).ownsRow w.heap.size 36 2 (.slice (some ⟨g, 0, none⟩) (n + 70 : Nat) (n + 70 : Nat)) (n + 70) (rowG (Q.map LQ.g ++ V ++ [z] ++ List.replicate (n + 70 - (i + 1)) z0R))) ∧ ∃ cur, wr.heap[g]? = some (.cells cur 36 (0, 0)) := by
  have hl : (Q.map LQ.g ++ V).length = i := by
    have h1 := h.vlen; have h2 := h.qlen; have h3 := h.le
    rw [List.length_append, List.length_map]; omega
  obtain ⟨m, hm⟩ : ∃ m, n + 70 - i = m + 1 := ⟨n + 70 - i - 1, by omega⟩
  have h1 := own_setG h.own (by rw [List.length_append, hl, List.length_replicate]; omega) hi z
  rw [hm] at h1
  have h2 := set_rep (Q.map LQ.g ++ V) m z
  rw [hl] at h2
  rw [h2] at h1
  rw [show n + 70 - (i + 1) = m by omega]
  refine ⟨h1, ?_⟩
  obtain ⟨cur, hg, _⟩ := owns_blk h.own
  exact ⟨_, hg⟩
theorem LnI.keep {w wr wS : World} {g n i : Nat} {fa : Option Addr} {fc : Nat} {L : List RI} {Q : List LQ} {V : List Rg} (h : LnI w wr g n i fa fc L Q V) (o : Chg (fun b => b = g) wr wS) :
    wS.ownsRow w.heap.size 29 1 (.slice fa Q.length fc) Q.length (Q.map LQ.u) ∧ (∀ q ∈ Q, wS.ownsRow w.heap.size 5 1 q.u (2 * q.x.d.length + 70) ((q.x.d ++ spB q.x.d.length).map byV)) ∧ (∀ z ∈ V, DaI w.heap.size wS z ∧ ∀ q ∈ Q, ∀ b, z.a = some b → q.b < b) ∧ Out w wS := by
  obtain ⟨cur, hg, hBg, _⟩ := owns_blk h.own
  exact ⟨own_chg h.fu o (fun b hb e => own_ne h.fu hg (by decide) (by subst e; exact hb)), fun q hq => own_chg (h.ow q hq) o (fun b hb e => own_ne (h.ow q hq) hg (by decide) (by subst e; exact hb)), fun z hz => ⟨(h.mr z hz).1.chg o (fun b hb e => own_ne (h.mr z hz).1 hg (by decide) (by subst e; simp [daV, hb, Value.ownBlock])), (h.mr z hz).2⟩, Chg.out o h.out (fun b e => by subst e; exact hBg)⟩
theorem chg_two (w : World) (g j k : Nat) (u v : Value) : Chg (fun b => b = g) w ((w.setCell ⟨g, j, none⟩ u).setCell ⟨g, k, none⟩ v) := ((Chg.refl (fun b => b = g) w).setCell rfl _).setCell rfl _
theorem LnI.stepM {w wr : World} {g n i : Nat} {fa : Option Addr} {fc : Nat} {L : List RI} {Q : List LQ} {V : List Rg} (h : LnI w wr g n i fa fc L Q V) (hn : n ≤ i) (hi : i < n + 70) :
    LnI w (((wr.alloc (.cells #[.int .u8 77] 5)).setCell ⟨g, i * 2, none⟩ (.int .u64 (i : Nat))).setCell ⟨g, i * 2 + 1, none⟩ (.slice (some ⟨wr.heap.size, 0, none⟩) 1 1)) g n (i + 1) fa fc L Q (V ++ [⟨i, some wr.heap.size, 1, [77]⟩]) := by
  have oA : Out wr (wr.alloc (.cells #[.int .u8 77] 5)) := (Out.refl wr).alloc _
  have hA := h.upto oA
  obtain ⟨hown, cur, hg⟩ := hA.own1 hi ⟨i, some wr.heap.size, 1, [77]⟩
  have o := chg_two (wr.alloc (.cells #[.int .u8 77] 5)) g (i * 2) (i * 2 + 1) (.int .u64 (i : Nat)) (.slice (some ⟨wr.heap.size, 0, none⟩) 1 1)
  obtain ⟨hfu, how, hmk, hout⟩ := hA.keep o
  have hgs : g < wr.heap.size := by obtain ⟨cur, hg, _⟩ := owns_blk h.own; exact (Array.getElem?_eq_some_iff.1 hg).1
  have hD : DaI w.heap.size (wr.alloc (.cells #[.int .u8 77] 5)) ⟨i, some wr.heap.size, 1, [77]⟩ := by
    refine ⟨by simp, .inr ⟨wr.heap.size, 1, #[.int .u8 77], rfl, h.out.size, heap_alloc_new wr _, Nat.le_refl _, by simp [maxLen], rfl, rfl⟩⟩
  refine ⟨by rw [← List.append_assoc]; exact hown, hfu, how, h.ri, fun z hz => ?_, ?_, ?_, h.ll, by omega, hout⟩
  · rcases List.mem_append.1 hz with hz | hz
    · exact hmk z hz
    · simp only [List.mem_cons, List.not_mem_nil, or_false] at hz
      subst hz
      refine ⟨hD.chg o (fun b hb e => by simp at hb; omega), fun q hq b hb => ?_⟩
      simp at hb
      subst hb
      exact ((h.ow q hq).lt q.b rfl).2
  · rw [h.lq, List.take_of_length_le (by rw [h.ll]; omega), List.take_of_length_le (by rw [h.ll]; omega)]
  · rw [List.map_append, h.mv, show i + 1 - n = (i - n) + 1 by omega, List.range_succ, List.map_append]
    simp [fdR, mkM]; omega
theorem LnI.stepQ {w wr : World} {g n i : Nat} {fa : Option Addr} {fc : Nat} {L : List RI} {Q : List LQ} {V : List Rg} (h : LnI w wr g n i fa fc L Q V) (hi : i < n) (hn : n ≤ 1000000000) (x : RI) (hx : L[i]? = some x) (b cap : Nat) (how : wr.ownsRow w.heap.size 5 1 (LQ.u ⟨x, b, cap⟩) (2 * x.d.length + 70) ((x.d ++ spB x.d.length).map byV)) (hb : ∀ q ∈ Q, q.b < b) :
    ∃ wS wB, wS = (wr.setCell ⟨g, i * 2, none⟩ (.int .u64 (x.f : Nat))).setCell ⟨g, i * 2 + 1, none⟩ (.slice (some ⟨b, 0, none⟩) x.d.length cap) ∧ wB = wS.alloc (.cells #[LQ.u ⟨x, b, cap⟩] 29) ∧ Out w wS ∧ ∃ a2 c2 w4, (Builtin.append_ #[39, 39] 39 #[.slice fa Q.length fc, .slice (some ⟨wS.heap.size, 0, none⟩) 1 1]).run Tryz.prog wB = .ok (.slice a2 (Q.length + 1 : Nat) c2) w4 ∧ LnI w w4 g n (i + 1) a2 c2 L (Q ++ [⟨x, b, cap⟩]) V := by
  obtain ⟨i0, hi0, hz0, hz1, hz2⟩ := info_parts infoB8
  have hV : V = [] := List.length_eq_zero_iff.1 (by rw [h.vlen]; omega)
  subst hV
  have hql : Q.length = i := by rw [h.qlen]; omega
  obtain ⟨hown, cur, hg⟩ := h.own1 (by omega) (LQ.g ⟨x, b, cap⟩)
  have o := chg_two wr g (i * 2) (i * 2 + 1) (.int .u64 (x.f : Nat)) (.slice (some ⟨b, 0, none⟩) x.d.length cap)
  obtain ⟨hfu, how2, _, hout⟩ := h.keep o
  have how3 := own_chg how o (fun k hk e => own_ne how hg (by decide) (by subst e; exact hk))
  have hownS : ((wr.setCell ⟨g, i * 2, none⟩ (.int .u64 (x.f : Nat))).setCell ⟨g, i * 2 + 1, none⟩ (.slice (some ⟨b, 0, none⟩) x.d.length cap)).ownsRow w.heap.size 36 2 (.slice (some ⟨g, 0, none⟩) (n + 70 : Nat) (n + 70 : Nat)) (n + 70) (rowG (Q.map LQ.g ++ [] ++ [LQ.g ⟨x, b, cap⟩] ++ List.replicate (n + 70 - (i + 1)) z0R)) := hown
  clear hown
  generalize (wr.setCell ⟨g, i * 2, none⟩ (.int .u64 (x.f : Nat))).setCell ⟨g, i * 2 + 1, none⟩ (.slice (some ⟨b, 0, none⟩) x.d.length cap) = wS at *
  have oB : Out wS (wS.alloc (.cells #[LQ.u ⟨x, b, cap⟩] 29)) := (Out.refl wS).alloc _
  obtain ⟨v2, w2, hr2, hown2, hgr2, hnil2, _⟩ := run_append_own_at (P := Tryz.prog) (ty := 39) (wS.alloc (.cells #[LQ.u ⟨x, b, cap⟩] 29)) w.heap.size 39 29 i0 _ 1 24 Tryz.underlying39 hi0 hz0 hz1 hz2 rfl (by decide) (.slice fa Q.length fc) Q.length (Q.map LQ.u) (own_out hfu oB) ⟨wS.heap.size, 0, none⟩ 1 1 [LQ.u ⟨x, b, cap⟩] rfl (fun j u hj => by rw [add_B, Nat.zero_add]; match j, hj with | 0, hj => cases hj; rw [cell_B (heap_alloc_new wS _)]; rfl) (by intro u hu; simp at hu; subst hu; rfl) (by simp only [maxLen]; omega) (by omega) (hout.trans oB).size
  obtain ⟨a2, c2, rfl, _, _⟩ := own_slice hown2
  have hc2 : Chg (fun k => (Value.slice fa Q.length fc).ownBlock = some k) (wS.alloc (.cells #[LQ.u ⟨x, b, cap⟩] 29)) w2 := Chg.of_grown hgr2 (fun q hq => hq)
  have hfB := own_out hfu oB
  refine ⟨wS, _, rfl, rfl, hout, a2, c2, w2, hr2, ?_, ?_, ?_, ?_, ?_, ?_, ?_, h.ll, by omega, ?_⟩
  · have h9 := own_chg (own_out hownS oB) hc2 (fun k hk e => own_two hfB (own_out hownS oB) (by decide) e hk)
    rw [List.append_nil] at h9
    rw [List.map_append, List.append_nil]
    exact h9
  · rw [List.length_append, List.map_append]; exact hown2
  · intro q hq
    rcases List.mem_append.1 hq with hq | hq
    · exact own_chg (own_out (how2 q hq) oB) hc2 (fun k hk e => own_two hfB (own_out (how2 q hq) oB) (by decide) e hk)
    · simp only [List.mem_cons, List.not_mem_nil, or_false] at hq
      subst hq
      exact own_chg (own_out how3 oB) hc2 (fun k hk e => own_two hfB (own_out how3 oB) (by decide) e hk)
  · refine List.pairwise_append.2 ⟨h.ri, List.pairwise_singleton _ _, fun q hq y hy => ?_⟩
    simp only [List.mem_cons, List.not_mem_nil, or_false] at hy
    subst hy; exact hb q hq
  · simp
  · rw [List.map_append, h.lq, List.take_add_one, hx]; rfl
  · rw [show i + 1 - n = 0 by omega]; rfl
  · exact Chg.out hc2 (hout.trans oB) (fun k hk => (hfB.lt k hk).1)
theorem LnI.there {w wr : World} {g n i : Nat} {fa : Option Addr} {fc : Nat} {L : List RI} {Q : List LQ} {V : List Rg} (h : LnI w wr g n i fa fc L Q V) {j : Nat} (hj : j < n + 70) : ∃ v1 v2, wr.cell? ⟨g, j * 2, none⟩ = some v1 ∧ wr.cell? ⟨g, j * 2 + 1, none⟩ = some v2 ∧ wr.frozen? ⟨g, j * 2, none⟩ = false ∧ wr.frozen? ⟨g, j * 2 + 1, none⟩ = false := by
  have hl : (Q.map LQ.g ++ V ++ List.replicate (n + 70 - i) z0R).length = n + 70 := by
    have h1 := h.vlen; have h2 := h.qlen; have h3 := h.le
    rw [List.length_append, List.length_append, List.length_map, List.length_replicate]; omega
  obtain ⟨z, hz⟩ : ∃ z, (Q.map LQ.g ++ V ++ List.replicate (n + 70 - i) z0R)[j]? = some z := ⟨_, List.getElem?_eq_getElem (by rw [hl]; exact hj)⟩
  obtain ⟨q0, q1⟩ := rowG_get hz
  exact ⟨_, _, (own_cellK h.own q0).1, (own_cellK h.own q1).1, (own_cellK h.own q0).2, (own_cellK h.own q1).2⟩
def LentE (L : List RI) (n : Nat) (w : World) (e : Ending) (w' : World) : Prop :=
  ∃ g fa fc Q V, e = .returned (.tuple #[.slice (some ⟨g, 0, none⟩) (n + 70 : Nat) (n + 70 : Nat), .slice fa n fc]) ∧ LnI w w' g n (n + 70) fa fc L Q V
set_option maxHeartbeats 4000000 in
set_option maxRecDepth 100000 in
theorem lent_any (w : World) (a : Option Addr) (c : Nat) (L : List RI) (h : InR w a L) (hL : ∀ x ∈ L, x.f < 18446744073709551616 ∧ x.d.length ≤ 1000000000) (hn : L.length ≤ 1000000000) :
    Calls Tryz.prog 15 #[.slice a L.length c] w fun e w' => LentE L L.length w e w' := by
  obtain ⟨n, hN⟩ : ∃ n, Hid (n = L.length) := ⟨_, rfl⟩
  rw [← hN.out] at hn ⊢
  have HI := hidOf h
  have HL := hidOf hL
  have HNN := hidOf hn
  clear h hL
  obtain ⟨N, hNN⟩ : ∃ N, Hid (N = n + 70) := ⟨_, rfl⟩
  obtain ⟨p, hp⟩ : ∃ p, Hid (p = w.heap.size) := ⟨_, rfl⟩
  have hw70 : IntKind.i64.wrap ((n : Int) + 70) = (N : Int) := by have := hNN.out; rw [IntKind.wrap_i64]; omega
  have hmk := run_makeG N (by have := hNN.out; omega) w
  rw [← hp.out] at hmk
  obtain ⟨w0, H0, HLN⟩ : ∃ w0, Hid (w0 = w.alloc (.cells (rowG (List.replicate N z0R)).toArray 36)) ∧ Hid (LnI w w0 p n 0 none 0 L [] []) := by
    refine ⟨_, rfl, hidOf ⟨?_, World.ownsRow_nil _ _ _ _, by simp, List.Pairwise.nil, by simp, by simp, by simp, hN.out.symm, by omega, (Out.refl w).alloc _⟩⟩
    rw [← hNN.out, hp.out]
    have hbl := heap_alloc_new w (.cells (rowG (List.replicate N z0R)).toArray 36)
    refine ⟨?_, .inr ⟨w.heap.size, N, _, rfl, Nat.le_refl _, hbl, Nat.le_refl _, by have := hNN.out; simp only [maxLen]; omega, by rw [List.size_toArray, rowG_len, List.length_replicate], ?_⟩⟩
    · simp [rowG_len]
    · simp only [List.map_nil, List.nil_append, Nat.sub_zero]
      rw [List.take_of_length_le (by rw [rowG_len, List.length_replicate]; exact Nat.le_refl _)]
  have hw0 : Hid (w0.heap.size = w0.heap.size) := hidOf rfl
  rw [← H0.out] at hmk
  go_enter Tryz.func15, Tryz.ntmps15
  go_upto_region 2 with fail
  clear hmk
  go_wp2
  go_loopw [5, 6] (fun fv iv wr => ∃ (i m : Nat) (fa : Option Addr) (fc : Nat) (Q : List LQ) (V : List Rg), fv = .slice fa m fc ∧ iv = .int .i64 (i : Nat) ∧ Hid (i ≤ N) ∧ Hid (m = Q.length) ∧ Hid (LnI w wr p n i fa fc L Q V)) (fun _ iv _ => N - (intOf iv).toNat)
  case atStart => exact ⟨0, 0, none, 0, [], [], rfl, rfl, hidOf (Nat.zero_le _), hidOf rfl, HLN⟩
  case round =>
    obtain ⟨i, m, fa, fc, Q, V, rfl, rfl, HIN, HM, LN⟩ := hrel
    have hN9 : N ≤ 2000000000 := by have := HNN.out; have := hNN.out; omega
    by_cases hiN : i < N
    · have hltN : (i : Int) < N := by omega
      have hi70 : i < n + 70 := by have := hNN.out; omega
      have HI70 := hidOf hi70
      clear hi70
      by_cases hin : i < n
      · have hlt : (i : Int) < n := by omega
        obtain ⟨x, hx⟩ : ∃ x, L[i]? = some x := ⟨_, List.getElem?_eq_getElem (by rw [← hN.out]; exact hin)⟩
        obtain ⟨g, o, rfl, hcs⟩ : ∃ g o, a = some ⟨g, o, none⟩ ∧ _ := HI.out.resolve_left (fun e => by rw [e] at hx; simp at hx)
        obtain ⟨q0, q1, q2⟩ := hcs i x hx
        have hgp : g < p := by
          rw [hp.out]
          by_cases hg : g < w.heap.size
          · exact hg
          · simp [World.cell?, Array.getElem?_eq_none (Nat.le_of_not_lt hg)] at q0
        have p1 := cell_later LN.out.out q1
        have Q0 := hidOf q0
        have Q1 := hidOf q1
        have hxm := HL.out _ (List.mem_of_getElem? hx)
        obtain ⟨xf, xa, xc, xd⟩ := x
        simp only at p1 q2 hxm Q0 Q1
        obtain ⟨xn, hxn⟩ : ∃ xn, Hid (xn = xd.length) := ⟨_, rfl⟩
        obtain ⟨nn, hnn⟩ : ∃ nn, Hid (nn = 2 * xn + 70) := ⟨_, rfl⟩
        have SPC := hidOf (spareOf_any wr xa xc xd (q2.out LN.out.out) (by have := hxm.2; omega))
        rw [← hxn.out, ← hnn.out] at SPC
        rw [← hxn.out] at p1 Q1
        have HX := hidOf hx
        clear hcs q0 q1 q2 hx hxm
        go_upto_region 8 with (go_at_call 43; refine SPC.out.mono ?_; rintro e w1 ⟨b, cap, rfl, hown, ho1⟩; have W1 := hidOf hown; have O1 := hidOf ho1; clear hown ho1)
        clear p1
        have hnc : nn ≤ cap := by
          rcases W1.out.2 with ⟨he, _⟩ | ⟨g1, c1, cu, he, _, _, hle, _⟩
          · cases he
          · simp only [Value.slice.injEq] at he
            rw [he.2.2]; exact hle
        have hxc : xn ≤ cap := by have := hnn.out; omega
        have hxc2 : (xn : Int) ≤ cap := by omega
        clear hnc
        have LN1 := LN.out.upto (O1.out.trans (Out.refl w1).drew)
        obtain ⟨v1, v2, c1, c2, z1, z2⟩ := LN1.there HI70.out
        have c1 : w1.cell? ⟨p, i * 2, none⟩ = some v1 := c1
        have c2 : w1.cell? ⟨p, i * 2 + 1, none⟩ = some v2 := c2
        have z1 : w1.frozen? ⟨p, i * 2, none⟩ = false := z1
        have z2 : w1.frozen? ⟨p, i * 2 + 1, none⟩ = false := z2
        have p0 : w1.drew.cell? ⟨g, o + i * 2, none⟩ = some (.int .u64 xf) := cell_later LN1.out Q0.out
        have p1 : w1.drew.cell? ⟨g, o + i * 2 + 1, none⟩ = some (.slice xa xn xc) := cell_later LN1.out Q1.out
        have how : w1.drew.ownsRow w.heap.size 5 1 (LQ.u ⟨⟨xf, xa, xc, xd⟩, b, cap⟩) (2 * xd.length + 70) ((xd ++ spB xd.length).map byV) := by
          have h9 := own_base (own_out W1.out (Out.refl w1).drew) (LN.out.out.size)
          rw [hnn.out, hxn.out] at h9
          exact h9
        have hqb : ∀ q ∈ Q, q.b < b := fun q hq => by
          have h1 := ((LN.out.ow q hq).lt q.b rfl).2
          have h2 := (W1.out.lt b rfl).1
          omega
        obtain ⟨wS, wB, hS, hB, hoS, a2, c2', w4, hap, hI⟩ := LN1.stepQ hin HNN.out ⟨xf, xa, xc, xd⟩ HX.out b cap how hqb
        simp only at hS
        rw [← hxn.out] at hS
        have hB2 : wB = wS.alloc (.cells #[.slice (some ⟨b, 0, none⟩) nn cap] 29) := by rw [hB, hnn.out, hxn.out]; rfl
        rw [← HM.out] at hap
        have HS : Hid (((w1.setCell ⟨p, i * 2, none⟩ (.int .u64 xf)).setCell ⟨p, i * 2 + 1, none⟩ (.slice (some ⟨b, 0, none⟩) xn cap)).drew = wS) := hidOf (by rw [hS]; rfl)
        have HB := hidOf hB2
        have HAP := hidOf hap
        have HNX := hidOf hI
        have s0 : wS.cell? ⟨g, o + i * 2, none⟩ = some (.int .u64 xf) := cell_later hoS Q0.out
        have s1 : wS.cell? ⟨g, o + i * 2 + 1, none⟩ = some (.slice xa xn xc) := cell_later hoS Q1.out
        clear hS hB hB2 hap hI how hqb hoS LN1
        go_upto_region 8 with fail
        refine wp_region_held_drew (S := (fun w' => w'.cell? ⟨g, o + i * 2, none⟩ = some (.int .u64 xf) ∧ w'.cell? ⟨g, o + i * 2 + 1, none⟩ = some (.slice xa xn xc))) (by kernel_rfl) ?_ (fun hHeld => ?_)
        · exact ⟨p0, p1⟩
        refine tkLB [0, 1, 2, 3, 4, 5, 6, 7, 8, 9, 10, 11, 12, 13, 14, 15, 16] ?_
        iterate 17 (refine tkLC (v := ?_) rfl rfl (by kernel_rfl) (by kernel_rfl) (by kernel_rfl) (fun _ _ _ h => h) (by rfl) (by assumption) ?_ ?_; rotate_left; (· (intro w hSw; (try dsimp only at hSw); go_simp; (try with_reducible rfl))); simp only [Act.put, List.setIfInBounds_toArray, List.set_cons_zero, List.set_cons_succ])
        refine tkLE ?_
        refine wpAnyH_ready (rs := [17]) (by kernel_rfl) (by simp) ?_
        refine (AllReadyH.cons rfl (fun Ko17 hKo17 => ?_) AllReadyH.nil)
        rw [if_pos (by rfl)]
        go_simp
        rw [HS.out]
        refine hKo17.out _ _ ⟨s0, s1⟩ (fun hHeld17 => ?_)
        try simp only [Act.put, List.setIfInBounds_toArray, List.set_cons_zero, List.set_cons_succ]
        refine wpAnyH_done (by kernel_rfl) ?_ _
        clear c1 c2 z1 z2 p0 p1 s0 s1 hxc hxc2 hgp
        go_wp2_with (at_builtin; rw [← HB.out]; refine Lib.wpList_append_run _ rfl _ _ _ _ rfl _ _ rfl rfl _ _ HAP.out ?_)
        go_roundw
        case rel => exact ⟨i + 1, m + 1, a2, c2', Q ++ [⟨⟨xf, xa, xc, xd⟩, b, cap⟩], V, by first | rfl | simp, by simp, hidOf (by omega), hidOf (by rw [List.length_append, ← HM.out]; rfl), HNX⟩
        case measure => simp [intOf]; omega
      · have hlt : ¬ (i : Int) < n := by omega
        have hw64 : IntKind.u64.wrap (i : Int) = (i : Int) := by have := HNN.out; have := HI70.out; rw [IntKind.wrap_u64]; omega
        have oA : Out wr (wr.alloc (.cells #[.int .u8 77] 5)) := (Out.refl wr).alloc _
        obtain ⟨v1, v2, c1, c2, z1, z2⟩ := (LN.out.upto oA).there HI70.out
        obtain ⟨wS, HS⟩ : ∃ wS, Hid (wS = ((wr.alloc (.cells #[.int .u8 77] 5)).setCell ⟨p, i * 2, none⟩ (.int .u64 (i : Nat))).setCell ⟨p, i * 2 + 1, none⟩ (.slice (some ⟨wr.heap.size, 0, none⟩) 1 1)) := ⟨_, rfl⟩
        have LNS : Hid (LnI w wS p n (i + 1) fa fc L Q (V ++ [⟨i, some wr.heap.size, 1, [77]⟩])) := hidOf (by rw [HS.out]; exact LN.out.stepM (by omega) HI70.out)
        clear oA
        go_wp2
        rw [← HS.out]
        go_roundw
        case rel => exact ⟨i + 1, m, fa, fc, Q, V ++ [⟨i, some wr.heap.size, 1, [77]⟩], by first | rfl | simp, by simp, hidOf (by omega), HM, LNS⟩
        case measure => simp [intOf]; omega
    · have hltN : ¬ (i : Int) < N := by omega
      have hiN2 : i = n + 70 := by have := HIN.out; have := hNN.out; omega
      have hmn : m = n := by have h1 := LN.out.qlen; have h2 := HM.out; omega
      subst hmn
      subst hiN2
      have hres : Hid (N = m + 70) := hNN
      go_wp2
      refine bodyPost_ret (results_tmp2 rfl _ _ _) rfl ?_
      exact ⟨p, fa, fc, Q, V, by rw [← hres.out]; rfl, LN.out⟩
end Go.Proofs.YtekjfbmebekmeaaGreat
