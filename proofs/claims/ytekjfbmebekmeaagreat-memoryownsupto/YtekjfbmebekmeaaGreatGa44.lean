import Derived.Test.YtekjfbmebekmeaaGreatGa43
import Derived.Test.YtekjfbmebekmeaaGreatRows
import Derived.ProofKit
import Derived.OpenShut
import Derived.ChangeOld
import Derived.LaidMore
import Derived.Deep.Slices
import Derived.ChangeSlices
import Derived.SliceStrings
namespace Go.Proofs.YtekjfbmebekmeaaGreat
open Go.RowKit
set_option linter.unusedVariables false
set_option linter.unusedSimpArgs false
structure AcI where
  which : Int
  kind : Int
  at_ : Nat
  N : Int
  x : Nat
  a : Option Addr
  c : Nat
  d : List UInt8
def AcI.v (z : AcI) : Value := actV z.which z.kind z.at_ z.N z.x z.d.length z.c z.a
def AcOk (z : AcI) : Prop := z.at_ < 18446744073709551616 ∧ (-9223372036854775808 ≤ z.N ∧ z.N < 9223372036854775808) ∧ z.x < 18446744073709551616 ∧ z.d.length ≤ 1048576
def DkA (B : Nat) (w : World) (d m : Nat) (F : Nat → Prop) : Prop := (∀ k, F k → B ≤ k ∧ k < w.heap.size) ∧ ((w.cell? ⟨d, 0, none⟩ = some (.pointer none) ∧ F d) ∨ ∃ t, DkW B w d t m ∧ (∀ k, t.fp d k → F k) ∧ BdP (t.R.map fdR))
section
variable {B B0 m m' d n : Nat} {w w' : World} {S F : Nat → Prop}
theorem Sh.base {v : Value} {X : List Rw} (h : Sh B0 w v X) (hb : B ≤ B0) : Sh B w v X := ⟨own_base h.own hb, fun x hx => own_base (h.rows x hx) hb, h.ne, h.le, h.nd, h.vn⟩
theorem SpD.base {s : Nat} {v1 v2 : Value} {X Y : List Rw} (h : SpD B0 w s v1 v2 X Y m) (hb : B ≤ B0) : SpD B w s v1 v2 X Y m :=
  ⟨⟨h.sp.blk, Nat.le_trans hb h.sp.bs, h.sp.fil.base hb, h.sp.emp.base hb, h.sp.s1, h.sp.s2, h.sp.d12, h.sp.nX, h.sp.nY⟩, h.ok, h.lX, h.lY, fun z hz => own_base (h.da z hz) hb, h.dn, h.ds, h.le, h.nm⟩
def DkE (B : Nat) (w : World) (d m : Nat) (X : Nat → Prop) : Prop := (w.cell? ⟨d, 0, none⟩ = some (.pointer none) ∧ (∃ cs, w.heap[d]? = some (.cells cs 61 (0, 0))) ∧ B ≤ d ∧ ∀ k, X k ↔ k = d) ∨ ∃ t, DkW B w d t m ∧ (∀ k, X k ↔ t.fp d k) ∧ BdP (t.R.map fdR)
theorem DkE.lt {X : Nat → Prop} (h : DkE B w d m X) {k : Nat} (hk : X k) : B ≤ k ∧ k < w.heap.size := by
  rcases h with ⟨_, ⟨cs, h2⟩, h3, h4⟩ | ⟨t, h1, h2, _⟩
  · rw [(h4 k).1 hk]; exact ⟨h3, (Array.getElem?_eq_some_iff.1 h2).1⟩
  · exact h1.1.lt ((h2 k).1 hk)
theorem DkE.keep {X : Nat → Prop} (h : DkE B w d m X) (c : Chg S w w') (hs : ∀ k, X k → ¬ S k) : DkE B w' d m X := by
  rcases h with ⟨h1, ⟨cs, h2⟩, h3, h4⟩ | ⟨t, h1, h2, h3⟩
  · have hd := hs d ((h4 d).2 rfl)
    exact .inl ⟨c.cell h1 hd, ⟨cs, blk_chg h2 c hd⟩, h3, h4⟩
  · exact .inr ⟨t, ⟨h1.1.keep c (fun k hk => hs k ((h2 k).2 hk)), h1.2.1, h1.2.2⟩, h2, h3⟩
theorem DkE.out {X : Nat → Prop} (h : DkE B w d m X) (o : Out w w') : DkE B w' d m X := h.keep (Chg.of_out (S := fun _ => False) o) (fun _ _ h => h)
theorem DkE.mono {X : Nat → Prop} (h : DkE B w d m X) (hm : m ≤ m') : DkE B w d m' X := by
  rcases h with h1 | ⟨t, h1, h2, h3⟩
  · exact .inl h1
  · exact .inr ⟨t, ⟨h1.1.mono hm, h1.2.1, h1.2.2⟩, h2, h3⟩
theorem OpenE.dkE {L : List RI} {e : Ending} (h : OpenE L n w e w') (hl : L.length = n) (hL : ∀ x ∈ L, x.d.length ≤ 1048576) (hB : B ≤ w.heap.size) : ∃ d X, e = .returned (.tuple #[.pointer (some ⟨d, 0, none⟩), .bool true]) ∧ Out w w' ∧ DkE B w' d n X ∧ ∀ k, X k → w.heap.size ≤ k ∧ k < w'.heap.size := by
  obtain ⟨d, he, ho, hc⟩ := h
  rcases hc with ⟨h1, ⟨cs, h2⟩, h3⟩ | ⟨B0, s, v1, v2, X, Y, a', c', R, h0, h1, hsp, hrl, hmr, hpm, hB0, hRb, hblk, hAd, hd0⟩
  · have hdl := (Array.getElem?_eq_some_iff.1 h2).1
    exact ⟨d, fun k => k = d, he, ho, .inl ⟨h1, ⟨cs, h2⟩, Nat.le_trans hB h3, fun k => Iff.rfl⟩, fun k hk => by subst hk; exact ⟨h3, hdl⟩⟩
  · have hdl : d < w'.heap.size := (Array.getElem?_eq_some_iff.1 hblk).1
    refine ⟨d, DkT.fp ⟨s, v1, v2, X, Y, .slice a' n c', a', c', n, R, .slice none 0 0, 0⟩ d, he, ho, .inr ⟨⟨s, v1, v2, X, Y, .slice a' n c', a', c', n, R, .slice none 0 0, 0⟩, ⟨⟨hblk, by omega, hsp.base (by omega), hrl.base hB, ?_, .inl rfl, fun k hk hk2 => ?_, fun k hk hk2 => ?_, fun k hk hk2 => ?_⟩, rfl, ?_⟩, fun k => Iff.rfl, ?_⟩, fun k hk => ?_⟩
    · have := congrArg List.length hmr
      simpa [hl] using this
    · have h7 := (hsp.ltA hk).1
      have h8 := hRb k hk2
      omega
    · have h7 := hAd k hk
      rcases hk2 with e | e
      · omega
      · cases e
    · have h8 := hRb k hk
      rcases hk2 with e | e
      · omega
      · cases e
    · show (R.map fdR).Perm _
      rw [hmr]; exact hpm.symm
    · show BdP (R.map fdR)
      rw [hmr]
      intro p hp
      obtain ⟨x, hx, rfl⟩ := List.mem_map.1 hp
      exact hL x hx
    · rcases hk with hk | hk | hk | hk
      · have h7 := hsp.ltA hk
        exact ⟨by omega, h7.2⟩
      · exact hrl.lt hk
      · subst hk; exact ⟨by omega, hdl⟩
      · cases hk
def OutA (w w' : World) (m : Nat) (F : Nat → Prop) (u v : Value) : Prop := ∃ (ub : List UInt8) (ua : Option Addr) (uc : Nat) (va : Option Addr) (vc : Nat) (vR : List Rg), u = .slice ua ub.length uc ∧ v = .slice va vR.length vc ∧ (u = .slice none 0 0 ∨ vR = []) ∧ w'.ownsRow w.heap.size 5 1 u ub.length (ub.map byV) ∧ RLs w.heap.size w' va vc vR.length vR ∧ vR.Pairwise (fun x y => ∀ b, x.a = some b → y.a ≠ some b) ∧ ub.length ≤ 1048576 ∧ BdP (vR.map fdR) ∧ vR.length ≤ m ∧ ∀ k, (u.ownBlock = some k ∨ fpR v vR k) → w.heap.size ≤ k ∧ ¬ F k
theorem OutA.nil (h : ∀ k, F k → k < w.heap.size) : OutA w w' m F (.slice none 0 0) (.slice none 0 0) :=
  ⟨[], none, 0, none, 0, [], rfl, rfl, .inl rfl, World.ownsRow_nil _ _ _ _, RLs.nil _ _, List.Pairwise.nil, Nat.zero_le _, (fun p hp => by simp at hp), Nat.zero_le _, fun k hk => by
    rcases hk with hk | hk | ⟨z, hz, _⟩
    · cases hk
    · cases hk
    · cases hz⟩
theorem actW_any {t : DkT} (h1 : DkW B w d t m) (hm : m + 1 ≤ 1000000000) (which kind : Int) (at_ : Nat) (N : Int) (x dc : Nat) (da : Option Addr) (l : List UInt8) (ha : at_ < 18446744073709551616) (hN : -9223372036854775808 ≤ N ∧ N < 9223372036854775808) (hx : x < 18446744073709551616) (hl : l.length ≤ 1048576) (hr : RestAt B w da l) : Calls Tryz.prog 8 #[.pointer (some ⟨d, 0, none⟩), actV which kind at_ N x l.length dc da] w fun e w' => ActE B d m (m + if kind = 1 then 1 else 0) l.length t w e w' := by
  by_cases hk : 1 ≤ kind ∧ kind ≤ 7
  · obtain rfl | rfl | rfl | rfl | rfl | rfl | rfl : kind = 1 ∨ kind = 2 ∨ kind = 3 ∨ kind = 4 ∨ kind = 5 ∨ kind = 6 ∨ kind = 7 := by omega
    · rw [if_pos (by decide)]; exact act1_any B m d w t h1 hm which at_ N x dc da ha hN hx l hr hl
    · rw [if_neg (by decide)]; exact act2_any B m d w t h1 hm which at_ N x l.length dc da ha hN hx
    · rw [if_neg (by decide)]; exact act3_any B m d w t h1 hm which at_ N x l.length dc da ha hN hx
    · rw [if_neg (by decide)]; exact act4_any B m d w t h1 hm which at_ N x l.length dc da ha hN hx
    · rw [if_neg (by decide)]; exact act5_any B m d w t h1 hm which at_ N x l.length dc da ha hN hx
    · rw [if_neg (by decide)]; exact act6_any B m d w t h1 hm which at_ N x dc da ha hN hx l hr hl
    · rw [if_neg (by decide)]; exact act7_any B m d w t h1 hm which at_ N x l.length dc da ha hN hx
  · rw [if_neg (by omega)]; exact actO_any B m d w t h1 hm kind hk which at_ N x l.length dc da ha hN hx
theorem actE_any {X : Nat → Prop} (h : DkE B w d m X) (hm : m + 1 ≤ 1000000000) (z : AcI) (hz : AcOk z) (hr : RestAt B w z.a z.d) :
    Calls Tryz.prog 8 #[.pointer (some ⟨d, 0, none⟩), z.v] w fun e w' => ∃ u v X', e = .returned (.tuple #[.bool true, u, v]) ∧ DkE B w' d (m + if z.kind = 1 then 1 else 0) X' ∧ Chg X w w' ∧ (∀ k, X' k → X k ∨ w.heap.size ≤ k) ∧ OutA w w' m X' u v := by
  obtain ⟨which, kind, at_, N, x, da, dc, l⟩ := z
  obtain ⟨ha, hN, hx, hl⟩ := hz
  simp only at ha hN hx hl hr
  rcases h with ⟨h1, h2, h3, h4⟩ | ⟨t, h1, h2, h3⟩
  · have hE : DkE B w d m X := .inl ⟨h1, h2, h3, h4⟩
    refine (actN_any w d h1 kind which at_ N x l.length dc da ha hN hx).mono ?_
    rintro e w' ⟨he, ho⟩
    exact ⟨_, _, X, he, (hE.out ho).mono (Nat.le_add_right _ _), Chg.of_out ho, fun k hk => .inl hk, OutA.nil (fun k hk => (hE.lt hk).2)⟩
  · refine (actW_any h1 hm which kind at_ N x dc da l ha hN hx hl hr).mono ?_
    rintro e w' ⟨u, v, t', he, dr, hcv, hpm, hbd, ub, ua, uc, va, vc, vR, hu, hv, hor, how, hrl, hdn, hlb, hln, hnf⟩
    have hnm := h1.nm
    refine ⟨u, v, t'.fp d, he, .inr ⟨t', ⟨dr.dk, hcv, hpm⟩, fun k => Iff.rfl, hbd h3 hl⟩, dr.chg.mono (fun k hk _ => (h2 k).2 hk), fun k hk => (dr.new k hk).imp (h2 k).2 id, ub, ua, uc, va, vc, vR, hu, hv, hor, how, hrl, hdn, (hlb h3).1, (hlb h3).2, by omega, fun k hk => ⟨?_, hnf k hk⟩⟩
    rcases hk with hk | hk
    · exact (how.lt k hk).1
    · rw [hv] at hk; exact (hrl.lt hk).1
end
def AcR (w : World) (a : Option Addr) (A : List AcI) : Prop := A = [] ∨ ∃ g o, a = some ⟨g, o, none⟩ ∧ ∀ (i : Nat) (z : AcI), A[i]? = some z → (w.cell? ⟨g, o + i * 6, none⟩ = some (.int .i64 z.which) ∧ w.cell? ⟨g, o + i * 6 + 1, none⟩ = some (.int .i64 z.kind) ∧ w.cell? ⟨g, o + i * 6 + 2, none⟩ = some (.int .u64 z.at_) ∧ w.cell? ⟨g, o + i * 6 + 3, none⟩ = some (.int .i64 z.N) ∧ w.cell? ⟨g, o + i * 6 + 4, none⟩ = some (.int .u64 z.x) ∧ w.cell? ⟨g, o + i * 6 + 5, none⟩ = some (.slice z.a z.d.length z.c)) ∧ RestAt w.heap.size w z.a z.d
theorem RestAt.out {N : Nat} {w w' : World} {a : Option Addr} {l : List UInt8} (h : RestAt N w a l) (o : Out w w') : RestAt N w' a l := h.imp id (fun ⟨b, o1, h1, h2, h3⟩ => ⟨b, o1, h1, h2, fun j x hx => cell_later o (h3 j x hx)⟩)
section
variable {w wr w' : World} {ds : List Nat} {m : Nat} {KP : Nat → Obj → Prop}
end
end Go.Proofs.YtekjfbmebekmeaaGreat
namespace Go.Proofs.YtekjfbmebekmeaaGreat
open Go.ChangeShapes Go.WideShapes Go.ChangeAt Go.RowKit Go.Deep
set_option linter.unusedVariables false
set_option linter.unusedSimpArgs false
theorem byte_cells : Tryz.prog.cellsOf 5 = 1 := by kernel_rfl
theorem row_cells : Tryz.prog.cellsOf 29 = 1 := by kernel_rfl
theorem u64_cells : Tryz.prog.cellsOf 28 = 1 := by kernel_rfl
theorem reg_cells : Tryz.prog.cellsOf 36 = 2 := by kernel_rfl
theorem byte_wf {n : Int} (h : (Lit.int .u8 n).wf = true) : 0 ≤ n ∧ n < 256 := by
  simp [Lit.wf, IntKind.min, IntKind.max, IntKind.bits, IntKind.signed] at h; omega
theorem u64_wf {n : Int} (h : (Lit.int .u64 n).wf = true) : 0 ≤ n ∧ n < 18446744073709551616 := by
  simp [Lit.wf, IntKind.min, IntKind.max, IntKind.bits, IntKind.signed] at h; omega
theorem byV_of {n : Int} (h : 0 ≤ n ∧ n < 256) : ∃ c : UInt8, byV c = .int .u8 n := by
  refine ⟨UInt8.ofNat n.toNat, ?_⟩
  have h2 : n.toNat < 256 := by omega
  unfold byV
  rw [UInt8.toNat_ofNat_of_lt' (by simpa [UInt8.size] using h2)]
  exact congrArg _ (Int.toNat_of_nonneg h.1)
theorem list_of {α : Type} (P : Nat → α → Prop) : ∀ n, (∀ i, i < n → ∃ x, P i x) → ∃ l : List α, l.length = n ∧ ∀ i x, l[i]? = some x → P i x
  | 0, _ => ⟨[], rfl, fun i x h => by simp at h⟩
  | n + 1, h => by
    obtain ⟨l, hl, hp⟩ := list_of P n (fun i hi => h i (by omega))
    obtain ⟨x, hx⟩ := h n (by omega)
    refine ⟨l ++ [x], by simp [hl], fun i y hy => ?_⟩
    by_cases hi : i < n
    · rw [List.getElem?_append_left (by omega)] at hy; exact hp i y hy
    · have : i < n + 1 := by have := (List.getElem?_eq_some_iff.1 hy).1; simp [hl] at this; exact this
      obtain rfl : i = n := by omega
      rw [List.getElem?_append_right (by omega)] at hy
      simp [hl] at hy
      subst hy; exact hx
theorem bulk_one {H : Type} (d : DataW H) : 1 ≤ Rows.uptoBulk d := by
  cases d with
  | lit l => cases l <;> simp [Rows.uptoBulk]
  | nil => simp [Rows.uptoBulk]
  | ptr d => simp [Rows.uptoBulk]
  | slice elems spare => simp [Rows.uptoBulk]
  | agg parts => simp [Rows.uptoBulk]
  | iface t d => simp [Rows.uptoBulk]
  | map entries => simp [Rows.uptoBulk]
  | held h => simp [Rows.uptoBulk]
theorem bulk_len {H : Type} (l : List (DataW H)) : l.length ≤ Rows.uptoBulkAll l := by
  induction l with
  | nil => simp [Rows.uptoBulkAll]
  | cons x r ih => have := bulk_one x; simp only [Rows.uptoBulkAll, List.length_cons]; omega
theorem bulk_memR {H : Type} {l : List (DataW H)} {d : DataW H} (h : d ∈ l) : Rows.uptoBulk d ≤ Rows.uptoBulkAll l := by
  induction l with
  | nil => cases h
  | cons x r ih =>
    simp only [Rows.uptoBulkAll]
    rcases List.mem_cons.1 h with rfl | h
    · omega
    · have := ih h; omega
theorem open_restU {H : Type} {enc : TypeId × Value → H} {w : World} {base : Nat} {spare : Nat → Bool} {held : Bool} {fuel : Nat} {a : Option Addr} {len cap : Nat} {x : DataW H × List MemPlace}
    (h : DataW.trod enc Tryz.prog w base spare held fuel 29 [.slice a len cap] = some x) :
    ∃ l : List UInt8, l.length = len ∧ RestA w a l ∧ len ≤ Rows.uptoBulk x.1 := by
  rcases open_ints Tryz.underlying29 Tryz.underlying5 byte_cells h with ⟨hcs, rfl⟩ | ⟨ad, len', cap', zs, hcs, _, hl, hm, hz, rfl, hcell, hwz⟩
  · simp at hcs
    obtain ⟨rfl, rfl, rfl⟩ := hcs
    exact ⟨[], rfl, .inl rfl, Nat.zero_le _⟩
  · simp at hcs
    obtain ⟨rfl, rfl, rfl⟩ := hcs
    have hlz : len ≤ zs.length := by rw [hz]; split <;> omega
    have hb : len ≤ Rows.uptoBulk (DataW.slice (lits (H := H) .u8 (zs.take len)) (lits .u8 (zs.drop len))) := by
      have e : (lits (H := H) .u8 (zs.take len)).length = len := by simp [lits]; omega
      have := bulk_len (H := H) (lits .u8 (zs.take len))
      simp only [Rows.uptoBulk]
      omega
    obtain ⟨l, hl2, hp⟩ := list_of (fun i (x : UInt8) => w.cell? (ad.add i) = some (byV x)) len (fun i hi => by
      have hk' : i < zs.length := by omega
      have e1 := hcell i hk'
      have h8 := byte_wf (hwz _ (List.getElem_mem hk'))
      obtain ⟨c, hc⟩ := byV_of h8
      rw [show zs.getD i 0 = zs[i] by simp [List.getD, List.getElem?_eq_getElem hk']] at e1
      exact ⟨c, by rw [hc]; exact e1⟩)
    exact ⟨l, hl2, .inr ⟨ad, rfl, fun j u hj => by
      rw [List.getElem?_map] at hj
      cases hlj : l[j]? with
      | none => rw [hlj] at hj; cases hj
      | some b =>
        rw [hlj] at hj
        cases hj
        exact hp j b hlj⟩, hb⟩
set_option maxRecDepth 20000 in
theorem open_regsU {H : Type} {enc : TypeId × Value → H} {w : World} {base : Nat} {spare : Nat → Bool} {held : Bool} {fuel : Nat} {a : Option Addr} {len cap : Nat} {x : DataW H × List MemPlace}
    (h : DataW.trod enc Tryz.prog w base spare held fuel 22 [.slice a len cap] = some x) : ∃ L : List RI, L.length = len ∧ InR w a L ∧ (∀ y ∈ L, y.f < 18446744073709551616 ∧ y.d.length ≤ Rows.uptoBulk x.1) ∧ L.length ≤ Rows.uptoBulk x.1 := by
  rcases open_slice Tryz.underlying22 h with ⟨hcs, rfl⟩ | ⟨ad, l, c, m, n, D, Pl, hcs, hb, hl, hm, hmm, rfl, hx⟩
  · simp at hcs
    obtain ⟨rfl, rfl, rfl⟩ := hcs
    exact ⟨[], rfl, .inl rfl, by simp, Nat.zero_le _⟩
  · simp at hcs
    obtain ⟨rfl, rfl, rfl⟩ := hcs
    obtain ⟨bk, hbk⟩ : ∃ bk, bk = Rows.uptoBulk (DataW.slice ((List.range len).map D) ((List.range (m - len)).map fun i => D (len + i))) := ⟨_, rfl⟩
    have hb2 := hbk
    simp only [Rows.uptoBulk] at hb2
    have hwl : len ≤ bk := by
      have := bulk_len (H := H) ((List.range len).map D)
      simp only [List.length_map, List.length_range] at this
      omega
    have hwd : ∀ i, i < len → Rows.uptoBulk (D i) ≤ bk := fun i hi => by
      have := bulk_memR (l := (List.range len).map D) (List.mem_map.2 ⟨i, List.mem_range.2 hi, rfl⟩)
      omega
    simp only
    rw [← hbk]
    by_cases z : len = 0
    · subst z; exact ⟨[], rfl, .inl rfl, by simp, by simp⟩
    have hlm : len ≤ m := by rw [hmm]; split <;> omega
    obtain ⟨b, off, spot⟩ := ad
    have hs : spot = none := by
      obtain ⟨cs', h1, h2⟩ := hx 0 (by omega)
      simp only [reg_cells] at h1
      obtain ⟨_, hlen, hcell⟩ := World.cells?_some h1
      match cs', hlen with
      | [v0, v1], _ =>
        have e0 : w.cell? (((⟨b, off, spot⟩ : Addr).add (0 * 2)).add 0) = some v0 := hcell 0 (by simp)
        simpa [Addr.add] using World.cell?_spot e0
    subst hs
    have key : ∀ i, i < len → ∃ y : RI, (w.cell? ⟨b, off + i * 2, none⟩ = some (.int .u64 (y.f : Nat)) ∧ w.cell? ⟨b, off + i * 2 + 1, none⟩ = some (.slice y.a y.d.length y.c) ∧ RestA w y.a y.d) ∧ y.f < 18446744073709551616 ∧ y.d.length ≤ bk := by
      intro i hi
      obtain ⟨cs', h1, h2⟩ := hx i (by omega)
      simp only [reg_cells] at h1
      obtain ⟨_, hlen, hcell⟩ := World.cells?_some h1
      have hwi := hwd i hi
      obtain ⟨xs, k, hk, hxy, _, hxl, hf⟩ := DataW.trod_struct Tryz.underlying36 h2
      match xs, hxl, cs', hlen with
      | [y0, y1], _, [v0, v1], _ =>
        have g0 := hf 0 _ rfl
        have g1 := hf 1 _ rfl
        simp [u64_cells, row_cells] at g0 g1
        obtain ⟨A0, r0, _, f0⟩ := DataW.trod_int Tryz.underlying28 g0
        obtain ⟨la, ll, lc, r1⟩ : ∃ la ll lc, v1 = .slice la ll lc := by
          rcases open_ints Tryz.underlying29 Tryz.underlying5 byte_cells g1 with ⟨hcs, _⟩ | ⟨ad, len', cap', zs, hcs, _⟩
          · simp at hcs; exact ⟨_, _, _, hcs⟩
          · simp at hcs; exact ⟨_, _, _, hcs⟩
        have e0 := hcell 0 (by simp)
        have e1 := hcell 1 (by simp)
        simp at r0
        subst r0 r1
        simp only [add_plain] at e0 e1
        simp at e0 e1
        simp only [Prod.mk.injEq] at hxy
        rw [hxy.1] at hwi
        have hw1 : Rows.uptoBulk y1.1 ≤ bk := by
          simp only [List.map_cons, List.map_nil, Rows.uptoBulk, Rows.uptoBulkAll] at hwi
          omega
        obtain ⟨dl, hl1, hr, hb3⟩ := open_restU g1
        subst hl1
        have hA := u64_wf f0
        obtain ⟨A, rfl⟩ : ∃ A : Nat, A0 = (A : Int) := ⟨A0.toNat, by omega⟩
        exact ⟨⟨A, la, lc, dl⟩, ⟨by simpa using e0, e1, hr⟩, by show A < _; omega, by show dl.length ≤ _; omega⟩
    obtain ⟨L, hl1, hp⟩ := list_of _ len key
    refine ⟨L, hl1, .inr ⟨b, off, rfl, fun k x hx => (hp k x hx).1⟩, fun x hx => ?_, by omega⟩
    obtain ⟨k, hk, e⟩ := List.getElem_of_mem hx
    exact (hp k x (by rw [List.getElem?_eq_getElem hk, e])).2
theorem act_cells : Tryz.prog.cellsOf 31 = 6 := by kernel_rfl
theorem int_cells : Tryz.prog.cellsOf 3 = 1 := by kernel_rfl
theorem i64_wf {n : Int} (h : (Lit.int .i64 n).wf = true) : -9223372036854775808 ≤ n ∧ n < 9223372036854775808 := by
  simp [Lit.wf, IntKind.min, IntKind.max, IntKind.bits, IntKind.signed] at h; omega
theorem RestA.at {w : World} {a : Option Addr} {l : List UInt8} (h : RestA w a l) : RestAt w.heap.size w a l := by
  rcases h with h | ⟨⟨b, o, sp⟩, rfl, hc⟩
  · exact .inl h
  · cases hl : l with
    | nil => exact .inl rfl
    | cons x r =>
      have h0 := hc 0 (byV x) (by rw [hl]; rfl)
      have hs : sp = none := by simpa [Addr.add] using World.cell?_spot h0
      subst hs
      refine .inr ⟨b, o, ?_, rfl, fun k y hy => ?_⟩
      · by_cases hb : b < w.heap.size
        · exact hb
        · rw [add_B] at h0
          simp [World.cell?, Array.getElem?_eq_none (Nat.le_of_not_lt hb)] at h0
      · have h1 := hc k (byV y) (by rw [hl, List.getElem?_map, hy]; rfl)
        rw [add_B] at h1
        exact h1
set_option maxRecDepth 20000 in
theorem open_actsU {H : Type} {enc : TypeId × Value → H} {w : World} {base : Nat} {spare : Nat → Bool} {held : Bool} {fuel : Nat} {a : Option Addr} {len cap : Nat} {x : DataW H × List MemPlace}
    (h : DataW.trod enc Tryz.prog w base spare held fuel 23 [.slice a len cap] = some x) (hbk0 : Rows.uptoBulk x.1 ≤ 1048576) : ∃ A : List AcI, A.length = len ∧ AcR w a A ∧ (∀ z ∈ A, AcOk z) ∧ A.length ≤ Rows.uptoBulk x.1 := by
  rcases open_slice Tryz.underlying23 h with ⟨hcs, rfl⟩ | ⟨ad, l, c, m, n, D, Pl, hcs, hb, hl, hm, hmm, rfl, hx⟩
  · simp at hcs
    obtain ⟨rfl, rfl, rfl⟩ := hcs
    exact ⟨[], rfl, .inl rfl, by simp, Nat.zero_le _⟩
  · simp at hcs
    obtain ⟨rfl, rfl, rfl⟩ := hcs
    obtain ⟨bk, hbk⟩ : ∃ bk, bk = Rows.uptoBulk (DataW.slice ((List.range len).map D) ((List.range (m - len)).map fun i => D (len + i))) := ⟨_, rfl⟩
    have hb2 := hbk
    simp only [Rows.uptoBulk] at hb2
    have hwl : len ≤ bk := by
      have := bulk_len (H := H) ((List.range len).map D)
      simp only [List.length_map, List.length_range] at this
      omega
    have hwd : ∀ i, i < len → Rows.uptoBulk (D i) ≤ bk := fun i hi => by
      have := bulk_memR (l := (List.range len).map D) (List.mem_map.2 ⟨i, List.mem_range.2 hi, rfl⟩)
      omega
    simp only at hbk0 ⊢
    rw [← hbk] at hbk0 ⊢
    by_cases z : len = 0
    · subst z; exact ⟨[], rfl, .inl rfl, by simp, by simp⟩
    have hlm : len ≤ m := by rw [hmm]; split <;> omega
    obtain ⟨b, off, spot⟩ := ad
    have hs : spot = none := by
      obtain ⟨cs', h1, h2⟩ := hx 0 (by omega)
      simp only [act_cells] at h1
      obtain ⟨_, hlen, hcell⟩ := World.cells?_some h1
      match cs', hlen with
      | [v0, v1, v2, v3, v4, v5], _ =>
        have e0 : w.cell? (((⟨b, off, spot⟩ : Addr).add (0 * 6)).add 0) = some v0 := hcell 0 (by simp)
        simpa [Addr.add] using World.cell?_spot e0
    subst hs
    have key : ∀ i, i < len → ∃ z : AcI, ((w.cell? ⟨b, off + i * 6, none⟩ = some (.int .i64 z.which) ∧ w.cell? ⟨b, off + i * 6 + 1, none⟩ = some (.int .i64 z.kind) ∧ w.cell? ⟨b, off + i * 6 + 2, none⟩ = some (.int .u64 z.at_) ∧ w.cell? ⟨b, off + i * 6 + 3, none⟩ = some (.int .i64 z.N) ∧ w.cell? ⟨b, off + i * 6 + 4, none⟩ = some (.int .u64 z.x) ∧ w.cell? ⟨b, off + i * 6 + 5, none⟩ = some (.slice z.a z.d.length z.c)) ∧ RestAt w.heap.size w z.a z.d) ∧ AcOk z := by
      intro i hi
      obtain ⟨cs', h1, h2⟩ := hx i (by omega)
      simp only [act_cells] at h1
      obtain ⟨_, hlen, hcell⟩ := World.cells?_some h1
      have hwi := hwd i hi
      obtain ⟨xs, k, hk, hxy, _, hxl, hf⟩ := DataW.trod_struct Tryz.underlying31 h2
      match xs, hxl, cs', hlen with
      | [y0, y1, y2, y3, y4, y5], _, [v0, v1, v2, v3, v4, v5], _ =>
        have g0 := hf 0 _ rfl
        have g1 := hf 1 _ rfl
        have g2 := hf 2 _ rfl
        have g3 := hf 3 _ rfl
        have g4 := hf 4 _ rfl
        have g5 := hf 5 _ rfl
        simp [u64_cells, row_cells, int_cells] at g0 g1 g2 g3 g4 g5
        obtain ⟨A0, r0, _, f0⟩ := DataW.trod_int Tryz.underlying3 g0
        obtain ⟨A1, r1, _, f1⟩ := DataW.trod_int Tryz.underlying3 g1
        obtain ⟨A2, r2, _, f2⟩ := DataW.trod_int Tryz.underlying28 g2
        obtain ⟨A3, r3, _, f3⟩ := DataW.trod_int Tryz.underlying3 g3
        obtain ⟨A4, r4, _, f4⟩ := DataW.trod_int Tryz.underlying28 g4
        obtain ⟨la, ll, lc, r5⟩ : ∃ la ll lc, v5 = .slice la ll lc := by
          rcases open_ints Tryz.underlying29 Tryz.underlying5 byte_cells g5 with ⟨hcs, _⟩ | ⟨ad, len', cap', zs, hcs, _⟩
          · simp at hcs; exact ⟨_, _, _, hcs⟩
          · simp at hcs; exact ⟨_, _, _, hcs⟩
        have e0 := hcell 0 (by simp)
        have e1 := hcell 1 (by simp)
        have e2 := hcell 2 (by simp)
        have e3 := hcell 3 (by simp)
        have e4 := hcell 4 (by simp)
        have e5 := hcell 5 (by simp)
        simp at r0 r1 r2 r3 r4
        subst r0 r1 r2 r3 r4 r5
        simp only [add_plain] at e0 e1 e2 e3 e4 e5
        simp at e0 e1 e2 e3 e4 e5
        simp only [Prod.mk.injEq] at hxy
        rw [hxy.1] at hwi
        have hw1 : Rows.uptoBulk y5.1 ≤ bk := by
          simp only [List.map_cons, List.map_nil, Rows.uptoBulk, Rows.uptoBulkAll] at hwi
          omega
        obtain ⟨dl, hl1, hr, hb3⟩ := open_restU g5
        subst hl1
        have hA2 := u64_wf f2
        have hA4 := u64_wf f4
        have hA3 := i64_wf f3
        obtain ⟨A, rfl⟩ : ∃ A : Nat, A2 = (A : Int) := ⟨A2.toNat, by omega⟩
        obtain ⟨C, rfl⟩ : ∃ C : Nat, A4 = (C : Int) := ⟨A4.toNat, by omega⟩
        exact ⟨⟨A0, A1, A, A3, C, la, lc, dl⟩, ⟨⟨by simpa using e0, e1, e2, e3, e4, e5⟩, hr.at⟩, by show A < _; omega, hA3, by show C < _; omega, by show dl.length ≤ _; omega⟩
    obtain ⟨L, hl1, hp⟩ := list_of _ len key
    refine ⟨L, hl1, .inr ⟨b, off, rfl, fun k x hx => (hp k x hx).1⟩, fun x hx => ?_, by omega⟩
    obtain ⟨k, hk, e⟩ := List.getElem_of_mem hx
    exact (hp k x (by rw [List.getElem?_eq_getElem hk, e])).2
end Go.Proofs.YtekjfbmebekmeaaGreat
