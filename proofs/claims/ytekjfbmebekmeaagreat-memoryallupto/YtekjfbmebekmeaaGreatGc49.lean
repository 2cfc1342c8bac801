import Derived.Test.YtekjfbmebekmeaaGreatGc48
import Derived.Test.YtekjfbmebekmeaaGreatGc44
import Derived.Test.YtekjfbmebekmeaaGreatGc31
namespace Go.Proofs.YtekjfbmebekmeaaGreat
open Go.RowKit
set_option linter.unusedVariables false
set_option linter.unusedSimpArgs false
/-- an act as it came in -/
structure AcI where
  which : Int
  kind : Int
  at_ : Nat
  N : Int
  x : Nat
  a : Option Addr
  c : Nat
  d : List UInt8
def AcI.v (z : AcI) : Value := actV z.which z.kind z.at_ z.N z.x z.d.length z.c z.a
def AcOk (z : AcI) : Prop := z.at_ < 18446744073709551616 ∧ (-9223372036854775808 ≤ z.N ∧ z.N < 9223372036854775808) ∧ z.x < 18446744073709551616 ∧ z.d.length ≤ 60000000000000
/-- a desk, whose space may be nil: its blocks are among F -/
def DkA (B : Nat) (w : World) (d m : Nat) (F : Nat → Prop) : Prop := (∀ k, F k → B ≤ k ∧ k < w.heap.size) ∧ ((w.cell? ⟨d, 0, none⟩ = some (.pointer none) ∧ F d) ∨ ∃ t, DkW B w d t m ∧ ∀ k, t.fp d k → F k)
section
variable {B B0 m m' d n : Nat} {w w' : World} {S F : Nat → Prop}
theorem DkA.keep (h : DkA B w d m F) (c : Chg S w w') (hs : ∀ k, F k → ¬ S k) : DkA B w' d m F := by
  refine ⟨fun k hk => ⟨(h.1 k hk).1, Nat.lt_of_lt_of_le (h.1 k hk).2 c.size⟩, ?_⟩
  rcases h.2 with ⟨h1, h2⟩ | ⟨t, h1, h2⟩
  · exact .inl ⟨c.cell h1 (hs d h2), h2⟩
  · exact .inr ⟨t, ⟨h1.1.keep c (fun k hk => hs k (h2 k hk)), h1.2.1, h1.2.2⟩, h2⟩
theorem DkA.out (h : DkA B w d m F) (o : Out w w') : DkA B w' d m F := h.keep (Chg.of_out (S := fun _ => False) o) (fun _ _ h => h)
theorem DkA.mono (h : DkA B w d m F) (hm : m ≤ m') : DkA B w d m' F := by
  refine ⟨h.1, ?_⟩
  rcases h.2 with h1 | ⟨t, h1, h2⟩
  · exact .inl h1
  · exact .inr ⟨t, ⟨h1.1.mono hm, h1.2.1, h1.2.2⟩, h2⟩
theorem Sh.base {v : Value} {X : List Rw} (h : Sh B0 w v X) (hb : B ≤ B0) : Sh B w v X := ⟨own_base h.own hb, fun x hx => own_base (h.rows x hx) hb, h.ne, h.le, h.nd, h.vn⟩
theorem SpD.base {s : Nat} {v1 v2 : Value} {X Y : List Rw} (h : SpD B0 w s v1 v2 X Y m) (hb : B ≤ B0) : SpD B w s v1 v2 X Y m :=
  ⟨⟨h.sp.blk, Nat.le_trans hb h.sp.bs, h.sp.fil.base hb, h.sp.emp.base hb, h.sp.s1, h.sp.s2, h.sp.d12, h.sp.nX, h.sp.nY⟩, h.ok, h.lX, h.lY, fun z hz => own_base (h.da z hz) hb, h.dn, h.ds, h.le, h.nm⟩
/-- a desk that open gave -/
theorem OpenE.dkA {L : List RI} {e : Ending} (h : OpenE L n w e w') (hl : L.length = n) (hB : B ≤ w.heap.size) : ∃ d, e = .returned (.tuple #[.pointer (some ⟨d, 0, none⟩), .bool true]) ∧ Out w w' ∧ DkA B w' d n (fun k => w.heap.size ≤ k ∧ k < w'.heap.size) := by
  obtain ⟨d, he, ho, hc⟩ := h
  refine ⟨d, he, ho, fun k hk => ⟨Nat.le_trans hB hk.1, hk.2⟩, ?_⟩
  rcases hc with ⟨h1, ⟨cs, h2⟩, h3⟩ | ⟨B0, s, v1, v2, X, Y, a', c', R, h0, h1, hsp, hrl, hmr, hpm, hB0, hRb, hblk, hAd, hd0⟩
  · exact .inl ⟨h1, h3, (Array.getElem?_eq_some_iff.1 h2).1⟩
  · have hdl : d < w'.heap.size := (Array.getElem?_eq_some_iff.1 hblk).1
    refine .inr ⟨⟨s, v1, v2, X, Y, .slice a' n c', a', c', n, R, .slice none 0 0, 0⟩, ⟨⟨hblk, by omega, hsp.base (by omega), hrl.base hB, ?_, .inl rfl, fun k hk hk2 => ?_, fun k hk hk2 => ?_, fun k hk hk2 => ?_⟩, rfl, ?_⟩, fun k hk => ?_⟩
    · have := congrArg List.length hmr
      simpa [hl] using this
    · have h7 := (hsp.ltA hk).1
      have h8 := hRb k hk2
      omega
    · have h7 := hAd k hk
      rcases hk2 with e | e
      · omega
      · cases e
    · have h8 := hRb k hk
      rcases hk2 with e | e
      · omega
      · cases e
    · show (R.map fdR).Perm _
      rw [hmr]; exact hpm.symm
    · rcases hk with hk | hk | hk | hk
      · have h7 := hsp.ltA hk
        exact ⟨by omega, h7.2⟩
      · exact hrl.lt hk
      · subst hk; exact ⟨by omega, hdl⟩
      · cases hk
/-- an act at any desk -/
theorem actA_any (h : DkA B w d m F) (hm : m + 1 ≤ 1000000000) (z : AcI) (hz : AcOk z) (hr : RestAt B w z.a z.d) :
    Calls Tryz.prog 8 #[.pointer (some ⟨d, 0, none⟩), z.v] w fun e w' => ∃ u v F', e = .returned (.tuple #[.bool true, u, v]) ∧ DkA B w' d (m + 1) F' ∧ Chg F w w' ∧ ∀ k, F' k → F k ∨ w.heap.size ≤ k := by
  obtain ⟨which, kind, at_, N, x, da, dc, l⟩ := z
  obtain ⟨ha, hN, hx, hl⟩ := hz
  simp only at ha hN hx hl hr
  rcases h.2 with ⟨h1, h2⟩ | ⟨t, h1, h2⟩
  · refine (actN_any w d h1 kind which at_ N x l.length dc da ha hN hx).mono ?_
    rintro e w' ⟨u, v, he, ho⟩
    exact ⟨u, v, F, he, (h.out ho).mono (Nat.le_succ m), Chg.of_out ho, fun k hk => .inl hk⟩
  · have key : Calls Tryz.prog 8 #[.pointer (some ⟨d, 0, none⟩), actV which kind at_ N x l.length dc da] w fun e w' => ActE B d m t w e w' := by
      by_cases hk : 1 ≤ kind ∧ kind ≤ 7
      · obtain rfl | rfl | rfl | rfl | rfl | rfl | rfl : kind = 1 ∨ kind = 2 ∨ kind = 3 ∨ kind = 4 ∨ kind = 5 ∨ kind = 6 ∨ kind = 7 := by omega
        · exact act1_any B m d w t h1 hm which at_ N x dc da ha hN hx l hr hl
        · exact act2_any B m d w t h1 hm which at_ N x l.length dc da ha hN hx
        · exact act3_any B m d w t h1 hm which at_ N x l.length dc da ha hN hx
        · exact act4_any B m d w t h1 hm which at_ N x l.length dc da ha hN hx
        · exact act5_any B m d w t h1 hm which at_ N x l.length dc da ha hN hx
        · exact act6_any B m d w t h1 hm which at_ N x dc da ha hN hx l hr hl
        · exact act7_any B m d w t h1 hm which at_ N x l.length dc da ha hN hx
      · exact actO_any B m d w t h1 hm kind hk which at_ N x l.length dc da ha hN hx
    refine key.mono ?_
    rintro e w' ⟨u, v, t', he, dr, hcv, hpm⟩
    have hsz := dr.chg.size
    refine ⟨u, v, fun k => F k ∨ (w.heap.size ≤ k ∧ k < w'.heap.size), he, ⟨fun k hk => ?_, .inr ⟨t', ⟨dr.dk, hcv, hpm⟩, fun k hk => ?_⟩⟩, dr.chg.mono (fun k hk _ => h2 k hk), fun k hk => hk.imp id (fun e => e.1)⟩
    · rcases hk with hk | hk
      · have := h.1 k hk; omega
      · have := h1.1.sz; omega
    · rcases dr.new k hk with e | e
      · exact .inl (h2 k e)
      · exact .inr ⟨e, (dr.dk.lt hk).2⟩
end
/-- what a nil space answers -/
theorem nils_any (w : World) : Calls Tryz.prog 7 #[] w fun e w' => e = .returned (.bool true) ∧ Out w w' := by
  obtain ⟨d, hd⟩ : ∃ d, Hid (d = w.heap.size) := ⟨_, rfl⟩
  obtain ⟨w0, H0, b0, o0⟩ : ∃ w0, Hid (w0 = w.alloc (.cells #[.pointer none, .slice none 0 0, .slice none 0 0, .int .i64 0] 61)) ∧ w0.heap[d]? = some (.cells #[.pointer none, .slice none 0 0, .slice none 0 0, .int .i64 0] 61 (0, 0)) ∧ Out w w0 := ⟨_, rfl, by rw [hd.out]; exact heap_alloc_new w _, (Out.refl w).alloc _⟩
  have C0 : Hid (w0.cell? ⟨d, 0, none⟩ = some (.pointer none)) := hidOf ((cell_B b0 0).trans rfl)
  have O0 := hidOf o0
  have NOC : Hid (∀ (W : World) (k : Int), 1 ≤ k → k ≤ 7 → W.cell? ⟨d, 0, none⟩ = some (.pointer none) → Calls Tryz.prog 19 #[.pointer (some ⟨d, 0, none⟩), .agg #[.int .i64 0, .int .i64 k, .int .u64 0, .int .i64 0, .int .u64 0, .slice none 0 0]] W fun e w' => e = .returned (.bool true) ∧ Out W w') := hidOf (fun W k h1 h2 h => nothingK_any W d h 0 k 0 0 0 0 0 none (by decide) ⟨h1, h2⟩)
  clear b0 o0
  go_enter Tryz.func7, Tryz.ntmps7
  go_upto_region 2 with fail
  rw [← hd.out]
  rw [← H0.out]
  go_wp2
  go_loopw [2] (fun kv wr => ∃ k : Nat, kv = .int .i64 k ∧ 1 ≤ k ∧ k ≤ 8 ∧ Hid (Out w0 wr)) (fun kv _ => 8 - (intOf kv).toNat)
  case atStart => exact ⟨1, rfl, by omega, by omega, hidOf (Out.refl _)⟩
  case round =>
    obtain ⟨k, rfl, hk1, hk8, OR⟩ := hrel
    by_cases hlt : k ≤ 7
    · have hltI : (k : Int) ≤ 7 := by omega
      have NC := hidOf (NOC.out wr k (by omega) hltI (cell_later OR.out C0.out))
      go_wp2_with (go_at_call 19; refine NC.out.mono ?_; rintro e w1 ⟨rfl, ho1⟩; have O1 := hidOf (OR.out.trans ho1); clear ho1)
      go_roundw
      case rel => exact ⟨k + 1, by simp, by omega, by omega, O1⟩
      case measure => simp [intOf]; omega
    · have hltI : ¬ (k : Int) ≤ 7 := by omega
      go_wp2
      go_ret
      exact ⟨rfl, O0.out.trans OR.out⟩
end Go.Proofs.YtekjfbmebekmeaaGreat
namespace Go.Proofs.YtekjfbmebekmeaaGreat
open Go.RowKit
set_option linter.unusedVariables false
set_option linter.unusedSimpArgs false
def csI2 (x : RI) : List Value := [.int .u64 (x.f : Nat), .slice x.a x.d.length x.c]
def rowI2 (L : List RI) : List Value := L.flatMap csI2
theorem rowI2_get {L : List RI} {i : Nat} {x : RI} (h : L[i]? = some x) : (rowI2 L)[i * 2]? = some (.int .u64 (x.f : Nat)) ∧ (rowI2 L)[i * 2 + 1]? = some (.slice x.a x.d.length x.c) := by
  induction L generalizing i with
  | nil => simp at h
  | cons y r ih =>
    have e : rowI2 (y :: r) = csI2 y ++ rowI2 r := rfl
    rw [e]
    cases i with
    | zero => simp at h; subst h; exact ⟨rfl, rfl⟩
    | succ i =>
      have h2 : r[i]? = some x := by simpa using h
      obtain ⟨h3, h4⟩ := ih h2
      refine ⟨?_, ?_⟩
      · rw [List.getElem?_append_right (by simp [csI2]; omega), show (i + 1) * 2 - (csI2 y).length = i * 2 by simp [csI2]; omega]; exact h3
      · rw [List.getElem?_append_right (by simp [csI2]; omega), show (i + 1) * 2 + 1 - (csI2 y).length = i * 2 + 1 by simp [csI2]; omega]; exact h4
/-- a region one further on -/
def bump (x : RI) : RI := ⟨(x.f + 1) % 18446744073709551616, x.a, x.c, x.d⟩
theorem inR_bump {w w' : World} {B n c : Nat} {a oa : Option Addr} {L : List RI} (h : InR w a L) (o : Out w w') (ho : w'.ownsRow B 36 2 (.slice oa n c) n (rowI2 (L.map bump))) (hl : L.length = n) : InR w' oa (L.map bump) := by
  by_cases h0 : L = []
  · exact .inl (by rw [h0]; rfl)
  obtain ⟨g, cc, e, _, _⟩ := ho.form (by have := List.length_pos_iff.2 h0; omega)
  simp only [Value.slice.injEq] at e
  obtain ⟨rfl, _, rfl⟩ := e
  refine .inr ⟨g, 0, rfl, fun i y hy => ?_⟩
  obtain ⟨q0, q1⟩ := rowI2_get hy
  refine ⟨by rw [Nat.zero_add]; exact (own_cellK ho q0).1, by rw [Nat.zero_add]; exact (own_cellK ho q1).1, ?_⟩
  rw [List.getElem?_map] at hy
  cases hx : L[i]? with
  | none => rw [hx] at hy; cases hy
  | some x =>
    rw [hx] at hy
    cases hy
    obtain ⟨g2, o2, _, hcs⟩ := h.resolve_left h0
    exact (hcs i x hx).2.2.out o
set_option maxHeartbeats 8000000 in
set_option maxRecDepth 100000 in
theorem memoryOpens_walk (w : World) (a : Option Addr) (c : Nat) (L : List RI) (h : InR w a L) (hL : ∀ x ∈ L, x.f < 18446744073709551616 ∧ x.d.length ≤ 1000000000) (hn : L.length ≤ 1000000000) :
    Calls Tryz.prog 4 #[.slice a L.length c] w fun e w' => e = .returned (.bool true) ∧ Out w w' := by
  obtain ⟨i0, hi0, hz0, hz1, hz2⟩ := info_parts infoR
  have OC2 : Hid (∀ W, Out w W → Calls Tryz.prog 6 #[.slice a L.length c] W fun e w' => OpenE L L.length W e w') := hidOf (fun W o => open_any W a c L (h.out o) hL hn)
  obtain ⟨n, hN⟩ : ∃ n, Hid (n = L.length) := ⟨_, rfl⟩
  rw [← hN.out] at hn OC2 ⊢
  have OC1 : Hid (∀ (W : World) (B cc : Nat) (oa : Option Addr), Out w W → W.ownsRow B 36 2 (.slice oa n cc) n (rowI2 (L.map bump)) → Calls Tryz.prog 6 #[.slice oa n cc] W fun e w' => OpenE (L.map bump) n W e w') := hidOf (fun W B cc oa o ho => by
    have h9 := open_any W oa cc (L.map bump) (inR_bump h o ho hN.out.symm) (fun y hy => by
      obtain ⟨x, hx, rfl⟩ := List.mem_map.1 hy
      exact ⟨Nat.mod_lt _ (by decide), (hL x hx).2⟩) (by rw [List.length_map, ← hN.out]; exact hn)
    rw [List.length_map, ← hN.out] at h9
    exact h9)
  have HI := hidOf h
  have HL := hidOf hL
  have HNN := hidOf hn
  clear h hL
  go_enter Tryz.func4, Tryz.ntmps4
  go_wp2
  go_loopw [3, 4] (fun ov iv wr => ∃ (k : Nat) (oa : Option Addr) (oc : Nat), ov = .slice oa k oc ∧ iv = .int .i64 (k : Nat) ∧ k ≤ n ∧ Hid (wr.ownsRow w.heap.size 36 2 (.slice oa k oc) k (rowI2 ((L.take k).map bump))) ∧ Hid (Out w wr)) (fun _ iv _ => n - (intOf iv).toNat)
  case atStart => exact ⟨0, none, 0, rfl, rfl, Nat.zero_le _, hidOf (World.ownsRow_nil _ _ _ _), hidOf (Out.refl _)⟩
  case round =>
    obtain ⟨k, oa, oc, rfl, rfl, hk, OWN, OR⟩ := hrel
    by_cases hkn : k < n
    · have hlt : (k : Int) < n := by omega
      obtain ⟨x, hx⟩ : ∃ x, L[k]? = some x := ⟨_, List.getElem?_eq_getElem (by rw [← hN.out]; exact hkn)⟩
      obtain ⟨g, o, rfl, hcs⟩ : ∃ g o, a = some ⟨g, o, none⟩ ∧ _ := HI.out.resolve_left (fun e => by rw [e] at hx; simp at hx)
      obtain ⟨q0, q1, q2⟩ := hcs k x hx
      have hxm := HL.out _ (List.mem_of_getElem? hx)
      have HX := hidOf hx
      obtain ⟨xf, hxf⟩ : ∃ xf, Hid (xf = x.f) := ⟨_, rfl⟩
      obtain ⟨xn, hxn⟩ : ∃ xn, Hid (xn = x.d.length) := ⟨_, rfl⟩
      obtain ⟨xa, hxa⟩ : ∃ xa, Hid (xa = x.a) := ⟨_, rfl⟩
      obtain ⟨xc, hxc⟩ : ∃ xc, Hid (xc = x.c) := ⟨_, rfl⟩
      rw [← hxf.out] at q0 hxm
      rw [← hxn.out, ← hxa.out, ← hxc.out] at q1
      have Q0 := hidOf q0
      have Q1 := hidOf q1
      have p0 : wr.drew.cell? ⟨g, o + k * 2, none⟩ = some (.int .u64 xf) := cell_later OR.out q0
      have p1 : wr.drew.cell? ⟨g, o + k * 2 + 1, none⟩ = some (.slice xa xn xc) := cell_later OR.out q1
      obtain ⟨yf, hyf⟩ : ∃ yf, Hid (yf = (xf + 1) % 18446744073709551616) := ⟨_, rfl⟩
      have hw1 : IntKind.u64.wrap ((xf : Int) + 1) = (yf : Int) := by have := hyf.out; rw [IntKind.wrap_u64]; omega
      obtain ⟨wC, HC, u0, u1, oC, sC⟩ := box_two wr.drew (.int .u64 (yf : Nat)) (.slice xa xn xc) 36
      have HC2 : Hid (((wr.alloc (.cells #[.int .u64 (yf : Nat), .slice xa xn xc] 36)).drew) = wC) := hidOf (by rw [HC.out]; rfl)
      have oRC : Out wr wC := ((Out.refl wr).drew).trans oC
      obtain ⟨v2, w4, hap, hown2, hgr2, _, _⟩ := run_append_own_at (P := Tryz.prog) (ty := 22) wC w.heap.size 22 36 i0 _ 2 32 Tryz.underlying22 hi0 hz0 hz1 hz2 rfl (by decide) (.slice oa k oc) k (rowI2 ((L.take k).map bump)) (own_out OWN.out oRC) ⟨wr.heap.size, 0, none⟩ 1 1 [.int .u64 (yf : Nat), .slice xa xn xc] rfl (fun j u hj => by rw [add_B, Nat.zero_add]; match j, hj with | 0, hj => cases hj; exact u0 | 1, hj => cases hj; exact u1) (by intro u hu; simp at hu; rcases hu with rfl | rfl <;> rfl) (by have := HNN.out; simp only [maxLen]; omega) (by have := HNN.out; omega) (OR.out.trans oRC).size
      obtain ⟨a2, c2, rfl, _, _⟩ := own_slice hown2
      have hc2 : Chg (fun b => (Value.slice oa k oc).ownBlock = some b) wC w4 := Chg.of_grown hgr2 (fun q hq => hq)
      have O4 : Hid (Out w w4) := hidOf (Chg.out hc2 (OR.out.trans oRC) (fun b hb => ((own_out OWN.out oRC).lt b hb).1))
      have OWN4 : Hid (w4.ownsRow w.heap.size 36 2 (.slice a2 (k + 1 : Nat) c2) (k + 1) (rowI2 ((L.take (k + 1)).map bump))) := hidOf (by
        have e : rowI2 ((L.take (k + 1)).map bump) = rowI2 ((L.take k).map bump) ++ [.int .u64 (yf : Nat), .slice xa xn xc] := by
          rw [List.take_add_one, HX.out, List.map_append]
          simp only [rowI2, List.flatMap_append, Option.toList, List.map_cons, List.map_nil, List.flatMap_cons, List.flatMap_nil, List.append_nil, csI2, bump]
          rw [← hxf.out, ← hyf.out, ← hxn.out, ← hxa.out, ← hxc.out]
        rw [e]; exact hown2)
      have HAP := hidOf hap
      have s0 := cell_later oC p0
      have s1 := cell_later oC p1
      have t0 : w4.cell? ⟨g, o + k * 2, none⟩ = some (.int .u64 xf) := cell_later O4.out Q0.out
      have t1 : w4.cell? ⟨g, o + k * 2 + 1, none⟩ = some (.slice xa xn xc) := cell_later O4.out Q1.out
      clear hcs q0 q1 q2 hx hxm u0 u1 oC sC oRC hap hown2 hgr2 hc2
      go_upto_region 5 with fail
      refine wp_region_held_drew (S := (fun w' => w'.cell? ⟨g, o + k * 2, none⟩ = some (.int .u64 xf) ∧ w'.cell? ⟨g, o + k * 2 + 1, none⟩ = some (.slice xa xn xc))) (by kernel_rfl) ?_ (fun hHeld => ?_)
      · exact ⟨p0, p1⟩
      refine wpAnyH_take (i := 0) (v := ?_) rfl (by kernel_rfl) (by kernel_rfl) (by kernel_rfl) (fun _ _ _ h => h) (Or.inl ⟨by rfl, ?_⟩) (by assumption) ?_
      rotate_left
      · (intro w hSw; (try dsimp only at hSw); go_simp; (try with_reducible rfl))
      show wpAnyH _ _ _ _ _ _ _ (Act.put _ (some 18) _) _
      simp only [Act.put, List.setIfInBounds_toArray, List.set_cons_zero, List.set_cons_succ]
      refine wpAnyH_take (i := 1) (v := ?_) rfl (by kernel_rfl) (by kernel_rfl) (by kernel_rfl) (fun _ _ _ h => h) (Or.inl ⟨by rfl, ?_⟩) (by assumption) ?_
      rotate_left
      · (intro w hSw; (try dsimp only at hSw); go_simp; (try with_reducible rfl))
      show wpAnyH _ _ _ _ _ _ _ (Act.put _ (some 19) _) _
      simp only [Act.put, List.setIfInBounds_toArray, List.set_cons_zero, List.set_cons_succ]
      refine wpAnyH_take (i := 2) (v := ?_) rfl (by kernel_rfl) (by kernel_rfl) (by kernel_rfl) (fun _ _ _ h => h) (Or.inl ⟨by rfl, ?_⟩) (by assumption) ?_
      rotate_left
      · (intro w hSw; (try dsimp only at hSw); go_simp; (try with_reducible rfl))
      show wpAnyH _ _ _ _ _ _ _ (Act.put _ (some 20) _) _
      simp only [Act.put, List.setIfInBounds_toArray, List.set_cons_zero, List.set_cons_succ]
      refine wpAnyH_take (i := 3) (v := ?_) rfl (by kernel_rfl) (by kernel_rfl) (by kernel_rfl) (fun _ _ _ h => h) (Or.inl ⟨by rfl, ?_⟩) (by assumption) ?_
      rotate_left
      · (intro w hSw; (try dsimp only at hSw); go_simp; (try with_reducible rfl))
      show wpAnyH _ _ _ _ _ _ _ (Act.put _ (some 21) _) _
      simp only [Act.put, List.setIfInBounds_toArray, List.set_cons_zero, List.set_cons_succ]
      refine wpAnyH_take (i := 4) (v := ?_) rfl (by kernel_rfl) (by kernel_rfl) (by kernel_rfl) (fun _ _ _ h => h) (Or.inl ⟨by rfl, ?_⟩) (by assumption) ?_
      rotate_left
      · (intro w hSw; (try dsimp only at hSw); go_simp; (try with_reducible rfl))
      show wpAnyH _ _ _ _ _ _ _ (Act.put _ (some 22) _) _
      simp only [Act.put, List.setIfInBounds_toArray, List.set_cons_zero, List.set_cons_succ]
      refine wpAnyH_take (i := 5) (v := ?_) rfl (by kernel_rfl) (by kernel_rfl) (by kernel_rfl) (fun _ _ _ h => h) (Or.inl ⟨by rfl, ?_⟩) (by assumption) ?_
      rotate_left
      · (intro w hSw; (try dsimp only at hSw); go_simp; (try with_reducible rfl))
      show wpAnyH _ _ _ _ _ _ _ (Act.put _ (some 23) _) _
      simp only [Act.put, List.setIfInBounds_toArray, List.set_cons_zero, List.set_cons_succ]
      refine wpAnyH_take (i := 6) (v := ?_) rfl (by kernel_rfl) (by kernel_rfl) (by kernel_rfl) (fun _ _ _ h => h) (Or.inl ⟨by rfl, ?_⟩) (by assumption) ?_
      rotate_left
      · (intro w hSw; (try dsimp only at hSw); go_simp; (try with_reducible rfl))
      show wpAnyH _ _ _ _ _ _ _ (Act.put _ (some 24) _) _
      simp only [Act.put, List.setIfInBounds_toArray, List.set_cons_zero, List.set_cons_succ]
      refine wpAnyH_take (i := 7) (v := ?_) rfl (by kernel_rfl) (by kernel_rfl) (by kernel_rfl) (fun _ _ _ h => h) (Or.inl ⟨by rfl, ?_⟩) (by assumption) ?_
      rotate_left
      · (intro w hSw; (try dsimp only at hSw); go_simp; (try with_reducible rfl))
      show wpAnyH _ _ _ _ _ _ _ (Act.put _ (some 25) _) _
      simp only [Act.put, List.setIfInBounds_toArray, List.set_cons_zero, List.set_cons_succ]
      refine wpAnyH_take (i := 8) (v := ?_) rfl (by kernel_rfl) (by kernel_rfl) (by kernel_rfl) (fun _ _ _ h => h) (Or.inl ⟨by rfl, ?_⟩) (by assumption) ?_
      rotate_left
      · (intro w hSw; (try dsimp only at hSw); go_simp; (try with_reducible rfl))
      show wpAnyH _ _ _ _ _ _ _ (Act.put _ (some 26) _) _
      simp only [Act.put, List.setIfInBounds_toArray, List.set_cons_zero, List.set_cons_succ]
      refine wpAnyH_take (i := 9) (v := ?_) rfl (by kernel_rfl) (by kernel_rfl) (by kernel_rfl) (fun _ _ _ h => h) (Or.inl ⟨by rfl, ?_⟩) (by assumption) ?_
      rotate_left
      · (intro w hSw; (try dsimp only at hSw); go_simp; (try with_reducible rfl))
      show wpAnyH _ _ _ _ _ _ _ (Act.put _ (some 27) _) _
      simp only [Act.put, List.setIfInBounds_toArray, List.set_cons_zero, List.set_cons_succ]
      refine wpAnyH_take (i := 10) (v := ?_) rfl (by kernel_rfl) (by kernel_rfl) (by kernel_rfl) (fun _ _ _ h => h) (Or.inl ⟨by rfl, ?_⟩) (by assumption) ?_
      rotate_left
      · (intro w hSw; (try dsimp only at hSw); go_simp; (try with_reducible rfl))
      show wpAnyH _ _ _ _ _ _ _ (Act.put _ (some 28) _) _
      simp only [Act.put, List.setIfInBounds_toArray, List.set_cons_zero, List.set_cons_succ]
      refine wpAnyH_take (i := 11) (v := ?_) rfl (by kernel_rfl) (by kernel_rfl) (by kernel_rfl) (fun _ _ _ h => h) (Or.inl ⟨by rfl, ?_⟩) (by assumption) ?_
      rotate_left
      · (intro w hSw; (try dsimp only at hSw); go_simp; (try with_reducible rfl))
      show wpAnyH _ _ _ _ _ _ _ (Act.put _ (some 29) _) _
      simp only [Act.put, List.setIfInBounds_toArray, List.set_cons_zero, List.set_cons_succ]
      refine wpAnyH_take (i := 12) (v := ?_) rfl (by kernel_rfl) (by kernel_rfl) (by kernel_rfl) (fun _ _ _ h => h) (Or.inl ⟨by rfl, ?_⟩) (by assumption) ?_
      rotate_left
      · (intro w hSw; (try dsimp only at hSw); go_simp; (try with_reducible rfl))
      show wpAnyH _ _ _ _ _ _ _ (Act.put _ (some 30) _) _
      simp only [Act.put, List.setIfInBounds_toArray, List.set_cons_zero, List.set_cons_succ]
      refine wpAnyH_ready (rs := [13]) (by kernel_rfl) (by simp) ?_
      refine (AllReadyH.cons rfl (fun Ko13 hKo13 => ?_) AllReadyH.nil)
      rw [if_pos (by rfl)]
      go_simp
      first | rw [HC2.out] | rw [← HC.out]
      refine hKo13.out _ _ ⟨s0, s1⟩ (fun hHeld13 => ?_)
      try simp only [Act.put, List.setIfInBounds_toArray, List.set_cons_zero, List.set_cons_succ]
      refine wpAnyH_ready (rs := [14]) (by kernel_rfl) (by simp) ?_
      refine (AllReadyH.cons rfl (fun Ko14 hKo14 => ?_) AllReadyH.nil)
      rw [if_pos (by rfl)]
      refine Lib.wp_append_run _ (.tmp 18) (.tmp 31) 22 22 rfl _ _ (by simp [Act.eval, Act.put]) (by simp [Act.eval, Act.put]) _ _ HAP.out ?_
      refine hKo14.out _ _ ⟨t0, t1⟩ (fun hHeld14 => ?_)
      try simp only [Act.put, List.setIfInBounds_toArray, List.set_cons_zero, List.set_cons_succ]
      refine wpAnyH_take (i := 15) (v := ?_) rfl (by kernel_rfl) (by kernel_rfl) (by kernel_rfl) (fun _ _ _ h => h) (Or.inl ⟨by rfl, ?_⟩) (by assumption) ?_
      rotate_left
      · (intro w hSw; (try dsimp only at hSw); go_simp; (try with_reducible rfl))
      show wpAnyH _ _ _ _ _ _ _ (Act.put _ (some 3) _) _
      simp only [Act.put, List.setIfInBounds_toArray, List.set_cons_zero, List.set_cons_succ]
      refine wpAnyH_done (by kernel_rfl) ?_ _
      clear p0 p1 s0 s1 t0 t1
      go_wp2
      go_roundw
      case rel => exact ⟨k + 1, a2, c2, by first | rfl | simp, by simp, by omega, OWN4, O4⟩
      case measure => simp [intOf]; omega
    · have hlt : ¬ (k : Int) < n := by omega
      obtain rfl : k = n := by omega
      have ht : L.take k = L := List.take_of_length_le (by rw [← hN.out]; exact Nat.le_refl _)
      have C1 := hidOf (OC1.out wr w.heap.size oc oa OR.out (by have h9 := OWN.out; rw [ht] at h9; exact h9))
      clear ht
      go_upto_region 7 with (go_at_call 6; refine C1.out.mono ?_; rintro e w1 ⟨d1, rfl, ho1, hd1⟩; have O1 := hidOf (OR.out.trans ho1); clear ho1 hd1)
      have C2 := hidOf (OC2.out w1 O1.out)
      go_upto_region 8 with (go_at_call 6; refine C2.out.mono ?_; rintro e w2 ⟨d2, rfl, ho2, hd2⟩; have O2 := hidOf (O1.out.trans ho2); have D2 : Hid (DeskO L k w1.heap.size w2 d2) := hidOf hd2; clear ho2 hd2)
      have AC := hidOf (act_any w2 L k w1.heap.size d2 D2.out HL.out hn hN.out.symm)
      unfold actR at AC
      have AW := hidOf (fun W => awake_any W)
      go_upto_region 11 with (go_at_call 8; refine AC.out.mono ?_; rintro e w3 ⟨v, rfl, ho3⟩; have O3 := hidOf (O2.out.trans ho3); clear ho3)
      go_wp2_with (go_at_call 9; refine (AW.out _).mono ?_; rintro e w4 ⟨rfl, ho4⟩; have O4 := hidOf (O3.out.trans ho4); clear ho4)
      go_ret
      exact ⟨rfl, O4.out⟩
end Go.Proofs.YtekjfbmebekmeaaGreat
