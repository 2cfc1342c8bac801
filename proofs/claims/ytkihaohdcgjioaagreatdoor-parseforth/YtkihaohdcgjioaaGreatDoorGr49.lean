import Derived.Test.YtkihaohdcgjioaaGreatDoorGr47
import Derived.Test.YtkihaohdcgjioaaGreatDoorGr48
import Derived.Laws.AppendOwnNone
namespace Go.Proofs.YtkihaohdcgjioaaGreatDoor
open Go.RowKit
set_option linter.unusedVariables false
set_option linter.unusedSimpArgs false
theorem ln_pl {x : Stm} (h6 : ¬ (x.k = 6 ∧ x.nm = [] ∧ x.ws = [] ∧ x.ns = [])) (h5 : ¬ x.k = 5) : lnA x = lnPl x x.ws.length x.ns.length := by
  unfold lnA lnPl
  rw [if_neg h6, if_neg h5]
theorem lineOf_any (x : Stm) (aw an : Option Addr) (cw cn : Nat) (w : World) (hE : AEnv w) (hx : x.nm.length ≤ 140737488355328) (ht : x.tg.length ≤ 140737488355328) (hf : I64 x.f) (hi : I64 x.i) (hW : RowC w aw (strsC x.ws)) (hN : RowC w an (intsC x.ns)) : Calls Tryz.prog 30 #[.agg #[.int .i64 x.k, .string ⟨x.nm.toArray⟩, .slice aw x.ws.length cw, .slice an x.ns.length cn, .int .i64 x.o, .int .i64 x.d, .int .i64 x.s, .int .i64 x.f, .int .i64 x.i, .string ⟨x.tg.toArray⟩, .int .i64 x.l]] w fun e w' => e = .returned (.tuple #[.string ⟨(lnA x).1.toArray⟩, .int .i64 (lnA x).2]) ∧ Out w w' := by
  have hpw : Lx.Pow w := hE.2
  by_cases h6 : x.k = 6
  · by_cases hn : x.nm = []
    · cases hl : (decide (0 < x.ws.length) || decide (0 < x.ns.length)) with
      | false =>
        have hl2 : x.ws = [] ∧ x.ns = [] := by
          rw [Bool.or_eq_false_iff] at hl
          simp only [decide_eq_false_iff_not, Nat.not_lt, Nat.le_zero, List.length_eq_zero_iff] at hl
          exact hl
        have e : lnA x = printP x.o x.d x.s x.f x.i x.tg := by unfold lnA; rw [if_pos ⟨h6, hn, hl2.1, hl2.2⟩]
        rw [e, h6, hn]
        exact lineOf_insn x aw an x.ws.length cw x.ns.length cn w hE hl ht hf hi
      | true =>
        have h6' : ¬ (x.k = 6 ∧ x.nm = [] ∧ x.ws = [] ∧ x.ns = []) := fun h => by
          rw [h.2.2.1, h.2.2.2] at hl
          revert hl
          decide
        have hnm : isNmP x.nm = false := by rw [hn]; decide
        have e : lnA x = ([], 60) := by
          rw [ln_pl h6' (by omega)]
          unfold lnPl
          by_cases hz : (!insZ x || !x.tg.isEmpty) = true
          · rw [if_pos hz]
          · rw [if_neg hz, if_pos hnm]
        rw [e, h6, hn]
        exact lineOf_lists x aw an x.ws.length cw x.ns.length cn w hpw hl
    · rw [ln_pl (fun h => hn h.2.1) (by omega)]
      exact lineOf_named x aw an x.ws.length cw x.ns.length cn w hpw hx (by omega) h6 hn
  · by_cases h5 : x.k = 5
    · have e : lnA x = if (!insZ x || !x.tg.isEmpty) = true then ([], 60) else if isNmP x.nm = false then ([], 60) else tbLn x := by
        unfold lnA
        rw [if_neg (fun h => h6 h.1), if_pos h5]
      rw [e]
      exact lineOf_table x aw an x.ws.length cw x.ns.length cn w hpw hx h5 (tbLn x) (fun hm wx o => tableLine_any x aw an cw cn wx (hpw.out o) (by have := Lx.word_len (nm_word hm); omega) (hW.out o) (hN.out o))
    · rw [ln_pl (fun h => h6 h.1) h5]
      exact lineOf_plain x aw an x.ws.length cw x.ns.length cn w hpw hx h5 h6
theorem ln_len {x : Stm} (hi : I64 x.i) (h : (lnA x).2 = 0) : (lnA x).1.length ≤ 1999 := by
  have hb := back_ln hi h
  have := hb.ok
  unfold Lx.lineP at this
  by_cases hl : (lnA x).1.length ≤ 1024
  · omega
  · rw [if_neg hl] at this
    simp at this
set_option maxRecDepth 20000 in
set_option maxHeartbeats 1000000 in
theorem print6_nil (w : World) : Calls Tryz.prog 12 #[.slice none 0 0] w fun e w' => e = .returned (.tuple #[.string ⟨#[]⟩, .int .i64 0]) ∧ Out w w' := by
  obtain ⟨N, hNN⟩ : ∃ N, N = w.heap.size := ⟨_, rfl⟩
  obtain ⟨w1, hw1⟩ : ∃ w1, w1 = w.alloc (.cells #[.pointer none, .slice none 0 0, .int .i64 0] 79) := ⟨_, rfl⟩
  have b1 : w1.heap[N]? = some (.cells #[.pointer none, .slice none 0 0, .int .i64 0] 79 (0, 0)) := by rw [hw1, hNN]; exact heap_alloc_new w _
  have H1 : Hid (Lx.Pw.Wr N N w1 [] 0 0 (.pointer none) (.slice none 0 0)) := hidOf ⟨Nat.le_refl _, b1, .inl rfl, World.ownsRow_nil _ _ _ _, fun k hk => by simp [Value.ownBlock] at hk, fun _ => rfl⟩
  have B1 : Hid (Below N w w1) := hidOf (by rw [hw1, hNN]; exact (Out.refl w).alloc _)
  have Hw1 := hidOf hw1
  have HNN := hidOf hNN
  clear hNN hw1 b1
  go_enter Tryz.func12, Tryz.ntmps12
  go_upto_region 2 with fail
  rw [← Hw1.out, ← HNN.out]
  go_upto_region 3 with fail
  go_loopw [11] (fun i wr => i = .int .i64 0 ∧ Hid (Lx.Pw.Wr N N wr [] 0 0 (.pointer none) (.slice none 0 0)) ∧ Hid (Below N w wr)) (fun i _ => 0)
  case atStart => exact ⟨rfl, H1, B1⟩
  case round =>
    obtain ⟨rfl, HW, HB⟩ := hrel
    have c2 : wr.cell? ⟨N, 2, none⟩ = some (.int .i64 0) := HW.out.cell 2
    have CS := hidOf (Lx.Pw.string_any N N wr [] 0 0 (.pointer none) (.slice none 0 0) HW.out (by decide))
    go_wp2_with (go_at_call 32; refine CS.out.mono ?_; rintro e w3 ⟨rfl, hb⟩; have B3 := hidOf (Below.trans HB.out hb); clear hb)
    go_ret2
    exact ⟨rfl, by have := B3.out; rw [HNN.out] at this; exact this⟩
theorem OwQ.push {B n : Nat} {w wA w8 : World} {sv v' : Value} {L : List Stm} {x : Stm} {wv nv : Value} (hx : LsOk B w x wv nv) (k_ : Out w wA) (hg : wA.grownBy w8 sv.ownBlock) (hn : L.length = n) (Y : List (Stm × Value × Value)) (hY : Y.map (fun y => y.1) = L ∧ w.ownsRow B 60 11 sv L.length (stC Y) ∧ ∀ y ∈ Y, LsOk B w y.1 y.2.1 y.2.2) (hown : w8.ownsRow B 60 11 v' (n + 1) (stC Y ++ stL x wv nv)) : OwQ B v' (L ++ [x]) w8 := by
  obtain ⟨hY1, hY2, hY3⟩ := hY
  have hYA := owns_chg (S := fun _ => False) hY2 (fun _ _ h => h) (Chg.of_out k_)
  have c8 : Chg (fun b => sv.ownBlock = some b) wA w8 := Chg.of_grown hg (fun k h => h)
  have hls : ∀ y wv nv, LsOk B wA y wv nv → LsOk B w8 y wv nv := fun y wv nv hl => by
    refine ⟨owns_chg hl.1 (fun k hk e => ?_) c8, owns_chg hl.2 (fun k hk e => ?_) c8⟩
    · obtain ⟨hl1, _⟩ := hl
      rcases hYA.2 with ⟨hv, _⟩ | ⟨g3, cap3, cur3, hv, _, hg3, _⟩
      · rw [hv] at e; cases e
      · rw [hv] at e; simp [Value.ownBlock] at e; subst e; exact own_kind hl1 hg3 (by decide) hk
    · obtain ⟨_, hl2⟩ := hl
      rcases hYA.2 with ⟨hv, _⟩ | ⟨g3, cap3, cur3, hv, _, hg3, _⟩
      · rw [hv] at e; cases e
      · rw [hv] at e; simp [Value.ownBlock] at e; subst e; exact own_kind hl2 hg3 (by decide) hk
  refine ⟨Y ++ [(x, wv, nv)], by simp [hY1], ?_, fun y hy => ?_⟩
  · rw [stC_snoc, List.length_append, List.length_singleton, hn]
    exact hown
  · rcases List.mem_append.1 hy with hy | hy
    · exact hls _ _ _ ((hY3 y hy).out k_)
    · rw [List.mem_singleton.1 hy]
      exact hls _ _ _ (hx.out k_)
theorem wp_appR {w0 : World} {ops : Array Oper} {rest : List Oper} {o : Oper} {a : Act} {Q : Exit → Act → World → Prop} (te tt : TypeId) (i0 : TypeInfo) (z : Value) (nb : Nat) (hU : Tryz.prog.underlying tt = some (.slice te)) (hi : Tryz.prog.info? te = some i0) (hz0 : i0.zero = some z) (hz1 : i0.size = 1) (hz2 : i0.bytes = nb) (hnb : 1 ≤ nb) (hzs : z.cells.size = 1)
    (hgd : o.guard = none) (s x : Operand) (ho : o.op = .call { callee := .builtin .append, args := #[s, x], argTypes := #[tt, tt] })
    (hs : a.eval s = .slice (some ⟨w0.heap.size, 0, none⟩) 0 0) (b : Option Addr) (cap : Nat) (cs : List Value) (hx : a.eval x = .slice b cs.length cap) (hr : RowC w0 b cs) (hb : b = none → cap = 0) (hlen : cs.length * nb ≤ 140737488355328) (hone : ∀ u ∈ cs, u.oneCell' = true)
    (h : ∀ ad c w', w'.ownsRow w0.heap.size te 1 (.slice ad cs.length c) cs.length cs → Out w0 w' → wpList Tryz.prog ops Q rest (a.put o.dst (.slice ad cs.length c)) w') : wpList Tryz.prog ops Q (o :: rest) a (w0.alloc (.cells #[] te)) := by
  have H0 := owns_void6 w0 w0.heap.size 1 te (Nat.le_refl _)
  cases b with
  | none =>
    obtain rfl : cs = [] := by
      rcases hr with h | ⟨g, off, h, _⟩
      · exact h
      · cases h
    have hc0 := hb rfl
    subst hc0
    refine wpList_append_own_none hgd s x tt ho w0.heap.size te i0 1 hU hi _ 0 [] hs H0 hx ?_
    exact h _ _ _ H0 ((Out.refl w0).alloc _)
  | some bd =>
    refine wpList_append_own _ hgd s x tt ho w0.heap.size te i0 _ 1 nb hU hi hz0 hz1 hz2 hzs (by decide) (.slice (some ⟨w0.heap.size, 0, none⟩) 0 0) 0 [] hs H0 bd cs.length cap cs hx (by rw [Nat.mul_one]) (fun j u hu => ?_) hone (by unfold maxLen; have := Nat.le_mul_of_pos_right cs.length hnb; omega) (by rw [Nat.zero_add]; exact hlen) (by rw [size_alloc]; omega) ?_
    · rcases hr with rfl | ⟨g, off, e, hc⟩
      · cases hu
      · cases e
        rw [WideShapes.add_plain]
        exact cell_later ((Out.refl w0).alloc _) (hc j u hu)
    · intro v' w' hown' hgrow _
      rw [Nat.zero_add, List.nil_append] at hown'
      obtain ⟨ad, c, rfl⟩ := own_form hown'
      exact h ad c w' hown' (out_own6 rfl H0 ((Out.refl w0).alloc _) hgrow)
theorem infoS6 : (Tryz.prog.info? 9).map (fun i => (i.zero, i.size, i.bytes)) = some (some (.string ⟨#[]⟩), 1, 16) := by kernel_rfl
theorem infoI6 : (Tryz.prog.info? 3).map (fun i => (i.zero, i.size, i.bytes)) = some (some (.int .i64 0), 1, 8) := by kernel_rfl
theorem strs_one (l : List (List UInt8)) : ∀ u ∈ strsC l, u.oneCell' = true := fun u hu => by
  simp only [strsC, List.mem_map] at hu
  obtain ⟨b, _, rfl⟩ := hu
  rfl
theorem ints_one (l : List Int) : ∀ u ∈ intsC l, u.oneCell' = true := fun u hu => by
  simp only [intsC, List.mem_map] at hu
  obtain ⟨b, _, rfl⟩ := hu
  rfl
theorem own_down {B B' s n : Nat} {w : World} {e : TypeId} {v : Value} {xs : List Value} (h : w.ownsRow B e s v n xs) (hB : B' ≤ B) : w.ownsRow B' e s v n xs := by
  refine ⟨h.1, ?_⟩
  rcases h.2 with h2 | ⟨g, cap, cur, hv, hb, h3⟩
  · exact .inl h2
  · exact .inr ⟨g, cap, cur, hv, Nat.le_trans hB hb, h3⟩
theorem stL_one {x : Stm} {a b : Option Addr} {n m c d : Nat} : ∀ u ∈ stL x (.slice a n c) (.slice b m d), u.oneCell' = true := fun u hu => by
  simp only [stL, List.mem_cons, List.not_mem_nil, or_false] at hu
  rcases hu with rfl | rfl | rfl | rfl | rfl | rfl | rfl | rfl | rfl | rfl | rfl <;> rfl
set_option maxRecDepth 20000 in
set_option maxHeartbeats 2000000 in
theorem copySts_any (w : World) (a : Option Addr) (c : Nat) (Y : List (Stm × Value × Value)) (hY : StA w a Y) (lY : ∀ y ∈ Y, LsR w y) (nY : ∀ y ∈ Y, ∀ aw n c, (y.2.1 = .slice aw n c ∨ y.2.2 = .slice aw n c) → aw = none → c = 0) (hs : ∀ y ∈ Y, y.1.ws.length ≤ 8796093022208 ∧ y.1.ns.length ≤ 17592186044416) (hl : Y.length ≤ 1034834473171) :
    Calls Tryz.prog 13 #[.slice a Y.length c] w fun e w' => ∃ v, e = .returned v ∧ OwQ w.heap.size v (Y.map (fun y => y.1)) w' ∧ Out w w' := by
  have HY := hidOf hY
  have LY := hidOf lY
  have NY := hidOf nY
  have HS := hidOf hs
  obtain ⟨n, hn⟩ : ∃ n, n = Y.length := ⟨_, rfl⟩
  have Hn := hidOf hn
  rw [← hn] at hl ⊢
  obtain ⟨L, hL⟩ : ∃ L, L = Y.map (fun y => y.1) := ⟨_, rfl⟩
  rw [← hL]
  have HL := hidOf hL
  obtain ⟨B, hB⟩ : ∃ B, B = w.heap.size := ⟨_, rfl⟩
  rw [← hB]
  have HB := hidOf hB
  clear hY lY nY hs hn hL hB
  obtain ⟨i0, hi0, hz0, hz1, hz2⟩ := info_parts infoSt
  obtain ⟨j0, hj0, hy0, hy1, hy2⟩ := info_parts infoS6
  obtain ⟨m0, hm0, hx0, hx1, hx2⟩ := info_parts infoI6
  go_enter Tryz.func13, Tryz.ntmps13
  go_wp2
  go_loopw [4, 3] (fun iv lv wr => ∃ (i : Nat) (a1 : Option Addr) (c1 : Nat), iv = .int .i64 i ∧ lv = .slice a1 i c1 ∧ i ≤ n ∧ Hid (OwQ B (.slice a1 i c1) (L.take i) wr) ∧ Hid (Out w wr)) (fun iv _ _ => n - (intOf iv).toNat)
  case atStart => exact ⟨0, none, 0, rfl, rfl, by omega, hidOf (OwQ.nil _ _), hidOf (Out.refl _)⟩
  case round =>
    obtain ⟨i, a1, c1, rfl, rfl, hi, HQ, HO⟩ := hrel
    by_cases hiL : i < n
    · have hlt : (i : Int) < n := by omega
      have h0 : (0 : Int) ≤ i := by omega
      obtain ⟨y, hy⟩ : ∃ y, Y[i]? = some y := ⟨_, List.getElem?_eq_getElem (by have := Hn.out; omega)⟩
      have Hst : Hid (L.take (i + 1) = L.take i ++ [y.1]) := hidOf (by rw [HL.out, List.take_add_one, List.getElem?_map, hy]; rfl)
      have hLi : (L.take i).length = i := by rw [List.length_take, HL.out, List.length_map, ← Hn.out]; omega
      obtain ⟨g, off, rfl, h1⟩ := HY.out.get hy
      obtain ⟨aw, cw, an, cn, e1, e2, r1, r2, _, _⟩ := LY.out y (List.mem_of_getElem? hy)
      have n1 : aw = none → cw = 0 := NY.out y (List.mem_of_getElem? hy) aw _ cw (.inl e1)
      have n2 : an = none → cn = 0 := NY.out y (List.mem_of_getElem? hy) an _ cn (.inr e2)
      obtain ⟨hs1, hs2⟩ := HS.out y (List.mem_of_getElem? hy)
      obtain ⟨x, wv, nv⟩ := y
      simp only at h1 e1 e2 r1 r2 hs1 hs2 Hst
      subst e1 e2
      obtain ⟨nw, hnw⟩ : ∃ n, n = x.ws.length := ⟨_, rfl⟩
      obtain ⟨nn, hnn⟩ : ∃ n, n = x.ns.length := ⟨_, rfl⟩
      have R1 := hidOf (r1.out HO.out)
      have R2 := hidOf (r2.out HO.out)
      have hc1 : (strsC x.ws).length = nw := by rw [hnw]; simp [strsC]
      have hc2 : (intsC x.ns).length = nn := by rw [hnn]; simp [intsC]
      rw [← hnw, ← hnn] at h1
      rw [← hnw] at hs1
      rw [← hnn] at hs2
      have Hnw := hidOf hnw
      have Hnn := hidOf hnn
      obtain ⟨WS, hWS⟩ : ∃ WS, WS = strsC x.ws := ⟨_, rfl⟩
      obtain ⟨NS, hNS⟩ : ∃ NS, NS = intsC x.ns := ⟨_, rfl⟩
      have so : ∀ u ∈ WS, u.oneCell' = true := by rw [hWS]; exact strs_one _
      have io : ∀ u ∈ NS, u.oneCell' = true := by rw [hNS]; exact ints_one _
      rw [← hWS] at R1 hc1
      rw [← hNS] at R2 hc2
      have HWS := hidOf hWS
      have HNS := hidOf hNS
      have SO := hidOf so
      have IOk := hidOf io
      have HC1 := hidOf hc1
      have HC2 := hidOf hc2
      have HX := hidOf Hst.out
      obtain ⟨X, hX⟩ : ∃ X, X = x := ⟨_, rfl⟩
      have HXx := hidOf hX
      have Hst : Hid (L.take (i + 1) = L.take i ++ [X]) := hidOf (by rw [hX]; exact HX.out)
      rw [← hX] at Hnw Hnn HWS HNS
      clear HX hX
      obtain ⟨xk, xnm, xws, xns, xo, xd, xs, xf, xi, xtg, xl⟩ := x
      simp only [stL] at h1
      obtain ⟨q0, q1, q2, q3, q4, q5, q6, q7, q8, q9, q10⟩ : wr.cell? ⟨g, off + i * 11, none⟩ = some (.int .i64 xk) ∧ wr.cell? ⟨g, off + i * 11 + 1, none⟩ = some (.string ⟨xnm.toArray⟩) ∧ wr.cell? ⟨g, off + i * 11 + 2, none⟩ = some (.slice aw nw cw) ∧ wr.cell? ⟨g, off + i * 11 + 3, none⟩ = some (.slice an nn cn) ∧ wr.cell? ⟨g, off + i * 11 + 4, none⟩ = some (.int .i64 xo) ∧ wr.cell? ⟨g, off + i * 11 + 5, none⟩ = some (.int .i64 xd) ∧ wr.cell? ⟨g, off + i * 11 + 6, none⟩ = some (.int .i64 xs) ∧ wr.cell? ⟨g, off + i * 11 + 7, none⟩ = some (.int .i64 xf) ∧ wr.cell? ⟨g, off + i * 11 + 8, none⟩ = some (.int .i64 xi) ∧ wr.cell? ⟨g, off + i * 11 + 9, none⟩ = some (.string ⟨xtg.toArray⟩) ∧ wr.cell? ⟨g, off + i * 11 + 10, none⟩ = some (.int .i64 xl) := ⟨cell_later HO.out (h1 0 _ rfl), cell_later HO.out (h1 1 _ rfl), cell_later HO.out (h1 2 _ rfl), cell_later HO.out (h1 3 _ rfl), cell_later HO.out (h1 4 _ rfl), cell_later HO.out (h1 5 _ rfl), cell_later HO.out (h1 6 _ rfl), cell_later HO.out (h1 7 _ rfl), cell_later HO.out (h1 8 _ rfl), cell_later HO.out (h1 9 _ rfl), cell_later HO.out (h1 10 _ rfl)⟩
      clear h1 r1 r2 hy hnw hnn hWS hNS so io hc1 hc2
      go_upto_region 6 with fail
      obtain ⟨q, hq⟩ : ∃ q, q = wr.heap.size := ⟨_, rfl⟩
      obtain ⟨wb, hwb⟩ : ∃ wb, wb = wr.alloc (.cells #[.int .i64 xk, .string ⟨xnm.toArray⟩, .slice aw nw cw, .slice an nn cn, .int .i64 xo, .int .i64 xd, .int .i64 xs, .int .i64 xf, .int .i64 xi, .string ⟨xtg.toArray⟩, .int .i64 xl] 60) := ⟨_, rfl⟩
      have bb : wb.heap[q]? = some (.cells #[.int .i64 xk, .string ⟨xnm.toArray⟩, .slice aw nw cw, .slice an nn cn, .int .i64 xo, .int .i64 xd, .int .i64 xs, .int .i64 xf, .int .i64 xi, .string ⟨xtg.toArray⟩, .int .i64 xl] 60 (0, 0)) := by rw [hwb, hq]; exact heap_alloc_new wr _
      have OB : Hid (Out wr wb) := hidOf (by rw [hwb]; exact (Out.refl wr).alloc _)
      rw [← hwb, ← hq]
      have r2 : (wb.alloc (.cells #[] 9)).cell? ⟨q, 2, none⟩ = some (.slice aw nw cw) := cell_later ((Out.refl wb).alloc _) (by rw [cell_atL bb]; rfl)
      have BB := hidOf bb
      have Hq := hidOf hq
      have hqB : B ≤ q := by rw [hq, HB.out]; exact HO.out.size
      have hwbB : B ≤ wb.heap.size := by have := OB.out.size; omega
      clear q0 q1 q2 q3 q4 q5 q6 q7 q8 q9 q10 hwb bb hq
      go_upto_region 7 with (at_builtin; refine wp_appR (w0 := wb) 9 56 j0 _ 16 Tryz.underlying56 hj0 hy0 hy1 hy2 (by decide) rfl rfl (.tmp 16) (.tmp 18) rfl rfl aw cw WS (by rw [HC1.out]; rfl) (R1.out.out OB.out) n1 (by rw [HC1.out]; omega) SO.out ?_; intro aw1 cw1 w3 hown ho; rw [HC1.out] at hown ⊢; have V3 := hidOf hown; have O3 := hidOf ho; have k2 : w3.cell? ⟨q, 2, none⟩ = some (.slice aw nw cw) := (cell_later ho (by rw [cell_atL BB.out]; rfl)); have f2 : w3.frozen? ⟨q, 2, none⟩ = false := (by have := (ho.block q (Array.getElem?_eq_some_iff.1 BB.out).1).trans BB.out; simp [World.frozen?, this]); clear hown ho)
      obtain ⟨w4, hw4⟩ : ∃ w4, w4 = w3.setCell ⟨q, 2, none⟩ (.slice aw1 nw cw1) := ⟨_, rfl⟩
      have b3 : w3.heap[q]? = some (.cells #[.int .i64 xk, .string ⟨xnm.toArray⟩, .slice aw nw cw, .slice an nn cn, .int .i64 xo, .int .i64 xd, .int .i64 xs, .int .i64 xf, .int .i64 xi, .string ⟨xtg.toArray⟩, .int .i64 xl] 60 (0, 0)) := (O3.out.block q (Array.getElem?_eq_some_iff.1 BB.out).1).trans BB.out
      have b4 : w4.heap[q]? = some (.cells #[.int .i64 xk, .string ⟨xnm.toArray⟩, .slice aw1 nw cw1, .slice an nn cn, .int .i64 xo, .int .i64 xd, .int .i64 xs, .int .i64 xf, .int .i64 xi, .string ⟨xtg.toArray⟩, .int .i64 xl] 60 (0, 0)) := by rw [hw4, set_atL b3]; rfl
      have C4 : Chg (fun k => k = q) w3 w4 := by rw [hw4]; exact Chg.setCell (S := fun k => k = q) (Chg.refl _ w3) (p := ⟨q, 2, none⟩) rfl _
      have V4 : Hid (w4.ownsRow wb.heap.size 9 1 (.slice aw1 nw cw1) nw WS) := hidOf (owns_chg V3.out (fun k hk e => own_kind V3.out b3 (by decide) (by rw [← e]; exact hk)) C4)
      have O4 : Hid (Out wr w4) := hidOf (Chg.out (S := fun k => k = q) C4 (OB.out.trans O3.out) (fun k hk => by have := Hq.out; omega))
      rw [← hw4]
      have r3 : (w4.alloc (.cells #[] 3)).cell? ⟨q, 3, none⟩ = some (.slice an nn cn) := cell_later ((Out.refl w4).alloc _) (by rw [cell_atL b4]; rfl)
      have B4 := hidOf b4
      have hw4B : wb.heap.size ≤ w4.heap.size := by have h1 := O3.out.size; have h2 := C4.size; omega
      clear hw4 b3 b4 C4 k2 f2 r2 V3 BB O3 R1
      go_upto_region 8 with (at_builtin; refine wp_appR (w0 := w4) 3 31 m0 _ 8 Tryz.underlying31 hm0 hx0 hx1 hx2 (by decide) rfl rfl (.tmp 21) (.tmp 23) rfl rfl an cn NS (by rw [HC2.out]; rfl) (R2.out.out O4.out) n2 (by rw [HC2.out]; omega) IOk.out ?_; intro an1 cn1 w5 hown ho; rw [HC2.out] at hown ⊢; have V5 := hidOf hown; have O5 := hidOf ho; have k3 : w5.cell? ⟨q, 3, none⟩ = some (.slice an nn cn) := (cell_later ho (by rw [cell_atL B4.out]; rfl)); have f3 : w5.frozen? ⟨q, 3, none⟩ = false := (by have := (ho.block q (Array.getElem?_eq_some_iff.1 B4.out).1).trans B4.out; simp [World.frozen?, this]); clear hown ho)
      obtain ⟨w6, hw6⟩ : ∃ w6, w6 = w5.setCell ⟨q, 3, none⟩ (.slice an1 nn cn1) := ⟨_, rfl⟩
      have b5 : w5.heap[q]? = some (.cells #[.int .i64 xk, .string ⟨xnm.toArray⟩, .slice aw1 nw cw1, .slice an nn cn, .int .i64 xo, .int .i64 xd, .int .i64 xs, .int .i64 xf, .int .i64 xi, .string ⟨xtg.toArray⟩, .int .i64 xl] 60 (0, 0)) := (O5.out.block q (Array.getElem?_eq_some_iff.1 B4.out).1).trans B4.out
      have b6 : w6.heap[q]? = some (.cells #[.int .i64 xk, .string ⟨xnm.toArray⟩, .slice aw1 nw cw1, .slice an1 nn cn1, .int .i64 xo, .int .i64 xd, .int .i64 xs, .int .i64 xf, .int .i64 xi, .string ⟨xtg.toArray⟩, .int .i64 xl] 60 (0, 0)) := by rw [hw6, set_atL b5]; rfl
      have C6 : Chg (fun k => k = q) w5 w6 := by rw [hw6]; exact Chg.setCell (S := fun k => k = q) (Chg.refl _ w5) (p := ⟨q, 3, none⟩) rfl _
      have O6 : Hid (Out wr w6) := hidOf (Chg.out (S := fun k => k = q) C6 (O4.out.trans O5.out) (fun k hk => by have := Hq.out; omega))
      have V5w := owns_chg (S := fun _ => False) V4.out (fun _ _ h => h) (Chg.of_out O5.out)
      have LX : Hid (LsOk B w6 X (.slice aw1 nw cw1) (.slice an1 nn cn1)) := hidOf (by
        refine ⟨?_, ?_⟩
        · rw [← Hnw.out, ← HWS.out]
          exact own_down (owns_chg V5w (fun k hk e => own_kind V5w b5 (by decide) (by rw [← e]; exact hk)) C6) hwbB
        · rw [← Hnn.out, ← HNS.out]
          exact own_down (owns_chg V5.out (fun k hk e => own_kind V5.out b5 (by decide) (by rw [← e]; exact hk)) C6) (by omega))
      obtain ⟨Y0, hY1, hY2, hY3⟩ := (HQ.out.out O6.out).ex
      have HYs : Hid (Y0.map (fun y => y.1) = L.take i ∧ w6.ownsRow B 60 11 (.slice a1 i c1) (L.take i).length (stC Y0) ∧ ∀ y ∈ Y0, LsOk B w6 y.1 y.2.1 y.2.2) := hidOf ⟨hY1, hY2, hY3⟩
      rw [hLi] at hY2
      have OY := hidOf (World.ownsRow.alloc hY2 (.cells #[.int .i64 xk, .string ⟨xnm.toArray⟩, .slice aw1 nw cw1, .slice an1 nn cn1, .int .i64 xo, .int .i64 xd, .int .i64 xs, .int .i64 xf, .int .i64 xi, .string ⟨xtg.toArray⟩, .int .i64 xl] 60))
      have hLe : Hid ([.int .i64 xk, .string ⟨xnm.toArray⟩, .slice aw1 nw cw1, .slice an1 nn cn1, .int .i64 xo, .int .i64 xd, .int .i64 xs, .int .i64 xf, .int .i64 xi, .string ⟨xtg.toArray⟩, .int .i64 xl] = stL X (.slice aw1 nw cw1) (.slice an1 nn cn1)) := hidOf (by rw [HXx.out]; rfl)
      rw [← hw6]
      have hs6 : B ≤ w6.heap.size := by have := O6.out.size; have := Hq.out; omega
      have HLi := hidOf hLi
      have k0 : w6.cell? ⟨q, 0, none⟩ = some (.int .i64 xk) := by rw [cell_atL b6]; rfl
      have k1 : w6.cell? ⟨q, 1, none⟩ = some (.string ⟨xnm.toArray⟩) := by rw [cell_atL b6]; rfl
      have k2 : w6.cell? ⟨q, 2, none⟩ = some (.slice aw1 nw cw1) := by rw [cell_atL b6]; rfl
      have k3' : w6.cell? ⟨q, 3, none⟩ = some (.slice an1 nn cn1) := by rw [cell_atL b6]; rfl
      have k4 : w6.cell? ⟨q, 4, none⟩ = some (.int .i64 xo) := by rw [cell_atL b6]; rfl
      have k5 : w6.cell? ⟨q, 5, none⟩ = some (.int .i64 xd) := by rw [cell_atL b6]; rfl
      have k6 : w6.cell? ⟨q, 6, none⟩ = some (.int .i64 xs) := by rw [cell_atL b6]; rfl
      have k7 : w6.cell? ⟨q, 7, none⟩ = some (.int .i64 xf) := by rw [cell_atL b6]; rfl
      have k8 : w6.cell? ⟨q, 8, none⟩ = some (.int .i64 xi) := by rw [cell_atL b6]; rfl
      have k9 : w6.cell? ⟨q, 9, none⟩ = some (.string ⟨xtg.toArray⟩) := by rw [cell_atL b6]; rfl
      have k10 : w6.cell? ⟨q, 10, none⟩ = some (.int .i64 xl) := by rw [cell_atL b6]; rfl
      clear hw6 b5 b6 C6 V5w hY1 hY2 hY3 hLi k3 f3 V4 V5 B4 O5 O4 r3 HQ R2
      go_wp2_with (at_builtin; refine wpList_append_own _ rfl (.tmp 26) (.tmp 28) 43 rfl B 60 i0 _ 11 136 Tryz.underlying43 hi0 hz0 hz1 hz2 rfl (by decide) (.slice a1 i c1) i (stC Y0) rfl OY.out ⟨w6.heap.size, 0, none⟩ 1 1 [.int .i64 xk, .string ⟨xnm.toArray⟩, .slice aw1 nw cw1, .slice an1 nn cn1, .int .i64 xo, .int .i64 xd, .int .i64 xs, .int .i64 xf, .int .i64 xi, .string ⟨xtg.toArray⟩, .int .i64 xl] rfl rfl (news_new w6 _ _ _ rfl) (by rw [hLe.out]; exact stL_one) (by unfold maxLen; omega) (by omega) (by rw [size_alloc]; omega) ?_; intro v8 w8 hown hgrow _; rw [hLe.out] at hown; have HQ8 := hidOf (OwQ.push (L := L.take i) LX.out ((Out.refl w6).alloc (.cells #[.int .i64 xk, .string ⟨xnm.toArray⟩, .slice aw1 nw cw1, .slice an1 nn cn1, .int .i64 xo, .int .i64 xd, .int .i64 xs, .int .i64 xf, .int .i64 xi, .string ⟨xtg.toArray⟩, .int .i64 xl] 60)) hgrow HLi.out Y0 HYs.out hown); have O8 := hidOf (out_own6 (w := w) HB.out OY.out ((HO.out.trans O6.out).alloc _) hgrow); obtain ⟨a8, c8, rfl⟩ := own_form hown; clear hown hgrow)
      go_roundw
      case rel => exact ⟨i + 1, a8, c8, by simp, rfl, by omega, hidOf (by rw [Hst.out]; first | exact HQ8.out | (rw [← HXx.out]; exact HQ8.out)), O8⟩
      case measure => simp [intOf]; omega
    · have hlt : ¬ (i : Int) < n := by omega
      obtain rfl : i = n := by omega
      have hLn : L.take i = L := List.take_of_length_le (by rw [HL.out, List.length_map, ← Hn.out]; omega)
      go_wp2
      go_ret
      refine ⟨_, rfl, ?_, HO.out⟩
      have := HQ.out
      rw [hLn] at this
      exact this
end Go.Proofs.YtkihaohdcgjioaaGreatDoor
