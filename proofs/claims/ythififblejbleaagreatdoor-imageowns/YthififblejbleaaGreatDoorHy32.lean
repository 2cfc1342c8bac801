import Derived.Test.YthififblejbleaaGreatDoorHy31
namespace Go.Proofs.YthififblejbleaaGreatDoor
open Go.RowKit
set_option linter.unusedVariables false
set_option linter.unusedSimpArgs false
theorem blk_set17 {w : World} {q : Nat} {cs : Array Value} {t : TypeId} (h : w.heap[q]? = some (.cells cs t (0, 0))) (k : Nat) (v : Value) : (w.setCell ⟨q, k, none⟩ v).heap[q]? = some (.cells (cs.setIfInBounds k v) t (0, 0)) := set_atL h k v
structure UF (wr w2 wU : World) (U : Nat) (v : Value) : Prop where
  ge : wr.heap.size ≤ U
  bx : wU.heap[U]? = some (.cells #[v] 58 (0, 0))
  out : Chg (fun _ => False) wr wU
  chg : Chg (fun k => k = U) w2 wU
  un : w2.heap.size ≤ U ∨ ∃ cs, w2.heap[U]? = some (.cells cs 58 (0, 0))
theorem cell_oth {w : World} {g k : Nat} {v : Value} {a : Addr} (h : ¬ a.block = g) : (w.setCell ⟨g, k, none⟩ v).cell? a = w.cell? a := World.cell?_setCell_other w ⟨g, k, none⟩ a v (fun e => h (by rw [← e]))
theorem results_cell2 {P : Program} {fn : Func} {p u : Tmp} {ty : TypeId} (h : fn.results = #[.cell p ty, .tmp u]) (tmps : Array Value) (w : World) (g : Nat) (t : TypeId) (cs : Array Value) (fr : Nat × Nat) (d : TypeDesc)
    (hp : tmps.getD p undef = .pointer (some ⟨g, 0, none⟩)) (hg : w.heap[g]? = some (.cells cs t fr))
    (hu : P.underlying ty = some d) (hd : (match d with | .struct _ | .array _ _ => true | _ => false) = true) (hi : (P.info? ty).map (·.size) = some cs.size) :
    (results fn tmps).run P w = .ok (.tuple #[.agg cs, tmps.getD u undef]) w := by
  have hp' : tmps[p]?.getD undef = .pointer (some ⟨g, 0, none⟩) := by simpa using hp
  simp [results, h, hp', asAddr, run_loadVar_row w g t ty cs fr d hg hu hd hi]
theorem infoInt17 : (Tryz.prog.info? 3).map (fun i => (i.zero, i.size, i.bytes)) = some (some (.int .i64 0), 1, 8) := by kernel_rfl
theorem blk_al17 {w : World} {q : Nat} {X : Obj} (h : w.heap[q]? = some X) (O : Obj) : (w.alloc O).heap[q]? = some X := (Below.heap_alloc _ _ _ (Array.getElem?_eq_some_iff.1 h).1).trans h
structure StS (wq wr : World) (q : Nat) (K : List (List UInt8)) (v : Value) : Prop where
  tb : ∃ a c, wr.heap[q + 2]? = some (.cells #[.slice a (namesF K).length c] 58 (0, 0)) ∧ OwS (q + 3) (.slice a (namesF K).length c) (namesF K) wr
  pl : OwI (q + 3) v (pcs K) wr
  out : Out wq wr
  lt : q + 3 ≤ wr.heap.size
theorem StS.step {wq wr w2 wU : World} {q U c' : Nat} {K N : List (List UInt8)} {v : Value} {a' : Option Addr} (h : StS wq wr q K v) (hq : wq.heap.size = q + 2) (W2 : OwS (q + 3) (.slice a' N.length c') N w2) (f : UF wr w2 wU U (.slice a' N.length c')) :
    (wU.setCell ⟨q + 2, 0, none⟩ (.slice a' N.length c')).heap[q + 2]? = some (.cells #[.slice a' N.length c'] 58 (0, 0)) ∧ OwS (q + 3) (.slice a' N.length c') N (wU.setCell ⟨q + 2, 0, none⟩ (.slice a' N.length c')) ∧ OwI (q + 3) v (pcs K) (wU.setCell ⟨q + 2, 0, none⟩ (.slice a' N.length c')) ∧ Out wq (wU.setCell ⟨q + 2, 0, none⟩ (.slice a' N.length c')) ∧ q + 3 ≤ wU.heap.size := by
  have hlt := h.lt
  have c2 := Chg.setCell (S := fun k => k = q + 2) (Chg.refl _ wU) (p := ⟨q + 2, 0, none⟩) rfl (.slice a' N.length c')
  obtain ⟨a, c, hbx, _⟩ := h.tb
  have hbU := (f.out.block (q + 2) (by omega) (fun h => h)).trans hbx
  have hge := f.ge
  refine ⟨blk_set17 hbU 0 _, owns_chg (owns_chg W2 (fun k hk e => ?_) f.chg) (fun k hk e => ?_) c2, owns_chg (owns_chg h.pl (fun _ _ h => h) f.out) (fun k hk e => ?_) c2, Chg.out c2 (Chg.out f.out h.out (fun _ h => h.elim)) (fun k hk => by omega), by have := f.out.size; omega⟩
  · rcases f.un with hu | ⟨cs, hu⟩
    · have := (W2.lt k hk).2; omega
    · rcases W2.2 with ⟨hv, _⟩ | ⟨g, cap, cur, hv, _, hg, _⟩
      · rw [hv] at hk; cases hk
      · rw [hv] at hk
        have hgk : g = k := by simpa [Value.ownBlock] using hk
        rw [hgk, e] at hg
        have := hg.symm.trans hu
        simp only [Option.some.injEq, Obj.cells.injEq] at this
        exact absurd this.2.1 (by decide)
  · have := (W2.lt k hk).1; omega
  · have := (h.pl.lt k hk).1; omega
theorem StS.push {wq wV w9 : World} {q c' : Nat} {K : List (List UInt8)} {x : List UInt8} {v v9 : Value} {a' : Option Addr} {O : Obj} (tb : wV.heap[q + 2]? = some (.cells #[.slice a' (addN (namesF K) x).length c'] 58 (0, 0))) (os : OwS (q + 3) (.slice a' (addN (namesF K) x).length c') (addN (namesF K) x) wV) (pl : OwI (q + 3) v (pcs K) wV) (out : Out wq wV) (lt : q + 3 ≤ wV.heap.size) (hq : wq.heap.size = q + 2)
    (own : w9.ownsRow (q + 3) 3 1 v9 ((pcs K).length + 1) ((pcs K).map (Value.int .i64) ++ [.int .i64 ((plF 1 (addN (namesF K) x) x : Nat) : Int)])) (gr : (wV.alloc O).grownBy w9 v.ownBlock) : StS wq w9 q (K ++ [x]) v9 := by
  have hal : Out wV (wV.alloc O) := Out.alloc (Out.refl _) _
  have pA : OwI (q + 3) v (pcs K) (wV.alloc O) := owns_chg (S := fun _ => False) pl (fun _ _ h => h) (Chg.of_out hal)
  have oA : OwS (q + 3) (.slice a' (addN (namesF K) x).length c') (addN (namesF K) x) (wV.alloc O) := owns_chg (S := fun _ => False) os (fun _ _ h => h) (Chg.of_out hal)
  have cg : Chg (fun k => v.ownBlock = some k) (wV.alloc O) w9 := Chg.of_grown gr (fun k h => h)
  have sz : wV.heap.size ≤ (wV.alloc O).heap.size := hal.size
  refine ⟨⟨a', c', ?_, ?_⟩, ?_, Chg.out cg (out.trans hal) (fun k hk => by have := (pA.lt k hk).1; omega), by have := cg.size; omega⟩
  · rw [namesF_snoc]
    exact (cg.block (q + 2) (by omega) (fun h => by have := (pA.lt _ h).1; omega)).trans (blk_al17 tb O)
  · rw [namesF_snoc]
    exact owns_chg oA (fun k hk e => own_ne oA pA (by decide) hk e) cg
  · unfold OwI
    rw [pcs_snoc, List.length_append, List.length_singleton, List.map_append]
    exact own
set_option maxRecDepth 8000 in
set_option maxHeartbeats 4000000 in
theorem strings_any (m : Img) (w : World) (ta fa da : Option Addr) (tc fc dc : Nat) (h : ImS w ta fa da m) (hf : m.F.length ≤ 4096) (hd : m.D.length ≤ 1024) (hok : ∀ x ∈ allN m, nameOk x = true) : Calls Tryz.prog 18 #[.agg #[.slice ta m.T.length tc, .slice fa m.F.length fc, .slice da m.D.length dc, .int .i64 m.en]] w fun e w' => ∃ a c pa pc, e = .returned (.tuple #[.agg #[.slice a (tabM m).length c], .slice pa (allN m).length pc]) ∧ OwS w.heap.size (.slice a (tabM m).length c) (tabM m) w' ∧ OwI w.heap.size (.slice pa (allN m).length pc) (pcs (allN m)) w' ∧ Out w w' := by
  obtain ⟨i0', hi0, hz0, hz1, hz2⟩ := info_parts infoInt17
  obtain ⟨T, F, D, en⟩ := m
  have HF := hidOf h.f
  have HD := hidOf h.d
  dsimp only at *
  obtain ⟨nt, hnt⟩ : ∃ n, Hid (n = T.length) := ⟨_, rfl⟩
  obtain ⟨nf, hnf⟩ : ∃ n, Hid (n = F.length) := ⟨_, rfl⟩
  obtain ⟨nd, hnd⟩ : ∃ n, Hid (n = D.length) := ⟨_, rfl⟩
  obtain ⟨AN, hAN⟩ : ∃ A, Hid (A = allN ⟨T, F, D, en⟩) := ⟨_, rfl⟩
  have hAl : Hid (AN.length = nf + nd) := hidOf (by rw [hAN.out, hnf.out, hnd.out]; simp [allN])
  rw [← hAN.out] at hok ⊢
  obtain ⟨na, hna⟩ : ∃ n, Hid (n = AN.length) := ⟨_, rfl⟩
  have hTM : Hid (tabM ⟨T, F, D, en⟩ = namesF AN) := hidOf (by rw [hAN.out]; rfl)
  rw [hTM.out, ← hnt.out, ← hnf.out, ← hnd.out, ← hna.out]
  rw [← hnf.out] at hf
  rw [← hnd.out] at hd
  have HN := hidOf hok
  have HSZ : Hid (∀ K : List (List UInt8), (∀ x ∈ K, x ∈ AN) → K.length ≤ 10000 → szF 1 (namesF K) ≤ 900000000000) := hidOf fun K hK hl => by
    have := (namesF_ok K (fun x hx => HN.out x (hK x hx))).2.2.2
    omega
  clear h hok
  obtain ⟨q, hq⟩ : ∃ q, Hid (q = w.heap.size) := ⟨_, rfl⟩
  obtain ⟨wq, hwq⟩ : ∃ wq, Hid (wq = (w.alloc (.cells #[.slice ta nt tc, .slice fa nf fc, .slice da nd dc, .int .i64 en] 26)).alloc (.cells #[.slice none 0 0] 58)) := ⟨_, rfl⟩
  obtain ⟨w1, hw1⟩ : ∃ w1, Hid (w1 = wq.alloc (.cells #[.slice none 0 0] 58)) := ⟨_, rfl⟩
  have Oq : Hid (Out w wq) := hidOf (by rw [hwq.out]; exact Out.alloc (Out.alloc (Out.refl _) _) _)
  have O1 : Hid (Out wq w1) := hidOf (by rw [hw1.out]; exact Out.alloc (Out.refl _) _)
  have szq : Hid (wq.heap.size = q + 2) := hidOf (by rw [hwq.out, size_alloc, size_alloc, hq.out])
  have bxq : Hid (wq.heap[q]? = some (.cells #[.slice ta nt tc, .slice fa nf fc, .slice da nd dc, .int .i64 en] 26 (0, 0))) := hidOf (by rw [hwq.out, hq.out]; exact blk_al17 (heap_alloc_new w _) _)
  have rsq : Hid (wq.heap[q + 1]? = some (.cells #[.slice none 0 0] 58 (0, 0))) := hidOf (by
    have := heap_alloc_new (w.alloc (.cells #[.slice ta nt tc, .slice fa nf fc, .slice da nd dc, .int .i64 en] 26)) (.cells #[.slice none 0 0] 58)
    rw [size_alloc, ← hwq.out, ← hq.out] at this; exact this)
  have BX : Hid (∀ wx : World, Out wq wx → wx.cell? ⟨q, 1, none⟩ = some (.slice fa nf fc) ∧ wx.cell? ⟨q, 2, none⟩ = some (.slice da nd dc)) := hidOf fun wx o => by
    have hb : wx.heap[q]? = _ := (o.block q (Array.getElem?_eq_some_iff.1 bxq.out).1).trans bxq.out
    exact ⟨by rw [cell_atL hb]; rfl, by rw [cell_atL hb]; rfl⟩
  have S0 : Hid (StS wq w1 q [] (.slice none 0 0)) := hidOf ⟨⟨none, 0, by rw [hw1.out, ← szq.out]; exact heap_alloc_new wq _, World.ownsRow_nil _ _ _ _⟩, World.ownsRow_nil _ _ _ _, O1.out, by rw [hw1.out, size_alloc, szq.out]; omega⟩
  go_enter Tryz.func18, Tryz.ntmps18
  go_upto_region 3 with fail
  rw [← hwq.out, ← hw1.out, ← hq.out]
  rw [show q + 1 + 1 = q + 2 from rfl]
  go_wp2
  go_loopw [5, 6] (fun v i wr => ∃ (j : Nat) (pa : Option Addr) (pc : Nat), j ≤ nf ∧ v = .slice pa (j) pc ∧ i = .int .i64 j ∧ Hid (StS wq wr q ((F.take j).map Fn.nm) (.slice pa (j) pc))) (fun _ i _ => nf - (intOf i).toNat)
  case atStart => exact ⟨0, none, 0, by omega, rfl, rfl, hidOf (by simpa using S0.out)⟩
  case round =>
    obtain ⟨j, pa, pc, hj, rfl, rfl, HS⟩ := hrel
    obtain ⟨i1, i2⟩ := BX.out wr HS.out.out
    by_cases hjn : j < nf
    · have hlt : (j : Int) < nf := by omega
      obtain ⟨x, hx⟩ : ∃ x, F[j]? = some x := ⟨_, List.getElem?_eq_getElem (by rw [← hnf.out]; exact hjn)⟩
      have hxm : x.nm ∈ AN := by rw [hAN.out]; exact List.mem_append_left _ (List.mem_map_of_mem (List.mem_of_getElem? hx))
      obtain ⟨b, off, rfl, q0, _⟩ := (HF.out.out (Oq.out.trans HS.out.out)).get hx
      have HK1 : Hid ((F.take (j + 1)).map Fn.nm = (F.take j).map Fn.nm ++ [x.nm]) := hidOf (by rw [take_snoc hx]; simp)
      have hlK : Hid (((F.take j).map Fn.nm).length = j) := hidOf (by rw [List.length_map, List.length_take, ← hnf.out]; omega)
      have hsubK : ∀ y ∈ (F.take j).map Fn.nm, y ∈ AN := by intro y hy; rw [hAN.out]; obtain ⟨z, hz, rfl⟩ := List.mem_map.1 hy; exact List.mem_append_left _ (List.mem_map_of_mem (List.mem_of_mem_take hz))
      obtain ⟨K, hK⟩ : ∃ K, Hid (K = (F.take j).map Fn.nm) := ⟨_, rfl⟩
      rw [← hK.out] at HS HK1 hlK hsubK
      obtain ⟨a, c, hbx, hos⟩ := HS.out.tb
      have hpl : Hid (wr.ownsRow (q + 3) 3 1 (.slice pa (j) pc) (j) ((pcs K).map (Value.int .i64))) := hidOf (by
        have := HS.out.pl
        unfold OwI at this
        rw [show (pcs K).length = j by rw [← hlK.out]; simp [pcs]] at this
        exact this)
      have hltw := HS.out.lt
      have CA := hidOf (fun wx (o : Out wr wx) => radd_ok (q + 3) a c (namesF K) x.nm wx (by have := o.size; omega) (owns_chg (S := fun _ => False) hos (fun _ _ h => h) (Chg.of_out o)) (HSZ.out K hsubK (by rw [hlK.out]; omega)) (HN.out _ hxm))
      obtain ⟨nN, hnN⟩ : ∃ n, Hid (n = (namesF K).length) := ⟨_, rfl⟩
      obtain ⟨nM, hnM⟩ : ∃ n, Hid (n = (addN (namesF K) x.nm).length) := ⟨_, rfl⟩
      obtain ⟨pl, hpv⟩ : ∃ p, Hid (p = plF 1 (addN (namesF K) x.nm) x.nm) := ⟨_, rfl⟩
      rw [← hnN.out, ← hnM.out, ← hpv.out] at CA
      rw [← hnN.out] at hbx
      have tc0 : wr.cell? ⟨q + 2, 0, none⟩ = some (.slice a nN c) := by rw [cell_atL hbx]; rfl
      have HBX := hidOf hbx
      clear hx hos hbx hxm hsubK
      obtain ⟨nm, x1, x2, x3⟩ := x
      dsimp only at q0 CA HK1 hpv hnM
      have nb : ¬ q + 2 = wr.heap.size := by omega
      have nc : ¬ q = wr.heap.size := by omega
      have nd' : ¬ b = wr.heap.size := by have := World.block_lt_of_cell? wr _ q0; dsimp only at this; omega
      go_upto_region 6 with fail
      go_region_held3 (fun wx => wx.cell? ⟨q + 2, 0, none⟩ = some (.slice a nN c) ∧ wx.cell? ⟨q, 1, none⟩ = some (.slice (some ⟨b, off, none⟩) nf fc) ∧ wx.cell? ⟨b, off + j * 4, none⟩ = some (.string ⟨nm.toArray⟩)) (first | go_keep | assumption | exact X2 | exact ⟨(cell_oth nb).trans X2.1, (cell_oth nc).trans X2.2.1, (cell_oth nd').trans X2.2.2⟩) (first | (go_at_call 48; refine (CA.out _ (Out.drew (Out.alloc (Out.refl _) _))).mono ?_; rintro e w2 ⟨a', c', rfl, ow2, o2⟩; have Q2 : Hid (Out wr w2) := hidOf (Out.trans (Out.drew (Out.alloc (Out.refl _) _)) o2); have U2 : Hid (w2.heap[wr.heap.size]? = some (.cells #[.slice none 0 0] 58 (0, 0))) := hidOf ((o2.block _ (by show wr.heap.size < (wr.alloc _).heap.size; rw [size_alloc]; omega)).trans (heap_alloc_new wr _)); have u0 : w2.cell? ⟨wr.heap.size, 0, none⟩ = some (.slice none 0 0) := (by rw [cell_atL U2.out]; rfl); have v0 := frozen_atL U2.out 0; have W2 := hidOf ow2; have X2 := And.intro (cell_later Q2.out tc0) (And.intro (cell_later Q2.out i1) (cell_later Q2.out q0)); clear ow2 o2) | (go_at_call 48; refine (CA.out _ (Out.drew (Out.refl _))).mono ?_; rintro e w2 ⟨a', c', rfl, ow2, o2⟩; have Q2 : Hid (Out wr w2) := hidOf (Out.trans (Out.drew (Out.refl _)) o2); have W2 := hidOf ow2; have X2 := And.intro (cell_later Q2.out tc0) (And.intro (cell_later Q2.out i1) (cell_later Q2.out q0)); clear ow2 o2))
      obtain ⟨pl1, hpl1⟩ : ∃ p : Int, Hid (p = (pl : Int)) := ⟨_, rfl⟩
      all_goals (
        first
          | (obtain ⟨U, hU⟩ : ∃ U, Hid (U = wr.heap.size) := ⟨_, rfl⟩
             obtain ⟨wU, hwU⟩ : ∃ x, Hid (x = w2.setCell ⟨U, 0, none⟩ (.slice a' nM c')) := ⟨_, rfl⟩
             rw [← hU.out, ← hwU.out]
             have fU : Hid (UF wr w2 wU U (.slice a' nM c')) := hidOf (by
               rw [hwU.out, hU.out]
               exact ⟨by omega, by have := blk_set17 U2.out 0 (.slice a' nM c'); exact this, (Chg.of_out Q2.out).trans (Chg.setCell (S := fun k => k = wr.heap.size) (Chg.refl _ _) (p := ⟨wr.heap.size, 0, none⟩) rfl _) (fun x hx hl => by omega), Chg.setCell (S := fun k => k = wr.heap.size) (Chg.refl _ _) (p := ⟨wr.heap.size, 0, none⟩) rfl _, .inr ⟨_, U2.out⟩⟩))
          | (obtain ⟨U, hU⟩ : ∃ U, Hid (U = w2.heap.size) := ⟨_, rfl⟩
             obtain ⟨wU, hwU⟩ : ∃ x, Hid (x = w2.alloc (.cells #[.slice a' nM c'] 58)) := ⟨_, rfl⟩
             rw [← hU.out, ← hwU.out]
             have fU : Hid (UF wr w2 wU U (.slice a' nM c')) := hidOf (by
               rw [hwU.out, hU.out]
               exact ⟨by have := Q2.out.size; omega, heap_alloc_new w2 _, Chg.of_out (Q2.out.alloc _), Chg.of_out (Out.alloc (Out.refl _) _), .inl (Nat.le_refl _)⟩))
        have W2x : OwS (q + 3) (.slice a' (addN (namesF K) nm).length c') (addN (namesF K) nm) w2 := by have := W2.out; rw [hnM.out] at this; exact this
        have fUx : UF wr w2 wU U (.slice a' (addN (namesF K) nm).length c') := by have := fU.out; rw [hnM.out] at this; exact this
        have STP := hidOf (HS.out.step szq.out W2x fUx)
        clear W2x fUx
        rw [← hnM.out] at STP
        have hltw' := fU.out.ge
        have tU : wU.cell? ⟨q + 2, 0, none⟩ = some (.slice a nN c) := by rw [cell_atL ((fU.out.out.block (q + 2) (by omega) (fun h => h)).trans HBX.out)]; rfl
        have tF : wU.frozen? ⟨q + 2, 0, none⟩ = false := frozen_atL ((fU.out.out.block (q + 2) (by omega) (fun h => h)).trans HBX.out) 0
        have uC : wU.cell? ⟨U, 0, none⟩ = some (.slice a' nM c') := by rw [cell_atL fU.out.bx]; rfl
        obtain ⟨wV, hwV⟩ : ∃ x, Hid (x = wU.setCell ⟨q + 2, 0, none⟩ (.slice a' nM c')) := ⟨_, rfl⟩
        rw [← hwV.out] at STP
        go_upto_region 8 with fail
        rw [← hwV.out]
        have hlp : Hid ((pcs K).length = j) := hidOf (by rw [← hlK.out]; simp [pcs])
        have PV : Hid (∀ O, (wV.alloc O).ownsRow (q + 3) 3 1 (.slice pa j pc) j ((pcs K).map (Value.int .i64))) := hidOf fun O => by
          have h1 : OwI (q + 3) (.slice pa j pc) (pcs K) (wV.alloc O) := owns_chg (S := fun _ => False) STP.out.2.2.1 (fun _ _ h => h) (Chg.of_out (Out.alloc (Out.refl _) _))
          unfold OwI at h1
          rw [hlp.out] at h1
          exact h1
        have szV : Hid (q + 3 ≤ wV.heap.size) := hidOf (by rw [hwV.out, World.size_setCell]; exact STP.out.2.2.2.2)
        clear tU tF uC i1 i2 q0 tc0
        go_wp2_with (at_builtin; refine wpList_append_own _ rfl (.tmp 34) (.tmp 36) 34 rfl (q + 3) 3 i0' _ 1 8 Tryz.underlying34 hi0 hz0 hz1 hz2 rfl (by decide) (.slice pa j pc) j ((pcs K).map (Value.int .i64)) rfl (PV.out _) ⟨wV.heap.size, 0, none⟩ 1 1 [.int .i64 (pl : Nat)] rfl rfl (news_new _ _ _ _ rfl) (fun u hu => by simp at hu; subst hu; rfl) (by unfold maxLen; omega) (by omega) (by rw [size_alloc]; have := szV.out; omega) ?_; intro v9 w9 hown9 hgrow9 _; have HN9 : Hid (StS wq w9 q (K ++ [nm]) v9) := hidOf (StS.push (by have := STP.out.1; rw [hnM.out] at this; exact this) (by have := STP.out.2.1; rw [hnM.out] at this; exact this) STP.out.2.2.1 STP.out.2.2.2.1 szV.out szq.out (by rw [hlp.out, ← hpv.out]; exact hown9) hgrow9); obtain ⟨a9, c9, rfl⟩ := own_form hown9; clear hown9 hgrow9)
        go_roundw
        case rel => exact ⟨j + 1, a9, c9, by omega, rfl, by simp, by rw [HK1.out]; exact HN9⟩
        case measure => simp [intOf]; omega)
    · have hlt : ¬ (j : Int) < nf := by omega
      have S1 : Hid (StS wq wr q (F.map Fn.nm) (.slice pa nf pc)) := hidOf (by
        have := HS.out
        rw [show j = nf by omega, List.take_of_length_le (by rw [← hnf.out]; omega)] at this
        exact this)
      have hjn1 : j = nf := by omega
      rw [hjn1]
      go_wp2
      go_loopw [5, 10] (fun v i wr => ∃ (j : Nat) (pa : Option Addr) (pc : Nat), j ≤ nd ∧ v = .slice pa (nf + j) pc ∧ i = .int .i64 j ∧ Hid (StS wq wr q (F.map Fn.nm ++ (D.take j).map Td.nm) (.slice pa (nf + j) pc))) (fun _ i _ => nd - (intOf i).toNat)
      case atStart => exact ⟨0, _, _, by omega, rfl, rfl, hidOf (by simpa using S1.out)⟩
      case round =>
        obtain ⟨j, pa, pc, hj, rfl, rfl, HS⟩ := hrel
        obtain ⟨i1, i2⟩ := BX.out wr HS.out.out
        by_cases hjn : j < nd
        · have hlt : (j : Int) < nd := by omega
          obtain ⟨x, hx⟩ : ∃ x, D[j]? = some x := ⟨_, List.getElem?_eq_getElem (by rw [← hnd.out]; exact hjn)⟩
          have hxm : x.nm ∈ AN := by rw [hAN.out]; exact List.mem_append_right _ (List.mem_map_of_mem (List.mem_of_getElem? hx))
          obtain ⟨b, off, rfl, q0, _⟩ := (HD.out.out (Oq.out.trans HS.out.out)).get hx
          have HK1 : Hid (F.map Fn.nm ++ (D.take (j + 1)).map Td.nm = F.map Fn.nm ++ (D.take j).map Td.nm ++ [x.nm]) := hidOf (by rw [take_snoc hx]; simp)
          have hlK : Hid ((F.map Fn.nm ++ (D.take j).map Td.nm).length = nf + j) := hidOf (by rw [List.length_append, List.length_map, List.length_map, List.length_take, ← hnf.out, ← hnd.out]; omega)
          have hsubK : ∀ y ∈ F.map Fn.nm ++ (D.take j).map Td.nm, y ∈ AN := by intro y hy; rw [hAN.out]; exact (List.mem_append.1 hy).elim (fun h => List.mem_append_left _ h) (fun h => by obtain ⟨z, hz, rfl⟩ := List.mem_map.1 h; exact List.mem_append_right _ (List.mem_map_of_mem (List.mem_of_mem_take hz)))
          obtain ⟨K, hK⟩ : ∃ K, Hid (K = F.map Fn.nm ++ (D.take j).map Td.nm) := ⟨_, rfl⟩
          rw [← hK.out] at HS HK1 hlK hsubK
          obtain ⟨a, c, hbx, hos⟩ := HS.out.tb
          have hpl : Hid (wr.ownsRow (q + 3) 3 1 (.slice pa (nf + j) pc) (nf + j) ((pcs K).map (Value.int .i64))) := hidOf (by
            have := HS.out.pl
            unfold OwI at this
            rw [show (pcs K).length = nf + j by rw [← hlK.out]; simp [pcs]] at this
            exact this)
          have hltw := HS.out.lt
          have CA := hidOf (fun wx (o : Out wr wx) => radd_ok (q + 3) a c (namesF K) x.nm wx (by have := o.size; omega) (owns_chg (S := fun _ => False) hos (fun _ _ h => h) (Chg.of_out o)) (HSZ.out K hsubK (by rw [hlK.out]; omega)) (HN.out _ hxm))
          obtain ⟨nN, hnN⟩ : ∃ n, Hid (n = (namesF K).length) := ⟨_, rfl⟩
          obtain ⟨nM, hnM⟩ : ∃ n, Hid (n = (addN (namesF K) x.nm).length) := ⟨_, rfl⟩
          obtain ⟨pl, hpv⟩ : ∃ p, Hid (p = plF 1 (addN (namesF K) x.nm) x.nm) := ⟨_, rfl⟩
          rw [← hnN.out, ← hnM.out, ← hpv.out] at CA
          rw [← hnN.out] at hbx
          have tc0 : wr.cell? ⟨q + 2, 0, none⟩ = some (.slice a nN c) := by rw [cell_atL hbx]; rfl
          have HBX := hidOf hbx
          clear hx hos hbx hxm hsubK
          obtain ⟨nm, x1, x2, x3, x4⟩ := x
          dsimp only at q0 CA HK1 hpv hnM
          have nb : ¬ q + 2 = wr.heap.size := by omega
          have nc : ¬ q = wr.heap.size := by omega
          have nd' : ¬ b = wr.heap.size := by have := World.block_lt_of_cell? wr _ q0; dsimp only at this; omega
          go_upto_region 12 with fail
          go_region_held3 (fun wx => wx.cell? ⟨q + 2, 0, none⟩ = some (.slice a nN c) ∧ wx.cell? ⟨q, 2, none⟩ = some (.slice (some ⟨b, off, none⟩) nd dc) ∧ wx.cell? ⟨b, off + j * 5, none⟩ = some (.string ⟨nm.toArray⟩)) (first | go_keep | assumption | exact X2 | exact ⟨(cell_oth nb).trans X2.1, (cell_oth nc).trans X2.2.1, (cell_oth nd').trans X2.2.2⟩) (first | (go_at_call 48; refine (CA.out _ (Out.drew (Out.alloc (Out.refl _) _))).mono ?_; rintro e w2 ⟨a', c', rfl, ow2, o2⟩; have Q2 : Hid (Out wr w2) := hidOf (Out.trans (Out.drew (Out.alloc (Out.refl _) _)) o2); have U2 : Hid (w2.heap[wr.heap.size]? = some (.cells #[.slice none 0 0] 58 (0, 0))) := hidOf ((o2.block _ (by show wr.heap.size < (wr.alloc _).heap.size; rw [size_alloc]; omega)).trans (heap_alloc_new wr _)); have u0 : w2.cell? ⟨wr.heap.size, 0, none⟩ = some (.slice none 0 0) := (by rw [cell_atL U2.out]; rfl); have v0 := frozen_atL U2.out 0; have W2 := hidOf ow2; have X2 := And.intro (cell_later Q2.out tc0) (And.intro (cell_later Q2.out i2) (cell_later Q2.out q0)); clear ow2 o2) | (go_at_call 48; refine (CA.out _ (Out.drew (Out.refl _))).mono ?_; rintro e w2 ⟨a', c', rfl, ow2, o2⟩; have Q2 : Hid (Out wr w2) := hidOf (Out.trans (Out.drew (Out.refl _)) o2); have W2 := hidOf ow2; have X2 := And.intro (cell_later Q2.out tc0) (And.intro (cell_later Q2.out i2) (cell_later Q2.out q0)); clear ow2 o2))
          obtain ⟨pl1, hpl1⟩ : ∃ p : Int, Hid (p = (pl : Int)) := ⟨_, rfl⟩
          all_goals (
            first
              | (obtain ⟨U, hU⟩ : ∃ U, Hid (U = wr.heap.size) := ⟨_, rfl⟩
                 obtain ⟨wU, hwU⟩ : ∃ x, Hid (x = w2.setCell ⟨U, 0, none⟩ (.slice a' nM c')) := ⟨_, rfl⟩
                 rw [← hU.out, ← hwU.out]
                 have fU : Hid (UF wr w2 wU U (.slice a' nM c')) := hidOf (by
                   rw [hwU.out, hU.out]
                   exact ⟨by omega, by have := blk_set17 U2.out 0 (.slice a' nM c'); exact this, (Chg.of_out Q2.out).trans (Chg.setCell (S := fun k => k = wr.heap.size) (Chg.refl _ _) (p := ⟨wr.heap.size, 0, none⟩) rfl _) (fun x hx hl => by omega), Chg.setCell (S := fun k => k = wr.heap.size) (Chg.refl _ _) (p := ⟨wr.heap.size, 0, none⟩) rfl _, .inr ⟨_, U2.out⟩⟩))
              | (obtain ⟨U, hU⟩ : ∃ U, Hid (U = w2.heap.size) := ⟨_, rfl⟩
                 obtain ⟨wU, hwU⟩ : ∃ x, Hid (x = w2.alloc (.cells #[.slice a' nM c'] 58)) := ⟨_, rfl⟩
                 rw [← hU.out, ← hwU.out]
                 have fU : Hid (UF wr w2 wU U (.slice a' nM c')) := hidOf (by
                   rw [hwU.out, hU.out]
                   exact ⟨by have := Q2.out.size; omega, heap_alloc_new w2 _, Chg.of_out (Q2.out.alloc _), Chg.of_out (Out.alloc (Out.refl _) _), .inl (Nat.le_refl _)⟩))
            have W2x : OwS (q + 3) (.slice a' (addN (namesF K) nm).length c') (addN (namesF K) nm) w2 := by have := W2.out; rw [hnM.out] at this; exact this
            have fUx : UF wr w2 wU U (.slice a' (addN (namesF K) nm).length c') := by have := fU.out; rw [hnM.out] at this; exact this
            have STP := hidOf (HS.out.step szq.out W2x fUx)
            clear W2x fUx
            rw [← hnM.out] at STP
            have hltw' := fU.out.ge
            have tU : wU.cell? ⟨q + 2, 0, none⟩ = some (.slice a nN c) := by rw [cell_atL ((fU.out.out.block (q + 2) (by omega) (fun h => h)).trans HBX.out)]; rfl
            have tF : wU.frozen? ⟨q + 2, 0, none⟩ = false := frozen_atL ((fU.out.out.block (q + 2) (by omega) (fun h => h)).trans HBX.out) 0
            have uC : wU.cell? ⟨U, 0, none⟩ = some (.slice a' nM c') := by rw [cell_atL fU.out.bx]; rfl
            obtain ⟨wV, hwV⟩ : ∃ x, Hid (x = wU.setCell ⟨q + 2, 0, none⟩ (.slice a' nM c')) := ⟨_, rfl⟩
            rw [← hwV.out] at STP
            go_upto_region 14 with fail
            rw [← hwV.out]
            have hlp : Hid ((pcs K).length = nf + j) := hidOf (by rw [← hlK.out]; simp [pcs])
            have PV : Hid (∀ O, (wV.alloc O).ownsRow (q + 3) 3 1 (.slice pa (nf + j) pc) (nf + j) ((pcs K).map (Value.int .i64))) := hidOf fun O => by
              have h1 : OwI (q + 3) (.slice pa (nf + j) pc) (pcs K) (wV.alloc O) := owns_chg (S := fun _ => False) STP.out.2.2.1 (fun _ _ h => h) (Chg.of_out (Out.alloc (Out.refl _) _))
              unfold OwI at h1
              rw [hlp.out] at h1
              exact h1
            have szV : Hid (q + 3 ≤ wV.heap.size) := hidOf (by rw [hwV.out, World.size_setCell]; exact STP.out.2.2.2.2)
            clear tU tF uC i1 i2 q0 tc0
            go_wp2_with (at_builtin; refine wpList_append_own _ rfl (.tmp 58) (.tmp 60) 34 rfl (q + 3) 3 i0' _ 1 8 Tryz.underlying34 hi0 hz0 hz1 hz2 rfl (by decide) (.slice pa (nf + j) pc) (nf + j) ((pcs K).map (Value.int .i64)) rfl (PV.out _) ⟨wV.heap.size, 0, none⟩ 1 1 [.int .i64 (pl : Nat)] rfl rfl (news_new _ _ _ _ rfl) (fun u hu => by simp at hu; subst hu; rfl) (by unfold maxLen; omega) (by omega) (by rw [size_alloc]; have := szV.out; omega) ?_; intro v9 w9 hown9 hgrow9 _; have HN9 : Hid (StS wq w9 q (K ++ [nm]) v9) := hidOf (StS.push (by have := STP.out.1; rw [hnM.out] at this; exact this) (by have := STP.out.2.1; rw [hnM.out] at this; exact this) STP.out.2.2.1 STP.out.2.2.2.1 szV.out szq.out (by rw [hlp.out, ← hpv.out]; exact hown9) hgrow9); obtain ⟨a9, c9, rfl⟩ := own_form hown9; clear hown9 hgrow9)
            go_roundw
            case rel => exact ⟨j + 1, a9, c9, by omega, rfl, by simp, by rw [HK1.out]; exact HN9⟩
            case measure => simp [intOf]; omega)
        · have hlt : ¬ (j : Int) < nd := by omega
          have S2 : Hid (StS wq wr q AN (.slice pa na pc)) := hidOf (by
            have := HS.out
            rw [show j = nd by omega, List.take_of_length_le (by rw [← hnd.out]; omega)] at this
            rw [show na = nf + nd by rw [hna.out, hAl.out], hAN.out]
            exact this)
          have hjn2 : nf + j = na := by rw [hna.out, hAl.out]; omega
          rw [hjn2]
          obtain ⟨a, c, hbx, hos⟩ := S2.out.tb
          obtain ⟨nN, hnN⟩ : ∃ n, Hid (n = (namesF AN).length) := ⟨_, rfl⟩
          rw [← hnN.out] at hbx
          have t0 : wr.cell? ⟨q + 2, 0, none⟩ = some (.slice a nN c) := by rw [cell_atL hbx]; rfl
          have rs1 : Hid (wr.heap[q + 1]? = some (.cells #[.slice none 0 0] 58 (0, 0))) := hidOf ((S2.out.out.block (q + 1) (Array.getElem?_eq_some_iff.1 rsq.out).1).trans rsq.out)
          have r0 : wr.cell? ⟨q + 1, 0, none⟩ = some (.slice none 0 0) := by rw [cell_atL rs1.out]; rfl
          have z0 := frozen_atL rs1.out 0
          have HOS := hidOf hos
          clear hbx hos
          go_wp2
          refine bodyPost_ret (results_cell2 rfl _ _ (q + 1) 58 _ (0, 0) _ rfl (blk_set17 rs1.out 0 _) Tryz.underlying58 rfl (by kernel_rfl)) rfl ?_
          have cF := Chg.setCell (S := fun k => k = q + 1) (Chg.refl _ wr) (p := ⟨q + 1, 0, none⟩) rfl (.slice a nN c)
          rw [← hnN.out]
          refine ⟨a, c, pa, pc, rfl, ?_, ?_, Chg.out cF (Oq.out.trans S2.out.out) (fun k hk => by rw [← hq.out]; omega)⟩
          · have h1 := owns_chg HOS.out (fun k hk e => by have := (HOS.out.lt k hk).1; omega) cF
            rw [hnN.out] at h1 ⊢
            exact owns_base17 (B := q + 3) (B' := w.heap.size) h1 (by rw [← hq.out]; omega)
          · have h1 := owns_chg S2.out.pl (fun k hk e => by have := (S2.out.pl.lt k hk).1; omega) cF
            exact owns_base17 (B := q + 3) (B' := w.heap.size) h1 (by rw [← hq.out]; omega)
end Go.Proofs.YthififblejbleaaGreatDoor
