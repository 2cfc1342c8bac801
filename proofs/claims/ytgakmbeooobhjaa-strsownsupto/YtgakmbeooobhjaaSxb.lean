import Derived.Test.YtgakmbeooobhjaaSxa
namespace Go.Proofs.Ytgakmbeooobhjaa
open Go.RowKit
set_option linter.unusedVariables false
set_option linter.unusedSimpArgs false
theorem wrapS (x : Int) (h0 : 0 ≤ x) (h1 : x ≤ 1000000000000000000) : IntKind.i64.wrap x = x := by
  rw [IntKind.wrap_i64]; omega
/-- an append, by what it runs to -/
theorem wp_run {P : Program} {ops : Array Oper} {rest : List Oper} {o : Oper} {a : Act} {Q : Exit → Act → World → Prop} {w w' : World} {v1 v2 v' : Value} (hgd : o.guard = none) (s x : Operand) (t : TypeId) (ho : o.op = .call { callee := .builtin .append, args := #[s, x], argTypes := #[t, t] })
    (hs : a.eval s = v1) (hx : a.eval x = v2) (hr : ∀ ty, (Builtin.append_ #[t, t] ty #[v1, v2]).run P w = .ok v' w') (h : wpList P ops Q rest (a.put o.dst v') w') : wpList P ops Q (o :: rest) a w := by
  refine wpList_plain hgd fun K hK => ?_
  unfold Oper.wp execOp
  simp only [ho, resolve, invoke, builtin, Sem.run_bind, Sem.run_pure, Result.andThen_ok, List.map_toArray, List.map_cons, List.map_nil, hs, hx, hr]
  exact hK _ _ h
/-- the counts of what is grown -/
def KsB (w : World) (kb : Nat) (tt : Int) : Prop := w.heap[kb]? = some (.cells #[.int .i64 1, .int .i64 2, .int .i64 (tt + 70)] 94 (0, 0))
theorem KsB.cell {w : World} {kb : Nat} {tt : Int} (h0 : 0 ≤ tt) (h1 : tt ≤ 300000000000) (j : Nat) (hj : j < 3) : ∃ kj : Nat, kj ≤ 300000000070 ∧ ∀ wx, KsB wx kb tt → wx.cell? ⟨kb, j, none⟩ = some (.int .i64 kj) := by
  obtain rfl | rfl | rfl : j = 0 ∨ j = 1 ∨ j = 2 := by omega
  · exact ⟨1, by omega, fun wx h => by rw [cell_atL (show wx.heap[kb]? = _ from h)]; rfl⟩
  · exact ⟨2, by omega, fun wx h => by rw [cell_atL (show wx.heap[kb]? = _ from h)]; rfl⟩
  · refine ⟨(tt + 70).toNat, by omega, fun wx h => ?_⟩
    rw [cell_atL (show wx.heap[kb]? = _ from h), Int.toNat_of_nonneg (by omega)]; rfl
theorem KsB.chg {w w' : World} {kb : Nat} {tt : Int} {S : Nat → Prop} (h : KsB w kb tt) (c : Chg S w w') (hs : ¬ S kb) : KsB w' kb tt := (c.block kb (Array.getElem?_eq_some_iff.1 h).1 hs).trans h
theorem KsB.mild {w w' : World} {kb : Nat} {tt : Int} {f : Nat → List UInt8} {v : Value} {n : Nat} (h : KsB w kb tt) (hv : UpS w v f n) (m : MildS f v.ownBlock w w') : KsB w' kb tt := h.chg m.chg (fun e => own_kindS hv h (by decide) e)
theorem KsB.kept {w w' : World} {p : Nat} {ct tt tt' : Int} {r : Nat → Value} {L : Nat → List Value} {kb : Nat} (h : KsB w kb tt') (hs : ShF w p ct tt r L) (c : Chg (SOS p r) w w') : KsB w' kb tt' := h.chg c (fun e => by
  rcases e with e | e | e
  · have := hs.st
    rw [← e] at this
    rw [show w.heap[kb]? = _ from h] at this
    simp at this
  · exact own_kindS (hs.row 2 (by omega)) h (by decide) e
  · exact own_kindS (hs.row 3 (by omega)) h (by decide) e)
theorem fI_tail (ct : Int) (i n q : Nat) : fI ct i n (n + q) = mT (100003 * ct + 1009 * i + q) := by
  unfold fI
  rw [if_neg (by omega), show n + q - n = q by omega]
/-- a row is done away with -/
theorem ShF.nil {w : World} {p : Nat} {ct tt : Int} {r : Nat → Value} {L : Nat → List Value} (h : ShF w p ct tt r L) (j : Nat) (hj : j < 4) : ShF (w.setCell ⟨p, 3 + j, none⟩ (.slice none 0 0)) p ct tt (upd r j (.slice none 0 0)) (upd L j []) := by
  refine ShF.store h.st j hj _ _ (fun i hi => ?_) (fun i k b hi hk hne hib hkb => ?_)
  · unfold upd
    by_cases hij : i = j
    · rw [if_pos hij, if_pos hij]; exact World.ownsRow_nil _ _ _ _
    · rw [if_neg hij, if_neg hij]; exact h.row i hi
  · unfold upd at hib hkb
    by_cases hij : i = j
    · rw [if_pos hij] at hib; cases hib
    · by_cases hkj : k = j
      · rw [if_pos hkj] at hkb; cases hkb
      · rw [if_neg hij] at hib; rw [if_neg hkj] at hkb; exact h.sep i k b hi hk hne hib hkb
/-- what a writing leaves behind -/
def WrS (w : World) (p : Nat) (ct tt : Int) (r : Nat → Value) (L : Nat → List Value) (w' : World) : Prop :=
  ∃ r' L', ShI w' p ct tt r' L' ∧ L' 0 = [] ∧ (L' 2).length ≤ (L 2).length + 4 * (L 0).length ∧ Chg (QS p r L) w w' ∧ ∀ b, QS p r' L' b → QS p r L b ∨ w.heap.size ≤ b
theorem WI.done {w : World} {p : Nat} {ct tt : Int} {r : Nat → Value} {L : Nat → List Value} {wr : World} {r1 : Nat → Value} {L1 : Nat → List Value} {d : Nat} (h : WI w p ct tt r (L 0) (L 1) ((L 2).length + 4 * (L 0).length) (QS p r L) wr r1 L1 d) : WrS w p ct tt r L ((wr.setCell ⟨p, 3, none⟩ (.slice none 0 0)).setCell ⟨p, 4, none⟩ (.slice none 0 0)) := by
  have hs : ShF ((wr.setCell ⟨p, 3, none⟩ (.slice none 0 0)).setCell ⟨p, 4, none⟩ (.slice none 0 0)) p ct tt (upd (upd r1 0 (.slice none 0 0)) 1 (.slice none 0 0)) (upd (upd L1 0 []) 1 []) := (h.sh.nil 0 (by omega)).nil 1 (by omega)
  have c : Chg (fun b => b = p) wr ((wr.setCell ⟨p, 3, none⟩ (.slice none 0 0)).setCell ⟨p, 4, none⟩ (.slice none 0 0)) := ((Chg.refl (fun b => b = p) wr).setCell (p := ⟨p, 3, none⟩) rfl _).setCell (p := ⟨p, 4, none⟩) rfl _
  have ap : ∀ {v : Value} {n : Nat} {xs : List Value}, wr.ownsRow 0 9 1 v n xs → ∀ b, v.ownBlock = some b → ¬ b = p := fun hv b hb => (h.sh.apart hv hb).1
  refine ⟨_, _, ⟨hs, rfl, h.kl, (fun i x y hx => by cases hx), h.pr.chg c (fun i x b hx hb => ?_), (fun j x hx => by cases hx), (fun i j x y hx => by cases hx), (fun l y hy j x hx => by cases hx)⟩, rfl, h.kb, h.chg.trans c (fun b hb _ => .inl hb) |>.mono (fun b hb _ => ?_), fun b hb => ?_⟩
  · rcases hx with hx | hx
    · obtain ⟨N, ho⟩ := h.kown hx
      exact ap ho b hb
    · obtain ⟨z, hz⟩ : ∃ z, (L1 2)[i]? = some z := ⟨_, List.getElem?_eq_getElem (by rw [← h.kl]; exact (List.getElem?_eq_some_iff.1 hx).1)⟩
      obtain ⟨M, _, _, _, _, _, _, _, ho, _⟩ := h.pr i z x hz hx
      exact ap ho b hb
  · rcases hb with e | e | e | ⟨x, hx, e⟩
    · exact .inl e
    · exact .inr ⟨2, by omega, .inl e⟩
    · exact .inr ⟨3, by omega, .inl e⟩
    · exact .inr ⟨0, by omega, .inr ⟨x, hx, e⟩⟩
  · rcases hb with e | ⟨j, hj, e⟩
    · exact .inl (.inl e)
    · obtain rfl | rfl | rfl | rfl : j = 0 ∨ j = 1 ∨ j = 2 ∨ j = 3 := by omega
      · rcases e with e | ⟨x, hx, _⟩
        · cases e
        · cases hx
      · rcases e with e | ⟨x, hx, _⟩
        · cases e
        · cases hx
      · rcases e with e | ⟨x, hx, e⟩
        · exact (h.b2 b e).imp (fun e => .inr ⟨2, by omega, .inl e⟩) id
        · obtain ⟨l, hl⟩ := List.getElem?_of_mem hx
          exact h.qs l x b (.inl hl) e
      · rcases e with e | ⟨x, hx, e⟩
        · exact (h.b3 b e).imp (fun e => .inr ⟨3, by omega, .inl e⟩) id
        · obtain ⟨l, hl⟩ := List.getElem?_of_mem hx
          exact h.qs l x b (.inr hl) e
set_option maxRecDepth 20000 in
set_option maxHeartbeats 4000000 in
theorem writeS_any (w : World) (p : Nat) (ct tt : Int) (r : Nat → Value) (L : Nat → List Value) (h : ShI w p ct tt r L) (hF : (L 0).length ≤ 3) (hK : (L 2).length ≤ 500000000000) (hct0 : 0 ≤ ct) (hct1 : ct ≤ 1000000000000) (htt0 : 0 ≤ tt) (htt1 : tt ≤ 300000000000) :
    Calls Try.prog 37 #[.pointer (some ⟨p, 0, none⟩)] w fun e w' => (∃ q, e = .returned q) ∧ WrS w p ct tt r L w' := by
  obtain ⟨af, cf, e0⟩ := own_form (h.sh.row 0 (by omega))
  have CU := hidOf (untouchedS_any w p ct tt r L h.sh h.wl h.pf (by omega))
  have H := hidOf h
  have E0 := hidOf e0
  have c2 : w.cell? ⟨p, 2, none⟩ = some (.bool false) := by rw [cell_atL h.sh.st]; rfl
  clear h e0
  go_enter Try.func37, Try.ntmps37
  go_upto_region 1 with (go_at_call 40; refine CU.out.mono ?_; rintro e w1 ⟨rfl, ho⟩; have P1 := hidOf ho; have d2 := cell_later ho c2; have f2 : w1.frozen? ⟨p, 2, none⟩ = false := frozen_atL ((ho.block p H.out.sh.lt).trans H.out.sh.st) 2; clear ho)
  have S1 := hidOf (WI.start H.out P1.out)
  clear d2 f2 c2 CU P1
  generalize w1.setCell ⟨p, 2, none⟩ (.bool false) = w2 at *
  go_wp2
  go_loopw [2] (fun kv wr => ∃ (i : Nat) (r' : Nat → Value) (L' : Nat → List Value), kv = .int .i64 i ∧ i ≤ (L 0).length ∧ (L' 2).length = (L 2).length + i ∧ Hid (WI w p ct tt r (L 0) (L 1) ((L 2).length + 4 * (L 0).length) (QS p r L) wr r' L' i)) (fun kv _ => (L 0).length - (intOf kv).toNat)
  case atStart => exact ⟨0, r, L, rfl, by omega, rfl, S1⟩
  case round =>
    clear S1
    obtain ⟨i, r1, L1, rfl, hi, hk1, HW⟩ := hrel
    have c3 : wr.cell? ⟨p, 3, none⟩ = some (.slice af (L 0).length cf) := by rw [cell_atL HW.out.sh.st, ← E0.out, ← HW.out.r0_]; rfl
    have c0 : wr.cell? ⟨p, 0, none⟩ = some (.int .i64 ct) := by rw [cell_atL HW.out.sh.st]; rfl
    by_cases hlt : i < (L 0).length
    · have hltI : (i : Int) < (L 0).length := by omega
      obtain ⟨x, hx⟩ : ∃ x, (L 0)[i]? = some x := ⟨_, List.getElem?_eq_getElem hlt⟩
      obtain ⟨n, hn, hf⟩ := HW.out.fm i x hx
      rw [if_neg (by omega)] at hf
      obtain ⟨a, c, rfl⟩ := hf.form
      have hn' : n ≤ 100000000000 := hn
      have Hx := hidOf hx
      have HF := hidOf hf
      obtain ⟨gf, haf, qf⟩ := own_getS (B := 0) (w := wr) (a := af) (n := (L 0).length) (c := cf) (xs := L 0) (e := 30) (by have := HW.out.sh.row 0 (by omega); rw [HW.out.r0_, E0.out, HW.out.l0] at this; exact this) hx
      have Haf := hidOf haf
      clear hx hf c3 c0 qf haf
      have c3 : wr.cell? ⟨p, 3, none⟩ = some (.slice af (L 0).length cf) := by rw [cell_atL HW.out.sh.st, ← E0.out, ← HW.out.r0_]; rfl
      go_upto_region 5 with fail
      clear c3
      obtain ⟨w3, hw3⟩ : ∃ w3, w3 = wr := ⟨_, rfl⟩
      rw [← hw3] at HW HF
      have Hw3 := hidOf hw3
      clear hw3
      go_loopw [3] (fun kv wr => ∃ k : Nat, kv = .int .i64 k ∧ k ≤ n ∧ Hid (WI w p ct tt r (L 0) (L 1) ((L 2).length + 4 * (L 0).length) (QS p r L) wr r1 L1 i) ∧ Hid (FMk wr (.slice a n c) ct i n k)) (fun kv _ => n - (intOf kv).toNat)
      case atStart => exact ⟨0, rfl, by omega, by rw [← Hw3.out]; exact HW, by rw [← Hw3.out]; exact HF⟩
      case round =>
        clear HW HF Hw3
        obtain ⟨k, rfl, hk, HW, HF⟩ := hrel
        obtain ⟨gf2, haf2, qf⟩ := own_getS (B := 0) (w := wr) (a := af) (n := (L 0).length) (c := cf) (xs := L 0) (e := 30) (by have := HW.out.sh.row 0 (by omega); rw [HW.out.r0_, E0.out, HW.out.l0] at this; exact this) Hx.out
        obtain rfl : gf2 = gf := by rw [Haf.out] at haf2; simp at haf2; exact haf2.symm
        have c3 : wr.cell? ⟨p, 3, none⟩ = some (.slice (some ⟨gf2, 0, none⟩) (L 0).length cf) := by rw [cell_atL HW.out.sh.st, ← haf2, ← E0.out, ← HW.out.r0_]; rfl
        have c0 : wr.cell? ⟨p, 0, none⟩ = some (.int .i64 ct) := by rw [cell_atL HW.out.sh.st]; rfl
        clear haf2
        by_cases hkn : k < n
        · have hkI : (k : Int) < n := by omega
          have hgx : ∃ g, a = some ⟨g, 0, none⟩ ∧ ∃ cs, wr.heap[g]? = some (.cells cs 9 (0, 0)) ∧ n ≤ cs.size := by
            obtain ⟨N, hN, ho, _⟩ := HF.out
            rcases ho.2 with ⟨hv, h0⟩ | ⟨g, cap, cur, hv, _, hg, hnc, _, hcs, _⟩
            · omega
            · simp only [Value.slice.injEq] at hv
              exact ⟨g, hv.1, cur, hg, by omega⟩
          obtain ⟨g, rfl, cs, hg, hcs⟩ := hgx
          have Hg := hidOf hg
          have Hcs := hidOf hcs
          have hgp : ¬ g = p := fun e => by
            have h3 := HW.out.sh.st
            rw [← e, hg] at h3; simp at h3
          have hgf : ¬ g = gf2 := fun e => by
            have h3 := HW.out.sh.row 0 (by omega)
            rw [HW.out.r0_, E0.out, Haf.out] at h3
            exact own_kindS h3 hg (by decide) (by rw [e]; rfl)
          clear hg hcs
          have CMn : Hid (∀ wx, Calls Try.prog 53 #[.int .i64 (IntKind.i64.wrap (IntKind.i64.wrap (IntKind.i64.wrap (977 * ct) + IntKind.i64.wrap (31 * i)) + k))] wx fun e w' => e = .returned (.string ⟨(mT (977 * ct + 31 * i + k)).toArray⟩) ∧ Out wx w') := fun wx => by
            rw [wrapS (977 * ct) (by omega) (by omega), wrapS (31 * i) (by omega) (by omega), wrapS (977 * ct + 31 * i) (by omega) (by omega), wrapS _ (by omega) (by omega)]
            exact mineS_any _ (by omega) (by omega) wx
          go_upto_region 7 with fail
          go_region_held3 (fun w' => w'.cell? ⟨p, 3, none⟩ = some (.slice (some ⟨gf2, 0, none⟩) (L 0).length cf) ∧ w'.cell? ⟨gf2, i, none⟩ = some (.slice (some ⟨g, 0, none⟩) n c) ∧ w'.cell? ⟨p, 0, none⟩ = some (.int .i64 ct)) (first | with_reducible exact ⟨c3, qf, c0⟩ | with_reducible exact ⟨e3, ef, e0⟩ | go_keep) (first | (go_at_call 53; refine (CMn.out _).mono ?_; rintro e w4 ⟨rfl, h2⟩; have O4 := hidOf (Out.trans ((Out.refl wr).drewN _) h2); have e3 := cell_later O4.out c3; have ef := cell_later O4.out qf; have e0 := cell_later O4.out c0; have B4 : w4.heap[g]? = some (.cells cs 9 (0, 0)) := (O4.out.block g (Array.getElem?_eq_some_iff.1 Hg.out).1).trans Hg.out; obtain ⟨z0, y0⟩ : ∃ u, w4.cell? ⟨g, k, none⟩ = some u := ⟨cs[k]'(by have := Hcs.out; omega), by rw [cell_atL B4, Array.getElem?_eq_getElem]⟩; have f0 := frozen_atL B4 k; have HB4 := hidOf B4; clear h2 B4))
          go_wp2
          go_roundw
          case rel =>
            have hF4 := (HF.out.chg (S := fun _ => False) (Chg.of_out O4.out) (fun _ _ h => h)).mark hkn
            refine ⟨k + 1, by simp, by omega, (HW.out.out O4.out).turn H.out.dst Hx.out (g := g) rfl (Chg.setCell (S := fun b => b = g) (Chg.refl _ w4) (p := ⟨g, k, none⟩) rfl _) hn' hF4.zero, hidOf hF4⟩
          case measure => simp [intOf]; omega
        · have hkI : ¬ (k : Int) < n := by omega
          obtain rfl : k = n := by omega
          obtain ⟨N, hN, ho, _⟩ := id HF.out
          have CK := hidOf (keepS_any wr p ct tt r1 L1 HW.out.sh (by omega) HW.out.kl a k c N hN.symm ho (by omega))
          have HN := hidOf hN
          have HO := hidOf ho
          clear hN ho
          go_upto_region 3 with (go_at_call 54; refine CK.out.mono ?_; rintro e w4 ⟨⟨q4, rfl⟩, hE⟩; have HE := hidOf hE; clear hE)
          obtain ⟨r2, L2, hW2, hl2, _⟩ := (HW.out.next Hx.out hn' HF.out).kept HN.out.symm (by have := HN.out; omega) HO.out (by omega) (fun b hb => .inl (.inr ⟨0, by omega, .inr ⟨_, List.mem_of_getElem? Hx.out, hb⟩⟩)) (fun j x hx b hb hyb => by
            by_cases hji : j = i
            · subst hji
              rw [Hx.out] at hx
              cases hx
              exact ⟨by omega, k, k, a, c, rfl, HF.out.up⟩
            · exact absurd hyb (H.out.dst j i x _ hx Hx.out hji b hb)) HE.out
          have HW2 := hidOf hW2
          clear hW2 CK HE c0 c3 qf
          go_wp2
          go_roundw
          case rel => exact ⟨i + 1, r2, L2, by simp, by omega, by omega, HW2⟩
          case measure => simp [intOf]; omega
    · have hltI : ¬ (i : Int) < (L 0).length := by omega
      obtain rfl : i = (L 0).length := by omega
      go_upto_region 10 with fail
      clear c3 c0
      obtain ⟨w3, hw3⟩ : ∃ w3, w3 = wr := ⟨_, rfl⟩
      rw [← hw3] at HW
      have Hw3 := hidOf hw3
      clear hw3
      go_loopw [4] (fun kv wr => ∃ (i : Nat) (r' : Nat → Value) (L' : Nat → List Value), kv = .int .i64 i ∧ i ≤ (L 0).length ∧ (L' 2).length = (L 2).length + (L 0).length + 3 * i ∧ Hid (WI w p ct tt r (L 0) (L 1) ((L 2).length + 4 * (L 0).length) (QS p r L) wr r' L' (L 0).length)) (fun kv _ => (L 0).length - (intOf kv).toNat)
      case atStart => exact ⟨0, r1, L1, rfl, by omega, by omega, by rw [← Hw3.out]; exact HW⟩
      case round =>
        clear HW Hw3
        obtain ⟨i, r2, L2, rfl, hi2, hk2, HW⟩ := hrel
        have c3 : wr.cell? ⟨p, 3, none⟩ = some (.slice af (L 0).length cf) := by rw [cell_atL HW.out.sh.st, ← E0.out, ← HW.out.r0_]; rfl
        have c1 : wr.cell? ⟨p, 1, none⟩ = some (.int .i64 tt) := by rw [cell_atL HW.out.sh.st]; rfl
        by_cases hlt2 : i < (L 0).length
        · have hltI2 : (i : Int) < (L 0).length := by omega
          go_upto_region 14 with fail
          have HK5 : Hid (KsB (wr.alloc (.cells #[.int .i64 1, .int .i64 2, .int .i64 (tt + 70)] 94)) wr.heap.size tt) := heap_alloc_new wr _
          have HW5 := hidOf (HW.out.out ((Out.refl wr).alloc (.cells #[.int .i64 1, .int .i64 2, .int .i64 (tt + 70)] 94)))
          clear c3 c1 HW
          generalize wr.alloc (.cells #[.int .i64 1, .int .i64 2, .int .i64 (tt + 70)] 94) = w5 at *
          generalize wr.heap.size = kb at *
          go_loopw [6] (fun jv wr => ∃ (j : Nat) (r' : Nat → Value) (L' : Nat → List Value), jv = .int .i64 j ∧ j ≤ 3 ∧ (L' 2).length = (L 2).length + (L 0).length + 3 * i + j ∧ Hid (WI w p ct tt r (L 0) (L 1) ((L 2).length + 4 * (L 0).length) (QS p r L) wr r' L' (L 0).length) ∧ Hid (KsB wr kb tt)) (fun jv _ => 3 - (intOf jv).toNat)
          case atStart => exact ⟨0, r2, L2, rfl, by omega, by omega, HW5, HK5⟩
          case round =>
            clear HW5 HK5
            obtain ⟨j, r3, L3, rfl, hj, hk3, HW, HKs⟩ := hrel
            by_cases hj3 : j < 3
            · have hjI : (j : Int) < 3 := by omega
              obtain ⟨x, hx⟩ : ∃ x, (L 0)[i]? = some x := ⟨_, List.getElem?_eq_getElem hlt2⟩
              obtain ⟨n, hn, hf⟩ := HW.out.fm i x hx
              rw [if_pos hlt2] at hf
              have hu := hf.up
              obtain ⟨a, c, rfl⟩ := hf.form
              obtain ⟨gf, haf, qf⟩ := own_getS (B := 0) (w := wr) (a := af) (n := (L 0).length) (c := cf) (xs := L 0) (e := 30) (by have := HW.out.sh.row 0 (by omega); rw [HW.out.r0_, E0.out, HW.out.l0] at this; exact this) hx
              have c3 : wr.cell? ⟨p, 3, none⟩ = some (.slice (some ⟨gf, 0, none⟩) (L 0).length cf) := by rw [cell_atL HW.out.sh.st, ← haf, ← E0.out, ← HW.out.r0_]; rfl
              obtain ⟨kj, hkj, hkc⟩ := KsB.cell (w := wr) (kb := kb) htt0 htt1 j hj3
              have Hx := hidOf hx
              have HU := hidOf hu
              have HKc := hidOf hkc
              clear hx hf hu hkc haf
              go_upto_region 18 with fail
              clear c3 qf
              obtain ⟨ws, hws⟩ : ∃ ws, ws = wr := ⟨_, rfl⟩
              rw [← hws] at HW HKs HU
              have Hws := hidOf hws
              clear hws
              obtain ⟨ob, hob⟩ : ∃ ob, ob = (Value.slice a n c).ownBlock := ⟨_, rfl⟩
              have Hob := hidOf hob
              clear hob
              go_loopw [7, 8] (fun lv kv wr => ∃ (q : Nat) (al : Option Addr) (cl : Nat), lv = .slice al (n + q) cl ∧ kv = .int .i64 q ∧ q ≤ kj ∧ Hid (UpS wr (.slice al (n + q) cl) (fI ct i n) (n + q)) ∧ Hid (MildS (fI ct i n) ob ws wr) ∧ Hid (∀ b, (Value.slice al (n + q) cl).ownBlock = some b → ob = some b ∨ ws.heap.size ≤ b)) (fun _ kv _ => kj - (intOf kv).toNat)
              case atStart => exact ⟨0, a, c, rfl, rfl, by omega, by rw [← Hws.out]; exact HU, by rw [← Hws.out]; exact hidOf (MildS.of_out (Out.refl _)), hidOf (fun b hb => .inl (by rw [Hob.out]; exact hb))⟩
              case round =>
                clear Hws
                obtain ⟨q, al, cl, rfl, rfl, hq, HL, HM, HB⟩ := hrel
                have hM : MildS (fI ct i n) (Value.slice a n c).ownBlock ws wr := by rw [← Hob.out]; exact HM.out
                have HW6 := hidOf (HW.out.mild H.out.dst hlt2 Hx.out hM)
                have HK6 := hidOf (HKs.out.mild HU.out hM)
                clear hM
                have ck : wr.cell? ⟨kb, j, none⟩ = some (.int .i64 kj) := HKc.out wr HK6.out
                have c0 : wr.cell? ⟨p, 0, none⟩ = some (.int .i64 ct) := by rw [cell_atL HW6.out.sh.st]; rfl
                by_cases hqk : q < kj
                · have hqI : (q : Int) < kj := by omega
                  have CMn : Hid (∀ wx, Calls Try.prog 53 #[.int .i64 (100003 * ct + 1009 * i + q)] wx fun e w' => e = .returned (.string ⟨(mT (100003 * ct + 1009 * i + q)).toArray⟩) ∧ Out wx w') := fun wx => mineS_any _ (by omega) (by omega) wx
                  go_upto_region 19 with (first | (go_at_call 53; refine (CMn.out _).mono ?_; rintro e w7 ⟨rfl, ho⟩; have P7 := hidOf ho; clear ho) | (at_builtin; obtain ⟨v', w8, hr8, hl8, hd8, hb8⟩ := app_mark (w7.alloc (.cells #[.string ⟨(mT (100003 * ct + 1009 * i + q)).toArray⟩] 9)) (.slice al (n + q) cl) (fI ct i n) (n + q) ((MildS.of_out (ob := none) (P7.out.alloc _)).row _ _ HL.out) ⟨w7.heap.size, 0, none⟩ (by rw [fI_tail]; exact news_new w7 _ _ _ rfl) (by omega); refine wp_run rfl (.tmp 104) (.tmp 116) 30 rfl rfl rfl hr8 ?_; have L8 := hidOf hl8; have D8 := hidOf hd8; have B8 := hidOf hb8; clear hr8 hl8 hd8 hb8))
                  obtain ⟨a8, c8, rfl⟩ := L8.out.form
                  have HM8 : Hid (MildS (fI ct i n) ob ws w8) := MildS.newer (MildS.trans HM.out (MildS.of_out (P7.out.alloc _))) D8.out (fun x hx => HB.out x hx)
                  have hsz := (P7.out.alloc (.cells #[.string ⟨(mT (100003 * ct + 1009 * i + q)).toArray⟩] 9)).size
                  have HB8 : Hid (∀ b, (Value.slice a8 (n + q + 1) c8).ownBlock = some b → ob = some b ∨ ws.heap.size ≤ b) := fun b hb => by
                    rcases B8.out b hb with h | h
                    · exact HB.out b h
                    · have := HM.out.chg.size; right; omega
                  go_wp2
                  go_roundw
                  case rel => exact ⟨q + 1, a8, c8, rfl, by simp, by omega, L8, HM8, HB8⟩
                  case measure => simp [intOf]; omega
                · have hqI : ¬ (q : Int) < kj := by omega
                  obtain rfl : q = kj := by omega
                  obtain ⟨N, hN, ho, _⟩ := HL.out.ows
                  have CK := hidOf (keepS_any wr p ct tt r3 L3 HW6.out.sh (by omega) HW6.out.kl al (n + q) cl N hN.symm ho (by omega))
                  have HN := hidOf hN
                  have HO := hidOf ho
                  clear hN ho
                  go_upto_region 15 with (go_at_call 54; refine CK.out.mono ?_; rintro e w9 ⟨⟨q9, rfl⟩, hE⟩; have HE := hidOf hE; clear hE)
                  obtain ⟨r4, L4, hW4, hl4, hc4⟩ := HW6.out.kept HN.out.symm (by have := HN.out; omega) HO.out (by omega) (fun b hb => by
                    rcases HB.out b hb with h | h
                    · rw [Hob.out] at h; exact .inl (.inr ⟨0, by omega, .inr ⟨_, List.mem_of_getElem? Hx.out, h⟩⟩)
                    · have := HW.out.chg.size; right; omega) (fun j' x hx b hb hyb => by
                    by_cases hji : j' = i
                    · subst hji
                      rw [Hx.out] at hx
                      cases hx
                      exact ⟨hlt2, n, n + q, a, c, rfl, HL.out⟩
                    · rcases HB.out b hyb with h | h
                      · rw [Hob.out] at h; exact absurd h (H.out.dst j' i x _ hx Hx.out hji b hb)
                      · obtain ⟨M, hM, _⟩ := HW.out.fown hx
                        have := (World.ownsRow.lt hM b hb).2
                        omega) HE.out
                  have HW4 := hidOf hW4
                  have HK4 := hidOf (HK6.out.kept HW6.out.sh hc4)
                  clear hW4 hc4 CK HE c0 ck
                  go_wp2
                  go_roundw
                  case rel => exact ⟨j + 1, r4, L4, by simp, by omega, by omega, HW4, HK4⟩
                  case measure => simp [intOf]; omega
            · have hjI : ¬ (j : Int) < 3 := by omega
              obtain rfl : j = 3 := by omega
              go_wp2
              go_roundw
              case rel => exact ⟨i + 1, r3, L3, by simp, by omega, by omega, HW⟩
              case measure => simp [intOf]; omega
        · have hltI2 : ¬ (i : Int) < (L 0).length := by omega
          obtain rfl : i = (L 0).length := by omega
          have f3 := frozen_atL HW.out.sh.st 3
          have c4 : wr.cell? ⟨p, 4, none⟩ = some (r2 1) := by rw [cell_atL HW.out.sh.st]; rfl
          have f4 := frozen_atL HW.out.sh.st 4
          go_wp2
          go_end0
          exact ⟨⟨_, rfl⟩, HW.out.done⟩
/-- the counts are stored -/
theorem ShF.cnt {w : World} {p : Nat} {ct tt : Int} {r : Nat → Value} {L : Nat → List Value} (h : ShF w p ct tt r L) (ct' tt' : Int) : ShF ((w.setCell ⟨p, 0, none⟩ (.int .i64 ct')).setCell ⟨p, 1, none⟩ (.int .i64 tt')) p ct' tt' r L ∧ Chg (fun b => b = p) w ((w.setCell ⟨p, 0, none⟩ (.int .i64 ct')).setCell ⟨p, 1, none⟩ (.int .i64 tt')) := by
  have c : Chg (fun b => b = p) w ((w.setCell ⟨p, 0, none⟩ (.int .i64 ct')).setCell ⟨p, 1, none⟩ (.int .i64 tt')) := ((Chg.refl (fun b => b = p) w).setCell (p := ⟨p, 0, none⟩) rfl _).setCell (p := ⟨p, 1, none⟩) rfl _
  refine ⟨⟨by rw [set_atL (set_atL h.st 0 _)]; rfl, fun j hj => owns_chg (h.row j hj) (fun b hb e => h.notp hj (by rw [hb, e])) c, h.sep⟩, c⟩
def SOF (p : Nat) (r : Nat → Value) (b : Nat) : Prop := b = p ∨ (r 0).ownBlock = some b ∨ (r 1).ownBlock = some b
/-- behind the two appends -/
def OwE (w : World) (p : Nat) (ct tt : Int) (r : Nat → Value) (L : Nat → List Value) (x : Value) (N : List (List UInt8)) (w' : World) (v0 v1 y : Value) : Prop :=
  ShF w' p ct tt (upd (upd r 0 v0) 1 v1) (upd (upd L 0 (L 0 ++ [x])) 1 (L 1 ++ [y])) ∧ OwS w.heap.size y N w' ∧ Chg (SOF p r) w w' ∧ (∀ b, v0.ownBlock = some b → (r 0).ownBlock = some b ∨ w.heap.size ≤ b) ∧ (∀ b, v1.ownBlock = some b → (r 1).ownBlock = some b ∨ w.heap.size ≤ b)
theorem snoc_get {l : List Value} {x y : Value} {i : Nat} (h : (l ++ [x])[i]? = some y) : (i < l.length ∧ l[i]? = some y) ∨ (i = l.length ∧ y = x) := by
  by_cases hi : i < l.length
  · rw [List.getElem?_append_left hi] at h; exact .inl ⟨hi, h⟩
  · have h0 : i = l.length := by have := (List.getElem?_eq_some_iff.1 h).1; simp at this; omega
    subst h0
    rw [List.getElem?_append_right (Nat.le_refl _), Nat.sub_self] at h
    simp at h
    exact .inr ⟨rfl, h.symm⟩
/-- one more lies untouched -/
theorem ShI.grow {w w' : World} {p : Nat} {ct tt ct' tt' : Int} {r : Nat → Value} {L : Nat → List Value} {a : Option Addr} {n c : Nat} {N : List (List UInt8)} {v0 v1 y : Value} (h : ShI w p ct tt r L) (hn : n = N.length) (hN : N.length ≤ 100000000000) (hx : OwS 0 (.slice a n c) N w) (hq : ∀ b, (Value.slice a n c).ownBlock = some b → ¬ QS p r L b) (hE : OwE w p ct' tt' r L (.slice a n c) N w' v0 v1 y) :
    ShI w' p ct' tt' (upd (upd r 0 v0) 1 v1) (upd (upd L 0 (L 0 ++ [.slice a n c])) 1 (L 1 ++ [y])) ∧ ∀ b, QS p (upd (upd r 0 v0) 1 v1) (upd (upd L 0 (L 0 ++ [.slice a n c])) 1 (L 1 ++ [y])) b → QS p r L b ∨ (Value.slice a n c).ownBlock = some b ∨ w.heap.size ≤ b := by
  obtain ⟨hS, hy, hC, h0, h1⟩ := hE
  have apart : ∀ {v : Value} {m : Nat} {xs : List Value}, w.ownsRow 0 9 1 v m xs → ∀ b, v.ownBlock = some b → ¬ SOF p r b := fun hv b hb hs => by
    have := h.sh.apart hv hb
    rcases hs with e | e | e
    · exact this.1 e
    · exact this.2 0 (by omega) e
    · exact this.2 1 (by omega) e
  obtain ⟨ay, cy, ey⟩ := own_form hy
  have inq : ∀ {j i : Nat} {z : Value} {b : Nat}, j < 4 → (L j)[i]? = some z → z.ownBlock = some b → QS p r L b := fun {j i z b} hj hz hb => .inr ⟨j, hj, .inr ⟨z, List.mem_of_getElem? hz, hb⟩⟩
  have pr : ∀ {X Y : List Value}, PrS w X Y → X.length = Y.length → PrS w' X Y := fun {X Y} hp hl => hp.chg hC (fun i x b hx hb => by
    rcases hx with hx | hx
    · obtain ⟨z, hz⟩ : ∃ z, Y[i]? = some z := ⟨_, List.getElem?_eq_getElem (by rw [← hl]; exact (List.getElem?_eq_some_iff.1 hx).1)⟩
      obtain ⟨M, _, _, _, _, _, _, ho, _⟩ := hp i x z hx hz
      exact apart ho b hb
    · obtain ⟨z, hz⟩ : ∃ z, X[i]? = some z := ⟨_, List.getElem?_eq_getElem (by rw [hl]; exact (List.getElem?_eq_some_iff.1 hx).1)⟩
      obtain ⟨M, _, _, _, _, _, _, _, ho, _⟩ := hp i z x hz hx
      exact apart ho b hb)
  have l0 : (upd (upd L 0 (L 0 ++ [Value.slice a n c])) 1 (L 1 ++ [y])) 0 = L 0 ++ [Value.slice a n c] := rfl
  have l1 : (upd (upd L 0 (L 0 ++ [Value.slice a n c])) 1 (L 1 ++ [y])) 1 = L 1 ++ [y] := rfl
  have p01 := pr h.pf h.wl.symm
  refine ⟨⟨hS, ?_, h.kl, ?_, pr h.pk h.kl.symm, ?_, ?_, ?_⟩, ?_⟩
  · rw [l0, l1, List.length_append, List.length_append, h.wl]; rfl
  · rw [l0, l1]
    intro i u z hu hz
    rcases snoc_get hu with ⟨hi, hu⟩ | ⟨hi, rfl⟩
    · rcases snoc_get hz with ⟨_, hz⟩ | ⟨hi2, _⟩
      · exact p01 i u z hu hz
      · have := h.wl; omega
    · rcases snoc_get hz with ⟨hi2, _⟩ | ⟨_, rfl⟩
      · have := h.wl; omega
      · exact ⟨N, a, c, ay, cy, by rw [hn], ey, owns_chg hx (fun b hb => apart hx b hb) hC, OwS.lower hy (Nat.zero_le _), by omega⟩
  · rw [l0]
    intro j z hz
    rcases snoc_get hz with ⟨_, hz⟩ | ⟨_, rfl⟩
    · obtain ⟨M, ho, hM⟩ := h.fl j z hz
      exact ⟨M, owns_chg ho (fun b hb => apart ho b hb) hC, hM⟩
    · exact ⟨N, owns_chg hx (fun b hb => apart hx b hb) hC, hN⟩
  · rw [l0]
    intro i j u z hu hz hij b hub hzb
    rcases snoc_get hu with ⟨_, hu⟩ | ⟨hi, rfl⟩
    · rcases snoc_get hz with ⟨_, hz⟩ | ⟨_, rfl⟩
      · exact h.dst i j u z hu hz hij b hub hzb
      · exact hq b hzb (inq (j := 0) (by omega) hu hub)
    · rcases snoc_get hz with ⟨_, hz⟩ | ⟨hj, rfl⟩
      · exact hq b hub (inq (j := 0) (by omega) hz hzb)
      · omega
  · rw [l0]
    intro l z hz j u hu b hub hzb
    rcases snoc_get hu with ⟨_, hu⟩ | ⟨_, rfl⟩
    · exact h.fk l z hz j u hu b hub hzb
    · rcases hz with hz | hz
      · exact hq b hub (inq (j := 2) (by omega) hz hzb)
      · exact hq b hub (inq (j := 3) (by omega) hz hzb)
  · intro b hb
    rcases hb with e | ⟨j, hj, e⟩
    · exact .inl (.inl e)
    · obtain rfl | rfl | rfl | rfl : j = 0 ∨ j = 1 ∨ j = 2 ∨ j = 3 := by omega
      · rcases e with e | ⟨z, hz, e⟩
        · exact (h0 b e).elim (fun e => .inl (.inr ⟨0, by omega, .inl e⟩)) (fun e => .inr (.inr e))
        · rcases List.mem_append.1 (show z ∈ L 0 ++ [Value.slice a n c] from hz) with hz | hz
          · exact .inl (.inr ⟨0, by omega, .inr ⟨z, hz, e⟩⟩)
          · simp at hz; subst hz; exact .inr (.inl e)
      · rcases e with e | ⟨z, hz, e⟩
        · exact (h1 b e).elim (fun e => .inl (.inr ⟨1, by omega, .inl e⟩)) (fun e => .inr (.inr e))
        · rcases List.mem_append.1 (show z ∈ L 1 ++ [y] from hz) with hz | hz
          · exact .inl (.inr ⟨1, by omega, .inr ⟨z, hz, e⟩⟩)
          · simp at hz; subst hz; exact .inr (.inr (World.ownsRow.lt hy b e).1)
      · exact .inl (.inr ⟨2, by omega, e⟩)
      · exact .inl (.inr ⟨3, by omega, e⟩)
/-- what Own leaves behind -/
def OwnSE (w : World) (p : Nat) (ct : Int) (r : Nat → Value) (L : Nat → List Value) (x : Value) (w' : World) : Prop :=
  ∃ r' L' tt', ShI w' p (ct + 1) tt' r' L' ∧ (L' 0).length ≤ 2 ∧ ((L' 2).length : Int) + 4 * (L' 0).length ≤ 4 * (ct + 1) ∧ 0 ≤ tt' ∧ tt' ≤ 300000000000 ∧ Chg (fun b => QS p r L b ∨ x.ownBlock = some b) w w' ∧ ∀ b, QS p r' L' b → QS p r L b ∨ x.ownBlock = some b ∨ w.heap.size ≤ b
set_option maxRecDepth 20000 in
set_option maxHeartbeats 4000000 in
theorem ownS_any (w : World) (p : Nat) (ct tt : Int) (r : Nat → Value) (L : Nat → List Value) (h : ShI w p ct tt r L) (hF : (L 0).length ≤ 2) (hK : ((L 2).length : Int) + 4 * (L 0).length ≤ 4 * ct) (hct1 : ct ≤ 100000000000) (htt0 : 0 ≤ tt) (htt1 : tt ≤ 3000)
    (a : Option Addr) (n c : Nat) (N : List (List UInt8)) (hn : n = N.length) (hN : N.length ≤ 100000000000) (hx : OwS 0 (.slice a n c) N w) (hq : ∀ b, (Value.slice a n c).ownBlock = some b → ¬ QS p r L b) :
    Calls Try.prog 14 #[.pointer (some ⟨p, 0, none⟩), .slice a n c] w fun e w' => (∃ q, e = .returned q) ∧ OwnSE w p ct r L (.slice a n c) w' := by
  obtain ⟨i0, hi, hz0, hz1, hz2⟩ := info_parts infoSls
  obtain ⟨a2, c2, e2⟩ := own_form (h.sh.row 0 (by omega))
  obtain ⟨a3, c3, e3⟩ := own_form (h.sh.row 1 (by omega))
  have k0 : w.cell? ⟨p, 0, none⟩ = some (.int .i64 ct) := by rw [cell_atL h.sh.st]; rfl
  have f0 := frozen_atL h.sh.st 0
  have s1 := set_atL h.sh.st 0 (.int .i64 (ct + 1))
  have k1 : (w.setCell ⟨p, 0, none⟩ (.int .i64 (ct + 1))).cell? ⟨p, 1, none⟩ = some (.int .i64 tt) := by rw [cell_atL s1]; rfl
  have f1 := frozen_atL s1 1
  obtain ⟨hS2, hC2⟩ := h.sh.cnt (ct + 1) (tt + n)
  have HI := hidOf h
  have HX := hidOf hx
  have Hq := hidOf hq
  have Hn := hidOf hn
  have E2 := hidOf e2
  have E3 := hidOf e3
  have S2 := hidOf hS2
  have C2 := hidOf hC2
  have hnN : n ≤ 100000000000 := by omega
  have hct0 : 0 ≤ ct := by omega
  clear h hx hq hn e2 e3 s1 hS2 hC2
  go_enter Try.func14, Try.ntmps14
  go_upto_region 2 with fail
  clear k0 f0 k1 f1
  generalize (w.setCell ⟨p, 0, none⟩ (.int .i64 (ct + 1))).setCell ⟨p, 1, none⟩ (.int .i64 (tt + n)) = w2 at *
  have k3 : w2.cell? ⟨p, 3, none⟩ = some (.slice a2 (L 0).length c2) := by rw [cell_atL S2.out.st, ← E2.out]; rfl
  have R2 : Hid (∀ O, (w2.alloc O).ownsRow 0 30 1 (.slice a2 (L 0).length c2) (L 0).length (L 0)) := fun O => by
    have := (S2.out.out ((Out.refl w2).alloc O)).row 0 (by omega)
    rw [E2.out] at this; exact this
  have HP : Hid (∀ O w8, (w2.alloc O).grownBy w8 (Value.slice a2 (L 0).length c2).ownBlock → w8.cell? ⟨p, 3, none⟩ = some (.slice a2 (L 0).length c2) ∧ w8.frozen? ⟨p, 3, none⟩ = false) := fun O w8 hg => by
    have hA := S2.out.out ((Out.refl w2).alloc O)
    have hs : w8.heap[p]? = _ := (hg.block p hA.lt (fun e => hA.notp (j := 0) (by omega) (by rw [E2.out]; exact e.symm))).trans hA.st
    exact ⟨by rw [cell_atL hs, ← E2.out]; rfl, frozen_atL hs 3⟩
  go_upto_region 3 with (at_builtin; refine wpList_append_lies _ rfl (.tmp 25) (.tmp 27) 46 rfl 0 30 i0 _ 1 24 Try.underlying46 hi hz0 hz1 hz2 rfl (by decide) (.slice a2 (L 0).length c2) (L 0).length (L 0) rfl (R2.out _) ⟨w2.heap.size, 0, none⟩ 1 1 [.slice a n c] rfl rfl (news_new w2 _ _ _ rfl) (by intro u hu; simp at hu; subst hu; rfl) (by decide) (by unfold maxLen; omega) (by omega) (Nat.zero_le _) _ rfl ?_; intro g8 cap8 w8 hown8 hgrow8 hg8 hlt8; obtain ⟨q8, f8⟩ := HP.out _ w8 hgrow8; have W8 := hidOf hown8; have G8 := hidOf hgrow8; have Hg8 := hidOf hg8; clear hown8 hgrow8 hg8 hlt8)
  have B8 : Hid (∀ b, (Value.slice (some ⟨g8, 0, none⟩) ((L 0).length + 1) cap8).ownBlock = some b → (r 0).ownBlock = some b ∨ w2.heap.size ≤ b) := fun b hb => by
    simp [Value.ownBlock] at hb
    subst hb
    rcases Hg8.out with h | h
    · exact .inl (by rw [E2.out]; exact h)
    · right; rw [h, size_alloc]; omega
  have hP := S2.out.push 0 (by omega) ((Out.refl w2).alloc _) (by rw [E2.out]; exact G8.out) W8.out B8.out
  have S8 := hidOf hP.1
  have C8 := hidOf hP.2
  clear hP G8 W8 Hg8 R2 HP k3 q8 f8
  have hz : (3 : Nat) + 0 = 3 := rfl
  rw [hz] at S8 C8
  clear hz
  generalize w8.setCell ⟨p, 3, none⟩ (.slice (some ⟨g8, 0, none⟩) ((L 0).length + 1) cap8) = w4 at *
  have X4 : Hid (OwS 0 (.slice a n c) N w4) := by
    have hr : OwS 0 (.slice a n c) N w := HX.out
    have hr2 : OwS 0 (.slice a n c) N w2 := owns_chg hr (fun k hk e => own_kindS hr HI.out.sh.st (by decide) (by rw [hk, e])) C2.out
    exact owns_chg hr2 (fun k hk e => by
      rcases e with e | e
      · exact own_kindS hr2 S2.out.st (by decide) (by rw [hk, e])
      · exact own_apart (by decide) hr2 (S2.out.row 0 (by omega)) k hk e) C8.out
  have k6 : w4.drew.cell? ⟨p, 4, none⟩ = some (.slice a3 (L 1).length c3) := by
    rw [cell_atL (show w4.drew.heap[p]? = _ from S8.out.st), ← E3.out]; rfl
  have CT : Hid (Calls Try.prog 36 #[.slice a n c] w4.drew fun e w' => ∃ a' c', e = .returned (.slice a' n c') ∧ OwS w4.drew.heap.size (.slice a' n c') N w' ∧ Out w4.drew w') := by
    have h4 : OwS 0 (.slice a N.length c) N w4 := by have := X4.out; rw [Hn.out] at this; exact this
    exact copyTexts_any w4.drew a n c N Hn.out ((OwS.rt h4).1.out (Out.refl w4).drew) (by omega)
  have R3 : Hid (∀ wx O, Out w4.drew wx → (wx.alloc O).ownsRow 0 30 1 (.slice a3 (L 1).length c3) (L 1).length (L 1)) := fun wx O ho => by
    have := (S8.out.out (((Out.refl w4).drew.trans ho).alloc O)).row 1 (by omega)
    rw [← E3.out]; exact this
  have HP3 : Hid (∀ wx O w9, Out w4.drew wx → (wx.alloc O).grownBy w9 (Value.slice a3 (L 1).length c3).ownBlock → w9.cell? ⟨p, 4, none⟩ = some (.slice a3 (L 1).length c3) ∧ w9.frozen? ⟨p, 4, none⟩ = false) := fun wx O w9 ho hg => by
    have hA := S8.out.out (((Out.refl w4).drew.trans ho).alloc O)
    have hs : w9.heap[p]? = _ := (hg.block p hA.lt (fun e => hA.notp (j := 1) (by omega) (by show (r 1).ownBlock = _; rw [E3.out]; exact e.symm))).trans hA.st
    exact ⟨by rw [cell_atL hs, ← E3.out]; rfl, frozen_atL hs 4⟩
  have hl3 : (L 1).length ≤ 2 := by rw [HI.out.wl]; exact hF
  go_region_law (first | (refine step_append_lies _ rfl (.tmp 35) (.tmp 38) 46 rfl 0 30 i0 _ 1 24 Try.underlying46 hi hz0 hz1 hz2 rfl (by decide) (.slice a3 (L 1).length c3) (L 1).length (L 1) rfl (R3.out w5 _ Ho5.out) ⟨w5.heap.size, 0, none⟩ 1 1 [.slice a5 n c5] rfl rfl (news_new w5 _ _ _ rfl) (by intro u hu; simp at hu; subst hu; rfl) (by decide) (by unfold maxLen; omega) (by omega) (Nat.zero_le _) _ rfl ?_; intro g9 cap9 w9 hown9 hgrow9 hg9 hlt9; obtain ⟨q9, f9⟩ := HP3.out w5 _ w9 Ho5.out hgrow9; have W9 := hidOf hown9; have G9 := hidOf hgrow9; have Hg9 := hidOf hg9; clear hown9 hgrow9 hg9 hlt9) | (go_simp; go_at_call 36; refine CT.out.mono ?_; rintro e w5 ⟨a5, c5, rfl, hown5, ho5⟩; (try dsimp only); have Ho5 := hidOf ho5; have Hown5 := hidOf hown5; have k65 : w5.cell? ⟨p, 4, none⟩ = some (.slice a3 (L 1).length c3) := cell_later ho5 k6; have k65a : (w5.alloc (.cells #[.slice a5 n c5] 30)).cell? ⟨p, 4, none⟩ = some (.slice a3 (L 1).length c3) := cell_later ((Out.refl w5).alloc _) k65; clear hown5 ho5))
  all_goals
    have B9 : Hid (∀ b, (Value.slice (some ⟨g9, 0, none⟩) ((L 1).length + 1) cap9).ownBlock = some b → (r 1).ownBlock = some b ∨ w5.heap.size ≤ b) := fun b hb => by
      simp [Value.ownBlock] at hb
      subst hb
      rcases Hg9.out with h | h
      · exact .inl (by rw [E3.out]; exact h)
      · right; rw [h, size_alloc]; omega
    have hP := (S8.out.out ((Out.refl w4).drew.trans Ho5.out)).push 1 (by omega) ((Out.refl w5).alloc _) (by show World.grownBy _ _ (r 1).ownBlock; rw [E3.out]; exact G9.out) W9.out B9.out
    have S9 := hidOf hP.1
    have C9 := hidOf hP.2
    have hz : (3 : Nat) + 1 = 4 := rfl
    rw [hz] at S9 C9
    clear hP q9 f9 k65 k65a k6 hz
    generalize w9.setCell ⟨p, 4, none⟩ (.slice (some ⟨g9, 0, none⟩) ((L 1).length + 1) cap9) = w10 at *
    have z0 := C2.out.size
    have z1 := C8.out.size
    have z2 := ((Out.refl w4).drew.trans Ho5.out).size
    have HE : Hid (OwE w p (ct + 1) (tt + n) r L (.slice a n c) N w10 (.slice (some ⟨g8, 0, none⟩) ((L 0).length + 1) cap8) (.slice (some ⟨g9, 0, none⟩) ((L 1).length + 1) cap9) (.slice a5 n c5)) := by
      refine ⟨S9.out, ?_, ?_, fun b hb => (B8.out b hb).imp id (fun h => by omega), fun b hb => (B9.out b hb).imp id (fun h => by omega)⟩
      · have h5 : OwS w.heap.size (.slice a5 n c5) N w5 := OwS.lower Hown5.out (by show w.heap.size ≤ w4.heap.size; omega)
        refine owns_chg h5 (fun k hk e => ?_) C9.out
        rcases e with e | e
        · exact own_kindS h5 (S8.out.out ((Out.refl w4).drew.trans Ho5.out)).st (by decide) (by rw [hk, e])
        · exact own_apart (by decide) h5 ((S8.out.out ((Out.refl w4).drew.trans Ho5.out)).row 1 (by omega)) k hk e
      · refine ((((C2.out.mono (fun b hb _ => .inl hb)).trans C8.out (fun b hb _ => ?_)).trans (Chg.of_out (S := fun _ => False) ((Out.refl w4).drew.trans Ho5.out)) (fun _ h _ => h.elim)).trans C9.out (fun b hb _ => ?_))
        · rcases hb with h | h
          · exact .inl h
          · exact .inr (.inl h)
        · rcases hb with h | h
          · exact .inl h
          · exact .inr (.inr h)
    have hG := HI.out.grow Hn.out hN HX.out Hq.out HE.out
    have HI10 := hidOf hG.1
    have HQ10 := hidOf hG.2
    have HC10 : Hid (Chg (fun b => QS p r L b ∨ (Value.slice a n c).ownBlock = some b) w w10) := HE.out.2.2.1.mono (fun b hb _ => by
      rcases hb with e | e | e
      · exact .inl (.inl e)
      · exact .inl (.inr ⟨0, by omega, .inl e⟩)
      · exact .inl (.inr ⟨1, by omega, .inl e⟩))
    have k0 : w10.cell? ⟨p, 0, none⟩ = some (.int .i64 (ct + 1)) := by rw [cell_atL S9.out.st]; rfl
    have k3 : w10.cell? ⟨p, 3, none⟩ = some (.slice (some ⟨g8, 0, none⟩) ((L 0).length + 1) cap8) := by rw [cell_atL S9.out.st]; rfl
    have hwi := hidOf (writeS_any w10 p (ct + 1) (tt + n) _ _ hG.1 (by show (L 0 ++ [_]).length ≤ 3; rw [List.length_append]; simp; omega) (by show (L 2).length ≤ _; omega) (by omega) (by omega) (by omega) (by omega))
    have Stay : Hid ((L 0).length ≤ 1 → OwnSE w p ct r L (.slice a n c) w10) := fun hl => ⟨_, _, tt + n, HI10.out, by show (L 0 ++ [_]).length ≤ 2; rw [List.length_append]; simp; omega, by show ((L 2).length : Int) + 4 * ((L 0 ++ [_]).length : Nat) ≤ _; rw [List.length_append]; simp; omega, by omega, by omega, HC10.out, HQ10.out⟩
    have Wrt : Hid (∀ w', WrS w10 p (ct + 1) (tt + n) (upd (upd r 0 (.slice (some ⟨g8, 0, none⟩) ((L 0).length + 1) cap8)) 1 (.slice (some ⟨g9, 0, none⟩) ((L 1).length + 1) cap9)) (upd (upd L 0 (L 0 ++ [.slice a n c])) 1 (L 1 ++ [.slice a5 n c5])) w' → OwnSE w p ct r L (.slice a n c) w') := fun w' hw => by
      obtain ⟨r', L', h1, h2, h3, h4, h5⟩ := hw
      have zc := HC10.out.size
      have h3' : (L' 2).length ≤ (L 2).length + 4 * (L 0 ++ [Value.slice a n c]).length := h3
      rw [List.length_append, List.length_singleton] at h3'
      refine ⟨r', L', tt + n, h1, by rw [h2]; simp, by rw [h2]; simp; omega, by omega, by omega, HC10.out.trans h4 (fun b hb hlt => ?_), fun b hb => ?_⟩
      · rcases HQ10.out b hb with e | e | e
        · exact .inl e
        · exact .inr e
        · omega
      · rcases h5 b hb with e | e
        · exact HQ10.out b e
        · right; right; omega
    clear hG HE S9 C9 S8 C8 S2 C2 B8 B9 HI10 HQ10 HC10 X4 CT R3 HP3 Ho5 Hown5 W9 G9 Hg9 z0 z1 z2
    have ht : (ct + 1).tmod 4 = (ct + 1) % 4 := Int.tmod_eq_emod_of_nonneg (by omega)
    rcases (show (L 0).length = 0 ∨ (L 0).length = 1 ∨ (L 0).length = 2 by omega) with h0 | h0 | h0
    · rw [h0] at k3
      cases h4 : ((ct + 1) % 4 == 0)
      · have h5 : ((ct + 1).tmod 4 == 0) = false := by rw [ht]; exact h4
        clear ht
        go_wp2
        go_end0
        exact ⟨⟨_, rfl⟩, Stay.out (by omega)⟩
      · have h5 : ((ct + 1).tmod 4 == 0) = true := by rw [ht]; exact h4
        clear ht
        go_wp2_with (go_at_call 37; refine hwi.out.mono ?_; rintro e w' ⟨⟨q, rfl⟩, hend⟩)
        go_end0
        exact ⟨⟨_, rfl⟩, Wrt.out _ hend⟩
    · rw [h0] at k3
      clear ht
      go_wp2
      go_end0
      exact ⟨⟨_, rfl⟩, Stay.out (by omega)⟩
    · rw [h0] at k3
      clear ht
      go_wp2_with (go_at_call 37; refine hwi.out.mono ?_; rintro e w' ⟨⟨q, rfl⟩, hend⟩)
      go_end0
      exact ⟨⟨_, rfl⟩, Wrt.out _ hend⟩
end Go.Proofs.Ytgakmbeooobhjaa
