import Derived.Test.YtfhmhdhaibmcfaaDoorFf
namespace Go.Proofs.YtfhmhdhaibmcfaaDoor
open Go.RowKit
set_option linter.unusedVariables false
set_option linter.unusedSimpArgs false
theorem wantR_len : ∀ cs : List (List UInt8), (wantR cs).length ≤ (cat cs).length
  | [] => by simp [wantR]
  | c :: r => by
    have h1 := wantR_len r
    have h2 := lineP_len c
    have e : (cat (c :: r)).length = c.length + 1 + (cat r).length := by
      have : cat (c :: r) = (c ++ [10]) ++ cat r := rfl
      rw [this, List.length_append, List.length_append]; rfl
    rw [e, wantR, List.length_append]
    split
    · simp; omega
    · simp; omega
theorem strip_take {x : List UInt8} {k : Nat} {y : UInt8} (h : x[k]? = some y) : strip (x.take (k + 1)) = strip (x.take k) ++ (if y = 10 then [] else [y]) := by
  have : x.take (k + 1) = x.take k ++ [y] := by rw [List.take_add_one, h]; rfl
  rw [this]
  unfold strip
  rw [List.filter_append]
  congr 1
  by_cases hy : y = 10
  · simp [hy]
  · simp [hy]
theorem strip_len (x : List UInt8) : (strip x).length ≤ x.length := List.length_filter_le _ _
theorem OwB.out {B : Nat} {v : Value} {O : List UInt8} {w w' : World} (h : OwB B v O w) (o : Out w w') : OwB B v O w' := owns_chg (S := fun _ => False) h (fun _ _ h => h) (Chg.of_out o)
theorem OwT.out {B : Nat} {v : Value} {O : List Tk} {w w' : World} (h : OwT B v O w) (o : Out w w') : OwT B v O w' := owns_chg (S := fun _ => False) h (fun _ _ h => h) (Chg.of_out o)
theorem out_own {B n sz : Nat} {w X w1 : World} {e : TypeId} {v : Value} {xs : List Value} (hB : B = w.heap.size) (h : X.ownsRow B e sz v n xs) (o : Out w X) (hg : X.grownBy w1 v.ownBlock) : Out w w1 :=
  Chg.out (S := fun k => v.ownBlock = some k) (Chg.of_grown hg (fun k h => h)) o (fun k hk => by have := (h.lt k hk).1; omega)
theorem OwB.mk {B n : Nat} {v : Value} {O P L : List UInt8} {w : World} (h : w.ownsRow B 5 1 v n (Lib.byteCells O ++ Lib.byteCells P)) (hL : L = O ++ P) (hn : n = L.length) : OwB B v L w := by
  unfold OwB
  rw [hL, bc_app, ← hL, ← hn]
  exact h
theorem OwT.mk {B n : Nat} {v : Value} {O P L : List Tk} {w : World} (h : w.ownsRow B 36 4 v n (tkV O ++ tkV P)) (hL : L = O ++ P) (hn : n = L.length) : OwT B v L w := by
  unfold OwT
  rw [hL, tkV_app, ← hL, ← hn]
  exact h
set_option maxRecDepth 20000 in
set_option maxHeartbeats 8000000 in
theorem lexLines_walk (w : World) (hE : LEnv w) (a : Option Addr) (cap : Nat) (Ls : List (List UInt8)) (h : LinesAt w a Ls) (hl : Ls.length ≤ 4611686018427387904) (hsz : ∀ l ∈ Ls, l.length ≤ 140737488351232) :
    Calls Tryd.prog 8 #[.slice a Ls.length cap] w fun e w' => e = .returned (.bool true) ∧ Out w w' := by
  have CA : Hid (∀ wx, Out w wx → Calls Tryd.prog 11 #[] wx fun e w' => e = .returned (.bool true) ∧ Out wx w') := fun wx ho => awake_any wx (hE.out ho)
  have HE := hidOf hE
  have HL := hidOf h
  have HS := hidOf hsz
  obtain ⟨cs, Hcs⟩ : ∃ cs, Hid (cs = Ls.map strip) := ⟨_, hidOf rfl⟩
  have Hlf : Hid (∀ c ∈ cs, c.all (fun b => !(b == 10)) = true) := fun c hc => by
    rw [Hcs.out] at hc
    obtain ⟨x, _, rfl⟩ := List.mem_map.1 hc
    exact strip_lf x
  have hcl : cs.length = Ls.length := by rw [Hcs.out]; simp
  obtain ⟨i0, hi, hz0, hz1, hz2⟩ := info_parts infoB
  obtain ⟨i1, hi', hy0, hy1, hy2⟩ := info_parts infoTk
  clear h hE hsz
  go_enter Tryd.func8, Tryd.ntmps8
  go_wp2
  go_loopw [3, 4, 5, 6, 7] (fun wv tv rv cv iv wr => ∃ (i : Nat) (W : List UInt8) (T : List Tk) (aw tw : Option Addr) (cw ct : Nat), wv = .slice aw W.length cw ∧ tv = .slice tw T.length ct ∧ rv = .int .i64 ((badOf 0 (cs.take i)).1 : Nat) ∧ cv = .int .i64 (badOf 0 (cs.take i)).2 ∧ iv = .int .i64 i ∧ i ≤ Ls.length ∧ W.length ≤ 16777216 ∧ Hid (W = cat (cs.take i)) ∧ Hid (T.map Tk.raw = wantR (cs.take i)) ∧ Hid (OwB w.heap.size (.slice aw W.length cw) W wr) ∧ Hid (OwT w.heap.size (.slice tw T.length ct) T wr) ∧ Hid (Out w wr)) (fun _ _ _ _ iv _ => Ls.length - (intOf iv).toNat)
  case atStart => exact ⟨0, [], [], none, none, 0, 0, rfl, rfl, rfl, rfl, rfl, by omega, by simp, hidOf rfl, hidOf rfl, hidOf (World.ownsRow_nil _ _ _ _), hidOf (World.ownsRow_nil _ _ _ _), hidOf (Out.refl w)⟩
  case round =>
    obtain ⟨i, W, T, aw, tw, cw, ct, rfl, rfl, rfl, rfl, rfl, hi2, hW, HW, HT, HOW, HOT, HO⟩ := hrel
    have htl : T.length ≤ W.length := by
      have h1 := congrArg List.length HT.out
      have h2 := wantR_len (cs.take i)
      rw [← HW.out] at h2
      simp at h1
      omega
    have hbd : (badOf 0 (cs.take i)).1 ≤ i := by
      by_cases hb : (badOf 0 (cs.take i)).1 = 0
      · omega
      · have := (badOf_pos (cs.take i) 0 hb).2
        rw [List.length_take] at this
        omega
    obtain ⟨bd, hbe⟩ : ∃ bd, badOf 0 (cs.take i) = bd := ⟨_, rfl⟩
    have HBd := hidOf hbe
    have HBz : Hid (bd.1 = 0 → bd.2 = 0) := fun h => by rw [← HBd.out] at h ⊢; exact badOf_zero _ _ h
    rw [hbe] at hbd ⊢
    clear hbe
    obtain ⟨bn, be⟩ := bd
    simp only at hbd HBz ⊢
    by_cases hlt : i < Ls.length
    · have hltI : (i : Int) < Ls.length := by omega
      obtain ⟨x, hx⟩ : ∃ x, Ls[i]? = some x := ⟨_, List.getElem?_eq_getElem hlt⟩
      have hxs := HS.out x (List.mem_of_getElem? hx)
      have hci : cs[i]? = some (strip x) := by rw [Hcs.out, List.getElem?_map, hx]; rfl
      have htk : cs.take (i + 1) = cs.take i ++ [strip x] := by rw [List.take_add_one, hci]; rfl
      have Hbs := hidOf (badOf_snoc (cs.take i) 0 (strip x))
      have Hws := hidOf (wantR_snoc (cs.take i) (strip x))
      have Hct := hidOf (cat_snoc (cs.take i) (strip x))
      rw [← htk] at Hbs Hws Hct
      have Htl : Hid (0 + (cs.take i).length = i) := by rw [List.length_take]; exact hidOf (by omega)
      have Hslf := hidOf (strip_lf x)
      obtain ⟨b, off, rfl, hc⟩ : ∃ b off, a = some ⟨b, off, none⟩ ∧ ∀ k l, Ls[k]? = some l → ∃ la lc, w.cell? ⟨b, off + k, none⟩ = some (.slice la l.length lc) ∧ RestAt w.heap.size w la l ∧ l.length ≤ lc := by
        rcases HL.out with h | h
        · rw [h] at hlt; simp at hlt
        · exact h
      obtain ⟨la, lc, q0, hr, hlc⟩ := hc i x hx
      have HR := hidOf hr
      have hxI : (x.length : Int) ≤ 140737488351232 := by omega
      clear hc hx hr htk hci
      have q1 := cell_later HO.out q0
      obtain ⟨w0, rfl⟩ : ∃ w0, w0 = wr := ⟨wr, rfl⟩
      go_wp2
      go_loopw [8, 9] (fun lv kv wr => ∃ (k : Nat) (O : List UInt8) (al : Option Addr) (cl : Nat), lv = .slice al O.length cl ∧ kv = .int .i64 k ∧ k ≤ x.length ∧ O.length ≤ k ∧ Hid (O = strip (x.take k)) ∧ Hid (OwB w0.heap.size (.slice al O.length cl) O wr) ∧ Hid (Out w0 wr)) (fun _ kv _ => x.length - (intOf kv).toNat)
      case atStart => exact ⟨0, [], none, 0, rfl, rfl, by omega, by simp, hidOf rfl, hidOf (World.ownsRow_nil _ _ _ _), hidOf (Out.refl w0)⟩
      case round =>
        obtain ⟨k, O, al, cl, rfl, rfl, hk, hOk, HOs, HOl, HOi⟩ := hrel
        have q2 := cell_later HOi.out q1
        by_cases hkx : k < x.length
        · have hkI : (k : Int) < x.length := by omega
          obtain ⟨y, hy⟩ : ∃ y, x[k]? = some y := ⟨_, List.getElem?_eq_getElem hkx⟩
          obtain ⟨g, o, hg, rfl, hcx⟩ : ∃ g o, g < w.heap.size ∧ la = some ⟨g, o, none⟩ ∧ ∀ k y, x[k]? = some y → w.cell? ⟨g, o + k, none⟩ = some (.int .u8 (y.toNat : Int)) := by
            rcases HR.out with h | h
            · rw [h] at hkx; simp at hkx
            · exact h
          have qy := cell_later (Out.trans HO.out HOi.out) (hcx k y hy)
          have HSt := hidOf (strip_take hy)
          clear hcx hy
          by_cases hy10 : y = 10
          · have e10 : ((y.toNat : Int) == 10) = true := by rw [hy10]; rfl
            have HOs' : Hid (O = strip (x.take (k + 1))) := by rw [HSt.out, if_pos hy10, List.append_nil]; exact HOs
            subst hy10
            go_wp2
            go_roundw
            case rel => exact ⟨k + 1, O, al, cl, rfl, by simp, by omega, by omega, HOs', HOl, HOi⟩
            case measure => simp [intOf]; omega
          · have e10 : ((y.toNat : Int) == 10) = false := by
              simp only [beq_eq_false_iff_ne]
              intro h
              exact hy10 (UInt8.toNat_inj.1 (by show y.toNat = 10; omega))
            obtain ⟨P, hP⟩ : ∃ P, P = O ++ [y] := ⟨_, rfl⟩
            have hPl : P.length = O.length + 1 := by rw [hP]; simp
            have HOs' : Hid (P = strip (x.take (k + 1))) := by rw [HSt.out, if_neg hy10, ← HOs.out]; exact hidOf hP
            have HP := hidOf hP
            clear hP
            go_wp2_with (at_builtin; refine wpList_append_own _ rfl (.tmp 39) (.tmp 47) 22 rfl w0.heap.size 5 i0 _ 1 1 Tryd.underlying22 hi hz0 hz1 hz2 rfl (by decide) (.slice al O.length cl) O.length (Lib.byteCells O) rfl (HOl.out.out ((Out.refl wr).alloc _)) ⟨wr.heap.size, 0, none⟩ 1 1 [.int .u8 (y.toNat : Int)] rfl rfl (news_new wr _ _ _ rfl) (fun u hu => by rw [List.mem_singleton.1 hu]; rfl) (by unfold maxLen; omega) (by omega) (by have := HOi.out.size; rw [size_alloc]; omega) ?_; intro v' w3 hown' hgrow _; have H3 := hidOf (out_own rfl (HOl.out.out ((Out.refl wr).alloc _)) (HOi.out.alloc _) hgrow); have HN : Hid (OwB w0.heap.size v' P w3) := OwB.mk (P := [y]) hown' HP.out hPl.symm; obtain ⟨ad', cp', rfl⟩ : ∃ ad cp, v' = .slice ad P.length cp := own_form HN.out; clear hown' hgrow)
            go_roundw
            case rel => exact ⟨k + 1, P, ad', cp', by rw [hPl], by simp, by omega, by omega, HOs', HN, H3⟩
            case measure => simp [intOf]; omega
        · have hkI : ¬ (k : Int) < x.length := by omega
          have HOs' : Hid (O = strip x) := by rw [HOs.out, List.take_of_length_le (by omega)]; exact hidOf rfl
          obtain ⟨L, hL⟩ : ∃ L, L = O ++ [10] := ⟨_, rfl⟩
          have hLl : L.length = O.length + 1 := by rw [hL]; simp
          have HLe := hidOf hL
          clear hL
          have HLl := hidOf hLl
          have hLb0 : L.length ≤ 140737488351233 := by omega
          have hL1 : 0 < L.length := by omega
          clear hLl
          go_upto_region 15 with (at_builtin; refine wpList_append_own _ rfl (.tmp 49) (.tmp 50) 22 rfl w0.heap.size 5 i0 _ 1 1 Tryd.underlying22 hi hz0 hz1 hz2 rfl (by decide) (.slice al O.length cl) O.length (Lib.byteCells O) rfl (HOl.out.out ((Out.refl wr).alloc _)) ⟨wr.heap.size, 0, none⟩ 1 1 [.int .u8 10] rfl rfl (news_new wr _ _ _ rfl) (fun u hu => by rw [List.mem_singleton.1 hu]; rfl) (by unfold maxLen; omega) (by omega) (by have := HOi.out.size; rw [size_alloc]; omega) ?_; intro v' w3 hown' hgrow _; have H3 := hidOf (out_own rfl (HOl.out.out ((Out.refl wr).alloc _)) (HOi.out.alloc _) hgrow); have HN : Hid (OwB w0.heap.size v' L w3) := OwB.mk (P := [10]) hown' HLe.out HLl.out.symm; obtain ⟨gl, cpl, rfl⟩ : ∃ gl cpl, v' = .slice (some ⟨gl, 0, none⟩) L.length cpl := (HN.out.cells.resolve_left (fun h => by rw [h] at hL1; simp at hL1)).imp fun g h => h.imp fun c h => h.1; clear hown' hgrow)
          have HNc : Hid (∀ j u, (Lib.byteCells L)[j]? = some u → w3.cell? ((⟨gl, 0, none⟩ : Addr).add j) = some u) := World.ownsRow.cells HN.out (g := gl) rfl
          have HOW3 := hidOf (HOW.out.out H3.out)
          have HOT3 := hidOf (HOT.out.out H3.out)
          have O3 := hidOf (Out.trans HO.out H3.out)
          by_cases hLb : L.length ≤ 140737471000001
          rotate_left
          · obtain ⟨av, cv, w4, hr4, ho4⟩ := wide_run HOW3.out O3.out ⟨gl, 0, none⟩ L.length cpl L rfl hL1 HNc.out (by omega)
            have O4 := hidOf ho4
            have hbI : (16777216 : Int) < (W.length : Int) + L.length := by omega
            go_upto_region 16 with (at_builtin; refine wp_run rfl (.tmp 52) (.tmp 53) 22 rfl rfl rfl hr4 ?_; clear hr4)
            go_wp2_with (go_at_call 11; refine (CA.out w4 O4.out).mono ?_; rintro e w5 ⟨rfl, ho⟩; have O5 := hidOf (Out.trans O4.out ho); clear ho)
            go_ret
            exact ⟨rfl, O5.out⟩
          obtain ⟨V, hV⟩ : ∃ V, V = W ++ L := ⟨_, rfl⟩
          have hVl : V.length = W.length + L.length := by rw [hV]; simp
          have HV := hidOf hV
          have HVl := hidOf hVl
          have hVb : V.length ≤ 140737488000000 := by omega
          have HWlt : Hid (∀ k, (Value.slice aw W.length cw).ownBlock = some k → k < w0.heap.size) := fun k hk => (World.ownsRow.lt HOW.out k hk).2
          clear hV hVl
          go_upto_region 16 with (at_builtin; refine wpList_append_own _ rfl (.tmp 52) (.tmp 53) 22 rfl w.heap.size 5 i0 _ 1 1 Tryd.underlying22 hi hz0 hz1 hz2 rfl (by decide) (.slice aw W.length cw) W.length (Lib.byteCells W) rfl HOW3.out ⟨gl, 0, none⟩ L.length cpl (Lib.byteCells L) rfl (by rw [Lib.byteCells_length, Nat.mul_one]) HNc.out (bc_one L) (by unfold maxLen; omega) (by omega) O3.out.size ?_; intro v' w4 hown' hgrow _; have O4 := hidOf (out_own rfl HOW3.out O3.out hgrow); have HN4 : Hid (OwB w.heap.size v' V w4) := OwB.mk hown' HV.out HVl.out.symm; have HG4 := hidOf (Chg.of_grown (S := fun k => (Value.slice aw W.length cw).ownBlock = some k) hgrow (fun k h => h)); obtain ⟨av, cv, rfl⟩ : ∃ ad cp, v' = .slice ad V.length cp := own_form HN4.out; clear hown' hgrow)
          have HOT4 : Hid (OwT w.heap.size (.slice tw T.length ct) T w4) := owns_chg HOT3.out (own_apart (by decide) HOT3.out HOW3.out) HG4.out
          have HOL4 : Hid (OwB w0.heap.size (.slice (some ⟨gl, 0, none⟩) L.length cpl) L w4) := owns_chg HN.out (fun k hk hk' => by have := HWlt.out k hk'; have := (World.ownsRow.lt HN.out k hk).1; omega) HG4.out
          clear HG4 HNc HOW3 HOT3 HN O3 HWlt
          by_cases hbig : 16777216 < V.length
          · have hbI : (16777216 : Int) < V.length := by omega
            go_wp2_with (go_at_call 11; refine (CA.out w4 O4.out).mono ?_; rintro e w5 ⟨rfl, ho⟩; have O5 := hidOf (Out.trans O4.out ho); clear ho)
            go_ret
            exact ⟨rfl, O5.out⟩
          · have hbI : ¬ (16777216 : Int) < V.length := by omega
            have hLV : L.length ≤ 16777216 := by have := HVl.out; omega
            obtain ⟨ar, cr, her, hcr, hrr⟩ := HOL4.out.rest
            simp only [Value.slice.injEq] at her
            obtain ⟨rfl, _, rfl⟩ := her
            have CT := hidOf (tokC w4 (HE.out.out O4.out) (some ⟨gl, 0, none⟩) cpl L hrr hcr (by omega))
            unfold TokC at CT
            have hone := one_tok (strip x) Hslf.out (by rw [← HOs'.out, ← HLe.out]; exact hLV)
            rw [← HOs'.out, ← HLe.out, HOs'.out] at hone
            have htlL := tokens_len L
            rw [HBd.out] at Hbs
            have HVc : Hid (V = cat (cs.take (i + 1))) := by rw [Hct.out, ← HW.out, HV.out, HLe.out, HOs'.out]; exact hidOf rfl
            clear hrr hcr HOL4
            by_cases hlp : (lineP (strip x)).1 = 0
            · rw [if_pos hlp] at hone
              obtain ⟨T1, e1, e2⟩ := hone
              rw [e1] at CT htlL
              simp only [List.length_append, List.length_cons, List.length_nil, Nat.zero_add] at CT htlL
              have hT1 : 1 ≤ T1.length := by have := congrArg List.length e2; simp at this; omega
              have hT1I : (1 : Int) ≤ T1.length := by omega
              have HB' : Hid (badOf 0 (cs.take (i + 1)) = (bn, be)) := by
                rw [Hbs.out, if_pos hlp]
                by_cases hb0 : bn = 0
                · rw [if_pos hb0, hb0, HBz.out hb0]; exact hidOf rfl
                · rw [if_neg hb0]; exact hidOf rfl
              obtain ⟨T2, hT2⟩ : ∃ T2, T2 = T ++ T1 := ⟨_, rfl⟩
              have hT2l : T2.length = T.length + T1.length := by rw [hT2]; simp
              have HT2 := hidOf hT2
              have HT2l := hidOf hT2l
              have HW2 : Hid (T2.map Tk.raw = wantR (cs.take (i + 1))) := by rw [Hws.out, if_pos hlp, HT2.out, List.map_append, HT.out, e2]; exact hidOf rfl
              clear hT2 hT2l e2 e1 hlp Hbs
              go_upto_region 25 with (go_at_call 15; refine CT.out.mono ?_; rintro e w5 ⟨b5, cp5, rfl, hcp5, ht, ho⟩; have O5 := hidOf (Out.trans O4.out ho); have P5 := hidOf ho; have T5 := hidOf ht; clear ht ho)
              obtain ⟨b6, o6, rfl, hc6⟩ := T5.out.at (by simp)
              have q6 := (hc6 T1.length ⟨0, [], 0, 1⟩ (by simp)).1
              simp only at q6
              have HC6 : Hid (∀ k x, T1[k]? = some x → w5.cell? ⟨b6, o6 + k * 4, none⟩ = some (.int .i64 x.k) ∧ w5.cell? ⟨b6, o6 + k * 4 + 1, none⟩ = some (.string ⟨x.t.toArray⟩) ∧ w5.cell? ⟨b6, o6 + k * 4 + 2, none⟩ = some (.int .u64 x.n) ∧ w5.cell? ⟨b6, o6 + k * 4 + 3, none⟩ = some (.int .i64 x.l)) := fun k y hy => hc6 k y (by rw [List.getElem?_append_left (List.getElem?_eq_some_iff.1 hy).1]; exact hy)
              have HNW := hidOf (tks_news HC6.out)
              have HOT5 := hidOf (HOT4.out.out P5.out)
              have HOV5 := hidOf (HN4.out.out P5.out)
              clear hc6
              have i1' : ¬ (T1.length : Int) + 1 < 2 := by omega
              have hT1b : (T1.length : Int) ≤ 33554433 := by omega
              have hcp5' : (T1.length : Int) ≤ cp5 := by omega
              go_wp2_with (at_builtin; refine wpList_append_own _ rfl (.tmp 92) (.tmp 97) 30 rfl w.heap.size 36 i1 _ 4 40 Tryd.underlying30 hi' hy0 hy1 hy2 rfl (by decide) (.slice tw T.length ct) T.length (tkV T) rfl HOT5.out ⟨b6, o6, none⟩ T1.length cp5 (tkV T1) rfl (tkV_len T1) HNW.out (tkV_one T1) (by unfold maxLen; omega) (by omega) O5.out.size ?_; intro v' w6 hown' hgrow _; have O6 := hidOf (out_own rfl HOT5.out O5.out hgrow); have HN6 : Hid (OwT w.heap.size v' T2 w6) := OwT.mk hown' HT2.out HT2l.out.symm; have HV6 : Hid (OwB w.heap.size (.slice av V.length cv) V w6) := owns_chg HOV5.out (own_apart (by decide) HOV5.out HOT5.out) (Chg.of_grown (S := fun k => (Value.slice tw T.length ct).ownBlock = some k) hgrow (fun k h => h)); obtain ⟨at6, ct6, rfl⟩ : ∃ ad cp, v' = .slice ad T2.length cp := own_form HN6.out; clear hown' hgrow)
              go_roundw
              case rel => exact ⟨i + 1, V, T2, av, at6, cv, ct6, rfl, rfl, by rw [HB'.out], by rw [HB'.out], by simp, by omega, by omega, HVc, HW2, HV6, HN6, O6⟩
              case measure => simp [intOf]; omega
            · rw [if_neg hlp] at hone
              rw [hone] at CT
              simp only [List.length_nil] at CT
              have hEI : ((lineP (strip x)).1 == 0) = false := by simpa using hlp
              have Hwn : Hid (T.map Tk.raw = wantR (cs.take (i + 1))) := by rw [Hws.out, if_neg hlp, List.append_nil]; exact HT
              rw [if_neg hlp, Htl.out] at Hbs
              generalize (lineP (strip x)).1 = E at *
              by_cases hb0 : bn = 0
              · subst hb0
                rw [if_pos rfl] at Hbs
                go_wp2_with (go_at_call 15; refine CT.out.mono ?_; rintro e w5 ⟨b5, cp5, rfl, hcp5, ht, ho⟩; have O5 := hidOf (Out.trans O4.out ho); have P5 := hidOf ho; clear ht ho)
                go_roundw
                case rel => exact ⟨i + 1, V, T, av, tw, cv, ct, rfl, rfl, by rw [Hbs.out]; simp, by rw [Hbs.out], by simp, by omega, by omega, HVc, Hwn, hidOf (HN4.out.out P5.out), hidOf (HOT4.out.out P5.out), O5⟩
                case measure => simp [intOf]; omega
              · have hb0' : ((bn : Int) == 0) = false := by simp only [beq_eq_false_iff_ne]; omega
                rw [if_neg hb0] at Hbs
                go_wp2_with (go_at_call 15; refine CT.out.mono ?_; rintro e w5 ⟨b5, cp5, rfl, hcp5, ht, ho⟩; have O5 := hidOf (Out.trans O4.out ho); have P5 := hidOf ho; clear ht ho)
                go_roundw
                case rel => exact ⟨i + 1, V, T, av, tw, cv, ct, rfl, rfl, by rw [Hbs.out], by rw [Hbs.out], by simp, by omega, by omega, HVc, Hwn, hidOf (HN4.out.out P5.out), hidOf (HOT4.out.out P5.out), O5⟩
                case measure => simp [intOf]; omega
    · have hltI : ¬ (i : Int) < Ls.length := by omega
      have hil : i = Ls.length := by omega
      have hcs : cs.take i = cs := List.take_of_length_le (by omega)
      have HW' := HW.out
      have HT' := HT.out
      have HB' := HBd.out
      rw [hcs] at HW' HT' HB'
      obtain ⟨ar, cr, her, hcr, hrr⟩ := HOW.out.rest
      simp only [Value.slice.injEq] at her
      obtain ⟨rfl, _, rfl⟩ := her
      have CT := hidOf (tokC wr (HE.out.out HO.out) aw cw W hrr hcr (by omega))
      unfold TokC at CT
      have hct := cat_tok cs Hlf.out (by rw [← HW']; exact hW)
      rw [← HW', HB'] at hct
      simp only at hct
      have htlW := tokens_len W
      have HNum := hidOf (num_P W)
      have hnI : (bn : Int) ≤ 4611686018427387904 := by omega
      by_cases hb0 : bn = 0
      · rw [if_pos hb0] at hct
        obtain ⟨T1, e1, e2⟩ := hct
        have hnum : numP 1 (T1 ++ [⟨0, [], 0, (cs.length : Int)⟩]) = true := by have := HNum.out (by rw [e1]); rw [e1] at this; exact this
        rw [e1] at CT htlW
        simp only [List.length_append, List.length_cons, List.length_nil, Nat.zero_add] at CT htlW
        have hraw : T1.map Tk.raw = T.map Tk.raw := by rw [e2, ← HT']
        have hll : T1.length = T.length := by have := congrArg List.length hraw; simpa using this
        obtain ⟨at2, ct2, het, hct2, htt⟩ := owns_tks HOT.out
        simp only [Value.slice.injEq] at het
        obtain ⟨rfl, _, rfl⟩ := het
        have HTT := hidOf htt
        have CK : Hid (∀ wx b cp, Out wr wx → TksAt wx b T1 → Calls Tryd.prog 21 #[.slice b T.length cp, .slice tw T.length ct, .bool false] wx fun e w' => e = .returned (.bool true) ∧ Out wx w') := fun wx b cp ho h1 => by
          have h2 := alike_any wx b tw cp ct T1 T false h1 (HTT.out.out ho) hraw (fun e => by cases e) (by omega)
          rw [hll] at h2
          exact h2
        have CN : Hid (∀ wx b cp, TksAt wx b (T1 ++ [⟨0, [], 0, (cs.length : Int)⟩]) → Calls Tryd.prog 22 #[.slice b (T.length + 1) cp] wx fun e w' => e = .returned (.bool true) ∧ Out wx w') := fun wx b cp h1 => by
          have := numbered_any wx b cp _ h1 hnum (by simp; omega)
          rw [List.length_append, hll] at this
          exact this
        rw [hll] at CT htlW
        have HT1t : Hid (∀ wx b, TksAt wx b (T1 ++ [⟨0, [], 0, (cs.length : Int)⟩]) → TksAt wx b T1) := fun wx b h => by
          rcases h with h | ⟨g, o, ha, hc⟩
          · simp at h
          · exact .inr ⟨g, o, ha, fun k y hy => hc k y (by rw [List.getElem?_append_left (List.getElem?_eq_some_iff.1 hy).1]; exact hy)⟩
        subst hb0
        have hTb : (T.length : Int) ≤ 33554433 := by omega
        clear hnum hraw hll e1 e2 hrr hcr htt HW' HT' HB' hcs hct2 hil hcl hi2 hbd htl hlt hl
        go_upto_region 29 with (go_at_call 15; refine CT.out.mono ?_; rintro e w5 ⟨b5, cp5, rfl, hcp5, ht, ho⟩; have O5 := hidOf (Out.trans HO.out ho); have P5 := hidOf ho; have T5 := hidOf ht; clear ht ho)
        have hcp5' : (T.length : Int) ≤ cp5 := by omega
        go_upto_region 33 with fail
        go_wp2_with (first | (go_at_call 21; refine (CK.out w5 b5 cp5 P5.out (HT1t.out w5 b5 T5.out)).mono ?_; rintro e w6 ⟨rfl, ho⟩; have O6 := hidOf (Out.trans O5.out ho); have T6 := hidOf (T5.out.out ho); clear ho) | (go_at_call 22; refine (CN.out w6 b5 cp5 T6.out).mono ?_; rintro e w7 ⟨rfl, ho⟩; have O7 := hidOf (Out.trans O6.out ho); clear ho) | (go_at_call 11; refine (CA.out w7 O7.out).mono ?_; rintro e w8 ⟨rfl, ho⟩; have O8 := hidOf (Out.trans O7.out ho); clear ho))
        go_ret
        exact ⟨rfl, O8.out⟩
      · rw [if_neg hb0] at hct
        have hbe : ¬ be = 0 := by have := (badOf_pos cs 0 (by rw [HB']; exact hb0)).1; rw [HB'] at this; exact this
        have hb1 : (0 : Int) < bn := by omega
        rw [hct] at CT
        simp only [List.length_nil] at CT
        clear hct hrr hcr HW' HT' HB' hcs hil hcl hi2 hbd htl hlt hl
        go_wp2_with (first | (go_at_call 15; refine CT.out.mono ?_; rintro e w5 ⟨b5, cp5, rfl, hcp5, ht, ho⟩; have O5 := hidOf (Out.trans HO.out ho); clear ht ho) | (go_at_call 11; refine (CA.out w5 O5.out).mono ?_; rintro e w6 ⟨rfl, ho⟩; have O6 := hidOf (Out.trans O5.out ho); clear ho))
        go_ret
        exact ⟨rfl, O6.out⟩
end Go.Proofs.YtfhmhdhaibmcfaaDoor
