import Derived.Test.YtlfcjbeldnkkoaaGb49
namespace Go.Proofs.Ytlfcjbeldnkkoaa
open Go.RowKit
set_option linter.unusedVariables false
set_option linter.unusedSimpArgs false
theorem rread9_rows (w : World) (g off c : Nat) (b : List UInt8) (hB : Bin w g off c b) (h64 : 64 ≤ b.length) (hh : hdFlt b = none) (a : Nat) (h : (tkF b (tpP b).toNat (cntP b) (tpP b).toNat 64 []).2 = some a) : Calls Try.prog 11 #[.slice (some ⟨g, off, none⟩) b.length c] w fun e w' => e = .returned (.tuple #[.slice none 0 0, .int .i64 (a : Int), .int .i64 92]) ∧ Out w w' := by
  have h64I : ¬ (b.length : Int) < 64 := by omega
  have CH := hidOf (headed9_any w g off c b hB.lt hB.at_ hB.cap h64 hB.big)
  rw [hdRes_none hh] at CH
  have hHd := hdOk_of h64 hB.big hh
  have CR : Hid (∀ wx, Out w wx → Calls Try.prog 35 #[.slice (some ⟨g, off, none⟩) b.length c] wx fun e w' => e = .returned (.tuple #[.slice none 0 0, .int .i64 (a : Int)]) ∧ Out wx w') := hidOf (fun wx o => (rows9_any wx g off c b (Nat.lt_of_lt_of_le hB.lt o.size) (hB.at_.out hB.lt o) hB.cap hB.big _ _ hHd).mono (fun e w' h2 => by
    obtain ⟨ho, h3⟩ := h2
    rw [h] at h3
    exact ⟨h3, ho⟩))
  have ha : (0 : Int) ≤ a := by omega
  clear hB h hHd
  go_enter Try.func11, Try.ntmps11
  go_wp2_with (first | (go_at_call 34; refine CH.out.mono ?_; rintro e w1 ⟨rfl, ho⟩; have O1 := hidOf ho; clear ho) | (go_at_call 35; refine (CR.out w1 O1.out).mono ?_; rintro e w2 ⟨rfl, ho⟩; have O2 := hidOf ho; clear ho))
  go_ret3
  exact ⟨rfl, O1.out.trans O2.out⟩
theorem RowsE.good {w w' : World} {b : List UInt8} {T k : Nat} {E : List En} {e : Ending} (h : RowsE w b T k e w') (hE : tkF b T k T 64 [] = (E, none)) : Out w w' ∧ ∃ a ca, e = .returned (.tuple #[.slice a (k - 1) ca, .int .i64 (-1)]) ∧ OwSp w.heap.size (.slice a (k - 1) ca) (spsE E) w' ∧ (spsE E).length = k - 1 := by
  obtain ⟨ho, h2⟩ := h
  rw [hE] at h2
  exact ⟨ho, h2⟩
theorem spsE_pad {b : List UInt8} {T k : Nat} {E : List En} {nb : En} (r : Rdg b T k E nb) : padS b (spsE E) = padF b E := by
  have hk := r.k2
  obtain ⟨e0, E', hE⟩ : ∃ e0 E', E = e0 :: E' := by
    cases hE : E with
    | nil => have := r.len; rw [hE] at this; simp at this; omega
    | cons e0 E' => exact ⟨e0, E', rfl⟩
  have hok := r.ok
  obtain ⟨k', rfl⟩ : ∃ k', k = k' + 1 := ⟨k - 1, by omega⟩
  obtain ⟨m, R', hf, hm, hle, he, _⟩ := hok
  have hrw : (rowW T b.length T 64).fds = zRw.fds := by unfold rowW; rw [if_pos rfl]
  rw [hrw] at hf
  have h0 : m = 0 := by
    have := (flt_get ((b.drop T).take 64) zRw.fds 5 0 ⟨8, 0, 0⟩ hf rfl).2
    rw [show 0 + widF (zRw.fds.take 5) = 32 by decide] at this
    have h2 : fldI ((b.drop T).take 64) 32 8 = 0 := by unfold fldI; rw [Nat.le_zero.1 this]; exact wrap64_small 0 (by omega)
    rw [h2] at hm; omega
  have hen : e0.en.toNat = 64 := by
    rw [hE] at he
    cases he
    show ((64 : Nat) + fldI ((b.drop T).take 64) 32 8 : Int).toNat = 64
    rw [hm, h0]; rfl
  unfold spsE
  rw [hE, List.drop_succ_cons, List.drop_zero, padS_E b E' (fun e he => by
    have := r.all e (by rw [hE]; simp [he])
    exact ⟨this.bg, this.be⟩), padF, hen]
  rfl
theorem spsE_up {b : List UInt8} {T k : Nat} {E : List En} {nb : En} (r : Rdg b T k E nb) : ∀ s ∈ spsE E, up8 (s.1 + s.2) ≤ b.length := fun s hs => by
  obtain ⟨e, he, rfl⟩ := List.mem_map.1 hs
  have h := r.all e (List.mem_of_mem_drop he)
  have e1 : (spE e).1 + (spE e).2 = e.en.toNat := by have := h.bg; have := h.be; simp only [spE]; omega
  rw [e1]
  have := h.up
  have := r.hk
  omega
theorem nmG_plR (N : List (List UInt8)) : ∀ (b : Nat) (R : List En) (pl : Int), (nmG N b R).2.2 = some pl → ∃ e ∈ R, pl = e.pl
  | b, [], pl, h => by simp [nmG] at h
  | b, e :: r, pl, h => by
    rw [nmG] at h
    split at h
    · simp at h; exact ⟨e, by simp, h.symm⟩
    · split at h
      · simp at h; exact ⟨e, by simp, h.symm⟩
      · obtain ⟨e', he, h2⟩ := nmG_plR N _ r pl h
        exact ⟨e', by simp [he], h2⟩
/-- the entries with their names, against those without -/
theorem nm_same {A B : List En} (h : A.map noNm = B.map noNm) {i : Nat} {x : En} (hx : A[i]? = some x) : ∃ y, B[i]? = some y ∧ noNm x = noNm y := by
  have h1 : (A.map noNm)[i]? = some (noNm x) := by simp [hx]
  rw [h, List.getElem?_map] at h1
  obtain ⟨y, hy, e⟩ := Option.map_eq_some_iff.1 h1
  exact ⟨y, hy, e.symm⟩
theorem SS.lower {w0 w w' : World} {lv : Value} {Ls : List SV} (h : SS w w' lv Ls) (o : Out w0 w) : SS w0 w' lv Ls := ⟨own_base h.own o.size, fun x hx => own_base (h.dat x hx) o.size, o.trans h.out, h.dst⟩
/-- what is read stays where another list grows -/
theorem cells_grow {wb X w6 : World} {gn i q : Nat} {lv : Value} {x1 x2 x3 : Value} (hK : ∀ wx, Out wb wx → wx.cell? ⟨gn, i, none⟩ = some x1 ∧ wx.cell? ⟨q, 0, none⟩ = some x2 ∧ wx.cell? ⟨q, 1, none⟩ = some x3) (hne : (∀ k, lv.ownBlock = some k → ¬ k = gn) ∧ ∀ k, lv.ownBlock = some k → ¬ k = q) (hg : X.grownBy w6 lv.ownBlock) (o : Out wb X) : w6.cell? ⟨gn, i, none⟩ = some x1 ∧ w6.cell? ⟨q, 0, none⟩ = some x2 ∧ w6.cell? ⟨q, 1, none⟩ = some x3 := by
  have c : Chg (fun k => lv.ownBlock = some k) X w6 := Chg.of_grown hg (fun k hk => hk)
  obtain ⟨h1, h2, h3⟩ := hK X o
  exact ⟨c.cell h1 (fun h => hne.1 _ h rfl), c.cell h2 (fun h => hne.2 _ h rfl), c.cell h3 (fun h => hne.2 _ h rfl)⟩
set_option maxRecDepth 8000 in
set_option maxHeartbeats 8000000 in
/-- behind rows -/
theorem rread9_tail (w : World) (g off c : Nat) (b : List UInt8) (hB : Bin w g off c b) (h64 : 64 ≤ b.length) (hh : hdFlt b = none) (T k : Nat) (E : List En) (nb : En) (r : Rdg b T k E nb) : Calls Try.prog 11 #[.slice (some ⟨g, off, none⟩) b.length c] w fun e w' => RdEnd w b e w' := by
  have hT : (tpP b).toNat = T := by rw [r.tp]; rfl
  have h64I : ¬ (b.length : Int) < 64 := by omega
  have CH := hidOf (headed9_any w g off c b hB.lt hB.at_ hB.cap h64 hB.big)
  rw [hdRes_none hh] at CH
  have hHd := hdOk_of h64 hB.big hh
  rw [hT, r.cnt] at hHd
  obtain ⟨K, hK⟩ : ∃ K, k = K + 2 := ⟨k - 2, by have := r.k2; omega⟩
  have hK1 : k - 1 = K + 1 := by omega
  have hK18 : K ≤ 16 := by have := r.k18; omega
  have CR : Hid (∀ wx, Out w wx → Calls Try.prog 35 #[.slice (some ⟨g, off, none⟩) b.length c] wx fun e w' => ∃ a ca, e = .returned (.tuple #[.slice a (K + 1) ca, .int .i64 (-1)]) ∧ OwSp wx.heap.size (.slice a (K + 1) ca) (spsE E) w' ∧ Out wx w') := hidOf (fun wx o => (rows9_any wx g off c b (Nat.lt_of_lt_of_le hB.lt o.size) (hB.at_.out hB.lt o) hB.cap hB.big _ _ hHd).mono (fun e w' h2 => by
    obtain ⟨ho, a, ca, he, hs, _⟩ := h2.good r.tk
    rw [hK1] at he hs
    exact ⟨a, ca, he, hs, ho⟩))
  have HSl : Hid ((spsE E).length = K + 1) := hidOf (by rw [spsE_len, r.len]; exact hK1)
  have CP : Hid (∀ wx B a ca, Out w wx → OwSp B (.slice a (K + 1) ca) (spsE E) wx → K + 1 ≤ ca → Calls Try.prog 36 #[.slice (some ⟨g, off, none⟩) b.length c, .slice a (K + 1) ca] wx fun e w' => e = .returned (.int .i64 (optI (padF b E))) ∧ Out wx w') := hidOf (fun wx B a ca o hs hc => by
    have h := padding9_any wx g off c b (Nat.lt_of_lt_of_le hB.lt o.size) (hB.at_.out hB.lt o) hB.cap hB.big B a ca (spsE E) (by rw [HSl.out]; exact hs) (by rw [HSl.out]; exact hc) (by rw [HSl.out]; omega) (spsE_up r)
    rw [HSl.out, spsE_pad r] at h
    exact h)
  have hnb := r.all nb (List.mem_of_getElem? r.last)
  obtain ⟨B0, hB0⟩ : ∃ B0 : Nat, nb.bg = B0 := ⟨nb.bg.toNat, by have := hnb.bg; omega⟩
  obtain ⟨sz, hsz⟩ : ∃ sz : Nat, nb.en = ((B0 + sz : Nat) : Int) := ⟨nb.en.toNat - B0, by have := hnb.be; omega⟩
  have CN : Hid (∀ wx B a ca, Out w wx → OwSp B (.slice a (K + 1) ca) (spsE E) wx → K + 1 ≤ ca → Calls Try.prog 37 #[.slice (some ⟨g, off, none⟩) b.length c, .slice a (K + 1) ca] wx fun e w' => NmE wx b E B0 (B0 + sz) (K + 1) e w') := hidOf (fun wx B a ca o hs hc => by
    cases hN : (rdP ((b.drop B0).take sz)).1 with
    | none => exact named9_bad wx g off c b (Nat.lt_of_lt_of_le hB.lt o.size) (hB.at_.out hB.lt o) hB.cap hB.big T k E nb r hHd B a ca K hK hs HSl.out hc B0 sz hB0 hsz hN
    | some N => exact named9_good wx g off c b (Nat.lt_of_lt_of_le hB.lt o.size) (hB.at_.out hB.lt o) hB.cap hB.big T k E nb r hHd B a ca K hK hs HSl.out hc B0 sz hB0 hsz N hN)
  have hc2 : ∀ {B : Nat} {a : Option Addr} {ca : Nat} {wx : World}, OwSp B (.slice a (K + 1) ca) (spsE E) wx → K + 1 ≤ ca := fun h => by
    rcases h.2 with ⟨_, h0⟩ | ⟨g', cap, cur, e, _, _, hcap, _⟩
    · have := HSl.out; omega
    · simp only [Value.slice.injEq] at e
      have := HSl.out
      omega
  have hTN : tnR b E nb.bg.toNat nb.en.toNat = tnR b E B0 (B0 + sz) := by rw [hB0, hsz, Int.toNat_natCast, Int.toNat_natCast]
  cases hp : padF b E with
  | some a =>
    have HR := hidOf (fun w' => RdEnd.bad (w := w) (w' := w') (b := b) (rdEl_pad hh r hp))
    rw [hp] at CP
    have ha : (0 : Int) ≤ a := by omega
    have hoi : optI (some a) = (a : Int) := rfl
    rw [hoi] at CP
    clear hB hHd r CN hnb hB0 hsz hTN hoi
    go_enter Try.func11, Try.ntmps11
    go_wp2_with (first | (go_at_call 34; refine CH.out.mono ?_; rintro e w1 ⟨rfl, ho⟩; have O1 := hidOf ho; clear ho) | (go_at_call 35; refine (CR.out w1 O1.out).mono ?_; rintro e w2 ⟨a2, ca2, rfl, hs, ho⟩; have S2 := hidOf hs; have O2 := hidOf (O1.out.trans ho); have HC2 := hidOf (hc2 hs); clear ho hs) | (go_at_call 36; refine (CP.out w2 _ a2 ca2 O2.out S2.out HC2.out).mono ?_; rintro e w3 ⟨rfl, ho⟩; have O3 := hidOf (O2.out.trans ho); clear ho))
    go_ret3
    exact HR.out _ O3.out
  | none =>
    rw [hp] at CP
    have hoi : optI none = -1 := rfl
    rw [hoi] at CP
    cases htn : (tnR b E B0 (B0 + sz)).2.1 with
    | true =>
      have HR := hidOf (fun w' => RdEnd.bad (w := w) (w' := w') (b := b) (rdEl_nm hh r hp (by rw [hTN]; exact htn)))
      rw [hTN] at HR
      have CN2 : Hid (∀ wx B a ca, Out w wx → OwSp B (.slice a (K + 1) ca) (spsE E) wx → K + 1 ≤ ca → Calls Try.prog 37 #[.slice (some ⟨g, off, none⟩) b.length c, .slice a (K + 1) ca] wx fun e w' => e = .returned (.tuple #[.slice none 0 0, .int .i64 (tnR b E B0 (B0 + sz)).1]) ∧ Out wx w') := hidOf (fun wx B a ca o hs hc => (CN.out wx B a ca o hs hc).mono (fun e w' h => by
        obtain ⟨ho, ⟨_, he⟩ | ⟨hf, _⟩⟩ := h
        · exact ⟨he, ho⟩
        · rw [htn] at hf; cases hf))
      have hge : 0 ≤ (tnR b E B0 (B0 + sz)).1 := by
        unfold tnR
        split
        · simp only; omega
        · split
          · rename_i N hN pl hpl
            obtain ⟨e, he, rfl⟩ := nmG_plR _ _ _ _ hpl
            obtain ⟨i, hi⟩ := List.getElem?_of_mem (List.mem_of_mem_drop he)
            show 0 ≤ e.pl
            rw [(r.na hi).2]
            omega
          · simp only; omega
      generalize (tnR b E B0 (B0 + sz)).1 = z at *
      clear hB hHd r CN hnb hB0 hsz hTN hoi htn
      go_enter Try.func11, Try.ntmps11
      go_wp2_with (first | (go_at_call 34; refine CH.out.mono ?_; rintro e w1 ⟨rfl, ho⟩; have O1 := hidOf ho; clear ho) | (go_at_call 35; refine (CR.out w1 O1.out).mono ?_; rintro e w2 ⟨a2, ca2, rfl, hs, ho⟩; have S2 := hidOf hs; have O2 := hidOf (O1.out.trans ho); have HC2 := hidOf (hc2 hs); clear ho hs) | (go_at_call 36; refine (CP.out w2 _ a2 ca2 O2.out S2.out HC2.out).mono ?_; rintro e w3 ⟨rfl, ho⟩; have O3 := hidOf (O2.out.trans ho); have S3 := hidOf (own_at S2.out ho); clear ho) | (go_at_call 37; refine (CN2.out w3 _ a2 ca2 O3.out S3.out HC2.out).mono ?_; rintro e w4 ⟨rfl, ho⟩; have O4 := hidOf (O3.out.trans ho); clear ho))
      go_ret3
      exact HR.out _ O4.out
    | false =>
      have hSR := rdEl_ok hh r hp (by rw [hTN]; exact htn)
      rw [hTN] at hSR
      have CN2 : Hid (∀ wx B a ca, Out w wx → OwSp B (.slice a (K + 1) ca) (spsE E) wx → K + 1 ≤ ca → Calls Try.prog 37 #[.slice (some ⟨g, off, none⟩) b.length c, .slice a (K + 1) ca] wx fun e w' => ∃ an cn, e = .returned (.tuple #[.slice an (K + 1) cn, .int .i64 (-1)]) ∧ OwS wx.heap.size (.slice an (K + 1) cn) (((tnR b E B0 (B0 + sz)).2.2.drop 1).map En.nm) w' ∧ ((tnR b E B0 (B0 + sz)).2.2.drop 1).length = K + 1 ∧ Out wx w') := hidOf (fun wx B a ca o hs hc => (CN.out wx B a ca o hs hc).mono (fun e w' h => by
        obtain ⟨ho, ⟨hf, _⟩ | ⟨_, an, cn, he, hw, hl⟩⟩ := h
        · rw [htn] at hf; cases hf
        · exact ⟨an, cn, he, hw, hl, ho⟩))
      have HDn : Hid (((tnR b E B0 (B0 + sz)).2.2.drop 1).map noNm = (E.drop 1).map noNm) := hidOf (by
        obtain ⟨N, h1, h2, h3, h4⟩ := tnR_ok htn
        rw [h4, List.drop_append_of_le_length (by rw [List.length_take, r.len]; omega)]
        have : (E.take 1).drop 1 = [] := by simp
        rw [this, List.nil_append, nmG_but])
      have C40 : Hid (∀ wx, Out w wx → Calls Try.prog 38 #[.slice (some ⟨g, off, none⟩) b.length c, .int .i64 40, .int .i64 8] wx fun e w' => e = .returned (.int .i64 (T : Int)) ∧ w' = wx) := hidOf (fun wx o => by
        have h := at9_any wx g off c b (hB.at_.out hB.lt o) hB.cap hB.big 40 8 (by omega) (by have := r.hk; have := r.hT; omega)
        rw [hHd.t] at h
        exact h)
      have CA : Hid (∀ wx, Out w wx → ∀ row o n : Nat, (n = 2 ∨ n = 4 ∨ n = 8) → row + o + n ≤ b.length → Calls Try.prog 38 #[.slice (some ⟨g, off, none⟩) b.length c, .int .i64 ((row : Int) + (o : Int)), .int .i64 (n : Int)] wx fun e w' => e = .returned (.int .i64 (atP b (row + o) n)) ∧ w' = wx) := hidOf (fun wx ow row o n hn hr => by
        have h := at9_any wx g off c b (hB.at_.out hB.lt ow) hB.cap hB.big (row + o) n hn (by omega)
        rw [Int.natCast_add] at h
        exact h)
      generalize hDD : (tnR b E B0 (B0 + sz)).2.2.drop 1 = D at *
      have HSR := hidOf hSR
      have Hr := hidOf r
      have HBn := hidOf hB
      have hHdk := r.hk
      have hTI : (T : Int) ≤ 1000000000000 := by have := hB.big; omega
      have hT0 : (0 : Int) ≤ T := by omega
      have hlI : (b.length : Int) ≤ 1000000000000 := by have := hB.big; omega
      have hcI : (b.length : Int) ≤ c := by have := hB.cap; omega
      have hKI : (K : Int) ≤ 16 := by omega
      obtain ⟨i0, hi, hz0, hz1, hz2⟩ := info_parts infoSc
      obtain ⟨j0, ji, jz0, jz1, jz2⟩ := info_parts infoB
      clear hB r hHd CN hnb hB0 hsz hTN hoi htn hSR hDD
      go_enter Try.func11, Try.ntmps11
      go_wp2_with (first | (go_at_call 34; refine CH.out.mono ?_; rintro e w1 ⟨rfl, ho⟩; have O1 := hidOf ho; clear ho) | (go_at_call 35; refine (CR.out w1 O1.out).mono ?_; rintro e w2 ⟨a2, ca2, rfl, hs, ho⟩; have S2 := hidOf hs; have O2 := hidOf (O1.out.trans ho); have HC2 := hidOf (hc2 hs); clear ho hs) | (go_at_call 36; refine (CP.out w2 _ a2 ca2 O2.out S2.out HC2.out).mono ?_; rintro e w3 ⟨rfl, ho⟩; have O3 := hidOf (O2.out.trans ho); have S3 := hidOf (own_at S2.out ho); clear ho) | (go_at_call 37; refine (CN2.out w3 _ a2 ca2 O3.out S3.out HC2.out).mono ?_; rintro e w4 ⟨an, cn, rfl, hw, hl, ho⟩; have O4 := hidOf (O3.out.trans ho); have S4 := hidOf (own_at S3.out ho); have N4 := hidOf hw; have Dl := hidOf hl; clear ho hw hl) | (go_at_call 38; refine (C40.out w4 O4.out).mono ?_; rintro e w5 ⟨rfl, hw⟩; have hw := hw.symm; subst hw))
      clear CH CR CP CN2 C40 S2 S3
      go_loopw [10, 11, 12] (fun rv ov iv wr => ∃ (i rw : Nat) (Ls : List SV) (ao : Option Addr) (co : Nat), rv = .int .i64 rw ∧ ov = .slice ao i co ∧ iv = .int .i64 i ∧ i ≤ K ∧ Hid (rw = T + 64 * i) ∧ Hid (Ls.length = i) ∧ Hid (secs Ls = (D.take i).map (secE b)) ∧ Hid (SS w4 wr (.slice ao i co) Ls)) (fun _ _ iv _ => K - (intOf iv).toNat)
      case atStart => exact ⟨0, T, [], none, 0, rfl, rfl, rfl, by omega, hidOf (by omega), hidOf rfl, hidOf rfl, hidOf ⟨World.ownsRow_nil _ _ _ _, fun x hx => (by cases hx), Out.refl _, fun i j x y hx => by simp at hx⟩⟩
      case round =>
        obtain ⟨i, rw, Ls, ao, co, rfl, rfl, rfl, hi', Hrw, HLl, HSe, HS⟩ := hrel
        have hi0 : (0 : Int) ≤ i := by omega
        by_cases hlt : i < K
        · have hltI : (i : Int) < K := by omega
          obtain ⟨x, hx⟩ : ∃ x, D[i]? = some x := ⟨_, List.getElem?_eq_getElem (by rw [Dl.out]; omega)⟩
          obtain ⟨y, hy, hxy⟩ := nm_same HDn.out hx
          rw [List.getElem?_drop] at hy
          obtain ⟨f1, f2, f3, f4, f5, f6⟩ := sec_at Hr.out Hr.out.h8 (by omega) hy (by omega) (by have := Hr.out.hk; omega)
          have hye := Hr.out.all y (List.mem_of_getElem? hy)
          have hspan : (spsE E)[i]? = some (spE y) := by
            unfold spsE
            rw [List.getElem?_map, List.getElem?_drop, hy]; rfl
          obtain ⟨Bg, hBg⟩ : ∃ z, z = y.bg.toNat := ⟨_, rfl⟩
          obtain ⟨Sz, hSz⟩ : ∃ z, z = y.en.toNat - Bg := ⟨_, rfl⟩
          rw [show spE y = (Bg, Sz) by unfold spE; rw [hSz, hBg]] at hspan
          have hBS : Bg + Sz ≤ T := by have := hye.bg; have := hye.be; have := hye.en; omega
          have hsec : secE b x = ⟨x.nm, x.ty, x.fl, x.li, x.inf, x.al, x.es, (b.drop Bg).take Sz⟩ := by
            have g1 : x.bg = y.bg := by have := congrArg En.bg hxy; exact this
            have g2 : x.en = y.en := by have := congrArg En.en hxy; exact this
            unfold secE
            rw [g1, g2, ← hBg, ← hSz]
          have e1 : x.ty = y.ty := by have h := congrArg En.ty hxy; exact h
          have e2 : x.fl = y.fl := by have h := congrArg En.fl hxy; exact h
          have e3 : x.li = y.li := by have h := congrArg En.li hxy; exact h
          have e4 : x.inf = y.inf := by have h := congrArg En.inf hxy; exact h
          have e5 : x.al = y.al := by have h := congrArg En.al hxy; exact h
          have e6 : x.es = y.es := by have h := congrArg En.es hxy; exact h
          obtain ⟨r2, hr2⟩ : ∃ r2, r2 = rw + 64 := ⟨_, rfl⟩
          have hr2I : (rw : Int) + 64 = r2 := by omega
          have hr2e : T + 64 * (1 + i) = r2 := by have := Hrw.out; omega
          rw [hr2e] at f1 f2 f3 f4 f5 f6
          have hrl : r2 + 64 ≤ b.length := by have := Hr.out.hk; omega
          have KA : ∀ (o n : Nat) (z : Int), (n = 2 ∨ n = 4 ∨ n = 8) → o + n ≤ 64 → atP b (r2 + o) n = z → Hid (∀ wx, Out w4 wx → Calls Try.prog 38 #[.slice (some ⟨g, off, none⟩) b.length c, .int .i64 ((r2 : Int) + (o : Int)), .int .i64 (n : Int)] wx fun e w' => e = .returned (.int .i64 z) ∧ w' = wx) := fun o n z hn ho hz => hidOf (fun wx ow => by
            have h := CA.out wx (O4.out.trans ow) r2 o n hn (by omega)
            rw [hz] at h
            exact h)
          have K4 : Hid (∀ wx, Out w4 wx → Calls Try.prog 38 #[.slice (some ⟨g, off, none⟩) b.length c, .int .i64 ((r2 : Int) + 4), .int .i64 4] wx fun e w' => e = .returned (.int .i64 x.ty) ∧ w' = wx) := KA 4 4 x.ty (by omega) (by omega) (by rw [atP4, e1, f1])
          have K8 : Hid (∀ wx, Out w4 wx → Calls Try.prog 38 #[.slice (some ⟨g, off, none⟩) b.length c, .int .i64 ((r2 : Int) + 8), .int .i64 8] wx fun e w' => e = .returned (.int .i64 x.fl) ∧ w' = wx) := KA 8 8 x.fl (by omega) (by omega) (by rw [e2, f2])
          have K40 : Hid (∀ wx, Out w4 wx → Calls Try.prog 38 #[.slice (some ⟨g, off, none⟩) b.length c, .int .i64 ((r2 : Int) + 40), .int .i64 4] wx fun e w' => e = .returned (.int .i64 x.li) ∧ w' = wx) := KA 40 4 x.li (by omega) (by omega) (by rw [atP4, e3, f3])
          have K44 : Hid (∀ wx, Out w4 wx → Calls Try.prog 38 #[.slice (some ⟨g, off, none⟩) b.length c, .int .i64 ((r2 : Int) + 44), .int .i64 4] wx fun e w' => e = .returned (.int .i64 x.inf) ∧ w' = wx) := KA 44 4 x.inf (by omega) (by omega) (by rw [atP4, e4, f4])
          have K48 : Hid (∀ wx, Out w4 wx → Calls Try.prog 38 #[.slice (some ⟨g, off, none⟩) b.length c, .int .i64 ((r2 : Int) + 48), .int .i64 8] wx fun e w' => e = .returned (.int .i64 x.al) ∧ w' = wx) := KA 48 8 x.al (by omega) (by omega) (by rw [e5, f5])
          have K56 : Hid (∀ wx, Out w4 wx → Calls Try.prog 38 #[.slice (some ⟨g, off, none⟩) b.length c, .int .i64 ((r2 : Int) + 56), .int .i64 8] wx fun e w' => e = .returned (.int .i64 x.es) ∧ w' = wx) := KA 56 8 x.es (by omega) (by omega) (by rw [e6, f6])
          have hnm : (D.map En.nm)[i]? = some x.nm := by simp [hx]
          have hNl : (D.map En.nm).length = K + 1 := by rw [List.length_map]; exact Dl.out
          have hrt := OwS.rt (B := w3.heap.size) (w := w4) (N := D.map En.nm) (a := an) (c := cn) (by rw [hNl]; exact N4.out)
          obtain ⟨gn, offn, hgan, hgnlt, dnm⟩ := StrAt.get (hrt.1) hnm
          have hcn := hrt.2
          rw [hNl] at hcn
          obtain ⟨cs1, fr1, hnk⟩ : ∃ cs1 fr1, w4.heap[gn]? = some (.cells cs1 9 fr1) := by
            obtain ⟨cs, h1⟩ := own_cells9 N4.out (b := gn) (by rw [hgan]; rfl)
            exact ⟨cs, _, h1⟩
          subst hgan
          have Hds : Hid ((D.take (i + 1)).map (secE b) = (D.take i).map (secE b) ++ [secE b x]) := hidOf (by rw [List.take_add_one, hx]; simp)
          obtain ⟨ga, hga, q0, q1⟩ := OwSp.cells (own_at S4.out HS.out.out : OwSp _ _ _ wr) hspan
          subst hga
          have dnr := cell_later HS.out.out dnm
          have hKc : (K : Int) + 1 ≤ ca2 := by have := HC2.out; omega
          have hKn : (K : Int) + 1 ≤ cn := by omega
          have hdl : ((b.drop Bg).take Sz).length = Sz := by rw [List.length_take, List.length_drop]; omega
          generalize hdd : (b.drop Bg).take Sz = dd at *
          have Hdd := hidOf hdd
          have Hdl := hidOf hdl
          have Hsec := hidOf hsec
          have Hnk := hidOf hnk
          clear hx hy hxy f1 f2 f3 f4 f5 f6 hye hspan hBg hSz hsec e1 e2 e3 e4 e5 e6 KA hnm hNl hrt hdd hdl hnk dnm hr2
          have Hr2e : Hid (r2 = T + 64 * (i + 1)) := hidOf (by omega)
          clear hr2e
          have hrlI : (r2 : Int) + 64 ≤ b.length := by omega
          have hr20 : (0 : Int) ≤ r2 := by omega
          have hBg0 : (0 : Int) ≤ Bg := by omega
          have hSz0 : (0 : Int) ≤ Sz := by omega
          have hBSI : (Bg : Int) + Sz ≤ b.length := by omega
          have hBSc : (Bg : Int) + Sz ≤ c := by omega
          have hBlt : (Bg : Int) < c := by omega
          have v4 : IntKind.i64.wrap ((r2 : Int) + 4) = (r2 : Int) + 4 := by rw [IntKind.wrap_i64] <;> omega
          have v8 : IntKind.i64.wrap ((r2 : Int) + 8) = (r2 : Int) + 8 := by rw [IntKind.wrap_i64] <;> omega
          have v40 : IntKind.i64.wrap ((r2 : Int) + 40) = (r2 : Int) + 40 := by rw [IntKind.wrap_i64] <;> omega
          have v44 : IntKind.i64.wrap ((r2 : Int) + 44) = (r2 : Int) + 44 := by rw [IntKind.wrap_i64] <;> omega
          have v48 : IntKind.i64.wrap ((r2 : Int) + 48) = (r2 : Int) + 48 := by rw [IntKind.wrap_i64] <;> omega
          have v56 : IntKind.i64.wrap ((r2 : Int) + 56) = (r2 : Int) + 56 := by rw [IntKind.wrap_i64] <;> omega
          obtain ⟨E1, hE1⟩ : ∃ E1, E1 = Bg + Sz := ⟨_, rfl⟩
          have hsum : IntKind.i64.wrap ((Bg : Int) + Sz) = (E1 : Int) := by rw [IntKind.wrap_i64] <;> omega
          have hbeI : (Bg : Int) ≤ E1 := by omega
          have hbeN : Bg ≤ E1 := by omega
          have hE1c : (E1 : Int) ≤ c := by omega
          have hE1b : (E1 : Int) ≤ b.length := by omega
          have hES : E1 - Bg = Sz := by omega
          have hiK1 : (i : Int) < K + 1 := by omega
          obtain rfl : offn = 0 := by
            rcases N4.out.2 with ⟨h, _⟩ | ⟨g', cap, cur, h, _⟩
            · cases h
            · simp only [Value.slice.injEq, Option.some.injEq, Addr.mk.injEq] at h
              exact h.1.2.1
          rw [Nat.zero_add] at dnr
          have HE1 := hidOf hE1
          clear hE1 hBSI hBSc hBS
          have hcB : ¬ c = Bg := by omega
          obtain ⟨q, hq⟩ : ∃ q, q = wr.heap.size := ⟨_, rfl⟩
          have HX : Hid ((wr.alloc (.cells #[.int .i64 (Bg : Int), .int .i64 (Sz : Int)] 90)).heap[q]? = some (.cells #[.int .i64 (Bg : Int), .int .i64 (Sz : Int)] 90 (0, 0))) := hidOf (by rw [hq]; exact heap_alloc_new wr _)
          have HS1 := hidOf (HS.out.on ((Out.refl wr).alloc (.cells #[.int .i64 (Bg : Int), .int .i64 (Sz : Int)] 90)))
          have HN1 := hidOf (cell_later ((Out.refl wr).alloc (.cells #[.int .i64 (Bg : Int), .int .i64 (Sz : Int)] 90)) dnr)
          clear hcn
          go_upto_region 22 with fail
          rw [← hq]
          clear hq q0 q1 dnr hr2I
          generalize wr.alloc (.cells #[.int .i64 (Bg : Int), .int .i64 (Sz : Int)] 90) = wb at *
          have O1 := hidOf (Out.drew (Out.refl wb))
          have HKS : Hid (∀ wx, Out wb wx → wx.cell? ⟨gn, i, none⟩ = some (.string ⟨x.nm.toArray⟩) ∧ wx.cell? ⟨q, 0, none⟩ = some (.int .i64 (Bg : Int)) ∧ wx.cell? ⟨q, 1, none⟩ = some (.int .i64 (Sz : Int))) := hidOf (fun wx ho => ⟨cell_later ho HN1.out, cell_later ho (box_cell HX.out 0), cell_later ho (box_cell HX.out 1)⟩)
          have O0 := hidOf (Out.refl wb)
          have HW4b : Hid (Out w4 wb) := hidOf HS1.out.out
          have HNe : Hid ((∀ k, (Value.slice ao i co).ownBlock = some k → ¬ k = gn) ∧ ∀ k, (Value.slice ao i co).ownBlock = some k → ¬ k = q) := hidOf (by
            refine ⟨fun k hk e => ?_, fun k hk e => own_type (HS1.out.own) HX.out (by decide) (by rw [← e]; exact hk)⟩
            have h1 := (HS1.out.own.lt k hk).1
            omega)
          have HVo : Hid (∀ X, (X = wb.alloc (.cells #[] 5) ∨ X = wb.drew.alloc (.cells #[] 5) ∨ X = (wb.alloc (.cells #[] 5)).drew ∨ X = (wb.drew.alloc (.cells #[] 5)).drew) → X.ownsRow wb.heap.size 5 1 (.slice (some ⟨wb.heap.size, 0, none⟩) 0 0) 0 [] ∧ Out wb X ∧ (∀ j u, (Lib.byteCells dd)[j]? = some u → X.cell? ((⟨g, off + Bg, none⟩ : Addr).add j) = some u)) := hidOf (fun X hX => by
            have o : Out wb X := by
              rcases hX with rfl | rfl | rfl | rfl
              · exact Out.alloc (Out.refl wb) _
              · exact Out.alloc (Out.drew (Out.refl wb)) _
              · exact Out.drew (Out.alloc (Out.refl wb) _)
              · exact Out.drew (Out.alloc (Out.drew (Out.refl wb)) _)
            refine ⟨?_, o, ?_⟩
            · rcases hX with rfl | rfl | rfl | rfl
              · exact owns_void wb wb.heap.size 1 5 (Nat.le_refl _)
              · exact owns_void wb.drew wb.heap.size 1 5 (Nat.le_refl _)
              · exact own_at (owns_void wb wb.heap.size 1 5 (Nat.le_refl _)) (Out.drew (Out.refl _))
              · exact own_at (owns_void wb.drew wb.heap.size 1 5 (Nat.le_refl _)) (Out.drew (Out.refl _))
            · intro j u hu
              simp only [Lib.byteCells, List.getElem?_map, Option.map_eq_some_iff] at hu
              obtain ⟨y, hy, rfl⟩ := hu
              rw [← Hdd.out] at hy
              rw [WideShapes.add_plain]
              exact ((HBn.out.at_.out HBn.out.lt (O4.out.trans (HW4b.out.trans o))).cut Bg Sz) j y hy)
          have HB1 : Hid (∀ u ∈ Lib.byteCells dd, u.oneCell' = true) := hidOf (fun u hu => by
            obtain ⟨y, _, rfl⟩ := List.mem_map.1 hu
            rfl)
          have HBl : Hid ((Lib.byteCells dd).length = Sz * 1) := hidOf (by simp [Lib.byteCells, Hdl.out])
          have HLi : Hid (∀ X, Out wb X → X.ownsRow w4.heap.size 46 8 (.slice ao i co) i (svV Ls) ∧ w4.heap.size ≤ X.heap.size) := hidOf (fun X o => ⟨by have := (HS1.out.on o).own; unfold OwV at this; rwa [HLl.out] at this, (HW4b.out.trans o).size⟩)
          have HPu : Hid (∀ X w6 a5 c5 v6, Out wb X → X.ownsRow wb.heap.size 5 1 (.slice a5 Sz c5) Sz (Lib.byteCells dd) → X.grownBy w6 (Value.slice ao i co).ownBlock → w6.ownsRow w4.heap.size 46 8 v6 (i + 1) (svV Ls ++ [.string ⟨x.nm.toArray⟩, .int .i64 x.ty, .int .i64 x.fl, .int .i64 x.li, .int .i64 x.inf, .int .i64 x.al, .int .i64 x.es, .slice a5 Sz c5]) → SS w4 w6 v6 (Ls ++ [⟨secE b x, a5, c5⟩])) := hidOf (fun X w6 a5 c5 v6 o h5 hg h6 => by
            have hd : (secE b x).d = dd := by rw [Hsec.out]
            refine SS.push (x := ⟨secE b x, a5, c5⟩) (HS1.out.on o) ?_ hg HLl.out ?_ (fun y hy k hk hk' => by
              have h1 := ((HS1.out.dat y hy).lt k hk).2
              have h2 := (World.ownsRow.lt h5 k (by cases a5 with | none => cases hk' | some ad => exact hk')).1
              omega)
            · show OwB _ (.slice a5 (secE b x).d.length c5) (secE b x).d X
              rw [hd]
              unfold OwB
              rw [Hdl.out]
              exact own_base h5 HW4b.out.size
            · have : (⟨secE b x, a5, c5⟩ : SV).cs = [.string ⟨x.nm.toArray⟩, .int .i64 x.ty, .int .i64 x.fl, .int .i64 x.li, .int .i64 x.inf, .int .i64 x.al, .int .i64 x.es, .slice a5 Sz c5] := by
                rw [SV.cs]
                simp only [Hsec.out, Hdl.out]
              rw [this]
              exact h6)
          clear h64 hh hT hK hK1 hK18 HSl hc2 hp CA HDn HSR Hr HBn hHdk hTI hT0 hgnlt S4 N4 HS Hnk Hdd Hsec HX HN1 Hdl hBlt HC2 Dl Hrw HE1 HS1 hw
          obtain ⟨s0, s1, s2⟩ := HKS.out wb O0.out
          go_region_held3 (fun wx => wx.cell? ⟨gn, i, none⟩ = some (.string ⟨x.nm.toArray⟩) ∧ wx.cell? ⟨q, 0, none⟩ = some (.int .i64 (Bg : Int)) ∧ wx.cell? ⟨q, 1, none⟩ = some (.int .i64 (Sz : Int))) (first | with_reducible exact ⟨s0, s1, s2⟩ | with_reducible exact HKS.out _ (by (first | with_reducible exact Hid.out (by assumption) | with_reducible exact Out.alloc (Hid.out (by assumption)) _ | with_reducible exact Out.drew (Out.alloc (Hid.out (by assumption)) _))) | with_reducible exact HK6.out | (trace_state; fail)) (first | (go_at_call 38; (first | with_reducible refine (K4.out _ (HW4b.out.trans (by (first | with_reducible exact Hid.out (by assumption) | with_reducible exact Out.alloc (Hid.out (by assumption)) _ | with_reducible exact Out.drew (Out.alloc (Hid.out (by assumption)) _))))).mono ?_ | with_reducible refine (K8.out _ (HW4b.out.trans (by (first | with_reducible exact Hid.out (by assumption) | with_reducible exact Out.alloc (Hid.out (by assumption)) _ | with_reducible exact Out.drew (Out.alloc (Hid.out (by assumption)) _))))).mono ?_ | with_reducible refine (K40.out _ (HW4b.out.trans (by (first | with_reducible exact Hid.out (by assumption) | with_reducible exact Out.alloc (Hid.out (by assumption)) _ | with_reducible exact Out.drew (Out.alloc (Hid.out (by assumption)) _))))).mono ?_ | with_reducible refine (K44.out _ (HW4b.out.trans (by (first | with_reducible exact Hid.out (by assumption) | with_reducible exact Out.alloc (Hid.out (by assumption)) _ | with_reducible exact Out.drew (Out.alloc (Hid.out (by assumption)) _))))).mono ?_ | with_reducible refine (K48.out _ (HW4b.out.trans (by (first | with_reducible exact Hid.out (by assumption) | with_reducible exact Out.alloc (Hid.out (by assumption)) _ | with_reducible exact Out.drew (Out.alloc (Hid.out (by assumption)) _))))).mono ?_ | with_reducible refine (K56.out _ (HW4b.out.trans (by (first | with_reducible exact Hid.out (by assumption) | with_reducible exact Out.alloc (Hid.out (by assumption)) _ | with_reducible exact Out.drew (Out.alloc (Hid.out (by assumption)) _))))).mono ?_); rintro e wz ⟨rfl, hwz⟩; have hwz := hwz.symm; subst hwz) | (refine step_append_own9 rfl (.tmp 91) (.tmp 100) 24 rfl wb.heap.size 5 j0 _ 1 1 Try.underlying24 ji jz0 jz1 jz2 rfl (by decide) (.slice (some ⟨wb.heap.size, 0, none⟩) 0 0) 0 [] rfl (HVo.out _ (by first | with_reducible exact Or.inl rfl | with_reducible exact Or.inr (Or.inl rfl) | with_reducible exact Or.inr (Or.inr (Or.inl rfl)) | with_reducible exact Or.inr (Or.inr (Or.inr rfl)))).1 ⟨g, off + Bg, none⟩ Sz (c - Bg) (Lib.byteCells dd) rfl HBl.out (HVo.out _ (by first | with_reducible exact Or.inl rfl | with_reducible exact Or.inr (Or.inl rfl) | with_reducible exact Or.inr (Or.inr (Or.inl rfl)) | with_reducible exact Or.inr (Or.inr (Or.inr rfl)))).2.2 HB1.out (by unfold maxLen; omega) (by omega) (HVo.out _ (by first | with_reducible exact Or.inl rfl | with_reducible exact Or.inr (Or.inl rfl) | with_reducible exact Or.inr (Or.inr (Or.inl rfl)) | with_reducible exact Or.inr (Or.inr (Or.inr rfl)))).2.1.size ?_; intro v5 w5 hown5 hgrow5 _; rw [Nat.zero_add, List.nil_append] at hown5; have HO5 := hidOf (Chg.out (Chg.of_grown (S := fun k => k = wb.heap.size) hgrow5 (fun k hk => by cases hk; rfl)) (HVo.out _ (by first | with_reducible exact Or.inl rfl | with_reducible exact Or.inr (Or.inl rfl) | with_reducible exact Or.inr (Or.inr (Or.inl rfl)) | with_reducible exact Or.inr (Or.inr (Or.inr rfl)))).2.1 (fun k hk => by rw [hk]; exact Nat.le_refl _)); obtain ⟨a5, c5, rfl⟩ := own_form hown5; have HD5 := hidOf hown5; clear hown5 hgrow5) | (refine step_append_own9 rfl (.tmp 62) (.tmp 103) 38 rfl w4.heap.size 46 i0 _ 8 88 Try.underlying38 hi hz0 hz1 hz2 rfl (by decide) (.slice ao i co) i (svV Ls) rfl (HLi.out _ (by first | with_reducible exact Out.alloc HO5.out _ | with_reducible exact Out.drew (Out.alloc HO5.out _))).1 ⟨w5.heap.size, 0, none⟩ 1 1 [.string ⟨x.nm.toArray⟩, .int .i64 x.ty, .int .i64 x.fl, .int .i64 x.li, .int .i64 x.inf, .int .i64 x.al, .int .i64 x.es, .slice a5 Sz c5] rfl rfl (by first | exact news_new _ _ _ _ rfl | exact news_drew _ _ _ _ rfl) (fun u hu => by simp at hu; rcases hu with rfl | rfl | rfl | rfl | rfl | rfl | rfl | rfl <;> rfl) (by unfold maxLen; omega) (by omega) (HLi.out _ (by first | with_reducible exact Out.alloc HO5.out _ | with_reducible exact Out.drew (Out.alloc HO5.out _))).2 ?_; intro v6 w6 hown6 hgrow6 _; have HS6 := hidOf (HPu.out _ w6 a5 c5 v6 (by first | with_reducible exact Out.alloc HO5.out _ | with_reducible exact Out.drew (Out.alloc HO5.out _)) (own_at HD5.out (by first | with_reducible exact Out.alloc (Out.refl _) _ | with_reducible exact Out.drew (Out.alloc (Out.refl _) _))) hgrow6 hown6); obtain ⟨a6, c6, rfl⟩ := own_form hown6; have HK6 := hidOf (cells_grow HKS.out HNe.out hgrow6 (by first | with_reducible exact Out.alloc HO5.out _ | with_reducible exact Out.drew (Out.alloc HO5.out _))); clear hown6 hgrow6) | fail)
          all_goals
            clear s0 s1 s2
            go_wp2
            refine ⟨⟨i + 1, r2, Ls ++ [⟨secE b x, a5, c5⟩], a6, c6, rfl, rfl, by simp, by omega, Hr2e, hidOf (by simp [HLl.out]), hidOf (by rw [Hds.out, ← HSe.out]; simp [secs]), ?_⟩, by simp [intOf] <;> omega⟩
            first | exact HS6 | exact hidOf (HS6.out.on ((Out.refl _).drew))
        · have hltI : ¬ (i : Int) < K := by omega
          have hiK : i = K := by omega
          have hS := HSR.out
          rw [show k - 2 = i by omega] at hS
          have hl : ((D.take i).map (secE b)).length = i := by rw [← HSe.out]; simp [secs, HLl.out]
          have HF : Hid (∀ wx, Out wr wx → RdEnd w b (.returned (.tuple #[.slice ao i co, .int .i64 0, .int .i64 0])) wx) := hidOf (fun wx o => .inr ⟨_, ao, co, Ls, hS, by rw [hl], by rw [hl]; exact (HS.out.lower O4.out).on o, HSe.out⟩)
          clear hS hl hiK
          go_wp2
          go_ret3
          exact HF.out _ (Out.refl _)
end Go.Proofs.Ytlfcjbeldnkkoaa
