import Derived.Test.YtlfcjbeldnkkoaaGb22
import Derived.Test.YtlfcjbeldnkkoaaGb20
namespace Go.Proofs.Ytlfcjbeldnkkoaa
open Go.RowKit
set_option linter.unusedVariables false
set_option linter.unusedSimpArgs false
theorem flt_none_app (l : List UInt8) : ∀ (A B : List Fd) (p : Nat), fltF l p A = none → fltF l p (A ++ B) = fltF l (p + widF A) B
  | [], B, p, _ => by simp [widF]
  | f :: r, B, p, h => by
    rw [List.cons_append, fltF]
    rw [fltF] at h
    split at h
    · cases h
    · rename_i hn
      rw [if_neg hn, flt_none_app l r B (p + f.w) h, widF_cons, Nat.add_assoc]
/-- a file of another length, with the same head -/
theorem head_other {b b' : List UInt8} (hl : 64 ≤ b.length) (hl' : 64 ≤ b'.length) (hb : b.length ≤ 1000000000000) (hb' : b'.length ≤ 1000000000000) (h : hdFlt b = none) (ht : b'.take 64 = b.take 64) (hne : ¬ b'.length = b.length) : hdFlt b' = some 40 := by
  obtain ⟨t1, t2, _, _, _⟩ := hd_facts hl h
  have hsub : ∀ (o n : Nat), o + n ≤ 64 → (b'.drop o).take n = (b.drop o).take n := by
    intro o n hon
    have e : ∀ l : List UInt8, (l.drop o).take n = ((l.take 64).drop o).take n := fun l => by rw [List.drop_take, List.take_take, Nat.min_eq_left (by omega)]
    rw [e b', e b, ht]
  have hcnt : cntP b' = cntP b := by unfold cntP; rw [hsub 60 2 (by omega)]
  have hw : 0 + widF (bwF hdA) = 40 := by rw [bwF_wid]; rfl
  unfold hdFlt hfP headF at h ⊢
  obtain ⟨h1, h2⟩ := flt_app b _ _ 0 h
  obtain ⟨h3, h4⟩ := flt_app b _ _ 0 h1
  obtain ⟨h5, h6⟩ := flt_app b _ _ 0 h3
  rw [hw] at h6
  have h5' : fltF b' 0 (bwF hdA) = none := by
    rw [← flt_take b' 64 (bwF hdA) 0 (by omega), ht, flt_take b 64 (bwF hdA) 0 (by omega)]; exact h5
  rw [List.append_assoc, List.append_assoc, flt_none_app b' _ _ 0 h5', hw]
  have hts : tsP b = jw2 (tpP b) := by rw [tsP, if_pos ⟨t1, t2⟩]; rfl
  have hnm : nmB ((b.drop 40).take 8) = jw (tpP b) := by
    have g := flt_get b [⟨8, (tsP b).1, (tsP b).2⟩] 0 40 ⟨8, (tsP b).1, (tsP b).2⟩ h6 rfl
    rw [hts] at g
    exact Nat.le_antisymm g.2 g.1
  rw [List.singleton_append, fltF]
  simp only
  rw [hsub 40 8 (by omega), hnm]
  have hlt := cntP_lt b
  have hp : tpP b' = (b'.length : Int) - 64 * cntP b := by unfold tpP; rw [hcnt]
  have hq : tpP b = (b.length : Int) - 64 * cntP b := rfl
  by_cases hg : 64 ≤ tpP b' ∧ tpP b' % 8 = 0
  · have hts' : tsP b' = jw2 (tpP b') := by rw [tsP, if_pos hg]; rfl
    rw [hts']
    have j1 : (jw (tpP b') : Int) = tpP b' := by unfold jw; omega
    have j2 : (jw (tpP b) : Int) = tpP b := by unfold jw; omega
    rw [if_pos]
    simp only [jw2]
    omega
  · have hts' : tsP b' = (1, 0) := by rw [tsP, if_neg hg]
    rw [hts']
    rw [if_pos]
    simp only
    omega
theorem write_head (ss : List Sec) (hok : writeOk ss = true) (h64 : ∀ s ∈ ss, I64 s) (hs : sumD ss ≤ 100000000000) (hb : (writeB ss).length ≤ 1000000000000) : 64 ≤ (writeB ss).length ∧ hdFlt (writeB ss) = none := by
  obtain ⟨T, k, E, nb, t⟩ := took_of hb (back_P ss hok h64 hs)
  have := t.rg.hk
  have := t.rg.hT
  exact ⟨by omega, t.hd⟩
/-- a beginning is refused -/
theorem cut_P (ss : List Sec) (hok : writeOk ss = true) (h64 : ∀ s ∈ ss, I64 s) (hs : sumD ss ≤ 100000000000) (hb : (writeB ss).length ≤ 1000000000000) (k : Nat) (hk : k < (writeB ss).length) : (rdEl ((writeB ss).take k)).1 = none ∧ ((rdEl ((writeB ss).take k)).2.2 = 90 ∨ (rdEl ((writeB ss).take k)).2.2 = 91) := by
  obtain ⟨h1, h2⟩ := write_head ss hok h64 hs hb
  generalize writeB ss = b at *
  have hl : (b.take k).length = k := by rw [List.length_take]; omega
  by_cases h : k < 64
  · rw [rdEl_short (by omega)]; exact ⟨rfl, .inl rfl⟩
  · have := head_other (b' := b.take k) h1 (by omega) hb (by omega) h2 (by rw [List.take_take, Nat.min_eq_left (by omega)]) (by omega)
    rw [rdEl_head (by omega) this]; exact ⟨rfl, .inr rfl⟩
/-- bytes behind a file are refused -/
theorem more_P (ss : List Sec) (hok : writeOk ss = true) (h64 : ∀ s ∈ ss, I64 s) (hs : sumD ss ≤ 100000000000) (m : List UInt8) (hb : (writeB ss).length + m.length ≤ 1000000000000) (hm : ¬ m = []) : rdEl (writeB ss ++ m) = (none, 40, 91) := by
  obtain ⟨h1, h2⟩ := write_head ss hok h64 hs (by omega)
  generalize writeB ss = b at *
  have hml : m.length ≠ 0 := fun h => hm (List.length_eq_zero_iff.1 h)
  have hl : (b ++ m).length = b.length + m.length := List.length_append
  have := head_other (b' := b ++ m) h1 (by omega) (by omega) (by omega) h2 (by rw [List.take_append_of_le_length (by omega)]) (by omega)
  rw [rdEl_head (by omega) this]; rfl
/-- the place that is told -/
theorem tk_at (l : List UInt8) (T : Nat) : ∀ (k place begin : Nat) (E : List En) (a : Nat), place + 64 * k ≤ l.length → (tkF l T k place begin E).2 = some a → a ≤ l.length
  | 0, _, _, _, _, _, h => by cases h
  | k + 1, place, begin, E, a, hl, h => by
    cases hf : fltF ((l.drop place).take 64) 0 (rowW T l.length place begin).fds with
    | some c =>
      rw [tk_some hf] at h
      have := flt_lt _ _ _ _ hf
      rw [fds_wid] at this
      have : place + c = a := Option.some.inj h
      omega
    | none =>
      rw [tk_none hf] at h
      exact tk_at l T k _ _ _ a (by omega) h
theorem fnz_lt (l : List UInt8) : ∀ (k a c : Nat), fnz l k a = some c → c < a + k
  | 0, _, _, h => by cases h
  | k + 1, a, c, h => by
    unfold fnz at h
    split at h
    · have := fnz_lt l k (a + 1) c h; omega
    · cases h; omega
theorem padF_lt (l : List UInt8) (T : Nat) : ∀ (E : List En) (a : Nat), (∀ e ∈ E, EnOk T e) → padF l E = some a → a ≤ T
  | [], _, _, h => by cases h
  | e :: r, a, he, h => by
    rw [padF] at h
    have hk := (he e (by simp)).up
    have hu := up8_ge e.en.toNat
    cases hf : fnz l (up8 e.en.toNat - e.en.toNat) e.en.toNat with
    | some c =>
      rw [hf] at h
      have := fnz_lt l _ _ _ hf
      cases h
      omega
    | none =>
      rw [hf] at h
      exact padF_lt l T r a (fun e' he' => he e' (by simp [he'])) h
theorem tk_pl (l : List UInt8) (T : Nat) : ∀ (k place begin : Nat) (R : List En), place + 64 * k ≤ l.length → TkOk l T k place begin R → ∀ e ∈ R, 0 ≤ e.pl ∧ e.pl ≤ l.length
  | 0, _, _, R, _, h, e, he => by have h : R = [] := h; rw [h] at he; cases he
  | k + 1, place, begin, R, hl, ⟨m, R', _, hm, hle, h, h2⟩, e, he => by
    rw [h] at he
    rcases List.mem_cons.1 he with he | he
    · have : e.pl = place := by rw [he]; rfl
      omega
    · exact tk_pl l T k _ _ R' (by omega) h2 e he
theorem nmG_pl (N : List (List UInt8)) : ∀ (R : List En) (b : Nat) (p : Int), (nmG N b R).2.2 = some p → ∃ e ∈ R, p = e.pl
  | [], b, p, h => by cases h
  | e :: r, b, p, h => by
    unfold nmG at h
    split at h
    · cases h; exact ⟨e, by simp, rfl⟩
    · split at h
      · cases h; exact ⟨e, by simp, rfl⟩
      · obtain ⟨e', h1, h2⟩ := nmG_pl N r _ p h
        exact ⟨e', by simp [h1], h2⟩
theorem place_P {b : List UInt8} (hb : b.length ≤ 1000000000000) (h : (rdEl b).1 = none) : 0 ≤ (rdEl b).2.1 ∧ (rdEl b).2.1 ≤ b.length := by
  by_cases h0 : b.length < 64
  · rw [rdEl_short h0]; simp only; omega
  · cases h1 : hdFlt b with
    | some a =>
      rw [rdEl_head (by omega) h1]
      have := flt_lt b _ _ _ h1
      rw [show widF (hfP b) = 64 from headF_wid _ _ _] at this
      simp only; omega
    | none =>
      obtain ⟨a1, a2, a3, a4, _⟩ := hd_facts (by omega) h1
      cases h2 : (tkF b (tpP b).toNat (cntP b) (tpP b).toNat 64 []).2 with
      | some a =>
        have hq : tpP b = (b.length : Int) - 64 * cntP b := rfl
        have := tk_at b _ _ _ _ _ a (by omega) h2
        rw [rdEl_tk (by omega) h1 h2]; simp only; omega
      | none =>
        obtain ⟨T, k, E, nb, r⟩ := rdg_of (by omega) hb h1 h2
        have hk := r.hk
        cases h3 : padF b E with
        | some a =>
          have := padF_lt b T E a r.all h3
          rw [rdEl_pad h1 r h3]; simp only; omega
        | none =>
          cases h4 : (tnR b E nb.bg.toNat nb.en.toNat).2.1 with
          | false => rw [rdEl_ok h1 r h3 h4] at h; cases h
          | true =>
            rw [rdEl_nm h1 r h3 h4]
            have ok := r.all nb (List.mem_of_getElem? r.last)
            have o1 := ok.bg
            have o2 := ok.be
            have o3 := ok.en
            have hk2 := r.k2
            have hrd := rdP_le ((b.drop nb.bg.toNat).take (nb.en.toNat - nb.bg.toNat))
            rw [List.length_take, List.length_drop] at hrd
            unfold tnR at h4 ⊢
            split
            · simp only; omega
            · rename_i N hN
              simp only [hN] at h4
              split
              · rename_i pl hpl
                obtain ⟨e, he, hep⟩ := nmG_pl N _ _ _ hpl
                have := tk_pl b T k T 64 E (by omega) r.ok e (List.mem_of_mem_drop he)
                simp only; omega
              · rename_i hpl
                simp only [hpl, decide_eq_true_eq] at h4
                simp only; omega
end Go.Proofs.Ytlfcjbeldnkkoaa
namespace Go.Proofs.Ytlfcjbeldnkkoaa
open Go.RowKit
set_option linter.unusedVariables false
set_option linter.unusedSimpArgs false
theorem OwB.dr {B : Nat} {w : World} {x : SV} (h : OwB B (.slice x.da x.s.d.length x.dc) x.s.d w) : DR w x := by
  obtain ⟨a, cp, hv, hc, hr⟩ := h.rest
  cases hv
  exact ⟨hr, hc⟩
theorem OwB.datAt {B : Nat} {w : World} {x : SV} (h : OwB B (.slice x.da x.s.d.length x.dc) x.s.d w) : DatAt w.heap.size w x := by
  obtain ⟨xs, da, dc⟩ := x
  have hdr := OwB.dr (x := ⟨xs, da, dc⟩) h
  rcases h.2 with ⟨hv, h0⟩ | ⟨g, cap, cur, hv, hb, hg, hc, _⟩
  · simp only [Value.slice.injEq] at hv
    obtain ⟨rfl, _, rfl⟩ := hv
    exact .inl ⟨rfl, List.length_eq_zero_iff.1 h0, rfl⟩
  · simp only [Value.slice.injEq] at hv
    obtain ⟨rfl, _, rfl⟩ := hv
    refine .inr ⟨⟨g, 0, none⟩, rfl, .inr (Array.getElem?_eq_some_iff.1 hg).1, fun j u hu => ?_⟩
    simp only [Lib.byteCells, List.getElem?_map, Option.map_eq_some_iff] at hu
    obtain ⟨y, hy, rfl⟩ := hu
    rcases hdr.1 with h1 | ⟨b, off, _, h1, hc⟩
    · rw [show xs.d = [] from h1] at hy; simp at hy
    · cases h1
      rw [WideShapes.add_plain]
      exact hc j y hy
theorem SS.at {w w' : World} {a : Option Addr} {n c : Nat} {Ls : List SV} (h : SS w w' (.slice a n c) Ls) : ScAt w'.heap.size w' a Ls ∧ Ls.length ≤ c ∧ n = Ls.length := h.own.at
theorem SS.dr {w w' : World} {lv : Value} {Ls : List SV} (h : SS w w' lv Ls) : ∀ x ∈ Ls, DR w' x := fun x hx => (h.dat x hx).dr
theorem SS.datAt {w w' : World} {lv : Value} {Ls : List SV} (h : SS w w' lv Ls) : ∀ x ∈ Ls, DatAt w'.heap.size w' x := fun x hx => (h.dat x hx).datAt
def WrEnd (w : World) (ss : List Sec) (e : Ending) (w' : World) : Prop := (writeOk ss = false ∧ e = .returned (.tuple #[.slice none 0 0, .int .i64 92]) ∧ Out w w') ∨ (writeOk ss = true ∧ ∃ a c, e = .returned (.tuple #[.slice a (writeB ss).length c, .int .i64 0]) ∧ OwB w.heap.size (.slice a (writeB ss).length c) (writeB ss) w' ∧ Out w w')
theorem nms_ok_iff (ss : List Sec) : (∀ x ∈ nmsS ss, nameOk x = true) ↔ (ss.all fun s => nameOk s.nm) = true := by
  have h : nameOk shN = true := by decide
  simp only [nmsS, List.mem_append, List.mem_map, List.mem_singleton, List.all_eq_true]
  constructor
  · intro hx s hs
    exact hx _ (.inl ⟨s, hs, rfl⟩)
  · rintro hs x (⟨s, h1, rfl⟩ | rfl)
    · exact hs s h1
    · exact h
theorem write_elf (w : World) (a : Option Addr) (c : Nat) (L : List SV) (h : ScAt w.heap.size w a L) (hD : ∀ x ∈ L, DatAt w.heap.size w x) (hc : L.length ≤ c) (hl : L.length ≤ 1000000000000) (hs : sumD (secs L) ≤ 100000000000) :
    Calls Try.prog 8 #[.slice a L.length c] w fun e w' => WrEnd w (secs L) e w' := by
  have hany : (secs L).any badP = L.any (fun x => badP x.s) := by simp [secs, List.any_map, Function.comp_def]
  by_cases h16 : L.length ≤ 16
  · cases hb : L.any (fun x => badP x.s) with
    | true =>
      refine (write_bad w.heap.size a c L w h (Nat.le_refl _) hc h16 hb).mono ?_
      rintro e w' ⟨rfl, o⟩
      exact .inl ⟨by rw [writeOk, hany, hb]; simp, rfl, o⟩
    | false =>
      by_cases hn : ∀ x ∈ nmsS (secs L), nameOk x = true
      · refine (write_ok w.heap.size a c L w _ h hD (Nat.le_refl _) hc h16 hb hn hs rfl).mono ?_
        rintro e w' ⟨a', c', rfl, ho, o⟩
        exact .inr ⟨by rw [writeOk, hany, hb, (nms_ok_iff _).1 hn, secs_len]; simp [h16], a', c', rfl, ho, o⟩
      · refine (write_noname w.heap.size a c L w h (Nat.le_refl _) hc h16 hb hn).mono ?_
        rintro e w' ⟨rfl, o⟩
        have : ((secs L).all fun s => nameOk s.nm) = false := by
          cases hq : (secs L).all fun s => nameOk s.nm with
          | false => rfl
          | true => exact absurd ((nms_ok_iff _).2 hq) hn
        exact .inl ⟨by rw [writeOk, this]; simp, rfl, o⟩
  · refine (write_many a L.length c w (by omega) hl).mono ?_
    rintro e w' ⟨rfl, rfl⟩
    exact .inl ⟨by rw [writeOk, secs_len]; simp [h16], rfl, Out.refl _⟩
theorem write_size (ss : List Sec) (hok : writeOk ss = true) (hs : sumD ss ≤ 100000000000) : (writeB ss).length ≤ 300000000000 ∧ 64 ≤ (writeB ss).length := by
  simp only [writeOk, Bool.and_eq_true, decide_eq_true_eq, Bool.not_eq_true'] at hok
  obtain ⟨⟨h16, _⟩, hn⟩ := hok
  obtain ⟨_, _, _, hd4⟩ := namesF_ok (nmsS ss) ((nms_ok_iff ss).2 hn)
  have hnl : (nmsS ss).length = ss.length + 1 := by simp [nmsS]
  have htl : (tabD ss).length = szF 1 (namesF (nmsS ss)) := byP_len _
  have hal : (allS ss).length = ss.length + 1 := by simp [allS]
  have hpl : (plsS ss).length = ss.length + 1 := by simp [plsS, nmsS]
  have hsum : sumD (allS ss) = sumD ss + (tabD ss).length := by simp [allS, sumD, tabS]
  have hT1 := endF_le (allS ss) 64
  have hl : (writeB ss).length = endF 64 (allS ss) + 64 * (ss.length + 2) := by
    unfold writeB
    rw [List.length_append, bodF_len, layB_len, headF_wid, tblF_len, List.length_cons, rowsF_len _ _ _ (by rw [hal, hpl]), hal]
  omega
/-- bytes of one's own, as they are read -/
theorem OwB.bin {B : Nat} {a : Option Addr} {n c : Nat} {l : List UInt8} {w : World} (h : OwB B (.slice a n c) l w) (h0 : 0 < l.length) (hb : l.length ≤ 1000000000000) : ∃ g, a = some ⟨g, 0, none⟩ ∧ n = l.length ∧ Bin w g 0 c l := by
  obtain ⟨a', cp, hv, hc, hr⟩ := h.rest
  rcases h.2 with ⟨hv2, hz⟩ | ⟨g, cap, cur, hv2, _, hg, _⟩
  · omega
  · cases hv
    cases hv2
    refine ⟨g, rfl, rfl, (Array.getElem?_eq_some_iff.1 hg).1, ?_, hc, hb⟩
    rcases hr with h1 | ⟨b, off, _, h1, hc2⟩
    · rw [h1] at h0; simp at h0
    · cases h1
      exact hc2
theorem sizeSc : (Try.prog.info? 46).map (·.size) = some 8 := by kernel_rfl
theorem plain_any (s : List UInt8) (a : Option Addr) (n c : Nat) (w : World) : Calls Try.prog 9 #[.string ⟨s.toArray⟩, .slice a n c] w fun e w' => e = .returned (.agg #[.string ⟨s.toArray⟩, .int .i64 1, .int .i64 6, .int .i64 0, .int .i64 0, .int .i64 8, .int .i64 0, .slice a n c]) ∧ Out w w' := by
  go_enter Try.func9, Try.ntmps9
  go_wp2
  refine bodyPost_ret (results_cell_row rfl _ _ w.heap.size 46 _ (0, 0) _ rfl (heap_alloc_new _ _) Try.underlying46 rfl sizeSc) rfl ?_
  exact ⟨rfl, (Out.refl _).alloc _⟩
def s0 : Sec := ⟨[46, 116, 101, 120, 116], 1, 6, 0, 0, 8, 0, [1, 2, 3]⟩
theorem s0_ok : writeOk [s0] = true := by kernel_rfl
theorem s0_len : (writeB [s0]).length = 288 := by kernel_rfl
theorem s0_at : (writeB [s0])[66]? = some 3 ∧ (writeB [s0])[72]? = some 0 ∧ (writeB [s0])[73]? = some 46 := ⟨by kernel_rfl, by kernel_rfl, by kernel_rfl⟩
end Go.Proofs.Ytlfcjbeldnkkoaa
namespace Go.Proofs.Ytlfcjbeldnkkoaa
open Go.RowKit
set_option linter.unusedVariables false
set_option linter.unusedSimpArgs false
theorem read_back1 (ss : List Sec) (hok : writeOk ss = true) (h64 : ∀ s ∈ ss, I64 s) (hs : sumD ss ≤ 100000000000) (w : World) (g c : Nat) (hB : Bin w g 0 c (writeB ss)) : Calls Try.prog 6 #[.slice (some ⟨g, 0, none⟩) (writeB ss).length c] w fun e w' => ∃ a c' Ls, e = .returned (.tuple #[.slice a ss.length c', .int .i64 0, .int .i64 0]) ∧ SS w w' (.slice a ss.length c') Ls ∧ secs Ls = ss := by
  refine (read_elf w g 0 c _ hB).mono ?_
  have hb := back_P ss hok h64 hs
  rintro e w' (⟨h1, _⟩ | ⟨S, a, c', Ls, h1, he, h2, h3⟩)
  · rw [hb] at h1; cases h1
  · rw [hb] at h1
    cases h1
    exact ⟨a, c', Ls, he, h2, h3⟩
theorem s0_64 : ∀ s ∈ [s0], I64 s := by
  intro s hs
  simp at hs
  subst hs
  exact ⟨by decide, by decide, by decide⟩
theorem rest3 {w wx : World} {p : Nat} (h : w.heap[p]? = some (.cells #[.int .u8 1, .int .u8 2, .int .u8 3] 5 (0, 0))) (o : Out w wx) : RestAt wx.heap.size wx (some ⟨p, 0, none⟩) [1, 2, 3] := by
  have hp := (Array.getElem?_eq_some_iff.1 h).1
  refine .inr ⟨p, 0, Nat.lt_of_lt_of_le hp o.size, rfl, fun k x hx => ?_⟩
  refine cell_later o ?_
  rw [Nat.zero_add, box_cell h]
  match k, hx with
  | 0, hx | 1, hx | 2, hx => simp at hx; subst hx; rfl
  | k + 3, hx => simp at hx
set_option maxRecDepth 8000 in
set_option maxHeartbeats 2000000 in
theorem awake9 (w : World) : Calls Try.prog 4 #[] w fun e w' => e = .returned (.bool true) ∧ Out w w' := by
  have CR := hidOf (fun wx a c => read_short wx a 3 c (by omega))
  go_enter Try.func4, Try.ntmps4
  go_upto_region 4 with (first | (go_at_call 6; refine (CR.out _ _ _).mono ?_; rintro e w1 ⟨rfl, hw⟩; have hw := hw.symm; subst hw) | (go_at_call 7; refine (num_any _ _).mono ?_; rintro e w1 ⟨rfl, hw⟩; subst hw))
  have OA := hidOf ((Out.refl w).alloc (.cells #[.int .u8 1, .int .u8 2, .int .u8 3] 5))
  generalize w.alloc (.cells #[.int .u8 1, .int .u8 2, .int .u8 3] 5) = wA at *
  have HB3 := hidOf (heap_alloc_new wA (.cells #[.int .u8 1, .int .u8 2, .int .u8 3] 5 (0, 0)))
  have OB := hidOf (OA.out.alloc (.cells #[.int .u8 1, .int .u8 2, .int .u8 3] 5))
  have CW : Hid (∀ w2, Out (wA.alloc (.cells #[.int .u8 1, .int .u8 2, .int .u8 3] 5)) w2 → Calls Try.prog 8 #[.slice (some ⟨w2.heap.size, 0, none⟩) 1 1] (w2.alloc (.cells #[.string ⟨#[46, 116, 101, 120, 116]⟩, .int .i64 1, .int .i64 6, .int .i64 0, .int .i64 0, .int .i64 8, .int .i64 0, .slice (some ⟨wA.heap.size, 0, none⟩) 3 3] 46)) fun e w' => ∃ g c, e = .returned (.tuple #[.slice (some ⟨g, 0, none⟩) 288 c, .int .i64 0]) ∧ Bin w' g 0 c (writeB [s0]) ∧ Out w w' ∧ 288 ≤ c) := by
    intro w2 o2
    obtain ⟨W, hW⟩ : ∃ W, W = w2.alloc (.cells #[.string ⟨#[46, 116, 101, 120, 116]⟩, .int .i64 1, .int .i64 6, .int .i64 0, .int .i64 0, .int .i64 8, .int .i64 0, .slice (some ⟨wA.heap.size, 0, none⟩) 3 3] 46) := ⟨_, rfl⟩
    have o3 : Out w2 W := by rw [hW]; exact (Out.refl w2).alloc _
    have hbx : W.heap[w2.heap.size]? = some (.cells #[.string ⟨#[46, 116, 101, 120, 116]⟩, .int .i64 1, .int .i64 6, .int .i64 0, .int .i64 0, .int .i64 8, .int .i64 0, .slice (some ⟨wA.heap.size, 0, none⟩) 3 3] 46 (0, 0)) := by rw [hW]; exact heap_alloc_new _ _
    rw [← hW]
    have hsc : ScAt W.heap.size W (some ⟨w2.heap.size, 0, none⟩) [⟨s0, some ⟨wA.heap.size, 0, none⟩, 3⟩] := by
      refine .inr ⟨w2.heap.size, 0, (Array.getElem?_eq_some_iff.1 hbx).1, rfl, fun k u hu => ?_⟩
      rw [Nat.zero_add, box_cell hbx]
      rw [← hu]
      simp [svV, SV.cs, s0]
    have hd : ∀ x ∈ [(⟨s0, some ⟨wA.heap.size, 0, none⟩, 3⟩ : SV)], DatAt W.heap.size W x := by
      intro x hx
      simp at hx
      subst hx
      have hr := rest3 HB3.out (o2.trans o3)
      refine .inr ⟨_, rfl, ?_, fun j u hu => ?_⟩
      · rcases hr with h | ⟨b, off, hb, h, _⟩
        · cases h
        · cases h; exact .inr hb
      · simp only [Lib.byteCells, List.getElem?_map, Option.map_eq_some_iff] at hu
        obtain ⟨y, hy, rfl⟩ := hu
        rcases hr with h | ⟨b, off, _, h, hc⟩
        · cases h
        · cases h
          rw [WideShapes.add_plain]
          exact hc j y hy
    refine (write_elf W _ 1 [⟨s0, some ⟨wA.heap.size, 0, none⟩, 3⟩] hsc hd (by simp) (by simp) (by show sumD [s0] ≤ _; decide)).mono ?_
    rintro e w' (⟨h, _⟩ | ⟨_, a, c, he, ho, o⟩)
    · rw [show secs [(⟨s0, some ⟨wA.heap.size, 0, none⟩, 3⟩ : SV)] = [s0] from rfl, s0_ok] at h; cases h
    · rw [show secs [(⟨s0, some ⟨wA.heap.size, 0, none⟩, 3⟩ : SV)] = [s0] from rfl, s0_len] at he
      rw [show secs [(⟨s0, some ⟨wA.heap.size, 0, none⟩, 3⟩ : SV)] = [s0] from rfl, s0_len] at ho
      obtain ⟨g, rfl, _, hB⟩ := ho.bin (by rw [s0_len]; omega) (by rw [s0_len]; omega)
      exact ⟨g, c, he, hB, ((OB.out.trans o2).trans o3).trans o, by have := hB.cap; rwa [s0_len] at this⟩
  go_upto_region 5 with (first | (go_at_call 9; refine (plain_any _ _ _ _ _).mono ?_; rintro e w2 ⟨rfl, hO2⟩; have HO2 := hidOf hO2; clear hO2) | (go_at_call 8; refine (CW.out _ HO2.out).mono ?_; rintro e w3 ⟨g, c, rfl, hB3, hO3, hc3⟩; have HBn := hidOf hB3; have HO3 := hidOf hO3; clear hB3 hO3))
  have b1 : w3.cell? ⟨g, 66, none⟩ = some (.int .u8 3) := by have := HBn.out.at_ 66 3 s0_at.1; rwa [Nat.zero_add] at this
  have b2 : w3.cell? ⟨g, 72, none⟩ = some (.int .u8 0) := by have := HBn.out.at_ 72 0 s0_at.2.1; rwa [Nat.zero_add] at this
  have b3 : w3.cell? ⟨g, 73, none⟩ = some (.int .u8 46) := by have := HBn.out.at_ 73 46 s0_at.2.2; rwa [Nat.zero_add] at this
  have hc3I : (288 : Int) ≤ c := by omega
  clear CR CW HB3 OB OA
  go_upto_region 7 with (go_at_call 7; refine (num_any _ _).mono ?_; rintro e w4 ⟨rfl, hw⟩; subst hw)
  have CR : Hid (Calls Try.prog 6 #[.slice (some ⟨g, 0, none⟩) 288 c] w3 fun e w' => ∃ g2 c2 y, e = .returned (.tuple #[.slice (some ⟨g2, 0, none⟩) 1 c2, .int .i64 0, .int .i64 0]) ∧ Cells8 w' g2 0 y ∧ DR w' y ∧ y.s = s0 ∧ Out w3 w') := by
    have := read_back1 [s0] s0_ok s0_64 (by decide) w3 g c HBn.out
    rw [s0_len] at this
    refine this.mono ?_
    rintro e w' ⟨a, c', Ls, rfl, hS, hs⟩
    obtain ⟨g2, c2, hv⟩ := own_some hS.own (by have := congrArg List.length hs; rw [secs_len] at this; rw [this]; decide)
    simp only [Value.slice.injEq] at hv
    obtain ⟨rfl, _, rfl⟩ := hv
    match Ls, hs, hS with
    | [y], hs, hS =>
      obtain ⟨b, off, hb, _, h8⟩ := hS.at.1.get (i := 0) (x := y) rfl
      cases hb
      exact ⟨g2, c', y, rfl, h8, hS.dr y (by simp), by simpa [secs] using hs, hS.out⟩
    | [], hs, _ => cases hs
    | _ :: _ :: _, hs, _ => simp [secs] at hs
  go_upto_region 8 with (go_at_call 6; refine (CR.out).mono ?_; rintro e w4 ⟨g2, c2, y, rfl, h8, hdr, hys, hO4⟩; have H8 := hidOf h8; have HDR := hidOf hdr; have Hys := hidOf hys; have HO4 := hidOf (HO3.out.trans hO4); clear h8 hdr hys hO4)
  obtain ⟨ys, yda, ydc⟩ := y
  have hys : ys = s0 := Hys.out
  subst hys
  have CS : Hid (∀ wk wx, Out w4 wk → Out (wk.alloc (.cells #[.int .u8 1, .int .u8 2, .int .u8 3] 5)) wx → Calls Try.prog 10 #[.agg #[.string ⟨#[46, 116, 101, 120, 116]⟩, .int .i64 1, .int .i64 6, .int .i64 0, .int .i64 0, .int .i64 8, .int .i64 0, .slice yda 3 ydc], .agg #[.string ⟨#[46, 116, 101, 120, 116]⟩, .int .i64 1, .int .i64 6, .int .i64 0, .int .i64 0, .int .i64 8, .int .i64 0, .slice (some ⟨wk.heap.size, 0, none⟩) 3 3]] wx fun e w' => e = .returned (.bool true) ∧ Out w4 w') := by
    intro wk wx o1 o2
    have oo : Out w4 wx := (o1.alloc _).trans o2
    have hr := rest3 (heap_alloc_new wk (.cells #[.int .u8 1, .int .u8 2, .int .u8 3] 5 (0, 0))) o2
    have := same1 ⟨s0, yda, ydc⟩ ⟨s0, some ⟨wk.heap.size, 0, none⟩, 3⟩ wx (HDR.out.out oo) ⟨hr, Nat.le_refl 3⟩
    rw [(sameS_iff s0 s0).2 rfl] at this
    exact this.mono fun e w' ⟨he, o⟩ => ⟨he, oo.trans o⟩
  have HK : Hid (∀ wx, Out w4 wx → wx.cell? ⟨g2, 0, none⟩ = some (.string ⟨#[46, 116, 101, 120, 116]⟩) ∧ wx.cell? ⟨g2, 1, none⟩ = some (.int .i64 1) ∧ wx.cell? ⟨g2, 2, none⟩ = some (.int .i64 6) ∧ wx.cell? ⟨g2, 3, none⟩ = some (.int .i64 0) ∧ wx.cell? ⟨g2, 4, none⟩ = some (.int .i64 0) ∧ wx.cell? ⟨g2, 5, none⟩ = some (.int .i64 8) ∧ wx.cell? ⟨g2, 6, none⟩ = some (.int .i64 0) ∧ wx.cell? ⟨g2, 7, none⟩ = some (.slice yda 3 ydc)) := fun wx o => by
    obtain ⟨p0, p1, p2, p3, p4, p5, p6, p7⟩ := H8.out.later o
    exact ⟨p0, p1, p2, p3, p4, p5, p6, p7⟩
  have OD := hidOf ((Out.refl w4).drew)
  clear CR H8 HDR Hys HBn b1 b2 b3 hc3I hc3 HO2
  go_region_held3 (fun wx => wx.cell? ⟨g2, 0, none⟩ = some (.string ⟨#[46, 116, 101, 120, 116]⟩) ∧ wx.cell? ⟨g2, 1, none⟩ = some (.int .i64 1) ∧ wx.cell? ⟨g2, 2, none⟩ = some (.int .i64 6) ∧ wx.cell? ⟨g2, 3, none⟩ = some (.int .i64 0) ∧ wx.cell? ⟨g2, 4, none⟩ = some (.int .i64 0) ∧ wx.cell? ⟨g2, 5, none⟩ = some (.int .i64 8) ∧ wx.cell? ⟨g2, 6, none⟩ = some (.int .i64 0) ∧ wx.cell? ⟨g2, 7, none⟩ = some (.slice yda 3 ydc)) (first | with_reducible exact HK.out _ (Hid.out (by assumption)) | with_reducible exact HK.out _ (Out.drew (Out.alloc (Out.refl _) _)) | fail) (first | (go_at_call 7; refine (num_any _ _).mono ?_; rintro e w5 ⟨rfl, hw⟩; subst hw) | (go_at_call 9; refine (plain_any _ _ _ _ _).mono ?_; rintro e w5 ⟨rfl, hO5⟩; have HO5 := hidOf (Out.trans (Out.drew (Out.refl _)) hO5); have HO5' := hidOf (Out.trans (Out.drew (Out.alloc (Out.refl w4) _)) hO5); clear hO5) | (go_at_call 10; refine (CS.out _ _ (Out.refl _) HO5.out).mono ?_; rintro e w6 ⟨rfl, hO6⟩; have HO6' := hidOf hO6; have HO6 := hidOf (HO4.out.trans hO6); clear hO6) | fail)
  all_goals
    go_wp2
    go_ret
    exact ⟨rfl, HO6.out⟩
end Go.Proofs.Ytlfcjbeldnkkoaa
