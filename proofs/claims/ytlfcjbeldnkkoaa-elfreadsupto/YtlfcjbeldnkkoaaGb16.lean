import Derived.Test.YtlfcjbeldnkkoaaGb15
namespace Go.Proofs.Ytlfcjbeldnkkoaa
open Go.RowKit
set_option linter.unusedVariables false
set_option linter.unusedSimpArgs false
/-- the names of the entries, in plain words -/
def nmG (N : List (List UInt8)) : Nat → List En → List En × Nat × Option Int
  | b, [] => ([], b, none)
  | b, e :: r => match atF 1 N e.na with
    | none => (e :: r, b, some e.pl)
    | some x => if (b : Int) < e.na ∨ (r = [] ∧ x ≠ shN) then (e :: r, b, some e.pl) else ({ e with nm := x } :: (nmG N (if e.na = b then b + x.length + 1 else b) r).1, (nmG N (if e.na = b then b + x.length + 1 else b) r).2)
theorem set_name (E : List En) (k : Nat) (e : En) (x : List UInt8) (h : E[k]? = some e) : (enV E).set (k * 12 + 1) (.string ⟨x.toArray⟩) = enV (E.set k { e with nm := x }) := by
  induction E generalizing k with
  | nil => simp at h
  | cons y r ih =>
    cases k with
    | zero =>
      simp at h; subst h
      show (y.cs ++ enV r).set 1 _ = (En.cs { y with nm := x }) ++ enV r
      simp [En.cs]
    | succ k =>
      show (y.cs ++ enV r).set ((k + 1) * 12 + 1) _ = y.cs ++ enV (r.set k { e with nm := x })
      rw [List.set_append_right _ _ (by simp [En.cs]; omega), ← ih k (by simpa using h)]
      congr 2
      simp [En.cs]; omega
theorem FS.setName {w0 wr : World} {p g off n c T eg ec m : Nat} {E : List En} (h : FS w0 wr p g off n c T (.slice (some ⟨eg, 0, none⟩) m ec) E) {k : Nat} {e : En} (he : E[k]? = some e) (x : List UInt8) :
    FS w0 (wr.setCell ⟨eg, k * 12 + 1, none⟩ (.string ⟨x.toArray⟩)) p g off n c T (.slice (some ⟨eg, 0, none⟩) m ec) (E.set k { e with nm := x }) ∧ wr.frozen? ⟨eg, k * 12 + 1, none⟩ = false ∧ w0.heap.size ≤ eg ∧ eg < wr.heap.size := by
  have hne : ¬ (Value.slice (some ⟨eg, 0, none⟩) m ec).ownBlock = some p := own_type h.own h.fil (by decide)
  have hep : ¬ eg = p := fun e => hne (by rw [e]; rfl)
  rcases h.own.2 with ⟨hv, _⟩ | ⟨g', cap, cur, hv, hb, hg, hc, hm, hs, ht⟩
  · cases hv
  · cases hv
    have hkl : k < E.length := (List.getElem?_eq_some_iff.1 he).1
    refine ⟨⟨?_, ⟨by rw [enV_len], .inr ⟨eg, ec, cur.setIfInBounds (k * 12 + 1) (.string ⟨x.toArray⟩), by simp, hb, ?_, by simpa using hc, hm, by simpa using hs, ?_⟩⟩, h.ge, h.out.setCell (a := ⟨eg, k * 12 + 1, none⟩) hb _⟩, by simp [World.frozen?, hg], hb, (Array.getElem?_eq_some_iff.1 hg).1⟩
    · have : (wr.setCell ⟨eg, k * 12 + 1, none⟩ (.string ⟨x.toArray⟩)).heap[p]? = wr.heap[p]? := by simp [World.setCell, Array.getElem?_modify, hep]
      rw [this]; exact h.fil
    · simp [World.setCell, Array.getElem?_modify, hg]
    · rw [Array.toList_setIfInBounds, List.take_set, List.length_set, ht, set_name E k e x he]
theorem atF_le : ∀ (N : List (List UInt8)) (a : Nat) (p : Int) (x : List UInt8), atF a N p = some x → (a : Int) ≤ p ∧ p + x.length + 1 ≤ szF a N
  | [], _, _, _, h => by simp [atF] at h
  | y :: r, a, p, x, h => by
    unfold atF at h
    have hz := szF_ge r (a + y.length + 1)
    split at h
    · rename_i he
      cases h
      simp only [szF]; omega
    · have := atF_le r (a + y.length + 1) p x h
      simp only [szF]; omega
theorem szF_mono (N : List (List UInt8)) : ∀ (a : Nat), a ≤ szF a N := fun a => by have := szF_ge N a; omega
theorem rdF_le : ∀ (f : Nat) (l : List UInt8) (N : List (List UInt8)) (B : Nat), szF 1 N + l.length ≤ B → (rdF f l N).2 ≤ B
  | 0, _, N, B, h => by simp [rdF]
  | f + 1, [], N, B, h => by simp [rdF]
  | f + 1, c :: r, N, B, h => by
    unfold rdF
    split
    · simp only [List.length_cons] at h; show szF 1 N ≤ B; omega
    · rename_i hx
      refine rdF_le f _ _ B ?_
      have hne : ¬ nmP (c :: r) = [] := fun h => hx (.inr h)
      have h1 := nmP_end (c :: r) hne
      rw [szF_snoc, List.length_drop]
      omega
theorem rdP_le (l : List UInt8) : (rdP l).2 ≤ l.length + 1 := by
  cases l with
  | nil => simp [rdP]
  | cons c r =>
    show (if c = 0 then rdF r.length r [] else (none, 0)).2 ≤ _
    split
    · exact rdF_le r.length r [] (r.length + 1 + 1) (by simp only [szF]; omega)
    · simp
def tnR (l : List UInt8) (E : List En) (B0 E1 : Nat) : Int × Bool × List En :=
  match (rdP ((l.drop B0).take (E1 - B0))).1 with
  | none => (B0 + (rdP ((l.drop B0).take (E1 - B0))).2, true, [])
  | some N => match (nmG N 1 (E.drop 1)).2.2 with
    | some pl => (pl, true, [])
    | none => (B0 + (nmG N 1 (E.drop 1)).2.1, decide (B0 + (nmG N 1 (E.drop 1)).2.1 < E1), E.take 1 ++ (nmG N 1 (E.drop 1)).1)
/-- the loop's state: so many names are laid -/
structure NS (w0 wr : World) (p g off n c T eg ec pt : Nat) (E : List En) (N : List (List UInt8)) (F : Nat → Prop) (D R : List En) (b : Nat) (q : Nat) (nb : En) : Prop where
  fs : FS w0 wr p g off n c T (.slice (some ⟨eg, 0, none⟩) E.length ec) (E.take 1 ++ (D ++ R))
  len : (E.take 1 ++ (D ++ R)).length = E.length
  eq : nmG N 1 (E.drop 1) = (D ++ (nmG N b R).1, (nmG N b R).2)
  tab : Tab pt wr N F
  fn : ∀ k, F k → ¬ k = eg
  box : BoxE wr q nb
  qn : ¬ q = eg
theorem NS.on {w0 wr w' : World} {p g off n c T eg ec pt b q : Nat} {E : List En} {N : List (List UInt8)} {F : Nat → Prop} {D R : List En} {nb : En} (h : NS w0 wr p g off n c T eg ec pt E N F D R b q nb) (o : Out wr w') : NS w0 w' p g off n c T eg ec pt E N F D R b q nb :=
  ⟨h.fs.on o, h.len, h.eq, h.tab.out o, h.fn, h.box.out o, h.qn⟩
theorem NS.step {w0 wr : World} {p g off n c T eg ec pt b q : Nat} {E : List En} {N : List (List UInt8)} {F : Nat → Prop} {D R : List En} {nb e : En} {x : List UInt8} (h : NS w0 wr p g off n c T eg ec pt E N F D (e :: R) b q nb) (hx : atF 1 N e.na = some x) (hc : ¬ ((b : Int) < e.na ∨ (R = [] ∧ x ≠ shN))) (hE : 1 ≤ E.length) (k : Nat) (hk : k = D.length + 1) :
    NS w0 (wr.setCell ⟨eg, k * 12 + 1, none⟩ (.string ⟨x.toArray⟩)) p g off n c T eg ec pt E N F (D ++ [{ e with nm := x }]) R (if e.na = b then b + x.length + 1 else b) q nb ∧ wr.frozen? ⟨eg, k * 12 + 1, none⟩ = false := by
  have ht : (E.take 1).length = 1 := by rw [List.length_take]; omega
  have hget : (E.take 1 ++ (D ++ e :: R))[k]? = some e := by
    rw [hk, List.getElem?_append_right (by omega), ht, Nat.add_sub_cancel, List.getElem?_append_right (Nat.le_refl _)]
    simp
  obtain ⟨h1, h2, h3, h4⟩ := h.fs.setName hget x
  have hset : (E.take 1 ++ (D ++ e :: R)).set k { e with nm := x } = E.take 1 ++ ((D ++ [{ e with nm := x }]) ++ R) := by
    rw [hk, List.set_append_right _ _ (by omega), ht, Nat.add_sub_cancel, List.set_append_right _ _ (Nat.le_refl _)]
    simp
  rw [hset] at h1
  have c2 : Chg (fun k => k = eg) wr (wr.setCell ⟨eg, k * 12 + 1, none⟩ (.string ⟨x.toArray⟩)) := Chg.setCell (S := fun k => k = eg) (Chg.refl _ wr) (p := ⟨eg, k * 12 + 1, none⟩) rfl _
  refine ⟨⟨h1, ?_, ?_, h.tab.chg c2 h.fn, h.fn, h.box.chg c2 h.qn, h.qn⟩, h2⟩
  · have := h.len
    simp at this ⊢
    omega
  · rw [h.eq, nmG, hx]
    simp only [if_neg hc]
    simp
set_option maxRecDepth 8000 in
set_option maxHeartbeats 6000000 in
theorem takeNames_any (w0 w : World) (p g off c T eg ec B0 E1 : Nat) (E : List En) (nb : En) (l : List UInt8) (hF : FS w0 w p g off l.length c T (.slice (some ⟨eg, 0, none⟩) E.length ec) E) (hB : Bin w0 g off c l) (hEl : E.length ≤ 1000) (hE2 : 2 ≤ E.length) (hnb : E[E.length - 1]? = some nb) (hbg : nb.bg = B0) (hen : nb.en = E1) (hBE : B0 ≤ E1) (hE1 : E1 ≤ l.length) (hBl : B0 < l.length) (hna : ∀ e ∈ E, 0 ≤ e.na ∧ e.na ≤ 4294967295) :
    Calls Try.prog 22 #[.pointer (some ⟨p, 0, none⟩)] w fun e w' => e = .returned (.tuple #[.int .i64 (tnR l E B0 E1).1, .bool (tnR l E B0 E1).2.1]) ∧ ((tnR l E B0 E1).2.1 = false → FS w0 w' p g off l.length c T (.slice (some ⟨eg, 0, none⟩) E.length ec) (tnR l E B0 E1).2.2)  ∧ Out w0 w' := by
  have HF := hidOf hF
  have HB := hidOf hB
  have Hna := hidOf hna
  have hEI : (E.length : Int) ≤ 1000 := by omega
  have hE2I : (2 : Int) ≤ E.length := by omega
  have hlb := hB.big
  have hcap := hB.cap
  have hBEI : (B0 : Int) ≤ E1 := by omega
  have hE1I : (E1 : Int) ≤ l.length := by omega
  have hcI : (l.length : Int) ≤ c := by omega
  have hlI : (l.length : Int) ≤ 1000000000000 := by omega
  have hecI : (E.length : Int) ≤ ec := by
    rcases hF.own.2 with ⟨hv, _⟩ | ⟨g', cap, cur, hv, _, _, hc, _⟩
    · cases hv
    · cases hv; omega
  have c2 : w.cell? ⟨p, 2, none⟩ = some (.slice (some ⟨eg, 0, none⟩) E.length ec) := hF.cell 2
  have HRg := hidOf (OwE.range hF.own hnb)
  have hlast : ((E.length : Int) - 1) = ((E.length - 1 : Nat) : Int) := by omega
  obtain ⟨la, hla⟩ : ∃ la, la = E.length - 1 := ⟨_, rfl⟩
  rw [← hla] at HRg hlast
  have hlaI : (la : Int) < E.length := by omega
  have hla0 : (0 : Int) ≤ la := by omega
  obtain ⟨q, hq⟩ : ∃ q, q = w.heap.size := ⟨_, rfl⟩
  have HX : Hid (BoxE (w.alloc (.cells nb.cs.toArray 100)) q nb) := hidOf (by rw [hq]; exact heap_alloc_new w _)
  have HF1 := hidOf (hF.on ((Out.refl w).alloc (.cells nb.cs.toArray 100)))
  have Hqe : Hid (¬ q = eg) := hidOf (fun e => by have := (hF.own.lt eg rfl).2; omega)
  have Hq := hidOf hq
  have Hla := hidOf hla
  clear hF hB hna hq hnb hla
  go_enter Try.func22, Try.ntmps22
  go_upto_region 2 with fail
  refine wp_region_lit ?_
  refine wpList_plain rfl fun K hK => ?_
  go_simp
  refine hK _ _ ?_
  clear hK
  refine wpList_plain rfl fun K hK => ?_
  go_simp
  refine hK _ _ ?_
  clear hK
  refine wpList_plain rfl fun K hK => ?_
  go_simp
  refine hK _ _ ?_
  clear hK
  refine wpList_plain rfl fun K hK => ?_
  go_simp
  refine hK _ _ ?_
  clear hK
  refine wpList_plain rfl fun K hK => ?_
  go_simp
  refine hK _ _ ?_
  clear hK
  refine wpList_plain rfl fun K hK => ?_
  go_simp
  refine hK _ _ ?_
  clear hK
  refine wpList_load_mid rfl 100 (.tmp 26) rfl eg (la * 12) rfl nb.cs _ HRg.out Try.underlying100 rfl sizeEn ?_
  refine wpList_alloc_new rfl 100 rfl (.agg (En.cs ⟨0, [], 0, 0, 0, 0, 0, 0, 0, 0, 0⟩).toArray) (zero_of_info zeroEn).1 ?_
  refine wpList_store_new rfl 100 (.tmp 5) (.tmp 27) rfl (En.cs ⟨0, [], 0, 0, 0, 0, 0, 0, 0, 0, 0⟩).toArray nb.cs.toArray rfl rfl sizeEn rfl (en_one nb) ?_
  refine wpList_nil ?_
  simp only [Act.put, List.setIfInBounds_toArray, List.set_cons_zero, List.set_cons_succ]
  rw [← Hq.out]
  generalize w.alloc (.cells nb.cs.toArray 100) = wb at *
  generalize nb.cs.toArray = NC at *
  go_upto_region 3 with fail
  have hcB : ¬ c = B0 := by omega
  have hE1c : (E1 : Int) ≤ c := by omega
  have hB00 : (0 : Int) ≤ B0 := by omega
  have hE10 : (0 : Int) ≤ E1 := by omega
  obtain ⟨s, hs⟩ : ∃ s, s = (l.drop B0).take (E1 - B0) := ⟨_, rfl⟩
  have hsl : s.length = E1 - B0 := by rw [hs, List.length_take, List.length_drop]; omega
  have CRd : Hid (Calls Try.prog 52 #[.slice (some ⟨g, off + B0, none⟩) (E1 - B0) (c - B0)] wb.drew fun e w' => REnd wb.drew s e w') := by
    have o := HF1.out.out.drew
    have hb := HB.out.out o
    have := read_any (some ⟨g, off + B0, none⟩) (c - B0) s wb.drew (by rw [hs]; exact (hb.at_.cut B0 (E1 - B0)).rest hb.lt) (by omega) (by omega)
    rwa [hsl] at this
  have r0 : wb.drew.cell? ⟨p, 0, none⟩ = some (.slice (some ⟨g, off, none⟩) l.length c) := HF1.out.cell 0
  have r1 : wb.drew.cell? ⟨q, 10, none⟩ = some (.int .i64 (B0 : Int)) := by have := HX.out.cells.2.2.2.2.2.2.2.2.2.2.1; rwa [hbg] at this
  have r2 : wb.drew.cell? ⟨q, 11, none⟩ = some (.int .i64 (E1 : Int)) := by have := HX.out.cells.2.2.2.2.2.2.2.2.2.2.2; rwa [hen] at this
  have HKS : Hid (∀ wx, Out wb.drew wx → wx.cell? ⟨p, 0, none⟩ = some (.slice (some ⟨g, off, none⟩) l.length c) ∧ wx.cell? ⟨q, 10, none⟩ = some (.int .i64 (B0 : Int)) ∧ wx.cell? ⟨q, 11, none⟩ = some (.int .i64 (E1 : Int))) := fun wx ho => ⟨cell_later ho r0, cell_later ho r1, cell_later ho r2⟩
  have Hs := hidOf hs
  have Hsl := hidOf hsl
  have hsub : IntKind.i64.wrap ((E1 : Int) - B0) = (E1 : Int) - B0 := by rw [IntKind.wrap_i64]; omega
  clear hs hsl c2
  cases hrd : (rdP s).1 with
  | none =>
    obtain ⟨m, hm⟩ : ∃ m, m = (rdP s).2 := ⟨_, rfl⟩
    have hmle : m ≤ 2000000000000 := by rw [hm]; have := rdP_le s; have := Hsl.out; omega
    have HR : Hid (tnR l E B0 E1 = ((B0 : Int) + m, true, [])) := hidOf (by unfold tnR; rw [← Hs.out, hrd, hm])
    have CR2 : Hid (Calls Try.prog 52 #[.slice (some ⟨g, off + B0, none⟩) (E1 - B0) (c - B0)] wb.drew fun e w' => e = .returned (.tuple #[.pointer none, .int .i64 (m : Int), .int .i64 80]) ∧ Out wb.drew w') := by
      refine (CRd.out).mono ?_
      rintro e w' ⟨ho, ⟨_, he⟩ | ⟨N, pt, hN, _⟩⟩
      · rw [← hm] at he; exact ⟨he, ho⟩
      · rw [hrd] at hN; cases hN
    clear hm hrd CRd
    go_region_held3 (fun wx => wx.cell? ⟨p, 0, none⟩ = some (.slice (some ⟨g, off, none⟩) l.length c) ∧ wx.cell? ⟨q, 10, none⟩ = some (.int .i64 (B0 : Int)) ∧ wx.cell? ⟨q, 11, none⟩ = some (.int .i64 (E1 : Int))) (first | with_reducible exact ⟨r0, r1, r2⟩ | with_reducible exact HKS.out _ (Hid.out (by assumption)) | fail) (first | (go_at_call 52; refine (CR2.out).mono ?_; rintro e w1 ⟨rfl, hO1⟩; have HO1 := hidOf hO1; clear hO1) | fail)
    all_goals
      have k1 := (HKS.out _ HO1.out).2.1
      have hmI : (m : Int) ≤ 2000000000000 := by omega
      go_wp2
      go_ret2
      rw [HR.out]
      first | exact ⟨rfl, (by intro h; cases h), HF1.out.out.drew.trans HO1.out⟩ | exact ⟨rfl, (by intro h; cases h), (HF1.out.out.drew.trans HO1.out).drew⟩
  | some N =>
    have CR3 : Hid (Calls Try.prog 52 #[.slice (some ⟨g, off + B0, none⟩) (E1 - B0) (c - B0)] wb.drew fun e w' => ∃ pt, e = .returned (.tuple #[.pointer (some ⟨pt, 0, none⟩), .int .i64 0, .int .i64 0]) ∧ szF 1 N = s.length ∧ Tab pt w' N (FN (fun _ => False) wb.drew w') ∧ Out wb.drew w') := by
      refine (CRd.out).mono ?_
      rintro e w' ⟨ho, ⟨hn, _⟩ | ⟨N', pt, hN, he, hz, _, ht⟩⟩
      · rw [hrd] at hn; cases hn
      · rw [hrd] at hN; cases hN
        exact ⟨pt, he, hz, ht, ho⟩
    have HTR : Hid (tnR l E B0 E1 = match (nmG N 1 (E.drop 1)).2.2 with
      | some pl => (pl, true, [])
      | none => (B0 + (nmG N 1 (E.drop 1)).2.1, decide (B0 + (nmG N 1 (E.drop 1)).2.1 < E1), E.take 1 ++ (nmG N 1 (E.drop 1)).1)) := hidOf (by unfold tnR; rw [← Hs.out, hrd])
    clear hrd CRd
    go_region_held3 (fun wx => wx.cell? ⟨p, 0, none⟩ = some (.slice (some ⟨g, off, none⟩) l.length c) ∧ wx.cell? ⟨q, 10, none⟩ = some (.int .i64 (B0 : Int)) ∧ wx.cell? ⟨q, 11, none⟩ = some (.int .i64 (E1 : Int))) (first | with_reducible exact ⟨r0, r1, r2⟩ | with_reducible exact HKS.out _ (Hid.out (by assumption)) | fail) (first | (go_at_call 52; refine (CR3.out).mono ?_; rintro e w1 ⟨pt, rfl, hz, hT, hO1⟩; have HO1 := hidOf hO1; have HT1 := hidOf hT; have Hz := hidOf hz; clear hO1 hT hz) | fail)
    have HNS : Hid (∃ F, NS w0 w1 p g off l.length c T eg ec pt E N F [] (E.drop 1) 1 q nb) := by
      have o1 : Out wb w1 := (Out.refl wb).drew.trans HO1.out
      refine ⟨_, ⟨?_, ?_, rfl, HT1.out, ?_, HX.out.out o1, Hqe.out⟩⟩
      · rw [List.nil_append, List.take_append_drop]; exact HF1.out.on o1
      · simp; omega
      · rintro k (hk | hk)
        · exact hk.elim
        · have := (HF1.out.own.lt eg rfl).2
          have h2 : wb.drew.heap.size = wb.heap.size := rfl
          omega
    clear HF HF1 HX r0 r1 r2 HKS HT1 HO1 CR3 HRg
    go_wp2
    go_loopw [10, 9] (fun kv bv wr => ∃ (kk b : Nat) (D R : List En) (F : Nat → Prop), kv = .int .i64 kk ∧ bv = .int .i64 b ∧ kk = D.length + 1 ∧ kk + R.length = la + 1 ∧ b ≤ 1000000000001 ∧ Hid (NS w0 wr p g off l.length c T eg ec pt E N F D R b q nb)) (fun kv _ _ => la + 1 - (intOf kv).toNat)
    case atStart =>
      obtain ⟨F, hns⟩ := HNS.out
      have h1 := Hla.out
      exact ⟨1, 1, [], E.drop 1, F, rfl, rfl, rfl, by rw [List.length_drop]; omega, by omega, hns⟩
    case round =>
      obtain ⟨kk, b, D, R, F, rfl, rfl, hkD, hkR, hb, HN⟩ := hrel
      have hbI : (b : Int) ≤ 1000000000001 := by omega
      cases R with
      | nil =>
        have hnlt : ¬ (kk : Int) ≤ la := by simp at hkR; omega
        have t1 : wr.cell? ⟨q, 10, none⟩ = some (.int .i64 (B0 : Int)) := by have := HN.out.box.cells.2.2.2.2.2.2.2.2.2.2.1; rwa [hbg] at this
        have t2 : wr.cell? ⟨q, 11, none⟩ = some (.int .i64 (E1 : Int)) := by have := HN.out.box.cells.2.2.2.2.2.2.2.2.2.2.2; rwa [hen] at this
        have HT : Hid (tnR l E B0 E1 = ((B0 : Int) + b, decide (B0 + b < E1), E.take 1 ++ (D ++ []))) := hidOf (by rw [HTR.out, HN.out.eq]; rfl)
        clear hkR
        by_cases hlf : B0 + b < E1
        · have hlfI : (B0 : Int) + b < E1 := by omega
          have t2d : wr.drew.cell? ⟨q, 11, none⟩ = some (.int .i64 (E1 : Int)) := t2
          have hw1 : IntKind.i64.wrap ((B0 : Int) + b) = (B0 : Int) + b := by rw [IntKind.wrap_i64]; omega
          go_upto_region 18 with fail
          go_region_law (fail)
          all_goals
            go_wp2
            go_ret2
            rw [HT.out]
            exact ⟨by simp [hlf], fun _ => by first | exact HN.out.fs | exact HN.out.fs.on ((Out.refl wr).drew), by first | exact HN.out.fs.out | exact HN.out.fs.out.drew⟩
        · have hlfI : ¬ (B0 : Int) + b < E1 := by omega
          have t2d : wr.drew.cell? ⟨q, 11, none⟩ = some (.int .i64 (E1 : Int)) := t2
          have hw1 : IntKind.i64.wrap ((B0 : Int) + b) = (B0 : Int) + b := by rw [IntKind.wrap_i64]; omega
          go_upto_region 18 with fail
          go_region_law (fail)
          all_goals
            go_wp2
            go_ret2
            rw [HT.out]
            exact ⟨by simp [hlf], fun _ => by first | exact HN.out.fs | exact HN.out.fs.on ((Out.refl wr).drew), by first | exact HN.out.fs.out | exact HN.out.fs.out.drew⟩
      | cons e R =>
        have hlt : (kk : Int) ≤ la := by simp at hkR; omega
        have hk0 : (0 : Int) ≤ kk := by omega
        have hkE : (kk : Int) < E.length := by omega
        have hget : (E.take 1 ++ (D ++ e :: R))[kk]? = some e := by
          have ht : (E.take 1).length = 1 := by rw [List.length_take]; omega
          rw [hkD, List.getElem?_append_right (by omega), ht, Nat.add_sub_cancel, List.getElem?_append_right (Nat.le_refl _)]
          simp
        have Hrg := hidOf (OwE.range HN.out.fs.own hget)
        have d2 : wr.cell? ⟨p, 2, none⟩ = some (.slice (some ⟨eg, 0, none⟩) E.length ec) := HN.out.fs.cell 2
        have dna : wr.cell? ⟨eg, kk * 12 + 9, none⟩ = some (.int .i64 e.na) := Hrg.out 9 _ rfl
        have dpl : wr.cell? ⟨eg, kk * 12, none⟩ = some (.int .i64 e.pl) := Hrg.out 0 _ rfl
        have d2m : ∀ m, (wr.drewN m).cell? ⟨p, 2, none⟩ = some (.slice (some ⟨eg, 0, none⟩) E.length ec) := fun _ => d2
        have dplm : ∀ m, (wr.drewN m).cell? ⟨eg, kk * 12, none⟩ = some (.int .i64 e.pl) := fun _ => dpl
        have hsz : szF 1 N ≤ 1000000000000 := by have := Hz.out; have := Hsl.out; omega
        have hlast2 : R = [] ↔ kk = la := by
          constructor
          · rintro rfl; simp at hkR; omega
          · intro h; simp at hkR; exact List.length_eq_zero_iff.1 (by omega)
        have Hflt : Hid ((∀ x, atF 1 N e.na = some x → (b : Int) < e.na ∨ (R = [] ∧ x ≠ shN)) → tnR l E B0 E1 = (e.pl, true, [])) := fun hbad => by
          rw [HTR.out, HN.out.eq, nmG]
          cases hat : atF 1 N e.na with
          | none => simp
          | some x => simp only [if_pos (hbad x hat)]
        have HkR := hidOf hkR
        have HkD := hidOf hkD
        clear hkR hkD
        cases hat : atF 1 N e.na with
        | none =>
          have HT := hidOf (Hflt.out (fun x hx => by rw [hat] at hx; cases hx))
          by_cases hz : e.na = 0
          · have CA := hidOf (at_zero pt wr)
            have hz2 : (e.na == 0) = true := by simp [hz]
            rw [hz] at dna
            go_wp2_with (first | (go_at_call 53; refine (CA.out).mono ?_; rintro e' w2 ⟨rfl, hw⟩; have hw := hw.symm; subst hw))
            go_ret2
            rw [HT.out]
            first | exact ⟨rfl, (by intro h; cases h), HN.out.fs.out⟩ | exact ⟨rfl, (by intro h; cases h), HN.out.fs.out.drewN _⟩ | exact ⟨rfl, (by intro h; cases h), (HN.out.fs.out.drewN _).drew⟩ | exact ⟨rfl, (by intro h; cases h), (HN.out.fs.out.drew).drewN _⟩
          · have CA := hidOf (at_none pt wr N F e.na HN.out.tab hsz hz hat)
            go_wp2_with (first | (go_at_call 53; refine (CA.out).mono ?_; rintro e' w2 ⟨rfl, m, rfl⟩))
            go_ret2
            rw [HT.out]
            first | exact ⟨rfl, (by intro h; cases h), HN.out.fs.out⟩ | exact ⟨rfl, (by intro h; cases h), HN.out.fs.out.drewN _⟩ | exact ⟨rfl, (by intro h; cases h), (HN.out.fs.out.drewN _).drew⟩ | exact ⟨rfl, (by intro h; cases h), (HN.out.fs.out.drew).drewN _⟩
        | some x =>
          have hle := atF_le N 1 e.na x hat
          have CA := hidOf (at_some pt wr N F e.na x HN.out.tab hsz hat)
          have hz2 : (e.na == 0) = false := by simp; omega
          by_cases hbn : (b : Int) < e.na
          · have HT := hidOf (Hflt.out (fun y hy => .inl hbn))
            go_wp2_with (first | (go_at_call 53; refine (CA.out).mono ?_; rintro e' w2 ⟨rfl, m, rfl⟩))
            go_ret2
            rw [HT.out]
            first | exact ⟨rfl, (by intro h; cases h), HN.out.fs.out⟩ | exact ⟨rfl, (by intro h; cases h), HN.out.fs.out.drewN _⟩ | exact ⟨rfl, (by intro h; cases h), (HN.out.fs.out.drewN _).drew⟩ | exact ⟨rfl, (by intro h; cases h), (HN.out.fs.out.drew).drewN _⟩
          · by_cases hlx : R = [] ∧ x ≠ shN
            · have HT := hidOf (Hflt.out (fun y hy => .inr (by rw [hat] at hy; cases hy; exact hlx)))
              have hkl : ((kk : Int) == la) = true := by have := hlast2.1 hlx.1; simp [this]
              have hst : (x == [46, 115, 104, 115, 116, 114, 116, 97, 98]) = false := by
                rw [beq_eq_false_iff_ne]
                exact hlx.2
              go_wp2_with (first | (go_at_call 53; refine (CA.out).mono ?_; rintro e' w2 ⟨rfl, m, rfl⟩))
              go_ret2
              rw [HT.out]
              first | exact ⟨rfl, (by intro h; cases h), HN.out.fs.out⟩ | exact ⟨rfl, (by intro h; cases h), HN.out.fs.out.drewN _⟩ | exact ⟨rfl, (by intro h; cases h), (HN.out.fs.out.drewN _).drew⟩ | exact ⟨rfl, (by intro h; cases h), (HN.out.fs.out.drew).drewN _⟩
            · have hc : ¬ ((b : Int) < e.na ∨ (R = [] ∧ x ≠ shN)) := fun h => h.elim hbn hlx
              have Hst : Hid (∀ m, NS w0 ((wr.drewN m).setCell ⟨eg, kk * 12 + 1, none⟩ (.string ⟨x.toArray⟩)) p g off l.length c T eg ec pt E N F (D ++ [{ e with nm := x }]) R (if e.na = b then b + x.length + 1 else b) q nb ∧ (wr.drewN m).frozen? ⟨eg, kk * 12 + 1, none⟩ = false) := fun m => (HN.out.on ((Out.refl wr).drewN m)).step hat hc (by omega) kk HkD.out
              have dnm : ∀ m, (wr.drewN m).cell? ⟨eg, kk * 12 + 1, none⟩ = some (.string ⟨e.nm.toArray⟩) := fun m => Hrg.out 1 _ rfl
              have fnm : ∀ m, (wr.drewN m).frozen? ⟨eg, kk * 12 + 1, none⟩ = false := fun m => (Hst.out m).2
              have hxs : (⟨x.toArray⟩ : ByteArray).size = x.length := mk_size x
              have hxl : (x.length : Int) ≤ 1000000000000 := by omega
              have hcond : (kk : Int) = la → (x == [46, 115, 104, 115, 116, 114, 116, 97, 98]) = true := fun h => by
                rw [beq_iff_eq]
                exact Classical.byContradiction fun hne => hlx ⟨hlast2.2 (by omega), hne⟩
              by_cases hkl : kk = la
              · have hk1 : ((kk : Int) == la) = true := by simp [hkl]
                have hst := hcond (by omega)
                have Hkl := hidOf hkl
                clear hcond hlast2 hc hlx hkl
                by_cases hnb2 : e.na = b
                · have hbe : (e.na == (b : Int)) = true := by simp [hnb2]
                  have Hnb2 := hidOf hnb2
                  have hb3 : b + x.length + 1 ≤ 1000000000001 := by omega
                  clear hnb2
                  go_wp2_with (first | (go_at_call 53; refine (CA.out).mono ?_; rintro e' w2 ⟨rfl, m, rfl⟩))
                  refine ⟨⟨kk + 1, b + x.length + 1, D ++ [{ e with nm := x }], R, F, by simp, by simp; omega, by have := HkD.out; simp; omega, by have := HkR.out; simp at this; omega, by omega, ?_⟩, by simp [intOf]; omega⟩
                  have := (Hst.out m).1
                  rw [if_pos Hnb2.out] at this
                  exact this
                · have hbe : (e.na == (b : Int)) = false := by simp [hnb2]
                  have Hnb2 := hidOf hnb2
                  clear hnb2
                  go_wp2_with (first | (go_at_call 53; refine (CA.out).mono ?_; rintro e' w2 ⟨rfl, m, rfl⟩))
                  refine ⟨⟨kk + 1, b, D ++ [{ e with nm := x }], R, F, by simp, rfl, by have := HkD.out; simp; omega, by have := HkR.out; simp at this; omega, by omega, ?_⟩, by simp [intOf]; omega⟩
                  have := (Hst.out m).1
                  rw [if_neg Hnb2.out] at this
                  exact this
              · have hk1 : ((kk : Int) == la) = false := by simp; omega
                clear hcond hlast2 hc hlx
                by_cases hnb2 : e.na = b
                · have hbe : (e.na == (b : Int)) = true := by simp [hnb2]
                  have Hnb2 := hidOf hnb2
                  have hb3 : b + x.length + 1 ≤ 1000000000001 := by omega
                  clear hnb2
                  go_wp2_with (first | (go_at_call 53; refine (CA.out).mono ?_; rintro e' w2 ⟨rfl, m, rfl⟩))
                  refine ⟨⟨kk + 1, b + x.length + 1, D ++ [{ e with nm := x }], R, F, by simp, by simp; omega, by have := HkD.out; simp; omega, by have := HkR.out; simp at this; omega, by omega, ?_⟩, by simp [intOf]; omega⟩
                  have := (Hst.out m).1
                  rw [if_pos Hnb2.out] at this
                  exact this
                · have hbe : (e.na == (b : Int)) = false := by simp [hnb2]
                  have Hnb2 := hidOf hnb2
                  clear hnb2
                  go_wp2_with (first | (go_at_call 53; refine (CA.out).mono ?_; rintro e' w2 ⟨rfl, m, rfl⟩))
                  refine ⟨⟨kk + 1, b, D ++ [{ e with nm := x }], R, F, by simp, rfl, by have := HkD.out; simp; omega, by have := HkR.out; simp at this; omega, by omega, ?_⟩, by simp [intOf]; omega⟩
                  have := (Hst.out m).1
                  rw [if_neg Hnb2.out] at this
                  exact this
end Go.Proofs.Ytlfcjbeldnkkoaa
