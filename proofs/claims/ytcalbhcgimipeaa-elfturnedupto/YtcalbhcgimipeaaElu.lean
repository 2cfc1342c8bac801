import Derived.Test.YtcalbhcgimipeaaElt
namespace Go.Proofs.Ytcalbhcgimipeaa
open Go.RowKit
set_option linter.unusedVariables false
set_option linter.unusedSimpArgs false
/-- the first byte that is not 0 -/
def fnz (l : List UInt8) : Nat → Nat → Option Nat
  | 0, _ => none
  | k + 1, a => if l.getD a 0 = 0 then fnz l k (a + 1) else some a
def padF (l : List UInt8) : List En → Option Nat
  | [] => none
  | e :: r => match fnz l (up8 e.en.toNat - e.en.toNat) e.en.toNat with
    | some a => some a
    | none => padF l r
theorem padF_step (l : List UInt8) (E : List En) (i : Nat) (e : En) (h : E[i]? = some e) : padF l (E.drop i) = match fnz l (up8 e.en.toNat - e.en.toNat) e.en.toNat with
    | some a => some a
    | none => padF l (E.drop (i + 1)) := by
  obtain ⟨hi, hx⟩ := List.getElem?_eq_some_iff.1 h
  rw [List.drop_eq_getElem_cons hi, hx, padF]
theorem OwE.range {B n c g : Nat} {E : List En} {w : World} (h : OwE B (.slice (some ⟨g, 0, none⟩) n c) E w) {i : Nat} {e : En} (he : E[i]? = some e) : w.rangeAt g (i * 12) e.cs := fun j v hv => by
  have hlt : j < 12 := by have := (List.getElem?_eq_some_iff.1 hv).1; simpa [En.cs] using this
  have key : ∀ (E : List En) (i : Nat), E[i]? = some e → (enV E)[i * 12 + j]? = e.cs[j]? := by
    intro E
    induction E with
    | nil => intro i h; simp at h
    | cons y r ih =>
      intro i h
      cases i with
      | zero =>
        simp at h; subst h
        show (y.cs ++ enV r)[0 * 12 + j]? = _
        rw [List.getElem?_append_left (by simp [En.cs]; omega)]; simp
      | succ i =>
        show (y.cs ++ enV r)[(i + 1) * 12 + j]? = _
        rw [List.getElem?_append_right (by simp [En.cs]; omega), ← ih i (by simpa using h)]
        congr 1
        simp [En.cs]; omega
  have h1 := World.ownsRow.cells h (g := g) rfl (i * 12 + j) v (by rw [key E i he]; exact hv)
  rwa [WideShapes.add_plain, Nat.zero_add] at h1
set_option maxRecDepth 8000 in
set_option maxHeartbeats 2000000 in
theorem padding_any (w0 w : World) (p g off c T : Nat) (ev : Value) (E : List En) (l : List UInt8) (hF : FS w0 w p g off l.length c T ev E) (hB : Bin w0 g off c l) (hE : ∀ e ∈ E, 0 ≤ e.en ∧ up8 e.en.toNat ≤ l.length) (hEl : E.length ≤ 1000) :
    Calls Try.prog 44 #[.pointer (some ⟨p, 0, none⟩)] w fun e w' => e = .returned (.tuple #[.int .i64 ((padF l E).getD 0 : Nat), .bool (padF l E).isSome]) ∧ Out w w' := by
  have HF := hidOf hF
  have HB := hidOf hB
  have HE := hidOf hE
  have hlb := hB.big
  have hcap := hB.cap
  have hlI : (l.length : Int) ≤ 1000000000000 := by omega
  have hEI : (E.length : Int) ≤ 1000 := by omega
  obtain ⟨ea, ec, rfl⟩ := own_form hF.own
  have c2 : w.cell? ⟨p, 2, none⟩ = some (.slice ea E.length ec) := hF.cell 2
  clear hF hB hE
  go_enter Try.func44, Try.ntmps44
  go_wp2
  clear c2
  go_loopw [12] (fun iv wr => ∃ i : Nat, iv = .int .i64 i ∧ i ≤ E.length ∧ Hid (padF l E = padF l (E.drop i)) ∧ Hid (Out w wr)) (fun iv _ => E.length - (intOf iv).toNat)
  case atStart => exact ⟨0, rfl, by omega, rfl, Out.refl _⟩
  case round =>
    obtain ⟨i, rfl, hi, HP, Ho⟩ := hrel
    by_cases hiE : i < E.length
    · have hlt : (i : Int) < E.length := by omega
      have h0 : (0 : Int) ≤ i := by omega
      obtain ⟨e, he⟩ : ∃ e, E[i]? = some e := ⟨_, List.getElem?_eq_getElem hiE⟩
      obtain ⟨eg, ec2, hev⟩ := own_some HF.out.own (by omega)
      simp only [Value.slice.injEq] at hev
      obtain ⟨rfl, _, rfl⟩ := hev
      have HRg := hidOf (OwE.range (HF.out.on Ho.out).own he)
      have Hst := hidOf (padF_step l E i e he)
      obtain ⟨he0, heu⟩ := HE.out e (List.mem_of_getElem? he)
      have hecI : (E.length : Int) ≤ ec := by
        have := HF.out.own
        rcases this.2 with ⟨hv, _⟩ | ⟨g', cap, cur, hv, _, _, hc, _⟩
        · cases hv
        · cases hv; omega
      obtain ⟨n0, hn0⟩ : ∃ n0 : Nat, e.en = n0 := ⟨e.en.toNat, by omega⟩
      rw [hn0, Int.toNat_natCast] at Hst heu
      obtain ⟨q, hq⟩ : ∃ q, q = wr.heap.size := ⟨_, rfl⟩
      have HX : Hid (BoxE (wr.alloc (.cells e.cs.toArray 126)) q e) := hidOf (by rw [hq]; exact heap_alloc_new wr _)
      have HO1 := hidOf (Ho.out.alloc (.cells e.cs.toArray 126))
      have Hq := hidOf hq
      clear he hq he0
      go_upto_region 3 with fail
      refine wp_region_lit ?_
      refine wpList_plain rfl fun K hK => ?_
      go_simp
      refine hK _ _ ?_
      clear hK
      refine wpList_load_mid rfl 126 (.tmp 14) rfl eg (i * 12) rfl e.cs _ HRg.out Try.underlying126 rfl sizeEn ?_
      refine wpList_alloc_new rfl 126 rfl (.agg (En.cs ⟨0, [], 0, 0, 0, 0, 0, 0, 0, 0, 0⟩).toArray) (zero_of_info zeroEn).1 ?_
      refine wpList_store_new rfl 126 (.tmp 5) (.tmp 15) rfl (En.cs ⟨0, [], 0, 0, 0, 0, 0, 0, 0, 0, 0⟩).toArray e.cs.toArray rfl rfl sizeEn rfl (en_one e) ?_
      refine wpList_nil ?_
      simp only [Act.put, List.setIfInBounds_toArray, List.set_cons_zero, List.set_cons_succ]
      rw [← Hq.out]
      generalize wr.alloc (.cells e.cs.toArray 126) = wb at *
      have e11 : wb.cell? ⟨q, 11, none⟩ = some (.int .i64 (n0 : Int)) := by have := HX.out.cells.2.2.2.2.2.2.2.2.2.2.2; rwa [hn0] at this
      have b0 : wb.cell? ⟨p, 0, none⟩ = some (.slice (some ⟨g, off, none⟩) l.length c) := (HF.out.on HO1.out).cell 0
      have hup := up8_ge n0
      have CU := hidOf (up8_any n0 (by omega) wb)
      generalize up8 n0 = u at *
      have huI : (u : Int) ≤ l.length := by omega
      generalize e.cs.toArray = EC at *
      go_wp2
      go_loopw [6] (fun pv wk => ∃ a : Nat, pv = .int .i64 a ∧ n0 ≤ a ∧ a ≤ u ∧ Hid (fnz l (u - n0) n0 = fnz l (u - a) a) ∧ wk = wb) (fun pv _ => u - (intOf pv).toNat)
      case atStart => exact ⟨n0, rfl, Nat.le_refl _, hup.1, rfl, rfl⟩
      case round =>
        obtain ⟨a, rfl, ha0, hau, HZ, rfl⟩ := hrel
        by_cases hlt2 : a < u
        · have hltI : (a : Int) < u := by omega
          have ha0I : (0 : Int) ≤ a := by omega
          have halI : (a : Int) < l.length := by omega
          obtain ⟨x, hx⟩ : ∃ x, l[a]? = some x := ⟨_, List.getElem?_eq_getElem (by omega)⟩
          have dx : wr.cell? ⟨g, off + a, none⟩ = some (.int .u8 (x.toNat : Int)) := (HB.out.out (HF.out.out.trans HO1.out)).at_ a x hx
          have hgd : l.getD a 0 = x := by simp [List.getD, hx]
          obtain ⟨m, hm⟩ : ∃ m, u - a = m + 1 := ⟨u - a - 1, by omega⟩
          have hz : fnz l (u - a) a = if x = 0 then fnz l m (a + 1) else some a := by rw [hm, fnz, hgd]
          have Hz := hidOf hz
          have Hm := hidOf hm
          clear hx hgd hz hm
          by_cases hx0 : x = 0
          · have hxn : ((x.toNat : Int) == 0) = true := by rw [hx0]; rfl
            have hxn' : ((x.toNat : Int) != 0) = false := by rw [hx0]; rfl
            go_wp2_with (go_at_call 69; refine (CU.out).mono ?_; rintro e' w7 ⟨rfl, hw⟩; have hw := hw.symm; subst hw)
            have h1 := Hm.out
            refine ⟨⟨a + 1, by simp, by omega, by omega, ?_, trivial⟩, by simp [intOf]; omega⟩
            show _ = _
            rw [HZ.out, Hz.out, if_pos hx0, show u - (a + 1) = m by omega]
          · have hne : ¬ x.toNat = 0 := fun h => hx0 (UInt8.toNat_inj.1 h)
            have hxn : ((x.toNat : Int) == 0) = false := by simp; omega
            have hxn' : ((x.toNat : Int) != 0) = true := by simp [bne]; omega
            have HZs := hidOf (show padF l E = some a by rw [HP.out, Hst.out, HZ.out, Hz.out, if_neg hx0])
            go_wp2_with (go_at_call 69; refine (CU.out).mono ?_; rintro e' w7 ⟨rfl, hw⟩; have hw := hw.symm; subst hw)
            go_ret2
            rw [HZs.out]
            exact ⟨rfl, HO1.out⟩
        · have hltI : ¬ (a : Int) < u := by omega
          obtain rfl : a = u := by omega
          have HZs := hidOf (show padF l E = padF l (E.drop (i + 1)) by rw [HP.out, Hst.out, HZ.out, Nat.sub_self]; rfl)
          go_wp2_with (go_at_call 69; refine (CU.out).mono ?_; rintro e' w7 ⟨rfl, hw⟩; have hw := hw.symm; subst hw)
          exact ⟨⟨i + 1, by simp, by omega, HZs.out, HO1.out⟩, by simp [intOf]; omega⟩
    · have hlt : ¬ (i : Int) < E.length := by omega
      obtain rfl : i = E.length := by omega
      have HPs := hidOf (show padF l E = none by rw [HP.out, List.drop_length]; rfl)
      clear HP
      go_wp2
      go_ret2
      rw [HPs.out]
      exact ⟨rfl, Ho.out⟩
end Go.Proofs.Ytcalbhcgimipeaa
