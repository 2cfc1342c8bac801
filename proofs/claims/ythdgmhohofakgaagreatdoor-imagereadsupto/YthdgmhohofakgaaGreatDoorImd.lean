import Derived.Test.YthdgmhohofakgaaGreatDoorImc
namespace Go.Proofs.YthdgmhohofakgaaGreatDoor
open Go.RowKit
set_option linter.unusedVariables false
set_option linter.unusedSimpArgs false
/-- functions that cut the text from a place on -/
def CutF (T : List Ins) : Nat → List Fn → Prop
  | _, [] => True
  | b, x :: r => ∃ c : Nat, x.fi = b ∧ x.ct = c ∧ 1 ≤ c ∧ b + c ≤ T.length ∧ CutF T (b + c) r
theorem cut_of {T : List Ins} {F : List Fn} (h : ∀ j, j < F.length → fcB T F j = false) : ∀ (G P : List Fn) (b : Nat), F = P ++ G → bgn P = b → CutF T b G
  | [], _, _, _, _ => trivial
  | x :: r, P, b, e, hb => by
    have h1 := h P.length (by rw [e]; simp)
    have hx : F[P.length]? = some x := by rw [e]; simp
    have ht : F.take P.length = P := by rw [e]; simp
    simp only [fcB, hx, ht, hb, Bool.or_eq_false_iff, bne_eq_false_iff_eq, decide_eq_false_iff_not] at h1
    obtain ⟨⟨h2, h3⟩, h4⟩ := h1
    refine ⟨x.ct.toNat, h2, by omega, by omega, by omega, ?_⟩
    exact cut_of h r (P ++ [x]) _ (by rw [e]; simp) (by rw [bgn_app]; simp [bgn]; omega)
theorem fns_ok (l : List UInt8) (T : List Ins) (N : List (List UInt8)) (hN : szF 1 N < 4294967296) : ∀ (G : List Fn) (K Z : List (List UInt8)) (R : List UInt8) (p b s : Nat),
    N = namesF (K ++ (G.map Fn.nm ++ Z)) → CutF T b G → s + slotsP (T.drop b) ≤ 1048576 → (∀ x ∈ G, 0 ≤ x.ob ∧ x.ob < 64) → l.drop p = fnsB T N s G ++ R →
    fnR l N T G.length p b s (szF 1 (namesF K)) = .ok (G, szF 1 (namesF (K ++ G.map Fn.nm))) ∧ l.drop (p + 16 * G.length) = R
  | [], K, Z, R, p, b, s, _, _, _, _, h => ⟨by simp [fnR], by simpa [fnsB] using h⟩
  | x :: r, K, Z, R, p, b, s, hn, hc, hs, ho, h => by
    obtain ⟨c, hfi, hct, c1, c2, hcr⟩ := hc
    have hbod : bodP T x = (T.drop b).take c := by unfold bodP; rw [hfi, hct]; simp
    have hsplit : T.drop b = (T.drop b).take c ++ T.drop (b + c) := by rw [← List.drop_drop, List.take_append_drop]
    have hlen : ((T.drop b).take c).length = c := by rw [List.length_take, List.length_drop]; omega
    obtain ⟨B, hB⟩ : ∃ B, (T.drop b).take c = B := ⟨_, rfl⟩
    rw [hB] at hbod hsplit hlen
    have hsl : slotsP (T.drop b) = slotsP B + slotsP (T.drop (b + c)) := by rw [hsplit, slots_app]
    have hpos : 1 ≤ slotsP B := by unfold slotsP; omega
    have hcn : cntO (T.drop b) (slotsP B) = (c, slotsP B) := by rw [hsplit, cntO_ok, hlen]
    simp only [fnsB, hbod, fnRow, List.append_assoc] at h
    have hxm : x.nm ∈ N := by rw [hn]; exact namesF_mem _ (by simp)
    have hpl := atF_lt N 1 x.nm hxm
    obtain ⟨e1, h⟩ := at4n h (by omega)
    obtain ⟨e2, h⟩ := at4 h
    obtain ⟨e3, h⟩ := at4n h (by omega)
    obtain ⟨e4, h⟩ := at4n h (by omega)
    have hob := ho x (by simp)
    have ih := fns_ok l T N hN r (K ++ [x.nm]) Z R (p + 16) (b + c) (s + slotsP B) (by rw [hn]; simp) hcr (by omega) (fun y hy => ho y (by simp [hy])) (by rw [show p + 16 = p + 4 + 4 + 4 + 4 by omega]; exact h)
    have hnm := nmT_ok K (r.map Fn.nm ++ Z) x.nm
    rw [show K ++ x.nm :: (r.map Fn.nm ++ Z) = K ++ (List.map Fn.nm (x :: r) ++ Z) by simp, ← hn] at hnm
    rw [show p + 4 + 4 = p + 8 by omega] at e3
    rw [show p + 4 + 4 + 4 = p + 12 by omega] at e4
    refine ⟨?_, by rw [show p + 16 * (x :: r).length = p + 16 + 16 * r.length by simp; omega]; exact ih.2⟩
    show fnR l N T (r.length + 1) p b s _ = _
    unfold fnR
    rw [e1, hnm]
    simp only [e3, e4, hcn, ne_eq, not_true, if_false, false_or]
    rw [if_neg (by omega), ih.1]
    have he2 : (g4 l (p + 4) : Int) = x.ob := by omega
    have hx : (⟨x.nm, (g4 l (p + 4) : Nat), (b : Nat), (c : Nat)⟩ : Fn) = x := by
      cases x; simp only at hfi hct he2; simp [hfi, hct, he2]
    show Except.ok _ = Except.ok _
    simp only [hx]
    simp
theorem tds_ok (l : List UInt8) (N : List (List UInt8)) (hN : szF 1 N < 4294967296) : ∀ (G : List Td) (K Z : List (List UInt8)) (R : List UInt8) (p : Nat),
    N = namesF (K ++ (G.map Td.nm ++ Z)) → (∀ x ∈ G, mayT x = true) → l.drop p = tdsB N G ++ R →
    tdR l N G.length p (szF 1 (namesF K)) = .ok (G, szF 1 (namesF (K ++ G.map Td.nm))) ∧ l.drop (p + 20 * G.length) = R
  | [], K, Z, R, p, _, _, h => ⟨by simp [tdR], by simpa [tdsB] using h⟩
  | x :: r, K, Z, R, p, hn, hm, h => by
    have h' : l.drop p = tdRow N x ++ (tdsB N r ++ R) := by rw [h]; simp [tdsB]
    simp only [tdRow, List.append_assoc] at h'
    have hxm : x.nm ∈ N := by rw [hn]; exact namesF_mem _ (by simp)
    have hpl := atF_lt N 1 x.nm hxm
    obtain ⟨m1, m2, m3, m4, m5, _⟩ := mayT_in (hm x (by simp))
    obtain ⟨e1, h'⟩ := at4n h' (by omega)
    obtain ⟨e2, h'⟩ := at4 h'
    obtain ⟨e3, h'⟩ := at4 h'
    obtain ⟨e4, h'⟩ := at4 h'
    obtain ⟨e5, h'⟩ := at4 h'
    have ih := tds_ok l N hN r (K ++ [x.nm]) Z R (p + 20) (by rw [hn]; simp) (fun y hy => hm y (by simp [hy])) (by rw [show p + 20 = p + 4 + 4 + 4 + 4 + 4 by omega]; exact h')
    have hnm := nmT_ok K (r.map Td.nm ++ Z) x.nm
    rw [show K ++ x.nm :: (r.map Td.nm ++ Z) = K ++ (List.map Td.nm (x :: r) ++ Z) by simp, ← hn] at hnm
    rw [show p + 4 + 4 = p + 8 by omega] at e3
    rw [show p + 4 + 4 + 4 = p + 12 by omega] at e4
    rw [show p + 4 + 4 + 4 + 4 = p + 16 by omega] at e5
    refine ⟨?_, by rw [show p + 20 * (x :: r).length = p + 20 + 20 * r.length by simp; omega]; exact ih.2⟩
    show tdR l N (r.length + 1) p _ = _
    unfold tdR
    rw [e1, hnm]
    simp only
    rw [ih.1]
    have f2 : (g4 l (p + 4) : Int) = x.kd := by omega
    have f3 : (g4 l (p + 8) : Int) = x.ky := by omega
    have f4 : (g4 l (p + 12) : Int) = x.vl := by omega
    have f5 : (g4 l (p + 16) : Int) = x.en := by omega
    have hx : (⟨x.nm, (g4 l (p + 4) : Nat), (g4 l (p + 8) : Nat), (g4 l (p + 12) : Nat), (g4 l (p + 16) : Nat)⟩ : Td) = x := by
      cases x; simp only at f2 f3 f4 f5; simp [f2, f3, f4, f5]
    show Except.ok _ = Except.ok _
    simp only [hx]
    simp
/-- an image that Check takes -/
structure Ok17 (m : Img) : Prop where
  cnt : cntP m = none
  nam : namP m = none
  fun_ : funP m = none
  tab : tabP m = none
  ent : entP m = none
  ins : insP m = none
theorem ptE_ok {r : Option Nat} {e : Int} {x : Nat × Int} (he : e ≠ 0) (h : (ptE r e x).2 = 0) : r = none ∧ x.2 = 0 := by
  cases r with
  | none => exact ⟨rfl, h⟩
  | some k => exact absurd h he
theorem ck_ok {m : Img} (h : (ckP m).2 = 0) : Ok17 m := by
  obtain ⟨a, h⟩ := ptE_ok (by decide) h
  obtain ⟨b, h⟩ := ptE_ok (by decide) h
  obtain ⟨c, h⟩ := ptE_ok (by decide) h
  obtain ⟨d, h⟩ := ptE_ok (by decide) h
  obtain ⟨e, h⟩ := ptE_ok (by decide) h
  obtain ⟨f, h⟩ := ptE_ok (by decide) h
  exact ⟨a, b, c, d, e, f⟩
theorem ok_ck {m : Img} (h : Ok17 m) : ckP m = (0, 0) := by simp [ckP, h.cnt, h.nam, h.fun_, h.tab, h.ent, h.ins, ptE]
theorem Ok17.counts {m : Img} (h : Ok17 m) : slotsP m.T ≤ 1048576 ∧ m.F.length ≤ 4096 ∧ m.D.length ≤ 1024 := by
  have := h.cnt
  unfold cntP at this
  repeat (split at this; · cases this)
  omega
theorem Ok17.fits {m : Img} (h : Ok17 m) : ∀ x ∈ m.T, fitI x = true := fun x hx => by
  obtain ⟨k, hk, hxk⟩ := List.mem_iff_getElem.1 hx
  have := fstB_out h.ins k hk
  simpa [inB, List.getElem?_eq_getElem hk, hxk] using this
theorem Ok17.fnOk {m : Img} (h : Ok17 m) : ∀ x ∈ m.F, wordP x.nm = true ∧ 0 ≤ x.ob ∧ x.ob < 64 := fun x hx => by
  obtain ⟨k, hk, hxk⟩ := List.mem_iff_getElem.1 hx
  have hn := h.nam
  unfold namP at hn
  split at hn
  · cases hn
  · rename_i hn1
    have := fstB_out hn1 k hk
    simp only [fnB, List.getElem?_eq_getElem hk, hxk, Bool.or_eq_false_iff, Bool.not_eq_false'] at this
    have := this.2
    simp only [fnW, Bool.and_eq_true, decide_eq_true_eq] at this
    exact ⟨this.1.1, this.1.2, this.2⟩
theorem Ok17.tdOk {m : Img} (h : Ok17 m) : ∀ x ∈ m.D, wordP x.nm = true ∧ mayT x = true := fun x hx => by
  obtain ⟨k, hk, hxk⟩ := List.mem_iff_getElem.1 hx
  have hn := h.nam
  unfold namP at hn
  have ht := h.tab
  unfold tabP at ht
  split at hn
  · cases hn
  · split at ht
    · cases ht
    · rename_i h1 _ h2
      rw [Option.map_eq_none_iff] at hn
      have a := fstB_out hn k hk
      have b := fstB_out h2 k hk
      simp only [tdB, List.getElem?_eq_getElem hk, hxk, Bool.or_eq_false_iff, Bool.not_eq_false'] at a
      simp only [shB, List.getElem?_eq_getElem hk, hxk, Bool.not_eq_false'] at b
      exact ⟨a.1, b⟩
theorem Ok17.cut {m : Img} (h : Ok17 m) : CutF m.T 0 m.F := by
  have hf := h.fun_
  unfold funP at hf
  split at hf
  · cases hf
  · rename_i h1
    exact cut_of (fstB_out h1) m.F [] 0 rfl rfl
theorem Ok17.entry {m : Img} (h : Ok17 m) : 0 ≤ m.en ∧ m.en < m.F.length := by
  have := h.ent
  unfold entP at this
  split at this
  · cases this
  · omega
theorem Ok17.names {m : Img} (h : Ok17 m) : ∀ x ∈ allN m, nameOk x = true := fun x hx => by
  simp only [allN, List.mem_append, List.mem_map] at hx
  rcases hx with ⟨y, hy, rfl⟩ | ⟨y, hy, rfl⟩
  · exact nameOk_word (h.fnOk y hy).1
  · exact nameOk_word (h.tdOk y hy).1
theorem Ok17.small {m : Img} (h : Ok17 m) : szF 1 (tabM m) ≤ 1 + 65 * 5120 := by
  have := (namesF_ok (allN m) h.names).2.2.2
  have hl : (allN m).length = m.F.length + m.D.length := by simp [allN]
  have := h.counts
  unfold tabM; omega
theorem op_same (R : List UInt8) : fstB (fun k => (opB ++ R).getD k 0 != opB.getD k 0) 8 = none := fstB_none fun j hj => by
  have : (opB ++ R).getD j 0 = opB.getD j 0 := by simp only [List.getD]; rw [List.getElem?_append_left (by simpa [opB] using hj)]
  simp only [this, bne_self_eq_false]
/-- Read of what Write gives -/
theorem back_I (m : Img) (h : Ok17 m) (hi : ∀ x ∈ m.T, -9223372036854775808 ≤ x.i ∧ x.i ≤ 9223372036854775807) : rdI (wrB m) = (m, 0, 0) := by
  obtain ⟨c1, c2, c3⟩ := h.counts
  have hsm := h.small
  have hbl := byP_len (tabM m)
  obtain ⟨l, hl⟩ : ∃ l, l = wrB m := ⟨_, rfl⟩
  have hlen := wrB_len m
  rw [← hl] at hlen
  have d0 : l = opB ++ (b4 (slotsP m.T : Nat) ++ (b4 (m.F.length : Nat) ++ (b4 (m.D.length : Nat) ++ (b4 ((byP (tabM m)).length : Nat) ++ (b4 m.en ++ (txtB m.T ++ (fnsB m.T (tabM m) 0 m.F ++ (tdsB (tabM m) m.D ++ byP (tabM m))))))))) := by rw [hl, wrB, hdB]; simp only [List.append_assoc]
  have d8 : l.drop 8 = b4 (slotsP m.T : Nat) ++ (b4 (m.F.length : Nat) ++ (b4 (m.D.length : Nat) ++ (b4 ((byP (tabM m)).length : Nat) ++ (b4 m.en ++ (txtB m.T ++ (fnsB m.T (tabM m) 0 m.F ++ (tdsB (tabM m) m.D ++ byP (tabM m)))))))) := by rw [d0]; exact List.drop_left' rfl
  obtain ⟨e8, d12⟩ := at4n d8 (by omega)
  obtain ⟨e12, d16⟩ := at4n d12 (by omega)
  obtain ⟨e16, d20⟩ := at4n d16 (by omega)
  obtain ⟨e20, d24⟩ := at4n d20 (by omega)
  obtain ⟨e24, d28⟩ := at4 d24
  simp only [Nat.reduceAdd] at e12 e16 e20 e24 d28
  have hen := h.entry
  obtain ⟨tx, dT⟩ := take_text m.T l _ 28 d28 h.fits hi
  have hN : szF 1 (tabM m) < 4294967296 := by omega
  obtain ⟨fx, dF⟩ := fns_ok l m.T (tabM m) hN m.F [] (m.D.map Td.nm) _ (28 + 8 * slotsP m.T) 0 0 (by simp [tabM, allN]) h.cut (by simpa using c1) (fun x hx => (h.fnOk x hx).2) dT
  obtain ⟨dx, dD⟩ := tds_ok l (tabM m) hN m.D (m.F.map Fn.nm) [] _ (28 + 8 * slotsP m.T + 16 * m.F.length) (by simp [tabM, allN]) (fun x hx => (h.tdOk x hx).2) dF
  have hok := namesF_ok (allN m) h.names
  have hrd := read_back (N := tabM m) hok.1 hok.2.1
  have hdrop : l.drop (l.length - g4 l 20) = byP (tabM m) := by
    rw [show l.length - g4 l 20 = 28 + 8 * slotsP m.T + 16 * m.F.length + 20 * m.D.length by rw [hlen, e20]; unfold sizP; omega]; exact dD
  have hhd : hdF l = none := by
    unfold hdF
    rw [if_neg (by rw [hlen]; unfold sizP; omega)]
    have hop := op_same (l.drop 8)
    rw [show opB ++ l.drop 8 = l by rw [d8]; exact d0.symm] at hop
    rw [hop, e8, e12, e16, e20, hlen]
    simp
  have hen2 : (g4 l 24 : Int) = m.en := by omega
  have hpas : pasR l = .ok m := by
    unfold pasR
    rw [hhd, e8, tx, hdrop, hrd]
    show enR l m.T (tabM m) = _
    unfold enR
    rw [e12, e8]
    simp only [show szF 1 (namesF []) = 1 from rfl] at fx
    rw [fx]
    simp only [List.nil_append]
    rw [e16, dx]
    simp only
    rw [if_neg (by rw [e20, hbl]; show ¬ szF 1 (namesF (m.F.map Fn.nm ++ m.D.map Td.nm)) < szF 1 (tabM m); simp [tabM, allN]), hen2]
  rw [← hl]
  unfold rdI
  rw [hpas]
  simp only [ok_ck h, if_true]
end Go.Proofs.YthdgmhohofakgaaGreatDoor
