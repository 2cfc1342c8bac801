import Derived.Test.YthdgmhohofakgaaGreatDoorImb
namespace Go.Proofs.YthdgmhohofakgaaGreatDoor
open Go.RowKit
set_option linter.unusedVariables false
set_option linter.unusedSimpArgs false
theorem b1_nat (x : Int) : (b1 x).toNat = (x % 256).toNat := by
  unfold b1
  rw [UInt8.toNat_ofNat_of_lt']
  have := Int.emod_lt_of_pos x (show (0 : Int) < 256 by decide)
  have := Int.emod_nonneg x (show (256 : Int) ≠ 0 by decide)
  show _ < 256; omega
theorem g1_drop (l : List UInt8) (p k : Nat) : g1 (l.drop p) k = g1 l (p + k) := by simp [g1, List.getD, List.getElem?_drop]
theorem g4_drop (l : List UInt8) (p k : Nat) : g4 (l.drop p) k = g4 l (p + k) := by simp only [g4, g1_drop, Nat.add_assoc]
theorem g4_b4 (x : Int) (R : List UInt8) : (g4 (b4 x ++ R) 0 : Int) = x % 4294967296 := by
  have e0 : g1 (b4 x ++ R) 0 = (b1 x).toNat := rfl
  have e1 : g1 (b4 x ++ R) 1 = (b1 (x / 256)).toNat := rfl
  have e2 : g1 (b4 x ++ R) 2 = (b1 (x / 65536)).toNat := rfl
  have e3 : g1 (b4 x ++ R) 3 = (b1 (x / 16777216)).toNat := rfl
  simp only [g4, Nat.zero_add, e0, e1, e2, e3, b1_nat]
  omega
theorem at4 {l R : List UInt8} {p : Nat} {x : Int} (h : l.drop p = b4 x ++ R) : (g4 l p : Int) = x % 4294967296 ∧ l.drop (p + 4) = R := by
  constructor
  · have := g4_b4 x R
    rw [← h, g4_drop] at this; simpa using this
  · rw [← List.drop_drop, h]; exact List.drop_left' (b4_len x)
theorem at4n {l R : List UInt8} {p n : Nat} (h : l.drop p = b4 (n : Int) ++ R) (hn : n < 4294967296) : g4 l p = n ∧ l.drop (p + 4) = R := by
  obtain ⟨h1, h2⟩ := at4 h
  exact ⟨by omega, h2⟩
/-- an instruction's fields -/
structure FitI (x : Ins) : Prop where
  o0 : 0 ≤ x.o
  o1 : x.o ≤ 255
  d0 : 0 ≤ x.d
  d1 : x.d ≤ 15
  s0 : 0 ≤ x.s
  s1 : x.s ≤ 15
  f0 : -32768 ≤ x.f
  f1 : x.f ≤ 32767
  i0 : isW x.o = false → -2147483648 ≤ x.i ∧ x.i ≤ 2147483647
theorem fit_in {x : Ins} (h : fitI x = true) : FitI x := by
  simp only [fitI, Bool.and_eq_true, decide_eq_true_eq, Bool.or_eq_true] at h
  obtain ⟨⟨⟨⟨⟨a, b⟩, c, d⟩, e, f⟩, g, i⟩, j⟩ := h
  exact ⟨a, b, c, d, e, f, g, i, fun hw => by simpa [hw] using j⟩
theorem Ins.same {x y : Ins} (h0 : x.o = y.o) (h1 : x.d = y.d) (h2 : x.s = y.s) (h3 : x.f = y.f) (h4 : x.i = y.i) : x = y := by
  cases x; cases y; simp_all
theorem fld_parts {x : Ins} (h : FitI x) {v : Int} (hv : v = fldI x % 4294967296) : v % 256 = x.o ∧ v / 256 % 16 = x.d ∧ v / 4096 % 16 = x.s ∧ sxP 32768 (v / 65536) = x.f := by
  obtain ⟨a, b, c, d, e, f, g, i, _⟩ := h
  unfold fldI at hv
  refine ⟨by omega, by omega, by omega, ?_⟩
  unfold sxP
  split <;> omega
theorem sx32 {v x : Int} (h : v = x % 4294967296) (h0 : -2147483648 ≤ x) (h1 : x ≤ 2147483647) : sxP 2147483648 v = x := by
  unfold sxP; split <;> omega
theorem take_ins {l R : List UInt8} {p : Nat} {x : Ins} (h : l.drop p = insB x ++ R) (hf : FitI x) (hw : isW x.o = false) : insR l p = x ∧ l.drop (p + 8) = R := by
  simp only [insB, hw, List.append_assoc, List.nil_append, if_false, Bool.false_eq_true] at h
  obtain ⟨h1, h2⟩ := at4 h
  obtain ⟨h3, h4⟩ := at4 h2
  obtain ⟨a, b, c, d⟩ := fld_parts hf h1
  have hi := hf.i0 hw
  have e := sx32 h3 hi.1 hi.2
  refine ⟨?_, h4⟩
  obtain ⟨xo, xd, xs, xf, xi⟩ := x
  simp only [insR, Ins.mk.injEq]
  exact ⟨a, b, c, d, e⟩
theorem take_wide {l R : List UInt8} {p : Nat} {x : Ins} (h : l.drop p = insB x ++ R) (hf : FitI x) (hw : isW x.o = true) (hi : -9223372036854775808 ≤ x.i ∧ x.i ≤ 9223372036854775807) : (insR l p).o = x.o ∧ g4 l (p + 8) = 0 ∧ widR l p = x ∧ l.drop (p + 16) = R := by
  simp only [insB, hw, List.append_assoc, if_true] at h
  obtain ⟨h1, h2⟩ := at4 h
  obtain ⟨h3, h4⟩ := at4 h2
  obtain ⟨h5, h6⟩ := at4 h4
  obtain ⟨h7, h8⟩ := at4 h6
  obtain ⟨a, b, c, d⟩ := fld_parts hf h1
  have e := sx32 h7 (by omega) (by omega)
  have e' : (g4 l (p + 4) : Int) + 4294967296 * sxP 2147483648 (g4 l (p + 12) : Int) = x.i := by rw [show p + 12 = p + 4 + 4 + 4 by omega, e, h3]; omega
  have o8 : g4 l (p + 8) = 0 := by rw [show p + 8 = p + 4 + 4 by omega]; omega
  obtain ⟨xo, xd, xs, xf, xi⟩ := x
  simp only [insR, widR, Ins.mk.injEq]
  exact ⟨a, o8, ⟨a, b, c, d, e'⟩, by rw [show p + 16 = p + 4 + 4 + 4 + 4 by omega]; exact h8⟩
theorem take_text : ∀ (T : List Ins) (l R : List UInt8) (p : Nat), l.drop p = txtB T ++ R → (∀ x ∈ T, fitI x = true) → (∀ x ∈ T, -9223372036854775808 ≤ x.i ∧ x.i ≤ 9223372036854775807) → txR l (slotsP T) p = .ok T ∧ l.drop (p + 8 * slotsP T) = R
  | [], l, R, p, h, _, _ => ⟨by simp [slotsP, txR], by simpa [slotsP, txtB] using h⟩
  | x :: r, l, R, p, h, hf, hi => by
    have h' : l.drop p = insB x ++ (txtB r ++ R) := by rw [h]; simp [txtB]
    have hx := fit_in (hf x (by simp))
    have hr := fun q hq => take_text r l R q hq (fun y hy => hf y (by simp [hy])) (fun y hy => hi y (by simp [hy]))
    rw [slots_cons]
    cases hw : isW x.o
    · obtain ⟨a, b⟩ := take_ins h' hx hw
      obtain ⟨c, d⟩ := hr _ b
      simp only [Bool.false_eq_true, if_false]
      rw [show 1 + slotsP r = slotsP r + 1 by omega]
      refine ⟨?_, by rw [show p + 8 * (slotsP r + 1) = p + 8 + 8 * slotsP r by omega]; exact d⟩
      unfold txR
      rw [a, hw, c]; rfl
    · obtain ⟨a, b, c, d⟩ := take_wide h' hx hw (hi x (by simp))
      obtain ⟨e, f⟩ := hr _ d
      simp only [if_true]
      rw [show 2 + slotsP r = slotsP r + 1 + 1 by omega]
      refine ⟨?_, by rw [show p + 8 * (slotsP r + 1 + 1) = p + 16 + 8 * slotsP r by omega]; exact f⟩
      unfold txR
      rw [a, hw]
      simp only [if_true, b, ne_eq, not_true, if_false, e, c]; rfl
theorem nameOk_word {x : List UInt8} (h : wordP x = true) : nameOk x = true := by
  simp only [wordP, Bool.and_eq_true, decide_eq_true_eq] at h
  obtain ⟨⟨h1, h2⟩, h3⟩ := h
  have hne : x.isEmpty = false := by cases x with | nil => simp [startP] at h2 | cons a r => rfl
  have hz : x.contains 0 = false := by
    cases hc : x.contains 0 with
    | false => rfl
    | true =>
      have := List.all_eq_true.1 h3 0 (by simpa using hc)
      exact absurd this (by decide)
  simp only [nameOk, hne, h1, hz]; rfl
theorem atF_lt : ∀ (N : List (List UInt8)) (a : Nat) (x : List UInt8), x ∈ N → plF a N x < szF a N
  | [], _, _, h => by simp at h
  | y :: r, a, x, h => by
    unfold plF szF
    by_cases e : y = x
    · rw [if_pos e]; have := szF_ge r (a + y.length + 1); omega
    · rw [if_neg e]; exact atF_lt r _ x (by simpa [Ne.symm e] using h)
theorem names_pre : ∀ (R K : List (List UInt8)), ∃ M, namesF (K ++ R) = namesF K ++ M
  | [], K => ⟨[], by simp⟩
  | x :: r, K => by
    obtain ⟨M, hM⟩ := names_pre r (K ++ [x])
    rw [List.append_assoc] at hM
    have : ∃ M', addN (namesF K) x = namesF K ++ M' := by
      unfold addN; split
      · exact ⟨[], by simp⟩
      · exact ⟨[x], rfl⟩
    obtain ⟨M', hM'⟩ := this
    exact ⟨M' ++ M, by rw [show K ++ x :: r = K ++ ([x] ++ r) by simp, hM, namesF_snoc, hM']; simp⟩
theorem plF_pre : ∀ (N M : List (List UInt8)) (a : Nat) (x : List UInt8), x ∈ N → plF a (N ++ M) x = plF a N x
  | [], _, _, _, h => by simp at h
  | y :: r, M, a, x, h => by
    simp only [List.cons_append, plF]
    by_cases e : y = x
    · rw [if_pos e, if_pos e]
    · rw [if_neg e, if_neg e]; exact plF_pre r M _ x (by simpa [Ne.symm e] using h)
theorem namesF_mem {K : List (List UInt8)} : ∀ x ∈ K, x ∈ namesF K := by
  refine snoc_ind (P := fun K => ∀ x ∈ K, x ∈ namesF K) (by simp) ?_ K
  intro l y ih x hx
  rw [namesF_snoc]
  rcases List.mem_append.1 hx with h | h
  · exact addN_sub (ih x h)
  · simp at h; rw [h]; exact addN_mem _ _
theorem atF_mem {N : List (List UInt8)} {x : List UInt8} (h : x ∈ N) : atF 1 N (plF 1 N x : Nat) = some x := by
  obtain ⟨k, h1, h2⟩ := plF_at N 1 x h
  rw [h2]; exact atF_end N 1 x k h1
theorem nmT_ok (K r : List (List UInt8)) (x : List UInt8) : nmT (namesF (K ++ x :: r)) (szF 1 (namesF K)) (plF 1 (namesF (K ++ x :: r)) x) = some (x, szF 1 (namesF (K ++ [x]))) := by
  have hm : x ∈ namesF (K ++ x :: r) := namesF_mem x (by simp)
  have hpos := (plF_zero _ 1 x (Nat.le_refl 1)).1 hm
  obtain ⟨M, hM⟩ := names_pre r (K ++ [x])
  rw [List.append_assoc, List.singleton_append] at hM
  have hx1 : x ∈ namesF (K ++ [x]) := namesF_mem x (by simp)
  have hp : plF 1 (namesF (K ++ x :: r)) x = plF 1 (namesF (K ++ [x])) x := by rw [hM]; exact plF_pre _ _ _ _ hx1
  have hat := atF_mem hm
  unfold nmT
  rw [hat, hp]
  rw [hp] at hpos
  rw [namesF_snoc] at hpos ⊢
  by_cases hk : x ∈ namesF K
  · have e : addN (namesF K) x = namesF K := by unfold addN; rw [if_pos hk]
    rw [e] at hpos ⊢
    have hlt := atF_lt (namesF K) 1 x hk
    rw [if_neg (by omega)]
    simp only [if_neg (show ¬ plF 1 (namesF K) x = szF 1 (namesF K) by omega)]
  · have e : addN (namesF K) x = namesF K ++ [x] := by unfold addN; rw [if_neg hk]
    rw [e] at hpos ⊢
    rw [plF_new hk, szF_snoc, if_neg (by have := szF_ge (namesF K) 1; omega)]
    simp only [if_true]
theorem cntO_ok : ∀ (A B : List Ins), cntO (A ++ B) (slotsP A) = (A.length, slotsP A)
  | [], [] => rfl
  | [], b :: r => by simp [cntO, slotsP]
  | x :: r, B => by
    have ih := cntO_ok r B
    simp only [List.cons_append, cntO, slots_cons]
    cases hw : isW x.o <;> simp only [Bool.false_eq_true, if_false, if_true]
    · rw [if_neg (by omega), show 1 + slotsP r - 1 = slotsP r by omega, ih]; simp; omega
    · rw [if_neg (by omega), show 2 + slotsP r - 2 = slotsP r by omega, ih]; simp; omega
end Go.Proofs.YthdgmhohofakgaaGreatDoor
