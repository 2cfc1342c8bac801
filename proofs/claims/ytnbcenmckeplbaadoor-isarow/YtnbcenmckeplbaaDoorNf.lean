import Derived.Test.YtnbcenmckeplbaaDoorNe
namespace Go.Proofs.YtnbcenmckeplbaaDoor
open Go.RowKit Go.Sort
set_option linter.unusedVariables false
set_option linter.unusedSimpArgs false

def rowK (op : Int) : Bool :=
  (!(formP op == 9) || op == 133) && (!(formP op == 10) || (op == 24 && useI op 10)) &&
  (!(formP op == 3 && bits .and .i64 op 240 == 48) || (op == 55 || op == 63 || op == 52 || op == 60)) &&
  (!(formP op == 3 && bits .and .i64 op 240 == 144) || (op == 151 || op == 159 || op == 148 || op == 156)) &&
  (!(formP op == 3 && bits .and .i64 op 240 == 176 && hasSrc op) || (op == 191 || op == 188)) && (!(formP op == 6) || (op == 219 || op == 195))
theorem row_kinds : ∀ l ∈ opsT, ∀ op ∈ l, rowK op = true := by decide +kernel
theorem may_21 {o d s f i : Int} (h0 : (formP o == 0) = false) (h : fitO o d s f i = false) : mayP o d s f i = 21 := by simp [mayP, h0, h]
theorem changed_0 {o d s f i x : Int} (h : mayP o d s f i = 0) (hu : useD o (formP o) = false) (hx : x ≠ 0) : mayP o x s f i = 21 := by
  obtain ⟨h0, _, _⟩ := may_ok h
  refine may_21 h0 ?_
  simp [fitO, fitP, dstP, hu, hx]
theorem changed_1 {o d s f i x : Int} (h : mayP o d s f i = 0) (hu : useS o (formP o) = false) (hx : x ≠ 0) (hn : NotFixed o 1 x) : mayP o d x f i = 21 := by
  obtain ⟨h0, _, _⟩ := may_ok h
  obtain ⟨l, hl, ho⟩ := form_mem o h0
  have hk := row_kinds l hl o ho
  refine may_21 h0 ?_
  have h1 := hn.1 rfl
  have : srcP (formP o) (useS o (formP o)) x = false := by
    rw [hu]
    unfold rowK at hk
    by_cases c9 : formP o = 9
    · simp [c9] at hk
      have := h1 (.inl hk)
      simp [srcP, c9, hx, this]
    by_cases c10 : formP o = 10
    · simp [c10] at hk
      have := h1 (.inr hk.1)
      simp [srcP, c10, hx, this]
    · simp [srcP, c9, c10, hx]
  simp [fitO, fitP, this]
theorem changed_2 {o d s f i x : Int} (h : mayP o d s f i = 0) (hu : useO o (formP o) = false) (hx : x ≠ 0) (hn : NotFixed o 2 x) : mayP o d s x i = 21 := by
  obtain ⟨h0, _, _⟩ := may_ok h
  obtain ⟨l, hl, ho⟩ := form_mem o h0
  have hk := row_kinds l hl o ho
  refine may_21 h0 ?_
  obtain ⟨h1, h2⟩ := hn.2.1 rfl
  have : offP o (formP o) (useO o (formP o)) x = false := by
    rw [hu]
    unfold rowK at hk
    by_cases c3 : formP o = 3
    · simp [c3] at hk
      obtain ⟨⟨k1, k2⟩, k3⟩ := hk
      by_cases b1 : bits BinOp.and IntKind.i64 o 240 = 48
      · have : x ≠ 1 := by
          apply h1
          have := k1.resolve_left (fun h => h b1)
          omega
        simp [offP, c3, hx, variantP, b1, this]
      by_cases b2 : bits BinOp.and IntKind.i64 o 240 = 144
      · have : x ≠ 1 := by
          apply h1
          have := k2.resolve_left (fun h => h b2)
          omega
        simp [offP, c3, hx, variantP, b2, this]
      by_cases b3 : bits BinOp.and IntKind.i64 o 240 = 176
      · cases hs : hasSrc o
        · simp [offP, c3, hx, variantP, b3, hs]
        · have h4 : o = 191 ∨ o = 188 := by
            rcases k3 with k | k
            · simp [hs] at k; exact absurd b3 k
            · exact k
          obtain ⟨x8, x16, x32⟩ := h2 h4
          simp [offP, c3, hx, variantP, b3, hs, x8, x16]
          intro e32 e191
          exact x32 e191 e32
      · simp [offP, c3, hx, variantP, b1, b2, b3]
    · simp [offP, c3, hx]
  simp [fitO, fitP, this]
theorem changed_3 {o d s f i x : Int} (h : mayP o d s f i = 0) (hu : useI o (formP o) = false) (hx : x ≠ 0) (hn : NotFixed o 3 x) : mayP o d s f x = 21 := by
  obtain ⟨h0, _, _⟩ := may_ok h
  obtain ⟨l, hl, ho⟩ := form_mem o h0
  have hk := row_kinds l hl o ho
  refine may_21 h0 ?_
  obtain ⟨h1, h2⟩ := hn.2.2 rfl
  have : immP o (formP o) s (useI o (formP o)) x = false := by
    unfold rowK at hk
    by_cases c10 : formP o = 10
    · simp [c10] at hk
      rw [c10] at hu
      simp [hk.2] at hu
    rw [hu]
    by_cases c6 : formP o = 6
    · simp [c6] at hk
      obtain ⟨a1, a2, a3, a4, a5, a6, a7, a8, a9⟩ := h2 hk
      simp [immP, c6, atomP, immsT, hx, a1, a2, a3, a4, a5, a6, a7, a8, a9]
    · cases hor : ordersP o
      · simp [immP, c10, c6, hor, hx]
      · have : o = 212 ∨ o = 220 ∨ o = 215 := by
          simp [ordersP] at hor
          omega
        obtain ⟨b1, b2, b3⟩ := h1 this
        simp [immP, c10, c6, hor, b1, b2, b3]
  simp [fitO, fitP, this]
end Go.Proofs.YtnbcenmckeplbaaDoor
