import Derived.Test.YtgephenkbbelcaaDoorLf
namespace Go.Proofs.YtgephenkbbelcaaDoor
open Go.RowKit
set_option linter.unusedVariables false
set_option linter.unusedSimpArgs false
set_option synthInstance.maxSize 4000 in
set_option synthInstance.maxHeartbeats 2000000 in
set_option maxHeartbeats 4000000 in
theorem form_mem (op : Int) (h : (formP op == 0) = false) : ∃ l ∈ opsT, op ∈ l := by
  apply Classical.byContradiction
  intro hn
  have := formIn_none op opsT 0 (fun x hx hop => hn ⟨x, hx, hop⟩)
  simp [formP, this] at h
open Go.RowKit
set_option linter.unusedVariables false
set_option linter.unusedSimpArgs false
def baseR (op : Int) : RowP := ⟨formP op, groupP op (formP op), useD op (formP op), useS op (formP op), useO op (formP op), useI op (formP op), op == 24, 0, 0, if ordersP op then [16, 32, 64] else if formP op == 6 then immsT else []⟩
def alike (a b : RowP) : Bool := a.form == b.form && a.group == b.group && a.dst == b.dst && a.src == b.src && a.off == b.off && a.imm == b.imm && a.any == b.any && a.srcIs == b.srcIs && a.offIs == b.offIs && a.imms == b.imms
def offsR (op : Int) : List Int := if formP op == 3 then (if bits .and .i64 op 240 == 48 then [1] else if bits .and .i64 op 240 == 144 then [1] else if bits .and .i64 op 240 == 176 && hasSrc op then (if op == 191 then [8, 16, 32] else [8, 16]) else []) else []
def srcsR (op : Int) : List RowP := if formP op == 9 then [{ baseR op with srcIs := 1 }] else if formP op == 10 then [{ baseR op with srcIs := 1, any := false }] else []
def allR (op : Int) : List RowP := baseR op :: ((offsR op).map (fun x => { baseR op with offIs := x }) ++ srcsR op)
def rowsB (op : Int) : Bool := (rowsR op).length == (allR op).length && ((rowsR op).zip (allR op)).all (fun (a, b) => alike a b)
theorem rows_kinds : ∀ l ∈ opsT, ∀ op ∈ l, rowsB op = true := by decide +kernel
theorem rows_none : ∀ n : Nat, n < 256 → ((formP (n : Int) == 0) = (rowsR (n : Int)).isEmpty) := by decide +kernel
theorem alike_eq {a b : RowP} (h : alike a b = true) : a = b := by
  obtain ⟨a0, a1, a2, a3, a4, a5, a6, a7, a8, a9⟩ := a
  obtain ⟨b0, b1, b2, b3, b4, b5, b6, b7, b8, b9⟩ := b
  simp only [alike, Bool.and_eq_true, beq_iff_eq] at h
  simp [h]
theorem zip_eq : ∀ (a b : List RowP), a.length = b.length → ((a.zip b).all fun (x, y) => alike x y) = true → a = b
  | [], [], _, _ => rfl
  | [], _ :: _, h, _ => by simp at h
  | _ :: _, [], h, _ => by simp at h
  | x :: a, y :: b, h, k => by
    simp only [List.zip_cons_cons, List.all_cons, Bool.and_eq_true] at k
    rw [alike_eq k.1, zip_eq a b (by simpa using h) k.2]
theorem rows_eq (op : Int) (h : (formP op == 0) = false) : rowsR op = allR op := by
  obtain ⟨l, hl, ho⟩ := form_mem op h
  have := rows_kinds l hl op ho
  simp only [rowsB, Bool.and_eq_true, beq_iff_eq] at this
  exact zip_eq _ _ this.1 this.2
theorem rows_empty (op : Int) (h : (formP op == 0) = true) : rowsR op = [] := by
  by_cases h0 : op < 0
  · simp [rowsR, h0]
  by_cases h1 : 255 < op
  · simp [rowsR, h0, h1]
  have := rows_none op.toNat (by omega)
  rw [show ((op.toNat : Nat) : Int) = op from by omega, h] at this
  simpa using this.symm
def kindB (op : Int) : Bool :=
  (!(formP op == 9) || (!useD op 9 && !useS op 9 && !useO op 9 && useI op 9 && !(op == 24) && !ordersP op)) &&
  (!(formP op == 10) || (useD op 10 && !useS op 10 && !useO op 10 && useI op 10 && (op == 24) && !ordersP op)) &&
  (!(formP op == 3) || (!useO op 3 && !(op == 24) && !ordersP op)) &&
  ((formP op == 10) || !(op == 24)) && (!(formP op == 6) || (!useI op 6 && !ordersP op)) && (!ordersP op || !useI op (formP op))
theorem kind_all : ∀ l ∈ opsT, ∀ op ∈ l, kindB op = true := by decide +kernel
theorem fit_same (o d s f i : Int) (h : (formP o == 0) = false) : ((rowsR o).any fun r => fitR r d s f i) = fitO o d s f i := by
  obtain ⟨l, hl, ho⟩ := form_mem o h
  have hk := kind_all l hl o ho
  rw [rows_eq o h]
  unfold kindB at hk
  by_cases h9 : formP o = 9
  · simp [h9] at hk
    obtain ⟨⟨⟨⟨⟨k1, k2⟩, k3⟩, k4⟩, k5⟩, k6⟩ := hk
    rw [Bool.eq_iff_iff]
    simp [allR, offsR, srcsR, baseR, fitR, fitO, fitP, offR, immR, regP, isReg, dstP, srcP, offP, immP, h9, k1, k2, k3, k4, k5, k6]
    omega
  by_cases h10 : formP o = 10
  · simp [h10] at hk
    obtain ⟨⟨⟨⟨⟨k1, k2⟩, k3⟩, k4⟩, k5⟩, k6⟩ := hk
    have e24 : (o == 24) = true := by simp [k4]
    clear k4
    rw [Bool.eq_iff_iff]
    simp only [allR, offsR, srcsR, baseR, fitR, fitO, fitP, offR, immR, regP, isReg, dstP, srcP, offP, immP, h10, k1.1, k1.2, k2, k3, e24, k5]
    simp
    omega
  by_cases h3 : formP o = 3
  · simp [h3] at hk
    obtain ⟨⟨⟨⟨k1, k2⟩, k3⟩, k4⟩, k5⟩ := hk
    have e24 : (o == 24) = false := by simp [k2]
    rw [Bool.eq_iff_iff]
    by_cases b1 : bits BinOp.and IntKind.i64 o 240 = 48
    · simp [allR, offsR, srcsR, baseR, fitR, fitO, fitP, offR, immR, regP, isReg, dstP, srcP, offP, immP, variantP, h3, k1, k3, e24, b1]
      try grind
    by_cases b2 : bits BinOp.and IntKind.i64 o 240 = 144
    · simp [allR, offsR, srcsR, baseR, fitR, fitO, fitP, offR, immR, regP, isReg, dstP, srcP, offP, immP, variantP, h3, k1, k3, e24, b2]
      try grind
    by_cases b3 : bits BinOp.and IntKind.i64 o 240 = 176
    · cases hs : hasSrc o
      · simp [allR, offsR, srcsR, baseR, fitR, fitO, fitP, offR, immR, regP, isReg, dstP, srcP, offP, immP, variantP, h3, k1, k3, e24, b3, hs]
        try grind
      · by_cases b4 : o = 191
        · have e191 : (o == 191) = true := by simp [b4]
          clear b4
          simp only [allR, offsR, srcsR, baseR, fitR, fitO, fitP, offR, immR, regP, isReg, dstP, srcP, offP, immP, variantP, h3, k1, k3, e24, b3, hs, e191]
          simp
          try grind
        · simp [allR, offsR, srcsR, baseR, fitR, fitO, fitP, offR, immR, regP, isReg, dstP, srcP, offP, immP, variantP, h3, k1, k3, e24, b3, hs, b4]
          try grind
    · simp [allR, offsR, srcsR, baseR, fitR, fitO, fitP, offR, immR, regP, isReg, dstP, srcP, offP, immP, variantP, h3, k1, k3, e24, b1, b2, b3]
      try grind
  · simp [h9, h10, h3] at hk
    obtain ⟨⟨k1, k2⟩, k3⟩ := hk
    have e24 : (o == 24) = false := by simp [k1]
    rw [Bool.eq_iff_iff]
    by_cases h6 : formP o = 6
    · have k2' := k2.resolve_left (fun h => h h6)
      simp [allR, offsR, srcsR, baseR, fitR, fitO, fitP, offR, immR, regP, isReg, dstP, srcP, offP, immP, h6, k2', e24, atomP, immsT]
      try grind
    · cases hor : ordersP o
      · simp [allR, offsR, srcsR, baseR, fitR, fitO, fitP, offR, immR, regP, isReg, dstP, srcP, offP, immP, h3, h6, h9, h10, e24, hor]
        try grind
      · have hI : useI o (formP o) = false := by simpa [hor] using k3
        simp [allR, offsR, srcsR, baseR, fitR, fitO, fitP, offR, immR, regP, isReg, dstP, srcP, offP, immP, h3, h6, h9, h10, e24, hor, hI]
        try grind
theorem may_same (o d s f i : Int) : mayP o d s f i = (if rowsR o = [] then 20 else if (rowsR o).any (fun r => fitR r d s f i) then 0 else 21) := by
  cases h : (formP o == 0)
  · have hne : rowsR o ≠ [] := by rw [rows_eq o h, allR]; simp
    rw [if_neg hne, fit_same o d s f i h]
    simp [mayP, h]
  · simp [mayP, h, rows_empty o h]
end Go.Proofs.YtgephenkbbelcaaDoor
