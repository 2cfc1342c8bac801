import Derived.Test.YtcalbhcgimipeaaEna
namespace Go.Proofs.Ytcalbhcgimipeaa
open Go.RowKit
set_option linter.unusedVariables false
set_option linter.unusedSimpArgs false
def sameL : List Sec → List Sec → Bool
  | [], [] => true
  | a :: r, b :: s => sameS a b && sameL r s
  | _, _ => false
theorem sameL_iff : ∀ A B : List Sec, sameL A B = true ↔ A = B
  | [], [] => by simp [sameL]
  | [], b :: s => by simp [sameL]
  | a :: r, [] => by simp [sameL]
  | a :: r, b :: s => by simp only [sameL, Bool.and_eq_true, sameS_iff, sameL_iff r s, List.cons.injEq]
theorem sameL_len : ∀ (A B : List Sec), ¬ A.length = B.length → sameL A B = false
  | [], [], h => absurd rfl h
  | [], b :: s, _ => rfl
  | a :: r, [], _ => rfl
  | a :: r, b :: s, h => by simp only [sameL, sameL_len r s (by simpa using h), Bool.and_false]
theorem sameL_step {A B : List Sec} {i : Nat} {x y : Sec} (hx : A[i]? = some x) (hy : B[i]? = some y) : sameL (A.drop i) (B.drop i) = (sameS x y && sameL (A.drop (i + 1)) (B.drop (i + 1))) := by
  obtain ⟨h1, e1⟩ := List.getElem?_eq_some_iff.1 hx
  obtain ⟨h2, e2⟩ := List.getElem?_eq_some_iff.1 hy
  rw [List.drop_eq_getElem_cons h1, List.drop_eq_getElem_cons h2, e1, e2, sameL]
theorem Cells8.later {w w' : World} {b off : Nat} {x : SV} (h : Cells8 w b off x) (o : Out w w') : Cells8 w' b off x := ⟨cell_later o h.c0, cell_later o h.c1, cell_later o h.c2, cell_later o h.c3, cell_later o h.c4, cell_later o h.c5, cell_later o h.c6, cell_later o h.c7⟩
theorem secs_get {L : List SV} {i : Nat} {x : SV} (h : L[i]? = some x) : (secs L)[i]? = some x.s := by simp [secs, h]
theorem secs_len (L : List SV) : (secs L).length = L.length := by simp [secs]
set_option maxRecDepth 8000 in
set_option maxHeartbeats 1000000 in
theorem sameSections_any (w : World) (a b : Option Addr) (c d : Nat) (L M : List SV) (hL : ScAt w.heap.size w a L) (hM : ScAt w.heap.size w b M) (dL : ∀ x ∈ L, DR w x) (dM : ∀ x ∈ M, DR w x) (hc : L.length ≤ c) (hd : M.length ≤ d) (hl : L.length ≤ 1000000000000) (hm : M.length ≤ 1000000000000) :
    Calls Try.prog 16 #[.slice a L.length c, .slice b M.length d] w fun e w' => e = .returned (.bool (sameL (secs L) (secs M))) ∧ Out w w' := by
  have HL := hidOf hL
  have HM := hidOf hM
  have DL := hidOf dL
  have DM := hidOf dM
  clear hL hM dL dM
  by_cases hne : L.length = M.length
  · rw [← hne] at hd hm ⊢
    have hnI : ((L.length : Int) != L.length) = false := by simp
    have hcI : (L.length : Int) ≤ c := by omega
    have hdI : (L.length : Int) ≤ d := by omega
    have Hne := hidOf hne
    clear hne
    go_enter Try.func16, Try.ntmps16
    go_wp2
    go_loopw [5] (fun iv wr => ∃ i : Nat, iv = .int .i64 i ∧ i ≤ L.length ∧ Hid (sameL (secs L) (secs M) = sameL ((secs L).drop i) ((secs M).drop i)) ∧ Hid (Out w wr)) (fun iv _ => L.length - (intOf iv).toNat)
    case atStart => exact ⟨0, rfl, by omega, rfl, Out.refl _⟩
    case round =>
      obtain ⟨i, rfl, hi, HE, Ho⟩ := hrel
      by_cases hiL : i < L.length
      · have hlt : (i : Int) < L.length := by omega
        have h0 : (0 : Int) ≤ i := by omega
        obtain ⟨x, hx⟩ : ∃ x, L[i]? = some x := ⟨_, List.getElem?_eq_getElem hiL⟩
        obtain ⟨y, hy⟩ : ∃ y, M[i]? = some y := ⟨_, List.getElem?_eq_getElem (by rw [← Hne.out]; exact hiL)⟩
        obtain ⟨g, off, rfl, hg, h8⟩ := HL.out.get hx
        obtain ⟨g', off', rfl, hg', h8'⟩ := HM.out.get hy
        have CS := hidOf (fun wx (o : Out wr wx) => same1 x y wx ((DL.out x (List.mem_of_getElem? hx)).out (Ho.out.trans o)) ((DM.out y (List.mem_of_getElem? hy)).out (Ho.out.trans o)))
        have Hst := hidOf (sameL_step (secs_get hx) (secs_get hy))
        have HX := hidOf h8
        have HY := hidOf h8'
        have HK : Hid (∀ wx, Out wr wx → wx.cell? ⟨g, off + i * 8, none⟩ = some (.string ⟨x.s.nm.toArray⟩) ∧ wx.cell? ⟨g, off + i * 8 + 1, none⟩ = some (.int .i64 x.s.ty) ∧ wx.cell? ⟨g, off + i * 8 + 2, none⟩ = some (.int .i64 x.s.fl) ∧ wx.cell? ⟨g, off + i * 8 + 3, none⟩ = some (.int .i64 x.s.li) ∧ wx.cell? ⟨g, off + i * 8 + 4, none⟩ = some (.int .i64 x.s.inf) ∧ wx.cell? ⟨g, off + i * 8 + 5, none⟩ = some (.int .i64 x.s.al) ∧ wx.cell? ⟨g, off + i * 8 + 6, none⟩ = some (.int .i64 x.s.es) ∧ wx.cell? ⟨g, off + i * 8 + 7, none⟩ = some (.slice x.da x.s.d.length x.dc) ∧ wx.cell? ⟨g', off' + i * 8, none⟩ = some (.string ⟨y.s.nm.toArray⟩) ∧ wx.cell? ⟨g', off' + i * 8 + 1, none⟩ = some (.int .i64 y.s.ty) ∧ wx.cell? ⟨g', off' + i * 8 + 2, none⟩ = some (.int .i64 y.s.fl) ∧ wx.cell? ⟨g', off' + i * 8 + 3, none⟩ = some (.int .i64 y.s.li) ∧ wx.cell? ⟨g', off' + i * 8 + 4, none⟩ = some (.int .i64 y.s.inf) ∧ wx.cell? ⟨g', off' + i * 8 + 5, none⟩ = some (.int .i64 y.s.al) ∧ wx.cell? ⟨g', off' + i * 8 + 6, none⟩ = some (.int .i64 y.s.es) ∧ wx.cell? ⟨g', off' + i * 8 + 7, none⟩ = some (.slice y.da y.s.d.length y.dc)) := fun wx o => by
          obtain ⟨p0, p1, p2, p3, p4, p5, p6, p7⟩ := HX.out.later (Ho.out.trans o)
          obtain ⟨q0, q1, q2, q3, q4, q5, q6, q7⟩ := HY.out.later (Ho.out.trans o)
          exact ⟨p0, p1, p2, p3, p4, p5, p6, p7, q0, q1, q2, q3, q4, q5, q6, q7⟩
        have OD := hidOf ((Out.refl wr).drew)
        clear hx hy h8 h8'
        cases hS : sameS x.s y.s with
        | false =>
          rw [hS] at CS Hst
          clear hS
          go_upto_region 6 with fail
          go_region_held3 (fun wx => wx.cell? ⟨g, off + i * 8, none⟩ = some (.string ⟨x.s.nm.toArray⟩) ∧ wx.cell? ⟨g, off + i * 8 + 1, none⟩ = some (.int .i64 x.s.ty) ∧ wx.cell? ⟨g, off + i * 8 + 2, none⟩ = some (.int .i64 x.s.fl) ∧ wx.cell? ⟨g, off + i * 8 + 3, none⟩ = some (.int .i64 x.s.li) ∧ wx.cell? ⟨g, off + i * 8 + 4, none⟩ = some (.int .i64 x.s.inf) ∧ wx.cell? ⟨g, off + i * 8 + 5, none⟩ = some (.int .i64 x.s.al) ∧ wx.cell? ⟨g, off + i * 8 + 6, none⟩ = some (.int .i64 x.s.es) ∧ wx.cell? ⟨g, off + i * 8 + 7, none⟩ = some (.slice x.da x.s.d.length x.dc) ∧ wx.cell? ⟨g', off' + i * 8, none⟩ = some (.string ⟨y.s.nm.toArray⟩) ∧ wx.cell? ⟨g', off' + i * 8 + 1, none⟩ = some (.int .i64 y.s.ty) ∧ wx.cell? ⟨g', off' + i * 8 + 2, none⟩ = some (.int .i64 y.s.fl) ∧ wx.cell? ⟨g', off' + i * 8 + 3, none⟩ = some (.int .i64 y.s.li) ∧ wx.cell? ⟨g', off' + i * 8 + 4, none⟩ = some (.int .i64 y.s.inf) ∧ wx.cell? ⟨g', off' + i * 8 + 5, none⟩ = some (.int .i64 y.s.al) ∧ wx.cell? ⟨g', off' + i * 8 + 6, none⟩ = some (.int .i64 y.s.es) ∧ wx.cell? ⟨g', off' + i * 8 + 7, none⟩ = some (.slice y.da y.s.d.length y.dc)) (first | with_reducible exact HK.out _ (Hid.out (by assumption)) | fail) (first | (go_at_call 20; refine (CS.out _ (Hid.out (by assumption))).mono ?_; rintro e w1 ⟨rfl, hO1⟩; have HO1 := hidOf (OD.out.trans hO1); clear hO1) | fail)
          go_wp2
          go_ret
          exact ⟨by rw [HE.out, Hst.out]; rfl, Ho.out.trans HO1.out⟩
        | true =>
          rw [hS] at CS Hst
          clear hS
          go_upto_region 6 with fail
          go_region_held3 (fun wx => wx.cell? ⟨g, off + i * 8, none⟩ = some (.string ⟨x.s.nm.toArray⟩) ∧ wx.cell? ⟨g, off + i * 8 + 1, none⟩ = some (.int .i64 x.s.ty) ∧ wx.cell? ⟨g, off + i * 8 + 2, none⟩ = some (.int .i64 x.s.fl) ∧ wx.cell? ⟨g, off + i * 8 + 3, none⟩ = some (.int .i64 x.s.li) ∧ wx.cell? ⟨g, off + i * 8 + 4, none⟩ = some (.int .i64 x.s.inf) ∧ wx.cell? ⟨g, off + i * 8 + 5, none⟩ = some (.int .i64 x.s.al) ∧ wx.cell? ⟨g, off + i * 8 + 6, none⟩ = some (.int .i64 x.s.es) ∧ wx.cell? ⟨g, off + i * 8 + 7, none⟩ = some (.slice x.da x.s.d.length x.dc) ∧ wx.cell? ⟨g', off' + i * 8, none⟩ = some (.string ⟨y.s.nm.toArray⟩) ∧ wx.cell? ⟨g', off' + i * 8 + 1, none⟩ = some (.int .i64 y.s.ty) ∧ wx.cell? ⟨g', off' + i * 8 + 2, none⟩ = some (.int .i64 y.s.fl) ∧ wx.cell? ⟨g', off' + i * 8 + 3, none⟩ = some (.int .i64 y.s.li) ∧ wx.cell? ⟨g', off' + i * 8 + 4, none⟩ = some (.int .i64 y.s.inf) ∧ wx.cell? ⟨g', off' + i * 8 + 5, none⟩ = some (.int .i64 y.s.al) ∧ wx.cell? ⟨g', off' + i * 8 + 6, none⟩ = some (.int .i64 y.s.es) ∧ wx.cell? ⟨g', off' + i * 8 + 7, none⟩ = some (.slice y.da y.s.d.length y.dc)) (first | with_reducible exact HK.out _ (Hid.out (by assumption)) | fail) (first | (go_at_call 20; refine (CS.out _ (Hid.out (by assumption))).mono ?_; rintro e w1 ⟨rfl, hO1⟩; have HO1 := hidOf (OD.out.trans hO1); clear hO1) | fail)
          go_wp2
          exact ⟨⟨i + 1, by simp, by omega, by show _ = _; rw [HE.out, Hst.out, Bool.true_and], Ho.out.trans HO1.out⟩, by simp [intOf]; omega⟩
      · have hlt : ¬ (i : Int) < L.length := by omega
        obtain rfl : i = L.length := by omega
        have HE2 : Hid (sameL (secs L) (secs M) = true) := hidOf (by
          have h1 : (secs L).drop L.length = [] := by rw [← secs_len L, List.drop_length]
          have h2 : (secs M).drop L.length = [] := by rw [Hne.out, ← secs_len M, List.drop_length]
          rw [HE.out, h1, h2]; rfl)
        go_wp2
        go_ret
        exact ⟨by rw [HE2.out]; rfl, Ho.out⟩
  · have hnI : ((L.length : Int) != M.length) = true := by simp [bne]; omega
    have hnI2 : ((L.length : Int) == M.length) = false := by simp; omega
    have hnI3 : ¬ (L.length : Int) = M.length := by omega
    have HF := hidOf (sameL_len (secs L) (secs M) (by rw [secs_len, secs_len]; exact hne))
    go_enter Try.func16, Try.ntmps16
    go_wp2
    go_ret
    exact ⟨by rw [HF.out]; rfl, Out.refl _⟩
end Go.Proofs.Ytcalbhcgimipeaa
