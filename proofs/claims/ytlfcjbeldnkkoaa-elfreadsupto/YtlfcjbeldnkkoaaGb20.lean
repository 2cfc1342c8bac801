import Derived.Test.YtlfcjbeldnkkoaaGb19
import Derived.Test.YtlfcjbeldnkkoaaGb17
namespace Go.Proofs.Ytlfcjbeldnkkoaa
open Go.RowKit
set_option linter.unusedVariables false
set_option linter.unusedSimpArgs false
def sameL : List Sec → List Sec → Bool
  | [], [] => true
  | a :: r, b :: s => sameS a b && sameL r s
  | _, _ => false
theorem sameL_iff : ∀ A B : List Sec, sameL A B = true ↔ A = B
  | [], [] => by simp [sameL]
  | [], b :: s => by simp [sameL]
  | a :: r, [] => by simp [sameL]
  | a :: r, b :: s => by simp only [sameL, Bool.and_eq_true, sameS_iff, sameL_iff r s, List.cons.injEq]
theorem sameL_len : ∀ (A B : List Sec), ¬ A.length = B.length → sameL A B = false
  | [], [], h => absurd rfl h
  | [], b :: s, _ => rfl
  | a :: r, [], _ => rfl
  | a :: r, b :: s, h => by simp only [sameL, sameL_len r s (by simpa using h), Bool.and_false]
theorem sameL_step {A B : List Sec} {i : Nat} {x y : Sec} (hx : A[i]? = some x) (hy : B[i]? = some y) : sameL (A.drop i) (B.drop i) = (sameS x y && sameL (A.drop (i + 1)) (B.drop (i + 1))) := by
  obtain ⟨h1, e1⟩ := List.getElem?_eq_some_iff.1 hx
  obtain ⟨h2, e2⟩ := List.getElem?_eq_some_iff.1 hy
  rw [List.drop_eq_getElem_cons h1, List.drop_eq_getElem_cons h2, e1, e2, sameL]
theorem Cells8.later {w w' : World} {b off : Nat} {x : SV} (h : Cells8 w b off x) (o : Out w w') : Cells8 w' b off x := ⟨cell_later o h.c0, cell_later o h.c1, cell_later o h.c2, cell_later o h.c3, cell_later o h.c4, cell_later o h.c5, cell_later o h.c6, cell_later o h.c7⟩
theorem secs_get {L : List SV} {i : Nat} {x : SV} (h : L[i]? = some x) : (secs L)[i]? = some x.s := by simp [secs, h]
theorem secs_len (L : List SV) : (secs L).length = L.length := by simp [secs]
set_option maxRecDepth 8000 in
set_option maxHeartbeats 1000000 in
theorem sameSections_any (w : World) (a b : Option Addr) (c d : Nat) (L M : List SV) (hL : ScAt w.heap.size w a L) (hM : ScAt w.heap.size w b M) (dL : ∀ x ∈ L, DR w x) (dM : ∀ x ∈ M, DR w x) (hc : L.length ≤ c) (hd : M.length ≤ d) (hl : L.length ≤ 1000000000000) (hm : M.length ≤ 1000000000000) :
    Calls Try.prog 14 #[.slice a L.length c, .slice b M.length d] w fun e w' => e = .returned (.bool (sameL (secs L) (secs M))) ∧ Out w w' := by
  have HL := hidOf hL
  have HM := hidOf hM
  have DL := hidOf dL
  have DM := hidOf dM
  clear hL hM dL dM
  by_cases hne : L.length = M.length
  · rw [← hne] at hd hm ⊢
    have hnI : ((L.length : Int) != L.length) = false := by simp
    have hcI : (L.length : Int) ≤ c := by omega
    have hdI : (L.length : Int) ≤ d := by omega
    have Hne := hidOf hne
    clear hne
    go_enter Try.func14, Try.ntmps14
    go_wp2
    go_loopw [5] (fun iv wr => ∃ i : Nat, iv = .int .i64 i ∧ i ≤ L.length ∧ Hid (sameL (secs L) (secs M) = sameL ((secs L).drop i) ((secs M).drop i)) ∧ Hid (Out w wr)) (fun iv _ => L.length - (intOf iv).toNat)
    case atStart => exact ⟨0, rfl, by omega, rfl, Out.refl _⟩
    case round =>
      obtain ⟨i, rfl, hi, HE, Ho⟩ := hrel
      by_cases hiL : i < L.length
      · have hlt : (i : Int) < L.length := by omega
        have h0 : (0 : Int) ≤ i := by omega
        obtain ⟨x, hx⟩ : ∃ x, L[i]? = some x := ⟨_, List.getElem?_eq_getElem hiL⟩
        obtain ⟨y, hy⟩ : ∃ y, M[i]? = some y := ⟨_, List.getElem?_eq_getElem (by rw [← Hne.out]; exact hiL)⟩
        obtain ⟨g, off, rfl, hg, h8⟩ := HL.out.get hx
        obtain ⟨g', off', rfl, hg', h8'⟩ := HM.out.get hy
        have CS := hidOf (fun wx (o : Out wr wx) => same1 x y wx ((DL.out x (List.mem_of_getElem? hx)).out (Ho.out.trans o)) ((DM.out y (List.mem_of_getElem? hy)).out (Ho.out.trans o)))
        have Hst := hidOf (sameL_step (secs_get hx) (secs_get hy))
        have HX := hidOf h8
        have HY := hidOf h8'
        have HK : Hid (∀ wx, Out wr wx → wx.cell? ⟨g, off + i * 8, none⟩ = some (.string ⟨x.s.nm.toArray⟩) ∧ wx.cell? ⟨g, off + i * 8 + 1, none⟩ = some (.int .i64 x.s.ty) ∧ wx.cell? ⟨g, off + i * 8 + 2, none⟩ = some (.int .i64 x.s.fl) ∧ wx.cell? ⟨g, off + i * 8 + 3, none⟩ = some (.int .i64 x.s.li) ∧ wx.cell? ⟨g, off + i * 8 + 4, none⟩ = some (.int .i64 x.s.inf) ∧ wx.cell? ⟨g, off + i * 8 + 5, none⟩ = some (.int .i64 x.s.al) ∧ wx.cell? ⟨g, off + i * 8 + 6, none⟩ = some (.int .i64 x.s.es) ∧ wx.cell? ⟨g, off + i * 8 + 7, none⟩ = some (.slice x.da x.s.d.length x.dc) ∧ wx.cell? ⟨g', off' + i * 8, none⟩ = some (.string ⟨y.s.nm.toArray⟩) ∧ wx.cell? ⟨g', off' + i * 8 + 1, none⟩ = some (.int .i64 y.s.ty) ∧ wx.cell? ⟨g', off' + i * 8 + 2, none⟩ = some (.int .i64 y.s.fl) ∧ wx.cell? ⟨g', off' + i * 8 + 3, none⟩ = some (.int .i64 y.s.li) ∧ wx.cell? ⟨g', off' + i * 8 + 4, none⟩ = some (.int .i64 y.s.inf) ∧ wx.cell? ⟨g', off' + i * 8 + 5, none⟩ = some (.int .i64 y.s.al) ∧ wx.cell? ⟨g', off' + i * 8 + 6, none⟩ = some (.int .i64 y.s.es) ∧ wx.cell? ⟨g', off' + i * 8 + 7, none⟩ = some (.slice y.da y.s.d.length y.dc)) := fun wx o => by
          obtain ⟨p0, p1, p2, p3, p4, p5, p6, p7⟩ := HX.out.later (Ho.out.trans o)
          obtain ⟨q0, q1, q2, q3, q4, q5, q6, q7⟩ := HY.out.later (Ho.out.trans o)
          exact ⟨p0, p1, p2, p3, p4, p5, p6, p7, q0, q1, q2, q3, q4, q5, q6, q7⟩
        have OD := hidOf ((Out.refl wr).drew)
        clear hx hy h8 h8'
        cases hS : sameS x.s y.s with
        | false =>
          rw [hS] at CS Hst
          clear hS
          go_upto_region 6 with fail
          go_region_held3 (fun wx => wx.cell? ⟨g, off + i * 8, none⟩ = some (.string ⟨x.s.nm.toArray⟩) ∧ wx.cell? ⟨g, off + i * 8 + 1, none⟩ = some (.int .i64 x.s.ty) ∧ wx.cell? ⟨g, off + i * 8 + 2, none⟩ = some (.int .i64 x.s.fl) ∧ wx.cell? ⟨g, off + i * 8 + 3, none⟩ = some (.int .i64 x.s.li) ∧ wx.cell? ⟨g, off + i * 8 + 4, none⟩ = some (.int .i64 x.s.inf) ∧ wx.cell? ⟨g, off + i * 8 + 5, none⟩ = some (.int .i64 x.s.al) ∧ wx.cell? ⟨g, off + i * 8 + 6, none⟩ = some (.int .i64 x.s.es) ∧ wx.cell? ⟨g, off + i * 8 + 7, none⟩ = some (.slice x.da x.s.d.length x.dc) ∧ wx.cell? ⟨g', off' + i * 8, none⟩ = some (.string ⟨y.s.nm.toArray⟩) ∧ wx.cell? ⟨g', off' + i * 8 + 1, none⟩ = some (.int .i64 y.s.ty) ∧ wx.cell? ⟨g', off' + i * 8 + 2, none⟩ = some (.int .i64 y.s.fl) ∧ wx.cell? ⟨g', off' + i * 8 + 3, none⟩ = some (.int .i64 y.s.li) ∧ wx.cell? ⟨g', off' + i * 8 + 4, none⟩ = some (.int .i64 y.s.inf) ∧ wx.cell? ⟨g', off' + i * 8 + 5, none⟩ = some (.int .i64 y.s.al) ∧ wx.cell? ⟨g', off' + i * 8 + 6, none⟩ = some (.int .i64 y.s.es) ∧ wx.cell? ⟨g', off' + i * 8 + 7, none⟩ = some (.slice y.da y.s.d.length y.dc)) (first | with_reducible exact HK.out _ (Hid.out (by assumption)) | fail) (first | (go_at_call 10; refine (CS.out _ (Hid.out (by assumption))).mono ?_; rintro e w1 ⟨rfl, hO1⟩; have HO1 := hidOf (OD.out.trans hO1); clear hO1) | fail)
          go_wp2
          go_ret
          exact ⟨by rw [HE.out, Hst.out]; rfl, Ho.out.trans HO1.out⟩
        | true =>
          rw [hS] at CS Hst
          clear hS
          go_upto_region 6 with fail
          go_region_held3 (fun wx => wx.cell? ⟨g, off + i * 8, none⟩ = some (.string ⟨x.s.nm.toArray⟩) ∧ wx.cell? ⟨g, off + i * 8 + 1, none⟩ = some (.int .i64 x.s.ty) ∧ wx.cell? ⟨g, off + i * 8 + 2, none⟩ = some (.int .i64 x.s.fl) ∧ wx.cell? ⟨g, off + i * 8 + 3, none⟩ = some (.int .i64 x.s.li) ∧ wx.cell? ⟨g, off + i * 8 + 4, none⟩ = some (.int .i64 x.s.inf) ∧ wx.cell? ⟨g, off + i * 8 + 5, none⟩ = some (.int .i64 x.s.al) ∧ wx.cell? ⟨g, off + i * 8 + 6, none⟩ = some (.int .i64 x.s.es) ∧ wx.cell? ⟨g, off + i * 8 + 7, none⟩ = some (.slice x.da x.s.d.length x.dc) ∧ wx.cell? ⟨g', off' + i * 8, none⟩ = some (.string ⟨y.s.nm.toArray⟩) ∧ wx.cell? ⟨g', off' + i * 8 + 1, none⟩ = some (.int .i64 y.s.ty) ∧ wx.cell? ⟨g', off' + i * 8 + 2, none⟩ = some (.int .i64 y.s.fl) ∧ wx.cell? ⟨g', off' + i * 8 + 3, none⟩ = some (.int .i64 y.s.li) ∧ wx.cell? ⟨g', off' + i * 8 + 4, none⟩ = some (.int .i64 y.s.inf) ∧ wx.cell? ⟨g', off' + i * 8 + 5, none⟩ = some (.int .i64 y.s.al) ∧ wx.cell? ⟨g', off' + i * 8 + 6, none⟩ = some (.int .i64 y.s.es) ∧ wx.cell? ⟨g', off' + i * 8 + 7, none⟩ = some (.slice y.da y.s.d.length y.dc)) (first | with_reducible exact HK.out _ (Hid.out (by assumption)) | fail) (first | (go_at_call 10; refine (CS.out _ (Hid.out (by assumption))).mono ?_; rintro e w1 ⟨rfl, hO1⟩; have HO1 := hidOf (OD.out.trans hO1); clear hO1) | fail)
          go_wp2
          exact ⟨⟨i + 1, by simp, by omega, by show _ = _; rw [HE.out, Hst.out, Bool.true_and], Ho.out.trans HO1.out⟩, by simp [intOf]; omega⟩
      · have hlt : ¬ (i : Int) < L.length := by omega
        obtain rfl : i = L.length := by omega
        have HE2 : Hid (sameL (secs L) (secs M) = true) := hidOf (by
          have h1 : (secs L).drop L.length = [] := by rw [← secs_len L, List.drop_length]
          have h2 : (secs M).drop L.length = [] := by rw [Hne.out, ← secs_len M, List.drop_length]
          rw [HE.out, h1, h2]; rfl)
        go_wp2
        go_ret
        exact ⟨by rw [HE2.out]; rfl, Ho.out⟩
  · have hnI : ((L.length : Int) != M.length) = true := by simp [bne]; omega
    have hnI2 : ((L.length : Int) == M.length) = false := by simp; omega
    have hnI3 : ¬ (L.length : Int) = M.length := by omega
    have HF := hidOf (sameL_len (secs L) (secs M) (by rw [secs_len, secs_len]; exact hne))
    go_enter Try.func14, Try.ntmps14
    go_wp2
    go_ret
    exact ⟨by rw [HF.out]; rfl, Out.refl _⟩
end Go.Proofs.Ytlfcjbeldnkkoaa
namespace Go.Proofs.Ytlfcjbeldnkkoaa
open Go.RowKit
set_option linter.unusedVariables false
set_option linter.unusedSimpArgs false
/-- the copy's section, once its data are copied: a box that holds it, the list as it was -/
structure CB (w w2 : World) (q : Nat) (lv : Value) (Ls : List SV) (y : SV) : Prop where
  box : w2.heap[q]? = some (.cells y.cs.toArray 46 (0, 0))
  ss : SS w w2 lv Ls
  dat : OwB w.heap.size (.slice y.da y.s.d.length y.dc) y.s.d w2
theorem cb_of {w wb X : World} {q : Nat} {lv : Value} {Ls : List SV} {x : SV} {da' : Option Addr} {dc' : Nat} (hb : wb.heap[q]? = some (.cells x.cs.toArray 46 (0, 0))) (hs : SS w wb lv Ls) (hq : ∀ k, lv.ownBlock = some k → ¬ k = q) (hq2 : ∀ y ∈ Ls, ∀ k, (Value.slice y.da y.s.d.length y.dc).ownBlock = some k → ¬ k = q) (hw : w.heap.size ≤ q) (o : Out wb X) (hd : OwB w.heap.size (.slice da' x.s.d.length dc') x.s.d X) :
    CB w (X.setCell ⟨q, 7, none⟩ (.slice da' x.s.d.length dc')) q lv Ls ⟨x.s, da', dc'⟩ ∧ (∃ u, X.cell? ⟨q, 7, none⟩ = some u) ∧ X.frozen? ⟨q, 7, none⟩ = false := by
  have hX : X.heap[q]? = some (.cells x.cs.toArray 46 (0, 0)) := (o.block q (Array.getElem?_eq_some_iff.1 hb).1).trans hb
  have c2 : Chg (fun k => k = q) X (X.setCell ⟨q, 7, none⟩ (.slice da' x.s.d.length dc')) := Chg.setCell (S := fun k => k = q) (Chg.refl _ X) (p := ⟨q, 7, none⟩) rfl _
  refine ⟨⟨?_, (hs.on o).chg c2 (fun k hk => hq k hk) (fun y hy k hk => hq2 y hy k hk) (fun k hk => by omega), ?_⟩, ⟨.slice x.da x.s.d.length x.dc, by simp [World.cell?, hX, SV.cs]⟩, by simp [World.frozen?, hX]⟩
  · simp [World.setCell, Array.getElem?_modify, hX, SV.cs]
  · exact owns_chg hd (fun k hk e => own_type hd hX (by decide) (by rw [← e]; exact hk)) c2
theorem grow0 {B : Nat} {w : World} {v : Value} {d : List UInt8} (h : w.ownsRow B 5 1 v (0 + d.length) ([] ++ Lib.byteCells d)) : OwB B v d w := by
  rw [Nat.zero_add, List.nil_append] at h
  exact h
theorem CB.cell {w w2 : World} {q : Nat} {lv : Value} {Ls : List SV} {y : SV} (h : CB w w2 q lv Ls y) (j : Nat) : w2.cell? ⟨q, j, none⟩ = y.cs[j]? := by
  have := box_cell h.box j
  simpa using this
end Go.Proofs.Ytlfcjbeldnkkoaa
namespace Go.Proofs.Ytlfcjbeldnkkoaa
open Go.RowKit
set_option linter.unusedVariables false
set_option linter.unusedSimpArgs false
theorem tw_split : ∀ l : List UInt8, (0 : UInt8) ∈ l → l = l.takeWhile (fun b => b != 0) ++ 0 :: l.drop ((l.takeWhile (fun b => b != 0)).length + 1)
  | [], h => by cases h
  | c :: r, h => by
    by_cases hc : c = 0
    · subst hc; simp
    · have h2 : (0 : UInt8) ∈ r := by
        rcases List.mem_cons.1 h with h | h
        · exact absurd h.symm hc
        · exact h
      have ih := tw_split r h2
      have e : (c :: r).takeWhile (fun b => b != 0) = c :: r.takeWhile (fun b => b != 0) := by simp [hc]
      rw [e, List.length_cons, List.drop_succ_cons, List.cons_append, ← ih]
theorem nmP_split (l : List UInt8) (h : ¬ nmP l = []) : l = nmP l ++ 0 :: l.drop ((nmP l).length + 1) ∧ nameOk (nmP l) = true := by
  have hle := nmP_le l
  have h0 : (l.take 65).contains 0 = true := by
    unfold nmP at h
    split at h
    · assumption
    · exact absurd rfl h
  have e : nmP l = l.takeWhile (fun b => b != 0) := by unfold nmP; rw [if_pos h0]
  have hm : (0 : UInt8) ∈ l := List.mem_of_mem_take (List.contains_iff_mem.1 h0)
  refine ⟨by rw [e]; exact tw_split l hm, ?_⟩
  have hz : (nmP l).contains 0 = false := by
    cases hc : (nmP l).contains 0 with
    | false => rfl
    | true =>
      have hx := List.contains_iff_mem.1 hc
      rw [e] at hx
      have := tw_all (fun b => b != 0) l 0 hx
      simp at this
  have he : (nmP l).isEmpty = false := by
    cases hq : nmP l with
    | nil => exact absurd hq h
    | cons a r => rfl
  simp only [nameOk, hz, he, Bool.not_false, Bool.true_and, Bool.and_true, decide_eq_true_eq]
  exact hle.1
theorem byF_cons (x : List UInt8) (M : List (List UInt8)) : byF (x :: M) = x ++ 0 :: byF M := by simp [byF]
theorem rdR_inv : ∀ (n : Nat) (l : List UInt8) (A N : List (List UInt8)) (p : Nat), l.length ≤ n → A.Nodup → rdR l A = (some N, p) → ∃ M, N = A ++ M ∧ l = byF M ∧ N.Nodup ∧ ∀ x ∈ M, nameOk x = true
  | n, [], A, N, p, _, hA, h => by
    rw [rdR_nil] at h
    cases h
    exact ⟨[], by simp, rfl, hA, by simp⟩
  | 0, c :: r, A, N, p, hl, _, h => by simp at hl
  | n + 1, c :: r, A, N, p, hl, hA, h => by
    by_cases hx : nmP (c :: r) ∈ A ∨ nmP (c :: r) = []
    · rw [rdR_bad _ _ (by simp) hx] at h; cases h
    · have hx1 : ¬ nmP (c :: r) ∈ A := fun q => hx (.inl q)
      have hx2 : ¬ nmP (c :: r) = [] := fun q => hx (.inr q)
      obtain ⟨hs, hok⟩ := nmP_split _ hx2
      rw [rdR_ok _ _ (by simp) hx1 hx2] at h
      have hl2 : ((c :: r).drop ((nmP (c :: r)).length + 1)).length ≤ n := by rw [List.length_drop]; omega
      obtain ⟨M, h1, h2, h3, h4⟩ := rdR_inv n _ _ N p hl2 (List.nodup_append.2 ⟨hA, by simp, by intro a ha b hb; simp at hb; rw [hb]; exact fun e => hx1 (e ▸ ha)⟩) h
      refine ⟨nmP (c :: r) :: M, by rw [h1]; simp, ?_, h3, ?_⟩
      · rw [byF_cons, ← h2]; exact hs
      · intro x hxm
        rcases List.mem_cons.1 hxm with q | q
        · rw [q]; exact hok
        · exact h4 x q
theorem rdP_inv {l : List UInt8} {N : List (List UInt8)} (h : (rdP l).1 = some N) : l = byP N ∧ N.Nodup ∧ ∀ x ∈ N, nameOk x = true := by
  cases l with
  | nil => cases h
  | cons c r =>
    by_cases hc : c = 0
    · subst hc
      rw [rdP_zero] at h
      obtain ⟨M, h1, h2, h3, h4⟩ := rdR_inv r.length r [] N (rdR r []).2 (Nat.le_refl _) (by simp) (Prod.ext h rfl)
      rw [List.nil_append] at h1
      subst h1
      exact ⟨by rw [byP, ← h2], h3, h4⟩
    · simp only [rdP, if_neg hc] at h
      cases h
theorem atF_idx : ∀ (N : List (List UInt8)) (a : Nat) (p : Int) (x : List UInt8), atF a N p = some x → ∃ k, N[k]? = some x ∧ p = (szF a (N.take k) : Nat)
  | [], _, _, _, h => by cases h
  | y :: r, a, p, x, h => by
    unfold atF at h
    split at h
    · rename_i e
      cases h
      exact ⟨0, rfl, by rw [← e]; rfl⟩
    · obtain ⟨k, h1, h2⟩ := atF_idx r _ p x h
      exact ⟨k + 1, by simpa using h1, by rw [h2]; rfl⟩
theorem szF_le {N : List (List UInt8)} {k j : Nat} (h : k ≤ j) : szF 1 (N.take k) ≤ szF 1 (N.take j) := by
  have := szF_take (N.take j) k
  rwa [List.take_take, Nat.min_eq_left h] at this
theorem szF_lt {N : List (List UInt8)} {k j : Nat} {x : List UInt8} (h : k < j) (hx : N[k]? = some x) : szF 1 (N.take k) < szF 1 (N.take j) := by
  have h1 := szF_le (N := N) (show k + 1 ≤ j from h)
  rw [take_snoc hx, szF_snoc] at h1
  omega
theorem idx_eq {N : List (List UInt8)} {k j : Nat} {x y : List UInt8} (hx : N[k]? = some x) (hy : N[j]? = some y) (h : szF 1 (N.take k) = szF 1 (N.take j)) : k = j := by
  rcases Nat.lt_trichotomy k j with q | q | q
  · have := szF_lt q hx; omega
  · exact q
  · have := szF_lt q hy; omega
theorem pl_of {N : List (List UInt8)} (hd : N.Nodup) {k : Nat} {x : List UInt8} (hx : N[k]? = some x) : plF 1 N x = szF 1 (N.take k) := by
  obtain ⟨j, h1, h2⟩ := plF_at N 1 x (List.mem_of_getElem? hx)
  have : j = k := by
    obtain ⟨hj, ej⟩ := List.getElem?_eq_some_iff.1 h1
    obtain ⟨hk, ek⟩ := List.getElem?_eq_some_iff.1 hx
    rcases Nat.lt_trichotomy j k with q | q | q
    · exact absurd (ej.trans ek.symm) (List.pairwise_iff_getElem.1 hd j k hj hk q)
    · exact q
    · exact absurd (ek.trans ej.symm) (List.pairwise_iff_getElem.1 hd k j hk hj q)
  rw [h2, this]
theorem nmG_inv {N : List (List UInt8)} (hd : N.Nodup) : ∀ (R : List En) (b j : Nat) (K : List (List UInt8)), b = szF 1 (N.take j) → j ≤ N.length → namesF K = N.take j → (nmG N b R).2.2 = none → ∃ j', j' ≤ N.length ∧ (nmG N b R).2.1 = szF 1 (N.take j') ∧ namesF (K ++ (nmG N b R).1.map En.nm) = N.take j' ∧ (∀ e ∈ (nmG N b R).1, e.nm ∈ N ∧ (plF 1 N e.nm : Int) = e.na) ∧ ∀ e, (nmG N b R).1.getLast? = some e → e.nm = shN
  | [], b, j, K, hb, hj, hK, _ => ⟨j, hj, hb, by simpa [nmG] using hK, by simp [nmG], by simp [nmG]⟩
  | e :: r, b, j, K, hb, hj, hK, h => by
    unfold nmG at h ⊢
    cases hx : atF 1 N e.na with
    | none => simp only [hx] at h; cases h
    | some x =>
      simp only [hx] at h ⊢
      by_cases hc : (b : Int) < e.na ∨ (r = [] ∧ x ≠ shN)
      · simp only [if_pos hc] at h; cases h
      · simp only [if_neg hc] at h ⊢
        obtain ⟨k, hk, hp⟩ := atF_idx N 1 e.na x hx
        have hpl : (plF 1 N x : Int) = e.na := by rw [pl_of hd hk, hp]
        have hmem : x ∈ N := List.mem_of_getElem? hk
        have hle : ¬ (b : Int) < e.na := fun q => hc (.inl q)
        have hkl := (List.getElem?_eq_some_iff.1 hk).1
        have hlast : ∀ b', (∀ e', (nmG N b' r).1.getLast? = some e' → e'.nm = shN) → ∀ e', ({ e with nm := x } :: (nmG N b' r).1).getLast? = some e' → e'.nm = shN := by
          intro b' hl e' he'
          have hlen := but_len (nmG_but N r b')
          cases hQ : (nmG N b' r).1 with
          | nil =>
            rw [hQ] at he' hlen
            simp at he'
            subst he'
            have hr : r = [] := List.length_eq_zero_iff.1 hlen.symm
            exact Classical.byContradiction fun hne => hc (.inr ⟨hr, hne⟩)
          | cons q Q => rw [hQ, List.getLast?_cons_cons] at he'; exact hl e' (by rw [hQ]; exact he')
        by_cases hq : e.na = b
        · have hkj : k = j := by
            by_cases hjl : j < N.length
            · exact idx_eq hk (List.getElem?_eq_getElem hjl) (by omega)
            · exfalso
              have := szF_lt (N := N) (show k < j by omega) hk
              omega
          subst hkj
          simp only [if_pos hq] at h ⊢
          have hnm : ¬ x ∈ N.take k := by
            intro hm
            obtain ⟨i, hi⟩ := List.getElem?_of_mem hm
            have hi2 := (List.getElem?_eq_some_iff.1 hi).1
            rw [List.length_take] at hi2
            rw [List.getElem?_take_of_lt (by omega)] at hi
            have h1 := pl_of hd hi
            have h2 := pl_of hd hk
            have := szF_lt (N := N) (show i < k by omega) hi
            omega
          have hK2 : namesF (K ++ [x]) = N.take (k + 1) := by rw [namesF_snoc, hK, addN, if_neg hnm, take_snoc hk]
          obtain ⟨j', a1, a2, a3, a4, a5⟩ := nmG_inv hd r (b + x.length + 1) (k + 1) (K ++ [x]) (by rw [take_snoc hk, szF_snoc, hb]) (by omega) hK2 h
          refine ⟨j', a1, a2, by simpa using a3, ?_, hlast _ a5⟩
          intro e' he'
          rcases List.mem_cons.1 he' with he' | he'
          · rw [he']; exact ⟨hmem, hpl⟩
          · exact a4 e' he'
        · simp only [if_neg hq] at h ⊢
          have hkj : k < j := by
            refine Classical.byContradiction fun hn => ?_
            have := szF_le (N := N) (show j ≤ k by omega)
            omega
          have hm : x ∈ N.take j := List.mem_of_getElem? (i := k) (by rw [List.getElem?_take_of_lt hkj]; exact hk)
          have hK2 : namesF (K ++ [x]) = N.take j := by rw [namesF_snoc, hK, addN, if_pos hm]
          obtain ⟨j', a1, a2, a3, a4, a5⟩ := nmG_inv hd r b j (K ++ [x]) hb hj hK2 h
          refine ⟨j', a1, a2, by simpa using a3, ?_, hlast _ a5⟩
          intro e' he'
          rcases List.mem_cons.1 he' with he' | he'
          · rw [he']; exact ⟨hmem, hpl⟩
          · exact a4 e' he'
/-- the names, all of them -/
theorem nmG_all {N : List (List UInt8)} (hd : N.Nodup) {R : List En} (h : (nmG N 1 R).2.2 = none) (hb : szF 1 N ≤ (nmG N 1 R).2.1) : namesF ((nmG N 1 R).1.map En.nm) = N ∧ (∀ e ∈ (nmG N 1 R).1, e.nm ∈ N ∧ (plF 1 N e.nm : Int) = e.na) ∧ ∀ e, (nmG N 1 R).1.getLast? = some e → e.nm = shN := by
  obtain ⟨j', a1, a2, a3, a4, a5⟩ := nmG_inv hd R 1 0 [] (by simp [szF]) (by omega) (by simp [namesF]) h
  rw [List.nil_append] at a3
  have hj : j' = N.length := by
    rcases Nat.lt_or_ge j' N.length with q | q
    · have := szF_lt (N := N) q (List.getElem?_eq_getElem q)
      rw [List.take_length] at this
      omega
    · omega
  rw [hj, List.take_length] at a3
  exact ⟨a3, a4, a5⟩
end Go.Proofs.Ytlfcjbeldnkkoaa
