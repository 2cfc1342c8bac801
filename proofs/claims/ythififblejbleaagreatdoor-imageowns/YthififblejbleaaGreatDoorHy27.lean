import Derived.Test.YthififblejbleaaGreatDoorHy11
namespace Go.Proofs.YthififblejbleaaGreatDoor
open Go.RowKit
set_option linter.unusedVariables false
set_option linter.unusedSimpArgs false
def slF (T : List Ins) : List Fn → Nat | [] => 0 | x :: r => slotsP (bodP T x) + slF T r
theorem slF_app (T : List Ins) (A B : List Fn) : slF T (A ++ B) = slF T A + slF T B := by
  induction A with
  | nil => simp [slF]
  | cons x r ih => simp [slF, ih]; omega
theorem fns_snoc (T : List Ins) (N : List (List UInt8)) (x : Fn) : ∀ (A : List Fn) (s : Nat), fnsB T N s (A ++ [x]) = fnsB T N s A ++ fnRow N (s + slF T A) (slotsP (bodP T x)) x
  | [], s => by simp [fnsB, slF]
  | y :: r, s => by
    simp only [List.cons_append, fnsB, slF]
    rw [fns_snoc T N x r, List.append_assoc, Nat.add_assoc]
def CutK (T : List Ins) (F : List Fn) : Prop := ∀ (k : Nat) (x : Fn), F[k]? = some x → ∃ b c : Nat, x.fi = b ∧ x.ct = c ∧ 1 ≤ c ∧ b + c ≤ T.length
theorem slF_le (T : List Ins) (F : List Fn) (hT : slotsP T ≤ 1048576) : ∀ k, k ≤ F.length → slF T (F.take k) ≤ 1048576 * k
  | 0, _ => by simp [slF]
  | k + 1, hk => by
    obtain ⟨x, hx⟩ : ∃ x, F[k]? = some x := ⟨_, List.getElem?_eq_getElem (by omega)⟩
    have ih := slF_le T F hT k (by omega)
    rw [take_snoc hx, slF_app]
    have : slotsP (bodP T x) ≤ slotsP T := by
      unfold bodP
      have h1 := slots_le (T.drop x.fi.toNat) x.ct.toNat
      have h2 : slotsP T = slotsP (T.take x.fi.toNat) + slotsP (T.drop x.fi.toNat) := by rw [← slots_app, List.take_append_drop]
      omega
    simp only [slF]; omega
theorem InsA.sub {w : World} {a : Option Addr} {T : List Ins} (h : InsA w a T) {i c : Nat} (hc : 1 ≤ c) (hi : i + c ≤ T.length) : ∃ b off, a = some ⟨b, off, none⟩ ∧ InsA w (some ⟨b, off + i * 5, none⟩) ((T.drop i).take c) := by
  rcases h with h | ⟨b, off, rfl, h⟩
  · simp [h] at hi; omega
  · refine ⟨b, off, rfl, .inr ⟨b, off + i * 5, rfl, fun k x hx => ?_⟩⟩
    have hx' : T[i + k]? = some x := by
      rw [List.getElem?_take] at hx
      split at hx
      · rwa [List.getElem?_drop] at hx
      · cases hx
    have := h (i + k) x hx'
    rw [show off + (i + k) * 5 = off + i * 5 + k * 5 by omega] at this
    exact this
theorem OwI.get {B n c : Nat} {a : Option Addr} {zs : List Int} {w : World} (h : w.ownsRow B 3 1 (.slice a n c) n (zs.map (Value.int .i64))) {k : Nat} {x : Int} (hx : zs[k]? = some x) : ∃ g, a = some ⟨g, 0, none⟩ ∧ n ≤ c ∧ w.cell? ⟨g, k, none⟩ = some (.int .i64 x) ∧ g < w.heap.size := by
  obtain ⟨g, cap, hv, hc, d⟩ := own_cell h (k := k) (u := .int .i64 x) (by simp [hx])
  simp only [Value.slice.injEq] at hv
  obtain ⟨rfl, -, rfl⟩ := hv
  exact ⟨g, rfl, hc, d, World.block_lt_of_cell? w _ d⟩
theorem numFW (w : World) (p g o q h n : Nat) (B : List UInt8) (zs : List Int) (ht : Tp w p g o B) (hq : ∀ i, i < n → w.cell? ⟨q, i, none⟩ = some (.pointer (some ⟨h, i, none⟩))) (hz : ∀ i x, zs[i]? = some x → w.cell? ⟨h, i, none⟩ = some (.int .i64 x)) (hn : zs.length = n) (n1 : ¬ h = p ∧ ¬ h = g) (n2 : ¬ q = p ∧ ¬ q = g) (hr : o + 4 * n ≤ B.length) (hB : B.length ≤ 1000000000000) :
    Calls Tryz.prog 54 #[.pointer (some ⟨p, 0, none⟩), .slice (some ⟨q, 0, none⟩) n n] w fun e w' => (∃ v, e = .returned v) ∧ Tp w' p g (o + 4 * n) (putB B o (zs.flatMap b4)) ∧ Chg (fun k => k = p ∨ k = g) w w' := by
  obtain ⟨X, hX⟩ : ∃ X : List (Nat × Nat × Int), X = zs.zipIdx.map (fun y => (h, y.2, y.1)) := ⟨_, rfl⟩
  have hl : X.length = n := by rw [hX]; simp [hn]
  have hget : ∀ i b o' x, X[i]? = some (b, o', x) → b = h ∧ o' = i ∧ zs[i]? = some x := fun i b o' x hx => by
    rw [hX, List.getElem?_map, List.getElem?_zipIdx] at hx
    cases hz : zs[i]? with
    | none => rw [hz] at hx; simp at hx
    | some y => rw [hz] at hx; simp at hx; obtain ⟨rfl, rfl, rfl⟩ := hx; exact ⟨rfl, rfl, rfl⟩
  have hb : b4s X = zs.flatMap b4 := by
    have : ∀ (zs : List Int) (k : Nat), b4s ((zs.zipIdx k).map (fun y => (h, y.2, y.1))) = zs.flatMap b4 := by
      intro zs
      induction zs with
      | nil => intro k; rfl
      | cons x r ih => intro k; simp only [List.zipIdx_cons, List.map_cons, List.flatMap_cons]; show b4 x ++ b4s _ = _; rw [ih]
    rw [hX]; exact this zs 0
  have := numbersW_any w p g o q B X ht (fun i b o' x hx => by
    obtain ⟨rfl, rfl, hz'⟩ := hget i b o' x hx
    have hi : o' < n := by have := (List.getElem?_eq_some_iff.1 hz').1; omega
    exact ⟨hq o' hi, hz o' x hz'⟩) (fun y hy => by
    obtain ⟨i, hi⟩ := List.mem_iff_getElem?.1 hy
    obtain ⟨b, o', x⟩ := y
    obtain ⟨rfl, -, -⟩ := hget i b o' x hi
    exact n1) n2.1 n2.2 (by rw [hl]; exact hr) hB
  rw [hl, hb] at this
  exact this
theorem tds_snoc (N : List (List UInt8)) (A : List Td) (x : Td) : tdsB N (A ++ [x]) = tdsB N A ++ tdRow N x := by simp [tdsB]
set_option maxRecDepth 8000 in
set_option maxHeartbeats 4000000 in
theorem layTables_any (wT w : World) (p g o : Nat) (B : List UInt8) (D : List Td) (N : List (List UInt8)) (da : Option Addr) (dc pg po pn pc : Nat) (h : Tp w p g o B) (hD : TdA wT da D) (ho : Out wT w) (hp : wT.heap.size ≤ p) (hg : wT.heap.size ≤ g)
    (hpl : ∀ (k : Nat) (x : Td), D[k]? = some x → w.cell? ⟨pg, po + k, none⟩ = some (.int .i64 (plF 1 N x.nm : Nat))) (npp : ¬ pg = p) (npg : ¬ pg = g) (hpn : D.length ≤ pn) (hpc : pn ≤ pc) (hr : o + 20 * D.length ≤ B.length) (hB : B.length ≤ 1000000000) (hDl : D.length ≤ 1024) (hpb : pn ≤ 100000) :
    Calls Tryz.prog 58 #[.pointer (some ⟨p, 0, none⟩), .slice da D.length dc, .slice (some ⟨pg, po, none⟩) pn pc] w fun e w' => (∃ v, e = .returned v) ∧ Tp w' p g (o + 20 * D.length) (putB B o (tdsB N D)) ∧ Chg (fun k => k = p ∨ k = g) w w' := by
  obtain ⟨n, hn⟩ : ∃ n, Hid (n = D.length) := ⟨_, rfl⟩
  rw [← hn.out] at hpn hr hDl ⊢
  have hpl0 := (Array.getElem?_eq_some_iff.1 h.t).1
  have hgl0 := (Array.getElem?_eq_some_iff.1 h.b).1
  have HPL := hidOf hpl
  clear hpl
  go_enter Tryz.func58, Tryz.ntmps58
  go_wp2
  go_loopw [11] (fun i wr => ∃ k : Nat, k ≤ n ∧ i = .int .i64 k ∧ Hid (Tp wr p g (o + 20 * k) (putB B o (tdsB N (D.take k)))) ∧ Hid (Chg (fun k => k = p ∨ k = g) w wr)) (fun i _ => n - (intOf i).toNat)
  case atStart => exact ⟨0, by omega, rfl, hidOf (by simpa [tdsB, putB_nil] using h), hidOf (Chg.refl _ _)⟩
  case round =>
    obtain ⟨k, hk, rfl, ht, hc⟩ := hrel
    by_cases hkl : k < n
    · have hlt : (k : Int) < n := by omega
      have hltp : (k : Int) < pn := by omega
      obtain ⟨x, hx⟩ : ∃ x, D[k]? = some x := ⟨_, List.getElem?_eq_getElem (by rw [← hn.out]; exact hkl)⟩
      have HO : Hid (Out wT wr) := hidOf (out_chg ho hc.out (fun k hk => by omega))
      obtain ⟨b, off, rfl, q0, q1, q2, q3, q4⟩ := (hD.out HO.out).get hx
      have q5 : wr.cell? ⟨pg, po + k, none⟩ = some (.int .i64 (plF 1 N x.nm : Nat)) := hc.out.cell (HPL.out k x hx) (by simp; omega)
      have HT2 : Hid (tdsB N (D.take (k + 1)) = tdsB N (D.take k) ++ tdRow N x) := hidOf (by rw [take_snoc hx, tds_snoc])
      obtain ⟨pl, hpl⟩ : ∃ pl : Nat, Hid (pl = plF 1 N x.nm) := ⟨_, rfl⟩
      rw [← hpl.out] at q5
      obtain ⟨nm, kd, ky, vl, en⟩ := x
      simp only at q0 q1 q2 q3 q4
      have hpgl : pg < wr.heap.size := World.block_lt_of_cell? wr _ q5
      have hpw : p < wr.heap.size := by have := hc.out.size; omega
      have hgw : g < wr.heap.size := by have := hc.out.size; omega
      obtain ⟨L, hL⟩ : ∃ L, Hid (L = putB B o (tdsB N (D.take k))) := ⟨_, rfl⟩
      have hlk : Hid ((tdsB N (D.take k)).length = 20 * k) := hidOf (by rw [tdsB_len, List.length_take, ← hn.out]; omega)
      have HLl : Hid (L.length = B.length) := hidOf (by rw [hL.out]; exact putB_len (by rw [hlk.out]; omega))
      rw [← hL.out] at ht
      clear hx hD
      go_upto_region 3 with fail
      obtain ⟨w3, hw3⟩ : ∃ w3, Hid (w3 = wr.alloc (.cells #[.string ⟨nm.toArray⟩, .int .i64 kd, .int .i64 ky, .int .i64 vl, .int .i64 en] 72)) := ⟨_, rfl⟩
      rw [← hw3.out]
      have hs3 : w3.heap.size = wr.heap.size + 1 := by rw [hw3.out, size_alloc]
      have O3 : Hid (Out wr w3) := hidOf (by rw [hw3.out]; exact Out.alloc (Out.refl _) _)
      have r0 : w3.cell? ⟨pg, po + k, none⟩ = some (.int .i64 pl) := cell_later O3.out q5
      have r1 : w3.cell? ⟨wr.heap.size, 1, none⟩ = some (.int .i64 kd) := by rw [hw3.out]; exact cell_fresh wr _ _ 1 _ rfl
      have r2 : w3.cell? ⟨wr.heap.size, 2, none⟩ = some (.int .i64 ky) := by rw [hw3.out]; exact cell_fresh wr _ _ 2 _ rfl
      have r3 : w3.cell? ⟨wr.heap.size, 3, none⟩ = some (.int .i64 vl) := by rw [hw3.out]; exact cell_fresh wr _ _ 3 _ rfl
      have r4 : w3.cell? ⟨wr.heap.size, 4, none⟩ = some (.int .i64 en) := by rw [hw3.out]; exact cell_fresh wr _ _ 4 _ rfl
      have hne1 : ¬ w3.heap.size = pg := by omega
      have hne2 : ¬ w3.heap.size = wr.heap.size := by omega
      go_region_held3 (fun wx => wx.cell? ⟨pg, po + k, none⟩ = some (.int .i64 pl) ∧ wx.cell? ⟨wr.heap.size, 1, none⟩ = some (.int .i64 kd) ∧ wx.cell? ⟨wr.heap.size, 2, none⟩ = some (.int .i64 ky) ∧ wx.cell? ⟨wr.heap.size, 3, none⟩ = some (.int .i64 vl) ∧ wx.cell? ⟨wr.heap.size, 4, none⟩ = some (.int .i64 en)) (go_keep) (fail)
      obtain ⟨w4, hw4⟩ : ∃ w4, Hid (w4 = (w3.alloc (.cells #[.int .i64 pl, .int .i64 kd, .int .i64 ky, .int .i64 vl, .int .i64 en] 148)).drew) := ⟨_, rfl⟩
      rw [← hw4.out]
      have hs4 : w4.heap.size = wr.heap.size + 2 := by rw [hw4.out, heap_drew', size_alloc, hs3]
      have O4 : Hid (Out wr w4) := hidOf (by rw [hw4.out]; exact Out.drew (Out.alloc O3.out _))
      have V4 : Hid (∀ (i : Nat) (z : Int), ([(pl : Int), kd, ky, vl, en] : List Int)[i]? = some z → w4.cell? ⟨wr.heap.size + 1, i, none⟩ = some (.int .i64 z)) := hidOf (fun i z hz => by
        have e : w4.cell? ⟨wr.heap.size + 1, i, none⟩ = (#[.int .i64 pl, .int .i64 kd, .int .i64 ky, .int .i64 vl, .int .i64 en] : Array Value)[i]? := by rw [hw4.out]; exact cell_fresh w3 _ _ i _ hs3.symm
        rw [e]
        rcases i with _ | _ | _ | _ | _ | i <;> simp at hz ⊢ <;> exact hz)
      have CF : Hid (∀ wx, Calls Tryz.prog 90 #[.pointer (some ⟨wr.heap.size + 1, 0, none⟩)] wx (FldE (wr.heap.size + 1) 5 wx)) := fun wx => tableFields_any _ wx
      have NU : Hid (∀ w5 q, Out w4 w5 → w4.heap.size ≤ q → (∀ i, i < 5 → w5.cell? ⟨q, i, none⟩ = some (.pointer (some ⟨wr.heap.size + 1, i, none⟩))) → Calls Tryz.prog 54 #[.pointer (some ⟨p, 0, none⟩), .slice (some ⟨q, 0, none⟩) 5 5] w5 fun e w' => (∃ v, e = .returned v) ∧ Tp w' p g (o + 20 * k + 4 * 5) (putB L (o + 20 * k) (([(pl : Int), kd, ky, vl, en] : List Int).flatMap b4)) ∧ Chg (fun k => k = p ∨ k = g) w5 w') := hidOf (fun w5 q o5 hq hf => numFW w5 p g _ q (wr.heap.size + 1) 5 L [(pl : Int), kd, ky, vl, en] (ht.out.out (O4.out.trans o5)) hf (fun i x hx => cell_later o5 (V4.out i x hx)) rfl (by omega) (by omega) (by rw [HLl.out]; omega) (by rw [HLl.out]; omega))
      have E4 : Hid (putB L (o + 20 * k) (([(pl : Int), kd, ky, vl, en] : List Int).flatMap b4) = putB B o (tdsB N (D.take (k + 1))) ∧ o + 20 * k + 4 * 5 = o + 20 * (k + 1)) := hidOf (by
        refine ⟨?_, by omega⟩
        have hr2 := hr
        have e : o + 20 * k = o + (tdsB N (D.take k)).length := by rw [hlk.out]
        have e5 : (([(pl : Int), kd, ky, vl, en] : List Int).flatMap b4) = tdRow N ⟨nm, kd, ky, vl, en⟩ := by simp only [List.flatMap_cons, List.flatMap_nil, List.append_nil, tdRow, hpl.out]
        rw [hL.out, e, e5, putB_put (by rw [hlk.out, tdRow_len]; omega), HT2.out])
      go_wp2_with (first | (go_at_call 90; refine (CF.out _).mono ?_; rintro e w5 ⟨q, rfl, hq5, hq6, hcq, o5⟩) | (go_at_call 54; refine (NU.out _ _ o5 hq5 hcq).mono ?_; rintro e w6 ⟨⟨rv, rfl⟩, t6, c6⟩))
      go_roundw
      case rel => exact ⟨k + 1, by omega, by simp, hidOf (by rw [← E4.out.1, ← E4.out.2]; exact t6), hidOf ((hc.out.trans (T := fun _ => False) (Chg.of_out (O4.out.trans o5)) (fun _ h _ => h.elim)).trans c6 (fun x h _ => h))⟩
      case measure => simp [intOf]; omega
    · have hlt : ¬ (k : Int) < n := by omega
      have hkn : Hid (k = n) := hidOf (by omega)
      go_wp2
      go_end0
      have hA : D.take k = D := List.take_of_length_le (by rw [← hn.out]; have := hkn.out; omega)
      exact ⟨⟨_, rfl⟩, by have := ht.out; rw [hA, hkn.out] at this; exact this, hc.out⟩
set_option maxRecDepth 8000 in
set_option maxHeartbeats 4000000 in
theorem layFuncs_any (wT w : World) (p g o : Nat) (B : List UInt8) (m : Img) (N : List (List UInt8)) (ta fa da : Option Addr) (tc fc dc pg pn pc : Nat) (h : Tp w p g o B) (hT : InsA wT ta m.T) (hF : FnA wT fa m.F) (ho : Out wT w) (hp : wT.heap.size ≤ p) (hg : wT.heap.size ≤ g) (hcut : CutK m.T m.F) (htc : m.T.length ≤ tc)
    (hpl : ∀ (k : Nat) (x : Fn), m.F[k]? = some x → w.cell? ⟨pg, k, none⟩ = some (.int .i64 (plF 1 N x.nm : Nat))) (npp : ¬ pg = p) (npg : ¬ pg = g) (hpn : m.F.length ≤ pn) (hpc : pn ≤ pc) (hr : o + 16 * m.F.length ≤ B.length) (hB : B.length ≤ 1000000000) (hFl : m.F.length ≤ 4096) (hpb : pn ≤ 100000) (hTl : slotsP m.T ≤ 1048576) :
    Calls Tryz.prog 57 #[.pointer (some ⟨p, 0, none⟩), .agg #[.slice ta m.T.length tc, .slice fa m.F.length fc, .slice da m.D.length dc, .int .i64 m.en], .slice (some ⟨pg, 0, none⟩) pn pc] w fun e w' => (∃ v, e = .returned v) ∧ Tp w' p g (o + 16 * m.F.length) (putB B o (fnsB m.T N 0 m.F)) ∧ Chg (fun k => k = p ∨ k = g) w w' := by
  have HSL := hidOf (slF_le m.T m.F hTl)
  have HCU := hidOf hcut
  have htl2 : m.T.length ≤ 1048576 := by have : m.T.length ≤ slotsP m.T := by unfold slotsP; omega
                                         omega
  generalize m.D.length = dn at *
  generalize m.en = en at *
  generalize m.F = F at *
  generalize m.T = T at *
  obtain ⟨n, hn⟩ : ∃ n, Hid (n = F.length) := ⟨_, rfl⟩
  obtain ⟨tn, htn⟩ : ∃ n, Hid (n = T.length) := ⟨_, rfl⟩
  rw [← hn.out] at hpn hr hFl ⊢
  rw [← htn.out] at htc htl2 ⊢
  have hpl0 := (Array.getElem?_eq_some_iff.1 h.t).1
  have hgl0 := (Array.getElem?_eq_some_iff.1 h.b).1
  have HPL := hidOf hpl
  clear hpl hcut hTl
  obtain ⟨w1, hw1⟩ : ∃ w1, Hid (w1 = w.alloc (Obj.cells #[Value.slice ta tn tc, Value.slice fa n fc, Value.slice da dn dc, Value.int IntKind.i64 en] 26)) := ⟨_, rfl⟩
  have T1 : Hid (Tp w1 p g o B) := hidOf (by rw [hw1.out]; exact h.out (Out.alloc (Out.refl _) _))
  have O1 : Hid (Out wT w1) := hidOf (by rw [hw1.out]; exact Out.alloc ho _)
  have O01 : Hid (Out w w1) := hidOf (by rw [hw1.out]; exact Out.alloc (Out.refl _) _)
  have hs1 : w1.heap.size = w.heap.size + 1 := by rw [hw1.out, size_alloc]
  have X0 : Hid (w1.cell? ⟨w.heap.size, 0, none⟩ = some (.slice ta tn tc)) := hidOf (by rw [hw1.out]; exact cell_fresh w _ _ 0 _ rfl)
  have x1 : w1.cell? ⟨w.heap.size, 1, none⟩ = some (.slice fa n fc) := by rw [hw1.out]; exact cell_fresh w _ _ 1 _ rfl
  go_enter Tryz.func57, Tryz.ntmps57
  go_upto_region 1 with fail
  rw [← hw1.out]
  go_wp2
  go_loopw [6, 14] (fun s i wr => ∃ k sl : Nat, k ≤ n ∧ s = .int .i64 sl ∧ i = .int .i64 k ∧ sl ≤ 4294967296 ∧ Hid (sl = slF T (F.take k)) ∧ Hid (Tp wr p g (o + 16 * k) (putB B o (fnsB T N 0 (F.take k)))) ∧ Hid (Chg (fun k => k = p ∨ k = g) w1 wr)) (fun _ i _ => n - (intOf i).toNat)
  case atStart => exact ⟨0, 0, by omega, rfl, rfl, by omega, hidOf (by simp [slF]), hidOf (by simpa [fnsB, putB_nil] using T1.out), hidOf (Chg.refl _ _)⟩
  case round =>
    obtain ⟨k, sl, hk, rfl, rfl, hsl, hsls, ht, hc⟩ := hrel
    by_cases hkl : k < n
    · have hlt : (k : Int) < n := by omega
      have hltp : (k : Int) < pn := by omega
      obtain ⟨x, hx⟩ : ∃ x, F[k]? = some x := ⟨_, List.getElem?_eq_getElem (by rw [← hn.out]; exact hkl)⟩
      have HO : Hid (Out wT wr) := hidOf (out_chg O1.out hc.out (fun k hk => by omega))
      obtain ⟨b, off, rfl, q0, q1, q2, q3⟩ := (hF.out HO.out).get hx
      have q5 : wr.cell? ⟨pg, k, none⟩ = some (.int .i64 (plF 1 N x.nm : Nat)) := hc.out.cell (cell_later O01.out (HPL.out k x hx)) (by simp; omega)
      have y0 : wr.cell? ⟨w.heap.size, 0, none⟩ = some (.slice ta tn tc) := hc.out.cell X0.out (by simp; omega)
      obtain ⟨fi, ct, hfi, hct, hc1, hc2⟩ := HCU.out k x hx
      rw [← htn.out] at hc2
      have HT2 : Hid (fnsB T N 0 (F.take (k + 1)) = fnsB T N 0 (F.take k) ++ fnRow N sl (slotsP (bodP T x)) x ∧ slF T (F.take (k + 1)) = sl + slotsP (bodP T x)) := hidOf (by
        rw [take_snoc hx, fns_snoc, slF_app, hsls.out]
        exact ⟨by simp, by simp [slF]⟩)
      have hslb := HSL.out (k + 1) (by rw [← hn.out]; omega)
      have hbod : bodP T x = (T.drop fi).take ct := by unfold bodP; rw [hfi, hct]; simp
      obtain ⟨tb, toff, rfl, hTs⟩ := (hT.out HO.out).sub (i := fi) (c := ct) hc1 (by rw [← htn.out]; exact hc2)
      rw [← hbod] at hTs
      have hbl : (bodP T x).length = ct := by rw [hbod, List.length_take, List.length_drop, ← htn.out]; omega
      obtain ⟨pl, hpl⟩ : ∃ pl : Nat, Hid (pl = plF 1 N x.nm) := ⟨_, rfl⟩
      obtain ⟨sc, hsc⟩ : ∃ sc : Nat, Hid (sc = slotsP (bodP T x)) := ⟨_, rfl⟩
      rw [← hsc.out] at HT2
      rw [HT2.out.2] at hslb
      rw [← hpl.out] at q5
      obtain ⟨nm, ob, fi', ct'⟩ := x
      simp only at q0 q1 q2 q3 hfi hct
      subst hfi hct
      have CS : Hid (∀ wx, Out wr wx → Calls Tryz.prog 52 #[.slice (some ⟨tb, toff + fi * 5, none⟩) ct (tc - fi)] wx fun e w' => e = .returned (.int .i64 sc) ∧ Out wx w') := hidOf (fun wx ox => by
        have := slotsI_any wx (some ⟨tb, toff + fi * 5, none⟩) ct (tc - fi) _ hbl (hTs.out ox) (by omega)
        rw [← hsc.out] at this; exact this)
      have hpgl : pg < wr.heap.size := World.block_lt_of_cell? wr _ q5
      have hpw : p < wr.heap.size := by have := hc.out.size; omega
      have hgw : g < wr.heap.size := by have := hc.out.size; omega
      have hww : w.heap.size < wr.heap.size := by have := hc.out.size; omega
      obtain ⟨L, hL⟩ : ∃ L, Hid (L = putB B o (fnsB T N 0 (F.take k))) := ⟨_, rfl⟩
      have hlk : Hid ((fnsB T N 0 (F.take k)).length = 16 * k) := hidOf (by rw [fnsB_len, List.length_take, ← hn.out]; omega)
      have HLl : Hid (L.length = B.length) := hidOf (by rw [hL.out]; exact putB_len (by rw [hlk.out]; omega))
      rw [← hL.out] at ht
      clear hx hF hT hTs hbod hbl
      have s1 : (fi : Int) + ct ≤ tc := by omega
      have s2 : fi + ct ≤ tc := by omega
      have s3 : (fi : Int) ≤ fi + ct := by omega
      have s4 : ((fi : Int) + (ct : Int)).toNat = fi + ct := by omega
      have s5 : fi + ct - fi = ct := by omega
      go_upto_region 6 with (go_at_call 52; refine (CS.out _ (Out.alloc (Out.refl _) _)).mono ?_; rintro e w4 ⟨rfl, o4⟩)
      have OW4 : Hid (Out wr w4) := hidOf (Out.trans (Out.alloc (Out.refl _) _) o4)
      have r0 : w4.cell? ⟨pg, k, none⟩ = some (.int .i64 pl) := cell_later OW4.out q5
      have r1 : w4.cell? ⟨wr.heap.size, 1, none⟩ = some (.int .i64 ob) := cell_later o4 (cell_fresh wr _ _ 1 _ rfl)
      have hs4 : wr.heap.size + 1 ≤ w4.heap.size := by have := o4.size; rw [size_alloc] at this; exact this
      have hne1 : ¬ w4.heap.size = pg := by omega
      have hne2 : ¬ w4.heap.size = wr.heap.size := by omega
      clear o4 q0 q1 q2 q3 q5 y0 CS
      go_region_held3 (fun wx => wx.cell? ⟨pg, k, none⟩ = some (.int .i64 pl) ∧ wx.cell? ⟨wr.heap.size, 1, none⟩ = some (.int .i64 ob)) (go_keep) (fail)
      obtain ⟨w5, hw5⟩ : ∃ w5, Hid (w5 = (w4.alloc (.cells #[.int .i64 pl, .int .i64 ob, .int .i64 sl, .int .i64 sc] 146)).drew) := ⟨_, rfl⟩
      rw [← hw5.out]
      have O5 : Hid (Out wr w5) := hidOf (by rw [hw5.out]; exact Out.drew (Out.alloc OW4.out _))
      have hs5 : w4.heap.size + 1 ≤ w5.heap.size := by rw [hw5.out, heap_drew', size_alloc]; exact Nat.le_refl _
      have V5 : Hid (∀ (i : Nat) (z : Int), ([(pl : Int), ob, (sl : Int), (sc : Int)] : List Int)[i]? = some z → w5.cell? ⟨w4.heap.size, i, none⟩ = some (.int .i64 z)) := hidOf (fun i z hz => by
        have e : w5.cell? ⟨w4.heap.size, i, none⟩ = (#[.int .i64 pl, .int .i64 ob, .int .i64 sl, .int .i64 sc] : Array Value)[i]? := by rw [hw5.out]; exact cell_fresh w4 _ _ i _ rfl
        rw [e]
        rcases i with _ | _ | _ | _ | i <;> simp at hz ⊢ <;> exact hz)
      have CF : Hid (∀ wx, Calls Tryz.prog 89 #[.pointer (some ⟨w4.heap.size, 0, none⟩)] wx (FldE w4.heap.size 4 wx)) := fun wx => funcFields_any _ wx
      have NU : Hid (∀ w6 q, Out w5 w6 → w5.heap.size ≤ q → (∀ i, i < 4 → w6.cell? ⟨q, i, none⟩ = some (.pointer (some ⟨w4.heap.size, i, none⟩))) → Calls Tryz.prog 54 #[.pointer (some ⟨p, 0, none⟩), .slice (some ⟨q, 0, none⟩) 4 4] w6 fun e w' => (∃ v, e = .returned v) ∧ Tp w' p g (o + 16 * k + 4 * 4) (putB L (o + 16 * k) (([(pl : Int), ob, (sl : Int), (sc : Int)] : List Int).flatMap b4)) ∧ Chg (fun k => k = p ∨ k = g) w6 w') := hidOf (fun w6 q o6 hq hf => numFW w6 p g _ q w4.heap.size 4 L [(pl : Int), ob, (sl : Int), (sc : Int)] (ht.out.out (O5.out.trans o6)) hf (fun i x hx => cell_later o6 (V5.out i x hx)) rfl (by omega) (by omega) (by rw [HLl.out]; omega) (by rw [HLl.out]; omega))
      have E5 : Hid (putB L (o + 16 * k) (([(pl : Int), ob, (sl : Int), (sc : Int)] : List Int).flatMap b4) = putB B o (fnsB T N 0 (F.take (k + 1))) ∧ o + 16 * k + 4 * 4 = o + 16 * (k + 1)) := hidOf (by
        refine ⟨?_, by omega⟩
        have hr2 := hr
        have e : o + 16 * k = o + (fnsB T N 0 (F.take k)).length := by rw [hlk.out]
        have e5 : (([(pl : Int), ob, (sl : Int), (sc : Int)] : List Int).flatMap b4) = fnRow N sl sc ⟨nm, ob, fi, ct⟩ := by simp only [List.flatMap_cons, List.flatMap_nil, List.append_nil, fnRow, hpl.out]
        rw [hL.out, e, e5, putB_put (by rw [hlk.out, fnRow_len]; omega), HT2.out.1])
      have hsn : Hid (sl + sc = slF T (F.take (k + 1))) := hidOf HT2.out.2.symm
      have hsb : sl + sc ≤ 4294967296 := by omega
      have hsbi : (sl : Int) + sc ≤ 4294967296 := by omega
      go_wp2_with (first | (go_at_call 89; refine (CF.out _).mono ?_; rintro e w6 ⟨q, rfl, hq5, hq6, hcq, o6⟩) | (go_at_call 54; refine (NU.out _ _ o6 hq5 hcq).mono ?_; rintro e w7 ⟨⟨rv, rfl⟩, t7, c7⟩))
      go_roundw
      case rel => exact ⟨k + 1, sl + sc, by omega, by simp, by simp, hsb, hsn, hidOf (by rw [← E5.out.1, ← E5.out.2]; exact t7), hidOf ((hc.out.trans (T := fun _ => False) (Chg.of_out (O5.out.trans o6)) (fun _ h _ => h.elim)).trans c7 (fun x h _ => h))⟩
      case measure => simp [intOf]; omega
    · have hlt : ¬ (k : Int) < n := by omega
      have hkn : Hid (k = n) := hidOf (by omega)
      go_wp2
      go_end0
      have hA : F.take k = F := List.take_of_length_le (by rw [← hn.out]; have := hkn.out; omega)
      exact ⟨⟨_, rfl⟩, by have := ht.out; rw [hA, hkn.out] at this; exact this, Chg.trans (T := fun k => k = p ∨ k = g) (Chg.of_out O01.out) hc.out (fun x h _ => h)⟩
end Go.Proofs.YthififblejbleaaGreatDoor
