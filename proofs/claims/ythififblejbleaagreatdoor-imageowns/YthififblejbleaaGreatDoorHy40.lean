import Derived.Test.YthififblejbleaaGreatDoorHy38
namespace Go.Proofs.YthififblejbleaaGreatDoor
open Go.RowKit
set_option linter.unusedVariables false
set_option linter.unusedSimpArgs false
def Fn.cs (x : Fn) : List Value := [.string ⟨x.nm.toArray⟩, .int .i64 x.ob, .int .i64 x.fi, .int .i64 x.ct]
def fnV (l : List Fn) : List Value := l.flatMap Fn.cs
theorem fnV_snoc (l : List Fn) (x : Fn) : fnV (l ++ [x]) = fnV l ++ x.cs := by simp [fnV, List.flatMap_append]
theorem fn_one (x : Fn) : ∀ u ∈ x.cs, u.oneCell' = true := by
  intro u hu
  simp [Fn.cs] at hu
  rcases hu with rfl | rfl | rfl | rfl <;> rfl
theorem infoIF : (Tryz.prog.info? 69).map (fun i => (i.zero, i.size, i.bytes)) = some (some (.agg #[.string ⟨#[]⟩, .int .i64 0, .int .i64 0, .int .i64 0]), 4, 40) := by kernel_rfl
def OwF (w : World) (B : Nat) (v : Value) (D : List Fn) : Prop := w.ownsRow B 69 4 v D.length (fnV D)
theorem run_make_fn (n : Nat) (hn : n ≤ 1000000000000) (w : World) : ∃ cur : Array Value, cur.size = n * 4 ∧ (Instr.makeSlice 23 (.int .i64 0) (.int .i64 (n : Int))).run Tryz.prog w = .ok (.slice (some ⟨w.heap.size, 0, none⟩) 0 n) (w.alloc (.cells cur 69)) := by
  obtain ⟨i0, hi, hz0, hz1, hz2⟩ := info_parts infoIF
  have h := run_make (P := Tryz.prog) w 23 69 i0 _ Tryz.underlying23 hi hz0 .i64 .i64 0 (n : Int) (by omega) (by omega) (by rw [hz2]; omega) (by omega)
  rw [hz1] at h
  refine ⟨_, ?_, h⟩
  simp [madeCells]
theorem InsA.chg {w w' : World} {ga go : Nat} {T : List Ins} {S : Nat → Prop} (h : InsA w (some ⟨ga, go, none⟩) T) (k : Chg S w w') (hs : ¬ S ga) : InsA w' (some ⟨ga, go, none⟩) T := by
  rcases h with h | ⟨b, off, e, h⟩
  · exact .inl h
  · cases e
    exact .inr ⟨ga, go, rfl, fun j x hx => by
      obtain ⟨h0, h1, h2, h3, h4⟩ := h j x hx
      exact ⟨k.cell h0 hs, k.cell h1 hs, k.cell h2 hs, k.cell h3 hs, k.cell h4 hs⟩⟩
theorem InsA.tail {w : World} {ga go : Nat} {T : List Ins} (h : InsA w (some ⟨ga, go, none⟩) T) (i : Nat) : InsA w (some ⟨ga, go + i * 5, none⟩) (T.drop i) := by
  rcases h with h | ⟨b, off, e, h⟩
  · exact .inl (by simp [h])
  · cases e
    exact .inr ⟨ga, go + i * 5, rfl, fun k x hx => by
      rw [List.getElem?_drop] at hx
      have := h (i + k) x hx
      rw [show go + (i + k) * 5 = go + i * 5 + k * 5 by omega] at this
      exact this⟩
theorem cnt_le : ∀ (T : List Ins) (s : Nat), (cntO T s).1 ≤ T.length ∧ (cntO T s).2 ≤ 2 * (cntO T s).1
  | [], s => by simp [cntO]
  | x :: r, s => by
    rcases Nat.eq_zero_or_pos s with h | h
    · rw [h, cnt_zero]; simp
    · rw [cnt_cons x r s h]
      have := cnt_le r (s - slW x)
      have := slW_le x
      simp only [List.length_cons]; omega
def fnE (l : List UInt8) (p g go n c : Nat) (w : World) (r : Rs) (N : List (List UInt8)) (T : List Ins) (e : Ending) (w' : World) : Prop :=
  (match fnR l N T r.f r.o 0 0 r.nx with
   | .ok (D, ny) => e = .returned (.tuple #[.int .i64 0, .bool false]) ∧ ∃ a cp, RdA w' p g go n c l { r with o := r.o + 16 * r.f, nx := ny, fv := .slice a D.length cp } ∧ OwF w' w.heap.size (.slice a D.length cp) D ∧ ny ≤ szF 1 N
   | .error q => e = .returned (.tuple #[.int .i64 (q : Nat), .bool true])) ∧ Chg (fun k => k = p) w w'
set_option maxRecDepth 8000 in
set_option maxHeartbeats 2000000 in
theorem takeFuncs_any (w : World) (p g go n c : Nat) (l : List UInt8) (r : Rs) (h : RdA w p g go n c l r) (tb : Nat) (htb : r.nm = .pointer (some ⟨tb, 0, none⟩)) (N : List (List UInt8)) (F : Nat → Prop) (hT : Tab tb w N F) (hF : ∀ k, F k → ¬ k = p) (hsz : szF 1 N ≤ 1000000000000) (hnx : r.nx ≤ szF 1 N) (T : List Ins) (ga tcp : Nat) (htv : r.tv = .slice (some ⟨ga, 0, none⟩) T.length tcp) (hIA : InsA w (some ⟨ga, 0, none⟩) T) (hgp : ¬ ga = p) (htc : T.length ≤ tcp) (hTl : T.length ≤ 1000000000000) (hr : r.o + 16 * r.f ≤ n) (hn : n ≤ 1000000000000) : Calls Tryz.prog 94 #[.pointer (some ⟨p, 0, none⟩)] w (fnE l p g go n c w r N T) := by
  have hpl := h.pl
  have hgl := h.gl
  have H := hidOf h
  have HT := hidOf hT
  obtain ⟨o, s, f, d, nn, eh, nm, nx, tv, fv, dv, en⟩ := r
  simp only at hr htb hnx htv
  subst htb
  subst htv
  have HIA := hidOf hIA
  obtain ⟨tn, htn⟩ : ∃ tn, Hid (tn = T.length) := ⟨_, rfl⟩
  rw [← htn.out] at htc hTl
  rw [← htn.out] at H h
  have c5 : w.cell? ⟨p, 4, none⟩ = some (.int .i64 (f : Nat)) := h.cell 4 _ rfl
  obtain ⟨cur, hcs, mk⟩ := run_make_fn f (by omega) w
  obtain ⟨w1, hw1⟩ : ∃ w1, Hid (w1 = (w.setCell ⟨p, 11, none⟩ (.slice (some ⟨w.heap.size, 0, none⟩) 0 f)).alloc (.cells cur 69)) := ⟨_, rfl⟩
  have f12 : w.frozen? ⟨p, 11, none⟩ = false := h.frozen 11
  have g12 : w.cell? ⟨p, 11, none⟩ = some fv := h.cell 11 _ rfl
  have R1 : Hid (RdA w1 p g go n c l ⟨o, s, f, d, nn, eh, .pointer (some ⟨tb, 0, none⟩), nx, .slice (some ⟨ga, 0, none⟩) tn tcp, .slice (some ⟨w.heap.size, 0, none⟩) 0 f, dv, en⟩) := hidOf (by rw [hw1.out]; exact (h.set (r' := ⟨o, s, f, d, nn, eh, .pointer (some ⟨tb, 0, none⟩), nx, .slice (some ⟨ga, 0, none⟩) tn tcp, .slice (some ⟨w.heap.size, 0, none⟩) 0 f, dv, en⟩) 11 (.slice (some ⟨w.heap.size, 0, none⟩) 0 f) rfl).out (Out.alloc (Out.refl _) _))
  have C1 : Hid (Chg (fun k => k = p) w w1) := hidOf (by rw [hw1.out]; exact (Chg.setP (Chg.refl _ _) _ _).trans (T := fun _ => False) (Chg.of_out (Out.alloc (Out.refl _) _)) (fun _ h _ => h.elim))
  have W1 : Hid (OwF w1 w.heap.size (.slice (some ⟨w.heap.size, 0, none⟩) 0 f) []) := hidOf (by
    rw [hw1.out]
    have hsz : (w.setCell ⟨p, 11, none⟩ (.slice (some ⟨w.heap.size, 0, none⟩) 0 f)).heap.size = w.heap.size := by simp [World.setCell]
    have := World.ownsRow_made (base := w.heap.size) (e := 69) (size := 4) (w.setCell ⟨p, 11, none⟩ (.slice (some ⟨w.heap.size, 0, none⟩) 0 f)) cur f (by rw [hsz]; exact Nat.le_refl _) (by unfold maxLen; omega) hcs
    rw [hsz] at this
    exact this)
  clear h hT hIA
  go_enter Tryz.func94, Tryz.ntmps94
  go_upto_region 2 with fail
  rw [← hw1.out]
  clear mk g12 f12 c5 hw1
  have c5 : w1.cell? ⟨p, 4, none⟩ = some (.int .i64 (f : Nat)) := R1.out.cell 4 _ rfl
  go_wp2
  clear c5
  go_loopw [4, 5, 27] (fun vf vs v wr => ∃ (i ny fi sl : Nat) (D : List Fn) (a : Option Addr) (cp : Nat), vf = .int .i64 (fi : Nat) ∧ vs = .int .i64 (sl : Nat) ∧ v = .int .i64 (i : Nat) ∧ i ≤ f ∧ fi ≤ tn ∧ sl ≤ 2 * fi ∧ Hid (D.length = i) ∧ ny ≤ szF 1 N ∧ Hid (fnR l N T f o 0 0 nx = (fnR l N T (f - i) (o + 16 * i) fi sl ny).map (fun r => (D ++ r.1, r.2))) ∧ Hid (RdA wr p g go n c l ⟨o + 16 * i, s, f, d, nn, eh, .pointer (some ⟨tb, 0, none⟩), ny, .slice (some ⟨ga, 0, none⟩) tn tcp, .slice a i cp, dv, en⟩) ∧ Hid (OwF wr w.heap.size (.slice a i cp) D) ∧ Hid (Chg (fun k => k = p) w wr)) (fun _ _ v _ => f - (intOf v).toNat)
  case atStart => exact ⟨0, nx, 0, 0, [], some ⟨w.heap.size, 0, none⟩, f, rfl, rfl, rfl, by omega, by omega, by omega, hidOf rfl, hnx, hidOf (by simp only [Nat.sub_zero, Nat.mul_zero, Nat.add_zero, List.nil_append]; cases fnR l N T f o 0 0 nx <;> rfl), hidOf R1.out, hidOf W1.out, hidOf C1.out⟩
  case round =>
    obtain ⟨i, ny, fi, sl, D, a, cp, rfl, rfl, rfl, hi, hfi, hsl, HL, hny, HX, HR, HO, HC⟩ := hrel
    by_cases hid : i < f
    · have hlt : (i : Int) < f := by omega
      obtain ⟨oo, hoo⟩ : ∃ oo, Hid (oo = o + 16 * i) := ⟨_, rfl⟩
      rw [← hoo.out] at HR HX
      have hob : oo + 16 ≤ n := by rw [hoo.out]; omega
      have c1 : wr.cell? ⟨p, 1, none⟩ = some (.int .i64 (oo : Nat)) := HR.out.cell 1 _ rfl
      obtain ⟨w5, hw5⟩ : ∃ w5, Hid (w5 = wr.alloc (.cells #[.int .i64 0, .int .i64 0, .int .i64 0, .int .i64 0] 146)) := ⟨_, rfl⟩
      have O5 : Hid (Out wr w5) := hidOf (by rw [hw5.out]; exact Out.alloc (Out.refl _) _)
      have hs5 : w5.heap.size = wr.heap.size + 1 := by rw [hw5.out, size_alloc]
      have B5 : Hid (w5.heap[wr.heap.size]? = some (.cells #[.int .i64 0, .int .i64 0, .int .i64 0, .int .i64 0] 146 (0, 0))) := hidOf (by rw [hw5.out]; exact heap_alloc_new wr _)
      have NU : Hid (∀ w8 q, Out w5 w8 → w5.heap.size ≤ q → (∀ i, i < 4 → w8.cell? ⟨q, i, none⟩ = some (.pointer (some ⟨wr.heap.size, i, none⟩))) → Calls Tryz.prog 54 #[.pointer (some ⟨p, 0, none⟩), .slice (some ⟨q, 0, none⟩) 4 4] w8 fun e w' => (∃ v, e = .returned v) ∧ Mv p (oo + 16) wr w' ∧ ∀ i, i < 4 → w'.cell? ⟨wr.heap.size, i, none⟩ = some (.int .i64 (g4 l (oo + 4 * i) : Nat))) := hidOf (fun w8 q o8 hq hcq =>
        numFR wr w8 p g go n c oo wr.heap.size 4 q l _ _ HR.out.tk (O5.out.trans o8) (Nat.le_refl _) ((o8.block _ (by omega)).trans B5.out) rfl (by omega) (by omega) hcq (by omega) hob hn)
      obtain ⟨v0, hv0⟩ : ∃ v0, Hid (v0 = g4 l oo) := ⟨_, rfl⟩
      obtain ⟨v1, hv1⟩ : ∃ v1, Hid (v1 = g4 l (oo + 4)) := ⟨_, rfl⟩
      obtain ⟨v2, hv2⟩ : ∃ v2, Hid (v2 = g4 l (oo + 8)) := ⟨_, rfl⟩
      obtain ⟨v3, hv3⟩ : ∃ v3, Hid (v3 = g4 l (oo + 12)) := ⟨_, rfl⟩
      have hv3l : v3 < 4294967296 := by rw [hv3.out]; exact g4_lt17 l _
      obtain ⟨k1, k2, hcn⟩ : ∃ k1 k2, Hid (cntO (T.drop fi) v3 = (k1, k2)) := ⟨_, _, hidOf rfl⟩
      have hk1 : k1 ≤ tn - fi ∧ k2 ≤ 2 * k1 := by have := cnt_le (T.drop fi) v3; rw [hcn.out, List.length_drop, ← htn.out] at this; exact this
      have hstep : Hid (fnR l N T (f - i) oo fi sl ny = match nmT N ny v0 with | none => .error oo | some (x, nx') => if v2 ≠ sl then .error (oo + 8) else if k2 ≠ v3 ∨ v3 = 0 then .error (oo + 12) else (fnR l N T (f - (i + 1)) (o + 16 * (i + 1)) (fi + k1) (sl + v3) nx').map (fun r => (⟨x, v1, fi, k1⟩ :: r.1, r.2))) := hidOf (by
        have hcn' := hcn.out
        rw [hv3.out] at hcn'
        rw [show f - i = (f - (i + 1)) + 1 by omega, fnR, hv0.out, hv1.out, hv2.out, hv3.out, hcn', show o + 16 * (i + 1) = oo + 16 by rw [hoo.out]; omega]
        cases nmT N ny (g4 l oo) <;> rfl)
      have HT2 : Hid (∀ wx, Chg (fun k => k = p) w wx → Tab tb wx N F) := hidOf (fun wx hc => HT.out.chg hc hF)
      have CN : Hid (∀ w9, Mv p (oo + 16) wr w9 → Calls Tryz.prog 110 #[.pointer (some ⟨p, 0, none⟩), .int .i64 (v0 : Nat)] w9 (tnE l p g go n c w9 ⟨oo + 16, s, f, d, nn, eh, .pointer (some ⟨tb, 0, none⟩), ny, .slice (some ⟨ga, 0, none⟩) tn tcp, .slice a i cp, dv, en⟩ N v0)) := hidOf (fun w9 m9 =>
        takeName_any w9 p g go n c l _ (HR.out.mv m9) tb rfl N F (HT2.out w9 (HC.out.trans m9.chg (fun x h _ => h))) hsz hny v0)
      go_upto_region 7 with fail
      rw [← hw5.out]
      go_region_held3 (fun _ => True) (trivial) (first | (go_at_call 54; refine (NU.out _ _ o8 hq5 hcq).mono ?_; rintro e w9 ⟨⟨rv, rfl⟩, m9, b9⟩) | (go_at_call 89; refine (funcFields_any _ _).mono ?_; rintro e w8 ⟨q, rfl, hq5, hq6, hcq, o8'⟩; have o8 : Out w5 w8 := (Out.drew (Out.refl _)).trans o8'))
      have M9 := hidOf m9
      have b0 : w9.cell? ⟨wr.heap.size, 0, none⟩ = some (.int .i64 (v0 : Nat)) := by rw [hv0.out]; exact b9 0 (by omega)
      have b1 : w9.cell? ⟨wr.heap.size, 1, none⟩ = some (.int .i64 (v1 : Nat)) := by rw [hv1.out]; exact b9 1 (by omega)
      have b2 : w9.cell? ⟨wr.heap.size, 2, none⟩ = some (.int .i64 (v2 : Nat)) := by rw [hv2.out]; exact b9 2 (by omega)
      have b3 : w9.cell? ⟨wr.heap.size, 3, none⟩ = some (.int .i64 (v3 : Nat)) := by rw [hv3.out]; exact b9 3 (by omega)
      clear m9 b9 NU o8 o8' hq5 hq6 hcq c1
      have C9 := hidOf (CN.out w9 M9.out)
      have hsr : w.heap.size ≤ wr.heap.size := HC.out.size
      cases hnm : nmT N ny v0 with
      | none =>
        have C9' : Hid (Calls Tryz.prog 110 #[.pointer (some ⟨p, 0, none⟩), .int .i64 (v0 : Nat)] w9 fun e w' => e = .returned (.tuple #[.string ⟨#[]⟩, .bool false]) ∧ Chg (fun k => k = p) w9 w') := hidOf (C9.out.mono (fun e w' h => by unfold tnE at h; dsimp only at h; rw [hnm] at h; exact h))
        go_wp2_with (go_at_call 110; refine C9'.out.mono ?_; rintro e w10 ⟨rfl, k10⟩)
        go_ret2
        refine ⟨?_, (HC.out.trans M9.out.chg (fun x h _ => h)).trans k10 (fun x h _ => h)⟩
        have hx := HX.out
        rw [hstep.out, hnm] at hx
        show (match fnR l N T f o 0 0 nx with | .ok (D, ny) => _ | .error q => _)
        rw [hx]
        rfl
      | some y =>
        obtain ⟨x, nx'⟩ := y
        have C9' : Hid (Calls Tryz.prog 110 #[.pointer (some ⟨p, 0, none⟩), .int .i64 (v0 : Nat)] w9 fun e w' => e = .returned (.tuple #[.string ⟨x.toArray⟩, .bool true]) ∧ (RdA w' p g go n c l ⟨oo + 16, s, f, d, nn, eh, .pointer (some ⟨tb, 0, none⟩), nx', .slice (some ⟨ga, 0, none⟩) tn tcp, .slice a i cp, dv, en⟩ ∧ nx' ≤ szF 1 N) ∧ Chg (fun k => k = p) w9 w') := hidOf (C9.out.mono (fun e w' h => by unfold tnE at h; dsimp only at h; rw [hnm] at h; exact ⟨h.1.1, h.1.2, h.2⟩))
        go_upto_region 11 with (go_at_call 110; refine C9'.out.mono ?_; rintro e w10 ⟨rfl, ⟨r10, hnx'⟩, k10⟩)
        have R3 := hidOf r10
        have K9 := M9.out.chg
        have C3 := hidOf ((HC.out.trans K9 (fun x h _ => h)).trans k10 (fun x h _ => h))
        have Ow3 := hidOf (owns_chg (owns_chg HO.out (fun k hk e => by have := (HO.out.lt k hk).1; omega) K9) (fun k hk e => by have := (HO.out.lt k hk).1; omega) k10)
        rw [HL.out] at Ow3
        have hpr : ¬ wr.heap.size = p := by omega
        have q1 := k10.cell b1 hpr
        have q2 := k10.cell b2 hpr
        have q3 := k10.cell b3 hpr
        have h9s : wr.heap.size < w9.heap.size := by
          rcases Nat.lt_or_ge wr.heap.size w9.heap.size with h | h
          · exact h
          · simp [World.cell?, Array.getElem?_eq_none h] at b1
        have h10s : wr.heap.size < w10.heap.size := Nat.lt_of_lt_of_le h9s k10.size
        have HOlt : Hid (∀ k, (Value.slice a i cp).ownBlock = some k → k < wr.heap.size) := hidOf (fun k hk => (HO.out.lt k hk).2)
        have IA3 := hidOf (HIA.out.chg C3.out hgp)
        clear r10 k10 K9 b0 b1 b2 b3 C9 C9' CN M9 HR HC HO B5 O5 hw5
        by_cases hv2s : v2 = sl
        · subst hv2s
          have c10 : w10.cell? ⟨p, 10, none⟩ = some (.slice (some ⟨ga, 0, none⟩) tn tcp) := R3.out.cell 10 _ rfl
          have CO0 : Hid (∀ wx, Out w10 wx → Calls Tryz.prog 111 #[.slice (some ⟨ga, fi * 5, none⟩) (tn - fi) (tcp - fi), .int .i64 (v3 : Nat)] wx fun e w' => e = .returned (.tuple #[.int .i64 (k1 : Nat), .bool (decide (k2 = v3 ∧ 0 < v3))]) ∧ Out w10 w') := hidOf (fun wx ox => by
            have hia := (IA3.out.out ox).tail fi
            rw [Nat.zero_add] at hia
            have := countOf_any wx _ (tn - fi) (tcp - fi) v3 (T.drop fi) (by rw [List.length_drop, htn.out]) hia (by omega) (by omega)
            rw [hcn.out] at this
            exact this.mono (fun e w' h => ⟨h.1, ox.trans h.2⟩))
          by_cases hb : k2 = v3 ∧ 0 < v3
          · have htf : ¬ tcp = fi := fun e => by
              have h1 : T.drop fi = [] := List.drop_eq_nil_of_le (by rw [← htn.out]; omega)
              have h2 := hcn.out
              rw [h1] at h2
              simp [cntO] at h2
              omega
            have CO := CO0
            simp only [hb, and_self, decide_true] at CO
            have hk23 := hb.1
            have hv3p := hb.2
            clear CO0 hb
            go_upto_region 13 with fail
            go_region_held3 (fun wx => wx.cell? ⟨p, 10, none⟩ = some (.slice (some ⟨ga, 0, none⟩) tn tcp) ∧ wx.cell? ⟨wr.heap.size, 3, none⟩ = some (.int .i64 (v3 : Nat))) (first | go_keep | assumption | exact ⟨cell_later o11 c10, cell_later o11 q3⟩) (first | (go_at_call 111; refine (CO.out _ (by exact Out.drew (Out.refl _))).mono ?_; rintro e w11 ⟨rfl, o11⟩))
            have c11 : w11.cell? ⟨p, 11, none⟩ = some (.slice a i cp) := (R3.out.out o11).cell 11 _ rfl
            have p1 := cell_later o11 q1
            have p3 := cell_later o11 q3
            have R5 := hidOf (R3.out.out o11)
            have C5 := hidOf (C3.out.trans (T := fun _ => False) (Chg.of_out o11) (fun _ h _ => h.elim))
            have Ow5 := hidOf (owns_chg (S := fun _ => False) Ow3.out (fun _ _ h => h) (Chg.of_out o11))
            have hs3 : w.heap.size ≤ w11.heap.size := C5.out.size
            have HJ : Hid (fnR l N T f o 0 0 nx = (fnR l N T (f - (i + 1)) (o + 16 * (i + 1)) (fi + k1) (v2 + v3) nx').map (fun r => ((D ++ [⟨x, v1, fi, k1⟩]) ++ r.1, r.2))) := hidOf (by
              rw [HX.out, hstep.out, hnm]
              show Except.map _ (if v2 ≠ v2 then _ else if k2 ≠ v3 ∨ v3 = 0 then _ else Except.map _ _) = _
              rw [if_neg (by simp), if_neg (by omega)]
              cases fnR l N T (f - (i + 1)) (o + 16 * (i + 1)) (fi + k1) (v2 + v3) nx' <;> simp [Except.map])
            clear hstep HX q1 q2 q3 c10 CO IA3
            have a11 : ∀ O, (w11.alloc O).cell? ⟨p, 11, none⟩ = some (.slice a i cp) := fun O => (R5.out.out (Out.alloc (Out.refl _) O)).cell 11 _ rfl
            have OA : Hid (∀ O, (w11.alloc O).drew.ownsRow w.heap.size 69 4 (.slice a i cp) i (fnV D)) := hidOf (fun O => World.ownsRow.alloc Ow5.out O)
            have FAR : Hid (∀ O w', (w11.alloc O).drew.grownBy w' (Value.slice a i cp).ownBlock → RdA w' p g go n c l ⟨oo + 16, s, f, d, nn, eh, .pointer (some ⟨tb, 0, none⟩), nx', .slice (some ⟨ga, 0, none⟩) tn tcp, .slice a i cp, dv, en⟩ ∧ Chg (fun k => k = p) w w' ∧ (w'.cell? ⟨wr.heap.size, 1, none⟩ = some (.int .i64 (v1 : Nat)) ∧ w'.cell? ⟨wr.heap.size, 3, none⟩ = some (.int .i64 (v3 : Nat)))) := hidOf (fun O w' hg => by
              have hne : ∀ k, (Value.slice a i cp).ownBlock = some k → w.heap.size ≤ k := fun k hk => (Ow5.out.lt k hk).1
              have hc := Chg.of_grown (S := fun k => (Value.slice a i cp).ownBlock = some k) hg (fun k hk => hk)
              refine ⟨(R5.out.out (Out.drew (Out.alloc (Out.refl _) O))).chg hc (fun h => by have := hne p h; omega) (fun h => by have := hne g h; omega), ?_, ?_⟩
              rotate_left
              · have hb : ¬ (Value.slice a i cp).ownBlock = some wr.heap.size := fun h => by have := HOlt.out _ h; omega
                exact ⟨hc.cell (cell_later (Out.drew (Out.alloc (Out.refl _) O)) p1) hb, hc.cell (cell_later (Out.drew (Out.alloc (Out.refl _) O)) p3) hb⟩
              exact (C5.out.trans (T := fun _ => False) (Chg.of_out (Out.drew (Out.alloc (Out.refl _) O))) (fun _ h _ => h.elim)).trans hc (fun x h hlt => by have := hne x h; omega))
            obtain ⟨t0, hi0, hz0, hz1, hz2⟩ := info_parts infoIF
            have hTs : i ≤ 1000000000000 := by omega
            have SA : Hid (∀ O, ((w11.alloc O).cell? ⟨wr.heap.size, 1, none⟩ = some (.int .i64 (v1 : Nat)) ∧ (w11.alloc O).cell? ⟨wr.heap.size, 3, none⟩ = some (.int .i64 (v3 : Nat)))) := hidOf (fun O => ⟨cell_later (Out.alloc (Out.refl _) O) p1, cell_later (Out.alloc (Out.refl _) O) p3⟩)
            go_upto_region 16 with fail
            refine wp_region_held_drew (S := (fun wx => (wx.cell? ⟨wr.heap.size, 1, none⟩ = some (.int .i64 (v1 : Nat)) ∧ wx.cell? ⟨wr.heap.size, 3, none⟩ = some (.int .i64 (v3 : Nat))))) (by kernel_rfl) ?_ (fun hHeld => ?_)
            · exact ⟨p1, p3⟩
            refine tkLB [0,1,2,3,4,6,7,8,9,10,11] ?_
            iterate 11 (refine tkLC (v := ?_) rfl rfl (by kernel_rfl) (by kernel_rfl) (by kernel_rfl) (fun _ _ _ h => h) (by rfl) (by assumption) ?_ ?_; rotate_left; (· (intro w hSw; (try dsimp only at hSw); go_simp; (try with_reducible rfl))); simp only [Act.put, List.setIfInBounds_toArray, List.set_cons_zero, List.set_cons_succ])
            refine tkLE ?_
            refine wpAnyH_ready (rs := [5, 12]) (by kernel_rfl) (by simp) ?_
            refine AllReadyH.cons rfl (fun K1 hK1 => ?_) (AllReadyH.cons rfl (fun K1 hK1 => ?_) AllReadyH.nil)
            · rw [if_pos (by rfl)]
              go_simp
              refine hK1.out _ _ ⟨p1, p3⟩ (fun hHeld1 => ?_)
              refine wpAnyH_ready (rs := [12]) (by kernel_rfl) (by simp) ?_
              refine AllReadyH.cons rfl (fun K2 hK2 => ?_) AllReadyH.nil
              rw [if_pos (by rfl)]
              go_simp
              refine hK2.out _ _ (SA.out _) (fun hHeld2 => ?_)
              refine wpAnyH_ready (rs := [13]) (by kernel_rfl) (by simp) ?_
              refine AllReadyH.cons rfl (fun K3 hK3 => ?_) AllReadyH.nil
              refine step_append_lies _ rfl (.tmp 77) (.tmp 84) 23 rfl w.heap.size 69 t0 _ 4 40 Tryz.underlying23 hi0 hz0 hz1 hz2 rfl (by decide) (.slice a i cp) i (fnV D) rfl (OA.out _) ⟨w11.heap.size, 0, none⟩ 1 1 (Fn.cs ⟨x, v1, fi, k1⟩) rfl rfl (news_drew17 _ _ _ _ rfl) (fn_one _) (by decide) (by unfold maxLen; omega) (by omega) (Nat.le_trans hs3 (Out.size (Out.drew (Out.alloc (Out.refl _) _)))) _ rfl ?_
              intro g2 cap w4 hown' hgrow hg hlt
              obtain ⟨hR4, hC4, hS4⟩ := FAR.out _ _ hgrow
              have q10 : w4.cell? ⟨p, 11, none⟩ = some (.slice a i cp) := hR4.cell 11 _ rfl
              have qf : w4.frozen? ⟨p, 11, none⟩ = false := hR4.frozen 11
              have R4 := hidOf hR4
              have C4 := hidOf hC4
              have Ow4 := hidOf hown'
              clear hown' hgrow hg hlt hR4 hC4
              refine hK3.out _ _ hS4 (fun hHeld3 => ?_)
              refine tkLB [14,15,16] ?_
              iterate 3 (refine tkLC (v := ?_) rfl rfl (by kernel_rfl) (by kernel_rfl) (by kernel_rfl) (fun _ _ _ h => h) (by rfl) (by assumption) ?_ ?_; rotate_left; (· (intro w hSw; (try dsimp only at hSw); go_simp; (try with_reducible rfl))); simp only [Act.put, List.setIfInBounds_toArray, List.set_cons_zero, List.set_cons_succ])
              refine tkLE ?_
              refine wpAnyH_ready (rs := [17]) (by kernel_rfl) (by simp) ?_
              refine AllReadyH.cons rfl (fun K4 hK4 => ?_) AllReadyH.nil
              rw [if_pos (by rfl)]
              go_simp
              refine hK4.out _ _ ⟨(Chg.setP (Chg.refl _ w4) 11 _).cell hS4.1 hpr, (Chg.setP (Chg.refl _ w4) 11 _).cell hS4.2 hpr⟩ (fun hHeld4 => ?_)
              refine wpAnyH_done (by kernel_rfl) ?_ _
              have e3 := (Chg.setP (Chg.refl _ w4) 11 (.slice (some ⟨g2, 0, none⟩) (i + 1) cap)).cell hS4.2 hpr
              go_wp2
              go_roundw
              case rel =>
                refine ⟨i + 1, nx', fi + k1, v2 + v3, D ++ [⟨x, v1, fi, k1⟩], some ⟨g2, 0, none⟩, cap, by simp, by simp, by simp, by omega, by omega, by omega, hidOf (by rw [List.length_append, HL.out]; rfl), hnx', HJ, hidOf ?_, hidOf ?_, hidOf (Chg.setP C4.out _ _)⟩
                · rw [show o + 16 * (i + 1) = oo + 16 by rw [hoo.out]; omega]; exact R4.out.set 11 _ rfl
                · unfold OwF
                  rw [List.length_append, HL.out, fnV_snoc]
                  exact owns_chg (S := fun k => k = p) Ow4.out (fun k hk e => by have := (Ow4.out.lt k hk).1; omega) (Chg.setP (Chg.refl _ _) _ _)
              case measure => simp [intOf]; omega
            · rw [if_pos (by rfl)]
              go_simp
              refine hK1.out _ _ (SA.out _) (fun hHeld1 => ?_)
              refine wpAnyH_ready (rs := [5]) (by kernel_rfl) (by simp) ?_
              refine AllReadyH.cons rfl (fun K2 hK2 => ?_) AllReadyH.nil
              rw [if_pos (by rfl)]
              go_simp
              refine hK2.out _ _ (SA.out _) (fun hHeld2 => ?_)
              refine wpAnyH_ready (rs := [13]) (by kernel_rfl) (by simp) ?_
              refine AllReadyH.cons rfl (fun K3 hK3 => ?_) AllReadyH.nil
              refine step_append_lies _ rfl (.tmp 77) (.tmp 84) 23 rfl w.heap.size 69 t0 _ 4 40 Tryz.underlying23 hi0 hz0 hz1 hz2 rfl (by decide) (.slice a i cp) i (fnV D) rfl (OA.out _) ⟨w11.heap.size, 0, none⟩ 1 1 (Fn.cs ⟨x, v1, fi, k1⟩) rfl rfl (news_drew17 _ _ _ _ rfl) (fn_one _) (by decide) (by unfold maxLen; omega) (by omega) (Nat.le_trans hs3 (Out.size (Out.drew (Out.alloc (Out.refl _) _)))) _ rfl ?_
              intro g2 cap w4 hown' hgrow hg hlt
              obtain ⟨hR4, hC4, hS4⟩ := FAR.out _ _ hgrow
              have q10 : w4.cell? ⟨p, 11, none⟩ = some (.slice a i cp) := hR4.cell 11 _ rfl
              have qf : w4.frozen? ⟨p, 11, none⟩ = false := hR4.frozen 11
              have R4 := hidOf hR4
              have C4 := hidOf hC4
              have Ow4 := hidOf hown'
              clear hown' hgrow hg hlt hR4 hC4
              refine hK3.out _ _ hS4 (fun hHeld3 => ?_)
              refine tkLB [14,15,16] ?_
              iterate 3 (refine tkLC (v := ?_) rfl rfl (by kernel_rfl) (by kernel_rfl) (by kernel_rfl) (fun _ _ _ h => h) (by rfl) (by assumption) ?_ ?_; rotate_left; (· (intro w hSw; (try dsimp only at hSw); go_simp; (try with_reducible rfl))); simp only [Act.put, List.setIfInBounds_toArray, List.set_cons_zero, List.set_cons_succ])
              refine tkLE ?_
              refine wpAnyH_ready (rs := [17]) (by kernel_rfl) (by simp) ?_
              refine AllReadyH.cons rfl (fun K4 hK4 => ?_) AllReadyH.nil
              rw [if_pos (by rfl)]
              go_simp
              refine hK4.out _ _ ⟨(Chg.setP (Chg.refl _ w4) 11 _).cell hS4.1 hpr, (Chg.setP (Chg.refl _ w4) 11 _).cell hS4.2 hpr⟩ (fun hHeld4 => ?_)
              refine wpAnyH_done (by kernel_rfl) ?_ _
              have e3 := (Chg.setP (Chg.refl _ w4) 11 (.slice (some ⟨g2, 0, none⟩) (i + 1) cap)).cell hS4.2 hpr
              go_wp2
              go_roundw
              case rel =>
                refine ⟨i + 1, nx', fi + k1, v2 + v3, D ++ [⟨x, v1, fi, k1⟩], some ⟨g2, 0, none⟩, cap, by simp, by simp, by simp, by omega, by omega, by omega, hidOf (by rw [List.length_append, HL.out]; rfl), hnx', HJ, hidOf ?_, hidOf ?_, hidOf (Chg.setP C4.out _ _)⟩
                · rw [show o + 16 * (i + 1) = oo + 16 by rw [hoo.out]; omega]; exact R4.out.set 11 _ rfl
                · unfold OwF
                  rw [List.length_append, HL.out, fnV_snoc]
                  exact owns_chg (S := fun k => k = p) Ow4.out (fun k hk e => by have := (Ow4.out.lt k hk).1; omega) (Chg.setP (Chg.refl _ _) _ _)
              case measure => simp [intOf]; omega
          · have CO1 := CO0
            simp only [hb, decide_false] at CO1
            have hx := HX.out
            rw [hstep.out, hnm] at hx
            simp only [ne_eq, not_true_eq_false, if_false] at hx
            rw [if_pos (show ¬ k2 = v3 ∨ v3 = 0 by omega)] at hx
            have HX2 := hidOf hx
            clear hx HX hstep CO0
            go_upto_region 13 with fail
            by_cases htf : tcp = fi
            · subst htf
              obtain rfl : tn = tcp := by omega
              have CO : Hid (∀ wx, Out w10 wx → Calls Tryz.prog 111 #[.slice (some ⟨ga, 0, none⟩) 0 0, .int .i64 (v3 : Nat)] wx fun e w' => e = .returned (.tuple #[.int .i64 (k1 : Nat), .bool false]) ∧ Out w10 w') := hidOf (fun wx ox => by
                have h1 : T.drop tn = [] := List.drop_eq_nil_of_le (by rw [← htn.out]; omega)
                have := countOf_any wx (some ⟨ga, 0, none⟩) 0 0 v3 (T.drop tn) (by rw [h1]; rfl) (.inl h1) (by omega) (by omega)
                rw [hcn.out] at this
                simp only [hb, decide_false] at this
                exact this.mono (fun e w' h => ⟨h.1, ox.trans h.2⟩))
              clear CO1
              go_region_held3 (fun wx => wx.cell? ⟨p, 10, none⟩ = some (.slice (some ⟨ga, 0, none⟩) tn tn) ∧ wx.cell? ⟨wr.heap.size, 3, none⟩ = some (.int .i64 (v3 : Nat))) (first | go_keep | assumption | exact ⟨cell_later o11 c10, cell_later o11 q3⟩) (first | (go_at_call 111; refine (CO.out _ (by exact Out.drew (Out.refl _))).mono ?_; rintro e w11 ⟨rfl, o11⟩))
              go_wp2
              go_ret2
              refine ⟨?_, C3.out.trans (T := fun _ => False) (Chg.of_out o11) (fun _ h _ => h.elim)⟩
              show (match fnR l N T f o 0 0 nx with | .ok (D, ny) => _ | .error q => _)
              rw [HX2.out]
              rfl
            · have CO := CO1
              clear CO1
              go_region_held3 (fun wx => wx.cell? ⟨p, 10, none⟩ = some (.slice (some ⟨ga, 0, none⟩) tn tcp) ∧ wx.cell? ⟨wr.heap.size, 3, none⟩ = some (.int .i64 (v3 : Nat))) (first | go_keep | assumption | exact ⟨cell_later o11 c10, cell_later o11 q3⟩) (first | (go_at_call 111; refine (CO.out _ (by exact Out.drew (Out.refl _))).mono ?_; rintro e w11 ⟨rfl, o11⟩))
              go_wp2
              go_ret2
              refine ⟨?_, C3.out.trans (T := fun _ => False) (Chg.of_out o11) (fun _ h _ => h.elim)⟩
              show (match fnR l N T f o 0 0 nx with | .ok (D, ny) => _ | .error q => _)
              rw [HX2.out]
              rfl
        · have hne : ¬ (v2 : Int) = sl := by omega
          go_wp2
          go_ret2
          refine ⟨?_, C3.out⟩
          have hx := HX.out
          rw [hstep.out, hnm] at hx
          simp only [ne_eq, hv2s, not_false_eq_true, if_true] at hx
          show (match fnR l N T f o 0 0 nx with | .ok (D, ny) => _ | .error q => _)
          rw [hx]
          rfl
    · have hlt : ¬ (i : Int) < f := by omega
      obtain rfl : i = f := by omega
      go_wp2
      go_ret2
      refine ⟨?_, HC.out⟩
      have hx := HX.out
      rw [Nat.sub_self, fnR] at hx
      show (match fnR l N T i o 0 0 nx with | .ok (D, ny) => _ | .error q => _)
      rw [hx]
      have hL := HL.out
      refine ⟨rfl, a, cp, ?_, ?_, hny⟩
      · simp only [List.append_nil, hL, ← htn.out]; exact HR.out
      · simp only [List.append_nil, hL]; exact HO.out
end Go.Proofs.YthififblejbleaaGreatDoor
