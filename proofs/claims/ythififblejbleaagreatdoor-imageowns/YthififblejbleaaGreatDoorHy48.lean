import Derived.Test.YthififblejbleaaGreatDoorHy40
namespace Go.Proofs.YthififblejbleaaGreatDoor
open Go.RowKit
set_option linter.unusedVariables false
set_option linter.unusedSimpArgs false
theorem own_base {B B' sz n : Nat} {w : World} {e : TypeId} {v : Value} {xs : List Value} (h : w.ownsRow B e sz v n xs) (hb : B' ≤ B) : w.ownsRow B' e sz v n xs := by
  obtain ⟨h1, h2 | ⟨g, cap, cur, h3, h4, h5⟩⟩ := h
  · exact ⟨h1, .inl h2⟩
  · exact ⟨h1, .inr ⟨g, cap, cur, h3, Nat.le_trans hb h4, h5⟩⟩
def enE (l : List UInt8) (p g go n c : Nat) (w : World) (r : Rs) (N : List (List UInt8)) (T : List Ins) (e : Ending) (w' : World) : Prop :=
  (match fnR l N T r.f r.o 0 0 r.nx with
   | .error q => e = .returned (.tuple #[.int .i64 (q : Nat), .bool true])
   | .ok (Fs, n1) => match tdR l N r.d (r.o + 16 * r.f) n1 with
     | .error q => e = .returned (.tuple #[.int .i64 (q : Nat), .bool true])
     | .ok (D, n2) => e = .returned (.tuple #[.int .i64 ((n - r.n + n2 : Nat) : Int), .bool (decide (n2 < r.n))]) ∧ ∃ fa fc da dc, RdA w' p g go n c l { r with o := r.o + 16 * r.f + 20 * r.d, nx := n2, fv := .slice fa Fs.length fc, dv := .slice da D.length dc } ∧ OwF w' w.heap.size (.slice fa Fs.length fc) Fs ∧ OwD w' w.heap.size (.slice da D.length dc) D) ∧ Chg (fun k => k = p) w w'
set_option maxRecDepth 8000 in
set_option maxHeartbeats 1000000 in
theorem takeEntries_any (w : World) (p g go n c : Nat) (l : List UInt8) (r : Rs) (h : RdA w p g go n c l r) (tb : Nat) (htb : r.nm = .pointer (some ⟨tb, 0, none⟩)) (N : List (List UInt8)) (F : Nat → Prop) (hT : Tab tb w N F) (hF : ∀ k, F k → ¬ k = p) (hsz : szF 1 N ≤ 1000000000000) (hnx : r.nx ≤ szF 1 N) (T : List Ins) (ga tcp : Nat) (htv : r.tv = .slice (some ⟨ga, 0, none⟩) T.length tcp) (hIA : InsA w (some ⟨ga, 0, none⟩) T) (hgp : ¬ ga = p) (htc : T.length ≤ tcp) (hTl : T.length ≤ 1000000000000) (hr : r.o + 16 * r.f + 20 * r.d ≤ n) (hrn : r.n ≤ n) (hn : n ≤ 1000000000000) : Calls Tryz.prog 67 #[.pointer (some ⟨p, 0, none⟩)] w (enE l p g go n c w r N T) := by
  have hpl := h.pl
  have hgl := h.gl
  have CF := hidOf (takeFuncs_any w p g go n c l r h tb htb N F hT hF hsz hnx T ga tcp htv hIA hgp htc hTl (by omega) hn)
  obtain ⟨o, s, f, d, nn, eh, nm, nx, tv, fv, dv, en⟩ := r
  simp only at hr htb hnx htv hrn
  subst htb
  subst htv
  have HT := hidOf hT
  clear h hT hIA
  unfold fnE at CF
  dsimp only at CF
  cases hf : fnR l N T f o 0 0 nx with
  | error q =>
    rw [hf] at CF
    go_enter Tryz.func67, Tryz.ntmps67
    go_wp2_with (go_at_call 94; refine CF.out.mono ?_; rintro e w1 ⟨rfl, k1⟩)
    go_ret2
    unfold enE
    simp only [hf]
    exact ⟨rfl, k1⟩
  | ok y =>
    obtain ⟨Fs, n1⟩ := y
    rw [hf] at CF
    have CF' : Hid (Calls Tryz.prog 94 #[.pointer (some ⟨p, 0, none⟩)] w fun e w' => e = .returned (.tuple #[.int .i64 0, .bool false]) ∧ (∃ a cp, RdA w' p g go n c l ⟨o + 16 * f, s, f, d, nn, eh, .pointer (some ⟨tb, 0, none⟩), n1, .slice (some ⟨ga, 0, none⟩) T.length tcp, .slice a Fs.length cp, dv, en⟩ ∧ OwF w' w.heap.size (.slice a Fs.length cp) Fs ∧ n1 ≤ szF 1 N) ∧ Chg (fun k => k = p) w w') := hidOf (CF.out.mono (fun e w' h => ⟨h.1.1, h.1.2, h.2⟩))
    clear CF
    go_enter Tryz.func67, Tryz.ntmps67
    go_upto_region 4 with (go_at_call 94; refine CF'.out.mono ?_; rintro e w1 ⟨rfl, ⟨fa, fc, r1, of1, hn1⟩, k1⟩)
    have CD := hidOf (takeTables_any w1 p g go n c l _ r1 tb rfl N F (HT.out.chg k1 hF) hF hsz hn1 hr hn)
    have OF1 := hidOf of1
    have K1 := hidOf k1
    have hs1 : w.heap.size ≤ w1.heap.size := k1.size
    clear CF' r1 of1 k1 HT
    unfold tdE at CD
    dsimp only at CD
    cases hd : tdR l N d (o + 16 * f) n1 with
    | error q =>
      rw [hd] at CD
      go_wp2_with (go_at_call 95; refine CD.out.mono ?_; rintro e w2 ⟨rfl, k2⟩)
      go_ret2
      unfold enE
      simp only [hf, hd]
      exact ⟨rfl, K1.out.trans k2 (fun x h _ => h)⟩
    | ok z =>
      obtain ⟨D, n2⟩ := z
      rw [hd] at CD
      have CD' : Hid (Calls Tryz.prog 95 #[.pointer (some ⟨p, 0, none⟩)] w1 fun e w' => e = .returned (.tuple #[.int .i64 0, .bool false]) ∧ (∃ a cp, RdA w' p g go n c l ⟨o + 16 * f + 20 * d, s, f, d, nn, eh, .pointer (some ⟨tb, 0, none⟩), n2, .slice (some ⟨ga, 0, none⟩) T.length tcp, .slice fa Fs.length fc, .slice a D.length cp, en⟩ ∧ OwD w' w1.heap.size (.slice a D.length cp) D ∧ n2 ≤ szF 1 N) ∧ Chg (fun k => k = p) w1 w') := hidOf (CD.out.mono (fun e w' h => ⟨h.1.1, h.1.2, h.2⟩))
      clear CD
      go_upto_region 7 with (go_at_call 95; refine CD'.out.mono ?_; rintro e w2 ⟨rfl, ⟨da, dc, r2, od2, hn2⟩, k2⟩)
      have R2 := hidOf r2
      have K2 := hidOf (K1.out.trans k2 (fun x h _ => h))
      have OD2 : Hid (OwD w2 w.heap.size (.slice da D.length dc) D) := hidOf (own_base od2 hs1)
      have OF2 : Hid (OwF w2 w.heap.size (.slice fa Fs.length fc) Fs) := hidOf (owns_chg OF1.out (fun k hk e => by have := (OF1.out.lt k hk).1; omega) k2)
      have c9 : w2.cell? ⟨p, 9, none⟩ = some (.int .i64 (n2 : Nat)) := r2.cell 9 _ rfl
      have c6 : w2.cell? ⟨p, 6, none⟩ = some (.int .i64 (nn : Nat)) := r2.cell 6 _ rfl
      obtain ⟨k, hk⟩ : ∃ k, Hid (k = n - nn) := ⟨_, rfl⟩
      have hkb : k ≤ n := by rw [hk.out]; omega
      have CS : Hid (∀ wx, Eqh w2 wx → Calls Tryz.prog 93 #[.pointer (some ⟨p, 0, none⟩)] wx fun e w' => e = .returned (.int .i64 (k : Nat)) ∧ Eqh w2 w') := hidOf (fun wx hx => by
        refine (stringsAt_any wx p g go n c l _ (R2.out.eqh hx) hrn hn).mono ?_
        rintro e w' ⟨rfl, m, rfl⟩
        rw [← hk.out]
        exact ⟨rfl, hx.of_drewN m⟩)
      have wk : IntKind.i64.wrap ((k : Int) + (n2 : Int)) = (k : Int) + (n2 : Int) := by rw [wrap64_eq17]; unfold wrap64; omega
      clear CD' r2 od2 k2 K1 OF1
      go_region_held3 (fun wx => wx.cell? ⟨p, 9, none⟩ = some (.int .i64 (n2 : Nat)) ∧ wx.cell? ⟨p, 6, none⟩ = some (.int .i64 (nn : Nat))) (first | go_keep | assumption | exact ⟨(q3.cell ⟨p, 9, none⟩).trans c9, (q3.cell ⟨p, 6, none⟩).trans c6⟩) (first | (go_at_call 93; refine (CS.out _ (by first | exact Eqh.refl _ | exact Eqh.drew _)).mono ?_; rintro e w3 ⟨rfl, q3⟩))
      go_wp2
      go_ret2
      unfold enE
      simp only [hf, hd]
      refine ⟨⟨?_, fa, fc, da, dc, R2.out.eqh q3, ?_, ?_⟩, K2.out.trans (T := fun _ => False) (Chg.of_out q3.out) (fun _ h _ => h.elim)⟩
      · rw [← hk.out]
        exact rfl
      · exact owns_chg (S := fun _ => False) OF2.out (fun _ _ h => h) (Chg.of_out q3.out)
      · exact owns_chg (S := fun _ => False) OD2.out (fun _ _ h => h) (Chg.of_out q3.out)
theorem headFields3 (h : Nat) (w : World) : Calls Tryz.prog 55 #[.pointer (some ⟨h, 3, none⟩)] w fun e w' => ∃ q, e = .returned (.slice (some ⟨q, 0, none⟩) 5 5) ∧ w.heap.size ≤ q ∧ q < w'.heap.size ∧ (∀ i, i < 5 → w'.cell? ⟨q, i, none⟩ = some (.pointer (some ⟨h, 3 + i, none⟩))) ∧ Out w w' := by
  go_enter Tryz.func55, Tryz.ntmps55
  go_upto_region 1 with fail
  go_region_held3 (fun _ => True) (trivial) (fail)
  go_wp2
  go_ret
  refine ⟨_, rfl, Nat.le_refl _, ?_, ?_, ?_⟩
  · simp
  · intro i hi
    obtain rfl | rfl | rfl | rfl | rfl : i = 0 ∨ i = 1 ∨ i = 2 ∨ i = 3 ∨ i = 4 := by omega
    all_goals exact cell_fresh _ _ _ _ _ rfl
  · first | exact Out.alloc (Out.drew (Out.refl _)) _ | exact Out.drew (Out.alloc (Out.drew (Out.refl _)) _)
theorem headSize3 (h : Nat) (w : World) (s f d n : Nat) (c0 : w.cell? ⟨h, 3, none⟩ = some (.int .i64 s)) (c1 : w.cell? ⟨h, 4, none⟩ = some (.int .i64 f)) (c2 : w.cell? ⟨h, 5, none⟩ = some (.int .i64 d)) (c3 : w.cell? ⟨h, 6, none⟩ = some (.int .i64 n)) (hs : s < 4294967296) (hf : f < 4294967296) (hd : d < 4294967296) (hn : n < 4294967296) : Calls Tryz.prog 53 #[.pointer (some ⟨h, 3, none⟩)] w fun e w' => e = .returned (.int .i64 (sizP s f d n : Nat)) ∧ ∃ m, w' = w.drewN m := by
  have e1 : ((sizP s f d n : Nat) : Int) = 28 + 8 * (s : Int) + 16 * (f : Int) + 20 * (d : Int) + (n : Int) := by unfold sizP; omega
  rw [e1]
  have g1 : (s : Int) < 4294967296 := by omega
  have g2 : (f : Int) < 4294967296 := by omega
  have g3 : (d : Int) < 4294967296 := by omega
  have g4 : (n : Int) < 4294967296 := by omega
  go_enter Tryz.func53, Tryz.ntmps53
  go_upto_region 1 with fail
  go_quiet (fail)
  go_wp2
  go_ret
  exact ⟨rfl, _, rfl⟩
theorem head_set {w : World} {p g go n c : Nat} {l : List UInt8} {r : Rs} (h : RdA w p g go n c l r) (ho : r.o = 8) : RdA (setN l p 8 [(p, 3), (p, 4), (p, 5), (p, 6), (p, 7)] w) p g go n c l { r with o := 28, s := g4 l 8, f := g4 l 12, d := g4 l 16, n := g4 l 20, e := g4 l 24 } := by
  obtain ⟨o, s, f, d, nn, eh, nm, nx, tv, fv, dv, en⟩ := r
  simp only at ho
  subst ho
  simp only [setN, stepN]
  have a1 := (h.set (r' := ⟨8, g4 l 8, f, d, nn, eh, nm, nx, tv, fv, dv, en⟩) 3 (.int .i64 (g4 l 8 : Nat)) rfl).set (r' := ⟨12, g4 l 8, f, d, nn, eh, nm, nx, tv, fv, dv, en⟩) 1 (.int .i64 ((8 : Nat) + 4)) rfl
  have a2 := (a1.set (r' := ⟨12, g4 l 8, g4 l 12, d, nn, eh, nm, nx, tv, fv, dv, en⟩) 4 (.int .i64 (g4 l 12 : Nat)) rfl).set (r' := ⟨16, g4 l 8, g4 l 12, d, nn, eh, nm, nx, tv, fv, dv, en⟩) 1 (.int .i64 ((12 : Nat) + 4)) rfl
  have a3 := (a2.set (r' := ⟨16, g4 l 8, g4 l 12, g4 l 16, nn, eh, nm, nx, tv, fv, dv, en⟩) 5 (.int .i64 (g4 l 16 : Nat)) rfl).set (r' := ⟨20, g4 l 8, g4 l 12, g4 l 16, nn, eh, nm, nx, tv, fv, dv, en⟩) 1 (.int .i64 ((16 : Nat) + 4)) rfl
  have a4 := (a3.set (r' := ⟨20, g4 l 8, g4 l 12, g4 l 16, g4 l 20, eh, nm, nx, tv, fv, dv, en⟩) 6 (.int .i64 (g4 l 20 : Nat)) rfl).set (r' := ⟨24, g4 l 8, g4 l 12, g4 l 16, g4 l 20, eh, nm, nx, tv, fv, dv, en⟩) 1 (.int .i64 ((20 : Nat) + 4)) rfl
  exact (a4.set (r' := ⟨24, g4 l 8, g4 l 12, g4 l 16, g4 l 20, g4 l 24, nm, nx, tv, fv, dv, en⟩) 7 (.int .i64 (g4 l 24 : Nat)) rfl).set (r' := ⟨28, g4 l 8, g4 l 12, g4 l 16, g4 l 20, g4 l 24, nm, nx, tv, fv, dv, en⟩) 1 (.int .i64 ((24 : Nat) + 4)) rfl
theorem numH (w w8 : World) (p g go n c q : Nat) (l : List UInt8) (r : Rs) (h : RdA w p g go n c l r) (ho : r.o = 8) (o8 : Out w w8) (hq : w.heap.size ≤ q) (hcq : ∀ i, i < 5 → w8.cell? ⟨q, i, none⟩ = some (.pointer (some ⟨p, 3 + i, none⟩))) (hr : 28 ≤ n) (hn : n ≤ 281474976710656) : Calls Tryz.prog 54 #[.pointer (some ⟨p, 0, none⟩), .slice (some ⟨q, 0, none⟩) 5 5] w8 fun e w' => (∃ v, e = .returned v) ∧ RdA w' p g go n c l { r with o := 28, s := g4 l 8, f := g4 l 12, d := g4 l 16, n := g4 l 20, e := g4 l 24 } ∧ Chg (fun k => k = p) w w' := by
  have h8 := h.out o8
  have hpl := h.pl
  have hgl := h.gl
  refine (numbersR_any w8 p g go n c 8 q l [(p, 3), (p, 4), (p, 5), (p, 6), (p, 7)] h.l_ h8.bt h.nc (h8.cell 0 _ rfl) (by have := h8.cell 1 (.int .i64 (r.o : Nat)) rfl; rw [ho] at this; exact this) (h8.cell 2 _ rfl) (h8.frozen 1) (fun i y hy => by
    rcases i with _ | _ | _ | _ | _ | i
    · simp at hy; subst hy; exact hcq 0 (by omega)
    · simp at hy; subst hy; exact hcq 1 (by omega)
    · simp at hy; subst hy; exact hcq 2 (by omega)
    · simp at hy; subst hy; exact hcq 3 (by omega)
    · simp at hy; subst hy; exact hcq 4 (by omega)
    · simp at hy) (fun y hy => by
    simp at hy
    have e3 := h8.cell 3 _ rfl
    have e4 := h8.cell 4 _ rfl
    have e5 := h8.cell 5 _ rfl
    have e6 := h8.cell 6 _ rfl
    have e7 := h8.cell 7 _ rfl
    rcases hy with rfl | rfl | rfl | rfl | rfl
    · exact ⟨by rw [e3]; rfl, h8.frozen _, h.pg, by simp; omega, by simp⟩
    · exact ⟨by rw [e4]; rfl, h8.frozen _, h.pg, by simp; omega, by simp⟩
    · exact ⟨by rw [e5]; rfl, h8.frozen _, h.pg, by simp; omega, by simp⟩
    · exact ⟨by rw [e6]; rfl, h8.frozen _, h.pg, by simp; omega, by simp⟩
    · exact ⟨by rw [e7]; rfl, h8.frozen _, h.pg, by simp; omega, by simp⟩) h.pg (by omega) (by simpa using hr) hn).mono ?_
  rintro e w' ⟨hv, he⟩
  refine ⟨hv, (head_set h8 ho).eqh he, ?_⟩
  have hc := setN_chg l p [(p, 3), (p, 4), (p, 5), (p, 6), (p, 7)] 8 w8
  exact he.chg ((Chg.of_out (S := fun k => k = p) o8).trans hc (fun x hx _ => by
    rcases hx with e | ⟨y, hy, e⟩
    · exact e
    · simp at hy; rcases hy with rfl | rfl | rfl | rfl | rfl <;> exact e.symm))
def hdE (l : List UInt8) (p g go n c : Nat) (w : World) (r : Rs) (e : Ending) (w' : World) : Prop :=
  (match hdF l with
   | some q => e = .returned (.tuple #[.int .i64 (q : Nat), .bool true])
   | none => e = .returned (.tuple #[.int .i64 8, .bool false]) ∧ RdA w' p g go n c l { r with o := 28, s := g4 l 8, f := g4 l 12, d := g4 l 16, n := g4 l 20, e := g4 l 24, en := g4 l 24 }) ∧ Chg (fun k => k = p) w w'
set_option maxRecDepth 8000 in
set_option maxHeartbeats 2000000 in
theorem takeHead_any (w : World) (p g go n c : Nat) (l : List UInt8) (r : Rs) (h : RdA w p g go n c l r) (hn : n ≤ 281474976710656) : Calls Tryz.prog 64 #[.pointer (some ⟨p, 0, none⟩)] w (hdE l p g go n c w r) := by
  have H := hidOf h
  have hpl := h.pl
  have hgl := h.gl
  have hnc := h.nc
  have hl := hidOf h.l_
  obtain ⟨o, s, f, d, nn, eh, nm, nx, tv, fv, dv, en⟩ := r
  have c0 : w.cell? ⟨p, 0, none⟩ = some (.slice (some ⟨g, go, none⟩) n c) := h.cell 0 _ rfl
  clear h
  go_enter Tryz.func64, Tryz.ntmps64
  by_cases hsh : n < 28
  · have hsh' : (n : Int) < 28 := by omega
    go_wp2
    go_ret2
    have e0 : hdF l = some n := by unfold hdF; rw [hl.out, if_pos hsh]
    unfold hdE
    rw [e0]
    exact ⟨rfl, Chg.refl _ _⟩
  · have hsh' : ¬ (n : Int) < 28 := by omega
    go_wp2
    go_loopw [18] (fun v wr => ∃ k : Nat, k ≤ 8 ∧ v = .int .i64 (k : Nat) ∧ Hid (∀ j, j < k → (l.getD j 0 != opB.getD j 0) = false) ∧ Hid (Eqh w wr)) (fun v _ => 8 - (intOf v).toNat)
    case atStart => exact ⟨0, by omega, rfl, hidOf (fun j hj => by omega), hidOf (Eqh.refl _)⟩
    case round =>
      obtain ⟨k, hk, rfl, HK, HE⟩ := hrel
      have d0 : wr.cell? ⟨p, 0, none⟩ = some (.slice (some ⟨g, go, none⟩) n c) := (HE.out.cell _).trans c0
      by_cases hk8 : k < 8
      · have hlt : (k : Int) < 8 := by omega
        obtain ⟨x, hx⟩ : ∃ x, l[k]? = some x := ⟨_, List.getElem?_eq_getElem (by rw [hl.out]; omega)⟩
        have hxd : Hid (l.getD k 0 = x) := hidOf (by simp [hx])
        have b0 : wr.cell? ⟨g, go + k, none⟩ = some (.int .u8 (x.toNat : Int)) := (HE.out.cell _).trans (H.out.bt k x hx)
        have hkn : k < n := by omega
        go_upto_region 6 with fail
        go_quiet (fail)
        generalize hy : ({ data := #[83, 80, 73, 78, 1, 0, 0, 0] } : ByteArray)[k]'(by show k < 8; exact hk8) = y
        have hyo : Hid (opB.getD k 0 = y) := hidOf (by
          rw [← hy]
          obtain rfl | rfl | rfl | rfl | rfl | rfl | rfl | rfl : k = 0 ∨ k = 1 ∨ k = 2 ∨ k = 3 ∨ k = 4 ∨ k = 5 ∨ k = 6 ∨ k = 7 := by omega
          all_goals rfl)
        have E2 : Hid (Eqh w (wr.drewN nq)) := hidOf (HE.out.of_drewN nq)
        generalize wr.drewN nq = w2 at *
        clear hy hx b0 d0
        by_cases hxy : x = y
        · have hb : ((x.toNat : Int) != (y.toNat : Int)) = false := by rw [hxy]; simp
          rw [hb]
          have HK2 : Hid (∀ j, j < k + 1 → (l.getD j 0 != opB.getD j 0) = false) := hidOf (fun j hj => by
            rcases Nat.lt_or_ge j k with h | h
            · exact HK.out j h
            · obtain rfl : j = k := by omega
              rw [hxd.out, hyo.out, hxy]; simp)
          clear hb
          go_wp2
          go_roundw
          case rel => exact ⟨k + 1, by omega, by simp, HK2, E2⟩
          case measure => simp [intOf]; omega
        · have hb : ((x.toNat : Int) != (y.toNat : Int)) = true := by
            have : ¬ x.toNat = y.toNat := fun e => hxy (UInt8.toNat_inj.1 e)
            simp; omega
          rw [hb]
          have e0 : Hid (hdF l = some k) := hidOf (by
            unfold hdF
            rw [hl.out, if_neg hsh, fstB_some hk8 HK.out (by rw [hxd.out, hyo.out]; simp [hxy])])
          clear hb
          go_wp2
          go_ret2
          unfold hdE
          rw [e0.out]
          exact ⟨rfl, Chg.of_out E2.out.out⟩
      · have hlt : ¬ (k : Int) < 8 := by omega
        obtain rfl : k = 8 := by omega
        have R0 := hidOf (H.out.eqh HE.out)
        have C0 : Hid (Chg (fun k => k = p) w wr) := hidOf (Chg.of_out HE.out.out)
        have e1 : wr.cell? ⟨p, 1, none⟩ = some (.int .i64 (o : Nat)) := R0.out.cell 1 _ rfl
        have f1 := R0.out.frozen 1
        go_upto_region 10 with fail
        have R1 := hidOf (R0.out.set (r' := ⟨8, s, f, d, nn, eh, nm, nx, tv, fv, dv, en⟩) 1 (.int .i64 8) rfl)
        have C1 := hidOf (Chg.setP C0.out 1 (.int .i64 8))
        clear d0 e1 f1
        generalize wr.setCell ⟨p, 1, none⟩ (.int .i64 8) = w1 at *
        have NU : Hid (∀ w8 q, Out w1 w8 → w1.heap.size ≤ q → (∀ i, i < 5 → w8.cell? ⟨q, i, none⟩ = some (.pointer (some ⟨p, 3 + i, none⟩))) → Calls Tryz.prog 54 #[.pointer (some ⟨p, 0, none⟩), .slice (some ⟨q, 0, none⟩) 5 5] w8 fun e w' => (∃ v, e = .returned v) ∧ RdA w' p g go n c l ⟨28, g4 l 8, g4 l 12, g4 l 16, g4 l 20, g4 l 24, nm, nx, tv, fv, dv, en⟩ ∧ Chg (fun k => k = p) w1 w') := hidOf (fun w8 q o8 hq hcq => numH w1 w8 p g go n c q l _ R1.out rfl o8 hq hcq (by omega) hn)
        go_region_held3 (fun _ => True) (trivial) (first | (go_at_call 54; refine (NU.out _ _ o8 hq5 hcq).mono ?_; rintro e w9 ⟨⟨rv, rfl⟩, r9, k9⟩) | (go_at_call 55; refine (headFields3 _ _).mono ?_; rintro e w8 ⟨q, rfl, hq5, hq6, hcq, o8'⟩; have o8 : Out w1 w8 := (Out.drew (Out.refl _)).trans o8'))
        have R9 := hidOf r9
        have C9 := hidOf (C1.out.trans k9 (fun x h _ => h))
        clear r9 k9 NU o8 o8' hq5 hq6 hcq
        obtain ⟨ve, hve⟩ : ∃ ve, Hid (ve = g4 l 24) := ⟨_, rfl⟩
        have e7 : w9.cell? ⟨p, 7, none⟩ = some (.int .i64 (ve : Nat)) := by rw [hve.out]; exact R9.out.cell 7 _ rfl
        have e13 : w9.cell? ⟨p, 13, none⟩ = some (.int .i64 (en : Nat)) := R9.out.cell 13 _ rfl
        have f13 := R9.out.frozen 13
        go_upto_region 12 with fail
        have R10 : Hid (RdA (w9.setCell ⟨p, 13, none⟩ (.int .i64 (ve : Nat))) p g go n c l ⟨28, g4 l 8, g4 l 12, g4 l 16, g4 l 20, g4 l 24, nm, nx, tv, fv, dv, g4 l 24⟩) := hidOf (by rw [hve.out]; exact R9.out.set 13 _ rfl)
        have C10 := hidOf (Chg.setP C9.out 13 (.int .i64 (ve : Nat)))
        clear e7 e13 f13
        generalize w9.setCell ⟨p, 13, none⟩ (.int .i64 (ve : Nat)) = w10 at *
        obtain ⟨z, hz⟩ : ∃ z, Hid (z = sizP (g4 l 8) (g4 l 12) (g4 l 16) (g4 l 20)) := ⟨_, rfl⟩
        have CZ : Hid (∀ wx, Eqh w10 wx → Calls Tryz.prog 53 #[.pointer (some ⟨p, 3, none⟩)] wx fun e w' => e = .returned (.int .i64 (z : Nat)) ∧ Eqh w10 w') := hidOf (fun wx hx => by
          have hr := R10.out.eqh hx
          rw [hz.out]
          refine (headSize3 p wx (g4 l 8) (g4 l 12) (g4 l 16) (g4 l 20) (hr.cell 3 _ rfl) (hr.cell 4 _ rfl) (hr.cell 5 _ rfl) (hr.cell 6 _ rfl) (g4_lt17 l _) (g4_lt17 l _) (g4_lt17 l _) (g4_lt17 l _)).mono ?_
          rintro e w' ⟨rfl, m, rfl⟩
          exact ⟨rfl, hx.of_drewN m⟩)
        have e0 : w10.cell? ⟨p, 0, none⟩ = some (.slice (some ⟨g, go, none⟩) n c) := R10.out.cell 0 _ rfl
        have hF : Hid (hdF l = if z ≠ n then some 8 else none) := hidOf (by
          unfold hdF
          rw [hl.out, if_neg hsh, fstB_none HK.out, hz.out])
        go_region_held3 (fun wx => wx.cell? ⟨p, 0, none⟩ = some (.slice (some ⟨g, go, none⟩) n c)) (first | go_keep | assumption | exact (q3.cell ⟨p, 0, none⟩).trans e0) (first | (go_at_call 53; refine (CZ.out _ (by first | exact Eqh.refl _ | exact Eqh.drew _)).mono ?_; rintro e w3 ⟨rfl, q3⟩))
        go_wp2
        go_ret2
        refine ⟨?_, C10.out.trans (T := fun _ => False) (Chg.of_out q3.out) (fun _ h _ => h.elim)⟩
        rw [hF.out]
        by_cases hzn : z = n
        · rw [if_neg (by simp [hzn])]
          refine ⟨?_, R10.out.eqh q3⟩
          have hb : ((z : Int) != (n : Int)) = false := by simp [hzn]
          show Ending.returned (.tuple #[.int .i64 8, .bool ((z : Int) != (n : Int))]) = _
          rw [hb]
        · rw [if_pos hzn]
          have hb : ((z : Int) != (n : Int)) = true := by simp; omega
          show Ending.returned (.tuple #[.int .i64 8, .bool ((z : Int) != (n : Int))]) = _
          rw [hb]
          rfl
theorem flat_at {α : Type} (f : α → List Value) (m : Nat) (hf : ∀ x, (f x).length = m) : ∀ (T : List α) (k j : Nat) (x : α), T[k]? = some x → j < m → (T.flatMap f)[k * m + j]? = (f x)[j]?
  | [], _, _, _, h, _ => by simp at h
  | y :: r, 0, j, x, h, hj => by
    simp at h; subst h
    rw [List.flatMap_cons, Nat.zero_mul, Nat.zero_add, List.getElem?_append_left (by rw [hf]; exact hj)]
  | y :: r, k + 1, j, x, h, hj => by
    rw [List.flatMap_cons, List.getElem?_append_right (by rw [hf, Nat.succ_mul]; omega), hf, show (k + 1) * m + j - m = k * m + j by rw [Nat.succ_mul]; omega]
    exact flat_at f m hf r k j x (by simpa using h) hj
theorem own_cellN {B n sz : Nat} {w : World} {e : TypeId} {v : Value} {xs : List Value} (h : w.ownsRow B e sz v n xs) {k : Nat} {u : Value} (hk : xs[k]? = some u) : ∃ g cap, v = .slice (some ⟨g, 0, none⟩) n cap ∧ n ≤ cap ∧ w.cell? ⟨g, k, none⟩ = some u := by
  obtain ⟨hl, ⟨hv, hn⟩ | ⟨g, cap, cur, hv, hb, hg, hc, hm, hs, ht⟩⟩ := h
  · rw [hn, Nat.zero_mul] at hl
    rw [List.eq_nil_of_length_eq_zero hl] at hk
    simp at hk
  · refine ⟨g, cap, hv, hc, ?_⟩
    rw [cell_atL hg]
    rw [← ht, List.getElem?_take] at hk
    split at hk
    · simpa using hk
    · cases hk
theorem OwT.insA {w : World} {B : Nat} {a : Option Addr} {cp : Nat} {T : List Ins} (h : OwT w B (.slice a T.length cp) T) : InsA w a T := by
  cases T with
  | nil => exact .inl rfl
  | cons y r =>
    have key : ∀ k x j u, (y :: r)[k]? = some x → j < 5 → x.cs[j]? = some u → ∃ g, a = some ⟨g, 0, none⟩ ∧ w.cell? ⟨g, k * 5 + j, none⟩ = some u := fun k x j u hx hj hu => by
      obtain ⟨g, cap, hv, hc, d⟩ := own_cellN h (k := k * 5 + j) (u := u) (by unfold insV; rw [flat_at Ins.cs 5 (fun _ => rfl) _ k j x hx hj]; exact hu)
      simp only [Value.slice.injEq] at hv
      exact ⟨g, hv.1, d⟩
    obtain ⟨g, ha, _⟩ := key 0 y 0 _ rfl (by omega) rfl
    refine .inr ⟨g, 0, ha, fun k x hx => ?_⟩
    have get : ∀ j u, j < 5 → x.cs[j]? = some u → w.cell? ⟨g, k * 5 + j, none⟩ = some u := fun j u hj hu => by
      obtain ⟨g', ha', d⟩ := key k x j u hx hj hu
      rw [ha] at ha'; cases ha'; exact d
    rw [Nat.zero_add]
    exact ⟨get 0 _ (by omega) rfl, get 1 _ (by omega) rfl, get 2 _ (by omega) rfl, get 3 _ (by omega) rfl, get 4 _ (by omega) rfl⟩
theorem OwD.tdA {w : World} {B : Nat} {a : Option Addr} {cp : Nat} {T : List Td} (h : OwD w B (.slice a T.length cp) T) : TdA w a T := by
  cases T with
  | nil => exact .inl rfl
  | cons y r =>
    have key : ∀ k x j u, (y :: r)[k]? = some x → j < 5 → x.cs[j]? = some u → ∃ g, a = some ⟨g, 0, none⟩ ∧ w.cell? ⟨g, k * 5 + j, none⟩ = some u := fun k x j u hx hj hu => by
      obtain ⟨g, cap, hv, hc, d⟩ := own_cellN h (k := k * 5 + j) (u := u) (by unfold tdV; rw [flat_at Td.cs 5 (fun _ => rfl) _ k j x hx hj]; exact hu)
      simp only [Value.slice.injEq] at hv
      exact ⟨g, hv.1, d⟩
    obtain ⟨g, ha, _⟩ := key 0 y 0 _ rfl (by omega) rfl
    refine .inr ⟨g, 0, ha, fun k x hx => ?_⟩
    have get : ∀ j u, j < 5 → x.cs[j]? = some u → w.cell? ⟨g, k * 5 + j, none⟩ = some u := fun j u hj hu => by
      obtain ⟨g', ha', d⟩ := key k x j u hx hj hu
      rw [ha] at ha'; cases ha'; exact d
    rw [Nat.zero_add]
    exact ⟨get 0 _ (by omega) rfl, get 1 _ (by omega) rfl, get 2 _ (by omega) rfl, get 3 _ (by omega) rfl, get 4 _ (by omega) rfl⟩
theorem OwF.fnA {w : World} {B : Nat} {a : Option Addr} {cp : Nat} {T : List Fn} (h : OwF w B (.slice a T.length cp) T) : FnA w a T := by
  cases T with
  | nil => exact .inl rfl
  | cons y r =>
    have key : ∀ k x j u, (y :: r)[k]? = some x → j < 4 → x.cs[j]? = some u → ∃ g, a = some ⟨g, 0, none⟩ ∧ w.cell? ⟨g, k * 4 + j, none⟩ = some u := fun k x j u hx hj hu => by
      obtain ⟨g, cap, hv, hc, d⟩ := own_cellN h (k := k * 4 + j) (u := u) (by unfold fnV; rw [flat_at Fn.cs 4 (fun _ => rfl) _ k j x hx hj]; exact hu)
      simp only [Value.slice.injEq] at hv
      exact ⟨g, hv.1, d⟩
    obtain ⟨g, ha, _⟩ := key 0 y 0 _ rfl (by omega) rfl
    refine .inr ⟨g, 0, ha, fun k x hx => ?_⟩
    have get : ∀ j u, j < 4 → x.cs[j]? = some u → w.cell? ⟨g, k * 4 + j, none⟩ = some u := fun j u hj hu => by
      obtain ⟨g', ha', d⟩ := key k x j u hx hj hu
      rw [ha] at ha'; cases ha'; exact d
    rw [Nat.zero_add]
    exact ⟨get 0 _ (by omega) rfl, get 1 _ (by omega) rfl, get 2 _ (by omega) rfl, get 3 _ (by omega) rfl⟩
set_option maxHeartbeats 1000000 in
theorem passes_any (w : World) : Calls Tryz.prog 31 #[] w fun e w' => e = .returned (.slice (some ⟨w.heap.size, 0, none⟩) 4 4) ∧ w' = w.alloc (.cells #[.func (.func 64) #[] #[], .func (.func 65) #[] #[], .func (.func 66) #[] #[], .func (.func 67) #[] #[]] 100) := by
  go_enter Tryz.func31, Tryz.ntmps31
  go_wp2
  go_ret
  exact ⟨rfl, rfl⟩
theorem hd_size {l : List UInt8} (h : hdF l = none) : 28 ≤ l.length ∧ 28 + 8 * g4 l 8 + 16 * g4 l 12 + 20 * g4 l 16 + g4 l 20 = l.length := by
  unfold hdF at h
  split at h
  · cases h
  · rename_i h1
    split at h
    · cases h
    · split at h
      · cases h
      · rename_i h3
        simp only [ne_eq, Decidable.not_not] at h3
        unfold sizP at h3
        exact ⟨by omega, h3⟩
theorem hd_lim {l : List UInt8} (h : hdF l = none) : l.length ≤ 1000000000000 := by
  have := hd_size h
  have := g4_lt l 8; have := g4_lt l 12; have := g4_lt l 16; have := g4_lt l 20
  omega
theorem txR_len (l : List UInt8) : ∀ (j p : Nat) (T : List Ins), txR l j p = .ok T → T.length ≤ j
  | 0, p, T, h => by rw [txR] at h; cases h; simp
  | 1, p, T, h => by
    rw [txR.eq_def] at h
    dsimp only at h
    split at h
    · cases h
    · cases hr : txR l 0 (p + 8) with
      | error q => rw [hr] at h; cases h
      | ok R => rw [hr] at h; cases h; have := txR_len l 0 (p + 8) R hr; simp only [List.length_cons]; omega
  | j + 2, p, T, h => by
    rw [txR.eq_def] at h
    dsimp only at h
    split at h
    · split at h
      · cases h
      · cases hr : txR l j (p + 16) with
        | error q => rw [hr] at h; cases h
        | ok R => rw [hr] at h; cases h; have := txR_len l j (p + 16) R hr; simp only [List.length_cons]; omega
    · cases hr : txR l (j + 1) (p + 8) with
      | error q => rw [hr] at h; cases h
      | ok R => rw [hr] at h; cases h; have := txR_len l (j + 1) (p + 8) R hr; simp only [List.length_cons]; omega
theorem own_cap {B n sz cp : Nat} {w : World} {e : TypeId} {ad : Addr} {xs : List Value} (h : w.ownsRow B e sz (.slice (some ad) n cp) n xs) : n ≤ cp := by
  obtain ⟨hl, ⟨hv, hn⟩ | ⟨g, cap, cur, hv, hb, hg, hc, hm, hs, ht⟩⟩ := h
  · cases hv
  · cases hv; exact hc
def r0S : Rs := ⟨0, 0, 0, 0, 0, 0, .pointer none, 0, .slice none 0 0, .slice none 0 0, .slice none 0 0, 0⟩
def r1S (l : List UInt8) : Rs := ⟨28, g4 l 8, g4 l 12, g4 l 16, g4 l 20, g4 l 24, .pointer none, 0, .slice none 0 0, .slice none 0 0, .slice none 0 0, g4 l 24⟩
def St1 (l : List UInt8) (p g go n c : Nat) (w : World) : Prop := hdF l = none ∧ RdA w p g go n c l (r1S l)
def St2 (l : List UInt8) (p g go n c : Nat) (w : World) : Prop := hdF l = none ∧ ∃ T ga cp, txR l (g4 l 8) 28 = .ok T ∧ RdA w p g go n c l { r1S l with o := 28 + 8 * g4 l 8, tv := .slice (some ⟨ga, 0, none⟩) T.length cp } ∧ OwT w (p + 1) (.slice (some ⟨ga, 0, none⟩) T.length cp) T
def St3 (l : List UInt8) (p g go n c : Nat) (w : World) : Prop := hdF l = none ∧ ∃ T ga cp N q tb, txR l (g4 l 8) 28 = .ok T ∧ rdP (l.drop (n - g4 l 20)) = (some N, q) ∧ szF 1 N = g4 l 20 ∧ RdA w p g go n c l { r1S l with o := 28 + 8 * g4 l 8, tv := .slice (some ⟨ga, 0, none⟩) T.length cp, nm := .pointer (some ⟨tb, 0, none⟩), nx := 1 } ∧ OwT w (p + 1) (.slice (some ⟨ga, 0, none⟩) T.length cp) T ∧ Tab tb w N (fun k => p + 1 ≤ k)
def St4 (l : List UInt8) (p g go n c : Nat) (w : World) : Prop := ∃ (m : Img) (ga cp : Nat) (fa : Option Addr) (fc : Nat) (da : Option Addr) (dc : Nat) (r : Rs), pasR l = .ok m ∧ RdA w p g go n c l { r with tv := .slice (some ⟨ga, 0, none⟩) m.T.length cp, fv := .slice fa m.F.length fc, dv := .slice da m.D.length dc } ∧ m.en = r.en ∧ OwT w (p + 1) (.slice (some ⟨ga, 0, none⟩) m.T.length cp) m.T ∧ OwF w (p + 1) (.slice fa m.F.length fc) m.F ∧ OwD w (p + 1) (.slice da m.D.length dc) m.D
def PsE (l : List UInt8) (p : Nat) (S : World → Prop) (w : World) (e : Ending) (w' : World) : Prop := ((∃ q : Nat, pasR l = .error q ∧ e = .returned (.tuple #[.int .i64 (q : Nat), .bool true])) ∨ (∃ q : Int, e = .returned (.tuple #[.int .i64 q, .bool false]) ∧ S w')) ∧ Chg (fun k => k = p) w w'
theorem pass1 (w : World) (p g go n c : Nat) (l : List UInt8) (h : RdA w p g go n c l r0S) (hn : n ≤ 281474976710656) : Calls Tryz.prog 64 #[.pointer (some ⟨p, 0, none⟩)] w (PsE l p (St1 l p g go n c) w) := by
  refine (takeHead_any w p g go n c l r0S h hn).mono ?_
  intro e w' ⟨h1, h2⟩
  refine ⟨?_, h2⟩
  cases hh : hdF l with
  | some q => rw [hh] at h1; exact .inl ⟨q, by unfold pasR; rw [hh], h1⟩
  | none => rw [hh] at h1; exact .inr ⟨8, h1.1, hh, h1.2⟩
theorem pass2 (w : World) (p g go n c : Nat) (l : List UInt8) (h : St1 l p g go n c w) (hT : Tb64 w) (hp1 : ¬ 1 = p) (hn : n ≤ 1000000000000) : Calls Tryz.prog 65 #[.pointer (some ⟨p, 0, none⟩)] w (PsE l p (St2 l p g go n c) w) := by
  obtain ⟨hh, hr⟩ := h
  have hz := hd_size hh
  have hl := hr.l_
  refine (takeText_any w p g go n c l (r1S l) hr hT hp1 (by show 28 + 8 * g4 l 8 ≤ n; omega) hn).mono ?_
  intro e w' ⟨h1, h2⟩
  refine ⟨?_, h2⟩
  cases ht : txR l (g4 l 8) 28 with
  | error q =>
    rw [show txR l (r1S l).s (r1S l).o = .error q from ht] at h1
    exact .inl ⟨q, by unfold pasR; rw [hh]; dsimp only; rw [ht], h1⟩
  | ok T =>
    rw [show txR l (r1S l).s (r1S l).o = .ok T from ht] at h1
    obtain ⟨he, ga, cp, hr', ho⟩ := h1
    exact .inr ⟨0, he, hh, T, ga, cp, ht, hr', own_base ho (by have := hr.pl; omega)⟩
theorem pass3 (w : World) (p g go n c : Nat) (l : List UInt8) (h : St2 l p g go n c w) (hn : n ≤ 1000000000000) : Calls Tryz.prog 66 #[.pointer (some ⟨p, 0, none⟩)] w (PsE l p (St3 l p g go n c) w) := by
  obtain ⟨hh, T, ga, cp, ht, hr, ho⟩ := h
  have hz := hd_size hh
  have hl := hr.l_
  refine (takeNames_any w p g go n c l _ hr (by show g4 l 20 ≤ n; omega) hn).mono ?_
  intro e w' ⟨h1, h2⟩
  refine ⟨?_, h2⟩
  have h1 : (match rdP (l.drop (n - g4 l 20)) with
   | (none, q) => e = .returned (.tuple #[.int .i64 ((n - g4 l 20 + q : Nat) : Int), .bool true])
   | (some N, _) => e = .returned (.tuple #[.int .i64 ((n - g4 l 20 : Nat) : Int), .bool false]) ∧ szF 1 N = g4 l 20 ∧ ∃ tb, RdA w' p g go n c l { r1S l with o := 28 + 8 * g4 l 8, tv := .slice (some ⟨ga, 0, none⟩) T.length cp, nm := .pointer (some ⟨tb, 0, none⟩), nx := 1 } ∧ Tab tb w' N (fun k => w.heap.size ≤ k)) := h1
  obtain ⟨rN, q, hrd⟩ : ∃ rN q, rdP (l.drop (n - g4 l 20)) = (rN, q) := ⟨_, _, rfl⟩
  rw [hrd] at h1
  cases rN with
  | none =>
    refine .inl ⟨_, ?_, h1⟩
    unfold pasR; rw [hh]; dsimp only; rw [ht]; dsimp only; rw [hl, hrd]
  | some N =>
    obtain ⟨he, hsz, tb, hr', nv, sv, mv, t, hf⟩ := h1
    have hpl := hr.pl
    exact .inr ⟨_, he, hh, T, ga, cp, N, q, tb, ht, hrd, hsz, hr', owns_chg ho (fun k hk e => by have := (ho.lt k hk).1; omega) h2, nv, sv, mv, t, fun k hk => by have := hf k hk; omega⟩
theorem pass4 (w : World) (p g go n c : Nat) (l : List UInt8) (h : St3 l p g go n c w) (hn : n ≤ 1000000000000) : Calls Tryz.prog 67 #[.pointer (some ⟨p, 0, none⟩)] w (PsE l p (St4 l p g go n c) w) := by
  obtain ⟨hh, T, ga, cp, N, q, tb, ht, hrd, hsz, hr, ho, htb⟩ := h
  have hz := hd_size hh
  have hl := hr.l_
  have hTl := txR_len l _ _ _ ht
  have hga : ¬ ga = p := by
    have := (ho.lt ga rfl).1; omega
  refine (takeEntries_any w p g go n c l _ hr tb rfl N _ htb (fun k hk e => by omega) (by omega) (by show 1 ≤ szF 1 N; have := szF_ge N 1; omega) T ga cp rfl ho.insA hga (own_cap ho) (by omega) (by show 28 + 8 * g4 l 8 + 16 * g4 l 12 + 20 * g4 l 16 ≤ n; omega) (by show g4 l 20 ≤ n; omega) hn).mono ?_
  intro e w' ⟨h1, h2⟩
  refine ⟨?_, h2⟩
  have h1 : (match fnR l N T (g4 l 12) (28 + 8 * g4 l 8) 0 0 1 with
   | .error q => e = .returned (.tuple #[.int .i64 (q : Nat), .bool true])
   | .ok (Fs, n1) => match tdR l N (g4 l 16) (28 + 8 * g4 l 8 + 16 * g4 l 12) n1 with
     | .error q => e = .returned (.tuple #[.int .i64 (q : Nat), .bool true])
     | .ok (D, n2) => e = .returned (.tuple #[.int .i64 ((n - g4 l 20 + n2 : Nat) : Int), .bool (decide (n2 < g4 l 20))]) ∧ ∃ fa fc da dc, RdA w' p g go n c l { r1S l with o := 28 + 8 * g4 l 8 + 16 * g4 l 12 + 20 * g4 l 16, tv := .slice (some ⟨ga, 0, none⟩) T.length cp, nm := .pointer (some ⟨tb, 0, none⟩), nx := n2, fv := .slice fa Fs.length fc, dv := .slice da D.length dc } ∧ OwF w' w.heap.size (.slice fa Fs.length fc) Fs ∧ OwD w' w.heap.size (.slice da D.length dc) D) := h1
  have hp : pasR l = enR l T N := by unfold pasR; rw [hh]; dsimp only; rw [ht]; dsimp only; rw [hl, hrd]
  cases hf : fnR l N T (g4 l 12) (28 + 8 * g4 l 8) 0 0 1 with
  | error q => rw [hf] at h1; exact .inl ⟨q, by rw [hp]; unfold enR; rw [hf], h1⟩
  | ok y =>
    obtain ⟨Fs, n1⟩ := y
    rw [hf] at h1
    dsimp only at h1
    cases hd : tdR l N (g4 l 16) (28 + 8 * g4 l 8 + 16 * g4 l 12) n1 with
    | error q => rw [hd] at h1; exact .inl ⟨q, by rw [hp]; unfold enR; rw [hf]; dsimp only; rw [hd], h1⟩
    | ok z =>
      obtain ⟨D, n2⟩ := z
      rw [hd] at h1
      dsimp only at h1
      obtain ⟨he, fa, fc, da, dc, hr', of', od'⟩ := h1
      by_cases hlt : n2 < g4 l 20
      · refine .inl ⟨l.length - g4 l 20 + n2, by rw [hp]; unfold enR; rw [hf]; dsimp only; rw [hd]; dsimp only; rw [if_pos hlt], ?_⟩
        rw [he, hl]; simp [hlt]
      · have hpl := hr.pl
        refine .inr ⟨_, by rw [he]; simp only [hlt, decide_false]; rfl, ⟨T, Fs, D, g4 l 24⟩, ga, cp, fa, fc, da, dc, { r1S l with o := 28 + 8 * g4 l 8 + 16 * g4 l 12 + 20 * g4 l 16, nm := .pointer (some ⟨tb, 0, none⟩), nx := n2 }, ?_, hr', rfl, owns_chg ho (fun k hk e => by have := (ho.lt k hk).1; omega) h2, own_base of' (by omega), own_base od' (by omega)⟩
        rw [hp]; unfold enR; rw [hf]; dsimp only; rw [hd]; dsimp only; rw [if_neg hlt]
end Go.Proofs.YthififblejbleaaGreatDoor
