import Derived.Test.YthdgmhohofakgaaGreatDoorHw1
import Derived.Test.YthdgmhohofakgaaGreatDoorImm
import Derived.Test.YthdgmhohofakgaaGreatDoorImf
import Derived.Test.YthdgmhohofakgaaGreatDoorIml
namespace Go.Proofs.YthdgmhohofakgaaGreatDoor
open Go.RowKit
set_option linter.unusedVariables false
set_option linter.unusedSimpArgs false
theorem own_base {B B' sz n : Nat} {w : World} {e : TypeId} {v : Value} {xs : List Value} (h : w.ownsRow B e sz v n xs) (hb : B' ≤ B) : w.ownsRow B' e sz v n xs := by
  obtain ⟨h1, h2 | ⟨g, cap, cur, h3, h4, h5⟩⟩ := h
  · exact ⟨h1, .inl h2⟩
  · exact ⟨h1, .inr ⟨g, cap, cur, h3, Nat.le_trans hb h4, h5⟩⟩
/-- what takeEntries leaves -/
def enE (l : List UInt8) (p g go n c : Nat) (w : World) (r : Rs) (N : List (List UInt8)) (T : List Ins) (e : Ending) (w' : World) : Prop :=
  (match fnR l N T r.f r.o 0 0 r.nx with
   | .error q => e = .returned (.tuple #[.int .i64 (q : Nat), .bool true])
   | .ok (Fs, n1) => match tdR l N r.d (r.o + 16 * r.f) n1 with
     | .error q => e = .returned (.tuple #[.int .i64 (q : Nat), .bool true])
     | .ok (D, n2) => e = .returned (.tuple #[.int .i64 ((n - r.n + n2 : Nat) : Int), .bool (decide (n2 < r.n))]) ∧ ∃ fa fc da dc, RdA w' p g go n c l { r with o := r.o + 16 * r.f + 20 * r.d, nx := n2, fv := .slice fa Fs.length fc, dv := .slice da D.length dc } ∧ OwF w' w.heap.size (.slice fa Fs.length fc) Fs ∧ OwD w' w.heap.size (.slice da D.length dc) D) ∧ Chg (fun k => k = p) w w'
set_option maxRecDepth 8000 in
set_option maxHeartbeats 1000000 in
theorem takeEntries_any (w : World) (p g go n c : Nat) (l : List UInt8) (r : Rs) (h : RdA w p g go n c l r) (tb : Nat) (htb : r.nm = .pointer (some ⟨tb, 0, none⟩)) (N : List (List UInt8)) (F : Nat → Prop) (hT : Tab tb w N F) (hF : ∀ k, F k → ¬ k = p) (hsz : szF 1 N ≤ 1000000000000) (hnx : r.nx ≤ szF 1 N) (T : List Ins) (ga tcp : Nat) (htv : r.tv = .slice (some ⟨ga, 0, none⟩) T.length tcp) (hIA : InsA w (some ⟨ga, 0, none⟩) T) (hgp : ¬ ga = p) (htc : T.length ≤ tcp) (hTl : T.length ≤ 1000000000000) (hr : r.o + 16 * r.f + 20 * r.d ≤ n) (hrn : r.n ≤ n) (hn : n ≤ 1000000000000) : Calls Tryz.prog 43 #[.pointer (some ⟨p, 0, none⟩)] w (enE l p g go n c w r N T) := by
  have hpl := h.pl
  have hgl := h.gl
  have CF := hidOf (takeFuncs_any w p g go n c l r h tb htb N F hT hF hsz hnx T ga tcp htv hIA hgp htc hTl (by omega) hn)
  obtain ⟨o, s, f, d, nn, eh, nm, nx, tv, fv, dv, en⟩ := r
  simp only at hr htb hnx htv hrn
  subst htb
  subst htv
  have HT := hidOf hT
  clear h hT hIA
  unfold fnE at CF
  dsimp only at CF
  cases hf : fnR l N T f o 0 0 nx with
  | error q =>
    rw [hf] at CF
    go_enter Tryz.func43, Tryz.ntmps43
    go_wp2_with (go_at_call 60; refine CF.out.mono ?_; rintro e w1 ⟨rfl, k1⟩)
    go_ret2
    unfold enE
    simp only [hf]
    exact ⟨rfl, k1⟩
  | ok y =>
    obtain ⟨Fs, n1⟩ := y
    rw [hf] at CF
    have CF' : Hid (Calls Tryz.prog 60 #[.pointer (some ⟨p, 0, none⟩)] w fun e w' => e = .returned (.tuple #[.int .i64 0, .bool false]) ∧ (∃ a cp, RdA w' p g go n c l ⟨o + 16 * f, s, f, d, nn, eh, .pointer (some ⟨tb, 0, none⟩), n1, .slice (some ⟨ga, 0, none⟩) T.length tcp, .slice a Fs.length cp, dv, en⟩ ∧ OwF w' w.heap.size (.slice a Fs.length cp) Fs ∧ n1 ≤ szF 1 N) ∧ Chg (fun k => k = p) w w') := hidOf (CF.out.mono (fun e w' h => ⟨h.1.1, h.1.2, h.2⟩))
    clear CF
    go_enter Tryz.func43, Tryz.ntmps43
    go_upto_region 4 with (go_at_call 60; refine CF'.out.mono ?_; rintro e w1 ⟨rfl, ⟨fa, fc, r1, of1, hn1⟩, k1⟩)
    have CD := hidOf (takeTables_any w1 p g go n c l _ r1 tb rfl N F (HT.out.chg k1 hF) hF hsz hn1 hr hn)
    have OF1 := hidOf of1
    have K1 := hidOf k1
    have hs1 : w.heap.size ≤ w1.heap.size := k1.size
    clear CF' r1 of1 k1 HT
    unfold tdE at CD
    dsimp only at CD
    cases hd : tdR l N d (o + 16 * f) n1 with
    | error q =>
      rw [hd] at CD
      go_wp2_with (go_at_call 61; refine CD.out.mono ?_; rintro e w2 ⟨rfl, k2⟩)
      go_ret2
      unfold enE
      simp only [hf, hd]
      exact ⟨rfl, K1.out.trans k2 (fun x h _ => h)⟩
    | ok z =>
      obtain ⟨D, n2⟩ := z
      rw [hd] at CD
      have CD' : Hid (Calls Tryz.prog 61 #[.pointer (some ⟨p, 0, none⟩)] w1 fun e w' => e = .returned (.tuple #[.int .i64 0, .bool false]) ∧ (∃ a cp, RdA w' p g go n c l ⟨o + 16 * f + 20 * d, s, f, d, nn, eh, .pointer (some ⟨tb, 0, none⟩), n2, .slice (some ⟨ga, 0, none⟩) T.length tcp, .slice fa Fs.length fc, .slice a D.length cp, en⟩ ∧ OwD w' w1.heap.size (.slice a D.length cp) D ∧ n2 ≤ szF 1 N) ∧ Chg (fun k => k = p) w1 w') := hidOf (CD.out.mono (fun e w' h => ⟨h.1.1, h.1.2, h.2⟩))
      clear CD
      go_upto_region 7 with (go_at_call 61; refine CD'.out.mono ?_; rintro e w2 ⟨rfl, ⟨da, dc, r2, od2, hn2⟩, k2⟩)
      have R2 := hidOf r2
      have K2 := hidOf (K1.out.trans k2 (fun x h _ => h))
      have OD2 : Hid (OwD w2 w.heap.size (.slice da D.length dc) D) := hidOf (own_base od2 hs1)
      have OF2 : Hid (OwF w2 w.heap.size (.slice fa Fs.length fc) Fs) := hidOf (owns_chg OF1.out (fun k hk e => by have := (OF1.out.lt k hk).1; omega) k2)
      have c9 : w2.cell? ⟨p, 9, none⟩ = some (.int .i64 (n2 : Nat)) := r2.cell 9 _ rfl
      have c6 : w2.cell? ⟨p, 6, none⟩ = some (.int .i64 (nn : Nat)) := r2.cell 6 _ rfl
      obtain ⟨k, hk⟩ : ∃ k, Hid (k = n - nn) := ⟨_, rfl⟩
      have hkb : k ≤ n := by rw [hk.out]; omega
      have CS : Hid (∀ wx, Eqh w2 wx → Calls Tryz.prog 59 #[.pointer (some ⟨p, 0, none⟩)] wx fun e w' => e = .returned (.int .i64 (k : Nat)) ∧ Eqh w2 w') := hidOf (fun wx hx => by
        refine (stringsAt_any wx p g go n c l _ (R2.out.eqh hx) hrn hn).mono ?_
        rintro e w' ⟨rfl, m, rfl⟩
        rw [← hk.out]
        exact ⟨rfl, hx.of_drewN m⟩)
      have wk : IntKind.i64.wrap ((k : Int) + (n2 : Int)) = (k : Int) + (n2 : Int) := by rw [wrap64_eq17]; unfold wrap64; omega
      clear CD' r2 od2 k2 K1 OF1
      go_region_held3 (fun wx => wx.cell? ⟨p, 9, none⟩ = some (.int .i64 (n2 : Nat)) ∧ wx.cell? ⟨p, 6, none⟩ = some (.int .i64 (nn : Nat))) (first | go_keep | assumption | exact ⟨(q3.cell ⟨p, 9, none⟩).trans c9, (q3.cell ⟨p, 6, none⟩).trans c6⟩) (first | (go_at_call 59; refine (CS.out _ (by first | exact Eqh.refl _ | exact Eqh.drew _)).mono ?_; rintro e w3 ⟨rfl, q3⟩))
      go_wp2
      go_ret2
      unfold enE
      simp only [hf, hd]
      refine ⟨⟨?_, fa, fc, da, dc, R2.out.eqh q3, ?_, ?_⟩, K2.out.trans (T := fun _ => False) (Chg.of_out q3.out) (fun _ h _ => h.elim)⟩
      · rw [← hk.out]
        exact rfl
      · exact owns_chg (S := fun _ => False) OF2.out (fun _ _ h => h) (Chg.of_out q3.out)
      · exact owns_chg (S := fun _ => False) OD2.out (fun _ _ h => h) (Chg.of_out q3.out)
end Go.Proofs.YthdgmhohofakgaaGreatDoor
namespace Go.Proofs.YthdgmhohofakgaaGreatDoor
open Go.RowKit
set_option linter.unusedVariables false
set_option linter.unusedSimpArgs false
/-- the head within the reader: its fields, its size -/
theorem headFields3 (h : Nat) (w : World) : Calls Tryz.prog 49 #[.pointer (some ⟨h, 3, none⟩)] w fun e w' => ∃ q, e = .returned (.slice (some ⟨q, 0, none⟩) 5 5) ∧ w.heap.size ≤ q ∧ q < w'.heap.size ∧ (∀ i, i < 5 → w'.cell? ⟨q, i, none⟩ = some (.pointer (some ⟨h, 3 + i, none⟩))) ∧ Out w w' := by
  go_enter Tryz.func49, Tryz.ntmps49
  go_upto_region 1 with fail
  go_region_held3 (fun _ => True) (trivial) (fail)
  go_wp2
  go_ret
  refine ⟨_, rfl, Nat.le_refl _, ?_, ?_, ?_⟩
  · simp
  · intro i hi
    obtain rfl | rfl | rfl | rfl | rfl : i = 0 ∨ i = 1 ∨ i = 2 ∨ i = 3 ∨ i = 4 := by omega
    all_goals exact cell_fresh _ _ _ _ _ rfl
  · first | exact Out.alloc (Out.drew (Out.refl _)) _ | exact Out.drew (Out.alloc (Out.drew (Out.refl _)) _)
theorem headSize3 (h : Nat) (w : World) (s f d n : Nat) (c0 : w.cell? ⟨h, 3, none⟩ = some (.int .i64 s)) (c1 : w.cell? ⟨h, 4, none⟩ = some (.int .i64 f)) (c2 : w.cell? ⟨h, 5, none⟩ = some (.int .i64 d)) (c3 : w.cell? ⟨h, 6, none⟩ = some (.int .i64 n)) (hs : s < 4294967296) (hf : f < 4294967296) (hd : d < 4294967296) (hn : n < 4294967296) : Calls Tryz.prog 47 #[.pointer (some ⟨h, 3, none⟩)] w fun e w' => e = .returned (.int .i64 (sizP s f d n : Nat)) ∧ ∃ m, w' = w.drewN m := by
  have e1 : ((sizP s f d n : Nat) : Int) = 28 + 8 * (s : Int) + 16 * (f : Int) + 20 * (d : Int) + (n : Int) := by unfold sizP; omega
  rw [e1]
  have g1 : (s : Int) < 4294967296 := by omega
  have g2 : (f : Int) < 4294967296 := by omega
  have g3 : (d : Int) < 4294967296 := by omega
  have g4 : (n : Int) < 4294967296 := by omega
  go_enter Tryz.func47, Tryz.ntmps47
  go_upto_region 1 with fail
  go_quiet (fail)
  go_wp2
  go_ret
  exact ⟨rfl, _, rfl⟩
/-- the head's five numbers are taken up -/
theorem head_set {w : World} {p g go n c : Nat} {l : List UInt8} {r : Rs} (h : RdA w p g go n c l r) (ho : r.o = 8) : RdA (setN l p 8 [(p, 3), (p, 4), (p, 5), (p, 6), (p, 7)] w) p g go n c l { r with o := 28, s := g4 l 8, f := g4 l 12, d := g4 l 16, n := g4 l 20, e := g4 l 24 } := by
  obtain ⟨o, s, f, d, nn, eh, nm, nx, tv, fv, dv, en⟩ := r
  simp only at ho
  subst ho
  simp only [setN, stepN]
  have a1 := (h.set (r' := ⟨8, g4 l 8, f, d, nn, eh, nm, nx, tv, fv, dv, en⟩) 3 (.int .i64 (g4 l 8 : Nat)) rfl).set (r' := ⟨12, g4 l 8, f, d, nn, eh, nm, nx, tv, fv, dv, en⟩) 1 (.int .i64 ((8 : Nat) + 4)) rfl
  have a2 := (a1.set (r' := ⟨12, g4 l 8, g4 l 12, d, nn, eh, nm, nx, tv, fv, dv, en⟩) 4 (.int .i64 (g4 l 12 : Nat)) rfl).set (r' := ⟨16, g4 l 8, g4 l 12, d, nn, eh, nm, nx, tv, fv, dv, en⟩) 1 (.int .i64 ((12 : Nat) + 4)) rfl
  have a3 := (a2.set (r' := ⟨16, g4 l 8, g4 l 12, g4 l 16, nn, eh, nm, nx, tv, fv, dv, en⟩) 5 (.int .i64 (g4 l 16 : Nat)) rfl).set (r' := ⟨20, g4 l 8, g4 l 12, g4 l 16, nn, eh, nm, nx, tv, fv, dv, en⟩) 1 (.int .i64 ((16 : Nat) + 4)) rfl
  have a4 := (a3.set (r' := ⟨20, g4 l 8, g4 l 12, g4 l 16, g4 l 20, eh, nm, nx, tv, fv, dv, en⟩) 6 (.int .i64 (g4 l 20 : Nat)) rfl).set (r' := ⟨24, g4 l 8, g4 l 12, g4 l 16, g4 l 20, eh, nm, nx, tv, fv, dv, en⟩) 1 (.int .i64 ((20 : Nat) + 4)) rfl
  exact (a4.set (r' := ⟨24, g4 l 8, g4 l 12, g4 l 16, g4 l 20, g4 l 24, nm, nx, tv, fv, dv, en⟩) 7 (.int .i64 (g4 l 24 : Nat)) rfl).set (r' := ⟨28, g4 l 8, g4 l 12, g4 l 16, g4 l 20, g4 l 24, nm, nx, tv, fv, dv, en⟩) 1 (.int .i64 ((24 : Nat) + 4)) rfl
theorem numH (w w8 : World) (p g go n c q : Nat) (l : List UInt8) (r : Rs) (h : RdA w p g go n c l r) (ho : r.o = 8) (o8 : Out w w8) (hq : w.heap.size ≤ q) (hcq : ∀ i, i < 5 → w8.cell? ⟨q, i, none⟩ = some (.pointer (some ⟨p, 3 + i, none⟩))) (hr : 28 ≤ n) (hn : n ≤ 281474976710656) : Calls Tryz.prog 48 #[.pointer (some ⟨p, 0, none⟩), .slice (some ⟨q, 0, none⟩) 5 5] w8 fun e w' => (∃ v, e = .returned v) ∧ RdA w' p g go n c l { r with o := 28, s := g4 l 8, f := g4 l 12, d := g4 l 16, n := g4 l 20, e := g4 l 24 } ∧ Chg (fun k => k = p) w w' := by
  have h8 := h.out o8
  have hpl := h.pl
  have hgl := h.gl
  refine (numbersR_any w8 p g go n c 8 q l [(p, 3), (p, 4), (p, 5), (p, 6), (p, 7)] h.l_ h8.bt h.nc (h8.cell 0 _ rfl) (by have := h8.cell 1 (.int .i64 (r.o : Nat)) rfl; rw [ho] at this; exact this) (h8.cell 2 _ rfl) (h8.frozen 1) (fun i y hy => by
    rcases i with _ | _ | _ | _ | _ | i
    · simp at hy; subst hy; exact hcq 0 (by omega)
    · simp at hy; subst hy; exact hcq 1 (by omega)
    · simp at hy; subst hy; exact hcq 2 (by omega)
    · simp at hy; subst hy; exact hcq 3 (by omega)
    · simp at hy; subst hy; exact hcq 4 (by omega)
    · simp at hy) (fun y hy => by
    simp at hy
    have e3 := h8.cell 3 _ rfl
    have e4 := h8.cell 4 _ rfl
    have e5 := h8.cell 5 _ rfl
    have e6 := h8.cell 6 _ rfl
    have e7 := h8.cell 7 _ rfl
    rcases hy with rfl | rfl | rfl | rfl | rfl
    · exact ⟨by rw [e3]; rfl, h8.frozen _, h.pg, by simp; omega, by simp⟩
    · exact ⟨by rw [e4]; rfl, h8.frozen _, h.pg, by simp; omega, by simp⟩
    · exact ⟨by rw [e5]; rfl, h8.frozen _, h.pg, by simp; omega, by simp⟩
    · exact ⟨by rw [e6]; rfl, h8.frozen _, h.pg, by simp; omega, by simp⟩
    · exact ⟨by rw [e7]; rfl, h8.frozen _, h.pg, by simp; omega, by simp⟩) h.pg (by omega) (by simpa using hr) hn).mono ?_
  rintro e w' ⟨hv, he⟩
  refine ⟨hv, (head_set h8 ho).eqh he, ?_⟩
  have hc := setN_chg l p [(p, 3), (p, 4), (p, 5), (p, 6), (p, 7)] 8 w8
  exact he.chg ((Chg.of_out (S := fun k => k = p) o8).trans hc (fun x hx _ => by
    rcases hx with e | ⟨y, hy, e⟩
    · exact e
    · simp at hy; rcases hy with rfl | rfl | rfl | rfl | rfl <;> exact e.symm))
/-- what takeHead leaves -/
def hdE (l : List UInt8) (p g go n c : Nat) (w : World) (r : Rs) (e : Ending) (w' : World) : Prop :=
  (match hdF l with
   | some q => e = .returned (.tuple #[.int .i64 (q : Nat), .bool true])
   | none => e = .returned (.tuple #[.int .i64 8, .bool false]) ∧ RdA w' p g go n c l { r with o := 28, s := g4 l 8, f := g4 l 12, d := g4 l 16, n := g4 l 20, e := g4 l 24, en := g4 l 24 }) ∧ Chg (fun k => k = p) w w'
set_option maxRecDepth 8000 in
set_option maxHeartbeats 2000000 in
theorem takeHead_any (w : World) (p g go n c : Nat) (l : List UInt8) (r : Rs) (h : RdA w p g go n c l r) (hn : n ≤ 281474976710656) : Calls Tryz.prog 40 #[.pointer (some ⟨p, 0, none⟩)] w (hdE l p g go n c w r) := by
  have H := hidOf h
  have hpl := h.pl
  have hgl := h.gl
  have hnc := h.nc
  have hl := hidOf h.l_
  obtain ⟨o, s, f, d, nn, eh, nm, nx, tv, fv, dv, en⟩ := r
  have c0 : w.cell? ⟨p, 0, none⟩ = some (.slice (some ⟨g, go, none⟩) n c) := h.cell 0 _ rfl
  clear h
  go_enter Tryz.func40, Tryz.ntmps40
  by_cases hsh : n < 28
  · have hsh' : (n : Int) < 28 := by omega
    go_wp2
    go_ret2
    have e0 : hdF l = some n := by unfold hdF; rw [hl.out, if_pos hsh]
    unfold hdE
    rw [e0]
    exact ⟨rfl, Chg.refl _ _⟩
  · have hsh' : ¬ (n : Int) < 28 := by omega
    go_wp2
    go_loopw [18] (fun v wr => ∃ k : Nat, k ≤ 8 ∧ v = .int .i64 (k : Nat) ∧ Hid (∀ j, j < k → (l.getD j 0 != opB.getD j 0) = false) ∧ Hid (Eqh w wr)) (fun v _ => 8 - (intOf v).toNat)
    case atStart => exact ⟨0, by omega, rfl, hidOf (fun j hj => by omega), hidOf (Eqh.refl _)⟩
    case round =>
      obtain ⟨k, hk, rfl, HK, HE⟩ := hrel
      have d0 : wr.cell? ⟨p, 0, none⟩ = some (.slice (some ⟨g, go, none⟩) n c) := (HE.out.cell _).trans c0
      by_cases hk8 : k < 8
      · have hlt : (k : Int) < 8 := by omega
        obtain ⟨x, hx⟩ : ∃ x, l[k]? = some x := ⟨_, List.getElem?_eq_getElem (by rw [hl.out]; omega)⟩
        have hxd : Hid (l.getD k 0 = x) := hidOf (by simp [hx])
        have b0 : wr.cell? ⟨g, go + k, none⟩ = some (.int .u8 (x.toNat : Int)) := (HE.out.cell _).trans (H.out.bt k x hx)
        have hkn : k < n := by omega
        go_upto_region 6 with fail
        go_quiet (fail)
        generalize hy : ({ data := #[83, 80, 73, 78, 1, 0, 0, 0] } : ByteArray)[k]'(by show k < 8; exact hk8) = y
        have hyo : Hid (opB.getD k 0 = y) := hidOf (by
          rw [← hy]
          obtain rfl | rfl | rfl | rfl | rfl | rfl | rfl | rfl : k = 0 ∨ k = 1 ∨ k = 2 ∨ k = 3 ∨ k = 4 ∨ k = 5 ∨ k = 6 ∨ k = 7 := by omega
          all_goals rfl)
        have E2 : Hid (Eqh w (wr.drewN nq)) := hidOf (HE.out.of_drewN nq)
        generalize wr.drewN nq = w2 at *
        clear hy hx b0 d0
        by_cases hxy : x = y
        · have hb : ((x.toNat : Int) != (y.toNat : Int)) = false := by rw [hxy]; simp
          rw [hb]
          have HK2 : Hid (∀ j, j < k + 1 → (l.getD j 0 != opB.getD j 0) = false) := hidOf (fun j hj => by
            rcases Nat.lt_or_ge j k with h | h
            · exact HK.out j h
            · obtain rfl : j = k := by omega
              rw [hxd.out, hyo.out, hxy]; simp)
          clear hb
          go_wp2
          go_roundw
          case rel => exact ⟨k + 1, by omega, by simp, HK2, E2⟩
          case measure => simp [intOf]; omega
        · have hb : ((x.toNat : Int) != (y.toNat : Int)) = true := by
            have : ¬ x.toNat = y.toNat := fun e => hxy (UInt8.toNat_inj.1 e)
            simp; omega
          rw [hb]
          have e0 : Hid (hdF l = some k) := hidOf (by
            unfold hdF
            rw [hl.out, if_neg hsh, fstB_some hk8 HK.out (by rw [hxd.out, hyo.out]; simp [hxy])])
          clear hb
          go_wp2
          go_ret2
          unfold hdE
          rw [e0.out]
          exact ⟨rfl, Chg.of_out E2.out.out⟩
      · have hlt : ¬ (k : Int) < 8 := by omega
        obtain rfl : k = 8 := by omega
        have R0 := hidOf (H.out.eqh HE.out)
        have C0 : Hid (Chg (fun k => k = p) w wr) := hidOf (Chg.of_out HE.out.out)
        have e1 : wr.cell? ⟨p, 1, none⟩ = some (.int .i64 (o : Nat)) := R0.out.cell 1 _ rfl
        have f1 := R0.out.frozen 1
        go_upto_region 10 with fail
        have R1 := hidOf (R0.out.set (r' := ⟨8, s, f, d, nn, eh, nm, nx, tv, fv, dv, en⟩) 1 (.int .i64 8) rfl)
        have C1 := hidOf (Chg.setP C0.out 1 (.int .i64 8))
        clear d0 e1 f1
        generalize wr.setCell ⟨p, 1, none⟩ (.int .i64 8) = w1 at *
        have NU : Hid (∀ w8 q, Out w1 w8 → w1.heap.size ≤ q → (∀ i, i < 5 → w8.cell? ⟨q, i, none⟩ = some (.pointer (some ⟨p, 3 + i, none⟩))) → Calls Tryz.prog 48 #[.pointer (some ⟨p, 0, none⟩), .slice (some ⟨q, 0, none⟩) 5 5] w8 fun e w' => (∃ v, e = .returned v) ∧ RdA w' p g go n c l ⟨28, g4 l 8, g4 l 12, g4 l 16, g4 l 20, g4 l 24, nm, nx, tv, fv, dv, en⟩ ∧ Chg (fun k => k = p) w1 w') := hidOf (fun w8 q o8 hq hcq => numH w1 w8 p g go n c q l _ R1.out rfl o8 hq hcq (by omega) hn)
        go_region_held3 (fun _ => True) (trivial) (first | (go_at_call 48; refine (NU.out _ _ o8 hq5 hcq).mono ?_; rintro e w9 ⟨⟨rv, rfl⟩, r9, k9⟩) | (go_at_call 49; refine (headFields3 _ _).mono ?_; rintro e w8 ⟨q, rfl, hq5, hq6, hcq, o8'⟩; have o8 : Out w1 w8 := (Out.drew (Out.refl _)).trans o8'))
        have R9 := hidOf r9
        have C9 := hidOf (C1.out.trans k9 (fun x h _ => h))
        clear r9 k9 NU o8 o8' hq5 hq6 hcq
        obtain ⟨ve, hve⟩ : ∃ ve, Hid (ve = g4 l 24) := ⟨_, rfl⟩
        have e7 : w9.cell? ⟨p, 7, none⟩ = some (.int .i64 (ve : Nat)) := by rw [hve.out]; exact R9.out.cell 7 _ rfl
        have e13 : w9.cell? ⟨p, 13, none⟩ = some (.int .i64 (en : Nat)) := R9.out.cell 13 _ rfl
        have f13 := R9.out.frozen 13
        go_upto_region 12 with fail
        have R10 : Hid (RdA (w9.setCell ⟨p, 13, none⟩ (.int .i64 (ve : Nat))) p g go n c l ⟨28, g4 l 8, g4 l 12, g4 l 16, g4 l 20, g4 l 24, nm, nx, tv, fv, dv, g4 l 24⟩) := hidOf (by rw [hve.out]; exact R9.out.set 13 _ rfl)
        have C10 := hidOf (Chg.setP C9.out 13 (.int .i64 (ve : Nat)))
        clear e7 e13 f13
        generalize w9.setCell ⟨p, 13, none⟩ (.int .i64 (ve : Nat)) = w10 at *
        obtain ⟨z, hz⟩ : ∃ z, Hid (z = sizP (g4 l 8) (g4 l 12) (g4 l 16) (g4 l 20)) := ⟨_, rfl⟩
        have CZ : Hid (∀ wx, Eqh w10 wx → Calls Tryz.prog 47 #[.pointer (some ⟨p, 3, none⟩)] wx fun e w' => e = .returned (.int .i64 (z : Nat)) ∧ Eqh w10 w') := hidOf (fun wx hx => by
          have hr := R10.out.eqh hx
          rw [hz.out]
          refine (headSize3 p wx (g4 l 8) (g4 l 12) (g4 l 16) (g4 l 20) (hr.cell 3 _ rfl) (hr.cell 4 _ rfl) (hr.cell 5 _ rfl) (hr.cell 6 _ rfl) (g4_lt17 l _) (g4_lt17 l _) (g4_lt17 l _) (g4_lt17 l _)).mono ?_
          rintro e w' ⟨rfl, m, rfl⟩
          exact ⟨rfl, hx.of_drewN m⟩)
        have e0 : w10.cell? ⟨p, 0, none⟩ = some (.slice (some ⟨g, go, none⟩) n c) := R10.out.cell 0 _ rfl
        have hF : Hid (hdF l = if z ≠ n then some 8 else none) := hidOf (by
          unfold hdF
          rw [hl.out, if_neg hsh, fstB_none HK.out, hz.out])
        go_region_held3 (fun wx => wx.cell? ⟨p, 0, none⟩ = some (.slice (some ⟨g, go, none⟩) n c)) (first | go_keep | assumption | exact (q3.cell ⟨p, 0, none⟩).trans e0) (first | (go_at_call 47; refine (CZ.out _ (by first | exact Eqh.refl _ | exact Eqh.drew _)).mono ?_; rintro e w3 ⟨rfl, q3⟩))
        go_wp2
        go_ret2
        refine ⟨?_, C10.out.trans (T := fun _ => False) (Chg.of_out q3.out) (fun _ h _ => h.elim)⟩
        rw [hF.out]
        by_cases hzn : z = n
        · rw [if_neg (by simp [hzn])]
          refine ⟨?_, R10.out.eqh q3⟩
          have hb : ((z : Int) != (n : Int)) = false := by simp [hzn]
          show Ending.returned (.tuple #[.int .i64 8, .bool ((z : Int) != (n : Int))]) = _
          rw [hb]
        · rw [if_pos hzn]
          have hb : ((z : Int) != (n : Int)) = true := by simp; omega
          show Ending.returned (.tuple #[.int .i64 8, .bool ((z : Int) != (n : Int))]) = _
          rw [hb]
          rfl
end Go.Proofs.YthdgmhohofakgaaGreatDoor
namespace Go.Proofs.YthdgmhohofakgaaGreatDoor
open Go.RowKit
set_option linter.unusedVariables false
set_option linter.unusedSimpArgs false
theorem flat_at {α : Type} (f : α → List Value) (m : Nat) (hf : ∀ x, (f x).length = m) : ∀ (T : List α) (k j : Nat) (x : α), T[k]? = some x → j < m → (T.flatMap f)[k * m + j]? = (f x)[j]?
  | [], _, _, _, h, _ => by simp at h
  | y :: r, 0, j, x, h, hj => by
    simp at h; subst h
    rw [List.flatMap_cons, Nat.zero_mul, Nat.zero_add, List.getElem?_append_left (by rw [hf]; exact hj)]
  | y :: r, k + 1, j, x, h, hj => by
    rw [List.flatMap_cons, List.getElem?_append_right (by rw [hf, Nat.succ_mul]; omega), hf, show (k + 1) * m + j - m = k * m + j by rw [Nat.succ_mul]; omega]
    exact flat_at f m hf r k j x (by simpa using h) hj
theorem own_cellN {B n sz : Nat} {w : World} {e : TypeId} {v : Value} {xs : List Value} (h : w.ownsRow B e sz v n xs) {k : Nat} {u : Value} (hk : xs[k]? = some u) : ∃ g cap, v = .slice (some ⟨g, 0, none⟩) n cap ∧ n ≤ cap ∧ w.cell? ⟨g, k, none⟩ = some u := by
  obtain ⟨hl, ⟨hv, hn⟩ | ⟨g, cap, cur, hv, hb, hg, hc, hm, hs, ht⟩⟩ := h
  · rw [hn, Nat.zero_mul] at hl
    rw [List.eq_nil_of_length_eq_zero hl] at hk
    simp at hk
  · refine ⟨g, cap, hv, hc, ?_⟩
    rw [cell_atL hg]
    rw [← ht, List.getElem?_take] at hk
    split at hk
    · simpa using hk
    · cases hk
theorem OwT.insA {w : World} {B : Nat} {a : Option Addr} {cp : Nat} {T : List Ins} (h : OwT w B (.slice a T.length cp) T) : InsA w a T := by
  cases T with
  | nil => exact .inl rfl
  | cons y r =>
    have key : ∀ k x j u, (y :: r)[k]? = some x → j < 5 → x.cs[j]? = some u → ∃ g, a = some ⟨g, 0, none⟩ ∧ w.cell? ⟨g, k * 5 + j, none⟩ = some u := fun k x j u hx hj hu => by
      obtain ⟨g, cap, hv, hc, d⟩ := own_cellN h (k := k * 5 + j) (u := u) (by unfold insV; rw [flat_at Ins.cs 5 (fun _ => rfl) _ k j x hx hj]; exact hu)
      simp only [Value.slice.injEq] at hv
      exact ⟨g, hv.1, d⟩
    obtain ⟨g, ha, _⟩ := key 0 y 0 _ rfl (by omega) rfl
    refine .inr ⟨g, 0, ha, fun k x hx => ?_⟩
    have get : ∀ j u, j < 5 → x.cs[j]? = some u → w.cell? ⟨g, k * 5 + j, none⟩ = some u := fun j u hj hu => by
      obtain ⟨g', ha', d⟩ := key k x j u hx hj hu
      rw [ha] at ha'; cases ha'; exact d
    rw [Nat.zero_add]
    exact ⟨get 0 _ (by omega) rfl, get 1 _ (by omega) rfl, get 2 _ (by omega) rfl, get 3 _ (by omega) rfl, get 4 _ (by omega) rfl⟩
theorem OwD.tdA {w : World} {B : Nat} {a : Option Addr} {cp : Nat} {T : List Td} (h : OwD w B (.slice a T.length cp) T) : TdA w a T := by
  cases T with
  | nil => exact .inl rfl
  | cons y r =>
    have key : ∀ k x j u, (y :: r)[k]? = some x → j < 5 → x.cs[j]? = some u → ∃ g, a = some ⟨g, 0, none⟩ ∧ w.cell? ⟨g, k * 5 + j, none⟩ = some u := fun k x j u hx hj hu => by
      obtain ⟨g, cap, hv, hc, d⟩ := own_cellN h (k := k * 5 + j) (u := u) (by unfold tdV; rw [flat_at Td.cs 5 (fun _ => rfl) _ k j x hx hj]; exact hu)
      simp only [Value.slice.injEq] at hv
      exact ⟨g, hv.1, d⟩
    obtain ⟨g, ha, _⟩ := key 0 y 0 _ rfl (by omega) rfl
    refine .inr ⟨g, 0, ha, fun k x hx => ?_⟩
    have get : ∀ j u, j < 5 → x.cs[j]? = some u → w.cell? ⟨g, k * 5 + j, none⟩ = some u := fun j u hj hu => by
      obtain ⟨g', ha', d⟩ := key k x j u hx hj hu
      rw [ha] at ha'; cases ha'; exact d
    rw [Nat.zero_add]
    exact ⟨get 0 _ (by omega) rfl, get 1 _ (by omega) rfl, get 2 _ (by omega) rfl, get 3 _ (by omega) rfl, get 4 _ (by omega) rfl⟩
theorem OwF.fnA {w : World} {B : Nat} {a : Option Addr} {cp : Nat} {T : List Fn} (h : OwF w B (.slice a T.length cp) T) : FnA w a T := by
  cases T with
  | nil => exact .inl rfl
  | cons y r =>
    have key : ∀ k x j u, (y :: r)[k]? = some x → j < 4 → x.cs[j]? = some u → ∃ g, a = some ⟨g, 0, none⟩ ∧ w.cell? ⟨g, k * 4 + j, none⟩ = some u := fun k x j u hx hj hu => by
      obtain ⟨g, cap, hv, hc, d⟩ := own_cellN h (k := k * 4 + j) (u := u) (by unfold fnV; rw [flat_at Fn.cs 4 (fun _ => rfl) _ k j x hx hj]; exact hu)
      simp only [Value.slice.injEq] at hv
      exact ⟨g, hv.1, d⟩
    obtain ⟨g, ha, _⟩ := key 0 y 0 _ rfl (by omega) rfl
    refine .inr ⟨g, 0, ha, fun k x hx => ?_⟩
    have get : ∀ j u, j < 4 → x.cs[j]? = some u → w.cell? ⟨g, k * 4 + j, none⟩ = some u := fun j u hj hu => by
      obtain ⟨g', ha', d⟩ := key k x j u hx hj hu
      rw [ha] at ha'; cases ha'; exact d
    rw [Nat.zero_add]
    exact ⟨get 0 _ (by omega) rfl, get 1 _ (by omega) rfl, get 2 _ (by omega) rfl, get 3 _ (by omega) rfl⟩
set_option maxHeartbeats 1000000 in
theorem passes_any (w : World) : Calls Tryz.prog 22 #[] w fun e w' => e = .returned (.slice (some ⟨w.heap.size, 0, none⟩) 4 4) ∧ w' = w.alloc (.cells #[.func (.func 40) #[] #[], .func (.func 41) #[] #[], .func (.func 42) #[] #[], .func (.func 43) #[] #[]] 72) := by
  go_enter Tryz.func22, Tryz.ntmps22
  go_wp2
  go_ret
  exact ⟨rfl, rfl⟩
end Go.Proofs.YthdgmhohofakgaaGreatDoor
namespace Go.Proofs.YthdgmhohofakgaaGreatDoor
open Go.RowKit
set_option linter.unusedVariables false
set_option linter.unusedSimpArgs false
theorem hd_size {l : List UInt8} (h : hdF l = none) : 28 ≤ l.length ∧ 28 + 8 * g4 l 8 + 16 * g4 l 12 + 20 * g4 l 16 + g4 l 20 = l.length := by
  unfold hdF at h
  split at h
  · cases h
  · rename_i h1
    split at h
    · cases h
    · split at h
      · cases h
      · rename_i h3
        simp only [ne_eq, Decidable.not_not] at h3
        unfold sizP at h3
        exact ⟨by omega, h3⟩
theorem hd_lim {l : List UInt8} (h : hdF l = none) : l.length ≤ 1000000000000 := by
  have := hd_size h
  have := g4_lt l 8; have := g4_lt l 12; have := g4_lt l 16; have := g4_lt l 20
  omega
theorem txR_len (l : List UInt8) : ∀ (j p : Nat) (T : List Ins), txR l j p = .ok T → T.length ≤ j
  | 0, p, T, h => by rw [txR] at h; cases h; simp
  | 1, p, T, h => by
    rw [txR.eq_def] at h
    dsimp only at h
    split at h
    · cases h
    · cases hr : txR l 0 (p + 8) with
      | error q => rw [hr] at h; cases h
      | ok R => rw [hr] at h; cases h; have := txR_len l 0 (p + 8) R hr; simp only [List.length_cons]; omega
  | j + 2, p, T, h => by
    rw [txR.eq_def] at h
    dsimp only at h
    split at h
    · split at h
      · cases h
      · cases hr : txR l j (p + 16) with
        | error q => rw [hr] at h; cases h
        | ok R => rw [hr] at h; cases h; have := txR_len l j (p + 16) R hr; simp only [List.length_cons]; omega
    · cases hr : txR l (j + 1) (p + 8) with
      | error q => rw [hr] at h; cases h
      | ok R => rw [hr] at h; cases h; have := txR_len l (j + 1) (p + 8) R hr; simp only [List.length_cons]; omega
theorem own_cap {B n sz cp : Nat} {w : World} {e : TypeId} {ad : Addr} {xs : List Value} (h : w.ownsRow B e sz (.slice (some ad) n cp) n xs) : n ≤ cp := by
  obtain ⟨hl, ⟨hv, hn⟩ | ⟨g, cap, cur, hv, hb, hg, hc, hm, hs, ht⟩⟩ := h
  · cases hv
  · cases hv; exact hc
def r0S : Rs := ⟨0, 0, 0, 0, 0, 0, .pointer none, 0, .slice none 0 0, .slice none 0 0, .slice none 0 0, 0⟩
def r1S (l : List UInt8) : Rs := ⟨28, g4 l 8, g4 l 12, g4 l 16, g4 l 20, g4 l 24, .pointer none, 0, .slice none 0 0, .slice none 0 0, .slice none 0 0, g4 l 24⟩
/-- the reader behind each of its passes -/
def St1 (l : List UInt8) (p g go n c : Nat) (w : World) : Prop := hdF l = none ∧ RdA w p g go n c l (r1S l)
def St2 (l : List UInt8) (p g go n c : Nat) (w : World) : Prop := hdF l = none ∧ ∃ T ga cp, txR l (g4 l 8) 28 = .ok T ∧ RdA w p g go n c l { r1S l with o := 28 + 8 * g4 l 8, tv := .slice (some ⟨ga, 0, none⟩) T.length cp } ∧ OwT w (p + 1) (.slice (some ⟨ga, 0, none⟩) T.length cp) T
def St3 (l : List UInt8) (p g go n c : Nat) (w : World) : Prop := hdF l = none ∧ ∃ T ga cp N q tb, txR l (g4 l 8) 28 = .ok T ∧ rdP (l.drop (n - g4 l 20)) = (some N, q) ∧ szF 1 N = g4 l 20 ∧ RdA w p g go n c l { r1S l with o := 28 + 8 * g4 l 8, tv := .slice (some ⟨ga, 0, none⟩) T.length cp, nm := .pointer (some ⟨tb, 0, none⟩), nx := 1 } ∧ OwT w (p + 1) (.slice (some ⟨ga, 0, none⟩) T.length cp) T ∧ Tab tb w N (fun k => p + 1 ≤ k)
def St4 (l : List UInt8) (p g go n c : Nat) (w : World) : Prop := ∃ (m : Img) (ga cp : Nat) (fa : Option Addr) (fc : Nat) (da : Option Addr) (dc : Nat) (r : Rs), pasR l = .ok m ∧ RdA w p g go n c l { r with tv := .slice (some ⟨ga, 0, none⟩) m.T.length cp, fv := .slice fa m.F.length fc, dv := .slice da m.D.length dc } ∧ m.en = r.en ∧ OwT w (p + 1) (.slice (some ⟨ga, 0, none⟩) m.T.length cp) m.T ∧ OwF w (p + 1) (.slice fa m.F.length fc) m.F ∧ OwD w (p + 1) (.slice da m.D.length dc) m.D
def PsE (l : List UInt8) (p : Nat) (S : World → Prop) (w : World) (e : Ending) (w' : World) : Prop := ((∃ q : Nat, pasR l = .error q ∧ e = .returned (.tuple #[.int .i64 (q : Nat), .bool true])) ∨ (∃ q : Int, e = .returned (.tuple #[.int .i64 q, .bool false]) ∧ S w')) ∧ Chg (fun k => k = p) w w'
theorem pass1 (w : World) (p g go n c : Nat) (l : List UInt8) (h : RdA w p g go n c l r0S) (hn : n ≤ 281474976710656) : Calls Tryz.prog 40 #[.pointer (some ⟨p, 0, none⟩)] w (PsE l p (St1 l p g go n c) w) := by
  refine (takeHead_any w p g go n c l r0S h hn).mono ?_
  intro e w' ⟨h1, h2⟩
  refine ⟨?_, h2⟩
  cases hh : hdF l with
  | some q => rw [hh] at h1; exact .inl ⟨q, by unfold pasR; rw [hh], h1⟩
  | none => rw [hh] at h1; exact .inr ⟨8, h1.1, hh, h1.2⟩
theorem pass2 (w : World) (p g go n c : Nat) (l : List UInt8) (h : St1 l p g go n c w) (hT : Tb64 w) (hp1 : ¬ 1 = p) (hn : n ≤ 1000000000000) : Calls Tryz.prog 41 #[.pointer (some ⟨p, 0, none⟩)] w (PsE l p (St2 l p g go n c) w) := by
  obtain ⟨hh, hr⟩ := h
  have hz := hd_size hh
  have hl := hr.l_
  refine (takeText_any w p g go n c l (r1S l) hr hT hp1 (by show 28 + 8 * g4 l 8 ≤ n; omega) hn).mono ?_
  intro e w' ⟨h1, h2⟩
  refine ⟨?_, h2⟩
  cases ht : txR l (g4 l 8) 28 with
  | error q =>
    rw [show txR l (r1S l).s (r1S l).o = .error q from ht] at h1
    exact .inl ⟨q, by unfold pasR; rw [hh]; dsimp only; rw [ht], h1⟩
  | ok T =>
    rw [show txR l (r1S l).s (r1S l).o = .ok T from ht] at h1
    obtain ⟨he, ga, cp, hr', ho⟩ := h1
    exact .inr ⟨0, he, hh, T, ga, cp, ht, hr', own_base ho (by have := hr.pl; omega)⟩
theorem pass3 (w : World) (p g go n c : Nat) (l : List UInt8) (h : St2 l p g go n c w) (hn : n ≤ 1000000000000) : Calls Tryz.prog 42 #[.pointer (some ⟨p, 0, none⟩)] w (PsE l p (St3 l p g go n c) w) := by
  obtain ⟨hh, T, ga, cp, ht, hr, ho⟩ := h
  have hz := hd_size hh
  have hl := hr.l_
  refine (takeNames_any w p g go n c l _ hr (by show g4 l 20 ≤ n; omega) hn).mono ?_
  intro e w' ⟨h1, h2⟩
  refine ⟨?_, h2⟩
  have h1 : (match rdP (l.drop (n - g4 l 20)) with
   | (none, q) => e = .returned (.tuple #[.int .i64 ((n - g4 l 20 + q : Nat) : Int), .bool true])
   | (some N, _) => e = .returned (.tuple #[.int .i64 ((n - g4 l 20 : Nat) : Int), .bool false]) ∧ szF 1 N = g4 l 20 ∧ ∃ tb, RdA w' p g go n c l { r1S l with o := 28 + 8 * g4 l 8, tv := .slice (some ⟨ga, 0, none⟩) T.length cp, nm := .pointer (some ⟨tb, 0, none⟩), nx := 1 } ∧ Tab tb w' N (fun k => w.heap.size ≤ k)) := h1
  obtain ⟨rN, q, hrd⟩ : ∃ rN q, rdP (l.drop (n - g4 l 20)) = (rN, q) := ⟨_, _, rfl⟩
  rw [hrd] at h1
  cases rN with
  | none =>
    refine .inl ⟨_, ?_, h1⟩
    unfold pasR; rw [hh]; dsimp only; rw [ht]; dsimp only; rw [hl, hrd]
  | some N =>
    obtain ⟨he, hsz, tb, hr', nv, sv, mv, t, hf⟩ := h1
    have hpl := hr.pl
    exact .inr ⟨_, he, hh, T, ga, cp, N, q, tb, ht, hrd, hsz, hr', owns_chg ho (fun k hk e => by have := (ho.lt k hk).1; omega) h2, nv, sv, mv, t, fun k hk => by have := hf k hk; omega⟩
theorem pass4 (w : World) (p g go n c : Nat) (l : List UInt8) (h : St3 l p g go n c w) (hn : n ≤ 1000000000000) : Calls Tryz.prog 43 #[.pointer (some ⟨p, 0, none⟩)] w (PsE l p (St4 l p g go n c) w) := by
  obtain ⟨hh, T, ga, cp, N, q, tb, ht, hrd, hsz, hr, ho, htb⟩ := h
  have hz := hd_size hh
  have hl := hr.l_
  have hTl := txR_len l _ _ _ ht
  have hga : ¬ ga = p := by
    have := (ho.lt ga rfl).1; omega
  refine (takeEntries_any w p g go n c l _ hr tb rfl N _ htb (fun k hk e => by omega) (by omega) (by show 1 ≤ szF 1 N; have := szF_ge N 1; omega) T ga cp rfl ho.insA hga (own_cap ho) (by omega) (by show 28 + 8 * g4 l 8 + 16 * g4 l 12 + 20 * g4 l 16 ≤ n; omega) (by show g4 l 20 ≤ n; omega) hn).mono ?_
  intro e w' ⟨h1, h2⟩
  refine ⟨?_, h2⟩
  have h1 : (match fnR l N T (g4 l 12) (28 + 8 * g4 l 8) 0 0 1 with
   | .error q => e = .returned (.tuple #[.int .i64 (q : Nat), .bool true])
   | .ok (Fs, n1) => match tdR l N (g4 l 16) (28 + 8 * g4 l 8 + 16 * g4 l 12) n1 with
     | .error q => e = .returned (.tuple #[.int .i64 (q : Nat), .bool true])
     | .ok (D, n2) => e = .returned (.tuple #[.int .i64 ((n - g4 l 20 + n2 : Nat) : Int), .bool (decide (n2 < g4 l 20))]) ∧ ∃ fa fc da dc, RdA w' p g go n c l { r1S l with o := 28 + 8 * g4 l 8 + 16 * g4 l 12 + 20 * g4 l 16, tv := .slice (some ⟨ga, 0, none⟩) T.length cp, nm := .pointer (some ⟨tb, 0, none⟩), nx := n2, fv := .slice fa Fs.length fc, dv := .slice da D.length dc } ∧ OwF w' w.heap.size (.slice fa Fs.length fc) Fs ∧ OwD w' w.heap.size (.slice da D.length dc) D) := h1
  have hp : pasR l = enR l T N := by unfold pasR; rw [hh]; dsimp only; rw [ht]; dsimp only; rw [hl, hrd]
  cases hf : fnR l N T (g4 l 12) (28 + 8 * g4 l 8) 0 0 1 with
  | error q => rw [hf] at h1; exact .inl ⟨q, by rw [hp]; unfold enR; rw [hf], h1⟩
  | ok y =>
    obtain ⟨Fs, n1⟩ := y
    rw [hf] at h1
    dsimp only at h1
    cases hd : tdR l N (g4 l 16) (28 + 8 * g4 l 8 + 16 * g4 l 12) n1 with
    | error q => rw [hd] at h1; exact .inl ⟨q, by rw [hp]; unfold enR; rw [hf]; dsimp only; rw [hd], h1⟩
    | ok z =>
      obtain ⟨D, n2⟩ := z
      rw [hd] at h1
      dsimp only at h1
      obtain ⟨he, fa, fc, da, dc, hr', of', od'⟩ := h1
      by_cases hlt : n2 < g4 l 20
      · refine .inl ⟨l.length - g4 l 20 + n2, by rw [hp]; unfold enR; rw [hf]; dsimp only; rw [hd]; dsimp only; rw [if_pos hlt], ?_⟩
        rw [he, hl]; simp [hlt]
      · have hpl := hr.pl
        refine .inr ⟨_, by rw [he]; simp only [hlt, decide_false]; rfl, ⟨T, Fs, D, g4 l 24⟩, ga, cp, fa, fc, da, dc, { r1S l with o := 28 + 8 * g4 l 8 + 16 * g4 l 12 + 20 * g4 l 16, nm := .pointer (some ⟨tb, 0, none⟩), nx := n2 }, ?_, hr', rfl, owns_chg ho (fun k hk e => by have := (ho.lt k hk).1; omega) h2, own_base of' (by omega), own_base od' (by omega)⟩
        rw [hp]; unfold enR; rw [hf]; dsimp only; rw [hd]; dsimp only; rw [if_neg hlt]
end Go.Proofs.YthdgmhohofakgaaGreatDoor
namespace Go.Proofs.YthdgmhohofakgaaGreatDoor
open Go.RowKit
set_option linter.unusedVariables false
set_option linter.unusedSimpArgs false
theorem szF_mem : ∀ (N : List (List UInt8)) (a : Nat) (x : List UInt8), x ∈ N → x.length < szF a N
  | [], _, _, h => by cases h
  | y :: r, a, x, h => by
    show x.length < szF (a + y.length + 1) r
    rcases List.mem_cons.mp h with rfl | h
    · have := szF_ge r (a + x.length + 1); omega
    · exact szF_mem r _ x h
theorem nmT_mem {N : List (List UInt8)} {nx pl ny : Nat} {x : List UInt8} (h : nmT N nx pl = some (x, ny)) : x ∈ N := by
  unfold nmT at h
  split at h
  · cases h
  · cases ha : atF 1 N pl with
    | none => rw [ha] at h; cases h
    | some y =>
      rw [ha] at h
      simp only [Option.some.injEq, Prod.mk.injEq] at h
      obtain ⟨k, hk, _⟩ := atF_idx N 1 _ y ha
      rw [← h.1]; exact List.mem_of_getElem? hk
theorem fn_small (l : List UInt8) (N : List (List UInt8)) (T : List Ins) : ∀ (n p fi sl nx : Nat) (F : List Fn) (ny : Nat), fnR l N T n p fi sl nx = .ok (F, ny) → ∀ x ∈ F, x.nm ∈ N ∧ 0 ≤ x.ob ∧ x.ob < 4294967296
  | 0, p, fi, sl, nx, F, ny, h, x, hx => by
    simp only [fnR, Except.ok.injEq, Prod.mk.injEq] at h
    rw [← h.1] at hx; cases hx
  | n + 1, p, fi, sl, nx, F, ny, h, x, hx => by
    unfold fnR at h
    cases hnm : nmT N nx (g4 l p) with
    | none => rw [hnm] at h; cases h
    | some q =>
      obtain ⟨y, nx'⟩ := q
      rw [hnm] at h
      simp only at h
      split at h
      · cases h
      split at h
      · cases h
      cases hr : fnR l N T n (p + 16) (fi + (cntO (T.drop fi) (g4 l (p + 12))).1) (sl + g4 l (p + 12)) nx' with
      | error r => rw [hr] at h; cases h
      | ok R =>
        rw [hr] at h
        simp only [Except.map, Except.ok.injEq, Prod.mk.injEq] at h
        rw [← h.1] at hx
        rcases List.mem_cons.mp hx with rfl | hx
        · exact ⟨nmT_mem hnm, by have := g4_lt l (p + 4); simp only; omega, by have := g4_lt l (p + 4); simp only; omega⟩
        · exact fn_small l N T n _ _ _ _ R.1 R.2 hr x hx
theorem pas_small {l : List UInt8} {m : Img} (h : pasR l = .ok m) (hl : l.length ≤ 1000000000000) : ∀ x ∈ m.F, OkK x.nm x.ob := by
  intro x hx
  unfold pasR at h
  cases hh : hdF l with
  | some q => rw [hh] at h; cases h
  | none =>
    rw [hh] at h; simp only at h
    cases ht : txR l (g4 l 8) 28 with
    | error q => rw [ht] at h; cases h
    | ok T =>
      rw [ht] at h; simp only at h
      obtain ⟨rN, q, hrd⟩ : ∃ rN q, rdP (l.drop (l.length - g4 l 20)) = (rN, q) := ⟨_, _, rfl⟩
      rw [hrd] at h
      cases rN with
      | none => cases h
      | some N =>
        simp only at h
        unfold enR at h
        cases hf : fnR l N T (g4 l 12) (28 + 8 * g4 l 8) 0 0 1 with
        | error q => rw [hf] at h; cases h
        | ok y =>
          obtain ⟨Fs, n1⟩ := y
          rw [hf] at h; simp only at h
          cases hd : tdR l N (g4 l 16) (28 + 8 * g4 l 8 + 16 * g4 l 12) n1 with
          | error q => rw [hd] at h; cases h
          | ok z =>
            obtain ⟨D, n2⟩ := z
            rw [hd] at h; simp only at h
            split at h
            · cases h
            · simp only [Except.ok.injEq] at h
              rw [← h] at hx
              obtain ⟨h1, h2, h3⟩ := fn_small l N T _ _ _ _ _ Fs n1 hf x hx
              have hb := rdP_inv (l := l.drop (l.length - g4 l 20)) (N := N) (by rw [hrd])
              have := szF_mem N 1 x.nm h1
              have hz : (l.drop (l.length - g4 l 20)).length = szF 1 N := by rw [hb.1, byP_len]
              rw [List.length_drop] at hz
              exact ⟨by omega, by omega, by omega⟩
end Go.Proofs.YthdgmhohofakgaaGreatDoor
namespace Go.Proofs.YthdgmhohofakgaaGreatDoor
open Go.RowKit
set_option linter.unusedVariables false
set_option linter.unusedSimpArgs false
/-- what Read leaves -/
def RdE (l : List UInt8) (w : World) (e : Ending) (w' : World) : Prop :=
  Out w w' ∧ ∃ (ta : Option Addr) (tc : Nat) (fa : Option Addr) (fc : Nat) (da : Option Addr) (dc : Nat), e = .returned (.tuple #[.agg #[.slice ta (rdI l).1.T.length tc, .slice fa (rdI l).1.F.length fc, .slice da (rdI l).1.D.length dc, .int .i64 (rdI l).1.en], .int .i64 ((rdI l).2.1 : Nat), .int .i64 (rdI l).2.2]) ∧
    OwT w' w.heap.size (.slice ta (rdI l).1.T.length tc) (rdI l).1.T ∧ OwF w' w.heap.size (.slice fa (rdI l).1.F.length fc) (rdI l).1.F ∧ OwD w' w.heap.size (.slice da (rdI l).1.D.length dc) (rdI l).1.D
def StK (l : List UInt8) (p g go n c : Nat) : Nat → World → Prop
  | 0, w => RdA w p g go n c l r0S
  | 1, w => St1 l p g go n c w
  | 2, w => St2 l p g go n c w
  | 3, w => St3 l p g go n c w
  | _ + 4, w => St4 l p g go n c w
def PsB (l : List UInt8) (p : Nat) (S : World → Prop) (w : World) (e : Ending) (w' : World) : Prop := ∃ (q : Int) (b : Bool), e = .returned (.tuple #[.int .i64 q, .bool b]) ∧ (b = true → ∃ k : Nat, q = k ∧ pasR l = .error k) ∧ (b = false → S w') ∧ Chg (fun k => k = p) w w'
theorem PsE.b {l : List UInt8} {p : Nat} {S : World → Prop} {w w' : World} {e : Ending} (h : PsE l p S w e w') : PsB l p S w e w' := by
  obtain ⟨⟨q, hq, he⟩ | ⟨q, he, hS⟩, hc⟩ := h
  · exact ⟨q, true, he, fun _ => ⟨q, rfl, hq⟩, (fun h => by cases h), hc⟩
  · exact ⟨q, false, he, fun h => by (cases h), fun _ => hS, hc⟩
theorem rd_good {l : List UInt8} {m : Img} {a : Nat} (h : pasR l = .ok m) (hc : ckP m = (a, 0)) : rdI l = (m, 0, 0) := by unfold rdI; rw [h]; simp [hc]
theorem rd_ill {l : List UInt8} {m : Img} {a : Nat} {b : Int} (h : pasR l = .ok m) (hc : ckP m = (a, b)) (hb : b ≠ 0) : rdI l = (nilM, a, b) := by unfold rdI; rw [h]; simp [hc, hb]
theorem pas_hd {l : List UInt8} {m : Img} (h : pasR l = .ok m) : hdF l = none := by
  unfold pasR at h
  cases hh : hdF l with
  | none => rfl
  | some q => rw [hh] at h; cases h
theorem pas_len {l : List UInt8} {m : Img} (h : pasR l = .ok m) (hl : l.length ≤ 1000000000000) : m.T.length ≤ 3518437208883 := by
  have h1 := (forth_I h).1
  have h2 : m.T.length ≤ slotsP m.T := by unfold slotsP; omega
  have h3 : (wrB m).length = l.length := by rw [h1]
  have h4 : 8 * slotsP m.T ≤ (wrB m).length := by
    unfold wrB; simp only [List.length_append, txtB_len]; omega
  omega
theorem rd_bad {l : List UInt8} {k : Nat} (h : pasR l = .error k) : rdI l = (nilM, k, 170) := by unfold rdI; rw [h]
set_option maxRecDepth 8000 in
set_option maxHeartbeats 2000000 in
theorem read17_any (w : World) (g go n c : Nat) (l : List UInt8) (hl : l.length = n) (hnc : n ≤ c) (hb : BtA w g go l) (hg : g < w.heap.size) (hT : Tb64 w) (hw1 : 1 < w.heap.size) (hn : n ≤ 281474976710656) : Calls Tryz.prog 8 #[.slice (some ⟨g, go, none⟩) n c] w (RdE l w) := by
  obtain ⟨w3, hw3⟩ : ∃ w3, Hid (w3 = ((w.alloc (.cells #[.slice none 0 0, .slice none 0 0, .slice none 0 0, .int .i64 0] 34)).alloc (.cells #[.slice (some ⟨g, go, none⟩) n c, .int .i64 0, .bool true, .int .i64 0, .int .i64 0, .int .i64 0, .int .i64 0, .int .i64 0, .pointer none, .int .i64 0, .slice none 0 0, .slice none 0 0, .slice none 0 0, .int .i64 0] 69))) := ⟨_, rfl⟩
  obtain ⟨p, hp⟩ : ∃ p, Hid (p = w.heap.size + 1) := ⟨_, rfl⟩
  have hpw : w.heap.size < p := by rw [hp.out]; omega
  have O3 : Hid (Out w w3) := hidOf (by rw [hw3.out]; exact Out.alloc (Out.alloc (Out.refl _) _) _)
  have hs3 : w3.heap.size = p + 1 := by rw [hw3.out, size_alloc, size_alloc, hp.out]
  have R3 : Hid (RdA w3 p g go n c l r0S) := hidOf (by
    refine ⟨hl, hnc, fun k x hx => cell_later O3.out (hb k x hx), ?_, by omega, by omega⟩
    have := heap_alloc_new (w.alloc (.cells #[.slice none 0 0, .slice none 0 0, .slice none 0 0, .int .i64 0] 34)) (.cells #[.slice (some ⟨g, go, none⟩) n c, .int .i64 0, .bool true, .int .i64 0, .int .i64 0, .int .i64 0, .int .i64 0, .int .i64 0, .pointer none, .int .i64 0, .slice none 0 0, .slice none 0 0, .slice none 0 0, .int .i64 0] 69)
    rw [size_alloc, ← hw3.out, ← hp.out] at this
    exact this)
  have B3 : Hid (w3.heap[w.heap.size]? = some (.cells #[.slice none 0 0, .slice none 0 0, .slice none 0 0, .int .i64 0] 34 (0, 0))) := hidOf (by
    rw [hw3.out, Below.heap_alloc _ _ _ (by rw [size_alloc]; omega)]; exact heap_alloc_new w _)
  have T3 := hidOf (hT.out O3.out)
  go_enter Tryz.func8, Tryz.ntmps8
  go_upto_region 2 with fail
  rw [← hw3.out, ← hp.out]
  go_wp2_with (go_at_call 22; refine (passes_any _).mono ?_; rintro e w4 ⟨rfl, h4⟩; have H4 := hidOf h4; clear h4)
  have O4 : Hid (Out w3 w4) := hidOf (by rw [H4.out]; exact Out.alloc (Out.refl _) _)
  have LF : Hid (∀ (j : Nat) (v : Value), (#[.func (.func 40) #[] #[], .func (.func 41) #[] #[], .func (.func 42) #[] #[], .func (.func 43) #[] #[]] : Array Value)[j]? = some v → w4.cell? ⟨w3.heap.size, j, none⟩ = some v) := hidOf (fun j v hv => by
    have := heap_alloc_new w3 (.cells #[.func (.func 40) #[] #[], .func (.func 41) #[] #[], .func (.func 42) #[] #[], .func (.func 43) #[] #[]] 72)
    rw [← H4.out] at this
    rw [cell_atL this]; exact hv)
  have B4 := hidOf ((O4.out.block _ (by omega)).trans B3.out)
  have OX : Hid (∀ wx, Chg (fun b => b = p) w4 wx → Out w wx) := hidOf (fun wx hc => out_chg (O3.out.trans O4.out) hc (fun k hk => by omega))
  go_loopw [18] (fun v wr => ∃ k : Nat, k ≤ 4 ∧ v = .int .i64 (k : Nat) ∧ Hid (Chg (fun b => b = p) w4 wr) ∧ Hid (StK l p g go n c k wr)) (fun v _ => 4 - (intOf v).toNat)
  case atStart => exact ⟨0, by omega, rfl, hidOf (Chg.refl _ _), hidOf (R3.out.out O4.out)⟩
  case round =>
    obtain ⟨k, hk, rfl, HC, HS⟩ := hrel
    have hpl : ¬ w3.heap.size = p := by omega
    have T5 := hidOf ((T3.out.out O4.out).chg HC.out (by omega))
    have hp1 : ¬ 1 = p := by omega
    obtain rfl | rfl | rfl | rfl | rfl : k = 0 ∨ k = 1 ∨ k = 2 ∨ k = 3 ∨ k = 4 := by omega
    · have f0 : wr.cell? ⟨p + 1, 0, none⟩ = some (.func (.func 40) #[] #[]) := by rw [← hs3]; exact HC.out.cell (LF.out 0 _ rfl) hpl
      have CP : Hid (Calls Tryz.prog 40 #[.pointer (some ⟨p, 0, none⟩)] wr (PsB l p (StK l p g go n c 1) wr)) := hidOf ((pass1 wr p g go n c l HS.out hn).mono (fun _ _ h => h.b))
      go_upto_region 6 with (go_at_call 40; refine CP.out.mono ?_; rintro e w5 ⟨q, b, rfl, hq, hS, k5⟩)
      have HC5 := hidOf (HC.out.trans k5 (fun x h _ => h))
      cases b
      · have HS5 := hidOf (hS rfl)
        clear hq hS
        go_wp2
        go_roundw
        case rel => exact ⟨1, by omega, by simp, HC5, HS5⟩
        case measure => simp [intOf]
      · obtain ⟨k, rfl, hpk⟩ := hq rfl
        have HP := hidOf hpk
        clear hq hS hpk
        have b5 := hidOf ((HC5.out.block _ (by have := O4.out.size; omega : w.heap.size < w4.heap.size) (by omega)).trans B4.out)
        have z0 : w5.cell? ⟨w.heap.size, 0, none⟩ = some (.slice none 0 0) := by rw [cell_atL b5.out]; rfl
        have z1 : w5.cell? ⟨w.heap.size, 1, none⟩ = some (.slice none 0 0) := by rw [cell_atL b5.out]; rfl
        have z2 : w5.cell? ⟨w.heap.size, 2, none⟩ = some (.slice none 0 0) := by rw [cell_atL b5.out]; rfl
        have z3 : w5.cell? ⟨w.heap.size, 3, none⟩ = some (.int .i64 0) := by rw [cell_atL b5.out]; rfl
        have g0 := frozen_atL b5.out 0
        have g1 := frozen_atL b5.out 1
        have g2 := frozen_atL b5.out 2
        have g3 := frozen_atL b5.out 3
        go_wp2
        refine bodyPost_ret (results_cell3 rfl _ _ w.heap.size 34 _ (0, 0) _ rfl (blk_set (blk_set (blk_set (blk_set b5.out _ _) _ _) _ _) _ _) Tryz.underlying34 rfl (by kernel_rfl)) rfl ?_
        have hr := rd_bad HP.out
        refine ⟨(((OX.out w5 HC5.out).setCell (Nat.le_refl _) _).setCell (Nat.le_refl _) _ |>.setCell (Nat.le_refl _) _).setCell (Nat.le_refl _) _, none, 0, none, 0, none, 0, ?_, ?_, ?_, ?_⟩
        · rw [hr]; rfl
        · rw [hr]; exact World.ownsRow_nil _ _ _ _
        · rw [hr]; exact World.ownsRow_nil _ _ _ _
        · rw [hr]; exact World.ownsRow_nil _ _ _ _
    · have f0 : wr.cell? ⟨p + 1, 1, none⟩ = some (.func (.func 41) #[] #[]) := by rw [← hs3]; exact HC.out.cell (LF.out 1 _ rfl) hpl
      have CP : Hid (Calls Tryz.prog 41 #[.pointer (some ⟨p, 0, none⟩)] wr (PsB l p (StK l p g go n c 2) wr)) := hidOf ((pass2 wr p g go n c l HS.out T5.out hp1 (by rw [← hl]; exact hd_lim (show St1 l p g go n c wr from HS.out).1)).mono (fun _ _ h => h.b))
      go_upto_region 6 with (go_at_call 41; refine CP.out.mono ?_; rintro e w5 ⟨q, b, rfl, hq, hS, k5⟩)
      have HC5 := hidOf (HC.out.trans k5 (fun x h _ => h))
      cases b
      · have HS5 := hidOf (hS rfl)
        clear hq hS
        go_wp2
        go_roundw
        case rel => exact ⟨2, by omega, by simp, HC5, HS5⟩
        case measure => simp [intOf]
      · obtain ⟨k, rfl, hpk⟩ := hq rfl
        have HP := hidOf hpk
        clear hq hS hpk
        have b5 := hidOf ((HC5.out.block _ (by have := O4.out.size; omega : w.heap.size < w4.heap.size) (by omega)).trans B4.out)
        have z0 : w5.cell? ⟨w.heap.size, 0, none⟩ = some (.slice none 0 0) := by rw [cell_atL b5.out]; rfl
        have z1 : w5.cell? ⟨w.heap.size, 1, none⟩ = some (.slice none 0 0) := by rw [cell_atL b5.out]; rfl
        have z2 : w5.cell? ⟨w.heap.size, 2, none⟩ = some (.slice none 0 0) := by rw [cell_atL b5.out]; rfl
        have z3 : w5.cell? ⟨w.heap.size, 3, none⟩ = some (.int .i64 0) := by rw [cell_atL b5.out]; rfl
        have g0 := frozen_atL b5.out 0
        have g1 := frozen_atL b5.out 1
        have g2 := frozen_atL b5.out 2
        have g3 := frozen_atL b5.out 3
        go_wp2
        refine bodyPost_ret (results_cell3 rfl _ _ w.heap.size 34 _ (0, 0) _ rfl (blk_set (blk_set (blk_set (blk_set b5.out _ _) _ _) _ _) _ _) Tryz.underlying34 rfl (by kernel_rfl)) rfl ?_
        have hr := rd_bad HP.out
        refine ⟨(((OX.out w5 HC5.out).setCell (Nat.le_refl _) _).setCell (Nat.le_refl _) _ |>.setCell (Nat.le_refl _) _).setCell (Nat.le_refl _) _, none, 0, none, 0, none, 0, ?_, ?_, ?_, ?_⟩
        · rw [hr]; rfl
        · rw [hr]; exact World.ownsRow_nil _ _ _ _
        · rw [hr]; exact World.ownsRow_nil _ _ _ _
        · rw [hr]; exact World.ownsRow_nil _ _ _ _
    · have f0 : wr.cell? ⟨p + 1, 2, none⟩ = some (.func (.func 42) #[] #[]) := by rw [← hs3]; exact HC.out.cell (LF.out 2 _ rfl) hpl
      have CP : Hid (Calls Tryz.prog 42 #[.pointer (some ⟨p, 0, none⟩)] wr (PsB l p (StK l p g go n c 3) wr)) := hidOf ((pass3 wr p g go n c l HS.out (by rw [← hl]; exact hd_lim (show St2 l p g go n c wr from HS.out).1)).mono (fun _ _ h => h.b))
      go_upto_region 6 with (go_at_call 42; refine CP.out.mono ?_; rintro e w5 ⟨q, b, rfl, hq, hS, k5⟩)
      have HC5 := hidOf (HC.out.trans k5 (fun x h _ => h))
      cases b
      · have HS5 := hidOf (hS rfl)
        clear hq hS
        go_wp2
        go_roundw
        case rel => exact ⟨3, by omega, by simp, HC5, HS5⟩
        case measure => simp [intOf]
      · obtain ⟨k, rfl, hpk⟩ := hq rfl
        have HP := hidOf hpk
        clear hq hS hpk
        have b5 := hidOf ((HC5.out.block _ (by have := O4.out.size; omega : w.heap.size < w4.heap.size) (by omega)).trans B4.out)
        have z0 : w5.cell? ⟨w.heap.size, 0, none⟩ = some (.slice none 0 0) := by rw [cell_atL b5.out]; rfl
        have z1 : w5.cell? ⟨w.heap.size, 1, none⟩ = some (.slice none 0 0) := by rw [cell_atL b5.out]; rfl
        have z2 : w5.cell? ⟨w.heap.size, 2, none⟩ = some (.slice none 0 0) := by rw [cell_atL b5.out]; rfl
        have z3 : w5.cell? ⟨w.heap.size, 3, none⟩ = some (.int .i64 0) := by rw [cell_atL b5.out]; rfl
        have g0 := frozen_atL b5.out 0
        have g1 := frozen_atL b5.out 1
        have g2 := frozen_atL b5.out 2
        have g3 := frozen_atL b5.out 3
        go_wp2
        refine bodyPost_ret (results_cell3 rfl _ _ w.heap.size 34 _ (0, 0) _ rfl (blk_set (blk_set (blk_set (blk_set b5.out _ _) _ _) _ _) _ _) Tryz.underlying34 rfl (by kernel_rfl)) rfl ?_
        have hr := rd_bad HP.out
        refine ⟨(((OX.out w5 HC5.out).setCell (Nat.le_refl _) _).setCell (Nat.le_refl _) _ |>.setCell (Nat.le_refl _) _).setCell (Nat.le_refl _) _, none, 0, none, 0, none, 0, ?_, ?_, ?_, ?_⟩
        · rw [hr]; rfl
        · rw [hr]; exact World.ownsRow_nil _ _ _ _
        · rw [hr]; exact World.ownsRow_nil _ _ _ _
        · rw [hr]; exact World.ownsRow_nil _ _ _ _
    · have f0 : wr.cell? ⟨p + 1, 3, none⟩ = some (.func (.func 43) #[] #[]) := by rw [← hs3]; exact HC.out.cell (LF.out 3 _ rfl) hpl
      have CP : Hid (Calls Tryz.prog 43 #[.pointer (some ⟨p, 0, none⟩)] wr (PsB l p (StK l p g go n c 4) wr)) := hidOf ((pass4 wr p g go n c l HS.out (by rw [← hl]; exact hd_lim (show St3 l p g go n c wr from HS.out).1)).mono (fun _ _ h => h.b))
      go_upto_region 6 with (go_at_call 43; refine CP.out.mono ?_; rintro e w5 ⟨q, b, rfl, hq, hS, k5⟩)
      have HC5 := hidOf (HC.out.trans k5 (fun x h _ => h))
      cases b
      · have HS5 := hidOf (hS rfl)
        clear hq hS
        go_wp2
        go_roundw
        case rel => exact ⟨4, by omega, by simp, HC5, HS5⟩
        case measure => simp [intOf]
      · obtain ⟨k, rfl, hpk⟩ := hq rfl
        have HP := hidOf hpk
        clear hq hS hpk
        have b5 := hidOf ((HC5.out.block _ (by have := O4.out.size; omega : w.heap.size < w4.heap.size) (by omega)).trans B4.out)
        have z0 : w5.cell? ⟨w.heap.size, 0, none⟩ = some (.slice none 0 0) := by rw [cell_atL b5.out]; rfl
        have z1 : w5.cell? ⟨w.heap.size, 1, none⟩ = some (.slice none 0 0) := by rw [cell_atL b5.out]; rfl
        have z2 : w5.cell? ⟨w.heap.size, 2, none⟩ = some (.slice none 0 0) := by rw [cell_atL b5.out]; rfl
        have z3 : w5.cell? ⟨w.heap.size, 3, none⟩ = some (.int .i64 0) := by rw [cell_atL b5.out]; rfl
        have g0 := frozen_atL b5.out 0
        have g1 := frozen_atL b5.out 1
        have g2 := frozen_atL b5.out 2
        have g3 := frozen_atL b5.out 3
        go_wp2
        refine bodyPost_ret (results_cell3 rfl _ _ w.heap.size 34 _ (0, 0) _ rfl (blk_set (blk_set (blk_set (blk_set b5.out _ _) _ _) _ _) _ _) Tryz.underlying34 rfl (by kernel_rfl)) rfl ?_
        have hr := rd_bad HP.out
        refine ⟨(((OX.out w5 HC5.out).setCell (Nat.le_refl _) _).setCell (Nat.le_refl _) _ |>.setCell (Nat.le_refl _) _).setCell (Nat.le_refl _) _, none, 0, none, 0, none, 0, ?_, ?_, ?_, ?_⟩
        · rw [hr]; rfl
        · rw [hr]; exact World.ownsRow_nil _ _ _ _
        · rw [hr]; exact World.ownsRow_nil _ _ _ _
        · rw [hr]; exact World.ownsRow_nil _ _ _ _
    · obtain ⟨m, ga, cp, fa, fc, da, dc, r, hpa, hra, hen, oT, oF, oD⟩ := (show St4 l p g go n c wr from HS.out)
      have HP := hidOf hpa
      have c10 : wr.cell? ⟨p, 10, none⟩ = some (.slice (some ⟨ga, 0, none⟩) m.T.length cp) := hra.cell 10 _ rfl
      have c11 : wr.cell? ⟨p, 11, none⟩ = some (.slice fa m.F.length fc) := hra.cell 11 _ rfl
      have c12 : wr.cell? ⟨p, 12, none⟩ = some (.slice da m.D.length dc) := hra.cell 12 _ rfl
      have c13 : wr.cell? ⟨p, 13, none⟩ = some (.int .i64 m.en) := by rw [hen]; exact hra.cell 13 _ rfl
      have HT := hidOf oT
      have HF := hidOf oF
      have HD := hidOf oD
      obtain ⟨a, b, hab⟩ : ∃ a b, Hid (ckP m = (a, b)) := ⟨_, _, hidOf rfl⟩
      have CK : Hid (Calls Tryz.prog 23 #[.agg #[.slice (some ⟨ga, 0, none⟩) m.T.length cp, .slice fa m.F.length fc, .slice da m.D.length dc, .int .i64 m.en]] wr fun e w' => e = .returned (.tuple #[.int .i64 (a : Nat), .int .i64 b]) ∧ Out wr w') := hidOf (by
        have := check_any m wr (some ⟨ga, 0, none⟩) fa da cp fc dc ⟨oT.insA, oF.fnA, oD.tdA, pas_len hpa (hd_lim (pas_hd hpa)), pas_small hpa (hd_lim (pas_hd hpa))⟩
        rw [hab.out] at this; exact this)
      clear hpa hra hen oT oF oD
      go_upto_region 10 with (go_at_call 23; refine CK.out.mono ?_; rintro e w5 ⟨rfl, o5⟩)
      have HO5 := hidOf o5
      have b5 := hidOf ((o5.block _ (by have := HC.out.size; have := O4.out.size; omega)).trans ((HC.out.block _ (by have := O4.out.size; omega : w.heap.size < w4.heap.size) (by omega)).trans B4.out))
      have d10 := cell_later o5 c10
      have d11 := cell_later o5 c11
      have d12 := cell_later o5 c12
      have d13 := cell_later o5 c13
      clear c10 c11 c12 c13 o5
      have z0 : w5.cell? ⟨w.heap.size, 0, none⟩ = some (.slice none 0 0) := by rw [cell_atL b5.out]; rfl
      have z1 : w5.cell? ⟨w.heap.size, 1, none⟩ = some (.slice none 0 0) := by rw [cell_atL b5.out]; rfl
      have z2 : w5.cell? ⟨w.heap.size, 2, none⟩ = some (.slice none 0 0) := by rw [cell_atL b5.out]; rfl
      have z3 : w5.cell? ⟨w.heap.size, 3, none⟩ = some (.int .i64 0) := by rw [cell_atL b5.out]; rfl
      have g0 := frozen_atL b5.out 0
      have g1 := frozen_atL b5.out 1
      have g2 := frozen_atL b5.out 2
      have g3 := frozen_atL b5.out 3
      have OO := hidOf ((OX.out wr HC.out).trans HO5.out)
      by_cases hb : b = 0
      · subst hb
        go_wp2
        refine bodyPost_ret (results_cell3 rfl _ _ w.heap.size 34 _ (0, 0) _ rfl (blk_set (blk_set (blk_set (blk_set b5.out _ _) _ _) _ _) _ _) Tryz.underlying34 rfl (by kernel_rfl)) rfl ?_
        have hr := rd_good HP.out hab.out
        have hch : ∀ v0 v1 v2 v3, Chg (fun k => k = w.heap.size) wr ((((w5.setCell ⟨w.heap.size, 0, none⟩ v0).setCell ⟨w.heap.size, 1, none⟩ v1).setCell ⟨w.heap.size, 2, none⟩ v2).setCell ⟨w.heap.size, 3, none⟩ v3) := fun v0 v1 v2 v3 => Chg.put4 (S := fun k => k = w.heap.size) (Chg.of_out HO5.out) rfl 0 1 2 3 v0 v1 v2 v3
        refine ⟨((OO.out.setCell (Nat.le_refl _) _).setCell (Nat.le_refl _) _ |>.setCell (Nat.le_refl _) _).setCell (Nat.le_refl _) _, some ⟨ga, 0, none⟩, cp, fa, fc, da, dc, ?_, ?_, ?_, ?_⟩
        · rw [hr]; rfl
        · rw [hr]; exact own_base (owns_chg HT.out (fun k hk e => by have := (HT.out.lt k hk).1; omega) (hch _ _ _ _)) (by omega)
        · rw [hr]; exact own_base (owns_chg HF.out (fun k hk e => by have := (HF.out.lt k hk).1; omega) (hch _ _ _ _)) (by omega)
        · rw [hr]; exact own_base (owns_chg HD.out (fun k hk e => by have := (HD.out.lt k hk).1; omega) (hch _ _ _ _)) (by omega)
      · have hbt : (b != 0) = true := by simp [hb]
        have hbf : (b == 0) = false := by simp [hb]
        go_wp2
        refine bodyPost_ret (results_cell3 rfl _ _ w.heap.size 34 _ (0, 0) _ rfl (blk_set (blk_set (blk_set (blk_set b5.out _ _) _ _) _ _) _ _) Tryz.underlying34 rfl (by kernel_rfl)) rfl ?_
        have hr := rd_ill HP.out hab.out hb
        refine ⟨((OO.out.setCell (Nat.le_refl _) _).setCell (Nat.le_refl _) _ |>.setCell (Nat.le_refl _) _).setCell (Nat.le_refl _) _, none, 0, none, 0, none, 0, ?_, ?_, ?_, ?_⟩
        · rw [hr]; rfl
        · rw [hr]; exact World.ownsRow_nil _ _ _ _
        · rw [hr]; exact World.ownsRow_nil _ _ _ _
        · rw [hr]; exact World.ownsRow_nil _ _ _ _
end Go.Proofs.YthdgmhohofakgaaGreatDoor
namespace Go.Proofs.YthdgmhohofakgaaGreatDoor
open Go.RowKit
set_option linter.unusedVariables false
set_option linter.unusedSimpArgs false
theorem takeHead_nil (w : World) (p : Nat) (a : Option Addr) (c : Nat) (c0 : w.cell? ⟨p, 0, none⟩ = some (.slice a 0 c)) : Calls Tryz.prog 40 #[.pointer (some ⟨p, 0, none⟩)] w fun e w' => e = .returned (.tuple #[.int .i64 0, .bool true]) ∧ w' = w := by
  go_enter Tryz.func40, Tryz.ntmps40
  go_wp2
  go_ret2
  exact ⟨rfl, rfl⟩
set_option maxRecDepth 8000 in
set_option maxHeartbeats 2000000 in
theorem read17_nil (w : World) (a : Option Addr) (c : Nat) : Calls Tryz.prog 8 #[.slice a 0 c] w (RdE [] w) := by
  obtain ⟨w3, hw3⟩ : ∃ w3, Hid (w3 = ((w.alloc (.cells #[.slice none 0 0, .slice none 0 0, .slice none 0 0, .int .i64 0] 34)).alloc (.cells #[.slice a 0 c, .int .i64 0, .bool true, .int .i64 0, .int .i64 0, .int .i64 0, .int .i64 0, .int .i64 0, .pointer none, .int .i64 0, .slice none 0 0, .slice none 0 0, .slice none 0 0, .int .i64 0] 69))) := ⟨_, rfl⟩
  obtain ⟨p, hp⟩ : ∃ p, Hid (p = w.heap.size + 1) := ⟨_, rfl⟩
  have hpw : w.heap.size < p := by rw [hp.out]; omega
  have O3 : Hid (Out w w3) := hidOf (by rw [hw3.out]; exact Out.alloc (Out.alloc (Out.refl _) _) _)
  have hs3 : w3.heap.size = p + 1 := by rw [hw3.out, size_alloc, size_alloc, hp.out]
  have R3 : Hid (w3.cell? ⟨p, 0, none⟩ = some (.slice a 0 c)) := hidOf (by
    have := heap_alloc_new (w.alloc (.cells #[.slice none 0 0, .slice none 0 0, .slice none 0 0, .int .i64 0] 34)) (.cells #[.slice a 0 c, .int .i64 0, .bool true, .int .i64 0, .int .i64 0, .int .i64 0, .int .i64 0, .int .i64 0, .pointer none, .int .i64 0, .slice none 0 0, .slice none 0 0, .slice none 0 0, .int .i64 0] 69)
    rw [size_alloc, ← hw3.out, ← hp.out] at this
    rw [cell_atL this]; rfl)
  have B3 : Hid (w3.heap[w.heap.size]? = some (.cells #[.slice none 0 0, .slice none 0 0, .slice none 0 0, .int .i64 0] 34 (0, 0))) := hidOf (by
    rw [hw3.out, Below.heap_alloc _ _ _ (by rw [size_alloc]; omega)]; exact heap_alloc_new w _)
  go_enter Tryz.func8, Tryz.ntmps8
  go_upto_region 2 with fail
  rw [← hw3.out, ← hp.out]
  go_wp2_with (go_at_call 22; refine (passes_any _).mono ?_; rintro e w4 ⟨rfl, h4⟩; have H4 := hidOf h4; clear h4)
  have O4 : Hid (Out w3 w4) := hidOf (by rw [H4.out]; exact Out.alloc (Out.refl _) _)
  have LF : Hid (w4.cell? ⟨w3.heap.size, 0, none⟩ = some (.func (.func 40) #[] #[])) := hidOf (by
    have := heap_alloc_new w3 (.cells #[.func (.func 40) #[] #[], .func (.func 41) #[] #[], .func (.func 42) #[] #[], .func (.func 43) #[] #[]] 72)
    rw [← H4.out] at this
    rw [cell_atL this]; rfl)
  have B4 := hidOf ((O4.out.block _ (by omega)).trans B3.out)
  have R4 := hidOf (cell_later O4.out R3.out)
  have OX := hidOf (O3.out.trans O4.out)
  go_loopw [18] (fun v wr => v = .int .i64 0 ∧ wr = w4) (fun v _ => 0)
  case atStart => exact ⟨rfl, rfl⟩
  case round =>
    obtain ⟨rfl, rfl⟩ := hrel
    have f0 : wr.cell? ⟨p + 1, 0, none⟩ = some (.func (.func 40) #[] #[]) := by rw [← hs3]; exact LF.out
    have CP := hidOf (takeHead_nil wr p a c R4.out)
    have z0 : wr.cell? ⟨w.heap.size, 0, none⟩ = some (.slice none 0 0) := by rw [cell_atL B4.out]; rfl
    have z1 : wr.cell? ⟨w.heap.size, 1, none⟩ = some (.slice none 0 0) := by rw [cell_atL B4.out]; rfl
    have z2 : wr.cell? ⟨w.heap.size, 2, none⟩ = some (.slice none 0 0) := by rw [cell_atL B4.out]; rfl
    have z3 : wr.cell? ⟨w.heap.size, 3, none⟩ = some (.int .i64 0) := by rw [cell_atL B4.out]; rfl
    have g0 := frozen_atL B4.out 0
    have g1 := frozen_atL B4.out 1
    have g2 := frozen_atL B4.out 2
    have g3 := frozen_atL B4.out 3
    go_wp2_with (go_at_call 40; refine CP.out.mono ?_; rintro e w5 ⟨rfl, h5⟩; subst h5)
    refine bodyPost_ret (results_cell3 rfl _ _ w.heap.size 34 _ (0, 0) _ rfl (blk_set (blk_set (blk_set (blk_set B4.out _ _) _ _) _ _) _ _) Tryz.underlying34 rfl (by kernel_rfl)) rfl ?_
    have hr : rdI [] = (nilM, 0, 170) := rd_hd (by rfl)
    refine ⟨((OX.out.setCell (Nat.le_refl _) _).setCell (Nat.le_refl _) _ |>.setCell (Nat.le_refl _) _).setCell (Nat.le_refl _) _, none, 0, none, 0, none, 0, ?_, ?_, ?_, ?_⟩
    · rw [hr]; rfl
    · rw [hr]; exact World.ownsRow_nil _ _ _ _
    · rw [hr]; exact World.ownsRow_nil _ _ _ _
    · rw [hr]; exact World.ownsRow_nil _ _ _ _
/-- Read of any bytes -/
theorem read17_rest (w : World) (a : Option Addr) (c : Nat) (l : List UInt8) (h : RestAt w.heap.size w a l) (hc : l.length ≤ c) (hT : Tb64 w) (hw1 : 1 < w.heap.size) (hn : l.length ≤ 281474976710656) : Calls Tryz.prog 8 #[.slice a l.length c] w (RdE l w) := by
  rcases h with rfl | ⟨b, off, hb, rfl, h⟩
  · exact read17_nil w a c
  · exact read17_any w b off l.length c l rfl hc h hb hT hw1 hn
end Go.Proofs.YthdgmhohofakgaaGreatDoor
