import Derived.Test.YtbnoaedkonnflaaDoorIyi
namespace Go.Proofs.YtbnoaedkonnflaaDoor
open Go.RowKit
set_option linter.unusedVariables false
set_option linter.unusedSimpArgs false
theorem own_base {B B' sz n : Nat} {w : World} {e : TypeId} {v : Value} {xs : List Value} (h : w.ownsRow B e sz v n xs) (hb : B' ≤ B) : w.ownsRow B' e sz v n xs := by
  obtain ⟨h1, h2 | ⟨g, cap, cur, h3, h4, h5⟩⟩ := h
  · exact ⟨h1, .inl h2⟩
  · exact ⟨h1, .inr ⟨g, cap, cur, h3, Nat.le_trans hb h4, h5⟩⟩
/-- what takeEntries leaves -/
def enE (l : List UInt8) (p g go n c : Nat) (w : World) (r : Rs) (N : List (List UInt8)) (T : List Ins) (e : Ending) (w' : World) : Prop :=
  (match fnR l N T r.f r.o 0 0 r.nx with
   | .error q => e = .returned (.tuple #[.int .i64 (q : Nat), .bool true])
   | .ok (Fs, n1) => match tdR l N r.d (r.o + 16 * r.f) n1 with
     | .error q => e = .returned (.tuple #[.int .i64 (q : Nat), .bool true])
     | .ok (D, n2) => e = .returned (.tuple #[.int .i64 ((n - r.n + n2 : Nat) : Int), .bool (decide (n2 < r.n))]) ∧ ∃ fa fc da dc, RdA w' p g go n c l { r with o := r.o + 16 * r.f + 20 * r.d, nx := n2, fv := .slice fa Fs.length fc, dv := .slice da D.length dc } ∧ OwF w' w.heap.size (.slice fa Fs.length fc) Fs ∧ OwD w' w.heap.size (.slice da D.length dc) D) ∧ Chg (fun k => k = p) w w'
set_option maxRecDepth 8000 in
set_option maxHeartbeats 1000000 in
theorem takeEntries_any (w : World) (p g go n c : Nat) (l : List UInt8) (r : Rs) (h : RdA w p g go n c l r) (tb : Nat) (htb : r.nm = .pointer (some ⟨tb, 0, none⟩)) (N : List (List UInt8)) (F : Nat → Prop) (hT : Tab tb w N F) (hF : ∀ k, F k → ¬ k = p) (hsz : szF 1 N ≤ 1000000000000) (hnx : r.nx ≤ szF 1 N) (T : List Ins) (ga tcp : Nat) (htv : r.tv = .slice (some ⟨ga, 0, none⟩) T.length tcp) (hIA : InsA w (some ⟨ga, 0, none⟩) T) (hgp : ¬ ga = p) (htc : T.length ≤ tcp) (hTl : T.length ≤ 1000000000000) (hr : r.o + 16 * r.f + 20 * r.d ≤ n) (hrn : r.n ≤ n) (hn : n ≤ 1000000000000) : Calls Tryd.prog 37 #[.pointer (some ⟨p, 0, none⟩)] w (enE l p g go n c w r N T) := by
  have hpl := h.pl
  have hgl := h.gl
  have CF := hidOf (takeFuncs_any w p g go n c l r h tb htb N F hT hF hsz hnx T ga tcp htv hIA hgp htc hTl (by omega) hn)
  obtain ⟨o, s, f, d, nn, eh, nm, nx, tv, fv, dv, en⟩ := r
  simp only at hr htb hnx htv hrn
  subst htb
  subst htv
  have HT := hidOf hT
  clear h hT hIA
  unfold fnE at CF
  dsimp only at CF
  cases hf : fnR l N T f o 0 0 nx with
  | error q =>
    rw [hf] at CF
    go_enter Tryd.func37, Tryd.ntmps37
    go_wp2_with (go_at_call 53; refine CF.out.mono ?_; rintro e w1 ⟨rfl, k1⟩)
    go_ret2
    unfold enE
    simp only [hf]
    exact ⟨rfl, k1⟩
  | ok y =>
    obtain ⟨Fs, n1⟩ := y
    rw [hf] at CF
    have CF' : Hid (Calls Tryd.prog 53 #[.pointer (some ⟨p, 0, none⟩)] w fun e w' => e = .returned (.tuple #[.int .i64 0, .bool false]) ∧ (∃ a cp, RdA w' p g go n c l ⟨o + 16 * f, s, f, d, nn, eh, .pointer (some ⟨tb, 0, none⟩), n1, .slice (some ⟨ga, 0, none⟩) T.length tcp, .slice a Fs.length cp, dv, en⟩ ∧ OwF w' w.heap.size (.slice a Fs.length cp) Fs ∧ n1 ≤ szF 1 N) ∧ Chg (fun k => k = p) w w') := hidOf (CF.out.mono (fun e w' h => ⟨h.1.1, h.1.2, h.2⟩))
    clear CF
    go_enter Tryd.func37, Tryd.ntmps37
    go_upto_region 4 with (go_at_call 53; refine CF'.out.mono ?_; rintro e w1 ⟨rfl, ⟨fa, fc, r1, of1, hn1⟩, k1⟩)
    have CD := hidOf (takeTables_any w1 p g go n c l _ r1 tb rfl N F (HT.out.chg k1 hF) hF hsz hn1 hr hn)
    have OF1 := hidOf of1
    have K1 := hidOf k1
    have hs1 : w.heap.size ≤ w1.heap.size := k1.size
    clear CF' r1 of1 k1 HT
    unfold tdE at CD
    dsimp only at CD
    cases hd : tdR l N d (o + 16 * f) n1 with
    | error q =>
      rw [hd] at CD
      go_wp2_with (go_at_call 54; refine CD.out.mono ?_; rintro e w2 ⟨rfl, k2⟩)
      go_ret2
      unfold enE
      simp only [hf, hd]
      exact ⟨rfl, K1.out.trans k2 (fun x h _ => h)⟩
    | ok z =>
      obtain ⟨D, n2⟩ := z
      rw [hd] at CD
      have CD' : Hid (Calls Tryd.prog 54 #[.pointer (some ⟨p, 0, none⟩)] w1 fun e w' => e = .returned (.tuple #[.int .i64 0, .bool false]) ∧ (∃ a cp, RdA w' p g go n c l ⟨o + 16 * f + 20 * d, s, f, d, nn, eh, .pointer (some ⟨tb, 0, none⟩), n2, .slice (some ⟨ga, 0, none⟩) T.length tcp, .slice fa Fs.length fc, .slice a D.length cp, en⟩ ∧ OwD w' w1.heap.size (.slice a D.length cp) D ∧ n2 ≤ szF 1 N) ∧ Chg (fun k => k = p) w1 w') := hidOf (CD.out.mono (fun e w' h => ⟨h.1.1, h.1.2, h.2⟩))
      clear CD
      go_upto_region 7 with (go_at_call 54; refine CD'.out.mono ?_; rintro e w2 ⟨rfl, ⟨da, dc, r2, od2, hn2⟩, k2⟩)
      have R2 := hidOf r2
      have K2 := hidOf (K1.out.trans k2 (fun x h _ => h))
      have OD2 : Hid (OwD w2 w.heap.size (.slice da D.length dc) D) := hidOf (own_base od2 hs1)
      have OF2 : Hid (OwF w2 w.heap.size (.slice fa Fs.length fc) Fs) := hidOf (owns_chg OF1.out (fun k hk e => by have := (OF1.out.lt k hk).1; omega) k2)
      have c9 : w2.cell? ⟨p, 9, none⟩ = some (.int .i64 (n2 : Nat)) := r2.cell 9 _ rfl
      have c6 : w2.cell? ⟨p, 6, none⟩ = some (.int .i64 (nn : Nat)) := r2.cell 6 _ rfl
      obtain ⟨k, hk⟩ : ∃ k, Hid (k = n - nn) := ⟨_, rfl⟩
      have hkb : k ≤ n := by rw [hk.out]; omega
      have CS : Hid (∀ wx, Eqh w2 wx → Calls Tryd.prog 52 #[.pointer (some ⟨p, 0, none⟩)] wx fun e w' => e = .returned (.int .i64 (k : Nat)) ∧ Eqh w2 w') := hidOf (fun wx hx => by
        refine (stringsAt_any wx p g go n c l _ (R2.out.eqh hx) hrn hn).mono ?_
        rintro e w' ⟨rfl, m, rfl⟩
        rw [← hk.out]
        exact ⟨rfl, hx.of_drewN m⟩)
      have wk : IntKind.i64.wrap ((k : Int) + (n2 : Int)) = (k : Int) + (n2 : Int) := by rw [wrap64_eq17]; unfold wrap64; omega
      clear CD' r2 od2 k2 K1 OF1
      go_region_held3 (fun wx => wx.cell? ⟨p, 9, none⟩ = some (.int .i64 (n2 : Nat)) ∧ wx.cell? ⟨p, 6, none⟩ = some (.int .i64 (nn : Nat))) (first | go_keep | assumption | exact ⟨(q3.cell ⟨p, 9, none⟩).trans c9, (q3.cell ⟨p, 6, none⟩).trans c6⟩) (first | (go_at_call 52; refine (CS.out _ (by first | exact Eqh.refl _ | exact Eqh.drew _)).mono ?_; rintro e w3 ⟨rfl, q3⟩))
      go_wp2
      go_ret2
      unfold enE
      simp only [hf, hd]
      refine ⟨⟨?_, fa, fc, da, dc, R2.out.eqh q3, ?_, ?_⟩, K2.out.trans (T := fun _ => False) (Chg.of_out q3.out) (fun _ h _ => h.elim)⟩
      · rw [← hk.out]
        exact rfl
      · exact owns_chg (S := fun _ => False) OF2.out (fun _ _ h => h) (Chg.of_out q3.out)
      · exact owns_chg (S := fun _ => False) OD2.out (fun _ _ h => h) (Chg.of_out q3.out)
end Go.Proofs.YtbnoaedkonnflaaDoor
