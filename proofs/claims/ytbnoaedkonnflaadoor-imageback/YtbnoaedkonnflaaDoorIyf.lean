import Derived.Test.YtbnoaedkonnflaaDoorIye
namespace Go.Proofs.YtbnoaedkonnflaaDoor
open Go.RowKit
set_option linter.unusedVariables false
set_option linter.unusedSimpArgs false
theorem atF_sz : ∀ (N : List (List UInt8)) (a : Nat) (q : Int) (x : List UInt8), atF a N q = some x → q + x.length + 1 ≤ szF a N
  | [], _, _, _, h => by simp [atF] at h
  | y :: r, a, q, x, h => by
    rw [atF] at h
    have h1 := szF_ge r (a + y.length + 1)
    rw [show szF a (y :: r) = szF (a + y.length + 1) r from rfl]
    split at h
    · cases h; omega
    · exact atF_sz r _ q x h
/-- what takeName leaves -/
def tnE (l : List UInt8) (p g go n c : Nat) (w : World) (r : Rs) (N : List (List UInt8)) (pl : Nat) (e : Ending) (w' : World) : Prop :=
  (match nmT N r.nx pl with
   | none => e = .returned (.tuple #[.string ⟨#[]⟩, .bool false])
   | some (x, nx') => e = .returned (.tuple #[.string ⟨x.toArray⟩, .bool true]) ∧ RdA w' p g go n c l { r with nx := nx' } ∧ nx' ≤ szF 1 N) ∧ Chg (fun k => k = p) w w'
set_option maxRecDepth 8000 in
set_option maxHeartbeats 1000000 in
theorem takeName_any (w : World) (p g go n c : Nat) (l : List UInt8) (r : Rs) (h : RdA w p g go n c l r) (tb : Nat) (htb : r.nm = .pointer (some ⟨tb, 0, none⟩)) (N : List (List UInt8)) (F : Nat → Prop) (hT : Tab tb w N F) (hsz : szF 1 N ≤ 1000000000000) (hnx : r.nx ≤ szF 1 N) (pl : Nat) : Calls Tryd.prog 64 #[.pointer (some ⟨p, 0, none⟩), .int .i64 (pl : Nat)] w (tnE l p g go n c w r N pl) := by
  have H := hidOf h
  have hpl := h.pl
  have HT := hidOf hT
  obtain ⟨o, s, f, d, nn, e, nm, nx, tv, fv, dv, en⟩ := r
  simp only at htb hnx
  subst htb
  have c8 : w.cell? ⟨p, 8, none⟩ = some (.pointer (some ⟨tb, 0, none⟩)) := h.cell 8 _ rfl
  have c9 : w.cell? ⟨p, 9, none⟩ = some (.int .i64 (nx : Nat)) := h.cell 9 _ rfl
  have f9 := h.frozen 9
  clear h hT
  go_enter Tryd.func64, Tryd.ntmps64
  by_cases h1 : pl < 1
  · have h1' : (pl : Int) < 1 := by omega
    go_wp2
    go_ret2
    have e0 : nmT N nx pl = none := by unfold nmT; rw [if_pos (.inl h1)]
    unfold tnE; dsimp only; rw [e0]
    exact ⟨rfl, Chg.refl _ _⟩
  · have h1' : ¬ (pl : Int) < 1 := by omega
    by_cases h2 : nx < pl
    · have h2' : (nx : Int) < pl := by omega
      go_wp2
      go_ret2
      have e0 : nmT N nx pl = none := by unfold nmT; rw [if_pos (.inr h2)]
      unfold tnE; dsimp only; rw [e0]
      exact ⟨rfl, Chg.refl _ _⟩
    · have h2' : ¬ (nx : Int) < pl := by omega
      cases ha : atF 1 N pl with
      | none =>
        have CA := hidOf (at_none tb w N F pl HT.out hsz (by omega) ha)
        go_wp2_with (go_at_call 72; refine CA.out.mono ?_; rintro e w1 ⟨rfl, m, rfl⟩)
        go_ret2
        have e0 : nmT N nx pl = none := by unfold nmT; rw [if_neg (by omega), ha]
        unfold tnE; dsimp only; rw [e0]
        exact ⟨rfl, (Chg.refl _ _).of_drewN m⟩
      | some x =>
        have CA := hidOf (at_some tb w N F pl x HT.out hsz ha)
        have hsx := atF_sz N 1 pl x ha
        obtain ⟨L, hL⟩ : ∃ L, Hid (L = x.length) := ⟨_, rfl⟩
        have hLs : (⟨x.toArray⟩ : ByteArray).size = L := by rw [hL.out]; rfl
        have hLb : L ≤ 1000000000000 := by rw [hL.out]; omega
        by_cases h3 : pl = nx
        · subst h3
          have hnb : pl + L + 1 ≤ szF 1 N := by rw [hL.out]; omega
          go_upto_region 6 with (go_at_call 72; refine CA.out.mono ?_; rintro e w1 ⟨rfl, m, rfl⟩)
          have d9 : (w.drewN m).cell? ⟨p, 9, none⟩ = some (.int .i64 (pl : Nat)) := c9
          have g9 : (w.drewN m).frozen? ⟨p, 9, none⟩ = false := f9
          have R2 := hidOf (H.out.out (Out.drewN (Out.refl w) m))
          have C2 : Hid (Chg (fun k => k = p) w (w.drewN m)) := hidOf ((Chg.refl _ _).of_drewN m)
          generalize w.drewN m = w2 at *
          clear CA HT c8 c9 f9 H
          go_wp2
          go_ret2
          have e0 : nmT N pl pl = some (x, pl + x.length + 1) := by unfold nmT; rw [if_neg (by omega), ha]; simp
          unfold tnE; dsimp only; rw [e0]
          refine ⟨⟨rfl, ?_, by rw [← hL.out]; exact hnb⟩, Chg.setP C2.out _ _⟩
          refine R2.out.set 9 _ ?_
          rw [← hL.out, show (pl : Int) + ((L : Int) + 1) = ((pl + L + 1 : Nat) : Int) by omega]
          rfl
        · have h3' : ¬ (pl : Int) = nx := by omega
          go_wp2_with (go_at_call 72; refine CA.out.mono ?_; rintro e w1 ⟨rfl, m, rfl⟩)
          go_ret2
          have e0 : nmT N nx pl = some (x, nx) := by unfold nmT; rw [if_neg (by omega), ha]; simp [h3]
          unfold tnE; dsimp only; rw [e0]
          exact ⟨⟨rfl, H.out.out (Out.drewN (Out.refl _) _), hnx⟩, (Chg.refl _ _).of_drewN m⟩
end Go.Proofs.YtbnoaedkonnflaaDoor
