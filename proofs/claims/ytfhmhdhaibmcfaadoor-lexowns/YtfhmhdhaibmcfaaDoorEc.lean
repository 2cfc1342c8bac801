import Derived.Test.YtfhmhdhaibmcfaaDoorEb
import Derived.OwnWalk
import Derived.Deep.RegionHeld3
import Derived.Deep.Cut
namespace Go.Proofs.YtfhmhdhaibmcfaaDoor
open Go.RowKit
set_option linter.unusedVariables false
set_option linter.unusedSimpArgs false
/-- a token -/
structure Tk where
  k : Int
  t : List UInt8
  n : Int
  l : Int
def Tk.cs (x : Tk) : List Value := [.int .i64 x.k, .string ⟨x.t.toArray⟩, .int .u64 x.n, .int .i64 x.l]
def tkV (l : List Tk) : List Value := l.flatMap Tk.cs
theorem tkV_len (l : List Tk) : (tkV l).length = l.length * 4 := by
  induction l with
  | nil => rfl
  | cons x r ih => show (x.cs ++ tkV r).length = _; rw [List.length_append, ih]; simp [Tk.cs]; omega
theorem tkV_snoc (l : List Tk) (x : Tk) : tkV (l ++ [x]) = tkV l ++ x.cs := by simp [tkV, List.flatMap_append]
theorem tk_one (x : Tk) : ∀ u ∈ x.cs, u.oneCell' = true := by
  intro u hu
  simp [Tk.cs] at hu
  rcases hu with rfl | rfl | rfl | rfl <;> rfl
theorem infoTk : (Tryd.prog.info? 36).map (fun i => (i.zero, i.size, i.bytes)) = some (some (.agg #[.int .i64 0, .string ⟨#[]⟩, .int .u64 0, .int .i64 0]), 4, 40) := by kernel_rfl
theorem owns_chg {B size : Nat} {S : Nat → Prop} {w w' : World} {e : TypeId} {v : Value} {n : Nat} {xs : List Value} (h : w.ownsRow B e size v n xs) (hs : ∀ k, v.ownBlock = some k → ¬ S k) (hc : Chg S w w') : w'.ownsRow B e size v n xs := by
  refine ⟨h.1, ?_⟩
  rcases h.2 with hn | ⟨g, cap, cur, rfl, hb, hg, rest⟩
  · exact .inl hn
  · refine .inr ⟨g, cap, cur, rfl, hb, ?_, rest⟩
    rw [hc.block g (Array.getElem?_eq_some_iff.1 hg).1 (hs g rfl)]
    exact hg
/-- the scanner, in plain words -/
structure Sn where
  line : List UInt8
  num : Nat
  at' : Nat
  cnt : Nat
  keeps : Bool
  T : List Tk
def Sn.cells (s : Sn) (rv tv : Value) : Array Value := #[rv, .string ⟨s.line.toArray⟩, .int .i64 s.num, .int .i64 s.at', .int .i64 s.cnt, .bool s.keeps, tv]
/-- the scanner's block at p, its tokens' row behind N and elsewhere -/
structure Sc (N p : Nat) (w : World) (rv tv : Value) (s : Sn) : Prop where
  le : N ≤ p
  at_ : w.heap[p]? = some (.cells (s.cells rv tv) 65 (0, 0))
  own : w.ownsRow N 36 4 tv s.T.length (tkV s.T)
  ne : ∀ k, tv.ownBlock = some k → ¬ k = p
theorem Sc.cell {N p : Nat} {w : World} {rv tv : Value} {s : Sn} (h : Sc N p w rv tv s) (j : Nat) : w.cell? ⟨p, j, none⟩ = (s.cells rv tv)[j]? := by simp [World.cell?, h.at_]
theorem Sc.frozen {N p : Nat} {w : World} {rv tv : Value} {s : Sn} (h : Sc N p w rv tv s) (j : Nat) : w.frozen? ⟨p, j, none⟩ = false := by simp [World.frozen?, h.at_]
theorem Sc.lt {N p : Nat} {w : World} {rv tv : Value} {s : Sn} (h : Sc N p w rv tv s) : p < w.heap.size := (Array.getElem?_eq_some_iff.1 h.at_).1
theorem Sc.base {N p : Nat} {w : World} {rv tv : Value} {s : Sn} (h : Sc N p w rv tv s) : N ≤ w.heap.size := by have := h.lt; have := h.le; omega
theorem Sc.drew {N p : Nat} {w : World} {rv tv : Value} {s : Sn} (h : Sc N p w rv tv s) : Sc N p w.drew rv tv s := ⟨h.le, h.at_, owns_chg (S := fun _ => False) h.own (fun _ _ h => h) ((Chg.refl _ w).drew), h.ne⟩
theorem Sc.drewN {N p : Nat} {w : World} {rv tv : Value} {s : Sn} (h : Sc N p w rv tv s) (n : Nat) : Sc N p (w.drewN n) rv tv s := ⟨h.le, h.at_, owns_chg (S := fun _ => False) h.own (fun _ _ h => h) (Chg.of_out ((Out.refl w).drewN n)), h.ne⟩
theorem Sc.out {N p : Nat} {w w' : World} {rv tv : Value} {s : Sn} (h : Sc N p w rv tv s) (o : Out w w') : Sc N p w' rv tv s := ⟨h.le, (o.block p h.lt).trans h.at_, owns_chg (S := fun _ => False) h.own (fun _ _ h => h) (Chg.of_out o), h.ne⟩
theorem Sc.set {N p : Nat} {w : World} {rv tv rv' : Value} {s : Sn} (h : Sc N p w rv tv s) (j : Nat) (u : Value) (s' : Sn) (hT : s'.T = s.T) (hc : (s.cells rv tv).setIfInBounds j u = s'.cells rv' tv) : Sc N p (w.setCell ⟨p, j, none⟩ u) rv' tv s' := by
  refine ⟨h.le, ?_, ?_, h.ne⟩
  · rw [← hc]
    simp [World.setCell, Array.getElem?_modify, h.at_]
  · rw [hT]
    exact owns_chg (S := fun k => k = p) h.own h.ne (Chg.setCell (S := fun k => k = p) (Chg.refl _ w) (p := ⟨p, j, none⟩) rfl u)
theorem Below.set_own {N : Nat} {w w' : World} (h : Below N w w') {p j : Nat} (hp : N ≤ p) (u : Value) : Below N w (w'.setCell ⟨p, j, none⟩ u) := Below.setCell h hp u
def Sn.add (s : Sn) (k : Int) (t : List UInt8) (n : Int) : Sn := { s with cnt := s.cnt + 1, T := if s.keeps then s.T ++ [⟨k, t, n, s.num⟩] else s.T }
theorem own_form {B n sz : Nat} {X : World} {e : TypeId} {v : Value} {xs : List Value} (h : X.ownsRow B e sz v n xs) : ∃ ad cp, v = .slice ad n cp := by
  rcases h.2 with ⟨rfl, rfl⟩ | ⟨g, cap, cur, rfl, _⟩
  · exact ⟨none, 0, rfl⟩
  · exact ⟨_, _, rfl⟩
theorem news_new (w : World) (cs : Array Value) (t : TypeId) (b : Nat) (hb : b = w.heap.size) : ∀ j u, cs.toList[j]? = some u → (w.alloc (.cells cs t)).cell? ((⟨b, 0, none⟩ : Addr).add j) = some u := by
  intro j u hu
  rw [WideShapes.add_plain, Nat.zero_add, cell_fresh _ _ _ _ _ hb]
  simpa using hu
theorem news_drew (w : World) (cs : Array Value) (t : TypeId) (b : Nat) (hb : b = w.heap.size) : ∀ j u, cs.toList[j]? = some u → (w.alloc (.cells cs t)).drew.cell? ((⟨b, 0, none⟩ : Addr).add j) = some u := news_new w cs t b hb
/-- behind an append to the scanner's row -/
theorem Sc.grown {N p : Nat} {X w' : World} {rv tv v' : Value} {s s' : Sn} {g cap : Nat} (h : Sc N p X rv tv s) (hg : X.grownBy w' tv.ownBlock) (hv : v' = .slice (some ⟨g, 0, none⟩) s'.T.length cap) (ho : w'.ownsRow N 36 4 v' s'.T.length (tkV s'.T)) (hw : tv.ownBlock = some g ∨ g = X.heap.size) (hc : ∀ u, s.cells rv u = s'.cells rv u) : Sc N p (w'.setCell ⟨p, 6, none⟩ v') rv v' s' := by
  have hp : w'.heap[p]? = X.heap[p]? := hg.block p h.lt (fun e => h.ne p e.symm rfl)
  have hne : ¬ g = p := by
    rcases hw with hw | hw
    · exact h.ne g hw
    · have := h.lt; omega
  refine ⟨h.le, ?_, ?_, ?_⟩
  · rw [← hc]
    simp [World.setCell, Array.getElem?_modify, hp, h.at_, Sn.cells]
  · exact owns_chg (S := fun k => k = p) ho (fun k hk e => by rw [hv] at hk; simp [Value.ownBlock] at hk; exact hne (by rw [hk, e])) (Chg.setCell (S := fun k => k = p) (Chg.refl _ _) (p := ⟨p, 6, none⟩) rfl _)
  · intro k hk e
    rw [hv] at hk
    simp [Value.ownBlock] at hk
    exact hne (by rw [hk, e])
theorem Sc.cell_grown {N p : Nat} {X w' : World} {rv tv : Value} {s : Sn} (h : Sc N p X rv tv s) (hg : X.grownBy w' tv.ownBlock) : w'.cell? ⟨p, 6, none⟩ = some tv ∧ w'.frozen? ⟨p, 6, none⟩ = false := by
  have e : ¬ some p = tv.ownBlock := fun e => h.ne p e.symm rfl
  exact ⟨(hg.cell_far ⟨p, 6, none⟩ h.lt e).trans (h.cell 6), (hg.frozen_far ⟨p, 6, none⟩ h.lt e).trans (h.frozen 6)⟩
theorem Below.of_grown {N : Nat} {w X w' : World} {row : Option Nat} (hb : Below N w X) (hN : N ≤ w.heap.size) (hg : X.grownBy w' row) (hr : ∀ k, row = some k → N ≤ k) : Below N w w' :=
  Below.trans hb ((Chg.of_grown (S := fun k => N ≤ k) hg hr).below (Nat.le_trans hN hb.size) (fun k h => h))
theorem own_le {B n sz : Nat} {X : World} {e : TypeId} {v : Value} {xs : List Value} (h : X.ownsRow B e sz v n xs) : ∀ k, v.ownBlock = some k → B ≤ k := fun k hk => (h.lt k hk).1
/-- a method's end -/
def SEnd (N p : Nat) (rv : Value) (w : World) (s' : Sn) (w' : World) : Prop := (∃ tv', Sc N p w' rv tv' s') ∧ Below N w w'
set_option maxHeartbeats 1000000 in
theorem add_any (N p : Nat) (w : World) (rv tv : Value) (s : Sn) (k : Int) (t : List UInt8) (n : Int) (h : Sc N p w rv tv s) (hc : s.cnt ≤ 1000000000) (hT : s.T.length ≤ s.cnt) :
    Calls Tryd.prog 44 #[.pointer (some ⟨p, 0, none⟩), .int .i64 k, .string ⟨t.toArray⟩, .int .u64 n] w fun e w' => (∃ v, e = .returned v) ∧ SEnd N p rv w (s.add k t n) w' := by
  have c4 : w.cell? ⟨p, 4, none⟩ = some (.int .i64 s.cnt) := h.cell 4
  have f4 := h.frozen 4
  have hcI : (s.cnt : Int) ≤ 1000000000 := by omega
  have H := hidOf h
  have H1 : Hid (Sc N p (w.setCell ⟨p, 4, none⟩ (.int .i64 (s.cnt + 1))) rv tv { s with cnt := s.cnt + 1 }) := h.set 4 _ _ rfl (by simp [Sn.cells])
  have hB1 : Hid (Below N w (w.setCell ⟨p, 4, none⟩ (.int .i64 (s.cnt + 1)))) := Below.set_own (Below.refl _ _) h.le _
  clear h
  go_enter Tryd.func44, Tryd.ntmps44
  go_upto_region 1 with fail
  generalize w.setCell ⟨p, 4, none⟩ (.int .i64 (s.cnt + 1)) = w1 at *
  have c5 : w1.cell? ⟨p, 5, none⟩ = some (.bool s.keeps) := H1.out.cell 5
  cases hk : s.keeps
  · rw [hk] at c5
    go_wp2
    go_end0
    refine ⟨⟨_, rfl⟩, ⟨tv, ?_⟩, hB1.out⟩
    have h1 := H1.out
    unfold Sn.add
    rw [hk]
    rw [hk] at h1
    exact h1
  · rw [hk] at c5
    obtain ⟨i0, hi, hz0, hz1, hz2⟩ := info_parts infoTk
    obtain ⟨ad, cp, rfl⟩ : ∃ ad cp, tv = .slice ad s.T.length cp := own_form H1.out.own
    have c6 : w1.cell? ⟨p, 6, none⟩ = some (.slice ad s.T.length cp) := H1.out.cell 6
    have c2 : w1.cell? ⟨p, 2, none⟩ = some (.int .i64 s.num) := H1.out.cell 2
    have f6 := H1.out.frozen 6
    have a6 : ∀ O, (w1.alloc O).cell? ⟨p, 6, none⟩ = some (.slice ad s.T.length cp) := fun O => (H1.out.out ((Out.refl _).alloc O)).cell 6
    go_upto_region 2 with fail
    go_region_law (refine step_append_lies _ rfl (.tmp 23) (.tmp 32) 30 rfl N 36 i0 _ 4 40 Tryd.underlying30 hi hz0 hz1 hz2 rfl (by decide) (.slice ad s.T.length cp) s.T.length (tkV s.T) rfl (((H1.out.out ((Out.refl _).alloc _)).drew).own) ⟨w1.heap.size, 0, none⟩ 1 1 (Tk.cs ⟨k, t, n, s.num⟩) rfl rfl (news_drew _ _ _ _ rfl) (tk_one _) (by decide) (by unfold maxLen; omega) (by omega) (((H1.out.out ((Out.refl _).alloc _)).drew).base) _ rfl ?_; intro g cap w' hown' hgrow hg hlt; obtain ⟨q6, qf6⟩ := ((H1.out.out ((Out.refl _).alloc _)).drew).cell_grown hgrow; have Hown := hidOf hown'; have Hgrow := hidOf hgrow; have Hg := hidOf hg; clear hown' hgrow hg hlt)
    all_goals
      go_wp2
      go_end0
      have eT : (s.add k t n).T = s.T ++ [⟨k, t, n, s.num⟩] := by unfold Sn.add; rw [hk]; rfl
      have eL : (s.add k t n).T.length = s.T.length + 1 := by rw [eT]; simp
      have hS := (H1.out.out ((Out.refl _).alloc (.cells #[.int .i64 k, .string ⟨t.toArray⟩, .int .u64 n, .int .i64 s.num] 36))).drew
      refine ⟨⟨_, rfl⟩, ⟨_, hS.grown (s' := s.add k t n) Hgrow.out (by rw [eL]) (by rw [eL, eT, tkV_snoc]; exact Hown.out) Hg.out (fun u => rfl)⟩, ?_⟩
      exact Below.set_own (Below.of_grown ((hB1.out.alloc (Nat.le_trans H.out.base hB1.out.size) _).drew) H.out.base Hgrow.out (own_le hS.own)) H.out.le _
end Go.Proofs.YtfhmhdhaibmcfaaDoor
