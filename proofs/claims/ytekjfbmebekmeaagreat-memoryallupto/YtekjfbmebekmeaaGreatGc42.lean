import Derived.Test.YtekjfbmebekmeaaGreatGc31
import Derived.Test.YtekjfbmebekmeaaGreatGc40
import Derived.Test.YtekjfbmebekmeaaGreatGc41
namespace Go.Proofs.YtekjfbmebekmeaaGreat
open Go.RowKit
set_option linter.unusedVariables false
set_option linter.unusedSimpArgs false
/-- the lender's blocks: the desk's own, the buffer's -/
def fpL (d : Nat) (bv : Value) (k : Nat) : Prop := k = d ∨ bv.ownBlock = some k
/-- what a desk holds -/
structure DkT where
  s : Nat
  v1 : Value
  v2 : Value
  X : List Rw
  Y : List Rw
  cv : Value
  a : Option Addr
  c : Nat
  n : Nat
  R : List Rg
  bv : Value
  N : Int
def DkT.fA (t : DkT) : Nat → Prop := fpA t.s t.v1 t.v2 t.X t.Y
def DkT.fR (t : DkT) : Nat → Prop := fpR (.slice t.a t.n t.c) t.R
def DkT.fp (t : DkT) (d k : Nat) : Prop := t.fA k ∨ t.fR k ∨ fpL d t.bv k
/-- the buffer: none yet, or bytes of its own -/
def BufI (B : Nat) (w : World) (bv : Value) : Prop := bv = .slice none 0 0 ∨ ∃ (g m : Nat) (L : List UInt8), bv = .slice (some ⟨g, 0, none⟩) m m ∧ B ≤ g ∧ w.heap[g]? = some (.cells (bCells L).toArray 5 (0, 0)) ∧ L.length = m
/-- a desk whose space is there -/
structure Dk (B : Nat) (w : World) (d : Nat) (t : DkT) (m : Nat) : Prop where
  blk : w.heap[d]? = some (.cells #[.pointer (some ⟨t.s, 0, none⟩), t.cv, t.bv, .int .i64 t.N] 61 (0, 0))
  db : B ≤ d
  sp : SpD B w t.s t.v1 t.v2 t.X t.Y m
  rl : RLs B w t.a t.c t.n t.R
  rn : t.R.length = t.n
  bf : BufI B w t.bv
  AR : ∀ k, t.fA k → ¬ t.fR k
  AL : ∀ k, t.fA k → ¬ fpL d t.bv k
  RL : ∀ k, t.fR k → ¬ fpL d t.bv k
theorem BufI.lt {B : Nat} {w : World} {bv : Value} (h : BufI B w bv) {k : Nat} (hk : bv.ownBlock = some k) : B ≤ k ∧ k < w.heap.size := by
  rcases h with rfl | ⟨g, m, L, rfl, h1, h2, _⟩
  · cases hk
  · simp [Value.ownBlock] at hk
    subst hk
    exact ⟨h1, (Array.getElem?_eq_some_iff.1 h2).1⟩
theorem BufI.keep {S : Nat → Prop} {B : Nat} {w w' : World} {bv : Value} (h : BufI B w bv) (c : Chg S w w') (hs : ∀ k, bv.ownBlock = some k → ¬ S k) : BufI B w' bv := by
  rcases h with rfl | ⟨g, m, L, rfl, h1, h2, h3⟩
  · exact .inl rfl
  · exact .inr ⟨g, m, L, rfl, h1, blk_chg h2 c (hs g rfl), h3⟩
section
variable {B m m' d : Nat} {w w' w0 : World} {t t0 : DkT} {S : Nat → Prop}
theorem Dk.lt (h : Dk B w d t m) {k : Nat} (hk : t.fp d k) : B ≤ k ∧ k < w.heap.size := by
  rcases hk with hk | hk | rfl | hk
  · exact h.sp.ltA hk
  · exact h.rl.lt hk
  · exact ⟨h.db, (Array.getElem?_eq_some_iff.1 h.blk).1⟩
  · exact h.bf.lt hk
theorem RLs.keep {a : Option Addr} {c n : Nat} {R : List Rg} (h : RLs B w a c n R) (o : Chg S w w') (hs : ∀ k, fpR (.slice a n c) R k → ¬ S k) : RLs B w' a c n R :=
  ⟨own_chg h.own o (fun b hb => hs b (.inl hb)), fun z hz => (h.da z hz).chg o (fun b hb => hs b (.inr ⟨z, hz, hb⟩))⟩
theorem Dk.keep (h : Dk B w d t m) (c : Chg S w w') (hs : ∀ k, t.fp d k → ¬ S k) : Dk B w' d t m :=
  ⟨blk_chg h.blk c (hs d (.inr (.inr (.inl rfl)))), h.db, h.sp.keep c (fun k hk => hs k (.inl hk)), h.rl.keep c (fun k hk => hs k (.inr (.inl hk))), h.rn, h.bf.keep c (fun k hk => hs k (.inr (.inr (.inr hk)))), h.AR, h.AL, h.RL⟩
theorem Dk.out (h : Dk B w d t m) (o : Out w w') : Dk B w' d t m := h.keep (Chg.of_out (S := fun _ => False) o) (fun _ _ h => h)
theorem SpD.mono {s : Nat} {v1 v2 : Value} {X Y : List Rw} (h : SpD B w s v1 v2 X Y m) (hm : m ≤ m') : SpD B w s v1 v2 X Y m' :=
  ⟨h.sp, h.ok, h.lX, h.lY, h.da, h.dn, h.ds, h.le, Nat.le_trans h.nm hm⟩
theorem Dk.mono (h : Dk B w d t m) (hm : m ≤ m') : Dk B w d t m' := ⟨h.blk, h.db, h.sp.mono hm, h.rl, h.rn, h.bf, h.AR, h.AL, h.RL⟩
/-- what becomes of a desk: what has changed since, what is new -/
structure DkR (B d m : Nat) (w0 : World) (t0 : DkT) (w : World) (t : DkT) : Prop where
  dk : Dk B w d t m
  chg : Chg (t0.fp d) w0 w
  new : ∀ k, t.fp d k → t0.fp d k ∨ w0.heap.size ≤ k
theorem DkR.start (h : Dk B w d t m) : DkR B d m w t w t := ⟨h, Chg.refl _ _, fun k hk => .inl hk⟩
theorem DkR.mono (h : DkR B d m w0 t0 w t) (hm : m ≤ m') : DkR B d m' w0 t0 w t := ⟨h.dk.mono hm, h.chg, h.new⟩
theorem DkR.out (h : DkR B d m w0 t0 w t) (o : Out w w') : DkR B d m w0 t0 w' t := ⟨h.dk.out o, h.chg.trans (Chg.of_out (S := fun _ => False) o) (fun _ hk _ => hk.elim), h.new⟩
theorem RLs.base' {a : Option Addr} {c n : Nat} {R : List Rg} (h : RLs w.heap.size w' a c n R) (hb : B ≤ w.heap.size) : RLs B w' a c n R := h.base hb
/-- the document's list anew -/
theorem DkR.ref (h : DkR B d m w0 t0 w t) (o : Out w w') {a : Option Addr} {c n : Nat} {R : List Rg} (hr : RLs w.heap.size w' a c n R) (hn : R.length = n) : DkR B d m w0 t0 w' { t with a := a, c := c, n := n, R := R } := by
  have h1 := h.out o
  have hB : B ≤ w.heap.size := Nat.le_of_lt (Nat.lt_of_le_of_lt h.dk.db (h.dk.lt (.inr (.inr (.inl rfl)))).2)
  refine ⟨⟨h1.dk.blk, h1.dk.db, h1.dk.sp, hr.base hB, hn, h1.dk.bf, fun k hk hk2 => ?_, h.dk.AL, fun k hk hk2 => ?_⟩, h1.chg, fun k hk => ?_⟩
  · have h2 := (h.dk.lt (.inl hk)).2
    have h3 := (hr.lt hk2).1
    omega
  · have h2 := (h.dk.lt (.inr (.inr hk2))).2
    have h3 := (hr.lt hk).1
    omega
  · rcases hk with hk | hk | hk
    · exact h.new k (.inl hk)
    · have h3 := (hr.lt hk).1
      exact .inr (Nat.le_trans h.chg.size h3)
    · exact h.new k (.inr (.inr hk))
theorem DkR.into (h : DkR B d m w0 t0 w t) {k : Nat} (hk : t.fp d k) (hl : k < w0.heap.size) : t0.fp d k := (h.new k hk).resolve_right (by omega)
/-- the program's space anew -/
theorem DkR.prog (h : DkR B d m w0 t0 w t) {v1 v2 : Value} {X Y : List Rw} (sp : SpD B w' t.s v1 v2 X Y m') (c : Chg t.fA w w') (hn : ∀ k, fpA t.s v1 v2 X Y k → t.fA k ∨ w.heap.size ≤ k) : DkR B d m' w0 t0 w' { t with v1 := v1, v2 := v2, X := X, Y := Y } := by
  refine ⟨⟨blk_chg h.dk.blk c (fun hk => h.dk.AL _ hk (.inl rfl)), h.dk.db, sp, h.dk.rl.keep c (fun k hk hk2 => h.dk.AR k hk2 hk), h.dk.rn, h.dk.bf.keep c (fun k hk hk2 => h.dk.AL k hk2 (.inr hk)), fun k hk hk2 => ?_, fun k hk hk2 => ?_, h.dk.RL⟩, h.chg.trans c (fun k hk hl => h.into (.inl hk) hl), fun k hk => ?_⟩
  · rcases hn k hk with h1 | h1
    · exact h.dk.AR k h1 hk2
    · have := (h.dk.lt (.inr (.inl hk2))).2
      omega
  · rcases hn k hk with h1 | h1
    · exact h.dk.AL k h1 hk2
    · have := (h.dk.lt (.inr (.inr hk2))).2
      omega
  · rcases hk with hk | hk
    · rcases hn k hk with h1 | h1
      · exact h.new k (.inl h1)
      · exact .inr (Nat.le_trans h.chg.size h1)
    · exact h.new k (.inr hk)
/-- the document's list is put into the desk -/
theorem DkR.setR (h : DkR B d m w0 t0 w t) (u : Value) : DkR B d m w0 t0 (w.setCell ⟨d, 1, none⟩ u) { t with cv := u } := by
  have c : Chg (fun b => b = d) w (w.setCell ⟨d, 1, none⟩ u) := (Chg.refl (fun b => b = d) w).setCell rfl _
  refine ⟨⟨?_, h.dk.db, h.dk.sp.keep c (fun k hk e => h.dk.AL k hk (.inl e)), h.dk.rl.keep c (fun k hk e => h.dk.RL k hk (.inl e)), h.dk.rn, ?_, h.dk.AR, h.dk.AL, h.dk.RL⟩, h.chg.trans c (fun k hk hl => by subst hk; exact h.into (.inr (.inr (.inl rfl))) hl), h.new⟩
  · rw [set_atL h.dk.blk]; rfl
  · refine h.dk.bf.keep c (fun k hk e => ?_)
    subst e
    rcases h.dk.bf with e | ⟨g, mm, L, e, _, hg, _⟩
    · rw [e] at hk; cases hk
    · rw [e] at hk
      simp [Value.ownBlock] at hk
      subst hk
      rw [h.dk.blk] at hg
      simp at hg
/-- bytes are lent: the buffer anew -/
theorem DkR.lend (h : DkR B d m w0 t0 w t) {g mm : Nat} {N : Int} {L : List UInt8} (c : Chg (SL d g) w w') (hg : t.bv.ownBlock = some g ∨ w.heap.size ≤ g) (hl : LeC w' d 2 g mm #[.pointer (some ⟨t.s, 0, none⟩), t.cv, .slice (some ⟨g, 0, none⟩) mm mm, .int .i64 N] N L) : DkR B d m w0 t0 w' { t with bv := .slice (some ⟨g, 0, none⟩) mm mm, N := N } := by
  have hB : B ≤ w.heap.size := Nat.le_of_lt (Nat.lt_of_le_of_lt h.dk.db (h.dk.lt (.inr (.inr (.inl rfl)))).2)
  have hBg : B ≤ g := hg.elim (fun e => (h.dk.bf.lt e).1) (fun e => Nat.le_trans hB e)
  have hA : ∀ k, t.fA k → ¬ SL d g k := fun k hk hs => by
    rcases hs with rfl | rfl
    · exact h.dk.AL k hk (.inl rfl)
    · rcases hg with e | e
      · exact h.dk.AL k hk (.inr e)
      · have := (h.dk.lt (.inl hk)).2; omega
  have hR : ∀ k, t.fR k → ¬ SL d g k := fun k hk hs => by
    rcases hs with rfl | rfl
    · exact h.dk.RL k hk (.inl rfl)
    · rcases hg with e | e
      · exact h.dk.RL k hk (.inr e)
      · have := (h.dk.lt (.inr (.inl hk))).2; omega
  have hS : ∀ k, fpL d (.slice (some ⟨g, 0, none⟩) mm mm) k → SL d g k := fun k hk => by
    rcases hk with rfl | hk
    · exact .inl rfl
    · simp [Value.ownBlock] at hk; exact .inr hk.symm
  refine ⟨⟨hl.hp, h.dk.db, h.dk.sp.keep c (fun k hk => hA k hk), h.dk.rl.keep c (fun k hk => hR k hk), h.dk.rn, .inr ⟨g, mm, L, rfl, hBg, hl.hg, hl.len_⟩, h.dk.AR, fun k hk hk2 => hA k hk (hS k hk2), fun k hk hk2 => hR k hk (hS k hk2)⟩, h.chg.trans c (fun k hk hkl => ?_), fun k hk => ?_⟩
  · rcases hk with rfl | rfl
    · exact h.into (.inr (.inr (.inl rfl))) hkl
    · rcases hg with e | e
      · exact h.into (.inr (.inr (.inr e))) hkl
      · have := h.chg.size; omega
  · rcases hk with hk | hk | hk
    · exact h.new k (.inl hk)
    · exact h.new k (.inr (.inl hk))
    · rcases hS k hk with rfl | rfl
      · exact h.new k (.inr (.inr (.inl rfl)))
      · rcases hg with e | e
        · exact h.new k (.inr (.inr (.inr e)))
        · exact .inr (Nat.le_trans h.chg.size e)
end
end Go.Proofs.YtekjfbmebekmeaaGreat
namespace Go.Proofs.YtekjfbmebekmeaaGreat
open Go.RowKit
set_option linter.unusedVariables false
set_option linter.unusedSimpArgs false
theorem load8_nil (w : World) (at_ : Nat) : Calls Tryz.prog 59 #[.pointer none, .int .u64 at_] w fun e w' => e = .returned (.tuple #[.int .u64 0, .int .i64 1]) ∧ w' = w := by
  go_enter Tryz.func59, Tryz.ntmps59
  go_wp2_with (first | (go_at_call 85; refine (size8 _).mono ?_; rintro e w9 ⟨rfl, hw9⟩; subst hw9) | (go_at_call 67; refine (access_nil _ _ _).mono ?_; rintro e w1 ⟨rfl, hw1⟩; subst hw1) | (go_at_call 86; refine (numberN8 _).mono ?_; rintro e w8 ⟨rfl, hw8⟩; subst hw8))
  refine bodyPost_ret (results_tmp2 rfl _ _ _) rfl ?_
  exact ⟨rfl, rfl⟩
theorem store8_nil (w : World) (at_ x : Nat) : Calls Tryz.prog 63 #[.pointer none, .int .u64 at_, .int .u8 x] w fun e w' => e = .returned (.int .i64 1) ∧ w' = w := by
  go_enter Tryz.func63, Tryz.ntmps63
  go_wp2_with (first | (go_at_call 85; refine (size8 _).mono ?_; rintro e w9 ⟨rfl, hw9⟩; subst hw9) | (go_at_call 67; refine (access_nil _ _ _).mono ?_; rintro e w1 ⟨rfl, hw1⟩; subst hw1) | (go_at_call 93; refine (layN8 _ x).mono ?_; rintro e w8 ⟨⟨q, rfl⟩, hw8⟩; subst hw8))
  go_ret
  exact ⟨rfl, rfl⟩
theorem load16_nil (w : World) (at_ : Nat) : Calls Tryz.prog 60 #[.pointer none, .int .u64 at_] w fun e w' => e = .returned (.tuple #[.int .u64 0, .int .i64 1]) ∧ w' = w := by
  go_enter Tryz.func60, Tryz.ntmps60
  go_wp2_with (first | (go_at_call 87; refine (size16 _).mono ?_; rintro e w9 ⟨rfl, hw9⟩; subst hw9) | (go_at_call 67; refine (access_nil _ _ _).mono ?_; rintro e w1 ⟨rfl, hw1⟩; subst hw1) | (go_at_call 88; refine (numberN16 _).mono ?_; rintro e w8 ⟨rfl, hw8⟩; subst hw8))
  refine bodyPost_ret (results_tmp2 rfl _ _ _) rfl ?_
  exact ⟨rfl, rfl⟩
theorem store16_nil (w : World) (at_ x : Nat) : Calls Tryz.prog 64 #[.pointer none, .int .u64 at_, .int .u16 x] w fun e w' => e = .returned (.int .i64 1) ∧ w' = w := by
  go_enter Tryz.func64, Tryz.ntmps64
  go_wp2_with (first | (go_at_call 87; refine (size16 _).mono ?_; rintro e w9 ⟨rfl, hw9⟩; subst hw9) | (go_at_call 67; refine (access_nil _ _ _).mono ?_; rintro e w1 ⟨rfl, hw1⟩; subst hw1) | (go_at_call 94; refine (layN16 _ x).mono ?_; rintro e w8 ⟨⟨q, rfl⟩, hw8⟩; subst hw8))
  go_ret
  exact ⟨rfl, rfl⟩
theorem load32_nil (w : World) (at_ : Nat) : Calls Tryz.prog 61 #[.pointer none, .int .u64 at_] w fun e w' => e = .returned (.tuple #[.int .u64 0, .int .i64 1]) ∧ w' = w := by
  go_enter Tryz.func61, Tryz.ntmps61
  go_wp2_with (first | (go_at_call 89; refine (size32 _).mono ?_; rintro e w9 ⟨rfl, hw9⟩; subst hw9) | (go_at_call 67; refine (access_nil _ _ _).mono ?_; rintro e w1 ⟨rfl, hw1⟩; subst hw1) | (go_at_call 90; refine (numberN32 _).mono ?_; rintro e w8 ⟨rfl, hw8⟩; subst hw8))
  refine bodyPost_ret (results_tmp2 rfl _ _ _) rfl ?_
  exact ⟨rfl, rfl⟩
theorem store32_nil (w : World) (at_ x : Nat) : Calls Tryz.prog 65 #[.pointer none, .int .u64 at_, .int .u32 x] w fun e w' => e = .returned (.int .i64 1) ∧ w' = w := by
  go_enter Tryz.func65, Tryz.ntmps65
  go_wp2_with (first | (go_at_call 89; refine (size32 _).mono ?_; rintro e w9 ⟨rfl, hw9⟩; subst hw9) | (go_at_call 67; refine (access_nil _ _ _).mono ?_; rintro e w1 ⟨rfl, hw1⟩; subst hw1) | (go_at_call 95; refine (layN32 _ x).mono ?_; rintro e w8 ⟨⟨q, rfl⟩, hw8⟩; subst hw8))
  go_ret
  exact ⟨rfl, rfl⟩
theorem load64_nil (w : World) (at_ : Nat) : Calls Tryz.prog 62 #[.pointer none, .int .u64 at_] w fun e w' => e = .returned (.tuple #[.int .u64 0, .int .i64 1]) ∧ w' = w := by
  go_enter Tryz.func62, Tryz.ntmps62
  go_wp2_with (first | (go_at_call 91; refine (size64 _).mono ?_; rintro e w9 ⟨rfl, hw9⟩; subst hw9) | (go_at_call 67; refine (access_nil _ _ _).mono ?_; rintro e w1 ⟨rfl, hw1⟩; subst hw1) | (go_at_call 92; refine (numberN64 _).mono ?_; rintro e w8 ⟨rfl, hw8⟩; subst hw8))
  refine bodyPost_ret (results_tmp2 rfl _ _ _) rfl ?_
  exact ⟨rfl, rfl⟩
theorem store64_nil (w : World) (at_ x : Nat) : Calls Tryz.prog 66 #[.pointer none, .int .u64 at_, .int .u64 x] w fun e w' => e = .returned (.int .i64 1) ∧ w' = w := by
  go_enter Tryz.func66, Tryz.ntmps66
  go_wp2_with (first | (go_at_call 91; refine (size64 _).mono ?_; rintro e w9 ⟨rfl, hw9⟩; subst hw9) | (go_at_call 67; refine (access_nil _ _ _).mono ?_; rintro e w1 ⟨rfl, hw1⟩; subst hw1) | (go_at_call 96; refine (layN64 _ x).mono ?_; rintro e w8 ⟨⟨q, rfl⟩, hw8⟩; subst hw8))
  go_ret
  exact ⟨rfl, rfl⟩
set_option maxHeartbeats 2000000 in
theorem Load_nil (w : World) (at_ : Nat) (wd : Int) : Calls Tryz.prog 28 #[.pointer none, .int .u64 at_, .int .i64 wd] w fun e w' => e = .returned (.tuple #[.int .u64 0, .int .i64 1]) ∧ w' = w := by
  by_cases h8 : wd = 8
  · subst h8
    go_enter Tryz.func28, Tryz.ntmps28
    go_wp2_with (go_at_call 59; refine (load8_nil _ _).mono ?_; rintro e w1 ⟨rfl, hw1⟩; subst hw1)
    refine bodyPost_ret (results_tmp2 rfl _ _ _) rfl ?_
    exact ⟨rfl, rfl⟩
  · by_cases h16 : wd = 16
    · subst h16
      go_enter Tryz.func28, Tryz.ntmps28
      go_wp2_with (go_at_call 60; refine (load16_nil _ _).mono ?_; rintro e w1 ⟨rfl, hw1⟩; subst hw1)
      refine bodyPost_ret (results_tmp2 rfl _ _ _) rfl ?_
      exact ⟨rfl, rfl⟩
    · by_cases h32 : wd = 32
      · subst h32
        go_enter Tryz.func28, Tryz.ntmps28
        go_wp2_with (go_at_call 61; refine (load32_nil _ _).mono ?_; rintro e w1 ⟨rfl, hw1⟩; subst hw1)
        refine bodyPost_ret (results_tmp2 rfl _ _ _) rfl ?_
        exact ⟨rfl, rfl⟩
      · have e8 : (wd == 8) = false := by simpa using h8
        have e16 : (wd == 16) = false := by simpa using h16
        have e32 : (wd == 32) = false := by simpa using h32
        go_enter Tryz.func28, Tryz.ntmps28
        go_wp2_with (go_at_call 62; refine (load64_nil _ _).mono ?_; rintro e w1 ⟨rfl, hw1⟩; subst hw1)
        refine bodyPost_ret (results_tmp2 rfl _ _ _) rfl ?_
        exact ⟨rfl, rfl⟩
set_option maxHeartbeats 2000000 in
theorem Store_nil (w : World) (at_ x : Nat) (wd : Int) (hx : x < 18446744073709551616) : Calls Tryz.prog 30 #[.pointer none, .int .u64 at_, .int .i64 wd, .int .u64 x] w fun e w' => e = .returned (.int .i64 1) ∧ w' = w := by
  by_cases h8 : wd = 8
  · subst h8
    have C := store8_nil w at_ (x % 256)
    rw [show ((x % 256 : Nat) : Int) = (x : Int) % 256 by omega] at C
    have C := hidOf C
    go_enter Tryz.func30, Tryz.ntmps30
    go_wp2_with (go_at_call 63; refine C.out.mono ?_; rintro e w1 ⟨rfl, hw1⟩; subst hw1)
    go_ret
    exact ⟨rfl, rfl⟩
  · by_cases h16 : wd = 16
    · subst h16
      have C := store16_nil w at_ (x % 65536)
      rw [show ((x % 65536 : Nat) : Int) = (x : Int) % 65536 by omega] at C
      have C := hidOf C
      go_enter Tryz.func30, Tryz.ntmps30
      go_wp2_with (go_at_call 64; refine C.out.mono ?_; rintro e w1 ⟨rfl, hw1⟩; subst hw1)
      go_ret
      exact ⟨rfl, rfl⟩
    · by_cases h32 : wd = 32
      · subst h32
        have C := store32_nil w at_ (x % 4294967296)
        rw [show ((x % 4294967296 : Nat) : Int) = (x : Int) % 4294967296 by omega] at C
        have C := hidOf C
        go_enter Tryz.func30, Tryz.ntmps30
        go_wp2_with (go_at_call 65; refine C.out.mono ?_; rintro e w1 ⟨rfl, hw1⟩; subst hw1)
        go_ret
        exact ⟨rfl, rfl⟩
      · have e8 : (wd == 8) = false := by simpa using h8
        have e16 : (wd == 16) = false := by simpa using h16
        have e32 : (wd == 32) = false := by simpa using h32
        have C := store64_nil w at_ x
        have C := hidOf C
        go_enter Tryz.func30, Tryz.ntmps30
        go_wp2_with (go_at_call 66; refine C.out.mono ?_; rintro e w1 ⟨rfl, hw1⟩; subst hw1)
        go_ret
        exact ⟨rfl, rfl⟩
theorem Bytes_nil (w : World) (at_ : Nat) (N : Int) : Calls Tryz.prog 32 #[.pointer none, .int .u64 at_, .int .i64 N] w fun e w' => e = .returned (.tuple #[.slice none 0 0, .int .i64 1]) ∧ w' = w := by
  go_enter Tryz.func32, Tryz.ntmps32
  go_wp2_with (first | (go_at_call 67; refine (access_nil _ _ _).mono ?_; rintro e w1 ⟨rfl, hw1⟩; subst hw1) | (go_at_call 68; refine (cloneB_nil _).mono ?_; rintro e w2 ⟨rfl, hw2⟩; subst hw2))
  refine bodyPost_ret (results_tmp2 rfl _ _ _) rfl ?_
  exact ⟨rfl, rfl⟩
theorem Put_nil (w : World) (at_ k bc : Nat) (ba : Option Addr) : Calls Tryz.prog 35 #[.pointer none, .int .u64 at_, .slice ba k bc] w fun e w' => e = .returned (.int .i64 1) ∧ w' = w := by
  go_enter Tryz.func35, Tryz.ntmps35
  have hcp := copy_none w 3 ba k bc
  go_wp2_with (go_at_call 67; refine (access_nil _ _ _).mono ?_; rintro e w1 ⟨rfl, hw1⟩; subst hw1)
  go_ret
  exact ⟨rfl, rfl⟩
theorem Remove_nil (w : World) (f : Nat) : Calls Tryz.prog 26 #[.pointer none, .int .u64 f] w fun e w' => e = .returned (.int .i64 1) ∧ w' = w := by
  go_enter Tryz.func26, Tryz.ntmps26
  go_wp2
  go_ret
  exact ⟨rfl, rfl⟩
theorem Add_nil (w : World) (f n c : Nat) (a : Option Addr) : Calls Tryz.prog 22 #[.pointer none, .agg #[.int .u64 f, .slice a n c]] w fun e w' => e = .returned (.int .i64 1) ∧ Out w w' := by
  go_enter Tryz.func22, Tryz.ntmps22
  go_wp2
  go_ret
  exact ⟨rfl, by first | exact Out.refl _ | exact (Out.refl _).alloc _⟩
end Go.Proofs.YtekjfbmebekmeaaGreat
