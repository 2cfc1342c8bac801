import Derived.Test.YtekjfbmebekmeaaGreatGc42
import Derived.Test.YtekjfbmebekmeaaGreatGc43
import Derived.Test.YtekjfbmebekmeaaGreatGc31
namespace Go.Proofs.YtekjfbmebekmeaaGreat
open Go.RowKit
set_option linter.unusedVariables false
set_option linter.unusedSimpArgs false
/-- the cells of a desk that has lent -/
def csD (t : DkT) (g mm : Nat) (n : Nat) : Array Value := #[.pointer (some ⟨t.s, 0, none⟩), t.cv, .slice (some ⟨g, 0, none⟩) mm mm, .int .i64 (n : Int)]
theorem Dk.sz {B m d : Nat} {w : World} {t : DkT} (h : Dk B w d t m) : B ≤ w.heap.size := Nat.le_of_lt (Nat.lt_of_le_of_lt h.db (h.lt (.inr (.inr (.inl rfl)))).2)
theorem RestAt.nb {B : Nat} {w : World} {a : Option Addr} {l : List UInt8} (hr : RestAt B w a l) : ¬ l = [] → ∀ ad, a = some ad → ad.block < B := fun h0 ad had => by
  rcases hr with h1 | ⟨b, o, hb, h1, _⟩
  · exact absurd h1 h0
  · rw [h1] at had; cases had; exact hb
theorem lendL_any (B m d : Nat) (w : World) (t : DkT) (h : Dk B w d t m) (a : Option Addr) (cap : Nat) (l : List UInt8) (hr : RestAt B w a l) (hl : l.length ≤ 60000000000000) :
    Calls Tryz.prog 54 #[.pointer (some ⟨d, 2, none⟩), .slice a l.length cap] w fun e w' => ∃ g mm R, e = .returned (.slice (some ⟨g, 0, none⟩) l.length (2 * l.length + 70)) ∧ LeC w' d 2 g mm (csD t g mm l.length) l.length (l ++ (lmsB l.length (l.length + 70) ++ R)) ∧ Chg (SL d g) w w' ∧ (t.bv.ownBlock = some g ∨ w.heap.size ≤ g) := by
  have nb := hr.nb
  have hdb := h.db
  have mk : ∀ (ha : Option Addr) (hn hc : Nat), t.bv = .slice ha hn hc → hn < 2 * l.length + 70 → Calls Tryz.prog 54 #[.pointer (some ⟨d, 2, none⟩), .slice a l.length cap] w fun e w' => ∃ g mm R, e = .returned (.slice (some ⟨g, 0, none⟩) l.length (2 * l.length + 70)) ∧ LeC w' d 2 g mm (csD t g mm l.length) l.length (l ++ (lmsB l.length (l.length + 70) ++ R)) ∧ Chg (SL d g) w w' ∧ (t.bv.ownBlock = some g ∨ w.heap.size ≤ g) := fun ha hn hc e hlt => by
    refine (lendC_make B w d 2 w.heap.size (4 * l.length + 512) _ _ (List.replicate (4 * l.length + 512) 0) ha hn hc t.N h.blk (by rw [e]; rfl) rfl rfl a cap l hr h.sz (fun h0 ad had => by have := nb h0 ad had; omega) rfl rfl rfl hl hlt).mono ?_
    rintro e1 w1 ⟨he, hlc, hc1⟩
    exact ⟨_, _, _, he, hlc, hc1, .inr (Nat.le_refl _)⟩
  rcases h.bf with e | ⟨g, mm, L, e, hBg, hg, hlen⟩
  · exact mk none 0 0 e (by omega)
  · by_cases hm : 2 * l.length + 70 ≤ mm
    · refine (lendC_again B w d 2 g mm _ t.N L ⟨h.blk, by rw [e]; rfl, rfl, hg, hlen⟩ a cap l hr (fun h0 ad had => by have := nb h0 ad had; omega) (fun h0 ad had => by have := nb h0 ad had; omega) hm (by omega)).mono ?_
      rintro e1 w1 ⟨he, hlc, hc1⟩
      refine ⟨g, mm, L.drop (2 * l.length + 70), he, ?_, hc1, .inl (by rw [e]; rfl)⟩
      rw [e] at hlc
      exact hlc
    · exact mk (some ⟨g, 0, none⟩) mm mm e (by omega)
/-- what a desk's lend gives -/
def LdE (B d : Nat) (t : DkT) (l : List UInt8) (w : World) (e : Ending) (w' : World) : Prop := ∃ g mm R ba bc, e = .returned (.slice ba l.length bc) ∧ RestA w' ba l ∧ LeC w' d 2 g mm (csD t g mm l.length) l.length (l ++ (lmsB l.length (l.length + 70) ++ R)) ∧ ∃ w1, Out w w1 ∧ Chg (SL d g) w1 w' ∧ (t.bv.ownBlock = some g ∨ w1.heap.size ≤ g)
theorem LeC.chg {S : Nat → Prop} {w w' : World} {p po g m : Nat} {cs : Array Value} {N : Int} {L : List UInt8} (h : LeC w p po g m cs N L) (c : Chg S w w') (hp : ¬ S p) (hg : ¬ S g) : LeC w' p po g m cs N L := ⟨blk_chg h.hp c hp, h.h0, h.h1, blk_chg h.hg c hg, h.len_⟩
set_option maxHeartbeats 4000000 in
theorem lendD_any (B m d : Nat) (w : World) (t : DkT) (h : Dk B w d t m) (which kind : Int) (at_ : Nat) (N : Int) (x dc : Nat) (da : Option Addr) (l : List UInt8) (hr : RestAt B w da l) (hl : l.length ≤ 60000000000000) (hx : x < 18446744073709551616) :
    Calls Tryz.prog 23 #[.pointer (some ⟨d, 0, none⟩), actV which kind at_ N x l.length dc da] w fun e w' => LdE B d t l w e w' := by
  unfold actV
  obtain ⟨k, hk⟩ : ∃ k, Hid (k = l.length) := ⟨_, rfl⟩
  obtain ⟨p, hp⟩ : ∃ p, Hid (p = w.heap.size) := ⟨_, rfl⟩
  obtain ⟨w0, H0, b0, o0⟩ : ∃ w0, Hid (w0 = w.alloc (.cells #[.int .i64 which, .int .i64 kind, .int .u64 at_, .int .i64 N, .int .u64 x, .slice da l.length dc] 31)) ∧ w0.heap[p]? = some (.cells #[.int .i64 which, .int .i64 kind, .int .u64 at_, .int .i64 N, .int .u64 x, .slice da l.length dc] 31 (0, 0)) ∧ Out w w0 := ⟨_, rfl, by rw [hp.out]; exact heap_alloc_new w _, (Out.refl w).alloc _⟩
  have c4 : w0.cell? ⟨p, 4, none⟩ = some (.int .u64 x) := (cell_B b0 4).trans rfl
  have c5 : w0.cell? ⟨p, 5, none⟩ = some (.slice da l.length dc) := (cell_B b0 5).trans rfl
  have h0 := h.out o0
  have LC := hidOf (lendL_any B m d w0.drew t (h0.out (Out.refl w0).drew) da dc l (hr.imp id (fun ⟨b, o, h1, h2, h3⟩ => ⟨b, o, h1, h2, fun k x hk => cell_later o0 (h3 k x hk)⟩)) hl)
  have hpd : ¬ p = d := fun e => by have := (h.lt (.inr (.inr (.inl rfl)))).2; rw [hp.out] at e; omega
  have hpg : ∀ g, (t.bv.ownBlock = some g ∨ w0.heap.size ≤ g) → ¬ p = g := fun g hg e => by
    rcases hg with hg | hg
    · have := (h.bf.lt hg).2; rw [hp.out] at e; omega
    · have := (Array.getElem?_eq_some_iff.1 b0).1; omega
  have HPD := hidOf hpd
  have HPG := hidOf hpg
  have O0 := hidOf o0
  rw [← hk.out] at H0 c5 LC ⊢
  have hnil : l = [] ∨ ¬ k = 0 := by
    by_cases h1 : l = []
    · exact .inl h1
    · exact .inr (by rw [hk.out]; exact fun e => h1 (List.eq_nil_of_length_eq_zero e))
  have fin : Hid (∀ W g mm R ba bc, RestA W ba l → LeC W d 2 g mm (csD t g mm k) k (l ++ (lmsB k (k + 70) ++ R)) → Chg (SL d g) w0.drew W → (t.bv.ownBlock = some g ∨ w0.heap.size ≤ g) → LdE B d t l w (.returned (.slice ba k bc)) W) := hidOf (fun W g mm R ba bc h1 h2 h3 h4 => by
    rw [hk.out] at *
    exact ⟨g, mm, R, ba, bc, rfl, h1, h2, w0.drew, O0.out.drew, h3, h4⟩)
  clear b0 o0 h h0 hr hpd hpg
  by_cases hz : k = 0
  · have hl0 : Hid (l = []) := hidOf (hnil.resolve_right (by omega))
    have hkI : ((k : Int) == 0) = true := by rw [hz]; rfl
    have HZ := hidOf hz
    clear hnil hz
    cases hxb : (bits BinOp.and IntKind.u64 (x : Int) 1 == 1) with
    | true =>
      go_enter Tryz.func23, Tryz.ntmps23
      go_upto_region 1 with fail
      rw [← hp.out]
      rw [← H0.out]
      refine wp_region_held_drew (S := (fun w' => w'.cell? ⟨p, 5, none⟩ = some (.slice da k dc))) (by kernel_rfl) ?_ (fun hHeld => ?_)
      · exact c5
      refine wpAnyH_take (i := 0) (v := ?_) rfl (by kernel_rfl) (by kernel_rfl) (by kernel_rfl) (fun _ _ _ h => h) (Or.inl ⟨by rfl, ?_⟩) (by assumption) ?_
      rotate_left
      · (intro w hSw; (try dsimp only at hSw); go_simp; (try with_reducible rfl))
      show wpAnyH _ _ _ _ _ _ _ (Act.put _ (some 6) _) _
      simp only [Act.put, List.setIfInBounds_toArray, List.set_cons_zero, List.set_cons_succ]
      refine wpAnyH_take (i := 1) (v := ?_) rfl (by kernel_rfl) (by kernel_rfl) (by kernel_rfl) (fun _ _ _ h => h) (Or.inl ⟨by rfl, ?_⟩) (by assumption) ?_
      rotate_left
      · (intro w hSw; (try dsimp only at hSw); go_simp; (try with_reducible rfl))
      show wpAnyH _ _ _ _ _ _ _ (Act.put _ (some 7) _) _
      simp only [Act.put, List.setIfInBounds_toArray, List.set_cons_zero, List.set_cons_succ]
      refine wpAnyH_take (i := 2) (v := ?_) rfl (by kernel_rfl) (by kernel_rfl) (by kernel_rfl) (fun _ _ _ h => h) (Or.inl ⟨by rfl, ?_⟩) (by assumption) ?_
      rotate_left
      · (intro w hSw; (try dsimp only at hSw); go_simp; (try with_reducible rfl))
      show wpAnyH _ _ _ _ _ _ _ (Act.put _ (some 8) _) _
      simp only [Act.put, List.setIfInBounds_toArray, List.set_cons_zero, List.set_cons_succ]
      refine wpAnyH_take (i := 3) (v := ?_) rfl (by kernel_rfl) (by kernel_rfl) (by kernel_rfl) (fun _ _ _ h => h) (Or.inl ⟨by rfl, ?_⟩) (by assumption) ?_
      rotate_left
      · (intro w hSw; (try dsimp only at hSw); go_simp; (try with_reducible rfl))
      show wpAnyH _ _ _ _ _ _ _ (Act.put _ (some 9) _) _
      simp only [Act.put, List.setIfInBounds_toArray, List.set_cons_zero, List.set_cons_succ]
      refine wpAnyH_take (i := 4) (v := ?_) rfl (by kernel_rfl) (by kernel_rfl) (by kernel_rfl) (fun _ _ _ h => h) (Or.inl ⟨by rfl, ?_⟩) (by assumption) ?_
      rotate_left
      · (intro w hSw; (try dsimp only at hSw); go_simp; (try with_reducible rfl))
      show wpAnyH _ _ _ _ _ _ _ (Act.put _ (some 10) _) _
      simp only [Act.put, List.setIfInBounds_toArray, List.set_cons_zero, List.set_cons_succ]
      refine wpAnyH_ready (rs := [5]) (by kernel_rfl) (by simp) ?_
      refine (AllReadyH.cons rfl (fun Ko5 hKo5 => ?_) AllReadyH.nil)
      rw [if_pos (by rfl)]
      go_simp
      go_at_call 54
      refine (LC.out).mono ?_
      rintro e w1 ⟨g, mm, R, rfl, hlc, hc1, hg1⟩
      have HLC := hidOf hlc
      have HC1 := hidOf hc1
      have HG1 := hidOf hg1
      have e4 := hc1.cell (show w0.drew.cell? _ = _ from c4) (fun hs => hs.elim HPD.out (HPG.out g hg1))
      have e5 := hc1.cell (show w0.drew.cell? _ = _ from c5) (fun hs => hs.elim HPD.out (HPG.out g hg1))
      clear hlc hc1 hg1
      refine hKo5.out _ _ e5 (fun hHeld5 => ?_)
      try simp only [Act.put, List.setIfInBounds_toArray, List.set_cons_zero, List.set_cons_succ]
      refine wpAnyH_take (i := 6) (v := ?_) rfl (by kernel_rfl) (by kernel_rfl) (by kernel_rfl) (fun _ _ _ h => h) (Or.inl ⟨by rfl, ?_⟩) (by assumption) ?_
      rotate_left
      · (intro w hSw; (try dsimp only at hSw); go_simp; (try with_reducible rfl))
      show wpAnyH _ _ _ _ _ _ _ (Act.put _ (some 5) _) _
      simp only [Act.put, List.setIfInBounds_toArray, List.set_cons_zero, List.set_cons_succ]
      refine wpAnyH_done (by kernel_rfl) ?_ _
      go_wp2
      go_ret
      have h9 := fin.out w1 g mm R none 0 (.inl hl0.out) HLC.out HC1.out HG1.out
      rw [HZ.out] at h9
      exact h9
    | false =>
      go_enter Tryz.func23, Tryz.ntmps23
      go_upto_region 1 with fail
      rw [← hp.out]
      rw [← H0.out]
      refine wp_region_held_drew (S := (fun w' => w'.cell? ⟨p, 5, none⟩ = some (.slice da k dc))) (by kernel_rfl) ?_ (fun hHeld => ?_)
      · exact c5
      refine wpAnyH_take (i := 0) (v := ?_) rfl (by kernel_rfl) (by kernel_rfl) (by kernel_rfl) (fun _ _ _ h => h) (Or.inl ⟨by rfl, ?_⟩) (by assumption) ?_
      rotate_left
      · (intro w hSw; (try dsimp only at hSw); go_simp; (try with_reducible rfl))
      show wpAnyH _ _ _ _ _ _ _ (Act.put _ (some 6) _) _
      simp only [Act.put, List.setIfInBounds_toArray, List.set_cons_zero, List.set_cons_succ]
      refine wpAnyH_take (i := 1) (v := ?_) rfl (by kernel_rfl) (by kernel_rfl) (by kernel_rfl) (fun _ _ _ h => h) (Or.inl ⟨by rfl, ?_⟩) (by assumption) ?_
      rotate_left
      · (intro w hSw; (try dsimp only at hSw); go_simp; (try with_reducible rfl))
      show wpAnyH _ _ _ _ _ _ _ (Act.put _ (some 7) _) _
      simp only [Act.put, List.setIfInBounds_toArray, List.set_cons_zero, List.set_cons_succ]
      refine wpAnyH_take (i := 2) (v := ?_) rfl (by kernel_rfl) (by kernel_rfl) (by kernel_rfl) (fun _ _ _ h => h) (Or.inl ⟨by rfl, ?_⟩) (by assumption) ?_
      rotate_left
      · (intro w hSw; (try dsimp only at hSw); go_simp; (try with_reducible rfl))
      show wpAnyH _ _ _ _ _ _ _ (Act.put _ (some 8) _) _
      simp only [Act.put, List.setIfInBounds_toArray, List.set_cons_zero, List.set_cons_succ]
      refine wpAnyH_take (i := 3) (v := ?_) rfl (by kernel_rfl) (by kernel_rfl) (by kernel_rfl) (fun _ _ _ h => h) (Or.inl ⟨by rfl, ?_⟩) (by assumption) ?_
      rotate_left
      · (intro w hSw; (try dsimp only at hSw); go_simp; (try with_reducible rfl))
      show wpAnyH _ _ _ _ _ _ _ (Act.put _ (some 9) _) _
      simp only [Act.put, List.setIfInBounds_toArray, List.set_cons_zero, List.set_cons_succ]
      refine wpAnyH_take (i := 4) (v := ?_) rfl (by kernel_rfl) (by kernel_rfl) (by kernel_rfl) (fun _ _ _ h => h) (Or.inl ⟨by rfl, ?_⟩) (by assumption) ?_
      rotate_left
      · (intro w hSw; (try dsimp only at hSw); go_simp; (try with_reducible rfl))
      show wpAnyH _ _ _ _ _ _ _ (Act.put _ (some 10) _) _
      simp only [Act.put, List.setIfInBounds_toArray, List.set_cons_zero, List.set_cons_succ]
      refine wpAnyH_ready (rs := [5]) (by kernel_rfl) (by simp) ?_
      refine (AllReadyH.cons rfl (fun Ko5 hKo5 => ?_) AllReadyH.nil)
      rw [if_pos (by rfl)]
      go_simp
      go_at_call 54
      refine (LC.out).mono ?_
      rintro e w1 ⟨g, mm, R, rfl, hlc, hc1, hg1⟩
      have HLC := hidOf hlc
      have HC1 := hidOf hc1
      have HG1 := hidOf hg1
      have e4 := hc1.cell (show w0.drew.cell? _ = _ from c4) (fun hs => hs.elim HPD.out (HPG.out g hg1))
      have e5 := hc1.cell (show w0.drew.cell? _ = _ from c5) (fun hs => hs.elim HPD.out (HPG.out g hg1))
      clear hlc hc1 hg1
      refine hKo5.out _ _ e5 (fun hHeld5 => ?_)
      try simp only [Act.put, List.setIfInBounds_toArray, List.set_cons_zero, List.set_cons_succ]
      refine wpAnyH_take (i := 6) (v := ?_) rfl (by kernel_rfl) (by kernel_rfl) (by kernel_rfl) (fun _ _ _ h => h) (Or.inl ⟨by rfl, ?_⟩) (by assumption) ?_
      rotate_left
      · (intro w hSw; (try dsimp only at hSw); go_simp; (try with_reducible rfl))
      show wpAnyH _ _ _ _ _ _ _ (Act.put _ (some 5) _) _
      simp only [Act.put, List.setIfInBounds_toArray, List.set_cons_zero, List.set_cons_succ]
      refine wpAnyH_done (by kernel_rfl) ?_ _
      go_wp2
      go_ret
      exact fin.out w1 g mm R _ _ (.inl hl0.out) HLC.out HC1.out HG1.out
  · have hkI : ((k : Int) == 0) = false := by rw [beq_eq_false_iff_ne]; omega
    clear hnil hz
    go_enter Tryz.func23, Tryz.ntmps23
    go_upto_region 1 with fail
    rw [← hp.out]
    rw [← H0.out]
    refine wp_region_held_drew (S := (fun w' => w'.cell? ⟨p, 5, none⟩ = some (.slice da k dc))) (by kernel_rfl) ?_ (fun hHeld => ?_)
    · exact c5
    refine wpAnyH_take (i := 0) (v := ?_) rfl (by kernel_rfl) (by kernel_rfl) (by kernel_rfl) (fun _ _ _ h => h) (Or.inl ⟨by rfl, ?_⟩) (by assumption) ?_
    rotate_left
    · (intro w hSw; (try dsimp only at hSw); go_simp; (try with_reducible rfl))
    show wpAnyH _ _ _ _ _ _ _ (Act.put _ (some 6) _) _
    simp only [Act.put, List.setIfInBounds_toArray, List.set_cons_zero, List.set_cons_succ]
    refine wpAnyH_take (i := 1) (v := ?_) rfl (by kernel_rfl) (by kernel_rfl) (by kernel_rfl) (fun _ _ _ h => h) (Or.inl ⟨by rfl, ?_⟩) (by assumption) ?_
    rotate_left
    · (intro w hSw; (try dsimp only at hSw); go_simp; (try with_reducible rfl))
    show wpAnyH _ _ _ _ _ _ _ (Act.put _ (some 7) _) _
    simp only [Act.put, List.setIfInBounds_toArray, List.set_cons_zero, List.set_cons_succ]
    refine wpAnyH_take (i := 2) (v := ?_) rfl (by kernel_rfl) (by kernel_rfl) (by kernel_rfl) (fun _ _ _ h => h) (Or.inl ⟨by rfl, ?_⟩) (by assumption) ?_
    rotate_left
    · (intro w hSw; (try dsimp only at hSw); go_simp; (try with_reducible rfl))
    show wpAnyH _ _ _ _ _ _ _ (Act.put _ (some 8) _) _
    simp only [Act.put, List.setIfInBounds_toArray, List.set_cons_zero, List.set_cons_succ]
    refine wpAnyH_take (i := 3) (v := ?_) rfl (by kernel_rfl) (by kernel_rfl) (by kernel_rfl) (fun _ _ _ h => h) (Or.inl ⟨by rfl, ?_⟩) (by assumption) ?_
    rotate_left
    · (intro w hSw; (try dsimp only at hSw); go_simp; (try with_reducible rfl))
    show wpAnyH _ _ _ _ _ _ _ (Act.put _ (some 9) _) _
    simp only [Act.put, List.setIfInBounds_toArray, List.set_cons_zero, List.set_cons_succ]
    refine wpAnyH_take (i := 4) (v := ?_) rfl (by kernel_rfl) (by kernel_rfl) (by kernel_rfl) (fun _ _ _ h => h) (Or.inl ⟨by rfl, ?_⟩) (by assumption) ?_
    rotate_left
    · (intro w hSw; (try dsimp only at hSw); go_simp; (try with_reducible rfl))
    show wpAnyH _ _ _ _ _ _ _ (Act.put _ (some 10) _) _
    simp only [Act.put, List.setIfInBounds_toArray, List.set_cons_zero, List.set_cons_succ]
    refine wpAnyH_ready (rs := [5]) (by kernel_rfl) (by simp) ?_
    refine (AllReadyH.cons rfl (fun Ko5 hKo5 => ?_) AllReadyH.nil)
    rw [if_pos (by rfl)]
    go_simp
    go_at_call 54
    refine (LC.out).mono ?_
    rintro e w1 ⟨g, mm, R, rfl, hlc, hc1, hg1⟩
    have HLC := hidOf hlc
    have HC1 := hidOf hc1
    have HG1 := hidOf hg1
    have e4 := hc1.cell (show w0.drew.cell? _ = _ from c4) (fun hs => hs.elim HPD.out (HPG.out g hg1))
    have e5 := hc1.cell (show w0.drew.cell? _ = _ from c5) (fun hs => hs.elim HPD.out (HPG.out g hg1))
    clear hlc hc1 hg1
    refine hKo5.out _ _ e5 (fun hHeld5 => ?_)
    try simp only [Act.put, List.setIfInBounds_toArray, List.set_cons_zero, List.set_cons_succ]
    refine wpAnyH_take (i := 6) (v := ?_) rfl (by kernel_rfl) (by kernel_rfl) (by kernel_rfl) (fun _ _ _ h => h) (Or.inl ⟨by rfl, ?_⟩) (by assumption) ?_
    rotate_left
    · (intro w hSw; (try dsimp only at hSw); go_simp; (try with_reducible rfl))
    show wpAnyH _ _ _ _ _ _ _ (Act.put _ (some 5) _) _
    simp only [Act.put, List.setIfInBounds_toArray, List.set_cons_zero, List.set_cons_succ]
    refine wpAnyH_done (by kernel_rfl) ?_ _
    go_wp2
    go_ret
    exact fin.out w1 g mm R _ _ (HLC.out.rest.a) HLC.out HC1.out HG1.out
end Go.Proofs.YtekjfbmebekmeaaGreat
namespace Go.Proofs.YtekjfbmebekmeaaGreat
open Go.RowKit
set_option linter.unusedVariables false
set_option linter.unusedSimpArgs false
/-- what a desk holds behind open -/
def DeskO (L : List RI) (n B1 : Nat) (w : World) (d : Nat) : Prop := (w.cell? ⟨d, 0, none⟩ = some (.pointer none) ∧ (∃ cs, w.heap[d]? = some (.cells cs 61 (0, 0))) ∧ B1 ≤ d) ∨
    ∃ B0 s v1 v2 X Y a' c', ∃ R : List Rg, w.cell? ⟨d, 0, none⟩ = some (.pointer (some ⟨s, 0, none⟩)) ∧ w.cell? ⟨d, 1, none⟩ = some (.slice a' n c') ∧ SpD B0 w s v1 v2 X Y n ∧ RLs B1 w a' c' n R ∧ R.map fdR = L.map fdI ∧ ((flat X ++ flat Y).map fdR).Perm (L.map fdI) ∧ OX B1 B0 w d s v1 v2 X Y a' c' n R
theorem OpenE.desk {L : List RI} {n : Nat} {w w' : World} {e : Ending} (h : OpenE L n w e w') : ∃ d, e = .returned (.tuple #[.pointer (some ⟨d, 0, none⟩), .bool true]) ∧ Out w w' ∧ DeskO L n w.heap.size w' d := h
theorem sorted_of {R F : List Rg} (hp : (R.map fdR).Perm (F.map fdR)) (hd : F.Pairwise (fun x y => x.f ≠ y.f)) : ∃ S : List (Nat × List UInt8), (R.map fdR).Perm S ∧ S.Pairwise (fun x y => x.1 < y.1) := by
  have h1 := List.pairwise_mergeSort (le := fun (x y : Rg) => decide (x.f ≤ y.f)) (by intro a b c h1 h2; simp at h1 h2 ⊢; omega) (by intro a b; simp; omega) R
  have h2 := List.mergeSort_perm R (fun (x y : Rg) => decide (x.f ≤ y.f))
  have h3 : ((R.mergeSort (fun (x y : Rg) => decide (x.f ≤ y.f))).map fdR).Perm (R.map fdR) := h2.map fdR
  have h4 := strict_of (R := R.mergeSort (fun (x y : Rg) => decide (x.f ≤ y.f))) (h1.imp (fun {a b} hab => by simpa using hab)) (h3.trans hp) hd
  exact ⟨_, h3.symm, srt_fd h4⟩
set_option maxHeartbeats 8000000 in
set_option maxRecDepth 100000 in
theorem act_any (w : World) (L : List RI) (n B1 d : Nat) (h : DeskO L n B1 w d) (hL : ∀ x ∈ L, x.f < 18446744073709551616 ∧ x.d.length ≤ 1000000000) (hn : n ≤ 1000000000) (hl : L.length = n) :
    Calls Tryz.prog 8 #[.pointer (some ⟨d, 0, none⟩), actR] w fun e w' => ∃ v, e = .returned (.tuple #[.bool true, .slice none 0 0, v]) ∧ Out w w' := by
  obtain ⟨p, hp⟩ : ∃ p, Hid (p = w.heap.size) := ⟨_, rfl⟩
  obtain ⟨w0, H0, b0, o0⟩ : ∃ w0, Hid (w0 = w.alloc (.cells #[.int .i64 0, .int .i64 7, .int .u64 0, .int .i64 0, .int .u64 0, .slice none 0 0] 31)) ∧ w0.heap[p]? = some (.cells #[.int .i64 0, .int .i64 7, .int .u64 0, .int .i64 0, .int .u64 0, .slice none 0 0] 31 (0, 0)) ∧ Out w w0 := ⟨_, rfl, by rw [hp.out]; exact heap_alloc_new w _, (Out.refl w).alloc _⟩
  have c0 : w0.cell? ⟨p, 0, none⟩ = some (.int .i64 0) := (cell_B b0 0).trans rfl
  have c1 : w0.cell? ⟨p, 1, none⟩ = some (.int .i64 7) := (cell_B b0 1).trans rfl
  have c2 : w0.cell? ⟨p, 2, none⟩ = some (.int .u64 0) := (cell_B b0 2).trans rfl
  have c3 : w0.cell? ⟨p, 3, none⟩ = some (.int .i64 0) := (cell_B b0 3).trans rfl
  have c4 : w0.cell? ⟨p, 4, none⟩ = some (.int .u64 0) := (cell_B b0 4).trans rfl
  have c5 : w0.cell? ⟨p, 5, none⟩ = some (.slice none 0 0) := (cell_B b0 5).trans rfl
  have O0 := hidOf o0
  rcases h with ⟨h, _, _⟩ | ⟨B0, s, v1, v2, X, Y, a', c', R, h0, h1, hsp, hrl, hmr, hpm, _⟩
  · have cd : w0.cell? ⟨d, 0, none⟩ = some (.pointer none) := cell_later o0 h
    have NOC := hidOf (nothing_any w0 d cd)
    unfold actR at NOC ⊢
    clear b0 o0 h
    go_enter Tryz.func8, Tryz.ntmps8
    go_upto_region 1 with fail
    rw [← hp.out]
    rw [← H0.out]
    go_wp2_with (go_at_call 19; refine NOC.out.mono ?_; rintro e w1 ⟨rfl, ho1⟩; have O1 := hidOf (O0.out.trans ho1); clear ho1)
    refine bodyPost_ret (results_tmp3 rfl _ _ _) rfl ?_
    exact ⟨_, rfl, O1.out⟩
  · have cd0 : w0.cell? ⟨d, 0, none⟩ = some (.pointer (some ⟨s, 0, none⟩)) := cell_later o0 h0
    have cd1 : w0.cell? ⟨d, 1, none⟩ = some (.slice a' n c') := cell_later o0 h1
    have hRl : R.length = n := by have := congrArg List.length hmr; simpa [hl] using this
    have hRb : ∀ z ∈ R, z.d.length ≤ 140737488355328 ∧ z.f < 18446744073709551616 := fun z hz => by
      have h2 : fdR z ∈ L.map fdI := by rw [← hmr]; exact List.mem_map.2 ⟨z, hz, rfl⟩
      obtain ⟨y, hy, ey⟩ := List.mem_map.1 h2
      have h3 := hL y hy
      simp only [fdI, fdR, Prod.mk.injEq] at ey
      rw [ey.1, ey.2] at h3
      exact ⟨by omega, h3.1⟩
    have hpm2 : (R.map fdR).Perm ((flat X ++ flat Y).map fdR) := by rw [hmr]; exact hpm.symm
    obtain ⟨S, hS1, hS2⟩ := sorted_of hpm2 hsp.ok.dif
    have QC := hidOf (refRegions_any w0 B1 a' c' n R (hrl.out o0) hRl hRb (by omega) S hS1 hS2)
    have MC := hidOf (fun (W : World) (o : Out w W) => Regions_any W B0 s v1 v2 X Y n (hsp.out o) (by omega))
    have HS1 := hidOf hS1
    have HS2 := hidOf hS2
    have HP2 := hidOf hpm2
    have HRl := hidOf hRl
    unfold actR
    clear b0 o0 h0 h1 hsp hrl hmr hpm hRb hS1 hS2 hpm2 hRl c0 c2 c3 c4 c5
    go_enter Tryz.func8, Tryz.ntmps8
    go_upto_region 1 with fail
    rw [← hp.out]
    rw [← H0.out]
    go_upto_region 36 with (go_at_call 36; refine QC.out.mono ?_; rintro e w1 ⟨a1, c1', R1, rfl, hr1, hm1, ho1⟩; have RL1 := hidOf hr1; have HM1 := hidOf hm1; have O1 := hidOf ho1; have cd2 := cell_later ho1 cd0; clear hr1 hm1 ho1)
    have MC1 := hidOf (MC.out w1 (O0.out.trans O1.out))
    go_upto_region 37 with (go_at_call 37; refine MC1.out.mono ?_; rintro e w2 ⟨a2, c2', R2, rfl, hown2, hda2, hpm2, hsr2, ho2⟩; have W2 := hidOf hown2; have D2 := hidOf hda2; have P2 := hidOf hpm2; have T2 := hidOf hsr2; have O2 := hidOf ho2; clear hown2 hda2 hpm2 hsr2 ho2)
    have he : R2.map fdR = S := sorted_eq _ _ (srt_fd T2.out) HS2.out (P2.out.trans (HP2.out.symm.trans HS1.out))
    have hl2 : R2.length = n := by
      have e1 := congrArg List.length he
      have e2 := HS1.out.length_eq
      rw [List.length_map] at e1 e2
      rw [e1, ← e2]; exact HRl.out
    have SRC := hidOf (sameRegs_any w2 w1.heap.size w0.heap.size n c2' c1' a2 a1 R2 R1 ⟨by have h9 := W2.out; rw [hl2] at h9; exact h9, D2.out⟩ (RL1.out.out O2.out) (by rw [he]; exact HM1.out.symm) hl2 hn)
    rw [hl2]
    clear he hl2
    go_wp2_with (go_at_call 38; refine SRC.out.mono ?_; rintro e w3 ⟨rfl, ho3⟩; have O3 := hidOf ho3; clear ho3)
    refine bodyPost_ret (results_tmp3 rfl _ _ _) rfl ?_
    exact ⟨_, by first | rfl | simp, (O0.out.trans O1.out).trans (O2.out.trans O3.out)⟩
end Go.Proofs.YtekjfbmebekmeaaGreat
