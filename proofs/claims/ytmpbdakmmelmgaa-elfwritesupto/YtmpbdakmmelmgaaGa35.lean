import Derived.Test.YtmpbdakmmelmgaaGa34
namespace Go.Proofs.Ytmpbdakmmelmgaa
open Go.RowKit
set_option linter.unusedVariables false
set_option linter.unusedSimpArgs false
theorem StAt.self {w : World} {p j : Nat} {cs : Array Value} {u : Value} (h : StAt w p cs) (hj : cs[j]? = some u) : w.setCell ⟨p, j, none⟩ u = w := setCell_self h hj
theorem books_untouched0 (w : World) (p : Nat) (c0 c1 c2 ha ma ka wa : Value) (a1 : Option Addr) (cc1 : Nat) (hst : StAt w p #[c0, c1, c2, .slice a1 0 cc1, ha, ma, ka, wa]) :
    Calls Try.prog 49 #[.pointer (some ⟨p, 0, none⟩)] w fun e w' => (∃ r, e = .returned r) ∧ ∃ m, w' = w.drewN m := by
  have hc3 : w.cell? ⟨p, 3, none⟩ = some (.slice a1 0 cc1) := hst.cell 3
  go_enter Try.func49, Try.ntmps49
  go_wp2
  refine wp_loop_rounds 1 ?_
  rw [rounds_succ]
  go_wp2
  go_end0
  exact ⟨⟨_, rfl⟩, 0, rfl⟩
theorem books_untouched1 (w : World) (p : Nat) (c0 c1 ma ka wa : Value) (g1 g2 n cc1 cc2 : Nat) (hn : n ≤ 2000000000000) (hst : StAt w p #[c0, c1, .bool false, .slice (some ⟨g1, 0, none⟩) n cc1, .slice (some ⟨g2, 0, none⟩) n cc2, ma, ka, wa]) (hal : Alike2 w n g1 g2) :
    Calls Try.prog 49 #[.pointer (some ⟨p, 0, none⟩)] w fun e w' => (∃ r, e = .returned r) ∧ ∃ m, w' = w.drewN m := by
  have HA := hidOf hal
  clear hal
  go_enter Try.func49, Try.ntmps49
  go_wp2
  go_loopw [2] (fun i wr => ∃ k : Nat, k ≤ n ∧ i = .int .i64 k ∧ ∃ m, wr = w.drewN m) (fun i _ => n - (intOf i).toNat)
  case atStart => exact ⟨0, by omega, rfl, 0, rfl⟩
  case round =>
    obtain ⟨k, hk, rfl, m, rfl⟩ := hrel
    have hc2 : (w.drewN m).cell? ⟨p, 2, none⟩ = some (.bool false) := hst.cell 2
    have hf2 : (w.drewN m).frozen? ⟨p, 2, none⟩ = false := hst.frozen 2
    have hc3 : (w.drewN m).cell? ⟨p, 3, none⟩ = some (.slice (some ⟨g1, 0, none⟩) n cc1) := hst.cell 3
    have hc4 : (w.drewN m).cell? ⟨p, 4, none⟩ = some (.slice (some ⟨g2, 0, none⟩) n cc2) := hst.cell 4
    have hxx : k < n → ∃ x y s, (w.drewN m).cell? ⟨g1, k, none⟩ = some x ∧ (w.drewN m).cell? ⟨g2, k, none⟩ = some y ∧ ∀ q, (convert 36 9 x).run Try.prog ((w.drewN m).drewN q) = .ok (.string s) ((w.drewN m).drewN q) ∧ (convert 36 9 y).run Try.prog ((w.drewN m).drewN q) = .ok (.string s) ((w.drewN m).drewN q) := fun hk => by
      obtain ⟨x, y, s, h1, h2, h3⟩ := HA.out k hk
      exact ⟨x, y, s, h1, h2, fun q => by rw [drewN_twice]; exact h3 (m + q)⟩
    have hself : ∀ q, ((w.drewN m).drewN q).setCell ⟨p, 2, none⟩ (.bool false) = (w.drewN m).drewN q := fun q => StAt.self (w := (w.drewN m).drewN q) hst rfl
    have HS := hidOf hself
    have hself0 : (w.drewN m).setCell ⟨p, 2, none⟩ (.bool false) = w.drewN m := StAt.self (w := w.drewN m) hst rfl
    have HS0 := hidOf hself0
    clear hself hself0
    generalize hwm : w.drewN m = wm at *
    by_cases hkn : k < n
    · obtain ⟨x, y, s, q1, q2, hcv⟩ := hxx hkn
      have hv1 := fun q => (hcv q).1
      have hv2 := fun q => (hcv q).2
      have hw1 : (convert 36 9 x).run Try.prog wm.drew = .ok (.string s) wm.drew := hv1 1
      have hw2 : (convert 36 9 y).run Try.prog wm.drew = .ok (.string s) wm.drew := hv2 1
      clear hxx hcv
      have hlt : (k : Int) < n := by omega
      have h0k : (0 : Int) ≤ (k : Int) := by omega
      go_upto_region 3 with fail
      go_region_held3 (fun w' => w'.cell? ⟨p, 2, none⟩ = some (.bool false) ∧ w'.cell? ⟨p, 3, none⟩ = some (.slice (some ⟨g1, 0, none⟩) n cc1) ∧ w'.cell? ⟨p, 4, none⟩ = some (.slice (some ⟨g2, 0, none⟩) n cc2) ∧ w'.cell? ⟨g1, k, none⟩ = some x ∧ w'.cell? ⟨g2, k, none⟩ = some y ∧ w'.frozen? ⟨p, 2, none⟩ = false ∧ (convert 36 9 x).run Try.prog w' = .ok (.string s) w' ∧ (convert 36 9 y).run Try.prog w' = .ok (.string s) w') (first | (rw [HS0.out]; go_keep) | (rw [HS.out]; go_keep) | (simp only [HS.out]; go_keep) | go_keep)
        (fail)
      all_goals go_wp2
      all_goals go_roundw
      case rel =>
        refine ⟨k + 1, by omega, by simp, ?_⟩
        first | rw [HS0.out] | rw [HS.out]
        subst hwm
        first | exact ⟨_, rfl⟩ | exact ⟨_, (drewN_twice _ _ 1)⟩ | exact ⟨_, (drewN_twice _ _ _)⟩
      case measure => simp [intOf]; omega
    · obtain rfl : k = n := by omega
      clear hxx
      go_wp2
      go_end0
      exact ⟨⟨_, rfl⟩, _, hwm.symm⟩
end Go.Proofs.Ytmpbdakmmelmgaa
namespace Go.Proofs.Ytmpbdakmmelmgaa
open Go.RowKit
set_option linter.unusedVariables false
set_option linter.unusedSimpArgs false
theorem Pairs.drewN {w : World} {xs ys : List Value} (h : Pairs w xs ys) (m : Nat) : Pairs (w.drewN m) xs ys := fun j x y hx hy => by
  obtain ⟨s, hs⟩ := h j x y hx hy
  exact ⟨s, fun q => by rw [drewN_twice]; exact hs (m + q)⟩
theorem books_untouched (w : World) (B p : Nat) (c0 c1 fa ha ma ka wa : Value) (n : Nat) (xs ys : List Value) (hn : n ≤ 2000000000000) (hst : StAt w p #[c0, c1, .bool false, fa, ha, ma, ka, wa]) (h1 : w.ownsRow B 36 1 fa n xs) (h2 : w.ownsRow B 36 1 ha n ys) (hp : Pairs w xs ys) :
    Calls Try.prog 49 #[.pointer (some ⟨p, 0, none⟩)] w fun e w' => (∃ r, e = .returned r) ∧ ∃ m, w' = w.drewN m := by
  rcases two_rows h1 h2 with ⟨a, c, rfl, rfl⟩ | ⟨g1, g2, cc1, cc2, rfl, rfl⟩
  · exact books_untouched0 w p c0 c1 _ ha ma ka wa a c hst
  · exact books_untouched1 w p c0 c1 ma ka wa g1 g2 n cc1 cc2 hn hst (alike_of h1 h2 hp)
theorem books_same (w : World) (B p : Nat) (c0 c1 c2 fa ha ma ka wa : Value) (n : Nat) (xs ys : List Value) (hn : n ≤ 2000000000000) (hst : StAt w p #[c0, c1, c2, fa, ha, ma, ka, wa]) (h1 : w.ownsRow B 36 1 ka n xs) (h2 : w.ownsRow B 36 1 wa n ys) (hp : Pairs w xs ys) :
    Calls Try.prog 50 #[.pointer (some ⟨p, 0, none⟩)] w fun e w' => e = .returned (.bool true) ∧ ∃ m, w' = w.drewN m := by
  rcases two_rows h1 h2 with ⟨a, c, rfl, rfl⟩ | ⟨g1, g2, cc1, cc2, rfl, rfl⟩
  · exact books_same0 w p c0 c1 c2 fa ha ma wa a c hst
  · exact books_same1 w p c0 c1 c2 fa ha ma g1 g2 n cc1 cc2 hn hst (alike_of h1 h2 hp)
theorem books_holds (w : World) (B p : Nat) (c0 c1 fa ha ma ka wa : Value) (n n' : Nat) (xs ys ks ws : List Value) (hn : n ≤ 2000000000000) (hn' : n' ≤ 2000000000000) (hst : StAt w p #[c0, c1, .bool false, fa, ha, ma, ka, wa])
    (h1 : w.ownsRow B 36 1 fa n xs) (h2 : w.ownsRow B 36 1 ha n ys) (hp : Pairs w xs ys) (h3 : w.ownsRow B 36 1 ka n' ks) (h4 : w.ownsRow B 36 1 wa n' ws) (hq : Pairs w ks ws) :
    Calls Try.prog 18 #[.pointer (some ⟨p, 0, none⟩)] w fun e w' => e = .returned (.bool true) ∧ ∃ m, w' = w.drewN m := by
  have HU := hidOf (books_untouched w B p c0 c1 fa ha ma ka wa n xs ys hn hst h1 h2 hp)
  have HQ : Hid (∀ m, Calls Try.prog 50 #[.pointer (some ⟨p, 0, none⟩)] (w.drewN m) fun e w' => e = .returned (.bool true) ∧ ∃ k, w' = w.drewN k) :=
    fun m => (books_same (w.drewN m) B p c0 c1 _ fa ha ma ka wa n' ks ws hn' hst h3 h4 (hq.drewN m)).mono fun e w' ⟨he, k, hk⟩ => ⟨he, m + k, by rw [hk, drewN_twice]⟩
  have hc2 : ∀ m, (w.drewN m).cell? ⟨p, 2, none⟩ = some (.bool false) := fun m => StAt.cell (w := w.drewN m) hst 2
  clear hst h1 h2 hp h3 h4 hq
  go_enter Try.func18, Try.ntmps18
  go_wp2_with (first | (go_at_call 49; refine HU.out.mono ?_; rintro e w' ⟨⟨r, rfl⟩, m, rfl⟩; have hcm := hc2 m) | (go_at_call 50; refine (HQ.out _).mono ?_; rintro e w' ⟨rfl, k, rfl⟩))
  go_ret
  exact ⟨rfl, _, rfl⟩
def markB (k : Nat) (m : Int) : List Int := (List.range k).map (fun j : Nat => (m + 7 * (j : Int) + 1) % 256)
theorem markB_len (k : Nat) (m : Int) : (markB k m).length = k := by simp [markB]
theorem marked_any (w : World) (k : Nat) (m : Int) (hk : k ≤ 100000000000000) (h1 : 0 ≤ m) (h2 : m ≤ 2000000000000) : Calls Try.prog 76 #[.int .i64 k, .int .i64 m] w fun e w' => ∃ g, e = .returned (.slice (some ⟨g, 0, none⟩) k k) ∧ w'.ownsRow w.heap.size 5 1 (.slice (some ⟨g, 0, none⟩) k k) (markB k m).length (bV (markB k m)) ∧ Out w w' := by
  have hmk := run_make_row' (P := Try.prog) 36 5 (.int .u8 0) 1 Try.underlying36 info8 rfl .i64 .i64 k (by omega) (by omega)
  go_enter Try.func76, Try.ntmps76
  go_wp2
  clear hmk
  go_loopw [6] (fun i wr => ∃ j : Nat, j ≤ k ∧ i = .int .i64 j ∧ Hid (wr.rowIs w.heap.size 5 k (fun x => if x < j then .int .u8 ((m + 7 * x + 1) % 256) else .int .u8 0)) ∧ Hid (Out w wr)) (fun i _ => (k + 1 - intOf i).toNat)
  case atStart => exact ⟨0, by omega, rfl, by simpa [Hid] using World.rowIs_made w (.int .u8 0) k 5, hidOf (Out.alloc (Out.refl _) _)⟩
  case round =>
    obtain ⟨j, hj, rfl, Hrow, Hor⟩ := hrel
    by_cases hjk : j < k
    · have hc := Hrow.out.cell hjk
      have hf := Hrow.out.frozen j
      have hlt : (j : Int) < k := by omega
      have hb : (7 : Int) * (j : Int) ≤ 700000000000000 := by omega
      go_wp2
      go_roundw
      case rel =>
        refine ⟨j + 1, by omega, by simp, ?_, hidOf (Hor.out.setCell (a := ⟨w.heap.size, j, none⟩) (Nat.le_refl _) _)⟩
        refine (Hrow.out.set j _).congr (fun x hx => ?_)
        by_cases hxj : x = j
        · subst hxj; simp
        · simp only [hxj, if_false]
          by_cases hx2 : x < j
          · rw [if_pos hx2, if_pos (by omega)]
          · rw [if_neg hx2, if_neg (by omega)]
      case measure => simp [intOf]; omega
    · have hlt : ¬ (j : Int) < k := by omega
      obtain rfl : j = k := by omega
      go_wp2
      go_ret
      refine ⟨w.heap.size, rfl, ?_, Hor.out⟩
      rw [markB_len]
      refine owns_row Hrow.out (Nat.le_refl _) (by simp only [maxLen]; omega) (by simp [bV, markB]) (fun x hx => ?_)
      simp [bV, markB, hx]
theorem marked_int (w : World) (kI : Int) (k : Nat) (he : kI = (k : Int)) (m : Int) (hk : k ≤ 100000000000000) (h1 : 0 ≤ m) (h2 : m ≤ 2000000000000) : Calls Try.prog 76 #[.int .i64 kI, .int .i64 m] w fun e w' => ∃ g, e = .returned (.slice (some ⟨g, 0, none⟩) k k) ∧ w'.ownsRow w.heap.size 5 1 (.slice (some ⟨g, 0, none⟩) k k) (markB k m).length (bV (markB k m)) ∧ Out w w' := by
  subst he; exact marked_any w k m hk h1 h2
theorem marked_two (w : World) (kI mI : Int) (k : Nat) (m : Int) (he : kI = (k : Int)) (hm : mI = m) (hk : k ≤ 100000000000000) (h1 : 0 ≤ m) (h2 : m ≤ 2000000000000) : Calls Try.prog 76 #[.int .i64 kI, .int .i64 mI] w fun e w' => ∃ g, e = .returned (.slice (some ⟨g, 0, none⟩) k k) ∧ w'.ownsRow w.heap.size 5 1 (.slice (some ⟨g, 0, none⟩) k k) (markB k m).length (bV (markB k m)) ∧ Out w w' := by
  subst he hm; exact marked_any w k _ hk h1 h2
end Go.Proofs.Ytmpbdakmmelmgaa
