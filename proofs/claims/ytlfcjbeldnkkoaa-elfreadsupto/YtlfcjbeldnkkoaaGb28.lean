import Derived.Test.YtlfcjbeldnkkoaaGb27
namespace Go.Proofs.Ytlfcjbeldnkkoaa
open Go.RowKit
set_option linter.unusedVariables false
set_option linter.unusedSimpArgs false
theorem StAt.self {w : World} {p j : Nat} {cs : Array Value} {u : Value} (h : StAt w p cs) (hj : cs[j]? = some u) : w.setCell ⟨p, j, none⟩ u = w := setCell_self h hj
theorem books_untouched0 (w : World) (p : Nat) (c0 c1 c2 ha ma ka wa : Value) (a1 : Option Addr) (cc1 : Nat) (hst : StAt w p #[c0, c1, c2, .slice a1 0 cc1, ha, ma, ka, wa]) :
    Calls Try.prog 44 #[.pointer (some ⟨p, 0, none⟩)] w fun e w' => (∃ r, e = .returned r) ∧ ∃ m, w' = w.drewN m := by
  have hc3 : w.cell? ⟨p, 3, none⟩ = some (.slice a1 0 cc1) := hst.cell 3
  go_enter Try.func44, Try.ntmps44
  go_wp2
  refine wp_loop_rounds 1 ?_
  rw [rounds_succ]
  go_wp2
  go_end0
  exact ⟨⟨_, rfl⟩, 0, rfl⟩
theorem books_untouched1 (w : World) (p : Nat) (c0 c1 ma ka wa : Value) (g1 g2 n cc1 cc2 : Nat) (hn : n ≤ 2000000000000) (hst : StAt w p #[c0, c1, .bool false, .slice (some ⟨g1, 0, none⟩) n cc1, .slice (some ⟨g2, 0, none⟩) n cc2, ma, ka, wa]) (hal : Alike2 w n g1 g2) :
    Calls Try.prog 44 #[.pointer (some ⟨p, 0, none⟩)] w fun e w' => (∃ r, e = .returned r) ∧ ∃ m, w' = w.drewN m := by
  have HA := hidOf hal
  clear hal
  go_enter Try.func44, Try.ntmps44
  go_wp2
  go_loopw [2] (fun i wr => ∃ k : Nat, k ≤ n ∧ i = .int .i64 k ∧ ∃ m, wr = w.drewN m) (fun i _ => n - (intOf i).toNat)
  case atStart => exact ⟨0, by omega, rfl, 0, rfl⟩
  case round =>
    obtain ⟨k, hk, rfl, m, rfl⟩ := hrel
    have hc2 : (w.drewN m).cell? ⟨p, 2, none⟩ = some (.bool false) := hst.cell 2
    have hf2 : (w.drewN m).frozen? ⟨p, 2, none⟩ = false := hst.frozen 2
    have hc3 : (w.drewN m).cell? ⟨p, 3, none⟩ = some (.slice (some ⟨g1, 0, none⟩) n cc1) := hst.cell 3
    have hc4 : (w.drewN m).cell? ⟨p, 4, none⟩ = some (.slice (some ⟨g2, 0, none⟩) n cc2) := hst.cell 4
    have hxx : k < n → ∃ x y s, (w.drewN m).cell? ⟨g1, k, none⟩ = some x ∧ (w.drewN m).cell? ⟨g2, k, none⟩ = some y ∧ ∀ q, (convert 24 9 x).run Try.prog ((w.drewN m).drewN q) = .ok (.string s) ((w.drewN m).drewN q) ∧ (convert 24 9 y).run Try.prog ((w.drewN m).drewN q) = .ok (.string s) ((w.drewN m).drewN q) := fun hk => by
      obtain ⟨x, y, s, h1, h2, h3⟩ := HA.out k hk
      exact ⟨x, y, s, h1, h2, fun q => by rw [drewN_twice]; exact h3 (m + q)⟩
    have hself : ∀ q, ((w.drewN m).drewN q).setCell ⟨p, 2, none⟩ (.bool false) = (w.drewN m).drewN q := fun q => StAt.self (w := (w.drewN m).drewN q) hst rfl
    have HS := hidOf hself
    have hself0 : (w.drewN m).setCell ⟨p, 2, none⟩ (.bool false) = w.drewN m := StAt.self (w := w.drewN m) hst rfl
    have HS0 := hidOf hself0
    clear hself hself0
    generalize hwm : w.drewN m = wm at *
    by_cases hkn : k < n
    · obtain ⟨x, y, s, q1, q2, hcv⟩ := hxx hkn
      have hv1 := fun q => (hcv q).1
      have hv2 := fun q => (hcv q).2
      have hw1 : (convert 24 9 x).run Try.prog wm.drew = .ok (.string s) wm.drew := hv1 1
      have hw2 : (convert 24 9 y).run Try.prog wm.drew = .ok (.string s) wm.drew := hv2 1
      clear hxx hcv
      have hlt : (k : Int) < n := by omega
      have h0k : (0 : Int) ≤ (k : Int) := by omega
      go_upto_region 3 with fail
      go_region_held3 (fun w' => w'.cell? ⟨p, 2, none⟩ = some (.bool false) ∧ w'.cell? ⟨p, 3, none⟩ = some (.slice (some ⟨g1, 0, none⟩) n cc1) ∧ w'.cell? ⟨p, 4, none⟩ = some (.slice (some ⟨g2, 0, none⟩) n cc2) ∧ w'.cell? ⟨g1, k, none⟩ = some x ∧ w'.cell? ⟨g2, k, none⟩ = some y ∧ w'.frozen? ⟨p, 2, none⟩ = false ∧ (convert 24 9 x).run Try.prog w' = .ok (.string s) w' ∧ (convert 24 9 y).run Try.prog w' = .ok (.string s) w') (first | (rw [HS0.out]; go_keep) | (rw [HS.out]; go_keep) | (simp only [HS.out]; go_keep) | go_keep)
        (fail)
      all_goals go_wp2
      all_goals go_roundw
      case rel =>
        refine ⟨k + 1, by omega, by simp, ?_⟩
        first | rw [HS0.out] | rw [HS.out]
        subst hwm
        first | exact ⟨_, rfl⟩ | exact ⟨_, (drewN_twice _ _ 1)⟩ | exact ⟨_, (drewN_twice _ _ _)⟩
      case measure => simp [intOf]; omega
    · obtain rfl : k = n := by omega
      clear hxx
      go_wp2
      go_end0
      exact ⟨⟨_, rfl⟩, _, hwm.symm⟩
end Go.Proofs.Ytlfcjbeldnkkoaa
namespace Go.Proofs.Ytlfcjbeldnkkoaa
open Go.RowKit
set_option linter.unusedVariables false
set_option linter.unusedSimpArgs false
theorem Pairs.drewN {w : World} {xs ys : List Value} (h : Pairs w xs ys) (m : Nat) : Pairs (w.drewN m) xs ys := fun j x y hx hy => by
  obtain ⟨s, hs⟩ := h j x y hx hy
  exact ⟨s, fun q => by rw [drewN_twice]; exact hs (m + q)⟩
theorem books_untouched (w : World) (B p : Nat) (c0 c1 fa ha ma ka wa : Value) (n : Nat) (xs ys : List Value) (hn : n ≤ 2000000000000) (hst : StAt w p #[c0, c1, .bool false, fa, ha, ma, ka, wa]) (h1 : w.ownsRow B 24 1 fa n xs) (h2 : w.ownsRow B 24 1 ha n ys) (hp : Pairs w xs ys) :
    Calls Try.prog 44 #[.pointer (some ⟨p, 0, none⟩)] w fun e w' => (∃ r, e = .returned r) ∧ ∃ m, w' = w.drewN m := by
  rcases two_rows h1 h2 with ⟨a, c, rfl, rfl⟩ | ⟨g1, g2, cc1, cc2, rfl, rfl⟩
  · exact books_untouched0 w p c0 c1 _ ha ma ka wa a c hst
  · exact books_untouched1 w p c0 c1 ma ka wa g1 g2 n cc1 cc2 hn hst (alike_of h1 h2 hp)
theorem books_same (w : World) (B p : Nat) (c0 c1 c2 fa ha ma ka wa : Value) (n : Nat) (xs ys : List Value) (hn : n ≤ 2000000000000) (hst : StAt w p #[c0, c1, c2, fa, ha, ma, ka, wa]) (h1 : w.ownsRow B 24 1 ka n xs) (h2 : w.ownsRow B 24 1 wa n ys) (hp : Pairs w xs ys) :
    Calls Try.prog 45 #[.pointer (some ⟨p, 0, none⟩)] w fun e w' => e = .returned (.bool true) ∧ ∃ m, w' = w.drewN m := by
  rcases two_rows h1 h2 with ⟨a, c, rfl, rfl⟩ | ⟨g1, g2, cc1, cc2, rfl, rfl⟩
  · exact books_same0 w p c0 c1 c2 fa ha ma wa a c hst
  · exact books_same1 w p c0 c1 c2 fa ha ma g1 g2 n cc1 cc2 hn hst (alike_of h1 h2 hp)
theorem books_holds (w : World) (B p : Nat) (c0 c1 fa ha ma ka wa : Value) (n n' : Nat) (xs ys ks ws : List Value) (hn : n ≤ 2000000000000) (hn' : n' ≤ 2000000000000) (hst : StAt w p #[c0, c1, .bool false, fa, ha, ma, ka, wa])
    (h1 : w.ownsRow B 24 1 fa n xs) (h2 : w.ownsRow B 24 1 ha n ys) (hp : Pairs w xs ys) (h3 : w.ownsRow B 24 1 ka n' ks) (h4 : w.ownsRow B 24 1 wa n' ws) (hq : Pairs w ks ws) :
    Calls Try.prog 17 #[.pointer (some ⟨p, 0, none⟩)] w fun e w' => e = .returned (.bool true) ∧ ∃ m, w' = w.drewN m := by
  have HU := hidOf (books_untouched w B p c0 c1 fa ha ma ka wa n xs ys hn hst h1 h2 hp)
  have HQ : Hid (∀ m, Calls Try.prog 45 #[.pointer (some ⟨p, 0, none⟩)] (w.drewN m) fun e w' => e = .returned (.bool true) ∧ ∃ k, w' = w.drewN k) :=
    fun m => (books_same (w.drewN m) B p c0 c1 _ fa ha ma ka wa n' ks ws hn' hst h3 h4 (hq.drewN m)).mono fun e w' ⟨he, k, hk⟩ => ⟨he, m + k, by rw [hk, drewN_twice]⟩
  have hc2 : ∀ m, (w.drewN m).cell? ⟨p, 2, none⟩ = some (.bool false) := fun m => StAt.cell (w := w.drewN m) hst 2
  clear hst h1 h2 hp h3 h4 hq
  go_enter Try.func17, Try.ntmps17
  go_wp2_with (first | (go_at_call 44; refine HU.out.mono ?_; rintro e w' ⟨⟨r, rfl⟩, m, rfl⟩; have hcm := hc2 m) | (go_at_call 45; refine (HQ.out _).mono ?_; rintro e w' ⟨rfl, k, rfl⟩))
  go_ret
  exact ⟨rfl, _, rfl⟩
def markB (k : Nat) (m : Int) : List Int := (List.range k).map (fun j : Nat => (m + 7 * (j : Int) + 1) % 256)
theorem markB_len (k : Nat) (m : Int) : (markB k m).length = k := by simp [markB]
theorem marked_any (w : World) (k : Nat) (m : Int) (hk : k ≤ 100000000000000) (h1 : 0 ≤ m) (h2 : m ≤ 2000000000000) : Calls Try.prog 82 #[.int .i64 k, .int .i64 m] w fun e w' => ∃ g, e = .returned (.slice (some ⟨g, 0, none⟩) k k) ∧ w'.ownsRow w.heap.size 5 1 (.slice (some ⟨g, 0, none⟩) k k) (markB k m).length (bV (markB k m)) ∧ Out w w' := by
  have hmk := run_make_row' (P := Try.prog) 24 5 (.int .u8 0) 1 Try.underlying24 info8 rfl .i64 .i64 k (by omega) (by omega)
  go_enter Try.func82, Try.ntmps82
  go_wp2
  clear hmk
  go_loopw [6] (fun i wr => ∃ j : Nat, j ≤ k ∧ i = .int .i64 j ∧ Hid (wr.rowIs w.heap.size 5 k (fun x => if x < j then .int .u8 ((m + 7 * x + 1) % 256) else .int .u8 0)) ∧ Hid (Out w wr)) (fun i _ => (k + 1 - intOf i).toNat)
  case atStart => exact ⟨0, by omega, rfl, by simpa [Hid] using World.rowIs_made w (.int .u8 0) k 5, hidOf (Out.alloc (Out.refl _) _)⟩
  case round =>
    obtain ⟨j, hj, rfl, Hrow, Hor⟩ := hrel
    by_cases hjk : j < k
    · have hc := Hrow.out.cell hjk
      have hf := Hrow.out.frozen j
      have hlt : (j : Int) < k := by omega
      have hb : (7 : Int) * (j : Int) ≤ 700000000000000 := by omega
      go_wp2
      go_roundw
      case rel =>
        refine ⟨j + 1, by omega, by simp, ?_, hidOf (Hor.out.setCell (a := ⟨w.heap.size, j, none⟩) (Nat.le_refl _) _)⟩
        refine (Hrow.out.set j _).congr (fun x hx => ?_)
        by_cases hxj : x = j
        · subst hxj; simp
        · simp only [hxj, if_false]
          by_cases hx2 : x < j
          · rw [if_pos hx2, if_pos (by omega)]
          · rw [if_neg hx2, if_neg (by omega)]
      case measure => simp [intOf]; omega
    · have hlt : ¬ (j : Int) < k := by omega
      obtain rfl : j = k := by omega
      go_wp2
      go_ret
      refine ⟨w.heap.size, rfl, ?_, Hor.out⟩
      rw [markB_len]
      refine owns_row Hrow.out (Nat.le_refl _) (by simp only [maxLen]; omega) (by simp [bV, markB]) (fun x hx => ?_)
      simp [bV, markB, hx]
theorem marked_int (w : World) (kI : Int) (k : Nat) (he : kI = (k : Int)) (m : Int) (hk : k ≤ 100000000000000) (h1 : 0 ≤ m) (h2 : m ≤ 2000000000000) : Calls Try.prog 82 #[.int .i64 kI, .int .i64 m] w fun e w' => ∃ g, e = .returned (.slice (some ⟨g, 0, none⟩) k k) ∧ w'.ownsRow w.heap.size 5 1 (.slice (some ⟨g, 0, none⟩) k k) (markB k m).length (bV (markB k m)) ∧ Out w w' := by
  subst he; exact marked_any w k m hk h1 h2
theorem marked_two (w : World) (kI mI : Int) (k : Nat) (m : Int) (he : kI = (k : Int)) (hm : mI = m) (hk : k ≤ 100000000000000) (h1 : 0 ≤ m) (h2 : m ≤ 2000000000000) : Calls Try.prog 82 #[.int .i64 kI, .int .i64 mI] w fun e w' => ∃ g, e = .returned (.slice (some ⟨g, 0, none⟩) k k) ∧ w'.ownsRow w.heap.size 5 1 (.slice (some ⟨g, 0, none⟩) k k) (markB k m).length (bV (markB k m)) ∧ Out w w' := by
  subst he hm; exact marked_any w k _ hk h1 h2
end Go.Proofs.Ytlfcjbeldnkkoaa
namespace Go.Proofs.Ytlfcjbeldnkkoaa
open Go.RowKit
set_option linter.unusedVariables false
set_option linter.unusedSimpArgs false
def IsT8 (w : World) (k : Nat) : Prop := ∃ cur, w.heap[k]? = some (.cells cur 5 (0, 0))
def Dis (x y : Value) : Prop := ∀ k, x.ownBlock = some k → y.ownBlock ≠ some k
theorem Dis.symm {x y : Value} (h : Dis x y) : Dis y x := fun k hy hx => h k hx hy
def Frs (F : List (Value × List Int)) (k : Nat) : Prop := ∃ x ∈ F, x.1.ownBlock = some k
theorem notT8 {B n size : Nat} {w : World} {e : TypeId} {v : Value} {xs : List Value} (h : w.ownsRow B e size v n xs) (he : e ≠ 5) {k : Nat} (hk : v.ownBlock = some k) : ¬ IsT8 w k := by
  rintro ⟨cur, hc⟩
  rcases h.2 with ⟨rfl, -⟩ | ⟨g, cap, cur', rfl, hb, hg, rest⟩
  · simp [Value.ownBlock] at hk
  · simp only [Value.ownBlock, Option.some.injEq] at hk
    subst hk
    rw [hg] at hc
    injection hc with hc
    injection hc with _ hc
    exact he hc
theorem isT8_of {B n : Nat} {w : World} {v : Value} {xs : List Value} (h : w.ownsRow B 5 1 v n xs) {k : Nat} (hk : v.ownBlock = some k) : IsT8 w k := by
  obtain ⟨-, -, cur, hc⟩ := ownsRow_block_lt h hk
  exact ⟨cur, hc⟩
theorem IsT8.lt {w : World} {k : Nat} (h : IsT8 w k) : k < w.heap.size := by obtain ⟨cur, hc⟩ := h; exact (Array.getElem?_eq_some_iff.1 hc).1
/-- the struct and its five rows -/
structure Arr (B : Nat) (w : World) (p : Nat) (c0 c1 : Int) (fa ha ma ka wa : Value) (fs hs : List Value) (M : List Int) (K W : List Value) : Prop where
  st : StAt w p #[.int .i64 c0, .int .i64 c1, .bool false, fa, ha, ma, ka, wa]
  fa_ : w.ownsRow B 24 1 fa fs.length fs
  ha_ : w.ownsRow B 24 1 ha hs.length hs
  ma_ : w.ownsRow B 3 1 ma M.length (M.map (Value.int .i64))
  ka_ : w.ownsRow B 24 1 ka K.length K
  wa_ : w.ownsRow B 24 1 wa W.length W
  fh : Dis fa ha
  fk : Dis fa ka
  fw : Dis fa wa
  hk : Dis ha ka
  hw : Dis ha wa
  kw : Dis ka wa
  bp : B ≤ p
  bw : B ≤ w.heap.size
theorem st_notT8 {w : World} {p : Nat} {cs : Array Value} (h : StAt w p cs) : ¬ IsT8 w p := by
  rintro ⟨cur, hc⟩
  rw [show w.heap[p]? = _ from h] at hc
  injection hc with hc
  injection hc with _ hc
  exact absurd hc (by decide)
theorem Arr.chg8 {B p : Nat} {w w' : World} {U : Nat → Prop} {c0 c1 : Int} {fa ha ma ka wa : Value} {fs hs : List Value} {M : List Int} {K W : List Value} (h : Arr B w p c0 c1 fa ha ma ka wa fs hs M K W) (c : Chg U w w') (hU : ∀ k, k < w.heap.size → U k → IsT8 w k) : Arr B w' p c0 c1 fa ha ma ka wa fs hs M K W := by
  have key : ∀ {e : TypeId} {v : Value} {n : Nat} {xs : List Value}, w.ownsRow B e 1 v n xs → e ≠ 5 → w'.ownsRow B e 1 v n xs := fun ho he =>
    owns_chg ho (fun k hk hu => notT8 ho he hk (hU k (ownsRow_block_lt ho hk).1 hu)) c
  refine ⟨h.st.same (c.block p h.st.lt (fun hu => st_notT8 h.st (hU p h.st.lt hu))), key h.fa_ (by decide), key h.ha_ (by decide), key h.ma_ (by decide), key h.ka_ (by decide), key h.wa_ (by decide), h.fh, h.fk, h.fw, h.hk, h.hw, h.kw, h.bp, Nat.le_trans h.bw c.size⟩
theorem Arr.out {B p : Nat} {w w' : World} {c0 c1 : Int} {fa ha ma ka wa : Value} {fs hs : List Value} {M : List Int} {K W : List Value} (h : Arr B w p c0 c1 fa ha ma ka wa fs hs M K W) (o : Out w w') : Arr B w' p c0 c1 fa ha ma ka wa fs hs M K W :=
  h.chg8 (Chg.of_out (S := fun _ => False) o) (fun _ _ h => h.elim)
/-- what was written over or grown, and what it must hold -/
def Kep (B : Nat) (S : Nat → Prop) (w : World) (K W : List Value) : Prop := W.length = K.length ∧ ∀ (j : Nat) x y, K[j]? = some x → W[j]? = some y → ∃ l, Rd B S w x l ∧ Rd B S w y l
theorem Kep.chg {B : Nat} {S T U : Nat → Prop} {w w' : World} {K W : List Value} (h : Kep B S w K W) (c : Chg U w w') (hU : ∀ k, ¬ S k → IsT8 w k → ¬ U k) (hT : ∀ k, k < w.heap.size → ¬ S k → ¬ T k) : Kep B T w' K W :=
  ⟨h.1, fun j x y hx hy => by
    obtain ⟨l, h1, h2⟩ := h.2 j x y hx hy
    exact ⟨l, h1.chg c (fun k cur hs hc => hU k hs ⟨cur, hc⟩) hT, h2.chg c (fun k cur hs hc => hU k hs ⟨cur, hc⟩) hT⟩⟩
theorem Kep.out {B : Nat} {S : Nat → Prop} {w w' : World} {K W : List Value} (h : Kep B S w K W) (o : Out w w') : Kep B S w' K W := h.chg (Chg.of_out (S := fun _ => False) o) (fun _ _ _ h => h) (fun _ _ h => h)
theorem Kep.snoc {B : Nat} {S : Nat → Prop} {w : World} {K W : List Value} (h : Kep B S w K W) {x y : Value} {l : List Int} (h1 : Rd B S w x l) (h2 : Rd B S w y l) : Kep B S w (K ++ [x]) (W ++ [y]) := by
  refine ⟨by simp [h.1], fun j a b ha hb => ?_⟩
  by_cases hj : j < K.length
  · rw [List.getElem?_append_left hj] at ha
    rw [List.getElem?_append_left (by rw [h.1]; exact hj)] at hb
    exact h.2 j a b ha hb
  · rw [List.getElem?_append_right (by omega)] at ha
    rw [List.getElem?_append_right (by rw [h.1]; omega), h.1] at hb
    have : j - K.length = 0 := by
      have := (List.getElem?_eq_some_iff.1 ha).1; simp at this; omega
    rw [this] at ha hb
    simp at ha hb
    subst ha hb
    exact ⟨l, h1, h2⟩
theorem Kep.pairs {B : Nat} {S : Nat → Prop} {w : World} {K W : List Value} (h : Kep B S w K W) : Pairs w K W := pairs_of h.2
/-- the lists that lie untouched: each has a block of its own -/
def Fresh (B : Nat) (w : World) (F : List (Value × List Int)) : Prop := (∀ x ∈ F, w.ownsRow B 5 1 x.1 x.2.length (bV x.2)) ∧ F.Pairwise (fun x y => Dis x.1 y.1)
theorem Fresh.chg {B : Nat} {U : Nat → Prop} {w w' : World} {F : List (Value × List Int)} (h : Fresh B w F) (c : Chg U w w') (hU : ∀ k, Frs F k → ¬ U k) : Fresh B w' F :=
  ⟨fun x hx => owns_chg (h.1 x hx) (fun k hk => hU k ⟨x, hx, hk⟩) c, h.2⟩
theorem Fresh.out {B : Nat} {w w' : World} {F : List (Value × List Int)} (h : Fresh B w F) (o : Out w w') : Fresh B w' F := h.chg (Chg.of_out (S := fun _ => False) o) (fun _ _ h => h)
theorem Fresh.isT8 {B : Nat} {w : World} {F : List (Value × List Int)} (h : Fresh B w F) {k : Nat} (hk : Frs F k) : IsT8 w k := by
  obtain ⟨x, hx, hk⟩ := hk
  exact isT8_of (h.1 x hx) hk
/-- the place i holds x; every other one holds its own block -/
theorem Fresh.at {B : Nat} {w : World} {F : List (Value × List Int)} (h : Fresh B w F) {i : Nat} {x : Value × List Int} (hx : F[i]? = some x) : w.ownsRow B 5 1 x.1 x.2.length (bV x.2) := h.1 x (List.mem_of_getElem? hx)
theorem Fresh.ne {B : Nat} {w : World} {F : List (Value × List Int)} (h : Fresh B w F) {i j : Nat} {x y : Value × List Int} (hx : F[i]? = some x) (hy : F[j]? = some y) (hij : i ≠ j) : Dis x.1 y.1 := by
  have hi := (List.getElem?_eq_some_iff.1 hx)
  have hj := (List.getElem?_eq_some_iff.1 hy)
  obtain ⟨hi1, hi2⟩ := hi
  obtain ⟨hj1, hj2⟩ := hj
  have key := List.pairwise_iff_getElem.1 h.2
  rcases Nat.lt_or_gt_of_ne hij with hlt | hlt
  · have := key i j hi1 hj1 hlt
    rw [hi2, hj2] at this; exact this
  · have := key j i hj1 hi1 hlt
    rw [hi2, hj2] at this; exact this.symm
/-- a list of other contents in the place i -/
theorem Fresh.put {B : Nat} {w w' : World} {F : List (Value × List Int)} (h : Fresh B w F) {i : Nat} {v : Value} {l l' : List Int} (hx : F[i]? = some (v, l)) (c : Chg (fun k => v.ownBlock = some k) w w') (hv : w'.ownsRow B 5 1 v l'.length (bV l')) : Fresh B w' (F.set i (v, l')) := by
  have hi := (List.getElem?_eq_some_iff.1 hx).1
  have hget : ∀ j y, (F.set i (v, l'))[j]? = some y → (j = i ∧ y = (v, l')) ∨ (j ≠ i ∧ F[j]? = some y) := by
    intro j y hy
    rw [List.getElem?_set] at hy
    by_cases hj : i = j
    · subst hj
      rw [if_pos rfl, if_pos hi] at hy
      exact .inl ⟨rfl, (Option.some.inj hy).symm⟩
    · rw [if_neg hj] at hy
      exact .inr ⟨fun e => hj e.symm, hy⟩
  refine ⟨fun y hy => ?_, ?_⟩
  · obtain ⟨j, hj, e⟩ := List.getElem_of_mem hy
    rcases hget j y (by rw [List.getElem?_eq_getElem hj, e]) with ⟨_, rfl⟩ | ⟨hne, hy'⟩
    · exact hv
    · exact owns_chg (h.at hy') (fun k hk hu => h.ne hy' hx hne k hk hu) c
  · rw [List.pairwise_iff_getElem]
    intro a b ha hb hab
    have ga := hget a _ (List.getElem?_eq_getElem ha)
    have gb := hget b _ (List.getElem?_eq_getElem hb)
    rcases ga with ⟨rfl, e1⟩ | ⟨n1, e1⟩ <;> rcases gb with ⟨rfl, e2⟩ | ⟨n2, e2⟩
    · omega
    · rw [e1]; exact (show Dis (v, l).1 _ from h.ne hx e2 (fun e => n2 e.symm))
    · rw [e2]; exact (show Dis _ (v, l).1 from h.ne e1 hx n1)
    · exact h.ne e1 e2 (by omega)
theorem frs_set {F : List (Value × List Int)} {i : Nat} {v : Value} {l l' : List Int} (hx : F[i]? = some (v, l)) (k : Nat) : Frs (F.set i (v, l')) k ↔ Frs F k := by
  have hi := (List.getElem?_eq_some_iff.1 hx).1
  constructor
  · rintro ⟨y, hy, hk⟩
    rcases List.mem_or_eq_of_mem_set hy with hy | rfl
    · exact ⟨y, hy, hk⟩
    · exact ⟨(v, l), List.mem_of_getElem? hx, hk⟩
  · rintro ⟨y, hy, hk⟩
    obtain ⟨j, hj, e⟩ := List.getElem_of_mem hy
    by_cases hji : j = i
    · subst hji
      rw [List.getElem?_eq_getElem hj, e] at hx
      obtain rfl := Option.some.inj hx
      exact ⟨(v, l'), List.mem_set hj _, hk⟩
    · refine ⟨y, ?_, hk⟩
      have : (F.set i (v, l'))[j]? = some y := by rw [List.getElem?_set_ne (fun e => hji e.symm), List.getElem?_eq_getElem hj, e]
      exact List.mem_of_getElem? this
theorem map_fst_set {F : List (Value × List Int)} {i : Nat} {v : Value} {l l' : List Int} (hx : F[i]? = some (v, l)) : (F.set i (v, l')).map Prod.fst = F.map Prod.fst := by
  rw [List.map_set]
  apply List.ext_getElem?
  intro j
  rw [List.getElem?_set]
  by_cases hj : i = j
  · subst hj
    have hi := (List.getElem?_eq_some_iff.1 hx).1
    rw [if_pos rfl, if_pos (by simpa using hi), List.getElem?_map, hx]; rfl
  · rw [if_neg hj]
end Go.Proofs.Ytlfcjbeldnkkoaa
