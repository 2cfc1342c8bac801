import Derived.Test.YtjlgkcnfdpnlkaaDoorOg
namespace Go.Proofs.YtjlgkcnfdpnlkaaDoor
open Go.RowKit
set_option linter.unusedVariables false
set_option linter.unusedSimpArgs false
theorem hidOf {p : Prop} (h : p) : Hid p := h
theorem books_untouched0 (w : World) (p : Nat) (c0 c1 c2 ha ma ka wa : Value) (a1 : Option Addr) (cc1 : Nat) (hst : StAt w p #[c0, c1, c2, .slice a1 0 cc1, ha, ma, ka, wa]) :
    Calls Tryd.prog 30 #[.pointer (some ⟨p, 0, none⟩)] w fun e w' => (∃ r, e = .returned r) ∧ ∃ m, w' = w.drewN m := by
  have hc3 : w.cell? ⟨p, 3, none⟩ = some (.slice a1 0 cc1) := hst.cell 3
  go_enter Tryd.func30, Tryd.ntmps30
  go_wp2
  refine wp_loop_rounds 1 ?_
  rw [rounds_succ]
  go_wp2
  go_end0
  exact ⟨⟨_, rfl⟩, 0, rfl⟩
/-- the lists of two rows read alike -/
def Pairs (w : World) (xs ys : List Value) : Prop := ∀ (j : Nat) x y, xs[j]? = some x → ys[j]? = some y → ∃ l, NumsAt w x l ∧ NumsAt w y l ∧ l.length ≤ 9223372036854775807
theorem alike_of {w : World} {B n g1 g2 c1 c2 : Nat} {xs ys : List Value} {e : TypeId} (h1 : w.ownsRow B e 1 (.slice (some ⟨g1, 0, none⟩) n c1) n xs) (h2 : w.ownsRow B e 1 (.slice (some ⟨g2, 0, none⟩) n c2) n ys) (hp : Pairs w xs ys) : Alike2 w n g1 g2 := by
  intro j hj
  have l1 : j < xs.length := by have := h1.1; omega
  have l2 : j < ys.length := by have := h2.1; omega
  have e1 : xs[j]? = some xs[j] := List.getElem?_eq_getElem l1
  have e2 : ys[j]? = some ys[j] := List.getElem?_eq_getElem l2
  obtain ⟨l, n1, n2, hl⟩ := hp j _ _ e1 e2
  have q1 := h1.cells (g := g1) rfl j _ e1
  have q2 := h2.cells (g := g2) rfl j _ e2
  rw [WideShapes.add_plain, Nat.zero_add] at q1 q2
  exact ⟨_, _, l, q1, q2, n1, n2, hl⟩
theorem two_rows {w : World} {B n : Nat} {u v : Value} {xs ys : List Value} {e : TypeId} (h1 : w.ownsRow B e 1 u n xs) (h2 : w.ownsRow B e 1 v n ys) : (∃ a c, u = .slice a 0 c ∧ n = 0) ∨ ∃ g1 g2 c1 c2, u = .slice (some ⟨g1, 0, none⟩) n c1 ∧ v = .slice (some ⟨g2, 0, none⟩) n c2 := by
  rcases h1.2 with ⟨rfl, rfl⟩ | ⟨g1, c1, cur1, rfl, -⟩
  · exact .inl ⟨_, _, rfl, rfl⟩
  · rcases h2.2 with ⟨rfl, rfl⟩ | ⟨g2, c2, cur2, rfl, -⟩
    · exact .inl ⟨_, _, rfl, rfl⟩
    · exact .inr ⟨_, _, _, _, rfl, rfl⟩
theorem books_untouched (w : World) (B p : Nat) (c0 c1 fa ha ma ka wa : Value) (n : Nat) (xs ys : List Value) (hn : n ≤ 1000000000) (hst : StAt w p #[c0, c1, .bool false, fa, ha, ma, ka, wa]) (h1 : w.ownsRow B 25 1 fa n xs) (h2 : w.ownsRow B 25 1 ha n ys) (hp : Pairs w xs ys) :
    Calls Tryd.prog 30 #[.pointer (some ⟨p, 0, none⟩)] w fun e w' => (∃ r, e = .returned r) ∧ ∃ m, w' = w.drewN m := by
  rcases two_rows h1 h2 with ⟨a, c, rfl, rfl⟩ | ⟨g1, g2, cc1, cc2, rfl, rfl⟩
  · exact books_untouched0 w p c0 c1 _ ha ma ka wa a c hst
  · exact books_untouched1 w p c0 c1 ma ka wa g1 g2 n cc1 cc2 hn hst (alike_of h1 h2 hp)
theorem books_same (w : World) (B p : Nat) (c0 c1 c2 fa ha ma ka wa : Value) (n : Nat) (xs ys : List Value) (hn : n ≤ 1000000000) (hst : StAt w p #[c0, c1, c2, fa, ha, ma, ka, wa]) (h1 : w.ownsRow B 25 1 ka n xs) (h2 : w.ownsRow B 25 1 wa n ys) (hp : Pairs w xs ys) :
    Calls Tryd.prog 31 #[.pointer (some ⟨p, 0, none⟩)] w fun e w' => e = .returned (.bool true) ∧ ∃ m, w' = w.drewN m := by
  rcases two_rows h1 h2 with ⟨a, c, rfl, rfl⟩ | ⟨g1, g2, cc1, cc2, rfl, rfl⟩
  · exact books_same0 w p c0 c1 c2 fa ha ma wa a c hst
  · exact books_same1 w p c0 c1 c2 fa ha ma g1 g2 n cc1 cc2 hn hst (alike_of h1 h2 hp)
theorem books_holds (w : World) (B p : Nat) (c0 c1 fa ha ma ka wa : Value) (n n' : Nat) (xs ys ks ws : List Value) (hn : n ≤ 1000000000) (hn' : n' ≤ 1000000000) (hst : StAt w p #[c0, c1, .bool false, fa, ha, ma, ka, wa])
    (h1 : w.ownsRow B 25 1 fa n xs) (h2 : w.ownsRow B 25 1 ha n ys) (hp : Pairs w xs ys) (h3 : w.ownsRow B 25 1 ka n' ks) (h4 : w.ownsRow B 25 1 wa n' ws) (hq : Pairs w ks ws) :
    Calls Tryd.prog 12 #[.pointer (some ⟨p, 0, none⟩)] w fun e w' => e = .returned (.bool true) ∧ ∃ m, w' = w.drewN m := by
  have HU := hidOf (books_untouched w B p c0 c1 fa ha ma ka wa n xs ys hn hst h1 h2 hp)
  have HQ : Hid (∀ m, Calls Tryd.prog 31 #[.pointer (some ⟨p, 0, none⟩)] (w.drewN m) fun e w' => e = .returned (.bool true) ∧ ∃ k, w' = w.drewN k) :=
    fun m => (books_same (w.drewN m) B p c0 c1 _ fa ha ma ka wa n' ks ws hn' hst h3 h4 hq).mono fun e w' ⟨he, k, hk⟩ => ⟨he, m + k, by rw [hk, drewN_twice]⟩
  have hc2 : ∀ m, (w.drewN m).cell? ⟨p, 2, none⟩ = some (.bool false) := fun m => hst.cell 2
  clear hst h1 h2 hp h3 h4 hq
  go_enter Tryd.func12, Tryd.ntmps12
  go_wp2_with (first | (go_at_call 30; refine HU.out.mono ?_; rintro e w' ⟨⟨r, rfl⟩, m, rfl⟩; have hcm := hc2 m) | (go_at_call 31; refine (HQ.out _).mono ?_; rintro e w' ⟨rfl, k, rfl⟩))
  go_ret
  exact ⟨rfl, _, rfl⟩
end Go.Proofs.YtjlgkcnfdpnlkaaDoor
