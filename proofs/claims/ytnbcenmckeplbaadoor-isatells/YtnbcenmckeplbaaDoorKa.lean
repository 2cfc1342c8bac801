import Derived.Test.YtnbcenmckeplbaaDoorJg
namespace Go.Proofs.YtnbcenmckeplbaaDoor
open Go.RowKit
set_option linter.unusedVariables false
set_option linter.unusedSimpArgs false
theorem info_at (op : Int) (w : World) (h : TabO w) (F G : Int) (D S O I : Bool) (hF : (F == 0) = false) (e1 : formP op = F) (e2 : groupP op F = G) (e3 : useD op F = D) (e4 : useS op F = S) (e5 : useO op F = O) (e6 : useI op F = I) :
    Calls Tryd.prog 14 #[.int .i64 op] w fun e w' => e = .returned (.tuple #[.agg #[.int .i64 F, .int .i64 G, .bool D, .bool S, .bool O, .bool I], .int .i64 0]) ∧ ((w.alloc (.cells #[.int .i64 F, .int .i64 G, .bool D, .bool S, .bool O, .bool I] 33)).alloc (.cells #[.int .i64 F, .int .i64 G, .bool D, .bool S, .bool O, .bool I] 33)).alloc (.cells #[.int .i64 F, .int .i64 G, .bool D, .bool S, .bool O, .bool I] 33) = w' := by
  subst e1 e2 e3 e4 e5 e6
  exact info_ok_lit op w h hF
theorem class0 (op : Int) (w : World) (hA : TabA w) (hO : TabO w) (hb1 : 0 ≤ op) (hb2 : op ≤ 255) (h0 : bits .and .i64 op 7 = 0) (h1 : formP op = 10) (h2 : useS op 10 = false) (h3 : useI op 10 = true) (h4 : op = 24) :
    Calls Tryd.prog 8 #[.int .i64 op] w fun e w' => e = .returned (.bool true) ∧ Out w w' := by
  have hi := fun w h => info_at op w h 10 (groupP op 10) (useD op 10) false (useO op 10) true (by decide) h1 rfl rfl h2 rfl h3
  clear h1 h2 h3
  subst h4
  generalize useD 24 10 = D at hi
  generalize useO 24 10 = O at hi
  generalize groupP 24 10 = G at hi
  go_enter Tryd.func8, Tryd.ntmps8
  go_wp2_with (first | (go_at_call 14; refine (hi _ hO).mono ?_; rintro e w' ⟨rfl, rfl⟩) | (go_at_call 12; refine (awake_any _ (by repeat (first | exact hA | apply TabA.alloc)) (by repeat (first | exact hO | apply TabO.alloc))).mono ?_; rintro e w' ⟨rfl, hout⟩))
  go_ret
  exact ⟨rfl, Out.trans (by repeat (first | exact Out.refl _ | apply Out.alloc)) hout⟩
theorem class1 (op : Int) (w : World) (hA : TabA w) (hO : TabO w) (hb1 : 0 ≤ op) (hb2 : op ≤ 255) (h0 : bits .and .i64 op 7 = 1) (h1 : formP op = 4) :
    Calls Tryd.prog 8 #[.int .i64 op] w fun e w' => e = .returned (.bool true) ∧ Out w w' := by
  have hi := fun w h => info_at op w h 4 (groupP op 4) (useD op 4) (useS op 4) (useO op 4) (useI op 4) (by decide) h1 rfl rfl rfl rfl rfl
  clear h1
  generalize useD op 4 = D at hi
  generalize useO op 4 = O at hi
  generalize groupP op 4 = G at hi
  generalize useS op 4 = S at hi
  generalize useI op 4 = I at hi
  go_enter Tryd.func8, Tryd.ntmps8
  go_wp2_with (first | (go_at_call 14; refine (hi _ hO).mono ?_; rintro e w' ⟨rfl, rfl⟩) | (go_at_call 12; refine (awake_any _ (by repeat (first | exact hA | apply TabA.alloc)) (by repeat (first | exact hO | apply TabO.alloc))).mono ?_; rintro e w' ⟨rfl, hout⟩))
  go_ret
  exact ⟨rfl, Out.trans (by repeat (first | exact Out.refl _ | apply Out.alloc)) hout⟩
theorem class2 (op : Int) (w : World) (hA : TabA w) (hO : TabO w) (hb1 : 0 ≤ op) (hb2 : op ≤ 255) (h0 : bits .and .i64 op 7 = 2) (h1 : formP op = 5) (h2 : useI op 5 = true) :
    Calls Tryd.prog 8 #[.int .i64 op] w fun e w' => e = .returned (.bool true) ∧ Out w w' := by
  have hi := fun w h => info_at op w h 5 (groupP op 5) (useD op 5) (useS op 5) (useO op 5) true (by decide) h1 rfl rfl rfl rfl h2
  clear h1 h2
  generalize useD op 5 = D at hi
  generalize useO op 5 = O at hi
  generalize groupP op 5 = G at hi
  generalize useS op 5 = S at hi
  go_enter Tryd.func8, Tryd.ntmps8
  go_wp2_with (first | (go_at_call 14; refine (hi _ hO).mono ?_; rintro e w' ⟨rfl, rfl⟩) | (go_at_call 12; refine (awake_any _ (by repeat (first | exact hA | apply TabA.alloc)) (by repeat (first | exact hO | apply TabO.alloc))).mono ?_; rintro e w' ⟨rfl, hout⟩))
  go_ret
  exact ⟨rfl, Out.trans (by repeat (first | exact Out.refl _ | apply Out.alloc)) hout⟩
theorem class3 (op : Int) (w : World) (hA : TabA w) (hO : TabO w) (hb1 : 0 ≤ op) (hb2 : op ≤ 255) (h0 : bits .and .i64 op 7 = 3) (h1 : formP op = 5) (h2 : useS op 5 = true) :
    Calls Tryd.prog 8 #[.int .i64 op] w fun e w' => e = .returned (.bool true) ∧ Out w w' := by
  have hi := fun w h => info_at op w h 5 (groupP op 5) (useD op 5) true (useO op 5) (useI op 5) (by decide) h1 rfl rfl h2 rfl rfl
  clear h1 h2
  generalize useD op 5 = D at hi
  generalize useO op 5 = O at hi
  generalize groupP op 5 = G at hi
  generalize useI op 5 = I at hi
  go_enter Tryd.func8, Tryd.ntmps8
  go_wp2_with (first | (go_at_call 14; refine (hi _ hO).mono ?_; rintro e w' ⟨rfl, rfl⟩) | (go_at_call 12; refine (awake_any _ (by repeat (first | exact hA | apply TabA.alloc)) (by repeat (first | exact hO | apply TabO.alloc))).mono ?_; rintro e w' ⟨rfl, hout⟩))
  go_ret
  exact ⟨rfl, Out.trans (by repeat (first | exact Out.refl _ | apply Out.alloc)) hout⟩
theorem class4 (op : Int) (w : World) (hA : TabA w) (hO : TabO w) (hb1 : 0 ≤ op) (hb2 : op ≤ 255) (h0 : bits .and .i64 op 7 = 3) (h1 : formP op = 6) (h2 : groupP op 6 = 3) :
    Calls Tryd.prog 8 #[.int .i64 op] w fun e w' => e = .returned (.bool true) ∧ Out w w' := by
  have hi := fun w h => info_at op w h 6 3 (useD op 6) (useS op 6) (useO op 6) (useI op 6) (by decide) h1 h2 rfl rfl rfl rfl
  clear h1 h2
  generalize useD op 6 = D at hi
  generalize useO op 6 = O at hi
  generalize useS op 6 = S at hi
  generalize useI op 6 = I at hi
  go_enter Tryd.func8, Tryd.ntmps8
  go_wp2_with (first | (go_at_call 14; refine (hi _ hO).mono ?_; rintro e w' ⟨rfl, rfl⟩) | (go_at_call 12; refine (awake_any _ (by repeat (first | exact hA | apply TabA.alloc)) (by repeat (first | exact hO | apply TabO.alloc))).mono ?_; rintro e w' ⟨rfl, hout⟩))
  go_ret
  exact ⟨rfl, Out.trans (by repeat (first | exact Out.refl _ | apply Out.alloc)) hout⟩
theorem class5 (op : Int) (w : World) (hA : TabA w) (hO : TabO w) (hb1 : 0 ≤ op) (hb2 : op ≤ 255) (h0 : bits .and .i64 op 7 = 4) (h1 : formP op = 2) (h2 : useS op 2 = false) :
    Calls Tryd.prog 8 #[.int .i64 op] w fun e w' => e = .returned (.bool true) ∧ Out w w' := by
  have hi := fun w h => info_at op w h 2 (groupP op 2) (useD op 2) false (useO op 2) (useI op 2) (by decide) h1 rfl rfl h2 rfl rfl
  clear h1 h2
  generalize useD op 2 = D at hi
  generalize useO op 2 = O at hi
  generalize groupP op 2 = G at hi
  generalize useI op 2 = I at hi
  go_enter Tryd.func8, Tryd.ntmps8
  go_wp2_with (first | (go_at_call 14; refine (hi _ hO).mono ?_; rintro e w' ⟨rfl, rfl⟩) | (go_at_call 12; refine (awake_any _ (by repeat (first | exact hA | apply TabA.alloc)) (by repeat (first | exact hO | apply TabO.alloc))).mono ?_; rintro e w' ⟨rfl, hout⟩))
  go_ret
  exact ⟨rfl, Out.trans (by repeat (first | exact Out.refl _ | apply Out.alloc)) hout⟩
theorem class6 (op : Int) (w : World) (hA : TabA w) (hO : TabO w) (hb1 : 0 ≤ op) (hb2 : op ≤ 255) (h0 : bits .and .i64 op 7 = 4) (h1 : formP op = 3) (h2 : useS op 3 = false) (h3 : useI op 3 = true) (h4 : bits .and .i64 op 8 = 0) :
    Calls Tryd.prog 8 #[.int .i64 op] w fun e w' => e = .returned (.bool true) ∧ Out w w' := by
  have hi := fun w h => info_at op w h 3 (groupP op 3) (useD op 3) false (useO op 3) true (by decide) h1 rfl rfl h2 rfl h3
  clear h1 h2 h3
  generalize useD op 3 = D at hi
  generalize useO op 3 = O at hi
  generalize groupP op 3 = G at hi
  go_enter Tryd.func8, Tryd.ntmps8
  go_wp2_with (first | (go_at_call 14; refine (hi _ hO).mono ?_; rintro e w' ⟨rfl, rfl⟩) | (go_at_call 12; refine (awake_any _ (by repeat (first | exact hA | apply TabA.alloc)) (by repeat (first | exact hO | apply TabO.alloc))).mono ?_; rintro e w' ⟨rfl, hout⟩))
  go_ret
  exact ⟨rfl, Out.trans (by repeat (first | exact Out.refl _ | apply Out.alloc)) hout⟩
theorem class7 (op : Int) (w : World) (hA : TabA w) (hO : TabO w) (hb1 : 0 ≤ op) (hb2 : op ≤ 255) (h0 : bits .and .i64 op 7 = 4) (h1 : formP op = 3) (h2 : useS op 3 = true) (h3 : useI op 3 = false) (h4 : bits .and .i64 op 8 = 8) :
    Calls Tryd.prog 8 #[.int .i64 op] w fun e w' => e = .returned (.bool true) ∧ Out w w' := by
  have hi := fun w h => info_at op w h 3 (groupP op 3) (useD op 3) true (useO op 3) false (by decide) h1 rfl rfl h2 rfl h3
  clear h1 h2 h3
  generalize useD op 3 = D at hi
  generalize useO op 3 = O at hi
  generalize groupP op 3 = G at hi
  go_enter Tryd.func8, Tryd.ntmps8
  go_wp2_with (first | (go_at_call 14; refine (hi _ hO).mono ?_; rintro e w' ⟨rfl, rfl⟩) | (go_at_call 12; refine (awake_any _ (by repeat (first | exact hA | apply TabA.alloc)) (by repeat (first | exact hO | apply TabO.alloc))).mono ?_; rintro e w' ⟨rfl, hout⟩))
  go_ret
  exact ⟨rfl, Out.trans (by repeat (first | exact Out.refl _ | apply Out.alloc)) hout⟩
theorem class8 (op : Int) (w : World) (hA : TabA w) (hO : TabO w) (hb1 : 0 ≤ op) (hb2 : op ≤ 255) (h0 : bits .and .i64 op 7 = 7) (h1 : formP op = 2) (h2 : useS op 2 = false) :
    Calls Tryd.prog 8 #[.int .i64 op] w fun e w' => e = .returned (.bool true) ∧ Out w w' := by
  have hi := fun w h => info_at op w h 2 (groupP op 2) (useD op 2) false (useO op 2) (useI op 2) (by decide) h1 rfl rfl h2 rfl rfl
  clear h1 h2
  generalize useD op 2 = D at hi
  generalize useO op 2 = O at hi
  generalize groupP op 2 = G at hi
  generalize useI op 2 = I at hi
  go_enter Tryd.func8, Tryd.ntmps8
  go_wp2_with (first | (go_at_call 14; refine (hi _ hO).mono ?_; rintro e w' ⟨rfl, rfl⟩) | (go_at_call 12; refine (awake_any _ (by repeat (first | exact hA | apply TabA.alloc)) (by repeat (first | exact hO | apply TabO.alloc))).mono ?_; rintro e w' ⟨rfl, hout⟩))
  go_ret
  exact ⟨rfl, Out.trans (by repeat (first | exact Out.refl _ | apply Out.alloc)) hout⟩
theorem class9 (op : Int) (w : World) (hA : TabA w) (hO : TabO w) (hb1 : 0 ≤ op) (hb2 : op ≤ 255) (h0 : bits .and .i64 op 7 = 7) (h1 : formP op = 3) (h2 : useS op 3 = false) (h3 : useI op 3 = true) (h4 : bits .and .i64 op 8 = 0) :
    Calls Tryd.prog 8 #[.int .i64 op] w fun e w' => e = .returned (.bool true) ∧ Out w w' := by
  have hi := fun w h => info_at op w h 3 (groupP op 3) (useD op 3) false (useO op 3) true (by decide) h1 rfl rfl h2 rfl h3
  clear h1 h2 h3
  generalize useD op 3 = D at hi
  generalize useO op 3 = O at hi
  generalize groupP op 3 = G at hi
  go_enter Tryd.func8, Tryd.ntmps8
  go_wp2_with (first | (go_at_call 14; refine (hi _ hO).mono ?_; rintro e w' ⟨rfl, rfl⟩) | (go_at_call 12; refine (awake_any _ (by repeat (first | exact hA | apply TabA.alloc)) (by repeat (first | exact hO | apply TabO.alloc))).mono ?_; rintro e w' ⟨rfl, hout⟩))
  go_ret
  exact ⟨rfl, Out.trans (by repeat (first | exact Out.refl _ | apply Out.alloc)) hout⟩
theorem class10 (op : Int) (w : World) (hA : TabA w) (hO : TabO w) (hb1 : 0 ≤ op) (hb2 : op ≤ 255) (h0 : bits .and .i64 op 7 = 7) (h1 : formP op = 3) (h2 : useS op 3 = true) (h3 : useI op 3 = false) (h4 : bits .and .i64 op 8 = 8) :
    Calls Tryd.prog 8 #[.int .i64 op] w fun e w' => e = .returned (.bool true) ∧ Out w w' := by
  have hi := fun w h => info_at op w h 3 (groupP op 3) (useD op 3) true (useO op 3) false (by decide) h1 rfl rfl h2 rfl h3
  clear h1 h2 h3
  generalize useD op 3 = D at hi
  generalize useO op 3 = O at hi
  generalize groupP op 3 = G at hi
  go_enter Tryd.func8, Tryd.ntmps8
  go_wp2_with (first | (go_at_call 14; refine (hi _ hO).mono ?_; rintro e w' ⟨rfl, rfl⟩) | (go_at_call 12; refine (awake_any _ (by repeat (first | exact hA | apply TabA.alloc)) (by repeat (first | exact hO | apply TabO.alloc))).mono ?_; rintro e w' ⟨rfl, hout⟩))
  go_ret
  exact ⟨rfl, Out.trans (by repeat (first | exact Out.refl _ | apply Out.alloc)) hout⟩
theorem class11 (op : Int) (w : World) (hA : TabA w) (hO : TabO w) (hb1 : 0 ≤ op) (hb2 : op ≤ 255) (h0 : bits .and .i64 op 7 = 5) (h1 : formP op = 1) :
    Calls Tryd.prog 8 #[.int .i64 op] w fun e w' => e = .returned (.bool true) ∧ Out w w' := by
  have hi := fun w h => info_at op w h 1 (groupP op 1) (useD op 1) (useS op 1) (useO op 1) (useI op 1) (by decide) h1 rfl rfl rfl rfl rfl
  clear h1
  generalize useD op 1 = D at hi
  generalize useO op 1 = O at hi
  generalize groupP op 1 = G at hi
  generalize useS op 1 = S at hi
  generalize useI op 1 = I at hi
  go_enter Tryd.func8, Tryd.ntmps8
  go_wp2_with (first | (go_at_call 14; refine (hi _ hO).mono ?_; rintro e w' ⟨rfl, rfl⟩) | (go_at_call 12; refine (awake_any _ (by repeat (first | exact hA | apply TabA.alloc)) (by repeat (first | exact hO | apply TabO.alloc))).mono ?_; rintro e w' ⟨rfl, hout⟩))
  go_ret
  exact ⟨rfl, Out.trans (by repeat (first | exact Out.refl _ | apply Out.alloc)) hout⟩
theorem class12 (op : Int) (w : World) (hA : TabA w) (hO : TabO w) (hb1 : 0 ≤ op) (hb2 : op ≤ 255) (h0 : bits .and .i64 op 7 = 5) (h1 : formP op = 7) :
    Calls Tryd.prog 8 #[.int .i64 op] w fun e w' => e = .returned (.bool true) ∧ Out w w' := by
  have hi := fun w h => info_at op w h 7 (groupP op 7) (useD op 7) (useS op 7) (useO op 7) (useI op 7) (by decide) h1 rfl rfl rfl rfl rfl
  clear h1
  generalize useD op 7 = D at hi
  generalize useO op 7 = O at hi
  generalize groupP op 7 = G at hi
  generalize useS op 7 = S at hi
  generalize useI op 7 = I at hi
  go_enter Tryd.func8, Tryd.ntmps8
  go_wp2_with (first | (go_at_call 14; refine (hi _ hO).mono ?_; rintro e w' ⟨rfl, rfl⟩) | (go_at_call 12; refine (awake_any _ (by repeat (first | exact hA | apply TabA.alloc)) (by repeat (first | exact hO | apply TabO.alloc))).mono ?_; rintro e w' ⟨rfl, hout⟩))
  go_ret
  exact ⟨rfl, Out.trans (by repeat (first | exact Out.refl _ | apply Out.alloc)) hout⟩
theorem class13 (op : Int) (w : World) (hA : TabA w) (hO : TabO w) (hb1 : 0 ≤ op) (hb2 : op ≤ 255) (h0 : bits .and .i64 op 7 = 5) (h1 : formP op = 8) (h2 : useS op 8 = false) (h3 : useI op 8 = true) (h4 : bits .and .i64 op 8 = 0) :
    Calls Tryd.prog 8 #[.int .i64 op] w fun e w' => e = .returned (.bool true) ∧ Out w w' := by
  have hi := fun w h => info_at op w h 8 (groupP op 8) (useD op 8) false (useO op 8) true (by decide) h1 rfl rfl h2 rfl h3
  clear h1 h2 h3
  generalize useD op 8 = D at hi
  generalize useO op 8 = O at hi
  generalize groupP op 8 = G at hi
  go_enter Tryd.func8, Tryd.ntmps8
  go_wp2_with (first | (go_at_call 14; refine (hi _ hO).mono ?_; rintro e w' ⟨rfl, rfl⟩) | (go_at_call 12; refine (awake_any _ (by repeat (first | exact hA | apply TabA.alloc)) (by repeat (first | exact hO | apply TabO.alloc))).mono ?_; rintro e w' ⟨rfl, hout⟩))
  go_ret
  exact ⟨rfl, Out.trans (by repeat (first | exact Out.refl _ | apply Out.alloc)) hout⟩
theorem class14 (op : Int) (w : World) (hA : TabA w) (hO : TabO w) (hb1 : 0 ≤ op) (hb2 : op ≤ 255) (h0 : bits .and .i64 op 7 = 5) (h1 : formP op = 8) (h2 : useS op 8 = true) (h3 : useI op 8 = false) (h4 : bits .and .i64 op 8 = 8) :
    Calls Tryd.prog 8 #[.int .i64 op] w fun e w' => e = .returned (.bool true) ∧ Out w w' := by
  have hi := fun w h => info_at op w h 8 (groupP op 8) (useD op 8) true (useO op 8) false (by decide) h1 rfl rfl h2 rfl h3
  clear h1 h2 h3
  generalize useD op 8 = D at hi
  generalize useO op 8 = O at hi
  generalize groupP op 8 = G at hi
  go_enter Tryd.func8, Tryd.ntmps8
  go_wp2_with (first | (go_at_call 14; refine (hi _ hO).mono ?_; rintro e w' ⟨rfl, rfl⟩) | (go_at_call 12; refine (awake_any _ (by repeat (first | exact hA | apply TabA.alloc)) (by repeat (first | exact hO | apply TabO.alloc))).mono ?_; rintro e w' ⟨rfl, hout⟩))
  go_ret
  exact ⟨rfl, Out.trans (by repeat (first | exact Out.refl _ | apply Out.alloc)) hout⟩
theorem class15 (op : Int) (w : World) (hA : TabA w) (hO : TabO w) (hb1 : 0 ≤ op) (hb2 : op ≤ 255) (h0 : bits .and .i64 op 7 = 5) (h1 : formP op = 9) :
    Calls Tryd.prog 8 #[.int .i64 op] w fun e w' => e = .returned (.bool true) ∧ Out w w' := by
  have hi := fun w h => info_at op w h 9 (groupP op 9) (useD op 9) (useS op 9) (useO op 9) (useI op 9) (by decide) h1 rfl rfl rfl rfl rfl
  clear h1
  generalize useD op 9 = D at hi
  generalize useO op 9 = O at hi
  generalize groupP op 9 = G at hi
  generalize useS op 9 = S at hi
  generalize useI op 9 = I at hi
  go_enter Tryd.func8, Tryd.ntmps8
  go_wp2_with (first | (go_at_call 14; refine (hi _ hO).mono ?_; rintro e w' ⟨rfl, rfl⟩) | (go_at_call 12; refine (awake_any _ (by repeat (first | exact hA | apply TabA.alloc)) (by repeat (first | exact hO | apply TabO.alloc))).mono ?_; rintro e w' ⟨rfl, hout⟩))
  go_ret
  exact ⟨rfl, Out.trans (by repeat (first | exact Out.refl _ | apply Out.alloc)) hout⟩
theorem class16 (op : Int) (w : World) (hA : TabA w) (hO : TabO w) (hb1 : 0 ≤ op) (hb2 : op ≤ 255) (h0 : bits .and .i64 op 7 = 6) (h1 : formP op = 7) :
    Calls Tryd.prog 8 #[.int .i64 op] w fun e w' => e = .returned (.bool true) ∧ Out w w' := by
  have hi := fun w h => info_at op w h 7 (groupP op 7) (useD op 7) (useS op 7) (useO op 7) (useI op 7) (by decide) h1 rfl rfl rfl rfl rfl
  clear h1
  generalize useD op 7 = D at hi
  generalize useO op 7 = O at hi
  generalize groupP op 7 = G at hi
  generalize useS op 7 = S at hi
  generalize useI op 7 = I at hi
  go_enter Tryd.func8, Tryd.ntmps8
  go_wp2_with (first | (go_at_call 14; refine (hi _ hO).mono ?_; rintro e w' ⟨rfl, rfl⟩) | (go_at_call 12; refine (awake_any _ (by repeat (first | exact hA | apply TabA.alloc)) (by repeat (first | exact hO | apply TabO.alloc))).mono ?_; rintro e w' ⟨rfl, hout⟩))
  go_ret
  exact ⟨rfl, Out.trans (by repeat (first | exact Out.refl _ | apply Out.alloc)) hout⟩
theorem class17 (op : Int) (w : World) (hA : TabA w) (hO : TabO w) (hb1 : 0 ≤ op) (hb2 : op ≤ 255) (h0 : bits .and .i64 op 7 = 6) (h1 : formP op = 8) (h2 : useS op 8 = false) (h3 : useI op 8 = true) (h4 : bits .and .i64 op 8 = 0) :
    Calls Tryd.prog 8 #[.int .i64 op] w fun e w' => e = .returned (.bool true) ∧ Out w w' := by
  have hi := fun w h => info_at op w h 8 (groupP op 8) (useD op 8) false (useO op 8) true (by decide) h1 rfl rfl h2 rfl h3
  clear h1 h2 h3
  generalize useD op 8 = D at hi
  generalize useO op 8 = O at hi
  generalize groupP op 8 = G at hi
  go_enter Tryd.func8, Tryd.ntmps8
  go_wp2_with (first | (go_at_call 14; refine (hi _ hO).mono ?_; rintro e w' ⟨rfl, rfl⟩) | (go_at_call 12; refine (awake_any _ (by repeat (first | exact hA | apply TabA.alloc)) (by repeat (first | exact hO | apply TabO.alloc))).mono ?_; rintro e w' ⟨rfl, hout⟩))
  go_ret
  exact ⟨rfl, Out.trans (by repeat (first | exact Out.refl _ | apply Out.alloc)) hout⟩
theorem class18 (op : Int) (w : World) (hA : TabA w) (hO : TabO w) (hb1 : 0 ≤ op) (hb2 : op ≤ 255) (h0 : bits .and .i64 op 7 = 6) (h1 : formP op = 8) (h2 : useS op 8 = true) (h3 : useI op 8 = false) (h4 : bits .and .i64 op 8 = 8) :
    Calls Tryd.prog 8 #[.int .i64 op] w fun e w' => e = .returned (.bool true) ∧ Out w w' := by
  have hi := fun w h => info_at op w h 8 (groupP op 8) (useD op 8) true (useO op 8) false (by decide) h1 rfl rfl h2 rfl h3
  clear h1 h2 h3
  generalize useD op 8 = D at hi
  generalize useO op 8 = O at hi
  generalize groupP op 8 = G at hi
  go_enter Tryd.func8, Tryd.ntmps8
  go_wp2_with (first | (go_at_call 14; refine (hi _ hO).mono ?_; rintro e w' ⟨rfl, rfl⟩) | (go_at_call 12; refine (awake_any _ (by repeat (first | exact hA | apply TabA.alloc)) (by repeat (first | exact hO | apply TabO.alloc))).mono ?_; rintro e w' ⟨rfl, hout⟩))
  go_ret
  exact ⟨rfl, Out.trans (by repeat (first | exact Out.refl _ | apply Out.alloc)) hout⟩
end Go.Proofs.YtnbcenmckeplbaaDoor
