import Derived.Test.YtnbcenmckeplbaaDoorNf
import Derived.Laws.Bits128
namespace Go.Proofs.YtnbcenmckeplbaaDoor
open Go.RowKit Go.Sort
set_option linter.unusedVariables false
set_option linter.unusedSimpArgs false
set_option maxRecDepth 20000
theorem may_vals (o d s f i : Int) : mayP o d s f i = 0 ∨ mayP o d s f i = 20 ∨ mayP o d s f i = 21 := by
  unfold mayP
  repeat' split
  all_goals simp
theorem row_bad (o d s f i field x m : Int) (w : World) (hA : TabA w) (hO : TabO w) (hm : mayP o d s f i = m) (hm2 : m = 20 ∨ m = 21) :
    Calls Tryd.prog 7 #[.agg #[.int .i64 o, .int .i64 d, .int .i64 s, .int .i64 f, .int .i64 i], .int .i64 field, .int .i64 x] w fun e w' => e = .returned (.bool true) ∧ Out w w' := by
  have hmay := fun w a b => may_lit w a b o d s f i
  rw [hm] at hmay
  rcases hm2 with rfl | rfl
  all_goals
    go_enter Tryd.func7, Tryd.ntmps7
    go_wp2_with (first | (go_at_call 10; refine (hmay _ (hA.alloc _) (hO.alloc _)).mono ?_; rintro e w1 ⟨rfl, h1⟩) | (go_at_call 12; refine (awake_any _ ((hA.alloc _).out h1) ((hO.alloc _).out h1)).mono ?_; rintro e w2 ⟨rfl, h2⟩))
    go_ret
    exact ⟨rfl, Out.trans (Out.trans (Out.alloc (Out.refl w) _) h1) h2⟩
theorem i64_and3 (n : Int) : bits .and .i64 n 3 = n % 4 := by
  have h3 : (BitVec.ofInt 64 3).toNat = 2 ^ 2 - 1 := by decide
  have key : (BitVec.ofInt 64 n &&& BitVec.ofInt 64 3).toNat = (n % ((2 ^ 64 : Nat) : Int)).toNat % 2 ^ 2 := by
    rw [BitVec.toNat_and, BitVec.toNat_ofInt, h3, Nat.and_two_pow_sub_one_eq_mod]
  show IntKind.i64.wrap ((BitVec.ofInt 64 n &&& BitVec.ofInt 64 3).toNat : Nat) = n % 4
  rw [key, IntKind.wrap_i64]
  omega
theorem box_rule {w w1 : World} {A : Obj} (h : Out (w.alloc A) w1) (o : Nat) : w1.cell? ⟨w.heap.size, o, none⟩ = (w.alloc A).cell? ⟨w.heap.size, o, none⟩ := h.cells _ _ (by simp)
theorem info_ok_out2 (op : Int) (w : World) (h : TabO w) (hf : (formP op == 0) = false) (F G : Int) (D S O I : Bool) (e1 : formP op = F) (e2 : groupP op F = G) (e3 : useD op F = D) (e4 : useS op F = S) (e5 : useO op F = O) (e6 : useI op F = I) :
    Calls Tryd.prog 14 #[.int .i64 op] w fun e w' => e = .returned (.tuple #[.agg #[.int .i64 F, .int .i64 G, .bool D, .bool S, .bool O, .bool I], .int .i64 0]) ∧ Out w w' := by
  subst e1 e2 e3 e4 e5 e6
  refine (info_ok_lit op w h hf).mono ?_
  rintro e w1 ⟨rfl, rfl⟩
  exact ⟨rfl, by repeat (first | exact Out.refl _ | apply Out.alloc)⟩
theorem row_0 (o d s f i field x : Int) (w : World) (hA : TabA w) (hO : TabO w) (hm : mayP o d s f i = 0) (hfl : bits .and .i64 field 3 = 0) :
    Calls Tryd.prog 7 #[.agg #[.int .i64 o, .int .i64 d, .int .i64 s, .int .i64 f, .int .i64 i], .int .i64 field, .int .i64 x] w fun e w' => e = .returned (.bool true) ∧ Out w w' := by
  have hmay := fun w a b => may_lit w a b o d s f i
  rw [hm] at hmay
  obtain ⟨h0, _, _⟩ := may_ok hm
  obtain ⟨wi1, wi2⟩ := within_lists hm
  have hwr := fun w a b => writes_any o d s f i w a b
  have hre := fun w a b => reads_any o d s f i w a b
  have hwi1 := fun (v : Value) (w : World) (h : NumsAt w v (writesP o d s f i)) => within_any (within_of wi1).2 (within_of wi1).1 h
  have hwi2 := fun (v : Value) (w : World) (h : NumsAt w v (readsP o d s f i)) => within_any (within_of wi2).2 (within_of wi2).1 h
  have hch : useD o (formP o) = false → x ≠ 0 → NotFixed o 0 x → mayP o x s f i = 21 := fun a b c => changed_0 hm a b
  have hmay2 := fun w a b => may_lit w a b o x s f i
  have hinfo := fun w h => info_ok_out2 o w h h0 (formP o) (groupP o (formP o)) (useD o (formP o)) (useS o (formP o)) (useO o (formP o)) (useI o (formP o)) rfl rfl rfl rfl rfl rfl
  clear wi1 wi2 h0 hm
  generalize hF : formP o = F at *
  generalize groupP o F = G at *
  generalize useD o F = D at *
  generalize useS o F = S at *
  generalize useO o F = O at *
  generalize useI o F = I at *
  generalize hM : mayP o x s f i = M at *
  generalize writesP o d s f i = lw at *
  generalize readsP o d s f i = lr at *
  clear hF hM
  have HC : Hid (D = false → x ≠ 0 → NotFixed o 0 x → M = 21) := hch
  clear hch
  go_enter Tryd.func7, Tryd.ntmps7
  go_upto_region 9 with (first | (go_at_call 10; refine (hmay _ (hA.alloc _) (hO.alloc _)).mono ?_; rintro e w1 ⟨rfl, h1⟩; have r1 := box_rule h1; clear hmay) | (go_at_call 14; refine (hinfo _ ((hO.alloc _).out h1)).mono ?_; rintro e w2 ⟨rfl, h2⟩; have r2 := fun O o => box_rule ((Out.trans h1 h2).alloc O) o; clear hinfo) | (go_at_call 18; refine (hwr _ ((hA.alloc _).out ((Out.trans h1 h2).alloc _)) ((hO.alloc _).out ((Out.trans h1 h2).alloc _))).mono ?_; rintro e w3 ⟨v3, rfl, n3, h3⟩; have r3 := box_rule (Out.trans ((Out.trans h1 h2).alloc _) h3); have s3 := box_rule h3; clear hwr) | (go_at_call 19; refine (hre _ ((hA.alloc _).out (Out.trans ((Out.trans h1 h2).alloc _) h3)) ((hO.alloc _).out (Out.trans ((Out.trans h1 h2).alloc _) h3))).mono ?_; rintro e w4 ⟨v4, rfl, n4, h4⟩; clear hre) | (go_at_call 28; refine (hwi1 _ _ ((nums_of_own n3).out h4)).mono ?_; rintro e w5 ⟨rfl, h5⟩; clear hwi1) | (go_at_call 28; refine (hwi2 _ _ ((nums_of_own n4).out h5)).mono ?_; rintro e w6 ⟨rfl, h6⟩; clear hwi2))
  have HX := Out.trans (Out.trans (Out.trans (Out.trans ((Out.trans h1 h2).alloc _) h3) h4) h5) h6
  have HU := Out.trans (Out.trans (Out.trans h3 h4) h5) h6
  have R6 := fun o => box_rule HX o
  have R7 := fun O o => box_rule (HX.alloc O) o
  have S6 := fun o => box_rule HU o
  have hA6 := (hA.alloc _).out HX
  have hO6 := (hO.alloc _).out HX
  have HW : Out w w6 := Out.trans (Out.alloc (Out.refl w) _) HX
  clear r1 r2 r3 s3 n3 n4 h1 h2 h3 h4 h5 h6 HX HU hA hO
  cases D
  · by_cases hx0 : x = 0
    · subst hx0
      go_wp2_with (first | (go_at_call 12; refine (awake_any _ (by repeat (first | exact hA6 | apply TabA.alloc)) (by repeat (first | exact hO6 | apply TabO.alloc))).mono ?_; rintro e w8 ⟨rfl, h8⟩))
      go_ret
      exact ⟨rfl, Out.trans (by repeat (first | exact HW | apply Out.alloc)) h8⟩
    · have hx1 : (x == 0) = false := by simpa using hx0
      have HC2 : Hid (NotFixed o 0 x → M = 21) := fun h => HC.out rfl hx0 h
      clear HC hx0
      go_wp2_with (first | (go_at_call 29; refine (fixed_0 _ _ _).mono ?_; rintro e w7 ⟨r, rfl, rfl, hr⟩; have HR : Hid (r = false → NotFixed o 0 x) := hr; clear hr) | (go_at_call 10; refine (hmay2 _ (by repeat (first | exact hA6 | apply TabA.alloc)) (by repeat (first | exact hO6 | apply TabO.alloc))).mono ?_; rintro e w8 ⟨rfl, h8⟩; have hA8 : TabA w8 := TabA.out (by repeat (first | exact hA6 | apply TabA.alloc)) h8; have hO8 : TabO w8 := TabO.out (by repeat (first | exact hO6 | apply TabO.alloc)) h8; clear hA6) | (go_at_call 12; refine (awake_any _ (by repeat (first | exact hA8 | exact hA6 | apply TabA.alloc)) (by repeat (first | exact hO8 | exact hO6 | apply TabO.alloc))).mono ?_; rintro e w9 ⟨rfl, h9⟩))
      · go_ret
        exact ⟨rfl, Out.trans (by repeat (first | exact HW | apply Out.alloc)) h9⟩
      · have hM21 := HC2.out (HR.out (by assumption))
        subst hM21
        go_ret
        exact ⟨rfl, Out.trans (Out.trans (by repeat (first | exact HW | apply Out.alloc)) h8) h9⟩
  · go_wp2_with (first | (go_at_call 12; refine (awake_any _ (by repeat (first | exact hA6 | apply TabA.alloc)) (by repeat (first | exact hO6 | apply TabO.alloc))).mono ?_; rintro e w8 ⟨rfl, h8⟩))
    go_ret
    exact ⟨rfl, Out.trans (by repeat (first | exact HW | apply Out.alloc)) h8⟩
theorem row_1 (o d s f i field x : Int) (w : World) (hA : TabA w) (hO : TabO w) (hm : mayP o d s f i = 0) (hfl : bits .and .i64 field 3 = 1) :
    Calls Tryd.prog 7 #[.agg #[.int .i64 o, .int .i64 d, .int .i64 s, .int .i64 f, .int .i64 i], .int .i64 field, .int .i64 x] w fun e w' => e = .returned (.bool true) ∧ Out w w' := by
  have hmay := fun w a b => may_lit w a b o d s f i
  rw [hm] at hmay
  obtain ⟨h0, _, _⟩ := may_ok hm
  obtain ⟨wi1, wi2⟩ := within_lists hm
  have hwr := fun w a b => writes_any o d s f i w a b
  have hre := fun w a b => reads_any o d s f i w a b
  have hwi1 := fun (v : Value) (w : World) (h : NumsAt w v (writesP o d s f i)) => within_any (within_of wi1).2 (within_of wi1).1 h
  have hwi2 := fun (v : Value) (w : World) (h : NumsAt w v (readsP o d s f i)) => within_any (within_of wi2).2 (within_of wi2).1 h
  have hch : useS o (formP o) = false → x ≠ 0 → NotFixed o 1 x → mayP o d x f i = 21 := fun a b c => changed_1 hm a b c
  have hmay2 := fun w a b => may_lit w a b o d x f i
  have hinfo := fun w h => info_ok_out2 o w h h0 (formP o) (groupP o (formP o)) (useD o (formP o)) (useS o (formP o)) (useO o (formP o)) (useI o (formP o)) rfl rfl rfl rfl rfl rfl
  clear wi1 wi2 h0 hm
  generalize hF : formP o = F at *
  generalize groupP o F = G at *
  generalize useD o F = D at *
  generalize useS o F = S at *
  generalize useO o F = O at *
  generalize useI o F = I at *
  generalize hM : mayP o d x f i = M at *
  generalize writesP o d s f i = lw at *
  generalize readsP o d s f i = lr at *
  clear hF hM
  have HC : Hid (S = false → x ≠ 0 → NotFixed o 1 x → M = 21) := hch
  clear hch
  go_enter Tryd.func7, Tryd.ntmps7
  go_upto_region 9 with (first | (go_at_call 10; refine (hmay _ (hA.alloc _) (hO.alloc _)).mono ?_; rintro e w1 ⟨rfl, h1⟩; have r1 := box_rule h1; clear hmay) | (go_at_call 14; refine (hinfo _ ((hO.alloc _).out h1)).mono ?_; rintro e w2 ⟨rfl, h2⟩; have r2 := fun O o => box_rule ((Out.trans h1 h2).alloc O) o; clear hinfo) | (go_at_call 18; refine (hwr _ ((hA.alloc _).out ((Out.trans h1 h2).alloc _)) ((hO.alloc _).out ((Out.trans h1 h2).alloc _))).mono ?_; rintro e w3 ⟨v3, rfl, n3, h3⟩; have r3 := box_rule (Out.trans ((Out.trans h1 h2).alloc _) h3); have s3 := box_rule h3; clear hwr) | (go_at_call 19; refine (hre _ ((hA.alloc _).out (Out.trans ((Out.trans h1 h2).alloc _) h3)) ((hO.alloc _).out (Out.trans ((Out.trans h1 h2).alloc _) h3))).mono ?_; rintro e w4 ⟨v4, rfl, n4, h4⟩; clear hre) | (go_at_call 28; refine (hwi1 _ _ ((nums_of_own n3).out h4)).mono ?_; rintro e w5 ⟨rfl, h5⟩; clear hwi1) | (go_at_call 28; refine (hwi2 _ _ ((nums_of_own n4).out h5)).mono ?_; rintro e w6 ⟨rfl, h6⟩; clear hwi2))
  have HX := Out.trans (Out.trans (Out.trans (Out.trans ((Out.trans h1 h2).alloc _) h3) h4) h5) h6
  have HU := Out.trans (Out.trans (Out.trans h3 h4) h5) h6
  have R6 := fun o => box_rule HX o
  have R7 := fun O o => box_rule (HX.alloc O) o
  have S6 := fun o => box_rule HU o
  have hA6 := (hA.alloc _).out HX
  have hO6 := (hO.alloc _).out HX
  have HW : Out w w6 := Out.trans (Out.alloc (Out.refl w) _) HX
  clear r1 r2 r3 s3 n3 n4 h1 h2 h3 h4 h5 h6 HX HU hA hO
  cases S
  · by_cases hx0 : x = 0
    · subst hx0
      go_wp2_with (first | (go_at_call 12; refine (awake_any _ (by repeat (first | exact hA6 | apply TabA.alloc)) (by repeat (first | exact hO6 | apply TabO.alloc))).mono ?_; rintro e w8 ⟨rfl, h8⟩))
      go_ret
      exact ⟨rfl, Out.trans (by repeat (first | exact HW | apply Out.alloc)) h8⟩
    · have hx1 : (x == 0) = false := by simpa using hx0
      have HC2 : Hid (NotFixed o 1 x → M = 21) := fun h => HC.out rfl hx0 h
      clear HC hx0
      go_wp2_with (first | (go_at_call 29; refine (fixed_1 _ _ _).mono ?_; rintro e w7 ⟨r, rfl, rfl, hr⟩; have HR : Hid (r = false → NotFixed o 1 x) := hr; clear hr) | (go_at_call 10; refine (hmay2 _ (by repeat (first | exact hA6 | apply TabA.alloc)) (by repeat (first | exact hO6 | apply TabO.alloc))).mono ?_; rintro e w8 ⟨rfl, h8⟩; have hA8 : TabA w8 := TabA.out (by repeat (first | exact hA6 | apply TabA.alloc)) h8; have hO8 : TabO w8 := TabO.out (by repeat (first | exact hO6 | apply TabO.alloc)) h8; clear hA6) | (go_at_call 12; refine (awake_any _ (by repeat (first | exact hA8 | exact hA6 | apply TabA.alloc)) (by repeat (first | exact hO8 | exact hO6 | apply TabO.alloc))).mono ?_; rintro e w9 ⟨rfl, h9⟩))
      · go_ret
        exact ⟨rfl, Out.trans (by repeat (first | exact HW | apply Out.alloc)) h9⟩
      · have hM21 := HC2.out (HR.out (by assumption))
        subst hM21
        go_ret
        exact ⟨rfl, Out.trans (Out.trans (by repeat (first | exact HW | apply Out.alloc)) h8) h9⟩
  · go_wp2_with (first | (go_at_call 12; refine (awake_any _ (by repeat (first | exact hA6 | apply TabA.alloc)) (by repeat (first | exact hO6 | apply TabO.alloc))).mono ?_; rintro e w8 ⟨rfl, h8⟩))
    go_ret
    exact ⟨rfl, Out.trans (by repeat (first | exact HW | apply Out.alloc)) h8⟩
theorem row_2 (o d s f i field x : Int) (w : World) (hA : TabA w) (hO : TabO w) (hm : mayP o d s f i = 0) (hfl : bits .and .i64 field 3 = 2) :
    Calls Tryd.prog 7 #[.agg #[.int .i64 o, .int .i64 d, .int .i64 s, .int .i64 f, .int .i64 i], .int .i64 field, .int .i64 x] w fun e w' => e = .returned (.bool true) ∧ Out w w' := by
  have hmay := fun w a b => may_lit w a b o d s f i
  rw [hm] at hmay
  obtain ⟨h0, _, _⟩ := may_ok hm
  obtain ⟨wi1, wi2⟩ := within_lists hm
  have hwr := fun w a b => writes_any o d s f i w a b
  have hre := fun w a b => reads_any o d s f i w a b
  have hwi1 := fun (v : Value) (w : World) (h : NumsAt w v (writesP o d s f i)) => within_any (within_of wi1).2 (within_of wi1).1 h
  have hwi2 := fun (v : Value) (w : World) (h : NumsAt w v (readsP o d s f i)) => within_any (within_of wi2).2 (within_of wi2).1 h
  have hch : useO o (formP o) = false → x ≠ 0 → NotFixed o 2 x → mayP o d s x i = 21 := fun a b c => changed_2 hm a b c
  have hmay2 := fun w a b => may_lit w a b o d s x i
  have hinfo := fun w h => info_ok_out2 o w h h0 (formP o) (groupP o (formP o)) (useD o (formP o)) (useS o (formP o)) (useO o (formP o)) (useI o (formP o)) rfl rfl rfl rfl rfl rfl
  clear wi1 wi2 h0 hm
  generalize hF : formP o = F at *
  generalize groupP o F = G at *
  generalize useD o F = D at *
  generalize useS o F = S at *
  generalize useO o F = O at *
  generalize useI o F = I at *
  generalize hM : mayP o d s x i = M at *
  generalize writesP o d s f i = lw at *
  generalize readsP o d s f i = lr at *
  clear hF hM
  have HC : Hid (O = false → x ≠ 0 → NotFixed o 2 x → M = 21) := hch
  clear hch
  go_enter Tryd.func7, Tryd.ntmps7
  go_upto_region 9 with (first | (go_at_call 10; refine (hmay _ (hA.alloc _) (hO.alloc _)).mono ?_; rintro e w1 ⟨rfl, h1⟩; have r1 := box_rule h1; clear hmay) | (go_at_call 14; refine (hinfo _ ((hO.alloc _).out h1)).mono ?_; rintro e w2 ⟨rfl, h2⟩; have r2 := fun O o => box_rule ((Out.trans h1 h2).alloc O) o; clear hinfo) | (go_at_call 18; refine (hwr _ ((hA.alloc _).out ((Out.trans h1 h2).alloc _)) ((hO.alloc _).out ((Out.trans h1 h2).alloc _))).mono ?_; rintro e w3 ⟨v3, rfl, n3, h3⟩; have r3 := box_rule (Out.trans ((Out.trans h1 h2).alloc _) h3); have s3 := box_rule h3; clear hwr) | (go_at_call 19; refine (hre _ ((hA.alloc _).out (Out.trans ((Out.trans h1 h2).alloc _) h3)) ((hO.alloc _).out (Out.trans ((Out.trans h1 h2).alloc _) h3))).mono ?_; rintro e w4 ⟨v4, rfl, n4, h4⟩; clear hre) | (go_at_call 28; refine (hwi1 _ _ ((nums_of_own n3).out h4)).mono ?_; rintro e w5 ⟨rfl, h5⟩; clear hwi1) | (go_at_call 28; refine (hwi2 _ _ ((nums_of_own n4).out h5)).mono ?_; rintro e w6 ⟨rfl, h6⟩; clear hwi2))
  have HX := Out.trans (Out.trans (Out.trans (Out.trans ((Out.trans h1 h2).alloc _) h3) h4) h5) h6
  have HU := Out.trans (Out.trans (Out.trans h3 h4) h5) h6
  have R6 := fun o => box_rule HX o
  have R7 := fun O o => box_rule (HX.alloc O) o
  have S6 := fun o => box_rule HU o
  have hA6 := (hA.alloc _).out HX
  have hO6 := (hO.alloc _).out HX
  have HW : Out w w6 := Out.trans (Out.alloc (Out.refl w) _) HX
  clear r1 r2 r3 s3 n3 n4 h1 h2 h3 h4 h5 h6 HX HU hA hO
  cases O
  · by_cases hx0 : x = 0
    · subst hx0
      go_wp2_with (first | (go_at_call 12; refine (awake_any _ (by repeat (first | exact hA6 | apply TabA.alloc)) (by repeat (first | exact hO6 | apply TabO.alloc))).mono ?_; rintro e w8 ⟨rfl, h8⟩))
      go_ret
      exact ⟨rfl, Out.trans (by repeat (first | exact HW | apply Out.alloc)) h8⟩
    · have hx1 : (x == 0) = false := by simpa using hx0
      have HC2 : Hid (NotFixed o 2 x → M = 21) := fun h => HC.out rfl hx0 h
      clear HC hx0
      go_wp2_with (first | (go_at_call 29; refine (fixed_2 _ _ _).mono ?_; rintro e w7 ⟨r, rfl, rfl, hr⟩; have HR : Hid (r = false → NotFixed o 2 x) := hr; clear hr) | (go_at_call 10; refine (hmay2 _ (by repeat (first | exact hA6 | apply TabA.alloc)) (by repeat (first | exact hO6 | apply TabO.alloc))).mono ?_; rintro e w8 ⟨rfl, h8⟩; have hA8 : TabA w8 := TabA.out (by repeat (first | exact hA6 | apply TabA.alloc)) h8; have hO8 : TabO w8 := TabO.out (by repeat (first | exact hO6 | apply TabO.alloc)) h8; clear hA6) | (go_at_call 12; refine (awake_any _ (by repeat (first | exact hA8 | exact hA6 | apply TabA.alloc)) (by repeat (first | exact hO8 | exact hO6 | apply TabO.alloc))).mono ?_; rintro e w9 ⟨rfl, h9⟩))
      · go_ret
        exact ⟨rfl, Out.trans (by repeat (first | exact HW | apply Out.alloc)) h9⟩
      · have hM21 := HC2.out (HR.out (by assumption))
        subst hM21
        go_ret
        exact ⟨rfl, Out.trans (Out.trans (by repeat (first | exact HW | apply Out.alloc)) h8) h9⟩
  · go_wp2_with (first | (go_at_call 12; refine (awake_any _ (by repeat (first | exact hA6 | apply TabA.alloc)) (by repeat (first | exact hO6 | apply TabO.alloc))).mono ?_; rintro e w8 ⟨rfl, h8⟩))
    go_ret
    exact ⟨rfl, Out.trans (by repeat (first | exact HW | apply Out.alloc)) h8⟩
theorem row_3 (o d s f i field x : Int) (w : World) (hA : TabA w) (hO : TabO w) (hm : mayP o d s f i = 0) (hfl : bits .and .i64 field 3 = 3) :
    Calls Tryd.prog 7 #[.agg #[.int .i64 o, .int .i64 d, .int .i64 s, .int .i64 f, .int .i64 i], .int .i64 field, .int .i64 x] w fun e w' => e = .returned (.bool true) ∧ Out w w' := by
  have hmay := fun w a b => may_lit w a b o d s f i
  rw [hm] at hmay
  obtain ⟨h0, _, _⟩ := may_ok hm
  obtain ⟨wi1, wi2⟩ := within_lists hm
  have hwr := fun w a b => writes_any o d s f i w a b
  have hre := fun w a b => reads_any o d s f i w a b
  have hwi1 := fun (v : Value) (w : World) (h : NumsAt w v (writesP o d s f i)) => within_any (within_of wi1).2 (within_of wi1).1 h
  have hwi2 := fun (v : Value) (w : World) (h : NumsAt w v (readsP o d s f i)) => within_any (within_of wi2).2 (within_of wi2).1 h
  have hch : useI o (formP o) = false → x ≠ 0 → NotFixed o 3 x → mayP o d s f x = 21 := fun a b c => changed_3 hm a b c
  have hmay2 := fun w a b => may_lit w a b o d s f x
  have hinfo := fun w h => info_ok_out2 o w h h0 (formP o) (groupP o (formP o)) (useD o (formP o)) (useS o (formP o)) (useO o (formP o)) (useI o (formP o)) rfl rfl rfl rfl rfl rfl
  clear wi1 wi2 h0 hm
  generalize hF : formP o = F at *
  generalize groupP o F = G at *
  generalize useD o F = D at *
  generalize useS o F = S at *
  generalize useO o F = O at *
  generalize useI o F = I at *
  generalize hM : mayP o d s f x = M at *
  generalize writesP o d s f i = lw at *
  generalize readsP o d s f i = lr at *
  clear hF hM
  have HC : Hid (I = false → x ≠ 0 → NotFixed o 3 x → M = 21) := hch
  clear hch
  go_enter Tryd.func7, Tryd.ntmps7
  go_upto_region 9 with (first | (go_at_call 10; refine (hmay _ (hA.alloc _) (hO.alloc _)).mono ?_; rintro e w1 ⟨rfl, h1⟩; have r1 := box_rule h1; clear hmay) | (go_at_call 14; refine (hinfo _ ((hO.alloc _).out h1)).mono ?_; rintro e w2 ⟨rfl, h2⟩; have r2 := fun O o => box_rule ((Out.trans h1 h2).alloc O) o; clear hinfo) | (go_at_call 18; refine (hwr _ ((hA.alloc _).out ((Out.trans h1 h2).alloc _)) ((hO.alloc _).out ((Out.trans h1 h2).alloc _))).mono ?_; rintro e w3 ⟨v3, rfl, n3, h3⟩; have r3 := box_rule (Out.trans ((Out.trans h1 h2).alloc _) h3); have s3 := box_rule h3; clear hwr) | (go_at_call 19; refine (hre _ ((hA.alloc _).out (Out.trans ((Out.trans h1 h2).alloc _) h3)) ((hO.alloc _).out (Out.trans ((Out.trans h1 h2).alloc _) h3))).mono ?_; rintro e w4 ⟨v4, rfl, n4, h4⟩; clear hre) | (go_at_call 28; refine (hwi1 _ _ ((nums_of_own n3).out h4)).mono ?_; rintro e w5 ⟨rfl, h5⟩; clear hwi1) | (go_at_call 28; refine (hwi2 _ _ ((nums_of_own n4).out h5)).mono ?_; rintro e w6 ⟨rfl, h6⟩; clear hwi2))
  have HX := Out.trans (Out.trans (Out.trans (Out.trans ((Out.trans h1 h2).alloc _) h3) h4) h5) h6
  have HU := Out.trans (Out.trans (Out.trans h3 h4) h5) h6
  have R6 := fun o => box_rule HX o
  have R7 := fun O o => box_rule (HX.alloc O) o
  have S6 := fun o => box_rule HU o
  have hA6 := (hA.alloc _).out HX
  have hO6 := (hO.alloc _).out HX
  have HW : Out w w6 := Out.trans (Out.alloc (Out.refl w) _) HX
  clear r1 r2 r3 s3 n3 n4 h1 h2 h3 h4 h5 h6 HX HU hA hO
  cases I
  · by_cases hx0 : x = 0
    · subst hx0
      go_wp2_with (first | (go_at_call 12; refine (awake_any _ (by repeat (first | exact hA6 | apply TabA.alloc)) (by repeat (first | exact hO6 | apply TabO.alloc))).mono ?_; rintro e w8 ⟨rfl, h8⟩))
      go_ret
      exact ⟨rfl, Out.trans (by repeat (first | exact HW | apply Out.alloc)) h8⟩
    · have hx1 : (x == 0) = false := by simpa using hx0
      have HC2 : Hid (NotFixed o 3 x → M = 21) := fun h => HC.out rfl hx0 h
      clear HC hx0
      go_wp2_with (first | (go_at_call 29; refine (fixed_3 _ _ _).mono ?_; rintro e w7 ⟨r, rfl, rfl, hr⟩; have HR : Hid (r = false → NotFixed o 3 x) := hr; clear hr) | (go_at_call 10; refine (hmay2 _ (by repeat (first | exact hA6 | apply TabA.alloc)) (by repeat (first | exact hO6 | apply TabO.alloc))).mono ?_; rintro e w8 ⟨rfl, h8⟩; have hA8 : TabA w8 := TabA.out (by repeat (first | exact hA6 | apply TabA.alloc)) h8; have hO8 : TabO w8 := TabO.out (by repeat (first | exact hO6 | apply TabO.alloc)) h8; clear hA6) | (go_at_call 12; refine (awake_any _ (by repeat (first | exact hA8 | exact hA6 | apply TabA.alloc)) (by repeat (first | exact hO8 | exact hO6 | apply TabO.alloc))).mono ?_; rintro e w9 ⟨rfl, h9⟩))
      · go_ret
        exact ⟨rfl, Out.trans (by repeat (first | exact HW | apply Out.alloc)) h9⟩
      · have hM21 := HC2.out (HR.out (by assumption))
        subst hM21
        go_ret
        exact ⟨rfl, Out.trans (Out.trans (by repeat (first | exact HW | apply Out.alloc)) h8) h9⟩
  · go_wp2_with (first | (go_at_call 12; refine (awake_any _ (by repeat (first | exact hA6 | apply TabA.alloc)) (by repeat (first | exact hO6 | apply TabO.alloc))).mono ?_; rintro e w8 ⟨rfl, h8⟩))
    go_ret
    exact ⟨rfl, Out.trans (by repeat (first | exact HW | apply Out.alloc)) h8⟩
theorem isaRow_walk (o d s f i field x : Int) (w : World) (hA : TabA w) (hO : TabO w) :
    Calls Tryd.prog 7 #[.agg #[.int .i64 o, .int .i64 d, .int .i64 s, .int .i64 f, .int .i64 i], .int .i64 field, .int .i64 x] w fun e w' => e = .returned (.bool true) ∧ Out w w' := by
  rcases may_vals o d s f i with hm | hm | hm
  · have h4 := i64_and3 field
    rcases (show field % 4 = 0 ∨ field % 4 = 1 ∨ field % 4 = 2 ∨ field % 4 = 3 from by omega) with e | e | e | e
    · exact row_0 o d s f i field x w hA hO hm (h4.trans e)
    · exact row_1 o d s f i field x w hA hO hm (h4.trans e)
    · exact row_2 o d s f i field x w hA hO hm (h4.trans e)
    · exact row_3 o d s f i field x w hA hO hm (h4.trans e)
  · exact row_bad o d s f i field x 20 w hA hO hm (.inl rfl)
  · exact row_bad o d s f i field x 21 w hA hO hm (.inr rfl)
end Go.Proofs.YtnbcenmckeplbaaDoor
