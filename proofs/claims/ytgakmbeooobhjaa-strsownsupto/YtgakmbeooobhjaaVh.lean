import Derived.Test.YtgakmbeooobhjaaVg
import Derived.Test.YtgakmbeooobhjaaZt
import Derived.Test.YtgakmbeooobhjaaAy
namespace Go.Proofs.Ytgakmbeooobhjaa
open Go.RowKit
open Go.Maps (Keyed)
set_option linter.unusedVariables false
set_option linter.unusedSimpArgs false
def Ac.cs (x : Ac) : Array Value := #[.int .i64 x.w, .int .i64 x.k, .string ⟨x.s.toArray⟩, .int .i64 x.p]
/-- a desk with a table -/
structure Dk (d : Nat) (w : World) (p : Nat) (N : List (List UInt8)) (ra : Option Addr) (rc : Nat) (F : Nat → Prop) : Prop where
  at_ : w.heap[d]? = some (.cells #[.pointer (some ⟨p, 0, none⟩), .slice ra N.length rc] 68 (0, 0))
  tab : Tab p w N F
  own : OwS 0 (.slice ra N.length rc) N w
  nd : ¬ F d
  nr : ∀ k, (Value.slice ra N.length rc).ownBlock = some k → ¬ F k
  lt : ∀ k, F k → k < w.heap.size
def dkF (d : Nat) (ra : Option Addr) (F : Nat → Prop) (k : Nat) : Prop := k = d ∨ (Value.slice ra 0 0).ownBlock = some k ∨ F k
theorem ob_len {ra : Option Addr} {n c n' c' : Nat} : (Value.slice ra n c).ownBlock = (Value.slice ra n' c').ownBlock := by cases ra <;> rfl
theorem Dk.dlt {d : Nat} {w : World} {p : Nat} {N : List (List UInt8)} {ra : Option Addr} {rc : Nat} {F : Nat → Prop} (h : Dk d w p N ra rc F) : d < w.heap.size := (Array.getElem?_eq_some_iff.1 h.at_).1
theorem Dk.flt {d : Nat} {w : World} {p : Nat} {N : List (List UInt8)} {ra : Option Addr} {rc : Nat} {F : Nat → Prop} (h : Dk d w p N ra rc F) : ∀ k, dkF d ra F k → k < w.heap.size := fun k hk => by
  rcases hk with rfl | hk | hk
  · exact h.dlt
  · exact (h.own.lt k (by rw [ob_len (n' := 0) (c' := 0)]; exact hk)).2
  · exact h.lt k hk
theorem Dk.chg {d : Nat} {w w' : World} {p : Nat} {N : List (List UInt8)} {ra : Option Addr} {rc : Nat} {F S : Nat → Prop} (h : Dk d w p N ra rc F) (hc : Chg S w w') (hs : ∀ k, dkF d ra F k → ¬ S k) : Dk d w' p N ra rc F :=
  ⟨(hc.block d h.dlt (hs d (.inl rfl))).trans h.at_, h.tab.chg hc (fun k hk => hs k (.inr (.inr hk))), owns_chg h.own (fun k hk => hs k (.inr (.inl (by rw [ob_len (n' := N.length) (c' := rc)]; exact hk)))) hc, h.nd, h.nr, fun k hk => Nat.lt_of_lt_of_le (h.lt k hk) hc.size⟩
theorem Dk.out {d : Nat} {w w' : World} {p : Nat} {N : List (List UInt8)} {ra : Option Addr} {rc : Nat} {F : Nat → Prop} (h : Dk d w p N ra rc F) (o : Out w w') : Dk d w' p N ra rc F := h.chg (S := fun _ => False) (Chg.of_out o) (fun _ _ h => h)
theorem Dk.c0 {d : Nat} {w : World} {p : Nat} {N : List (List UInt8)} {ra : Option Addr} {rc : Nat} {F : Nat → Prop} (h : Dk d w p N ra rc F) : w.cell? ⟨d, 0, none⟩ = some (.pointer (some ⟨p, 0, none⟩)) := by simp [World.cell?, h.at_]
theorem Dk.c1 {d : Nat} {w : World} {p : Nat} {N : List (List UInt8)} {ra : Option Addr} {rc : Nat} {F : Nat → Prop} (h : Dk d w p N ra rc F) : w.cell? ⟨d, 1, none⟩ = some (.slice ra N.length rc) := by simp [World.cell?, h.at_]
theorem Dk.f1 {d : Nat} {w : World} {p : Nat} {N : List (List UInt8)} {ra : Option Addr} {rc : Nat} {F : Nat → Prop} (h : Dk d w p N ra rc F) : w.frozen? ⟨d, 1, none⟩ = false := by simp [World.frozen?, h.at_]
/-- a box of an act -/
def AcB (w : World) (b : Nat) (x : Ac) : Prop := w.heap[b]? = some (.cells x.cs 29 (0, 0))
theorem AcB.lt {w : World} {b : Nat} {x : Ac} (h : AcB w b x) : b < w.heap.size := (Array.getElem?_eq_some_iff.1 h).1
theorem AcB.cell {w : World} {b : Nat} {x : Ac} (h : AcB w b x) (j : Nat) : w.cell? ⟨b, j, none⟩ = x.cs[j]? := by
  have h' : w.heap[b]? = some (.cells x.cs 29 (0, 0)) := h
  simp [World.cell?, h']
theorem AcB.out {w w' : World} {b : Nat} {x : Ac} (h : AcB w b x) (o : Out w w') : AcB w' b x := (o.block b h.lt).trans h
set_option maxRecDepth 20000 in
set_option maxHeartbeats 2000000 in
theorem act_names (d : Nat) (x : Ac) (w : World) (p : Nat) (N : List (List UInt8)) (ra : Option Addr) (rc : Nat) (F : Nat → Prop) (h : Dk d w p N ra rc F) (hb : szF 1 N ≤ 900000000000) (hk : x.k = 3) :
    Calls Try.prog 9 #[.pointer (some ⟨d, 0, none⟩), .agg x.cs] w fun e w' => ∃ a c, e = .returned (.tuple #[.bool true, .slice none 0 0, .slice a N.length c]) ∧ OwS w.heap.size (.slice a N.length c) N w' ∧ Out w w' := by
  obtain ⟨xw, xk, xs, xp⟩ := x
  simp only at *
  subst hk
  obtain ⟨w1, hw1⟩ : ∃ w1, w1 = w.alloc (.cells (Ac.cs ⟨xw, 3, xs, xp⟩) 29) := ⟨_, rfl⟩
  have HB : Hid (AcB w1 w.heap.size ⟨xw, 3, xs, xp⟩) := by rw [hw1]; exact heap_alloc_new _ _
  have Ho : Hid (Out w w1) := by rw [hw1]; exact (Out.refl w).alloc _
  have HD := hidOf (h.out Ho.out)
  have hn := szF_ge N 1
  have hN9 : N.length ≤ 1000000000000 := by omega
  have CN := hidOf (names_any p w1 N F HD.out.tab (by omega))
  clear h
  show Calls _ _ #[_, .agg #[.int .i64 xw, .int .i64 3, .string ⟨xs.toArray⟩, .int .i64 xp]] _ _
  go_enter Try.func9, Try.ntmps9
  go_upto_region 1 with fail
  rw [show w.alloc (.cells #[.int .i64 xw, .int .i64 3, .string ⟨xs.toArray⟩, .int .i64 xp] 29) = w1 from hw1.symm]
  clear hw1
  have k1 : w1.cell? ⟨w.heap.size, 1, none⟩ = some (.int .i64 3) := HB.out.cell 1
  have c0 := HD.out.c0
  go_upto_region 15 with (go_at_call 30; refine (CN.out).mono ?_; rintro e w2 ⟨na, nc, rfl, hown, ho⟩; have W2 := hidOf hown; have P2 := hidOf ho; clear hown ho)
  have c1 := (HD.out.out P2.out).c1
  have CS := hidOf (sameTexts_any na ra nc rc N w2 W2.out.rt.1 (HD.out.out P2.out).own.rt.1 W2.out.rt.2 (HD.out.out P2.out).own.rt.2 hN9)
  go_wp2_with (go_at_call 31; refine (CS.out).mono ?_; rintro e w3 ⟨rfl, m3, rfl⟩)
  go_ret3
  exact ⟨_, _, rfl, owns_base (W2.out.out ((Out.refl w2).drewN _)) Ho.out.size, (Ho.out.trans P2.out).drewN _⟩
set_option maxRecDepth 20000 in
set_option maxHeartbeats 2000000 in
theorem act_bytes (d : Nat) (x : Ac) (w : World) (p : Nat) (N : List (List UInt8)) (ra : Option Addr) (rc : Nat) (F : Nat → Prop) (h : Dk d w p N ra rc F) (hb : szF 1 N ≤ 900000000000) (hk : x.k = 4) :
    Calls Try.prog 9 #[.pointer (some ⟨d, 0, none⟩), .agg x.cs] w fun e w' => ∃ a c, e = .returned (.tuple #[.bool true, .slice a (byP N).length c, .slice none 0 0]) ∧ OwB w.heap.size (.slice a (byP N).length c) (byP N) w' ∧ Out w w' := by
  obtain ⟨xw, xk, xs, xp⟩ := x
  simp only at *
  subst hk
  obtain ⟨w1, hw1⟩ : ∃ w1, w1 = w.alloc (.cells (Ac.cs ⟨xw, 4, xs, xp⟩) 29) := ⟨_, rfl⟩
  have HB : Hid (AcB w1 w.heap.size ⟨xw, 4, xs, xp⟩) := by rw [hw1]; exact heap_alloc_new _ _
  have Ho : Hid (Out w w1) := by rw [hw1]; exact (Out.refl w).alloc _
  have HD := hidOf (h.out Ho.out)
  have CN := hidOf (bytes_any p w1 N F HD.out.tab (by omega))
  have Hb := hidOf hb
  clear h hb
  show Calls _ _ #[_, .agg #[.int .i64 xw, .int .i64 4, .string ⟨xs.toArray⟩, .int .i64 xp]] _ _
  go_enter Try.func9, Try.ntmps9
  go_upto_region 1 with fail
  rw [show w.alloc (.cells #[.int .i64 xw, .int .i64 4, .string ⟨xs.toArray⟩, .int .i64 xp] 29) = w1 from hw1.symm]
  clear hw1
  have k1 : w1.cell? ⟨w.heap.size, 1, none⟩ = some (.int .i64 4) := HB.out.cell 1
  have c0 := HD.out.c0
  go_upto_region 18 with (go_at_call 20; refine (CN.out).mono ?_; rintro e w2 ⟨na, nc, rfl, hown, ho⟩; have W2 := hidOf hown; have P2 := hidOf ho; clear hown ho)
  have c1 := (HD.out.out P2.out).c1
  have CR := hidOf (rbytes_any ra rc N w2 (HD.out.out P2.out).own.rt.1 (HD.out.out P2.out).own.rt.2 (by have := Hb.out; omega))
  go_wp2_with (first | (go_at_call 32; refine (CR.out).mono ?_; rintro e w3 ⟨ya, yc, rfl, hown, ho⟩; have Y3 := hidOf (OwB.rest8 hown); have P3 := hidOf ho; have N3 := hidOf (OwB.rest8 (W2.out.out ho)); clear hown ho) | (go_at_call 23; refine (sameBytes_any na ya nc yc (byP N) w3 N3.out.2 Y3.out.2).mono ?_; rintro e w4 ⟨rfl, hw⟩; subst hw))
  go_ret3
  exact ⟨_, _, rfl, owns_base (W2.out.out P3.out) Ho.out.size, (Ho.out.trans P2.out).trans P3.out⟩
set_option maxRecDepth 20000 in
set_option maxHeartbeats 2000000 in
theorem act_other (d : Nat) (x : Ac) (w : World) (p : Nat) (N : List (List UInt8)) (ra : Option Addr) (rc : Nat) (F : Nat → Prop) (h : Dk d w p N ra rc F) (hb : szF 1 N ≤ 900000000000) (h1 : ¬ x.k = 1) (h2 : ¬ x.k = 2) (h3 : ¬ x.k = 3) (h4 : ¬ x.k = 4) :
    Calls Try.prog 9 #[.pointer (some ⟨d, 0, none⟩), .agg x.cs] w fun e w' => e = .returned (.tuple #[.bool true, .slice none 0 0, .slice none 0 0]) ∧ Out w w' := by
  obtain ⟨xw, xk, xs, xp⟩ := x
  simp only at *
  obtain ⟨w1, hw1⟩ : ∃ w1, w1 = w.alloc (.cells (Ac.cs ⟨xw, xk, xs, xp⟩) 29) := ⟨_, rfl⟩
  have HB : Hid (AcB w1 w.heap.size ⟨xw, xk, xs, xp⟩) := by rw [hw1]; exact heap_alloc_new _ _
  have Ho : Hid (Out w w1) := by rw [hw1]; exact (Out.refl w).alloc _
  have HD := hidOf (h.out Ho.out)
  have e1 : (xk == 1) = false := by simpa using h1
  have e2 : (xk == 2) = false := by simpa using h2
  have e3 : (xk == 3) = false := by simpa using h3
  have e4 : (xk == 4) = false := by simpa using h4
  clear h hb h1 h2 h3 h4
  show Calls _ _ #[_, .agg #[.int .i64 xw, .int .i64 xk, .string ⟨xs.toArray⟩, .int .i64 xp]] _ _
  go_enter Try.func9, Try.ntmps9
  go_upto_region 1 with fail
  rw [show w.alloc (.cells #[.int .i64 xw, .int .i64 xk, .string ⟨xs.toArray⟩, .int .i64 xp] 29) = w1 from hw1.symm]
  clear hw1
  have k1 : w1.cell? ⟨w.heap.size, 1, none⟩ = some (.int .i64 xk) := HB.out.cell 1
  have c0 := HD.out.c0
  go_wp2
  go_ret3
  exact ⟨rfl, Ho.out⟩
/-- both answers to At -/
theorem at_both (p : Nat) (w : World) (N : List (List UInt8)) (ra : Option Addr) (rc : Nat) (F : Nat → Prop) (q : Int) (ht : Tab p w N F) (ho : OwS 0 (.slice ra N.length rc) N w) (hb : szF 1 N ≤ 900000000000) : ∃ (y : List UInt8) (er : Int),
    (∀ wx, Out w wx → Calls Try.prog 29 #[.agg #[.slice ra N.length rc], .int .i64 q] wx fun e w' => e = .returned (.tuple #[.string ⟨y.toArray⟩, .int .i64 er]) ∧ Out wx w') ∧
    (∀ wx, Out w wx → Calls Try.prog 22 #[.pointer (some ⟨p, 0, none⟩), .int .i64 q] wx fun e w' => e = .returned (.tuple #[.string ⟨y.toArray⟩, .int .i64 er]) ∧ Out wx w') := by
  by_cases hq : q = 0
  · subst hq
    refine ⟨[], 0, fun wx o => rat_zero ra rc N.length wx, fun wx o => (at_zero p wx).mono ?_⟩
    rintro e w' ⟨rfl, rfl⟩
    exact ⟨rfl, Out.refl _⟩
  · cases ha : atF 1 N q with
    | none =>
      refine ⟨[], 81, fun wx o => ?_, fun wx o => (at_none p wx N F q (ht.out o) (by omega) hq ha).mono ?_⟩
      · have := rat_any ra rc N q wx (ho.out o).rt.1 (ho.out o).rt.2 (by omega) hq
        rw [ha] at this
        exact this
      · rintro e w' ⟨rfl, m, rfl⟩
        exact ⟨rfl, (Out.refl _).drewN m⟩
    | some y =>
      refine ⟨y, 0, fun wx o => ?_, fun wx o => (at_some p wx N F q y (ht.out o) (by omega) ha).mono ?_⟩
      · have := rat_any ra rc N q wx (ho.out o).rt.1 (ho.out o).rt.2 (by omega) hq
        rw [ha] at this
        exact this
      · rintro e w' ⟨rfl, m, rfl⟩
        exact ⟨rfl, (Out.refl _).drewN m⟩
set_option maxRecDepth 20000 in
set_option maxHeartbeats 2000000 in
theorem act_at (d : Nat) (x : Ac) (w : World) (p : Nat) (N : List (List UInt8)) (ra : Option Addr) (rc : Nat) (F : Nat → Prop) (h : Dk d w p N ra rc F) (hb : szF 1 N ≤ 900000000000) (hk : x.k = 2) :
    Calls Try.prog 9 #[.pointer (some ⟨d, 0, none⟩), .agg x.cs] w fun e w' => e = .returned (.tuple #[.bool true, .slice none 0 0, .slice none 0 0]) ∧ Out w w' := by
  obtain ⟨xw, xk, xs, xp⟩ := x
  simp only at *
  subst hk
  obtain ⟨w1, hw1⟩ : ∃ w1, w1 = w.alloc (.cells (Ac.cs ⟨xw, 2, xs, xp⟩) 29) := ⟨_, rfl⟩
  have HB : Hid (AcB w1 w.heap.size ⟨xw, 2, xs, xp⟩) := by rw [hw1]; exact heap_alloc_new _ _
  have Ho : Hid (Out w w1) := by rw [hw1]; exact (Out.refl w).alloc _
  have HD := hidOf (h.out Ho.out)
  obtain ⟨y, er, hA, hB⟩ := at_both p w1 N ra rc F xp HD.out.tab HD.out.own hb
  have HA := hidOf hA
  have HB2 := hidOf hB
  clear h hb hA hB
  show Calls _ _ #[_, .agg #[.int .i64 xw, .int .i64 2, .string ⟨xs.toArray⟩, .int .i64 xp]] _ _
  go_enter Try.func9, Try.ntmps9
  go_upto_region 1 with fail
  rw [show w.alloc (.cells #[.int .i64 xw, .int .i64 2, .string ⟨xs.toArray⟩, .int .i64 xp] 29) = w1 from hw1.symm]
  clear hw1
  have k1 : w1.cell? ⟨w.heap.size, 1, none⟩ = some (.int .i64 2) := HB.out.cell 1
  have c0 := HD.out.c0
  have c1 := HD.out.c1
  have k3 : w1.cell? ⟨w.heap.size, 3, none⟩ = some (.int .i64 xp) := HB.out.cell 3
  go_upto_region 10 with fail
  go_region_with (go_at_call 29; refine (HA.out _ (by repeat (first | exact Out.refl _ | apply Out.drew))).mono ?_; rintro e w2 ⟨rfl, ho⟩; have P2 := hidOf ho; clear ho)
  all_goals
    have D2 := hidOf (HD.out.out (((Out.refl w1).drew).trans P2.out))
    have B2 := hidOf (HB.out.out (((Out.refl w1).drew).trans P2.out))
    have P12 := hidOf (((Out.refl w1).drew).trans P2.out)
    have c0' := D2.out.c0
    have k3' : w2.cell? ⟨w.heap.size, 3, none⟩ = some (.int .i64 xp) := B2.out.cell 3
    clear c0 c1 k3 k1
    go_upto_region 11 with fail
    go_region_with (go_at_call 22; refine (HB2.out _ (P12.out.trans (by repeat (first | exact Out.refl _ | apply Out.drew)))).mono ?_; rintro e w3 ⟨rfl, ho⟩; have P3 := hidOf ho; clear ho)
  all_goals
    go_wp2_with (go_at_call 26; refine (num_any _ _).mono ?_; rintro e w7 ⟨rfl, hw⟩; have hw := hw.symm; subst hw)
    go_ret3
    exact ⟨rfl, (Ho.out.trans P12.out).trans (((Out.refl w2).drew).trans P3.out)⟩
end Go.Proofs.Ytgakmbeooobhjaa
