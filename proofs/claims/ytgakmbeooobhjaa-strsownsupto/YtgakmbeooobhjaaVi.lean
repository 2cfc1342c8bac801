import Derived.Test.YtgakmbeooobhjaaVh
import Derived.Deep.DeepCutAuto
namespace Go.Proofs.Ytgakmbeooobhjaa
open Go.RowKit
open Go.Maps (Keyed)
set_option linter.unusedVariables false
set_option linter.unusedSimpArgs false
/-- both answers to an Add that adds nothing -/
theorem add_same (p : Nat) (w : World) (N : List (List UInt8)) (ra : Option Addr) (rc : Nat) (F : Nat → Prop) (x : List UInt8) (hl : x.length ≤ 1000000000000) (hx : nameOk x = false ∨ x ∈ N) (ht : Tab p w N F) (ho : OwS 0 (.slice ra N.length rc) N w) (hb : szF 1 N ≤ 900000000000) : ∃ (q : Nat) (er : Int),
    (∀ wx, Out w wx → Calls Try.prog 28 #[.agg #[.slice ra N.length rc], .string ⟨x.toArray⟩] wx fun e w' => e = .returned (.tuple #[.agg #[.slice ra N.length rc], .int .i64 q, .int .i64 er]) ∧ Out wx w') ∧
    (∀ wx, Out w wx → Calls Try.prog 19 #[.pointer (some ⟨p, 0, none⟩), .string ⟨x.toArray⟩] wx fun e w' => e = .returned (.tuple #[.int .i64 q, .int .i64 er]) ∧ Out wx w') := by
  cases hok : nameOk x
  · refine ⟨0, 81, fun wx o => radd_bad ra rc N x wx hok hl, fun wx o => (add_bad p x wx hok).mono ?_⟩
    rintro e w' ⟨rfl, rfl⟩
    exact ⟨rfl, Out.refl _⟩
  · have hm : x ∈ N := hx.resolve_left (by rw [hok]; simp)
    refine ⟨plF 1 N x, 0, fun wx o => radd_old ra rc N x wx (ho.out o).rt.1 (ho.out o).rt.2 (by omega) hok hm, fun wx o => (add_old p x wx N F (ht.out o) hok hm).mono ?_⟩
    rintro e w' ⟨rfl, rfl⟩
    exact ⟨rfl, Out.refl _⟩
/-- the reference's table is laid into the desk -/
theorem Dk.set {d : Nat} {X : World} {p : Nat} {N : List (List UInt8)} {ra : Option Addr} {rc : Nat} {F : Nat → Prop} {v0 : Value} (ha : X.heap[d]? = some (.cells #[.pointer (some ⟨p, 0, none⟩), v0] 68 (0, 0))) (ht : Tab p X N F) (ho : OwS 0 (.slice ra N.length rc) N X) (hd : ¬ F d) (hr : ∀ k, (Value.slice ra N.length rc).ownBlock = some k → ¬ F k) (hl : ∀ k, F k → k < X.heap.size) :
    Dk d (X.setCell ⟨d, 1, none⟩ (.slice ra N.length rc)) p N ra rc F ∧ Chg (fun k => k = d) X (X.setCell ⟨d, 1, none⟩ (.slice ra N.length rc)) := by
  have c2 : Chg (fun k => k = d) X (X.setCell ⟨d, 1, none⟩ (.slice ra N.length rc)) := Chg.setCell (S := fun k => k = d) (Chg.refl _ X) (p := ⟨d, 1, none⟩) rfl _
  refine ⟨⟨?_, ht.chg c2 (fun k hk e => hd (by rw [← e]; exact hk)), owns_chg ho (fun k hk e => own_type ho ha (by decide) (by rw [← e]; exact hk)) c2, hd, hr, fun k hk => Nat.lt_of_lt_of_le (hl k hk) c2.size⟩, c2⟩
  simp [World.setCell, Array.getElem?_modify, ha]
theorem set_tab2 {w : World} {g : Nat} {v v0 : Value} (h : w.heap[g]? = some (.cells #[v0] 66 (0, 0))) : BoxT (w.setCell ⟨g, 0, none⟩ v) g v := by
  show (w.setCell ⟨g, 0, none⟩ v).heap[g]? = _
  simp [World.setCell, Array.getElem?_modify, h]
set_option maxRecDepth 20000 in
set_option maxHeartbeats 2000000 in
theorem act_same (d : Nat) (x : Ac) (w : World) (p : Nat) (N : List (List UInt8)) (ra : Option Addr) (rc : Nat) (F : Nat → Prop) (h : Dk d w p N ra rc F) (hb : szF 1 N ≤ 900000000000) (hl : x.s.length ≤ 1000000000000) (hk : x.k = 1) (hx : nameOk x.s = false ∨ x.s ∈ N) :
    Calls Try.prog 9 #[.pointer (some ⟨d, 0, none⟩), .agg x.cs] w fun e w' => e = .returned (.tuple #[.bool true, .slice none 0 0, .slice none 0 0]) ∧ Dk d w' p N ra rc F ∧ Chg (fun k => k = d) w w' := by
  obtain ⟨xw, xk, xs, xp⟩ := x
  simp only at *
  subst hk
  obtain ⟨w1, hw1⟩ : ∃ w1, w1 = w.alloc (.cells (Ac.cs ⟨xw, 1, xs, xp⟩) 29) := ⟨_, rfl⟩
  have HB : Hid (AcB w1 w.heap.size ⟨xw, 1, xs, xp⟩) := by rw [hw1]; exact heap_alloc_new _ _
  have Ho : Hid (Out w w1) := by rw [hw1]; exact (Out.refl w).alloc _
  have HD := hidOf (h.out Ho.out)
  obtain ⟨q, er, hA, hB⟩ := add_same p w1 N ra rc F xs hl hx HD.out.tab HD.out.own hb
  have HA0 := hidOf hA
  have HA : Hid (∀ wx, Out w1 wx → w1.heap.size < wx.heap.size → Calls Try.prog 28 #[.agg #[.slice ra N.length rc], .string ⟨xs.toArray⟩] wx fun e w' => e = .returned (.tuple #[.agg #[.slice ra N.length rc], .int .i64 q, .int .i64 er]) ∧ Out wx w' ∧ w'.cell? ⟨w1.heap.size, 0, none⟩ = wx.cell? ⟨w1.heap.size, 0, none⟩ ∧ w'.frozen? ⟨w1.heap.size, 0, none⟩ = wx.frozen? ⟨w1.heap.size, 0, none⟩) := hidOf (fun wx o hl => (hA wx o).mono (fun e w' h => ⟨h.1, h.2, World.cell?_of_block (h.2.block _ hl), World.frozen?_of_block (h.2.block _ hl)⟩))
  have HB2 := hidOf hB
  clear h hb hA hB hx
  show Calls _ _ #[_, .agg #[.int .i64 xw, .int .i64 1, .string ⟨xs.toArray⟩, .int .i64 xp]] _ _
  go_enter Try.func9, Try.ntmps9
  go_upto_region 1 with fail
  rw [show w.alloc (.cells #[.int .i64 xw, .int .i64 1, .string ⟨xs.toArray⟩, .int .i64 xp] 29) = w1 from hw1.symm]
  clear hw1
  have k1 : w1.cell? ⟨w.heap.size, 1, none⟩ = some (.int .i64 1) := HB.out.cell 1
  have c0 := HD.out.c0
  have c1 := HD.out.c1
  have k2 : w1.cell? ⟨w.heap.size, 2, none⟩ = some (.string ⟨xs.toArray⟩) := HB.out.cell 2
  go_upto_region 5 with fail
  have c1' : ∀ O, (w1.alloc O).cell? ⟨d, 1, none⟩ = some (.slice ra N.length rc) := fun O => cell_later ((Out.refl w1).alloc O) c1
  have k2' : ∀ O, (w1.alloc O).cell? ⟨w.heap.size, 2, none⟩ = some (.string ⟨xs.toArray⟩) := fun O => cell_later ((Out.refl w1).alloc O) k2
  go_cut [7, 8, 9] (fun s7 s8 s9 wx => ∃ b, s7 = .pointer (some ⟨b, 0, none⟩) ∧ s8 = .int .i64 q ∧ s9 = .int .i64 er ∧ Hid (BoxT wx b (.slice ra N.length rc)) ∧ Hid (Out w1 wx))
  case first =>
    go_region_with (first | (go_at_call 28; refine (HA.out _ ?ho ?hl).mono ?_; (case hl => (show w1.heap.size < (w1.alloc _).heap.size; rw [size_alloc]; omega)); (case ho => (repeat (first | exact Out.refl _ | apply Out.drew | apply Out.alloc))); rintro e w2 ⟨rfl, ho, cb, fb⟩; have P2 := hidOf ho; clear ho) | (go_at_call 28; refine (HA0.out _ ?ho).mono ?_; (case ho => (repeat (first | exact Out.refl _ | apply Out.drew | apply Out.alloc))); rintro e w2 ⟨rfl, ho⟩; have P2 := hidOf ho; clear ho))
    all_goals
      go_wp2
      go_meet
    all_goals first
      | exact ⟨_, rfl, rfl, rfl, hidOf (heap_alloc_new _ _), hidOf ((((Out.refl w1).drew).trans P2.out).alloc _)⟩
      | exact ⟨_, rfl, rfl, rfl, hidOf (set_tab2 (by rw [P2.out.block _ (by show w1.heap.size < (w1.alloc _).heap.size; rw [size_alloc]; omega)]; exact heap_alloc_new w1 _)), hidOf (Out.setCell (((Out.refl w1).alloc _).drew.trans P2.out) (a := ⟨w1.heap.size, 0, none⟩) (Nat.le_refl _) _)⟩
  case rest =>
    obtain ⟨b, rfl, rfl, rfl, HX, HO⟩ := hcut
    have D2 := hidOf (HD.out.out HO.out)
    have e0 := D2.out.c0
    have e2 : wc.cell? ⟨w.heap.size, 2, none⟩ = some (.string ⟨xs.toArray⟩) := (HB.out.out HO.out).cell 2
    clear c0 c1 k1 k2 c1' k2' HA HA0
    go_upto_region 6 with fail
    go_region_with (go_at_call 19; refine (HB2.out _ ?ho).mono ?_; (case ho => (refine HO.out.trans ?_; repeat (first | exact Out.refl _ | apply Out.drew))); rintro e w3 ⟨rfl, ho⟩; have P3 := hidOf (((Out.refl wc).drew).trans ho); clear ho)
    all_goals
      have D3 := hidOf (D2.out.out P3.out)
      have r1 := D3.out.c1
      have r2 := D3.out.f1
      have r3 := (HX.out.out P3.out).cell
      go_wp2_with (go_at_call 26; refine (num_any _ _).mono ?_; rintro e w7 ⟨rfl, hw⟩; have hw := hw.symm; subst hw)
      go_ret3
      obtain ⟨t1, t2⟩ := Dk.set D3.out.at_ D3.out.tab D3.out.own D3.out.nd D3.out.nr D3.out.lt
      exact ⟨rfl, t1, (Chg.of_out ((Ho.out.trans HO.out).trans P3.out)).trans t2 (fun k hk _ => hk)⟩
/-- behind an act -/
def AEnd (d : Nat) (w : World) (p : Nat) (N' : List (List UInt8)) (ra : Option Addr) (F : Nat → Prop) (e : Ending) (w' : World) : Prop :=
  (∃ a1 n1 c1 a2 n2 c2, e = .returned (.tuple #[.bool true, .slice a1 n1 c1, .slice a2 n2 c2])) ∧ ∃ ra' rc' F', Dk d w' p N' ra' rc' F' ∧ Chg (dkF d ra F) w w' ∧ ∀ k, dkF d ra' F' k → dkF d ra F k ∨ w.heap.size ≤ k
set_option maxRecDepth 20000 in
set_option maxHeartbeats 2000000 in
theorem act_new (d : Nat) (x : Ac) (w : World) (p : Nat) (N : List (List UInt8)) (ra : Option Addr) (rc : Nat) (F : Nat → Prop) (h : Dk d w p N ra rc F) (hb : szF 1 N ≤ 900000000000) (hk : x.k = 1) (hok : nameOk x.s = true) (hx : ¬ x.s ∈ N) :
    Calls Try.prog 9 #[.pointer (some ⟨d, 0, none⟩), .agg x.cs] w fun e w' => AEnd d w p (N ++ [x.s]) ra F e w' := by
  obtain ⟨xw, xk, xs, xp⟩ := x
  simp only at *
  subst hk
  obtain ⟨w1, hw1⟩ : ∃ w1, w1 = w.alloc (.cells (Ac.cs ⟨xw, 1, xs, xp⟩) 29) := ⟨_, rfl⟩
  have HB : Hid (AcB w1 w.heap.size ⟨xw, 1, xs, xp⟩) := by rw [hw1]; exact heap_alloc_new _ _
  have Ho : Hid (Out w w1) := by rw [hw1]; exact (Out.refl w).alloc _
  have HD := hidOf (h.out Ho.out)
  have hA := fun wx (o : Out w1 wx) => radd_new ra rc N xs wx (HD.out.out o).own.rt.1 (HD.out.out o).own.rt.2 hb hok hx
  have HA0 : Hid (∀ wx, Out w1 wx → Calls Try.prog 28 #[.agg #[.slice ra N.length rc], .string ⟨xs.toArray⟩] wx fun e w' => ∃ a' c', e = .returned (.tuple #[.agg #[.slice a' (N.length + 1) c'], .int .i64 (szF 1 N : Nat), .int .i64 0]) ∧ OwS w1.heap.size (.slice a' (N ++ [xs]).length c') (N ++ [xs]) w' ∧ Out wx w') := hidOf (fun wx o => (hA wx o).mono (fun e w' h => by obtain ⟨a', c', h1, h2, h3⟩ := h; exact ⟨a', c', h1, owns_base h2 o.size, h3⟩))
  have HA : Hid (∀ wx, Out w1 wx → w1.heap.size < wx.heap.size → Calls Try.prog 28 #[.agg #[.slice ra N.length rc], .string ⟨xs.toArray⟩] wx fun e w' => ∃ a' c', e = .returned (.tuple #[.agg #[.slice a' (N.length + 1) c'], .int .i64 (szF 1 N : Nat), .int .i64 0]) ∧ OwS (w1.heap.size + 1) (.slice a' (N ++ [xs]).length c') (N ++ [xs]) w' ∧ Out wx w' ∧ w'.cell? ⟨w1.heap.size, 0, none⟩ = wx.cell? ⟨w1.heap.size, 0, none⟩ ∧ w'.frozen? ⟨w1.heap.size, 0, none⟩ = wx.frozen? ⟨w1.heap.size, 0, none⟩) := hidOf (fun wx o hl => (hA wx o).mono (fun e w' h => by obtain ⟨a', c', h1, h2, h3⟩ := h; exact ⟨a', c', h1, owns_base h2 hl, h3, World.cell?_of_block (h3.block _ hl), World.frozen?_of_block (h3.block _ hl)⟩))
  have HB2 : Hid (∀ wx, Out w1 wx → Calls Try.prog 19 #[.pointer (some ⟨p, 0, none⟩), .string ⟨xs.toArray⟩] wx fun e w' => e = .returned (.tuple #[.int .i64 (szF 1 N : Nat), .int .i64 0]) ∧ Tab p w' (N ++ [xs]) (FN F wx w') ∧ Chg F wx w') := hidOf (fun wx o => add_new p xs wx N F (HD.out.tab.out o) hok hx (by omega))
  have Hh := hidOf h
  clear h hb hA hx hok
  generalize szF 1 N = q at *
  show Calls _ _ #[_, .agg #[.int .i64 xw, .int .i64 1, .string ⟨xs.toArray⟩, .int .i64 xp]] _ _
  go_enter Try.func9, Try.ntmps9
  go_upto_region 1 with fail
  rw [show w.alloc (.cells #[.int .i64 xw, .int .i64 1, .string ⟨xs.toArray⟩, .int .i64 xp] 29) = w1 from hw1.symm]
  clear hw1
  have k1 : w1.cell? ⟨w.heap.size, 1, none⟩ = some (.int .i64 1) := HB.out.cell 1
  have c0 := HD.out.c0
  have c1 := HD.out.c1
  have k2 : w1.cell? ⟨w.heap.size, 2, none⟩ = some (.string ⟨xs.toArray⟩) := HB.out.cell 2
  go_upto_region 5 with fail
  have c1' : ∀ O, (w1.alloc O).cell? ⟨d, 1, none⟩ = some (.slice ra N.length rc) := fun O => cell_later ((Out.refl w1).alloc O) c1
  have k2' : ∀ O, (w1.alloc O).cell? ⟨w.heap.size, 2, none⟩ = some (.string ⟨xs.toArray⟩) := fun O => cell_later ((Out.refl w1).alloc O) k2
  go_cut [7, 8, 9] (fun s7 s8 s9 wx => ∃ b a' c', s7 = .pointer (some ⟨b, 0, none⟩) ∧ s8 = .int .i64 q ∧ s9 = .int .i64 0 ∧ Hid (BoxT wx b (.slice a' (N.length + 1) c')) ∧ Hid (Out w1 wx) ∧ Hid (w1.heap.size ≤ b) ∧ Hid (OwS w1.heap.size (.slice a' (N ++ [xs]).length c') (N ++ [xs]) wx))
  case first =>
    go_region_with (first | (go_at_call 28; refine (HA.out _ ?ho ?hl).mono ?_; (case hl => (show w1.heap.size < (w1.alloc _).heap.size; rw [size_alloc]; omega)); (case ho => (repeat (first | exact Out.refl _ | apply Out.drew | apply Out.alloc))); rintro e w2 ⟨a', c', rfl, hown, ho, cb, fb⟩; have W2 := hidOf hown; have P2 := hidOf ho; clear ho hown) | (go_at_call 28; refine (HA0.out _ ?ho).mono ?_; (case ho => (repeat (first | exact Out.refl _ | apply Out.drew | apply Out.alloc))); rintro e w2 ⟨a', c', rfl, hown, ho⟩; have W2 := hidOf hown; have P2 := hidOf ho; clear ho hown))
    all_goals
      go_wp2
      go_meet
    all_goals first
      | exact ⟨_, a', c', rfl, rfl, rfl, hidOf (heap_alloc_new _ _), hidOf ((((Out.refl w1).drew).trans P2.out).alloc _), hidOf (((Out.refl w1).drew).trans P2.out).size, hidOf (W2.out.out ((Out.refl w2).alloc _))⟩
      | exact ⟨_, a', c', rfl, rfl, rfl, hidOf (set_tab2 (by rw [P2.out.block _ (by show w1.heap.size < (w1.alloc _).heap.size; rw [size_alloc]; omega)]; exact heap_alloc_new w1 _)), hidOf (Out.setCell (((Out.refl w1).alloc _).drew.trans P2.out) (a := ⟨w1.heap.size, 0, none⟩) (Nat.le_refl _) _), hidOf (Nat.le_refl _), hidOf (owns_base (owns_chg W2.out (fun k hk e => by have := (W2.out.lt k hk).1; omega) (chg_set w2 w1.heap.size _)) (Nat.le_succ _))⟩
  case rest =>
    obtain ⟨b, a', c', rfl, rfl, rfl, HX, HO, Hbge, HW⟩ := hcut
    have D2 := hidOf (HD.out.out HO.out)
    have e0 := D2.out.c0
    have e2 : wc.cell? ⟨w.heap.size, 2, none⟩ = some (.string ⟨xs.toArray⟩) := (HB.out.out HO.out).cell 2
    clear c0 c1 k1 k2 c1' k2' HA HA0
    go_upto_region 6 with fail
    go_region_with (go_at_call 19; refine (HB2.out _ ?ho).mono ?_; (case ho => (refine HO.out.trans ?_; repeat (first | exact Out.refl _ | apply Out.drew))); rintro e w3 ⟨rfl, ht, hc⟩; have T3' := hidOf ht; have C3 := hidOf hc; clear ht hc)
    all_goals
      have hFlt : ∀ k, F k → k < w.heap.size := Hh.out.lt
      have hw1 := Ho.out.size
      have hwc := HO.out.size
      have C3' : Hid (Chg F wc w3) := hidOf (((Chg.refl F wc).drew).trans C3.out (fun k hk _ => hk))
      have hd3 : Hid (w3.heap[d]? = some (.cells #[.pointer (some ⟨p, 0, none⟩), .slice ra N.length rc] 68 (0, 0))) := hidOf ((C3'.out.block d (D2.out.dlt) Hh.out.nd).trans D2.out.at_)
      have r1 : w3.cell? ⟨d, 1, none⟩ = some (.slice ra N.length rc) := by rw [World.cell?, hd3.out]; rfl
      have r2 : w3.frozen? ⟨d, 1, none⟩ = false := by rw [World.frozen?, hd3.out]; rfl
      have r3 : w3.cell? ⟨b, 0, none⟩ = some (.slice a' (N.length + 1) c') := C3'.out.cell HX.out.cell (fun hf => by have := hFlt b hf; have := Hbge.out; omega)
      clear e0 e2
      go_wp2_with (go_at_call 26; refine (num_any _ _).mono ?_; rintro e w7 ⟨rfl, hw⟩; have hw := hw.symm; subst hw)
      go_ret3
      have hrow : ∀ k, (Value.slice a' (N ++ [xs]).length c').ownBlock = some k → ¬ FN F wc.drew w3 k := fun k hk hf => by
        have h1 := HW.out.lt k hk
        rcases hf with hf | hf
        · have := hFlt k hf; omega
        · have : wc.heap.size ≤ k := hf.1
          omega
      have hown3 : OwS 0 (.slice a' (N ++ [xs]).length c') (N ++ [xs]) w3 := owns_base (owns_chg HW.out (fun k hk hf => by have := (HW.out.lt k hk).1; have := hFlt k hf; omega) C3'.out) (Nat.zero_le _)
      obtain ⟨t1, t2⟩ := Dk.set (F := FN F wc.drew w3) hd3.out T3'.out hown3 (fun hf => by
        rcases hf with hf | hf
        · exact Hh.out.nd hf
        · have h2 := Hh.out.dlt
          have : wc.heap.size ≤ d := hf.1
          omega) hrow (fun k hk => by
        rcases hk with hk | hk
        · have := hFlt k hk; have := C3'.out.size; omega
        · exact hk.2)
      have eN : (N ++ [xs]).length = N.length + 1 := by simp
      rw [eN] at t1 t2
      refine ⟨⟨_, _, _, _, _, _, rfl⟩, a', c', FN F wc.drew w3, t1, ?_, fun k hk => ?_⟩
      · refine ((Chg.of_out (Ho.out.trans HO.out)).trans C3'.out (fun k hk _ => .inr (.inr hk))).trans t2 (fun k hk _ => .inl hk)
      · rcases hk with hk | hk | hk | hk
        · exact .inl (.inl hk)
        · have := (HW.out.lt k (by rw [ob_len (n' := 0) (c' := 0)]; exact hk)).1
          exact .inr (by omega)
        · exact .inl (.inr (.inr hk))
        · have : wc.heap.size ≤ k := hk.1
          exact .inr (by omega)
end Go.Proofs.Ytgakmbeooobhjaa
