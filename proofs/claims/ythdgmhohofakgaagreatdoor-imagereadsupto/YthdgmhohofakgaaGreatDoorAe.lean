import Derived.Test.YthdgmhohofakgaaGreatDoorAd
import Derived.Laws.MakeOwn
import Derived.Lib.AppendStr
namespace Go.Proofs.YthdgmhohofakgaaGreatDoor
open Go.RowKit
open Go.Maps (Keyed)
set_option linter.unusedVariables false
set_option linter.unusedSimpArgs false
theorem getD_of {l : List Int} {j : Nat} {x : Int} (h : l[j]? = some x) : l.getD j 0 = x := by simp [List.getD, h]
theorem search_any {p : Nat} {w : World} {A N C : List (List UInt8)} {nv sv mv : Value} (t : T3 p w A N C nv sv mv) (hn : N.length ≤ 1000000000000) (q : Int) : ∃ a c, sv = .slice a N.length c ∧ Calls Tryz.prog 100 #[.slice a N.length c, .int .i64 q] w fun e w' => e = .returned (.tuple #[.int .i64 ((stF 1 N).countP (· < q) : Nat), .bool (atF 1 N q).isSome]) ∧ ∃ m, w' = w.drewN m := by
  rcases t.st.2 with ⟨hv, h0⟩ | ⟨g, cap, cur, hv, _, _, _⟩
  · obtain rfl := List.length_eq_zero_iff.1 h0
    refine ⟨none, 0, hv, ?_⟩
    refine (Tryz.slices_BinarySearch_int_empty none 0 q w).mono ?_
    rintro e w' ⟨rfl, rfl⟩
    exact ⟨by simp [stF, atF], 0, rfl⟩
  · refine ⟨some ⟨g, 0, none⟩, cap, hv, ?_⟩
    have hc := t.st.cells (g := g) (by rw [hv]; rfl)
    have h1 := Tryz.slices_BinarySearch_int g 0 N.length cap (stF 1 N) q w (by rw [stF_len]; exact Nat.le_refl _) (by omega) (fun j hj => by
      have hx : (stF 1 N)[j]? = some (stF 1 N)[j] := List.getElem?_eq_getElem hj
      have := hc j (.int .i64 (stF 1 N)[j]) (by simp [hx])
      rw [WideShapes.add_plain] at this
      rw [this, getD_of hx]) (by rw [← stF_len N 1, List.take_length]; exact stF_rise N 1)
    rw [← stF_len N 1, List.take_length, (at_search N 1 q).1] at h1
    rw [stF_len] at h1
    exact h1
theorem at_zero (p : Nat) (w : World) : Calls Tryz.prog 94 #[.pointer (some ⟨p, 0, none⟩), .int .i64 0] w fun e w' => e = .returned (.tuple #[.string ⟨#[]⟩, .int .i64 0]) ∧ w' = w := by
  go_enter Tryz.func94, Tryz.ntmps94
  go_wp2
  go_ret2
  exact ⟨rfl, rfl⟩
theorem at_none (p : Nat) (w : World) (N : List (List UInt8)) (F : Nat → Prop) (q : Int) (h : Tab p w N F) (hb : szF 1 N ≤ 1000000000000) (hq : ¬ q = 0) (ha : atF 1 N q = none) : Calls Tryz.prog 94 #[.pointer (some ⟨p, 0, none⟩), .int .i64 q] w fun e w' => e = .returned (.tuple #[.string ⟨#[]⟩, .int .i64 81]) ∧ ∃ m, w' = w.drewN m := by
  obtain ⟨nv, sv, mv, t, hf⟩ := h
  have hn := szF_ge N 1
  obtain ⟨a, c, rfl, hS⟩ := search_any t (by omega) q
  have c1 : w.cell? ⟨p, 1, none⟩ = some (.slice a N.length c) := t.cell 1
  rw [ha] at hS
  have HS := hidOf hS
  have hq' : (q == 0) = false := by simpa using hq
  clear t hf hS ha hb hn hq
  go_enter Tryz.func94, Tryz.ntmps94
  go_wp2_with (go_at_call 100; refine (HS.out).mono ?_; rintro e w1 ⟨rfl, m, rfl⟩)
  go_ret2
  exact ⟨rfl, _, rfl⟩
theorem at_some (p : Nat) (w : World) (N : List (List UInt8)) (F : Nat → Prop) (q : Int) (x : List UInt8) (h : Tab p w N F) (hb : szF 1 N ≤ 1000000000000) (ha : atF 1 N q = some x) : Calls Tryz.prog 94 #[.pointer (some ⟨p, 0, none⟩), .int .i64 q] w fun e w' => e = .returned (.tuple #[.string ⟨x.toArray⟩, .int .i64 0]) ∧ ∃ m, w' = w.drewN m := by
  obtain ⟨nv, sv, mv, t, hf⟩ := h
  have hn := szF_ge N 1
  have hat := at_search N 1 q
  obtain ⟨a, c, rfl, hS⟩ := search_any t (by omega) q
  have c1 : w.cell? ⟨p, 1, none⟩ = some (.slice a N.length c) := t.cell 1
  have hx := hat.2 x ha
  rw [ha] at hS
  have hq' : (q == 0) = false := by
    have h2 : (stF 1 N).contains q = true := by rw [hat.1, ha]; rfl
    have := stF_ge N 1 q (by simpa using h2)
    simp; omega
  generalize (stF 1 N).countP (· < q) = k at *
  have hkl : k < N.length := (List.getElem?_eq_some_iff.1 hx).1
  obtain ⟨g, cap, rfl, hc, d⟩ := own_cell t.nm (k := k) (u := strV x) (by simp [hx])
  have c0 : w.cell? ⟨p, 0, none⟩ = some (.slice (some ⟨g, 0, none⟩) N.length cap) := t.cell 0
  simp only [strV] at d
  have HS := hidOf hS
  have hk1 : (k : Int) < N.length := by omega
  have dd : ∀ m, (w.drewN m).cell? ⟨g, k, none⟩ = some (.string ⟨x.toArray⟩) := fun m => d
  have cc : ∀ m, (w.drewN m).cell? ⟨p, 0, none⟩ = some (.slice (some ⟨g, 0, none⟩) N.length cap) := fun m => c0
  clear t hf hS ha hb hn hx hat
  go_enter Tryz.func94, Tryz.ntmps94
  go_wp2_with (go_at_call 100; refine (HS.out).mono ?_; rintro e w1 ⟨rfl, m, rfl⟩)
  go_ret2
  exact ⟨rfl, _, rfl⟩
/-- lists of texts of the call's own -/
def OwS (B : Nat) (v : Value) (N : List (List UInt8)) (w : World) : Prop := w.ownsRow B 9 1 v N.length (N.map strV)
def OwB (B : Nat) (v : Value) (O : List UInt8) (w : World) : Prop := w.ownsRow B 5 1 v O.length (Lib.byteCells O)
theorem map_str (N : List (List UInt8)) : N.map strV = (N.map (fun x => (⟨x.toArray⟩ : ByteArray))).map Value.string := by rw [List.map_map]; rfl
theorem infoB : (Tryz.prog.info? 5).map (fun i => (i.zero, i.size, i.bytes)) = some (some (.int .u8 0), 1, 1) := by kernel_rfl
theorem run_make_b1 (n : Nat) (h1 : 1 ≤ n) (hn : n ≤ 1000000000000) (w : World) : ∃ cur : Array Value, (Instr.makeSlice 22 (.int .i64 1) (.int .i64 (n : Int))).run Tryz.prog w = .ok (.slice (some ⟨w.heap.size, 0, none⟩) 1 n) (w.alloc (.cells cur 5)) ∧ OwB w.heap.size (.slice (some ⟨w.heap.size, 0, none⟩) 1 n) [0] (w.alloc (.cells cur 5)) := by
  obtain ⟨i0, hi, hz0, hz1, hz2⟩ := info_parts infoB
  have h := run_make (P := Tryz.prog) w 22 5 i0 _ Tryz.underlying22 hi hz0 .i64 .i64 1 (n : Int) (by omega) (by omega) (by rw [hz2]; omega) (by omega)
  rw [hz1, Nat.mul_one] at h
  refine ⟨_, h, rfl, .inr ⟨w.heap.size, n, _, rfl, Nat.le_refl _, heap_alloc_new w _, h1, by unfold maxLen; omega, by simp [madeCells], ?_⟩⟩
  simp only [madeCells, Int.toNat_natCast]
  obtain ⟨m, rfl⟩ : ∃ m, n = m + 1 := ⟨n - 1, by omega⟩
  simp [Lib.byteCells, Value.cells, List.range_succ_eq_map, List.take]
end Go.Proofs.YthdgmhohofakgaaGreatDoor
