import Derived.Test.YtcalbhcgimipeaaElk
import Derived.Laws.AppendOwnNone
namespace Go.Proofs.Ytcalbhcgimipeaa
open Go.RowKit
set_option linter.unusedVariables false
set_option linter.unusedSimpArgs false
def shN : List UInt8 := [46, 115, 104, 115, 116, 114, 116, 97, 98]
def nmsS (ss : List Sec) : List (List UInt8) := ss.map Sec.nm ++ [shN]
def tabD (ss : List Sec) : List UInt8 := byP (namesF (nmsS ss))
def tabS (ss : List Sec) : Sec := ⟨shN, 3, 0, 0, 0, 1, 0, tabD ss⟩
def allS (ss : List Sec) : List Sec := ss ++ [tabS ss]
def plsS (ss : List Sec) : List Int := (nmsS ss).map fun x => (plF 1 (namesF (nmsS ss)) x : Int)
def bodF (b : List UInt8) (L : List Sec) : List UInt8 := L.foldl (fun b s => padB (b ++ s.d)) b
def tblF (R : List Rw) : List UInt8 := R.flatMap fun r => layB r.fds
def writeB (ss : List Sec) : List UInt8 := bodF (layB (headF (jw2 (endF 64 (allS ss))) (jw2 (ss.length + 2)) (jw2 (ss.length + 1)))) (allS ss) ++ tblF (zRw :: rowsF 64 (allS ss) (plsS ss))
def writeOk (ss : List Sec) : Bool := decide (ss.length ≤ 16) && !ss.any badP && ss.all fun s => nameOk s.nm
/-- a table's section, its data still to come -/
def t0 : SV := ⟨⟨shN, 3, 0, 0, 0, 1, 0, []⟩, none, 0⟩
theorem OwV.at {B : Nat} {a : Option Addr} {n c : Nat} {L : List SV} {w : World} (h : OwV B (.slice a n c) L w) : ScAt w.heap.size w a L ∧ L.length ≤ c ∧ n = L.length := by
  rcases h.2 with ⟨hv, h0⟩ | ⟨g, cap, cur, hv, hb, hg, hc, _⟩
  · cases hv
    exact ⟨.inl (List.length_eq_zero_iff.1 h0), by omega, h0.symm⟩
  · cases hv
    refine ⟨.inr ⟨g, 0, (Array.getElem?_eq_some_iff.1 hg).1, rfl, fun k u hu => ?_⟩, hc, rfl⟩
    have := World.ownsRow.cells h (g := g) rfl k u hu
    rwa [WideShapes.add_plain] at this
theorem OwV.setLast {B : Nat} {g c : Nat} {L : List SV} {x y : SV} {w : World} {n : Nat} (h : OwV B (.slice (some ⟨g, 0, none⟩) n c) (L ++ [x]) w) (hy : y.cs = x.cs.set 7 (.slice y.da y.s.d.length y.dc)) :
    OwV B (.slice (some ⟨g, 0, none⟩) n c) (L ++ [y]) (w.setCell ⟨g, L.length * 8 + 7, none⟩ (.slice y.da y.s.d.length y.dc)) ∧ (∃ u, w.cell? ⟨g, L.length * 8 + 7, none⟩ = some u) ∧ w.frozen? ⟨g, L.length * 8 + 7, none⟩ = false := by
  rcases h.2 with ⟨hv, h0⟩ | ⟨g', cap, cur, hv, hb, hg, hc, hm, hs, ht⟩
  · simp at h0
  · cases hv
    have hl : (L ++ [x]).length = L.length + 1 := by simp
    have hl' : (L ++ [y]).length = L.length + 1 := by simp
    have hk : L.length * 8 + 7 < cur.size := by rw [hs]; omega
    refine ⟨⟨by rw [svV_len], .inr ⟨g, c, cur.setIfInBounds (L.length * 8 + 7) (.slice y.da y.s.d.length y.dc), ?_, hb, ?_, by omega, hm, by simpa using hs, ?_⟩⟩, ?_, ?_⟩
    · simp
    · simp [World.setCell, Array.getElem?_modify, hg]
    · rw [hl']
      rw [hl] at ht
      rw [Array.toList_setIfInBounds, List.take_set, ht, svV_app, svV_app]
      have e1 : svV [x] = x.cs := by simp [svV]
      have e2 : svV [y] = y.cs := by simp [svV]
      rw [e1, e2, hy, List.set_append_right _ _ (by rw [svV_len]; omega)]
      congr 2
      rw [svV_len]; omega
    · refine ⟨cur[L.length * 8 + 7], ?_⟩
      simp [World.cell?, hg, hk]
    · simp [World.frozen?, hg]
theorem run_make_b0 (n : Nat) (hn : n ≤ 10000000000000) (w : World) : ∃ cur : Array Value, (Instr.makeSlice 36 (.int .i64 0) (.int .i64 (n : Int))).run Try.prog w = .ok (.slice (some ⟨w.heap.size, 0, none⟩) 0 n) (w.alloc (.cells cur 5)) ∧ OwB w.heap.size (.slice (some ⟨w.heap.size, 0, none⟩) 0 n) [] (w.alloc (.cells cur 5)) := by
  obtain ⟨i0, hi, hz0, hz1, hz2⟩ := info_parts infoB
  have h := run_make (P := Try.prog) w 36 5 i0 _ Try.underlying36 hi hz0 .i64 .i64 0 (n : Int) (by omega) (by omega) (by rw [hz2]; omega) (by omega)
  rw [hz1, Nat.mul_one] at h
  refine ⟨_, h, rfl, .inr ⟨w.heap.size, n, _, rfl, Nat.le_refl _, heap_alloc_new w _, by simp, by unfold maxLen; omega, by simp [madeCells], ?_⟩⟩
  simp [Lib.byteCells]
theorem write_many (a : Option Addr) (n c : Nat) (w : World) (hn : 16 < n) (hb : n ≤ 1000000000000) : Calls Try.prog 12 #[.slice a n c] w fun e w' => e = .returned (.tuple #[.slice none 0 0, .int .i64 92]) ∧ w' = w := by
  have hnI : (16 : Int) < n := by omega
  go_enter Try.func12, Try.ntmps12
  go_wp2
  go_ret2
  exact ⟨rfl, rfl⟩
set_option maxRecDepth 8000 in
set_option maxHeartbeats 4000000 in
theorem write_bad (B : Nat) (a : Option Addr) (c : Nat) (L : List SV) (w : World) (h : ScAt B w a L) (hB : B ≤ w.heap.size) (hc : L.length ≤ c) (hl : L.length ≤ 16) (hb : L.any (fun x => badP x.s) = true) : Calls Try.prog 12 #[.slice a L.length c] w fun e w' => e = .returned (.tuple #[.slice none 0 0, .int .i64 92]) ∧ Out w w' := by
  have HC := hidOf (contains_any B a c L w h hB hc (by omega))
  rw [hb] at HC
  have hlI : ¬ (16 : Int) < L.length := by omega
  clear h
  go_enter Try.func12, Try.ntmps12
  go_wp2_with (go_at_call 31; refine (HC.out).mono ?_; rintro e w1 ⟨rfl, hO1⟩; have HO1 := hidOf hO1; clear hO1)
  go_ret2
  exact ⟨rfl, HO1.out⟩
end Go.Proofs.Ytcalbhcgimipeaa
