import Derived.Test.YtgakmbeooobhjaaAk
namespace Go.Proofs.Ytgakmbeooobhjaa
open Go.RowKit
open Go.Maps (Keyed)
set_option linter.unusedVariables false
set_option linter.unusedSimpArgs false
/-- texts at an address -/
def StrAt (B : Nat) (w : World) (a : Option Addr) (N : List (List UInt8)) : Prop := N = [] ∨ ∃ b off, b < B ∧ a = some ⟨b, off, none⟩ ∧ ∀ k x, N[k]? = some x → w.cell? ⟨b, off + k, none⟩ = some (.string ⟨x.toArray⟩)
theorem StrAt.below {B : Nat} {w w' : World} {a : Option Addr} {N : List (List UInt8)} (h : StrAt B w a N) (b : Below B w w') : StrAt B w' a N := by
  rcases h with h | ⟨g, o, hg, ha, hc⟩
  · exact .inl h
  · exact .inr ⟨g, o, hg, ha, fun k x hx => (Below.cell b hg).trans (hc k x hx)⟩
theorem StrAt.get {B : Nat} {w : World} {a : Option Addr} {N : List (List UInt8)} (h : StrAt B w a N) {k : Nat} {x : List UInt8} (hx : N[k]? = some x) : ∃ b off, a = some ⟨b, off, none⟩ ∧ b < B ∧ w.cell? ⟨b, off + k, none⟩ = some (.string ⟨x.toArray⟩) := by
  rcases h with rfl | ⟨g, o, hg, ha, hc⟩
  · simp at hx
  · exact ⟨g, o, ha, hg, hc k x hx⟩
def suP : List (List UInt8) → Nat
  | [] => 0
  | x :: r => x.length + 2 + suP r
theorem suP_snoc (N : List (List UInt8)) (x : List UInt8) : suP (N ++ [x]) = suP N + x.length + 2 := by
  induction N with
  | nil => simp [suP]
  | cons y r ih => simp only [List.cons_append, suP, ih]; omega
theorem suP_take (N : List (List UInt8)) (k : Nat) : suP (N.take k) ≤ suP N := by
  induction N generalizing k with
  | nil => simp
  | cons y r ih => cases k with
    | zero => simp [suP]
    | succ k => simp only [List.take_succ_cons, suP]; have := ih k; omega
theorem suP_len (N : List (List UInt8)) : 2 * N.length ≤ suP N := by
  induction N with
  | nil => simp [suP]
  | cons y r ih => simp only [List.length_cons, suP]; omega
theorem few_any (B : Nat) (a : Option Addr) (c : Nat) (N : List (List UInt8)) (w : World) (h : StrAt B w a N) (hc : N.length ≤ c) (hn : N.length ≤ 140737488355328) (hl : ∀ x ∈ N, x.length ≤ 140737488355328) :
    Calls Try.prog 17 #[.slice a N.length c] w fun e w' => e = .returned (.bool (decide (4 * suP N ≤ 2147483647))) ∧ w' = w := by
  have Hl := hidOf hl
  have H := hidOf h
  have hcI : (N.length : Int) ≤ c := by omega
  clear hl h
  go_enter Try.func17, Try.ntmps17
  go_wp2
  go_loopw [3, 4] (fun sv iv wr => ∃ (k s : Nat), sv = .int .i64 s ∧ iv = .int .i64 k ∧ k ≤ N.length ∧ s ≤ 2147483647 ∧ Hid (s = suP (N.take k) ∧ 4 * s ≤ 2147483647) ∧ wr = w) (fun _ iv _ => N.length - (intOf iv).toNat)
  case atStart => exact ⟨0, 0, rfl, rfl, by omega, by omega, hidOf ⟨rfl, by omega⟩, rfl⟩
  case round =>
    obtain ⟨k, s, rfl, rfl, hk, hs, HS, rfl⟩ := hrel
    by_cases hkN : k < N.length
    · have hlt : (k : Int) < N.length := by omega
      have h0 : (0 : Int) ≤ k := by omega
      obtain ⟨x, hx⟩ : ∃ x, N[k]? = some x := ⟨_, List.getElem?_eq_getElem hkN⟩
      obtain ⟨b, off, rfl, hb, d⟩ := H.out.get hx
      have hsz : (⟨x.toArray⟩ : ByteArray).size = x.length := mk_size x
      have hxl : x.length ≤ 140737488355328 := Hl.out x (List.mem_of_getElem? hx)
      have hxI : (x.length : Int) ≤ 140737488355328 := by omega
      have hsI : (s : Int) ≤ 2147483647 := by omega
      have Hx := hidOf hx
      have hst : suP (N.take (k + 1)) = s + x.length + 2 := by rw [take_snoc hx, suP_snoc, ← HS.out.1]
      have Hst := hidOf hst
      clear hx hst hb
      by_cases hbig : 4 * (s + x.length + 2) ≤ 2147483647
      · have hbI : ¬ (2147483647 < 4 * ((s : Int) + x.length + 2)) := by omega
        go_wp2
        go_roundw
        case rel => exact ⟨k + 1, s + x.length + 2, rfl, rfl, by omega, by omega, hidOf ⟨Hst.out.symm, hbig⟩, trivial⟩
        case measure => simp [intOf]; omega
      · have hbI : 2147483647 < 4 * ((s : Int) + x.length + 2) := by omega
        go_wp2
        go_ret
        refine ⟨?_, rfl⟩
        have := suP_take N (k + 1)
        rw [Hst.out] at this
        rw [decide_eq_false (by omega)]
        rfl
    · have hlt : ¬ (k : Int) < N.length := by omega
      obtain rfl : k = N.length := by omega
      rw [List.take_length] at HS
      go_wp2
      go_ret
      refine ⟨?_, rfl⟩
      have := HS.out
      rw [decide_eq_true (by omega)]
      rfl
end Go.Proofs.Ytgakmbeooobhjaa
