import Derived.Test.YtbdmbicnlfcclaaSwl
import Derived.Test.YtbdmbicnlfcclaaSyr
import Derived.Deep.DeepCutAuto
namespace Go.Proofs.Ytbdmbicnlfcclaa
open Go.RowKit
set_option linter.unusedVariables false
set_option linter.unusedSimpArgs false
def tdB (l : List UInt8) (i n : Nat) : Int := toldP ((l.drop i).take n)
theorem td_small (l : List UInt8) (i n : Nat) (hn : n ≤ 7) : tdB l i n = nuB l i n := by
  have h := nmB_lt ((l.drop i).take n)
  have h2 : 256 ^ ((l.drop i).take n).length ≤ 256 ^ 7 := Nat.pow_le_pow_right (by omega) (by rw [List.length_take]; omega)
  rw [nu_small l i n hn]
  unfold tdB toldP
  rw [if_neg (by omega)]
theorem td_big (l : List UInt8) (i : Nat) : (tdB l i 8 = nuB l i 8 ∧ 0 ≤ tdB l i 8) ∨ (tdB l i 8 = -1 ∧ nuB l i 8 < 0) := by
  have h := nmB_lt ((l.drop i).take 8)
  have h2 : 256 ^ ((l.drop i).take 8).length ≤ 256 ^ 8 := Nat.pow_le_pow_right (by omega) (by rw [List.length_take]; omega)
  unfold tdB toldP nuB
  by_cases hb : 9223372036854775808 ≤ nmB ((l.drop i).take 8)
  · right
    rw [if_pos hb]
    refine ⟨rfl, ?_⟩
    unfold wrap64
    first | omega | (rw [IntKind.wrap_i64]; omega) | (simp; omega)
  · left
    rw [if_neg hb, w64_small _ (by omega)]
    exact ⟨rfl, by omega⟩
theorem nu_at {l : List UInt8} {i : Nat} {x : UInt8} (h : l[i]? = some x) : nuB l i 1 = x.toNat := by
  rw [nu_small l i 1 (by omega)]
  obtain ⟨hi, hx⟩ := List.getElem?_eq_some_iff.1 h
  rw [List.drop_eq_getElem_cons hi, hx]
  simp [nmB]
/-- the symbol that the reference reads -/
def syT (l : List UInt8) (x4 : UInt8) : Sy := ⟨tdB l 0 4, (x4.toNat : Int) / 16, (x4.toNat : Int) % 16, tdB l 6 2, tdB l 8 8, tdB l 16 8⟩
theorem va_neg {k : Nat} {n : Int} (h : n < 0) : vaP k n = false := by
  cases hv : vaP k n
  · rfl
  · have := va_pos hv; omega
theorem si_neg {k : Nat} {n : Int} (h : n < 0) : siP k n = false := by
  cases hv : siP k n
  · rfl
  · have := si_pos hv; omega
theorem syT_ff (l : List UInt8) (x4 : UInt8) (k : Nat) : ffP k (syT l x4) = ffP k (syB l) := by
  have e2 := td_small l 6 2 (by omega)
  have va : vaP k (tdB l 8 8) = vaP k (nuB l 8 8) := by
    rcases td_big l 8 with ⟨h, _⟩ | ⟨h1, h2⟩
    · rw [h]
    · rw [h1, va_neg (by omega), va_neg h2]
  have si : siP k (tdB l 16 8) = siP k (nuB l 16 8) := by
    rcases td_big l 16 with ⟨h, _⟩ | ⟨h1, h2⟩
    · rw [h]
    · rw [h1, si_neg (by omega), si_neg h2]
  unfold ffP syT syB
  simp only [e2, va, si]
theorem syT_eq {l : List UInt8} {x4 : UInt8} {k : Nat} (h4 : l[4]? = some x4) (h : ffP k (syB l) = none) : syT l x4 = syB l := by
  obtain ⟨_, f2, f3⟩ := ff_facts h
  have e8 : tdB l 8 8 = nuB l 8 8 := by
    rcases td_big l 8 with ⟨h, _⟩ | ⟨h1, h2⟩
    · exact h
    · have := va_pos f2
      simp only [syB] at this
      omega
  have e16 : tdB l 16 8 = nuB l 16 8 := by
    rcases td_big l 16 with ⟨h, _⟩ | ⟨h1, h2⟩
    · exact h
    · have := si_pos f3
      simp only [syB] at this
      omega
  unfold syT syB
  rw [td_small l 0 4 (by omega), td_small l 6 2 (by omega), e8, e16, nu_at h4]
theorem told_cut {w : World} {g off : Nat} {l : List UInt8} (hg : g < w.heap.size) (h : BAt w g off l) (i n c' : Nat) (hn : n ≤ 8) (hi : i + n ≤ l.length) : Calls Try.prog 52 #[.slice (some ⟨g, off + i, none⟩) n c'] w fun e w' => e = .returned (.int .i64 (tdB l i n)) ∧ w' = w := by
  have hl : ((l.drop i).take n).length = n := by rw [List.length_take, List.length_drop]; omega
  have := told_any w.heap.size (some ⟨g, off + i, none⟩) c' ((l.drop i).take n) w ((h.cut i n).rest hg) (by omega)
  rwa [hl] at this
/-- the sort of a symbol whose fifth byte is one -/
theorem so_of {na se va si : Int} {x4 : UInt8} (hn0 : 0 ≤ na) (hn1 : na ≤ 4294967295) : soP ⟨na, (x4.toNat : Int) / 16, (x4.toNat : Int) % 16, se, va, si⟩ = if ffP (fifP x4.toNat) ⟨na, (x4.toNat : Int) / 16, (x4.toNat : Int) % 16, se, va, si⟩ = none then fifP x4.toNat else 0 := by
  have h4 := x4.toNat_lt
  unfold soP
  simp only
  rw [show 16 * ((x4.toNat : Int) / 16) + (x4.toNat : Int) % 16 = x4.toNat by omega]
  by_cases hf : ffP (fifP (x4.toNat : Int)) ⟨na, (x4.toNat : Int) / 16, (x4.toNat : Int) % 16, se, va, si⟩ = none
  · rw [if_pos hf, if_pos ⟨by omega, by omega, by omega, by omega, hn0, hn1, hf⟩]
  · rw [if_neg hf, if_neg (fun h => hf h.2.2.2.2.2.2)]
/-- what the reference tells of an entry -/
def enW (l : List UInt8) (x4 x5 : UInt8) : Int := if fifP x4.toNat = 0 then 4 else if ¬ x5 = 0 then 5 else match ffP (fifP x4.toNat) (syT l x4) with
  | some a => (a : Nat)
  | none => -1
end Go.Proofs.Ytbdmbicnlfcclaa
