import Derived.Test.YtgakmbeooobhjaaVk
import Derived.Test.YtgakmbeooobhjaaSti
import Derived.Test.YtgakmbeooobhjaaVl
namespace Go.Proofs.Ytgakmbeooobhjaa
open Go.RowKit
open Go.Maps (Keyed)
set_option linter.unusedVariables false
set_option linter.unusedSimpArgs false
/-- what an act hands out -/
def ActO (d : Nat) (w : World) (S' : Option (List (List UInt8))) (G : Nat → Prop) (m : Nat) (e : Ending) (w' : World) : Prop :=
  ∃ (a1 : Option Addr) (n1 c1 : Nat) (a2 : Option Addr) (n2 c2 : Nat) (O : List UInt8) (N : List (List UInt8)) (G' : Nat → Prop), e = .returned (.tuple #[.bool true, .slice a1 n1 c1, .slice a2 n2 c2]) ∧ n1 = O.length ∧ n2 = N.length ∧ O.length ≤ m ∧ N.length ≤ m ∧ OwB w.heap.size (.slice a1 n1 c1) O w' ∧ OwS w.heap.size (.slice a2 n2 c2) N w' ∧ DS d w' S' G' ∧ Chg G w w' ∧ (∀ k, G' k → FN G w w' k) ∧ ∀ k, (Value.slice a1 n1 c1).ownBlock = some k ∨ (Value.slice a2 n2 c2).ownBlock = some k → ¬ G' k
theorem ActO.nil {d : Nat} {w : World} {S' : Option (List (List UInt8))} {G G' : Nat → Prop} {m : Nat} {w' : World} (hd : DS d w' S' G') (hc : Chg G w w') (hg : ∀ k, G' k → FN G w w' k) : ActO d w S' G m (.returned (.tuple #[.bool true, .slice none 0 0, .slice none 0 0])) w' :=
  ⟨none, 0, 0, none, 0, 0, [], [], G', rfl, rfl, rfl, Nat.zero_le _, Nat.zero_le _, World.ownsRow_nil _ _ _ _, World.ownsRow_nil _ _ _ _, hd, hc, hg, fun k hk => by
    rcases hk with h | h
    · cases h
    · cases h⟩
theorem act_own (d : Nat) (x : Ac) (w : World) (S : Option (List (List UInt8))) (G : Nat → Prop) (h : DS d w S G) (hG : ∀ k, G k → k < w.heap.size) (m : Nat) (hm : szS S ≤ m) (hb : m ≤ 900000000000) (hl : x.s.length ≤ 1000000000000) :
    Calls Try.prog 9 #[.pointer (some ⟨d, 0, none⟩), .agg x.cs] w fun e w' => ActO d w (addS S x) G m e w' := by
  cases S with
  | none =>
    refine (act_nil d x w h.1).mono ?_
    rintro e w' ⟨rfl, ho⟩
    exact ActO.nil (S' := none) (G' := G) ⟨h.1.out ho, h.2⟩ (Chg.of_out ho) (fun k hk => .inl hk)
  | some N =>
    obtain ⟨p, ra, rc, F, hd, hg⟩ := h
    have hm' : szF 1 N ≤ m := hm
    have hb' : szF 1 N ≤ 900000000000 := by omega
    have hNl := szF_ge N 1
    have same : ∀ w', Dk d w' p N ra rc F → DS d w' (some N) G := fun w' h' => ⟨p, ra, rc, F, h', fun k hk => hg k hk⟩
    by_cases h1 : x.k = 1
    · by_cases hok : nameOk x.s = true
      · by_cases hmm : x.s ∈ N
        · have e : addS (some N) x = some N := by simp [addS, h1, hok, addN, hmm]
          rw [e]
          refine (act_same d x w p N ra rc F hd hb' hl h1 (.inr hmm)).mono ?_
          rintro e w' ⟨rfl, h2, h3⟩
          exact ActO.nil (same w' h2) (h3.mono (fun k hk _ => by rw [hk]; exact hg d (.inl rfl))) (fun k hk => .inl hk)
        · have e : addS (some N) x = some (N ++ [x.s]) := by simp [addS, h1, hok, addN, hmm]
          rw [e]
          refine (act_newO d x w p N ra rc F hd hb' h1 hok hmm).mono ?_
          rintro e w' ⟨rfl, ra', rc', F', h2, h3, h4⟩
          refine ActO.nil (G' := FN G w w') ⟨p, ra', rc', F', h2, fun k hk => ?_⟩ (h3.mono (fun k hk _ => hg k hk)) (fun k hk => hk)
          rcases h4 k hk with h5 | h5
          · exact .inl (hg k h5)
          · exact .inr ⟨h5, h2.flt k hk⟩
      · have hf : nameOk x.s = false := by simpa using hok
        have e : addS (some N) x = some N := by simp [addS, hf]
        rw [e]
        refine (act_same d x w p N ra rc F hd hb' hl h1 (.inl hf)).mono ?_
        rintro e w' ⟨rfl, h2, h3⟩
        exact ActO.nil (same w' h2) (h3.mono (fun k hk _ => by rw [hk]; exact hg d (.inl rfl))) (fun k hk => .inl hk)
    · have e : addS (some N) x = some N := by simp [addS, h1]
      rw [e]
      by_cases h2 : x.k = 2
      · refine (act_at d x w p N ra rc F hd hb' h2).mono ?_
        rintro e w' ⟨rfl, ho⟩
        exact ActO.nil (same w' (hd.out ho)) (Chg.of_out ho) (fun k hk => .inl hk)
      by_cases h3 : x.k = 3
      · refine (act_names d x w p N ra rc F hd hb' h3).mono ?_
        rintro e w' ⟨a, c, rfl, hown, ho⟩
        refine ⟨none, 0, 0, a, _, c, [], N, G, rfl, rfl, rfl, Nat.zero_le _, by omega, World.ownsRow_nil _ _ _ _, hown, same w' (hd.out ho), Chg.of_out ho, fun k hk => .inl hk, fun k hk hgk => ?_⟩
        rcases hk with hk | hk
        · cases hk
        · have := (World.ownsRow.lt hown k hk).1; have := hG k hgk; omega
      by_cases h4 : x.k = 4
      · refine (act_bytes d x w p N ra rc F hd hb' h4).mono ?_
        rintro e w' ⟨a, c, rfl, hown, ho⟩
        refine ⟨a, _, c, none, 0, 0, byP N, [], G, rfl, rfl, rfl, by rw [byP_len]; omega, Nat.zero_le _, hown, World.ownsRow_nil _ _ _ _, same w' (hd.out ho), Chg.of_out ho, fun k hk => .inl hk, fun k hk hgk => ?_⟩
        rcases hk with hk | hk
        · have := (World.ownsRow.lt hown k hk).1; have := hG k hgk; omega
        · cases hk
      refine (act_other d x w p N ra rc F hd hb' h1 h2 h3 h4).mono ?_
      rintro e w' ⟨rfl, ho⟩
      exact ActO.nil (same w' (hd.out ho)) (Chg.of_out ho) (fun k hk => .inl hk)
end Go.Proofs.Ytgakmbeooobhjaa
