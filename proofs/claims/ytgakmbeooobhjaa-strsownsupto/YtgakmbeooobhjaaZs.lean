import Derived.Test.YtgakmbeooobhjaaZr
namespace Go.Proofs.Ytgakmbeooobhjaa
open Go.RowKit
set_option linter.unusedVariables false
set_option linter.unusedSimpArgs false
/-- the lender: new, or with a buffer that is long enough -/
def LS (w : World) (p B n : Nat) : Prop := w.heap[p]? = some (.cells #[.slice none 0 0, .int .i64 0] 36 (0, 0)) ∨ ∃ g m N L, LeB w p g m N L ∧ B ≤ g ∧ 2 * n + 70 ≤ m
theorem LS.lt {w : World} {p B n : Nat} (h : LS w p B n) : p < w.heap.size := by
  rcases h with h | ⟨g, m, N, L, h, _⟩
  · exact (Array.getElem?_eq_some_iff.1 h).1
  · exact h.ltp
theorem LS.out {w w' : World} {p B n : Nat} (h : LS w p B n) (o : Out w w') : LS w' p B n := by
  have hl := h.lt
  rcases h with h | ⟨g, m, N, L, h, hg, hm⟩
  · exact .inl ((o.block p hl).trans h)
  · exact .inr ⟨g, m, N, L, h.out o, hg, hm⟩
/-- a text lies apart from the lender -/
def Ap (w : World) (p : Nat) (a : Option Addr) (l : List UInt8) : Prop := ¬ l = [] → ∀ ad, a = some ad → ¬ ad.block = p ∧ ∀ g m N L, LeB w p g m N L → ¬ ad.block = g
theorem Ap.out {w w' : World} {p B n : Nat} {a : Option Addr} {l : List UInt8} (h : Ap w p a l) (s : LS w p B n) (o : Out w w') : Ap w' p a l := fun hl ad ha => by
  refine ⟨(h hl ad ha).1, fun g m N L hb => ?_⟩
  rcases s with s | ⟨g1, m1, N1, L1, s, _⟩
  · have h1 := hb.hp
    rw [(o.block p (Array.getElem?_eq_some_iff.1 s).1).trans s] at h1
    simp at h1
  · have h1 := hb.hp
    rw [(s.out o).hp] at h1
    simp at h1
    rw [← h1.1.1]
    exact (h hl ad ha).2 _ _ _ _ s
/-- the blocks that Lend writes hold no tokens -/
def LP (w : World) (p g : Nat) : Prop := (∃ cs, w.heap[p]? = some (.cells cs 36 (0, 0))) ∧ (w.heap.size ≤ g ∨ ∃ cs, w.heap[g]? = some (.cells cs 5 (0, 0)))
theorem LeB.lp {w : World} {p g m : Nat} {N : Int} {L : List UInt8} (h : LeB w p g m N L) : LP w p g := ⟨⟨_, h.hp⟩, .inr ⟨_, h.hg⟩⟩
theorem OwS.lp {B p g : Nat} {v : Value} {T : List (List UInt8)} {w w' : World} (h : OwS B v T w) (k : LP w p g) (c : Chg (SL p g) w w') : OwS B v T w' := by
  refine owns_chg h (fun b hb hs => ?_) c
  rcases h.2 with ⟨hv, _⟩ | ⟨g1, cap, cur, hv, _, hg, _⟩
  · rw [hv] at hb; cases hb
  · rw [hv] at hb
    simp [Value.ownBlock] at hb
    subst hb
    rcases hs with e | e
    · obtain ⟨cs, h1⟩ := k.1
      rw [← e, hg] at h1; simp at h1
    · rcases k.2 with h1 | ⟨cs, h1⟩
      · have := (Array.getElem?_eq_some_iff.1 hg).1; omega
      · rw [← e, hg] at h1; simp at h1
theorem lend_any (w : World) (p B : Nat) (a : Option Addr) (cap : Nat) (l : List UInt8) (hs : LS w p B l.length) (hB : B ≤ w.heap.size) (hr : RestAt w.heap.size w a l) (ha : Ap w p a l) (hll : l.length ≤ 60000000000000) :
    Calls Try.prog 33 #[.pointer (some ⟨p, 0, none⟩), .slice a l.length cap] w fun e w' => ∃ g m R, e = .returned (.slice (some ⟨g, 0, none⟩) l.length (2 * l.length + 70)) ∧ LeB w' p g m l.length (l ++ (lmsB l.length (l.length + 70) ++ R)) ∧ Chg (SL p g) w w' ∧ LP w p g ∧ B ≤ g ∧ (¬ l = [] → ∀ ad, a = some ad → ¬ SL p g ad.block) := by
  rcases hs with hs | ⟨g, m, N, L, hs, hg, hm⟩
  · refine (lend_new w.heap.size w p w.heap.size (4 * l.length + 512) (List.replicate (4 * l.length + 512) 0) hs a cap l hr (Nat.le_refl _) (fun h ad had => (ha h ad had).1) rfl rfl rfl hll).mono ?_
    rintro e w' ⟨he, hb, hc⟩
    refine ⟨_, _, _, he, hb, hc, ⟨⟨_, hs⟩, .inl (Nat.le_refl _)⟩, hB, fun h ad had hsl => ?_⟩
    rcases hsl with e | e
    · exact (ha h ad had).1 e
    · rcases hr with h1 | ⟨b, o, hb, h1, _⟩
      · exact h h1
      · rw [h1] at had; cases had; simp at e; omega
  · refine (lend_again w.heap.size w p g m N L hs a cap l hr (fun h ad had => (ha h ad had).1) (fun h ad had => (ha h ad had).2 _ _ _ _ hs) hm (by omega)).mono ?_
    rintro e w' ⟨he, hb, hc⟩
    refine ⟨_, _, _, he, hb, hc, hs.lp, hg, fun h ad had hsl => ?_⟩
    rcases hsl with e | e
    · exact (ha h ad had).1 e
    · exact (ha h ad had).2 _ _ _ _ hs e
theorem RestAt.keep {N : Nat} {S : Nat → Prop} {w w' : World} {a : Option Addr} {l : List UInt8} (h : RestAt N w a l) (c : Chg S w w') (hs : ¬ l = [] → ∀ ad, a = some ad → ¬ S ad.block) : RestAt N w' a l := by
  by_cases hl : l = []
  · exact .inl hl
  · rcases h with h | ⟨b, o, hb, ha, hc⟩
    · exact .inl h
    · exact .inr ⟨b, o, hb, ha, fun k x hx => c.cell (hc k x hx) (show ¬ S b from hs hl ⟨b, o, none⟩ ha)⟩
theorem Chg.lender {p g B : Nat} {w0 w w' : World} (c : Chg (SL p g) w w') (o : Out w0 w) (hB : B = w0.heap.size) (hp : B ≤ p) (hg : B ≤ g) : Out w0 w' :=
  Chg.out c o (fun k hk => by rcases hk with e | e <;> omega)
theorem nmP_split (m : List UInt8) (h : ¬ nmP m = []) : m = nmP m ++ 0 :: m.drop ((nmP m).length + 1) := by
  have h1 := nmP_end m h
  have h0 : m[(nmP m).length]? = some 0 := by
    have hc : (m.take 65).contains 0 = true := by
      unfold nmP at h
      split at h
      · assumption
      · exact absurd rfl h
    rcases nmP_idx m with hi | ⟨hi, he⟩
    · have h2 := (Lib.indexByte_some (l := m.take 65) (c := 0) hi).1
      rw [List.getElem?_take] at h2
      split at h2
      · exact h2
      · cases h2
    · exact absurd he h
  have hlt : (nmP m).length < m.length := by omega
  have hd := List.drop_eq_getElem_cons hlt
  have hg : m[(nmP m).length] = 0 := by rw [List.getElem?_eq_getElem hlt] at h0; exact Option.some.inj h0
  rw [hg] at hd
  rw [← hd]
  conv => rhs; arg 1; rw [nmP_take m]
  rw [List.take_append_drop]
theorem rd_bytes : ∀ (n : Nat) (m : List UInt8) (A N : List (List UInt8)) (q : Nat), m.length ≤ n → rdR m A = (some N, q) → byP N = byP A ++ m
  | 0, m, A, N, q, hl, h => by
    obtain rfl := List.length_eq_zero_iff.1 (show m.length = 0 by omega)
    rw [rdR_nil] at h
    cases h
    simp
  | n + 1, m, A, N, q, hl, h => by
    by_cases h0 : m = []
    · subst h0
      rw [rdR_nil] at h
      cases h
      simp
    by_cases hx : nmP m ∈ A ∨ nmP m = []
    · rw [rdR_bad m A h0 hx] at h
      cases h
    · have h1 : ¬ nmP m ∈ A := fun e => hx (.inl e)
      have h2 : ¬ nmP m = [] := fun e => hx (.inr e)
      rw [rdR_ok m A h0 h1 h2] at h
      have := rd_bytes n _ _ N q (by rw [List.length_drop]; omega) h
      rw [this, byP_snoc]
      conv => rhs; rw [nmP_split m h2]
      simp
theorem rd_whole {l : List UInt8} {N : List (List UInt8)} (h : (rdP l).1 = some N) : byP N = l := by
  cases l with
  | nil => cases h
  | cons x r =>
    by_cases h0 : x = 0
    · subst h0
      have h' : (rdR r []).1 = some N := h
      have := rd_bytes r.length r [] N (rdR r []).2 (Nat.le_refl _) (by rw [← h'])
      rw [this]; rfl
    · simp [rdP, h0] at h
end Go.Proofs.Ytgakmbeooobhjaa
