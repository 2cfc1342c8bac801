import Derived.Test.YtoobdcjkhphlcaaRsf
import Derived.Deep.DeepCutAuto
namespace Go.Proofs.Ytoobdcjkhphlcaa
open Go.RowKit
set_option linter.unusedVariables false
set_option linter.unusedSimpArgs false
theorem FLk.tok {S : Nat → Prop} {w w' : World} {B : Nat} {x : Value} {m : Int} {n k : Nat} (h : FLk w B x m n k) (c : Chg S w w') (hS : ∀ b, S b → ¬ ∃ cs, BlT w b cs) : FLk w' B x m n k := h.chg c (fun b hb hs => hS b hs (h.blk b hb).2)
/-- tokens in a block of tokens -/
def TkB (w : World) (a : Option Addr) (T : List Rl) : Prop := TksAt w a T ∧ ∀ ad, a = some ad → ∃ cs, BlT w ad.block cs
theorem TkB.tok {S : Nat → Prop} {w w' : World} {a : Option Addr} {T : List Rl} (h : TkB w a T) (c : Chg S w w') (hS : ∀ b, S b → ¬ ∃ cs, BlT w b cs) : TkB w' a T := by
  refine ⟨?_, fun ad had => ?_⟩
  · rcases h.1 with h1 | ⟨b, o, hlt, ha, hc⟩
    · exact .inl h1
    · have hb : ¬ S b := fun hs => hS b hs (h.2 _ ha)
      exact .inr ⟨b, o, Nat.lt_of_lt_of_le hlt c.size, ha, fun k x hx => c.cell (hc k x hx) hb⟩
  · obtain ⟨cs, hb⟩ := h.2 ad had
    exact ⟨cs, hb.chg c (fun hs => hS _ hs ⟨cs, hb⟩)⟩
theorem TkB.out {w w' : World} {a : Option Addr} {T : List Rl} (h : TkB w a T) (o : Out w w') : TkB w' a T := h.tok (S := fun _ => False) (Chg.of_out o) (fun _ h => h.elim)
theorem TkB.own {w : World} {B : Nat} {a : Option Addr} {n c : Nat} {T : List Rl} (h : w.ownsRow B 27 3 (.slice a n c) n (rlV T)) (hn : n = T.length) : TkB w a T := by
  subst hn
  obtain ⟨a', c', he, _, ht⟩ := owns_tks h
  simp only [Value.slice.injEq] at he
  obtain ⟨rfl, _, rfl⟩ := he
  refine ⟨ht, fun ad had => ?_⟩
  rcases h.2 with ⟨hv, _⟩ | ⟨g, cap, cur, hv, _, hg, _⟩
  · simp only [Value.slice.injEq] at hv; rw [hv.1] at had; cases had
  · simp only [Value.slice.injEq] at hv; rw [hv.1] at had; cases had; exact ⟨cur, hg⟩
structure Lst (w : World) (B : Nat) (F W K : List Value) (M : List Int) : Prop where
  wl : W.length = F.length
  prs : ∀ (i : Nat) x y, F[i]? = some x → W[i]? = some y → ∃ T a1 c1 a2 c2, x = .slice a1 T.length c1 ∧ y = .slice a2 T.length c2 ∧ TkB w a1 T ∧ TkB w a2 T ∧ T.length ≤ 33554433
  kp : Kp w K M
  l0 : ∀ (j : Nat) x, F[j]? = some x → ∃ n, FLk w B x 0 n 0
  dst : Dst F
  ak : Ak F K
  ml : M.length = K.length
theorem Lst.tok {S : Nat → Prop} {w w' : World} {B : Nat} {F W K : List Value} {M : List Int} (h : Lst w B F W K M) (c : Chg S w w') (hS : ∀ b, S b → ¬ ∃ cs, BlT w b cs) : Lst w' B F W K M :=
  ⟨h.wl, fun i x y hx hy => by
    obtain ⟨T, a1, c1, a2, c2, h1, h2, h3, h4, h5⟩ := h.prs i x y hx hy
    exact ⟨T, a1, c1, a2, c2, h1, h2, h3.tok c hS, h4.tok c hS, h5⟩, h.kp.tok c hS, fun j x hx => by
    obtain ⟨n, hn⟩ := h.l0 j x hx
    exact ⟨n, hn.tok c hS⟩, h.dst, h.ak, h.ml⟩
theorem Lst.out {w w' : World} {B : Nat} {F W K : List Value} {M : List Int} (h : Lst w B F W K M) (o : Out w w') : Lst w' B F W K M := h.tok (S := fun _ => False) (Chg.of_out o) (fun _ h => h.elim)
theorem Lst.prs' {w : World} {B : Nat} {F W K : List Value} {M : List Int} (h : Lst w B F W K M) : Prs w F W := fun i x y hx hy => by
  obtain ⟨T, a1, c1, a2, c2, h1, h2, h3, h4, h5⟩ := h.prs i x y hx hy
  exact ⟨T, a1, c1, a2, c2, h1, h2, h3.1, h4.1, h5⟩
theorem Lst.l1 {w : World} {B : Nat} {F W K : List Value} {M : List Int} (h : Lst w B F W K M) (ct : Int) : L1 w B ct F 0 := fun j x hx => by
  obtain ⟨n, hn⟩ := h.l0 j x hx
  exact ⟨n, by rw [if_neg (by omega)]; exact hn.mark⟩
/-- a list more lies untouched -/
theorem Lst.snoc {w : World} {B N : Nat} {F W K : List Value} {M : List Int} {T : List Rl} {a a2 : Option Addr} {c c2 : Nat} (h : Lst w B F W K M) (hF : ∀ (j : Nat) y b, F[j]? = some y ∨ K[j]? = some y → y.ownBlock = some b → b < N) (hx : OwR N (.slice a T.length c) T w) (hN : B ≤ N) (hT : T.length ≤ 33554433) (h2 : TkB w a2 T) :
    Lst w B (F ++ [.slice a T.length c]) (W ++ [.slice a2 T.length c2]) K M := by
  have hxb : ∀ b, (Value.slice a T.length c).ownBlock = some b → N ≤ b := fun b hb => (World.ownsRow.lt hx b hb).1
  refine ⟨by simp [h.wl], fun i x y hix hiy => ?_, h.kp, fun j x hj => ?_, fun i j x y hi hj hij b hxb' hyb => ?_, fun i j x y hi hj b hxb' hyb => ?_, h.ml⟩
  · by_cases hi : i < F.length
    · rw [List.getElem?_append_left hi] at hix
      rw [List.getElem?_append_left (by rw [h.wl]; exact hi)] at hiy
      exact h.prs i x y hix hiy
    · have hie : i = F.length := by have := (List.getElem?_eq_some_iff.1 hix).1; simp at this; omega
      subst hie
      rw [List.getElem?_append_right (Nat.le_refl _), Nat.sub_self] at hix
      rw [List.getElem?_append_right (by rw [h.wl]; exact Nat.le_refl _), h.wl, Nat.sub_self] at hiy
      simp at hix hiy
      subst hix hiy
      exact ⟨T, a, c, a2, c2, rfl, rfl, TkB.own hx rfl, h2, hT⟩
  · by_cases hi : j < F.length
    · rw [List.getElem?_append_left hi] at hj
      exact h.l0 j x hj
    · have hie : j = F.length := by have := (List.getElem?_eq_some_iff.1 hj).1; simp at this; omega
      subst hie
      rw [List.getElem?_append_right (Nat.le_refl _), Nat.sub_self] at hj
      simp at hj
      subst hj
      exact ⟨T.length, FLk.of_own (own_base hx hN) hT 0⟩
  · by_cases hi' : i < F.length
    · rw [List.getElem?_append_left hi'] at hi
      by_cases hj' : j < F.length
      · rw [List.getElem?_append_left hj'] at hj
        exact h.dst i j x y hi hj hij b hxb' hyb
      · rw [List.getElem?_append_right (by omega)] at hj
        have : j - F.length = 0 := by have := (List.getElem?_eq_some_iff.1 hj).1; simp at this; omega
        rw [this] at hj; simp at hj; subst hj
        have h1 := hF i x b (.inl hi) hxb'
        have h2 := hxb b hyb
        omega
    · rw [List.getElem?_append_right (by omega)] at hi
      have h0 : i - F.length = 0 := by have := (List.getElem?_eq_some_iff.1 hi).1; simp at this; omega
      rw [h0] at hi; simp at hi; subst hi
      have hj' : j < F.length := by
        have := (List.getElem?_eq_some_iff.1 hj).1; simp at this; omega
      rw [List.getElem?_append_left hj'] at hj
      have h1 := hF j y b (.inl hj) hyb
      have h2 := hxb b hxb'
      omega
  · by_cases hi' : i < F.length
    · rw [List.getElem?_append_left hi'] at hi
      exact h.ak i j x y hi hj b hxb' hyb
    · rw [List.getElem?_append_right (by omega)] at hi
      have h0 : i - F.length = 0 := by have := (List.getElem?_eq_some_iff.1 hi).1; simp at this; omega
      rw [h0] at hi; simp at hi; subst hi
      have h1 := hF j y b (.inr hj) hyb
      have h2 := hxb b hxb'
      omega
theorem Lst.lt {w : World} {B : Nat} {F W K : List Value} {M : List Int} (h : Lst w B F W K M) : ∀ (j : Nat) y b, F[j]? = some y ∨ K[j]? = some y → y.ownBlock = some b → b < w.heap.size := fun j y b hy hb => by
  rcases hy with hy | hy
  · obtain ⟨n, hn⟩ := h.l0 j y hy
    obtain ⟨_, cs, hc⟩ := hn.blk b hb
    exact hc.lt
  · obtain ⟨m, n, _, hml, _⟩ := h.kp j y hy
    exact hml.lt b hb
theorem after3 {w7 w8 : World} {B p : Nat} {ct tt : Int} {fa wa ka ma : Value} {F W K : List Value} {M : List Int} (h : Shf w7 B p ct tt fa wa ka ma F W K M) (O : Obj) (x : Value) (g cap : Nat) (hown : w8.ownsRow B 22 1 (.slice (some ⟨g, 0, none⟩) (F.length + 1) cap) (F.length + 1) (F ++ [x])) (hgrow : (w7.alloc O).grownBy w8 fa.ownBlock) (hg : fa.ownBlock = some g ∨ g = (w7.alloc O).heap.size) :
    Shf (w8.setCell ⟨p, 3, none⟩ (.slice (some ⟨g, 0, none⟩) (F.length + 1) cap)) B p ct tt (.slice (some ⟨g, 0, none⟩) (F.length + 1) cap) wa ka ma (F ++ [x]) W K M ∧ Chg (fun b => b = p ∨ fa.ownBlock = some b) w7 (w8.setCell ⟨p, 3, none⟩ (.slice (some ⟨g, 0, none⟩) (F.length + 1) cap)) := by
  have hA := h.out ((Out.refl w7).alloc O)
  have c8 : Chg (fun b => fa.ownBlock = some b) (w7.alloc O) w8 := Chg.of_grown hgrow (fun k h => h)
  have st8 : w8.heap[p]? = _ := (c8.block p hA.lt (fun e => hA.notp.1 e)).trans hA.st
  have w8' := owns_chg hA.wa_ (fun k hk e => hA.fw k e hk) c8
  have k8 := owns_chg hA.ka_ (fun k hk e => hA.fk k e hk) c8
  have m8 := owns_chg hA.ma_ (fun k hk e => own_apart (by decide) hA.ma_ hA.fa_ k hk e) c8
  refine ⟨Shf.store st8 h.bp 3 _ rfl (by rw [List.length_append]; exact hown) w8' k8 m8 (fun b e hb => ?_) (fun b e hb => ?_) h.wk, ?_⟩
  · simp [Value.ownBlock] at e
    subst e
    rcases hg with hg | hg
    · exact h.fw g hg hb
    · have := (h.wa_.lt g hb).2; rw [size_alloc] at hg; omega
  · simp [Value.ownBlock] at e
    subst e
    rcases hg with hg | hg
    · exact h.fk g hg hb
    · have := (h.ka_.lt g hb).2; rw [size_alloc] at hg; omega
  · exact ((Chg.of_out (S := fun b => b = p ∨ fa.ownBlock = some b) ((Out.refl w7).alloc O)).trans c8 (fun x hx _ => .inr hx)).setCell (p := ⟨p, 3, none⟩) (.inl rfl) _
theorem after4 {w7 w8 : World} {B p : Nat} {ct tt : Int} {fa wa ka ma : Value} {F W K : List Value} {M : List Int} (h : Shf w7 B p ct tt fa wa ka ma F W K M) (O : Obj) (x : Value) (g cap : Nat) (hown : w8.ownsRow B 22 1 (.slice (some ⟨g, 0, none⟩) (W.length + 1) cap) (W.length + 1) (W ++ [x])) (hgrow : (w7.alloc O).grownBy w8 wa.ownBlock) (hg : wa.ownBlock = some g ∨ g = (w7.alloc O).heap.size) :
    Shf (w8.setCell ⟨p, 4, none⟩ (.slice (some ⟨g, 0, none⟩) (W.length + 1) cap)) B p ct tt fa (.slice (some ⟨g, 0, none⟩) (W.length + 1) cap) ka ma F (W ++ [x]) K M ∧ Chg (fun b => b = p ∨ wa.ownBlock = some b) w7 (w8.setCell ⟨p, 4, none⟩ (.slice (some ⟨g, 0, none⟩) (W.length + 1) cap)) := by
  have hA := h.out ((Out.refl w7).alloc O)
  have c8 : Chg (fun b => wa.ownBlock = some b) (w7.alloc O) w8 := Chg.of_grown hgrow (fun k h => h)
  have st8 : w8.heap[p]? = _ := (c8.block p hA.lt (fun e => hA.notp.2.1 e)).trans hA.st
  have f8 := owns_chg hA.fa_ (fun k hk e => hA.fw k hk e) c8
  have k8 := owns_chg hA.ka_ (fun k hk e => hA.wk k e hk) c8
  have m8 := owns_chg hA.ma_ (fun k hk e => own_apart (by decide) hA.ma_ hA.wa_ k hk e) c8
  refine ⟨Shf.store st8 h.bp 4 _ rfl f8 (by rw [List.length_append]; exact hown) k8 m8 (fun b hb e => ?_) h.fk (fun b e hb => ?_), ?_⟩
  · simp [Value.ownBlock] at e
    subst e
    rcases hg with hg | hg
    · exact h.fw g hb hg
    · have := (h.fa_.lt g hb).2; rw [size_alloc] at hg; omega
  · simp [Value.ownBlock] at e
    subst e
    rcases hg with hg | hg
    · exact h.wk g hg hb
    · have := (h.ka_.lt g hb).2; rw [size_alloc] at hg; omega
  · exact ((Chg.of_out (S := fun b => b = p ∨ wa.ownBlock = some b) ((Out.refl w7).alloc O)).trans c8 (fun x hx _ => .inr hx)).setCell (p := ⟨p, 4, none⟩) (.inl rfl) _
end Go.Proofs.Ytoobdcjkhphlcaa
