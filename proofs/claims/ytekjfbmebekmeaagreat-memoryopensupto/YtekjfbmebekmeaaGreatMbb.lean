import Derived.Test.YtekjfbmebekmeaaGreatMba
namespace Go.Proofs.YtekjfbmebekmeaaGreat
open Go.RowKit
set_option linter.unusedVariables false
set_option linter.unusedSimpArgs false
/-- a space that may be: the filled ones F, the empty ones E -/
structure SpOk (F E : List Rg) : Prop where
  sf : Srt F
  se : Srt E
  fd : ∀ x ∈ F, 0 < x.d.length ∧ x.f + x.d.length ≤ 18446744073709551616
  ap : F.Pairwise (fun x y => x.f + x.d.length ≤ y.f)
  ed : ∀ x ∈ E, x.d = [] ∧ x.f < 18446744073709551616
  ne : ∀ x ∈ F, ∀ y ∈ E, x.f ≠ y.f
theorem SpOk.nil : SpOk [] [] := ⟨List.Pairwise.nil, List.Pairwise.nil, by simp, List.Pairwise.nil, by simp, by simp⟩
/-- does a region clash with one of a space? -/
def clP (F E : List Rg) (f : Nat) (n : Nat) : Bool :=
  F.any (fun x => x.f == f) || E.any (fun x => x.f == f) || (!(n == 0) && match upF F (f + (n - 1)) with | none => false | some y => decide (f ≤ y.f + (y.d.length - 1)))
theorem clP_no {F E : List Rg} {f n : Nat} (h : clP F E f n = false) : (∀ x ∈ F, x.f ≠ f) ∧ (∀ x ∈ E, x.f ≠ f) ∧ (0 < n → ∀ y, upF F (f + (n - 1)) = some y → y.f + (y.d.length - 1) < f) := by
  unfold clP at h
  simp only [Bool.or_eq_false_iff, List.any_eq_false, beq_iff_eq] at h
  obtain ⟨⟨h1, h2⟩, h3⟩ := h
  refine ⟨h1, h2, fun hn y hy => ?_⟩
  have hn0 : (n == 0) = false := by simpa using Nat.pos_iff_ne_zero.1 hn
  simp [hn0, hy] at h3
  omega
theorem InsP.pair {R : Rg → Rg → Prop} {F F' : List Rg} {r : Rg} (h : InsP F r F') (hs : F.Pairwise R) (h1 : ∀ x ∈ F, x.f ≤ r.f → R x r) (h2 : ∀ x ∈ F, r.f < x.f → R r x) : F'.Pairwise R := by
  obtain ⟨P, Q, rfl, rfl, hP, hQ⟩ := h
  obtain ⟨p1, p2, p3⟩ := List.pairwise_append.1 hs
  refine List.pairwise_append.2 ⟨p1, List.pairwise_cons.2 ⟨fun y hy => h2 y (by simp [hy]) (hQ y hy), p2⟩, fun x hx y hy => ?_⟩
  rcases List.mem_cons.1 hy with rfl | hy
  · exact h1 x (by simp [hx]) (hP x hx)
  · exact p3 x hx y hy
/-- of two of one list -/
theorem pair_of {R : Rg → Rg → Prop} {F : List Rg} (h : F.Pairwise R) (hs : Srt F) {x y : Rg} (hx : x ∈ F) (hy : y ∈ F) (hl : x.f < y.f) : R x y := by
  induction F with
  | nil => simp at hx
  | cons z F ih =>
    obtain ⟨a1, a2⟩ := List.pairwise_cons.1 h
    obtain ⟨s1, s2⟩ := List.pairwise_cons.1 hs
    rcases List.mem_cons.1 hx with e | hx'
    · rcases List.mem_cons.1 hy with e2 | hy'
      · subst e; subst e2; omega
      · subst e; exact a1 y hy'
    · rcases List.mem_cons.1 hy with e2 | hy'
      · have := s1 x hx'; subst e2; omega
      · exact ih a2 s2 hx' hy'
theorem srt_one {F : List Rg} (hs : Srt F) {x y : Rg} (hx : x ∈ F) (hy : y ∈ F) (he : x.f = y.f) : x = y := by
  induction F with
  | nil => simp at hx
  | cons z F ih =>
    obtain ⟨s1, s2⟩ := List.pairwise_cons.1 hs
    rcases List.mem_cons.1 hx with e | hx'
    · rcases List.mem_cons.1 hy with e2 | hy'
      · rw [e, e2]
      · have := s1 y hy'; subst e; omega
    · rcases List.mem_cons.1 hy with e2 | hy'
      · have := s1 x hx'; subst e2; omega
      · exact ih s2 hx' hy'
theorem SpOk.addF {F F' E : List Rg} {r : Rg} (h : SpOk F E) (hi : InsP F r F') (hc : clP F E r.f r.d.length = false) (hd : 0 < r.d.length) (hm : r.f + r.d.length ≤ 18446744073709551616) : SpOk F' E := by
  obtain ⟨c1, c2, c3⟩ := clP_no hc
  refine ⟨hi.srt h.sf c1, h.se, fun x hx => ?_, hi.pair h.ap (fun x hx hxr => ?_) (fun x hx hxr => ?_), h.ed, fun x hx y hy => ?_⟩
  · rcases (hi.mem x).1 hx with rfl | hx
    · exact ⟨hd, hm⟩
    · exact h.fd x hx
  · have hne := c1 x hx
    have hf := h.fd x hx
    rcases upF_hit h.sf (r.f + (r.d.length - 1)) with ⟨y, hu, hyF, hy1, hy2, hy3⟩ | ⟨_, hu⟩
    · have := c3 hd y hu
      by_cases e : x.f = y.f
      · rw [srt_one h.sf hx hyF e]; have := h.fd y hyF; omega
      · have h9 := hy3 x hx (by omega)
        have := pair_of h.ap h.sf hx hyF (by omega)
        have := h.fd y hyF
        omega
    · have := hu x hx; omega
  · rcases upF_hit h.sf (r.f + (r.d.length - 1)) with ⟨y, hu, hyF, hy1, hy2, hy3⟩ | ⟨_, hu⟩
    · have h8 := c3 hd y hu
      have h6 := (h.fd y hyF).1
      by_cases h9 : r.f + (r.d.length - 1) < x.f
      · omega
      · have h7 := hy3 x hx (Nat.le_of_not_lt h9)
        exfalso
        clear hy2 hy3 hu c1 c2 c3
        omega
    · have := hu x hx; omega
  · rcases (hi.mem x).1 hx with rfl | hx
    · exact fun e => c2 y hy e.symm
    · exact h.ne x hx y hy
theorem SpOk.addE {F E E' : List Rg} {r : Rg} (h : SpOk F E) (hi : InsP E r E') (hc : clP F E r.f r.d.length = false) (hd : r.d = []) (hm : r.f < 18446744073709551616) : SpOk F E' := by
  obtain ⟨c1, c2, c3⟩ := clP_no hc
  refine ⟨h.sf, hi.srt h.se c2, h.fd, h.ap, fun x hx => ?_, fun x hx y hy => ?_⟩
  · rcases (hi.mem x).1 hx with rfl | hx
    · exact ⟨hd, hm⟩
    · exact h.ed x hx
  · rcases (hi.mem y).1 hy with rfl | hy
    · exact c1 x hx
    · exact h.ne x hx y hy
/-- where n bytes at an address lie wholly: in the region, from the offset on -/
def acP (F : List Rg) (at_ n : Nat) : Option (Rg × Nat) := match upF F at_ with
  | none => none
  | some y => if at_ - y.f < y.d.length ∧ n ≤ y.d.length - (at_ - y.f) then some (y, at_ - y.f) else none
theorem acP_some {F : List Rg} {at_ n o : Nat} {y : Rg} (hs : Srt F) (h : acP F at_ n = some (y, o)) : y ∈ F ∧ y.f + o = at_ ∧ o < y.d.length ∧ n ≤ y.d.length - o := by
  unfold acP at h
  rcases upF_hit hs at_ with ⟨z, hu, hz, hz1, _, _⟩ | ⟨hu, _⟩
  · rw [hu] at h
    simp only at h
    split at h
    · rename_i hc
      simp only [Option.some.injEq, Prod.mk.injEq] at h
      obtain ⟨rfl, rfl⟩ := h
      exact ⟨hz, by omega, hc.1, hc.2⟩
    · cases h
  · rw [hu] at h; cases h
theorem acP_in {F E : List Rg} (h : SpOk F E) {x : Rg} (hx : x ∈ F) {o n : Nat} (ho : o < x.d.length) (hn : n ≤ x.d.length - o) : acP F (x.f + o) n = some (x, o) := by
  unfold acP
  rcases upF_hit h.sf (x.f + o) with ⟨z, hu, hz, hz1, _, hz3⟩ | ⟨_, hu⟩
  · rw [hu]
    have h9 := hz3 x hx (by omega)
    have e : x = z := by
      by_cases e : x.f = z.f
      · exact srt_one h.sf hx hz e
      · have := pair_of h.ap h.sf hx hz (by omega)
        omega
    subst e
    simp only
    rw [show x.f + o - x.f = o by omega, if_pos ⟨ho, hn⟩]
  · have := hu x hx; omega
/-- do n bytes at an address lie wholly in one of the list? -/
def heldP (M : List Rg) (at_ k : Nat) : Bool := M.any fun x => decide (k ≤ x.d.length) && decide (x.f ≤ at_) && decide (at_ - x.f ≤ x.d.length - k)
theorem held_acP {F E M : List Rg} (h : SpOk F E) (hM : ∀ x, x ∈ M ↔ x ∈ F ∨ x ∈ E) (at_ k : Nat) (hk : 0 < k) : heldP M at_ k = (acP F at_ k).isSome := by
  rw [Bool.eq_iff_iff]
  unfold heldP
  simp only [List.any_eq_true, Bool.and_eq_true, decide_eq_true_eq]
  constructor
  · rintro ⟨x, hx, ⟨h1, h2⟩, h3⟩
    have hxF : x ∈ F := by
      rcases (hM x).1 hx with hx | hx
      · exact hx
      · have := (h.ed x hx).1; rw [this] at h1; simp at h1; omega
    have := acP_in h hxF (o := at_ - x.f) (n := k) (by omega) (by omega)
    rw [show x.f + (at_ - x.f) = at_ by omega] at this
    rw [this]; rfl
  · intro hs
    obtain ⟨⟨y, o⟩, hy⟩ := Option.isSome_iff_exists.1 hs
    obtain ⟨a1, a2, a3, a4⟩ := acP_some h.sf hy
    exact ⟨y, (hM y).2 (.inl a1), ⟨by omega, by omega⟩, by omega⟩
/-- bytes laid from o on -/
def layL (d : List UInt8) (o : Nat) (b : List UInt8) : List UInt8 := d.take o ++ b ++ d.drop (o + b.length)
theorem layL_len (d : List UInt8) (o : Nat) (b : List UInt8) (h : o + b.length ≤ d.length) : (layL d o b).length = d.length := by
  simp only [layL, List.length_append, List.length_take, List.length_drop]
  rw [Nat.min_eq_left (by omega)]; omega
theorem layL_get (d : List UInt8) (o : Nat) (b : List UInt8) (h : o + b.length ≤ d.length) (j : Nat) : (layL d o b)[j]? = if o ≤ j ∧ j < o + b.length then b[j - o]? else d[j]? := by
  unfold layL
  by_cases h1 : j < o
  · rw [if_neg (by omega), List.append_assoc, List.getElem?_append_left (by rw [List.length_take]; omega), List.getElem?_take_of_lt h1]
  · by_cases h2 : j < o + b.length
    · rw [if_pos (by omega), List.append_assoc, List.getElem?_append_right (by rw [List.length_take]; omega), List.length_take, Nat.min_eq_left (by omega), List.getElem?_append_left (by omega)]
    · rw [if_neg (by omega), List.getElem?_append_right (by rw [List.length_append, List.length_take]; omega), List.length_append, List.length_take, Nat.min_eq_left (by omega), List.getElem?_drop]
      congr 1; omega
theorem layL_in (d : List UInt8) (o : Nat) (b : List UInt8) (h : o + b.length ≤ d.length) : ((layL d o b).drop o).take b.length = b := by
  unfold layL
  rw [List.append_assoc, List.drop_append_of_le_length (by rw [List.length_take]; omega), List.drop_eq_nil_of_le (by rw [List.length_take]; omega), List.nil_append, List.take_append_of_le_length (by omega), List.take_of_length_le (by omega)]
/-- one region's bytes are others -/
def updR (f : Nat) (d : List UInt8) (z : Rg) : Rg := if z.f = f then { z with d := d } else z
theorem updR_f (f : Nat) (d : List UInt8) (z : Rg) : (updR f d z).f = z.f := by unfold updR; split <;> rfl
theorem updR_len {f : Nat} {d : List UInt8} {z : Rg} (h : z.f = f → d.length = z.d.length) : (updR f d z).d.length = z.d.length := by
  unfold updR
  split
  · rename_i e; exact h e
  · rfl
theorem upF_map {F : List Rg} {φ : Rg → Rg} (h : ∀ x, (φ x).f = x.f) (at_ : Nat) : upF (F.map φ) at_ = (upF F at_).map φ := by
  unfold upF
  rw [List.filter_map, List.getLast?_map]
  congr 3
  funext x
  simp [h x]
theorem srt_map {F : List Rg} {φ : Rg → Rg} (h : ∀ x, (φ x).f = x.f) (hs : Srt F) : Srt (F.map φ) := List.pairwise_map.2 (hs.imp (fun {a b} hab => by rw [h a, h b]; exact hab))
theorem SpOk.upd {F E : List Rg} (h : SpOk F E) (f : Nat) (d : List UInt8) (hd : ∀ x ∈ F, x.f = f → d.length = x.d.length) : SpOk (F.map (updR f d)) E := by
  have hl : ∀ x ∈ F, (updR f d x).d.length = x.d.length := fun x hx => updR_len (hd x hx)
  refine ⟨srt_map (updR_f f d) h.sf, h.se, fun x hx => ?_, List.pairwise_map.2 (h.ap.imp_of_mem (fun {a b} ha hb hab => by rw [updR_f, updR_f, hl a ha]; exact hab)), h.ed, fun x hx y hy => ?_⟩
  · obtain ⟨z, hz, rfl⟩ := List.mem_map.1 hx
    rw [updR_f, hl z hz]; exact h.fd z hz
  · obtain ⟨z, hz, rfl⟩ := List.mem_map.1 hx
    rw [updR_f]; exact h.ne z hz y hy
theorem acP_upd {F E : List Rg} (h : SpOk F E) (f : Nat) (d : List UInt8) (hd : ∀ x ∈ F, x.f = f → d.length = x.d.length) (at_ n : Nat) : acP (F.map (updR f d)) at_ n = (acP F at_ n).map (fun p => (updR f d p.1, p.2)) := by
  unfold acP
  rw [upF_map (updR_f f d)]
  rcases upF_hit h.sf at_ with ⟨z, hu, hz, _⟩ | ⟨hu, _⟩
  · rw [hu]
    simp only [Option.map_some]
    rw [updR_f, updR_len (hd z hz)]
    split <;> rfl
  · rw [hu]; rfl
end Go.Proofs.YtekjfbmebekmeaaGreat
