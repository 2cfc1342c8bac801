import Derived.Test.YtcpfnhhjmmngdabDoorFd
namespace Go.Proofs.YtcpfnhhjmmngdabDoor
open Go.RowKit
set_option linter.unusedVariables false
set_option linter.unusedSimpArgs false
def isBl (b : UInt8) : Bool := b == 32 || b == 9 || b == 13
theorem bl_kind {b : UInt8} (h : isBl b = true) : kindP (bI b) = 1 ∧ runU b = false ∧ ¬ b = 10 := by
  simp only [isBl, Bool.or_eq_true, beq_iff_eq] at h
  rcases h with (rfl | rfl) | rfl <;> decide
theorem scan_bl (b : UInt8) (y : List UInt8) (h : isBl b = true) : scanD (b :: y) = scanD y := by
  have hp : pieceP (b :: y) = (0, none, 1) := by rw [piece_cons, if_pos (bl_kind h).1]
  rw [scanD_ok b y (by rw [hp]), hp]
  simp
theorem scan_bls : ∀ (bl y : List UInt8), bl.all isBl = true → scanD (bl ++ y) = scanD y
  | [], y, _ => rfl
  | b :: bl, y, h => by
    rw [List.all_cons, Bool.and_eq_true] at h
    rw [List.cons_append, scan_bl b _ h.1, scan_bls bl y h.2]
/-- a comment, or none -/
def Com (c : List UInt8) : Prop := c = [] ∨ ∃ p, ¬ p = 10 ∧ c = [59, p, 120]
theorem com_scan {c : List UInt8} (h : Com c) : scanD c = (0, []) := by
  rcases h with rfl | ⟨p, _, rfl⟩
  · rfl
  · have hp : pieceP [59, p, 120] = (0, none, 3) := by
      rw [piece_cons]
      have h1 : ¬ kindP (bI 59) = 1 := by decide
      have h2 : kindP (bI 59) = 2 := by decide
      rw [if_neg h1, if_pos h2]
      rfl
    rw [scanD_ok 59 [p, 120] (by rw [hp]), hp]
    rfl
theorem com_stop {c : List UInt8} (h : Com c) : Stop c := by
  rcases h with rfl | ⟨p, _, rfl⟩
  · exact .inl rfl
  · exact .inr ⟨59, _, rfl, by decide⟩
theorem com_lf {c : List UInt8} (h : Com c) : c.all (fun b => !(b == 10)) = true := by
  rcases h with rfl | ⟨p, hp, rfl⟩
  · rfl
  · simp [hp]
/-- tokens written with other blanks, and comments -/
inductive Bf : List Tk → List UInt8 → Prop
  | nil : Bf [] []
  | piece (x : Tk) (r : List Tk) (bl O : List UInt8) (hk : isPiece x) (hm : mayP x = 0) (hb : bl.all isBl = true) (hne : ¬ bl = []) (h : Bf r O) : Bf (x :: r) (bl ++ pieceOf x ++ O)
  | line (x : Tk) (r : List Tk) (com O : List UInt8) (hk : x.k = 5) (hm : mayP x = 0) (hc : Com com) (h : Bf r O) : Bf (x :: r) (com ++ 10 :: O)
theorem Bf.append {a b : List Tk} {O P : List UInt8} (h : Bf a O) (k : Bf b P) : Bf (a ++ b) (O ++ P) := by
  induction h with
  | nil => exact k
  | piece x r bl O hk hm hb hne h ih =>
    have := Bf.piece x (r ++ b) bl (O ++ P) hk hm hb hne ih
    rw [List.append_assoc]
    exact this
  | line x r com O hk hm hc h ih =>
    have := Bf.line x (r ++ b) com (O ++ P) hk hm hc ih
    rw [List.append_assoc]
    exact this
theorem lastK_cons5 {x : Tk} {r : List Tk} (hk : ¬ x.k = 5) (h : lastK (x :: r) = some 5) : lastK r = some 5 := by
  unfold lastK at h ⊢
  cases r with
  | nil => simp at h; exact absurd h hk
  | cons y r => rw [List.getLast?_cons_cons] at h; exact h
theorem lastK_line {x : Tk} {r : List Tk} (h : lastK (x :: r) = some 5) : r = [] ∨ lastK r = some 5 := by
  cases r with
  | nil => exact .inl rfl
  | cons y r => unfold lastK at h ⊢; rw [List.getLast?_cons_cons] at h; exact .inr h
theorem bl_text {T : List Tk} {O : List UInt8} (h : Bf T O) : ∀ (n : Nat) (c : List UInt8) (D : List (Int × List UInt8 × Int)), Lb c D → (T = [] ∧ c = [] ∨ lastK T = some 5) → NumsOk T →
    (textD n (c ++ O)).1 = 51 ∨ ∃ (m : Nat) (S : List Tk), textD n (c ++ O) = (0, m, S) ∧ S.map Tk.rw = D ++ T.map Tk.rw := by
  induction h with
  | nil =>
    intro n c D hl hT _
    rcases hT with ⟨_, rfl⟩ | hT
    · rw [hl.em rfl]
      exact .inr ⟨n, [], rfl, rfl⟩
    · simp [lastK] at hT
  | piece x r bl O hk hm hb hne h ih =>
    intro n c D hl hT hn
    have hnx := hn x (by simp)
    have hx5 : ¬ x.k = 5 := by unfold isPiece at hk; omega
    have hlast : lastK r = some 5 := lastK_cons5 hx5 (hT.resolve_left (fun h => by simp at h))
    obtain ⟨p1, p2, p3⟩ := may_piece hm hk ⟨hnx.1, hnx.2.1⟩
    obtain ⟨b0, bl', rfl⟩ : ∃ b0 bl', bl = b0 :: bl' := by cases bl with | nil => exact absurd rfl hne | cons b l => exact ⟨b, l, rfl⟩
    have hb0 : isBl b0 = true := by rw [List.all_cons, Bool.and_eq_true] at hb; exact hb.1
    have hblf : (b0 :: bl').all (fun b => !(b == 10)) = true := by
      rw [List.all_eq_true] at hb ⊢
      intro b hbm
      have := (bl_kind (hb b hbm)).2.2
      simpa using this
    have hl' : Lb (c ++ (b0 :: bl') ++ pieceOf x) (D ++ [x.rw]) := by
      refine ⟨by rw [List.all_append, List.all_append, hl.lf, hblf, p2]; rfl, fun h0 => absurd (List.append_eq_nil_iff.1 h0).2 p1, fun e he => ?_⟩
      have h1 := scan_piece p1 (p3 e he)
      have h2 := hl.sc ((b0 :: bl') ++ (pieceOf x ++ e)) (.inr ⟨b0, _, rfl, (bl_kind hb0).2.1⟩)
      rw [scan_bls _ _ hb, h1] at h2
      rw [List.append_assoc, List.append_assoc, h2]
      simp
    have := ih n (c ++ (b0 :: bl') ++ pieceOf x) (D ++ [x.rw]) hl' (.inr hlast) (fun y hy => hn y (by simp [hy]))
    rw [show c ++ ((b0 :: bl') ++ pieceOf x ++ O) = c ++ (b0 :: bl') ++ pieceOf x ++ O by simp [List.append_assoc]]
    rcases this with h51 | ⟨m, S, e1, e2⟩
    · exact .inl h51
    · exact .inr ⟨m, S, e1, by rw [e2]; simp⟩
  | line x r com O hk hm hc h ih =>
    intro n c D hl hT hn
    have hlf : (c ++ com).all (fun b => !(b == 10)) = true := by rw [List.all_append, hl.lf, com_lf hc]; rfl
    have hcut := cut_at (y := O) hlf
    have e0 : c ++ (com ++ 10 :: O) = c ++ com ++ 10 :: O := by simp
    rw [e0]
    have hs := hl.sc com (com_stop hc)
    rw [com_scan hc, List.append_nil] at hs
    have hne : ¬ c ++ com ++ 10 :: O = [] := by simp
    by_cases h1024 : (c ++ com).length ≤ 1024
    · have hlp : lineP (c ++ com) = (0, D) := by unfold lineP; rw [if_pos h1024]; exact hs
      have ht := textD_ok n (c ++ com ++ 10 :: O) hne (by rw [hcut]; simp only; rw [hlp])
      rw [hcut] at ht
      simp only at ht
      rw [hlp] at ht
      have hT' : r = [] ∧ ([] : List UInt8) = [] ∨ lastK r = some 5 := by
        rcases hT with ⟨h0, _⟩ | hT
        · simp at h0
        · rcases lastK_line hT with h0 | h0
          · exact .inl ⟨h0, rfl⟩
          · exact .inr h0
      have := ih (n + 1) [] [] Lb.nil hT' (fun y hy => hn y (by simp [hy]))
      simp only [List.nil_append] at this
      rcases this with h51 | ⟨m, S, e1, e2⟩
      · exact .inl (by rw [ht]; exact h51)
      · rw [e1] at ht
        refine .inr ⟨m, _, ht, ?_⟩
        have hD : (D.map (mkT (n + 1))).map Tk.rw = D := by
          rw [List.map_map]
          conv => rhs; rw [← List.map_id D]
          exact List.map_congr_left fun a _ => rfl
        simp only [List.map_append, List.map_cons, List.map_nil, List.append_assoc]
        rw [hD, e2, may_plain hm (.inl hk), hk]
        rfl
    · have hlp : lineP (c ++ com) = (51, []) := by unfold lineP; rw [if_neg h1024]
      have ht := textD_bad n (c ++ com ++ 10 :: O) hne (by rw [hcut]; simp only; rw [hlp]; decide)
      rw [hcut] at ht
      simp only at ht
      exact .inl (by rw [ht, hlp])
/-- what Tokens gives, but for the end -/
theorem text_mem : ∀ (f n : Nat) (l : List UInt8) (m : Nat) (T : List Tk), l.length ≤ f → textF f n l = (0, m, T) → (∀ x ∈ T, mayP x = 0 ∧ (isPiece x ∨ x.k = 5)) ∧ (T = [] ∨ lastK T = some 5)
  | 0, n, l, m, T, hl, h => by
    simp [textF] at h
    obtain ⟨rfl, rfl⟩ := h
    exact ⟨fun x hx => absurd hx (by simp), .inl rfl⟩
  | f + 1, n, [], m, T, hl, h => by
    simp [textF] at h
    obtain ⟨rfl, rfl⟩ := h
    exact ⟨fun x hx => absurd hx (by simp), .inl rfl⟩
  | f + 1, n, c :: r, m, T, hl, h => by
    unfold textF at h
    by_cases hz : (lineP (cutL (c :: r)).1).1 = 0
    · rw [if_pos hz] at h
      simp only [Prod.mk.injEq] at h
      obtain ⟨h1, h2, h3⟩ := h
      have hc := (cutL_len (c :: r) (by simp)).2
      simp only [List.length_cons] at hl hc
      have ih := text_mem f (n + 1) (cutL (c :: r)).2 m (textF f (n + 1) (cutL (c :: r)).2).2.2 (by omega) (by rw [← h1, ← h2])
      rw [← h3]
      constructor
      · intro x hx
        rw [List.mem_append, List.mem_map] at hx
        rcases hx with ⟨q, hq, rfl⟩ | hx
        · rw [List.mem_append] at hq
          rcases hq with hq | hq
          · refine ⟨(line_may _ q (n + 1) hq).1, .inl ?_⟩
            have := line_kind _ q hq
            show q.1 = 1 ∨ q.1 = 2 ∨ q.1 = 4 ∨ q.1 = 3
            omega
          · simp at hq; subst hq
            exact ⟨rfl, .inr rfl⟩
        · exact ih.1 x hx
      · right
        rcases ih.2 with h0 | h0
        · rw [h0, List.append_nil, List.map_append]
          simp [lastK, mkT]
        · unfold lastK at h0 ⊢
          rw [List.getLast?_append]
          cases hg : (textF f (n + 1) (cutL (c :: r)).2).2.2.getLast? with
          | none => rw [hg] at h0; simp at h0
          | some y => rw [hg] at h0; simpa using h0
    · rw [if_neg hz] at h
      simp only [Prod.mk.injEq] at h
      exact absurd h.1 hz
end Go.Proofs.YtcpfnhhjmmngdabDoor
