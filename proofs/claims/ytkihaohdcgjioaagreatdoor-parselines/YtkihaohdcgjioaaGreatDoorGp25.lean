import Derived.Test.YtkihaohdcgjioaaGreatDoorGp24
namespace Go.Proofs.YtkihaohdcgjioaaGreatDoor.Lx
open Go.RowKit
set_option linter.unusedVariables false
set_option linter.unusedSimpArgs false
def pieceOf (x : Tk) : List UInt8 := if x.k = 3 then Lib.decDigits x.n.toNat else x.t
def isPiece (x : Tk) : Prop := x.k = 1 ∨ x.k = 2 ∨ x.k = 4 ∨ x.k = 3
def isPieceB (x : Tk) : Bool := decide (x.k = 1 ∨ x.k = 2 ∨ x.k = 4 ∨ x.k = 3)
theorem piece_iff {x : Tk} : isPieceB x = true ↔ isPiece x := by unfold isPieceB isPiece; rw [decide_eq_true_eq]
theorem piece_no {x : Tk} (h : ¬ isPiece x) : ¬ isPieceB x = true := fun e => h (piece_iff.1 e)
def sepOf (ln : Nat) : List UInt8 := if 0 < ln then [32] else []
/-- the text that tokens make behind a line's beginning of that length -/
def txt : Nat → List Tk → List UInt8
  | _, [] => []
  | ln, x :: r => if isPieceB x = true then sepOf ln ++ pieceOf x ++ txt (ln + (sepOf ln).length + (pieceOf x).length) r else if x.k = 5 then 10 :: txt 0 r else txt ln r
theorem tok_piece {x : Tk} (h : isPiece x) (s : WS) : s.tok x = s.piece (pieceOf x) := by
  unfold WS.tok pieceOf
  rcases h with h | h | h | h
  · rw [if_pos (.inl h), if_neg (by omega)]
  · rw [if_pos (.inr (.inl h)), if_neg (by omega)]
  · rw [if_pos (.inr (.inr h)), if_neg (by omega)]
  · rw [if_neg (by omega), if_pos h, if_pos h]
theorem tok_line {x : Tk} (h : x.k = 5) (s : WS) : s.tok x = ⟨(s.put [10]).l, (s.put [10]).size, 0⟩ := by
  unfold WS.tok
  rw [if_neg (by omega), if_neg (by omega), if_pos h]
theorem tok_end {x : Tk} (h : x.k = 0) (s : WS) : s.tok x = s := by
  unfold WS.tok
  rw [if_neg (by omega), if_neg (by omega), if_neg (by omega)]
theorem piece_size (s : WS) (t : List UInt8) : (s.piece t).size = s.size + (sepOf s.line).length + t.length ∧ (s.piece t).line = s.line + (sepOf s.line).length + t.length := by
  unfold WS.piece sepOf
  split <;> simp [WS.put]
theorem put_full (s : WS) (t : List UInt8) (h : s.l.length = s.size) (hs : (s.put t).size ≤ 16777216) : (s.put t).l = s.l ++ t ∧ (s.put t).l.length = (s.put t).size := by
  have h1 : s.size + t.length ≤ 16777216 := hs
  have e : (s.put t).l = s.l ++ t := by unfold WS.put; simp only; rw [if_pos h1]
  exact ⟨e, by rw [e, List.length_append, h]; rfl⟩
theorem piece_full (s : WS) (t : List UInt8) (h : s.l.length = s.size) (hs : (s.piece t).size ≤ 16777216) : (s.piece t).l = s.l ++ sepOf s.line ++ t ∧ (s.piece t).l.length = (s.piece t).size := by
  unfold WS.piece sepOf at *
  split
  · rename_i h0
    rw [if_pos h0] at hs
    have h1 := put_full s [32] h (by simp [WS.put] at hs ⊢; omega)
    have h2 := put_full (s.put [32]) t h1.2 hs
    exact ⟨by rw [h2.1, h1.1], h2.2⟩
  · rename_i h0
    rw [if_neg h0] at hs
    have h2 := put_full s t h hs
    exact ⟨by rw [h2.1]; simp, h2.2⟩
theorem may_kind {x : Tk} (h : mayP x = 0) : isPiece x ∨ x.k = 5 ∨ x.k = 0 := by
  unfold mayP at h
  unfold isPiece
  by_cases k1 : x.k = 1
  · exact .inl (.inl k1)
  by_cases k2 : x.k = 2
  · exact .inl (.inr (.inl k2))
  by_cases k3 : x.k = 3
  · exact .inl (.inr (.inr (.inr k3)))
  by_cases k4 : x.k = 4
  · exact .inl (.inr (.inr (.inl k4)))
  by_cases k5 : x.k = 5 ∨ x.k = 0
  · exact .inr k5
  · rw [if_neg k1, if_neg k2, if_neg k3, if_neg k4, if_neg k5] at h; cases h
/-- one step of Untoken's loop that goes on -/
theorem un_step {ok : Bool} {s s' : WS} {x : Tk} {r : List Tk} (h : unF ok s (x :: r) = (0, s')) : mayP x = 0 ∧ (x.k = 0 → r = [] ∧ ok = true) ∧ (x.k = 5 → s.line ≤ 1024) ∧ unF (decide (x.k = 5)) (s.tok x) r = (0, s') := by
  have e : unF ok s (x :: r) = (if mayP x = 0 then (if x.k = 0 ∧ ¬ (r = [] ∧ ok = true) then (52, s) else if x.k = 5 ∧ 1024 < s.line then (51, s) else unF (decide (x.k = 5)) (s.tok x) r) else (mayP x, s)) := rfl
  rw [e] at h
  by_cases hm : mayP x = 0
  · rw [if_pos hm] at h
    by_cases h0 : x.k = 0 ∧ ¬ (r = [] ∧ ok = true)
    · rw [if_pos h0] at h; simp at h
    · rw [if_neg h0] at h
      by_cases h5 : x.k = 5 ∧ 1024 < s.line
      · rw [if_pos h5] at h; simp at h
      · rw [if_neg h5] at h
        exact ⟨hm, fun k0 => Decidable.byContradiction fun hc => h0 ⟨k0, hc⟩, fun k5 => by
          by_cases hl : 1024 < s.line
          · exact absurd ⟨k5, hl⟩ h5
          · omega, h⟩
  · rw [if_neg hm] at h
    simp at h
    exact absurd h.1 hm
theorem un_mono : ∀ (ts : List Tk) (ok : Bool) (s s' : WS), unF ok s ts = (0, s') → s.size ≤ s'.size
  | [], ok, s, s', h => by
    have : s = s' := by simpa [unF] using h
    rw [this]; exact Nat.le_refl _
  | x :: r, ok, s, s', h => by
    obtain ⟨hm, _, _, h2⟩ := un_step h
    have h3 := un_mono r _ _ _ h2
    rcases may_kind hm with hk | hk | hk
    · rw [tok_piece hk] at h3
      have := (piece_size s (pieceOf x)).1
      omega
    · rw [tok_line hk] at h3
      simp [WS.put] at h3
      omega
    · rw [tok_end hk] at h3; exact h3
theorem un_text : ∀ (ts : List Tk) (ok : Bool) (s s' : WS), unF ok s ts = (0, s') → s.l.length = s.size → s'.size ≤ 16777216 → s'.l = s.l ++ txt s.line ts
  | [], ok, s, s', h, _, _ => by
    have : s = s' := by simpa [unF] using h
    rw [this]; simp [txt]
  | x :: r, ok, s, s', h, hf, hs => by
    obtain ⟨hm, _, _, h2⟩ := un_step h
    have h3 := un_mono r _ _ _ h2
    rcases may_kind hm with hk | hk | hk
    · rw [tok_piece hk] at h2 h3
      have hp := piece_full s (pieceOf x) hf (by omega)
      have := un_text r _ _ _ h2 hp.2 hs
      rw [this, hp.1, (piece_size s (pieceOf x)).2]
      show _ = s.l ++ (if isPieceB x = true then _ else _)
      rw [if_pos (piece_iff.2 hk)]
      simp [List.append_assoc]
    · rw [tok_line hk] at h2 h3
      have hp := put_full s [10] hf (by simp only at h3; omega)
      have := un_text r _ _ _ h2 hp.2 hs
      rw [this]
      simp only
      rw [hp.1]
      show _ = s.l ++ (if isPieceB x = true then _ else _)
      rw [if_neg (piece_no (by unfold isPiece; omega)), if_pos hk]
      simp
    · rw [tok_end hk] at h2
      have := un_text r _ _ _ h2 hf hs
      rw [this]
      show _ = s.l ++ (if isPieceB x = true then _ else _)
      rw [if_neg (piece_no (by unfold isPiece; omega)), if_neg (by omega)]
/-- a line's beginning, with the tokens that it makes -/
structure Lb (c : List UInt8) (D : List (Int × List UInt8 × Int)) : Prop where
  lf : c.all (fun b => !(b == 10)) = true
  em : c = [] → D = []
  sc : ∀ e, Stop e → scanD (c ++ e) = ((scanD e).1, D ++ (scanD e).2)
theorem Lb.nil : Lb [] [] := ⟨rfl, fun _ => rfl, fun e _ => by simp⟩
theorem scan_blank (y : List UInt8) : scanD (32 :: y) = scanD y := by
  have hp : pieceP (32 :: y) = (0, none, 1) := by
    rw [piece_cons]
    have : kindP (bI 32) = 1 := by decide
    rw [if_pos this]
  rw [scanD_ok 32 y (by rw [hp]), hp]
  simp
theorem scan_piece {p e : List UInt8} {q : Int × List UInt8 × Int} (hne : ¬ p = []) (h : pieceP (p ++ e) = (0, some q, p.length)) : scanD (p ++ e) = ((scanD e).1, q :: (scanD e).2) := by
  cases p with
  | nil => exact absurd rfl hne
  | cons c r =>
    rw [List.cons_append] at h ⊢
    rw [scanD_ok c (r ++ e) (by rw [h]), h]
    simp only [Option.toList]
    have : (c :: (r ++ e)).drop (c :: r).length = e := by simp
    rw [this]
    rfl
theorem Lb.step {c : List UInt8} {D : List (Int × List UInt8 × Int)} {p : List UInt8} {q : Int × List UInt8 × Int} (h : Lb c D) (hne : ¬ p = []) (hlf : p.all (fun b => !(b == 10)) = true) (hp : ∀ e, Stop e → pieceP (p ++ e) = (0, some q, p.length)) : Lb (c ++ sepOf c.length ++ p) (D ++ [q]) := by
  have hs : (sepOf c.length).all (fun b => !(b == 10)) = true := by unfold sepOf; split <;> rfl
  refine ⟨by rw [List.all_append, List.all_append, h.lf, hs, hlf]; rfl, fun h0 => ?_, fun e he => ?_⟩
  · exact absurd (List.append_eq_nil_iff.1 h0).2 hne
  · have h1 := scan_piece hne (hp e he)
    by_cases hc : c = []
    · subst hc
      rw [h.em rfl]
      simp only [sepOf, List.length_nil, Nat.lt_irrefl, if_false, List.nil_append]
      rw [h1]
      simp
    · have hpos : 0 < c.length := List.length_pos_iff.2 hc
      have e1 : sepOf c.length = [32] := by unfold sepOf; rw [if_pos hpos]
      rw [e1, List.append_assoc, List.append_assoc]
      have h2 := h.sc ([32] ++ (p ++ e)) (.inr ⟨32, p ++ e, rfl, by decide⟩)
      rw [h2]
      show ((scanD (32 :: (p ++ e))).1, D ++ (scanD (32 :: (p ++ e))).2) = _
      rw [scan_blank, h1]
      simp
theorem may_piece {x : Tk} (h : mayP x = 0) (hk : isPiece x) (hn : 0 ≤ x.n ∧ x.n < 18446744073709551616) : ¬ pieceOf x = [] ∧ (pieceOf x).all (fun b => !(b == 10)) = true ∧ ∀ e, Stop e → pieceP (pieceOf x ++ e) = (0, some x.rw, (pieceOf x).length) := by
  have hrun : ∀ t : List UInt8, t.all runU = true → t.all (fun b => !(b == 10)) = true := fun t ht => by
    rw [List.all_eq_true] at ht ⊢
    intro b hb
    have := ht b hb
    by_cases hb10 : b = 10
    · subst hb10; revert this; decide
    · simpa using hb10
  have hx : x.rw = (x.k, x.t, x.n) := rfl
  unfold mayP at h
  unfold pieceOf
  rw [hx]
  rcases hk with k1 | k1 | k1 | k1
  · rw [if_pos k1] at h
    by_cases hw : wordP x.t = true
    · rw [if_pos hw] at h
      have hn0 : x.n = 0 := by by_cases e : x.n = 0; · exact e
                               · rw [if_neg e] at h; cases h
      obtain ⟨c, r, e, _, ha, _⟩ := word_start hw
      rw [if_neg (by omega), k1, hn0]
      exact ⟨by rw [e]; simp, hrun _ ha, fun e he => piece_word hw he⟩
    · rw [if_neg hw] at h; cases h
  · rw [if_neg (by omega), if_pos k1] at h
    by_cases hw : dotP x.t = true
    · rw [if_pos hw] at h
      have hn0 : x.n = 0 := by by_cases e : x.n = 0; · exact e
                               · rw [if_neg e] at h; cases h
      rw [if_neg (by omega), k1, hn0]
      have hw2 := hw
      simp only [dotP, Bool.and_eq_true] at hw2
      obtain ⟨c, r, e, _, ha, _⟩ := word_start hw2.2
      have ht : x.t = 46 :: Lib.trimPrefix x.t [46] := by
        have hp := hw2.1
        unfold Lib.trimPrefix
        rw [if_pos hp]
        unfold Lib.hasPrefix at hp
        cases hxt : x.t with
        | nil => rw [hxt] at hp; simp [List.isPrefixOf] at hp
        | cons c r => rw [hxt] at hp; simp [List.isPrefixOf] at hp; rw [hp]; rfl
      refine ⟨by rw [ht]; simp, ?_, fun e he => piece_dot hw he⟩
      rw [ht, List.all_cons, hrun _ ha]
      rfl
    · rw [if_neg hw] at h; cases h
  · rw [if_neg (by omega), if_neg (by omega), if_neg (by omega), if_pos k1] at h
    by_cases hw : markB x.t = true
    · rw [if_pos hw] at h
      have hn0 : x.n = 0 := by by_cases e : x.n = 0; · exact e
                               · rw [if_neg e] at h; cases h
      rw [if_neg (by omega), k1, hn0]
      have hw2 := hw
      unfold markB at hw2
      split at hw2
      · rename_i c hc
        rw [hc]
        refine ⟨by simp, ?_, fun e he => by rw [← hc]; exact piece_mark hw⟩
        have hk : kindP (bI c) = 7 := by simpa using hw2
        by_cases hb10 : c = 10
        · subst hb10; revert hk; decide
        · simp [hb10]
      · cases hw2
    · rw [if_neg hw] at h; cases h
  · rw [if_neg (by omega), if_neg (by omega), if_pos k1] at h
    have ht : x.t = [] := by by_cases e : x.t = []; · exact e
                             · rw [if_neg e] at h; cases h
    rw [if_pos k1, k1, ht]
    obtain ⟨u, hu⟩ : ∃ u : Nat, x.n = u := ⟨x.n.toNat, by omega⟩
    rw [hu, Int.toNat_natCast]
    obtain ⟨h1, _, c, l, h3, _⟩ := dd_all u
    refine ⟨by rw [h3]; simp, hrun _ ?_, fun e he => piece_num (by omega) he⟩
    rw [List.all_eq_true] at h1 ⊢
    exact fun x hx => dig_run (h1 x hx)
theorem may_plain {x : Tk} (h : mayP x = 0) (hk : x.k = 5 ∨ x.k = 0) : x.rw = (x.k, [], 0) := by
  unfold mayP at h
  rw [if_neg (by omega), if_neg (by omega), if_neg (by omega), if_neg (by omega), if_pos hk] at h
  by_cases ht : x.t = []
  · rw [if_pos ht] at h
    by_cases hn : x.n = 0
    · unfold Tk.rw; rw [ht, hn]
    · rw [if_neg hn] at h; cases h
  · rw [if_neg ht] at h; cases h
theorem cut_at {c y : List UInt8} (h : c.all (fun b => !(b == 10)) = true) : cutL (c ++ 10 :: y) = (c, y) := by
  unfold cutL
  have h1 : (c ++ 10 :: y).takeWhile (fun b => !(b == 10)) = c := by
    induction c with
    | nil => rfl
    | cons b c ih =>
      rw [List.all_cons, Bool.and_eq_true] at h
      rw [List.cons_append, List.takeWhile_cons, h.1]
      simp [ih h.2]
  have h2 : (c ++ 10 :: y).dropWhile (fun b => !(b == 10)) = 10 :: y := by
    clear h1
    induction c with
    | nil => rfl
    | cons b c ih =>
      rw [List.all_cons, Bool.and_eq_true] at h
      rw [List.cons_append, List.dropWhile_cons, h.1]
      simp [ih h.2]
  rw [h1, h2]
  rfl
theorem lastK_cons {x : Tk} {r : List Tk} (hk : ¬ x.k = 0) (h : lastK (x :: r) = some 0) : lastK r = some 0 := by
  unfold lastK at h ⊢
  cases r with
  | nil => simp at h; exact absurd h hk
  | cons y r => rw [List.getLast?_cons_cons] at h; exact h
/-- what Untoken writes reads as the tokens again -/
theorem back_F : ∀ (ts : List Tk) (n : Nat) (c : List UInt8) (D : List (Int × List UInt8 × Int)) (ok : Bool) (s s' : WS), unF ok s ts = (0, s') → lastK ts = some 0 → s.line = c.length → (ok = true → c = []) → Lb c D → NumsOk ts → ∃ (m : Nat) (T : List Tk), textD n (c ++ txt c.length ts) = (0, m, T) ∧ (T ++ [(⟨0, [], 0, (m : Int)⟩ : Tk)]).map Tk.rw = D ++ ts.map Tk.rw
  | [], n, c, D, ok, s, s', h, hl, _, _, _, _ => by simp [lastK] at hl
  | x :: r, n, c, D, ok, s, s', h, hl, hsl, hok, hlb, hn => by
    obtain ⟨hm, h0, h5, h2⟩ := un_step h
    have hnx := hn x (by simp)
    have hnr : NumsOk r := fun y hy => hn y (by simp [hy])
    have etx : txt c.length (x :: r) = (if isPieceB x = true then sepOf c.length ++ pieceOf x ++ txt (c.length + (sepOf c.length).length + (pieceOf x).length) r else if x.k = 5 then 10 :: txt 0 r else txt c.length r) := rfl
    rcases may_kind hm with hk | hk | hk
    · rw [if_pos (piece_iff.2 hk)] at etx
      have hx0 : ¬ x.k = 0 := by unfold isPiece at hk; omega
      have hx5 : ¬ x.k = 5 := by unfold isPiece at hk; omega
      obtain ⟨p1, p2, p3⟩ := may_piece hm hk ⟨hnx.1, hnx.2.1⟩
      have hlb' := hlb.step p1 p2 p3
      rw [tok_piece hk] at h2
      have ih := back_F r n (c ++ sepOf c.length ++ pieceOf x) (D ++ [x.rw]) _ _ s' h2 (lastK_cons hx0 hl) (by rw [(piece_size s _).2, hsl]; simp; omega) (fun e => by simp [hx5] at e) hlb' hnr
      obtain ⟨m, T, e1, e2⟩ := ih
      refine ⟨m, T, ?_, by rw [e2]; simp⟩
      rw [etx, ← e1]
      simp [List.append_assoc, Nat.add_assoc]
    · rw [if_neg (piece_no (by unfold isPiece; omega)), if_pos hk] at etx
      rw [tok_line hk] at h2
      have ih := back_F r (n + 1) [] [] true _ s' (by rw [show decide (x.k = 5) = true from decide_eq_true hk] at h2; exact h2) (lastK_cons (by omega) hl) rfl (fun _ => rfl) Lb.nil hnr
      obtain ⟨m, T, e1, e2⟩ := ih
      have hs := hlb.sc [] (.inl rfl)
      rw [List.append_nil, scanD_nil] at hs
      have hlp : lineP c = (0, D) := by unfold lineP; rw [if_pos (by have := h5 hk; omega), hs]; simp
      have hcut := cut_at (y := txt 0 r) hlb.lf
      rw [etx]
      have ht := textD_ok n (c ++ 10 :: txt 0 r) (by simp) (by rw [hcut]; simp only; rw [hlp])
      rw [hcut] at ht
      simp only at ht
      rw [hlp] at ht
      simp only [List.nil_append, List.length_nil] at e1
      rw [e1] at ht
      refine ⟨m, _, ht, ?_⟩
      simp only [List.map_append, List.append_assoc, List.map_cons, List.map_nil, List.nil_append] at e2 ⊢
      rw [e2]
      have hD : (D.map (mkT (n + 1))).map Tk.rw = D := by
        rw [List.map_map]
        conv => rhs; rw [← List.map_id D]
        exact List.map_congr_left fun a _ => rfl
      rw [hD, may_plain hm (.inl hk), hk]
      rfl
    · rw [if_neg (piece_no (by unfold isPiece; omega)), if_neg (by omega)] at etx
      obtain ⟨rfl, hokt⟩ := h0 hk
      have hc := hok hokt
      subst hc
      rw [hlb.em rfl, etx]
      refine ⟨n, [], rfl, ?_⟩
      simp only [List.nil_append, List.map_cons, List.map_nil]
      rw [may_plain hm (.inr hk), hk]
      rfl
/-- P5.3, plain: Tokens of Untoken -/
theorem back_P (ts : List Tk) (hn : NumsOk ts) (h : (untokP ts).2 = 0) : (untokP ts).1.length ≤ 16777216 ∧ (tokensP (untokP ts).1).2 = (0, 0) ∧ (tokensP (untokP ts).1).1.map Tk.rw = ts.map Tk.rw := by
  unfold untokP at h ⊢
  obtain ⟨E, s, hs⟩ : ∃ E s, unF true ⟨[], 0, 0⟩ ts = (E, s) := ⟨_, _, rfl⟩
  rw [hs] at h ⊢
  simp only at h ⊢
  by_cases hE : E = 0
  · subst hE
    rw [if_pos rfl] at h ⊢
    by_cases hl : lastK ts = some 0
    · rw [if_pos hl] at h ⊢
      by_cases h24 : s.size ≤ 16777216
      · rw [if_pos h24] at h ⊢
        simp only
        have ht := un_text ts true ⟨[], 0, 0⟩ s hs rfl h24
        simp only [List.nil_append] at ht
        obtain ⟨m, T, e1, e2⟩ := back_F ts 0 [] [] true _ s hs hl rfl (fun _ => rfl) Lb.nil hn
        simp only [List.nil_append, List.length_nil] at e1 e2
        rw [← ht] at e1
        have hOk : s.l.length ≤ 16777216 := by
          have : ∀ (ts : List Tk) (ok : Bool) (a b : WS), unF ok a ts = (0, b) → a.l.length ≤ a.size → a.l.length ≤ 16777216 → b.l.length ≤ 16777216 := fun ts => by
            induction ts with
            | nil => intro ok a b h _ h2; have : a = b := by simpa [unF] using h
                     rw [← this]; exact h2
            | cons x r ih =>
              intro ok a b h h1 h2
              obtain ⟨hm, _, _, h3⟩ := un_step h
              refine ih _ _ _ h3 ?_ ?_
              · rcases may_kind hm with hk | hk | hk
                · rw [tok_piece hk]; unfold WS.piece; split
                  · exact (put_len _ _ (put_len _ _ h2 h1).1 (put_len _ _ h2 h1).2).2
                  · exact (put_len _ _ h2 h1).2
                · rw [tok_line hk]; exact (put_len _ _ h2 h1).2
                · rw [tok_end hk]; exact h1
              · rcases may_kind hm with hk | hk | hk
                · rw [tok_piece hk]; unfold WS.piece; split
                  · exact (put_len _ _ (put_len _ _ h2 h1).1 (put_len _ _ h2 h1).2).1
                  · exact (put_len _ _ h2 h1).1
                · rw [tok_line hk]; exact (put_len _ _ h2 h1).1
                · rw [tok_end hk]; exact h2
          exact this ts true _ _ hs (by simp) (by simp)
        have hT : tokensP s.l = (T ++ [⟨0, [], 0, (m : Int)⟩], 0, 0) := by
          unfold tokensP
          rw [if_pos hOk, e1, if_pos rfl]
        rw [hT]
        exact ⟨hOk, rfl, e2⟩
      · rw [if_neg h24] at h; simp at h
    · rw [if_neg hl] at h; simp at h
  · rw [if_neg hE] at h; exact absurd h hE
end Go.Proofs.YtkihaohdcgjioaaGreatDoor.Lx
