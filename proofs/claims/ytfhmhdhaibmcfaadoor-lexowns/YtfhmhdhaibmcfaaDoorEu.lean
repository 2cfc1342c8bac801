import Derived.Test.YtfhmhdhaibmcfaaDoorEt
import Derived.Test.YtfhmhdhaibmcfaaDoorEr
namespace Go.Proofs.YtfhmhdhaibmcfaaDoor
open Go.RowKit
set_option linter.unusedVariables false
set_option linter.unusedSimpArgs false
theorem dd_big {u : Nat} (h : ¬ u < 10) : Lib.decDigits u = Lib.decDigits (u / 10) ++ [UInt8.ofNat (48 + u % 10)] := by rw [Lib.decDigits, dif_neg h]
theorem dd_len : ∀ (k u : Nat), u < 10 ^ (k + 1) → (Lib.decDigits u).length ≤ k + 1
  | 0, u, h => by rw [dd_small (by omega)]; simp
  | k + 1, u, h => by
    by_cases hu : u < 10
    · rw [dd_small hu]; simp
    · rw [dd_big hu, List.length_append]
      have := dd_len k (u / 10) (by rw [Nat.pow_succ] at h; omega)
      simp; omega
/-- tokens at an address -/
def TksAt (w : World) (a : Option Addr) (ts : List Tk) : Prop := ts = [] ∨ ∃ b off, a = some ⟨b, off, none⟩ ∧ ∀ k x, ts[k]? = some x → w.cell? ⟨b, off + k * 4, none⟩ = some (.int .i64 x.k) ∧ w.cell? ⟨b, off + k * 4 + 1, none⟩ = some (.string ⟨x.t.toArray⟩) ∧ w.cell? ⟨b, off + k * 4 + 2, none⟩ = some (.int .u64 x.n) ∧ w.cell? ⟨b, off + k * 4 + 3, none⟩ = some (.int .i64 x.l)
theorem TksAt.out {w w' : World} {a : Option Addr} {ts : List Tk} (h : TksAt w a ts) (o : Out w w') : TksAt w' a ts := by
  rcases h with h | ⟨b, off, ha, hc⟩
  · exact .inl h
  · exact .inr ⟨b, off, ha, fun k x hx => ⟨cell_later o (hc k x hx).1, cell_later o (hc k x hx).2.1, cell_later o (hc k x hx).2.2.1, cell_later o (hc k x hx).2.2.2⟩⟩
def okAt (ts : List Tk) (k : Nat) : Bool := decide (k = 0) || (match ts[k - 1]? with | some y => decide (y.k = 5) | none => false)
def endsP (ts : List Tk) (k : Nat) : Bool := decide (k + 1 = ts.length) && okAt ts k
set_option maxHeartbeats 1000000 in
theorem endsAt_any (w : World) (a : Option Addr) (cap : Nat) (ts : List Tk) (h : TksAt w a ts) (hl : ts.length ≤ 4611686018427387904) (k : Nat) (hk : k < ts.length) :
    Calls Tryd.prog 35 #[.slice a ts.length cap, .int .i64 (k : Int)] w fun e w' => e = .returned (.bool (endsP ts k)) ∧ w = w' := by
  obtain ⟨b, off, rfl, hc⟩ : ∃ b off, a = some ⟨b, off, none⟩ ∧ ∀ k x, ts[k]? = some x → w.cell? ⟨b, off + k * 4, none⟩ = some (.int .i64 x.k) ∧ w.cell? ⟨b, off + k * 4 + 1, none⟩ = some (.string ⟨x.t.toArray⟩) ∧ w.cell? ⟨b, off + k * 4 + 2, none⟩ = some (.int .u64 x.n) ∧ w.cell? ⟨b, off + k * 4 + 3, none⟩ = some (.int .i64 x.l) := by
    rcases h with rfl | h
    · simp at hk
    · exact h
  have hkl : (k : Int) < ts.length := by omega
  by_cases h1 : k + 1 = ts.length
  · have h1' : ((k : Int) == (ts.length : Int) - 1) = true := by simp; omega
    by_cases h0 : k = 0
    · subst h0
      have hE : endsP ts 0 = true := by simp [endsP, okAt, h1]
      rw [hE]
      have h1'' : ((0 : Int) == (ts.length : Int) - 1) = true := by simpa using h1'
      clear hc h1'
      go_enter Tryd.func35, Tryd.ntmps35
      rw [show ((0 : Nat) : Int) = 0 from rfl]
      go_wp2
      go_ret
      exact ⟨rfl, rfl⟩
    · obtain ⟨j, rfl⟩ : ∃ j, k = j + 1 := ⟨k - 1, by omega⟩
      obtain ⟨y, hy⟩ : ∃ y, ts[j]? = some y := ⟨_, List.getElem?_eq_getElem (by omega)⟩
      have q0 := (hc j y hy).1
      have hE : endsP ts (j + 1) = decide (y.k = 5) := by simp [endsP, okAt, h1, hy]
      rw [hE]
      have hlen : ts.length = j + 2 := by omega
      have hjb : (j : Int) ≤ 4611686018427387904 := by omega
      rw [hlen]
      generalize y.k = yk at *
      clear hc hkl h1 h1' hk hE hy h h0 hlen hl
      go_enter Tryd.func35, Tryd.ntmps35
      go_wp2
      all_goals (go_ret; refine ret_bool ?_; have e1 : ((j : Int) + 2 - 1 == 0) = false := by simp only [beq_eq_false_iff_ne]; omega
                 rw [e1, Bool.false_or]; rfl)
  · have h1' : ((k : Int) == (ts.length : Int) - 1) = false := by simp; omega
    have hE : endsP ts k = false := by simp [endsP, h1]
    rw [hE]
    clear hc
    go_enter Tryd.func35, Tryd.ntmps35
    go_wp2
    go_ret
    exact ⟨rfl, rfl⟩
/-- the loop of Untoken -/
def unF (ok : Bool) (s : WS) : List Tk → Int × WS
  | [] => (0, s)
  | x :: r =>
    if mayP x = 0 then
      (if x.k = 0 ∧ ¬ (r = [] ∧ ok = true) then (52, s) else if x.k = 5 ∧ 1024 < s.line then (51, s) else unF (decide (x.k = 5)) (s.tok x) r)
    else (mayP x, s)
def lastK (ts : List Tk) : Option Int := ts.getLast?.map (·.k)
def untokP (ts : List Tk) : List UInt8 × Int :=
  if (unF true ⟨[], 0, 0⟩ ts).1 = 0 then (if lastK ts = some 0 then (if (unF true ⟨[], 0, 0⟩ ts).2.size ≤ 16777216 then ((unF true ⟨[], 0, 0⟩ ts).2.l, 0) else ([], 50)) else ([], 52)) else ([], (unF true ⟨[], 0, 0⟩ ts).1)
theorem word_len {t : List UInt8} (h : wordP t = true) : t.length ≤ 64 := by
  simp only [wordP, Bool.and_eq_true, decide_eq_true_eq] at h
  exact h.1.1
theorem may_len {x : Tk} (h : mayP x = 0) : x.t.length ≤ 65 := by
  unfold mayP at h
  by_cases k1 : x.k = 1
  · rw [if_pos k1] at h
    by_cases hw : wordP x.t = true
    · have := word_len hw; omega
    · rw [if_neg hw] at h; cases h
  rw [if_neg k1] at h
  by_cases k2 : x.k = 2
  · rw [if_pos k2] at h
    by_cases hw : dotP x.t = true
    · simp only [dotP, Bool.and_eq_true] at hw
      have h1 := word_len hw.2
      unfold Lib.trimPrefix at h1
      rw [if_pos hw.1, List.length_drop] at h1
      simp at h1; omega
    · rw [if_neg hw] at h; cases h
  rw [if_neg k2] at h
  by_cases k3 : x.k = 3
  · rw [if_pos k3] at h
    by_cases ht : x.t = []
    · rw [ht]; simp
    · rw [if_neg ht] at h; cases h
  rw [if_neg k3] at h
  by_cases k4 : x.k = 4
  · rw [if_pos k4] at h
    by_cases hw : markB x.t = true
    · unfold markB at hw
      split at hw
      · rename_i c hc; rw [hc]; simp
      · cases hw
    · rw [if_neg hw] at h; cases h
  rw [if_neg k4] at h
  by_cases k5 : x.k = 5 ∨ x.k = 0
  · rw [if_pos k5] at h
    by_cases ht : x.t = []
    · rw [ht]; simp
    · rw [if_neg ht] at h; cases h
  · rw [if_neg k5] at h; cases h
/-- what the writer keeps to -/
structure WS.Ok (s : WS) : Prop where
  l24 : s.l.length ≤ 16777216
  ls : s.l.length ≤ s.size
  li : s.line ≤ s.size
theorem WS.Ok.put {s : WS} (h : s.Ok) (t : List UInt8) : (s.put t).Ok := ⟨(put_len s t h.l24 h.ls).1, (put_len s t h.l24 h.ls).2, by have := h.li; show s.line + t.length ≤ s.size + t.length; omega⟩
theorem WS.Ok.piece {s : WS} (h : s.Ok) (t : List UInt8) : (s.piece t).Ok ∧ (s.piece t).size ≤ s.size + t.length + 1 := by
  unfold WS.piece
  split
  · exact ⟨(h.put _).put _, by show s.size + 1 + t.length ≤ _; omega⟩
  · exact ⟨h.put _, by show s.size + t.length ≤ _; omega⟩
theorem WS.Ok.tok {s : WS} (h : s.Ok) (x : Tk) (ht : x.t.length ≤ 65) (hd : (Lib.decDigits x.n.toNat).length ≤ 20) : (s.tok x).Ok ∧ (s.tok x).size ≤ s.size + 100 := by
  unfold WS.tok
  split
  · have := h.piece x.t; exact ⟨this.1, by omega⟩
  split
  · have := h.piece (Lib.decDigits x.n.toNat); exact ⟨this.1, by omega⟩
  split
  · have h1 := h.put [10]
    refine ⟨⟨h1.l24, h1.ls, Nat.zero_le _⟩, ?_⟩
    show s.size + 1 ≤ _
    omega
  · exact ⟨h, by omega⟩
theorem drop_at {α : Type} {l : List α} {k : Nat} {x : α} (h : l[k]? = some x) : l.drop k = x :: l.drop (k + 1) := by
  obtain ⟨hk, hx⟩ := List.getElem?_eq_some_iff.1 h
  rw [List.drop_eq_getElem_cons hk, hx]
theorem okAt_succ {ts : List Tk} {k : Nat} {x : Tk} (h : ts[k]? = some x) : okAt ts (k + 1) = decide (x.k = 5) := by simp [okAt, h]
theorem lastK_at {ts : List Tk} {k : Nat} {x : Tk} (hk : ts.length = k + 1) (h : ts[k]? = some x) : lastK ts = some x.k := by
  unfold lastK
  rw [List.getLast?_eq_getElem?, hk]
  simp [h]
end Go.Proofs.YtfhmhdhaibmcfaaDoor
