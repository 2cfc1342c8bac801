import Derived.Test.YtkihaohdcgjioaaGreatDoorGr18
import Derived.Test.YtkihaohdcgjioaaGreatDoorGr14
namespace Go.Proofs.YtkihaohdcgjioaaGreatDoor.Lx
open Go.RowKit
set_option linter.unusedVariables false
set_option linter.unusedSimpArgs false
theorem dd_small {u : Nat} (h : u < 10) : Lib.decDigits u = [UInt8.ofNat (48 + u)] := by
  unfold Lib.decDigits
  simp [h]
def WS.tok (s : WS) (x : Tk) : WS :=
  if x.k = 1 ∨ x.k = 2 ∨ x.k = 4 then s.piece x.t else if x.k = 3 then s.piece (Lib.decDigits x.n.toNat) else if x.k = 5 then ⟨(s.put [10]).l, (s.put [10]).size, 0⟩ else s
theorem Wr.line0 {N p : Nat} {w : World} {s : WS} (h : WrAt N p w s) : WrAt N p (w.setCell ⟨p, 3, none⟩ (.int .i64 0)) ⟨s.l, s.size, 0⟩ := by
  obtain ⟨ad, bv, h⟩ := h
  exact ⟨ad, bv, h.set3 0⟩
theorem WrAt.out {N p : Nat} {w w' : World} {s : WS} (h : WrAt N p w s) (o : Out w w') : WrAt N p w' s := by
  obtain ⟨ad, bv, h⟩ := h
  exact ⟨ad, bv, h.out o⟩
theorem WrAt.base {N p : Nat} {w : World} {s : WS} (h : WrAt N p w s) : N ≤ w.heap.size := by
  obtain ⟨ad, bv, h⟩ := h
  exact h.base
theorem WrAt.le {N p : Nat} {w : World} {s : WS} (h : WrAt N p w s) : N ≤ p := by
  obtain ⟨ad, bv, h⟩ := h
  exact h.le
theorem WrAt.c3 {N p : Nat} {w : World} {s : WS} (h : WrAt N p w s) : w.cell? ⟨p, 3, none⟩ = some (.int .i64 s.line) ∧ w.frozen? ⟨p, 3, none⟩ = false := by
  obtain ⟨ad, bv, h⟩ := h
  exact ⟨h.cell 3, h.frozen 3⟩
set_option maxHeartbeats 2000000 in
theorem wtoken_any (N p : Nat) (w : World) (s : WS) (x : Tk) (hpw : Pow w) (h : WrAt N p w s) (hl : s.l.length ≤ 16777216) (hls : s.l.length ≤ s.size) (hs : s.size ≤ 1000000000000000000) (hli : s.line ≤ s.size) (ht : x.t.length ≤ 16777216) (hn : 0 ≤ x.n ∧ x.n < 18446744073709551616) (hdl : (Lib.decDigits x.n.toNat).length ≤ 100) :
    Calls Tryz.prog 132 #[.pointer (some ⟨p, 0, none⟩), .agg #[.int .i64 x.k, .string ⟨x.t.toArray⟩, .int .u64 x.n, .int .i64 x.l]] w fun e w' => WEnd N p w (s.tok x) e w' := by
  obtain ⟨k, t, n, l⟩ := x
  simp only at ht hn hdl ⊢
  obtain ⟨u, rfl⟩ : ∃ u : Nat, n = u := ⟨n.toNat, by omega⟩
  simp only [Int.toNat_natCast] at hdl
  have HO : Hid (Out w (w.alloc (.cells #[.int .i64 k, .string ⟨t.toArray⟩, .int .u64 (u : Int), .int .i64 l] 117))) := (Out.refl w).alloc _
  have d0 : (w.alloc (.cells #[.int .i64 k, .string ⟨t.toArray⟩, .int .u64 (u : Int), .int .i64 l] 117)).cell? ⟨w.heap.size, 0, none⟩ = some (.int .i64 k) := cell_fresh _ _ _ _ _ rfl
  have d1 : (w.alloc (.cells #[.int .i64 k, .string ⟨t.toArray⟩, .int .u64 (u : Int), .int .i64 l] 117)).cell? ⟨w.heap.size, 1, none⟩ = some (.string ⟨t.toArray⟩) := cell_fresh _ _ _ _ _ rfl
  have d2 : (w.alloc (.cells #[.int .i64 k, .string ⟨t.toArray⟩, .int .u64 (u : Int), .int .i64 l] 117)).cell? ⟨w.heap.size, 2, none⟩ = some (.int .u64 (u : Int)) := cell_fresh _ _ _ _ _ rfl
  have HP := hidOf (hpw.out HO.out)
  have H1 := hidOf (h.out HO.out)
  have B1 : Hid (Below N w (w.alloc (.cells #[.int .i64 k, .string ⟨t.toArray⟩, .int .u64 (u : Int), .int .i64 l] 117))) := Below.of_out HO.out h.base
  have hle := hidOf h.le
  clear h hpw
  have CP : Hid (∀ (y : List UInt8) wx, y.length ≤ 16777216 → WrAt N p wx s → Calls Tryz.prog 173 #[.pointer (some ⟨p, 0, none⟩), .string ⟨y.toArray⟩] wx fun e w' => WEnd N p wx (s.piece y) e w') := fun y wx hy hx => piece_any N p wx s y hx hl hls (by omega) hli hy
  by_cases k1 : k = 1 ∨ k = 2 ∨ k = 4
  · have hP : s.tok ⟨k, t, u, l⟩ = s.piece t := by unfold WS.tok; rw [if_pos k1]
    rw [hP]
    rcases k1 with rfl | rfl | rfl
    all_goals (
      go_enter Tryz.func132, Tryz.ntmps132
      go_wp2_with (go_at_call 173; refine (CP.out t _ ht H1.out).mono ?_; rintro e w1 ⟨⟨v, rfl⟩, hq, hb⟩; have H2 := hidOf hq; have B2 := hidOf hb; clear hq hb)
      go_end0
      exact ⟨⟨_, rfl⟩, H2.out, Below.step B1.out B2.out⟩)
  have j1 : (k == 1) = false := by simp only [beq_eq_false_iff_ne]; exact fun h => k1 (.inl h)
  have j2 : (k == 2) = false := by simp only [beq_eq_false_iff_ne]; exact fun h => k1 (.inr (.inl h))
  have j4 : (k == 4) = false := by simp only [beq_eq_false_iff_ne]; exact fun h => k1 (.inr (.inr h))
  by_cases k3 : k = 3
  · have hP : s.tok ⟨k, t, u, l⟩ = s.piece (Lib.decDigits u) := by unfold WS.tok; rw [if_neg k1, if_pos k3]; rfl
    rw [hP]
    subst k3
    have CF := hidOf (fmt_any u (by omega) _ HP.out)
    go_enter Tryz.func132, Tryz.ntmps132
    go_wp2_with (first | (go_at_call 104; refine CF.out.mono ?_; rintro e wf ⟨rfl, ho⟩; have HF := hidOf ho; clear ho) | (go_at_call 173; refine (CP.out (Lib.decDigits u) wf (by omega) (H1.out.out HF.out)).mono ?_; rintro e w1 ⟨⟨v, rfl⟩, hq, hb⟩; have H2 := hidOf hq; have B2 := hidOf hb; clear hq hb))
    go_end0
    exact ⟨⟨_, rfl⟩, H2.out, Below.step B1.out (Below.step (Below.of_out HF.out H1.out.base) B2.out)⟩
  have j3 : (k == 3) = false := by simpa using k3
  by_cases k5 : k = 5
  · have hP : s.tok ⟨k, t, u, l⟩ = ⟨(s.put [10]).l, (s.put [10]).size, 0⟩ := by unfold WS.tok; rw [if_neg k1, if_neg k3, if_pos k5]
    rw [hP]
    subst k5
    have CU := hidOf (put_any N p _ s [10] H1.out hl (by simp; omega) (by simp; omega) (by simp))
    go_enter Tryz.func132, Tryz.ntmps132
    go_upto_region 10 with (go_at_call 174; refine CU.out.mono ?_; rintro e w1 ⟨⟨v, rfl⟩, hq, hb⟩; have H2 := hidOf hq; have B2 := hidOf hb; clear hq hb)
    obtain ⟨e3, f3⟩ := H2.out.c3
    go_wp2
    go_end0
    exact ⟨⟨_, rfl⟩, Wr.line0 H2.out, Below.step B1.out (Below.set_own B2.out hle.out _)⟩
  have j5 : (k == 5) = false := by simpa using k5
  have hP : s.tok ⟨k, t, u, l⟩ = s := by unfold WS.tok; rw [if_neg k1, if_neg k3, if_neg k5]
  rw [hP]
  go_enter Tryz.func132, Tryz.ntmps132
  go_wp2
  go_end0
  exact ⟨⟨_, rfl⟩, H1.out, B1.out⟩
theorem dd_big {u : Nat} (h : ¬ u < 10) : Lib.decDigits u = Lib.decDigits (u / 10) ++ [UInt8.ofNat (48 + u % 10)] := by rw [Lib.decDigits, dif_neg h]
theorem dd_len : ∀ (k u : Nat), u < 10 ^ (k + 1) → (Lib.decDigits u).length ≤ k + 1
  | 0, u, h => by rw [dd_small (by omega)]; simp
  | k + 1, u, h => by
    by_cases hu : u < 10
    · rw [dd_small hu]; simp
    · rw [dd_big hu, List.length_append]
      have := dd_len k (u / 10) (by rw [Nat.pow_succ] at h; omega)
      simp; omega
def TksAt (w : World) (a : Option Addr) (ts : List Tk) : Prop := ts = [] ∨ ∃ b off, a = some ⟨b, off, none⟩ ∧ ∀ k x, ts[k]? = some x → w.cell? ⟨b, off + k * 4, none⟩ = some (.int .i64 x.k) ∧ w.cell? ⟨b, off + k * 4 + 1, none⟩ = some (.string ⟨x.t.toArray⟩) ∧ w.cell? ⟨b, off + k * 4 + 2, none⟩ = some (.int .u64 x.n) ∧ w.cell? ⟨b, off + k * 4 + 3, none⟩ = some (.int .i64 x.l)
theorem TksAt.out {w w' : World} {a : Option Addr} {ts : List Tk} (h : TksAt w a ts) (o : Out w w') : TksAt w' a ts := by
  rcases h with h | ⟨b, off, ha, hc⟩
  · exact .inl h
  · exact .inr ⟨b, off, ha, fun k x hx => ⟨cell_later o (hc k x hx).1, cell_later o (hc k x hx).2.1, cell_later o (hc k x hx).2.2.1, cell_later o (hc k x hx).2.2.2⟩⟩
def okAt (ts : List Tk) (k : Nat) : Bool := decide (k = 0) || (match ts[k - 1]? with | some y => decide (y.k = 5) | none => false)
def endsP (ts : List Tk) (k : Nat) : Bool := decide (k + 1 = ts.length) && okAt ts k
set_option maxHeartbeats 1000000 in
theorem endsAt_any (w : World) (a : Option Addr) (cap : Nat) (ts : List Tk) (h : TksAt w a ts) (hl : ts.length ≤ 4611686018427387904) (k : Nat) (hk : k < ts.length) :
    Calls Tryz.prog 131 #[.slice a ts.length cap, .int .i64 (k : Int)] w fun e w' => e = .returned (.bool (endsP ts k)) ∧ w = w' := by
  obtain ⟨b, off, rfl, hc⟩ : ∃ b off, a = some ⟨b, off, none⟩ ∧ ∀ k x, ts[k]? = some x → w.cell? ⟨b, off + k * 4, none⟩ = some (.int .i64 x.k) ∧ w.cell? ⟨b, off + k * 4 + 1, none⟩ = some (.string ⟨x.t.toArray⟩) ∧ w.cell? ⟨b, off + k * 4 + 2, none⟩ = some (.int .u64 x.n) ∧ w.cell? ⟨b, off + k * 4 + 3, none⟩ = some (.int .i64 x.l) := by
    rcases h with rfl | h
    · simp at hk
    · exact h
  have hkl : (k : Int) < ts.length := by omega
  by_cases h1 : k + 1 = ts.length
  · have h1' : ((k : Int) == (ts.length : Int) - 1) = true := by simp; omega
    by_cases h0 : k = 0
    · subst h0
      have hE : endsP ts 0 = true := by simp [endsP, okAt, h1]
      rw [hE]
      have h1'' : ((0 : Int) == (ts.length : Int) - 1) = true := by simpa using h1'
      clear hc h1'
      go_enter Tryz.func131, Tryz.ntmps131
      rw [show ((0 : Nat) : Int) = 0 from rfl]
      go_wp2
      go_ret
      exact ⟨rfl, rfl⟩
    · obtain ⟨j, rfl⟩ : ∃ j, k = j + 1 := ⟨k - 1, by omega⟩
      obtain ⟨y, hy⟩ : ∃ y, ts[j]? = some y := ⟨_, List.getElem?_eq_getElem (by omega)⟩
      have q0 := (hc j y hy).1
      have hE : endsP ts (j + 1) = decide (y.k = 5) := by simp [endsP, okAt, h1, hy]
      rw [hE]
      have hlen : ts.length = j + 2 := by omega
      have hjb : (j : Int) ≤ 4611686018427387904 := by omega
      rw [hlen]
      generalize y.k = yk at *
      clear hc hkl h1 h1' hk hE hy h h0 hlen hl
      go_enter Tryz.func131, Tryz.ntmps131
      go_wp2
      all_goals (go_ret; refine ret_bool ?_; have e1 : ((j : Int) + 2 - 1 == 0) = false := by simp only [beq_eq_false_iff_ne]; omega
                 rw [e1, Bool.false_or]; rfl)
  · have h1' : ((k : Int) == (ts.length : Int) - 1) = false := by simp; omega
    have hE : endsP ts k = false := by simp [endsP, h1]
    rw [hE]
    clear hc
    go_enter Tryz.func131, Tryz.ntmps131
    go_wp2
    go_ret
    exact ⟨rfl, rfl⟩
def unF (ok : Bool) (s : WS) : List Tk → Int × WS
  | [] => (0, s)
  | x :: r =>
    if mayP x = 0 then
      (if x.k = 0 ∧ ¬ (r = [] ∧ ok = true) then (52, s) else if x.k = 5 ∧ 1024 < s.line then (51, s) else unF (decide (x.k = 5)) (s.tok x) r)
    else (mayP x, s)
def lastK (ts : List Tk) : Option Int := ts.getLast?.map (·.k)
def untokP (ts : List Tk) : List UInt8 × Int :=
  if (unF true ⟨[], 0, 0⟩ ts).1 = 0 then (if lastK ts = some 0 then (if (unF true ⟨[], 0, 0⟩ ts).2.size ≤ 16777216 then ((unF true ⟨[], 0, 0⟩ ts).2.l, 0) else ([], 50)) else ([], 52)) else ([], (unF true ⟨[], 0, 0⟩ ts).1)
theorem word_len {t : List UInt8} (h : wordP t = true) : t.length ≤ 64 := by
  simp only [wordP, Bool.and_eq_true, decide_eq_true_eq] at h
  exact h.1.1
theorem may_len {x : Tk} (h : mayP x = 0) : x.t.length ≤ 65 := by
  unfold mayP at h
  by_cases k1 : x.k = 1
  · rw [if_pos k1] at h
    by_cases hw : wordP x.t = true
    · have := word_len hw; omega
    · rw [if_neg hw] at h; cases h
  rw [if_neg k1] at h
  by_cases k2 : x.k = 2
  · rw [if_pos k2] at h
    by_cases hw : dotP x.t = true
    · simp only [dotP, Bool.and_eq_true] at hw
      have h1 := word_len hw.2
      unfold Lib.trimPrefix at h1
      rw [if_pos hw.1, List.length_drop] at h1
      simp at h1; omega
    · rw [if_neg hw] at h; cases h
  rw [if_neg k2] at h
  by_cases k3 : x.k = 3
  · rw [if_pos k3] at h
    by_cases ht : x.t = []
    · rw [ht]; simp
    · rw [if_neg ht] at h; cases h
  rw [if_neg k3] at h
  by_cases k4 : x.k = 4
  · rw [if_pos k4] at h
    by_cases hw : markB x.t = true
    · unfold markB at hw
      split at hw
      · rename_i c hc; rw [hc]; simp
      · cases hw
    · rw [if_neg hw] at h; cases h
  rw [if_neg k4] at h
  by_cases k5 : x.k = 5 ∨ x.k = 0
  · rw [if_pos k5] at h
    by_cases ht : x.t = []
    · rw [ht]; simp
    · rw [if_neg ht] at h; cases h
  · rw [if_neg k5] at h; cases h
structure WS.Ok (s : WS) : Prop where
  l24 : s.l.length ≤ 16777216
  ls : s.l.length ≤ s.size
  li : s.line ≤ s.size
theorem WS.Ok.put {s : WS} (h : s.Ok) (t : List UInt8) : (s.put t).Ok := ⟨(put_len s t h.l24 h.ls).1, (put_len s t h.l24 h.ls).2, by have := h.li; show s.line + t.length ≤ s.size + t.length; omega⟩
theorem WS.Ok.piece {s : WS} (h : s.Ok) (t : List UInt8) : (s.piece t).Ok ∧ (s.piece t).size ≤ s.size + t.length + 1 := by
  unfold WS.piece
  split
  · exact ⟨(h.put _).put _, by show s.size + 1 + t.length ≤ _; omega⟩
  · exact ⟨h.put _, by show s.size + t.length ≤ _; omega⟩
theorem WS.Ok.tok {s : WS} (h : s.Ok) (x : Tk) (ht : x.t.length ≤ 65) (hd : (Lib.decDigits x.n.toNat).length ≤ 20) : (s.tok x).Ok ∧ (s.tok x).size ≤ s.size + 100 := by
  unfold WS.tok
  split
  · have := h.piece x.t; exact ⟨this.1, by omega⟩
  split
  · have := h.piece (Lib.decDigits x.n.toNat); exact ⟨this.1, by omega⟩
  split
  · have h1 := h.put [10]
    refine ⟨⟨h1.l24, h1.ls, Nat.zero_le _⟩, ?_⟩
    show s.size + 1 ≤ _
    omega
  · exact ⟨h, by omega⟩
theorem drop_at {α : Type} {l : List α} {k : Nat} {x : α} (h : l[k]? = some x) : l.drop k = x :: l.drop (k + 1) := by
  obtain ⟨hk, hx⟩ := List.getElem?_eq_some_iff.1 h
  rw [List.drop_eq_getElem_cons hk, hx]
theorem okAt_succ {ts : List Tk} {k : Nat} {x : Tk} (h : ts[k]? = some x) : okAt ts (k + 1) = decide (x.k = 5) := by simp [okAt, h]
theorem lastK_at {ts : List Tk} {k : Nat} {x : Tk} (hk : ts.length = k + 1) (h : ts[k]? = some x) : lastK ts = some x.k := by
  unfold lastK
  rw [List.getLast?_eq_getElem?, hk]
  simp [h]
end Go.Proofs.YtkihaohdcgjioaaGreatDoor.Lx
namespace Go.Proofs.YtkihaohdcgjioaaGreatDoor
open Go.RowKit
set_option linter.unusedVariables false
set_option linter.unusedSimpArgs false
theorem find_at {α : Type} (p : α → Bool) : ∀ (l : List α) (k : Nat) (x : α), l[k]? = some x → p x = true → (∀ j y, j < k → l[j]? = some y → p y = false) → l.find? p = some x
  | [], k, x, h, _, _ => by simp at h
  | y :: l, 0, x, h, hp, _ => by
    simp at h
    subst h
    simp [hp]
  | y :: l, k + 1, x, h, hp, hno => by
    have h0 : p y = false := hno 0 y (by omega) (by simp)
    rw [List.find?_cons, h0]
    exact find_at p l k x (by simpa using h) hp (fun j z hj hz => hno (j + 1) z (by omega) (by simpa using hz))
theorem find_no {α : Type} (p : α → Bool) (l : List α) (h : ∀ j y, j < l.length → l[j]? = some y → p y = false) : l.find? p = none := by
  rw [List.find?_eq_none]
  intro y hy
  obtain ⟨j, hj, e⟩ := List.getElem_of_mem hy
  have := h j y hj (by rw [List.getElem?_eq_getElem hj, e])
  simp [this]
theorem rangeAt_out {w w' : World} {b o : Nat} {cs : List Value} (h : w.rangeAt b o cs) (u : Out w w') : w'.rangeAt b o cs := fun j v hv => cell_later u (h j v hv)
def immCs : List Value := immT.flatMap (fun r => [.int .u8 r.1, .int .u8 r.2.1, .string ⟨r.2.2.toArray⟩])
def ImmTb (w : World) : Prop := w.rangeAt 7 0 immCs
theorem immT_len : immT.length = 29 := rfl
def immA (k : Nat) : Int := match immT[k]? with | some r => r.1 | none => 0
def immB (k : Nat) : Int := match immT[k]? with | some r => r.2.1 | none => 0
def immS3 (k : Nat) : List UInt8 := match immT[k]? with | some r => r.2.2 | none => []
theorem immT_bd : ∀ r ∈ immT, 0 ≤ r.1 ∧ r.1 < 256 ∧ 0 ≤ r.2.1 ∧ r.2.1 < 256 := by decide
theorem imm_row (k : Nat) (hk : k < 29) : immT[k]? = some (immA k, immB k, immS3 k) ∧ 0 ≤ immA k ∧ immA k < 256 ∧ 0 ≤ immB k ∧ immB k < 256 := by
  obtain ⟨r, hr⟩ : ∃ r, immT[k]? = some r := ⟨_, List.getElem?_eq_getElem (by rw [immT_len]; exact hk)⟩
  have hb := immT_bd r (List.mem_of_getElem? hr)
  unfold immA immB immS3
  rw [hr]
  exact ⟨rfl, hb⟩
set_option maxRecDepth 20000 in
theorem imm_idx (k : Nat) (hk : k < 29) (w : World) : (Instr.index 245 (.agg immCs.toArray) (.int .i64 k)).run Tryz.prog w = .ok (.agg #[.int .u8 (immA k), .int .u8 (immB k), .string ⟨(immS3 k).toArray⟩]) w := by
  rcases (show k = 0 ∨ k = 1 ∨ k = 2 ∨ k = 3 ∨ k = 4 ∨ k = 5 ∨ k = 6 ∨ k = 7 ∨ k = 8 ∨ k = 9 ∨ k = 10 ∨ k = 11 ∨ k = 12 ∨ k = 13 ∨ k = 14 ∨ k = 15 ∨ k = 16 ∨ k = 17 ∨ k = 18 ∨ k = 19 ∨ k = 20 ∨ k = 21 ∨ k = 22 ∨ k = 23 ∨ k = 24 ∨ k = 25 ∨ k = 26 ∨ k = 27 ∨ k = 28 from by omega) with rfl | rfl | rfl | rfl | rfl | rfl | rfl | rfl | rfl | rfl | rfl | rfl | rfl | rfl | rfl | rfl | rfl | rfl | rfl | rfl | rfl | rfl | rfl | rfl | rfl | rfl | rfl | rfl | rfl <;> kernel_rfl
theorem imm_hit (o x : Int) (k : Nat) (hk : k < 29) (h : (o == (immA k) && x == immB k) = true) (hno : ∀ j, j < k → (o == (immA j) && x == immB j) = false) : wImm o x = immS3 k := by
  unfold wImm
  rw [find_at (fun r : Int × Int × List UInt8 => o == r.1 && x == r.2.1) immT k _ (imm_row k hk).1 h (fun j y hj hy => by
    rw [(imm_row j (by omega)).1] at hy
    simp only [Option.some.injEq] at hy
    subst hy
    exact hno j hj)]
theorem imm_miss (o x : Int) (hno : ∀ j, j < 29 → (o == (immA j) && x == immB j) = false) : wImm o x = [] := by
  unfold wImm
  rw [find_no (fun r : Int × Int × List UInt8 => o == r.1 && x == r.2.1) immT (fun j y hj hy => by
    rw [immT_len] at hj
    rw [(imm_row j hj).1] at hy
    simp only [Option.some.injEq] at hy
    subst hy
    exact hno j hj)]
set_option maxRecDepth 20000 in
set_option maxHeartbeats 1600000 in
theorem immWord_any (o d s f i : Int) (w : World) (hT : ImmTb w) : Calls Tryz.prog 169 #[.agg #[.int .i64 o, .int .i64 d, .int .i64 s, .int .i64 f, .int .i64 i]] w fun e w' => e = .returned (.string ⟨(wImm o i).toArray⟩) ∧ Out w w' := by
  have HH := hidOf (imm_hit o i)
  have HM := hidOf (imm_miss o i)
  obtain ⟨A, HA⟩ : ∃ A : Nat → Int, Hid (A = immA) := ⟨_, hidOf rfl⟩
  obtain ⟨B, HB⟩ : ∃ B : Nat → Int, Hid (B = immB) := ⟨_, hidOf rfl⟩
  obtain ⟨T, HT⟩ : ∃ T : Nat → List UInt8, Hid (T = immS3) := ⟨_, hidOf rfl⟩
  obtain ⟨cs, hcs⟩ : ∃ cs, cs = immCs := ⟨_, rfl⟩
  rw [← HA.out, ← HB.out] at HH HM
  rw [← HT.out] at HH
  generalize wImm o i = R at *
  have HAB : Hid (∀ k : Nat, k < 29 → 0 ≤ A k ∧ A k < 256 ∧ 0 ≤ B k ∧ B k < 256) := by rw [HA.out, HB.out]; exact fun k hk => (imm_row k hk).2
  have hix : ∀ (k : Nat), (k : Int) < 29 → ∀ w : World, (Instr.index 245 (.agg cs.toArray) (.int .i64 k)).run Tryz.prog w = .ok (.agg #[.int .u8 (A k), .int .u8 (B k), .string ⟨(T k).toArray⟩]) w := fun k hk w => by
    rw [hcs, imm_idx k (by omega) w, HA.out, HB.out, HT.out]
  have HRg : Hid ((w.alloc (.cells #[.int .i64 o, .int .i64 d, .int .i64 s, .int .i64 f, .int .i64 i] 58)).rangeAt 7 0 cs) := by rw [hcs]; exact rangeAt_out hT ((Out.refl w).alloc _)
  have HSz : Hid ((Tryz.prog.info? 245).map (·.size) = some cs.length) := by
    rw [hcs]
    exact (show (Tryz.prog.info? 245).map (·.size) = some immCs.length by kernel_rfl)
  clear hT hcs
  go_enter Tryz.func169, Tryz.ntmps169
  go_wp2
  refine wp_load_mid 245 (.global 7) rfl 7 0 rfl cs _ HRg.out Tryz.underlying245 rfl HSz.out ?_
  go_wp2
  go_loopw [6] (fun iv wr => ∃ k : Nat, k ≤ 29 ∧ iv = .int .i64 k ∧ Hid (∀ j, j < k → (o == (A j) && i == B j) = false) ∧ Out (w.alloc (.cells #[.int .i64 o, .int .i64 d, .int .i64 s, .int .i64 f, .int .i64 i] 58)) wr) (fun iv _ => 29 - (intOf iv).toNat)
  case atStart => exact ⟨0, by omega, rfl, fun j hj => by omega, Out.refl _⟩
  case round =>
    obtain ⟨k, hk, rfl, Hno, ho⟩ := hrel
    have q0 : ∀ O, (wr.alloc O).cell? ⟨w.heap.size, 0, none⟩ = some (.int .i64 o) := fun O => cell_later (ho.alloc O) (new_cell w _ _ 0)
    have q4 : ∀ O, (wr.alloc O).cell? ⟨w.heap.size, 4, none⟩ = some (.int .i64 i) := fun O => cell_later (ho.alloc O) (new_cell w _ _ 4)
    have Ho := hidOf ho
    clear ho
    by_cases hkN : k < 29
    · have hlt : (k : Int) < 29 := by omega
      obtain ⟨b1, b2, b3, b4⟩ := HAB.out k hkN
      cases h1 : (o == (A k))
      · have Hno' : Hid (∀ j, j < k + 1 → (o == (A j) && i == B j) = false) := fun j hj => by
          by_cases z : j = k
          · subst z; rw [h1]; rfl
          · exact Hno.out j (by omega)
        go_wp2
        go_roundw
        case rel => exact ⟨k + 1, by omega, by simp, Hno', Ho.out.alloc _⟩
        case measure => simp [intOf]; omega
      · cases h2 : (i == B k)
        · have Hno' : Hid (∀ j, j < k + 1 → (o == (A j) && i == B j) = false) := fun j hj => by
            by_cases z : j = k
            · subst z; rw [h2]; simp
            · exact Hno.out j (by omega)
          go_wp2
          go_roundw
          case rel => exact ⟨k + 1, by omega, by simp, Hno', Ho.out.alloc _⟩
          case measure => simp [intOf]; omega
        · have HRes : Hid (R = T k) := HH.out k hkN (by rw [h1, h2]; rfl) Hno.out
          go_wp2
          go_ret
          exact ⟨by rw [HRes.out]; rfl, Out.trans ((Out.refl w).alloc _) (Ho.out.alloc _)⟩
    · have hlt : ¬ (k : Int) < 29 := by omega
      obtain rfl : k = 29 := by omega
      have HRes : Hid (R = []) := HM.out Hno.out
      go_wp2
      go_ret
      exact ⟨by rw [HRes.out]; rfl, Out.trans ((Out.refl w).alloc _) Ho.out⟩
def offCs : List Value := offT.flatMap (fun r => [.int .u8 r.1, .int .u8 r.2.1, .string ⟨r.2.2.toArray⟩])
def OffTb (w : World) : Prop := w.rangeAt 6 0 offCs
theorem offT_len : offT.length = 9 := rfl
def offA (k : Nat) : Int := match offT[k]? with | some r => r.1 | none => 0
def offB (k : Nat) : Int := match offT[k]? with | some r => r.2.1 | none => 0
def offS3 (k : Nat) : List UInt8 := match offT[k]? with | some r => r.2.2 | none => []
theorem offT_bd : ∀ r ∈ offT, 0 ≤ r.1 ∧ r.1 < 256 ∧ 0 ≤ r.2.1 ∧ r.2.1 < 256 := by decide
theorem off_row (k : Nat) (hk : k < 9) : offT[k]? = some (offA k, offB k, offS3 k) ∧ 0 ≤ offA k ∧ offA k < 256 ∧ 0 ≤ offB k ∧ offB k < 256 := by
  obtain ⟨r, hr⟩ : ∃ r, offT[k]? = some r := ⟨_, List.getElem?_eq_getElem (by rw [offT_len]; exact hk)⟩
  have hb := offT_bd r (List.mem_of_getElem? hr)
  unfold offA offB offS3
  rw [hr]
  exact ⟨rfl, hb⟩
set_option maxRecDepth 20000 in
theorem off_idx (k : Nat) (hk : k < 9) (w : World) : (Instr.index 243 (.agg offCs.toArray) (.int .i64 k)).run Tryz.prog w = .ok (.agg #[.int .u8 (offA k), .int .u8 (offB k), .string ⟨(offS3 k).toArray⟩]) w := by
  rcases (show k = 0 ∨ k = 1 ∨ k = 2 ∨ k = 3 ∨ k = 4 ∨ k = 5 ∨ k = 6 ∨ k = 7 ∨ k = 8 from by omega) with rfl | rfl | rfl | rfl | rfl | rfl | rfl | rfl | rfl <;> kernel_rfl
theorem off_hit (o x : Int) (k : Nat) (hk : k < 9) (h : (bits .or .i64 o 8 == bits .or .i64 (offA k) 8 && x == offB k) = true) (hno : ∀ j, j < k → (bits .or .i64 o 8 == bits .or .i64 (offA j) 8 && x == offB j) = false) : wOff o x = offS3 k := by
  unfold wOff
  rw [find_at (fun r : Int × Int × List UInt8 => bits .or .i64 o 8 == bits .or .i64 r.1 8 && x == r.2.1) offT k _ (off_row k hk).1 h (fun j y hj hy => by
    rw [(off_row j (by omega)).1] at hy
    simp only [Option.some.injEq] at hy
    subst hy
    exact hno j hj)]
theorem off_miss (o x : Int) (hno : ∀ j, j < 9 → (bits .or .i64 o 8 == bits .or .i64 (offA j) 8 && x == offB j) = false) : wOff o x = [] := by
  unfold wOff
  rw [find_no (fun r : Int × Int × List UInt8 => bits .or .i64 o 8 == bits .or .i64 r.1 8 && x == r.2.1) offT (fun j y hj hy => by
    rw [offT_len] at hj
    rw [(off_row j hj).1] at hy
    simp only [Option.some.injEq] at hy
    subst hy
    exact hno j hj)]
set_option maxRecDepth 20000 in
set_option maxHeartbeats 1600000 in
theorem offWord_any (o d s f i : Int) (w : World) (hT : OffTb w) : Calls Tryz.prog 168 #[.agg #[.int .i64 o, .int .i64 d, .int .i64 s, .int .i64 f, .int .i64 i]] w fun e w' => e = .returned (.string ⟨(wOff o f).toArray⟩) ∧ Out w w' := by
  have HH := hidOf (off_hit o f)
  have HM := hidOf (off_miss o f)
  obtain ⟨A, HA⟩ : ∃ A : Nat → Int, Hid (A = offA) := ⟨_, hidOf rfl⟩
  obtain ⟨B, HB⟩ : ∃ B : Nat → Int, Hid (B = offB) := ⟨_, hidOf rfl⟩
  obtain ⟨T, HT⟩ : ∃ T : Nat → List UInt8, Hid (T = offS3) := ⟨_, hidOf rfl⟩
  obtain ⟨cs, hcs⟩ : ∃ cs, cs = offCs := ⟨_, rfl⟩
  rw [← HA.out, ← HB.out] at HH HM
  rw [← HT.out] at HH
  generalize wOff o f = R at *
  have HAB : Hid (∀ k : Nat, k < 9 → 0 ≤ A k ∧ A k < 256 ∧ 0 ≤ B k ∧ B k < 256) := by rw [HA.out, HB.out]; exact fun k hk => (off_row k hk).2
  have hix : ∀ (k : Nat), (k : Int) < 9 → ∀ w : World, (Instr.index 243 (.agg cs.toArray) (.int .i64 k)).run Tryz.prog w = .ok (.agg #[.int .u8 (A k), .int .u8 (B k), .string ⟨(T k).toArray⟩]) w := fun k hk w => by
    rw [hcs, off_idx k (by omega) w, HA.out, HB.out, HT.out]
  have HRg : Hid ((w.alloc (.cells #[.int .i64 o, .int .i64 d, .int .i64 s, .int .i64 f, .int .i64 i] 58)).rangeAt 6 0 cs) := by rw [hcs]; exact rangeAt_out hT ((Out.refl w).alloc _)
  have HSz : Hid ((Tryz.prog.info? 243).map (·.size) = some cs.length) := by
    rw [hcs]
    exact (show (Tryz.prog.info? 243).map (·.size) = some offCs.length by kernel_rfl)
  clear hT hcs
  go_enter Tryz.func168, Tryz.ntmps168
  go_wp2_with (refine wpList_load_mid rfl 243 (.global 6) rfl 6 0 rfl cs _ HRg.out Tryz.underlying243 rfl HSz.out ?_)
  go_loopw [6] (fun iv wr => ∃ k : Nat, k ≤ 9 ∧ iv = .int .i64 k ∧ Hid (∀ j, j < k → (bits .or .i64 o 8 == bits .or .i64 (A j) 8 && f == B j) = false) ∧ Out (w.alloc (.cells #[.int .i64 o, .int .i64 d, .int .i64 s, .int .i64 f, .int .i64 i] 58)) wr) (fun iv _ => 9 - (intOf iv).toNat)
  case atStart => exact ⟨0, by omega, rfl, fun j hj => by omega, Out.refl _⟩
  case round =>
    obtain ⟨k, hk, rfl, Hno, ho⟩ := hrel
    have q0 : ∀ O, (wr.alloc O).cell? ⟨w.heap.size, 0, none⟩ = some (.int .i64 o) := fun O => cell_later (ho.alloc O) (new_cell w _ _ 0)
    have q4 : ∀ O, (wr.alloc O).cell? ⟨w.heap.size, 3, none⟩ = some (.int .i64 f) := fun O => cell_later (ho.alloc O) (new_cell w _ _ 3)
    have Ho := hidOf ho
    clear ho
    by_cases hkN : k < 9
    · have hlt : (k : Int) < 9 := by omega
      obtain ⟨b1, b2, b3, b4⟩ := HAB.out k hkN
      cases h1 : (bits .or .i64 o 8 == bits .or .i64 (A k) 8)
      · have Hno' : Hid (∀ j, j < k + 1 → (bits .or .i64 o 8 == bits .or .i64 (A j) 8 && f == B j) = false) := fun j hj => by
          by_cases z : j = k
          · subst z; rw [h1]; rfl
          · exact Hno.out j (by omega)
        go_wp2
        go_roundw
        case rel => exact ⟨k + 1, by omega, by simp, Hno', Ho.out.alloc _⟩
        case measure => simp [intOf]; omega
      · cases h2 : (f == B k)
        · have Hno' : Hid (∀ j, j < k + 1 → (bits .or .i64 o 8 == bits .or .i64 (A j) 8 && f == B j) = false) := fun j hj => by
            by_cases z : j = k
            · subst z; rw [h2]; simp
            · exact Hno.out j (by omega)
          go_wp2
          go_roundw
          case rel => exact ⟨k + 1, by omega, by simp, Hno', Ho.out.alloc _⟩
          case measure => simp [intOf]; omega
        · have HRes : Hid (R = T k) := HH.out k hkN (by rw [h1, h2]; rfl) Hno.out
          go_wp2
          go_ret
          exact ⟨by rw [HRes.out]; rfl, Out.trans ((Out.refl w).alloc _) (Ho.out.alloc _)⟩
    · have hlt : ¬ (k : Int) < 9 := by omega
      obtain rfl : k = 9 := by omega
      have HRes : Hid (R = []) := HM.out Hno.out
      go_wp2
      go_ret
      exact ⟨by rw [HRes.out]; rfl, Out.trans ((Out.refl w).alloc _) Ho.out⟩
end Go.Proofs.YtkihaohdcgjioaaGreatDoor
namespace Go.Proofs.YtkihaohdcgjioaaGreatDoor
open Go.RowKit
open Go.Maps (Keyed)
set_option linter.unusedVariables false
set_option linter.unusedSimpArgs false
theorem cell_grown {w w' : World} {b : Nat} (h : w.grownBy w' (some b)) {a : Addr} {v : Value} (hc : w.cell? a = some v) (hb : ¬ a.block = b) : w'.cell? a = some v := by
  rw [← hc]
  exact World.cell?_of_block (h.block _ (World.block_lt_of_cell? w a hc) (fun e => hb (by cases e; rfl)))
def reckCs : List Value := reckT.flatMap (fun r => [.string ⟨r.1.toArray⟩, .string ⟨r.2.toArray⟩])
def ReckTb (w : World) : Prop := w.rangeAt 3 0 reckCs
def reckA (k : Nat) : List UInt8 := match reckT[k]? with | some r => r.1 | none => []
def reckB (k : Nat) : List UInt8 := match reckT[k]? with | some r => r.2 | none => []
theorem reck_row (k : Nat) (hk : k < 13) : reckT[k]? = some (reckA k, reckB k) := by
  obtain ⟨r, hr⟩ : ∃ r, reckT[k]? = some r := ⟨_, List.getElem?_eq_getElem (show k < reckT.length from hk)⟩
  unfold reckA reckB
  rw [hr]
theorem reck_ent (k : Nat) (hk : k < 13) (x y : Int) : entA reckT x y k = [(reckA k, (k * 16 + x, 0, 0, 0)), (reckB k, (k * 16 + y, 0, 0, 0))] := by
  unfold entA
  rw [reck_row k hk]
set_option maxRecDepth 20000 in
theorem reck_idx (k : Nat) (hk : k < 13) (w : World) : (Instr.index 206 (.agg reckCs.toArray) (.int .i64 k)).run Tryz.prog w = .ok (.agg #[.string ⟨(reckA k).toArray⟩, .string ⟨(reckB k).toArray⟩]) w := by
  rcases (show k = 0 ∨ k = 1 ∨ k = 2 ∨ k = 3 ∨ k = 4 ∨ k = 5 ∨ k = 6 ∨ k = 7 ∨ k = 8 ∨ k = 9 ∨ k = 10 ∨ k = 11 ∨ k = 12 from by omega) with rfl | rfl | rfl | rfl | rfl | rfl | rfl | rfl | rfl | rfl | rfl | rfl | rfl <;> kernel_rfl
def jumpCs : List Value := jumpT.flatMap (fun r => [.string ⟨r.1.toArray⟩, .string ⟨r.2.toArray⟩])
def JumpTb (w : World) : Prop := w.rangeAt 0 0 jumpCs
def jumpA (k : Nat) : List UInt8 := match jumpT[k]? with | some r => r.1 | none => []
def jumpB (k : Nat) : List UInt8 := match jumpT[k]? with | some r => r.2 | none => []
theorem jump_row (k : Nat) (hk : k < 14) : jumpT[k]? = some (jumpA k, jumpB k) := by
  obtain ⟨r, hr⟩ : ∃ r, jumpT[k]? = some r := ⟨_, List.getElem?_eq_getElem (show k < jumpT.length from hk)⟩
  unfold jumpA jumpB
  rw [hr]
theorem jump_ent (k : Nat) (hk : k < 14) (x y : Int) : entA jumpT x y k = [(jumpA k, (k * 16 + x, 0, 0, 0)), (jumpB k, (k * 16 + y, 0, 0, 0))] := by
  unfold entA
  rw [jump_row k hk]
set_option maxRecDepth 20000 in
theorem jump_idx (k : Nat) (hk : k < 14) (w : World) : (Instr.index 173 (.agg jumpCs.toArray) (.int .i64 k)).run Tryz.prog w = .ok (.agg #[.string ⟨(jumpA k).toArray⟩, .string ⟨(jumpB k).toArray⟩]) w := by
  rcases (show k = 0 ∨ k = 1 ∨ k = 2 ∨ k = 3 ∨ k = 4 ∨ k = 5 ∨ k = 6 ∨ k = 7 ∨ k = 8 ∨ k = 9 ∨ k = 10 ∨ k = 11 ∨ k = 12 ∨ k = 13 from by omega) with rfl | rfl | rfl | rfl | rfl | rfl | rfl | rfl | rfl | rfl | rfl | rfl | rfl | rfl <;> kernel_rfl
def memCs : List Value := memT.flatMap (fun r => .int .u8 r.1 :: r.2.map (fun l => .string ⟨l.toArray⟩))
def MemTb (w : World) : Prop := w.rangeAt 4 0 memCs
def memA (k : Nat) : Int := match memT[k]? with | some r => r.1 | none => 0
def memW (k j : Nat) : List UInt8 := match memT[k]? with | some r => r.2.getD j [] | none => []
set_option maxRecDepth 20000 in
theorem mem_idx (k : Nat) (hk : k < 4) (w : World) : (Instr.index 209 (.agg memCs.toArray) (.int .i64 k)).run Tryz.prog w = .ok (.agg #[.int .u8 (memA k), .string ⟨(memW k 0).toArray⟩, .string ⟨(memW k 1).toArray⟩, .string ⟨(memW k 2).toArray⟩, .string ⟨(memW k 3).toArray⟩]) w := by
  rcases (show k = 0 ∨ k = 1 ∨ k = 2 ∨ k = 3 from by omega) with rfl | rfl | rfl | rfl <;> kernel_rfl
theorem idx4s (s : Nat → Value) (k : Nat) (hk : k < 4) (w : World) : (Instr.index 207 (.agg #[s 0, s 1, s 2, s 3]) (.int .i64 k)).run Tryz.prog w = .ok (s k) w := by
  rcases (show k = 0 ∨ k = 1 ∨ k = 2 ∨ k = 3 from by omega) with rfl | rfl | rfl | rfl <;> kernel_rfl
theorem mem_all : ∀ k : Fin 4, ∀ j : Fin 4, entM k.val j.val = [(memW k.val j.val, (memA k.val + (j.val : Int) * 8, 0, 0, 0))] ∧ (memW k.val j.val).length ≤ 1000 ∧ bits .or .u8 (memA k.val) ((j.val : Int) * 8) = memA k.val + (j.val : Int) * 8 ∧ 0 ≤ memA k.val ∧ memA k.val < 256 := by decide +kernel
theorem off_ent (k : Nat) (hk : k < 9) : entO k = [(offS3 k, (offA k, 0, offB k, 0))] := by
  unfold entO
  rw [(off_row k hk).1]
theorem imm_ent (k : Nat) (hk : k < 29) : entI k = [(immS3 k, (immA k, 0, 0, immB k))] := by
  unfold entI
  rw [(imm_row k hk).1]
def WTabs (w : World) : Prop := ReckTb w ∧ JumpTb w ∧ MemTb w ∧ OffTb w ∧ ImmTb w
theorem WTabs.out {w w' : World} (h : WTabs w) (o : Out w w') : WTabs w' := ⟨rangeAt_out h.1 o, rangeAt_out h.2.1 o, rangeAt_out h.2.2.1 o, rangeAt_out h.2.2.2.1 o, rangeAt_out h.2.2.2.2 o⟩
end Go.Proofs.YtkihaohdcgjioaaGreatDoor
