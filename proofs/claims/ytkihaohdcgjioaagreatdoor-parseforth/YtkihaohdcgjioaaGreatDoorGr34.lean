import Derived.Test.YtkihaohdcgjioaaGreatDoorGr29
import Derived.Test.YtkihaohdcgjioaaGreatDoorGr32
import Derived.Test.YtkihaohdcgjioaaGreatDoorGr33
namespace Go.Proofs.YtkihaohdcgjioaaGreatDoor
open Go.RowKit
set_option linter.unusedVariables false
set_option linter.unusedSimpArgs false
theorem parse_any (w : World) (l : List UInt8) (hE : PEnv w) (hl : l.length ≤ 140737488355328) : Calls Tryz.prog 137 #[.string ⟨l.toArray⟩] w fun e w' => e = .returned (.tuple #[.agg #[.int .i64 (parseP l).o, .int .i64 (parseP l).d, .int .i64 (parseP l).s, .int .i64 (parseP l).f, .int .i64 (parseP l).i], .string ⟨(parseP l).tgt.toArray⟩, .int .i64 (parseP l).e]) ∧ Out w w' := by
  cases hm : meanOf (newR l).tok with
  | none =>
    have hp : parseP l = ⟨0, 0, 0, 0, 0, [], 40⟩ := by unfold parseP; rw [hm]
    rw [hp]
    exact parse_none w l hE hl hm
  | some m =>
    obtain ⟨o, s, f, i⟩ := m
    refine (parse_some w l hE hl o s f i hm).mono fun e w' ⟨he, ho⟩ => ⟨?_, ho⟩
    unfold parseP
    rw [hm]
    simp only
    rcases he with ⟨h1, he⟩ | ⟨h1, h2, he⟩ | ⟨h1, h2, he⟩
    · rw [if_pos h1, he]; rfl
    · rw [if_neg (by rw [h1]; decide), if_pos h2, he]; rfl
    · rw [if_neg (by rw [h1]; decide), if_neg (by rw [h2]; decide), he]
theorem ixQ_len : ∀ (acc : List UInt8) (ts : List Lx.Tk), TkOk ts → (ixQ acc ts).1.length ≤ acc.length + 71 * ts.length
  | acc, [], _ => by unfold ixQ; simp
  | acc, t :: r, h => by
    unfold ixQ
    have htl := ttQ_len (h t (by simp))
    by_cases e : t.k = 5
    · rw [if_pos e]; simp
    · rw [if_neg e]
      have := ixQ_len ((if acc.isEmpty then acc else acc ++ [32]) ++ ttQ t) r (tkOk_clo _ _ h)
      by_cases ha : acc.isEmpty = true
      · rw [if_pos ha] at this ⊢
        simp only [List.length_append, List.length_cons] at this ⊢
        omega
      · rw [if_neg ha] at this ⊢
        simp only [List.length_append, List.length_cons, List.length_nil] at this ⊢
        omega
set_option maxRecDepth 20000 in
set_option maxHeartbeats 4000000 in
theorem instruction_any (w0 : World) (B : Nat) (hB0 : w0.heap.size ≤ B) (hpw : Lx.Pow w0) (hE0 : PEnv w0) (w : World) (hw : Out w0 w) (p g mb : Nat) (sv : Value) (ts : List Lx.Tk) (h : PS B w p g mb sv ts) (hl : Lw ts) (hN : TkOk ts) (hlen : ts.length ≤ 1000000000) :
    Calls Tryz.prog 98 #[.pointer (some ⟨p, 0, none⟩)] w (REndS (inQ ts) B w p g mb sv) := by
  unfold inQ
  have hpl := h.gl.1
  have hgl := h.gl.2
  have hpB := h.pB
  have hxl := ixQ_len [] ts hN
  obtain ⟨w1, hw1⟩ : ∃ w1, w1 = w.alloc (.cells #[.int .i64 0, .string ⟨#[]⟩, .slice none 0 0, .slice none 0 0, .int .i64 0, .int .i64 0, .int .i64 0, .int .i64 0, .int .i64 0, .string ⟨#[]⟩, .int .i64 0] 60) := ⟨_, rfl⟩
  have o1 : Out w w1 := by rw [hw1]; exact (Out.refl w).alloc _
  have b1 : w1.heap[w.heap.size]? = some (.cells #[.int .i64 0, .string ⟨#[]⟩, .slice none 0 0, .slice none 0 0, .int .i64 0, .int .i64 0, .int .i64 0, .int .i64 0, .int .i64 0, .string ⟨#[]⟩, .int .i64 0] 60 (0, 0)) := by rw [hw1]; exact heap_alloc_new w _
  have CI := hidOf (instructionText_any w0 B hB0 hpw w1 (hw.trans o1) p g mb sv ts (h.out o1) hl hN hlen)
  obtain ⟨X, R, hXR⟩ : ∃ X R, ixQ [] ts = (X, R) := ⟨_, _, rfl⟩
  rw [hXR] at CI hxl ⊢
  have hxl : X.length ≤ 140737488355328 := by simp only [List.length_nil] at hxl; omega
  have CP : Hid (∀ wx, Out w0 wx → Calls Tryz.prog 137 #[.string ⟨X.toArray⟩] wx fun e w' => e = .returned (.tuple #[.agg #[.int .i64 (parseP X).o, .int .i64 (parseP X).d, .int .i64 (parseP X).s, .int .i64 (parseP X).f, .int .i64 (parseP X).i], .string ⟨(parseP X).tgt.toArray⟩, .int .i64 (parseP X).e]) ∧ Out wx w') := hidOf (fun wx o => parse_any wx X (hE0.out o) hxl)
  simp only at CI ⊢
  generalize parseP X = y at CP ⊢
  obtain ⟨o, d, s, f, i, tg, ec⟩ := y
  simp only at CP ⊢
  have B1 := hidOf b1
  have O1 := hidOf o1
  have Hw1 := hidOf hw1
  have Hw := hidOf hw
  clear hXR hN hl h b1 o1 hw1 hw hE0 hpw
  by_cases he : ec = 0
  · subst he
    rw [if_pos rfl]
    go_enter Tryz.func98, Tryz.ntmps98
    go_upto_region 1 with fail
    rw [← Hw1.out]
    go_upto_region 2 with (first | (go_at_call 138; refine CI.out.mono ?_; rintro e w2 ⟨rfl, hp, hc⟩; have P2 := hidOf hp; have C2 := hidOf hc; have O2 : Hid (Out w0 w2) := hidOf (Chg.out hc (Hw.out.trans O1.out) (fun k hk => by rw [hk]; omega)); have Z2 := hidOf ((hc.block w.heap.size (Array.getElem?_eq_some_iff.1 B1.out).1 (fun e => by omega)).trans B1.out); clear hp hc) | (go_at_call 137; refine (CP.out _ O2.out).mono ?_; rintro e w3 ⟨rfl, ho⟩; have O3 := hidOf ho; have Z3 := hidOf ((ho.block _ (Array.getElem?_eq_some_iff.1 Z2.out).1).trans Z2.out); clear ho))
    obtain ⟨w4, hw4⟩ : ∃ w4, w4 = w3.alloc (.cells #[.int .i64 o, .int .i64 d, .int .i64 s, .int .i64 f, .int .i64 i] 58) := ⟨_, rfl⟩
    have O4 : Hid (Out w3 w4) := hidOf (by rw [hw4]; exact (Out.refl w3).alloc _)
    have b4 : w4.heap[w3.heap.size]? = some (.cells #[.int .i64 o, .int .i64 d, .int .i64 s, .int .i64 f, .int .i64 i] 58 (0, 0)) := by rw [hw4]; exact heap_alloc_new w3 _
    rw [← hw4]
    have m0 : w4.cell? ⟨w3.heap.size, 0, none⟩ = some (.int .i64 o) := by rw [cell_atL b4]; rfl
    have m1 : w4.cell? ⟨w3.heap.size, 1, none⟩ = some (.int .i64 d) := by rw [cell_atL b4]; rfl
    have m2 : w4.cell? ⟨w3.heap.size, 2, none⟩ = some (.int .i64 s) := by rw [cell_atL b4]; rfl
    have m3 : w4.cell? ⟨w3.heap.size, 3, none⟩ = some (.int .i64 f) := by rw [cell_atL b4]; rfl
    have m4 : w4.cell? ⟨w3.heap.size, 4, none⟩ = some (.int .i64 i) := by rw [cell_atL b4]; rfl
    have z4 : w4.heap[w.heap.size]? = some (.cells #[.int .i64 0, .string ⟨#[]⟩, .slice none 0 0, .slice none 0 0, .int .i64 0, .int .i64 0, .int .i64 0, .int .i64 0, .int .i64 0, .string ⟨#[]⟩, .int .i64 0] 60 (0, 0)) := (O4.out.block _ (Array.getElem?_eq_some_iff.1 Z3.out).1).trans Z3.out
    have z4_0 : w4.cell? ⟨w.heap.size, 0, none⟩ = some (.int .i64 0) := by rw [cell_atL z4]; rfl
    have z4_1 : w4.cell? ⟨w.heap.size, 1, none⟩ = some (.string ⟨#[]⟩) := by rw [cell_atL z4]; rfl
    have z4_2 : w4.cell? ⟨w.heap.size, 2, none⟩ = some (.slice none 0 0) := by rw [cell_atL z4]; rfl
    have z4_3 : w4.cell? ⟨w.heap.size, 3, none⟩ = some (.slice none 0 0) := by rw [cell_atL z4]; rfl
    have z4_4 : w4.cell? ⟨w.heap.size, 4, none⟩ = some (.int .i64 0) := by rw [cell_atL z4]; rfl
    have z4_5 : w4.cell? ⟨w.heap.size, 5, none⟩ = some (.int .i64 0) := by rw [cell_atL z4]; rfl
    have z4_6 : w4.cell? ⟨w.heap.size, 6, none⟩ = some (.int .i64 0) := by rw [cell_atL z4]; rfl
    have z4_7 : w4.cell? ⟨w.heap.size, 7, none⟩ = some (.int .i64 0) := by rw [cell_atL z4]; rfl
    have z4_8 : w4.cell? ⟨w.heap.size, 8, none⟩ = some (.int .i64 0) := by rw [cell_atL z4]; rfl
    have z4_9 : w4.cell? ⟨w.heap.size, 9, none⟩ = some (.string ⟨#[]⟩) := by rw [cell_atL z4]; rfl
    have z4_10 : w4.cell? ⟨w.heap.size, 10, none⟩ = some (.int .i64 0) := by rw [cell_atL z4]; rfl
    have f4_0 := frozen_atL z4 0
    have f4_1 := frozen_atL z4 1
    have f4_2 := frozen_atL z4 2
    have f4_3 := frozen_atL z4 3
    have f4_4 := frozen_atL z4 4
    have f4_5 := frozen_atL z4 5
    have f4_6 := frozen_atL z4 6
    have f4_7 := frozen_atL z4 7
    have f4_8 := frozen_atL z4 8
    have f4_9 := frozen_atL z4 9
    have f4_10 := frozen_atL z4 10
    have HZ := hidOf z4
    clear hw4 b4 z4
    go_wp2
    have c3 := set11_chg w4 w.heap.size (.int .i64 6) (.string ⟨#[]⟩) (.slice none 0 0) (.slice none 0 0) (.int .i64 o) (.int .i64 d) (.int .i64 s) (.int .i64 f) (.int .i64 i) (.string ⟨tg.toArray⟩) (.int .i64 0)
    have b3 := set11_heap (a0 := .int .i64 6) (a1 := .string ⟨#[]⟩) (a2 := .slice none 0 0) (a3 := .slice none 0 0) (a4 := .int .i64 o) (a5 := .int .i64 d) (a6 := .int .i64 s) (a7 := .int .i64 f) (a8 := .int .i64 i) (a9 := .string ⟨tg.toArray⟩) (a10 := .int .i64 0) HZ.out
    refine bodyPost_ret (results_cell_row rfl _ _ w.heap.size 60 _ (0, 0) _ rfl b3 Tryz.underlying60 rfl size11) rfl ?_
    have PE := (P2.out.out O3.out).out O4.out
    refine ⟨_, _, rfl, LsOk.nil B _ _ rfl rfl, PE.setq c3 (fun e => by omega) (fun e => by omega), (Chg.then2 (Chg.then2 (Chg.of_out O1.out) C2.out) (Chg.of_out (O3.out.trans O4.out))).trans c3 (fun x hx hlt => by omega)⟩
  rw [if_neg he]
  by_cases h40 : ec = 40
  · subst h40
    rw [if_pos rfl]
    clear he
    go_enter Tryz.func98, Tryz.ntmps98
    go_upto_region 1 with fail
    rw [← Hw1.out]
    go_upto_region 2 with (first | (go_at_call 138; refine CI.out.mono ?_; rintro e w2 ⟨rfl, hp, hc⟩; have P2 := hidOf hp; have C2 := hidOf hc; have O2 : Hid (Out w0 w2) := hidOf (Chg.out hc (Hw.out.trans O1.out) (fun k hk => by rw [hk]; omega)); have Z2 := hidOf ((hc.block w.heap.size (Array.getElem?_eq_some_iff.1 B1.out).1 (fun e => by omega)).trans B1.out); clear hp hc) | (go_at_call 137; refine (CP.out _ O2.out).mono ?_; rintro e w3 ⟨rfl, ho⟩; have O3 := hidOf ho; have Z3 := hidOf ((ho.block _ (Array.getElem?_eq_some_iff.1 Z2.out).1).trans Z2.out); clear ho))
    obtain ⟨w4, hw4⟩ : ∃ w4, w4 = w3.alloc (.cells #[.int .i64 o, .int .i64 d, .int .i64 s, .int .i64 f, .int .i64 i] 58) := ⟨_, rfl⟩
    have O4 : Hid (Out w3 w4) := hidOf (by rw [hw4]; exact (Out.refl w3).alloc _)
    have b4 : w4.heap[w3.heap.size]? = some (.cells #[.int .i64 o, .int .i64 d, .int .i64 s, .int .i64 f, .int .i64 i] 58 (0, 0)) := by rw [hw4]; exact heap_alloc_new w3 _
    rw [← hw4]
    clear hw4 b4
    go_wp2
    exact ⟨rfl, rfl, (P2.out.out O3.out).out O4.out, Chg.then2 (Chg.then2 (Chg.of_out O1.out) C2.out) (Chg.of_out (O3.out.trans O4.out))⟩
  · rw [if_neg h40]
    have hb0 : (ec == 0) = false := by simp [he]
    have hb4 : (ec == 40) = false := by simp [h40]
    clear he h40
    go_enter Tryz.func98, Tryz.ntmps98
    go_upto_region 1 with fail
    rw [← Hw1.out]
    go_upto_region 2 with (first | (go_at_call 138; refine CI.out.mono ?_; rintro e w2 ⟨rfl, hp, hc⟩; have P2 := hidOf hp; have C2 := hidOf hc; have O2 : Hid (Out w0 w2) := hidOf (Chg.out hc (Hw.out.trans O1.out) (fun k hk => by rw [hk]; omega)); have Z2 := hidOf ((hc.block w.heap.size (Array.getElem?_eq_some_iff.1 B1.out).1 (fun e => by omega)).trans B1.out); clear hp hc) | (go_at_call 137; refine (CP.out _ O2.out).mono ?_; rintro e w3 ⟨rfl, ho⟩; have O3 := hidOf ho; have Z3 := hidOf ((ho.block _ (Array.getElem?_eq_some_iff.1 Z2.out).1).trans Z2.out); clear ho))
    obtain ⟨w4, hw4⟩ : ∃ w4, w4 = w3.alloc (.cells #[.int .i64 o, .int .i64 d, .int .i64 s, .int .i64 f, .int .i64 i] 58) := ⟨_, rfl⟩
    have O4 : Hid (Out w3 w4) := hidOf (by rw [hw4]; exact (Out.refl w3).alloc _)
    have b4 : w4.heap[w3.heap.size]? = some (.cells #[.int .i64 o, .int .i64 d, .int .i64 s, .int .i64 f, .int .i64 i] 58 (0, 0)) := by rw [hw4]; exact heap_alloc_new w3 _
    rw [← hw4]
    clear hw4 b4
    go_wp2
    exact ⟨rfl, rfl, (P2.out.out O3.out).out O4.out, Chg.then2 (Chg.then2 (Chg.of_out O1.out) C2.out) (Chg.of_out (O3.out.trans O4.out))⟩
structure LS (B : Nat) (w wr : World) (p g mb : Nat) (sv : Value) (L : List Stm) (r : List Lx.Tk) : Prop where
  ps : PS B wr p g mb sv r
  ow : OwQ B sv L wr
  ch : Chg (KQ B w) w wr
theorem LS.on {B : Nat} {w wr w' : World} {p g mb : Nat} {sv : Value} {L : List Stm} {r r' : List Lx.Tk} (h : LS B w wr p g mb sv L r) (hp : PS B w' p g mb sv r') (c : Chg (fun b => b = p) wr w') : LS B w w' p g mb sv L r' := by
  obtain ⟨tv, hR⟩ := h.ps.rb
  exact ⟨hp, h.ow.atp hR c, KQ.chain h.ch (c.mono (fun x hx _ => by rw [hx]; exact h.ps.kq))⟩
theorem LS.out {B : Nat} {w wr w' : World} {p g mb : Nat} {sv : Value} {L : List Stm} {r : List Lx.Tk} (h : LS B w wr p g mb sv L r) (o : Out wr w') : LS B w w' p g mb sv L r := h.on (h.ps.out o) (Chg.of_out o)
theorem LS.then_ {B : Nat} {w wr w' : World} {p g mb : Nat} {sv sv' : Value} {L L' : List Stm} {r r' : List Lx.Tk} (h : LS B w wr p g mb sv L r) (hp : PS B w' p g mb sv' r') (ho : OwQ B sv' L' w') (c : Chg (KQ B wr) wr w') : LS B w w' p g mb sv' L' r' := ⟨hp, ho, KQ.chain h.ch c⟩
def LEnd (x : RE (List Stm)) (B : Nat) (w : World) (p g mb : Nat) (e : Ending) (w' : World) : Prop :=
  match x with
  | .ok o ts => (∃ q, e = .returned q) ∧ ∃ sv', LS B w w' p g mb sv' o ts
  | .no c ts => e = pnc c ∧ ∃ sv' L, LS B w w' p g mb sv' L ts
theorem tk_ok {k : Int} {t : Lx.Tk} {r : List Lx.Tk} (h : t.k = k) : tkQ k (t :: r) = .ok t r := by
  show (if t.k = k then RE.ok t r else RE.no 60 (t :: r)) = _
  rw [if_pos h]
theorem lb_step {L : List Stm} {t u : Lx.Tk} {r : List Lx.Tk} (h : atlB (t :: u :: r) = true) : lbQ L (t :: u :: r) = lbQ (L ++ [{ nmS 1 t.t with l := u.l }]) r ∧ t.k = 1 ∧ u.k = 4 := by
  unfold atlB at h
  simp at h
  refine ⟨?_, h.1, col_kind h.2⟩
  conv => lhs; unfold lbQ
  rw [if_pos ⟨h.1, h.2⟩]
theorem lb_stop {L : List Stm} {t u : Lx.Tk} {r : List Lx.Tk} (h : atlB (t :: u :: r) = false) : lbQ L (t :: u :: r) = (L, t :: u :: r) := by
  unfold atlB at h
  simp at h
  unfold lbQ
  rw [if_neg (fun e => by rw [h e.1] at e; exact absurd e.2 (by simp))]
set_option maxRecDepth 20000 in
set_option maxHeartbeats 8000000 in
theorem line6_any (w0 : World) (B : Nat) (hB0 : w0.heap.size ≤ B) (hpw : Lx.Pow w0) (hE0 : PEnv w0) (w : World) (hw : Out w0 w) (p g mb : Nat) (sv : Value) (out : List Stm) (ts : List Lx.Tk) (h : PS B w p g mb sv ts) (ho : OwQ B sv out w) (hl : Lw ts) (hN : TkOk ts) (hD : DirM w mb) (hB : B ≤ w.heap.size) (hlen : out.length + ts.length ≤ 1000000000) :
    Calls Tryz.prog 64 #[.pointer (some ⟨p, 0, none⟩)] w (LEnd (lnQ out ts) B w p g mb) := by
  obtain ⟨X, hX⟩ : ∃ X, X = lnQ out ts := ⟨_, rfl⟩
  rw [← hX]
  have HX : Hid (X = (stQ (lbQ out ts).1 (lbQ out ts).2).bind fun o r => (tkQ 5 r).bind fun _ r => .ok o r) := hidOf (by rw [hX]; rfl)
  have HS : Hid (LS B w w p g mb sv out ts) := hidOf ⟨h, ho, Chg.refl _ _⟩
  have Hw := hidOf hw
  have HL := hidOf hl
  have HN := hidOf hN
  have HD := hidOf hD
  have Hpw := hidOf hpw
  have HE0 := hidOf hE0
  clear hX h ho hl hN hD hw hpw hE0
  go_enter Tryz.func64, Tryz.ntmps64
  go_upto_region 0 with fail
  go_loopw [] (fun wr => ∃ (L : List Stm) (r : List Lx.Tk) (sv' : Value), Hid (LS B w wr p g mb sv' L r) ∧ Hid (Lw r) ∧ Hid (TkOk r) ∧ Hid (lbQ out ts = lbQ L r) ∧ L.length + r.length ≤ 1000000000) (fun wr => leftOf p wr)
  case atStart => exact ⟨out, ts, sv, HS, HL, HN, hidOf rfl, hlen⟩
  case round =>
    clear HS HL HN hlen sv
    obtain ⟨L, r, sv, HS, HL, HN, HQ, hlen⟩ := hrel
    obtain ⟨t, u, r', rfl⟩ := HL.out.two
    have CL := hidOf (atLabel_any B wr p g mb sv _ HS.out.ps HL.out)
    have hBr : B ≤ wr.heap.size := Nat.le_trans hB HS.out.ch.size
    cases hat : atlB (t :: u :: r') with
    | true =>
      rw [hat] at CL
      obtain ⟨e1, hk1, hk4⟩ := lb_step (L := L) hat
      have HQ1 : Hid (lbQ out ts = lbQ (L ++ [{ nmS 1 t.t with l := u.l }]) r') := hidOf (HQ.out.trans e1)
      have hL1 : Lw (u :: r') := HL.out.next (by rw [hk1]; decide)
      have HL1 := hidOf hL1
      have HL2 := hidOf (hL1.next (by rw [hk4]; decide))
      have HN2 := hidOf (tkOk_clo _ _ (tkOk_clo _ _ HN.out))
      have CW : Hid (∀ wx, PS B wx p g mb sv (t :: u :: r') → Calls Tryz.prog 96 #[.pointer (some ⟨p, 0, none⟩)] wx fun e w' => e = .returned (.string ⟨t.t.toArray⟩) ∧ PS B w' p g mb sv (u :: r') ∧ Chg (fun b => b = p) wx w') := hidOf (fun wx hp => by
        have := word_any B wx p g mb sv _ hp HL.out
        rw [show wdQ (t :: u :: r') = .ok t.t (u :: r') by unfold wdQ; rw [tk_ok hk1]; rfl] at this
        exact this)
      have CA : Hid (∀ wx, LS B w wx p g mb sv L (u :: r') → Calls Tryz.prog 95 #[.pointer (some ⟨p, 0, none⟩), .agg #[.int .i64 1, .string ⟨t.t.toArray⟩, .slice none 0 0, .slice none 0 0, .int .i64 0, .int .i64 0, .int .i64 0, .int .i64 0, .int .i64 0, .string ⟨#[]⟩, .int .i64 0]] wx fun e w' => (∃ q, e = .returned q) ∧ ∃ sv', LS B w w' p g mb sv' (L ++ [{ nmS 1 t.t with l := u.l }]) (u :: r')) := hidOf (fun wx hs => by
        refine (add6_any B wx p g mb sv u r' L (nmS 1 t.t) (.slice none 0 0) (.slice none 0 0) hs.ps hs.ow (LsOk.nil B _ _ rfl rfl) (by omega) (Nat.le_trans hB hs.ch.size)).mono ?_
        rintro e w' ⟨he, sv', hp, ho, hc⟩
        exact ⟨he, sv', hs.then_ hp ho hc⟩)
      have CK : Hid (∀ wx sv', PS B wx p g mb sv' (u :: r') → Calls Tryz.prog 97 #[.pointer (some ⟨p, 0, none⟩), .int .i64 4] wx fun e w' => e = .returned (tkE u) ∧ PS B w' p g mb sv' r' ∧ Chg (fun b => b = p) wx w') := hidOf (fun wx sv' hp => by
        have := take_any B wx p g mb sv' _ 4 hp HL1.out
        rw [show tkQ 4 (u :: r') = .ok u r' from tk_ok hk4] at this
        exact this)
      clear hat e1 hk1 hk4 hL1
      go_wp2_with (first | (go_at_call 94; refine CL.out.mono ?_; rintro e wa ⟨rfl, hoa⟩; have SA := hidOf (HS.out.out hoa); clear hoa) | (go_at_call 96; refine (CW.out _ SA.out.ps).mono ?_; rintro e wb ⟨rfl, hp, hc⟩; have SB := hidOf (SA.out.on hp hc); clear hp hc) | (go_at_call 95; refine (CA.out _ SB.out).mono ?_; rintro e wc ⟨⟨qc, rfl⟩, svc, hs⟩; have SC := hidOf hs; clear hs) | (go_at_call 97; refine (CK.out _ _ SC.out.ps).mono ?_; rintro e wd ⟨rfl, hp, hc⟩; have SD := hidOf (SC.out.on hp hc); clear hp hc))
      go_roundw
      case rel =>
        exact ⟨_, r', svc, SD, HL2, HN2, HQ1, by simp at hlen ⊢; omega⟩
      case measure =>
        rw [SD.out.ps.left, HS.out.ps.left]
        show r'.length < (t :: u :: r').length
        simp only [List.length_cons]
        omega
    | false =>
      rw [hat] at CL
      have HQ1 : Hid (X = (stQ L (t :: u :: r')).bind fun o r => (tkQ 5 r).bind fun _ r => .ok o r) := hidOf (by rw [HX.out, HQ.out, lb_stop hat])
      clear hat
      obtain ⟨n, hn⟩ : ∃ n, n = (t :: u :: r').length := ⟨_, rfl⟩
      have hnI : (2 : Int) ≤ n := by rw [hn]; simp; omega
      have CELL : Hid (∀ wx, LS B w wx p g mb sv L (t :: u :: r') → ∃ off cap, wx.cell? ⟨p, 0, none⟩ = some (.slice (some ⟨g, off, none⟩) n cap) ∧ wx.cell? ⟨g, off, none⟩ = some (.int .i64 t.k)) := hidOf (fun wx hs => by
        obtain ⟨off, cap, hR, hT, hc⟩ := hs.ps.st
        obtain ⟨q0, -, -, -⟩ := hT 0 t rfl
        simp only [Nat.zero_mul, Nat.add_zero] at q0
        rw [hn]
        exact ⟨off, cap, by rw [cell_atL hR]; rfl, q0⟩)
      have Hn := hidOf hn
      clear hn
      by_cases h5 : t.k = 5
      · have hkb : (t.k == 5) = true := by simp [h5]
        have HE : Hid (X = .ok L (u :: r')) := hidOf (by
          rw [HQ1.out]
          unfold stQ
          rw [if_pos (show kindQ (t :: u :: r') = 5 from h5), bind_ok]
          rw [tk_ok h5]
          rfl)
        have CK : Hid (∀ wx, PS B wx p g mb sv (t :: u :: r') → Calls Tryz.prog 97 #[.pointer (some ⟨p, 0, none⟩), .int .i64 5] wx fun e w' => e = .returned (tkE t) ∧ PS B w' p g mb sv (u :: r') ∧ Chg (fun b => b = p) wx w') := hidOf (fun wx hp => by
          have := take_any B wx p g mb sv _ 5 hp HL.out
          rw [show tkQ 5 (t :: u :: r') = .ok t (u :: r') from tk_ok h5] at this
          exact this)
        clear h5
        go_upto_region 3 with (go_at_call 94; refine CL.out.mono ?_; rintro e wa ⟨rfl, hoa⟩; have SA := hidOf (HS.out.out hoa); clear hoa)
        obtain ⟨off, cap, c0, q0⟩ := CELL.out _ SA.out
        go_wp2_with (go_at_call 97; refine (CK.out _ SA.out.ps).mono ?_; rintro e wd ⟨rfl, hp, hc⟩; have SD := hidOf (SA.out.on hp hc); clear hp hc)
        go_end0
        rw [HE.out]
        exact ⟨⟨_, rfl⟩, sv, SD.out⟩
      have hk5 : (t.k == 5) = false := by simp [h5]
      have HQ2 : Hid (X = ((if kindQ (t :: u :: r') = 1 then inQ (t :: u :: r') else dirQ (t :: u :: r')).bind fun s r => .ok (L ++ [{ s with l := lineQ r }]) r).bind fun o r => (tkQ 5 r).bind fun _ r => .ok o r) := hidOf (by
        rw [HQ1.out]
        unfold stQ
        rw [if_neg (show ¬ kindQ (t :: u :: r') = 5 from h5)])
      clear HQ1 h5
      by_cases h1 : t.k = 1
      · have hk1 : (t.k == 1) = true := by simp [h1]
        have HQ3 : Hid (X = ((inQ (t :: u :: r')).bind fun s r => .ok (L ++ [{ s with l := lineQ r }]) r).bind fun o r => (tkQ 5 r).bind fun _ r => .ok o r) := hidOf (by rw [HQ2.out, if_pos (show kindQ (t :: u :: r') = 1 from h1)])
        have hlz : (inQ (t :: u :: r')).lw := inQ_lw HL.out
        have CI : Hid (∀ wx, LS B w wx p g mb sv L (t :: u :: r') → Calls Tryz.prog 98 #[.pointer (some ⟨p, 0, none⟩)] wx (REndS (inQ (t :: u :: r')) B wx p g mb sv)) := hidOf (fun wx hs => instruction_any w0 B hB0 Hpw.out HE0.out wx (KQ.out hs.ch Hw.out hB0) p g mb sv _ hs.ps HL.out HN.out (by omega))
        generalize inQ (t :: u :: r') = Z at CI HQ3 hlz
        clear HQ2 h1
        cases Z with
        | no c r2 =>
          have HE : Hid (X = .no c r2) := hidOf HQ3.out
          have CI : Hid (∀ wx, LS B w wx p g mb sv L (t :: u :: r') → Calls Tryz.prog 98 #[.pointer (some ⟨p, 0, none⟩)] wx fun e w' => e = .panicked [{ v := .iface 49 (.int .i64 c), recovered := false }] ∧ PS B w' p g mb sv r2 ∧ Chg (fun b => b = p) wx w') := hidOf (fun wx hs => CI.out wx hs)
          clear HQ3 hlz
          go_upto_region 3 with (go_at_call 94; refine CL.out.mono ?_; rintro e wa ⟨rfl, hoa⟩; have SA := hidOf (HS.out.out hoa); clear hoa)
          obtain ⟨off, cap, c0, q0⟩ := CELL.out _ SA.out
          go_wp2_with (go_at_call 98; refine (CI.out _ SA.out).mono ?_; rintro e wd ⟨rfl, hp, hc⟩; have SD := hidOf (SA.out.on hp hc); clear hp hc)
          rw [HE.out]
          exact ⟨rfl, rfl, sv, L, SD.out⟩
        | ok s r2 =>
          have hlz : Lw r2 := hlz
          obtain ⟨y, y2, r3, rfl⟩ := hlz.two
          obtain ⟨nw, hnw⟩ : ∃ nw, nw = s.ws.length := ⟨_, rfl⟩
          obtain ⟨nn, hnn⟩ : ∃ nn, nn = s.ns.length := ⟨_, rfl⟩
          have HQ4 : Hid (X = (tkQ 5 (y :: y2 :: r3)).bind fun _ r => .ok (L ++ [{ s with l := y.l }]) r) := hidOf HQ3.out
          have CI : Hid (∀ wx, LS B w wx p g mb sv L (t :: u :: r') → Calls Tryz.prog 98 #[.pointer (some ⟨p, 0, none⟩)] wx fun e w' => ∃ aw cw an cn, e = .returned (.agg #[.int .i64 s.k, .string ⟨s.nm.toArray⟩, .slice aw nw cw, .slice an nn cn, .int .i64 s.o, .int .i64 s.d, .int .i64 s.s, .int .i64 s.f, .int .i64 s.i, .string ⟨s.tg.toArray⟩, .int .i64 s.l]) ∧ LsOk B w' s (.slice aw nw cw) (.slice an nn cn) ∧ PS B w' p g mb sv (y :: y2 :: r3) ∧ Chg (fun b => b = p) wx w') := hidOf (fun wx hs => by
            refine (CI.out wx hs).mono ?_
            rintro e w' ⟨wv, nv, rfl, hls, hp', hc'⟩
            obtain ⟨aw, cw, rfl⟩ := own_form hls.1
            obtain ⟨an, cn, rfl⟩ := own_form hls.2
            rw [hnw, hnn]
            exact ⟨aw, cw, an, cn, rfl, hls, hp', hc'⟩)
          have CA : Hid (∀ wx aw cw an cn, LS B w wx p g mb sv L (y :: y2 :: r3) → LsOk B wx s (.slice aw nw cw) (.slice an nn cn) → Calls Tryz.prog 95 #[.pointer (some ⟨p, 0, none⟩), .agg #[.int .i64 s.k, .string ⟨s.nm.toArray⟩, .slice aw nw cw, .slice an nn cn, .int .i64 s.o, .int .i64 s.d, .int .i64 s.s, .int .i64 s.f, .int .i64 s.i, .string ⟨s.tg.toArray⟩, .int .i64 s.l]] wx fun e w' => (∃ q, e = .returned q) ∧ ∃ sv', LS B w w' p g mb sv' (L ++ [{ s with l := y.l }]) (y :: y2 :: r3)) := hidOf (fun wx aw cw an cn hs hx => by
            refine (add6_any B wx p g mb sv y (y2 :: r3) L s (.slice aw nw cw) (.slice an nn cn) hs.ps hs.ow hx (by omega) (Nat.le_trans hB hs.ch.size)).mono ?_
            rintro e w' ⟨he, sv', hp, ho, hc⟩
            exact ⟨he, sv', hs.then_ hp ho hc⟩)
          have CK0 : Hid (∀ wx sv', PS B wx p g mb sv' (y :: y2 :: r3) → Calls Tryz.prog 97 #[.pointer (some ⟨p, 0, none⟩), .int .i64 5] wx (REnd tkE (tkQ 5 (y :: y2 :: r3)) B wx p g mb sv')) := hidOf (fun wx sv' hp => take_any B wx p g mb sv' _ 5 hp hlz)
          clear HQ3 hlz hnw hnn
          cases hz : tkQ 5 (y :: y2 :: r3) with
          | no c r4 =>
            have HE : Hid (X = .no c r4) := hidOf (by rw [HQ4.out, hz]; rfl)
            have CK : Hid (∀ wx sv', PS B wx p g mb sv' (y :: y2 :: r3) → Calls Tryz.prog 97 #[.pointer (some ⟨p, 0, none⟩), .int .i64 5] wx fun e w' => e = .panicked [{ v := .iface 49 (.int .i64 c), recovered := false }] ∧ PS B w' p g mb sv' r4 ∧ Chg (fun b => b = p) wx w') := hidOf (fun wx sv' hp => by have := CK0.out wx sv' hp; rw [hz] at this; exact this)
            clear hz HQ4 CK0
            go_upto_region 3 with (go_at_call 94; refine CL.out.mono ?_; rintro e wa ⟨rfl, hoa⟩; have SA := hidOf (HS.out.out hoa); clear hoa)
            obtain ⟨off, cap, c0, q0⟩ := CELL.out _ SA.out
            go_wp2_with (first | (go_at_call 98; refine (CI.out _ SA.out).mono ?_; rintro e wb ⟨aw, cw, an, cn, rfl, hls, hp, hc⟩; have SB := hidOf (SA.out.on hp hc); have LB := hidOf hls; clear hp hc hls) | (go_at_call 95; refine (CA.out _ _ _ _ _ SB.out LB.out).mono ?_; rintro e wc ⟨⟨qc, rfl⟩, svc, hs⟩; have SC := hidOf hs; clear hs) | (go_at_call 97; refine (CK.out _ _ SC.out.ps).mono ?_; rintro e wd ⟨rfl, hp, hc⟩; have SD := hidOf (SC.out.on hp hc); clear hp hc))
            rw [HE.out]
            exact ⟨rfl, rfl, svc, _, SD.out⟩
          | ok a r4 =>
            have HE : Hid (X = .ok (L ++ [{ s with l := y.l }]) r4) := hidOf (by rw [HQ4.out, hz]; rfl)
            have CK : Hid (∀ wx sv', PS B wx p g mb sv' (y :: y2 :: r3) → Calls Tryz.prog 97 #[.pointer (some ⟨p, 0, none⟩), .int .i64 5] wx fun e w' => e = .returned (tkE a) ∧ PS B w' p g mb sv' r4 ∧ Chg (fun b => b = p) wx w') := hidOf (fun wx sv' hp => by have := CK0.out wx sv' hp; rw [hz] at this; exact this)
            clear hz HQ4 CK0
            go_upto_region 3 with (go_at_call 94; refine CL.out.mono ?_; rintro e wa ⟨rfl, hoa⟩; have SA := hidOf (HS.out.out hoa); clear hoa)
            obtain ⟨off, cap, c0, q0⟩ := CELL.out _ SA.out
            go_wp2_with (first | (go_at_call 98; refine (CI.out _ SA.out).mono ?_; rintro e wb ⟨aw, cw, an, cn, rfl, hls, hp, hc⟩; have SB := hidOf (SA.out.on hp hc); have LB := hidOf hls; clear hp hc hls) | (go_at_call 95; refine (CA.out _ _ _ _ _ SB.out LB.out).mono ?_; rintro e wc ⟨⟨qc, rfl⟩, svc, hs⟩; have SC := hidOf hs; clear hs) | (go_at_call 97; refine (CK.out _ _ SC.out.ps).mono ?_; rintro e wd ⟨rfl, hp, hc⟩; have SD := hidOf (SC.out.on hp hc); clear hp hc))
            go_end0
            rw [HE.out]
            exact ⟨⟨_, rfl⟩, svc, SD.out⟩
      · have hk1 : (t.k == 1) = false := by simp [h1]
        have HQ3 : Hid (X = ((dirQ (t :: u :: r')).bind fun s r => .ok (L ++ [{ s with l := lineQ r }]) r).bind fun o r => (tkQ 5 r).bind fun _ r => .ok o r) := hidOf (by rw [HQ2.out, if_neg (show ¬ kindQ (t :: u :: r') = 1 from h1)])
        have hlz : (dirQ (t :: u :: r')).lw := dirQ_lw HL.out
        have CI : Hid (∀ wx, LS B w wx p g mb sv L (t :: u :: r') → Calls Tryz.prog 99 #[.pointer (some ⟨p, 0, none⟩)] wx (REndS (dirQ (t :: u :: r')) B wx p g mb sv)) := hidOf (fun wx hs => directive_any B wx p g mb sv _ hs.ps HL.out HN.out (HD.out.kq hs.ch) (Nat.le_trans hB hs.ch.size))
        generalize dirQ (t :: u :: r') = Z at CI HQ3 hlz
        clear HQ2 h1
        cases Z with
        | no c r2 =>
          have HE : Hid (X = .no c r2) := hidOf HQ3.out
          have CI : Hid (∀ wx, LS B w wx p g mb sv L (t :: u :: r') → Calls Tryz.prog 99 #[.pointer (some ⟨p, 0, none⟩)] wx fun e w' => e = .panicked [{ v := .iface 49 (.int .i64 c), recovered := false }] ∧ PS B w' p g mb sv r2 ∧ Chg (fun b => b = p) wx w') := hidOf (fun wx hs => CI.out wx hs)
          clear HQ3 hlz
          go_upto_region 3 with (go_at_call 94; refine CL.out.mono ?_; rintro e wa ⟨rfl, hoa⟩; have SA := hidOf (HS.out.out hoa); clear hoa)
          obtain ⟨off, cap, c0, q0⟩ := CELL.out _ SA.out
          go_wp2_with (go_at_call 99; refine (CI.out _ SA.out).mono ?_; rintro e wd ⟨rfl, hp, hc⟩; have SD := hidOf (SA.out.on hp hc); clear hp hc)
          rw [HE.out]
          exact ⟨rfl, rfl, sv, L, SD.out⟩
        | ok s r2 =>
          have hlz : Lw r2 := hlz
          obtain ⟨y, y2, r3, rfl⟩ := hlz.two
          obtain ⟨nw, hnw⟩ : ∃ nw, nw = s.ws.length := ⟨_, rfl⟩
          obtain ⟨nn, hnn⟩ : ∃ nn, nn = s.ns.length := ⟨_, rfl⟩
          have HQ4 : Hid (X = (tkQ 5 (y :: y2 :: r3)).bind fun _ r => .ok (L ++ [{ s with l := y.l }]) r) := hidOf HQ3.out
          have CI : Hid (∀ wx, LS B w wx p g mb sv L (t :: u :: r') → Calls Tryz.prog 99 #[.pointer (some ⟨p, 0, none⟩)] wx fun e w' => ∃ aw cw an cn, e = .returned (.agg #[.int .i64 s.k, .string ⟨s.nm.toArray⟩, .slice aw nw cw, .slice an nn cn, .int .i64 s.o, .int .i64 s.d, .int .i64 s.s, .int .i64 s.f, .int .i64 s.i, .string ⟨s.tg.toArray⟩, .int .i64 s.l]) ∧ LsOk B w' s (.slice aw nw cw) (.slice an nn cn) ∧ PS B w' p g mb sv (y :: y2 :: r3) ∧ Chg (fun b => b = p) wx w') := hidOf (fun wx hs => by
            refine (CI.out wx hs).mono ?_
            rintro e w' ⟨wv, nv, rfl, hls, hp', hc'⟩
            obtain ⟨aw, cw, rfl⟩ := own_form hls.1
            obtain ⟨an, cn, rfl⟩ := own_form hls.2
            rw [hnw, hnn]
            exact ⟨aw, cw, an, cn, rfl, hls, hp', hc'⟩)
          have CA : Hid (∀ wx aw cw an cn, LS B w wx p g mb sv L (y :: y2 :: r3) → LsOk B wx s (.slice aw nw cw) (.slice an nn cn) → Calls Tryz.prog 95 #[.pointer (some ⟨p, 0, none⟩), .agg #[.int .i64 s.k, .string ⟨s.nm.toArray⟩, .slice aw nw cw, .slice an nn cn, .int .i64 s.o, .int .i64 s.d, .int .i64 s.s, .int .i64 s.f, .int .i64 s.i, .string ⟨s.tg.toArray⟩, .int .i64 s.l]] wx fun e w' => (∃ q, e = .returned q) ∧ ∃ sv', LS B w w' p g mb sv' (L ++ [{ s with l := y.l }]) (y :: y2 :: r3)) := hidOf (fun wx aw cw an cn hs hx => by
            refine (add6_any B wx p g mb sv y (y2 :: r3) L s (.slice aw nw cw) (.slice an nn cn) hs.ps hs.ow hx (by omega) (Nat.le_trans hB hs.ch.size)).mono ?_
            rintro e w' ⟨he, sv', hp, ho, hc⟩
            exact ⟨he, sv', hs.then_ hp ho hc⟩)
          have CK0 : Hid (∀ wx sv', PS B wx p g mb sv' (y :: y2 :: r3) → Calls Tryz.prog 97 #[.pointer (some ⟨p, 0, none⟩), .int .i64 5] wx (REnd tkE (tkQ 5 (y :: y2 :: r3)) B wx p g mb sv')) := hidOf (fun wx sv' hp => take_any B wx p g mb sv' _ 5 hp hlz)
          clear HQ3 hlz hnw hnn
          cases hz : tkQ 5 (y :: y2 :: r3) with
          | no c r4 =>
            have HE : Hid (X = .no c r4) := hidOf (by rw [HQ4.out, hz]; rfl)
            have CK : Hid (∀ wx sv', PS B wx p g mb sv' (y :: y2 :: r3) → Calls Tryz.prog 97 #[.pointer (some ⟨p, 0, none⟩), .int .i64 5] wx fun e w' => e = .panicked [{ v := .iface 49 (.int .i64 c), recovered := false }] ∧ PS B w' p g mb sv' r4 ∧ Chg (fun b => b = p) wx w') := hidOf (fun wx sv' hp => by have := CK0.out wx sv' hp; rw [hz] at this; exact this)
            clear hz HQ4 CK0
            go_upto_region 3 with (go_at_call 94; refine CL.out.mono ?_; rintro e wa ⟨rfl, hoa⟩; have SA := hidOf (HS.out.out hoa); clear hoa)
            obtain ⟨off, cap, c0, q0⟩ := CELL.out _ SA.out
            go_wp2_with (first | (go_at_call 99; refine (CI.out _ SA.out).mono ?_; rintro e wb ⟨aw, cw, an, cn, rfl, hls, hp, hc⟩; have SB := hidOf (SA.out.on hp hc); have LB := hidOf hls; clear hp hc hls) | (go_at_call 95; refine (CA.out _ _ _ _ _ SB.out LB.out).mono ?_; rintro e wc ⟨⟨qc, rfl⟩, svc, hs⟩; have SC := hidOf hs; clear hs) | (go_at_call 97; refine (CK.out _ _ SC.out.ps).mono ?_; rintro e wd ⟨rfl, hp, hc⟩; have SD := hidOf (SC.out.on hp hc); clear hp hc))
            rw [HE.out]
            exact ⟨rfl, rfl, svc, _, SD.out⟩
          | ok a r4 =>
            have HE : Hid (X = .ok (L ++ [{ s with l := y.l }]) r4) := hidOf (by rw [HQ4.out, hz]; rfl)
            have CK : Hid (∀ wx sv', PS B wx p g mb sv' (y :: y2 :: r3) → Calls Tryz.prog 97 #[.pointer (some ⟨p, 0, none⟩), .int .i64 5] wx fun e w' => e = .returned (tkE a) ∧ PS B w' p g mb sv' r4 ∧ Chg (fun b => b = p) wx w') := hidOf (fun wx sv' hp => by have := CK0.out wx sv' hp; rw [hz] at this; exact this)
            clear hz HQ4 CK0
            go_upto_region 3 with (go_at_call 94; refine CL.out.mono ?_; rintro e wa ⟨rfl, hoa⟩; have SA := hidOf (HS.out.out hoa); clear hoa)
            obtain ⟨off, cap, c0, q0⟩ := CELL.out _ SA.out
            go_wp2_with (first | (go_at_call 99; refine (CI.out _ SA.out).mono ?_; rintro e wb ⟨aw, cw, an, cn, rfl, hls, hp, hc⟩; have SB := hidOf (SA.out.on hp hc); have LB := hidOf hls; clear hp hc hls) | (go_at_call 95; refine (CA.out _ _ _ _ _ SB.out LB.out).mono ?_; rintro e wc ⟨⟨qc, rfl⟩, svc, hs⟩; have SC := hidOf hs; clear hs) | (go_at_call 97; refine (CK.out _ _ SC.out.ps).mono ?_; rintro e wd ⟨rfl, hp, hc⟩; have SD := hidOf (SC.out.on hp hc); clear hp hc))
            go_end0
            rw [HE.out]
            exact ⟨⟨_, rfl⟩, svc, SD.out⟩
end Go.Proofs.YtkihaohdcgjioaaGreatDoor
