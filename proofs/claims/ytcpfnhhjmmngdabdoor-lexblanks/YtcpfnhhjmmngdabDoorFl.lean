import Derived.Test.YtcpfnhhjmmngdabDoorFk
namespace Go.Proofs.YtcpfnhhjmmngdabDoor
open Go.RowKit
set_option linter.unusedVariables false
set_option linter.unusedSimpArgs false
theorem tks_pre {w : World} {a : Option Addr} {T R : List Tk} (h : TksAt w a (T ++ R)) : TksAt w a T := by
  by_cases h0 : T = []
  · exact .inl h0
  · obtain ⟨b, off, rfl, hc⟩ := h.at (fun h => h0 (List.append_eq_nil_iff.1 h).1)
    exact .inr ⟨b, off, rfl, fun k x hx => hc k x (by rw [List.getElem?_append_left (List.getElem?_eq_some_iff.1 hx).1]; exact hx)⟩
theorem RestAt.later {w w' : World} {a : Option Addr} {l : List UInt8} (h : RestAt w.heap.size w a l) (o : Out w w') : RestAt w'.heap.size w' a l := by
  rcases h with h | ⟨g, q, hg, ha, hc⟩
  · exact .inl h
  · exact .inr ⟨g, q, Nat.lt_of_lt_of_le hg o.size, ha, fun k x hx => cell_later o (hc k x hx)⟩
theorem blank_P (l : List UInt8) (h : (tokensP l).2.2 = 0) : (tokensP l).2.1 = 0 ∧ ∃ T e, (tokensP l).1 = T ++ [e] ∧ NumsOk T ∧ (∀ x ∈ T, mayP x = 0 ∧ (isPiece x ∨ x.k = 5)) ∧ T.length ≤ 33554432 ∧ ∀ O, Bf T O → O.length ≤ 16777216 → (tokensP O).2.2 = 51 ∨ ((tokensP O).2.2 = 0 ∧ (tokensP O).2.1 = 0 ∧ (tokensP O).1 = T ++ [e]) := by
  have hnum := num_P l h
  unfold tokensP at h hnum
  by_cases hl : l.length ≤ 16777216
  · rw [if_pos hl] at h hnum
    by_cases h0 : (textD 0 l).1 = 0
    · rw [if_pos h0] at hnum
      have et : tokensP l = ((textD 0 l).2.2 ++ [⟨0, [], 0, (textD 0 l).2.1⟩], 0, 0) := by unfold tokensP; rw [if_pos hl, if_pos h0]
      have ef : textF l.length 0 l = (0, (textD 0 l).2.1, (textD 0 l).2.2) := by rw [← h0]; rfl
      obtain ⟨g1, g2⟩ := good_text l.length 0 l _ _ (Nat.le_refl _) ef
      obtain ⟨m1, m2⟩ := text_mem l.length 0 l _ _ (Nat.le_refl _) ef
      have hlen : (textD 0 l).2.2.length ≤ 2 * l.length := textF_len l.length 0 l
      rw [et]
      refine ⟨rfl, (textD 0 l).2.2, _, rfl, g2, m1, by omega, fun O hB hO => ?_⟩
      have hb := bl_text hB 0 [] [] Lb.nil (m2.imp (fun h => ⟨h, rfl⟩) id) g2
      simp only [List.nil_append] at hb
      rcases hb with hb | ⟨m, S, e1, e2⟩
      · left
        unfold tokensP
        rw [if_pos hO, if_neg (by rw [hb]; decide)]
        exact hb
      · right
        have eO : tokensP O = (S ++ [⟨0, [], 0, m⟩], 0, 0) := by unfold tokensP; rw [if_pos hO, e1, if_pos rfl]
        have hn2 := num_P O (by rw [eO])
        rw [eO] at hn2 ⊢
        refine ⟨rfl, rfl, num_inj _ _ 1 hn2 hnum ?_⟩
        have e2' : S.map Tk.raw = (textD 0 l).2.2.map Tk.raw := e2
        simp only [List.map_append, e2']
        rfl
    · rw [if_neg h0] at h; exact absurd h h0
  · rw [if_neg hl] at h; simp at h
set_option maxRecDepth 20000 in
set_option maxHeartbeats 4000000 in
theorem lexBlanks_walk (w : World) (hE : LEnv w) (a : Option Addr) (cap : Nat) (l : List UInt8) (hr : RestAt w.heap.size w a l) (hcap : l.length ≤ cap) (hll : l.length ≤ 140737488355328) (pa : Option Addr) (pc : Nat) (ps : List UInt8) (hpr : RestAt w.heap.size w pa ps) (hpl : ps.length ≤ 140737488355328) :
    Calls Tryd.prog 3 #[.slice a l.length cap, .slice pa ps.length pc] w fun e w' => e = .returned (.bool true) ∧ Out w w' := by
  have C1 := hidOf (tokC w hE a cap l hr hcap hll)
  have CA : Hid (∀ wx, Out w wx → Calls Tryd.prog 5 #[] wx fun e w' => e = .returned (.bool true) ∧ Out wx w') := fun wx ho => awake_any wx (hE.out ho)
  unfold TokC at C1
  by_cases h0 : (tokensP l).2.2 = 0
  · obtain ⟨f1, T, e, eT, f2, f3, f4, f5⟩ := blank_P l h0
    rw [h0, f1, eT] at C1
    simp only [List.length_append, List.length_cons, List.length_nil, Nat.zero_add] at C1
    have CB : Hid (∀ wx b cp, Out w wx → TksAt wx b T → Calls Tryd.prog 6 #[.slice b T.length cp, .slice pa ps.length pc] wx fun e w' => ∃ ra O rc, e = .returned (.slice ra O.length rc) ∧ O.length ≤ rc ∧ RestAt w'.heap.size w' ra O ∧ Bf T O ∧ O.length ≤ 100 * T.length ∧ Out wx w') := fun wx b cp ho ht => blanked_any wx (hE.out ho) b cp T ht f4 f2 f3 pa pc ps (hpr.later ho) hpl
    have CT : Hid (∀ wx ra rc (O : List UInt8), Out w wx → RestAt wx.heap.size wx ra O → O.length ≤ rc → O.length ≤ 16777216 → TokC wx ra rc O) := fun wx ra rc O ho h1 h2 h3 => tokC wx (hE.out ho) ra rc O h1 h2 (by omega)
    have CK : Hid (∀ wx b cp b' cp', TksAt wx b (T ++ [e]) → TksAt wx b' (T ++ [e]) → Calls Tryd.prog 7 #[.slice b (T.length + 1) cp, .slice b' (T.length + 1) cp', .bool true] wx fun e w' => e = .returned (.bool true) ∧ Out wx w') := fun wx b cp b' cp' h1 h2 => by
      have := alike_any wx b b' cp cp' _ _ true h1 h2 rfl (fun _ => rfl) (by simp; omega)
      simpa using this
    have HF := hidOf f5
    clear f1 f2 f3 f5 h0 eT hr hpr hE
    go_enter Tryd.func3, Tryd.ntmps3
    go_upto_region 6 with (go_at_call 4; refine C1.out.mono ?_; rintro e w1 ⟨b, cp, rfl, hcp, ht, ho⟩; have O1 := hidOf ho; have T1 := hidOf ht; clear ht ho)
    have TP := hidOf (tks_pre T1.out)
    go_upto_region 7 with (go_at_call 6; refine (CB.out w1 b cp O1.out TP.out).mono ?_; rintro e w2 ⟨ra, O, rc, rfl, hrc, hrr, hbf, hOl, ho⟩; have O2 := hidOf (Out.trans O1.out ho); have T2 := hidOf (T1.out.out ho); have HRR := hidOf hrr; have HBf := hidOf hbf; clear ho hrr hbf)
    by_cases hbig : 16777216 < O.length
    · have hbI : (16777216 : Int) < O.length := by omega
      go_wp2_with (go_at_call 5; refine (CA.out w2 O2.out).mono ?_; rintro e w3 ⟨rfl, ho⟩; have O3 := hidOf (Out.trans O2.out ho); clear ho)
      go_ret
      exact ⟨rfl, O3.out⟩
    · have hbI : ¬ (16777216 : Int) < O.length := by omega
      have CT2 := hidOf (CT.out w2 ra rc O O2.out HRR.out hrc (by omega))
      unfold TokC at CT2
      rcases HF.out O HBf.out (by omega) with h51 | ⟨k1, k2, k3⟩
      · have hb := tok_bad O (by rw [h51]; decide)
        rw [h51, hb] at CT2
        generalize (tokensP O).2.1 = at' at *
        simp only [List.length_nil] at CT2
        clear h51 hb
        go_wp2_with (first | (go_at_call 4; refine CT2.out.mono ?_; rintro e w3 ⟨b3, cp3, rfl, hcp3, ht, ho⟩; have O3 := hidOf (Out.trans O2.out ho); clear ht ho) | (go_at_call 5; refine (CA.out w3 O3.out).mono ?_; rintro e w4 ⟨rfl, ho⟩; have O4 := hidOf (Out.trans O3.out ho); clear ho))
        go_ret
        exact ⟨rfl, O4.out⟩
      · rw [k1, k2, k3] at CT2
        simp only [List.length_append, List.length_cons, List.length_nil, Nat.zero_add] at CT2
        clear k1 k2 k3
        go_upto_region 10 with (go_at_call 4; refine CT2.out.mono ?_; rintro e w3 ⟨b3, cp3, rfl, hcp3, ht, ho⟩; have O3 := hidOf (Out.trans O2.out ho); have T3 := hidOf ht; have U3 := hidOf (T2.out.out ho); clear ht ho)
        go_wp2_with (first | (go_at_call 7; refine (CK.out w3 b3 cp3 b cp T3.out U3.out).mono ?_; rintro e w4 ⟨rfl, ho⟩; have O4 := hidOf (Out.trans O3.out ho); clear ho) | (go_at_call 5; refine (CA.out w4 O4.out).mono ?_; rintro e w5 ⟨rfl, ho⟩; have O5 := hidOf (Out.trans O4.out ho); clear ho))
        go_ret
        exact ⟨rfl, O5.out⟩
  · have hb := tok_bad l h0
    rw [hb] at C1
    have h0' : ((tokensP l).2.2 == 0) = false := by simpa using h0
    generalize (tokensP l).2.2 = E at *
    generalize (tokensP l).2.1 = at' at *
    simp only [List.length_nil] at C1
    clear hb hr hpr
    go_enter Tryd.func3, Tryd.ntmps3
    go_wp2_with (first | (go_at_call 4; refine C1.out.mono ?_; rintro e w1 ⟨b, cp, rfl, hcp, ht, ho⟩; have O1 := hidOf ho; clear ht ho) | (go_at_call 5; refine (CA.out w1 O1.out).mono ?_; rintro e w2 ⟨rfl, ho⟩; have O2 := hidOf (Out.trans O1.out ho); clear ho))
    go_ret
    exact ⟨rfl, O2.out⟩
end Go.Proofs.YtcpfnhhjmmngdabDoor
