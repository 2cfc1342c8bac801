import Derived.Test.YtoobdcjkhphlcaaRep
namespace Go.Proofs.Ytoobdcjkhphlcaa
open Go.RowKit
set_option linter.unusedVariables false
set_option linter.unusedSimpArgs false
/-- the tray's block at p, its list at g -/
structure Tb (w : World) (p g m : Nat) (L : List Rl) : Prop where
  hp : w.heap[p]? = some (.cells #[.slice (some ⟨g, 0, none⟩) m m] 25 (0, 0))
  hg : RowR w g L
  len_ : L.length = m
theorem Tb.ne {w : World} {p g m : Nat} {L : List Rl} (h : Tb w p g m L) : ¬ p = g := fun e => by
  have h1 := h.hp
  have h2 : w.heap[g]? = _ := h.hg
  rw [e, h2] at h1; simp at h1
theorem Tb.c0 {w : World} {p g m : Nat} {L : List Rl} (h : Tb w p g m L) : w.cell? ⟨p, 0, none⟩ = some (.slice (some ⟨g, 0, none⟩) m m) := by rw [cell_atL h.hp]; rfl
theorem Tb.ltp {w : World} {p g m : Nat} {L : List Rl} (h : Tb w p g m L) : p < w.heap.size := (Array.getElem?_eq_some_iff.1 h.hp).1
theorem Tb.out {w w' : World} {p g m : Nat} {L : List Rl} (h : Tb w p g m L) (o : Out w w') : Tb w' p g m L := ⟨(o.block p h.ltp).trans h.hp, h.hg.out o, h.len_⟩
theorem Tb.drew {w : World} {p g m : Nat} {L : List Rl} (h : Tb w p g m L) : Tb w.drew p g m L := ⟨h.hp, h.hg, h.len_⟩
theorem Tb.set {w : World} {p g m : Nat} {L : List Rl} (h : Tb w p g m L) {i : Nat} (hi : i < L.length) (a b c : Int) :
    Tb (((w.setCell ⟨g, i * 3, none⟩ (.int .i64 a)).setCell ⟨g, i * 3 + 1, none⟩ (.int .i64 b)).setCell ⟨g, i * 3 + 2, none⟩ (.int .i64 c)) p g m (L.set i ⟨a, b, c⟩) := by
  refine ⟨?_, h.hg.set hi a b c, by simpa using h.len_⟩
  rw [Below.heap_setCell _ _ _ _ h.ne, Below.heap_setCell _ _ _ _ h.ne, Below.heap_setCell _ _ _ _ h.ne]
  exact h.hp
theorem chg3 {p g : Nat} {W w : World} (h : Chg (SL p g) W w) (o : Nat) (a b c : Value) : Chg (SL p g) W (((w.setCell ⟨g, o, none⟩ a).setCell ⟨g, o + 1, none⟩ b).setCell ⟨g, o + 2, none⟩ c) :=
  ((h.setCell (p := ⟨g, o, none⟩) (.inr rfl) a).setCell (p := ⟨g, o + 1, none⟩) (.inr rfl) b).setCell (p := ⟨g, o + 2, none⟩) (.inr rfl) c
theorem Chg.then_out {S : Nat → Prop} {a b c : World} (h : Chg S a b) (o : Out b c) : Chg S a c := h.trans (T := fun _ => False) (Chg.of_out o) (fun _ hx _ => hx.elim)
theorem RlAt.keep {B B' : Nat} {S : Nat → Prop} {w w' : World} {a : Option Addr} {l : List Rl} (h : RlAt B w a l) (c : Chg S w w') (hB : B ≤ B') (hs : ¬ l = [] → ∀ ad, a = some ad → ¬ S ad.block) : RlAt B' w' a l := by
  by_cases hl : l = []
  · exact .inl hl
  · rcases h with h | ⟨b, o, hb, ha, hc⟩
    · exact .inl h
    · have hb2 : ¬ S b := hs hl ⟨b, o, none⟩ ha
      exact .inr ⟨b, o, by omega, ha, fun k x hx => c.cell (hc k x hx) hb2⟩
/-- behind lay -/
def LayEnd (w : World) (p g m : Nat) (l : List Rl) (e : Ending) (w' : World) : Prop :=
  e = .returned (.slice (some ⟨g, 0, none⟩) l.length m) ∧ Tb w' p g m (l ++ behsR l.length (m - l.length)) ∧ Chg (SL p g) w w'
def ovR (j : Nat) (L : List Rl) : List Rl := behsR 0 j ++ L.drop j
theorem ovR_len {j : Nat} {L : List Rl} (h : j ≤ L.length) : (ovR j L).length = L.length := by simp [ovR, behsR_len]; omega
theorem ovR_set {j : Nat} {L : List Rl} (h : j < L.length) : (ovR j L).set j (behR j) = ovR (j + 1) L := by
  unfold ovR
  rw [List.set_append_right _ _ (by rw [behsR_len]; exact Nat.le_refl _), behsR_len, Nat.sub_self, List.drop_eq_getElem_cons h, List.set_cons_zero, behsR_succ]
  simp
theorem ovR_end (L : List Rl) : ovR L.length L = behsR 0 L.length := by simp [ovR]
set_option maxRecDepth 20000 in
set_option maxHeartbeats 3000000 in
theorem lay_again (W : World) (p g m : Nat) (L : List Rl) (h : Tb W p g m L) (a : Option Addr) (cap : Nat) (l : List Rl) (hr : RlAt W.heap.size W a l) (hne : ¬ l = [] → ∀ ad, a = some ad → ¬ SL p g ad.block) (hm : 2 * l.length + 70 ≤ m) (hmm : m ≤ 1000000000000) :
    Calls Try.prog 24 #[.pointer (some ⟨p, 0, none⟩), .slice a l.length cap] W fun e w' => LayEnd W p g m l e w' := by
  have H : Hid (Tb W p g m (ovR 0 L)) := by rw [show ovR 0 L = L from rfl]; exact hidOf h
  have H0 := hidOf h
  have HR := hidOf hr
  have HNe := hidOf hne
  have c0 := h.c0
  have hmI : ¬ (m : Int) < 2 * (l.length : Int) + 70 := by omega
  clear h hr hne
  go_enter Try.func24, Try.ntmps24
  go_wp2
  clear c0
  have HC0 := hidOf (Chg.refl (SL p g) W)
  go_loopw [5] (fun kv wr => ∃ j : Nat, kv = .int .i64 j ∧ j ≤ m ∧ Hid (Tb wr p g m (ovR j L)) ∧ Hid (Chg (SL p g) W wr)) (fun kv _ => m - (intOf kv).toNat)
  case atStart => exact ⟨0, rfl, by omega, H, HC0⟩
  case round =>
    obtain ⟨j, rfl, hj, HB, HC⟩ := hrel
    have hLl : Hid (L.length = m) := H0.out.len_
    have d0 := HB.out.c0
    by_cases hlt : j < m
    · have hltI : (j : Int) < m := by omega
      have hjl : Hid (j < (ovR j L).length) := by have := hLl.out; rw [ovR_len (by omega)]; exact hidOf (by omega)
      obtain ⟨z, hz⟩ : ∃ z, (ovR j L)[j]? = some z := ⟨_, List.getElem?_eq_getElem hjl.out⟩
      obtain ⟨y0, y1, y2⟩ := HB.out.hg.cells hz
      have f0 := HB.out.hg.frozen (j * 3)
      have f1 := HB.out.hg.frozen (j * 3 + 1)
      have f2 := HB.out.hg.frozen (j * 3 + 2)
      have hgp : ¬ g = p := fun e => HB.out.ne e.symm
      have HOv := hidOf (ovR_set (L := L) (j := j) (by have := hLl.out; omega))
      have Hz := hidOf hz
      clear hz
      go_upto_region 6 with fail
      go_region_held3 (fun w' => w'.cell? ⟨p, 0, none⟩ = some (.slice (some ⟨g, 0, none⟩) m m)) (first | with_reducible exact d0 | with_reducible exact e0 | go_keep) (first | (go_at_call 40; refine (behind_any j (by omega) _).mono ?_; rintro e w2 ⟨rfl, h2⟩; have e0 := cell_later h2 (show (World.drew _).cell? _ = _ from d0); have B2 := hidOf (HB.out.drew.out h2); have C2 := hidOf (HC.out.drew.then_out h2); obtain ⟨x0, x1, x2⟩ := B2.out.hg.cells Hz.out; have g0 := B2.out.hg.frozen (j * 3); have g1 := B2.out.hg.frozen (j * 3 + 1); have g2 := B2.out.hg.frozen (j * 3 + 2); clear h2))
      go_wp2
      go_roundw
      case rel =>
        refine ⟨j + 1, by simp, by omega, ?_, ?_⟩
        · have h := B2.out.set hjl.out (-1 - (j : Int)) 40 j
          rw [show (⟨-1 - (j : Int), 40, j⟩ : Rl) = behR j from rfl, HOv.out] at h
          exact h
        · exact chg3 C2.out (j * 3) _ _ _
      case measure => simp [intOf]; omega
    · have hltI : ¬ (j : Int) < m := by omega
      obtain rfl : j = m := by omega
      have HB2 : Hid (Tb wr p g j (behsR 0 j)) := by
        have h := HB.out
        rw [show ovR j L = behsR 0 j by have := hLl.out; rw [← this]; exact ovR_end L] at h
        exact hidOf h
      obtain ⟨w3, hcp, hR3, hC3⟩ := run_copy_rels wr 3 g j j a l.length cap (behsR 0 j) l _ HB2.out.hg rfl (HR.out.keep HC.out (Nat.le_refl _) HNe.out) (by omega) (by rw [behsR_len]; omega)
      have HR3 := hidOf hR3
      have C3 := hidOf (Chg.trans HC.out hC3 (fun x hx _ => .inr hx))
      have B3 : Hid (Tb w3 p g j (l ++ behsR l.length (j - l.length))) := by
        rw [behsR_drop] at hR3
        refine ⟨(hC3.block p HB2.out.ltp HB2.out.ne).trans HB2.out.hp, hR3, ?_⟩
        rw [List.length_append, behsR_len]; omega
      have d3 := B3.out.c0
      have e1 : (l.length : Int) ≤ j := by omega
      clear hR3 hC3
      go_wp2
      go_ret
      exact ⟨rfl, B3.out, C3.out⟩
set_option maxRecDepth 20000 in
set_option maxHeartbeats 3000000 in
theorem lay_new (W : World) (p g m : Nat) (L : List Rl) (h : W.heap[p]? = some (.cells #[.slice none 0 0] 25 (0, 0))) (a : Option Addr) (cap : Nat) (l : List Rl) (hr : RlAt W.heap.size W a l) (hne : ¬ l = [] → ∀ ad, a = some ad → ¬ SL p g ad.block) (hg : g = W.heap.size) (hm0 : m = 4 * l.length + 140) (hL : L = List.replicate m zeroR) (hll : l.length ≤ 100000000000) :
    Calls Try.prog 24 #[.pointer (some ⟨p, 0, none⟩), .slice a l.length cap] W fun e w' => LayEnd W p g m l e w' := by
  have hplt : p < W.heap.size := (Array.getElem?_eq_some_iff.1 h).1
  have HR := hidOf hr
  have HNe := hidOf hne
  have c0 : W.cell? ⟨p, 0, none⟩ = some (.slice none 0 0) := by rw [cell_atL h]; rfl
  have f0 : W.frozen? ⟨p, 0, none⟩ = false := frozen_atL h 0
  have hmk : (Instr.makeSlice 22 (.int .i64 (4 * (l.length : Int) + 140)) (.int .i64 (4 * (l.length : Int) + 140))).run Try.prog W = .ok (.slice (some ⟨g, 0, none⟩) m m) (W.alloc (.cells (rlV L).toArray 27)) := by
    have := run_make_rels m (by omega) W
    rw [← hL, ← hg, hm0] at this
    simpa [hm0] using this
  have hsm : (0 : Int) < 2 * (l.length : Int) + 70 := by omega
  have hsz : (W.setCell ⟨p, 0, none⟩ (.slice (some ⟨g, 0, none⟩) m m)).heap.size = W.heap.size := by simp [World.setCell]
  have H : Hid (Tb ((W.setCell ⟨p, 0, none⟩ (.slice (some ⟨g, 0, none⟩) m m)).alloc (.cells (rlV L).toArray 27)) p g m (ovR 0 L)) := by
    refine ⟨?_, ?_, by rw [show ovR 0 L = L from rfl, hL]; simp⟩
    · rw [Below.heap_alloc _ _ _ (by rw [hsz]; exact hplt), set_atL h]; rfl
    · have := heap_alloc_new (W.setCell ⟨p, 0, none⟩ (.slice (some ⟨g, 0, none⟩) m m)) (.cells (rlV L).toArray 27)
      rw [hsz, ← hg] at this
      exact this
  have HC0 : Hid (Chg (SL p g) W ((W.setCell ⟨p, 0, none⟩ (.slice (some ⟨g, 0, none⟩) m m)).alloc (.cells (rlV L).toArray 27))) := (Chg.setCell (Chg.refl _ W) (p := ⟨p, 0, none⟩) (.inl rfl) _).alloc _
  have hm : 2 * l.length + 70 ≤ m := by omega
  have hmm : m ≤ 1000000000000 := by omega
  have Hx := hidOf (And.intro hg hm0)
  clear h hr hne hm0 hg hL
  go_enter Try.func24, Try.ntmps24
  go_upto_region 3 with fail
  generalize (W.setCell ⟨p, 0, none⟩ (.slice (some ⟨g, 0, none⟩) m m)).alloc (.cells (rlV L).toArray 27) = W1 at *
  clear c0 f0 hmk hsm hsz
  have H0 : Hid (L.length = m) := by have h := H.out.len_; exact hidOf h
  go_wp2
  go_loopw [5] (fun kv wr => ∃ j : Nat, kv = .int .i64 j ∧ j ≤ m ∧ Hid (Tb wr p g m (ovR j L)) ∧ Hid (Chg (SL p g) W wr)) (fun kv _ => m - (intOf kv).toNat)
  case atStart => exact ⟨0, rfl, by omega, H, HC0⟩
  case round =>
    obtain ⟨j, rfl, hj, HB, HC⟩ := hrel
    have hLl : Hid (L.length = m) := H0.out
    have d0 := HB.out.c0
    by_cases hlt : j < m
    · have hltI : (j : Int) < m := by omega
      have hjl : Hid (j < (ovR j L).length) := by have := hLl.out; rw [ovR_len (by omega)]; exact hidOf (by omega)
      obtain ⟨z, hz⟩ : ∃ z, (ovR j L)[j]? = some z := ⟨_, List.getElem?_eq_getElem hjl.out⟩
      obtain ⟨y0, y1, y2⟩ := HB.out.hg.cells hz
      have f0 := HB.out.hg.frozen (j * 3)
      have f1 := HB.out.hg.frozen (j * 3 + 1)
      have f2 := HB.out.hg.frozen (j * 3 + 2)
      have hgp : ¬ g = p := fun e => HB.out.ne e.symm
      have HOv := hidOf (ovR_set (L := L) (j := j) (by have := hLl.out; omega))
      have Hz := hidOf hz
      clear hz
      go_upto_region 6 with fail
      go_region_held3 (fun w' => w'.cell? ⟨p, 0, none⟩ = some (.slice (some ⟨g, 0, none⟩) m m)) (first | with_reducible exact d0 | with_reducible exact e0 | go_keep) (first | (go_at_call 40; refine (behind_any j (by omega) _).mono ?_; rintro e w2 ⟨rfl, h2⟩; have e0 := cell_later h2 (show (World.drew _).cell? _ = _ from d0); have B2 := hidOf (HB.out.drew.out h2); have C2 := hidOf (HC.out.drew.then_out h2); obtain ⟨x0, x1, x2⟩ := B2.out.hg.cells Hz.out; have g0 := B2.out.hg.frozen (j * 3); have g1 := B2.out.hg.frozen (j * 3 + 1); have g2 := B2.out.hg.frozen (j * 3 + 2); clear h2))
      go_wp2
      go_roundw
      case rel =>
        refine ⟨j + 1, by simp, by omega, ?_, ?_⟩
        · have h := B2.out.set hjl.out (-1 - (j : Int)) 40 j
          rw [show (⟨-1 - (j : Int), 40, j⟩ : Rl) = behR j from rfl, HOv.out] at h
          exact h
        · exact chg3 C2.out (j * 3) _ _ _
      case measure => simp [intOf]; omega
    · have hltI : ¬ (j : Int) < m := by omega
      obtain rfl : j = m := by omega
      have HB2 : Hid (Tb wr p g j (behsR 0 j)) := by
        have h := HB.out
        rw [show ovR j L = behsR 0 j by have := hLl.out; rw [← this]; exact ovR_end L] at h
        exact hidOf h
      obtain ⟨w3, hcp, hR3, hC3⟩ := run_copy_rels wr 3 g j j a l.length cap (behsR 0 j) l _ HB2.out.hg rfl (HR.out.keep HC.out (Nat.le_refl _) HNe.out) (by omega) (by rw [behsR_len]; omega)
      have HR3 := hidOf hR3
      have C3 := hidOf (Chg.trans HC.out hC3 (fun x hx _ => .inr hx))
      have B3 : Hid (Tb w3 p g j (l ++ behsR l.length (j - l.length))) := by
        rw [behsR_drop] at hR3
        refine ⟨(hC3.block p HB2.out.ltp HB2.out.ne).trans HB2.out.hp, hR3, ?_⟩
        rw [List.length_append, behsR_len]; omega
      have d3 := B3.out.c0
      have e1 : (l.length : Int) ≤ j := by omega
      clear hR3 hC3
      go_wp2
      go_ret
      exact ⟨rfl, B3.out, C3.out⟩
end Go.Proofs.Ytoobdcjkhphlcaa
