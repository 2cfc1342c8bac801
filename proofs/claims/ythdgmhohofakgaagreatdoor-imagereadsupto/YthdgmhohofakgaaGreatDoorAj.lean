import Derived.Test.YthdgmhohofakgaaGreatDoorAi
namespace Go.Proofs.YthdgmhohofakgaaGreatDoor
open Go.RowKit
open Go.Maps (Keyed)
set_option linter.unusedVariables false
set_option linter.unusedSimpArgs false
theorem cnt_tab {p : Nat} {w : World} {A B C : List (List UInt8)} {nv sv mv : Value} (t : T3 p w A B C nv sv mv) : cntOf p w = A.length := by
  obtain ⟨a, c, rfl⟩ := own_form t.nm
  have : w.cell? ⟨p, 0, none⟩ = some (.slice a A.length c) := t.cell 0
  simp [cntOf, this]
theorem Tab.cnt {p : Nat} {w : World} {N : List (List UInt8)} {F : Nat → Prop} (h : Tab p w N F) : cntOf p w = N.length := by
  obtain ⟨_, _, _, t, _⟩ := h
  exact cnt_tab t
theorem look_all {w : World} {mv : Value} {N : List (List UInt8)} (h : MapOk w mv N) (x : List UInt8) (hl : x.length ≤ 1000000000000) : ∃ (r : Option Nat), mv = .map r ∧ ∀ k, (Instr.lookup 134 (.map r) (.string ⟨x.toArray⟩) true).run Tryz.prog (w.drewN k) = .ok (.tuple #[.int .i64 (plF 1 N x : Nat), .bool (decide (x ∈ N))]) (w.drewN k) := by
  have hk := keyOf_tx x hl
  rcases h with ⟨rfl, rfl⟩ | ⟨b, D, rfl, ho, hm⟩
  · refine ⟨none, rfl, fun k => ?_⟩
    have := Maps.look_nil (w := w.drewN k) true strLaw Tryz.underlying134 (zeroI _) hk
    simpa [plF] using this
  · refine ⟨some b, rfl, fun k => ?_⟩
    have hw0 : (Lit.int .i64 0).wf = true := by decide
    have ho' : (w.drewN k).ownsMap Tryz.prog 9 PE b N.length D := ho
    obtain ⟨v, ps, hr, hv⟩ := ho'.look_ok strLaw Tryz.underlying134 (zeroI _) (zd := .lit (.int .i64 0)) (zp := []) (plainElem_int Tryz.underlying3 hw0) hk
    obtain ⟨c, rfl, hc, hwc⟩ := plainElem_int_inv Tryz.underlying3 hv
    have h1 := congrArg Prod.fst hc
    simp only at h1
    have hcc : c = (plF 1 N x : Nat) := by
      by_cases hx : x ∈ N
      · rw [(hm.2 x).2 hx] at h1
        cases h1; rfl
      · rw [Maps.atKey_of_not_has (by rw [(hm.2 x).1]; simp [hx])] at h1
        have : plF 1 N x = 0 := by
          have := plF_zero N 1 x (Nat.le_refl _)
          have : ¬ 0 < plF 1 N x := fun h => hx (this.2 h)
          omega
        rw [this]
        cases h1; rfl
    rw [hr, (hm.2 x).1, hcc]
set_option maxRecDepth 4000 in
set_option maxHeartbeats 4000000 in
theorem read_zero (g off c : Nat) (r : List UInt8) (w : World) (hg : g < w.heap.size) (hc : r.length + 1 ≤ c) (hl : r.length + 1 ≤ 1000000000000) (h : ∀ k x, ((0 : UInt8) :: r)[k]? = some x → w.cell? ⟨g, off + k, none⟩ = some (.int .u8 (x.toNat : Int))) :
    Calls Tryz.prog 58 #[.slice (some ⟨g, off, none⟩) (r.length + 1) c] w fun e w' => REnd w (0 :: r) e w' := by
  obtain ⟨l, hle⟩ : ∃ l, l = (0 : UInt8) :: r := ⟨_, rfl⟩
  have hll : l.length = r.length + 1 := by rw [hle]; rfl
  have HR : Hid (rdP l = rdR (l.drop 1) []) := by rw [hle]; rfl
  have c0 : w.cell? ⟨g, off, none⟩ = some (.int .u8 0) := h 0 0 rfl
  rw [← hle] at h ⊢
  rw [← hll] at hc hl ⊢
  have HC := hidOf h
  obtain ⟨n, hn⟩ : ∃ n, n = l.length := ⟨_, rfl⟩
  have Hn := hidOf hn
  have h1 : 1 ≤ n := by omega
  rw [← hn] at hc hl ⊢
  have h1' : (1 : Int) ≤ n := by omega
  have hcI : (n : Int) ≤ c := by omega
  have hlI : (n : Int) ≤ 1000000000000 := by omega
  have hb0 : ((n : Int) == 0) = false := by simp; omega
  have Hg := hidOf hg
  clear h hll hle hg hn
  obtain ⟨p, hp⟩ : ∃ p, p = w.heap.size := ⟨_, rfl⟩
  have HP := hidOf hp
  have HN1 : Hid (Tab p (w.alloc newO) [] (fun k => w.heap.size ≤ k) ∧ Out w (w.alloc newO)) := by
    rw [hp]
    exact ⟨(new_tab w).mono (fun k hk => by omega), (Out.refl w).alloc _⟩
  have HNew : Hid (Calls Tryz.prog 68 #[] w fun e w' => e = .returned (.pointer (some ⟨p, 0, none⟩)) ∧ w' = w.alloc newO) := by rw [hp]; exact new_any w
  clear hp
  go_enter Tryz.func58, Tryz.ntmps58
  go_upto_region 4 with (go_at_call 68; refine (HNew.out).mono ?_; rintro e w1 ⟨rfl, rfl⟩)
  generalize w.alloc newO = w1 at *
  clear HNew
  go_loopw [6] (fun tv wr => ∃ (N : List (List UInt8)), szF 1 N ≤ n ∧ Hid (rdP l = rdR (l.drop (szF 1 N)) N) ∧ Hid (Tab p wr N (fun k => w.heap.size ≤ k)) ∧ Hid (Out w wr)) (fun _ wr => n - cntOf p wr)
  case atStart => exact ⟨[], h1, HR.out, HN1.out.1, HN1.out.2⟩
  case round =>
    obtain ⟨N, hs, HRr, HTab, Ho⟩ := hrel
    have hsz := szF_ge N 1
    obtain ⟨nv, sv, mv, t, hf⟩ := HTab.out
    have Ht := hidOf t
    have HS := hidOf (fun m => size_any p (wr.drewN m) N N _ _ _ (t.out ((Out.refl wr).drewN m)) (by omega))
    have HS0 := hidOf (size_any p wr N N _ _ _ t (by omega))
    have Hf := hidOf hf
    clear t hf
    generalize hse : szF 1 N = s at *
    have Hse := hidOf hse
    clear hse
    have hs1 : (1 : Int) ≤ s := by omega
    by_cases hlt : s < n
    · have hltI : (s : Int) < n := by omega
      obtain ⟨m, hm⟩ : ∃ m, m = l.drop s := ⟨_, rfl⟩
      have hml : m.length = n - s := by rw [hm, List.length_drop, ← Hn.out]
      have hm0 : ¬ m = [] := fun e => by rw [e] at hml; simp at hml; omega
      have hncs : ¬ ((c : Int) = s) := by omega
      have hcell : ∀ wx, Out w wx → ∀ k x, m[k]? = some x → wx.cell? ⟨g, off + s + k, none⟩ = some (.int .u8 (x.toNat : Int)) := fun wx ho k x hx => by
        rw [hm, List.getElem?_drop] at hx
        rw [Nat.add_assoc, ho.cells g _ Hg.out]
        exact HC.out (s + k) x hx
      have HA := hidOf (fun wx (ho : Out w wx) => hml ▸ nameAt_any g (off + s) (c - s) m wx hm0 (by omega) (by omega) (hcell wx ho))
      obtain ⟨x, hx⟩ : ∃ x, x = nmP m := ⟨_, rfl⟩
      have hx64 := nmP_le m
      have hxt := nmP_take m
      rw [← hx] at HA hx64 hxt
      have Hx := hidOf hx
      have hxr : RestAt w.heap.size w (some ⟨g, off + s, none⟩) x := .inr ⟨g, off + s, Hg.out, rfl, fun k y hy => hcell w (Out.refl w) k y (by rw [hxt, List.getElem?_take] at hy; split at hy; exact hy; cases hy)⟩
      have hxl : (x.length : Int) ≤ 64 := by omega
      have Hxr := hidOf hxr
      have Hm0 := hidOf hm0
      have Hm := hidOf hm
      have Hml := hidOf hml
      have Hsz := hidOf hsz
      clear hxr hcell hxt hx hm0 hm hml hsz c0
      go_upto_region 7 with (first | (go_at_call 79; refine (HS0.out).mono ?_; rintro e wa ⟨rfl, ma, rfl⟩) | (go_at_call 79; refine (HS.out _).mono ?_; rintro e wb ⟨rfl, mb, rfl⟩) | (go_at_call 80; refine (HA.out _ (Ho.out.drewN _)).mono ?_; rintro e wc ⟨rfl, rfl⟩))
      have hcv : ∀ k, (convert 22 9 (.slice (some ⟨g, off + s, none⟩) x.length (c - s))).run Tryz.prog (wr.drewN k) = .ok (.string ⟨x.toArray⟩) (wr.drewN k) := fun k => conv_rest (Hxr.out.below (Ho.out.drewN k)) (c - s)
      obtain ⟨rm, hmv, hlk⟩ := look_all Ht.out.mp x (by omega)
      subst hmv
      have c2 : ∀ k, (wr.drewN k).cell? ⟨p, 2, none⟩ = some (.map rm) := fun k => (Ht.out.out ((Out.refl wr).drewN k)).cell 2
      by_cases hin : x ∈ N
      · rw [decide_eq_true hin] at hlk
        have Hres : Hid (rdP l = (none, s)) := hidOf (by
          rw [HRr.out, ← Hm.out, rdR_bad m N Hm0.out (by rw [← Hx.out]; exact .inl hin), Hse.out])
        clear hin
        go_wp2_with (go_quiet (fail))
        go_ret3
        exact ⟨Ho.out.drewN _, .inl ⟨by rw [Hres.out], by rw [Hres.out]; rfl⟩⟩
      · rw [decide_eq_false hin] at hlk
        have Hin := hidOf hin
        clear hin
        by_cases hx0 : x = []
        · have Hres : Hid (rdP l = (none, s)) := hidOf (by
            rw [HRr.out, ← Hm.out, rdR_bad m N Hm0.out (by rw [← Hx.out]; exact .inr hx0), Hse.out])
          have hxb : ((x.length : Int) == 0) = true := by rw [hx0]; rfl
          have Hx0 := hidOf hx0
          clear hx0
          go_wp2_with (go_quiet (fail))
          go_ret3
          exact ⟨Ho.out.drewN _, .inl ⟨by rw [Hres.out], by rw [Hres.out]; rfl⟩⟩
        · have hxb : ((x.length : Int) == 0) = false := by
            have : 0 < x.length := List.length_pos_iff.2 hx0
            simp; omega
          have Hx0 := hidOf hx0
          clear hx0
          have HPu := hidOf (fun k => push_any p (wr.drewN k) N _ _ _ x (Ht.out.out ((Out.refl wr).drewN k)) Hin.out (by rw [Hse.out]; omega) (by omega))
          rw [Hse.out] at HPu
          go_wp2_with (first | (go_at_call 81; refine (HPu.out _).mono ?_; rintro e wp ⟨rfl, hp⟩; have Hp := hidOf hp; clear hp) | go_quiet (fail))
          have hxm : nmP m ≠ [] := by rw [← Hx.out]; exact Hx0.out
          have he := nmP_end m hxm
          rw [← Hx.out, Hml.out] at he
          obtain ⟨nv', sv', mv', t', hc', hi'⟩ := Hp.out
          have e1 : szF 1 (N ++ [x]) = s + x.length + 1 := by rw [szF_snoc, Hse.out]
          refine ⟨⟨N ++ [x], by rw [e1]; omega, hidOf ?_, hidOf ⟨nv', sv', mv', t', fun k hk => ?_⟩, hidOf ?_⟩, ?_⟩
          · rw [HRr.out, ← Hm.out, rdR_ok m N Hm0.out (by rw [← Hx.out]; exact Hin.out) hxm, ← Hx.out, e1, Hm.out, List.drop_drop]
            rfl
          · rcases hi' k hk with h | h
            · exact Hf.out k h
            · exact Nat.le_trans Ho.out.size h
          · exact Chg.out hc' (Ho.out.drewN _) (fun k hk => Hf.out k hk)
          · rw [cnt_tab t', HTab.out.cnt]
            have := Hsz.out
            simp
            omega
    · have hltI : ¬ (s : Int) < n := by omega
      have hsn : s = n := by omega
      have Hres : Hid (rdP l = (some N, 0)) := hidOf (by rw [HRr.out, hsn, Hn.out, List.drop_length]; rfl)
      have Hsn := hidOf hsn
      clear hsn
      go_wp2_with (go_at_call 79; refine (HS0.out).mono ?_; rintro e wa ⟨rfl, ma, rfl⟩)
      go_ret3
      refine ⟨Ho.out.drewN _, .inr ⟨N, p, by rw [Hres.out], rfl, by rw [Hse.out, Hsn.out, Hn.out], by rw [HP.out]; exact Nat.le_refl _, ?_⟩⟩
      refine ⟨nv, sv, mv, Ht.out.out ((Out.refl wr).drewN _), fun k hk => .inr ⟨Hf.out k hk, ?_⟩⟩
      exact Ht.out.fp_lt k hk
/-- Read -/
theorem read_any (a : Option Addr) (c : Nat) (l : List UInt8) (w : World) (h : RestAt w.heap.size w a l) (hc : l.length ≤ c) (hl : l.length ≤ 1000000000000) : Calls Tryz.prog 58 #[.slice a l.length c] w fun e w' => REnd w l e w' := by
  cases l with
  | nil =>
    refine (read_empty a c w).mono ?_
    rintro e w' ⟨rfl, rfl⟩
    exact ⟨Out.refl _, .inl ⟨rfl, rfl⟩⟩
  | cons x r =>
    rcases h with h | ⟨g, off, hg, rfl, hx⟩
    · cases h
    · by_cases h0 : x = 0
      · subst h0
        exact read_zero g off c r w hg hc hl hx
      · refine (read_first g off c r.length x w h0 hc (by simpa using hx 0 x rfl)).mono ?_
        rintro e w' ⟨rfl, rfl⟩
        have e : rdP (x :: r) = (none, 0) := by simp [rdP, h0]
        exact ⟨Out.refl _, .inl ⟨by rw [e], by rw [e]; rfl⟩⟩
end Go.Proofs.YthdgmhohofakgaaGreatDoor
