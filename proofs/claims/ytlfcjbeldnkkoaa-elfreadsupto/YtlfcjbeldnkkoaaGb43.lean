import Derived.Test.YtlfcjbeldnkkoaaGb42
namespace Go.Proofs.Ytlfcjbeldnkkoaa
open Go.RowKit
set_option linter.unusedVariables false
set_option linter.unusedSimpArgs false
def hdRes (b : List UInt8) : Int := match hdFlt b with
  | some a => (a : Nat)
  | none => -1
theorem hdRes_some {b : List UInt8} {a : Nat} (h : hdFlt b = some a) : hdRes b = (a : Nat) := by simp [hdRes, h]
theorem hdRes_none {b : List UInt8} (h : hdFlt b = none) : hdRes b = -1 := by simp [hdRes, h]
theorem BAt.outN {w w' : World} {g off : Nat} {b : List UInt8} (h : BAt w g off b) (hg : g < w.heap.size) (o : Out w w') : BAt w' g off b := h.out hg o
set_option maxRecDepth 20000 in
set_option maxHeartbeats 4000000 in
theorem headed9_any (w : World) (g off c : Nat) (b : List UInt8) (hg : g < w.heap.size) (hb : BAt w g off b) (hc : b.length ≤ c) (h64 : 64 ≤ b.length) (hl : b.length ≤ 1000000000000) :
    Calls Try.prog 34 #[.slice (some ⟨g, off, none⟩) b.length c] w fun e w' => e = .returned (.int .i64 (hdRes b)) ∧ Out w w' := by
  have HD := hidOf (hd_dec h64 hl)
  have CH := hidOf (head9_any w 0 0 hRl rfl (by omega) (by omega))
  rw [hRl_len] at CH
  have CA : Hid (∀ wx, Out w wx → ∀ (f n : Nat), (f = 60 ∧ n = 2) ∨ (f = 40 ∧ n = 8) ∨ (f = 62 ∧ n = 2) → Calls Try.prog 38 #[.slice (some ⟨g, off, none⟩) b.length c, .int .i64 (f : Int), .int .i64 (n : Int)] wx fun e w' => e = .returned (.int .i64 (atP b f n)) ∧ w' = wx) := hidOf (fun wx o f n h => at9_any wx g off c b (hb.out hg o) hc hl f n (by omega) (by omega))
  have C60 : Hid (∀ wx, Out w wx → Calls Try.prog 38 #[.slice (some ⟨g, off, none⟩) b.length c, .int .i64 60, .int .i64 2] wx fun e w' => e = .returned (.int .i64 (cntP b : Nat)) ∧ w' = wx) := hidOf (fun wx o => by
    have h := CA.out wx o 60 2 (.inl ⟨rfl, rfl⟩)
    rw [show atP b 60 2 = (cntP b : Nat) by unfold atP; rw [if_neg (by omega)]; rfl] at h
    exact h)
  have C40 : Hid (∀ wx, Out w wx → Calls Try.prog 38 #[.slice (some ⟨g, off, none⟩) b.length c, .int .i64 40, .int .i64 8] wx fun e w' => e = .returned (.int .i64 (atP b 40 8)) ∧ w' = wx) := hidOf (fun wx o => CA.out wx o 40 8 (.inr (.inl ⟨rfl, rfl⟩)))
  have C62 : Hid (∀ wx, Out w wx → Calls Try.prog 38 #[.slice (some ⟨g, off, none⟩) b.length c, .int .i64 62, .int .i64 2] wx fun e w' => e = .returned (.int .i64 (fB b 62 2 : Nat)) ∧ w' = wx) := hidOf (fun wx o => by
    have h := CA.out wx o 62 2 (.inr (.inr ⟨rfl, rfl⟩))
    rw [show atP b 62 2 = (fB b 62 2 : Nat) by unfold atP; rw [if_neg (by omega)]] at h
    exact h)
  have hcn : (cntP b : Int) < 65536 := by
    have h := nmB_lt ((b.drop 60).take 2)
    have h4 : 256 ^ ((b.drop 60).take 2).length ≤ 256 ^ 2 := Nat.pow_le_pow_right (by omega) (by rw [List.length_take]; omega)
    have h5 : (256 : Nat) ^ 2 = 65536 := by decide
    unfold cntP
    omega
  have hc0 : (0 : Int) ≤ cntP b := by omega
  have hlI : (b.length : Int) ≤ 1000000000000 := by omega
  have h64I : (64 : Int) ≤ b.length := by omega
  have hcI : (b.length : Int) ≤ c := by omega
  have HB := hidOf hb
  have HT0 : Hid (hdN b 40 = decide (atP b 40 8 < 64 ∨ ¬ atP b 40 8 % 8 = 0 ∨ ¬ atP b 40 8 = (b.length : Int) - 64 * (cntP b : Int))) := hidOf (by unfold hdN; rw [if_pos rfl]; rfl)
  have HT60 : Hid (hdN b 60 = decide (cntP b < 2 ∨ 18 < cntP b)) := hidOf (by unfold hdN; rw [if_neg (by omega), if_pos rfl])
  have HT62 : Hid (hdN b 62 = decide (¬ (fB b 62 2 : Int) = (cntP b : Int) - 1)) := hidOf (by unfold hdN; rw [if_neg (by omega), if_neg (by omega), if_pos rfl])
  have HTl : Hid (atP b 40 8 ≤ 9223372036854775807 ∧ -1 ≤ atP b 40 8) := hidOf (by unfold atP; split <;> omega)
  have HFl : Hid (fB b 62 2 < 4294967296) := hidOf (fB_lt b 62 2 (by omega))
  clear CA hb hc
  generalize atP b 40 8 = TT at *
  generalize cntP b = cn at *
  generalize fB b 62 2 = fn at *
  go_enter Try.func34, Try.ntmps34
  go_wp2_with (first | (go_at_call 60; refine CH.out.mono ?_; rintro e w1 ⟨a1, c1, rfl, hown, ho⟩; have V1 := hidOf hown; have O1 := hidOf ho; clear hown ho) | (go_at_call 38; refine (C60.out w1 O1.out).mono ?_; rintro e w2 ⟨rfl, hw⟩; have hw := hw.symm; subst hw))
  clear CH
  go_loopw [5] (fun iv wr => ∃ i : Nat, iv = .int .i64 i ∧ i ≤ 64 ∧ Hid (∀ k, k < i → hdN b k = false) ∧ Hid (Out w1 wr)) (fun iv _ => 64 - (intOf iv).toNat)
  case atStart => exact ⟨0, rfl, by omega, hidOf (fun k hk => by omega), hidOf (Out.refl _)⟩
  case round =>
    obtain ⟨i, rfl, hi, HN, HOr⟩ := hrel
    have O1' := hidOf (O1.out.trans HOr.out)
    have V1' := hidOf (V1.out.out HOr.out)
    clear O1 V1
    have O1 := O1'
    have V1 := V1'
    clear O1' V1'
    have hi0 : (0 : Int) ≤ i := by omega
    by_cases h64i : i < 64
    · have h64iI : (i : Int) < 64 := by omega
      by_cases e40 : i = 40
      · subst e40
        have hT8 : 0 ≤ TT → TT.tmod 8 = TT % 8 := fun h => Int.tmod_eq_emod_of_nonneg h
        by_cases t1 : TT < 64
        · have HT : Hid (hdN b 40 = true) := hidOf (by rw [HT0.out, decide_eq_true_iff]; exact .inl t1)
          go_wp2_with (go_at_call 38; refine (C40.out wr O1.out).mono ?_; rintro e w5 ⟨rfl, hw⟩; have hw := hw.symm; subst hw)
          go_ret
          exact ⟨(by rw [hdRes_some (HD.out.2 40 (by omega) HN.out HT.out)]; first | done | rfl), O1.out⟩
        · obtain ⟨z, hz⟩ : ∃ z, z = TT % 8 := ⟨_, rfl⟩
          have hT8' : TT.tmod 8 = z := by rw [hT8 (by omega), hz]
          clear hT8
          by_cases t2 : z = 0
          · by_cases t3 : TT = (b.length : Int) - 64 * (cn : Int)
            · have HT : Hid (hdN b 40 = false) := hidOf (by rw [HT0.out, decide_eq_false_iff_not]; omega)
              subst t2
              clear hz
              subst t3
              go_upto_region 8 with (go_at_call 38; refine (C40.out wr O1.out).mono ?_; rintro e w5 ⟨rfl, hw⟩; have hw := hw.symm; subst hw)
              clear HT0 HTl C40 C60 C62 HT60 HT62
              obtain ⟨Y, hY⟩ : ∃ Y, (b.length : Int) - 64 * (cn : Int) = Y := ⟨_, rfl⟩
              rw [hY] at t1 hT8' ⊢
              have HY := hidOf hY
              clear hY
              go_upto_if 34 with fail
              have hbf : (decide (Y < 64) || (Y != (b.length : Int) - 64 * (cn : Int))) = false := by rw [HY.out]; simp; omega
              rw [hbf]
              clear hbf
              generalize (Y != (b.length : Int) - 64 * (cn : Int)) = q33
              clear hT8' t1
              go_wp2
              go_roundw
              case rel => exact ⟨40 + 1, by simp, by omega, hidOf (fun k hk => by
                by_cases e : k = 40
                · rw [e]; exact HT.out
                · exact HN.out k (by omega)), HOr⟩
              case measure => simp [intOf] <;> omega
            · have HT : Hid (hdN b 40 = true) := hidOf (by rw [HT0.out, decide_eq_true_iff]; exact .inr (.inr t3))
              have t3b : (TT != (b.length : Int) - 64 * (cn : Int)) = true := by rw [bne_iff_ne]; exact t3
              subst t2
              clear hz t3
              go_wp2_with (go_at_call 38; refine (C40.out wr O1.out).mono ?_; rintro e w5 ⟨rfl, hw⟩; have hw := hw.symm; subst hw)
              go_ret
              exact ⟨(by rw [hdRes_some (HD.out.2 40 (by omega) HN.out HT.out)]; first | done | rfl), O1.out⟩
          · have HT : Hid (hdN b 40 = true) := hidOf (by rw [HT0.out, decide_eq_true_iff]; exact .inr (.inl (by rw [← hz]; exact t2)))
            clear hz
            go_wp2_with (go_at_call 38; refine (C40.out wr O1.out).mono ?_; rintro e w5 ⟨rfl, hw⟩; have hw := hw.symm; subst hw)
            go_ret
            exact ⟨(by rw [hdRes_some (HD.out.2 40 (by omega) HN.out HT.out)]; first | done | rfl), O1.out⟩
      · have e40b : ((i : Int) == 40) = false := by rw [beq_eq_false_iff_ne]; omega
        have e40I : ¬ (i : Int) = 40 := by omega
        by_cases e60 : i = 60
        · subst e60
          by_cases t1 : cn < 2
          · have HT : Hid (hdN b 60 = true) := hidOf (by rw [HT60.out, decide_eq_true_iff]; exact .inl t1)
            have t1I : (cn : Int) < 2 := by omega
            go_wp2
            go_ret
            exact ⟨(by rw [hdRes_some (HD.out.2 60 (by omega) HN.out HT.out)]; first | done | rfl), O1.out⟩
          · have t1I : ¬ (cn : Int) < 2 := by omega
            by_cases t2 : 18 < cn
            · have HT : Hid (hdN b 60 = true) := hidOf (by rw [HT60.out, decide_eq_true_iff]; exact .inr t2)
              have t2I : (18 : Int) < cn := by omega
              go_wp2
              go_ret
              exact ⟨(by rw [hdRes_some (HD.out.2 60 (by omega) HN.out HT.out)]; first | done | rfl), O1.out⟩
            · have HT : Hid (hdN b 60 = false) := hidOf (by rw [HT60.out, decide_eq_false_iff_not]; omega)
              have t2I : ¬ (18 : Int) < cn := by omega
              go_wp2
              go_roundw
              case rel => exact ⟨60 + 1, by simp, by omega, hidOf (fun k hk => by
                by_cases e : k = 60
                · rw [e]; exact HT.out
                · exact HN.out k (by omega)), HOr⟩
              case measure => simp [intOf] <;> omega
        · have e60b : ((i : Int) == 60) = false := by rw [beq_eq_false_iff_ne]; omega
          have e60I : ¬ (i : Int) = 60 := by omega
          by_cases e62 : i = 62
          · subst e62
            by_cases t1 : (fn : Int) = (cn : Int) - 1
            · have HT : Hid (hdN b 62 = false) := hidOf (by rw [HT62.out, decide_eq_false_iff_not]; exact fun h => h t1)
              have t1b : ((fn : Int) != (cn : Int) - 1) = false := by rw [bne_eq_false_iff_eq]; exact t1
              have Ht1 := hidOf t1
              clear t1
              go_wp2_with (go_at_call 38; refine (C62.out wr O1.out).mono ?_; rintro e w5 ⟨rfl, hw⟩; have hw := hw.symm; subst hw)
              go_roundw
              case rel => exact ⟨62 + 1, by simp, by omega, hidOf (fun k hk => by
                by_cases e : k = 62
                · rw [e]; exact HT.out
                · exact HN.out k (by omega)), HOr⟩
              case measure => simp [intOf] <;> omega
            · have HT : Hid (hdN b 62 = true) := hidOf (by rw [HT62.out, decide_eq_true_iff]; exact t1)
              have t1b : ((fn : Int) != (cn : Int) - 1) = true := by rw [bne_iff_ne]; exact t1
              clear t1
              go_wp2_with (go_at_call 38; refine (C62.out wr O1.out).mono ?_; rintro e w5 ⟨rfl, hw⟩; have hw := hw.symm; subst hw)
              go_ret
              exact ⟨(by rw [hdRes_some (HD.out.2 62 (by omega) HN.out HT.out)]; first | done | rfl), O1.out⟩
          · have e62b : ((i : Int) == 62) = false := by rw [beq_eq_false_iff_ne]; omega
            have e62I : ¬ (i : Int) = 62 := by omega
            by_cases em : (40 < i ∧ i < 48) ∨ 60 < i
            · have HT : Hid (hdN b i = false) := hidOf (by unfold hdN; rw [if_neg e40, if_neg e60, if_neg e62, if_pos em])
              by_cases ea : 40 < i ∧ i < 48
              · have q1 : (40 : Int) < i := by omega
                have q2 : (i : Int) < 48 := by omega
                go_wp2
                go_roundw
                case rel => exact ⟨i + 1, by simp, by omega, hidOf (fun k hk => by
                  by_cases e : k = i
                  · rw [e]; exact HT.out
                  · exact HN.out k (by omega)), HOr⟩
                case measure => simp [intOf] <;> omega
              · by_cases eb : (40 : Int) < i
                · have q2 : ¬ (i : Int) < 48 := by omega
                  have q3 : (60 : Int) < i := by omega
                  go_wp2
                  go_roundw
                  case rel => exact ⟨i + 1, by simp, by omega, hidOf (fun k hk => by
                    by_cases e : k = i
                    · rw [e]; exact HT.out
                    · exact HN.out k (by omega)), HOr⟩
                  case measure => simp [intOf] <;> omega
                · exfalso; omega
            · obtain ⟨x, hx⟩ : ∃ x, b[i]? = some x := ⟨_, List.getElem?_eq_getElem (by omega)⟩
              obtain ⟨y, hy⟩ : ∃ y, hRl[i]? = some y := ⟨_, List.getElem?_eq_getElem (by rw [hRl_len]; omega)⟩
              have HTb : hdN b i = decide (¬ x = y) := by
                unfold hdN
                rw [if_neg e40, if_neg e60, if_neg e62, if_neg em, hx, hy]
                simp
              obtain ⟨ga, rfl, dy⟩ := OwB.get9 V1.out hy
              have dx := (HB.out.out hg O1.out) i x hx
              have hib : (i : Int) < b.length := by omega
              have hna : ¬ ((40 < i ∧ i < 48) ∨ 60 < i) := em
              clear hx hy
              by_cases exy : x = y
              · subst exy
                have HT : Hid (hdN b i = false) := hidOf (by rw [HTb]; simp)
                clear HTb
                by_cases q1 : (40 : Int) < i
                · have q2 : ¬ (i : Int) < 48 := by omega
                  have q3 : ¬ (60 : Int) < i := by omega
                  go_upto_region 17 with fail
                  go_quiet (fail)
                  go_wp2
                  go_roundw
                  case rel => exact ⟨i + 1, by simp, by omega, hidOf (fun k hk => by
                    by_cases e : k = i
                    · rw [e]; exact HT.out
                    · exact HN.out k (by omega)), hidOf (HOr.out.drewN _)⟩
                  case measure => simp [intOf] <;> omega
                · have q3 : ¬ (60 : Int) < i := by omega
                  go_upto_region 17 with fail
                  go_quiet (fail)
                  go_wp2
                  go_roundw
                  case rel => exact ⟨i + 1, by simp, by omega, hidOf (fun k hk => by
                    by_cases e : k = i
                    · rw [e]; exact HT.out
                    · exact HN.out k (by omega)), hidOf (HOr.out.drewN _)⟩
                  case measure => simp [intOf] <;> omega
              · have HT : Hid (hdN b i = true) := hidOf (by rw [HTb]; simp [exy])
                have exyI : ¬ (x.toNat : Int) = y.toNat := fun e => exy (UInt8.toNat_inj.1 (by omega))
                have exyb : ((x.toNat : Int) != y.toNat) = true := by rw [bne_iff_ne]; exact exyI
                clear exyI
                clear HTb
                by_cases q1 : (40 : Int) < i
                · have q2 : ¬ (i : Int) < 48 := by omega
                  have q3 : ¬ (60 : Int) < i := by omega
                  go_upto_region 17 with fail
                  go_quiet (fail)
                  go_wp2
                  go_ret
                  exact ⟨(by rw [hdRes_some (HD.out.2 i (by omega) HN.out HT.out)]; first | done | rfl), O1.out.drewN _⟩
                · have q3 : ¬ (60 : Int) < i := by omega
                  go_upto_region 17 with fail
                  go_quiet (fail)
                  go_wp2
                  go_ret
                  exact ⟨(by rw [hdRes_some (HD.out.2 i (by omega) HN.out HT.out)]; first | done | rfl), O1.out.drewN _⟩
    · have h64iI : ¬ (i : Int) < 64 := by omega
      obtain rfl : i = 64 := by omega
      go_wp2
      go_ret
      exact ⟨(by rw [hdRes_none (HD.out.1 HN.out)]; first | done | rfl), O1.out⟩
end Go.Proofs.Ytlfcjbeldnkkoaa
namespace Go.Proofs.Ytlfcjbeldnkkoaa
open Go.RowKit
set_option linter.unusedVariables false
set_option linter.unusedSimpArgs false
theorem nmB_zeros : ∀ l : List UInt8, (∀ x ∈ l, x = 0) → nmB l = 0
  | [], _ => rfl
  | a :: r, h => by
    have h1 := h a (by simp)
    have h2 := nmB_zeros r (fun x hx => h x (by simp [hx]))
    subst h1
    simp [nmB, h2]
theorem nmB_some : ∀ l : List UInt8, (∃ x ∈ l, ¬ x = 0) → 0 < nmB l
  | [], h => by obtain ⟨x, hx, _⟩ := h; simp at hx
  | a :: r, h => by
    obtain ⟨x, hx, hx0⟩ := h
    rw [nmB_consR]
    rcases List.mem_cons.1 hx with rfl | hx
    · have : ¬ x.toNat = 0 := fun e => hx0 (UInt8.toNat_inj.1 e)
      omega
    · have := nmB_some r ⟨x, hx, hx0⟩
      omega
theorem mem_part {l : List UInt8} {p w : Nat} {x : UInt8} (h : x ∈ (l.drop p).take w) : ∃ j, p ≤ j ∧ j < p + w ∧ l[j]? = some x := by
  obtain ⟨i, hi⟩ := List.getElem?_of_mem h
  rw [List.getElem?_take] at hi
  split at hi
  · rw [List.getElem?_drop] at hi
    exact ⟨p + i, by omega, by omega, hi⟩
  · cases hi
theorem part_mem {l : List UInt8} {p w j : Nat} {x : UInt8} (h1 : p ≤ j) (h2 : j < p + w) (hx : l[j]? = some x) : x ∈ (l.drop p).take w := by
  have : ((l.drop p).take w)[j - p]? = some x := by
    rw [List.getElem?_take, if_pos (by omega), List.getElem?_drop, show p + (j - p) = j by omega]; exact hx
  exact List.mem_of_getElem? this
/-- fields that must be 0: the first one that is not -/
theorem flt_zs (l : List UInt8) : ∀ (A : List Fd) (f : Fd) (C : List Fd) (p : Nat), (∀ g ∈ A ++ f :: C, g.lo = 0 ∧ g.hi = 0) → (∀ j x, p ≤ j → j < p + widF A → l[j]? = some x → x = 0) → (∃ k x, p + widF A ≤ k ∧ k < p + widF A + f.w ∧ l[k]? = some x ∧ ¬ x = 0) → fltF l p (A ++ f :: C) = some (p + widF A)
  | [], f, C, p, hz, _, ⟨k, x, h1, h2, hx, hx0⟩ => by
    obtain ⟨e1, e2⟩ := hz f (by simp)
    have hw0 : widF ([] : List Fd) = 0 := rfl
    rw [hw0] at h1 h2
    have : 0 < nmB ((l.drop p).take f.w) := nmB_some _ ⟨x, part_mem (by omega) (by omega) hx, hx0⟩
    show fltF l p (f :: C) = _
    rw [fltF, if_pos (by omega), hw0]
    rfl
  | g :: A, f, C, p, hz, h0, ⟨k, x, h1, h2, hx, hx0⟩ => by
    obtain ⟨e1, e2⟩ := hz g (by simp)
    rw [widF_cons] at h0 h1 h2
    have : nmB ((l.drop p).take g.w) = 0 := nmB_zeros _ (fun x hx => by
      obtain ⟨j, j1, j2, hj⟩ := mem_part hx
      exact h0 j x j1 (by omega) hj)
    show fltF l p (g :: (A ++ f :: C)) = _
    rw [fltF, if_neg (by omega), flt_zs l A f C (p + g.w) (fun y hy => hz y (by simp only [List.cons_append, List.mem_cons]; exact .inr hy)) (fun j x j1 j2 hj => h0 j x (by omega) (by omega) hj) ⟨k, x, by omega, by omega, hx, hx0⟩, widF_cons]
    congr 1
    omega
theorem flt_zn (l : List UInt8) : ∀ (A : List Fd) (p : Nat), (∀ g ∈ A, g.lo = 0 ∧ g.hi = 0) → (∀ j x, p ≤ j → j < p + widF A → l[j]? = some x → x = 0) → fltF l p A = none
  | [], _, _, _ => rfl
  | g :: A, p, hz, h0 => by
    obtain ⟨e1, e2⟩ := hz g (by simp)
    rw [widF_cons] at h0
    have : nmB ((l.drop p).take g.w) = 0 := nmB_zeros _ (fun x hx => by
      obtain ⟨j, j1, j2, hj⟩ := mem_part hx
      exact h0 j x j1 (by omega) hj)
    rw [fltF, if_neg (by omega)]
    exact flt_zn l A (p + g.w) (fun y hy => hz y (by simp [hy])) (fun j x j1 j2 hj => h0 j x (by omega) (by omega) hj)
def frZ (i : Nat) : Nat := widF (zRw.fds.take i)
theorem frZ_val : frZ 0 = 0 ∧ frZ 1 = 4 ∧ frZ 2 = 8 ∧ frZ 3 = 16 ∧ frZ 4 = 24 ∧ frZ 5 = 32 ∧ frZ 6 = 40 ∧ frZ 7 = 44 ∧ frZ 8 = 48 ∧ frZ 9 = 56 ∧ frZ 10 = 64 := by decide
theorem zRw_len : zRw.fds.length = 10 := by decide
theorem zRw_zero : ∀ g ∈ zRw.fds, g.lo = 0 ∧ g.hi = 0 := by decide
theorem frZ_step (i : Nat) (hi : i < 10) : ∃ f, zRw.fds[i]? = some f ∧ frZ (i + 1) = frZ i + f.w := by
  obtain ⟨f, hf⟩ : ∃ f, zRw.fds[i]? = some f := ⟨_, List.getElem?_eq_getElem (by rw [zRw_len]; exact hi)⟩
  refine ⟨f, hf, ?_⟩
  unfold frZ
  rw [List.take_add_one, hf, widF_app]
  simp [widF]
def rowB (b : List UInt8) (row : Nat) : List UInt8 := (b.drop row).take 64
theorem rowB_get (b : List UInt8) (row j : Nat) (hj : j < 64) : (rowB b row)[j]? = b[row + j]? := by
  unfold rowB
  rw [List.getElem?_take, if_pos hj, List.getElem?_drop]
theorem zero_none {b : List UInt8} {row : Nat} (h : ∀ j x, j < 64 → b[row + j]? = some x → x = 0) : fltF (rowB b row) 0 zRw.fds = none :=
  flt_zn _ _ 0 zRw_zero (fun j x _ h2 hx => by
    have h64 : widF zRw.fds = 64 := by decide
    have hj : j < 64 := by omega
    rw [rowB_get b row j hj] at hx
    exact h j x hj hx)
theorem zero_some {b : List UInt8} {row i k : Nat} {x : UInt8} (hi : i < 10) (h : ∀ j x, j < k → b[row + j]? = some x → x = 0) (h1 : frZ i ≤ k) (h2 : k < frZ (i + 1)) (hk : k < 64) (hx : b[row + k]? = some x) (hx0 : ¬ x = 0) : fltF (rowB b row) 0 zRw.fds = some (frZ i) := by
  obtain ⟨f, hf, hw⟩ := frZ_step i hi
  have hsp : zRw.fds = zRw.fds.take i ++ f :: zRw.fds.drop (i + 1) := by
    have hlt : i < zRw.fds.length := by rw [zRw_len]; exact hi
    have hd := List.drop_eq_getElem_cons hlt
    have hx' : zRw.fds[i] = f := by rw [List.getElem?_eq_getElem hlt] at hf; exact Option.some.inj hf
    rw [hx'] at hd
    rw [← hd, List.take_append_drop]
  have := flt_zs (rowB b row) (zRw.fds.take i) f (zRw.fds.drop (i + 1)) 0 (by rw [← hsp]; exact zRw_zero) (fun j y _ hj hy => by
    change j < 0 + frZ i at hj
    rw [rowB_get b row j (by omega)] at hy
    exact h j y (by omega) hy) ⟨k, x, by change 0 + frZ i ≤ k; omega, by change k < 0 + frZ i + f.w; omega, by rw [rowB_get b row k hk]; exact hx, hx0⟩
  rw [← hsp] at this
  rw [this, Nat.zero_add]; rfl
def zrRes (b : List UInt8) (row : Nat) : Int := match fltF (rowB b row) 0 zRw.fds with
  | some a => (row : Int) + (a : Nat)
  | none => -1
theorem zrRes_some {b : List UInt8} {row a : Nat} (h : fltF (rowB b row) 0 zRw.fds = some a) : zrRes b row = (row : Int) + (a : Nat) := by simp [zrRes, h]
theorem zrRes_none {b : List UInt8} {row : Nat} (h : fltF (rowB b row) 0 zRw.fds = none) : zrRes b row = -1 := by simp [zrRes, h]
/-- the fields' places as they lie -/
def frC : Array Value := #[.int .i64 0, .int .i64 4, .int .i64 8, .int .i64 16, .int .i64 24, .int .i64 32, .int .i64 40, .int .i64 44, .int .i64 48, .int .i64 56, .int .i64 64]
theorem frC_get : ∀ i, i < 11 → frC[i]? = some (.int .i64 (frZ i : Int)) := by
  intro i hi
  obtain ⟨a0, a1, a2, a3, a4, a5, a6, a7, a8, a9, a10⟩ := frZ_val
  match i, hi with
  | 0, _ => rw [a0]; rfl
  | 1, _ => rw [a1]; rfl
  | 2, _ => rw [a2]; rfl
  | 3, _ => rw [a3]; rfl
  | 4, _ => rw [a4]; rfl
  | 5, _ => rw [a5]; rfl
  | 6, _ => rw [a6]; rfl
  | 7, _ => rw [a7]; rfl
  | 8, _ => rw [a8]; rfl
  | 9, _ => rw [a9]; rfl
  | 10, _ => rw [a10]; rfl
theorem frZ_mono : ∀ i, i < 10 → frZ i < frZ (i + 1) ∧ frZ (i + 1) ≤ 64 := by decide
set_option maxRecDepth 20000 in
set_option maxHeartbeats 2000000 in
theorem zeros9_any (w : World) (g off c : Nat) (b : List UInt8) (hg : g < w.heap.size) (hb : BAt w g off b) (hc : b.length ≤ c) (hl : b.length ≤ 1000000000000) (row : Nat) (hr : row + 64 ≤ b.length) :
    Calls Try.prog 61 #[.slice (some ⟨g, off, none⟩) b.length c, .int .i64 (row : Int)] w fun e w' => e = .returned (.int .i64 (zrRes b row)) ∧ Out w w' := by
  have HB := hidOf hb
  have hrI : (row : Int) + 64 ≤ b.length := by omega
  have hr0 : (0 : Int) ≤ row := by omega
  have hlI : (b.length : Int) ≤ 1000000000000 := by omega
  have O1 := hidOf ((Out.refl w).alloc (.cells frC 3))
  have F1 : Hid (∀ i, i < 11 → (w.alloc (.cells frC 3)).cell? ⟨w.heap.size, i, none⟩ = some (.int .i64 (frZ i : Int))) := hidOf (fun i hi => by rw [cell_fresh _ _ _ _ _ rfl]; exact frC_get i hi)
  have hwg : g < w.heap.size := hg
  clear hb
  go_enter Try.func61, Try.ntmps61
  go_upto_region 2 with fail
  show Code.wp _ _ _ _ (w.alloc (.cells frC 3))
  generalize hw1 : w.alloc (.cells frC 3) = w1 at *
  obtain ⟨q, hq⟩ : ∃ q, q = w.heap.size := ⟨_, rfl⟩
  rw [← hq] at F1 ⊢
  clear hw1 hq
  go_wp2
  go_loopw [6] (fun iv wr => ∃ i : Nat, iv = .int .i64 i ∧ i ≤ 10 ∧ Hid (∀ j x, j < frZ i → b[row + j]? = some x → x = 0) ∧ wr = w1) (fun iv _ => 10 - (intOf iv).toNat)
  case atStart => exact ⟨0, rfl, by omega, hidOf (fun j x hj => by rw [frZ_val.1] at hj; omega), rfl⟩
  case round =>
    obtain ⟨i, rfl, hi, HZ, hww⟩ := hrel
    have hww := hww.symm
    subst hww
    have hi0 : (0 : Int) ≤ i := by omega
    by_cases hi10 : i < 10
    · have hiI : (i : Int) + 1 < 11 := by omega
      have hiI2 : (i : Int) < 11 := by omega
      have f0 := F1.out i (by omega)
      have f1 := F1.out (i + 1) (by omega)
      obtain ⟨m1, m2⟩ := frZ_mono i hi10
      obtain ⟨z0, hz0⟩ : ∃ z, z = frZ i := ⟨_, rfl⟩
      obtain ⟨z1, hz1⟩ : ∃ z, z = frZ (i + 1) := ⟨_, rfl⟩
      rw [← hz0] at f0 m1 HZ
      rw [← hz1] at f1 m1 m2
      have Hz0 := hidOf hz0
      have Hz1 := hidOf hz1
      clear hz0 hz1
      go_wp2
      go_loopw [7] (fun kv wr => ∃ k : Nat, kv = .int .i64 k ∧ z0 ≤ k ∧ k ≤ z1 ∧ Hid (∀ j x, j < k → b[row + j]? = some x → x = 0) ∧ wr = w1) (fun kv _ => z1 - (intOf kv).toNat)
      case atStart => exact ⟨z0, rfl, by omega, by omega, HZ, rfl⟩
      case round =>
        obtain ⟨k, rfl, hk0, hk1, HK, hww⟩ := hrel
        have hww := hww.symm
        subst hww
        have hk0I : (0 : Int) ≤ k := by omega
        by_cases hkl : k < z1
        · have hkI : (k : Int) < z1 := by omega
          obtain ⟨x, hx⟩ : ∃ x, b[row + k]? = some x := ⟨_, List.getElem?_eq_getElem (by omega)⟩
          have dx := (HB.out.out hwg O1.out) (row + k) x hx
          have hlt : (row : Int) + k < b.length := by omega
          by_cases hx0 : x = 0
          · subst hx0
            have HS : Hid (∀ j x, j < k + 1 → b[row + j]? = some x → x = 0) := hidOf (fun j y hj hy => by
              by_cases e : j = k
              · subst e; rw [hx] at hy; cases hy; rfl
              · exact HK.out j y (by omega) hy)
            have hz : (((0 : UInt8).toNat : Nat) : Int) = 0 := rfl
            rw [hz] at dx
            clear hx hz
            go_wp2
            go_roundw
            case rel => exact ⟨k + 1, by simp, by omega, by omega, HS, trivial⟩
            case measure => simp [intOf] <;> omega
          · have hxI : ((x.toNat : Int) != 0) = true := by rw [bne_iff_ne]; exact fun e => hx0 (UInt8.toNat_inj.1 (by simpa using e))
            have HF := hidOf (zrRes_some (zero_some (row := row) (k := k) hi10 HK.out (by rw [← Hz0.out]; exact hk0) (by rw [← Hz1.out]; exact hkl) (by omega) hx hx0))
            clear hx
            go_wp2
            go_ret
            exact ⟨(by rw [HF.out, ← Hz0.out]; first | done | rfl), O1.out⟩
        · have hkI : ¬ (k : Int) < z1 := by omega
          obtain rfl : k = z1 := by omega
          go_wp2
          refine ⟨⟨i + 1, by simp, by omega, ?_, trivial⟩, by simp [intOf] <;> omega⟩
          rw [← Hz1.out]
          exact HK
    · have hiI : ¬ (i : Int) + 1 < 11 := by omega
      obtain rfl : i = 10 := by omega
      have HF := hidOf (zrRes_none (zero_none (b := b) (row := row) (fun j x hj hx => HZ.out j x (by rw [frZ_val.2.2.2.2.2.2.2.2.2.2]; exact hj) hx)))
      go_wp2
      go_ret
      exact ⟨(by rw [HF.out]; first | done | rfl), O1.out⟩
end Go.Proofs.Ytlfcjbeldnkkoaa
namespace Go.Proofs.Ytlfcjbeldnkkoaa
open Go.RowKit
set_option linter.unusedVariables false
set_option linter.unusedSimpArgs false
theorem up9_any (x : Nat) (hx : x ≤ 10000000000000) (w : World) : Calls Try.prog 63 #[.int .i64 (x : Int)] w fun e w' => e = .returned (.int .i64 (up8 x : Nat)) ∧ w' = w := by
  obtain ⟨s, hs⟩ : ∃ s : Nat, s = (x + 7) / 8 := ⟨_, rfl⟩
  have h1 : ((x : Int) + 7).tdiv 8 = (s : Int) := by rw [Int.tdiv_eq_ediv_of_nonneg (by omega)]; omega
  have h2 : wrap64 (s : Int) = s := by unfold wrap64; omega
  have h3 : (s : Int) * 8 ≤ 100000000000000 := by omega
  have h4 : (0 : Int) ≤ s := by omega
  have h5 : (x : Int) ≤ 10000000000000 := by omega
  have HU : Hid ((up8 x : Int) = (s : Int) * 8) := hidOf (by unfold up8; omega)
  clear hs
  go_enter Try.func63, Try.ntmps63
  go_wp2
  go_ret
  exact ⟨(by rw [HU.out]; first | done | rfl), rfl⟩
theorem rowB_fld (b : List UInt8) (row p w : Nat) (h : p + w ≤ 64) : nmB (((rowB b row).drop p).take w) = fB b (row + p) w := by
  unfold rowB fB
  rw [List.drop_take, List.take_take, Nat.min_eq_left (by omega), List.drop_drop]
/-- the faults of a row, field by field -/
theorem row_flt (b : List UInt8) (row : Nat) (r : Rw) : fltF (rowB b row) 0 r.fds =
    if fB b (row + 0) 4 < r.n.1 ∨ r.n.2 < fB b (row + 0) 4 then some 0 else
    if fB b (row + 4) 4 < r.k.1 ∨ r.k.2 < fB b (row + 4) 4 then some 4 else
    if fB b (row + 8) 8 < r.f.1 ∨ r.f.2 < fB b (row + 8) 8 then some 8 else
    if fB b (row + 16) 8 < 0 ∨ 0 < fB b (row + 16) 8 then some 16 else
    if fB b (row + 24) 8 < r.p.1 ∨ r.p.2 < fB b (row + 24) 8 then some 24 else
    if fB b (row + 32) 8 < r.s.1 ∨ r.s.2 < fB b (row + 32) 8 then some 32 else
    if fB b (row + 40) 4 < r.l.1 ∨ r.l.2 < fB b (row + 40) 4 then some 40 else
    if fB b (row + 44) 4 < r.i.1 ∨ r.i.2 < fB b (row + 44) 4 then some 44 else
    if fB b (row + 48) 8 < r.a.1 ∨ r.a.2 < fB b (row + 48) 8 then some 48 else
    if fB b (row + 56) 8 < r.e.1 ∨ r.e.2 < fB b (row + 56) 8 then some 56 else none := by
  unfold Rw.fds
  simp only [fltF]
  rw [rowB_fld b row 0 4 (by omega), rowB_fld b row (0 + 4) 4 (by omega), rowB_fld b row (0 + 4 + 4) 8 (by omega), rowB_fld b row (0 + 4 + 4 + 8) 8 (by omega), rowB_fld b row (0 + 4 + 4 + 8 + 8) 8 (by omega), rowB_fld b row (0 + 4 + 4 + 8 + 8 + 8) 8 (by omega), rowB_fld b row (0 + 4 + 4 + 8 + 8 + 8 + 8) 4 (by omega), rowB_fld b row (0 + 4 + 4 + 8 + 8 + 8 + 8 + 4) 4 (by omega), rowB_fld b row (0 + 4 + 4 + 8 + 8 + 8 + 8 + 4 + 4) 8 (by omega), rowB_fld b row (0 + 4 + 4 + 8 + 8 + 8 + 8 + 4 + 4 + 8) 8 (by omega)]
/-- the same in the reference's words -/
structure Wr9 (last : Bool) (T want : Nat) (kd fl li nf al ea sz z16 z24 : Int) : Type where
  c4 : Bool
  c8 : Bool
  c16 : Bool
  c24 : Bool
  c32 : Bool
  c40 : Bool
  c44 : Bool
  c48 : Bool
  c56 : Bool
def wrF9 (last : Bool) (T want : Nat) (kd fl li nf al ea sz z16 z24 : Int) : Option Nat :=
  if last = true ∧ ¬ kd = 3 then some 4 else
  if fl < 0 ∨ last = true ∧ ¬ fl = 0 then some 8 else
  if ¬ z16 = 0 then some 16 else
  if ¬ z24 = (want : Int) then some 24 else
  if sz < 0 ∨ (T : Int) - want < sz ∨ last = true ∧ ¬ (up8 (want + sz.toNat) : Int) = T then some 32 else
  if last = true ∧ ¬ li = 0 then some 40 else
  if last = true ∧ ¬ nf = 0 then some 44 else
  if al < 0 ∨ last = true ∧ ¬ al = 1 then some 48 else
  if ea < 0 ∨ last = true ∧ ¬ ea = 0 then some 56 else none
theorem atP4 (b : List UInt8) (f : Nat) : atP b f 4 = (fB b f 4 : Nat) := by unfold atP; rw [if_neg (by omega)]
theorem atP8 (b : List UInt8) (f : Nat) : (fB b f 8 ≤ 9223372036854775807 ∧ atP b f 8 = (fB b f 8 : Nat)) ∨ (9223372036854775807 < fB b f 8 ∧ atP b f 8 = -1) := by
  unfold atP
  split
  · right; omega
  · left; omega
theorem jw_le (n : Int) (h0 : 0 ≤ n) (h : n ≤ 9223372036854775807) : (jw n : Int) = n := by unfold jw; omega
theorem ite_c {p q : Prop} [Decidable p] [Decidable q] {x y y' : Option Nat} (h : p ↔ q) (h2 : ¬ p → y = y') : (if p then x else y) = (if q then x else y') := by
  by_cases hp : p
  · rw [if_pos hp, if_pos (h.1 hp)]
  · rw [if_neg hp, if_neg (fun hq => hp (h.2 hq)), h2 hp]
theorem row_ref (b : List UInt8) (row T want : Nat) (hT : row ≠ T) (hTb : T ≤ 1000000000000) (hT8 : T % 8 = 0) (hw : want ≤ T) (hw8 : want % 8 = 0) : fltF (rowB b row) 0 (rowW T b.length row want).fds = wrF9 (decide (row + 64 = b.length)) T want (atP b (row + 4) 4) (atP b (row + 8) 8) (atP b (row + 40) 4) (atP b (row + 44) 4) (atP b (row + 48) 8) (atP b (row + 56) 8) (atP b (row + 32) 8) (atP b (row + 16) 8) (atP b (row + 24) 8) := by
  have k0 := fB_lt b (row + 0) 4 (by omega)
  have k4 := fB_lt b (row + 4) 4 (by omega)
  have k40 := fB_lt b (row + 40) 4 (by omega)
  have k44 := fB_lt b (row + 44) 4 (by omega)
  have a8 := atP8 b (row + 8)
  have a16 := atP8 b (row + 16)
  have a24 := atP8 b (row + 24)
  have a32 := atP8 b (row + 32)
  have a48 := atP8 b (row + 48)
  have a56 := atP8 b (row + 56)
  rw [row_flt, atP4, atP4, atP4]
  unfold wrF9
  generalize fB b (row + 0) 4 = f0 at *
  generalize fB b (row + 4) 4 = f4 at *
  generalize fB b (row + 8) 8 = f8 at *
  generalize fB b (row + 16) 8 = f16 at *
  generalize fB b (row + 24) 8 = f24 at *
  generalize fB b (row + 32) 8 = f32 at *
  generalize fB b (row + 40) 4 = f40 at *
  generalize fB b (row + 44) 4 = f44 at *
  generalize fB b (row + 48) 8 = f48 at *
  generalize fB b (row + 56) 8 = f56 at *
  generalize atP b (row + 8) 8 = t8 at *
  generalize atP b (row + 16) 8 = t16 at *
  generalize atP b (row + 24) 8 = t24 at *
  generalize atP b (row + 32) 8 = t32 at *
  generalize atP b (row + 48) 8 = t48 at *
  generalize atP b (row + 56) 8 = t56 at *
  have j3 : jw 3 = 3 := by decide
  have j1 : jw 1 = 1 := by decide
  have jm : jw 4294967295 = 4294967295 := by decide
  have jl : jw 9223372036854775807 = 9223372036854775807 := by decide
  have jw1 := jw_le want (by omega) (by omega)
  have jr := jw_le ((T : Int) - want) (by omega) (by omega)
  have jr7 := jw_le (max ((T : Int) - want - 7) 0) (by omega) (by omega)
  unfold rowW
  rw [if_neg hT]
  by_cases hl : row + 64 = b.length
  · rw [if_pos hl, decide_eq_true hl]
    unfold rowL jw2
    simp only [j3, j1, jm, true_and]
    rw [if_neg (by omega)]
    refine ite_c (by omega) (fun _ => ite_c (by omega) (fun _ => ite_c (by omega) (fun _ => ite_c (by omega) (fun _ => ite_c ?_ (fun _ => ite_c (by omega) (fun _ => ite_c (by omega) (fun _ => ite_c (by omega) (fun _ => ite_c (by omega) (fun _ => rfl)))))))))
    rcases a32 with ⟨h1, h2⟩ | ⟨h1, h2⟩
    · rw [h2, Int.toNat_natCast]
      unfold up8
      omega
    · rw [h2]
      omega
  · rw [if_neg hl, decide_eq_false hl]
    unfold rowM jw2
    simp only [j3, j1, jm, jl, Bool.false_eq_true, false_and, or_false, if_false]
    rw [if_neg (by omega), if_neg (by omega)]
    refine ite_c (by omega) (fun _ => ite_c (by omega) (fun _ => ite_c (by omega) (fun _ => ite_c (by omega) (fun _ => ?_))))
    rw [if_neg (by omega), if_neg (by omega)]
    exact ite_c (by omega) (fun _ => ite_c (by omega) (fun _ => rfl))
end Go.Proofs.Ytlfcjbeldnkkoaa
