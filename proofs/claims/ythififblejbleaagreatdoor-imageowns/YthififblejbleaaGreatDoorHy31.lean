import Derived.Test.YthififblejbleaaGreatDoorHy28
import Derived.Test.YthififblejbleaaGreatDoorHy30
namespace Go.Proofs.YthififblejbleaaGreatDoor
open Go.RowKit
set_option linter.unusedVariables false
set_option linter.unusedSimpArgs false
structure FitI (x : Ins) : Prop where
  o0 : 0 ≤ x.o
  o1 : x.o ≤ 255
  d0 : 0 ≤ x.d
  d1 : x.d ≤ 15
  s0 : 0 ≤ x.s
  s1 : x.s ≤ 15
  f0 : -32768 ≤ x.f
  f1 : x.f ≤ 32767
  i0 : isW x.o = false → -2147483648 ≤ x.i ∧ x.i ≤ 2147483647
theorem fit_in {x : Ins} (h : fitI x = true) : FitI x := by
  simp only [fitI, Bool.and_eq_true, decide_eq_true_eq, Bool.or_eq_true] at h
  obtain ⟨⟨⟨⟨⟨a, b⟩, c, d⟩, e, f⟩, g, i⟩, j⟩ := h
  exact ⟨a, b, c, d, e, f, g, i, fun hw => by simpa [hw] using j⟩
theorem nameOk_word {x : List UInt8} (h : wordP x = true) : nameOk x = true := by
  simp only [wordP, Bool.and_eq_true, decide_eq_true_eq] at h
  obtain ⟨⟨h1, h2⟩, h3⟩ := h
  have hne : x.isEmpty = false := by cases x with | nil => simp [startP] at h2 | cons a r => rfl
  have hz : x.contains 0 = false := by
    cases hc : x.contains 0 with
    | false => rfl
    | true =>
      have := List.all_eq_true.1 h3 0 (by simpa using hc)
      exact absurd this (by decide)
  simp only [nameOk, hne, h1, hz]; rfl
def CutF (T : List Ins) : Nat → List Fn → Prop
  | _, [] => True
  | b, x :: r => ∃ c : Nat, x.fi = b ∧ x.ct = c ∧ 1 ≤ c ∧ b + c ≤ T.length ∧ CutF T (b + c) r
theorem cut_of {T : List Ins} {F : List Fn} (h : ∀ j, j < F.length → fcB T F j = false) : ∀ (G P : List Fn) (b : Nat), F = P ++ G → bgn P = b → CutF T b G
  | [], _, _, _, _ => trivial
  | x :: r, P, b, e, hb => by
    have h1 := h P.length (by rw [e]; simp)
    have hx : F[P.length]? = some x := by rw [e]; simp
    have ht : F.take P.length = P := by rw [e]; simp
    simp only [fcB, hx, ht, hb, Bool.or_eq_false_iff, bne_eq_false_iff_eq, decide_eq_false_iff_not] at h1
    obtain ⟨⟨h2, h3⟩, h4⟩ := h1
    refine ⟨x.ct.toNat, h2, by omega, by omega, by omega, ?_⟩
    exact cut_of h r (P ++ [x]) _ (by rw [e]; simp) (by rw [bgn_app]; simp [bgn]; omega)
structure Ok17 (m : Img) : Prop where
  cnt : cntP m = none
  nam : namP m = none
  fun_ : funP m = none
  tab : tabP m = none
  ent : entP m = none
  ins : insP m = none
theorem ptE_ok {r : Option Nat} {e : Int} {x : Nat × Int} (he : e ≠ 0) (h : (ptE r e x).2 = 0) : r = none ∧ x.2 = 0 := by
  cases r with
  | none => exact ⟨rfl, h⟩
  | some k => exact absurd h he
theorem ck_ok {m : Img} (h : (ckP m).2 = 0) : Ok17 m := by
  obtain ⟨a, h⟩ := ptE_ok (by decide) h
  obtain ⟨b, h⟩ := ptE_ok (by decide) h
  obtain ⟨c, h⟩ := ptE_ok (by decide) h
  obtain ⟨d, h⟩ := ptE_ok (by decide) h
  obtain ⟨e, h⟩ := ptE_ok (by decide) h
  obtain ⟨f, h⟩ := ptE_ok (by decide) h
  exact ⟨a, b, c, d, e, f⟩
theorem ok_ck {m : Img} (h : Ok17 m) : ckP m = (0, 0) := by simp [ckP, h.cnt, h.nam, h.fun_, h.tab, h.ent, h.ins, ptE]
theorem Ok17.counts {m : Img} (h : Ok17 m) : slotsP m.T ≤ 1048576 ∧ m.F.length ≤ 4096 ∧ m.D.length ≤ 1024 := by
  have := h.cnt
  unfold cntP at this
  repeat (split at this; · cases this)
  omega
theorem Ok17.fits {m : Img} (h : Ok17 m) : ∀ x ∈ m.T, fitI x = true := fun x hx => by
  obtain ⟨k, hk, hxk⟩ := List.mem_iff_getElem.1 hx
  have := fstB_out h.ins k hk
  simpa [inB, List.getElem?_eq_getElem hk, hxk] using this
theorem Ok17.fnOk {m : Img} (h : Ok17 m) : ∀ x ∈ m.F, wordP x.nm = true ∧ 0 ≤ x.ob ∧ x.ob < 64 := fun x hx => by
  obtain ⟨k, hk, hxk⟩ := List.mem_iff_getElem.1 hx
  have hn := h.nam
  unfold namP at hn
  split at hn
  · cases hn
  · rename_i hn1
    have := fstB_out hn1 k hk
    simp only [fnB, List.getElem?_eq_getElem hk, hxk, Bool.or_eq_false_iff, Bool.not_eq_false'] at this
    have := this.2
    simp only [fnW, Bool.and_eq_true, decide_eq_true_eq] at this
    exact ⟨this.1.1, this.1.2, this.2⟩
theorem Ok17.tdOk {m : Img} (h : Ok17 m) : ∀ x ∈ m.D, wordP x.nm = true ∧ mayT x = true := fun x hx => by
  obtain ⟨k, hk, hxk⟩ := List.mem_iff_getElem.1 hx
  have hn := h.nam
  unfold namP at hn
  have ht := h.tab
  unfold tabP at ht
  split at hn
  · cases hn
  · split at ht
    · cases ht
    · rename_i h1 _ h2
      rw [Option.map_eq_none_iff] at hn
      have a := fstB_out hn k hk
      have b := fstB_out h2 k hk
      simp only [tdB, List.getElem?_eq_getElem hk, hxk, Bool.or_eq_false_iff, Bool.not_eq_false'] at a
      simp only [shB, List.getElem?_eq_getElem hk, hxk, Bool.not_eq_false'] at b
      exact ⟨a.1, b⟩
theorem Ok17.cut {m : Img} (h : Ok17 m) : CutF m.T 0 m.F := by
  have hf := h.fun_
  unfold funP at hf
  split at hf
  · cases hf
  · rename_i h1
    exact cut_of (fstB_out h1) m.F [] 0 rfl rfl
theorem Ok17.entry {m : Img} (h : Ok17 m) : 0 ≤ m.en ∧ m.en < m.F.length := by
  have := h.ent
  unfold entP at this
  split at this
  · cases this
  · omega
theorem Ok17.names {m : Img} (h : Ok17 m) : ∀ x ∈ allN m, nameOk x = true := fun x hx => by
  simp only [allN, List.mem_append, List.mem_map] at hx
  rcases hx with ⟨y, hy, rfl⟩ | ⟨y, hy, rfl⟩
  · exact nameOk_word (h.fnOk y hy).1
  · exact nameOk_word (h.tdOk y hy).1
theorem Ok17.small {m : Img} (h : Ok17 m) : szF 1 (tabM m) ≤ 1 + 65 * 5120 := by
  have := (namesF_ok (allN m) h.names).2.2.2
  have hl : (allN m).length = m.F.length + m.D.length := by simp [allN]
  have := h.counts
  unfold tabM; omega
theorem wr_of {m : Img} (h : Ok17 m) (hi : ∀ x ∈ m.T, -9223372036854775808 ≤ x.i ∧ x.i ≤ 9223372036854775807) : Wr17 m := by
  obtain ⟨c1, c2, c3⟩ := h.counts
  have he := h.entry
  refine ⟨c1, c2, c3, h.fits, hi, h.names, ?_, by omega⟩
  have hf := h.fun_
  unfold funP at hf
  split at hf
  · cases hf
  · rename_i h1
    exact Ok17n.cutK (fstB_out h1)
def WriE (m : Img) (w : World) (e : Ending) (w' : World) : Prop :=
  (Ok17 m ∧ ∃ a c, e = .returned (.tuple #[.slice a (wrB m).length c, .int .i64 0, .int .i64 0]) ∧ OwB w.heap.size (.slice a (wrB m).length c) (wrB m) w' ∧ Out w w') ∨
  ((ckP m).2 ≠ 0 ∧ e = .returned (.tuple #[.slice none 0 0, .int .i64 ((ckP m).1 : Nat), .int .i64 (ckP m).2]) ∧ Out w w')
set_option maxRecDepth 4000 in
theorem write_any (m : Img) (w : World) (ta fa da : Option Addr) (tc fc dc : Nat) (h : ImA w ta fa da m) (htc : m.T.length ≤ tc) (hi : ∀ x ∈ m.T, -9223372036854775808 ≤ x.i ∧ x.i ≤ 9223372036854775807) : Calls Tryz.prog 5 #[.agg #[.slice ta m.T.length tc, .slice fa m.F.length fc, .slice da m.D.length dc, .int .i64 m.en]] w (WriE m w) := by
  have CK : Hid (∀ wx, Out w wx → Calls Tryz.prog 23 #[.agg #[.slice ta m.T.length tc, .slice fa m.F.length fc, .slice da m.D.length dc, .int .i64 m.en]] wx fun e w' => e = .returned (.tuple #[.int .i64 ((ckP m).1 : Nat), .int .i64 (ckP m).2]) ∧ Out wx w') := fun wx ox => check_any m wx ta fa da tc fc dc (h.out ox)
  have HO : ∀ {w1 : World} {O : Obj}, Out (w.alloc O) w1 → Out w w1 := fun o => Out.trans (Out.alloc (Out.refl _) _) o
  by_cases h0 : (ckP m).2 = 0
  · have hok := ck_ok h0
    have hen := hok.entry
    have hcn := hok.counts
    have CB : Hid (∀ wx, Out w wx → Calls Tryz.prog 24 #[.agg #[.slice ta m.T.length tc, .slice fa m.F.length fc, .slice da m.D.length dc, .int .i64 m.en]] wx fun e w' => ∃ a c, e = .returned (.tuple #[.slice a (wrB m).length c, .int .i64 0]) ∧ OwB wx.heap.size (.slice a (wrB m).length c) (wrB m) w' ∧ Out wx w') := fun wx ox => bytesOf_any m wx ta fa da tc fc dc (h.out ox) (wr_of hok hi) htc (by omega)
    have HOK := hidOf hok
    rw [ok_ck hok] at CK
    clear h hi h0 hok hen hcn htc
    obtain ⟨L, hL⟩ : ∃ L, Hid (L = (wrB m).length) := ⟨_, rfl⟩
    rw [← hL.out] at CB
    generalize m.T.length = tn at *
    generalize m.F.length = fn at *
    generalize m.D.length = dn at *
    generalize m.en = en at *
    go_enter Tryz.func5, Tryz.ntmps5
    go_wp2_with (first | (go_at_call 23; refine (CK.out _ (Out.alloc (Out.refl _) _)).mono ?_; rintro e w1 ⟨rfl, o1⟩; have x0 := cell_later o1 (cell_fresh w _ _ 0 _ rfl); have x1 := cell_later o1 (cell_fresh w _ _ 1 _ rfl); have x2 := cell_later o1 (cell_fresh w _ _ 2 _ rfl); have x3 := cell_later o1 (cell_fresh w _ _ 3 _ rfl)) | (go_at_call 24; refine (CB.out _ (HO o1)).mono ?_; rintro e w2 ⟨a, c, rfl, hb2, o2⟩))
    go_ret3
    refine .inl ⟨HOK.out, a, c, by rw [← hL.out]; rfl, ?_, (HO o1).trans o2⟩
    rw [← hL.out]
    exact owns_base17 hb2 (HO o1).size
  · obtain ⟨kk, ee, hke⟩ : ∃ kk ee, ckP m = (kk, ee) := ⟨_, _, rfl⟩
    have HKE := hidOf hke
    rw [hke] at CK h0
    simp only at CK h0
    have hee : (ee != 0) = true := by simpa using h0
    clear h hi hke htc
    generalize m.T.length = tn at *
    generalize m.F.length = fn at *
    generalize m.D.length = dn at *
    generalize m.en = en at *
    go_enter Tryz.func5, Tryz.ntmps5
    go_wp2_with (go_at_call 23; refine (CK.out _ (Out.alloc (Out.refl _) _)).mono ?_; rintro e w1 ⟨rfl, o1⟩)
    go_ret3
    refine .inr ⟨?_, ?_, HO o1⟩
    · rw [HKE.out]; exact h0
    · rw [HKE.out]; rfl
def sh8 (x : Int) : Nat → Int
  | 0 => x
  | 1 => x / 256
  | 2 => x / 65536
  | _ => x / 16777216
theorem b4_get (x : Int) (j : Nat) (h : j < 4) : (b4 x)[j]? = some (b1 (sh8 x j)) := by
  obtain rfl | rfl | rfl | rfl : j = 0 ∨ j = 1 ∨ j = 2 ∨ j = 3 := by omega
  all_goals rfl
set_option maxRecDepth 20000 in
set_option maxHeartbeats 1000000 in
theorem laid_any (x : Int) (n : Nat) (hn : n ≤ 4) (w : World) : Calls Tryz.prog 21 #[.int .i64 x, .int .i64 n] w fun e w' => ∃ a c, e = .returned (.slice a n c) ∧ w'.ownsRow w.heap.size 5 1 (.slice a n c) n (Lib.byteCells ((b4 x).take n)) ∧ Out w w' := by
  obtain ⟨i0, hi0, hz0, hz1, hz2⟩ := info_parts infoB
  go_enter Tryz.func21, Tryz.ntmps21
  go_wp2
  go_loopw [5, 6] (fun v i wr => ∃ (j : Nat) (a : Option Addr) (c : Nat), j ≤ n ∧ v = .slice a j c ∧ i = .int .i64 j ∧ Hid (wr.ownsRow w.heap.size 5 1 (.slice a j c) j (Lib.byteCells ((b4 x).take j))) ∧ Hid (Out w wr)) (fun _ i _ => n - (intOf i).toNat)
  case atStart => exact ⟨0, none, 0, by omega, rfl, rfl, hidOf (World.ownsRow_nil _ _ _ _), hidOf (Out.refl _)⟩
  case round =>
    obtain ⟨j, a, c, hj, rfl, rfl, HR, HO⟩ := hrel
    by_cases hjn : j < n
    · have hlt : (j : Int) < n := by omega
      have hj4 : j < 4 := by omega
      have hw8 : ∀ y : Int, IntKind.u8.wrap y = ((b1 y).toNat : Int) := wrap_b1
      have HA : Hid (∀ O, (wr.alloc O).ownsRow w.heap.size 5 1 (.slice a j c) j (Lib.byteCells ((b4 x).take j))) := hidOf fun O => owns_chg (S := fun _ => False) HR.out (fun _ _ h => h) (Chg.of_out (Out.alloc (Out.refl _) _))
      have hsz := HO.out.size
      have HT : Hid (∀ (W2 : World) (v : Value), W2.ownsRow w.heap.size 5 1 v (j + 1) (Lib.byteCells ((b4 x).take j) ++ [.int .u8 ((b1 (sh8 x j)).toNat : Int)]) → W2.ownsRow w.heap.size 5 1 v (j + 1) (Lib.byteCells ((b4 x).take (j + 1)))) := hidOf fun W2 v h => by
        rw [List.take_add_one, b4_get x j hj4]
        simpa [Lib.byteCells] using h
      clear hlt
      have hlt : (j : Int) < n := by omega
      obtain rfl | rfl | rfl | rfl : j = 0 ∨ j = 1 ∨ j = 2 ∨ j = 3 := by omega
      · go_wp2_with (at_builtin; refine wpList_append_own _ rfl (.tmp 12) (.tmp 18) 27 rfl w.heap.size 5 i0 _ 1 1 Tryz.underlying27 hi0 hz0 hz1 hz2 rfl (by decide) (.slice a 0 c) 0 (Lib.byteCells ((b4 x).take 0)) rfl (HA.out _) ⟨wr.heap.size, 0, none⟩ 1 1 [.int .u8 ((b1 (x)).toNat : Int)] rfl rfl (news_new _ _ _ _ rfl) (fun u hu => by simp at hu; subst hu; rfl) (by decide) (by decide) (by rw [size_alloc]; omega) ?_; intro v3 w3 hown3 hgrow3 _; have HN := hidOf (HT.out _ _ hown3); have H3 := hidOf (out_row (w0 := w) (Out.alloc HO.out _) (HA.out _) hgrow3); obtain ⟨a3, c3, rfl⟩ := own_form hown3; clear hown3 hgrow3)
        go_roundw
        case rel => exact ⟨1, a3, c3, by omega, rfl, by simp, HN, H3⟩
        case measure => simp [intOf]; omega
      · go_wp2_with (at_builtin; refine wpList_append_own _ rfl (.tmp 12) (.tmp 18) 27 rfl w.heap.size 5 i0 _ 1 1 Tryz.underlying27 hi0 hz0 hz1 hz2 rfl (by decide) (.slice a 1 c) 1 (Lib.byteCells ((b4 x).take 1)) rfl (HA.out _) ⟨wr.heap.size, 0, none⟩ 1 1 [.int .u8 ((b1 (x / 256)).toNat : Int)] rfl rfl (news_new _ _ _ _ rfl) (fun u hu => by simp at hu; subst hu; rfl) (by decide) (by decide) (by rw [size_alloc]; omega) ?_; intro v3 w3 hown3 hgrow3 _; have HN := hidOf (HT.out _ _ hown3); have H3 := hidOf (out_row (w0 := w) (Out.alloc HO.out _) (HA.out _) hgrow3); obtain ⟨a3, c3, rfl⟩ := own_form hown3; clear hown3 hgrow3)
        go_roundw
        case rel => exact ⟨2, a3, c3, by omega, rfl, by simp, HN, H3⟩
        case measure => simp [intOf]; omega
      · go_wp2_with (at_builtin; refine wpList_append_own _ rfl (.tmp 12) (.tmp 18) 27 rfl w.heap.size 5 i0 _ 1 1 Tryz.underlying27 hi0 hz0 hz1 hz2 rfl (by decide) (.slice a 2 c) 2 (Lib.byteCells ((b4 x).take 2)) rfl (HA.out _) ⟨wr.heap.size, 0, none⟩ 1 1 [.int .u8 ((b1 (x / 65536)).toNat : Int)] rfl rfl (news_new _ _ _ _ rfl) (fun u hu => by simp at hu; subst hu; rfl) (by decide) (by decide) (by rw [size_alloc]; omega) ?_; intro v3 w3 hown3 hgrow3 _; have HN := hidOf (HT.out _ _ hown3); have H3 := hidOf (out_row (w0 := w) (Out.alloc HO.out _) (HA.out _) hgrow3); obtain ⟨a3, c3, rfl⟩ := own_form hown3; clear hown3 hgrow3)
        go_roundw
        case rel => exact ⟨3, a3, c3, by omega, rfl, by simp, HN, H3⟩
        case measure => simp [intOf]; omega
      · go_wp2_with (at_builtin; refine wpList_append_own _ rfl (.tmp 12) (.tmp 18) 27 rfl w.heap.size 5 i0 _ 1 1 Tryz.underlying27 hi0 hz0 hz1 hz2 rfl (by decide) (.slice a 3 c) 3 (Lib.byteCells ((b4 x).take 3)) rfl (HA.out _) ⟨wr.heap.size, 0, none⟩ 1 1 [.int .u8 ((b1 (x / 16777216)).toNat : Int)] rfl rfl (news_new _ _ _ _ rfl) (fun u hu => by simp at hu; subst hu; rfl) (by decide) (by decide) (by rw [size_alloc]; omega) ?_; intro v3 w3 hown3 hgrow3 _; have HN := hidOf (HT.out _ _ hown3); have H3 := hidOf (out_row (w0 := w) (Out.alloc HO.out _) (HA.out _) hgrow3); obtain ⟨a3, c3, rfl⟩ := own_form hown3; clear hown3 hgrow3)
        go_roundw
        case rel => exact ⟨4, a3, c3, by omega, rfl, by simp, HN, H3⟩
        case measure => simp [intOf]; omega
    · have hlt : ¬ (j : Int) < n := by omega
      obtain rfl : j = n := by omega
      go_wp2
      go_ret
      exact ⟨a, c, rfl, HR.out, HO.out⟩
theorem own_ne {w : World} {B B' z z' n n' k : Nat} {e e' : TypeId} {v v' : Value} {V V' : List Value} (h : w.ownsRow B e z v n V) (h' : w.ownsRow B' e' z' v' n' V') (he : ¬ e = e') (hk : v.ownBlock = some k) (hk' : v'.ownBlock = some k) : False := by
  rcases h.2 with ⟨rfl, _⟩ | ⟨g, c, cur, rfl, _, hg, _⟩
  · cases hk
  rcases h'.2 with ⟨rfl, _⟩ | ⟨g', c', cur', rfl, _, hg', _⟩
  · cases hk'
  have e1 : g = k := by simpa [Value.ownBlock] using hk
  have e2 : g' = k := by simpa [Value.ownBlock] using hk'
  subst e1; subst e2
  have := hg.symm.trans hg'
  simp only [Option.some.injEq, Obj.cells.injEq] at this
  exact he this.2.1
theorem OwS.rt17 {w : World} {B c : Nat} {a : Option Addr} {N : List (List UInt8)} (h : OwS B (.slice a N.length c) N w) : RT w a N ∧ N.length ≤ c := by
  rcases h.2 with ⟨hv, hn⟩ | ⟨g, cap, cur, hv, hb, hg, hc, _⟩
  · exact ⟨.inl (List.length_eq_zero_iff.1 hn), by omega⟩
  · simp only [Value.slice.injEq] at hv
    obtain ⟨rfl, -, rfl⟩ := hv
    refine ⟨.inr ⟨g, 0, (Array.getElem?_eq_some_iff.1 hg).1, rfl, fun k x hx => ?_⟩, hc⟩
    have := World.ownsRow.cells h (g := g) rfl k (strV x) (by simp [hx])
    rw [WideShapes.add_plain] at this
    exact this
theorem radd_ok (B : Nat) (a : Option Addr) (c : Nat) (N : List (List UInt8)) (x : List UInt8) (w : World) (hB : B ≤ w.heap.size) (h : OwS B (.slice a N.length c) N w) (hb : szF 1 N ≤ 900000000000) (hx : nameOk x = true) : Calls Tryz.prog 48 #[.agg #[.slice a N.length c], .string ⟨x.toArray⟩] w fun e w' => ∃ a' c', e = .returned (.tuple #[.agg #[.slice a' (addN N x).length c'], .int .i64 (plF 1 (addN N x) x : Nat), .int .i64 0]) ∧ OwS B (.slice a' (addN N x).length c') (addN N x) w' ∧ Out w w' := by
  obtain ⟨hr, hc⟩ := h.rt17
  by_cases hm : x ∈ N
  · have e : addN N x = N := by unfold addN; simp [hm]
    rw [e]
    exact (radd_old a c N x w hr hc (by omega) hx hm).mono fun e w' ⟨he, o⟩ => ⟨a, c, he, owns_chg (S := fun _ => False) h (fun _ _ h => h) (Chg.of_out o), o⟩
  · have e : addN N x = N ++ [x] := by unfold addN; simp [hm]
    rw [e, plF_new hm, List.length_append, List.length_singleton]
    exact (radd_new a c N x w hr hc hb hx hm).mono fun e w' ⟨a', c', he, ow, o⟩ => ⟨a', c', he, by
      have h2 : OwS B (.slice a' (N ++ [x]).length c') (N ++ [x]) w' := owns_base17 ow hB
      rw [List.length_append, List.length_singleton] at h2
      exact h2, o⟩
def oneM : Img := ⟨[⟨149, 0, 0, 0, 0⟩], [⟨[102], 0, 0, 1⟩], [], 0⟩
theorem one17_any (w : World) : Calls Tryz.prog 42 #[] w fun e w' => ∃ t f, e = .returned (.agg #[.slice (some ⟨t, 0, none⟩) 1 1, .slice (some ⟨f, 0, none⟩) 1 1, .slice none 0 0, .int .i64 0]) ∧ ImA w' (some ⟨t, 0, none⟩) (some ⟨f, 0, none⟩) none oneM ∧ Out w w' := by
  obtain ⟨w3, hw3⟩ : ∃ w3, Hid (w3 = ((w.alloc (.cells #[.slice (some ⟨w.heap.size + 1, 0, none⟩) 1 1, .slice (some ⟨w.heap.size + 1 + 1, 0, none⟩) 1 1, .slice none 0 0, .int .i64 0] 26)).alloc (.cells #[.int .i64 149, .int .i64 0, .int .i64 0, .int .i64 0, .int .i64 0] 67)).alloc (.cells #[.string ⟨#[102]⟩, .int .i64 0, .int .i64 0, .int .i64 1] 69)) := ⟨_, rfl⟩
  have b0 : w3.heap[w.heap.size]? = some (.cells #[.slice (some ⟨w.heap.size + 1, 0, none⟩) 1 1, .slice (some ⟨w.heap.size + 1 + 1, 0, none⟩) 1 1, .slice none 0 0, .int .i64 0] 26 (0, 0)) := by
    rw [hw3.out, Below.heap_alloc _ _ _ (by rw [size_alloc, size_alloc]; omega), Below.heap_alloc _ _ _ (by rw [size_alloc]; omega)]; exact heap_alloc_new w _
  have b1 : w3.heap[w.heap.size + 1]? = some (.cells #[.int .i64 149, .int .i64 0, .int .i64 0, .int .i64 0, .int .i64 0] 67 (0, 0)) := by
    rw [hw3.out, Below.heap_alloc _ _ _ (by rw [size_alloc, size_alloc]; omega)]
    have := heap_alloc_new (w.alloc (.cells #[.slice (some ⟨w.heap.size + 1, 0, none⟩) 1 1, .slice (some ⟨w.heap.size + 1 + 1, 0, none⟩) 1 1, .slice none 0 0, .int .i64 0] 26)) (.cells #[.int .i64 149, .int .i64 0, .int .i64 0, .int .i64 0, .int .i64 0] 67)
    rw [size_alloc] at this; exact this
  have b2 : w3.heap[w.heap.size + 1 + 1]? = some (.cells #[.string ⟨#[102]⟩, .int .i64 0, .int .i64 0, .int .i64 1] 69 (0, 0)) := by
    have := heap_alloc_new ((w.alloc (.cells #[.slice (some ⟨w.heap.size + 1, 0, none⟩) 1 1, .slice (some ⟨w.heap.size + 1 + 1, 0, none⟩) 1 1, .slice none 0 0, .int .i64 0] 26)).alloc (.cells #[.int .i64 149, .int .i64 0, .int .i64 0, .int .i64 0, .int .i64 0] 67)) (.cells #[.string ⟨#[102]⟩, .int .i64 0, .int .i64 0, .int .i64 1] 69)
    rw [size_alloc, size_alloc, ← hw3.out] at this; exact this
  have hA : ImA w3 (some ⟨w.heap.size + 1, 0, none⟩) (some ⟨w.heap.size + 1 + 1, 0, none⟩) none oneM := by
    refine ⟨.inr ⟨_, _, rfl, fun k x hx => ?_⟩, .inr ⟨_, _, rfl, fun k x hx => ?_⟩, .inl rfl, by decide, fun x hx => ?_⟩
    · match k, hx with
      | 0, hx => cases hx; exact ⟨by rw [cell_atL b1]; rfl, by rw [cell_atL b1]; rfl, by rw [cell_atL b1]; rfl, by rw [cell_atL b1]; rfl, by rw [cell_atL b1]; rfl⟩
    · match k, hx with
      | 0, hx => cases hx; exact ⟨by rw [cell_atL b2]; rfl, by rw [cell_atL b2]; rfl, by rw [cell_atL b2]; rfl, by rw [cell_atL b2]; rfl⟩
    · simp [oneM] at hx; subst hx; exact ⟨by decide, by decide, by decide⟩
  have hO : Out w w3 := by rw [hw3.out]; exact Out.alloc (Out.alloc (Out.alloc (Out.refl _) _) _) _
  go_enter Tryz.func42, Tryz.ntmps42
  go_wp2
  rw [← hw3.out]
  refine bodyPost_ret (results_cell_row rfl _ _ w.heap.size 26 _ (0, 0) _ rfl b0 Tryz.underlying26 rfl (by kernel_rfl)) rfl ?_
  exact ⟨_, _, rfl, hA, hO⟩
theorem one_len : (wrB oneM).length = 55 := by decide +kernel
theorem one_28 : (wrB oneM)[28]? = some 149 := by decide +kernel
theorem one_53 : (wrB oneM)[53]? = some 102 := by decide +kernel
theorem one_ck : (ckP oneM).2 = 0 := by decide +kernel
theorem awake17_any (w : World) : Calls Tryz.prog 16 #[] w fun e w' => e = .returned (.bool true) ∧ Out w w' := by
  have CO := hidOf (one17_any w)
  have CW : Hid (∀ wx t f, ImA wx (some ⟨t, 0, none⟩) (some ⟨f, 0, none⟩) none oneM → Calls Tryz.prog 5 #[.agg #[.slice (some ⟨t, 0, none⟩) 1 1, .slice (some ⟨f, 0, none⟩) 1 1, .slice none 0 0, .int .i64 0]] wx fun e w' => ∃ g off c, e = .returned (.tuple #[.slice (some ⟨g, off, none⟩) 55 c, .int .i64 0, .int .i64 0]) ∧ 55 ≤ c ∧ w'.cell? ⟨g, off + 28, none⟩ = some (.int .u8 149) ∧ w'.cell? ⟨g, off + 53, none⟩ = some (.int .u8 102) ∧ Out wx w') := hidOf (fun wx t f hA => by
    refine (write_any oneM wx (some ⟨t, 0, none⟩) (some ⟨f, 0, none⟩) none 1 1 0 hA (by decide) (fun x hx => by simp [oneM] at hx; subst hx; simp)).mono ?_
    rintro e w' (⟨_, a, c, rfl, ow, o⟩ | ⟨h, _⟩)
    · obtain ⟨a', c', he, hc, hr⟩ := ow.rest
      cases he
      rcases hr with h | ⟨b, off, hb, rfl, hcell⟩
      · exact absurd (congrArg List.length h) (by rw [one_len]; decide)
      · rw [one_len] at hc ⊢
        exact ⟨b, off, c, rfl, hc, hcell 28 149 one_28, hcell 53 102 one_53, o⟩
    · exact absurd one_ck h)
  go_enter Tryz.func16, Tryz.ntmps16
  go_upto_region 2 with (first
    | (go_at_call 42; refine CO.out.mono ?_; rintro e w1 ⟨t, f, rfl, hA, o1⟩; have HA := hidOf hA; have O1 := hidOf o1; clear hA o1)
    | (go_at_call 5; refine (CW.out _ _ _ HA.out).mono ?_; rintro e w2 ⟨g, off, c, rfl, hc, c28, c53, o2⟩; have O2 := hidOf (O1.out.trans o2); clear o2))
  have hci : (55 : Int) ≤ c := by omega
  go_wp2
  go_ret
  exact ⟨by simp, O2.out⟩
end Go.Proofs.YthififblejbleaaGreatDoor
