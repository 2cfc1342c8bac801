import Derived.Test.YtekjfbmebekmeaaGreatGa34
namespace Go.Proofs.YtekjfbmebekmeaaGreat
open Go.RowKit
set_option linter.unusedVariables false
set_option linter.unusedSimpArgs false
theorem SpOk.subF {F F' E : List Rg} (h : SpOk F E) (hs : F'.Sublist F) : SpOk F' E :=
  ⟨List.Pairwise.sublist hs h.sf, h.se, fun x hx => h.fd x (hs.subset hx), List.Pairwise.sublist hs h.ap, h.ed, fun x hx => h.ne x (hs.subset hx)⟩
theorem SpOk.subE {F E E' : List Rg} (h : SpOk F E) (hs : E'.Sublist E) : SpOk F E' :=
  ⟨h.sf, List.Pairwise.sublist hs h.se, h.fd, h.ap, fun x hx => h.ed x (hs.subset hx), fun x hx y hy => h.ne x hx y (hs.subset hy)⟩
theorem SpD.remF {B : Nat} {w w1 w2 : World} {s : Nat} {v1 v2 v' : Value} {X Y X' : List Rw} {m : Nat} (h : SpD B w s v1 v2 X Y m) (o : Out w w1) (e : ShE B s 0 #[v1, v2] 92 w1 w2 v1 X v' X') (hsub : (flat X').Sublist (flat X)) (hl : ∀ z ∈ X', z.L.length ≤ 128) (hM : m ≤ 5864062014805) :
    SpD B w2 s v' v2 X' Y m ∧ Chg (fpD s v1 v2 X Y) w w2 ∧ (∀ k, fpD s v' v2 X' Y k → fpD s v1 v2 X Y k ∨ w.heap.size ≤ k) := by
  have h1 := h.out o
  have cE : Chg (fpD s v1 v2 X Y) w w2 := (Chg.of_out o).trans e.chg (fun k hk _ => by
    rcases hk with hk | hk
    · exact .inl hk
    · exact .inr (.inl hk))
  have hwl : ∀ k, fpD s v1 v2 X Y k → k < w.heap.size := fun k hk => (h.lt hk).2
  have hfp : ∀ k, fpS v' X' k → fpS v1 X k ∨ w1.heap.size ≤ k := e.fp
  have hos := o.size
  have hso : s < w.heap.size := hwl s (.inl rfl)
  have hss : (flat X' ++ flat Y).Sublist (flat X ++ flat Y) := List.Sublist.append_right hsub _
  have hdl : ∀ b, dbs (flat X ++ flat Y) b → b < w.heap.size := fun b ⟨z, hz, hb⟩ => ((h.da z hz).blk hb).2
  have hds : ∀ b, dbs (flat X' ++ flat Y) b → dbs (flat X ++ flat Y) b := fun b ⟨z, hz, hb⟩ => ⟨z, hss.subset hz, hb⟩
  have nml : (flat X' ++ flat Y).length ≤ m := Nat.le_trans hss.length_le h.nm
  have hnX : X'.length ≤ 5864062014805 := by
    have := rows_le e.sh.ne
    rw [List.length_append] at nml
    omega
  refine ⟨⟨⟨e.blk, h.sp.bs, e.sh, h1.sp.emp.keep e.chg (fun k hk hS => ?_), fun hk => ?_, h.sp.s2, fun k hk hk2 => ?_, hnX, h.sp.nY⟩, h.ok.subF hsub, hl, h.lY, fun z hz => ?_, List.Pairwise.sublist hss h.dn, fun b hb => ?_, fun z hz => h.le z (hss.subset hz), nml⟩, cE, fun k hk => ?_⟩
  · rcases hS with rfl | hS
    · exact h.sp.s2 hk
    · exact h.sp.d12 k hS hk
  · rcases hfp s hk with h2 | h2
    · exact h.sp.s1 h2
    · omega
  · rcases hfp k hk with h2 | h2
    · exact h.sp.d12 k h2 hk2
    · have := hwl k (.inr (.inr hk2)); omega
  · exact (h1.da z (hss.subset hz)).chg e.chg (fun b hb hS => by
      have hds := h.ds b ⟨z, hss.subset hz, hb⟩
      rcases hS with rfl | hS
      · exact hds.1 rfl
      · exact hds.2.1 hS)
  · have h2 := h.ds b (hds b hb)
    refine ⟨h2.1, fun hk => ?_, h2.2.2⟩
    rcases hfp b hk with h3 | h3
    · exact h2.2.1 h3
    · have := hdl b (hds b hb); omega
  · rcases hk with hk | hk | hk
    · exact .inl (.inl hk)
    · rcases hfp k hk with h2 | h2
      · exact .inl (.inr (.inl h2))
      · exact .inr (by omega)
    · exact .inl (.inr (.inr hk))
theorem SpD.remE {B : Nat} {w w1 w2 : World} {s : Nat} {v1 v2 v' : Value} {X Y Y' : List Rw} {m : Nat} (h : SpD B w s v1 v2 X Y m) (o : Out w w1) (e : ShE B s 1 #[v1, v2] 92 w1 w2 v2 Y v' Y') (hsub : (flat Y').Sublist (flat Y)) (hl : ∀ z ∈ Y', z.L.length ≤ 128) (hM : m ≤ 5864062014805) :
    SpD B w2 s v1 v' X Y' m ∧ Chg (fpD s v1 v2 X Y) w w2 ∧ (∀ k, fpD s v1 v' X Y' k → fpD s v1 v2 X Y k ∨ w.heap.size ≤ k) := by
  have h1 := h.out o
  have cE : Chg (fpD s v1 v2 X Y) w w2 := (Chg.of_out o).trans e.chg (fun k hk _ => by
    rcases hk with hk | hk
    · exact .inl hk
    · exact .inr (.inr hk))
  have hwl : ∀ k, fpD s v1 v2 X Y k → k < w.heap.size := fun k hk => (h.lt hk).2
  have hfp : ∀ k, fpS v' Y' k → fpS v2 Y k ∨ w1.heap.size ≤ k := e.fp
  have hos := o.size
  have hso : s < w.heap.size := hwl s (.inl rfl)
  have hss : (flat X ++ flat Y').Sublist (flat X ++ flat Y) := List.Sublist.append_left hsub _
  have hdl : ∀ b, dbs (flat X ++ flat Y) b → b < w.heap.size := fun b ⟨z, hz, hb⟩ => ((h.da z hz).blk hb).2
  have hds : ∀ b, dbs (flat X ++ flat Y') b → dbs (flat X ++ flat Y) b := fun b ⟨z, hz, hb⟩ => ⟨z, hss.subset hz, hb⟩
  have nml : (flat X ++ flat Y').length ≤ m := Nat.le_trans hss.length_le h.nm
  have hnY : Y'.length ≤ 5864062014805 := by
    have := rows_le e.sh.ne
    rw [List.length_append] at nml
    omega
  refine ⟨⟨⟨e.blk, h.sp.bs, h1.sp.fil.keep e.chg (fun k hk hS => ?_), e.sh, h.sp.s1, fun hk => ?_, fun k hk hk2 => ?_, h.sp.nX, hnY⟩, h.ok.subE hsub, h.lX, hl, fun z hz => ?_, List.Pairwise.sublist hss h.dn, fun b hb => ?_, fun z hz => h.le z (hss.subset hz), nml⟩, cE, fun k hk => ?_⟩
  · rcases hS with rfl | hS
    · exact h.sp.s1 hk
    · exact h.sp.d12 k hk hS
  · rcases hfp s hk with h2 | h2
    · exact h.sp.s2 h2
    · omega
  · rcases hfp k hk2 with h2 | h2
    · exact h.sp.d12 k hk h2
    · have := hwl k (.inr (.inl hk)); omega
  · exact (h1.da z (hss.subset hz)).chg e.chg (fun b hb hS => by
      have hds := h.ds b ⟨z, hss.subset hz, hb⟩
      rcases hS with rfl | hS
      · exact hds.1 rfl
      · exact hds.2.2 hS)
  · have h2 := h.ds b (hds b hb)
    refine ⟨h2.1, h2.2.1, fun hk => ?_⟩
    rcases hfp b hk with h3 | h3
    · exact h2.2.2 h3
    · have := hdl b (hds b hb); omega
  · rcases hk with hk | hk | hk
    · exact .inl (.inl hk)
    · exact .inl (.inr (.inl hk))
    · rcases hfp k hk with h2 | h2
      · exact .inl (.inr (.inr h2))
      · exact .inr (by omega)
def RmSE (B s : Nat) (v1 v2 : Value) (X Y : List Rw) (m f : Nat) (w : World) (e : Ending) (w' : World) : Prop :=
  (((flat X).any (fun x => x.f == f) || (flat Y).any (fun x => x.f == f)) = false ∧ e = .returned (.int .i64 201) ∧ Out w w') ∨
  (((flat X).any (fun x => x.f == f) || (flat Y).any (fun x => x.f == f)) = true ∧ e = .returned (.int .i64 0) ∧ ∃ v1' v2' X' Y', SpD B w' s v1' v2' X' Y' m ∧ Chg (fpD s v1 v2 X Y) w w' ∧ (∀ k, fpD s v1' v2' X' Y' k → fpD s v1 v2 X Y k ∨ w.heap.size ≤ k) ∧ flat X' = (flat X).filter (fun x => !(x.f == f)) ∧ flat Y' = (flat Y).filter (fun x => !(x.f == f)))
theorem filter_no {F : List Rg} {f : Nat} (h : F.any (fun x => x.f == f) = false) : F.filter (fun x => !(x.f == f)) = F :=
  List.filter_eq_self.2 (fun z hz => by
    have := List.any_eq_false.1 h z hz
    simpa using this)
set_option maxHeartbeats 4000000 in
set_option maxRecDepth 100000 in
theorem Remove_any (w : World) (B s : Nat) (v1 v2 : Value) (X Y : List Rw) (m f : Nat) (h : SpD B w s v1 v2 X Y m) (hM : m ≤ 5864062014804) (hf : f < 18446744073709551616) :
    Calls Tryz.prog 26 #[.pointer (some ⟨s, 0, none⟩), .int .u64 f] w fun e w' => RmSE B s v1 v2 X Y m f w e w' := by
  have RF := remove_any w B s 0 #[v1, v2] 92 v1 X f h.sp.fil h.sp.blk rfl h.sp.s1 h.sp.bs (by have h1 := rows_le h.sp.fil.ne; have h2 := h.nm; rw [List.length_append] at h2; omega) h.ok.sf h.lX
  have RE := fun (W : World) (o : Out w W) => remove_any W B s 1 #[v1, v2] 92 v2 Y f (h.sp.emp.out o) (blk_out h.sp.blk o) rfl h.sp.s2 h.sp.bs (by have h1 := rows_le h.sp.emp.ne; have h2 := h.nm; rw [List.length_append] at h2; omega) h.ok.se h.lY
  have HSP := hidOf h
  clear h
  unfold RmvE at RF RE
  cases hx : (flat X).any (fun x => x.f == f) with
  | true =>
    rw [hx] at RF
    have R1 := hidOf (RF.mono (R' := fun e w1 => ∃ v' X', e = .returned (.bool true) ∧ Hid (ShE B s 0 #[v1, v2] 92 w w1 v1 X v' X') ∧ Hid (flat X' = (flat X).filter (fun x => !(x.f == f))) ∧ Hid (∀ z ∈ X', z.L.length ≤ 128)) (fun e w1 hq => by
      rcases hq with ⟨hc, _⟩ | ⟨_, he, v', X', a1, a2, a3⟩
      · cases hc
      · exact ⟨v', X', he, hidOf a1, hidOf a2, hidOf a3⟩))
    clear RF RE
    go_enter Tryz.func26, Tryz.ntmps26
    go_wp2_with (go_at_call 56; refine R1.out.mono ?_; rintro e w1 ⟨v', X', rfl, SE, FL, HL⟩)
    go_ret
    have hy : (flat Y).any (fun x => x.f == f) = false := by
      obtain ⟨z, hz, e⟩ := List.any_eq_true.1 hx
      refine List.any_eq_false.2 (fun y hy => ?_)
      have h1 := HSP.out.ok.ne z hz y hy
      simp at e ⊢
      omega
    obtain ⟨sp, c, fp⟩ := HSP.out.remF (Out.refl w) SE.out (by rw [FL.out]; exact List.filter_sublist) HL.out (by omega)
    exact .inr ⟨by rw [hx]; rfl, rfl, v', v2, X', Y, sp, c, fp, FL.out, (filter_no hy).symm⟩
  | false =>
    rw [hx] at RF
    have R1 := hidOf (RF.mono (R' := fun e w1 => e = .returned (.bool false) ∧ Hid (Out w w1)) (fun e w1 hq => by
      rcases hq with ⟨_, he, a1⟩ | ⟨hc, _⟩
      · exact ⟨he, hidOf a1⟩
      · cases hc))
    cases hy : (flat Y).any (fun x => x.f == f) with
    | true =>
      rw [hy] at RE
      have R2 := hidOf (fun W o => (RE W o).mono (R' := fun e w1 => ∃ v' Y', e = .returned (.bool true) ∧ Hid (ShE B s 1 #[v1, v2] 92 W w1 v2 Y v' Y') ∧ Hid (flat Y' = (flat Y).filter (fun x => !(x.f == f))) ∧ Hid (∀ z ∈ Y', z.L.length ≤ 128)) (fun e w1 hq => by
        rcases hq with ⟨hc, _⟩ | ⟨_, he, v', X', a1, a2, a3⟩
        · cases hc
        · exact ⟨v', X', he, hidOf a1, hidOf a2, hidOf a3⟩))
      clear RF RE
      go_enter Tryz.func26, Tryz.ntmps26
      go_wp2_with (first | (go_at_call 56; refine R3.out.mono ?_; rintro e w2 ⟨v', Y', rfl, SE, FL, HL⟩) | (go_at_call 56; refine R1.out.mono ?_; rintro e w1 ⟨rfl, O1⟩; have R3 := hidOf (R2.out w1 O1.out)))
      go_ret
      obtain ⟨sp, c, fp⟩ := HSP.out.remE O1.out SE.out (by rw [FL.out]; exact List.filter_sublist) HL.out (by omega)
      exact .inr ⟨by rw [hx, hy]; rfl, rfl, v1, v', X, Y', sp, c, fp, (filter_no hx).symm, FL.out⟩
    | false =>
      rw [hy] at RE
      have R2 := hidOf (fun W o => (RE W o).mono (R' := fun e w1 => e = .returned (.bool false) ∧ Hid (Out W w1)) (fun e w1 hq => by
        rcases hq with ⟨_, he, a1⟩ | ⟨hc, _⟩
        · exact ⟨he, hidOf a1⟩
        · cases hc))
      clear RF RE
      go_enter Tryz.func26, Tryz.ntmps26
      go_wp2_with (first | (go_at_call 56; refine R3.out.mono ?_; rintro e w2 ⟨rfl, O2⟩) | (go_at_call 56; refine R1.out.mono ?_; rintro e w1 ⟨rfl, O1⟩; have R3 := hidOf (R2.out w1 O1.out)))
      go_ret
      exact .inl ⟨by rw [hx, hy]; rfl, rfl, O1.out.trans O2.out⟩
theorem load8_nil (w : World) (at_ : Nat) : Calls Tryz.prog 59 #[.pointer none, .int .u64 at_] w fun e w' => e = .returned (.tuple #[.int .u64 0, .int .i64 1]) ∧ w' = w := by
  go_enter Tryz.func59, Tryz.ntmps59
  go_wp2_with (first | (go_at_call 85; refine (size8 _).mono ?_; rintro e w9 ⟨rfl, hw9⟩; subst hw9) | (go_at_call 67; refine (access_nil _ _ _).mono ?_; rintro e w1 ⟨rfl, hw1⟩; subst hw1) | (go_at_call 86; refine (numberN8 _).mono ?_; rintro e w8 ⟨rfl, hw8⟩; subst hw8))
  refine bodyPost_ret (results_tmp2 rfl _ _ _) rfl ?_
  exact ⟨rfl, rfl⟩
theorem store8_nil (w : World) (at_ x : Nat) : Calls Tryz.prog 63 #[.pointer none, .int .u64 at_, .int .u8 x] w fun e w' => e = .returned (.int .i64 1) ∧ w' = w := by
  go_enter Tryz.func63, Tryz.ntmps63
  go_wp2_with (first | (go_at_call 85; refine (size8 _).mono ?_; rintro e w9 ⟨rfl, hw9⟩; subst hw9) | (go_at_call 67; refine (access_nil _ _ _).mono ?_; rintro e w1 ⟨rfl, hw1⟩; subst hw1) | (go_at_call 93; refine (layN8 _ x).mono ?_; rintro e w8 ⟨⟨q, rfl⟩, hw8⟩; subst hw8))
  go_ret
  exact ⟨rfl, rfl⟩
theorem load16_nil (w : World) (at_ : Nat) : Calls Tryz.prog 60 #[.pointer none, .int .u64 at_] w fun e w' => e = .returned (.tuple #[.int .u64 0, .int .i64 1]) ∧ w' = w := by
  go_enter Tryz.func60, Tryz.ntmps60
  go_wp2_with (first | (go_at_call 87; refine (size16 _).mono ?_; rintro e w9 ⟨rfl, hw9⟩; subst hw9) | (go_at_call 67; refine (access_nil _ _ _).mono ?_; rintro e w1 ⟨rfl, hw1⟩; subst hw1) | (go_at_call 88; refine (numberN16 _).mono ?_; rintro e w8 ⟨rfl, hw8⟩; subst hw8))
  refine bodyPost_ret (results_tmp2 rfl _ _ _) rfl ?_
  exact ⟨rfl, rfl⟩
theorem store16_nil (w : World) (at_ x : Nat) : Calls Tryz.prog 64 #[.pointer none, .int .u64 at_, .int .u16 x] w fun e w' => e = .returned (.int .i64 1) ∧ w' = w := by
  go_enter Tryz.func64, Tryz.ntmps64
  go_wp2_with (first | (go_at_call 87; refine (size16 _).mono ?_; rintro e w9 ⟨rfl, hw9⟩; subst hw9) | (go_at_call 67; refine (access_nil _ _ _).mono ?_; rintro e w1 ⟨rfl, hw1⟩; subst hw1) | (go_at_call 94; refine (layN16 _ x).mono ?_; rintro e w8 ⟨⟨q, rfl⟩, hw8⟩; subst hw8))
  go_ret
  exact ⟨rfl, rfl⟩
theorem load32_nil (w : World) (at_ : Nat) : Calls Tryz.prog 61 #[.pointer none, .int .u64 at_] w fun e w' => e = .returned (.tuple #[.int .u64 0, .int .i64 1]) ∧ w' = w := by
  go_enter Tryz.func61, Tryz.ntmps61
  go_wp2_with (first | (go_at_call 89; refine (size32 _).mono ?_; rintro e w9 ⟨rfl, hw9⟩; subst hw9) | (go_at_call 67; refine (access_nil _ _ _).mono ?_; rintro e w1 ⟨rfl, hw1⟩; subst hw1) | (go_at_call 90; refine (numberN32 _).mono ?_; rintro e w8 ⟨rfl, hw8⟩; subst hw8))
  refine bodyPost_ret (results_tmp2 rfl _ _ _) rfl ?_
  exact ⟨rfl, rfl⟩
theorem store32_nil (w : World) (at_ x : Nat) : Calls Tryz.prog 65 #[.pointer none, .int .u64 at_, .int .u32 x] w fun e w' => e = .returned (.int .i64 1) ∧ w' = w := by
  go_enter Tryz.func65, Tryz.ntmps65
  go_wp2_with (first | (go_at_call 89; refine (size32 _).mono ?_; rintro e w9 ⟨rfl, hw9⟩; subst hw9) | (go_at_call 67; refine (access_nil _ _ _).mono ?_; rintro e w1 ⟨rfl, hw1⟩; subst hw1) | (go_at_call 95; refine (layN32 _ x).mono ?_; rintro e w8 ⟨⟨q, rfl⟩, hw8⟩; subst hw8))
  go_ret
  exact ⟨rfl, rfl⟩
theorem load64_nil (w : World) (at_ : Nat) : Calls Tryz.prog 62 #[.pointer none, .int .u64 at_] w fun e w' => e = .returned (.tuple #[.int .u64 0, .int .i64 1]) ∧ w' = w := by
  go_enter Tryz.func62, Tryz.ntmps62
  go_wp2_with (first | (go_at_call 91; refine (size64 _).mono ?_; rintro e w9 ⟨rfl, hw9⟩; subst hw9) | (go_at_call 67; refine (access_nil _ _ _).mono ?_; rintro e w1 ⟨rfl, hw1⟩; subst hw1) | (go_at_call 92; refine (numberN64 _).mono ?_; rintro e w8 ⟨rfl, hw8⟩; subst hw8))
  refine bodyPost_ret (results_tmp2 rfl _ _ _) rfl ?_
  exact ⟨rfl, rfl⟩
theorem store64_nil (w : World) (at_ x : Nat) : Calls Tryz.prog 66 #[.pointer none, .int .u64 at_, .int .u64 x] w fun e w' => e = .returned (.int .i64 1) ∧ w' = w := by
  go_enter Tryz.func66, Tryz.ntmps66
  go_wp2_with (first | (go_at_call 91; refine (size64 _).mono ?_; rintro e w9 ⟨rfl, hw9⟩; subst hw9) | (go_at_call 67; refine (access_nil _ _ _).mono ?_; rintro e w1 ⟨rfl, hw1⟩; subst hw1) | (go_at_call 96; refine (layN64 _ x).mono ?_; rintro e w8 ⟨⟨q, rfl⟩, hw8⟩; subst hw8))
  go_ret
  exact ⟨rfl, rfl⟩
set_option maxHeartbeats 2000000 in
theorem Load_nil (w : World) (at_ : Nat) (wd : Int) : Calls Tryz.prog 28 #[.pointer none, .int .u64 at_, .int .i64 wd] w fun e w' => e = .returned (.tuple #[.int .u64 0, .int .i64 1]) ∧ w' = w := by
  by_cases h8 : wd = 8
  · subst h8
    go_enter Tryz.func28, Tryz.ntmps28
    go_wp2_with (go_at_call 59; refine (load8_nil _ _).mono ?_; rintro e w1 ⟨rfl, hw1⟩; subst hw1)
    refine bodyPost_ret (results_tmp2 rfl _ _ _) rfl ?_
    exact ⟨rfl, rfl⟩
  · by_cases h16 : wd = 16
    · subst h16
      go_enter Tryz.func28, Tryz.ntmps28
      go_wp2_with (go_at_call 60; refine (load16_nil _ _).mono ?_; rintro e w1 ⟨rfl, hw1⟩; subst hw1)
      refine bodyPost_ret (results_tmp2 rfl _ _ _) rfl ?_
      exact ⟨rfl, rfl⟩
    · by_cases h32 : wd = 32
      · subst h32
        go_enter Tryz.func28, Tryz.ntmps28
        go_wp2_with (go_at_call 61; refine (load32_nil _ _).mono ?_; rintro e w1 ⟨rfl, hw1⟩; subst hw1)
        refine bodyPost_ret (results_tmp2 rfl _ _ _) rfl ?_
        exact ⟨rfl, rfl⟩
      · have e8 : (wd == 8) = false := by simpa using h8
        have e16 : (wd == 16) = false := by simpa using h16
        have e32 : (wd == 32) = false := by simpa using h32
        go_enter Tryz.func28, Tryz.ntmps28
        go_wp2_with (go_at_call 62; refine (load64_nil _ _).mono ?_; rintro e w1 ⟨rfl, hw1⟩; subst hw1)
        refine bodyPost_ret (results_tmp2 rfl _ _ _) rfl ?_
        exact ⟨rfl, rfl⟩
set_option maxHeartbeats 2000000 in
theorem Store_nil (w : World) (at_ x : Nat) (wd : Int) (hx : x < 18446744073709551616) : Calls Tryz.prog 30 #[.pointer none, .int .u64 at_, .int .i64 wd, .int .u64 x] w fun e w' => e = .returned (.int .i64 1) ∧ w' = w := by
  by_cases h8 : wd = 8
  · subst h8
    have C := store8_nil w at_ (x % 256)
    rw [show ((x % 256 : Nat) : Int) = (x : Int) % 256 by omega] at C
    have C := hidOf C
    go_enter Tryz.func30, Tryz.ntmps30
    go_wp2_with (go_at_call 63; refine C.out.mono ?_; rintro e w1 ⟨rfl, hw1⟩; subst hw1)
    go_ret
    exact ⟨rfl, rfl⟩
  · by_cases h16 : wd = 16
    · subst h16
      have C := store16_nil w at_ (x % 65536)
      rw [show ((x % 65536 : Nat) : Int) = (x : Int) % 65536 by omega] at C
      have C := hidOf C
      go_enter Tryz.func30, Tryz.ntmps30
      go_wp2_with (go_at_call 64; refine C.out.mono ?_; rintro e w1 ⟨rfl, hw1⟩; subst hw1)
      go_ret
      exact ⟨rfl, rfl⟩
    · by_cases h32 : wd = 32
      · subst h32
        have C := store32_nil w at_ (x % 4294967296)
        rw [show ((x % 4294967296 : Nat) : Int) = (x : Int) % 4294967296 by omega] at C
        have C := hidOf C
        go_enter Tryz.func30, Tryz.ntmps30
        go_wp2_with (go_at_call 65; refine C.out.mono ?_; rintro e w1 ⟨rfl, hw1⟩; subst hw1)
        go_ret
        exact ⟨rfl, rfl⟩
      · have e8 : (wd == 8) = false := by simpa using h8
        have e16 : (wd == 16) = false := by simpa using h16
        have e32 : (wd == 32) = false := by simpa using h32
        have C := store64_nil w at_ x
        have C := hidOf C
        go_enter Tryz.func30, Tryz.ntmps30
        go_wp2_with (go_at_call 66; refine C.out.mono ?_; rintro e w1 ⟨rfl, hw1⟩; subst hw1)
        go_ret
        exact ⟨rfl, rfl⟩
theorem Bytes_nil (w : World) (at_ : Nat) (N : Int) : Calls Tryz.prog 32 #[.pointer none, .int .u64 at_, .int .i64 N] w fun e w' => e = .returned (.tuple #[.slice none 0 0, .int .i64 1]) ∧ w' = w := by
  go_enter Tryz.func32, Tryz.ntmps32
  go_wp2_with (first | (go_at_call 67; refine (access_nil _ _ _).mono ?_; rintro e w1 ⟨rfl, hw1⟩; subst hw1) | (go_at_call 68; refine (cloneB_nil _).mono ?_; rintro e w2 ⟨rfl, hw2⟩; subst hw2))
  refine bodyPost_ret (results_tmp2 rfl _ _ _) rfl ?_
  exact ⟨rfl, rfl⟩
theorem Put_nil (w : World) (at_ k bc : Nat) (ba : Option Addr) : Calls Tryz.prog 35 #[.pointer none, .int .u64 at_, .slice ba k bc] w fun e w' => e = .returned (.int .i64 1) ∧ w' = w := by
  go_enter Tryz.func35, Tryz.ntmps35
  have hcp := copy_none w 3 ba k bc
  go_wp2_with (go_at_call 67; refine (access_nil _ _ _).mono ?_; rintro e w1 ⟨rfl, hw1⟩; subst hw1)
  go_ret
  exact ⟨rfl, rfl⟩
theorem Remove_nil (w : World) (f : Nat) : Calls Tryz.prog 26 #[.pointer none, .int .u64 f] w fun e w' => e = .returned (.int .i64 1) ∧ w' = w := by
  go_enter Tryz.func26, Tryz.ntmps26
  go_wp2
  go_ret
  exact ⟨rfl, rfl⟩
theorem Add_nil (w : World) (f n c : Nat) (a : Option Addr) : Calls Tryz.prog 22 #[.pointer none, .agg #[.int .u64 f, .slice a n c]] w fun e w' => e = .returned (.int .i64 1) ∧ Out w w' := by
  go_enter Tryz.func22, Tryz.ntmps22
  go_wp2
  go_ret
  exact ⟨rfl, by first | exact Out.refl _ | exact (Out.refl _).alloc _⟩
end Go.Proofs.YtekjfbmebekmeaaGreat
