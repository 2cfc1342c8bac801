import Derived.Test.YtekjfbmebekmeaaGreatGa32
namespace Go.Proofs.YtekjfbmebekmeaaGreat
open Go.RowKit
set_option linter.unusedVariables false
set_option linter.unusedSimpArgs false
set_option maxHeartbeats 2000000 in
set_option maxRecDepth 100000 in
theorem accessN_any (w : World) (B s : Nat) (v1 v2 : Value) (X Y : List Rw) (m at_ n : Nat) (h : SpD B w s v1 v2 X Y m) (hn : 0 < n) (hn8 : n < 9223372036854775808) (ha : at_ < 18446744073709551616) :
    Calls Tryz.prog 67 #[.pointer (some ⟨s, 0, none⟩), .int .u64 at_, .int .i64 n] w fun e w' => AccE (flat X) at_ n e ∧ Out w w' := by
  have U := hidOf (upTo_any w B s 0 v1 X at_ h.sp.fil h.sp.c1 h.ok.sf (by have := h.sp.nX; omega))
  have HS := hidOf h
  have hn0 : ¬ ((n : Int) < 0) := by omega
  have hnz : ¬ ((n : Int) = 0) := by omega
  have hnzb : ((n : Int) == 0) = false := by rw [beq_eq_false_iff_ne]; exact hnz
  clear h
  go_enter Tryz.func67, Tryz.ntmps67
  go_upto_region 8 with (go_at_call 78; refine U.out.mono ?_; rintro e w1 ⟨⟨hu, rfl⟩ | ⟨y, hu, hy, rfl⟩, ho1⟩ <;> (have HU := hidOf hu; have O1 := hidOf ho1; clear hu ho1))
  · go_wp2
    refine bodyPost_ret (results_tmp2 rfl _ _ _) rfl ?_
    exact ⟨.inl ⟨by simp [acP, HU.out], rfl⟩, O1.out.alloc _⟩
  · have hyd := HS.out.ok.fd y hy
    have hyl := HS.out.le y (List.mem_append_left _ hy)
    have hyf : y.f ≤ at_ := by
      rcases upF_hit HS.out.ok.sf at_ with ⟨z, hz, _, hz2, _⟩ | ⟨hz, _⟩
      · rw [HU.out] at hz; cases hz; exact hz2
      · rw [HU.out] at hz; cases hz
    have hda := HS.out.da y (List.mem_append_left _ hy)
    obtain ⟨yb, hyb⟩ : ∃ yb, y.a = some yb := by
      cases hya : y.a with
      | some b => exact ⟨b, rfl⟩
      | none =>
        rcases hda.2 with ⟨_, h0⟩ | ⟨g, cap, cur, e, _⟩
        · omega
        · rw [daV, hya] at e; cases e
    have hyc : y.d.length ≤ y.c := by
      rcases hda.2 with ⟨_, h0⟩ | ⟨g, cap, cur, e, _, _, h1, _⟩
      · omega
      · rw [daV] at e; simp only [Value.slice.injEq] at e; omega
    have HY := hidOf hyb
    have hacc : Hid (acP (flat X) at_ n = if at_ - y.f < y.d.length ∧ n ≤ y.d.length - (at_ - y.f) then some (y, at_ - y.f) else none) := hidOf (by simp only [acP, HU.out])
    rw [hyb]
    simp only [Option.map_some]
    obtain ⟨o, hoe⟩ : ∃ o, at_ = y.f + o := ⟨at_ - y.f, by omega⟩
    subst hoe
    rw [show y.f + o - y.f = o by omega] at hacc
    obtain ⟨wB, HB, b0, b1, oB, _⟩ := box_two w1 (.int .u64 (y.f : Nat)) (.slice (some ⟨yb, 0, none⟩) y.d.length y.c) 36
    rw [← HB.out]
    have OB := hidOf oB
    have HAS := hidOf (fun W => hasR W y.f y.d.length y.c (y.f + o) (some ⟨yb, 0, none⟩) hyl (by omega) ha)
    rw [show y.f + o - y.f = o by omega] at HAS
    obtain ⟨yf, hyfe⟩ : ∃ yf, Hid (yf = y.f) := ⟨_, rfl⟩
    obtain ⟨yl, hyle⟩ : ∃ yl, Hid (yl = y.d.length) := ⟨_, rfl⟩
    obtain ⟨yc, hyce⟩ : ∃ yc, Hid (yc = y.c) := ⟨_, rfl⟩
    rw [← hyfe.out] at b0 HAS ha
    rw [← hyle.out, ← hyce.out] at b1 HAS
    rw [← hyle.out, ← hyce.out] at hyc
    rw [← hyle.out] at hyl
    have hw1 : IntKind.u64.wrap (((yf + o : Nat) : Int) - yf) = (o : Int) := by rw [IntKind.wrap_u64]; omega
    have hw2 : IntKind.u64.wrap ((yf : Int) + o - yf) = (o : Int) := by rw [IntKind.wrap_u64]; omega
    clear hy hyd hda hyb hyf oB
    rw [← hyfe.out]
    by_cases hol : o < yl
    · have hb : decide (o < yl) = true := by simpa using hol
      rw [hb] at HAS
      have hoI : (o : Int) ≤ (yl : Int) := by omega
      have hco : ¬ (yc = o) := by omega
      by_cases hnl : n ≤ yl - o
      · have hnlI : ¬ (((yl - o : Nat) : Int) < (n : Int)) := by omega
        have hnlJ : (n : Int) ≤ ((yc - o : Nat) : Int) := by omega
        have hac2 := hacc.out
        rw [← hyle.out, if_pos ⟨hol, hnl⟩] at hac2
        have HAC := hidOf hac2
        clear hb hol hac2
        go_wp2_with (go_at_call 97; refine (HAS.out _).mono ?_; rintro e w2 ⟨rfl, ho2⟩; have O2 := hidOf ho2; have c0 := cell_later ho2 b0; have c1 := cell_later ho2 b1; clear ho2)
        refine bodyPost_ret (results_tmp2 rfl _ _ _) rfl ?_
        exact ⟨.inr ⟨y, o, yb, HAC.out, HY.out, by rw [← hyce.out]; rfl⟩, (O1.out.trans OB.out).trans O2.out⟩
      · have hnlI : (((yl - o : Nat) : Int) < (n : Int)) := by omega
        have hac2 := hacc.out
        rw [← hyle.out, if_neg (by omega)] at hac2
        have HAC := hidOf hac2
        clear hb hol hac2
        go_wp2_with (go_at_call 97; refine (HAS.out _).mono ?_; rintro e w2 ⟨rfl, ho2⟩; have O2 := hidOf ho2; have c0 := cell_later ho2 b0; have c1 := cell_later ho2 b1; clear ho2)
        refine bodyPost_ret (results_tmp2 rfl _ _ _) rfl ?_
        exact ⟨.inl ⟨HAC.out, rfl⟩, (O1.out.trans OB.out).trans O2.out⟩
    · have hb : decide (o < yl) = false := by simpa using hol
      rw [hb] at HAS
      have hac2 := hacc.out
      rw [← hyle.out, if_neg (by omega)] at hac2
      have HAC := hidOf hac2
      clear hb hol hac2
      go_wp2_with (go_at_call 97; refine (HAS.out _).mono ?_; rintro e w2 ⟨rfl, ho2⟩; have O2 := hidOf ho2; clear ho2)
      refine bodyPost_ret (results_tmp2 rfl _ _ _) rfl ?_
      exact ⟨.inl ⟨HAC.out, rfl⟩, (O1.out.trans OB.out).trans O2.out⟩
theorem access_zero (w : World) (s at_ : Nat) : Calls Tryz.prog 67 #[.pointer (some ⟨s, 0, none⟩), .int .u64 at_, .int .i64 0] w fun e w' => e = .returned (.tuple #[.slice none 0 0, .int .i64 0]) ∧ w' = w := by
  go_enter Tryz.func67, Tryz.ntmps67
  go_wp2
  refine bodyPost_ret (results_tmp2 rfl _ _ _) rfl ?_
  exact ⟨rfl, rfl⟩
theorem access_neg (w : World) (s at_ : Nat) (N : Int) (hN : N < 0) : Calls Tryz.prog 67 #[.pointer (some ⟨s, 0, none⟩), .int .u64 at_, .int .i64 N] w fun e w' => e = .returned (.tuple #[.slice none 0 0, .int .i64 200]) ∧ w' = w := by
  go_enter Tryz.func67, Tryz.ntmps67
  go_wp2
  refine bodyPost_ret (results_tmp2 rfl _ _ _) rfl ?_
  exact ⟨rfl, rfl⟩
theorem access_nil (w : World) (at_ : Nat) (N : Int) : Calls Tryz.prog 67 #[.pointer none, .int .u64 at_, .int .i64 N] w fun e w' => e = .returned (.tuple #[.slice none 0 0, .int .i64 1]) ∧ w' = w := by
  go_enter Tryz.func67, Tryz.ntmps67
  go_wp2
  refine bodyPost_ret (results_tmp2 rfl _ _ _) rfl ?_
  exact ⟨rfl, rfl⟩
theorem cloneB_nil (w : World) : Calls Tryz.prog 68 #[.slice none 0 0] w fun e w' => e = .returned (.slice none 0 0) ∧ w' = w := by
  have q : ∀ (w : World), (binOp .eql 29 (.slice none 0 0) (.slice none 0 0)).run Tryz.prog w = .ok (.bool true) w := fun w => Lib.run_eql_slice_nil w _ _ none 0 0 0 0 Tryz.underlying29
  go_enter Tryz.func68, Tryz.ntmps68
  go_wp2
  go_ret
  exact ⟨rfl, rfl⟩
set_option maxHeartbeats 2000000 in
theorem cloneB_any (w : World) (ad : Addr) (n c : Nat) (d : List UInt8) (hn : n = d.length) (h : RestA w (some ad) d) (hd : d.length ≤ 140737488355328) :
    Calls Tryz.prog 68 #[.slice (some ad) n c] w fun e w' => ∃ g' c', e = .returned (.slice (some ⟨g', 0, none⟩) n c') ∧ w'.ownsRow w.heap.size 5 1 (.slice (some ⟨g', 0, none⟩) n c') n (d.map byV) ∧ Out w w' := by
  obtain ⟨g', c', W1, hap, hown, ho⟩ := append_void8 w (some ad) c d h hd
  rw [← hn] at hap hown
  have q : ∀ (w : World), (binOp .eql 29 (.slice (some ad) n c) (.slice none 0 0)).run Tryz.prog w = .ok (.bool false) w := fun w => Lib.run_eql_slice_nil w _ _ (some ad) n c 0 0 Tryz.underlying29
  have HAP := hidOf hap
  have HOW := hidOf hown
  have HO := hidOf ho
  clear hap hown ho h hd hn
  go_enter Tryz.func68, Tryz.ntmps68
  go_wp2_with (at_builtin; refine Lib.wpList_append_run _ rfl _ _ _ _ rfl _ _ rfl rfl _ _ (HAP.out _) ?_)
  go_ret
  exact ⟨g', c', rfl, HOW.out, HO.out⟩
def BysP (F : List Rg) (at_ : Nat) (N : Int) : List UInt8 × Int :=
  if N = 0 then ([], 0) else if N < 0 then ([], 200) else match acP F at_ N.toNat with | none => ([], 200) | some (y, o) => ((y.d.drop o).take N.toNat, 0)
theorem bysP_Q {F E : List Rg} {P : List (Nat × List UInt8)} (h : SpOk F E) (hp : P.Perm ((F ++ E).map fdR)) (at_ : Nat) (N : Int) : ByQ P at_ N = BysP F at_ N := by
  unfold ByQ BysP
  by_cases h0 : N = 0
  · rw [if_pos h0, if_pos h0]
  · rw [if_neg h0, if_neg h0]
    by_cases h1 : N < 0
    · rw [if_pos h1, if_pos h1]
    · rw [if_neg h1, if_neg h1]
      rcases fnd_acP h hp at_ N.toNat with ⟨e1, e2⟩ | ⟨i, y, e1, e2, _, e3, _⟩
      · rw [e1, e2]
      · rw [e1, e3]
        simp only [e2, Option.getD_some, fdR]
set_option maxHeartbeats 4000000 in
set_option maxRecDepth 100000 in
theorem Bytes_any (w : World) (B s : Nat) (v1 v2 : Value) (X Y : List Rw) (m at_ : Nat) (N : Int) (h : SpD B w s v1 v2 X Y m) (ha : at_ < 18446744073709551616) (hN : -9223372036854775808 ≤ N ∧ N < 9223372036854775808) :
    Calls Tryz.prog 32 #[.pointer (some ⟨s, 0, none⟩), .int .u64 at_, .int .i64 N] w fun e w' => ∃ v, e = .returned (.tuple #[v, .int .i64 (BysP (flat X) at_ N).2]) ∧ w'.ownsRow w.heap.size 5 1 v (BysP (flat X) at_ N).1.length ((BysP (flat X) at_ N).1.map byV) ∧ Out w w' := by
  have CN := hidOf (fun W => cloneB_nil W)
  by_cases h0 : N = 0
  · subst h0
    have AC := hidOf (access_zero w s at_)
    clear h
    go_enter Tryz.func32, Tryz.ntmps32
    go_wp2_with (first | (go_at_call 67; refine AC.out.mono ?_; rintro e w1 ⟨rfl, hw⟩; subst hw) | (go_at_call 68; refine (CN.out _).mono ?_; rintro e w2 ⟨rfl, hw⟩; subst hw))
    refine bodyPost_ret (results_tmp2 rfl _ _ _) rfl ?_
    exact ⟨.slice none 0 0, rfl, World.ownsRow_nil _ _ _ _, Out.refl _⟩
  · by_cases h1 : N < 0
    · have AC := hidOf (access_neg w s at_ N h1)
      have e : BysP (flat X) at_ N = ([], 200) := by simp [BysP, h0, h1]
      rw [e]
      clear h e
      go_enter Tryz.func32, Tryz.ntmps32
      go_wp2_with (first | (go_at_call 67; refine AC.out.mono ?_; rintro e w1 ⟨rfl, hw⟩; subst hw) | (go_at_call 68; refine (CN.out _).mono ?_; rintro e w2 ⟨rfl, hw⟩; subst hw))
      refine bodyPost_ret (results_tmp2 rfl _ _ _) rfl ?_
      exact ⟨.slice none 0 0, rfl, World.ownsRow_nil _ _ _ _, Out.refl _⟩
    · obtain ⟨k, rfl⟩ : ∃ k : Nat, N = (k : Int) := ⟨N.toNat, by omega⟩
      have AC := hidOf (accessN_any w B s v1 v2 X Y m at_ k h (by omega) (by omega) ha)
      have hB : BysP (flat X) at_ (k : Int) = match acP (flat X) at_ k with | none => ([], 200) | some (y, o) => ((y.d.drop o).take k, 0) := by simp only [BysP, if_neg h0, if_neg h1, Int.toNat_natCast]
      have HSP := hidOf h
      have HB := hidOf hB
      clear h hB
      unfold AccE at AC
      go_enter Tryz.func32, Tryz.ntmps32
      go_upto_region 2 with (go_at_call 67; refine AC.out.mono ?_; rintro e w1 ⟨⟨hac, rfl⟩ | ⟨y, o, b, hac, hyb, rfl⟩, ho1⟩ <;> (have HAC := hidOf hac; have O1 := hidOf ho1; clear hac ho1))
      · go_wp2_with (go_at_call 68; refine (CN.out _).mono ?_; rintro e w2 ⟨rfl, hw⟩; subst hw)
        refine bodyPost_ret (results_tmp2 rfl _ _ _) rfl ?_
        have e9 := HB.out
        rw [HAC.out] at e9
        rw [e9]
        exact ⟨.slice none 0 0, rfl, World.ownsRow_nil _ _ _ _, O1.out⟩
      · obtain ⟨hy, hyo, hol, hnl⟩ := acP_some HSP.out.ok.sf HAC.out
        have hda := HSP.out.da y (List.mem_append_left _ hy)
        have hle := HSP.out.le y (List.mem_append_left _ hy)
        have hby := by_of hda hyb (show o + k ≤ y.d.length by omega)
        have hseg : ((y.d.drop o).take k).length = k := by rw [List.length_take, List.length_drop]; omega
        have RST : RestA w1 (some ⟨b, o, none⟩) ((y.d.drop o).take k) := RestA.out (.inr ⟨⟨b, o, none⟩, rfl, fun j u hj => by
          rw [add_B]
          rw [List.getElem?_map] at hj
          cases hx : ((y.d.drop o).take k)[j]? with
          | none => rw [hx] at hj; cases hj
          | some x => rw [hx] at hj; cases hj; exact hby j x hx⟩) O1.out
        have CB := hidOf (cloneB_any w1 ⟨b, o, none⟩ k (y.c - o) _ hseg.symm RST (by rw [hseg]; omega))
        have HSG := hidOf hseg
        clear hy hyo hol hnl hda hle hby hseg RST hyb
        go_wp2_with (go_at_call 68; refine CB.out.mono ?_; rintro e w2 ⟨g', c', rfl, hown, ho2⟩; have W2 := hidOf hown; have O2 := hidOf ho2; clear hown ho2)
        refine bodyPost_ret (results_tmp2 rfl _ _ _) rfl ?_
        have e9 := HB.out
        rw [HAC.out] at e9
        rw [e9]
        refine ⟨_, rfl, ?_, O1.out.trans O2.out⟩
        show w2.ownsRow w.heap.size 5 1 (.slice (some ⟨g', 0, none⟩) k c') ((y.d.drop o).take k).length (((y.d.drop o).take k).map byV)
        rw [HSG.out]
        exact own_base W2.out O1.out.size
theorem copy_none (w : World) (ty : TypeId) (b : Option Addr) (n c : Nat) : (Builtin.copy_ #[29, 29] ty #[.slice none 0 0, .slice b n c]).run Tryz.prog w = .ok (.int .i64 0) w := by
  obtain ⟨i0, hi0, hz0, hz1, hz2⟩ := info_parts info8
  cases b <;> simp [Builtin.copy_, run_underlying Tryz.underlying29, Builtin.lenOf, Builtin.firstCells, sizeOf, typeInfo, hi0, loadCells, loadCellsFrom, storeCells, goInt]
theorem sizeU8 : (Tryz.prog.info? 5).map (·.size) = some 1 := by kernel_rfl
def PutSE (B s : Nat) (v1 v2 : Value) (X Y : List Rw) (m at_ : Nat) (d : List UInt8) (w : World) (e : Ending) (w' : World) : Prop :=
  (d = [] ∧ e = .returned (.int .i64 0) ∧ Out w w') ∨ (¬ d = [] ∧ acP (flat X) at_ d.length = none ∧ e = .returned (.int .i64 200) ∧ Out w w') ∨
  (¬ d = [] ∧ ∃ y o, acP (flat X) at_ d.length = some (y, o) ∧ e = .returned (.int .i64 0) ∧ SpD B w' s v1 v2 (updX y.f (layL y.d o d) X) Y m ∧ Chg (dbs (flat X ++ flat Y)) w w')
theorem splice_lay {cur : List Value} {d b : List UInt8} {o : Nat} (hd : cur.take d.length = d.map byV) (h : o + b.length ≤ d.length) (hl : d.length ≤ cur.length) : (splice cur o (b.map byV)).take d.length = (layL d o b).map byV := by
  apply List.ext_getElem?
  intro j
  unfold splice layL
  have h5 : ∀ q, q < d.length → cur[q]? = (d.map byV)[q]? := fun q hq => by rw [← hd, List.getElem?_take, if_pos hq]
  rw [List.getElem?_take]
  by_cases hj : j < d.length
  · rw [if_pos hj, List.getElem?_map]
    simp only [List.append_assoc, List.getElem?_append, List.length_take, List.length_map, Nat.min_eq_left (show o ≤ cur.length by omega), Nat.min_eq_left (show o ≤ d.length by omega)]
    by_cases hjo : j < o
    · rw [if_pos hjo, if_pos hjo, List.getElem?_take, if_pos hjo, List.getElem?_take, if_pos hjo, h5 j hj, List.getElem?_map]
    · rw [if_neg hjo, if_neg hjo]
      by_cases hjb : j - o < b.length
      · rw [if_pos hjb, if_pos hjb, List.getElem?_map]
      · rw [if_neg hjb, if_neg hjb, List.getElem?_drop, List.getElem?_drop, h5 _ (by omega), List.getElem?_map]
  · rw [if_neg hj, List.getElem?_eq_none]
    simp only [List.length_map, List.length_append, List.length_take, List.length_drop]; omega
set_option maxHeartbeats 4000000 in
set_option maxRecDepth 100000 in
theorem Put_any (w : World) (B s : Nat) (v1 v2 : Value) (X Y : List Rw) (m at_ bc : Nat) (ba : Option Addr) (d : List UInt8) (h : SpD B w s v1 v2 X Y m) (ha : at_ < 18446744073709551616) (hr : RestA w ba d) (hdl : d.length ≤ 140737488355328) :
    Calls Tryz.prog 35 #[.pointer (some ⟨s, 0, none⟩), .int .u64 at_, .slice ba d.length bc] w fun e w' => PutSE B s v1 v2 X Y m at_ d w e w' := by
  obtain ⟨k, hk⟩ : ∃ k, Hid (k = d.length) := ⟨_, rfl⟩
  by_cases h0 : d = []
  · have hk0 : k = 0 := by rw [hk.out, h0]; rfl
    have AC := hidOf (access_zero w s at_)
    have H0 := hidOf h0
    have hkI : ((k : Nat) : Int) = 0 := by omega
    rw [← hk.out]
    rw [hk0]
    clear h hr h0 hk0 hkI hk
    go_enter Tryz.func35, Tryz.ntmps35
    have hcp := copy_none w 3 ba 0 bc
    go_wp2_with (go_at_call 67; refine AC.out.mono ?_; rintro e w1 ⟨rfl, hw⟩; subst hw)
    go_ret
    exact .inl ⟨H0.out, rfl, Out.refl _⟩
  · have hk0 : 0 < k := by rw [hk.out]; exact List.length_pos_iff.2 h0
    obtain ⟨ad, rfl, hsrc⟩ := hr.resolve_left h0
    have AC := hidOf (accessN_any w B s v1 v2 X Y m at_ k h hk0 (by rw [hk.out]; omega) ha)
    have HSP := hidOf h
    have H0 := hidOf h0
    have SRC := hidOf hsrc
    rw [← hk.out] at hdl ⊢
    clear h hr h0 hsrc
    unfold AccE at AC
    go_enter Tryz.func35, Tryz.ntmps35
    go_upto_region 2 with (go_at_call 67; refine AC.out.mono ?_; rintro e w1 ⟨⟨hac, rfl⟩ | ⟨y, o, b, hac, hyb, rfl⟩, ho1⟩ <;> (have HAC := hidOf hac; have O1 := hidOf ho1; clear hac ho1))
    · have hcp := copy_none w1 3 (some ad) k bc
      go_wp2
      go_ret
      exact .inr (.inl ⟨H0.out, by rw [← hk.out]; exact HAC.out, rfl, O1.out⟩)
    · obtain ⟨hy, hyo, hol, hnl⟩ := acP_some HSP.out.ok.sf HAC.out
      have hda : w.ownsRow B 5 1 (daV y) y.d.length (y.d.map byV) := HSP.out.da y (List.mem_append_left _ hy)
      have hda2 := hda
      rw [daV, hyb] at hda2
      obtain ⟨cur, hg, hB, hnc, hcm, hcl, hct, hxl⟩ := owns_blk (show w.ownsRow B 5 1 (.slice (some ⟨b, 0, none⟩) y.d.length y.c) y.d.length (y.d.map byV) from hda2)
      have hg1 := blk_out hg O1.out
      have hcl2 : cur.length = y.c := by simpa using hcl
      have hct2 : cur.take y.d.length = y.d.map byV := by simpa using hct
      obtain ⟨cr, hcr⟩ : ∃ cr, Hid (cr = y.c - o) := ⟨_, rfl⟩
      rw [← hcr.out]
      obtain ⟨cs, hcs⟩ : ∃ cs : List Value, Hid (cs = d.map byV) := ⟨_, rfl⟩
      have hcsl : cs.length = k := by rw [hcs.out, List.length_map, hk.out]
      have hcsr : Hid (∀ j v, cs[j]? = some v → w1.cell? (ad.add j) = some v) := hidOf (fun j v hj => cell_later O1.out (SRC.out j v (by rw [← hcs.out]; exact hj)))
      have hone : Hid (∀ v ∈ cs, v.oneCell' = true) := hidOf (fun v hv => by rw [hcs.out] at hv; obtain ⟨q, _, rfl⟩ := List.mem_map.1 hv; rfl)
      have HG := hidOf hg1
      have hfit : Hid (o + cs.length ≤ cur.length) := hidOf (by omega)
      have hn1 : Hid (cs.length = k * 1) := hidOf (by rw [hcsl, Nat.mul_one])
      have HCT := hidOf hct2
      have HCL := hidOf hcl2
      have HYB := hidOf hyb
      have HYM := hidOf hy
      have hok2 : Hid (o + k ≤ y.d.length) := hidOf (by omega)
      have HCM := hidOf (show y.c ≤ maxLen from hcm)
      have HNC := hidOf hnc
      have HBB := hidOf hB
      clear hy hyo hol hnl hda hda2 hg hB hnc hcm hcl hct hxl hg1 hcl2 hct2 hyb hcsl
      obtain ⟨w2, hcp, hg2, hc2⟩ := copyK_ex (P := Tryz.prog) w1 29 29 3 5 1 b o k cr ad k bc cur 5 cs k Tryz.underlying29 sizeU8 HG.out (Nat.min_self k) hn1.out hcsr.out hfit.out hone.out
      go_wp2
      go_ret
      refine .inr (.inr ⟨H0.out, y, o, by rw [← hk.out]; exact HAC.out, rfl, ?_, ?_⟩)
      · have hlen : (layL y.d o d).length = y.d.length := layL_len _ _ _ (by rw [← hk.out]; exact hok2.out)
        refine (HSP.out.out O1.out).upd HYM.out HYB.out hlen hc2.out ?_
        have h3 := hg2.out
        have hcc := HCL.out
        have hnn := HNC.out
        show w2.ownsRow B 5 1 (.slice (y.a.map fun b => ⟨b, 0, none⟩) (layL y.d o d).length y.c) (layL y.d o d).length ((layL y.d o d).map byV)
        rw [HYB.out]
        refine ⟨by simp, .inr ⟨b, y.c, _, rfl, HBB.out, h3, by rw [hlen]; exact hnn, HCM.out, by rw [List.size_toArray, length_splice _ _ _ hfit.out, hcc, Nat.mul_one], ?_⟩⟩
        rw [hlen, Nat.mul_one, hcs.out]
        exact splice_lay HCT.out (by rw [← hk.out]; exact hok2.out) (by omega)
      · refine (Chg.of_out (S := dbs (flat X ++ flat Y)) O1.out).trans hc2.out (fun x hx _ => ?_)
        subst hx
        exact ⟨y, List.mem_append_left _ HYM.out, HYB.out⟩
end Go.Proofs.YtekjfbmebekmeaaGreat
