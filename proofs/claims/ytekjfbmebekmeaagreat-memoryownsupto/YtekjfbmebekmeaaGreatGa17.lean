import Derived.Test.YtekjfbmebekmeaaGreatGa16
namespace Go.Proofs.YtekjfbmebekmeaaGreat
open Go.RowKit
set_option linter.unusedVariables false
set_option linter.unusedSimpArgs false
def LoadP (F : List Rg) (at_ n : Nat) : Nat × Int := match acP F at_ n with | none => (0, 200) | some (y, o) => (numL ((y.d.drop o).take n), 0)
theorem by_of {B : Nat} {w : World} {y : Rg} {b o n : Nat} (h : DaI B w y) (hb : y.a = some b) (ho : o + n ≤ y.d.length) : By w b o ((y.d.drop o).take n) := fun k x hk => by
  have hk2 : y.d[o + k]? = some x := by
    rw [List.getElem?_take] at hk
    split at hk
    · rwa [List.getElem?_drop] at hk
    · cases hk
  have h2 : w.ownsRow B 5 1 (.slice (some ⟨b, 0, none⟩) y.d.length y.c) y.d.length (y.d.map byV) := by
    have h1 := h
    unfold DaI daV at h1
    rw [hb] at h1
    exact h1
  exact (own_cellK h2 (j := o + k) (by rw [List.getElem?_map, hk2]; rfl)).1
def StoreE (B s : Nat) (v1 v2 : Value) (X Y : List Rw) (m at_ n x : Nat) (w : World) (e : Ending) (w' : World) : Prop :=
  (acP (flat X) at_ n = none ∧ e = .returned (.int .i64 200) ∧ Out w w') ∨ ∃ y o, acP (flat X) at_ n = some (y, o) ∧ e = .returned (.int .i64 0) ∧ SpD B w' s v1 v2 (updX y.f (layL y.d o (bysN x n)) X) Y m ∧ Chg (dbs (flat X ++ flat Y)) w w'
theorem SpD.laid {B : Nat} {w w1 w2 : World} {s : Nat} {v1 v2 : Value} {X Y : List Rw} {m b o n x : Nat} {y : Rg} (h : SpD B w s v1 v2 X Y m) (o1 : Out w w1) (hy : y ∈ flat X) (hb : y.a = some b) (ho : o + n ≤ y.d.length) (cur : List Value) (hg : w1.heap[b]? = some (.cells cur.toArray 5 (0, 0))) (hcl : cur.length = y.c) (hct : cur.take y.d.length = y.d.map byV) (hyc : y.d.length ≤ y.c) (hcm : y.c ≤ maxLen) (hB : B ≤ b)
    (hB8 : By8 w2 b (layC cur.toArray o x n)) (c2 : Chg (fun k => k = b) w1 w2) : SpD B w2 s v1 v2 (updX y.f (layL y.d o (bysN x n)) X) Y m ∧ Chg (dbs (flat X ++ flat Y)) w w2 := by
  have hl : (layL y.d o (bysN x n)).length = y.d.length := layL_len _ _ _ (by rw [bysN_len]; exact ho)
  refine ⟨(h.out o1).upd hy hb hl c2 ?_, (Chg.of_out o1).trans c2 (fun k hk _ => by subst hk; exact ⟨y, List.mem_append_left _ hy, hb⟩)⟩
  unfold DaI daV
  simp only [hb, Option.map_some]
  rw [hl]
  have h1 : w2.heap[b]? = some (.cells (layC cur.toArray o x n).toList.toArray 5 (0, 0)) := by rw [Array.toArray_toList]; exact hB8
  refine blk_owns h1 hB hyc hcm (by rw [Array.length_toList, layC_size, List.size_toArray, hcl, Nat.mul_one]) ?_
  rw [Nat.mul_one]
  exact layC_layL cur y.d o x n hct ho (by omega)
set_option maxHeartbeats 1000000 in
theorem numberN8 (w : World) : Calls Tryz.prog 86 #[.slice none 0 0] w fun e w' => e = .returned (.int .u8 0) ∧ w = w' := by
  go_enter Tryz.func86, Tryz.ntmps86
  go_wp2
  go_loopw [3, 8] (fun xv kv wr => xv = .int .u8 0 ∧ kv = .int .i64 0 ∧ Hid (wr = w)) (fun _ _ _ => 0)
  case atStart => exact ⟨rfl, rfl, hidOf rfl⟩
  case round =>
    obtain ⟨rfl, rfl, HW⟩ := hrel
    have hww := HW.out
    clear HW
    subst hww
    go_wp2
    go_ret
    exact ⟨rfl, rfl⟩
set_option maxHeartbeats 1000000 in
theorem layN8 (w : World) (x : Nat) : Calls Tryz.prog 93 #[.slice none 0 0, .int .u8 x] w fun e w' => (∃ q, e = .returned q) ∧ w = w' := by
  go_enter Tryz.func93, Tryz.ntmps93
  go_wp2
  go_loopw [7] (fun kv wr => kv = .int .i64 0 ∧ Hid (wr = w)) (fun _ _ => 0)
  case atStart => exact ⟨rfl, hidOf rfl⟩
  case round =>
    obtain ⟨rfl, HW⟩ := hrel
    have hww := HW.out
    clear HW
    subst hww
    go_wp2
    go_end0
    exact ⟨⟨_, rfl⟩, rfl⟩
set_option maxHeartbeats 2000000 in
theorem load8_any (w : World) (B s : Nat) (v1 v2 : Value) (X Y : List Rw) (m at_ : Nat) (h : SpD B w s v1 v2 X Y m) (ha : at_ < 18446744073709551616) :
    Calls Tryz.prog 59 #[.pointer (some ⟨s, 0, none⟩), .int .u64 at_] w fun e w' => e = .returned (.tuple #[.int .u64 ((LoadP (flat X) at_ 1).1 : Nat), .int .i64 (LoadP (flat X) at_ 1).2]) ∧ Out w w' := by
  have AC := hidOf (access_any w B s v1 v2 X Y m at_ 1 h (by decide) (by decide) ha)
  have H := hidOf h
  clear h
  cases hacc : acP (flat X) at_ 1 with
  | none =>
    have ACN : Hid (Calls Tryz.prog 67 #[.pointer (some ⟨s, 0, none⟩), .int .u64 at_, .int .i64 1] w fun e w' => e = .returned (.tuple #[.slice none 0 0, .int .i64 200]) ∧ Out w w') := hidOf (Calls.mono AC.out (by
      rintro e w' ⟨⟨_, h9⟩ | ⟨y, o, b, h9, _⟩, ho⟩
      · exact ⟨h9, ho⟩
      · rw [hacc] at h9; cases h9))
    have HA := hidOf hacc
    have hlp : LoadP (flat X) at_ 1 = (0, 200) := by rw [LoadP, hacc]
    rw [hlp]
    clear hacc hlp
    go_enter Tryz.func59, Tryz.ntmps59
    go_wp2_with (first | (go_at_call 85; refine (size8 _).mono ?_; rintro e w9 ⟨rfl, hw9⟩; subst hw9) | (go_at_call 67; refine ACN.out.mono ?_; rintro e w1 ⟨rfl, ho1⟩; have O1 := hidOf ho1; clear ho1) | (go_at_call 86; refine (numberN8 _).mono ?_; rintro e w8 ⟨rfl, hw8⟩; subst hw8))
    refine bodyPost_ret (results_tmp2 rfl _ _ _) rfl ?_
    exact ⟨rfl, O1.out⟩
  | some p =>
    obtain ⟨y, o⟩ := p
    have ACS : Hid (Calls Tryz.prog 67 #[.pointer (some ⟨s, 0, none⟩), .int .u64 at_, .int .i64 1] w fun e w' => ∃ b, y.a = some b ∧ e = .returned (.tuple #[.slice (some ⟨b, o, none⟩) 1 (y.c - o), .int .i64 0]) ∧ Out w w') := hidOf (Calls.mono AC.out (by
      rintro e w' ⟨⟨h9, _⟩ | ⟨y2, o2, b, h9, hb, h8⟩, ho⟩
      · rw [hacc] at h9; cases h9
      · rw [hacc] at h9; cases h9; exact ⟨b, hb, h8, ho⟩))
    have HA := hidOf hacc
    obtain ⟨p1, p2, p3, p4⟩ := acP_some H.out.ok.sf hacc
    have hlp : LoadP (flat X) at_ 1 = (numL ((y.d.drop o).take 1), 0) := by rw [LoadP, hacc]
    rw [hlp]
    have hln : ((y.d.drop o).take 1).length = 1 := by rw [List.length_take, List.length_drop]; omega
    have hlt := numL_lt ((y.d.drop o).take 1)
    rw [hln] at hlt
    have hlt2 : numL ((y.d.drop o).take 1) < 256 := hlt
    have HB := hidOf (fun W' (ow : Out w W') b (hb : y.a = some b) => by_of (n := 1) (o := o) ((H.out.da y (List.mem_append_left _ p1)).out ow) hb (by omega))
    have hcc : ∀ b, y.a = some b → y.d.length ≤ y.c := fun b hb => by
      have h1 := H.out.da y (List.mem_append_left _ p1)
      unfold DaI daV at h1
      rw [hb] at h1
      obtain ⟨_, _, _, h2, _⟩ := owns_blk h1
      exact h2
    have NC := hidOf (fun W' (ow : Out w W') b (hb : y.a = some b) => number8 W' b o 1 (y.c - o) ((y.d.drop o).take 1) hln (HB.out W' ow b hb) (by decide) (by have := hcc b hb; omega))
    obtain ⟨q, hq⟩ : ∃ q, q = numL ((y.d.drop o).take 1) := ⟨_, rfl⟩
    rw [← hq] at NC hlt2 ⊢
    have hw64 : IntKind.u64.wrap (q : Int) = (q : Int) := by rw [IntKind.wrap_u64]; omega
    clear hacc hlp hln hlt hq p1 p2 p3 p4 hcc HB
    go_enter Tryz.func59, Tryz.ntmps59
    go_wp2_with (first | (go_at_call 85; refine (size8 _).mono ?_; rintro e w9 ⟨rfl, hw9⟩; subst hw9) | (go_at_call 67; refine ACS.out.mono ?_; rintro e w1 ⟨b, hb, rfl, ho1⟩; have O1 := hidOf ho1; have HBB := hidOf hb; clear ho1 hb) | (go_at_call 86; refine (NC.out _ O1.out _ HBB.out).mono ?_; rintro e w8 ⟨rfl, hw8⟩; subst hw8))
    refine bodyPost_ret (results_tmp2 rfl _ _ _) rfl ?_
    exact ⟨rfl, O1.out⟩
set_option maxHeartbeats 2000000 in
theorem store8_any (w : World) (B s : Nat) (v1 v2 : Value) (X Y : List Rw) (m at_ x : Nat) (h : SpD B w s v1 v2 X Y m) (ha : at_ < 18446744073709551616) (hx : x < 256) :
    Calls Tryz.prog 63 #[.pointer (some ⟨s, 0, none⟩), .int .u64 at_, .int .u8 x] w fun e w' => StoreE B s v1 v2 X Y m at_ 1 x w e w' := by
  have AC := hidOf (access_any w B s v1 v2 X Y m at_ 1 h (by decide) (by decide) ha)
  have H := hidOf h
  clear h
  cases hacc : acP (flat X) at_ 1 with
  | none =>
    have ACN : Hid (Calls Tryz.prog 67 #[.pointer (some ⟨s, 0, none⟩), .int .u64 at_, .int .i64 1] w fun e w' => e = .returned (.tuple #[.slice none 0 0, .int .i64 200]) ∧ Out w w') := hidOf (Calls.mono AC.out (by
      rintro e w' ⟨⟨_, h9⟩ | ⟨y, o, b, h9, _⟩, ho⟩
      · exact ⟨h9, ho⟩
      · rw [hacc] at h9; cases h9))
    have HA := hidOf hacc
    clear hacc
    go_enter Tryz.func63, Tryz.ntmps63
    go_wp2_with (first | (go_at_call 85; refine (size8 _).mono ?_; rintro e w9 ⟨rfl, hw9⟩; subst hw9) | (go_at_call 67; refine ACN.out.mono ?_; rintro e w1 ⟨rfl, ho1⟩; have O1 := hidOf ho1; clear ho1) | (go_at_call 93; refine (layN8 _ x).mono ?_; rintro e w8 ⟨⟨q, rfl⟩, hw8⟩; subst hw8))
    go_ret
    exact .inl ⟨HA.out, rfl, O1.out⟩
  | some p =>
    obtain ⟨y, o⟩ := p
    have ACS : Hid (Calls Tryz.prog 67 #[.pointer (some ⟨s, 0, none⟩), .int .u64 at_, .int .i64 1] w fun e w' => ∃ b, y.a = some b ∧ e = .returned (.tuple #[.slice (some ⟨b, o, none⟩) 1 (y.c - o), .int .i64 0]) ∧ Out w w') := hidOf (Calls.mono AC.out (by
      rintro e w' ⟨⟨h9, _⟩ | ⟨y2, o2, b, h9, hb, h8⟩, ho⟩
      · rw [hacc] at h9; cases h9
      · rw [hacc] at h9; cases h9; exact ⟨b, hb, h8, ho⟩))
    have HA := hidOf hacc
    obtain ⟨p1, p2, p3, p4⟩ := acP_some H.out.ok.sf hacc
    have P1 := hidOf p1
    have P4 : Hid (o + 1 ≤ y.d.length) := hidOf (by omega)
    clear hacc p1 p2 p3 p4
    go_enter Tryz.func63, Tryz.ntmps63
    go_upto_region 2 with (first | (go_at_call 85; refine (size8 _).mono ?_; rintro e w9 ⟨rfl, hw9⟩; subst hw9) | (go_at_call 67; refine ACS.out.mono ?_; rintro e w1 ⟨b, hb, rfl, ho1⟩; have O1 := hidOf ho1; have HBB := hidOf hb; clear ho1 hb))
    have hda := (H.out.da y (List.mem_append_left _ P1.out)).out O1.out
    unfold DaI daV at hda
    rw [HBB.out] at hda
    obtain ⟨cur, hg, hBb, hyc, hcm, hcl, hct, hcn⟩ := owns_blk hda
    rw [Nat.mul_one] at hcl hct
    have LC := hidOf (lay8 w1 b o 1 (y.c - o) x cur.toArray hg (by have := P4.out; simp; omega) (by decide) (by have := P4.out; omega) hx)
    have FIN := hidOf (fun w2 h8 c2 => H.out.laid (x := x) (w2 := w2) O1.out P1.out HBB.out P4.out cur hg hcl hct hyc hcm hBb h8 c2)
    clear hda hg hcl hct hcn
    go_wp2_with (go_at_call 93; refine LC.out.mono ?_; rintro e w2 ⟨⟨q, rfl⟩, h8, c2⟩; have H8 := hidOf h8; have C2 := hidOf c2; clear h8 c2)
    go_ret
    obtain ⟨f1, f2⟩ := FIN.out w2 H8.out C2.out
    exact .inr ⟨y, o, HA.out, rfl, f1, f2⟩
set_option maxHeartbeats 1000000 in
theorem numberN16 (w : World) : Calls Tryz.prog 88 #[.slice none 0 0] w fun e w' => e = .returned (.int .u16 0) ∧ w = w' := by
  go_enter Tryz.func88, Tryz.ntmps88
  go_wp2
  go_loopw [3, 8] (fun xv kv wr => xv = .int .u16 0 ∧ kv = .int .i64 0 ∧ Hid (wr = w)) (fun _ _ _ => 0)
  case atStart => exact ⟨rfl, rfl, hidOf rfl⟩
  case round =>
    obtain ⟨rfl, rfl, HW⟩ := hrel
    have hww := HW.out
    clear HW
    subst hww
    go_wp2
    go_ret
    exact ⟨rfl, rfl⟩
set_option maxHeartbeats 1000000 in
theorem layN16 (w : World) (x : Nat) : Calls Tryz.prog 94 #[.slice none 0 0, .int .u16 x] w fun e w' => (∃ q, e = .returned q) ∧ w = w' := by
  go_enter Tryz.func94, Tryz.ntmps94
  go_wp2
  go_loopw [7] (fun kv wr => kv = .int .i64 0 ∧ Hid (wr = w)) (fun _ _ => 0)
  case atStart => exact ⟨rfl, hidOf rfl⟩
  case round =>
    obtain ⟨rfl, HW⟩ := hrel
    have hww := HW.out
    clear HW
    subst hww
    go_wp2
    go_end0
    exact ⟨⟨_, rfl⟩, rfl⟩
set_option maxHeartbeats 2000000 in
theorem load16_any (w : World) (B s : Nat) (v1 v2 : Value) (X Y : List Rw) (m at_ : Nat) (h : SpD B w s v1 v2 X Y m) (ha : at_ < 18446744073709551616) :
    Calls Tryz.prog 60 #[.pointer (some ⟨s, 0, none⟩), .int .u64 at_] w fun e w' => e = .returned (.tuple #[.int .u64 ((LoadP (flat X) at_ 2).1 : Nat), .int .i64 (LoadP (flat X) at_ 2).2]) ∧ Out w w' := by
  have AC := hidOf (access_any w B s v1 v2 X Y m at_ 2 h (by decide) (by decide) ha)
  have H := hidOf h
  clear h
  cases hacc : acP (flat X) at_ 2 with
  | none =>
    have ACN : Hid (Calls Tryz.prog 67 #[.pointer (some ⟨s, 0, none⟩), .int .u64 at_, .int .i64 2] w fun e w' => e = .returned (.tuple #[.slice none 0 0, .int .i64 200]) ∧ Out w w') := hidOf (Calls.mono AC.out (by
      rintro e w' ⟨⟨_, h9⟩ | ⟨y, o, b, h9, _⟩, ho⟩
      · exact ⟨h9, ho⟩
      · rw [hacc] at h9; cases h9))
    have HA := hidOf hacc
    have hlp : LoadP (flat X) at_ 2 = (0, 200) := by rw [LoadP, hacc]
    rw [hlp]
    clear hacc hlp
    go_enter Tryz.func60, Tryz.ntmps60
    go_wp2_with (first | (go_at_call 87; refine (size16 _).mono ?_; rintro e w9 ⟨rfl, hw9⟩; subst hw9) | (go_at_call 67; refine ACN.out.mono ?_; rintro e w1 ⟨rfl, ho1⟩; have O1 := hidOf ho1; clear ho1) | (go_at_call 88; refine (numberN16 _).mono ?_; rintro e w8 ⟨rfl, hw8⟩; subst hw8))
    refine bodyPost_ret (results_tmp2 rfl _ _ _) rfl ?_
    exact ⟨rfl, O1.out⟩
  | some p =>
    obtain ⟨y, o⟩ := p
    have ACS : Hid (Calls Tryz.prog 67 #[.pointer (some ⟨s, 0, none⟩), .int .u64 at_, .int .i64 2] w fun e w' => ∃ b, y.a = some b ∧ e = .returned (.tuple #[.slice (some ⟨b, o, none⟩) 2 (y.c - o), .int .i64 0]) ∧ Out w w') := hidOf (Calls.mono AC.out (by
      rintro e w' ⟨⟨h9, _⟩ | ⟨y2, o2, b, h9, hb, h8⟩, ho⟩
      · rw [hacc] at h9; cases h9
      · rw [hacc] at h9; cases h9; exact ⟨b, hb, h8, ho⟩))
    have HA := hidOf hacc
    obtain ⟨p1, p2, p3, p4⟩ := acP_some H.out.ok.sf hacc
    have hlp : LoadP (flat X) at_ 2 = (numL ((y.d.drop o).take 2), 0) := by rw [LoadP, hacc]
    rw [hlp]
    have hln : ((y.d.drop o).take 2).length = 2 := by rw [List.length_take, List.length_drop]; omega
    have hlt := numL_lt ((y.d.drop o).take 2)
    rw [hln] at hlt
    have hlt2 : numL ((y.d.drop o).take 2) < 65536 := hlt
    have HB := hidOf (fun W' (ow : Out w W') b (hb : y.a = some b) => by_of (n := 2) (o := o) ((H.out.da y (List.mem_append_left _ p1)).out ow) hb (by omega))
    have hcc : ∀ b, y.a = some b → y.d.length ≤ y.c := fun b hb => by
      have h1 := H.out.da y (List.mem_append_left _ p1)
      unfold DaI daV at h1
      rw [hb] at h1
      obtain ⟨_, _, _, h2, _⟩ := owns_blk h1
      exact h2
    have NC := hidOf (fun W' (ow : Out w W') b (hb : y.a = some b) => number16 W' b o 2 (y.c - o) ((y.d.drop o).take 2) hln (HB.out W' ow b hb) (by decide) (by have := hcc b hb; omega))
    obtain ⟨q, hq⟩ : ∃ q, q = numL ((y.d.drop o).take 2) := ⟨_, rfl⟩
    rw [← hq] at NC hlt2 ⊢
    have hw64 : IntKind.u64.wrap (q : Int) = (q : Int) := by rw [IntKind.wrap_u64]; omega
    clear hacc hlp hln hlt hq p1 p2 p3 p4 hcc HB
    go_enter Tryz.func60, Tryz.ntmps60
    go_wp2_with (first | (go_at_call 87; refine (size16 _).mono ?_; rintro e w9 ⟨rfl, hw9⟩; subst hw9) | (go_at_call 67; refine ACS.out.mono ?_; rintro e w1 ⟨b, hb, rfl, ho1⟩; have O1 := hidOf ho1; have HBB := hidOf hb; clear ho1 hb) | (go_at_call 88; refine (NC.out _ O1.out _ HBB.out).mono ?_; rintro e w8 ⟨rfl, hw8⟩; subst hw8))
    refine bodyPost_ret (results_tmp2 rfl _ _ _) rfl ?_
    exact ⟨rfl, O1.out⟩
set_option maxHeartbeats 2000000 in
theorem store16_any (w : World) (B s : Nat) (v1 v2 : Value) (X Y : List Rw) (m at_ x : Nat) (h : SpD B w s v1 v2 X Y m) (ha : at_ < 18446744073709551616) (hx : x < 65536) :
    Calls Tryz.prog 64 #[.pointer (some ⟨s, 0, none⟩), .int .u64 at_, .int .u16 x] w fun e w' => StoreE B s v1 v2 X Y m at_ 2 x w e w' := by
  have AC := hidOf (access_any w B s v1 v2 X Y m at_ 2 h (by decide) (by decide) ha)
  have H := hidOf h
  clear h
  cases hacc : acP (flat X) at_ 2 with
  | none =>
    have ACN : Hid (Calls Tryz.prog 67 #[.pointer (some ⟨s, 0, none⟩), .int .u64 at_, .int .i64 2] w fun e w' => e = .returned (.tuple #[.slice none 0 0, .int .i64 200]) ∧ Out w w') := hidOf (Calls.mono AC.out (by
      rintro e w' ⟨⟨_, h9⟩ | ⟨y, o, b, h9, _⟩, ho⟩
      · exact ⟨h9, ho⟩
      · rw [hacc] at h9; cases h9))
    have HA := hidOf hacc
    clear hacc
    go_enter Tryz.func64, Tryz.ntmps64
    go_wp2_with (first | (go_at_call 87; refine (size16 _).mono ?_; rintro e w9 ⟨rfl, hw9⟩; subst hw9) | (go_at_call 67; refine ACN.out.mono ?_; rintro e w1 ⟨rfl, ho1⟩; have O1 := hidOf ho1; clear ho1) | (go_at_call 94; refine (layN16 _ x).mono ?_; rintro e w8 ⟨⟨q, rfl⟩, hw8⟩; subst hw8))
    go_ret
    exact .inl ⟨HA.out, rfl, O1.out⟩
  | some p =>
    obtain ⟨y, o⟩ := p
    have ACS : Hid (Calls Tryz.prog 67 #[.pointer (some ⟨s, 0, none⟩), .int .u64 at_, .int .i64 2] w fun e w' => ∃ b, y.a = some b ∧ e = .returned (.tuple #[.slice (some ⟨b, o, none⟩) 2 (y.c - o), .int .i64 0]) ∧ Out w w') := hidOf (Calls.mono AC.out (by
      rintro e w' ⟨⟨h9, _⟩ | ⟨y2, o2, b, h9, hb, h8⟩, ho⟩
      · rw [hacc] at h9; cases h9
      · rw [hacc] at h9; cases h9; exact ⟨b, hb, h8, ho⟩))
    have HA := hidOf hacc
    obtain ⟨p1, p2, p3, p4⟩ := acP_some H.out.ok.sf hacc
    have P1 := hidOf p1
    have P4 : Hid (o + 2 ≤ y.d.length) := hidOf (by omega)
    clear hacc p1 p2 p3 p4
    go_enter Tryz.func64, Tryz.ntmps64
    go_upto_region 2 with (first | (go_at_call 87; refine (size16 _).mono ?_; rintro e w9 ⟨rfl, hw9⟩; subst hw9) | (go_at_call 67; refine ACS.out.mono ?_; rintro e w1 ⟨b, hb, rfl, ho1⟩; have O1 := hidOf ho1; have HBB := hidOf hb; clear ho1 hb))
    have hda := (H.out.da y (List.mem_append_left _ P1.out)).out O1.out
    unfold DaI daV at hda
    rw [HBB.out] at hda
    obtain ⟨cur, hg, hBb, hyc, hcm, hcl, hct, hcn⟩ := owns_blk hda
    rw [Nat.mul_one] at hcl hct
    have LC := hidOf (lay16 w1 b o 2 (y.c - o) x cur.toArray hg (by have := P4.out; simp; omega) (by decide) (by have := P4.out; omega) hx)
    have FIN := hidOf (fun w2 h8 c2 => H.out.laid (x := x) (w2 := w2) O1.out P1.out HBB.out P4.out cur hg hcl hct hyc hcm hBb h8 c2)
    clear hda hg hcl hct hcn
    go_wp2_with (go_at_call 94; refine LC.out.mono ?_; rintro e w2 ⟨⟨q, rfl⟩, h8, c2⟩; have H8 := hidOf h8; have C2 := hidOf c2; clear h8 c2)
    go_ret
    obtain ⟨f1, f2⟩ := FIN.out w2 H8.out C2.out
    exact .inr ⟨y, o, HA.out, rfl, f1, f2⟩
set_option maxHeartbeats 1000000 in
theorem numberN32 (w : World) : Calls Tryz.prog 90 #[.slice none 0 0] w fun e w' => e = .returned (.int .u32 0) ∧ w = w' := by
  go_enter Tryz.func90, Tryz.ntmps90
  go_wp2
  go_loopw [3, 8] (fun xv kv wr => xv = .int .u32 0 ∧ kv = .int .i64 0 ∧ Hid (wr = w)) (fun _ _ _ => 0)
  case atStart => exact ⟨rfl, rfl, hidOf rfl⟩
  case round =>
    obtain ⟨rfl, rfl, HW⟩ := hrel
    have hww := HW.out
    clear HW
    subst hww
    go_wp2
    go_ret
    exact ⟨rfl, rfl⟩
set_option maxHeartbeats 1000000 in
theorem layN32 (w : World) (x : Nat) : Calls Tryz.prog 95 #[.slice none 0 0, .int .u32 x] w fun e w' => (∃ q, e = .returned q) ∧ w = w' := by
  go_enter Tryz.func95, Tryz.ntmps95
  go_wp2
  go_loopw [7] (fun kv wr => kv = .int .i64 0 ∧ Hid (wr = w)) (fun _ _ => 0)
  case atStart => exact ⟨rfl, hidOf rfl⟩
  case round =>
    obtain ⟨rfl, HW⟩ := hrel
    have hww := HW.out
    clear HW
    subst hww
    go_wp2
    go_end0
    exact ⟨⟨_, rfl⟩, rfl⟩
set_option maxHeartbeats 2000000 in
theorem load32_any (w : World) (B s : Nat) (v1 v2 : Value) (X Y : List Rw) (m at_ : Nat) (h : SpD B w s v1 v2 X Y m) (ha : at_ < 18446744073709551616) :
    Calls Tryz.prog 61 #[.pointer (some ⟨s, 0, none⟩), .int .u64 at_] w fun e w' => e = .returned (.tuple #[.int .u64 ((LoadP (flat X) at_ 4).1 : Nat), .int .i64 (LoadP (flat X) at_ 4).2]) ∧ Out w w' := by
  have AC := hidOf (access_any w B s v1 v2 X Y m at_ 4 h (by decide) (by decide) ha)
  have H := hidOf h
  clear h
  cases hacc : acP (flat X) at_ 4 with
  | none =>
    have ACN : Hid (Calls Tryz.prog 67 #[.pointer (some ⟨s, 0, none⟩), .int .u64 at_, .int .i64 4] w fun e w' => e = .returned (.tuple #[.slice none 0 0, .int .i64 200]) ∧ Out w w') := hidOf (Calls.mono AC.out (by
      rintro e w' ⟨⟨_, h9⟩ | ⟨y, o, b, h9, _⟩, ho⟩
      · exact ⟨h9, ho⟩
      · rw [hacc] at h9; cases h9))
    have HA := hidOf hacc
    have hlp : LoadP (flat X) at_ 4 = (0, 200) := by rw [LoadP, hacc]
    rw [hlp]
    clear hacc hlp
    go_enter Tryz.func61, Tryz.ntmps61
    go_wp2_with (first | (go_at_call 89; refine (size32 _).mono ?_; rintro e w9 ⟨rfl, hw9⟩; subst hw9) | (go_at_call 67; refine ACN.out.mono ?_; rintro e w1 ⟨rfl, ho1⟩; have O1 := hidOf ho1; clear ho1) | (go_at_call 90; refine (numberN32 _).mono ?_; rintro e w8 ⟨rfl, hw8⟩; subst hw8))
    refine bodyPost_ret (results_tmp2 rfl _ _ _) rfl ?_
    exact ⟨rfl, O1.out⟩
  | some p =>
    obtain ⟨y, o⟩ := p
    have ACS : Hid (Calls Tryz.prog 67 #[.pointer (some ⟨s, 0, none⟩), .int .u64 at_, .int .i64 4] w fun e w' => ∃ b, y.a = some b ∧ e = .returned (.tuple #[.slice (some ⟨b, o, none⟩) 4 (y.c - o), .int .i64 0]) ∧ Out w w') := hidOf (Calls.mono AC.out (by
      rintro e w' ⟨⟨h9, _⟩ | ⟨y2, o2, b, h9, hb, h8⟩, ho⟩
      · rw [hacc] at h9; cases h9
      · rw [hacc] at h9; cases h9; exact ⟨b, hb, h8, ho⟩))
    have HA := hidOf hacc
    obtain ⟨p1, p2, p3, p4⟩ := acP_some H.out.ok.sf hacc
    have hlp : LoadP (flat X) at_ 4 = (numL ((y.d.drop o).take 4), 0) := by rw [LoadP, hacc]
    rw [hlp]
    have hln : ((y.d.drop o).take 4).length = 4 := by rw [List.length_take, List.length_drop]; omega
    have hlt := numL_lt ((y.d.drop o).take 4)
    rw [hln] at hlt
    have hlt2 : numL ((y.d.drop o).take 4) < 4294967296 := hlt
    have HB := hidOf (fun W' (ow : Out w W') b (hb : y.a = some b) => by_of (n := 4) (o := o) ((H.out.da y (List.mem_append_left _ p1)).out ow) hb (by omega))
    have hcc : ∀ b, y.a = some b → y.d.length ≤ y.c := fun b hb => by
      have h1 := H.out.da y (List.mem_append_left _ p1)
      unfold DaI daV at h1
      rw [hb] at h1
      obtain ⟨_, _, _, h2, _⟩ := owns_blk h1
      exact h2
    have NC := hidOf (fun W' (ow : Out w W') b (hb : y.a = some b) => number32 W' b o 4 (y.c - o) ((y.d.drop o).take 4) hln (HB.out W' ow b hb) (by decide) (by have := hcc b hb; omega))
    obtain ⟨q, hq⟩ : ∃ q, q = numL ((y.d.drop o).take 4) := ⟨_, rfl⟩
    rw [← hq] at NC hlt2 ⊢
    have hw64 : IntKind.u64.wrap (q : Int) = (q : Int) := by rw [IntKind.wrap_u64]; omega
    clear hacc hlp hln hlt hq p1 p2 p3 p4 hcc HB
    go_enter Tryz.func61, Tryz.ntmps61
    go_wp2_with (first | (go_at_call 89; refine (size32 _).mono ?_; rintro e w9 ⟨rfl, hw9⟩; subst hw9) | (go_at_call 67; refine ACS.out.mono ?_; rintro e w1 ⟨b, hb, rfl, ho1⟩; have O1 := hidOf ho1; have HBB := hidOf hb; clear ho1 hb) | (go_at_call 90; refine (NC.out _ O1.out _ HBB.out).mono ?_; rintro e w8 ⟨rfl, hw8⟩; subst hw8))
    refine bodyPost_ret (results_tmp2 rfl _ _ _) rfl ?_
    exact ⟨rfl, O1.out⟩
set_option maxHeartbeats 2000000 in
theorem store32_any (w : World) (B s : Nat) (v1 v2 : Value) (X Y : List Rw) (m at_ x : Nat) (h : SpD B w s v1 v2 X Y m) (ha : at_ < 18446744073709551616) (hx : x < 4294967296) :
    Calls Tryz.prog 65 #[.pointer (some ⟨s, 0, none⟩), .int .u64 at_, .int .u32 x] w fun e w' => StoreE B s v1 v2 X Y m at_ 4 x w e w' := by
  have AC := hidOf (access_any w B s v1 v2 X Y m at_ 4 h (by decide) (by decide) ha)
  have H := hidOf h
  clear h
  cases hacc : acP (flat X) at_ 4 with
  | none =>
    have ACN : Hid (Calls Tryz.prog 67 #[.pointer (some ⟨s, 0, none⟩), .int .u64 at_, .int .i64 4] w fun e w' => e = .returned (.tuple #[.slice none 0 0, .int .i64 200]) ∧ Out w w') := hidOf (Calls.mono AC.out (by
      rintro e w' ⟨⟨_, h9⟩ | ⟨y, o, b, h9, _⟩, ho⟩
      · exact ⟨h9, ho⟩
      · rw [hacc] at h9; cases h9))
    have HA := hidOf hacc
    clear hacc
    go_enter Tryz.func65, Tryz.ntmps65
    go_wp2_with (first | (go_at_call 89; refine (size32 _).mono ?_; rintro e w9 ⟨rfl, hw9⟩; subst hw9) | (go_at_call 67; refine ACN.out.mono ?_; rintro e w1 ⟨rfl, ho1⟩; have O1 := hidOf ho1; clear ho1) | (go_at_call 95; refine (layN32 _ x).mono ?_; rintro e w8 ⟨⟨q, rfl⟩, hw8⟩; subst hw8))
    go_ret
    exact .inl ⟨HA.out, rfl, O1.out⟩
  | some p =>
    obtain ⟨y, o⟩ := p
    have ACS : Hid (Calls Tryz.prog 67 #[.pointer (some ⟨s, 0, none⟩), .int .u64 at_, .int .i64 4] w fun e w' => ∃ b, y.a = some b ∧ e = .returned (.tuple #[.slice (some ⟨b, o, none⟩) 4 (y.c - o), .int .i64 0]) ∧ Out w w') := hidOf (Calls.mono AC.out (by
      rintro e w' ⟨⟨h9, _⟩ | ⟨y2, o2, b, h9, hb, h8⟩, ho⟩
      · rw [hacc] at h9; cases h9
      · rw [hacc] at h9; cases h9; exact ⟨b, hb, h8, ho⟩))
    have HA := hidOf hacc
    obtain ⟨p1, p2, p3, p4⟩ := acP_some H.out.ok.sf hacc
    have P1 := hidOf p1
    have P4 : Hid (o + 4 ≤ y.d.length) := hidOf (by omega)
    clear hacc p1 p2 p3 p4
    go_enter Tryz.func65, Tryz.ntmps65
    go_upto_region 2 with (first | (go_at_call 89; refine (size32 _).mono ?_; rintro e w9 ⟨rfl, hw9⟩; subst hw9) | (go_at_call 67; refine ACS.out.mono ?_; rintro e w1 ⟨b, hb, rfl, ho1⟩; have O1 := hidOf ho1; have HBB := hidOf hb; clear ho1 hb))
    have hda := (H.out.da y (List.mem_append_left _ P1.out)).out O1.out
    unfold DaI daV at hda
    rw [HBB.out] at hda
    obtain ⟨cur, hg, hBb, hyc, hcm, hcl, hct, hcn⟩ := owns_blk hda
    rw [Nat.mul_one] at hcl hct
    have LC := hidOf (lay32 w1 b o 4 (y.c - o) x cur.toArray hg (by have := P4.out; simp; omega) (by decide) (by have := P4.out; omega) hx)
    have FIN := hidOf (fun w2 h8 c2 => H.out.laid (x := x) (w2 := w2) O1.out P1.out HBB.out P4.out cur hg hcl hct hyc hcm hBb h8 c2)
    clear hda hg hcl hct hcn
    go_wp2_with (go_at_call 95; refine LC.out.mono ?_; rintro e w2 ⟨⟨q, rfl⟩, h8, c2⟩; have H8 := hidOf h8; have C2 := hidOf c2; clear h8 c2)
    go_ret
    obtain ⟨f1, f2⟩ := FIN.out w2 H8.out C2.out
    exact .inr ⟨y, o, HA.out, rfl, f1, f2⟩
set_option maxHeartbeats 1000000 in
theorem numberN64 (w : World) : Calls Tryz.prog 92 #[.slice none 0 0] w fun e w' => e = .returned (.int .u64 0) ∧ w = w' := by
  go_enter Tryz.func92, Tryz.ntmps92
  go_wp2
  go_loopw [3, 8] (fun xv kv wr => xv = .int .u64 0 ∧ kv = .int .i64 0 ∧ Hid (wr = w)) (fun _ _ _ => 0)
  case atStart => exact ⟨rfl, rfl, hidOf rfl⟩
  case round =>
    obtain ⟨rfl, rfl, HW⟩ := hrel
    have hww := HW.out
    clear HW
    subst hww
    go_wp2
    go_ret
    exact ⟨rfl, rfl⟩
set_option maxHeartbeats 1000000 in
theorem layN64 (w : World) (x : Nat) : Calls Tryz.prog 96 #[.slice none 0 0, .int .u64 x] w fun e w' => (∃ q, e = .returned q) ∧ w = w' := by
  go_enter Tryz.func96, Tryz.ntmps96
  go_wp2
  go_loopw [7] (fun kv wr => kv = .int .i64 0 ∧ Hid (wr = w)) (fun _ _ => 0)
  case atStart => exact ⟨rfl, hidOf rfl⟩
  case round =>
    obtain ⟨rfl, HW⟩ := hrel
    have hww := HW.out
    clear HW
    subst hww
    go_wp2
    go_end0
    exact ⟨⟨_, rfl⟩, rfl⟩
set_option maxHeartbeats 2000000 in
theorem load64_any (w : World) (B s : Nat) (v1 v2 : Value) (X Y : List Rw) (m at_ : Nat) (h : SpD B w s v1 v2 X Y m) (ha : at_ < 18446744073709551616) :
    Calls Tryz.prog 62 #[.pointer (some ⟨s, 0, none⟩), .int .u64 at_] w fun e w' => e = .returned (.tuple #[.int .u64 ((LoadP (flat X) at_ 8).1 : Nat), .int .i64 (LoadP (flat X) at_ 8).2]) ∧ Out w w' := by
  have AC := hidOf (access_any w B s v1 v2 X Y m at_ 8 h (by decide) (by decide) ha)
  have H := hidOf h
  clear h
  cases hacc : acP (flat X) at_ 8 with
  | none =>
    have ACN : Hid (Calls Tryz.prog 67 #[.pointer (some ⟨s, 0, none⟩), .int .u64 at_, .int .i64 8] w fun e w' => e = .returned (.tuple #[.slice none 0 0, .int .i64 200]) ∧ Out w w') := hidOf (Calls.mono AC.out (by
      rintro e w' ⟨⟨_, h9⟩ | ⟨y, o, b, h9, _⟩, ho⟩
      · exact ⟨h9, ho⟩
      · rw [hacc] at h9; cases h9))
    have HA := hidOf hacc
    have hlp : LoadP (flat X) at_ 8 = (0, 200) := by rw [LoadP, hacc]
    rw [hlp]
    clear hacc hlp
    go_enter Tryz.func62, Tryz.ntmps62
    go_wp2_with (first | (go_at_call 91; refine (size64 _).mono ?_; rintro e w9 ⟨rfl, hw9⟩; subst hw9) | (go_at_call 67; refine ACN.out.mono ?_; rintro e w1 ⟨rfl, ho1⟩; have O1 := hidOf ho1; clear ho1) | (go_at_call 92; refine (numberN64 _).mono ?_; rintro e w8 ⟨rfl, hw8⟩; subst hw8))
    refine bodyPost_ret (results_tmp2 rfl _ _ _) rfl ?_
    exact ⟨rfl, O1.out⟩
  | some p =>
    obtain ⟨y, o⟩ := p
    have ACS : Hid (Calls Tryz.prog 67 #[.pointer (some ⟨s, 0, none⟩), .int .u64 at_, .int .i64 8] w fun e w' => ∃ b, y.a = some b ∧ e = .returned (.tuple #[.slice (some ⟨b, o, none⟩) 8 (y.c - o), .int .i64 0]) ∧ Out w w') := hidOf (Calls.mono AC.out (by
      rintro e w' ⟨⟨h9, _⟩ | ⟨y2, o2, b, h9, hb, h8⟩, ho⟩
      · rw [hacc] at h9; cases h9
      · rw [hacc] at h9; cases h9; exact ⟨b, hb, h8, ho⟩))
    have HA := hidOf hacc
    obtain ⟨p1, p2, p3, p4⟩ := acP_some H.out.ok.sf hacc
    have hlp : LoadP (flat X) at_ 8 = (numL ((y.d.drop o).take 8), 0) := by rw [LoadP, hacc]
    rw [hlp]
    have hln : ((y.d.drop o).take 8).length = 8 := by rw [List.length_take, List.length_drop]; omega
    have hlt := numL_lt ((y.d.drop o).take 8)
    rw [hln] at hlt
    have hlt2 : numL ((y.d.drop o).take 8) < 18446744073709551616 := hlt
    have HB := hidOf (fun W' (ow : Out w W') b (hb : y.a = some b) => by_of (n := 8) (o := o) ((H.out.da y (List.mem_append_left _ p1)).out ow) hb (by omega))
    have hcc : ∀ b, y.a = some b → y.d.length ≤ y.c := fun b hb => by
      have h1 := H.out.da y (List.mem_append_left _ p1)
      unfold DaI daV at h1
      rw [hb] at h1
      obtain ⟨_, _, _, h2, _⟩ := owns_blk h1
      exact h2
    have NC := hidOf (fun W' (ow : Out w W') b (hb : y.a = some b) => number64 W' b o 8 (y.c - o) ((y.d.drop o).take 8) hln (HB.out W' ow b hb) (by decide) (by have := hcc b hb; omega))
    obtain ⟨q, hq⟩ : ∃ q, q = numL ((y.d.drop o).take 8) := ⟨_, rfl⟩
    rw [← hq] at NC hlt2 ⊢
    have hw64 : IntKind.u64.wrap (q : Int) = (q : Int) := by rw [IntKind.wrap_u64]; omega
    clear hacc hlp hln hlt hq p1 p2 p3 p4 hcc HB
    go_enter Tryz.func62, Tryz.ntmps62
    go_wp2_with (first | (go_at_call 91; refine (size64 _).mono ?_; rintro e w9 ⟨rfl, hw9⟩; subst hw9) | (go_at_call 67; refine ACS.out.mono ?_; rintro e w1 ⟨b, hb, rfl, ho1⟩; have O1 := hidOf ho1; have HBB := hidOf hb; clear ho1 hb) | (go_at_call 92; refine (NC.out _ O1.out _ HBB.out).mono ?_; rintro e w8 ⟨rfl, hw8⟩; subst hw8))
    refine bodyPost_ret (results_tmp2 rfl _ _ _) rfl ?_
    exact ⟨rfl, O1.out⟩
set_option maxHeartbeats 2000000 in
theorem store64_any (w : World) (B s : Nat) (v1 v2 : Value) (X Y : List Rw) (m at_ x : Nat) (h : SpD B w s v1 v2 X Y m) (ha : at_ < 18446744073709551616) (hx : x < 18446744073709551616) :
    Calls Tryz.prog 66 #[.pointer (some ⟨s, 0, none⟩), .int .u64 at_, .int .u64 x] w fun e w' => StoreE B s v1 v2 X Y m at_ 8 x w e w' := by
  have AC := hidOf (access_any w B s v1 v2 X Y m at_ 8 h (by decide) (by decide) ha)
  have H := hidOf h
  clear h
  cases hacc : acP (flat X) at_ 8 with
  | none =>
    have ACN : Hid (Calls Tryz.prog 67 #[.pointer (some ⟨s, 0, none⟩), .int .u64 at_, .int .i64 8] w fun e w' => e = .returned (.tuple #[.slice none 0 0, .int .i64 200]) ∧ Out w w') := hidOf (Calls.mono AC.out (by
      rintro e w' ⟨⟨_, h9⟩ | ⟨y, o, b, h9, _⟩, ho⟩
      · exact ⟨h9, ho⟩
      · rw [hacc] at h9; cases h9))
    have HA := hidOf hacc
    clear hacc
    go_enter Tryz.func66, Tryz.ntmps66
    go_wp2_with (first | (go_at_call 91; refine (size64 _).mono ?_; rintro e w9 ⟨rfl, hw9⟩; subst hw9) | (go_at_call 67; refine ACN.out.mono ?_; rintro e w1 ⟨rfl, ho1⟩; have O1 := hidOf ho1; clear ho1) | (go_at_call 96; refine (layN64 _ x).mono ?_; rintro e w8 ⟨⟨q, rfl⟩, hw8⟩; subst hw8))
    go_ret
    exact .inl ⟨HA.out, rfl, O1.out⟩
  | some p =>
    obtain ⟨y, o⟩ := p
    have ACS : Hid (Calls Tryz.prog 67 #[.pointer (some ⟨s, 0, none⟩), .int .u64 at_, .int .i64 8] w fun e w' => ∃ b, y.a = some b ∧ e = .returned (.tuple #[.slice (some ⟨b, o, none⟩) 8 (y.c - o), .int .i64 0]) ∧ Out w w') := hidOf (Calls.mono AC.out (by
      rintro e w' ⟨⟨h9, _⟩ | ⟨y2, o2, b, h9, hb, h8⟩, ho⟩
      · rw [hacc] at h9; cases h9
      · rw [hacc] at h9; cases h9; exact ⟨b, hb, h8, ho⟩))
    have HA := hidOf hacc
    obtain ⟨p1, p2, p3, p4⟩ := acP_some H.out.ok.sf hacc
    have P1 := hidOf p1
    have P4 : Hid (o + 8 ≤ y.d.length) := hidOf (by omega)
    clear hacc p1 p2 p3 p4
    go_enter Tryz.func66, Tryz.ntmps66
    go_upto_region 2 with (first | (go_at_call 91; refine (size64 _).mono ?_; rintro e w9 ⟨rfl, hw9⟩; subst hw9) | (go_at_call 67; refine ACS.out.mono ?_; rintro e w1 ⟨b, hb, rfl, ho1⟩; have O1 := hidOf ho1; have HBB := hidOf hb; clear ho1 hb))
    have hda := (H.out.da y (List.mem_append_left _ P1.out)).out O1.out
    unfold DaI daV at hda
    rw [HBB.out] at hda
    obtain ⟨cur, hg, hBb, hyc, hcm, hcl, hct, hcn⟩ := owns_blk hda
    rw [Nat.mul_one] at hcl hct
    have LC := hidOf (lay64 w1 b o 8 (y.c - o) x cur.toArray hg (by have := P4.out; simp; omega) (by decide) (by have := P4.out; omega) hx)
    have FIN := hidOf (fun w2 h8 c2 => H.out.laid (x := x) (w2 := w2) O1.out P1.out HBB.out P4.out cur hg hcl hct hyc hcm hBb h8 c2)
    clear hda hg hcl hct hcn
    go_wp2_with (go_at_call 96; refine LC.out.mono ?_; rintro e w2 ⟨⟨q, rfl⟩, h8, c2⟩; have H8 := hidOf h8; have C2 := hidOf c2; clear h8 c2)
    go_ret
    obtain ⟨f1, f2⟩ := FIN.out w2 H8.out C2.out
    exact .inr ⟨y, o, HA.out, rfl, f1, f2⟩
end Go.Proofs.YtekjfbmebekmeaaGreat
