import Derived.Test.YtmpbdakmmelmgaaGa26
import Derived.Lib.AppendStr
import Derived.Test.YtmpbdakmmelmgaaGa13
namespace Go.Proofs.Ytmpbdakmmelmgaa
open Go.RowKit
set_option linter.unusedVariables false
set_option linter.unusedSimpArgs false
/-- names in memory of their own -/
def OwT (B : Nat) (v : Value) (N : List (List UInt8)) (w : World) : Prop := w.ownsRow B 9 1 v N.length (N.map strV)
theorem OwT.get {B : Nat} {w : World} {a : Option Addr} {c : Nat} {N : List (List UInt8)} (h : OwT B (.slice a N.length c) N w) {k : Nat} {y : List UInt8} (hy : N[k]? = some y) : ∃ g, a = some ⟨g, 0, none⟩ ∧ w.cell? ⟨g, k, none⟩ = some (.string ⟨y.toArray⟩) := by
  have hk := (List.getElem?_eq_some_iff.1 hy).1
  rcases h.2 with ⟨_, h0⟩ | ⟨g, cap, cur, e, _⟩
  · omega
  · simp only [Value.slice.injEq] at e
    refine ⟨g, e.1, ?_⟩
    have := World.ownsRow.cells h (g := g) (by rw [e.1]; rfl) k (strV y) (by rw [List.getElem?_map, hy]; rfl)
    rw [WideShapes.add_plain, Nat.zero_add] at this
    exact this
theorem plF_pre : ∀ (N : List (List UInt8)) (a k : Nat) (x : List UInt8), N[k]? = some x → ¬ x ∈ N.take k → plF a N x = szF a (N.take k)
  | [], a, k, x, h, _ => by simp at h
  | y :: r, a, 0, x, h, _ => by simp at h; subst h; simp [plF, szF]
  | y :: r, a, k + 1, x, h, hn => by
    simp only [List.take_succ_cons, List.mem_cons, not_or] at hn
    simp only [List.take_succ_cons, plF, szF]
    rw [if_neg (fun e => hn.1 e.symm)]
    exact plF_pre r _ k x (by simpa using h) hn.2
/-- names that were appended to -/
structure AppT (N : Nat) (w w' : World) (v v' : Value) (R : List (List UInt8)) : Prop where
  own : OwT N v' R w'
  chg : Chg (fun b => v.ownBlock = some b) w w'
  blk : ∀ b, v'.ownBlock = some b → v.ownBlock = some b ∨ w.heap.size ≤ b
theorem AppT.refl {N : Nat} {w : World} {v : Value} {O : List (List UInt8)} (h : OwT N v O w) : AppT N w w v v O := ⟨h, Chg.refl _ _, fun b hb => .inl hb⟩
set_option maxRecDepth 8000 in
set_option maxHeartbeats 1000000 in
theorem place9_any (B : Nat) (w : World) (a : Option Addr) (c : Nat) (N M : List (List UInt8)) (x : List UInt8) (hM : M = addN N x) (h : OwT B (.slice a N.length c) N w) (hB : B ≤ w.heap.size) (hl : szF 1 N ≤ 1000000000000) (hx : x.length ≤ 1000000000000) :
    Calls Try.prog 42 #[.slice a N.length c, .string ⟨x.toArray⟩] w fun e w' => ∃ a' c', e = .returned (.tuple #[.int .i64 (plF 1 M x : Nat), .slice a' M.length c']) ∧ AppT B w w' (.slice a N.length c) (.slice a' M.length c') M := by
  obtain ⟨i0, hi, hz0, hz1, hz2⟩ := info_parts infoStr
  have HM := hidOf hM
  have H := hidOf h
  have hn := szF_ge N 1
  have Hb := hidOf hl
  clear h hM
  go_enter Try.func42, Try.ntmps42
  go_wp2
  go_loopw [6, 7] (fun av iv wr => ∃ k s : Nat, av = .int .i64 s ∧ iv = .int .i64 k ∧ k ≤ N.length ∧ s ≤ 1000000000000 ∧ Hid (s = szF 1 (N.take k)) ∧ Hid (¬ x ∈ N.take k) ∧ wr = w) (fun _ iv _ => N.length - (intOf iv).toNat)
  case atStart => exact ⟨0, 1, rfl, rfl, by omega, by omega, hidOf rfl, hidOf (by simp), rfl⟩
  case round =>
    obtain ⟨k, s, rfl, rfl, hk, hs, HS, HP, rfl⟩ := hrel
    by_cases hkN : k < N.length
    · have hlt : (k : Int) < N.length := by omega
      have h0 : (0 : Int) ≤ k := by omega
      obtain ⟨y, hy⟩ : ∃ y, N[k]? = some y := ⟨_, List.getElem?_eq_getElem hkN⟩
      obtain ⟨g, rfl, d⟩ := H.out.get hy
      have hsz : (⟨y.toArray⟩ : ByteArray).size = y.length := mk_size y
      have hlen : szF 1 (N.take (k + 1)) = s + y.length + 1 := by rw [take_snoc hy, szF_snoc, ← HS.out]
      have hle := szF_take N (k + 1)
      have hyl : s + y.length + 1 ≤ 1000000000000 := by have := Hb.out; omega
      have hylI : (s : Int) + y.length + 1 ≤ 1000000000000 := by omega
      have Hlen := hidOf hlen
      have Hy := hidOf hy
      clear hlen hle hy
      by_cases e : y = x
      · have e' := hidOf e
        have ee : (y == x) = true := by simpa using e
        clear e
        have HMN : Hid (M = N ∧ plF 1 M x = s) := hidOf (by
          have hin : x ∈ N := by rw [← e'.out]; exact List.mem_of_getElem? Hy.out
          have hm : M = N := by rw [HM.out, addN, if_pos hin]
          exact ⟨hm, by rw [hm, plF_pre N 1 k x (by rw [← e'.out]; exact Hy.out) HP.out, HS.out]⟩)
        go_wp2
        go_ret2
        rw [HMN.out.2, HMN.out.1]
        exact ⟨_, _, rfl, AppT.refl H.out⟩
      · have e' := hidOf e
        have ee : (y == x) = false := by simpa using e
        clear e
        go_wp2
        go_roundw
        case rel => exact ⟨k + 1, s + y.length + 1, rfl, by simp, by omega, hyl, hidOf Hlen.out.symm, hidOf (by
          rw [take_snoc Hy.out]
          intro hm
          rcases List.mem_append.1 hm with hm | hm
          · exact HP.out hm
          · exact e'.out (List.mem_singleton.1 hm).symm), trivial⟩
        case measure => simp [intOf]; omega
    · have hlt : ¬ (k : Int) < N.length := by omega
      obtain rfl : k = N.length := by omega
      rw [List.take_length] at HP HS
      have HMN : Hid (M = N ++ [x] ∧ plF 1 M x = s) := hidOf (by
        have hm : M = N ++ [x] := by rw [HM.out, addN, if_neg HP.out]
        exact ⟨hm, by rw [hm, plF_new HP.out, HS.out]⟩)
      go_wp2_with (at_builtin; go_loud (refine wpList_append_lies _ rfl (.tmp 31) (.tmp 33) 92 rfl B 9 i0 _ 1 16 Try.underlying92 hi hz0 hz1 hz2 rfl (by decide) (.slice a N.length c) N.length (N.map strV) rfl (World.ownsRow.alloc H.out _) ⟨wr.heap.size, 0, none⟩ 1 1 [.string ⟨x.toArray⟩] rfl rfl (news_new wr _ _ _ rfl) (fun u hu => by rw [List.mem_singleton.1 hu]; rfl) (by decide) (by unfold maxLen; omega) (by omega) (by rw [size_alloc]; omega) _ rfl ?_); intro g4 c4 w4 hown4 hgrow4 hg4 _; have HO4 := hidOf hown4; have Hg4 := hidOf hgrow4; have Hb4 := hidOf hg4; clear hgrow4 hown4 hg4)
      go_ret2
      rw [HMN.out.2, HMN.out.1]
      have e3 : (N ++ [x]).length = N.length + 1 := by simp
      refine ⟨some ⟨g4, 0, none⟩, c4, by rw [e3]; rfl, ?_, (Chg.of_out (S := fun b => (Value.slice a N.length c).ownBlock = some b) ((Out.refl wr).alloc _)).trans (Chg.of_grown Hg4.out (fun k h => h)) (fun b hb _ => hb), fun b e => ?_⟩
      · show World.ownsRow _ _ _ _ _ _ _
        rw [e3, List.map_append]
        exact HO4.out
      · simp [Value.ownBlock] at e
        subst e
        rcases Hb4.out with h | h
        · exact .inl h
        · right; rw [h, size_alloc]; omega
set_option maxRecDepth 8000 in
set_option maxHeartbeats 1000000 in
theorem table9_any (w : World) (a : Option Addr) (c : Nat) (N : List (List UInt8)) (R : List UInt8) (hR : R = byP N) (B : Nat) (h : OwT B (.slice a N.length c) N w) (hl : szF 1 N ≤ 1000000000000) :
    Calls Try.prog 43 #[.slice a N.length c] w fun e w' => ∃ a' c', e = .returned (.slice a' R.length c') ∧ OwB w.heap.size (.slice a' R.length c') R w' ∧ Out w w' := by
  obtain ⟨i0, hi, hz0, hz1, hz2⟩ := info_parts infoB
  have HR := hidOf hR
  have H := hidOf h
  have hn := szF_ge N 1
  have Hb := hidOf hl
  have O1 : Hid (OwB w.heap.size (.slice (some ⟨w.heap.size, 0, none⟩) 1 1) [0] (w.alloc (.cells #[.int .u8 0] 5))) := hidOf ⟨by simp [Lib.byteCells], .inr ⟨w.heap.size, 1, #[.int .u8 0], rfl, Nat.le_refl _, heap_alloc_new w _, Nat.le_refl _, by decide, by simp, by simp [Lib.byteCells]⟩⟩
  have P1 : Hid (Out w (w.alloc (.cells #[.int .u8 0] 5))) := (Out.refl w).alloc _
  clear h hR
  go_enter Try.func43, Try.ntmps43
  go_upto_region 3 with fail
  generalize w.alloc (.cells #[.int .u8 0] 5) = w1 at *
  generalize hp : some (⟨w.heap.size, 0, none⟩ : Addr) = p1 at *
  go_wp2
  go_loopw [3, 4] (fun tv iv wr => ∃ (k : Nat) (P : List UInt8) (a1 : Option Addr) (c1 : Nat), tv = .slice a1 P.length c1 ∧ iv = .int .i64 k ∧ k ≤ N.length ∧ Hid (P = byP (N.take k)) ∧ Hid (OwB w.heap.size (.slice a1 P.length c1) P wr) ∧ Hid (Out w wr)) (fun _ iv _ => N.length - (intOf iv).toNat)
  case atStart => exact ⟨0, [0], p1, 1, rfl, rfl, by omega, hidOf (by simp [byP, byF]), O1, P1⟩
  case round =>
    obtain ⟨k, P, a1, c1, rfl, rfl, hk, HP, HO, HOut⟩ := hrel
    by_cases hkN : k < N.length
    · have hlt : (k : Int) < N.length := by omega
      have h0 : (0 : Int) ≤ k := by omega
      obtain ⟨y, hy⟩ : ∃ y, N[k]? = some y := ⟨_, List.getElem?_eq_getElem hkN⟩
      obtain ⟨g, rfl, d0⟩ := H.out.get hy
      have d := cell_later HOut.out d0
      have hsz : (⟨y.toArray⟩ : ByteArray).size = y.length := mk_size y
      have HPl : Hid (P.length = szF 1 (N.take k)) := hidOf (by rw [HP.out]; have := byF_len (N.take k) 1; simp [byP]; omega)
      have hlen : szF 1 (N.take (k + 1)) = szF 1 (N.take k) + y.length + 1 := by rw [take_snoc hy, szF_snoc]
      have hle := szF_take N (k + 1)
      have hPl : P.length + y.length + 1 ≤ 1000000000000 := by have := HPl.out; have := Hb.out; omega
      have HPn : Hid (byP (N.take (k + 1)) = P ++ y ++ [0]) := hidOf (by rw [take_snoc hy, HP.out]; simp only [byP]; rw [byF_snoc]; simp)
      have hws : w.heap.size ≤ wr.heap.size := HOut.out.size
      clear hlen hle hy d0
      go_wp2_with (first | (at_builtin; go_loud (refine Lib.wpList_append_own_string _ rfl (.tmp 12) (.tmp 16) 36 9 rfl w.heap.size 5 i0 Try.underlying36 Try.underlying9 hi hz0 hz1 hz2 (.slice a1 P.length c1) P.length (Lib.byteCells P) rfl HO.out ⟨y.toArray⟩ rfl (by rw [hsz]; unfold maxLen; omega) (by rw [hsz]; omega) hws ?_); intro v4 w4 hown4 hgrow4 _; have HO4 := hidOf hown4; have Hg4 := hidOf hgrow4; clear hgrow4; obtain ⟨a4, c4, rfl⟩ := own_form hown4; clear hown4) | (at_builtin; go_loud (refine wpList_append_own _ rfl (.tmp 18) (.tmp 19) 36 rfl w.heap.size 5 i0 _ 1 1 Try.underlying36 hi hz0 hz1 hz2 rfl (by decide) _ _ _ rfl (World.ownsRow.alloc HO4.out _) ⟨w4.heap.size, 0, none⟩ 1 1 [.int .u8 0] rfl rfl (news_new w4 _ _ _ rfl) (fun u hu => by rw [List.mem_singleton.1 hu]; rfl) (by rw [hsz]; unfold maxLen; omega) (by rw [hsz]; omega) (by rw [size_alloc]; have := Hg4.out.size; omega) ?_); intro v5 w5 hown5 hgrow5 _; have HO5 := hidOf hown5; have Hg5 := hidOf hgrow5; clear hgrow5; obtain ⟨a5, c5, rfl⟩ := own_form hown5; clear hown5))
      have e4 : Lib.byteCells P ++ Lib.strCells ⟨y.toArray⟩ = Lib.byteCells (P ++ y) := by rw [bc_app]; rfl
      have hsz2 : P.length + (⟨y.toArray⟩ : ByteArray).size = (P ++ y).length := by rw [hsz, List.length_append]
      have W4 : OwB w.heap.size (.slice a4 (P ++ y).length c4) (P ++ y) w4 := by
        have h4 := HO4.out
        rw [e4, hsz2] at h4
        exact h4
      have o4 : Out w w4 := Below.grownB (N := w.heap.size) HOut.out (Nat.le_refl _) HO.out Hg4.out
      have e5 : (P ++ y ++ [(0 : UInt8)]).length = P.length + y.length + 1 := by simp; omega
      refine ⟨⟨k + 1, P ++ y ++ [0], a5, c5, by rw [e5], by simp, by omega, hidOf HPn.out.symm, ?_, ?_⟩, by simp [intOf]; omega⟩
      · show World.ownsRow _ _ _ _ _ _ _
        have h5 := HO5.out
        rw [e4, hsz2] at h5
        rw [bc_app, show (P ++ y ++ [(0 : UInt8)]).length = (P ++ y).length + 1 by simp; omega]
        exact h5
      · exact Below.grownB (N := w.heap.size) (Below.alloc o4 o4.size _) (Nat.le_refl _) (World.ownsRow.alloc W4 _) (by
          have h : (w4.alloc _).grownBy w5 (Value.slice a4 (P.length + (⟨y.toArray⟩ : ByteArray).size) c4).ownBlock := Hg5.out
          rw [hsz2] at h
          exact h)
    · have hlt : ¬ (k : Int) < N.length := by omega
      obtain rfl : k = N.length := by omega
      rw [List.take_length] at HP
      go_wp2
      go_ret
      have e : R = P := HR.out.trans HP.out.symm
      rw [e]
      exact ⟨_, _, rfl, HO.out, HOut.out⟩
end Go.Proofs.Ytmpbdakmmelmgaa
namespace Go.Proofs.Ytmpbdakmmelmgaa
open Go.RowKit
set_option linter.unusedVariables false
set_option linter.unusedSimpArgs false
def mayS (s : Sec) : Bool := nameOk s.nm && !badP s
set_option maxRecDepth 8000 in
set_option maxHeartbeats 1000000 in
theorem may9_any (s : Sec) (da : Option Addr) (dc : Nat) (w : World) (hn : s.nm.length ≤ 1000000000000) : Calls Try.prog 74 #[.agg #[.string ⟨s.nm.toArray⟩, .int .i64 s.ty, .int .i64 s.fl, .int .i64 s.li, .int .i64 s.inf, .int .i64 s.al, .int .i64 s.es, .slice da s.d.length dc]] w fun e w' => e = .returned (.bool (mayS s)) ∧ Out w w' := by
  have HN := hidOf (fun wx => named_any s.nm wx hn)
  have HO : Hid (Out w (w.alloc (.cells #[.string ⟨s.nm.toArray⟩, .int .i64 s.ty, .int .i64 s.fl, .int .i64 s.li, .int .i64 s.inf, .int .i64 s.al, .int .i64 s.es, .slice da s.d.length dc] 52))) := (Out.refl w).alloc _
  have HM : Hid (mayS s = (nameOk s.nm && !badP s)) := hidOf rfl
  unfold badP at HM
  obtain ⟨nm, ty, fl, li, inf, al, es, d⟩ := s
  simp only at *
  generalize mayS ⟨nm, ty, fl, li, inf, al, es, d⟩ = R at *
  generalize nameOk nm = ok at *
  cases ok
  · go_enter Try.func74, Try.ntmps74
    go_wp2_with (go_at_call 94; refine (HN.out _).mono ?_; rintro e w1 ⟨rfl, rfl⟩)
    go_ret
    exact ⟨by rw [HM.out]; rfl, HO.out⟩
  by_cases h0 : ¬ (0 ≤ ty)
  · have HR : Hid (R = false) := hidOf (by rw [HM.out]; simp; omega)
    go_enter Try.func74, Try.ntmps74
    go_wp2_with (go_at_call 94; refine (HN.out _).mono ?_; rintro e w1 ⟨rfl, rfl⟩)
    go_ret
    exact ⟨by rw [HR.out]; first | rfl | (show Ending.returned (.bool (decide (inf < 4294967296))) = _; rw [decide_eq_false (by omega)]), HO.out⟩
  replace h0 := Classical.not_not.1 h0
  by_cases h1 : ¬ (ty < 4294967296)
  · have HR : Hid (R = false) := hidOf (by rw [HM.out]; simp; omega)
    go_enter Try.func74, Try.ntmps74
    go_wp2_with (go_at_call 94; refine (HN.out _).mono ?_; rintro e w1 ⟨rfl, rfl⟩)
    go_ret
    exact ⟨by rw [HR.out]; first | rfl | (show Ending.returned (.bool (decide (inf < 4294967296))) = _; rw [decide_eq_false (by omega)]), HO.out⟩
  replace h1 := Classical.not_not.1 h1
  by_cases h2 : ¬ (0 ≤ fl)
  · have HR : Hid (R = false) := hidOf (by rw [HM.out]; simp; omega)
    go_enter Try.func74, Try.ntmps74
    go_wp2_with (go_at_call 94; refine (HN.out _).mono ?_; rintro e w1 ⟨rfl, rfl⟩)
    go_ret
    exact ⟨by rw [HR.out]; first | rfl | (show Ending.returned (.bool (decide (inf < 4294967296))) = _; rw [decide_eq_false (by omega)]), HO.out⟩
  replace h2 := Classical.not_not.1 h2
  by_cases h3 : ¬ (0 ≤ al)
  · have HR : Hid (R = false) := hidOf (by rw [HM.out]; simp; omega)
    go_enter Try.func74, Try.ntmps74
    go_wp2_with (go_at_call 94; refine (HN.out _).mono ?_; rintro e w1 ⟨rfl, rfl⟩)
    go_ret
    exact ⟨by rw [HR.out]; first | rfl | (show Ending.returned (.bool (decide (inf < 4294967296))) = _; rw [decide_eq_false (by omega)]), HO.out⟩
  replace h3 := Classical.not_not.1 h3
  by_cases h4 : ¬ (0 ≤ es)
  · have HR : Hid (R = false) := hidOf (by rw [HM.out]; simp; omega)
    go_enter Try.func74, Try.ntmps74
    go_wp2_with (go_at_call 94; refine (HN.out _).mono ?_; rintro e w1 ⟨rfl, rfl⟩)
    go_ret
    exact ⟨by rw [HR.out]; first | rfl | (show Ending.returned (.bool (decide (inf < 4294967296))) = _; rw [decide_eq_false (by omega)]), HO.out⟩
  replace h4 := Classical.not_not.1 h4
  by_cases h5 : ¬ (0 ≤ li)
  · have HR : Hid (R = false) := hidOf (by rw [HM.out]; simp; omega)
    go_enter Try.func74, Try.ntmps74
    go_wp2_with (go_at_call 94; refine (HN.out _).mono ?_; rintro e w1 ⟨rfl, rfl⟩)
    go_ret
    exact ⟨by rw [HR.out]; first | rfl | (show Ending.returned (.bool (decide (inf < 4294967296))) = _; rw [decide_eq_false (by omega)]), HO.out⟩
  replace h5 := Classical.not_not.1 h5
  by_cases h6 : ¬ (li < 4294967296)
  · have HR : Hid (R = false) := hidOf (by rw [HM.out]; simp; omega)
    go_enter Try.func74, Try.ntmps74
    go_wp2_with (go_at_call 94; refine (HN.out _).mono ?_; rintro e w1 ⟨rfl, rfl⟩)
    go_ret
    exact ⟨by rw [HR.out]; first | rfl | (show Ending.returned (.bool (decide (inf < 4294967296))) = _; rw [decide_eq_false (by omega)]), HO.out⟩
  replace h6 := Classical.not_not.1 h6
  by_cases h7 : ¬ (0 ≤ inf)
  · have HR : Hid (R = false) := hidOf (by rw [HM.out]; simp; omega)
    go_enter Try.func74, Try.ntmps74
    go_wp2_with (go_at_call 94; refine (HN.out _).mono ?_; rintro e w1 ⟨rfl, rfl⟩)
    go_ret
    exact ⟨by rw [HR.out]; first | rfl | (show Ending.returned (.bool (decide (inf < 4294967296))) = _; rw [decide_eq_false (by omega)]), HO.out⟩
  replace h7 := Classical.not_not.1 h7
  by_cases h8 : ¬ (inf < 4294967296)
  · have HR : Hid (R = false) := hidOf (by rw [HM.out]; simp; omega)
    go_enter Try.func74, Try.ntmps74
    go_wp2_with (go_at_call 94; refine (HN.out _).mono ?_; rintro e w1 ⟨rfl, rfl⟩)
    go_ret
    exact ⟨by rw [HR.out]; first | rfl | (show Ending.returned (.bool (decide (inf < 4294967296))) = _; rw [decide_eq_false (by omega)]), HO.out⟩
  replace h8 := Classical.not_not.1 h8
  have HR : Hid (R = true) := hidOf (by rw [HM.out]; simp; omega)
  go_enter Try.func74, Try.ntmps74
  go_wp2_with (go_at_call 94; refine (HN.out _).mono ?_; rintro e w1 ⟨rfl, rfl⟩)
  go_ret
  exact ⟨by rw [HR.out]; first | rfl | (show Ending.returned (.bool (decide (inf < 4294967296))) = _; rw [decide_eq_true (by omega)]), HO.out⟩
end Go.Proofs.Ytmpbdakmmelmgaa
