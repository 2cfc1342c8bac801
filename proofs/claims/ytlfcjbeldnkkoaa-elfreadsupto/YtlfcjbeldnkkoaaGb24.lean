import Derived.Test.YtlfcjbeldnkkoaaGb05
import Derived.Test.YtlfcjbeldnkkoaaGb09
import Derived.Deep.AppendLies
import Derived.Lib.AppendStr
import Derived.Test.YtlfcjbeldnkkoaaGb10
namespace Go.Proofs.Ytlfcjbeldnkkoaa
open Go.RowKit
open Go.Maps (Keyed)
set_option linter.unusedVariables false
set_option linter.unusedSimpArgs false
/-- texts at an address -/
def StrAt (B : Nat) (w : World) (a : Option Addr) (N : List (List UInt8)) : Prop := N = [] ∨ ∃ b off, b < B ∧ a = some ⟨b, off, none⟩ ∧ ∀ k x, N[k]? = some x → w.cell? ⟨b, off + k, none⟩ = some (.string ⟨x.toArray⟩)
theorem StrAt.below {B : Nat} {w w' : World} {a : Option Addr} {N : List (List UInt8)} (h : StrAt B w a N) (b : Below B w w') : StrAt B w' a N := by
  rcases h with h | ⟨g, o, hg, ha, hc⟩
  · exact .inl h
  · exact .inr ⟨g, o, hg, ha, fun k x hx => (Below.cell b hg).trans (hc k x hx)⟩
theorem StrAt.get {B : Nat} {w : World} {a : Option Addr} {N : List (List UInt8)} (h : StrAt B w a N) {k : Nat} {x : List UInt8} (hx : N[k]? = some x) : ∃ b off, a = some ⟨b, off, none⟩ ∧ b < B ∧ w.cell? ⟨b, off + k, none⟩ = some (.string ⟨x.toArray⟩) := by
  rcases h with rfl | ⟨g, o, hg, ha, hc⟩
  · simp at hx
  · exact ⟨g, o, ha, hg, hc k x hx⟩
def suP : List (List UInt8) → Nat
  | [] => 0
  | x :: r => x.length + 2 + suP r
theorem suP_snoc (N : List (List UInt8)) (x : List UInt8) : suP (N ++ [x]) = suP N + x.length + 2 := by
  induction N with
  | nil => simp [suP]
  | cons y r ih => simp only [List.cons_append, suP, ih]; omega
theorem suP_take (N : List (List UInt8)) (k : Nat) : suP (N.take k) ≤ suP N := by
  induction N generalizing k with
  | nil => simp
  | cons y r ih => cases k with
    | zero => simp [suP]
    | succ k => simp only [List.take_succ_cons, suP]; have := ih k; omega
theorem suP_len (N : List (List UInt8)) : 2 * N.length ≤ suP N := by
  induction N with
  | nil => simp [suP]
  | cons y r ih => simp only [List.length_cons, suP]; omega
end Go.Proofs.Ytlfcjbeldnkkoaa
namespace Go.Proofs.Ytlfcjbeldnkkoaa
open Go.RowKit
open Go.Maps (Keyed)
set_option linter.unusedVariables false
set_option linter.unusedSimpArgs false
theorem nameOk_zero {x : List UInt8} {k : Nat} (h : x[k]? = some 0) : nameOk x = false := by
  have : (0 : UInt8) ∈ x := List.mem_of_getElem? h
  unfold nameOk
  simp [this]
theorem nameOk_none {x : List UInt8} (h : ∀ b ∈ x, ¬ b = 0) : nameOk x = (decide (1 ≤ x.length) && decide (x.length ≤ 64)) := by
  have h0 : ¬ (0 : UInt8) ∈ x := fun hm => h 0 hm rfl
  unfold nameOk
  cases x with
  | nil => simp
  | cons y r => simp at h0 ⊢; simp [h0]
theorem u8_zero {b : UInt8} : ((b.toNat : Int) == 0) = decide (b = 0) := by
  by_cases h : b = 0
  · subst h; rfl
  · have : ¬ b.toNat = 0 := fun e => h (UInt8.toNat_inj.1 e)
    simp [h]; omega
theorem namedS_any (s : ByteArray) (w : World) (hs : s.size ≤ 4611686018427387904) : Calls Try.prog 80 #[.string s] w fun e w' => e = .returned (.bool (nameOk s.toList)) ∧ w = w' := by
  have HZ : Hid (∀ k : Nat, s.toList[k]? = some 0 → nameOk s.toList = false) := hidOf (fun k h => nameOk_zero h)
  have HN : Hid ((∀ b ∈ s.toList, ¬ b = 0) → nameOk s.toList = (decide (1 ≤ s.size) && decide (s.size ≤ 64))) := hidOf (fun h => by rw [nameOk_none h, lsize])
  go_enter Try.func80, Try.ntmps80
  go_wp2
  go_loopw [3] (fun nv wr => ∃ k : Nat, k ≤ s.size ∧ nv = .int .i64 k ∧ Hid (∀ b ∈ s.toList.take k, ¬ b = 0) ∧ wr = w) (fun nv _ => s.size - (intOf nv).toNat)
  case atStart => exact ⟨0, by omega, rfl, hidOf (by simp), rfl⟩
  case round =>
    obtain ⟨k, hk2, rfl, Ha, rfl⟩ := hrel
    by_cases hk : k < s.size
    · have hlt : (k : Int) < s.size := by omega
      have h0k : (0 : Int) ≤ k := by omega
      have Hg := hidOf (lget s k hk)
      have hz := u8_zero (b := s[k])
      by_cases hb : s[k] = 0
      · rw [decide_eq_true hb] at hz
        have Hfin := hidOf (HZ.out k (by rw [Hg.out, hb]))
        clear hb
        go_wp2
        go_ret
        exact ⟨by rw [Hfin.out]; rfl, rfl⟩
      · rw [decide_eq_false hb] at hz
        have Hb := hidOf hb
        clear hb
        go_wp2
        go_roundw
        case rel =>
          refine ⟨k + 1, by omega, by simp, hidOf ?_, trivial⟩
          rw [take_snoc Hg.out]
          intro b hm
          rcases List.mem_append.1 hm with hm | hm
          · exact Ha.out b hm
          · simp at hm; rw [hm]; exact Hb.out
        case measure => simp [intOf]; omega
    · have hlt : ¬ (k : Int) < s.size := by omega
      have hks : k = s.toList.length := by rw [lsize]; omega
      rw [hks, List.take_length] at Ha
      have Hfin := hidOf (HN.out Ha.out)
      clear hks
      go_wp2
      all_goals (go_ret; refine ret_bool ?_; rw [Hfin.out, Bool.eq_iff_iff]; simp; omega)
theorem named_any (x : List UInt8) (w : World) (hs : x.length ≤ 1000000000000) : Calls Try.prog 80 #[.string ⟨x.toArray⟩] w fun e w' => e = .returned (.bool (nameOk x)) ∧ w = w' := by
  have h := namedS_any ⟨x.toArray⟩ w (by rw [mk_size]; omega)
  rw [mk_list] at h
  exact h
/-- the reference's table: its names at an address -/
def RT (w : World) (a : Option Addr) (N : List (List UInt8)) : Prop := StrAt w.heap.size w a N
theorem RT.out {w w' : World} {a : Option Addr} {N : List (List UInt8)} (h : RT w a N) (o : Out w w') : RT w' a N := by
  rcases h with h | ⟨g, off, hg, ha, hc⟩
  · exact .inl h
  · exact .inr ⟨g, off, Nat.lt_of_lt_of_le hg o.size, ha, fun k x hx => (o.cells g _ hg).trans (hc k x hx)⟩
def tabO (a : Option Addr) (n c : Nat) : Obj := .cells #[.slice a n c] 119 (0, 0)
theorem plF_step {N : List (List UInt8)} {k : Nat} {y : List UInt8} (x : List UInt8) (hy : N[k]? = some y) : plF (szF 1 (N.take k)) (N.drop k) x = if y = x then szF 1 (N.take k) else plF (szF 1 (N.take (k + 1))) (N.drop (k + 1)) x := by
  have hk : k < N.length := (List.getElem?_eq_some_iff.1 hy).1
  have hd := List.drop_eq_getElem_cons hk
  have hx' : N[k] = y := by rw [List.getElem?_eq_getElem hk] at hy; exact Option.some.inj hy
  rw [hd, hx', take_snoc hy, szF_snoc]
  rfl
theorem atF_step {N : List (List UInt8)} {k : Nat} {y : List UInt8} (q : Int) (hy : N[k]? = some y) : atF (szF 1 (N.take k)) (N.drop k) q = if (szF 1 (N.take k) : Int) = q then some y else atF (szF 1 (N.take (k + 1))) (N.drop (k + 1)) q := by
  have hk : k < N.length := (List.getElem?_eq_some_iff.1 hy).1
  have hd := List.drop_eq_getElem_cons hk
  have hx' : N[k] = y := by rw [List.getElem?_eq_getElem hk] at hy; exact Option.some.inj hy
  rw [hd, hx', take_snoc hy, szF_snoc]
  rfl
theorem place_any (a : Option Addr) (c : Nat) (N : List (List UInt8)) (x : List UInt8) (w : World) (h : RT w a N) (hc : N.length ≤ c) (hb : szF 1 N ≤ 1000000000000) : Calls Try.prog 81 #[.agg #[.slice a N.length c], .string ⟨x.toArray⟩] w fun e w' => e = .returned (.int .i64 (plF 1 N x : Nat)) ∧ Out w w' := by
  have Ho : Hid (Out w (w.alloc (tabO a N.length c))) := (Out.refl w).alloc _
  have hn := szF_ge N 1
  have hnI : (N.length : Int) ≤ 1000000000000 := by omega
  have hcI : (N.length : Int) ≤ c := by omega
  have H := hidOf (h.out ((Out.refl w).alloc (tabO a N.length c)))
  have Hb := hidOf hb
  have c0 : (w.alloc (tabO a N.length c)).cell? ⟨w.heap.size, 0, none⟩ = some (.slice a N.length c) := cell_fresh _ _ _ _ _ rfl
  clear h hb
  go_enter Try.func81, Try.ntmps81
  go_wp2
  show Code.wp _ _ _ _ (w.alloc (tabO a N.length c))
  generalize w.alloc (tabO a N.length c) = w1 at *
  generalize w.heap.size = p at *
  go_loopw [5, 6] (fun av iv wr => ∃ k s : Nat, av = .int .i64 s ∧ iv = .int .i64 k ∧ k ≤ N.length ∧ s ≤ 1000000000000 ∧ Hid (s = szF 1 (N.take k)) ∧ Hid (plF 1 N x = plF s (N.drop k) x) ∧ wr = w1) (fun _ iv _ => N.length - (intOf iv).toNat)
  case atStart => exact ⟨0, 1, rfl, rfl, by omega, by omega, hidOf rfl, hidOf rfl, rfl⟩
  case round =>
    obtain ⟨k, s, rfl, rfl, hk, hs, HS, HP, rfl⟩ := hrel
    by_cases hkN : k < N.length
    · have hlt : (k : Int) < N.length := by omega
      have h0 : (0 : Int) ≤ k := by omega
      obtain ⟨y, hy⟩ : ∃ y, N[k]? = some y := ⟨_, List.getElem?_eq_getElem hkN⟩
      obtain ⟨b, off, rfl, hb, d⟩ := StrAt.get H.out hy
      have hsz : (⟨y.toArray⟩ : ByteArray).size = y.length := mk_size y
      have hst := plF_step x hy
      rw [← HS.out] at hst
      have hlen : szF 1 (N.take (k + 1)) = s + y.length + 1 := by rw [take_snoc hy, szF_snoc, ← HS.out]
      have hle := szF_take N (k + 1)
      have hyl : s + y.length + 1 ≤ 1000000000000 := by have := Hb.out; omega
      have hylI : (s : Int) + y.length + 1 ≤ 1000000000000 := by omega
      have Hst := hidOf hst
      have Hlen := hidOf hlen
      clear hst hlen hle hy hb
      by_cases e : y = x
      · have e' := hidOf e
        have ee : (y == x) = true := by simpa using e
        clear e
        go_wp2
        go_ret
        exact ⟨by rw [HP.out, Hst.out, if_pos e'.out]; rfl, Ho.out⟩
      · have e' := hidOf e
        have ee : (y == x) = false := by simpa using e
        clear e
        go_wp2
        go_roundw
        case rel => exact ⟨k + 1, s + y.length + 1, rfl, by simp, by omega, hyl, hidOf Hlen.out.symm, hidOf (by rw [HP.out, Hst.out, if_neg e'.out, Hlen.out]), trivial⟩
        case measure => simp [intOf]; omega
    · have hlt : ¬ (k : Int) < N.length := by omega
      obtain rfl : k = N.length := by omega
      rw [List.drop_length] at HP
      go_wp2
      go_ret
      exact ⟨by rw [HP.out]; rfl, Ho.out⟩
def atV (r : Option (List UInt8)) : Array Value := match r with | some x => #[.string ⟨x.toArray⟩, .int .i64 0] | none => #[.string ⟨#[]⟩, .int .i64 81]
end Go.Proofs.Ytlfcjbeldnkkoaa
namespace Go.Proofs.Ytlfcjbeldnkkoaa
open Go.RowKit
set_option linter.unusedVariables false
set_option linter.unusedSimpArgs false
/-- bytes that were appended to: what was told of the list, which blocks turned -/
structure AppB (N : Nat) (w w' : World) (v v' : Value) (R : List UInt8) : Prop where
  own : OwB N v' R w'
  chg : Chg (fun b => v.ownBlock = some b) w w'
  blk : ∀ b, v'.ownBlock = some b → v.ownBlock = some b ∨ w.heap.size ≤ b
theorem AppB.refl {N : Nat} {w : World} {v : Value} {O : List UInt8} (h : OwB N v O w) : AppB N w w v v O := ⟨h, Chg.refl _ _, fun b hb => .inl hb⟩
theorem AppB.trans {N : Nat} {w w1 w2 : World} {v v1 v2 : Value} {P R : List UInt8} (h : AppB N w w1 v v1 P) (k : AppB N w1 w2 v1 v2 R) : AppB N w w2 v v2 R :=
  ⟨k.own, h.chg.trans k.chg (fun b hb hlt => (h.blk b hb).resolve_right (by omega)), fun b hb => by
    rcases k.blk b hb with e | e
    · exact h.blk b e
    · have := h.chg.size; exact .inr (by omega)⟩
theorem AppB.step {N g c n : Nat} {w X : World} {O : Obj} {w' : World} {v v1 : Value} {P R : List UInt8} (h : AppB N w X v v1 P) (hg : (X.alloc O).grownBy w' v1.ownBlock) (hown : w'.ownsRow N 5 1 (.slice (some ⟨g, 0, none⟩) n c) n (Lib.byteCells R)) (hl : R.length = n) (hb : v1.ownBlock = some g ∨ g = (X.alloc O).heap.size) : AppB N w w' v (.slice (some ⟨g, 0, none⟩) n c) R := by
  refine h.trans ⟨by subst hl; exact hown, ?_, fun b e => ?_⟩
  · exact (Chg.of_out (S := fun b => v1.ownBlock = some b) ((Out.refl X).alloc O)).trans (Chg.of_grown hg (fun k h => h)) (fun b hb _ => hb)
  · simp [Value.ownBlock] at e
    subst e
    rcases hb with hb | hb
    · exact .inl hb
    · right; rw [hb, size_alloc]; omega
set_option maxRecDepth 8000 in
set_option maxHeartbeats 1000000 in
theorem num9_any (N : Nat) (w : World) (ba : Option Addr) (bc : Nat) (O R : List UInt8) (n wd : Nat) (hR : R = O ++ leB n wd) (hb : OwB N (.slice ba O.length bc) O w) (hN : N ≤ w.heap.size) (hw : wd ≤ 8) (hl : O.length + wd ≤ 140737488355328) (hn : n ≤ 9223372036854775807) :
    Calls Try.prog 79 #[.slice ba O.length bc, .int .i64 (n : Int), .int .i64 (wd : Int)] w fun e w' => ∃ a c, e = .returned (.slice a R.length c) ∧ AppB N w w' (.slice ba O.length bc) (.slice a R.length c) R := by
  have HR := hidOf hR
  clear hR
  obtain ⟨i0, hi, hz0, hz1, hz2⟩ := info_parts infoB
  have HB := hidOf hb
  clear hb
  go_enter Try.func79, Try.ntmps79
  go_wp2
  go_loopw [7, 0] (fun kv bv wr => ∃ (k : Nat) (P : List UInt8) (a : Option Addr) (c : Nat), kv = .int .i64 k ∧ bv = .slice a P.length c ∧ k ≤ wd ∧ Hid (P = O ++ leB n k) ∧ Hid (AppB N w wr (.slice ba O.length bc) (.slice a P.length c) P)) (fun kv _ _ => wd - (intOf kv).toNat)
  case atStart => exact ⟨0, O, ba, bc, rfl, rfl, by omega, hidOf (by simp [leB]), AppB.refl HB.out⟩
  case round =>
    obtain ⟨k, P, a, c, rfl, rfl, hk, HP, HO⟩ := hrel
    by_cases hkw : k < wd
    · have hklt : (k : Int) < wd := by omega
      have hk0 : (0 : Int) ≤ k := by omega
      have hx0 : (0 : Int) ≤ n := by omega
      have hPl : P.length + 1 ≤ 140737488355328 := by rw [HP.out, List.length_append, leB_len]; omega
      have hNk : N ≤ wr.heap.size := Nat.le_trans hN HO.out.chg.size
      have FIN : Hid (∀ (z : Int) g4 c4 w4 O', z = ((n / 256 ^ k % 256 : Nat) : Int) → w4.ownsRow N 5 1 (.slice (some ⟨g4, 0, none⟩) (P.length + 1) c4) (P.length + 1) (Lib.byteCells P ++ [.int .u8 z]) → (wr.alloc O').grownBy w4 (Value.slice a P.length c).ownBlock → ((Value.slice a P.length c).ownBlock = some g4 ∨ g4 = (wr.alloc O').heap.size) → AppB N w w4 (.slice ba O.length bc) (.slice (some ⟨g4, 0, none⟩) (O ++ leB n (k + 1)).length c4) (O ++ leB n (k + 1))) := hidOf (fun z g4 c4 w4 O' hz h4 hg hb => by
        have e2 : O ++ leB n (k + 1) = P ++ [UInt8.ofNat (n / 256 ^ k % 256)] := by rw [leB_snoc, ← List.append_assoc, ← HP.out]
        have e3 : (O ++ leB n (k + 1)).length = P.length + 1 := by rw [e2]; simp
        rw [e3]
        refine HO.out.step hg ?_ e3 hb
        rw [e2, bc_app]
        have e4 : Lib.byteCells [UInt8.ofNat (n / 256 ^ k % 256)] = [Value.int .u8 z] := by
          rw [hz]
          simp only [Lib.byteCells, List.map_cons, List.map_nil]
          rw [UInt8.toNat_ofNat_of_lt' (by simp [UInt8.size]; omega)]
        rw [e4]; exact h4)
      have HE3 : Hid ((O ++ leB n (k + 1)).length = P.length + 1) := hidOf (by rw [HP.out]; simp [leB_len]; omega)
      obtain rfl | rfl | rfl | rfl | rfl | rfl | rfl | rfl : k = 0 ∨ k = 1 ∨ k = 2 ∨ k = 3 ∨ k = 4 ∨ k = 5 ∨ k = 6 ∨ k = 7 := by omega
      all_goals
        go_wp2_with (at_builtin; go_loud (refine wpList_append_lies _ rfl (.tmp 13) (.tmp 19) 24 rfl N 5 i0 _ 1 1 Try.underlying24 hi hz0 hz1 hz2 rfl (by decide) (.slice a P.length c) P.length (Lib.byteCells P) rfl (World.ownsRow.alloc HO.out.own _) ⟨wr.heap.size, 0, none⟩ 1 1 [_] rfl rfl (news_new wr _ _ _ rfl) (fun u hu => by rw [List.mem_singleton.1 hu]; rfl) (by decide) (by unfold maxLen; omega) (by omega) (by rw [size_alloc]; omega) _ rfl ?_); intro g4 c4 w4 hown4 hgrow4 hg4 _; have HO4 := hidOf hown4; have Hg4 := hidOf hgrow4; have Hb4 := hidOf hg4; clear hgrow4 hown4 hg4)
        refine ⟨⟨_, O ++ leB n (_ + 1), some ⟨g4, 0, none⟩, c4, ?_, by rw [HE3.out], by omega, hidOf rfl, FIN.out _ g4 c4 w4 _ ?_ HO4.out Hg4.out Hb4.out⟩, by simp [intOf]; omega⟩
        · rfl
        · omega
    · have hklt : ¬ (k : Int) < wd := by omega
      obtain rfl : k = wd := by omega
      go_wp2
      go_ret
      have e : R = P := HR.out.trans HP.out.symm
      rw [e]
      exact ⟨a, c, rfl, HO.out⟩
end Go.Proofs.Ytlfcjbeldnkkoaa
namespace Go.Proofs.Ytlfcjbeldnkkoaa
open Go.RowKit
set_option linter.unusedVariables false
set_option linter.unusedSimpArgs false
/-- names in memory of their own -/
def OwT (B : Nat) (v : Value) (N : List (List UInt8)) (w : World) : Prop := w.ownsRow B 9 1 v N.length (N.map strV)
theorem OwT.get {B : Nat} {w : World} {a : Option Addr} {c : Nat} {N : List (List UInt8)} (h : OwT B (.slice a N.length c) N w) {k : Nat} {y : List UInt8} (hy : N[k]? = some y) : ∃ g, a = some ⟨g, 0, none⟩ ∧ w.cell? ⟨g, k, none⟩ = some (.string ⟨y.toArray⟩) := by
  have hk := (List.getElem?_eq_some_iff.1 hy).1
  rcases h.2 with ⟨_, h0⟩ | ⟨g, cap, cur, e, _⟩
  · omega
  · simp only [Value.slice.injEq] at e
    refine ⟨g, e.1, ?_⟩
    have := World.ownsRow.cells h (g := g) (by rw [e.1]; rfl) k (strV y) (by rw [List.getElem?_map, hy]; rfl)
    rw [WideShapes.add_plain, Nat.zero_add] at this
    exact this
theorem plF_pre : ∀ (N : List (List UInt8)) (a k : Nat) (x : List UInt8), N[k]? = some x → ¬ x ∈ N.take k → plF a N x = szF a (N.take k)
  | [], a, k, x, h, _ => by simp at h
  | y :: r, a, 0, x, h, _ => by simp at h; subst h; simp [plF, szF]
  | y :: r, a, k + 1, x, h, hn => by
    simp only [List.take_succ_cons, List.mem_cons, not_or] at hn
    simp only [List.take_succ_cons, plF, szF]
    rw [if_neg (fun e => hn.1 e.symm)]
    exact plF_pre r _ k x (by simpa using h) hn.2
/-- names that were appended to -/
structure AppT (N : Nat) (w w' : World) (v v' : Value) (R : List (List UInt8)) : Prop where
  own : OwT N v' R w'
  chg : Chg (fun b => v.ownBlock = some b) w w'
  blk : ∀ b, v'.ownBlock = some b → v.ownBlock = some b ∨ w.heap.size ≤ b
theorem AppT.refl {N : Nat} {w : World} {v : Value} {O : List (List UInt8)} (h : OwT N v O w) : AppT N w w v v O := ⟨h, Chg.refl _ _, fun b hb => .inl hb⟩
end Go.Proofs.Ytlfcjbeldnkkoaa
namespace Go.Proofs.Ytlfcjbeldnkkoaa
open Go.RowKit
set_option linter.unusedVariables false
set_option linter.unusedSimpArgs false
def mayS (s : Sec) : Bool := nameOk s.nm && !badP s
end Go.Proofs.Ytlfcjbeldnkkoaa
namespace Go.Proofs.Ytlfcjbeldnkkoaa
open Go.RowKit
set_option linter.unusedVariables false
set_option linter.unusedSimpArgs false
theorem box_cell9 {w : World} {q : Nat} {cs : Array Value} {t : TypeId} (h : w.heap[q]? = some (.cells cs t (0, 0))) (j : Nat) : w.cell? ⟨q, j, none⟩ = cs[j]? := by simp [World.cell?, h]
end Go.Proofs.Ytlfcjbeldnkkoaa
namespace Go.Proofs.Ytlfcjbeldnkkoaa
open Go.RowKit
set_option linter.unusedVariables false
set_option linter.unusedSimpArgs false
def h16 : List UInt8 := [127, 69, 76, 70, 2, 1, 1, 0, 0, 0, 0, 0, 0, 0, 0, 0]
set_option maxRecDepth 8000 in
set_option maxHeartbeats 1000000 in
theorem head9_any (w : World) (count p : Nat) (R : List UInt8) (hRR0 : R = h16 ++ (leB 1 2 ++ (leB 247 2 ++ (leB 1 4 ++ (leB 0 8 ++ (leB 0 8 ++ (leB p 8 ++ (leB 0 4 ++ (leB 64 2 ++ (leB 0 4 ++ (leB 64 2 ++ (leB (count + 2) 2 ++ leB (count + 1) 2)))))))))))) (hc : count ≤ 1000) (hp : p ≤ 9223372036854775807) :
    Calls Try.prog 60 #[.int .i64 (count : Int), .int .i64 (p : Int)] w fun e w' => ∃ a c, e = .returned (.slice a R.length c) ∧ OwB w.heap.size (.slice a R.length c) R w' ∧ Out w w' := by
  obtain ⟨O, hO⟩ : ∃ O, O = h16 := ⟨_, rfl⟩
  obtain ⟨c2, hc2⟩ : ∃ c, c = count + 2 := ⟨_, rfl⟩
  obtain ⟨c1, hc1⟩ : ∃ c, c = count + 1 := ⟨_, rfl⟩
  obtain ⟨N, hNN⟩ : ∃ N, N = w.heap.size := ⟨_, rfl⟩
  have hc2I : (count : Int) + 2 = c2 := by omega
  have hc1I : (count : Int) + 1 = c1 := by omega
  have hc2w : IntKind.i64.wrap (c2 : Int) = c2 := by rw [IntKind.wrap_i64]; omega
  have hc1w : IntKind.i64.wrap (c1 : Int) = c1 := by rw [IntKind.wrap_i64]; omega
  have hOl : O.length = 16 := by rw [hO]; rfl
  have hRR : R = O ++ (leB 1 2 ++ (leB 247 2 ++ (leB 1 4 ++ (leB 0 8 ++ (leB 0 8 ++ (leB p 8 ++ (leB 0 4 ++ (leB 64 2 ++ (leB 0 4 ++ (leB 64 2 ++ (leB c2 2 ++ leB c1 2))))))))))) := by rw [hRR0, hO, hc2, hc1]
  clear hRR0
  obtain ⟨R1, hR1⟩ : ∃ R, R = O ++ leB 1 2 := ⟨_, rfl⟩
  obtain ⟨R2, hR2⟩ : ∃ R, R = R1 ++ leB 247 2 := ⟨_, rfl⟩
  obtain ⟨R3, hR3⟩ : ∃ R, R = R2 ++ leB 1 4 := ⟨_, rfl⟩
  obtain ⟨R4, hR4⟩ : ∃ R, R = R3 ++ leB 0 8 := ⟨_, rfl⟩
  obtain ⟨R5, hR5⟩ : ∃ R, R = R4 ++ leB 0 8 := ⟨_, rfl⟩
  obtain ⟨R6, hR6⟩ : ∃ R, R = R5 ++ leB p 8 := ⟨_, rfl⟩
  obtain ⟨R7, hR7⟩ : ∃ R, R = R6 ++ leB 0 4 := ⟨_, rfl⟩
  obtain ⟨R8, hR8⟩ : ∃ R, R = R7 ++ leB 64 2 := ⟨_, rfl⟩
  obtain ⟨R9, hR9⟩ : ∃ R, R = R8 ++ leB 0 4 := ⟨_, rfl⟩
  obtain ⟨R10, hR10⟩ : ∃ R, R = R9 ++ leB 64 2 := ⟨_, rfl⟩
  obtain ⟨R11, hR11⟩ : ∃ R, R = R10 ++ leB c2 2 := ⟨_, rfl⟩
  obtain ⟨R12, hR12⟩ : ∃ R, R = R11 ++ leB c1 2 := ⟨_, rfl⟩
  have l1 : R1.length = O.length + 2 := by rw [hR1, List.length_append, leB_len]
  have l2 : R2.length = R1.length + 2 := by rw [hR2, List.length_append, leB_len]
  have l3 : R3.length = R2.length + 4 := by rw [hR3, List.length_append, leB_len]
  have l4 : R4.length = R3.length + 8 := by rw [hR4, List.length_append, leB_len]
  have l5 : R5.length = R4.length + 8 := by rw [hR5, List.length_append, leB_len]
  have l6 : R6.length = R5.length + 8 := by rw [hR6, List.length_append, leB_len]
  have l7 : R7.length = R6.length + 4 := by rw [hR7, List.length_append, leB_len]
  have l8 : R8.length = R7.length + 2 := by rw [hR8, List.length_append, leB_len]
  have l9 : R9.length = R8.length + 4 := by rw [hR9, List.length_append, leB_len]
  have l10 : R10.length = R9.length + 2 := by rw [hR10, List.length_append, leB_len]
  have l11 : R11.length = R10.length + 2 := by rw [hR11, List.length_append, leB_len]
  have l12 : R12.length = R11.length + 2 := by rw [hR12, List.length_append, leB_len]
  have C1 := hidOf (fun wx a c (h : OwB N (.slice a O.length c) O wx) (hx : N ≤ wx.heap.size) => num9_any N wx a c O R1 1 2 hR1 h hx (by omega) (by omega) (by omega))
  have C2 := hidOf (fun wx a c (h : OwB N (.slice a R1.length c) R1 wx) (hx : N ≤ wx.heap.size) => num9_any N wx a c R1 R2 247 2 hR2 h hx (by omega) (by omega) (by omega))
  have C3 := hidOf (fun wx a c (h : OwB N (.slice a R2.length c) R2 wx) (hx : N ≤ wx.heap.size) => num9_any N wx a c R2 R3 1 4 hR3 h hx (by omega) (by omega) (by omega))
  have C4 := hidOf (fun wx a c (h : OwB N (.slice a R3.length c) R3 wx) (hx : N ≤ wx.heap.size) => num9_any N wx a c R3 R4 0 8 hR4 h hx (by omega) (by omega) (by omega))
  have C5 := hidOf (fun wx a c (h : OwB N (.slice a R4.length c) R4 wx) (hx : N ≤ wx.heap.size) => num9_any N wx a c R4 R5 0 8 hR5 h hx (by omega) (by omega) (by omega))
  have C6 := hidOf (fun wx a c (h : OwB N (.slice a R5.length c) R5 wx) (hx : N ≤ wx.heap.size) => num9_any N wx a c R5 R6 p 8 hR6 h hx (by omega) (by omega) hp)
  have C7 := hidOf (fun wx a c (h : OwB N (.slice a R6.length c) R6 wx) (hx : N ≤ wx.heap.size) => num9_any N wx a c R6 R7 0 4 hR7 h hx (by omega) (by omega) (by omega))
  have C8 := hidOf (fun wx a c (h : OwB N (.slice a R7.length c) R7 wx) (hx : N ≤ wx.heap.size) => num9_any N wx a c R7 R8 64 2 hR8 h hx (by omega) (by omega) (by omega))
  have C9 := hidOf (fun wx a c (h : OwB N (.slice a R8.length c) R8 wx) (hx : N ≤ wx.heap.size) => num9_any N wx a c R8 R9 0 4 hR9 h hx (by omega) (by omega) (by omega))
  have C10 := hidOf (fun wx a c (h : OwB N (.slice a R9.length c) R9 wx) (hx : N ≤ wx.heap.size) => num9_any N wx a c R9 R10 64 2 hR10 h hx (by omega) (by omega) (by omega))
  have C11 := hidOf (fun wx a c (h : OwB N (.slice a R10.length c) R10 wx) (hx : N ≤ wx.heap.size) => num9_any N wx a c R10 R11 c2 2 hR11 h hx (by omega) (by omega) (by omega))
  have C12 := hidOf (fun wx a c (h : OwB N (.slice a R11.length c) R11 wx) (hx : N ≤ wx.heap.size) => num9_any N wx a c R11 R12 c1 2 hR12 h hx (by omega) (by omega) (by omega))
  have HRR : Hid (R = R12) := hidOf (hRR.trans (by rw [hR12, hR11, hR10, hR9, hR8, hR7, hR6, hR5, hR4, hR3, hR2, hR1]; simp only [List.append_assoc]))
  clear hRR hR1 hR2 hR3 hR4 hR5 hR6 hR7 hR8 hR9 hR10 hR11 hR12 l1 l2 l3 l4 l5 l6 l7 l8 l9 l10 l11 l12
  have A0 : Hid (AppB N (w.alloc (.cells #[.int .u8 127, .int .u8 69, .int .u8 76, .int .u8 70, .int .u8 2, .int .u8 1, .int .u8 1, .int .u8 0, .int .u8 0, .int .u8 0, .int .u8 0, .int .u8 0, .int .u8 0, .int .u8 0, .int .u8 0, .int .u8 0] 5)) (w.alloc (.cells #[.int .u8 127, .int .u8 69, .int .u8 76, .int .u8 70, .int .u8 2, .int .u8 1, .int .u8 1, .int .u8 0, .int .u8 0, .int .u8 0, .int .u8 0, .int .u8 0, .int .u8 0, .int .u8 0, .int .u8 0, .int .u8 0] 5)) (.slice (some ⟨w.heap.size, 0, none⟩) 16 16) (.slice (some ⟨w.heap.size, 0, none⟩) O.length 16) O) := hidOf (by
    have ho : OwB N (.slice (some ⟨w.heap.size, 0, none⟩) O.length 16) O (w.alloc (.cells #[.int .u8 127, .int .u8 69, .int .u8 76, .int .u8 70, .int .u8 2, .int .u8 1, .int .u8 1, .int .u8 0, .int .u8 0, .int .u8 0, .int .u8 0, .int .u8 0, .int .u8 0, .int .u8 0, .int .u8 0, .int .u8 0] 5)) := by
      rw [hO, hNN]
      exact ⟨rfl, .inr ⟨w.heap.size, 16, _, rfl, Nat.le_refl _, heap_alloc_new w _, Nat.le_refl _, by decide, rfl, rfl⟩⟩
    exact ⟨ho, Chg.refl _ _, fun b hb => .inl hb⟩)
  have HN0 : Hid (N ≤ (w.alloc (.cells #[.int .u8 127, .int .u8 69, .int .u8 76, .int .u8 70, .int .u8 2, .int .u8 1, .int .u8 1, .int .u8 0, .int .u8 0, .int .u8 0, .int .u8 0, .int .u8 0, .int .u8 0, .int .u8 0, .int .u8 0, .int .u8 0] 5)).heap.size) := hidOf (by rw [size_alloc, hNN]; omega)
  have HO0 : Hid (Out w (w.alloc (.cells #[.int .u8 127, .int .u8 69, .int .u8 76, .int .u8 70, .int .u8 2, .int .u8 1, .int .u8 1, .int .u8 0, .int .u8 0, .int .u8 0, .int .u8 0, .int .u8 0, .int .u8 0, .int .u8 0, .int .u8 0, .int .u8 0] 5))) := hidOf ((Out.refl w).alloc _)
  have HOl := hidOf hOl
  have HNN := hidOf hNN
  clear hO hc2 hc1 hNN
  go_enter Try.func60, Try.ntmps60
  go_upto_region 2 with fail
  rw [hOl] at A0
  generalize w.alloc (.cells #[.int .u8 127, .int .u8 69, .int .u8 76, .int .u8 70, .int .u8 2, .int .u8 1, .int .u8 1, .int .u8 0, .int .u8 0, .int .u8 0, .int .u8 0, .int .u8 0, .int .u8 0, .int .u8 0, .int .u8 0, .int .u8 0] 5) = x0 at *
  have C1' := C1
  rw [hOl] at C1'
  clear C1
  have C1 := C1'
  clear C1' hOl
  go_upto_region 3 with (first | (go_at_call 79; refine (C1.out _ _ _ A0.out.own HN0.out).mono ?_; rintro e x1 ⟨b1, d1, rfl, ha⟩; have A1 := hidOf (A0.out.trans ha); have HN1 := hidOf (Nat.le_trans HN0.out ha.chg.size); clear ha))
  go_upto_region 4 with (first | (go_at_call 79; refine (C2.out _ _ _ A1.out.own HN1.out).mono ?_; rintro e x2 ⟨b2, d2, rfl, ha⟩; have A2 := hidOf (A1.out.trans ha); have HN2 := hidOf (Nat.le_trans HN1.out ha.chg.size); clear ha))
  go_upto_region 5 with (first | (go_at_call 79; refine (C3.out _ _ _ A2.out.own HN2.out).mono ?_; rintro e x3 ⟨b3, d3, rfl, ha⟩; have A3 := hidOf (A2.out.trans ha); have HN3 := hidOf (Nat.le_trans HN2.out ha.chg.size); clear ha))
  go_upto_region 6 with (first | (go_at_call 79; refine (C4.out _ _ _ A3.out.own HN3.out).mono ?_; rintro e x4 ⟨b4, d4, rfl, ha⟩; have A4 := hidOf (A3.out.trans ha); have HN4 := hidOf (Nat.le_trans HN3.out ha.chg.size); clear ha))
  go_upto_region 7 with (first | (go_at_call 79; refine (C5.out _ _ _ A4.out.own HN4.out).mono ?_; rintro e x5 ⟨b5, d5, rfl, ha⟩; have A5 := hidOf (A4.out.trans ha); have HN5 := hidOf (Nat.le_trans HN4.out ha.chg.size); clear ha))
  go_upto_region 8 with (first | (go_at_call 79; refine (C6.out _ _ _ A5.out.own HN5.out).mono ?_; rintro e x6 ⟨b6, d6, rfl, ha⟩; have A6 := hidOf (A5.out.trans ha); have HN6 := hidOf (Nat.le_trans HN5.out ha.chg.size); clear ha))
  go_upto_region 9 with (first | (go_at_call 79; refine (C7.out _ _ _ A6.out.own HN6.out).mono ?_; rintro e x7 ⟨b7, d7, rfl, ha⟩; have A7 := hidOf (A6.out.trans ha); have HN7 := hidOf (Nat.le_trans HN6.out ha.chg.size); clear ha))
  go_upto_region 10 with (first | (go_at_call 79; refine (C8.out _ _ _ A7.out.own HN7.out).mono ?_; rintro e x8 ⟨b8, d8, rfl, ha⟩; have A8 := hidOf (A7.out.trans ha); have HN8 := hidOf (Nat.le_trans HN7.out ha.chg.size); clear ha))
  go_upto_region 11 with (first | (go_at_call 79; refine (C9.out _ _ _ A8.out.own HN8.out).mono ?_; rintro e x9 ⟨b9, d9, rfl, ha⟩; have A9 := hidOf (A8.out.trans ha); have HN9 := hidOf (Nat.le_trans HN8.out ha.chg.size); clear ha))
  go_upto_region 12 with (first | (go_at_call 79; refine (C10.out _ _ _ A9.out.own HN9.out).mono ?_; rintro e x10 ⟨b10, d10, rfl, ha⟩; have A10 := hidOf (A9.out.trans ha); have HN10 := hidOf (Nat.le_trans HN9.out ha.chg.size); clear ha))
  go_upto_region 13 with (first | (go_at_call 79; refine (C11.out _ _ _ A10.out.own HN10.out).mono ?_; rintro e x11 ⟨b11, d11, rfl, ha⟩; have A11 := hidOf (A10.out.trans ha); have HN11 := hidOf (Nat.le_trans HN10.out ha.chg.size); clear ha))
  go_wp2_with (first | (go_at_call 79; refine (C12.out _ _ _ A11.out.own HN11.out).mono ?_; rintro e x12 ⟨b12, d12, rfl, ha⟩; have A12 := hidOf (A11.out.trans ha); have HN12 := hidOf (Nat.le_trans HN11.out ha.chg.size); clear ha))
  go_ret
  rw [HRR.out]
  have h := A12.out.own
  rw [HNN.out] at h
  exact ⟨_, _, rfl, h, Chg.out A12.out.chg HO0.out (fun k hk => by simp [Value.ownBlock] at hk; omega)⟩
end Go.Proofs.Ytlfcjbeldnkkoaa
