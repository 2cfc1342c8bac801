import Derived.Test.YtmpbdakmmelmgaaGa25
import Derived.Test.YtmpbdakmmelmgaaGa12
import Derived.Deep.AppendLies
namespace Go.Proofs.Ytmpbdakmmelmgaa
open Go.RowKit
open Go.Maps (Keyed)
set_option linter.unusedVariables false
set_option linter.unusedSimpArgs false
theorem nameOk_zero {x : List UInt8} {k : Nat} (h : x[k]? = some 0) : nameOk x = false := by
  have : (0 : UInt8) ∈ x := List.mem_of_getElem? h
  unfold nameOk
  simp [this]
theorem nameOk_none {x : List UInt8} (h : ∀ b ∈ x, ¬ b = 0) : nameOk x = (decide (1 ≤ x.length) && decide (x.length ≤ 64)) := by
  have h0 : ¬ (0 : UInt8) ∈ x := fun hm => h 0 hm rfl
  unfold nameOk
  cases x with
  | nil => simp
  | cons y r => simp at h0 ⊢; simp [h0]
theorem u8_zero {b : UInt8} : ((b.toNat : Int) == 0) = decide (b = 0) := by
  by_cases h : b = 0
  · subst h; rfl
  · have : ¬ b.toNat = 0 := fun e => h (UInt8.toNat_inj.1 e)
    simp [h]; omega
theorem namedS_any (s : ByteArray) (w : World) (hs : s.size ≤ 4611686018427387904) : Calls Try.prog 94 #[.string s] w fun e w' => e = .returned (.bool (nameOk s.toList)) ∧ w = w' := by
  have HZ : Hid (∀ k : Nat, s.toList[k]? = some 0 → nameOk s.toList = false) := hidOf (fun k h => nameOk_zero h)
  have HN : Hid ((∀ b ∈ s.toList, ¬ b = 0) → nameOk s.toList = (decide (1 ≤ s.size) && decide (s.size ≤ 64))) := hidOf (fun h => by rw [nameOk_none h, lsize])
  go_enter Try.func94, Try.ntmps94
  go_wp2
  go_loopw [3] (fun nv wr => ∃ k : Nat, k ≤ s.size ∧ nv = .int .i64 k ∧ Hid (∀ b ∈ s.toList.take k, ¬ b = 0) ∧ wr = w) (fun nv _ => s.size - (intOf nv).toNat)
  case atStart => exact ⟨0, by omega, rfl, hidOf (by simp), rfl⟩
  case round =>
    obtain ⟨k, hk2, rfl, Ha, rfl⟩ := hrel
    by_cases hk : k < s.size
    · have hlt : (k : Int) < s.size := by omega
      have h0k : (0 : Int) ≤ k := by omega
      have Hg := hidOf (lget s k hk)
      have hz := u8_zero (b := s[k])
      by_cases hb : s[k] = 0
      · rw [decide_eq_true hb] at hz
        have Hfin := hidOf (HZ.out k (by rw [Hg.out, hb]))
        clear hb
        go_wp2
        go_ret
        exact ⟨by rw [Hfin.out]; rfl, rfl⟩
      · rw [decide_eq_false hb] at hz
        have Hb := hidOf hb
        clear hb
        go_wp2
        go_roundw
        case rel =>
          refine ⟨k + 1, by omega, by simp, hidOf ?_, trivial⟩
          rw [take_snoc Hg.out]
          intro b hm
          rcases List.mem_append.1 hm with hm | hm
          · exact Ha.out b hm
          · simp at hm; rw [hm]; exact Hb.out
        case measure => simp [intOf]; omega
    · have hlt : ¬ (k : Int) < s.size := by omega
      have hks : k = s.toList.length := by rw [lsize]; omega
      rw [hks, List.take_length] at Ha
      have Hfin := hidOf (HN.out Ha.out)
      clear hks
      go_wp2
      all_goals (go_ret; refine ret_bool ?_; rw [Hfin.out, Bool.eq_iff_iff]; simp; omega)
theorem named_any (x : List UInt8) (w : World) (hs : x.length ≤ 1000000000000) : Calls Try.prog 94 #[.string ⟨x.toArray⟩] w fun e w' => e = .returned (.bool (nameOk x)) ∧ w = w' := by
  have h := namedS_any ⟨x.toArray⟩ w (by rw [mk_size]; omega)
  rw [mk_list] at h
  exact h
/-- the reference's table: its names at an address -/
def RT (w : World) (a : Option Addr) (N : List (List UInt8)) : Prop := StrAt w.heap.size w a N
theorem RT.out {w w' : World} {a : Option Addr} {N : List (List UInt8)} (h : RT w a N) (o : Out w w') : RT w' a N := by
  rcases h with h | ⟨g, off, hg, ha, hc⟩
  · exact .inl h
  · exact .inr ⟨g, off, Nat.lt_of_lt_of_le hg o.size, ha, fun k x hx => (o.cells g _ hg).trans (hc k x hx)⟩
def tabO (a : Option Addr) (n c : Nat) : Obj := .cells #[.slice a n c] 135 (0, 0)
theorem plF_step {N : List (List UInt8)} {k : Nat} {y : List UInt8} (x : List UInt8) (hy : N[k]? = some y) : plF (szF 1 (N.take k)) (N.drop k) x = if y = x then szF 1 (N.take k) else plF (szF 1 (N.take (k + 1))) (N.drop (k + 1)) x := by
  have hk : k < N.length := (List.getElem?_eq_some_iff.1 hy).1
  have hd := List.drop_eq_getElem_cons hk
  have hx' : N[k] = y := by rw [List.getElem?_eq_getElem hk] at hy; exact Option.some.inj hy
  rw [hd, hx', take_snoc hy, szF_snoc]
  rfl
theorem atF_step {N : List (List UInt8)} {k : Nat} {y : List UInt8} (q : Int) (hy : N[k]? = some y) : atF (szF 1 (N.take k)) (N.drop k) q = if (szF 1 (N.take k) : Int) = q then some y else atF (szF 1 (N.take (k + 1))) (N.drop (k + 1)) q := by
  have hk : k < N.length := (List.getElem?_eq_some_iff.1 hy).1
  have hd := List.drop_eq_getElem_cons hk
  have hx' : N[k] = y := by rw [List.getElem?_eq_getElem hk] at hy; exact Option.some.inj hy
  rw [hd, hx', take_snoc hy, szF_snoc]
  rfl
theorem place_any (a : Option Addr) (c : Nat) (N : List (List UInt8)) (x : List UInt8) (w : World) (h : RT w a N) (hc : N.length ≤ c) (hb : szF 1 N ≤ 1000000000000) : Calls Try.prog 95 #[.agg #[.slice a N.length c], .string ⟨x.toArray⟩] w fun e w' => e = .returned (.int .i64 (plF 1 N x : Nat)) ∧ Out w w' := by
  have Ho : Hid (Out w (w.alloc (tabO a N.length c))) := (Out.refl w).alloc _
  have hn := szF_ge N 1
  have hnI : (N.length : Int) ≤ 1000000000000 := by omega
  have hcI : (N.length : Int) ≤ c := by omega
  have H := hidOf (h.out ((Out.refl w).alloc (tabO a N.length c)))
  have Hb := hidOf hb
  have c0 : (w.alloc (tabO a N.length c)).cell? ⟨w.heap.size, 0, none⟩ = some (.slice a N.length c) := cell_fresh _ _ _ _ _ rfl
  clear h hb
  go_enter Try.func95, Try.ntmps95
  go_wp2
  show Code.wp _ _ _ _ (w.alloc (tabO a N.length c))
  generalize w.alloc (tabO a N.length c) = w1 at *
  generalize w.heap.size = p at *
  go_loopw [5, 6] (fun av iv wr => ∃ k s : Nat, av = .int .i64 s ∧ iv = .int .i64 k ∧ k ≤ N.length ∧ s ≤ 1000000000000 ∧ Hid (s = szF 1 (N.take k)) ∧ Hid (plF 1 N x = plF s (N.drop k) x) ∧ wr = w1) (fun _ iv _ => N.length - (intOf iv).toNat)
  case atStart => exact ⟨0, 1, rfl, rfl, by omega, by omega, hidOf rfl, hidOf rfl, rfl⟩
  case round =>
    obtain ⟨k, s, rfl, rfl, hk, hs, HS, HP, rfl⟩ := hrel
    by_cases hkN : k < N.length
    · have hlt : (k : Int) < N.length := by omega
      have h0 : (0 : Int) ≤ k := by omega
      obtain ⟨y, hy⟩ : ∃ y, N[k]? = some y := ⟨_, List.getElem?_eq_getElem hkN⟩
      obtain ⟨b, off, rfl, hb, d⟩ := StrAt.get H.out hy
      have hsz : (⟨y.toArray⟩ : ByteArray).size = y.length := mk_size y
      have hst := plF_step x hy
      rw [← HS.out] at hst
      have hlen : szF 1 (N.take (k + 1)) = s + y.length + 1 := by rw [take_snoc hy, szF_snoc, ← HS.out]
      have hle := szF_take N (k + 1)
      have hyl : s + y.length + 1 ≤ 1000000000000 := by have := Hb.out; omega
      have hylI : (s : Int) + y.length + 1 ≤ 1000000000000 := by omega
      have Hst := hidOf hst
      have Hlen := hidOf hlen
      clear hst hlen hle hy hb
      by_cases e : y = x
      · have e' := hidOf e
        have ee : (y == x) = true := by simpa using e
        clear e
        go_wp2
        go_ret
        exact ⟨by rw [HP.out, Hst.out, if_pos e'.out]; rfl, Ho.out⟩
      · have e' := hidOf e
        have ee : (y == x) = false := by simpa using e
        clear e
        go_wp2
        go_roundw
        case rel => exact ⟨k + 1, s + y.length + 1, rfl, by simp, by omega, hyl, hidOf Hlen.out.symm, hidOf (by rw [HP.out, Hst.out, if_neg e'.out, Hlen.out]), trivial⟩
        case measure => simp [intOf]; omega
    · have hlt : ¬ (k : Int) < N.length := by omega
      obtain rfl : k = N.length := by omega
      rw [List.drop_length] at HP
      go_wp2
      go_ret
      exact ⟨by rw [HP.out]; rfl, Ho.out⟩
def atV (r : Option (List UInt8)) : Array Value := match r with | some x => #[.string ⟨x.toArray⟩, .int .i64 0] | none => #[.string ⟨#[]⟩, .int .i64 81]
end Go.Proofs.Ytmpbdakmmelmgaa
namespace Go.Proofs.Ytmpbdakmmelmgaa
open Go.RowKit
set_option linter.unusedVariables false
set_option linter.unusedSimpArgs false
/-- bytes that were appended to: what was told of the list, which blocks turned -/
structure AppB (N : Nat) (w w' : World) (v v' : Value) (R : List UInt8) : Prop where
  own : OwB N v' R w'
  chg : Chg (fun b => v.ownBlock = some b) w w'
  blk : ∀ b, v'.ownBlock = some b → v.ownBlock = some b ∨ w.heap.size ≤ b
theorem AppB.refl {N : Nat} {w : World} {v : Value} {O : List UInt8} (h : OwB N v O w) : AppB N w w v v O := ⟨h, Chg.refl _ _, fun b hb => .inl hb⟩
theorem AppB.trans {N : Nat} {w w1 w2 : World} {v v1 v2 : Value} {P R : List UInt8} (h : AppB N w w1 v v1 P) (k : AppB N w1 w2 v1 v2 R) : AppB N w w2 v v2 R :=
  ⟨k.own, h.chg.trans k.chg (fun b hb hlt => (h.blk b hb).resolve_right (by omega)), fun b hb => by
    rcases k.blk b hb with e | e
    · exact h.blk b e
    · have := h.chg.size; exact .inr (by omega)⟩
theorem AppB.step {N g c n : Nat} {w X : World} {O : Obj} {w' : World} {v v1 : Value} {P R : List UInt8} (h : AppB N w X v v1 P) (hg : (X.alloc O).grownBy w' v1.ownBlock) (hown : w'.ownsRow N 5 1 (.slice (some ⟨g, 0, none⟩) n c) n (Lib.byteCells R)) (hl : R.length = n) (hb : v1.ownBlock = some g ∨ g = (X.alloc O).heap.size) : AppB N w w' v (.slice (some ⟨g, 0, none⟩) n c) R := by
  refine h.trans ⟨by subst hl; exact hown, ?_, fun b e => ?_⟩
  · exact (Chg.of_out (S := fun b => v1.ownBlock = some b) ((Out.refl X).alloc O)).trans (Chg.of_grown hg (fun k h => h)) (fun b hb _ => hb)
  · simp [Value.ownBlock] at e
    subst e
    rcases hb with hb | hb
    · exact .inl hb
    · right; rw [hb, size_alloc]; omega
set_option maxRecDepth 8000 in
set_option maxHeartbeats 1000000 in
theorem num9_any (N : Nat) (w : World) (ba : Option Addr) (bc : Nat) (O R : List UInt8) (n wd : Nat) (hR : R = O ++ leB n wd) (hb : OwB N (.slice ba O.length bc) O w) (hN : N ≤ w.heap.size) (hw : wd ≤ 8) (hl : O.length + wd ≤ 140737488355328) (hn : n ≤ 9223372036854775807) :
    Calls Try.prog 75 #[.slice ba O.length bc, .int .i64 (n : Int), .int .i64 (wd : Int)] w fun e w' => ∃ a c, e = .returned (.slice a R.length c) ∧ AppB N w w' (.slice ba O.length bc) (.slice a R.length c) R := by
  have HR := hidOf hR
  clear hR
  obtain ⟨i0, hi, hz0, hz1, hz2⟩ := info_parts infoB
  have HB := hidOf hb
  clear hb
  go_enter Try.func75, Try.ntmps75
  go_wp2
  go_loopw [7, 0] (fun kv bv wr => ∃ (k : Nat) (P : List UInt8) (a : Option Addr) (c : Nat), kv = .int .i64 k ∧ bv = .slice a P.length c ∧ k ≤ wd ∧ Hid (P = O ++ leB n k) ∧ Hid (AppB N w wr (.slice ba O.length bc) (.slice a P.length c) P)) (fun kv _ _ => wd - (intOf kv).toNat)
  case atStart => exact ⟨0, O, ba, bc, rfl, rfl, by omega, hidOf (by simp [leB]), AppB.refl HB.out⟩
  case round =>
    obtain ⟨k, P, a, c, rfl, rfl, hk, HP, HO⟩ := hrel
    by_cases hkw : k < wd
    · have hklt : (k : Int) < wd := by omega
      have hk0 : (0 : Int) ≤ k := by omega
      have hx0 : (0 : Int) ≤ n := by omega
      have hPl : P.length + 1 ≤ 140737488355328 := by rw [HP.out, List.length_append, leB_len]; omega
      have hNk : N ≤ wr.heap.size := Nat.le_trans hN HO.out.chg.size
      have FIN : Hid (∀ (z : Int) g4 c4 w4 O', z = ((n / 256 ^ k % 256 : Nat) : Int) → w4.ownsRow N 5 1 (.slice (some ⟨g4, 0, none⟩) (P.length + 1) c4) (P.length + 1) (Lib.byteCells P ++ [.int .u8 z]) → (wr.alloc O').grownBy w4 (Value.slice a P.length c).ownBlock → ((Value.slice a P.length c).ownBlock = some g4 ∨ g4 = (wr.alloc O').heap.size) → AppB N w w4 (.slice ba O.length bc) (.slice (some ⟨g4, 0, none⟩) (O ++ leB n (k + 1)).length c4) (O ++ leB n (k + 1))) := hidOf (fun z g4 c4 w4 O' hz h4 hg hb => by
        have e2 : O ++ leB n (k + 1) = P ++ [UInt8.ofNat (n / 256 ^ k % 256)] := by rw [leB_snoc, ← List.append_assoc, ← HP.out]
        have e3 : (O ++ leB n (k + 1)).length = P.length + 1 := by rw [e2]; simp
        rw [e3]
        refine HO.out.step hg ?_ e3 hb
        rw [e2, bc_app]
        have e4 : Lib.byteCells [UInt8.ofNat (n / 256 ^ k % 256)] = [Value.int .u8 z] := by
          rw [hz]
          simp only [Lib.byteCells, List.map_cons, List.map_nil]
          rw [UInt8.toNat_ofNat_of_lt' (by simp [UInt8.size]; omega)]
        rw [e4]; exact h4)
      have HE3 : Hid ((O ++ leB n (k + 1)).length = P.length + 1) := hidOf (by rw [HP.out]; simp [leB_len]; omega)
      obtain rfl | rfl | rfl | rfl | rfl | rfl | rfl | rfl : k = 0 ∨ k = 1 ∨ k = 2 ∨ k = 3 ∨ k = 4 ∨ k = 5 ∨ k = 6 ∨ k = 7 := by omega
      all_goals
        go_wp2_with (at_builtin; go_loud (refine wpList_append_lies _ rfl (.tmp 13) (.tmp 19) 36 rfl N 5 i0 _ 1 1 Try.underlying36 hi hz0 hz1 hz2 rfl (by decide) (.slice a P.length c) P.length (Lib.byteCells P) rfl (World.ownsRow.alloc HO.out.own _) ⟨wr.heap.size, 0, none⟩ 1 1 [_] rfl rfl (news_new wr _ _ _ rfl) (fun u hu => by rw [List.mem_singleton.1 hu]; rfl) (by decide) (by unfold maxLen; omega) (by omega) (by rw [size_alloc]; omega) _ rfl ?_); intro g4 c4 w4 hown4 hgrow4 hg4 _; have HO4 := hidOf hown4; have Hg4 := hidOf hgrow4; have Hb4 := hidOf hg4; clear hgrow4 hown4 hg4)
        refine ⟨⟨_, O ++ leB n (_ + 1), some ⟨g4, 0, none⟩, c4, ?_, by rw [HE3.out], by omega, hidOf rfl, FIN.out _ g4 c4 w4 _ ?_ HO4.out Hg4.out Hb4.out⟩, by simp [intOf]; omega⟩
        · rfl
        · omega
    · have hklt : ¬ (k : Int) < wd := by omega
      obtain rfl : k = wd := by omega
      go_wp2
      go_ret
      have e : R = P := HR.out.trans HP.out.symm
      rw [e]
      exact ⟨a, c, rfl, HO.out⟩
set_option maxRecDepth 8000 in
set_option maxHeartbeats 1000000 in
theorem padded_any (N : Nat) (w : World) (ba : Option Addr) (bc : Nat) (O R : List UInt8) (hR : R = padB O) (hb : OwB N (.slice ba O.length bc) O w) (hN : N ≤ w.heap.size) (hl : O.length + 8 ≤ 140737488355328) :
    Calls Try.prog 44 #[.slice ba O.length bc] w fun e w' => ∃ a c, e = .returned (.slice a R.length c) ∧ AppB N w w' (.slice ba O.length bc) (.slice a R.length c) R := by
  have HR := hidOf hR
  clear hR
  obtain ⟨i0, hi, hz0, hz1, hz2⟩ := info_parts infoB
  have HB := hidOf hb
  clear hb
  go_enter Try.func44, Try.ntmps44
  go_wp2
  go_loopw [0] (fun bv wr => ∃ (k : Nat) (P : List UInt8) (a : Option Addr) (c : Nat), bv = .slice a P.length c ∧ Hid (P = O ++ List.replicate k 0) ∧ O.length + k ≤ up8 O.length ∧ Hid (AppB N w wr (.slice ba O.length bc) (.slice a P.length c) P)) (fun bv _ => up8 O.length - (match bv with | .slice _ n _ => n | _ => 0))
  case atStart => exact ⟨0, O, ba, bc, rfl, hidOf (by simp), by have := up8_ge O.length; omega, AppB.refl HB.out⟩
  case round =>
    obtain ⟨k, P, a, c, rfl, HP, hk, HO⟩ := hrel
    have hPe : P.length = O.length + k := by rw [HP.out]; simp
    have hu := up8_ge O.length
    have hNk : N ≤ wr.heap.size := Nat.le_trans hN HO.out.chg.size
    by_cases h8 : P.length % 8 = 0
    · have h8I : ((P.length : Int)).tmod 8 = 0 := by rw [Int.tmod_eq_emod_of_nonneg (by omega)]; omega
      have h8J : (P.length : Int) % 8 = 0 := by omega
      have hke : k = up8 O.length - O.length := by unfold up8 at *; omega
      go_wp2
      go_ret
      have e : R = P := by rw [HR.out, HP.out, hke]; rfl
      rw [e]
      exact ⟨a, c, rfl, HO.out⟩
    · obtain ⟨z, hz⟩ : ∃ z, z = (P.length : Int) % 8 := ⟨_, rfl⟩
      have h8I : ((P.length : Int)).tmod 8 = z := by rw [Int.tmod_eq_emod_of_nonneg (by omega), hz]
      have h8J : ¬ z = 0 := by omega
      have hlt : O.length + k < up8 O.length := by unfold up8 at *; omega
      have hPl : P.length + 1 ≤ 140737488355328 := by omega
      clear hz
      go_wp2_with (at_builtin; go_loud (refine wpList_append_lies _ rfl (.tmp 7) (.tmp 8) 36 rfl N 5 i0 _ 1 1 Try.underlying36 hi hz0 hz1 hz2 rfl (by decide) (.slice a P.length c) P.length (Lib.byteCells P) rfl (World.ownsRow.alloc HO.out.own _) ⟨wr.heap.size, 0, none⟩ 1 1 [.int .u8 0] rfl rfl (news_new wr _ _ _ rfl) (fun u hu => by rw [List.mem_singleton.1 hu]; rfl) (by decide) (by unfold maxLen; omega) (by omega) (by rw [size_alloc]; omega) _ rfl ?_); intro g4 c4 w4 hown4 hgrow4 hg4 _; have HO4 := hidOf hown4; have Hg4 := hidOf hgrow4; have Hb4 := hidOf hg4; clear hgrow4 hown4 hg4)
      go_roundw
      case rel =>
        have e2 : O ++ List.replicate (k + 1) (0 : UInt8) = P ++ [0] := by rw [HP.out, List.replicate_succ']; simp
        have e3 : (P ++ [(0 : UInt8)]).length = P.length + 1 := by simp
        refine ⟨k + 1, P ++ [0], some ⟨g4, 0, none⟩, c4, by rw [e3, hPe], hidOf e2.symm, by omega, ?_⟩
        rw [e3]
        refine hidOf (HO.out.step Hg4.out ?_ e3 Hb4.out)
        rw [bc_app]
        exact HO4.out
      case measure => simp; omega
end Go.Proofs.Ytmpbdakmmelmgaa
