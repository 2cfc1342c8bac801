import Derived.Test.YtfmcoffmgdcciaaDoorAl
namespace Go.Proofs.YtfmcoffmgdcciaaDoor
open Go.RowKit
open Go.Maps (Keyed)
set_option linter.unusedVariables false
set_option linter.unusedSimpArgs false
theorem nameOk_zero {x : List UInt8} {k : Nat} (h : x[k]? = some 0) : nameOk x = false := by
  have : (0 : UInt8) ∈ x := List.mem_of_getElem? h
  unfold nameOk
  simp [this]
theorem nameOk_none {x : List UInt8} (h : ∀ b ∈ x, ¬ b = 0) : nameOk x = (decide (1 ≤ x.length) && decide (x.length ≤ 64)) := by
  have h0 : ¬ (0 : UInt8) ∈ x := fun hm => h 0 hm rfl
  unfold nameOk
  cases x with
  | nil => simp
  | cons y r => simp at h0 ⊢; simp [h0]
theorem u8_zero {b : UInt8} : ((b.toNat : Int) == 0) = decide (b = 0) := by
  by_cases h : b = 0
  · subst h; rfl
  · have : ¬ b.toNat = 0 := fun e => h (UInt8.toNat_inj.1 e)
    simp [h]; omega
theorem namedS_any (s : ByteArray) (w : World) (hs : s.size ≤ 4611686018427387904) : Calls Tryd.prog 70 #[.string s] w fun e w' => e = .returned (.bool (nameOk s.toList)) ∧ w = w' := by
  have HZ : Hid (∀ k : Nat, s.toList[k]? = some 0 → nameOk s.toList = false) := hidOf (fun k h => nameOk_zero h)
  have HN : Hid ((∀ b ∈ s.toList, ¬ b = 0) → nameOk s.toList = (decide (1 ≤ s.size) && decide (s.size ≤ 64))) := hidOf (fun h => by rw [nameOk_none h, lsize])
  go_enter Tryd.func70, Tryd.ntmps70
  go_wp2
  go_loopw [3] (fun nv wr => ∃ k : Nat, k ≤ s.size ∧ nv = .int .i64 k ∧ Hid (∀ b ∈ s.toList.take k, ¬ b = 0) ∧ wr = w) (fun nv _ => s.size - (intOf nv).toNat)
  case atStart => exact ⟨0, by omega, rfl, hidOf (by simp), rfl⟩
  case round =>
    obtain ⟨k, hk2, rfl, Ha, rfl⟩ := hrel
    by_cases hk : k < s.size
    · have hlt : (k : Int) < s.size := by omega
      have h0k : (0 : Int) ≤ k := by omega
      have Hg := hidOf (lget s k hk)
      have hz := u8_zero (b := s[k])
      by_cases hb : s[k] = 0
      · rw [decide_eq_true hb] at hz
        have Hfin := hidOf (HZ.out k (by rw [Hg.out, hb]))
        clear hb
        go_wp2
        go_ret
        exact ⟨by rw [Hfin.out]; rfl, rfl⟩
      · rw [decide_eq_false hb] at hz
        have Hb := hidOf hb
        clear hb
        go_wp2
        go_roundw
        case rel =>
          refine ⟨k + 1, by omega, by simp, hidOf ?_, trivial⟩
          rw [take_snoc Hg.out]
          intro b hm
          rcases List.mem_append.1 hm with hm | hm
          · exact Ha.out b hm
          · simp at hm; rw [hm]; exact Hb.out
        case measure => simp [intOf]; omega
    · have hlt : ¬ (k : Int) < s.size := by omega
      have hks : k = s.toList.length := by rw [lsize]; omega
      rw [hks, List.take_length] at Ha
      have Hfin := hidOf (HN.out Ha.out)
      clear hks
      go_wp2
      all_goals (go_ret; refine ret_bool ?_; rw [Hfin.out, Bool.eq_iff_iff]; simp; omega)
theorem named_any (x : List UInt8) (w : World) (hs : x.length ≤ 1000000000000) : Calls Tryd.prog 70 #[.string ⟨x.toArray⟩] w fun e w' => e = .returned (.bool (nameOk x)) ∧ w = w' := by
  have h := namedS_any ⟨x.toArray⟩ w (by rw [mk_size]; omega)
  rw [mk_list] at h
  exact h
/-- the reference's table: its names at an address -/
def RT (w : World) (a : Option Addr) (N : List (List UInt8)) : Prop := StrAt w.heap.size w a N
theorem RT.out {w w' : World} {a : Option Addr} {N : List (List UInt8)} (h : RT w a N) (o : Out w w') : RT w' a N := by
  rcases h with h | ⟨g, off, hg, ha, hc⟩
  · exact .inl h
  · exact .inr ⟨g, off, Nat.lt_of_lt_of_le hg o.size, ha, fun k x hx => (o.cells g _ hg).trans (hc k x hx)⟩
def tabO (a : Option Addr) (n c : Nat) : Obj := .cells #[.slice a n c] 70 (0, 0)
theorem plF_step {N : List (List UInt8)} {k : Nat} {y : List UInt8} (x : List UInt8) (hy : N[k]? = some y) : plF (szF 1 (N.take k)) (N.drop k) x = if y = x then szF 1 (N.take k) else plF (szF 1 (N.take (k + 1))) (N.drop (k + 1)) x := by
  have hk : k < N.length := (List.getElem?_eq_some_iff.1 hy).1
  have hd := List.drop_eq_getElem_cons hk
  have hx' : N[k] = y := by rw [List.getElem?_eq_getElem hk] at hy; exact Option.some.inj hy
  rw [hd, hx', take_snoc hy, szF_snoc]
  rfl
theorem atF_step {N : List (List UInt8)} {k : Nat} {y : List UInt8} (q : Int) (hy : N[k]? = some y) : atF (szF 1 (N.take k)) (N.drop k) q = if (szF 1 (N.take k) : Int) = q then some y else atF (szF 1 (N.take (k + 1))) (N.drop (k + 1)) q := by
  have hk : k < N.length := (List.getElem?_eq_some_iff.1 hy).1
  have hd := List.drop_eq_getElem_cons hk
  have hx' : N[k] = y := by rw [List.getElem?_eq_getElem hk] at hy; exact Option.some.inj hy
  rw [hd, hx', take_snoc hy, szF_snoc]
  rfl
theorem place_any (a : Option Addr) (c : Nat) (N : List (List UInt8)) (x : List UInt8) (w : World) (h : RT w a N) (hc : N.length ≤ c) (hb : szF 1 N ≤ 1000000000000) : Calls Tryd.prog 71 #[.agg #[.slice a N.length c], .string ⟨x.toArray⟩] w fun e w' => e = .returned (.int .i64 (plF 1 N x : Nat)) ∧ Out w w' := by
  have Ho : Hid (Out w (w.alloc (tabO a N.length c))) := (Out.refl w).alloc _
  have hn := szF_ge N 1
  have hnI : (N.length : Int) ≤ 1000000000000 := by omega
  have hcI : (N.length : Int) ≤ c := by omega
  have H := hidOf (h.out ((Out.refl w).alloc (tabO a N.length c)))
  have Hb := hidOf hb
  have c0 : (w.alloc (tabO a N.length c)).cell? ⟨w.heap.size, 0, none⟩ = some (.slice a N.length c) := cell_fresh _ _ _ _ _ rfl
  clear h hb
  go_enter Tryd.func71, Tryd.ntmps71
  go_wp2
  show Code.wp _ _ _ _ (w.alloc (tabO a N.length c))
  generalize w.alloc (tabO a N.length c) = w1 at *
  generalize w.heap.size = p at *
  go_loopw [5, 6] (fun av iv wr => ∃ k s : Nat, av = .int .i64 s ∧ iv = .int .i64 k ∧ k ≤ N.length ∧ s ≤ 1000000000000 ∧ Hid (s = szF 1 (N.take k)) ∧ Hid (plF 1 N x = plF s (N.drop k) x) ∧ wr = w1) (fun _ iv _ => N.length - (intOf iv).toNat)
  case atStart => exact ⟨0, 1, rfl, rfl, by omega, by omega, hidOf rfl, hidOf rfl, rfl⟩
  case round =>
    obtain ⟨k, s, rfl, rfl, hk, hs, HS, HP, rfl⟩ := hrel
    by_cases hkN : k < N.length
    · have hlt : (k : Int) < N.length := by omega
      have h0 : (0 : Int) ≤ k := by omega
      obtain ⟨y, hy⟩ : ∃ y, N[k]? = some y := ⟨_, List.getElem?_eq_getElem hkN⟩
      obtain ⟨b, off, rfl, hb, d⟩ := StrAt.get H.out hy
      have hsz : (⟨y.toArray⟩ : ByteArray).size = y.length := mk_size y
      have hst := plF_step x hy
      rw [← HS.out] at hst
      have hlen : szF 1 (N.take (k + 1)) = s + y.length + 1 := by rw [take_snoc hy, szF_snoc, ← HS.out]
      have hle := szF_take N (k + 1)
      have hyl : s + y.length + 1 ≤ 1000000000000 := by have := Hb.out; omega
      have hylI : (s : Int) + y.length + 1 ≤ 1000000000000 := by omega
      have Hst := hidOf hst
      have Hlen := hidOf hlen
      clear hst hlen hle hy hb
      by_cases e : y = x
      · have e' := hidOf e
        have ee : (y == x) = true := by simpa using e
        clear e
        go_wp2
        go_ret
        exact ⟨by rw [HP.out, Hst.out, if_pos e'.out]; rfl, Ho.out⟩
      · have e' := hidOf e
        have ee : (y == x) = false := by simpa using e
        clear e
        go_wp2
        go_roundw
        case rel => exact ⟨k + 1, s + y.length + 1, rfl, by simp, by omega, hyl, hidOf Hlen.out.symm, hidOf (by rw [HP.out, Hst.out, if_neg e'.out, Hlen.out]), trivial⟩
        case measure => simp [intOf]; omega
    · have hlt : ¬ (k : Int) < N.length := by omega
      obtain rfl : k = N.length := by omega
      rw [List.drop_length] at HP
      go_wp2
      go_ret
      exact ⟨by rw [HP.out]; rfl, Ho.out⟩
def atV (r : Option (List UInt8)) : Array Value := match r with | some x => #[.string ⟨x.toArray⟩, .int .i64 0] | none => #[.string ⟨#[]⟩, .int .i64 81]
end Go.Proofs.YtfmcoffmgdcciaaDoor
