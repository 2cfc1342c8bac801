import Derived.Test.YtfhmhdhaibmcfaaDoorEv
import Derived.Test.YtfhmhdhaibmcfaaDoorEn
import Derived.Test.YtfhmhdhaibmcfaaDoorEk
import Derived.Lib.SmallJoins
namespace Go.Proofs.YtfhmhdhaibmcfaaDoor
open Go.RowKit
set_option linter.unusedVariables false
set_option linter.unusedSimpArgs false
/-- what the calls lean on -/
def LEnv (w : World) : Prop := Env w.heap.size w ∧ Pow w
theorem LEnv.out {w w' : World} (h : LEnv w) (o : Out w w') : LEnv w' := ⟨(h.1.below o).le o.size, h.2.out o⟩
theorem tkV_get (T : List Tk) : ∀ (k : Nat) (x : Tk) (i : Nat), T[k]? = some x → i < 4 → (tkV T)[k * 4 + i]? = x.cs[i]? := by
  induction T with
  | nil => intro k x i h; simp at h
  | cons y r ih =>
    intro k x i h hi
    have hy : y.cs.length = 4 := rfl
    cases k with
    | zero =>
      have : y = x := by simpa using h
      subst this
      show (y.cs ++ tkV r)[0 * 4 + i]? = _
      rw [List.getElem?_append_left (by omega)]
      simp
    | succ k =>
      show (y.cs ++ tkV r)[(k + 1) * 4 + i]? = _
      rw [List.getElem?_append_right (by omega), show (k + 1) * 4 + i - y.cs.length = k * 4 + i by omega]
      exact ih k x i (by simpa using h) hi
/-- tokens of the call's own, as a slice -/
theorem owns_tks {B : Nat} {w : World} {v : Value} {T : List Tk} (h : w.ownsRow B 36 4 v T.length (tkV T)) : ∃ a cp, v = .slice a T.length cp ∧ T.length ≤ cp ∧ TksAt w a T := by
  rcases h.2 with ⟨hv, hn⟩ | ⟨g, cap, cur, hv, hb, hg, hc, _⟩
  · exact ⟨none, 0, by rw [hv, hn], by omega, .inl (List.length_eq_zero_iff.1 hn)⟩
  · refine ⟨_, _, hv, hc, .inr ⟨g, 0, rfl, fun k x hx => ?_⟩⟩
    have key : ∀ i, i < 4 → w.cell? ⟨g, 0 + k * 4 + i, none⟩ = x.cs[i]? := fun i hi => by
      obtain ⟨u, hu⟩ : ∃ u, x.cs[i]? = some u := ⟨_, List.getElem?_eq_getElem (by show i < 4; exact hi)⟩
      have h1 := h.cells (g := g) (by rw [hv]; rfl) (k * 4 + i) u (by rw [tkV_get T k x i hx hi, hu])
      rw [hu, ← h1, Go.WideShapes.add_plain, Nat.add_assoc]
    exact ⟨key 0 (by omega), key 1 (by omega), key 2 (by omega), key 3 (by omega)⟩
def TokC (w : World) (a : Option Addr) (cap : Nat) (l : List UInt8) : Prop := Calls Tryd.prog 15 #[.slice a l.length cap] w fun e w' => ∃ b cp, e = .returned (.tuple #[.slice b (tokensP l).1.length cp, .int .i64 (tokensP l).2.1, .int .i64 (tokensP l).2.2]) ∧ (tokensP l).1.length ≤ cp ∧ TksAt w' b (tokensP l).1 ∧ Out w w'
theorem tokC (w : World) (hE : LEnv w) (a : Option Addr) (cap : Nat) (l : List UInt8) (hr : RestAt w.heap.size w a l) (hcap : l.length ≤ cap) (hll : l.length ≤ 140737488355328) : TokC w a cap l :=
  (tokens_any valC cutC w hE.1 a cap l hr hcap hll).mono fun e w' ⟨v, he, ho, hw⟩ => by
    obtain ⟨b, cp, rfl, hc, ht⟩ := owns_tks ho
    exact ⟨b, cp, he, hc, ht, hw⟩
theorem tk_nil : tokensP [] = ([⟨0, [], 0, 0⟩], 0, 0) := rfl
theorem tk_a31 : tokensP [97, 32, 51, 49] = ([⟨1, [97], 0, 1⟩, ⟨3, [], 31, 1⟩, ⟨5, [], 0, 1⟩, ⟨0, [], 0, 1⟩], 0, 0) := by kernel_rfl
theorem un_nil : untokP [] = ([], 52) := rfl
theorem TksAt.at {w : World} {a : Option Addr} {ts : List Tk} (h : TksAt w a ts) (hne : ¬ ts = []) : ∃ b off, a = some ⟨b, off, none⟩ ∧ ∀ k x, ts[k]? = some x → w.cell? ⟨b, off + k * 4, none⟩ = some (.int .i64 x.k) ∧ w.cell? ⟨b, off + k * 4 + 1, none⟩ = some (.string ⟨x.t.toArray⟩) ∧ w.cell? ⟨b, off + k * 4 + 2, none⟩ = some (.int .u64 x.n) ∧ w.cell? ⟨b, off + k * 4 + 3, none⟩ = some (.int .i64 x.l) := by
  rcases h with h | h
  · exact absurd h hne
  · exact h
set_option maxRecDepth 20000 in
set_option maxHeartbeats 4000000 in
theorem awake_any (w : World) (hE : LEnv w) : Calls Tryd.prog 11 #[] w fun e w' => e = .returned (.bool true) ∧ Out w w' := by
  have C1 := hidOf (tokC w hE none 0 [] (.inl rfl) (by simp) (by simp))
  have C2 : Hid (∀ wx, Out w wx → Calls Tryd.prog 20 #[.slice none 0 0] wx fun e w' => e = .returned (.tuple #[.string ⟨#[]⟩, .int .i64 52]) ∧ Out wx w') := fun wx ho => untoken_any wx (hE.out ho).2 none 0 [] (.inl rfl) (by simp) (fun x hx => by cases hx)
  have C3 : Hid (∀ wx, Out w wx → TokC (wx.alloc (.cells #[.int .u8 97, .int .u8 32, .int .u8 51, .int .u8 49] 5 (4, 5))) (some ⟨wx.heap.size, 0, none⟩) 4 [97, 32, 51, 49]) := fun wx ho => tokC _ (hE.out (ho.alloc _)) _ 4 [97, 32, 51, 49] (.inr ⟨wx.heap.size, 0, by rw [size_alloc]; omega, rfl, fun k x hx => by
    rw [World.cell?_alloc_mark, Nat.zero_add]
    match k, hx with
    | 0, hx => have : 97 = x := by simpa using hx
               subst this; rfl
    | 1, hx => have : 32 = x := by simpa using hx
               subst this; rfl
    | 2, hx => have : 51 = x := by simpa using hx
               subst this; rfl
    | 3, hx => have : 49 = x := by simpa using hx
               subst this; rfl
    | k + 4, hx => simp at hx⟩) (by simp) (by simp)
  unfold TokC at C1 C3
  rw [tk_nil] at C1
  rw [tk_a31] at C3
  simp only [List.length_cons, List.length_nil] at C1 C3
  go_enter Tryd.func11, Tryd.ntmps11
  go_upto_region 2 with (go_at_call 15; refine C1.out.mono ?_; rintro e w1 ⟨b, cp, rfl, hc, ht, ho⟩; have T1 := hidOf ht; have O1 := hidOf ho; clear ht ho)
  go_upto_region 3 with (go_at_call 20; refine (C2.out w1 O1.out).mono ?_; rintro e w2 ⟨rfl, ho⟩; have O2 := hidOf (Out.trans O1.out ho); have T2 := hidOf (T1.out.out ho); clear ho)
  obtain ⟨b1, o1, rfl, hc1⟩ := T2.out.at (by simp)
  obtain ⟨q0, q1, q2, q3⟩ := hc1 0 ⟨0, [], 0, 0⟩ rfl
  simp only [Nat.zero_mul, Nat.add_zero] at q0 q1 q2 q3
  clear hc1
  go_upto_region 5 with fail
  clear q0 q1 q2 q3 T1 T2
  have hcv := Lib.run_convert_bytes_const (P := Tryd.prog) w2 22 5 #[.int .u8 97, .int .u8 32, .int .u8 51, .int .u8 49] 4 4 Tryd.underlying22 Tryd.underlying5
  simp only [List.size_toArray, List.length_cons, List.length_nil, Nat.zero_add, Nat.reduceAdd] at hcv
  go_upto_region 6 with (go_at_call 15; refine (C3.out w2 O2.out).mono ?_; rintro e w3 ⟨b3, cp3, rfl, hc3, ht, ho⟩; have T3 := hidOf ht; have O3 := hidOf (Out.trans (O2.out.alloc _) ho); clear ht ho)
  obtain ⟨b4, o4, rfl, hc4⟩ := T3.out.at (by simp)
  obtain ⟨r0, r1, r2, r3⟩ := hc4 0 ⟨1, [97], 0, 1⟩ rfl
  obtain ⟨s0, s1, s2, s3⟩ := hc4 1 ⟨3, [], 31, 1⟩ rfl
  simp only [Nat.zero_mul, Nat.add_zero, Nat.one_mul] at r0 r1 r2 r3 s0 s1 s2 s3
  have s2' : w3.cell? ⟨b4, o4 + 6, none⟩ = some (.int .u64 31) := s2
  have s3' : w3.cell? ⟨b4, o4 + 7, none⟩ = some (.int .i64 1) := s3
  clear hc4 T3
  go_wp2
  go_ret
  exact ⟨rfl, O3.out⟩
end Go.Proofs.YtfhmhdhaibmcfaaDoor
