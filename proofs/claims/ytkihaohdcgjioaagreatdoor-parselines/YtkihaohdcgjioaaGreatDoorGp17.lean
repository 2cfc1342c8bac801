import Derived.Test.YtkihaohdcgjioaaGreatDoorGp06
import Derived.Test.YtkihaohdcgjioaaGreatDoorGp01
import Derived.Test.YtkihaohdcgjioaaGreatDoorGp10
import Derived.Test.YtkihaohdcgjioaaGreatDoorGp14
import Derived.Test.YtkihaohdcgjioaaGreatDoorGp11
import Derived.Lib.SmallJoins
import Derived.Test.YtkihaohdcgjioaaGreatDoorRows
import Derived.Test.YtkihaohdcgjioaaGreatDoorGp15
import Derived.WalkKit
import Derived.WalkLawsBesides
import Derived.Outline
import Derived.Deep.QuietTactic
import Derived.BigQuiet
import Derived.Test.YtkihaohdcgjioaaGreatDoorGp16
import Derived.Deep.AppendLies
import Derived.Deep.RegionLaw
import Derived.Deep.RegionHeld3
import Derived.OwnWalk
namespace Go.Proofs.YtkihaohdcgjioaaGreatDoor.Lx
open Go.RowKit
set_option linter.unusedVariables false
set_option linter.unusedSimpArgs false
theorem idx_cut : ∀ l : List UInt8, (∃ i : Nat, Lib.indexByte l 10 = (i : Int) ∧ i < l.length ∧ (cutL l).1 = l.take i ∧ (cutL l).2 = l.drop (i + 1)) ∨ (Lib.indexByte l 10 = -1 ∧ (cutL l).1 = l ∧ (cutL l).2 = [])
  | [] => .inr ⟨rfl, rfl, rfl⟩
  | b :: l => by
    by_cases hb : b = 10
    · subst hb
      exact .inl ⟨0, rfl, by simp, rfl, rfl⟩
    · have hb' : (b == 10) = false := by simpa using hb
      have e1 : (cutL (b :: l)).1 = b :: (cutL l).1 := by simp [cutL, hb']
      have e2 : (cutL (b :: l)).2 = (cutL l).2 := by simp [cutL, hb']
      rcases idx_cut l with ⟨i, h1, h2, h3, h4⟩ | ⟨h1, h3, h4⟩
      · refine .inl ⟨i + 1, ?_, by simp; omega, by rw [e1, h3]; rfl, by rw [e2, h4]; rfl⟩
        unfold Lib.indexByte
        rw [hb', h1]
        have : ((i : Int) == -1) = false := by simp
        rw [this]
        simp
      · refine .inr ⟨?_, by rw [e1, h3], by rw [e2, h4]⟩
        unfold Lib.indexByte
        rw [hb', h1]
        rfl
theorem bytesOf_nat (l : List UInt8) : Lib.bytesOf (l.map (fun b => (b.toNat : Int))) = l := by
  unfold Lib.bytesOf
  rw [List.map_map]
  conv => rhs; rw [← List.map_id l]
  apply List.map_congr_left
  intro b _
  simp
theorem RestAt.take {N : Nat} {w : World} {a : Option Addr} {l : List UInt8} (h : RestAt N w a l) (i : Nat) : RestAt N w a (l.take i) := by
  rcases h with rfl | ⟨b, off, hb, ha, hc⟩
  · exact .inl (by simp)
  · refine .inr ⟨b, off, hb, ha, fun k x hx => ?_⟩
    rw [List.getElem?_take] at hx
    split at hx
    · exact hc k x hx
    · cases hx
theorem RestAt.drop {N : Nat} {w : World} {b off : Nat} {l : List UInt8} (hb : b < N) (hc : ∀ k x, l[k]? = some x → w.cell? ⟨b, off + k, none⟩ = some (.int .u8 (x.toNat : Int))) (i : Nat) : RestAt N w (some ⟨b, off + i, none⟩) (l.drop i) := by
  refine .inr ⟨b, off + i, hb, rfl, fun k x hx => ?_⟩
  rw [List.getElem?_drop] at hx
  rw [Nat.add_assoc]
  exact hc (i + k) x hx
theorem cutC : CutC := by
  intro N l a cap sb w hr hne hcap hl hs
  obtain ⟨b, off, hb, rfl, hc⟩ : ∃ b off, b < N ∧ a = some ⟨b, off, none⟩ ∧ ∀ k x, l[k]? = some x → w.cell? ⟨b, off + k, none⟩ = some (.int .u8 (x.toNat : Int)) := by
    rcases hr with h | h
    · exact absurd h hne
    · exact h
  have hI := Tryz.bytes_Index_one b off l.length cap sb 0 1 (l.map (fun b => (b.toNat : Int))) 10 w (by simp) (fun i hi => by
    rw [hc i l[i] (List.getElem?_eq_getElem hi)]
    simp [List.getD, List.getElem?_eq_getElem hi]) hs
  rw [bytesOf_nat] at hI
  have e10 : (10 : Int).toNat.toUInt8 = 10 := rfl
  rw [e10] at hI
  have hI' := hI.mono fun e w' h => (show _ ∧ ∃ q, w' = w.drewN q from ⟨h.1, 0, h.2⟩)
  rcases idx_cut l with ⟨i, h1, h2, h3, h4⟩ | ⟨h1, h3, h4⟩
  · rw [h1] at hI'
    refine (Tryz.bytes_Cut_of (some ⟨b, off, none⟩) (some ⟨sb, 0, none⟩) l.length cap 1 1 (i : Int) w hcap (by omega) (fun _ => by omega) (by omega) hI').mono ?_
    rintro e w' ⟨rfl, hq⟩
    have hcl1 : (cutL l).1.length = i := by rw [h3, List.length_take]; omega
    have hcl2 : (cutL l).2.length = l.length - (i + 1) := by rw [h4, List.length_drop]
    refine ⟨some ⟨b, off, none⟩, cap, if cap = i + 1 then some ⟨b, off, none⟩ else some ⟨b, off + (i + 1), none⟩, cap - (i + 1), true, ?_, ?_, ?_, by omega, hq⟩
    · rw [hcl1, hcl2]
      unfold Lib.cutV Lib.fromV
      rw [if_pos (by omega)]
      simp only [Int.toNat_natCast]
      by_cases hci : cap = i + 1
      · rw [if_pos hci, if_pos hci]
      · rw [if_neg hci, if_neg hci]
        simp only [Option.map, Go.WideShapes.add_plain]
    · rw [h3]; exact hr.take i
    · rw [h4]
      by_cases hci : cap = i + 1
      · exact .inl (List.drop_eq_nil_of_le (by omega))
      · rw [if_neg hci]
        exact RestAt.drop hb hc (i + 1)
  · rw [h1] at hI'
    refine (Tryz.bytes_Cut_of (some ⟨b, off, none⟩) (some ⟨sb, 0, none⟩) l.length cap 1 1 (-1) w hcap (by omega) (fun h => by omega) (by omega) hI').mono ?_
    rintro e w' ⟨rfl, hq⟩
    refine ⟨some ⟨b, off, none⟩, cap, none, 0, false, ?_, ?_, ?_, ?_, hq⟩
    · rw [h3, h4]; rfl
    · rw [h3]; exact hr
    · rw [h4]; exact .inl rfl
    · rw [h4]; exact Nat.zero_le _
end Go.Proofs.YtkihaohdcgjioaaGreatDoor.Lx
namespace Go.Proofs.YtkihaohdcgjioaaGreatDoor.Lx
open Go.RowKit
set_option linter.unusedVariables false
set_option linter.unusedSimpArgs false
/-- what the calls lean on -/
def LEnv (w : World) : Prop := Env w.heap.size w ∧ Pow w
theorem LEnv.out {w w' : World} (h : LEnv w) (o : Out w w') : LEnv w' := ⟨(h.1.below o).le o.size, h.2.out o⟩
theorem tkV_get (T : List Tk) : ∀ (k : Nat) (x : Tk) (i : Nat), T[k]? = some x → i < 4 → (tkV T)[k * 4 + i]? = x.cs[i]? := by
  induction T with
  | nil => intro k x i h; simp at h
  | cons y r ih =>
    intro k x i h hi
    have hy : y.cs.length = 4 := rfl
    cases k with
    | zero =>
      have : y = x := by simpa using h
      subst this
      show (y.cs ++ tkV r)[0 * 4 + i]? = _
      rw [List.getElem?_append_left (by omega)]
      simp
    | succ k =>
      show (y.cs ++ tkV r)[(k + 1) * 4 + i]? = _
      rw [List.getElem?_append_right (by omega), show (k + 1) * 4 + i - y.cs.length = k * 4 + i by omega]
      exact ih k x i (by simpa using h) hi
/-- tokens of the call's own, as a slice -/
theorem owns_tks {B : Nat} {w : World} {v : Value} {T : List Tk} (h : w.ownsRow B 117 4 v T.length (tkV T)) : ∃ a cp, v = .slice a T.length cp ∧ T.length ≤ cp ∧ TksAt w a T := by
  rcases h.2 with ⟨hv, hn⟩ | ⟨g, cap, cur, hv, hb, hg, hc, _⟩
  · exact ⟨none, 0, by rw [hv, hn], by omega, .inl (List.length_eq_zero_iff.1 hn)⟩
  · refine ⟨_, _, hv, hc, .inr ⟨g, 0, rfl, fun k x hx => ?_⟩⟩
    have key : ∀ i, i < 4 → w.cell? ⟨g, 0 + k * 4 + i, none⟩ = x.cs[i]? := fun i hi => by
      obtain ⟨u, hu⟩ : ∃ u, x.cs[i]? = some u := ⟨_, List.getElem?_eq_getElem (by show i < 4; exact hi)⟩
      have h1 := h.cells (g := g) (by rw [hv]; rfl) (k * 4 + i) u (by rw [tkV_get T k x i hx hi, hu])
      rw [hu, ← h1, Go.WideShapes.add_plain, Nat.add_assoc]
    exact ⟨key 0 (by omega), key 1 (by omega), key 2 (by omega), key 3 (by omega)⟩
def TokC (w : World) (a : Option Addr) (cap : Nat) (l : List UInt8) : Prop := Calls Tryz.prog 18 #[.slice a l.length cap] w fun e w' => ∃ b cp, e = .returned (.tuple #[.slice b (tokensP l).1.length cp, .int .i64 (tokensP l).2.1, .int .i64 (tokensP l).2.2]) ∧ (tokensP l).1.length ≤ cp ∧ TksAt w' b (tokensP l).1 ∧ Out w w'
theorem tokC (w : World) (hE : LEnv w) (a : Option Addr) (cap : Nat) (l : List UInt8) (hr : RestAt w.heap.size w a l) (hcap : l.length ≤ cap) (hll : l.length ≤ 140737488355328) : TokC w a cap l :=
  (tokens_any valC cutC w hE.1 a cap l hr hcap hll).mono fun e w' ⟨v, he, ho, hw⟩ => by
    obtain ⟨b, cp, rfl, hc, ht⟩ := owns_tks ho
    exact ⟨b, cp, he, hc, ht, hw⟩
theorem tk_nil : tokensP [] = ([⟨0, [], 0, 0⟩], 0, 0) := rfl
theorem tk_a31 : tokensP [97, 32, 51, 49] = ([⟨1, [97], 0, 1⟩, ⟨3, [], 31, 1⟩, ⟨5, [], 0, 1⟩, ⟨0, [], 0, 1⟩], 0, 0) := by kernel_rfl
theorem un_nil : untokP [] = ([], 52) := rfl
theorem TksAt.at {w : World} {a : Option Addr} {ts : List Tk} (h : TksAt w a ts) (hne : ¬ ts = []) : ∃ b off, a = some ⟨b, off, none⟩ ∧ ∀ k x, ts[k]? = some x → w.cell? ⟨b, off + k * 4, none⟩ = some (.int .i64 x.k) ∧ w.cell? ⟨b, off + k * 4 + 1, none⟩ = some (.string ⟨x.t.toArray⟩) ∧ w.cell? ⟨b, off + k * 4 + 2, none⟩ = some (.int .u64 x.n) ∧ w.cell? ⟨b, off + k * 4 + 3, none⟩ = some (.int .i64 x.l) := by
  rcases h with h | h
  · exact absurd h hne
  · exact h
end Go.Proofs.YtkihaohdcgjioaaGreatDoor.Lx
namespace Go.Proofs.YtkihaohdcgjioaaGreatDoor.Lx
open Go.RowKit
set_option linter.unusedVariables false
set_option linter.unusedSimpArgs false
/-- the same tokens, lines aside (or not) -/
def Tk.raw (x : Tk) : Int × List UInt8 × Int := (x.k, x.t, x.n)
/-- each token has its line's number -/
def numP : Nat → List Tk → Bool
  | _, [] => false
  | ln, x :: r => if x.k = 0 then decide (r = []) && decide (x.l = (ln : Int) - 1) else if x.l = ln then numP (if x.k = 5 then ln + 1 else ln) r else false
end Go.Proofs.YtkihaohdcgjioaaGreatDoor.Lx
namespace Go.Proofs.YtkihaohdcgjioaaGreatDoor.Wo
open Go.RowKit
set_option linter.unusedVariables false
set_option linter.unusedSimpArgs false
attribute [local go_sem] IntKind.wrap_u16 IntKind.wrap_u32' IntKind.wrap_u64 IntKind.wrap_u8'

end Go.Proofs.YtkihaohdcgjioaaGreatDoor.Wo
namespace Go.Proofs.YtkihaohdcgjioaaGreatDoor.Wo
open Go.RowKit
set_option linter.unusedVariables false
set_option linter.unusedSimpArgs false

theorem pk1_8 (f8 f16 f32 f64 : Value) (w : World) :
    Calls Tryz.prog 282 #[.int .i64 8, f8, f16, f32, f64] w fun e w' => e = .returned f8 ∧ w' = w := by
  go_enter Tryz.func282, Tryz.ntmps282
  go_wp2
  go_ret
  exact ⟨rfl, rfl⟩
theorem pk1_16 (f8 f16 f32 f64 : Value) (w : World) :
    Calls Tryz.prog 282 #[.int .i64 16, f8, f16, f32, f64] w fun e w' => e = .returned f16 ∧ w' = w := by
  go_enter Tryz.func282, Tryz.ntmps282
  go_wp2
  go_ret
  exact ⟨rfl, rfl⟩
theorem pk1_32 (f8 f16 f32 f64 : Value) (w : World) :
    Calls Tryz.prog 282 #[.int .i64 32, f8, f16, f32, f64] w fun e w' => e = .returned f32 ∧ w' = w := by
  go_enter Tryz.func282, Tryz.ntmps282
  go_wp2
  go_ret
  exact ⟨rfl, rfl⟩
theorem pk1_64 (width : Int) (f8 f16 f32 f64 : Value) (w : World) (a : (width == 8) = false) (b : (width == 16) = false) (c : (width == 32) = false) :
    Calls Tryz.prog 282 #[.int .i64 width, f8, f16, f32, f64] w fun e w' => e = .returned f64 ∧ w' = w := by
  go_enter Tryz.func282, Tryz.ntmps282
  go_wp2
  go_ret
  exact ⟨rfl, rfl⟩
theorem Sign_any (a width : Int) (w : World) (h0 : 0 ≤ a) (h1 : a < 18446744073709551616) :
    Calls Tryz.prog 272 #[.int .u64 a, .int .i64 width] w fun e w' => e = .returned (.int .u64 (sgnW width a)) ∧ w' = w := by
  rcases wide_cases width with rfl | rfl | rfl | ⟨n8, n16, n32⟩
  · have hv : sgnW 8 a = sgnM 128 256 (a % 256) := rfl
    rw [hv]
    clear hv
    go_enter Tryz.func272, Tryz.ntmps272
    go_wp2_with (first | (go_at_call 282; refine (pk1_8 _ _ _ _ _).mono ?_; rintro e w' ⟨rfl, rfl⟩) | (go_at_call 283; refine (sgn_8 _ _ (by omega) (by omega)).mono ?_; rintro e w' ⟨rfl, rfl⟩))
    go_ret
    exact ⟨rfl, rfl⟩
  · have hv : sgnW 16 a = sgnM 32768 65536 (a % 65536) := rfl
    rw [hv]
    clear hv
    go_enter Tryz.func272, Tryz.ntmps272
    go_wp2_with (first | (go_at_call 282; refine (pk1_16 _ _ _ _ _).mono ?_; rintro e w' ⟨rfl, rfl⟩) | (go_at_call 284; refine (sgn_16 _ _ (by omega) (by omega)).mono ?_; rintro e w' ⟨rfl, rfl⟩))
    go_ret
    exact ⟨rfl, rfl⟩
  · have hv : sgnW 32 a = sgnM 2147483648 4294967296 (a % 4294967296) := rfl
    rw [hv]
    clear hv
    go_enter Tryz.func272, Tryz.ntmps272
    go_wp2_with (first | (go_at_call 282; refine (pk1_32 _ _ _ _ _).mono ?_; rintro e w' ⟨rfl, rfl⟩) | (go_at_call 285; refine (sgn_32 _ _ (by omega) (by omega)).mono ?_; rintro e w' ⟨rfl, rfl⟩))
    go_ret
    exact ⟨rfl, rfl⟩
  · have hv : sgnW width a = sgnM 9223372036854775808 18446744073709551616 (a % 18446744073709551616) := by unfold sgnW; rw [(W64 n8 n16 n32).1, (W64 n8 n16 n32).2.1]
    have g8 : (width == 8) = false := by simp [n8]
    have g16 : (width == 16) = false := by simp [n16]
    have g32 : (width == 32) = false := by simp [n32]
    rw [hv]
    clear hv n8 n16 n32
    go_enter Tryz.func272, Tryz.ntmps272
    go_wp2_with (first | (go_at_call 282; refine (pk1_64 _ _ _ _ _ _ (by assumption) (by assumption) (by assumption)).mono ?_; rintro e w' ⟨rfl, rfl⟩) | (go_at_call 286; refine (sgn_64 _ _ (by omega) (by omega)).mono ?_; rintro e w' ⟨rfl, rfl⟩))
    go_ret
    exact ⟨rfl, rfl⟩
theorem Sub_any (a b : Int) (w : World) :
    Calls Tryz.prog 281 #[.int .u64 a, .int .u64 b] w fun e w' => e = .returned (.int .u64 (subW a b)) ∧ w' = w := by
  go_enter Tryz.func281, Tryz.ntmps281
  go_wp2
  go_ret
  exact ⟨rfl, rfl⟩
theorem Neg_any (a : Int) (w : World) :
    Calls Tryz.prog 271 #[.int .u64 a] w fun e w' => e = .returned (.int .u64 (negW a)) ∧ w' = w := by
  go_enter Tryz.func271, Tryz.ntmps271
  go_wp2
  go_ret
  exact ⟨rfl, rfl⟩
end Go.Proofs.YtkihaohdcgjioaaGreatDoor.Wo
namespace Go.Proofs.YtkihaohdcgjioaaGreatDoor
open Go.RowKit
set_option linter.unusedVariables false
set_option linter.unusedSimpArgs false
theorem cell_later {w w' : World} (o : Out w w') {a : Addr} {v : Value} (h : w.cell? a = some v) : w'.cell? a = some v := by
  rw [← h]; exact World.cell?_of_block (o.block _ (World.block_lt_of_cell? w a h))
theorem owns_chg {B size : Nat} {S : Nat → Prop} {w w' : World} {e : TypeId} {v : Value} {n : Nat} {xs : List Value} (h : w.ownsRow B e size v n xs) (hs : ∀ k, v.ownBlock = some k → ¬ S k) (hc : Chg S w w') : w'.ownsRow B e size v n xs := by
  refine ⟨h.1, ?_⟩
  rcases h.2 with hn | ⟨g, cap, cur, rfl, hb, hg, rest⟩
  · exact .inl hn
  · refine .inr ⟨g, cap, cur, rfl, hb, ?_, rest⟩
    rw [hc.block g (Array.getElem?_eq_some_iff.1 hg).1 (hs g rfl)]
    exact hg
theorem own_form {B n sz : Nat} {X : World} {e : TypeId} {v : Value} {xs : List Value} (h : X.ownsRow B e sz v n xs) : ∃ ad cp, v = .slice ad n cp := by
  rcases h.2 with ⟨rfl, rfl⟩ | ⟨g, cap, cur, rfl, _⟩
  · exact ⟨none, 0, rfl⟩
  · exact ⟨_, _, rfl⟩
theorem cell_fresh (w : World) (cs : Array Value) (t : TypeId) (j : Nat) (b : Nat) (hb : b = w.heap.size) : (w.alloc (.cells cs t)).cell? ⟨b, j, none⟩ = cs[j]? := by
  subst hb
  rw [World.cell?, show (w.alloc (.cells cs t)).heap[w.heap.size]? = some (.cells cs t) from heap_alloc_new w _]
  rfl
theorem news_new (w : World) (cs : Array Value) (t : TypeId) (b : Nat) (hb : b = w.heap.size) : ∀ j u, cs.toList[j]? = some u → (w.alloc (.cells cs t)).cell? ((⟨b, 0, none⟩ : Addr).add j) = some u := by
  intro j u hu
  rw [WideShapes.add_plain, Nat.zero_add, cell_fresh _ _ _ _ _ hb]
  simpa using hu
theorem cell_atL {w : World} {p : Nat} {cs : Array Value} {t : TypeId} (h : w.heap[p]? = some (.cells cs t (0, 0))) (j : Nat) : w.cell? ⟨p, j, none⟩ = cs[j]? := by simp [World.cell?, h]
theorem frozen_atL {w : World} {p : Nat} {cs : Array Value} {t : TypeId} (h : w.heap[p]? = some (.cells cs t (0, 0))) (j : Nat) : w.frozen? ⟨p, j, none⟩ = false := by simp [World.frozen?, h]
theorem set_atL {w : World} {p : Nat} {cs : Array Value} {t : TypeId} (h : w.heap[p]? = some (.cells cs t (0, 0))) (j : Nat) (u : Value) : (w.setCell ⟨p, j, none⟩ u).heap[p]? = some (.cells (cs.setIfInBounds j u) t (0, 0)) := by
  simp [World.setCell, Array.getElem?_modify, h]
theorem own_kind {B s n : Nat} {w : World} {e t : TypeId} {v : Value} {xs : List Value} {b : Nat} {cs : Array Value} {fr : Nat × Nat} (h : w.ownsRow B e s v n xs) (hb : w.heap[b]? = some (.cells cs t fr)) (hne : ¬ e = t) : ¬ v.ownBlock = some b := fun hv => by
  rcases h.2 with ⟨hx, _⟩ | ⟨g, cap, cur, hx, _, hg, _⟩
  · rw [hx] at hv; cases hv
  · rw [hx] at hv
    simp [Value.ownBlock] at hv
    subst hv
    rw [hb] at hg; simp at hg; exact hne hg.2.1.symm
theorem Out.dN {w w' : World} (h : Out w w') (n : Nat) : Out w (w'.drewN n) := ⟨h.os, h.tape, h.output, h.size, h.block⟩
theorem add_l4 (x y z : List UInt8) (hz : z = x ++ y) (h : x.length + y.length ≤ 9223372036854775807) (w : World) : (Op.stringOp .add ⟨x.toArray⟩ ⟨y.toArray⟩).run Tryz.prog w = .ok (.string ⟨z.toArray⟩) w := by
  rw [run_string_add_sum w _ _ (by simp [ByteArray.size]; omega), ByteArray.mk_append_mk, hz]
end Go.Proofs.YtkihaohdcgjioaaGreatDoor
