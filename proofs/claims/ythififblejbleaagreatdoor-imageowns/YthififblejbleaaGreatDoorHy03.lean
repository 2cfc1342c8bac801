import Derived.Test.YthififblejbleaaGreatDoorHy02
import Derived.Lib.MinMax
import Derived.Lib.ConvBytes
import Derived.Laws.BytesString
namespace Go.Proofs.YthififblejbleaaGreatDoor
open Go.RowKit
open Go.Maps (Keyed)
set_option linter.unusedVariables false
set_option linter.unusedSimpArgs false
def RestAt (N : Nat) (w : World) (a : Option Addr) (l : List UInt8) : Prop := l = [] ∨ ∃ b off, b < N ∧ a = some ⟨b, off, none⟩ ∧ ∀ k x, l[k]? = some x → w.cell? ⟨b, off + k, none⟩ = some (.int .u8 (x.toNat : Int))
theorem RestAt.below {N : Nat} {w w' : World} {a : Option Addr} {l : List UInt8} (h : RestAt N w a l) (b : Below N w w') : RestAt N w' a l := by
  rcases h with h | ⟨g, o, hg, ha, hc⟩
  · exact .inl h
  · exact .inr ⟨g, o, hg, ha, fun k x hx => (Below.cell b hg).trans (hc k x hx)⟩
def bCells (O : List UInt8) : List Value := O.map (fun b => .int .u8 (b.toNat : Int))
theorem bCells_length (O : List UInt8) : (bCells O).length = O.length := by simp [bCells]
theorem fold_bytes (O : List UInt8) : ∀ r : ByteArray, (O.map (fun b => (b.toNat : Int))).foldl (fun r n => r.push (UInt8.ofNat n.toNat)) r = ⟨r.data ++ O.toArray⟩ := by
  induction O with
  | nil => intro r; simp
  | cons b l ih =>
    intro r
    rw [List.map_cons, List.foldl_cons, ih]
    simp [ByteArray.push]
theorem conv_list (w : World) (a : Addr) (cap : Nat) (O : List UInt8) (h : ∀ j u, (bCells O)[j]? = some u → w.cell? (a.add j) = some u) : (convert 27 9 (.slice (some a) O.length cap)).run Tryz.prog w = .ok (.string ⟨O.toArray⟩) w := by
  rw [run_convert_bytes_string w 27 9 5 (some a) O.length cap Tryz.underlying27 Tryz.underlying5 Tryz.underlying9]
  have h1 := run_loadCells_list (P := Tryz.prog) w a (bCells O) h
  rw [bCells_length] at h1
  rw [run_bytesToString w a O.length cap (O.map (fun b => (b.toNat : Int))) (by rw [show (O.map (fun b => (b.toNat : Int))).map (Value.int .u8) = bCells O from by simp [bCells]]; exact h1), fold_bytes]
  simp
theorem conv_rest {N : Nat} {w : World} {a : Option Addr} {l : List UInt8} (h : RestAt N w a l) (cap : Nat) : (convert 27 9 (.slice a l.length cap)).run Tryz.prog w = .ok (.string ⟨l.toArray⟩) w := by
  rcases h with rfl | ⟨b, off, hb, rfl, hc⟩
  · cases a with
    | none =>
      rw [run_convert_bytes_string w 27 9 5 none _ _ Tryz.underlying27 Tryz.underlying5 Tryz.underlying9]
      rfl
    | some a => exact conv_list w a cap [] (fun j u hj => by simp [bCells] at hj)
  · refine conv_list w ⟨b, off, none⟩ cap l (fun j u hj => ?_)
    rw [Go.WideShapes.add_plain]
    simp only [bCells, List.getElem?_map] at hj
    cases hl : l[j]? with
    | none => rw [hl] at hj; simp at hj
    | some x => rw [hl] at hj; simp at hj; rw [← hj]; exact hc j x hl
theorem idx_tw : ∀ l : List UInt8, Lib.indexByte l 0 = if (0 : UInt8) ∈ l then ((l.takeWhile (fun b => b != 0)).length : Int) else -1
  | [] => by simp [Lib.indexByte]
  | b :: r => by
    unfold Lib.indexByte
    by_cases h : b = 0
    · subst h; simp
    · have h1 : (b == 0) = false := by simpa using h
      have h2 : (b != 0) = true := by simpa using h
      rw [idx_tw r]
      simp only [h1, List.takeWhile, h2]
      by_cases hr : (0 : UInt8) ∈ r
      · simp [hr]
      · simp [hr, Ne.symm h]
theorem tw_take (p : UInt8 → Bool) : ∀ (l : List UInt8) (k : Nat) (x : UInt8), x ∈ l.take k → p x = false → (l.take k).takeWhile p = l.takeWhile p
  | [], k, x, h, _ => by simp at h
  | y :: r, 0, x, h, _ => by simp at h
  | y :: r, k + 1, x, h, hp => by
    simp only [List.take_succ_cons, List.takeWhile]
    cases hy : p y
    · rfl
    · simp only [List.take_succ_cons, List.mem_cons] at h
      rw [tw_take p r k x (h.resolve_left (fun e => by rw [e, hy] at hp; cases hp)) hp]
theorem tw_all (p : UInt8 → Bool) : ∀ (l : List UInt8), ∀ b ∈ l.takeWhile p, p b = true
  | [], b, h => by simp at h
  | y :: r, b, h => by
    simp only [List.takeWhile] at h
    cases hy : p y
    · rw [hy] at h; simp at h
    · rw [hy] at h
      rcases List.mem_cons.1 h with rfl | h
      · exact hy
      · exact tw_all p r b h
theorem nmP_le (l : List UInt8) : (nmP l).length ≤ 64 ∧ (nmP l).length ≤ l.length := by
  unfold nmP
  split
  · rename_i h
    have hm : (0 : UInt8) ∈ l.take 65 := by simpa using h
    have h1 := tw_take (fun b => b != 0) l 65 0 hm (by decide)
    obtain ⟨k, hk⟩ := List.mem_iff_getElem?.1 hm
    have hl : ((l.take 65).takeWhile (fun b => b != 0)).length < (l.take 65).length := by
      have h2 := (List.takeWhile_sublist (l := l.take 65) (fun b => b != 0)).length_le
      rcases Nat.lt_or_eq_of_le h2 with h3 | h3
      · exact h3
      · exfalso
        have h4 : (l.take 65).takeWhile (fun b => b != 0) = l.take 65 := (List.takeWhile_sublist _).eq_of_length h3
        have h5 : ∀ b ∈ l.take 65, (b != 0) = true := by
          intro b hb
          rw [← h4] at hb
          exact tw_all _ _ b hb
        have := h5 0 hm
        simp at this
    rw [h1] at hl
    rw [List.length_take] at hl
    omega
  · simp
theorem nmP_idx (l : List UInt8) : Lib.indexByte (l.take 65) 0 = (nmP l).length ∨ (Lib.indexByte (l.take 65) 0 = -1 ∧ nmP l = []) := by
  rw [idx_tw]
  unfold nmP
  by_cases h : (0 : UInt8) ∈ l.take 65
  · left
    rw [if_pos h, if_pos (by simpa using h), tw_take _ l 65 0 h (by decide)]
  · right
    rw [if_neg h, if_neg (by simpa using h)]
    exact ⟨rfl, rfl⟩
theorem nmP_take (l : List UInt8) : nmP l = l.take (nmP l).length := by
  unfold nmP
  split
  · exact List.prefix_iff_eq_take.1 (List.takeWhile_prefix _)
  · simp
def toZ (l : List UInt8) : List Int := l.map fun b => (b.toNat : Int)
theorem bytesOf_toZ (l : List UInt8) : Lib.bytesOf (toZ l) = l := by simp [Lib.bytesOf, toZ, Function.comp_def]
theorem nameAt_any (g off c : Nat) (l : List UInt8) (w : World) (hn : ¬ l = []) (hc : l.length ≤ c) (hl : l.length ≤ 1000000000000) (h : ∀ k x, l[k]? = some x → w.cell? ⟨g, off + k, none⟩ = some (.int .u8 (x.toNat : Int))) :
    Calls Tryz.prog 109 #[.slice (some ⟨g, off, none⟩) l.length c] w fun e w' => e = .returned (.slice (some ⟨g, off, none⟩) (nmP l).length c) ∧ w' = w := by
  obtain ⟨m, hm⟩ : ∃ m, m = min l.length 65 := ⟨_, rfl⟩
  have hm1 : m ≤ l.length := by omega
  have hmI : (min (l.length : Int) 65) = m := by omega
  have HI := hidOf (Tryz.bytes_IndexByte g off m c (toZ (l.take m)) 0 w (by simp [toZ]; omega) (fun i hi => by
    have hx : l[i]? = some (l[i]'(by omega)) := List.getElem?_eq_getElem _
    rw [h i _ hx, getD_of (x := ((l[i]'(by omega)).toNat : Int)) (by simp [toZ, List.getElem?_take, hi, hx])]))
  rw [bytesOf_toZ, show ((0 : Int).toNat.toUInt8) = 0 from rfl, show l.take m = l.take 65 by rw [hm, List.take_eq_take_iff]; omega] at HI
  have hle := nmP_le l
  rcases nmP_idx l with hi | ⟨hi, he⟩
  · rw [hi] at HI
    generalize (nmP l).length = k at *
    clear h hm hi hn
    go_enter Tryz.func109, Tryz.ntmps109
    go_wp2_with (go_at_call 118; refine (HI.out).mono ?_; rintro e w1 ⟨rfl, rfl⟩)
    go_ret
    exact ⟨rfl, rfl⟩
  · rw [hi] at HI
    rw [he]
    clear h hm hi hn
    go_enter Tryz.func109, Tryz.ntmps109
    go_wp2_with (go_at_call 118; refine (HI.out).mono ?_; rintro e w1 ⟨rfl, rfl⟩)
    go_ret
    exact ⟨rfl, rfl⟩
def cntOf (p : Nat) (w : World) : Nat := match w.cell? ⟨p, 0, none⟩ with | some (.slice _ n _) => n | _ => 0
def rdR (l : List UInt8) (N : List (List UInt8)) : Option (List (List UInt8)) × Nat := rdF l.length l N
theorem rdR_nil (N : List (List UInt8)) : rdR [] N = (some N, 0) := rfl
theorem rdR_bad (l : List UInt8) (N : List (List UInt8)) (h : ¬ l = []) (hx : nmP l ∈ N ∨ nmP l = []) : rdR l N = (none, szF 1 N) := by
  cases l with
  | nil => exact absurd rfl h
  | cons c r => show rdF (r.length + 1) (c :: r) N = _; unfold rdF; rw [if_pos hx]
theorem rdR_ok (l : List UInt8) (N : List (List UInt8)) (h : ¬ l = []) (hx : ¬ nmP l ∈ N) (h0 : ¬ nmP l = []) : rdR l N = rdR (l.drop ((nmP l).length + 1)) (N ++ [nmP l]) := by
  cases l with
  | nil => exact absurd rfl h
  | cons c r =>
    show rdF (r.length + 1) (c :: r) N = _
    unfold rdF
    rw [if_neg (by simp [hx, h0])]
    exact rdF_fuel _ _ _ _ (by rw [List.length_drop]; simp) (Nat.le_refl _)
theorem rdP_zero (r : List UInt8) : rdP (0 :: r) = rdR r [] := rfl
theorem nmP_end (l : List UInt8) (h : ¬ nmP l = []) : (nmP l).length + 1 ≤ l.length := by
  have h0 : (l.take 65).contains 0 = true := by
    unfold nmP at h
    split at h
    · assumption
    · exact absurd rfl h
  rcases nmP_idx l with hi | ⟨hi, he⟩
  · have := (Lib.indexByte_some (l := l.take 65) (c := 0) hi).1
    have h2 := (List.getElem?_eq_some_iff.1 this).1
    rw [List.length_take] at h2
    omega
  · exact absurd he h
def REnd (w : World) (l : List UInt8) (e : Ending) (w' : World) : Prop :=
  Out w w' ∧ ((rdP l).1 = none ∧ e = .returned (.tuple #[.pointer none, .int .i64 (rdP l).2, .int .i64 80]) ∨ ∃ N p, (rdP l).1 = some N ∧ e = .returned (.tuple #[.pointer (some ⟨p, 0, none⟩), .int .i64 0, .int .i64 0]) ∧ szF 1 N = l.length ∧ w.heap.size ≤ p ∧ Tab p w' N (FN (fun _ => False) w w'))
theorem read_empty (a : Option Addr) (c : Nat) (w : World) : Calls Tryz.prog 92 #[.slice a 0 c] w fun e w' => e = .returned (.tuple #[.pointer none, .int .i64 0, .int .i64 80]) ∧ w' = w := by
  go_enter Tryz.func92, Tryz.ntmps92
  go_wp2
  go_ret3
  exact ⟨rfl, rfl⟩
theorem read_first (g off c n : Nat) (x : UInt8) (w : World) (hx : ¬ x = 0) (hc : n + 1 ≤ c) (h : w.cell? ⟨g, off, none⟩ = some (.int .u8 (x.toNat : Int))) : Calls Tryz.prog 92 #[.slice (some ⟨g, off, none⟩) (n + 1) c] w fun e w' => e = .returned (.tuple #[.pointer none, .int .i64 0, .int .i64 80]) ∧ w' = w := by
  have hz : ((x.toNat : Int) == 0) = false := by
    have : ¬ x.toNat = 0 := fun h => hx (UInt8.toNat_inj.1 h)
    simp; omega
  have hz' : ((x.toNat : Int) != 0) = true := by simp only [bne, hz]; rfl
  go_enter Tryz.func92, Tryz.ntmps92
  go_wp2
  all_goals (go_ret3; exact ⟨rfl, rfl⟩)
theorem cnt_tab {p : Nat} {w : World} {A B C : List (List UInt8)} {nv sv mv : Value} (t : T3 p w A B C nv sv mv) : cntOf p w = A.length := by
  obtain ⟨a, c, rfl⟩ := own_form t.nm
  have : w.cell? ⟨p, 0, none⟩ = some (.slice a A.length c) := t.cell 0
  simp [cntOf, this]
theorem Tab.cnt {p : Nat} {w : World} {N : List (List UInt8)} {F : Nat → Prop} (h : Tab p w N F) : cntOf p w = N.length := by
  obtain ⟨_, _, _, t, _⟩ := h
  exact cnt_tab t
theorem look_all {w : World} {mv : Value} {N : List (List UInt8)} (h : MapOk w mv N) (x : List UInt8) (hl : x.length ≤ 1000000000000) : ∃ (r : Option Nat), mv = .map r ∧ ∀ k, (Instr.lookup 156 (.map r) (.string ⟨x.toArray⟩) true).run Tryz.prog (w.drewN k) = .ok (.tuple #[.int .i64 (plF 1 N x : Nat), .bool (decide (x ∈ N))]) (w.drewN k) := by
  have hk := keyOf_tx x hl
  rcases h with ⟨rfl, rfl⟩ | ⟨b, D, rfl, ho, hm⟩
  · refine ⟨none, rfl, fun k => ?_⟩
    have := Maps.look_nil (w := w.drewN k) true strLaw Tryz.underlying156 (zeroI _) hk
    simpa [plF] using this
  · refine ⟨some b, rfl, fun k => ?_⟩
    have hw0 : (Lit.int .i64 0).wf = true := by decide
    have ho' : (w.drewN k).ownsMap Tryz.prog 9 PE b N.length D := ho
    obtain ⟨v, ps, hr, hv⟩ := ho'.look_ok strLaw Tryz.underlying156 (zeroI _) (zd := .lit (.int .i64 0)) (zp := []) (plainElem_int Tryz.underlying3 hw0) hk
    obtain ⟨c, rfl, hc, hwc⟩ := plainElem_int_inv Tryz.underlying3 hv
    have h1 := congrArg Prod.fst hc
    simp only at h1
    have hcc : c = (plF 1 N x : Nat) := by
      by_cases hx : x ∈ N
      · rw [(hm.2 x).2 hx] at h1
        cases h1; rfl
      · rw [Maps.atKey_of_not_has (by rw [(hm.2 x).1]; simp [hx])] at h1
        have : plF 1 N x = 0 := by
          have := plF_zero N 1 x (Nat.le_refl _)
          have : ¬ 0 < plF 1 N x := fun h => hx (this.2 h)
          omega
        rw [this]
        cases h1; rfl
    rw [hr, (hm.2 x).1, hcc]
set_option maxRecDepth 4000 in
set_option maxHeartbeats 4000000 in
theorem read_zero (g off c : Nat) (r : List UInt8) (w : World) (hg : g < w.heap.size) (hc : r.length + 1 ≤ c) (hl : r.length + 1 ≤ 1000000000000) (h : ∀ k x, ((0 : UInt8) :: r)[k]? = some x → w.cell? ⟨g, off + k, none⟩ = some (.int .u8 (x.toNat : Int))) :
    Calls Tryz.prog 92 #[.slice (some ⟨g, off, none⟩) (r.length + 1) c] w fun e w' => REnd w (0 :: r) e w' := by
  obtain ⟨l, hle⟩ : ∃ l, l = (0 : UInt8) :: r := ⟨_, rfl⟩
  have hll : l.length = r.length + 1 := by rw [hle]; rfl
  have HR : Hid (rdP l = rdR (l.drop 1) []) := by rw [hle]; rfl
  have c0 : w.cell? ⟨g, off, none⟩ = some (.int .u8 0) := h 0 0 rfl
  rw [← hle] at h ⊢
  rw [← hll] at hc hl ⊢
  have HC := hidOf h
  obtain ⟨n, hn⟩ : ∃ n, n = l.length := ⟨_, rfl⟩
  have Hn := hidOf hn
  have h1 : 1 ≤ n := by omega
  rw [← hn] at hc hl ⊢
  have h1' : (1 : Int) ≤ n := by omega
  have hcI : (n : Int) ≤ c := by omega
  have hlI : (n : Int) ≤ 1000000000000 := by omega
  have hb0 : ((n : Int) == 0) = false := by simp; omega
  have Hg := hidOf hg
  clear h hll hle hg hn
  obtain ⟨p, hp⟩ : ∃ p, p = w.heap.size := ⟨_, rfl⟩
  have HP := hidOf hp
  have HN1 : Hid (Tab p (w.alloc newO) [] (fun k => w.heap.size ≤ k) ∧ Out w (w.alloc newO)) := by
    rw [hp]
    exact ⟨(new_tab w).mono (fun k hk => by omega), (Out.refl w).alloc _⟩
  have HNew : Hid (Calls Tryz.prog 84 #[] w fun e w' => e = .returned (.pointer (some ⟨p, 0, none⟩)) ∧ w' = w.alloc newO) := by rw [hp]; exact new_any w
  clear hp
  go_enter Tryz.func92, Tryz.ntmps92
  go_upto_region 4 with (go_at_call 84; refine (HNew.out).mono ?_; rintro e w1 ⟨rfl, rfl⟩)
  generalize w.alloc newO = w1 at *
  clear HNew
  go_loopw [6] (fun tv wr => ∃ (N : List (List UInt8)), szF 1 N ≤ n ∧ Hid (rdP l = rdR (l.drop (szF 1 N)) N) ∧ Hid (Tab p wr N (fun k => w.heap.size ≤ k)) ∧ Hid (Out w wr)) (fun _ wr => n - cntOf p wr)
  case atStart => exact ⟨[], h1, HR.out, HN1.out.1, HN1.out.2⟩
  case round =>
    obtain ⟨N, hs, HRr, HTab, Ho⟩ := hrel
    have hsz := szF_ge N 1
    obtain ⟨nv, sv, mv, t, hf⟩ := HTab.out
    have Ht := hidOf t
    have HS := hidOf (fun m => size_any p (wr.drewN m) N N _ _ _ (t.out ((Out.refl wr).drewN m)) (by omega))
    have HS0 := hidOf (size_any p wr N N _ _ _ t (by omega))
    have Hf := hidOf hf
    clear t hf
    generalize hse : szF 1 N = s at *
    have Hse := hidOf hse
    clear hse
    have hs1 : (1 : Int) ≤ s := by omega
    by_cases hlt : s < n
    · have hltI : (s : Int) < n := by omega
      obtain ⟨m, hm⟩ : ∃ m, m = l.drop s := ⟨_, rfl⟩
      have hml : m.length = n - s := by rw [hm, List.length_drop, ← Hn.out]
      have hm0 : ¬ m = [] := fun e => by rw [e] at hml; simp at hml; omega
      have hncs : ¬ ((c : Int) = s) := by omega
      have hcell : ∀ wx, Out w wx → ∀ k x, m[k]? = some x → wx.cell? ⟨g, off + s + k, none⟩ = some (.int .u8 (x.toNat : Int)) := fun wx ho k x hx => by
        rw [hm, List.getElem?_drop] at hx
        rw [Nat.add_assoc, ho.cells g _ Hg.out]
        exact HC.out (s + k) x hx
      have HA := hidOf (fun wx (ho : Out w wx) => hml ▸ nameAt_any g (off + s) (c - s) m wx hm0 (by omega) (by omega) (hcell wx ho))
      obtain ⟨x, hx⟩ : ∃ x, x = nmP m := ⟨_, rfl⟩
      have hx64 := nmP_le m
      have hxt := nmP_take m
      rw [← hx] at HA hx64 hxt
      have Hx := hidOf hx
      have hxr : RestAt w.heap.size w (some ⟨g, off + s, none⟩) x := .inr ⟨g, off + s, Hg.out, rfl, fun k y hy => hcell w (Out.refl w) k y (by rw [hxt, List.getElem?_take] at hy; split at hy; exact hy; cases hy)⟩
      have hxl : (x.length : Int) ≤ 64 := by omega
      have Hxr := hidOf hxr
      have Hm0 := hidOf hm0
      have Hm := hidOf hm
      have Hml := hidOf hml
      have Hsz := hidOf hsz
      clear hxr hcell hxt hx hm0 hm hml hsz c0
      go_upto_region 7 with (first | (go_at_call 106; refine (HS0.out).mono ?_; rintro e wa ⟨rfl, ma, rfl⟩) | (go_at_call 106; refine (HS.out _).mono ?_; rintro e wb ⟨rfl, mb, rfl⟩) | (go_at_call 109; refine (HA.out _ (Ho.out.drewN _)).mono ?_; rintro e wc ⟨rfl, rfl⟩))
      have hcv : ∀ k, (convert 27 9 (.slice (some ⟨g, off + s, none⟩) x.length (c - s))).run Tryz.prog (wr.drewN k) = .ok (.string ⟨x.toArray⟩) (wr.drewN k) := fun k => conv_rest (Hxr.out.below (Ho.out.drewN k)) (c - s)
      obtain ⟨rm, hmv, hlk⟩ := look_all Ht.out.mp x (by omega)
      subst hmv
      have c2 : ∀ k, (wr.drewN k).cell? ⟨p, 2, none⟩ = some (.map rm) := fun k => (Ht.out.out ((Out.refl wr).drewN k)).cell 2
      by_cases hin : x ∈ N
      · rw [decide_eq_true hin] at hlk
        have Hres : Hid (rdP l = (none, s)) := hidOf (by
          rw [HRr.out, ← Hm.out, rdR_bad m N Hm0.out (by rw [← Hx.out]; exact .inl hin), Hse.out])
        clear hin
        go_wp2_with (go_quiet (fail))
        go_ret3
        exact ⟨Ho.out.drewN _, .inl ⟨by rw [Hres.out], by rw [Hres.out]; rfl⟩⟩
      · rw [decide_eq_false hin] at hlk
        have Hin := hidOf hin
        clear hin
        by_cases hx0 : x = []
        · have Hres : Hid (rdP l = (none, s)) := hidOf (by
            rw [HRr.out, ← Hm.out, rdR_bad m N Hm0.out (by rw [← Hx.out]; exact .inr hx0), Hse.out])
          have hxb : ((x.length : Int) == 0) = true := by rw [hx0]; rfl
          have Hx0 := hidOf hx0
          clear hx0
          go_wp2_with (go_quiet (fail))
          go_ret3
          exact ⟨Ho.out.drewN _, .inl ⟨by rw [Hres.out], by rw [Hres.out]; rfl⟩⟩
        · have hxb : ((x.length : Int) == 0) = false := by
            have : 0 < x.length := List.length_pos_iff.2 hx0
            simp; omega
          have Hx0 := hidOf hx0
          clear hx0
          have HPu := hidOf (fun k => push_any p (wr.drewN k) N _ _ _ x (Ht.out.out ((Out.refl wr).drewN k)) Hin.out (by rw [Hse.out]; omega) (by omega))
          rw [Hse.out] at HPu
          go_wp2_with (first | (go_at_call 104; refine (HPu.out _).mono ?_; rintro e wp ⟨rfl, hp⟩; have Hp := hidOf hp; clear hp) | go_quiet (fail))
          have hxm : nmP m ≠ [] := by rw [← Hx.out]; exact Hx0.out
          have he := nmP_end m hxm
          rw [← Hx.out, Hml.out] at he
          obtain ⟨nv', sv', mv', t', hc', hi'⟩ := Hp.out
          have e1 : szF 1 (N ++ [x]) = s + x.length + 1 := by rw [szF_snoc, Hse.out]
          refine ⟨⟨N ++ [x], by rw [e1]; omega, hidOf ?_, hidOf ⟨nv', sv', mv', t', fun k hk => ?_⟩, hidOf ?_⟩, ?_⟩
          · rw [HRr.out, ← Hm.out, rdR_ok m N Hm0.out (by rw [← Hx.out]; exact Hin.out) hxm, ← Hx.out, e1, Hm.out, List.drop_drop]
            rfl
          · rcases hi' k hk with h | h
            · exact Hf.out k h
            · exact Nat.le_trans Ho.out.size h
          · exact Chg.out hc' (Ho.out.drewN _) (fun k hk => Hf.out k hk)
          · rw [cnt_tab t', HTab.out.cnt]
            have := Hsz.out
            simp
            omega
    · have hltI : ¬ (s : Int) < n := by omega
      have hsn : s = n := by omega
      have Hres : Hid (rdP l = (some N, 0)) := hidOf (by rw [HRr.out, hsn, Hn.out, List.drop_length]; rfl)
      have Hsn := hidOf hsn
      clear hsn
      go_wp2_with (go_at_call 106; refine (HS0.out).mono ?_; rintro e wa ⟨rfl, ma, rfl⟩)
      go_ret3
      refine ⟨Ho.out.drewN _, .inr ⟨N, p, by rw [Hres.out], rfl, by rw [Hse.out, Hsn.out, Hn.out], by rw [HP.out]; exact Nat.le_refl _, ?_⟩⟩
      refine ⟨nv, sv, mv, Ht.out.out ((Out.refl wr).drewN _), fun k hk => .inr ⟨Hf.out k hk, ?_⟩⟩
      exact Ht.out.fp_lt k hk
theorem read_any (a : Option Addr) (c : Nat) (l : List UInt8) (w : World) (h : RestAt w.heap.size w a l) (hc : l.length ≤ c) (hl : l.length ≤ 1000000000000) : Calls Tryz.prog 92 #[.slice a l.length c] w fun e w' => REnd w l e w' := by
  cases l with
  | nil =>
    refine (read_empty a c w).mono ?_
    rintro e w' ⟨rfl, rfl⟩
    exact ⟨Out.refl _, .inl ⟨rfl, rfl⟩⟩
  | cons x r =>
    rcases h with h | ⟨g, off, hg, rfl, hx⟩
    · cases h
    · by_cases h0 : x = 0
      · subst h0
        exact read_zero g off c r w hg hc hl hx
      · refine (read_first g off c r.length x w h0 hc (by simpa using hx 0 x rfl)).mono ?_
        rintro e w' ⟨rfl, rfl⟩
        have e : rdP (x :: r) = (none, 0) := by simp [rdP, h0]
        exact ⟨Out.refl _, .inl ⟨by rw [e], by rw [e]; rfl⟩⟩
end Go.Proofs.YthififblejbleaaGreatDoor
