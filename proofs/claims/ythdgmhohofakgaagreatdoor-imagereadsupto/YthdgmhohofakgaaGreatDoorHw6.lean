import Derived.Test.YthdgmhohofakgaaGreatDoorHw2
import Derived.Test.YthdgmhohofakgaaGreatDoorImn
import Derived.Laws.MakeOwn
namespace Go.Proofs.YthdgmhohofakgaaGreatDoor
open Go.RowKit
set_option linter.unusedVariables false
set_option linter.unusedSimpArgs false
theorem owns_void (w : World) (B size : Nat) (e : TypeId) (hB : B ≤ w.heap.size) : (w.alloc (.cells #[] e)).ownsRow B e size (.slice (some ⟨w.heap.size, 0, none⟩) 0 0) 0 [] :=
  ⟨by simp, .inr ⟨w.heap.size, 0, #[], rfl, hB, heap_alloc_new w _, Nat.le_refl _, by decide, by simp, by simp⟩⟩
theorem OwB.out {B : Nat} {v : Value} {O : List UInt8} {w w' : World} (h : OwB B v O w) (o : Out w w') : OwB B v O w' := owns_chg (S := fun _ => False) h (fun _ _ h => h) (Chg.of_out o)
theorem OwS.outLr {B : Nat} {v : Value} {O : List (List UInt8)} {w w' : World} (h : OwS B v O w) (o : Out w w') : OwS B v O w' := owns_chg (S := fun _ => False) h (fun _ _ h => h) (Chg.of_out o)
set_option maxHeartbeats 800000 in
theorem copyBytes_any (w : World) (a : Option Addr) (cap : Nat) (l : List UInt8) (hr : RestAt w.heap.size w a l) (hll : l.length ≤ 140737488351232) : Calls Tryz.prog 4 #[.slice a l.length cap] w fun e w' => ∃ v, e = .returned v ∧ OwB w.heap.size v l w' ∧ Out w w' := by
  obtain ⟨i0, hi, hz0, hz1, hz2⟩ := info_parts infoB
  have H0 := hidOf (owns_void w w.heap.size 1 5 (Nat.le_refl _))
  cases a with
  | none =>
    obtain rfl : l = [] := by
      rcases hr with h | ⟨b, off, _, h, _⟩
      · exact h
      · cases h
    simp only [List.length_nil]
    go_enter Tryz.func4, Tryz.ntmps4
    go_wp2
    go_ret
    exact ⟨_, rfl, H0.out, Out.alloc (Out.refl _) _⟩
  | some ad =>
    have HC : Hid (∀ j u, (Lib.byteCells l)[j]? = some u → (w.alloc (.cells #[] 5)).cell? (ad.add j) = some u) := fun j u hu => by
      simp only [Lib.byteCells, List.getElem?_map, Option.map_eq_some_iff] at hu
      obtain ⟨x, hx, rfl⟩ := hu
      rcases hr with rfl | ⟨b, off, _, h, hc⟩
      · simp at hx
      · cases h
        rw [WideShapes.add_plain]
        exact cell_later ((Out.refl w).alloc _) (hc j x hx)
    clear hr
    go_enter Tryz.func4, Tryz.ntmps4
    go_wp2_with (at_builtin; refine wpList_append_own _ rfl (.tmp 3) (.tmp 4) 22 rfl w.heap.size 5 i0 _ 1 1 Tryz.underlying22 hi hz0 hz1 hz2 rfl (by decide) (.slice (some ⟨w.heap.size, 0, none⟩) 0 0) 0 [] rfl H0.out ad l.length cap (Lib.byteCells l) rfl (by rw [Lib.byteCells_length, Nat.mul_one]) HC.out (bc_one l) (by unfold maxLen; omega) (by omega) (by rw [size_alloc]; omega) ?_; intro v' w3 hown' hgrow _; have H3 := hidOf (out_row ((Out.refl w).alloc _) H0.out hgrow); have HN := hidOf hown'; clear hown' hgrow)
    go_ret
    refine ⟨_, rfl, ?_, H3.out⟩
    have := HN.out
    rw [Nat.zero_add, List.nil_append] at this
    exact this
end Go.Proofs.YthdgmhohofakgaaGreatDoor
namespace Go.Proofs.YthdgmhohofakgaaGreatDoor
open Go.RowKit
set_option linter.unusedVariables false
set_option linter.unusedSimpArgs false
/-- what lies behind what is lent -/
def lmB (i : Nat) : UInt8 := UInt8.ofNat ((203 - 5 * (i : Int)) % 256).toNat
theorem lmB_val (i : Nat) : (203 - 5 * (i : Int)) % 256 = ((lmB i).toNat : Int) := by
  have h0 : 0 ≤ (203 - 5 * (i : Int)) % 256 := Int.emod_nonneg _ (by omega)
  have h1 : (203 - 5 * (i : Int)) % 256 < 256 := Int.emod_lt_of_pos _ (by omega)
  unfold lmB
  rw [UInt8.toNat_ofNat_of_lt' (by show _ < 256; omega)]
  omega
theorem lmark_any (p : Value) (i : Nat) (hi : i ≤ 1000000000000000) (w : World) : Calls Tryz.prog 24 #[p, .int .i64 i] w fun e w' => e = .returned (.int .u8 ((lmB i).toNat : Int)) ∧ w = w' := by
  have hv := lmB_val i
  go_enter Tryz.func24, Tryz.ntmps24
  go_wp2
  go_ret
  exact ⟨by rw [← hv]; rfl, rfl⟩
def lmsB (a k : Nat) : List UInt8 := (List.range' a k).map lmB
theorem lmsB_len (a k : Nat) : (lmsB a k).length = k := by simp [lmsB]
theorem lmsB_succ (a k : Nat) : lmsB a (k + 1) = lmsB a k ++ [lmB (a + k)] := by simp [lmsB, List.range'_concat]
/-- a list written over another -/
def ov (A L : List UInt8) : List UInt8 := A ++ L.drop A.length
theorem ov_len {A L : List UInt8} (h : A.length ≤ L.length) : (ov A L).length = L.length := by simp [ov]; omega
theorem ov_nil (L : List UInt8) : ov [] L = L := by simp [ov]
theorem ov_set {A L : List UInt8} {k : Nat} (hk : A.length = k) (h : k < L.length) (x : UInt8) : (ov A L).set k x = ov (A ++ [x]) L := by
  subst hk
  unfold ov
  rw [List.set_append_right _ _ (Nat.le_refl _), Nat.sub_self, List.drop_eq_getElem_cons h, List.set_cons_zero]
  simp
/-- the lender's block at p, its buffer at g -/
structure LeB (w : World) (p g m : Nat) (N : Int) (L : List UInt8) : Prop where
  hp : w.heap[p]? = some (.cells #[.slice (some ⟨g, 0, none⟩) m m, .int .i64 N] 25 (0, 0))
  hg : w.heap[g]? = some (.cells (bCells L).toArray 5 (0, 0))
  len_ : L.length = m
theorem LeB.ne {w : World} {p g m : Nat} {N : Int} {L : List UInt8} (h : LeB w p g m N L) : ¬ p = g := fun e => by
  have := h.hp; rw [e, h.hg] at this; simp at this
theorem LeB.c0 {w : World} {p g m : Nat} {N : Int} {L : List UInt8} (h : LeB w p g m N L) : w.cell? ⟨p, 0, none⟩ = some (.slice (some ⟨g, 0, none⟩) m m) := by rw [cell_atL h.hp]; rfl
theorem LeB.c1 {w : World} {p g m : Nat} {N : Int} {L : List UInt8} (h : LeB w p g m N L) : w.cell? ⟨p, 1, none⟩ = some (.int .i64 N) := by rw [cell_atL h.hp]; rfl
theorem LeB.cell {w : World} {p g m : Nat} {N : Int} {L : List UInt8} (h : LeB w p g m N L) {k : Nat} {x : UInt8} (hx : L[k]? = some x) : w.cell? ⟨g, k, none⟩ = some (.int .u8 (x.toNat : Int)) := by
  rw [cell_atL h.hg]; simp [bCells, hx]
theorem LeB.fp {w : World} {p g m : Nat} {N : Int} {L : List UInt8} (h : LeB w p g m N L) (j : Nat) : w.frozen? ⟨p, j, none⟩ = false := frozen_atL h.hp j
theorem LeB.fg {w : World} {p g m : Nat} {N : Int} {L : List UInt8} (h : LeB w p g m N L) (j : Nat) : w.frozen? ⟨g, j, none⟩ = false := frozen_atL h.hg j
theorem LeB.ltp {w : World} {p g m : Nat} {N : Int} {L : List UInt8} (h : LeB w p g m N L) : p < w.heap.size := (Array.getElem?_eq_some_iff.1 h.hp).1
theorem LeB.ltg {w : World} {p g m : Nat} {N : Int} {L : List UInt8} (h : LeB w p g m N L) : g < w.heap.size := (Array.getElem?_eq_some_iff.1 h.hg).1
theorem LeB.drew {w : World} {p g m : Nat} {N : Int} {L : List UInt8} (h : LeB w p g m N L) : LeB w.drew p g m N L := ⟨h.hp, h.hg, h.len_⟩
theorem LeB.drewN {w : World} {p g m : Nat} {N : Int} {L : List UInt8} (h : LeB w p g m N L) (n : Nat) : LeB (w.drewN n) p g m N L := ⟨h.hp, h.hg, h.len_⟩
theorem LeB.out {w w' : World} {p g m : Nat} {N : Int} {L : List UInt8} (h : LeB w p g m N L) (o : Out w w') : LeB w' p g m N L := ⟨(o.block p h.ltp).trans h.hp, (o.block g h.ltg).trans h.hg, h.len_⟩
theorem LeB.set {w : World} {p g m : Nat} {N : Int} {L : List UInt8} (h : LeB w p g m N L) (k : Nat) (x : UInt8) : LeB (w.setCell ⟨g, k, none⟩ (.int .u8 (x.toNat : Int))) p g m N (L.set k x) := by
  refine ⟨?_, ?_, by simpa using h.len_⟩
  · rw [Below.heap_setCell _ _ _ _ h.ne]; exact h.hp
  · rw [set_atL h.hg]
    simp [bCells, List.map_set]
theorem LeB.setN {w : World} {p g m : Nat} {N : Int} {L : List UInt8} (h : LeB w p g m N L) (n : Int) : LeB (w.setCell ⟨p, 1, none⟩ (.int .i64 n)) p g m n L := by
  refine ⟨?_, ?_, h.len_⟩
  · rw [set_atL h.hp]; rfl
  · rw [Below.heap_setCell _ _ _ _ (fun e => h.ne e.symm)]; exact h.hg
/-- the blocks that the lender may write -/
def SL (p g k : Nat) : Prop := k = p ∨ k = g
theorem RestAt.chg {N N' : Nat} {S : Nat → Prop} {w w' : World} {a : Option Addr} {l : List UInt8} (h : RestAt N w a l) (c : Chg S w w') (hs : ∀ k, k < N → ¬ S k) (hN : N ≤ N') : RestAt N' w' a l := by
  rcases h with h | ⟨b, o, hb, ha, hc⟩
  · exact .inl h
  · exact .inr ⟨b, o, by omega, ha, fun k x hx => c.cell (hc k x hx) (hs b hb)⟩
theorem LeB.rest {w : World} {p g m : Nat} {N : Int} {l L : List UInt8} (h : LeB w p g m N (l ++ L)) : RestAt w.heap.size w (some ⟨g, 0, none⟩) l :=
  .inr ⟨g, 0, h.ltg, rfl, fun k x hx => by rw [Nat.zero_add]; exact h.cell (by rw [List.getElem?_append_left (List.getElem?_eq_some_iff.1 hx).1]; exact hx)⟩
end Go.Proofs.YthdgmhohofakgaaGreatDoor
namespace Go.Proofs.YthdgmhohofakgaaGreatDoor
open Go.RowKit
set_option linter.unusedVariables false
set_option linter.unusedSimpArgs false
/-- behind Lend -/
def LendEnd (w : World) (p g m : Nat) (l L : List UInt8) (e : Ending) (w' : World) : Prop :=
  e = .returned (.slice (some ⟨g, 0, none⟩) l.length (2 * l.length + 70)) ∧ LeB w' p g m l.length (l ++ (lmsB l.length (l.length + 70) ++ L.drop (2 * l.length + 70))) ∧ Chg (SL p g) w w'
theorem ov_end (l L : List UInt8) (k : Nat) (hk : k = 2 * l.length + 70) : ov (l ++ lmsB l.length (l.length + 70)) L = l ++ (lmsB l.length (l.length + 70) ++ L.drop (2 * l.length + 70)) := by
  unfold ov
  rw [List.append_assoc, List.length_append, lmsB_len, show l.length + (l.length + 70) = 2 * l.length + 70 by omega]
theorem take_snocB {l : List UInt8} {j : Nat} {y : UInt8} (h : l[j]? = some y) : l.take j ++ [y] = l.take (j + 1) := by
  rw [List.take_add_one, h]; rfl
theorem info1 : (Tryz.prog.info? 5).map (fun i => (i.zero, i.size, i.bytes)) = some (some (.int .u8 0), 1, 1) := by kernel_rfl
theorem made_bytesLr (N : Nat) : madeCells #[.int .u8 0] N = (bCells (List.replicate N 0)).toArray := by
  apply Array.ext_getElem?
  intro j
  simp only [madeCells, Array.getElem?_map, List.getElem?_toArray, bCells, List.getElem?_map, List.getElem?_replicate]
  by_cases hj : j < N
  · rw [if_pos hj, Array.getElem?_range, if_pos hj]
    simp [Nat.mod_one]
  · rw [if_neg hj, Array.getElem?_range, if_neg hj]; rfl
theorem run_make_bytesLr (n : Nat) (hn : n ≤ 281474976710656) (w : World) : (Instr.makeSlice 22 (.int .i64 (n : Int)) (.int .i64 (n : Int))).run Tryz.prog w = .ok (.slice (some ⟨w.heap.size, 0, none⟩) n n) (w.alloc (.cells (bCells (List.replicate n 0)).toArray 5)) := by
  obtain ⟨i0, hi, hz0, hz1, hz2⟩ := info_parts info1
  have h := run_make (P := Tryz.prog) w 22 5 i0 _ Tryz.underlying22 hi hz0 .i64 .i64 (n : Int) (n : Int) (by omega) (Int.le_refl _) (by rw [hz2]; omega) (by omega)
  rw [hz1] at h
  simp only [Int.toNat_natCast, Value.cells, Nat.mul_one] at h
  rw [h, made_bytesLr]
set_option maxRecDepth 20000 in
set_option maxHeartbeats 3000000 in
theorem lend_again (B : Nat) (W : World) (p g m : Nat) (N : Int) (L : List UInt8) (h : LeB W p g m N L) (a : Option Addr) (cap : Nat) (l : List UInt8) (hr : RestAt B W a l) (hbp : ¬ l = [] → ∀ ad, a = some ad → ¬ ad.block = p) (hbg : ¬ l = [] → ∀ ad, a = some ad → ¬ ad.block = g) (hm : 2 * l.length + 70 ≤ m) (hll : l.length ≤ 100000000000000) :
    Calls Tryz.prog 9 #[.pointer (some ⟨p, 0, none⟩), .slice a l.length cap] W fun e w' => LendEnd W p g m l L e w' := by
  have H := hidOf h
  have HR := hidOf hr
  have hBp := hidOf hbp
  have hBg := hidOf hbg
  have c0 := h.c0
  have hmI : ¬ (m : Int) < 2 * (l.length : Int) + 70 := by omega
  have hmN : l.length ≤ m := by omega
  clear h hr hbp hbg
  go_enter Tryz.func9, Tryz.ntmps9
  go_wp2
  clear c0
  have HC0 := hidOf (Chg.refl (SL p g) W)
  have Hll := hidOf hll
  go_loopw [5] (fun kv wr => ∃ (j : Nat) (A : List UInt8), kv = .int .i64 j ∧ j ≤ l.length ∧ Hid (A = l.take j) ∧ Hid (LeB wr p g m N (ov A L)) ∧ Hid (Chg (SL p g) W wr)) (fun kv _ => l.length - (intOf kv).toNat)
  case atStart => exact ⟨0, [], rfl, by omega, hidOf rfl, by rw [ov_nil]; exact H, HC0⟩
  case round =>
    obtain ⟨j, A, rfl, hj, HA, HB, HC⟩ := hrel
    have hAl : Hid (A.length = j) := by rw [HA.out]; exact hidOf (by simp; omega)
    have hLl : Hid (L.length = m) := H.out.len_
    by_cases hlt : j < l.length
    · have hltI : (j : Int) < l.length := by omega
      obtain ⟨y, hy⟩ : ∃ y, l[j]? = some y := ⟨_, List.getElem?_eq_getElem hlt⟩
      obtain ⟨b, o, hb, rfl, hcx⟩ : ∃ b o, b < B ∧ a = some ⟨b, o, none⟩ ∧ ∀ k y, l[k]? = some y → W.cell? ⟨b, o + k, none⟩ = some (.int .u8 (y.toNat : Int)) := by
        rcases HR.out with h | h
        · rw [h] at hlt; simp at hlt
        · exact h
      have hl0 : ¬ l = [] := fun e => by rw [e] at hlt; simp at hlt
      have nb1 : ¬ b = p := hBp.out hl0 ⟨b, o, none⟩ rfl
      have nb2 : ¬ b = g := hBg.out hl0 ⟨b, o, none⟩ rfl
      have qy := HC.out.cell (hcx j y hy) (fun h => by rcases h with h | h; exact nb1 h; exact nb2 h)
      obtain ⟨z, hz⟩ : ∃ z, (ov A L)[j]? = some z := ⟨_, List.getElem?_eq_getElem (by have := hAl.out; have := hLl.out; rw [ov_len (by omega)]; omega)⟩
      have d0 := HB.out.c0
      have dz := HB.out.cell hz
      have fz := HB.out.fg j
      have HB2 : Hid (LeB (wr.setCell ⟨g, j, none⟩ (.int .u8 (y.toNat : Int))) p g m N (ov (A ++ [y]) L)) := by
        have := HB.out.set j y
        rw [ov_set hAl.out (by have := hLl.out; omega)] at this
        exact this
      have HA2 : Hid (A ++ [y] = l.take (j + 1)) := by rw [HA.out]; exact hidOf (take_snocB hy)
      have HC2 : Hid (Chg (SL p g) W (wr.setCell ⟨g, j, none⟩ (.int .u8 (y.toNat : Int)))) := Chg.setCell HC.out (p := ⟨g, j, none⟩) (.inr rfl) _
      have hjm : (j : Int) < m := by omega
      have hgb : ¬ g = b := fun e => nb2 e.symm
      have hgp : ¬ g = p := fun e => HB.out.ne e.symm
      clear hcx hy hz
      go_upto_region 6 with fail
      go_region_held3 (fun w' => w'.cell? ⟨p, 0, none⟩ = some (.slice (some ⟨g, 0, none⟩) m m) ∧ w'.cell? ⟨b, o + j, none⟩ = some (.int .u8 (y.toNat : Int))) (first | exact ⟨d0, qy⟩ | go_keep) (fail)
      go_wp2
      go_roundw
      case rel =>
        exact ⟨j + 1, A ++ [y], by simp, by omega, HA2, HB2.out.drew, HC2.out.drew⟩
      case measure => simp [intOf]; omega
    · have hltI : ¬ (j : Int) < l.length := by omega
      obtain rfl : j = l.length := by omega
      have HA0 : Hid (A = l ++ lmsB l.length (l.length - l.length)) := by rw [HA.out, List.take_length, Nat.sub_self]; exact hidOf (by simp [lmsB])
      clear HA hAl
      go_wp2
      obtain ⟨w1, hw1⟩ : ∃ w1, w1 = wr := ⟨_, rfl⟩
      rw [← hw1] at HB HC
      have Hw1 := hidOf hw1
      clear hw1
      go_loopw [6] (fun kv wr => ∃ (j : Nat) (A : List UInt8), kv = .int .i64 j ∧ l.length ≤ j ∧ j ≤ 2 * l.length + 70 ∧ Hid (A = l ++ lmsB l.length (j - l.length)) ∧ Hid (LeB wr p g m N (ov A L)) ∧ Hid (Chg (SL p g) W wr)) (fun kv _ => 2 * l.length + 70 - (intOf kv).toNat)
      case atStart => exact ⟨l.length, A, rfl, by omega, by omega, HA0, by rw [← Hw1.out]; exact HB, by rw [← Hw1.out]; exact HC⟩
      case round =>
        clear HB HC HA0 Hw1
        obtain ⟨j, A, rfl, hj0, hj, HA, HB, HC⟩ := hrel
        have hAl : Hid (A.length = j) := by rw [HA.out, List.length_append, lmsB_len]; exact hidOf (by omega)
        by_cases hlt : j < 2 * l.length + 70
        · have hltI : (j : Int) < 2 * (l.length : Int) + 70 := by omega
          obtain ⟨z, hz⟩ : ∃ z, (ov A L)[j]? = some z := ⟨_, List.getElem?_eq_getElem (by have := hAl.out; have := hLl.out; rw [ov_len (by omega)]; omega)⟩
          have d0 := HB.out.c0
          have dz := HB.out.cell hz
          have fz := HB.out.fg j
          have HB2 : Hid (LeB (wr.setCell ⟨g, j, none⟩ (.int .u8 ((lmB j).toNat : Int))) p g m N (ov (A ++ [lmB j]) L)) := by
            have := HB.out.set j (lmB j)
            rw [ov_set hAl.out (by have := hLl.out; omega)] at this
            exact this
          have HA2 : Hid (A ++ [lmB j] = l ++ lmsB l.length (j + 1 - l.length)) := by
            rw [HA.out, show j + 1 - l.length = (j - l.length) + 1 by omega, lmsB_succ, show l.length + (j - l.length) = j by omega]
            exact hidOf (by simp)
          have HC2 : Hid (Chg (SL p g) W (wr.setCell ⟨g, j, none⟩ (.int .u8 ((lmB j).toNat : Int)))) := Chg.setCell HC.out (p := ⟨g, j, none⟩) (.inr rfl) _
          have hjm : (j : Int) < m := by omega
          have hgp : ¬ g = p := fun e => HB.out.ne e.symm
          have CMk : Hid (∀ wx, Calls Tryz.prog 24 #[.pointer (some ⟨p, 0, none⟩), .int .i64 j] wx fun e w' => e = .returned (.int .u8 ((lmB j).toNat : Int)) ∧ wx = w') := fun wx => lmark_any _ j (by omega) wx
          generalize lmB j = y at *
          clear hz
          go_upto_region 10 with fail
          go_region_held3 (fun w' => w'.cell? ⟨p, 0, none⟩ = some (.slice (some ⟨g, 0, none⟩) m m)) (first | exact d0 | go_keep) (first | (go_at_call 24; refine (CMk.out _).mono ?_; rintro e w2 ⟨rfl, rfl⟩))
          go_wp2
          go_roundw
          case rel => exact ⟨j + 1, A ++ [y], by simp, by omega, by omega, HA2, HB2.out.drew, HC2.out.drew⟩
          case measure => simp [intOf]; omega
        · have hltI : ¬ (j : Int) < 2 * (l.length : Int) + 70 := by omega
          have hje : Hid (A = l ++ lmsB l.length (l.length + 70)) := by rw [HA.out, show j - l.length = l.length + 70 by omega]; exact hidOf rfl
          have d0 := HB.out.c0
          have d1 := HB.out.c1
          have f1 := HB.out.fp 1
          have HB2 : Hid (LeB (wr.setCell ⟨p, 1, none⟩ (.int .i64 (l.length : Int))) p g m l.length (l ++ (lmsB l.length (l.length + 70) ++ L.drop (2 * l.length + 70)))) := by
            have := HB.out.setN (l.length : Int)
            rw [hje.out, ov_end l L _ rfl] at this
            exact this
          have HC2 : Hid (Chg (SL p g) W (wr.setCell ⟨p, 1, none⟩ (.int .i64 (l.length : Int)))) := Chg.setCell HC.out (p := ⟨p, 1, none⟩) (.inl rfl) _
          have e1 : (l.length : Int) ≤ 2 * (l.length : Int) + 70 := by omega
          have e2 : 2 * (l.length : Int) + 70 ≤ m := by omega
          go_wp2
          go_ret
          exact ⟨rfl, HB2.out, HC2.out⟩
set_option maxRecDepth 20000 in
set_option maxHeartbeats 3000000 in
theorem lend_new (B : Nat) (W : World) (p g m : Nat) (L : List UInt8) (h : W.heap[p]? = some (.cells #[.slice none 0 0, .int .i64 0] 25 (0, 0))) (a : Option Addr) (cap : Nat) (l : List UInt8) (hr : RestAt B W a l) (hBW : B ≤ W.heap.size) (hbp : ¬ l = [] → ∀ ad, a = some ad → ¬ ad.block = p) (hg : g = W.heap.size) (hm0 : m = 4 * l.length + 512) (hL : L = List.replicate m 0) (hll : l.length ≤ 60000000000000) :
    Calls Tryz.prog 9 #[.pointer (some ⟨p, 0, none⟩), .slice a l.length cap] W fun e w' => LendEnd W p g m l L e w' := by
  obtain ⟨N, hN⟩ : ∃ N : Int, N = 0 := ⟨0, rfl⟩
  have hplt : p < W.heap.size := (Array.getElem?_eq_some_iff.1 h).1
  have HR := hidOf hr
  have hBp := hidOf hbp
  have hBg : Hid (¬ l = [] → ∀ ad, a = some ad → ¬ ad.block = g) := fun hl0 ad had => by
    rcases hr with h | ⟨b, o, hb, ha, _⟩
    · exact absurd h hl0
    · rw [ha] at had; cases had; show ¬ b = g; omega
  have c0 : W.cell? ⟨p, 0, none⟩ = some (.slice none 0 0) := by rw [cell_atL h]; rfl
  have f0 : W.frozen? ⟨p, 0, none⟩ = false := frozen_atL h 0
  have hmk : (Instr.makeSlice 22 (.int .i64 (4 * (l.length : Int) + 512)) (.int .i64 (4 * (l.length : Int) + 512))).run Tryz.prog W = .ok (.slice (some ⟨g, 0, none⟩) m m) (W.alloc (.cells (bCells L).toArray 5)) := by
    have := run_make_bytesLr m (by omega) W
    rw [← hL, ← hg, hm0] at this
    simpa [hm0] using this
  have hsm : (0 : Int) < 2 * (l.length : Int) + 70 := by omega
  have hsz : (W.setCell ⟨p, 0, none⟩ (.slice (some ⟨g, 0, none⟩) m m)).heap.size = W.heap.size := by simp [World.setCell]
  have H : Hid (LeB ((W.setCell ⟨p, 0, none⟩ (.slice (some ⟨g, 0, none⟩) m m)).alloc (.cells (bCells L).toArray 5)) p g m N L) := by
    refine ⟨?_, ?_, by rw [hL]; simp⟩
    · rw [Below.heap_alloc _ _ _ (by rw [hsz]; exact hplt), set_atL h, hN]; rfl
    · have := heap_alloc_new (W.setCell ⟨p, 0, none⟩ (.slice (some ⟨g, 0, none⟩) m m)) (.cells (bCells L).toArray 5)
      rw [hsz, ← hg] at this
      exact this
  have HC0 : Hid (Chg (SL p g) W ((W.setCell ⟨p, 0, none⟩ (.slice (some ⟨g, 0, none⟩) m m)).alloc (.cells (bCells L).toArray 5))) := (Chg.setCell (Chg.refl _ W) (p := ⟨p, 0, none⟩) (.inl rfl) _).alloc _
  have hm : 2 * l.length + 70 ≤ m := by omega
  have hmN : l.length ≤ m := by omega
  have Hx := hidOf (And.intro hg hm0)
  clear h hr hbp hm0 hg hL hN
  go_enter Tryz.func9, Tryz.ntmps9
  go_upto_region 3 with fail
  generalize (W.setCell ⟨p, 0, none⟩ (.slice (some ⟨g, 0, none⟩) m m)).alloc (.cells (bCells L).toArray 5) = W1 at *
  clear c0 f0 hmk hsm hsz
  go_wp2
  have Hll := hidOf hll
  go_loopw [5] (fun kv wr => ∃ (j : Nat) (A : List UInt8), kv = .int .i64 j ∧ j ≤ l.length ∧ Hid (A = l.take j) ∧ Hid (LeB wr p g m N (ov A L)) ∧ Hid (Chg (SL p g) W wr)) (fun kv _ => l.length - (intOf kv).toNat)
  case atStart => exact ⟨0, [], rfl, by omega, hidOf rfl, by rw [ov_nil]; exact H, HC0⟩
  case round =>
    obtain ⟨j, A, rfl, hj, HA, HB, HC⟩ := hrel
    have hAl : Hid (A.length = j) := by rw [HA.out]; exact hidOf (by simp; omega)
    have hLl : Hid (L.length = m) := H.out.len_
    by_cases hlt : j < l.length
    · have hltI : (j : Int) < l.length := by omega
      obtain ⟨y, hy⟩ : ∃ y, l[j]? = some y := ⟨_, List.getElem?_eq_getElem hlt⟩
      obtain ⟨b, o, hb, rfl, hcx⟩ : ∃ b o, b < B ∧ a = some ⟨b, o, none⟩ ∧ ∀ k y, l[k]? = some y → W.cell? ⟨b, o + k, none⟩ = some (.int .u8 (y.toNat : Int)) := by
        rcases HR.out with h | h
        · rw [h] at hlt; simp at hlt
        · exact h
      have hl0 : ¬ l = [] := fun e => by rw [e] at hlt; simp at hlt
      have nb1 : ¬ b = p := hBp.out hl0 ⟨b, o, none⟩ rfl
      have nb2 : ¬ b = g := hBg.out hl0 ⟨b, o, none⟩ rfl
      have qy := HC.out.cell (hcx j y hy) (fun h => by rcases h with h | h; exact nb1 h; exact nb2 h)
      obtain ⟨z, hz⟩ : ∃ z, (ov A L)[j]? = some z := ⟨_, List.getElem?_eq_getElem (by have := hAl.out; have := hLl.out; rw [ov_len (by omega)]; omega)⟩
      have d0 := HB.out.c0
      have dz := HB.out.cell hz
      have fz := HB.out.fg j
      have HB2 : Hid (LeB (wr.setCell ⟨g, j, none⟩ (.int .u8 (y.toNat : Int))) p g m N (ov (A ++ [y]) L)) := by
        have := HB.out.set j y
        rw [ov_set hAl.out (by have := hLl.out; omega)] at this
        exact this
      have HA2 : Hid (A ++ [y] = l.take (j + 1)) := by rw [HA.out]; exact hidOf (take_snocB hy)
      have HC2 : Hid (Chg (SL p g) W (wr.setCell ⟨g, j, none⟩ (.int .u8 (y.toNat : Int)))) := Chg.setCell HC.out (p := ⟨g, j, none⟩) (.inr rfl) _
      have hjm : (j : Int) < m := by omega
      have hgb : ¬ g = b := fun e => nb2 e.symm
      have hgp : ¬ g = p := fun e => HB.out.ne e.symm
      clear hcx hy hz
      go_upto_region 6 with fail
      go_region_held3 (fun w' => w'.cell? ⟨p, 0, none⟩ = some (.slice (some ⟨g, 0, none⟩) m m) ∧ w'.cell? ⟨b, o + j, none⟩ = some (.int .u8 (y.toNat : Int))) (first | exact ⟨d0, qy⟩ | go_keep) (fail)
      go_wp2
      go_roundw
      case rel =>
        exact ⟨j + 1, A ++ [y], by simp, by omega, HA2, HB2.out.drew, HC2.out.drew⟩
      case measure => simp [intOf]; omega
    · have hltI : ¬ (j : Int) < l.length := by omega
      obtain rfl : j = l.length := by omega
      have HA0 : Hid (A = l ++ lmsB l.length (l.length - l.length)) := by rw [HA.out, List.take_length, Nat.sub_self]; exact hidOf (by simp [lmsB])
      clear HA hAl
      go_wp2
      obtain ⟨w1, hw1⟩ : ∃ w1, w1 = wr := ⟨_, rfl⟩
      rw [← hw1] at HB HC
      have Hw1 := hidOf hw1
      clear hw1
      go_loopw [6] (fun kv wr => ∃ (j : Nat) (A : List UInt8), kv = .int .i64 j ∧ l.length ≤ j ∧ j ≤ 2 * l.length + 70 ∧ Hid (A = l ++ lmsB l.length (j - l.length)) ∧ Hid (LeB wr p g m N (ov A L)) ∧ Hid (Chg (SL p g) W wr)) (fun kv _ => 2 * l.length + 70 - (intOf kv).toNat)
      case atStart => exact ⟨l.length, A, rfl, by omega, by omega, HA0, by rw [← Hw1.out]; exact HB, by rw [← Hw1.out]; exact HC⟩
      case round =>
        clear HB HC HA0 Hw1
        obtain ⟨j, A, rfl, hj0, hj, HA, HB, HC⟩ := hrel
        have hAl : Hid (A.length = j) := by rw [HA.out, List.length_append, lmsB_len]; exact hidOf (by omega)
        by_cases hlt : j < 2 * l.length + 70
        · have hltI : (j : Int) < 2 * (l.length : Int) + 70 := by omega
          obtain ⟨z, hz⟩ : ∃ z, (ov A L)[j]? = some z := ⟨_, List.getElem?_eq_getElem (by have := hAl.out; have := hLl.out; rw [ov_len (by omega)]; omega)⟩
          have d0 := HB.out.c0
          have dz := HB.out.cell hz
          have fz := HB.out.fg j
          have HB2 : Hid (LeB (wr.setCell ⟨g, j, none⟩ (.int .u8 ((lmB j).toNat : Int))) p g m N (ov (A ++ [lmB j]) L)) := by
            have := HB.out.set j (lmB j)
            rw [ov_set hAl.out (by have := hLl.out; omega)] at this
            exact this
          have HA2 : Hid (A ++ [lmB j] = l ++ lmsB l.length (j + 1 - l.length)) := by
            rw [HA.out, show j + 1 - l.length = (j - l.length) + 1 by omega, lmsB_succ, show l.length + (j - l.length) = j by omega]
            exact hidOf (by simp)
          have HC2 : Hid (Chg (SL p g) W (wr.setCell ⟨g, j, none⟩ (.int .u8 ((lmB j).toNat : Int)))) := Chg.setCell HC.out (p := ⟨g, j, none⟩) (.inr rfl) _
          have hjm : (j : Int) < m := by omega
          have hgp : ¬ g = p := fun e => HB.out.ne e.symm
          have CMk : Hid (∀ wx, Calls Tryz.prog 24 #[.pointer (some ⟨p, 0, none⟩), .int .i64 j] wx fun e w' => e = .returned (.int .u8 ((lmB j).toNat : Int)) ∧ wx = w') := fun wx => lmark_any _ j (by omega) wx
          generalize lmB j = y at *
          clear hz
          go_upto_region 10 with fail
          go_region_held3 (fun w' => w'.cell? ⟨p, 0, none⟩ = some (.slice (some ⟨g, 0, none⟩) m m)) (first | exact d0 | go_keep) (first | (go_at_call 24; refine (CMk.out _).mono ?_; rintro e w2 ⟨rfl, rfl⟩))
          go_wp2
          go_roundw
          case rel => exact ⟨j + 1, A ++ [y], by simp, by omega, by omega, HA2, HB2.out.drew, HC2.out.drew⟩
          case measure => simp [intOf]; omega
        · have hltI : ¬ (j : Int) < 2 * (l.length : Int) + 70 := by omega
          have hje : Hid (A = l ++ lmsB l.length (l.length + 70)) := by rw [HA.out, show j - l.length = l.length + 70 by omega]; exact hidOf rfl
          have d0 := HB.out.c0
          have d1 := HB.out.c1
          have f1 := HB.out.fp 1
          have HB2 : Hid (LeB (wr.setCell ⟨p, 1, none⟩ (.int .i64 (l.length : Int))) p g m l.length (l ++ (lmsB l.length (l.length + 70) ++ L.drop (2 * l.length + 70)))) := by
            have := HB.out.setN (l.length : Int)
            rw [hje.out, ov_end l L _ rfl] at this
            exact this
          have HC2 : Hid (Chg (SL p g) W (wr.setCell ⟨p, 1, none⟩ (.int .i64 (l.length : Int)))) := Chg.setCell HC.out (p := ⟨p, 1, none⟩) (.inl rfl) _
          have e1 : (l.length : Int) ≤ 2 * (l.length : Int) + 70 := by omega
          have e2 : 2 * (l.length : Int) + 70 ≤ m := by omega
          go_wp2
          go_ret
          exact ⟨rfl, HB2.out, HC2.out⟩
end Go.Proofs.YthdgmhohofakgaaGreatDoor
namespace Go.Proofs.YthdgmhohofakgaaGreatDoor
open Go.RowKit
set_option linter.unusedVariables false
set_option linter.unusedSimpArgs false
theorem lms_get {n k j : Nat} (h : j < k) : (lmsB n k)[j]? = some (lmB (n + j)) := by
  unfold lmsB
  rw [List.getElem?_map, List.getElem?_range' h]
  simp
set_option maxRecDepth 20000 in
set_option maxHeartbeats 3000000 in
theorem back_any (w : World) (p g m : Nat) (l R : List UInt8) (h : LeB w p g m l.length (l ++ (lmsB l.length (l.length + 70) ++ R))) (N : Nat) (a : Option Addr) (cap : Nat) (hr : RestAt N w a l) (hll : l.length ≤ 100000000000000) :
    Calls Tryz.prog 10 #[.pointer (some ⟨p, 0, none⟩), .slice a l.length cap] w fun e w' => e = .returned (.bool true) ∧ (∃ L', LeB w' p g m l.length L') ∧ Chg (SL p g) w w' := by
  have H := hidOf h
  have hm : 2 * l.length + 70 ≤ m := by have := h.len_; simp [lmsB_len] at this; omega
  have c0 := h.c0
  have c1 := h.c1
  have hv1 : ∀ n, (convert 22 9 (.slice (some ⟨g, 0, none⟩) l.length m)).run Tryz.prog (w.drewN n) = .ok (.string ⟨l.toArray⟩) (w.drewN n) := fun n => conv_rest (w := w.drewN n) (h.drewN n).rest m
  have hv2 : ∀ n, (convert 22 9 (.slice a l.length cap)).run Tryz.prog (w.drewN n) = .ok (.string ⟨l.toArray⟩) (w.drewN n) := fun n => conv_rest (w := w.drewN n) (N := N) hr cap
  have hmI : (l.length : Int) ≤ m := by omega
  have hEq : decide ((l.length : Int) = (l.length : Int)) = true := by simp
  clear h hr
  go_enter Tryz.func10, Tryz.ntmps10
  go_upto_region 1 with fail
  go_quiet (fail)
  clear hv1 hv2
  have c1' : (w.drewN nq).cell? ⟨p, 1, none⟩ = some (.int .i64 (l.length : Int)) := c1
  go_wp2
  go_loopw [5, 6] (fun okv kv wr => ∃ j : Nat, okv = .bool true ∧ kv = .int .i64 j ∧ l.length ≤ j ∧ j ≤ 2 * l.length + 70 ∧ Hid (Out w wr)) (fun _ kv _ => 2 * l.length + 70 - (intOf kv).toNat)
  case atStart => exact ⟨l.length, rfl, rfl, by omega, by omega, hidOf ((Out.refl w).drewN nq)⟩
  case round =>
    obtain ⟨j, rfl, rfl, hj0, hj, HO⟩ := hrel
    have HB := hidOf (H.out.out HO.out)
    have d0 := HB.out.c0
    have d1 := HB.out.c1
    by_cases hlt : j < 2 * l.length + 70
    · have hltI : (j : Int) < 2 * (l.length : Int) + 70 := by omega
      have hjm : (j : Int) < m := by omega
      have dz : wr.cell? ⟨g, j, none⟩ = some (.int .u8 ((lmB j).toNat : Int)) := HB.out.cell (by
        rw [List.getElem?_append_right (by omega), List.getElem?_append_left (by rw [lmsB_len]; omega), lms_get (by omega), show l.length + (j - l.length) = j by omega])
      have CMk : Hid (∀ wx, Calls Tryz.prog 24 #[.pointer (some ⟨p, 0, none⟩), .int .i64 j] wx fun e w' => e = .returned (.int .u8 ((lmB j).toNat : Int)) ∧ w' = wx) := fun wx => (lmark_any _ j (by omega) wx).mono (fun e w' h => ⟨h.1, h.2.symm⟩)
      generalize lmB j = y at *
      go_upto_region 5 with fail
      go_quiet ((go_at_call 24; exact Calls.quiet_of_same (CMk.out _)))
      go_wp2
      go_roundw
      case rel => exact ⟨j + 1, rfl, by simp, by omega, by omega, hidOf (HO.out.drewN nq)⟩
      case measure => simp [intOf]; omega
    · have hltI : ¬ (j : Int) < 2 * (l.length : Int) + 70 := by omega
      go_wp2
      obtain ⟨w1, hw1⟩ : ∃ w1, w1 = wr := ⟨_, rfl⟩
      rw [← hw1] at HB HO
      have Hw1 := hidOf hw1
      clear hw1 d0 d1
      go_loopw [7] (fun kv wr => ∃ (j : Nat) (L : List UInt8), kv = .int .i64 j ∧ j ≤ l.length ∧ Hid (LeB wr p g m l.length L) ∧ Hid (Chg (SL p g) w wr)) (fun kv _ => l.length - (intOf kv).toNat)
      case atStart => exact ⟨0, _, rfl, by omega, by rw [← Hw1.out]; exact HB, by rw [← Hw1.out]; exact Chg.of_out HO.out⟩
      case round =>
        clear HB HO Hw1
        obtain ⟨j, L, rfl, hj, HB, HC⟩ := hrel
        have d0 := HB.out.c0
        have d1 := HB.out.c1
        by_cases hlt : j < l.length
        · have hltI : (j : Int) < l.length := by omega
          obtain ⟨z, hz⟩ : ∃ z, L[j]? = some z := ⟨_, List.getElem?_eq_getElem (by have := HB.out.len_; omega)⟩
          have dz := HB.out.cell hz
          have fz := HB.out.fg j
          have HB2 : Hid (LeB (wr.setCell ⟨g, j, none⟩ (.int .u8 120)) p g m l.length (L.set j 120)) := HB.out.set j 120
          have HC2 : Hid (Chg (SL p g) w (wr.setCell ⟨g, j, none⟩ (.int .u8 120))) := Chg.setCell HC.out (p := ⟨g, j, none⟩) (.inr rfl) _
          have hjm : (j : Int) < m := by omega
          go_wp2
          go_roundw
          case rel => exact ⟨j + 1, _, by simp, by omega, HB2, HC2⟩
          case measure => simp [intOf]; omega
        · have hltI : ¬ (j : Int) < l.length := by omega
          go_wp2
          go_ret
          exact ⟨rfl, ⟨_, HB.out⟩, HC.out⟩
end Go.Proofs.YthdgmhohofakgaaGreatDoor
namespace Go.Proofs.YthdgmhohofakgaaGreatDoor
open Go.RowKit
set_option linter.unusedVariables false
set_option linter.unusedSimpArgs false
/-- the lender: new, or with a buffer that is long enough -/
def LS (w : World) (p B n : Nat) : Prop := w.heap[p]? = some (.cells #[.slice none 0 0, .int .i64 0] 25 (0, 0)) ∨ ∃ g m N L, LeB w p g m N L ∧ B ≤ g ∧ 2 * n + 70 ≤ m
theorem LS.lt {w : World} {p B n : Nat} (h : LS w p B n) : p < w.heap.size := by
  rcases h with h | ⟨g, m, N, L, h, _⟩
  · exact (Array.getElem?_eq_some_iff.1 h).1
  · exact h.ltp
theorem LS.out {w w' : World} {p B n : Nat} (h : LS w p B n) (o : Out w w') : LS w' p B n := by
  have hl := h.lt
  rcases h with h | ⟨g, m, N, L, h, hg, hm⟩
  · exact .inl ((o.block p hl).trans h)
  · exact .inr ⟨g, m, N, L, h.out o, hg, hm⟩
/-- a text lies apart from the lender -/
def Ap (w : World) (p : Nat) (a : Option Addr) (l : List UInt8) : Prop := ¬ l = [] → ∀ ad, a = some ad → ¬ ad.block = p ∧ ∀ g m N L, LeB w p g m N L → ¬ ad.block = g
theorem Ap.out {w w' : World} {p B n : Nat} {a : Option Addr} {l : List UInt8} (h : Ap w p a l) (s : LS w p B n) (o : Out w w') : Ap w' p a l := fun hl ad ha => by
  refine ⟨(h hl ad ha).1, fun g m N L hb => ?_⟩
  rcases s with s | ⟨g1, m1, N1, L1, s, _⟩
  · have h1 := hb.hp
    rw [(o.block p (Array.getElem?_eq_some_iff.1 s).1).trans s] at h1
    simp at h1
  · have h1 := hb.hp
    rw [(s.out o).hp] at h1
    simp at h1
    rw [← h1.1.1]
    exact (h hl ad ha).2 _ _ _ _ s
/-- the blocks that Lend writes hold no tokens -/
def LP (w : World) (p g : Nat) : Prop := (∃ cs, w.heap[p]? = some (.cells cs 25 (0, 0))) ∧ (w.heap.size ≤ g ∨ ∃ cs, w.heap[g]? = some (.cells cs 5 (0, 0)))
theorem LeB.lp {w : World} {p g m : Nat} {N : Int} {L : List UInt8} (h : LeB w p g m N L) : LP w p g := ⟨⟨_, h.hp⟩, .inr ⟨_, h.hg⟩⟩
theorem OwS.lp {B p g : Nat} {v : Value} {T : List (List UInt8)} {w w' : World} (h : OwS B v T w) (k : LP w p g) (c : Chg (SL p g) w w') : OwS B v T w' := by
  refine owns_chg h (fun b hb hs => ?_) c
  rcases h.2 with ⟨hv, _⟩ | ⟨g1, cap, cur, hv, _, hg, _⟩
  · rw [hv] at hb; cases hb
  · rw [hv] at hb
    simp [Value.ownBlock] at hb
    subst hb
    rcases hs with e | e
    · obtain ⟨cs, h1⟩ := k.1
      rw [← e, hg] at h1; simp at h1
    · rcases k.2 with h1 | ⟨cs, h1⟩
      · have := (Array.getElem?_eq_some_iff.1 hg).1; omega
      · rw [← e, hg] at h1; simp at h1
theorem lend_any (w : World) (p B : Nat) (a : Option Addr) (cap : Nat) (l : List UInt8) (hs : LS w p B l.length) (hB : B ≤ w.heap.size) (hr : RestAt w.heap.size w a l) (ha : Ap w p a l) (hll : l.length ≤ 60000000000000) :
    Calls Tryz.prog 9 #[.pointer (some ⟨p, 0, none⟩), .slice a l.length cap] w fun e w' => ∃ g m R, e = .returned (.slice (some ⟨g, 0, none⟩) l.length (2 * l.length + 70)) ∧ LeB w' p g m l.length (l ++ (lmsB l.length (l.length + 70) ++ R)) ∧ Chg (SL p g) w w' ∧ LP w p g ∧ B ≤ g ∧ (¬ l = [] → ∀ ad, a = some ad → ¬ SL p g ad.block) := by
  rcases hs with hs | ⟨g, m, N, L, hs, hg, hm⟩
  · refine (lend_new w.heap.size w p w.heap.size (4 * l.length + 512) (List.replicate (4 * l.length + 512) 0) hs a cap l hr (Nat.le_refl _) (fun h ad had => (ha h ad had).1) rfl rfl rfl hll).mono ?_
    rintro e w' ⟨he, hb, hc⟩
    refine ⟨_, _, _, he, hb, hc, ⟨⟨_, hs⟩, .inl (Nat.le_refl _)⟩, hB, fun h ad had hsl => ?_⟩
    rcases hsl with e | e
    · exact (ha h ad had).1 e
    · rcases hr with h1 | ⟨b, o, hb, h1, _⟩
      · exact h h1
      · rw [h1] at had; cases had; simp at e; omega
  · refine (lend_again w.heap.size w p g m N L hs a cap l hr (fun h ad had => (ha h ad had).1) (fun h ad had => (ha h ad had).2 _ _ _ _ hs) hm (by omega)).mono ?_
    rintro e w' ⟨he, hb, hc⟩
    refine ⟨_, _, _, he, hb, hc, hs.lp, hg, fun h ad had hsl => ?_⟩
    rcases hsl with e | e
    · exact (ha h ad had).1 e
    · exact (ha h ad had).2 _ _ _ _ hs e
theorem RestAt.keep {N : Nat} {S : Nat → Prop} {w w' : World} {a : Option Addr} {l : List UInt8} (h : RestAt N w a l) (c : Chg S w w') (hs : ¬ l = [] → ∀ ad, a = some ad → ¬ S ad.block) : RestAt N w' a l := by
  by_cases hl : l = []
  · exact .inl hl
  · rcases h with h | ⟨b, o, hb, ha, hc⟩
    · exact .inl h
    · exact .inr ⟨b, o, hb, ha, fun k x hx => c.cell (hc k x hx) (show ¬ S b from hs hl ⟨b, o, none⟩ ha)⟩
theorem Chg.lender {p g B : Nat} {w0 w w' : World} (c : Chg (SL p g) w w') (o : Out w0 w) (hB : B = w0.heap.size) (hp : B ≤ p) (hg : B ≤ g) : Out w0 w' :=
  Chg.out c o (fun k hk => by rcases hk with e | e <;> omega)
end Go.Proofs.YthdgmhohofakgaaGreatDoor
