import Derived.Test.YthififblejbleaaGreatDoorHy04
namespace Go.Proofs.YthififblejbleaaGreatDoor
open Go.RowKit
open Go.Maps (Keyed)
set_option linter.unusedVariables false
set_option linter.unusedSimpArgs false
theorem tw_len' {α : Type} (p : α → Bool) : ∀ (l : List α) (k : Nat), (l.take k).all p = true → k ≤ l.length → (k = l.length ∨ ∃ b, l[k]? = some b ∧ p b = false) → (l.takeWhile p).length = k
  | [], k, _, h, _ => by simp at h; simp [h]
  | x :: r, 0, _, _, h => by
    rcases h with h | ⟨b, hb, hp⟩
    · simp at h
    · simp at hb; subst hb; simp [List.takeWhile, hp]
  | x :: r, k + 1, ha, hk, h => by
    simp only [List.take_succ_cons, List.all_cons, Bool.and_eq_true] at ha
    simp only [List.takeWhile, ha.1, List.length_cons]
    rw [tw_len' p r k ha.2 (by simpa using hk) (by simpa using h)]
def twZ (m : List UInt8) : List UInt8 := m.takeWhile (fun b => b != 0)
theorem twZ_le (m : List UInt8) : (twZ m).length ≤ m.length := (List.takeWhile_sublist _).length_le
theorem twZ_take (m : List UInt8) : twZ m = m.take (twZ m).length := List.prefix_iff_eq_take.1 (List.takeWhile_prefix _)
theorem twZ_no (m : List UInt8) : ∀ b ∈ twZ m, ¬ b = 0 := fun b hb => by have := tw_all _ m b hb; simpa using this
theorem tw_at (p : UInt8 → Bool) : ∀ (m : List UInt8), (m.takeWhile p).length < m.length → ∃ b, m[(m.takeWhile p).length]? = some b ∧ p b = false
  | [], h => by simp at h
  | y :: r, h => by
    simp only [List.takeWhile] at h ⊢
    cases hy : p y
    · exact ⟨y, by simp, hy⟩
    · rw [hy] at h
      simp only [List.length_cons] at h
      obtain ⟨b, hb, hp⟩ := tw_at p r (by omega)
      exact ⟨b, by simpa using hb, hp⟩
theorem twZ_end (m : List UInt8) (h : (twZ m).length < m.length) : m[(twZ m).length]? = some 0 := by
  obtain ⟨b, hb, hp⟩ := tw_at (fun b => b != 0) m h
  rw [show twZ m = m.takeWhile (fun b => b != 0) from rfl, hb]
  simp at hp
  rw [hp]
theorem step_bad {m : List UInt8} {N : List (List UInt8)} (h : nameOk (twZ m) = false ∨ (twZ m).length = m.length ∨ twZ m ∈ N) : nmP m ∈ N ∨ nmP m = [] := by
  unfold nmP
  by_cases hc : (m.take 65).contains 0 = true
  · rw [if_pos hc]
    have hm : (0 : UInt8) ∈ m.take 65 := by simpa using hc
    have hl : (twZ m).length ≤ 64 ∧ (twZ m).length < m.length := by
      have h1 := nmP_le m
      have h2 : nmP m = twZ m := by unfold nmP; rw [if_pos hc]; rfl
      rw [h2] at h1
      refine ⟨h1.1, ?_⟩
      rcases Nat.lt_or_eq_of_le h1.2 with h3 | h3
      · exact h3
      · exfalso
        have h4 : twZ m = m := (List.takeWhile_sublist _).eq_of_length h3
        have h5 := twZ_no m 0 (by rw [h4]; exact List.mem_of_mem_take hm)
        exact h5 rfl
    rcases h with h | h | h
    · right
      rw [nameOk_none (twZ_no m)] at h
      have : ¬ 1 ≤ (twZ m).length := by
        intro h1
        rw [decide_eq_true h1, decide_eq_true hl.1] at h
        cases h
      exact List.length_eq_zero_iff.1 (show (twZ m).length = 0 by omega)
    · omega
    · left; exact h
  · rw [if_neg hc]; right; rfl
theorem step_ok {m : List UInt8} {N : List (List UInt8)} (h1 : nameOk (twZ m) = true) (h2 : ¬ (twZ m).length = m.length) (h3 : ¬ twZ m ∈ N) : nmP m = twZ m ∧ ¬ nmP m ∈ N ∧ ¬ nmP m = [] := by
  have hl := name_len h1
  have hlt : (twZ m).length < m.length := by have := twZ_le m; omega
  have hz := twZ_end m hlt
  have hc : (m.take 65).contains 0 = true := by
    have : (0 : UInt8) ∈ m.take 65 := List.mem_of_getElem? (i := (twZ m).length) (by rw [List.getElem?_take, if_pos (by omega)]; exact hz)
    simpa using this
  have e : nmP m = twZ m := by unfold nmP; rw [if_pos hc]; rfl
  rw [e]
  exact ⟨rfl, h3, name_ne h1⟩
theorem owns_base {B B' e sz n : Nat} {w : World} {v : Value} {xs : List Value} (h : w.ownsRow B e sz v n xs) (hb : B' ≤ B) : w.ownsRow B' e sz v n xs := by
  refine ⟨h.1, ?_⟩
  rcases h.2 with h0 | ⟨g, cap, cur, h1, h2, h3⟩
  · exact .inl h0
  · exact .inr ⟨g, cap, cur, h1, Nat.le_trans hb h2, h3⟩
set_option maxRecDepth 4000 in
set_option maxHeartbeats 2000000 in
theorem rbytes_any (a : Option Addr) (c : Nat) (N : List (List UInt8)) (w : World) (h : RT w a N) (hc : N.length ≤ c) (hb : szF 1 N ≤ 1000000000000) : Calls Tryz.prog 19 #[.agg #[.slice a N.length c]] w fun e w' => ∃ a' c', e = .returned (.slice a' (byP N).length c') ∧ OwB w.heap.size (.slice a' (byP N).length c') (byP N) w' ∧ Out w w' := by
  obtain ⟨i0, hi, hz0, hz1, hz2⟩ := info_parts infoB
  have hn := szF_ge N 1
  have hnn : N.length ≤ 1000000000000 := by omega
  have hnI : (N.length : Int) ≤ 1000000000000 := by omega
  have hcI : (N.length : Int) ≤ c := by omega
  obtain ⟨w1, hw1⟩ : ∃ w1, w1 = w.alloc (tabO a N.length c) := ⟨_, rfl⟩
  have hs1 : w1.heap.size = w.heap.size + 1 := by rw [hw1, size_alloc]
  have Hs1 := hidOf hs1
  have Ho : Hid (Out w w1) := by rw [hw1]; exact (Out.refl w).alloc _
  have Ho1 : Hid (Out w1 (w1.alloc (.cells #[.int .u8 0] 5 (0, 0)))) := (Out.refl _).alloc _
  have HW1 : Hid (OwB w1.heap.size (.slice (some ⟨w1.heap.size, 0, none⟩) 1 1) [0] (w1.alloc (.cells #[.int .u8 0] 5 (0, 0)))) := hidOf ⟨rfl, .inr ⟨w1.heap.size, 1, #[.int .u8 0], rfl, Nat.le_refl _, heap_alloc_new _ _, Nat.le_refl _, by unfold maxLen; omega, rfl, rfl⟩⟩
  have Hc0 : Hid (∀ wx, Out w1 wx → wx.cell? ⟨w.heap.size, 0, none⟩ = some (.slice a N.length c)) := hidOf (fun wx o => cell_later o (by rw [hw1]; exact cell_fresh _ _ _ _ _ rfl))
  have HRT : Hid (∀ wx, Out w1 wx → RT wx a N) := hidOf (fun wx o => h.out (Ho.out.trans o))
  have H := hidOf h
  have Hb := hidOf hb
  clear h hb
  go_enter Tryz.func19, Tryz.ntmps19
  go_wp2
  rw [show w.alloc (.cells #[.slice a N.length c] 58) = w1 from hw1.symm, ← hs1]
  clear hw1 hs1 H
  generalize w.heap.size = p at *
  generalize w1.alloc (.cells #[.int .u8 0] 5) = w2 at *
  go_loopw [3, 4] (fun bv iv wr => ∃ (k : Nat) (O : List UInt8) (ba : Option Addr) (bc : Nat), iv = .int .i64 k ∧ bv = .slice ba O.length bc ∧ k ≤ N.length ∧ O.length ≤ 1000000000000 ∧ Hid (O = byP (N.take k)) ∧ Hid (OwB w1.heap.size (.slice ba O.length bc) O wr) ∧ Hid (Out w1 wr)) (fun _ iv _ => N.length - (intOf iv).toNat)
  case atStart => exact ⟨0, [0], _, _, rfl, rfl, by omega, by simp, rfl, HW1.out, Ho1.out⟩
  case round =>
    obtain ⟨k, O, ba, bc, rfl, rfl, hk, hOl, HO, HB, Ho2⟩ := hrel
    have c0 := Hc0.out wr Ho2.out
    by_cases hkN : k < N.length
    · have hlt : (k : Int) < N.length := by omega
      have h0 : (0 : Int) ≤ k := by omega
      obtain ⟨x, hx⟩ : ∃ x, N[k]? = some x := ⟨_, List.getElem?_eq_getElem hkN⟩
      obtain ⟨b, off, rfl, hb, d⟩ := StrAt.get (HRT.out wr Ho2.out) hx
      have Hx := hidOf hx
      have hsz : (⟨x.toArray⟩ : ByteArray).size = x.length := mk_size x
      have hlen : szF 1 (N.take (k + 1)) = O.length + x.length + 1 := by rw [take_snoc hx, szF_snoc, ← byP_len, ← HO.out]
      have hle := szF_take N (k + 1)
      have hxl : O.length + x.length + 1 ≤ 1000000000000 := by have := Hb.out; omega
      have hsz' : w1.heap.size ≤ wr.heap.size := Ho2.out.size
      clear hx hlen hle hb
      go_wp2_with (first | (at_builtin; refine Lib.wpList_append_own_string _ rfl _ _ 27 9 rfl w1.heap.size 5 i0 Tryz.underlying27 Tryz.underlying9 hi hz0 hz1 hz2 (.slice ba O.length bc) O.length (Lib.byteCells O) rfl HB.out ⟨x.toArray⟩ rfl (by rw [hsz]; unfold maxLen; omega) (by rw [hsz]; omega) hsz' ?_; intro v3 w3 hown3 hgrow3 _; rw [hsz, bc_str, ← bc_app] at hown3; have HO3 := hidOf hown3; have Ho3 := hidOf (out_row Ho2.out HB.out hgrow3); clear hgrow3; obtain ⟨a3, c3, rfl⟩ := own_form hown3; clear hown3) | (at_builtin; refine wpList_append_own _ rfl (.tmp 20) (.tmp 21) 27 rfl w1.heap.size 5 i0 _ 1 1 Tryz.underlying27 hi hz0 hz1 hz2 rfl (by decide) (.slice a3 (O.length + x.length) c3) (O.length + x.length) (Lib.byteCells (O ++ x)) rfl (HO3.out.alloc _) ⟨w3.heap.size, 0, none⟩ 1 1 [.int .u8 0] rfl rfl (news_new w3 _ _ _ rfl) (fun u hu => by rw [List.mem_singleton.1 hu]; rfl) (by unfold maxLen; omega) (by omega) (by have := Ho3.out.size; rw [size_alloc]; omega) ?_; intro v4 w4 hown4 hgrow4 _; have HO4 := hidOf hown4; have Ho4 := hidOf (out_row (Ho3.out.alloc _) (HO3.out.alloc _) hgrow4); clear hgrow4; obtain ⟨a4, c4, rfl⟩ := own_form hown4; clear hown4))
      go_roundw
      case rel =>
        have e1 : byP (N.take (k + 1)) = O ++ x ++ [0] := by rw [take_snoc Hx.out, byP_snoc, ← HO.out]
        have e2 : (byP (N.take (k + 1))).length = O.length + x.length + 1 := by rw [e1]; simp; omega
        refine ⟨k + 1, byP (N.take (k + 1)), a4, c4, by simp, by rw [e2], by omega, by rw [e2]; exact hxl, rfl, ?_, Ho4.out⟩
        show World.ownsRow _ _ _ _ _ _ _
        rw [e2, e1, bc_app]
        exact HO4.out
      case measure => simp [intOf]; omega
    · have hlt : ¬ (k : Int) < N.length := by omega
      obtain rfl : k = N.length := by omega
      rw [List.take_length] at HO
      have HO' := HO.out
      subst HO'
      go_wp2
      go_ret
      exact ⟨_, _, rfl, owns_base HB.out (by have := Ho.out.size; have := Hs1.out; omega), Ho.out.trans Ho2.out⟩
theorem results_cell3s {P : Program} {fn : Func} {p u v : Tmp} {ty : TypeId} (h : fn.results = #[.cell p ty, .tmp u, .tmp v]) (tmps : Array Value) (w : World) (g : Nat) (t : TypeId) (cs : Array Value) (fr : Nat × Nat) (d : TypeDesc)
    (hp : tmps.getD p undef = .pointer (some ⟨g, 0, none⟩)) (hg : w.heap[g]? = some (.cells cs t fr))
    (hu : P.underlying ty = some d) (hd : (match d with | .struct _ | .array _ _ => true | _ => false) = true) (hi : (P.info? ty).map (·.size) = some cs.size) :
    (results fn tmps).run P w = .ok (.tuple #[.agg cs, tmps.getD u undef, tmps.getD v undef]) w := by
  have hp' : tmps[p]?.getD undef = .pointer (some ⟨g, 0, none⟩) := by simpa using hp
  simp [results, h, hp', asAddr, run_loadVar_row w g t ty cs fr d hg hu hd hi]
theorem sizeT : (Tryz.prog.info? 58).map (·.size) = some 1 := by kernel_rfl
def nilO : Obj := tabO none 0 0
structure RS (w0 wr : World) (N : List (List UInt8)) (v : Value) : Prop where
  b0 : wr.heap[w0.heap.size]? = some nilO
  b1 : wr.heap[w0.heap.size + 1]? = some (.cells #[v] 58 (0, 0))
  own : wr.ownsRow (w0.heap.size + 2) 9 1 v N.length (N.map strV)
  out : Out w0 wr
theorem RS.lt {w0 wr : World} {N : List (List UInt8)} {v : Value} (h : RS w0 wr N v) : w0.heap.size + 2 ≤ wr.heap.size := by
  have := (Array.getElem?_eq_some_iff.1 h.b1).1; omega
theorem RS.c1 {w0 wr : World} {N : List (List UInt8)} {v : Value} (h : RS w0 wr N v) : wr.cell? ⟨w0.heap.size + 1, 0, none⟩ = some v := by simp [World.cell?, h.b1]
theorem RS.f1 {w0 wr : World} {N : List (List UInt8)} {v : Value} (h : RS w0 wr N v) : wr.frozen? ⟨w0.heap.size + 1, 0, none⟩ = false := by simp [World.frozen?, h.b1]
theorem RS.f0 {w0 wr : World} {N : List (List UInt8)} {v : Value} (h : RS w0 wr N v) : wr.frozen? ⟨w0.heap.size, 0, none⟩ = false := by simp [World.frozen?, h.b0, nilO, tabO]
theorem RS.c0 {w0 wr : World} {N : List (List UInt8)} {v : Value} (h : RS w0 wr N v) : wr.cell? ⟨w0.heap.size, 0, none⟩ = some (.slice none 0 0) := by simp [World.cell?, h.b0, nilO, tabO]
theorem RS.more {w0 wr w' : World} {N : List (List UInt8)} {v : Value} (h : RS w0 wr N v) (o : Out wr w') : RS w0 w' N v := by
  have := h.lt
  exact ⟨(o.block _ (by omega)).trans h.b0, (o.block _ (by omega)).trans h.b1, owns_chg (S := fun _ => False) h.own (fun _ _ h => h) (Chg.of_out o), h.out.trans o⟩
theorem RS.rt {w0 wr : World} {N : List (List UInt8)} {a : Option Addr} {c : Nat} (h : RS w0 wr N (.slice a N.length c)) : RT wr a N ∧ N.length ≤ c := by
  rcases h.own.2 with ⟨hv, hn⟩ | ⟨g, cap, cur, hv, hb, hg, hc, _⟩
  · exact ⟨.inl (List.length_eq_zero_iff.1 hn), by omega⟩
  · simp only [Value.slice.injEq] at hv
    obtain ⟨rfl, -, rfl⟩ := hv
    refine ⟨.inr ⟨g, 0, (Array.getElem?_eq_some_iff.1 hg).1, rfl, fun k x hx => ?_⟩, hc⟩
    have := World.ownsRow.cells h.own (g := g) rfl k (strV x) (by simp [hx])
    rw [WideShapes.add_plain] at this
    exact this
theorem RS.push {w0 X w' : World} {N : List (List UInt8)} {v v' : Value} {x : List UInt8} {g cap : Nat} (h : RS w0 X N v) (hg : X.grownBy w' v.ownBlock) (hv : v' = .slice (some ⟨g, 0, none⟩) (N.length + 1) cap) (ho : w'.ownsRow (w0.heap.size + 2) 9 1 v' (N.length + 1) (N.map strV ++ [strV x])) : RS w0 (w'.setCell ⟨w0.heap.size + 1, 0, none⟩ v') (N ++ [x]) v' := by
  have hlt := h.lt
  have hc : Chg (fun k => v.ownBlock = some k) X w' := Chg.of_grown hg (fun k hk => hk)
  have hge : ∀ k, v.ownBlock = some k → w0.heap.size + 2 ≤ k := fun k hk => (h.own.lt k hk).1
  have c2 : Chg (fun k => k = w0.heap.size + 1) w' (w'.setCell ⟨w0.heap.size + 1, 0, none⟩ v') := Chg.setCell (S := fun k => k = w0.heap.size + 1) (Chg.refl _ w') (p := ⟨w0.heap.size + 1, 0, none⟩) rfl v'
  have e0 : w'.heap[w0.heap.size]? = some nilO := (hc.block _ (by omega) (fun hk => by have := hge _ hk; omega)).trans h.b0
  have e1 : w'.heap[w0.heap.size + 1]? = some (.cells #[v] 58 (0, 0)) := (hc.block _ (by omega) (fun hk => by have := hge _ hk; omega)).trans h.b1
  refine ⟨?_, ?_, ?_, ?_⟩
  · rw [c2.block _ (by have := hc.size; omega) (by omega)]; exact e0
  · simp [World.setCell, Array.getElem?_modify, e1]
  · have := owns_chg ho (fun k hk e => by have := (ho.lt k hk).1; omega) c2
    simpa using this
  · exact Chg.out c2 (Chg.out hc h.out (fun k hk => by have := hge k hk; omega)) (fun k hk => by omega)
theorem OwS.rt {B : Nat} {w : World} {N : List (List UInt8)} {a : Option Addr} {c : Nat} (h : OwS B (.slice a N.length c) N w) : RT w a N ∧ N.length ≤ c := by
  rcases h.2 with ⟨hv, hn⟩ | ⟨g, cap, cur, hv, hb, hg, hc, _⟩
  · exact ⟨.inl (List.length_eq_zero_iff.1 hn), by omega⟩
  · simp only [Value.slice.injEq] at hv
    obtain ⟨rfl, -, rfl⟩ := hv
    refine ⟨.inr ⟨g, 0, (Array.getElem?_eq_some_iff.1 hg).1, rfl, fun k x hx => ?_⟩, hc⟩
    have := World.ownsRow.cells h (g := g) rfl k (strV x) (by simp [hx])
    rw [WideShapes.add_plain] at this
    exact this
def RREnd (w : World) (l : List UInt8) (e : Ending) (w' : World) : Prop :=
  Out w w' ∧ ((rdP l).1 = none ∧ e = .returned (.tuple #[.agg #[.slice none 0 0], .int .i64 (rdP l).2, .int .i64 80]) ∨ ∃ N a c, (rdP l).1 = some N ∧ e = .returned (.tuple #[.agg #[.slice a N.length c], .int .i64 0, .int .i64 0]) ∧ OwS w.heap.size (.slice a N.length c) N w')
theorem rread_empty (a : Option Addr) (c : Nat) (w : World) : Calls Tryz.prog 27 #[.slice a 0 c] w fun e w' => e = .returned (.tuple #[.agg #[.slice none 0 0], .int .i64 0, .int .i64 80]) ∧ Out w w' := by
  have Ho : Hid (Out w (w.alloc nilO)) := (Out.refl w).alloc _
  go_enter Tryz.func27, Tryz.ntmps27
  go_wp2
  refine bodyPost_ret (results_cell3s rfl _ _ w.heap.size 58 _ (0, 0) _ rfl (heap_alloc_new _ _) Tryz.underlying58 rfl sizeT) rfl ?_
  exact ⟨rfl, Ho.out⟩
theorem rread_first (g off c n : Nat) (x : UInt8) (w : World) (hx : ¬ x = 0) (hc : n + 1 ≤ c) (h : w.cell? ⟨g, off, none⟩ = some (.int .u8 (x.toNat : Int))) : Calls Tryz.prog 27 #[.slice (some ⟨g, off, none⟩) (n + 1) c] w fun e w' => e = .returned (.tuple #[.agg #[.slice none 0 0], .int .i64 0, .int .i64 80]) ∧ Out w w' := by
  have Ho : Hid (Out w (w.alloc nilO)) := (Out.refl w).alloc _
  have h' : ∀ O, (w.alloc O).cell? ⟨g, off, none⟩ = some (.int .u8 (x.toNat : Int)) := fun O => cell_later ((Out.refl w).alloc O) h
  have hz : ((x.toNat : Int) == 0) = false := by
    have : ¬ x.toNat = 0 := fun h => hx (UInt8.toNat_inj.1 h)
    simp; omega
  have hz' : ((x.toNat : Int) != 0) = true := by simp only [bne, hz]; rfl
  have hn0 : (((n : Int) + 1) == 0) = false := by simp; omega
  go_enter Tryz.func27, Tryz.ntmps27
  go_wp2
  refine bodyPost_ret (results_cell3s rfl _ _ w.heap.size 58 _ (0, 0) _ rfl (heap_alloc_new _ _) Tryz.underlying58 rfl sizeT) rfl ?_
  exact ⟨rfl, Ho.out⟩
theorem twZ_step {m : List UInt8} {k : Nat} {b : UInt8} (h : ∀ j, j < k → ∃ y, m[j]? = some y ∧ ¬ y = 0) (hb : m[k]? = some b) (hz : b = 0) : (twZ m).length = k := by
  refine tw_len' _ m k ?_ (by have := (List.getElem?_eq_some_iff.1 hb).1; omega) (.inr ⟨b, hb, by simp [hz]⟩)
  rw [List.all_eq_true]
  intro y hy
  obtain ⟨j, hj⟩ := List.mem_iff_getElem?.1 hy
  rw [List.getElem?_take] at hj
  split at hj
  · rename_i hjk
    obtain ⟨y', h1, h2⟩ := h j hjk
    rw [hj] at h1
    cases h1
    simp [h2]
  · cases hj
theorem twZ_all {m : List UInt8} (h : ∀ j, j < m.length → ∃ y, m[j]? = some y ∧ ¬ y = 0) : (twZ m).length = m.length := by
  refine tw_len' _ m m.length ?_ (Nat.le_refl _) (.inl rfl)
  rw [List.take_length, List.all_eq_true]
  intro y hy
  obtain ⟨j, hj⟩ := List.mem_iff_getElem?.1 hy
  obtain ⟨y', h1, h2⟩ := h j (List.getElem?_eq_some_iff.1 hj).1
  rw [hj] at h1
  cases h1
  simp [h2]
theorem chg_set (w : World) (g : Nat) (v : Value) : Chg (fun k => k = g) w (w.setCell ⟨g, 0, none⟩ v) := Chg.setCell (S := fun k => k = g) (Chg.refl _ w) (p := ⟨g, 0, none⟩) rfl v
theorem RS.keep {w0 X w' : World} {N : List (List UInt8)} {v : Value} (h : RS w0 X N v) (hg : X.grownBy w' v.ownBlock) : w'.frozen? ⟨w0.heap.size + 1, 0, none⟩ = false ∧ w'.cell? ⟨w0.heap.size + 1, 0, none⟩ = some v := by
  have hlt := h.lt
  have hne : ¬ some (w0.heap.size + 1) = v.ownBlock := fun e => by have := (h.own.lt _ e.symm).1; omega
  exact ⟨(hg.frozen_far ⟨w0.heap.size + 1, 0, none⟩ (show w0.heap.size + 1 < X.heap.size by omega) hne).trans h.f1, (hg.cell_far ⟨w0.heap.size + 1, 0, none⟩ (show w0.heap.size + 1 < X.heap.size by omega) hne).trans h.c1⟩
theorem set_tab {w : World} {g : Nat} {v : Value} (h : w.heap[g]? = some nilO) : (w.setCell ⟨g, 0, none⟩ v).heap[g]? = some (.cells #[v] 58 (0, 0)) := by
  simp [World.setCell, Array.getElem?_modify, h, nilO, tabO]
theorem set_nil {w : World} {g : Nat} (h : w.heap[g]? = some nilO) : (w.setCell ⟨g, 0, none⟩ (.slice none 0 0)).heap[g]? = some (.cells #[.slice none 0 0] 58 (0, 0)) := by
  simp [World.setCell, Array.getElem?_modify, h, nilO, tabO]
set_option maxRecDepth 20000 in
set_option maxHeartbeats 4000000 in
theorem rread_zero (g off c : Nat) (r : List UInt8) (w : World) (hg : g < w.heap.size) (hc : r.length + 1 ≤ c) (hl : r.length + 1 ≤ 1000000000000) (h : ∀ k x, ((0 : UInt8) :: r)[k]? = some x → w.cell? ⟨g, off + k, none⟩ = some (.int .u8 (x.toNat : Int))) :
    Calls Tryz.prog 27 #[.slice (some ⟨g, off, none⟩) (r.length + 1) c] w fun e w' => RREnd w (0 :: r) e w' := by
  obtain ⟨i0, hi, hz0, hz1, hz2⟩ := info_parts infoStr
  obtain ⟨l, hle⟩ : ∃ l, l = (0 : UInt8) :: r := ⟨_, rfl⟩
  have hll : l.length = r.length + 1 := by rw [hle]; rfl
  have HR : Hid (rdP l = rdR (l.drop 1) []) := by rw [hle]; rfl
  have c0 : ∀ O, (w.alloc O).cell? ⟨g, off, none⟩ = some (.int .u8 0) := fun O => cell_later ((Out.refl w).alloc O) (h 0 0 rfl)
  rw [← hle] at h ⊢
  rw [← hll] at hc hl ⊢
  have HC := hidOf h
  obtain ⟨n, hn⟩ : ∃ n, n = l.length := ⟨_, rfl⟩
  have Hn := hidOf hn
  have h1 : 1 ≤ n := by omega
  rw [← hn] at hc hl ⊢
  have h1' : (1 : Int) ≤ n := by omega
  have hcI : (n : Int) ≤ c := by omega
  have hlI : (n : Int) ≤ 1000000000000 := by omega
  have hb0 : ((n : Int) == 0) = false := by simp; omega
  have Hg := hidOf hg
  clear h hll hle hg hn
  have HS0 : Hid (RS w ((w.alloc nilO).alloc nilO) [] (.slice none 0 0)) := hidOf (by
    have s1 := size_alloc w nilO
    have o2 : Out (w.alloc nilO) ((w.alloc nilO).alloc nilO) := (Out.refl _).alloc _
    refine ⟨?_, ?_, World.ownsRow_nil _ _ _ _, ((Out.refl w).alloc _).alloc _⟩
    · rw [o2.block _ (by rw [s1]; omega)]; exact heap_alloc_new _ _
    · rw [← s1]; exact heap_alloc_new _ _)
  go_enter Tryz.func27, Tryz.ntmps27
  go_upto_region 5 with fail
  show Code.wp _ _ _ _ ((w.alloc nilO).alloc nilO)
  generalize (w.alloc nilO).alloc nilO = w1 at *
  clear c0
  go_loopw [6] (fun av wr => ∃ (N : List (List UInt8)) (s : Nat) (va : Option Addr) (vc : Nat), av = .int .i64 s ∧ s ≤ n ∧ 1 ≤ s ∧ Hid (s = szF 1 N) ∧ Hid (rdP l = rdR (l.drop s) N) ∧ Hid (RS w wr N (.slice va N.length vc))) (fun av _ => n - (intOf av).toNat)
  case atStart => exact ⟨[], 1, none, 0, rfl, h1, by omega, hidOf rfl, HR.out, HS0.out⟩
  case round =>
    obtain ⟨N, s, va, vc, rfl, hs, hs1, HSz, HRr, HS⟩ := hrel
    have hsI : (1 : Int) ≤ s := by omega
    have hsz := szF_ge N 1
    rw [← HSz.out] at hsz
    have Hsz := hidOf hsz
    clear hsz
    by_cases hlt : s < n
    · have hltI : (s : Int) < n := by omega
      obtain ⟨m, hm⟩ : ∃ m, m = l.drop s := ⟨_, rfl⟩
      have hml : m.length = n - s := by rw [hm, List.length_drop, ← Hn.out]
      have hm0 : ¬ m = [] := fun e => by rw [e] at hml; simp at hml; omega
      have hcell : ∀ wx, Out w wx → ∀ k x, m[k]? = some x → wx.cell? ⟨g, off + s + k, none⟩ = some (.int .u8 (x.toNat : Int)) := fun wx ho k x hx => by
        rw [hm, List.getElem?_drop] at hx
        rw [Nat.add_assoc, ho.cells g _ Hg.out]
        exact HC.out (s + k) x hx
      have Hcell := hidOf hcell
      have Hm := hidOf hm
      have Hm0 := hidOf hm0
      have Hml := hidOf hml
      clear hm hml hm0 hcell
      go_upto_region 7 with fail
      obtain ⟨w2, hw2⟩ : ∃ w2, w2 = wr := ⟨_, rfl⟩
      rw [← hw2] at HS ⊢
      clear hw2
      go_loopw [7] (fun ev wr => ∃ e : Nat, ev = .int .i64 ((s : Int) + e) ∧ s + e ≤ n ∧ Hid (∀ j, j < e → ∃ y, m[j]? = some y ∧ ¬ y = 0) ∧ wr = w2) (fun ev _ => n - (intOf ev).toNat)
      case atStart => exact ⟨0, by simp, by omega, hidOf (fun j hj => by omega), rfl⟩
      case round =>
        obtain ⟨e, rfl, he, HE0, rfl⟩ := hrel
        by_cases hen : s + e < n
        · have henI : (s : Int) + e < n := by omega
          have h0e : (0 : Int) ≤ (s : Int) + e := by omega
          obtain ⟨b, hb⟩ : ∃ b, m[e]? = some b := ⟨_, List.getElem?_eq_getElem (by have := Hml.out; omega)⟩
          have d := Hcell.out wr HS.out.out e b hb
          rw [Nat.add_assoc] at d
          have hz := u8_zero (b := b)
          by_cases hb0' : b = 0
          · rw [decide_eq_true hb0'] at hz
            go_upto_region 9 with fail
            have hte : (twZ m).length = e := twZ_step HE0.out hb hb0'
            have Hne : Hid (¬ (twZ m).length = m.length) := hidOf (by rw [hte, Hml.out]; omega)
            clear hb hb0' d hz
            obtain ⟨x, hx⟩ : ∃ x, x = twZ m := ⟨_, rfl⟩
            have hxl : x.length = e := by rw [hx]; exact hte
            have hxt : x = m.take e := by rw [hx]; conv => lhs; rw [twZ_take m, hte]
            have hcv : (convert 27 9 (.slice (some ⟨g, off + s, none⟩) e (c - s))).run Tryz.prog wr = .ok (.string ⟨x.toArray⟩) wr := by
              rw [← hxl]
              exact conv_rest (N := g + 1) (.inr ⟨g, off + s, by omega, rfl, fun k y hy => Hcell.out wr HS.out.out k y (by rw [hxt, List.getElem?_take] at hy; split at hy; exact hy; cases hy)⟩) (c - s)
            have HNm := hidOf (named_any x wr (by omega))
            have Hx := hidOf hx
            have Hxl := hidOf hxl
            have q0 := HS.out.c0
            have g0 := HS.out.f0
            have q1 := HS.out.c1
            clear hxt hxl hx hte
            have hel : ((s : Int) + e == n) = false := by simp; omega
            cases hok : nameOk x
            · have Hres : Hid (rdP l = (none, s)) := hidOf (by rw [HRr.out, ← Hm.out, rdR_bad m N Hm0.out (step_bad (.inl (by rw [← Hx.out]; exact hok))), ← HSz.out])
              rw [hok] at HNm
              clear hok
              go_wp2_with (go_at_call 60; refine (HNm.out).mono ?_; rintro e' w3 ⟨rfl, hw3⟩; subst hw3)
              refine bodyPost_ret (results_cell3s rfl _ _ w.heap.size 58 #[.slice none 0 0] (0, 0) _ rfl (set_nil HS.out.b0) Tryz.underlying58 rfl sizeT) rfl ?_
              exact ⟨Chg.out (chg_set _ w.heap.size _) HS.out.out (fun k hk => by omega), .inl ⟨by rw [Hres.out], by rw [Hres.out]; rfl⟩⟩
            · rw [hok] at HNm
              have hl64 := name_len hok
              have HP := hidOf (place_any va vc N x wr HS.out.rt.1 HS.out.rt.2 (by rw [← HSz.out]; omega))
              by_cases hin : x ∈ N
              · have Hres : Hid (rdP l = (none, s)) := hidOf (by rw [HRr.out, ← Hm.out, rdR_bad m N Hm0.out (step_bad (.inr (.inr (by rw [← Hx.out]; exact hin)))), ← HSz.out])
                have hpp := (plF_zero N 1 x (Nat.le_refl _)).1 hin
                generalize plF 1 N x = pp at *
                have hppI : (0 : Int) < pp := by omega
                clear hok hin hpp
                go_upto_region 12 with (first | (go_at_call 60; refine (HNm.out).mono ?_; rintro e' w3 ⟨rfl, hw3⟩; subst hw3) | (go_at_call 61; refine (HP.out).mono ?_; rintro e' w4 ⟨rfl, ho4⟩; have HS4 := hidOf (HS.out.more ho4); clear ho4))
                have q4 := HS4.out.c0
                have g4 := HS4.out.f0
                go_wp2
                refine bodyPost_ret (results_cell3s rfl _ _ w.heap.size 58 #[.slice none 0 0] (0, 0) _ rfl (set_nil HS4.out.b0) Tryz.underlying58 rfl sizeT) rfl ?_
                exact ⟨Chg.out (chg_set _ w.heap.size _) HS4.out.out (fun k hk => by omega), .inl ⟨by rw [Hres.out], by rw [Hres.out]; rfl⟩⟩
              · obtain ⟨e1, e2, e3⟩ := step_ok (N := N) (by rw [← Hx.out]; exact hok) Hne.out (by rw [← Hx.out]; exact hin)
                rw [← Hx.out] at e1
                have hpp : plF 1 N x = 0 := by
                  have := plF_zero N 1 x (Nat.le_refl _)
                  have : ¬ 0 < plF 1 N x := fun h => hin (this.2 h)
                  omega
                rw [hpp] at HP
                have Hst : Hid (rdP l = rdR (l.drop (s + e + 1)) (N ++ [x])) := hidOf (by
                  rw [HRr.out, ← Hm.out, rdR_ok m N Hm0.out e2 e3, e1, Hxl.out, Hm.out, List.drop_drop]
                  rfl)
                clear hok hin hpp e1 e2 e3
                go_upto_region 13 with (first | (go_at_call 60; refine (HNm.out).mono ?_; rintro e' w3 ⟨rfl, hw3⟩; subst hw3) | (go_at_call 61; refine (HP.out).mono ?_; rintro e' w4 ⟨rfl, ho4⟩; have HS4 := hidOf (HS.out.more ho4); clear ho4))
                have q4 := HS4.out.c1
                have q4' : ∀ O, (w4.alloc O).cell? ⟨w.heap.size + 1, 0, none⟩ = some (.slice va N.length vc) := fun O => (HS4.out.more ((Out.refl w4).alloc O)).c1
                have hN9 : N.length ≤ 1000000000000 := by have := Hsz.out; omega
                have hsz4 := HS4.out.lt
                clear q0 g0 q1 HP HNm hcv HS
                go_wp2_with (at_builtin; refine wpList_append_lies _ rfl (.tmp 62) (.tmp 64) 56 rfl (w.heap.size + 2) 9 i0 _ 1 16 Tryz.underlying56 hi hz0 hz1 hz2 rfl (by decide) (.slice va N.length vc) N.length (N.map strV) rfl (HS4.out.more ((Out.refl w4).alloc _)).own ⟨w4.heap.size, 0, none⟩ 1 1 [.string ⟨x.toArray⟩] rfl rfl (news_new w4 _ _ _ rfl) (str_one x) (by decide) (by unfold maxLen; omega) (by omega) (by rw [size_alloc]; omega) _ rfl ?_; intro g5 cap5 w5 hown5 hgrow5 _ _; have HO5 := hidOf hown5; have HG5 := hidOf hgrow5; obtain ⟨f5, q5⟩ := RS.keep (HS4.out.more ((Out.refl w4).alloc _)) hgrow5; clear hown5 hgrow5)
                go_roundw
                case rel =>
                  have hm := (HS4.out.more ((Out.refl w4).alloc _)).push (x := x) HG5.out rfl HO5.out
                  have eN : (N ++ [x]).length = N.length + 1 := by simp
                  refine ⟨N ++ [x], s + e + 1, some ⟨g5, 0, none⟩, cap5, by simp, by omega, by omega, hidOf (by rw [szF_snoc, ← HSz.out, Hxl.out]), hidOf Hst.out, hidOf ?_⟩
                  rw [eN]
                  exact hm
                case measure => simp [intOf]; omega
          · rw [decide_eq_false hb0'] at hz
            have Hb := hidOf hb
            have Hb0 := hidOf hb0'
            clear hb hb0'
            go_wp2
            go_roundw
            case rel => exact ⟨e + 1, by simp; omega, by omega, hidOf (fun j hj => by
              by_cases hje : j < e
              · exact HE0.out j hje
              · obtain rfl : j = e := by omega
                exact ⟨b, Hb.out, Hb0.out⟩), trivial⟩
            case measure => simp [intOf]; omega
        · have henI : ¬ (s : Int) + e < n := by omega
          have hte : (twZ m).length = e := by
            have hme : m.length = e := by rw [Hml.out]; omega
            rw [twZ_all (fun j hj => HE0.out j (by omega)), hme]
          have Hee : Hid ((twZ m).length = m.length) := hidOf (by rw [hte, Hml.out]; omega)
          go_upto_region 9 with fail
          obtain ⟨x, hx⟩ : ∃ x, x = twZ m := ⟨_, rfl⟩
          have hxl : x.length = e := by rw [hx]; exact hte
          have hxt : x = m.take e := by rw [hx]; conv => lhs; rw [twZ_take m, hte]
          have hcv : (convert 27 9 (.slice (some ⟨g, off + s, none⟩) e (c - s))).run Tryz.prog wr = .ok (.string ⟨x.toArray⟩) wr := by
            rw [← hxl]
            exact conv_rest (N := g + 1) (.inr ⟨g, off + s, by omega, rfl, fun k y hy => Hcell.out wr HS.out.out k y (by rw [hxt, List.getElem?_take] at hy; split at hy; exact hy; cases hy)⟩) (c - s)
          have HNm := hidOf (named_any x wr (by omega))
          have Hx := hidOf hx
          have Hxl := hidOf hxl
          have q0 := HS.out.c0
          have g0 := HS.out.f0
          have q1 := HS.out.c1
          clear hxt hxl hx hte
          have hel : ((s : Int) + e == n) = true := by simp; omega
          have Hres : Hid (rdP l = (none, s)) := hidOf (by rw [HRr.out, ← Hm.out, rdR_bad m N Hm0.out (step_bad (.inr (.inl Hee.out))), ← HSz.out])
          cases hok : nameOk x
          · rw [hok] at HNm
            clear hok
            go_wp2_with (go_at_call 60; refine (HNm.out).mono ?_; rintro e' w3 ⟨rfl, hw3⟩; subst hw3)
            refine bodyPost_ret (results_cell3s rfl _ _ w.heap.size 58 #[.slice none 0 0] (0, 0) _ rfl (set_nil HS.out.b0) Tryz.underlying58 rfl sizeT) rfl ?_
            exact ⟨Chg.out (chg_set _ w.heap.size _) HS.out.out (fun k hk => by omega), .inl ⟨by rw [Hres.out], by rw [Hres.out]; rfl⟩⟩
          · rw [hok] at HNm
            clear hok
            go_wp2_with (go_at_call 60; refine (HNm.out).mono ?_; rintro e' w3 ⟨rfl, hw3⟩; subst hw3)
            refine bodyPost_ret (results_cell3s rfl _ _ w.heap.size 58 #[.slice none 0 0] (0, 0) _ rfl (set_nil HS.out.b0) Tryz.underlying58 rfl sizeT) rfl ?_
            exact ⟨Chg.out (chg_set _ w.heap.size _) HS.out.out (fun k hk => by omega), .inl ⟨by rw [Hres.out], by rw [Hres.out]; rfl⟩⟩
    · have hltI : ¬ (s : Int) < n := by omega
      have hsn : s = n := by omega
      have Hres : Hid (rdP l = (some N, 0)) := hidOf (by rw [HRr.out, hsn, Hn.out, List.drop_length]; rfl)
      have q0 := HS.out.c0
      have g0 := HS.out.f0
      have q1 := HS.out.c1
      clear hsn
      go_wp2
      refine bodyPost_ret (results_cell3s rfl _ _ w.heap.size 58 #[.slice va N.length vc] (0, 0) _ rfl (set_tab HS.out.b0) Tryz.underlying58 rfl sizeT) rfl ?_
      have c2 : Chg (fun k => k = w.heap.size) wr (wr.setCell ⟨w.heap.size, 0, none⟩ (.slice va N.length vc)) := chg_set _ _ _
      refine ⟨Chg.out c2 HS.out.out (fun k hk => by omega), .inr ⟨N, va, vc, by rw [Hres.out], rfl, ?_⟩⟩
      exact owns_base (owns_chg HS.out.own (fun k hk e => by have := (HS.out.own.lt k hk).1; omega) c2) (by omega)
theorem rread_any (a : Option Addr) (c : Nat) (l : List UInt8) (w : World) (h : RestAt w.heap.size w a l) (hc : l.length ≤ c) (hl : l.length ≤ 1000000000000) : Calls Tryz.prog 27 #[.slice a l.length c] w fun e w' => RREnd w l e w' := by
  cases l with
  | nil =>
    refine (rread_empty a c w).mono ?_
    rintro e w' ⟨rfl, ho⟩
    exact ⟨ho, .inl ⟨rfl, rfl⟩⟩
  | cons x r =>
    rcases h with h | ⟨g, off, hg, rfl, hx⟩
    · cases h
    · by_cases h0 : x = 0
      · subst h0
        exact rread_zero g off c r w hg hc hl hx
      · refine (rread_first g off c r.length x w h0 hc (by simpa using hx 0 x rfl)).mono ?_
        rintro e w' ⟨rfl, ho⟩
        have e : rdP (x :: r) = (none, 0) := by simp [rdP, h0]
        exact ⟨ho, .inl ⟨by rw [e], by rw [e]; rfl⟩⟩
end Go.Proofs.YthififblejbleaaGreatDoor
