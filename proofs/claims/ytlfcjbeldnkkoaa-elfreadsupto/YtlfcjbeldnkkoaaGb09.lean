import Derived.Test.YtlfcjbeldnkkoaaGb08
import Derived.Lib.AppendZerosOnto
import Derived.Deep.AppendLies
import Derived.Laws.AppendOwnNone
namespace Go.Proofs.Ytlfcjbeldnkkoaa
open Go.RowKit
set_option linter.unusedVariables false
set_option linter.unusedSimpArgs false
def rwV (l : List Rw) : List Value := l.flatMap Rw.cs
theorem rwV_len (l : List Rw) : (rwV l).length = l.length * 18 := by
  induction l with
  | nil => rfl
  | cons x r ih => show (x.cs ++ rwV r).length = _; rw [List.length_append, ih]; simp [Rw.cs]; omega
theorem rwV_app (l m : List Rw) : rwV (l ++ m) = rwV l ++ rwV m := by simp [rwV, List.flatMap_append]
theorem rwV_one (l : List Rw) : ∀ u ∈ rwV l, u.oneCell' = true := by
  intro u hu
  simp only [rwV, List.mem_flatMap] at hu
  obtain ⟨x, _, hx⟩ := hu
  simp only [Rw.cs, List.mem_cons, List.not_mem_nil, or_false] at hx
  rcases hx with rfl | rfl | rfl | rfl | rfl | rfl | rfl | rfl | rfl | rfl | rfl | rfl | rfl | rfl | rfl | rfl | rfl | rfl <;> rfl
theorem rwV_get : ∀ (l : List Rw) (i : Nat) (x : Rw) (j : Nat), l[i]? = some x → j < 18 → (rwV l)[i * 18 + j]? = x.cs[j]?
  | [], i, x, j, h, _ => by simp at h
  | y :: r, 0, x, j, h, hj => by
    simp at h; subst h
    show (y.cs ++ rwV r)[0 * 18 + j]? = _
    rw [List.getElem?_append_left (by simp [Rw.cs]; omega)]; simp
  | y :: r, i + 1, x, j, h, hj => by
    show (y.cs ++ rwV r)[(i + 1) * 18 + j]? = _
    rw [List.getElem?_append_right (by simp [Rw.cs]; omega), ← rwV_get r i x j (by simpa using h) hj]
    congr 1
    simp [Rw.cs]; omega
def zRw : Rw := ⟨(0, 0), (0, 0), (0, 0), (0, 0), (0, 0), (0, 0), (0, 0), (0, 0), (0, 0)⟩
theorem infoRw : (Try.prog.info? 79).map (fun i => (i.zero, i.size, i.bytes)) = some (some (.agg zRw.cs.toArray), 18, 144) := by kernel_rfl
def OwR (B : Nat) (v : Value) (R : List Rw) (w : World) : Prop := w.ownsRow B 79 18 v R.length (rwV R)
def jw2 (n : Int) : Nat × Nat := (jw n, jw n)
def rowP (s : Sec) (z : Int) (p : Nat) : Rw := ⟨jw2 z, jw2 s.ty, jw2 s.fl, jw2 p, jw2 s.d.length, jw2 s.li, jw2 s.inf, jw2 s.al, jw2 s.es⟩
def endF : Nat → List Sec → Nat
  | p, [] => p
  | p, s :: r => endF (up8 (p + s.d.length)) r
def rowsF : Nat → List Sec → List Int → List Rw
  | p, s :: r, z :: t => rowP s z p :: rowsF (up8 (p + s.d.length)) r t
  | _, _, _ => []
theorem endF_app : ∀ (A B : List Sec) (p : Nat), endF p (A ++ B) = endF (endF p A) B
  | [], _, _ => rfl
  | s :: r, B, p => by simp only [List.cons_append, endF]; exact endF_app r B _
theorem rowsF_app : ∀ (A B : List Sec) (Z T : List Int) (p : Nat), A.length = Z.length → rowsF p (A ++ B) (Z ++ T) = rowsF p A Z ++ rowsF (endF p A) B T
  | [], B, [], T, _, _ => by simp [rowsF, endF]
  | [], _, _ :: _, _, _, h => by simp at h
  | _ :: _, _, [], _, _, h => by simp at h
  | s :: r, B, z :: t, T, p, h => by
    simp only [List.cons_append, rowsF, endF]
    rw [rowsF_app r B t T _ (by simpa using h)]
theorem up8_ge (n : Nat) : n ≤ up8 n ∧ up8 n ≤ n + 7 := by unfold up8; omega
def sumD (L : List Sec) : Nat := (L.map fun s => s.d.length).sum
theorem endF_le : ∀ (L : List Sec) (p : Nat), p ≤ endF p L ∧ endF p L ≤ p + sumD L + 7 * L.length
  | [], p => by simp [endF, sumD]
  | s :: r, p => by
    have h1 := up8_ge (p + s.d.length)
    have h2 := endF_le r (up8 (p + s.d.length))
    simp only [endF, sumD, List.map_cons, List.sum_cons, List.length_cons] at h2 ⊢
    omega
theorem rowsF_len : ∀ (A : List Sec) (Z : List Int) (p : Nat), A.length = Z.length → (rowsF p A Z).length = A.length
  | [], Z, _, _ => by cases Z <;> rfl
  | _ :: _, [], _, h => by simp at h
  | s :: r, z :: t, p, h => by simp only [rowsF, List.length_cons]; rw [rowsF_len r t _ (by simpa using h)]
set_option maxRecDepth 8000 in
theorem run_make_rw (n : Nat) (h1 : 1 ≤ n) (hn : n ≤ 1000000) (w : World) : ∃ cur : Array Value, (Instr.makeSlice 68 (.int .i64 1) (.int .i64 (n : Int))).run Try.prog w = .ok (.slice (some ⟨w.heap.size, 0, none⟩) 1 n) (w.alloc (.cells cur 79)) ∧ OwR w.heap.size (.slice (some ⟨w.heap.size, 0, none⟩) 1 n) [zRw] (w.alloc (.cells cur 79)) := by
  obtain ⟨i0, hi, hz0, hz1, hz2⟩ := info_parts infoRw
  have h := run_make (P := Try.prog) w 68 79 i0 _ Try.underlying68 hi hz0 .i64 .i64 1 (n : Int) (by omega) (by omega) (by rw [hz2]; omega) (by omega)
  rw [hz1] at h
  refine ⟨_, h, by simp [rwV_len], .inr ⟨w.heap.size, n, _, rfl, Nat.le_refl _, heap_alloc_new w _, h1, by unfold maxLen; omega, by simp [madeCells], ?_⟩⟩
  obtain ⟨m, rfl⟩ : ∃ m, n = m + 1 := ⟨n - 1, by omega⟩
  apply List.ext_getElem?
  intro j
  by_cases hj : j < 18
  · have e : (rwV [zRw])[j]? = zRw.cs[j]? := by simpa using rwV_get [zRw] 0 zRw j rfl hj
    rw [e, List.getElem?_take_of_lt (by simpa using hj)]
    simp only [madeCells, Int.toNat_natCast, Value.cells]
    have hjn : j < (m + 1) * 18 := by omega
    have hmod : j % 18 = j := Nat.mod_eq_of_lt hj
    simp [hjn, Rw.cs, zRw, hmod]
    rw [List.getElem?_eq_getElem (by simpa using hj)]
    simp
  · rw [List.getElem?_eq_none (by rw [List.length_take]; simp; omega), List.getElem?_eq_none (by rw [rwV_len]; simp; omega)]
def padB (O : List UInt8) : List UInt8 := O ++ List.replicate (up8 O.length - O.length) 0
theorem padB_len (O : List UInt8) : (padB O).length = up8 O.length := by
  have := up8_ge O.length
  simp [padB]; omega
theorem zeroCells_one (z : Value) (hz : z.cells = #[z]) (k : Nat) : (Builtin.zeroCells z.cells k).toList = List.replicate k z := by
  rw [hz]
  apply List.ext_getElem?
  intro j
  simp only [Builtin.zeroCells, List.size_toArray, List.length_cons, List.length_nil, Nat.zero_add, Nat.mul_one, Array.toList_map, List.getElem?_map, Array.toList_range]
  by_cases h : j < k
  · simp [h, Nat.mod_one, List.getElem?_replicate]
  · simp [h, List.getElem?_replicate]
theorem run_append_own_zeros {P : Program} {w : World} (base : Nat) (t tn ty e : TypeId) (i : TypeInfo) (z : Value) (kq kn : IntKind) (ht : P.underlying t = some (.slice e)) (htn : P.underlying tn = some (.int kn)) (hi : P.info? e = some i) (hz : i.zero = some z)
    (hsize : i.size = 1) (hby : i.bytes = 1) (hzc : z.cells = #[z]) (hz1 : z.oneCell' = true)
    (v : Value) (n : Nat) (xs : List Value) (hown : w.ownsRow base e 1 v n xs) (k : Nat) (h0 : 0 < k) (hk : k ≤ 1000) (hn : n ≤ 100000000000000) (hbase : base ≤ w.heap.size) :
    ∃ v' w', (Builtin.append_ #[t, tn] ty #[v, .int kq k]).run P w = .ok v' w' ∧ w'.ownsRow base e 1 v' (n + k) (xs ++ List.replicate k z) ∧ w.grownBy w' v.ownBlock := by
  have hlen : (xs ++ List.replicate k z).length = (n + k) * 1 := by rw [List.length_append, hown.1, List.length_replicate]; omega
  have hw : IntKind.i64.wrap (k : Int) = k := by rw [IntKind.wrap_i64]; omega
  have grown : ∀ (old : Nat), ∀ (row : Option Nat),
      (w.drew.alloc (.cells (xs.toArray ++ Builtin.zeroCells z.cells k ++ Builtin.zeroCells z.cells (grownCap w (n + k) old e - (n + k))) e)).ownsRow base e 1
        (.slice (some ⟨w.heap.size, 0, none⟩) (n + k) (grownCap w (n + k) old e)) (n + k) (xs ++ List.replicate k z) ∧
      w.grownBy (w.drew.alloc (.cells (xs.toArray ++ Builtin.zeroCells z.cells k ++ Builtin.zeroCells z.cells (grownCap w (n + k) old e - (n + k))) e)) row := by
    intro old row
    have hge := grownCap_ge w (n + k) old e
    have hcm : grownCap w (n + k) old e ≤ maxLen := grownCap_le_maxLen w (n + k) old e (by simp only [maxLen]; omega)
    refine ⟨⟨hlen, .inr ⟨w.heap.size, _, _, rfl, hbase, heap_alloc_new w.drew _, hge, hcm, ?_, ?_⟩⟩, ⟨rfl, rfl, rfl, by simp, fun k hk _ => Below.heap_alloc w.drew _ k hk⟩⟩
    · simp only [Array.size_append, List.size_toArray, size_zeroCells, hzc, hown.1, List.length_cons, List.length_nil]
      omega
    · simp only [Array.toList_append, zeroCells_one z hzc]
      rw [← hlen]
      exact List.take_left
  rcases hown.2 with ⟨rfl, rfl⟩ | ⟨g, cap, cur, rfl, hbg, hg, hnc, hcm, hcs, htake⟩
  · have hx : xs = [] := List.eq_nil_of_length_eq_zero (by simpa using hown.1)
    subst hx
    have hr := Lib.run_append_nil_zeros (P := P) w t tn ty e i z kq kn ht htn hi hz k h0 (by omega) (by omega) (by rw [hby]; omega)
    have hgr := grown 0 (Value.ownBlock (.slice none 0 0))
    simp only [Nat.zero_add, Array.empty_append] at hgr hr ⊢
    exact ⟨_, _, hr, by simpa using hgr.1, by simpa using hgr.2⟩
  · by_cases hroom : n + k ≤ cap
    · have hzl : (Builtin.zeroCells z.cells k).toList = List.replicate k z := zeroCells_one z hzc k
      have hst := run_storeCells_at P g n e (List.replicate k z) 0 cur w hg (by simp; omega) (by intro u hu; rw [List.eq_of_mem_replicate hu]; exact hz1)
      simp only [Nat.add_zero, List.length_replicate] at hst
      have hr : (Builtin.append_ #[t, tn] ty #[.slice (some ⟨g, 0, none⟩) n cap, .int kq k]).run P w = .ok (.slice (some ⟨g, 0, none⟩) (n + k) cap) (w.setRow g (cur.toList.take n ++ List.replicate k z ++ cur.toList.drop (n + k)).toArray) := by
        have hneg : ¬ ((k : Int) < 0) := by omega
        have h48 : ¬ (281474976710656 < (k : Int)) := by omega
        have hk0 : k ≠ 0 := by omega
        simp [Builtin.append_, run_underlying ht, run_underlying htn, sizeOf, typeInfo, zeroValue, hi, hz, hsize, hby, asInt, asIntOf, hw, hneg, h48, hk0, hroom, hzl, Addr.add_lit, hst]
      refine ⟨_, _, hr, ⟨hlen, .inr ⟨g, cap, _, rfl, hbg, setRow_heap w g cur _ e _ hg, hroom, hcm, ?_, ?_⟩⟩, ⟨rfl, rfl, rfl, by simp, fun k _ hk => setRow_other w g k _ (fun e => hk (by simp [Value.ownBlock, e]))⟩⟩
      · simp only [List.size_toArray, List.length_append, List.length_take, List.length_drop, Array.length_toList, List.length_replicate]
        omega
      · rw [Nat.mul_one] at htake
        rw [htake, ← hlen]
        exact List.take_left
    · have holds : ∀ j u, xs[j]? = some u → w.cell? ((⟨g, 0, none⟩ : Addr).add j) = some u := hown.cells (g := g) rfl
      have hold := run_firstCells_some (P := P) w.drew i.size n ⟨g, 0, none⟩ n cap xs (by rw [hsize]; exact hown.1) holds
      have hr := Lib.run_append_grow_zeros (P := P) w t tn ty e i z kq kn ht htn hi hz (some ⟨g, 0, none⟩) n cap xs hold k h0 (by omega) (by omega) (by omega) (by rw [hby]; omega) (growslice_fits (by omega) (by rw [hby]; omega))
      have hgr := grown cap (Value.ownBlock (.slice (some ⟨g, 0, none⟩) n cap))
      exact ⟨_, _, hr, hgr.1, hgr.2⟩
theorem run_append_own_none {P : Program} {w : World} (base : Nat) (t tn ty e : TypeId) (i : TypeInfo) (z : Value) (kq kn : IntKind) (ht : P.underlying t = some (.slice e)) (htn : P.underlying tn = some (.int kn)) (hi : P.info? e = some i) (hz : i.zero = some z)
    (hsize : i.size = 1) (hby : i.bytes = 1) (v : Value) (n : Nat) (xs : List Value) (hown : w.ownsRow base e 1 v n xs) :
    (Builtin.append_ #[t, tn] ty #[v, .int kq 0]).run P w = .ok v w := by
  have hw : IntKind.i64.wrap (0 : Int) = 0 := by decide
  rcases hown.2 with ⟨rfl, rfl⟩ | ⟨g, cap, cur, rfl, hbg, hg, hnc, hcm, hcs, htake⟩
  · simp [Builtin.append_, run_underlying ht, run_underlying htn, sizeOf, typeInfo, zeroValue, hi, hz, hsize, hby, asInt, asIntOf, hw]
  · simp [Builtin.append_, run_underlying ht, run_underlying htn, sizeOf, typeInfo, zeroValue, hi, hz, hsize, hby, asInt, asIntOf, hw, hnc, storeCells]
theorem append_zerosB {N : Nat} {w : World} {ba : Option Addr} {bc : Nat} {O : List UInt8} (hb : OwB N (.slice ba O.length bc) O w) (hN : N ≤ w.heap.size) (hl : O.length ≤ 1000000000000) (k : Nat) (hk : k ≤ 1000) :
    ∃ a c w', (∀ ty, (Builtin.append_ #[24, 3] ty #[.slice ba O.length bc, .int .i64 (k : Int)]).run Try.prog w = .ok (.slice a (O.length + k) c) w') ∧ OwB N (.slice a (O.length + k) c) (O ++ List.replicate k 0) w' ∧ Below N w w' := by
  obtain ⟨i0, hi, hz0, hz1, hz2⟩ := info_parts infoB
  rcases Nat.eq_zero_or_pos k with rfl | h0
  · refine ⟨ba, bc, w, fun ty => ?_, by simpa using hb, Below.refl _ _⟩
    exact run_append_own_none N _ _ ty _ i0 _ .i64 .i64 Try.underlying24 Try.underlying3 hi hz0 hz1 hz2 _ _ _ hb
  · obtain ⟨v', w', h1, h2, h3⟩ := run_append_own_zeros N 24 3 24 5 i0 _ .i64 .i64 Try.underlying24 Try.underlying3 hi hz0 hz1 hz2 rfl rfl _ _ _ hb k h0 hk (by omega) hN
    obtain ⟨a, c, rfl⟩ := own_form h2
    refine ⟨a, c, w', fun ty => h1, ?_, Below.grownB (Below.refl _ _) hN hb h3⟩
    unfold OwB
    rw [bc_app, List.length_append, List.length_replicate, show Lib.byteCells (List.replicate k 0) = List.replicate k (.int .u8 0) by simp [Lib.byteCells]]
    exact h2
set_option maxRecDepth 8000 in
set_option maxHeartbeats 2000000 in
theorem pad_any (N : Nat) (w : World) (ba : Option Addr) (bc : Nat) (O R : List UInt8) (hb : OwB N (.slice ba O.length bc) O w) (hN : N ≤ w.heap.size) (hl : O.length ≤ 1000000000000) (hR : R = padB O) :
    Calls Try.prog 32 #[.slice ba O.length bc] w fun e w' => ∃ a c, e = .returned (.slice a R.length c) ∧ OwB N (.slice a R.length c) R w' ∧ Below N w w' := by
  obtain ⟨i0, hi, hz0, hz1, hz2⟩ := info_parts infoB
  have hu := up8_ge O.length
  have HU := hidOf (up8_any O.length (by omega) w)
  have hRl : R.length = up8 O.length := by rw [hR, padB_len]
  generalize hue : up8 O.length = u at *
  obtain ⟨k, hk⟩ : ∃ k, u = O.length + k := ⟨u - O.length, by omega⟩
  have hR2 : R = O ++ List.replicate k 0 := by rw [hR, padB, hue]; congr 2; omega
  have HR := hidOf hR2
  have HRl := hidOf hRl
  have HB := hidOf hb
  have hsub : (u : Int) - O.length = k := by omega
  obtain ⟨a4, c4, w4, hrun, hown, hbel⟩ := append_zerosB hb hN hl k (by omega)
  have HO := hidOf hown
  have Hb := hidOf hbel
  have hRk : R.length = O.length + k := by omega
  have HRk := hidOf hRk
  clear hR hR2 hRl hb hue hown hbel hRk
  go_enter Try.func32, Try.ntmps32
  subst hk
  have hrun2 : ∀ ty, (Builtin.append_ #[24, 3] ty #[.slice ba O.length bc, .int .i64 ((O.length : Int) + k - O.length)]).run Try.prog w = .ok (.slice a4 (O.length + k) c4) w4 := by rw [show (O.length : Int) + k - O.length = k by omega]; exact hrun
  clear hsub hrun
  go_wp2_with (first | (at_builtin; refine Lib.wpList_append_run _ rfl (.tmp 3) (.tmp 9) _ _ rfl (.slice ba O.length bc) (.int .i64 ((O.length : Int) + k - O.length)) rfl rfl (.slice a4 (O.length + k) c4) w4 (hrun2 _) ?_) | (go_at_call 47; refine (HU.out).mono ?_; rintro e w1 ⟨rfl, hw⟩; have hw := hw.symm; subst hw))
  go_ret
  rw [HRk.out, HR.out]
  exact ⟨a4, c4, rfl, HO.out, Hb.out⟩
end Go.Proofs.Ytlfcjbeldnkkoaa
namespace Go.Proofs.Ytlfcjbeldnkkoaa
open Go.RowKit
set_option linter.unusedVariables false
set_option linter.unusedSimpArgs false
def secs (L : List SV) : List Sec := L.map SV.s
theorem news_drew (w : World) (cs : Array Value) (t : TypeId) (b : Nat) (hb : b = w.heap.size) : ∀ j u, cs.toList[j]? = some u → (w.alloc (.cells cs t)).drew.cell? ((⟨b, 0, none⟩ : Addr).add j) = some u := news_new w cs t b hb
theorem sec_step {L : List SV} {Z : List Int} {i : Nat} {x : SV} {z : Int} (hx : L[i]? = some x) (hz : Z[i]? = some z) : rowsF 64 (secs (L.take (i + 1))) (Z.take (i + 1)) = rowsF 64 (secs (L.take i)) (Z.take i) ++ [rowP x.s z (endF 64 (secs (L.take i)))] ∧ endF 64 (secs (L.take (i + 1))) = up8 (endF 64 (secs (L.take i)) + x.s.d.length) := by
  have h1 := (List.getElem?_eq_some_iff.1 hx).1
  have h2 := (List.getElem?_eq_some_iff.1 hz).1
  rw [take_snoc hx, take_snoc hz]
  simp only [secs, List.map_append, List.map_cons, List.map_nil]
  refine ⟨?_, ?_⟩
  · rw [rowsF_app _ _ _ _ _ (by simp; omega)]; rfl
  · rw [endF_app]; rfl
theorem sumD_take (L : List SV) (i : Nat) (x : SV) (hx : L[i]? = some x) : sumD (secs (L.take i)) + x.s.d.length ≤ sumD (secs L) := by
  have e : sumD (secs L) = sumD (secs (L.take (i + 1))) + sumD (secs (L.drop (i + 1))) := by
    conv => lhs; rw [← List.take_append_drop (i + 1) L]
    simp only [sumD, secs, List.map_append, List.sum_append]
  rw [e, take_snoc hx]
  simp [sumD, secs]
/-- the boxes that a round reads -/
structure Kp (wx : World) (q : Nat) (x : SV) (g : Nat) (Z : List Int) : Prop where
  bx : wx.heap[q]? = some (.cells #[.string ⟨x.s.nm.toArray⟩, .int .i64 x.s.ty, .int .i64 x.s.fl, .int .i64 x.s.li, .int .i64 x.s.inf, .int .i64 x.s.al, .int .i64 x.s.es, .slice x.da x.s.d.length x.dc] 46 (0, 0))
  rw : RowI wx g Z
theorem Kp.chg {S : Nat → Prop} {w w' : World} {q g : Nat} {x : SV} {Z : List Int} (h : Kp w q x g Z) (c : Chg S w w') (h1 : ¬ S q) (h2 : ¬ S g) : Kp w' q x g Z :=
  ⟨(c.block q (Array.getElem?_eq_some_iff.1 h.bx).1 h1).trans h.bx, (c.block g h.rw.lt h2).trans h.rw⟩
theorem Kp.out {w w' : World} {q g : Nat} {x : SV} {Z : List Int} (h : Kp w q x g Z) (o : Out w w') : Kp w' q x g Z := h.chg (S := fun _ => False) (Chg.of_out o) (fun h => h) (fun h => h)
theorem Kp.grow {w w' : World} {q g B n : Nat} {x : SV} {Z : List Int} {v : Value} {xs : List Value} (h : Kp w q x g Z) (ho : w.ownsRow B 79 18 v n xs) (hg : w.grownBy w' v.ownBlock) : Kp w' q x g Z :=
  h.chg (Chg.of_grown (S := fun k => v.ownBlock = some k) hg (fun k hk => hk)) (own_type ho h.bx (by decide)) (own_type ho h.rw (by decide))
theorem kp_grow {wb X w' : World} {q g B n : Nat} {x : SV} {Z : List Int} {v : Value} {xs : List Value} (h : Kp wb q x g Z) (hA : ∀ wx, Out wb wx → wx.ownsRow B 79 18 v n xs ∧ B ≤ wx.heap.size) (hg : X.grownBy w' v.ownBlock) (o : Out wb X) : Kp w' q x g Z := (h.out o).grow (hA X o).1 hg
theorem out_grow {w wb X w' : World} {n : Nat} {v : Value} {xs : List Value} (h1 : Out w wb) (hA : ∀ wx, Out wb wx → wx.ownsRow w.heap.size 79 18 v n xs ∧ w.heap.size ≤ wx.heap.size) (hg : X.grownBy w' v.ownBlock) (o : Out wb X) : Out w w' := out_rowN (h1.trans o) (hA X o).1 hg
theorem Kp.cells {wx : World} {q g : Nat} {x : SV} {Z : List Int} (h : Kp wx q x g Z) {i : Nat} {z : Int} (hz : Z[i]? = some z) : wx.cell? ⟨g, i, none⟩ = some (.int .i64 z) ∧ wx.cell? ⟨q, 1, none⟩ = some (.int .i64 x.s.ty) ∧ wx.cell? ⟨q, 2, none⟩ = some (.int .i64 x.s.fl) ∧ wx.cell? ⟨q, 7, none⟩ = some (.slice x.da x.s.d.length x.dc) ∧ wx.cell? ⟨q, 3, none⟩ = some (.int .i64 x.s.li) ∧ wx.cell? ⟨q, 4, none⟩ = some (.int .i64 x.s.inf) ∧ wx.cell? ⟨q, 5, none⟩ = some (.int .i64 x.s.al) ∧ wx.cell? ⟨q, 6, none⟩ = some (.int .i64 x.s.es) := by
  have hb := h.bx
  have hr := h.rw
  refine ⟨?_, by simp [World.cell?, hb], by simp [World.cell?, hb], by simp [World.cell?, hb], by simp [World.cell?, hb], by simp [World.cell?, hb], by simp [World.cell?, hb], by simp [World.cell?, hb]⟩
  simp [World.cell?, show wx.heap[g]? = _ from hr, hz]
set_option maxRecDepth 8000 in
set_option maxHeartbeats 4000000 in
theorem rowsOf_any (B : Nat) (a : Option Addr) (c : Nat) (L : List SV) (Z : List Int) (g : Nat) (w : World) (h : ScAt B w a L) (hB : B ≤ w.heap.size) (hc : L.length ≤ c) (hl : L.length ≤ 1000) (hZ : L.length = Z.length) (hr : RowI w g Z) (hs : sumD (secs L) ≤ 1000000000000) :
    Calls Try.prog 28 #[.slice a L.length c, .slice (some ⟨g, 0, none⟩) L.length L.length] w fun e w' => ∃ a' c', e = .returned (.tuple #[.slice a' (L.length + 1) c', .int .i64 (endF 64 (secs L) : Nat)]) ∧ OwR w.heap.size (.slice a' (L.length + 1) c') (zRw :: rowsF 64 (secs L) Z) w' ∧ Out w w' := by
  have H := hidOf h
  have HR := hidOf hr
  have Hs := hidOf hs
  have HZ := hidOf hZ
  have hcI : (L.length : Int) ≤ c := by omega
  have hlI : (L.length : Int) ≤ 1000 := by omega
  obtain ⟨cur, hmk, hown⟩ := run_make_rw (L.length + 1) (by omega) (by omega) w
  have HM := hidOf hown
  have Ho0 := hidOf ((Out.refl w).alloc (.cells cur 79))
  rw [show (((L.length + 1 : Nat)) : Int) = 1 + (L.length : Int) by omega] at hmk
  clear h hr hs hZ hown
  go_enter Try.func28, Try.ntmps28
  go_wp2
  clear hmk
  generalize w.alloc (.cells cur 79) = W1 at *
  obtain ⟨i0, hi0, hz0, hz1, hz2⟩ := info_parts infoRw
  go_loopw [16, 6, 7] (fun iv rv pv wr => ∃ (i p : Nat) (a' : Option Addr) (c' : Nat), iv = .int .i64 i ∧ rv = .slice a' (i + 1) c' ∧ pv = .int .i64 p ∧ i ≤ L.length ∧ Hid (p = endF 64 (secs (L.take i))) ∧ Hid (wr.ownsRow w.heap.size 79 18 (.slice a' (i + 1) c') (i + 1) (rwV (zRw :: rowsF 64 (secs (L.take i)) (Z.take i)))) ∧ Hid (Out w wr)) (fun iv _ _ _ => L.length - (intOf iv).toNat)
  case atStart => exact ⟨0, 64, _, _, rfl, rfl, rfl, by omega, rfl, HM.out, Ho0.out⟩
  case round =>
    obtain ⟨i, p, a', c', rfl, rfl, rfl, hi, HP, HO, Ho⟩ := hrel
    by_cases hiL : i < L.length
    · have hlt : (i : Int) < L.length := by omega
      have h0 : (0 : Int) ≤ i := by omega
      obtain ⟨x, hx⟩ : ∃ x, L[i]? = some x := ⟨_, List.getElem?_eq_getElem hiL⟩
      obtain ⟨z, hz⟩ : ∃ z, Z[i]? = some z := ⟨_, List.getElem?_eq_getElem (by have := HZ.out; omega)⟩
      obtain ⟨b, off, rfl, hb, hc8⟩ := (H.out.below (Below.mono Ho.out hB)).get hx
      obtain ⟨d0, d1, d2, d3, d4, d5, d6, d7⟩ := hc8
      have hst := sec_step hx hz
      have hsm := sumD_take L i x hx
      have hel := endF_le (secs (L.take i)) 64
      have hpb : p + x.s.d.length ≤ 2000000000000 := by
        have := Hs.out
        have hp := HP.out
        have hlen : (secs (L.take i)).length ≤ 1000 := by simp [secs]; omega
        omega
      rw [← HP.out] at hst
      have Hst := hidOf hst
      obtain ⟨q, hq⟩ : ∃ q, q = wr.heap.size := ⟨_, rfl⟩
      have HK : Hid (Kp (wr.alloc (boxS x)) q x g Z) := ⟨by rw [hq]; exact heap_alloc_new wr _, ((Ho.out.alloc (boxS x)).block g HR.out.lt).trans HR.out⟩
      have HO1 : Hid ((wr.alloc (boxS x)).ownsRow w.heap.size 79 18 (.slice a' (i + 1) c') (i + 1) (rwV (zRw :: rowsF 64 (secs (L.take i)) (Z.take i)))) := HO.out.alloc _
      have Ho1 := hidOf (Ho.out.alloc (boxS x))
      have Hz := hidOf hz
      clear hx hst hsm hel hz
      go_upto_region 6 with fail
      rw [← hq]
      have e1 : wr.alloc (.cells #[.string ⟨x.s.nm.toArray⟩, .int .i64 x.s.ty, .int .i64 x.s.fl, .int .i64 x.s.li, .int .i64 x.s.inf, .int .i64 x.s.al, .int .i64 x.s.es, .slice x.da x.s.d.length x.dc] 46) = wr.alloc (boxS x) := rfl
      rw [e1]
      clear e1 hq d0 d1 d2 d3 d4 d5 d6 d7 HO Ho
      generalize wr.alloc (boxS x) = wb at *
      have J := hidOf (fun n wx => just_of (W := wb) n wx)
      have O0 := hidOf (Out.refl wb)
      have O1 := hidOf (Out.drew (Out.refl wb))
      have HKS : Hid (∀ wx, Out wb wx → wx.cell? ⟨g, i, none⟩ = some (.int .i64 z) ∧ wx.cell? ⟨q, 1, none⟩ = some (.int .i64 x.s.ty) ∧ wx.cell? ⟨q, 2, none⟩ = some (.int .i64 x.s.fl) ∧ wx.cell? ⟨q, 7, none⟩ = some (.slice x.da x.s.d.length x.dc) ∧ wx.cell? ⟨q, 3, none⟩ = some (.int .i64 x.s.li) ∧ wx.cell? ⟨q, 4, none⟩ = some (.int .i64 x.s.inf) ∧ wx.cell? ⟨q, 5, none⟩ = some (.int .i64 x.s.al) ∧ wx.cell? ⟨q, 6, none⟩ = some (.int .i64 x.s.es)) := fun wx ho => (HK.out.out ho).cells Hz.out
      have HAp : Hid (∀ wx, Out wb wx → wx.ownsRow w.heap.size 79 18 (.slice a' (i + 1) c') (i + 1) (rwV (zRw :: rowsF 64 (secs (L.take i)) (Z.take i))) ∧ w.heap.size ≤ wx.heap.size) := fun wx ho => ⟨owns_chg (S := fun _ => False) HO1.out (fun _ _ h => h) (Chg.of_out ho), Nat.le_trans Ho1.out.size ho.size⟩
      obtain ⟨s0, s1, s2, s3, s4, s5, s6, s7⟩ := HKS.out wb O0.out
      go_region_held3 (fun wx => wx.cell? ⟨g, i, none⟩ = some (.int .i64 z) ∧ wx.cell? ⟨q, 1, none⟩ = some (.int .i64 x.s.ty) ∧ wx.cell? ⟨q, 2, none⟩ = some (.int .i64 x.s.fl) ∧ wx.cell? ⟨q, 7, none⟩ = some (.slice x.da x.s.d.length x.dc) ∧ wx.cell? ⟨q, 3, none⟩ = some (.int .i64 x.s.li) ∧ wx.cell? ⟨q, 4, none⟩ = some (.int .i64 x.s.inf) ∧ wx.cell? ⟨q, 5, none⟩ = some (.int .i64 x.s.al) ∧ wx.cell? ⟨q, 6, none⟩ = some (.int .i64 x.s.es)) (first | with_reducible exact Hs4.out | with_reducible exact HKS.out _ (Hid.out (by assumption)) | with_reducible exact HKS.out _ (Out.alloc (Hid.out (by assumption)) _) | with_reducible exact HKS.out _ (Out.drew (Out.alloc (Hid.out (by assumption)) _)) | with_reducible exact ⟨s0, s1, s2, s3, s4, s5, s6, s7⟩ | fail) (first | (go_at_call 31; refine (J.out _ _ (Hid.out (by assumption))).mono ?_; rintro e w2 ⟨rfl, hO2⟩; have HO2 := hidOf hO2; clear hO2) | (refine step_append_lies _ rfl (.tmp 21) (.tmp 52) 68 rfl w.heap.size 79 i0 _ 18 144 Try.underlying68 hi0 hz0 hz1 hz2 rfl (by decide) (.slice a' (i + 1) c') (i + 1) (rwV (zRw :: rowsF 64 (secs (L.take i)) (Z.take i))) rfl (HAp.out _ (by first | with_reducible exact Out.alloc (Hid.out (by assumption)) _ | with_reducible exact Out.drew (Out.alloc (Hid.out (by assumption)) _))).1 _ 1 1 (Rw.cs (rowP x.s z p)) rfl rfl (by first | exact news_new _ _ _ _ rfl | exact news_drew _ _ _ _ rfl) (rwV_one [rowP x.s z p]) (by decide) (by unfold maxLen; omega) (by omega) (HAp.out _ (by first | with_reducible exact Out.alloc (Hid.out (by assumption)) _ | with_reducible exact Out.drew (Out.alloc (Hid.out (by assumption)) _))).2 _ rfl ?_; intro g4 cap4 w4 hown4 hgrow4 hg4 hlt4; have HO4 := hidOf hown4; have Hg4 := hidOf hgrow4; have HK4 := hidOf (kp_grow HK.out HAp.out Hg4.out (by first | with_reducible exact Out.alloc (Hid.out (by assumption)) _ | with_reducible exact Out.drew (Out.alloc (Hid.out (by assumption)) _))); have HW4 := hidOf (out_grow Ho1.out HAp.out Hg4.out (by first | with_reducible exact Out.alloc (Hid.out (by assumption)) _ | with_reducible exact Out.drew (Out.alloc (Hid.out (by assumption)) _))); have s4 := HK4.out.cells Hz.out; have Hs4 := hidOf s4; clear s4 hown4 hgrow4 hg4 hlt4) | fail)
      all_goals
        have CU : Hid (∀ wx, Calls Try.prog 47 #[.int .i64 ((p : Int) + x.s.d.length)] wx fun e w' => e = .returned (.int .i64 (up8 (p + x.s.d.length) : Nat)) ∧ w' = wx) := fun wx => by
          have := up8_any (p + x.s.d.length) (by omega) wx
          rwa [Int.natCast_add] at this
        have e7 := Hs4.out.2.2.2.1
        have e7d : ∀ k, (w4.drewN k).cell? ⟨q, 7, none⟩ = some (.slice x.da x.s.d.length x.dc) := fun k => e7
        have e7e : w4.drew.cell? ⟨q, 7, none⟩ = some (.slice x.da x.s.d.length x.dc) := e7
        clear s0 s1 s2 s3 s4 s5 s6 s7 HKS J HAp
        go_wp2_with (go_at_call 47; refine (CU.out _).mono ?_; rintro e w5 ⟨rfl, hw⟩; have hw := hw.symm; subst hw)
        refine ⟨⟨i + 1, up8 (p + x.s.d.length), some ⟨g4, 0, none⟩, cap4, by simp, rfl, rfl, by omega, Hst.out.2.symm, ?_, ?_⟩, by simp [intOf]; omega⟩
        · show World.ownsRow _ _ _ _ _ _ _
          have e : rwV (zRw :: rowsF 64 (secs (L.take (i + 1))) (Z.take (i + 1))) = rwV (zRw :: rowsF 64 (secs (L.take i)) (Z.take i)) ++ Rw.cs (rowP x.s z p) := by
            rw [Hst.out.1, ← List.cons_append, rwV_app]
            simp [rwV]
          rw [e]
          first | exact HO4.out | exact owns_chg (S := fun _ => False) HO4.out (fun _ _ h => h) ((Chg.refl _ _).drew)
        · first | exact HW4.out | exact HW4.out.drew
    · have hlt : ¬ (i : Int) < L.length := by omega
      obtain rfl : i = L.length := by omega
      have hP := HP.out
      have hO := HO.out
      rw [List.take_length] at hP hO
      rw [HZ.out, List.take_length] at hO
      rw [← HZ.out] at hO
      have HO := hidOf hO
      clear hO HP
      subst hP
      go_wp2
      go_ret2
      refine ⟨a', c', rfl, ?_, Ho.out⟩
      unfold OwR
      rw [show (zRw :: rowsF 64 (secs L) Z).length = L.length + 1 by rw [List.length_cons, rowsF_len _ _ _ (by simpa [secs] using HZ.out)]; simp [secs]]
      exact HO.out
end Go.Proofs.Ytlfcjbeldnkkoaa
namespace Go.Proofs.Ytlfcjbeldnkkoaa
open Go.RowKit
set_option linter.unusedVariables false
set_option linter.unusedSimpArgs false
def shN : List UInt8 := [46, 115, 104, 115, 116, 114, 116, 97, 98]
def nmsS (ss : List Sec) : List (List UInt8) := ss.map Sec.nm ++ [shN]
def tabD (ss : List Sec) : List UInt8 := byP (namesF (nmsS ss))
def tabS (ss : List Sec) : Sec := ⟨shN, 3, 0, 0, 0, 1, 0, tabD ss⟩
def allS (ss : List Sec) : List Sec := ss ++ [tabS ss]
def plsS (ss : List Sec) : List Int := (nmsS ss).map fun x => (plF 1 (namesF (nmsS ss)) x : Int)
def bodF (b : List UInt8) (L : List Sec) : List UInt8 := L.foldl (fun b s => padB (b ++ s.d)) b
def tblF (R : List Rw) : List UInt8 := R.flatMap fun r => layB r.fds
def writeB (ss : List Sec) : List UInt8 := bodF (layB (headF (jw2 (endF 64 (allS ss))) (jw2 (ss.length + 2)) (jw2 (ss.length + 1)))) (allS ss) ++ tblF (zRw :: rowsF 64 (allS ss) (plsS ss))
def writeOk (ss : List Sec) : Bool := decide (ss.length ≤ 16) && !ss.any badP && ss.all fun s => nameOk s.nm
/-- a table's section, its data still to come -/
def t0 : SV := ⟨⟨shN, 3, 0, 0, 0, 1, 0, []⟩, none, 0⟩
theorem OwV.at {B : Nat} {a : Option Addr} {n c : Nat} {L : List SV} {w : World} (h : OwV B (.slice a n c) L w) : ScAt w.heap.size w a L ∧ L.length ≤ c ∧ n = L.length := by
  rcases h.2 with ⟨hv, h0⟩ | ⟨g, cap, cur, hv, hb, hg, hc, _⟩
  · cases hv
    exact ⟨.inl (List.length_eq_zero_iff.1 h0), by omega, h0.symm⟩
  · cases hv
    refine ⟨.inr ⟨g, 0, (Array.getElem?_eq_some_iff.1 hg).1, rfl, fun k u hu => ?_⟩, hc, rfl⟩
    have := World.ownsRow.cells h (g := g) rfl k u hu
    rwa [WideShapes.add_plain] at this
theorem OwV.setLast {B : Nat} {g c : Nat} {L : List SV} {x y : SV} {w : World} {n : Nat} (h : OwV B (.slice (some ⟨g, 0, none⟩) n c) (L ++ [x]) w) (hy : y.cs = x.cs.set 7 (.slice y.da y.s.d.length y.dc)) :
    OwV B (.slice (some ⟨g, 0, none⟩) n c) (L ++ [y]) (w.setCell ⟨g, L.length * 8 + 7, none⟩ (.slice y.da y.s.d.length y.dc)) ∧ (∃ u, w.cell? ⟨g, L.length * 8 + 7, none⟩ = some u) ∧ w.frozen? ⟨g, L.length * 8 + 7, none⟩ = false := by
  rcases h.2 with ⟨hv, h0⟩ | ⟨g', cap, cur, hv, hb, hg, hc, hm, hs, ht⟩
  · simp at h0
  · cases hv
    have hl : (L ++ [x]).length = L.length + 1 := by simp
    have hl' : (L ++ [y]).length = L.length + 1 := by simp
    have hk : L.length * 8 + 7 < cur.size := by rw [hs]; omega
    refine ⟨⟨by rw [svV_len], .inr ⟨g, c, cur.setIfInBounds (L.length * 8 + 7) (.slice y.da y.s.d.length y.dc), ?_, hb, ?_, by omega, hm, by simpa using hs, ?_⟩⟩, ?_, ?_⟩
    · simp
    · simp [World.setCell, Array.getElem?_modify, hg]
    · rw [hl']
      rw [hl] at ht
      rw [Array.toList_setIfInBounds, List.take_set, ht, svV_app, svV_app]
      have e1 : svV [x] = x.cs := by simp [svV]
      have e2 : svV [y] = y.cs := by simp [svV]
      rw [e1, e2, hy, List.set_append_right _ _ (by rw [svV_len]; omega)]
      congr 2
      rw [svV_len]; omega
    · refine ⟨cur[L.length * 8 + 7], ?_⟩
      simp [World.cell?, hg, hk]
    · simp [World.frozen?, hg]
theorem run_make_b0 (n : Nat) (hn : n ≤ 10000000000000) (w : World) : ∃ cur : Array Value, (Instr.makeSlice 24 (.int .i64 0) (.int .i64 (n : Int))).run Try.prog w = .ok (.slice (some ⟨w.heap.size, 0, none⟩) 0 n) (w.alloc (.cells cur 5)) ∧ OwB w.heap.size (.slice (some ⟨w.heap.size, 0, none⟩) 0 n) [] (w.alloc (.cells cur 5)) := by
  obtain ⟨i0, hi, hz0, hz1, hz2⟩ := info_parts infoB
  have h := run_make (P := Try.prog) w 24 5 i0 _ Try.underlying24 hi hz0 .i64 .i64 0 (n : Int) (by omega) (by omega) (by rw [hz2]; omega) (by omega)
  rw [hz1, Nat.mul_one] at h
  refine ⟨_, h, rfl, .inr ⟨w.heap.size, n, _, rfl, Nat.le_refl _, heap_alloc_new w _, by simp, by unfold maxLen; omega, by simp [madeCells], ?_⟩⟩
  simp [Lib.byteCells]
theorem write_many (a : Option Addr) (n c : Nat) (w : World) (hn : 16 < n) (hb : n ≤ 1000000000000) : Calls Try.prog 8 #[.slice a n c] w fun e w' => e = .returned (.tuple #[.slice none 0 0, .int .i64 92]) ∧ w' = w := by
  have hnI : (16 : Int) < n := by omega
  go_enter Try.func8, Try.ntmps8
  go_wp2
  go_ret2
  exact ⟨rfl, rfl⟩
set_option maxRecDepth 8000 in
set_option maxHeartbeats 4000000 in
theorem write_bad (B : Nat) (a : Option Addr) (c : Nat) (L : List SV) (w : World) (h : ScAt B w a L) (hB : B ≤ w.heap.size) (hc : L.length ≤ c) (hl : L.length ≤ 16) (hb : L.any (fun x => badP x.s) = true) : Calls Try.prog 8 #[.slice a L.length c] w fun e w' => e = .returned (.tuple #[.slice none 0 0, .int .i64 92]) ∧ Out w w' := by
  have HC := hidOf (contains_any B a c L w h hB hc (by omega))
  rw [hb] at HC
  have hlI : ¬ (16 : Int) < L.length := by omega
  clear h
  go_enter Try.func8, Try.ntmps8
  go_wp2_with (go_at_call 24; refine (HC.out).mono ?_; rintro e w1 ⟨rfl, hO1⟩; have HO1 := hidOf hO1; clear hO1)
  go_ret2
  exact ⟨rfl, HO1.out⟩
end Go.Proofs.Ytlfcjbeldnkkoaa
