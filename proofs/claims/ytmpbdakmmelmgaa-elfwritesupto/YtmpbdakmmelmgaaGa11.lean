import Derived.Test.YtmpbdakmmelmgaaGa10
import Derived.Lib.AppendZerosOnto
namespace Go.Proofs.Ytmpbdakmmelmgaa
open Go.RowKit
open Go.Maps (Keyed)
set_option linter.unusedVariables false
set_option linter.unusedSimpArgs false
/-- a section's box -/
def boxS (x : SV) : Obj := .cells #[.string ⟨x.s.nm.toArray⟩, .int .i64 x.s.ty, .int .i64 x.s.fl, .int .i64 x.s.li, .int .i64 x.s.inf, .int .i64 x.s.al, .int .i64 x.s.es, .slice x.da x.s.d.length x.dc] 52
theorem boxS_cells {w wx : World} {q : Nat} {x : SV} (h : wx.heap[q]? = some (.cells #[.string ⟨x.s.nm.toArray⟩, .int .i64 x.s.ty, .int .i64 x.s.fl, .int .i64 x.s.li, .int .i64 x.s.inf, .int .i64 x.s.al, .int .i64 x.s.es, .slice x.da x.s.d.length x.dc] 52 (0, 0))) : Cells8 wx q 0 x := by
  refine ⟨?_, ?_, ?_, ?_, ?_, ?_, ?_, ?_⟩ <;> (simp [World.cell?, h])
def nmsOf (L : List SV) : List (List UInt8) := L.map fun x => x.s.nm
def plsOf (L : List SV) : List Int := (nmsOf L).map fun x => (plF 1 (namesF (nmsOf L)) x : Int)
set_option maxRecDepth 8000 in
set_option maxHeartbeats 4000000 in
theorem addNames_any (B : Nat) (a : Option Addr) (c : Nat) (L : List SV) (w : World) (h : ScAt B w a L) (hB : B ≤ w.heap.size) (hc : L.length ≤ c) (hl : L.length ≤ 1000) :
    Calls Try.prog 34 #[.slice a L.length c] w fun e w' => Out w w' ∧ (((∀ x ∈ nmsOf L, nameOk x = true) ∧ ∃ na nc g, e = .returned (.tuple #[.slice na (byP (namesF (nmsOf L))).length nc, .slice (some ⟨g, 0, none⟩) L.length L.length, .int .i64 0]) ∧ OwB w.heap.size (.slice na (byP (namesF (nmsOf L))).length nc) (byP (namesF (nmsOf L))) w' ∧ RowI w' g (plsOf L) ∧ w.heap.size ≤ g) ∨ (¬ (∀ x ∈ nmsOf L, nameOk x = true) ∧ e = .returned (.tuple #[.slice none 0 0, .slice none 0 0, .int .i64 81]))) := by
  have H := hidOf h
  have hcI : (L.length : Int) ≤ c := by omega
  have hlI : (L.length : Int) ≤ 1000 := by omega
  have hmk := run_make_in L.length (by omega)
  obtain ⟨p, hp⟩ : ∃ p, p = w.heap.size := ⟨_, rfl⟩
  obtain ⟨g, hg⟩ : ∃ g, g = (w.alloc newO).heap.size := ⟨_, rfl⟩
  have hgp : g = p + 1 := by rw [hg, size_alloc, hp]
  have HN : Hid (Calls Try.prog 70 #[] w fun e w' => e = .returned (.pointer (some ⟨p, 0, none⟩)) ∧ w' = w.alloc newO) := by rw [hp]; exact new_any w
  have HS : Hid (AN w ((w.alloc newO).alloc (.cells ((List.replicate L.length (0 : Int)).map (Value.int .i64)).toArray 3)) p g L.length [] (fun k => k = p)) := by
    have o1 : Out (w.alloc newO) ((w.alloc newO).alloc (.cells ((List.replicate L.length (0 : Int)).map (Value.int .i64)).toArray 3)) := (Out.refl _).alloc _
    refine ⟨?_, ?_, ?_, ?_, by omega, by omega, by simp, ((Out.refl w).alloc _).alloc _⟩
    · have := (new_tab w).out o1
      rw [← hp] at this
      exact this
    · intro k hk
      rw [size_alloc, size_alloc]; omega
    · intro k hk; omega
    · have := heap_alloc_new (w.alloc newO) (.cells ((List.replicate L.length (0 : Int)).map (Value.int .i64)).toArray 3)
      rw [← hg] at this
      simpa [RowI] using this
  have Hp := hidOf hp
  have Hg := hidOf hg
  clear h hp hgp
  go_enter Try.func34, Try.ntmps34
  go_upto_region 2 with (go_at_call 70; refine (HN.out).mono ?_; rintro e w1 ⟨rfl, rfl⟩)
  have hm := hmk (w.alloc newO)
  rw [← hg] at hm
  clear hmk hg HN
  generalize w.alloc newO = W1 at *
  generalize W1.alloc (.cells ((List.replicate L.length (0 : Int)).map (Value.int .i64)).toArray 3) = W2 at *
  go_wp2
  clear hm
  go_loopw [19] (fun iv wr => ∃ (i : Nat) (F : Nat → Prop), iv = .int .i64 i ∧ i ≤ L.length ∧ Hid (AN w wr p g L.length (nmsOf (L.take i)) F)) (fun iv _ => L.length - (intOf iv).toNat)
  case atStart => exact ⟨0, _, rfl, by omega, HS.out⟩
  case round =>
    obtain ⟨i, F, rfl, hi, HA⟩ := hrel
    by_cases hiL : i < L.length
    · have hlt : (i : Int) < L.length := by omega
      have h0 : (0 : Int) ≤ i := by omega
      obtain ⟨x, hx⟩ : ∃ x, L[i]? = some x := ⟨_, List.getElem?_eq_getElem hiL⟩
      obtain ⟨b, off, rfl, hb, hc8⟩ := (H.out.below (Below.mono HA.out.out hB)).get hx
      obtain ⟨d0, d1, d2, d3, d4, d5, d6, d7⟩ := hc8
      have Hst : Hid (nmsOf (L.take (i + 1)) = nmsOf (L.take i) ++ [x.s.nm]) := hidOf (by rw [take_snoc hx]; simp [nmsOf])
      have Hln : Hid ((nmsOf (L.take i)).length = i) := hidOf (by simp [nmsOf]; omega)
      have Hm : Hid (x.s.nm ∈ nmsOf L) := hidOf (List.mem_map_of_mem (List.mem_of_getElem? hx))
      obtain ⟨q, hq⟩ : ∃ q, q = wr.heap.size := ⟨_, rfl⟩
      have Hbx : Hid (Cells8 (wr.alloc (boxS x)) q 0 x) := hidOf (boxS_cells (w := w) (by rw [hq]; exact heap_alloc_new wr _))
      have HA1 := hidOf (HA.out.on ((Out.refl wr).alloc (boxS x)))
      clear hx
      go_upto_region 6 with fail
      rw [← hq]
      have e1 : wr.alloc (.cells #[.string ⟨x.s.nm.toArray⟩, .int .i64 x.s.ty, .int .i64 x.s.fl, .int .i64 x.s.li, .int .i64 x.s.inf, .int .i64 x.s.al, .int .i64 x.s.es, .slice x.da x.s.d.length x.dc] 52) = wr.alloc (boxS x) := rfl
      rw [e1]
      clear e1 hq
      generalize wr.alloc (boxS x) = wb at *
      have c0 : wb.cell? ⟨q, 0, none⟩ = some (.string ⟨x.s.nm.toArray⟩) := Hbx.out.c0
      clear d0 d1 d2 d3 d4 d5 d6 d7
      cases hok : nameOk x.s.nm
      · have CA := hidOf (add_bad p x.s.nm wb hok)
        go_wp2_with (go_at_call 71; refine (CA.out).mono ?_; rintro e w1 ⟨rfl, hw⟩; subst hw)
        go_ret3
        refine ⟨HA1.out.out, .inr ⟨fun hall => ?_, rfl⟩⟩
        have := hall _ Hm.out
        rw [hok] at this
        cases this
      · have hsz := (namesF_ok _ HA1.out.ok).2.2.2
        rw [Hln.out] at hsz
        have CA := hidOf (add_any p x.s.nm wb _ F HA1.out.tab hok (by omega) HA1.out.lt)
        clear hsz
        obtain ⟨pl, hpl⟩ : ∃ pl, pl = plF 1 (addN (namesF (nmsOf (L.take i))) x.s.nm) x.s.nm := ⟨_, rfl⟩
        rw [← hpl] at CA
        have Hpl := hidOf hpl
        clear hpl
        go_upto_region 9 with (go_at_call 71; refine (CA.out).mono ?_; rintro e w1 ⟨rfl, hT, hC⟩; have HT := hidOf hT; have HC := hidOf hC; clear hT hC)
        have HA2 := HA1.out.add hok (by rw [Hln.out]; exact hiL) HT.out HC.out
        rw [Hln.out, ← Hst.out, ← Hpl.out] at HA2
        have HA3 := hidOf HA2
        have hr : RowI w1 g _ := (HC.out.block g HA1.out.row.lt HA1.out.gF).trans HA1.out.row
        have hf : w1.frozen? ⟨g, i, none⟩ = false := by simp [World.frozen?, show w1.heap[g]? = _ from hr]
        have hcl : ∃ u, w1.cell? ⟨g, i, none⟩ = some u := by
          have hlen : i < ((nmsOf (L.take i)).map (fun x => (plF 1 (namesF (nmsOf (L.take i))) x : Int)) ++ List.replicate (L.length - (nmsOf (L.take i)).length) 0).length := by
            rw [List.length_append, List.length_map, List.length_replicate, Hln.out]; omega
          simp only [World.cell?, show w1.heap[g]? = _ from hr]
          exact ⟨_, by simp; exact List.getElem?_eq_getElem (by simpa using hlen)⟩
        obtain ⟨u, hcu⟩ := hcl
        clear HA2 hr
        go_wp2
        exact ⟨⟨i + 1, _, by simp, by omega, HA3.out⟩, by simp [intOf]; omega⟩
    · have hlt : ¬ (i : Int) < L.length := by omega
      obtain rfl : i = L.length := by omega
      rw [List.take_length] at HA
      have hok := namesF_ok _ HA.out.ok
      have hnl : (nmsOf L).length = L.length := by simp [nmsOf]
      have CB := hidOf (bytes_any p wr _ F HA.out.tab (by omega))
      have Hrow : Hid (RowI wr g (plsOf L)) := by
        have := HA.out.row
        rw [hnl, Nat.sub_self] at this
        show RowI wr g _
        simpa [plsOf] using this
      clear hok hnl
      go_wp2_with (go_at_call 72; refine (CB.out).mono ?_; rintro e w1 ⟨na, nc, rfl, hOB, hO1⟩; have HOB := hidOf hOB; have HO1 := hidOf hO1; clear hOB hO1)
      go_ret3
      refine ⟨HA.out.out.trans HO1.out, .inl ⟨HA.out.ok, na, nc, g, rfl, own_base HOB.out HA.out.out.size, (HO1.out.block g Hrow.out.lt).trans Hrow.out, HA.out.gge⟩⟩
end Go.Proofs.Ytmpbdakmmelmgaa
namespace Go.Proofs.Ytmpbdakmmelmgaa
open Go.RowKit
set_option linter.unusedVariables false
set_option linter.unusedSimpArgs false
def rwV (l : List Rw) : List Value := l.flatMap Rw.cs
theorem rwV_len (l : List Rw) : (rwV l).length = l.length * 18 := by
  induction l with
  | nil => rfl
  | cons x r ih => show (x.cs ++ rwV r).length = _; rw [List.length_append, ih]; simp [Rw.cs]; omega
theorem rwV_app (l m : List Rw) : rwV (l ++ m) = rwV l ++ rwV m := by simp [rwV, List.flatMap_append]
theorem rwV_one (l : List Rw) : ∀ u ∈ rwV l, u.oneCell' = true := by
  intro u hu
  simp only [rwV, List.mem_flatMap] at hu
  obtain ⟨x, _, hx⟩ := hu
  simp only [Rw.cs, List.mem_cons, List.not_mem_nil, or_false] at hx
  rcases hx with rfl | rfl | rfl | rfl | rfl | rfl | rfl | rfl | rfl | rfl | rfl | rfl | rfl | rfl | rfl | rfl | rfl | rfl <;> rfl
theorem rwV_get : ∀ (l : List Rw) (i : Nat) (x : Rw) (j : Nat), l[i]? = some x → j < 18 → (rwV l)[i * 18 + j]? = x.cs[j]?
  | [], i, x, j, h, _ => by simp at h
  | y :: r, 0, x, j, h, hj => by
    simp at h; subst h
    show (y.cs ++ rwV r)[0 * 18 + j]? = _
    rw [List.getElem?_append_left (by simp [Rw.cs]; omega)]; simp
  | y :: r, i + 1, x, j, h, hj => by
    show (y.cs ++ rwV r)[(i + 1) * 18 + j]? = _
    rw [List.getElem?_append_right (by simp [Rw.cs]; omega), ← rwV_get r i x j (by simpa using h) hj]
    congr 1
    simp [Rw.cs]; omega
def zRw : Rw := ⟨(0, 0), (0, 0), (0, 0), (0, 0), (0, 0), (0, 0), (0, 0), (0, 0), (0, 0)⟩
theorem infoRw : (Try.prog.info? 90).map (fun i => (i.zero, i.size, i.bytes)) = some (some (.agg zRw.cs.toArray), 18, 144) := by kernel_rfl
def OwR (B : Nat) (v : Value) (R : List Rw) (w : World) : Prop := w.ownsRow B 90 18 v R.length (rwV R)
def jw2 (n : Int) : Nat × Nat := (jw n, jw n)
def rowP (s : Sec) (z : Int) (p : Nat) : Rw := ⟨jw2 z, jw2 s.ty, jw2 s.fl, jw2 p, jw2 s.d.length, jw2 s.li, jw2 s.inf, jw2 s.al, jw2 s.es⟩
def endF : Nat → List Sec → Nat
  | p, [] => p
  | p, s :: r => endF (up8 (p + s.d.length)) r
def rowsF : Nat → List Sec → List Int → List Rw
  | p, s :: r, z :: t => rowP s z p :: rowsF (up8 (p + s.d.length)) r t
  | _, _, _ => []
theorem endF_app : ∀ (A B : List Sec) (p : Nat), endF p (A ++ B) = endF (endF p A) B
  | [], _, _ => rfl
  | s :: r, B, p => by simp only [List.cons_append, endF]; exact endF_app r B _
theorem rowsF_app : ∀ (A B : List Sec) (Z T : List Int) (p : Nat), A.length = Z.length → rowsF p (A ++ B) (Z ++ T) = rowsF p A Z ++ rowsF (endF p A) B T
  | [], B, [], T, _, _ => by simp [rowsF, endF]
  | [], _, _ :: _, _, _, h => by simp at h
  | _ :: _, _, [], _, _, h => by simp at h
  | s :: r, B, z :: t, T, p, h => by
    simp only [List.cons_append, rowsF, endF]
    rw [rowsF_app r B t T _ (by simpa using h)]
theorem up8_ge (n : Nat) : n ≤ up8 n ∧ up8 n ≤ n + 7 := by unfold up8; omega
def sumD (L : List Sec) : Nat := (L.map fun s => s.d.length).sum
theorem endF_le : ∀ (L : List Sec) (p : Nat), p ≤ endF p L ∧ endF p L ≤ p + sumD L + 7 * L.length
  | [], p => by simp [endF, sumD]
  | s :: r, p => by
    have h1 := up8_ge (p + s.d.length)
    have h2 := endF_le r (up8 (p + s.d.length))
    simp only [endF, sumD, List.map_cons, List.sum_cons, List.length_cons] at h2 ⊢
    omega
theorem rowsF_len : ∀ (A : List Sec) (Z : List Int) (p : Nat), A.length = Z.length → (rowsF p A Z).length = A.length
  | [], Z, _, _ => by cases Z <;> rfl
  | _ :: _, [], _, h => by simp at h
  | s :: r, z :: t, p, h => by simp only [rowsF, List.length_cons]; rw [rowsF_len r t _ (by simpa using h)]
set_option maxRecDepth 8000 in
theorem run_make_rw (n : Nat) (h1 : 1 ≤ n) (hn : n ≤ 1000000) (w : World) : ∃ cur : Array Value, (Instr.makeSlice 79 (.int .i64 1) (.int .i64 (n : Int))).run Try.prog w = .ok (.slice (some ⟨w.heap.size, 0, none⟩) 1 n) (w.alloc (.cells cur 90)) ∧ OwR w.heap.size (.slice (some ⟨w.heap.size, 0, none⟩) 1 n) [zRw] (w.alloc (.cells cur 90)) := by
  obtain ⟨i0, hi, hz0, hz1, hz2⟩ := info_parts infoRw
  have h := run_make (P := Try.prog) w 79 90 i0 _ Try.underlying79 hi hz0 .i64 .i64 1 (n : Int) (by omega) (by omega) (by rw [hz2]; omega) (by omega)
  rw [hz1] at h
  refine ⟨_, h, by simp [rwV_len], .inr ⟨w.heap.size, n, _, rfl, Nat.le_refl _, heap_alloc_new w _, h1, by unfold maxLen; omega, by simp [madeCells], ?_⟩⟩
  obtain ⟨m, rfl⟩ : ∃ m, n = m + 1 := ⟨n - 1, by omega⟩
  apply List.ext_getElem?
  intro j
  by_cases hj : j < 18
  · have e : (rwV [zRw])[j]? = zRw.cs[j]? := by simpa using rwV_get [zRw] 0 zRw j rfl hj
    rw [e, List.getElem?_take_of_lt (by simpa using hj)]
    simp only [madeCells, Int.toNat_natCast, Value.cells]
    have hjn : j < (m + 1) * 18 := by omega
    have hmod : j % 18 = j := Nat.mod_eq_of_lt hj
    simp [hjn, Rw.cs, zRw, hmod]
    rw [List.getElem?_eq_getElem (by simpa using hj)]
    simp
  · rw [List.getElem?_eq_none (by rw [List.length_take]; simp; omega), List.getElem?_eq_none (by rw [rwV_len]; simp; omega)]
def padB (O : List UInt8) : List UInt8 := O ++ List.replicate (up8 O.length - O.length) 0
theorem padB_len (O : List UInt8) : (padB O).length = up8 O.length := by
  have := up8_ge O.length
  simp [padB]; omega
theorem zeroCells_one (z : Value) (hz : z.cells = #[z]) (k : Nat) : (Builtin.zeroCells z.cells k).toList = List.replicate k z := by
  rw [hz]
  apply List.ext_getElem?
  intro j
  simp only [Builtin.zeroCells, List.size_toArray, List.length_cons, List.length_nil, Nat.zero_add, Nat.mul_one, Array.toList_map, List.getElem?_map, Array.toList_range]
  by_cases h : j < k
  · simp [h, Nat.mod_one, List.getElem?_replicate]
  · simp [h, List.getElem?_replicate]
theorem run_append_own_zeros {P : Program} {w : World} (base : Nat) (t tn ty e : TypeId) (i : TypeInfo) (z : Value) (kq kn : IntKind) (ht : P.underlying t = some (.slice e)) (htn : P.underlying tn = some (.int kn)) (hi : P.info? e = some i) (hz : i.zero = some z)
    (hsize : i.size = 1) (hby : i.bytes = 1) (hzc : z.cells = #[z]) (hz1 : z.oneCell' = true)
    (v : Value) (n : Nat) (xs : List Value) (hown : w.ownsRow base e 1 v n xs) (k : Nat) (h0 : 0 < k) (hk : k ≤ 1000) (hn : n ≤ 100000000000000) (hbase : base ≤ w.heap.size) :
    ∃ v' w', (Builtin.append_ #[t, tn] ty #[v, .int kq k]).run P w = .ok v' w' ∧ w'.ownsRow base e 1 v' (n + k) (xs ++ List.replicate k z) ∧ w.grownBy w' v.ownBlock := by
  have hlen : (xs ++ List.replicate k z).length = (n + k) * 1 := by rw [List.length_append, hown.1, List.length_replicate]; omega
  have hw : IntKind.i64.wrap (k : Int) = k := by rw [IntKind.wrap_i64]; omega
  have grown : ∀ (old : Nat), ∀ (row : Option Nat),
      (w.drew.alloc (.cells (xs.toArray ++ Builtin.zeroCells z.cells k ++ Builtin.zeroCells z.cells (grownCap w (n + k) old e - (n + k))) e)).ownsRow base e 1
        (.slice (some ⟨w.heap.size, 0, none⟩) (n + k) (grownCap w (n + k) old e)) (n + k) (xs ++ List.replicate k z) ∧
      w.grownBy (w.drew.alloc (.cells (xs.toArray ++ Builtin.zeroCells z.cells k ++ Builtin.zeroCells z.cells (grownCap w (n + k) old e - (n + k))) e)) row := by
    intro old row
    have hge := grownCap_ge w (n + k) old e
    have hcm : grownCap w (n + k) old e ≤ maxLen := grownCap_le_maxLen w (n + k) old e (by simp only [maxLen]; omega)
    refine ⟨⟨hlen, .inr ⟨w.heap.size, _, _, rfl, hbase, heap_alloc_new w.drew _, hge, hcm, ?_, ?_⟩⟩, ⟨rfl, rfl, rfl, by simp, fun k hk _ => Below.heap_alloc w.drew _ k hk⟩⟩
    · simp only [Array.size_append, List.size_toArray, size_zeroCells, hzc, hown.1, List.length_cons, List.length_nil]
      omega
    · simp only [Array.toList_append, zeroCells_one z hzc]
      rw [← hlen]
      exact List.take_left
  rcases hown.2 with ⟨rfl, rfl⟩ | ⟨g, cap, cur, rfl, hbg, hg, hnc, hcm, hcs, htake⟩
  · have hx : xs = [] := List.eq_nil_of_length_eq_zero (by simpa using hown.1)
    subst hx
    have hr := Lib.run_append_nil_zeros (P := P) w t tn ty e i z kq kn ht htn hi hz k h0 (by omega) (by omega) (by rw [hby]; omega)
    have hgr := grown 0 (Value.ownBlock (.slice none 0 0))
    simp only [Nat.zero_add, Array.empty_append] at hgr hr ⊢
    exact ⟨_, _, hr, by simpa using hgr.1, by simpa using hgr.2⟩
  · by_cases hroom : n + k ≤ cap
    · have hzl : (Builtin.zeroCells z.cells k).toList = List.replicate k z := zeroCells_one z hzc k
      have hst := run_storeCells_at P g n e (List.replicate k z) 0 cur w hg (by simp; omega) (by intro u hu; rw [List.eq_of_mem_replicate hu]; exact hz1)
      simp only [Nat.add_zero, List.length_replicate] at hst
      have hr : (Builtin.append_ #[t, tn] ty #[.slice (some ⟨g, 0, none⟩) n cap, .int kq k]).run P w = .ok (.slice (some ⟨g, 0, none⟩) (n + k) cap) (w.setRow g (cur.toList.take n ++ List.replicate k z ++ cur.toList.drop (n + k)).toArray) := by
        have hneg : ¬ ((k : Int) < 0) := by omega
        have h48 : ¬ (281474976710656 < (k : Int)) := by omega
        have hk0 : k ≠ 0 := by omega
        simp [Builtin.append_, run_underlying ht, run_underlying htn, sizeOf, typeInfo, zeroValue, hi, hz, hsize, hby, asInt, asIntOf, hw, hneg, h48, hk0, hroom, hzl, Addr.add_lit, hst]
      refine ⟨_, _, hr, ⟨hlen, .inr ⟨g, cap, _, rfl, hbg, setRow_heap w g cur _ e _ hg, hroom, hcm, ?_, ?_⟩⟩, ⟨rfl, rfl, rfl, by simp, fun k _ hk => setRow_other w g k _ (fun e => hk (by simp [Value.ownBlock, e]))⟩⟩
      · simp only [List.size_toArray, List.length_append, List.length_take, List.length_drop, Array.length_toList, List.length_replicate]
        omega
      · rw [Nat.mul_one] at htake
        rw [htake, ← hlen]
        exact List.take_left
    · have holds : ∀ j u, xs[j]? = some u → w.cell? ((⟨g, 0, none⟩ : Addr).add j) = some u := hown.cells (g := g) rfl
      have hold := run_firstCells_some (P := P) w.drew i.size n ⟨g, 0, none⟩ n cap xs (by rw [hsize]; exact hown.1) holds
      have hr := Lib.run_append_grow_zeros (P := P) w t tn ty e i z kq kn ht htn hi hz (some ⟨g, 0, none⟩) n cap xs hold k h0 (by omega) (by omega) (by omega) (by rw [hby]; omega) (growslice_fits (by omega) (by rw [hby]; omega))
      have hgr := grown cap (Value.ownBlock (.slice (some ⟨g, 0, none⟩) n cap))
      exact ⟨_, _, hr, hgr.1, hgr.2⟩
theorem run_append_own_none {P : Program} {w : World} (base : Nat) (t tn ty e : TypeId) (i : TypeInfo) (z : Value) (kq kn : IntKind) (ht : P.underlying t = some (.slice e)) (htn : P.underlying tn = some (.int kn)) (hi : P.info? e = some i) (hz : i.zero = some z)
    (hsize : i.size = 1) (hby : i.bytes = 1) (v : Value) (n : Nat) (xs : List Value) (hown : w.ownsRow base e 1 v n xs) :
    (Builtin.append_ #[t, tn] ty #[v, .int kq 0]).run P w = .ok v w := by
  have hw : IntKind.i64.wrap (0 : Int) = 0 := by decide
  rcases hown.2 with ⟨rfl, rfl⟩ | ⟨g, cap, cur, rfl, hbg, hg, hnc, hcm, hcs, htake⟩
  · simp [Builtin.append_, run_underlying ht, run_underlying htn, sizeOf, typeInfo, zeroValue, hi, hz, hsize, hby, asInt, asIntOf, hw]
  · simp [Builtin.append_, run_underlying ht, run_underlying htn, sizeOf, typeInfo, zeroValue, hi, hz, hsize, hby, asInt, asIntOf, hw, hnc, storeCells]
theorem append_zerosB {N : Nat} {w : World} {ba : Option Addr} {bc : Nat} {O : List UInt8} (hb : OwB N (.slice ba O.length bc) O w) (hN : N ≤ w.heap.size) (hl : O.length ≤ 1000000000000) (k : Nat) (hk : k ≤ 1000) :
    ∃ a c w', (∀ ty, (Builtin.append_ #[36, 3] ty #[.slice ba O.length bc, .int .i64 (k : Int)]).run Try.prog w = .ok (.slice a (O.length + k) c) w') ∧ OwB N (.slice a (O.length + k) c) (O ++ List.replicate k 0) w' ∧ Below N w w' := by
  obtain ⟨i0, hi, hz0, hz1, hz2⟩ := info_parts infoB
  rcases Nat.eq_zero_or_pos k with rfl | h0
  · refine ⟨ba, bc, w, fun ty => ?_, by simpa using hb, Below.refl _ _⟩
    exact run_append_own_none N _ _ ty _ i0 _ .i64 .i64 Try.underlying36 Try.underlying3 hi hz0 hz1 hz2 _ _ _ hb
  · obtain ⟨v', w', h1, h2, h3⟩ := run_append_own_zeros N 36 3 36 5 i0 _ .i64 .i64 Try.underlying36 Try.underlying3 hi hz0 hz1 hz2 rfl rfl _ _ _ hb k h0 hk (by omega) hN
    obtain ⟨a, c, rfl⟩ := own_form h2
    refine ⟨a, c, w', fun ty => h1, ?_, Below.grownB (Below.refl _ _) hN hb h3⟩
    unfold OwB
    rw [bc_app, List.length_append, List.length_replicate, show Lib.byteCells (List.replicate k 0) = List.replicate k (.int .u8 0) by simp [Lib.byteCells]]
    exact h2
set_option maxRecDepth 8000 in
set_option maxHeartbeats 2000000 in
theorem pad_any (N : Nat) (w : World) (ba : Option Addr) (bc : Nat) (O R : List UInt8) (hb : OwB N (.slice ba O.length bc) O w) (hN : N ≤ w.heap.size) (hl : O.length ≤ 1000000000000) (hR : R = padB O) :
    Calls Try.prog 39 #[.slice ba O.length bc] w fun e w' => ∃ a c, e = .returned (.slice a R.length c) ∧ OwB N (.slice a R.length c) R w' ∧ Below N w w' := by
  obtain ⟨i0, hi, hz0, hz1, hz2⟩ := info_parts infoB
  have hu := up8_ge O.length
  have HU := hidOf (up8_any O.length (by omega) w)
  have hRl : R.length = up8 O.length := by rw [hR, padB_len]
  generalize hue : up8 O.length = u at *
  obtain ⟨k, hk⟩ : ∃ k, u = O.length + k := ⟨u - O.length, by omega⟩
  have hR2 : R = O ++ List.replicate k 0 := by rw [hR, padB, hue]; congr 2; omega
  have HR := hidOf hR2
  have HRl := hidOf hRl
  have HB := hidOf hb
  have hsub : (u : Int) - O.length = k := by omega
  obtain ⟨a4, c4, w4, hrun, hown, hbel⟩ := append_zerosB hb hN hl k (by omega)
  have HO := hidOf hown
  have Hb := hidOf hbel
  have hRk : R.length = O.length + k := by omega
  have HRk := hidOf hRk
  clear hR hR2 hRl hb hue hown hbel hRk
  go_enter Try.func39, Try.ntmps39
  subst hk
  have hrun2 : ∀ ty, (Builtin.append_ #[36, 3] ty #[.slice ba O.length bc, .int .i64 ((O.length : Int) + k - O.length)]).run Try.prog w = .ok (.slice a4 (O.length + k) c4) w4 := by rw [show (O.length : Int) + k - O.length = k by omega]; exact hrun
  clear hsub hrun
  go_wp2_with (first | (at_builtin; refine Lib.wpList_append_run _ rfl (.tmp 3) (.tmp 9) _ _ rfl (.slice ba O.length bc) (.int .i64 ((O.length : Int) + k - O.length)) rfl rfl (.slice a4 (O.length + k) c4) w4 (hrun2 _) ?_) | (go_at_call 61; refine (HU.out).mono ?_; rintro e w1 ⟨rfl, hw⟩; have hw := hw.symm; subst hw))
  go_ret
  rw [HRk.out, HR.out]
  exact ⟨a4, c4, rfl, HO.out, Hb.out⟩
end Go.Proofs.Ytmpbdakmmelmgaa
