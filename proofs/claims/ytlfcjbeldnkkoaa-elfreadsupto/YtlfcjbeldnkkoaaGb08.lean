import Derived.Test.YtlfcjbeldnkkoaaGb07
namespace Go.Proofs.Ytlfcjbeldnkkoaa
open Go.RowKit
open Go.Maps (Keyed)
set_option linter.unusedVariables false
set_option linter.unusedSimpArgs false
theorem plF_keep {N : List (List UInt8)} {x y : List UInt8} (h : x ∈ N) : plF 1 (N ++ [y]) x = plF 1 N x := by rw [plF_snoc, if_pos h]
theorem plF_new {N : List (List UInt8)} {x : List UInt8} (h : ¬ x ∈ N) : plF 1 (N ++ [x]) x = szF 1 N := by rw [plF_snoc, if_neg h, if_pos rfl]
/-- the names behind Add -/
def addN (N : List (List UInt8)) (x : List UInt8) : List (List UInt8) := if x ∈ N then N else N ++ [x]
theorem addN_mem (N : List (List UInt8)) (x : List UInt8) : x ∈ addN N x := by unfold addN; split <;> simp_all
theorem addN_sub {N : List (List UInt8)} {x y : List UInt8} (h : y ∈ N) : y ∈ addN N x := by unfold addN; split <;> simp_all
theorem addN_pl {N : List (List UInt8)} {x y : List UInt8} (h : y ∈ N) : plF 1 (addN N x) y = plF 1 N y := by
  unfold addN
  split
  · rfl
  · exact plF_keep h
theorem addN_ok {N : List (List UInt8)} {x : List UInt8} (hd : N.Nodup) (hn : ∀ y ∈ N, nameOk y = true) (hx : nameOk x = true) : (addN N x).Nodup ∧ ∀ y ∈ addN N x, nameOk y = true := by
  unfold addN
  split
  · exact ⟨hd, hn⟩
  · rename_i h
    refine ⟨by rw [List.nodup_append]; exact ⟨hd, by simp, fun a ha b hb e => h (by simp at hb; rw [hb] at e; rw [← e]; exact ha)⟩, fun y hy => ?_⟩
    rcases List.mem_append.1 hy with hy | hy
    · exact hn y hy
    · simp at hy; rw [hy]; exact hx
theorem addN_sz (N : List (List UInt8)) (x : List UInt8) : szF 1 (addN N x) ≤ szF 1 N + x.length + 1 := by
  unfold addN
  split
  · omega
  · rw [szF_snoc]; omega
/-- Add of a name -/
theorem add_any (p : Nat) (x : List UInt8) (w : World) (N : List (List UInt8)) (F : Nat → Prop) (h : Tab p w N F) (hx : nameOk x = true) (hb : szF 1 N ≤ 1000000000000) (hlt : ∀ k, F k → k < w.heap.size) : Calls Try.prog 57 #[.pointer (some ⟨p, 0, none⟩), .string ⟨x.toArray⟩] w fun e w' => e = .returned (.tuple #[.int .i64 (plF 1 (addN N x) x : Nat), .int .i64 0]) ∧ Tab p w' (addN N x) (FN F w w') ∧ Chg F w w' := by
  by_cases hm : x ∈ N
  · have e : addN N x = N := by unfold addN; rw [if_pos hm]
    rw [e]
    refine (add_old p x w N F h hx hm).mono ?_
    rintro e w' ⟨rfl, rfl⟩
    exact ⟨rfl, h.mono (fun k hk => .inl hk), Chg.refl _ _⟩
  · have e : addN N x = N ++ [x] := by unfold addN; rw [if_neg hm]
    rw [e, plF_new hm]
    exact add_new p x w N F h hx hm hb
theorem FN_lt {F : Nat → Prop} {w w' : World} (hlt : ∀ k, F k → k < w.heap.size) (hs : w.heap.size ≤ w'.heap.size) : ∀ k, FN F w w' k → k < w'.heap.size := fun k hk => by
  rcases hk with h | h
  · have := hlt k h; omega
  · exact h.2
theorem snoc_ind {α : Type} {P : List α → Prop} (h0 : P []) (hs : ∀ l x, P l → P (l ++ [x])) : ∀ l, P l := by
  have key : ∀ n (l : List α), l.length = n → P l := by
    intro n
    induction n with
    | zero => intro l hl; rw [List.length_eq_zero_iff.1 hl]; exact h0
    | succ n ih =>
      intro l hl
      rcases list_cases l with rfl | ⟨M, x, rfl⟩
      · simp at hl
      · exact hs M x (ih M (by simpa using hl))
  exact fun l => key _ l rfl
def namesF (K : List (List UInt8)) : List (List UInt8) := K.foldl addN []
theorem namesF_snoc (K : List (List UInt8)) (x : List UInt8) : namesF (K ++ [x]) = addN (namesF K) x := by simp [namesF]
theorem namesF_ok (K : List (List UInt8)) (h : ∀ x ∈ K, nameOk x = true) : (namesF K).Nodup ∧ (∀ x ∈ namesF K, nameOk x = true) ∧ (∀ x ∈ K, x ∈ namesF K) ∧ szF 1 (namesF K) ≤ 1 + 65 * K.length := by
  revert h
  refine snoc_ind (P := fun K => (∀ x ∈ K, nameOk x = true) → (namesF K).Nodup ∧ (∀ x ∈ namesF K, nameOk x = true) ∧ (∀ x ∈ K, x ∈ namesF K) ∧ szF 1 (namesF K) ≤ 1 + 65 * K.length) ?_ ?_ K
  · exact fun _ => ⟨by simp [namesF], by simp [namesF], by simp, by simp [namesF, szF]⟩
  · intro K x ih h
    obtain ⟨a, b, c, d⟩ := ih (fun y hy => h y (by simp [hy]))
    have hx := h x (by simp)
    rw [namesF_snoc]
    obtain ⟨a1, a2⟩ := addN_ok a b hx
    refine ⟨a1, a2, ?_, ?_⟩
    · intro y hy
      rcases List.mem_append.1 hy with hy | hy
      · exact addN_sub (c y hy)
      · simp at hy; rw [hy]; exact addN_mem _ _
    · have h1 := addN_sz (namesF K) x
      have h2 : x.length ≤ 64 := by simp [nameOk] at hx; exact hx.1.2
      simp only [List.length_append, List.length_singleton]
      omega
theorem namesF_pl (K M : List (List UInt8)) {x : List UInt8} (h : x ∈ namesF K) : plF 1 (namesF (K ++ M)) x = plF 1 (namesF K) x := by
  refine snoc_ind (P := fun M => plF 1 (namesF (K ++ M)) x = plF 1 (namesF K) x) ?_ ?_ M
  · simp
  · intro M y ih
    rw [← List.append_assoc, namesF_snoc]
    have : ∀ M : List (List UInt8), x ∈ namesF (K ++ M) := by
      intro M
      refine snoc_ind (P := fun M => x ∈ namesF (K ++ M)) ?_ ?_ M
      · simpa using h
      · intro M y ih
        rw [← List.append_assoc, namesF_snoc]; exact addN_sub ih
    rw [addN_pl (this M), ih]
/-- a row of ints that is a block -/
def RowI (w : World) (g : Nat) (zs : List Int) : Prop := w.heap[g]? = some (.cells (zs.map (Value.int .i64)).toArray 3 (0, 0))
theorem RowI.lt {w : World} {g : Nat} {zs : List Int} (h : RowI w g zs) : g < w.heap.size := (Array.getElem?_eq_some_iff.1 h).1
theorem RowI.set {w : World} {g : Nat} {zs : List Int} (h : RowI w g zs) (k : Nat) (z : Int) : RowI (w.setCell ⟨g, k, none⟩ (.int .i64 z)) g (zs.set k z) := by
  unfold RowI
  rw [show (w.setCell ⟨g, k, none⟩ (.int .i64 z)).heap[g]? = some (.cells ((zs.map (Value.int .i64)).toArray.setIfInBounds k (.int .i64 z)) 3 (0, 0)) by simp [World.setCell, Array.getElem?_modify, show w.heap[g]? = _ from h]]
  simp [List.map_set]
theorem RowI.own {w : World} {g B : Nat} {zs : List Int} (h : RowI w g zs) (hB : B ≤ g) (hl : zs.length ≤ 1000000000000) : OwI B (.slice (some ⟨g, 0, none⟩) zs.length zs.length) zs w := by
  have := own_mk (sz := 1) (n := zs.length) h hB (by simp) hl
  simpa [OwI] using this
theorem set_pl (A : List Int) (m : Nat) (z : Int) (h : 0 < m) : (A ++ List.replicate m 0).set A.length z = A ++ [z] ++ List.replicate (m - 1) 0 := by
  obtain ⟨m, rfl⟩ : ∃ k, m = k + 1 := ⟨m - 1, by omega⟩
  simp [List.set_append, List.replicate_succ]
/-- the state of addNames -/
structure AN (w0 wr : World) (p g n : Nat) (K : List (List UInt8)) (F : Nat → Prop) : Prop where
  tab : Tab p wr (namesF K) F
  lt : ∀ k, F k → k < wr.heap.size
  ge : ∀ k, F k → w0.heap.size ≤ k
  row : RowI wr g (K.map (fun x => (plF 1 (namesF K) x : Int)) ++ List.replicate (n - K.length) 0)
  gge : w0.heap.size ≤ g
  gF : ¬ F g
  ok : ∀ x ∈ K, nameOk x = true
  out : Out w0 wr
theorem AN.on {w0 wr w' : World} {p g n : Nat} {K : List (List UInt8)} {F : Nat → Prop} (h : AN w0 wr p g n K F) (o : Out wr w') : AN w0 w' p g n K F :=
  ⟨h.tab.out o, fun k hk => Nat.lt_of_lt_of_le (h.lt k hk) o.size, h.ge, (o.block g h.row.lt).trans h.row, h.gge, h.gF, h.ok, h.out.trans o⟩
theorem AN.add {w0 wr w' : World} {p g n : Nat} {K : List (List UInt8)} {F : Nat → Prop} {x : List UInt8} (h : AN w0 wr p g n K F) (hx : nameOk x = true) (hn : K.length < n) (ht : Tab p w' (addN (namesF K) x) (FN F wr w')) (hc : Chg F wr w') :
    AN w0 (w'.setCell ⟨g, K.length, none⟩ (.int .i64 (plF 1 (addN (namesF K) x) x : Nat))) p g n (K ++ [x]) (FN F wr w') := by
  have hg : w'.heap[g]? = wr.heap[g]? := hc.block g h.row.lt h.gF
  have hr : RowI w' g (K.map (fun x => (plF 1 (namesF K) x : Int)) ++ List.replicate (n - K.length) 0) := hg.trans h.row
  have hgn : ¬ FN F wr w' g := by
    rintro (hf | hf)
    · exact h.gF hf
    · have := h.row.lt; omega
  have c2 : Chg (fun k => k = g) w' (w'.setCell ⟨g, K.length, none⟩ (.int .i64 (plF 1 (addN (namesF K) x) x : Nat))) := Chg.setCell (S := fun k => k = g) (Chg.refl _ w') (p := ⟨g, K.length, none⟩) rfl _
  have hsz : (w'.setCell ⟨g, K.length, none⟩ (.int .i64 (plF 1 (addN (namesF K) x) x : Nat))).heap.size = w'.heap.size := by simp [World.setCell]
  have hok : ∀ y ∈ K ++ [x], nameOk y = true := by
    intro y hy
    rcases List.mem_append.1 hy with hy | hy
    · exact h.ok y hy
    · simp at hy; rw [hy]; exact hx
  refine ⟨?_, ?_, ?_, ?_, h.gge, hgn, hok, ?_⟩
  · rw [namesF_snoc]
    exact ht.chg c2 (fun k hk e => hgn (by rw [← e]; exact hk))
  · intro k hk
    rw [hsz]
    exact FN_lt h.lt hc.size k hk
  · rintro k (hf | hf)
    · exact h.ge k hf
    · exact Nat.le_trans h.out.size hf.1
  · have h2 := hr.set K.length (plF 1 (addN (namesF K) x) x : Nat)
    have e : (K.map (fun x => (plF 1 (namesF K) x : Int)) ++ List.replicate (n - K.length) 0).set K.length (plF 1 (addN (namesF K) x) x : Nat) = (K ++ [x]).map (fun y => (plF 1 (namesF (K ++ [x])) y : Int)) ++ List.replicate (n - (K ++ [x]).length) 0 := by
      have e1 := set_pl (K.map (fun x => (plF 1 (namesF K) x : Int))) (n - K.length) (plF 1 (addN (namesF K) x) x : Nat) (by omega)
      rw [List.length_map] at e1
      rw [e1, List.map_append, namesF_snoc]
      congr 1
      · congr 1
        exact List.map_congr_left (fun y hy => by rw [addN_pl ((namesF_ok K h.ok).2.2.1 y hy)])
      · congr 1
        simp; omega
    rw [e] at h2
    exact h2
  · exact Chg.out ((hc.mono (T := fun k => F k ∨ k = g) (fun k hk _ => .inl hk)).trans c2 (fun k hk _ => .inr hk)) h.out (fun k hk => by
      rcases hk with hk | hk
      · exact h.ge k hk
      · rw [hk]; exact h.gge)
theorem run_make_in (n : Nat) (hn : n ≤ 1000000000) (w : World) : (Instr.makeSlice 30 (.int .i64 (n : Int)) (.int .i64 (n : Int))).run Try.prog w = .ok (.slice (some ⟨w.heap.size, 0, none⟩) n n) (w.alloc (.cells ((List.replicate n (0 : Int)).map (Value.int .i64)).toArray 3)) := by
  obtain ⟨i0, hi, hz0, hz1, hz2⟩ := info_parts infoInt
  have h := run_make (P := Try.prog) w 30 3 i0 _ Try.underlying30 hi hz0 .i64 .i64 (n : Int) (n : Int) (by omega) (Int.le_refl _) (by rw [hz2]; omega) (by omega)
  rw [hz1, Nat.mul_one] at h
  have e : madeCells (Value.cells (.int .i64 0)) n = ((List.replicate n (0 : Int)).map (Value.int .i64)).toArray := by
    apply Array.ext_getElem?
    intro j
    simp [madeCells, Value.cells, List.getElem?_replicate]
    by_cases hj : j < n
    · simp [hj, Nat.mod_one]
    · simp [hj]
  simp only [Int.toNat_natCast] at h
  rw [e] at h
  exact h
end Go.Proofs.Ytlfcjbeldnkkoaa
namespace Go.Proofs.Ytlfcjbeldnkkoaa
open Go.RowKit
open Go.Maps (Keyed)
set_option linter.unusedVariables false
set_option linter.unusedSimpArgs false
/-- a section's box -/
def boxS (x : SV) : Obj := .cells #[.string ⟨x.s.nm.toArray⟩, .int .i64 x.s.ty, .int .i64 x.s.fl, .int .i64 x.s.li, .int .i64 x.s.inf, .int .i64 x.s.al, .int .i64 x.s.es, .slice x.da x.s.d.length x.dc] 46
theorem boxS_cells {w wx : World} {q : Nat} {x : SV} (h : wx.heap[q]? = some (.cells #[.string ⟨x.s.nm.toArray⟩, .int .i64 x.s.ty, .int .i64 x.s.fl, .int .i64 x.s.li, .int .i64 x.s.inf, .int .i64 x.s.al, .int .i64 x.s.es, .slice x.da x.s.d.length x.dc] 46 (0, 0))) : Cells8 wx q 0 x := by
  refine ⟨?_, ?_, ?_, ?_, ?_, ?_, ?_, ?_⟩ <;> (simp [World.cell?, h])
def nmsOf (L : List SV) : List (List UInt8) := L.map fun x => x.s.nm
def plsOf (L : List SV) : List Int := (nmsOf L).map fun x => (plF 1 (namesF (nmsOf L)) x : Int)
set_option maxRecDepth 8000 in
set_option maxHeartbeats 4000000 in
theorem addNames_any (B : Nat) (a : Option Addr) (c : Nat) (L : List SV) (w : World) (h : ScAt B w a L) (hB : B ≤ w.heap.size) (hc : L.length ≤ c) (hl : L.length ≤ 1000) :
    Calls Try.prog 27 #[.slice a L.length c] w fun e w' => Out w w' ∧ (((∀ x ∈ nmsOf L, nameOk x = true) ∧ ∃ na nc g, e = .returned (.tuple #[.slice na (byP (namesF (nmsOf L))).length nc, .slice (some ⟨g, 0, none⟩) L.length L.length, .int .i64 0]) ∧ OwB w.heap.size (.slice na (byP (namesF (nmsOf L))).length nc) (byP (namesF (nmsOf L))) w' ∧ RowI w' g (plsOf L) ∧ w.heap.size ≤ g) ∨ (¬ (∀ x ∈ nmsOf L, nameOk x = true) ∧ e = .returned (.tuple #[.slice none 0 0, .slice none 0 0, .int .i64 81]))) := by
  have H := hidOf h
  have hcI : (L.length : Int) ≤ c := by omega
  have hlI : (L.length : Int) ≤ 1000 := by omega
  have hmk := run_make_in L.length (by omega)
  obtain ⟨p, hp⟩ : ∃ p, p = w.heap.size := ⟨_, rfl⟩
  obtain ⟨g, hg⟩ : ∃ g, g = (w.alloc newO).heap.size := ⟨_, rfl⟩
  have hgp : g = p + 1 := by rw [hg, size_alloc, hp]
  have HN : Hid (Calls Try.prog 56 #[] w fun e w' => e = .returned (.pointer (some ⟨p, 0, none⟩)) ∧ w' = w.alloc newO) := by rw [hp]; exact new_any w
  have HS : Hid (AN w ((w.alloc newO).alloc (.cells ((List.replicate L.length (0 : Int)).map (Value.int .i64)).toArray 3)) p g L.length [] (fun k => k = p)) := by
    have o1 : Out (w.alloc newO) ((w.alloc newO).alloc (.cells ((List.replicate L.length (0 : Int)).map (Value.int .i64)).toArray 3)) := (Out.refl _).alloc _
    refine ⟨?_, ?_, ?_, ?_, by omega, by omega, by simp, ((Out.refl w).alloc _).alloc _⟩
    · have := (new_tab w).out o1
      rw [← hp] at this
      exact this
    · intro k hk
      rw [size_alloc, size_alloc]; omega
    · intro k hk; omega
    · have := heap_alloc_new (w.alloc newO) (.cells ((List.replicate L.length (0 : Int)).map (Value.int .i64)).toArray 3)
      rw [← hg] at this
      simpa [RowI] using this
  have Hp := hidOf hp
  have Hg := hidOf hg
  clear h hp hgp
  go_enter Try.func27, Try.ntmps27
  go_upto_region 2 with (go_at_call 56; refine (HN.out).mono ?_; rintro e w1 ⟨rfl, rfl⟩)
  have hm := hmk (w.alloc newO)
  rw [← hg] at hm
  clear hmk hg HN
  generalize w.alloc newO = W1 at *
  generalize W1.alloc (.cells ((List.replicate L.length (0 : Int)).map (Value.int .i64)).toArray 3) = W2 at *
  go_wp2
  clear hm
  go_loopw [19] (fun iv wr => ∃ (i : Nat) (F : Nat → Prop), iv = .int .i64 i ∧ i ≤ L.length ∧ Hid (AN w wr p g L.length (nmsOf (L.take i)) F)) (fun iv _ => L.length - (intOf iv).toNat)
  case atStart => exact ⟨0, _, rfl, by omega, HS.out⟩
  case round =>
    obtain ⟨i, F, rfl, hi, HA⟩ := hrel
    by_cases hiL : i < L.length
    · have hlt : (i : Int) < L.length := by omega
      have h0 : (0 : Int) ≤ i := by omega
      obtain ⟨x, hx⟩ : ∃ x, L[i]? = some x := ⟨_, List.getElem?_eq_getElem hiL⟩
      obtain ⟨b, off, rfl, hb, hc8⟩ := (H.out.below (Below.mono HA.out.out hB)).get hx
      obtain ⟨d0, d1, d2, d3, d4, d5, d6, d7⟩ := hc8
      have Hst : Hid (nmsOf (L.take (i + 1)) = nmsOf (L.take i) ++ [x.s.nm]) := hidOf (by rw [take_snoc hx]; simp [nmsOf])
      have Hln : Hid ((nmsOf (L.take i)).length = i) := hidOf (by simp [nmsOf]; omega)
      have Hm : Hid (x.s.nm ∈ nmsOf L) := hidOf (List.mem_map_of_mem (List.mem_of_getElem? hx))
      obtain ⟨q, hq⟩ : ∃ q, q = wr.heap.size := ⟨_, rfl⟩
      have Hbx : Hid (Cells8 (wr.alloc (boxS x)) q 0 x) := hidOf (boxS_cells (w := w) (by rw [hq]; exact heap_alloc_new wr _))
      have HA1 := hidOf (HA.out.on ((Out.refl wr).alloc (boxS x)))
      clear hx
      go_upto_region 6 with fail
      rw [← hq]
      have e1 : wr.alloc (.cells #[.string ⟨x.s.nm.toArray⟩, .int .i64 x.s.ty, .int .i64 x.s.fl, .int .i64 x.s.li, .int .i64 x.s.inf, .int .i64 x.s.al, .int .i64 x.s.es, .slice x.da x.s.d.length x.dc] 46) = wr.alloc (boxS x) := rfl
      rw [e1]
      clear e1 hq
      generalize wr.alloc (boxS x) = wb at *
      have c0 : wb.cell? ⟨q, 0, none⟩ = some (.string ⟨x.s.nm.toArray⟩) := Hbx.out.c0
      clear d0 d1 d2 d3 d4 d5 d6 d7
      cases hok : nameOk x.s.nm
      · have CA := hidOf (add_bad p x.s.nm wb hok)
        go_wp2_with (go_at_call 57; refine (CA.out).mono ?_; rintro e w1 ⟨rfl, hw⟩; subst hw)
        go_ret3
        refine ⟨HA1.out.out, .inr ⟨fun hall => ?_, rfl⟩⟩
        have := hall _ Hm.out
        rw [hok] at this
        cases this
      · have hsz := (namesF_ok _ HA1.out.ok).2.2.2
        rw [Hln.out] at hsz
        have CA := hidOf (add_any p x.s.nm wb _ F HA1.out.tab hok (by omega) HA1.out.lt)
        clear hsz
        obtain ⟨pl, hpl⟩ : ∃ pl, pl = plF 1 (addN (namesF (nmsOf (L.take i))) x.s.nm) x.s.nm := ⟨_, rfl⟩
        rw [← hpl] at CA
        have Hpl := hidOf hpl
        clear hpl
        go_upto_region 9 with (go_at_call 57; refine (CA.out).mono ?_; rintro e w1 ⟨rfl, hT, hC⟩; have HT := hidOf hT; have HC := hidOf hC; clear hT hC)
        have HA2 := HA1.out.add hok (by rw [Hln.out]; exact hiL) HT.out HC.out
        rw [Hln.out, ← Hst.out, ← Hpl.out] at HA2
        have HA3 := hidOf HA2
        have hr : RowI w1 g _ := (HC.out.block g HA1.out.row.lt HA1.out.gF).trans HA1.out.row
        have hf : w1.frozen? ⟨g, i, none⟩ = false := by simp [World.frozen?, show w1.heap[g]? = _ from hr]
        have hcl : ∃ u, w1.cell? ⟨g, i, none⟩ = some u := by
          have hlen : i < ((nmsOf (L.take i)).map (fun x => (plF 1 (namesF (nmsOf (L.take i))) x : Int)) ++ List.replicate (L.length - (nmsOf (L.take i)).length) 0).length := by
            rw [List.length_append, List.length_map, List.length_replicate, Hln.out]; omega
          simp only [World.cell?, show w1.heap[g]? = _ from hr]
          exact ⟨_, by simp; exact List.getElem?_eq_getElem (by simpa using hlen)⟩
        obtain ⟨u, hcu⟩ := hcl
        clear HA2 hr
        go_wp2
        exact ⟨⟨i + 1, _, by simp, by omega, HA3.out⟩, by simp [intOf]; omega⟩
    · have hlt : ¬ (i : Int) < L.length := by omega
      obtain rfl : i = L.length := by omega
      rw [List.take_length] at HA
      have hok := namesF_ok _ HA.out.ok
      have hnl : (nmsOf L).length = L.length := by simp [nmsOf]
      have CB := hidOf (bytes_any p wr _ F HA.out.tab (by omega))
      have Hrow : Hid (RowI wr g (plsOf L)) := by
        have := HA.out.row
        rw [hnl, Nat.sub_self] at this
        show RowI wr g _
        simpa [plsOf] using this
      clear hok hnl
      go_wp2_with (go_at_call 58; refine (CB.out).mono ?_; rintro e w1 ⟨na, nc, rfl, hOB, hO1⟩; have HOB := hidOf hOB; have HO1 := hidOf hO1; clear hOB hO1)
      go_ret3
      refine ⟨HA.out.out.trans HO1.out, .inl ⟨HA.out.ok, na, nc, g, rfl, own_base HOB.out HA.out.out.size, (HO1.out.block g Hrow.out.lt).trans Hrow.out, HA.out.gge⟩⟩
end Go.Proofs.Ytlfcjbeldnkkoaa
