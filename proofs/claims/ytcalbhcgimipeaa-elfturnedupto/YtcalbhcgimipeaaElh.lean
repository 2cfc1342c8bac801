import Derived.Test.YtcalbhcgimipeaaElg
namespace Go.Proofs.Ytcalbhcgimipeaa
open Go.RowKit
open Go.Maps (Keyed)
set_option linter.unusedVariables false
set_option linter.unusedSimpArgs false
theorem plF_keep {N : List (List UInt8)} {x y : List UInt8} (h : x ∈ N) : plF 1 (N ++ [y]) x = plF 1 N x := by rw [plF_snoc, if_pos h]
theorem plF_new {N : List (List UInt8)} {x : List UInt8} (h : ¬ x ∈ N) : plF 1 (N ++ [x]) x = szF 1 N := by rw [plF_snoc, if_neg h, if_pos rfl]
/-- the names behind Add -/
def addN (N : List (List UInt8)) (x : List UInt8) : List (List UInt8) := if x ∈ N then N else N ++ [x]
theorem addN_mem (N : List (List UInt8)) (x : List UInt8) : x ∈ addN N x := by unfold addN; split <;> simp_all
theorem addN_sub {N : List (List UInt8)} {x y : List UInt8} (h : y ∈ N) : y ∈ addN N x := by unfold addN; split <;> simp_all
theorem addN_pl {N : List (List UInt8)} {x y : List UInt8} (h : y ∈ N) : plF 1 (addN N x) y = plF 1 N y := by
  unfold addN
  split
  · rfl
  · exact plF_keep h
theorem addN_ok {N : List (List UInt8)} {x : List UInt8} (hd : N.Nodup) (hn : ∀ y ∈ N, nameOk y = true) (hx : nameOk x = true) : (addN N x).Nodup ∧ ∀ y ∈ addN N x, nameOk y = true := by
  unfold addN
  split
  · exact ⟨hd, hn⟩
  · rename_i h
    refine ⟨by rw [List.nodup_append]; exact ⟨hd, by simp, fun a ha b hb e => h (by simp at hb; rw [hb] at e; rw [← e]; exact ha)⟩, fun y hy => ?_⟩
    rcases List.mem_append.1 hy with hy | hy
    · exact hn y hy
    · simp at hy; rw [hy]; exact hx
theorem addN_sz (N : List (List UInt8)) (x : List UInt8) : szF 1 (addN N x) ≤ szF 1 N + x.length + 1 := by
  unfold addN
  split
  · omega
  · rw [szF_snoc]; omega
/-- Add of a name -/
theorem add_any (p : Nat) (x : List UInt8) (w : World) (N : List (List UInt8)) (F : Nat → Prop) (h : Tab p w N F) (hx : nameOk x = true) (hb : szF 1 N ≤ 1000000000000) (hlt : ∀ k, F k → k < w.heap.size) : Calls Try.prog 67 #[.pointer (some ⟨p, 0, none⟩), .string ⟨x.toArray⟩] w fun e w' => e = .returned (.tuple #[.int .i64 (plF 1 (addN N x) x : Nat), .int .i64 0]) ∧ Tab p w' (addN N x) (FN F w w') ∧ Chg F w w' := by
  by_cases hm : x ∈ N
  · have e : addN N x = N := by unfold addN; rw [if_pos hm]
    rw [e]
    refine (add_old p x w N F h hx hm).mono ?_
    rintro e w' ⟨rfl, rfl⟩
    exact ⟨rfl, h.mono (fun k hk => .inl hk), Chg.refl _ _⟩
  · have e : addN N x = N ++ [x] := by unfold addN; rw [if_neg hm]
    rw [e, plF_new hm]
    exact add_new p x w N F h hx hm hb
theorem FN_lt {F : Nat → Prop} {w w' : World} (hlt : ∀ k, F k → k < w.heap.size) (hs : w.heap.size ≤ w'.heap.size) : ∀ k, FN F w w' k → k < w'.heap.size := fun k hk => by
  rcases hk with h | h
  · have := hlt k h; omega
  · exact h.2
theorem snoc_ind {α : Type} {P : List α → Prop} (h0 : P []) (hs : ∀ l x, P l → P (l ++ [x])) : ∀ l, P l := by
  have key : ∀ n (l : List α), l.length = n → P l := by
    intro n
    induction n with
    | zero => intro l hl; rw [List.length_eq_zero_iff.1 hl]; exact h0
    | succ n ih =>
      intro l hl
      rcases list_cases l with rfl | ⟨M, x, rfl⟩
      · simp at hl
      · exact hs M x (ih M (by simpa using hl))
  exact fun l => key _ l rfl
def namesF (K : List (List UInt8)) : List (List UInt8) := K.foldl addN []
theorem namesF_snoc (K : List (List UInt8)) (x : List UInt8) : namesF (K ++ [x]) = addN (namesF K) x := by simp [namesF]
theorem namesF_ok (K : List (List UInt8)) (h : ∀ x ∈ K, nameOk x = true) : (namesF K).Nodup ∧ (∀ x ∈ namesF K, nameOk x = true) ∧ (∀ x ∈ K, x ∈ namesF K) ∧ szF 1 (namesF K) ≤ 1 + 65 * K.length := by
  revert h
  refine snoc_ind (P := fun K => (∀ x ∈ K, nameOk x = true) → (namesF K).Nodup ∧ (∀ x ∈ namesF K, nameOk x = true) ∧ (∀ x ∈ K, x ∈ namesF K) ∧ szF 1 (namesF K) ≤ 1 + 65 * K.length) ?_ ?_ K
  · exact fun _ => ⟨by simp [namesF], by simp [namesF], by simp, by simp [namesF, szF]⟩
  · intro K x ih h
    obtain ⟨a, b, c, d⟩ := ih (fun y hy => h y (by simp [hy]))
    have hx := h x (by simp)
    rw [namesF_snoc]
    obtain ⟨a1, a2⟩ := addN_ok a b hx
    refine ⟨a1, a2, ?_, ?_⟩
    · intro y hy
      rcases List.mem_append.1 hy with hy | hy
      · exact addN_sub (c y hy)
      · simp at hy; rw [hy]; exact addN_mem _ _
    · have h1 := addN_sz (namesF K) x
      have h2 : x.length ≤ 64 := by simp [nameOk] at hx; exact hx.1.2
      simp only [List.length_append, List.length_singleton]
      omega
theorem namesF_pl (K M : List (List UInt8)) {x : List UInt8} (h : x ∈ namesF K) : plF 1 (namesF (K ++ M)) x = plF 1 (namesF K) x := by
  refine snoc_ind (P := fun M => plF 1 (namesF (K ++ M)) x = plF 1 (namesF K) x) ?_ ?_ M
  · simp
  · intro M y ih
    rw [← List.append_assoc, namesF_snoc]
    have : ∀ M : List (List UInt8), x ∈ namesF (K ++ M) := by
      intro M
      refine snoc_ind (P := fun M => x ∈ namesF (K ++ M)) ?_ ?_ M
      · simpa using h
      · intro M y ih
        rw [← List.append_assoc, namesF_snoc]; exact addN_sub ih
    rw [addN_pl (this M), ih]
/-- a row of ints that is a block -/
def RowI (w : World) (g : Nat) (zs : List Int) : Prop := w.heap[g]? = some (.cells (zs.map (Value.int .i64)).toArray 3 (0, 0))
theorem RowI.lt {w : World} {g : Nat} {zs : List Int} (h : RowI w g zs) : g < w.heap.size := (Array.getElem?_eq_some_iff.1 h).1
theorem RowI.set {w : World} {g : Nat} {zs : List Int} (h : RowI w g zs) (k : Nat) (z : Int) : RowI (w.setCell ⟨g, k, none⟩ (.int .i64 z)) g (zs.set k z) := by
  unfold RowI
  rw [show (w.setCell ⟨g, k, none⟩ (.int .i64 z)).heap[g]? = some (.cells ((zs.map (Value.int .i64)).toArray.setIfInBounds k (.int .i64 z)) 3 (0, 0)) by simp [World.setCell, Array.getElem?_modify, show w.heap[g]? = _ from h]]
  simp [List.map_set]
theorem RowI.own {w : World} {g B : Nat} {zs : List Int} (h : RowI w g zs) (hB : B ≤ g) (hl : zs.length ≤ 1000000000000) : OwI B (.slice (some ⟨g, 0, none⟩) zs.length zs.length) zs w := by
  have := own_mk (sz := 1) (n := zs.length) h hB (by simp) hl
  simpa [OwI] using this
theorem set_pl (A : List Int) (m : Nat) (z : Int) (h : 0 < m) : (A ++ List.replicate m 0).set A.length z = A ++ [z] ++ List.replicate (m - 1) 0 := by
  obtain ⟨m, rfl⟩ : ∃ k, m = k + 1 := ⟨m - 1, by omega⟩
  simp [List.set_append, List.replicate_succ]
/-- the state of addNames -/
structure AN (w0 wr : World) (p g n : Nat) (K : List (List UInt8)) (F : Nat → Prop) : Prop where
  tab : Tab p wr (namesF K) F
  lt : ∀ k, F k → k < wr.heap.size
  ge : ∀ k, F k → w0.heap.size ≤ k
  row : RowI wr g (K.map (fun x => (plF 1 (namesF K) x : Int)) ++ List.replicate (n - K.length) 0)
  gge : w0.heap.size ≤ g
  gF : ¬ F g
  ok : ∀ x ∈ K, nameOk x = true
  out : Out w0 wr
theorem AN.on {w0 wr w' : World} {p g n : Nat} {K : List (List UInt8)} {F : Nat → Prop} (h : AN w0 wr p g n K F) (o : Out wr w') : AN w0 w' p g n K F :=
  ⟨h.tab.out o, fun k hk => Nat.lt_of_lt_of_le (h.lt k hk) o.size, h.ge, (o.block g h.row.lt).trans h.row, h.gge, h.gF, h.ok, h.out.trans o⟩
theorem AN.add {w0 wr w' : World} {p g n : Nat} {K : List (List UInt8)} {F : Nat → Prop} {x : List UInt8} (h : AN w0 wr p g n K F) (hx : nameOk x = true) (hn : K.length < n) (ht : Tab p w' (addN (namesF K) x) (FN F wr w')) (hc : Chg F wr w') :
    AN w0 (w'.setCell ⟨g, K.length, none⟩ (.int .i64 (plF 1 (addN (namesF K) x) x : Nat))) p g n (K ++ [x]) (FN F wr w') := by
  have hg : w'.heap[g]? = wr.heap[g]? := hc.block g h.row.lt h.gF
  have hr : RowI w' g (K.map (fun x => (plF 1 (namesF K) x : Int)) ++ List.replicate (n - K.length) 0) := hg.trans h.row
  have hgn : ¬ FN F wr w' g := by
    rintro (hf | hf)
    · exact h.gF hf
    · have := h.row.lt; omega
  have c2 : Chg (fun k => k = g) w' (w'.setCell ⟨g, K.length, none⟩ (.int .i64 (plF 1 (addN (namesF K) x) x : Nat))) := Chg.setCell (S := fun k => k = g) (Chg.refl _ w') (p := ⟨g, K.length, none⟩) rfl _
  have hsz : (w'.setCell ⟨g, K.length, none⟩ (.int .i64 (plF 1 (addN (namesF K) x) x : Nat))).heap.size = w'.heap.size := by simp [World.setCell]
  have hok : ∀ y ∈ K ++ [x], nameOk y = true := by
    intro y hy
    rcases List.mem_append.1 hy with hy | hy
    · exact h.ok y hy
    · simp at hy; rw [hy]; exact hx
  refine ⟨?_, ?_, ?_, ?_, h.gge, hgn, hok, ?_⟩
  · rw [namesF_snoc]
    exact ht.chg c2 (fun k hk e => hgn (by rw [← e]; exact hk))
  · intro k hk
    rw [hsz]
    exact FN_lt h.lt hc.size k hk
  · rintro k (hf | hf)
    · exact h.ge k hf
    · exact Nat.le_trans h.out.size hf.1
  · have h2 := hr.set K.length (plF 1 (addN (namesF K) x) x : Nat)
    have e : (K.map (fun x => (plF 1 (namesF K) x : Int)) ++ List.replicate (n - K.length) 0).set K.length (plF 1 (addN (namesF K) x) x : Nat) = (K ++ [x]).map (fun y => (plF 1 (namesF (K ++ [x])) y : Int)) ++ List.replicate (n - (K ++ [x]).length) 0 := by
      have e1 := set_pl (K.map (fun x => (plF 1 (namesF K) x : Int))) (n - K.length) (plF 1 (addN (namesF K) x) x : Nat) (by omega)
      rw [List.length_map] at e1
      rw [e1, List.map_append, namesF_snoc]
      congr 1
      · congr 1
        exact List.map_congr_left (fun y hy => by rw [addN_pl ((namesF_ok K h.ok).2.2.1 y hy)])
      · congr 1
        simp; omega
    rw [e] at h2
    exact h2
  · exact Chg.out ((hc.mono (T := fun k => F k ∨ k = g) (fun k hk _ => .inl hk)).trans c2 (fun k hk _ => .inr hk)) h.out (fun k hk => by
      rcases hk with hk | hk
      · exact h.ge k hk
      · rw [hk]; exact h.gge)
theorem run_make_in (n : Nat) (hn : n ≤ 1000000000) (w : World) : (Instr.makeSlice 29 (.int .i64 (n : Int)) (.int .i64 (n : Int))).run Try.prog w = .ok (.slice (some ⟨w.heap.size, 0, none⟩) n n) (w.alloc (.cells ((List.replicate n (0 : Int)).map (Value.int .i64)).toArray 3)) := by
  obtain ⟨i0, hi, hz0, hz1, hz2⟩ := info_parts infoInt
  have h := run_make (P := Try.prog) w 29 3 i0 _ Try.underlying29 hi hz0 .i64 .i64 (n : Int) (n : Int) (by omega) (Int.le_refl _) (by rw [hz2]; omega) (by omega)
  rw [hz1, Nat.mul_one] at h
  have e : madeCells (Value.cells (.int .i64 0)) n = ((List.replicate n (0 : Int)).map (Value.int .i64)).toArray := by
    apply Array.ext_getElem?
    intro j
    simp [madeCells, Value.cells, List.getElem?_replicate]
    by_cases hj : j < n
    · simp [hj, Nat.mod_one]
    · simp [hj]
  simp only [Int.toNat_natCast] at h
  rw [e] at h
  exact h
end Go.Proofs.Ytcalbhcgimipeaa
