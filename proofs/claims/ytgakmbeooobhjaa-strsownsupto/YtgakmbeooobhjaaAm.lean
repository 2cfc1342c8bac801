import Derived.Test.YtgakmbeooobhjaaAl
namespace Go.Proofs.Ytgakmbeooobhjaa
open Go.RowKit
open Go.Maps (Keyed)
set_option linter.unusedVariables false
set_option linter.unusedSimpArgs false
def OwI (B : Nat) (v : Value) (zs : List Int) (w : World) : Prop := w.ownsRow B 3 1 v zs.length (zs.map (Value.int .i64))
/-- the first loop's state -/
structure B1 (w0 : World) (p : Nat) (wr : World) (N K : List (List UInt8)) (pv tv : Value) (F : Nat → Prop) : Prop where
  tab : Tab p wr N F
  lt : ∀ k, F k → k < wr.heap.size
  pl : OwI w0.heap.size pv (K.map fun x => (plF 1 N x : Int)) wr
  tk : OwS w0.heap.size tv K wr
  pn : ∀ k, pv.ownBlock = some k → ¬ F k
  tn : ∀ k, tv.ownBlock = some k → ¬ F k
  ok : N.Nodup ∧ (∀ x ∈ N, nameOk x = true) ∧ (∀ x ∈ K, x ∈ N)
  ge : ∀ k, F k → w0.heap.size ≤ k
  out : Out w0 wr
theorem plF_keep {N : List (List UInt8)} {x y : List UInt8} (h : x ∈ N) : plF 1 (N ++ [y]) x = plF 1 N x := by rw [plF_snoc, if_pos h]
theorem plF_new {N : List (List UInt8)} {x : List UInt8} (h : ¬ x ∈ N) : plF 1 (N ++ [x]) x = szF 1 N := by rw [plF_snoc, if_neg h, if_pos rfl]
/-- the names behind Add -/
def addN (N : List (List UInt8)) (x : List UInt8) : List (List UInt8) := if x ∈ N then N else N ++ [x]
theorem addN_mem (N : List (List UInt8)) (x : List UInt8) : x ∈ addN N x := by unfold addN; split <;> simp_all
theorem addN_sub {N : List (List UInt8)} {x y : List UInt8} (h : y ∈ N) : y ∈ addN N x := by unfold addN; split <;> simp_all
theorem addN_pl {N : List (List UInt8)} {x y : List UInt8} (h : y ∈ N) : plF 1 (addN N x) y = plF 1 N y := by
  unfold addN
  split
  · rfl
  · exact plF_keep h
theorem addN_ok {N : List (List UInt8)} {x : List UInt8} (hd : N.Nodup) (hn : ∀ y ∈ N, nameOk y = true) (hx : nameOk x = true) : (addN N x).Nodup ∧ ∀ y ∈ addN N x, nameOk y = true := by
  unfold addN
  split
  · exact ⟨hd, hn⟩
  · rename_i h
    refine ⟨by rw [List.nodup_append]; exact ⟨hd, by simp, fun a ha b hb e => h (by simp at hb; rw [hb] at e; rw [← e]; exact ha)⟩, fun y hy => ?_⟩
    rcases List.mem_append.1 hy with hy | hy
    · exact hn y hy
    · simp at hy; rw [hy]; exact hx
theorem addN_sz (N : List (List UInt8)) (x : List UInt8) : szF 1 (addN N x) ≤ szF 1 N + x.length + 1 := by
  unfold addN
  split
  · omega
  · rw [szF_snoc]; omega
/-- Add of a name -/
theorem add_any (p : Nat) (x : List UInt8) (w : World) (N : List (List UInt8)) (F : Nat → Prop) (h : Tab p w N F) (hx : nameOk x = true) (hb : szF 1 N ≤ 1000000000000) (hlt : ∀ k, F k → k < w.heap.size) : Calls Try.prog 19 #[.pointer (some ⟨p, 0, none⟩), .string ⟨x.toArray⟩] w fun e w' => e = .returned (.tuple #[.int .i64 (plF 1 (addN N x) x : Nat), .int .i64 0]) ∧ Tab p w' (addN N x) (FN F w w') ∧ Chg F w w' := by
  by_cases hm : x ∈ N
  · have e : addN N x = N := by unfold addN; rw [if_pos hm]
    rw [e]
    refine (add_old p x w N F h hx hm).mono ?_
    rintro e w' ⟨rfl, rfl⟩
    exact ⟨rfl, h.mono (fun k hk => .inl hk), Chg.refl _ _⟩
  · have e : addN N x = N ++ [x] := by unfold addN; rw [if_neg hm]
    rw [e, plF_new hm]
    exact add_new p x w N F h hx hm hb
theorem FN_lt {F : Nat → Prop} {w w' : World} (hlt : ∀ k, F k → k < w.heap.size) (hs : w.heap.size ≤ w'.heap.size) : ∀ k, FN F w w' k → k < w'.heap.size := fun k hk => by
  rcases hk with h | h
  · have := hlt k h; omega
  · exact h.2
/-- behind Add -/
theorem B1.add {w0 wr w' : World} {p : Nat} {N K : List (List UInt8)} {pv tv : Value} {F : Nat → Prop} {x : List UInt8} (h : B1 w0 p wr N K pv tv F) (hx : nameOk x = true) (ht : Tab p w' (addN N x) (FN F wr w')) (hc : Chg F wr w') : B1 w0 p w' (addN N x) K pv tv (FN F wr w') := by
  refine ⟨ht, FN_lt h.lt hc.size, ?_, owns_chg h.tk h.tn hc, ?_, ?_, ?_, ?_, Chg.out hc h.out h.ge⟩
  · have e : K.map (fun y => (plF 1 (addN N x) y : Int)) = K.map (fun y => (plF 1 N y : Int)) := List.map_congr_left (fun y hy => by rw [addN_pl (h.ok.2.2 y hy)])
    rw [e]
    exact owns_chg h.pl h.pn hc
  · rintro k hk (hf | hf)
    · exact h.pn k hk hf
    · have := (h.pl.lt k hk).2; omega
  · rintro k hk (hf | hf)
    · exact h.tn k hk hf
    · have := (h.tk.lt k hk).2; omega
  · obtain ⟨a1, a2⟩ := addN_ok h.ok.1 h.ok.2.1 hx
    exact ⟨a1, a2, fun y hy => addN_sub (h.ok.2.2 y hy)⟩
  · rintro k (hf | hf)
    · exact h.ge k hf
    · exact Nat.le_trans h.out.size hf.1
/-- behind the append to the places (one block more was made ahead of it) -/
theorem B1.drop {w0 wr w' : World} {p : Nat} {N K : List (List UInt8)} {pv tv : Value} {F : Nat → Prop} (h : B1 w0 p wr N K pv tv F) (o : Out wr w') : B1 w0 p w' N K pv tv F :=
  ⟨h.tab.out o, fun k hk => Nat.lt_of_lt_of_le (h.lt k hk) o.size, owns_chg (S := fun _ => False) h.pl (fun _ _ h => h) (Chg.of_out o), owns_chg (S := fun _ => False) h.tk (fun _ _ h => h) (Chg.of_out o), h.pn, h.tn, h.ok, h.ge, h.out.trans o⟩
/-- behind both appends -/
theorem B1.more {w0 X Y w1 w2 : World} {p : Nat} {N K : List (List UInt8)} {pv tv : Value} {F : Nat → Prop} {x : List UInt8} {g1 c1 g2 c2 n : Nat} (h : B1 w0 p X N K pv tv F) (hx : x ∈ N) (hn : K.length = n)
    (hg1 : X.grownBy w1 pv.ownBlock) (ho1 : w1.ownsRow w0.heap.size 3 1 (.slice (some ⟨g1, 0, none⟩) (n + 1) c1) (n + 1) ((K.map fun x => (plF 1 N x : Int)).map (Value.int .i64) ++ [.int .i64 (plF 1 N x : Nat)])) (hw1 : pv.ownBlock = some g1 ∨ g1 = X.heap.size)
    (hY : Out w1 Y) (hg2 : Y.grownBy w2 tv.ownBlock) (ho2 : w2.ownsRow w0.heap.size 9 1 (.slice (some ⟨g2, 0, none⟩) (n + 1) c2) (n + 1) (K.map strV ++ [strV x])) (hw2 : tv.ownBlock = some g2 ∨ g2 = Y.heap.size) :
    B1 w0 p w2 N (K ++ [x]) (.slice (some ⟨g1, 0, none⟩) (n + 1) c1) (.slice (some ⟨g2, 0, none⟩) (n + 1) c2) F := by
  have k1 : Chg (fun k => pv.ownBlock = some k) X w1 := Chg.of_grown hg1 (fun k hk => hk)
  have k2 : Chg (fun k => tv.ownBlock = some k) Y w2 := Chg.of_grown hg2 (fun k hk => hk)
  have hsX : X.heap.size ≤ Y.heap.size := Nat.le_trans k1.size hY.size
  have t1 : Tab p w1 N F := h.tab.chg k1 (fun k hf hk => h.pn k hk hf)
  have t2 : Tab p w2 N F := (t1.out hY).chg k2 (fun k hf hk => h.tn k hk hf)
  have n1 : ¬ F g1 := by
    rcases hw1 with hw | hw
    · exact h.pn g1 hw
    · intro hf; have := h.lt g1 hf; omega
  have n2 : ¬ F g2 := by
    rcases hw2 with hw | hw
    · exact h.tn g2 hw
    · intro hf; have := h.lt g2 hf; omega
  have o1 : Out w0 w1 := Chg.out k1 h.out (fun k hk => (h.pl.lt k hk).1)
  have tk1 : OwS w0.heap.size tv K w1 := owns_chg h.tk (fun k hk hk' => own_apart (by decide) h.tk h.pl k hk hk') k1
  have tkY : OwS w0.heap.size tv K Y := owns_chg (S := fun _ => False) tk1 (fun _ _ h => h) (Chg.of_out hY)
  have p1 : Y.ownsRow w0.heap.size 3 1 (.slice (some ⟨g1, 0, none⟩) (n + 1) c1) (n + 1) ((K.map fun x => (plF 1 N x : Int)).map (Value.int .i64) ++ [.int .i64 (plF 1 N x : Nat)]) := owns_chg (S := fun _ => False) ho1 (fun _ _ h => h) (Chg.of_out hY)
  refine ⟨t2, fun k hk => Nat.lt_of_lt_of_le (h.lt k hk) (Nat.le_trans hsX k2.size), ?_, ?_, ?_, ?_, ⟨h.ok.1, h.ok.2.1, ?_⟩, h.ge, Chg.out k2 (o1.trans hY) (fun k hk => (tkY.lt k hk).1)⟩
  · have := owns_chg p1 (fun k hk hk' => own_apart (by decide) p1 tkY k hk hk') k2
    unfold OwI
    simpa [hn] using this
  · unfold OwS
    simpa [hn] using ho2
  · intro k hk
    simp [Value.ownBlock] at hk
    rw [← hk]; exact n1
  · intro k hk
    simp [Value.ownBlock] at hk
    rw [← hk]; exact n2
  · intro y hy
    rcases List.mem_append.1 hy with hy | hy
    · exact h.ok.2.2 y hy
    · simp at hy; rw [hy]; exact hx
end Go.Proofs.Ytgakmbeooobhjaa
