import Derived.Test.YthdgmhohofakgaaGreatDoorAa
namespace Go.Proofs.YthdgmhohofakgaaGreatDoor
open Go.RowKit
open Go.Maps (Keyed)
set_option linter.unusedVariables false
set_option linter.unusedSimpArgs false
def strV (l : List UInt8) : Value := .string ⟨l.toArray⟩
theorem owns_chg {B size : Nat} {S : Nat → Prop} {w w' : World} {e : TypeId} {v : Value} {n : Nat} {xs : List Value} (h : w.ownsRow B e size v n xs) (hs : ∀ k, v.ownBlock = some k → ¬ S k) (hc : Chg S w w') : w'.ownsRow B e size v n xs := by
  refine ⟨h.1, ?_⟩
  rcases h.2 with hn | ⟨g, cap, cur, rfl, hb, hg, rest⟩
  · exact .inl hn
  · refine .inr ⟨g, cap, cur, rfl, hb, ?_, rest⟩
    rw [hc.block g (Array.getElem?_eq_some_iff.1 hg).1 (hs g rfl)]
    exact hg
theorem own_form {B n sz : Nat} {X : World} {e : TypeId} {v : Value} {xs : List Value} (h : X.ownsRow B e sz v n xs) : ∃ ad cp, v = .slice ad n cp := by
  rcases h.2 with ⟨rfl, rfl⟩ | ⟨g, cap, cur, rfl, _⟩
  · exact ⟨none, 0, rfl⟩
  · exact ⟨_, _, rfl⟩
theorem own_le {B n sz : Nat} {X : World} {e : TypeId} {v : Value} {xs : List Value} (h : X.ownsRow B e sz v n xs) : ∀ k, v.ownBlock = some k → B ≤ k := fun k hk => (h.lt k hk).1
theorem news_new (w : World) (cs : Array Value) (t : TypeId) (b : Nat) (hb : b = w.heap.size) : ∀ j u, cs.toList[j]? = some u → (w.alloc (.cells cs t)).cell? ((⟨b, 0, none⟩ : Addr).add j) = some u := by
  intro j u hu
  rw [WideShapes.add_plain, Nat.zero_add, cell_fresh _ _ _ _ _ hb]
  simpa using hu
/-- a block of cells is of one type -/
theorem own_type {B n sz : Nat} {w : World} {e t : TypeId} {v : Value} {xs : List Value} {k : Nat} {cs : Array Value} (h : w.ownsRow B e sz v n xs) (hk : w.heap[k]? = some (.cells cs t (0, 0))) (he : ¬ e = t) : ¬ v.ownBlock = some k := fun hv => by
  rcases h.2 with ⟨rfl, rfl⟩ | ⟨g, cap, cur, rfl, _, hg, _⟩
  · cases hv
  · simp [Value.ownBlock] at hv
    subst hv
    rw [hg] at hk
    simp at hk
    exact he hk.2
theorem own_apart {B B' s s' n n' : Nat} {w : World} {e e' : TypeId} {v v' : Value} {xs xs' : List Value} (he : ¬ e = e') (h : w.ownsRow B e s v n xs) (h' : w.ownsRow B' e' s' v' n' xs') : ∀ k, v.ownBlock = some k → ¬ v'.ownBlock = some k := fun k hk hk' => by
  rcases h.2 with ⟨hv, _⟩ | ⟨g, cap, cur, hv, _, hg, _⟩
  · rw [hv] at hk; cases hk
  · rw [hv] at hk
    simp [Value.ownBlock] at hk
    subst hk
    exact own_type h' hg (Ne.symm he) hk'
theorem infoStr : (Tryz.prog.info? 9).map (fun i => (i.zero, i.size, i.bytes)) = some (some (.string ⟨#[]⟩), 1, 16) := by kernel_rfl
theorem infoInt : (Tryz.prog.info? 3).map (fun i => (i.zero, i.size, i.bytes)) = some (some (.int .i64 0), 1, 8) := by kernel_rfl
theorem strLaw : Keyed Tryz.prog 9 := Maps.string_keyed Tryz.underlying9
theorem keyOf_tx (l : List UInt8) (h : l.length ≤ 1000000000000) : keyOf Tryz.prog 9 (.string ⟨l.toArray⟩) = some (.string l) := by
  have := WideMaps.keyOf_string_mk (P := Tryz.prog) (k := 9) Tryz.underlying9 (s := ⟨l.toArray⟩) (by show l.toArray.size ≤ _; rw [List.size_toArray]; unfold maxLen; omega)
  simpa using this
noncomputable def PE : Value → Option (DataW Unit × List MemPlace) := plainElem Tryz.prog 3
/-- a map that tells the places of names -/
def MapIs (D : DataW Unit) (N : List (List UInt8)) : Prop := Maps.IsMap D ∧ ∀ x, Maps.has D (.string x) = decide (x ∈ N) ∧ (x ∈ N → D.atKey (.string x) (.lit (.int .i64 0)) = .lit (.int .i64 (plF 1 N x : Nat)))
theorem MapIs.nil : MapIs (.map []) [] := ⟨⟨_, rfl⟩, fun x => ⟨by simp [Maps.has_eq], by simp⟩⟩
theorem isKey (x : List UInt8) : WideAt.IsKeyLit (.string x) := by simp [WideAt.IsKeyLit]
theorem MapIs.snoc {D : DataW Unit} {N : List (List UInt8)} (h : MapIs D N) {x : List UInt8} (hx : ¬ x ∈ N) : MapIs (D.put (.string x) (.lit (.int .i64 (szF 1 N : Nat)))) (N ++ [x]) := by
  refine ⟨h.1.put _ _, fun y => ?_⟩
  by_cases e : y = x
  · subst e
    refine ⟨by rw [Maps.has_put_same h.1 (isKey y)]; simp, fun _ => ?_⟩
    rw [Maps.atKey_put_same h.1 (isKey y), plF_snoc, if_neg hx, if_pos rfl]
  · have hne : (Lit.string y) ≠ .string x := by intro h; cases h; exact e rfl
    refine ⟨by rw [Maps.has_put_other hne, (h.2 y).1]; simp [e], fun hy => ?_⟩
    have hy' : y ∈ N := by simpa [e] using hy
    rw [Maps.atKey_put_other hne, (h.2 y).2 hy', plF_snoc, if_pos hy']
def mapBlk : Value → Option Nat
  | .map b => b
  | _ => none
def MapOk (w : World) (mv : Value) (N : List (List UInt8)) : Prop := (mv = .map none ∧ N = []) ∨ ∃ b D, mv = .map (some b) ∧ w.ownsMap Tryz.prog 9 PE b N.length D ∧ MapIs D N
/-- a table's blocks -/
def fp (p : Nat) (nv sv mv : Value) (k : Nat) : Prop := k = p ∨ nv.ownBlock = some k ∨ sv.ownBlock = some k ∨ mapBlk mv = some k
/-- a table, its three lists by themselves -/
structure T3 (p : Nat) (w : World) (A B C : List (List UInt8)) (nv sv mv : Value) : Prop where
  at_ : w.heap[p]? = some (.cells #[nv, sv, mv] 136 (0, 0))
  nm : w.ownsRow 0 9 1 nv A.length (A.map strV)
  st : w.ownsRow 0 3 1 sv B.length ((stF 1 B).map (Value.int .i64))
  mp : MapOk w mv C
theorem MapOk.chg {w w' : World} {mv : Value} {N : List (List UInt8)} {S : Nat → Prop} (h : MapOk w mv N) (hc : Chg S w w') (hs : ∀ k, mapBlk mv = some k → ¬ S k) : MapOk w' mv N := by
  rcases h with h | ⟨b, D, rfl, ho, hm⟩
  · exact .inl h
  · refine .inr ⟨b, D, rfl, ?_, hm⟩
    have hlt := ho.lt
    obtain ⟨es, clock, hb, r⟩ := ho
    exact ⟨es, clock, (hc.block b hlt (hs b rfl)).trans hb, r⟩
theorem T3.chg {p : Nat} {w w' : World} {A B C : List (List UInt8)} {nv sv mv : Value} {S : Nat → Prop} (h : T3 p w A B C nv sv mv) (hc : Chg S w w') (hs : ∀ k, fp p nv sv mv k → ¬ S k) : T3 p w' A B C nv sv mv :=
  ⟨(hc.block p (Array.getElem?_eq_some_iff.1 h.at_).1 (hs p (.inl rfl))).trans h.at_, owns_chg h.nm (fun k hk => hs k (.inr (.inl hk))) hc, owns_chg h.st (fun k hk => hs k (.inr (.inr (.inl hk)))) hc, h.mp.chg hc (fun k hk => hs k (.inr (.inr (.inr hk))))⟩
theorem T3.out {p : Nat} {w w' : World} {A B C : List (List UInt8)} {nv sv mv : Value} (h : T3 p w A B C nv sv mv) (o : Out w w') : T3 p w' A B C nv sv mv := h.chg (S := fun _ => False) (Chg.of_out o) (fun _ _ h => h)
theorem T3.cell {p : Nat} {w : World} {A B C : List (List UInt8)} {nv sv mv : Value} (h : T3 p w A B C nv sv mv) (j : Nat) : w.cell? ⟨p, j, none⟩ = (#[nv, sv, mv] : Array Value)[j]? := by simp [World.cell?, h.at_]
theorem T3.frozen {p : Nat} {w : World} {A B C : List (List UInt8)} {nv sv mv : Value} (h : T3 p w A B C nv sv mv) (j : Nat) : w.frozen? ⟨p, j, none⟩ = false := by simp [World.frozen?, h.at_]
theorem T3.lt {p : Nat} {w : World} {A B C : List (List UInt8)} {nv sv mv : Value} (h : T3 p w A B C nv sv mv) : p < w.heap.size := (Array.getElem?_eq_some_iff.1 h.at_).1
theorem MapOk.lt {w : World} {mv : Value} {N : List (List UInt8)} (h : MapOk w mv N) : ∀ k, mapBlk mv = some k → k < w.heap.size := fun k hk => by
  rcases h with ⟨rfl, _⟩ | ⟨b, D, rfl, ho, hm⟩
  · cases hk
  · cases hk; exact ho.lt
theorem T3.fp_lt {p : Nat} {w : World} {A B C : List (List UInt8)} {nv sv mv : Value} (h : T3 p w A B C nv sv mv) : ∀ k, fp p nv sv mv k → k < w.heap.size := fun k hk => by
  rcases hk with rfl | hk | hk | hk
  · exact h.lt
  · exact (h.nm.lt k hk).2
  · exact (h.st.lt k hk).2
  · exact h.mp.lt k hk
theorem T3.np {p : Nat} {w : World} {A B C : List (List UInt8)} {nv sv mv : Value} (h : T3 p w A B C nv sv mv) : ¬ nv.ownBlock = some p := own_type h.nm h.at_ (by decide)
theorem T3.sp {p : Nat} {w : World} {A B C : List (List UInt8)} {nv sv mv : Value} (h : T3 p w A B C nv sv mv) : ¬ sv.ownBlock = some p := own_type h.st h.at_ (by decide)
theorem map_cells {w : World} {mv : Value} {N : List (List UInt8)} (h : MapOk w mv N) {k : Nat} {cs : Array Value} {t : TypeId} {z : Nat × Nat} (hk : w.heap[k]? = some (.cells cs t z)) : ¬ mapBlk mv = some k := fun e => by
  rcases h with ⟨rfl, _⟩ | ⟨b, D, rfl, ho, hm⟩
  · cases e
  · cases e
    obtain ⟨es, clock, hb, _⟩ := ho
    rw [hb] at hk
    cases hk
theorem map_row {w : World} {mv v : Value} {N : List (List UInt8)} {B n sz : Nat} {e : TypeId} {xs : List Value} (h : MapOk w mv N) (ho : w.ownsRow B e sz v n xs) : ∀ k, v.ownBlock = some k → ¬ mapBlk mv = some k := fun k hk => by
  rcases ho.2 with ⟨rfl, rfl⟩ | ⟨g, cap, cur, rfl, _, hg, _⟩
  · cases hk
  · simp [Value.ownBlock] at hk
    subst hk
    exact map_cells h hg
/-- behind an append to the names -/
theorem T3.names {p g cap : Nat} {X w' : World} {A B C : List (List UInt8)} {nv sv mv v' : Value} {x : List UInt8} (h : T3 p X A B C nv sv mv) (hg : X.grownBy w' nv.ownBlock) (hv : v' = .slice (some ⟨g, 0, none⟩) (A.length + 1) cap) (ho : w'.ownsRow 0 9 1 v' (A.length + 1) (A.map strV ++ [strV x])) (hw : nv.ownBlock = some g ∨ g = X.heap.size) :
    T3 p (w'.setCell ⟨p, 0, none⟩ v') (A ++ [x]) B C v' sv mv ∧ Chg (fp p nv sv mv) X (w'.setCell ⟨p, 0, none⟩ v') := by
  have hc : Chg (fun k => nv.ownBlock = some k) X w' := Chg.of_grown hg (fun k hk => hk)
  have hp : w'.heap[p]? = X.heap[p]? := hc.block p h.lt h.np
  have hne : ¬ g = p := by
    rcases hw with hw | hw
    · intro e; exact h.np (by rw [hw, e])
    · have := h.lt; omega
  have c2 : Chg (fun k => k = p) w' (w'.setCell ⟨p, 0, none⟩ v') := Chg.setCell (S := fun k => k = p) (Chg.refl _ w') (p := ⟨p, 0, none⟩) rfl v'
  refine ⟨⟨?_, ?_, ?_, ?_⟩, ?_⟩
  · simp [World.setCell, Array.getElem?_modify, hp, h.at_]
  · have := owns_chg ho (fun k hk e => by rw [hv] at hk; simp [Value.ownBlock] at hk; exact hne (by rw [hk, e])) c2
    simpa using this
  · exact owns_chg (owns_chg h.st (fun k hk hk' => own_apart (by decide) h.st h.nm k hk hk') hc) (fun k hk e => h.sp (by rw [← e]; exact hk)) c2
  · refine (h.mp.chg hc (fun k hk hk' => map_row h.mp h.nm k hk' hk)).chg c2 (fun k hk e => ?_)
    exact map_cells h.mp h.at_ (by rw [← e]; exact hk)
  · exact (hc.mono (fun k hk _ => .inr (.inl hk))).trans c2 (fun k hk _ => .inl hk)
/-- behind an append to the starts -/
theorem T3.starts {p g cap : Nat} {X w' : World} {A B C : List (List UInt8)} {nv sv mv v' : Value} {x : List UInt8} (h : T3 p X A B C nv sv mv) (hg : X.grownBy w' sv.ownBlock) (hv : v' = .slice (some ⟨g, 0, none⟩) (B.length + 1) cap) (ho : w'.ownsRow 0 3 1 v' (B.length + 1) ((stF 1 B).map (Value.int .i64) ++ [.int .i64 (szF 1 B : Nat)])) (hw : sv.ownBlock = some g ∨ g = X.heap.size) :
    T3 p (w'.setCell ⟨p, 1, none⟩ v') A (B ++ [x]) C nv v' mv ∧ Chg (fp p nv sv mv) X (w'.setCell ⟨p, 1, none⟩ v') := by
  have hc : Chg (fun k => sv.ownBlock = some k) X w' := Chg.of_grown hg (fun k hk => hk)
  have hp : w'.heap[p]? = X.heap[p]? := hc.block p h.lt h.sp
  have hne : ¬ g = p := by
    rcases hw with hw | hw
    · intro e; exact h.sp (by rw [hw, e])
    · have := h.lt; omega
  have c2 : Chg (fun k => k = p) w' (w'.setCell ⟨p, 1, none⟩ v') := Chg.setCell (S := fun k => k = p) (Chg.refl _ w') (p := ⟨p, 1, none⟩) rfl v'
  refine ⟨⟨?_, ?_, ?_, ?_⟩, ?_⟩
  · simp [World.setCell, Array.getElem?_modify, hp, h.at_]
  · exact owns_chg (owns_chg h.nm (fun k hk hk' => own_apart (by decide) h.nm h.st k hk hk') hc) (fun k hk e => h.np (by rw [← e]; exact hk)) c2
  · have := owns_chg ho (fun k hk e => by rw [hv] at hk; simp [Value.ownBlock] at hk; exact hne (by rw [hk, e])) c2
    rw [stF_snoc]
    simpa using this
  · refine (h.mp.chg hc (fun k hk hk' => map_row h.mp h.st k hk' hk)).chg c2 (fun k hk e => ?_)
    exact map_cells h.mp h.at_ (by rw [← e]; exact hk)
  · exact (hc.mono (fun k hk _ => .inr (.inr (.inl hk)))).trans c2 (fun k hk _ => .inl hk)
/-- behind a store into the map -/
theorem T3.put {p b : Nat} {X w' : World} {A B C : List (List UInt8)} {nv sv : Value} {D : DataW Unit} {x : List UInt8} (h : T3 p X A B C nv sv (.map (some b))) (hg : X.grownBy w' (some b)) (ho : w'.ownsMap Tryz.prog 9 PE b (C.length + 1) D) (hm : MapIs D (C ++ [x])) :
    T3 p w' A B (C ++ [x]) nv sv (.map (some b)) ∧ Chg (fp p nv sv (.map (some b))) X w' := by
  have hc : Chg (fun k => k = b) X w' := Chg.of_grown hg (fun k hk => by cases hk; rfl)
  refine ⟨⟨?_, ?_, ?_, ?_⟩, hc.mono (fun k hk _ => .inr (.inr (.inr (by rw [hk]; rfl))))⟩
  · exact (hc.block p h.lt (fun e => map_cells h.mp h.at_ (by rw [e]; rfl))).trans h.at_
  · exact owns_chg h.nm (fun k hk e => map_row h.mp h.nm k hk (by rw [e]; rfl)) hc
  · exact owns_chg h.st (fun k hk e => map_row h.mp h.st k hk (by rw [e]; rfl)) hc
  · exact .inr ⟨b, D, rfl, by simpa using ho, hm⟩
/-- behind the making of the map -/
theorem T3.made {p : Nat} {w : World} {A B : List (List UInt8)} {nv sv : Value} (h : T3 p w A B [] nv sv (.map none)) :
    T3 p ((w.alloc (.map #[] 0)).setCell ⟨p, 2, none⟩ (.map (some w.heap.size))) A B [] nv sv (.map (some w.heap.size)) ∧ Chg (fp p nv sv (.map none)) w ((w.alloc (.map #[] 0)).setCell ⟨p, 2, none⟩ (.map (some w.heap.size))) := by
  have h1 := h.out ((Out.refl w).alloc (.map #[] 0))
  have hm := World.ownsMap_made w Tryz.prog 9 PE
  generalize hX : w.alloc (.map #[] 0) = X at *
  have c2 : Chg (fun k => k = p) X (X.setCell ⟨p, 2, none⟩ (.map (some w.heap.size))) := Chg.setCell (S := fun k => k = p) (Chg.refl _ X) (p := ⟨p, 2, none⟩) rfl _
  have hlt := h.lt
  refine ⟨⟨?_, ?_, ?_, ?_⟩, ?_⟩
  · simp [World.setCell, Array.getElem?_modify, h1.at_]
  · exact owns_chg h1.nm (fun k hk e => h1.np (by rw [← e]; exact hk)) c2
  · exact owns_chg h1.st (fun k hk e => h1.sp (by rw [← e]; exact hk)) c2
  · exact .inr ⟨w.heap.size, .map [], rfl, hm.setCell (a := ⟨p, 2, none⟩) (by show w.heap.size ≠ p; omega) _, MapIs.nil⟩
  · rw [← hX]
    exact Chg.setCell ((Chg.refl _ w).alloc _) (p := ⟨p, 2, none⟩) (.inl rfl) _
end Go.Proofs.YthdgmhohofakgaaGreatDoor
