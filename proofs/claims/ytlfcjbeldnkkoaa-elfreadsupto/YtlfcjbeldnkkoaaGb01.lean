import Derived.Test.YtlfcjbeldnkkoaaGb00
import Derived.Shelf.Small.Strs
import Derived.Shelf.Small.Wraps
import Derived.Shelf.LaysM
import Derived.Shelf.Strconv.Clone
import Derived.Shelf.Strings.Search1
import Derived.Ground.Names2Prog
import Derived.Shelf.Slices.SearchI
import Derived.Shelf.Slices.Empties
import Derived.Shelf.Bytes.SlIndexAt
import Derived.Shelf.Bytes.SlSearch0
import Derived.Ground.SlbCloneProg
import Derived.Shelf.Bytes.SlClone
import Derived.Shelf.Bytes.IndexByte
import Derived.Test.YtlfcjbeldnkkoaaProg
namespace Go.Proofs.Ytlfcjbeldnkkoaa
open Go.RowKit
open Go.Maps (Keyed)
set_option linter.unusedVariables false
set_option linter.unusedSimpArgs false
def strV (l : List UInt8) : Value := .string ⟨l.toArray⟩
theorem owns_chg {B size : Nat} {S : Nat → Prop} {w w' : World} {e : TypeId} {v : Value} {n : Nat} {xs : List Value} (h : w.ownsRow B e size v n xs) (hs : ∀ k, v.ownBlock = some k → ¬ S k) (hc : Chg S w w') : w'.ownsRow B e size v n xs := by
  refine ⟨h.1, ?_⟩
  rcases h.2 with hn | ⟨g, cap, cur, rfl, hb, hg, rest⟩
  · exact .inl hn
  · refine .inr ⟨g, cap, cur, rfl, hb, ?_, rest⟩
    rw [hc.block g (Array.getElem?_eq_some_iff.1 hg).1 (hs g rfl)]
    exact hg
theorem own_form {B n sz : Nat} {X : World} {e : TypeId} {v : Value} {xs : List Value} (h : X.ownsRow B e sz v n xs) : ∃ ad cp, v = .slice ad n cp := by
  rcases h.2 with ⟨rfl, rfl⟩ | ⟨g, cap, cur, rfl, _⟩
  · exact ⟨none, 0, rfl⟩
  · exact ⟨_, _, rfl⟩
theorem own_le {B n sz : Nat} {X : World} {e : TypeId} {v : Value} {xs : List Value} (h : X.ownsRow B e sz v n xs) : ∀ k, v.ownBlock = some k → B ≤ k := fun k hk => (h.lt k hk).1
theorem news_new (w : World) (cs : Array Value) (t : TypeId) (b : Nat) (hb : b = w.heap.size) : ∀ j u, cs.toList[j]? = some u → (w.alloc (.cells cs t)).cell? ((⟨b, 0, none⟩ : Addr).add j) = some u := by
  intro j u hu
  rw [WideShapes.add_plain, Nat.zero_add, cell_fresh _ _ _ _ _ hb]
  simpa using hu
/-- a block of cells is of one type -/
theorem own_type {B n sz : Nat} {w : World} {e t : TypeId} {v : Value} {xs : List Value} {k : Nat} {cs : Array Value} (h : w.ownsRow B e sz v n xs) (hk : w.heap[k]? = some (.cells cs t (0, 0))) (he : ¬ e = t) : ¬ v.ownBlock = some k := fun hv => by
  rcases h.2 with ⟨rfl, rfl⟩ | ⟨g, cap, cur, rfl, _, hg, _⟩
  · cases hv
  · simp [Value.ownBlock] at hv
    subst hv
    rw [hg] at hk
    simp at hk
    exact he hk.2
theorem own_apart {B B' s s' n n' : Nat} {w : World} {e e' : TypeId} {v v' : Value} {xs xs' : List Value} (he : ¬ e = e') (h : w.ownsRow B e s v n xs) (h' : w.ownsRow B' e' s' v' n' xs') : ∀ k, v.ownBlock = some k → ¬ v'.ownBlock = some k := fun k hk hk' => by
  rcases h.2 with ⟨hv, _⟩ | ⟨g, cap, cur, hv, _, hg, _⟩
  · rw [hv] at hk; cases hk
  · rw [hv] at hk
    simp [Value.ownBlock] at hk
    subst hk
    exact own_type h' hg (Ne.symm he) hk'
theorem infoStr : (Try.prog.info? 9).map (fun i => (i.zero, i.size, i.bytes)) = some (some (.string ⟨#[]⟩), 1, 16) := by kernel_rfl
theorem infoInt : (Try.prog.info? 3).map (fun i => (i.zero, i.size, i.bytes)) = some (some (.int .i64 0), 1, 8) := by kernel_rfl
theorem strLaw : Keyed Try.prog 9 := Maps.string_keyed Try.underlying9
theorem keyOf_tx (l : List UInt8) (h : l.length ≤ 1000000000000) : keyOf Try.prog 9 (.string ⟨l.toArray⟩) = some (.string l) := by
  have := WideMaps.keyOf_string_mk (P := Try.prog) (k := 9) Try.underlying9 (s := ⟨l.toArray⟩) (by show l.toArray.size ≤ _; rw [List.size_toArray]; unfold maxLen; omega)
  simpa using this
noncomputable def PE : Value → Option (DataW Unit × List MemPlace) := plainElem Try.prog 3
/-- a map that tells the places of names -/
def MapIs (D : DataW Unit) (N : List (List UInt8)) : Prop := Maps.IsMap D ∧ ∀ x, Maps.has D (.string x) = decide (x ∈ N) ∧ (x ∈ N → D.atKey (.string x) (.lit (.int .i64 0)) = .lit (.int .i64 (plF 1 N x : Nat)))
theorem MapIs.nil : MapIs (.map []) [] := ⟨⟨_, rfl⟩, fun x => ⟨by simp [Maps.has_eq], by simp⟩⟩
theorem isKey (x : List UInt8) : WideAt.IsKeyLit (.string x) := by simp [WideAt.IsKeyLit]
theorem MapIs.snoc {D : DataW Unit} {N : List (List UInt8)} (h : MapIs D N) {x : List UInt8} (hx : ¬ x ∈ N) : MapIs (D.put (.string x) (.lit (.int .i64 (szF 1 N : Nat)))) (N ++ [x]) := by
  refine ⟨h.1.put _ _, fun y => ?_⟩
  by_cases e : y = x
  · subst e
    refine ⟨by rw [Maps.has_put_same h.1 (isKey y)]; simp, fun _ => ?_⟩
    rw [Maps.atKey_put_same h.1 (isKey y), plF_snoc, if_neg hx, if_pos rfl]
  · have hne : (Lit.string y) ≠ .string x := by intro h; cases h; exact e rfl
    refine ⟨by rw [Maps.has_put_other hne, (h.2 y).1]; simp [e], fun hy => ?_⟩
    have hy' : y ∈ N := by simpa [e] using hy
    rw [Maps.atKey_put_other hne, (h.2 y).2 hy', plF_snoc, if_pos hy']
def mapBlk : Value → Option Nat
  | .map b => b
  | _ => none
def MapOk (w : World) (mv : Value) (N : List (List UInt8)) : Prop := (mv = .map none ∧ N = []) ∨ ∃ b D, mv = .map (some b) ∧ w.ownsMap Try.prog 9 PE b N.length D ∧ MapIs D N
/-- a table's blocks -/
def fp (p : Nat) (nv sv mv : Value) (k : Nat) : Prop := k = p ∨ nv.ownBlock = some k ∨ sv.ownBlock = some k ∨ mapBlk mv = some k
/-- a table, its three lists by themselves -/
structure T3 (p : Nat) (w : World) (A B C : List (List UInt8)) (nv sv mv : Value) : Prop where
  at_ : w.heap[p]? = some (.cells #[nv, sv, mv] 128 (0, 0))
  nm : w.ownsRow 0 9 1 nv A.length (A.map strV)
  st : w.ownsRow 0 3 1 sv B.length ((stF 1 B).map (Value.int .i64))
  mp : MapOk w mv C
theorem MapOk.chg {w w' : World} {mv : Value} {N : List (List UInt8)} {S : Nat → Prop} (h : MapOk w mv N) (hc : Chg S w w') (hs : ∀ k, mapBlk mv = some k → ¬ S k) : MapOk w' mv N := by
  rcases h with h | ⟨b, D, rfl, ho, hm⟩
  · exact .inl h
  · refine .inr ⟨b, D, rfl, ?_, hm⟩
    have hlt := ho.lt
    obtain ⟨es, clock, hb, r⟩ := ho
    exact ⟨es, clock, (hc.block b hlt (hs b rfl)).trans hb, r⟩
theorem T3.chg {p : Nat} {w w' : World} {A B C : List (List UInt8)} {nv sv mv : Value} {S : Nat → Prop} (h : T3 p w A B C nv sv mv) (hc : Chg S w w') (hs : ∀ k, fp p nv sv mv k → ¬ S k) : T3 p w' A B C nv sv mv :=
  ⟨(hc.block p (Array.getElem?_eq_some_iff.1 h.at_).1 (hs p (.inl rfl))).trans h.at_, owns_chg h.nm (fun k hk => hs k (.inr (.inl hk))) hc, owns_chg h.st (fun k hk => hs k (.inr (.inr (.inl hk)))) hc, h.mp.chg hc (fun k hk => hs k (.inr (.inr (.inr hk))))⟩
theorem T3.out {p : Nat} {w w' : World} {A B C : List (List UInt8)} {nv sv mv : Value} (h : T3 p w A B C nv sv mv) (o : Out w w') : T3 p w' A B C nv sv mv := h.chg (S := fun _ => False) (Chg.of_out o) (fun _ _ h => h)
theorem T3.cell {p : Nat} {w : World} {A B C : List (List UInt8)} {nv sv mv : Value} (h : T3 p w A B C nv sv mv) (j : Nat) : w.cell? ⟨p, j, none⟩ = (#[nv, sv, mv] : Array Value)[j]? := by simp [World.cell?, h.at_]
theorem T3.frozen {p : Nat} {w : World} {A B C : List (List UInt8)} {nv sv mv : Value} (h : T3 p w A B C nv sv mv) (j : Nat) : w.frozen? ⟨p, j, none⟩ = false := by simp [World.frozen?, h.at_]
theorem T3.lt {p : Nat} {w : World} {A B C : List (List UInt8)} {nv sv mv : Value} (h : T3 p w A B C nv sv mv) : p < w.heap.size := (Array.getElem?_eq_some_iff.1 h.at_).1
theorem MapOk.lt {w : World} {mv : Value} {N : List (List UInt8)} (h : MapOk w mv N) : ∀ k, mapBlk mv = some k → k < w.heap.size := fun k hk => by
  rcases h with ⟨rfl, _⟩ | ⟨b, D, rfl, ho, hm⟩
  · cases hk
  · cases hk; exact ho.lt
theorem T3.fp_lt {p : Nat} {w : World} {A B C : List (List UInt8)} {nv sv mv : Value} (h : T3 p w A B C nv sv mv) : ∀ k, fp p nv sv mv k → k < w.heap.size := fun k hk => by
  rcases hk with rfl | hk | hk | hk
  · exact h.lt
  · exact (h.nm.lt k hk).2
  · exact (h.st.lt k hk).2
  · exact h.mp.lt k hk
theorem T3.np {p : Nat} {w : World} {A B C : List (List UInt8)} {nv sv mv : Value} (h : T3 p w A B C nv sv mv) : ¬ nv.ownBlock = some p := own_type h.nm h.at_ (by decide)
theorem T3.sp {p : Nat} {w : World} {A B C : List (List UInt8)} {nv sv mv : Value} (h : T3 p w A B C nv sv mv) : ¬ sv.ownBlock = some p := own_type h.st h.at_ (by decide)
theorem map_cells {w : World} {mv : Value} {N : List (List UInt8)} (h : MapOk w mv N) {k : Nat} {cs : Array Value} {t : TypeId} {z : Nat × Nat} (hk : w.heap[k]? = some (.cells cs t z)) : ¬ mapBlk mv = some k := fun e => by
  rcases h with ⟨rfl, _⟩ | ⟨b, D, rfl, ho, hm⟩
  · cases e
  · cases e
    obtain ⟨es, clock, hb, _⟩ := ho
    rw [hb] at hk
    cases hk
theorem map_row {w : World} {mv v : Value} {N : List (List UInt8)} {B n sz : Nat} {e : TypeId} {xs : List Value} (h : MapOk w mv N) (ho : w.ownsRow B e sz v n xs) : ∀ k, v.ownBlock = some k → ¬ mapBlk mv = some k := fun k hk => by
  rcases ho.2 with ⟨rfl, rfl⟩ | ⟨g, cap, cur, rfl, _, hg, _⟩
  · cases hk
  · simp [Value.ownBlock] at hk
    subst hk
    exact map_cells h hg
/-- behind an append to the names -/
theorem T3.names {p g cap : Nat} {X w' : World} {A B C : List (List UInt8)} {nv sv mv v' : Value} {x : List UInt8} (h : T3 p X A B C nv sv mv) (hg : X.grownBy w' nv.ownBlock) (hv : v' = .slice (some ⟨g, 0, none⟩) (A.length + 1) cap) (ho : w'.ownsRow 0 9 1 v' (A.length + 1) (A.map strV ++ [strV x])) (hw : nv.ownBlock = some g ∨ g = X.heap.size) :
    T3 p (w'.setCell ⟨p, 0, none⟩ v') (A ++ [x]) B C v' sv mv ∧ Chg (fp p nv sv mv) X (w'.setCell ⟨p, 0, none⟩ v') := by
  have hc : Chg (fun k => nv.ownBlock = some k) X w' := Chg.of_grown hg (fun k hk => hk)
  have hp : w'.heap[p]? = X.heap[p]? := hc.block p h.lt h.np
  have hne : ¬ g = p := by
    rcases hw with hw | hw
    · intro e; exact h.np (by rw [hw, e])
    · have := h.lt; omega
  have c2 : Chg (fun k => k = p) w' (w'.setCell ⟨p, 0, none⟩ v') := Chg.setCell (S := fun k => k = p) (Chg.refl _ w') (p := ⟨p, 0, none⟩) rfl v'
  refine ⟨⟨?_, ?_, ?_, ?_⟩, ?_⟩
  · simp [World.setCell, Array.getElem?_modify, hp, h.at_]
  · have := owns_chg ho (fun k hk e => by rw [hv] at hk; simp [Value.ownBlock] at hk; exact hne (by rw [hk, e])) c2
    simpa using this
  · exact owns_chg (owns_chg h.st (fun k hk hk' => own_apart (by decide) h.st h.nm k hk hk') hc) (fun k hk e => h.sp (by rw [← e]; exact hk)) c2
  · refine (h.mp.chg hc (fun k hk hk' => map_row h.mp h.nm k hk' hk)).chg c2 (fun k hk e => ?_)
    exact map_cells h.mp h.at_ (by rw [← e]; exact hk)
  · exact (hc.mono (fun k hk _ => .inr (.inl hk))).trans c2 (fun k hk _ => .inl hk)
/-- behind an append to the starts -/
theorem T3.starts {p g cap : Nat} {X w' : World} {A B C : List (List UInt8)} {nv sv mv v' : Value} {x : List UInt8} (h : T3 p X A B C nv sv mv) (hg : X.grownBy w' sv.ownBlock) (hv : v' = .slice (some ⟨g, 0, none⟩) (B.length + 1) cap) (ho : w'.ownsRow 0 3 1 v' (B.length + 1) ((stF 1 B).map (Value.int .i64) ++ [.int .i64 (szF 1 B : Nat)])) (hw : sv.ownBlock = some g ∨ g = X.heap.size) :
    T3 p (w'.setCell ⟨p, 1, none⟩ v') A (B ++ [x]) C nv v' mv ∧ Chg (fp p nv sv mv) X (w'.setCell ⟨p, 1, none⟩ v') := by
  have hc : Chg (fun k => sv.ownBlock = some k) X w' := Chg.of_grown hg (fun k hk => hk)
  have hp : w'.heap[p]? = X.heap[p]? := hc.block p h.lt h.sp
  have hne : ¬ g = p := by
    rcases hw with hw | hw
    · intro e; exact h.sp (by rw [hw, e])
    · have := h.lt; omega
  have c2 : Chg (fun k => k = p) w' (w'.setCell ⟨p, 1, none⟩ v') := Chg.setCell (S := fun k => k = p) (Chg.refl _ w') (p := ⟨p, 1, none⟩) rfl v'
  refine ⟨⟨?_, ?_, ?_, ?_⟩, ?_⟩
  · simp [World.setCell, Array.getElem?_modify, hp, h.at_]
  · exact owns_chg (owns_chg h.nm (fun k hk hk' => own_apart (by decide) h.nm h.st k hk hk') hc) (fun k hk e => h.np (by rw [← e]; exact hk)) c2
  · have := owns_chg ho (fun k hk e => by rw [hv] at hk; simp [Value.ownBlock] at hk; exact hne (by rw [hk, e])) c2
    rw [stF_snoc]
    simpa using this
  · refine (h.mp.chg hc (fun k hk hk' => map_row h.mp h.st k hk' hk)).chg c2 (fun k hk e => ?_)
    exact map_cells h.mp h.at_ (by rw [← e]; exact hk)
  · exact (hc.mono (fun k hk _ => .inr (.inr (.inl hk)))).trans c2 (fun k hk _ => .inl hk)
/-- behind a store into the map -/
theorem T3.put {p b : Nat} {X w' : World} {A B C : List (List UInt8)} {nv sv : Value} {D : DataW Unit} {x : List UInt8} (h : T3 p X A B C nv sv (.map (some b))) (hg : X.grownBy w' (some b)) (ho : w'.ownsMap Try.prog 9 PE b (C.length + 1) D) (hm : MapIs D (C ++ [x])) :
    T3 p w' A B (C ++ [x]) nv sv (.map (some b)) ∧ Chg (fp p nv sv (.map (some b))) X w' := by
  have hc : Chg (fun k => k = b) X w' := Chg.of_grown hg (fun k hk => by cases hk; rfl)
  refine ⟨⟨?_, ?_, ?_, ?_⟩, hc.mono (fun k hk _ => .inr (.inr (.inr (by rw [hk]; rfl))))⟩
  · exact (hc.block p h.lt (fun e => map_cells h.mp h.at_ (by rw [e]; rfl))).trans h.at_
  · exact owns_chg h.nm (fun k hk e => map_row h.mp h.nm k hk (by rw [e]; rfl)) hc
  · exact owns_chg h.st (fun k hk e => map_row h.mp h.st k hk (by rw [e]; rfl)) hc
  · exact .inr ⟨b, D, rfl, by simpa using ho, hm⟩
/-- behind the making of the map -/
theorem T3.made {p : Nat} {w : World} {A B : List (List UInt8)} {nv sv : Value} (h : T3 p w A B [] nv sv (.map none)) :
    T3 p ((w.alloc (.map #[] 0)).setCell ⟨p, 2, none⟩ (.map (some w.heap.size))) A B [] nv sv (.map (some w.heap.size)) ∧ Chg (fp p nv sv (.map none)) w ((w.alloc (.map #[] 0)).setCell ⟨p, 2, none⟩ (.map (some w.heap.size))) := by
  have h1 := h.out ((Out.refl w).alloc (.map #[] 0))
  have hm := World.ownsMap_made w Try.prog 9 PE
  generalize hX : w.alloc (.map #[] 0) = X at *
  have c2 : Chg (fun k => k = p) X (X.setCell ⟨p, 2, none⟩ (.map (some w.heap.size))) := Chg.setCell (S := fun k => k = p) (Chg.refl _ X) (p := ⟨p, 2, none⟩) rfl _
  have hlt := h.lt
  refine ⟨⟨?_, ?_, ?_, ?_⟩, ?_⟩
  · simp [World.setCell, Array.getElem?_modify, h1.at_]
  · exact owns_chg h1.nm (fun k hk e => h1.np (by rw [← e]; exact hk)) c2
  · exact owns_chg h1.st (fun k hk e => h1.sp (by rw [← e]; exact hk)) c2
  · exact .inr ⟨w.heap.size, .map [], rfl, hm.setCell (a := ⟨p, 2, none⟩) (by show w.heap.size ≠ p; omega) _, MapIs.nil⟩
  · rw [← hX]
    exact Chg.setCell ((Chg.refl _ w).alloc _) (p := ⟨p, 2, none⟩) (.inl rfl) _
end Go.Proofs.Ytlfcjbeldnkkoaa
namespace Go.Proofs
open Go.Shelf
def Try.lays137_ren : Go.Shelf.Ren := ⟨fun | 137 => 90 | 217 => 94 | 266 => 95 | n => n, fun | 9 => 9 | 5 => 5 | 3 => 3 | n => n, fun | n => n⟩
theorem Try.lays137 : Go.Proofs.Lays.n137 Try.prog Try.lays137_ren := {
  mixed := by kernel_rfl
  f137 := Try.func90.trans (congrArg some (by kernel_rfl))
  f217 := Try.func94.trans (congrArg some (by kernel_rfl))
  f266 := Try.func95.trans (congrArg some (by kernel_rfl))
  t3 := Try.underlying3
  a3 := Try.isAgg3
  z3 := Try.sizeOf3
  v3 := Try.zeroValue3
  t5 := Try.underlying5
  a5 := Try.isAgg5
  z5 := Try.sizeOf5
  v5 := Try.zeroValue5
  t9 := Try.underlying9
  a9 := Try.isAgg9
  z9 := Try.sizeOf9
  v9 := Try.zeroValue9 }
open Go.RowKit in
theorem Try.strings_IndexByte (s : ByteArray) (c : Int) (w : World) :
    Calls Try.prog 90 #[.string s, .int .u8 c] w fun e w' => e = .returned (.int .i64 (Lib.indexByte s.data.toList c.toNat.toUInt8)) ∧ w' = w := Any.strings_IndexByte Try.lays137 s c w
def Try.lays215_ren : Go.Shelf.Ren := ⟨fun | 215 => 93 | n => n, fun | 3 => 3 | 4 => 4 | n => n, fun | n => n⟩
theorem Try.lays215 : Go.Proofs.Lays.n215 Try.prog Try.lays215_ren := {
  mixed := by kernel_rfl
  f215 := Try.func93.trans (congrArg some (by kernel_rfl))
  t3 := Try.underlying3
  a3 := Try.isAgg3
  z3 := Try.sizeOf3
  v3 := Try.zeroValue3
  t4 := Try.underlying4
  a4 := Try.isAgg4
  z4 := Try.sizeOf4
  v4 := Try.zeroValue4 }
open Go.RowKit in
theorem Try.cmp_isNaN_int (x : Int) (w : World) :
    Calls Try.prog 93 #[.int .i64 x] w fun e w' => e = .returned (.bool false) ∧ w' = w := Any.cmp_isNaN_int Try.lays215 x w
def Try.laysM316_ren : Go.Shelf.Ren := ⟨fun | 316 => 91 | n => n, fun | 9 => 9 | 3 => 3 | 4 => 4 | 37 => 24 | 0 => 0 | 127 => 142 | 5 => 5 | n => n, fun | n => n⟩
theorem Try.laysM316 : Go.Proofs.LaysM.n316 Try.prog Try.laysM316_ren := {
  mixed := by kernel_rfl
  f316 := Try.func91.trans (congrArg some (by kernel_rfl))
  t0 := Try.underlying0
  a0 := Try.isAgg0
  z0 := Try.sizeOf0
  v0 := Try.zeroValue0
  t3 := Try.underlying3
  a3 := Try.isAgg3
  z3 := Try.sizeOf3
  v3 := Try.zeroValue3
  t4 := Try.underlying4
  a4 := Try.isAgg4
  z4 := Try.sizeOf4
  v4 := Try.zeroValue4
  t9 := Try.underlying9
  a9 := Try.isAgg9
  z9 := Try.sizeOf9
  v9 := Try.zeroValue9
  t37 := Try.underlying24
  a37 := Try.isAgg24
  z37 := Try.sizeOf24
  v37 := Try.zeroValue24
  t127 := Try.underlying142
  a127 := Try.isAgg142
  z127 := Try.sizeOf142
  v127 := Try.zeroValue142
  t5 := Try.underlying5
  a5 := Try.isAgg5
  z5 := Try.sizeOf5
  v5 := Try.zeroValue5
  i0 := by kernel_rfl
  i3 := by kernel_rfl
  i4 := by kernel_rfl
  i5 := by kernel_rfl
  i9 := by kernel_rfl
  i37 := by kernel_rfl
  i127 := by kernel_rfl }
open Go.RowKit in
theorem Try.stringslite_Clone (s : ByteArray) (w : World) (hlim : s.size ≤ 281474976710656) :
    Calls Try.prog 91 #[.string s] w fun e w' => e = .returned (.string s) ∧ Below w.heap.size w w' := Any.stringslite_Clone Try.laysM316 s w hlim
def Try.lays217_ren : Go.Shelf.Ren := ⟨fun | 217 => 94 | 266 => 95 | n => n, fun | 9 => 9 | 5 => 5 | 3 => 3 | n => n, fun | n => n⟩
theorem Try.lays217 : Go.Proofs.Lays.n217 Try.prog Try.lays217_ren := {
  mixed := by kernel_rfl
  f217 := Try.func94.trans (congrArg some (by kernel_rfl))
  f266 := Try.func95.trans (congrArg some (by kernel_rfl))
  t3 := Try.underlying3
  a3 := Try.isAgg3
  z3 := Try.sizeOf3
  v3 := Try.zeroValue3
  t5 := Try.underlying5
  a5 := Try.isAgg5
  z5 := Try.sizeOf5
  v5 := Try.zeroValue5
  t9 := Try.underlying9
  a9 := Try.isAgg9
  z9 := Try.sizeOf9
  v9 := Try.zeroValue9 }
open Go.RowKit Go.Lib in
theorem Try.stringslite_IndexByte (s : ByteArray) (c : Int) (w : World) :
    Calls Try.prog 94 #[.string s, .int .u8 c] w fun e w' => e = .returned (.int .i64 (Lib.indexByte s.data.toList c.toNat.toUInt8)) ∧ w' = w := Any.stringslite_IndexByte Try.lays217 s c w
def Try.laysNm237_ren : Go.Shelf.Ren := ⟨fun | 37 => 93 | n => n, fun | 3 => 3 | 4 => 4 | n => n, fun | n => n⟩
theorem Try.laysNm237 : Go.Proofs.Lays2.n37 Try.prog Try.laysNm237_ren := {
  mixed := by kernel_rfl
  f37 := Try.func93.trans (congrArg some (by kernel_rfl))
  t3 := Try.underlying3
  a3 := Try.isAgg3
  z3 := Try.sizeOf3
  v3 := Try.zeroValue3
  t4 := Try.underlying4
  a4 := Try.isAgg4
  z4 := Try.sizeOf4
  v4 := Try.zeroValue4 }
open Go.RowKit Go.Lib in
theorem Try.cmp_isNaN_int2 (x : Int) (w : World) :
    Calls Try.prog 93 #[.int .i64 x] w fun e w' => e = .returned (.bool false) ∧ w' = w := Any.cmp_isNaN_int2 Try.laysNm237 x w
def Try.laysNm232_ren : Go.Shelf.Ren := ⟨fun | 32 => 89 | n => n, fun | 3 => 3 | 4 => 4 | n => n, fun | n => n⟩
theorem Try.laysNm232 : Go.Proofs.Lays2.n32 Try.prog Try.laysNm232_ren := {
  mixed := by kernel_rfl
  f32 := Try.func89.trans (congrArg some (by kernel_rfl))
  t3 := Try.underlying3
  a3 := Try.isAgg3
  z3 := Try.sizeOf3
  v3 := Try.zeroValue3
  t4 := Try.underlying4
  a4 := Try.isAgg4
  z4 := Try.sizeOf4
  v4 := Try.zeroValue4 }
open Go.RowKit Go.Lib in
theorem Try.slices_isNaN_int2 (x : Int) (w : World) :
    Calls Try.prog 89 #[.int .i64 x] w fun e w' => e = .returned (.bool false) ∧ w' = w := Any.slices_isNaN_int2 Try.laysNm232 x w
def Try.laysNm231_ren : Go.Shelf.Ren := ⟨fun | 31 => 88 | 37 => 93 | n => n, fun | 3 => 3 | 4 => 4 | n => n, fun | n => n⟩
theorem Try.laysNm231 : Go.Proofs.Lays2.n31 Try.prog Try.laysNm231_ren := {
  mixed := by kernel_rfl
  f31 := Try.func88.trans (congrArg some (by kernel_rfl))
  f37 := Try.func93.trans (congrArg some (by kernel_rfl))
  t3 := Try.underlying3
  a3 := Try.isAgg3
  z3 := Try.sizeOf3
  v3 := Try.zeroValue3
  t4 := Try.underlying4
  a4 := Try.isAgg4
  z4 := Try.sizeOf4
  v4 := Try.zeroValue4 }
open Go.RowKit Go.Lib in
theorem Try.cmp_Less_int2 (x y : Int) (w : World) :
    Calls Try.prog 88 #[.int .i64 x, .int .i64 y] w fun e w' => e = .returned (.bool (decide (x < y))) ∧ w' = w := Any.cmp_Less_int2 Try.laysNm231 x y w
def Try.laysNm225_ren : Go.Shelf.Ren := ⟨fun | 25 => 76 | 31 => 88 | 32 => 89 | 37 => 93 | n => n, fun | 22 => 30 | 3 => 3 | 4 => 4 | 40 => 122 | 0 => 0 | n => n, fun | n => n⟩
theorem Try.laysNm225 : Go.Proofs.Lays2.n25 Try.prog Try.laysNm225_ren := {
  mixed := by kernel_rfl
  f25 := Try.func76.trans (congrArg some (by kernel_rfl))
  f31 := Try.func88.trans (congrArg some (by kernel_rfl))
  f32 := Try.func89.trans (congrArg some (by kernel_rfl))
  f37 := Try.func93.trans (congrArg some (by kernel_rfl))
  t0 := Try.underlying0
  a0 := Try.isAgg0
  z0 := Try.sizeOf0
  v0 := Try.zeroValue0
  t3 := Try.underlying3
  a3 := Try.isAgg3
  z3 := Try.sizeOf3
  v3 := Try.zeroValue3
  t4 := Try.underlying4
  a4 := Try.isAgg4
  z4 := Try.sizeOf4
  v4 := Try.zeroValue4
  t22 := Try.underlying30
  a22 := Try.isAgg30
  z22 := Try.sizeOf30
  v22 := Try.zeroValue30
  t40 := Try.underlying122
  a40 := Try.isAgg122
  z40 := Try.sizeOf122
  v40 := Try.zeroValue122 }
open Go.RowKit Go.Lib in
theorem Try.slices_BinarySearch_int (b off n c : Nat) (zs : List Int) (x : Int) (w : World) (hz : n ≤ zs.length) (hbig : n < 4611686018427387904) (hc : ∀ j, j < zs.length → w.cell? ⟨b, off + j, none⟩ = some (.int .i64 (zs.getD j 0))) (hs : (zs.take n).Pairwise (· ≤ ·)) :
    Calls Try.prog 76 #[.slice (some ⟨b, off, none⟩) n c, .int .i64 x] w fun e w' => e = .returned (.tuple #[.int .i64 ((zs.take n).countP (· < x) : Nat), .bool ((zs.take n).contains x)]) ∧ ∃ q, w' = w.drewN q := Any.slices_BinarySearch_int Try.laysNm225 b off n c zs x w hz hbig hc hs
open Go.RowKit Go.Lib in
theorem Try.slices_BinarySearch_int_empty (a : Option Addr) (c : Nat) (x : Int) (w : World) :
    Calls Try.prog 76 #[.slice a 0 c, .int .i64 x] w fun e w' => e = .returned (.tuple #[.int .i64 0, .bool false]) ∧ w' = w := Any.slices_BinarySearch_int_empty Try.laysNm225 a c x w
def Try.lays187_ren : Go.Shelf.Ren := ⟨fun | 187 => 87 | 255 => 92 | n => n, fun | 37 => 24 | 5 => 5 | 3 => 3 | n => n, fun | n => n⟩
theorem Try.lays187 : Go.Proofs.Lays.n187 Try.prog Try.lays187_ren := {
  mixed := by kernel_rfl
  f187 := Try.func87.trans (congrArg some (by kernel_rfl))
  f255 := Try.func92.trans (congrArg some (by kernel_rfl))
  t3 := Try.underlying3
  a3 := Try.isAgg3
  z3 := Try.sizeOf3
  v3 := Try.zeroValue3
  t5 := Try.underlying5
  a5 := Try.isAgg5
  z5 := Try.sizeOf5
  v5 := Try.zeroValue5
  t37 := Try.underlying24
  a37 := Try.isAgg24
  z37 := Try.sizeOf24
  v37 := Try.zeroValue24 }
open Go.RowKit Go.Lib in
theorem Try.bytes_IndexByte_at (a : Addr) (n c : Nat) (xs : List Int) (cv : Int) (w : World) (hx : xs.length = n) (hc : ∀ i, i < n → w.cell? (a.add i) = some (.int .u8 (xs.getD i 0))) :
    Calls Try.prog 87 #[.slice (some a) n c, .int .u8 cv] w fun e w' => e = .returned (.int .i64 (Lib.indexByte (Lib.bytesOf xs) cv.toNat.toUInt8)) ∧ w' = w := Any.bytes_IndexByte_at Try.lays187 a n c xs cv w hx hc
open Go.Proofs Go.RowKit Go.Lib in
theorem Try.bytes_IndexByte_bytes (b o cap : Nat) (t : ByteArray) (cv : Int) (w : World) (hc : Lib.Bytes w b o t) :
    Calls Try.prog 87 #[.slice (some ⟨b, o, none⟩) t.size cap, .int .u8 cv] w fun e w' => e = .returned (.int .i64 (Lib.indexByte t.data.toList cv.toNat.toUInt8)) ∧ w' = w := Any.bytes_IndexByte_bytes Try.lays187 b o cap t cv w hc
def Try.laysSlK4_ren : Go.Shelf.Ren := ⟨fun | 4 => 54 | n => n, fun | 22 => 24 | 4 => 4 | 5 => 5 | n => n, fun | n => n⟩
theorem Try.laysSlK4 : Go.Proofs.SlLaysK.n4 Try.prog Try.laysSlK4_ren := {
  mixed := by kernel_rfl
  f4 := Try.func54.trans (congrArg some (by kernel_rfl))
  t4 := Try.underlying4
  a4 := Try.isAgg4
  z4 := Try.sizeOf4
  v4 := Try.zeroValue4
  t22 := Try.underlying24
  a22 := Try.isAgg24
  z22 := Try.sizeOf24
  v22 := Try.zeroValue24
  t5 := Try.underlying5
  i5 := by kernel_rfl }
open Go.RowKit Go.Lib in
theorem Try.bytes_Clone_at (a : Addr) (n c : Nat) (xs : List Int) (w : World) (hx : xs.length = n) (hbig : n ≤ 140737488355328) (hc : ∀ i, i < n → w.cell? (a.add i) = some (.int .u8 (xs.getD i 0))) :
    Calls Try.prog 54 #[.slice (some a) n c] w fun e w' => ∃ v', e = .returned v' ∧ w'.ownsRow w.heap.size 5 1 v' n (xs.map (Value.int .u8)) ∧ v' ≠ .slice none 0 0 ∧ Below w.heap.size w w' := Any.bytes_Clone_at Try.laysSlK4 a n c xs w hx hbig hc
open Go.RowKit Go.Lib in
theorem Try.bytes_Clone_nil (n c : Nat) (w : World) :
    Calls Try.prog 54 #[.slice none n c] w fun e w' => e = .returned (.slice none 0 0) ∧ w' = w := Any.bytes_Clone_nil Try.laysSlK4 n c w
theorem Try.bytes_IndexByte (b o n c : Nat) (xs : List Int) (cv : Int) (w : World) (hx : xs.length = n) (hc : ∀ i, i < n → w.cell? ⟨b, o + i, none⟩ = some (.int .u8 (xs.getD i 0))) :
    Calls Try.prog 87 #[.slice (some ⟨b, o, none⟩) n c, .int .u8 cv] w fun e w' => e = .returned (.int .i64 (Lib.indexByte (Lib.bytesOf xs) cv.toNat.toUInt8)) ∧ w' = w := Any.bytes_IndexByte Try.lays187 b o n c xs cv w hx hc
theorem Try.bytes_IndexByte_nil (cv : Int) (w : World) :
    Calls Try.prog 87 #[.slice none 0 0, .int .u8 cv] w fun e w' => e = .returned (.int .i64 (-1)) ∧ w' = w := Any.bytes_IndexByte_nil Try.lays187 cv w
end Go.Proofs
