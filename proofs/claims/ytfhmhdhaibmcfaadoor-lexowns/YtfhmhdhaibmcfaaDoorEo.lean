import Derived.Test.YtfhmhdhaibmcfaaDoorEj
import Derived.Test.YtfhmhdhaibmcfaaDoorEs
namespace Go.Proofs.YtfhmhdhaibmcfaaDoor
open Go.RowKit
set_option linter.unusedVariables false
set_option linter.unusedSimpArgs false
theorem bldSize : (Tryd.prog.info? 70).map (·.size) = some 2 := Tryd.Builder_Extra_169.sizeBuilder
theorem wrtLies : liesAt Tryd.prog Tryd.prog.depth 72 (4 / Tryd.prog.cellsOf 72) 0 70 1 = true := by kernel_rfl
set_option maxRecDepth 100000 in
set_option maxHeartbeats 1000000 in
theorem chk_used (b : Nat) (w : World) (h0 : w.cell? ⟨b, 0, none⟩ = some (.pointer (some ⟨b, 0, none⟩))) : Calls Tryd.prog 78 #[.pointer (some ⟨b, 0, none⟩)] w fun e w' => e = .returned (.tuple #[]) ∧ w' = w := by
  obtain ⟨j, hj, _⟩ := Option.map_eq_some_iff.1 bldSize
  go_enter Tryd.func78, Tryd.ntmps78
  go_wp2
  rw [Lib.run_neq_ptr_same w _ Tryd.underlying68 hj]
  go_wp2
  go_end0
  exact ⟨rfl, rfl⟩
set_option maxRecDepth 100000 in
set_option maxHeartbeats 1000000 in
theorem chk_new (b : Nat) (w : World) (h0 : w.cell? ⟨b, 0, none⟩ = some (.pointer none)) (hs : w.shape? b = some (72, 4)) (hf : w.frozen? ⟨b, 0, none⟩ = false) : Calls Tryd.prog 78 #[.pointer (some ⟨b, 0, none⟩)] w fun e w' => e = .returned (.tuple #[]) ∧ w' = w.setCell ⟨b, 0, none⟩ (.pointer (some ⟨b, 0, none⟩)) := by
  obtain ⟨j, hj, hj2⟩ := Option.map_eq_some_iff.1 bldSize
  go_enter Tryd.func78, Tryd.ntmps78
  go_wp2
  rw [Lib.run_to_unsafe w ⟨b, 0, none⟩ Tryd.underlying68 Tryd.underlying126 hj (by rw [hj2]; decide) hs (Nat.zero_lt_succ 3)]
  simp only [Result.andThen]
  rw [Oper.upon_value]
  go_wp2
  rw [run_callFunc_extern Tryd.func94 (by kernel_rfl) (by kernel_rfl) (by kernel_rfl) (e := Extern.AbiNoEscape.same) (by kernel_rfl), Lib.run_noEscape]
  simp only [Result.andThen]
  rw [Oper.upon_value]
  go_wp2
  rw [Lib.run_from_unsafe w ⟨b, 0, none⟩ Tryd.underlying126 Tryd.underlying68 hj hs wrtLies]
  simp only [Result.andThen]
  rw [Oper.upon_value]
  go_wp2
  go_end0
  exact ⟨rfl, rfl⟩
/-- the writer's block: its builder, how much was to be written, how much on the line -/
structure Wr (N p : Nat) (w : World) (l : List UInt8) (size line : Nat) (ad bv : Value) : Prop where
  le : N ≤ p
  at_ : w.heap[p]? = some (.cells #[ad, bv, .int .i64 size, .int .i64 line] 72 (0, 0))
  ad_ : ad = .pointer none ∨ ad = .pointer (some ⟨p, 0, none⟩)
  own : w.ownsRow N 5 1 bv l.length (Lib.byteCells l)
  ne : ∀ k, bv.ownBlock = some k → ¬ k = p
  nil_ : l = [] → bv = .slice none 0 0
theorem Wr.cell {N p : Nat} {w : World} {l : List UInt8} {a b : Nat} {ad bv : Value} (h : Wr N p w l a b ad bv) (j : Nat) : w.cell? ⟨p, j, none⟩ = (#[ad, bv, .int .i64 a, .int .i64 b] : Array Value)[j]? := by simp [World.cell?, h.at_]
theorem Wr.frozen {N p : Nat} {w : World} {l : List UInt8} {a b : Nat} {ad bv : Value} (h : Wr N p w l a b ad bv) (j : Nat) : w.frozen? ⟨p, j, none⟩ = false := by simp [World.frozen?, h.at_]
theorem Wr.lt {N p : Nat} {w : World} {l : List UInt8} {a b : Nat} {ad bv : Value} (h : Wr N p w l a b ad bv) : p < w.heap.size := (Array.getElem?_eq_some_iff.1 h.at_).1
theorem Wr.base {N p : Nat} {w : World} {l : List UInt8} {a b : Nat} {ad bv : Value} (h : Wr N p w l a b ad bv) : N ≤ w.heap.size := by have := h.lt; have := h.le; omega
theorem Wr.out {N p : Nat} {w w' : World} {l : List UInt8} {a b : Nat} {ad bv : Value} (h : Wr N p w l a b ad bv) (o : Out w w') : Wr N p w' l a b ad bv := ⟨h.le, (o.block p h.lt).trans h.at_, h.ad_, owns_chg (S := fun _ => False) h.own (fun _ _ h => h) (Chg.of_out o), h.ne, h.nil_⟩
theorem Wr.set2 {N p : Nat} {w : World} {l : List UInt8} {a b : Nat} {ad bv : Value} (h : Wr N p w l a b ad bv) (a' : Nat) : Wr N p (w.setCell ⟨p, 2, none⟩ (.int .i64 a')) l a' b ad bv :=
  ⟨h.le, by simp [World.setCell, Array.getElem?_modify, h.at_], h.ad_, owns_chg (S := fun k => k = p) h.own h.ne (Chg.setCell (S := fun k => k = p) (Chg.refl _ w) (p := ⟨p, 2, none⟩) rfl _), h.ne, h.nil_⟩
theorem Wr.set3 {N p : Nat} {w : World} {l : List UInt8} {a b : Nat} {ad bv : Value} (h : Wr N p w l a b ad bv) (b' : Nat) : Wr N p (w.setCell ⟨p, 3, none⟩ (.int .i64 b')) l a b' ad bv :=
  ⟨h.le, by simp [World.setCell, Array.getElem?_modify, h.at_], h.ad_, owns_chg (S := fun k => k = p) h.own h.ne (Chg.setCell (S := fun k => k = p) (Chg.refl _ w) (p := ⟨p, 3, none⟩) rfl _), h.ne, h.nil_⟩
theorem Wr.set0 {N p : Nat} {w : World} {l : List UInt8} {a b : Nat} {ad bv : Value} (h : Wr N p w l a b ad bv) : Wr N p (w.setCell ⟨p, 0, none⟩ (.pointer (some ⟨p, 0, none⟩))) l a b (.pointer (some ⟨p, 0, none⟩)) bv :=
  ⟨h.le, by simp [World.setCell, Array.getElem?_modify, h.at_], .inr rfl, owns_chg (S := fun k => k = p) h.own h.ne (Chg.setCell (S := fun k => k = p) (Chg.refl _ w) (p := ⟨p, 0, none⟩) rfl _), h.ne, h.nil_⟩
theorem chk_any (N p : Nat) (w : World) (l : List UInt8) (a b : Nat) (ad bv : Value) (h : Wr N p w l a b ad bv) : Calls Tryd.prog 78 #[.pointer (some ⟨p, 0, none⟩)] w fun e w' => e = .returned (.tuple #[]) ∧ Wr N p w' l a b (.pointer (some ⟨p, 0, none⟩)) bv ∧ Below N w w' := by
  rcases h.ad_ with rfl | rfl
  · exact (chk_new p w (h.cell 0) (by simp [World.shape?, h.at_]) (h.frozen 0)).mono fun e w' ⟨he, hw⟩ => ⟨he, hw ▸ h.set0, hw ▸ Below.set_own (Below.refl N w) h.le _⟩
  · exact (chk_used p w (h.cell 0)).mono fun e w' ⟨he, hw⟩ => ⟨he, hw ▸ h, hw ▸ Below.refl N _⟩
set_option maxRecDepth 100000 in
set_option maxHeartbeats 2000000 in
theorem write_any (N p : Nat) (w : World) (l : List UInt8) (a b : Nat) (ad bv : Value) (t : List UInt8) (h : Wr N p w l a b ad bv) (hlen : l.length + t.length ≤ 100000000) :
    Calls Tryd.prog 64 #[.pointer (some ⟨p, 0, none⟩), .string ⟨t.toArray⟩] w fun e w' => (∃ v, e = .returned v) ∧ (∃ ad' bv', Wr N p w' (l ++ t) a b ad' bv') ∧ Below N w w' := by
  obtain ⟨i0, hi, hz0, hz1, hz2⟩ := info_parts (show (Tryd.prog.info? 5).map (fun i => (i.zero, i.size, i.bytes)) = some (some (.int .u8 0), 1, 1) from Tryd.Builder_Extra_169.infoByte)
  have CK := hidOf (chk_any N p w l a b ad bv h)
  have hts : (⟨t.toArray⟩ : ByteArray).size = t.length := mk_size t
  have hN0 := h.base
  clear h
  go_enter Tryd.func64, Tryd.ntmps64
  go_wp2_with (go_at_call 78; refine CK.out.mono ?_)
  rintro e w1 ⟨rfl, hW, hb1⟩
  have hsz := hb1.size
  have c1 : w1.cell? ⟨p, 1, none⟩ = some bv := hW.cell 1
  have hlt : p < w1.heap.size := hW.lt
  have hNw := hW.base
  go_wp2_with (at_builtin; refine Lib.wpList_append_own_string _ rfl _ _ 22 9 rfl N 5 i0 Tryd.underlying22 Tryd.underlying9 hi hz0 hz1 hz2 bv l.length (Lib.byteCells l) rfl hW.own ⟨t.toArray⟩ rfl (by unfold maxLen; omega) (by omega) hNw ?_)
  intro v' w2 hown' hgrow hiff
  have hb2 : w2.heap[p]? = some (.cells #[.pointer (some ⟨p, 0, none⟩), bv, .int .i64 a, .int .i64 b] 72 (0, 0)) := (hgrow.block p hlt (fun e => hW.ne p e.symm rfl)).trans hW.at_
  have d1 : w2.cell? ⟨p, 1, none⟩ = some bv := by rw [Lib.cell_of_heap hb2]; rfl
  have f1 : w2.frozen? ⟨p, 1, none⟩ = false := Lib.frozen_of_heap hb2 1
  have HW := hidOf (Below.set_own (j := 1) (Below.of_grown hb1 hN0 hgrow (own_le hW.own)) hW.le v')
  have hne2 : ∀ k, v'.ownBlock = some k → ¬ k = p := fun k hk e => by
    subst e
    rcases hown'.2 with ⟨hv, _⟩ | ⟨g, cap, cur, hv, _, hg, _⟩
    · rw [hv] at hk; cases hk
    · rw [hv] at hk
      simp [Value.ownBlock] at hk
      subst hk
      rw [hb2] at hg
      simp at hg
  have hst : Lib.strCells ⟨t.toArray⟩ = Lib.byteCells t := by simp [Lib.strCells, Lib.byteCells]
  rw [hst] at hown'
  have hbl : Lib.byteCells l ++ Lib.byteCells t = Lib.byteCells (l ++ t) := by simp [Lib.byteCells]
  rw [hbl, show l.length + t.length = (l ++ t).length from by simp] at hown'
  have hnil2 : l ++ t = [] → v' = .slice none 0 0 := fun h0 => by
    obtain ⟨h1, h2⟩ := List.append_eq_nil_iff.1 h0
    exact hiff.2 ⟨hW.nil_ h1, by first | exact h2 | simp [h2]⟩
  have HN : Hid (Wr N p (w2.setCell ⟨p, 1, none⟩ v') (l ++ t) a b (.pointer (some ⟨p, 0, none⟩)) v') := ⟨hW.le, by simp [World.setCell, Array.getElem?_modify, hb2], .inr rfl, owns_chg (S := fun k => k = p) hown' hne2 (Chg.setCell (S := fun k => k = p) (Chg.refl _ w2) (p := ⟨p, 1, none⟩) rfl _), hne2, hnil2⟩
  obtain ⟨ao, cp, rfl⟩ : ∃ ao cp, v' = .slice ao (l.length + t.length) cp := by have := own_form hown'; rw [List.length_append] at this; exact this
  clear hown' hgrow hb2 hne2 hnil2 hiff hW hb1 c1 hbl hst
  go_wp2
  go_ret2
  exact ⟨⟨_, rfl⟩, ⟨_, _, HN.out⟩, HW.out⟩
end Go.Proofs.YtfhmhdhaibmcfaaDoor
