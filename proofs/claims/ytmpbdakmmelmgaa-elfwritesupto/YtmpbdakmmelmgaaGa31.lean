import Derived.Test.YtmpbdakmmelmgaaGa30
namespace Go.Proofs.Ytmpbdakmmelmgaa
open Go.RowKit
set_option linter.unusedVariables false
set_option linter.unusedSimpArgs false
def pcs (K : List (List UInt8)) : List Int := K.map (fun y => (plF 1 (namesF K) y : Int))
/-- amid the names: the list, the names, their places -/
structure W1 (w wr : World) (lv nv pv : Value) (M : List SV) (K : List (List UInt8)) : Prop where
  out : Out w wr
  li : OwV w.heap.size lv M wr
  nm : OwT w.heap.size nv (namesF K) wr
  pl : OwI w.heap.size pv (pcs K) wr
theorem W1.name {w wr w' : World} {lv nv nv' pv : Value} {M : List SV} {K : List (List UInt8)} {N : List (List UInt8)} (h : W1 w wr lv nv pv M K) (a : AppT w.heap.size wr w' nv nv' N) : Out w w' ∧ OwV w.heap.size lv M w' ∧ OwI w.heap.size pv (pcs K) w' :=
  ⟨Chg.out a.chg h.out (fun k hk => (World.ownsRow.lt h.nm k hk).1), own_other h.li h.nm (by decide) a.chg, own_other h.pl h.nm (by decide) a.chg⟩
/-- a section's data, to be read and to be appended -/
def DRc (w : World) (x : SV) : Prop := DR w x ∧ (x.da = none → x.dc = 0)
theorem DRc.out {w w' : World} {x : SV} (h : DRc w x) (o : Out w w') : DRc w' x := ⟨h.1.out o, h.2⟩
theorem tabD_pos (ss : List Sec) : 0 < (tabD ss).length := by simp [tabD, byP]
/-- the names' bytes are stored -/
theorem W1.store {w wr w5 : World} {g k c3 cp tc : Nat} {nv : Value} {ap ta : Option Addr} {L : List SV} {K : List (List UInt8)} (h : W1 w wr (.slice (some ⟨g, 0, none⟩) k c3) nv (.slice ap k cp) (L ++ [t0]) K) (o : Out wr w5) (T5 : OwB wr.heap.size (.slice ta (tabD (secs L)).length tc) (tabD (secs L)) w5) (hD : ∀ x ∈ L, DRc w x) :
    Out w (w5.setCell ⟨g, L.length * 8 + 7, none⟩ (.slice ta (tabD (secs L)).length tc)) ∧ OwV w.heap.size (.slice (some ⟨g, 0, none⟩) k c3) (L ++ [t1 (secs L) ta tc]) (w5.setCell ⟨g, L.length * 8 + 7, none⟩ (.slice ta (tabD (secs L)).length tc)) ∧ OwI w.heap.size (.slice ap k cp) (pcs K) (w5.setCell ⟨g, L.length * 8 + 7, none⟩ (.slice ta (tabD (secs L)).length tc)) ∧ ∀ x ∈ L ++ [t1 (secs L) ta tc], DRc (w5.setCell ⟨g, L.length * 8 + 7, none⟩ (.slice ta (tabD (secs L)).length tc)) x := by
  have li5 : OwV w.heap.size (.slice (some ⟨g, 0, none⟩) k c3) (L ++ [t0]) w5 := own_at h.li o
  obtain ⟨cs, hg⟩ := own_cells9 li5 (b := g) rfl
  have hgN := (World.ownsRow.lt li5 g rfl).1
  have c : Chg (fun b => b = g) w5 (w5.setCell ⟨g, L.length * 8 + 7, none⟩ (.slice ta (tabD (secs L)).length tc)) := Chg.setCell (S := fun b => b = g) (Chg.refl _ w5) (p := ⟨g, L.length * 8 + 7, none⟩) rfl _
  have o6 := Chg.out c (h.out.trans o) (fun b hb => by rw [hb]; exact hgN)
  refine ⟨o6, (li5.setLast (y := t1 (secs L) ta tc) rfl).1, owns_chg (own_at h.pl o) (fun b hb e => own_kind9 (own_at h.pl o) hg (by decide) (by rw [hb, e])) c, fun x hx => ?_⟩
  rcases List.mem_append.1 hx with hx | hx
  · exact (hD x hx).out o6
  · rw [List.mem_singleton.1 hx]
    have T6 : OwB wr.heap.size (.slice ta (tabD (secs L)).length tc) (tabD (secs L)) (w5.setCell ⟨g, L.length * 8 + 7, none⟩ (.slice ta (tabD (secs L)).length tc)) := owns_chg T5 (fun b hb e => own_kind9 T5 hg (by decide) (by rw [hb, e])) c
    obtain ⟨a', c', hv, hcap, hat⟩ := OwB.rest T6
    simp only [Value.slice.injEq] at hv
    obtain ⟨rfl, _, rfl⟩ := hv
    refine ⟨⟨hat, hcap⟩, fun e => ?_⟩
    change ta = none at e
    rcases T6.2 with ⟨_, h0⟩ | ⟨g', cap, cur, e2, _⟩
    · have := tabD_pos (secs L); omega
    · rw [e] at e2; simp at e2
/-- amid the rows: the file so far, the rows so far -/
structure W2 (B wr : World) (ov rv : Value) (O Q : List UInt8) : Prop where
  out : Out B wr
  o : OwB B.heap.size ov O wr
  r : OwB B.heap.size rv Q wr
  ne : ∀ b, ov.ownBlock = some b → ¬ rv.ownBlock = some b
theorem W2.file {B wr w' : World} {ov ov' rv : Value} {O O' Q : List UInt8} (h : W2 B wr ov rv O Q) (a : AppB B.heap.size wr w' ov ov' O') : W2 B w' ov' rv O' Q :=
  ⟨Chg.out a.chg h.out (fun k hk => (World.ownsRow.lt h.o k hk).1), a.own, owns_chg h.r (fun b hb hs => h.ne b hs hb) a.chg, fun b hb hr => by
    rcases a.blk b hb with e | e
    · exact h.ne b e hr
    · have := (World.ownsRow.lt h.r b hr).2; omega⟩
theorem W2.row {B wr w' : World} {ov rv rv' : Value} {O Q Q' : List UInt8} (h : W2 B wr ov rv O Q) (a : AppB B.heap.size wr w' rv rv' Q') : W2 B w' ov rv' O Q' :=
  ⟨Chg.out a.chg h.out (fun k hk => (World.ownsRow.lt h.r k hk).1), owns_chg h.o (fun b hb hs => h.ne b hb hs) a.chg, a.own, fun b hb hr => by
    rcases a.blk b hr with e | e
    · exact h.ne b hb e
    · have := (World.ownsRow.lt h.o b hb).2; omega⟩
theorem W2.more {B wr w' : World} {ov rv : Value} {O Q : List UInt8} (h : W2 B wr ov rv O Q) (o : Out wr w') : W2 B w' ov rv O Q :=
  ⟨h.out.trans o, own_at h.o o, own_at h.r o, h.ne⟩
theorem W2.start (B : World) : W2 B ((B.alloc (.cells (Lib.byteCells z64).toArray 5)).alloc (.cells (Lib.byteCells z64).toArray 5)) (.slice (some ⟨B.heap.size, 0, none⟩) 64 64) (.slice (some ⟨B.heap.size + 1, 0, none⟩) 64 64) z64 z64 := by
  have hs : (B.alloc (.cells (Lib.byteCells z64).toArray 5)).heap.size = B.heap.size + 1 := size_alloc _ _
  refine ⟨((Out.refl B).alloc _).alloc _, own_at (own_made9 B B.heap.size (Nat.le_refl _)) ((Out.refl _).alloc _), ?_, fun b hb hr => ?_⟩
  · have h := own_made9 (B.alloc (.cells (Lib.byteCells z64).toArray 5)) B.heap.size (by omega)
    rw [hs] at h
    exact h
  · simp [Value.ownBlock] at hb hr
    omega
end Go.Proofs.Ytmpbdakmmelmgaa
namespace Go.Proofs.Ytmpbdakmmelmgaa
open Go.RowKit
set_option linter.unusedVariables false
set_option linter.unusedSimpArgs false
theorem OwB.set9 {B g c n : Nat} {l : List UInt8} {w : World} (h : OwB B (.slice (some ⟨g, 0, none⟩) n c) l w) (k : Nat) (y : UInt8) : OwB B (.slice (some ⟨g, 0, none⟩) n c) (l.set k y) (w.setCell ⟨g, k, none⟩ (.int .u8 (y.toNat : Int))) ∧ w.frozen? ⟨g, k, none⟩ = false ∧ B ≤ g := by
  rcases h.2 with ⟨hv, _⟩ | ⟨g', cap, cur, hv, hb, hg, hc, hm, hs, ht⟩
  · cases hv
  · simp only [Value.slice.injEq, Option.some.injEq, Addr.mk.injEq] at hv
    obtain ⟨⟨rfl, _⟩, rfl, rfl⟩ := hv
    refine ⟨⟨by simp [Lib.byteCells], .inr ⟨g, c, cur.setIfInBounds k (.int .u8 (y.toNat : Int)), by simp, hb, ?_, by simpa using hc, hm, by simpa using hs, ?_⟩⟩, by simp [World.frozen?, hg], hb⟩
    · simp [World.setCell, Array.getElem?_modify, hg]
    · rw [Array.toList_setIfInBounds, List.take_set, List.length_set, ht]
      simp [Lib.byteCells, List.map_set]
theorem OwB.get9 {B n c : Nat} {a : Option Addr} {l : List UInt8} {w : World} (h : OwB B (.slice a n c) l w) {k : Nat} {x : UInt8} (hx : l[k]? = some x) : ∃ g, a = some ⟨g, 0, none⟩ ∧ w.cell? ⟨g, k, none⟩ = some (.int .u8 (x.toNat : Int)) := by
  have hk := (List.getElem?_eq_some_iff.1 hx).1
  rcases h.2 with ⟨_, h0⟩ | ⟨g, cap, cur, e, _⟩
  · omega
  · simp only [Value.slice.injEq] at e
    refine ⟨g, e.1, ?_⟩
    have := World.ownsRow.cells h (g := g) (by rw [e.1]; rfl) k (.int .u8 (x.toNat : Int)) (by simp [Lib.byteCells, hx])
    rw [WideShapes.add_plain, Nat.zero_add] at this
    exact this
theorem W2.put {B wr : World} {g n c : Nat} {rv : Value} {O Q : List UInt8} (h : W2 B wr (.slice (some ⟨g, 0, none⟩) n c) rv O Q) (k : Nat) (y : UInt8) : W2 B (wr.setCell ⟨g, k, none⟩ (.int .u8 (y.toNat : Int))) (.slice (some ⟨g, 0, none⟩) n c) rv (O.set k y) Q := by
  obtain ⟨h1, _, hg⟩ := h.o.set9 k y
  have ch : Chg (fun b => b = g) wr (wr.setCell ⟨g, k, none⟩ (.int .u8 (y.toNat : Int))) := Chg.setCell (S := fun b => b = g) (Chg.refl _ wr) (p := ⟨g, k, none⟩) rfl _
  exact ⟨Chg.out ch h.out (fun b hb => by rw [hb]; exact hg), h1, owns_chg h.r (fun b hb e => h.ne g rfl (by rw [← e]; exact hb)) ch, h.ne⟩
theorem take_drop_set {H P : List UInt8} {j : Nat} {x : UInt8} (hx : H[j]? = some x) (hP : j < P.length) : (H.take j ++ P.drop j).set j x = H.take (j + 1) ++ P.drop (j + 1) := by
  have hl : (H.take j).length = j := by have := (List.getElem?_eq_some_iff.1 hx).1; simp; omega
  rw [List.set_append_right _ _ (by omega), hl, Nat.sub_self, List.drop_eq_getElem_cons hP, List.set_cons_zero, List.take_add_one, hx]
  simp
theorem own_nil0 {B n c : Nat} {a : Option Addr} {l : List UInt8} {w : World} (h : OwB B (.slice a n c) l w) : a = none → c = 0 := fun e => by
  rcases h.2 with ⟨hv, _⟩ | ⟨g, cap, cur, hv, _⟩
  · simp at hv; exact hv.2.2
  · rw [e] at hv; simp at hv
set_option maxRecDepth 20000 in
set_option maxHeartbeats 2000000 in
theorem refWrite9_any (w : World) (a : Option Addr) (c : Nat) (L : List SV) (h : ScAt w.heap.size w a L) (hc : L.length ≤ c) (hc0 : a = none → c = 0) (hok : writeOk (secs L) = true) (hn : ∀ x ∈ L, x.s.nm.length ≤ 1000000000000) (hD : ∀ x ∈ L, DRc w x) (hS : sumD (secs L) ≤ 1000000000000) (hI : ∀ x ∈ L, x.s.fl ≤ 9223372036854775807 ∧ x.s.al ≤ 9223372036854775807 ∧ x.s.es ≤ 9223372036854775807) :
    Calls Try.prog 13 #[.slice a L.length c] w fun e w' => ∃ a' c', e = .returned (.tuple #[.slice a' (writeB (secs L)).length c', .int .i64 0]) ∧ OwB w.heap.size (.slice a' (writeB (secs L)).length c') (writeB (secs L)) w' ∧ Out w w' := by
  obtain ⟨i0, hi, hz0, hz1, hz2⟩ := info_parts infoSc
  obtain ⟨j0, ji, jz0, jz1, jz2⟩ := info_parts infoInt
  have hl16 : L.length ≤ 16 := by
    unfold writeOk at hok
    simp [secs] at hok
    exact hok.1.1
  have HOK := hidOf hok
  have CA : Hid (Calls Try.prog 41 #[.slice a L.length c] w fun e w' => e = .returned (.bool true) ∧ Out w w') := hidOf (by
    have hh := all9_any w a c L h hc (by omega) hn
    rw [allP_ok, hok] at hh
    exact hh)
  have H := hidOf h
  have HD := hidOf hD
  have HI := hidOf hI
  have HNm : Hid (∀ x ∈ nmsOf (L ++ [t0]), nameOk x = true ∧ x.length ≤ 64) := hidOf (by
    have key : ∀ x, nameOk x = true → nameOk x = true ∧ x.length ≤ 64 := fun x hx => ⟨hx, by unfold nameOk at hx; simp at hx; exact hx.1.2⟩
    intro x hx
    simp only [nmsOf, List.map_append, List.mem_append, List.mem_map] at hx
    rcases hx with ⟨y, hy, rfl⟩ | hx
    · refine key _ ?_
      unfold writeOk secs at hok
      simp only [Bool.and_eq_true, List.all_eq_true, List.mem_map, forall_exists_index, and_imp, forall_apply_eq_imp_iff₂] at hok
      exact hok.2 y hy
    · simp [t0] at hx
      subst hx
      exact key _ (by decide))
  clear h hok hn hD hI
  go_enter Try.func13, Try.ntmps13
  go_upto_region 3 with (go_at_call 41; refine CA.out.mono ?_; rintro e w1 ⟨rfl, ho⟩; have O1 := hidOf ho; clear ho)
  have OE : Hid ((w1.alloc (.cells #[] 52)).ownsRow w.heap.size 52 8 (.slice (some ⟨w1.heap.size, 0, none⟩) 0 0) 0 []) := hidOf (own_mk (n := 0) (heap_alloc_new w1 _) O1.out.size rfl (by omega))
  have O1a : Hid (Out w (w1.alloc (.cells #[] 52))) := hidOf (O1.out.alloc _)
  go_upto_region 4 with (first | (at_builtin; go_loud (refine wpList_app_sec rfl (.tmp 18) (.tmp 19) rfl w.heap.size _ a c L (ScAt.out9 H.out O1a.out) hc0 (by omega) w1.heap.size rfl rfl OE.out O1a.out.size ?_); intro a2 c2 w2 hv hg; have V2 := hidOf hv; have O2 : Hid (Out w w2) := hidOf (Chg.out (S := fun b => some w1.heap.size = some b) (Chg.of_grown hg (fun k hk => hk)) O1a.out (fun k hk => by cases hk; exact O1.out.size)); clear hv hg))
  go_upto_region 8 with (first | (at_builtin; go_loud (refine wpList_append_own _ rfl (.tmp 21) (.tmp 23) 24 rfl w.heap.size 52 i0 _ 8 88 Try.underlying24 hi hz0 hz1 hz2 rfl (by decide) (.slice a2 L.length c2) L.length (svV L) rfl (World.ownsRow.alloc V2.out _) ⟨w2.heap.size, 0, none⟩ 1 1 t0.cs rfl rfl (news_new w2 _ _ _ rfl) (svV_one [t0]) (by unfold maxLen; omega) (by omega) (by rw [size_alloc]; have := O2.out.size; omega) ?_); intro v3 w3 hown3 hgrow3 _; have HO3 := hidOf hown3; have Hg3 := hidOf hgrow3; clear hgrow3; obtain ⟨a3, c3, rfl⟩ := own_form hown3; clear hown3))
  have V3 : Hid (OwV w.heap.size (.slice a3 (L.length + 1) c3) (L ++ [t0]) w3) := hidOf (by
    have h3 := HO3.out
    unfold OwV
    rw [svV_app, List.length_append]
    exact h3)
  have O3 : Hid (Out w w3) := hidOf (Chg.out (S := fun b => (Value.slice a2 L.length c2).ownBlock = some b) (Chg.of_grown (show (w2.alloc _).grownBy w3 (Value.slice a2 L.length c2).ownBlock from Hg3.out) (fun k h => h)) (O2.out.alloc _) (fun k hk => (World.ownsRow.lt V2.out k hk).1))
  obtain ⟨g, rfl⟩ : ∃ g, a3 = some ⟨g, 0, none⟩ := by
    rcases V3.out.2 with ⟨_, h0⟩ | ⟨g, cap, cur, e, _⟩
    · simp at h0
    · simp only [Value.slice.injEq] at e; exact ⟨g, e.1⟩
  obtain ⟨M, hM⟩ : ∃ M, M = L ++ [t0] := ⟨_, rfl⟩
  obtain ⟨m, hm⟩ : ∃ m, m = L.length + 1 := ⟨_, rfl⟩
  have HMl : Hid (M.length = m) := hidOf (by rw [hM, hm]; simp)
  rw [← hM] at V3 HNm
  rw [← hm] at V3 ⊢
  have hm17 : m ≤ 17 := by omega
  have HMM := hidOf hM
  have HmL := hidOf hm
  have W0 : Hid (W1 w w3 (.slice (some ⟨g, 0, none⟩) m c3) (.slice none 0 0) (.slice none 0 0) M []) := hidOf ⟨O3.out, V3.out, World.ownsRow_nil _ _ _ _, World.ownsRow_nil _ _ _ _⟩
  clear hM hm HO3 Hg3 V3 O3 V2 O2 OE O1a O1 CA
  go_wp2
  go_loopw [5, 6, 7] (fun nv pv iv wr => ∃ (k : Nat) (an : Option Addr) (cn : Nat) (ap : Option Addr) (cp : Nat), nv = .slice an (namesF ((nmsOf M).take k)).length cn ∧ pv = .slice ap k cp ∧ iv = .int .i64 k ∧ k ≤ m ∧ Hid (W1 w wr (.slice (some ⟨g, 0, none⟩) m c3) (.slice an (namesF ((nmsOf M).take k)).length cn) (.slice ap k cp) M ((nmsOf M).take k))) (fun _ _ iv _ => m - (intOf iv).toNat)
  case atStart => exact ⟨0, none, 0, none, 0, by simp [namesF], rfl, rfl, by omega, by simpa [namesF] using W0⟩
  case round =>
    clear W0
    obtain ⟨k, an, cn, ap, cp, rfl, rfl, rfl, hk, HW⟩ := hrel
    by_cases hkm : k < m
    · have hlt : (k : Int) < m := by omega
      have h0 : (0 : Int) ≤ k := by omega
      obtain ⟨x, hx⟩ : ∃ x, M[k]? = some x := ⟨_, List.getElem?_eq_getElem (by rw [HMl.out]; exact hkm)⟩
      have q := (HW.out.li.cells hx).c0
      have HKs : Hid ((nmsOf M).take (k + 1) = (nmsOf M).take k ++ [x.s.nm]) := hidOf (by
        rw [List.take_add_one]
        have : (nmsOf M)[k]? = some x.s.nm := by simp [nmsOf, hx]
        rw [this]; rfl)
      have HKo : Hid (∀ y ∈ (nmsOf M).take (k + 1), nameOk y = true) := hidOf (fun y hy => (HNm.out y (List.mem_of_mem_take hy)).1)
      have hxl : x.s.nm.length ≤ 64 := (HNm.out x.s.nm (by simp only [nmsOf, List.mem_map]; exact ⟨x, List.mem_of_getElem? hx, rfl⟩)).2
      have HKl : Hid (((nmsOf M).take k).length = k) := hidOf (by simp [nmsOf, HMl.out]; omega)
      have HSz : Hid (szF 1 (namesF ((nmsOf M).take k)) ≤ 2000) := hidOf (by
        have h1 := (namesF_ok ((nmsOf M).take k) (fun y hy => (HNm.out y (List.mem_of_mem_take hy)).1)).2.2.2
        rw [HKl.out] at h1
        omega)
      generalize x.s.nm = nm at *
      generalize hK1 : (nmsOf M).take (k + 1) = K1 at *
      generalize hK0 : (nmsOf M).take k = K at *
      have HK1 := hidOf hK1
      clear hK1 hK0
      have CP := hidOf (place9_any w.heap.size wr an cn (namesF K) (addN (namesF K) nm) nm rfl HW.out.nm HW.out.out.size (by have := HSz.out; omega) (by omega))
      clear hx
      go_upto_region 12 with (go_at_call 42; refine CP.out.mono ?_; rintro e w4 ⟨a4, c4, rfl, ha⟩; have A4 := hidOf ha; clear ha)
      have HA := hidOf (HW.out.name A4.out)
      have hs4 : w.heap.size ≤ w4.heap.size := HA.out.1.size
      have HPL : Hid (w4.ownsRow w.heap.size 3 1 (.slice ap k cp) k ((pcs K).map (Value.int .i64))) := hidOf (by
        have h1 := HA.out.2.2
        have e : (pcs K).length = k := by simp [pcs, HKl.out]
        unfold OwI at h1
        rw [e] at h1
        exact h1)
      have Hn1 : Hid (addN (namesF K) nm = namesF K1) := hidOf (by rw [HKs.out, namesF_snoc])
      go_wp2_with (at_builtin; go_loud (refine wpList_append_own _ rfl (.tmp 42) (.tmp 44) 29 rfl w.heap.size 3 j0 _ 1 8 Try.underlying29 ji jz0 jz1 jz2 rfl (by decide) (.slice ap k cp) k ((pcs K).map (Value.int .i64)) rfl (World.ownsRow.alloc HPL.out _) ⟨w4.heap.size, 0, none⟩ 1 1 [.int .i64 (plF 1 (addN (namesF K) nm) nm : Nat)] rfl rfl (news_new w4 _ _ _ rfl) (fun u hu => by rw [List.mem_singleton.1 hu]; rfl) (by unfold maxLen; omega) (by omega) (by rw [size_alloc]; omega) ?_); intro v5 w5 hown5 hgrow5 _; have HO5 := hidOf hown5; have Hg5 := hidOf hgrow5; clear hgrow5; obtain ⟨a5, c5, rfl⟩ := own_form hown5; clear hown5)
      go_roundw
      case rel =>
        have ch : Chg (fun b => (Value.slice ap k cp).ownBlock = some b) w4 w5 := (Chg.of_out (S := fun b => (Value.slice ap k cp).ownBlock = some b) ((Out.refl w4).alloc _)).trans (Chg.of_grown (show (w4.alloc _).grownBy w5 (Value.slice ap k cp).ownBlock from Hg5.out) (fun k h => h)) (fun b hb _ => hb)
        refine ⟨k + 1, a4, c4, a5, c5, by rw [HK1.out, ← Hn1.out], rfl, by simp, by omega, hidOf ⟨?_, ?_, ?_, ?_⟩⟩
        · exact Chg.out ch HA.out.1 (fun b hb => (World.ownsRow.lt HPL.out b hb).1)
        · exact own_other HA.out.2.1 HPL.out (by decide) ch
        · rw [HK1.out, ← Hn1.out]
          exact own_other A4.out.own HPL.out (by decide) ch
        · have e1 : pcs K1 = pcs K ++ [(plF 1 (addN (namesF K) nm) nm : Int)] := by
            have h1 := places_step K nm (by rw [← HKs.out]; exact HKo.out)
            rw [← HKs.out] at h1
            exact h1
          have e2 : (pcs K ++ [(plF 1 (addN (namesF K) nm) nm : Int)]).length = k + 1 := by simp [pcs, HKl.out]
          rw [HK1.out]
          unfold OwI
          rw [e1, e2, List.map_append]
          exact HO5.out
      case measure => simp [intOf]; omega
    · have hlt : ¬ (k : Int) < m := by omega
      obtain rfl : k = m := by omega
      have HKf : Hid ((nmsOf M).take k = nmsOf M) := hidOf (List.take_of_length_le (by simp [nmsOf, HMl.out]))
      rw [HKf.out] at HW ⊢
      have HNs : Hid (nmsOf M = nmsS (secs L)) := hidOf (by rw [HMM.out]; simp [nmsOf, nmsS, secs, t0])
      have HSz : Hid (szF 1 (namesF (nmsOf M)) ≤ 2000) := hidOf (by
        have h1 := (namesF_ok (nmsOf M) (fun y hy => (HNm.out y hy).1)).2.2.2
        have : (nmsOf M).length = k := by simp [nmsOf, HMl.out]
        rw [this] at h1
        omega)
      have CT := hidOf (table9_any wr an cn (namesF (nmsOf M)) (tabD (secs L)) (by rw [HNs.out]; rfl) w.heap.size HW.out.nm (by have := HSz.out; omega))
      have HSL : Hid (∀ wx, Out wr wx → (∃ u, wx.cell? ⟨g, L.length * 8 + 7, none⟩ = some u) ∧ wx.frozen? ⟨g, L.length * 8 + 7, none⟩ = false ∧ ∀ (ta : Option Addr) (tc : Nat), OwV w.heap.size (.slice (some ⟨g, 0, none⟩) k c3) (L ++ [t1 (secs L) ta tc]) (wx.setCell ⟨g, L.length * 8 + 7, none⟩ (.slice ta (tabD (secs L)).length tc))) := hidOf (fun wx o => by
        have h1 : OwV w.heap.size (.slice (some ⟨g, 0, none⟩) k c3) (L ++ [t0]) wx := by rw [← HMM.out]; exact own_at HW.out.li o
        have h2 := fun ta tc => h1.setLast (y := t1 (secs L) ta tc) rfl
        exact ⟨(h2 none 0).2.1, (h2 none 0).2.2, fun ta tc => (h2 ta tc).1⟩)
      have hLk : (L.length : Int) < k := by have := HmL.out; omega
      have hL0 : (0 : Int) ≤ L.length := by omega
      go_upto_region 14 with (go_at_call 43; refine CT.out.mono ?_; rintro e w5 ⟨ta, tc, rfl, hown, ho⟩; have T5 := hidOf hown; have P5 := hidOf ho; obtain ⟨⟨u5, qu⟩, fz, hset⟩ := HSL.out w5 ho; have S5 := hidOf hset; clear hown ho hset)
      have hmk := run_make9
      have HST := hidOf (W1.store (L := L) (by rw [← HMM.out]; exact HW.out) P5.out T5.out HD.out)
      clear qu fz
      go_upto_region 17 with fail
      clear hmk
      have HZ5 : Hid ((w5.setCell ⟨g, L.length * 8 + 7, none⟩ (.slice ta (tabD (secs L)).length tc)).heap.size = w5.heap.size) := hidOf (by simp [World.setCell])
      generalize w5.setCell ⟨g, L.length * 8 + 7, none⟩ (.slice ta (tabD (secs L)).length tc) = B6 at *
      have hsz : (B6.alloc (.cells (Lib.byteCells z64).toArray 5)).heap.size = B6.heap.size + 1 := size_alloc _ _
      have W20 := hidOf (W2.start B6)
      try rw [hsz]
      generalize (B6.alloc (.cells (Lib.byteCells z64).toArray 5)).alloc (.cells (Lib.byteCells z64).toArray 5) = x0 at *
      obtain ⟨M2, hM2⟩ : ∃ M2, M2 = L ++ [t1 (secs L) ta tc] := ⟨_, rfl⟩
      rw [← hM2] at HST
      have HM2 := hidOf hM2
      have HM2l : Hid (M2.length = k) := hidOf (by rw [hM2]; have := HmL.out; simp; omega)
      have HM2s : Hid (secs M2 = allS (secs L)) := hidOf (by rw [hM2]; simp [secs, allS, t1])
      obtain ⟨Z, hZ⟩ : ∃ Z, Z = z64 := ⟨_, rfl⟩
      have HZl : Hid (Z.length = 64) := hidOf (by rw [hZ]; simp [z64])
      have HZz : Hid (layB zRw.fds = Z) := hidOf (by rw [hZ]; exact zrow_bytes)
      rw [← hZ] at W20
      clear hM2 hZ hsz CT HSL S5 T5 P5
      go_wp2
      go_loopw [10, 11, 12] (fun ov rv iv wr => ∃ (i : Nat) (O Q : List UInt8) (ao : Option Addr) (co : Nat) (ar : Option Addr) (cr : Nat), ov = .slice ao O.length co ∧ rv = .slice ar Q.length cr ∧ iv = .int .i64 i ∧ i ≤ k ∧ Hid (padB O = bodF Z (secs (M2.take i))) ∧ Hid (Q = tblF (zRw :: rowsF 64 (secs (M2.take i)) ((pcs (nmsOf M)).take i))) ∧ Hid (W2 B6 wr (.slice ao O.length co) (.slice ar Q.length cr) O Q)) (fun _ _ iv _ => k - (intOf iv).toNat)
      case atStart =>
        refine ⟨0, Z, Z, some ⟨B6.heap.size, 0, none⟩, 64, some ⟨B6.heap.size + 1, 0, none⟩, 64, by first | (rw [HZl.out]; done) | simp [HZl.out, size_alloc, HZ5.out], by first | (rw [HZl.out]; done) | simp [HZl.out, size_alloc, HZ5.out], rfl, by omega, hidOf ?_, hidOf ?_, ?_⟩
        · rw [padB_same (by rw [HZl.out])]; simp [secs, bodF]
        · simp [secs, rowsF, tblF, HZz.out]
        · have h := W20.out
          rw [← HZl.out] at h
          first | exact hidOf h | (simp only [HZl.out] at h ⊢; exact hidOf h)
      case round =>
        clear W20
        obtain ⟨i, O, Q, ao, co, ar, cr, rfl, rfl, rfl, hi, HB, HQ, HW2⟩ := hrel
        by_cases hik : i < k
        · have hlt2 : (i : Int) < k := by omega
          have hi0 : (0 : Int) ≤ i := by omega
          obtain ⟨x, hx⟩ : ∃ x, M2[i]? = some x := ⟨_, List.getElem?_eq_getElem (by rw [HM2l.out]; exact hik)⟩
          have hdL : ∀ j, sumD (secs (M2.take j)) ≤ 1000000003000 := fun j => by
            have h1 : sumD (secs (M2.take j)) ≤ sumD (secs M2) := by
              have e : secs M2 = secs (M2.take j) ++ secs (M2.drop j) := by simp only [secs]; rw [← List.map_append, List.take_append_drop]
              rw [e]; simp [sumD]
            have h2 : sumD (secs M2) = sumD (secs L) + (tabD (secs L)).length := by rw [HM2s.out]; simp [sumD, allS, tabS]
            have h3 : (tabD (secs L)).length ≤ 2000 := by
              have h4 := byF_len (namesF (nmsOf M)) 1
              have h5 := HSz.out
              unfold tabD
              rw [← HNs.out]
              simp only [byP, List.length_cons]
              omega
            omega
          have HPl : Hid ((padB O).length = endF 64 (secs (M2.take i)) ∧ (padB O).length ≤ 1000000010000) := hidOf (by
            have h1 : (padB O).length = endF 64 (secs (M2.take i)) := by rw [HB.out, bodF_len, HZl.out]
            have h2 := (endF_le (secs (M2.take i)) 64).2
            have h3 := hdL i
            have h4 : (secs (M2.take i)).length ≤ 17 := by simp [secs]; omega
            exact ⟨h1, by rw [h1]; omega⟩)
          have HOl : Hid (O.length ≤ 1000000010000) := hidOf (by
            have h1 := (up8_ge O.length).1
            have h2 := HPl.out.2
            rw [padB_len] at h2
            omega)
          have CPd := hidOf (padded_any B6.heap.size wr ao co O (padB O) rfl HW2.out.o HW2.out.out.size (by have := HOl.out; omega))
          have HX := hidOf hx
          have HTs : Hid (secs (M2.take (i + 1)) = secs (M2.take i) ++ [x.s]) := hidOf (by rw [List.take_add_one, hx]; simp [secs])
          have Hxd : Hid (x.s.d.length ≤ 1000000003000) := hidOf (by
            have h1 := hdL (i + 1)
            rw [HTs.out] at h1
            simp [sumD] at h1
            omega)
          clear hx hdL
          go_upto_region 20 with (go_at_call 44; refine CPd.out.mono ?_; rintro e x1 ⟨a1, c1, rfl, ha⟩; have S1 := hidOf (HW2.out.file ha); clear ha)
          obtain ⟨ty, fl, li, inf, al, es, e1, e2, e3, e4, e5, e6, b1, b2, b3, b4, b5, b6⟩ : ∃ ty fl li inf al es : Nat, x.s.ty = ty ∧ x.s.fl = fl ∧ x.s.li = li ∧ x.s.inf = inf ∧ x.s.al = al ∧ x.s.es = es ∧ ty ≤ 9223372036854775807 ∧ fl ≤ 9223372036854775807 ∧ li ≤ 9223372036854775807 ∧ inf ≤ 9223372036854775807 ∧ al ≤ 9223372036854775807 ∧ es ≤ 9223372036854775807 := by
            have hm := List.mem_of_getElem? HX.out
            rw [HM2.out] at hm
            rcases List.mem_append.1 hm with hm | hm
            · have hb : badP x.s = false := by
                have h1 := HOK.out
                unfold writeOk secs at h1
                simp only [Bool.and_eq_true, Bool.not_eq_true', List.any_eq_false, List.mem_map, forall_exists_index, and_imp, forall_apply_eq_imp_iff₂] at h1
                simpa using h1.1.2 x hm
              have hi3 := HI.out x hm
              unfold badP at hb
              simp at hb
              exact ⟨x.s.ty.toNat, x.s.fl.toNat, x.s.li.toNat, x.s.inf.toNat, x.s.al.toNat, x.s.es.toNat, by omega, by omega, by omega, by omega, by omega, by omega, by omega, by omega, by omega, by omega, by omega, by omega⟩
            · rw [List.mem_singleton.1 hm]
              exact ⟨3, 0, 0, 0, 1, 0, rfl, rfl, rfl, rfl, rfl, rfl, by omega, by omega, by omega, by omega, by omega, by omega⟩
          obtain ⟨z, hz, hzb⟩ : ∃ z : Nat, (pcs (nmsOf M))[i]? = some (z : Int) ∧ z ≤ 9223372036854775807 := by
            have hl : i < (nmsOf M).length := by simp [nmsOf, HMl.out]; omega
            refine ⟨plF 1 (namesF (nmsOf M)) (nmsOf M)[i], by simp [pcs, List.getElem?_eq_getElem hl], ?_⟩
            have hmem : (nmsOf M)[i] ∈ namesF (nmsOf M) := (namesF_ok (nmsOf M) (fun y hy => (HNm.out y hy).1)).2.2.1 _ (List.getElem_mem hl)
            obtain ⟨j, _, hj⟩ := plF_at (namesF (nmsOf M)) 1 _ hmem
            rw [hj]
            have h1 := szF_take (namesF (nmsOf M)) j
            have h2 := HSz.out
            omega
          have HCl : Hid (∀ wx, Out B6 wx → Cells8 wx g (i * 8) x) := hidOf (fun wx o => OwV.cells (own_at HST.out.2.1 o) HX.out)
          obtain ⟨gp, rfl, hgp⟩ : ∃ gp, ap = some ⟨gp, 0, none⟩ ∧ ∀ wx, Out B6 wx → wx.cell? ⟨gp, i, none⟩ = some (.int .i64 (z : Int)) := by
            have h1 := HST.out.2.2.1
            rcases h1.2 with ⟨_, h0⟩ | ⟨gp, cap, cur, e, _⟩
            · have := (List.getElem?_eq_some_iff.1 hz).1; omega
            · simp only [Value.slice.injEq] at e
              refine ⟨gp, e.1, fun wx o => ?_⟩
              have h2 := World.ownsRow.cells (own_at h1 o) (g := gp) (by rw [e.1]; rfl) i (.int .i64 (z : Int)) (by rw [List.getElem?_map, hz]; rfl)
              rw [WideShapes.add_plain, Nat.zero_add] at h2
              exact h2
          have HGp := hidOf hgp
          clear hgp
          obtain ⟨⟨nm, ty', fl', li', inf', al', es', d⟩, da, dc⟩ := x
          simp only at e1 e2 e3 e4 e5 e6
          subst e1 e2 e3 e4 e5 e6
          obtain ⟨q0, q1, q2, q3, q4, q5, q6, q7⟩ := HCl.out x1 S1.out.out
          have qp := HGp.out x1 S1.out.out
          simp only at q0 q1 q2 q3 q4 q5 q6 q7
          obtain ⟨P, hP⟩ : ∃ P, P = padB O := ⟨_, rfl⟩
          rw [← hP] at S1 HPl HB ⊢
          have HPp := hidOf hP
          obtain ⟨R, hR⟩ : ∃ R, R = Q ++ (leB z 4 ++ (leB ty 4 ++ (leB fl 8 ++ (leB 0 8 ++ (leB P.length 8 ++ (leB d.length 8 ++ (leB li 4 ++ (leB inf 4 ++ (leB al 8 ++ leB es 8))))))))) := ⟨_, rfl⟩
          have HQl : Hid (Q.length ≤ 2000) := hidOf (by
            rw [HQ.out, tblF_len, List.length_cons]
            have h1 : (rowsF 64 (secs (M2.take i)) ((pcs (nmsOf M)).take i)).length = (secs (M2.take i)).length := rowsF_len _ _ _ (by simp [secs, pcs, nmsOf, HMl.out, HM2l.out])
            rw [h1]
            have h4 : (secs (M2.take i)).length ≤ 17 := by simp [secs]; omega
            omega)
          have Hdl : Hid (d.length ≤ 9223372036854775807) := hidOf (by have h1 : d.length ≤ 1000000003000 := Hxd.out; omega)
          have CE := hidOf (fun wx (h : W2 B6 wx (.slice a1 P.length c1) (.slice ar Q.length cr) P Q) => entry9_any B6.heap.size wx ar cr Q R nm da dc z ty fl P.length d.length li inf al es hR h.r h.out.size (by have := HQl.out; omega) hzb b1 b2 (by have := HPl.out.2; omega) Hdl.out b3 b4 b5 b6)
          have HR := hidOf hR
          clear hR hP
          go_region_held3 (fun w' => w'.cell? ⟨g, i * 8, none⟩ = some (.string ⟨nm.toArray⟩) ∧ w'.cell? ⟨g, i * 8 + 1, none⟩ = some (.int .i64 (ty : Int)) ∧ w'.cell? ⟨g, i * 8 + 2, none⟩ = some (.int .i64 (fl : Int)) ∧ w'.cell? ⟨g, i * 8 + 3, none⟩ = some (.int .i64 (li : Int)) ∧ w'.cell? ⟨g, i * 8 + 4, none⟩ = some (.int .i64 (inf : Int)) ∧ w'.cell? ⟨g, i * 8 + 5, none⟩ = some (.int .i64 (al : Int)) ∧ w'.cell? ⟨g, i * 8 + 6, none⟩ = some (.int .i64 (es : Int)) ∧ w'.cell? ⟨g, i * 8 + 7, none⟩ = some (.slice da d.length dc) ∧ w'.cell? ⟨gp, i, none⟩ = some (.int .i64 (z : Int))) (first | exact ⟨q0, q1, q2, q3, q4, q5, q6, q7, qp⟩ | exact ⟨r0, r1, r2, r3, r4, r5, r6, r7, rp⟩ | go_keep) (first | (go_at_call 45; refine (CE.out _ (S1.out.more ((Out.refl x1).drewN _))).mono ?_; rintro e x2 ⟨a2', c2', rfl, ha⟩; have S2 := hidOf ((S1.out.more ((Out.refl x1).drewN _)).row ha); obtain ⟨r0, r1, r2, r3, r4, r5, r6, r7⟩ := HCl.out x2 ((S1.out.more ((Out.refl x1).drewN _)).row ha).out; have rp := HGp.out x2 ((S1.out.more ((Out.refl x1).drewN _)).row ha).out; clear ha))
          all_goals
            have HDx := hidOf ((HST.out.2.2.2 _ (List.mem_of_getElem? HX.out)).out S2.out.out)
            go_wp2_with (at_builtin; go_loud (refine wpList_app_data rfl (.tmp 75) (.tmp 80) rfl B6.heap.size _ (.slice a1 P.length c1) P S2.out.o S2.out.out.size da dc d HDx.out.1.1 HDx.out.2 (by have h1 : d.length ≤ 1000000003000 := Hxd.out; have h2 := HPl.out.2; omega) rfl rfl ?_); intro a3' c3' x3 ha; have S3 := hidOf (S2.out.file ha); clear ha)
            go_roundw
            case rel =>
              refine ⟨i + 1, P ++ d, R, a3', c3', a2', c2', by rw [List.length_append], rfl, by simp, by omega, hidOf ?_, hidOf ?_, S3⟩
              · rw [HTs.out, bodF_snoc, ← HB.out]
              · have h1 := (sec_step HX.out hz).1
                rw [h1, ← List.cons_append, tblF_snoc, ← HQ.out, HR.out, ← HPl.out.1]
                rw [row_bytes _ ty fl li inf al es z P.length rfl rfl rfl rfl rfl rfl hzb (by have := HPl.out.2; omega) Hdl.out b1 b2 b3 b4 b5 b6]
            case measure => simp [intOf]; omega
        · have hlt2 : ¬ (i : Int) < k := by omega
          obtain rfl : i = k := by omega
          have HTk : Hid (M2.take i = M2) := hidOf (List.take_of_length_le (by rw [HM2l.out]; exact Nat.le_refl _))
          rw [HTk.out, HM2s.out] at HB HQ
          have HPcs : Hid ((pcs (nmsOf M)).take i = plsS (secs L)) := hidOf (by
            rw [List.take_of_length_le (by simp [pcs, nmsOf, HMl.out]), HNs.out]; rfl)
          rw [HPcs.out] at HQ
          have HPl : Hid ((padB O).length = endF 64 (allS (secs L)) ∧ (padB O).length ≤ 1000000010000) := hidOf (by
            have h1 : (padB O).length = endF 64 (allS (secs L)) := by rw [HB.out, bodF_len, HZl.out]
            have h2 := (endF_le (allS (secs L)) 64).2
            have h2' : sumD (allS (secs L)) = sumD (secs L) + (tabD (secs L)).length := by simp [sumD, allS, tabS]
            have h3 : (tabD (secs L)).length ≤ 2000 := by
              have h4 := byF_len (namesF (nmsOf M)) 1
              have h5 := HSz.out
              unfold tabD
              rw [← HNs.out]
              simp only [byP, List.length_cons]
              omega
            have h4 : (allS (secs L)).length ≤ 17 := by simp [secs, allS]; omega
            exact ⟨h1, by rw [h1]; omega⟩)
          have HOl : Hid (O.length ≤ 1000000010000) := hidOf (by
            have h1 := (up8_ge O.length).1
            have h2 := HPl.out.2
            rw [padB_len] at h2
            omega)
          have CPd := hidOf (padded_any B6.heap.size wr ao co O (padB O) rfl HW2.out.o HW2.out.out.size (by have := HOl.out; omega))
          obtain ⟨P, hP⟩ : ∃ P, P = padB O := ⟨_, rfl⟩
          rw [← hP] at CPd HPl HB
          clear hP
          obtain ⟨Hd, hHd⟩ : ∃ H, H = layB (headF (jw2 (P.length : Int)) (jw2 ((L.length : Int) + 2)) (jw2 ((L.length : Int) + 1))) := ⟨_, rfl⟩
          have HHd := hidOf hHd
          have CH := hidOf (fun wx => head9_any wx L.length P.length Hd (by rw [hHd]; exact head_bytes L.length P.length (by omega) (by have := HPl.out.2; omega)) (by omega) (by have := HPl.out.2; omega))
          have HHl : Hid (Hd.length = 64) := hidOf (by rw [hHd, layB_len]; simp [headF, widF, bwF, hdA, hdB])
          clear hHd
          go_upto_region 23 with (go_at_call 44; refine CPd.out.mono ?_; rintro e x1 ⟨a1, c1, rfl, ha⟩; have S1 := hidOf (HW2.out.file ha); clear ha)
          go_upto_region 25 with (go_at_call 46; refine (CH.out _).mono ?_; rintro e x2 ⟨ah, ch, rfl, hh, ho⟩; have H2 := hidOf hh; have P2 := hidOf ho; clear hh ho)
          have HP64 : Hid (64 ≤ P.length) := hidOf (by rw [HPl.out.1]; exact (endF_le (allS (secs L)) 64).1)
          obtain ⟨go, rfl, hgo⟩ : ∃ g, a1 = some ⟨g, 0, none⟩ ∧ g < x1.heap.size := by
            rcases S1.out.o.2 with ⟨_, h0⟩ | ⟨g, cap, cur, e, _⟩
            · have := HP64.out; omega
            · simp only [Value.slice.injEq] at e
              exact ⟨g, e.1, (World.ownsRow.lt S1.out.o g (by rw [e.1]; rfl)).2⟩
          obtain ⟨gh, rfl, hgh⟩ : ∃ g, ah = some ⟨g, 0, none⟩ ∧ x1.heap.size ≤ g := by
            rcases H2.out.2 with ⟨_, h0⟩ | ⟨g, cap, cur, e, hb, _⟩
            · have := HHl.out; omega
            · simp only [Value.slice.injEq] at e
              exact ⟨g, e.1, hb⟩
          have HGG : Hid (¬ gh = go) := hidOf (by omega)
          have S2 := hidOf (S1.out.more P2.out)
          have HHI : ((Hd.length : Nat) : Int) = 64 := by rw [HHl.out]; rfl
          have HPI : (64 : Int) ≤ P.length := by have := HP64.out; omega
          clear hgo hgh CPd CH
          go_wp2
          go_loopw [14] (fun jv wr => ∃ j : Nat, jv = .int .i64 j ∧ j ≤ 64 ∧ Hid (W2 B6 wr (.slice (some ⟨go, 0, none⟩) P.length c1) (.slice ar Q.length cr) (Hd.take j ++ P.drop j) Q) ∧ Hid (OwB x1.heap.size (.slice (some ⟨gh, 0, none⟩) Hd.length ch) Hd wr)) (fun jv _ => 64 - (intOf jv).toNat)
          case atStart => exact ⟨0, rfl, by omega, by simpa using S2, H2⟩
          case round =>
            clear S2
            obtain ⟨j, rfl, hj, S4, H4⟩ := hrel
            by_cases hj64 : j < 64
            · have hjI : (j : Int) < 64 := by omega
              have hj0 : (0 : Int) ≤ j := by omega
              have hjP : (j : Int) < P.length := by omega
              have hjH : (j : Int) < Hd.length := by omega
              obtain ⟨y, hy⟩ : ∃ y, Hd[j]? = some y := ⟨_, List.getElem?_eq_getElem (by rw [HHl.out]; exact hj64)⟩
              obtain ⟨_, e1, qh⟩ := H4.out.get9 hy
              simp only [Option.some.injEq, Addr.mk.injEq] at e1
              obtain ⟨rfl, _⟩ := e1
              obtain ⟨yo, hyo⟩ : ∃ y, (Hd.take j ++ P.drop j)[j]? = some y := ⟨_, List.getElem?_eq_getElem (by have := HP64.out; have := HHl.out; simp; omega)⟩
              obtain ⟨_, e1, qo⟩ := S4.out.o.get9 hyo
              simp only [Option.some.injEq, Addr.mk.injEq] at e1
              obtain ⟨rfl, _⟩ := e1
              have fz := (S4.out.o.set9 j y).2.1
              have S5 : Hid (W2 B6 (wr.setCell ⟨go, j, none⟩ (.int .u8 (y.toNat : Int))) (.slice (some ⟨go, 0, none⟩) P.length c1) (.slice ar Q.length cr) (Hd.take (j + 1) ++ P.drop (j + 1)) Q) := hidOf (by
                have h := S4.out.put j y
                rw [take_drop_set hy (by have := HP64.out; omega)] at h
                exact h)
              have H5 : Hid (OwB x1.heap.size (.slice (some ⟨gh, 0, none⟩) Hd.length ch) Hd (wr.setCell ⟨go, j, none⟩ (.int .u8 (y.toNat : Int)))) := hidOf (owns_chg H4.out (fun b hb e => by simp [Value.ownBlock] at hb; exact HGG.out (by rw [hb]; exact e)) (Chg.setCell (S := fun b => b = go) (Chg.refl _ wr) (p := ⟨go, j, none⟩) rfl _))
              clear hy hyo
              go_wp2
              go_roundw
              case rel => exact ⟨j + 1, by simp, by omega, S5, H5⟩
              case measure => simp [intOf]; omega
            · have hjI : ¬ (j : Int) < 64 := by omega
              obtain rfl : j = 64 := by omega
              rw [List.take_of_length_le (by rw [HHl.out]; exact Nat.le_refl _)] at S4
              obtain ⟨T, hT1, hT2⟩ := bodF_preW (allS (secs L)) Z Hd (by rw [HZl.out, HHl.out])
              have HPT : Hid (P.drop 64 = T) := hidOf (by rw [HB.out, hT1, List.drop_left' HZl.out])
              have HFin : Hid (Hd ++ P.drop 64 ++ Q = writeB (secs L)) := hidOf (by
                rw [HPT.out, ← hT2, HQ.out, HHd.out, HPl.out.1]
                unfold writeB
                simp [secs])
              have HLn : Hid ((Hd ++ P.drop 64).length = P.length) := hidOf (by have := HP64.out; simp [HHl.out]; omega)
              have HQl : Hid (Q.length ≤ 2000) := hidOf (by
                rw [HQ.out, tblF_len, List.length_cons]
                have h1 : (rowsF 64 (allS (secs L)) (plsS (secs L))).length = (allS (secs L)).length := rowsF_len _ _ _ (by simp [secs, allS, plsS, nmsS])
                rw [h1]
                have h4 : (allS (secs L)).length ≤ 17 := by simp [secs, allS]; omega
                omega)
              have HRst : Hid (RestAt wr.heap.size wr ar Q) := hidOf (by
                obtain ⟨a', c', hv, _, hat⟩ := OwB.rest S4.out.r
                simp only [Value.slice.injEq] at hv
                rw [hv.1]; exact hat)
              have HN0 := hidOf (own_nil0 S4.out.r)
              clear hT1 hT2
              go_wp2_with (at_builtin; go_loud (refine wpList_app_data rfl (.tmp 100) (.tmp 101) rfl B6.heap.size _ (.slice (some ⟨go, 0, none⟩) P.length c1) (Hd ++ P.drop 64) S4.out.o S4.out.out.size ar cr Q HRst.out HN0.out (by have h1 := HLn.out; have h2 := HPl.out.2; have h3 := HQl.out; omega) rfl rfl ?_); intro a9 c9 x9 ha; have A9 := hidOf ha; have S9 := hidOf (S4.out.file ha); clear ha)
              go_ret2
              have hw := A9.out.own
              rw [HFin.out] at hw
              refine ⟨a9, c9, ?_, own_base hw (Nat.le_trans HST.out.1.size (Nat.le_refl _)), HST.out.1.trans S9.out.out⟩
              rw [← HFin.out]
              first | rfl | simp
end Go.Proofs.Ytmpbdakmmelmgaa
