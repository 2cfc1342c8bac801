import Derived.Test.YtigdlgpkepledaaMcd
namespace Go.Proofs.Ytigdlgpkepledaa
open Go.RowKit
set_option linter.unusedVariables false
set_option linter.unusedSimpArgs false
/-- a store, both ways in one -/
theorem store_two (w : World) (B s : Nat) (v1 v2 : Value) (X Y : List Rw) (m at_ x : Nat) (wd : Int) (h : SpD B w s v1 v2 X Y m) (ha : at_ < 18446744073709551616) (hx : x < 18446744073709551616) :
    Calls Try.prog 8 #[.pointer (some ⟨s, 0, none⟩), .int .u64 at_, .int .i64 wd, .int .u64 x] w fun e w' => ∃ X', e = .returned (.int .i64 (if (acP (flat X) at_ (widN wd)).isSome then 0 else 200)) ∧ SpD B w' s v1 v2 X' Y m ∧ flat X' = stoF (flat X) at_ (widN wd) (x % 2 ^ (8 * widN wd)) ∧ Chg (dbs (flat X ++ flat Y)) w w' := by
  refine (Store_any w B s v1 v2 X Y m at_ x wd h ha hx).mono ?_
  rintro e w' (⟨h1, rfl, ho⟩ | ⟨y, o, h1, rfl, hsp, hc⟩)
  · exact ⟨X, by rw [h1]; rfl, h.out ho, by rw [stoF, h1], Chg.of_out ho⟩
  · refine ⟨_, by rw [h1]; rfl, hsp, ?_, hc⟩
    rw [flat_updX, stoF, h1]
    simp only
    rw [bysN_mod _ _ _ (Nat.le_refl _)]
/-- what the two lists told give, region by region and byte by byte, in the world behind -/
structure Told (w : World) (a1 a2 : Option Addr) (n : Nat) (s at_ k x : Nat) (ok : Bool) : Prop where
  reg : ∀ i, i < n → ∃ (g1 g2 f l c1 c2 : Nat) (p1 p2 : Option Addr), a1 = some ⟨g1, 0, none⟩ ∧ a2 = some ⟨g2, 0, none⟩ ∧ f < 18446744073709551616 ∧ f + l ≤ 18446744073709551616 ∧ l ≤ 140737488355328 ∧ w.cell? ⟨g1, i * 2, none⟩ = some (.int .u64 (f : Nat)) ∧ w.cell? ⟨g1, i * 2 + 1, none⟩ = some (.slice p1 l c1) ∧ w.cell? ⟨g2, i * 2, none⟩ = some (.int .u64 (f : Nat)) ∧ w.cell? ⟨g2, i * 2 + 1, none⟩ = some (.slice p2 l c2) ∧
    ∀ j, j < l → ∃ (q1 q2 b b' : Nat), p1 = some ⟨q1, 0, none⟩ ∧ p2 = some ⟨q2, 0, none⟩ ∧ w.cell? ⟨q1, j, none⟩ = some (.int .u8 (b : Nat)) ∧ w.cell? ⟨q2, j, none⟩ = some (.int .u8 (b' : Nat)) ∧ b < 256 ∧ b' = (if ok = true ∧ at_ ≤ f + j ∧ f + j - at_ < k then x / 2 ^ (8 * (f + j - at_)) % 256 else b) ∧
      ∀ wr, Out w wr → Calls Try.prog 9 #[.pointer (some ⟨s, 0, none⟩), .int .u64 (f + j : Nat), .int .i64 8] wr fun e w' => e = .returned (.tuple #[.int .u64 (b' : Nat), .int .i64 0]) ∧ Out wr w'
theorem told_mk {w w2 w3 w4 w5 : World} {B s n at_ k x m : Nat} {v1 v2 : Value} {X X' Y : List Rw} {a1 a2 : Option Addr} {c1 c2 : Nat} {R1 R2 : List Rg} (h : SpD B w2 s v1 v2 X Y m)
    (o1 : w3.ownsRow w2.heap.size 39 2 (.slice a1 R1.length c1) R1.length (rowG R1)) (d1 : ∀ z ∈ R1, DaI w2.heap.size w3 z) (p1 : (R1.map fdR).Perm ((flat X ++ flat Y).map fdR)) (s1 : Srt R1) (u23 : Out w2 w3)
    (h4 : SpD B w4 s v1 v2 X' Y m) (hf : flat X' = stoF (flat X) at_ k x) (c34 : Chg (dbs (flat X ++ flat Y)) w3 w4)
    (o2 : w5.ownsRow w4.heap.size 39 2 (.slice a2 R2.length c2) R2.length (rowG R2)) (d2 : ∀ z ∈ R2, DaI w4.heap.size w5 z) (p2 : (R2.map fdR).Perm ((flat X' ++ flat Y).map fdR)) (s2 : Srt R2) (u45 : Out w4 w5) (u5 : Out w5 w) :
    R1.length = R2.length ∧ Told w a1 a2 R1.length s at_ k x (acP (flat X) at_ k).isSome ∧ w.ownsRow w2.heap.size 39 2 (.slice a1 R1.length c1) R1.length (rowG R1) ∧ (∀ z ∈ R1, z.f < 18446744073709551616 ∧ z.d.length ≤ 140737488355328) ∧ ∀ at2 k2, 0 < k2 → heldP R1 at2 k2 = (acP (flat X) at2 k2).isSome := by
  have hdb : ∀ b, dbs (flat X ++ flat Y) b → b < w2.heap.size := fun b ⟨z, hz, hb⟩ => (DaI.blk (h.da z hz) hb).2
  have o1' : w.ownsRow w2.heap.size 39 2 (.slice a1 R1.length c1) R1.length (rowG R1) := own_out (own_out (own_chg o1 c34 (fun b hb hS => by
    have := o1.lt b hb
    have := hdb b hS
    omega)) u45) u5
  have o2' := own_out o2 u5
  have d1' : ∀ z ∈ R1, DaI w2.heap.size w z := fun z hz => (((d1 z hz).chg c34 (fun b hb hS => by
    have := (DaI.blk (d1 z hz) hb).1
    have := hdb b hS
    omega)).out u45).out u5
  have d2' : ∀ z ∈ R2, DaI w4.heap.size w z := fun z hz => (d2 z hz).out u5
  have fdl : ∀ z ∈ R1, z.f < 18446744073709551616 ∧ z.d.length ≤ 140737488355328 := fun z hz => by
    have h1 : fdR z ∈ (flat X ++ flat Y).map fdR := p1.mem_iff.1 (List.mem_map.2 ⟨z, hz, rfl⟩)
    obtain ⟨u, hu, e⟩ := List.mem_map.1 h1
    simp only [fdR, Prod.mk.injEq] at e
    rw [← e.1, ← e.2]
    refine ⟨?_, h.le u hu⟩
    rcases List.mem_append.1 hu with hu | hu
    · have := h.ok.fd u hu; omega
    · have := h.ok.ed u hu; omega
  rw [hf] at p2
  obtain ⟨hlen, htw⟩ := told_two h.ok at_ k x s1 s2 p1 p2
  refine ⟨hlen, ⟨fun i hi => ?_⟩, o1', fdl, fun at2 k2 hk2 => held_told h.ok p1 at2 k2 hk2⟩
  obtain ⟨z1, hz1⟩ : ∃ z, R1[i]? = some z := ⟨_, List.getElem?_eq_getElem hi⟩
  obtain ⟨z2, hz2⟩ : ∃ z, R2[i]? = some z := ⟨_, List.getElem?_eq_getElem (by omega)⟩
  obtain ⟨e1, e2, e3, e4⟩ := htw i z1 z2 hz1 hz2
  obtain ⟨g1, cc1, ee1, _, _⟩ := o1'.form (by omega)
  obtain ⟨g2, cc2, ee2, _, _⟩ := o2'.form (by omega)
  simp only [Value.slice.injEq] at ee1 ee2
  obtain ⟨rfl, _, rfl⟩ := ee1
  obtain ⟨rfl, _, rfl⟩ := ee2
  obtain ⟨q10, q11⟩ := rowG_get hz1
  obtain ⟨q20, q21⟩ := rowG_get hz2
  refine ⟨g1, g2, z1.f, z1.d.length, z1.c, z2.c, z1.a.map fun b => ⟨b, 0, none⟩, z2.a.map fun b => ⟨b, 0, none⟩, rfl, rfl, (fdl z1 (List.mem_of_getElem? hz1)).1, e3, (fdl z1 (List.mem_of_getElem? hz1)).2, (own_cellK o1' q10).1, (own_cellK o1' q11).1, by rw [e1]; exact (own_cellK o2' q20).1, by rw [e2]; exact (own_cellK o2' q21).1, fun j hj => ?_⟩
  obtain ⟨b, hb⟩ : ∃ b, z1.d[j]? = some b := ⟨_, List.getElem?_eq_getElem hj⟩
  obtain ⟨f1, f2⟩ := e4 j b hb
  have D1 := d1' z1 (List.mem_of_getElem? hz1)
  have D2 := d2' z2 (List.mem_of_getElem? hz2)
  unfold DaI at D1 D2
  obtain ⟨h1, k1, j1, _, _⟩ := D1.form (by omega)
  obtain ⟨h2, k2, j2, _, _⟩ := D2.form (by omega)
  rw [daV] at j1 j2
  simp only [Value.slice.injEq] at j1 j2
  rw [daV, j1.1, j1.2.2] at D1
  rw [daV, j2.1, j2.2.2] at D2
  refine ⟨h1, h2, b.toNat, (wantB (acP (flat X) at_ k) at_ k x (z1.f + j) b).toNat, j1.1, j2.1, ?_, ?_, b.toNat_lt, ?_, fun wr hwr => ?_⟩
  · exact (own_cellK D1 (u := byV b) (by rw [List.getElem?_map, hb]; rfl)).1
  · exact (own_cellK D2 (u := byV _) (by rw [List.getElem?_map, f1]; rfl)).1
  · unfold wantB
    cases hac : acP (flat X) at_ k with
    | none => simp
    | some p =>
      simp only [Option.isSome_some, true_and]
      split
      · simp
      · rfl
  · rw [← hf] at f2
    refine (Load_any wr B s v1 v2 X' Y m (z1.f + j) 8 (((h4.out u45).out u5).out hwr) (by omega)).mono ?_
    rintro e w' ⟨rfl, ho⟩
    refine ⟨?_, ho⟩
    rw [show widN 8 = 1 from rfl, f2]
end Go.Proofs.Ytigdlgpkepledaa
