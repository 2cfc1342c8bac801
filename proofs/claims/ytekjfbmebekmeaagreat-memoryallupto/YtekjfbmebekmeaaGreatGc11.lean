import Derived.Test.YtekjfbmebekmeaaGreatGc10
namespace Go.Proofs.YtekjfbmebekmeaaGreat
open Go.RowKit
set_option linter.unusedVariables false
set_option linter.unusedSimpArgs false
/-- the blocks of a region's bytes -/
def dbs (L : List Rg) (b : Nat) : Prop := ∃ z ∈ L, z.a = some b
/-- a space, its regions' bytes too; m: how many regions at most -/
structure SpD (B : Nat) (w : World) (s : Nat) (v1 v2 : Value) (X Y : List Rw) (m : Nat) : Prop where
  sp : Sp B w s v1 v2 X Y
  ok : SpOk (flat X) (flat Y)
  lX : ∀ z ∈ X, z.L.length ≤ 128
  lY : ∀ z ∈ Y, z.L.length ≤ 128
  da : ∀ z ∈ flat X ++ flat Y, DaI B w z
  dn : (flat X ++ flat Y).Pairwise (fun x y => ∀ b, x.a = some b → y.a ≠ some b)
  ds : ∀ b, dbs (flat X ++ flat Y) b → b ≠ s ∧ ¬ fpS v1 X b ∧ ¬ fpS v2 Y b
  le : ∀ z ∈ flat X ++ flat Y, z.d.length ≤ 140737488355328
  nm : (flat X ++ flat Y).length ≤ m
theorem rows_le {X : List Rw} (h : ∀ x ∈ X, x.L ≠ []) : X.length ≤ (flat X).length := by
  induction X with
  | nil => simp
  | cons x X ih =>
    rw [flat_cons, List.length_append, List.length_cons]
    have h1 := List.length_pos_iff.2 (h x (by simp))
    have h2 := ih (fun y hy => h y (by simp [hy]))
    omega
/-- all blocks of a space -/
def fpD (s : Nat) (v1 v2 : Value) (X Y : List Rw) (k : Nat) : Prop := k = s ∨ fpS v1 X k ∨ fpS v2 Y k
theorem SpD.keep {S : Nat → Prop} {B : Nat} {w w' : World} {s : Nat} {v1 v2 : Value} {X Y : List Rw} {m : Nat} (h : SpD B w s v1 v2 X Y m) (c : Chg S w w') (hs : ∀ k, fpD s v1 v2 X Y k ∨ dbs (flat X ++ flat Y) k → ¬ S k) : SpD B w' s v1 v2 X Y m :=
  ⟨⟨blk_chg h.sp.blk c (hs s (.inl (.inl rfl))), h.sp.bs, h.sp.fil.keep c (fun k hk => hs k (.inl (.inr (.inl hk)))), h.sp.emp.keep c (fun k hk => hs k (.inl (.inr (.inr hk)))), h.sp.s1, h.sp.s2, h.sp.d12, h.sp.nX, h.sp.nY⟩, h.ok, h.lX, h.lY, fun z hz => (h.da z hz).chg c (fun b hb => hs b (.inr ⟨z, hz, hb⟩)), h.dn, h.ds, h.le, h.nm⟩
theorem SpD.out {B : Nat} {w w' : World} {s : Nat} {v1 v2 : Value} {X Y : List Rw} {m : Nat} (h : SpD B w s v1 v2 X Y m) (o : Out w w') : SpD B w' s v1 v2 X Y m := h.keep (Chg.of_out (S := fun _ => False) o) (fun _ _ h => h)
theorem SpD.lt {B : Nat} {w : World} {s : Nat} {v1 v2 : Value} {X Y : List Rw} {m : Nat} (h : SpD B w s v1 v2 X Y m) {k : Nat} (hk : fpD s v1 v2 X Y k) : B ≤ k ∧ k < w.heap.size := by
  rcases hk with rfl | hk | hk
  · exact ⟨h.sp.bs, (Array.getElem?_eq_some_iff.1 h.sp.blk).1⟩
  · exact h.sp.fil.lt hk
  · exact h.sp.emp.lt hk
theorem DaI.blk {B : Nat} {w : World} {x : Rg} (h : DaI B w x) {b : Nat} (hb : x.a = some b) : B ≤ b ∧ b < w.heap.size := h.lt b (by simp [daV, hb, Value.ownBlock])
theorem dbs_ins {F F' G : List Rg} {r : Rg} (h : InsP F r F') (b : Nat) : dbs (F' ++ G) b → r.a = some b ∨ dbs (F ++ G) b := by
  rintro ⟨z, hz, hb⟩
  rcases List.mem_append.1 hz with hz | hz
  · rcases (h.mem z).1 hz with rfl | hz
    · exact .inl hb
    · exact .inr ⟨z, List.mem_append_left _ hz, hb⟩
  · exact .inr ⟨z, List.mem_append_right _ hz, hb⟩
theorem pair_ins {R : Rg → Rg → Prop} (hsy : ∀ x y, R x y → R y x) {F F' : List Rg} {r : Rg} (h : InsP F r F') (hp : F.Pairwise R) (hr : ∀ x ∈ F, R r x) : F'.Pairwise R := by
  obtain ⟨P, Q, rfl, rfl, _, _⟩ := h
  obtain ⟨p1, p2, p3⟩ := List.pairwise_append.1 hp
  refine List.pairwise_append.2 ⟨p1, List.pairwise_cons.2 ⟨fun y hy => hr y (by simp [hy]), p2⟩, fun x hx y hy => ?_⟩
  rcases List.mem_cons.1 hy with rfl | hy
  · exact hsy _ _ (hr x (by simp [hx]))
  · exact p3 x hx y hy
theorem dn_ins {F F' G : List Rg} {r : Rg} (h : InsP F r F') (hp : (F ++ G).Pairwise (fun x y => ∀ b, x.a = some b → y.a ≠ some b)) (hr : ∀ x ∈ F ++ G, ∀ b, r.a = some b → x.a ≠ some b) : (F' ++ G).Pairwise (fun x y => ∀ b, x.a = some b → y.a ≠ some b) := by
  obtain ⟨p1, p2, p3⟩ := List.pairwise_append.1 hp
  refine List.pairwise_append.2 ⟨pair_ins (fun x y hxy b hb hy => hxy b hy hb) h p1 (fun x hx => hr x (List.mem_append_left _ hx)), p2, fun x hx y hy => ?_⟩
  rcases (h.mem x).1 hx with rfl | hx
  · exact hr y (List.mem_append_right _ hy)
  · exact p3 x hx y hy
theorem dn_comm {F G : List Rg} (hp : (F ++ G).Pairwise (fun x y => ∀ b, x.a = some b → y.a ≠ some b)) : (G ++ F).Pairwise (fun x y => ∀ b, x.a = some b → y.a ≠ some b) := by
  obtain ⟨p1, p2, p3⟩ := List.pairwise_append.1 hp
  exact List.pairwise_append.2 ⟨p2, p1, fun x hx y hy b hb hc => p3 y hy x hx b hc hb⟩
/-- a filled region is put in -/
theorem SpD.addF {B : Nat} {w w1 w2 : World} {s : Nat} {v1 v2 v' : Value} {X Y X' : List Rw} {m : Nat} {r : Rg} (h : SpD B w s v1 v2 X Y m) (o : Out w w1) (hr : DaI w.heap.size w1 r) (e : ShE B s 0 #[v1, v2] 92 w1 w2 v1 X v' X') (hi : InsP (flat X) r (flat X')) (hl : ∀ z ∈ X', z.L.length ≤ 128) (hc : clP (flat X) (flat Y) r.f r.d.length = false) (hd : 0 < r.d.length) (hm : r.f + r.d.length ≤ 18446744073709551616) (hd2 : r.d.length ≤ 140737488355328) (hM : m + 1 ≤ 5864062014805) (hB : B ≤ w.heap.size) :
    SpD B w2 s v' v2 X' Y (m + 1) ∧ Chg (fpD s v1 v2 X Y) w w2 ∧ (∀ k, fpD s v' v2 X' Y k → fpD s v1 v2 X Y k ∨ w.heap.size ≤ k) := by
  have h1 := h.out o
  have cE : Chg (fpD s v1 v2 X Y) w w2 := (Chg.of_out o).trans e.chg (fun k hk _ => by
    rcases hk with hk | hk
    · exact .inl hk
    · exact .inr (.inl hk))
  have hwl : ∀ k, fpD s v1 v2 X Y k → k < w.heap.size := fun k hk => (h.lt hk).2
  have hfp : ∀ k, fpS v' X' k → fpS v1 X k ∨ w1.heap.size ≤ k := e.fp
  have hos := o.size
  have hso : s < w.heap.size := hwl s (.inl rfl)
  have hra : ∀ b, r.a = some b → w.heap.size ≤ b ∧ b < w1.heap.size := fun b hb => hr.blk hb
  have hdl : ∀ b, dbs (flat X ++ flat Y) b → b < w.heap.size := fun b ⟨z, hz, hb⟩ => ((h.da z hz).blk hb).2
  have nml : (flat X' ++ flat Y).length ≤ m + 1 := by
    have := hi.perm.length_eq
    have := h.nm
    simp only [List.length_append, List.length_cons] at *
    omega
  have hnX : X'.length ≤ 5864062014805 := by
    have := rows_le e.sh.ne
    rw [List.length_append] at nml
    omega
  refine ⟨⟨⟨e.blk, h.sp.bs, e.sh, h1.sp.emp.keep e.chg (fun k hk hS => ?_), fun hk => ?_, h.sp.s2, fun k hk hk2 => ?_, hnX, h.sp.nY⟩, h.ok.addF hi hc hd hm, hl, h.lY, fun z hz => ?_, dn_ins hi h.dn (fun x hx b hb hc => ?_), fun b hb => ?_, fun z hz => ?_, nml⟩, cE, fun k hk => by
    rcases hk with hk | hk | hk
    · exact .inl (.inl hk)
    · rcases hfp k hk with h2 | h2
      · exact .inl (.inr (.inl h2))
      · exact .inr (by omega)
    · exact .inl (.inr (.inr hk))⟩
  · rcases hS with rfl | hS
    · exact h.sp.s2 hk
    · exact h.sp.d12 k hS hk
  · rcases hfp s hk with h2 | h2
    · exact h.sp.s1 h2
    · omega
  · rcases hfp k hk with h2 | h2
    · exact h.sp.d12 k h2 hk2
    · have := hwl k (.inr (.inr hk2)); omega
  · have hz2 : z = r ∨ z ∈ flat X ++ flat Y := by
      rcases List.mem_append.1 hz with hz | hz
      · rcases (hi.mem z).1 hz with hz | hz
        · exact .inl hz
        · exact .inr (List.mem_append_left _ hz)
      · exact .inr (List.mem_append_right _ hz)
    rcases hz2 with rfl | hz2
    · have h3 : DaI B w1 z := own_base hr hB
      exact h3.chg e.chg (fun b hb hS => by
        have := hra b hb
        rcases hS with rfl | hS
        · omega
        · have := hwl b (.inr (.inl hS)); omega)
    · exact (h1.da z hz2).chg e.chg (fun b hb hS => by
        have hds := h.ds b ⟨z, hz2, hb⟩
        rcases hS with rfl | hS
        · exact hds.1 rfl
        · exact hds.2.1 hS)
  · have := hra b hb
    have := hdl b ⟨x, hx, hc⟩
    omega
  · rcases dbs_ins hi b hb with hb | hb
    · have h2 := hra b hb
      refine ⟨by omega, fun hk => ?_, fun hk => ?_⟩
      · rcases hfp b hk with h3 | h3
        · have := hwl b (.inr (.inl h3)); omega
        · omega
      · have := hwl b (.inr (.inr hk)); omega
    · have h2 := h.ds b hb
      refine ⟨h2.1, fun hk => ?_, h2.2.2⟩
      rcases hfp b hk with h3 | h3
      · exact h2.2.1 h3
      · have := hdl b hb; omega
  · rcases List.mem_append.1 hz with hz | hz
    · rcases (hi.mem z).1 hz with rfl | hz
      · exact hd2
      · exact h.le z (List.mem_append_left _ hz)
    · exact h.le z (List.mem_append_right _ hz)
/-- an empty region is put in -/
theorem SpD.addE {B : Nat} {w w1 w2 : World} {s : Nat} {v1 v2 v' : Value} {X Y Y' : List Rw} {m : Nat} {r : Rg} (h : SpD B w s v1 v2 X Y m) (o : Out w w1) (hr : DaI w.heap.size w1 r) (e : ShE B s 1 #[v1, v2] 92 w1 w2 v2 Y v' Y') (hi : InsP (flat Y) r (flat Y')) (hl : ∀ z ∈ Y', z.L.length ≤ 128) (hc : clP (flat X) (flat Y) r.f r.d.length = false) (hd : r.d = []) (hm : r.f < 18446744073709551616) (hM : m + 1 ≤ 5864062014805) (hB : B ≤ w.heap.size) :
    SpD B w2 s v1 v' X Y' (m + 1) ∧ Chg (fpD s v1 v2 X Y) w w2 ∧ (∀ k, fpD s v1 v' X Y' k → fpD s v1 v2 X Y k ∨ w.heap.size ≤ k) := by
  have h1 := h.out o
  have cE : Chg (fpD s v1 v2 X Y) w w2 := (Chg.of_out o).trans e.chg (fun k hk _ => by
    rcases hk with hk | hk
    · exact .inl hk
    · exact .inr (.inr hk))
  have hwl : ∀ k, fpD s v1 v2 X Y k → k < w.heap.size := fun k hk => (h.lt hk).2
  have hfp : ∀ k, fpS v' Y' k → fpS v2 Y k ∨ w1.heap.size ≤ k := e.fp
  have hos := o.size
  have hso : s < w.heap.size := hwl s (.inl rfl)
  have hra : ∀ b, r.a = some b → w.heap.size ≤ b ∧ b < w1.heap.size := fun b hb => hr.blk hb
  have hdl : ∀ b, dbs (flat X ++ flat Y) b → b < w.heap.size := fun b ⟨z, hz, hb⟩ => ((h.da z hz).blk hb).2
  have nml : (flat X ++ flat Y').length ≤ m + 1 := by
    have := hi.perm.length_eq
    have := h.nm
    simp only [List.length_append, List.length_cons] at *
    omega
  have hnY : Y'.length ≤ 5864062014805 := by
    have := rows_le e.sh.ne
    rw [List.length_append] at nml
    omega
  have hmem : ∀ z, z ∈ flat X ++ flat Y' → z = r ∨ z ∈ flat X ++ flat Y := fun z hz => by
    rcases List.mem_append.1 hz with hz | hz
    · exact .inr (List.mem_append_left _ hz)
    · rcases (hi.mem z).1 hz with hz | hz
      · exact .inl hz
      · exact .inr (List.mem_append_right _ hz)
  refine ⟨⟨⟨e.blk, h.sp.bs, h1.sp.fil.keep e.chg (fun k hk hS => ?_), e.sh, h.sp.s1, fun hk => ?_, fun k hk hk2 => ?_, h.sp.nX, hnY⟩, h.ok.addE hi hc hd hm, h.lX, hl, fun z hz => ?_, dn_comm (dn_ins hi (dn_comm h.dn) (fun x hx b hb hc => ?_)), fun b hb => ?_, fun z hz => ?_, nml⟩, cE, fun k hk => by
    rcases hk with hk | hk | hk
    · exact .inl (.inl hk)
    · exact .inl (.inr (.inl hk))
    · rcases hfp k hk with h2 | h2
      · exact .inl (.inr (.inr h2))
      · exact .inr (by omega)⟩
  · rcases hS with rfl | hS
    · exact h.sp.s1 hk
    · exact h.sp.d12 k hk hS
  · rcases hfp s hk with h2 | h2
    · exact h.sp.s2 h2
    · omega
  · rcases hfp k hk2 with h2 | h2
    · exact h.sp.d12 k hk h2
    · have := hwl k (.inr (.inl hk)); omega
  · rcases hmem z hz with rfl | hz2
    · have h3 : DaI B w1 z := own_base hr hB
      exact h3.chg e.chg (fun b hb hS => by
        have := hra b hb
        rcases hS with rfl | hS
        · omega
        · have := hwl b (.inr (.inr hS)); omega)
    · exact (h1.da z hz2).chg e.chg (fun b hb hS => by
        have hds := h.ds b ⟨z, hz2, hb⟩
        rcases hS with rfl | hS
        · exact hds.1 rfl
        · exact hds.2.2 hS)
  · have := hra b hb
    have := hdl b ⟨x, by rcases List.mem_append.1 hx with hx | hx <;> simp [hx], hc⟩
    omega
  · obtain ⟨z, hz, hb⟩ := hb
    rcases hmem z hz with rfl | hz
    · have h2 := hra b hb
      refine ⟨by omega, fun hk => ?_, fun hk => ?_⟩
      · have := hwl b (.inr (.inl hk)); omega
      · rcases hfp b hk with h3 | h3
        · have := hwl b (.inr (.inr h3)); omega
        · omega
    · have h2 := h.ds b ⟨z, hz, hb⟩
      refine ⟨h2.1, h2.2.1, fun hk => ?_⟩
      rcases hfp b hk with h3 | h3
      · exact h2.2.2 h3
      · have := hdl b ⟨z, hz, hb⟩; omega
  · rcases hmem z hz with rfl | hz
    · rw [hd]; simp
    · exact h.le z hz
end Go.Proofs.YtekjfbmebekmeaaGreat
