import Derived.Test.YtekjfbmebekmeaaGreatGa08
namespace Go.Proofs.YtekjfbmebekmeaaGreat
open Go.RowKit
set_option linter.unusedVariables false
set_option linter.unusedSimpArgs false
def dbs (L : List Rg) (b : Nat) : Prop := ∃ z ∈ L, z.a = some b
structure SpD (B : Nat) (w : World) (s : Nat) (v1 v2 : Value) (X Y : List Rw) (m : Nat) : Prop where
  sp : Sp B w s v1 v2 X Y
  ok : SpOk (flat X) (flat Y)
  lX : ∀ z ∈ X, z.L.length ≤ 128
  lY : ∀ z ∈ Y, z.L.length ≤ 128
  da : ∀ z ∈ flat X ++ flat Y, DaI B w z
  dn : (flat X ++ flat Y).Pairwise (fun x y => ∀ b, x.a = some b → y.a ≠ some b)
  ds : ∀ b, dbs (flat X ++ flat Y) b → b ≠ s ∧ ¬ fpS v1 X b ∧ ¬ fpS v2 Y b
  le : ∀ z ∈ flat X ++ flat Y, z.d.length ≤ 140737488355328
  nm : (flat X ++ flat Y).length ≤ m
theorem rows_le {X : List Rw} (h : ∀ x ∈ X, x.L ≠ []) : X.length ≤ (flat X).length := by
  induction X with
  | nil => simp
  | cons x X ih =>
    rw [flat_cons, List.length_append, List.length_cons]
    have h1 := List.length_pos_iff.2 (h x (by simp))
    have h2 := ih (fun y hy => h y (by simp [hy]))
    omega
def fpD (s : Nat) (v1 v2 : Value) (X Y : List Rw) (k : Nat) : Prop := k = s ∨ fpS v1 X k ∨ fpS v2 Y k
theorem SpD.keep {S : Nat → Prop} {B : Nat} {w w' : World} {s : Nat} {v1 v2 : Value} {X Y : List Rw} {m : Nat} (h : SpD B w s v1 v2 X Y m) (c : Chg S w w') (hs : ∀ k, fpD s v1 v2 X Y k ∨ dbs (flat X ++ flat Y) k → ¬ S k) : SpD B w' s v1 v2 X Y m :=
  ⟨⟨blk_chg h.sp.blk c (hs s (.inl (.inl rfl))), h.sp.bs, h.sp.fil.keep c (fun k hk => hs k (.inl (.inr (.inl hk)))), h.sp.emp.keep c (fun k hk => hs k (.inl (.inr (.inr hk)))), h.sp.s1, h.sp.s2, h.sp.d12, h.sp.nX, h.sp.nY⟩, h.ok, h.lX, h.lY, fun z hz => (h.da z hz).chg c (fun b hb => hs b (.inr ⟨z, hz, hb⟩)), h.dn, h.ds, h.le, h.nm⟩
theorem SpD.out {B : Nat} {w w' : World} {s : Nat} {v1 v2 : Value} {X Y : List Rw} {m : Nat} (h : SpD B w s v1 v2 X Y m) (o : Out w w') : SpD B w' s v1 v2 X Y m := h.keep (Chg.of_out (S := fun _ => False) o) (fun _ _ h => h)
theorem SpD.lt {B : Nat} {w : World} {s : Nat} {v1 v2 : Value} {X Y : List Rw} {m : Nat} (h : SpD B w s v1 v2 X Y m) {k : Nat} (hk : fpD s v1 v2 X Y k) : B ≤ k ∧ k < w.heap.size := by
  rcases hk with rfl | hk | hk
  · exact ⟨h.sp.bs, (Array.getElem?_eq_some_iff.1 h.sp.blk).1⟩
  · exact h.sp.fil.lt hk
  · exact h.sp.emp.lt hk
theorem DaI.blk {B : Nat} {w : World} {x : Rg} (h : DaI B w x) {b : Nat} (hb : x.a = some b) : B ≤ b ∧ b < w.heap.size := h.lt b (by simp [daV, hb, Value.ownBlock])
theorem dbs_ins {F F' G : List Rg} {r : Rg} (h : InsP F r F') (b : Nat) : dbs (F' ++ G) b → r.a = some b ∨ dbs (F ++ G) b := by
  rintro ⟨z, hz, hb⟩
  rcases List.mem_append.1 hz with hz | hz
  · rcases (h.mem z).1 hz with rfl | hz
    · exact .inl hb
    · exact .inr ⟨z, List.mem_append_left _ hz, hb⟩
  · exact .inr ⟨z, List.mem_append_right _ hz, hb⟩
theorem pair_ins {R : Rg → Rg → Prop} (hsy : ∀ x y, R x y → R y x) {F F' : List Rg} {r : Rg} (h : InsP F r F') (hp : F.Pairwise R) (hr : ∀ x ∈ F, R r x) : F'.Pairwise R := by
  obtain ⟨P, Q, rfl, rfl, _, _⟩ := h
  obtain ⟨p1, p2, p3⟩ := List.pairwise_append.1 hp
  refine List.pairwise_append.2 ⟨p1, List.pairwise_cons.2 ⟨fun y hy => hr y (by simp [hy]), p2⟩, fun x hx y hy => ?_⟩
  rcases List.mem_cons.1 hy with rfl | hy
  · exact hsy _ _ (hr x (by simp [hx]))
  · exact p3 x hx y hy
theorem dn_ins {F F' G : List Rg} {r : Rg} (h : InsP F r F') (hp : (F ++ G).Pairwise (fun x y => ∀ b, x.a = some b → y.a ≠ some b)) (hr : ∀ x ∈ F ++ G, ∀ b, r.a = some b → x.a ≠ some b) : (F' ++ G).Pairwise (fun x y => ∀ b, x.a = some b → y.a ≠ some b) := by
  obtain ⟨p1, p2, p3⟩ := List.pairwise_append.1 hp
  refine List.pairwise_append.2 ⟨pair_ins (fun x y hxy b hb hy => hxy b hy hb) h p1 (fun x hx => hr x (List.mem_append_left _ hx)), p2, fun x hx y hy => ?_⟩
  rcases (h.mem x).1 hx with rfl | hx
  · exact hr y (List.mem_append_right _ hy)
  · exact p3 x hx y hy
theorem dn_comm {F G : List Rg} (hp : (F ++ G).Pairwise (fun x y => ∀ b, x.a = some b → y.a ≠ some b)) : (G ++ F).Pairwise (fun x y => ∀ b, x.a = some b → y.a ≠ some b) := by
  obtain ⟨p1, p2, p3⟩ := List.pairwise_append.1 hp
  exact List.pairwise_append.2 ⟨p2, p1, fun x hx y hy b hb hc => p3 y hy x hx b hc hb⟩
theorem SpD.addF {B : Nat} {w w1 w2 : World} {s : Nat} {v1 v2 v' : Value} {X Y X' : List Rw} {m : Nat} {r : Rg} (h : SpD B w s v1 v2 X Y m) (o : Out w w1) (hr : DaI w.heap.size w1 r) (e : ShE B s 0 #[v1, v2] 92 w1 w2 v1 X v' X') (hi : InsP (flat X) r (flat X')) (hl : ∀ z ∈ X', z.L.length ≤ 128) (hc : clP (flat X) (flat Y) r.f r.d.length = false) (hd : 0 < r.d.length) (hm : r.f + r.d.length ≤ 18446744073709551616) (hd2 : r.d.length ≤ 140737488355328) (hM : m + 1 ≤ 5864062014805) (hB : B ≤ w.heap.size) :
    SpD B w2 s v' v2 X' Y (m + 1) ∧ Chg (fpD s v1 v2 X Y) w w2 ∧ (∀ k, fpD s v' v2 X' Y k → fpD s v1 v2 X Y k ∨ w.heap.size ≤ k) := by
  have h1 := h.out o
  have cE : Chg (fpD s v1 v2 X Y) w w2 := (Chg.of_out o).trans e.chg (fun k hk _ => by
    rcases hk with hk | hk
    · exact .inl hk
    · exact .inr (.inl hk))
  have hwl : ∀ k, fpD s v1 v2 X Y k → k < w.heap.size := fun k hk => (h.lt hk).2
  have hfp : ∀ k, fpS v' X' k → fpS v1 X k ∨ w1.heap.size ≤ k := e.fp
  have hos := o.size
  have hso : s < w.heap.size := hwl s (.inl rfl)
  have hra : ∀ b, r.a = some b → w.heap.size ≤ b ∧ b < w1.heap.size := fun b hb => hr.blk hb
  have hdl : ∀ b, dbs (flat X ++ flat Y) b → b < w.heap.size := fun b ⟨z, hz, hb⟩ => ((h.da z hz).blk hb).2
  have nml : (flat X' ++ flat Y).length ≤ m + 1 := by
    have := hi.perm.length_eq
    have := h.nm
    simp only [List.length_append, List.length_cons] at *
    omega
  have hnX : X'.length ≤ 5864062014805 := by
    have := rows_le e.sh.ne
    rw [List.length_append] at nml
    omega
  refine ⟨⟨⟨e.blk, h.sp.bs, e.sh, h1.sp.emp.keep e.chg (fun k hk hS => ?_), fun hk => ?_, h.sp.s2, fun k hk hk2 => ?_, hnX, h.sp.nY⟩, h.ok.addF hi hc hd hm, hl, h.lY, fun z hz => ?_, dn_ins hi h.dn (fun x hx b hb hc => ?_), fun b hb => ?_, fun z hz => ?_, nml⟩, cE, fun k hk => by
    rcases hk with hk | hk | hk
    · exact .inl (.inl hk)
    · rcases hfp k hk with h2 | h2
      · exact .inl (.inr (.inl h2))
      · exact .inr (by omega)
    · exact .inl (.inr (.inr hk))⟩
  · rcases hS with rfl | hS
    · exact h.sp.s2 hk
    · exact h.sp.d12 k hS hk
  · rcases hfp s hk with h2 | h2
    · exact h.sp.s1 h2
    · omega
  · rcases hfp k hk with h2 | h2
    · exact h.sp.d12 k h2 hk2
    · have := hwl k (.inr (.inr hk2)); omega
  · have hz2 : z = r ∨ z ∈ flat X ++ flat Y := by
      rcases List.mem_append.1 hz with hz | hz
      · rcases (hi.mem z).1 hz with hz | hz
        · exact .inl hz
        · exact .inr (List.mem_append_left _ hz)
      · exact .inr (List.mem_append_right _ hz)
    rcases hz2 with rfl | hz2
    · have h3 : DaI B w1 z := own_base hr hB
      exact h3.chg e.chg (fun b hb hS => by
        have := hra b hb
        rcases hS with rfl | hS
        · omega
        · have := hwl b (.inr (.inl hS)); omega)
    · exact (h1.da z hz2).chg e.chg (fun b hb hS => by
        have hds := h.ds b ⟨z, hz2, hb⟩
        rcases hS with rfl | hS
        · exact hds.1 rfl
        · exact hds.2.1 hS)
  · have := hra b hb
    have := hdl b ⟨x, hx, hc⟩
    omega
  · rcases dbs_ins hi b hb with hb | hb
    · have h2 := hra b hb
      refine ⟨by omega, fun hk => ?_, fun hk => ?_⟩
      · rcases hfp b hk with h3 | h3
        · have := hwl b (.inr (.inl h3)); omega
        · omega
      · have := hwl b (.inr (.inr hk)); omega
    · have h2 := h.ds b hb
      refine ⟨h2.1, fun hk => ?_, h2.2.2⟩
      rcases hfp b hk with h3 | h3
      · exact h2.2.1 h3
      · have := hdl b hb; omega
  · rcases List.mem_append.1 hz with hz | hz
    · rcases (hi.mem z).1 hz with rfl | hz
      · exact hd2
      · exact h.le z (List.mem_append_left _ hz)
    · exact h.le z (List.mem_append_right _ hz)
theorem SpD.addE {B : Nat} {w w1 w2 : World} {s : Nat} {v1 v2 v' : Value} {X Y Y' : List Rw} {m : Nat} {r : Rg} (h : SpD B w s v1 v2 X Y m) (o : Out w w1) (hr : DaI w.heap.size w1 r) (e : ShE B s 1 #[v1, v2] 92 w1 w2 v2 Y v' Y') (hi : InsP (flat Y) r (flat Y')) (hl : ∀ z ∈ Y', z.L.length ≤ 128) (hc : clP (flat X) (flat Y) r.f r.d.length = false) (hd : r.d = []) (hm : r.f < 18446744073709551616) (hM : m + 1 ≤ 5864062014805) (hB : B ≤ w.heap.size) :
    SpD B w2 s v1 v' X Y' (m + 1) ∧ Chg (fpD s v1 v2 X Y) w w2 ∧ (∀ k, fpD s v1 v' X Y' k → fpD s v1 v2 X Y k ∨ w.heap.size ≤ k) := by
  have h1 := h.out o
  have cE : Chg (fpD s v1 v2 X Y) w w2 := (Chg.of_out o).trans e.chg (fun k hk _ => by
    rcases hk with hk | hk
    · exact .inl hk
    · exact .inr (.inr hk))
  have hwl : ∀ k, fpD s v1 v2 X Y k → k < w.heap.size := fun k hk => (h.lt hk).2
  have hfp : ∀ k, fpS v' Y' k → fpS v2 Y k ∨ w1.heap.size ≤ k := e.fp
  have hos := o.size
  have hso : s < w.heap.size := hwl s (.inl rfl)
  have hra : ∀ b, r.a = some b → w.heap.size ≤ b ∧ b < w1.heap.size := fun b hb => hr.blk hb
  have hdl : ∀ b, dbs (flat X ++ flat Y) b → b < w.heap.size := fun b ⟨z, hz, hb⟩ => ((h.da z hz).blk hb).2
  have nml : (flat X ++ flat Y').length ≤ m + 1 := by
    have := hi.perm.length_eq
    have := h.nm
    simp only [List.length_append, List.length_cons] at *
    omega
  have hnY : Y'.length ≤ 5864062014805 := by
    have := rows_le e.sh.ne
    rw [List.length_append] at nml
    omega
  have hmem : ∀ z, z ∈ flat X ++ flat Y' → z = r ∨ z ∈ flat X ++ flat Y := fun z hz => by
    rcases List.mem_append.1 hz with hz | hz
    · exact .inr (List.mem_append_left _ hz)
    · rcases (hi.mem z).1 hz with hz | hz
      · exact .inl hz
      · exact .inr (List.mem_append_right _ hz)
  refine ⟨⟨⟨e.blk, h.sp.bs, h1.sp.fil.keep e.chg (fun k hk hS => ?_), e.sh, h.sp.s1, fun hk => ?_, fun k hk hk2 => ?_, h.sp.nX, hnY⟩, h.ok.addE hi hc hd hm, h.lX, hl, fun z hz => ?_, dn_comm (dn_ins hi (dn_comm h.dn) (fun x hx b hb hc => ?_)), fun b hb => ?_, fun z hz => ?_, nml⟩, cE, fun k hk => by
    rcases hk with hk | hk | hk
    · exact .inl (.inl hk)
    · exact .inl (.inr (.inl hk))
    · rcases hfp k hk with h2 | h2
      · exact .inl (.inr (.inr h2))
      · exact .inr (by omega)⟩
  · rcases hS with rfl | hS
    · exact h.sp.s1 hk
    · exact h.sp.d12 k hk hS
  · rcases hfp s hk with h2 | h2
    · exact h.sp.s2 h2
    · omega
  · rcases hfp k hk2 with h2 | h2
    · exact h.sp.d12 k hk h2
    · have := hwl k (.inr (.inl hk)); omega
  · rcases hmem z hz with rfl | hz2
    · have h3 : DaI B w1 z := own_base hr hB
      exact h3.chg e.chg (fun b hb hS => by
        have := hra b hb
        rcases hS with rfl | hS
        · omega
        · have := hwl b (.inr (.inr hS)); omega)
    · exact (h1.da z hz2).chg e.chg (fun b hb hS => by
        have hds := h.ds b ⟨z, hz2, hb⟩
        rcases hS with rfl | hS
        · exact hds.1 rfl
        · exact hds.2.2 hS)
  · have := hra b hb
    have := hdl b ⟨x, by rcases List.mem_append.1 hx with hx | hx <;> simp [hx], hc⟩
    omega
  · obtain ⟨z, hz, hb⟩ := hb
    rcases hmem z hz with rfl | hz
    · have h2 := hra b hb
      refine ⟨by omega, fun hk => ?_, fun hk => ?_⟩
      · have := hwl b (.inr (.inl hk)); omega
      · rcases hfp b hk with h3 | h3
        · have := hwl b (.inr (.inr h3)); omega
        · omega
    · have h2 := h.ds b ⟨z, hz, hb⟩
      refine ⟨h2.1, h2.2.1, fun hk => ?_⟩
      rcases hfp b hk with h3 | h3
      · exact h2.2.2 h3
      · have := hdl b ⟨z, hz, hb⟩; omega
  · rcases hmem z hz with rfl | hz
    · rw [hd]; simp
    · exact h.le z hz
theorem mayR_iff {f n : Nat} (hf : f < 18446744073709551616) : mayR f n = true ↔ n = 0 ∨ f + (n - 1) < 18446744073709551616 := by
  unfold mayR
  simp
  omega
def AddE (B s : Nat) (v1 v2 : Value) (X Y : List Rw) (m f : Nat) (d : List UInt8) (w : World) (e : Ending) (w' : World) : Prop :=
  (!mayR f d.length || clP (flat X) (flat Y) f d.length) = true ∧ e = .returned (.int .i64 201) ∧ Out w w' ∨
  (!mayR f d.length || clP (flat X) (flat Y) f d.length) = false ∧ e = .returned (.int .i64 0) ∧ ∃ v1' v2' X' Y', ∃ x : Rg, SpD B w' s v1' v2' X' Y' (m + 1) ∧ Chg (fpD s v1 v2 X Y) w w' ∧ (∀ k, fpD s v1' v2' X' Y' k ∨ x.a = some k → fpD s v1 v2 X Y k ∨ w.heap.size ≤ k) ∧ x.f = f ∧ x.d = d ∧ (d = [] ∧ InsP (flat Y) x (flat Y') ∧ X' = X ∨ ¬ d = [] ∧ InsP (flat X) x (flat X') ∧ Y' = Y)
set_option maxHeartbeats 4000000 in
set_option maxRecDepth 100000 in
theorem Add_any (w : World) (B s : Nat) (v1 v2 : Value) (X Y : List Rw) (m f c : Nat) (a : Option Addr) (d : List UInt8) (h : SpD B w s v1 v2 X Y m) (hM : m + 1 ≤ 5864062014804) (hr : RestA w a d) (hd : d.length ≤ 140737488355328) (hf : f < 18446744073709551616) :
    Calls Tryz.prog 22 #[.pointer (some ⟨s, 0, none⟩), .agg #[.int .u64 f, .slice a d.length c]] w fun e w' => AddE B s v1 v2 X Y m f d w e w' := by
  obtain ⟨n, hn⟩ : ∃ n, Hid (n = d.length) := ⟨_, rfl⟩
  rw [← hn.out]
  obtain ⟨wA, HA, cA0, cA1, oA, sA⟩ := box_two w (.int .u64 f) (.slice a n c) 36
  have OA := hidOf oA
  have SA := hidOf sA
  have H := hidOf h
  have HR := hidOf hr
  have HD := hidOf hd
  have HM := hidOf hM
  have HF := hidOf hf
  have M0C := hidOf (fun W => mayBeR W f n c a (by rw [hn.out]; exact hd) hf)
  have P0C := hidOf (fun W (o : Out w W) => copyOf_any W a f c d (hr.out o) hd)
  rw [← hn.out] at P0C
  have I0C := hidOf (fun W => isEmptyR W f n c a)
  obtain ⟨bm, hbm⟩ : ∃ bm, Hid (bm = mayR f n) := ⟨_, rfl⟩
  rw [← hbm.out] at M0C
  obtain ⟨bc, hbc⟩ : ∃ bc, Hid (bc = clP (flat X) (flat Y) f n) := ⟨_, rfl⟩
  clear oA sA hr hd hM hf h
  cases bm with
  | false =>
    go_enter Tryz.func22, Tryz.ntmps22
    go_upto_region 1 with fail
    rw [← HA.out]
    go_wp2_with (go_at_call 49; refine (M0C.out _).mono ?_; rintro e w1 ⟨rfl, ho1⟩; have O1 := hidOf ho1; clear ho1)
    go_ret
    exact .inl ⟨by rw [← hn.out, ← hbm.out]; rfl, rfl, OA.out.trans O1.out⟩
  | true =>
    have C0C : Hid (∀ W, Out w W → Calls Tryz.prog 50 #[.pointer (some ⟨s, 0, none⟩), .agg #[.int .u64 f, .slice a n c]] W fun e w' => e = .returned (.bool bc) ∧ Out W w') := hidOf (fun W o => by
      rw [hbc.out]
      have h2 := H.out.out o
      exact clashes_any W B s v1 v2 X Y f n c a h2.sp h2.ok.sf h2.ok.se (fun y hy => ⟨(h2.ok.fd y hy).1, (h2.ok.fd y hy).2, h2.le y (List.mem_append_left _ hy)⟩) (by rw [hn.out]; exact HD.out) ((mayR_iff HF.out).1 hbm.out.symm))
    cases bc with
    | true =>
      go_enter Tryz.func22, Tryz.ntmps22
      go_upto_region 1 with fail
      rw [← HA.out]
      go_wp2_with (first | (go_at_call 49; refine (M0C.out _).mono ?_; rintro e w1 ⟨rfl, ho1⟩; have O1 := hidOf (OA.out.trans ho1); have c10 := cell_later ho1 cA0; have c11 := cell_later ho1 cA1; clear ho1) | (go_at_call 50; refine (C0C.out _ O1.out).mono ?_; rintro e w2 ⟨rfl, ho2⟩; have O2 := hidOf (O1.out.trans ho2); clear ho2))
      go_ret
      exact .inl ⟨by rw [← hn.out, ← hbm.out, ← hbc.out]; rfl, rfl, O2.out⟩
    | false =>
      go_enter Tryz.func22, Tryz.ntmps22
      go_upto_region 1 with fail
      rw [← HA.out]
      go_upto_region 6 with (first | (go_at_call 49; refine (M0C.out _).mono ?_; rintro e w1 ⟨rfl, ho1⟩; have O1 := hidOf (OA.out.trans ho1); have c10 := cell_later ho1 cA0; have c11 := cell_later ho1 cA1; clear ho1) | (go_at_call 50; refine (C0C.out _ O1.out).mono ?_; rintro e w2 ⟨rfl, ho2⟩; have O2 := hidOf (O1.out.trans ho2); have c20 := cell_later ho2 c10; have c21 := cell_later ho2 c11; clear ho2) | (go_at_call 51; refine (P0C.out _ O2.out).mono ?_; rintro e w3 ⟨x, hxf, hxd, rfl, hxa, ho3⟩; have XF := hidOf hxf; have XD := hidOf hxd; have XA := hidOf hxa; have O23 := hidOf ho3; have O3 := hidOf (O2.out.trans ho3); have c30 := cell_later ho3 c20; have c31 := cell_later ho3 c21; clear hxf hxd hxa ho3))
      obtain ⟨wB, HB, b0, b1, oB, sB⟩ := box_two w3 (.int .u64 (x.f : Nat)) (.slice (x.a.map fun b => ⟨b, 0, none⟩) x.d.length x.c) 36
      rw [← HB.out]
      have OB := hidOf (O3.out.trans oB)
      have cB0 := cell_later oB c30
      have cB1 := cell_later oB c31
      have hcl : Hid ((!mayR f d.length || clP (flat X) (flat Y) f d.length) = false) := hidOf (by rw [← hn.out, ← hbm.out, ← hbc.out]; rfl)
      have hrx : Hid (∀ W, Out wB W → DaI w.heap.size W x) := hidOf (fun W o => DaI.out (x := x) (own_base XA.out O2.out.size) (oB.trans o))
      have hB : B ≤ w.heap.size := Nat.le_trans H.out.sp.bs (Nat.le_of_lt (H.out.lt (.inl rfl)).2)
      have hqw : w.heap.size ≤ w3.heap.size := O3.out.size
      have hnf : ∀ k, fpD s v1 v2 X Y k → k ≠ w3.heap.size := fun k hk => by have := (H.out.lt hk).2; omega
      have HNF := hidOf hnf
      have hnm := H.out.nm
      have hrX := rows_le H.out.sp.fil.ne
      have hrY := rows_le H.out.sp.emp.ne
      rw [List.length_append] at hnm
      have hM := HM.out
      have hX24 : (X.length + 1) * 24 ≤ 140737488355328 := by omega
      have hY24 : (Y.length + 1) * 24 ≤ 140737488355328 := by omega
      have AE := hidOf (fun W (o : Out w W) => add_any W B s 1 #[v1, v2] 92 v2 Y x (H.out.out o).sp.emp (H.out.out o).sp.blk rfl H.out.sp.s2 H.out.sp.bs hY24 H.out.ok.se H.out.lY)
      have AF := hidOf (fun W (o : Out w W) => add_any W B s 0 #[v1, v2] 92 v1 X x (H.out.out o).sp.fil (H.out.out o).sp.blk rfl H.out.sp.s1 H.out.sp.bs hX24 H.out.ok.sf H.out.lX)
      have OBR := hidOf oB
      clear oB hnf hnm hrX hrY hX24 hY24 hM
      by_cases hn0 : n = 0
      · have hb : (n == 0) = true := by simp [hn0]
        rw [hb] at I0C
        have HN0 := hidOf hn0
        clear hn0 hb
        go_upto_region 7 with (go_at_call 52; refine (I0C.out _).mono ?_; rintro e w4 ⟨rfl, ho4⟩; have O4 := hidOf ho4; have d0 := cell_later ho4 b0; have d1 := cell_later ho4 b1; clear ho4)
        refine wp_region_held_drew (S := fun w' => w'.cell? ⟨w3.heap.size, 0, none⟩ = some (.int .u64 (x.f : Nat)) ∧ w'.cell? ⟨w3.heap.size, 1, none⟩ = some (.slice (x.a.map fun b => ⟨b, 0, none⟩) x.d.length x.c)) (by kernel_rfl) ?_ (fun hHeld => ?_)
        · exact ⟨d0, d1⟩
        refine wpAnyH_take (i := 0) (v := ?_) rfl (by kernel_rfl) (by kernel_rfl) (by kernel_rfl) (fun _ _ _ h => h) (Or.inl ⟨by rfl, ?_⟩) (by assumption) ?_
        rotate_left
        · (intro w hSw; (try dsimp only at hSw); go_simp; (try with_reducible rfl))
        show wpAnyH _ _ _ _ _ _ _ (Act.put _ (some 22) _) _
        simp only [Act.put, List.setIfInBounds_toArray, List.set_cons_zero, List.set_cons_succ]
        refine wpAnyH_take (i := 1) (v := ?_) rfl (by kernel_rfl) (by kernel_rfl) (by kernel_rfl) (fun _ _ _ h => h) (Or.inl ⟨by rfl, ?_⟩) (by assumption) ?_
        rotate_left
        · (intro w hSw; (try dsimp only at hSw); go_simp; (try with_reducible rfl))
        show wpAnyH _ _ _ _ _ _ _ (Act.put _ (some 23) _) _
        simp only [Act.put, List.setIfInBounds_toArray, List.set_cons_zero, List.set_cons_succ]
        refine wpAnyH_take (i := 2) (v := ?_) rfl (by kernel_rfl) (by kernel_rfl) (by kernel_rfl) (fun _ _ _ h => h) (Or.inl ⟨by rfl, ?_⟩) (by assumption) ?_
        rotate_left
        · (intro w hSw; (try dsimp only at hSw); go_simp; (try with_reducible rfl))
        show wpAnyH _ _ _ _ _ _ _ (Act.put _ (some 24) _) _
        simp only [Act.put, List.setIfInBounds_toArray, List.set_cons_zero, List.set_cons_succ]
        refine wpAnyH_take (i := 3) (v := ?_) rfl (by kernel_rfl) (by kernel_rfl) (by kernel_rfl) (fun _ _ _ h => h) (Or.inl ⟨by rfl, ?_⟩) (by assumption) ?_
        rotate_left
        · (intro w hSw; (try dsimp only at hSw); go_simp; (try with_reducible rfl))
        show wpAnyH _ _ _ _ _ _ _ (Act.put _ (some 25) _) _
        simp only [Act.put, List.setIfInBounds_toArray, List.set_cons_zero, List.set_cons_succ]
        refine wpAnyH_ready (rs := [4]) (by kernel_rfl) (by simp) ?_
        refine (AllReadyH.cons rfl (fun K4 hK4 => ?_) AllReadyH.nil)
        · rw [if_pos (by rfl)]
          go_simp
          go_at_call 53
          refine (AE.out _ ((OB.out.trans O4.out).drew)).mono ?_
          rintro e w5 ⟨⟨q, rfl⟩, v', X', se, hi, hl⟩
          have hk5 : ∀ k, k = s ∨ fpS v2 Y k → k ≠ w3.heap.size := fun k hk => by
            rcases hk with hk | hk
            · exact HNF.out k (.inl hk)
            · exact HNF.out k (.inr (.inr hk))
          have e0 := se.chg.cell (show w4.drew.cell? ⟨w3.heap.size, 0, none⟩ = _ from d0) (fun hk => hk5 _ hk rfl)
          have e1 := se.chg.cell (show w4.drew.cell? ⟨w3.heap.size, 1, none⟩ = _ from d1) (fun hk => hk5 _ hk rfl)
          have SE := hidOf se
          have HI := hidOf hi
          have HLL := hidOf hl
          clear se hi hl hk5
          refine hK4.out _ _ ⟨e0, e1⟩ (fun hHeld4 => ?_)
          refine wpAnyH_done (by kernel_rfl) ?_ _
          go_wp2
          go_ret
          have hxl : x.d.length = n := by rw [XD.out, hn.out]
          have hmay := (mayR_iff HF.out).1 hbm.out.symm
          have hclx : clP (flat X) (flat Y) x.f x.d.length = false := by rw [XF.out, hxl]; exact hbc.out.symm
          have oW : Out w w4.drew := (OB.out.trans O4.out).drew
          have hdx := hrx.out w4.drew (O4.out.drew)
          have hd0 : d = [] := List.eq_nil_of_length_eq_zero (by rw [← hn.out]; exact HN0.out)
          obtain ⟨sp5, c5, g5⟩ := H.out.addE oW hdx SE.out HI.out HLL.out hclx (by rw [XD.out]; exact hd0) (by rw [XF.out]; exact HF.out) (by have := HM.out; omega) hB
          exact .inr ⟨hcl.out, rfl, v1, v', X, X', x, sp5, c5, (fun k hk => hk.elim (g5 k) (fun e => .inr (Nat.le_trans O2.out.size (DaI.blk XA.out e).1))), XF.out, XD.out, .inl ⟨hd0, HI.out, rfl⟩⟩
      · have hb : (n == 0) = false := by simp [hn0]
        rw [hb] at I0C
        have HN0 := hidOf hn0
        clear hn0 hb
        go_upto_region 8 with (go_at_call 52; refine (I0C.out _).mono ?_; rintro e w4 ⟨rfl, ho4⟩; have O4 := hidOf ho4; have d0 := cell_later ho4 b0; have d1 := cell_later ho4 b1; clear ho4)
        refine wp_region_held_drew (S := fun w' => w'.cell? ⟨w3.heap.size, 0, none⟩ = some (.int .u64 (x.f : Nat)) ∧ w'.cell? ⟨w3.heap.size, 1, none⟩ = some (.slice (x.a.map fun b => ⟨b, 0, none⟩) x.d.length x.c)) (by kernel_rfl) ?_ (fun hHeld => ?_)
        · exact ⟨d0, d1⟩
        refine wpAnyH_take (i := 0) (v := ?_) rfl (by kernel_rfl) (by kernel_rfl) (by kernel_rfl) (fun _ _ _ h => h) (Or.inl ⟨by rfl, ?_⟩) (by assumption) ?_
        rotate_left
        · (intro w hSw; (try dsimp only at hSw); go_simp; (try with_reducible rfl))
        show wpAnyH _ _ _ _ _ _ _ (Act.put _ (some 27) _) _
        simp only [Act.put, List.setIfInBounds_toArray, List.set_cons_zero, List.set_cons_succ]
        refine wpAnyH_take (i := 1) (v := ?_) rfl (by kernel_rfl) (by kernel_rfl) (by kernel_rfl) (fun _ _ _ h => h) (Or.inl ⟨by rfl, ?_⟩) (by assumption) ?_
        rotate_left
        · (intro w hSw; (try dsimp only at hSw); go_simp; (try with_reducible rfl))
        show wpAnyH _ _ _ _ _ _ _ (Act.put _ (some 28) _) _
        simp only [Act.put, List.setIfInBounds_toArray, List.set_cons_zero, List.set_cons_succ]
        refine wpAnyH_take (i := 2) (v := ?_) rfl (by kernel_rfl) (by kernel_rfl) (by kernel_rfl) (fun _ _ _ h => h) (Or.inl ⟨by rfl, ?_⟩) (by assumption) ?_
        rotate_left
        · (intro w hSw; (try dsimp only at hSw); go_simp; (try with_reducible rfl))
        show wpAnyH _ _ _ _ _ _ _ (Act.put _ (some 29) _) _
        simp only [Act.put, List.setIfInBounds_toArray, List.set_cons_zero, List.set_cons_succ]
        refine wpAnyH_take (i := 3) (v := ?_) rfl (by kernel_rfl) (by kernel_rfl) (by kernel_rfl) (fun _ _ _ h => h) (Or.inl ⟨by rfl, ?_⟩) (by assumption) ?_
        rotate_left
        · (intro w hSw; (try dsimp only at hSw); go_simp; (try with_reducible rfl))
        show wpAnyH _ _ _ _ _ _ _ (Act.put _ (some 30) _) _
        simp only [Act.put, List.setIfInBounds_toArray, List.set_cons_zero, List.set_cons_succ]
        refine wpAnyH_ready (rs := [4]) (by kernel_rfl) (by simp) ?_
        refine (AllReadyH.cons rfl (fun K4 hK4 => ?_) AllReadyH.nil)
        · rw [if_pos (by rfl)]
          go_simp
          go_at_call 53
          refine (AF.out _ ((OB.out.trans O4.out).drew)).mono ?_
          rintro e w5 ⟨⟨q, rfl⟩, v', X', se, hi, hl⟩
          have hk5 : ∀ k, k = s ∨ fpS v1 X k → k ≠ w3.heap.size := fun k hk => by
            rcases hk with hk | hk
            · exact HNF.out k (.inl hk)
            · exact HNF.out k (.inr (.inl hk))
          have e0 := se.chg.cell (show w4.drew.cell? ⟨w3.heap.size, 0, none⟩ = _ from d0) (fun hk => hk5 _ hk rfl)
          have e1 := se.chg.cell (show w4.drew.cell? ⟨w3.heap.size, 1, none⟩ = _ from d1) (fun hk => hk5 _ hk rfl)
          have SE := hidOf se
          have HI := hidOf hi
          have HLL := hidOf hl
          clear se hi hl hk5
          refine hK4.out _ _ ⟨e0, e1⟩ (fun hHeld4 => ?_)
          refine wpAnyH_done (by kernel_rfl) ?_ _
          go_wp2
          go_ret
          have hxl : x.d.length = n := by rw [XD.out, hn.out]
          have hmay := (mayR_iff HF.out).1 hbm.out.symm
          have hclx : clP (flat X) (flat Y) x.f x.d.length = false := by rw [XF.out, hxl]; exact hbc.out.symm
          have oW : Out w w4.drew := (OB.out.trans O4.out).drew
          have hdx := hrx.out w4.drew (O4.out.drew)
          have hd0 : ¬ d = [] := fun e => HN0.out (by rw [hn.out, e]; rfl)
          have hnp : 0 < n := by have := HN0.out; omega
          obtain ⟨sp5, c5, g5⟩ := H.out.addF oW hdx SE.out HI.out HLL.out hclx (by omega) (by rw [XF.out, hxl]; omega) (by rw [hxl, hn.out]; exact HD.out) (by have := HM.out; omega) hB
          exact .inr ⟨hcl.out, rfl, v', v2, X', Y, x, sp5, c5, (fun k hk => hk.elim (g5 k) (fun e => .inr (Nat.le_trans O2.out.size (DaI.blk XA.out e).1))), XF.out, XD.out, .inr ⟨hd0, HI.out, rfl⟩⟩
structure RI where
  f : Nat
  a : Option Addr
  c : Nat
  d : List UInt8
def InR (w : World) (a : Option Addr) (L : List RI) : Prop := L = [] ∨ ∃ g o, a = some ⟨g, o, none⟩ ∧ ∀ i x, L[i]? = some x → w.cell? ⟨g, o + i * 2, none⟩ = some (.int .u64 (x.f : Nat)) ∧ w.cell? ⟨g, o + i * 2 + 1, none⟩ = some (.slice x.a x.d.length x.c) ∧ RestA w x.a x.d
theorem InR.out {w w' : World} {a : Option Addr} {L : List RI} (h : InR w a L) (o : Out w w') : InR w' a L := h.imp id (fun ⟨g, q, e, h1⟩ => ⟨g, q, e, fun i x hx => ⟨cell_later o (h1 i x hx).1, cell_later o (h1 i x hx).2.1, (h1 i x hx).2.2.out o⟩⟩)
def noP (F E : List Rg) (r : RI) : Bool := !mayR r.f r.d.length || clP F E r.f r.d.length
inductive Run : List RI → List Rg → List Rg → Prop
  | nil : Run [] [] []
  | addE (L : List RI) (F E E' : List Rg) (r : RI) (x : Rg) : Run L F E → noP F E r = false → r.d = [] → x.f = r.f → x.d = r.d → InsP E x E' → Run (L ++ [r]) F E'
  | addF (L : List RI) (F E F' : List Rg) (r : RI) (x : Rg) : Run L F E → noP F E r = false → ¬ r.d = [] → x.f = r.f → x.d = r.d → InsP F x F' → Run (L ++ [r]) F' E
def NewE (L : List RI) (w : World) (e : Ending) (w' : World) : Prop :=
  (e = .returned (.tuple #[.pointer none, .int .i64 201]) ∧ Out w w' ∧ ∃ k r F E, L[k]? = some r ∧ Run (L.take k) F E ∧ noP F E r = true) ∨
  ∃ s v1 v2 X Y, e = .returned (.tuple #[.pointer (some ⟨s, 0, none⟩), .int .i64 0]) ∧ SpD w.heap.size w' s v1 v2 X Y L.length ∧ Out w w' ∧ Run L (flat X) (flat Y)
theorem SpD.begin_ (w : World) : SpD w.heap.size (w.alloc (.cells #[.slice none 0 0, .slice none 0 0] 92)) w.heap.size (.slice none 0 0) (.slice none 0 0) [] [] 0 := by
  have hsh : Sh w.heap.size (w.alloc (.cells #[.slice none 0 0, .slice none 0 0] 92)) (.slice none 0 0) [] := ⟨World.ownsRow_nil _ _ _ _, by simp, by simp, by simp, List.Pairwise.nil, by simp⟩
  have hno : ∀ k, ¬ fpS (.slice none 0 0) [] k := fun k hk => by
    rcases hk with hk | ⟨z, hz, _⟩
    · cases hk
    · simp at hz
  refine ⟨⟨heap_alloc_new w _, Nat.le_refl _, hsh, hsh, hno _, hno _, fun k hk => (hno k hk).elim, by simp, by simp⟩, SpOk.nil, by simp, by simp, by simp [flat], by simp [flat], fun b ⟨z, hz, _⟩ => by simp [flat] at hz, by simp [flat], by simp [flat]⟩
set_option maxHeartbeats 2000000 in
set_option maxRecDepth 100000 in
theorem New_any (w : World) (a : Option Addr) (c : Nat) (L : List RI) (h : InR w a L) (hL : ∀ x ∈ L, x.f < 18446744073709551616 ∧ x.d.length ≤ 140737488355328) (hn : L.length ≤ 5864062014000) :
    Calls Tryz.prog 16 #[.slice a L.length c] w fun e w' => NewE L w e w' := by
  obtain ⟨n, hN⟩ : ∃ n, Hid (n = L.length) := ⟨_, rfl⟩
  rw [← hN.out] at hn ⊢
  have HI := hidOf h
  have HL := hidOf hL
  have SP0 := hidOf (SpD.begin_ w)
  obtain ⟨w0, H0, o0⟩ : ∃ w0, Hid (w0 = w.alloc (.cells #[.slice none 0 0, .slice none 0 0] 92)) ∧ Out w w0 := ⟨_, rfl, (Out.refl w).alloc _⟩
  rw [← H0.out] at SP0
  have O0 := hidOf o0
  clear h hL o0
  go_enter Tryz.func16, Tryz.ntmps16
  go_upto_region 2 with fail
  rw [← H0.out]
  go_wp2
  go_loopw [12] (fun kv wr => ∃ k v1 v2 X Y, kv = .int .i64 (k : Nat) ∧ k ≤ n ∧ Hid (SpD w.heap.size wr w.heap.size v1 v2 X Y k) ∧ Hid (Run (L.take k) (flat X) (flat Y)) ∧ Hid (Out w wr)) (fun kv _ => n - (intOf kv).toNat)
  case atStart => exact ⟨0, _, _, [], [], rfl, Nat.zero_le _, SP0, hidOf Run.nil, O0⟩
  case round =>
    obtain ⟨k, v1, v2, X, Y, rfl, hk, SP, RU, OR⟩ := hrel
    by_cases hkn : k < n
    · have hlt : (k : Int) < n := by omega
      obtain ⟨x, hx⟩ : ∃ x, L[k]? = some x := ⟨_, List.getElem?_eq_getElem (by rw [← hN.out]; exact hkn)⟩
      obtain ⟨g, o, rfl, hcs⟩ : ∃ g o, a = some ⟨g, o, none⟩ ∧ _ := HI.out.resolve_left (fun e => by rw [e] at hx; simp at hx)
      obtain ⟨q0, q1, q2⟩ := hcs k x hx
      have p0 := cell_later OR.out q0
      have p1 := cell_later OR.out q1
      obtain ⟨xf, xa, xc, xd⟩ := x
      obtain ⟨xn, hxn⟩ : ∃ xn, Hid (xn = xd.length) := ⟨_, rfl⟩
      have hxm := HL.out _ (List.mem_of_getElem? hx)
      have AC := hidOf (fun W (o : Out wr W) => Add_any W w.heap.size w.heap.size v1 v2 X Y k xf xc xa xd (SP.out.out o) (by omega) (q2.out (OR.out.trans o)) hxm.2 hxm.1)
      simp only at p0 p1
      rw [← hxn.out] at p1 AC
      obtain ⟨wB, HB, b0, b1, oB, _⟩ := box_two wr (.int .u64 xf) (.slice xa xn xc) 36
      have OB := hidOf oB
      have HX := hidOf hx
      clear hcs q0 q1 q2 hx hxm oB
      go_upto_region 5 with fail
      rw [← HB.out]
      go_upto_region 6 with (go_at_call 22; refine (AC.out _ OB.out).mono ?_; rintro e w1 (⟨hno, rfl, ho1⟩ | ⟨hno, rfl, v1', v2', X', Y', z, hsp, hc, _, hzf, hzd, hz⟩))
      · have O1 := hidOf ho1
        have NO := hidOf hno
        clear ho1 hno
        go_wp2
        refine bodyPost_ret (results_tmp2 rfl _ _ _) rfl ?_
        exact .inl ⟨rfl, (OR.out.trans OB.out).trans O1.out, k, _, _, _, HX.out, RU.out, NO.out⟩
      · have SP1 := hidOf hsp
        have C1 := hidOf hc
        have NO := hidOf hno
        have HZ := hidOf hz
        have HZF := hidOf hzf
        have HZD := hidOf hzd
        clear hsp hc hno hz hzf hzd
        go_wp2
        go_roundw
        case rel =>
          have hO : Out w w1 := Chg.out C1.out (OR.out.trans OB.out) (fun q hq => (SP.out.lt hq).1)
          refine ⟨k + 1, v1', v2', X', Y', by simp, by omega, SP1, hidOf ?_, hidOf hO⟩
          have et : L.take (k + 1) = L.take k ++ [⟨xf, xa, xc, xd⟩] := by rw [List.take_add_one, HX.out]; rfl
          rw [et]
          rcases HZ.out with ⟨hd, hi, rfl⟩ | ⟨hd, hi, rfl⟩
          · exact Run.addE _ _ _ _ _ z RU.out NO.out hd HZF.out HZD.out hi
          · exact Run.addF _ _ _ _ _ z RU.out NO.out hd HZF.out HZD.out hi
        case measure => simp [intOf]; omega
    · have hlt : ¬ (k : Int) < n := by omega
      obtain rfl : n = k := by omega
      go_wp2
      refine bodyPost_ret (results_tmp2 rfl _ _ _) rfl ?_
      have et : L.take n = L := by rw [hN.out]; exact List.take_length
      have hru := RU.out
      rw [et] at hru
      exact .inr ⟨w.heap.size, v1, v2, X, Y, rfl, by rw [← hN.out]; exact SP.out, OR.out, hru⟩
end Go.Proofs.YtekjfbmebekmeaaGreat
