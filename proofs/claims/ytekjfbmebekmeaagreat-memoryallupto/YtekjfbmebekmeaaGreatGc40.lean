import Derived.Test.YtekjfbmebekmeaaGreatGc39
import Derived.Test.YtekjfbmebekmeaaGreatGc23
namespace Go.Proofs.YtekjfbmebekmeaaGreat
open Go.RowKit
set_option linter.unusedVariables false
set_option linter.unusedSimpArgs false
theorem SpOk.subF {F F' E : List Rg} (h : SpOk F E) (hs : F'.Sublist F) : SpOk F' E :=
  ⟨List.Pairwise.sublist hs h.sf, h.se, fun x hx => h.fd x (hs.subset hx), List.Pairwise.sublist hs h.ap, h.ed, fun x hx => h.ne x (hs.subset hx)⟩
theorem SpOk.subE {F E E' : List Rg} (h : SpOk F E) (hs : E'.Sublist E) : SpOk F E' :=
  ⟨h.sf, List.Pairwise.sublist hs h.se, h.fd, h.ap, fun x hx => h.ed x (hs.subset hx), fun x hx y hy => h.ne x hx y (hs.subset hy)⟩
/-- filled regions are left out -/
theorem SpD.remF {B : Nat} {w w1 w2 : World} {s : Nat} {v1 v2 v' : Value} {X Y X' : List Rw} {m : Nat} (h : SpD B w s v1 v2 X Y m) (o : Out w w1) (e : ShE B s 0 #[v1, v2] 92 w1 w2 v1 X v' X') (hsub : (flat X').Sublist (flat X)) (hl : ∀ z ∈ X', z.L.length ≤ 128) (hM : m ≤ 5864062014805) :
    SpD B w2 s v' v2 X' Y m ∧ Chg (fpD s v1 v2 X Y) w w2 ∧ (∀ k, fpD s v' v2 X' Y k → fpD s v1 v2 X Y k ∨ w.heap.size ≤ k) := by
  have h1 := h.out o
  have cE : Chg (fpD s v1 v2 X Y) w w2 := (Chg.of_out o).trans e.chg (fun k hk _ => by
    rcases hk with hk | hk
    · exact .inl hk
    · exact .inr (.inl hk))
  have hwl : ∀ k, fpD s v1 v2 X Y k → k < w.heap.size := fun k hk => (h.lt hk).2
  have hfp : ∀ k, fpS v' X' k → fpS v1 X k ∨ w1.heap.size ≤ k := e.fp
  have hos := o.size
  have hso : s < w.heap.size := hwl s (.inl rfl)
  have hss : (flat X' ++ flat Y).Sublist (flat X ++ flat Y) := List.Sublist.append_right hsub _
  have hdl : ∀ b, dbs (flat X ++ flat Y) b → b < w.heap.size := fun b ⟨z, hz, hb⟩ => ((h.da z hz).blk hb).2
  have hds : ∀ b, dbs (flat X' ++ flat Y) b → dbs (flat X ++ flat Y) b := fun b ⟨z, hz, hb⟩ => ⟨z, hss.subset hz, hb⟩
  have nml : (flat X' ++ flat Y).length ≤ m := Nat.le_trans hss.length_le h.nm
  have hnX : X'.length ≤ 5864062014805 := by
    have := rows_le e.sh.ne
    rw [List.length_append] at nml
    omega
  refine ⟨⟨⟨e.blk, h.sp.bs, e.sh, h1.sp.emp.keep e.chg (fun k hk hS => ?_), fun hk => ?_, h.sp.s2, fun k hk hk2 => ?_, hnX, h.sp.nY⟩, h.ok.subF hsub, hl, h.lY, fun z hz => ?_, List.Pairwise.sublist hss h.dn, fun b hb => ?_, fun z hz => h.le z (hss.subset hz), nml⟩, cE, fun k hk => ?_⟩
  · rcases hS with rfl | hS
    · exact h.sp.s2 hk
    · exact h.sp.d12 k hS hk
  · rcases hfp s hk with h2 | h2
    · exact h.sp.s1 h2
    · omega
  · rcases hfp k hk with h2 | h2
    · exact h.sp.d12 k h2 hk2
    · have := hwl k (.inr (.inr hk2)); omega
  · exact (h1.da z (hss.subset hz)).chg e.chg (fun b hb hS => by
      have hds := h.ds b ⟨z, hss.subset hz, hb⟩
      rcases hS with rfl | hS
      · exact hds.1 rfl
      · exact hds.2.1 hS)
  · have h2 := h.ds b (hds b hb)
    refine ⟨h2.1, fun hk => ?_, h2.2.2⟩
    rcases hfp b hk with h3 | h3
    · exact h2.2.1 h3
    · have := hdl b (hds b hb); omega
  · rcases hk with hk | hk | hk
    · exact .inl (.inl hk)
    · rcases hfp k hk with h2 | h2
      · exact .inl (.inr (.inl h2))
      · exact .inr (by omega)
    · exact .inl (.inr (.inr hk))
/-- empty regions are left out -/
theorem SpD.remE {B : Nat} {w w1 w2 : World} {s : Nat} {v1 v2 v' : Value} {X Y Y' : List Rw} {m : Nat} (h : SpD B w s v1 v2 X Y m) (o : Out w w1) (e : ShE B s 1 #[v1, v2] 92 w1 w2 v2 Y v' Y') (hsub : (flat Y').Sublist (flat Y)) (hl : ∀ z ∈ Y', z.L.length ≤ 128) (hM : m ≤ 5864062014805) :
    SpD B w2 s v1 v' X Y' m ∧ Chg (fpD s v1 v2 X Y) w w2 ∧ (∀ k, fpD s v1 v' X Y' k → fpD s v1 v2 X Y k ∨ w.heap.size ≤ k) := by
  have h1 := h.out o
  have cE : Chg (fpD s v1 v2 X Y) w w2 := (Chg.of_out o).trans e.chg (fun k hk _ => by
    rcases hk with hk | hk
    · exact .inl hk
    · exact .inr (.inr hk))
  have hwl : ∀ k, fpD s v1 v2 X Y k → k < w.heap.size := fun k hk => (h.lt hk).2
  have hfp : ∀ k, fpS v' Y' k → fpS v2 Y k ∨ w1.heap.size ≤ k := e.fp
  have hos := o.size
  have hso : s < w.heap.size := hwl s (.inl rfl)
  have hss : (flat X ++ flat Y').Sublist (flat X ++ flat Y) := List.Sublist.append_left hsub _
  have hdl : ∀ b, dbs (flat X ++ flat Y) b → b < w.heap.size := fun b ⟨z, hz, hb⟩ => ((h.da z hz).blk hb).2
  have hds : ∀ b, dbs (flat X ++ flat Y') b → dbs (flat X ++ flat Y) b := fun b ⟨z, hz, hb⟩ => ⟨z, hss.subset hz, hb⟩
  have nml : (flat X ++ flat Y').length ≤ m := Nat.le_trans hss.length_le h.nm
  have hnY : Y'.length ≤ 5864062014805 := by
    have := rows_le e.sh.ne
    rw [List.length_append] at nml
    omega
  refine ⟨⟨⟨e.blk, h.sp.bs, h1.sp.fil.keep e.chg (fun k hk hS => ?_), e.sh, h.sp.s1, fun hk => ?_, fun k hk hk2 => ?_, h.sp.nX, hnY⟩, h.ok.subE hsub, h.lX, hl, fun z hz => ?_, List.Pairwise.sublist hss h.dn, fun b hb => ?_, fun z hz => h.le z (hss.subset hz), nml⟩, cE, fun k hk => ?_⟩
  · rcases hS with rfl | hS
    · exact h.sp.s1 hk
    · exact h.sp.d12 k hk hS
  · rcases hfp s hk with h2 | h2
    · exact h.sp.s2 h2
    · omega
  · rcases hfp k hk2 with h2 | h2
    · exact h.sp.d12 k hk h2
    · have := hwl k (.inr (.inl hk)); omega
  · exact (h1.da z (hss.subset hz)).chg e.chg (fun b hb hS => by
      have hds := h.ds b ⟨z, hss.subset hz, hb⟩
      rcases hS with rfl | hS
      · exact hds.1 rfl
      · exact hds.2.2 hS)
  · have h2 := h.ds b (hds b hb)
    refine ⟨h2.1, h2.2.1, fun hk => ?_⟩
    rcases hfp b hk with h3 | h3
    · exact h2.2.2 h3
    · have := hdl b (hds b hb); omega
  · rcases hk with hk | hk | hk
    · exact .inl (.inl hk)
    · exact .inl (.inr (.inl hk))
    · rcases hfp k hk with h2 | h2
      · exact .inl (.inr (.inr h2))
      · exact .inr (by omega)
/-- what the space's Remove gives -/
def RmSE (B s : Nat) (v1 v2 : Value) (X Y : List Rw) (m f : Nat) (w : World) (e : Ending) (w' : World) : Prop :=
  (((flat X).any (fun x => x.f == f) || (flat Y).any (fun x => x.f == f)) = false ∧ e = .returned (.int .i64 201) ∧ Out w w') ∨
  (((flat X).any (fun x => x.f == f) || (flat Y).any (fun x => x.f == f)) = true ∧ e = .returned (.int .i64 0) ∧ ∃ v1' v2' X' Y', SpD B w' s v1' v2' X' Y' m ∧ Chg (fpD s v1 v2 X Y) w w' ∧ (∀ k, fpD s v1' v2' X' Y' k → fpD s v1 v2 X Y k ∨ w.heap.size ≤ k) ∧ flat X' = (flat X).filter (fun x => !(x.f == f)) ∧ flat Y' = (flat Y).filter (fun x => !(x.f == f)))
theorem filter_no {F : List Rg} {f : Nat} (h : F.any (fun x => x.f == f) = false) : F.filter (fun x => !(x.f == f)) = F :=
  List.filter_eq_self.2 (fun z hz => by
    have := List.any_eq_false.1 h z hz
    simpa using this)
set_option maxHeartbeats 4000000 in
set_option maxRecDepth 100000 in
theorem Remove_any (w : World) (B s : Nat) (v1 v2 : Value) (X Y : List Rw) (m f : Nat) (h : SpD B w s v1 v2 X Y m) (hM : m ≤ 5864062014804) (hf : f < 18446744073709551616) :
    Calls Tryz.prog 26 #[.pointer (some ⟨s, 0, none⟩), .int .u64 f] w fun e w' => RmSE B s v1 v2 X Y m f w e w' := by
  have RF := remove_any w B s 0 #[v1, v2] 92 v1 X f h.sp.fil h.sp.blk rfl h.sp.s1 h.sp.bs (by have h1 := rows_le h.sp.fil.ne; have h2 := h.nm; rw [List.length_append] at h2; omega) h.ok.sf h.lX
  have RE := fun (W : World) (o : Out w W) => remove_any W B s 1 #[v1, v2] 92 v2 Y f (h.sp.emp.out o) (blk_out h.sp.blk o) rfl h.sp.s2 h.sp.bs (by have h1 := rows_le h.sp.emp.ne; have h2 := h.nm; rw [List.length_append] at h2; omega) h.ok.se h.lY
  have HSP := hidOf h
  clear h
  unfold RmvE at RF RE
  cases hx : (flat X).any (fun x => x.f == f) with
  | true =>
    rw [hx] at RF
    have R1 := hidOf (RF.mono (R' := fun e w1 => ∃ v' X', e = .returned (.bool true) ∧ Hid (ShE B s 0 #[v1, v2] 92 w w1 v1 X v' X') ∧ Hid (flat X' = (flat X).filter (fun x => !(x.f == f))) ∧ Hid (∀ z ∈ X', z.L.length ≤ 128)) (fun e w1 hq => by
      rcases hq with ⟨hc, _⟩ | ⟨_, he, v', X', a1, a2, a3⟩
      · cases hc
      · exact ⟨v', X', he, hidOf a1, hidOf a2, hidOf a3⟩))
    clear RF RE
    go_enter Tryz.func26, Tryz.ntmps26
    go_wp2_with (go_at_call 56; refine R1.out.mono ?_; rintro e w1 ⟨v', X', rfl, SE, FL, HL⟩)
    go_ret
    have hy : (flat Y).any (fun x => x.f == f) = false := by
      obtain ⟨z, hz, e⟩ := List.any_eq_true.1 hx
      refine List.any_eq_false.2 (fun y hy => ?_)
      have h1 := HSP.out.ok.ne z hz y hy
      simp at e ⊢
      omega
    obtain ⟨sp, c, fp⟩ := HSP.out.remF (Out.refl w) SE.out (by rw [FL.out]; exact List.filter_sublist) HL.out (by omega)
    exact .inr ⟨by rw [hx]; rfl, rfl, v', v2, X', Y, sp, c, fp, FL.out, (filter_no hy).symm⟩
  | false =>
    rw [hx] at RF
    have R1 := hidOf (RF.mono (R' := fun e w1 => e = .returned (.bool false) ∧ Hid (Out w w1)) (fun e w1 hq => by
      rcases hq with ⟨_, he, a1⟩ | ⟨hc, _⟩
      · exact ⟨he, hidOf a1⟩
      · cases hc))
    cases hy : (flat Y).any (fun x => x.f == f) with
    | true =>
      rw [hy] at RE
      have R2 := hidOf (fun W o => (RE W o).mono (R' := fun e w1 => ∃ v' Y', e = .returned (.bool true) ∧ Hid (ShE B s 1 #[v1, v2] 92 W w1 v2 Y v' Y') ∧ Hid (flat Y' = (flat Y).filter (fun x => !(x.f == f))) ∧ Hid (∀ z ∈ Y', z.L.length ≤ 128)) (fun e w1 hq => by
        rcases hq with ⟨hc, _⟩ | ⟨_, he, v', X', a1, a2, a3⟩
        · cases hc
        · exact ⟨v', X', he, hidOf a1, hidOf a2, hidOf a3⟩))
      clear RF RE
      go_enter Tryz.func26, Tryz.ntmps26
      go_wp2_with (first | (go_at_call 56; refine R3.out.mono ?_; rintro e w2 ⟨v', Y', rfl, SE, FL, HL⟩) | (go_at_call 56; refine R1.out.mono ?_; rintro e w1 ⟨rfl, O1⟩; have R3 := hidOf (R2.out w1 O1.out)))
      go_ret
      obtain ⟨sp, c, fp⟩ := HSP.out.remE O1.out SE.out (by rw [FL.out]; exact List.filter_sublist) HL.out (by omega)
      exact .inr ⟨by rw [hx, hy]; rfl, rfl, v1, v', X, Y', sp, c, fp, (filter_no hx).symm, FL.out⟩
    | false =>
      rw [hy] at RE
      have R2 := hidOf (fun W o => (RE W o).mono (R' := fun e w1 => e = .returned (.bool false) ∧ Hid (Out W w1)) (fun e w1 hq => by
        rcases hq with ⟨_, he, a1⟩ | ⟨hc, _⟩
        · exact ⟨he, hidOf a1⟩
        · cases hc))
      clear RF RE
      go_enter Tryz.func26, Tryz.ntmps26
      go_wp2_with (first | (go_at_call 56; refine R3.out.mono ?_; rintro e w2 ⟨rfl, O2⟩) | (go_at_call 56; refine R1.out.mono ?_; rintro e w1 ⟨rfl, O1⟩; have R3 := hidOf (R2.out w1 O1.out)))
      go_ret
      exact .inl ⟨by rw [hx, hy]; rfl, rfl, O1.out.trans O2.out⟩
end Go.Proofs.YtekjfbmebekmeaaGreat
namespace Go.Proofs.YtekjfbmebekmeaaGreat
open Go.RowKit
set_option linter.unusedVariables false
set_option linter.unusedSimpArgs false
/-- bytes that stand behind an address in blocks below N, or none -/
def RestAt (N : Nat) (w : World) (a : Option Addr) (l : List UInt8) : Prop := l = [] ∨ ∃ b off, b < N ∧ a = some ⟨b, off, none⟩ ∧ ∀ k x, l[k]? = some x → w.cell? ⟨b, off + k, none⟩ = some (.int .u8 (x.toNat : Int))
def bCells (O : List UInt8) : List Value := O.map (fun b => .int .u8 (b.toNat : Int))
theorem RestAt.a {N : Nat} {w : World} {a : Option Addr} {l : List UInt8} (h : RestAt N w a l) : RestA w a l := h.imp id (fun ⟨b, o, _, ha, hc⟩ => ⟨⟨b, o, none⟩, ha, fun j u hj => by
  rw [List.getElem?_map] at hj
  rw [add_B]
  cases hx : l[j]? with
  | none => rw [hx] at hj; cases hj
  | some x => rw [hx] at hj; cases hj; exact hc j x hx⟩)
theorem conv_rest {N : Nat} {w : World} {a : Option Addr} {l : List UInt8} (h : RestAt N w a l) (cap : Nat) : (convert 29 9 (.slice a l.length cap)).run Tryz.prog w = .ok (.string ⟨l.toArray⟩) w := conv_any h.a l.length rfl cap
/-- what lies behind what is lent -/
def lmB (i : Nat) : UInt8 := UInt8.ofNat ((203 - 5 * (i : Int)) % 256).toNat
theorem lmB_val (i : Nat) : (203 - 5 * (i : Int)) % 256 = ((lmB i).toNat : Int) := by
  have h0 : 0 ≤ (203 - 5 * (i : Int)) % 256 := Int.emod_nonneg _ (by omega)
  have h1 : (203 - 5 * (i : Int)) % 256 < 256 := Int.emod_lt_of_pos _ (by omega)
  unfold lmB
  rw [UInt8.toNat_ofNat_of_lt' (by show _ < 256; omega)]
  omega
theorem lmark_any (p : Value) (i : Nat) (hi : i ≤ 1000000000000000) (w : World) : Calls Tryz.prog 55 #[p, .int .i64 i] w fun e w' => e = .returned (.int .u8 ((lmB i).toNat : Int)) ∧ w = w' := by
  have hv := lmB_val i
  go_enter Tryz.func55, Tryz.ntmps55
  go_wp2
  go_ret
  exact ⟨by rw [← hv]; rfl, rfl⟩
def lmsB (a k : Nat) : List UInt8 := (List.range' a k).map lmB
theorem lmsB_len (a k : Nat) : (lmsB a k).length = k := by simp [lmsB]
theorem lmsB_succ (a k : Nat) : lmsB a (k + 1) = lmsB a k ++ [lmB (a + k)] := by simp [lmsB, List.range'_concat]
/-- a list written over another -/
def ov (A L : List UInt8) : List UInt8 := A ++ L.drop A.length
theorem ov_len {A L : List UInt8} (h : A.length ≤ L.length) : (ov A L).length = L.length := by simp [ov]; omega
theorem ov_nil (L : List UInt8) : ov [] L = L := by simp [ov]
theorem ov_set {A L : List UInt8} {k : Nat} (hk : A.length = k) (h : k < L.length) (x : UInt8) : (ov A L).set k x = ov (A ++ [x]) L := by
  subst hk
  unfold ov
  rw [List.set_append_right _ _ (Nat.le_refl _), Nat.sub_self, List.drop_eq_getElem_cons h, List.set_cons_zero]
  simp
/-- a lender in a row of them: its block p holds cs, its cells lie at po, its buffer at g -/
structure LeC (w : World) (p po g m : Nat) (cs : Array Value) (N : Int) (L : List UInt8) : Prop where
  hp : w.heap[p]? = some (.cells cs 61 (0, 0))
  h0 : cs[po]? = some (.slice (some ⟨g, 0, none⟩) m m)
  h1 : cs[po + 1]? = some (.int .i64 N)
  hg : w.heap[g]? = some (.cells (bCells L).toArray 5 (0, 0))
  len_ : L.length = m
theorem cell_atL {w : World} {p : Nat} {cs : Array Value} {t : TypeId} (h : w.heap[p]? = some (.cells cs t (0, 0))) (j : Nat) : w.cell? ⟨p, j, none⟩ = cs[j]? := by simp [World.cell?, h]
theorem frozen_atL {w : World} {p : Nat} {cs : Array Value} {t : TypeId} (h : w.heap[p]? = some (.cells cs t (0, 0))) (j : Nat) : w.frozen? ⟨p, j, none⟩ = false := by simp [World.frozen?, h]
theorem set_atL {w : World} {p : Nat} {cs : Array Value} {t : TypeId} (h : w.heap[p]? = some (.cells cs t (0, 0))) (j : Nat) (u : Value) : (w.setCell ⟨p, j, none⟩ u).heap[p]? = some (.cells (cs.setIfInBounds j u) t (0, 0)) := by
  simp [World.setCell, Array.getElem?_modify, h]
theorem LeC.ne {w : World} {p po g m : Nat} {cs : Array Value} {N : Int} {L : List UInt8} (h : LeC w p po g m cs N L) : ¬ p = g := fun e => by
  have := h.hp; rw [e, h.hg] at this; simp at this
section
variable {w w' : World} {p po g m : Nat} {cs : Array Value} {N : Int} {L : List UInt8}
theorem LeC.c0 (h : LeC w p po g m cs N L) : w.cell? ⟨p, po, none⟩ = some (.slice (some ⟨g, 0, none⟩) m m) := by rw [cell_atL h.hp]; exact h.h0
theorem LeC.c1 (h : LeC w p po g m cs N L) : w.cell? ⟨p, po + 1, none⟩ = some (.int .i64 N) := by rw [cell_atL h.hp]; exact h.h1
theorem LeC.cell (h : LeC w p po g m cs N L) {k : Nat} {x : UInt8} (hx : L[k]? = some x) : w.cell? ⟨g, k, none⟩ = some (.int .u8 (x.toNat : Int)) := by
  rw [cell_atL h.hg]; simp [bCells, hx]
theorem LeC.fp (h : LeC w p po g m cs N L) (j : Nat) : w.frozen? ⟨p, j, none⟩ = false := frozen_atL h.hp j
theorem LeC.fg (h : LeC w p po g m cs N L) (j : Nat) : w.frozen? ⟨g, j, none⟩ = false := frozen_atL h.hg j
theorem LeC.ltp (h : LeC w p po g m cs N L) : p < w.heap.size := (Array.getElem?_eq_some_iff.1 h.hp).1
theorem LeC.ltg (h : LeC w p po g m cs N L) : g < w.heap.size := (Array.getElem?_eq_some_iff.1 h.hg).1
theorem LeC.drew (h : LeC w p po g m cs N L) : LeC w.drew p po g m cs N L := ⟨h.hp, h.h0, h.h1, h.hg, h.len_⟩
theorem LeC.drewN (h : LeC w p po g m cs N L) (n : Nat) : LeC (w.drewN n) p po g m cs N L := ⟨h.hp, h.h0, h.h1, h.hg, h.len_⟩
theorem LeC.out (h : LeC w p po g m cs N L) (o : Out w w') : LeC w' p po g m cs N L := ⟨(o.block p h.ltp).trans h.hp, h.h0, h.h1, (o.block g h.ltg).trans h.hg, h.len_⟩
theorem LeC.set (h : LeC w p po g m cs N L) (k : Nat) (x : UInt8) : LeC (w.setCell ⟨g, k, none⟩ (.int .u8 (x.toNat : Int))) p po g m cs N (L.set k x) := by
  refine ⟨?_, h.h0, h.h1, ?_, by simpa using h.len_⟩
  · rw [Below.heap_setCell _ _ _ _ h.ne]; exact h.hp
  · rw [set_atL h.hg]
    simp [bCells, List.map_set]
theorem LeC.setN (h : LeC w p po g m cs N L) (n : Int) : LeC (w.setCell ⟨p, po + 1, none⟩ (.int .i64 n)) p po g m (cs.setIfInBounds (po + 1) (.int .i64 n)) n L := by
  have hlt : po + 1 < cs.size := (Array.getElem?_eq_some_iff.1 h.h1).1
  refine ⟨?_, ?_, ?_, ?_, h.len_⟩
  · rw [set_atL h.hp]
  · rw [Array.getElem?_setIfInBounds_ne (by omega)]; exact h.h0
  · rw [Array.getElem?_setIfInBounds_self_of_lt hlt]
  · rw [Below.heap_setCell _ _ _ _ (fun e => h.ne e.symm)]; exact h.hg
end
/-- the blocks that the lender may write -/
def SL (p g k : Nat) : Prop := k = p ∨ k = g
theorem RestAt.chg {N N' : Nat} {S : Nat → Prop} {w w' : World} {a : Option Addr} {l : List UInt8} (h : RestAt N w a l) (c : Chg S w w') (hs : ∀ k, k < N → ¬ S k) (hN : N ≤ N') : RestAt N' w' a l := by
  rcases h with h | ⟨b, o, hb, ha, hc⟩
  · exact .inl h
  · exact .inr ⟨b, o, by omega, ha, fun k x hx => c.cell (hc k x hx) (hs b hb)⟩
theorem LeC.rest {w : World} {p po g m : Nat} {cs : Array Value} {N : Int} {l L : List UInt8} (h : LeC w p po g m cs N (l ++ L)) : RestAt w.heap.size w (some ⟨g, 0, none⟩) l :=
  .inr ⟨g, 0, h.ltg, rfl, fun k x hx => by rw [Nat.zero_add]; exact h.cell (by rw [List.getElem?_append_left (List.getElem?_eq_some_iff.1 hx).1]; exact hx)⟩
end Go.Proofs.YtekjfbmebekmeaaGreat
