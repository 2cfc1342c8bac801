import Derived.Test.YthififblejbleaaGreatDoorHy13
namespace Go.Proofs.YthififblejbleaaGreatDoor
open Go.RowKit
set_option linter.unusedVariables false
set_option linter.unusedSimpArgs false
def Ins.cs (x : Ins) : List Value := [.int .i64 x.o, .int .i64 x.d, .int .i64 x.s, .int .i64 x.f, .int .i64 x.i]
def insV (l : List Ins) : List Value := l.flatMap Ins.cs
theorem insV_snoc (l : List Ins) (x : Ins) : insV (l ++ [x]) = insV l ++ x.cs := by simp [insV, List.flatMap_append]
theorem cs_one (x : Ins) : ∀ u ∈ x.cs, u.oneCell' = true := by
  intro u hu
  simp [Ins.cs] at hu
  rcases hu with rfl | rfl | rfl | rfl | rfl <;> rfl
theorem news_drew17 (w : World) (cs : Array Value) (t : TypeId) (b : Nat) (hb : b = w.heap.size) : ∀ j u, cs.toList[j]? = some u → (w.alloc (.cells cs t)).drew.cell? ((⟨b, 0, none⟩ : Addr).add j) = some u := news_new w cs t b hb
theorem info5I : (Tryz.prog.info? 67).map (fun i => (i.zero, i.size, i.bytes)) = some (some (.agg #[.int .i64 0, .int .i64 0, .int .i64 0, .int .i64 0, .int .i64 0]), 5, 40) := by kernel_rfl
def OwT (w : World) (B : Nat) (v : Value) (T : List Ins) : Prop := w.ownsRow B 67 5 v T.length (insV T)
structure Rs where
  o : Nat
  s : Nat
  f : Nat
  d : Nat
  n : Nat
  e : Nat
  nm : Value
  nx : Nat
  tv : Value
  fv : Value
  dv : Value
  en : Nat
def Rs.cs (r : Rs) (b : Value) : Array Value := #[b, .int .i64 (r.o : Nat), .bool true, .int .i64 (r.s : Nat), .int .i64 (r.f : Nat), .int .i64 (r.d : Nat), .int .i64 (r.n : Nat), .int .i64 (r.e : Nat), r.nm, .int .i64 (r.nx : Nat), r.tv, r.fv, r.dv, .int .i64 (r.en : Nat)]
structure RdA (w : World) (p g go n c : Nat) (l : List UInt8) (r : Rs) : Prop where
  l_ : l.length = n
  nc : n ≤ c
  bt : BtA w g go l
  blk : w.heap[p]? = some (.cells (r.cs (.slice (some ⟨g, go, none⟩) n c)) 97 (0, 0))
  pg : ¬ p = g
  gl : g < w.heap.size
theorem RdA.tk {w : World} {p g go n c : Nat} {l : List UInt8} {r : Rs} (h : RdA w p g go n c l r) : Tk w p g go n c r.o l := ⟨h.l_, h.nc, h.bt, ⟨_, _, h.blk, rfl, rfl, rfl⟩, h.pg, h.gl⟩
theorem RdA.pl {w : World} {p g go n c : Nat} {l : List UInt8} {r : Rs} (h : RdA w p g go n c l r) : p < w.heap.size := h.tk.pl
theorem RdA.cell {w : World} {p g go n c : Nat} {l : List UInt8} {r : Rs} (h : RdA w p g go n c l r) (k : Nat) (v : Value) (hv : (r.cs (.slice (some ⟨g, go, none⟩) n c))[k]? = some v) : w.cell? ⟨p, k, none⟩ = some v := by rw [cell_atL h.blk]; exact hv
theorem RdA.frozen {w : World} {p g go n c : Nat} {l : List UInt8} {r : Rs} (h : RdA w p g go n c l r) (k : Nat) : w.frozen? ⟨p, k, none⟩ = false := frozen_atL h.blk k
theorem RdA.chg {w w' : World} {p g go n c : Nat} {l : List UInt8} {r : Rs} {S : Nat → Prop} (h : RdA w p g go n c l r) (k : Chg S w w') (hp : ¬ S p) (hg : ¬ S g) : RdA w' p g go n c l r := ⟨h.l_, h.nc, h.bt.chg k hg, (k.block p h.pl hp).trans h.blk, h.pg, Nat.lt_of_lt_of_le h.gl k.size⟩
theorem RdA.out {w w' : World} {p g go n c : Nat} {l : List UInt8} {r : Rs} (h : RdA w p g go n c l r) (k : Out w w') : RdA w' p g go n c l r := h.chg (S := fun _ => False) (Chg.of_out k) (fun h => h) (fun h => h)
theorem RdA.mv {w w' : World} {p g go n c o : Nat} {l : List UInt8} {r : Rs} (h : RdA w p g go n c l r) (k : Mv p o w w') : RdA w' p g go n c l { r with o := o } :=
  ⟨h.l_, h.nc, h.bt.chg k.chg (fun e => h.pg e.symm), k.blk _ _ h.blk, h.pg, Nat.lt_of_lt_of_le h.gl k.chg.size⟩
theorem Chg.setP {w w' : World} {p : Nat} (h : Chg (fun k => k = p) w w') (k : Nat) (v : Value) : Chg (fun k => k = p) w (w'.setCell ⟨p, k, none⟩ v) := Chg.setCell (S := fun k => k = p) h (p := ⟨p, k, none⟩) rfl v
theorem RdA.set {w : World} {p g go n c : Nat} {l : List UInt8} {r r' : Rs} (h : RdA w p g go n c l r) (k : Nat) (v : Value) (e : (r.cs (.slice (some ⟨g, go, none⟩) n c)).setIfInBounds k v = r'.cs (.slice (some ⟨g, go, none⟩) n c)) : RdA (w.setCell ⟨p, k, none⟩ v) p g go n c l r' :=
  have hc : Chg (fun k => k = p) w (w.setCell ⟨p, k, none⟩ v) := Chg.setP (Chg.refl _ _) _ _
  ⟨h.l_, h.nc, h.bt.chg hc (fun e => h.pg e.symm), by rw [set_atL h.blk, e], h.pg, Nat.lt_of_lt_of_le h.gl hc.size⟩
theorem run_make_ins (n : Nat) (hn : n ≤ 1000000000000) (w : World) : ∃ cur : Array Value, cur.size = n * 5 ∧ (Instr.makeSlice 22 (.int .i64 0) (.int .i64 (n : Int))).run Tryz.prog w = .ok (.slice (some ⟨w.heap.size, 0, none⟩) 0 n) (w.alloc (.cells cur 67)) := by
  obtain ⟨i0, hi, hz0, hz1, hz2⟩ := info_parts info5I
  have h := run_make (P := Tryz.prog) w 22 67 i0 _ Tryz.underlying22 hi hz0 .i64 .i64 0 (n : Int) (by omega) (by omega) (by rw [hz2]; omega) (by omega)
  rw [hz1] at h
  refine ⟨_, ?_, h⟩
  simp [madeCells]
def atOf (p : Nat) (w : World) : Nat := match w.cell? ⟨p, 1, none⟩ with | some (.int _ x) => x.toNat | _ => 0
theorem RdA.atOf {w : World} {p g go n c : Nat} {l : List UInt8} {r : Rs} (h : RdA w p g go n c l r) : atOf p w = r.o := by
  have hc := h.cell 1 (.int .i64 (r.o : Nat)) rfl
  unfold Go.Proofs.YthififblejbleaaGreatDoor.atOf; rw [hc]; exact Int.toNat_natCast _
theorem txR_step (l : List UInt8) (j pos E : Nat) (hE : pos + 8 * (j + 1) = E) : (inR l pos E).2.2.1 = true → txR l (j + 1) pos = .error (inR l pos E).2.1 := by
  intro h
  unfold inR at h ⊢
  rw [txR.eq_def]
  dsimp only
  split at h
  · rename_i hw
    rw [if_pos hw, if_pos hw]
    rcases j with _ | i
    · rw [if_pos (by omega)]
    · rw [if_neg (show ¬ pos + 8 = E by omega)] at h ⊢
      split at h
      · rename_i hz; rw [if_pos hz]; simp only []; rw [if_pos hz]
      · simp at h
  · simp at h
theorem txR_go (l : List UInt8) (j pos E : Nat) (hE : pos + 8 * (j + 1) = E) : (inR l pos E).2.2.1 = false → ∃ j', j' ≤ j ∧ (inR l pos E).2.2.2 + 8 * j' = E ∧ txR l (j + 1) pos = (txR l j' (inR l pos E).2.2.2).map ((inR l pos E).1 :: ·) := by
  intro h
  unfold inR at h ⊢
  rw [txR.eq_def]
  dsimp only
  split at h
  · rename_i hw
    rw [if_pos hw, if_pos hw]
    rcases j with _ | i
    · rw [if_pos (by omega)] at h; simp at h
    · rw [if_neg (show ¬ pos + 8 = E by omega)] at h ⊢
      split at h
      · simp at h
      · rename_i hz
        refine ⟨i, by omega, ?_, ?_⟩
        · rw [if_neg hz]; simp only []; omega
        · rw [if_neg hz]; simp only []; rw [if_neg hz]
  · rename_i hw
    rw [if_neg hw, if_neg hw]
    exact ⟨j, by omega, by simp only []; omega, rfl⟩
def txE (l : List UInt8) (p g go n c : Nat) (w : World) (r : Rs) (e : Ending) (w' : World) : Prop :=
  (match txR l r.s r.o with
   | .ok T => e = .returned (.tuple #[.int .i64 0, .bool false]) ∧ ∃ ga cp, RdA w' p g go n c l { r with o := r.o + 8 * r.s, tv := .slice (some ⟨ga, 0, none⟩) T.length cp } ∧ OwT w' w.heap.size (.slice (some ⟨ga, 0, none⟩) T.length cp) T
   | .error q => e = .returned (.tuple #[.int .i64 (q : Nat), .bool true])) ∧ Chg (fun k => k = p) w w'
set_option maxRecDepth 8000 in
set_option maxHeartbeats 2000000 in
theorem takeText_any (w : World) (p g go n c : Nat) (l : List UInt8) (r : Rs) (h : RdA w p g go n c l r) (hT : Tb64 w) (hp1 : ¬ 1 = p) (hr : r.o + 8 * r.s ≤ n) (hn : n ≤ 1000000000000) : Calls Tryz.prog 65 #[.pointer (some ⟨p, 0, none⟩)] w (txE l p g go n c w r) := by
  have hpl := h.pl
  have hgl := h.gl
  have H := hidOf h
  have HT := hidOf hT
  obtain ⟨o, s, f, d, nn, e, nm, nx, tv, fv, dv, en⟩ := r
  simp only at hr
  have c3 : w.cell? ⟨p, 3, none⟩ = some (.int .i64 (s : Nat)) := h.cell 3 _ rfl
  obtain ⟨cur, hcs, mk⟩ := run_make_ins s (by omega) w
  obtain ⟨w1, hw1⟩ : ∃ w1, Hid (w1 = (w.setCell ⟨p, 10, none⟩ (.slice (some ⟨w.heap.size, 0, none⟩) 0 s)).alloc (.cells cur 67)) := ⟨_, rfl⟩
  have f10 : w.frozen? ⟨p, 10, none⟩ = false := h.frozen 10
  have g10 : w.cell? ⟨p, 10, none⟩ = some tv := h.cell 10 _ rfl
  have R1 : Hid (RdA w1 p g go n c l ⟨o, s, f, d, nn, e, nm, nx, .slice (some ⟨w.heap.size, 0, none⟩) 0 s, fv, dv, en⟩) := hidOf (by rw [hw1.out]; exact (h.set (r' := ⟨o, s, f, d, nn, e, nm, nx, .slice (some ⟨w.heap.size, 0, none⟩) 0 s, fv, dv, en⟩) 10 (.slice (some ⟨w.heap.size, 0, none⟩) 0 s) rfl).out (Out.alloc (Out.refl _) _))
  have C1 : Hid (Chg (fun k => k = p) w w1) := hidOf (by rw [hw1.out]; exact (Chg.setP (Chg.refl _ _) _ _).trans (T := fun _ => False) (Chg.of_out (Out.alloc (Out.refl _) _)) (fun _ h _ => h.elim))
  have W1 : Hid (OwT w1 w.heap.size (.slice (some ⟨w.heap.size, 0, none⟩) 0 s) []) := hidOf (by
    rw [hw1.out]
    have hsz : (w.setCell ⟨p, 10, none⟩ (.slice (some ⟨w.heap.size, 0, none⟩) 0 s)).heap.size = w.heap.size := by simp [World.setCell]
    have := World.ownsRow_made (base := w.heap.size) (e := 67) (size := 5) (w.setCell ⟨p, 10, none⟩ (.slice (some ⟨w.heap.size, 0, none⟩) 0 s)) cur s (by rw [hsz]; exact Nat.le_refl _) (by unfold maxLen; omega) hcs
    rw [hsz] at this
    exact this)
  clear h hT
  go_enter Tryz.func65, Tryz.ntmps65
  go_upto_region 2 with fail
  rw [← hw1.out]
  clear mk g10 f10 c3 hw1
  have c1 : w1.cell? ⟨p, 1, none⟩ = some (.int .i64 (o : Nat)) := R1.out.cell 1 _ rfl
  have c3 : w1.cell? ⟨p, 3, none⟩ = some (.int .i64 (s : Nat)) := R1.out.cell 3 _ rfl
  obtain ⟨E, hE⟩ : ∃ E, Hid (E = o + 8 * s) := ⟨_, rfl⟩
  have w8 : IntKind.i64.wrap (8 * (s : Int)) = 8 * (s : Int) := by rw [wrap64_eq17]; unfold wrap64; omega
  have w9 : IntKind.i64.wrap ((o : Int) + 8 * (s : Int)) = (E : Int) := by rw [wrap64_eq17, hE.out]; unfold wrap64; omega
  go_quiet (fail)
  clear c1 c3 w8 w9
  go_wp2
  go_loopw [] (fun wr => ∃ (j pos : Nat) (T : List Ins) (ga : Nat) (cp : Nat), pos + 8 * j = E ∧ T.length + j ≤ s ∧ Hid (txR l s o = (txR l j pos).map (T ++ ·)) ∧ Hid (RdA wr p g go n c l ⟨pos, s, f, d, nn, e, nm, nx, .slice (some ⟨ga, 0, none⟩) T.length cp, fv, dv, en⟩) ∧ Hid (OwT wr w.heap.size (.slice (some ⟨ga, 0, none⟩) T.length cp) T) ∧ Hid (Chg (fun k => k = p) w wr)) (fun wr => E - atOf p wr)
  case atStart => exact ⟨s, o, [], w.heap.size, s, hE.out.symm, by simp, hidOf (by cases txR l s o <;> rfl), hidOf (R1.out.out (Out.drewN (Out.refl _) _)), hidOf W1.out, hidOf (C1.out.of_drewN _)⟩
  case round =>
    obtain ⟨j, pos, T, ga, cp, hj, hTl, HX, HR, HO, HC⟩ := hrel
    have c1 : wr.cell? ⟨p, 1, none⟩ = some (.int .i64 (pos : Nat)) := HR.out.cell 1 _ rfl
    have hEn : E ≤ n := by rw [hE.out]; exact hr
    rcases j with _ | j
    · have hlt : ¬ (pos : Int) < (E : Int) := by omega
      go_wp2
      go_ret2
      refine ⟨?_, HC.out⟩
      have hx := HX.out
      rw [txR] at hx
      show (match txR l s o with | .ok T => _ | .error q => _)
      rw [hx]
      refine ⟨rfl, ga, cp, ?_, ?_⟩
      · have hr2 := HR.out
        have e1 : pos = o + 8 * s := by rw [← hE.out]; omega
        simp only [Except.map, List.append_nil]
        rw [← e1]; exact hr2
      · simp only [Except.map, List.append_nil]; exact HO.out
    · have hlt : (pos : Int) < (E : Int) := by omega
      have C4 := hidOf (takeInsn_any wr p g go n c pos E l HR.out.tk (HT.out.chg HC.out hp1) hp1 (by omega) (by omega) hEn hn)
      obtain ⟨x, pl, b, po, hin⟩ : ∃ x pl b po, Hid (inR l pos E = (x, pl, b, po)) := ⟨_, _, _, _, hidOf rfl⟩
      rw [hin.out] at C4
      obtain ⟨xo, xd, xs, xf, xi⟩ := x
      unfold insAg at C4
      simp only at C4
      cases b
      · go_upto_region 7 with (go_at_call 91; refine C4.out.mono ?_; rintro e w2 ⟨rfl, m2⟩)
        obtain ⟨j', hj', hje, hjx⟩ := txR_go l j pos E hj (by rw [hin.out])
        rw [hin.out] at hje hjx
        simp only at hje hjx
        have HJ := hidOf hjx
        clear hjx
        have HR2 := hidOf (HR.out.mv m2)
        simp only at HR2
        have HC2 := hidOf (HC.out.trans m2.chg (fun x h _ => h))
        have HO2 := hidOf (owns_chg HO.out (fun k hk e => by have := (HO.out.lt k hk).1; omega) m2.chg)
        have BX : Hid (Bx (w2.alloc (.cells #[.int .i64 xo, .int .i64 xd, .int .i64 xs, .int .i64 xf, .int .i64 xi] 67)) w2.heap.size xo xd xs xf xi) := hidOf ⟨heap_alloc_new w2 _⟩
        obtain ⟨q, hq⟩ : ∃ q, Hid (q = w2.heap.size) := ⟨_, rfl⟩
        rw [← hq.out] at BX
        obtain ⟨w3, hw3⟩ : ∃ w3, Hid (w3 = w2.alloc (.cells #[.int .i64 xo, .int .i64 xd, .int .i64 xs, .int .i64 xf, .int .i64 xi] 67)) := ⟨_, rfl⟩
        rw [← hw3.out] at BX
        rw [← hw3.out, ← hq.out]
        have O3 : Out w2 w3 := by rw [hw3.out]; exact Out.alloc (Out.refl _) _
        have R3 := hidOf (HR2.out.out O3)
        have C3 := hidOf (HC2.out.trans (T := fun _ => False) (Chg.of_out O3) (fun _ h _ => h.elim))
        have Ow3 := hidOf (owns_chg (S := fun _ => False) HO2.out (fun _ _ h => h) (Chg.of_out O3))
        have hs3 : w.heap.size ≤ w3.heap.size := C3.out.size
        have hMe : Hid (E - po < E - atOf p wr) := hidOf (by rw [HR.out.atOf]; simp only; omega)
        clear m2 O3 HR2 HC2 HO2 hw3 C4 c1
        obtain ⟨⟨i0, i1, i2, i3, i4⟩, ff⟩ := BX.out.all
        clear ff
        have c10 : w3.cell? ⟨p, 10, none⟩ = some (.slice (some ⟨ga, 0, none⟩) T.length cp) := R3.out.cell 10 _ rfl
        have a10 : ∀ O, (w3.alloc O).cell? ⟨p, 10, none⟩ = some (.slice (some ⟨ga, 0, none⟩) T.length cp) := fun O => (R3.out.out (Out.alloc (Out.refl _) O)).cell 10 _ rfl
        have OA : Hid (∀ O, (w3.alloc O).drew.ownsRow w.heap.size 67 5 (.slice (some ⟨ga, 0, none⟩) T.length cp) T.length (insV T)) := hidOf (fun O => World.ownsRow.alloc Ow3.out O)
        have FAR : Hid (∀ O w', (w3.alloc O).drew.grownBy w' (Value.slice (some ⟨ga, 0, none⟩) T.length cp).ownBlock → RdA w' p g go n c l ⟨po, s, f, d, nn, e, nm, nx, .slice (some ⟨ga, 0, none⟩) T.length cp, fv, dv, en⟩ ∧ Chg (fun k => k = p) w w') := hidOf (fun O w' hg => by
          have hne : ∀ k, (Value.slice (some ⟨ga, 0, none⟩) T.length cp).ownBlock = some k → w.heap.size ≤ k := fun k hk => (Ow3.out.lt k hk).1
          have hc := Chg.of_grown (S := fun k => (Value.slice (some ⟨ga, 0, none⟩) T.length cp).ownBlock = some k) hg (fun k hk => hk)
          refine ⟨(R3.out.out (Out.drew (Out.alloc (Out.refl _) O))).chg hc (fun h => by have := hne p h; omega) (fun h => by have := hne g h; omega), ?_⟩
          exact (C3.out.trans (T := fun _ => False) (Chg.of_out (Out.drew (Out.alloc (Out.refl _) O))) (fun _ h _ => h.elim)).trans hc (fun x h hlt => by have := hne x h; omega))
        obtain ⟨t0, hi, hz0, hz1, hz2⟩ := info_parts info5I
        have hTs : T.length ≤ 1000000000000 := by omega
        go_region_law (refine step_append_lies _ rfl (.tmp 53) (.tmp 55) 22 rfl w.heap.size 67 t0 _ 5 40 Tryz.underlying22 hi hz0 hz1 hz2 rfl (by decide) (.slice (some ⟨ga, 0, none⟩) T.length cp) T.length (insV T) rfl (OA.out _) ⟨w3.heap.size, 0, none⟩ 1 1 (Ins.cs ⟨xo, xd, xs, xf, xi⟩) rfl rfl (news_drew17 _ _ _ _ rfl) (cs_one _) (by decide) (by unfold maxLen; omega) (by omega) (Nat.le_trans hs3 (Out.size (Out.drew (Out.alloc (Out.refl _) _)))) _ rfl ?_; intro g2 cap w4 hown' hgrow hg hlt; obtain ⟨hR4, hC4⟩ := FAR.out _ _ hgrow; have q10 : w4.cell? ⟨p, 10, none⟩ = some (.slice (some ⟨ga, 0, none⟩) T.length cp) := hR4.cell 10 _ rfl; have qf : w4.frozen? ⟨p, 10, none⟩ = false := hR4.frozen 10; have R4 := hidOf hR4; have C4 := hidOf hC4; have Ow4 := hidOf hown'; clear hown' hgrow hg hlt hR4 hC4)
        all_goals
          go_wp2
          go_roundw
          case rel =>
            refine ⟨j', po, T ++ [⟨xo, xd, xs, xf, xi⟩], g2, cap, hje, by simp; omega, hidOf ?_, hidOf ?_, hidOf ?_, hidOf (Chg.setP C4.out _ _)⟩
            · rw [HX.out, HJ.out]; cases txR l j' po <;> simp [Except.map]
            · rw [List.length_append]; exact R4.out.set 10 _ rfl
            · unfold OwT
              rw [List.length_append, insV_snoc]
              exact owns_chg (S := fun k => k = p) Ow4.out (fun k hk e => by have := (Ow4.out.lt k hk).1; omega) (Chg.setP (Chg.refl _ _) _ _)
          case measure =>
            have := (R4.out.set (r' := ⟨po, s, f, d, nn, e, nm, nx, .slice (some ⟨g2, 0, none⟩) (T.length + 1) cap, fv, dv, en⟩) 10 (.slice (some ⟨g2, 0, none⟩) (T.length + 1) cap) rfl).atOf
            rw [this]; exact hMe.out
      · have hx := hidOf (txR_step l j pos E hj (by rw [hin.out]))
        go_wp2_with (go_at_call 91; refine C4.out.mono ?_; rintro e w2 ⟨rfl, m2⟩)
        go_ret2
        refine ⟨?_, ?_⟩
        · have hx2 := HX.out
          rw [hx.out, hin.out] at hx2
          show (match txR l s o with | .ok T => _ | .error q => _)
          rw [hx2]
          rfl
        · exact (HC.out.trans m2.chg (fun x h _ => h)).trans (T := fun _ => False) (Chg.of_out (Out.alloc (Out.refl _) _)) (fun _ h _ => h.elim)
end Go.Proofs.YthififblejbleaaGreatDoor
