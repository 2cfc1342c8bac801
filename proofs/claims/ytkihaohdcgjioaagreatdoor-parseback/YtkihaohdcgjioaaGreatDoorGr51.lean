import Derived.Test.YtkihaohdcgjioaaGreatDoorGr50
import Derived.SliceStrings
namespace Go.Proofs.YtkihaohdcgjioaaGreatDoor
open Go.ChangeShapes Go.WideShapes Go.ChangeAt Go.RowKit
set_option linter.unusedVariables false
theorem cInsn : Tryz.prog.cellsOf 58 = 5 := by kernel_rfl
theorem wfI64 {n : Int} (h : (Lit.int .i64 n).wf = true) : I64 n := by
  simp [Lit.wf, IntKind.min, IntKind.max, IntKind.bits, IntKind.signed] at h
  unfold I64
  omega
theorem str_weight {H : Type} {P : Program} {t : TypeId} {l : List UInt8} (h : ((DataW.lit (.string (⟨l.toArray⟩ : ByteArray).data.toList) : DataW H).weights P t).all (fun x => decide (x ≤ reachBytes)) = true) : l.length ≤ 140737488355328 := by
  have h' : (decide (l.length ≤ reachBytes) && true) = true := h
  rw [Bool.and_true] at h'
  have h2 : l.length ≤ 140737488351232 := of_decide_eq_true h'
  omega
end Go.Proofs.YtkihaohdcgjioaaGreatDoor
namespace Go.Proofs.YtkihaohdcgjioaaGreatDoor
open Go.RowKit
set_option linter.unusedVariables false
set_option linter.unusedSimpArgs false
set_option maxRecDepth 20000 in
set_option maxHeartbeats 4000000 in
theorem parseBack_walk (w : World) (hE : Lx.LEnv w) (hA : AEnv w) (a : Option Addr) (cap : Nat) (Y : List (Stm × Value × Value)) (hY : StA w a Y) (lY : ∀ y ∈ Y, LsR w y) (nY : ∀ y ∈ Y, ∀ aw n c, (y.2.1 = .slice aw n c ∨ y.2.2 = .slice aw n c) → aw = none → c = 0) (hs : ∀ y ∈ Y, y.1.ws.length ≤ 8796093022208 ∧ y.1.ns.length ≤ 17592186044416) (hx : ∀ y ∈ Y, StmI y.1) (hl : Y.length ≤ 1034834473171) :
    Calls Tryz.prog 5 #[.slice a Y.length cap] w fun e w' => e = .returned (.bool true) ∧ Out w w' := by
  have CA := hidOf (awake6_any w hE hA.1)
  have CN := hidOf num6_any
  obtain ⟨L, hL⟩ : ∃ L, L = Y.map (fun y => y.1) := ⟨_, rfl⟩
  have hLl : L.length = Y.length := by rw [hL]; simp
  have hxL : ∀ x ∈ L, StmI x := fun x hx' => by
    rw [hL] at hx'
    obtain ⟨y, hy, rfl⟩ := List.mem_map.1 hx'
    exact hx y hy
  have CC : Hid (∀ wx, Out w wx → Calls Tryz.prog 13 #[.slice a Y.length cap] wx fun e w' => ∃ sa sc, e = .returned (.slice sa Y.length sc) ∧ OwQ wx.heap.size (.slice sa Y.length sc) L w' ∧ Out wx w') := hidOf (fun wx o => (copySts_any wx a cap Y (hY.out o) (fun y hy => (lY y hy).out o) nY hs hl).mono (by
    rintro e w' ⟨v, he, hq, ho⟩
    rw [← hL] at hq
    obtain ⟨sa, sc, _, rfl, _⟩ := hq.sl
    rw [hLl] at he hq
    exact ⟨sa, sc, he, hq, ho⟩))
  obtain ⟨R, hR⟩ : ∃ R, R = prF [] 0 (L.map lnA) := ⟨_, rfl⟩
  have CP : Hid (∀ wx B sa sc, Out w wx → OwQ B (.slice sa Y.length sc) L wx → Calls Tryz.prog 12 #[.slice sa Y.length sc] wx fun e w' => e = .returned (.tuple #[.string ⟨R.1.toArray⟩, .int .i64 R.2]) ∧ Out wx w') := hidOf (fun wx B sa sc o hq => by
    have := print_own wx (hA.out o) hq (by omega) hxL
    rw [← hR] at this
    exact this)
  have HP := hidOf (back_P L (fun x hx' => (hxL x hx').2.2.2))
  rw [← hR] at HP
  have CS : Hid (∀ wx ad cp (t : List UInt8), Out w wx → t.length ≤ cp → t.length ≤ 16777216 → Lx.RestAt wx.heap.size wx ad t → Calls Tryz.prog 15 #[.slice ad t.length cp] wx fun e w' => ∃ sa sc Y, e = .returned (.tuple #[.slice sa (statsP t).1.length sc, .int .i64 (statsP t).2.1, .int .i64 (statsP t).2.2]) ∧ (statsP t).1.length ≤ sc ∧ Y.map (fun y => y.1) = (statsP t).1 ∧ StA w' sa Y ∧ (∀ y ∈ Y, LsR w' y) ∧ Out wx w') := hidOf (fun wx ad cp t o h1 h2 h3 => stats_sl wx (hE.out o) (hA.1.out o) ad cp t h3 h1 (by omega))
  have HL := hidOf hL
  have SY := hidOf hY
  have LY := hidOf lY
  have HS := hidOf hs
  obtain ⟨n, hn⟩ : ∃ n, n = Y.length := ⟨_, rfl⟩
  rw [← hn] at CC CP hl ⊢
  have Hn := hidOf hn
  clear hE hA hY lY nY hs hx hxL hR hL hLl hn
  by_cases h0 : R.2 = 0
  · obtain ⟨hst, htl⟩ := HP.out.2 h0
    obtain ⟨t, ht⟩ : ∃ t, t = R.1 := ⟨_, rfl⟩
    rw [h0, ← ht] at CP
    rw [← ht] at hst htl
    have CS2 : Hid (∀ wx, Out w wx → Calls Tryz.prog 15 #[.slice (some ⟨wx.heap.size, 0, none⟩) t.length (grownCap wx t.length 0 5)] (Lib.bytesWorld wx 5 ⟨t.toArray⟩) fun e w' => ∃ sa sc Y, e = .returned (.tuple #[.slice sa n sc, .int .i64 0, .int .i64 0]) ∧ n ≤ sc ∧ Y.map (fun y => y.1) = numL 0 L ∧ StA w' sa Y ∧ (∀ y ∈ Y, LsR w' y) ∧ Out wx w') := hidOf (fun wx o => by
      have ob : Out wx (Lib.bytesWorld wx 5 ⟨t.toArray⟩) := Lx.bw_out wx _ _
      have := CS.out _ (some ⟨wx.heap.size, 0, none⟩) (grownCap wx t.length 0 5) t (o.trans ob) (grownCap_ge _ _ _ _) htl (bw_rest wx t)
      rw [hst] at this
      simp only at this
      rw [numL_len, HL.out, List.length_map, ← Hn.out] at this
      rw [HL.out]
      exact this.mono (by
        rintro e w' ⟨sa, sc, Y, he, h1, h2, h3, h4, ho⟩
        exact ⟨sa, sc, Y, he, h1, h2, h3, h4, ob.trans ho⟩))
    have hls : (⟨t.toArray⟩ : ByteArray).size = t.length := mk_size t
    clear CS HP ht h0 hst
    go_enter Tryz.func5, Tryz.ntmps5
    go_upto_region 3 with (go_at_call 9; refine CA.out.mono ?_; rintro e w1 ⟨rfl, ho⟩; have O1 := hidOf ho; clear ho)
    go_upto_region 6 with (first | (go_at_call 13; refine (CC.out _ O1.out).mono ?_; rintro e w2 ⟨sa, sc, rfl, hq, ho⟩; have O2 := hidOf (O1.out.trans ho); have T2 := hidOf (CP.out _ _ sa sc O2.out hq); clear hq ho) | (go_at_call 12; refine T2.out.mono ?_; rintro e w3 ⟨rfl, ho⟩; have O3 := hidOf (O2.out.trans ho); clear ho) | (go_at_call 14; refine (CN.out _ _).mono ?_; rintro e wn ⟨rfl, hwn⟩; subst hwn))
    have hcv := Lib.run_convert_string_bytes (P := Tryz.prog) w3 9 24 5 ⟨t.toArray⟩ (u := .string) Tryz.underlying9 Tryz.underlying24 Tryz.underlying5
    rw [hls] at hcv
    have CS3 := hidOf (CS2.out w3 O3.out)
    generalize Lib.bytesWorld w3 5 ⟨t.toArray⟩ = wb at *
    go_upto_region 7 with (go_at_call 15; refine CS3.out.mono ?_; rintro e w4 ⟨az, cz, YZ, rfl, hcz, hYZ, hSZ, hLZ, ho⟩; have EZ := hidOf hYZ; have SZ := hidOf hSZ; have LZ := hidOf hLZ; have O4 := hidOf (O3.out.trans ho); clear hYZ hSZ hLZ ho)
    clear hcv CS3 CS2 CC CP CA T2 O1 O2 O3
    have hnn0 : ((n : Int) != (n : Int)) = false := by simp
    go_upto_region 10 with (go_at_call 14; refine (CN.out _ _).mono ?_; rintro e wn ⟨rfl, hwn⟩; subst hwn)
    go_loopw [8] (fun iv wr => ∃ I : Nat, iv = .int .i64 I ∧ I ≤ n ∧ Hid (Out w4 wr)) (fun iv _ => n - (intOf iv).toNat)
    case atStart => exact ⟨0, rfl, by omega, hidOf (Out.refl _)⟩
    case round =>
      obtain ⟨I, rfl, hI, OR⟩ := hrel
      by_cases hIn : I < n
      · have hltI : (I : Int) < n := by omega
        have h0 : (0 : Int) ≤ I := by omega
        obtain ⟨y, hy⟩ : ∃ y, Y[I]? = some y := ⟨_, List.getElem?_eq_getElem (by have := Hn.out; omega)⟩
        have hyL : L[I]? = some y.1 := by rw [HL.out, List.getElem?_map, hy]; rfl
        have hzl : YZ.length = n := by
          have := congrArg List.length EZ.out
          rw [List.length_map, numL_len, HL.out, List.length_map, ← Hn.out] at this
          exact this
        obtain ⟨z, hz⟩ : ∃ z, YZ[I]? = some z := ⟨_, List.getElem?_eq_getElem (by omega)⟩
        have hzy : z.1 = { y.1 with l := (I : Int) + 1 } := by
          have e1 : (YZ.map (fun y => y.1))[I]? = some z.1 := by rw [List.getElem?_map, hz]; rfl
          rw [EZ.out, numL_get 0 I L y.1 hyL, Nat.zero_add] at e1
          exact (Option.some.inj e1).symm
        obtain ⟨hv1, hv2⟩ := HS.out y (List.mem_of_getElem? hy)
        obtain ⟨g1, off1, rfl, h1⟩ := (SY.out.out O4.out).get hy
        obtain ⟨g2, off2, rfl, h2⟩ := SZ.out.get hz
        obtain ⟨aw, cw, an, cn, e1, e2, r1, r2, _⟩ := (LY.out y (List.mem_of_getElem? hy)).out O4.out
        obtain ⟨aw2, cw2, an2, cn2, e3, e4, r3, r4, _⟩ := LZ.out z (List.mem_of_getElem? hz)
        obtain ⟨x, wv, nv⟩ := y
        obtain ⟨x2, wv2, nv2⟩ := z
        simp only at hzy h1 h2 e1 e2 e3 e4 r1 r2 r3 r4 hv1 hv2
        subst hzy e1 e2 e3 e4
        have CS : Hid (∀ wx, Out w4 wx → Calls Tryz.prog 16 #[.agg #[.int .i64 x.k, .string ⟨x.nm.toArray⟩, .slice aw2 x.ws.length cw2, .slice an2 x.ns.length cn2, .int .i64 x.o, .int .i64 x.d, .int .i64 x.s, .int .i64 x.f, .int .i64 x.i, .string ⟨x.tg.toArray⟩, .int .i64 ((I : Int) + 1)], .agg #[.int .i64 x.k, .string ⟨x.nm.toArray⟩, .slice aw x.ws.length cw, .slice an x.ns.length cn, .int .i64 x.o, .int .i64 x.d, .int .i64 x.s, .int .i64 x.f, .int .i64 x.i, .string ⟨x.tg.toArray⟩, .int .i64 ((I : Int) + 1)]] wx fun e w' => e = .returned (.bool true) ∧ Out wx w') := hidOf (fun wx o => sameSt_any { x with l := (I : Int) + 1 } aw2 aw an2 an cw2 cw cn2 cn wx (r3.out o) (r1.out o) (r4.out o) (r2.out o) (by show x.ws.length ≤ _; omega) (by show x.ns.length ≤ _; omega))
        obtain ⟨nw, hnw⟩ : ∃ n, n = x.ws.length := ⟨_, rfl⟩
        obtain ⟨nn, hnn⟩ : ∃ n, n = x.ns.length := ⟨_, rfl⟩
        obtain ⟨xk, xnm, xws, xns, xo, xd, xs, xf, xi, xtg, xl⟩ := x
        simp only at CS hnw hnn
        have HY : Hid (∀ wx, Out w4 wx → wx.cell? ⟨g1, off1 + I * 11, none⟩ = some (.int .i64 xk) ∧ wx.cell? ⟨g1, off1 + I * 11 + 1, none⟩ = some (.string ⟨xnm.toArray⟩) ∧ wx.cell? ⟨g1, off1 + I * 11 + 2, none⟩ = some (.slice aw nw cw) ∧ wx.cell? ⟨g1, off1 + I * 11 + 3, none⟩ = some (.slice an nn cn) ∧ wx.cell? ⟨g1, off1 + I * 11 + 4, none⟩ = some (.int .i64 xo) ∧ wx.cell? ⟨g1, off1 + I * 11 + 5, none⟩ = some (.int .i64 xd) ∧ wx.cell? ⟨g1, off1 + I * 11 + 6, none⟩ = some (.int .i64 xs) ∧ wx.cell? ⟨g1, off1 + I * 11 + 7, none⟩ = some (.int .i64 xf) ∧ wx.cell? ⟨g1, off1 + I * 11 + 8, none⟩ = some (.int .i64 xi) ∧ wx.cell? ⟨g1, off1 + I * 11 + 9, none⟩ = some (.string ⟨xtg.toArray⟩) ∧ wx.cell? ⟨g1, off1 + I * 11 + 10, none⟩ = some (.int .i64 xl)) := hidOf (by rw [hnw, hnn]; exact (fun wx o => ⟨cell_later o (h1 0 _ rfl), cell_later o (h1 1 _ rfl), cell_later o (h1 2 _ rfl), cell_later o (h1 3 _ rfl), cell_later o (h1 4 _ rfl), cell_later o (h1 5 _ rfl), cell_later o (h1 6 _ rfl), cell_later o (h1 7 _ rfl), cell_later o (h1 8 _ rfl), cell_later o (h1 9 _ rfl), cell_later o (h1 10 _ rfl)⟩))
        have HZ : Hid (∀ wx, Out w4 wx → wx.cell? ⟨g2, off2 + I * 11, none⟩ = some (.int .i64 xk) ∧ wx.cell? ⟨g2, off2 + I * 11 + 1, none⟩ = some (.string ⟨xnm.toArray⟩) ∧ wx.cell? ⟨g2, off2 + I * 11 + 2, none⟩ = some (.slice aw2 nw cw2) ∧ wx.cell? ⟨g2, off2 + I * 11 + 3, none⟩ = some (.slice an2 nn cn2) ∧ wx.cell? ⟨g2, off2 + I * 11 + 4, none⟩ = some (.int .i64 xo) ∧ wx.cell? ⟨g2, off2 + I * 11 + 5, none⟩ = some (.int .i64 xd) ∧ wx.cell? ⟨g2, off2 + I * 11 + 6, none⟩ = some (.int .i64 xs) ∧ wx.cell? ⟨g2, off2 + I * 11 + 7, none⟩ = some (.int .i64 xf) ∧ wx.cell? ⟨g2, off2 + I * 11 + 8, none⟩ = some (.int .i64 xi) ∧ wx.cell? ⟨g2, off2 + I * 11 + 9, none⟩ = some (.string ⟨xtg.toArray⟩) ∧ wx.cell? ⟨g2, off2 + I * 11 + 10, none⟩ = some (.int .i64 ((I : Int) + 1))) := hidOf (by rw [hnw, hnn]; exact (fun wx o => ⟨cell_later o (h2 0 _ rfl), cell_later o (h2 1 _ rfl), cell_later o (h2 2 _ rfl), cell_later o (h2 3 _ rfl), cell_later o (h2 4 _ rfl), cell_later o (h2 5 _ rfl), cell_later o (h2 6 _ rfl), cell_later o (h2 7 _ rfl), cell_later o (h2 8 _ rfl), cell_later o (h2 9 _ rfl), cell_later o (h2 10 _ rfl)⟩))
        rw [← hnw, ← hnn] at CS
        clear hnw hnn h1 h2 r1 r2 r3 r4 hy hz hyL hzl hv1 hv2
        obtain ⟨q0, q1, q2, q3, q4, q5, q6, q7, q8, q9, q10⟩ := HY.out wr OR.out
        go_upto_region 13 with fail
        obtain ⟨p, hp⟩ : ∃ p, p = wr.heap.size := ⟨_, rfl⟩
        obtain ⟨wB, hwB⟩ : ∃ wB, wB = wr.alloc (.cells #[.int .i64 xk, .string ⟨xnm.toArray⟩, .slice aw nw cw, .slice an nn cn, .int .i64 xo, .int .i64 xd, .int .i64 xs, .int .i64 xf, .int .i64 xi, .string ⟨xtg.toArray⟩, .int .i64 xl] 60) := ⟨_, rfl⟩
        have bB : wB.heap[p]? = some (.cells #[.int .i64 xk, .string ⟨xnm.toArray⟩, .slice aw nw cw, .slice an nn cn, .int .i64 xo, .int .i64 xd, .int .i64 xs, .int .i64 xf, .int .i64 xi, .string ⟨xtg.toArray⟩, .int .i64 xl] 60 (0, 0)) := by rw [hwB, hp]; exact heap_alloc_new wr _
        have OB : Hid (Out wr wB) := hidOf (by rw [hwB]; exact (Out.refl wr).alloc _)
        rw [← hwB, ← hp]
        have m10 : wB.cell? ⟨p, 10, none⟩ = some (.int .i64 xl) := by rw [cell_atL bB]; rfl
        have f10 : wB.frozen? ⟨p, 10, none⟩ = false := by simp [World.frozen?, bB]
        have Hp := hidOf hp
        have BB := hidOf bB
        clear hwB hp bB q0 q1 q2 q3 q4 q5 q6 q7 q8 q9 q10
        go_upto_region 14 with fail
        obtain ⟨wC, hwC⟩ : ∃ wC, wC = wB.setCell ⟨p, 10, none⟩ (.int .i64 ((I : Int) + 1)) := ⟨_, rfl⟩
        have b3 : wC.heap[p]? = some (.cells #[.int .i64 xk, .string ⟨xnm.toArray⟩, .slice aw nw cw, .slice an nn cn, .int .i64 xo, .int .i64 xd, .int .i64 xs, .int .i64 xf, .int .i64 xi, .string ⟨xtg.toArray⟩, .int .i64 ((I : Int) + 1)] 60 (0, 0)) := by rw [hwC, set_atL BB.out]; rfl
        have OC : Hid (Out wr wC) := hidOf (by
          rw [hwC]
          exact Chg.out (S := fun k => k = p) (Chg.setCell (S := fun k => k = p) (Chg.refl _ wB) (p := ⟨p, 10, none⟩) rfl _) OB.out (fun k hk => by have := Hp.out; omega))
        rw [← hwC]
        have HK : Hid (∀ wx, Out wC wx → wx.cell? ⟨g2, off2 + I * 11, none⟩ = some (.int .i64 xk) ∧ wx.cell? ⟨g2, off2 + I * 11 + 1, none⟩ = some (.string ⟨xnm.toArray⟩) ∧ wx.cell? ⟨g2, off2 + I * 11 + 2, none⟩ = some (.slice aw2 nw cw2) ∧ wx.cell? ⟨g2, off2 + I * 11 + 3, none⟩ = some (.slice an2 nn cn2) ∧ wx.cell? ⟨g2, off2 + I * 11 + 4, none⟩ = some (.int .i64 xo) ∧ wx.cell? ⟨g2, off2 + I * 11 + 5, none⟩ = some (.int .i64 xd) ∧ wx.cell? ⟨g2, off2 + I * 11 + 6, none⟩ = some (.int .i64 xs) ∧ wx.cell? ⟨g2, off2 + I * 11 + 7, none⟩ = some (.int .i64 xf) ∧ wx.cell? ⟨g2, off2 + I * 11 + 8, none⟩ = some (.int .i64 xi) ∧ wx.cell? ⟨g2, off2 + I * 11 + 9, none⟩ = some (.string ⟨xtg.toArray⟩) ∧ wx.cell? ⟨g2, off2 + I * 11 + 10, none⟩ = some (.int .i64 ((I : Int) + 1)) ∧ wx.cell? ⟨p, 0, none⟩ = some (.int .i64 xk) ∧ wx.cell? ⟨p, 1, none⟩ = some (.string ⟨xnm.toArray⟩) ∧ wx.cell? ⟨p, 2, none⟩ = some (.slice aw nw cw) ∧ wx.cell? ⟨p, 3, none⟩ = some (.slice an nn cn) ∧ wx.cell? ⟨p, 4, none⟩ = some (.int .i64 xo) ∧ wx.cell? ⟨p, 5, none⟩ = some (.int .i64 xd) ∧ wx.cell? ⟨p, 6, none⟩ = some (.int .i64 xs) ∧ wx.cell? ⟨p, 7, none⟩ = some (.int .i64 xf) ∧ wx.cell? ⟨p, 8, none⟩ = some (.int .i64 xi) ∧ wx.cell? ⟨p, 9, none⟩ = some (.string ⟨xtg.toArray⟩) ∧ wx.cell? ⟨p, 10, none⟩ = some (.int .i64 ((I : Int) + 1))) := hidOf (fun wx o => by
          obtain ⟨r0, r1, r2, r3, r4, r5, r6, r7, r8, r9, r10⟩ := HZ.out wx ((OR.out.trans OC.out).trans o)
          exact ⟨r0, r1, r2, r3, r4, r5, r6, r7, r8, r9, r10, cell_later o (by rw [cell_atL b3]; rfl), cell_later o (by rw [cell_atL b3]; rfl), cell_later o (by rw [cell_atL b3]; rfl), cell_later o (by rw [cell_atL b3]; rfl), cell_later o (by rw [cell_atL b3]; rfl), cell_later o (by rw [cell_atL b3]; rfl), cell_later o (by rw [cell_atL b3]; rfl), cell_later o (by rw [cell_atL b3]; rfl), cell_later o (by rw [cell_atL b3]; rfl), cell_later o (by rw [cell_atL b3]; rfl), cell_later o (by rw [cell_atL b3]; rfl)⟩)
        have OD := hidOf ((Out.refl wC).drew)
        have OWC := hidOf (OR.out.trans OC.out)
        clear hwC m10 f10 b3 BB HZ HY OB
        go_region_held3 (fun wx => wx.cell? ⟨g2, off2 + I * 11, none⟩ = some (.int .i64 xk) ∧ wx.cell? ⟨g2, off2 + I * 11 + 1, none⟩ = some (.string ⟨xnm.toArray⟩) ∧ wx.cell? ⟨g2, off2 + I * 11 + 2, none⟩ = some (.slice aw2 nw cw2) ∧ wx.cell? ⟨g2, off2 + I * 11 + 3, none⟩ = some (.slice an2 nn cn2) ∧ wx.cell? ⟨g2, off2 + I * 11 + 4, none⟩ = some (.int .i64 xo) ∧ wx.cell? ⟨g2, off2 + I * 11 + 5, none⟩ = some (.int .i64 xd) ∧ wx.cell? ⟨g2, off2 + I * 11 + 6, none⟩ = some (.int .i64 xs) ∧ wx.cell? ⟨g2, off2 + I * 11 + 7, none⟩ = some (.int .i64 xf) ∧ wx.cell? ⟨g2, off2 + I * 11 + 8, none⟩ = some (.int .i64 xi) ∧ wx.cell? ⟨g2, off2 + I * 11 + 9, none⟩ = some (.string ⟨xtg.toArray⟩) ∧ wx.cell? ⟨g2, off2 + I * 11 + 10, none⟩ = some (.int .i64 ((I : Int) + 1)) ∧ wx.cell? ⟨p, 0, none⟩ = some (.int .i64 xk) ∧ wx.cell? ⟨p, 1, none⟩ = some (.string ⟨xnm.toArray⟩) ∧ wx.cell? ⟨p, 2, none⟩ = some (.slice aw nw cw) ∧ wx.cell? ⟨p, 3, none⟩ = some (.slice an nn cn) ∧ wx.cell? ⟨p, 4, none⟩ = some (.int .i64 xo) ∧ wx.cell? ⟨p, 5, none⟩ = some (.int .i64 xd) ∧ wx.cell? ⟨p, 6, none⟩ = some (.int .i64 xs) ∧ wx.cell? ⟨p, 7, none⟩ = some (.int .i64 xf) ∧ wx.cell? ⟨p, 8, none⟩ = some (.int .i64 xi) ∧ wx.cell? ⟨p, 9, none⟩ = some (.string ⟨xtg.toArray⟩) ∧ wx.cell? ⟨p, 10, none⟩ = some (.int .i64 ((I : Int) + 1))) (first | with_reducible exact HK.out _ (Hid.out (by assumption)) | fail) (first | (go_at_call 16; refine (CS.out _ (OWC.out.trans OD.out)).mono ?_; rintro e w1 ⟨rfl, hO1⟩; have HO1 := hidOf (OD.out.trans hO1); clear hO1) | fail)
        go_wp2
        go_roundw
        case rel => exact ⟨I + 1, by simp, by omega, hidOf (OWC.out.trans HO1.out)⟩
        case measure => simp [intOf]; omega
      · have hltI : ¬ (I : Int) < n := by omega
        go_wp2
        go_ret
        exact ⟨rfl, O4.out.trans OR.out⟩
  · have hz := HP.out.1 h0
    have h0b : (R.2 != 0) = true := by simpa using h0
    rw [hz] at CP
    generalize R.2 = rc at *
    clear HP CS hz h0
    go_enter Tryz.func5, Tryz.ntmps5
    go_wp2_with (first | (go_at_call 9; refine CA.out.mono ?_; rintro e w1 ⟨rfl, ho⟩; have O1 := hidOf ho; clear ho) | (go_at_call 13; refine (CC.out _ O1.out).mono ?_; rintro e w2 ⟨sa, sc, rfl, hq, ho⟩; have O2 := hidOf (O1.out.trans ho); have T2 := hidOf (CP.out _ _ sa sc O2.out hq); clear hq ho) | (go_at_call 12; refine T2.out.mono ?_; rintro e w3 ⟨rfl, ho⟩; have O3 := hidOf (O2.out.trans ho); clear ho) | (go_at_call 14; refine (CN.out _ _).mono ?_; rintro e wn ⟨rfl, hwn⟩; subst hwn))
    go_ret
    exact ⟨by first | rfl | simp, O3.out⟩
end Go.Proofs.YtkihaohdcgjioaaGreatDoor
namespace Go.Proofs.YtkihaohdcgjioaaGreatDoor
open Go.ChangeShapes Go.WideShapes Go.ChangeAt Go.RowKit Go.Deep
set_option linter.unusedVariables false
set_option linter.unusedSimpArgs false
theorem cSt6 : Tryz.prog.cellsOf 60 = 11 := by kernel_rfl
theorem bSt6 : Tryz.prog.bytesOf 60 = 136 := by kernel_rfl
theorem bStr6 : Tryz.prog.bytesOf 9 = 16 := by kernel_rfl
theorem bInt6 : Tryz.prog.bytesOf 3 = 8 := by kernel_rfl
theorem cInt6 : Tryz.prog.cellsOf 3 = 1 := by kernel_rfl
theorem cStr6 : Tryz.prog.cellsOf 9 = 1 := by kernel_rfl
theorem cSs6 : Tryz.prog.cellsOf 56 = 1 := by kernel_rfl
theorem cIs6 : Tryz.prog.cellsOf 31 = 1 := by kernel_rfl
theorem open_texts6 {H : Type} {enc : TypeId × Value → H} {w : World} {base : Nat} {spare : Nat → Bool} {held : Bool} {fuel : Nat} {v : Value} {x : DataW H × List MemPlace}
    (h : DataW.trod enc Tryz.prog w base spare held fuel 56 [v] = some x) (hw : (x.1.weights Tryz.prog 56).all (· ≤ reachBytes) = true) : ∃ (a : Option Addr) (cap : Nat) (ts : List (List UInt8)), v = .slice a ts.length cap ∧ RowC w a (strsC ts) ∧ ts.length ≤ cap ∧ (a = none → cap = 0) ∧ ts.length ≤ 8796093022208 := by
  rcases open_slice Tryz.underlying56 h with ⟨hcs, rfl⟩ | ⟨ad, l, c, m, n, D, Pl, hcs, hb, hl, hm, hmm, rfl, hx⟩
  · simp at hcs
    exact ⟨none, 0, [], hcs, .inl rfl, Nat.le_refl _, fun _ => rfl, by decide⟩
  · simp at hcs
    subst hcs
    simp only [DataW.weights, Tryz.underlying56, bStr6, List.all_cons, List.all_append, Bool.and_eq_true, List.length_map, List.length_range] at hw
    have hwl : (l + (m - l)) * 16 ≤ 140737488351232 := of_decide_eq_true hw.1
    by_cases z : l = 0
    · subst z; exact ⟨some ad, c, [], rfl, .inl rfl, hl, fun e => (by cases e), by decide⟩
    have hlm : l ≤ m := by rw [hmm]; split <;> omega
    obtain ⟨b, off, spot⟩ := ad
    have hs : spot = none := by
      obtain ⟨cs', h1, h2⟩ := hx 0 (by omega)
      simp only [cStr6] at h1
      obtain ⟨_, hlen, hcell⟩ := World.cells?_some h1
      match cs', hlen with
      | [v0], _ =>
        have e0 : w.cell? (((⟨b, off, spot⟩ : Addr).add (0 * 1)).add 0) = some v0 := hcell 0 (by simp)
        simpa [Addr.add] using World.cell?_spot e0
    subst hs
    have key : ∀ i, i < l → ∃ y : List UInt8, w.cell? ⟨b, off + i, none⟩ = some (.string ⟨y.toArray⟩) := by
      intro i hi
      obtain ⟨cs', h1, h2⟩ := hx i (by omega)
      simp only [cStr6] at h1
      obtain ⟨_, hlen, hcell⟩ := World.cells?_some h1
      match cs', hlen with
      | [v0], _ =>
        have e0 := hcell 0 (by simp)
        simp only [add_plain] at e0
        simp at e0
        obtain ⟨B, r5, q5, _⟩ := DataW.trod_string Tryz.underlying9 h2
        obtain ⟨lt, rfl⟩ : ∃ lt : List UInt8, B = ⟨lt.toArray⟩ := ⟨B.data.toList, by simp⟩
        simp at r5
        subst r5
        exact ⟨lt, e0⟩
    obtain ⟨ts, hl1, hp⟩ := Lx.list_of _ l key
    refine ⟨some ⟨b, off, none⟩, c, ts, by rw [hl1], .inr ⟨b, off, rfl, fun k u hu => ?_⟩, by omega, fun e => (by cases e), by omega⟩
    simp only [strsC, List.getElem?_map, Option.map_eq_some_iff] at hu
    obtain ⟨y, hy, rfl⟩ := hu
    exact hp k y hy
theorem open_nums6 {H : Type} {enc : TypeId × Value → H} {w : World} {base : Nat} {spare : Nat → Bool} {held : Bool} {fuel : Nat} {v : Value} {x : DataW H × List MemPlace}
    (h : DataW.trod enc Tryz.prog w base spare held fuel 31 [v] = some x) (hw : (x.1.weights Tryz.prog 31).all (· ≤ reachBytes) = true) : ∃ (a : Option Addr) (cap : Nat) (ts : List Int), v = .slice a ts.length cap ∧ RowC w a (intsC ts) ∧ ts.length ≤ cap ∧ (a = none → cap = 0) ∧ ts.length ≤ 17592186044416 := by
  rcases open_slice Tryz.underlying31 h with ⟨hcs, rfl⟩ | ⟨ad, l, c, m, n, D, Pl, hcs, hb, hl, hm, hmm, rfl, hx⟩
  · simp at hcs
    exact ⟨none, 0, [], hcs, .inl rfl, Nat.le_refl _, fun _ => rfl, by decide⟩
  · simp at hcs
    subst hcs
    simp only [DataW.weights, Tryz.underlying31, bInt6, List.all_cons, List.all_append, Bool.and_eq_true, List.length_map, List.length_range] at hw
    have hwl : (l + (m - l)) * 8 ≤ 140737488351232 := of_decide_eq_true hw.1
    by_cases z : l = 0
    · subst z; exact ⟨some ad, c, [], rfl, .inl rfl, hl, fun e => (by cases e), by decide⟩
    have hlm : l ≤ m := by rw [hmm]; split <;> omega
    obtain ⟨b, off, spot⟩ := ad
    have hs : spot = none := by
      obtain ⟨cs', h1, h2⟩ := hx 0 (by omega)
      simp only [cInt6] at h1
      obtain ⟨_, hlen, hcell⟩ := World.cells?_some h1
      match cs', hlen with
      | [v0], _ =>
        have e0 : w.cell? (((⟨b, off, spot⟩ : Addr).add (0 * 1)).add 0) = some v0 := hcell 0 (by simp)
        simpa [Addr.add] using World.cell?_spot e0
    subst hs
    have key : ∀ i, i < l → ∃ y : Int, w.cell? ⟨b, off + i, none⟩ = some (.int .i64 y) := by
      intro i hi
      obtain ⟨cs', h1, h2⟩ := hx i (by omega)
      simp only [cInt6] at h1
      obtain ⟨_, hlen, hcell⟩ := World.cells?_some h1
      match cs', hlen with
      | [v0], _ =>
        have e0 := hcell 0 (by simp)
        simp only [add_plain] at e0
        simp at e0
        obtain ⟨B, r5, _, _⟩ := DataW.trod_int Tryz.underlying3 h2
        simp at r5
        subst r5
        exact ⟨B, e0⟩
    obtain ⟨ts, hl1, hp⟩ := Lx.list_of _ l key
    refine ⟨some ⟨b, off, none⟩, c, ts, by rw [hl1], .inr ⟨b, off, rfl, fun k u hu => ?_⟩, by omega, fun e => (by cases e), by omega⟩
    simp only [intsC, List.getElem?_map, Option.map_eq_some_iff] at hu
    obtain ⟨y, hy, rfl⟩ := hu
    exact hp k y hy
def StIn (w : World) (b off : Nat) (y : Stm × Value × Value) : Prop := (∀ i u, (stL y.1 y.2.1 y.2.2)[i]? = some u → w.cell? ⟨b, off + i, none⟩ = some u) ∧ LsR w y ∧ (∀ aw n c, (y.2.1 = .slice aw n c ∨ y.2.2 = .slice aw n c) → aw = none → c = 0) ∧ (y.1.ws.length ≤ 8796093022208 ∧ y.1.ns.length ≤ 17592186044416) ∧ StmI y.1
set_option maxRecDepth 20000 in
set_option maxHeartbeats 2000000 in
theorem open_sts {H : Type} {enc : TypeId × Value → H} {w : World} {base : Nat} {spare : Nat → Bool} {held : Bool} {fuel : Nat} {a : Option Addr} {len cap : Nat} {x : DataW H × List MemPlace}
    (h : DataW.trod enc Tryz.prog w base spare held fuel 43 [.slice a len cap] = some x) (hw : (x.1.weights Tryz.prog 43).all (· ≤ reachBytes) = true) : ∃ Y : List (Stm × Value × Value), Y.length = len ∧ StA w a Y ∧ (∀ y ∈ Y, LsR w y ∧ (∀ aw n c, (y.2.1 = .slice aw n c ∨ y.2.2 = .slice aw n c) → aw = none → c = 0) ∧ (y.1.ws.length ≤ 8796093022208 ∧ y.1.ns.length ≤ 17592186044416) ∧ StmI y.1) ∧ len ≤ cap ∧ len ≤ 1034834473171 := by
  rcases open_slice Tryz.underlying43 h with ⟨hcs, rfl⟩ | ⟨ad, l, c, m, n, D, Pl, hcs, hb, hl, hm, hmm, rfl, hx⟩
  · simp at hcs
    obtain ⟨rfl, rfl, rfl⟩ := hcs
    exact ⟨[], rfl, .inl rfl, fun y hy => (by cases hy), Nat.le_refl _, by decide⟩
  · simp at hcs
    obtain ⟨rfl, rfl, rfl⟩ := hcs
    simp only [DataW.weights, Tryz.underlying43, bSt6, List.all_cons, List.all_append, Bool.and_eq_true, List.length_map, List.length_range] at hw
    have hwl : (len + (m - len)) * 136 ≤ 140737488351232 := of_decide_eq_true hw.1
    have hwe := hw.2.1
    by_cases z : len = 0
    · subst z; exact ⟨[], rfl, .inl rfl, fun y hy => (by cases hy), hl, by omega⟩
    have hlm : len ≤ m := by rw [hmm]; split <;> omega
    obtain ⟨b, off, spot⟩ := ad
    have hs : spot = none := by
      obtain ⟨cs', h1, h2⟩ := hx 0 (by omega)
      simp only [cSt6] at h1
      obtain ⟨_, hlen, hcell⟩ := World.cells?_some h1
      match cs', hlen with
      | [v0, v1, v2, v3, v4, v5, v6, v7, v8, v9, v10], _ =>
        have e0 : w.cell? (((⟨b, off, spot⟩ : Addr).add (0 * 11)).add 0) = some v0 := hcell 0 (by simp)
        simpa [Addr.add] using World.cell?_spot e0
    subst hs
    have key : ∀ i, i < len → ∃ y : Stm × Value × Value, StIn w b (off + i * 11) y := by
      intro i hi
      obtain ⟨cs', h1, h2⟩ := hx i (by omega)
      simp only [cSt6] at h1
      obtain ⟨_, hlen, hcell⟩ := World.cells?_some h1
      have hwi := Lx.weights_mem hwe (D i) (List.mem_map.2 ⟨i, List.mem_range.2 hi, rfl⟩)
      obtain ⟨xs, k, hk, hxy, _, hxl, hf⟩ := DataW.trod_struct Tryz.underlying60 h2
      match xs, hxl, cs', hlen with
      | [y0, y1, y2, y3, y4, y5, y6], _, [v0, v1, v2, v3, v4, v5, v6, v7, v8, v9, v10], _ =>
        have g0 := hf 0 _ rfl
        have g1 := hf 1 _ rfl
        have g2 := hf 2 _ rfl
        have g3 := hf 3 _ rfl
        have g4 := hf 4 _ rfl
        have g5 := hf 5 _ rfl
        have g6 := hf 6 _ rfl
        simp [cInt6, cStr6, cSs6, cIs6, cInsn] at g0 g1 g2 g3 g4 g5 g6
        obtain ⟨A0, r0, _, _⟩ := DataW.trod_int Tryz.underlying3 g0
        obtain ⟨B1, r1, q1, _⟩ := DataW.trod_string Tryz.underlying9 g1
        obtain ⟨xi, k2, hk2, _, _, hxl2, hg⟩ := DataW.trod_struct Tryz.underlying58 g4
        obtain ⟨B5, r5, q5, _⟩ := DataW.trod_string Tryz.underlying9 g5
        obtain ⟨A6, r6, _, _⟩ := DataW.trod_int Tryz.underlying3 g6
        have hD : D i = .agg [y0.1, y1.1, y2.1, y3.1, y4.1, y5.1, y6.1] := congrArg Prod.fst hxy
        rw [hD] at hwi
        have h3 : ((y0.1.weights Tryz.prog 3) ++ ((y1.1.weights Tryz.prog 9) ++ ((y2.1.weights Tryz.prog 56) ++ ((y3.1.weights Tryz.prog 31) ++ ((y4.1.weights Tryz.prog 58) ++ ((y5.1.weights Tryz.prog 9) ++ ((y6.1.weights Tryz.prog 3) ++ []))))))).all (fun x => decide (x ≤ reachBytes)) = true := by
          simp only [DataW.weights, Tryz.underlying60] at hwi
          exact hwi
        simp only [List.all_append, Bool.and_eq_true] at h3
        obtain ⟨_, hw1, hw2, hw3, _, hw5, _⟩ := h3
        rw [q1] at hw1
        rw [q5] at hw5
        obtain ⟨t1, rfl⟩ : ∃ lt : List UInt8, B1 = ⟨lt.toArray⟩ := ⟨B1.data.toList, by simp⟩
        obtain ⟨t5, rfl⟩ : ∃ lt : List UInt8, B5 = ⟨lt.toArray⟩ := ⟨B5.data.toList, by simp⟩
        have hl1 := str_weight hw1
        have hl5 := str_weight hw5
        obtain ⟨aw, cw, ws, e2', w2, w2c, w2n, w2l⟩ := open_texts6 g2 hw2
        obtain ⟨an, cn, ns, e3', w3, w3c, w3n, w3l⟩ := open_nums6 g3 hw3
        match xi, hxl2 with
        | [z0, z1, z2, z3, z4], _ =>
          have m0 := hg 0 _ rfl
          have m1 := hg 1 _ rfl
          have m2 := hg 2 _ rfl
          have m3 := hg 3 _ rfl
          have m4 := hg 4 _ rfl
          simp [cInt6] at m0 m1 m2 m3 m4
          obtain ⟨b0, s0, _, f0⟩ := DataW.trod_int Tryz.underlying3 m0
          obtain ⟨b1, s1, _, f1⟩ := DataW.trod_int Tryz.underlying3 m1
          obtain ⟨b2, s2, _, f2⟩ := DataW.trod_int Tryz.underlying3 m2
          obtain ⟨b3, s3, _, f3⟩ := DataW.trod_int Tryz.underlying3 m3
          obtain ⟨b4, s4, _, f4⟩ := DataW.trod_int Tryz.underlying3 m4
          have e0 := hcell 0 (by simp)
          have e1 := hcell 1 (by simp)
          have e2 := hcell 2 (by simp)
          have e3 := hcell 3 (by simp)
          have e4 := hcell 4 (by simp)
          have e5 := hcell 5 (by simp)
          have e6 := hcell 6 (by simp)
          have e7 := hcell 7 (by simp)
          have e8 := hcell 8 (by simp)
          have e9 := hcell 9 (by simp)
          have e10 := hcell 10 (by simp)
          simp at r0 r1 r5 r6 s0 s1 s2 s3 s4
          subst r0 r1 r5 r6 s0 s1 s2 s3 s4 e2' e3'
          simp only [add_plain] at e0 e1 e2 e3 e4 e5 e6 e7 e8 e9 e10
          simp at e0 e1 e2 e3 e4 e5 e6 e7 e8 e9 e10
          refine ⟨(⟨A0, t1, ws, ns, b0, b1, b2, b3, b4, t5, A6⟩, .slice aw ws.length cw, .slice an ns.length cn), fun j u hu => ?_, ⟨aw, cw, an, cn, rfl, rfl, w2, w3, w2c, w3c⟩, fun aw' n' c' hh hn' => ?_, ⟨w2l, w3l⟩, ⟨hl1, hl5, wfI64 f3, wfI64 f4⟩⟩
          · have hj : j < 11 := (List.getElem?_eq_some_iff.1 hu).1
            match j, hj with
            | 0, _ => simp [stL] at hu; subst hu; simpa using e0
            | 1, _ => simp [stL] at hu; subst hu; exact e1
            | 2, _ => simp [stL] at hu; subst hu; exact e2
            | 3, _ => simp [stL] at hu; subst hu; exact e3
            | 4, _ => simp [stL] at hu; subst hu; exact e4
            | 5, _ => simp [stL] at hu; subst hu; exact e5
            | 6, _ => simp [stL] at hu; subst hu; exact e6
            | 7, _ => simp [stL] at hu; subst hu; exact e7
            | 8, _ => simp [stL] at hu; subst hu; exact e8
            | 9, _ => simp [stL] at hu; subst hu; exact e9
            | 10, _ => simp [stL] at hu; subst hu; exact e10
          · rcases hh with hh | hh
            · injection hh with h1 h2 h3
              rw [← h3]
              exact w2n (by rw [h1]; exact hn')
            · injection hh with h1 h2 h3
              rw [← h3]
              exact w3n (by rw [h1]; exact hn')
    obtain ⟨Y, hl1, hp⟩ := Lx.list_of _ len key
    refine ⟨Y, hl1, .inr ⟨b, off, rfl, fun k y hy => (hp k y hy).1⟩, fun y hy => ?_, hl, by omega⟩
    obtain ⟨i, hi⟩ := List.getElem?_of_mem hy
    exact (hp i y hi).2
end Go.Proofs.YtkihaohdcgjioaaGreatDoor
