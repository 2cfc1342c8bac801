import Derived.Test.YtkihaohdcgjioaaGreatDoorGq00
import Derived.Test.YtkihaohdcgjioaaGreatDoorGq02
import Derived.Laws.AppendOwnNone
namespace Go.Proofs.YtkihaohdcgjioaaGreatDoor
open Go.RowKit
set_option linter.unusedVariables false
set_option linter.unusedSimpArgs false
/-- statements as they are read -/
def StA (w : World) (a : Option Addr) (Y : List (Stm × Value × Value)) : Prop := Y = [] ∨ ∃ g off, a = some ⟨g, off, none⟩ ∧ ∀ k y, Y[k]? = some y → ∀ i u, (stL y.1 y.2.1 y.2.2)[i]? = some u → w.cell? ⟨g, off + k * 11 + i, none⟩ = some u
/-- a statement's lists as they are read -/
def LsR (w : World) (y : Stm × Value × Value) : Prop := ∃ aw cw an cn, y.2.1 = .slice aw y.1.ws.length cw ∧ y.2.2 = .slice an y.1.ns.length cn ∧ RowC w aw (strsC y.1.ws) ∧ RowC w an (intsC y.1.ns) ∧ y.1.ws.length ≤ cw ∧ y.1.ns.length ≤ cn
theorem StA.out {w w' : World} {a : Option Addr} {Y : List (Stm × Value × Value)} (h : StA w a Y) (o : Out w w') : StA w' a Y := by
  rcases h with h | ⟨g, off, e, h⟩
  · exact .inl h
  · exact .inr ⟨g, off, e, fun k y hy i u hu => cell_later o (h k y hy i u hu)⟩
theorem LsR.out {w w' : World} {y : Stm × Value × Value} (h : LsR w y) (o : Out w w') : LsR w' y := by
  obtain ⟨aw, cw, an, cn, e1, e2, h1, h2, h3, h4⟩ := h
  exact ⟨aw, cw, an, cn, e1, e2, h1.out o, h2.out o, h3, h4⟩
theorem StA.get {w : World} {a : Option Addr} {Y : List (Stm × Value × Value)} (h : StA w a Y) {k : Nat} {y : Stm × Value × Value} (hy : Y[k]? = some y) : ∃ g off, a = some ⟨g, off, none⟩ ∧ ∀ i u, (stL y.1 y.2.1 y.2.2)[i]? = some u → w.cell? ⟨g, off + k * 11 + i, none⟩ = some u := by
  rcases h with h | ⟨g, off, e, h⟩
  · rw [h] at hy; cases hy
  · exact ⟨g, off, e, h k y hy⟩
theorem LsOk.ls {B : Nat} {w : World} {y : Stm × Value × Value} (h : LsOk B w y.1 y.2.1 y.2.2) : LsR w y := by
  obtain ⟨aw, cw, e1, h1, r1⟩ := own_row h.1 (by simp [strsC])
  obtain ⟨an, cn, e2, h2, r2⟩ := own_row h.2 (by simp [intsC])
  exact ⟨aw, cw, an, cn, e1, e2, r1, r2, h1, h2⟩
theorem OwQ.sl {B : Nat} {sv : Value} {L : List Stm} {w : World} (h : OwQ B sv L w) : ∃ a c Y, sv = .slice a L.length c ∧ L.length ≤ c ∧ Y.map (fun y => y.1) = L ∧ StA w a Y ∧ ∀ y ∈ Y, LsR w y := by
  obtain ⟨Y, h1, h2, h3⟩ := h.ex
  have h2' := h2
  have hls : ∀ y ∈ Y, LsR w y := fun y hy => (h3 y hy).ls
  rcases h2.2 with ⟨hv, hn⟩ | ⟨g, cap, cur, hv, hb, hg, hc, _⟩
  · refine ⟨none, 0, Y, by rw [hv, hn], by omega, h1, .inl ?_, hls⟩
    rw [List.length_eq_zero_iff] at hn
    rw [hn] at h1
    exact List.map_eq_nil_iff.1 h1
  · refine ⟨_, _, Y, hv, hc, h1, .inr ⟨g, 0, rfl, fun k y hy i u hu => ?_⟩, hls⟩
    have hi : i < 11 := (List.getElem?_eq_some_iff.1 hu).1
    have h4 := h2'.cells (g := g) (by rw [hv]; rfl) (k * 11 + i) u (by rw [stC_get Y k y i hy hi, hu])
    rw [← h4, Go.WideShapes.add_plain, Nat.add_assoc]
set_option maxRecDepth 20000 in
set_option maxHeartbeats 4000000 in
theorem sameSts_any (w : World) (a b : Option Addr) (c d : Nat) (Y Z : List (Stm × Value × Value)) (hE : Y.map (fun y => y.1) = Z.map (fun y => y.1)) (hY : StA w a Y) (hZ : StA w b Z) (lY : ∀ y ∈ Y, LsR w y) (lZ : ∀ y ∈ Z, LsR w y) (hs : ∀ y ∈ Y, y.1.ws.length ≤ 1000000000000 ∧ y.1.ns.length ≤ 1000000000000) (hl : Y.length ≤ 100000000000) :
    Calls Tryz.prog 19 #[.slice a Y.length c, .slice b Y.length d] w fun e w' => e = .returned (.bool true) ∧ Out w w' := by
  have HY := hidOf hY
  have HZ := hidOf hZ
  have LY := hidOf lY
  have LZ := hidOf lZ
  have HS := hidOf hs
  have HE := hidOf hE
  obtain ⟨n, hn⟩ : ∃ n, n = Y.length := ⟨_, rfl⟩
  have Hn := hidOf hn
  rw [← hn] at hl ⊢
  clear hY hZ lY lZ hs hE hn
  have hnI : ((n : Int) != (n : Int)) = false := by simp
  go_enter Tryz.func19, Tryz.ntmps19
  go_wp2
  go_loopw [5] (fun iv wr => ∃ i : Nat, iv = .int .i64 i ∧ i ≤ n ∧ Hid (Out w wr)) (fun iv _ => n - (intOf iv).toNat)
  case atStart => exact ⟨0, rfl, by omega, hidOf (Out.refl _)⟩
  case round =>
    obtain ⟨i, rfl, hi, Ho⟩ := hrel
    by_cases hiL : i < n
    · have hlt : (i : Int) < n := by omega
      have h0 : (0 : Int) ≤ i := by omega
      obtain ⟨y, hy⟩ : ∃ y, Y[i]? = some y := ⟨_, List.getElem?_eq_getElem (by have := Hn.out; omega)⟩
      have hlz : Z.length = Y.length := by have := congrArg List.length HE.out; simpa using this.symm
      obtain ⟨z, hz⟩ : ∃ z, Z[i]? = some z := ⟨_, List.getElem?_eq_getElem (by have := Hn.out; omega)⟩
      have hyz : z.1 = y.1 := by
        have e1 : (Y.map (fun y => y.1))[i]? = some y.1 := by rw [List.getElem?_map, hy]; rfl
        rw [HE.out, List.getElem?_map, hz] at e1
        exact Option.some.inj e1
      obtain ⟨g, off, rfl, h1⟩ := HY.out.get hy
      obtain ⟨g2, off2, rfl, h2⟩ := HZ.out.get hz
      obtain ⟨aw, cw, an, cn, e1, e2, r1, r2, _⟩ := LY.out y (List.mem_of_getElem? hy)
      obtain ⟨aw2, cw2, an2, cn2, e3, e4, r3, r4, _⟩ := LZ.out z (List.mem_of_getElem? hz)
      obtain ⟨hs1, hs2⟩ := HS.out y (List.mem_of_getElem? hy)
      obtain ⟨x, wv, nv⟩ := y
      obtain ⟨x2, wv2, nv2⟩ := z
      simp only at hyz h1 h2 e1 e2 e3 e4 r1 r2 r3 r4 hs1 hs2
      subst hyz e1 e2 e3 e4
      have CS : Hid (∀ wx, Out wr wx → Calls Tryz.prog 16 #[.agg #[.int .i64 x2.k, .string ⟨x2.nm.toArray⟩, .slice aw x2.ws.length cw, .slice an x2.ns.length cn, .int .i64 x2.o, .int .i64 x2.d, .int .i64 x2.s, .int .i64 x2.f, .int .i64 x2.i, .string ⟨x2.tg.toArray⟩, .int .i64 x2.l], .agg #[.int .i64 x2.k, .string ⟨x2.nm.toArray⟩, .slice aw2 x2.ws.length cw2, .slice an2 x2.ns.length cn2, .int .i64 x2.o, .int .i64 x2.d, .int .i64 x2.s, .int .i64 x2.f, .int .i64 x2.i, .string ⟨x2.tg.toArray⟩, .int .i64 x2.l]] wx fun e w' => e = .returned (.bool true) ∧ Out wx w') := hidOf (fun wx o => sameSt_any x2 aw aw2 an an2 cw cw2 cn cn2 wx (r1.out (Ho.out.trans o)) (r3.out (Ho.out.trans o)) (r2.out (Ho.out.trans o)) (r4.out (Ho.out.trans o)) hs1 hs2)
      have HK : Hid (∀ wx, Out w wx → wx.cell? ⟨g, off + i * 11, none⟩ = some (.int .i64 x2.k) ∧ wx.cell? ⟨g, off + i * 11 + 1, none⟩ = some (.string ⟨x2.nm.toArray⟩) ∧ wx.cell? ⟨g, off + i * 11 + 2, none⟩ = some (.slice aw x2.ws.length cw) ∧ wx.cell? ⟨g, off + i * 11 + 3, none⟩ = some (.slice an x2.ns.length cn) ∧ wx.cell? ⟨g, off + i * 11 + 4, none⟩ = some (.int .i64 x2.o) ∧ wx.cell? ⟨g, off + i * 11 + 5, none⟩ = some (.int .i64 x2.d) ∧ wx.cell? ⟨g, off + i * 11 + 6, none⟩ = some (.int .i64 x2.s) ∧ wx.cell? ⟨g, off + i * 11 + 7, none⟩ = some (.int .i64 x2.f) ∧ wx.cell? ⟨g, off + i * 11 + 8, none⟩ = some (.int .i64 x2.i) ∧ wx.cell? ⟨g, off + i * 11 + 9, none⟩ = some (.string ⟨x2.tg.toArray⟩) ∧ wx.cell? ⟨g, off + i * 11 + 10, none⟩ = some (.int .i64 x2.l) ∧ wx.cell? ⟨g2, off2 + i * 11, none⟩ = some (.int .i64 x2.k) ∧ wx.cell? ⟨g2, off2 + i * 11 + 1, none⟩ = some (.string ⟨x2.nm.toArray⟩) ∧ wx.cell? ⟨g2, off2 + i * 11 + 2, none⟩ = some (.slice aw2 x2.ws.length cw2) ∧ wx.cell? ⟨g2, off2 + i * 11 + 3, none⟩ = some (.slice an2 x2.ns.length cn2) ∧ wx.cell? ⟨g2, off2 + i * 11 + 4, none⟩ = some (.int .i64 x2.o) ∧ wx.cell? ⟨g2, off2 + i * 11 + 5, none⟩ = some (.int .i64 x2.d) ∧ wx.cell? ⟨g2, off2 + i * 11 + 6, none⟩ = some (.int .i64 x2.s) ∧ wx.cell? ⟨g2, off2 + i * 11 + 7, none⟩ = some (.int .i64 x2.f) ∧ wx.cell? ⟨g2, off2 + i * 11 + 8, none⟩ = some (.int .i64 x2.i) ∧ wx.cell? ⟨g2, off2 + i * 11 + 9, none⟩ = some (.string ⟨x2.tg.toArray⟩) ∧ wx.cell? ⟨g2, off2 + i * 11 + 10, none⟩ = some (.int .i64 x2.l)) := hidOf (fun wx o => ⟨cell_later o (h1 0 _ rfl), cell_later o (h1 1 _ rfl), cell_later o (h1 2 _ rfl), cell_later o (h1 3 _ rfl), cell_later o (h1 4 _ rfl), cell_later o (h1 5 _ rfl), cell_later o (h1 6 _ rfl), cell_later o (h1 7 _ rfl), cell_later o (h1 8 _ rfl), cell_later o (h1 9 _ rfl), cell_later o (h1 10 _ rfl), cell_later o (h2 0 _ rfl), cell_later o (h2 1 _ rfl), cell_later o (h2 2 _ rfl), cell_later o (h2 3 _ rfl), cell_later o (h2 4 _ rfl), cell_later o (h2 5 _ rfl), cell_later o (h2 6 _ rfl), cell_later o (h2 7 _ rfl), cell_later o (h2 8 _ rfl), cell_later o (h2 9 _ rfl), cell_later o (h2 10 _ rfl)⟩)
      clear h1 h2 r1 r2 r3 r4 hs1 hs2 hy hz hlz
      obtain ⟨nw, hnw⟩ : ∃ n, n = x2.ws.length := ⟨_, rfl⟩
      obtain ⟨nn, hnn⟩ : ∃ n, n = x2.ns.length := ⟨_, rfl⟩
      rw [← hnw] at HK CS
      rw [← hnn] at HK CS
      clear hnw hnn
      obtain ⟨xk, xnm, xws, xns, xo, xd, xs, xf, xi, xtg, xl⟩ := x2
      simp only at HK CS
      have OD := hidOf ((Out.refl wr).drew)
      have HKr : Hid (∀ wx, Out wr wx → wx.cell? ⟨g, off + i * 11, none⟩ = some (.int .i64 xk) ∧ wx.cell? ⟨g, off + i * 11 + 1, none⟩ = some (.string ⟨xnm.toArray⟩) ∧ wx.cell? ⟨g, off + i * 11 + 2, none⟩ = some (.slice aw nw cw) ∧ wx.cell? ⟨g, off + i * 11 + 3, none⟩ = some (.slice an nn cn) ∧ wx.cell? ⟨g, off + i * 11 + 4, none⟩ = some (.int .i64 xo) ∧ wx.cell? ⟨g, off + i * 11 + 5, none⟩ = some (.int .i64 xd) ∧ wx.cell? ⟨g, off + i * 11 + 6, none⟩ = some (.int .i64 xs) ∧ wx.cell? ⟨g, off + i * 11 + 7, none⟩ = some (.int .i64 xf) ∧ wx.cell? ⟨g, off + i * 11 + 8, none⟩ = some (.int .i64 xi) ∧ wx.cell? ⟨g, off + i * 11 + 9, none⟩ = some (.string ⟨xtg.toArray⟩) ∧ wx.cell? ⟨g, off + i * 11 + 10, none⟩ = some (.int .i64 xl) ∧ wx.cell? ⟨g2, off2 + i * 11, none⟩ = some (.int .i64 xk) ∧ wx.cell? ⟨g2, off2 + i * 11 + 1, none⟩ = some (.string ⟨xnm.toArray⟩) ∧ wx.cell? ⟨g2, off2 + i * 11 + 2, none⟩ = some (.slice aw2 nw cw2) ∧ wx.cell? ⟨g2, off2 + i * 11 + 3, none⟩ = some (.slice an2 nn cn2) ∧ wx.cell? ⟨g2, off2 + i * 11 + 4, none⟩ = some (.int .i64 xo) ∧ wx.cell? ⟨g2, off2 + i * 11 + 5, none⟩ = some (.int .i64 xd) ∧ wx.cell? ⟨g2, off2 + i * 11 + 6, none⟩ = some (.int .i64 xs) ∧ wx.cell? ⟨g2, off2 + i * 11 + 7, none⟩ = some (.int .i64 xf) ∧ wx.cell? ⟨g2, off2 + i * 11 + 8, none⟩ = some (.int .i64 xi) ∧ wx.cell? ⟨g2, off2 + i * 11 + 9, none⟩ = some (.string ⟨xtg.toArray⟩) ∧ wx.cell? ⟨g2, off2 + i * 11 + 10, none⟩ = some (.int .i64 xl)) := hidOf (fun wx o => HK.out wx (Ho.out.trans o))
      clear HK
      have q := HKr.out wr (Out.refl wr)
      obtain ⟨q0, q1, q2, q3, q4, q5, q6, q7, q8, q9, q10, q11, q12, q13, q14, q15, q16, q17, q18, q19, q20, q21⟩ := q
      go_upto_region 6 with fail
      go_region_held3 (fun wx => wx.cell? ⟨g, off + i * 11, none⟩ = some (.int .i64 xk) ∧ wx.cell? ⟨g, off + i * 11 + 1, none⟩ = some (.string ⟨xnm.toArray⟩) ∧ wx.cell? ⟨g, off + i * 11 + 2, none⟩ = some (.slice aw nw cw) ∧ wx.cell? ⟨g, off + i * 11 + 3, none⟩ = some (.slice an nn cn) ∧ wx.cell? ⟨g, off + i * 11 + 4, none⟩ = some (.int .i64 xo) ∧ wx.cell? ⟨g, off + i * 11 + 5, none⟩ = some (.int .i64 xd) ∧ wx.cell? ⟨g, off + i * 11 + 6, none⟩ = some (.int .i64 xs) ∧ wx.cell? ⟨g, off + i * 11 + 7, none⟩ = some (.int .i64 xf) ∧ wx.cell? ⟨g, off + i * 11 + 8, none⟩ = some (.int .i64 xi) ∧ wx.cell? ⟨g, off + i * 11 + 9, none⟩ = some (.string ⟨xtg.toArray⟩) ∧ wx.cell? ⟨g, off + i * 11 + 10, none⟩ = some (.int .i64 xl) ∧ wx.cell? ⟨g2, off2 + i * 11, none⟩ = some (.int .i64 xk) ∧ wx.cell? ⟨g2, off2 + i * 11 + 1, none⟩ = some (.string ⟨xnm.toArray⟩) ∧ wx.cell? ⟨g2, off2 + i * 11 + 2, none⟩ = some (.slice aw2 nw cw2) ∧ wx.cell? ⟨g2, off2 + i * 11 + 3, none⟩ = some (.slice an2 nn cn2) ∧ wx.cell? ⟨g2, off2 + i * 11 + 4, none⟩ = some (.int .i64 xo) ∧ wx.cell? ⟨g2, off2 + i * 11 + 5, none⟩ = some (.int .i64 xd) ∧ wx.cell? ⟨g2, off2 + i * 11 + 6, none⟩ = some (.int .i64 xs) ∧ wx.cell? ⟨g2, off2 + i * 11 + 7, none⟩ = some (.int .i64 xf) ∧ wx.cell? ⟨g2, off2 + i * 11 + 8, none⟩ = some (.int .i64 xi) ∧ wx.cell? ⟨g2, off2 + i * 11 + 9, none⟩ = some (.string ⟨xtg.toArray⟩) ∧ wx.cell? ⟨g2, off2 + i * 11 + 10, none⟩ = some (.int .i64 xl)) (first | with_reducible exact HKr.out _ (Hid.out (by assumption)) | fail) (first | (go_at_call 16; refine (CS.out _ (Hid.out (by assumption))).mono ?_; rintro e w1 ⟨rfl, hO1⟩; have HO1 := hidOf (OD.out.trans hO1); clear hO1) | fail)
      go_wp2
      exact ⟨⟨i + 1, by simp, by omega, hidOf (Ho.out.trans HO1.out)⟩, by simp [intOf]; omega⟩
    · have hlt : ¬ (i : Int) < n := by omega
      go_wp2
      go_ret
      exact ⟨rfl, Ho.out⟩
/-- Statements, and how what it hands out is read -/
theorem stats_sl (w : World) (hE : Lx.LEnv w) (hP : PEnv w) (a : Option Addr) (cap : Nat) (l : List UInt8) (hr : Lx.RestAt w.heap.size w a l) (hcap : l.length ≤ cap) (hll : l.length ≤ 140737488355328) :
    Calls Tryz.prog 15 #[.slice a l.length cap] w fun e w' => ∃ ad cp Y, e = .returned (.tuple #[.slice ad (statsP l).1.length cp, .int .i64 (statsP l).2.1, .int .i64 (statsP l).2.2]) ∧ (statsP l).1.length ≤ cp ∧ Y.map (fun y => y.1) = (statsP l).1 ∧ StA w' ad Y ∧ (∀ y ∈ Y, LsR w' y) ∧ Out w w' :=
  (stats_any w hE hP a cap l hr hcap hll).mono (by
    rintro e w' ⟨sv, B, _, he, hq, ho⟩
    obtain ⟨ad, cp, Y, rfl, h1, h2, h3, h4⟩ := hq.sl
    exact ⟨ad, cp, Y, he, h1, h2, h3, h4, ho⟩)
end Go.Proofs.YtkihaohdcgjioaaGreatDoor
namespace Go.Proofs.YtkihaohdcgjioaaGreatDoor
open Go.RowKit
set_option linter.unusedVariables false
set_option linter.unusedSimpArgs false
theorem bc_app6 (O P : List UInt8) : Lib.byteCells (O ++ P) = Lib.byteCells O ++ Lib.byteCells P := by simp [Lib.byteCells]
theorem lfs_take {F : List UInt8} {i : Nat} {b : UInt8} (h : F[i]? = some b) : lfs (F.take (i + 1)) = lfs (F.take i) + (if b == 10 then 1 else 0) := by
  unfold lfs
  rw [List.take_add_one, h, List.countP_append]
  simp only [Option.toList, List.countP_cons, List.countP_nil]
  omega
theorem byte10 (b : UInt8) : ((b.toNat : Int) == 10) = (b == 10) := by
  by_cases h : b = 10
  · subst h; rfl
  · have h1 : (b == 10) = false := by simpa using h
    rw [h1, beq_eq_false_iff_ne]
    intro e
    apply h
    have : b.toNat = 10 := by omega
    exact UInt8.toNat_inj.1 this
theorem lfs_le (F : List UInt8) : lfs F ≤ F.length := List.countP_le_length
theorem OwB6.get {B : Nat} {v : Value} {l : List UInt8} {w : World} (h : OwB6 B v l w) (hne : ¬ l = []) : ∃ g cap, v = .slice (some ⟨g, 0, none⟩) l.length cap ∧ l.length ≤ cap ∧ ∀ k x, l[k]? = some x → w.cell? ⟨g, k, none⟩ = some (.int .u8 (x.toNat : Int)) := by
  rcases h.2 with ⟨hv, hn⟩ | ⟨g, cap, cur, hv, hb, hg, hc, _⟩
  · exact absurd (List.length_eq_zero_iff.1 hn) hne
  · refine ⟨g, cap, hv, hc, fun k x hx => ?_⟩
    have := World.ownsRow.cells h (g := g) (by rw [hv]; rfl) k (.int .u8 (x.toNat : Int)) (by simp [Lib.byteCells, hx])
    rw [← this, Go.WideShapes.add_plain, Nat.zero_add]
set_option maxRecDepth 20000 in
set_option maxHeartbeats 4000000 in
theorem parseLines_long (w : World) (hE : Lx.LEnv w) (hP : PEnv w) (a b : Option Addr) (cap capb : Nat) (l m : List UInt8) (hll : l.length ≤ 140737488351232) (hlm : m.length ≤ 140737488351232) (hgt : 16777216 < l.length + 1 + m.length) :
    Calls Tryz.prog 8 #[.slice a l.length cap, .slice b m.length capb] w fun e w' => e = .returned (.bool true) ∧ Out w w' := by
  have CA := hidOf (awake6_any w hE hP)
  have hI : (16777216 : Int) < l.length + 1 + m.length := by omega
  clear hE hP
  go_enter Tryz.func8, Tryz.ntmps8
  go_wp2_with (go_at_call 9; refine CA.out.mono ?_; rintro e w1 ⟨rfl, ho⟩; have O1 := hidOf ho; clear ho)
  go_ret
  exact ⟨rfl, O1.out⟩
/-- a text of the call's own with one byte more -/
theorem first_own {B : Nat} {w : World} {v : Value} {l : List UInt8} (h : w.ownsRow B 5 1 v (l.length + 1) (Lib.byteCells l ++ [.int .u8 10])) : ∃ g c, v = .slice (some ⟨g, 0, none⟩) (l.length + 1) c ∧ l.length + 1 ≤ c ∧ OwB6 B (.slice (some ⟨g, 0, none⟩) (l.length + 1) c) (l ++ [10]) w ∧ ∀ k x, (l ++ [10])[k]? = some x → w.cell? ⟨g, k, none⟩ = some (.int .u8 (x.toNat : Int)) := by
  have hl : (l ++ [10]).length = l.length + 1 := by simp
  have ho : OwB6 B v (l ++ [10]) w := by
    unfold OwB6
    rw [hl, bc_app6]
    exact h
  obtain ⟨g, c, hv, hc, hcl⟩ := ho.get (by simp)
  rw [hl] at hv hc
  exact ⟨g, c, hv, hc, by rw [← hv]; exact ho, hcl⟩
/-- a text put behind one of the call's own -/
theorem wp_app6 {w0 w : World} {ops : Array Oper} {rest : List Oper} {o : Oper} {a : Act} {Q : Exit → Act → World → Prop} (hgd : o.guard = none) (s x : Operand) (ho : o.op = .call { callee := .builtin .append, args := #[s, x], argTypes := #[24, 24] })
    (v : Value) (F : List UInt8) (hs : a.eval s = v) (hown : OwB6 w0.heap.size v F w) (hO : Out w0 w) (b : Option Addr) (capb : Nat) (m : List UInt8) (hx : a.eval x = .slice b m.length capb) (hr : Lx.RestAt w.heap.size w b m) (hb : b = none → capb = 0) (hlen : F.length + m.length ≤ 100000000)
    (h : ∀ ad c w', F.length + m.length ≤ c → Lx.RestAt w'.heap.size w' ad (F ++ m) → Out w0 w' → wpList Tryz.prog ops Q rest (a.put o.dst (.slice ad (F.length + m.length) c)) w') : wpList Tryz.prog ops Q (o :: rest) a w := by
  obtain ⟨i0, hi, hz0, hz1, hz2⟩ := info_parts infoB6
  have hl : (F ++ m).length = F.length + m.length := by simp
  cases b with
  | none =>
    obtain rfl : m = [] := by
      rcases hr with h | ⟨b, off, _, h, _⟩
      · exact h
      · cases h
    have hc0 := hb rfl
    subst hc0
    refine wpList_append_own_none hgd s x 24 ho w0.heap.size 5 i0 1 Tryz.underlying24 hi v F.length (Lib.byteCells F) hs hown hx ?_
    obtain ⟨ad, c, hv, hc, hrest⟩ := hown.rest
    have := h ad c w (by simpa using hc) (by simpa using hrest) hO
    rw [hv]
    exact this
  | some bd =>
    refine wpList_append_own _ hgd s x 24 ho w0.heap.size 5 i0 _ 1 1 Tryz.underlying24 hi hz0 hz1 hz2 rfl (by decide) v F.length (Lib.byteCells F) hs hown bd m.length capb (Lib.byteCells m) hx (by rw [Lib.byteCells_length, Nat.mul_one]) (fun j u hu => ?_) (bc_one6 m) (by unfold maxLen; omega) (by omega) hO.size ?_
    · simp only [Lib.byteCells, List.getElem?_map, Option.map_eq_some_iff] at hu
      obtain ⟨y, hy, rfl⟩ := hu
      rcases hr with rfl | ⟨g, off, _, e, hc⟩
      · simp at hy
      · cases e
        rw [WideShapes.add_plain]
        exact hc j y hy
    · intro v' w' hown' hgrow _
      have ho' : OwB6 w0.heap.size v' (F ++ m) w' := by
        unfold OwB6
        rw [hl, bc_app6]
        exact hown'
      obtain ⟨ad, c, hv, hc, hrest⟩ := ho'.rest
      rw [hl] at hv hc
      rw [hv]
      exact h ad c w' hc hrest (out_own6 rfl hown hO hgrow)
end Go.Proofs.YtkihaohdcgjioaaGreatDoor
