import Derived.Test.YthififblejbleaaGreatDoorHy20
namespace Go.Proofs.YthififblejbleaaGreatDoor
open Go.RowKit
set_option linter.unusedVariables false
set_option linter.unusedSimpArgs false
def WrE (w : World) (B p : Nat) (ct tt : Int) (f c0 : Nat) (e : Ending) (w' : World) : Prop :=
  (∃ q, e = .returned q) ∧ ∃ r' L', ShI w' B p (ct + (f : Int)) tt r' L' ∧ L' 0 = [] ∧ L' 1 = [] ∧ (L' 3).length = (L' 2).length ∧ PrI w' (L' 2) (L' 3) ∧ (L' 2).length = c0 + f + 3 * f ∧ Chg (SQ w B) w w'
def GwX (w : World) (B p : Nat) (ct tt : Int) (F : List Iv) (n1 n2 n3 : Nat → Nat) (rf : Value) (wr : World) (r : Nat → Value) (L : Nat → List Iv) (c k : Nat) (en : Int) (x1 x2 x3 : Nat) (e : Ending) (w' : World) : Prop :=
  ∃ a1 c1 a2 c2 a3 c3, e = .returned (.agg #[.slice a1 (x1 + k) c1, .slice a2 (x2 + k) c2, .slice a3 (x3 + k) c3, .int .i64 en]) ∧ PW w B p ct tt F n1 n2 n3 rf w' r L F.length c n1 n2 n3 ∧ (∃ M, Kx ct F n1 n2 n3 w' ⟨.slice a1 (x1 + k) c1, .slice a2 (x2 + k) c2, .slice a3 (x3 + k) c3, en⟩ F.length M) ∧ wr.heap.size ≤ w'.heap.size ∧ ∀ U v1 v2 v3 en, BxI wr U v1 v2 v3 en → BxI w' U v1 v2 v3 en
theorem wrapI (x : Int) (h0 : 0 ≤ x) (h1 : x ≤ 1000000000000000) : IntKind.i64.wrap x = x := by
  simp [IntKind.wrap, IntKind.bits, IntKind.signed]
  first | omega | (split <;> omega)
theorem PW.full {w wr : World} {B p : Nat} {ct tt : Int} {F : List Iv} {n1 n2 n3 : Nat → Nat} {r : Nat → Value} {L : Nat → List Iv} {lo c : Nat} {rf : Value} (h : PW w B p ct tt F n1 n2 n3 rf wr r L lo c (kA n1 F.length) (kA n2 F.length) (kA n3 F.length)) : PW w B p ct tt F n1 n2 n3 rf wr r L lo c n1 n2 n3 := ⟨h.wi, fun j z hz => by
  have hj := (List.getElem?_eq_some_iff.1 hz).1
  have := h.fm j z hz
  unfold kA at this
  rw [if_pos hj, if_pos hj, if_pos hj] at this
  exact this, h.ln, h.r0, h.fd, h.sz⟩
theorem Kx.box {ct : Int} {F : List Iv} {n1 n2 n3 : Nat → Nat} {wx wy : World} {x : Iv} {lo : Nat} {M : Img} (h : Kx ct F n1 n2 n3 wx x lo M) {U : Nat} {v1 v2 v3 : Value} {en : Int} (hU : BxI wx U v1 v2 v3 en) (c : Chg (fun b => b = U) wx wy) : Kx ct F n1 n2 n3 wy x lo M := h.chg c (fun b hb e => by
  have hU' : wx.heap[U]? = _ := hU
  rcases h.ho.ls b hb with ⟨cs, q⟩ | ⟨cs, q⟩ | ⟨cs, q⟩ <;> (rw [e, hU'] at q; simp at q; exact absurd q.2 (by decide)))
def z0 : Nat → Nat := fun _ => 0
theorem upd_upd {α : Type} (k : Nat → α) (i : Nat) (a b : α) : upd (upd k i a) i b = upd k i b := by
  funext j; unfold upd; by_cases h : j = i
  · rw [if_pos h, if_pos h]
  · rw [if_neg h, if_neg h, if_neg h]
theorem kA_0 (n : Nat → Nat) : kA n 0 = z0 := by funext j; unfold kA z0; rw [if_neg (by omega)]
set_option maxRecDepth 20000 in
set_option maxHeartbeats 16000000 in
theorem writeI_any (w : World) (B p : Nat) (ct tt : Int) (r : Nat → Value) (L : Nat → List Iv) (F : List Iv) (n1 n2 n3 : Nat → Nat) (h : ShI w B p ct tt r L) (hF : L 0 = F) (hfm : FM w ct F n1 n2 n3 z0 z0 z0) (hsz : ∀ j, n1 j ≤ 100000000 ∧ n2 j ≤ 100000000 ∧ n3 j ≤ 100000000) (hfd : FdI B F) (f c0 : Nat) (hf : F.length = f) (hf0 : 0 < f) (hf3 : f ≤ 3)
    (he1 : (L 1).length = (L 0).length) (hp0 : PrI w (L 0) (L 1)) (he3 : (L 3).length = (L 2).length) (hp2 : PrI w (L 2) (L 3)) (hc0 : (L 2).length = c0) (hc1 : c0 ≤ 100) (hap : ∀ (l : Nat) x, (L 2)[l]? = some x ∨ (L 3)[l]? = some x → ∀ (j : Nat) z, F[j]? = some z → ∀ b, x.blk b → ¬ z.blk b) (hct0 : 0 ≤ ct) (hct1 : ct ≤ 900) (htt0 : 0 ≤ tt) (htt1 : tt ≤ 700000000) :
    Calls Tryz.prog 37 #[.pointer (some ⟨p, 0, none⟩)] w (WrE w B p ct tt f c0) := by
  have P0 : PW w B p ct tt F n1 n2 n3 (r 0) w r L 0 c0 z0 z0 z0 := by
    refine ⟨⟨h, hF, he3, hp2, fun l x hx j z hz b a1 a2 => ?_, fun l x hx j z hz b a1 a2 => ?_, fun l x hx j z hz b a1 a2 => ?_, fun l y hy j z hz b a1 a2 => hap l y (.inr hy) j z hz b a1 a2, Chg.refl _ _⟩, hfm, hc0, rfl, hfd, hsz⟩
    · exact (hap l x (.inl hx) j z hz b (.inl a1) (.inl a2)).elim
    · exact (hap l x (.inl hx) j z hz b (.inr (.inl a1)) (.inr (.inl a2))).elim
    · exact (hap l x (.inl hx) j z hz b (.inr (.inr a1)) (.inr (.inr a2))).elim
  obtain ⟨gf, cf, er⟩ : ∃ gf cf, r 0 = .slice (some ⟨gf, 0, none⟩) f cf := by
    have q := h.row 0 (by omega)
    obtain ⟨af, cf, e0⟩ := own_form q
    rw [hF, hf] at e0
    rw [hF, hf, e0] at q
    obtain ⟨z, hz⟩ : ∃ z, F[0]? = some z := ⟨_, List.getElem?_eq_getElem (by omega)⟩
    obtain ⟨g, e, _⟩ := own_getI q hz
    exact ⟨g, cf, by rw [e0, e]⟩
  rw [er] at P0
  have HU := hidOf (untouchedI_any w B p ct tt r L h he1 hp0 (by rw [hF, hf]; omega))
  have K2 : Hid (∀ wx, Out w wx → wx.cell? ⟨p, 2, none⟩ = some (.bool false) ∧ wx.frozen? ⟨p, 2, none⟩ = false ∧ wx.setCell ⟨p, 2, none⟩ (.bool false) = wx) := hidOf fun wx o => ⟨by rw [cell_atL (h.out o).st]; rfl, frozen_atL (h.out o).st 2, setCell_selfI (h.out o).st rfl⟩
  obtain ⟨k2, -, -⟩ := K2.out w (Out.refl w)
  have HP0 := hidOf P0
  have Hf := hidOf hf
  clear h hF hfm hsz hfd hf he1 hp0 he3 hp2 hc0 hap P0 er
  go_enter Tryz.func37, Tryz.ntmps37
  go_upto_region 1 with (go_at_call 38; refine HU.out.mono ?_; rintro e w1 ⟨rfl, ho⟩; have O1 := hidOf ho; obtain ⟨k2', f2', s2⟩ := K2.out w1 ho; have S2 := hidOf s2; clear ho s2)
  rw [S2.out]
  have P1 : Hid (PW w B p ct tt F n1 n2 n3 (.slice (some ⟨gf, 0, none⟩) f cf) w1 r L 0 c0 (kA n1 0) (kA n2 0) (kA n3 0)) := hidOf (by rw [kA_0, kA_0, kA_0]; exact HP0.out.out O1.out)
  clear HP0 HU K2 k2 k2' f2' S2 O1
  go_wp2
  go_loopw [2] (fun kv wr => ∃ (i : Nat) (r : Nat → Value) (L : Nat → List Iv), kv = .int .i64 i ∧ i ≤ f ∧ Hid (PW w B p ct tt F n1 n2 n3 (.slice (some ⟨gf, 0, none⟩) f cf) wr r L i (c0 + i) (kA n1 i) (kA n2 i) (kA n3 i))) (fun kv _ => f - (intOf kv).toNat)
  case atStart => exact ⟨0, r, L, rfl, by omega, P1⟩
  case round =>
    clear P1
    obtain ⟨i, r, L, rfl, hi, HP⟩ := hrel
    by_cases hlt : i < f
    · have hltI : (i : Int) < f := by omega
      obtain ⟨z, hz⟩ : ∃ z, F[i]? = some z := ⟨_, List.getElem?_eq_getElem (by rw [Hf.out]; exact hlt)⟩
      obtain ⟨a1, c1, a2, c2, a3, c3, ez⟩ := HP.out.form hz
      obtain ⟨x1, hx1⟩ : ∃ x, Hid (n1 i = x) := ⟨_, rfl⟩
      obtain ⟨x2, hx2⟩ : ∃ x, Hid (n2 i = x) := ⟨_, rfl⟩
      obtain ⟨x3, hx3⟩ : ∃ x, Hid (n3 i = x) := ⟨_, rfl⟩
      obtain ⟨en, hen⟩ : ∃ x, z.e = x := ⟨_, rfl⟩
      have bx1 : x1 ≤ 100000000 := by rw [← hx1.out]; exact (HP.out.sz i).1
      have bx2 : x2 ≤ 100000000 := by rw [← hx2.out]; exact (HP.out.sz i).2.1
      have bx3 : x3 ≤ 100000000 := by rw [← hx3.out]; exact (HP.out.sz i).2.2
      rw [hx1.out, hx2.out, hx3.out, hen] at ez
      have Hz := hidOf hz
      have Ez := hidOf ez
      obtain ⟨m, hm⟩ : ∃ m, m = 1000003 * (ct + (i : Int)) := ⟨_, rfl⟩
      have hm0 : 0 ≤ m := by omega
      have hm1 : m ≤ 10000000000 := by omega
      have Hm := hidOf hm
      have Hmj : Hid (mj ct i = m) := hidOf (by rw [hm]; rfl)
      have hct2 : 0 ≤ ct + (i : Int) := by omega
      have hct3 : ct + (i : Int) ≤ 2000 := by omega
      have CE : Hid (∀ wx k1 k2 k3 lo c, PW w B p ct tt F n1 n2 n3 (.slice (some ⟨gf, 0, none⟩) f cf) wx r L lo c k1 k2 k3 → wx.cell? ⟨p, 3, none⟩ = some (.slice (some ⟨gf, 0, none⟩) f cf) ∧ wx.cell? ⟨p, 0, none⟩ = some (.int .i64 ct) ∧ wx.cell? ⟨p, 1, none⟩ = some (.int .i64 tt) ∧ wx.cell? ⟨gf, i * 4, none⟩ = some (.slice a1 x1 c1) ∧ wx.cell? ⟨gf, i * 4 + 1, none⟩ = some (.slice a2 x2 c2) ∧ wx.cell? ⟨gf, i * 4 + 2, none⟩ = some (.slice a3 x3 c3) ∧ wx.cell? ⟨gf, i * 4 + 3, none⟩ = some (.int .i64 en)) := hidOf fun wx k1 k2 k3 lo c hP => by
        have := hP.cells Hf.out hz
        rw [ez] at this; exact this
      obtain ⟨d3, d0, d1, u0, u1, u2, u3⟩ := CE.out _ _ _ _ _ _ HP.out
      clear hz ez hm hen
      go_upto_region 5 with fail
      rw [← Hm.out]
      clear d3 d0 d1 u0 u1 u2 u3
      go_wp2
      obtain ⟨wq, hwq⟩ : ∃ wq, wq = wr := ⟨_, rfl⟩
      rw [← hwq] at HP
      have Hwq := hidOf hwq
      clear hwq
      go_loopw [4] (fun kv wr => ∃ k : Nat, kv = .int .i64 k ∧ k ≤ x1 ∧ Hid (PW w B p ct tt F n1 n2 n3 (.slice (some ⟨gf, 0, none⟩) f cf) wr r L i (c0 + i) (upd (kA n1 i) i k) (kA n2 i) (kA n3 i))) (fun kv _ => x1 - (intOf kv).toNat)
      case atStart => exact ⟨0, rfl, by omega, hidOf (by rw [kA_zero]; exact by rw [← Hwq.out]; exact HP.out)⟩
      case round =>
        clear HP Hwq
        obtain ⟨k, rfl, hk, HP⟩ := hrel
        obtain ⟨d3, d0, d1, u0, u1, u2, u3⟩ := CE.out _ _ _ _ _ _ HP.out
        by_cases hkx : k < x1
        · have hkI : (k : Int) < x1 := by omega
          obtain ⟨g, rfl, y⟩ : ∃ g, a1 = some ⟨g, 0, none⟩ ∧ ∃ cs : Array Value, wr.heap[g]? = some (.cells cs kI.e (0, 0)) ∧ k * 5 + 5 ≤ cs.size := by
            have := (HP.out.fm i z Hz.out).1
            rw [Ez.out, hx1.out] at this
            obtain ⟨g, cs, e, h1, h2⟩ := this.at k hkx
            exact ⟨g, e, cs, h1, h2⟩
          obtain ⟨cs, hcs, hfit⟩ := y
          obtain ⟨s0, t0⟩ := cell_in hcs (i := k * 5) (by omega)
          obtain ⟨s1, t1⟩ := cell_in hcs (i := k * 5 + 1) (by omega)
          obtain ⟨s2, t2⟩ := cell_in hcs (i := k * 5 + 2) (by omega)
          obtain ⟨s3, t3⟩ := cell_in hcs (i := k * 5 + 3) (by omega)
          obtain ⟨s4, t4⟩ := cell_in hcs (i := k * 5 + 4) (by omega)
          have f0 : wr.frozen? ⟨g, k * 5, none⟩ = false := frozen_atL hcs _
          have f1 : wr.frozen? ⟨g, k * 5 + 1, none⟩ = false := frozen_atL hcs _
          have f2 : wr.frozen? ⟨g, k * 5 + 2, none⟩ = false := frozen_atL hcs _
          have f3 : wr.frozen? ⟨g, k * 5 + 3, none⟩ = false := frozen_atL hcs _
          have f4 : wr.frozen? ⟨g, k * 5 + 4, none⟩ = false := frozen_atL hcs _
          have NP := hidOf (HP.out.mark1 (k := k) Hz.out (Nat.le_refl _) Hmj.out hx1.out (by rw [Ez.out]) (upd_self _ _ _) hkx)
          clear hcs hfit
          go_wp2
          go_roundw
          case rel => exact ⟨k + 1, by simp, by omega, hidOf (by
            have := NP.out
            rw [upd_upd] at this; exact this)⟩
          case measure => simp [intOf]; omega
        · have hkI : ¬ (k : Int) < x1 := by omega
          obtain rfl : x1 = k := by omega
          go_wp2
          obtain ⟨wq2, hwq2⟩ : ∃ wq, wq = wr := ⟨_, rfl⟩
          rw [← hwq2] at HP
          have Hwq2 := hidOf hwq2
          clear hwq2 d3 d0 d1 u0 u1 u2 u3
          go_loopw [5] (fun kv wr => ∃ k : Nat, kv = .int .i64 k ∧ k ≤ x2 ∧ Hid (PW w B p ct tt F n1 n2 n3 (.slice (some ⟨gf, 0, none⟩) f cf) wr r L i (c0 + i) (upd (kA n1 i) i x1) (upd (kA n2 i) i k) (kA n3 i))) (fun kv _ => x2 - (intOf kv).toNat)
          case atStart => exact ⟨0, rfl, by omega, hidOf (by rw [kA_zero]; exact by rw [← Hwq2.out]; exact HP.out)⟩
          case round =>
            clear HP Hwq2
            obtain ⟨k, rfl, hk, HP⟩ := hrel
            obtain ⟨d3, d0, d1, u0, u1, u2, u3⟩ := CE.out _ _ _ _ _ _ HP.out
            by_cases hkx : k < x2
            · have hkI : (k : Int) < x2 := by omega
              obtain ⟨g, rfl, y⟩ : ∃ g, a2 = some ⟨g, 0, none⟩ ∧ ∃ cs : Array Value, wr.heap[g]? = some (.cells cs kF.e (0, 0)) ∧ k * 4 + 4 ≤ cs.size := by
                have := (HP.out.fm i z Hz.out).2.1
                rw [Ez.out, hx2.out] at this
                obtain ⟨g, cs, e, h1, h2⟩ := this.at k hkx
                exact ⟨g, e, cs, h1, h2⟩
              obtain ⟨cs, hcs, hfit⟩ := y
              obtain ⟨s0, t0⟩ := cell_in hcs (i := k * 4) (by omega)
              obtain ⟨s1, t1⟩ := cell_in hcs (i := k * 4 + 1) (by omega)
              obtain ⟨s2, t2⟩ := cell_in hcs (i := k * 4 + 2) (by omega)
              obtain ⟨s3, t3⟩ := cell_in hcs (i := k * 4 + 3) (by omega)
              have f0 : wr.frozen? ⟨g, k * 4, none⟩ = false := frozen_atL hcs _
              have f1 : wr.frozen? ⟨g, k * 4 + 1, none⟩ = false := frozen_atL hcs _
              have f2 : wr.frozen? ⟨g, k * 4 + 2, none⟩ = false := frozen_atL hcs _
              have f3 : wr.frozen? ⟨g, k * 4 + 3, none⟩ = false := frozen_atL hcs _
              have NP := hidOf (HP.out.mark2 (k := k) Hz.out (Nat.le_refl _) Hmj.out hx2.out (by rw [Ez.out]) (upd_self _ _ _) hkx)
              clear hcs hfit
              go_wp2
              go_roundw
              case rel => exact ⟨k + 1, by simp, by omega, hidOf (by
                have := NP.out
                rw [upd_upd] at this; exact this)⟩
              case measure => simp [intOf]; omega
            · have hkI : ¬ (k : Int) < x2 := by omega
              obtain rfl : x2 = k := by omega
              go_wp2
              obtain ⟨wq3, hwq3⟩ : ∃ wq, wq = wr := ⟨_, rfl⟩
              rw [← hwq3] at HP
              have Hwq3 := hidOf hwq3
              clear hwq3 d3 d0 d1 u0 u1 u2 u3
              go_loopw [6] (fun kv wr => ∃ k : Nat, kv = .int .i64 k ∧ k ≤ x3 ∧ Hid (PW w B p ct tt F n1 n2 n3 (.slice (some ⟨gf, 0, none⟩) f cf) wr r L i (c0 + i) (upd (kA n1 i) i x1) (upd (kA n2 i) i x2) (upd (kA n3 i) i k))) (fun kv _ => x3 - (intOf kv).toNat)
              case atStart => exact ⟨0, rfl, by omega, hidOf (by rw [kA_zero]; exact by rw [← Hwq3.out]; exact HP.out)⟩
              case round =>
                clear HP Hwq3
                obtain ⟨k, rfl, hk, HP⟩ := hrel
                obtain ⟨d3, d0, d1, u0, u1, u2, u3⟩ := CE.out _ _ _ _ _ _ HP.out
                by_cases hkx : k < x3
                · have hkI : (k : Int) < x3 := by omega
                  obtain ⟨g, rfl, y⟩ : ∃ g, a3 = some ⟨g, 0, none⟩ ∧ ∃ cs : Array Value, wr.heap[g]? = some (.cells cs kD.e (0, 0)) ∧ k * 5 + 5 ≤ cs.size := by
                    have := (HP.out.fm i z Hz.out).2.2
                    rw [Ez.out, hx3.out] at this
                    obtain ⟨g, cs, e, h1, h2⟩ := this.at k hkx
                    exact ⟨g, e, cs, h1, h2⟩
                  obtain ⟨cs, hcs, hfit⟩ := y
                  obtain ⟨s0, t0⟩ := cell_in hcs (i := k * 5) (by omega)
                  obtain ⟨s1, t1⟩ := cell_in hcs (i := k * 5 + 1) (by omega)
                  obtain ⟨s2, t2⟩ := cell_in hcs (i := k * 5 + 2) (by omega)
                  obtain ⟨s3, t3⟩ := cell_in hcs (i := k * 5 + 3) (by omega)
                  obtain ⟨s4, t4⟩ := cell_in hcs (i := k * 5 + 4) (by omega)
                  have f0 : wr.frozen? ⟨g, k * 5, none⟩ = false := frozen_atL hcs _
                  have f1 : wr.frozen? ⟨g, k * 5 + 1, none⟩ = false := frozen_atL hcs _
                  have f2 : wr.frozen? ⟨g, k * 5 + 2, none⟩ = false := frozen_atL hcs _
                  have f3 : wr.frozen? ⟨g, k * 5 + 3, none⟩ = false := frozen_atL hcs _
                  have f4 : wr.frozen? ⟨g, k * 5 + 4, none⟩ = false := frozen_atL hcs _
                  have NP := hidOf (HP.out.mark3 (k := k) Hz.out (Nat.le_refl _) Hmj.out hx3.out (by rw [Ez.out]) (upd_self _ _ _) hkx)
                  clear hcs hfit
                  go_wp2
                  go_roundw
                  case rel => exact ⟨k + 1, by simp, by omega, hidOf (by
                    have := NP.out
                    rw [upd_upd] at this; exact this)⟩
                  case measure => simp [intOf]; omega
                · have hkI : ¬ (k : Int) < x3 := by omega
                  obtain rfl : x3 = k := by omega
                  have CK : Hid (∀ wx, PW w B p ct tt F n1 n2 n3 (.slice (some ⟨gf, 0, none⟩) f cf) wx r L i (c0 + i) (upd (kA n1 i) i x1) (upd (kA n2 i) i x2) (upd (kA n3 i) i x3) → Calls Tryz.prog 73 #[.pointer (some ⟨p, 0, none⟩), .agg #[.slice a1 x1 c1, .slice a2 x2 c2, .slice a3 x3 c3, .int .i64 en]] wx fun e w' => (∃ q, e = .returned q) ∧ ∃ r' L', PW w B p ct tt F n1 n2 n3 (.slice (some ⟨gf, 0, none⟩) f cf) w' r' L' (i + 1) (c0 + (i + 1)) (kA n1 (i + 1)) (kA n2 (i + 1)) (kA n3 (i + 1))) := hidOf fun wx hP => by
                    have hs := hP.self Hz.out (by rw [upd_self]; exact hx1.out.symm) (by rw [upd_self]; exact hx2.out.symm) (by rw [upd_self]; exact hx3.out.symm)
                    have := hP.keep (Nat.le_succ i) hs (by omega)
                    rw [Ez.out] at this
                    refine this.mono ?_
                    rintro e w' ⟨he, ⟨r', L', hP'⟩, _⟩
                    refine ⟨he, r', L', ?_⟩
                    rw [← kA_full n1, ← kA_full n2, ← kA_full n3, hx1.out, hx2.out, hx3.out]
                    exact hP'
                  go_upto_region 3 with (go_at_call 73; refine (CK.out _ HP.out).mono ?_; rintro e w5 ⟨⟨q, rfl⟩, r5, L5, hP5⟩; have P5 := hidOf hP5; clear hP5)
                  go_wp2
                  go_roundw
                  case rel => exact ⟨i + 1, r5, L5, by simp, by omega, P5⟩
                  case measure => simp [intOf]; omega
    · have hltI : ¬ (i : Int) < f := by omega
      obtain rfl : f = i := by omega
      have P2 : Hid (PW w B p ct tt F n1 n2 n3 (.slice (some ⟨gf, 0, none⟩) f cf) wr r L F.length (c0 + f + 3 * 0) n1 n2 n3) := hidOf (by
        have := HP.out
        rw [← Hf.out] at this
        have := this.full
        rw [Hf.out] at this
        rw [Hf.out]; exact this)
      have d3 := HP.out.c3
      clear HP
      go_wp2
      clear d3
      obtain ⟨wq, hwq⟩ : ∃ wq, wq = wr := ⟨_, rfl⟩
      rw [← hwq] at P2
      have Hwq := hidOf hwq
      clear hwq
      go_loopw [7] (fun kv wr => ∃ (i : Nat) (r : Nat → Value) (L : Nat → List Iv), kv = .int .i64 i ∧ i ≤ f ∧ Hid (PW w B p ct tt F n1 n2 n3 (.slice (some ⟨gf, 0, none⟩) f cf) wr r L F.length (c0 + f + 3 * i) n1 n2 n3)) (fun kv _ => f - (intOf kv).toNat)
      case atStart => exact ⟨0, r, L, rfl, by omega, by rw [← Hwq.out]; exact P2⟩
      case round =>
        clear P2 Hwq hi hlt hltI
        obtain ⟨i, r, L, rfl, hi, HP⟩ := hrel
        have d3 := HP.out.c3
        by_cases hlt : i < f
        · have hltI : (i : Int) < f := by omega
          obtain ⟨z, hz⟩ : ∃ z, F[i]? = some z := ⟨_, List.getElem?_eq_getElem (by rw [Hf.out]; exact hlt)⟩
          obtain ⟨a1, c1, a2, c2, a3, c3, ez⟩ := HP.out.form hz
          obtain ⟨x1, hx1⟩ : ∃ x, Hid (n1 i = x) := ⟨_, rfl⟩
          obtain ⟨x2, hx2⟩ : ∃ x, Hid (n2 i = x) := ⟨_, rfl⟩
          obtain ⟨x3, hx3⟩ : ∃ x, Hid (n3 i = x) := ⟨_, rfl⟩
          obtain ⟨en, hen⟩ : ∃ x, z.e = x := ⟨_, rfl⟩
          rw [hx1.out, hx2.out, hx3.out, hen] at ez
          obtain ⟨m, hm⟩ : ∃ m, m = 1000003 * (ct + (i : Int)) := ⟨_, rfl⟩
          have hm0 : 0 ≤ m := by omega
          have hm1 : m ≤ 10000000000 := by omega
          have Hm := hidOf hm
          have Hmj : mj ct i = m := by rw [hm]; rfl
          have hct2 : 0 ≤ ct + (i : Int) := by omega
          have hct3 : ct + (i : Int) ≤ 2000 := by omega
          obtain ⟨K3, hK3⟩ : ∃ K3 : Nat, (K3 : Int) = tt + 70 := ⟨(tt + 70).toNat, by omega⟩
          have CE : Hid (∀ wx r L c, PW w B p ct tt F n1 n2 n3 (.slice (some ⟨gf, 0, none⟩) f cf) wx r L F.length c n1 n2 n3 → wx.cell? ⟨p, 3, none⟩ = some (.slice (some ⟨gf, 0, none⟩) f cf) ∧ wx.cell? ⟨p, 0, none⟩ = some (.int .i64 ct) ∧ wx.cell? ⟨p, 1, none⟩ = some (.int .i64 tt) ∧ wx.cell? ⟨gf, i * 4, none⟩ = some (.slice a1 x1 c1) ∧ wx.cell? ⟨gf, i * 4 + 1, none⟩ = some (.slice a2 x2 c2) ∧ wx.cell? ⟨gf, i * 4 + 2, none⟩ = some (.slice a3 x3 c3) ∧ wx.cell? ⟨gf, i * 4 + 3, none⟩ = some (.int .i64 en)) := hidOf fun wx r L c hP => by
            have := hP.cells Hf.out hz
            rw [ez] at this; exact this
          have CG : ∀ wx r L c (k : Nat), k ≤ 800000000 → PW w B p ct tt F n1 n2 n3 (.slice (some ⟨gf, 0, none⟩) f cf) wx r L F.length c n1 n2 n3 → Calls Tryz.prog 74 #[.agg #[.slice a1 x1 c1, .slice a2 x2 c2, .slice a3 x3 c3, .int .i64 en], .int .i64 m, .int .i64 k] wx (GwX w B p ct tt F n1 n2 n3 (.slice (some ⟨gf, 0, none⟩) f cf) wx r L c k en x1 x2 x3) := fun wx r L c k hk hP => by
            have := hP.grown (k := k) hz (by rw [hx1.out, hx2.out, hx3.out]; exact ez) Hmj hct0 (by omega) hk (by omega)
            rw [hx1.out, hx2.out, hx3.out] at this
            refine this.mono ?_
            rintro e w' hg
            unfold GwE at hg
            rw [hx1.out, hx2.out, hx3.out] at hg
            exact hg
          have CG1 : Hid (∀ wx r L c, PW w B p ct tt F n1 n2 n3 (.slice (some ⟨gf, 0, none⟩) f cf) wx r L F.length c n1 n2 n3 → Calls Tryz.prog 74 #[.agg #[.slice a1 x1 c1, .slice a2 x2 c2, .slice a3 x3 c3, .int .i64 en], .int .i64 m, .int .i64 1] wx (GwX w B p ct tt F n1 n2 n3 (.slice (some ⟨gf, 0, none⟩) f cf) wx r L c 1 en x1 x2 x3)) := hidOf fun wx r L c hP => CG wx r L c 1 (by omega) hP
          have CG2 : Hid (∀ wx r L c, PW w B p ct tt F n1 n2 n3 (.slice (some ⟨gf, 0, none⟩) f cf) wx r L F.length c n1 n2 n3 → Calls Tryz.prog 74 #[.agg #[.slice a1 x1 c1, .slice a2 x2 c2, .slice a3 x3 c3, .int .i64 en], .int .i64 m, .int .i64 2] wx (GwX w B p ct tt F n1 n2 n3 (.slice (some ⟨gf, 0, none⟩) f cf) wx r L c 2 en x1 x2 x3)) := hidOf fun wx r L c hP => CG wx r L c 2 (by omega) hP
          have CG3 : Hid (∀ wx r L c, PW w B p ct tt F n1 n2 n3 (.slice (some ⟨gf, 0, none⟩) f cf) wx r L F.length c n1 n2 n3 → Calls Tryz.prog 74 #[.agg #[.slice a1 x1 c1, .slice a2 x2 c2, .slice a3 x3 c3, .int .i64 en], .int .i64 m, .int .i64 (IntKind.i64.wrap (tt + 70))] wx (GwX w B p ct tt F n1 n2 n3 (.slice (some ⟨gf, 0, none⟩) f cf) wx r L c K3 en x1 x2 x3)) := hidOf fun wx r L c hP => by
            have := CG wx r L c K3 (by omega) hP
            rw [hK3, ← wrapI (tt + 70) (by omega) (by omega)] at this
            exact this
          have CK : Hid (∀ wx r L c x M, PW w B p ct tt F n1 n2 n3 (.slice (some ⟨gf, 0, none⟩) f cf) wx r L F.length c n1 n2 n3 → Kx ct F n1 n2 n3 wx x F.length M → c ≤ 1000 → Calls Tryz.prog 73 #[.pointer (some ⟨p, 0, none⟩), .agg #[x.t, x.f, x.d, .int .i64 x.e]] wx fun e w' => (∃ q, e = .returned q) ∧ ∃ r' L', PW w B p ct tt F n1 n2 n3 (.slice (some ⟨gf, 0, none⟩) f cf) w' r' L' F.length (c + 1) n1 n2 n3) := hidOf fun wx r L c x M hP hK hc => by
            refine (hP.keep (Nat.le_refl _) hK hc).mono ?_
            rintro e w' ⟨he, hr, _⟩
            exact ⟨he, hr⟩
          obtain ⟨-, d0, -, u0, u1, u2, u3⟩ := CE.out _ _ _ _ HP.out
          have cb : c0 + f + 3 * i + 3 ≤ 1000 := by omega
          have bx : Hid (Hid (x1 ≤ 1) → True) := hidOf fun _ => trivial
          clear hz ez hm hen CG hK3 bx
          go_upto_region 22 with fail
          rw [← Hm.out]
          go_upto_region 23 with (go_at_call 74; refine (CG1.out _ _ _ _ HP.out).mono ?_; rintro e w6 ⟨a4, c4, a5, c5, a6, c6, rfl, hP6, ⟨M6, hK6⟩, -, -⟩; have P6 := hidOf hP6; have K6 := hidOf hK6; clear hP6 hK6)
          clear d3 d0 u0 u1 u2 u3 HP
          have P7 := hidOf (P6.out.out ((Out.refl w6).alloc (.cells #[.slice a4 (x1 + 1) c4, .slice a5 (x2 + 1) c5, .slice a6 (x3 + 1) c6, .int .i64 en] 26)))
          have K7 := hidOf (K6.out.out ((Out.refl w6).alloc (.cells #[.slice a4 (x1 + 1) c4, .slice a5 (x2 + 1) c5, .slice a6 (x3 + 1) c6, .int .i64 en] 26)))
          clear P6 K6
          go_upto_region 24 with (go_at_call 73; refine (CK.out _ _ _ _ ⟨.slice a4 (x1 + 1) c4, .slice a5 (x2 + 1) c5, .slice a6 (x3 + 1) c6, en⟩ _ P7.out K7.out (by omega)).mono ?_; rintro e w8 ⟨⟨q, rfl⟩, r8, L8, hP8⟩; have P8 := hidOf hP8; clear hP8)
          clear P7 K7 M6
          obtain ⟨d3, d0, -, u0, u1, u2, u3⟩ := CE.out _ _ _ _ P8.out
          go_upto_region 25 with (go_at_call 74; refine (CG2.out _ _ _ _ P8.out).mono ?_; rintro e w9 ⟨b4, e4, b5, e5, b6, e6, rfl, hP6, ⟨M6, hK6⟩, -, -⟩; have P9 := hidOf hP6; have K9 := hidOf hK6; clear hP6 hK6)
          clear d3 d0 u0 u1 u2 u3 P8
          have P10 := hidOf (P9.out.out ((Out.refl w9).alloc (.cells #[.slice b4 (x1 + 2) e4, .slice b5 (x2 + 2) e5, .slice b6 (x3 + 2) e6, .int .i64 en] 26)))
          have K10 := hidOf (K9.out.out ((Out.refl w9).alloc (.cells #[.slice b4 (x1 + 2) e4, .slice b5 (x2 + 2) e5, .slice b6 (x3 + 2) e6, .int .i64 en] 26)))
          clear P9 K9
          go_upto_region 26 with (go_at_call 73; refine (CK.out _ _ _ _ ⟨.slice b4 (x1 + 2) e4, .slice b5 (x2 + 2) e5, .slice b6 (x3 + 2) e6, en⟩ _ P10.out K10.out (by omega)).mono ?_; rintro e w11 ⟨⟨q, rfl⟩, r11, L11, hP11⟩; have P11 := hidOf hP11; clear hP11)
          clear P10 K10 M6
          obtain ⟨d3, -, d1, u0, u1, u2, u3⟩ := CE.out _ _ _ _ P11.out
          go_cut [11] (fun s11 wx => ∃ (U : Nat) (a4 a5 a6 : Option Addr) (c4 c5 c6 : Nat) (M : Img), s11 = .pointer (some ⟨U, 0, none⟩) ∧ Hid (BxI wx U (.slice a4 (x1 + K3) c4) (.slice a5 (x2 + K3) c5) (.slice a6 (x3 + K3) c6) en) ∧ Hid (PW w B p ct tt F n1 n2 n3 (.slice (some ⟨gf, 0, none⟩) f cf) wx r11 L11 F.length (c0 + f + 3 * i + 1 + 1) n1 n2 n3) ∧ Hid (Kx ct F n1 n2 n3 wx ⟨.slice a4 (x1 + K3) c4, .slice a5 (x2 + K3) c5, .slice a6 (x3 + K3) c6, en⟩ F.length M))
          case first =>
            have RW : Hid (∀ j, j < 4 → ¬ (r11 j).ownBlock = some w11.heap.size) := hidOf (P11.out.rows (Nat.le_refl _))
            have SW : Hid (w.heap.size ≤ w11.heap.size) := hidOf P11.out.wi.chg.size
            have CS : Hid (∀ wx r L c, PW w B p ct tt F n1 n2 n3 (.slice (some ⟨gf, 0, none⟩) f cf) wx r L F.length c n1 n2 n3 → wx.cell? ⟨p, 3, none⟩ = some (.slice (some ⟨gf, 0, none⟩) f cf) ∧ wx.cell? ⟨p, 1, none⟩ = some (.int .i64 tt) ∧ wx.cell? ⟨gf, i * 4, none⟩ = some (.slice a1 x1 c1) ∧ wx.cell? ⟨gf, i * 4 + 1, none⟩ = some (.slice a2 x2 c2) ∧ wx.cell? ⟨gf, i * 4 + 2, none⟩ = some (.slice a3 x3 c3) ∧ wx.cell? ⟨gf, i * 4 + 3, none⟩ = some (.int .i64 en)) := hidOf fun wx r L c hP => by
              obtain ⟨e3, _, e1, g0, g1, g2, g3⟩ := CE.out _ _ _ _ hP
              exact ⟨e3, e1, g0, g1, g2, g3⟩
            clear CK CG1 CG2 Hf
            go_region_held3 (fun w' => w'.cell? ⟨p, 3, none⟩ = some (.slice (some ⟨gf, 0, none⟩) f cf) ∧ w'.cell? ⟨p, 1, none⟩ = some (.int .i64 tt) ∧ w'.cell? ⟨gf, i * 4, none⟩ = some (.slice a1 x1 c1) ∧ w'.cell? ⟨gf, i * 4 + 1, none⟩ = some (.slice a2 x2 c2) ∧ w'.cell? ⟨gf, i * 4 + 2, none⟩ = some (.slice a3 x3 c3) ∧ w'.cell? ⟨gf, i * 4 + 3, none⟩ = some (.int .i64 en)) (first | exact ⟨d3, d1, u0, u1, u2, u3⟩ | exact ⟨o3, o1, v0, v1, v2, v3⟩ | exact CS.out _ _ _ _ (P12.out.box QQ.out RW.out SW.out (by repeat (first | exact Chg.refl _ _ | refine Chg.setCell (S := fun b => b = w11.heap.size) ?_ rfl _))) | go_keep) (first | (go_at_call 74; refine (CG3.out _ _ _ _ (P11.out.out (by repeat (first | exact Out.refl _ | apply Out.alloc | apply Out.drew | apply Out.drewN)))).mono ?_; rintro e w12 ⟨a4, c4, a5, c5, a6, c6, rfl, hP6, ⟨M6, hK6⟩, hsz6, hB6⟩; obtain ⟨o3, -, o1, v0, v1, v2, v3⟩ := CE.out _ _ _ _ hP6; (first | (have qq := hB6 w11.heap.size (.slice none 0 0) (.slice none 0 0) (.slice none 0 0) 0 (heap_alloc_new _ _); obtain ⟨y0, y1, y2, y3⟩ := qq.cell; have z0' := qq.frozen 0; have z1' := qq.frozen 1; have z2' := qq.frozen 2; have z3' := qq.frozen 3; have QQ := hidOf qq; clear qq) | skip); have P12 := hidOf hP6; have K12 := hidOf hK6; clear hP6 hK6 hsz6 hB6))
            all_goals
              go_wp2
              go_meet
              first
              | exact ⟨w12.heap.size, a4, a5, a6, c4, c5, c6, M6, rfl, hidOf (heap_alloc_new _ _), hidOf (P12.out.out (by repeat (first | exact Out.refl _ | apply Out.alloc | apply Out.drew | apply Out.drewN))), hidOf (K12.out.out (by repeat (first | exact Out.refl _ | apply Out.alloc | apply Out.drew | apply Out.drewN)))⟩
              | exact ⟨w11.heap.size, a4, a5, a6, c4, c5, c6, M6, rfl, hidOf (by
                  refine (set_atL (set_atL (set_atL (set_atL (show w12.heap[w11.heap.size]? = _ from QQ.out) _ _) _ _) _ _) _ _).trans rfl), hidOf (P12.out.box QQ.out RW.out SW.out (by repeat (first | exact Chg.refl _ _ | refine Chg.setCell (S := fun b => b = w11.heap.size) ?_ rfl _))), hidOf (K12.out.box QQ.out (by repeat (first | exact Chg.refl _ _ | refine Chg.setCell (S := fun b => b = w11.heap.size) ?_ rfl _)))⟩
          case rest =>
            obtain ⟨U, a4, a5, a6, c4, c5, c6, M, rfl, BX, P13, K13⟩ := hcut
            obtain ⟨y0, y1, y2, y3⟩ := BX.out.cell
            clear d3 d1 u0 u1 u2 u3 P11
            go_upto_region 20 with (go_at_call 73; refine (CK.out _ _ _ _ ⟨.slice a4 (x1 + K3) c4, .slice a5 (x2 + K3) c5, .slice a6 (x3 + K3) c6, en⟩ _ P13.out K13.out (by omega)).mono ?_; rintro e w14 ⟨⟨q, rfl⟩, r14, L14, hP14⟩; have P14 := hidOf hP14; clear hP14)
            go_wp2
            go_roundw
            case rel => exact ⟨i + 1, r14, L14, by simp, by omega, hidOf (by have := P14.out; rw [show c0 + f + 3 * (i + 1) = c0 + f + 3 * i + 1 + 1 + 1 by omega]; exact this)⟩
            case measure => simp [intOf]; omega
        · have hltI : ¬ (i : Int) < f := by omega
          obtain rfl : f = i := by omega
          have d0 : wr.cell? ⟨p, 0, none⟩ = some (.int .i64 ct) := by rw [cell_atL HP.out.wi.sh.st]; rfl
          have d4 : wr.cell? ⟨p, 4, none⟩ = some (r 1) := by rw [cell_atL HP.out.wi.sh.st]; rfl
          have f0 := frozen_atL HP.out.wi.sh.st 0
          have f3 := frozen_atL HP.out.wi.sh.st 3
          have f4 := frozen_atL HP.out.wi.sh.st 4
          have hwr : IntKind.i64.wrap (ct + (f : Int)) = ct + f := wrapI _ (by omega) (by omega)
          go_upto_region 28 with fail
          go_region_law (fail)
          all_goals
            go_wp2
            go_end0
            have S0 := HP.out.wi.sh.out (Out.refl wr).drew
            have S3 := ((S0.num 0 (.int .i64 (ct + (f : Int))) (ct + (f : Int)) tt rfl).nil 0 (by omega)).nil 1 (by omega)
            have C3 : Chg (fun b => b = p) wr.drew (((wr.drew.setCell ⟨p, 0, none⟩ (.int .i64 (ct + f))).setCell ⟨p, 3, none⟩ (.slice none 0 0)).setCell ⟨p, 4, none⟩ (.slice none 0 0)) := ((Chg.setCell (S := fun b => b = p) (Chg.refl _ wr.drew) (p := ⟨p, 0, none⟩) rfl _).setCell (p := ⟨p, 3, none⟩) rfl _).setCell (p := ⟨p, 4, none⟩) rfl _
            have PP := (HP.out.wi.out (Out.refl wr).drew)
            refine ⟨⟨_, rfl⟩, _, _, S3, rfl, rfl, HP.out.wi.kl, PP.pr.chg C3 (fun l x b hx hb e => ?_), HP.out.ln, SQ.step PP.chg C3 (fun b hb _ => S0.k5 b (.inl hb))⟩
            have hl : l < (L 2).length := by
              rcases hx with hx | hx
              · exact (List.getElem?_eq_some_iff.1 hx).1
              · rw [← HP.out.wi.kl]; exact (List.getElem?_eq_some_iff.1 hx).1
            obtain ⟨x2, hx2⟩ : ∃ x, (L 2)[l]? = some x := ⟨_, List.getElem?_eq_getElem hl⟩
            obtain ⟨y2, M2, hy2, m1, m2, _⟩ := PP.pair hx2
            rcases hx with hx | hx
            · rw [hx2] at hx; obtain rfl := Option.some.inj hx; exact (HoI.so S0 m1 b hb 0 (by omega)).1 e
            · rw [hy2] at hx; obtain rfl := Option.some.inj hx; exact (HoI.so S0 m2 b hb 0 (by omega)).1 e
end Go.Proofs.YthififblejbleaaGreatDoor
