import Derived.Test.YtigdlgpkepledaaMce
import Derived.Laws.BitsAllLaws
namespace Go.Proofs.Ytigdlgpkepledaa
open Go.RowKit
set_option linter.unusedVariables false
set_option linter.unusedSimpArgs false
/-- regions of one's own, as regions handed in -/
theorem inR_own {w : World} {B B2 : Nat} {a : Option Addr} {c : Nat} {R : List Rg} (h : w.ownsRow B 39 2 (.slice a R.length c) R.length (rowG R)) (hd : ∀ z ∈ R, DaI B2 w z) : InR w a (R.map Rg.ri) := by
  by_cases h0 : R = []
  · exact .inl (by rw [h0]; rfl)
  obtain ⟨g, cc, e, _, _⟩ := h.form (List.length_pos_iff.2 h0)
  simp only [Value.slice.injEq] at e
  obtain ⟨rfl, _, rfl⟩ := e
  refine .inr ⟨g, 0, rfl, fun i x hx => ?_⟩
  rw [List.getElem?_map] at hx
  cases hz : R[i]? with
  | none => rw [hz] at hx; cases hx
  | some z =>
    rw [hz] at hx
    cases hx
    obtain ⟨q0, q1⟩ := rowG_get hz
    refine ⟨by rw [Nat.zero_add]; exact (own_cellK h q0).1, by rw [Nat.zero_add]; exact (own_cellK h q1).1, ?_⟩
    have D := hd z (List.mem_of_getElem? hz)
    by_cases hl : z.d = []
    · exact .inl hl
    · unfold DaI at D
      obtain ⟨b, k, j, _, _⟩ := D.form (List.length_pos_iff.2 hl)
      rw [daV] at j
      simp only [Value.slice.injEq] at j
      rw [daV, j.1, j.2.2] at D
      exact .inr ⟨⟨b, 0, none⟩, j.1, fun k u hk => by rw [add_B, Nat.zero_add]; exact (own_cellK D hk).1⟩
theorem and255 (x : Nat) (hx : x < 18446744073709551616) : bits .and .u64 (x : Int) 255 = ((x % 256 : Nat) : Int) := (u64_and_nat x 255 hx (by decide)).trans (congrArg _ (Nat.and_two_pow_sub_one_eq_mod x 8))
theorem and65535 (x : Nat) (hx : x < 18446744073709551616) : bits .and .u64 (x : Int) 65535 = ((x % 65536 : Nat) : Int) := (u64_and_nat x 65535 hx (by decide)).trans (congrArg _ (Nat.and_two_pow_sub_one_eq_mod x 16))
theorem and4294967295 (x : Nat) (hx : x < 18446744073709551616) : bits .and .u64 (x : Int) 4294967295 = ((x % 4294967296 : Nat) : Int) := (u64_and_nat x 4294967295 hx (by decide)).trans (congrArg _ (Nat.and_two_pow_sub_one_eq_mod x 32))
set_option maxHeartbeats 4000000 in
set_option maxRecDepth 100000 in
theorem MemoryStored_any (w : World) (a : Option Addr) (c : Nat) (L : List RI) (at_ x : Nat) (wd : Int) (h : InR w a L) (hL : ∀ x ∈ L, x.f < 18446744073709551616 ∧ x.d.length ≤ 140737488355328) (hn : L.length ≤ 4398046511104) (ha : at_ < 18446744073709551616) (hx : x < 18446744073709551616) :
    Calls Try.prog 3 #[.slice a L.length c, .int .u64 at_, .int .i64 wd, .int .u64 x] w fun e w' => e = .returned (.bool true) ∧ Out w w' := by
  have C := hidOf (copyR_any w a c L h (fun x hx => (hL x hx).2) hn)
  obtain ⟨n, hN⟩ : ∃ n, Hid (n = L.length) := ⟨_, rfl⟩
  rw [← hN.out] at C hn ⊢
  have HL := hidOf hL
  clear h hL
  go_enter Try.func3, Try.ntmps3
  go_upto_region 2 with (first
    | (go_at_call 5; refine C.out.mono ?_; rintro e w1 ⟨a1, c1, R, rfl, hown, hda, hmap, ho⟩; have hrl : R.length = n := by { have := congrArg List.length hmap; simpa [hN.out] using this }; have hri : InR w1 a1 (R.map Rg.ri) := inR_own (by rw [hrl]; exact hown) hda; have hrb : ∀ z ∈ R.map Rg.ri, z.f < 18446744073709551616 ∧ z.d.length ≤ 140737488355328 := (by intro z hz; obtain ⟨r, hr, rfl⟩ := List.mem_map.1 hz; have h9 : (r.f, r.d) ∈ L.map (fun x => (x.f, x.d)) := hmap ▸ List.mem_map.2 ⟨r, hr, rfl⟩; obtain ⟨u, hu, eu⟩ := List.mem_map.1 h9; simp only [Prod.mk.injEq] at eu; have := HL.out u hu; rw [eu.1, eu.2] at this; exact this); have NW := hidOf (New_any w1 a1 c1 (R.map Rg.ri) hri hrb (by rw [List.length_map, hrl]; omega)); have O1 := hidOf ho; rw [List.length_map, hrl] at NW; clear hown hda hmap ho hri hrb)
    | (go_at_call 4; refine NW.out.mono ?_; rintro e w2 (⟨rfl, ho2, hrun⟩ | ⟨s, v1, v2, X, Y, rfl, hsp, ho2, hrun⟩) <;> clear hrun))
  · have AW := hidOf (awake_any w2)
    have O2 := hidOf ho2
    clear ho2
    go_wp2_with (go_at_call 6; refine AW.out.mono ?_; rintro e w3 ⟨rfl, ho3⟩; have O3 := hidOf ho3; clear ho3)
    go_ret
    exact ⟨rfl, (O1.out.trans O2.out).trans O3.out⟩
  · rw [List.length_map, hrl] at hsp
    have SP := hidOf hsp
    have O2 := hidOf ho2
    have T1 := hidOf (told_any w2 w1.heap.size s v1 v2 X Y n hsp (by omega))
    clear hsp ho2 NW HL hrl R
    go_upto_region 5 with (go_at_call 7; refine T1.out.mono ?_; rintro e w3 ⟨a3, c3, R1, rfl, hown, hda, hperm, hsrt, ho⟩; have O3 := hidOf ho; have W1 := hidOf hown; have D1 := hidOf hda; have P1 := hidOf hperm; have S1 := hidOf hsrt; clear hown hda hperm hsrt ho T1)
    have SC := hidOf (store_two w3 w1.heap.size s v1 v2 X Y n at_ x wd (SP.out.out O3.out) ha hx)
    generalize hl1 : R1.length = n1 at *
    have L1 := hidOf hl1
    clear hl1
    go_upto_region 6 with (go_at_call 8; refine SC.out.mono ?_; rintro e w4 ⟨X4, rfl, hsp, hf, hc⟩; have SP4 := hidOf hsp; have F4 := hidOf hf; have C4 := hidOf hc; clear hsp hf hc SC)
    have T2 := hidOf (told_any w4 w1.heap.size s v1 v2 X4 Y n SP4.out (by omega))
    go_upto_region 7 with (go_at_call 7; refine T2.out.mono ?_; rintro e w5 ⟨a5, c5, R2, rfl, hown, hda, hperm, hsrt, ho⟩; have O5 := hidOf ho; have W2 := hidOf hown; have D2 := hidOf hda; have P2 := hidOf hperm; have S2 := hidOf hsrt; clear hown hda hperm hsrt ho T2)
    have LC := hidOf (Load_any w5 w1.heap.size s v1 v2 X4 Y n at_ wd (SP4.out.out O5.out) ha)
    go_upto_region 8 with (go_at_call 9; refine LC.out.mono ?_; rintro e w6 ⟨rfl, ho⟩; have O6 := hidOf ho; clear ho LC)
    have TM := told_mk (n := 0) SP.out (by rw [L1.out]; exact W1.out) D1.out P1.out S1.out O3.out SP4.out F4.out C4.out W2.out D2.out P2.out S2.out O5.out O6.out
    obtain ⟨hlen, tl, ow, fd, he⟩ := TM
    have hnl : R1.length ≤ 4398046511104 := by
      have h1 : R1.length = (flat X ++ flat Y).length := by simpa using P1.out.length_eq
      have := SP.out.nm
      omega
    have hk1 : 0 < widN wd ∧ widN wd ≤ 8 := by unfold widN; split; omega; split; omega; split <;> omega
    have hv := load_back SP.out.ok at_ (widN wd) (x % 2 ^ (8 * widN wd)) hk1.1 (Nat.mod_lt _ (Nat.two_pow_pos _))
    rw [← F4.out] at hv
    have hh := held_any w6 w2.heap.size a3 c3 R1 at_ (widN wd) ow fd ha hk1.2 hnl
    rw [he at_ (widN wd) hk1.1] at hh
    rw [L1.out] at hlen tl hh
    rw [← hlen]
    have hn1 : n1 ≤ 4398046511104 := by rw [← L1.out]; exact hnl
    generalize (acP (flat X) at_ (widN wd)).isSome = ok at *
    have OW6 := hidOf (O1.out.trans (Out.trans (C4.out.out (O2.out.trans O3.out) (fun b ⟨z, hz, hb⟩ => (DaI.blk (SP.out.da z hz) hb).1)) (O5.out.trans O6.out)))
    have TL := hidOf tl
    have HH := hidOf hh
    have HK := hidOf hk1
    have HV := hidOf hv
    clear tl hh hk1 hv hnl he fd ow hlen SP P1 S1 O3 SP4 F4 C4 W2 D2 P2 S2 O5 O6 D1 W1
    go_cut [13, 16, 17, 94] from 26 (fun f v _ t wr => ∃ (f' : Int) (v' : Nat), f = .int .i64 f' ∧ v = .int .u64 (v' : Nat) ∧ t = .bool false ∧ Hid (ok = true ∧ f' = 0 ∧ v' = x % 2 ^ (8 * widN wd) ∨ ok = false ∧ f' = 200 ∧ v' = 0) ∧ Hid (wr = w6))
    case first =>
      rw [HV.out]
      cases ok with
      | true =>
        simp only [if_true]
        go_wp2
        go_meet
        exact ⟨_, _, rfl, rfl, rfl, hidOf (.inl ⟨rfl, rfl, rfl⟩), hidOf rfl⟩
      | false =>
        simp only [Bool.false_eq_true, if_false]
        go_wp2
        go_meet
        exact ⟨_, _, rfl, rfl, rfl, hidOf (.inr ⟨rfl, rfl, rfl⟩), hidOf rfl⟩
    case rest =>
      obtain ⟨f, v, rfl, rfl, rfl, HF, HW⟩ := hcut
      have hwe := HW.out
      subst hwe
      clear HW HV
      go_upto_region 11 with fail
      go_cut [2, 104] from 95 to 113 (fun s2 t wr => ∃ t' : Bool, s2 = .int .i64 wd ∧ t = .bool t' ∧ Hid (t' = true ∧ (wd = 8 ∨ wd = 16 ∨ wd = 32) ∨ t' = false ∧ ¬ wd = 8 ∧ ¬ wd = 16 ∧ ¬ wd = 32) ∧ Hid (wr = wc))
      case first =>
        by_cases h8 : wd = 8
        · subst h8
          go_wp2
          go_meet
          exact ⟨true, rfl, rfl, hidOf (by simp), hidOf rfl⟩
        · by_cases h16 : wd = 16
          · subst h16
            go_wp2
            go_meet
            exact ⟨true, rfl, rfl, hidOf (by simp), hidOf rfl⟩
          · by_cases h32 : wd = 32
            · subst h32
              go_wp2
              go_meet
              exact ⟨true, rfl, rfl, hidOf (by simp), hidOf rfl⟩
            · have b8 : (wd == 8) = false := by rw [beq_eq_false_iff_ne]; exact h8
              have b16 : (wd == 16) = false := by rw [beq_eq_false_iff_ne]; exact h16
              have b32 : (wd == 32) = false := by rw [beq_eq_false_iff_ne]; exact h32
              go_wp2
              go_meet
              exact ⟨false, rfl, by simp [b32], hidOf (.inr ⟨rfl, h8, h16, h32⟩), hidOf rfl⟩
      case rest =>
        obtain ⟨t, rfl, rfl, HT, HW⟩ := hcut
        have hwe := HW.out
        subst hwe
        clear HW
        go_upto_if 104 with fail
        go_cut [2, 3, 18, 104] from 95 to 113 (fun s2 s3 s18 _ wr => ∃ (k' x' : Nat), s2 = .int .i64 wd ∧ s3 = .int .u64 (x' : Nat) ∧ s18 = .int .u64 (k' : Nat) ∧ Hid (k' = widN wd ∧ x' = x % 2 ^ (8 * widN wd)) ∧ Hid (wr = wc))
        case first =>
          rcases HT.out with ⟨rfl, rfl | rfl | rfl⟩ | ⟨rfl, h8, h16, h32⟩
          · go_wp2
            go_meet
            exact ⟨1, x % 256, rfl, by rw [and255 x hx], rfl, hidOf ⟨rfl, rfl⟩, hidOf rfl⟩
          · go_wp2
            go_meet
            exact ⟨2, x % 65536, rfl, by rw [and65535 x hx], rfl, hidOf ⟨rfl, rfl⟩, hidOf rfl⟩
          · go_wp2
            go_meet
            exact ⟨4, x % 4294967296, rfl, by rw [and4294967295 x hx], rfl, hidOf ⟨rfl, rfl⟩, hidOf rfl⟩
          · go_wp2
            go_meet
            have hw : widN wd = 8 := by unfold widN; rw [if_neg h8, if_neg h16, if_neg h32]
            exact ⟨8, x, rfl, rfl, rfl, hidOf ⟨hw.symm, by rw [hw, Nat.mod_eq_of_lt (by omega)]⟩, hidOf rfl⟩
        case rest =>
          obtain ⟨k, xx, rfl, rfl, rfl, HKX, HW⟩ := hcut
          have hwe := HW.out
          subst hwe
          obtain ⟨ek, ex⟩ := HKX.out
          rw [← ex] at TL HF
          rw [← ek] at TL HH HK
          have hxx : xx < 18446744073709551616 := by rw [ex]; exact Nat.lt_of_le_of_lt (Nat.mod_le _ _) hx
          clear HW HKX HT ex ek
          go_upto_region 15 with (go_at_call 10; refine HH.out.mono ?_; rintro e w9 ⟨rfl, hw9⟩; subst hw9)
          go_cut [13, 16, 19, 129] from 95 to 129 (fun s13 s16 _ t wr => s13 = .int .i64 f ∧ s16 = .int .u64 (v : Nat) ∧ t = .bool false ∧ Hid (wr = wc))
          case first =>
            rcases HF.out with ⟨rfl, rfl, rfl⟩ | ⟨rfl, rfl, rfl⟩
            · go_wp2
              go_meet
              exact ⟨rfl, rfl, rfl, hidOf rfl⟩
            · go_wp2
              go_meet
              exact ⟨rfl, rfl, rfl, hidOf rfl⟩
          case rest =>
            obtain ⟨rfl, rfl, rfl, HW⟩ := hcut
            have hwe := HW.out
            subst hwe
            clear HW HH
            have AW := hidOf (fun wr => awake_any wr)
            go_wp2
            go_loopw [20] (fun kv wr => ∃ i : Nat, kv = .int .i64 (i : Nat) ∧ i ≤ n1 ∧ Hid (Out wc wr)) (fun kv _ => n1 - (intOf kv).toNat)
            case atStart => exact ⟨0, rfl, Nat.zero_le _, hidOf (Out.refl _)⟩
            case round =>
              obtain ⟨i, rfl, hi, HO⟩ := hrel
              by_cases hin : i < n1
              · have hlt : (i : Int) < n1 := by omega
                obtain ⟨g1, g2, zf, zl, d1, d2, p1, p2, rfl, rfl, hzf, hzb, hzl, q10, q11, q20, q21, hb⟩ := TL.out.reg i hin
                have Q10 := hidOf q10
                have Q11 := hidOf q11
                have Q20 := hidOf q20
                have Q21 := hidOf q21
                have HB := hidOf hb
                have r10 := cell_later HO.out q10
                have r11 := cell_later HO.out q11
                have r20 := cell_later HO.out q20
                have r21 := cell_later HO.out q21
                clear q10 q11 q20 q21 hb
                go_upto_region 20 with fail
                go_quiet (fail)
                clear r10 r11 r20 r21
                have HN : Hid (Out wc (wr.drewN nq)) := hidOf (HO.out.drewN nq)
                clear HO
                generalize wr.drewN nq = wn at *
                go_upto_region 22 with fail
                go_wp2
                go_loopw [21] (fun kv wr => ∃ j : Nat, kv = .int .i64 (j : Nat) ∧ j ≤ zl ∧ Hid (Out wc wr)) (fun kv _ => zl - (intOf kv).toNat)
                case atStart => exact ⟨0, rfl, Nat.zero_le _, HN⟩
                case round =>
                  clear HN wn
                  obtain ⟨j, rfl, hj, HO⟩ := hrel
                  have r10 := cell_later HO.out Q10.out
                  have r11 := cell_later HO.out Q11.out
                  have r20 := cell_later HO.out Q20.out
                  have r21 := cell_later HO.out Q21.out
                  by_cases hjn : j < zl
                  · have hlt : (j : Int) < zl := by omega
                    obtain ⟨m1, m2, b, b', rfl, rfl, y1, y2, hb8, hbe, ld⟩ := HB.out j hjn
                    have LD := hidOf ld
                    have HBE := hidOf hbe
                    have r1 := cell_later HO.out y1
                    have r2 := cell_later HO.out y2
                    have hb8' : b' < 256 := by rw [hbe]; split <;> omega
                    clear y1 y2 ld hbe
                    have hwj : IntKind.u64.wrap (j : Int) = (j : Int) := by rw [IntKind.wrap_u64]; omega
                    obtain ⟨A, hA⟩ : ∃ A, A = zf + j := ⟨_, rfl⟩
                    have hA64 : A < 18446744073709551616 := by omega
                    have hwa : IntKind.u64.wrap ((zf : Int) + j) = (A : Int) := by rw [IntKind.wrap_u64]; omega
                    rw [← hA] at LD HBE
                    clear hA
                    go_upto_region 27 with fail
                    go_cut [13, 201] from 188 to 201 (fun s13 t wq => ∃ t' : Bool, s13 = .int .i64 f ∧ t = .bool t' ∧ Hid (t' = true ∧ ok = true ∧ at_ ≤ A ∧ A - at_ < k ∨ t' = false ∧ ¬ (ok = true ∧ at_ ≤ A ∧ A - at_ < k)) ∧ Hid (wq = wr))
                    case first =>
                      rcases HF.out with ⟨rfl, rfl, rfl⟩ | ⟨rfl, rfl, rfl⟩
                      · by_cases hle : at_ ≤ A
                        · have hleI : (at_ : Int) ≤ A := by omega
                          obtain ⟨D, hD⟩ : ∃ D, D = A - at_ := ⟨_, rfl⟩
                          have hws : IntKind.u64.wrap ((A : Int) - at_) = (D : Int) := by rw [IntKind.wrap_u64]; omega
                          by_cases hk : D < k
                          · have hkI : (D : Int) < k := by omega
                            have FIN : Hid (at_ ≤ A ∧ A - at_ < k) := hidOf ⟨hle, by omega⟩
                            clear hk hle hD
                            go_wp2
                            go_meet
                            exact ⟨true, by simp, by simp, hidOf (.inl ⟨by simp, by simp, FIN.out.1, FIN.out.2⟩), hidOf rfl⟩
                          · have hkI : ¬ (D : Int) < k := by omega
                            have FIN : Hid (¬ (A - at_ < k)) := hidOf (by omega)
                            clear hk hle hD
                            go_wp2
                            go_meet
                            exact ⟨false, by simp, by simp, hidOf (.inr ⟨by simp, fun h => FIN.out h.2.2⟩), hidOf rfl⟩
                        · have hleI : ¬ (at_ : Int) ≤ A := by omega
                          obtain ⟨D, hD⟩ : ∃ D, D = 18446744073709551616 + A - at_ := ⟨_, rfl⟩
                          have hws : IntKind.u64.wrap ((A : Int) - at_) = (D : Int) := by rw [IntKind.wrap_u64]; omega
                          have FIN : Hid (¬ (at_ ≤ A)) := hidOf hle
                          by_cases hk : D < k
                          · have hkI : (D : Int) < k := by omega
                            clear hk hle hD
                            go_wp2
                            go_meet
                            exact ⟨false, by simp, by simp, hidOf (.inr ⟨by simp, fun h => FIN.out h.2.1⟩), hidOf rfl⟩
                          · have hkI : ¬ (D : Int) < k := by omega
                            clear hk hle hD
                            go_wp2
                            go_meet
                            exact ⟨false, by simp, by simp, hidOf (.inr ⟨by simp, fun h => FIN.out h.2.1⟩), hidOf rfl⟩
                      · go_wp2
                        go_meet
                        exact ⟨false, by simp, by simp, hidOf (.inr ⟨by simp, by simp⟩), hidOf rfl⟩
                    case rest =>
                      obtain ⟨t2, rfl, rfl, HT2, HW⟩ := hcut
                      have hwe := HW.out
                      subst hwe
                      clear HW
                      go_upto_if 201 with fail
                      go_cut [23, 201] from 202 to 208 (fun s23 _ wq => s23 = .int .u8 (b' : Nat) ∧ Hid (wq = wc))
                      case first =>
                        rcases HT2.out with ⟨rfl, ht, hle, hk⟩ | ⟨rfl, ht⟩
                        · obtain ⟨D, hD⟩ : ∃ D, D = A - at_ := ⟨_, rfl⟩
                          have hws : IntKind.u64.wrap ((A : Int) - at_) = (D : Int) := by rw [IntKind.wrap_u64]; omega
                          have hwm : IntKind.u64.wrap (8 * (D : Int)) = 8 * (D : Int) := by
                            have := HK.out.2
                            rw [IntKind.wrap_u64]; omega
                          have FIN : Hid (b' = xx / 2 ^ (8 * D) % 256) := hidOf (by
                            have h := HBE.out
                            rw [if_pos ⟨ht, hle, hk⟩, ← hD] at h
                            exact h)
                          have hmn : min (8 * (D : Int)).toNat 64 = 8 * D := by
                            have := HK.out.2
                            omega
                          clear ht hle hk hD
                          go_wp2
                          go_meet
                          refine ⟨?_, hidOf rfl⟩
                          rw [FIN.out]
                          rfl
                        · have hbb : b' = b := by have h := HBE.out; rw [if_neg ht] at h; exact h
                          clear ht
                          go_wp2
                          go_meet
                          exact ⟨by rw [hbb], hidOf rfl⟩
                      case rest =>
                        obtain ⟨rfl, HW⟩ := hcut
                        have hwe := HW.out
                        subst hwe
                        clear HW
                        have LC := hidOf (LD.out _ HO.out)
                        have hwb : IntKind.u64.wrap (b' : Int) = (b' : Int) := by rw [IntKind.wrap_u64]; omega
                        go_upto_region 30 with (go_at_call 9; refine LC.out.mono ?_; rintro e w9 ⟨rfl, ho9⟩; have O9 := hidOf ho9; have z21 := cell_later ho9 r21; have z2 := cell_later ho9 r2; clear ho9)
                        go_wp2
                        go_roundw
                        case rel => exact ⟨j + 1, by simp, by omega, hidOf (HO.out.trans O9.out)⟩
                        case measure => simp [intOf]; omega
                  · have hlt : ¬ (j : Int) < zl := by omega
                    go_wp2
                    go_roundw
                    case rel => exact ⟨i + 1, by simp, by omega, HO⟩
                    case measure => simp [intOf]; omega
              · have hlt : ¬ (i : Int) < n1 := by omega
                go_wp2_with (go_at_call 6; refine (AW.out _).mono ?_; rintro e w9 ⟨rfl, ho9⟩; have O9 := hidOf ho9; clear ho9)
                go_ret
                exact ⟨rfl, (OW6.out.trans HO.out).trans O9.out⟩
end Go.Proofs.Ytigdlgpkepledaa
