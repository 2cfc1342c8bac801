import Derived.Test.YtekjfbmebekmeaaGreatGa47
namespace Go.Proofs.YtekjfbmebekmeaaGreat
open Go.RowKit
open Bo
set_option linter.unusedVariables false
set_option linter.unusedSimpArgs false
theorem wpList_append_or {w : World} {ops : Array Oper} {rest : List Oper} {o : Oper} {a : Act} {Q : Exit → Act → World → Prop} (hgd : o.guard = none) (s x : Operand)
    (ho : o.op = .call { callee := .builtin .append, args := #[s, x], argTypes := #[22, 22] }) (base : Nat) (v : Value) (n : Nat) (xs : List Value) (hs : a.eval s = v) (hown : w.ownsRow base 36 2 v n xs)
    (ad : Addr) (c : Nat) (news : List Value) (hx : a.eval x = .slice (some ad) 1 c) (hl : news.length = 2) (hnews : ∀ j u, news[j]? = some u → w.cell? (ad.add j) = some u) (h1 : ∀ u ∈ news, u.oneCell' = true) (hn : n ≤ 1000000000000) (hbase : base ≤ w.heap.size)
    (h : ∀ v' w', w'.ownsRow base 36 2 v' (n + 1) (xs ++ news) → w.grownBy w' v.ownBlock → (v'.ownBlock = v.ownBlock ∨ (v'.ownBlock = some w.heap.size ∧ ∀ k, k < w.heap.size → w'.heap[k]? = w.heap[k]?)) → wpList Tryz.prog ops Q rest (a.put o.dst v') w') : wpList Tryz.prog ops Q (o :: rest) a w := by
  refine wpList_plain hgd fun K hK => ?_
  obtain ⟨v', w', hr, h2, h3, h4⟩ := run_append_or (w := w) base o.type v n xs hown ad c news hl hnews h1 hn hbase
  unfold Oper.wp execOp
  simp only [ho, resolve, invoke, builtin, Sem.run_bind, Sem.run_pure, Result.andThen_ok, List.map_toArray, List.map_cons, List.map_nil, hs, hx, hr]
  exact hK _ _ (h v' w' h2 h3 h4)
theorem infoRS : (Tryz.prog.info? 22).map (fun i => (i.zero, i.size, i.bytes)) = some (some (.slice none 0 0), 1, 24) := by kernel_rfl
set_option maxHeartbeats 8000000 in
set_option maxRecDepth 100000 in
theorem memoryOwns_walk (w : World) (a1 a3 : Option Addr) (cc1 cc3 : Nat) (L : List RI) (A : List AcI) (h1 : InR w a1 L) (hL : ∀ x ∈ L, x.f < 18446744073709551616 ∧ x.d.length ≤ 1048576) (h3 : AcR w a3 A) (hA : ∀ z ∈ A, AcOk z) (ht : L.length + A.length ≤ 1048576) (hcnt : 4 * (L.length + A.length + 1) * A.length ≤ 95000000000) :
    Calls Tryz.prog 5 #[.slice a1 L.length cc1, .slice a3 A.length cc3] w fun e w' => e = .returned (.bool true) ∧ Out w w' := by
  obtain ⟨iRS, hiRS, hy0, hy1, hy2⟩ := info_parts infoRS
  have OC1 : Hid (∀ W, Out w W → Calls Tryz.prog 6 #[.slice a1 L.length cc1] W fun e w' => OpenE L L.length W e w') := hidOf (fun W o => open_any W a1 cc1 L (h1.out o) (fun x hx => ⟨(hL x hx).1, by have := (hL x hx).2; omega⟩) (by omega))
  have AWC := hidOf (fun W => awake_any W)
  obtain ⟨n1, hN1⟩ : ∃ n, Hid (n = L.length) := ⟨_, rfl⟩
  obtain ⟨n3, hN3⟩ : ∃ n, Hid (n = A.length) := ⟨_, rfl⟩
  rw [← hN1.out, ← hN3.out] at ht hcnt
  rw [← hN1.out] at OC1
  rw [← hN1.out, ← hN3.out]
  obtain ⟨u, hu⟩ : ∃ u, Hid (u = n1 + n3 + 1) := ⟨_, rfl⟩
  obtain ⟨K, hK⟩ : ∃ K, Hid (K = 4 * u) := ⟨_, rfl⟩
  have hKn : Hid (∀ i, i ≤ n3 → K * i ≤ 95000000000) := hidOf (fun i hi => by
    have h9 : K * i ≤ K * n3 := Nat.mul_le_mul_left _ hi
    have e : K = 4 * (n1 + n3 + 1) := by rw [hK.out, hu.out]
    rw [e] at h9 ⊢
    omega)
  have hKs : Hid (∀ i, K * (i + 1) = K * i + K) := hidOf (fun i => Nat.mul_succ _ _)
  have HT := hidOf ht
  have HA := hidOf hA
  have H3 := hidOf h3
  have HB1 := hidOf (fun x hx => (hL x hx).2)
  clear h1 hL h3 hA hcnt
  go_enter Tryz.func5, Tryz.ntmps5
  go_upto_region 2 with (go_at_call 6; refine (OC1.out _ (Out.refl _)).mono ?_; intro e w1 hoe; obtain ⟨d, X1, rfl, ho1, hd1, hX1⟩ := hoe.dkE hN1.out.symm HB1.out (Nat.le_refl _); have O1 := hidOf ho1; have DK1 := hidOf hd1; clear hoe ho1 hd1 hX1)
  obtain ⟨p, hp⟩ : ∃ p, Hid (p = w1.heap.size) := ⟨_, rfl⟩
  obtain ⟨w2, H2, b2, o2⟩ : ∃ w2, Hid (w2 = w1.alloc (.cells #[.int .i64 0, .int .i64 0, .bool false, .slice none 0 0, .slice none 0 0, .slice none 0 0, .slice none 0 0, .slice none 0 0] 42)) ∧ w2.heap[p]? = some (.cells #[.int .i64 0, .int .i64 0, .bool false, .slice none 0 0, .slice none 0 0, .slice none 0 0, .slice none 0 0, .slice none 0 0] 42 (0, 0)) ∧ Out w1 w2 := ⟨_, rfl, by rw [hp.out]; exact heap_alloc_new w1 _, (Out.refl w1).alloc _⟩
  have M0 : Hid (OwM (fun _ _ => False) w w2 d p n1 0 0 (.slice none 0 0) [] [] (.slice none 0 0) 0 []) := hidOf (OwM.start DK1.out O1.out o2 b2 (by rw [hp.out]; exact Nat.le_refl _))
  clear b2 o2
  go_upto_region 5 with fail
  rw [← hp.out]
  rw [← H2.out]
  go_wp2
  go_loopw [8, 9] (fun lv iv wr => ∃ (i nL : Nat) (la : Option Addr) (lc m : Nat) (La : List Value) (c0 c1 : Int) (kb : Nat → Array Value → Prop), lv = .slice la nL lc ∧ iv = .int .i64 i ∧ i ≤ n3 ∧ Hid (La.length = nL) ∧ nL / 2 * 2 = nL ∧ nL ≤ 8 * i ∧ m ≤ n1 + i ∧ c0 ≤ ((K * i : Nat) : Int) ∧ Hid (OwM kb w wr d p m c0 c1 (.slice la nL lc) La [] (.slice none 0 0) 0 [])) (fun _ iv _ => n3 - (intOf iv).toNat)
  case atStart => exact ⟨0, 0, none, 0, n1, [], 0, 0, _, rfl, rfl, Nat.zero_le _, hidOf rfl, rfl, Nat.le_refl _, Nat.le_refl _, by simp, M0⟩
  case round =>
    clear M0 DK1 H2
    obtain ⟨i, nL, la, lc, m, La, c0, c1, kb, rfl, rfl, hi, LL, hnL, hnL8, hm, hc0, MR⟩ := hrel
    by_cases hin : i < n3
    · have hlt : (i : Int) < n3 := by omega
      obtain ⟨z, hz⟩ : ∃ z, A[i]? = some z := ⟨_, List.getElem?_eq_getElem (by rw [← hN3.out]; exact hin)⟩
      obtain ⟨g, o, rfl, hcs⟩ : ∃ g o, a3 = some ⟨g, o, none⟩ ∧ _ := H3.out.resolve_left (fun e => by rw [e] at hz; simp at hz)
      obtain ⟨⟨q0, q1, q2, q3, q4, q5⟩, qr⟩ := hcs i z hz
      have hzo := HA.out z (List.mem_of_getElem? hz)
      obtain ⟨zw, zk, za, zN, zx, zp, zc, zd⟩ := z
      obtain ⟨zn, hzn⟩ : ∃ zn, Hid (zn = zd.length) := ⟨_, rfl⟩
      simp only at q0 q1 q2 q3 q4 q5 qr
      rw [← hzn.out] at q5
      have ho := MR.out.out
      have p0 := cell_later ho q0
      have p1 := cell_later ho q1
      have p2 := cell_later ho q2
      have p3 := cell_later ho q3
      have p4 := cell_later ho q4
      have p5 := cell_later ho q5
      have Q1 := hidOf q1
      have ZO := hidOf hzo
      have ZR := hidOf qr
      clear hcs q0 q1 q2 q3 q4 q5 qr hzo ho hz
      obtain ⟨b, hb⟩ : ∃ b, Hid (b = wr.heap.size) := ⟨_, rfl⟩
      obtain ⟨w5, H5, b5, o5⟩ : ∃ w5, Hid ((wr.alloc (.cells #[.int .i64 zw, .int .i64 zk, .int .u64 za, .int .i64 zN, .int .u64 zx, .slice zp zn zc, .int .i64 zw, .int .i64 zk, .int .u64 za, .int .i64 zN, .int .u64 zx, .slice zp zn zc, .int .i64 0, .int .i64 7, .int .u64 0, .int .i64 0, .int .u64 0, .slice none 0 0, .int .i64 0, .int .i64 7, .int .u64 0, .int .i64 0, .int .u64 0, .slice none 0 0] 31)).drew = w5) ∧ w5.heap[b]? = some (.cells #[.int .i64 zw, .int .i64 zk, .int .u64 za, .int .i64 zN, .int .u64 zx, .slice zp zn zc, .int .i64 zw, .int .i64 zk, .int .u64 za, .int .i64 zN, .int .u64 zx, .slice zp zn zc, .int .i64 0, .int .i64 7, .int .u64 0, .int .i64 0, .int .u64 0, .slice none 0 0, .int .i64 0, .int .i64 7, .int .u64 0, .int .i64 0, .int .u64 0, .slice none 0 0] 31 (0, 0)) ∧ Out wr w5 := ⟨_, rfl, by rw [hb.out]; exact heap_alloc_new wr _, ((Out.refl wr).alloc _).drew⟩
      have M5 : Hid (OwM (fun k u => k = b ∧ u = #[.int .i64 zw, .int .i64 zk, .int .u64 za, .int .i64 zN, .int .u64 zx, .slice zp zn zc, .int .i64 zw, .int .i64 zk, .int .u64 za, .int .i64 zN, .int .u64 zx, .slice zp zn zc, .int .i64 0, .int .i64 7, .int .u64 0, .int .i64 0, .int .u64 0, .slice none 0 0, .int .i64 0, .int .i64 7, .int .u64 0, .int .i64 0, .int .u64 0, .slice none 0 0]) w w5 d p m c0 c1 (.slice la nL lc) La [] (.slice none 0 0) 0 []) := hidOf (MR.out.keepB o5 (by rw [hb.out]; exact Nat.le_refl _) b5)
      have s0 := cell_later o5 p0
      have s1 := cell_later o5 p1
      have s2 := cell_later o5 p2
      have s3 := cell_later o5 p3
      have s4 := cell_later o5 p4
      have s5 := cell_later o5 p5
      clear b5 o5
      go_upto_region 9 with fail
      refine wp_region_held_drew (S := (fun w' => w'.cell? ⟨g, o + i * 6, none⟩ = some (.int .i64 zw) ∧ w'.cell? ⟨g, o + i * 6 + 1, none⟩ = some (.int .i64 zk) ∧ w'.cell? ⟨g, o + i * 6 + 2, none⟩ = some (.int .u64 za) ∧ w'.cell? ⟨g, o + i * 6 + 3, none⟩ = some (.int .i64 zN) ∧ w'.cell? ⟨g, o + i * 6 + 4, none⟩ = some (.int .u64 zx) ∧ w'.cell? ⟨g, o + i * 6 + 5, none⟩ = some (.slice zp zn zc))) (by kernel_rfl) ?_ (fun hHeld => ?_)
      · exact ⟨p0, p1, p2, p3, p4, p5⟩
      refine tkLB [0, 1, 2, 3, 4, 5, 6, 7, 8, 9] ?_
      iterate 10 (refine tkLC (v := ?_) rfl rfl (by kernel_rfl) (by kernel_rfl) (by kernel_rfl) (fun _ _ _ h => h) (by rfl) (by assumption) ?_ ?_; rotate_left; (· (intro w hSw; (try dsimp only at hSw); go_simp; (try with_reducible rfl))); simp only [Act.put, List.setIfInBounds_toArray, List.set_cons_zero, List.set_cons_succ])
      refine tkLE ?_
      refine wpAnyH_ready (rs := [10]) (by kernel_rfl) (by simp) ?_
      refine (AllReadyH.cons rfl (fun Ko10 hKo10 => ?_) AllReadyH.nil)
      rw [if_pos (by rfl)]
      go_simp
      first | rw [H5.out] | rw [← hb.out, H5.out] | skip
      refine hKo10.out _ _ ⟨s0, s1, s2, s3, s4, s5⟩ (fun hHeld10 => ?_)
      try simp only [Act.put, List.setIfInBounds_toArray, List.set_cons_zero, List.set_cons_succ]
      try rw [← hb.out]
      refine tkLB [11] ?_
      iterate 1 (refine tkLC (v := ?_) rfl rfl (by kernel_rfl) (by kernel_rfl) (by kernel_rfl) (fun _ _ _ h => h) (by rfl) (by assumption) ?_ ?_; rotate_left; (· (intro w hSw; (try dsimp only at hSw); go_simp; (try with_reducible rfl))); simp only [Act.put, List.setIfInBounds_toArray, List.set_cons_zero, List.set_cons_succ])
      refine tkLE ?_
      refine wpAnyH_done (by kernel_rfl) ?_ _
      clear p0 p1 p2 p3 p4 p5 s0 s1 s2 s3 s4 s5 MR H5
      go_wp2
      go_loopw [8, 11] (fun lv kv wr => ∃ (k nL : Nat) (la : Option Addr) (lc m : Nat) (La : List Value) (c0 c1 : Int), lv = .slice la nL lc ∧ kv = .int .i64 k ∧ k ≤ 4 ∧ Hid (La.length = nL) ∧ nL / 2 * 2 = nL ∧ nL ≤ 8 * i + 2 * k ∧ (k = 0 → m ≤ n1 + i) ∧ m ≤ n1 + i + 1 ∧ c0 ≤ ((K * i : Nat) : Int) + ((u * k : Nat) : Int) ∧ Hid (OwM (fun k u => k = b ∧ u = #[.int .i64 zw, .int .i64 zk, .int .u64 za, .int .i64 zN, .int .u64 zx, .slice zp zn zc, .int .i64 zw, .int .i64 zk, .int .u64 za, .int .i64 zN, .int .u64 zx, .slice zp zn zc, .int .i64 0, .int .i64 7, .int .u64 0, .int .i64 0, .int .u64 0, .slice none 0 0, .int .i64 0, .int .i64 7, .int .u64 0, .int .i64 0, .int .u64 0, .slice none 0 0]) w wr d p m c0 c1 (.slice la nL lc) La [] (.slice none 0 0) 0 [])) (fun _ kv _ => 4 - (intOf kv).toNat)
      case atStart => exact ⟨0, nL, la, lc, m, La, c0, c1, rfl, rfl, Nat.zero_le _, LL, hnL, by omega, fun _ => hm, by omega, by simpa using hc0, M5⟩
      case round =>
        clear M5 LL
        obtain ⟨k, nL, la, lc, m, La, c0, c1, rfl, rfl, hk, LL, hnL, hnL8, hm0, hm1, hc0, MR⟩ := hrel
        by_cases hk4 : k < 4
        · have hkI : (k : Int) < 4 := by omega
          have HBK := MR.out.kb_at ⟨rfl, rfl⟩
          have pk := cell_later MR.out.out Q1.out
          have hKi := hKn.out (i + 1) (by omega)
          have hKs1 := hKs.out i
          have hKu := hK.out
          have huk : u * (k + 1) = u * k + u := Nat.mul_succ _ _
          have huk4 : u * k + u ≤ K := by
            have h9 : u * (k + 1) ≤ u * 4 := Nat.mul_le_mul_left _ (by omega)
            omega
          have huM := hu.out
          have hTT := HT.out
          by_cases hk1 : k = 1
          · subst hk1
            by_cases hz5 : zk = 5
            · have hz5b : (zk != 5) = false := by rw [hz5]; rfl
              have hask : ∃ (yw yk : Int) (ya : Nat) (yN : Int) (yx : Nat) (yp : Option Addr) (yc : Nat) (yd : List UInt8), AcOk ⟨yw, yk, ya, yN, yx, yp, yc, yd⟩ ∧ RestAt w.heap.size w yp yd ∧ (yk = 1 → 1 = 0) ∧ wr.cell? ⟨b, 6, none⟩ = some (.int .i64 yw) ∧ wr.cell? ⟨b, 7, none⟩ = some (.int .i64 yk) ∧ wr.cell? ⟨b, 8, none⟩ = some (.int .u64 ya) ∧ wr.cell? ⟨b, 9, none⟩ = some (.int .i64 yN) ∧ wr.cell? ⟨b, 10, none⟩ = some (.int .u64 yx) ∧ wr.cell? ⟨b, 11, none⟩ = some (.slice yp yd.length yc) :=
                ⟨zw, zk, za, zN, zx, zp, zc, zd, ZO.out, ZR.out, fun h => by omega, (cell_B HBK _).trans rfl, (cell_B HBK _).trans rfl, (cell_B HBK _).trans rfl, (cell_B HBK _).trans rfl, (cell_B HBK _).trans rfl, by rw [← hzn.out]; exact (cell_B HBK _).trans rfl⟩
              clear hz5
              obtain ⟨yw, yk, ya, yN, yx, yp, yc, yd, hyo, hyr, hyk, r0, r1, r2, r3, r4, r5⟩ := hask
              obtain ⟨yn, hyn⟩ : ∃ yn, Hid (yn = yd.length) := ⟨_, rfl⟩
              rw [← hyn.out] at r5
              obtain ⟨m2, hm2⟩ : ∃ m2, Hid (m2 = m + if yk = 1 then 1 else 0) := ⟨_, rfl⟩
              have hm2a : m2 ≤ n1 + i + 1 := by
                rw [hm2.out]
                split
                · have := hm0 (hyk (by assumption)); omega
                · omega
              have CA := hidOf (MR.out.act (by omega) ⟨yw, yk, ya, yN, yx, yp, yc, yd⟩ hyo hyr)
              unfold AcI.v actV at CA
              simp only at CA
              rw [← hyn.out, ← hm2.out] at CA
              clear HBK hyo hyr hyk MR
              go_upto_region 15 with (go_at_call 8; refine CA.out.mono ?_; rintro e w6 ⟨ub, ua, uc, va, vc, vR, rfl, hub, hbd, hvm, hm6⟩; have M6 := hidOf hm6; have HBD := hidOf hbd; clear hm6 hbd)
              obtain ⟨nu, hnu⟩ : ∃ nu, Hid (nu = ub.length) := ⟨_, rfl⟩
              obtain ⟨nv, hnv⟩ : ∃ nv, Hid (nv = vR.length) := ⟨_, rfl⟩
              rw [← hnu.out, ← hnv.out] at M6 ⊢
              rw [← hnu.out] at hub
              rw [← hnv.out] at hvm
              have ct := M6.out.total
              have hc0n := M6.out.c0nn
              have hc00 := hc0n.1
              have hc10 := hc0n.2
              clear CA r0 r1 r2 r3 r4 r5 hc0n
              by_cases hT : c1 > 4000
              · go_wp2
                go_roundw
                case rel => exact ⟨2, nL, la, lc, m2, La, c0, c1, rfl, by first | rfl | simp, by omega, LL, hnL, by omega, by omega, hm2a, by omega, hidOf M6.out.drop⟩
                case measure => first | (simp [intOf]; done) | (simp [intOf]; omega)
              · have hT2 : ¬ 4000 < c1 := hT
                have C7 := hidOf (M6.out.own (by rw [iB_len]; exact hnu.out.symm) (by omega) (9 * (i : Int) + (1 : Int)) (by omega) (by omega) (by omega))
                go_upto_region 19 with (go_at_call 10; refine C7.out.mono ?_; rintro e w7 ⟨⟨r, rfl⟩, hm7⟩; have M7 := hidOf hm7; clear hm7)
                clear M6 C7 ct
                go_wp2
                go_loopw [15] (fun jv wr => ∃ (j : Nat) (c0' c1' : Int), jv = .int .i64 j ∧ j ≤ nv ∧ c0' = c0 + 1 + (j : Int) ∧ c1' ≤ 4000 + 1048576 * ((j : Int) + 1) ∧ Hid (OwM (fun k u => k = b ∧ u = #[.int .i64 zw, .int .i64 zk, .int .u64 za, .int .i64 zN, .int .u64 zx, .slice zp zn zc, .int .i64 zw, .int .i64 zk, .int .u64 za, .int .i64 zN, .int .u64 zx, .slice zp zn zc, .int .i64 0, .int .i64 7, .int .u64 0, .int .i64 0, .int .u64 0, .slice none 0 0, .int .i64 0, .int .i64 7, .int .u64 0, .int .i64 0, .int .u64 0, .slice none 0 0]) w wr d p m2 c0' c1' (.slice la nL lc) La (fB (vR.drop j)) (.slice va nv vc) nv (rowG vR))) (fun jv _ => nv - (intOf jv).toNat)
                case atStart => exact ⟨0, c0 + 1, c1 + nu, rfl, Nat.zero_le _, by omega, by omega, M7⟩
                case round =>
                  clear M7
                  obtain ⟨j, c0', c1', rfl, hj, hc0e, hc1e, MJ⟩ := hrel
                  by_cases hjn : j < nv
                  · have hlt9 : (j : Int) < nv := by omega
                    obtain ⟨y, hy⟩ : ∃ y, vR[j]? = some y := ⟨_, List.getElem?_eq_getElem (by rw [← hnv.out]; exact hjn)⟩
                    obtain ⟨vb, c9, e, _, _⟩ := MJ.out.vr.form (by omega)
                    simp only [Value.slice.injEq] at e
                    obtain ⟨rfl, _, rfl⟩ := e
                    have q1 := (own_cellK MJ.out.vr (rowG_get hy).2).1
                    have hyb := HBD.out (fdR y) (List.mem_map.2 ⟨y, List.mem_of_getElem? hy, rfl⟩)
                    simp only [fdR] at hyb
                    have hdj : fB (vR.drop j) = (daV y, iB y.d) :: fB (vR.drop (j + 1)) := by
                      have hjl := (List.getElem?_eq_some_iff.1 hy)
                      obtain ⟨h1, h2⟩ := hjl
                      rw [List.drop_eq_getElem_cons h1, h2]; rfl
                    rw [hdj] at MJ
                    unfold daV at q1 MJ
                    have C8 := hidOf (MJ.out.own (iB_len _) (by omega) (100 * (i : Int) + (1 : Int) + (j : Int)) (by omega) (by omega) (by omega))
                    obtain ⟨yn, hyn⟩ : ∃ yn, Hid (yn = y.d.length) := ⟨_, rfl⟩
                    obtain ⟨ya, hya⟩ : ∃ ya : Option Addr, Hid (ya = y.a.map fun b => ⟨b, 0, none⟩) := ⟨_, rfl⟩
                    obtain ⟨yc, hyc⟩ : ∃ yc, Hid (yc = y.c) := ⟨_, rfl⟩
                    rw [← hyn.out, ← hya.out, ← hyc.out] at q1 C8
                    rw [← hyn.out] at hyb
                    clear hy hdj MJ
                    go_wp2_with (go_at_call 10; refine C8.out.mono ?_; rintro e w8 ⟨⟨r, rfl⟩, hm8⟩; have M8 := hidOf hm8; clear hm8)
                    go_roundw
                    case rel => exact ⟨j + 1, c0' + 1, c1' + yn, by first | rfl | simp, by omega, by omega, by omega, M8⟩
                    case measure => simp [intOf]; omega
                  · have hlt9 : ¬ (j : Int) < nv := by omega
                    obtain rfl : j = nv := by omega
                    have M9 : Hid (OwM (fun k u => k = b ∧ u = #[.int .i64 zw, .int .i64 zk, .int .u64 za, .int .i64 zN, .int .u64 zx, .slice zp zn zc, .int .i64 zw, .int .i64 zk, .int .u64 za, .int .i64 zN, .int .u64 zx, .slice zp zn zc, .int .i64 0, .int .i64 7, .int .u64 0, .int .i64 0, .int .u64 0, .slice none 0 0, .int .i64 0, .int .i64 7, .int .u64 0, .int .i64 0, .int .u64 0, .slice none 0 0]) w wr d p m2 c0' c1' (.slice la nL lc) La [] (.slice va j vc) j (rowG (zs nL 0 ++ vR.drop 0))) := hidOf (by
                      have h9 := MJ.out
                      rw [List.drop_of_length_le (by rw [← hnv.out]; exact Nat.le_refl _)] at h9
                      exact h9)
                    clear MJ
                    go_wp2
                    go_loopw [16] (fun jv wr => ∃ t : Nat, jv = .int .i64 t ∧ t ≤ j ∧ Hid (OwM (fun k u => k = b ∧ u = #[.int .i64 zw, .int .i64 zk, .int .u64 za, .int .i64 zN, .int .u64 zx, .slice zp zn zc, .int .i64 zw, .int .i64 zk, .int .u64 za, .int .i64 zN, .int .u64 zx, .slice zp zn zc, .int .i64 0, .int .i64 7, .int .u64 0, .int .i64 0, .int .u64 0, .slice none 0 0, .int .i64 0, .int .i64 7, .int .u64 0, .int .i64 0, .int .u64 0, .slice none 0 0]) w wr d p m2 c0' c1' (.slice la nL lc) La [] (.slice va j vc) j (rowG (zs nL t ++ vR.drop t)))) (fun jv _ => j - (intOf jv).toNat)
                    case atStart => exact ⟨0, rfl, Nat.zero_le _, M9⟩
                    case round =>
                      clear M9
                      obtain ⟨t, rfl, ht9, MT⟩ := hrel
                      by_cases htn : t < j
                      · have htI : (t : Int) < j := by omega
                        obtain ⟨vb, c9, e, _, _⟩ := MT.out.vr.form (by omega)
                        simp only [Value.slice.injEq] at e
                        obtain ⟨rfl, _, rfl⟩ := e
                        have hll : (zs nL t ++ vR.drop t).length = j := by rw [List.length_append, zs_len, List.length_drop, ← hnv.out]; omega
                        obtain ⟨y, hy⟩ : ∃ y, (zs nL t ++ vR.drop t)[t]? = some y := ⟨_, List.getElem?_eq_getElem (by rw [hll]; exact htn)⟩
                        obtain ⟨q0, f0⟩ := own_cellK MT.out.vr (rowG_get hy).1
                        obtain ⟨q1, f1⟩ := own_cellK MT.out.vr (rowG_get hy).2
                        have HLL := hidOf hll
                        clear hy hll
                        go_wp2
                        go_roundw
                        case rel =>
                          have h9 := own_setG MT.out.vr HLL.out htn ⟨1000 * nL + t, none, 0, []⟩
                          rw [zs_set hnv.out.symm htn] at h9
                          have hown : ((wr.setCell ⟨vb, t * 2, none⟩ (.int .u64 (1000 * (nL : Int) + (t : Int)))).setCell ⟨vb, t * 2 + 1, none⟩ (.slice none 0 0)).ownsRow w.heap.size 36 2 (.slice (some ⟨vb, 0, none⟩) j vc) j (rowG (zs nL (t + 1) ++ vR.drop (t + 1))) := by
                            rw [show (1000 * (nL : Int) + (t : Int)) = ((1000 * nL + t : Nat) : Int) by omega]
                            exact h9
                          exact ⟨t + 1, by first | rfl | simp, by omega, hidOf (MT.out.set (((Chg.refl (fun q => (Value.slice (some ⟨vb, 0, none⟩) j vc).ownBlock = some q) wr).setCell (p := ⟨vb, t * 2, none⟩) rfl _).setCell (p := ⟨vb, t * 2 + 1, none⟩) rfl _) hown)⟩
                        case measure => simp [intOf]; omega
                      · have htI : ¬ (t : Int) < j := by omega
                        obtain rfl : t = j := by omega
                        have M10 : Hid (OwM (fun k u => k = b ∧ u = #[.int .i64 zw, .int .i64 zk, .int .u64 za, .int .i64 zN, .int .u64 zx, .slice zp zn zc, .int .i64 zw, .int .i64 zk, .int .u64 za, .int .i64 zN, .int .u64 zx, .slice zp zn zc, .int .i64 0, .int .i64 7, .int .u64 0, .int .i64 0, .int .u64 0, .slice none 0 0, .int .i64 0, .int .i64 7, .int .u64 0, .int .i64 0, .int .u64 0, .slice none 0 0]) w wr d p m2 c0' c1' (.slice la nL lc) La [] (.slice va t vc) t (rowG (zs nL t))) := hidOf (by
                          have h9 := MT.out
                          rw [List.drop_of_length_le (by rw [← hnv.out]; exact Nat.le_refl _), List.append_nil] at h9
                          exact h9)
                        clear MT
                        obtain ⟨w9, hw9⟩ : ∃ w9, w9 = wr := ⟨_, rfl⟩
                        have H9 := hidOf hw9
                        have G0 : Hid (Gw w.heap.size w9 w9 (.slice va t vc) t nL (.slice va t vc) 0) := hidOf (by rw [hw9]; exact Gw.start M10.out.vr)
                        have hsz9 : Hid (w.heap.size ≤ w9.heap.size) := hidOf (by rw [hw9]; exact M10.out.out.size)
                        rw [← hw9] at M10
                        clear hw9
                        go_wp2
                        go_loopw [17, 18] (fun gv jv wr => ∃ (s : Nat) (ga : Option Addr) (gc : Nat), gv = .slice ga (t + s) gc ∧ jv = .int .i64 s ∧ s ≤ 9 ∧ Hid (Gw w.heap.size w9 wr (.slice va t vc) t nL (.slice ga (t + s) gc) s)) (fun _ jv _ => 9 - (intOf jv).toNat)
                        case atStart => exact ⟨0, va, vc, rfl, rfl, Nat.zero_le _, by rw [← H9.out]; exact G0⟩
                        case round =>
                          clear H9
                          obtain ⟨s, ga, gc, rfl, rfl, hs9, GS⟩ := hrel
                          by_cases hs : s < 9
                          · have hsI : (s : Int) < 9 := by omega
                            go_wp2_with (at_builtin; go_loud (refine wpList_append_or rfl (.tmp 131) (.tmp 140) rfl w.heap.size (.slice ga (t + s) gc) (t + s) (rowG (zs nL (t + s))) rfl (own_out GS.out.own ((Out.refl wr).alloc _)) ⟨wr.heap.size, 0, none⟩ 1 [.int .u64 ((1000 * nL + (t + s) : Nat) : Int), .slice none 0 0] rfl rfl (news_new _ #[.int .u64 ((1000 * nL + (t + s) : Nat) : Int), .slice none 0 0] _ _ rfl) (by intro x hx; simp at hx; rcases hx with rfl | rfl <;> rfl) (by omega) (by have h1 := hsz9.out; have h2 := GS.out.chg.size; rw [size_alloc]; omega) ?_); intro g6 w6 hown6 hgrow6 hor6; obtain ⟨ga6, gc6, rfl, _, _⟩ := own_slice hown6; have Hgr6 := hidOf hgrow6; have Hown6 := hidOf hown6; have Hor6 := hidOf hor6; clear hown6 hgrow6 hor6)
                            go_roundw
                            case rel => exact ⟨s + 1, ga6, gc6, by first | rfl | simp, by first | rfl | simp, by omega, hidOf (GS.out.step ((Out.refl wr).alloc _) Hown6.out Hgr6.out Hor6.out)⟩
                            case measure => simp [intOf]; omega
                          · have hsI : ¬ (s : Int) < 9 := by omega
                            obtain rfl : s = 9 := by omega
                            have LR : Hid (wr.ownsRow w.heap.size 22 1 (.slice la nL lc) nL La) := hidOf (by
                              have h9 := own_chg M10.out.lr GS.out.chg (fun q hq hs => lv_rg M10.out.lr M10.out.vr hq hs)
                              rw [LL.out] at h9
                              exact h9)
                            have hszr : Hid (w.heap.size ≤ wr.heap.size) := hidOf (Nat.le_trans hsz9.out GS.out.chg.size)
                            go_wp2_with (at_builtin; go_loud (refine wpList_append_own_at _ rfl (.tmp 142) (.tmp 145) 43 rfl w.heap.size 22 iRS _ 1 24 Tryz.underlying43 hiRS hy0 hy1 hy2 rfl (by decide) (.slice la nL lc) nL La rfl (owns_alloc LR.out _) ⟨wr.heap.size, 0, none⟩ 2 2 [.slice va t vc, .slice ga (t + 9) gc] rfl rfl (news_new _ #[.slice va t vc, .slice ga (t + 9) gc] _ _ rfl) (by intro x hx; simp at hx; rcases hx with rfl | rfl <;> rfl) (by simp only [maxLen]; omega) (by omega) (by have h1 := hszr.out; rw [size_alloc]; omega) ?_); intro g6 w6 hown6 hgrow6 _ hor6; obtain ⟨ga6, gc6, rfl, _, _⟩ := own_slice hown6; have Hgr6 := hidOf hgrow6; have Hown6 := hidOf hown6; have Hor6 := hidOf hor6; clear hown6 hgrow6 hor6)
                            go_roundw
                            case rel =>
                              have c7 : Chg (fun q => (Value.slice la nL lc).ownBlock = some q) wr w6 := chg_grow ((Out.refl wr).alloc _) Hgr6.out
                              have hlb : ∀ q, (Value.slice ga6 (nL + 2) gc6).ownBlock = some q → (Value.slice la nL lc).ownBlock = some q ∨ wr.heap.size ≤ q := fun q hq => by
                                rcases Hor6.out with e | e
                                · exact .inl (by rw [← e]; exact hq)
                                · rw [e] at hq
                                  cases hq
                                  exact .inr (by rw [size_alloc]; omega)
                              have hsv := M10.out.shelve (q := nL) (gn := t + 9) (by rw [LL.out]; exact hnL) LL.out.symm GS.out.chg GS.out.own GS.out.gb GS.out.vc GS.out.vt (by omega) (by omega) c7 (by rw [LL.out]; exact Hown6.out) hlb
                              exact ⟨2, nL + 2, ga6, gc6, m2, La ++ [.slice va t vc, .slice ga (t + 9) gc], c0', c1', by first | rfl | simp, by first | rfl | simp, by omega, hidOf (by rw [List.length_append, LL.out]; rfl), by omega, by omega, by omega, hm2a, by omega, hidOf hsv⟩
                            case measure => first | (simp [intOf]; done) | (simp [intOf]; omega)
            · have hz5b : (zk != 5) = true := by simp [hz5]
              clear HBK
              go_wp2
              go_roundw
              case rel => exact ⟨2, nL, la, lc, m, La, c0, c1, rfl, by first | rfl | simp, by omega, LL, hnL, by omega, by omega, hm1, by omega, MR⟩
              case measure => simp [intOf]
          · have hk1b : ((k : Int) == 1) = false := by rw [beq_eq_false_iff_ne]; omega
            have hask : ∃ (yw yk : Int) (ya : Nat) (yN : Int) (yx : Nat) (yp : Option Addr) (yc : Nat) (yd : List UInt8), AcOk ⟨yw, yk, ya, yN, yx, yp, yc, yd⟩ ∧ RestAt w.heap.size w yp yd ∧ (yk = 1 → k = 0) ∧ wr.cell? ⟨b, k * 6, none⟩ = some (.int .i64 yw) ∧ wr.cell? ⟨b, k * 6 + 1, none⟩ = some (.int .i64 yk) ∧ wr.cell? ⟨b, k * 6 + 2, none⟩ = some (.int .u64 ya) ∧ wr.cell? ⟨b, k * 6 + 3, none⟩ = some (.int .i64 yN) ∧ wr.cell? ⟨b, k * 6 + 4, none⟩ = some (.int .u64 yx) ∧ wr.cell? ⟨b, k * 6 + 5, none⟩ = some (.slice yp yd.length yc) := by
              obtain rfl | rfl | rfl : k = 0 ∨ k = 2 ∨ k = 3 := by omega
              · exact ⟨zw, zk, za, zN, zx, zp, zc, zd, ZO.out, ZR.out, fun _ => rfl, (cell_B HBK _).trans rfl, (cell_B HBK _).trans rfl, (cell_B HBK _).trans rfl, (cell_B HBK _).trans rfl, (cell_B HBK _).trans rfl, by rw [← hzn.out]; exact (cell_B HBK _).trans rfl⟩
              · exact ⟨0, 7, 0, 0, 0, none, 0, [], ⟨by decide, by decide, by decide, by decide⟩, .inl rfl, fun h => by omega, (cell_B HBK _).trans rfl, (cell_B HBK _).trans rfl, (cell_B HBK _).trans rfl, (cell_B HBK _).trans rfl, (cell_B HBK _).trans rfl, (cell_B HBK _).trans rfl⟩
              · exact ⟨0, 7, 0, 0, 0, none, 0, [], ⟨by decide, by decide, by decide, by decide⟩, .inl rfl, fun h => by omega, (cell_B HBK _).trans rfl, (cell_B HBK _).trans rfl, (cell_B HBK _).trans rfl, (cell_B HBK _).trans rfl, (cell_B HBK _).trans rfl, (cell_B HBK _).trans rfl⟩
            obtain ⟨yw, yk, ya, yN, yx, yp, yc, yd, hyo, hyr, hyk, r0, r1, r2, r3, r4, r5⟩ := hask
            obtain ⟨yn, hyn⟩ : ∃ yn, Hid (yn = yd.length) := ⟨_, rfl⟩
            rw [← hyn.out] at r5
            obtain ⟨m2, hm2⟩ : ∃ m2, Hid (m2 = m + if yk = 1 then 1 else 0) := ⟨_, rfl⟩
            have hm2a : m2 ≤ n1 + i + 1 := by
              rw [hm2.out]
              split
              · have := hm0 (hyk (by assumption)); omega
              · omega
            have CA := hidOf (MR.out.act (by omega) ⟨yw, yk, ya, yN, yx, yp, yc, yd⟩ hyo hyr)
            unfold AcI.v actV at CA
            simp only at CA
            rw [← hyn.out, ← hm2.out] at CA
            clear HBK hyo hyr hyk MR
            go_upto_region 15 with (go_at_call 8; refine CA.out.mono ?_; rintro e w6 ⟨ub, ua, uc, va, vc, vR, rfl, hub, hbd, hvm, hm6⟩; have M6 := hidOf hm6; have HBD := hidOf hbd; clear hm6 hbd)
            obtain ⟨nu, hnu⟩ : ∃ nu, Hid (nu = ub.length) := ⟨_, rfl⟩
            obtain ⟨nv, hnv⟩ : ∃ nv, Hid (nv = vR.length) := ⟨_, rfl⟩
            rw [← hnu.out, ← hnv.out] at M6 ⊢
            rw [← hnu.out] at hub
            rw [← hnv.out] at hvm
            have ct := M6.out.total
            have hc0n := M6.out.c0nn
            have hc00 := hc0n.1
            have hc10 := hc0n.2
            clear CA r0 r1 r2 r3 r4 r5 hc0n
            by_cases hT : c1 > 4000
            · go_wp2
              go_roundw
              case rel => exact ⟨k + 1, nL, la, lc, m2, La, c0, c1, rfl, by first | rfl | simp, by omega, LL, hnL, by omega, by omega, hm2a, by omega, hidOf M6.out.drop⟩
              case measure => first | (simp [intOf]; done) | (simp [intOf]; omega)
            · have hT2 : ¬ 4000 < c1 := hT
              have C7 := hidOf (M6.out.own (by rw [iB_len]; exact hnu.out.symm) (by omega) (9 * (i : Int) + (k : Int)) (by omega) (by omega) (by omega))
              go_upto_region 19 with (go_at_call 10; refine C7.out.mono ?_; rintro e w7 ⟨⟨r, rfl⟩, hm7⟩; have M7 := hidOf hm7; clear hm7)
              clear M6 C7 ct
              go_wp2
              go_loopw [15] (fun jv wr => ∃ (j : Nat) (c0' c1' : Int), jv = .int .i64 j ∧ j ≤ nv ∧ c0' = c0 + 1 + (j : Int) ∧ c1' ≤ 4000 + 1048576 * ((j : Int) + 1) ∧ Hid (OwM (fun k u => k = b ∧ u = #[.int .i64 zw, .int .i64 zk, .int .u64 za, .int .i64 zN, .int .u64 zx, .slice zp zn zc, .int .i64 zw, .int .i64 zk, .int .u64 za, .int .i64 zN, .int .u64 zx, .slice zp zn zc, .int .i64 0, .int .i64 7, .int .u64 0, .int .i64 0, .int .u64 0, .slice none 0 0, .int .i64 0, .int .i64 7, .int .u64 0, .int .i64 0, .int .u64 0, .slice none 0 0]) w wr d p m2 c0' c1' (.slice la nL lc) La (fB (vR.drop j)) (.slice va nv vc) nv (rowG vR))) (fun jv _ => nv - (intOf jv).toNat)
              case atStart => exact ⟨0, c0 + 1, c1 + nu, rfl, Nat.zero_le _, by omega, by omega, M7⟩
              case round =>
                clear M7
                obtain ⟨j, c0', c1', rfl, hj, hc0e, hc1e, MJ⟩ := hrel
                by_cases hjn : j < nv
                · have hlt9 : (j : Int) < nv := by omega
                  obtain ⟨y, hy⟩ : ∃ y, vR[j]? = some y := ⟨_, List.getElem?_eq_getElem (by rw [← hnv.out]; exact hjn)⟩
                  obtain ⟨vb, c9, e, _, _⟩ := MJ.out.vr.form (by omega)
                  simp only [Value.slice.injEq] at e
                  obtain ⟨rfl, _, rfl⟩ := e
                  have q1 := (own_cellK MJ.out.vr (rowG_get hy).2).1
                  have hyb := HBD.out (fdR y) (List.mem_map.2 ⟨y, List.mem_of_getElem? hy, rfl⟩)
                  simp only [fdR] at hyb
                  have hdj : fB (vR.drop j) = (daV y, iB y.d) :: fB (vR.drop (j + 1)) := by
                    have hjl := (List.getElem?_eq_some_iff.1 hy)
                    obtain ⟨h1, h2⟩ := hjl
                    rw [List.drop_eq_getElem_cons h1, h2]; rfl
                  rw [hdj] at MJ
                  unfold daV at q1 MJ
                  have C8 := hidOf (MJ.out.own (iB_len _) (by omega) (100 * (i : Int) + (k : Int) + (j : Int)) (by omega) (by omega) (by omega))
                  obtain ⟨yn, hyn⟩ : ∃ yn, Hid (yn = y.d.length) := ⟨_, rfl⟩
                  obtain ⟨ya, hya⟩ : ∃ ya : Option Addr, Hid (ya = y.a.map fun b => ⟨b, 0, none⟩) := ⟨_, rfl⟩
                  obtain ⟨yc, hyc⟩ : ∃ yc, Hid (yc = y.c) := ⟨_, rfl⟩
                  rw [← hyn.out, ← hya.out, ← hyc.out] at q1 C8
                  rw [← hyn.out] at hyb
                  clear hy hdj MJ
                  go_wp2_with (go_at_call 10; refine C8.out.mono ?_; rintro e w8 ⟨⟨r, rfl⟩, hm8⟩; have M8 := hidOf hm8; clear hm8)
                  go_roundw
                  case rel => exact ⟨j + 1, c0' + 1, c1' + yn, by first | rfl | simp, by omega, by omega, by omega, M8⟩
                  case measure => simp [intOf]; omega
                · have hlt9 : ¬ (j : Int) < nv := by omega
                  obtain rfl : j = nv := by omega
                  have M9 : Hid (OwM (fun k u => k = b ∧ u = #[.int .i64 zw, .int .i64 zk, .int .u64 za, .int .i64 zN, .int .u64 zx, .slice zp zn zc, .int .i64 zw, .int .i64 zk, .int .u64 za, .int .i64 zN, .int .u64 zx, .slice zp zn zc, .int .i64 0, .int .i64 7, .int .u64 0, .int .i64 0, .int .u64 0, .slice none 0 0, .int .i64 0, .int .i64 7, .int .u64 0, .int .i64 0, .int .u64 0, .slice none 0 0]) w wr d p m2 c0' c1' (.slice la nL lc) La [] (.slice va j vc) j (rowG (zs nL 0 ++ vR.drop 0))) := hidOf (by
                    have h9 := MJ.out
                    rw [List.drop_of_length_le (by rw [← hnv.out]; exact Nat.le_refl _)] at h9
                    exact h9)
                  clear MJ
                  go_wp2
                  go_loopw [16] (fun jv wr => ∃ t : Nat, jv = .int .i64 t ∧ t ≤ j ∧ Hid (OwM (fun k u => k = b ∧ u = #[.int .i64 zw, .int .i64 zk, .int .u64 za, .int .i64 zN, .int .u64 zx, .slice zp zn zc, .int .i64 zw, .int .i64 zk, .int .u64 za, .int .i64 zN, .int .u64 zx, .slice zp zn zc, .int .i64 0, .int .i64 7, .int .u64 0, .int .i64 0, .int .u64 0, .slice none 0 0, .int .i64 0, .int .i64 7, .int .u64 0, .int .i64 0, .int .u64 0, .slice none 0 0]) w wr d p m2 c0' c1' (.slice la nL lc) La [] (.slice va j vc) j (rowG (zs nL t ++ vR.drop t)))) (fun jv _ => j - (intOf jv).toNat)
                  case atStart => exact ⟨0, rfl, Nat.zero_le _, M9⟩
                  case round =>
                    clear M9
                    obtain ⟨t, rfl, ht9, MT⟩ := hrel
                    by_cases htn : t < j
                    · have htI : (t : Int) < j := by omega
                      obtain ⟨vb, c9, e, _, _⟩ := MT.out.vr.form (by omega)
                      simp only [Value.slice.injEq] at e
                      obtain ⟨rfl, _, rfl⟩ := e
                      have hll : (zs nL t ++ vR.drop t).length = j := by rw [List.length_append, zs_len, List.length_drop, ← hnv.out]; omega
                      obtain ⟨y, hy⟩ : ∃ y, (zs nL t ++ vR.drop t)[t]? = some y := ⟨_, List.getElem?_eq_getElem (by rw [hll]; exact htn)⟩
                      obtain ⟨q0, f0⟩ := own_cellK MT.out.vr (rowG_get hy).1
                      obtain ⟨q1, f1⟩ := own_cellK MT.out.vr (rowG_get hy).2
                      have HLL := hidOf hll
                      clear hy hll
                      go_wp2
                      go_roundw
                      case rel =>
                        have h9 := own_setG MT.out.vr HLL.out htn ⟨1000 * nL + t, none, 0, []⟩
                        rw [zs_set hnv.out.symm htn] at h9
                        have hown : ((wr.setCell ⟨vb, t * 2, none⟩ (.int .u64 (1000 * (nL : Int) + (t : Int)))).setCell ⟨vb, t * 2 + 1, none⟩ (.slice none 0 0)).ownsRow w.heap.size 36 2 (.slice (some ⟨vb, 0, none⟩) j vc) j (rowG (zs nL (t + 1) ++ vR.drop (t + 1))) := by
                          rw [show (1000 * (nL : Int) + (t : Int)) = ((1000 * nL + t : Nat) : Int) by omega]
                          exact h9
                        exact ⟨t + 1, by first | rfl | simp, by omega, hidOf (MT.out.set (((Chg.refl (fun q => (Value.slice (some ⟨vb, 0, none⟩) j vc).ownBlock = some q) wr).setCell (p := ⟨vb, t * 2, none⟩) rfl _).setCell (p := ⟨vb, t * 2 + 1, none⟩) rfl _) hown)⟩
                      case measure => simp [intOf]; omega
                    · have htI : ¬ (t : Int) < j := by omega
                      obtain rfl : t = j := by omega
                      have M10 : Hid (OwM (fun k u => k = b ∧ u = #[.int .i64 zw, .int .i64 zk, .int .u64 za, .int .i64 zN, .int .u64 zx, .slice zp zn zc, .int .i64 zw, .int .i64 zk, .int .u64 za, .int .i64 zN, .int .u64 zx, .slice zp zn zc, .int .i64 0, .int .i64 7, .int .u64 0, .int .i64 0, .int .u64 0, .slice none 0 0, .int .i64 0, .int .i64 7, .int .u64 0, .int .i64 0, .int .u64 0, .slice none 0 0]) w wr d p m2 c0' c1' (.slice la nL lc) La [] (.slice va t vc) t (rowG (zs nL t))) := hidOf (by
                        have h9 := MT.out
                        rw [List.drop_of_length_le (by rw [← hnv.out]; exact Nat.le_refl _), List.append_nil] at h9
                        exact h9)
                      clear MT
                      obtain ⟨w9, hw9⟩ : ∃ w9, w9 = wr := ⟨_, rfl⟩
                      have H9 := hidOf hw9
                      have G0 : Hid (Gw w.heap.size w9 w9 (.slice va t vc) t nL (.slice va t vc) 0) := hidOf (by rw [hw9]; exact Gw.start M10.out.vr)
                      have hsz9 : Hid (w.heap.size ≤ w9.heap.size) := hidOf (by rw [hw9]; exact M10.out.out.size)
                      rw [← hw9] at M10
                      clear hw9
                      go_wp2
                      go_loopw [17, 18] (fun gv jv wr => ∃ (s : Nat) (ga : Option Addr) (gc : Nat), gv = .slice ga (t + s) gc ∧ jv = .int .i64 s ∧ s ≤ 9 ∧ Hid (Gw w.heap.size w9 wr (.slice va t vc) t nL (.slice ga (t + s) gc) s)) (fun _ jv _ => 9 - (intOf jv).toNat)
                      case atStart => exact ⟨0, va, vc, rfl, rfl, Nat.zero_le _, by rw [← H9.out]; exact G0⟩
                      case round =>
                        clear H9
                        obtain ⟨s, ga, gc, rfl, rfl, hs9, GS⟩ := hrel
                        by_cases hs : s < 9
                        · have hsI : (s : Int) < 9 := by omega
                          go_wp2_with (at_builtin; go_loud (refine wpList_append_or rfl (.tmp 131) (.tmp 140) rfl w.heap.size (.slice ga (t + s) gc) (t + s) (rowG (zs nL (t + s))) rfl (own_out GS.out.own ((Out.refl wr).alloc _)) ⟨wr.heap.size, 0, none⟩ 1 [.int .u64 ((1000 * nL + (t + s) : Nat) : Int), .slice none 0 0] rfl rfl (news_new _ #[.int .u64 ((1000 * nL + (t + s) : Nat) : Int), .slice none 0 0] _ _ rfl) (by intro x hx; simp at hx; rcases hx with rfl | rfl <;> rfl) (by omega) (by have h1 := hsz9.out; have h2 := GS.out.chg.size; rw [size_alloc]; omega) ?_); intro g6 w6 hown6 hgrow6 hor6; obtain ⟨ga6, gc6, rfl, _, _⟩ := own_slice hown6; have Hgr6 := hidOf hgrow6; have Hown6 := hidOf hown6; have Hor6 := hidOf hor6; clear hown6 hgrow6 hor6)
                          go_roundw
                          case rel => exact ⟨s + 1, ga6, gc6, by first | rfl | simp, by first | rfl | simp, by omega, hidOf (GS.out.step ((Out.refl wr).alloc _) Hown6.out Hgr6.out Hor6.out)⟩
                          case measure => simp [intOf]; omega
                        · have hsI : ¬ (s : Int) < 9 := by omega
                          obtain rfl : s = 9 := by omega
                          have LR : Hid (wr.ownsRow w.heap.size 22 1 (.slice la nL lc) nL La) := hidOf (by
                            have h9 := own_chg M10.out.lr GS.out.chg (fun q hq hs => lv_rg M10.out.lr M10.out.vr hq hs)
                            rw [LL.out] at h9
                            exact h9)
                          have hszr : Hid (w.heap.size ≤ wr.heap.size) := hidOf (Nat.le_trans hsz9.out GS.out.chg.size)
                          go_wp2_with (at_builtin; go_loud (refine wpList_append_own_at _ rfl (.tmp 142) (.tmp 145) 43 rfl w.heap.size 22 iRS _ 1 24 Tryz.underlying43 hiRS hy0 hy1 hy2 rfl (by decide) (.slice la nL lc) nL La rfl (owns_alloc LR.out _) ⟨wr.heap.size, 0, none⟩ 2 2 [.slice va t vc, .slice ga (t + 9) gc] rfl rfl (news_new _ #[.slice va t vc, .slice ga (t + 9) gc] _ _ rfl) (by intro x hx; simp at hx; rcases hx with rfl | rfl <;> rfl) (by simp only [maxLen]; omega) (by omega) (by have h1 := hszr.out; rw [size_alloc]; omega) ?_); intro g6 w6 hown6 hgrow6 _ hor6; obtain ⟨ga6, gc6, rfl, _, _⟩ := own_slice hown6; have Hgr6 := hidOf hgrow6; have Hown6 := hidOf hown6; have Hor6 := hidOf hor6; clear hown6 hgrow6 hor6)
                          go_roundw
                          case rel =>
                            have c7 : Chg (fun q => (Value.slice la nL lc).ownBlock = some q) wr w6 := chg_grow ((Out.refl wr).alloc _) Hgr6.out
                            have hlb : ∀ q, (Value.slice ga6 (nL + 2) gc6).ownBlock = some q → (Value.slice la nL lc).ownBlock = some q ∨ wr.heap.size ≤ q := fun q hq => by
                              rcases Hor6.out with e | e
                              · exact .inl (by rw [← e]; exact hq)
                              · rw [e] at hq
                                cases hq
                                exact .inr (by rw [size_alloc]; omega)
                            have hsv := M10.out.shelve (q := nL) (gn := t + 9) (by rw [LL.out]; exact hnL) LL.out.symm GS.out.chg GS.out.own GS.out.gb GS.out.vc GS.out.vt (by omega) (by omega) c7 (by rw [LL.out]; exact Hown6.out) hlb
                            exact ⟨k + 1, nL + 2, ga6, gc6, m2, La ++ [.slice va t vc, .slice ga (t + 9) gc], c0', c1', by first | rfl | simp, by first | rfl | simp, by omega, hidOf (by rw [List.length_append, LL.out]; rfl), by omega, by omega, by omega, hm2a, by omega, hidOf hsv⟩
                          case measure => first | (simp [intOf]; done) | (simp [intOf]; omega)
        · obtain rfl : k = 4 := by omega
          have hKi := hKn.out (i + 1) (by omega)
          have hKs1 := hKs.out i
          have hKu := hK.out
          have HC := hidOf (MR.out.holds (by omega))
          have hnext : c0 ≤ ((K * (i + 1) : Nat) : Int) := by omega
          have htm : (i : Int).tmod 4 = (i : Int) % 4 := Int.tmod_eq_emod_of_nonneg (by omega)
          cases h4 : ((i : Int) % 4 == 3) with
          | true =>
            have h5 : ((i : Int).tmod 4 == 3) = true := by rw [htm]; exact h4
            clear htm
            go_upto_region 8 with (go_at_call 11; refine HC.out.mono ?_; rintro e w8 ⟨rfl, hm8⟩; have M8 := hidOf hm8; clear hm8)
            go_wp2
            go_roundw
            case rel => exact ⟨i + 1, nL, la, lc, m, La, c0, c1, _, rfl, by first | rfl | simp, by omega, LL, hnL, by omega, by omega, hnext, M8⟩
            case measure => simp [intOf]; omega
          | false =>
            have h5 : ((i : Int).tmod 4 == 3) = false := by rw [htm]; exact h4
            clear htm
            go_wp2
            go_roundw
            case rel => exact ⟨i + 1, nL, la, lc, m, La, c0, c1, _, rfl, by first | rfl | simp, by omega, LL, hnL, by omega, by omega, hnext, MR⟩
            case measure => simp [intOf]; omega
    · have hlt : ¬ (i : Int) < n3 := by omega
      obtain rfl : i = n3 := by omega
      have hKi := hKn.out i (by omega)
      have hTT := HT.out
      obtain ⟨Y, hLs⟩ := MR.out.lists
      have LR0 : wr.ownsRow w.heap.size 22 1 (.slice la nL lc) nL La := by have h9 := MR.out.lr; rw [LL.out] at h9; exact h9
      obtain ⟨wE, hwE⟩ : ∃ wE, wE = wr := ⟨_, rfl⟩
      have HE := hidOf hwE
      rw [← hwE] at hLs LR0 MR
      have LS := hidOf hLs
      have LR := hidOf LR0
      clear hwE hLs LR0
      go_wp2
      go_loopw [19] (fun kv wr => ∃ k : Nat, kv = .int .i64 k ∧ k ≤ nL ∧ Hid (Out wE wr)) (fun kv _ => nL - (intOf kv).toNat)
      case atStart => exact ⟨0, rfl, Nat.zero_le _, by rw [← HE.out]; exact hidOf (Out.refl _)⟩
      case round =>
        clear HE
        obtain ⟨k, rfl, hk, OK⟩ := hrel
        by_cases hkn : k < nL
        · have hkI : (k : Int) < nL := by omega
          obtain ⟨v, hv⟩ : ∃ v, La[k]? = some v := ⟨_, List.getElem?_eq_getElem (by rw [LL.out]; exact hkn)⟩
          obtain ⟨a2, n2, c2, rfl, hn2, hcells⟩ := LS.out k v hv
          obtain ⟨lb, lc', e⟩ := row_form LR.out (by omega)
          simp only [Value.slice.injEq] at e
          obtain ⟨rfl, _, rfl⟩ := e
          have HQ : Hid (wE.cell? ⟨lb, k, none⟩ = some (.slice a2 n2 c2)) := hidOf (row_cell LR.out hv)
          have q1 := cell_later OK.out HQ.out
          have HC := hidOf hcells
          clear hv hcells
          have hk0 : (0 : Int) ≤ (k : Int) := by omega
          have hk64 : (k : Int) < 18446744073709551616 := by omega
          go_wp2
          go_loopw [20] (fun jv wr => ∃ j : Nat, jv = .int .i64 j ∧ j ≤ n2 ∧ Hid (Out wE wr)) (fun jv _ => n2 - (intOf jv).toNat)
          case atStart => exact ⟨0, rfl, Nat.zero_le _, OK⟩
          case round =>
            obtain ⟨j, rfl, hj, OJ⟩ := hrel
            have q2 := cell_later OJ.out HQ.out
            by_cases hjn : j < n2
            · have hjI : (j : Int) < n2 := by omega
              obtain ⟨g, rfl, _, e0, e1⟩ := HC.out j hjn
              rw [show (((1000 * (2 * (k / 2)) + j : Nat) : Nat) : Int) = 1000 * ((k : Int) / 2 * 2) + (j : Int) by omega] at e0
              have f0 := cell_later OJ.out e0
              have f1 := cell_later OJ.out e1
              clear e0 e1
              go_wp2
              go_roundw
              case rel => exact ⟨j + 1, by first | rfl | simp, by omega, OJ⟩
              case measure => simp [intOf]; omega
            · have hjI : ¬ (j : Int) < n2 := by omega
              go_wp2
              go_roundw
              case rel => exact ⟨k + 1, by first | rfl | simp, by omega, OJ⟩
              case measure => simp [intOf]; omega
        · have hkI : ¬ (k : Int) < nL := by omega
          have M1 := hidOf (MR.out.outW OK.out)
          have TC := hidOf (M1.out.together (by omega))
          go_upto_region 44 with (go_at_call 12; refine TC.out.mono ?_; rintro e w7 ⟨rfl, hm7⟩; have M7 := hidOf hm7; clear hm7)
          have CA := hidOf (M7.out.act (by omega) ⟨0, 7, 0, 0, 0, none, 0, []⟩ ⟨by decide, by decide, by decide, by decide⟩ (.inl rfl))
          unfold AcI.v actV at CA
          simp only [List.length_nil] at CA
          go_upto_region 45 with (go_at_call 8; refine CA.out.mono ?_; rintro e w8 ⟨ub, ua, uc, va, vc, vR, rfl, _, _, _, hm8⟩; have M8 := hidOf hm8; clear hm8)
          have HC := hidOf (M8.out.holds (by omega))
          go_wp2_with (first | (go_at_call 9; refine (AWC.out _).mono ?_; rintro e w10 ⟨rfl, ho10⟩; have O10 := hidOf (M9.out.out.trans ho10); clear ho10) | (go_at_call 11; refine HC.out.mono ?_; rintro e w9 ⟨rfl, hm9⟩; have M9 := hidOf hm9; clear hm9))
          go_ret
          exact ⟨rfl, O10.out⟩
end Go.Proofs.YtekjfbmebekmeaaGreat
