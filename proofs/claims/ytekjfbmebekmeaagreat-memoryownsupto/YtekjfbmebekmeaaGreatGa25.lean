import Derived.Test.YtekjfbmebekmeaaGreatGa24
import Derived.Laws.MakeOwn
namespace Go.Proofs.YtekjfbmebekmeaaGreat
open Go.RowKit
set_option linter.unusedVariables false
set_option linter.unusedSimpArgs false
theorem fold_byV (O : List UInt8) : ∀ r : ByteArray, (O.map (fun b => (b.toNat : Int))).foldl (fun r n => r.push (UInt8.ofNat n.toNat)) r = ⟨r.data ++ O.toArray⟩ := by
  induction O with
  | nil => intro r; simp
  | cons b l ih =>
    intro r
    rw [List.map_cons, List.foldl_cons, ih]
    simp [ByteArray.push]
theorem conv_any {w : World} {a : Option Addr} {d : List UInt8} (h : RestA w a d) (n : Nat) (hn : n = d.length) (cap : Nat) : (convert 29 9 (.slice a n cap)).run Tryz.prog w = .ok (.string ⟨d.toArray⟩) w := by
  subst hn
  have key : ∀ ad : Addr, (∀ j u, (d.map byV)[j]? = some u → w.cell? (ad.add j) = some u) → (convert 29 9 (.slice (some ad) d.length cap)).run Tryz.prog w = .ok (.string ⟨d.toArray⟩) w := by
    intro ad hc
    rw [run_convert_bytes_string w 29 9 5 (some ad) d.length cap Tryz.underlying29 Tryz.underlying5 Tryz.underlying9]
    have h1 := run_loadCells_list (P := Tryz.prog) w ad (d.map byV) hc
    rw [List.length_map] at h1
    rw [run_bytesToString w ad d.length cap (d.map (fun b => (b.toNat : Int))) (by rw [show (d.map (fun b => (b.toNat : Int))).map (Value.int .u8) = d.map byV from by simp [byV]]; exact h1), fold_byV]
    simp
  rcases h with rfl | ⟨ad, rfl, hc⟩
  · cases a with
    | none =>
      rw [run_convert_bytes_string w 29 9 5 none _ _ Tryz.underlying29 Tryz.underlying5 Tryz.underlying9]
      rfl
    | some ad => exact key ad (fun j u hj => by simp at hj)
  · exact key ad hc
theorem owns_rowB {w : World} {B g n : Nat} {e : TypeId} {f : Nat → Value} {xs : List Value} (h : w.rowIs g e n f) (hB : B ≤ g) (hn : n ≤ maxLen) (hx : xs.length = n) (hf : ∀ j, j < n → xs[j]? = some (f j)) : w.ownsRow B e 1 (.slice (some ⟨g, 0, none⟩) n n) n xs := by
  obtain ⟨c, hb, hs, hc⟩ := h
  refine ⟨by omega, .inr ⟨g, n, c, rfl, hB, hb, Nat.le_refl _, hn, by omega, ?_⟩⟩
  apply List.ext_getElem?
  intro j
  rw [Nat.mul_one, List.getElem?_take]
  by_cases hj : j < n
  · rw [if_pos hj, hf j hj, ← hc j hj]; simp
  · rw [if_neg hj, List.getElem?_eq_none (by omega)]
theorem spare_any (w : World) (k : Nat) (hk : k ≤ 10000000000000) : Calls Tryz.prog 76 #[.int .i64 k] w fun e w' => ∃ g, e = .returned (.slice (some ⟨g, 0, none⟩) (k + 70 : Nat) (k + 70 : Nat)) ∧ w'.ownsRow w.heap.size 5 1 (.slice (some ⟨g, 0, none⟩) (k + 70 : Nat) (k + 70 : Nat)) (k + 70) ((spB k).map byV) ∧ Out w w' := by
  obtain ⟨n, hnH⟩ : ∃ n, Hid (n = k + 70) := ⟨_, rfl⟩
  have hw : IntKind.i64.wrap ((k : Int) + 70) = (n : Int) := by have := hnH.out; rw [IntKind.wrap_i64]; omega
  have hn9 : n ≤ 20000000000000 := by have := hnH.out; omega
  rw [← hnH.out]
  have hmk := run_make_row' (P := Tryz.prog) 29 5 (.int .u8 0) 1 Tryz.underlying29 info8 rfl .i64 .i64 n (by omega) (by omega)
  go_enter Tryz.func76, Tryz.ntmps76
  go_wp2
  clear hmk
  go_loopw [4] (fun i wr => ∃ j : Nat, j ≤ n ∧ i = .int .i64 j ∧ Hid (wr.rowIs w.heap.size 5 n (fun x => if x < j then .int .u8 ((201 - 3 * x) % 256) else .int .u8 0)) ∧ Hid (Out w wr)) (fun i _ => (n + 1 - intOf i).toNat)
  case atStart => exact ⟨0, by omega, rfl, by simpa [Hid] using World.rowIs_made w (.int .u8 0) n 5, hidOf (Out.alloc (Out.refl _) _)⟩
  case round =>
    obtain ⟨j, hj, rfl, Hrow, Hor⟩ := hrel
    by_cases hjk : j < n
    · have hc := Hrow.out.cell hjk
      have hf := Hrow.out.frozen j
      have hlt : (j : Int) < n := by omega
      have hb : (3 : Int) * (j : Int) ≤ 700000000000000 := by omega
      have hw2 : IntKind.i64.wrap (3 * (j : Int)) = 3 * (j : Int) := by rw [IntKind.wrap_i64]; omega
      have hw3 : IntKind.i64.wrap (201 - 3 * (j : Int)) = 201 - 3 * (j : Int) := by rw [IntKind.wrap_i64]; omega
      go_wp2
      go_roundw
      case rel =>
        refine ⟨j + 1, by omega, by simp, ?_, hidOf (Hor.out.setCell (a := ⟨w.heap.size, j, none⟩) (Nat.le_refl _) _)⟩
        refine (Hrow.out.set j _).congr (fun x hx => ?_)
        by_cases hxj : x = j
        · subst hxj; simp
        · simp only [hxj, if_false]
          by_cases hx2 : x < j
          · rw [if_pos hx2, if_pos (by omega)]
          · rw [if_neg hx2, if_neg (by omega)]
      case measure => simp [intOf]; omega
    · have hlt : ¬ (j : Int) < n := by omega
      obtain rfl : j = n := by omega
      go_wp2
      go_ret
      refine ⟨w.heap.size, rfl, ?_, Hor.out⟩
      have hn := hnH.out
      refine owns_rowB Hrow.out (Nat.le_refl _) (by simp only [maxLen]; omega) (by simp [spB_len, hn]) (fun x hx => ?_)
      have h2 : x < k + 70 := by omega
      simp [spB, hx, h2, byV, spU_val]
theorem rest_own {B n g cap : Nat} {w : World} {d : List UInt8} (h : w.ownsRow B 5 1 (.slice (some ⟨g, 0, none⟩) n cap) n (d.map byV)) (o : Nat) (e : List UInt8) (he : ∀ j x, e[j]? = some x → d[o + j]? = some x) : RestA w (some ⟨g, o, none⟩) e :=
  .inr ⟨⟨g, o, none⟩, rfl, fun j u hj => by
    rw [add_B]
    rw [List.getElem?_map] at hj
    cases hx : e[j]? with
    | none => rw [hx] at hj; cases hj
    | some x =>
      rw [hx] at hj
      cases hj
      exact (own_cellK h (show (d.map byV)[o + j]? = some (byV x) by rw [List.getElem?_map, he j x hx]; rfl)).1⟩
set_option maxHeartbeats 2000000 in
theorem spareOf_any (w : World) (a : Option Addr) (c : Nat) (d : List UInt8) (h : RestA w a d) (hd : d.length ≤ 10000000000000) :
    Calls Tryz.prog 43 #[.slice a d.length c] w fun e w' => ∃ g cap, e = .returned (.slice (some ⟨g, 0, none⟩) (2 * d.length + 70 : Nat) cap) ∧ w'.ownsRow w.heap.size 5 1 (.slice (some ⟨g, 0, none⟩) (2 * d.length + 70 : Nat) cap) (2 * d.length + 70) ((d ++ spB d.length).map byV) ∧ Out w w' := by
  obtain ⟨i0, hi0, hz0, hz1, hz2⟩ := info_parts info8
  obtain ⟨n, hn⟩ : ∃ n, Hid (n = d.length) := ⟨_, rfl⟩
  have CB := hidOf (copyB_any w a c d h (by omega))
  rw [← hn.out] at CB ⊢
  have HD := hidOf (show n ≤ 10000000000000 by rw [hn.out]; exact hd)
  obtain ⟨m2, hm2⟩ : ∃ m2, Hid (m2 = n + 70) := ⟨_, rfl⟩
  obtain ⟨n3, hn3⟩ : ∃ n3, Hid (n3 = n + m2) := ⟨_, rfl⟩
  have SC := hidOf (fun W => spare_any W n HD.out)
  rw [← hm2.out] at SC
  have hnn : Hid (n3 = 2 * n + 70) := hidOf (by have := hm2.out; have := hn3.out; omega)
  rw [← hnn.out]
  clear h hd
  go_enter Tryz.func43, Tryz.ntmps43
  go_upto_region 1 with fail
  go_wp2_with (first
    | (go_at_call 21; refine CB.out.mono ?_; rintro e w1 ⟨g1, c1, rfl, hown1, ho1⟩; have W1 := hidOf hown1; have O1 := hidOf ho1; clear hown1 ho1)
    | (go_at_call 76; refine (SC.out _).mono ?_; rintro e w2 ⟨g2, rfl, hown2, ho2⟩; have W2 := hidOf hown2; have O2 := hidOf ho2; (obtain ⟨v3, w3, hap, hown3, hgr3, hnil3, hbk3⟩ := run_append_own_at (P := Tryz.prog) w2 w.heap.size 29 29 5 i0 _ 1 1 Tryz.underlying29 hi0 hz0 hz1 hz2 rfl (by decide) (.slice (some ⟨g1, 0, none⟩) n c1) n (d.map byV) (own_out W1.out O2.out) ⟨g2, 0, none⟩ m2 m2 ((spB n).map byV) (by rw [List.length_map, spB_len, Nat.mul_one, hm2.out]) (fun j u hj => by rw [add_B, Nat.zero_add]; exact (own_cellK W2.out hj).1) (by intro u hu; obtain ⟨b, _, rfl⟩ := List.mem_map.1 hu; rfl) (by have := HD.out; have := hm2.out; simp only [maxLen]; omega) (by have := HD.out; have := hm2.out; omega) (O1.out.trans O2.out).size); (rw [← hn3.out] at hown3); (obtain ⟨a3, c3, rfl, _, hg3⟩ := own_slice hown3); (obtain ⟨g3, rfl⟩ := hg3 (by have := hnn.out; omega)); have HAP := hidOf hap; have W3 := hidOf hown3; have G3 := hidOf hgr3; clear hown2 ho2 hap hown3 hgr3 hnil3 hbk3 hg3)
    | (at_builtin; refine Lib.wpList_append_run _ rfl _ _ _ _ rfl _ _ rfl rfl _ _ HAP.out ?_))
  go_ret
  have hlt : ∀ b, (Value.slice (some (⟨g1, 0, none⟩ : Addr)) n c1).ownBlock = some b → w.heap.size ≤ b := fun b hb => (W1.out.lt b hb).1
  have h3 := W3.out
  rw [← List.map_append] at h3
  refine ⟨g3, c3, rfl, h3, Chg.out (Chg.of_grown G3.out (fun k hk => hk)) (O1.out.trans O2.out) (fun b hb => hlt b hb)⟩
set_option maxHeartbeats 4000000 in
set_option maxRecDepth 100000 in
theorem spareKept_any (w : World) (B g cap c : Nat) (a : Option Addr) (d : List UInt8) (hf : w.ownsRow B 5 1 (.slice (some ⟨g, 0, none⟩) (2 * d.length + 70 : Nat) cap) (2 * d.length + 70) ((d ++ spB d.length).map byV)) (h : RestA w a d) (hd : d.length ≤ 10000000000000) :
    Calls Tryz.prog 44 #[.slice (some ⟨g, 0, none⟩) (2 * d.length + 70 : Nat) cap, .slice a d.length c] w fun e w' => e = .returned (.bool true) ∧ Out w w' := by
  have hcap : 2 * d.length + 70 ≤ cap := by
    rcases hf.2 with ⟨he, _⟩ | ⟨g1, c1, cu, he, _, _, hle, _⟩
    · cases he
    · simp only [Value.slice.injEq] at he
      rw [he.2.2]; exact hle
  have r1 : RestA w (some ⟨g, 0, none⟩) d := rest_own hf 0 d (fun j x hx => by rw [Nat.zero_add, List.getElem?_append_left (List.getElem?_eq_some_iff.1 hx).1]; exact hx)
  have r2 : RestA w (some ⟨g, d.length, none⟩) (spB d.length) := rest_own hf d.length (spB d.length) (fun j x hx => by rw [List.getElem?_append_right (by omega), Nat.add_sub_cancel_left]; exact hx)
  obtain ⟨k, hk⟩ : ∃ k, Hid (k = d.length) := ⟨_, rfl⟩
  have C1 : Hid (∀ W, Out w W → (convert 29 9 (.slice (some ⟨g, 0, none⟩) k cap)).run Tryz.prog W = .ok (.string ⟨d.toArray⟩) W) := hidOf (fun W o => conv_any (r1.out o) k hk.out cap)
  have C2 : Hid (∀ W, Out w W → (convert 29 9 (.slice a k c)).run Tryz.prog W = .ok (.string ⟨d.toArray⟩) W) := hidOf (fun W o => conv_any (h.out o) k hk.out c)
  obtain ⟨n, hn⟩ : ∃ n, Hid (n = 2 * k + 70) := ⟨_, rfl⟩
  obtain ⟨m, hm⟩ : ∃ m, Hid (m = k + 70) := ⟨_, rfl⟩
  obtain ⟨cr, hcr⟩ : ∃ cr, Hid (cr = cap - k) := ⟨_, rfl⟩
  have C3 : Hid (∀ W, Out w W → (convert 29 9 (.slice (some ⟨g, k, none⟩) m cr)).run Tryz.prog W = .ok (.string ⟨(spB k).toArray⟩) W) := hidOf (fun W o => by rw [hk.out]; exact conv_any (r2.out o) m (by rw [spB_len, hm.out, hk.out]) cr)
  have HD := hidOf (show k ≤ 10000000000000 by rw [hk.out]; exact hd)
  have C4 := hidOf (fun W => spare_any W k HD.out)
  rw [← hm.out] at C4
  rw [← hk.out] at hcap
  rw [← hk.out, ← hn.out]
  rw [← hn.out] at hcap
  clear hf r1 r2 h hd
  obtain ⟨D, hD⟩ : ∃ D : ByteArray, Hid (D = ⟨d.toArray⟩) := ⟨_, rfl⟩
  obtain ⟨E, hE⟩ : ∃ E : ByteArray, Hid (E = ⟨(spB k).toArray⟩) := ⟨_, rfl⟩
  rw [← hD.out] at C1 C2
  rw [← hE.out] at C3
  have q1 := C1.out w.drew ((Out.refl w).drew)
  have q2 := C2.out w.drew ((Out.refl w).drew)
  have q3 := C3.out w.drew ((Out.refl w).drew)
  have hkb : k ≤ 10000000000000 := HD.out
  have hkn : k ≤ n := by have := hn.out; omega
  have hkn2 : (k : Int) ≤ (n : Int) := by omega
  have hkc : k ≤ cap := by omega
  have hkc2 : (k : Int) ≤ (cap : Int) := by omega
  have hne : ¬ (cap = k) := by have := hn.out; omega
  have w1 : IntKind.i64.wrap (2 * (k : Int)) = ((2 * k : Nat) : Int) := by rw [IntKind.wrap_i64]; omega
  have w2 : IntKind.i64.wrap (((2 * k : Nat) : Int) + 70) = (n : Int) := by have := hn.out; rw [IntKind.wrap_i64]; omega
  have w3 : n - k = m := by have := hn.out; have := hm.out; omega
  have w4 : cap - k = cr := hcr.out.symm
  generalize 2 * k = k2 at *
  go_enter Tryz.func44, Tryz.ntmps44
  go_upto_region 2 with fail
  refine wp_region_held_drew (S := (fun w' => (convert 29 9 (.slice (some ⟨g, 0, none⟩) k cap)).run Tryz.prog w' = .ok (.string D) w' ∧ (convert 29 9 (.slice a k c)).run Tryz.prog w' = .ok (.string D) w' ∧ (convert 29 9 (.slice (some ⟨g, k, none⟩) m cr)).run Tryz.prog w' = .ok (.string E) w')) (by kernel_rfl) ?_ (fun hHeld => ?_)
  · exact ⟨q1, q2, q3⟩
  refine tkLB [0, 1, 2, 3, 4, 5, 6, 7, 8, 9, 10, 11, 12, 13, 14, 15, 16, 17, 18, 19, 20] ?_
  iterate 21 (refine tkLC (v := ?_) rfl rfl (by kernel_rfl) (by kernel_rfl) (by kernel_rfl) (fun _ _ _ h => h) (by rfl) (by assumption) ?_ ?_; rotate_left; (· (intro w hSw; (try dsimp only at hSw); go_simp; (try with_reducible rfl))); simp only [Act.put, List.setIfInBounds_toArray, List.set_cons_zero, List.set_cons_succ])
  refine tkLE ?_
  refine wpAnyH_ready (rs := [21]) (by kernel_rfl) (by simp) ?_
  refine (AllReadyH.cons rfl (fun Ko21 hKo21 => ?_) AllReadyH.nil)
  rw [if_pos (by rfl)]
  go_simp
  go_at_call 76
  refine (C4.out _).mono ?_
  rintro e w2 ⟨g2, rfl, hown2, ho2⟩
  have W2 := hidOf hown2
  have O2 := hidOf ho2
  have OW : Hid (Out w w2) := hidOf ((Out.refl w).drew.trans ho2)
  have p1 := C1.out _ OW.out
  have p2 := C2.out _ OW.out
  have p3 := C3.out _ OW.out
  have p4 : (convert 29 9 (.slice (some ⟨g2, 0, none⟩) m m)).run Tryz.prog w2 = .ok (.string E) w2 := by rw [hE.out]; exact conv_any (rest_own W2.out 0 (spB k) (fun j x hx => by rw [Nat.zero_add]; exact hx)) m (by rw [spB_len, hm.out]) m
  clear hown2 ho2
  refine hKo21.out _ _ ⟨p1, p2, p3⟩ (fun hHeld21 => ?_)
  try simp only [Act.put, List.setIfInBounds_toArray, List.set_cons_zero, List.set_cons_succ]
  refine wpAnyH_ready (rs := [22]) (by kernel_rfl) (by simp) ?_
  refine (AllReadyH.cons rfl (fun Ko22 hKo22 => ?_) AllReadyH.nil)
  rw [if_pos (by rfl)]
  go_simp
  refine hKo22.out _ _ ⟨p1, p2, p3⟩ (fun hHeld22 => ?_)
  try simp only [Act.put, List.setIfInBounds_toArray, List.set_cons_zero, List.set_cons_succ]
  refine tkLB [23, 24, 25] ?_
  iterate 3 (refine tkLC (v := ?_) rfl rfl (by kernel_rfl) (by kernel_rfl) (by kernel_rfl) (fun _ _ _ h => h) (by rfl) (by assumption) ?_ ?_; rotate_left; (· (intro w hSw; (try dsimp only at hSw); go_simp; (try with_reducible rfl))); simp only [Act.put, List.setIfInBounds_toArray, List.set_cons_zero, List.set_cons_succ])
  refine tkLE ?_
  refine wpAnyH_done (by kernel_rfl) ?_ _
  go_wp2
  go_ret
  exact ⟨by first | rfl | simp, OW.out⟩
def RestAt (N : Nat) (w : World) (a : Option Addr) (l : List UInt8) : Prop := l = [] ∨ ∃ b off, b < N ∧ a = some ⟨b, off, none⟩ ∧ ∀ k x, l[k]? = some x → w.cell? ⟨b, off + k, none⟩ = some (.int .u8 (x.toNat : Int))
def bCells (O : List UInt8) : List Value := O.map (fun b => .int .u8 (b.toNat : Int))
theorem RestAt.a {N : Nat} {w : World} {a : Option Addr} {l : List UInt8} (h : RestAt N w a l) : RestA w a l := h.imp id (fun ⟨b, o, _, ha, hc⟩ => ⟨⟨b, o, none⟩, ha, fun j u hj => by
  rw [List.getElem?_map] at hj
  rw [add_B]
  cases hx : l[j]? with
  | none => rw [hx] at hj; cases hj
  | some x => rw [hx] at hj; cases hj; exact hc j x hx⟩)
theorem conv_rest {N : Nat} {w : World} {a : Option Addr} {l : List UInt8} (h : RestAt N w a l) (cap : Nat) : (convert 29 9 (.slice a l.length cap)).run Tryz.prog w = .ok (.string ⟨l.toArray⟩) w := conv_any h.a l.length rfl cap
def lmB (i : Nat) : UInt8 := UInt8.ofNat ((203 - 5 * (i : Int)) % 256).toNat
theorem lmB_val (i : Nat) : (203 - 5 * (i : Int)) % 256 = ((lmB i).toNat : Int) := by
  have h0 : 0 ≤ (203 - 5 * (i : Int)) % 256 := Int.emod_nonneg _ (by omega)
  have h1 : (203 - 5 * (i : Int)) % 256 < 256 := Int.emod_lt_of_pos _ (by omega)
  unfold lmB
  rw [UInt8.toNat_ofNat_of_lt' (by show _ < 256; omega)]
  omega
theorem lmark_any (p : Value) (i : Nat) (hi : i ≤ 1000000000000000) (w : World) : Calls Tryz.prog 55 #[p, .int .i64 i] w fun e w' => e = .returned (.int .u8 ((lmB i).toNat : Int)) ∧ w = w' := by
  have hv := lmB_val i
  go_enter Tryz.func55, Tryz.ntmps55
  go_wp2
  go_ret
  exact ⟨by rw [← hv]; rfl, rfl⟩
def lmsB (a k : Nat) : List UInt8 := (List.range' a k).map lmB
theorem lmsB_len (a k : Nat) : (lmsB a k).length = k := by simp [lmsB]
theorem lmsB_succ (a k : Nat) : lmsB a (k + 1) = lmsB a k ++ [lmB (a + k)] := by simp [lmsB, List.range'_concat]
def ov (A L : List UInt8) : List UInt8 := A ++ L.drop A.length
theorem ov_len {A L : List UInt8} (h : A.length ≤ L.length) : (ov A L).length = L.length := by simp [ov]; omega
theorem ov_nil (L : List UInt8) : ov [] L = L := by simp [ov]
theorem ov_set {A L : List UInt8} {k : Nat} (hk : A.length = k) (h : k < L.length) (x : UInt8) : (ov A L).set k x = ov (A ++ [x]) L := by
  subst hk
  unfold ov
  rw [List.set_append_right _ _ (Nat.le_refl _), Nat.sub_self, List.drop_eq_getElem_cons h, List.set_cons_zero]
  simp
structure LeC (w : World) (p po g m : Nat) (cs : Array Value) (N : Int) (L : List UInt8) : Prop where
  hp : w.heap[p]? = some (.cells cs 61 (0, 0))
  h0 : cs[po]? = some (.slice (some ⟨g, 0, none⟩) m m)
  h1 : cs[po + 1]? = some (.int .i64 N)
  hg : w.heap[g]? = some (.cells (bCells L).toArray 5 (0, 0))
  len_ : L.length = m
theorem cell_atL {w : World} {p : Nat} {cs : Array Value} {t : TypeId} (h : w.heap[p]? = some (.cells cs t (0, 0))) (j : Nat) : w.cell? ⟨p, j, none⟩ = cs[j]? := by simp [World.cell?, h]
theorem frozen_atL {w : World} {p : Nat} {cs : Array Value} {t : TypeId} (h : w.heap[p]? = some (.cells cs t (0, 0))) (j : Nat) : w.frozen? ⟨p, j, none⟩ = false := by simp [World.frozen?, h]
theorem set_atL {w : World} {p : Nat} {cs : Array Value} {t : TypeId} (h : w.heap[p]? = some (.cells cs t (0, 0))) (j : Nat) (u : Value) : (w.setCell ⟨p, j, none⟩ u).heap[p]? = some (.cells (cs.setIfInBounds j u) t (0, 0)) := by
  simp [World.setCell, Array.getElem?_modify, h]
theorem LeC.ne {w : World} {p po g m : Nat} {cs : Array Value} {N : Int} {L : List UInt8} (h : LeC w p po g m cs N L) : ¬ p = g := fun e => by
  have := h.hp; rw [e, h.hg] at this; simp at this
section
variable {w w' : World} {p po g m : Nat} {cs : Array Value} {N : Int} {L : List UInt8}
theorem LeC.c0 (h : LeC w p po g m cs N L) : w.cell? ⟨p, po, none⟩ = some (.slice (some ⟨g, 0, none⟩) m m) := by rw [cell_atL h.hp]; exact h.h0
theorem LeC.c1 (h : LeC w p po g m cs N L) : w.cell? ⟨p, po + 1, none⟩ = some (.int .i64 N) := by rw [cell_atL h.hp]; exact h.h1
theorem LeC.cell (h : LeC w p po g m cs N L) {k : Nat} {x : UInt8} (hx : L[k]? = some x) : w.cell? ⟨g, k, none⟩ = some (.int .u8 (x.toNat : Int)) := by
  rw [cell_atL h.hg]; simp [bCells, hx]
theorem LeC.fp (h : LeC w p po g m cs N L) (j : Nat) : w.frozen? ⟨p, j, none⟩ = false := frozen_atL h.hp j
theorem LeC.fg (h : LeC w p po g m cs N L) (j : Nat) : w.frozen? ⟨g, j, none⟩ = false := frozen_atL h.hg j
theorem LeC.ltp (h : LeC w p po g m cs N L) : p < w.heap.size := (Array.getElem?_eq_some_iff.1 h.hp).1
theorem LeC.ltg (h : LeC w p po g m cs N L) : g < w.heap.size := (Array.getElem?_eq_some_iff.1 h.hg).1
theorem LeC.drew (h : LeC w p po g m cs N L) : LeC w.drew p po g m cs N L := ⟨h.hp, h.h0, h.h1, h.hg, h.len_⟩
theorem LeC.drewN (h : LeC w p po g m cs N L) (n : Nat) : LeC (w.drewN n) p po g m cs N L := ⟨h.hp, h.h0, h.h1, h.hg, h.len_⟩
theorem LeC.out (h : LeC w p po g m cs N L) (o : Out w w') : LeC w' p po g m cs N L := ⟨(o.block p h.ltp).trans h.hp, h.h0, h.h1, (o.block g h.ltg).trans h.hg, h.len_⟩
theorem LeC.set (h : LeC w p po g m cs N L) (k : Nat) (x : UInt8) : LeC (w.setCell ⟨g, k, none⟩ (.int .u8 (x.toNat : Int))) p po g m cs N (L.set k x) := by
  refine ⟨?_, h.h0, h.h1, ?_, by simpa using h.len_⟩
  · rw [Below.heap_setCell _ _ _ _ h.ne]; exact h.hp
  · rw [set_atL h.hg]
    simp [bCells, List.map_set]
theorem LeC.setN (h : LeC w p po g m cs N L) (n : Int) : LeC (w.setCell ⟨p, po + 1, none⟩ (.int .i64 n)) p po g m (cs.setIfInBounds (po + 1) (.int .i64 n)) n L := by
  have hlt : po + 1 < cs.size := (Array.getElem?_eq_some_iff.1 h.h1).1
  refine ⟨?_, ?_, ?_, ?_, h.len_⟩
  · rw [set_atL h.hp]
  · rw [Array.getElem?_setIfInBounds_ne (by omega)]; exact h.h0
  · rw [Array.getElem?_setIfInBounds_self_of_lt hlt]
  · rw [Below.heap_setCell _ _ _ _ (fun e => h.ne e.symm)]; exact h.hg
end
def SL (p g k : Nat) : Prop := k = p ∨ k = g
theorem LeC.rest {w : World} {p po g m : Nat} {cs : Array Value} {N : Int} {l L : List UInt8} (h : LeC w p po g m cs N (l ++ L)) : RestAt w.heap.size w (some ⟨g, 0, none⟩) l :=
  .inr ⟨g, 0, h.ltg, rfl, fun k x hx => by rw [Nat.zero_add]; exact h.cell (by rw [List.getElem?_append_left (List.getElem?_eq_some_iff.1 hx).1]; exact hx)⟩
def LendC (w : World) (p po g m : Nat) (cs : Array Value) (l L : List UInt8) (e : Ending) (w' : World) : Prop :=
  e = .returned (.slice (some ⟨g, 0, none⟩) l.length (2 * l.length + 70)) ∧ LeC w' p po g m (cs.setIfInBounds (po + 1) (.int .i64 (l.length : Int))) l.length (l ++ (lmsB l.length (l.length + 70) ++ L.drop (2 * l.length + 70))) ∧ Chg (SL p g) w w'
theorem ov_end (l L : List UInt8) (k : Nat) (hk : k = 2 * l.length + 70) : ov (l ++ lmsB l.length (l.length + 70)) L = l ++ (lmsB l.length (l.length + 70) ++ L.drop (2 * l.length + 70)) := by
  unfold ov
  rw [List.append_assoc, List.length_append, lmsB_len, show l.length + (l.length + 70) = 2 * l.length + 70 by omega]
theorem take_snocL {l : List UInt8} {j : Nat} {y : UInt8} (h : l[j]? = some y) : l.take j ++ [y] = l.take (j + 1) := by
  rw [List.take_add_one, h]; rfl
theorem info1 : (Tryz.prog.info? 5).map (fun i => (i.zero, i.size, i.bytes)) = some (some (.int .u8 0), 1, 1) := by kernel_rfl
theorem made_bytes (N : Nat) : madeCells #[.int .u8 0] N = (bCells (List.replicate N 0)).toArray := by
  apply Array.ext_getElem?
  intro j
  simp only [madeCells, Array.getElem?_map, List.getElem?_toArray, bCells, List.getElem?_map, List.getElem?_replicate]
  by_cases hj : j < N
  · rw [if_pos hj, Array.getElem?_range, if_pos hj]
    simp [Nat.mod_one]
  · rw [if_neg hj, Array.getElem?_range, if_neg hj]; rfl
theorem run_make_bytes (n : Nat) (hn : n ≤ 281474976710656) (w : World) : (Instr.makeSlice 29 (.int .i64 (n : Int)) (.int .i64 (n : Int))).run Tryz.prog w = .ok (.slice (some ⟨w.heap.size, 0, none⟩) n n) (w.alloc (.cells (bCells (List.replicate n 0)).toArray 5)) := by
  obtain ⟨i0, hi, hz0, hz1, hz2⟩ := info_parts info1
  have h := run_make (P := Tryz.prog) w 29 5 i0 _ Tryz.underlying29 hi hz0 .i64 .i64 (n : Int) (n : Int) (by omega) (Int.le_refl _) (by rw [hz2]; omega) (by omega)
  rw [hz1] at h
  simp only [Int.toNat_natCast, Value.cells, Nat.mul_one] at h
  rw [h, made_bytes]
set_option maxRecDepth 20000 in
set_option maxHeartbeats 3000000 in
theorem lendC_again (B : Nat) (W : World) (p po g m : Nat) (cs : Array Value) (N : Int) (L : List UInt8) (h : LeC W p po g m cs N L) (a : Option Addr) (cap : Nat) (l : List UInt8) (hr : RestAt B W a l) (hbp : ¬ l = [] → ∀ ad, a = some ad → ¬ ad.block = p) (hbg : ¬ l = [] → ∀ ad, a = some ad → ¬ ad.block = g) (hm : 2 * l.length + 70 ≤ m) (hll : l.length ≤ 100000000000000) :
    Calls Tryz.prog 54 #[.pointer (some ⟨p, po, none⟩), .slice a l.length cap] W fun e w' => LendC W p po g m cs l L e w' := by
  have H := hidOf h
  have HR := hidOf hr
  have hBp := hidOf hbp
  have hBg := hidOf hbg
  have c0 := h.c0
  have hmI : ¬ (m : Int) < 2 * (l.length : Int) + 70 := by omega
  have hmN : l.length ≤ m := by omega
  clear h hr hbp hbg
  go_enter Tryz.func54, Tryz.ntmps54
  go_wp2
  clear c0
  have HC0 := hidOf (Chg.refl (SL p g) W)
  have Hll := hidOf hll
  go_loopw [5] (fun kv wr => ∃ (j : Nat) (A : List UInt8), kv = .int .i64 j ∧ j ≤ l.length ∧ Hid (A = l.take j) ∧ Hid (LeC wr p po g m cs N (ov A L)) ∧ Hid (Chg (SL p g) W wr)) (fun kv _ => l.length - (intOf kv).toNat)
  case atStart => exact ⟨0, [], rfl, by omega, hidOf rfl, by rw [ov_nil]; exact H, HC0⟩
  case round =>
    obtain ⟨j, A, rfl, hj, HA, HB, HC⟩ := hrel
    have hAl : Hid (A.length = j) := by rw [HA.out]; exact hidOf (by simp; omega)
    have hLl : Hid (L.length = m) := H.out.len_
    by_cases hlt : j < l.length
    · have hltI : (j : Int) < l.length := by omega
      obtain ⟨y, hy⟩ : ∃ y, l[j]? = some y := ⟨_, List.getElem?_eq_getElem hlt⟩
      obtain ⟨b, o, hb, rfl, hcx⟩ : ∃ b o, b < B ∧ a = some ⟨b, o, none⟩ ∧ ∀ k y, l[k]? = some y → W.cell? ⟨b, o + k, none⟩ = some (.int .u8 (y.toNat : Int)) := by
        rcases HR.out with h | h
        · rw [h] at hlt; simp at hlt
        · exact h
      have hl0 : ¬ l = [] := fun e => by rw [e] at hlt; simp at hlt
      have nb1 : ¬ b = p := hBp.out hl0 ⟨b, o, none⟩ rfl
      have nb2 : ¬ b = g := hBg.out hl0 ⟨b, o, none⟩ rfl
      have qy := HC.out.cell (hcx j y hy) (fun h => by rcases h with h | h; exact nb1 h; exact nb2 h)
      obtain ⟨z, hz⟩ : ∃ z, (ov A L)[j]? = some z := ⟨_, List.getElem?_eq_getElem (by have := hAl.out; have := hLl.out; rw [ov_len (by omega)]; omega)⟩
      have d0 := HB.out.c0
      have dz := HB.out.cell hz
      have fz := HB.out.fg j
      have HB2 : Hid (LeC (wr.setCell ⟨g, j, none⟩ (.int .u8 (y.toNat : Int))) p po g m cs N (ov (A ++ [y]) L)) := by
        have := HB.out.set j y
        rw [ov_set hAl.out (by have := hLl.out; omega)] at this
        exact this
      have HA2 : Hid (A ++ [y] = l.take (j + 1)) := by rw [HA.out]; exact hidOf (take_snocL hy)
      have HC2 : Hid (Chg (SL p g) W (wr.setCell ⟨g, j, none⟩ (.int .u8 (y.toNat : Int)))) := Chg.setCell HC.out (p := ⟨g, j, none⟩) (.inr rfl) _
      have hjm : (j : Int) < m := by omega
      have hgb : ¬ g = b := fun e => nb2 e.symm
      have hgp : ¬ g = p := fun e => HB.out.ne e.symm
      clear hcx hy hz
      go_upto_region 6 with fail
      go_region_held3 (fun w' => w'.cell? ⟨p, po, none⟩ = some (.slice (some ⟨g, 0, none⟩) m m) ∧ w'.cell? ⟨b, o + j, none⟩ = some (.int .u8 (y.toNat : Int))) (first | exact ⟨d0, qy⟩ | go_keep) (fail)
      go_wp2
      go_roundw
      case rel =>
        exact ⟨j + 1, A ++ [y], by simp, by omega, HA2, HB2.out.drew, HC2.out.drew⟩
      case measure => simp [intOf]; omega
    · have hltI : ¬ (j : Int) < l.length := by omega
      obtain rfl : j = l.length := by omega
      have HA0 : Hid (A = l ++ lmsB l.length (l.length - l.length)) := by rw [HA.out, List.take_length, Nat.sub_self]; exact hidOf (by simp [lmsB])
      clear HA hAl
      go_wp2
      obtain ⟨w1, hw1⟩ : ∃ w1, w1 = wr := ⟨_, rfl⟩
      rw [← hw1] at HB HC
      have Hw1 := hidOf hw1
      clear hw1
      go_loopw [6] (fun kv wr => ∃ (j : Nat) (A : List UInt8), kv = .int .i64 j ∧ l.length ≤ j ∧ j ≤ 2 * l.length + 70 ∧ Hid (A = l ++ lmsB l.length (j - l.length)) ∧ Hid (LeC wr p po g m cs N (ov A L)) ∧ Hid (Chg (SL p g) W wr)) (fun kv _ => 2 * l.length + 70 - (intOf kv).toNat)
      case atStart => exact ⟨l.length, A, rfl, by omega, by omega, HA0, by rw [← Hw1.out]; exact HB, by rw [← Hw1.out]; exact HC⟩
      case round =>
        clear HB HC HA0 Hw1
        obtain ⟨j, A, rfl, hj0, hj, HA, HB, HC⟩ := hrel
        have hAl : Hid (A.length = j) := by rw [HA.out, List.length_append, lmsB_len]; exact hidOf (by omega)
        by_cases hlt : j < 2 * l.length + 70
        · have hltI : (j : Int) < 2 * (l.length : Int) + 70 := by omega
          obtain ⟨z, hz⟩ : ∃ z, (ov A L)[j]? = some z := ⟨_, List.getElem?_eq_getElem (by have := hAl.out; have := hLl.out; rw [ov_len (by omega)]; omega)⟩
          have d0 := HB.out.c0
          have dz := HB.out.cell hz
          have fz := HB.out.fg j
          have HB2 : Hid (LeC (wr.setCell ⟨g, j, none⟩ (.int .u8 ((lmB j).toNat : Int))) p po g m cs N (ov (A ++ [lmB j]) L)) := by
            have := HB.out.set j (lmB j)
            rw [ov_set hAl.out (by have := hLl.out; omega)] at this
            exact this
          have HA2 : Hid (A ++ [lmB j] = l ++ lmsB l.length (j + 1 - l.length)) := by
            rw [HA.out, show j + 1 - l.length = (j - l.length) + 1 by omega, lmsB_succ, show l.length + (j - l.length) = j by omega]
            exact hidOf (by simp)
          have HC2 : Hid (Chg (SL p g) W (wr.setCell ⟨g, j, none⟩ (.int .u8 ((lmB j).toNat : Int)))) := Chg.setCell HC.out (p := ⟨g, j, none⟩) (.inr rfl) _
          have hjm : (j : Int) < m := by omega
          have hgp : ¬ g = p := fun e => HB.out.ne e.symm
          have CMk : Hid (∀ wx, Calls Tryz.prog 55 #[.pointer (some ⟨p, po, none⟩), .int .i64 j] wx fun e w' => e = .returned (.int .u8 ((lmB j).toNat : Int)) ∧ wx = w') := fun wx => lmark_any _ j (by omega) wx
          generalize lmB j = y at *
          clear hz
          go_upto_region 10 with fail
          go_region_held3 (fun w' => w'.cell? ⟨p, po, none⟩ = some (.slice (some ⟨g, 0, none⟩) m m)) (first | exact d0 | go_keep) (first | (go_at_call 55; refine (CMk.out _).mono ?_; rintro e w2 ⟨rfl, rfl⟩))
          go_wp2
          go_roundw
          case rel => exact ⟨j + 1, A ++ [y], by simp, by omega, by omega, HA2, HB2.out.drew, HC2.out.drew⟩
          case measure => simp [intOf]; omega
        · have hltI : ¬ (j : Int) < 2 * (l.length : Int) + 70 := by omega
          have hje : Hid (A = l ++ lmsB l.length (l.length + 70)) := by rw [HA.out, show j - l.length = l.length + 70 by omega]; exact hidOf rfl
          have d0 := HB.out.c0
          have d1 := HB.out.c1
          have f1 := HB.out.fp (po + 1)
          have HB2 : Hid (LeC (wr.setCell ⟨p, po + 1, none⟩ (.int .i64 (l.length : Int))) p po g m (cs.setIfInBounds (po + 1) (.int .i64 (l.length : Int))) l.length (l ++ (lmsB l.length (l.length + 70) ++ L.drop (2 * l.length + 70)))) := by
            have := HB.out.setN (l.length : Int)
            rw [hje.out, ov_end l L _ rfl] at this
            exact this
          have HC2 : Hid (Chg (SL p g) W (wr.setCell ⟨p, po + 1, none⟩ (.int .i64 (l.length : Int)))) := Chg.setCell HC.out (p := ⟨p, po + 1, none⟩) (.inl rfl) _
          have e1 : (l.length : Int) ≤ 2 * (l.length : Int) + 70 := by omega
          have e2 : 2 * (l.length : Int) + 70 ≤ m := by omega
          go_wp2
          go_ret
          exact ⟨rfl, HB2.out, HC2.out⟩
theorem lms_get {n k j : Nat} (h : j < k) : (lmsB n k)[j]? = some (lmB (n + j)) := by
  unfold lmsB
  rw [List.getElem?_map, List.getElem?_range' h]
  simp
set_option maxRecDepth 20000 in
set_option maxHeartbeats 3000000 in
theorem backC_any (w : World) (p po g m : Nat) (cs : Array Value) (l R : List UInt8) (h : LeC w p po g m cs l.length (l ++ (lmsB l.length (l.length + 70) ++ R))) (N : Nat) (a : Option Addr) (cap : Nat) (hr : RestAt N w a l) (hll : l.length ≤ 100000000000000) :
    Calls Tryz.prog 24 #[.pointer (some ⟨p, po, none⟩), .slice a l.length cap] w fun e w' => e = .returned (.bool true) ∧ (∃ L', LeC w' p po g m cs l.length L') ∧ Chg (SL p g) w w' := by
  have H := hidOf h
  have hm : 2 * l.length + 70 ≤ m := by have := h.len_; simp [lmsB_len] at this; omega
  have c0 := h.c0
  have c1 := h.c1
  have hv1 : ∀ n, (convert 29 9 (.slice (some ⟨g, 0, none⟩) l.length m)).run Tryz.prog (w.drewN n) = .ok (.string ⟨l.toArray⟩) (w.drewN n) := fun n => conv_rest (w := w.drewN n) (h.drewN n).rest m
  have hv2 : ∀ n, (convert 29 9 (.slice a l.length cap)).run Tryz.prog (w.drewN n) = .ok (.string ⟨l.toArray⟩) (w.drewN n) := fun n => conv_rest (w := w.drewN n) (N := N) hr cap
  have hmI : (l.length : Int) ≤ m := by omega
  have hEq : decide ((l.length : Int) = (l.length : Int)) = true := by simp
  clear h hr
  go_enter Tryz.func24, Tryz.ntmps24
  go_upto_region 1 with fail
  go_quiet (fail)
  clear hv1 hv2
  have c1' : (w.drewN nq).cell? ⟨p, po + 1, none⟩ = some (.int .i64 (l.length : Int)) := c1
  go_wp2
  go_loopw [5, 6] (fun okv kv wr => ∃ j : Nat, okv = .bool true ∧ kv = .int .i64 j ∧ l.length ≤ j ∧ j ≤ 2 * l.length + 70 ∧ Hid (Out w wr)) (fun _ kv _ => 2 * l.length + 70 - (intOf kv).toNat)
  case atStart => exact ⟨l.length, rfl, rfl, by omega, by omega, hidOf ((Out.refl w).drewN nq)⟩
  case round =>
    obtain ⟨j, rfl, rfl, hj0, hj, HO⟩ := hrel
    have HB := hidOf (H.out.out HO.out)
    have d0 := HB.out.c0
    have d1 := HB.out.c1
    by_cases hlt : j < 2 * l.length + 70
    · have hltI : (j : Int) < 2 * (l.length : Int) + 70 := by omega
      have hjm : (j : Int) < m := by omega
      have dz : wr.cell? ⟨g, j, none⟩ = some (.int .u8 ((lmB j).toNat : Int)) := HB.out.cell (by
        rw [List.getElem?_append_right (by omega), List.getElem?_append_left (by rw [lmsB_len]; omega), lms_get (by omega), show l.length + (j - l.length) = j by omega])
      have CMk : Hid (∀ wx, Calls Tryz.prog 55 #[.pointer (some ⟨p, po, none⟩), .int .i64 j] wx fun e w' => e = .returned (.int .u8 ((lmB j).toNat : Int)) ∧ w' = wx) := fun wx => (lmark_any _ j (by omega) wx).mono (fun e w' h => ⟨h.1, h.2.symm⟩)
      generalize lmB j = y at *
      go_upto_region 5 with fail
      go_quiet ((go_at_call 55; exact Calls.quiet_of_same (CMk.out _)))
      go_wp2
      go_roundw
      case rel => exact ⟨j + 1, rfl, by simp, by omega, by omega, hidOf (HO.out.drewN nq)⟩
      case measure => simp [intOf]; omega
    · have hltI : ¬ (j : Int) < 2 * (l.length : Int) + 70 := by omega
      go_wp2
      obtain ⟨w1, hw1⟩ : ∃ w1, w1 = wr := ⟨_, rfl⟩
      rw [← hw1] at HB HO
      have Hw1 := hidOf hw1
      clear hw1 d0 d1
      go_loopw [7] (fun kv wr => ∃ (j : Nat) (L : List UInt8), kv = .int .i64 j ∧ j ≤ l.length ∧ Hid (LeC wr p po g m cs l.length L) ∧ Hid (Chg (SL p g) w wr)) (fun kv _ => l.length - (intOf kv).toNat)
      case atStart => exact ⟨0, _, rfl, by omega, by rw [← Hw1.out]; exact HB, by rw [← Hw1.out]; exact Chg.of_out HO.out⟩
      case round =>
        clear HB HO Hw1
        obtain ⟨j, L, rfl, hj, HB, HC⟩ := hrel
        have d0 := HB.out.c0
        have d1 := HB.out.c1
        by_cases hlt : j < l.length
        · have hltI : (j : Int) < l.length := by omega
          obtain ⟨z, hz⟩ : ∃ z, L[j]? = some z := ⟨_, List.getElem?_eq_getElem (by have := HB.out.len_; omega)⟩
          have dz := HB.out.cell hz
          have fz := HB.out.fg j
          have HB2 : Hid (LeC (wr.setCell ⟨g, j, none⟩ (.int .u8 120)) p po g m cs l.length (L.set j 120)) := HB.out.set j 120
          have HC2 : Hid (Chg (SL p g) w (wr.setCell ⟨g, j, none⟩ (.int .u8 120))) := Chg.setCell HC.out (p := ⟨g, j, none⟩) (.inr rfl) _
          have hjm : (j : Int) < m := by omega
          go_wp2
          go_roundw
          case rel => exact ⟨j + 1, _, by simp, by omega, HB2, HC2⟩
          case measure => simp [intOf]; omega
        · have hltI : ¬ (j : Int) < l.length := by omega
          go_wp2
          go_ret
          exact ⟨rfl, ⟨_, HB.out⟩, HC.out⟩
end Go.Proofs.YtekjfbmebekmeaaGreat
