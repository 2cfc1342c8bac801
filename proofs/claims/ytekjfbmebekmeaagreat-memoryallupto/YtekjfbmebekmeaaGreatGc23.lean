import Derived.Test.YtekjfbmebekmeaaGreatGc22
import Derived.Laws.BytesString
namespace Go.Proofs.YtekjfbmebekmeaaGreat
open Go.RowKit
set_option linter.unusedVariables false
set_option linter.unusedSimpArgs false
theorem fold_byV (O : List UInt8) : ∀ r : ByteArray, (O.map (fun b => (b.toNat : Int))).foldl (fun r n => r.push (UInt8.ofNat n.toNat)) r = ⟨r.data ++ O.toArray⟩ := by
  induction O with
  | nil => intro r; simp
  | cons b l ih =>
    intro r
    rw [List.map_cons, List.foldl_cons, ih]
    simp [ByteArray.push]
/-- bytes as a text -/
theorem conv_any {w : World} {a : Option Addr} {d : List UInt8} (h : RestA w a d) (n : Nat) (hn : n = d.length) (cap : Nat) : (convert 29 9 (.slice a n cap)).run Tryz.prog w = .ok (.string ⟨d.toArray⟩) w := by
  subst hn
  have key : ∀ ad : Addr, (∀ j u, (d.map byV)[j]? = some u → w.cell? (ad.add j) = some u) → (convert 29 9 (.slice (some ad) d.length cap)).run Tryz.prog w = .ok (.string ⟨d.toArray⟩) w := by
    intro ad hc
    rw [run_convert_bytes_string w 29 9 5 (some ad) d.length cap Tryz.underlying29 Tryz.underlying5 Tryz.underlying9]
    have h1 := run_loadCells_list (P := Tryz.prog) w ad (d.map byV) hc
    rw [List.length_map] at h1
    rw [run_bytesToString w ad d.length cap (d.map (fun b => (b.toNat : Int))) (by rw [show (d.map (fun b => (b.toNat : Int))).map (Value.int .u8) = d.map byV from by simp [byV]]; exact h1), fold_byV]
    simp
  rcases h with rfl | ⟨ad, rfl, hc⟩
  · cases a with
    | none =>
      rw [run_convert_bytes_string w 29 9 5 none _ _ Tryz.underlying29 Tryz.underlying5 Tryz.underlying9]
      rfl
    | some ad => exact key ad (fun j u hj => by simp at hj)
  · exact key ad hc
theorem owns_rowB {w : World} {B g n : Nat} {e : TypeId} {f : Nat → Value} {xs : List Value} (h : w.rowIs g e n f) (hB : B ≤ g) (hn : n ≤ maxLen) (hx : xs.length = n) (hf : ∀ j, j < n → xs[j]? = some (f j)) : w.ownsRow B e 1 (.slice (some ⟨g, 0, none⟩) n n) n xs := by
  obtain ⟨c, hb, hs, hc⟩ := h
  refine ⟨by omega, .inr ⟨g, n, c, rfl, hB, hb, Nat.le_refl _, hn, by omega, ?_⟩⟩
  apply List.ext_getElem?
  intro j
  rw [Nat.mul_one, List.getElem?_take]
  by_cases hj : j < n
  · rw [if_pos hj, hf j hj, ← hc j hj]; simp
  · rw [if_neg hj, List.getElem?_eq_none (by omega)]
theorem spare_any (w : World) (k : Nat) (hk : k ≤ 10000000000000) : Calls Tryz.prog 76 #[.int .i64 k] w fun e w' => ∃ g, e = .returned (.slice (some ⟨g, 0, none⟩) (k + 70 : Nat) (k + 70 : Nat)) ∧ w'.ownsRow w.heap.size 5 1 (.slice (some ⟨g, 0, none⟩) (k + 70 : Nat) (k + 70 : Nat)) (k + 70) ((spB k).map byV) ∧ Out w w' := by
  obtain ⟨n, hnH⟩ : ∃ n, Hid (n = k + 70) := ⟨_, rfl⟩
  have hw : IntKind.i64.wrap ((k : Int) + 70) = (n : Int) := by have := hnH.out; rw [IntKind.wrap_i64]; omega
  have hn9 : n ≤ 20000000000000 := by have := hnH.out; omega
  rw [← hnH.out]
  have hmk := run_make_row' (P := Tryz.prog) 29 5 (.int .u8 0) 1 Tryz.underlying29 info8 rfl .i64 .i64 n (by omega) (by omega)
  go_enter Tryz.func76, Tryz.ntmps76
  go_wp2
  clear hmk
  go_loopw [4] (fun i wr => ∃ j : Nat, j ≤ n ∧ i = .int .i64 j ∧ Hid (wr.rowIs w.heap.size 5 n (fun x => if x < j then .int .u8 ((201 - 3 * x) % 256) else .int .u8 0)) ∧ Hid (Out w wr)) (fun i _ => (n + 1 - intOf i).toNat)
  case atStart => exact ⟨0, by omega, rfl, by simpa [Hid] using World.rowIs_made w (.int .u8 0) n 5, hidOf (Out.alloc (Out.refl _) _)⟩
  case round =>
    obtain ⟨j, hj, rfl, Hrow, Hor⟩ := hrel
    by_cases hjk : j < n
    · have hc := Hrow.out.cell hjk
      have hf := Hrow.out.frozen j
      have hlt : (j : Int) < n := by omega
      have hb : (3 : Int) * (j : Int) ≤ 700000000000000 := by omega
      have hw2 : IntKind.i64.wrap (3 * (j : Int)) = 3 * (j : Int) := by rw [IntKind.wrap_i64]; omega
      have hw3 : IntKind.i64.wrap (201 - 3 * (j : Int)) = 201 - 3 * (j : Int) := by rw [IntKind.wrap_i64]; omega
      go_wp2
      go_roundw
      case rel =>
        refine ⟨j + 1, by omega, by simp, ?_, hidOf (Hor.out.setCell (a := ⟨w.heap.size, j, none⟩) (Nat.le_refl _) _)⟩
        refine (Hrow.out.set j _).congr (fun x hx => ?_)
        by_cases hxj : x = j
        · subst hxj; simp
        · simp only [hxj, if_false]
          by_cases hx2 : x < j
          · rw [if_pos hx2, if_pos (by omega)]
          · rw [if_neg hx2, if_neg (by omega)]
      case measure => simp [intOf]; omega
    · have hlt : ¬ (j : Int) < n := by omega
      obtain rfl : j = n := by omega
      go_wp2
      go_ret
      refine ⟨w.heap.size, rfl, ?_, Hor.out⟩
      have hn := hnH.out
      refine owns_rowB Hrow.out (Nat.le_refl _) (by simp only [maxLen]; omega) (by simp [spB_len, hn]) (fun x hx => ?_)
      have h2 : x < k + 70 := by omega
      simp [spB, hx, h2, byV, spU_val]
/-- an own row as bytes -/
theorem rest_own {B n g cap : Nat} {w : World} {d : List UInt8} (h : w.ownsRow B 5 1 (.slice (some ⟨g, 0, none⟩) n cap) n (d.map byV)) (o : Nat) (e : List UInt8) (he : ∀ j x, e[j]? = some x → d[o + j]? = some x) : RestA w (some ⟨g, o, none⟩) e :=
  .inr ⟨⟨g, o, none⟩, rfl, fun j u hj => by
    rw [add_B]
    rw [List.getElem?_map] at hj
    cases hx : e[j]? with
    | none => rw [hx] at hj; cases hj
    | some x =>
      rw [hx] at hj
      cases hj
      exact (own_cellK h (show (d.map byV)[o + j]? = some (byV x) by rw [List.getElem?_map, he j x hx]; rfl)).1⟩
set_option maxHeartbeats 2000000 in
theorem spareOf_any (w : World) (a : Option Addr) (c : Nat) (d : List UInt8) (h : RestA w a d) (hd : d.length ≤ 10000000000000) :
    Calls Tryz.prog 43 #[.slice a d.length c] w fun e w' => ∃ g cap, e = .returned (.slice (some ⟨g, 0, none⟩) (2 * d.length + 70 : Nat) cap) ∧ w'.ownsRow w.heap.size 5 1 (.slice (some ⟨g, 0, none⟩) (2 * d.length + 70 : Nat) cap) (2 * d.length + 70) ((d ++ spB d.length).map byV) ∧ Out w w' := by
  obtain ⟨i0, hi0, hz0, hz1, hz2⟩ := info_parts info8
  obtain ⟨n, hn⟩ : ∃ n, Hid (n = d.length) := ⟨_, rfl⟩
  have CB := hidOf (copyB_any w a c d h (by omega))
  rw [← hn.out] at CB ⊢
  have HD := hidOf (show n ≤ 10000000000000 by rw [hn.out]; exact hd)
  obtain ⟨m2, hm2⟩ : ∃ m2, Hid (m2 = n + 70) := ⟨_, rfl⟩
  obtain ⟨n3, hn3⟩ : ∃ n3, Hid (n3 = n + m2) := ⟨_, rfl⟩
  have SC := hidOf (fun W => spare_any W n HD.out)
  rw [← hm2.out] at SC
  have hnn : Hid (n3 = 2 * n + 70) := hidOf (by have := hm2.out; have := hn3.out; omega)
  rw [← hnn.out]
  clear h hd
  go_enter Tryz.func43, Tryz.ntmps43
  go_upto_region 1 with fail
  go_wp2_with (first
    | (go_at_call 21; refine CB.out.mono ?_; rintro e w1 ⟨g1, c1, rfl, hown1, ho1⟩; have W1 := hidOf hown1; have O1 := hidOf ho1; clear hown1 ho1)
    | (go_at_call 76; refine (SC.out _).mono ?_; rintro e w2 ⟨g2, rfl, hown2, ho2⟩; have W2 := hidOf hown2; have O2 := hidOf ho2; (obtain ⟨v3, w3, hap, hown3, hgr3, hnil3, hbk3⟩ := run_append_own_at (P := Tryz.prog) w2 w.heap.size 29 29 5 i0 _ 1 1 Tryz.underlying29 hi0 hz0 hz1 hz2 rfl (by decide) (.slice (some ⟨g1, 0, none⟩) n c1) n (d.map byV) (own_out W1.out O2.out) ⟨g2, 0, none⟩ m2 m2 ((spB n).map byV) (by rw [List.length_map, spB_len, Nat.mul_one, hm2.out]) (fun j u hj => by rw [add_B, Nat.zero_add]; exact (own_cellK W2.out hj).1) (by intro u hu; obtain ⟨b, _, rfl⟩ := List.mem_map.1 hu; rfl) (by have := HD.out; have := hm2.out; simp only [maxLen]; omega) (by have := HD.out; have := hm2.out; omega) (O1.out.trans O2.out).size); (rw [← hn3.out] at hown3); (obtain ⟨a3, c3, rfl, _, hg3⟩ := own_slice hown3); (obtain ⟨g3, rfl⟩ := hg3 (by have := hnn.out; omega)); have HAP := hidOf hap; have W3 := hidOf hown3; have G3 := hidOf hgr3; clear hown2 ho2 hap hown3 hgr3 hnil3 hbk3 hg3)
    | (at_builtin; refine Lib.wpList_append_run _ rfl _ _ _ _ rfl _ _ rfl rfl _ _ HAP.out ?_))
  go_ret
  have hlt : ∀ b, (Value.slice (some (⟨g1, 0, none⟩ : Addr)) n c1).ownBlock = some b → w.heap.size ≤ b := fun b hb => (W1.out.lt b hb).1
  have h3 := W3.out
  rw [← List.map_append] at h3
  refine ⟨g3, c3, rfl, h3, Chg.out (Chg.of_grown G3.out (fun k hk => hk)) (O1.out.trans O2.out) (fun b hb => hlt b hb)⟩
end Go.Proofs.YtekjfbmebekmeaaGreat
namespace Go.Proofs.YtekjfbmebekmeaaGreat
open Go.RowKit
set_option linter.unusedVariables false
set_option linter.unusedSimpArgs false
set_option maxHeartbeats 4000000 in
set_option maxRecDepth 100000 in
theorem spareKept_any (w : World) (B g cap c : Nat) (a : Option Addr) (d : List UInt8) (hf : w.ownsRow B 5 1 (.slice (some ⟨g, 0, none⟩) (2 * d.length + 70 : Nat) cap) (2 * d.length + 70) ((d ++ spB d.length).map byV)) (h : RestA w a d) (hd : d.length ≤ 10000000000000) :
    Calls Tryz.prog 44 #[.slice (some ⟨g, 0, none⟩) (2 * d.length + 70 : Nat) cap, .slice a d.length c] w fun e w' => e = .returned (.bool true) ∧ Out w w' := by
  have hcap : 2 * d.length + 70 ≤ cap := by
    rcases hf.2 with ⟨he, _⟩ | ⟨g1, c1, cu, he, _, _, hle, _⟩
    · cases he
    · simp only [Value.slice.injEq] at he
      rw [he.2.2]; exact hle
  have r1 : RestA w (some ⟨g, 0, none⟩) d := rest_own hf 0 d (fun j x hx => by rw [Nat.zero_add, List.getElem?_append_left (List.getElem?_eq_some_iff.1 hx).1]; exact hx)
  have r2 : RestA w (some ⟨g, d.length, none⟩) (spB d.length) := rest_own hf d.length (spB d.length) (fun j x hx => by rw [List.getElem?_append_right (by omega), Nat.add_sub_cancel_left]; exact hx)
  obtain ⟨k, hk⟩ : ∃ k, Hid (k = d.length) := ⟨_, rfl⟩
  have C1 : Hid (∀ W, Out w W → (convert 29 9 (.slice (some ⟨g, 0, none⟩) k cap)).run Tryz.prog W = .ok (.string ⟨d.toArray⟩) W) := hidOf (fun W o => conv_any (r1.out o) k hk.out cap)
  have C2 : Hid (∀ W, Out w W → (convert 29 9 (.slice a k c)).run Tryz.prog W = .ok (.string ⟨d.toArray⟩) W) := hidOf (fun W o => conv_any (h.out o) k hk.out c)
  obtain ⟨n, hn⟩ : ∃ n, Hid (n = 2 * k + 70) := ⟨_, rfl⟩
  obtain ⟨m, hm⟩ : ∃ m, Hid (m = k + 70) := ⟨_, rfl⟩
  obtain ⟨cr, hcr⟩ : ∃ cr, Hid (cr = cap - k) := ⟨_, rfl⟩
  have C3 : Hid (∀ W, Out w W → (convert 29 9 (.slice (some ⟨g, k, none⟩) m cr)).run Tryz.prog W = .ok (.string ⟨(spB k).toArray⟩) W) := hidOf (fun W o => by rw [hk.out]; exact conv_any (r2.out o) m (by rw [spB_len, hm.out, hk.out]) cr)
  have HD := hidOf (show k ≤ 10000000000000 by rw [hk.out]; exact hd)
  have C4 := hidOf (fun W => spare_any W k HD.out)
  rw [← hm.out] at C4
  rw [← hk.out] at hcap
  rw [← hk.out, ← hn.out]
  rw [← hn.out] at hcap
  clear hf r1 r2 h hd
  obtain ⟨D, hD⟩ : ∃ D : ByteArray, Hid (D = ⟨d.toArray⟩) := ⟨_, rfl⟩
  obtain ⟨E, hE⟩ : ∃ E : ByteArray, Hid (E = ⟨(spB k).toArray⟩) := ⟨_, rfl⟩
  rw [← hD.out] at C1 C2
  rw [← hE.out] at C3
  have q1 := C1.out w.drew ((Out.refl w).drew)
  have q2 := C2.out w.drew ((Out.refl w).drew)
  have q3 := C3.out w.drew ((Out.refl w).drew)
  have hkb : k ≤ 10000000000000 := HD.out
  have hkn : k ≤ n := by have := hn.out; omega
  have hkn2 : (k : Int) ≤ (n : Int) := by omega
  have hkc : k ≤ cap := by omega
  have hkc2 : (k : Int) ≤ (cap : Int) := by omega
  have hne : ¬ (cap = k) := by have := hn.out; omega
  have w1 : IntKind.i64.wrap (2 * (k : Int)) = ((2 * k : Nat) : Int) := by rw [IntKind.wrap_i64]; omega
  have w2 : IntKind.i64.wrap (((2 * k : Nat) : Int) + 70) = (n : Int) := by have := hn.out; rw [IntKind.wrap_i64]; omega
  have w3 : n - k = m := by have := hn.out; have := hm.out; omega
  have w4 : cap - k = cr := hcr.out.symm
  generalize 2 * k = k2 at *
  go_enter Tryz.func44, Tryz.ntmps44
  go_upto_region 2 with fail
  refine wp_region_held_drew (S := (fun w' => (convert 29 9 (.slice (some ⟨g, 0, none⟩) k cap)).run Tryz.prog w' = .ok (.string D) w' ∧ (convert 29 9 (.slice a k c)).run Tryz.prog w' = .ok (.string D) w' ∧ (convert 29 9 (.slice (some ⟨g, k, none⟩) m cr)).run Tryz.prog w' = .ok (.string E) w')) (by kernel_rfl) ?_ (fun hHeld => ?_)
  · exact ⟨q1, q2, q3⟩
  refine wpAnyH_take (i := 0) (v := ?_) rfl (by kernel_rfl) (by kernel_rfl) (by kernel_rfl) (fun _ _ _ h => h) (Or.inl ⟨by rfl, ?_⟩) (by assumption) ?_
  rotate_left
  · (intro w hSw; (try dsimp only at hSw); go_simp; (try with_reducible rfl))
  show wpAnyH _ _ _ _ _ _ _ (Act.put _ (some 8) _) _
  simp only [Act.put, List.setIfInBounds_toArray, List.set_cons_zero, List.set_cons_succ]
  refine wpAnyH_take (i := 1) (v := ?_) rfl (by kernel_rfl) (by kernel_rfl) (by kernel_rfl) (fun _ _ _ h => h) (Or.inl ⟨by rfl, ?_⟩) (by assumption) ?_
  rotate_left
  · (intro w hSw; (try dsimp only at hSw); go_simp; (try with_reducible rfl))
  show wpAnyH _ _ _ _ _ _ _ (Act.put _ (some 9) _) _
  simp only [Act.put, List.setIfInBounds_toArray, List.set_cons_zero, List.set_cons_succ]
  refine wpAnyH_take (i := 2) (v := ?_) rfl (by kernel_rfl) (by kernel_rfl) (by kernel_rfl) (fun _ _ _ h => h) (Or.inl ⟨by rfl, ?_⟩) (by assumption) ?_
  rotate_left
  · (intro w hSw; (try dsimp only at hSw); go_simp; (try with_reducible rfl))
  show wpAnyH _ _ _ _ _ _ _ (Act.put _ (some 10) _) _
  simp only [Act.put, List.setIfInBounds_toArray, List.set_cons_zero, List.set_cons_succ]
  refine wpAnyH_take (i := 3) (v := ?_) rfl (by kernel_rfl) (by kernel_rfl) (by kernel_rfl) (fun _ _ _ h => h) (Or.inl ⟨by rfl, ?_⟩) (by assumption) ?_
  rotate_left
  · (intro w hSw; (try dsimp only at hSw); go_simp; (try with_reducible rfl))
  show wpAnyH _ _ _ _ _ _ _ (Act.put _ (some 11) _) _
  simp only [Act.put, List.setIfInBounds_toArray, List.set_cons_zero, List.set_cons_succ]
  refine wpAnyH_take (i := 4) (v := ?_) rfl (by kernel_rfl) (by kernel_rfl) (by kernel_rfl) (fun _ _ _ h => h) (Or.inl ⟨by rfl, ?_⟩) (by assumption) ?_
  rotate_left
  · (intro w hSw; (try dsimp only at hSw); go_simp; (try with_reducible rfl))
  show wpAnyH _ _ _ _ _ _ _ (Act.put _ (some 12) _) _
  simp only [Act.put, List.setIfInBounds_toArray, List.set_cons_zero, List.set_cons_succ]
  refine wpAnyH_take (i := 5) (v := ?_) rfl (by kernel_rfl) (by kernel_rfl) (by kernel_rfl) (fun _ _ _ h => h) (Or.inl ⟨by rfl, ?_⟩) (by assumption) ?_
  rotate_left
  · (intro w hSw; (try dsimp only at hSw); go_simp; (try with_reducible rfl))
  show wpAnyH _ _ _ _ _ _ _ (Act.put _ (some 13) _) _
  simp only [Act.put, List.setIfInBounds_toArray, List.set_cons_zero, List.set_cons_succ]
  refine wpAnyH_take (i := 6) (v := ?_) rfl (by kernel_rfl) (by kernel_rfl) (by kernel_rfl) (fun _ _ _ h => h) (Or.inl ⟨by rfl, ?_⟩) (by assumption) ?_
  rotate_left
  · (intro w hSw; (try dsimp only at hSw); go_simp; (try with_reducible rfl))
  show wpAnyH _ _ _ _ _ _ _ (Act.put _ (some 14) _) _
  simp only [Act.put, List.setIfInBounds_toArray, List.set_cons_zero, List.set_cons_succ]
  refine wpAnyH_take (i := 7) (v := ?_) rfl (by kernel_rfl) (by kernel_rfl) (by kernel_rfl) (fun _ _ _ h => h) (Or.inl ⟨by rfl, ?_⟩) (by assumption) ?_
  rotate_left
  · (intro w hSw; (try dsimp only at hSw); go_simp; (try with_reducible rfl))
  show wpAnyH _ _ _ _ _ _ _ (Act.put _ (some 15) _) _
  simp only [Act.put, List.setIfInBounds_toArray, List.set_cons_zero, List.set_cons_succ]
  refine wpAnyH_take (i := 8) (v := ?_) rfl (by kernel_rfl) (by kernel_rfl) (by kernel_rfl) (fun _ _ _ h => h) (Or.inl ⟨by rfl, ?_⟩) (by assumption) ?_
  rotate_left
  · (intro w hSw; (try dsimp only at hSw); go_simp; (try with_reducible rfl))
  show wpAnyH _ _ _ _ _ _ _ (Act.put _ (some 16) _) _
  simp only [Act.put, List.setIfInBounds_toArray, List.set_cons_zero, List.set_cons_succ]
  refine wpAnyH_take (i := 9) (v := ?_) rfl (by kernel_rfl) (by kernel_rfl) (by kernel_rfl) (fun _ _ _ h => h) (Or.inl ⟨by rfl, ?_⟩) (by assumption) ?_
  rotate_left
  · (intro w hSw; (try dsimp only at hSw); go_simp; (try with_reducible rfl))
  show wpAnyH _ _ _ _ _ _ _ (Act.put _ (some 17) _) _
  simp only [Act.put, List.setIfInBounds_toArray, List.set_cons_zero, List.set_cons_succ]
  refine wpAnyH_take (i := 10) (v := ?_) rfl (by kernel_rfl) (by kernel_rfl) (by kernel_rfl) (fun _ _ _ h => h) (Or.inl ⟨by rfl, ?_⟩) (by assumption) ?_
  rotate_left
  · (intro w hSw; (try dsimp only at hSw); go_simp; (try with_reducible rfl))
  show wpAnyH _ _ _ _ _ _ _ (Act.put _ (some 18) _) _
  simp only [Act.put, List.setIfInBounds_toArray, List.set_cons_zero, List.set_cons_succ]
  refine wpAnyH_take (i := 11) (v := ?_) rfl (by kernel_rfl) (by kernel_rfl) (by kernel_rfl) (fun _ _ _ h => h) (Or.inl ⟨by rfl, ?_⟩) (by assumption) ?_
  rotate_left
  · (intro w hSw; (try dsimp only at hSw); go_simp; (try with_reducible rfl))
  show wpAnyH _ _ _ _ _ _ _ (Act.put _ (some 19) _) _
  simp only [Act.put, List.setIfInBounds_toArray, List.set_cons_zero, List.set_cons_succ]
  refine wpAnyH_take (i := 12) (v := ?_) rfl (by kernel_rfl) (by kernel_rfl) (by kernel_rfl) (fun _ _ _ h => h) (Or.inl ⟨by rfl, ?_⟩) (by assumption) ?_
  rotate_left
  · (intro w hSw; (try dsimp only at hSw); go_simp; (try with_reducible rfl))
  show wpAnyH _ _ _ _ _ _ _ (Act.put _ (some 20) _) _
  simp only [Act.put, List.setIfInBounds_toArray, List.set_cons_zero, List.set_cons_succ]
  refine wpAnyH_take (i := 13) (v := ?_) rfl (by kernel_rfl) (by kernel_rfl) (by kernel_rfl) (fun _ _ _ h => h) (Or.inl ⟨by rfl, ?_⟩) (by assumption) ?_
  rotate_left
  · (intro w hSw; (try dsimp only at hSw); go_simp; (try with_reducible rfl))
  show wpAnyH _ _ _ _ _ _ _ (Act.put _ (some 21) _) _
  simp only [Act.put, List.setIfInBounds_toArray, List.set_cons_zero, List.set_cons_succ]
  refine wpAnyH_take (i := 14) (v := ?_) rfl (by kernel_rfl) (by kernel_rfl) (by kernel_rfl) (fun _ _ _ h => h) (Or.inl ⟨by rfl, ?_⟩) (by assumption) ?_
  rotate_left
  · (intro w hSw; (try dsimp only at hSw); go_simp; (try with_reducible rfl))
  show wpAnyH _ _ _ _ _ _ _ (Act.put _ (some 22) _) _
  simp only [Act.put, List.setIfInBounds_toArray, List.set_cons_zero, List.set_cons_succ]
  refine wpAnyH_take (i := 15) (v := ?_) rfl (by kernel_rfl) (by kernel_rfl) (by kernel_rfl) (fun _ _ _ h => h) (Or.inl ⟨by rfl, ?_⟩) (by assumption) ?_
  rotate_left
  · (intro w hSw; (try dsimp only at hSw); go_simp; (try with_reducible rfl))
  show wpAnyH _ _ _ _ _ _ _ (Act.put _ (some 23) _) _
  simp only [Act.put, List.setIfInBounds_toArray, List.set_cons_zero, List.set_cons_succ]
  refine wpAnyH_take (i := 16) (v := ?_) rfl (by kernel_rfl) (by kernel_rfl) (by kernel_rfl) (fun _ _ _ h => h) (Or.inl ⟨by rfl, ?_⟩) (by assumption) ?_
  rotate_left
  · (intro w hSw; (try dsimp only at hSw); go_simp; (try with_reducible rfl))
  show wpAnyH _ _ _ _ _ _ _ (Act.put _ (some 24) _) _
  simp only [Act.put, List.setIfInBounds_toArray, List.set_cons_zero, List.set_cons_succ]
  refine wpAnyH_take (i := 17) (v := ?_) rfl (by kernel_rfl) (by kernel_rfl) (by kernel_rfl) (fun _ _ _ h => h) (Or.inl ⟨by rfl, ?_⟩) (by assumption) ?_
  rotate_left
  · (intro w hSw; (try dsimp only at hSw); go_simp; (try with_reducible rfl))
  show wpAnyH _ _ _ _ _ _ _ (Act.put _ (some 25) _) _
  simp only [Act.put, List.setIfInBounds_toArray, List.set_cons_zero, List.set_cons_succ]
  refine wpAnyH_take (i := 18) (v := ?_) rfl (by kernel_rfl) (by kernel_rfl) (by kernel_rfl) (fun _ _ _ h => h) (Or.inl ⟨by rfl, ?_⟩) (by assumption) ?_
  rotate_left
  · (intro w hSw; (try dsimp only at hSw); go_simp; (try with_reducible rfl))
  show wpAnyH _ _ _ _ _ _ _ (Act.put _ (some 26) _) _
  simp only [Act.put, List.setIfInBounds_toArray, List.set_cons_zero, List.set_cons_succ]
  refine wpAnyH_take (i := 19) (v := ?_) rfl (by kernel_rfl) (by kernel_rfl) (by kernel_rfl) (fun _ _ _ h => h) (Or.inl ⟨by rfl, ?_⟩) (by assumption) ?_
  rotate_left
  · (intro w hSw; (try dsimp only at hSw); go_simp; (try with_reducible rfl))
  show wpAnyH _ _ _ _ _ _ _ (Act.put _ (some 27) _) _
  simp only [Act.put, List.setIfInBounds_toArray, List.set_cons_zero, List.set_cons_succ]
  refine wpAnyH_take (i := 20) (v := ?_) rfl (by kernel_rfl) (by kernel_rfl) (by kernel_rfl) (fun _ _ _ h => h) (Or.inl ⟨by rfl, ?_⟩) (by assumption) ?_
  rotate_left
  · (intro w hSw; (try dsimp only at hSw); go_simp; (try with_reducible rfl))
  show wpAnyH _ _ _ _ _ _ _ (Act.put _ (some 28) _) _
  simp only [Act.put, List.setIfInBounds_toArray, List.set_cons_zero, List.set_cons_succ]
  refine wpAnyH_ready (rs := [21]) (by kernel_rfl) (by simp) ?_
  refine (AllReadyH.cons rfl (fun Ko21 hKo21 => ?_) AllReadyH.nil)
  rw [if_pos (by rfl)]
  go_simp
  go_at_call 76
  refine (C4.out _).mono ?_
  rintro e w2 ⟨g2, rfl, hown2, ho2⟩
  have W2 := hidOf hown2
  have O2 := hidOf ho2
  have OW : Hid (Out w w2) := hidOf ((Out.refl w).drew.trans ho2)
  have p1 := C1.out _ OW.out
  have p2 := C2.out _ OW.out
  have p3 := C3.out _ OW.out
  have p4 : (convert 29 9 (.slice (some ⟨g2, 0, none⟩) m m)).run Tryz.prog w2 = .ok (.string E) w2 := by rw [hE.out]; exact conv_any (rest_own W2.out 0 (spB k) (fun j x hx => by rw [Nat.zero_add]; exact hx)) m (by rw [spB_len, hm.out]) m
  clear hown2 ho2
  refine hKo21.out _ _ ⟨p1, p2, p3⟩ (fun hHeld21 => ?_)
  try simp only [Act.put, List.setIfInBounds_toArray, List.set_cons_zero, List.set_cons_succ]
  refine wpAnyH_ready (rs := [22]) (by kernel_rfl) (by simp) ?_
  refine (AllReadyH.cons rfl (fun Ko22 hKo22 => ?_) AllReadyH.nil)
  rw [if_pos (by rfl)]
  go_simp
  refine hKo22.out _ _ ⟨p1, p2, p3⟩ (fun hHeld22 => ?_)
  try simp only [Act.put, List.setIfInBounds_toArray, List.set_cons_zero, List.set_cons_succ]
  refine wpAnyH_take (i := 23) (v := ?_) rfl (by kernel_rfl) (by kernel_rfl) (by kernel_rfl) (fun _ _ _ h => h) (Or.inl ⟨by rfl, ?_⟩) (by assumption) ?_
  rotate_left
  · (intro w hSw; (try dsimp only at hSw); go_simp; (try with_reducible rfl))
  show wpAnyH _ _ _ _ _ _ _ (Act.put _ (some 31) _) _
  simp only [Act.put, List.setIfInBounds_toArray, List.set_cons_zero, List.set_cons_succ]
  refine wpAnyH_take (i := 24) (v := ?_) rfl (by kernel_rfl) (by kernel_rfl) (by kernel_rfl) (fun _ _ _ h => h) (Or.inl ⟨by rfl, ?_⟩) (by assumption) ?_
  rotate_left
  · (intro w hSw; (try dsimp only at hSw); go_simp; (try with_reducible rfl))
  show wpAnyH _ _ _ _ _ _ _ (Act.put _ (some 32) _) _
  simp only [Act.put, List.setIfInBounds_toArray, List.set_cons_zero, List.set_cons_succ]
  refine wpAnyH_take (i := 25) (v := ?_) rfl (by kernel_rfl) (by kernel_rfl) (by kernel_rfl) (fun _ _ _ h => h) (Or.inl ⟨by rfl, ?_⟩) (by assumption) ?_
  rotate_left
  · (intro w hSw; (try dsimp only at hSw); go_simp; (try with_reducible rfl))
  show wpAnyH _ _ _ _ _ _ _ (Act.put _ (some 4) _) _
  simp only [Act.put, List.setIfInBounds_toArray, List.set_cons_zero, List.set_cons_succ]
  refine wpAnyH_done (by kernel_rfl) ?_ _
  go_wp2
  go_ret
  exact ⟨by first | rfl | simp, OW.out⟩
end Go.Proofs.YtekjfbmebekmeaaGreat
