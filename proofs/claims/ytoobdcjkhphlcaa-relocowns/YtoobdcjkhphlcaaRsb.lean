import Derived.Test.YtoobdcjkhphlcaaRsa
namespace Go.Proofs.Ytoobdcjkhphlcaa
open Go.RowKit
set_option linter.unusedVariables false
set_option linter.unusedSimpArgs false
theorem new_mk {cs : Array Value} {m : Int} {n gc : Nat} {z : Value} (hz : z.cells.size = 3) (hg : n + 1 ≤ gc) (hs : n * 3 ≤ cs.size) (he : Mk m n cs) :
    ((cs.toList.take (n * 3)).toArray ++ (mkC (m + n)).toArray ++ Builtin.zeroCells z.cells (gc - (n + 1))).size = gc * 3 ∧ Mk m (n + 1) ((cs.toList.take (n * 3)).toArray ++ (mkC (m + n)).toArray ++ Builtin.zeroCells z.cells (gc - (n + 1))) := by
  have hl : (cs.toList.take (n * 3)).length = n * 3 := by simp; omega
  refine ⟨?_, fun k hk j hj => ?_⟩
  · rw [Array.size_append, Array.size_append, size_zeroCells, hz, List.size_toArray, List.size_toArray, hl, mkC_len]; omega
  · rw [Array.append_assoc, ← Array.getElem?_toList, Array.toList_append, Array.toList_append]
    by_cases hkn : k < n
    · rw [List.getElem?_append_left (by simp; omega), List.getElem?_take, if_pos (by omega)]
      simpa using he k hkn j hj
    · obtain rfl : k = n := by omega
      rw [List.getElem?_append_right (by simp; omega), List.getElem?_append_left (by simp [mkC_len]; omega)]
      congr 1
      simp; omega
set_option maxRecDepth 20000 in
theorem append_mark (w : World) (v : Value) (m : Int) (n : Nat) (hv : ML w v m n) (ad : Addr) (hc : ∀ j u, (mkC (m + n))[j]? = some u → w.cell? (ad.add j) = some u) (hn : n ≤ 1000000000) :
    ∃ v' w', (∀ ty, (Builtin.append_ #[22, 22] ty #[v, .slice (some ad) 1 1]).run Try.prog w = .ok v' w') ∧ ML w' v' m (n + 1) ∧ Mild m v.ownBlock w w' ∧ (∀ b, v'.ownBlock = some b → v.ownBlock = some b ∨ w.heap.size ≤ b) := by
  obtain ⟨i0, hi, hz0, hz1, hz2⟩ := info_parts infoRl
  rcases hv with ⟨rfl, rfl⟩ | ⟨g, c, cs, rfl, hb, hs, hnc, hm⟩
  · have hr := fun ty => run_append_nil (P := Try.prog) w 22 ty 27 i0 _ Try.underlying22 hi hz0 ad 1 1 (mkC (m + 0)) (by rw [hz1]; rfl) hc (by omega) (by omega) (by rw [hz2]; omega)
    have hge := grownCap_ge w 1 0 27
    obtain ⟨h1, h2⟩ := new_mk (cs := #[]) (m := m) (n := 0) (gc := grownCap w 1 0 27) (z := .agg #[.int .i64 0, .int .i64 0, .int .i64 0]) rfl (by simpa using hge) (by simp) (Mk.zero _ _)
    refine ⟨_, _, hr, .inr ⟨w.heap.size, _, _, rfl, ?_, h1, by simpa using hge, h2⟩, Mild.of_out ((Out.refl w).drew.alloc _), fun b hb => ?_⟩
    · have := heap_alloc_new w.drew (.cells ((#[].toList.take (0 * 3)).toArray ++ (mkC (m + ((0 : Nat) : Int))).toArray ++ Builtin.zeroCells (Value.agg #[.int .i64 0, .int .i64 0, .int .i64 0]).cells (grownCap w 1 0 27 - (0 + 1))) 27)
      simpa [BlT] using this
    · simp [Value.ownBlock] at hb; right; omega
  · by_cases hroom : n + 1 ≤ c
    · have hr := fun ty => run_append_room (P := Try.prog) w 22 ty 27 i0 Try.underlying22 hi g n c cs hb ad 1 1 (mkC (m + n)) (by rw [hz1]; rfl) hc (mkC_one _) hroom (by rw [hz1, mkC_len]; omega)
      rw [hz1] at hr
      refine ⟨_, _, hr, .inr ⟨g, c, putC cs n (mkC (m + n)), rfl, setRow_heap w g _ _ _ _ hb, by rw [putC_size _ _ _ (by omega)]; exact hs, hroom, putC_succ (by omega) hm⟩, ⟨⟨rfl, rfl, rfl, by simp [World.setRow], fun k hk hne => setRow_other w g k _ (fun e => hne (by rw [e]; rfl))⟩, fun b cs0 hob hb0 => ?_⟩, fun b hb => .inl hb⟩
      simp [Value.ownBlock] at hob
      subst hob
      obtain rfl : cs0 = cs := by
        have h1 : w.heap[g]? = _ := hb0
        have h2 : w.heap[g]? = _ := hb
        rw [h2] at h1; simp at h1; exact h1.symm
      exact ⟨_, setRow_heap w g _ _ _ _ hb, putC_size _ _ _ (by omega), fun e he => putC_mk (by omega) e he⟩
    · have hcap := cap_le (need := n + 1) (old := c) (by omega)
      have hr := fun ty => run_append_grow (P := Try.prog) w 22 ty 27 i0 _ Try.underlying22 hi hz0 ⟨g, 0, none⟩ n c (cs.toList.take (n * 3)) (by rw [hz1]; simp; omega) (fun j u hu => by
        rw [List.getElem?_take] at hu
        split at hu
        · rw [WideShapes.add_plain, Nat.zero_add, cell_atL (show w.heap[g]? = _ from hb), ← Array.getElem?_toList]; exact hu
        · cases hu) ad 1 1 (mkC (m + n)) (by rw [hz1]; rfl) hc (by omega) (by omega) (by rw [hz2]; omega)
      have hge := grownCap_ge w (n + 1) c 27
      obtain ⟨h1, h2⟩ := new_mk (cs := cs) (m := m) (n := n) (gc := grownCap w (n + 1) c 27) (z := .agg #[.int .i64 0, .int .i64 0, .int .i64 0]) rfl hge (by omega) hm
      refine ⟨_, _, hr, .inr ⟨w.heap.size, _, _, rfl, heap_alloc_new w.drew _, h1, hge, h2⟩, Mild.of_out ((Out.refl w).drew.alloc _), fun b hb => ?_⟩
      simp [Value.ownBlock] at hb; right; omega
set_option maxRecDepth 20000 in
set_option maxHeartbeats 1000000 in
theorem grown_any (w : World) (v : Value) (m : Int) (n k : Nat) (hv : ML w v m n) (h0 : 0 ≤ m) (h1 : m ≤ 100000000000) (hk : n + k ≤ 1000000000) :
    Calls Try.prog 48 #[v, .int .i64 m, .int .i64 k] w fun e w' => ∃ v', e = .returned v' ∧ ML w' v' m (n + k) ∧ Mild m v.ownBlock w w' ∧ (∀ b, v'.ownBlock = some b → v.ownBlock = some b ∨ w.heap.size ≤ b) := by
  have HV := hidOf hv
  obtain ⟨ob, hob⟩ : ∃ ob, ob = v.ownBlock := ⟨_, rfl⟩
  rw [← hob]
  have Hob := hidOf hob
  obtain ⟨a0, c0, rfl⟩ := hv.form
  clear hv hob
  go_enter Try.func48, Try.ntmps48
  go_wp2
  go_loopw [0, 7] (fun lv kv wr => ∃ (i : Nat) (a : Option Addr) (c : Nat), lv = .slice a (n + i) c ∧ kv = .int .i64 i ∧ i ≤ k ∧ Hid (ML wr (.slice a (n + i) c) m (n + i)) ∧ Hid (Mild m ob w wr) ∧ Hid (∀ b, (Value.slice a (n + i) c).ownBlock = some b → ob = some b ∨ w.heap.size ≤ b)) (fun _ kv _ => k - (intOf kv).toNat)
  case atStart => exact ⟨0, a0, c0, rfl, rfl, by omega, HV, hidOf (Mild.of_out (Out.refl w)), hidOf (fun b hb => .inl (by rw [Hob.out]; exact hb))⟩
  case round =>
    obtain ⟨i, a, c, rfl, rfl, hi, HM, HL, HB⟩ := hrel
    by_cases hlt : i < k
    · have hltI : (i : Int) < k := by omega
      have CMn : Hid (∀ wx, Calls Try.prog 36 #[.int .i64 (m + ((n : Int) + i))] wx fun e w' => e = .returned (.agg #[.int .i64 (m + ((n : Int) + i)), .int .i64 77, .int .i64 (-(m + ((n : Int) + i)))]) ∧ Out wx w') := fun wx => mine_any _ (by omega) (by omega) wx
      go_upto_region 3 with (first | (go_at_call 36; refine (CMn.out _).mono ?_; rintro e w2 ⟨rfl, ho⟩; have P2 := hidOf ho; clear ho) | (at_builtin; obtain ⟨v', w3, hr3, hl3, hd3, hb3⟩ := append_mark (w2.alloc (.cells #[.int .i64 (m + ((n : Int) + i)), .int .i64 77, .int .i64 (-(m + ((n : Int) + i)))] 27)) (.slice a (n + i) c) m (n + i) (HM.out.out (P2.out.alloc _)) ⟨w2.heap.size, 0, none⟩ (news_new w2 _ _ _ rfl) (by omega); refine wp_run rfl (.tmp 13) (.tmp 19) 22 rfl rfl rfl hr3 ?_; have L3 := hidOf hl3; have D3 := hidOf hd3; have B3 := hidOf hb3; clear hr3 hl3 hd3 hb3))
      obtain ⟨a3, c3, rfl⟩ := L3.out.form
      have HL3 : Hid (Mild m ob w w3) := Mild.newer (Mild.trans HL.out (Mild.of_out (P2.out.alloc _))) D3.out (fun x hx => HB.out x hx)
      have hsz := (P2.out.alloc (.cells #[.int .i64 (m + ((n : Int) + i)), .int .i64 77, .int .i64 (-(m + ((n : Int) + i)))] 27)).size
      have HB3 : Hid (∀ b, (Value.slice a3 (n + i + 1) c3).ownBlock = some b → ob = some b ∨ w.heap.size ≤ b) := fun b hb => by
        rcases B3.out b hb with h | h
        · exact HB.out b h
        · have := HL.out.chg.size; right; omega
      go_wp2
      go_roundw
      case rel => exact ⟨i + 1, a3, c3, rfl, by simp, by omega, L3, HL3, HB3⟩
      case measure => simp [intOf]; omega
    · have hltI : ¬ (i : Int) < k := by omega
      obtain rfl : i = k := by omega
      go_wp2
      go_ret
      exact ⟨_, rfl, HM.out, HL.out, HB.out⟩
end Go.Proofs.Ytoobdcjkhphlcaa
