import Derived.Test.YtgephenkbbelcaaDoorLd
namespace Go.Proofs.YtgephenkbbelcaaDoor
open Go.RowKit
set_option linter.unusedVariables false
set_option linter.unusedSimpArgs false

def flatR (L : List RowP) : List Value := L.flatMap (fun r => rowL r (.slice none 0 0))
theorem drop_flat : ∀ (L : List RowP) (k : Nat) (r : RowP), L[k]? = some r → ((flatR L).drop (k * 10)).take 10 = rowL r (.slice none 0 0)
  | [], k, r, h => by simp at h
  | x :: L, 0, r, h => by
    simp at h; subst h
    rfl
  | x :: L, k + 1, r, h => by
    have := drop_flat L k r (by simpa using h)
    rw [← this]
    have e : (k + 1) * 10 = (rowL x (.slice none 0 0)).length + k * 10 := by simp [rowL]; omega
    rw [flatR, List.flatMap_cons, e, ← List.drop_drop, List.drop_left]
    rfl
theorem rowsAt_own {w : World} {base : Nat} {v : Value} {L : List RowP} {n : Nat} (hn : n = L.length) (h0 : 0 < n) (hi : ∀ r ∈ L, r.imms = []) (h : w.ownsRow base 74 10 v n (flatR L)) : RowsAt w v L := by
  subst hn
  rcases h.2 with ⟨_, e⟩ | ⟨g, cap, cur, rfl, _, hg, _, _, _, htake⟩
  · omega
  · refine .inr ⟨g, cap, rfl, fun k r hk => ?_⟩
    refine rowAt_of (iv := .slice none 0 0) (.inl ⟨hi r (List.mem_of_getElem? hk), rfl⟩) (drop_flat L k r hk) ?_
    intro j u hu
    rw [← htake, List.getElem?_take] at hu
    split at hu
    · rw [cell_of_row w g j cur _ (0, 0) hg]; simpa using hu
    · cases hu
theorem ownsRow_at (w : World) (base : Nat) (e : TypeId) (size : Nat) (cs : Array Value) (n b : Nat) (hb : b = w.heap.size) (hl : base ≤ b) (hm : n ≤ maxLen) (hs : cs.size = n * size) :
    (w.alloc (.cells cs e)).ownsRow base e size (.slice (some ⟨b, 0, none⟩) n n) n cs.toList := by
  subst hb
  exact World.ownsRow_lit w cs n hl hm hs
theorem news_at (w : World) (cs : Array Value) (t : TypeId) (b : Nat) (hb : b = w.heap.size) : ∀ j u, cs.toList[j]? = some u → (w.alloc (.cells cs t)).cell? ((⟨b, 0, none⟩ : Addr).add j) = some u := by
  intro j u hu
  rw [WideShapes.add_plain, Nat.zero_add, cell_new _ _ _ _ _ hb]
  simpa using hu
theorem out_grownL {w X w1 : World} {b n c : Nat} (h : Out w X) (hg : X.grownBy w1 (Value.ownBlock (.slice (some ⟨b, 0, none⟩) n c))) (hb : w.heap.size ≤ b) : Out w w1 :=
  Below.grown h hg h.size (fun k hk => by simp [Value.ownBlock] at hk; omega)
theorem set_row {w : World} {b : Nat} {cs : Array Value} {t : TypeId} (h : w.heap[b]? = some (.cells cs t (0, 0))) (j : Nat) (u : Value) : (w.setCell ⟨b, j, none⟩ u).heap[b]? = some (.cells (cs.setIfInBounds j u) t (0, 0)) := by
  simp [World.setCell, Array.getElem?_modify, h]
theorem size_setCell (w : World) (a : Addr) (u : Value) : (w.setCell a u).heap.size = w.heap.size := by simp [World.setCell]
theorem size56 : (Tryd.prog.info? 74).map (·.size) = some 10 := by kernel_rfl
theorem mov_step {w wr w1 : World} {v : Value} {n : Nat} {xs : List Value} {cs : Array Value} {o : Obj} (u : Value) (hown : wr.ownsRow (w.heap.size + 1) 74 10 v n xs) (hp : wr.heap[w.heap.size]? = some (.cells cs 74 (0, 0))) (hbel : Below w.heap.size w wr)
    (hgrow : ((wr.setCell ⟨w.heap.size, 8, none⟩ u).alloc o).grownBy w1 v.ownBlock) : w1.heap[w.heap.size]? = some (.cells (cs.setIfInBounds 8 u) 74 (0, 0)) ∧ Below w.heap.size w w1 := by
  have hlt : w.heap.size < wr.heap.size := lt_of_block hp
  have hk : ∀ k, v.ownBlock = some k → w.heap.size + 1 ≤ k := fun k h => (hown.lt k h).1
  constructor
  · rw [hgrow.block w.heap.size (by rw [size_alloc, size_setCell]; omega) (fun e => by have := hk _ e.symm; omega), Below.heap_alloc _ _ _ (by rw [size_setCell]; omega)]
    exact set_row hp 8 u
  · refine Below.grown (Below.alloc (Below.setCell hbel (Nat.le_refl _) u) (by rw [size_setCell]; omega) o) hgrow (by rw [size_alloc, size_setCell]; omega) (fun k h => by have := hk k h; omega)
theorem arith_7 (c code : Int) (src : Bool) (hc : (code == 48) = true ∨ ((code == 48) = false ∧ (code == 144) = true)) (w : World) : Calls Tryd.prog 40 #[.int .i64 c, .int .i64 code, .bool src] w fun e w' => (∃ v, e = .returned v ∧ RowsAt w' v (arithR c code src)) ∧ Out w w' := by
  have hR : Hid (arithR c code src = [binR 2 src 0, binR 2 src 1]) := by
    rcases hc with h | ⟨_, h⟩
    · obtain rfl : code = 48 := by simpa using h
      simp [arithR, Hid]
    · obtain rfl : code = 144 := by simpa using h
      simp [arithR, Hid]
  obtain ⟨i0, hi, hz0, hz1, hz2⟩ := info_parts info56
  have a0 : (code == 128) = false := by rcases hc with h | ⟨_, h⟩ <;> · simp at h ⊢; omega
  have a1 : (code == 208) = false := by rcases hc with h | ⟨_, h⟩ <;> · simp at h ⊢; omega
  have a2 : (code == 32) = false := by rcases hc with h | ⟨_, h⟩ <;> · simp at h ⊢; omega
  have a3 : (code == 176) = false := by rcases hc with h | ⟨_, h⟩ <;> · simp at h ⊢; omega
  have a4 : ¬ 192 < code := by rcases hc with h | ⟨_, h⟩ <;> · simp at h; omega
  have hown := (ownsRow_at (w.alloc (.cells #[.int .i64 3, .int .i64 2, .bool true, .bool src, .bool false, .bool (!src), .bool false, .int .i64 0, .int .i64 1, .slice none 0 0] 74)) (w.heap.size + 1) 74 10 #[.int .i64 3, .int .i64 2, .bool true, .bool src, .bool false, .bool (!src), .bool false, .int .i64 0, .int .i64 0, .slice none 0 0] 1 (w.heap.size + 1) (by simp) (Nat.le_refl _) (by decide) rfl).alloc (.cells #[.int .i64 3, .int .i64 2, .bool true, .bool src, .bool false, .bool (!src), .bool false, .int .i64 0, .int .i64 1, .slice none 0 0] 74)
  have hnews := news_at ((w.alloc (.cells #[.int .i64 3, .int .i64 2, .bool true, .bool src, .bool false, .bool (!src), .bool false, .int .i64 0, .int .i64 1, .slice none 0 0] 74)).alloc (.cells #[.int .i64 3, .int .i64 2, .bool true, .bool src, .bool false, .bool (!src), .bool false, .int .i64 0, .int .i64 0, .slice none 0 0] 74)) #[.int .i64 3, .int .i64 2, .bool true, .bool src, .bool false, .bool (!src), .bool false, .int .i64 0, .int .i64 1, .slice none 0 0] 74 (w.heap.size + 1 + 1) (by simp)
  rcases hc with h | ⟨h, h'⟩
  all_goals
    go_enter Tryd.func40, Tryd.ntmps40
    go_wp2_with (first | (at_builtin; refine wpList_append_own _ rfl (.tmp 58) (.tmp 60) 69 rfl (w.heap.size + 1) 74 i0 _ 10 64 Tryd.underlying69 hi hz0 hz1 hz2 rfl (by decide) _ 1 _ rfl hown ⟨w.heap.size + 1 + 1, 0, none⟩ 1 1 _ rfl rfl hnews (by intro u hu; simp at hu; rcases hu with rfl | rfl | rfl | rfl | rfl | rfl | rfl | rfl | rfl | rfl <;> rfl) (by decide) (by decide) (by simp) ?_; intro v1 w1 hown1 hgrow1 _; clear hown hnews))
    refine wp_loop_rounds 1 ?_
    rw [rounds_succ]
    go_wp2
    go_ret
    go_light
    refine ⟨⟨_, rfl, ?_⟩, ?_⟩
    · rw [hR.out]
      exact rowsAt_own rfl (by simp) (by intro r hr; simp at hr; rcases hr with rfl | rfl <;> rfl) hown1
    · exact out_grownL (Out.alloc (Out.alloc (Out.alloc (Out.refl w) _) _) _) hgrow1 (by omega)
def bitsN (n : Nat) : Int := if n = 0 then 8 else if n = 1 then 16 else if n = 2 then 32 else 64
def offN (n : Nat) : Int := if n = 0 then 0 else if n = 1 then 8 else if n = 2 then 16 else 32
def rowsN (c : Int) (n : Nat) : List RowP := if n = 0 then [binR 1 true 0] else if n = 1 then [binR 1 true 0, binR 1 true 8] else if n = 2 then [binR 1 true 0, binR 1 true 8, binR 1 true 16] else (if c == 7 then [binR 1 true 0, binR 1 true 8, binR 1 true 16, binR 1 true 32] else [binR 1 true 0, binR 1 true 8, binR 1 true 16])
theorem ten_cells {w : World} {b : Nat} {cs : Array Value} {t : TypeId} (h : w.heap[b]? = some (.cells cs t (0, 0))) (j : Nat) : w.cell? ⟨b, j, none⟩ = cs[j]? := cell_of_row _ _ _ _ _ _ h
theorem ten_free {w : World} {b : Nat} {cs : Array Value} {t : TypeId} (h : w.heap[b]? = some (.cells cs t (0, 0))) (j : Nat) : w.frozen? ⟨b, j, none⟩ = false := frozen_of_row w b j cs t h
set_option maxRecDepth 20000 in
set_option maxHeartbeats 1000000 in
theorem arith_8 (c : Int) (hc : c = 7 ∨ c = 4) (w : World) : Calls Tryd.prog 40 #[.int .i64 c, .int .i64 176, .bool true] w fun e w' => (∃ v, e = .returned v ∧ RowsAt w' v (arithR c 176 true)) ∧ Out w w' := by
  have hR : Hid (arithR c 176 true = rowsN c 3) := by simp [arithR, rowsN, Hid]
  obtain ⟨i0, hi, hz0, hz1, hz2⟩ := info_parts info56
  have hown0 := ownsRow_at (w.alloc (.cells #[.int .i64 3, .int .i64 1, .bool true, .bool true, .bool false, .bool false, .bool false, .int .i64 0, .int .i64 0, .slice none 0 0] 74)) (w.heap.size + 1) 74 10 #[.int .i64 3, .int .i64 1, .bool true, .bool true, .bool false, .bool false, .bool false, .int .i64 0, .int .i64 0, .slice none 0 0] 1 (w.heap.size + 1) (by simp) (Nat.le_refl _) (by decide) rfl
  have hp0 : ((w.alloc (.cells #[.int .i64 3, .int .i64 1, .bool true, .bool true, .bool false, .bool false, .bool false, .int .i64 0, .int .i64 0, .slice none 0 0] 74)).alloc (.cells #[.int .i64 3, .int .i64 1, .bool true, .bool true, .bool false, .bool false, .bool false, .int .i64 0, .int .i64 0, .slice none 0 0] 74)).heap[w.heap.size]? = some (.cells #[.int .i64 3, .int .i64 1, .bool true, .bool true, .bool false, .bool false, .bool false, .int .i64 0, .int .i64 0, .slice none 0 0] 74 (0, 0)) := heap_alloc2_old w _ _
  go_enter Tryd.func40, Tryd.ntmps40
  go_wp2
  go_loopw [9, 10] (fun v i wr => ∃ n : Nat, n ≤ 3 ∧ i = .int .i64 (bitsN n) ∧ wr.ownsRow (w.heap.size + 1) 74 10 v (rowsN c n).length (flatR (rowsN c n)) ∧ wr.heap[w.heap.size]? = some (.cells #[.int .i64 3, .int .i64 1, .bool true, .bool true, .bool false, .bool false, .bool false, .int .i64 0, .int .i64 (offN n), .slice none 0 0] 74 (0, 0)) ∧ Below w.heap.size w wr) (fun _ i _ => 64 - (intOf i).toNat)
  case atStart => exact ⟨0, by omega, rfl, hown0, hp0, Out.alloc (Out.alloc (Out.refl w) _) _⟩
  case round =>
    obtain ⟨n, hn, rfl, hown, hp, hbel⟩ := hrel
    clear hown0 hp0
    have hlt : w.heap.size < wr.heap.size := lt_of_block hp
    have k8 : wr.cell? ⟨w.heap.size, 8, none⟩ = some (.int .i64 (offN n)) := (ten_cells hp 8).trans rfl
    have hfree : wr.frozen? ⟨w.heap.size, 8, none⟩ = false := ten_free hp 8
    rcases (show n = 0 ∨ n = 1 ∨ n = 2 ∨ n = 3 from by omega) with rfl | rfl | rfl | rfl
    · have hset : (wr.setCell ⟨w.heap.size, 8, none⟩ (.int .i64 8)).heap[w.heap.size]? = some (.cells #[.int .i64 3, .int .i64 1, .bool true, .bool true, .bool false, .bool false, .bool false, .int .i64 0, .int .i64 8, .slice none 0 0] 74 (0, 0)) := set_row hp 8 _
      have hownX := (ownsRow_setCell_below hown (show (⟨w.heap.size, 8, none⟩ : Addr).block < w.heap.size + 1 from Nat.lt_succ_self _) (.int .i64 8)).alloc (.cells #[.int .i64 3, .int .i64 1, .bool true, .bool true, .bool false, .bool false, .bool false, .int .i64 0, .int .i64 8, .slice none 0 0] 74)
      have hnews := news_at (wr.setCell ⟨w.heap.size, 8, none⟩ (.int .i64 8)) #[.int .i64 3, .int .i64 1, .bool true, .bool true, .bool false, .bool false, .bool false, .int .i64 0, .int .i64 8, .slice none 0 0] 74 wr.heap.size (by rw [size_setCell])
      simp only [bitsN, offN]
      go_wp2_with (first | (refine wpList_load_row rfl 74 (.tmp 7) rfl w.heap.size rfl 74 #[.int .i64 3, .int .i64 1, .bool true, .bool true, .bool false, .bool false, .bool false, .int .i64 0, .int .i64 8, .slice none 0 0] (0, 0) _ hset Tryd.underlying74 rfl size56 ?_) | (at_builtin; refine wpList_append_own _ rfl (.tmp 81) (.tmp 83) 69 rfl (w.heap.size + 1) 74 i0 _ 10 64 Tryd.underlying69 hi hz0 hz1 hz2 rfl (by decide) _ _ _ rfl hownX ⟨wr.heap.size, 0, none⟩ 1 1 _ rfl rfl hnews (by intro u hu; simp at hu; rcases hu with rfl | rfl | rfl | rfl | rfl | rfl | rfl | rfl | rfl | rfl <;> rfl) (by simp [rowsN, maxLen]) (by simp [rowsN]) (by rw [size_alloc, size_setCell]; omega) ?_; intro v1 w1 hown1 hgrow1 _; clear hownX hnews))
      have R := mov_step (.int .i64 8) hown hp hbel hgrow1
      go_roundw
      case rel => exact ⟨1, by omega, rfl, hown1, R.1, R.2⟩
      case measure => simp [intOf, bitsN]
    · have hset : (wr.setCell ⟨w.heap.size, 8, none⟩ (.int .i64 16)).heap[w.heap.size]? = some (.cells #[.int .i64 3, .int .i64 1, .bool true, .bool true, .bool false, .bool false, .bool false, .int .i64 0, .int .i64 16, .slice none 0 0] 74 (0, 0)) := set_row hp 8 _
      have hownX := (ownsRow_setCell_below hown (show (⟨w.heap.size, 8, none⟩ : Addr).block < w.heap.size + 1 from Nat.lt_succ_self _) (.int .i64 16)).alloc (.cells #[.int .i64 3, .int .i64 1, .bool true, .bool true, .bool false, .bool false, .bool false, .int .i64 0, .int .i64 16, .slice none 0 0] 74)
      have hnews := news_at (wr.setCell ⟨w.heap.size, 8, none⟩ (.int .i64 16)) #[.int .i64 3, .int .i64 1, .bool true, .bool true, .bool false, .bool false, .bool false, .int .i64 0, .int .i64 16, .slice none 0 0] 74 wr.heap.size (by rw [size_setCell])
      simp only [bitsN, offN]
      go_wp2_with (first | (refine wpList_load_row rfl 74 (.tmp 7) rfl w.heap.size rfl 74 #[.int .i64 3, .int .i64 1, .bool true, .bool true, .bool false, .bool false, .bool false, .int .i64 0, .int .i64 16, .slice none 0 0] (0, 0) _ hset Tryd.underlying74 rfl size56 ?_) | (at_builtin; refine wpList_append_own _ rfl (.tmp 81) (.tmp 83) 69 rfl (w.heap.size + 1) 74 i0 _ 10 64 Tryd.underlying69 hi hz0 hz1 hz2 rfl (by decide) _ _ _ rfl hownX ⟨wr.heap.size, 0, none⟩ 1 1 _ rfl rfl hnews (by intro u hu; simp at hu; rcases hu with rfl | rfl | rfl | rfl | rfl | rfl | rfl | rfl | rfl | rfl <;> rfl) (by simp [rowsN, maxLen]) (by simp [rowsN]) (by rw [size_alloc, size_setCell]; omega) ?_; intro v1 w1 hown1 hgrow1 _; clear hownX hnews))
      have R := mov_step (.int .i64 16) hown hp hbel hgrow1
      go_roundw
      case rel => exact ⟨2, by omega, rfl, hown1, R.1, R.2⟩
      case measure => simp [intOf, bitsN]
    · rcases hc with rfl | rfl
      · have hset : (wr.setCell ⟨w.heap.size, 8, none⟩ (.int .i64 32)).heap[w.heap.size]? = some (.cells #[.int .i64 3, .int .i64 1, .bool true, .bool true, .bool false, .bool false, .bool false, .int .i64 0, .int .i64 32, .slice none 0 0] 74 (0, 0)) := set_row hp 8 _
        have hownX := (ownsRow_setCell_below hown (show (⟨w.heap.size, 8, none⟩ : Addr).block < w.heap.size + 1 from Nat.lt_succ_self _) (.int .i64 32)).alloc (.cells #[.int .i64 3, .int .i64 1, .bool true, .bool true, .bool false, .bool false, .bool false, .int .i64 0, .int .i64 32, .slice none 0 0] 74)
        have hnews := news_at (wr.setCell ⟨w.heap.size, 8, none⟩ (.int .i64 32)) #[.int .i64 3, .int .i64 1, .bool true, .bool true, .bool false, .bool false, .bool false, .int .i64 0, .int .i64 32, .slice none 0 0] 74 wr.heap.size (by rw [size_setCell])
        simp only [bitsN, offN]
        go_wp2_with (first | (refine wpList_load_row rfl 74 (.tmp 7) rfl w.heap.size rfl 74 #[.int .i64 3, .int .i64 1, .bool true, .bool true, .bool false, .bool false, .bool false, .int .i64 0, .int .i64 32, .slice none 0 0] (0, 0) _ hset Tryd.underlying74 rfl size56 ?_) | (at_builtin; refine wpList_append_own _ rfl (.tmp 81) (.tmp 83) 69 rfl (w.heap.size + 1) 74 i0 _ 10 64 Tryd.underlying69 hi hz0 hz1 hz2 rfl (by decide) _ _ _ rfl hownX ⟨wr.heap.size, 0, none⟩ 1 1 _ rfl rfl hnews (by intro u hu; simp at hu; rcases hu with rfl | rfl | rfl | rfl | rfl | rfl | rfl | rfl | rfl | rfl <;> rfl) (by simp [rowsN, maxLen]) (by simp [rowsN]) (by rw [size_alloc, size_setCell]; omega) ?_; intro v1 w1 hown1 hgrow1 _; clear hownX hnews))
        have R := mov_step (.int .i64 32) hown hp hbel hgrow1
        go_roundw
        case rel => exact ⟨3, by omega, rfl, hown1, R.1, R.2⟩
        case measure => simp [intOf, bitsN]
      · have hset : (wr.setCell ⟨w.heap.size, 8, none⟩ (.int .i64 32)).heap[w.heap.size]? = some (.cells #[.int .i64 3, .int .i64 1, .bool true, .bool true, .bool false, .bool false, .bool false, .int .i64 0, .int .i64 32, .slice none 0 0] 74 (0, 0)) := set_row hp 8 _
        have hownX := ownsRow_setCell_below hown (show (⟨w.heap.size, 8, none⟩ : Addr).block < w.heap.size + 1 from Nat.lt_succ_self _) (.int .i64 32)
        simp only [bitsN, offN]
        go_wp2_with (first | (refine wpList_load_row rfl 74 (.tmp 7) rfl w.heap.size rfl 74 #[.int .i64 3, .int .i64 1, .bool true, .bool true, .bool false, .bool false, .bool false, .int .i64 0, .int .i64 32, .slice none 0 0] (0, 0) _ hset Tryd.underlying74 rfl size56 ?_))
        go_roundw
        case rel => exact ⟨3, by omega, rfl, hownX, hset, Below.setCell hbel (Nat.le_refl _) _⟩
        case measure => simp [intOf, bitsN]
    · simp only [bitsN]
      go_wp2
      go_ret
      go_light
      refine ⟨⟨_, rfl, ?_⟩, hbel⟩
      rw [hR.out]
      exact rowsAt_own rfl (by simp [rowsN]; split <;> simp) (by intro r hr; simp [rowsN] at hr; split at hr <;> (simp at hr; rcases hr with rfl | rfl | rfl | rfl <;> rfl)) hown
end Go.Proofs.YtgephenkbbelcaaDoor
