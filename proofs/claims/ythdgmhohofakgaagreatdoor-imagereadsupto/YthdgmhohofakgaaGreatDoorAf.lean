import Derived.Test.YthdgmhohofakgaaGreatDoorAe
namespace Go.Proofs.YthdgmhohofakgaaGreatDoor
open Go.RowKit
open Go.Maps (Keyed)
set_option linter.unusedVariables false
set_option linter.unusedSimpArgs false
theorem bc_app (O P : List UInt8) : Lib.byteCells (O ++ P) = Lib.byteCells O ++ Lib.byteCells P := by simp [Lib.byteCells]
theorem bc_str (x : List UInt8) : Lib.strCells ⟨x.toArray⟩ = Lib.byteCells x := by simp [Lib.strCells, Lib.byteCells]
theorem bc_one (O : List UInt8) : ∀ u ∈ Lib.byteCells O, u.oneCell' = true := fun u hu => by
  simp only [Lib.byteCells, List.mem_map] at hu
  obtain ⟨b, _, rfl⟩ := hu
  rfl
theorem byP_snoc (N : List (List UInt8)) (x : List UInt8) : byP (N ++ [x]) = byP N ++ x ++ [0] := by simp [byP, byF_snoc]
theorem take_snoc {α : Type} {l : List α} {k : Nat} {x : α} (h : l[k]? = some x) : l.take (k + 1) = l.take k ++ [x] := by
  rw [List.take_add_one, h]; rfl
theorem szF_take (N : List (List UInt8)) (k : Nat) : szF 1 (N.take k) ≤ szF 1 N := by
  have := szF_add (N.take k) (N.drop k) 1
  rw [List.take_append_drop] at this
  have h2 := szF_ge (N.drop k) (szF 1 (N.take k))
  omega
theorem out_row {w0 X w' : World} {v : Value} {e n : Nat} {xs : List Value} (h : Out w0 X) (hown : X.ownsRow w0.heap.size e 1 v n xs) (hg : X.grownBy w' v.ownBlock) : Out w0 w' := Below.grown h hg h.size (fun k hk => (hown.lt k hk).1)
set_option maxRecDepth 4000 in
set_option maxHeartbeats 2000000 in
theorem bytes_any (p : Nat) (w : World) (N : List (List UInt8)) (F : Nat → Prop) (h : Tab p w N F) (hb : szF 1 N ≤ 1000000000000) : Calls Tryz.prog 71 #[.pointer (some ⟨p, 0, none⟩)] w fun e w' => ∃ a c, e = .returned (.tuple #[.slice a (byP N).length c, .int .i64 0]) ∧ OwB w.heap.size (.slice a (byP N).length c) (byP N) w' ∧ Out w w' := by
  obtain ⟨nv, sv, mv, t, hf⟩ := h
  have hn := szF_ge N 1
  obtain ⟨i0, hi, hz0, hz1, hz2⟩ := info_parts infoB
  obtain ⟨a, c, rfl⟩ := own_form t.nm
  have HS := hidOf (size_any p w N N _ _ _ t hb)
  have HT := hidOf t
  have Hb := hidOf hb
  have HM := hidOf (fun w => run_make_b1 (szF 1 N) (by omega) hb w)
  have hnn : N.length ≤ 1000000000000 := by omega
  clear t hf hb hn
  go_enter Tryz.func71, Tryz.ntmps71
  go_upto_region 4 with (go_at_call 79; refine (HS.out).mono ?_; rintro e w1 ⟨rfl, nd, rfl⟩; obtain ⟨cur, hmk, hown⟩ := HM.out (w.drewN nd); have HOw := hidOf hown; clear hown)
  have HO1 : Hid (Out w ((w.drewN nd).alloc (.cells cur 5))) := ((Out.refl w).drewN nd).alloc _
  have HW1 : Hid (OwB w.heap.size (.slice (some ⟨w.heap.size, 0, none⟩) 1 (szF 1 N)) [0] ((w.drewN nd).alloc (.cells cur 5))) := HOw.out
  clear hmk HOw HM
  generalize (w.drewN nd).alloc (.cells cur 5) = w2 at *
  have c0 : w2.cell? ⟨p, 0, none⟩ = some (.slice a N.length c) := (HT.out.out HO1.out).cell 0
  go_wp2
  go_loopw [17, 4] (fun iv bv wr => ∃ (k : Nat) (O : List UInt8) (ba : Option Addr) (bc : Nat), iv = .int .i64 k ∧ bv = .slice ba O.length bc ∧ k ≤ N.length ∧ O.length ≤ 1000000000000 ∧ Hid (O = byP (N.take k)) ∧ Hid (OwB w.heap.size (.slice ba O.length bc) O wr) ∧ Hid (Out w wr)) (fun iv _ _ => N.length - (intOf iv).toNat)
  case atStart => exact ⟨0, [0], _, _, rfl, rfl, by omega, by simp, rfl, HW1.out, HO1.out⟩
  case round =>
    obtain ⟨k, O, ba, bc, rfl, rfl, hk, hOl, HO, HB, Ho⟩ := hrel
    by_cases hkN : k < N.length
    · have hlt : (k : Int) < N.length := by omega
      have h0 : (0 : Int) ≤ k := by omega
      obtain ⟨x, hx⟩ : ∃ x, N[k]? = some x := ⟨_, List.getElem?_eq_getElem hkN⟩
      obtain ⟨g, cap, hv, hc, d⟩ := own_cell (HT.out.out Ho.out).nm (k := k) (u := strV x) (by simp [hx])
      simp only [Value.slice.injEq] at hv
      obtain ⟨rfl, _, rfl⟩ := hv
      simp only [strV] at d
      have Hx := hidOf hx
      have hsz : (⟨x.toArray⟩ : ByteArray).size = x.length := mk_size x
      have hlen : szF 1 (N.take (k + 1)) = O.length + x.length + 1 := by rw [take_snoc hx, szF_snoc, ← byP_len, ← HO.out]
      have hle := szF_take N (k + 1)
      have hxl : O.length + x.length + 1 ≤ 1000000000000 := by have := Hb.out; omega
      have hsz' : w.heap.size ≤ wr.heap.size := Ho.out.size
      clear hx hlen hle
      go_wp2_with (first | (at_builtin; refine Lib.wpList_append_own_string _ rfl _ _ 22 9 rfl w.heap.size 5 i0 Tryz.underlying22 Tryz.underlying9 hi hz0 hz1 hz2 (.slice ba O.length bc) O.length (Lib.byteCells O) rfl HB.out ⟨x.toArray⟩ rfl (by rw [hsz]; unfold maxLen; omega) (by rw [hsz]; omega) hsz' ?_; intro v3 w3 hown3 hgrow3 _; rw [hsz, bc_str, ← bc_app] at hown3; have HO3 := hidOf hown3; have Ho3 := hidOf (out_row Ho.out HB.out hgrow3); clear hgrow3; obtain ⟨a3, c3, rfl⟩ := own_form hown3; clear hown3) | (at_builtin; refine wpList_append_own _ rfl (.tmp 24) (.tmp 25) 22 rfl w.heap.size 5 i0 _ 1 1 Tryz.underlying22 hi hz0 hz1 hz2 rfl (by decide) (.slice a3 (O.length + x.length) c3) (O.length + x.length) (Lib.byteCells (O ++ x)) rfl (HO3.out.alloc _) ⟨w3.heap.size, 0, none⟩ 1 1 [.int .u8 0] rfl rfl (news_new w3 _ _ _ rfl) (fun u hu => by rw [List.mem_singleton.1 hu]; rfl) (by unfold maxLen; omega) (by omega) (by have := Ho3.out.size; rw [size_alloc]; omega) ?_; intro v4 w4 hown4 hgrow4 _; have HO4 := hidOf hown4; have Ho4 := hidOf (out_row (Ho3.out.alloc _) (HO3.out.alloc _) hgrow4); clear hgrow4; obtain ⟨a4, c4, rfl⟩ := own_form hown4; clear hown4))
      go_roundw
      case rel =>
        have e1 : byP (N.take (k + 1)) = O ++ x ++ [0] := by rw [take_snoc Hx.out, byP_snoc, ← HO.out]
        have e2 : (byP (N.take (k + 1))).length = O.length + x.length + 1 := by rw [e1]; simp; omega
        refine ⟨k + 1, byP (N.take (k + 1)), a4, c4, by simp, by rw [e2], by omega, by rw [e2]; exact hxl, rfl, ?_, Ho4.out⟩
        show World.ownsRow _ _ _ _ _ _ _
        rw [e2, e1, bc_app]
        exact HO4.out
      case measure => simp [intOf]; omega
    · have hlt : ¬ (k : Int) < N.length := by omega
      obtain rfl : k = N.length := by omega
      rw [List.take_length] at HO
      have HO' := HO.out
      subst HO'
      go_wp2
      go_ret2
      exact ⟨_, _, rfl, HB.out, Ho.out⟩
end Go.Proofs.YthdgmhohofakgaaGreatDoor
