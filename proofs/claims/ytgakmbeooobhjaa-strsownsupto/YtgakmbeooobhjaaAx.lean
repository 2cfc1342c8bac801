import Derived.Test.YtgakmbeooobhjaaAu
import Derived.Test.YtgakmbeooobhjaaAp
namespace Go.Proofs.Ytgakmbeooobhjaa
open Go.RowKit
open Go.Maps (Keyed)
set_option linter.unusedVariables false
set_option linter.unusedSimpArgs false
theorem owns_void (w : World) (B size : Nat) (e : TypeId) (hB : B ≤ w.heap.size) : (w.alloc (.cells #[] e)).ownsRow B e size (.slice (some ⟨w.heap.size, 0, none⟩) 0 0) 0 [] :=
  ⟨by simp, .inr ⟨w.heap.size, 0, #[], rfl, hB, heap_alloc_new w _, Nat.le_refl _, by decide, by simp, by simp⟩⟩
theorem OwB.out {B : Nat} {v : Value} {O : List UInt8} {w w' : World} (h : OwB B v O w) (o : Out w w') : OwB B v O w' := owns_chg (S := fun _ => False) h (fun _ _ h => h) (Chg.of_out o)
theorem OwS.out {B : Nat} {v : Value} {O : List (List UInt8)} {w w' : World} (h : OwS B v O w) (o : Out w w') : OwS B v O w' := owns_chg (S := fun _ => False) h (fun _ _ h => h) (Chg.of_out o)
set_option maxHeartbeats 800000 in
theorem copyBytes_any (w : World) (a : Option Addr) (cap : Nat) (l : List UInt8) (hr : RestAt w.heap.size w a l) (hll : l.length ≤ 140737488351232) : Calls Try.prog 25 #[.slice a l.length cap] w fun e w' => ∃ v, e = .returned v ∧ OwB w.heap.size v l w' ∧ Out w w' := by
  obtain ⟨i0, hi, hz0, hz1, hz2⟩ := info_parts infoB
  have H0 := hidOf (owns_void w w.heap.size 1 5 (Nat.le_refl _))
  cases a with
  | none =>
    obtain rfl : l = [] := by
      rcases hr with h | ⟨b, off, _, h, _⟩
      · exact h
      · cases h
    simp only [List.length_nil]
    go_enter Try.func25, Try.ntmps25
    go_wp2
    go_ret
    exact ⟨_, rfl, H0.out, Out.alloc (Out.refl _) _⟩
  | some ad =>
    have HC : Hid (∀ j u, (Lib.byteCells l)[j]? = some u → (w.alloc (.cells #[] 5)).cell? (ad.add j) = some u) := fun j u hu => by
      simp only [Lib.byteCells, List.getElem?_map, Option.map_eq_some_iff] at hu
      obtain ⟨x, hx, rfl⟩ := hu
      rcases hr with rfl | ⟨b, off, _, h, hc⟩
      · simp at hx
      · cases h
        rw [WideShapes.add_plain]
        exact cell_later ((Out.refl w).alloc _) (hc j x hx)
    clear hr
    go_enter Try.func25, Try.ntmps25
    go_wp2_with (at_builtin; refine wpList_append_own _ rfl (.tmp 3) (.tmp 4) 22 rfl w.heap.size 5 i0 _ 1 1 Try.underlying22 hi hz0 hz1 hz2 rfl (by decide) (.slice (some ⟨w.heap.size, 0, none⟩) 0 0) 0 [] rfl H0.out ad l.length cap (Lib.byteCells l) rfl (by rw [Lib.byteCells_length, Nat.mul_one]) HC.out (bc_one l) (by unfold maxLen; omega) (by omega) (by rw [size_alloc]; omega) ?_; intro v' w3 hown' hgrow _; have H3 := hidOf (out_row ((Out.refl w).alloc _) H0.out hgrow); have HN := hidOf hown'; clear hown' hgrow)
    go_ret
    refine ⟨_, rfl, ?_, H3.out⟩
    have := HN.out
    rw [Nat.zero_add, List.nil_append] at this
    exact this
theorem sameTexts_any (a b : Option Addr) (c d : Nat) (N : List (List UInt8)) (w : World) (h : RT w a N) (h' : RT w b N) (hc : N.length ≤ c) (hd : N.length ≤ d) (hn : N.length ≤ 1000000000000) : Calls Try.prog 31 #[.slice a N.length c, .slice b N.length d] w fun e w' => e = .returned (.bool true) ∧ ∃ m, w' = w.drewN m := by
  have hcI : (N.length : Int) ≤ c := by omega
  have hdI : (N.length : Int) ≤ d := by omega
  have H := hidOf h
  have H' := hidOf h'
  have hee : ((N.length : Int) != (N.length : Int)) = false := by simp
  clear h h'
  go_enter Try.func31, Try.ntmps31
  go_wp2
  go_loopw [5] (fun iv wr => ∃ k m : Nat, iv = .int .i64 k ∧ k ≤ N.length ∧ wr = w.drewN m) (fun iv _ => N.length - (intOf iv).toNat)
  case atStart => exact ⟨0, 0, rfl, by omega, rfl⟩
  case round =>
    obtain ⟨k, m, rfl, hk, rfl⟩ := hrel
    by_cases hkN : k < N.length
    · have hlt : (k : Int) < N.length := by omega
      have h0 : (0 : Int) ≤ k := by omega
      obtain ⟨y, hy⟩ : ∃ y, N[k]? = some y := ⟨_, List.getElem?_eq_getElem hkN⟩
      obtain ⟨g, off, rfl, hb, q⟩ := StrAt.get H.out hy
      obtain ⟨g', off', rfl, hb', q'⟩ := StrAt.get H'.out hy
      have q1 : ∀ m, (w.drewN m).cell? ⟨g, off + k, none⟩ = some (.string ⟨y.toArray⟩) := fun m => q
      have q2 : ∀ m, (w.drewN m).cell? ⟨g', off' + k, none⟩ = some (.string ⟨y.toArray⟩) := fun m => q'
      clear hy hb hb' q q'
      go_wp2_with (go_quiet (fail))
      go_roundw
      case rel => exact ⟨k + 1, _, by simp, by omega, rfl⟩
      case measure => simp [intOf]; omega
    · have hlt : ¬ (k : Int) < N.length := by omega
      go_wp2
      go_ret
      exact ⟨rfl, _, rfl⟩
def trU (b : UInt8) : UInt8 := if 1 < b.toNat then b - 1 else b
set_option maxRecDepth 20000 in
set_option maxHeartbeats 3000000 in
theorem turned_any (w : World) (a : Option Addr) (cap : Nat) (l : List UInt8) (hr : RestAt w.heap.size w a l) (hcap : l.length ≤ cap) (hll : l.length ≤ 140737488351232) : Calls Try.prog 12 #[.slice a l.length cap] w fun e w' => ∃ v, e = .returned v ∧ ∃ O, O.length = l.length ∧ OwB w.heap.size v O w' ∧ Out w w' := by
  have HR := hidOf hr
  have hcI : (l.length : Int) ≤ cap := by omega
  obtain ⟨i0, hi, hz0, hz1, hz2⟩ := info_parts infoB
  clear hr
  go_enter Try.func12, Try.ntmps12
  go_wp2
  go_loopw [3, 4] (fun lv kv wr => ∃ (k : Nat) (O : List UInt8) (al : Option Addr) (cl : Nat), lv = .slice al O.length cl ∧ kv = .int .i64 k ∧ k ≤ l.length ∧ Hid (O.length = k) ∧ O.length ≤ 140737488351232 ∧ Hid (OwB w.heap.size (.slice al O.length cl) O wr) ∧ Hid (Out w wr)) (fun _ kv _ => l.length - (intOf kv).toNat)
  case atStart => exact ⟨0, [], none, 0, rfl, rfl, by omega, hidOf rfl, by simp, hidOf (World.ownsRow_nil _ _ _ _), hidOf (Out.refl w)⟩
  case round =>
    obtain ⟨k, O, al, cl, rfl, rfl, hk, HOl, hO9, HOB, HO⟩ := hrel
    by_cases hlt : k < l.length
    · have hltI : (k : Int) < l.length := by omega
      obtain ⟨y, hy⟩ : ∃ y, l[k]? = some y := ⟨_, List.getElem?_eq_getElem hlt⟩
      obtain ⟨g, o, hg, rfl, hcx⟩ : ∃ g o, g < w.heap.size ∧ a = some ⟨g, o, none⟩ ∧ ∀ k y, l[k]? = some y → w.cell? ⟨g, o + k, none⟩ = some (.int .u8 (y.toNat : Int)) := by
        rcases HR.out with h | h
        · rw [h] at hlt; simp at hlt
        · exact h
      have qy := cell_later HO.out (hcx k y hy)
      have hy256 := y.toNat_lt
      have hsw : w.heap.size ≤ wr.heap.size := HO.out.size
      have hOk : Hid (O.length + 1 ≤ 140737488351232) := hidOf (by have := HOl.out; omega)
      clear hcx hy
      by_cases d1 : 1 < y.toNat
      · have d1I : (1 : Int) < y.toNat := by omega
        obtain ⟨z, hz⟩ : ∃ z : UInt8, (y.toNat : Int) - 1 = (z.toNat : Int) := ⟨UInt8.ofNat (y.toNat - 1), by rw [UInt8.toNat_ofNat_of_lt' (by show y.toNat - 1 < 256; omega)]; omega⟩
        go_wp2_with (at_builtin; refine wpList_append_own _ rfl (.tmp 20) (.tmp 22) 22 rfl w.heap.size 5 i0 _ 1 1 Try.underlying22 hi hz0 hz1 hz2 rfl (by decide) (.slice al O.length cl) O.length (Lib.byteCells O) rfl (HOB.out.out ((Out.refl wr).alloc _)) ⟨wr.heap.size, 0, none⟩ 1 1 [.int .u8 (z.toNat : Int)] rfl rfl (news_new wr _ _ _ rfl) (fun u hu => by rw [List.mem_singleton.1 hu]; rfl) (by unfold maxLen; omega) (by omega) (by rw [size_alloc]; omega) ?_; intro v' w3 hown' hgrow _; have H3 := hidOf (out_row (HO.out.alloc _) (HOB.out.out ((Out.refl wr).alloc _)) hgrow); have HN := hidOf hown'; obtain ⟨ad', cp', rfl⟩ := own_form hown'; clear hown' hgrow)
        go_roundw
        case rel =>
          have eO : (O ++ [z]).length = O.length + 1 := by simp
          refine ⟨k + 1, O ++ [z], ad', cp', by rw [eO], by simp, by omega, hidOf (by rw [eO, HOl.out]), by rw [eO]; exact hOk.out, hidOf ?_, H3⟩
          show World.ownsRow _ _ _ _ _ _ _
          rw [eO, bc_app]
          exact HN.out
        case measure => simp [intOf]; omega
      · have d1I : ¬ (1 : Int) < y.toNat := by omega
        go_wp2_with (at_builtin; refine wpList_append_own _ rfl (.tmp 20) (.tmp 22) 22 rfl w.heap.size 5 i0 _ 1 1 Try.underlying22 hi hz0 hz1 hz2 rfl (by decide) (.slice al O.length cl) O.length (Lib.byteCells O) rfl (HOB.out.out ((Out.refl wr).alloc _)) ⟨wr.heap.size, 0, none⟩ 1 1 [.int .u8 (y.toNat : Int)] rfl rfl (news_new wr _ _ _ rfl) (fun u hu => by rw [List.mem_singleton.1 hu]; rfl) (by unfold maxLen; omega) (by omega) (by rw [size_alloc]; omega) ?_; intro v' w3 hown' hgrow _; have H3 := hidOf (out_row (HO.out.alloc _) (HOB.out.out ((Out.refl wr).alloc _)) hgrow); have HN := hidOf hown'; obtain ⟨ad', cp', rfl⟩ := own_form hown'; clear hown' hgrow)
        go_roundw
        case rel =>
          have eO : (O ++ [y]).length = O.length + 1 := by simp
          refine ⟨k + 1, O ++ [y], ad', cp', by rw [eO], by simp, by omega, hidOf (by rw [eO, HOl.out]), by rw [eO]; exact hOk.out, hidOf ?_, H3⟩
          show World.ownsRow _ _ _ _ _ _ _
          rw [eO, bc_app]
          exact HN.out
        case measure => simp [intOf]; omega
    · have hltI : ¬ (k : Int) < l.length := by omega
      go_wp2
      go_ret
      exact ⟨_, rfl, O, by rw [HOl.out]; omega, HOB.out, HO.out⟩
end Go.Proofs.Ytgakmbeooobhjaa
