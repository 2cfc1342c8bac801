import Derived.Test.YtoobdcjkhphlcaaRgb
namespace Go.Proofs.Ytoobdcjkhphlcaa
open Go.RowKit
set_option linter.unusedVariables false
set_option linter.unusedSimpArgs false
theorem xor8 (a z : Nat) (ha : a < 256) (hz : z < 256) : bits BinOp.xor IntKind.u8 (a : Int) (z : Int) = ((a ^^^ z : Nat) : Int) := by
  have hx : a ^^^ z < 2 ^ 8 := Nat.xor_lt_two_pow (by omega) (by omega)
  have h1 : (BitVec.ofInt 8 (a : Int)).toNat = a := by
    rw [BitVec.ofInt_natCast, BitVec.toNat_ofNat]; exact Nat.mod_eq_of_lt (by omega)
  have h2 : (BitVec.ofInt 8 (z : Int)).toNat = z := by
    rw [BitVec.ofInt_natCast, BitVec.toNat_ofNat]; exact Nat.mod_eq_of_lt (by omega)
  show IntKind.u8.wrap ((BitVec.ofInt 8 (a : Int) ^^^ BitVec.ofInt 8 (z : Int)).toNat : Int) = _
  rw [BitVec.toNat_xor, h1, h2, IntKind.wrap_u8]
  omega
set_option maxRecDepth 20000 in
set_option maxHeartbeats 3000000 in
theorem turned_any (w : World) (a : Option Addr) (cap : Nat) (l : List UInt8) (hr : RestAt w.heap.size w a l) (hll : l.length ≤ 140737488351232) : Calls Try.prog 11 #[.slice a l.length cap] w fun e w' => ∃ v, e = .returned v ∧ ∃ O, O.length = l.length ∧ OwB w.heap.size v O w' ∧ Out w w' := by
  have HR := hidOf hr
  obtain ⟨i0, hi, hz0, hz1, hz2⟩ := info_parts infoB
  clear hr
  go_enter Try.func11, Try.ntmps11
  go_wp2
  go_loopw [3, 4] (fun lv kv wr => ∃ (k : Nat) (O : List UInt8) (al : Option Addr) (cl : Nat), lv = .slice al O.length cl ∧ kv = .int .i64 k ∧ k ≤ l.length ∧ O.length = k ∧ Hid (OwB w.heap.size (.slice al O.length cl) O wr) ∧ Hid (Out w wr)) (fun _ kv _ => l.length - (intOf kv).toNat)
  case atStart => exact ⟨0, [], none, 0, rfl, rfl, by omega, rfl, hidOf ⟨rfl, .inl ⟨rfl, rfl⟩⟩, hidOf (Out.refl w)⟩
  case round =>
    obtain ⟨k, O, al, cl, rfl, rfl, hk, hOl, HOB, HO⟩ := hrel
    by_cases hlt : k < l.length
    · have hltI : (k : Int) < l.length := by omega
      have hk0 : (0 : Int) ≤ k := by omega
      obtain ⟨y, hy⟩ : ∃ y, l[k]? = some y := ⟨_, List.getElem?_eq_getElem hlt⟩
      obtain ⟨g, o, hg, rfl, hcx⟩ := HR.out.resolve_left (fun e => by rw [e] at hlt; simp at hlt)
      have qy := cell_later HO.out (hcx k y hy)
      have hy256 := y.toNat_lt
      clear hcx hy
      by_cases d1 : k % 16 = 12
      · have d1B : ((k : Int) % 16 == 12) = true := by simp; omega
        · obtain ⟨z, hz⟩ : ∃ z : UInt8, bits BinOp.xor IntKind.u8 (y.toNat : Int) 2 = (z.toNat : Int) := ⟨UInt8.ofNat (y.toNat ^^^ 2), by rw [show (2 : Int) = ((2 : Nat) : Int) from rfl, xor8 y.toNat 2 hy256 (by omega), UInt8.toNat_ofNat_of_lt' (by show y.toNat ^^^ 2 < 256; exact Nat.xor_lt_two_pow (n := 8) (by omega) (by omega))]⟩
          clear d1 hy256
          obtain ⟨P, hP⟩ : ∃ P, P = O ++ [z] := ⟨_, rfl⟩
          have hPl : P.length = k + 1 := by rw [hP]; simp; omega
          have HP := hidOf hP
          have HPl := hidOf hPl
          have HOl := hidOf hOl
          clear hP hPl hOl
          go_wp2_with (at_builtin; refine wpList_append_own _ rfl (.tmp 21) (.tmp 23) 30 rfl w.heap.size 5 i0 _ 1 1 Try.underlying30 hi hz0 hz1 hz2 rfl (by decide) (.slice al O.length cl) O.length (Lib.byteCells O) rfl (HOB.out.out ((Out.refl wr).alloc _)) ⟨wr.heap.size, 0, none⟩ 1 1 [.int .u8 (z.toNat : Int)] rfl rfl (news_new wr _ _ _ rfl) (fun u hu => by rw [List.mem_singleton.1 hu]; rfl) (by unfold maxLen; have := HOl.out; omega) (by have := HOl.out; omega) (by have := HO.out.size; rw [size_alloc]; omega) ?_; intro v' w3 hown' hgrow _; have H3 := hidOf (out_row (HO.out.alloc _) (HOB.out.out ((Out.refl wr).alloc _)) hgrow); have HN : Hid (OwB w.heap.size v' P w3) := hidOf (by unfold OwB; rw [HP.out, bc_app, List.length_append]; exact hown'); obtain ⟨ad', cp', rfl⟩ : ∃ ad cp, v' = .slice ad P.length cp := own_form HN.out; clear hown' hgrow)
          go_roundw
          case rel => exact ⟨k + 1, P, ad', cp', rfl, by simp, by omega, HPl.out, HN, H3⟩
          case measure => simp [intOf]; omega
      · have d1B : ((k : Int) % 16 == 12) = false := by simp; omega
        · obtain ⟨z, hz⟩ : ∃ z : UInt8, (y.toNat : Int) = (z.toNat : Int) := ⟨y, rfl⟩
          clear d1 hy256
          obtain ⟨P, hP⟩ : ∃ P, P = O ++ [z] := ⟨_, rfl⟩
          have hPl : P.length = k + 1 := by rw [hP]; simp; omega
          have HP := hidOf hP
          have HPl := hidOf hPl
          have HOl := hidOf hOl
          clear hP hPl hOl
          go_wp2_with (at_builtin; refine wpList_append_own _ rfl (.tmp 21) (.tmp 23) 30 rfl w.heap.size 5 i0 _ 1 1 Try.underlying30 hi hz0 hz1 hz2 rfl (by decide) (.slice al O.length cl) O.length (Lib.byteCells O) rfl (HOB.out.out ((Out.refl wr).alloc _)) ⟨wr.heap.size, 0, none⟩ 1 1 [.int .u8 (z.toNat : Int)] rfl rfl (news_new wr _ _ _ rfl) (fun u hu => by rw [List.mem_singleton.1 hu]; rfl) (by unfold maxLen; have := HOl.out; omega) (by have := HOl.out; omega) (by have := HO.out.size; rw [size_alloc]; omega) ?_; intro v' w3 hown' hgrow _; have H3 := hidOf (out_row (HO.out.alloc _) (HOB.out.out ((Out.refl wr).alloc _)) hgrow); have HN : Hid (OwB w.heap.size v' P w3) := hidOf (by unfold OwB; rw [HP.out, bc_app, List.length_append]; exact hown'); obtain ⟨ad', cp', rfl⟩ : ∃ ad cp, v' = .slice ad P.length cp := own_form HN.out; clear hown' hgrow)
          go_roundw
          case rel => exact ⟨k + 1, P, ad', cp', rfl, by simp, by omega, HPl.out, HN, H3⟩
          case measure => simp [intOf]; omega
    · have hltI : ¬ (k : Int) < l.length := by omega
      have hkl : O.length = l.length := by omega
      have HK := hidOf hkl
      clear hkl hOl
      go_wp2
      go_ret
      exact ⟨_, rfl, O, HK.out, HOB.out, HO.out⟩
end Go.Proofs.Ytoobdcjkhphlcaa
