import Derived.Test.YtgephenkbbelcaaDoorDrb
namespace Go.Proofs.YtgephenkbbelcaaDoor
open Go.RowKit
set_option linter.unusedVariables false
set_option linter.unusedSimpArgs false
theorem refDecode_any (w : World) (a : Option Addr) (len cap : Nat) (B : List Int) (hlen : B.length = len) (hB : Byts B) (hA : BytA w a B) (hll : len ≤ 28147497671064) :
    Calls Tryd.prog 6 #[.slice a len cap] w fun e w' => ∃ v l k f, e = .returned (.tuple #[v, .int .i64 k, .int .i64 f]) ∧ DecIs may B l k f ∧ OwnI w w' v l ∧ Out w w' := by
  obtain ⟨i0, hi, hz0, hz1, hz2⟩ := info_parts info55
  have HB := hidOf hB
  have HA := hidOf hA
  have Hlen := hidOf hlen
  clear hB hA hlen
  go_enter Tryd.func6, Tryd.ntmps6
  go_wp2
  go_loopw [5, 6] (fun v i wr => ∃ (N s : Nat) (l : List Ins), 8 * s ≤ len ∧ i = .int .i64 s ∧ Hid (decN may B N = (l, 8 * s)) ∧ wr.ownsRow w.heap.size 42 5 v l.length (insV l) ∧ Hid (Out w wr)) (fun _ i _ => len - (8 * intOf i).toNat)
  case atStart => exact ⟨0, 0, [], by omega, rfl, hidOf rfl, World.ownsRow_nil _ _ _ _, hidOf (Out.refl _)⟩
  case round =>
    obtain ⟨N, s, l, hat, rfl, Hd, hown, Hout⟩ := hrel
    obtain ⟨A, hA⟩ : ∃ A, A = 8 * s := ⟨_, rfl⟩
    have hA8 : 8 * (s : Int) = A := by omega
    have HA8 := hidOf hA
    rw [← hA] at Hd hat
    clear hA
    by_cases hlt : A < len
    · have hlt' : (A : Int) < len := by omega
      obtain ⟨b, off, rfl, hc⟩ : ∃ b off, a = some ⟨b, off, none⟩ ∧ ∀ k, k < B.length → w.cell? ⟨b, off + k, none⟩ = some (.int .u8 (gB B k)) := by
        rcases HA.out with h | h
        · have := Hlen.out; simp [h] at this; omega
        · exact h
      have Hl5 : Hid (8 * l.length ≤ A) := by
        have := (decN_inv may B HB.out N).2.2.2.2
        rw [Hd.out] at this; exact this
      have HT : Hid (Calls Tryd.prog 15 #[.slice (some ⟨b, off, none⟩) len cap, .int .i64 s] wr (OneE (B.drop A) wr)) := hidOf (by
        have h := one_any wr b off len cap B Hlen.out HB.out (fun k hk => cell_later Hout.out (hc k (by rw [Hlen.out]; exact hk))) (by omega) s (by have := HA8.out; omega)
        rw [← HA8.out] at h; exact h)
      clear hc
      obtain ⟨E, he⟩ : ∃ E, errD may (B.drop A) = E := ⟨_, rfl⟩
      unfold OneE at HT
      rw [he] at HT
      have HE := hidOf he
      clear he
      cases hE : (E != 0)
      · obtain rfl : E = 0 := by simpa using hE
        have Hsz := hidOf (enc_dec may (B.drop A) (HB.out.drop _) HE.out)
        go_upto_region 7 with (first | (go_at_call 15; refine HT.out.mono ?_; rintro e w1 ⟨xo, xd, xs, xf, xi, kz, rfl, hfin, ho1⟩; have HF := hidOf (hfin rfl); have Ho1 := hidOf ho1; clear hfin ho1))
        have Hz : Hid (sizeD (B.drop A) ≤ len - A) := by
          have := Hsz.out.2.1
          rw [List.length_drop, Hlen.out] at this; exact this
        have Hz8 := hidOf (sizeD_pos (B.drop A))
        have Hst := hidOf (decN_step Hd.out (by have := Hlen.out; omega) HE.out)
        rw [← HF.out.1] at Hst
        have HK := hidOf HF.out.2
        clear HF
        generalize sizeD (B.drop A) = z at *
        have hz : z ≤ len - A := Hz.out
        have hz8 : 8 ≤ z := Hz8.out
        obtain ⟨kn, rfl⟩ : ∃ kn : Nat, kz = kn := ⟨kz.toNat, by have := HK.out; omega⟩
        have hkz : 8 * kn = z := by have := HK.out; omega
        have hll5 : l.length < 3518437208883 := by have := Hl5.out; omega
        have Hown := hidOf (owns_out (owns_out (owns_out hown Ho1.out) ((Out.refl _).alloc (.cells #[.int .i64 xo, .int .i64 xd, .int .i64 xs, .int .i64 xf, .int .i64 xi] 42))) ((Out.refl _).alloc (.cells #[.int .i64 xo, .int .i64 xd, .int .i64 xs, .int .i64 xf, .int .i64 xi] 42)))
        have HoutX : Hid (Out w ((w1.alloc (.cells #[.int .i64 xo, .int .i64 xd, .int .i64 xs, .int .i64 xf, .int .i64 xi] 42)).alloc (.cells #[.int .i64 xo, .int .i64 xd, .int .i64 xs, .int .i64 xf, .int .i64 xi] 42))) := Out.alloc (Out.alloc (Out.trans Hout.out Ho1.out) _) _
        clear hown HT Hz Hz8 HK
        have hsk : (s : Int) + kn ≤ 28147497671064 := by omega
        go_wp2_with (first | (at_builtin; go_loud (refine wpList_append_own _ rfl (.tmp 26) (.tmp 28) 30 rfl w.heap.size 42 i0 _ 5 40 Tryd.underlying30 hi hz0 hz1 hz2 rfl (by decide) _ _ _ rfl Hown.out ⟨w1.heap.size + 1, 0, none⟩ 1 1 [.int .i64 xo, .int .i64 xd, .int .i64 xs, .int .i64 xf, .int .i64 xi] rfl rfl (news_new _ #[.int .i64 xo, .int .i64 xd, .int .i64 xs, .int .i64 xf, .int .i64 xi] _ _ (by rw [size_alloc])) (ins_one ⟨xo, xd, xs, xf, xi⟩) (by simp only [maxLen]; omega) (by omega) HoutX.out.size ?_); intro v1 w2 hown2 hgrow2 _))
        go_roundw
        case rel =>
          refine ⟨N + 1, s + kn, l ++ [⟨xo, xd, xs, xf, xi⟩], by have := HA8.out; omega, by simp, ?_, ?_, hidOf (out_grow (wr := w) rfl Hown.out HoutX.out hgrow2)⟩
          · have h := Hst.out
            rw [show A + z = 8 * (s + kn) by have := HA8.out; omega] at h
            exact hidOf h
          · rw [insV_snoc, List.length_append]
            exact hown2
        case measure => simp [intOf]; have := HA8.out; omega
      · go_wp2_with (first | (go_at_call 15; refine HT.out.mono ?_; rintro e w1 ⟨xo, xd, xs, xf, xi, size, rfl, hfin, ho1⟩))
        go_ret3
        refine ⟨.slice none 0 0, [], (s : Int), E, rfl, ⟨N, ?_, .inr ⟨rfl, ?_, ?_, ?_, ?_⟩⟩, World.ownsRow_nil _ _ _ _, Out.alloc (Out.trans Hout.out ho1) _⟩
        · unfold Stuck; rw [Hd.out]; simp only; rw [HE.out]
          intro h; simp [h.2] at hE
        · rw [Hd.out]; have := Hlen.out; simp only; omega
        · rw [Hd.out]; have := HA8.out; simp only; omega
        · rw [Hd.out]; exact HE.out.symm
        · simpa using hE
    · have hlt' : ¬ (A : Int) < len := by omega
      obtain rfl : A = len := by omega
      go_wp2
      go_ret3
      refine ⟨_, l, 0, 0, rfl, ⟨N, ?_, .inl ⟨?_, ?_, rfl, rfl⟩⟩, hown, Hout.out⟩
      · unfold Stuck; rw [Hd.out]; simp only; have := Hlen.out; omega
      · rw [Hd.out]
      · rw [Hd.out]; exact Hlen.out.symm
end Go.Proofs.YtgephenkbbelcaaDoor
