import Derived.Test.YtgephenkbbelcaaDoorPk
namespace Go.Proofs.YtgephenkbbelcaaDoor
open Go.RowKit
set_option linter.unusedVariables false
set_option linter.unusedSimpArgs false
theorem dec_small (B : List Int) (hB : Byts B) (h : B.length ≤ 28147497671064) (N : Nat) (_ : errD may (B.drop (decN may B N).2) = 0) (hl : (decN may B N).2 < B.length) : (decN may B N).1.length < 3518437208883 := by
  have := (decN_inv may B hB N).2.2.2.2
  omega
theorem dec_many (l : List Ins) (h : ∀ x ∈ l, Fit x ∧ may x = 0) (hm : l.length ≤ 3518437208883) (N : Nat) (_ : errD may ((encL l).drop (decN may (encL l) N).2) = 0) (hl : (decN may (encL l) N).2 < (encL l).length) : (decN may (encL l) N).1.length < 3518437208883 := by
  have key : ∀ n, n ≤ l.length → decN may (encL l) n = (l.take n, (encL (l.take n)).length) := by
    have := decN_enc may l [] h
    rwa [List.append_nil] at this
  by_cases hN : N < l.length
  · rw [key N (by omega)]; simp; omega
  · have e1 := key l.length (Nat.le_refl _)
    rw [List.take_length] at e1
    have hs : Stuck may (encL l) l.length := by unfold Stuck; rw [e1]; simp
    have e2 : decN may (encL l) N = decN may (encL l) l.length := by
      obtain ⟨q, rfl⟩ := Nat.exists_eq_add_of_le (show l.length ≤ N by omega)
      exact stuck_later hs q
    rw [e2, e1] at hl
    simp at hl
def exitI : Ins := ⟨149, 0, 0, 0, 0⟩
theorem exit_may : may exitI = 0 := by decide +kernel
theorem exit_enc : encL [exitI] = [149, 0, 0, 0, 0, 0, 0, 0] := by decide +kernel
theorem exit_fit : Fit exitI := may_fit exitI exit_may (by decide) (by decide)
theorem exit_dec : DecIs may [149, 0, 0, 0, 0, 0, 0, 0] [exitI] 0 0 := by
  rw [← exit_enc]
  exact dec_back may [exitI] (fun x hx => by simp at hx; subst hx; exact ⟨exit_fit, exit_may⟩)
theorem exit_byts : Byts [149, 0, 0, 0, 0, 0, 0, 0] := by rw [← exit_enc]; exact encL_byts _
theorem insA_one (w : World) (b : Nat) (x : Ins) (c0 : w.cell? ⟨b, 0, none⟩ = some (.int .i64 x.o)) (c1 : w.cell? ⟨b, 1, none⟩ = some (.int .i64 x.d)) (c2 : w.cell? ⟨b, 2, none⟩ = some (.int .i64 x.s)) (c3 : w.cell? ⟨b, 3, none⟩ = some (.int .i64 x.f)) (c4 : w.cell? ⟨b, 4, none⟩ = some (.int .i64 x.i)) : InsA w (some ⟨b, 0, none⟩) [x] :=
  .inr ⟨b, 0, rfl, fun k y hy => by
    match k, hy with
    | 0, hy => cases hy; exact ⟨c0, c1, c2, c3, c4⟩⟩
theorem enc_ok {w w' : World} {l : List Ins} {v : Value} {k f : Int} (h : EncIs w w' l v k f) (hm : ∀ x ∈ l, may x = 0) : k = 0 ∧ f = 0 ∧ OwnB w w' v (encL l) ∧ ∃ g, w.heap.size ≤ g ∧ v = .slice (some ⟨g, 0, none⟩) (encL l).length (encL l).length := by
  rcases h with ⟨_, href, hne⟩ | ⟨h0, h1, _, h2, h3⟩
  · exact absurd (href.one (.inl ⟨hm, rfl, rfl⟩)).2 hne
  · exact ⟨h0, h1, h2, h3⟩
def exitC : Obj := .cells #[.int .i64 149, .int .i64 0, .int .i64 0, .int .i64 0, .int .i64 0] 42
theorem awake_any (w : World) (ht : Tabs w) : Calls Tryd.prog 4 #[] w fun e w' => e = .returned (.bool true) ∧ Out w w' := by
  have Ht := hidOf ht
  have HE := hidOf (encode_any ((w.alloc (.cells #[.int .i64 149, .int .i64 0, .int .i64 0, .int .i64 0, .int .i64 0] 42)).alloc (.cells #[.int .i64 149, .int .i64 0, .int .i64 0, .int .i64 0, .int .i64 0] 42)) (ht.out (((Out.refl w).alloc _).alloc _)) (some ⟨w.heap.size + 1, 0, none⟩) 1 1 [exitI] rfl (insA_one _ _ exitI (cell_fresh _ _ _ _ _ (by rw [size_alloc])) (cell_fresh _ _ _ _ _ (by rw [size_alloc])) (cell_fresh _ _ _ _ _ (by rw [size_alloc])) (cell_fresh _ _ _ _ _ (by rw [size_alloc])) (cell_fresh _ _ _ _ _ (by rw [size_alloc]))) (by omega) (fun x hx => by simp at hx; subst hx; decide))
  have B0 := Box.new w 149 0 0 0 0 42
  have HB := hidOf B0
  clear ht B0
  go_enter Tryd.func4, Tryd.ntmps4
  go_upto_region 3 with (first | (go_at_call 13; refine HE.out.mono ?_; rintro e w1 ⟨v, k, f, rfl, henc, ho1⟩))
  obtain ⟨rfl, rfl, hown, g, hg, rfl⟩ := enc_ok henc (fun x hx => by simp at hx; subst hx; exact exit_may)
  rw [exit_enc]
  have hlt : g < w1.heap.size := (World.ownsRow.lt hown g rfl).2
  have Hg : Hid (w1.cell? ⟨g, 0, none⟩ = some (.int .u8 149)) := by
    obtain ⟨a, cap, e1, e2, _⟩ := owns_bytA hown
    rw [exit_enc] at e2
    cases e1
    rcases e2 with h | ⟨b, off, h, hc⟩
    · simp at h
    · cases h; exact hc 0 (by simp)
  have HB1 := hidOf (Box.chg (S := fun _ => False) HB.out (Chg.of_out (Out.trans ((Out.refl _).alloc exitC) ho1)) (fun h => h))
  have Hout1 : Hid (Out w w1) := Out.trans (((Out.refl w).alloc _).alloc _) ho1
  clear henc hown ho1 hg HE HB
  have HD := hidOf (decode_any (w1.alloc (.cells #[.int .u8 149, .int .u8 0, .int .u8 0, .int .u8 0, .int .u8 0, .int .u8 0, .int .u8 0, .int .u8 0] 5)) ((Ht.out.out Hout1.out).out ((Out.refl _).alloc _)) (some ⟨w1.heap.size, 0, none⟩) 8 8 [149, 0, 0, 0, 0, 0, 0, 0] rfl exit_byts (.inr ⟨w1.heap.size, 0, rfl, fun k hk => by
    rw [cell_fresh _ _ _ _ _ rfl]
    simp at hk
    match k, hk with
    | 0, _ => rfl
    | 1, _ => rfl
    | 2, _ => rfl
    | 3, _ => rfl
    | 4, _ => rfl
    | 5, _ => rfl
    | 6, _ => rfl
    | 7, _ => rfl⟩) (by omega) (by omega) (dec_small _ exit_byts (by simp)))
  go_upto_region 4 with (first | (go_at_call 8; refine HD.out.mono ?_; rintro e w2 ⟨v, l, k, f, rfl, hdec, hown, ho2⟩))
  obtain ⟨rfl, rfl, rfl⟩ := hdec.one exit_dec
  obtain ⟨a, cap, rfl, hA, hcap⟩ := owns_insA hown
  have ho12 : Out w1 w2 := Out.trans ((Out.refl w1).alloc _) ho2
  have HB2 := Box.chg (S := fun _ => False) HB1.out (Chg.of_out ho12) (fun h => h)
  have hg0 := cell_later ho12 Hg.out
  have Hout : Hid (Out w w2) := Out.trans Hout1.out ho12
  rcases hA with h | ⟨b, off, rfl, hc⟩
  · simp at h
  obtain ⟨x0, x1, x2, x3, x4⟩ := hc 0 exitI rfl
  obtain ⟨y0, y1, y2, y3, y4⟩ := HB2
  simp only [exitI] at x0 x1 x2 x3 x4
  clear hc hdec hown ho2 HD HB1 Hg Hout1 Ht hcap ho12
  simp only [List.length_cons, List.length_nil, Nat.zero_add, Nat.zero_mul, Nat.add_zero] at *
  go_quiet ((go_at_call 9; exact Calls.quiet_of_same ((num_any _ _).mono fun e w' h => ⟨h.1, h.2.symm⟩)))
  go_wp2
  go_ret
  exact ⟨rfl, Hout.out.drewN _⟩
end Go.Proofs.YtgephenkbbelcaaDoor
