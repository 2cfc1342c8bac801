import Derived.Test.YtgephenkbbelcaaDoorPi
namespace Go.Proofs.YtgephenkbbelcaaDoor
open Go.RowKit
set_option linter.unusedVariables false
set_option linter.unusedSimpArgs false
def Ins.cs (x : Ins) : List Value := [.int .i64 x.o, .int .i64 x.d, .int .i64 x.s, .int .i64 x.f, .int .i64 x.i]
def insV (l : List Ins) : List Value := l.flatMap Ins.cs
theorem insV_len (l : List Ins) : (insV l).length = l.length * 5 := by
  induction l with
  | nil => rfl
  | cons x r ih => show (x.cs ++ insV r).length = _; rw [List.length_append, ih]; simp [Ins.cs]; omega
theorem insV_snoc (l : List Ins) (x : Ins) : insV (l ++ [x]) = insV l ++ x.cs := by simp [insV, List.flatMap_append]
theorem info55 : (Tryd.prog.info? 42).map (fun i => (i.zero, i.size, i.bytes)) = some (some (.agg #[.int .i64 0, .int .i64 0, .int .i64 0, .int .i64 0, .int .i64 0]), 5, 40) := by kernel_rfl
/-- instructions in memory of the call's own -/
def OwnI (w w' : World) (v : Value) (l : List Ins) : Prop := w'.ownsRow w.heap.size 42 5 v l.length (insV l)
theorem owns_chg {B size : Nat} {S : Nat → Prop} {w w' : World} {e : TypeId} {v : Value} {n : Nat} {xs : List Value} (h : w.ownsRow B e size v n xs) (hs : ∀ k, v.ownBlock = some k → ¬ S k) (hc : Chg S w w') : w'.ownsRow B e size v n xs := by
  refine ⟨h.1, ?_⟩
  rcases h.2 with hn | ⟨g, cap, cur, rfl, hb, hg, rest⟩
  · exact .inl hn
  · refine .inr ⟨g, cap, cur, rfl, hb, ?_, rest⟩
    rw [hc.block g (Array.getElem?_eq_some_iff.1 hg).1 (hs g rfl)]
    exact hg
theorem owns_out {B size : Nat} {w w' : World} {e : TypeId} {v : Value} {n : Nat} {xs : List Value} (h : w.ownsRow B e size v n xs) (o : Out w w') : w'.ownsRow B e size v n xs := owns_chg (S := fun _ => False) h (fun _ _ h => h) (Chg.of_out o)
theorem out_grow {B size n : Nat} {w wr X w1 : World} {e : TypeId} {v : Value} {xs : List Value} (hB : B = w.heap.size) (h : X.ownsRow B e size v n xs) (o : Out w X) (hg : X.grownBy w1 v.ownBlock) : Out w w1 :=
  Chg.out (S := fun k => v.ownBlock = some k) (Chg.of_grown hg (fun k h => h)) o (fun k hk => by have := (h.lt k hk).1; omega)
theorem news_new (w : World) (cs : Array Value) (t : TypeId) (b : Nat) (hb : b = w.heap.size) : ∀ j u, cs.toList[j]? = some u → (w.alloc (.cells cs t)).cell? ((⟨b, 0, none⟩ : Addr).add j) = some u := by
  intro j u hu
  rw [WideShapes.add_plain, Nat.zero_add, cell_fresh _ _ _ _ _ hb]
  simpa using hu
theorem ins_one (x : Ins) : ∀ u ∈ x.cs, u.oneCell' = true := by
  intro u hu
  simp [Ins.cs] at hu
  rcases hu with rfl | rfl | rfl | rfl | rfl <;> rfl
theorem takeInsn_any (w : World) (ht : Tabs w) (b o len cap : Nat) (B : List Int) (hlen : B.length = len) (hB : Byts B) (hc : ∀ k, k < len → w.cell? ⟨b, o + k, none⟩ = some (.int .u8 (gB B k))) (hll : len ≤ 100000000000000) (hcap : len ≤ cap) :
    Calls Tryd.prog 17 #[.slice (some ⟨b, o, none⟩) len cap] w fun e w' => ∃ xo xd xs xf xi size, e = .returned (.tuple #[.agg #[.int .i64 xo, .int .i64 xd, .int .i64 xs, .int .i64 xf, .int .i64 xi], .int .i64 size, .int .i64 (errD may B)]) ∧ (errD may B = 0 → (⟨xo, xd, xs, xf, xi⟩ : Ins) = insD B ∧ size = (sizeD B : Nat)) ∧ Out w w' := by
  have key : Calls Tryd.prog 17 #[.slice (some ⟨b, o, none⟩) len cap] w fun e w' => (∃ r, e = .returned r ∧ TakeIs B r) ∧ Out w w' := by
    by_cases h : len < 8
    · exact takeInsn_short w _ len cap B hlen h
    · exact takeInsn_long w ht b o len cap B hlen hB hc (by omega) (by omega) hcap
  refine key.mono ?_
  rintro e w' ⟨⟨r, rfl, ⟨xo, xd, xs, xf, xi⟩, size, rfl, hz⟩, ho⟩
  exact ⟨xo, xd, xs, xf, xi, size, rfl, hz, ho⟩
theorem decode_any (w : World) (ht : Tabs w) (a : Option Addr) (len cap : Nat) (B : List Int) (hlen : B.length = len) (hB : Byts B) (hA : BytA w a B) (hll : len ≤ 100000000000000) (hcap : len ≤ cap) (hM : ∀ N, errD may (B.drop (decN may B N).2) = 0 → (decN may B N).2 < B.length → (decN may B N).1.length < 3518437208883) :
    Calls Tryd.prog 8 #[.slice a len cap] w fun e w' => ∃ v l k f, e = .returned (.tuple #[v, .int .i64 k, .int .i64 f]) ∧ DecIs may B l k f ∧ OwnI w w' v l ∧ Out w w' := by
  obtain ⟨i0, hi, hz0, hz1, hz2⟩ := info_parts info55
  have Ht := hidOf ht
  have HB := hidOf hB
  have HA := hidOf hA
  have Hlen := hidOf hlen
  have HM := hidOf hM
  clear ht hB hA hlen hM
  go_enter Tryd.func8, Tryd.ntmps8
  go_wp2
  go_loopw [5, 6] (fun v i wr => ∃ (N at' : Nat) (l : List Ins), at' ≤ len ∧ i = .int .i64 at' ∧ Hid (decN may B N = (l, at')) ∧ wr.ownsRow w.heap.size 42 5 v l.length (insV l) ∧ Hid (Out w wr)) (fun _ i _ => len - (intOf i).toNat)
  case atStart => exact ⟨0, 0, [], by omega, rfl, hidOf rfl, World.ownsRow_nil _ _ _ _, hidOf (Out.refl _)⟩
  case round =>
    obtain ⟨N, at', l, hat, rfl, Hd, hown, Hout⟩ := hrel
    by_cases hlt : at' < len
    · have hlt' : (at' : Int) < len := by omega
      have hle' : (at' : Int) ≤ len := by omega
      have hna : ¬ cap = at' := by omega
      obtain ⟨b, off, rfl, hc⟩ : ∃ b off, a = some ⟨b, off, none⟩ ∧ ∀ k, k < B.length → w.cell? ⟨b, off + k, none⟩ = some (.int .u8 (gB B k)) := by
        rcases HA.out with h | h
        · have := Hlen.out; simp [h] at this; omega
        · exact h
      have Hl5 : Hid (8 * l.length ≤ at') := by
        have := (decN_inv may B HB.out N).2.2.2.2
        rw [Hd.out] at this; exact this
      have HT : Hid (Calls Tryd.prog 17 #[.slice (some ⟨b, off + at', none⟩) (len - at') (cap - at')] wr fun e w' => ∃ xo xd xs xf xi size, e = .returned (.tuple #[.agg #[.int .i64 xo, .int .i64 xd, .int .i64 xs, .int .i64 xf, .int .i64 xi], .int .i64 size, .int .i64 (errD may (B.drop at'))]) ∧ (errD may (B.drop at') = 0 → (⟨xo, xd, xs, xf, xi⟩ : Ins) = insD (B.drop at') ∧ size = (sizeD (B.drop at') : Nat)) ∧ Out wr w') :=
        takeInsn_any wr (Ht.out.out Hout.out) b (off + at') (len - at') (cap - at') (B.drop at') (by rw [List.length_drop, Hlen.out]) (HB.out.drop _) (fun k hk => by
          rw [gB_drop, Nat.add_assoc]; exact cell_later Hout.out (hc (at' + k) (by have := Hlen.out; omega))) (by omega) (by omega)
      clear hc
      have He : ∃ E, errD may (B.drop at') = E := ⟨_, rfl⟩
      obtain ⟨E, he⟩ := He
      rw [he] at HT
      have HE := hidOf he
      clear he
      cases hE : (E != 0)
      · obtain rfl : E = 0 := by simpa using hE
        have Hsz := hidOf (enc_dec may (B.drop at') (HB.out.drop _) HE.out)
        go_upto_region 7 with (first | (go_at_call 17; refine HT.out.mono ?_; rintro e w1 ⟨xo, xd, xs, xf, xi, size, rfl, hfin, ho1⟩; obtain ⟨hx, rfl⟩ := hfin rfl; have Hx := hidOf hx; have Ho1 := hidOf ho1; clear hx hfin ho1))
        have Hz : Hid (sizeD (B.drop at') ≤ len - at') := by
          have := Hsz.out.2.1
          rw [List.length_drop, Hlen.out] at this; exact this
        have Hz8 := hidOf (sizeD_pos (B.drop at'))
        have Hst := hidOf (decN_step Hd.out (by have := Hlen.out; omega) HE.out)
        rw [← Hx.out] at Hst
        generalize sizeD (B.drop at') = z at *
        have hz : z ≤ len - at' := Hz.out
        have hz8 : 8 ≤ z := Hz8.out
        have hll5 : l.length < 3518437208883 := by
          have := HM.out N (by rw [Hd.out]; exact HE.out) (by rw [Hd.out]; have := Hlen.out; show at' < B.length; omega)
          rw [Hd.out] at this; exact this
        have Hown := hidOf (owns_out (owns_out (owns_out hown Ho1.out) ((Out.refl _).alloc (.cells #[.int .i64 xo, .int .i64 xd, .int .i64 xs, .int .i64 xf, .int .i64 xi] 42))) ((Out.refl _).alloc (.cells #[.int .i64 xo, .int .i64 xd, .int .i64 xs, .int .i64 xf, .int .i64 xi] 42)))
        have HoutX : Hid (Out w ((w1.alloc (.cells #[.int .i64 xo, .int .i64 xd, .int .i64 xs, .int .i64 xf, .int .i64 xi] 42)).alloc (.cells #[.int .i64 xo, .int .i64 xd, .int .i64 xs, .int .i64 xf, .int .i64 xi] 42))) := Out.alloc (Out.alloc (Out.trans Hout.out Ho1.out) _) _
        clear hown HT Hz Hz8
        go_wp2_with (first | (at_builtin; go_loud (refine wpList_append_own _ rfl (.tmp 27) (.tmp 29) 30 rfl w.heap.size 42 i0 _ 5 40 Tryd.underlying30 hi hz0 hz1 hz2 rfl (by decide) _ _ _ rfl Hown.out ⟨w1.heap.size + 1, 0, none⟩ 1 1 [.int .i64 xo, .int .i64 xd, .int .i64 xs, .int .i64 xf, .int .i64 xi] rfl rfl (news_new _ #[.int .i64 xo, .int .i64 xd, .int .i64 xs, .int .i64 xf, .int .i64 xi] _ _ (by rw [size_alloc])) (ins_one ⟨xo, xd, xs, xf, xi⟩) (by simp only [maxLen]; omega) (by omega) HoutX.out.size ?_); intro v1 w2 hown2 hgrow2 _))
        go_roundw
        case rel =>
          refine ⟨N + 1, at' + z, l ++ [⟨xo, xd, xs, xf, xi⟩], by omega, by simp, Hst, ?_, hidOf (out_grow (wr := w) rfl Hown.out HoutX.out hgrow2)⟩
          rw [insV_snoc, List.length_append]
          exact hown2
        case measure => simp [intOf]; omega
      · go_wp2_with (first | (go_at_call 17; refine HT.out.mono ?_; rintro e w1 ⟨xo, xd, xs, xf, xi, size, rfl, hfin, ho1⟩))
        go_ret3
        refine ⟨.slice none 0 0, [], (at' : Int) / 8, E, rfl, ⟨N, ?_, .inr ⟨rfl, ?_, ?_, ?_, ?_⟩⟩, World.ownsRow_nil _ _ _ _, Out.alloc (Out.trans Hout.out ho1) _⟩
        · unfold Stuck; rw [Hd.out]; simp only; rw [HE.out]
          intro h; simp [h.2] at hE
        · rw [Hd.out]; have := Hlen.out; simp only; omega
        · rw [Hd.out]
        · rw [Hd.out]; exact HE.out.symm
        · simpa using hE
    · have hlt' : ¬ (at' : Int) < len := by omega
      obtain rfl : at' = len := by omega
      go_wp2
      go_ret3
      refine ⟨_, l, 0, 0, rfl, ⟨N, ?_, .inl ⟨?_, ?_, rfl, rfl⟩⟩, hown, Hout.out⟩
      · unfold Stuck; rw [Hd.out]; simp only; have := Hlen.out; omega
      · rw [Hd.out]
      · rw [Hd.out]; exact Hlen.out.symm
end Go.Proofs.YtgephenkbbelcaaDoor
