import Derived.Test.YtgakmbeooobhjaaAm
namespace Go.Proofs.Ytgakmbeooobhjaa
open Go.RowKit
open Go.Maps (Keyed)
set_option linter.unusedVariables false
set_option linter.unusedSimpArgs false
theorem read_ok {w w' : World} {l : List UInt8} {e : Ending} {N : List (List UInt8)} (h : REnd w l e w') (hr : rdP l = (some N, 0)) : ∃ q, e = .returned (.tuple #[.pointer (some ⟨q, 0, none⟩), .int .i64 0, .int .i64 0]) ∧ Out w w' ∧ Tab q w' N (FN (fun _ => False) w w') := by
  obtain ⟨ho, h⟩ := h
  rcases h with ⟨h1, _⟩ | ⟨N', q, h1, rfl, _, _, ht⟩
  · rw [hr] at h1; cases h1
  · rw [hr] at h1
    cases h1
    exact ⟨q, rfl, ho, ht⟩
theorem B1.pl' {w0 wr : World} {p : Nat} {N K : List (List UInt8)} {pv tv : Value} {F : Nat → Prop} (h : B1 w0 p wr N K pv tv F) (O : Obj) : (wr.alloc O).ownsRow w0.heap.size 3 1 pv K.length ((K.map fun x => (plF 1 N x : Int)).map (Value.int .i64)) := by
  have := (h.drop ((Out.refl wr).alloc O)).pl
  unfold OwI at this
  simpa using this
theorem B1.after {w0 wr w1 : World} {p : Nat} {N K : List (List UInt8)} {pv tv : Value} {F : Nat → Prop} {O : Obj} (h : B1 w0 p wr N K pv tv F) (hg : (wr.alloc O).grownBy w1 pv.ownBlock) : Out w0 w1 ∧ ∀ O', (w1.alloc O').ownsRow w0.heap.size 9 1 tv K.length (K.map strV) := by
  have h' := h.drop ((Out.refl wr).alloc O)
  have k1 : Chg (fun k => pv.ownBlock = some k) (wr.alloc O) w1 := Chg.of_grown hg (fun k hk => hk)
  refine ⟨Chg.out k1 h'.out (fun k hk => (h'.pl.lt k hk).1), fun O' => ?_⟩
  have tk1 : OwS w0.heap.size tv K w1 := owns_chg h'.tk (fun k hk hk' => own_apart (by decide) h'.tk h'.pl k hk hk') k1
  exact owns_chg (S := fun _ => False) tk1 (fun _ _ h => h) (Chg.of_out ((Out.refl w1).alloc O'))
theorem OwB.rest' {B c : Nat} {a : Option Addr} {l : List UInt8} {w : World} (h : OwB B (.slice a l.length c) l w) : l.length ≤ c ∧ RestAt w.heap.size w a l := by
  obtain ⟨a', c', hv, h1, h2⟩ := h.rest
  simp only [Value.slice.injEq] at hv
  obtain ⟨rfl, _, rfl⟩ := hv
  exact ⟨h1, h2⟩
theorem RestAt.ne {B : Nat} {a : Option Addr} {l : List UInt8} {w : World} (h : RestAt B w a l) (hl : ¬ l = []) : ∃ b off, b < B ∧ a = some ⟨b, off, none⟩ ∧ ∀ k x, l[k]? = some x → w.cell? ⟨b, off + k, none⟩ = some (.int .u8 (x.toNat : Int)) := h.resolve_left hl
set_option maxRecDepth 20000 in
set_option maxHeartbeats 4000000 in
theorem strsBack_walk (a : Option Addr) (c : Nat) (Ns : List (List UInt8)) (W : World) (h : StrAt W.heap.size W a Ns) (hc : Ns.length ≤ c) (hn : Ns.length ≤ 140737488355328) (hl : ∀ x ∈ Ns, x.length ≤ 140737488355328) :
    Calls Try.prog 6 #[.slice a Ns.length c] W fun e W' => e = .returned (.bool true) ∧ Out W W' := by
  have HF := hidOf (few_any W.heap.size a c Ns W h hc hn hl)
  by_cases hf : 4 * suP Ns ≤ 2147483647
  · rw [decide_eq_true hf] at HF
    have HN := hidOf (new_any W)
    have hlen := suP_len Ns
    have hnI : (Ns.length : Int) ≤ 1000000000 := by omega
    have hcI : (Ns.length : Int) ≤ c := by omega
    have Hf := hidOf hf
    have H := hidOf h
    have hn9 : Ns.length ≤ 1000000000 := by omega
    obtain ⟨p, hp⟩ : ∃ p, p = W.heap.size := ⟨_, rfl⟩
    have HB0 : Hid (B1 W p (W.alloc newO) [] [] (.slice none 0 0) (.slice none 0 0) (fun k => k = W.heap.size)) := hidOf ⟨by rw [hp]; exact new_tab W, (fun k hk => by rw [hk, size_alloc]; omega), World.ownsRow_nil _ _ _ _, World.ownsRow_nil _ _ _ _, (fun k hk => by cases hk), (fun k hk => by cases hk), ⟨by simp, by simp, by simp⟩, (fun k hk => by omega), (Out.refl W).alloc _⟩
    rw [← hp] at HN
    clear h hf hlen hp hn hl
    generalize W.alloc newO = w1 at *
    obtain ⟨i0, hi, hz0, hz1, hz2⟩ := info_parts infoStr
    obtain ⟨j0, hj, hy0, hy1, hy2⟩ := info_parts infoInt
    go_enter Try.func6, Try.ntmps6
    go_wp2_with (first | (go_at_call 17; refine (HF.out).mono ?_; rintro e w2 ⟨rfl, hw⟩; have hw := hw.symm; subst hw) | (go_at_call 18; refine (HN.out).mono ?_; rintro e w2 ⟨rfl, hw⟩; have hw := hw.symm; subst hw))
    clear HF HN
    go_loopw [4, 5, 6] (fun pv tv iv wr => ∃ (k : Nat) (N K : List (List UInt8)) (pa ta : Option Addr) (pc tc : Nat) (F : Nat → Prop), pv = .slice pa K.length pc ∧ tv = .slice ta K.length tc ∧ iv = .int .i64 k ∧ k ≤ Ns.length ∧ K.length ≤ k ∧ Hid (szF 1 N ≤ 1 + suP (Ns.take k)) ∧ Hid (B1 W p wr N K (.slice pa K.length pc) (.slice ta K.length tc) F)) (fun _ _ iv _ => Ns.length - (intOf iv).toNat)
    case atStart => exact ⟨0, [], [], none, none, 0, 0, _, rfl, rfl, rfl, by omega, by simp, hidOf (by simp [szF]), HB0.out⟩
    case round =>
      obtain ⟨k, N, K, pa, ta, pc, tc, F, rfl, rfl, rfl, hk, hKk, HSz, HB⟩ := hrel
      by_cases hkN : k < Ns.length
      · have hlt : (k : Int) < Ns.length := by omega
        have h0 : (0 : Int) ≤ k := by omega
        obtain ⟨x, hx⟩ : ∃ x, Ns[k]? = some x := ⟨_, List.getElem?_eq_getElem hkN⟩
        obtain ⟨b, off, rfl, hb, d⟩ := H.out.get hx
        have d1 : wr.cell? ⟨b, off + k, none⟩ = some (.string ⟨x.toArray⟩) := (HB.out.out.cells b _ hb).trans d
        have hst : suP (Ns.take (k + 1)) = suP (Ns.take k) + x.length + 2 := by rw [take_snoc hx, suP_snoc]
        have hst2 := suP_take Ns (k + 1)
        have Hst := hidOf hst
        have Hbd : Hid (szF 1 N + x.length + 2 ≤ 1000000000) := hidOf (by have := HSz.out; have := Hf.out; omega)
        have Hb := hidOf hb
        have Hd := hidOf d
        clear hst hst2 hx hb d
        cases hx : nameOk x
        · have HA := hidOf (add_bad p x wr hx)
          clear hx
          go_wp2_with (go_at_call 19; refine (HA.out).mono ?_; rintro e w2 ⟨rfl, rfl⟩)
          go_roundw
          case rel => exact ⟨k + 1, N, K, pa, ta, pc, tc, F, rfl, rfl, by simp, by omega, by omega, hidOf (by have := HSz.out; rw [Hst.out]; omega), HB.out⟩
          case measure => simp [intOf]; omega
        · have HA := hidOf (add_any p x wr N F HB.out.tab hx (by have := Hbd.out; omega) HB.out.lt)
          have Hx := hidOf hx
          clear hx
          obtain ⟨N', hN'⟩ : ∃ N', N' = addN N x := ⟨_, rfl⟩
          have hxN : x ∈ N' := by rw [hN']; exact addN_mem N x
          have hsN : szF 1 N' ≤ szF 1 N + x.length + 1 := by rw [hN']; exact addN_sz N x
          rw [← hN'] at HA
          have HN' := hidOf hN'
          have HxN := hidOf hxN
          have HsN := hidOf hsN
          clear hN' hxN hsN
          have hK9 : K.length ≤ 1000000000 := by omega
          obtain ⟨q, hq⟩ : ∃ q, q = plF 1 N' x := ⟨_, rfl⟩
          rw [← hq] at HA
          have Hq := hidOf hq
          clear hq
          go_upto_region 15 with (go_at_call 19; refine (HA.out).mono ?_; rintro e w2 ⟨rfl, ht, hcg⟩; have Ht := hidOf ht; have Hcg := hidOf hcg; clear ht hcg)
          have HB2 : Hid (B1 W p w2 N' K (.slice pa K.length pc) (.slice ta K.length tc) (FN F wr w2)) := hidOf (by rw [HN'.out] at *; exact HB.out.add Hx.out (HN'.out ▸ Ht.out) Hcg.out)
          clear Ht Hcg HA
          have hsW : W.heap.size ≤ w2.heap.size := HB2.out.out.size
          go_upto_region 16 with (at_builtin; refine wpList_append_lies _ rfl (.tmp 53) (.tmp 55) 42 rfl W.heap.size 3 j0 _ 1 8 Try.underlying42 hj hy0 hy1 hy2 rfl (by decide) (.slice pa K.length pc) K.length ((K.map fun x => (plF 1 N' x : Int)).map (Value.int .i64)) rfl (HB2.out.pl' _) ⟨w2.heap.size, 0, none⟩ 1 1 [.int .i64 q] rfl rfl (news_new w2 _ _ _ rfl) (int_one _) (by decide) (by unfold maxLen; omega) (by omega) (by rw [size_alloc]; omega) _ rfl ?_; intro g3 cap3 w3 hown3 hgrow3 hg3 hlt3; have HO3 := hidOf hown3; have HG3 := hidOf hgrow3; have HH3 := hidOf hg3; clear hown3 hgrow3 hg3 hlt3)
          have HT3 := hidOf (HB2.out.after HG3.out).2
          have HW3 := hidOf (HB2.out.after HG3.out).1
          have hsW3 : W.heap.size ≤ w3.heap.size := HW3.out.size
          have d3 : w3.cell? ⟨b, off + k, none⟩ = some (.string ⟨x.toArray⟩) := (HW3.out.cells b _ Hb.out).trans Hd.out
          go_wp2_with (at_builtin; refine wpList_append_lies _ rfl (.tmp 57) (.tmp 62) 30 rfl W.heap.size 9 i0 _ 1 16 Try.underlying30 hi hz0 hz1 hz2 rfl (by decide) (.slice ta K.length tc) K.length (K.map strV) rfl (HT3.out _) ⟨w3.heap.size, 0, none⟩ 1 1 [.string ⟨x.toArray⟩] rfl rfl (news_new w3 _ _ _ rfl) (str_one x) (by decide) (by unfold maxLen; omega) (by omega) (by rw [size_alloc]; omega) _ rfl ?_; intro g4 cap4 w4 hown4 hgrow4 hg4 hlt4; have HO4 := hidOf hown4; have HG4 := hidOf hgrow4; have HH4 := hidOf hg4; clear hown4 hgrow4 hg4 hlt4)
          go_roundw
          case rel =>
            have eK : (K ++ [x]).length = K.length + 1 := by simp
            have hm := HB2.out.drop ((Out.refl w2).alloc (.cells #[.int .i64 q] 3))
            refine ⟨k + 1, N', K ++ [x], _, _, cap3, cap4, FN F wr w2, by rw [eK], by rw [eK], by simp, by omega, by rw [eK]; omega, hidOf ?_, hidOf ?_⟩
            · have := HSz.out; have := HsN.out; rw [Hst.out]; omega
            · rw [eK]
              exact hm.more HxN.out rfl HG3.out (by rw [← Hq.out]; exact HO3.out) HH3.out ((Out.refl w3).alloc _) HG4.out HO4.out HH4.out
          case measure => simp [intOf]; omega
      · have hlt : ¬ (k : Int) < Ns.length := by omega
        obtain rfl : k = Ns.length := by omega
        rw [List.take_length] at HSz
        have Hbd : Hid (szF 1 N ≤ 1000000000) := hidOf (by have := HSz.out; have := Hf.out; omega)
        have HBy := hidOf (bytes_any p wr N F HB.out.tab (by have := Hbd.out; omega))
        clear hlt hkN hk
        have HRB := hidOf (read_back HB.out.ok.1 HB.out.ok.2.1)
        have HbL : Hid ((byP N).length ≤ 1000000000) := hidOf (by rw [byP_len]; exact Hbd.out)
        go_upto_region 19 with (first | (go_at_call 20; refine (HBy.out).mono ?_; rintro e w5 ⟨ba, bc, rfl, hob, hO5⟩; have HR5 := hidOf (OwB.rest' hob); have HO5 := hidOf hO5; clear hob hO5) | (go_at_call 21; refine (read_any ba bc (byP N) w5 HR5.out.2 HR5.out.1 (by have := HbL.out; omega)).mono ?_; rintro e w6 hE; obtain ⟨qu, rfl, hO6, hT6⟩ := read_ok hE HRB.out; have HO6 := hidOf hO6; have HT6 := hidOf hT6; clear hE hO6 hT6))
        have HT := hidOf (HB.out.tab.out (HO5.out.trans HO6.out))
        have HP := hidOf ((HB.out.drop (HO5.out.trans HO6.out)).pl)
        have HK := hidOf ((HB.out.drop (HO5.out.trans HO6.out)).tk)
        have HW6 := hidOf ((HB.out.out.trans HO5.out).trans HO6.out)
        have HR6 := hidOf (HR5.out.2.below HO6.out)
        have HR6b : Hid (w5.heap.size ≤ w6.heap.size) := HO6.out.size
        have hbc : (byP N).length ≤ bc := HR5.out.1
        have Hok := hidOf HB.out.ok
        clear HRB HR5 HO5 HO6 HBy HB HB0
        generalize (FN (fun _ => False) w5 w6) = Fu at *
        obtain ⟨bg, bo, hbg, rfl, hbd⟩ := HR6.out.ne (by simp [byP])
        have Hbd' := hidOf hbd
        have HbN : Hid ((byP N).length = (byP N).length) := hidOf rfl
        obtain ⟨L, hL⟩ : ∃ L, L = (byP N).length := ⟨_, rfl⟩
        have HL := hidOf hL
        rw [← hL] at HbL hbc ⊢
        clear hbd hbg HbN hL
        have hLI : (L : Int) ≤ bc := by omega
        have hL9 : (L : Int) ≤ 1000000000 := by have := HbL.out; omega
        go_wp2
        go_loopw [14] (fun iv wr => ∃ (k m : Nat), iv = .int .i64 k ∧ k ≤ K.length ∧ wr = w6.drewN m) (fun iv _ => K.length - (intOf iv).toNat)
        case atStart => exact ⟨0, 0, rfl, by omega, rfl⟩
        case round =>
          obtain ⟨k, m, rfl, hk, rfl⟩ := hrel
          by_cases hkN : k < K.length
          · have hlt : (k : Int) < K.length := by omega
            have h0 : (0 : Int) ≤ k := by omega
            obtain ⟨x, hx⟩ : ∃ x, K[k]? = some x := ⟨_, List.getElem?_eq_getElem hkN⟩
            have hxN : x ∈ N := Hok.out.2.2 x (List.mem_of_getElem? hx)
            have hnm := Hok.out.2.1 x hxN
            have hn64 := name_len hnm
            obtain ⟨C, D, e1, e2, e3⟩ := place_bytes hxN
            obtain ⟨gp, cp, hv1, hcp, dp⟩ := own_cell HP.out (k := k) (u := .int .i64 (plF 1 N x : Nat)) (by simp [hx])
            simp only [Value.slice.injEq] at hv1
            obtain ⟨rfl, -, rfl⟩ := hv1
            obtain ⟨gt, ct, hv2, hct, dt⟩ := own_cell HK.out (k := k) (u := strV x) (by simp [hx])
            simp only [Value.slice.injEq] at hv2
            obtain ⟨rfl, -, rfl⟩ := hv2
            simp only [strV] at dt
            generalize hq : plF 1 N x = q at *
            have hL := HL.out
            rw [e1] at hL
            simp only [List.length_append, List.length_cons, List.length_nil] at hL
            have hq1 : 1 ≤ q := by omega
            have hqI : (1 : Int) ≤ q := by omega
            have hqL : (q : Int) + x.length < L := by omega
            have hqL' : ¬ ((L : Int) ≤ (q : Int) + x.length) := by omega
            have hsz : (⟨x.toArray⟩ : ByteArray).size = x.length := mk_size x
            have dE : ∀ m, (w6.drewN m).cell? ⟨bg, bo + (q + x.length), none⟩ = some (.int .u8 0) := fun m => Hbd'.out (q + x.length) 0 (by
              rw [e1, show q + x.length = C.length + (1 + (x.length + 0)) by omega, List.getElem?_append_right (by omega), Nat.add_sub_cancel_left]
              rw [List.getElem?_append_right (by simp), List.getElem?_append_right (by simp)]
              simp)
            have dP : ∀ m, (w6.drewN m).cell? ⟨bg, bo + (q - 1), none⟩ = some (.int .u8 0) := fun m => Hbd'.out (q - 1) 0 (by
              rw [e1, show q - 1 = C.length by omega, List.getElem?_append_right (by omega)]
              simp)
            have hcv : ∀ m, (convert 22 9 (.slice (some ⟨bg, bo + q, none⟩) x.length (bc - q))).run Try.prog (w6.drewN m) = .ok (.string ⟨x.toArray⟩) (w6.drewN m) := fun m => conv_rest (N := bg + 1) (.inr ⟨bg, bo + q, by omega, rfl, fun i y hy => by
              rw [Nat.add_assoc]
              exact Hbd'.out (q + i) y (by
                have hil : i < x.length := (List.getElem?_eq_some_iff.1 hy).1
                rw [e1, show q + i = C.length + (1 + i) by omega, List.getElem?_append_right (by omega), Nat.add_sub_cancel_left, List.getElem?_append_right (by simp)]
                simp only [List.length_cons, List.length_nil, Nat.zero_add, Nat.add_sub_cancel_left]
                rw [List.getElem?_append_left hil]
                exact hy)⟩) _
            have dp' : ∀ m, (w6.drewN m).cell? ⟨gp, k, none⟩ = some (.int .i64 q) := fun m => dp
            have dt' : ∀ m, (w6.drewN m).cell? ⟨gt, k, none⟩ = some (.string ⟨x.toArray⟩) := fun m => dt
            have HA1 := hidOf (fun m => at_some p (w6.drewN m) N F (q : Int) x (HT.out.out ((Out.refl w6).drewN m)) (by have := Hbd.out; omega) e3)
            have HA2 := hidOf (fun m => at_some qu (w6.drewN m) N Fu (q : Int) x (HT6.out.out ((Out.refl w6).drewN m)) (by have := Hbd.out; omega) e3)
            have HA3 := hidOf (fun m => add_old qu x (w6.drewN m) N Fu (HT6.out.out ((Out.refl w6).drewN m)) hnm hxN)
            rw [hq] at HA3
            have hlxI : (x.length : Int) ≤ 64 := by omega
            have hbq : (q : Int) + x.length ≤ bc := by omega
            clear hx hxN hnm e1 e2 e3 hq hL dp dt HL
            have g1 : decide ((q : Int) < 1) = false := decide_eq_false (by omega)
            have g2 : decide ((L : Int) ≤ (q : Int) + x.length) = false := decide_eq_false (by omega)
            have hq0 : (0 : Int) ≤ q := by omega
            go_upto_region 26 with (fail)
            go_quiet (fail)
            go_upto_region 29 with (go_at_call 22; refine (HA1.out _).mono ?_; rintro e w7 ⟨rfl, m7, rfl⟩)
            go_upto_region 30 with (go_at_call 22; refine (HA2.out _).mono ?_; rintro e w8 ⟨rfl, m8, rfl⟩)
            go_upto_region 31 with (go_at_call 19; refine (HA3.out _).mono ?_; rintro e w9 ⟨rfl, hw9⟩; subst hw9)
            clear HA1 HA2 HA3 hcv dE dP
            go_wp2
            go_roundw
            case rel => exact ⟨k + 1, _, by simp, by omega, rfl⟩
            case measure => simp [intOf]; omega
          · have hlt : ¬ (k : Int) < K.length := by omega
            have HBu := hidOf (bytes_any qu (w6.drewN m) N Fu (HT6.out.out ((Out.refl w6).drewN m)) (by have := Hbd.out; omega))
            rw [← HL.out] at HBu
            go_upto_region 34 with (go_at_call 20; refine (HBu.out).mono ?_; rintro e w7 ⟨ca, cc, rfl, hoc, hO7⟩; have HR7 := hidOf (OwB.rest' (by rw [HL.out] at hoc; exact hoc)); have HO7 := hidOf hO7; clear hoc hO7)
            have HS7 := hidOf (sameBytes_any _ _ bc cc (byP N) w7 (HR6.out.below (Below.mono (((Out.refl w6).drewN m).trans HO7.out) HR6b.out)) HR7.out.2)
            rw [← HL.out] at HS7
            have HAw := hidOf (awake_any w7)
            go_wp2_with (first | (go_at_call 23; refine (HS7.out).mono ?_; rintro e w8 ⟨rfl, hw8⟩; subst hw8) | (go_at_call 10; refine (HAw.out).mono ?_; rintro e w9 ⟨rfl, hO9⟩; have HO9 := hidOf hO9; clear hO9))
            go_ret
            exact ⟨rfl, ((HW6.out.drewN m).trans HO7.out).trans HO9.out⟩
  · rw [decide_eq_false hf] at HF
    clear h hf hl
    go_enter Try.func6, Try.ntmps6
    go_wp2_with (go_at_call 17; refine (HF.out).mono ?_; rintro e w2 ⟨rfl, hw⟩; have hw := hw.symm; subst hw)
    go_ret
    exact ⟨rfl, Out.refl _⟩
end Go.Proofs.Ytgakmbeooobhjaa
