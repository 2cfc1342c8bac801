import Derived.Test.YtoobdcjkhphlcaaRsi
namespace Go.Proofs.Ytoobdcjkhphlcaa
open Go.RowKit
set_option linter.unusedVariables false
set_option linter.unusedSimpArgs false
theorem news_drew (w : World) (cs : Array Value) (t : TypeId) (b : Nat) (hb : b = w.heap.size) : ∀ j u, cs.toList[j]? = some u → (w.alloc (.cells cs t)).drew.cell? ((⟨b, 0, none⟩ : Addr).add j) = some u := news_new w cs t b hb
/-- the shelf between two lists; ma: its marks' row; what it holds lies below N -/
def Shv (w : World) (B p : Nat) (ct tt : Int) (nk : Nat) (ma : Value) (N : Nat) : Prop := ∃ fa wa ka F W K M, Shf w B p ct tt fa wa ka ma F W K M ∧ Lst w B F W K M ∧ F.length ≤ 2 ∧ K.length ≤ nk ∧ ∀ (j : Nat) y b, F[j]? = some y ∨ K[j]? = some y → y.ownBlock = some b → b < N
theorem Shv.out {w w' : World} {B p : Nat} {ct tt : Int} {nk : Nat} {ma : Value} {N : Nat} (h : Shv w B p ct tt nk ma N) (o : Out w w') : Shv w' B p ct tt nk ma N := by
  obtain ⟨fa, wa, ka, F, W, K, M, h1, h2, h3⟩ := h
  exact ⟨fa, wa, ka, F, W, K, M, h1.out o, h2.out o, h3⟩
def OwnEndR (w : World) (B p : Nat) (ct tt : Int) (nk n : Nat) (ma : Value) (e : Ending) (w' : World) : Prop := (∃ r, e = .returned r) ∧ (∃ ct' ma', Shv w' B p ct' (tt + n) (nk + 12) ma' w'.heap.size ∧ 0 ≤ ct' ∧ ct' ≤ ct + 4 ∧ ∀ b, ma'.ownBlock = some b → ma.ownBlock = some b ∨ w.heap.size ≤ b) ∧ Chg (SQ w B ma) w w'
theorem OwR.tok {S : Nat → Prop} {w w' : World} {N : Nat} {x : Value} {T : List Rl} (h : OwR N x T w) (c : Chg S w w') (hS : ∀ b, S b → ¬ ∃ cs, BlT w b cs) : OwR N x T w' := owns_chg h (fun k hk hs => by
  rcases h.2 with ⟨hv, _⟩ | ⟨g, cap, cur, hv, _, hg, _⟩
  · rw [hv] at hk; cases hk
  · rw [hv] at hk; simp [Value.ownBlock] at hk; subst hk; exact hS g hs ⟨cur, hg⟩) c
/-- behind the two appends -/
def MidR (w : World) (B p : Nat) (ct tt : Int) (F W K : List Value) (x y : Value) (M : List Int) (ka ma : Value) (wx : World) : Prop :=
  ∃ af cf wa', Shf wx B p ct tt (.slice af (F.length + 1) cf) wa' ka ma (F ++ [x]) (W ++ [y]) K M ∧ Lst wx B (F ++ [x]) (W ++ [y]) K M ∧ Chg (SQ w B ma) w wx
set_option maxRecDepth 20000 in
set_option maxHeartbeats 8000000 in
theorem own_any (CW : WriteC) (w : World) (B p : Nat) (ct tt : Int) (nk : Nat) (ma : Value) (N : Nat) (hBN : B ≤ N) (h0 : Shv w B p ct tt nk ma N) (a : Option Addr) (c : Nat) (T : List Rl) (hx : OwR N (.slice a T.length c) T w) (hT : T.length ≤ 33554433) (hct0 : 0 ≤ ct) (hct1 : ct ≤ 900) (htt0 : 0 ≤ tt) (htt1 : tt ≤ 300000000) (hnk : nk ≤ 96) :
    Calls Try.prog 21 #[.pointer (some ⟨p, 0, none⟩), .slice a T.length c] w fun e w' => OwnEndR w B p ct tt nk T.length ma e w' := by
  obtain ⟨fa, wa, ka, F, W, K, M, hs, hl, hF, hK, hlt0⟩ := h0
  obtain ⟨af, cf, rfl⟩ := own_form hs.fa_
  obtain ⟨aw, cw, rfl⟩ := own_form hs.wa_
  have S2 : Hid (Shf ((w.setCell ⟨p, 0, none⟩ (.int .i64 (ct + 1))).setCell ⟨p, 1, none⟩ (.int .i64 (tt + T.length))) B p (ct + 1) (tt + T.length) (.slice af F.length cf) (.slice aw W.length cw) ka ma F W K M) := by
    have s1 := Shf.store hs.st hs.bp 0 (.int .i64 (ct + 1)) rfl hs.fa_ hs.wa_ hs.ka_ hs.ma_ hs.fw hs.fk hs.wk
    exact hidOf (Shf.store s1.st s1.bp 1 (.int .i64 (tt + T.length)) rfl s1.fa_ s1.wa_ s1.ka_ s1.ma_ s1.fw s1.fk s1.wk)
  have C2 : Chg (fun b => b = p) w ((w.setCell ⟨p, 0, none⟩ (.int .i64 (ct + 1))).setCell ⟨p, 1, none⟩ (.int .i64 (tt + T.length))) := (Chg.setCell (S := fun b => b = p) (Chg.refl _ w) (p := ⟨p, 0, none⟩) rfl _).setCell (p := ⟨p, 1, none⟩) rfl _
  have hpT : ∀ b, b = p → ¬ ∃ cs, BlT w b cs := fun b hb => hs.so b (.inl hb)
  have L2 : Hid (Lst ((w.setCell ⟨p, 0, none⟩ (.int .i64 (ct + 1))).setCell ⟨p, 1, none⟩ (.int .i64 (tt + T.length))) B F W K M) := hl.tok C2 hpT
  have X2 : Hid (OwR N (.slice a T.length c) T ((w.setCell ⟨p, 0, none⟩ (.int .i64 (ct + 1))).setCell ⟨p, 1, none⟩ (.int .i64 (tt + T.length)))) := owns_chg hx (fun k hk e => by
    rw [e] at hk
    exact own_kind hx hs.st (by decide) hk) C2
  have G2 : Hid (Chg (SQ w B ma) w ((w.setCell ⟨p, 0, none⟩ (.int .i64 (ct + 1))).setCell ⟨p, 1, none⟩ (.int .i64 (tt + T.length)))) := C2.mono (fun b hb _ => by rw [hb]; exact hs.sq p (.inl rfl))
  have c0 : w.cell? ⟨p, 0, none⟩ = some (.int .i64 ct) := by rw [cell_atL hs.st]; rfl
  have c1 : w.cell? ⟨p, 1, none⟩ = some (.int .i64 tt) := by rw [cell_atL hs.st]; rfl
  have f0 := frozen_atL hs.st 0
  have f1 := frozen_atL hs.st 1
  have HF := hidOf hlt0
  have HBN := hidOf hBN
  clear hs hl hx C2 hpT hlt0 hBN
  go_enter Try.func21, Try.ntmps21
  go_upto_region 2 with fail
  clear c0 c1 f0 f1
  generalize (w.setCell ⟨p, 0, none⟩ (.int .i64 (ct + 1))).setCell ⟨p, 1, none⟩ (.int .i64 (tt + T.length)) = w2 at *
  obtain ⟨i30, hi30, hy0, hy1, hy2⟩ := info_parts infoSl
  have c3 : w2.cell? ⟨p, 3, none⟩ = some (.slice af F.length cf) := by rw [cell_atL S2.out.st]; rfl
  go_upto_region 3 with (at_builtin; refine wpList_append_lies _ rfl (.tmp 25) (.tmp 27) 38 rfl B 22 i30 _ 1 24 Try.underlying38 hi30 hy0 hy1 hy2 rfl (by decide) (.slice af F.length cf) F.length F rfl (owns_out' S2.out.fa_ ((Out.refl w2).alloc _)) ⟨w2.heap.size, 0, none⟩ 1 1 [.slice a T.length c] rfl rfl (news_new w2 _ _ _ rfl) (by intro u hu; simp at hu; rw [hu]; rfl) (by decide) (by unfold maxLen; omega) (by omega) (by have := S2.out.lt; have := S2.out.bp; rw [size_alloc]; omega) _ rfl ?_; intro g3 cap3 w3 hown3 hgrow3 hg3 hlt3; have hp3 : w3.heap[p]? = _ := (hgrow3.block p (by have := S2.out.lt; rw [size_alloc]; omega) (fun e => S2.out.notp.1 e.symm)).trans (((Out.refl w2).alloc _).block p S2.out.lt |>.trans S2.out.st); have d33 : w3.cell? ⟨p, 3, none⟩ = some (.slice af F.length cf) := (by rw [cell_atL hp3]; rfl); have f33 := frozen_atL hp3 3; have W3 := hidOf hown3; have G3 := hidOf hgrow3; have Hg3 := hidOf hg3; clear hown3 hgrow3 hg3 hlt3 hp3)
  obtain ⟨s4, k4⟩ := after3 S2.out _ _ _ _ W3.out G3.out Hg3.out
  have hfT : ∀ b, (b = p ∨ (Value.slice af F.length cf).ownBlock = some b) → ¬ ∃ cs, BlT w2 b cs := fun b hb ⟨cs, hc⟩ => by
    rcases hb with rfl | hb
    · exact S2.out.so b (.inl rfl) ⟨cs, hc⟩
    · exact own_kind S2.out.fa_ hc (by decide) hb
  have S4 := hidOf s4
  have L4 := hidOf (L2.out.tok k4 hfT)
  have X4 := hidOf (X2.out.tok k4 hfT)
  have G4 : Hid (Chg (SQ w B ma) w (w3.setCell ⟨p, 3, none⟩ (.slice (some ⟨g3, 0, none⟩) (F.length + 1) cap3))) := SQ.step (ma1 := ma) G2.out k4 (fun b hb _ => S2.out.sq b (by
    rcases hb with hb | hb
    · exact .inl hb
    · exact .inr (.inl hb))) (fun b hb => .inl hb)
  clear s4 k4 hfT d33 f33 c3 S2 L2 X2 G2 W3 G3 Hg3
  generalize w3.setCell ⟨p, 3, none⟩ (.slice (some ⟨g3, 0, none⟩) (F.length + 1) cap3) = w4 at *
  have hw4T : Hid (∀ b, (b = p ∨ (Value.slice aw W.length cw).ownBlock = some b) → ¬ ∃ cs, BlT w4 b cs) := fun b hb ⟨cs, hc⟩ => by
    rcases hb with rfl | hb
    · exact S4.out.so b (.inl rfl) ⟨cs, hc⟩
    · exact own_kind S4.out.wa_ hc (by decide) hb
  have hWl : Hid (W.length ≤ 2) := by have := L4.out.wl; show W.length ≤ 2; omega
  go_cut [0] (fun s0 wx => s0 = .pointer (some ⟨p, 0, none⟩) ∧ ∃ a2 c2, MidR w B p (ct + 1) (tt + T.length) F W K (.slice a T.length c) (.slice a2 T.length c2) M ka ma wx)
  case first =>
    have d4 : w4.drew.cell? ⟨p, 4, none⟩ = some (.slice aw W.length cw) := by rw [cell_atL (show w4.drew.heap[p]? = _ from S4.out.st)]; rfl
    have d4a : ∀ O, (w4.alloc O).cell? ⟨p, 4, none⟩ = some (.slice aw W.length cw) := fun O => cell_later ((Out.refl w4).alloc O) (show w4.cell? ⟨p, 4, none⟩ = _ from d4)
    by_cases hT0 : T = []
    · subst hT0
      cases a with
      | none =>
        simp only [List.length_nil] at X4 ⊢
        go_region_law (first | (refine step_append_lies _ rfl (.tmp 35) (.tmp 38) 38 rfl B 22 i30 _ 1 24 Try.underlying38 hi30 hy0 hy1 hy2 rfl (by decide) (.slice aw W.length cw) W.length W rfl (owns_out' S4.out.wa_ ((Out.refl w4).alloc _).drew) ⟨w4.heap.size, 0, none⟩ 1 1 [.slice none 0 0] rfl rfl (news_drew w4 _ _ _ rfl) (by intro u hu; simp at hu; rw [hu]; rfl) (by decide) (by unfold maxLen; have := hWl.out; omega) (by have := hWl.out; omega) (by have := S4.out.lt; have := S4.out.bp; rw [heap_drew', size_alloc]; omega) _ rfl ?_; intro g6 cap6 w6 hown6 hgrow6 hg6 hlt6; have hp6 : w6.heap[p]? = _ := (hgrow6.block p (by have := S4.out.lt; rw [heap_drew', size_alloc]; omega) (fun e => S4.out.notp.2.1 e.symm)).trans ((((Out.refl w4).alloc _).drew).block p S4.out.lt |>.trans S4.out.st); have d46 : w6.cell? ⟨p, 4, none⟩ = some (.slice aw W.length cw) := (by rw [cell_atL hp6]; rfl); have f46 := frozen_atL hp6 4; have W6 := hidOf hown6; have G6 := hidOf hgrow6; have Hg6 := hidOf hg6; clear hown6 hgrow6 hg6 hlt6 hp6))
        all_goals
          go_wp2
          go_meet
          obtain ⟨s7, k7⟩ := after4 (S4.out.out (Out.refl w4).drew) (.cells #[.slice none 0 0] 22) _ _ _ W6.out (show (w4.drew.alloc (.cells #[.slice none 0 0] 22)).grownBy w6 _ from G6.out) (show _ ∨ g6 = (w4.drew.alloc (.cells #[.slice none 0 0] 22)).heap.size from Hg6.out)
          have k7' : Chg (fun b => b = p ∨ (Value.slice aw W.length cw).ownBlock = some b) w4 _ := (Chg.of_out (S := fun b => b = p ∨ (Value.slice aw W.length cw).ownBlock = some b) (Out.refl w4).drew).trans k7 (fun b hb _ => hb)
          exact ⟨rfl, none, 0, _, _, _, s7, Lst.snoc (T := []) (L4.out.tok k7' hw4T.out) HF.out (X4.out.tok k7' hw4T.out) HBN.out (by simp) ⟨.inl rfl, fun ad had => by cases had⟩, SQ.step (ma1 := ma) G4.out k7' (fun b hb _ => S4.out.sq b (by
            rcases hb with hb | hb
            · exact .inl hb
            · exact .inr (.inr (.inl hb)))) (fun b hb => .inl hb)⟩
      | some ad =>
        simp only [List.length_nil] at X4 ⊢
        go_region_law (first | (refine step_append_lies _ rfl (.tmp 35) (.tmp 38) 38 rfl B 22 i30 _ 1 24 Try.underlying38 hi30 hy0 hy1 hy2 rfl (by decide) (.slice aw W.length cw) W.length W rfl (owns_out' S4.out.wa_ ((Out.refl w4).alloc _).drew) ⟨w4.heap.size, 0, none⟩ 1 1 [.slice none 0 0] rfl rfl (news_drew w4 _ _ _ rfl) (by intro u hu; simp at hu; rw [hu]; rfl) (by decide) (by unfold maxLen; have := hWl.out; omega) (by have := hWl.out; omega) (by have := S4.out.lt; have := S4.out.bp; rw [heap_drew', size_alloc]; omega) _ rfl ?_; intro g6 cap6 w6 hown6 hgrow6 hg6 hlt6; have hp6 : w6.heap[p]? = _ := (hgrow6.block p (by have := S4.out.lt; rw [heap_drew', size_alloc]; omega) (fun e => S4.out.notp.2.1 e.symm)).trans ((((Out.refl w4).alloc _).drew).block p S4.out.lt |>.trans S4.out.st); have d46 : w6.cell? ⟨p, 4, none⟩ = some (.slice aw W.length cw) := (by rw [cell_atL hp6]; rfl); have f46 := frozen_atL hp6 4; have W6 := hidOf hown6; have G6 := hidOf hgrow6; have Hg6 := hidOf hg6; clear hown6 hgrow6 hg6 hlt6 hp6))
        all_goals
          go_wp2
          go_meet
          obtain ⟨s7, k7⟩ := after4 (S4.out.out (Out.refl w4).drew) (.cells #[.slice none 0 0] 22) _ _ _ W6.out (show (w4.drew.alloc (.cells #[.slice none 0 0] 22)).grownBy w6 _ from G6.out) (show _ ∨ g6 = (w4.drew.alloc (.cells #[.slice none 0 0] 22)).heap.size from Hg6.out)
          have k7' : Chg (fun b => b = p ∨ (Value.slice aw W.length cw).ownBlock = some b) w4 _ := (Chg.of_out (S := fun b => b = p ∨ (Value.slice aw W.length cw).ownBlock = some b) (Out.refl w4).drew).trans k7 (fun b hb _ => hb)
          exact ⟨rfl, none, 0, _, _, _, s7, Lst.snoc (T := []) (L4.out.tok k7' hw4T.out) HF.out (X4.out.tok k7' hw4T.out) HBN.out (by simp) ⟨.inl rfl, fun ad had => by cases had⟩, SQ.step (ma1 := ma) G4.out k7' (fun b hb _ => S4.out.sq b (by
            rcases hb with hb | hb
            · exact .inl hb
            · exact .inr (.inr (.inl hb)))) (fun b hb => .inl hb)⟩
    · obtain ⟨g, rfl, hnw⟩ : ∃ g, a = some ⟨g, 0, none⟩ ∧ ∀ wx, Out w4 wx → ∀ j u, (rlV T)[j]? = some u → wx.cell? ((⟨g, 0, none⟩ : Addr).add j) = some u := by
        rcases X4.out.2 with ⟨_, hn⟩ | ⟨g, cap, cur, hv, _⟩
        · exact absurd (List.length_eq_zero_iff.1 hn) hT0
        · simp only [Value.slice.injEq] at hv
          exact ⟨g, hv.1, fun wx ho => World.ownsRow.cells (owns_out' X4.out ho) (g := g) (by rw [hv.1]; rfl)⟩
      have hTp : 0 < T.length := List.length_pos_iff.2 hT0
      have HNW := hidOf hnw
      obtain ⟨i1, hi1, hq0, hq1, hq2⟩ := info_parts infoRl
      clear hnw hT0
      go_region_law (first | (refine step_append_lies _ rfl (.const (.slice none 0 0)) (.tmp 36) 22 rfl B 27 i1 _ 3 24 Try.underlying22 hi1 hq0 hq1 hq2 rfl (by decide) (.slice none 0 0) 0 [] rfl (World.ownsRow_nil _ _ _ _) ⟨g, 0, none⟩ T.length c (rlV T) rfl (rlV_len T) (HNW.out w4.drew (Out.refl w4).drew) (rlV_one T) hTp (by unfold maxLen; omega) (by omega) (by have := S4.out.lt; have := S4.out.bp; show B ≤ w4.heap.size; omega) _ rfl ?_; intro g5 cap5 w5 hown5 hgrow5 hg5 hlt5; rw [Nat.zero_add] at hown5; have O5 : Out w4 w5 := Out.trans (Out.refl w4).drew ⟨hgrow5.os, hgrow5.tape, hgrow5.output, hgrow5.size, fun k hk => hgrow5.block k hk (fun e => by cases e)⟩; have HO5 := hidOf O5; have W5 := hidOf hown5; have d45 : w5.cell? ⟨p, 4, none⟩ = some (.slice aw W.length cw) := cell_later O5 (show w4.cell? ⟨p, 4, none⟩ = _ from d4); have d45a : ∀ O, (w5.alloc O).cell? ⟨p, 4, none⟩ = some (.slice aw W.length cw) := fun O => cell_later ((Out.refl w5).alloc O) d45; (try rw [Nat.zero_add]); clear hown5 hgrow5 hg5 hlt5 O5) | (refine step_append_lies _ rfl (.tmp 35) (.tmp 38) 38 rfl B 22 i30 _ 1 24 Try.underlying38 hi30 hy0 hy1 hy2 rfl (by decide) (.slice aw W.length cw) W.length W rfl (owns_out' S4.out.wa_ (HO5.out.alloc _)) ⟨w5.heap.size, 0, none⟩ 1 1 [.slice (some ⟨g5, 0, none⟩) T.length cap5] rfl rfl (news_new w5 _ _ _ rfl) (by intro u hu; simp at hu; rw [hu]; rfl) (by decide) (by unfold maxLen; have := hWl.out; omega) (by have := hWl.out; omega) (by have := S4.out.lt; have := S4.out.bp; have := HO5.out.size; rw [size_alloc]; omega) _ rfl ?_; intro g6 cap6 w6 hown6 hgrow6 hg6 hlt6; have hp6 : w6.heap[p]? = _ := (hgrow6.block p (by have := S4.out.lt; have := HO5.out.size; rw [size_alloc]; omega) (fun e => S4.out.notp.2.1 e.symm)).trans ((HO5.out.alloc _).block p S4.out.lt |>.trans S4.out.st); have d46 : w6.cell? ⟨p, 4, none⟩ = some (.slice aw W.length cw) := (by rw [cell_atL hp6]; rfl); have f46 := frozen_atL hp6 4; have W6 := hidOf hown6; have G6 := hidOf hgrow6; have Hg6 := hidOf hg6; clear hown6 hgrow6 hg6 hlt6 hp6))
      all_goals
        go_wp2
        go_meet
        obtain ⟨s7, k7⟩ := after4 (S4.out.out HO5.out) _ _ _ _ W6.out G6.out Hg6.out
        have hS5 : ∀ b, (b = p ∨ (Value.slice aw W.length cw).ownBlock = some b) → ¬ ∃ cs, BlT w5 b cs := fun b hb ⟨cs, hc⟩ => by
          rcases hb with rfl | hb
          · exact (S4.out.out HO5.out).so b (.inl rfl) ⟨cs, hc⟩
          · exact own_kind (S4.out.out HO5.out).wa_ hc (by decide) hb
        exact ⟨rfl, some ⟨g5, 0, none⟩, cap5, _, _, _, s7, Lst.snoc ((L4.out.out HO5.out).tok k7 hS5) HF.out (OwR.tok (owns_out' X4.out HO5.out) k7 hS5) HBN.out hT ((TkB.own W5.out rfl).tok k7 hS5), SQ.step (ma1 := ma) (G4.out.then_out HO5.out) k7 (fun b hb _ => (S4.out.out HO5.out).sq b (by
          rcases hb with hb | hb
          · exact .inl hb
          · exact .inr (.inr (.inl hb)))) (fun b hb => .inl hb)⟩
  case rest =>
    obtain ⟨rfl, a2, c2, af5, cf5, wa5, s5, l5, g5⟩ := hcut
    have S5 := hidOf s5
    have L5 := hidOf l5
    have G5 := hidOf g5
    have e3 : wc.cell? ⟨p, 3, none⟩ = some (.slice af5 (F.length + 1) cf5) := by rw [cell_atL s5.st]; rfl
    have e0 : wc.cell? ⟨p, 0, none⟩ = some (.int .i64 (ct + 1)) := by rw [cell_atL s5.st]; rfl
    have CWr : Hid (F.length + 1 ≤ 3 → Calls Try.prog 35 #[.pointer (some ⟨p, 0, none⟩)] wc fun e w' => WrEnd wc B p (ct + 1) (tt + T.length) ma (F ++ [.slice a T.length c]) K e w') := fun h3 => CW wc B p (ct + 1) (tt + T.length) _ _ _ _ _ _ _ _ s5 l5.wl l5.prs' (by simp; omega) l5.kp (by omega) l5.ml (l5.l1 _) l5.dst l5.ak (by omega) (by omega) (by omega) (by omega)
    have FW : Hid (∀ e w', WrEnd wc B p (ct + 1) (tt + T.length) ma (F ++ [.slice a T.length c]) K e w' → ∀ r, OwnEndR w B p ct tt nk T.length ma (.returned r) w') := fun e w' ⟨_, ka', ma', K', M', h1, h2, h3, h4, h5, h6⟩ r => by
      have hL : Lst w' B [] [] K' M' := ⟨rfl, fun i x y hx => by simp at hx, h2, fun j x hx => by simp at hx, fun i j x y hx => by simp at hx, fun i j x y hx => by simp at hx, h4⟩
      refine ⟨⟨r, rfl⟩, ⟨ct + 1 + ((F ++ [.slice a T.length c] : List Value).length : Int), ma', ⟨_, _, ka', [], [], K', M', h1, hL, by simp, by rw [h3]; simp; omega, hL.lt⟩, by omega, by simp; omega, fun b hb => by
        rcases h6 b hb with h7 | h7
        · exact .inl h7
        · have := G5.out.size
          right; omega⟩, SQ.step G5.out h5 (fun b hb _ => hb) (fun b hb => .inl hb)⟩
    have FS : Hid (F.length + 1 ≤ 2 → ∀ r, OwnEndR w B p ct tt nk T.length ma (.returned r) wc) := fun h2 r => ⟨⟨r, rfl⟩, ⟨ct + 1, ma, ⟨_, _, _, _, _, _, _, s5, l5, by simp; omega, by omega, l5.lt⟩, by omega, by omega, fun b hb => .inl hb⟩, g5⟩
    clear s5 l5 g5
    obtain ⟨nf, hnf⟩ : ∃ nf, nf = F.length := ⟨_, rfl⟩
    rw [← hnf] at e3 hF CWr FS
    have Hnf := hidOf hnf
    clear hnf
    by_cases h2 : nf = 2
    · subst h2
      go_wp2_with (go_at_call 35; refine (CWr.out (by omega)).mono ?_; rintro e w6 hw6; have W6 := hidOf hw6; obtain ⟨⟨r6, rfl⟩, _⟩ := hw6)
      go_end0
      exact FW.out _ _ W6.out _
    · by_cases h1 : nf = 1
      · subst h1
        go_wp2
        go_end0
        exact FS.out (by omega) _
      · obtain rfl : nf = 0 := by omega
        by_cases h4 : (ct + 1) % 4 = 0
        · have k4 : ((ct + 1) % 4 == 0) = true := by simp [h4]
          go_wp2_with (go_at_call 35; refine (CWr.out (by omega)).mono ?_; rintro e w6 hw6; have W6 := hidOf hw6; obtain ⟨⟨r6, rfl⟩, _⟩ := hw6)
          go_end0
          exact FW.out _ _ W6.out _
        · have k4 : ((ct + 1) % 4 == 0) = false := by simp [h4]
          go_wp2
          go_end0
          exact FS.out (by omega) _
end Go.Proofs.Ytoobdcjkhphlcaa
