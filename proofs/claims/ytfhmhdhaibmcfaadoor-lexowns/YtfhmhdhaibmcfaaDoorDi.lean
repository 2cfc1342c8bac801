import Derived.Test.YtfhmhdhaibmcfaaDoorDg
import Derived.Test.YtfhmhdhaibmcfaaDoorDk
import Derived.Deep.DeepCutAuto
namespace Go.Proofs.YtfhmhdhaibmcfaaDoor
open Go.RowKit
set_option linter.unusedVariables false
set_option linter.unusedSimpArgs false
theorem FLk.tok {S : Nat → Prop} {w w' : World} {B : Nat} {x : Value} {m : Int} {n k : Nat} (h : FLk w B x m n k) (c : Chg S w w') (hS : ∀ b, S b → ¬ ∃ cs, BlT w b cs) : FLk w' B x m n k := h.chg c (fun b hb hs => hS b hs (h.blk b hb).2)
/-- tokens in a block of tokens -/
def TkB (w : World) (a : Option Addr) (T : List Tk) : Prop := TksAt w a T ∧ ∀ ad, a = some ad → ∃ cs, BlT w ad.block cs
theorem TkB.tok {S : Nat → Prop} {w w' : World} {a : Option Addr} {T : List Tk} (h : TkB w a T) (c : Chg S w w') (hS : ∀ b, S b → ¬ ∃ cs, BlT w b cs) : TkB w' a T := by
  refine ⟨?_, fun ad had => ?_⟩
  · rcases h.1 with h1 | ⟨b, o, ha, hc⟩
    · exact .inl h1
    · have hb : ¬ S b := fun hs => hS b hs (h.2 _ ha)
      exact .inr ⟨b, o, ha, fun k x hx => ⟨c.cell (hc k x hx).1 hb, c.cell (hc k x hx).2.1 hb, c.cell (hc k x hx).2.2.1 hb, c.cell (hc k x hx).2.2.2 hb⟩⟩
  · obtain ⟨cs, hb⟩ := h.2 ad had
    exact ⟨cs, hb.chg c (fun hs => hS _ hs ⟨cs, hb⟩)⟩
theorem TkB.out {w w' : World} {a : Option Addr} {T : List Tk} (h : TkB w a T) (o : Out w w') : TkB w' a T := h.tok (S := fun _ => False) (Chg.of_out o) (fun _ h => h.elim)
theorem TkB.own {w : World} {B : Nat} {a : Option Addr} {n c : Nat} {T : List Tk} (h : w.ownsRow B 36 4 (.slice a n c) n (tkV T)) (hn : n = T.length) : TkB w a T := by
  subst hn
  obtain ⟨a', c', he, _, ht⟩ := owns_tks h
  simp only [Value.slice.injEq] at he
  obtain ⟨rfl, _, rfl⟩ := he
  refine ⟨ht, fun ad had => ?_⟩
  rcases h.2 with ⟨hv, _⟩ | ⟨g, cap, cur, hv, _, hg, _⟩
  · simp only [Value.slice.injEq] at hv; rw [hv.1] at had; cases had
  · simp only [Value.slice.injEq] at hv; rw [hv.1] at had; cases had; exact ⟨cur, hg⟩
structure Lst (w : World) (B : Nat) (F W K : List Value) (M : List Int) : Prop where
  wl : W.length = F.length
  prs : ∀ (i : Nat) x y, F[i]? = some x → W[i]? = some y → ∃ T a1 c1 a2 c2, x = .slice a1 T.length c1 ∧ y = .slice a2 T.length c2 ∧ TkB w a1 T ∧ TkB w a2 T ∧ T.length ≤ 33554433
  kp : Kp w K M
  l0 : ∀ (j : Nat) x, F[j]? = some x → ∃ n, FLk w B x 0 n 0
  dst : Dst F
  ak : Ak F K
  ml : M.length = K.length
theorem Lst.tok {S : Nat → Prop} {w w' : World} {B : Nat} {F W K : List Value} {M : List Int} (h : Lst w B F W K M) (c : Chg S w w') (hS : ∀ b, S b → ¬ ∃ cs, BlT w b cs) : Lst w' B F W K M :=
  ⟨h.wl, fun i x y hx hy => by
    obtain ⟨T, a1, c1, a2, c2, h1, h2, h3, h4, h5⟩ := h.prs i x y hx hy
    exact ⟨T, a1, c1, a2, c2, h1, h2, h3.tok c hS, h4.tok c hS, h5⟩, h.kp.tok c hS, fun j x hx => by
    obtain ⟨n, hn⟩ := h.l0 j x hx
    exact ⟨n, hn.tok c hS⟩, h.dst, h.ak, h.ml⟩
theorem Lst.out {w w' : World} {B : Nat} {F W K : List Value} {M : List Int} (h : Lst w B F W K M) (o : Out w w') : Lst w' B F W K M := h.tok (S := fun _ => False) (Chg.of_out o) (fun _ h => h.elim)
theorem Lst.prs' {w : World} {B : Nat} {F W K : List Value} {M : List Int} (h : Lst w B F W K M) : Prs w F W := fun i x y hx hy => by
  obtain ⟨T, a1, c1, a2, c2, h1, h2, h3, h4, h5⟩ := h.prs i x y hx hy
  exact ⟨T, a1, c1, a2, c2, h1, h2, h3.1, h4.1, h5⟩
theorem Lst.l1 {w : World} {B : Nat} {F W K : List Value} {M : List Int} (h : Lst w B F W K M) (ct : Int) : L1 w B ct F 0 := fun j x hx => by
  obtain ⟨n, hn⟩ := h.l0 j x hx
  exact ⟨n, by rw [if_neg (by omega)]; exact hn.mark⟩
/-- a list more lies untouched -/
theorem Lst.snoc {w : World} {B N : Nat} {F W K : List Value} {M : List Int} {T : List Tk} {a a2 : Option Addr} {c c2 : Nat} (h : Lst w B F W K M) (hF : ∀ (j : Nat) y b, F[j]? = some y ∨ K[j]? = some y → y.ownBlock = some b → b < N) (hx : OwT N (.slice a T.length c) T w) (hN : B ≤ N) (hT : T.length ≤ 33554433) (h2 : TkB w a2 T) :
    Lst w B (F ++ [.slice a T.length c]) (W ++ [.slice a2 T.length c2]) K M := by
  have hxb : ∀ b, (Value.slice a T.length c).ownBlock = some b → N ≤ b := fun b hb => (World.ownsRow.lt hx b hb).1
  refine ⟨by simp [h.wl], fun i x y hix hiy => ?_, h.kp, fun j x hj => ?_, fun i j x y hi hj hij b hxb' hyb => ?_, fun i j x y hi hj b hxb' hyb => ?_, h.ml⟩
  · by_cases hi : i < F.length
    · rw [List.getElem?_append_left hi] at hix
      rw [List.getElem?_append_left (by rw [h.wl]; exact hi)] at hiy
      exact h.prs i x y hix hiy
    · have hie : i = F.length := by have := (List.getElem?_eq_some_iff.1 hix).1; simp at this; omega
      subst hie
      rw [List.getElem?_append_right (Nat.le_refl _), Nat.sub_self] at hix
      rw [List.getElem?_append_right (by rw [h.wl]; exact Nat.le_refl _), h.wl, Nat.sub_self] at hiy
      simp at hix hiy
      subst hix hiy
      exact ⟨T, a, c, a2, c2, rfl, rfl, TkB.own hx rfl, h2, hT⟩
  · by_cases hi : j < F.length
    · rw [List.getElem?_append_left hi] at hj
      exact h.l0 j x hj
    · have hie : j = F.length := by have := (List.getElem?_eq_some_iff.1 hj).1; simp at this; omega
      subst hie
      rw [List.getElem?_append_right (Nat.le_refl _), Nat.sub_self] at hj
      simp at hj
      subst hj
      exact ⟨T.length, FLk.of_own (owns_base hx hN) hT 0⟩
  · by_cases hi' : i < F.length
    · rw [List.getElem?_append_left hi'] at hi
      by_cases hj' : j < F.length
      · rw [List.getElem?_append_left hj'] at hj
        exact h.dst i j x y hi hj hij b hxb' hyb
      · rw [List.getElem?_append_right (by omega)] at hj
        have : j - F.length = 0 := by have := (List.getElem?_eq_some_iff.1 hj).1; simp at this; omega
        rw [this] at hj; simp at hj; subst hj
        have h1 := hF i x b (.inl hi) hxb'
        have h2 := hxb b hyb
        omega
    · rw [List.getElem?_append_right (by omega)] at hi
      have h0 : i - F.length = 0 := by have := (List.getElem?_eq_some_iff.1 hi).1; simp at this; omega
      rw [h0] at hi; simp at hi; subst hi
      have hj' : j < F.length := by
        have := (List.getElem?_eq_some_iff.1 hj).1; simp at this; omega
      rw [List.getElem?_append_left hj'] at hj
      have h1 := hF j y b (.inl hj) hyb
      have h2 := hxb b hxb'
      omega
  · by_cases hi' : i < F.length
    · rw [List.getElem?_append_left hi'] at hi
      exact h.ak i j x y hi hj b hxb' hyb
    · rw [List.getElem?_append_right (by omega)] at hi
      have h0 : i - F.length = 0 := by have := (List.getElem?_eq_some_iff.1 hi).1; simp at this; omega
      rw [h0] at hi; simp at hi; subst hi
      have h1 := hF j y b (.inr hj) hyb
      have h2 := hxb b hxb'
      omega
theorem Lst.lt {w : World} {B : Nat} {F W K : List Value} {M : List Int} (h : Lst w B F W K M) : ∀ (j : Nat) y b, F[j]? = some y ∨ K[j]? = some y → y.ownBlock = some b → b < w.heap.size := fun j y b hy hb => by
  rcases hy with hy | hy
  · obtain ⟨n, hn⟩ := h.l0 j y hy
    obtain ⟨_, cs, hc⟩ := hn.blk b hb
    exact hc.lt
  · obtain ⟨m, n, _, hml, _⟩ := h.kp j y hy
    exact hml.lt b hb
theorem after3 {w7 w8 : World} {B p : Nat} {ct tt : Int} {fa wa ka ma : Value} {F W K : List Value} {M : List Int} (h : Shf w7 B p ct tt fa wa ka ma F W K M) (O : Obj) (x : Value) (g cap : Nat) (hown : w8.ownsRow B 30 1 (.slice (some ⟨g, 0, none⟩) (F.length + 1) cap) (F.length + 1) (F ++ [x])) (hgrow : (w7.alloc O).grownBy w8 fa.ownBlock) (hg : fa.ownBlock = some g ∨ g = (w7.alloc O).heap.size) :
    Shf (w8.setCell ⟨p, 3, none⟩ (.slice (some ⟨g, 0, none⟩) (F.length + 1) cap)) B p ct tt (.slice (some ⟨g, 0, none⟩) (F.length + 1) cap) wa ka ma (F ++ [x]) W K M ∧ Chg (fun b => b = p ∨ fa.ownBlock = some b) w7 (w8.setCell ⟨p, 3, none⟩ (.slice (some ⟨g, 0, none⟩) (F.length + 1) cap)) := by
  have hA := h.out ((Out.refl w7).alloc O)
  have c8 : Chg (fun b => fa.ownBlock = some b) (w7.alloc O) w8 := Chg.of_grown hgrow (fun k h => h)
  have st8 : w8.heap[p]? = _ := (c8.block p hA.lt (fun e => hA.notp.1 e)).trans hA.st
  have w8' := owns_chg hA.wa_ (fun k hk e => hA.fw k e hk) c8
  have k8 := owns_chg hA.ka_ (fun k hk e => hA.fk k e hk) c8
  have m8 := owns_chg hA.ma_ (fun k hk e => own_apart (by decide) hA.ma_ hA.fa_ k hk e) c8
  refine ⟨Shf.store st8 h.bp 3 _ rfl (by rw [List.length_append]; exact hown) w8' k8 m8 (fun b e hb => ?_) (fun b e hb => ?_) h.wk, ?_⟩
  · simp [Value.ownBlock] at e
    subst e
    rcases hg with hg | hg
    · exact h.fw g hg hb
    · have := (h.wa_.lt g hb).2; rw [size_alloc] at hg; omega
  · simp [Value.ownBlock] at e
    subst e
    rcases hg with hg | hg
    · exact h.fk g hg hb
    · have := (h.ka_.lt g hb).2; rw [size_alloc] at hg; omega
  · exact ((Chg.of_out (S := fun b => b = p ∨ fa.ownBlock = some b) ((Out.refl w7).alloc O)).trans c8 (fun x hx _ => .inr hx)).setCell (p := ⟨p, 3, none⟩) (.inl rfl) _
theorem after4 {w7 w8 : World} {B p : Nat} {ct tt : Int} {fa wa ka ma : Value} {F W K : List Value} {M : List Int} (h : Shf w7 B p ct tt fa wa ka ma F W K M) (O : Obj) (x : Value) (g cap : Nat) (hown : w8.ownsRow B 30 1 (.slice (some ⟨g, 0, none⟩) (W.length + 1) cap) (W.length + 1) (W ++ [x])) (hgrow : (w7.alloc O).grownBy w8 wa.ownBlock) (hg : wa.ownBlock = some g ∨ g = (w7.alloc O).heap.size) :
    Shf (w8.setCell ⟨p, 4, none⟩ (.slice (some ⟨g, 0, none⟩) (W.length + 1) cap)) B p ct tt fa (.slice (some ⟨g, 0, none⟩) (W.length + 1) cap) ka ma F (W ++ [x]) K M ∧ Chg (fun b => b = p ∨ wa.ownBlock = some b) w7 (w8.setCell ⟨p, 4, none⟩ (.slice (some ⟨g, 0, none⟩) (W.length + 1) cap)) := by
  have hA := h.out ((Out.refl w7).alloc O)
  have c8 : Chg (fun b => wa.ownBlock = some b) (w7.alloc O) w8 := Chg.of_grown hgrow (fun k h => h)
  have st8 : w8.heap[p]? = _ := (c8.block p hA.lt (fun e => hA.notp.2.1 e)).trans hA.st
  have f8 := owns_chg hA.fa_ (fun k hk e => hA.fw k hk e) c8
  have k8 := owns_chg hA.ka_ (fun k hk e => hA.wk k e hk) c8
  have m8 := owns_chg hA.ma_ (fun k hk e => own_apart (by decide) hA.ma_ hA.wa_ k hk e) c8
  refine ⟨Shf.store st8 h.bp 4 _ rfl f8 (by rw [List.length_append]; exact hown) k8 m8 (fun b hb e => ?_) h.fk (fun b e hb => ?_), ?_⟩
  · simp [Value.ownBlock] at e
    subst e
    rcases hg with hg | hg
    · exact h.fw g hb hg
    · have := (h.fa_.lt g hb).2; rw [size_alloc] at hg; omega
  · simp [Value.ownBlock] at e
    subst e
    rcases hg with hg | hg
    · exact h.wk g hg hb
    · have := (h.ka_.lt g hb).2; rw [size_alloc] at hg; omega
  · exact ((Chg.of_out (S := fun b => b = p ∨ wa.ownBlock = some b) ((Out.refl w7).alloc O)).trans c8 (fun x hx _ => .inr hx)).setCell (p := ⟨p, 4, none⟩) (.inl rfl) _
end Go.Proofs.YtfhmhdhaibmcfaaDoor
namespace Go.Proofs.YtfhmhdhaibmcfaaDoor
open Go.RowKit
set_option linter.unusedVariables false
set_option linter.unusedSimpArgs false
/-- the shelf between two lists -/
def Shv (w : World) (B p : Nat) (ct tt : Int) (nk : Nat) : Prop := ∃ fa wa ka ma F W K M, Shf w B p ct tt fa wa ka ma F W K M ∧ Lst w B F W K M ∧ F.length ≤ 2 ∧ K.length ≤ nk
theorem Shv.out {w w' : World} {B p : Nat} {ct tt : Int} {nk : Nat} (h : Shv w B p ct tt nk) (o : Out w w') : Shv w' B p ct tt nk := by
  obtain ⟨fa, wa, ka, ma, F, W, K, M, h1, h2, h3⟩ := h
  exact ⟨fa, wa, ka, ma, F, W, K, M, h1.out o, h2.out o, h3⟩
def OwnEnd (w : World) (B p : Nat) (ct tt : Int) (nk n : Nat) (e : Ending) (w' : World) : Prop := (∃ r, e = .returned r) ∧ (∃ ct', Shv w' B p ct' (tt + n) (nk + 12) ∧ 0 ≤ ct' ∧ ct' ≤ ct + 4) ∧ Chg (fun b => B ≤ b) w w'
theorem OwT.tok {S : Nat → Prop} {w w' : World} {N : Nat} {x : Value} {T : List Tk} (h : OwT N x T w) (c : Chg S w w') (hS : ∀ b, S b → ¬ ∃ cs, BlT w b cs) : OwT N x T w' := owns_chg h (fun k hk hs => by
  rcases h.2 with ⟨hv, _⟩ | ⟨g, cap, cur, hv, _, hg, _⟩
  · rw [hv] at hk; cases hk
  · rw [hv] at hk; simp [Value.ownBlock] at hk; subst hk; exact hS g hs ⟨cur, hg⟩) c
/-- behind the two appends -/
def Mid (w : World) (B p : Nat) (ct tt : Int) (F W K : List Value) (x y : Value) (M : List Int) (ka ma : Value) (wx : World) : Prop :=
  ∃ af cf wa', Shf wx B p ct tt (.slice af (F.length + 1) cf) wa' ka ma (F ++ [x]) (W ++ [y]) K M ∧ Lst wx B (F ++ [x]) (W ++ [y]) K M ∧ Chg (fun b => B ≤ b) w wx
set_option maxRecDepth 20000 in
set_option maxHeartbeats 8000000 in
theorem own_any (CW : WriteC) (w0 w : World) (B p : Nat) (ct tt : Int) (nk : Nat) (h0 : Shv w0 B p ct tt nk) (ho : Out w0 w) (a : Option Addr) (c : Nat) (T : List Tk) (hx : OwT w0.heap.size (.slice a T.length c) T w) (hT : T.length ≤ 33554433) (hct0 : 0 ≤ ct) (hct1 : ct ≤ 900) (htt0 : 0 ≤ tt) (htt1 : tt ≤ 300000000) (hnk : nk ≤ 96) :
    Calls Tryd.prog 18 #[.pointer (some ⟨p, 0, none⟩), .slice a T.length c] w fun e w' => OwnEnd w B p ct tt nk T.length e w' := by
  obtain ⟨fa, wa, ka, ma, F, W, K, M, hs0, hl0, hF, hK⟩ := h0
  have hBN : B ≤ w0.heap.size := by have := hs0.lt; have := hs0.bp; omega
  have hlt0 := hl0.lt
  have hs := hs0.out ho
  have hl := hl0.out ho
  obtain ⟨af, cf, rfl⟩ := own_form hs.fa_
  obtain ⟨aw, cw, rfl⟩ := own_form hs.wa_
  have S2 : Hid (Shf ((w.setCell ⟨p, 0, none⟩ (.int .i64 (ct + 1))).setCell ⟨p, 1, none⟩ (.int .i64 (tt + T.length))) B p (ct + 1) (tt + T.length) (.slice af F.length cf) (.slice aw W.length cw) ka ma F W K M) := by
    have s1 := Shf.store hs.st hs.bp 0 (.int .i64 (ct + 1)) rfl hs.fa_ hs.wa_ hs.ka_ hs.ma_ hs.fw hs.fk hs.wk
    exact hidOf (Shf.store s1.st s1.bp 1 (.int .i64 (tt + T.length)) rfl s1.fa_ s1.wa_ s1.ka_ s1.ma_ s1.fw s1.fk s1.wk)
  have C2 : Chg (fun b => b = p) w ((w.setCell ⟨p, 0, none⟩ (.int .i64 (ct + 1))).setCell ⟨p, 1, none⟩ (.int .i64 (tt + T.length))) := (Chg.setCell (S := fun b => b = p) (Chg.refl _ w) (p := ⟨p, 0, none⟩) rfl _).setCell (p := ⟨p, 1, none⟩) rfl _
  have hpT : ∀ b, b = p → ¬ ∃ cs, BlT w b cs := fun b hb => hs.so b (.inl hb)
  have L2 : Hid (Lst ((w.setCell ⟨p, 0, none⟩ (.int .i64 (ct + 1))).setCell ⟨p, 1, none⟩ (.int .i64 (tt + T.length))) B F W K M) := hl.tok C2 hpT
  have X2 : Hid (OwT w0.heap.size (.slice a T.length c) T ((w.setCell ⟨p, 0, none⟩ (.int .i64 (ct + 1))).setCell ⟨p, 1, none⟩ (.int .i64 (tt + T.length)))) := owns_chg hx (fun k hk e => by
    rw [e] at hk
    exact own_kind hx hs.st (by decide) hk) C2
  have G2 : Hid (Chg (fun b => B ≤ b) w ((w.setCell ⟨p, 0, none⟩ (.int .i64 (ct + 1))).setCell ⟨p, 1, none⟩ (.int .i64 (tt + T.length)))) := C2.mono (fun b hb _ => by rw [hb]; exact hs.bp)
  have N2 : Hid (w0.heap.size ≤ ((w.setCell ⟨p, 0, none⟩ (.int .i64 (ct + 1))).setCell ⟨p, 1, none⟩ (.int .i64 (tt + T.length))).heap.size) := Nat.le_trans ho.size C2.size
  have c0 : w.cell? ⟨p, 0, none⟩ = some (.int .i64 ct) := by rw [cell_atL hs.st]; rfl
  have c1 : w.cell? ⟨p, 1, none⟩ = some (.int .i64 tt) := by rw [cell_atL hs.st]; rfl
  have f0 := frozen_atL hs.st 0
  have f1 := frozen_atL hs.st 1
  have HF := hidOf hlt0
  have HBN := hidOf hBN
  clear hs hl hs0 hl0 hx ho C2 hpT hlt0 hBN
  go_enter Tryd.func18, Tryd.ntmps18
  go_upto_region 2 with fail
  clear c0 c1 f0 f1
  generalize (w.setCell ⟨p, 0, none⟩ (.int .i64 (ct + 1))).setCell ⟨p, 1, none⟩ (.int .i64 (tt + T.length)) = w2 at *
  obtain ⟨i30, hi30, hy0, hy1, hy2⟩ := info_parts infoSl
  have c3 : w2.cell? ⟨p, 3, none⟩ = some (.slice af F.length cf) := by rw [cell_atL S2.out.st]; rfl
  go_upto_region 3 with (at_builtin; refine wpList_append_lies _ rfl (.tmp 25) (.tmp 27) 39 rfl B 30 i30 _ 1 24 Tryd.underlying39 hi30 hy0 hy1 hy2 rfl (by decide) (.slice af F.length cf) F.length F rfl (owns_out' S2.out.fa_ ((Out.refl w2).alloc _)) ⟨w2.heap.size, 0, none⟩ 1 1 [.slice a T.length c] rfl rfl (news_new w2 _ _ _ rfl) (by intro u hu; simp at hu; rw [hu]; rfl) (by decide) (by unfold maxLen; omega) (by omega) (by have := S2.out.lt; have := S2.out.bp; rw [size_alloc]; omega) _ rfl ?_; intro g3 cap3 w3 hown3 hgrow3 hg3 hlt3; have hp3 : w3.heap[p]? = _ := (hgrow3.block p (by have := S2.out.lt; rw [size_alloc]; omega) (fun e => S2.out.notp.1 e.symm)).trans (((Out.refl w2).alloc _).block p S2.out.lt |>.trans S2.out.st); have d33 : w3.cell? ⟨p, 3, none⟩ = some (.slice af F.length cf) := (by rw [cell_atL hp3]; rfl); have f33 := frozen_atL hp3 3; have W3 := hidOf hown3; have G3 := hidOf hgrow3; have Hg3 := hidOf hg3; clear hown3 hgrow3 hg3 hlt3 hp3)
  obtain ⟨s4, k4⟩ := after3 S2.out _ _ _ _ W3.out G3.out Hg3.out
  have hfT : ∀ b, (b = p ∨ (Value.slice af F.length cf).ownBlock = some b) → ¬ ∃ cs, BlT w2 b cs := fun b hb ⟨cs, hc⟩ => by
    rcases hb with rfl | hb
    · exact S2.out.so b (.inl rfl) ⟨cs, hc⟩
    · exact own_kind S2.out.fa_ hc (by decide) hb
  have S4 := hidOf s4
  have L4 := hidOf (L2.out.tok k4 hfT)
  have X4 := hidOf (X2.out.tok k4 hfT)
  have G4 : Hid (Chg (fun b => B ≤ b) w (w3.setCell ⟨p, 3, none⟩ (.slice (some ⟨g3, 0, none⟩) (F.length + 1) cap3))) := G2.out.trans k4 (fun b hb _ => by
    rcases hb with rfl | hb
    · exact S2.out.bp
    · exact (S2.out.fa_.lt b hb).1)
  have N4 : Hid (w0.heap.size ≤ (w3.setCell ⟨p, 3, none⟩ (.slice (some ⟨g3, 0, none⟩) (F.length + 1) cap3)).heap.size) := Nat.le_trans N2.out k4.size
  clear s4 k4 hfT d33 f33 c3 S2 L2 X2 G2 N2 W3 G3 Hg3
  generalize w3.setCell ⟨p, 3, none⟩ (.slice (some ⟨g3, 0, none⟩) (F.length + 1) cap3) = w4 at *
  have hw4T : Hid (∀ b, (b = p ∨ (Value.slice aw W.length cw).ownBlock = some b) → ¬ ∃ cs, BlT w4 b cs) := fun b hb ⟨cs, hc⟩ => by
    rcases hb with rfl | hb
    · exact S4.out.so b (.inl rfl) ⟨cs, hc⟩
    · exact own_kind S4.out.wa_ hc (by decide) hb
  have hWl : Hid (W.length ≤ 2) := by have := L4.out.wl; show W.length ≤ 2; omega
  go_cut [0] (fun s0 wx => s0 = .pointer (some ⟨p, 0, none⟩) ∧ ∃ a2 c2, Mid w B p (ct + 1) (tt + T.length) F W K (.slice a T.length c) (.slice a2 T.length c2) M ka ma wx)
  case first =>
    have d4 : w4.drew.cell? ⟨p, 4, none⟩ = some (.slice aw W.length cw) := by rw [cell_atL (show w4.drew.heap[p]? = _ from S4.out.st)]; rfl
    have d4a : ∀ O, (w4.alloc O).cell? ⟨p, 4, none⟩ = some (.slice aw W.length cw) := fun O => cell_later ((Out.refl w4).alloc O) (show w4.cell? ⟨p, 4, none⟩ = _ from d4)
    by_cases hT0 : T = []
    · subst hT0
      cases a with
      | none =>
        simp only [List.length_nil] at X4 ⊢
        go_region_law (first | (refine step_append_lies _ rfl (.tmp 35) (.tmp 38) 39 rfl B 30 i30 _ 1 24 Tryd.underlying39 hi30 hy0 hy1 hy2 rfl (by decide) (.slice aw W.length cw) W.length W rfl (owns_out' S4.out.wa_ ((Out.refl w4).alloc _).drew) ⟨w4.heap.size, 0, none⟩ 1 1 [.slice none 0 0] rfl rfl (news_drew w4 _ _ _ rfl) (by intro u hu; simp at hu; rw [hu]; rfl) (by decide) (by unfold maxLen; have := hWl.out; omega) (by have := hWl.out; omega) (by have := S4.out.lt; have := S4.out.bp; rw [heap_drew', size_alloc]; omega) _ rfl ?_; intro g6 cap6 w6 hown6 hgrow6 hg6 hlt6; have hp6 : w6.heap[p]? = _ := (hgrow6.block p (by have := S4.out.lt; rw [heap_drew', size_alloc]; omega) (fun e => S4.out.notp.2.1 e.symm)).trans ((((Out.refl w4).alloc _).drew).block p S4.out.lt |>.trans S4.out.st); have d46 : w6.cell? ⟨p, 4, none⟩ = some (.slice aw W.length cw) := (by rw [cell_atL hp6]; rfl); have f46 := frozen_atL hp6 4; have W6 := hidOf hown6; have G6 := hidOf hgrow6; have Hg6 := hidOf hg6; clear hown6 hgrow6 hg6 hlt6 hp6))
        all_goals
          go_wp2
          go_meet
          obtain ⟨s7, k7⟩ := after4 (S4.out.out (Out.refl w4).drew) (.cells #[.slice none 0 0] 30) _ _ _ W6.out (show (w4.drew.alloc (.cells #[.slice none 0 0] 30)).grownBy w6 _ from G6.out) (show _ ∨ g6 = (w4.drew.alloc (.cells #[.slice none 0 0] 30)).heap.size from Hg6.out)
          have k7' : Chg (fun b => b = p ∨ (Value.slice aw W.length cw).ownBlock = some b) w4 _ := (Chg.of_out (S := fun b => b = p ∨ (Value.slice aw W.length cw).ownBlock = some b) (Out.refl w4).drew).trans k7 (fun b hb _ => hb)
          exact ⟨rfl, none, 0, _, _, _, s7, Lst.snoc (T := []) (L4.out.tok k7' hw4T.out) HF.out (X4.out.tok k7' hw4T.out) HBN.out (by simp) ⟨.inl rfl, fun ad had => by cases had⟩, G4.out.trans k7' (fun b hb _ => by
            rcases hb with rfl | hb
            · exact S4.out.bp
            · exact (S4.out.wa_.lt b hb).1)⟩
      | some ad =>
        simp only [List.length_nil] at X4 ⊢
        go_region_law (first | (refine step_append_lies _ rfl (.tmp 35) (.tmp 38) 39 rfl B 30 i30 _ 1 24 Tryd.underlying39 hi30 hy0 hy1 hy2 rfl (by decide) (.slice aw W.length cw) W.length W rfl (owns_out' S4.out.wa_ ((Out.refl w4).alloc _).drew) ⟨w4.heap.size, 0, none⟩ 1 1 [.slice none 0 0] rfl rfl (news_drew w4 _ _ _ rfl) (by intro u hu; simp at hu; rw [hu]; rfl) (by decide) (by unfold maxLen; have := hWl.out; omega) (by have := hWl.out; omega) (by have := S4.out.lt; have := S4.out.bp; rw [heap_drew', size_alloc]; omega) _ rfl ?_; intro g6 cap6 w6 hown6 hgrow6 hg6 hlt6; have hp6 : w6.heap[p]? = _ := (hgrow6.block p (by have := S4.out.lt; rw [heap_drew', size_alloc]; omega) (fun e => S4.out.notp.2.1 e.symm)).trans ((((Out.refl w4).alloc _).drew).block p S4.out.lt |>.trans S4.out.st); have d46 : w6.cell? ⟨p, 4, none⟩ = some (.slice aw W.length cw) := (by rw [cell_atL hp6]; rfl); have f46 := frozen_atL hp6 4; have W6 := hidOf hown6; have G6 := hidOf hgrow6; have Hg6 := hidOf hg6; clear hown6 hgrow6 hg6 hlt6 hp6))
        all_goals
          go_wp2
          go_meet
          obtain ⟨s7, k7⟩ := after4 (S4.out.out (Out.refl w4).drew) (.cells #[.slice none 0 0] 30) _ _ _ W6.out (show (w4.drew.alloc (.cells #[.slice none 0 0] 30)).grownBy w6 _ from G6.out) (show _ ∨ g6 = (w4.drew.alloc (.cells #[.slice none 0 0] 30)).heap.size from Hg6.out)
          have k7' : Chg (fun b => b = p ∨ (Value.slice aw W.length cw).ownBlock = some b) w4 _ := (Chg.of_out (S := fun b => b = p ∨ (Value.slice aw W.length cw).ownBlock = some b) (Out.refl w4).drew).trans k7 (fun b hb _ => hb)
          exact ⟨rfl, none, 0, _, _, _, s7, Lst.snoc (T := []) (L4.out.tok k7' hw4T.out) HF.out (X4.out.tok k7' hw4T.out) HBN.out (by simp) ⟨.inl rfl, fun ad had => by cases had⟩, G4.out.trans k7' (fun b hb _ => by
            rcases hb with rfl | hb
            · exact S4.out.bp
            · exact (S4.out.wa_.lt b hb).1)⟩
    · obtain ⟨g, rfl, hnw⟩ : ∃ g, a = some ⟨g, 0, none⟩ ∧ ∀ wx, Out w4 wx → ∀ j u, (tkV T)[j]? = some u → wx.cell? ((⟨g, 0, none⟩ : Addr).add j) = some u := by
        rcases X4.out.2 with ⟨_, hn⟩ | ⟨g, cap, cur, hv, _⟩
        · exact absurd (List.length_eq_zero_iff.1 hn) hT0
        · simp only [Value.slice.injEq] at hv
          exact ⟨g, hv.1, fun wx ho => World.ownsRow.cells (owns_out' X4.out ho) (g := g) (by rw [hv.1]; rfl)⟩
      have hTp : 0 < T.length := List.length_pos_iff.2 hT0
      have HNW := hidOf hnw
      obtain ⟨i1, hi1, hq0, hq1, hq2⟩ := info_parts infoTk
      clear hnw hT0
      go_region_law (first | (refine step_append_lies _ rfl (.const (.slice none 0 0)) (.tmp 36) 30 rfl B 36 i1 _ 4 40 Tryd.underlying30 hi1 hq0 hq1 hq2 rfl (by decide) (.slice none 0 0) 0 [] rfl (World.ownsRow_nil _ _ _ _) ⟨g, 0, none⟩ T.length c (tkV T) rfl (tkV_len T) (HNW.out w4.drew (Out.refl w4).drew) (tkV_one T) hTp (by unfold maxLen; omega) (by omega) (by have := S4.out.lt; have := S4.out.bp; show B ≤ w4.heap.size; omega) _ rfl ?_; intro g5 cap5 w5 hown5 hgrow5 hg5 hlt5; rw [Nat.zero_add] at hown5; have O5 : Out w4 w5 := Out.trans (Out.refl w4).drew ⟨hgrow5.os, hgrow5.tape, hgrow5.output, hgrow5.size, fun k hk => hgrow5.block k hk (fun e => by cases e)⟩; have HO5 := hidOf O5; have W5 := hidOf hown5; have d45 : w5.cell? ⟨p, 4, none⟩ = some (.slice aw W.length cw) := cell_later O5 (show w4.cell? ⟨p, 4, none⟩ = _ from d4); have d45a : ∀ O, (w5.alloc O).cell? ⟨p, 4, none⟩ = some (.slice aw W.length cw) := fun O => cell_later ((Out.refl w5).alloc O) d45; (try rw [Nat.zero_add]); clear hown5 hgrow5 hg5 hlt5 O5) | (refine step_append_lies _ rfl (.tmp 35) (.tmp 38) 39 rfl B 30 i30 _ 1 24 Tryd.underlying39 hi30 hy0 hy1 hy2 rfl (by decide) (.slice aw W.length cw) W.length W rfl (owns_out' S4.out.wa_ (HO5.out.alloc _)) ⟨w5.heap.size, 0, none⟩ 1 1 [.slice (some ⟨g5, 0, none⟩) T.length cap5] rfl rfl (news_new w5 _ _ _ rfl) (by intro u hu; simp at hu; rw [hu]; rfl) (by decide) (by unfold maxLen; have := hWl.out; omega) (by have := hWl.out; omega) (by have := S4.out.lt; have := S4.out.bp; have := HO5.out.size; rw [size_alloc]; omega) _ rfl ?_; intro g6 cap6 w6 hown6 hgrow6 hg6 hlt6; have hp6 : w6.heap[p]? = _ := (hgrow6.block p (by have := S4.out.lt; have := HO5.out.size; rw [size_alloc]; omega) (fun e => S4.out.notp.2.1 e.symm)).trans ((HO5.out.alloc _).block p S4.out.lt |>.trans S4.out.st); have d46 : w6.cell? ⟨p, 4, none⟩ = some (.slice aw W.length cw) := (by rw [cell_atL hp6]; rfl); have f46 := frozen_atL hp6 4; have W6 := hidOf hown6; have G6 := hidOf hgrow6; have Hg6 := hidOf hg6; clear hown6 hgrow6 hg6 hlt6 hp6))
      all_goals
        go_wp2
        go_meet
        obtain ⟨s7, k7⟩ := after4 (S4.out.out HO5.out) _ _ _ _ W6.out G6.out Hg6.out
        have hS5 : ∀ b, (b = p ∨ (Value.slice aw W.length cw).ownBlock = some b) → ¬ ∃ cs, BlT w5 b cs := fun b hb ⟨cs, hc⟩ => by
          rcases hb with rfl | hb
          · exact (S4.out.out HO5.out).so b (.inl rfl) ⟨cs, hc⟩
          · exact own_kind (S4.out.out HO5.out).wa_ hc (by decide) hb
        exact ⟨rfl, some ⟨g5, 0, none⟩, cap5, _, _, _, s7, Lst.snoc ((L4.out.out HO5.out).tok k7 hS5) HF.out (OwT.tok (owns_out' X4.out HO5.out) k7 hS5) HBN.out hT ((TkB.own W5.out rfl).tok k7 hS5), (G4.out.then_out HO5.out).trans k7 (fun b hb _ => by
          rcases hb with rfl | hb
          · exact S4.out.bp
          · exact (S4.out.wa_.lt b hb).1)⟩
  case rest =>
    obtain ⟨rfl, a2, c2, af5, cf5, wa5, s5, l5, g5⟩ := hcut
    have S5 := hidOf s5
    have L5 := hidOf l5
    have G5 := hidOf g5
    have e3 : wc.cell? ⟨p, 3, none⟩ = some (.slice af5 (F.length + 1) cf5) := by rw [cell_atL s5.st]; rfl
    have e0 : wc.cell? ⟨p, 0, none⟩ = some (.int .i64 (ct + 1)) := by rw [cell_atL s5.st]; rfl
    have CWr : Hid (F.length + 1 ≤ 3 → Calls Tryd.prog 31 #[.pointer (some ⟨p, 0, none⟩)] wc fun e w' => WrEnd wc B p (ct + 1) (tt + T.length) (F ++ [.slice a T.length c]) K e w') := fun h3 => CW wc B p (ct + 1) (tt + T.length) _ _ _ _ _ _ _ _ s5 l5.wl l5.prs' (by simp; omega) l5.kp (by omega) l5.ml (l5.l1 _) l5.dst l5.ak (by omega) (by omega) (by omega) (by omega)
    have FW : Hid (∀ e w', WrEnd wc B p (ct + 1) (tt + T.length) (F ++ [.slice a T.length c]) K e w' → ∀ r, OwnEnd w B p ct tt nk T.length (.returned r) w') := fun e w' ⟨_, ka', ma', K', M', h1, h2, h3, h4, h5⟩ r => by
      refine ⟨⟨r, rfl⟩, ⟨ct + 1 + ((F ++ [.slice a T.length c] : List Value).length : Int), ⟨_, _, ka', ma', [], [], K', M', h1, ⟨rfl, fun i x y hx => by simp at hx, h2, fun j x hx => by simp at hx, fun i j x y hx => by simp at hx, fun i j x y hx => by simp at hx, h4⟩, by simp, by rw [h3]; simp; omega⟩, by omega, by simp; omega⟩, G5.out.trans h5 (fun b hb _ => hb)⟩
    have FS : Hid (F.length + 1 ≤ 2 → ∀ r, OwnEnd w B p ct tt nk T.length (.returned r) wc) := fun h2 r => ⟨⟨r, rfl⟩, ⟨ct + 1, ⟨_, _, _, _, _, _, _, _, s5, l5, by simp; omega, by omega⟩, by omega, by omega⟩, g5⟩
    clear s5 l5 g5
    obtain ⟨nf, hnf⟩ : ∃ nf, nf = F.length := ⟨_, rfl⟩
    rw [← hnf] at e3 hF CWr FS
    have Hnf := hidOf hnf
    clear hnf
    by_cases h2 : nf = 2
    · subst h2
      go_wp2_with (go_at_call 31; refine (CWr.out (by omega)).mono ?_; rintro e w6 hw6; have W6 := hidOf hw6; obtain ⟨⟨r6, rfl⟩, _⟩ := hw6)
      go_end0
      exact FW.out _ _ W6.out _
    · by_cases h1 : nf = 1
      · subst h1
        go_wp2
        go_end0
        exact FS.out (by omega) _
      · obtain rfl : nf = 0 := by omega
        by_cases h4 : (ct + 1) % 4 = 0
        · have k4 : ((ct + 1) % 4 == 0) = true := by simp [h4]
          go_wp2_with (go_at_call 31; refine (CWr.out (by omega)).mono ?_; rintro e w6 hw6; have W6 := hidOf hw6; obtain ⟨⟨r6, rfl⟩, _⟩ := hw6)
          go_end0
          exact FW.out _ _ W6.out _
        · have k4 : ((ct + 1) % 4 == 0) = false := by simp [h4]
          go_wp2
          go_end0
          exact FS.out (by omega) _
end Go.Proofs.YtfhmhdhaibmcfaaDoor
