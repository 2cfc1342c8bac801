import Derived.Test.YtoobdcjkhphlcaaRse
import Derived.Deep.RegionLaw
namespace Go.Proofs.Ytoobdcjkhphlcaa
open Go.RowKit
set_option linter.unusedVariables false
set_option linter.unusedSimpArgs false
/-- the lists that lie untouched: those before i are marked -/
def L1 (w : World) (B : Nat) (ct : Int) (F : List Value) (i : Nat) : Prop := ∀ (j : Nat) x, F[j]? = some x → ∃ n, FLk w B x (1000003 * (ct + j)) n (if j < i then n else 0)
theorem L1.out {w w' : World} {B : Nat} {ct : Int} {F : List Value} {i : Nat} (h : L1 w B ct F i) (o : Out w w') : L1 w' B ct F i := fun j x hx => by
  obtain ⟨n, hn⟩ := h j x hx
  exact ⟨n, hn.out o⟩
def Dst (F : List Value) : Prop := ∀ (i j : Nat) x y, F[i]? = some x → F[j]? = some y → ¬ i = j → ∀ b, x.ownBlock = some b → ¬ y.ownBlock = some b
def Ak (F K : List Value) : Prop := ∀ (i j : Nat) x y, F[i]? = some x → K[j]? = some y → ∀ b, x.ownBlock = some b → ¬ y.ownBlock = some b
theorem Kp.chg {S : Nat → Prop} {w w' : World} {K : List Value} {M : List Int} (h : Kp w K M) (c : Chg S w w') (hs : ∀ (j : Nat) y b, K[j]? = some y → y.ownBlock = some b → ¬ S b) : Kp w' K M := fun i x hx => by
  obtain ⟨m, n, h1, h2, h3⟩ := h i x hx
  exact ⟨m, n, h1, h2.chg c (fun b hb => hs i x b hx hb), h3⟩
theorem own_slices (x : Value) (h : ∃ a n c, x = .slice a n c) : x.oneCell' = true := by obtain ⟨a, n, c, rfl⟩ := h; rfl
theorem infoSl : (Try.prog.info? 22).map (fun i => (i.zero, i.size, i.bytes)) = some (some (.slice none 0 0), 1, 24) := by kernel_rfl
theorem infoI : (Try.prog.info? 3).map (fun i => (i.zero, i.size, i.bytes)) = some (some (.int .i64 0), 1, 8) := by kernel_rfl
/-- lists of marks stay where no block of tokens is written -/
theorem ML.tok {S : Nat → Prop} {w w' : World} {v : Value} {m : Int} {n : Nat} (h : ML w v m n) (c : Chg S w w') (hS : ∀ b, S b → ¬ ∃ cs, BlT w b cs) : ML w' v m n := by
  rcases h with h | ⟨g, cp, cs, hv, hb, h⟩
  · exact .inl h
  · exact .inr ⟨g, cp, cs, hv, hb.chg c (fun hs => hS g hs ⟨cs, hb⟩), h⟩
theorem Kp.tok {S : Nat → Prop} {w w' : World} {K : List Value} {M : List Int} (h : Kp w K M) (c : Chg S w w') (hS : ∀ b, S b → ¬ ∃ cs, BlT w b cs) : Kp w' K M := fun i x hx => by
  obtain ⟨m, n, h1, h2, h3⟩ := h i x hx
  exact ⟨m, n, h1, h2.tok c hS, h3⟩
/-- the shelf's own blocks hold no tokens -/
def SO (p : Nat) (ka ma : Value) (b : Nat) : Prop := b = p ∨ ka.ownBlock = some b ∨ ma.ownBlock = some b
theorem Shf.so {w : World} {B p : Nat} {ct tt : Int} {fa wa ka ma : Value} {F W K : List Value} {M : List Int} (h : Shf w B p ct tt fa wa ka ma F W K M) : ∀ b, SO p ka ma b → ¬ ∃ cs, BlT w b cs := fun b hb ⟨cs, hc⟩ => by
  rcases hb with rfl | hb | hb
  · have h3 : w.heap[b]? = _ := hc
    rw [h.st] at h3; simp at h3
  · exact own_kind h.ka_ hc (by decide) hb
  · exact own_kind h.ma_ hc (by decide) hb
/-- the lists from i on, marked, apart from what is kept -/
def L3 (w : World) (B : Nat) (ct : Int) (F K : List Value) (i : Nat) : Prop := ∀ (j : Nat) x, F[j]? = some x → i ≤ j → (∃ n, n ≤ 33554433 ∧ ML w x (1000003 * (ct + j)) n) ∧ (∀ b, x.ownBlock = some b → B ≤ b) ∧ ∀ (l : Nat) y, K[l]? = some y → ∀ b, x.ownBlock = some b → ¬ y.ownBlock = some b
theorem after14 {w7 w8 : World} {B p : Nat} {ct tt : Int} {fa wa ka ma : Value} {F W K : List Value} {M : List Int} (h : Shf w7 B p ct tt fa wa ka ma F W K M) (O : Obj) (V : List Value) (g cap : Nat) (hown : w8.ownsRow B 22 1 (.slice (some ⟨g, 0, none⟩) (K.length + V.length) cap) (K.length + V.length) (K ++ V)) (hgrow : (w7.alloc O).grownBy w8 ka.ownBlock) (hg : ka.ownBlock = some g ∨ g = (w7.alloc O).heap.size) :
    Shf (w8.setCell ⟨p, 5, none⟩ (.slice (some ⟨g, 0, none⟩) (K.length + V.length) cap)) B p ct tt fa wa (.slice (some ⟨g, 0, none⟩) (K.length + V.length) cap) ma F W (K ++ V) M ∧ Chg (SO p ka ma) w7 (w8.setCell ⟨p, 5, none⟩ (.slice (some ⟨g, 0, none⟩) (K.length + V.length) cap)) := by
  have hA := h.out ((Out.refl w7).alloc O)
  have c8 : Chg (fun b => ka.ownBlock = some b) (w7.alloc O) w8 := Chg.of_grown hgrow (fun k h => h)
  have st8 : w8.heap[p]? = _ := (c8.block p hA.lt (fun e => hA.notp.2.2.1 e)).trans hA.st
  have f8 := owns_chg hA.fa_ (fun k hk e => hA.fk k hk e) c8
  have w8' := owns_chg hA.wa_ (fun k hk e => hA.wk k hk e) c8
  have m8 := owns_chg hA.ma_ (fun k hk e => own_apart (by decide) hA.ma_ hA.ka_ k hk e) c8
  refine ⟨Shf.store st8 h.bp 5 _ rfl f8 w8' (by rw [List.length_append]; exact hown) m8 h.fw (fun b hb e => ?_) (fun b hb e => ?_), ?_⟩
  · simp [Value.ownBlock] at e
    subst e
    rcases hg with hg | hg
    · exact h.fk g hb hg
    · have := (h.fa_.lt g hb).2; rw [size_alloc] at hg; omega
  · simp [Value.ownBlock] at e
    subst e
    rcases hg with hg | hg
    · exact h.wk g hb hg
    · have := (h.wa_.lt g hb).2; rw [size_alloc] at hg; omega
  · refine ((Chg.of_out (S := SO p ka ma) ((Out.refl w7).alloc O)).trans c8 (fun x hx _ => .inr (.inl hx))).setCell (p := ⟨p, 5, none⟩) (.inl rfl) _
theorem after15 {w7 w8 : World} {B p : Nat} {ct tt : Int} {fa wa ka ma : Value} {F W K : List Value} {M N : List Int} (h : Shf w7 B p ct tt fa wa ka ma F W K M) (O : Obj) (v : Value) (hown : w8.ownsRow B 3 1 v (M.length + N.length) (M.map (Value.int .i64) ++ N.map (Value.int .i64))) (hgrow : (w7.alloc O).grownBy w8 ma.ownBlock) :
    Shf (w8.setCell ⟨p, 6, none⟩ v) B p ct tt fa wa ka v F W K (M ++ N) ∧ Chg (SO p ka ma) w7 (w8.setCell ⟨p, 6, none⟩ v) := by
  have hA := h.out ((Out.refl w7).alloc O)
  have c8 : Chg (fun b => ma.ownBlock = some b) (w7.alloc O) w8 := Chg.of_grown hgrow (fun k h => h)
  have st8 : w8.heap[p]? = _ := (c8.block p hA.lt (fun e => hA.notp.2.2.2 e)).trans hA.st
  have f8 := owns_chg hA.fa_ (fun k hk e => own_apart (by decide) hA.fa_ hA.ma_ k hk e) c8
  have w8' := owns_chg hA.wa_ (fun k hk e => own_apart (by decide) hA.wa_ hA.ma_ k hk e) c8
  have k8 := owns_chg hA.ka_ (fun k hk e => own_apart (by decide) hA.ka_ hA.ma_ k hk e) c8
  refine ⟨Shf.store st8 h.bp 6 _ rfl f8 w8' k8 (by rw [List.length_append, List.map_append]; exact hown) h.fw h.fk h.wk, ?_⟩
  exact ((Chg.of_out (S := SO p ka ma) ((Out.refl w7).alloc O)).trans c8 (fun x hx _ => .inr (.inr hx))).setCell (p := ⟨p, 6, none⟩) (.inl rfl) _
/-- behind the lists' growing -/
def R14 (wr : World) (B p : Nat) (ct tt : Int) (fa wa ka ma : Value) (F W K : List Value) (M : List Int) (m : Int) (ob : Option Nat) (n K3 : Nat) (x : Value) (wx : World) : Prop :=
  ∃ w7 v5 v6 v7 ak ck, Mild m ob wr w7 ∧ ML w7 v5 m (n + 1) ∧ ML w7 v6 m (n + 2) ∧ ML w7 v7 m (n + K3) ∧ (∀ b, v5.ownBlock = some b ∨ v6.ownBlock = some b ∨ v7.ownBlock = some b → ob = some b ∨ wr.heap.size ≤ b) ∧ Shf wx B p ct tt fa wa (.slice ak (K.length + 4) ck) ma F W (K ++ [x, v5, v6, v7]) M ∧ Chg (SO p ka ma) w7 wx
/-- what is kept, with a list's four more -/
theorem fin15 {wr w7 wc wz : World} {B p i n K3 : Nat} {ct tt m : Int} {fa wa ka ka7 ma : Value} {F W K : List Value} {M : List Int} {ob : Option Nat} {x v5 v6 v7 : Value} (hS7 : Shf w7 B p ct tt fa wa ka ma F W K M) (hSc : Shf wc B p ct tt fa wa ka7 ma F W (K ++ [x, v5, v6, v7]) M)
    (hx : F[i]? = some x) (hob : ob = x.ownBlock) (hm : m = 1000003 * (ct + i)) (hm0 : 0 ≤ m) (hm1 : m ≤ 10000000000) (hn : n ≤ 33554433) (hK3 : K3 ≤ 500000000) (hMl : M.length = K.length) (hK : Kp wr K M) (hL : L3 wr B ct F K i) (hD : Dst F) (hml : ML wr x m n)
    (hM7 : Mild m ob wr w7) (h5 : ML w7 v5 m (n + 1)) (h6 : ML w7 v6 m (n + 2)) (h7 : ML w7 v7 m (n + K3)) (hb : ∀ b, v5.ownBlock = some b ∨ v6.ownBlock = some b ∨ v7.ownBlock = some b → ob = some b ∨ wr.heap.size ≤ b)
    (c7 : Chg (SO p ka ma) w7 wc) (cz : Chg (SO p ka7 ma) wc wz) : Kp wz (K ++ [x, v5, v6, v7]) (M ++ [m, m, m, m]) ∧ L3 wz B ct F (K ++ [x, v5, v6, v7]) (i + 1) := by
  have go : ∀ {v : Value} {q : Int} {l : Nat}, ML w7 v q l → ML wz v q l := fun h => (h.tok c7 hS7.so).tok cz hSc.so
  have hxK := (hL i x hx (Nat.le_refl _)).2.2
  have K7 : Kp w7 K M := hK.chg hM7.chg (fun j y b hy hyb e => hxK j y hy b (by rw [← hob]; exact e) hyb)
  have hx7 := hml.mild hM7
  refine ⟨fun l y hy => ?_, fun j y hy hij => ?_⟩
  · by_cases hl : l < K.length
    · rw [List.getElem?_append_left hl] at hy
      obtain ⟨q, nn, h1, h2, h3⟩ := K7 l y hy
      exact ⟨q, nn, by rw [List.getElem?_append_left (by omega)]; exact h1, go h2, h3⟩
    · rw [List.getElem?_append_right (by omega)] at hy
      have hM : ∀ k, k < 4 → (M ++ [m, m, m, m])[K.length + k]? = some m := fun k hk => by
        rw [List.getElem?_append_right (by omega), hMl, show K.length + k - K.length = k by omega]
        have : k = 0 ∨ k = 1 ∨ k = 2 ∨ k = 3 := by omega
        rcases this with rfl | rfl | rfl | rfl <;> rfl
      obtain ⟨k, hk⟩ : ∃ k, l = K.length + k := ⟨l - K.length, by omega⟩
      rw [hk, show K.length + k - K.length = k by omega] at hy
      have hk4 : k < 4 := by have := (List.getElem?_eq_some_iff.1 hy).1; simpa using this
      rw [hk]
      have : k = 0 ∨ k = 1 ∨ k = 2 ∨ k = 3 := by omega
      rcases this with rfl | rfl | rfl | rfl
      · simp at hy; subst hy; exact ⟨m, n, hM 0 hk4, go hx7, by omega, hm0, by omega⟩
      · simp at hy; subst hy; exact ⟨m, n + 1, hM 1 hk4, go h5, by omega, hm0, by omega⟩
      · simp at hy; subst hy; exact ⟨m, n + 2, hM 2 hk4, go h6, by omega, hm0, by omega⟩
      · simp at hy; subst hy; exact ⟨m, n + K3, hM 3 hk4, go h7, by omega, hm0, by omega⟩
  · obtain ⟨⟨n', hn', hy1⟩, hyB, hyK⟩ := hL j y hy (by omega)
    have hyx : ∀ b, y.ownBlock = some b → ¬ ob = some b := fun b hb' e => hD j i y x hy hx (by omega) b hb' (by rw [← hob]; exact e)
    have hylt := hy1.lt
    refine ⟨⟨n', hn', go (hy1.chg hM7.chg (fun b hb' => hyx b hb'))⟩, hyB, fun l z hz b hyb hzb => ?_⟩
    by_cases hl : l < K.length
    · rw [List.getElem?_append_left hl] at hz
      exact hyK l z hz b hyb hzb
    · rw [List.getElem?_append_right (by omega)] at hz
      have hk4 : l - K.length < 4 := by have := (List.getElem?_eq_some_iff.1 hz).1; simpa using this
      have hnew : ∀ u : Value, (v5 = u ∨ v6 = u ∨ v7 = u) → u.ownBlock = some b → False := fun u hu hub => by
        have : ob = some b ∨ wr.heap.size ≤ b := hb b (by rcases hu with rfl | rfl | rfl; exact .inl hub; exact .inr (.inl hub); exact .inr (.inr hub))
        rcases this with h | h
        · exact hyx b hyb h
        · have := hylt b hyb; omega
      have : l - K.length = 0 ∨ l - K.length = 1 ∨ l - K.length = 2 ∨ l - K.length = 3 := by omega
      rcases this with e | e | e | e
      · rw [e] at hz; simp at hz; subst hz; exact hyx b hyb (by rw [hob]; exact hzb)
      · rw [e] at hz; simp at hz; exact hnew z (.inl hz) hzb
      · rw [e] at hz; simp at hz; exact hnew z (.inr (.inl hz)) hzb
      · rw [e] at hz; simp at hz; exact hnew z (.inr (.inr hz)) hzb
/-- the blocks that the shelf may turn: told by their kinds, the marks' row by its block -/
def SQ (w : World) (B : Nat) (ma : Value) (b : Nat) : Prop := B ≤ b ∧ (ma.ownBlock = some b ∨ ∃ cs t fr, w.heap[b]? = some (.cells cs t fr) ∧ (t = 41 ∨ t = 22 ∨ t = 27))
theorem SQ.step {S : Nat → Prop} {w w1 w2 : World} {B : Nat} {ma ma1 : Value} (h : Chg (SQ w B ma) w w1) (c : Chg S w1 w2) (hS : ∀ b, S b → b < w1.heap.size → SQ w1 B ma1 b) (hm : ∀ b, ma1.ownBlock = some b → ma.ownBlock = some b ∨ w.heap.size ≤ b) : Chg (SQ w B ma) w w2 :=
  h.trans c (fun x hx hlt => by
    by_cases hq : SQ w B ma x
    · exact hq
    · have he := h.block x hlt hq
      obtain ⟨hB, hk⟩ := hS x hx (Nat.lt_of_lt_of_le hlt h.size)
      refine ⟨hB, ?_⟩
      rcases hk with hk | ⟨cs, t, fr, hk, ht⟩
      · rcases hm x hk with h1 | h1
        · exact .inl h1
        · omega
      · rw [he] at hk
        exact .inr ⟨cs, t, fr, hk, ht⟩)
theorem own_cells {B s n : Nat} {w : World} {e : TypeId} {v : Value} {xs : List Value} {b : Nat} (h : w.ownsRow B e s v n xs) (hb : v.ownBlock = some b) : B ≤ b ∧ ∃ cs fr, w.heap[b]? = some (.cells cs e fr) := by
  rcases h.2 with ⟨hx, _⟩ | ⟨g, cap, cur, hx, hB, hg, _⟩
  · rw [hx] at hb; cases hb
  · rw [hx] at hb
    simp [Value.ownBlock] at hb
    subst hb
    exact ⟨hB, cur, _, hg⟩
theorem Shf.sq {w : World} {B p : Nat} {ct tt : Int} {fa wa ka ma : Value} {F W K : List Value} {M : List Int} (h : Shf w B p ct tt fa wa ka ma F W K M) (b : Nat) (hb : b = p ∨ fa.ownBlock = some b ∨ wa.ownBlock = some b ∨ ka.ownBlock = some b ∨ ma.ownBlock = some b) : SQ w B ma b := by
  have row : ∀ {v : Value} {n : Nat} {xs : List Value}, w.ownsRow B 22 1 v n xs → v.ownBlock = some b → SQ w B ma b := fun hr hv => by
    obtain ⟨h1, cs, fr, h2⟩ := own_cells hr hv
    exact ⟨h1, .inr ⟨cs, _, fr, h2, .inr (.inl rfl)⟩⟩
  rcases hb with rfl | hb | hb | hb | hb
  · exact ⟨h.bp, .inr ⟨_, _, _, h.st, .inl rfl⟩⟩
  · exact row h.fa_ hb
  · exact row h.wa_ hb
  · exact row h.ka_ hb
  · exact ⟨(own_cells h.ma_ hb).1, .inl hb⟩
theorem SQ.tok {w : World} {B b : Nat} {ma : Value} {cs : Array Value} (hB : B ≤ b) (h : BlT w b cs) : SQ w B ma b := ⟨hB, .inr ⟨cs, _, _, h, .inr (.inr rfl)⟩⟩
/-- behind write -/
def WrEnd (w : World) (B p : Nat) (ct tt : Int) (ma : Value) (F K : List Value) (e : Ending) (w' : World) : Prop :=
  (∃ r, e = .returned r) ∧ ∃ ka' ma' K' M', Shf w' B p (ct + F.length) tt (.slice none 0 0) (.slice none 0 0) ka' ma' [] [] K' M' ∧ Kp w' K' M' ∧ K'.length = K.length + 4 * F.length ∧ M'.length = K'.length ∧ Chg (SQ w B ma) w w' ∧ ∀ b, ma'.ownBlock = some b → ma.ownBlock = some b ∨ w.heap.size ≤ b
/-- the contract of write -/
def WriteC : Prop := ∀ (w : World) (B p : Nat) (ct tt : Int) (fa wa ka ma : Value) (F W K : List Value) (M : List Int) (h : Shf w B p ct tt fa wa ka ma F W K M) (hl : W.length = F.length) (hp : Prs w F W) (hF : F.length ≤ 3) (hk : Kp w K M) (hK : K.length ≤ 100) (hKM : M.length = K.length)
    (h1 : L1 w B ct F 0) (hd : Dst F) (ha : Ak F K) (hct0 : 0 ≤ ct) (hct1 : ct ≤ 1000) (htt0 : 0 ≤ tt) (htt1 : tt ≤ 400000000),
    Calls Try.prog 35 #[.pointer (some ⟨p, 0, none⟩)] w fun e w' => WrEnd w B p ct tt ma F K e w'
end Go.Proofs.Ytoobdcjkhphlcaa
