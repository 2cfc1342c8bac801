import Derived.Test.YtekjfbmebekmeaaGreatGa03
import Derived.Shelf.SlSortCmp.QuietGrown
namespace Go.Proofs.YtekjfbmebekmeaaGreat
open Go.RowKit
set_option linter.unusedVariables false
set_option linter.unusedSimpArgs false
set_option maxHeartbeats 4000000 in
set_option maxRecDepth 100000 in
theorem search_any (g : Nat) (cb : Array Value) (n : Nat) (p : Nat → Bool) (w : World) (eg : ∀ args w, (callFunc g args).run Tryz.prog w = .ok (.enter g args) w) (hsz : n < 4611686018427387904)
    (hf : ∀ wr i, Out w wr → i < n → Calls Tryz.prog g (#[.int .i64 (i : Nat)] ++ cb) wr fun e w' => e = .returned (.bool (p i)) ∧ Out wr w')
    (hmono : ∀ a b, a ≤ b → b < n → p a = true → p b = true) :
    Calls Tryz.prog 102 #[.int .i64 n, .func (.func g) #[] cb] w fun e w' => ∃ j : Nat, e = .returned (.int .i64 (j : Nat)) ∧ j ≤ n ∧ (∀ t, t < j → p t = false) ∧ (∀ t, j ≤ t → t < n → p t = true) ∧ Out w w' := by
  have HF := hidOf hf
  have M := hidOf hmono
  clear hf hmono
  go_enter Tryz.func102, Tryz.ntmps102
  go_wp2
  go_loopw [5, 6] (fun a b wr => ∃ lo hi : Nat, a = .int .i64 lo ∧ b = .int .i64 hi ∧ lo ≤ hi ∧ hi ≤ n ∧ Hid (Out w wr) ∧ Hid ((∀ t, t < lo → p t = false) ∧ (∀ t, hi ≤ t → t < n → p t = true))) (fun a b _ => (intOf b - intOf a).toNat)
  case atStart => exact ⟨0, n, rfl, rfl, Nat.zero_le _, Nat.le_refl _, hidOf (Out.refl w), hidOf ⟨fun t ht => absurd ht (Nat.not_lt_zero _), fun t h1 h2 => by omega⟩⟩
  case round =>
    obtain ⟨lo, hi, rfl, rfl, hlh, hin, HO, I⟩ := hrel
    by_cases hlt : lo < hi
    · have hc := HF.out wr ((lo + hi) / 2) HO.out (by omega)
      rw [show (((lo + hi) / 2 : Nat) : Int) = ((lo : Int) + (hi : Int)) / 2 by omega] at hc
      have HC := hidOf hc
      clear hc
      cases hp : p ((lo + hi) / 2)
      · have HP : Hid (p ((lo + hi) / 2) = false) := hp
        clear hp
        have hc := HC.out
        rw [HP.out] at hc
        go_wp2_with (go_at_fn g; refine hc.mono ?_; rintro e w1 ⟨rfl, ho1⟩; have HO1 := hidOf ho1; clear ho1)
        go_roundw
        case rel =>
          refine ⟨(lo + hi) / 2 + 1, hi, by rw [show ((lo : Int) + (hi : Int)) / 2 + 1 = (((lo + hi) / 2 + 1 : Nat) : Int) by omega], rfl, by omega, hin, hidOf (HO.out.trans HO1.out), hidOf ⟨fun t ht => ?_, I.out.2⟩⟩
          cases h : p t with
          | false => rfl
          | true => have := M.out t ((lo + hi) / 2) (by omega) (by omega) h; rw [HP.out] at this; cases this
        case measure => simp [intOf]; omega
      · have HP : Hid (p ((lo + hi) / 2) = true) := hp
        clear hp
        have hc := HC.out
        rw [HP.out] at hc
        go_wp2_with (go_at_fn g; refine hc.mono ?_; rintro e w1 ⟨rfl, ho1⟩; have HO1 := hidOf ho1; clear ho1)
        go_roundw
        case rel => exact ⟨lo, (lo + hi) / 2, rfl, by rw [show ((lo : Int) + (hi : Int)) / 2 = (((lo + hi) / 2 : Nat) : Int) by omega], by omega, by omega, hidOf (HO.out.trans HO1.out), hidOf ⟨I.out.1, fun t ht htn => M.out ((lo + hi) / 2) t ht htn HP.out⟩⟩
        case measure => simp [intOf]; omega
    · obtain rfl : hi = lo := by omega
      go_wp2
      go_ret
      exact ⟨hi, rfl, hin, I.out.1, I.out.2, HO.out⟩
def fstL (L : List Rg) (t : Nat) : Nat := match L[t]? with | none => 0 | some y => y.f
def fstX (X : List Rw) (t : Nat) : Nat := match X[t]? with | none => 0 | some x => fstL x.L 0
theorem fstL_at {L : List Rg} {t : Nat} {y : Rg} (h : L[t]? = some y) : fstL L t = y.f := by simp [fstL, h]
theorem fstX_at {X : List Rw} {t : Nat} {x : Rw} {y : Rg} (h : X[t]? = some x) (hy : x.L[0]? = some y) : fstX X t = y.f := by simp [fstX, h, fstL, hy]
theorem srt_flat {A B : List Rw} {x : Rw} (h : Srt (flat (A ++ x :: B))) : Srt (flat A) ∧ Srt x.L ∧ Srt (flat B) ∧ (∀ y ∈ flat A, ∀ z ∈ x.L, y.f < z.f) ∧ (∀ y ∈ x.L, ∀ z ∈ flat B, y.f < z.f) := by
  rw [flat_app, flat_cons] at h
  obtain ⟨h1, h2, h3⟩ := List.pairwise_append.1 h
  obtain ⟨h4, h5, h6⟩ := List.pairwise_append.1 h2
  exact ⟨h1, h4, h5, fun y hy z hz => h3 y hy z (List.mem_append_left _ hz), h6⟩
theorem at_split {α : Type} {L : List α} {t : Nat} {x : α} (h : L[t]? = some x) : L = L.take t ++ x :: L.drop (t + 1) := by
  have hk : t < L.length := (List.getElem?_eq_some_iff.1 h).1
  have hd := List.drop_eq_getElem_cons hk
  rw [List.getElem?_eq_getElem hk] at h
  rw [Option.some.inj h] at hd
  rw [← hd, List.take_append_drop]
theorem srt_at {L : List Rg} (hs : Srt L) {a b : Nat} {x y : Rg} (hx : L[a]? = some x) (hy : L[b]? = some y) (hab : a ≤ b) : x.f ≤ y.f := by
  rcases Nat.lt_or_eq_of_le hab with h | h
  · have ha : a < L.length := (List.getElem?_eq_some_iff.1 hx).1
    have hb : b < L.length := (List.getElem?_eq_some_iff.1 hy).1
    have := List.pairwise_iff_getElem.1 hs a b ha hb h
    rw [List.getElem?_eq_getElem ha] at hx
    rw [List.getElem?_eq_getElem hb] at hy
    cases hx; cases hy
    exact Nat.le_of_lt this
  · subst h; rw [hx] at hy; cases hy; exact Nat.le_refl _
theorem flat_mem {X : List Rw} {t : Nat} {x : Rw} (h : X[t]? = some x) {z : Rg} (hz : z ∈ x.L) : z ∈ flat X := List.mem_flatMap.2 ⟨x, List.mem_of_getElem? h, hz⟩
theorem srt_rows {X : List Rw} (hs : Srt (flat X)) {a b : Nat} {x y : Rw} (hx : X[a]? = some x) (hy : X[b]? = some y) (hab : a < b) {u v : Rg} (hu : u ∈ x.L) (hv : v ∈ y.L) : u.f < v.f := by
  have hb := (List.getElem?_eq_some_iff.1 hy).1
  rw [at_split hx] at hs
  refine (srt_flat hs).2.2.2.2 u hu v (flat_mem (t := b - (a + 1)) (x := y) ?_ hv)
  rw [List.getElem?_drop, show a + 1 + (b - (a + 1)) = b by omega]
  exact hy
theorem fstX_mono {X : List Rw} (hs : Srt (flat X)) (hn : ∀ x ∈ X, x.L ≠ []) {a b : Nat} (hab : a ≤ b) (hb : b < X.length) : fstX X a ≤ fstX X b := by
  rcases Nat.lt_or_eq_of_le hab with h | h
  · obtain ⟨x, hx⟩ : ∃ x, X[a]? = some x := ⟨_, List.getElem?_eq_getElem (by omega)⟩
    obtain ⟨y, hy⟩ : ∃ y, X[b]? = some y := ⟨_, List.getElem?_eq_getElem hb⟩
    obtain ⟨u, hu⟩ : ∃ u, x.L[0]? = some u := ⟨_, List.getElem?_eq_getElem (List.length_pos_iff.2 (hn x (List.mem_of_getElem? hx)))⟩
    obtain ⟨v, hv⟩ : ∃ v, y.L[0]? = some v := ⟨_, List.getElem?_eq_getElem (List.length_pos_iff.2 (hn y (List.mem_of_getElem? hy)))⟩
    rw [fstX_at hx hu, fstX_at hy hv]
    exact Nat.le_of_lt (srt_rows hs hx hy h (List.mem_of_getElem? hu) (List.mem_of_getElem? hv))
  · subst h; exact Nat.le_refl _
theorem fstL_mono {L : List Rg} (hs : Srt L) {a b : Nat} (hab : a ≤ b) (hb : b < L.length) : fstL L a ≤ fstL L b := by
  obtain ⟨x, hx⟩ : ∃ x, L[a]? = some x := ⟨_, List.getElem?_eq_getElem (by omega)⟩
  obtain ⟨y, hy⟩ : ∃ y, L[b]? = some y := ⟨_, List.getElem?_eq_getElem hb⟩
  rw [fstL_at hx, fstL_at hy]
  exact srt_at hs hx hy hab
theorem row_ge {L : List Rg} (hs : Srt L) {z : Rg} (hz : z ∈ L) : fstL L 0 ≤ z.f := by
  obtain ⟨t, ht, rfl⟩ := List.getElem_of_mem hz
  have h := fstL_mono hs (Nat.zero_le t) ht
  rw [fstL_at (List.getElem?_eq_getElem ht)] at h
  exact h
theorem plIs_no {X : List Rw} (hs : Srt (flat X)) {at_ : Nat} (h : ∀ t, t < X.length → decide (at_ < fstX X t) = true) : PlIs X at_ (-1) (-1) := by
  refine .no (fun z hz => ?_)
  obtain ⟨x, hx, hzx⟩ := List.mem_flatMap.1 hz
  obtain ⟨t, ht, rfl⟩ := List.getElem_of_mem hx
  have e : X[t]? = some X[t] := List.getElem?_eq_getElem ht
  have h1 := h t ht
  have hs2 : Srt (X[t]).L := by rw [at_split e] at hs; exact (srt_flat hs).2.1
  have h2 := row_ge hs2 hzx
  simp only [fstX, e, decide_eq_true_eq] at h1
  omega
theorem plIs_yes {X : List Rw} (hs : Srt (flat X)) {at_ r k : Nat} {x : Rw} {y : Rg} (hx : X[r]? = some x) (hy : x.L[k]? = some y) (hle : y.f ≤ at_) (h1 : ∀ t, k + 1 ≤ t → t < x.L.length → decide (at_ < fstL x.L t) = true) (h2 : ∀ t, r + 1 ≤ t → t < X.length → decide (at_ < fstX X t) = true) : PlIs X at_ r k := by
  have hr := (List.getElem?_eq_some_iff.1 hx).1
  have hk := (List.getElem?_eq_some_iff.1 hy).1
  have hp := PlIs.yes (X := X) (at_ := at_) (X.take r) (X.drop (r + 1)) x (x.L.take k) (x.L.drop (k + 1)) y (at_split hx) (at_split hy) hle (fun z hz => ?_) (fun z hz => ?_)
  · rwa [List.length_take, List.length_take, Nat.min_eq_left (by omega), Nat.min_eq_left (by omega)] at hp
  · obtain ⟨t, ht, rfl⟩ := List.getElem_of_mem hz
    rw [List.length_drop] at ht
    have := h1 (k + 1 + t) (by omega) (by omega)
    rw [fstL_at (List.getElem?_eq_getElem (by omega))] at this
    rw [List.getElem_drop]
    simpa using this
  · obtain ⟨x', hx', hzx⟩ := List.mem_flatMap.1 hz
    obtain ⟨t, ht, rfl⟩ := List.getElem_of_mem hx'
    rw [List.length_drop] at ht
    rw [List.getElem_drop] at hzx
    have e : X[r + 1 + t]? = some X[r + 1 + t] := List.getElem?_eq_getElem (by omega)
    have h3 := h2 (r + 1 + t) (by omega) (by omega)
    have hs2 : Srt (X[r + 1 + t]).L := by rw [at_split e] at hs; exact (srt_flat hs).2.1
    have h4 := row_ge hs2 hzx
    simp only [fstX, e, decide_eq_true_eq] at h3
    omega
def daV (x : Rg) : Value := .slice (x.a.map fun b => ⟨b, 0, none⟩) x.d.length x.c
def csG (x : Rg) : List Value := [.int .u64 (x.f : Nat), daV x]
def rowG (L : List Rg) : List Value := L.flatMap csG
theorem rowG_len (L : List Rg) : (rowG L).length = L.length * 2 := by
  induction L with
  | nil => rfl
  | cons x L ih => simp only [rowG, List.flatMap_cons, List.length_append, List.length_cons] at ih ⊢; simp only [csG, List.length_cons, List.length_nil, ih]; omega
theorem rowG_app (A B : List Rg) : rowG (A ++ B) = rowG A ++ rowG B := by simp [rowG]
theorem rowG_cons (x : Rg) (B : List Rg) : rowG (x :: B) = csG x ++ rowG B := by simp [rowG]
theorem rowG_one (L : List Rg) : ∀ u ∈ rowG L, u.oneCell' = true := by
  intro u hu
  obtain ⟨x, hx, hu⟩ := List.mem_flatMap.1 hu
  simp only [csG, List.mem_cons, List.not_mem_nil, or_false] at hu
  rcases hu with rfl | rfl <;> rfl
theorem rowG_get {L : List Rg} {i : Nat} {x : Rg} (h : L[i]? = some x) : (rowG L)[i * 2]? = some (.int .u64 (x.f : Nat)) ∧ (rowG L)[i * 2 + 1]? = some (daV x) := by
  have hi : i < L.length := (List.getElem?_eq_some_iff.1 h).1
  have hl : (rowG (L.take i)).length = i * 2 := by rw [rowG_len, List.length_take, Nat.min_eq_left (by omega)]
  have e : rowG L = rowG (L.take i) ++ (csG x ++ rowG (L.drop (i + 1))) := by
    conv => lhs; rw [at_split h]
    rw [rowG_app, rowG_cons]
  rw [e]
  constructor
  · rw [List.getElem?_append_right (by omega), hl, Nat.sub_self]; rfl
  · rw [List.getElem?_append_right (by omega), hl, show i * 2 + 1 - i * 2 = 1 by omega]; rfl
theorem rowG_take (L : List Rg) (i : Nat) (h : i ≤ L.length) : (rowG L).take (i * 2) = rowG (L.take i) := by
  conv => lhs; rw [← List.take_append_drop i L]
  rw [rowG_app]
  exact List.take_left' (by rw [rowG_len, List.length_take, Nat.min_eq_left h])
theorem rowG_drop (L : List Rg) (i : Nat) (h : i ≤ L.length) : (rowG L).drop (i * 2) = rowG (L.drop i) := by
  conv => lhs; rw [← List.take_append_drop i L]
  rw [rowG_app]
  exact List.drop_left' (by rw [rowG_len, List.length_take, Nat.min_eq_left h])
def rwV (x : Rw) : Value := .slice (some ⟨x.g, 0, none⟩) x.L.length x.c
theorem rwV_one (X : List Rw) : ∀ u ∈ X.map rwV, u.oneCell' = true := by
  intro u hu
  obtain ⟨x, _, rfl⟩ := List.mem_map.1 hu
  rfl
structure Sh (B : Nat) (w : World) (v : Value) (X : List Rw) : Prop where
  own : w.ownsRow B 22 1 v X.length (X.map rwV)
  rows : ∀ x ∈ X, w.ownsRow B 36 2 (rwV x) x.L.length (rowG x.L)
  ne : ∀ x ∈ X, x.L ≠ []
  le : ∀ x ∈ X, x.L.length ≤ 129
  nd : X.Pairwise (fun x y => x.g ≠ y.g)
  vn : ∀ x ∈ X, v.ownBlock ≠ some x.g
def fpS (v : Value) (X : List Rw) (k : Nat) : Prop := v.ownBlock = some k ∨ ∃ x ∈ X, x.g = k
theorem own_chg {S : Nat → Prop} {B s n : Nat} {w w' : World} {e : TypeId} {v : Value} {xs : List Value} (h : w.ownsRow B e s v n xs) (c : Chg S w w') (hs : ∀ b, v.ownBlock = some b → ¬ S b) : w'.ownsRow B e s v n xs := by
  refine ⟨h.1, ?_⟩
  rcases h.2 with hn | ⟨g, cap, cur, rfl, hb, hg, rest⟩
  · exact .inl hn
  · exact .inr ⟨g, cap, cur, rfl, hb, (c.block g (Array.getElem?_eq_some_iff.1 hg).1 (hs g rfl)).trans hg, rest⟩
theorem own_out {B s n : Nat} {w w' : World} {e : TypeId} {v : Value} {xs : List Value} (h : w.ownsRow B e s v n xs) (o : Out w w') : w'.ownsRow B e s v n xs := own_chg h (Chg.of_out (S := fun _ => False) o) (fun _ _ h => h)
theorem Sh.keep {S : Nat → Prop} {B : Nat} {w w' : World} {v : Value} {X : List Rw} (h : Sh B w v X) (c : Chg S w w') (hs : ∀ k, fpS v X k → ¬ S k) : Sh B w' v X :=
  ⟨own_chg h.own c (fun b hb => hs b (.inl hb)), fun x hx => own_chg (h.rows x hx) c (fun b hb => hs b (.inr ⟨x, hx, by simp [rwV, Value.ownBlock] at hb; exact hb⟩)), h.ne, h.le, h.nd, h.vn⟩
theorem Sh.out {B : Nat} {w w' : World} {v : Value} {X : List Rw} (h : Sh B w v X) (o : Out w w') : Sh B w' v X := h.keep (Chg.of_out (S := fun _ => False) o) (fun _ _ h => h)
theorem Sh.lt {B : Nat} {w : World} {v : Value} {X : List Rw} (h : Sh B w v X) {k : Nat} (hk : fpS v X k) : B ≤ k ∧ k < w.heap.size := by
  rcases hk with hk | ⟨x, hx, rfl⟩
  · exact h.own.lt k hk
  · exact (h.rows x hx).lt x.g rfl
theorem own_cellK {B s n : Nat} {w : World} {e : TypeId} {g c : Nat} {xs : List Value} (h : w.ownsRow B e s (.slice (some ⟨g, 0, none⟩) n c) n xs) {j : Nat} {u : Value} (hj : xs[j]? = some u) : w.cell? ⟨g, j, none⟩ = some u ∧ w.frozen? ⟨g, j, none⟩ = false := by
  obtain ⟨cur, hg, _, _, _, _, ht, _⟩ := owns_blk h
  refine ⟨?_, froz_B hg j⟩
  rw [cell_B hg, List.getElem?_toArray]
  rw [← ht, List.getElem?_take] at hj
  split at hj
  · exact hj
  · cases hj
theorem Sh.at_ {B : Nat} {w : World} {v : Value} {X : List Rw} (h : Sh B w v X) {i : Nat} {x : Rw} (hx : X[i]? = some x) : ∃ gR cR, v = .slice (some ⟨gR, 0, none⟩) X.length cR ∧ w.cell? ⟨gR, i, none⟩ = some (.slice (some ⟨x.g, 0, none⟩) x.L.length x.c) ∧ w.frozen? ⟨gR, i, none⟩ = false ∧ gR ≠ x.g := by
  obtain ⟨gR, cR, rfl, _⟩ := h.own.form (List.length_pos_of_mem (List.mem_of_getElem? hx))
  have := own_cellK h.own (j := i) (u := rwV x) (by rw [List.getElem?_map, hx]; rfl)
  exact ⟨gR, cR, rfl, this.1, this.2, fun e => h.vn x (List.mem_of_getElem? hx) (by rw [e]; rfl)⟩
theorem Sh.reg {B : Nat} {w : World} {v : Value} {X : List Rw} (h : Sh B w v X) {i j : Nat} {x : Rw} {y : Rg} (hx : X[i]? = some x) (hy : x.L[j]? = some y) : w.cell? ⟨x.g, j * 2, none⟩ = some (.int .u64 (y.f : Nat)) ∧ w.cell? ⟨x.g, j * 2 + 1, none⟩ = some (.slice (y.a.map fun b => ⟨b, 0, none⟩) y.d.length y.c) := by
  have h1 := h.rows x (List.mem_of_getElem? hx)
  obtain ⟨g1, g2⟩ := rowG_get hy
  exact ⟨(own_cellK h1 g1).1, (own_cellK h1 g2).1⟩
set_option maxHeartbeats 2000000 in
theorem place1_any (wr : World) (b1 b2 s o gR n cR gi li ci f at_ i : Nat) (hb1 : wr.cell? ⟨b1, 0, none⟩ = some (.pointer (some ⟨s, o, none⟩))) (hb2 : wr.cell? ⟨b2, 0, none⟩ = some (.int .u64 at_)) (hs : wr.cell? ⟨s, o, none⟩ = some (.slice (some ⟨gR, 0, none⟩) n cR)) (hi : i < n) (hr : wr.cell? ⟨gR, i, none⟩ = some (.slice (some ⟨gi, 0, none⟩) li ci)) (hl : 0 < li) (hc : wr.cell? ⟨gi, 0, none⟩ = some (.int .u64 f)) :
    Calls Tryz.prog 103 (#[.int .i64 (i : Nat)] ++ #[.pointer (some ⟨b1, 0, none⟩), .pointer (some ⟨b2, 0, none⟩)]) wr fun e w' => e = .returned (.bool (decide (at_ < f))) ∧ Out wr w' := by
  have hiz : (i : Int) < (n : Int) := by omega
  have hlz : (0 : Int) < (li : Int) := by omega
  go_enter Tryz.func103, Tryz.ntmps103
  go_wp2
  go_quiet (fail)
  go_wp2
  go_ret
  refine ⟨?_, by first | exact (Out.refl wr).drew | exact (Out.refl wr).drewN _⟩
  simp
set_option maxHeartbeats 2000000 in
theorem place2_any (wr : World) (b1 b2 gi li ci f at_ i : Nat) (hb1 : wr.cell? ⟨b1, 0, none⟩ = some (.slice (some ⟨gi, 0, none⟩) li ci)) (hb2 : wr.cell? ⟨b2, 0, none⟩ = some (.int .u64 at_)) (hi : i < li) (hc : wr.cell? ⟨gi, i * 2, none⟩ = some (.int .u64 f)) :
    Calls Tryz.prog 104 (#[.int .i64 (i : Nat)] ++ #[.pointer (some ⟨b1, 0, none⟩), .pointer (some ⟨b2, 0, none⟩)]) wr fun e w' => e = .returned (.bool (decide (at_ < f))) ∧ Out wr w' := by
  have hiz : (i : Int) < (li : Int) := by omega
  go_enter Tryz.func104, Tryz.ntmps104
  go_wp2
  go_quiet (fail)
  go_wp2
  go_ret
  refine ⟨?_, by first | exact (Out.refl wr).drew | exact (Out.refl wr).drewN _⟩
  simp
theorem two_boxes (w : World) (p u : Value) (t1 t2 : TypeId) : ∃ wA, Hid (wA = (w.alloc (.cells #[p] t1)).alloc (.cells #[u] t2)) ∧ wA.cell? ⟨w.heap.size, 0, none⟩ = some p ∧ wA.cell? ⟨w.heap.size + 1, 0, none⟩ = some u ∧ Out w wA ∧ wA.heap.size = w.heap.size + 2 := by
  have h1 : ((w.alloc (.cells #[p] t1)).alloc (.cells #[u] t2)).cell? ⟨w.heap.size, 0, none⟩ = some p := by
    refine cell_later (Out.alloc (Out.refl _) _) ?_
    rw [cell_fresh w _ _ 0 _ rfl]; rfl
  have h2 : ((w.alloc (.cells #[p] t1)).alloc (.cells #[u] t2)).cell? ⟨w.heap.size + 1, 0, none⟩ = some u := by
    rw [cell_fresh _ _ _ 0 _ (size_alloc w _).symm]; rfl
  exact ⟨_, rfl, h1, h2, ((Out.refl w).alloc _).alloc _, by rw [size_alloc, size_alloc]⟩
theorem box_one (w : World) (u : Value) (t : TypeId) : ∃ wB, Hid (wB = w.alloc (.cells #[u] t)) ∧ wB.cell? ⟨w.heap.size, 0, none⟩ = some u ∧ Out w wB ∧ wB.heap.size = w.heap.size + 1 := by
  refine ⟨_, rfl, ?_, (Out.refl w).alloc _, size_alloc _ _⟩
  rw [cell_fresh _ _ _ 0 _ rfl]; rfl
theorem own_slice {w : World} {B s n : Nat} {e : TypeId} {v : Value} {xs : List Value} (h : w.ownsRow B e s v n xs) : ∃ a c, v = .slice a n c ∧ (a = none ∨ ∃ g, a = some ⟨g, 0, none⟩) ∧ (0 < n → ∃ g, a = some ⟨g, 0, none⟩) := by
  rcases h.2 with ⟨rfl, rfl⟩ | ⟨g, cap, cur, rfl, _⟩
  · exact ⟨none, 0, rfl, .inl rfl, fun h => absurd h (Nat.lt_irrefl 0)⟩
  · exact ⟨some ⟨g, 0, none⟩, cap, rfl, .inr ⟨g, rfl⟩, fun _ => ⟨g, rfl⟩⟩
set_option maxHeartbeats 4000000 in
set_option maxRecDepth 100000 in
theorem place_any (w : World) (B s o : Nat) (v : Value) (X : List Rw) (at_ : Nat) (h : Sh B w v X) (hc : w.cell? ⟨s, o, none⟩ = some v) (hs : Srt (flat X)) (hN : X.length < 4611686018427387904) :
    Calls Tryz.prog 80 #[.pointer (some ⟨s, o, none⟩), .int .u64 at_] w fun e w' => ∃ r k : Int, e = .returned (.tuple #[.int .i64 r, .int .i64 k]) ∧ PlIs X at_ r k ∧ Out w w' := by
  obtain ⟨a, c, rfl, _, hpos⟩ := own_slice h.own
  obtain ⟨wA, HA, cA1, cA2, oA, sA⟩ := two_boxes w (.pointer (some ⟨s, o, none⟩)) (.int .u64 at_) 120 28
  obtain ⟨n, hn⟩ : ∃ n, Hid (n = X.length) := ⟨_, rfl⟩
  rw [← hn.out] at h hc hpos hN
  have H := hidOf h
  have OA := hidOf oA
  have HC := hidOf hc
  have HS := hidOf hs
  have HP := hidOf hpos
  have hcs : wA.cell? ⟨s, o, none⟩ = some (.slice a n c) := cell_later oA hc
  have first : ∀ (i : Nat), i < n → ∃ (x : Rw) (y : Rg), X[i]? = some x ∧ x.L[0]? = some y := fun i hi => by
    obtain ⟨x, hx⟩ : ∃ x, X[i]? = some x := ⟨_, List.getElem?_eq_getElem (by rw [← hn.out]; exact hi)⟩
    exact ⟨x, _, hx, List.getElem?_eq_getElem (List.length_pos_iff.2 (h.ne x (List.mem_of_getElem? hx)))⟩
  have FI := hidOf first
  have S1 := hidOf (search_any 103 #[.pointer (some ⟨w.heap.size, 0, none⟩), .pointer (some ⟨w.heap.size + 1, 0, none⟩)] n (fun t => decide (at_ < fstX X t)) wA (enters_of Tryz.func103 (by kernel_rfl) rfl) hN (fun wr i ho hi => by
    obtain ⟨x, y, hx, hy⟩ := FI.out i hi
    obtain ⟨gR, cR, e, hr, _, _⟩ := H.out.at_ hx
    simp only [Value.slice.injEq] at e
    obtain ⟨rfl, _, rfl⟩ := e
    have hrg := H.out.reg hx hy
    have ow := OA.out.trans ho
    have hl : 0 < x.L.length := by have := (List.getElem?_eq_some_iff.1 hy).1; omega
    have := place1_any wr w.heap.size (w.heap.size + 1) s o gR n c x.g x.L.length x.c y.f at_ i (cell_later ho cA1) (cell_later ho cA2) (cell_later ow HC.out) hi (cell_later ow hr) hl (cell_later ow (by simpa using hrg.1))
    rw [fstX_at hx hy]
    exact this) (fun a b hab hb hp => by
    have := fstX_mono HS.out H.out.ne hab (by rw [← hn.out]; exact hb)
    simp only [decide_eq_true_eq] at hp ⊢
    omega))
  clear h hc hs hpos first oA
  go_enter Tryz.func80, Tryz.ntmps80
  go_upto_region 1 with fail
  rw [← HA.out]
  go_upto_region 2 with (go_at_call 102; refine S1.out.mono ?_; rintro e w1 ⟨j, rfl, hj, hj1, hj2, ho1⟩; have J1 := hidOf hj1; have J2 := hidOf hj2; have O1 := hidOf ho1; clear hj1 hj2 ho1)
  by_cases hj0 : j = 0
  · subst hj0
    go_wp2
    refine bodyPost_ret (results_tmp2 rfl _ _ _) rfl ?_
    exact ⟨-1, -1, rfl, plIs_no HS.out (fun t ht => J2.out t (Nat.zero_le _) (by rw [hn.out]; exact ht)), OA.out.trans O1.out⟩
  · obtain ⟨r, rfl⟩ : ∃ r, j = r + 1 := ⟨j - 1, by omega⟩
    obtain ⟨x, y0, hx, hy0⟩ := FI.out r (by omega)
    obtain ⟨gR, cR, e, hr, _, _⟩ := H.out.at_ hx
    simp only [Value.slice.injEq] at e
    obtain ⟨rfl, _, rfl⟩ := e
    have ow := OA.out.trans O1.out
    have hcs1 := cell_later ow HC.out
    have hr1 := cell_later ow hr
    have hb1 := cell_later O1.out cA1
    have hb2 := cell_later O1.out cA2
    have hw1 : ((r + 1 : Nat) : Int) - 1 = (r : Int) := by omega
    have hrn : (r : Int) < (n : Int) := by omega
    have hlx : x.L.length ≤ 129 := H.out.le x (List.mem_of_getElem? hx)
    obtain ⟨l, hl⟩ : ∃ l, Hid (l = x.L.length) := ⟨_, rfl⟩
    obtain ⟨gx, hgx⟩ : ∃ gx, Hid (gx = x.g) := ⟨_, rfl⟩
    obtain ⟨cx, hcx⟩ : ∃ cx, Hid (cx = x.c) := ⟨_, rfl⟩
    rw [← hl.out, ← hgx.out, ← hcx.out] at hr1
    rw [← hl.out] at hlx
    obtain ⟨wB, HB, cB, oB, _⟩ := box_one w1 (.slice (some ⟨gx, 0, none⟩) l cx) 22
    have OB := hidOf oB
    have hb2B := cell_later oB hb2
    have HX := hidOf hx
    have HY0 := hidOf hy0
    have hsx : Srt x.L := by
      have := HS.out
      rw [at_split hx] at this
      exact (srt_flat this).2.1
    have HSX := hidOf hsx
    have HR := hidOf hr
    have S2 := hidOf (search_any 104 #[.pointer (some ⟨w1.heap.size, 0, none⟩), .pointer (some ⟨w.heap.size + 1, 0, none⟩)] l (fun t => decide (at_ < fstL x.L t)) wB (enters_of Tryz.func104 (by kernel_rfl) rfl) (by omega) (fun wr i ho hi => by
      obtain ⟨y, hy⟩ : ∃ y, x.L[i]? = some y := ⟨_, List.getElem?_eq_getElem (by rw [← hl.out]; exact hi)⟩
      have hrg := H.out.reg HX.out hy
      have ow2 := ((OA.out.trans O1.out).trans OB.out).trans ho
      have := place2_any wr w1.heap.size (w.heap.size + 1) gx l cx y.f at_ i (cell_later ho cB) (cell_later ho hb2B) hi (by rw [hgx.out]; exact cell_later ow2 hrg.1)
      rw [fstL_at hy]
      exact this) (fun a b hab hb hp => by
      have := fstL_mono HSX.out hab (by rw [← hl.out]; exact hb)
      simp only [decide_eq_true_eq] at hp ⊢
      omega))
    clear hx hy0 hsx hr oB hj0
    go_upto_region 5 with fail
    rw [← HB.out]
    go_wp2_with (go_at_call 102; refine S2.out.mono ?_; rintro e w2 ⟨j2, rfl, hj2, hk1, hk2, ho2⟩; have K1 := hidOf hk1; have K2 := hidOf hk2; have O2 := hidOf ho2; clear hk1 hk2 ho2)
    refine bodyPost_ret (results_tmp2 rfl _ _ _) rfl ?_
    have hj20 : ¬ j2 = 0 := fun e => by
      subst e
      have h1 := J1.out r (by omega)
      have h2 := K2.out 0 (Nat.le_refl _) (by have := (List.getElem?_eq_some_iff.1 HY0.out).1; rw [hl.out]; omega)
      rw [fstX_at HX.out HY0.out] at h1
      rw [fstL_at HY0.out] at h2
      rw [h1] at h2; cases h2
    obtain ⟨k, rfl⟩ : ∃ k, j2 = k + 1 := ⟨j2 - 1, by omega⟩
    obtain ⟨y, hy⟩ : ∃ y, x.L[k]? = some y := ⟨_, List.getElem?_eq_getElem (by rw [← hl.out]; omega)⟩
    refine ⟨r, k, by simp, plIs_yes HS.out HX.out hy ?_ (fun t h1 h2 => K2.out t h1 (by rw [hl.out]; exact h2)) (fun t h1 h2 => J2.out t h1 (by rw [hn.out]; exact h2)), ((OA.out.trans O1.out).trans OB.out).trans O2.out⟩
    have := K1.out k (by omega)
    rw [fstL_at hy] at this
    simpa using this
theorem results_cell2 {P : Program} {fn : Func} {p u : Tmp} {ty : TypeId} (h : fn.results = #[.cell p ty, .tmp u]) (tmps : Array Value) (w : World) (g : Nat) (t : TypeId) (cs : Array Value) (fr : Nat × Nat) (d : TypeDesc)
    (hp : tmps.getD p undef = .pointer (some ⟨g, 0, none⟩)) (hg : w.heap[g]? = some (.cells cs t fr))
    (hu : P.underlying ty = some d) (hd : (match d with | .struct _ | .array _ _ => true | _ => false) = true) (hi : (P.info? ty).map (·.size) = some cs.size) :
    (results fn tmps).run P w = .ok (.tuple #[.agg cs, tmps.getD u undef]) w := by
  have hp' : tmps[p]?.getD undef = .pointer (some ⟨g, 0, none⟩) := by simpa using hp
  simp [results, h, hp', asAddr, run_loadVar_row w g t ty cs fr d hg hu hd hi]
theorem blk_out {w w' : World} {q : Nat} {X : Obj} (h : w.heap[q]? = some X) (o : Out w w') : w'.heap[q]? = some X := (o.block q (Array.getElem?_eq_some_iff.1 h).1).trans h
theorem blk_chg {S : Nat → Prop} {w w' : World} {q : Nat} {X : Obj} (h : w.heap[q]? = some X) (c : Chg S w w') (hs : ¬ S q) : w'.heap[q]? = some X := (c.block q (Array.getElem?_eq_some_iff.1 h).1 hs).trans h
def UpE (F : List Rg) (at_ : Nat) (e : Ending) : Prop := (upF F at_ = none ∧ e = .returned (.tuple #[.agg #[.int .u64 0, .slice none 0 0], .bool false])) ∨ ∃ y, upF F at_ = some y ∧ y ∈ F ∧ e = .returned (.tuple #[.agg #[.int .u64 (y.f : Nat), .slice (y.a.map fun b => ⟨b, 0, none⟩) y.d.length y.c], .bool true])
set_option maxHeartbeats 4000000 in
set_option maxRecDepth 100000 in
theorem upTo_any (w : World) (B s o : Nat) (v : Value) (X : List Rw) (at_ : Nat) (h : Sh B w v X) (hc : w.cell? ⟨s, o, none⟩ = some v) (hs : Srt (flat X)) (hN : X.length < 4611686018427387904) :
    Calls Tryz.prog 78 #[.pointer (some ⟨s, o, none⟩), .int .u64 at_] w fun e w' => UpE (flat X) at_ e ∧ Out w w' := by
  obtain ⟨wA, HA, bA, oA⟩ : ∃ wA, Hid (wA = w.alloc (.cells #[.int .u64 0, .slice none 0 0] 36)) ∧ wA.heap[w.heap.size]? = some (.cells #[.int .u64 0, .slice none 0 0] 36 (0, 0)) ∧ Out w wA := ⟨_, rfl, heap_alloc_new w _, (Out.refl w).alloc _⟩
  have H := hidOf h
  have HC := hidOf hc
  have OA := hidOf oA
  have BA := hidOf bA
  have P1 := hidOf (place_any wA B s o v X at_ (h.out oA) (cell_later oA hc) hs hN)
  clear h hc oA bA
  go_enter Tryz.func78, Tryz.ntmps78
  go_upto_region 1 with fail
  rw [← HA.out]
  go_upto_region 2 with (go_at_call 80; refine P1.out.mono ?_; rintro e w1 ⟨r, k, rfl, hp, ho1⟩; have PL := hidOf hp; have O1 := hidOf ho1; clear hp ho1)
  have hblk := hidOf (blk_out BA.out O1.out)
  have f0 : w1.frozen? ⟨w.heap.size, 0, none⟩ = false := froz_B hblk.out 0
  have f1 : w1.frozen? ⟨w.heap.size, 1, none⟩ = false := froz_B hblk.out 1
  have c0 : w1.cell? ⟨w.heap.size, 0, none⟩ = some (.int .u64 0) := by rw [cell_B hblk.out]; rfl
  have c1 : w1.cell? ⟨w.heap.size, 1, none⟩ = some (.slice none 0 0) := by rw [cell_B hblk.out]; rfl
  rcases PL.out.up with ⟨rfl, rfl, hu⟩ | ⟨i, j, x, y, rfl, rfl, hx, hy, hu⟩
  · have HU := hidOf hu
    clear hu
    go_wp2
    refine bodyPost_ret (results_cell2 rfl _ _ w.heap.size 36 _ (0, 0) _ rfl (set_B (set_B hblk.out 0 _) 1 _) Tryz.underlying36 rfl (by kernel_rfl)) rfl ?_
    exact ⟨.inl ⟨HU.out, rfl⟩, Out.setCell (Out.setCell (OA.out.trans O1.out) (Nat.le_refl _) _) (Nat.le_refl _) _⟩
  · obtain ⟨gR, cR, e, hr, _, _⟩ := H.out.at_ hx
    have ow := OA.out.trans O1.out
    have hr1 := cell_later ow hr
    have hs1 := cell_later ow HC.out
    rw [e] at hs1
    have hrg := H.out.reg hx hy
    have g0 := cell_later ow hrg.1
    have g1 := cell_later ow hrg.2
    have hil : (i : Int) < (X.length : Int) := by have := (List.getElem?_eq_some_iff.1 hx).1; omega
    have hjl : (j : Int) < (x.L.length : Int) := by have := (List.getElem?_eq_some_iff.1 hy).1; omega
    have hym : y ∈ flat X := flat_mem hx (List.mem_of_getElem? hy)
    have HU := hidOf hu
    have HYM := hidOf hym
    obtain ⟨n, hn⟩ : ∃ n, n = X.length := ⟨_, rfl⟩
    obtain ⟨l, hl⟩ : ∃ l, l = x.L.length := ⟨_, rfl⟩
    obtain ⟨gx, hgx⟩ : ∃ gx, gx = x.g := ⟨_, rfl⟩
    obtain ⟨cx, hcx⟩ : ∃ cx, cx = x.c := ⟨_, rfl⟩
    obtain ⟨yn, hyn⟩ : ∃ yn, Hid (yn = y.d.length) := ⟨_, rfl⟩
    obtain ⟨ya, hya⟩ : ∃ ya : Option Addr, Hid (ya = y.a.map fun b => ⟨b, 0, none⟩) := ⟨_, rfl⟩
    obtain ⟨yc, hyc⟩ : ∃ yc, Hid (yc = y.c) := ⟨_, rfl⟩
    obtain ⟨yf, hyf⟩ : ∃ yf, Hid (yf = y.f) := ⟨_, rfl⟩
    rw [← hn] at hil hs1
    rw [← hl] at hjl hr1
    rw [← hgx] at hr1 g0 g1
    rw [← hcx] at hr1
    rw [← hyf.out] at g0
    rw [← hyn.out, ← hya.out, ← hyc.out] at g1
    clear hu hym hx hy hn hl hgx hcx e hr hrg
    go_wp2
    refine bodyPost_ret (results_cell2 rfl _ _ w.heap.size 36 _ (0, 0) _ rfl (set_B (set_B hblk.out 0 _) 1 _) Tryz.underlying36 rfl (by kernel_rfl)) rfl ?_
    refine ⟨.inr ⟨y, HU.out, HYM.out, ?_⟩, Out.setCell (Out.setCell ow (Nat.le_refl _) _) (Nat.le_refl _) _⟩
    rw [← hyf.out, ← hyn.out, ← hya.out, ← hyc.out]
    rfl
theorem begF {F : List Rg} (hs : Srt F) (at_ : Nat) : (∀ y, upF F at_ = some y → F.any (fun x => x.f == at_) = (y.f == at_)) ∧ (upF F at_ = none → F.any (fun x => x.f == at_) = false) := by
  rcases upF_hit hs at_ with ⟨y, hu, hy, hle, hiff, _⟩ | ⟨hu, hall⟩
  · refine ⟨fun z hz => ?_, fun hz => by rw [hu] at hz; cases hz⟩
    rw [hu] at hz; cases hz
    rw [Bool.eq_iff_iff]
    simp only [List.any_eq_true, beq_iff_eq]
    exact hiff.symm
  · refine ⟨fun z hz => (by rw [hu] at hz; cases hz), fun _ => ?_⟩
    rw [List.any_eq_false]
    intro x hx
    have := hall x hx
    simp; omega
set_option maxHeartbeats 4000000 in
set_option maxRecDepth 100000 in
theorem begins_any (w : World) (B s o : Nat) (v : Value) (X : List Rw) (at_ : Nat) (h : Sh B w v X) (hc : w.cell? ⟨s, o, none⟩ = some v) (hs : Srt (flat X)) (hN : X.length < 4611686018427387904) :
    Calls Tryz.prog 77 #[.pointer (some ⟨s, o, none⟩), .int .u64 at_] w fun e w' => e = .returned (.bool ((flat X).any fun x => x.f == at_)) ∧ Out w w' := by
  have P1 := hidOf (upTo_any w B s o v X at_ h hc hs hN)
  have BF := hidOf (begF hs at_)
  generalize (flat X).any (fun x => x.f == at_) = b at BF ⊢
  generalize flat X = F at P1 BF hs
  clear h hc hN hs
  go_enter Tryz.func77, Tryz.ntmps77
  go_upto_region 1 with fail
  go_upto_region 2 with (go_at_call 78; refine P1.out.mono ?_; rintro e w1 ⟨⟨hu, rfl⟩ | ⟨y, hu, hy, rfl⟩, ho1⟩ <;> (have HU := hidOf hu; have O1 := hidOf ho1; clear hu ho1))
  · have hb := BF.out.2 HU.out
    subst hb
    go_wp2
    go_ret
    exact ⟨rfl, O1.out.alloc _⟩
  · have hb := BF.out.1 y HU.out
    have hcell : ∀ O1 O2 : Value, (w1.alloc (.cells #[O1, O2] 36)).cell? ⟨w1.heap.size, 0, none⟩ = some O1 := fun O1 O2 => by rw [cell_fresh _ _ _ 0 _ rfl]; rfl
    generalize y.f = f at *
    by_cases hf : f = at_
    · have hft : ((f : Int) == (at_ : Int)) = true := by simp [hf]
      rw [show (f == at_) = true by simp [hf]] at hb
      subst hb
      clear hf
      go_wp2
      go_ret
      exact ⟨rfl, O1.out.alloc _⟩
    · have hft : ((f : Int) == (at_ : Int)) = false := by rw [beq_eq_false_iff_ne]; omega
      rw [show (f == at_) = false by simp [hf]] at hb
      subst hb
      clear hf
      go_wp2
      go_ret
      exact ⟨rfl, O1.out.alloc _⟩
end Go.Proofs.YtekjfbmebekmeaaGreat
