import Derived.Test.YtekjfbmebekmeaaGreatGc03
import Derived.Shelf.SlSortCmp.QuietGrown
namespace Go.Proofs.YtekjfbmebekmeaaGreat
open Go.RowKit
set_option linter.unusedVariables false
set_option linter.unusedSimpArgs false
set_option maxHeartbeats 4000000 in
set_option maxRecDepth 100000 in
/-- sort.Search, by a function that turns nothing of what was there -/
theorem search_any (g : Nat) (cb : Array Value) (n : Nat) (p : Nat → Bool) (w : World) (eg : ∀ args w, (callFunc g args).run Tryz.prog w = .ok (.enter g args) w) (hsz : n < 4611686018427387904)
    (hf : ∀ wr i, Out w wr → i < n → Calls Tryz.prog g (#[.int .i64 (i : Nat)] ++ cb) wr fun e w' => e = .returned (.bool (p i)) ∧ Out wr w')
    (hmono : ∀ a b, a ≤ b → b < n → p a = true → p b = true) :
    Calls Tryz.prog 102 #[.int .i64 n, .func (.func g) #[] cb] w fun e w' => ∃ j : Nat, e = .returned (.int .i64 (j : Nat)) ∧ j ≤ n ∧ (∀ t, t < j → p t = false) ∧ (∀ t, j ≤ t → t < n → p t = true) ∧ Out w w' := by
  have HF := hidOf hf
  have M := hidOf hmono
  clear hf hmono
  go_enter Tryz.func102, Tryz.ntmps102
  go_wp2
  go_loopw [5, 6] (fun a b wr => ∃ lo hi : Nat, a = .int .i64 lo ∧ b = .int .i64 hi ∧ lo ≤ hi ∧ hi ≤ n ∧ Hid (Out w wr) ∧ Hid ((∀ t, t < lo → p t = false) ∧ (∀ t, hi ≤ t → t < n → p t = true))) (fun a b _ => (intOf b - intOf a).toNat)
  case atStart => exact ⟨0, n, rfl, rfl, Nat.zero_le _, Nat.le_refl _, hidOf (Out.refl w), hidOf ⟨fun t ht => absurd ht (Nat.not_lt_zero _), fun t h1 h2 => by omega⟩⟩
  case round =>
    obtain ⟨lo, hi, rfl, rfl, hlh, hin, HO, I⟩ := hrel
    by_cases hlt : lo < hi
    · have hc := HF.out wr ((lo + hi) / 2) HO.out (by omega)
      rw [show (((lo + hi) / 2 : Nat) : Int) = ((lo : Int) + (hi : Int)) / 2 by omega] at hc
      have HC := hidOf hc
      clear hc
      cases hp : p ((lo + hi) / 2)
      · have HP : Hid (p ((lo + hi) / 2) = false) := hp
        clear hp
        have hc := HC.out
        rw [HP.out] at hc
        go_wp2_with (go_at_fn g; refine hc.mono ?_; rintro e w1 ⟨rfl, ho1⟩; have HO1 := hidOf ho1; clear ho1)
        go_roundw
        case rel =>
          refine ⟨(lo + hi) / 2 + 1, hi, by rw [show ((lo : Int) + (hi : Int)) / 2 + 1 = (((lo + hi) / 2 + 1 : Nat) : Int) by omega], rfl, by omega, hin, hidOf (HO.out.trans HO1.out), hidOf ⟨fun t ht => ?_, I.out.2⟩⟩
          cases h : p t with
          | false => rfl
          | true => have := M.out t ((lo + hi) / 2) (by omega) (by omega) h; rw [HP.out] at this; cases this
        case measure => simp [intOf]; omega
      · have HP : Hid (p ((lo + hi) / 2) = true) := hp
        clear hp
        have hc := HC.out
        rw [HP.out] at hc
        go_wp2_with (go_at_fn g; refine hc.mono ?_; rintro e w1 ⟨rfl, ho1⟩; have HO1 := hidOf ho1; clear ho1)
        go_roundw
        case rel => exact ⟨lo, (lo + hi) / 2, rfl, by rw [show ((lo : Int) + (hi : Int)) / 2 = (((lo + hi) / 2 : Nat) : Int) by omega], by omega, by omega, hidOf (HO.out.trans HO1.out), hidOf ⟨I.out.1, fun t ht htn => M.out ((lo + hi) / 2) t ht htn HP.out⟩⟩
        case measure => simp [intOf]; omega
    · obtain rfl : hi = lo := by omega
      go_wp2
      go_ret
      exact ⟨hi, rfl, hin, I.out.1, I.out.2, HO.out⟩
end Go.Proofs.YtekjfbmebekmeaaGreat
namespace Go.Proofs.YtekjfbmebekmeaaGreat
open Go.RowKit
set_option linter.unusedVariables false
set_option linter.unusedSimpArgs false
/-- the first address of a list's t-th region, of the t-th row -/
def fstL (L : List Rg) (t : Nat) : Nat := match L[t]? with | none => 0 | some y => y.f
def fstX (X : List Rw) (t : Nat) : Nat := match X[t]? with | none => 0 | some x => fstL x.L 0
theorem fstL_at {L : List Rg} {t : Nat} {y : Rg} (h : L[t]? = some y) : fstL L t = y.f := by simp [fstL, h]
theorem fstX_at {X : List Rw} {t : Nat} {x : Rw} {y : Rg} (h : X[t]? = some x) (hy : x.L[0]? = some y) : fstX X t = y.f := by simp [fstX, h, fstL, hy]
theorem srt_flat {A B : List Rw} {x : Rw} (h : Srt (flat (A ++ x :: B))) : Srt (flat A) ∧ Srt x.L ∧ Srt (flat B) ∧ (∀ y ∈ flat A, ∀ z ∈ x.L, y.f < z.f) ∧ (∀ y ∈ x.L, ∀ z ∈ flat B, y.f < z.f) := by
  rw [flat_app, flat_cons] at h
  obtain ⟨h1, h2, h3⟩ := List.pairwise_append.1 h
  obtain ⟨h4, h5, h6⟩ := List.pairwise_append.1 h2
  exact ⟨h1, h4, h5, fun y hy z hz => h3 y hy z (List.mem_append_left _ hz), h6⟩
theorem at_split {α : Type} {L : List α} {t : Nat} {x : α} (h : L[t]? = some x) : L = L.take t ++ x :: L.drop (t + 1) := by
  have hk : t < L.length := (List.getElem?_eq_some_iff.1 h).1
  have hd := List.drop_eq_getElem_cons hk
  rw [List.getElem?_eq_getElem hk] at h
  rw [Option.some.inj h] at hd
  rw [← hd, List.take_append_drop]
theorem srt_at {L : List Rg} (hs : Srt L) {a b : Nat} {x y : Rg} (hx : L[a]? = some x) (hy : L[b]? = some y) (hab : a ≤ b) : x.f ≤ y.f := by
  rcases Nat.lt_or_eq_of_le hab with h | h
  · have ha : a < L.length := (List.getElem?_eq_some_iff.1 hx).1
    have hb : b < L.length := (List.getElem?_eq_some_iff.1 hy).1
    have := List.pairwise_iff_getElem.1 hs a b ha hb h
    rw [List.getElem?_eq_getElem ha] at hx
    rw [List.getElem?_eq_getElem hb] at hy
    cases hx; cases hy
    exact Nat.le_of_lt this
  · subst h; rw [hx] at hy; cases hy; exact Nat.le_refl _
theorem flat_mem {X : List Rw} {t : Nat} {x : Rw} (h : X[t]? = some x) {z : Rg} (hz : z ∈ x.L) : z ∈ flat X := List.mem_flatMap.2 ⟨x, List.mem_of_getElem? h, hz⟩
theorem srt_rows {X : List Rw} (hs : Srt (flat X)) {a b : Nat} {x y : Rw} (hx : X[a]? = some x) (hy : X[b]? = some y) (hab : a < b) {u v : Rg} (hu : u ∈ x.L) (hv : v ∈ y.L) : u.f < v.f := by
  have hb := (List.getElem?_eq_some_iff.1 hy).1
  rw [at_split hx] at hs
  refine (srt_flat hs).2.2.2.2 u hu v (flat_mem (t := b - (a + 1)) (x := y) ?_ hv)
  rw [List.getElem?_drop, show a + 1 + (b - (a + 1)) = b by omega]
  exact hy
theorem fstX_mono {X : List Rw} (hs : Srt (flat X)) (hn : ∀ x ∈ X, x.L ≠ []) {a b : Nat} (hab : a ≤ b) (hb : b < X.length) : fstX X a ≤ fstX X b := by
  rcases Nat.lt_or_eq_of_le hab with h | h
  · obtain ⟨x, hx⟩ : ∃ x, X[a]? = some x := ⟨_, List.getElem?_eq_getElem (by omega)⟩
    obtain ⟨y, hy⟩ : ∃ y, X[b]? = some y := ⟨_, List.getElem?_eq_getElem hb⟩
    obtain ⟨u, hu⟩ : ∃ u, x.L[0]? = some u := ⟨_, List.getElem?_eq_getElem (List.length_pos_iff.2 (hn x (List.mem_of_getElem? hx)))⟩
    obtain ⟨v, hv⟩ : ∃ v, y.L[0]? = some v := ⟨_, List.getElem?_eq_getElem (List.length_pos_iff.2 (hn y (List.mem_of_getElem? hy)))⟩
    rw [fstX_at hx hu, fstX_at hy hv]
    exact Nat.le_of_lt (srt_rows hs hx hy h (List.mem_of_getElem? hu) (List.mem_of_getElem? hv))
  · subst h; exact Nat.le_refl _
theorem fstL_mono {L : List Rg} (hs : Srt L) {a b : Nat} (hab : a ≤ b) (hb : b < L.length) : fstL L a ≤ fstL L b := by
  obtain ⟨x, hx⟩ : ∃ x, L[a]? = some x := ⟨_, List.getElem?_eq_getElem (by omega)⟩
  obtain ⟨y, hy⟩ : ∃ y, L[b]? = some y := ⟨_, List.getElem?_eq_getElem hb⟩
  rw [fstL_at hx, fstL_at hy]
  exact srt_at hs hx hy hab
/-- what stands in a row begins no earlier than its first -/
theorem row_ge {L : List Rg} (hs : Srt L) {z : Rg} (hz : z ∈ L) : fstL L 0 ≤ z.f := by
  obtain ⟨t, ht, rfl⟩ := List.getElem_of_mem hz
  have h := fstL_mono hs (Nat.zero_le t) ht
  rw [fstL_at (List.getElem?_eq_getElem ht)] at h
  exact h
theorem plIs_no {X : List Rw} (hs : Srt (flat X)) {at_ : Nat} (h : ∀ t, t < X.length → decide (at_ < fstX X t) = true) : PlIs X at_ (-1) (-1) := by
  refine .no (fun z hz => ?_)
  obtain ⟨x, hx, hzx⟩ := List.mem_flatMap.1 hz
  obtain ⟨t, ht, rfl⟩ := List.getElem_of_mem hx
  have e : X[t]? = some X[t] := List.getElem?_eq_getElem ht
  have h1 := h t ht
  have hs2 : Srt (X[t]).L := by rw [at_split e] at hs; exact (srt_flat hs).2.1
  have h2 := row_ge hs2 hzx
  simp only [fstX, e, decide_eq_true_eq] at h1
  omega
theorem plIs_yes {X : List Rw} (hs : Srt (flat X)) {at_ r k : Nat} {x : Rw} {y : Rg} (hx : X[r]? = some x) (hy : x.L[k]? = some y) (hle : y.f ≤ at_) (h1 : ∀ t, k + 1 ≤ t → t < x.L.length → decide (at_ < fstL x.L t) = true) (h2 : ∀ t, r + 1 ≤ t → t < X.length → decide (at_ < fstX X t) = true) : PlIs X at_ r k := by
  have hr := (List.getElem?_eq_some_iff.1 hx).1
  have hk := (List.getElem?_eq_some_iff.1 hy).1
  have hp := PlIs.yes (X := X) (at_ := at_) (X.take r) (X.drop (r + 1)) x (x.L.take k) (x.L.drop (k + 1)) y (at_split hx) (at_split hy) hle (fun z hz => ?_) (fun z hz => ?_)
  · rwa [List.length_take, List.length_take, Nat.min_eq_left (by omega), Nat.min_eq_left (by omega)] at hp
  · obtain ⟨t, ht, rfl⟩ := List.getElem_of_mem hz
    rw [List.length_drop] at ht
    have := h1 (k + 1 + t) (by omega) (by omega)
    rw [fstL_at (List.getElem?_eq_getElem (by omega))] at this
    rw [List.getElem_drop]
    simpa using this
  · obtain ⟨x', hx', hzx⟩ := List.mem_flatMap.1 hz
    obtain ⟨t, ht, rfl⟩ := List.getElem_of_mem hx'
    rw [List.length_drop] at ht
    rw [List.getElem_drop] at hzx
    have e : X[r + 1 + t]? = some X[r + 1 + t] := List.getElem?_eq_getElem (by omega)
    have h3 := h2 (r + 1 + t) (by omega) (by omega)
    have hs2 : Srt (X[r + 1 + t]).L := by rw [at_split e] at hs; exact (srt_flat hs).2.1
    have h4 := row_ge hs2 hzx
    simp only [fstX, e, decide_eq_true_eq] at h3
    omega
/-- a region's cells, a row's -/
def daV (x : Rg) : Value := .slice (x.a.map fun b => ⟨b, 0, none⟩) x.d.length x.c
def csG (x : Rg) : List Value := [.int .u64 (x.f : Nat), daV x]
def rowG (L : List Rg) : List Value := L.flatMap csG
theorem rowG_len (L : List Rg) : (rowG L).length = L.length * 2 := by
  induction L with
  | nil => rfl
  | cons x L ih => simp only [rowG, List.flatMap_cons, List.length_append, List.length_cons] at ih ⊢; simp only [csG, List.length_cons, List.length_nil, ih]; omega
theorem rowG_app (A B : List Rg) : rowG (A ++ B) = rowG A ++ rowG B := by simp [rowG]
theorem rowG_cons (x : Rg) (B : List Rg) : rowG (x :: B) = csG x ++ rowG B := by simp [rowG]
theorem rowG_one (L : List Rg) : ∀ u ∈ rowG L, u.oneCell' = true := by
  intro u hu
  obtain ⟨x, hx, hu⟩ := List.mem_flatMap.1 hu
  simp only [csG, List.mem_cons, List.not_mem_nil, or_false] at hu
  rcases hu with rfl | rfl <;> rfl
theorem rowG_get {L : List Rg} {i : Nat} {x : Rg} (h : L[i]? = some x) : (rowG L)[i * 2]? = some (.int .u64 (x.f : Nat)) ∧ (rowG L)[i * 2 + 1]? = some (daV x) := by
  have hi : i < L.length := (List.getElem?_eq_some_iff.1 h).1
  have hl : (rowG (L.take i)).length = i * 2 := by rw [rowG_len, List.length_take, Nat.min_eq_left (by omega)]
  have e : rowG L = rowG (L.take i) ++ (csG x ++ rowG (L.drop (i + 1))) := by
    conv => lhs; rw [at_split h]
    rw [rowG_app, rowG_cons]
  rw [e]
  constructor
  · rw [List.getElem?_append_right (by omega), hl, Nat.sub_self]; rfl
  · rw [List.getElem?_append_right (by omega), hl, show i * 2 + 1 - i * 2 = 1 by omega]; rfl
theorem rowG_take (L : List Rg) (i : Nat) (h : i ≤ L.length) : (rowG L).take (i * 2) = rowG (L.take i) := by
  conv => lhs; rw [← List.take_append_drop i L]
  rw [rowG_app]
  exact List.take_left' (by rw [rowG_len, List.length_take, Nat.min_eq_left h])
theorem rowG_drop (L : List Rg) (i : Nat) (h : i ≤ L.length) : (rowG L).drop (i * 2) = rowG (L.drop i) := by
  conv => lhs; rw [← List.take_append_drop i L]
  rw [rowG_app]
  exact List.drop_left' (by rw [rowG_len, List.length_take, Nat.min_eq_left h])
def rwV (x : Rw) : Value := .slice (some ⟨x.g, 0, none⟩) x.L.length x.c
theorem rwV_one (X : List Rw) : ∀ u ∈ X.map rwV, u.oneCell' = true := by
  intro u hu
  obtain ⟨x, _, rfl⟩ := List.mem_map.1 hu
  rfl
/-- a shelf's rows, as they lie -/
structure Sh (B : Nat) (w : World) (v : Value) (X : List Rw) : Prop where
  own : w.ownsRow B 22 1 v X.length (X.map rwV)
  rows : ∀ x ∈ X, w.ownsRow B 36 2 (rwV x) x.L.length (rowG x.L)
  ne : ∀ x ∈ X, x.L ≠ []
  le : ∀ x ∈ X, x.L.length ≤ 129
  nd : X.Pairwise (fun x y => x.g ≠ y.g)
  vn : ∀ x ∈ X, v.ownBlock ≠ some x.g
/-- the blocks of a shelf -/
def fpS (v : Value) (X : List Rw) (k : Nat) : Prop := v.ownBlock = some k ∨ ∃ x ∈ X, x.g = k
theorem own_chg {S : Nat → Prop} {B s n : Nat} {w w' : World} {e : TypeId} {v : Value} {xs : List Value} (h : w.ownsRow B e s v n xs) (c : Chg S w w') (hs : ∀ b, v.ownBlock = some b → ¬ S b) : w'.ownsRow B e s v n xs := by
  refine ⟨h.1, ?_⟩
  rcases h.2 with hn | ⟨g, cap, cur, rfl, hb, hg, rest⟩
  · exact .inl hn
  · exact .inr ⟨g, cap, cur, rfl, hb, (c.block g (Array.getElem?_eq_some_iff.1 hg).1 (hs g rfl)).trans hg, rest⟩
theorem own_out {B s n : Nat} {w w' : World} {e : TypeId} {v : Value} {xs : List Value} (h : w.ownsRow B e s v n xs) (o : Out w w') : w'.ownsRow B e s v n xs := own_chg h (Chg.of_out (S := fun _ => False) o) (fun _ _ h => h)
theorem Sh.keep {S : Nat → Prop} {B : Nat} {w w' : World} {v : Value} {X : List Rw} (h : Sh B w v X) (c : Chg S w w') (hs : ∀ k, fpS v X k → ¬ S k) : Sh B w' v X :=
  ⟨own_chg h.own c (fun b hb => hs b (.inl hb)), fun x hx => own_chg (h.rows x hx) c (fun b hb => hs b (.inr ⟨x, hx, by simp [rwV, Value.ownBlock] at hb; exact hb⟩)), h.ne, h.le, h.nd, h.vn⟩
theorem Sh.out {B : Nat} {w w' : World} {v : Value} {X : List Rw} (h : Sh B w v X) (o : Out w w') : Sh B w' v X := h.keep (Chg.of_out (S := fun _ => False) o) (fun _ _ h => h)
theorem Sh.lt {B : Nat} {w : World} {v : Value} {X : List Rw} (h : Sh B w v X) {k : Nat} (hk : fpS v X k) : B ≤ k ∧ k < w.heap.size := by
  rcases hk with hk | ⟨x, hx, rfl⟩
  · exact h.own.lt k hk
  · exact (h.rows x hx).lt x.g rfl
theorem own_cellK {B s n : Nat} {w : World} {e : TypeId} {g c : Nat} {xs : List Value} (h : w.ownsRow B e s (.slice (some ⟨g, 0, none⟩) n c) n xs) {j : Nat} {u : Value} (hj : xs[j]? = some u) : w.cell? ⟨g, j, none⟩ = some u ∧ w.frozen? ⟨g, j, none⟩ = false := by
  obtain ⟨cur, hg, _, _, _, _, ht, _⟩ := owns_blk h
  refine ⟨?_, froz_B hg j⟩
  rw [cell_B hg, List.getElem?_toArray]
  rw [← ht, List.getElem?_take] at hj
  split at hj
  · exact hj
  · cases hj
/-- the cells of a shelf's row, of a region of it -/
theorem Sh.at_ {B : Nat} {w : World} {v : Value} {X : List Rw} (h : Sh B w v X) {i : Nat} {x : Rw} (hx : X[i]? = some x) : ∃ gR cR, v = .slice (some ⟨gR, 0, none⟩) X.length cR ∧ w.cell? ⟨gR, i, none⟩ = some (.slice (some ⟨x.g, 0, none⟩) x.L.length x.c) ∧ w.frozen? ⟨gR, i, none⟩ = false ∧ gR ≠ x.g := by
  obtain ⟨gR, cR, rfl, _⟩ := h.own.form (List.length_pos_of_mem (List.mem_of_getElem? hx))
  have := own_cellK h.own (j := i) (u := rwV x) (by rw [List.getElem?_map, hx]; rfl)
  exact ⟨gR, cR, rfl, this.1, this.2, fun e => h.vn x (List.mem_of_getElem? hx) (by rw [e]; rfl)⟩
theorem Sh.reg {B : Nat} {w : World} {v : Value} {X : List Rw} (h : Sh B w v X) {i j : Nat} {x : Rw} {y : Rg} (hx : X[i]? = some x) (hy : x.L[j]? = some y) : w.cell? ⟨x.g, j * 2, none⟩ = some (.int .u64 (y.f : Nat)) ∧ w.cell? ⟨x.g, j * 2 + 1, none⟩ = some (.slice (y.a.map fun b => ⟨b, 0, none⟩) y.d.length y.c) := by
  have h1 := h.rows x (List.mem_of_getElem? hx)
  obtain ⟨g1, g2⟩ := rowG_get hy
  exact ⟨(own_cellK h1 g1).1, (own_cellK h1 g2).1⟩
end Go.Proofs.YtekjfbmebekmeaaGreat
