import Derived.Test.YtfhmhdhaibmcfaaDoorDa
import Derived.Test.YtfhmhdhaibmcfaaDoorZa
import Derived.Laws.MakeOwn
import Derived.Laws.CopyRow
import Derived.Laws.IdiomCopy
namespace Go.Proofs.YtfhmhdhaibmcfaaDoor
open Go.RowKit
set_option linter.unusedVariables false
set_option linter.unusedSimpArgs false
/-- a block of tokens -/
def RowT (w : World) (g : Nat) (L : List Tk) : Prop := w.heap[g]? = some (.cells (tkV L).toArray 36 (0, 0))
theorem RowT.lt {w : World} {g : Nat} {L : List Tk} (h : RowT w g L) : g < w.heap.size := (Array.getElem?_eq_some_iff.1 h).1
theorem RowT.same {w w' : World} {g : Nat} {L : List Tk} (h : RowT w g L) (e : w'.heap[g]? = w.heap[g]?) : RowT w' g L := e.trans h
theorem RowT.out {w w' : World} {g : Nat} {L : List Tk} (h : RowT w g L) (o : Out w w') : RowT w' g L := h.same (o.block g h.lt)
theorem RowT.cells {w : World} {g : Nat} {L : List Tk} (h : RowT w g L) {i : Nat} {x : Tk} (hx : L[i]? = some x) :
    w.cell? ⟨g, i * 4, none⟩ = some (.int .i64 x.k) ∧ w.cell? ⟨g, i * 4 + 1, none⟩ = some (.string ⟨x.t.toArray⟩) ∧ w.cell? ⟨g, i * 4 + 2, none⟩ = some (.int .u64 x.n) ∧ w.cell? ⟨g, i * 4 + 3, none⟩ = some (.int .i64 x.l) := by
  have key : ∀ j, j < 4 → w.cell? ⟨g, i * 4 + j, none⟩ = x.cs[j]? := fun j hj => by
    rw [cell_atL (show w.heap[g]? = _ from h), List.getElem?_toArray, tkV_get L i x j hx hj]
  exact ⟨key 0 (by omega), key 1 (by omega), key 2 (by omega), key 3 (by omega)⟩
theorem RowT.tks {w : World} {g : Nat} {A B : List Tk} (h : RowT w g (A ++ B)) : TksAt w (some ⟨g, 0, none⟩) A :=
  .inr ⟨g, 0, rfl, fun k x hx => by simp only [Nat.zero_add]; exact h.cells (by rw [List.getElem?_append_left (List.getElem?_eq_some_iff.1 hx).1]; exact hx)⟩
theorem RowT.frozen {w : World} {g : Nat} {L : List Tk} (h : RowT w g L) (j : Nat) : w.frozen? ⟨g, j, none⟩ = false := frozen_atL (show w.heap[g]? = _ from h) j
theorem set4_list (A C : List Value) (y0 y1 y2 y3 x0 x1 x2 x3 : Value) (k : Nat) (hk : A.length = k) : ((((A ++ ([y0, y1, y2, y3] ++ C)).set k x0).set (k + 1) x1).set (k + 2) x2).set (k + 3) x3 = A ++ ([x0, x1, x2, x3] ++ C) := by
  subst hk
  simp [List.set_append]
theorem split_atT (L : List Tk) (i : Nat) (x : Tk) (h : L[i]? = some x) : L = L.take i ++ (x :: L.drop (i + 1)) := by
  have hk : i < L.length := (List.getElem?_eq_some_iff.1 h).1
  have hd := List.drop_eq_getElem_cons hk
  have hx' : L[i] = x := by rw [List.getElem?_eq_getElem hk] at h; exact Option.some.inj h
  rw [hx'] at hd
  rw [← hd, List.take_append_drop]
theorem RowT.set {w : World} {g : Nat} {L : List Tk} (h : RowT w g L) {i : Nat} (hi : i < L.length) (a : Int) (t : List UInt8) (c d : Int) :
    RowT ((((w.setCell ⟨g, i * 4, none⟩ (.int .i64 a)).setCell ⟨g, i * 4 + 1, none⟩ (.string ⟨t.toArray⟩)).setCell ⟨g, i * 4 + 2, none⟩ (.int .u64 c)).setCell ⟨g, i * 4 + 3, none⟩ (.int .i64 d)) g (L.set i ⟨a, t, c, d⟩) := by
  have h4 := set_atL (set_atL (set_atL (set_atL (show w.heap[g]? = _ from h) (i * 4) (.int .i64 a)) (i * 4 + 1) (.string ⟨t.toArray⟩)) (i * 4 + 2) (.int .u64 c)) (i * 4 + 3) (.int .i64 d)
  unfold RowT
  rw [h4]
  simp only [List.setIfInBounds_toArray]
  obtain ⟨x, hx⟩ : ∃ x, L[i]? = some x := ⟨_, List.getElem?_eq_getElem hi⟩
  have e1 : tkV L = tkV (L.take i) ++ ([.int .i64 x.k, .string ⟨x.t.toArray⟩, .int .u64 x.n, .int .i64 x.l] ++ tkV (L.drop (i + 1))) := by
    conv => lhs; rw [split_atT L i x hx]
    rw [tkV_app]; rfl
  have e2 : tkV (L.set i ⟨a, t, c, d⟩) = tkV (L.take i) ++ ([.int .i64 a, .string ⟨t.toArray⟩, .int .u64 c, .int .i64 d] ++ tkV (L.drop (i + 1))) := by
    rw [List.set_eq_take_append_cons_drop, if_pos hi, tkV_app]; rfl
  have hl : (tkV (L.take i)).length = i * 4 := by rw [tkV_len, List.length_take, Nat.min_eq_left (by omega)]
  rw [e1, e2, set4_list _ _ _ _ _ _ _ _ _ _ (i * 4) hl]
def zeroT : Tk := ⟨0, [], 0, 0⟩
theorem made_tks (N : Nat) : madeCells #[.int .i64 0, .string ⟨#[]⟩, .int .u64 0, .int .i64 0] (N * 4) = (tkV (List.replicate N zeroT)).toArray := by
  apply Array.ext_getElem?
  intro j
  simp only [madeCells, Array.getElem?_map, List.getElem?_toArray]
  by_cases hj : j < N * 4
  · rw [Array.getElem?_range, if_pos hj]
    have h4 : j % 4 < 4 := Nat.mod_lt _ (by omega)
    have hg := tkV_get (List.replicate N zeroT) (j / 4) zeroT (j % 4) (by rw [List.getElem?_replicate, if_pos (by omega)]) h4
    rw [show j / 4 * 4 + j % 4 = j by omega] at hg
    rw [hg]
    have : ∀ k, k < 4 → some ((#[Value.int .i64 0, .string ⟨#[]⟩, .int .u64 0, .int .i64 0] : Array Value)[k]!) = zeroT.cs[k]? := by
      intro k hk
      match k, hk with
      | 0, _ => rfl
      | 1, _ => rfl
      | 2, _ => rfl
      | 3, _ => rfl
    exact this _ h4
  · rw [Array.getElem?_range, if_neg hj, List.getElem?_eq_none (by rw [tkV_len, List.length_replicate]; omega)]; rfl
theorem run_make_tks (n : Nat) (hn : 40 * n ≤ 281474976710656) (w : World) : (Instr.makeSlice 30 (.int .i64 (n : Int)) (.int .i64 (n : Int))).run Tryd.prog w = .ok (.slice (some ⟨w.heap.size, 0, none⟩) n n) (w.alloc (.cells (tkV (List.replicate n zeroT)).toArray 36)) := by
  obtain ⟨i0, hi, hz0, hz1, hz2⟩ := info_parts infoTk
  have h := run_make (P := Tryd.prog) w 30 36 i0 _ Tryd.underlying30 hi hz0 .i64 .i64 (n : Int) (n : Int) (by omega) (Int.le_refl _) (by rw [hz2]; omega) (by omega)
  rw [hz1] at h
  simp only [Int.toNat_natCast, Value.cells] at h
  rw [made_tks] at h
  exact h
set_option maxRecDepth 20000 in
/-- copy(dst, src), dst a row, all of src -/
theorem run_copy_tks (w : World) (ty : TypeId) (g dLen dCap : Nat) (a : Option Addr) (n c : Nat) (L l2 : List Tk) (hg : RowT w g L) (hn : l2.length = n) (hA : TksAt w a l2) (h1 : n ≤ dLen) (h2 : n ≤ L.length) :
    ∃ w', (Builtin.copy_ #[30, 30] ty #[.slice (some ⟨g, 0, none⟩) dLen dCap, .slice a n c]).run Tryd.prog w = .ok (.int .i64 n) w' ∧ RowT w' g (l2 ++ L.drop n) ∧ Chg (fun k => k = g) w w' := by
  obtain ⟨i0, hi, hz0, hz1, hz2⟩ := info_parts infoTk
  have hmin : Nat.min n dLen = n := Nat.min_eq_left h1
  cases a with
  | none =>
    obtain rfl : l2 = [] := by
      rcases hA with h | ⟨b, off, h, _⟩
      · exact h
      · cases h
    obtain rfl : n = 0 := by simpa using hn.symm
    refine ⟨w, ?_, by simpa using hg, Chg.refl _ _⟩
    simp [Builtin.copy_, run_underlying Tryd.underlying30, Builtin.lenOf, Builtin.firstCells, sizeOf, typeInfo, hi, storeCells, goInt]
  | some ad =>
    have hcells : ∀ j u, (tkV l2)[j]? = some u → w.cell? (ad.add j) = some u := by
      intro j u hu
      rcases hA with rfl | ⟨b, off, h, hc⟩
      · simp [tkV] at hu
      · cases h; exact tks_news hc j u hu
    have hl := run_loadCells_list (P := Tryd.prog) w ad (tkV l2) hcells
    rw [tkV_len, hn] at hl
    have hst := run_storeCells_at Tryd.prog g 0 36 (tkV l2) 0 (tkV L).toArray w hg (by simp [tkV_len]; omega) (tkV_one l2)
    refine ⟨w.setRow g (tkV (l2 ++ L.drop n)).toArray, ?_, ?_, ?_⟩
    · have e : ((tkV L).toArray.toList.take (0 + 0) ++ tkV l2 ++ (tkV L).toArray.toList.drop (0 + 0 + (tkV l2).length)).toArray = (tkV (l2 ++ L.drop n)).toArray := by
        congr 1
        simp only [Nat.add_zero, List.take_zero, List.nil_append, Nat.zero_add, tkV_len, hn, tkV_app]
        congr 1
        have e1 : tkV L = tkV (L.take n) ++ tkV (L.drop n) := by rw [← tkV_app, List.take_append_drop]
        rw [e1, List.drop_left' (by rw [tkV_len, List.length_take, Nat.min_eq_left h2])]
      rw [e] at hst
      simp [Builtin.copy_, run_underlying Tryd.underlying30, Builtin.lenOf, Builtin.firstCells, sizeOf, typeInfo, hi, hz1, hmin, hl, hst, goInt]
    · exact setRow_heap w g _ _ _ _ hg
    · exact ⟨rfl, rfl, rfl, by simp [World.setRow], fun k hk hs => setRow_other w g k _ hs⟩
/-- what stands behind tokens that are lent -/
def behT (i : Nat) : Tk := ⟨40 + i, [98, 101, 104, 105, 110, 100], 0, 0⟩
def behsT (a k : Nat) : List Tk := (List.range' a k).map behT
theorem behsT_len (a k : Nat) : (behsT a k).length = k := by simp [behsT]
theorem behsT_succ (a k : Nat) : behsT a (k + 1) = behsT a k ++ [behT (a + k)] := by simp [behsT, List.range'_concat]
theorem behsT_drop (n m : Nat) : (behsT 0 m).drop n = behsT n (m - n) := by
  simp only [behsT, ← List.map_drop, List.drop_range']
  congr 2; omega
theorem behsT_get {n k j : Nat} (h : j < k) : (behsT n k)[j]? = some (behT (n + j)) := by
  unfold behsT
  rw [List.getElem?_map, List.getElem?_range' h]
  simp
set_option maxRecDepth 20000 in
theorem behind_any (i : Nat) (hi : i ≤ 1000000000000000) (w : World) : Calls Tryd.prog 41 #[.int .i64 i] w fun e w' => e = .returned (.agg #[.int .i64 (40 + i), .string ⟨#[98, 101, 104, 105, 110, 100]⟩, .int .u64 0, .int .i64 0]) ∧ Out w w' := by
  go_enter Tryd.func41, Tryd.ntmps41
  go_wp2
  refine bodyPost_ret (results_cell_row rfl _ _ w.heap.size 36 _ (0, 0) _ rfl (heap_alloc_new _ _) Tryd.underlying36 rfl sizeTk) rfl ?_
  exact ⟨rfl, Out.alloc (Out.refl _) _⟩
end Go.Proofs.YtfhmhdhaibmcfaaDoor
namespace Go.Proofs.YtfhmhdhaibmcfaaDoor
open Go.RowKit
set_option linter.unusedVariables false
set_option linter.unusedSimpArgs false
/-- the tray's block at p, its list at g -/
structure Tb (w : World) (p g m : Nat) (L : List Tk) : Prop where
  hp : w.heap[p]? = some (.cells #[.slice (some ⟨g, 0, none⟩) m m] 33 (0, 0))
  hg : RowT w g L
  len_ : L.length = m
theorem Tb.ne {w : World} {p g m : Nat} {L : List Tk} (h : Tb w p g m L) : ¬ p = g := fun e => by
  have h1 := h.hp
  have h2 : w.heap[g]? = _ := h.hg
  rw [e, h2] at h1; simp at h1
theorem Tb.c0 {w : World} {p g m : Nat} {L : List Tk} (h : Tb w p g m L) : w.cell? ⟨p, 0, none⟩ = some (.slice (some ⟨g, 0, none⟩) m m) := by rw [cell_atL h.hp]; rfl
theorem Tb.ltp {w : World} {p g m : Nat} {L : List Tk} (h : Tb w p g m L) : p < w.heap.size := (Array.getElem?_eq_some_iff.1 h.hp).1
theorem Tb.out {w w' : World} {p g m : Nat} {L : List Tk} (h : Tb w p g m L) (o : Out w w') : Tb w' p g m L := ⟨(o.block p h.ltp).trans h.hp, h.hg.out o, h.len_⟩
theorem Tb.drew {w : World} {p g m : Nat} {L : List Tk} (h : Tb w p g m L) : Tb w.drew p g m L := ⟨h.hp, h.hg, h.len_⟩
theorem Tb.set {w : World} {p g m : Nat} {L : List Tk} (h : Tb w p g m L) {i : Nat} (hi : i < L.length) (a : Int) (t : List UInt8) (c d : Int) :
    Tb ((((w.setCell ⟨g, i * 4, none⟩ (.int .i64 a)).setCell ⟨g, i * 4 + 1, none⟩ (.string ⟨t.toArray⟩)).setCell ⟨g, i * 4 + 2, none⟩ (.int .u64 c)).setCell ⟨g, i * 4 + 3, none⟩ (.int .i64 d)) p g m (L.set i ⟨a, t, c, d⟩) := by
  refine ⟨?_, h.hg.set hi a t c d, by simpa using h.len_⟩
  rw [Below.heap_setCell _ _ _ _ h.ne, Below.heap_setCell _ _ _ _ h.ne, Below.heap_setCell _ _ _ _ h.ne, Below.heap_setCell _ _ _ _ h.ne]
  exact h.hp
theorem chg4 {p g : Nat} {W w : World} (h : Chg (SL p g) W w) (o : Nat) (a b c d : Value) : Chg (SL p g) W ((((w.setCell ⟨g, o, none⟩ a).setCell ⟨g, o + 1, none⟩ b).setCell ⟨g, o + 2, none⟩ c).setCell ⟨g, o + 3, none⟩ d) :=
  (((h.setCell (p := ⟨g, o, none⟩) (.inr rfl) a).setCell (p := ⟨g, o + 1, none⟩) (.inr rfl) b).setCell (p := ⟨g, o + 2, none⟩) (.inr rfl) c).setCell (p := ⟨g, o + 3, none⟩) (.inr rfl) d
theorem Chg.then_out {S : Nat → Prop} {a b c : World} (h : Chg S a b) (o : Out b c) : Chg S a c := h.trans (T := fun _ => False) (Chg.of_out o) (fun _ hx _ => hx.elim)
theorem TksAt.keep {S : Nat → Prop} {w w' : World} {a : Option Addr} {l : List Tk} (h : TksAt w a l) (c : Chg S w w') (hs : ¬ l = [] → ∀ ad, a = some ad → ¬ S ad.block) : TksAt w' a l := by
  by_cases hl : l = []
  · exact .inl hl
  · rcases h with h | ⟨b, o, ha, hc⟩
    · exact .inl h
    · have hb : ¬ S b := hs hl ⟨b, o, none⟩ ha
      exact .inr ⟨b, o, ha, fun k x hx => ⟨c.cell (hc k x hx).1 hb, c.cell (hc k x hx).2.1 hb, c.cell (hc k x hx).2.2.1 hb, c.cell (hc k x hx).2.2.2 hb⟩⟩
/-- behind lay -/
def LayEnd (w : World) (p g m : Nat) (l : List Tk) (e : Ending) (w' : World) : Prop :=
  e = .returned (.slice (some ⟨g, 0, none⟩) l.length m) ∧ Tb w' p g m (l ++ behsT l.length (m - l.length)) ∧ Chg (SL p g) w w'
def ovT (j : Nat) (L : List Tk) : List Tk := behsT 0 j ++ L.drop j
theorem ovT_len {j : Nat} {L : List Tk} (h : j ≤ L.length) : (ovT j L).length = L.length := by simp [ovT, behsT_len]; omega
theorem ovT_set {j : Nat} {L : List Tk} (h : j < L.length) : (ovT j L).set j (behT j) = ovT (j + 1) L := by
  unfold ovT
  rw [List.set_append_right _ _ (by rw [behsT_len]; exact Nat.le_refl _), behsT_len, Nat.sub_self, List.drop_eq_getElem_cons h, List.set_cons_zero, behsT_succ]
  simp
theorem ovT_end (L : List Tk) : ovT L.length L = behsT 0 L.length := by simp [ovT]
set_option maxRecDepth 20000 in
set_option maxHeartbeats 3000000 in
theorem lay_again (W : World) (p g m : Nat) (L : List Tk) (h : Tb W p g m L) (a : Option Addr) (cap : Nat) (l : List Tk) (hr : TksAt W a l) (hne : ¬ l = [] → ∀ ad, a = some ad → ¬ SL p g ad.block) (hm : 2 * l.length + 70 ≤ m) (hmm : m ≤ 1000000000000) :
    Calls Tryd.prog 26 #[.pointer (some ⟨p, 0, none⟩), .slice a l.length cap] W fun e w' => LayEnd W p g m l e w' := by
  have H : Hid (Tb W p g m (ovT 0 L)) := by rw [show ovT 0 L = L from rfl]; exact hidOf h
  have H0 := hidOf h
  have HR := hidOf hr
  have HNe := hidOf hne
  have c0 := h.c0
  have hmI : ¬ (m : Int) < 2 * (l.length : Int) + 70 := by omega
  clear h hr hne
  go_enter Tryd.func26, Tryd.ntmps26
  go_wp2
  clear c0
  have HC0 := hidOf (Chg.refl (SL p g) W)
  go_loopw [5] (fun kv wr => ∃ j : Nat, kv = .int .i64 j ∧ j ≤ m ∧ Hid (Tb wr p g m (ovT j L)) ∧ Hid (Chg (SL p g) W wr)) (fun kv _ => m - (intOf kv).toNat)
  case atStart => exact ⟨0, rfl, by omega, H, HC0⟩
  case round =>
    obtain ⟨j, rfl, hj, HB, HC⟩ := hrel
    have hLl : Hid (L.length = m) := H0.out.len_
    have d0 := HB.out.c0
    by_cases hlt : j < m
    · have hltI : (j : Int) < m := by omega
      have hjl : Hid (j < (ovT j L).length) := by have := hLl.out; rw [ovT_len (by omega)]; exact hidOf (by omega)
      obtain ⟨z, hz⟩ : ∃ z, (ovT j L)[j]? = some z := ⟨_, List.getElem?_eq_getElem hjl.out⟩
      obtain ⟨y0, y1, y2, y3⟩ := HB.out.hg.cells hz
      have f0 := HB.out.hg.frozen (j * 4)
      have f1 := HB.out.hg.frozen (j * 4 + 1)
      have f2 := HB.out.hg.frozen (j * 4 + 2)
      have f3 := HB.out.hg.frozen (j * 4 + 3)
      have hgp : ¬ g = p := fun e => HB.out.ne e.symm
      have HOv := hidOf (ovT_set (L := L) (j := j) (by have := hLl.out; omega))
      have Hz := hidOf hz
      clear hz
      go_upto_region 6 with fail
      go_region_held3 (fun w' => w'.cell? ⟨p, 0, none⟩ = some (.slice (some ⟨g, 0, none⟩) m m)) (first | with_reducible exact d0 | with_reducible exact e0 | go_keep) (first | (go_at_call 41; refine (behind_any j (by omega) _).mono ?_; rintro e w2 ⟨rfl, h2⟩; have e0 := cell_later h2 (show (World.drew _).cell? _ = _ from d0); have B2 := hidOf (HB.out.drew.out h2); have C2 := hidOf (HC.out.drew.then_out h2); obtain ⟨x0, x1, x2, x3⟩ := B2.out.hg.cells Hz.out; have g0 := B2.out.hg.frozen (j * 4); have g1 := B2.out.hg.frozen (j * 4 + 1); have g2 := B2.out.hg.frozen (j * 4 + 2); have g3 := B2.out.hg.frozen (j * 4 + 3); clear h2))
      go_wp2
      go_roundw
      case rel =>
        refine ⟨j + 1, by simp, by omega, ?_, ?_⟩
        · have h := B2.out.set hjl.out (40 + (j : Int)) [98, 101, 104, 105, 110, 100] 0 0
          rw [show (⟨40 + (j : Int), [98, 101, 104, 105, 110, 100], 0, 0⟩ : Tk) = behT j from rfl, HOv.out] at h
          exact h
        · exact chg4 C2.out (j * 4) _ _ _ _
      case measure => simp [intOf]; omega
    · have hltI : ¬ (j : Int) < m := by omega
      obtain rfl : j = m := by omega
      have HB2 : Hid (Tb wr p g j (behsT 0 j)) := by
        have h := HB.out
        rw [show ovT j L = behsT 0 j by have := hLl.out; rw [← this]; exact ovT_end L] at h
        exact hidOf h
      obtain ⟨w3, hcp, hR3, hC3⟩ := run_copy_tks wr 3 g j j a l.length cap (behsT 0 j) l HB2.out.hg rfl (HR.out.keep HC.out HNe.out) (by omega) (by rw [behsT_len]; omega)
      have HR3 := hidOf hR3
      have C3 := hidOf (Chg.trans HC.out hC3 (fun x hx _ => .inr hx))
      have B3 : Hid (Tb w3 p g j (l ++ behsT l.length (j - l.length))) := by
        rw [behsT_drop] at hR3
        refine ⟨(hC3.block p HB2.out.ltp HB2.out.ne).trans HB2.out.hp, hR3, ?_⟩
        rw [List.length_append, behsT_len]; omega
      have d3 := B3.out.c0
      have e1 : (l.length : Int) ≤ j := by omega
      clear hR3 hC3
      go_wp2
      go_ret
      exact ⟨rfl, B3.out, C3.out⟩
set_option maxRecDepth 20000 in
set_option maxHeartbeats 3000000 in
theorem lay_new (W : World) (p g m : Nat) (L : List Tk) (h : W.heap[p]? = some (.cells #[.slice none 0 0] 33 (0, 0))) (a : Option Addr) (cap : Nat) (l : List Tk) (hr : TksAt W a l) (hne : ¬ l = [] → ∀ ad, a = some ad → ¬ SL p g ad.block) (hg : g = W.heap.size) (hm0 : m = 4 * l.length + 140) (hL : L = List.replicate m zeroT) (hll : l.length ≤ 100000000000) :
    Calls Tryd.prog 26 #[.pointer (some ⟨p, 0, none⟩), .slice a l.length cap] W fun e w' => LayEnd W p g m l e w' := by
  have hplt : p < W.heap.size := (Array.getElem?_eq_some_iff.1 h).1
  have HR := hidOf hr
  have HNe := hidOf hne
  have c0 : W.cell? ⟨p, 0, none⟩ = some (.slice none 0 0) := by rw [cell_atL h]; rfl
  have f0 : W.frozen? ⟨p, 0, none⟩ = false := frozen_atL h 0
  have hmk : (Instr.makeSlice 30 (.int .i64 (4 * (l.length : Int) + 140)) (.int .i64 (4 * (l.length : Int) + 140))).run Tryd.prog W = .ok (.slice (some ⟨g, 0, none⟩) m m) (W.alloc (.cells (tkV L).toArray 36)) := by
    have := run_make_tks m (by omega) W
    rw [← hL, ← hg, hm0] at this
    simpa [hm0] using this
  have hsm : (0 : Int) < 2 * (l.length : Int) + 70 := by omega
  have hsz : (W.setCell ⟨p, 0, none⟩ (.slice (some ⟨g, 0, none⟩) m m)).heap.size = W.heap.size := by simp [World.setCell]
  have H : Hid (Tb ((W.setCell ⟨p, 0, none⟩ (.slice (some ⟨g, 0, none⟩) m m)).alloc (.cells (tkV L).toArray 36)) p g m (ovT 0 L)) := by
    refine ⟨?_, ?_, by rw [show ovT 0 L = L from rfl, hL]; simp⟩
    · rw [Below.heap_alloc _ _ _ (by rw [hsz]; exact hplt), set_atL h]; rfl
    · have := heap_alloc_new (W.setCell ⟨p, 0, none⟩ (.slice (some ⟨g, 0, none⟩) m m)) (.cells (tkV L).toArray 36)
      rw [hsz, ← hg] at this
      exact this
  have HC0 : Hid (Chg (SL p g) W ((W.setCell ⟨p, 0, none⟩ (.slice (some ⟨g, 0, none⟩) m m)).alloc (.cells (tkV L).toArray 36))) := (Chg.setCell (Chg.refl _ W) (p := ⟨p, 0, none⟩) (.inl rfl) _).alloc _
  have hm : 2 * l.length + 70 ≤ m := by omega
  have hmm : m ≤ 1000000000000 := by omega
  have Hx := hidOf (And.intro hg hm0)
  clear h hr hne hm0 hg hL
  go_enter Tryd.func26, Tryd.ntmps26
  go_upto_region 3 with fail
  generalize (W.setCell ⟨p, 0, none⟩ (.slice (some ⟨g, 0, none⟩) m m)).alloc (.cells (tkV L).toArray 36) = W1 at *
  clear c0 f0 hmk hsm hsz
  have H0 : Hid (L.length = m) := by have h := H.out.len_; exact hidOf h
  go_wp2
  go_loopw [5] (fun kv wr => ∃ j : Nat, kv = .int .i64 j ∧ j ≤ m ∧ Hid (Tb wr p g m (ovT j L)) ∧ Hid (Chg (SL p g) W wr)) (fun kv _ => m - (intOf kv).toNat)
  case atStart => exact ⟨0, rfl, by omega, H, HC0⟩
  case round =>
    obtain ⟨j, rfl, hj, HB, HC⟩ := hrel
    have hLl : Hid (L.length = m) := H0.out
    have d0 := HB.out.c0
    by_cases hlt : j < m
    · have hltI : (j : Int) < m := by omega
      have hjl : Hid (j < (ovT j L).length) := by have := hLl.out; rw [ovT_len (by omega)]; exact hidOf (by omega)
      obtain ⟨z, hz⟩ : ∃ z, (ovT j L)[j]? = some z := ⟨_, List.getElem?_eq_getElem hjl.out⟩
      obtain ⟨y0, y1, y2, y3⟩ := HB.out.hg.cells hz
      have f0 := HB.out.hg.frozen (j * 4)
      have f1 := HB.out.hg.frozen (j * 4 + 1)
      have f2 := HB.out.hg.frozen (j * 4 + 2)
      have f3 := HB.out.hg.frozen (j * 4 + 3)
      have hgp : ¬ g = p := fun e => HB.out.ne e.symm
      have HOv := hidOf (ovT_set (L := L) (j := j) (by have := hLl.out; omega))
      have Hz := hidOf hz
      clear hz
      go_upto_region 6 with fail
      go_region_held3 (fun w' => w'.cell? ⟨p, 0, none⟩ = some (.slice (some ⟨g, 0, none⟩) m m)) (first | with_reducible exact d0 | with_reducible exact e0 | go_keep) (first | (go_at_call 41; refine (behind_any j (by omega) _).mono ?_; rintro e w2 ⟨rfl, h2⟩; have e0 := cell_later h2 (show (World.drew _).cell? _ = _ from d0); have B2 := hidOf (HB.out.drew.out h2); have C2 := hidOf (HC.out.drew.then_out h2); obtain ⟨x0, x1, x2, x3⟩ := B2.out.hg.cells Hz.out; have g0 := B2.out.hg.frozen (j * 4); have g1 := B2.out.hg.frozen (j * 4 + 1); have g2 := B2.out.hg.frozen (j * 4 + 2); have g3 := B2.out.hg.frozen (j * 4 + 3); clear h2))
      go_wp2
      go_roundw
      case rel =>
        refine ⟨j + 1, by simp, by omega, ?_, ?_⟩
        · have h := B2.out.set hjl.out (40 + (j : Int)) [98, 101, 104, 105, 110, 100] 0 0
          rw [show (⟨40 + (j : Int), [98, 101, 104, 105, 110, 100], 0, 0⟩ : Tk) = behT j from rfl, HOv.out] at h
          exact h
        · exact chg4 C2.out (j * 4) _ _ _ _
      case measure => simp [intOf]; omega
    · have hltI : ¬ (j : Int) < m := by omega
      obtain rfl : j = m := by omega
      have HB2 : Hid (Tb wr p g j (behsT 0 j)) := by
        have h := HB.out
        rw [show ovT j L = behsT 0 j by have := hLl.out; rw [← this]; exact ovT_end L] at h
        exact hidOf h
      obtain ⟨w3, hcp, hR3, hC3⟩ := run_copy_tks wr 3 g j j a l.length cap (behsT 0 j) l HB2.out.hg rfl (HR.out.keep HC.out HNe.out) (by omega) (by rw [behsT_len]; omega)
      have HR3 := hidOf hR3
      have C3 := hidOf (Chg.trans HC.out hC3 (fun x hx _ => .inr hx))
      have B3 : Hid (Tb w3 p g j (l ++ behsT l.length (j - l.length))) := by
        rw [behsT_drop] at hR3
        refine ⟨(hC3.block p HB2.out.ltp HB2.out.ne).trans HB2.out.hp, hR3, ?_⟩
        rw [List.length_append, behsT_len]; omega
      have d3 := B3.out.c0
      have e1 : (l.length : Int) ≤ j := by omega
      clear hR3 hC3
      go_wp2
      go_ret
      exact ⟨rfl, B3.out, C3.out⟩
end Go.Proofs.YtfhmhdhaibmcfaaDoor
namespace Go.Proofs.YtfhmhdhaibmcfaaDoor
open Go.RowKit
set_option linter.unusedVariables false
set_option linter.unusedSimpArgs false
set_option maxRecDepth 20000 in
set_option maxHeartbeats 3000000 in
theorem tback_any (w : World) (p g m : Nat) (l : List Tk) (h : Tb w p g m (l ++ behsT l.length (m - l.length))) (a : Option Addr) (cap : Nat) (hr : TksAt w a l) (hmm : m ≤ 1000000000000) (hlm : l.length ≤ m) :
    Calls Tryd.prog 27 #[.pointer (some ⟨p, 0, none⟩), .slice a l.length cap] w fun e w' => e = .returned (.bool true) ∧ (∃ L', Tb w' p g m L') ∧ Chg (SL p g) w w' := by
  have H := hidOf h
  have c0 := h.c0
  have CS := hidOf (sameTokens_any w (some ⟨g, 0, none⟩) a m cap l h.hg.tks hr (by omega))
  have hmI : (l.length : Int) ≤ m := by omega
  clear h hr
  go_enter Tryd.func27, Tryd.ntmps27
  go_upto_region 2 with (go_at_call 16; refine CS.out.mono ?_; rintro e w1 ⟨rfl, ho⟩; have O1 := hidOf ho; clear ho)
  clear c0
  go_wp2
  go_loopw [5, 6] (fun okv kv wr => ∃ j : Nat, okv = .bool true ∧ kv = .int .i64 j ∧ l.length ≤ j ∧ j ≤ m ∧ Hid (Out w wr)) (fun _ kv _ => m - (intOf kv).toNat)
  case atStart => exact ⟨l.length, rfl, rfl, by omega, by omega, O1⟩
  case round =>
    obtain ⟨j, rfl, rfl, hj0, hj, HO⟩ := hrel
    have HB := hidOf (H.out.out HO.out)
    have d0 := HB.out.c0
    by_cases hlt : j < m
    · have hltI : (j : Int) < m := by omega
      have hx : (l ++ behsT l.length (m - l.length))[j]? = some (behT j) := by
        rw [List.getElem?_append_right (by omega), behsT_get (by omega), show l.length + (j - l.length) = j by omega]
      obtain ⟨y0, y1, y2, y3⟩ := HB.out.hg.cells hx
      simp only [behT] at y0 y1 y2 y3
      clear hx
      go_upto_region 5 with fail
      go_region_held3 (fun w' => w'.cell? ⟨p, 0, none⟩ = some (.slice (some ⟨g, 0, none⟩) m m) ∧ w'.cell? ⟨g, j * 4, none⟩ = some (.int .i64 (40 + (j : Int))) ∧ w'.cell? ⟨g, j * 4 + 1, none⟩ = some (.string ⟨#[98, 101, 104, 105, 110, 100]⟩) ∧ w'.cell? ⟨g, j * 4 + 2, none⟩ = some (.int .u64 0) ∧ w'.cell? ⟨g, j * 4 + 3, none⟩ = some (.int .i64 0)) (go_keep) (first | (go_at_call 41; refine (behind_any j (by omega) _).mono ?_; rintro e w2 ⟨rfl, h2⟩; have e0 := cell_later h2 d0; have z0 := cell_later h2 y0; have z1 := cell_later h2 y1; have z2 := cell_later h2 y2; have z3 := cell_later h2 y3))
      go_wp2
      go_roundw
      case rel => exact ⟨j + 1, rfl, by simp, by omega, by omega, hidOf (Out.trans (HO.out.drewN _) h2)⟩
      case measure => simp [intOf]; omega
    · have hltI : ¬ (j : Int) < m := by omega
      go_wp2
      obtain ⟨w2, hw2⟩ : ∃ w2, w2 = wr := ⟨_, rfl⟩
      rw [← hw2] at HB HO
      have Hw2 := hidOf hw2
      clear hw2 d0
      go_loopw [7] (fun kv wr => ∃ (j : Nat) (L : List Tk), kv = .int .i64 j ∧ j ≤ l.length ∧ Hid (Tb wr p g m L) ∧ Hid (Chg (SL p g) w wr)) (fun kv _ => l.length - (intOf kv).toNat)
      case atStart => exact ⟨0, _, rfl, by omega, by rw [← Hw2.out]; exact HB, by rw [← Hw2.out]; exact Chg.of_out HO.out⟩
      case round =>
        clear HB HO Hw2
        obtain ⟨j, L, rfl, hj, HB, HC⟩ := hrel
        have d0 := HB.out.c0
        by_cases hlt : j < l.length
        · have hltI : (j : Int) < l.length := by omega
          have hjl : Hid (j < L.length) := by have := HB.out.len_; exact hidOf (by omega)
          obtain ⟨z, hz⟩ : ∃ z, L[j]? = some z := ⟨_, List.getElem?_eq_getElem hjl.out⟩
          obtain ⟨y0, y1, y2, y3⟩ := HB.out.hg.cells hz
          have f0 := HB.out.hg.frozen (j * 4)
          have f1 := HB.out.hg.frozen (j * 4 + 1)
          have f2 := HB.out.hg.frozen (j * 4 + 2)
          have f3 := HB.out.hg.frozen (j * 4 + 3)
          have hjm : (j : Int) < m := by omega
          clear hz
          go_wp2
          go_roundw
          case rel => exact ⟨j + 1, _, by simp, by omega, hidOf (HB.out.set hjl.out 39 [] 0 0), hidOf (chg4 HC.out (j * 4) _ _ _ _)⟩
          case measure => simp [intOf]; omega
        · have hltI : ¬ (j : Int) < l.length := by omega
          go_wp2
          go_ret
          exact ⟨rfl, ⟨_, HB.out⟩, HC.out⟩
end Go.Proofs.YtfhmhdhaibmcfaaDoor
namespace Go.Proofs.YtfhmhdhaibmcfaaDoor
open Go.RowKit
set_option linter.unusedVariables false
set_option linter.unusedSimpArgs false
/-- the tray: new, or with a list that is long enough -/
def TS (w : World) (p B n : Nat) : Prop := w.heap[p]? = some (.cells #[.slice none 0 0] 33 (0, 0)) ∨ ∃ g m L, Tb w p g m L ∧ B ≤ g ∧ 2 * n + 70 ≤ m ∧ m ≤ 1000000000000
theorem TS.lt {w : World} {p B n : Nat} (h : TS w p B n) : p < w.heap.size := by
  rcases h with h | ⟨g, m, L, h, _⟩
  · exact (Array.getElem?_eq_some_iff.1 h).1
  · exact h.ltp
theorem TS.out {w w' : World} {p B n : Nat} (h : TS w p B n) (o : Out w w') : TS w' p B n := by
  have hl := h.lt
  rcases h with h | ⟨g, m, L, h, hg, hm⟩
  · exact .inl ((o.block p hl).trans h)
  · exact .inr ⟨g, m, L, h.out o, hg, hm⟩
/-- tokens that lie apart from the tray -/
def ApT (w : World) (p : Nat) (a : Option Addr) (l : List Tk) : Prop := ¬ l = [] → ∀ ad, a = some ad → ad.block < w.heap.size ∧ ¬ ad.block = p ∧ ∀ g m L, Tb w p g m L → ¬ ad.block = g
theorem ApT.out {w w' : World} {p B n : Nat} {a : Option Addr} {l : List Tk} (h : ApT w p a l) (s : TS w p B n) (o : Out w w') : ApT w' p a l := fun hl ad ha => by
  refine ⟨Nat.lt_of_lt_of_le (h hl ad ha).1 o.size, (h hl ad ha).2.1, fun g m L hb => ?_⟩
  rcases s with s | ⟨g1, m1, L1, s, _⟩
  · have h1 := hb.hp
    rw [(o.block p (Array.getElem?_eq_some_iff.1 s).1).trans s] at h1
    simp at h1
  · have h1 := hb.hp
    rw [(s.out o).hp] at h1
    simp at h1
    rw [← h1.1]
    exact (h hl ad ha).2.2 _ _ _ s
theorem lay_any (w : World) (p B : Nat) (a : Option Addr) (cap : Nat) (l : List Tk) (hs : TS w p B l.length) (hB : B ≤ w.heap.size) (hr : TksAt w a l) (ha : ApT w p a l) (hll : l.length ≤ 100000000000) :
    Calls Tryd.prog 26 #[.pointer (some ⟨p, 0, none⟩), .slice a l.length cap] w fun e w' => ∃ g m, e = .returned (.slice (some ⟨g, 0, none⟩) l.length m) ∧ Tb w' p g m (l ++ behsT l.length (m - l.length)) ∧ Chg (SL p g) w w' ∧ B ≤ g ∧ 2 * l.length + 70 ≤ m ∧ m ≤ 1000000000000 ∧ (¬ l = [] → ∀ ad, a = some ad → ¬ SL p g ad.block) := by
  rcases hs with hs | ⟨g, m, L, hs, hg, hm, hmm⟩
  · have hne : ¬ l = [] → ∀ ad, a = some ad → ¬ SL p w.heap.size ad.block := fun h ad had hsl => by
      rcases hsl with e | e
      · exact (ha h ad had).2.1 e
      · have := (ha h ad had).1; omega
    refine (lay_new w p w.heap.size (4 * l.length + 140) (List.replicate (4 * l.length + 140) zeroT) hs a cap l hr hne rfl rfl rfl hll).mono ?_
    rintro e w' ⟨he, hb, hc⟩
    exact ⟨_, _, he, hb, hc, hB, by omega, by omega, hne⟩
  · have hne : ¬ l = [] → ∀ ad, a = some ad → ¬ SL p g ad.block := fun h ad had hsl => by
      rcases hsl with e | e
      · exact (ha h ad had).2.1 e
      · exact (ha h ad had).2.2 _ _ _ hs e
    refine (lay_again w p g m L hs a cap l hr hne hm hmm).mono ?_
    rintro e w' ⟨he, hb, hc⟩
    exact ⟨_, _, he, hb, hc, hg, hm, hmm, hne⟩
theorem Chg.tray {p g B : Nat} {w0 w w' : World} (c : Chg (SL p g) w w') (o : Out w0 w) (hB : B = w0.heap.size) (hp : B ≤ p) (hg : B ≤ g) : Out w0 w' :=
  Chg.out c o (fun k hk => by rcases hk with e | e <;> omega)
set_option maxRecDepth 20000 in
set_option maxHeartbeats 400000 in
theorem laid_any (w0 w : World) (hE : LEnv w0) (ho : Out w0 w) (p B : Nat) (hB : B = w0.heap.size) (hp : B ≤ p) (a : Option Addr) (cap : Nat) (l : List Tk) (hr : TksAt w a l) (hn : NumsOk l) (hs : TS w p B l.length) (ha : ApT w p a l) (hll : l.length ≤ 1000000000) :
    Calls Tryd.prog 12 #[.pointer (some ⟨p, 0, none⟩), .slice a l.length cap] w fun e w' => e = .returned (.bool true) ∧ TS w' p B l.length ∧ Out w0 w' := by
  have CR := hidOf (refUntoken_any w (hE.out ho).2 a cap l hr hll hn)
  unfold UnEnd at CR
  have CU : Hid (∀ wx b cp, Out w0 wx → TksAt wx b l → Calls Tryd.prog 20 #[.slice b l.length cp] wx fun e w' => e = .returned (.tuple #[.string ⟨(untokP l).1.toArray⟩, .int .i64 (untokP l).2]) ∧ Out wx w') := fun wx b cp h0 h1 => untoken_any wx (hE.out h0).2 b cp l h1 (by omega) hn
  have CB : Hid (∀ wx g m, Tb wx p g m (l ++ behsT l.length (m - l.length)) → TksAt wx a l → m ≤ 1000000000000 → l.length ≤ m → Calls Tryd.prog 27 #[.pointer (some ⟨p, 0, none⟩), .slice a l.length cap] wx fun e w' => e = .returned (.bool true) ∧ (∃ L', Tb w' p g m L') ∧ Chg (SL p g) wx w') := fun wx g m h1 h2 h3 h4 => tback_any wx p g m l h1 a cap h2 h3 h4
  have HO := hidOf ho
  have HR := hidOf hr
  have HS := hidOf hs
  have HA := hidOf ha
  have Hsz := hidOf hB
  have hB1 : Hid (B ≤ w.heap.size) := by have := ho.size; show B ≤ _; omega
  clear hE ho hr hs ha hB hn
  obtain ⟨U, E, hU⟩ : ∃ U E, untokP l = (U, E) := ⟨_, _, rfl⟩
  rw [hU] at CR CU
  simp only at CR CU
  clear hU
  go_enter Tryd.func12, Tryd.ntmps12
  go_upto_region 2 with (go_at_call 25; refine CR.out.mono ?_; rintro e w2 ⟨rfl, ho⟩; have P2 := hidOf ho; clear ho)
  have S2 := hidOf (HS.out.out P2.out)
  have A2 := hidOf (HA.out.out HS.out P2.out)
  have R2 := hidOf (HR.out.out P2.out)
  have O2 := hidOf (Out.trans HO.out P2.out)
  have CLd := hidOf (lay_any w2 p B a cap l S2.out (by have := P2.out.size; have := hB1.out; omega) R2.out A2.out (by omega))
  go_upto_region 3 with (first | (go_at_call 26; refine CLd.out.mono ?_; rintro e w3 ⟨g, m, rfl, hb3, hc3, hg3, hm3, hmm3, hne⟩; have B3 := hidOf hb3; have O3 := hidOf (Chg.tray hc3 O2.out Hsz.out hp hg3); have R3 := hidOf (R2.out.keep hc3 hne); clear hb3 hc3 hne) | (go_at_call 20; refine (CU.out w3 _ _ O3.out B3.out.hg.tks).mono ?_; rintro e w4 ⟨rfl, ho⟩; have P4 := hidOf ho; clear ho))
  have B4 := hidOf (B3.out.out P4.out)
  have R4 := hidOf (R3.out.out P4.out)
  have O4 := hidOf (Out.trans O3.out P4.out)
  go_upto_region 4 with (go_at_call 27; refine (CB.out w4 g m B4.out R4.out hmm3 (by omega)).mono ?_; rintro e w5 ⟨rfl, ⟨L5, hb5⟩, hc5⟩; have B5 := hidOf hb5; have O5 := hidOf (Chg.tray hc5 O4.out Hsz.out hp hg3); clear hb5 hc5)
  go_wp2_with (go_at_call 17; refine (refNum_any _ _).mono ?_; rintro e w7 ⟨rfl, hw⟩; have hw := hw.symm; subst hw)
  go_ret
  exact ⟨rfl, .inr ⟨g, m, _, B5.out, hg3, hm3, hmm3⟩, O5.out⟩
set_option maxRecDepth 20000 in
set_option maxHeartbeats 1000000 in
theorem lexUntokens_walk (w : World) (hE : LEnv w) (a : Option Addr) (cap : Nat) (l : List Tk) (hr : TksAt w a l) (hn : NumsOk l) (hll : l.length ≤ 1000000000) :
    Calls Tryd.prog 4 #[.slice a l.length cap] w fun e w' => e = .returned (.bool true) ∧ Out w w' := by
  have CA : Hid (∀ wx, Out w wx → Calls Tryd.prog 11 #[] wx fun e w' => e = .returned (.bool true) ∧ Out wx w') := fun wx ho => awake_any wx (hE.out ho)
  obtain ⟨B, hB⟩ : ∃ B, B = w.heap.size := ⟨_, rfl⟩
  have S1 : Hid (TS (w.alloc (.cells #[.slice none 0 0] 33)) B B l.length) := .inl (by rw [hB]; exact heap_alloc_new w _)
  have CC : Hid (∀ wx b c O, O.length = l.length → NumsOk O → Out w wx → TksAt wx b O → TS wx B B l.length → ApT wx B b O → Calls Tryd.prog 12 #[.pointer (some ⟨B, 0, none⟩), .slice b l.length c] wx fun e w' => e = .returned (.bool true) ∧ TS w' B B l.length ∧ Out w w') := fun wx b c O hO hn ho h1 h2 h3 => by
    have := laid_any w wx hE ho B B hB (Nat.le_refl _) b c O h1 hn (by rw [hO]; exact h2) h3 (by omega)
    rw [hO] at this
    exact this
  have HR := hidOf hr
  have HN := hidOf hn
  have HB := hidOf hB
  have O1 := hidOf ((Out.refl w).alloc (.cells #[.slice none 0 0] 33))
  have AX : Hid (∀ wx, Out w wx → TS wx B B l.length → ApT wx B a l) := fun wx ho hs hl ad had => by
    have hlt : ad.block < w.heap.size := by
      rcases hr with h | ⟨b, o, h, hc⟩
      · exact absurd h hl
      · rw [h] at had; cases had
        obtain ⟨x, hx⟩ : ∃ x, l[0]? = some x := ⟨_, List.getElem?_eq_getElem (List.length_pos_iff.2 hl)⟩
        exact World.block_lt_of_cell? w _ (hc 0 x hx).1
    refine ⟨Nat.lt_of_lt_of_le hlt ho.size, by omega, fun g m L hb => ?_⟩
    rcases hs with s | ⟨g1, m1, L1, s, hg, _⟩
    · have h1 := hb.hp
      rw [s] at h1; simp at h1
    · have h1 := hb.hp
      rw [s.hp] at h1
      simp at h1
      omega
  have A1 : Hid (∀ wx O b c, Out (w.alloc (.cells #[.slice none 0 0] 33)) wx → OwT (w.alloc (.cells #[.slice none 0 0] 33)).heap.size (.slice b O.length c) O wx → ApT wx B b O) := fun wx O b c ho hown hl ad had => by
    have hbk := World.ownsRow.lt hown ad.block (by rw [had]; rfl)
    rw [size_alloc] at hbk
    refine ⟨hbk.2, by omega, fun g m L hb => ?_⟩
    have h1 := hb.hp
    have h0 := heap_alloc_new w (.cells #[.slice none 0 0] 33)
    rw [hB, ho.block w.heap.size (by rw [size_alloc]; omega), h0] at h1
    simp at h1
  obtain ⟨i1, hi', hy0, hy1, hy2⟩ := info_parts infoTk
  clear hE hr hn hB
  go_enter Tryd.func4, Tryd.ntmps4
  go_upto_region 2 with fail
  rw [← HB.out]
  generalize w.alloc (.cells #[.slice none 0 0] 33) = w1 at *
  go_wp2
  go_loopw [4, 5] (fun ov iv wr => ∃ (i : Nat) (T : List Tk) (al : Option Addr) (cl : Nat), ov = .slice al T.length cl ∧ iv = .int .i64 i ∧ i ≤ l.length ∧ T.length = i ∧ Hid (NumsOk T) ∧ Hid (OwT w1.heap.size (.slice al T.length cl) T wr) ∧ Hid (Out w1 wr)) (fun _ iv _ => l.length - (intOf iv).toNat)
  case atStart => exact ⟨0, [], none, 0, rfl, rfl, by omega, rfl, hidOf (fun x hx => by cases hx), hidOf (World.ownsRow_nil _ _ _ _), hidOf (Out.refl w1)⟩
  case round =>
    obtain ⟨i, T, al, cl, rfl, rfl, hi, hTl, HNT, HOT, HO⟩ := hrel
    by_cases hlt : i < l.length
    · have hltI : (i : Int) < l.length := by omega
      obtain ⟨x, hx⟩ : ∃ x, l[i]? = some x := ⟨_, List.getElem?_eq_getElem hlt⟩
      obtain ⟨b, o, rfl, hc⟩ := HR.out.at (fun e => by rw [e] at hlt; simp at hlt)
      obtain ⟨q0, q1, q2, q3⟩ := hc i x hx
      have OW := Out.trans O1.out HO.out
      have q0 := cell_later OW q0
      have q1 := cell_later OW q1
      have q2 := cell_later OW q2
      have q3 := cell_later OW q3
      have hxn := HN.out x (List.mem_of_getElem? hx)
      obtain ⟨k, t, n, ln⟩ := x
      simp only at q0 q1 q2 q3 hxn
      obtain ⟨hn0, hn1, htl⟩ := hxn
      clear hc hx OW
      by_cases k3 : k = 3
      · subst k3
        by_cases hmax : n = 18446744073709551615
        · subst hmax
          have hwr : IntKind.u64.wrap 18446744073709551616 = 0 := by rfl
          go_upto_region 11 with fail
          have HO4 := hidOf ((Out.refl wr).alloc (.cells #[.int .i64 3, .string ⟨(t : List UInt8).toArray⟩, .int .u64 0, .int .i64 ln] 36))
          have c0 : (wr.alloc (.cells #[.int .i64 3, .string ⟨(t : List UInt8).toArray⟩, .int .u64 0, .int .i64 ln] 36)).cell? ⟨wr.heap.size, 0, none⟩ = some (.int .i64 3) := by rw [cell_fresh _ _ _ _ _ rfl]; rfl
          have c1 : (wr.alloc (.cells #[.int .i64 3, .string ⟨(t : List UInt8).toArray⟩, .int .u64 0, .int .i64 ln] 36)).cell? ⟨wr.heap.size, 1, none⟩ = some (.string ⟨(t : List UInt8).toArray⟩) := by rw [cell_fresh _ _ _ _ _ rfl]; rfl
          have c2 : (wr.alloc (.cells #[.int .i64 3, .string ⟨(t : List UInt8).toArray⟩, .int .u64 0, .int .i64 ln] 36)).cell? ⟨wr.heap.size, 2, none⟩ = some (.int .u64 0) := by rw [cell_fresh _ _ _ _ _ rfl]; rfl
          have c3 : (wr.alloc (.cells #[.int .i64 3, .string ⟨(t : List UInt8).toArray⟩, .int .u64 0, .int .i64 ln] 36)).cell? ⟨wr.heap.size, 3, none⟩ = some (.int .i64 ln) := by rw [cell_fresh _ _ _ _ _ rfl]; rfl
          generalize wr.alloc (.cells #[.int .i64 3, .string ⟨(t : List UInt8).toArray⟩, .int .u64 0, .int .i64 ln] 36) = W at *
          generalize wr.heap.size = Bk at *
          have O4 := hidOf (Out.trans HO.out HO4.out)
          have HOT4 := hidOf (HOT.out.out HO4.out)
          obtain ⟨T2, hT2⟩ : ∃ T2, T2 = T ++ [⟨3, t, 0, ln⟩] := ⟨_, rfl⟩
          have hT2l : T2.length = T.length + 1 := by rw [hT2]; simp
          have HNT2 : Hid (NumsOk T2) := fun y hy => by
            rw [hT2] at hy
            rcases List.mem_append.1 hy with h | h
            · exact HNT.out y h
            · simp at h; rw [h]; exact ⟨by simp only; omega, by simp only; omega, by simp; try omega⟩
          have HT2 := hidOf hT2
          have HT2l := hidOf hT2l
          have HTl := hidOf hTl
          clear hT2 hT2l hTl
          go_wp2_with (at_builtin; refine wpList_append_own _ rfl (.tmp 30) (.tmp 32) 30 rfl w1.heap.size 36 i1 _ 4 40 Tryd.underlying30 hi' hy0 hy1 hy2 rfl (by decide) (.slice al T.length cl) T.length (tkV T) rfl (HOT4.out.out ((Out.refl W).alloc _)) ⟨W.heap.size, 0, none⟩ 1 1 (Tk.cs ⟨3, t, 0, ln⟩) rfl rfl (news_new W _ _ _ rfl) (tk_one _) (by unfold maxLen; have := HTl.out; omega) (by have := HTl.out; omega) (by have := O4.out.size; rw [size_alloc]; omega) ?_; intro v' w6 hown' hgrow _; have O6 := hidOf (out_own rfl (HOT4.out.out ((Out.refl W).alloc _)) (O4.out.alloc _) hgrow); have HN6 : Hid (OwT w1.heap.size v' T2 w6) := OwT.mk (P := [⟨3, t, 0, ln⟩]) (by rw [tkV_sing]; exact hown') HT2.out HT2l.out.symm; obtain ⟨g6, c6, rfl⟩ : ∃ ad cp, v' = .slice ad T2.length cp := own_form HN6.out; clear hown' hgrow)
          go_roundw
          case rel => exact ⟨i + 1, T2, g6, c6, rfl, by simp, by omega, by have := HT2l.out; have := HTl.out; omega, HNT2, HN6, O6⟩
          case measure => simp [intOf]; omega
        · have hn2 : n + 1 < 18446744073709551616 := by omega
          go_upto_region 11 with fail
          have HO4 := hidOf ((Out.refl wr).alloc (.cells #[.int .i64 3, .string ⟨(t : List UInt8).toArray⟩, .int .u64 (n + 1), .int .i64 ln] 36))
          have c0 : (wr.alloc (.cells #[.int .i64 3, .string ⟨(t : List UInt8).toArray⟩, .int .u64 (n + 1), .int .i64 ln] 36)).cell? ⟨wr.heap.size, 0, none⟩ = some (.int .i64 3) := by rw [cell_fresh _ _ _ _ _ rfl]; rfl
          have c1 : (wr.alloc (.cells #[.int .i64 3, .string ⟨(t : List UInt8).toArray⟩, .int .u64 (n + 1), .int .i64 ln] 36)).cell? ⟨wr.heap.size, 1, none⟩ = some (.string ⟨(t : List UInt8).toArray⟩) := by rw [cell_fresh _ _ _ _ _ rfl]; rfl
          have c2 : (wr.alloc (.cells #[.int .i64 3, .string ⟨(t : List UInt8).toArray⟩, .int .u64 (n + 1), .int .i64 ln] 36)).cell? ⟨wr.heap.size, 2, none⟩ = some (.int .u64 (n + 1)) := by rw [cell_fresh _ _ _ _ _ rfl]; rfl
          have c3 : (wr.alloc (.cells #[.int .i64 3, .string ⟨(t : List UInt8).toArray⟩, .int .u64 (n + 1), .int .i64 ln] 36)).cell? ⟨wr.heap.size, 3, none⟩ = some (.int .i64 ln) := by rw [cell_fresh _ _ _ _ _ rfl]; rfl
          generalize wr.alloc (.cells #[.int .i64 3, .string ⟨(t : List UInt8).toArray⟩, .int .u64 (n + 1), .int .i64 ln] 36) = W at *
          generalize wr.heap.size = Bk at *
          have O4 := hidOf (Out.trans HO.out HO4.out)
          have HOT4 := hidOf (HOT.out.out HO4.out)
          obtain ⟨T2, hT2⟩ : ∃ T2, T2 = T ++ [⟨3, t, (n + 1), ln⟩] := ⟨_, rfl⟩
          have hT2l : T2.length = T.length + 1 := by rw [hT2]; simp
          have HNT2 : Hid (NumsOk T2) := fun y hy => by
            rw [hT2] at hy
            rcases List.mem_append.1 hy with h | h
            · exact HNT.out y h
            · simp at h; rw [h]; exact ⟨by simp only; omega, by simp only; omega, by simp; try omega⟩
          have HT2 := hidOf hT2
          have HT2l := hidOf hT2l
          have HTl := hidOf hTl
          clear hT2 hT2l hTl
          go_wp2_with (at_builtin; refine wpList_append_own _ rfl (.tmp 30) (.tmp 32) 30 rfl w1.heap.size 36 i1 _ 4 40 Tryd.underlying30 hi' hy0 hy1 hy2 rfl (by decide) (.slice al T.length cl) T.length (tkV T) rfl (HOT4.out.out ((Out.refl W).alloc _)) ⟨W.heap.size, 0, none⟩ 1 1 (Tk.cs ⟨3, t, (n + 1), ln⟩) rfl rfl (news_new W _ _ _ rfl) (tk_one _) (by unfold maxLen; have := HTl.out; omega) (by have := HTl.out; omega) (by have := O4.out.size; rw [size_alloc]; omega) ?_; intro v' w6 hown' hgrow _; have O6 := hidOf (out_own rfl (HOT4.out.out ((Out.refl W).alloc _)) (O4.out.alloc _) hgrow); have HN6 : Hid (OwT w1.heap.size v' T2 w6) := OwT.mk (P := [⟨3, t, (n + 1), ln⟩]) (by rw [tkV_sing]; exact hown') HT2.out HT2l.out.symm; obtain ⟨g6, c6, rfl⟩ : ∃ ad cp, v' = .slice ad T2.length cp := own_form HN6.out; clear hown' hgrow)
          go_roundw
          case rel => exact ⟨i + 1, T2, g6, c6, rfl, by simp, by omega, by have := HT2l.out; have := HTl.out; omega, HNT2, HN6, O6⟩
          case measure => simp [intOf]; omega
      · have j3 : (k == 3) = false := by simpa using k3
        by_cases k1 : k = 1
        · subst k1
          go_upto_region 11 with fail
          have HO4 := hidOf ((Out.refl wr).alloc (.cells #[.int .i64 1, .string ⟨([119] : List UInt8).toArray⟩, .int .u64 n, .int .i64 ln] 36))
          have c0 : (wr.alloc (.cells #[.int .i64 1, .string ⟨([119] : List UInt8).toArray⟩, .int .u64 n, .int .i64 ln] 36)).cell? ⟨wr.heap.size, 0, none⟩ = some (.int .i64 1) := by rw [cell_fresh _ _ _ _ _ rfl]; rfl
          have c1 : (wr.alloc (.cells #[.int .i64 1, .string ⟨([119] : List UInt8).toArray⟩, .int .u64 n, .int .i64 ln] 36)).cell? ⟨wr.heap.size, 1, none⟩ = some (.string ⟨([119] : List UInt8).toArray⟩) := by rw [cell_fresh _ _ _ _ _ rfl]; rfl
          have c2 : (wr.alloc (.cells #[.int .i64 1, .string ⟨([119] : List UInt8).toArray⟩, .int .u64 n, .int .i64 ln] 36)).cell? ⟨wr.heap.size, 2, none⟩ = some (.int .u64 n) := by rw [cell_fresh _ _ _ _ _ rfl]; rfl
          have c3 : (wr.alloc (.cells #[.int .i64 1, .string ⟨([119] : List UInt8).toArray⟩, .int .u64 n, .int .i64 ln] 36)).cell? ⟨wr.heap.size, 3, none⟩ = some (.int .i64 ln) := by rw [cell_fresh _ _ _ _ _ rfl]; rfl
          generalize wr.alloc (.cells #[.int .i64 1, .string ⟨([119] : List UInt8).toArray⟩, .int .u64 n, .int .i64 ln] 36) = W at *
          generalize wr.heap.size = Bk at *
          have O4 := hidOf (Out.trans HO.out HO4.out)
          have HOT4 := hidOf (HOT.out.out HO4.out)
          obtain ⟨T2, hT2⟩ : ∃ T2, T2 = T ++ [⟨1, [119], n, ln⟩] := ⟨_, rfl⟩
          have hT2l : T2.length = T.length + 1 := by rw [hT2]; simp
          have HNT2 : Hid (NumsOk T2) := fun y hy => by
            rw [hT2] at hy
            rcases List.mem_append.1 hy with h | h
            · exact HNT.out y h
            · simp at h; rw [h]; exact ⟨by simp only; omega, by simp only; omega, by simp; try omega⟩
          have HT2 := hidOf hT2
          have HT2l := hidOf hT2l
          have HTl := hidOf hTl
          clear hT2 hT2l hTl
          go_wp2_with (at_builtin; refine wpList_append_own _ rfl (.tmp 30) (.tmp 32) 30 rfl w1.heap.size 36 i1 _ 4 40 Tryd.underlying30 hi' hy0 hy1 hy2 rfl (by decide) (.slice al T.length cl) T.length (tkV T) rfl (HOT4.out.out ((Out.refl W).alloc _)) ⟨W.heap.size, 0, none⟩ 1 1 (Tk.cs ⟨1, [119], n, ln⟩) rfl rfl (news_new W _ _ _ rfl) (tk_one _) (by unfold maxLen; have := HTl.out; omega) (by have := HTl.out; omega) (by have := O4.out.size; rw [size_alloc]; omega) ?_; intro v' w6 hown' hgrow _; have O6 := hidOf (out_own rfl (HOT4.out.out ((Out.refl W).alloc _)) (O4.out.alloc _) hgrow); have HN6 : Hid (OwT w1.heap.size v' T2 w6) := OwT.mk (P := [⟨1, [119], n, ln⟩]) (by rw [tkV_sing]; exact hown') HT2.out HT2l.out.symm; obtain ⟨g6, c6, rfl⟩ : ∃ ad cp, v' = .slice ad T2.length cp := own_form HN6.out; clear hown' hgrow)
          go_roundw
          case rel => exact ⟨i + 1, T2, g6, c6, rfl, by simp, by omega, by have := HT2l.out; have := HTl.out; omega, HNT2, HN6, O6⟩
          case measure => simp [intOf]; omega
        · have j1 : (k == 1) = false := by simpa using k1
          go_upto_region 11 with fail
          have HO4 := hidOf ((Out.refl wr).alloc (.cells #[.int .i64 k, .string ⟨(t : List UInt8).toArray⟩, .int .u64 n, .int .i64 ln] 36))
          have c0 : (wr.alloc (.cells #[.int .i64 k, .string ⟨(t : List UInt8).toArray⟩, .int .u64 n, .int .i64 ln] 36)).cell? ⟨wr.heap.size, 0, none⟩ = some (.int .i64 k) := by rw [cell_fresh _ _ _ _ _ rfl]; rfl
          have c1 : (wr.alloc (.cells #[.int .i64 k, .string ⟨(t : List UInt8).toArray⟩, .int .u64 n, .int .i64 ln] 36)).cell? ⟨wr.heap.size, 1, none⟩ = some (.string ⟨(t : List UInt8).toArray⟩) := by rw [cell_fresh _ _ _ _ _ rfl]; rfl
          have c2 : (wr.alloc (.cells #[.int .i64 k, .string ⟨(t : List UInt8).toArray⟩, .int .u64 n, .int .i64 ln] 36)).cell? ⟨wr.heap.size, 2, none⟩ = some (.int .u64 n) := by rw [cell_fresh _ _ _ _ _ rfl]; rfl
          have c3 : (wr.alloc (.cells #[.int .i64 k, .string ⟨(t : List UInt8).toArray⟩, .int .u64 n, .int .i64 ln] 36)).cell? ⟨wr.heap.size, 3, none⟩ = some (.int .i64 ln) := by rw [cell_fresh _ _ _ _ _ rfl]; rfl
          generalize wr.alloc (.cells #[.int .i64 k, .string ⟨(t : List UInt8).toArray⟩, .int .u64 n, .int .i64 ln] 36) = W at *
          generalize wr.heap.size = Bk at *
          have O4 := hidOf (Out.trans HO.out HO4.out)
          have HOT4 := hidOf (HOT.out.out HO4.out)
          obtain ⟨T2, hT2⟩ : ∃ T2, T2 = T ++ [⟨k, t, n, ln⟩] := ⟨_, rfl⟩
          have hT2l : T2.length = T.length + 1 := by rw [hT2]; simp
          have HNT2 : Hid (NumsOk T2) := fun y hy => by
            rw [hT2] at hy
            rcases List.mem_append.1 hy with h | h
            · exact HNT.out y h
            · simp at h; rw [h]; exact ⟨by simp only; omega, by simp only; omega, by simp; try omega⟩
          have HT2 := hidOf hT2
          have HT2l := hidOf hT2l
          have HTl := hidOf hTl
          clear hT2 hT2l hTl
          go_wp2_with (at_builtin; refine wpList_append_own _ rfl (.tmp 30) (.tmp 32) 30 rfl w1.heap.size 36 i1 _ 4 40 Tryd.underlying30 hi' hy0 hy1 hy2 rfl (by decide) (.slice al T.length cl) T.length (tkV T) rfl (HOT4.out.out ((Out.refl W).alloc _)) ⟨W.heap.size, 0, none⟩ 1 1 (Tk.cs ⟨k, t, n, ln⟩) rfl rfl (news_new W _ _ _ rfl) (tk_one _) (by unfold maxLen; have := HTl.out; omega) (by have := HTl.out; omega) (by have := O4.out.size; rw [size_alloc]; omega) ?_; intro v' w6 hown' hgrow _; have O6 := hidOf (out_own rfl (HOT4.out.out ((Out.refl W).alloc _)) (O4.out.alloc _) hgrow); have HN6 : Hid (OwT w1.heap.size v' T2 w6) := OwT.mk (P := [⟨k, t, n, ln⟩]) (by rw [tkV_sing]; exact hown') HT2.out HT2l.out.symm; obtain ⟨g6, c6, rfl⟩ : ∃ ad cp, v' = .slice ad T2.length cp := own_form HN6.out; clear hown' hgrow)
          go_roundw
          case rel => exact ⟨i + 1, T2, g6, c6, rfl, by simp, by omega, by have := HT2l.out; have := HTl.out; omega, HNT2, HN6, O6⟩
          case measure => simp [intOf]; omega
    · have hltI : ¬ (i : Int) < l.length := by omega
      have hil : T.length = l.length := by omega
      have A2 := hidOf (A1.out wr T al cl HO.out HOT.out)
      obtain ⟨ta, tc, het, _, htt⟩ := owns_tks HOT.out
      simp only [Value.slice.injEq] at het
      obtain ⟨rfl, _, rfl⟩ := het
      have R2 := hidOf htt
      have S2 := hidOf (S1.out.out HO.out)
      have O2 := hidOf (Out.trans O1.out HO.out)
      have Hil := hidOf hil
      rw [hil]
      clear hTl hil htt HOT
      go_wp2_with (first
        | (go_at_call 12; refine (CC.out w4 a cap l rfl HN.out O4.out (HR.out.out O4.out) S4.out (AX.out w4 O4.out S4.out)).mono ?_; rintro e w5 ⟨rfl, hs, ho⟩; have O5 := hidOf ho; clear hs ho)
        | (go_at_call 12; refine (CC.out w3 a cap l rfl HN.out O3.out (HR.out.out O3.out) S3.out (AX.out w3 O3.out S3.out)).mono ?_; rintro e w4 ⟨rfl, hs, ho⟩; have O4 := hidOf ho; have S4 := hidOf hs; clear hs ho)
        | (go_at_call 12; refine (CC.out wr al cl T Hil.out HNT.out O2.out R2.out S2.out A2.out).mono ?_; rintro e w3 ⟨rfl, hs, ho⟩; have O3 := hidOf ho; have S3 := hidOf hs; clear hs ho)
        | (go_at_call 11; refine (CA.out w5 O5.out).mono ?_; rintro e w6 ⟨rfl, ho⟩; have O6 := hidOf (Out.trans O5.out ho); clear ho))
      go_ret
      exact ⟨rfl, O6.out⟩
end Go.Proofs.YtfhmhdhaibmcfaaDoor
