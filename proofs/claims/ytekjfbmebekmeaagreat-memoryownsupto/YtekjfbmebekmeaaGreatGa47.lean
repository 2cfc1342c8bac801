import Derived.Test.YtekjfbmebekmeaaGreatGa46
namespace Go.Proofs.YtekjfbmebekmeaaGreat
open Go.RowKit
open Bo
set_option linter.unusedVariables false
set_option linter.unusedSimpArgs false
theorem run_append_or {w : World} (base : Nat) (ty : TypeId) (v : Value) (n : Nat) (xs : List Value) (hown : w.ownsRow base 36 2 v n xs) (a : Addr) (c : Nat) (news : List Value) (hl : news.length = 2) (hnews : ∀ j u, news[j]? = some u → w.cell? (a.add j) = some u) (h1 : ∀ u ∈ news, u.oneCell' = true) (hn : n ≤ 1000000000000) (hbase : base ≤ w.heap.size) :
    ∃ v' w', (Builtin.append_ #[22, 22] ty #[v, .slice (some a) 1 c]).run Tryz.prog w = .ok v' w' ∧ w'.ownsRow base 36 2 v' (n + 1) (xs ++ news) ∧ w.grownBy w' v.ownBlock ∧ (v'.ownBlock = v.ownBlock ∨ (v'.ownBlock = some w.heap.size ∧ ∀ k, k < w.heap.size → w'.heap[k]? = w.heap[k]?)) := by
  obtain ⟨i0, hi0, hz0, hz1, hz2⟩ := info_parts infoR
  obtain ⟨v', w', hr, ho, hg, -, hb⟩ := run_append_own_at (P := Tryz.prog) (w := w) base 22 ty 36 i0 _ 2 32 Tryz.underlying22 hi0 hz0 hz1 hz2 rfl (by decide) v n xs hown a 1 c news (by omega) hnews h1 (by simp only [maxLen]; omega) (by omega) hbase
  refine ⟨v', w', hr, ho, hg, ?_⟩
  have hl2 : news.length = 1 * i0.size := by rw [hz1]; omega
  rcases hown.2 with ⟨rfl, rfl⟩ | ⟨g, cap, cur, rfl, hbg, hgh, hnc, hcm, hcs, htake⟩
  · have hr2 := run_append_nil (P := Tryz.prog) w 22 ty 36 i0 _ Tryz.underlying22 hi0 hz0 a 1 c news hl2 hnews (by omega) (by omega) (by rw [hz2]; omega)
    rw [hr] at hr2
    injection hr2 with e1 e2
    subst e1 e2
    exact .inr ⟨rfl, fun k hk => Below.heap_alloc w.drew _ k hk⟩
  · by_cases hroom : n + 1 ≤ cap
    · have hr2 := run_append_room (P := Tryz.prog) w 22 ty 36 i0 Tryz.underlying22 hi0 g n cap cur hgh a 1 c news hl2 hnews h1 hroom (by rw [hz1]; omega)
      rw [hr] at hr2
      injection hr2 with e1 e2
      subst e1 e2
      exact .inl rfl
    · have holds : ∀ j u, xs[j]? = some u → w.cell? ((⟨g, 0, none⟩ : Addr).add j) = some u := hown.cells (g := g) rfl
      have hr2 := run_append_grow (P := Tryz.prog) w 22 ty 36 i0 _ Tryz.underlying22 hi0 hz0 ⟨g, 0, none⟩ n cap xs (by rw [hz1]; exact hown.1) holds a 1 c news hl2 hnews (by omega) (by omega) (growslice_fits (by omega) (by rw [hz2]; omega))
      rw [hr] at hr2
      injection hr2 with e1 e2
      subst e1 e2
      exact .inr ⟨rfl, fun k hk => Below.heap_alloc w.drew _ k hk⟩
def zs (q n : Nat) : List Rg := (List.range n).map (fun j => ⟨1000 * q + j, none, 0, []⟩)
theorem zs_len (q n : Nat) : (zs q n).length = n := by simp [zs]
theorem zs_get {q n j : Nat} (h : j < n) : (zs q n)[j]? = some ⟨1000 * q + j, none, 0, []⟩ := by simp [zs, h]
theorem zs_succ (q n : Nat) : zs q (n + 1) = zs q n ++ [⟨1000 * q + n, none, 0, []⟩] := by simp [zs, List.range_succ]
def LsI (w : World) (Y : Nat → Prop) (La : List Value) : Prop := ∀ (t : Nat) v, La[t]? = some v → ∃ a n c, v = .slice a n c ∧ n ≤ 2000000 ∧ ∀ j, j < n → ∃ g, a = some ⟨g, 0, none⟩ ∧ Y g ∧ w.cell? ⟨g, j * 2, none⟩ = some (.int .u64 ((1000 * (2 * (t / 2)) + j : Nat) : Int)) ∧ w.cell? ⟨g, j * 2 + 1, none⟩ = some (.slice none 0 0)
theorem LsI.keep {S Y Y' : Nat → Prop} {w w' : World} {La : List Value} (h : LsI w Y La) (c : Chg S w w') (hs : ∀ k, Y k → ¬ S k) (hY : ∀ k, Y k → Y' k) : LsI w' Y' La := fun t v hv => by
  obtain ⟨a, n, c1, e, hn, hc⟩ := h t v hv
  refine ⟨a, n, c1, e, hn, fun j hj => ?_⟩
  obtain ⟨g, e1, hg, h1, h2⟩ := hc j hj
  exact ⟨g, e1, hY g hg, c.cell h1 (hs g hg), c.cell h2 (hs g hg)⟩
def IsRG (w : World) (k : Nat) : Prop := ∃ cs fr, w.heap[k]? = some (.cells cs 36 fr)
theorem IsRG.oth {w : World} {k : Nat} (h : IsRG w k) : Oth w k := by
  obtain ⟨cs, fr, h⟩ := h
  exact Oth.of h (by decide)
theorem IsRG.lt {w : World} {k : Nat} (h : IsRG w k) : k < w.heap.size := by
  obtain ⟨cs, fr, h⟩ := h
  exact (Array.getElem?_eq_some_iff.1 h).1
theorem IsRG.chg {S : Nat → Prop} {w w' : World} {k : Nat} (h : IsRG w k) (c : Chg S w w') (hs : ¬ S k) : IsRG w' k := by
  have hl := h.lt
  obtain ⟨cs, fr, h⟩ := h
  exact ⟨cs, fr, (c.block k hl hs).trans h⟩
theorem isRG_of {B n : Nat} {w : World} {v : Value} {xs : List Value} {k : Nat} (h : w.ownsRow B 36 2 v n xs) (hk : v.ownBlock = some k) : IsRG w k := (own_cells h hk).2
def Un (kb : Nat → Array Value → Prop) (X Y : Nat → Prop) (lv v : Value) (k : Nat) : Prop := X k ∨ Y k ∨ lv.ownBlock = some k ∨ v.ownBlock = some k ∨ ∃ cs, kb k cs
structure OwM (kb : Nat → Array Value → Prop) (w wr : World) (d p m : Nat) (c0 c1 : Int) (lv : Value) (La : List Value) (T : List (Value × List Int)) (v : Value) (n : Nat) (xs : List Value) : Prop where
  ex : ∃ (X Y : Nat → Prop) (A D : List (Value × List Int)), DkE w.heap.size wr d m X ∧ Bx w.heap.size wr p c0 c1 A (T ++ D) (Un kb X Y lv v) ∧ LsI wr Y La ∧ (∀ k, X k → ¬ (Y k ∨ lv.ownBlock = some k ∨ v.ownBlock = some k)) ∧ (∀ k, Y k → v.ownBlock ≠ some k ∧ IsRG wr k ∧ w.heap.size ≤ k) ∧ (∀ x ∈ T, ∀ k, x.1.ownBlock = some k → ¬ Un kb X Y lv v k) ∧ ∀ b cs, kb b cs → wr.heap[b]? = some (.cells cs 31 (0, 0)) ∧ w.heap.size ≤ b ∧ ¬ X b
  lr : wr.ownsRow w.heap.size 22 1 lv La.length La
  vr : wr.ownsRow w.heap.size 36 2 v n xs
  out : Out w wr
section
variable {kb : Nat → Array Value → Prop} {w wr w' : World} {d p m n : Nat} {c0 c1 : Int} {lv v : Value} {La xs : List Value} {T : List (Value × List Int)}
theorem OwM.total (h : OwM kb w wr d p m c0 c1 lv La T v n xs) : wr.cell? ⟨p, 1, none⟩ = some (.int .i64 c1) := by
  obtain ⟨X, Y, A, D, _, hb, _⟩ := h.ex
  exact hb.total
theorem lv_rg {B1 B2 n1 n2 : Nat} {w : World} {u v : Value} {x1 x2 : List Value} (h1 : w.ownsRow B1 22 1 u n1 x1) (h2 : w.ownsRow B2 36 2 v n2 x2) {k : Nat} (hk : u.ownBlock = some k) : v.ownBlock ≠ some k := own_two h1 h2 (by decide) hk
theorem lv_nrg {B1 n1 : Nat} {w : World} {u : Value} {x1 : List Value} (h1 : w.ownsRow B1 22 1 u n1 x1) {k : Nat} (hk : u.ownBlock = some k) : ¬ IsRG w k := fun ⟨cs, fr, h⟩ => own_kind h1 h (by decide) hk
theorem kb_oth {w : World} {b : Nat} {cs : Array Value} (h : w.heap[b]? = some (.cells cs 31 (0, 0))) : Oth w b := Oth.of h (by decide)
theorem kb_rg {B n : Nat} {w : World} {b : Nat} {cs : Array Value} {v : Value} {xs : List Value} (h : w.heap[b]? = some (.cells cs 31 (0, 0))) (hv : w.ownsRow B 36 2 v n xs) : ¬ v.ownBlock = some b := own_kind hv h (by decide)
theorem kb_ls {B n : Nat} {w : World} {b : Nat} {cs : Array Value} {v : Value} {xs : List Value} (h : w.heap[b]? = some (.cells cs 31 (0, 0))) (hv : w.ownsRow B 22 1 v n xs) : ¬ v.ownBlock = some b := own_kind hv h (by decide)
theorem OwM.drop (h : OwM kb w wr d p m c0 c1 lv La T v n xs) : OwM kb w wr d p m c0 c1 lv La [] (.slice none 0 0) 0 [] := by
  obtain ⟨X, Y, A, D, h1, h2, h3, h4, h5, h6, h7⟩ := h.ex
  refine ⟨⟨X, Y, A, T ++ D, h1, h2.others (fun k hk => .inl ?_), h3, fun k hk hk2 => ?_, fun k hk => ⟨by simp [Value.ownBlock], (h5 k hk).2⟩, (fun x hx => by cases hx), h7⟩, h.lr, World.ownsRow_nil _ _ _ _, h.out⟩
  · rcases hk with hk | hk | hk | hk | hk
    · exact .inl hk
    · exact .inr (.inl hk)
    · exact .inr (.inr (.inl hk))
    · cases hk
    · exact .inr (.inr (.inr (.inr hk)))
  · rcases hk2 with hk2 | hk2 | hk2
    · exact h4 k hk (.inl hk2)
    · exact h4 k hk (.inr (.inl hk2))
    · cases hk2
theorem OwM.outW (h : OwM kb w wr d p m c0 c1 lv La T v n xs) (o : Out wr w') : OwM kb w w' d p m c0 c1 lv La T v n xs := by
  obtain ⟨X, Y, A, D, h1, h2, h3, h4, h5, h6, h7⟩ := h.ex
  exact ⟨⟨X, Y, A, D, h1.out o, h2.out o, h3.keep (Chg.of_out (S := fun _ => False) o) (fun _ _ h => h) (fun _ h => h), h4, fun k hk => ⟨(h5 k hk).1, (h5 k hk).2.1.chg (Chg.of_out (S := fun _ => False) o) (fun h => h), (h5 k hk).2.2⟩, h6, fun b cs hb => ⟨blk_out (h7 b cs hb).1 o, (h7 b cs hb).2⟩⟩, own_out h.lr o, own_out h.vr o, h.out.trans o⟩
theorem OwM.own {a : Option Addr} {q c : Nat} {l : List Int} (h : OwM kb w wr d p m c0 c1 lv La ((.slice a q c, l) :: T) v n xs) (hq : l.length = q) (hc1 : c1 ≤ 900000000000000) (mark : Int) (m0 : 0 ≤ mark) (m1 : mark ≤ 100000000000) (hc0 : c0 ≤ 100000000000) :
    Calls Tryz.prog 10 #[.pointer (some ⟨p, 0, none⟩), .slice a q c, .int .i64 mark] wr fun e w' => (∃ r, e = .returned r) ∧ OwM kb w w' d p m (c0 + 1) (c1 + q) lv La T v n xs := by
  obtain ⟨X, Y, A, D, h1, h2, h3, h4, h5, h6, h7⟩ := h.ex
  refine (h2.own (fun k hk => h6 _ (List.mem_cons_self ..) k hk) hq hc1 mark m0 m1 hc0).mono ?_
  rintro e w' ⟨he, ⟨A', hb⟩, hc⟩
  refine ⟨he, ⟨X, Y, A', D, h1.keep hc (fun k hk hs => hs.1 (.inl hk)), hb, h3.keep hc (fun k hk hs => hs.1 (.inr (.inl hk))) (fun _ h => h), h4, fun k hk => ⟨(h5 k hk).1, (h5 k hk).2.1.chg hc (fun hs => hs.1 (.inr (.inl hk))), (h5 k hk).2.2⟩, (fun x hx => h6 x (List.mem_cons_of_mem _ hx)), fun b cs hb => ⟨blk_chg (h7 b cs hb).1 hc (fun hs => hs.1 (.inr (.inr (.inr (.inr ⟨cs, hb⟩))))), (h7 b cs hb).2⟩⟩, own_chg h.lr hc (fun k hk hs => hs.1 (.inr (.inr (.inl hk)))), own_chg h.vr hc (fun k hk hs => hs.1 (.inr (.inr (.inr (.inl hk))))), Chg.out hc h.out (fun k hk => hk.2)⟩
theorem OwM.set {xs' : List Value} (h : OwM kb w wr d p m c0 c1 lv La T v n xs) (c : Chg (fun k => v.ownBlock = some k) wr w') (hv : w'.ownsRow w.heap.size 36 2 v n xs') : OwM kb w w' d p m c0 c1 lv La T v n xs' := by
  obtain ⟨X, Y, A, D, h1, h2, h3, h4, h5, h6, h7⟩ := h.ex
  exact ⟨⟨X, Y, A, D, h1.keep c (fun k hk hs => h4 k hk (.inr (.inr hs))), h2.away c (fun k hk => (isRG_of h.vr hk).oth) (fun k _ hk => (isRG_of hv hk).oth), h3.keep c (fun k hk hs => (h5 k hk).1 hs) (fun _ h => h), h4, fun k hk => ⟨(h5 k hk).1, (h5 k hk).2.1.chg c (h5 k hk).1, (h5 k hk).2.2⟩, h6, fun b cs hb => ⟨blk_chg (h7 b cs hb).1 c (kb_rg (h7 b cs hb).1 h.vr), (h7 b cs hb).2⟩⟩, own_chg h.lr c (fun k hk hs => lv_rg h.lr h.vr hk hs), hv, Chg.out c h.out (fun k hk => (h.vr.lt k hk).1)⟩
theorem OwM.shelve {wq w7 : World} {q gn : Nat} {g lv' : Value} (h : OwM kb w wr d p m c0 c1 lv La T v n xs) (hLa : La.length / 2 * 2 = La.length) (hq : q = La.length) (cg : Chg (fun k => v.ownBlock = some k) wr wq) (hg : wq.ownsRow w.heap.size 36 2 g gn (rowG (zs q gn))) (hgb : ∀ k, g.ownBlock = some k → v.ownBlock = some k ∨ wr.heap.size ≤ k)
    (hv : ∃ a c, v = .slice a n c ∧ ∀ j, j < n → ∃ b, a = some ⟨b, 0, none⟩ ∧ wq.cell? ⟨b, j * 2, none⟩ = some (.int .u64 ((1000 * q + j : Nat) : Int)) ∧ wq.cell? ⟨b, j * 2 + 1, none⟩ = some (.slice none 0 0)) (hvt : ∀ k, v.ownBlock = some k → IsRG wq k) (hn : n ≤ 2000000) (hgn : gn ≤ 2000000)
    (c7 : Chg (fun k => lv.ownBlock = some k) wq w7) (hlr : w7.ownsRow w.heap.size 22 1 lv' (La.length + 2) (La ++ [v, g])) (hlb : ∀ k, lv'.ownBlock = some k → lv.ownBlock = some k ∨ wq.heap.size ≤ k) : OwM kb w w7 d p m c0 c1 lv' (La ++ [v, g]) [] (.slice none 0 0) 0 [] := by
  obtain ⟨X, Y, A, D, h1, h2, h3, h4, h5, h6, h7⟩ := h.ex
  have lrq : wq.ownsRow w.heap.size 22 1 lv La.length La := own_chg h.lr cg (fun k hk hs => lv_rg h.lr h.vr hk hs)
  have hXl := fun k hk => (h1.lt (k := k) hk).2
  have hYl : ∀ k, Y k → k < wr.heap.size := fun k hk => (h5 k hk).2.1.lt
  have hsz := cg.size
  have o7 : Out w w7 := Chg.out c7 (Chg.out cg h.out (fun k hk => (h.vr.lt k hk).1)) (fun k hk => (lrq.lt k hk).1)
  have r7 : ∀ k, IsRG wq k → IsRG w7 k := fun k hk => hk.chg c7 (fun hs => lv_nrg lrq hs hk)
  have hgt : ∀ k, g.ownBlock = some k → IsRG w7 k := fun k hk => r7 k (isRG_of hg hk)
  have hY7 : ∀ k, Y k → IsRG w7 k := fun k hk => r7 k ((h5 k hk).2.1.chg cg (h5 k hk).1)
  have k7 : ∀ b cs, kb b cs → w7.heap[b]? = some (.cells cs 31 (0, 0)) := fun b cs hb => by
    have k1 := blk_chg (h7 b cs hb).1 cg (kb_rg (h7 b cs hb).1 h.vr)
    exact blk_chg k1 c7 (kb_ls k1 lrq)
  -- the books, the desk's blocks and the kept ones alone
  have b1 : Bx w.heap.size wr p c0 c1 A (T ++ D) (fun k => X k ∨ Y k) := h2.others (fun k hk => .inl (hk.elim .inl (fun e => .inr (.inl e))))
  have b2 : Bx w.heap.size wq p c0 c1 A (T ++ D) (fun k => X k ∨ Y k) := b1.away cg (fun k hk => (isRG_of h.vr hk).oth) (fun k hk hs => (hk.elim (fun e => h4 k e (.inr (.inr hs))) (fun e => (h5 k e).1 hs)).elim)
  have b3 : Bx w.heap.size w7 p c0 c1 A (T ++ D) (fun k => X k ∨ Y k) := b2.away c7 (fun k hk => Oth.row lrq hk (by decide)) (fun k hk hs => (hk.elim (fun e => h4 k e (.inr (.inl hs))) (fun e => lv_nrg h.lr hs (h5 k e).2.1)).elim)
  have dk : DkE w.heap.size w7 d m X := (h1.keep cg (fun k hk hs => h4 k hk (.inr (.inr hs)))).keep c7 (fun k hk hs => h4 k hk (.inr (.inl hs)))
  refine ⟨⟨X, fun k => Y k ∨ v.ownBlock = some k ∨ g.ownBlock = some k, A, T ++ D, dk, b3.others (fun k hk => ?_), ?_, fun k hk hk2 => ?_, fun k hk => ⟨by simp [Value.ownBlock], ?_⟩, (fun x hx => by cases hx), fun b cs hb => ⟨k7 b cs hb, (h7 b cs hb).2⟩⟩, by rw [List.length_append]; exact hlr, World.ownsRow_nil _ _ _ _, o7⟩
  · rcases hk with hk | (hk | hk | hk) | hk | hk | ⟨cs, hk⟩
    · exact .inl (.inl hk)
    · exact .inl (.inr hk)
    · exact .inr ⟨(r7 k (hvt k hk)).lt, (r7 k (hvt k hk)).oth⟩
    · exact .inr ⟨(hgt k hk).lt, (hgt k hk).oth⟩
    · exact .inr ⟨(hlr.lt k hk).2, Oth.row hlr hk (by decide)⟩
    · cases hk
    · exact .inr ⟨(Array.getElem?_eq_some_iff.1 (k7 k cs hk)).1, kb_oth (k7 k cs hk)⟩
  · intro t u hu
    by_cases ht : t < La.length
    · rw [List.getElem?_append_left ht] at hu
      exact ((h3.keep cg (fun k hk hs => (h5 k hk).1 hs) (fun _ h => h)).keep c7 (fun k hk hs => lv_nrg h.lr hs (h5 k hk).2.1) (fun k hk => .inl hk)) t u hu
    · rw [List.getElem?_append_right (by omega)] at hu
      have ht2 : t - La.length = 0 ∨ t - La.length = 1 := by
        have := (List.getElem?_eq_some_iff.1 hu).1
        simp at this; omega
      have e2 : 2 * (t / 2) = q := by omega
      rcases ht2 with e | e
      · rw [e] at hu
        cases hu
        obtain ⟨a, c, rfl, hvc⟩ := hv
        refine ⟨a, n, c, rfl, hn, fun j hj => ?_⟩
        obtain ⟨b, rfl, k1, k2⟩ := hvc j hj
        have hrg := hvt b rfl
        rw [e2]
        exact ⟨b, rfl, .inr (.inl rfl), c7.cell k1 (fun hs => lv_nrg lrq hs hrg), c7.cell k2 (fun hs => lv_nrg lrq hs hrg)⟩
      · rw [e] at hu
        cases hu
        obtain ⟨a, c, rfl, _, _⟩ := own_slice hg
        refine ⟨a, gn, c, rfl, hgn, fun j hj => ?_⟩
        obtain ⟨b, c', e3, _, _⟩ := hg.form (by omega)
        simp only [Value.slice.injEq] at e3
        obtain ⟨rfl, _, rfl⟩ := e3
        obtain ⟨k1, k2⟩ := rowG_get (zs_get (q := q) hj)
        have hrg := isRG_of hg (k := b) rfl
        rw [e2]
        exact ⟨b, rfl, .inr (.inr rfl), c7.cell (own_cellK hg k1).1 (fun hs => lv_nrg lrq hs hrg), c7.cell (own_cellK hg k2).1 (fun hs => lv_nrg lrq hs hrg)⟩
  · have hkl := hXl k hk
    rcases hk2 with (hk2 | hk2 | hk2) | hk2 | hk2
    · exact h4 k hk (.inl hk2)
    · exact h4 k hk (.inr (.inr hk2))
    · rcases hgb k hk2 with e | e
      · exact h4 k hk (.inr (.inr e))
      · omega
    · rcases hlb k hk2 with e | e
      · exact h4 k hk (.inr (.inl e))
      · omega
    · cases hk2
  · rcases hk with hk | hk | hk
    · exact ⟨hY7 k hk, (h5 k hk).2.2⟩
    · exact ⟨r7 k (hvt k hk), (h.vr.lt k hk).1⟩
    · exact ⟨hgt k hk, (hg.lt k hk).1⟩
theorem OwM.act (h : OwM kb w wr d p m c0 c1 lv La T v n xs) (hm : m + 1 ≤ 1000000000) (z : AcI) (hz : AcOk z) (hr : RestAt w.heap.size w z.a z.d) :
    Calls Tryz.prog 8 #[.pointer (some ⟨d, 0, none⟩), z.v] wr fun e w' => ∃ (ub : List UInt8) (ua : Option Addr) (uc : Nat) (va : Option Addr) (vc : Nat) (vR : List Rg), e = .returned (.tuple #[.bool true, .slice ua ub.length uc, .slice va vR.length vc]) ∧ ub.length ≤ 1048576 ∧ BdP (vR.map fdR) ∧ vR.length ≤ m ∧ OwM kb w w' d p (m + if z.kind = 1 then 1 else 0) c0 c1 lv La ((.slice ua ub.length uc, iB ub) :: fB vR) (.slice va vR.length vc) vR.length (rowG vR) := by
  have h0 := h.drop
  obtain ⟨X, Y, A, D, h1, h2, h3, h4, h5, h6, h7⟩ := h0.ex
  refine (actE_any h1 hm z hz (hr.out h.out)).mono ?_
  rintro e w' ⟨u, v', X', he, hd, hc, hn, ub, ua, uc, va, vc, vR, rfl, rfl, hor, how, hrl, hdn, hub, hbd, hvm, hnf⟩
  have hBw : w.heap.size ≤ wr.heap.size := h.out.size
  have hXw := fun k hk => h1.lt (k := k) hk
  have lr' : w'.ownsRow w.heap.size 22 1 lv La.length La := own_chg h.lr hc (fun k hk hs => h4 k hs (.inr (.inl hk)))
  have hYr : ∀ k, Y k → IsRG w' k := fun k hk => (h5 k hk).2.1.chg hc (fun hs => h4 k hs (.inl hk))
  have hYl : ∀ k, Y k → k < wr.heap.size := fun k hk => (h5 k hk).2.1.lt
  have hll : ∀ k, lv.ownBlock = some k → k < wr.heap.size := fun k hk => (h.lr.lt k hk).2
  have hvr : ∀ k, (Value.slice va vR.length vc).ownBlock = some k → IsRG w' k ∧ wr.heap.size ≤ k ∧ ¬ X' k := fun k hk => ⟨isRG_of hrl.own hk, hnf k (.inr (.inl hk))⟩
  have kw : ∀ b cs, kb b cs → w'.heap[b]? = some (.cells cs 31 (0, 0)) := fun b cs hb => blk_chg (h7 b cs hb).1 hc (h7 b cs hb).2.2
  obtain ⟨E, e1, e2, e3, e4⟩ := hd.rows
  have hrow : ∀ x ∈ (Value.slice ua ub.length uc, iB ub) :: fB vR, w'.ownsRow w.heap.size 5 1 x.1 x.2.length (bV x.2) ∧ x.2.length ≤ 60000000000000 ∧ ∀ k, x.1.ownBlock = some k → wr.heap.size ≤ k ∧ ¬ X' k ∧ IsT8 w' k := fun x hx => by
    rcases List.mem_cons.1 hx with rfl | hx
    · have h7 : w'.ownsRow wr.heap.size 5 1 (.slice ua ub.length uc) (iB ub).length (bV (iB ub)) := by rw [bV_iB, iB_len]; exact how
      exact ⟨own_base h7 hBw, by simp only [iB_len]; omega, fun k hk => ⟨(hnf k (.inl hk)).1, (hnf k (.inl hk)).2, isT8_of h7 hk⟩⟩
    · obtain ⟨z, hz, rfl⟩ := List.mem_map.1 hx
      have h7 := hrl.da z hz
      have h8 := hbd (fdR z) (List.mem_map.2 ⟨z, hz, rfl⟩)
      simp only [fdR] at h8
      exact ⟨own_base h7.iB hBw, by simp only [iB_len]; omega, fun k hk => ⟨(hnf k (.inr (.inr ⟨z, hz, daV_block.1 hk⟩))).1, (hnf k (.inr (.inr ⟨z, hz, daV_block.1 hk⟩))).2, isT8_of h7.iB hk⟩⟩
  have hT8 : ∀ k, IsT8 w' k → ¬ IsRG w' k := fun k ⟨cur, h1⟩ ⟨cs, fr, h2⟩ => by
    rw [h1] at h2
    simp at h2
  have hnU : ∀ x ∈ (Value.slice ua ub.length uc, iB ub) :: fB vR, ∀ k, x.1.ownBlock = some k → wr.heap.size ≤ k ∧ ¬ Un kb X' Y lv (.slice va vR.length vc) k := fun x hx k hk => by
    obtain ⟨k1, k2, k3⟩ := (hrow x hx).2.2 k hk
    refine ⟨k1, fun hu => ?_⟩
    rcases hu with hu | hu | hu | hu | ⟨cs, hu⟩
    · exact k2 hu
    · have := hYl k hu; omega
    · have := hll k hu; omega
    · exact hT8 k k3 (hvr k hu).1
    · have := (Array.getElem?_eq_some_iff.1 (h7 k cs hu).1).1; omega
  have hpw : ((Value.slice ua ub.length uc, iB ub) :: fB vR).Pairwise (fun x y => Dis x.1 y.1) := by
    refine List.pairwise_cons.2 ⟨fun x hx k hk hk2 => ?_, (fB_fresh hrl.da hdn).2⟩
    rcases hor with e | e
    · rw [e] at hk; cases hk
    · rw [e] at hx; cases hx
  obtain ⟨D', hb⟩ := h2.turn (hc.mono (fun k hk _ => .inl hk)) ((Value.slice ua ub.length uc, iB ub) :: fB vR) E (Un kb X' Y lv (.slice va vR.length vc)) (fun k hk => by
      rcases hk with hk | hk | hk | hk | hk
      · exact (hn k hk).imp .inl id
      · exact .inl (.inr (.inl hk))
      · exact .inl (.inr (.inr (.inl hk)))
      · exact .inr (hvr k hk).2.1
      · exact .inl (.inr (.inr (.inr (.inr hk))))) (fun x hx => by
      rcases List.mem_append.1 hx with hx | hx
      · exact (hrow x hx).1
      · exact e1 x hx) hpw (fun k ⟨x, hx, hk⟩ => hnU x hx k hk) (fun k hk => .inl (e2 k hk)) (fun k hk => by
      rcases hk with hk | hk | hk | hk | ⟨cs, hk⟩
      · exact e3 k hk
      · exact ⟨(hYr k hk).lt, .inl (hYr k hk).oth⟩
      · exact ⟨(lr'.lt k hk).2, .inl (Oth.row lr' hk (by decide))⟩
      · exact ⟨(hvr k hk).1.lt, .inl (hvr k hk).1.oth⟩
      · exact ⟨(Array.getElem?_eq_some_iff.1 (kw k cs hk)).1, .inl (kb_oth (kw k cs hk))⟩) (fun x hx => by
      rcases List.mem_append.1 hx with hx | hx
      · exact (hrow x hx).2.1
      · exact e4 x hx)
  refine ⟨ub, ua, uc, va, vc, vR, he, hub, hbd, hvm, ⟨X', Y, A, D', hd, hb, h3.keep hc (fun k hk hs => h4 k hs (.inl hk)) (fun _ h => h), fun k hk hk2 => ?_, fun k hk => ⟨fun hk2 => ?_, hYr k hk, (h5 k hk).2.2⟩, (fun x hx k hk => (hnU x hx k hk).2), fun b cs hb => ⟨kw b cs hb, (h7 b cs hb).2.1, fun hx => ?_⟩⟩, lr', own_base hrl.own hBw, Chg.out hc h.out (fun k hk => (hXw k hk).1)⟩
  · rcases hk2 with hk2 | hk2 | hk2
    · rcases hn k hk with e | e
      · exact h4 k e (.inl hk2)
      · have := hYl k hk2; omega
    · rcases hn k hk with e | e
      · exact h4 k e (.inr (.inl hk2))
      · have := hll k hk2; omega
    · exact (hvr k hk2).2.2 hk
  · have := hYl k hk
    have := (hvr k hk2).2.1
    omega
  · rcases hn b hx with e | e
    · exact (h7 b cs hb).2.2 e
    · have := (Array.getElem?_eq_some_iff.1 (h7 b cs hb).1).1; omega
theorem OwM.keepB {b : Nat} {cs : Array Value} (h : OwM kb w wr d p m c0 c1 lv La T v n xs) (o : Out wr w') (hb : wr.heap.size ≤ b) (hc : w'.heap[b]? = some (.cells cs 31 (0, 0))) : OwM (fun k u => k = b ∧ u = cs) w w' d p m c0 c1 lv La [] (.slice none 0 0) 0 [] := by
  obtain ⟨X, Y, A, D, h1, h2, h3, h4, h5, h6, h7⟩ := h.ex
  have hX := fun k hk => (h1.lt (k := k) hk).2
  refine ⟨⟨X, Y, A, T ++ D, h1.out o, (h2.out o).others (fun k hk => ?_), h3.keep (Chg.of_out (S := fun _ => False) o) (fun _ _ h => h) (fun _ h => h), fun k hk hk2 => ?_, fun k hk => ⟨by simp [Value.ownBlock], (h5 k hk).2.1.chg (Chg.of_out (S := fun _ => False) o) (fun h => h), (h5 k hk).2.2⟩, (fun x hx => by cases hx), fun b' cs' hb' => ?_⟩, own_out h.lr o, World.ownsRow_nil _ _ _ _, h.out.trans o⟩
  · rcases hk with hk | hk | hk | hk | ⟨u, rfl, rfl⟩
    · exact .inl (.inl hk)
    · exact .inl (.inr (.inl hk))
    · exact .inl (.inr (.inr (.inl hk)))
    · cases hk
    · exact .inr ⟨(Array.getElem?_eq_some_iff.1 hc).1, kb_oth hc⟩
  · rcases hk2 with hk2 | hk2 | hk2
    · exact h4 k hk (.inl hk2)
    · exact h4 k hk (.inr (.inl hk2))
    · cases hk2
  · obtain ⟨rfl, rfl⟩ := hb'
    refine ⟨hc, Nat.le_trans h.out.size hb, fun hx => ?_⟩
    have := hX _ hx
    omega
theorem OwM.kb_at {b : Nat} {cs : Array Value} (h : OwM kb w wr d p m c0 c1 lv La T v n xs) (hb : kb b cs) : wr.heap[b]? = some (.cells cs 31 (0, 0)) := by
  obtain ⟨X, Y, A, D, _, _, _, _, _, _, h7⟩ := h.ex
  exact (h7 b cs hb).1
theorem OwM.c0nn (h : OwM kb w wr d p m c0 c1 lv La T v n xs) : 0 ≤ c0 ∧ 0 ≤ c1 := by
  obtain ⟨X, Y, A, D, _, h2, _⟩ := h.ex
  exact h2.c0nn
theorem OwM.holds (h : OwM kb w wr d p m c0 c1 lv La T v n xs) (hc : c0 ≤ 100000000000) : Calls Tryz.prog 11 #[.pointer (some ⟨p, 0, none⟩)] wr fun e w' => e = .returned (.bool true) ∧ OwM kb w w' d p m c0 c1 lv La T v n xs := by
  obtain ⟨X, Y, A, D, _, h2, _⟩ := h.ex
  exact (h2.holds hc).mono (fun e w' ⟨he, ho⟩ => ⟨he, h.outW ho⟩)
theorem OwM.together (h : OwM kb w wr d p m c0 c1 lv La T v n xs) (hm : m ≤ 1000000000) : Calls Tryz.prog 12 #[.pointer (some ⟨d, 0, none⟩)] wr fun e w' => e = .returned (.bool true) ∧ OwM kb w w' d p m c0 c1 lv La T v n xs := by
  obtain ⟨X, Y, A, D, h1, _⟩ := h.ex
  exact (together_any wr w.heap.size m d X h1 hm).mono (fun e w' ⟨he, ho⟩ => ⟨he, h.outW ho⟩)
theorem OwM.lists (h : OwM kb w wr d p m c0 c1 lv La T v n xs) : ∃ Y, LsI wr Y La := by
  obtain ⟨X, Y, A, D, _, _, h3, _⟩ := h.ex
  exact ⟨Y, h3⟩
theorem OwM.start {X : Nat → Prop} (hd : DkE w.heap.size wr d m X) (o : Out w wr) (o2 : Out wr w') (hp : w'.heap[p]? = some (.cells #[.int .i64 0, .int .i64 0, .bool false, .slice none 0 0, .slice none 0 0, .slice none 0 0, .slice none 0 0, .slice none 0 0] 42 (0, 0))) (hpw : wr.heap.size ≤ p) : OwM (fun _ _ => False) w w' d p m 0 0 (.slice none 0 0) [] [] (.slice none 0 0) 0 [] := by
  have hd2 := hd.out o2
  obtain ⟨E, e1, e2, e3, e4⟩ := hd2.rows
  obtain ⟨D, hb⟩ := Bx.start (X := Un (fun _ _ => False) X (fun _ => False) (.slice none 0 0) (.slice none 0 0)) hp (Nat.le_trans o.size hpw) E e1 e4 (fun k hk => by
    rcases hk with hk | hk | hk | hk | ⟨_, hk⟩
    · exact e3 k hk
    · exact hk.elim
    · cases hk
    · cases hk
    · exact hk.elim)
  refine ⟨⟨X, fun _ => False, [], D, hd2, hb, (fun t u hu => by simp at hu), fun k hk hk2 => ?_, (fun k hk => hk.elim), (fun x hx => by cases hx), fun b cs hb => hb.elim⟩, World.ownsRow_nil _ _ _ _, World.ownsRow_nil _ _ _ _, o.trans o2⟩
  rcases hk2 with hk2 | hk2 | hk2
  · exact hk2
  · cases hk2
  · cases hk2
end
structure Gw (B : Nat) (w9 wq : World) (v : Value) (nv nL : Nat) (g : Value) (j : Nat) : Prop where
  own : wq.ownsRow B 36 2 g (nv + j) (rowG (zs nL (nv + j)))
  chg : Chg (fun x => v.ownBlock = some x) w9 wq
  gb : ∀ x, g.ownBlock = some x → v.ownBlock = some x ∨ w9.heap.size ≤ x
  vc : ∃ a c, v = .slice a nv c ∧ ∀ j, j < nv → ∃ b, a = some ⟨b, 0, none⟩ ∧ wq.cell? ⟨b, j * 2, none⟩ = some (.int .u64 ((1000 * nL + j : Nat) : Int)) ∧ wq.cell? ⟨b, j * 2 + 1, none⟩ = some (.slice none 0 0)
  vt : ∀ x, v.ownBlock = some x → IsRG wq x
theorem zs_cells {B q n m : Nat} {w : World} {g c : Nat} (h : w.ownsRow B 36 2 (.slice (some ⟨g, 0, none⟩) m c) m (rowG (zs q m))) {j : Nat} (hj : j < m) : w.cell? ⟨g, j * 2, none⟩ = some (.int .u64 ((1000 * q + j : Nat) : Int)) ∧ w.cell? ⟨g, j * 2 + 1, none⟩ = some (.slice none 0 0) := by
  obtain ⟨k1, k2⟩ := rowG_get (zs_get (q := q) hj)
  exact ⟨(own_cellK h k1).1, (own_cellK h k2).1⟩
theorem Gw.start {B : Nat} {w9 : World} {va : Option Addr} {vc nv nL : Nat} (h : w9.ownsRow B 36 2 (.slice va nv vc) nv (rowG (zs nL nv))) : Gw B w9 w9 (.slice va nv vc) nv nL (.slice va nv vc) 0 :=
  ⟨h, Chg.refl _ _, fun x hx => .inl hx, ⟨va, vc, rfl, fun j hj => by
    obtain ⟨g, c', e, _, _⟩ := h.form (by omega)
    simp only [Value.slice.injEq] at e
    obtain ⟨rfl, _, rfl⟩ := e
    exact ⟨g, rfl, zs_cells (n := nv) h hj⟩⟩, fun x hx => isRG_of h hx⟩
theorem Gw.step {B : Nat} {w9 wq wA w' : World} {v g g' : Value} {nv nL j : Nat} (h : Gw B w9 wq v nv nL g j) (o : Out wq wA) (hown : w'.ownsRow B 36 2 g' (nv + j + 1) (rowG (zs nL (nv + j)) ++ [.int .u64 ((1000 * nL + (nv + j) : Nat) : Int), .slice none 0 0])) (hg : wA.grownBy w' g.ownBlock) (hor : g'.ownBlock = g.ownBlock ∨ (g'.ownBlock = some wA.heap.size ∧ ∀ k, k < wA.heap.size → w'.heap[k]? = wA.heap[k]?)) : Gw B w9 w' v nv nL g' (j + 1) := by
  have e9 : rowG (zs nL (nv + (j + 1))) = rowG (zs nL (nv + j)) ++ [.int .u64 ((1000 * nL + (nv + j) : Nat) : Int), .slice none 0 0] := by
    rw [show nv + (j + 1) = nv + j + 1 by omega, zs_succ, rowG_app]; rfl
  have hown2 : w'.ownsRow B 36 2 g' (nv + (j + 1)) (rowG (zs nL (nv + (j + 1)))) := by rw [e9]; exact hown
  have cA : Chg (fun x => v.ownBlock = some x) w9 wA := h.chg.trans (Chg.of_out (S := fun _ => False) o) (fun _ h _ => h.elim)
  have c' : Chg (fun x => g.ownBlock = some x) wA w' := Chg.of_grown hg (fun _ h => h)
  obtain ⟨a, c, rfl, hvc⟩ := h.vc
  have vA : ∀ x, (Value.slice a nv c).ownBlock = some x → IsRG wA x := fun x hx => (h.vt x hx).chg (Chg.of_out (S := fun _ => False) o) (fun h => h)
  refine ⟨hown2, cA.trans c' (fun x hx hl => (h.gb x hx).resolve_right (by omega)), fun x hx => ?_, ⟨a, c, rfl, fun t ht => ?_⟩, fun x hx => ?_⟩
  · rcases hor with e | ⟨e, _⟩
    · exact h.gb x (by rw [← e]; exact hx)
    · rw [e] at hx
      cases hx
      exact .inr cA.size
  · obtain ⟨b, rfl, k1, k2⟩ := hvc t ht
    refine ⟨b, rfl, ?_⟩
    have k1A := cell_later o k1
    have k2A := cell_later o k2
    by_cases hb : g.ownBlock = some b
    · rcases hor with e | ⟨_, e⟩
      · obtain ⟨ga, gc, rfl, _, _⟩ := own_slice hown2
        obtain ⟨b2, c2, e3, _, _⟩ := hown2.form (by omega)
        simp only [Value.slice.injEq] at e3
        obtain ⟨rfl, _, rfl⟩ := e3
        have : b2 = b := by rw [hb] at e; simpa [Value.ownBlock] using e
        subst this
        exact zs_cells (n := nv) hown2 (by omega)
      · have hl := (vA b rfl).lt
        exact ⟨by rw [← k1A]; simp [World.cell?, e b hl], by rw [← k2A]; simp [World.cell?, e b hl]⟩
    · exact ⟨c'.cell k1A hb, c'.cell k2A hb⟩
  · by_cases hb : g.ownBlock = some x
    · rcases hor with e | ⟨_, e⟩
      · exact isRG_of hown2 (by rw [e]; exact hb)
      · have hl := (vA x hx).lt
        obtain ⟨cs, fr, h9⟩ := vA x hx
        exact ⟨cs, fr, by rw [e x hl]; exact h9⟩
    · exact (vA x hx).chg c' hb
theorem zs_set {R : List Rg} {q j n : Nat} (hn : R.length = n) (hj : j < n) : (zs q j ++ R.drop j).set j ⟨1000 * q + j, none, 0, []⟩ = zs q (j + 1) ++ R.drop (j + 1) := by
  rw [List.set_append_right _ _ (by rw [zs_len]; exact Nat.le_refl _), zs_len, Nat.sub_self, List.drop_eq_getElem_cons (by omega), List.set_cons_zero, zs_succ]
  simp
end Go.Proofs.YtekjfbmebekmeaaGreat
