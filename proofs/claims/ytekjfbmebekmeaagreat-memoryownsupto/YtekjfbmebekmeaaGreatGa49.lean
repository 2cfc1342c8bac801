import Derived.Test.YtekjfbmebekmeaaGreatGa48
namespace Go.Proofs.YtekjfbmebekmeaaGreat
open Go.ChangeShapes Go.WideShapes Go.ChangeAt Go.RowKit Go.Deep
set_option linter.unusedVariables false
set_option linter.unusedSimpArgs false
theorem amgm (x y : Nat) : 4 * (x * y) ≤ (x + y) * (x + y) := by
  rcases Nat.le_total x y with h | h
  · obtain ⟨d, rfl⟩ := Nat.exists_eq_add_of_le h
    simp only [Nat.mul_add, Nat.add_mul, Nat.mul_comm d x]
    omega
  · obtain ⟨d, rfl⟩ := Nat.exists_eq_add_of_le h
    simp only [Nat.mul_add, Nat.add_mul, Nat.mul_comm d y]
    omega
theorem asks_le {n a : Nat} (h : 3 * n + 7 * a ≤ 1048576) : 4 * (n + a + 1) * a ≤ 95000000000 := by
  obtain ⟨t, ht⟩ : ∃ t, t = n + a + 1 := ⟨_, rfl⟩
  rw [← ht]
  have h1 := amgm (3 * t) (4 * a)
  have h2 : 3 * t + 4 * a ≤ 1048579 := by omega
  have h3 : (3 * t + 4 * a) * (3 * t + 4 * a) ≤ 1048579 * 1048579 := Nat.mul_le_mul h2 h2
  have h4 : (3 * t) * (4 * a) = 12 * (t * a) := by rw [Nat.mul_mul_mul_comm]
  rw [h4] at h1
  have h5 : 4 * t * a = 4 * (t * a) := Nat.mul_assoc _ _ _
  omega
theorem bulk_ge {H : Type} {c : Nat} : ∀ {l : List (DataW H)}, (∀ d ∈ l, c ≤ Rows.uptoBulk d) → c * l.length ≤ Rows.uptoBulkAll l
  | [], _ => by simp [Rows.uptoBulkAll]
  | x :: r, h => by
    have h1 := h x (List.mem_cons_self ..)
    have h2 := bulk_ge (l := r) (fun d hd => h d (List.mem_cons_of_mem _ hd))
    simp only [Rows.uptoBulkAll, List.length_cons, Nat.mul_succ]
    omega
theorem regs_bulk {H : Type} {enc : TypeId × Value → H} {w : World} {base : Nat} {spare : Nat → Bool} {held : Bool} {fuel : Nat} {a : Option Addr} {len cap : Nat} {x : DataW H × List MemPlace}
    (h : DataW.trod enc Tryz.prog w base spare held fuel 22 [.slice a len cap] = some x) : 3 * len ≤ Rows.uptoBulk x.1 := by
  rcases open_slice Tryz.underlying22 h with ⟨hcs, rfl⟩ | ⟨ad, l, c, m, n, D, Pl, hcs, hb, hl, hm, hmm, rfl, hx⟩
  · simp at hcs
    obtain ⟨rfl, rfl, rfl⟩ := hcs
    simp
  · simp at hcs
    obtain ⟨rfl, rfl, rfl⟩ := hcs
    by_cases z : len = 0
    · subst z; simp
    have hlm : len ≤ m := by rw [hmm]; split <;> omega
    have hD : ∀ i, i < len → 3 ≤ Rows.uptoBulk (D i) := fun i hi => by
      obtain ⟨cs', h1, h2⟩ := hx i (by omega)
      obtain ⟨xs, k, hk, hxy, _, hxl, hf⟩ := DataW.trod_struct Tryz.underlying36 h2
      match xs, hxl with
      | [y0, y1], _ =>
        simp only [Prod.mk.injEq] at hxy
        rw [hxy.1]
        have b0 := bulk_one y0.1
        have b1 := bulk_one y1.1
        simp only [List.map_cons, List.map_nil, Rows.uptoBulk, Rows.uptoBulkAll]
        omega
    have h9 := bulk_ge (c := 3) (l := (List.range len).map D) (fun d hd => by
      obtain ⟨i, hi, rfl⟩ := List.mem_map.1 hd
      exact hD i (List.mem_range.1 hi))
    simp only [List.length_map, List.length_range] at h9
    simp only [Rows.uptoBulk]
    omega
theorem acts_bulk {H : Type} {enc : TypeId × Value → H} {w : World} {base : Nat} {spare : Nat → Bool} {held : Bool} {fuel : Nat} {a : Option Addr} {len cap : Nat} {x : DataW H × List MemPlace}
    (h : DataW.trod enc Tryz.prog w base spare held fuel 23 [.slice a len cap] = some x) : 7 * len ≤ Rows.uptoBulk x.1 := by
  rcases open_slice Tryz.underlying23 h with ⟨hcs, rfl⟩ | ⟨ad, l, c, m, n, D, Pl, hcs, hb, hl, hm, hmm, rfl, hx⟩
  · simp at hcs
    obtain ⟨rfl, rfl, rfl⟩ := hcs
    simp
  · simp at hcs
    obtain ⟨rfl, rfl, rfl⟩ := hcs
    by_cases z : len = 0
    · subst z; simp
    have hlm : len ≤ m := by rw [hmm]; split <;> omega
    have hD : ∀ i, i < len → 7 ≤ Rows.uptoBulk (D i) := fun i hi => by
      obtain ⟨cs', h1, h2⟩ := hx i (by omega)
      obtain ⟨xs, k, hk, hxy, _, hxl, hf⟩ := DataW.trod_struct Tryz.underlying31 h2
      match xs, hxl with
      | [y0, y1, y2, y3, y4, y5], _ =>
        simp only [Prod.mk.injEq] at hxy
        rw [hxy.1]
        have b0 := bulk_one y0.1
        have b1 := bulk_one y1.1
        have b2 := bulk_one y2.1
        have b3 := bulk_one y3.1
        have b4 := bulk_one y4.1
        have b5 := bulk_one y5.1
        simp only [List.map_cons, List.map_nil, Rows.uptoBulk, Rows.uptoBulkAll]
        omega
    have h9 := bulk_ge (c := 7) (l := (List.range len).map D) (fun d hd => by
      obtain ⟨i, hi, rfl⟩ := List.mem_map.1 hd
      exact hD i (List.mem_range.1 hi))
    simp only [List.length_map, List.length_range] at h9
    simp only [Rows.uptoBulk]
    omega
end Go.Proofs.YtekjfbmebekmeaaGreat
