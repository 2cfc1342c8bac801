import Derived.Test.YtmpbdakmmelmgaaGa29
import Derived.Laws.AppendOwnNone
import Derived.Maps.AppendAt
namespace Go.Proofs.Ytmpbdakmmelmgaa
open Go.RowKit
set_option linter.unusedVariables false
set_option linter.unusedSimpArgs false
theorem own_kind9 {B s n : Nat} {w : World} {e t : TypeId} {v : Value} {xs : List Value} {b : Nat} {cs : Array Value} {fr : Nat × Nat} (h : w.ownsRow B e s v n xs) (hb : w.heap[b]? = some (.cells cs t fr)) (hne : ¬ e = t) : ¬ v.ownBlock = some b := fun hv => by
  rcases h.2 with ⟨rfl, _⟩ | ⟨g, cap, cur, rfl, _, hg, _⟩
  · cases hv
  · simp [Value.ownBlock] at hv
    subst hv
    rw [hg] at hb
    simp at hb
    exact hne hb.2.1
theorem own_cells9 {B s n : Nat} {w : World} {e : TypeId} {v : Value} {xs : List Value} {b : Nat} (h : w.ownsRow B e s v n xs) (hb : v.ownBlock = some b) : ∃ cs, w.heap[b]? = some (.cells cs e (0, 0)) := by
  rcases h.2 with ⟨rfl, _⟩ | ⟨g, cap, cur, rfl, _, hg, _⟩
  · cases hb
  · simp [Value.ownBlock] at hb
    subst hb
    exact ⟨_, hg⟩
/-- a list stays where a list of another kind turns -/
theorem own_other {B B' s s' n n' : Nat} {w w' : World} {e e' : TypeId} {v v' : Value} {xs xs' : List Value} (h : w.ownsRow B e s v n xs) (h' : w.ownsRow B' e' s' v' n' xs') (hne : ¬ e = e') (c : Chg (fun b => v'.ownBlock = some b) w w') : w'.ownsRow B e s v n xs := owns_chg h (fun k hk hs => by
  obtain ⟨cs, hc⟩ := own_cells9 h' hs
  exact own_kind9 h hc hne hk) c
/-- sections that came in are appended to an empty list of the call's own -/
theorem wpList_app_sec {w : World} {ops : Array Oper} {rest : List Oper} {o : Oper} {ac : Act} {Q : Exit → Act → World → Prop} (hgd : o.guard = none) (s x : Operand)
    (ho : o.op = .call { callee := .builtin .append, args := #[s, x], argTypes := #[24, 24] })
    (base B : Nat) (a : Option Addr) (c : Nat) (L : List SV) (h : ScAt B w a L) (hc : a = none → c = 0) (hl : L.length ≤ 1000) (g : Nat) (hs : ac.eval s = .slice (some ⟨g, 0, none⟩) 0 0) (hx : ac.eval x = .slice a L.length c) (hown : w.ownsRow base 52 8 (.slice (some ⟨g, 0, none⟩) 0 0) 0 []) (hb : base ≤ w.heap.size)
    (hw : ∀ a' c' w', OwV base (.slice a' L.length c') L w' → w.grownBy w' (some g) → wpList Try.prog ops Q rest (ac.put o.dst (.slice a' L.length c')) w') : wpList Try.prog ops Q (o :: rest) ac w := by
  obtain ⟨i0, hi, hz0, hz1, hz2⟩ := info_parts infoSc
  cases a with
  | none =>
    obtain rfl : L = [] := by
      rcases h with h | ⟨b, off, _, h, _⟩
      · exact h
      · cases h
    obtain rfl := hc rfl
    refine wpList_append_own_none hgd s x 24 ho base 52 i0 8 Try.underlying24 hi _ 0 [] hs hown hx ?_
    exact hw _ _ w hown (World.grownBy.refl w _)
  | some ad =>
    have hcell : ∀ j u, (svV L)[j]? = some u → w.cell? (ad.add j) = some u := by
      intro j u hu
      rcases h with rfl | ⟨b, off, _, h, hd⟩
      · simp [svV] at hu
      · cases h
        rw [WideShapes.add_plain]
        exact hd j u hu
    refine wpList_append_own _ hgd s x 24 ho base 52 i0 _ 8 88 Try.underlying24 hi hz0 hz1 hz2 rfl (by decide) (.slice (some ⟨g, 0, none⟩) 0 0) 0 [] hs hown ad L.length c (svV L) hx (svV_len L) hcell (svV_one L) (by unfold maxLen; omega) (by omega) hb ?_
    intro v4 w4 hown4 hgrow4 _
    rw [Nat.zero_add, List.nil_append] at hown4
    obtain ⟨a4, c4, rfl⟩ := own_form hown4
    exact hw a4 c4 w4 hown4 hgrow4
theorem made9 (N : Nat) : madeCells #[.int .u8 0] N = (Lib.byteCells (List.replicate N 0)).toArray := by
  apply Array.ext_getElem?
  intro j
  simp only [madeCells, Array.getElem?_map, List.getElem?_toArray, Lib.byteCells, List.getElem?_map, List.getElem?_replicate]
  by_cases hj : j < N
  · rw [if_pos hj, Array.getElem?_range, if_pos hj]
    simp [Nat.mod_one]
  · rw [if_neg hj, Array.getElem?_range, if_neg hj]; rfl
def z64 : List UInt8 := List.replicate 64 0
/-- 64 bytes are made -/
theorem run_make9 (w : World) : (Instr.makeSlice 36 (.int .i64 64) (.int .i64 64)).run Try.prog w = .ok (.slice (some ⟨w.heap.size, 0, none⟩) 64 64) (w.alloc (.cells (Lib.byteCells z64).toArray 5)) := by
  obtain ⟨i0, hi, hz0, hz1, hz2⟩ := info_parts infoB
  have h := run_make (P := Try.prog) w 36 5 i0 _ Try.underlying36 hi hz0 .i64 .i64 64 64 (by omega) (Int.le_refl _) (by rw [hz2]; decide) (by omega)
  rw [hz1] at h
  simp only [Value.cells, Nat.mul_one] at h
  rw [h]
  show Result.ok (Value.slice (some ⟨w.heap.size, 0, none⟩) 64 64) (w.alloc (Obj.cells (madeCells #[.int .u8 0] 64) 5)) = _
  rw [made9]; rfl
theorem own_made9 (w : World) (B : Nat) (hB : B ≤ w.heap.size) : OwB B (.slice (some ⟨w.heap.size, 0, none⟩) 64 64) z64 (w.alloc (.cells (Lib.byteCells z64).toArray 5)) :=
  ⟨by simp [Lib.byteCells, z64], .inr ⟨w.heap.size, 64, _, by simp [z64], hB, heap_alloc_new w _, by simp [z64], by decide, by simp [Lib.byteCells, z64], by simp [Lib.byteCells, z64]⟩⟩
end Go.Proofs.Ytmpbdakmmelmgaa
namespace Go.Proofs.Ytmpbdakmmelmgaa
open Go.RowKit
set_option linter.unusedVariables false
set_option linter.unusedSimpArgs false
/-- bytes that lie somewhere are appended to bytes of the call's own -/
theorem wpList_app_data {w : World} {ops : Array Oper} {rest : List Oper} {o : Oper} {ac : Act} {Q : Exit → Act → World → Prop} (hgd : o.guard = none) (s x : Operand)
    (ho : o.op = .call { callee := .builtin .append, args := #[s, x], argTypes := #[36, 36] })
    (N B : Nat) (v : Value) (O : List UInt8) (hv : OwB N v O w) (hN : N ≤ w.heap.size) (da : Option Addr) (dc : Nat) (d : List UInt8) (h : RestAt B w da d) (hc : da = none → dc = 0) (hl : O.length + d.length ≤ 140737488355328) (hs : ac.eval s = v) (hx : ac.eval x = .slice da d.length dc)
    (hw : ∀ a' c' w', AppB N w w' v (.slice a' (O ++ d).length c') (O ++ d) → wpList Try.prog ops Q rest (ac.put o.dst (.slice a' (O ++ d).length c')) w') : wpList Try.prog ops Q (o :: rest) ac w := by
  obtain ⟨i0, hi, hz0, hz1, hz2⟩ := info_parts infoB
  cases da with
  | none =>
    obtain rfl : d = [] := by
      rcases h with h | ⟨b, off, _, h, _⟩
      · exact h
      · cases h
    obtain rfl := hc rfl
    obtain ⟨a', c', rfl⟩ := own_form hv
    refine wpList_append_own_none hgd s x 36 ho N 5 i0 1 Try.underlying36 hi _ O.length (Lib.byteCells O) hs hv hx ?_
    have h1 := hw a' c' w (by rw [List.append_nil]; exact AppB.refl hv)
    rw [List.append_nil] at h1
    exact h1
  | some ad =>
    have hcell : ∀ j u, (Lib.byteCells d)[j]? = some u → w.cell? (ad.add j) = some u := by
      intro j u hu
      simp only [Lib.byteCells, List.getElem?_map, Option.map_eq_some_iff] at hu
      obtain ⟨y, hy, rfl⟩ := hu
      rcases h with rfl | ⟨b, off, _, h, hd⟩
      · simp at hy
      · cases h
        rw [WideShapes.add_plain]
        exact hd j y hy
    refine wpList_append_own_at _ hgd s x 36 ho N 5 i0 _ 1 1 Try.underlying36 hi hz0 hz1 hz2 rfl (by decide) v O.length (Lib.byteCells O) hs hv ad d.length dc (Lib.byteCells d) hx (by simp [Lib.byteCells]) hcell (fun u hu => by
      obtain ⟨y, _, rfl⟩ := List.mem_map.1 hu
      rfl) (by unfold maxLen; omega) (by omega) hN ?_
    intro v4 w4 hown4 hgrow4 _ hat
    rw [← bc_app, ← List.length_append] at hown4
    obtain ⟨a4, c4, rfl⟩ := own_form hown4
    refine hw a4 c4 w4 ⟨hown4, Chg.of_grown hgrow4 (fun k h => h), fun b hb => ?_⟩
    rcases hat with e | e
    · exact .inl (by rw [← e]; exact hb)
    · right; rw [e] at hb; cases hb; exact Nat.le_refl _
end Go.Proofs.Ytmpbdakmmelmgaa
