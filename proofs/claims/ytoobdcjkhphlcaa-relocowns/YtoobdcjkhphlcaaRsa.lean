import Derived.Test.YtoobdcjkhphlcaaRfa
import Derived.Test.YtoobdcjkhphlcaaRer
namespace Go.Proofs.Ytoobdcjkhphlcaa
open Go.RowKit
set_option linter.unusedVariables false
set_option linter.unusedSimpArgs false
set_option maxRecDepth 20000 in
theorem mine_any (m : Int) (h0 : 0 ≤ m) (h1 : m ≤ 1000000000000000) (w : World) : Calls Try.prog 36 #[.int .i64 m] w fun e w' => e = .returned (.agg #[.int .i64 m, .int .i64 77, .int .i64 (-m)]) ∧ Out w w' := by
  have h2 : m < 18446744073709551616 := by omega
  go_enter Try.func36, Try.ntmps36
  go_wp2
  refine bodyPost_ret (results_cell_row rfl _ _ w.heap.size 27 _ (0, 0) _ rfl (heap_alloc_new _ _) Try.underlying27 rfl sizeRl) rfl ?_
  exact ⟨rfl, Out.alloc (Out.refl _) _⟩
/-- a mark's cells -/
def mkC (m : Int) : List Value := [.int .i64 m, .int .i64 77, .int .i64 (-m)]
/-- a block of tokens, by its cells -/
def BlT (w : World) (g : Nat) (cs : Array Value) : Prop := w.heap[g]? = some (.cells cs 27 (0, 0))
theorem BlT.lt {w : World} {g : Nat} {cs : Array Value} (h : BlT w g cs) : g < w.heap.size := (Array.getElem?_eq_some_iff.1 h).1
theorem BlT.chg {S : Nat → Prop} {w w' : World} {g : Nat} {cs : Array Value} (h : BlT w g cs) (c : Chg S w w') (hs : ¬ S g) : BlT w' g cs := (c.block g h.lt hs).trans h
theorem BlT.out {w w' : World} {g : Nat} {cs : Array Value} (h : BlT w g cs) (o : Out w w') : BlT w' g cs := (o.block g h.lt).trans h
/-- the first n tokens are marks from m on -/
def Mk (m : Int) (n : Nat) (cs : Array Value) : Prop := ∀ k, k < n → ∀ j, j < 3 → cs[k * 3 + j]? = (mkC (m + k))[j]?
theorem Mk.zero (m : Int) (cs : Array Value) : Mk m 0 cs := fun k hk => by omega
theorem Mk.le {m : Int} {n n' : Nat} {cs : Array Value} (h : Mk m n cs) (hn : n' ≤ n) : Mk m n' cs := fun k hk => h k (by omega)
/-- a list of marks from m on -/
def ML (w : World) (v : Value) (m : Int) (n : Nat) : Prop := (v = .slice none 0 0 ∧ n = 0) ∨ ∃ g c cs, v = .slice (some ⟨g, 0, none⟩) n c ∧ BlT w g cs ∧ cs.size = c * 3 ∧ n ≤ c ∧ Mk m n cs
theorem ML.form {w : World} {v : Value} {m : Int} {n : Nat} (h : ML w v m n) : ∃ a c, v = .slice a n c := by
  rcases h with ⟨rfl, rfl⟩ | ⟨g, c, cs, rfl, _⟩
  · exact ⟨_, _, rfl⟩
  · exact ⟨_, _, rfl⟩
theorem ML.out {w w' : World} {v : Value} {m : Int} {n : Nat} (h : ML w v m n) (o : Out w w') : ML w' v m n := by
  rcases h with h | ⟨g, c, cs, hv, hb, h⟩
  · exact .inl h
  · exact .inr ⟨g, c, cs, hv, hb.out o, h⟩
theorem ML.chg {S : Nat → Prop} {w w' : World} {v : Value} {m : Int} {n : Nat} (h : ML w v m n) (c : Chg S w w') (hs : ∀ b, v.ownBlock = some b → ¬ S b) : ML w' v m n := by
  rcases h with h | ⟨g, cp, cs, hv, hb, h⟩
  · exact .inl h
  · exact .inr ⟨g, cp, cs, hv, hb.chg c (hs g (by rw [hv]; rfl)), h⟩
theorem ML.lt {w : World} {v : Value} {m : Int} {n : Nat} (h : ML w v m n) : ∀ b, v.ownBlock = some b → b < w.heap.size := fun b hb => by
  rcases h with ⟨rfl, _⟩ | ⟨g, c, cs, rfl, hg, _⟩
  · cases hb
  · simp [Value.ownBlock] at hb; subst hb; exact hg.lt
/-- only block ob is written, and its marks stay -/
structure Mild (m : Int) (ob : Option Nat) (w w' : World) : Prop where
  chg : Chg (fun b => ob = some b) w w'
  row : ∀ b cs, ob = some b → BlT w b cs → ∃ cs', BlT w' b cs' ∧ cs'.size = cs.size ∧ ∀ e, Mk m e cs → Mk m e cs'
theorem Mild.of_out {m : Int} {ob : Option Nat} {w w' : World} (o : Out w w') : Mild m ob w w' := ⟨Chg.of_out o, fun b cs _ h => ⟨cs, h.out o, rfl, fun _ h => h⟩⟩
theorem Mild.trans {m : Int} {ob : Option Nat} {a b c : World} (h : Mild m ob a b) (k : Mild m ob b c) : Mild m ob a c := by
  refine ⟨h.chg.trans k.chg (fun x hx _ => hx), fun g cs hg hb => ?_⟩
  obtain ⟨cs1, h1, h2, h3⟩ := h.row g cs hg hb
  obtain ⟨cs2, k1, k2, k3⟩ := k.row g cs1 hg h1
  exact ⟨cs2, k1, k2.trans h2, fun e he => k3 e (h3 e he)⟩
/-- what is written lies in a newer block -/
theorem Mild.newer {m : Int} {ob o2 : Option Nat} {a b c : World} (h : Mild m ob a b) (k : Mild m o2 b c) (hn : ∀ x, o2 = some x → ob = some x ∨ a.heap.size ≤ x) : Mild m ob a c := by
  refine ⟨h.chg.trans k.chg (fun x hx hlt => by rcases hn x hx with e | e; exact e; omega), fun g cs hg hb => ?_⟩
  obtain ⟨cs1, h1, h2, h3⟩ := h.row g cs hg hb
  by_cases ho : o2 = some g
  · obtain ⟨cs2, k1, k2, k3⟩ := k.row g cs1 ho h1
    exact ⟨cs2, k1, k2.trans h2, fun e he => k3 e (h3 e he)⟩
  · exact ⟨cs1, h1.chg k.chg ho, h2, h3⟩
theorem ML.mild {m : Int} {ob : Option Nat} {w w' : World} {v : Value} {n : Nat} (h : ML w v m n) (k : Mild m ob w w') : ML w' v m n := by
  rcases h with h | ⟨g, c, cs, hv, hb, hs, hn, hm⟩
  · exact .inl h
  · by_cases ho : ob = some g
    · obtain ⟨cs', h1, h2, h3⟩ := k.row g cs ho hb
      exact .inr ⟨g, c, cs', hv, h1, h2.trans hs, hn, h3 n hm⟩
    · exact .inr ⟨g, c, cs, hv, hb.chg k.chg ho, hs, hn, hm⟩
theorem mkC_len (m : Int) : (mkC m).length = 3 := rfl
theorem mkC_one (m : Int) : ∀ u ∈ mkC m, u.oneCell' = true := by
  intro u hu
  simp [mkC] at hu
  rcases hu with rfl | rfl | rfl <;> rfl
/-- a row with one token put in -/
def putC (cs : Array Value) (n : Nat) (news : List Value) : Array Value := (cs.toList.take (n * 3) ++ news ++ cs.toList.drop (n * 3 + news.length)).toArray
theorem putC_size (cs : Array Value) (n : Nat) (m : Int) (h : n * 3 + 3 ≤ cs.size) : (putC cs n (mkC m)).size = cs.size := by
  simp [putC, mkC_len]; omega
theorem putC_get (cs : Array Value) (n : Nat) (m : Int) (h : n * 3 + 3 ≤ cs.size) (i : Nat) : (putC cs n (mkC m))[i]? = if i < n * 3 then cs[i]? else if i < n * 3 + 3 then (mkC m)[i - n * 3]? else cs[i]? := by
  have hl : (cs.toList.take (n * 3)).length = n * 3 := by simp; omega
  unfold putC
  rw [List.getElem?_toArray]
  by_cases h1 : i < n * 3
  · rw [if_pos h1, List.append_assoc, List.getElem?_append_left (by omega), List.getElem?_take, if_pos h1]; simp
  · rw [if_neg h1]
    by_cases h2 : i < n * 3 + 3
    · rw [if_pos h2, List.getElem?_append_left (by rw [List.length_append, hl, mkC_len]; exact h2), List.getElem?_append_right (by omega), hl]
    · rw [if_neg h2, List.getElem?_append_right (by rw [List.length_append, hl, mkC_len]; omega), List.length_append, hl, mkC_len, List.getElem?_drop, show n * 3 + 3 + (i - (n * 3 + 3)) = i by omega]; simp
theorem putC_mk {cs : Array Value} {n : Nat} {m : Int} (h : n * 3 + 3 ≤ cs.size) (e : Nat) (he : Mk m e cs) : Mk m e (putC cs n (mkC (m + n))) := fun k hk j hj => by
  rw [putC_get _ _ _ h]
  by_cases h1 : k * 3 + j < n * 3
  · rw [if_pos h1]; exact he k hk j hj
  · rw [if_neg h1]
    by_cases h2 : k * 3 + j < n * 3 + 3
    · obtain rfl : k = n := by omega
      rw [if_pos h2, show k * 3 + j - k * 3 = j by omega]
    · rw [if_neg h2]; exact he k hk j hj
theorem putC_succ {cs : Array Value} {n : Nat} {m : Int} (h : n * 3 + 3 ≤ cs.size) (he : Mk m n cs) : Mk m (n + 1) (putC cs n (mkC (m + n))) := fun k hk j hj => by
  by_cases hkn : k < n
  · exact putC_mk h n he k hkn j hj
  · obtain rfl : k = n := by omega
    rw [putC_get _ _ _ h, if_neg (by omega), if_pos (by omega), show k * 3 + j - k * 3 = j by omega]
theorem cap_le {need old : Nat} (h : old < need) : Builtin.nextslicecap need old ≤ need + need / 2 + 600 := by
  unfold Builtin.nextslicecap
  split
  · omega
  · split
    · omega
    · rw [growBy_four]
      repeat' split
      all_goals omega
/-- an append, by what it runs to -/
theorem wp_run {P : Program} {ops : Array Oper} {rest : List Oper} {o : Oper} {a : Act} {Q : Exit → Act → World → Prop} {w w' : World} {v1 v2 v' : Value} (hgd : o.guard = none) (s x : Operand) (t : TypeId) (ho : o.op = .call { callee := .builtin .append, args := #[s, x], argTypes := #[t, t] })
    (hs : a.eval s = v1) (hx : a.eval x = v2) (hr : ∀ ty, (Builtin.append_ #[t, t] ty #[v1, v2]).run P w = .ok v' w') (h : wpList P ops Q rest (a.put o.dst v') w') : wpList P ops Q (o :: rest) a w := by
  refine wpList_plain hgd fun K hK => ?_
  unfold Oper.wp execOp
  simp only [ho, resolve, invoke, builtin, Sem.run_bind, Sem.run_pure, Result.andThen_ok, List.map_toArray, List.map_cons, List.map_nil, hs, hx, hr]
  exact hK _ _ h
/-- relocations at an address -/
def TksAt (w : World) (a : Option Addr) (L : List Rl) : Prop := RlAt w.heap.size w a L
theorem TksAt.out {w w' : World} {a : Option Addr} {L : List Rl} (h : TksAt w a L) (o : Out w w') : TksAt w' a L := RlAt.out h o
theorem owns_tks {B : Nat} {v : Value} {T : List Rl} {w : World} (h : OwR B v T w) : ∃ a c, v = .slice a T.length c ∧ T.length ≤ c ∧ TksAt w a T := OwR.at h
theorem sameTokens_any (w : World) (a a' : Option Addr) (c c' : Nat) (L : List Rl) (h : TksAt w a L) (h' : TksAt w a' L) (hl : L.length ≤ 140737488355328) : Calls Try.prog 19 #[.slice a L.length c, .slice a' L.length c'] w fun e w' => e = .returned (.bool true) ∧ Out w w' := sameRels_eq w a a' c c' L h h' hl
end Go.Proofs.Ytoobdcjkhphlcaa
