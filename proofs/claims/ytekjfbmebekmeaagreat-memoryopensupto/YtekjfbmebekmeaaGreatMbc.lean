import Derived.Test.YtekjfbmebekmeaaGreatMbb
import Derived.Laws.CopyOwn
namespace Go.Proofs.YtekjfbmebekmeaaGreat
open Go.RowKit
set_option linter.unusedVariables false
set_option linter.unusedSimpArgs false
/-- copy into a block that is known whole, elements of k cells -/
theorem run_copyK {P : Program} (w : World) (dT sT ty elem : TypeId) (k g o dLen dCap : Nat) (a : Addr) (sLen sCap : Nat) (cur : Array Value) (t : TypeId) (cs : List Value)
    (hu : P.underlying dT = some (.slice elem)) (hs : (P.info? elem).map (·.size) = some k)
    (hg : w.heap[g]? = some (.cells cur t (0, 0))) (hn : cs.length = Nat.min sLen dLen * k)
    (hsrc : ∀ j v, cs[j]? = some v → w.cell? (a.add j) = some v) (hfit : o + cs.length ≤ cur.size) (h1 : ∀ v ∈ cs, v.oneCell' = true) :
    (Builtin.copy_ #[dT, sT] ty #[.slice (some ⟨g, o, none⟩) dLen dCap, .slice (some a) sLen sCap]).run P w =
      .ok (goInt (Nat.min sLen dLen : Nat)) (w.setRow g (splice cur.toList o cs).toArray) := by
  have hl := run_loadCells_list (P := P) w a cs hsrc
  have hst := run_storeCells_at P g o t cs 0 cur w hg (by simpa using hfit) h1
  have e : (splice cur.toList o cs).toArray = (cur.toList.take (o + 0) ++ cs ++ cur.toList.drop (o + 0 + cs.length)).toArray := by
    simp only [splice, Nat.add_zero, List.append_assoc]
  rw [e]
  cases hq : P.info? elem with
  | none => simp [hq] at hs
  | some i =>
    have hi : i.size = k := by simpa [hq] using hs
    simp [Builtin.copy_, run_underlying hu, Builtin.lenOf, Builtin.firstCells, sizeOf, typeInfo, hq, hi, ← hn, hl, hst]
theorem chg_setRow {w : World} {g : Nat} {cur : Array Value} : Chg (fun b => b = g) w (w.setRow g cur) := ⟨rfl, rfl, rfl, by simp [World.setRow], fun k hk hs => setRow_other w g k _ hs⟩
theorem wpList_copyK {P : Program} {w : World} {ops : Array Oper} {rest : List Oper} {o : Oper} {a : Act} {Q : Exit → Act → World → Prop} (hgd : o.guard = none) (d s : Operand) (dT sT : TypeId)
    (ho : o.op = .call { callee := .builtin .copy, args := #[d, s], argTypes := #[dT, sT] }) (elem : TypeId) (k : Nat) (hu : P.underlying dT = some (.slice elem)) (hsz : (P.info? elem).map (·.size) = some k)
    (g off dLen dCap : Nat) (ad : Addr) (sLen sCap : Nat) (hd : a.eval d = .slice (some ⟨g, off, none⟩) dLen dCap) (hs : a.eval s = .slice (some ad) sLen sCap)
    (cur : List Value) (t : TypeId) (hg : w.heap[g]? = some (.cells cur.toArray t (0, 0))) (cs : List Value) (hn : cs.length = Nat.min sLen dLen * k)
    (hsrc : ∀ j v, cs[j]? = some v → w.cell? (ad.add j) = some v) (hfit : off + cs.length ≤ cur.length) (h1 : ∀ v ∈ cs, v.oneCell' = true)
    (h : ∀ w', Hid (w'.heap[g]? = some (.cells (splice cur off cs).toArray t (0, 0))) → Hid (Chg (fun b => b = g) w w') → wpList P ops Q rest (a.put o.dst (goInt (Nat.min sLen dLen : Nat))) w') : wpList P ops Q (o :: rest) a w := by
  refine wpList_plain hgd fun K hK => ?_
  have hrun := run_copyK (P := P) w dT sT o.type elem k g off dLen dCap ad sLen sCap cur.toArray t cs hu hsz hg hn hsrc (by simpa using hfit) h1
  unfold Oper.wp
  simp [execOp, ho, resolve, invoke, builtin, hd, hs, hrun, Result.andThen]
  exact hK _ _ (h _ (setRow_heap w g _ _ t _ hg) chg_setRow)
theorem step_copyK {P : Program} {ops : Array Oper} {o : Oper} {a : Act} {w : World} {K : Act → World → Prop} {Q : Exit → Act → World → Prop} {E : Prop} (hgd : o.guard = none) (d s : Operand) (dT sT : TypeId)
    (ho : o.op = .call { callee := .builtin .copy, args := #[d, s], argTypes := #[dT, sT] }) (elem : TypeId) (k : Nat) (hu : P.underlying dT = some (.slice elem)) (hsz : (P.info? elem).map (·.size) = some k)
    (g off dLen dCap : Nat) (ad : Addr) (sLen sCap : Nat) (hd : a.eval d = .slice (some ⟨g, off, none⟩) dLen dCap) (hs : a.eval s = .slice (some ad) sLen sCap)
    (cur : List Value) (t : TypeId) (hg : w.heap[g]? = some (.cells cur.toArray t (0, 0))) (cs : List Value) (hn : cs.length = Nat.min sLen dLen * k)
    (hsrc : ∀ j v, cs[j]? = some v → w.cell? (ad.add j) = some v) (hfit : off + cs.length ≤ cur.length) (h1 : ∀ v ∈ cs, v.oneCell' = true)
    (h : ∀ w', Hid (w'.heap[g]? = some (.cells (splice cur off cs).toArray t (0, 0))) → Hid (Chg (fun b => b = g) w w') → K (a.put o.dst (goInt (Nat.min sLen dLen : Nat))) w') :
    if Region.wanted o (yielded ops a.tmps) = true then Oper.wp P o a w K Q else E := by
  have hw : Region.wanted o (yielded ops a.tmps) = true := by simp [Region.wanted, hgd]
  rw [if_pos hw]
  have hrun := run_copyK (P := P) w dT sT o.type elem k g off dLen dCap ad sLen sCap cur.toArray t cs hu hsz hg hn hsrc (by simpa using hfit) h1
  unfold Oper.wp
  simp [execOp, ho, resolve, invoke, builtin, hd, hs, hrun, Result.andThen]
  exact h _ (setRow_heap w g _ _ t _ hg) chg_setRow
theorem copyK_ex {P : Program} (w : World) (dT sT ty elem : TypeId) (k g o dLen dCap : Nat) (a : Addr) (sLen sCap : Nat) (cur : List Value) (t : TypeId) (cs : List Value) (m : Nat)
    (hu : P.underlying dT = some (.slice elem)) (hs : (P.info? elem).map (·.size) = some k)
    (hg : w.heap[g]? = some (.cells cur.toArray t (0, 0))) (hm : Nat.min sLen dLen = m) (hn : cs.length = m * k)
    (hsrc : ∀ j v, cs[j]? = some v → w.cell? (a.add j) = some v) (hfit : o + cs.length ≤ cur.length) (h1 : ∀ v ∈ cs, v.oneCell' = true) :
    ∃ w', (Builtin.copy_ #[dT, sT] ty #[.slice (some ⟨g, o, none⟩) dLen dCap, .slice (some a) sLen sCap]).run P w = .ok (.int .i64 (m : Nat)) w' ∧ Hid (w'.heap[g]? = some (.cells (splice cur o cs).toArray t (0, 0))) ∧ Hid (Chg (fun b => b = g) w w') := by
  subst hm
  exact ⟨_, run_copyK (P := P) w dT sT ty elem k g o dLen dCap a sLen sCap cur.toArray t cs hu hs hg hn hsrc (by simpa using hfit) h1, setRow_heap w g _ _ t _ hg, chg_setRow⟩
/-- what is laid down of a row, a part in the middle written over -/
theorem splice_take {L : List Value} {o m : Nat} {cs : List Value} (h : o + cs.length = m) (hm : m ≤ L.length) : (splice L o cs).take m = L.take o ++ cs := by
  unfold splice
  rw [← List.append_assoc, List.take_append_of_le_length (by rw [List.length_append, List.length_take]; omega), List.take_of_length_le (by rw [List.length_append, List.length_take]; omega)]
theorem splice_head {L : List Value} {o m : Nat} {cs : List Value} (h : m ≤ o) (ho : o ≤ L.length) : (splice L o cs).take m = L.take m := by
  unfold splice
  rw [List.take_append_of_le_length (by rw [List.length_take]; omega), List.take_take, Nat.min_eq_left h]
/-- inserting in place: the tail up, then the new ones -/
theorem splice_ins {L vs : List Value} {a n k : Nat} (hv : vs.length = k) (han : a ≤ n) (hn : n + k ≤ L.length) : (splice (splice L (a + k) ((L.take n).drop a)) a vs).take (n + k) = (L.take n).take a ++ (vs ++ (L.take n).drop a) := by
  have hl : ((L.take n).drop a).length = n - a := by rw [List.length_drop, List.length_take]; omega
  have e1 : splice L (a + k) ((L.take n).drop a) = L.take (a + k) ++ ((L.take n).drop a ++ L.drop (n + k)) := by
    unfold splice
    rw [hl, show a + k + (n - a) = n + k by omega]
  have e2 : splice (splice L (a + k) ((L.take n).drop a)) a vs = L.take a ++ (vs ++ ((L.take n).drop a ++ L.drop (n + k))) := by
    rw [e1]
    conv => lhs; unfold splice
    rw [List.take_append_of_le_length (by rw [List.length_take]; omega), List.take_take, Nat.min_eq_left (by omega), hv, List.drop_append_of_le_length (by rw [List.length_take]; omega), List.drop_eq_nil_of_le (by rw [List.length_take]; omega), List.nil_append]
  rw [e2, List.take_take, Nat.min_eq_left han, ← List.append_assoc, ← List.append_assoc, List.take_append_of_le_length (by simp [hl, hv]; omega), List.take_of_length_le (by simp [hl, hv]; omega), List.append_assoc]
/-- inserting into a new row: what stood ahead, zeros, then the new ones, then the tail -/
theorem splice_new {xs vs Z : List Value} {a n k : Nat} (hx : xs.length = n) (hv : vs.length = k) (han : a ≤ n) (hz : n + k - a ≤ Z.length) : (splice (splice (xs.take a ++ Z) a vs) (a + k) (xs.drop a)).take (n + k) = xs.take a ++ (vs ++ xs.drop a) := by
  have hl : (xs.drop a).length = n - a := by rw [List.length_drop, hx]
  have hl2 : (xs.take a).length = a := by rw [List.length_take, hx, Nat.min_eq_left han]
  have hl3 : (xs.take a ++ vs).length = a + k := by rw [List.length_append, hl2, hv]
  have t1 : (xs.take a ++ Z).take a = xs.take a := by rw [List.take_append_of_le_length (by omega), List.take_take, Nat.min_self]
  have t2 : (xs.take a ++ Z).drop (a + k) = Z.drop k := by
    have h := List.drop_length_add_append (l₁ := xs.take a) (l₂ := Z) k
    rwa [hl2] at h
  have e1 : splice (xs.take a ++ Z) a vs = (xs.take a ++ vs) ++ Z.drop k := by
    unfold splice
    rw [t1, hv, t2, List.append_assoc]
  have t3 : ((xs.take a ++ vs) ++ Z.drop k).take (a + k) = xs.take a ++ vs := List.take_left' hl3
  have t4 : ((xs.take a ++ vs) ++ Z.drop k).drop (a + k + (n - a)) = Z.drop (k + (n - a)) := by
    have h := List.drop_length_add_append (l₁ := xs.take a ++ vs) (l₂ := Z.drop k) (n - a)
    rw [hl3, List.drop_drop] at h
    exact h
  have e2 : splice (splice (xs.take a ++ Z) a vs) (a + k) (xs.drop a) = (xs.take a ++ vs ++ xs.drop a) ++ Z.drop (k + (n - a)) := by
    rw [e1]
    conv => lhs; unfold splice
    rw [hl, t3, t4]
    simp only [List.append_assoc]
  rw [e2, List.take_append_of_le_length (by simp only [List.length_append]; omega), List.take_of_length_le (by simp only [List.length_append]; omega), List.append_assoc]
end Go.Proofs.YtekjfbmebekmeaaGreat
