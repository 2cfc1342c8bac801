import Derived.Test.YtgephenkbbelcaaDoorDla
import Derived.Test.YtgephenkbbelcaaDoorAn
import Derived.Deep.AppendLies
namespace Go.Proofs.YtgephenkbbelcaaDoor
open Go.RowKit
set_option linter.unusedVariables false
set_option linter.unusedSimpArgs false
def OwI (B : Nat) (v : Value) (L : List Ins) (w : World) : Prop := w.ownsRow B 42 5 v L.length (insV L)
def IsI (u : Value) : Prop := ∃ z, u = .int .i64 z
theorem insV_ints (L : List Ins) : ∀ u ∈ insV L, IsI u := by
  intro u hu
  simp only [insV, List.mem_flatMap] at hu
  obtain ⟨x, _, hx⟩ := hu
  simp only [Ins.cs, List.mem_cons, List.not_mem_nil, or_false] at hx
  rcases hx with h | h | h | h | h <;> exact ⟨_, h⟩
/-- numbers are symbols -/
theorem ints_insV : ∀ (n : Nat) (l : List Value), l.length = n * 5 → (∀ u ∈ l, IsI u) → ∃ L : List Ins, L.length = n ∧ insV L = l
  | 0, l, h, _ => ⟨[], rfl, (List.length_eq_zero_iff.1 (by omega)).symm⟩
  | n + 1, l, h, hu => by
    match l, h, hu with
    | a :: b :: c :: d :: e :: r, h, hu =>
      obtain ⟨L, h1, h2⟩ := ints_insV n r (by simp only [List.length_cons] at h; omega) (fun u hr => hu u (by simp [hr]))
      obtain ⟨a, rfl⟩ := hu a (by simp)
      obtain ⟨b, rfl⟩ := hu b (by simp)
      obtain ⟨c, rfl⟩ := hu c (by simp)
      obtain ⟨d, rfl⟩ := hu d (by simp)
      obtain ⟨e, rfl⟩ := hu e (by simp)
      exact ⟨⟨a, b, c, d, e⟩ :: L, by simp [h1], by rw [← h2]; rfl⟩
    | [], h, _ => simp at h
    | [_], h, _ => simp at h; omega
    | [_, _], h, _ => simp at h; omega
    | [_, _, _], h, _ => simp at h; omega
    | [_, _, _, _], h, _ => simp at h; omega
/-- an append to a list of symbols -/
structure App5 (w w' : World) (v v' : Value) (L zs : List Ins) : Prop where
  own : OwI 0 v' (L ++ zs) w'
  chg : Chg (fun b => v.ownBlock = some b) w w'
  blk : ∀ b, v'.ownBlock = some b → v.ownBlock = some b ∨ w.heap.size ≤ b
  pre : ∀ B g M, OwI B g M w → M.length ≤ L.length → OwI B g M w'
  ex : ∀ B g M, OwI B g M w → ∃ M', M'.length = M.length ∧ OwI B g M' w'
theorem OwI.low {B B' : Nat} {v : Value} {N : List Ins} {w : World} (h : OwI B v N w) (hB : B' ≤ B) : OwI B' v N w := by
  refine ⟨h.1, ?_⟩
  rcases h.2 with h | ⟨g, cap, cur, e1, hb, rest⟩
  · exact .inl h
  · exact .inr ⟨g, cap, cur, e1, Nat.le_trans hB hb, rest⟩
theorem OwI.chg {B : Nat} {S : Nat → Prop} {v : Value} {N : List Ins} {w w' : World} (h : OwI B v N w) (c : Chg S w w') (hS : ∀ b, v.ownBlock = some b → ¬ S b) : OwI B v N w' := owns_chg h hS c
theorem OwI.out {B : Nat} {v : Value} {N : List Ins} {w w' : World} (h : OwI B v N w) (o : Out w w') : OwI B v N w' := own_at h o
theorem app5_out {w w' : World} {v v' : Value} {L zs : List Ins} (hl : OwI 0 v L w) (o : Out w w') (hown : OwI 0 v' (L ++ zs) w') (hb : ∀ b, v'.ownBlock = some b → w.heap.size ≤ b) : App5 w w' v v' L zs :=
  ⟨hown, Chg.of_out o, fun b h => .inr (hb b h), fun B g M h _ => h.out o, fun B g M h => ⟨M, rfl, h.out o⟩⟩
set_option maxHeartbeats 1000000 in
theorem app5 (w : World) (v : Value) (L : List Ins) (hv : OwI 0 v L w) (ad : Addr) (zs : List Ins) (m c : Nat) (hzl : zs.length = m) (h0 : 0 < m) (hc : ∀ j u, (insV zs)[j]? = some u → w.cell? (ad.add j) = some u) (hn : L.length + m ≤ 2900000000000) :
    ∃ v' w', (∀ ty, (Builtin.append_ #[30, 30] ty #[v, .slice (some ad) m c]).run Tryd.prog w = .ok v' w') ∧ App5 w w' v v' L zs := by
  obtain ⟨i0, hi, hz0, hz1, hz2⟩ := info_parts info55
  have hzv : (insV zs).length = m * 5 := by rw [insV_len, hzl]
  have hle : (L ++ zs).length = L.length + m := by rw [List.length_append, hzl]
  have hav : insV (L ++ zs) = insV L ++ insV zs := insV_app L zs
  have h16 : (L.length + m) * i0.bytes ≤ 140737488355328 := by rw [hz2]; omega
  rcases hv.2 with ⟨rfl, hL0⟩ | ⟨g, cap, cur, rfl, hb, hg, hnc, hcm, hcs, ht⟩
  · obtain rfl : L = [] := List.length_eq_zero_iff.1 hL0
    have hr := fun ty => run_append_nil (P := Tryd.prog) w 30 ty 42 i0 _ Tryd.underlying30 hi hz0 ad m c (insV zs) (by rw [hz1, hzv]) hc h0 (by omega) (by rw [hz2]; simp only [List.length_nil] at hn; omega)
    have hge := grownCap_ge w m 0 42
    have hcm := grownCap_le_maxLen w m 0 42 (by unfold maxLen; simp only [List.length_nil] at hn; omega)
    refine ⟨_, _, hr, app5_out hv ((Out.refl w).drew.alloc _) ⟨by rw [insV_len], .inr ⟨w.heap.size, _, _, by simp only [List.nil_append, hzl], Nat.zero_le _, heap_alloc_new w.drew _, by simp only [List.nil_append, hzl]; exact hge, hcm, ?_, ?_⟩⟩ (fun b hb => by simp [Value.ownBlock] at hb; omega)⟩
    · rw [Array.size_append, size_zeroCells]; simp [Value.cells, hzv]; omega
    · simp only [List.nil_append, hzl]
      rw [Array.toList_append, List.toList_toArray, List.take_append_of_le_length (by rw [hzv]; omega), List.take_of_length_le (by rw [hzv]; omega)]
  · have hlen : L.length * 5 ≤ cur.toList.length := by simp; omega
    by_cases hroom : L.length + m ≤ cap
    · have hr := fun ty => run_append_room (P := Tryd.prog) w 30 ty 42 i0 Tryd.underlying30 hi g L.length cap cur hg ad m c (insV zs) (by rw [hz1, hzv]) hc (insV_one zs) hroom (by rw [hz1]; omega)
      rw [hz1] at hr
      rw [hzv] at hr
      obtain ⟨cur2, hcur2⟩ : ∃ cur2, cur2 = (cur.toList.take (L.length * 5) ++ insV zs ++ cur.toList.drop (L.length * 5 + m * 5)).toArray := ⟨_, rfl⟩
      rw [← hcur2] at hr
      have hh : (w.setRow g cur2).heap[g]? = some (.cells cur2 42 (0, 0)) := setRow_heap w g _ _ _ _ hg
      have hs2 : cur2.size = cap * 5 := by
        rw [hcur2]; simp [hzv]; omega
      have hct : cur2.toList = cur.toList.take (L.length * 5) ++ (insV zs ++ cur.toList.drop (L.length * 5 + m * 5)) := by rw [hcur2, List.toList_toArray, List.append_assoc]
      have hl6 : (cur.toList.take (L.length * 5)).length = L.length * 5 := by rw [List.length_take]; omega
      have same : ∀ k, k ≤ L.length → cur2.toList.take (k * 5) = cur.toList.take (k * 5) := fun k hk => by
        rw [hct, List.take_append_of_le_length (by omega), List.take_take, Nat.min_eq_left (by omega)]
      have ints : ∀ k M, k * 5 ≤ cur.size → cur.toList.take (k * 5) = insV M → ∀ u ∈ cur2.toList.take (k * 5), IsI u := fun k M hk hM u hu => by
        have hint : ∀ u ∈ cur.toList.take (k * 5), IsI u := by rw [hM]; exact insV_ints M
        obtain ⟨j, hj, rfl⟩ := List.getElem_of_mem hu
        have hjl : j < k * 5 := by rw [List.length_take] at hj; omega
        have hj2 : j < cur2.toList.length := by rw [List.length_take] at hj; omega
        rw [List.getElem_take]
        have hget : cur2.toList[j]? = if j < L.length * 5 then cur.toList[j]? else if j < L.length * 5 + m * 5 then (insV zs)[j - L.length * 5]? else cur.toList[j]? := by
          rw [hct]
          by_cases h1 : j < L.length * 5
          · rw [if_pos h1, List.getElem?_append_left (by omega), List.getElem?_take_of_lt h1]
          · rw [if_neg h1, List.getElem?_append_right (by omega), hl6]
            by_cases h2 : j < L.length * 5 + m * 5
            · rw [if_pos h2, List.getElem?_append_left (by omega)]
            · rw [if_neg h2, List.getElem?_append_right (by omega), List.getElem?_drop, show L.length * 5 + m * 5 + (j - L.length * 5 - (insV zs).length) = j by omega]
        have hold : ∀ x, cur.toList[j]? = some x → IsI x := fun x hx => hint x (List.mem_of_getElem? (i := j) (by rw [List.getElem?_take_of_lt hjl]; exact hx))
        have hx := List.getElem?_eq_getElem hj2
        rw [hget] at hx
        split at hx
        · exact hold _ hx
        · split at hx
          · exact insV_ints zs _ (List.mem_of_getElem? hx)
          · exact hold _ hx
      refine ⟨_, _, hr, ⟨?_, ⟨rfl, rfl, rfl, by simp [World.setRow], fun k hk hne => setRow_other w g k _ (fun e => hne (by rw [e]; rfl))⟩, fun b hb => .inl hb, fun B g2 M h2 hM => ?_, fun B g2 M h2 => ?_⟩⟩
      · refine ⟨by rw [insV_len], .inr ⟨g, cap, cur2, by rw [hle], hb, hh, by omega, hcm, hs2, ?_⟩⟩
        rw [hle, hav, hct, ← List.append_assoc, List.take_append_of_le_length (by rw [List.length_append, hl6, hzv]; omega), List.take_of_length_le (by rw [List.length_append, hl6, hzv]; omega), ht]
      · refine ⟨h2.1, ?_⟩
        rcases h2.2 with h | ⟨g3, cap2, cur3, e2, hb2, hg2, hnc2, hcm2, hcs2, ht2⟩
        · exact .inl h
        · by_cases hgg : g3 = g
          · subst hgg
            rw [hg] at hg2
            simp at hg2
            subst hg2
            exact .inr ⟨g3, cap2, cur2, e2, hb2, hh, hnc2, hcm2, by omega, by rw [same _ hM]; exact ht2⟩
          · exact .inr ⟨g3, cap2, cur3, e2, hb2, (setRow_other w g g3 _ hgg).trans hg2, hnc2, hcm2, hcs2, ht2⟩
      · rcases h2.2 with ⟨h, hM0⟩ | ⟨g3, cap2, cur3, e2, hb2, hg2, hnc2, hcm2, hcs2, ht2⟩
        · exact ⟨M, rfl, h2.1, .inl ⟨h, hM0⟩⟩
        · by_cases hgg : g3 = g
          · subst hgg
            rw [hg] at hg2
            simp at hg2
            subst hg2
            obtain ⟨M', hM1, hM2⟩ := ints_insV M.length (cur2.toList.take (M.length * 5)) (by rw [List.length_take]; simp; omega) (ints M.length M (by omega) ht2)
            refine ⟨M', hM1, by rw [insV_len], .inr ⟨g3, cap2, cur2, by rw [hM1]; exact e2, hb2, hh, by omega, hcm2, by omega, by rw [hM1]; exact hM2.symm⟩⟩
          · exact ⟨M, rfl, h2.1, .inr ⟨g3, cap2, cur3, e2, hb2, (setRow_other w g g3 _ hgg).trans hg2, hnc2, hcm2, hcs2, ht2⟩⟩
    · have hr := fun ty => run_append_grow (P := Tryd.prog) w 30 ty 42 i0 _ Tryd.underlying30 hi hz0 ⟨g, 0, none⟩ L.length cap (insV L) (by rw [hz1, insV_len]) (fun j u hu => World.ownsRow.cells (g := g) hv rfl j u hu) ad m c (insV zs) (by rw [hz1, hzv]) hc (by omega) (by omega) (growslice_fits (by omega) h16)
      have hge := grownCap_ge w (L.length + m) cap 42
      have hcm' := grownCap_le_maxLen w (L.length + m) cap 42 (by unfold maxLen; omega)
      refine ⟨_, _, hr, app5_out hv ((Out.refl w).drew.alloc _) ⟨by rw [insV_len], .inr ⟨w.heap.size, _, _, by rw [hle], Nat.zero_le _, heap_alloc_new w.drew _, by rw [hle]; exact hge, hcm', ?_, ?_⟩⟩ (fun b hb => by simp [Value.ownBlock] at hb; omega)⟩
      · rw [Array.size_append, Array.size_append, size_zeroCells]; simp [insV_len, Value.cells, hzl]; omega
      · rw [hle, hav, Array.toList_append, Array.toList_append, List.toList_toArray, List.toList_toArray, List.take_append_of_le_length (by rw [List.length_append, insV_len, hzv]; omega), List.take_of_length_le (by rw [List.length_append, insV_len, hzv]; omega)]
theorem wpList_app5 {w : World} {ops : Array Oper} {rest : List Oper} {o : Oper} {a : Act} {Q : Exit → Act → World → Prop} (hgd : o.guard = none) (s x : Operand)
    (ho : o.op = .call { callee := .builtin .append, args := #[s, x], argTypes := #[30, 30] })
    (v : Value) (L : List Ins) (hs : a.eval s = v) (hown : OwI 0 v L w) (ad : Addr) (zs : List Ins) (m c : Nat) (hzl : zs.length = m) (h0 : 0 < m) (hx : a.eval x = .slice (some ad) m c) (hc : ∀ j u, (insV zs)[j]? = some u → w.cell? (ad.add j) = some u) (hn : L.length + m ≤ 2900000000000)
    (h : ∀ v' w', App5 w w' v v' L zs → wpList Tryd.prog ops Q rest (a.put o.dst v') w') : wpList Tryd.prog ops Q (o :: rest) a w := by
  refine wpList_plain hgd fun K hK => ?_
  obtain ⟨v', w', hr, h2⟩ := app5 w v L hown ad zs m c hzl h0 hc hn
  unfold Oper.wp execOp
  simp only [ho, resolve, invoke, builtin, Sem.run_bind, Sem.run_pure, Result.andThen_ok, List.map_toArray, List.map_cons, List.map_nil, hs, hx, hr]
  exact hK _ _ (h v' w' h2)
theorem step_app5 {w : World} {ops : Array Oper} {o : Oper} {a : Act} {K : Act → World → Prop} {Q : Exit → Act → World → Prop} {E : Prop} (hgd : o.guard = none) (s x : Operand)
    (ho : o.op = .call { callee := .builtin .append, args := #[s, x], argTypes := #[30, 30] })
    (v : Value) (L : List Ins) (hs : a.eval s = v) (hown : OwI 0 v L w) (ad : Addr) (zs : List Ins) (m c : Nat) (hzl : zs.length = m) (h0 : 0 < m) (hx : a.eval x = .slice (some ad) m c) (hc : ∀ j u, (insV zs)[j]? = some u → w.cell? (ad.add j) = some u) (hn : L.length + m ≤ 2900000000000)
    (h : ∀ v' w', App5 w w' v v' L zs → K (a.put o.dst v') w') : if Region.wanted o (yielded ops a.tmps) = true then Oper.wp Tryd.prog o a w K Q else E := by
  have hw : Region.wanted o (yielded ops a.tmps) = true := by simp [Region.wanted, hgd]
  rw [if_pos hw]
  obtain ⟨v', w', hr, h2⟩ := app5 w v L hown ad zs m c hzl h0 hc hn
  unfold Oper.wp execOp
  simp only [ho, resolve, invoke, builtin, Sem.run_bind, Sem.run_pure, Result.andThen_ok, List.map_toArray, List.map_cons, List.map_nil, hs, hx, hr]
  exact h v' w' h2
theorem App5.form {w w' : World} {v v' : Value} {L zs : List Ins} (h : App5 w w' v v' L zs) {n m : Nat} (hn : L.length = n) (hm : zs.length = m) : ∃ a c, v' = .slice a (n + m) c := by
  obtain ⟨a, c, e⟩ := own_form h.own
  exact ⟨a, c, by rw [e, List.length_append, hn, hm]⟩
end Go.Proofs.YtgephenkbbelcaaDoor
