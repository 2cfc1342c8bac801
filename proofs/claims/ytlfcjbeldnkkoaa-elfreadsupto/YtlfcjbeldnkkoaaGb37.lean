import Derived.Test.YtlfcjbeldnkkoaaGb20
import Derived.Test.YtlfcjbeldnkkoaaGb26
import Derived.Deep.AppendLies
import Derived.Deep.RegionHeld3
import Derived.Deep.DeepCutAuto
namespace Go.Proofs.Ytlfcjbeldnkkoaa
open Go.RowKit
set_option linter.unusedVariables false
set_option linter.unusedSimpArgs false
/-- a section as its eight cells hold it -/
structure Fs where
  nm : List UInt8
  ty : Int
  fl : Int
  li : Int
  inf : Int
  al : Int
  es : Int
  da : Option Addr
  dl : Nat
  dc : Nat
def Fs.cs (x : Fs) : List Value := [.string ⟨x.nm.toArray⟩, .int .i64 x.ty, .int .i64 x.fl, .int .i64 x.li, .int .i64 x.inf, .int .i64 x.al, .int .i64 x.es, .slice x.da x.dl x.dc]
def fsV (L : List Fs) : List Value := L.flatMap Fs.cs
theorem fsV_len (L : List Fs) : (fsV L).length = L.length * 8 := by
  induction L with
  | nil => rfl
  | cons x r ih => simp only [fsV, List.flatMap_cons, List.length_append, List.length_cons] at ih ⊢; rw [ih]; simp [Fs.cs]; omega
theorem fsV_app (L R : List Fs) : fsV (L ++ R) = fsV L ++ fsV R := by simp [fsV]
theorem fsV_one (L : List Fs) : ∀ u ∈ fsV L, u.oneCell' = true := by
  intro u hu
  simp only [fsV, List.mem_flatMap] at hu
  obtain ⟨x, _, hx⟩ := hu
  simp only [Fs.cs, List.mem_cons, List.not_mem_nil, or_false] at hx
  rcases hx with h | h | h | h | h | h | h | h <;> subst h <;> rfl
theorem fsV_take (L : List Fs) (k : Nat) : fsV (L.take k) = (fsV L).take (k * 8) := by
  by_cases hk : k ≤ L.length
  · have h := fsV_app (L.take k) (L.drop k)
    rw [List.take_append_drop] at h
    rw [h]
    exact (List.take_left' (by rw [fsV_len, List.length_take]; omega)).symm
  · have h1 : L.take k = L := List.take_of_length_le (by omega)
    rw [h1]
    exact (List.take_of_length_le (by rw [fsV_len]; omega)).symm
theorem fsV_drop (L : List Fs) (k : Nat) : fsV (L.drop k) = (fsV L).drop (k * 8) := by
  by_cases hk : k ≤ L.length
  · have h := fsV_app (L.take k) (L.drop k)
    rw [List.take_append_drop] at h
    rw [h]
    exact (List.drop_left' (by rw [fsV_len, List.length_take]; omega)).symm
  · have h1 : L.drop k = [] := List.drop_eq_nil_of_le (by omega)
    rw [h1]
    exact (List.drop_eq_nil_of_le (by rw [fsV_len]; omega)).symm
def SV.fs (x : SV) : Fs := ⟨x.s.nm, x.s.ty, x.s.fl, x.s.li, x.s.inf, x.s.al, x.s.es, x.da, x.s.d.length, x.dc⟩
theorem sv_fs (x : SV) : x.fs.cs = x.cs := rfl
theorem svV_fs (L : List SV) : svV L = fsV (L.map SV.fs) := by
  induction L with
  | nil => rfl
  | cons x r ih => simp only [svV, fsV, List.map_cons, List.flatMap_cons] at ih ⊢; rw [ih]; rfl
def OwZ (B : Nat) (v : Value) (N : List Fs) (w : World) : Prop := w.ownsRow B 46 8 v N.length (fsV N)
/-- a list that is written over from n on: another that lies in the same block -/
theorem splice_fs {cur : List Value} {n m k : Nat} {M zs : List Fs} (hk : n ≤ k) (hM : M.length = k) (hm : zs.length = m) (hc : k * 8 ≤ cur.length) (hn : n * 8 + m * 8 ≤ cur.length) (h : cur.take (k * 8) = fsV M) : fsV ((M.take n ++ zs ++ M.drop (n + m)).take k) = (cur.take (n * 8) ++ (fsV zs ++ cur.drop (n * 8 + m * 8))).take (k * 8) := by
  rw [fsV_take, fsV_app, fsV_app, fsV_take, fsV_drop, ← h]
  have hz : (fsV zs).length = m * 8 := by rw [fsV_len, hm]
  apply List.ext_getElem?
  intro j
  simp only [List.getElem?_take, List.getElem?_append, List.getElem?_drop, List.length_append, List.length_take, hz]
  repeat' split
  all_goals first | rfl | omega | (congr 1; omega) | (exfalso; omega)
/-- .. and one that agrees with what is written stays -/
theorem splice_eq {n m k : Nat} {M zs : List Fs} (hk : n ≤ k) (hM : M.length = k) (hm : zs.length = m) (h : ∀ j z, zs[j]? = some z → M[n + j]? = none ∨ M[n + j]? = some z) : (M.take n ++ zs ++ M.drop (n + m)).take k = M := by
  apply List.ext_getElem?
  intro j
  simp only [List.getElem?_take, List.getElem?_append, List.getElem?_drop, List.length_append, List.length_take, hM, hm]
  by_cases h1 : j < k
  · rw [if_pos h1]
    by_cases h2 : j < n
    · rw [if_pos (by omega), if_pos (by omega), if_pos h2]
    · by_cases h3 : j < n + m
      · rw [if_pos (by omega), if_neg (by omega)]
        obtain ⟨z, hz⟩ : ∃ z, zs[j - n]? = some z := ⟨_, List.getElem?_eq_getElem (by omega)⟩
        rw [show j - min n k = j - n by omega, hz]
        rcases h _ z hz with h4 | h4
        · rw [show n + (j - n) = j by omega, List.getElem?_eq_none_iff] at h4
          omega
        · rw [← h4]; congr 1; omega
      · rw [if_neg (by omega)]
        congr 1
        omega
  · rw [if_neg h1]
    exact (List.getElem?_eq_none_iff.2 (by omega)).symm
/-- an append to a list of sections -/
structure App8 (w w' : World) (v v' : Value) (L zs : List Fs) : Prop where
  own : OwZ 0 v' (L ++ zs) w'
  chg : Chg (fun b => v.ownBlock = some b) w w'
  blk : ∀ b, v'.ownBlock = some b → v.ownBlock = some b ∨ w.heap.size ≤ b
  pre : ∀ B g M, OwZ B g M w → M.length ≤ L.length → OwZ B g M w'
  ex : ∀ B g M, OwZ B g M w → ∃ M', M'.length = M.length ∧ OwZ B g M' w'
  agr : ∀ B g M, OwZ B g M w → (∀ j z, zs[j]? = some z → M[L.length + j]? = none ∨ M[L.length + j]? = some z) → OwZ B g M w'
theorem OwZ.low {B B' : Nat} {v : Value} {N : List Fs} {w : World} (h : OwZ B v N w) (hB : B' ≤ B) : OwZ B' v N w := by
  refine ⟨h.1, ?_⟩
  rcases h.2 with h | ⟨g, cap, cur, e1, hb, rest⟩
  · exact .inl h
  · exact .inr ⟨g, cap, cur, e1, Nat.le_trans hB hb, rest⟩
theorem OwZ.chg {B : Nat} {S : Nat → Prop} {v : Value} {N : List Fs} {w w' : World} (h : OwZ B v N w) (c : Chg S w w') (hS : ∀ b, v.ownBlock = some b → ¬ S b) : OwZ B v N w' := owns_chg h hS c
theorem OwZ.out {B : Nat} {v : Value} {N : List Fs} {w w' : World} (h : OwZ B v N w) (o : Out w w') : OwZ B v N w' := own_at h o
theorem app8_out {w w' : World} {v v' : Value} {L zs : List Fs} (hl : OwZ 0 v L w) (o : Out w w') (hown : OwZ 0 v' (L ++ zs) w') (hb : ∀ b, v'.ownBlock = some b → w.heap.size ≤ b) : App8 w w' v v' L zs :=
  ⟨hown, Chg.of_out o, fun b h => .inr (hb b h), fun B g M h _ => h.out o, fun B g M h => ⟨M, rfl, h.out o⟩, fun B g M h _ => h.out o⟩
set_option maxHeartbeats 1000000 in
theorem app8 (w : World) (v : Value) (L : List Fs) (hv : OwZ 0 v L w) (ad : Addr) (zs : List Fs) (m c : Nat) (hzl : zs.length = m) (h0 : 0 < m) (hc : ∀ j u, (fsV zs)[j]? = some u → w.cell? (ad.add j) = some u) (hn : L.length + m ≤ 1500000000000) :
    ∃ v' w', (∀ ty, (Builtin.append_ #[38, 38] ty #[v, .slice (some ad) m c]).run Try.prog w = .ok v' w') ∧ App8 w w' v v' L zs := by
  obtain ⟨i0, hi, hz0, hz1, hz2⟩ := info_parts infoSc
  have hzv : (fsV zs).length = m * 8 := by rw [fsV_len, hzl]
  have hle : (L ++ zs).length = L.length + m := by rw [List.length_append, hzl]
  have hav : fsV (L ++ zs) = fsV L ++ fsV zs := fsV_app L zs
  have h16 : (L.length + m) * i0.bytes ≤ 140737488355328 := by rw [hz2]; omega
  rcases hv.2 with ⟨rfl, hL0⟩ | ⟨g, cap, cur, rfl, hb, hg, hnc, hcm, hcs, ht⟩
  · obtain rfl : L = [] := List.length_eq_zero_iff.1 hL0
    have hr := fun ty => run_append_nil (P := Try.prog) w 38 ty 46 i0 _ Try.underlying38 hi hz0 ad m c (fsV zs) (by rw [hz1, hzv]) hc h0 (by omega) (by rw [hz2]; simp only [List.length_nil] at hn; omega)
    have hge := grownCap_ge w m 0 46
    have hcm := grownCap_le_maxLen w m 0 46 (by unfold maxLen; simp only [List.length_nil] at hn; omega)
    refine ⟨_, _, hr, app8_out hv ((Out.refl w).drew.alloc _) ⟨by rw [fsV_len], .inr ⟨w.heap.size, _, _, by simp only [List.nil_append, hzl], Nat.zero_le _, heap_alloc_new w.drew _, by simp only [List.nil_append, hzl]; exact hge, hcm, ?_, ?_⟩⟩ (fun b hb => by simp [Value.ownBlock] at hb; omega)⟩
    · rw [Array.size_append, size_zeroCells]; simp [Value.cells, hzv]; omega
    · simp only [List.nil_append, hzl]
      rw [Array.toList_append, List.toList_toArray, List.take_append_of_le_length (by rw [hzv]; omega), List.take_of_length_le (by rw [hzv]; omega)]
  · have hlen : L.length * 8 ≤ cur.toList.length := by simp; omega
    by_cases hroom : L.length + m ≤ cap
    · have hr := fun ty => run_append_room (P := Try.prog) w 38 ty 46 i0 Try.underlying38 hi g L.length cap cur hg ad m c (fsV zs) (by rw [hz1, hzv]) hc (fsV_one zs) hroom (by rw [hz1]; omega)
      rw [hz1] at hr
      rw [hzv] at hr
      obtain ⟨cur2, hcur2⟩ : ∃ cur2, cur2 = (cur.toList.take (L.length * 8) ++ fsV zs ++ cur.toList.drop (L.length * 8 + m * 8)).toArray := ⟨_, rfl⟩
      rw [← hcur2] at hr
      have hh : (w.setRow g cur2).heap[g]? = some (.cells cur2 46 (0, 0)) := setRow_heap w g _ _ _ _ hg
      have hs2 : cur2.size = cap * 8 := by
        rw [hcur2]; simp [hzv]; omega
      have hct : cur2.toList = cur.toList.take (L.length * 8) ++ (fsV zs ++ cur.toList.drop (L.length * 8 + m * 8)) := by rw [hcur2, List.toList_toArray, List.append_assoc]
      have hl6 : (cur.toList.take (L.length * 8)).length = L.length * 8 := by rw [List.length_take]; omega
      have same : ∀ k, k ≤ L.length → cur2.toList.take (k * 8) = cur.toList.take (k * 8) := fun k hk => by
        rw [hct, List.take_append_of_le_length (by omega), List.take_take, Nat.min_eq_left (by omega)]
      refine ⟨_, _, hr, ⟨?_, ⟨rfl, rfl, rfl, by simp [World.setRow], fun k hk hne => setRow_other w g k _ (fun e => hne (by rw [e]; rfl))⟩, fun b hb => .inl hb, fun B g2 M h2 hM => ?_, fun B g2 M h2 => ?_, fun B g2 M h2 hag => ?_⟩⟩
      · refine ⟨by rw [fsV_len], .inr ⟨g, cap, cur2, by rw [hle], hb, hh, by omega, hcm, hs2, ?_⟩⟩
        rw [hle, hav, hct, ← List.append_assoc, List.take_append_of_le_length (by rw [List.length_append, hl6, hzv]; omega), List.take_of_length_le (by rw [List.length_append, hl6, hzv]; omega), ht]
      · refine ⟨h2.1, ?_⟩
        rcases h2.2 with h | ⟨g3, cap2, cur3, e2, hb2, hg2, hnc2, hcm2, hcs2, ht2⟩
        · exact .inl h
        · by_cases hgg : g3 = g
          · subst hgg
            rw [hg] at hg2
            simp at hg2
            subst hg2
            exact .inr ⟨g3, cap2, cur2, e2, hb2, hh, hnc2, hcm2, by omega, by rw [same _ hM]; exact ht2⟩
          · exact .inr ⟨g3, cap2, cur3, e2, hb2, (setRow_other w g g3 _ hgg).trans hg2, hnc2, hcm2, hcs2, ht2⟩
      · rcases h2.2 with ⟨h, hM0⟩ | ⟨g3, cap2, cur3, e2, hb2, hg2, hnc2, hcm2, hcs2, ht2⟩
        · exact ⟨M, rfl, h2.1, .inl ⟨h, hM0⟩⟩
        · by_cases hgg : g3 = g
          · subst hgg
            rw [hg] at hg2
            simp at hg2
            subst hg2
            obtain ⟨M', hM1, hM2⟩ : ∃ M', M'.length = M.length ∧ fsV M' = cur2.toList.take (M.length * 8) := by
              by_cases hML : M.length ≤ L.length
              · exact ⟨M, rfl, by rw [same _ hML]; exact ht2.symm⟩
              · rw [hct]
                exact ⟨(M.take L.length ++ zs ++ M.drop (L.length + m)).take M.length, by simp [hzl]; omega, splice_fs (by omega) rfl hzl (by simp; omega) (by simp; omega) ht2⟩
            refine ⟨M', hM1, by rw [fsV_len], .inr ⟨g3, cap2, cur2, by rw [hM1]; exact e2, hb2, hh, by omega, hcm2, by omega, by rw [hM1]; exact hM2.symm⟩⟩
          · exact ⟨M, rfl, h2.1, .inr ⟨g3, cap2, cur3, e2, hb2, (setRow_other w g g3 _ hgg).trans hg2, hnc2, hcm2, hcs2, ht2⟩⟩
      · refine ⟨h2.1, ?_⟩
        rcases h2.2 with h | ⟨g3, cap2, cur3, e2, hb2, hg2, hnc2, hcm2, hcs2, ht2⟩
        · exact .inl h
        · by_cases hgg : g3 = g
          · subst hgg
            rw [hg] at hg2
            simp at hg2
            subst hg2
            refine .inr ⟨g3, cap2, cur2, e2, hb2, hh, hnc2, hcm2, by omega, ?_⟩
            by_cases hML : M.length ≤ L.length
            · rw [same _ hML]; exact ht2
            · rw [hct, ← splice_fs (by omega) rfl hzl (by simp; omega) (by simp; omega) ht2, splice_eq (by omega) rfl hzl hag]
          · exact .inr ⟨g3, cap2, cur3, e2, hb2, (setRow_other w g g3 _ hgg).trans hg2, hnc2, hcm2, hcs2, ht2⟩
    · have hr := fun ty => run_append_grow (P := Try.prog) w 38 ty 46 i0 _ Try.underlying38 hi hz0 ⟨g, 0, none⟩ L.length cap (fsV L) (by rw [hz1, fsV_len]) (fun j u hu => World.ownsRow.cells (g := g) hv rfl j u hu) ad m c (fsV zs) (by rw [hz1, hzv]) hc (by omega) (by omega) (growslice_fits (by omega) h16)
      have hge := grownCap_ge w (L.length + m) cap 46
      have hcm' := grownCap_le_maxLen w (L.length + m) cap 46 (by unfold maxLen; omega)
      refine ⟨_, _, hr, app8_out hv ((Out.refl w).drew.alloc _) ⟨by rw [fsV_len], .inr ⟨w.heap.size, _, _, by rw [hle], Nat.zero_le _, heap_alloc_new w.drew _, by rw [hle]; exact hge, hcm', ?_, ?_⟩⟩ (fun b hb => by simp [Value.ownBlock] at hb; omega)⟩
      · rw [Array.size_append, Array.size_append, size_zeroCells]; simp [fsV_len, Value.cells, hzl]; omega
      · rw [hle, hav, Array.toList_append, Array.toList_append, List.toList_toArray, List.toList_toArray, List.take_append_of_le_length (by rw [List.length_append, fsV_len, hzv]; omega), List.take_of_length_le (by rw [List.length_append, fsV_len, hzv]; omega)]
theorem wpList_app8 {w : World} {ops : Array Oper} {rest : List Oper} {o : Oper} {a : Act} {Q : Exit → Act → World → Prop} (hgd : o.guard = none) (s x : Operand)
    (ho : o.op = .call { callee := .builtin .append, args := #[s, x], argTypes := #[38, 38] })
    (v : Value) (L : List Fs) (hs : a.eval s = v) (hown : OwZ 0 v L w) (ad : Addr) (zs : List Fs) (m c : Nat) (hzl : zs.length = m) (h0 : 0 < m) (hx : a.eval x = .slice (some ad) m c) (hc : ∀ j u, (fsV zs)[j]? = some u → w.cell? (ad.add j) = some u) (hn : L.length + m ≤ 1500000000000)
    (h : ∀ v' w', App8 w w' v v' L zs → wpList Try.prog ops Q rest (a.put o.dst v') w') : wpList Try.prog ops Q (o :: rest) a w := by
  refine wpList_plain hgd fun K hK => ?_
  obtain ⟨v', w', hr, h2⟩ := app8 w v L hown ad zs m c hzl h0 hc hn
  unfold Oper.wp execOp
  simp only [ho, resolve, invoke, builtin, Sem.run_bind, Sem.run_pure, Result.andThen_ok, List.map_toArray, List.map_cons, List.map_nil, hs, hx, hr]
  exact hK _ _ (h v' w' h2)
theorem step_app8 {w : World} {ops : Array Oper} {o : Oper} {a : Act} {K : Act → World → Prop} {Q : Exit → Act → World → Prop} {E : Prop} (hgd : o.guard = none) (s x : Operand)
    (ho : o.op = .call { callee := .builtin .append, args := #[s, x], argTypes := #[38, 38] })
    (v : Value) (L : List Fs) (hs : a.eval s = v) (hown : OwZ 0 v L w) (ad : Addr) (zs : List Fs) (m c : Nat) (hzl : zs.length = m) (h0 : 0 < m) (hx : a.eval x = .slice (some ad) m c) (hc : ∀ j u, (fsV zs)[j]? = some u → w.cell? (ad.add j) = some u) (hn : L.length + m ≤ 1500000000000)
    (h : ∀ v' w', App8 w w' v v' L zs → K (a.put o.dst v') w') : if Region.wanted o (yielded ops a.tmps) = true then Oper.wp Try.prog o a w K Q else E := by
  have hw : Region.wanted o (yielded ops a.tmps) = true := by simp [Region.wanted, hgd]
  rw [if_pos hw]
  obtain ⟨v', w', hr, h2⟩ := app8 w v L hown ad zs m c hzl h0 hc hn
  unfold Oper.wp execOp
  simp only [ho, resolve, invoke, builtin, Sem.run_bind, Sem.run_pure, Result.andThen_ok, List.map_toArray, List.map_cons, List.map_nil, hs, hx, hr]
  exact h v' w' h2
theorem App8.form {w w' : World} {v v' : Value} {L zs : List Fs} (h : App8 w w' v v' L zs) {n m : Nat} (hn : L.length = n) (hm : zs.length = m) : ∃ a c, v' = .slice a (n + m) c := by
  obtain ⟨a, c, e⟩ := own_form h.own
  exact ⟨a, c, by rw [e, List.length_append, hn, hm]⟩
end Go.Proofs.Ytlfcjbeldnkkoaa
namespace Go.Proofs.Ytlfcjbeldnkkoaa
open Go.RowKit
set_option linter.unusedVariables false
set_option linter.unusedSimpArgs false
theorem fsV_get {L : List Fs} {i : Nat} {x : Fs} (h : L[i]? = some x) (j : Nat) (hj : j < 8) : (fsV L)[i * 8 + j]? = x.cs[j]? := by
  have hi := (List.getElem?_eq_some_iff.1 h).1
  have e : L = L.take i ++ (x :: L.drop (i + 1)) := by
    have := List.take_append_drop i L
    rw [List.drop_eq_getElem_cons hi] at this
    rw [(List.getElem?_eq_some_iff.1 h).2] at this
    exact this.symm
  rw [e, fsV_app, List.getElem?_append_right (by rw [fsV_len, List.length_take]; omega), fsV_len, List.length_take, Nat.min_eq_left (by omega), show i * 8 + j - i * 8 = j by omega]
  show (x.cs ++ fsV _)[j]? = _
  rw [List.getElem?_append_left (by simp [Fs.cs]; omega)]
theorem OwZ.cells {B : Nat} {a : Option Addr} {n c : Nat} {N : List Fs} {w : World} (h : OwZ B (.slice a n c) N w) {i : Nat} {x : Fs} (hx : N[i]? = some x) : ∃ g, a = some ⟨g, 0, none⟩ ∧ w.cell? ⟨g, i * 8, none⟩ = some (.string ⟨x.nm.toArray⟩) ∧ w.cell? ⟨g, i * 8 + 1, none⟩ = some (.int .i64 x.ty) ∧ w.cell? ⟨g, i * 8 + 2, none⟩ = some (.int .i64 x.fl) ∧ w.cell? ⟨g, i * 8 + 3, none⟩ = some (.int .i64 x.li) ∧ w.cell? ⟨g, i * 8 + 4, none⟩ = some (.int .i64 x.inf) ∧ w.cell? ⟨g, i * 8 + 5, none⟩ = some (.int .i64 x.al) ∧ w.cell? ⟨g, i * 8 + 6, none⟩ = some (.int .i64 x.es) ∧ w.cell? ⟨g, i * 8 + 7, none⟩ = some (.slice x.da x.dl x.dc) := by
  have hi := (List.getElem?_eq_some_iff.1 hx).1
  rcases h.2 with ⟨_, h0⟩ | ⟨g, cap, cur, e, _⟩
  · omega
  · have e2 := e
    simp only [Value.slice.injEq] at e2
    have hk : ∀ j u, j < 8 → x.cs[j]? = some u → w.cell? ⟨g, i * 8 + j, none⟩ = some u := fun j u hj hu => by
      have := World.ownsRow.cells h (g := g) (by rw [e]; rfl) (i * 8 + j) u (by rw [fsV_get hx j hj]; exact hu)
      rw [WideShapes.add_plain, Nat.zero_add] at this
      exact this
    exact ⟨g, e2.1, hk 0 _ (by omega) rfl, hk 1 _ (by omega) rfl, hk 2 _ (by omega) rfl, hk 3 _ (by omega) rfl, hk 4 _ (by omega) rfl, hk 5 _ (by omega) rfl, hk 6 _ (by omega) rfl, hk 7 _ (by omega) rfl⟩
theorem OwZ.cap {B : Nat} {a : Option Addr} {n c : Nat} {N : List Fs} {w : World} (h : OwZ B (.slice a n c) N w) : n = N.length ∧ n ≤ c := by
  rcases h.2 with ⟨h1, h0⟩ | ⟨g, cap, cur, e, _, _, hc, _⟩
  · simp only [Value.slice.injEq] at h1; omega
  · simp only [Value.slice.injEq] at e; omega
set_option maxRecDepth 8000 in
set_option maxHeartbeats 2000000 in
theorem flat_any (w : World) (a a' : Option Addr) (n c c' : Nat) (N : List Fs) (hn : N.length = n) (h : OwZ 0 (.slice a n c) N w) (h' : OwZ 0 (.slice a' n c') N w) (hl : n ≤ 1000000000000) : Calls Try.prog 69 #[.slice a n c, .slice a' n c'] w fun e w' => e = .returned (.bool true) ∧ Out w w' := by
  have H1 := hidOf h
  have H2 := hidOf h'
  have Hn := hidOf hn
  have hcI : (n : Int) ≤ c := by have := h.cap; omega
  have hdI : (n : Int) ≤ c' := by have := h'.cap; omega
  have hnI : ((n : Int) != n) = false := by simp
  clear h h' hn
  go_enter Try.func69, Try.ntmps69
  go_wp2
  go_loopw [5] (fun iv wr => ∃ i : Nat, iv = .int .i64 i ∧ i ≤ n ∧ Hid (Out w wr)) (fun iv _ => n - (intOf iv).toNat)
  case atStart => exact ⟨0, rfl, by omega, hidOf (Out.refl _)⟩
  case round =>
    obtain ⟨i, rfl, hi, Ho⟩ := hrel
    by_cases hiL : i < n
    · have hlt : (i : Int) < n := by omega
      have h0 : (0 : Int) ≤ i := by omega
      obtain ⟨x, hx⟩ : ∃ x, N[i]? = some x := ⟨_, List.getElem?_eq_getElem (by rw [Hn.out]; exact hiL)⟩
      obtain ⟨g, rfl, p0, p1, p2, p3, p4, p5, p6, p7⟩ := (OwZ.out H1.out Ho.out).cells hx
      obtain ⟨g', rfl, q0, q1, q2, q3, q4, q5, q6, q7⟩ := (OwZ.out H2.out Ho.out).cells hx
      have hgl : g < wr.heap.size := (World.ownsRow.lt (OwZ.out H1.out Ho.out) g rfl).2
      have hgl' : g' < wr.heap.size := (World.ownsRow.lt (OwZ.out H2.out Ho.out) g' rfl).2
      have hnm : (x.nm.toArray == x.nm.toArray) = true := by simp
      obtain ⟨O, hO⟩ : ∃ O : Obj, O = .cells #[.string ⟨x.nm.toArray⟩, .int .i64 x.ty, .int .i64 x.fl, .int .i64 x.li, .int .i64 x.inf, .int .i64 x.al, .int .i64 x.es, .slice x.da x.dl x.dc] 46 := ⟨_, rfl⟩
      have HB : Hid (∀ q, q = wr.heap.size ∨ q = wr.heap.size + 1 → ((wr.alloc O).alloc O).heap[q]? = some (.cells #[.string ⟨x.nm.toArray⟩, .int .i64 x.ty, .int .i64 x.fl, .int .i64 x.li, .int .i64 x.inf, .int .i64 x.al, .int .i64 x.es, .slice x.da x.dl x.dc] 46 (0, 0))) := hidOf (fun q hq => by
        rw [← hO]
        rcases hq with rfl | rfl
        · exact (((Out.refl (wr.alloc O)).alloc O).block _ (by rw [size_alloc]; omega)).trans (heap_alloc_new wr O)
        · have := heap_alloc_new (wr.alloc O) O
          rw [size_alloc] at this
          exact this)
      have HOO := hidOf (((Out.refl wr).alloc O).alloc O)
      rw [hO] at HB HOO
      clear hO
      go_upto_region 6 with fail
      go_cut [6, 7] (fun s6 s7 wx => ∃ q q' : Nat, s6 = .pointer (some ⟨q, 0, none⟩) ∧ s7 = .pointer (some ⟨q', 0, none⟩) ∧ Hid (Out wr wx) ∧ Hid (wx.heap[q]? = some (.cells #[.string ⟨x.nm.toArray⟩, .int .i64 x.ty, .int .i64 x.fl, .int .i64 x.li, .int .i64 x.inf, .int .i64 x.al, .int .i64 x.es, .slice x.da x.dl x.dc] 46 (0, 0))) ∧ Hid (wx.heap[q']? = some (.cells #[.string ⟨x.nm.toArray⟩, .int .i64 x.ty, .int .i64 x.fl, .int .i64 x.li, .int .i64 x.inf, .int .i64 x.al, .int .i64 x.es, .slice x.da x.dl x.dc] 46 (0, 0))))
      case first =>
        go_region_law (fail)
        all_goals
          go_wp2
          go_meet
          exact ⟨_, _, rfl, rfl, hidOf HOO.out.drew, hidOf (HB.out _ (by omega)), hidOf (HB.out _ (by omega))⟩
      case rest =>
        obtain ⟨q, q', rfl, rfl, HO2, HX, HY⟩ := hcut
        have u0 := box_cell HX.out 0
        have v0 := box_cell HY.out 0
        have u1 := box_cell HX.out 1
        have v1 := box_cell HY.out 1
        have u2 := box_cell HX.out 2
        have v2 := box_cell HY.out 2
        have u3 := box_cell HX.out 3
        have v3 := box_cell HY.out 3
        have u4 := box_cell HX.out 4
        have v4 := box_cell HY.out 4
        have u5 := box_cell HX.out 5
        have v5 := box_cell HY.out 5
        have u6 := box_cell HX.out 6
        have v6 := box_cell HY.out 6
        have u7 := box_cell HX.out 7
        have v7 := box_cell HY.out 7
        simp only [List.getElem?_toArray, List.getElem?_cons_zero, List.getElem?_cons_succ] at u0 u1 u2 u3 u4 u5 u6 u7 v0 v1 v2 v3 v4 v5 v6 v7
        clear p0 p1 p2 p3 p4 p5 p6 p7 q0 q1 q2 q3 q4 q5 q6 q7 HB HOO
        go_wp2
        exact ⟨⟨i + 1, by simp, by omega, hidOf (Ho.out.trans HO2.out)⟩, by simp [intOf] <;> omega⟩
    · have hlt : ¬ (i : Int) < n := by omega
      go_wp2
      go_ret
      exact ⟨rfl, Ho.out⟩
end Go.Proofs.Ytlfcjbeldnkkoaa
namespace Go.Proofs.Ytlfcjbeldnkkoaa
open Go.RowKit
set_option linter.unusedVariables false
set_option linter.unusedSimpArgs false
/-- the shelf's block at p, and its four rows (untouched, what they held, kept, what they must hold) -/
structure ShZ (w : World) (p : Nat) (ct tt : Int) (r : Nat → Value) (L : Nat → List Value) : Prop where
  st : w.heap[p]? = some (.cells #[.int .i64 ct, .int .i64 tt, .bool false, r 0, r 1, r 2, r 3] 29 (0, 0))
  row : ∀ j, j < 4 → w.ownsRow 0 38 1 (r j) (L j).length (L j)
  sep : ∀ i j b, i < 4 → j < 4 → ¬ i = j → (r i).ownBlock = some b → ¬ (r j).ownBlock = some b
theorem ShZ.lt {w : World} {p : Nat} {ct tt : Int} {r : Nat → Value} {L : Nat → List Value} (h : ShZ w p ct tt r L) : p < w.heap.size := (Array.getElem?_eq_some_iff.1 h.st).1
theorem owns_outZ {B size : Nat} {w w' : World} {e : TypeId} {v : Value} {n : Nat} {xs : List Value} (h : w.ownsRow B e size v n xs) (o : Out w w') : w'.ownsRow B e size v n xs := owns_chg (S := fun _ => False) h (fun _ _ h => h) (Chg.of_out o)
theorem ShZ.out {w w' : World} {p : Nat} {ct tt : Int} {r : Nat → Value} {L : Nat → List Value} (h : ShZ w p ct tt r L) (o : Out w w') : ShZ w' p ct tt r L := ⟨(o.block p h.lt).trans h.st, fun j hj => owns_outZ (h.row j hj) o, h.sep⟩
/-- a row's place -/
theorem own_getZ {B : Nat} {w : World} {e : TypeId} {a : Option Addr} {n c : Nat} {xs : List Value} (h : w.ownsRow B e 1 (.slice a n c) n xs) {i : Nat} {x : Value} (hx : xs[i]? = some x) : ∃ g, a = some ⟨g, 0, none⟩ ∧ w.cell? ⟨g, i, none⟩ = some x := by
  have hi := (List.getElem?_eq_some_iff.1 hx).1
  have hl := h.1
  rcases h.2 with ⟨hv, hn⟩ | ⟨g, cap, cur, hv, _⟩
  · omega
  · have hv2 := hv
    simp only [Value.slice.injEq] at hv2
    refine ⟨g, hv2.1, ?_⟩
    have := World.ownsRow.cells h (g := g) (by rw [hv]; rfl) i x hx
    rw [WideShapes.add_plain, Nat.zero_add] at this
    exact this
/-- two lists that hold the same -/
def PrZ (w : World) (X Y : List Value) : Prop := ∀ (i : Nat) x y, X[i]? = some x → Y[i]? = some y → ∃ N a1 c1 a2 c2, x = .slice a1 N.length c1 ∧ y = .slice a2 N.length c2 ∧ OwZ 0 x N w ∧ OwZ 0 y N w ∧ N.length ≤ 1000000000000
theorem PrZ.chg {S : Nat → Prop} {w w' : World} {X Y : List Value} (h : PrZ w X Y) (c : Chg S w w') (hs : ∀ (i : Nat) x b, X[i]? = some x ∨ Y[i]? = some x → x.ownBlock = some b → ¬ S b) : PrZ w' X Y := fun i x y hx hy => by
  obtain ⟨N, a1, c1, a2, c2, h1, h2, h3, h4, h5⟩ := h i x y hx hy
  exact ⟨N, a1, c1, a2, c2, h1, h2, owns_chg h3 (fun k hk => hs i x k (.inl hx) hk) c, owns_chg h4 (fun k hk => hs i y k (.inr hy) hk) c, h5⟩
theorem PrZ.out {w w' : World} {X Y : List Value} (h : PrZ w X Y) (o : Out w w') : PrZ w' X Y := h.chg (S := fun _ => False) (Chg.of_out o) (fun _ _ _ _ _ h => h)
set_option maxRecDepth 20000 in
set_option maxHeartbeats 1000000 in
theorem untouchedZ_any (w : World) (p : Nat) (ct tt : Int) (r : Nat → Value) (L : Nat → List Value) (h : ShZ w p ct tt r L) (hl : (L 1).length = (L 0).length) (hp : PrZ w (L 0) (L 1)) (hF : (L 0).length ≤ 1000000000000) :
    Calls Try.prog 42 #[.pointer (some ⟨p, 0, none⟩)] w fun e w' => e = .returned (.bool true) ∧ Out w w' := by
  obtain ⟨af, cf, e0⟩ := own_form (h.row 0 (by omega))
  obtain ⟨aw, cw, e1⟩ := own_form (h.row 1 (by omega))
  have q0 := h.row 0 (by omega)
  have q1 := h.row 1 (by omega)
  rw [e0] at q0
  rw [e1] at q1
  have H := hidOf h
  have HP := hidOf hp
  have Hl := hidOf hl
  have Q0 := hidOf q0
  have Q1 := hidOf q1
  have c3 : w.cell? ⟨p, 3, none⟩ = some (.slice af (L 0).length cf) := by rw [cell_atL h.st, ← e0]; rfl
  have c4 : w.cell? ⟨p, 4, none⟩ = some (.slice aw (L 0).length cw) := by rw [cell_atL h.st, ← hl, ← e1]; rfl
  clear h hp hl e0 e1 q0 q1
  go_enter Try.func42, Try.ntmps42
  go_wp2
  go_loopw [3] (fun kv wr => ∃ k : Nat, kv = .int .i64 k ∧ k ≤ (L 0).length ∧ Hid (Out w wr)) (fun kv _ => (L 0).length - (intOf kv).toNat)
  case atStart => exact ⟨0, rfl, by omega, hidOf (Out.refl w)⟩
  case round =>
    obtain ⟨k, rfl, hk, HO⟩ := hrel
    have d3 := cell_later HO.out c3
    have d4 := cell_later HO.out c4
    by_cases hlt : k < (L 0).length
    · have hltI : (k : Int) < (L 0).length := by omega
      obtain ⟨x, hx⟩ : ∃ x, (L 0)[k]? = some x := ⟨_, List.getElem?_eq_getElem hlt⟩
      obtain ⟨y, hy⟩ : ∃ y, (L 1)[k]? = some y := ⟨_, List.getElem?_eq_getElem (by have := Hl.out; omega)⟩
      obtain ⟨gf, rfl, qf⟩ := own_getZ Q0.out hx
      obtain ⟨gw, rfl, qw⟩ := own_getZ Q1.out hy
      have qf := cell_later HO.out qf
      have qw := cell_later HO.out qw
      obtain ⟨T, a1, c1, a2, c2, rfl, rfl, t1, t2, hT⟩ := HP.out k x y hx hy
      have T1 := hidOf (t1.out HO.out)
      have T2 := hidOf (t2.out HO.out)
      clear hx hy t1 t2
      have CS : Hid (∀ wx, Out wr wx → Calls Try.prog 69 #[.slice a1 T.length c1, .slice a2 T.length c2] wx fun e w' => e = .returned (.bool true) ∧ Out wx w') := fun wx ho => flat_any wx a1 a2 T.length c1 c2 T rfl (T1.out.out ho) (T2.out.out ho) hT
      go_upto_region 4 with fail
      go_region_held3 (fun w' => w'.cell? ⟨p, 3, none⟩ = some (.slice (some ⟨gf, 0, none⟩) (L 0).length cf) ∧ w'.cell? ⟨p, 4, none⟩ = some (.slice (some ⟨gw, 0, none⟩) (L 0).length cw) ∧ w'.cell? ⟨gf, k, none⟩ = some (.slice a1 T.length c1) ∧ w'.cell? ⟨gw, k, none⟩ = some (.slice a2 T.length c2)) (first | exact ⟨d3, d4, qf, qw⟩ | exact ⟨e3, e4, e5, e6⟩ | go_keep) (first | (go_at_call 69; refine (CS.out _ ((Out.refl wr).drewN _)).mono ?_; rintro e w2 ⟨rfl, h2⟩; have e3 := cell_later h2 d3; have e4 := cell_later h2 d4; have e5 := cell_later h2 qf; have e6 := cell_later h2 qw; have O2 := hidOf (Out.trans (HO.out.drewN _) h2); clear h2))
      go_wp2
      go_roundw
      case rel => exact ⟨k + 1, by simp, by omega, O2⟩
      case measure => simp [intOf]; omega
    · have hltI : ¬ (k : Int) < (L 0).length := by omega
      go_wp2
      go_ret
      exact ⟨rfl, HO.out⟩
set_option maxRecDepth 20000 in
set_option maxHeartbeats 1000000 in
theorem sameZ_any (w : World) (p : Nat) (ct tt : Int) (r : Nat → Value) (L : Nat → List Value) (h : ShZ w p ct tt r L) (hl : (L 3).length = (L 2).length) (hp : PrZ w (L 2) (L 3)) (hF : (L 2).length ≤ 1000000000000) :
    Calls Try.prog 43 #[.pointer (some ⟨p, 0, none⟩)] w fun e w' => e = .returned (.bool true) ∧ Out w w' := by
  obtain ⟨af, cf, e0⟩ := own_form (h.row 2 (by omega))
  obtain ⟨aw, cw, e1⟩ := own_form (h.row 3 (by omega))
  have q0 := h.row 2 (by omega)
  have q1 := h.row 3 (by omega)
  rw [e0] at q0
  rw [e1] at q1
  have H := hidOf h
  have HP := hidOf hp
  have Hl := hidOf hl
  have Q0 := hidOf q0
  have Q1 := hidOf q1
  have c3 : w.cell? ⟨p, 5, none⟩ = some (.slice af (L 2).length cf) := by rw [cell_atL h.st, ← e0]; rfl
  have c4 : w.cell? ⟨p, 6, none⟩ = some (.slice aw (L 2).length cw) := by rw [cell_atL h.st, ← hl, ← e1]; rfl
  clear h hp hl e0 e1 q0 q1
  go_enter Try.func43, Try.ntmps43
  go_wp2
  go_loopw [3] (fun kv wr => ∃ k : Nat, kv = .int .i64 k ∧ k ≤ (L 2).length ∧ Hid (Out w wr)) (fun kv _ => (L 2).length - (intOf kv).toNat)
  case atStart => exact ⟨0, rfl, by omega, hidOf (Out.refl w)⟩
  case round =>
    obtain ⟨k, rfl, hk, HO⟩ := hrel
    have d3 := cell_later HO.out c3
    have d4 := cell_later HO.out c4
    by_cases hlt : k < (L 2).length
    · have hltI : (k : Int) < (L 2).length := by omega
      obtain ⟨x, hx⟩ : ∃ x, (L 2)[k]? = some x := ⟨_, List.getElem?_eq_getElem hlt⟩
      obtain ⟨y, hy⟩ : ∃ y, (L 3)[k]? = some y := ⟨_, List.getElem?_eq_getElem (by have := Hl.out; omega)⟩
      obtain ⟨gf, rfl, qf⟩ := own_getZ Q0.out hx
      obtain ⟨gw, rfl, qw⟩ := own_getZ Q1.out hy
      have qf := cell_later HO.out qf
      have qw := cell_later HO.out qw
      obtain ⟨T, a1, c1, a2, c2, rfl, rfl, t1, t2, hT⟩ := HP.out k x y hx hy
      have T1 := hidOf (t1.out HO.out)
      have T2 := hidOf (t2.out HO.out)
      clear hx hy t1 t2
      have CS : Hid (∀ wx, Out wr wx → Calls Try.prog 69 #[.slice a1 T.length c1, .slice a2 T.length c2] wx fun e w' => e = .returned (.bool true) ∧ Out wx w') := fun wx ho => flat_any wx a1 a2 T.length c1 c2 T rfl (T1.out.out ho) (T2.out.out ho) hT
      go_upto_region 4 with fail
      go_region_held3 (fun w' => w'.cell? ⟨p, 5, none⟩ = some (.slice (some ⟨gf, 0, none⟩) (L 2).length cf) ∧ w'.cell? ⟨p, 6, none⟩ = some (.slice (some ⟨gw, 0, none⟩) (L 2).length cw) ∧ w'.cell? ⟨gf, k, none⟩ = some (.slice a1 T.length c1) ∧ w'.cell? ⟨gw, k, none⟩ = some (.slice a2 T.length c2)) (first | exact ⟨d3, d4, qf, qw⟩ | exact ⟨e3, e4, e5, e6⟩ | go_keep) (first | (go_at_call 69; refine (CS.out _ ((Out.refl wr).drewN _)).mono ?_; rintro e w2 ⟨rfl, h2⟩; have e3 := cell_later h2 d3; have e4 := cell_later h2 d4; have e5 := cell_later h2 qf; have e6 := cell_later h2 qw; have O2 := hidOf (Out.trans (HO.out.drewN _) h2); clear h2))
      go_wp2
      go_roundw
      case rel => exact ⟨k + 1, by simp, by omega, O2⟩
      case measure => simp [intOf]; omega
    · have hltI : ¬ (k : Int) < (L 2).length := by omega
      go_wp2
      go_ret
      exact ⟨rfl, HO.out⟩
theorem holdsZ_any (w : World) (p : Nat) (ct tt : Int) (r : Nat → Value) (L : Nat → List Value) (h : ShZ w p ct tt r L) (hl : (L 1).length = (L 0).length) (hp : PrZ w (L 0) (L 1)) (hF : (L 0).length ≤ 1000000000000) (hl2 : (L 3).length = (L 2).length) (hp2 : PrZ w (L 2) (L 3)) (hK : (L 2).length ≤ 1000000000000) :
    Calls Try.prog 16 #[.pointer (some ⟨p, 0, none⟩)] w fun e w' => e = .returned (.bool true) ∧ Out w w' := by
  have HU := hidOf (untouchedZ_any w p ct tt r L h hl hp hF)
  have HQ : Hid (∀ wx, Out w wx → Calls Try.prog 43 #[.pointer (some ⟨p, 0, none⟩)] wx fun e w' => e = .returned (.bool true) ∧ Out wx w') := fun wx o => sameZ_any wx p ct tt r L (h.out o) hl2 (hp2.out o) hK
  have c2 : w.cell? ⟨p, 2, none⟩ = some (.bool false) := by rw [cell_atL h.st]; rfl
  clear h hp hp2 hl hl2
  go_enter Try.func16, Try.ntmps16
  go_wp2_with (first | (go_at_call 42; refine HU.out.mono ?_; rintro e w1 ⟨rfl, ho⟩; have O1 := hidOf ho; clear ho) | (go_at_call 43; refine (HQ.out _ O1.out).mono ?_; rintro e w2 ⟨rfl, ho⟩; have O2 := hidOf (Out.trans O1.out ho); clear ho))
  go_ret
  exact ⟨rfl, O2.out⟩
end Go.Proofs.Ytlfcjbeldnkkoaa
