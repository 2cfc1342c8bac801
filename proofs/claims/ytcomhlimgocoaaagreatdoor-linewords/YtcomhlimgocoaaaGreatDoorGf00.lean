import Derived.Test.YtcomhlimgocoaaaGreatDoorGc37
import Derived.Lib.ConvBytes
import Derived.Laws.AppendOwn
import Derived.Deep.AppendLies
import Derived.Deep.RegionHeld3
namespace Go.Proofs.YtcomhlimgocoaaaGreatDoor
open Go.RowKit
set_option linter.unusedVariables false
set_option linter.unusedSimpArgs false
theorem Chg.then_out {S : Nat → Prop} {a b c : World} (h : Chg S a b) (o : Out b c) : Chg S a c := h.trans (T := fun _ => False) (Chg.of_out o) (fun _ hx _ => hx.elim)
theorem own_at {W wr : World} {B n sz : Nat} {T : TypeId} {v : Value} {xs : List Value} (h : W.ownsRow B T sz v n xs) (o : Out W wr) : wr.ownsRow B T sz v n xs := owns_chg (S := fun _ => False) h (fun _ _ h => h) (Chg.of_out o)
theorem owns_void (w : World) (B size : Nat) (e : TypeId) (hB : B ≤ w.heap.size) : (w.alloc (.cells #[] e)).ownsRow B e size (.slice (some ⟨w.heap.size, 0, none⟩) 0 0) 0 [] :=
  ⟨by simp, .inr ⟨w.heap.size, 0, #[], rfl, hB, heap_alloc_new w _, Nat.le_refl _, by decide, by simp, by simp⟩⟩
/-- the cells of texts -/
def txV (l : List (List UInt8)) : List Value := l.map (fun x => .string ⟨x.toArray⟩)
theorem txV_len (l : List (List UInt8)) : (txV l).length = l.length * 1 := by simp [txV]
theorem txV_app (l m : List (List UInt8)) : txV (l ++ m) = txV l ++ txV m := by simp [txV]
theorem txV_one (l : List (List UInt8)) : ∀ u ∈ txV l, u.oneCell' = true := by
  intro u hu
  simp only [txV, List.mem_map] at hu
  obtain ⟨x, _, rfl⟩ := hu
  rfl
theorem infoTx : (Tryz.prog.info? 9).map (fun i => (i.zero, i.size, i.bytes)) = some (some (.string ⟨#[]⟩), 1, 16) := by kernel_rfl
def OwT (B : Nat) (v : Value) (N : List (List UInt8)) (w : World) : Prop := w.ownsRow B 9 1 v N.length (txV N)
/-- texts at an address -/
def TyAt (B : Nat) (w : World) (a : Option Addr) (L : List (List UInt8)) : Prop := L = [] ∨ ∃ b off, b < B ∧ a = some ⟨b, off, none⟩ ∧ ∀ k u, (txV L)[k]? = some u → w.cell? ⟨b, off + k, none⟩ = some u
theorem TyAt.get {B : Nat} {w : World} {a : Option Addr} {L : List (List UInt8)} (h : TyAt B w a L) {i : Nat} {x : List UInt8} (hx : L[i]? = some x) : ∃ b off, a = some ⟨b, off, none⟩ ∧ w.cell? ⟨b, off + i, none⟩ = some (.string ⟨x.toArray⟩) := by
  rcases h with rfl | ⟨g, o, hg, ha, hc⟩
  · simp at hx
  · exact ⟨g, o, ha, hc i _ (by simp [txV, hx])⟩
theorem OwT.at {B : Nat} {v : Value} {L : List (List UInt8)} {w : World} (h : OwT B v L w) : ∃ a cp, v = .slice a L.length cp ∧ L.length ≤ cp ∧ TyAt w.heap.size w a L := by
  obtain ⟨hx, h⟩ := h
  rcases h with ⟨rfl, h0⟩ | ⟨g, cap, cs, rfl, hB, hg, hl, hm, hs, ht⟩
  · have : L = [] := List.eq_nil_of_length_eq_zero h0
    subst this
    exact ⟨none, 0, rfl, Nat.le_refl _, .inl rfl⟩
  · refine ⟨_, cap, rfl, hl, .inr ⟨g, 0, (Array.getElem?_eq_some_iff.1 hg).1, rfl, fun k u hu => ?_⟩⟩
    have hk : k < (txV L).length := (List.getElem?_eq_some_iff.1 hu).1
    rw [txV_len] at hk
    rw [Nat.zero_add, World.cell?, hg]
    show cs[k]? = some u
    rw [← Array.getElem?_toList]
    have e : (cs.toList.take (L.length * 1))[k]? = cs.toList[k]? := List.getElem?_take_of_lt hk
    rw [← e, ht]
    exact hu
theorem TyAt.news {B : Nat} {w : World} {ad : Addr} {L : List (List UInt8)} (h : TyAt B w (some ad) L) : ∀ j u, (txV L)[j]? = some u → w.cell? (ad.add j) = some u := fun j u hu => by
  rcases h with rfl | ⟨b, off, _, h, hc⟩
  · simp [txV] at hu
  · cases h
    have e : (⟨b, off, none⟩ : Addr).add j = ⟨b, off + j, none⟩ := by unfold Addr.add; split <;> simp_all
    rw [e]
    exact hc j u hu
theorem same4_any (a b : Option Addr) (c d : Nat) (N : List (List UInt8)) (w : World) (h : TyAt w.heap.size w a N) (h' : TyAt w.heap.size w b N) (hn : N.length ≤ 1000000000000) : Calls Tryz.prog 86 #[.slice a N.length c, .slice b N.length d] w fun e w' => e = .returned (.bool true) ∧ ∃ m, w' = w.drewN m := by
  have H := hidOf h
  have H' := hidOf h'
  have hee : ((N.length : Int) != (N.length : Int)) = false := by simp
  clear h h'
  go_enter Tryz.func86, Tryz.ntmps86
  go_wp2
  go_loopw [5] (fun iv wr => ∃ k m : Nat, iv = .int .i64 k ∧ k ≤ N.length ∧ wr = w.drewN m) (fun iv _ => N.length - (intOf iv).toNat)
  case atStart => exact ⟨0, 0, rfl, by omega, rfl⟩
  case round =>
    obtain ⟨k, m, rfl, hk, rfl⟩ := hrel
    by_cases hkN : k < N.length
    · have hlt : (k : Int) < N.length := by omega
      have h0 : (0 : Int) ≤ k := by omega
      obtain ⟨y, hy⟩ : ∃ y, N[k]? = some y := ⟨_, List.getElem?_eq_getElem hkN⟩
      obtain ⟨g, off, rfl, q⟩ := H.out.get hy
      obtain ⟨g', off', rfl, q'⟩ := H'.out.get hy
      have q1 : ∀ m, (w.drewN m).cell? ⟨g, off + k, none⟩ = some (.string ⟨y.toArray⟩) := fun m => q
      have q2 : ∀ m, (w.drewN m).cell? ⟨g', off' + k, none⟩ = some (.string ⟨y.toArray⟩) := fun m => q'
      clear hy q q'
      go_wp2_with (go_quiet (fail))
      go_roundw
      case rel => exact ⟨k + 1, _, by simp, by omega, rfl⟩
      case measure => simp [intOf]; omega
    · have hlt : ¬ (k : Int) < N.length := by omega
      go_wp2
      go_ret
      exact ⟨rfl, _, rfl⟩
theorem same0_any (a b : Option Addr) (c d : Nat) (N : List (List UInt8)) (w : World) (h : TyAt w.heap.size w a N) (h' : TyAt w.heap.size w b N) (hn : N.length ≤ 1000000000000) : Calls Tryz.prog 15 #[.slice a N.length c, .slice b N.length d] w fun e w' => e = .returned (.bool true) ∧ ∃ m, w' = w.drewN m := by
  have H := hidOf h
  have H' := hidOf h'
  have hee : ((N.length : Int) != (N.length : Int)) = false := by simp
  clear h h'
  go_enter Tryz.func15, Tryz.ntmps15
  go_wp2
  go_loopw [5] (fun iv wr => ∃ k m : Nat, iv = .int .i64 k ∧ k ≤ N.length ∧ wr = w.drewN m) (fun iv _ => N.length - (intOf iv).toNat)
  case atStart => exact ⟨0, 0, rfl, by omega, rfl⟩
  case round =>
    obtain ⟨k, m, rfl, hk, rfl⟩ := hrel
    by_cases hkN : k < N.length
    · have hlt : (k : Int) < N.length := by omega
      have h0 : (0 : Int) ≤ k := by omega
      obtain ⟨y, hy⟩ : ∃ y, N[k]? = some y := ⟨_, List.getElem?_eq_getElem hkN⟩
      obtain ⟨g, off, rfl, q⟩ := H.out.get hy
      obtain ⟨g', off', rfl, q'⟩ := H'.out.get hy
      have q1 : ∀ m, (w.drewN m).cell? ⟨g, off + k, none⟩ = some (.string ⟨y.toArray⟩) := fun m => q
      have q2 : ∀ m, (w.drewN m).cell? ⟨g', off' + k, none⟩ = some (.string ⟨y.toArray⟩) := fun m => q'
      clear hy q q'
      go_wp2_with (go_quiet (fail))
      go_roundw
      case rel => exact ⟨k + 1, _, by simp, by omega, rfl⟩
      case measure => simp [intOf]; omega
    · have hlt : ¬ (k : Int) < N.length := by omega
      go_wp2
      go_ret
      exact ⟨rfl, _, rfl⟩
end Go.Proofs.YtcomhlimgocoaaaGreatDoor
namespace Go.Proofs.YtcomhlimgocoaaaGreatDoor
open Go.RowKit
set_option linter.unusedVariables false
set_option linter.unusedSimpArgs false
def IsI (u : Value) : Prop := ∃ l : List UInt8, u = .string ⟨l.toArray⟩
theorem txV_ints (L : List (List UInt8)) : ∀ u ∈ txV L, IsI u := by
  intro u hu
  simp only [txV, List.mem_map] at hu
  obtain ⟨x, _, rfl⟩ := hu
  exact ⟨x, rfl⟩
/-- strings are texts -/
theorem ints_txV : ∀ (n : Nat) (l : List Value), l.length = n * 1 → (∀ u ∈ l, IsI u) → ∃ L : List (List UInt8), L.length = n ∧ txV L = l
  | 0, l, h, _ => ⟨[], rfl, (List.length_eq_zero_iff.1 (by omega)).symm⟩
  | n + 1, l, h, hu => by
    match l, h, hu with
    | a :: r, h, hu =>
      obtain ⟨L, h1, h2⟩ := ints_txV n r (by simp only [List.length_cons] at h; omega) (fun u hr => hu u (by simp [hr]))
      obtain ⟨a, rfl⟩ := hu a (by simp)
      exact ⟨a :: L, by simp [h1], by rw [← h2]; rfl⟩
    | [], h, _ => simp at h
/-- an append to a list of symbols -/
structure App6 (w w' : World) (v v' : Value) (L zs : List (List UInt8)) : Prop where
  own : OwT 0 v' (L ++ zs) w'
  chg : Chg (fun b => v.ownBlock = some b) w w'
  blk : ∀ b, v'.ownBlock = some b → v.ownBlock = some b ∨ w.heap.size ≤ b
  pre : ∀ B g M, OwT B g M w → M.length ≤ L.length → OwT B g M w'
  ex : ∀ B g M, OwT B g M w → ∃ M', M'.length = M.length ∧ OwT B g M' w'
theorem OwT.low {B B' : Nat} {v : Value} {N : List (List UInt8)} {w : World} (h : OwT B v N w) (hB : B' ≤ B) : OwT B' v N w := by
  refine ⟨h.1, ?_⟩
  rcases h.2 with h | ⟨g, cap, cur, e1, hb, rest⟩
  · exact .inl h
  · exact .inr ⟨g, cap, cur, e1, Nat.le_trans hB hb, rest⟩
theorem OwT.chg {B : Nat} {S : Nat → Prop} {v : Value} {N : List (List UInt8)} {w w' : World} (h : OwT B v N w) (c : Chg S w w') (hS : ∀ b, v.ownBlock = some b → ¬ S b) : OwT B v N w' := owns_chg h hS c
theorem OwT.out {B : Nat} {v : Value} {N : List (List UInt8)} {w w' : World} (h : OwT B v N w) (o : Out w w') : OwT B v N w' := own_at h o
theorem app6_out {w w' : World} {v v' : Value} {L zs : List (List UInt8)} (hl : OwT 0 v L w) (o : Out w w') (hown : OwT 0 v' (L ++ zs) w') (hb : ∀ b, v'.ownBlock = some b → w.heap.size ≤ b) : App6 w w' v v' L zs :=
  ⟨hown, Chg.of_out o, fun b h => .inr (hb b h), fun B g M h _ => h.out o, fun B g M h => ⟨M, rfl, h.out o⟩⟩
set_option maxHeartbeats 1000000 in
theorem app6 (w : World) (v : Value) (L : List (List UInt8)) (hv : OwT 0 v L w) (ad : Addr) (zs : List (List UInt8)) (m c : Nat) (hzl : zs.length = m) (h0 : 0 < m) (hc : ∀ j u, (txV zs)[j]? = some u → w.cell? (ad.add j) = some u) (hn : L.length + m ≤ 2900000000000) :
    ∃ v' w', (∀ ty, (Builtin.append_ #[35, 35] ty #[v, .slice (some ad) m c]).run Tryz.prog w = .ok v' w') ∧ App6 w w' v v' L zs := by
  obtain ⟨i0, hi, hz0, hz1, hz2⟩ := info_parts infoTx
  have hzv : (txV zs).length = m * 1 := by rw [txV_len, hzl]
  have hle : (L ++ zs).length = L.length + m := by rw [List.length_append, hzl]
  have hav : txV (L ++ zs) = txV L ++ txV zs := txV_app L zs
  have h16 : (L.length + m) * i0.bytes ≤ 140737488355328 := by rw [hz2]; omega
  rcases hv.2 with ⟨rfl, hL0⟩ | ⟨g, cap, cur, rfl, hb, hg, hnc, hcm, hcs, ht⟩
  · obtain rfl : L = [] := List.length_eq_zero_iff.1 hL0
    have hr := fun ty => run_append_nil (P := Tryz.prog) w 35 ty 9 i0 _ Tryz.underlying35 hi hz0 ad m c (txV zs) (by rw [hz1, hzv]) hc h0 (by omega) (by rw [hz2]; simp only [List.length_nil] at hn; omega)
    have hge := grownCap_ge w m 0 9
    have hcm := grownCap_le_maxLen w m 0 9 (by unfold maxLen; simp only [List.length_nil] at hn; omega)
    refine ⟨_, _, hr, app6_out hv ((Out.refl w).drew.alloc _) ⟨by rw [txV_len], .inr ⟨w.heap.size, _, _, by simp only [List.nil_append, hzl], Nat.zero_le _, heap_alloc_new w.drew _, by simp only [List.nil_append, hzl]; exact hge, hcm, ?_, ?_⟩⟩ (fun b hb => by simp [Value.ownBlock] at hb; omega)⟩
    · rw [Array.size_append, size_zeroCells]; simp [Value.cells, hzv]; omega
    · simp only [List.nil_append, hzl]
      rw [Array.toList_append, List.toList_toArray, List.take_append_of_le_length (by rw [hzv]; omega), List.take_of_length_le (by rw [hzv]; omega)]
  · have hlen : L.length * 1 ≤ cur.toList.length := by simp; omega
    by_cases hroom : L.length + m ≤ cap
    · have hr := fun ty => run_append_room (P := Tryz.prog) w 35 ty 9 i0 Tryz.underlying35 hi g L.length cap cur hg ad m c (txV zs) (by rw [hz1, hzv]) hc (txV_one zs) hroom (by rw [hz1]; omega)
      rw [hz1] at hr
      rw [hzv] at hr
      obtain ⟨cur2, hcur2⟩ : ∃ cur2, cur2 = (cur.toList.take (L.length * 1) ++ txV zs ++ cur.toList.drop (L.length * 1 + m * 1)).toArray := ⟨_, rfl⟩
      rw [← hcur2] at hr
      have hh : (w.setRow g cur2).heap[g]? = some (.cells cur2 9 (0, 0)) := setRow_heap w g _ _ _ _ hg
      have hs2 : cur2.size = cap * 1 := by
        rw [hcur2]; simp [hzv]; omega
      have hct : cur2.toList = cur.toList.take (L.length * 1) ++ (txV zs ++ cur.toList.drop (L.length * 1 + m * 1)) := by rw [hcur2, List.toList_toArray, List.append_assoc]
      have hl6 : (cur.toList.take (L.length * 1)).length = L.length * 1 := by rw [List.length_take]; omega
      have same : ∀ k, k ≤ L.length → cur2.toList.take (k * 1) = cur.toList.take (k * 1) := fun k hk => by
        rw [hct, List.take_append_of_le_length (by omega), List.take_take, Nat.min_eq_left (by omega)]
      have ints : ∀ k M, k * 1 ≤ cur.size → cur.toList.take (k * 1) = txV M → ∀ u ∈ cur2.toList.take (k * 1), IsI u := fun k M hk hM u hu => by
        have hint : ∀ u ∈ cur.toList.take (k * 1), IsI u := by rw [hM]; exact txV_ints M
        obtain ⟨j, hj, rfl⟩ := List.getElem_of_mem hu
        have hjl : j < k * 1 := by rw [List.length_take] at hj; omega
        have hj2 : j < cur2.toList.length := by rw [List.length_take] at hj; omega
        rw [List.getElem_take]
        have hget : cur2.toList[j]? = if j < L.length * 1 then cur.toList[j]? else if j < L.length * 1 + m * 1 then (txV zs)[j - L.length * 1]? else cur.toList[j]? := by
          rw [hct]
          by_cases h1 : j < L.length * 1
          · rw [if_pos h1, List.getElem?_append_left (by omega), List.getElem?_take_of_lt h1]
          · rw [if_neg h1, List.getElem?_append_right (by omega), hl6]
            by_cases h2 : j < L.length * 1 + m * 1
            · rw [if_pos h2, List.getElem?_append_left (by omega)]
            · rw [if_neg h2, List.getElem?_append_right (by omega), List.getElem?_drop, show L.length * 1 + m * 1 + (j - L.length * 1 - (txV zs).length) = j by omega]
        have hold : ∀ x, cur.toList[j]? = some x → IsI x := fun x hx => hint x (List.mem_of_getElem? (i := j) (by rw [List.getElem?_take_of_lt hjl]; exact hx))
        have hx := List.getElem?_eq_getElem hj2
        rw [hget] at hx
        split at hx
        · exact hold _ hx
        · split at hx
          · exact txV_ints zs _ (List.mem_of_getElem? hx)
          · exact hold _ hx
      refine ⟨_, _, hr, ⟨?_, ⟨rfl, rfl, rfl, by simp [World.setRow], fun k hk hne => setRow_other w g k _ (fun e => hne (by rw [e]; rfl))⟩, fun b hb => .inl hb, fun B g2 M h2 hM => ?_, fun B g2 M h2 => ?_⟩⟩
      · refine ⟨by rw [txV_len], .inr ⟨g, cap, cur2, by rw [hle], hb, hh, by omega, hcm, hs2, ?_⟩⟩
        rw [hle, hav, hct, ← List.append_assoc, List.take_append_of_le_length (by rw [List.length_append, hl6, hzv]; omega), List.take_of_length_le (by rw [List.length_append, hl6, hzv]; omega), ht]
      · refine ⟨h2.1, ?_⟩
        rcases h2.2 with h | ⟨g3, cap2, cur3, e2, hb2, hg2, hnc2, hcm2, hcs2, ht2⟩
        · exact .inl h
        · by_cases hgg : g3 = g
          · subst hgg
            rw [hg] at hg2
            simp at hg2
            subst hg2
            exact .inr ⟨g3, cap2, cur2, e2, hb2, hh, hnc2, hcm2, by omega, by rw [same _ hM]; exact ht2⟩
          · exact .inr ⟨g3, cap2, cur3, e2, hb2, (setRow_other w g g3 _ hgg).trans hg2, hnc2, hcm2, hcs2, ht2⟩
      · rcases h2.2 with ⟨h, hM0⟩ | ⟨g3, cap2, cur3, e2, hb2, hg2, hnc2, hcm2, hcs2, ht2⟩
        · exact ⟨M, rfl, h2.1, .inl ⟨h, hM0⟩⟩
        · by_cases hgg : g3 = g
          · subst hgg
            rw [hg] at hg2
            simp at hg2
            subst hg2
            obtain ⟨M', hM1, hM2⟩ := ints_txV M.length (cur2.toList.take (M.length * 1)) (by rw [List.length_take]; simp; omega) (ints M.length M (by omega) ht2)
            refine ⟨M', hM1, by rw [txV_len], .inr ⟨g3, cap2, cur2, by rw [hM1]; exact e2, hb2, hh, by omega, hcm2, by omega, by rw [hM1]; exact hM2.symm⟩⟩
          · exact ⟨M, rfl, h2.1, .inr ⟨g3, cap2, cur3, e2, hb2, (setRow_other w g g3 _ hgg).trans hg2, hnc2, hcm2, hcs2, ht2⟩⟩
    · have hr := fun ty => run_append_grow (P := Tryz.prog) w 35 ty 9 i0 _ Tryz.underlying35 hi hz0 ⟨g, 0, none⟩ L.length cap (txV L) (by rw [hz1, txV_len]) (fun j u hu => World.ownsRow.cells (g := g) hv rfl j u hu) ad m c (txV zs) (by rw [hz1, hzv]) hc (by omega) (by omega) (growslice_fits (by omega) h16)
      have hge := grownCap_ge w (L.length + m) cap 9
      have hcm' := grownCap_le_maxLen w (L.length + m) cap 9 (by unfold maxLen; omega)
      refine ⟨_, _, hr, app6_out hv ((Out.refl w).drew.alloc _) ⟨by rw [txV_len], .inr ⟨w.heap.size, _, _, by rw [hle], Nat.zero_le _, heap_alloc_new w.drew _, by rw [hle]; exact hge, hcm', ?_, ?_⟩⟩ (fun b hb => by simp [Value.ownBlock] at hb; omega)⟩
      · rw [Array.size_append, Array.size_append, size_zeroCells]; simp [txV_len, Value.cells, hzl]; omega
      · rw [hle, hav, Array.toList_append, Array.toList_append, List.toList_toArray, List.toList_toArray, List.take_append_of_le_length (by rw [List.length_append, txV_len, hzv]; omega), List.take_of_length_le (by rw [List.length_append, txV_len, hzv]; omega)]
theorem wpList_app6 {w : World} {ops : Array Oper} {rest : List Oper} {o : Oper} {a : Act} {Q : Exit → Act → World → Prop} (hgd : o.guard = none) (s x : Operand)
    (ho : o.op = .call { callee := .builtin .append, args := #[s, x], argTypes := #[35, 35] })
    (v : Value) (L : List (List UInt8)) (hs : a.eval s = v) (hown : OwT 0 v L w) (ad : Addr) (zs : List (List UInt8)) (m c : Nat) (hzl : zs.length = m) (h0 : 0 < m) (hx : a.eval x = .slice (some ad) m c) (hc : ∀ j u, (txV zs)[j]? = some u → w.cell? (ad.add j) = some u) (hn : L.length + m ≤ 2900000000000)
    (h : ∀ v' w', App6 w w' v v' L zs → wpList Tryz.prog ops Q rest (a.put o.dst v') w') : wpList Tryz.prog ops Q (o :: rest) a w := by
  refine wpList_plain hgd fun K hK => ?_
  obtain ⟨v', w', hr, h2⟩ := app6 w v L hown ad zs m c hzl h0 hc hn
  unfold Oper.wp execOp
  simp only [ho, resolve, invoke, builtin, Sem.run_bind, Sem.run_pure, Result.andThen_ok, List.map_toArray, List.map_cons, List.map_nil, hs, hx, hr]
  exact hK _ _ (h v' w' h2)
theorem step_app6 {w : World} {ops : Array Oper} {o : Oper} {a : Act} {K : Act → World → Prop} {Q : Exit → Act → World → Prop} {E : Prop} (hgd : o.guard = none) (s x : Operand)
    (ho : o.op = .call { callee := .builtin .append, args := #[s, x], argTypes := #[35, 35] })
    (v : Value) (L : List (List UInt8)) (hs : a.eval s = v) (hown : OwT 0 v L w) (ad : Addr) (zs : List (List UInt8)) (m c : Nat) (hzl : zs.length = m) (h0 : 0 < m) (hx : a.eval x = .slice (some ad) m c) (hc : ∀ j u, (txV zs)[j]? = some u → w.cell? (ad.add j) = some u) (hn : L.length + m ≤ 2900000000000)
    (h : ∀ v' w', App6 w w' v v' L zs → K (a.put o.dst v') w') : if Region.wanted o (yielded ops a.tmps) = true then Oper.wp Tryz.prog o a w K Q else E := by
  have hw : Region.wanted o (yielded ops a.tmps) = true := by simp [Region.wanted, hgd]
  rw [if_pos hw]
  obtain ⟨v', w', hr, h2⟩ := app6 w v L hown ad zs m c hzl h0 hc hn
  unfold Oper.wp execOp
  simp only [ho, resolve, invoke, builtin, Sem.run_bind, Sem.run_pure, Result.andThen_ok, List.map_toArray, List.map_cons, List.map_nil, hs, hx, hr]
  exact h v' w' h2
theorem App6.form {w w' : World} {v v' : Value} {L zs : List (List UInt8)} (h : App6 w w' v v' L zs) {n m : Nat} (hn : L.length = n) (hm : zs.length = m) : ∃ a c, v' = .slice a (n + m) c := by
  obtain ⟨a, c, e⟩ := own_form h.own
  exact ⟨a, c, by rw [e, List.length_append, hn, hm]⟩
end Go.Proofs.YtcomhlimgocoaaaGreatDoor
namespace Go.Proofs.YtcomhlimgocoaaaGreatDoor
open Go.RowKit
set_option linter.unusedVariables false
set_option linter.unusedSimpArgs false
theorem setCell_selfQ {w : World} {b j : Nat} {cs : Array Value} {t : TypeId} {fr : Nat × Nat} {u : Value} (h : w.heap[b]? = some (.cells cs t fr)) (hj : cs[j]? = some u) : w.setCell ⟨b, j, none⟩ u = w := by
  have hh : (w.setCell ⟨b, j, none⟩ u).heap = w.heap := by
    apply Array.ext_getElem?
    intro k
    by_cases hk : k = b
    · subst hk
      have hset : cs.setIfInBounds j u = cs := by
        apply Array.ext_getElem?
        intro x
        rw [Array.getElem?_setIfInBounds]
        by_cases hx : j = x
        · subst hx; simp [hj]; exact (Array.getElem?_eq_some_iff.1 hj).1
        · rw [if_neg hx]
      simp [World.setCell, Array.getElem?_modify, h, hset]
    · exact Below.heap_setCell w ⟨b, j, none⟩ u k hk
  cases w
  simp only [World.setCell] at hh ⊢
  simp only [hh]
/-- the queue's block at p, and its four rows (untouched, what they held, kept, what they must hold) -/
structure QF (w : World) (p : Nat) (tt : Int) (r : Nat → Value) (L : Nat → List Value) : Prop where
  st : w.heap[p]? = some (.cells #[.int .i64 tt, .bool false, r 0, r 1, r 2, r 3] 45 (0, 0))
  row : ∀ j, j < 4 → w.ownsRow 0 35 1 (r j) (L j).length (L j)
  sep : ∀ i j b, i < 4 → j < 4 → ¬ i = j → (r i).ownBlock = some b → ¬ (r j).ownBlock = some b
theorem QF.lt {w : World} {p : Nat} {tt : Int} {r : Nat → Value} {L : Nat → List Value} (h : QF w p tt r L) : p < w.heap.size := (Array.getElem?_eq_some_iff.1 h.st).1
theorem owns_outQ {B size : Nat} {w w' : World} {e : TypeId} {v : Value} {n : Nat} {xs : List Value} (h : w.ownsRow B e size v n xs) (o : Out w w') : w'.ownsRow B e size v n xs := owns_chg (S := fun _ => False) h (fun _ _ h => h) (Chg.of_out o)
theorem QF.out {w w' : World} {p : Nat} {tt : Int} {r : Nat → Value} {L : Nat → List Value} (h : QF w p tt r L) (o : Out w w') : QF w' p tt r L := ⟨(o.block p h.lt).trans h.st, fun j hj => owns_outQ (h.row j hj) o, h.sep⟩
/-- a row's place -/
theorem own_getQ {B : Nat} {w : World} {e : TypeId} {a : Option Addr} {n c : Nat} {xs : List Value} (h : w.ownsRow B e 1 (.slice a n c) n xs) {i : Nat} {x : Value} (hx : xs[i]? = some x) : ∃ g, a = some ⟨g, 0, none⟩ ∧ w.cell? ⟨g, i, none⟩ = some x := by
  have hi := (List.getElem?_eq_some_iff.1 hx).1
  have hl := h.1
  rcases h.2 with ⟨hv, hn⟩ | ⟨g, cap, cur, hv, _⟩
  · omega
  · have hv2 := hv
    simp only [Value.slice.injEq] at hv2
    refine ⟨g, hv2.1, ?_⟩
    have := World.ownsRow.cells h (g := g) (by rw [hv]; rfl) i x hx
    rw [WideShapes.add_plain, Nat.zero_add] at this
    exact this
/-- two lists that hold the same -/
def PrQ (w : World) (X Y : List Value) : Prop := ∀ (i : Nat) x y, X[i]? = some x → Y[i]? = some y → ∃ N a1 c1 a2 c2, x = .slice a1 N.length c1 ∧ y = .slice a2 N.length c2 ∧ OwT 0 x N w ∧ OwT 0 y N w ∧ N.length ≤ 1000000000000
theorem PrQ.chg {S : Nat → Prop} {w w' : World} {X Y : List Value} (h : PrQ w X Y) (c : Chg S w w') (hs : ∀ (i : Nat) x b, X[i]? = some x ∨ Y[i]? = some x → x.ownBlock = some b → ¬ S b) : PrQ w' X Y := fun i x y hx hy => by
  obtain ⟨N, a1, c1, a2, c2, h1, h2, h3, h4, h5⟩ := h i x y hx hy
  exact ⟨N, a1, c1, a2, c2, h1, h2, owns_chg h3 (fun k hk => hs i x k (.inl hx) hk) c, owns_chg h4 (fun k hk => hs i y k (.inr hy) hk) c, h5⟩
theorem PrQ.out {w w' : World} {X Y : List Value} (h : PrQ w X Y) (o : Out w w') : PrQ w' X Y := h.chg (S := fun _ => False) (Chg.of_out o) (fun _ _ _ _ _ h => h)
theorem OwT.at2 {B : Nat} {a : Option Addr} {n c : Nat} {N : List (List UInt8)} {w : World} (h : OwT B (.slice a n c) N w) : TyAt w.heap.size w a N := by
  obtain ⟨a', c', e, _, hat⟩ := OwT.at h
  simp only [Value.slice.injEq] at e
  rw [e.1]; exact hat
theorem sameQ2 (w : World) (a a' : Option Addr) (n c n' c' : Nat) (N : List (List UInt8)) (hn : N.length = n) (hn' : N.length = n') (h : OwT 0 (.slice a n c) N w) (h' : OwT 0 (.slice a' n' c') N w) (hl : N.length ≤ 1000000000000) : Calls Tryz.prog 86 #[.slice a n c, .slice a' n' c'] w fun e w' => e = .returned (.bool true) ∧ Out w w' := by
  have := same4_any a a' c c' N w h.at2 h'.at2 hl
  subst hn
  subst hn'
  refine this.mono ?_
  rintro e w' ⟨rfl, m, rfl⟩
  exact ⟨rfl, (Out.refl w).dN m⟩
set_option maxRecDepth 20000 in
set_option maxHeartbeats 1000000 in
theorem untouchedQ_any (w : World) (p : Nat) (tt : Int) (r : Nat → Value) (L : Nat → List Value) (h : QF w p tt r L) (hl : (L 1).length = (L 0).length) (hp : PrQ w (L 0) (L 1)) (hF : (L 0).length ≤ 1000000000000) :
    Calls Tryz.prog 46 #[.pointer (some ⟨p, 0, none⟩)] w fun e w' => (∃ q, e = .returned q) ∧ Out w w' := by
  obtain ⟨af, cf, e0⟩ := own_form (h.row 0 (by omega))
  obtain ⟨aw, cw, e1⟩ := own_form (h.row 1 (by omega))
  have q0 := h.row 0 (by omega)
  have q1 := h.row 1 (by omega)
  rw [e0] at q0
  rw [e1] at q1
  have H := hidOf h
  have HP := hidOf hp
  have Hl := hidOf hl
  have Q0 := hidOf q0
  have Q1 := hidOf q1
  have c1 : w.cell? ⟨p, 1, none⟩ = some (.bool false) := by rw [cell_atL h.st]; rfl
  have c2 : w.cell? ⟨p, 2, none⟩ = some (.slice af (L 0).length cf) := by rw [cell_atL h.st, ← e0]; rfl
  have c3 : w.cell? ⟨p, 3, none⟩ = some (.slice aw (L 0).length cw) := by rw [cell_atL h.st, ← hl, ← e1]; rfl
  have HFz : Hid (∀ wx, Out w wx → wx.frozen? ⟨p, 1, none⟩ = false ∧ wx.setCell ⟨p, 1, none⟩ (.bool false) = wx) := fun wx o => ⟨frozen_atL (h.out o).st 1, setCell_selfQ (h.out o).st rfl⟩
  clear h hp hl e0 e1 q0 q1
  go_enter Tryz.func46, Tryz.ntmps46
  go_wp2
  go_loopw [2] (fun kv wr => ∃ k : Nat, kv = .int .i64 k ∧ k ≤ (L 0).length ∧ Hid (Out w wr)) (fun kv _ => (L 0).length - (intOf kv).toNat)
  case atStart => exact ⟨0, rfl, by omega, hidOf (Out.refl w)⟩
  case round =>
    obtain ⟨k, rfl, hk, HO⟩ := hrel
    have d1 := cell_later HO.out c1
    have d2 := cell_later HO.out c2
    have d3 := cell_later HO.out c3
    by_cases hlt : k < (L 0).length
    · have hltI : (k : Int) < (L 0).length := by omega
      obtain ⟨x, hx⟩ : ∃ x, (L 0)[k]? = some x := ⟨_, List.getElem?_eq_getElem hlt⟩
      obtain ⟨y, hy⟩ : ∃ y, (L 1)[k]? = some y := ⟨_, List.getElem?_eq_getElem (by have := Hl.out; omega)⟩
      obtain ⟨gf, rfl, qf⟩ := own_getQ Q0.out hx
      obtain ⟨gw, rfl, qw⟩ := own_getQ Q1.out hy
      have qf := cell_later HO.out qf
      have qw := cell_later HO.out qw
      obtain ⟨T, a1, b1, a2, b2, rfl, rfl, t1, t2, hT⟩ := HP.out k x y hx hy
      have T1 := hidOf (t1.out HO.out)
      have T2 := hidOf (t2.out HO.out)
      have fz := (HFz.out wr HO.out).1
      clear hx hy t1 t2
      have CS : Hid (∀ wx, Out wr wx → Calls Tryz.prog 86 #[.slice a1 T.length b1, .slice a2 T.length b2] wx fun e w' => e = .returned (.bool true) ∧ Out wx w') := fun wx ho => sameQ2 wx a1 a2 _ b1 _ b2 T rfl rfl (T1.out.out ho) (T2.out.out ho) hT
      go_upto_region 3 with fail
      go_region_held3 (fun w' => w'.cell? ⟨p, 1, none⟩ = some (.bool false) ∧ w'.cell? ⟨p, 2, none⟩ = some (.slice (some ⟨gf, 0, none⟩) (L 0).length cf) ∧ w'.cell? ⟨p, 3, none⟩ = some (.slice (some ⟨gw, 0, none⟩) (L 0).length cw) ∧ w'.cell? ⟨gf, k, none⟩ = some (.slice a1 T.length b1) ∧ w'.cell? ⟨gw, k, none⟩ = some (.slice a2 T.length b2) ∧ w'.frozen? ⟨p, 1, none⟩ = false) (first | exact ⟨d1, d2, d3, qf, qw, fz⟩ | exact ⟨e1, e2, e3, e5, e6, e7⟩ | (rw [HS.out]; exact ⟨e1, e2, e3, e5, e6, e7⟩) | go_keep) (first | (go_at_call 86; refine (CS.out _ ((Out.refl wr).dN _)).mono ?_; rintro e w2 ⟨rfl, h2⟩; have O2 := hidOf (Out.trans (HO.out.dN _) h2); have e1 := cell_later h2 d1; have e2 := cell_later h2 d2; have e3 := cell_later h2 d3; have e5 := cell_later h2 qf; have e6 := cell_later h2 qw; have e7 := (HFz.out w2 O2.out).1; have HS := hidOf (HFz.out w2 O2.out).2; clear h2))
      all_goals go_wp2
      all_goals go_roundw
      case rel =>
        try rw [HS.out]
        exact ⟨k + 1, by simp, by omega, O2⟩
      case measure => simp [intOf]; omega
    · have hltI : ¬ (k : Int) < (L 0).length := by omega
      go_wp2
      go_end0
      exact ⟨⟨_, rfl⟩, HO.out⟩
set_option maxRecDepth 20000 in
set_option maxHeartbeats 1000000 in
theorem sameQ_any (w : World) (p : Nat) (tt : Int) (r : Nat → Value) (L : Nat → List Value) (h : QF w p tt r L) (hl : (L 3).length = (L 2).length) (hp : PrQ w (L 2) (L 3)) (hF : (L 2).length ≤ 1000000000000) :
    Calls Tryz.prog 47 #[.pointer (some ⟨p, 0, none⟩)] w fun e w' => e = .returned (.bool true) ∧ Out w w' := by
  obtain ⟨af, cf, e0⟩ := own_form (h.row 2 (by omega))
  obtain ⟨aw, cw, e1⟩ := own_form (h.row 3 (by omega))
  have q0 := h.row 2 (by omega)
  have q1 := h.row 3 (by omega)
  rw [e0] at q0
  rw [e1] at q1
  have H := hidOf h
  have HP := hidOf hp
  have Hl := hidOf hl
  have Q0 := hidOf q0
  have Q1 := hidOf q1
  have c4 : w.cell? ⟨p, 4, none⟩ = some (.slice af (L 2).length cf) := by rw [cell_atL h.st, ← e0]; rfl
  have c5 : w.cell? ⟨p, 5, none⟩ = some (.slice aw (L 2).length cw) := by rw [cell_atL h.st, ← hl, ← e1]; rfl
  clear h hp hl e0 e1 q0 q1
  go_enter Tryz.func47, Tryz.ntmps47
  go_wp2
  go_loopw [3] (fun kv wr => ∃ k : Nat, kv = .int .i64 k ∧ k ≤ (L 2).length ∧ Hid (Out w wr)) (fun kv _ => (L 2).length - (intOf kv).toNat)
  case atStart => exact ⟨0, rfl, by omega, hidOf (Out.refl w)⟩
  case round =>
    obtain ⟨k, rfl, hk, HO⟩ := hrel
    have d3 := cell_later HO.out c4
    have d4 := cell_later HO.out c5
    by_cases hlt : k < (L 2).length
    · have hltI : (k : Int) < (L 2).length := by omega
      obtain ⟨x, hx⟩ : ∃ x, (L 2)[k]? = some x := ⟨_, List.getElem?_eq_getElem hlt⟩
      obtain ⟨y, hy⟩ : ∃ y, (L 3)[k]? = some y := ⟨_, List.getElem?_eq_getElem (by have := Hl.out; omega)⟩
      obtain ⟨gf, rfl, qf⟩ := own_getQ Q0.out hx
      obtain ⟨gw, rfl, qw⟩ := own_getQ Q1.out hy
      have qf := cell_later HO.out qf
      have qw := cell_later HO.out qw
      obtain ⟨T, a1, b1, a2, b2, rfl, rfl, t1, t2, hT⟩ := HP.out k x y hx hy
      have T1 := hidOf (t1.out HO.out)
      have T2 := hidOf (t2.out HO.out)
      clear hx hy t1 t2
      have CS : Hid (∀ wx, Out wr wx → Calls Tryz.prog 86 #[.slice a1 T.length b1, .slice a2 T.length b2] wx fun e w' => e = .returned (.bool true) ∧ Out wx w') := fun wx ho => sameQ2 wx a1 a2 _ b1 _ b2 T rfl rfl (T1.out.out ho) (T2.out.out ho) hT
      go_upto_region 4 with fail
      go_region_held3 (fun w' => w'.cell? ⟨p, 4, none⟩ = some (.slice (some ⟨gf, 0, none⟩) (L 2).length cf) ∧ w'.cell? ⟨p, 5, none⟩ = some (.slice (some ⟨gw, 0, none⟩) (L 2).length cw) ∧ w'.cell? ⟨gf, k, none⟩ = some (.slice a1 T.length b1) ∧ w'.cell? ⟨gw, k, none⟩ = some (.slice a2 T.length b2)) (first | exact ⟨d3, d4, qf, qw⟩ | exact ⟨e3, e4, e5, e6⟩ | go_keep) (first | (go_at_call 86; refine (CS.out _ ((Out.refl wr).dN _)).mono ?_; rintro e w2 ⟨rfl, h2⟩; have e3 := cell_later h2 d3; have e4 := cell_later h2 d4; have e5 := cell_later h2 qf; have e6 := cell_later h2 qw; have O2 := hidOf (Out.trans (HO.out.dN _) h2); clear h2))
      go_wp2
      go_roundw
      case rel => exact ⟨k + 1, by simp, by omega, O2⟩
      case measure => simp [intOf]; omega
    · have hltI : ¬ (k : Int) < (L 2).length := by omega
      go_wp2
      go_ret
      exact ⟨rfl, HO.out⟩
theorem holdsQ_any (w : World) (p : Nat) (tt : Int) (r : Nat → Value) (L : Nat → List Value) (h : QF w p tt r L) (hl : (L 1).length = (L 0).length) (hp : PrQ w (L 0) (L 1)) (hF : (L 0).length ≤ 1000000000000) (hl2 : (L 3).length = (L 2).length) (hp2 : PrQ w (L 2) (L 3)) (hK : (L 2).length ≤ 1000000000000) :
    Calls Tryz.prog 17 #[.pointer (some ⟨p, 0, none⟩)] w fun e w' => e = .returned (.bool true) ∧ Out w w' := by
  have HU := hidOf (untouchedQ_any w p tt r L h hl hp hF)
  have HQ : Hid (∀ wx, Out w wx → Calls Tryz.prog 47 #[.pointer (some ⟨p, 0, none⟩)] wx fun e w' => e = .returned (.bool true) ∧ Out wx w') := fun wx o => sameQ_any wx p tt r L (h.out o) hl2 (hp2.out o) hK
  have hc1 : w.cell? ⟨p, 1, none⟩ = some (.bool false) := by rw [cell_atL h.st]; rfl
  clear h hp hp2 hl hl2
  go_enter Tryz.func17, Tryz.ntmps17
  go_wp2_with (first | (go_at_call 46; refine HU.out.mono ?_; rintro e w1 ⟨⟨q, rfl⟩, ho⟩; have hc2 := cell_later ho hc1; have O1 := hidOf ho; clear ho) | (go_at_call 47; refine (HQ.out _ O1.out).mono ?_; rintro e w2 ⟨rfl, ho⟩; have O2 := hidOf (Out.trans O1.out ho); clear ho))
  go_ret
  exact ⟨rfl, O2.out⟩
end Go.Proofs.YtcomhlimgocoaaaGreatDoor
namespace Go.Proofs.YtcomhlimgocoaaaGreatDoor
open Go.RowKit
set_option linter.unusedVariables false
set_option linter.unusedSimpArgs false
def upd {α : Type} (r : Nat → α) (j : Nat) (v : α) : Nat → α := fun i => if i = j then v else r i
theorem QF.notp {w : World} {p : Nat} {tt : Int} {r : Nat → Value} {L : Nat → List Value} (h : QF w p tt r L) {j : Nat} (hj : j < 4) : ¬ (r j).ownBlock = some p := own_kind (h.row j hj) h.st (by decide)
/-- a row's cell is stored -/
theorem QF.store {w : World} {p : Nat} {tt : Int} {r : Nat → Value} (st : w.heap[p]? = some (.cells #[.int .i64 tt, .bool false, r 0, r 1, r 2, r 3] 45 (0, 0))) (j : Nat) (hj : j < 4) (v : Value) (L : Nat → List Value)
    (row : ∀ i, i < 4 → w.ownsRow 0 35 1 (upd r j v i) (L i).length (L i)) (sep : ∀ i k b, i < 4 → k < 4 → ¬ i = k → (upd r j v i).ownBlock = some b → ¬ (upd r j v k).ownBlock = some b) : QF (w.setCell ⟨p, 2 + j, none⟩ v) p tt (upd r j v) L := by
  have c : Chg (fun k => k = p) w (w.setCell ⟨p, 2 + j, none⟩ v) := Chg.setCell (S := fun k => k = p) (Chg.refl _ w) (p := ⟨p, 2 + j, none⟩) rfl v
  refine ⟨?_, fun i hi => owns_chg (row i hi) (fun k hk e => own_kind (row i hi) st (by decide) (by rw [hk, e])) c, sep⟩
  rw [set_atL st]
  obtain rfl | rfl | rfl | rfl : j = 0 ∨ j = 1 ∨ j = 2 ∨ j = 3 := by omega
  all_goals rfl
/-- a row has one more -/
theorem QF.push {w wA w8 : World} {p : Nat} {tt : Int} {r : Nat → Value} {L : Nat → List Value} (h : QF w p tt r L) (j : Nat) (hj : j < 4) (o : Out w wA) {v x : Value} (hgrow : wA.grownBy w8 (r j).ownBlock) (hown : w8.ownsRow 0 35 1 v ((L j).length + 1) (L j ++ [x])) (hv : ∀ b, v.ownBlock = some b → (r j).ownBlock = some b ∨ w.heap.size ≤ b) :
    QF (w8.setCell ⟨p, 2 + j, none⟩ v) p tt (upd r j v) (upd L j (L j ++ [x])) ∧ Chg (fun b => b = p ∨ (r j).ownBlock = some b) w (w8.setCell ⟨p, 2 + j, none⟩ v) := by
  have hA := h.out o
  have c8 : Chg (fun b => (r j).ownBlock = some b) wA w8 := Chg.of_grown hgrow (fun k h => h)
  have st8 : w8.heap[p]? = _ := (c8.block p hA.lt (fun e => hA.notp hj e)).trans hA.st
  refine ⟨QF.store st8 j hj v _ (fun i hi => ?_) (fun i k b hi hk hne hib hkb => ?_), ((Chg.of_out (S := fun b => b = p ∨ (r j).ownBlock = some b) o).trans c8 (fun x hx _ => .inr hx)).setCell (p := ⟨p, 2 + j, none⟩) (.inl rfl) _⟩
  · unfold upd
    by_cases hij : i = j
    · rw [if_pos hij, if_pos hij, List.length_append, List.length_singleton]; exact hown
    · rw [if_neg hij, if_neg hij]
      exact owns_chg (hA.row i hi) (fun k hk e => h.sep i j k hi hj hij hk e) c8
  · unfold upd at hib hkb
    by_cases hij : i = j
    · have hkj : ¬ k = j := fun e => hne (hij.trans e.symm)
      rw [if_pos hij] at hib
      rw [if_neg hkj] at hkb
      rcases hv b hib with h1 | h1
      · exact h.sep k j b hk hj hkj hkb h1
      · have := ((h.row k hk).lt b hkb).2; omega
    · rw [if_neg hij] at hib
      by_cases hkj : k = j
      · rw [if_pos hkj] at hkb
        rcases hv b hkb with h1 | h1
        · exact h.sep i j b hi hj hij hib h1
        · have := ((h.row i hi).lt b hib).2; omega
      · rw [if_neg hkj] at hkb
        exact h.sep i k b hi hk hne hib hkb
theorem infoSyl : (Tryz.prog.info? 35).map (fun i => (i.zero, i.size, i.bytes)) = some (some (.slice none 0 0), 1, 24) := by kernel_rfl
/-- the shelf's own blocks that a keeping writes -/
def SOQ (p : Nat) (r : Nat → Value) (b : Nat) : Prop := b = p ∨ (r 2).ownBlock = some b ∨ (r 3).ownBlock = some b
/-- what a keeping leaves behind -/
def KpQ (w : World) (p : Nat) (tt : Int) (r : Nat → Value) (L : Nat → List Value) (x y : Value) (w' : World) : Prop :=
  ∃ v2 v3, QF w' p tt (upd (upd r 2 v2) 3 v3) (upd (upd L 2 (L 2 ++ [x])) 3 (L 3 ++ [y])) ∧ Chg (SOQ p r) w w' ∧ (∀ b, v2.ownBlock = some b → (r 2).ownBlock = some b ∨ w.heap.size ≤ b) ∧ (∀ b, v3.ownBlock = some b → (r 3).ownBlock = some b ∨ w.heap.size ≤ b)
set_option maxRecDepth 20000 in
set_option maxHeartbeats 1000000 in
theorem keepQ_any (w : World) (p : Nat) (tt : Int) (r : Nat → Value) (L : Nat → List Value) (h : QF w p tt r L) (hK : (L 2).length ≤ 1000000000000) (hl2 : (L 3).length = (L 2).length) (a a' : Option Addr) (n c n' c' : Nat) :
    Calls Tryz.prog 85 #[.pointer (some ⟨p, 0, none⟩), .slice a n c, .slice a' n' c'] w fun e w' => (∃ q, e = .returned q) ∧ KpQ w p tt r L (.slice a n c) (.slice a' n' c') w' := by
  obtain ⟨i0, hi, hz0, hz1, hz2⟩ := info_parts infoSyl
  obtain ⟨a2, c2, e2⟩ := own_form (h.row 2 (by omega))
  obtain ⟨a3, c3, e3⟩ := own_form (h.row 3 (by omega))
  have k5 : w.cell? ⟨p, 4, none⟩ = some (.slice a2 (L 2).length c2) := by rw [cell_atL h.st, ← e2]; rfl
  have H := hidOf h
  have E2 := hidOf e2
  have E3 := hidOf e3
  have R2 : Hid (∀ O, (w.alloc O).ownsRow 0 35 1 (.slice a2 (L 2).length c2) (L 2).length (L 2)) := fun O => by
    have := (h.out ((Out.refl w).alloc O)).row 2 (by omega)
    rw [e2] at this; exact this
  have HP : Hid (∀ O w8, (w.alloc O).grownBy w8 (Value.slice a2 (L 2).length c2).ownBlock → w8.cell? ⟨p, 4, none⟩ = some (.slice a2 (L 2).length c2) ∧ w8.frozen? ⟨p, 4, none⟩ = false) := fun O w8 hg => by
    have hA := h.out ((Out.refl w).alloc O)
    have hs : w8.heap[p]? = _ := (hg.block p hA.lt (fun e => hA.notp (j := 2) (by omega) (by rw [e2]; exact e.symm))).trans hA.st
    exact ⟨by rw [cell_atL hs, ← e2]; rfl, frozen_atL hs 4⟩
  have hl3 : (L 3).length ≤ 1000000000000 := by omega
  clear h hl2 e2 e3
  go_enter Tryz.func85, Tryz.ntmps85
  go_upto_region 1 with (at_builtin; refine wpList_append_lies _ rfl (.tmp 10) (.tmp 12) 43 rfl 0 35 i0 _ 1 24 Tryz.underlying43 hi hz0 hz1 hz2 rfl (by decide) (.slice a2 (L 2).length c2) (L 2).length (L 2) rfl (R2.out _) ⟨w.heap.size, 0, none⟩ 1 1 [.slice a n c] rfl rfl (news_new w _ _ _ rfl) (by intro u hu; simp at hu; subst hu; rfl) (by decide) (by unfold maxLen; omega) (by omega) (Nat.zero_le _) _ rfl ?_; intro g8 cap8 w8 hown8 hgrow8 hg8 hlt8; obtain ⟨q8, f8⟩ := HP.out _ w8 hgrow8; have W8 := hidOf hown8; have G8 := hidOf hgrow8; have Hg8 := hidOf hg8; clear hown8 hgrow8 hg8 hlt8)
  have B8 : Hid (∀ b, (Value.slice (some ⟨g8, 0, none⟩) ((L 2).length + 1) cap8).ownBlock = some b → (r 2).ownBlock = some b ∨ w.heap.size ≤ b) := fun b hb => by
    simp [Value.ownBlock] at hb
    subst hb
    rcases Hg8.out with h | h
    · exact .inl (by rw [E2.out]; exact h)
    · right; rw [h, size_alloc]; omega
  have hP := H.out.push 2 (by omega) ((Out.refl w).alloc _) (by rw [E2.out]; exact G8.out) W8.out B8.out
  have S8 := hidOf hP.1
  have C8 := hidOf hP.2
  clear hP G8 W8 Hg8 R2 HP k5 q8 f8
  have hz : (2 : Nat) + 2 = 4 := rfl
  rw [hz] at S8 C8
  clear hz
  generalize w8.setCell ⟨p, 4, none⟩ (.slice (some ⟨g8, 0, none⟩) ((L 2).length + 1) cap8) = w4 at *
  have k6 : w4.cell? ⟨p, 5, none⟩ = some (.slice a3 (L 3).length c3) := by
    rw [cell_atL S8.out.st, ← E3.out]; rfl
  have R3 : Hid (∀ O, (w4.alloc O).ownsRow 0 35 1 (.slice a3 (L 3).length c3) (L 3).length (L 3)) := fun O => by
    have := (S8.out.out ((Out.refl w4).alloc O)).row 3 (by omega)
    rw [← E3.out]; exact this
  have HP3 : Hid (∀ O w9, (w4.alloc O).grownBy w9 (Value.slice a3 (L 3).length c3).ownBlock → w9.cell? ⟨p, 5, none⟩ = some (.slice a3 (L 3).length c3) ∧ w9.frozen? ⟨p, 5, none⟩ = false) := fun O w9 hg => by
    have hA := S8.out.out ((Out.refl w4).alloc O)
    have hs : w9.heap[p]? = _ := (hg.block p hA.lt (fun e => hA.notp (j := 3) (by omega) (by show (r 3).ownBlock = _; rw [E3.out]; exact e.symm))).trans hA.st
    exact ⟨by rw [cell_atL hs, ← E3.out]; rfl, frozen_atL hs 5⟩
  go_wp2_with (at_builtin; refine wpList_append_lies _ rfl (.tmp 20) (.tmp 22) 43 rfl 0 35 i0 _ 1 24 Tryz.underlying43 hi hz0 hz1 hz2 rfl (by decide) (.slice a3 (L 3).length c3) (L 3).length (L 3) rfl (R3.out _) ⟨w4.heap.size, 0, none⟩ 1 1 [.slice a' n' c'] rfl rfl (news_new w4 _ _ _ rfl) (by intro u hu; simp at hu; subst hu; rfl) (by decide) (by unfold maxLen; omega) (by omega) (Nat.zero_le _) _ rfl ?_; intro g9 cap9 w9 hown9 hgrow9 hg9 hlt9; obtain ⟨q9, f9⟩ := HP3.out _ w9 hgrow9; have W9 := hidOf hown9; have G9 := hidOf hgrow9; have Hg9 := hidOf hg9; clear hown9 hgrow9 hg9 hlt9)
  have B9 : Hid (∀ b, (Value.slice (some ⟨g9, 0, none⟩) ((L 3).length + 1) cap9).ownBlock = some b → (r 3).ownBlock = some b ∨ w4.heap.size ≤ b) := fun b hb => by
    simp [Value.ownBlock] at hb
    subst hb
    rcases Hg9.out with h | h
    · exact .inl (by rw [E3.out]; exact h)
    · right; rw [h, size_alloc]; omega
  have hP := S8.out.push 3 (by omega) ((Out.refl w4).alloc _) (by show World.grownBy _ _ (r 3).ownBlock; rw [E3.out]; exact G9.out) W9.out B9.out
  have S9 := hidOf hP.1
  have C9 := hidOf hP.2
  clear hP q9 f9
  go_end0
  have z1 := C8.out.size
  refine ⟨⟨_, rfl⟩, _, _, S9.out, ?_, B8.out, fun b hb => (B9.out b hb).imp id (fun h => by omega)⟩
  refine (C8.out.mono (fun b hb _ => ?_)).trans C9.out (fun b hb _ => ?_)
  · rcases hb with h | h
    · exact .inl h
    · exact .inr (.inl h)
  · rcases hb with h | h
    · exact .inl h
    · exact .inr (.inr h)
end Go.Proofs.YtcomhlimgocoaaaGreatDoor
