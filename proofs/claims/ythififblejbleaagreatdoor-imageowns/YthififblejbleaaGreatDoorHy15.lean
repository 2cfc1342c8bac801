import Derived.Test.YthififblejbleaaGreatDoorHy10
import Derived.Deep.DeepCutAuto
import Derived.Lib.AppendZerosOnto
namespace Go.Proofs.YthififblejbleaaGreatDoor
open Go.RowKit
set_option linter.unusedVariables false
set_option linter.unusedSimpArgs false
theorem Chg.then_out {S : Nat → Prop} {a b c : World} (h : Chg S a b) (o : Out b c) : Chg S a c := h.trans (T := fun _ => False) (Chg.of_out o) (fun _ hx _ => hx.elim)
theorem own_kind {B s n : Nat} {w : World} {e t : TypeId} {v : Value} {xs : List Value} {b : Nat} {cs : Array Value} {fr : Nat × Nat} (h : w.ownsRow B e s v n xs) (hb : w.heap[b]? = some (.cells cs t fr)) (hne : ¬ e = t) : ¬ v.ownBlock = some b := fun hv => by
  rcases h.2 with ⟨hx, _⟩ | ⟨g, cap, cur, hx, _, hg, _⟩
  · rw [hx] at hv; cases hv
  · rw [hx] at hv
    simp [Value.ownBlock] at hv
    subst hv
    rw [hb] at hg; simp at hg; exact hne hg.2.1.symm
theorem own_cells {B s n : Nat} {w : World} {e : TypeId} {v : Value} {xs : List Value} {b : Nat} (h : w.ownsRow B e s v n xs) (hb : v.ownBlock = some b) : B ≤ b ∧ ∃ cs fr, w.heap[b]? = some (.cells cs e fr) := by
  rcases h.2 with ⟨hx, _⟩ | ⟨g, cap, cur, hx, hB, hg, _⟩
  · rw [hx] at hb; cases hb
  · rw [hx] at hb
    simp [Value.ownBlock] at hb
    subst hb
    exact ⟨hB, cur, _, hg⟩
structure Kd where
  e : TypeId
  s : TypeId
  k : Nat
  y : Nat
  z : Value
  c : Bool → Int → List Value
structure Kd.Ok (K : Kd) : Prop where
  un : Tryz.prog.underlying K.s = some (.slice K.e)
  inf : (Tryz.prog.info? K.e).map (fun i => (i.zero, i.size, i.bytes)) = some (some K.z, K.k, K.y)
  zc : K.z.cells.size = K.k
  cl : ∀ b m, (K.c b m).length = K.k
  co : ∀ b m, ∀ u ∈ K.c b m, u.oneCell' = true
  k0 : 0 < K.k
  y1 : K.y ≤ 48
def mI (b : Bool) (m : Int) : Ins := ⟨if b then 99 else 98, 0, 0, 0, m⟩
def mN (b : Bool) : List UInt8 := if b then [103, 114, 111, 119, 110] else [109, 105, 110, 101]
def mF (b : Bool) (m : Int) : Fn := ⟨mN b, 0, m, 0⟩
def mD (b : Bool) (m : Int) : Td := ⟨mN b, 0, m, 0, 0⟩
def kI : Kd := ⟨67, 22, 5, 40, .agg #[.int .i64 0, .int .i64 0, .int .i64 0, .int .i64 0, .int .i64 0], fun b m => csI (mI b m)⟩
def kF : Kd := ⟨69, 23, 4, 40, .agg #[.string ⟨#[]⟩, .int .i64 0, .int .i64 0, .int .i64 0], fun b m => csF (mF b m)⟩
def kD : Kd := ⟨72, 24, 5, 48, .agg #[.string ⟨#[]⟩, .int .i64 0, .int .i64 0, .int .i64 0, .int .i64 0], fun b m => csD (mD b m)⟩
theorem kI_ok : kI.Ok := ⟨Tryz.underlying22, by kernel_rfl, rfl, fun _ _ => rfl, fun b m u hu => by simp [kI, csI] at hu; rcases hu with rfl | rfl | rfl | rfl | rfl <;> rfl, by decide, by decide⟩
theorem kF_ok : kF.Ok := ⟨Tryz.underlying23, by kernel_rfl, rfl, fun _ _ => rfl, fun b m u hu => by simp [kF, csF] at hu; rcases hu with rfl | rfl | rfl | rfl <;> rfl, by decide, by decide⟩
theorem kD_ok : kD.Ok := ⟨Tryz.underlying24, by kernel_rfl, rfl, fun _ _ => rfl, fun b m u hu => by simp [kD, csD] at hu; rcases hu with rfl | rfl | rfl | rfl | rfl <;> rfl, by decide, by decide⟩
def cfi (K : Kd) (m : Int) (n0 o : Nat) : Option Value := (K.c (decide (n0 ≤ o / K.k)) (m + ((o / K.k : Nat) : Int)))[o % K.k]?
theorem cfi_at {K : Kd} (hK : K.Ok) (m : Int) (n0 n j : Nat) (hj : j < K.k) : cfi K m n0 (n * K.k + j) = (K.c (decide (n0 ≤ n)) (m + (n : Int)))[j]? := by
  have h1 : (n * K.k + j) / K.k = n := by rw [Nat.mul_comm, Nat.mul_add_div hK.k0, Nat.div_eq_of_lt hj, Nat.add_zero]
  have h2 : (n * K.k + j) % K.k = j := by rw [Nat.mul_comm, Nat.mul_add_mod, Nat.mod_eq_of_lt hj]
  unfold cfi; rw [h1, h2]
def Mk (K : Kd) (m : Int) (n0 n : Nat) (cs : Array Value) : Prop := ∀ o, o < n * K.k → cs[o]? = cfi K m n0 o
theorem Mk.zero (K : Kd) (m : Int) (n0 : Nat) (cs : Array Value) : Mk K m n0 0 cs := fun o ho => by omega
theorem Mk.succ {K : Kd} (hK : K.Ok) {m : Int} {n0 n : Nat} {cs : Array Value} (h : ∀ o, o < n * K.k → cs[o]? = cfi K m n0 o) (h2 : ∀ j, j < K.k → cs[n * K.k + j]? = (K.c (decide (n0 ≤ n)) (m + (n : Int)))[j]?) : Mk K m n0 (n + 1) cs := fun o ho => by
  by_cases hl : o < n * K.k
  · exact h o hl
  · rw [Nat.succ_mul] at ho
    obtain ⟨j, rfl⟩ : ∃ j, o = n * K.k + j := ⟨o - n * K.k, by omega⟩
    rw [h2 j (by omega), cfi_at hK m n0 n j (by omega)]
def ML (K : Kd) (w : World) (v : Value) (m : Int) (n0 n : Nat) : Prop := (v = .slice none 0 0 ∧ n = 0) ∨ ∃ g c cs, v = .slice (some ⟨g, 0, none⟩) n c ∧ w.heap[g]? = some (.cells cs K.e (0, 0)) ∧ cs.size = c * K.k ∧ n ≤ c ∧ Mk K m n0 n cs
theorem ML.form {K : Kd} {w : World} {v : Value} {m : Int} {n0 n : Nat} (h : ML K w v m n0 n) : ∃ a c, v = .slice a n c := by
  rcases h with ⟨rfl, rfl⟩ | ⟨g, c, cs, rfl, _⟩
  · exact ⟨_, _, rfl⟩
  · exact ⟨_, _, rfl⟩
theorem ML.blk {K : Kd} {w : World} {v : Value} {m : Int} {n0 n : Nat} (h : ML K w v m n0 n) : ∀ b, v.ownBlock = some b → b < w.heap.size ∧ ∃ cs, w.heap[b]? = some (.cells cs K.e (0, 0)) := fun b hb => by
  rcases h with ⟨rfl, _⟩ | ⟨g, c, cs, rfl, hg, _⟩
  · cases hb
  · simp [Value.ownBlock] at hb; subst hb; exact ⟨(Array.getElem?_eq_some_iff.1 hg).1, cs, hg⟩
structure St (φ : Nat → Nat → Option Value) (w w' : World) : Prop where
  chg : Chg (fun b => ∃ o u, φ b o = some u) w w'
  row : ∀ b cs t fr, w.heap[b]? = some (.cells cs t fr) → ∃ cs', w'.heap[b]? = some (.cells cs' t fr) ∧ cs'.size = cs.size ∧ ∀ o, cs'[o]? = cs[o]? ∨ ∃ u, φ b o = some u ∧ cs'[o]? = some u
theorem St.of_out {φ : Nat → Nat → Option Value} {w w' : World} (o : Out w w') : St φ w w' := ⟨Chg.of_out o, fun b cs t fr h => ⟨cs, (o.block b (Array.getElem?_eq_some_iff.1 h).1).trans h, rfl, fun _ => .inl rfl⟩⟩
theorem St.newer {φ ψ : Nat → Nat → Option Value} {a b c : World} (h : St φ a b) (k : St ψ b c) (hn : ∀ x o u, ψ x o = some u → x < a.heap.size → φ x o = some u) : St φ a c := by
  refine ⟨h.chg.trans k.chg (fun x ⟨o, u, hx⟩ hlt => ⟨o, u, hn x o u hx hlt⟩), fun g cs t fr hg => ?_⟩
  have hlt : g < a.heap.size := (Array.getElem?_eq_some_iff.1 hg).1
  obtain ⟨c1, h1, h2, h3⟩ := h.row g cs t fr hg
  obtain ⟨c2, k1, k2, k3⟩ := k.row g c1 t fr h1
  refine ⟨c2, k1, k2.trans h2, fun o => ?_⟩
  rcases k3 o with e | ⟨u, hu, e⟩
  · rcases h3 o with e' | ⟨u, hu, e'⟩
    · exact .inl (e.trans e')
    · exact .inr ⟨u, hu, e.trans e'⟩
  · exact .inr ⟨u, hn g o u hu hlt, e⟩
theorem ML.st {φ : Nat → Nat → Option Value} {K : Kd} {w w' : World} {v : Value} {m : Int} {n0 n : Nat} (h : ML K w v m n0 n) (k : St φ w w') (hφ : ∀ b, v.ownBlock = some b → ∀ o u, φ b o = some u → cfi K m n0 o = some u) : ML K w' v m n0 n := by
  rcases h with h | ⟨g, c, cs, hv, hg, hs, hn, hm⟩
  · exact .inl h
  · obtain ⟨cs', h1, h2, h3⟩ := k.row g cs _ _ hg
    refine .inr ⟨g, c, cs', hv, h1, h2.trans hs, hn, fun o ho => ?_⟩
    rcases h3 o with e | ⟨u, hu, e⟩
    · rw [e]; exact hm o ho
    · rw [e]; exact (hφ g (by rw [hv]; rfl) o u hu).symm
theorem ML.out {K : Kd} {w w' : World} {v : Value} {m : Int} {n0 n : Nat} (h : ML K w v m n0 n) (o : Out w w') : ML K w' v m n0 n := h.st (St.of_out (φ := fun _ _ => none) o) (fun _ _ _ _ h => by cases h)
theorem ML.chg {S : Nat → Prop} {K : Kd} {w w' : World} {v : Value} {m : Int} {n0 n : Nat} (h : ML K w v m n0 n) (c : Chg S w w') (hs : ∀ b, v.ownBlock = some b → ¬ S b) : ML K w' v m n0 n := by
  rcases h with h | ⟨g, cp, cs, hv, hg, h⟩
  · exact .inl h
  · exact .inr ⟨g, cp, cs, hv, (c.block g (Array.getElem?_eq_some_iff.1 hg).1 (hs g (by rw [hv]; rfl))).trans hg, h⟩
def ph1 (ob : Option Nat) (K : Kd) (m : Int) (n0 : Nat) (b o : Nat) : Option Value := if ob = some b then cfi K m n0 o else none
theorem ph1_at {ob : Option Nat} {K : Kd} {m : Int} {n0 b : Nat} (o : Nat) (h : ob = some b) : ph1 ob K m n0 b o = cfi K m n0 o := if_pos h
theorem cap_le {need old : Nat} (h : old < need) : Builtin.nextslicecap need old ≤ need + need / 2 + 600 := by
  unfold Builtin.nextslicecap
  split
  · omega
  · split
    · omega
    · rw [growBy_four]
      repeat' split
      all_goals omega
theorem new_mk {K : Kd} (hK : K.Ok) {cs : Array Value} {m : Int} {n0 n gc : Nat} (hg : n + 1 ≤ gc) (hs : n * K.k ≤ cs.size) (he : Mk K m n0 n cs) :
    ((cs.toList.take (n * K.k)).toArray ++ (K.c (decide (n0 ≤ n)) (m + (n : Int))).toArray ++ Builtin.zeroCells K.z.cells (gc - (n + 1))).size = gc * K.k ∧ Mk K m n0 (n + 1) ((cs.toList.take (n * K.k)).toArray ++ (K.c (decide (n0 ≤ n)) (m + (n : Int))).toArray ++ Builtin.zeroCells K.z.cells (gc - (n + 1))) := by
  have hl : (cs.toList.take (n * K.k)).length = n * K.k := by simp; omega
  have hc := hK.cl (decide (n0 ≤ n)) (m + (n : Int))
  refine ⟨?_, Mk.succ hK (fun o ho => ?_) (fun j hj => ?_)⟩
  · rw [Array.size_append, Array.size_append, size_zeroCells, hK.zc, List.size_toArray, List.size_toArray, hl, hc]
    obtain ⟨q, rfl⟩ : ∃ q, gc = n + 1 + q := ⟨gc - (n + 1), by omega⟩
    rw [show n + 1 + q - (n + 1) = q by omega, Nat.add_mul, Nat.add_mul, Nat.one_mul]
  · rw [Array.append_assoc, ← Array.getElem?_toList, Array.toList_append, Array.toList_append, List.getElem?_append_left (by simp; omega), List.getElem?_take, if_pos ho]
    simpa using he o ho
  · rw [Array.append_assoc, ← Array.getElem?_toList, Array.toList_append, Array.toList_append, List.getElem?_append_right (by simp; omega), List.getElem?_append_left (by simp [hc]; omega)]
    congr 1
    simp; omega
def putC (k : Nat) (cs : Array Value) (n : Nat) (news : List Value) : Array Value := (cs.toList.take (n * k) ++ news ++ cs.toList.drop (n * k + news.length)).toArray
theorem putC_size (k : Nat) (cs : Array Value) (n : Nat) (news : List Value) (hn : news.length = k) (h : n * k + k ≤ cs.size) : (putC k cs n news).size = cs.size := by
  simp [putC, hn]; omega
theorem putC_get (k : Nat) (cs : Array Value) (n : Nat) (news : List Value) (hn : news.length = k) (h : n * k + k ≤ cs.size) (i : Nat) : (putC k cs n news)[i]? = if i < n * k then cs[i]? else if i < n * k + k then news[i - n * k]? else cs[i]? := by
  have hl : (cs.toList.take (n * k)).length = n * k := by simp; omega
  unfold putC
  rw [List.getElem?_toArray]
  by_cases h1 : i < n * k
  · rw [if_pos h1, List.append_assoc, List.getElem?_append_left (by omega), List.getElem?_take, if_pos h1]; simp
  · rw [if_neg h1]
    by_cases h2 : i < n * k + k
    · rw [if_pos h2, List.getElem?_append_left (by rw [List.length_append, hl, hn]; exact h2), List.getElem?_append_right (by omega), hl]
    · rw [if_neg h2, List.getElem?_append_right (by rw [List.length_append, hl, hn]; omega), List.length_append, hl, hn, List.getElem?_drop, show n * k + k + (i - (n * k + k)) = i by omega]; simp
set_option maxRecDepth 20000 in
theorem append_mk {K : Kd} (hK : K.Ok) (w : World) (v : Value) (m : Int) (n0 n : Nat) (hv : ML K w v m n0 n) (ad : Addr) (hc : ∀ j u, (K.c (decide (n0 ≤ n)) (m + (n : Int)))[j]? = some u → w.cell? (ad.add j) = some u) (hn : n ≤ 1000000000) :
    ∃ v' w', (∀ ty, (Builtin.append_ #[K.s, K.s] ty #[v, .slice (some ad) 1 1]).run Tryz.prog w = .ok v' w') ∧ ML K w' v' m n0 (n + 1) ∧ St (ph1 v.ownBlock K m n0) w w' ∧ (∀ b, v'.ownBlock = some b → v.ownBlock = some b ∨ w.heap.size ≤ b) := by
  obtain ⟨i0, hi, hz0, hz1, hz2⟩ := info_parts hK.inf
  have hy := hK.y1
  have hcl := hK.cl (decide (n0 ≤ n)) (m + (n : Int))
  have hby : ∀ q : Nat, q ≤ 3000000000 → q * i0.bytes ≤ 281474976710656 := fun q hq => by
    rw [hz2]; exact Nat.le_trans (Nat.mul_le_mul hq hy) (by decide)
  rcases hv with ⟨rfl, rfl⟩ | ⟨g, c, cs, rfl, hb, hs, hnc, hm⟩
  · have hr := fun ty => run_append_nil (P := Tryz.prog) w K.s ty K.e i0 _ hK.un hi hz0 ad 1 1 (K.c (decide (n0 ≤ 0)) (m + ((0 : Nat) : Int))) (by rw [hz1, hcl]; omega) hc (by omega) (by omega) (hby _ (by have := cap_le (need := 1) (old := 0) (by omega); omega))
    have hge := grownCap_ge w 1 0 K.e
    obtain ⟨h1, h2⟩ := new_mk hK (cs := #[]) (m := m) (n0 := n0) (n := 0) (gc := grownCap w 1 0 K.e) (by simpa using hge) (by simp) (Mk.zero _ _ _ _)
    refine ⟨_, _, hr, .inr ⟨w.heap.size, _, _, rfl, ?_, h1, by simpa using hge, h2⟩, St.of_out ((Out.refl w).drew.alloc _), fun b hb => ?_⟩
    · have := heap_alloc_new w.drew (.cells ((#[].toList.take (0 * K.k)).toArray ++ (K.c (decide (n0 ≤ 0)) (m + ((0 : Nat) : Int))).toArray ++ Builtin.zeroCells K.z.cells (grownCap w 1 0 K.e - (0 + 1))) K.e)
      simpa using this
    · simp [Value.ownBlock] at hb; right; omega
  · by_cases hroom : n + 1 ≤ c
    · have hfit : n * K.k + K.k ≤ cs.size := by rw [hs, ← Nat.succ_mul]; exact Nat.mul_le_mul_right _ hroom
      have hr := fun ty => run_append_room (P := Tryz.prog) w K.s ty K.e i0 hK.un hi g n c cs hb ad 1 1 (K.c (decide (n0 ≤ n)) (m + (n : Int))) (by rw [hz1, hcl]; omega) hc (hK.co _ _) hroom (by rw [hz1, hcl]; exact hfit)
      rw [hz1] at hr
      have hget := putC_get K.k cs n _ hcl hfit
      have hh : (w.setRow g (putC K.k cs n (K.c (decide (n0 ≤ n)) (m + (n : Int))))).heap[g]? = some (.cells (putC K.k cs n (K.c (decide (n0 ≤ n)) (m + (n : Int)))) K.e (0, 0)) := setRow_heap w g _ _ _ _ hb
      refine ⟨_, _, hr, .inr ⟨g, c, _, rfl, hh, by rw [putC_size _ _ _ _ hcl hfit]; exact hs, hroom, Mk.succ hK (fun o ho => by rw [hget, if_pos ho]; exact hm o ho) (fun j hj => by rw [hget, if_neg (by omega), if_pos (by omega), show n * K.k + j - n * K.k = j by omega])⟩, ⟨⟨rfl, rfl, rfl, by simp [World.setRow], fun k hk hne => setRow_other w g k _ (fun e => hne ?_)⟩, fun b cs0 t fr hb0 => ?_⟩, fun b hb => .inl hb⟩
      · subst e
        obtain ⟨u, hu⟩ : ∃ u, cfi K m n0 (n * K.k + 0) = some u := by
          rw [cfi_at hK m n0 n 0 hK.k0]
          exact ⟨_, List.getElem?_eq_getElem (by rw [hcl]; exact hK.k0)⟩
        exact ⟨_, u, (ph1_at _ rfl).trans hu⟩
      · by_cases hbg : b = g
        · subst hbg
          rw [hb] at hb0
          simp only [Option.some.injEq, Obj.cells.injEq] at hb0
          obtain ⟨rfl, rfl, rfl⟩ := hb0
          refine ⟨_, hh, putC_size _ _ _ _ hcl hfit, fun o => ?_⟩
          rw [hget]
          by_cases h1 : o < n * K.k
          · rw [if_pos h1]; exact .inl rfl
          · rw [if_neg h1]
            by_cases h2 : o < n * K.k + K.k
            · rw [if_pos h2]
              refine .inr ⟨(K.c (decide (n0 ≤ n)) (m + (n : Int)))[o - n * K.k]'(by rw [hcl]; omega), ?_, List.getElem?_eq_getElem _⟩
              refine (ph1_at _ rfl).trans ?_
              conv => lhs; rw [show o = n * K.k + (o - n * K.k) by omega]
              rw [cfi_at hK m n0 n _ (by omega)]
              exact List.getElem?_eq_getElem _
            · rw [if_neg h2]; exact .inl rfl
        · exact ⟨cs0, (setRow_other w g b _ hbg).trans hb0, rfl, fun _ => .inl rfl⟩
    · have hcap := cap_le (need := n + 1) (old := c) (by omega)
      have hlen : n * K.k ≤ cs.size := by rw [hs]; exact Nat.mul_le_mul_right _ hnc
      have hr := fun ty => run_append_grow (P := Tryz.prog) w K.s ty K.e i0 _ hK.un hi hz0 ⟨g, 0, none⟩ n c (cs.toList.take (n * K.k)) (by rw [hz1]; simp; omega) (fun j u hu => by
        rw [List.getElem?_take] at hu
        split at hu
        · rw [WideShapes.add_plain, Nat.zero_add, cell_atL (show w.heap[g]? = _ from hb), ← Array.getElem?_toList]; exact hu
        · cases hu) ad 1 1 (K.c (decide (n0 ≤ n)) (m + (n : Int))) (by rw [hz1, hcl]; omega) hc (by omega) (by omega) (hby _ (by omega))
      have hge := grownCap_ge w (n + 1) c K.e
      obtain ⟨h1, h2⟩ := new_mk hK (cs := cs) (m := m) (n0 := n0) (n := n) (gc := grownCap w (n + 1) c K.e) hge hlen hm
      refine ⟨_, _, hr, .inr ⟨w.heap.size, _, _, rfl, heap_alloc_new w.drew _, h1, hge, h2⟩, St.of_out ((Out.refl w).drew.alloc _), fun b hb => ?_⟩
      simp [Value.ownBlock] at hb; right; omega
theorem wp_run {P : Program} {ops : Array Oper} {rest : List Oper} {o : Oper} {a : Act} {Q : Exit → Act → World → Prop} {w w' : World} {v1 v2 v' : Value} (hgd : o.guard = none) (s x : Operand) (t : TypeId) (ho : o.op = .call { callee := .builtin .append, args := #[s, x], argTypes := #[t, t] })
    (hs : a.eval s = v1) (hx : a.eval x = v2) (hr : ∀ ty, (Builtin.append_ #[t, t] ty #[v1, v2]).run P w = .ok v' w') (h : wpList P ops Q rest (a.put o.dst v') w') : wpList P ops Q (o :: rest) a w := by
  refine wpList_plain hgd fun K hK => ?_
  unfold Oper.wp execOp
  simp only [ho, resolve, invoke, builtin, Sem.run_bind, Sem.run_pure, Result.andThen_ok, List.map_toArray, List.map_cons, List.map_nil, hs, hx, hr]
  exact hK _ _ h
end Go.Proofs.YthififblejbleaaGreatDoor
namespace Go.Proofs.YthififblejbleaaGreatDoor.Bo
open Go.RowKit
set_option linter.unusedVariables false
set_option linter.unusedSimpArgs false
def gB (B : List Int) (k : Nat) : Int := B.getD k 0
def BytA (w : World) (a : Option Addr) (B : List Int) : Prop :=
  B = [] ∨ ∃ b off, a = some ⟨b, off, none⟩ ∧ ∀ k, k < B.length → w.cell? ⟨b, off + k, none⟩ = some (.int .u8 (gB B k))
theorem BytA.out {w w' : World} {a : Option Addr} {B : List Int} (h : BytA w a B) (o : Out w w') : BytA w' a B := by
  rcases h with h | ⟨b, off, rfl, h⟩
  · exact .inl h
  · exact .inr ⟨b, off, rfl, fun k hk => cell_later o (h k hk)⟩
theorem info8 : (Tryz.prog.info? 5).map (fun i => (i.zero, i.size, i.bytes)) = some (some (.int .u8 0), 1, 1) := by kernel_rfl
def bV (B : List Int) : List Value := B.map (Value.int .u8)
theorem owns_row {w : World} {B g n : Nat} {e : TypeId} {f : Nat → Value} {xs : List Value} (h : w.rowIs g e n f) (hB : B ≤ g) (hn : n ≤ maxLen) (hx : xs.length = n) (hf : ∀ j, j < n → xs[j]? = some (f j)) : w.ownsRow B e 1 (.slice (some ⟨g, 0, none⟩) n n) n xs := by
  obtain ⟨c, hb, hs, hc⟩ := h
  refine ⟨by omega, .inr ⟨g, n, c, rfl, hB, hb, Nat.le_refl _, hn, by omega, ?_⟩⟩
  apply List.ext_getElem?
  intro j
  rw [Nat.mul_one, List.getElem?_take]
  by_cases hj : j < n
  · rw [if_pos hj, hf j hj, ← hc j hj]; simp
  · rw [if_neg hj, List.getElem?_eq_none (by omega)]
def OwnB (w w' : World) (v : Value) (B : List Int) : Prop := w'.ownsRow w.heap.size 5 1 v B.length (bV B)
theorem cell_at {w : World} {p : Nat} {cs : Array Value} {t : TypeId} (h : w.heap[p]? = some (.cells cs t (0, 0))) (j : Nat) : w.cell? ⟨p, j, none⟩ = cs[j]? := by simp [World.cell?, h]
theorem frozen_at {w : World} {p : Nat} {cs : Array Value} {t : TypeId} (h : w.heap[p]? = some (.cells cs t (0, 0))) (j : Nat) : w.frozen? ⟨p, j, none⟩ = false := by simp [World.frozen?, h]
theorem set_at {w : World} {p : Nat} {cs : Array Value} {t : TypeId} (h : w.heap[p]? = some (.cells cs t (0, 0))) (j : Nat) (u : Value) : (w.setCell ⟨p, j, none⟩ u).heap[p]? = some (.cells (cs.setIfInBounds j u) t (0, 0)) := by
  simp [World.setCell, Array.getElem?_modify, h]
theorem owns_out {B size : Nat} {w w' : World} {e : TypeId} {v : Value} {n : Nat} {xs : List Value} (h : w.ownsRow B e size v n xs) (o : Out w w') : w'.ownsRow B e size v n xs := owns_chg (S := fun _ => False) h (fun _ _ h => h) (Chg.of_out o)
theorem owns_voidBk (w : World) (B size : Nat) (e : TypeId) (hB : B ≤ w.heap.size) : (w.alloc (.cells #[] e)).ownsRow B e size (.slice (some ⟨w.heap.size, 0, none⟩) 0 0) 0 [] :=
  ⟨by simp, .inr ⟨w.heap.size, 0, #[], rfl, hB, by show (w.heap.push _)[w.heap.size]? = _; simp, by omega, by simp [maxLen], by simp, by simp⟩⟩
theorem drewN_twice (w : World) (a b : Nat) : (w.drewN a).drewN b = w.drewN (a + b) := by
  simp only [World.drewN, Nat.add_assoc]
theorem bV_one (B : List Int) : ∀ u ∈ bV B, u.oneCell' = true := by
  intro u hu
  obtain ⟨z, -, rfl⟩ := List.mem_map.1 hu
  rfl
theorem bV_get {B : List Int} {j : Nat} {u : Value} (h : (bV B)[j]? = some u) : j < B.length ∧ u = .int .u8 (gB B j) := by
  rw [bV, List.getElem?_map] at h
  obtain ⟨z, hz, rfl⟩ := Option.map_eq_some_iff.1 h
  exact ⟨(List.getElem?_eq_some_iff.1 hz).1, by simp [gB, List.getD, hz]⟩
theorem copyB (w : World) (a : Option Addr) (n cap : Nat) (B : List Int) (hn : B.length = n) (hi : BytA w a B) (hm : n ≤ 3518437208883) : Calls Tryz.prog 7 #[.slice a n cap] w fun e w' => ∃ v, e = .returned v ∧ OwnB w w' v B ∧ Out w w' := by
  obtain ⟨i0, hi0, hz0, hz1, hz2⟩ := info_parts info8
  cases a with
  | none =>
    obtain rfl : B = [] := by
      rcases hi with h | ⟨b, off, h, _⟩
      · exact h
      · cases h
    obtain rfl : n = 0 := by simpa using hn.symm
    go_enter Tryz.func7, Tryz.ntmps7
    go_wp2
    go_ret
    exact ⟨_, rfl, owns_voidBk w _ _ _ (Nat.le_refl _), Out.alloc (Out.refl _) _⟩
  | some ad =>
    have hcells : ∀ j u, (bV B)[j]? = some u → (w.alloc (.cells #[] 5)).cell? (ad.add j) = some u := by
      intro j u hu
      obtain ⟨hj, rfl⟩ := bV_get hu
      rcases hi with rfl | ⟨b, off, h, hc⟩
      · simp at hj
      · cases h
        rw [WideShapes.add_plain]
        exact cell_later ((Out.refl w).alloc _) (hc j hj)
    subst hn
    go_enter Tryz.func7, Tryz.ntmps7
    go_wp2_with (first | (at_builtin; go_loud (refine wpList_append_own _ rfl (.tmp 3) (.tmp 4) 27 rfl w.heap.size 5 i0 _ 1 1 Tryz.underlying27 hi0 hz0 hz1 hz2 rfl (by decide) _ 0 [] rfl (owns_voidBk w _ _ _ (Nat.le_refl _)) ad B.length cap (bV B) rfl (by simp [bV]) hcells (bV_one B) (by simp only [maxLen]; omega) (by omega) (by rw [size_alloc]; omega) ?_); intro v1 w1 hown1 hgrow1 _))
    go_ret
    refine ⟨_, rfl, by simpa [OwnB] using hown1, ?_⟩
    exact Chg.out (S := fun k => k = w.heap.size) (Chg.of_grown hgrow1 (fun k h => (Option.some.inj h).symm)) ((Out.refl w).alloc _) (fun k hk => by omega)
theorem owns_bytA {w : World} {B : Nat} {v : Value} {L : List Int} (h : w.ownsRow B 5 1 v L.length (bV L)) : ∃ a cap, v = .slice a L.length cap ∧ BytA w a L ∧ L.length ≤ cap := by
  rcases h.2 with ⟨rfl, h0⟩ | ⟨g, cap, cur, rfl, hb, hg, hn, hm, hs, ht⟩
  · obtain rfl : L = [] := List.length_eq_zero_iff.1 h0
    exact ⟨none, 0, rfl, .inl rfl, Nat.le_refl _⟩
  · refine ⟨_, cap, rfl, .inr ⟨g, 0, rfl, fun k hk => ?_⟩, hn⟩
    have e1 : (bV L)[k]? = some (.int .u8 (gB L k)) := by simp [bV, gB, List.getD, List.getElem?_eq_getElem hk]
    rw [← ht, List.getElem?_take, if_pos (by omega)] at e1
    rw [cell_at hg, Nat.zero_add]; simpa using e1
def strB (B : List Int) : ByteArray := B.foldl (fun r n => r.push (UInt8.ofNat n.toNat)) ByteArray.empty
theorem conv_bytes (w : World) (a : Option Addr) (n cap : Nat) (B : List Int) (hn : B.length = n) (h : BytA w a B) : (convert 27 9 (.slice a n cap)).run Tryz.prog w = .ok (.string (strB B)) w := by
  rw [run_convert_bytes_string w 27 9 5 a n cap Tryz.underlying27 Tryz.underlying5 Tryz.underlying9]
  subst hn
  cases a with
  | none =>
    obtain rfl : B = [] := by
      rcases h with h | ⟨b, off, h, _⟩
      · exact h
      · cases h
    rfl
  | some ad =>
    refine run_bytesToString w ad B.length cap B ?_
    have hl : B.length = (bV B).length := by simp [bV]
    rw [hl]
    refine run_loadCells_list w ad (bV B) (fun j u hu => ?_)
    obtain ⟨hj, rfl⟩ := bV_get hu
    rcases h with rfl | ⟨b, off, h, hc⟩
    · simp at hj
    · cases h
      rw [WideShapes.add_plain]
      exact hc j hj
def AppAt (w w' : World) (e : TypeId) (v v' : Value) (n m : Nat) (news : List Value) : Prop :=
  (∃ g cap cur, v = .slice (some ⟨g, 0, none⟩) n cap ∧ v' = .slice (some ⟨g, 0, none⟩) (n + m) cap ∧ n + m ≤ cap ∧ w.heap[g]? = some (.cells cur e (0, 0)) ∧
    w'.heap[g]? = some (.cells (cur.toList.take n ++ news ++ cur.toList.drop (n + m)).toArray e (0, 0))) ∨
  ((∃ cap', v' = .slice (some ⟨w.heap.size, 0, none⟩) (n + m) cap') ∧ ∀ k, k < w.heap.size → w'.heap[k]? = w.heap[k]?)
theorem run_append_two {P : Program} {w : World} (base : Nat) (t ty e : TypeId) (i : TypeInfo) (z : Value) (bytes : Nat) (ht : P.underlying t = some (.slice e)) (hi : P.info? e = some i) (hz : i.zero = some z)
    (hsize : i.size = 1) (hby : i.bytes = bytes) (hzs : z.cells.size = 1)
    (v : Value) (n : Nat) (xs : List Value) (hown : w.ownsRow base e 1 v n xs)
    (a : Addr) (m c : Nat) (news : List Value) (hm : 0 < m) (hl : news.length = m) (hnews : ∀ j u, news[j]? = some u → w.cell? (a.add j) = some u) (h1 : ∀ u ∈ news, u.oneCell' = true)
    (hbytes : (n + m) * bytes ≤ 140737488355328) (h47 : n + m ≤ 140737488355328) (hbase : base ≤ w.heap.size) :
    ∃ v' w', (Builtin.append_ #[t, t] ty #[v, .slice (some a) m c]).run P w = .ok v' w' ∧ w'.ownsRow base e 1 v' (n + m) (xs ++ news) ∧ w.grownBy w' v.ownBlock ∧ AppAt w w' e v v' n m news := by
  have hl1 : news.length = m * 1 := by omega
  obtain ⟨v', w', hr, ho, hg, -⟩ := run_append_own (P := P) w base t ty e i z 1 bytes ht hi hz hsize hby hzs (by omega) v n xs hown a m c news hl1 hnews h1 (by simp only [maxLen]; omega) hbytes hbase
  refine ⟨v', w', hr, ho, hg, ?_⟩
  subst hby
  have hl2 : news.length = m * i.size := by rw [hsize]; omega
  rcases hown.2 with ⟨rfl, rfl⟩ | ⟨g, cap, cur, rfl, hbg, hgh, hnc, hcm, hcs, htake⟩
  · have hr2 := run_append_nil (P := P) w t ty e i z ht hi hz a m c news hl2 hnews hm (by omega) (by simp only [Nat.zero_add] at hbytes; omega)
    rw [hr] at hr2
    injection hr2 with e1 e2
    subst e1 e2
    exact .inr ⟨⟨grownCap w m 0 e, by simp⟩, fun k hk => Below.heap_alloc w.drew _ k hk⟩
  · by_cases hroom : n + m ≤ cap
    · have hr2 := run_append_room (P := P) w t ty e i ht hi g n cap cur hgh a m c news hl2 hnews h1 hroom (by rw [hsize]; omega)
      rw [hr] at hr2
      injection hr2 with e1 e2
      subst e1 e2
      refine .inl ⟨g, cap, cur, rfl, rfl, hroom, hgh, ?_⟩
      rw [setRow_heap w g cur _ e _ hgh, hsize, hl]
      simp
    · have holds : ∀ j u, xs[j]? = some u → w.cell? ((⟨g, 0, none⟩ : Addr).add j) = some u := hown.cells (g := g) rfl
      have hr2 := run_append_grow (P := P) w t ty e i z ht hi hz ⟨g, 0, none⟩ n cap xs (by rw [hsize]; exact hown.1) holds a m c news hl2 hnews (by omega) (by omega) (growslice_fits (by omega) hbytes)
      rw [hr] at hr2
      injection hr2 with e1 e2
      subst e1 e2
      exact .inr ⟨⟨_, rfl⟩, fun k hk => Below.heap_alloc w.drew _ k hk⟩
theorem wpList_append_two {P : Program} {w : World} {ops : Array Oper} {rest : List Oper} {o : Oper} {a : Act} {Q : Exit → Act → World → Prop} (hgd : o.guard = none) (s x : Operand) (t : TypeId)
    (ho : o.op = .call { callee := .builtin .append, args := #[s, x], argTypes := #[t, t] })
    (base : Nat) (e : TypeId) (i : TypeInfo) (z : Value) (bytes : Nat) (ht : P.underlying t = some (.slice e)) (hi : P.info? e = some i) (hz : i.zero = some z)
    (hsize : i.size = 1) (hby : i.bytes = bytes) (hzs : z.cells.size = 1)
    (v : Value) (n : Nat) (xs : List Value) (hs : a.eval s = v) (hown : w.ownsRow base e 1 v n xs)
    (ad : Addr) (m c : Nat) (news : List Value) (hm : 0 < m) (hx : a.eval x = .slice (some ad) m c) (hl : news.length = m) (hnews : ∀ j u, news[j]? = some u → w.cell? (ad.add j) = some u) (h1 : ∀ u ∈ news, u.oneCell' = true)
    (hbytes : (n + m) * bytes ≤ 140737488355328) (h47 : n + m ≤ 140737488355328) (hbase : base ≤ w.heap.size)
    (h : ∀ v' w', w'.ownsRow base e 1 v' (n + m) (xs ++ news) → w.grownBy w' v.ownBlock → AppAt w w' e v v' n m news → wpList P ops Q rest (a.put o.dst v') w') : wpList P ops Q (o :: rest) a w := by
  refine wpList_plain hgd fun K hK => ?_
  obtain ⟨v', w', hr, h2, h3, h4⟩ := run_append_two (P := P) (w := w) base t o.type e i z bytes ht hi hz hsize hby hzs v n xs hown ad m c news hm hl hnews h1 hbytes h47 hbase
  unfold Oper.wp execOp
  simp only [ho, resolve, invoke, builtin, Sem.run_bind, Sem.run_pure, Result.andThen_ok, List.map_toArray, List.map_cons, List.map_nil, hs, hx, hr]
  exact hK _ _ (h v' w' h2 h3 h4)
theorem ownsRow_block_lt {B : Nat} {w : World} {e : TypeId} {v : Value} {n : Nat} {xs : List Value} (h : w.ownsRow B e 1 v n xs) {k : Nat} (hk : v.ownBlock = some k) : k < w.heap.size ∧ B ≤ k ∧ ∃ cur, w.heap[k]? = some (.cells cur e (0, 0)) := by
  rcases h.2 with ⟨rfl, -⟩ | ⟨g, cap, cur, rfl, hb, hg, rest⟩
  · simp [Value.ownBlock] at hk
  · simp only [Value.ownBlock, Option.some.injEq] at hk
    subst hk
    exact ⟨(Array.getElem?_eq_some_iff.1 hg).1, hb, cur, hg⟩
theorem apart_types {B B' : Nat} {w : World} {e e' : TypeId} {v v' : Value} {n n' : Nat} {xs xs' : List Value} (h : w.ownsRow B e 1 v n xs) (h' : w.ownsRow B' e' 1 v' n' xs') (hee : e ≠ e') {k : Nat} (hk : v.ownBlock = some k) : v'.ownBlock ≠ some k := by
  intro hk'
  obtain ⟨-, -, c1, h1⟩ := ownsRow_block_lt h hk
  obtain ⟨-, -, c2, h2⟩ := ownsRow_block_lt h' hk'
  rw [h1] at h2
  injection h2 with h2
  injection h2 with _ h2
  exact hee h2
theorem AppAt.block {w w' : World} {e : TypeId} {v v' : Value} {n m : Nat} {news : List Value} (h : AppAt w w' e v v' n m news) : ∀ k, v'.ownBlock = some k → v.ownBlock = some k ∨ k = w.heap.size := by
  intro k hk
  rcases h with ⟨g, cap, cur, rfl, rfl, -⟩ | ⟨⟨cap, rfl⟩, -⟩
  · exact .inl hk
  · exact .inr (Option.some.inj hk).symm
theorem AppAt.slice {w w' : World} {e : TypeId} {v v' : Value} {n m : Nat} {news : List Value} (h : AppAt w w' e v v' n m news) : ∃ a k c, v' = .slice a k c := by
  rcases h with ⟨g, cap, cur, rfl, rfl, -⟩ | ⟨⟨cap, rfl⟩, -⟩
  · exact ⟨_, _, _, rfl⟩
  · exact ⟨_, _, _, rfl⟩
theorem owns_grown {B n : Nat} {w w' : World} {e : TypeId} {v : Value} {xs : List Value} {row : Option Nat} (h : w.ownsRow B e 1 v n xs) (hg : w.grownBy w' row) (ha : ∀ k, v.ownBlock = some k → row ≠ some k) : w'.ownsRow B e 1 v n xs :=
  owns_chg (S := fun k => row = some k) h ha (Chg.of_grown hg (fun _ h => h))
theorem setCell_self {w : World} {b j : Nat} {cs : Array Value} {t : TypeId} {fr : Nat × Nat} {u : Value} (h : w.heap[b]? = some (.cells cs t fr)) (hj : cs[j]? = some u) : w.setCell ⟨b, j, none⟩ u = w := by
  have hh : (w.setCell ⟨b, j, none⟩ u).heap = w.heap := by
    apply Array.ext_getElem?
    intro k
    by_cases hk : k = b
    · subst hk
      have hset : cs.setIfInBounds j u = cs := by
        apply Array.ext_getElem?
        intro x
        rw [Array.getElem?_setIfInBounds]
        by_cases hx : j = x
        · subst hx; simp [hj]; exact (Array.getElem?_eq_some_iff.1 hj).1
        · rw [if_neg hx]
      simp [World.setCell, Array.getElem?_modify, h, hset]
    · exact Below.heap_setCell w ⟨b, j, none⟩ u k hk
  cases w
  simp only [World.setCell] at hh ⊢
  simp only [hh]
theorem owns_alloc {B size n : Nat} {w : World} {e : TypeId} {v : Value} {xs : List Value} (h : w.ownsRow B e size v n xs) (o : Obj) : (w.alloc o).ownsRow B e size v n xs := owns_out h ((Out.refl w).alloc o)
theorem owns_setCell {B n : Nat} {w : World} {e : TypeId} {v : Value} {xs : List Value} {a : Addr} {u : Value} (h : w.ownsRow B e 1 v n xs) (ha : v.ownBlock ≠ some a.block) : (w.setCell a u).ownsRow B e 1 v n xs :=
  owns_chg (S := fun k => k = a.block) h (fun k hk e => ha (e ▸ hk)) (Chg.setCell (S := fun k => k = a.block) (p := a) (Chg.refl _ _) rfl u)
theorem two_rows {w : World} {B n : Nat} {u v : Value} {xs ys : List Value} {e : TypeId} (h1 : w.ownsRow B e 1 u n xs) (h2 : w.ownsRow B e 1 v n ys) : (∃ a c, u = .slice a 0 c ∧ n = 0) ∨ ∃ g1 g2 c1 c2, u = .slice (some ⟨g1, 0, none⟩) n c1 ∧ v = .slice (some ⟨g2, 0, none⟩) n c2 := by
  rcases h1.2 with ⟨rfl, rfl⟩ | ⟨g1, c1, cur1, rfl, -⟩
  · exact .inl ⟨_, _, rfl, rfl⟩
  · rcases h2.2 with ⟨rfl, rfl⟩ | ⟨g2, c2, cur2, rfl, -⟩
    · exact .inl ⟨_, _, rfl, rfl⟩
    · exact .inr ⟨_, _, _, _, rfl, rfl⟩
theorem one_row (w : World) (u : Value) (t : TypeId) : ∀ j x, [u][j]? = some x → (w.alloc (.cells #[u] t)).cell? ((⟨w.heap.size, 0, none⟩ : Addr).add j) = some x :=
  news_new w #[u] t w.heap.size rfl
end Go.Proofs.YthififblejbleaaGreatDoor.Bo
