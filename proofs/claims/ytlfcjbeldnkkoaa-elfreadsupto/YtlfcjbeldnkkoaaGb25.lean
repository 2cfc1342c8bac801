import Derived.Test.YtlfcjbeldnkkoaaGb24
import Derived.Test.YtlfcjbeldnkkoaaGb20
import Derived.Laws.AppendOwnNone
import Derived.Maps.AppendAt
namespace Go.Proofs.Ytlfcjbeldnkkoaa
open Go.RowKit
set_option linter.unusedVariables false
set_option linter.unusedSimpArgs false
theorem ScAt.out9 {w w' : World} {a : Option Addr} {L : List SV} (h : ScAt w.heap.size w a L) (o : Out w w') : ScAt w'.heap.size w' a L := by
  rcases h with h | ⟨g, o', hg, ha, hc⟩
  · exact .inl h
  · exact .inr ⟨g, o', Nat.lt_of_lt_of_le hg o.size, ha, fun k x hx => cell_later o (hc k x hx)⟩
def allP (L : List SV) : Bool := decide (L.length ≤ 16) && L.all (fun x => mayS x.s)
theorem all_bad {L : List SV} {k : Nat} {x : SV} (hx : L[k]? = some x) (hm : mayS x.s = false) : allP L = false := by
  unfold allP
  have : L.all (fun x => mayS x.s) = false := by
    rw [List.all_eq_false]
    exact ⟨x, List.mem_of_getElem? hx, by simp [hm]⟩
  rw [this, Bool.and_false]
theorem allP_ok (L : List SV) : allP L = writeOk (secs L) := by
  unfold allP writeOk secs mayS
  rw [Bool.eq_iff_iff]
  simp only [List.length_map, Bool.and_eq_true, decide_eq_true_eq, List.all_eq_true, Bool.not_eq_true', List.any_eq_false, List.all_map, List.mem_map, forall_exists_index, and_imp, forall_apply_eq_imp_iff₂, Function.comp]
  constructor
  · rintro ⟨h1, h2⟩
    exact ⟨⟨h1, fun x hx => by simpa using (h2 x hx).2⟩, fun x hx => (h2 x hx).1⟩
  · rintro ⟨⟨h1, h2⟩, h3⟩
    exact ⟨h1, fun x hx => ⟨h3 x hx, by simpa using h2 x hx⟩⟩
end Go.Proofs.Ytlfcjbeldnkkoaa
namespace Go.Proofs.Ytlfcjbeldnkkoaa
open Go.RowKit
set_option linter.unusedVariables false
set_option linter.unusedSimpArgs false
theorem jw_natE (n : Nat) (h : n ≤ 9223372036854775807) : jw (n : Int) = n := by unfold jw; omega
/-- a row's bytes, number by number -/
theorem row_bytes (s : Sec) (ty fl li inf al es z p : Nat) (h1 : s.ty = ty) (h2 : s.fl = fl) (h3 : s.li = li) (h4 : s.inf = inf) (h5 : s.al = al) (h6 : s.es = es) (hz : z ≤ 9223372036854775807) (hp : p ≤ 9223372036854775807) (hd : s.d.length ≤ 9223372036854775807) (b1 : ty ≤ 9223372036854775807) (b2 : fl ≤ 9223372036854775807) (b3 : li ≤ 9223372036854775807) (b4 : inf ≤ 9223372036854775807) (b5 : al ≤ 9223372036854775807) (b6 : es ≤ 9223372036854775807) :
    layB (rowP s (z : Int) p).fds = leB z 4 ++ (leB ty 4 ++ (leB fl 8 ++ (leB 0 8 ++ (leB p 8 ++ (leB s.d.length 8 ++ (leB li 4 ++ (leB inf 4 ++ (leB al 8 ++ leB es 8)))))))) := by
  simp only [rowP, Rw.fds, jw2, h1, h2, h3, h4, h5, h6, jw_natE z hz, jw_natE p hp, jw_natE _ hd, jw_natE ty b1, jw_natE fl b2, jw_natE li b3, jw_natE inf b4, jw_natE al b5, jw_natE es b6]
  simp [layB]
theorem zrow_bytes : layB zRw.fds = List.replicate 64 0 := by decide
theorem h16_bytes : hdA = h16 ++ (leB 1 2 ++ (leB 247 2 ++ (leB 1 4 ++ (leB 0 8 ++ leB 0 8)))) := by decide
theorem hdB_bytes : hdB = leB 0 4 ++ (leB 64 2 ++ (leB 0 4 ++ leB 64 2)) := by decide
/-- the head's bytes, number by number -/
theorem head_bytes (count p : Nat) (hc : count ≤ 1000) (hp : p ≤ 9223372036854775807) : layB (headF (jw2 (p : Int)) (jw2 ((count : Int) + 2)) (jw2 ((count : Int) + 1))) = h16 ++ (leB 1 2 ++ (leB 247 2 ++ (leB 1 4 ++ (leB 0 8 ++ (leB 0 8 ++ (leB p 8 ++ (leB 0 4 ++ (leB 64 2 ++ (leB 0 4 ++ (leB 64 2 ++ (leB (count + 2) 2 ++ leB (count + 1) 2))))))))))) := by
  have e1 : jw ((count : Int) + 2) = count + 2 := by unfold jw; omega
  have e2 : jw ((count : Int) + 1) = count + 1 := by unfold jw; omega
  unfold headF
  rw [layB_app, layB_app, layB_app, layB_bw, layB_bw, h16_bytes, hdB_bytes]
  simp only [jw2, jw_natE p hp, e1, e2]
  simp [layB]
/-- the body behind what stands ahead of it hangs on its length alone -/
theorem bodF_preW (L : List Sec) : ∀ h h' : List UInt8, h.length = h'.length → ∃ T, bodF h L = h ++ T ∧ bodF h' L = h' ++ T := by
  induction L with
  | nil => exact fun h h' _ => ⟨[], by simp [bodF], by simp [bodF]⟩
  | cons s r ih =>
    intro h h' e
    have e1 : padB (h ++ s.d) = h ++ (s.d ++ List.replicate (up8 (h.length + s.d.length) - (h.length + s.d.length)) 0) := by simp [padB]
    have e2 : padB (h' ++ s.d) = h' ++ (s.d ++ List.replicate (up8 (h.length + s.d.length) - (h.length + s.d.length)) 0) := by simp [padB, e]
    obtain ⟨T, t1, t2⟩ := ih (padB (h ++ s.d)) (padB (h' ++ s.d)) (by rw [e1, e2]; simp [e])
    refine ⟨s.d ++ List.replicate (up8 (h.length + s.d.length) - (h.length + s.d.length)) 0 ++ T, ?_, ?_⟩
    · show bodF (padB (h ++ s.d)) r = _
      rw [t1, e1]; simp
    · show bodF (padB (h' ++ s.d)) r = _
      rw [t2, e2]; simp
theorem padB_same {O : List UInt8} (h : O.length % 8 = 0) : padB O = O := by
  have : up8 O.length - O.length = 0 := by unfold up8; omega
  simp [padB, this]
theorem padB_mod (O : List UInt8) : (padB O).length % 8 = 0 := by rw [padB_len]; unfold up8; omega
/-- what the reference holds, padded, is the body so far -/
theorem pad_step {O b : List UInt8} {L : List Sec} (s : Sec) (h : padB O = bodF b L) : padB (padB O ++ s.d) = bodF b (L ++ [s]) := by rw [bodF_snoc, h]
/-- places that were told stay -/
theorem places_step (K : List (List UInt8)) (x : List UInt8) (hok : ∀ y ∈ K ++ [x], nameOk y = true) : (K ++ [x]).map (fun y => (plF 1 (namesF (K ++ [x])) y : Int)) = K.map (fun y => (plF 1 (namesF K) y : Int)) ++ [(plF 1 (addN (namesF K) x) x : Int)] := by
  rw [List.map_append, namesF_snoc]
  congr 1
  apply List.map_congr_left
  intro y hy
  have hin : y ∈ namesF K := (namesF_ok K (fun z hz => hok z (List.mem_append_left _ hz))).2.2.1 y hy
  rw [addN_pl hin]
end Go.Proofs.Ytlfcjbeldnkkoaa
namespace Go.Proofs.Ytlfcjbeldnkkoaa
open Go.RowKit
set_option linter.unusedVariables false
set_option linter.unusedSimpArgs false
theorem own_kind9 {B s n : Nat} {w : World} {e t : TypeId} {v : Value} {xs : List Value} {b : Nat} {cs : Array Value} {fr : Nat × Nat} (h : w.ownsRow B e s v n xs) (hb : w.heap[b]? = some (.cells cs t fr)) (hne : ¬ e = t) : ¬ v.ownBlock = some b := fun hv => by
  rcases h.2 with ⟨rfl, _⟩ | ⟨g, cap, cur, rfl, _, hg, _⟩
  · cases hv
  · simp [Value.ownBlock] at hv
    subst hv
    rw [hg] at hb
    simp at hb
    exact hne hb.2.1
theorem own_cells9 {B s n : Nat} {w : World} {e : TypeId} {v : Value} {xs : List Value} {b : Nat} (h : w.ownsRow B e s v n xs) (hb : v.ownBlock = some b) : ∃ cs, w.heap[b]? = some (.cells cs e (0, 0)) := by
  rcases h.2 with ⟨rfl, _⟩ | ⟨g, cap, cur, rfl, _, hg, _⟩
  · cases hb
  · simp [Value.ownBlock] at hb
    subst hb
    exact ⟨_, hg⟩
/-- a list stays where a list of another kind turns -/
theorem own_other {B B' s s' n n' : Nat} {w w' : World} {e e' : TypeId} {v v' : Value} {xs xs' : List Value} (h : w.ownsRow B e s v n xs) (h' : w.ownsRow B' e' s' v' n' xs') (hne : ¬ e = e') (c : Chg (fun b => v'.ownBlock = some b) w w') : w'.ownsRow B e s v n xs := owns_chg h (fun k hk hs => by
  obtain ⟨cs, hc⟩ := own_cells9 h' hs
  exact own_kind9 h hc hne hk) c
/-- sections that came in are appended to an empty list of the call's own -/
theorem wpList_app_sec {w : World} {ops : Array Oper} {rest : List Oper} {o : Oper} {ac : Act} {Q : Exit → Act → World → Prop} (hgd : o.guard = none) (s x : Operand)
    (ho : o.op = .call { callee := .builtin .append, args := #[s, x], argTypes := #[38, 38] })
    (base B : Nat) (a : Option Addr) (c : Nat) (L : List SV) (h : ScAt B w a L) (hc : a = none → c = 0) (hl : L.length ≤ 1000) (g : Nat) (hs : ac.eval s = .slice (some ⟨g, 0, none⟩) 0 0) (hx : ac.eval x = .slice a L.length c) (hown : w.ownsRow base 46 8 (.slice (some ⟨g, 0, none⟩) 0 0) 0 []) (hb : base ≤ w.heap.size)
    (hw : ∀ a' c' w', OwV base (.slice a' L.length c') L w' → w.grownBy w' (some g) → wpList Try.prog ops Q rest (ac.put o.dst (.slice a' L.length c')) w') : wpList Try.prog ops Q (o :: rest) ac w := by
  obtain ⟨i0, hi, hz0, hz1, hz2⟩ := info_parts infoSc
  cases a with
  | none =>
    obtain rfl : L = [] := by
      rcases h with h | ⟨b, off, _, h, _⟩
      · exact h
      · cases h
    obtain rfl := hc rfl
    refine wpList_append_own_none hgd s x 38 ho base 46 i0 8 Try.underlying38 hi _ 0 [] hs hown hx ?_
    exact hw _ _ w hown (World.grownBy.refl w _)
  | some ad =>
    have hcell : ∀ j u, (svV L)[j]? = some u → w.cell? (ad.add j) = some u := by
      intro j u hu
      rcases h with rfl | ⟨b, off, _, h, hd⟩
      · simp [svV] at hu
      · cases h
        rw [WideShapes.add_plain]
        exact hd j u hu
    refine wpList_append_own _ hgd s x 38 ho base 46 i0 _ 8 88 Try.underlying38 hi hz0 hz1 hz2 rfl (by decide) (.slice (some ⟨g, 0, none⟩) 0 0) 0 [] hs hown ad L.length c (svV L) hx (svV_len L) hcell (svV_one L) (by unfold maxLen; omega) (by omega) hb ?_
    intro v4 w4 hown4 hgrow4 _
    rw [Nat.zero_add, List.nil_append] at hown4
    obtain ⟨a4, c4, rfl⟩ := own_form hown4
    exact hw a4 c4 w4 hown4 hgrow4
theorem made9 (N : Nat) : madeCells #[.int .u8 0] N = (Lib.byteCells (List.replicate N 0)).toArray := by
  apply Array.ext_getElem?
  intro j
  simp only [madeCells, Array.getElem?_map, List.getElem?_toArray, Lib.byteCells, List.getElem?_map, List.getElem?_replicate]
  by_cases hj : j < N
  · rw [if_pos hj, Array.getElem?_range, if_pos hj]
    simp [Nat.mod_one]
  · rw [if_neg hj, Array.getElem?_range, if_neg hj]; rfl
def z64 : List UInt8 := List.replicate 64 0
/-- 64 bytes are made -/
theorem run_make9 (w : World) : (Instr.makeSlice 24 (.int .i64 64) (.int .i64 64)).run Try.prog w = .ok (.slice (some ⟨w.heap.size, 0, none⟩) 64 64) (w.alloc (.cells (Lib.byteCells z64).toArray 5)) := by
  obtain ⟨i0, hi, hz0, hz1, hz2⟩ := info_parts infoB
  have h := run_make (P := Try.prog) w 24 5 i0 _ Try.underlying24 hi hz0 .i64 .i64 64 64 (by omega) (Int.le_refl _) (by rw [hz2]; decide) (by omega)
  rw [hz1] at h
  simp only [Value.cells, Nat.mul_one] at h
  rw [h]
  show Result.ok (Value.slice (some ⟨w.heap.size, 0, none⟩) 64 64) (w.alloc (Obj.cells (madeCells #[.int .u8 0] 64) 5)) = _
  rw [made9]; rfl
theorem own_made9 (w : World) (B : Nat) (hB : B ≤ w.heap.size) : OwB B (.slice (some ⟨w.heap.size, 0, none⟩) 64 64) z64 (w.alloc (.cells (Lib.byteCells z64).toArray 5)) :=
  ⟨by simp [Lib.byteCells, z64], .inr ⟨w.heap.size, 64, _, by simp [z64], hB, heap_alloc_new w _, by simp [z64], by decide, by simp [Lib.byteCells, z64], by simp [Lib.byteCells, z64]⟩⟩
end Go.Proofs.Ytlfcjbeldnkkoaa
namespace Go.Proofs.Ytlfcjbeldnkkoaa
open Go.RowKit
set_option linter.unusedVariables false
set_option linter.unusedSimpArgs false
/-- bytes that lie somewhere are appended to bytes of the call's own -/
theorem wpList_app_data {w : World} {ops : Array Oper} {rest : List Oper} {o : Oper} {ac : Act} {Q : Exit → Act → World → Prop} (hgd : o.guard = none) (s x : Operand)
    (ho : o.op = .call { callee := .builtin .append, args := #[s, x], argTypes := #[24, 24] })
    (N B : Nat) (v : Value) (O : List UInt8) (hv : OwB N v O w) (hN : N ≤ w.heap.size) (da : Option Addr) (dc : Nat) (d : List UInt8) (h : RestAt B w da d) (hc : da = none → dc = 0) (hl : O.length + d.length ≤ 140737488355328) (hs : ac.eval s = v) (hx : ac.eval x = .slice da d.length dc)
    (hw : ∀ a' c' w', AppB N w w' v (.slice a' (O ++ d).length c') (O ++ d) → wpList Try.prog ops Q rest (ac.put o.dst (.slice a' (O ++ d).length c')) w') : wpList Try.prog ops Q (o :: rest) ac w := by
  obtain ⟨i0, hi, hz0, hz1, hz2⟩ := info_parts infoB
  cases da with
  | none =>
    obtain rfl : d = [] := by
      rcases h with h | ⟨b, off, _, h, _⟩
      · exact h
      · cases h
    obtain rfl := hc rfl
    obtain ⟨a', c', rfl⟩ := own_form hv
    refine wpList_append_own_none hgd s x 24 ho N 5 i0 1 Try.underlying24 hi _ O.length (Lib.byteCells O) hs hv hx ?_
    have h1 := hw a' c' w (by rw [List.append_nil]; exact AppB.refl hv)
    rw [List.append_nil] at h1
    exact h1
  | some ad =>
    have hcell : ∀ j u, (Lib.byteCells d)[j]? = some u → w.cell? (ad.add j) = some u := by
      intro j u hu
      simp only [Lib.byteCells, List.getElem?_map, Option.map_eq_some_iff] at hu
      obtain ⟨y, hy, rfl⟩ := hu
      rcases h with rfl | ⟨b, off, _, h, hd⟩
      · simp at hy
      · cases h
        rw [WideShapes.add_plain]
        exact hd j y hy
    refine wpList_append_own_at _ hgd s x 24 ho N 5 i0 _ 1 1 Try.underlying24 hi hz0 hz1 hz2 rfl (by decide) v O.length (Lib.byteCells O) hs hv ad d.length dc (Lib.byteCells d) hx (by simp [Lib.byteCells]) hcell (fun u hu => by
      obtain ⟨y, _, rfl⟩ := List.mem_map.1 hu
      rfl) (by unfold maxLen; omega) (by omega) hN ?_
    intro v4 w4 hown4 hgrow4 _ hat
    rw [← bc_app, ← List.length_append] at hown4
    obtain ⟨a4, c4, rfl⟩ := own_form hown4
    refine hw a4 c4 w4 ⟨hown4, Chg.of_grown hgrow4 (fun k h => h), fun b hb => ?_⟩
    rcases hat with e | e
    · exact .inl (by rw [← e]; exact hb)
    · right; rw [e] at hb; cases hb; exact Nat.le_refl _
end Go.Proofs.Ytlfcjbeldnkkoaa
namespace Go.Proofs.Ytlfcjbeldnkkoaa
open Go.RowKit
set_option linter.unusedVariables false
set_option linter.unusedSimpArgs false
def pcs (K : List (List UInt8)) : List Int := K.map (fun y => (plF 1 (namesF K) y : Int))
/-- amid the names: the list, the names, their places -/
structure W1 (w wr : World) (lv nv pv : Value) (M : List SV) (K : List (List UInt8)) : Prop where
  out : Out w wr
  li : OwV w.heap.size lv M wr
  nm : OwT w.heap.size nv (namesF K) wr
  pl : OwI w.heap.size pv (pcs K) wr
theorem W1.name {w wr w' : World} {lv nv nv' pv : Value} {M : List SV} {K : List (List UInt8)} {N : List (List UInt8)} (h : W1 w wr lv nv pv M K) (a : AppT w.heap.size wr w' nv nv' N) : Out w w' ∧ OwV w.heap.size lv M w' ∧ OwI w.heap.size pv (pcs K) w' :=
  ⟨Chg.out a.chg h.out (fun k hk => (World.ownsRow.lt h.nm k hk).1), own_other h.li h.nm (by decide) a.chg, own_other h.pl h.nm (by decide) a.chg⟩
/-- a section's data, to be read and to be appended -/
def DRc (w : World) (x : SV) : Prop := DR w x ∧ (x.da = none → x.dc = 0)
theorem DRc.out {w w' : World} {x : SV} (h : DRc w x) (o : Out w w') : DRc w' x := ⟨h.1.out o, h.2⟩
theorem tabD_pos (ss : List Sec) : 0 < (tabD ss).length := by simp [tabD, byP]
/-- the names' bytes are stored -/
theorem W1.store {w wr w5 : World} {g k c3 cp tc : Nat} {nv : Value} {ap ta : Option Addr} {L : List SV} {K : List (List UInt8)} (h : W1 w wr (.slice (some ⟨g, 0, none⟩) k c3) nv (.slice ap k cp) (L ++ [t0]) K) (o : Out wr w5) (T5 : OwB wr.heap.size (.slice ta (tabD (secs L)).length tc) (tabD (secs L)) w5) (hD : ∀ x ∈ L, DRc w x) :
    Out w (w5.setCell ⟨g, L.length * 8 + 7, none⟩ (.slice ta (tabD (secs L)).length tc)) ∧ OwV w.heap.size (.slice (some ⟨g, 0, none⟩) k c3) (L ++ [t1 (secs L) ta tc]) (w5.setCell ⟨g, L.length * 8 + 7, none⟩ (.slice ta (tabD (secs L)).length tc)) ∧ OwI w.heap.size (.slice ap k cp) (pcs K) (w5.setCell ⟨g, L.length * 8 + 7, none⟩ (.slice ta (tabD (secs L)).length tc)) ∧ ∀ x ∈ L ++ [t1 (secs L) ta tc], DRc (w5.setCell ⟨g, L.length * 8 + 7, none⟩ (.slice ta (tabD (secs L)).length tc)) x := by
  have li5 : OwV w.heap.size (.slice (some ⟨g, 0, none⟩) k c3) (L ++ [t0]) w5 := own_at h.li o
  obtain ⟨cs, hg⟩ := own_cells9 li5 (b := g) rfl
  have hgN := (World.ownsRow.lt li5 g rfl).1
  have c : Chg (fun b => b = g) w5 (w5.setCell ⟨g, L.length * 8 + 7, none⟩ (.slice ta (tabD (secs L)).length tc)) := Chg.setCell (S := fun b => b = g) (Chg.refl _ w5) (p := ⟨g, L.length * 8 + 7, none⟩) rfl _
  have o6 := Chg.out c (h.out.trans o) (fun b hb => by rw [hb]; exact hgN)
  refine ⟨o6, (li5.setLast (y := t1 (secs L) ta tc) rfl).1, owns_chg (own_at h.pl o) (fun b hb e => own_kind9 (own_at h.pl o) hg (by decide) (by rw [hb, e])) c, fun x hx => ?_⟩
  rcases List.mem_append.1 hx with hx | hx
  · exact (hD x hx).out o6
  · rw [List.mem_singleton.1 hx]
    have T6 : OwB wr.heap.size (.slice ta (tabD (secs L)).length tc) (tabD (secs L)) (w5.setCell ⟨g, L.length * 8 + 7, none⟩ (.slice ta (tabD (secs L)).length tc)) := owns_chg T5 (fun b hb e => own_kind9 T5 hg (by decide) (by rw [hb, e])) c
    obtain ⟨a', c', hv, hcap, hat⟩ := OwB.rest T6
    simp only [Value.slice.injEq] at hv
    obtain ⟨rfl, _, rfl⟩ := hv
    refine ⟨⟨hat, hcap⟩, fun e => ?_⟩
    change ta = none at e
    rcases T6.2 with ⟨_, h0⟩ | ⟨g', cap, cur, e2, _⟩
    · have := tabD_pos (secs L); omega
    · rw [e] at e2; simp at e2
/-- amid the rows: the file so far, the rows so far -/
structure W2 (B wr : World) (ov rv : Value) (O Q : List UInt8) : Prop where
  out : Out B wr
  o : OwB B.heap.size ov O wr
  r : OwB B.heap.size rv Q wr
  ne : ∀ b, ov.ownBlock = some b → ¬ rv.ownBlock = some b
theorem W2.file {B wr w' : World} {ov ov' rv : Value} {O O' Q : List UInt8} (h : W2 B wr ov rv O Q) (a : AppB B.heap.size wr w' ov ov' O') : W2 B w' ov' rv O' Q :=
  ⟨Chg.out a.chg h.out (fun k hk => (World.ownsRow.lt h.o k hk).1), a.own, owns_chg h.r (fun b hb hs => h.ne b hs hb) a.chg, fun b hb hr => by
    rcases a.blk b hb with e | e
    · exact h.ne b e hr
    · have := (World.ownsRow.lt h.r b hr).2; omega⟩
theorem W2.row {B wr w' : World} {ov rv rv' : Value} {O Q Q' : List UInt8} (h : W2 B wr ov rv O Q) (a : AppB B.heap.size wr w' rv rv' Q') : W2 B w' ov rv' O Q' :=
  ⟨Chg.out a.chg h.out (fun k hk => (World.ownsRow.lt h.r k hk).1), owns_chg h.o (fun b hb hs => h.ne b hb hs) a.chg, a.own, fun b hb hr => by
    rcases a.blk b hr with e | e
    · exact h.ne b hb e
    · have := (World.ownsRow.lt h.o b hb).2; omega⟩
theorem W2.more {B wr w' : World} {ov rv : Value} {O Q : List UInt8} (h : W2 B wr ov rv O Q) (o : Out wr w') : W2 B w' ov rv O Q :=
  ⟨h.out.trans o, own_at h.o o, own_at h.r o, h.ne⟩
theorem W2.start (B : World) : W2 B ((B.alloc (.cells (Lib.byteCells z64).toArray 5)).alloc (.cells (Lib.byteCells z64).toArray 5)) (.slice (some ⟨B.heap.size, 0, none⟩) 64 64) (.slice (some ⟨B.heap.size + 1, 0, none⟩) 64 64) z64 z64 := by
  have hs : (B.alloc (.cells (Lib.byteCells z64).toArray 5)).heap.size = B.heap.size + 1 := size_alloc _ _
  refine ⟨((Out.refl B).alloc _).alloc _, own_at (own_made9 B B.heap.size (Nat.le_refl _)) ((Out.refl _).alloc _), ?_, fun b hb hr => ?_⟩
  · have h := own_made9 (B.alloc (.cells (Lib.byteCells z64).toArray 5)) B.heap.size (by omega)
    rw [hs] at h
    exact h
  · simp [Value.ownBlock] at hb hr
    omega
end Go.Proofs.Ytlfcjbeldnkkoaa
namespace Go.Proofs.Ytlfcjbeldnkkoaa
open Go.RowKit
set_option linter.unusedVariables false
set_option linter.unusedSimpArgs false
theorem OwB.set9 {B g c n : Nat} {l : List UInt8} {w : World} (h : OwB B (.slice (some ⟨g, 0, none⟩) n c) l w) (k : Nat) (y : UInt8) : OwB B (.slice (some ⟨g, 0, none⟩) n c) (l.set k y) (w.setCell ⟨g, k, none⟩ (.int .u8 (y.toNat : Int))) ∧ w.frozen? ⟨g, k, none⟩ = false ∧ B ≤ g := by
  rcases h.2 with ⟨hv, _⟩ | ⟨g', cap, cur, hv, hb, hg, hc, hm, hs, ht⟩
  · cases hv
  · simp only [Value.slice.injEq, Option.some.injEq, Addr.mk.injEq] at hv
    obtain ⟨⟨rfl, _⟩, rfl, rfl⟩ := hv
    refine ⟨⟨by simp [Lib.byteCells], .inr ⟨g, c, cur.setIfInBounds k (.int .u8 (y.toNat : Int)), by simp, hb, ?_, by simpa using hc, hm, by simpa using hs, ?_⟩⟩, by simp [World.frozen?, hg], hb⟩
    · simp [World.setCell, Array.getElem?_modify, hg]
    · rw [Array.toList_setIfInBounds, List.take_set, List.length_set, ht]
      simp [Lib.byteCells, List.map_set]
theorem OwB.get9 {B n c : Nat} {a : Option Addr} {l : List UInt8} {w : World} (h : OwB B (.slice a n c) l w) {k : Nat} {x : UInt8} (hx : l[k]? = some x) : ∃ g, a = some ⟨g, 0, none⟩ ∧ w.cell? ⟨g, k, none⟩ = some (.int .u8 (x.toNat : Int)) := by
  have hk := (List.getElem?_eq_some_iff.1 hx).1
  rcases h.2 with ⟨_, h0⟩ | ⟨g, cap, cur, e, _⟩
  · omega
  · simp only [Value.slice.injEq] at e
    refine ⟨g, e.1, ?_⟩
    have := World.ownsRow.cells h (g := g) (by rw [e.1]; rfl) k (.int .u8 (x.toNat : Int)) (by simp [Lib.byteCells, hx])
    rw [WideShapes.add_plain, Nat.zero_add] at this
    exact this
theorem W2.put {B wr : World} {g n c : Nat} {rv : Value} {O Q : List UInt8} (h : W2 B wr (.slice (some ⟨g, 0, none⟩) n c) rv O Q) (k : Nat) (y : UInt8) : W2 B (wr.setCell ⟨g, k, none⟩ (.int .u8 (y.toNat : Int))) (.slice (some ⟨g, 0, none⟩) n c) rv (O.set k y) Q := by
  obtain ⟨h1, _, hg⟩ := h.o.set9 k y
  have ch : Chg (fun b => b = g) wr (wr.setCell ⟨g, k, none⟩ (.int .u8 (y.toNat : Int))) := Chg.setCell (S := fun b => b = g) (Chg.refl _ wr) (p := ⟨g, k, none⟩) rfl _
  exact ⟨Chg.out ch h.out (fun b hb => by rw [hb]; exact hg), h1, owns_chg h.r (fun b hb e => h.ne g rfl (by rw [← e]; exact hb)) ch, h.ne⟩
theorem take_drop_set {H P : List UInt8} {j : Nat} {x : UInt8} (hx : H[j]? = some x) (hP : j < P.length) : (H.take j ++ P.drop j).set j x = H.take (j + 1) ++ P.drop (j + 1) := by
  have hl : (H.take j).length = j := by have := (List.getElem?_eq_some_iff.1 hx).1; simp; omega
  rw [List.set_append_right _ _ (by omega), hl, Nat.sub_self, List.drop_eq_getElem_cons hP, List.set_cons_zero, List.take_add_one, hx]
  simp
theorem own_nil0 {B n c : Nat} {a : Option Addr} {l : List UInt8} {w : World} (h : OwB B (.slice a n c) l w) : a = none → c = 0 := fun e => by
  rcases h.2 with ⟨hv, _⟩ | ⟨g, cap, cur, hv, _⟩
  · simp at hv; exact hv.2.2
  · rw [e] at hv; simp at hv
end Go.Proofs.Ytlfcjbeldnkkoaa
