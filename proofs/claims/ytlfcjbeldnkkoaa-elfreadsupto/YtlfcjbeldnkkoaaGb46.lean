import Derived.Test.YtlfcjbeldnkkoaaGb45
import Derived.Test.YtlfcjbeldnkkoaaGb24
namespace Go.Proofs.Ytlfcjbeldnkkoaa
open Go.RowKit
set_option linter.unusedVariables false
set_option linter.unusedSimpArgs false
/-- padding, over the spans -/
def padS (l : List UInt8) : List (Nat × Nat) → Option Nat
  | [] => none
  | s :: r => match fnz l (up8 (s.1 + s.2) - (s.1 + s.2)) (s.1 + s.2) with
    | some a => some a
    | none => padS l r
theorem padS_step (l : List UInt8) (S : List (Nat × Nat)) (i : Nat) (s : Nat × Nat) (h : S[i]? = some s) : padS l (S.drop i) = match fnz l (up8 (s.1 + s.2) - (s.1 + s.2)) (s.1 + s.2) with
    | some a => some a
    | none => padS l (S.drop (i + 1)) := by
  obtain ⟨hi, hx⟩ := List.getElem?_eq_some_iff.1 h
  rw [List.drop_eq_getElem_cons hi, hx, padS]
theorem padS_E (l : List UInt8) : ∀ E : List En, (∀ e ∈ E, 0 ≤ e.bg ∧ e.bg ≤ e.en) → padS l (E.map spE) = padF l E
  | [], _ => rfl
  | e :: r, h => by
    have he := h e (by simp)
    have e1 : (spE e).1 + (spE e).2 = e.en.toNat := by simp only [spE]; omega
    show (match fnz l (up8 ((spE e).1 + (spE e).2) - ((spE e).1 + (spE e).2)) ((spE e).1 + (spE e).2) with
      | some a => some a
      | none => padS l (r.map spE)) = _
    rw [e1, padF, padS_E l r (fun x hx => h x (by simp [hx]))]
    cases fnz l (up8 e.en.toNat - e.en.toNat) e.en.toNat <;> rfl
theorem fnz_noneR (l : List UInt8) : ∀ (k a : Nat), (∀ j, a ≤ j → j < a + k → l.getD j 0 = 0) → fnz l k a = none
  | 0, _, _ => rfl
  | k + 1, a, h => by
    rw [fnz, if_pos (h a (by omega) (by omega)), fnz_noneR l k (a + 1) (fun j h1 h2 => h j (by omega) (by omega))]
theorem fnz_someR (l : List UInt8) : ∀ (k a q : Nat), (∀ j, a ≤ j → j < q → l.getD j 0 = 0) → a ≤ q → q < a + k → ¬ l.getD q 0 = 0 → fnz l k a = some q
  | 0, a, q, _, h1, h2, _ => by omega
  | k + 1, a, q, h, h1, h2, hq => by
    by_cases e : a = q
    · subst e
      rw [fnz, if_neg hq]
    · rw [fnz, if_pos (h a (by omega) (by omega)), fnz_someR l k (a + 1) q (fun j j1 j2 => h j (by omega) j2) (by omega) (by omega) hq]
def optI (o : Option Nat) : Int := match o with
  | some a => (a : Nat)
  | none => -1
set_option maxRecDepth 20000 in
set_option maxHeartbeats 4000000 in
theorem padding9_any (w : World) (g off c : Nat) (b : List UInt8) (hg : g < w.heap.size) (hb : BAt w g off b) (hc : b.length ≤ c) (hl : b.length ≤ 1000000000000) (B : Nat) (a : Option Addr) (ca : Nat) (S : List (Nat × Nat)) (hS : OwSp B (.slice a S.length ca) S w) (hSc : S.length ≤ ca) (hSl : S.length ≤ 1000) (hSb : ∀ s ∈ S, up8 (s.1 + s.2) ≤ b.length) :
    Calls Try.prog 36 #[.slice (some ⟨g, off, none⟩) b.length c, .slice a S.length ca] w fun e w' => e = .returned (.int .i64 (optI (padS b S))) ∧ Out w w' := by
  have HB := hidOf hb
  have HS := hidOf hS
  have HSb := hidOf hSb
  have hcaI : (S.length : Int) ≤ ca := by omega
  have hSlI : (S.length : Int) ≤ 1000 := by omega
  have hlI : (b.length : Int) ≤ 1000000000000 := by omega
  clear hb hS hSb
  go_enter Try.func36, Try.ntmps36
  go_wp2
  go_loopw [5] (fun iv wr => ∃ i : Nat, iv = .int .i64 i ∧ i ≤ S.length ∧ Hid (padS b S = padS b (S.drop i)) ∧ Hid (Out w wr)) (fun iv _ => S.length - (intOf iv).toNat)
  case atStart => exact ⟨0, rfl, by omega, hidOf rfl, hidOf (Out.refl _)⟩
  case round =>
    obtain ⟨i, rfl, hi, HP, HO⟩ := hrel
    have hi0 : (0 : Int) ≤ i := by omega
    by_cases hlt : i < S.length
    · have hltI : (i : Int) < S.length := by omega
      obtain ⟨s, hs⟩ : ∃ s, S[i]? = some s := ⟨_, List.getElem?_eq_getElem hlt⟩
      obtain ⟨ga, rfl, q0, q1⟩ := OwSp.cells (own_at HS.out HO.out : OwSp _ _ _ wr) hs
      have Hst := hidOf (padS_step b S i s hs)
      have hub := HSb.out s (List.mem_of_getElem? hs)
      have hue := up8_ge (s.1 + s.2)
      obtain ⟨s1, s2⟩ := s
      simp only at q0 q1 Hst hub hue
      have hs12 : (s1 : Int) + s2 ≤ 1000000000000 := by omega
      have h10 : (0 : Int) ≤ s1 := by omega
      have h20 : (0 : Int) ≤ s2 := by omega
      obtain ⟨e, he⟩ : ∃ e, e = s1 + s2 := ⟨_, rfl⟩
      have heI : (s1 : Int) + s2 = e := by omega
      rw [← he] at Hst hub hue
      have KU := hidOf (fun wx => up9_any e (by omega) wx)
      obtain ⟨U, hU⟩ : ∃ U, U = up8 e := ⟨_, rfl⟩
      rw [← hU] at Hst hub hue KU
      clear hs he hU
      go_upto_region 4 with fail
      go_quiet (fail)
      have HO2 := hidOf (HO.out.drewN nq)
      try rw [heI]
      clear q0 q1 heI hs12 h10 h20
      generalize wr.drewN nq = w2 at *
      go_wp2
      go_loopw [7] (fun kv wr => ∃ k : Nat, kv = .int .i64 k ∧ e ≤ k ∧ k ≤ U ∧ Hid (∀ j, e ≤ j → j < k → b.getD j 0 = 0) ∧ wr = w2) (fun kv _ => U - (intOf kv).toNat)
      case atStart => exact ⟨e, rfl, by omega, hue.1, hidOf (fun j h1 h2 => by omega), rfl⟩
      case round =>
        obtain ⟨k, rfl, hk0, hk1, HK, hww⟩ := hrel
        have hww := hww.symm
        subst hww
        have hk0I : (0 : Int) ≤ k := by omega
        by_cases hkl : k < U
        · have hkI : (k : Int) < U := by omega
          obtain ⟨x, hx⟩ : ∃ x, b[k]? = some x := ⟨_, List.getElem?_eq_getElem (by omega)⟩
          have dx := (HB.out.out hg HO2.out) k x hx
          have hklI : (k : Int) < b.length := by omega
          have hgd : b.getD k 0 = x := by simp [List.getD, hx]
          by_cases hx0 : x = 0
          · subst hx0
            have HK2 : Hid (∀ j, e ≤ j → j < k + 1 → b.getD j 0 = 0) := hidOf (fun j h1 h2 => by
              by_cases ej : j = k
              · rw [ej]; exact hgd
              · exact HK.out j h1 (by omega))
            have hz : (((0 : UInt8).toNat : Nat) : Int) = 0 := rfl
            rw [hz] at dx
            clear hx hz hgd
            go_wp2_with (go_at_call 63; refine (KU.out _).mono ?_; rintro e w5 ⟨rfl, hw⟩; have hw := hw.symm; subst hw)
            go_roundw
            case rel => exact ⟨k + 1, by simp, by omega, by omega, HK2, trivial⟩
            case measure => simp [intOf] <;> omega
          · have hxI : ((x.toNat : Int) != 0) = true := by rw [bne_iff_ne]; exact fun e => hx0 (UInt8.toNat_inj.1 (by simpa using e))
            have HF : Hid (padS b S = some k) := hidOf (by rw [HP.out, Hst.out, fnz_someR b (U - e) e k HK.out hk0 (by omega) (by rw [hgd]; exact hx0)])
            clear hx hgd
            go_wp2_with (go_at_call 63; refine (KU.out _).mono ?_; rintro e w5 ⟨rfl, hw⟩; have hw := hw.symm; subst hw)
            go_ret
            exact ⟨(by rw [HF.out]; first | done | rfl), HO2.out⟩
        · have hkI : ¬ (k : Int) < U := by omega
          obtain rfl : k = U := by omega
          have HP2 : Hid (padS b S = padS b (S.drop (i + 1))) := hidOf (by rw [HP.out, Hst.out, fnz_noneR b (k - e) e (fun j h1 h2 => HK.out j h1 (by omega))])
          go_wp2_with (go_at_call 63; refine (KU.out _).mono ?_; rintro e w5 ⟨rfl, hw⟩; have hw := hw.symm; subst hw)
          exact ⟨⟨i + 1, by simp, by omega, HP2, HO2⟩, by simp [intOf] <;> omega⟩
    · have hltI : ¬ (i : Int) < S.length := by omega
      obtain rfl : i = S.length := by omega
      have HF : Hid (padS b S = none) := hidOf (by rw [HP.out, List.drop_length]; rfl)
      go_wp2
      go_ret
      exact ⟨(by rw [HF.out]; first | done | rfl), HO.out⟩
end Go.Proofs.Ytlfcjbeldnkkoaa
namespace Go.Proofs.Ytlfcjbeldnkkoaa
open Go.RowKit
open Go.Maps (Keyed)
set_option linter.unusedVariables false
set_option linter.unusedSimpArgs false
theorem tw_len' {α : Type} (p : α → Bool) : ∀ (l : List α) (k : Nat), (l.take k).all p = true → k ≤ l.length → (k = l.length ∨ ∃ b, l[k]? = some b ∧ p b = false) → (l.takeWhile p).length = k
  | [], k, _, h, _ => by simp at h; simp [h]
  | x :: r, 0, _, _, h => by
    rcases h with h | ⟨b, hb, hp⟩
    · simp at h
    · simp at hb; subst hb; simp [List.takeWhile, hp]
  | x :: r, k + 1, ha, hk, h => by
    simp only [List.take_succ_cons, List.all_cons, Bool.and_eq_true] at ha
    simp only [List.takeWhile, ha.1, List.length_cons]
    rw [tw_len' p r k ha.2 (by simpa using hk) (by simpa using h)]
def twZ (m : List UInt8) : List UInt8 := m.takeWhile (fun b => b != 0)
theorem twZ_le (m : List UInt8) : (twZ m).length ≤ m.length := (List.takeWhile_sublist _).length_le
theorem twZ_take (m : List UInt8) : twZ m = m.take (twZ m).length := List.prefix_iff_eq_take.1 (List.takeWhile_prefix _)
theorem twZ_no (m : List UInt8) : ∀ b ∈ twZ m, ¬ b = 0 := fun b hb => by have := tw_all _ m b hb; simpa using this
theorem tw_at (p : UInt8 → Bool) : ∀ (m : List UInt8), (m.takeWhile p).length < m.length → ∃ b, m[(m.takeWhile p).length]? = some b ∧ p b = false
  | [], h => by simp at h
  | y :: r, h => by
    simp only [List.takeWhile] at h ⊢
    cases hy : p y
    · exact ⟨y, by simp, hy⟩
    · rw [hy] at h
      simp only [List.length_cons] at h
      obtain ⟨b, hb, hp⟩ := tw_at p r (by omega)
      exact ⟨b, by simpa using hb, hp⟩
theorem twZ_end (m : List UInt8) (h : (twZ m).length < m.length) : m[(twZ m).length]? = some 0 := by
  obtain ⟨b, hb, hp⟩ := tw_at (fun b => b != 0) m h
  rw [show twZ m = m.takeWhile (fun b => b != 0) from rfl, hb]
  simp at hp
  rw [hp]
/-- what the reference tests is what the program tests -/
theorem step_bad {m : List UInt8} {N : List (List UInt8)} (h : nameOk (twZ m) = false ∨ (twZ m).length = m.length ∨ twZ m ∈ N) : nmP m ∈ N ∨ nmP m = [] := by
  unfold nmP
  by_cases hc : (m.take 65).contains 0 = true
  · rw [if_pos hc]
    have hm : (0 : UInt8) ∈ m.take 65 := by simpa using hc
    have hl : (twZ m).length ≤ 64 ∧ (twZ m).length < m.length := by
      have h1 := nmP_le m
      have h2 : nmP m = twZ m := by unfold nmP; rw [if_pos hc]; rfl
      rw [h2] at h1
      refine ⟨h1.1, ?_⟩
      rcases Nat.lt_or_eq_of_le h1.2 with h3 | h3
      · exact h3
      · exfalso
        have h4 : twZ m = m := (List.takeWhile_sublist _).eq_of_length h3
        have h5 := twZ_no m 0 (by rw [h4]; exact List.mem_of_mem_take hm)
        exact h5 rfl
    rcases h with h | h | h
    · right
      rw [nameOk_none (twZ_no m)] at h
      have : ¬ 1 ≤ (twZ m).length := by
        intro h1
        rw [decide_eq_true h1, decide_eq_true hl.1] at h
        cases h
      exact List.length_eq_zero_iff.1 (show (twZ m).length = 0 by omega)
    · omega
    · left; exact h
  · rw [if_neg hc]; right; rfl
theorem step_ok {m : List UInt8} {N : List (List UInt8)} (h1 : nameOk (twZ m) = true) (h2 : ¬ (twZ m).length = m.length) (h3 : ¬ twZ m ∈ N) : nmP m = twZ m ∧ ¬ nmP m ∈ N ∧ ¬ nmP m = [] := by
  have hl := name_len h1
  have hlt : (twZ m).length < m.length := by have := twZ_le m; omega
  have hz := twZ_end m hlt
  have hc : (m.take 65).contains 0 = true := by
    have : (0 : UInt8) ∈ m.take 65 := List.mem_of_getElem? (i := (twZ m).length) (by rw [List.getElem?_take, if_pos (by omega)]; exact hz)
    simpa using this
  have e : nmP m = twZ m := by unfold nmP; rw [if_pos hc]; rfl
  rw [e]
  exact ⟨rfl, h3, name_ne h1⟩
theorem owns_base {B B' e sz n : Nat} {w : World} {v : Value} {xs : List Value} (h : w.ownsRow B e sz v n xs) (hb : B' ≤ B) : w.ownsRow B' e sz v n xs := by
  refine ⟨h.1, ?_⟩
  rcases h.2 with h0 | ⟨g, cap, cur, h1, h2, h3⟩
  · exact .inl h0
  · exact .inr ⟨g, cap, cur, h1, Nat.le_trans hb h2, h3⟩
end Go.Proofs.Ytlfcjbeldnkkoaa
namespace Go.Proofs.Ytlfcjbeldnkkoaa
open Go.RowKit
open Go.Maps (Keyed)
set_option linter.unusedVariables false
set_option linter.unusedSimpArgs false
theorem results_cell3 {P : Program} {fn : Func} {p u v : Tmp} {ty : TypeId} (h : fn.results = #[.cell p ty, .tmp u, .tmp v]) (tmps : Array Value) (w : World) (g : Nat) (t : TypeId) (cs : Array Value) (fr : Nat × Nat) (d : TypeDesc)
    (hp : tmps.getD p undef = .pointer (some ⟨g, 0, none⟩)) (hg : w.heap[g]? = some (.cells cs t fr))
    (hu : P.underlying ty = some d) (hd : (match d with | .struct _ | .array _ _ => true | _ => false) = true) (hi : (P.info? ty).map (·.size) = some cs.size) :
    (results fn tmps).run P w = .ok (.tuple #[.agg cs, tmps.getD u undef, tmps.getD v undef]) w := by
  have hp' : tmps[p]?.getD undef = .pointer (some ⟨g, 0, none⟩) := by simpa using hp
  simp [results, h, hp', asAddr, run_loadVar_row w g t ty cs fr d hg hu hd hi]
theorem sizeT : (Try.prog.info? 119).map (·.size) = some 1 := by kernel_rfl
def nilO : Obj := tabO none 0 0
/-- the reading's state: the result's box at g, the table's behind it -/
structure RS (w0 wr : World) (N : List (List UInt8)) (v : Value) : Prop where
  b0 : wr.heap[w0.heap.size]? = some nilO
  b1 : wr.heap[w0.heap.size + 1]? = some (.cells #[v] 119 (0, 0))
  own : wr.ownsRow (w0.heap.size + 2) 9 1 v N.length (N.map strV)
  out : Out w0 wr
theorem RS.lt {w0 wr : World} {N : List (List UInt8)} {v : Value} (h : RS w0 wr N v) : w0.heap.size + 2 ≤ wr.heap.size := by
  have := (Array.getElem?_eq_some_iff.1 h.b1).1; omega
theorem RS.c1 {w0 wr : World} {N : List (List UInt8)} {v : Value} (h : RS w0 wr N v) : wr.cell? ⟨w0.heap.size + 1, 0, none⟩ = some v := by simp [World.cell?, h.b1]
theorem RS.f1 {w0 wr : World} {N : List (List UInt8)} {v : Value} (h : RS w0 wr N v) : wr.frozen? ⟨w0.heap.size + 1, 0, none⟩ = false := by simp [World.frozen?, h.b1]
theorem RS.f0 {w0 wr : World} {N : List (List UInt8)} {v : Value} (h : RS w0 wr N v) : wr.frozen? ⟨w0.heap.size, 0, none⟩ = false := by simp [World.frozen?, h.b0, nilO, tabO]
theorem RS.c0 {w0 wr : World} {N : List (List UInt8)} {v : Value} (h : RS w0 wr N v) : wr.cell? ⟨w0.heap.size, 0, none⟩ = some (.slice none 0 0) := by simp [World.cell?, h.b0, nilO, tabO]
theorem RS.more {w0 wr w' : World} {N : List (List UInt8)} {v : Value} (h : RS w0 wr N v) (o : Out wr w') : RS w0 w' N v := by
  have := h.lt
  exact ⟨(o.block _ (by omega)).trans h.b0, (o.block _ (by omega)).trans h.b1, owns_chg (S := fun _ => False) h.own (fun _ _ h => h) (Chg.of_out o), h.out.trans o⟩
theorem RS.rt {w0 wr : World} {N : List (List UInt8)} {a : Option Addr} {c : Nat} (h : RS w0 wr N (.slice a N.length c)) : RT wr a N ∧ N.length ≤ c := by
  rcases h.own.2 with ⟨hv, hn⟩ | ⟨g, cap, cur, hv, hb, hg, hc, _⟩
  · exact ⟨.inl (List.length_eq_zero_iff.1 hn), by omega⟩
  · simp only [Value.slice.injEq] at hv
    obtain ⟨rfl, -, rfl⟩ := hv
    refine ⟨.inr ⟨g, 0, (Array.getElem?_eq_some_iff.1 hg).1, rfl, fun k x hx => ?_⟩, hc⟩
    have := World.ownsRow.cells h.own (g := g) rfl k (strV x) (by simp [hx])
    rw [WideShapes.add_plain] at this
    exact this
/-- behind an append to the names -/
theorem RS.push {w0 X w' : World} {N : List (List UInt8)} {v v' : Value} {x : List UInt8} {g cap : Nat} (h : RS w0 X N v) (hg : X.grownBy w' v.ownBlock) (hv : v' = .slice (some ⟨g, 0, none⟩) (N.length + 1) cap) (ho : w'.ownsRow (w0.heap.size + 2) 9 1 v' (N.length + 1) (N.map strV ++ [strV x])) : RS w0 (w'.setCell ⟨w0.heap.size + 1, 0, none⟩ v') (N ++ [x]) v' := by
  have hlt := h.lt
  have hc : Chg (fun k => v.ownBlock = some k) X w' := Chg.of_grown hg (fun k hk => hk)
  have hge : ∀ k, v.ownBlock = some k → w0.heap.size + 2 ≤ k := fun k hk => (h.own.lt k hk).1
  have c2 : Chg (fun k => k = w0.heap.size + 1) w' (w'.setCell ⟨w0.heap.size + 1, 0, none⟩ v') := Chg.setCell (S := fun k => k = w0.heap.size + 1) (Chg.refl _ w') (p := ⟨w0.heap.size + 1, 0, none⟩) rfl v'
  have e0 : w'.heap[w0.heap.size]? = some nilO := (hc.block _ (by omega) (fun hk => by have := hge _ hk; omega)).trans h.b0
  have e1 : w'.heap[w0.heap.size + 1]? = some (.cells #[v] 119 (0, 0)) := (hc.block _ (by omega) (fun hk => by have := hge _ hk; omega)).trans h.b1
  refine ⟨?_, ?_, ?_, ?_⟩
  · rw [c2.block _ (by have := hc.size; omega) (by omega)]; exact e0
  · simp [World.setCell, Array.getElem?_modify, e1]
  · have := owns_chg ho (fun k hk e => by have := (ho.lt k hk).1; omega) c2
    simpa using this
  · exact Chg.out c2 (Chg.out hc h.out (fun k hk => by have := hge k hk; omega)) (fun k hk => by omega)
theorem OwS.rt {B : Nat} {w : World} {N : List (List UInt8)} {a : Option Addr} {c : Nat} (h : OwS B (.slice a N.length c) N w) : RT w a N ∧ N.length ≤ c := by
  rcases h.2 with ⟨hv, hn⟩ | ⟨g, cap, cur, hv, hb, hg, hc, _⟩
  · exact ⟨.inl (List.length_eq_zero_iff.1 hn), by omega⟩
  · simp only [Value.slice.injEq] at hv
    obtain ⟨rfl, -, rfl⟩ := hv
    refine ⟨.inr ⟨g, 0, (Array.getElem?_eq_some_iff.1 hg).1, rfl, fun k x hx => ?_⟩, hc⟩
    have := World.ownsRow.cells h (g := g) rfl k (strV x) (by simp [hx])
    rw [WideShapes.add_plain] at this
    exact this
/-- what the reference's Read leaves -/
def RREnd (w : World) (l : List UInt8) (e : Ending) (w' : World) : Prop :=
  Out w w' ∧ ((rdP l).1 = none ∧ e = .returned (.tuple #[.agg #[.slice none 0 0], .int .i64 (rdP l).2, .int .i64 80]) ∨ ∃ N a c, (rdP l).1 = some N ∧ e = .returned (.tuple #[.agg #[.slice a N.length c], .int .i64 0, .int .i64 0]) ∧ OwS w.heap.size (.slice a N.length c) N w')
theorem rread_empty (a : Option Addr) (c : Nat) (w : World) : Calls Try.prog 64 #[.slice a 0 c] w fun e w' => e = .returned (.tuple #[.agg #[.slice none 0 0], .int .i64 0, .int .i64 80]) ∧ Out w w' := by
  have Ho : Hid (Out w (w.alloc nilO)) := (Out.refl w).alloc _
  go_enter Try.func64, Try.ntmps64
  go_wp2
  refine bodyPost_ret (results_cell3 rfl _ _ w.heap.size 119 _ (0, 0) _ rfl (heap_alloc_new _ _) Try.underlying119 rfl sizeT) rfl ?_
  exact ⟨rfl, Ho.out⟩
theorem rread_first (g off c n : Nat) (x : UInt8) (w : World) (hx : ¬ x = 0) (hc : n + 1 ≤ c) (h : w.cell? ⟨g, off, none⟩ = some (.int .u8 (x.toNat : Int))) : Calls Try.prog 64 #[.slice (some ⟨g, off, none⟩) (n + 1) c] w fun e w' => e = .returned (.tuple #[.agg #[.slice none 0 0], .int .i64 0, .int .i64 80]) ∧ Out w w' := by
  have Ho : Hid (Out w (w.alloc nilO)) := (Out.refl w).alloc _
  have h' : ∀ O, (w.alloc O).cell? ⟨g, off, none⟩ = some (.int .u8 (x.toNat : Int)) := fun O => cell_later ((Out.refl w).alloc O) h
  have hz : ((x.toNat : Int) == 0) = false := by
    have : ¬ x.toNat = 0 := fun h => hx (UInt8.toNat_inj.1 h)
    simp; omega
  have hz' : ((x.toNat : Int) != 0) = true := by simp only [bne, hz]; rfl
  have hn0 : (((n : Int) + 1) == 0) = false := by simp; omega
  go_enter Try.func64, Try.ntmps64
  go_wp2
  refine bodyPost_ret (results_cell3 rfl _ _ w.heap.size 119 _ (0, 0) _ rfl (heap_alloc_new _ _) Try.underlying119 rfl sizeT) rfl ?_
  exact ⟨rfl, Ho.out⟩
end Go.Proofs.Ytlfcjbeldnkkoaa
