import Derived.Test.YtmpbdakmmelmgaaGa28
import Derived.Test.YtmpbdakmmelmgaaGa20
namespace Go.Proofs.Ytmpbdakmmelmgaa
open Go.RowKit
set_option linter.unusedVariables false
set_option linter.unusedSimpArgs false
theorem ScAt.out9 {w w' : World} {a : Option Addr} {L : List SV} (h : ScAt w.heap.size w a L) (o : Out w w') : ScAt w'.heap.size w' a L := by
  rcases h with h | ⟨g, o', hg, ha, hc⟩
  · exact .inl h
  · exact .inr ⟨g, o', Nat.lt_of_lt_of_le hg o.size, ha, fun k x hx => cell_later o (hc k x hx)⟩
def allP (L : List SV) : Bool := decide (L.length ≤ 16) && L.all (fun x => mayS x.s)
theorem all_bad {L : List SV} {k : Nat} {x : SV} (hx : L[k]? = some x) (hm : mayS x.s = false) : allP L = false := by
  unfold allP
  have : L.all (fun x => mayS x.s) = false := by
    rw [List.all_eq_false]
    exact ⟨x, List.mem_of_getElem? hx, by simp [hm]⟩
  rw [this, Bool.and_false]
set_option maxRecDepth 8000 in
set_option maxHeartbeats 1000000 in
theorem all9_any (w : World) (a : Option Addr) (c : Nat) (L : List SV) (h : ScAt w.heap.size w a L) (hc : L.length ≤ c) (hl : L.length ≤ 1000000000) (hn : ∀ x ∈ L, x.s.nm.length ≤ 1000000000000) :
    Calls Try.prog 41 #[.slice a L.length c] w fun e w' => e = .returned (.bool (allP L)) ∧ Out w w' := by
  have H := hidOf h
  have HNm := hidOf hn
  clear h hn
  by_cases h16 : 16 < L.length
  · have h16I : (16 : Int) < L.length := by omega
    have HA : Hid (allP L = false) := hidOf (by unfold allP; simp; omega)
    go_enter Try.func41, Try.ntmps41
    go_wp2
    go_ret
    exact ⟨by rw [HA.out]; rfl, Out.refl _⟩
  have h16I : ¬ (16 : Int) < L.length := by omega
  have H16 := hidOf h16
  clear h16
  go_enter Try.func41, Try.ntmps41
  go_wp2
  go_loopw [3] (fun iv wr => ∃ k : Nat, iv = .int .i64 k ∧ k ≤ L.length ∧ Hid (∀ x ∈ L.take k, mayS x.s = true) ∧ Hid (Out w wr)) (fun iv _ => L.length - (intOf iv).toNat)
  case atStart => exact ⟨0, rfl, by omega, hidOf (by simp), hidOf (Out.refl w)⟩
  case round =>
    obtain ⟨k, rfl, hk, HP, HO⟩ := hrel
    by_cases hkN : k < L.length
    · have hlt : (k : Int) < L.length := by omega
      have h0 : (0 : Int) ≤ k := by omega
      obtain ⟨x, hx⟩ : ∃ x, L[k]? = some x := ⟨_, List.getElem?_eq_getElem hkN⟩
      obtain ⟨b, off, rfl, hb, hcl⟩ := (H.out.out9 HO.out).get hx
      obtain ⟨q0, q1, q2, q3, q4, q5, q6, q7⟩ := hcl
      have CM := hidOf (fun wx => may9_any x.s x.da x.dc wx (HNm.out x (List.mem_of_getElem? hx)))
      have HX := hidOf hx
      clear hx hb
      cases hm : mayS x.s
      · have HA := hidOf (all_bad HX.out hm)
        rw [hm] at CM
        go_wp2_with (go_at_call 74; refine (CM.out _).mono ?_; rintro e w1 ⟨rfl, ho⟩; have O1 := hidOf (Out.trans HO.out ho); clear ho)
        go_ret
        exact ⟨by rw [HA.out]; rfl, O1.out⟩
      · rw [hm] at CM
        have HM := hidOf hm
        clear hm
        go_wp2_with (go_at_call 74; refine (CM.out _).mono ?_; rintro e w1 ⟨rfl, ho⟩; have O1 := hidOf (Out.trans HO.out ho); clear ho)
        go_roundw
        case rel => exact ⟨k + 1, by simp, by omega, hidOf (by
          rw [List.take_add_one, HX.out]
          intro y hy
          rcases List.mem_append.1 hy with hy | hy
          · exact HP.out y hy
          · simp at hy; rw [hy]; exact HM.out), O1⟩
        case measure => simp [intOf]; omega
    · have hlt : ¬ (k : Int) < L.length := by omega
      obtain rfl : k = L.length := by omega
      rw [List.take_length] at HP
      have HA : Hid (allP L = true) := hidOf (by
        unfold allP
        have h1 := H16.out
        simp only [Bool.and_eq_true, decide_eq_true_eq, List.all_eq_true]
        exact ⟨by omega, HP.out⟩)
      go_wp2
      go_ret
      exact ⟨by rw [HA.out]; rfl, HO.out⟩
theorem allP_ok (L : List SV) : allP L = writeOk (secs L) := by
  unfold allP writeOk secs mayS
  rw [Bool.eq_iff_iff]
  simp only [List.length_map, Bool.and_eq_true, decide_eq_true_eq, List.all_eq_true, Bool.not_eq_true', List.any_eq_false, List.all_map, List.mem_map, forall_exists_index, and_imp, forall_apply_eq_imp_iff₂, Function.comp]
  constructor
  · rintro ⟨h1, h2⟩
    exact ⟨⟨h1, fun x hx => by simpa using (h2 x hx).2⟩, fun x hx => (h2 x hx).1⟩
  · rintro ⟨⟨h1, h2⟩, h3⟩
    exact ⟨h1, fun x hx => ⟨h3 x hx, by simpa using h2 x hx⟩⟩
end Go.Proofs.Ytmpbdakmmelmgaa
namespace Go.Proofs.Ytmpbdakmmelmgaa
open Go.RowKit
set_option linter.unusedVariables false
set_option linter.unusedSimpArgs false
theorem jw_natE (n : Nat) (h : n ≤ 9223372036854775807) : jw (n : Int) = n := by unfold jw; omega
/-- a row's bytes, number by number -/
theorem row_bytes (s : Sec) (ty fl li inf al es z p : Nat) (h1 : s.ty = ty) (h2 : s.fl = fl) (h3 : s.li = li) (h4 : s.inf = inf) (h5 : s.al = al) (h6 : s.es = es) (hz : z ≤ 9223372036854775807) (hp : p ≤ 9223372036854775807) (hd : s.d.length ≤ 9223372036854775807) (b1 : ty ≤ 9223372036854775807) (b2 : fl ≤ 9223372036854775807) (b3 : li ≤ 9223372036854775807) (b4 : inf ≤ 9223372036854775807) (b5 : al ≤ 9223372036854775807) (b6 : es ≤ 9223372036854775807) :
    layB (rowP s (z : Int) p).fds = leB z 4 ++ (leB ty 4 ++ (leB fl 8 ++ (leB 0 8 ++ (leB p 8 ++ (leB s.d.length 8 ++ (leB li 4 ++ (leB inf 4 ++ (leB al 8 ++ leB es 8)))))))) := by
  simp only [rowP, Rw.fds, jw2, h1, h2, h3, h4, h5, h6, jw_natE z hz, jw_natE p hp, jw_natE _ hd, jw_natE ty b1, jw_natE fl b2, jw_natE li b3, jw_natE inf b4, jw_natE al b5, jw_natE es b6]
  simp [layB]
theorem zrow_bytes : layB zRw.fds = List.replicate 64 0 := by decide
theorem h16_bytes : hdA = h16 ++ (leB 1 2 ++ (leB 247 2 ++ (leB 1 4 ++ (leB 0 8 ++ leB 0 8)))) := by decide
theorem hdB_bytes : hdB = leB 0 4 ++ (leB 64 2 ++ (leB 0 4 ++ leB 64 2)) := by decide
/-- the head's bytes, number by number -/
theorem head_bytes (count p : Nat) (hc : count ≤ 1000) (hp : p ≤ 9223372036854775807) : layB (headF (jw2 (p : Int)) (jw2 ((count : Int) + 2)) (jw2 ((count : Int) + 1))) = h16 ++ (leB 1 2 ++ (leB 247 2 ++ (leB 1 4 ++ (leB 0 8 ++ (leB 0 8 ++ (leB p 8 ++ (leB 0 4 ++ (leB 64 2 ++ (leB 0 4 ++ (leB 64 2 ++ (leB (count + 2) 2 ++ leB (count + 1) 2))))))))))) := by
  have e1 : jw ((count : Int) + 2) = count + 2 := by unfold jw; omega
  have e2 : jw ((count : Int) + 1) = count + 1 := by unfold jw; omega
  unfold headF
  rw [layB_app, layB_app, layB_app, layB_bw, layB_bw, h16_bytes, hdB_bytes]
  simp only [jw2, jw_natE p hp, e1, e2]
  simp [layB]
/-- the body behind what stands ahead of it hangs on its length alone -/
theorem bodF_preW (L : List Sec) : ∀ h h' : List UInt8, h.length = h'.length → ∃ T, bodF h L = h ++ T ∧ bodF h' L = h' ++ T := by
  induction L with
  | nil => exact fun h h' _ => ⟨[], by simp [bodF], by simp [bodF]⟩
  | cons s r ih =>
    intro h h' e
    have e1 : padB (h ++ s.d) = h ++ (s.d ++ List.replicate (up8 (h.length + s.d.length) - (h.length + s.d.length)) 0) := by simp [padB]
    have e2 : padB (h' ++ s.d) = h' ++ (s.d ++ List.replicate (up8 (h.length + s.d.length) - (h.length + s.d.length)) 0) := by simp [padB, e]
    obtain ⟨T, t1, t2⟩ := ih (padB (h ++ s.d)) (padB (h' ++ s.d)) (by rw [e1, e2]; simp [e])
    refine ⟨s.d ++ List.replicate (up8 (h.length + s.d.length) - (h.length + s.d.length)) 0 ++ T, ?_, ?_⟩
    · show bodF (padB (h ++ s.d)) r = _
      rw [t1, e1]; simp
    · show bodF (padB (h' ++ s.d)) r = _
      rw [t2, e2]; simp
theorem padB_same {O : List UInt8} (h : O.length % 8 = 0) : padB O = O := by
  have : up8 O.length - O.length = 0 := by unfold up8; omega
  simp [padB, this]
theorem padB_mod (O : List UInt8) : (padB O).length % 8 = 0 := by rw [padB_len]; unfold up8; omega
/-- what the reference holds, padded, is the body so far -/
theorem pad_step {O b : List UInt8} {L : List Sec} (s : Sec) (h : padB O = bodF b L) : padB (padB O ++ s.d) = bodF b (L ++ [s]) := by rw [bodF_snoc, h]
/-- places that were told stay -/
theorem places_step (K : List (List UInt8)) (x : List UInt8) (hok : ∀ y ∈ K ++ [x], nameOk y = true) : (K ++ [x]).map (fun y => (plF 1 (namesF (K ++ [x])) y : Int)) = K.map (fun y => (plF 1 (namesF K) y : Int)) ++ [(plF 1 (addN (namesF K) x) x : Int)] := by
  rw [List.map_append, namesF_snoc]
  congr 1
  apply List.map_congr_left
  intro y hy
  have hin : y ∈ namesF K := (namesF_ok K (fun z hz => hok z (List.mem_append_left _ hz))).2.2.1 y hy
  rw [addN_pl hin]
end Go.Proofs.Ytmpbdakmmelmgaa
