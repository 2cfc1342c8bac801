import Derived.Test.YtmpbdakmmelmgaaGa31
import Derived.Test.YtmpbdakmmelmgaaGa24
import Derived.Test.YtmpbdakmmelmgaaGa47
namespace Go.Proofs.Ytmpbdakmmelmgaa
open Go.RowKit
set_option linter.unusedVariables false
set_option linter.unusedSimpArgs false
set_option maxRecDepth 20000 in
set_option maxHeartbeats 1000000 in
theorem refWrite9_no (w : World) (a : Option Addr) (c : Nat) (L : List SV) (h : ScAt w.heap.size w a L) (hc : L.length ≤ c) (hl : L.length ≤ 1000000000) (hn : ∀ x ∈ L, x.s.nm.length ≤ 1000000000000) (hok : writeOk (secs L) = false) :
    Calls Try.prog 13 #[.slice a L.length c] w fun e w' => e = .returned (.tuple #[.slice none 0 0, .int .i64 92]) ∧ Out w w' := by
  have CA : Hid (Calls Try.prog 41 #[.slice a L.length c] w fun e w' => e = .returned (.bool false) ∧ Out w w') := hidOf (by
    have hh := all9_any w a c L h hc hl hn
    rw [allP_ok, hok] at hh
    exact hh)
  clear h hok hn
  go_enter Try.func13, Try.ntmps13
  go_wp2_with (go_at_call 41; refine CA.out.mono ?_; rintro e w1 ⟨rfl, ho⟩; have O1 := hidOf ho; clear ho)
  go_ret2
  exact ⟨rfl, O1.out⟩
/-- what Write tells, as bytes and a number -/
def wrU (ss : List Sec) : List UInt8 := if writeOk ss = true then writeB ss else []
def wrC (ss : List Sec) : Int := if writeOk ss = true then 0 else 92
def WrF (w : World) (ss : List Sec) (e : Ending) (w' : World) : Prop := ∃ v, e = .returned (.tuple #[v, .int .i64 (wrC ss)]) ∧ OwB w.heap.size v (wrU ss) w' ∧ Out w w'
theorem WrEnd.flat {w w' : World} {ss : List Sec} {e : Ending} (h : WrEnd w ss e w') : WrF w ss e w' := by
  rcases h with ⟨hk, he, ho⟩ | ⟨hk, a, c, he, hw, ho⟩
  · refine ⟨.slice none 0 0, by rw [he]; simp [wrC, hk], ?_, ho⟩
    rw [show wrU ss = [] by simp [wrU, hk]]
    exact World.ownsRow_nil _ _ _ _
  · refine ⟨_, by rw [he]; simp [wrC, hk]; rfl, ?_, ho⟩
    rw [show wrU ss = writeB ss by simp [wrU, hk]]
    exact hw
theorem refWrite9_flat (w : World) (a : Option Addr) (c : Nat) (L : List SV) (h : ScAt w.heap.size w a L) (hc : L.length ≤ c) (hc0 : a = none → c = 0) (hl : L.length ≤ 1000000000) (hn : ∀ x ∈ L, x.s.nm.length ≤ 1000000000000) (hD : ∀ x ∈ L, DRc w x) (hS : sumD (secs L) ≤ 1000000000000) (hI : ∀ x ∈ L, x.s.fl ≤ 9223372036854775807 ∧ x.s.al ≤ 9223372036854775807 ∧ x.s.es ≤ 9223372036854775807) :
    Calls Try.prog 13 #[.slice a L.length c] w fun e w' => WrF w (secs L) e w' := by
  cases hok : writeOk (secs L) with
  | false =>
    refine (refWrite9_no w a c L h hc hl hn hok).mono ?_
    rintro e w' ⟨he, ho⟩
    exact WrEnd.flat (.inl ⟨hok, he, ho⟩)
  | true =>
    refine (refWrite9_any w a c L h hc hc0 hok hn hD hS hI).mono ?_
    rintro e w' ⟨a', c', he, hw, ho⟩
    exact WrEnd.flat (.inr ⟨hok, a', c', he, hw, ho⟩)
theorem wrU_len (ss : List Sec) (hs : sumD ss ≤ 100000000000) : (wrU ss).length ≤ 300000000000 := by
  unfold wrU
  split
  · rename_i h; exact (write_size ss h hs).1
  · simp
end Go.Proofs.Ytmpbdakmmelmgaa
namespace Go.Proofs.Ytmpbdakmmelmgaa
open Go.RowKit
set_option linter.unusedVariables false
set_option linter.unusedSimpArgs false
theorem bV_i8B (C : List UInt8) : bV (i8 C) = Lib.byteCells C := by simp [bV, i8, Lib.byteCells]
/-- sections that came in -/
structure In9 (W : World) (a : Option Addr) (cap : Nat) (L : List SV) : Prop where
  at_ : ScAt W.heap.size W a L
  dr : ∀ x ∈ L, DRc W x
  cap_ : L.length ≤ cap
  nil_ : a = none → cap = 0
  len_ : L.length ≤ 10000000
  i64 : ∀ x ∈ L, x.s.fl ≤ 9223372036854775807 ∧ x.s.al ≤ 9223372036854775807 ∧ x.s.es ≤ 9223372036854775807
  sum_ : sumD (secs L) ≤ 10000000
  nm : ∀ x ∈ L, x.s.nm.length ≤ 10000000
  dl : ∀ x ∈ L, x.s.d.length ≤ 10000000
def Li (w : World) (B : Nat) (la : Value) : Prop := la = .slice none 0 0 ∨ ∃ (gl : Nat) (M : List SV), la = .slice (some ⟨gl, 0, none⟩) M.length M.length ∧ RowX w gl M ∧ B ≤ gl ∧ M.length ≤ 1000000000000
theorem Li.of {w : World} {B gl m : Nat} {M : List SV} (hX : RowX w gl M) (hm : M.length = m) (hB : B ≤ gl) (hmm : m ≤ 1000000000000) : Li w B (.slice (some ⟨gl, 0, none⟩) m m) := .inr ⟨gl, M, by rw [hm], hX, hB, by omega⟩
section
variable {W w w' : World} {pk pb B : Nat} {cb c1 : Int} {A Z E : List (Value × List Int)} {la dv : Value} {K : List Ln} {a : Option Addr} {q c : Nat} {U : List UInt8}
theorem Rk.takeZ (h : Rk W w pk pb B cb c1 A Z E la dv K) (o : Out w w') {v : Value} {U : List UInt8} (hv : OwB w.heap.size v U w') (hl : U.length ≤ 60000000000000) : Rk W w' pk pb B cb c1 A ((v, i8 U) :: Z) E la dv K := by
  have h2 := h.more o
  refine ⟨h.bq.take o (l := i8 U) (by rw [bV_i8B, i8_len]; exact hv) (by rw [i8_len]; exact hl), h2.st, h2.own, h2.buf, h2.dis, h2.pB, h2.bW, h2.out⟩
theorem Rk.zRest (h : Rk W w pk pb B cb c1 A Z E la dv K) {a : Option Addr} {n c : Nat} {U : List UInt8} (hz : (Value.slice a n c, i8 U) ∈ Z) : RestAt w.heap.size w a U ∧ n = U.length := by
  have h1 := h.bq.own_of (List.mem_append.2 (.inl hz))
  rw [bV_i8B, i8_len] at h1
  obtain ⟨a', c', hv, _, hr⟩ := OwB.rest (B := B) (v := .slice a n c) (O := U) (w := w) h1
  cases hv
  exact ⟨hr, rfl⟩
theorem Rk.handIn (h : Rk W w pk pb B cb c1 A ((Value.slice a q c, i8 U) :: Z) E la dv K) (hq : U.length = q) (hc1 : c1 ≤ 900000000000000) (mark : Int) (m0 : 0 ≤ mark) (m1 : mark ≤ 100000000000) (hc0 : cb ≤ 20000000000) :
    Calls Try.prog 17 #[.pointer (some ⟨pb, 0, none⟩), .slice a q c, .int .i64 mark] w fun e w' => (∃ r, e = .returned r) ∧ (∃ A', Rk W w' pk pb B (cb + 1) (c1 + q) A' Z E la dv K) ∧ ∀ (gl : Nat) (M : List SV), RowX w gl M → RowX w' gl M := by
  refine (Bq.own (D := Z ++ E) h.bq (by rw [i8_len]; exact hq) hc1 mark m0 m1 hc0).mono ?_
  rintro e w' ⟨he, ⟨A', hb⟩, S, ch, hS⟩
  have oth : ∀ k, k < w.heap.size → Oth w k → w'.heap[k]? = w.heap[k]? := fun k hk ho => ch.block k hk (fun hs => (hS k hs).2 ho)
  refine ⟨he, ⟨A', hb, (oth pk h.lt (Oth.of h.st (by decide))).trans h.st, owns_chg h.own (fun k hk hs => ?_) ch, h.buf, h.dis, h.pB, h.bW, Chg.out ch h.out (fun k hk => by have := (hS k hk).1; have := h.bW; omega)⟩, fun gl M hX => hX.same (oth gl hX.lt (Oth.of hX (by decide)))⟩
  obtain ⟨_, cs, fr, h1⟩ := own_cells h.own hk
  exact (hS k hs).2 (Oth.of h1 (by decide))
end
theorem rackLend_any (W w : World) (pk pb B : Nat) (cb c1 : Int) (A Z E : List (Value × List Int)) (la dv : Value) (K : List Ln) (h : Rk W w pk pb B cb c1 A Z E la dv K) (hli : Li w B la) (a : Option Addr) (cap : Nat) (L : List SV) (hin : In9 W a cap L) (hK : K.length ≤ 100000000) :
    Calls Try.prog 14 #[.pointer (some ⟨pk, 0, none⟩), .slice a L.length cap] w fun e w' => ∃ m gl, LendX W pk pb B cb c1 A Z L m gl 100000000 e w' ∧ B ≤ gl ∧ L.length ≤ m ∧ m ≤ 1000000000000 := by
  have hlen := hin.len_
  have hd : ∀ x ∈ L, x.s.d.length ≤ 1000000000000 := fun x hx => by have := hin.dl x hx; omega
  have make : ∀ (ha : Option Addr) (hn hc : Nat), la = .slice ha hn hc → hn < 2 * L.length + 9 → Calls Try.prog 14 #[.pointer (some ⟨pk, 0, none⟩), .slice a L.length cap] w fun e w' => ∃ m gl, LendX W pk pb B cb c1 A Z L m gl 100000000 e w' ∧ B ≤ gl ∧ L.length ≤ m ∧ m ≤ 1000000000000 := fun ha hn hc e hlt => by
    subst e
    refine (rackLend_make W w pk pb B w.heap.size (2 * L.length + 9) cb c1 A Z E ha hn hc dv K _ h rfl rfl a cap L rfl hin.at_ (fun x hx => (hin.dr x hx).1) hd hin.cap_ hlt (by omega) 100000000 hK (by omega) (by omega)).mono ?_
    intro e w' he
    exact ⟨_, _, he, h.bq.bw, by omega, by omega⟩
  rcases hli with e | ⟨gl, M, e, hX, hB, hm⟩
  · exact make none 0 0 e (by omega)
  · by_cases hlt : M.length < 2 * L.length + 9
    · exact make _ _ _ e hlt
    · subst e
      refine (rackLend_again W w pk pb B gl M.length cb c1 A Z E dv K M h hX rfl hB a cap L hin.at_ (fun x hx => (hin.dr x hx).1) hd hin.cap_ (by omega) hm 100000000 hK (by omega) (by omega)).mono ?_
      intro e w' he
      exact ⟨_, _, he, hB, by omega, hm⟩
/-- Write of what was lent -/
theorem lentWrite (W w : World) (pk pb B gl m : Nat) (cb c1 : Int) (A Z E : List (Value × List Int)) (la dv : Value) (K : List Ln) (M : List SV) (a : Option Addr) (cap : Nat) (L : List SV) (hin : In9 W a cap L) (h : Rk W w pk pb B cb c1 A Z E la dv K) (hX : RowX w gl M) (hMl : M.length = m) (hLd : Ld L M K L.length) (hm : L.length ≤ m) : Calls Try.prog 10 #[.slice (some ⟨gl, 0, none⟩) L.length m] w fun e w' => WrF w (secs L) e w' := by
  have hlen := hin.len_
  have hMm : L.length ≤ M.length := by omega
  have h1 := write_elf w (some ⟨gl, 0, none⟩) m (M.take L.length) hX.take (fun y hy => (h.lentDR hLd hMm y hy).2) (by rw [List.length_take]; omega) (by rw [List.length_take]; omega) (by rw [hLd.secs hMm]; have := hin.sum_; omega)
  rw [hLd.secs hMm, List.length_take, Nat.min_eq_left hMm] at h1
  exact h1.mono (fun e w' he => he.flat)
theorem wrU_sum (ss : List Sec) : (wrU ss).length ≤ sumD ss + 100000 := by
  unfold wrU
  split
  · rename_i hok
    simp only [writeOk, Bool.and_eq_true, decide_eq_true_eq, Bool.not_eq_true'] at hok
    obtain ⟨⟨h16, _⟩, hn⟩ := hok
    obtain ⟨_, _, _, hd4⟩ := namesF_ok (nmsS ss) ((nms_ok_iff ss).2 hn)
    have hnl : (nmsS ss).length = ss.length + 1 := by simp [nmsS]
    have htl : (tabD ss).length = szF 1 (namesF (nmsS ss)) := byP_len _
    have hal : (allS ss).length = ss.length + 1 := by simp [allS]
    have hpl : (plsS ss).length = ss.length + 1 := by simp [plsS, nmsS]
    have hsum : sumD (allS ss) = sumD ss + (tabD ss).length := by simp [allS, sumD, tabS]
    have hT1 := endF_le (allS ss) 64
    have hl : (writeB ss).length = endF 64 (allS ss) + 64 * (ss.length + 2) := by
      unfold writeB
      rw [List.length_append, bodF_len, layB_len, headF_wid, tblF_len, List.length_cons, rowsF_len _ _ _ (by rw [hal, hpl]), hal]
    omega
  · simp
end Go.Proofs.Ytmpbdakmmelmgaa
