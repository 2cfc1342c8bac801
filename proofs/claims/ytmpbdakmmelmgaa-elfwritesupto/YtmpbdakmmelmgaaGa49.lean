import Derived.Test.YtmpbdakmmelmgaaGa48
import Derived.Test.YtmpbdakmmelmgaaGa25
namespace Go.Proofs.Ytmpbdakmmelmgaa
open Go.RowKit
set_option linter.unusedVariables false
set_option linter.unusedSimpArgs false
/-- amid ElfWrites, between two lists -/
def Wel (W w : World) (pk pb B : Nat) (cb c1 : Int) : Prop := ∃ A Z E la dv K, Rk W w pk pb B cb c1 A Z E la dv K ∧ Li w B la ∧ K.length ≤ 100000000
set_option maxRecDepth 20000 in
set_option maxHeartbeats 4000000 in
theorem written_any (W w : World) (pk pb B : Nat) (cb c1 : Int) (h : Wel W w pk pb B cb c1) (a : Option Addr) (cap : Nat) (L : List SV) (hin : In9 W a cap L) (hcb : cb ≤ 10000000000) (hc1 : c1 ≤ 800000000000000) :
    Calls Try.prog 6 #[.slice a L.length cap, .pointer (some ⟨pk, 0, none⟩), .pointer (some ⟨pb, 0, none⟩)] w fun e w' => e = .returned (.bool true) ∧ ∃ c1', Wel W w' pk pb B (cb + 1 + 1) c1' ∧ c1' ≤ c1 + 30000000 := by
  obtain ⟨A, Z, E, la, dv, K, hR, hLi, hK⟩ := h
  have hlen := hin.len_
  have hlI : (L.length : Int) ≤ 10000000 := by omega
  have HI := hidOf hin
  have HR := hidOf hR
  have HLi := hidOf hLi
  have HUl : Hid ((wrU (secs L)).length ≤ 10100000) := hidOf (by have := wrU_sum (secs L); have := hin.sum_; omega)
  have CR := hidOf (refWrite9_flat w a cap L (hin.at_.out9 hR.out) hin.cap_ hin.nil_ (by omega) (fun x hx => by have := hin.nm x hx; omega) (fun x hx => (hin.dr x hx).out hR.out) (by have := hin.sum_; omega) hin.i64)
  have CLn : Hid (∀ wx cb c1 A Z E la dv K, Rk W wx pk pb B cb c1 A Z E la dv K → Li wx B la → K.length ≤ 100000000 → Calls Try.prog 14 #[.pointer (some ⟨pk, 0, none⟩), .slice a L.length cap] wx fun e w' => ∃ m gl, LendX W pk pb B cb c1 A Z L m gl 100000000 e w' ∧ B ≤ gl ∧ L.length ≤ m ∧ m ≤ 1000000000000) := hidOf (fun wx cb c1 A Z E la dv K h1 h2 h3 => rackLend_any W wx pk pb B cb c1 A Z E la dv K h1 h2 a cap L hin h3)
  have CWr : Hid (∀ wx gl m cb c1 A Z E la dv K M, Rk W wx pk pb B cb c1 A Z E la dv K → RowX wx gl M → M.length = m → Ld L M K L.length → L.length ≤ m → Calls Try.prog 10 #[.slice (some ⟨gl, 0, none⟩) L.length m] wx fun e w' => WrF wx (secs L) e w') := hidOf (fun wx gl m cb c1 A Z E la dv K M h1 h2 h3 h4 h5 => lentWrite W wx pk pb B gl m cb c1 A Z E la dv K M a cap L hin h1 h2 h3 h4 h5)
  have CBk : Hid (∀ wx gl m KL cb c1 A Z E dv K M, Rk W wx pk pb B cb c1 A Z E (.slice (some ⟨gl, 0, none⟩) m m) dv K → RowX wx gl M → M.length = m → Ld L M K L.length → K.length = KL → L.length ≤ KL → B ≤ gl → L.length ≤ m → m ≤ 1000000000000 → Calls Try.prog 15 #[.pointer (some ⟨pk, 0, none⟩), .slice a L.length cap] wx fun e w' => BackX W pk pb B cb c1 A Z m gl KL e w') := hidOf (fun wx gl m KL cb c1 A Z E dv K M h1 h2 h3 h4 h5 h6 h7 h8 h9 => rackBack_any W wx pk pb B gl m KL cb c1 A Z E dv K M a cap L h1 h2 h3 h4 h5 h6 h7 hin.at_ (fun x hx => (hin.dr x hx).1) (fun x hx => by have := hin.dl x hx; omega) hin.cap_ h8 h9)
  unfold WrF at CR CWr
  generalize wrC (secs L) = EC at *
  generalize wrU (secs L) = U at *
  clear hin hR hLi
  go_enter Try.func6, Try.ntmps6
  go_upto_region 2 with (go_at_call 13; refine CR.out.mono ?_; rintro e w1 ⟨v1, rfl, hown, ho⟩; have V1 := hidOf hown; have O1 := hidOf ho; clear hown ho)
  obtain ⟨a1, n1, rfl, _, _⟩ := OwB.rest V1.out
  have R1 := hidOf (HR.out.takeZ O1.out V1.out (by have := HUl.out; omega))
  have L1 : Hid (Li w1 B la) := hidOf (by
    rcases HLi.out with e | ⟨gl, M, e, h1, h2, h3⟩
    · exact .inl e
    · exact .inr ⟨gl, M, e, h1.out O1.out, h2, h3⟩)
  have C2 := hidOf (CLn.out w1 _ _ _ _ _ _ _ _ R1.out L1.out hK)
  clear CR V1 HR HLi
  go_upto_region 3 with (first | (go_at_call 14; refine C2.out.mono ?_; rintro e w2 ⟨m, gl, ⟨rfl, M, E2, dv2, K2, h1, h2, h3, h4, h5, h6⟩, hgB, hLm, hmm⟩; have R2 := hidOf h1; have X2 := hidOf h2; have M2 := hidOf h3; have D2 := hidOf h4; have K2l := hidOf (And.intro h5 h6); clear h1 h2 h3 h4 h5 h6) | (go_at_call 10; refine (CWr.out w2 gl m _ _ _ _ _ _ _ _ _ R2.out X2.out M2.out D2.out hLm).mono ?_; rintro e w3 ⟨v3, rfl, hown, ho⟩; have V3 := hidOf hown; have O3 := hidOf ho; clear hown ho))
  obtain ⟨a3, n3, rfl, _, _⟩ := OwB.rest V3.out
  have R3 := hidOf (R2.out.takeZ O3.out V3.out (by have := HUl.out; omega))
  have X3 := hidOf (X2.out.out O3.out)
  have C4 := hidOf (CBk.out w3 gl m K2.length _ _ _ _ _ _ _ _ R3.out X3.out M2.out D2.out rfl K2l.out.2 hgB hLm hmm)
  have CSB : Hid (∀ wx cb c1 A E la dv K b n, Rk W wx pk pb B cb c1 A ((Value.slice b U.length n, i8 U) :: (Value.slice a1 U.length n1, i8 U) :: Z) E la dv K → Calls Try.prog 16 #[.slice b U.length n, .slice a1 U.length n1] wx fun e w' => e = .returned (.bool true) ∧ wx = w') := hidOf (fun wx cb c1 A E la dv K b n h => sameBytes_any b a1 n n1 U wx (h.zRest List.mem_cons_self).1 (h.zRest (List.mem_cons_of_mem _ List.mem_cons_self)).1)
  clear V3 C2 L1 R1 R2 X2 M2 D2
  go_upto_region 5 with (first | (go_at_call 15; refine C4.out.mono ?_; rintro e w4 ⟨rfl, M4, E4, dv4, K4, h1, h2, h3, h4⟩; have R4 := hidOf h1; have X4 := hidOf h2; have M4l := hidOf h3; have K4l := hidOf h4; clear h1 h2 h3 h4) | (go_at_call 9; refine (num_any _ _).mono ?_; rintro e w8 ⟨rfl, hw⟩; subst hw) | (go_at_call 16; refine (CSB.out w4 _ _ _ _ _ _ _ _ _ R4.out).mono ?_; rintro e w9 ⟨rfl, hw⟩; subst hw))
  have C5 := hidOf (Rk.handIn R4.out rfl (by omega) (L.length : Int) (by omega) (by omega) (by omega))
  clear C4 R3 X3
  go_upto_region 6 with (go_at_call 17; refine C5.out.mono ?_; rintro e w5 ⟨⟨r5, rfl⟩, ⟨A5, h1⟩, h2⟩; have R5 := hidOf h1; have X5 := hidOf (h2 _ _ X4.out); clear h1 h2)
  have L5 := hidOf (Li.of X5.out M4l.out hgB hmm)
  have hK4 : K4.length ≤ 100000000 := by have := K4l.out; have := K2l.out.1; omega
  have C6 := hidOf (CLn.out w5 _ _ _ _ _ _ _ _ R5.out L5.out hK4)
  clear C5 R4 X4 M4l X5
  go_upto_region 7 with (first | (go_at_call 14; refine C6.out.mono ?_; rintro e w6 ⟨m6, g6, ⟨rfl, M, E6, dv6, K6, h1, h2, h3, h4, h5, h6⟩, hg6, hLm6, hmm6⟩; have R6 := hidOf h1; have X6 := hidOf h2; have M6 := hidOf h3; have D6 := hidOf h4; have K6l := hidOf (And.intro h5 h6); clear h1 h2 h3 h4 h5 h6) | (go_at_call 10; refine (CWr.out w6 g6 m6 _ _ _ _ _ _ _ _ _ R6.out X6.out M6.out D6.out hLm6).mono ?_; rintro e w7 ⟨v7, rfl, hown, ho⟩; have V7 := hidOf hown; have O7 := hidOf ho; clear hown ho))
  obtain ⟨a7, n7, rfl, _, _⟩ := OwB.rest V7.out
  have R7 := hidOf (R6.out.takeZ O7.out V7.out (by have := HUl.out; omega))
  have X7 := hidOf (X6.out.out O7.out)
  have C8 := hidOf (CBk.out w7 g6 m6 K6.length _ _ _ _ _ _ _ _ R7.out X7.out M6.out D6.out rfl K6l.out.2 hg6 hLm6 hmm6)
  clear V7 C6 L5 R5 R6 X6 M6 D6
  go_upto_region 8 with (first | (go_at_call 15; refine C8.out.mono ?_; rintro e w8 ⟨rfl, M8, E8, dv8, K8, h1, h2, h3, h4⟩; have R8 := hidOf h1; have X8 := hidOf h2; have M8l := hidOf h3; have K8l := hidOf h4; clear h1 h2 h3 h4) | (go_at_call 9; refine (num_any _ _).mono ?_; rintro e w9 ⟨rfl, hw⟩; subst hw) | (go_at_call 16; refine (CSB.out w8 _ _ _ _ _ _ _ _ _ R8.out).mono ?_; rintro e w10 ⟨rfl, hw⟩; subst hw))
  have C9 := hidOf (Rk.handIn R8.out rfl (by have := HUl.out; omega) ((L.length : Int) + 3) (by omega) (by omega) (by omega))
  clear C8 R7 X7
  go_upto_region 9 with (go_at_call 17; refine C9.out.mono ?_; rintro e w9 ⟨⟨r9, rfl⟩, ⟨A9, h1⟩, h2⟩; have R9 := hidOf h1; have X9 := hidOf (h2 _ _ X8.out); clear h1 h2)
  have CH := hidOf (R9.out.bq.holds (by omega))
  clear C9 R8 X8
  go_wp2_with (go_at_call 18; refine CH.out.mono ?_; rintro e w10 ⟨rfl, ho⟩; have O10 := hidOf ho; clear ho)
  go_ret
  refine ⟨rfl, _, ⟨_, _, _, _, _, _, R9.out.more O10.out, Li.of (X9.out.out O10.out) M8l.out hg6 hmm6, ?_⟩, ?_⟩
  · have := K8l.out; have := K6l.out.1; omega
  · have := HUl.out; omega
end Go.Proofs.Ytmpbdakmmelmgaa
namespace Go.Proofs.Ytmpbdakmmelmgaa
open Go.RowKit
set_option linter.unusedVariables false
set_option linter.unusedSimpArgs false
/-- lists of sections at an address -/
def LsAt9 (W : World) (a : Option Addr) (LL : List (List SV)) : Prop := LL = [] ∨ ∃ b off, a = some ⟨b, off, none⟩ ∧ ∀ (k : Nat) l, LL[k]? = some l → ∃ la lc, W.cell? ⟨b, off + k, none⟩ = some (.slice la l.length lc) ∧ In9 W la lc l
theorem Bk.new (w : World) (B : Nat) (hB : B ≤ w.heap.size) : Bk B (w.alloc bookO) w.heap.size 0 0 (.slice none 0 0) (.slice none 0 0) (.slice none 0 0) (.slice none 0 0) (.slice none 0 0) [] 0 [] [] [] [] := by
  have hd : ∀ y : Value, Dis (.slice none 0 0) y := fun y k hk => by simp [Value.ownBlock] at hk
  exact ⟨⟨heap_alloc_new w _, World.ownsRow_nil _ _ _ _, World.ownsRow_nil _ _ _ _, World.ownsRow_nil _ _ _ _, World.ownsRow_nil _ _ _ _, World.ownsRow_nil _ _ _ _, hd _, hd _, hd _, hd _, hd _, hd _, hB, by rw [size_alloc]; omega⟩,
    ⟨(fun x hx => by cases hx), List.Pairwise.nil⟩, ⟨rfl, fun j x y hx _ => by simp at hx⟩, (fun j x y hx _ => by simp at hx), rfl, rfl, Nat.le_refl _, (fun x hx => by cases hx), (fun m hm => by cases hm), by omega, by omega, by omega, by omega, by simp⟩
def rackO : Obj := .cells #[.slice none 0 0, .slice none 0 0] 27 (0, 0)
theorem Wel.start {W w : World} (o : Out W w) : Wel W ((w.alloc rackO).alloc bookO) w.heap.size (w.heap.size + 1) w.heap.size 0 0 := by
  have hs : (w.alloc rackO).heap.size = w.heap.size + 1 := size_alloc _ _
  have o2 : Out (w.alloc rackO) ((w.alloc rackO).alloc bookO) := (Out.refl _).alloc _
  refine ⟨[], [], [], .slice none 0 0, .slice none 0 0, [], ⟨⟨_, _, _, _, _, _, _, _, _, by rw [← hs]; exact Bk.new (w.alloc rackO) w.heap.size (by omega)⟩, ?_, World.ownsRow_nil _ _ _ _, ?_, ?_, Nat.le_refl _, o.size, (o.alloc _).trans o2⟩, .inl rfl, by simp⟩
  · exact (o2.block _ (by omega)).trans (heap_alloc_new w _)
  · intro i x g C hx; simp at hx
  · intro i j x y g C C' hx; simp at hx
theorem Wel.out {W w : World} {pk pb B : Nat} {cb c1 : Int} (h : Wel W w pk pb B cb c1) : Out W w := by
  obtain ⟨A, Z, E, la, dv, K, hR, _⟩ := h
  exact hR.out
set_option maxRecDepth 20000 in
set_option maxHeartbeats 4000000 in
theorem elfWrites_walk (W : World) (a : Option Addr) (cap : Nat) (LL : List (List SV)) (hr : LsAt9 W a LL) (hcap : LL.length ≤ cap) (hll : LL.length ≤ 1048576) :
    Calls Try.prog 3 #[.slice a LL.length cap] W fun e W' => e = .returned (.bool true) ∧ Out W W' := by
  have HR := hidOf hr
  have hcI : (LL.length : Int) ≤ cap := by omega
  clear hr
  go_enter Try.func3, Try.ntmps3
  go_upto_region 5 with (go_at_call 5; refine (awake9 _).mono ?_; rintro e w1 ⟨rfl, ho⟩; have O1 := hidOf ho; clear ho)
  have HW0 := hidOf (Wel.start O1.out)
  show Code.wp _ _ _ _ ((w1.alloc rackO).alloc bookO)
  have hsz : (w1.alloc (Obj.cells #[.slice none 0 0, .slice none 0 0] 27 (0, 0))).heap.size = w1.heap.size + 1 := size_alloc _ _
  try rw [hsz]
  generalize (w1.alloc rackO).alloc bookO = w2 at *
  generalize w1.heap.size = d at *
  clear hsz O1
  go_wp2
  go_loopw [5] (fun iv wr => ∃ (i : Nat) (c1 : Int), iv = .int .i64 i ∧ i ≤ LL.length ∧ c1 ≤ 30000000 * (i : Int) ∧ Hid (Wel W wr d (d + 1) d (2 * (i : Int)) c1)) (fun iv _ => LL.length - (intOf iv).toNat)
  case atStart => exact ⟨0, 0, rfl, by omega, by omega, HW0⟩
  case round =>
    clear HW0
    obtain ⟨i, c1, rfl, hi, hc1, HS⟩ := hrel
    by_cases hiN : i < LL.length
    · have hlt : (i : Int) < LL.length := by omega
      have h0 : (0 : Int) ≤ i := by omega
      obtain ⟨l, hx⟩ : ∃ l, LL[i]? = some l := ⟨_, List.getElem?_eq_getElem hiN⟩
      obtain ⟨b, off, rfl, hcell⟩ := HR.out.resolve_left (fun e => by rw [e] at hiN; simp at hiN)
      obtain ⟨la, lc, q0, hin⟩ := hcell i l hx
      have CI := hidOf (written_any W wr d (d + 1) d (2 * (i : Int)) c1 HS.out la lc l hin (by omega) (by omega))
      have q1 := cell_later HS.out.out q0
      clear hx hcell q0 hin
      go_wp2_with (go_at_call 6; refine CI.out.mono ?_; rintro e w3 ⟨rfl, c3, hs, hc3⟩; have S3 := hidOf hs; clear hs)
      go_roundw
      case rel =>
        refine ⟨i + 1, c3, by simp, by omega, by omega, ?_⟩
        have h := S3.out
        rw [show (2 * (i : Int) + 1 + 1) = 2 * ((i + 1 : Nat) : Int) by omega] at h
        exact hidOf h
      case measure => simp [intOf]; omega
    · have hlt : ¬ (i : Int) < LL.length := by omega
      go_wp2
      go_ret
      exact ⟨rfl, HS.out.out⟩
end Go.Proofs.Ytmpbdakmmelmgaa
