import Derived.Test.YtekjfbmebekmeaaGreatGa15
namespace Go.Proofs.YtekjfbmebekmeaaGreat
open Go.RowKit
open Bo
set_option linter.unusedVariables false
set_option linter.unusedSimpArgs false
def aL (i n : Nat) : List Int := (List.range n).map (fun k : Nat => (2 * (13 * (i : Int) + 7 * (k : Int))) % 256)
def bL (i n : Nat) : List Int := (List.range n).map (fun k : Nat => (2 * (13 * (i : Int) + 7 * (k : Int)) + 1) % 256)
theorem aL_len (i n : Nat) : (aL i n).length = n := by simp [aL]
theorem bL_len (i n : Nat) : (bL i n).length = n := by simp [bL]
theorem gB_aL {i n k : Nat} (h : k < n) : gB (aL i n) k = (2 * (13 * (i : Int) + 7 * (k : Int))) % 256 := by simp [gB, aL, List.getD, h]
theorem bL_take (i k : Nat) : bL i (k + 1) = bL i k ++ [(2 * (13 * (i : Int) + 7 * (k : Int)) + 1) % 256] := by simp [bL, List.range_succ]
def mixA (F : List (Value × List Int)) (i : Nat) : List (Value × List Int) := F.mapIdx (fun j x => if j < i then (x.1, aL j x.2.length) else x)
theorem mixA_get {F : List (Value × List Int)} {i j : Nat} {x : Value × List Int} (h : F[j]? = some x) : (mixA F i)[j]? = some (if j < i then (x.1, aL j x.2.length) else x) := by
  unfold mixA
  rw [List.getElem?_mapIdx, h]; rfl
theorem mixA_zero (F : List (Value × List Int)) : mixA F 0 = F := by
  apply List.ext_getElem?
  intro j
  unfold mixA
  rw [List.getElem?_mapIdx]
  cases F[j]? <;> simp
theorem mixA_step {F : List (Value × List Int)} {i : Nat} {v : Value} {l : List Int} (h : F[i]? = some (v, l)) : (mixA F i).set i (v, aL i l.length) = mixA F (i + 1) := by
  apply List.ext_getElem?
  intro j
  have hl : (mixA F i).length = F.length := by simp [mixA]
  rw [List.getElem?_set]
  by_cases hj : i = j
  · subst hj
    rw [if_pos rfl, if_pos (by rw [hl]; exact (List.getElem?_eq_some_iff.1 h).1), mixA_get h, if_pos (Nat.lt_succ_self i)]
  · rw [if_neg hj]
    unfold mixA
    rw [List.getElem?_mapIdx, List.getElem?_mapIdx]
    cases F[j]? with
    | none => rfl
    | some x =>
      simp only [Option.map_some]
      by_cases h1 : j < i
      · rw [if_pos h1, if_pos (by omega)]
      · rw [if_neg h1, if_neg (by omega)]
def Gn (B : Nat) (w : World) (F : List (Value × List Int)) (j : Nat) (x : Value × List Int) (G : List Value) : Prop := ∃ L, Kn B w x.1 x.2.length L ∧ L.take x.2.length = aL j x.2.length ∧ ∀ g, G[j]? = some g → Gr B (Frs F) w x.1 L g (aL j x.2.length ++ bL j 70)
theorem Gn.keep {B : Nat} {S : Nat → Prop} {w w' : World} {F : List (Value × List Int)} {j : Nat} {x : Value × List Int} {G : List Value} (h : Gn B w F j x G) (c : Chg S w w') (hx : ∀ k, x.1.ownBlock = some k → ¬ S k) (hS : ∀ k, S k → Frs F k ∨ ¬ IsT8 w k) : Gn B w' F j x G := by
  obtain ⟨L, h1, h2, h3⟩ := h
  refine ⟨L, h1.chg c hx, h2, fun g hg => ?_⟩
  rcases h3 g hg with h | ⟨ho, hk⟩
  · exact .inl h
  · refine .inr ⟨owns_chg ho (fun k hk' hs => ?_) c, hk⟩
    rcases hS k hs with h | h
    · exact hk k hk' h
    · exact h (isT8_of ho hk')
theorem Gn.snoc {B : Nat} {w : World} {F : List (Value × List Int)} {j : Nat} {x : Value × List Int} {G : List Value} {g : Value} (h : Gn B w F j x G) (hj : ¬ j = G.length) : Gn B w F j x (G ++ [g]) := by
  obtain ⟨L, h1, h2, h3⟩ := h
  refine ⟨L, h1, h2, fun g' hg => h3 g' ?_⟩
  by_cases hl : j < G.length
  · rwa [List.getElem?_append_left hl] at hg
  · rw [List.getElem?_append_right (by omega)] at hg
    have : 0 < j - G.length := by omega
    rw [List.getElem?_eq_none (by simp; omega)] at hg
    cases hg
theorem fr_dis {B : Nat} {w : World} {F : List (Value × List Int)} (h : Fresh B w F) {i j : Nat} {x y : Value × List Int} (hi : F[i]? = some x) (hj : F[j]? = some y) (hne : ¬ i = j) : Dis x.1 y.1 := by
  obtain ⟨h1, rfl⟩ := List.getElem?_eq_some_iff.1 hi
  obtain ⟨h2, rfl⟩ := List.getElem?_eq_some_iff.1 hj
  rcases Nat.lt_or_gt_of_ne hne with hl | hl
  · exact List.pairwise_iff_getElem.1 h.2 i j h1 h2 hl
  · exact (List.pairwise_iff_getElem.1 h.2 j i h2 h1 hl).symm
theorem infoU8 : (Tryz.prog.info? 5).map (fun i => (i.zero, i.size, i.bytes)) = some (some (.int .u8 0), 1, 1) := by kernel_rfl
theorem owns_form {B : Nat} {w : World} {v : Value} {l : List Int} {n : Nat} (h : w.ownsRow B 5 1 v n (bV l)) : ∃ a c, v = .slice a n c := by
  obtain ⟨a, c, e, _, _⟩ := own_slice h
  exact ⟨a, c, e⟩
theorem wrapA (j k : Int) (h1 : 0 ≤ j) (h2 : j ≤ 1000000000) (h3 : 0 ≤ k) (h4 : k ≤ 2000000) : IntKind.u8.wrap (IntKind.i64.wrap (2 * IntKind.i64.wrap (IntKind.i64.wrap (13 * j) + IntKind.i64.wrap (7 * k)))) = (2 * (13 * j + 7 * k)) % 256 := by
  have e1 : IntKind.i64.wrap (13 * j) = 13 * j := by rw [IntKind.wrap_i64]; omega
  have e2 : IntKind.i64.wrap (7 * k) = 7 * k := by rw [IntKind.wrap_i64]; omega
  have e3 : IntKind.i64.wrap (13 * j + 7 * k) = 13 * j + 7 * k := by rw [IntKind.wrap_i64]; omega
  have e4 : IntKind.i64.wrap (2 * (13 * j + 7 * k)) = 2 * (13 * j + 7 * k) := by rw [IntKind.wrap_i64]; omega
  rw [e1, e2, e3, e4, IntKind.wrap_u8]
theorem wrapB (j k : Int) (h1 : 0 ≤ j) (h2 : j ≤ 1000000000) (h3 : 0 ≤ k) (h4 : k ≤ 2000000) : IntKind.u8.wrap (IntKind.i64.wrap (IntKind.i64.wrap (2 * IntKind.i64.wrap (IntKind.i64.wrap (13 * j) + IntKind.i64.wrap (7 * k))) + 1)) = (2 * (13 * j + 7 * k) + 1) % 256 := by
  have e1 : IntKind.i64.wrap (13 * j) = 13 * j := by rw [IntKind.wrap_i64]; omega
  have e2 : IntKind.i64.wrap (7 * k) = 7 * k := by rw [IntKind.wrap_i64]; omega
  have e3 : IntKind.i64.wrap (13 * j + 7 * k) = 13 * j + 7 * k := by rw [IntKind.wrap_i64]; omega
  have e4 : IntKind.i64.wrap (2 * (13 * j + 7 * k)) = 2 * (13 * j + 7 * k) := by rw [IntKind.wrap_i64]; omega
  have e5 : IntKind.i64.wrap (2 * (13 * j + 7 * k) + 1) = 2 * (13 * j + 7 * k) + 1 := by rw [IntKind.wrap_i64]; omega
  rw [e1, e2, e3, e4, e5, IntKind.wrap_u8]
theorem kn_cells {B N : Nat} {w : World} {va : Option Addr} {vc : Nat} {L l : List Int} (h : Kn B w (.slice va N vc) N L) (ht : L.take N = l) : ∀ k z, l[k]? = some z → ∃ b, va = some ⟨b, 0, none⟩ ∧ w.cell? ⟨b, k, none⟩ = some (.int .u8 z) := fun k z hz => by
  have ho := h.owns
  rw [ht] at ho
  have hl : l.length = N := by have := ho.1; simpa [bV] using this
  have hk : k < N := by rw [← hl]; exact (List.getElem?_eq_some_iff.1 hz).1
  obtain ⟨g, c, e⟩ := row_form ho (by omega)
  simp only [Value.slice.injEq] at e
  obtain ⟨rfl, _, rfl⟩ := e
  refine ⟨g, rfl, ?_⟩
  rw [(owns_cell ho hk).1]
  simp [gB, List.getD, hz]
theorem gr_cells {B N : Nat} {S : Nat → Prop} {w : World} {va : Option Addr} {vc : Nat} {L l : List Int} {g : Value} (h : Gr B S w (.slice va N vc) L g l) (hk : Kn B w (.slice va N vc) N L) : ∃ a c, g = .slice a l.length c ∧ ∀ k z, l[k]? = some z → ∃ b, a = some ⟨b, 0, none⟩ ∧ w.cell? ⟨b, k, none⟩ = some (.int .u8 z) := by
  rcases h with ⟨b, c, hb, rfl, hle, ht⟩ | ⟨ho, _⟩
  · refine ⟨_, c, rfl, fun k z hz => ⟨b, rfl, ?_⟩⟩
    rcases hk with ⟨e, _, _⟩ | ⟨b', cap, cur, e, hB, hg, h1, h2, h3, h4, h5⟩
    · rw [e] at hb; cases hb
    · simp only [Value.slice.injEq] at e
      obtain ⟨rfl, _, rfl⟩ := e
      simp [Value.ownBlock] at hb
      subst hb
      have hz2 : L[k]? = some z := by
        have : (L.take l.length)[k]? = some z := by rw [ht]; exact hz
        rw [List.getElem?_take] at this
        split at this
        · exact this
        · cases this
      have hc : (cur.toList.take L.length)[k]? = some (.int .u8 z) := by rw [h5]; simp [bV, hz2]
      rw [List.getElem?_take] at hc
      split at hc
      · rw [cell_B hg]; simpa using hc
      · cases hc
  · obtain ⟨a, c, rfl⟩ := owns_form ho
    refine ⟨a, c, rfl, fun k z hz => ?_⟩
    have hk : k < l.length := (List.getElem?_eq_some_iff.1 hz).1
    obtain ⟨gq, c', e⟩ := row_form ho (by omega)
    simp only [Value.slice.injEq] at e
    obtain ⟨rfl, _, rfl⟩ := e
    refine ⟨gq, rfl, ?_⟩
    rw [(owns_cell ho hk).1]
    simp [gB, List.getD, hz]
set_option maxHeartbeats 4000000 in
set_option maxRecDepth 100000 in
theorem apart_any (w : World) (B B2 : Nat) (la : Option Addr) (lc n : Nat) (F : List (Value × List Int)) (hF : Fresh B w F) (hr : w.ownsRow B2 29 1 (.slice la n lc) n (F.map Prod.fst)) (hn : F.length = n) (hnb : n ≤ 1000000000) (hl : ∀ x ∈ F, x.2.length ≤ 1048576) (hB : B ≤ w.heap.size) :
    Calls Tryz.prog 42 #[.slice la n lc] w fun e w' => e = .returned (.bool true) ∧ Chg (Frs F) w w' := by
  obtain ⟨i31, hi31, hy0, hy1, hy2⟩ := info_parts info31
  obtain ⟨i8, hi8, hz0, hz1, hz2⟩ := info_parts infoU8
  have HF := hidOf hF
  have HR := hidOf hr
  have HN := hidOf hn
  have HL := hidOf hl
  have HBB := hidOf hB
  have HNB := hidOf hnb
  have C0 : Hid (Chg (Frs F) w w) := hidOf (Chg.refl _ _)
  clear hF hr hn hl hB
  go_enter Tryz.func42, Tryz.ntmps42
  go_wp2
  go_loopw [3] (fun iv wr => ∃ i : Nat, iv = .int .i64 i ∧ i ≤ n ∧ Hid (Fresh B wr (mixA F i)) ∧ Hid (Chg (Frs F) w wr)) (fun iv _ => n - (intOf iv).toNat)
  case atStart => exact ⟨0, rfl, Nat.zero_le _, by rw [mixA_zero]; exact HF, C0⟩
  case round =>
    obtain ⟨i, rfl, hi, FR, CR⟩ := hrel
    have ROW : Hid (wr.ownsRow B2 29 1 (.slice la n lc) n (F.map Prod.fst)) := hidOf (owns_chg HR.out (fun k hk hs => notT8 HR.out (by decide) hk (HF.out.isT8 hs)) CR.out)
    by_cases hin : i < n
    · have hlt : (i : Int) < n := by omega
      obtain ⟨⟨v, l⟩, hx⟩ : ∃ x, F[i]? = some x := ⟨_, List.getElem?_eq_getElem (by have := HN.out; omega)⟩
      have hlb : l.length ≤ 1048576 := HL.out (v, l) (List.mem_of_getElem? hx)
      have hm := mixA_get (i := i) hx
      rw [if_neg (Nat.lt_irrefl i)] at hm
      have hown : wr.ownsRow B 5 1 v l.length (bV l) := FR.out.at hm
      obtain ⟨lb, lc', e⟩ := row_form ROW.out (by omega)
      simp only [Value.slice.injEq] at e
      obtain ⟨rfl, _, rfl⟩ := e
      have hq1 : wr.cell? ⟨lb, i, none⟩ = some v := row_cell ROW.out (by rw [List.getElem?_map, hx]; rfl)
      obtain ⟨N, hN⟩ : ∃ N, Hid (N = l.length) := ⟨_, rfl⟩
      rw [← hN.out] at hown hlb
      obtain ⟨va, vc, rfl⟩ := owns_form hown
      have HX := hidOf hx
      have HM := hidOf hm
      have HV8 : Hid (∀ k, (Value.slice va N vc).ownBlock = some k → IsT8 wr k ∧ Frs F k) := hidOf (fun k hk => ⟨isT8_of hown hk, ⟨_, List.mem_of_getElem? hx, hk⟩⟩)
      have HO := hidOf hown
      have hlb8 : Hid (¬ IsT8 wr lb) := hidOf (notT8 ROW.out (by decide) rfl)
      clear hx hm hown
      go_wp2
      go_loopw [4] (fun kv wq => ∃ k : Nat, kv = .int .i64 k ∧ k ≤ N ∧ Hid (wq.ownsRow B 5 1 (.slice va N vc) N (bV ((aL i N).take k ++ l.drop k))) ∧ Hid (Chg (fun x => (Value.slice va N vc).ownBlock = some x) wr wq)) (fun kv _ => N - (intOf kv).toNat)
      case atStart => exact ⟨0, rfl, Nat.zero_le _, by simpa using HO, hidOf (Chg.refl _ _)⟩
      case round =>
        obtain ⟨k, rfl, hk, OK, CK⟩ := hrel
        have q1 : wr.cell? ⟨lb, i, none⟩ = some (.slice va N vc) := CK.out.cell hq1 (fun h => hlb8.out (HV8.out lb h).1)
        by_cases hkN : k < N
        · have hklt : (k : Int) < N := by omega
          obtain ⟨g, c', hac⟩ := row_form OK.out (by omega)
          simp only [Value.slice.injEq] at hac
          obtain ⟨rfl, _, rfl⟩ := hac
          obtain ⟨d1, d2⟩ := owns_cell OK.out hkN
          have hset : Hid (((aL i N).take k ++ l.drop k).set k (gB (aL i N) k) = (aL i N).take (k + 1) ++ l.drop (k + 1)) := hidOf (set_take_drop l (aL i N) k (by rw [aL_len]; exact hN.out) (by rw [← hN.out]; exact hkN))
          rw [gB_aL hkN] at hset
          generalize gB ((aL i N).take k ++ l.drop k) k = z1 at d1
          go_wp2
          go_roundw
          case rel =>
            refine ⟨k + 1, by first | rfl | simp, by omega, ?_, ?_⟩
            · have h := owns_store OK.out hkN ((2 * (13 * (i : Int) + 7 * (k : Int))) % 256)
              rw [hset.out] at h
              exact hidOf h
            · exact hidOf (CK.out.setCell (p := ⟨g, k, none⟩) rfl _)
          case measure => simp [intOf]; omega
        · have hklt : ¬ (k : Int) < N := by omega
          obtain rfl : k = N := by omega
          go_wp2
          go_roundw
          case rel =>
            have hfin : wr.ownsRow B 5 1 (.slice va k vc) (aL i l.length).length (bV (aL i l.length)) := by
              have h := OK.out
              rw [List.drop_of_length_le (by rw [← hN.out]; exact Nat.le_refl _), List.append_nil, List.take_of_length_le (by rw [aL_len]; exact Nat.le_refl _)] at h
              rw [aL_len, ← hN.out]; exact h
            refine ⟨i + 1, by first | rfl | simp, by omega, ?_, hidOf (CR.out.trans CK.out (fun x hx _ => (HV8.out x hx).2))⟩
            rw [← mixA_step HX.out]
            exact hidOf (FR.out.put HM.out CK.out hfin)
          case measure => simp [intOf]; omega
    · have hlt : ¬ (i : Int) < n := by omega
      obtain rfl : i = n := by omega
      have GN0 : Hid (∀ j x, F[j]? = some x → Gn B wr F j x []) := hidOf (fun j x hx => by
        have hm := mixA_get (i := i) hx
        rw [if_pos (by rw [← HN.out]; exact (List.getElem?_eq_some_iff.1 hx).1)] at hm
        have h := FR.out.at hm
        simp only [aL_len] at h
        exact ⟨aL j x.2.length, kn_of (aL_len _ _) h, List.take_of_length_le (by rw [aL_len]; exact Nat.le_refl _), fun g hg => by simp at hg⟩)
      have CR0 := hidOf CR.out
      clear FR
      obtain ⟨w1, hw1⟩ : ∃ w1, w1 = wr := ⟨_, rfl⟩
      rw [← hw1] at GN0 CR0
      have H1 := hidOf hw1
      clear hw1 CR ROW
      have hw1s : Hid (w.heap.size ≤ w1.heap.size) := hidOf CR0.out.size
      go_wp2
      go_loopw [5, 6] (fun gv iv wr => ∃ (i0 : Nat) (ga : Option Addr) (gc : Nat) (G : List Value), gv = .slice ga i0 gc ∧ iv = .int .i64 i0 ∧ i0 ≤ i ∧ Hid (G.length = i0) ∧ Hid (wr.ownsRow w1.heap.size 29 1 (.slice ga i0 gc) i0 G) ∧ Hid (∀ j x, F[j]? = some x → Gn B wr F j x G) ∧ Hid (Chg (Frs F) w1 wr)) (fun _ iv _ => i - (intOf iv).toNat)
      case atStart => exact ⟨0, none, 0, [], rfl, rfl, Nat.zero_le _, hidOf rfl, hidOf (World.ownsRow_nil _ _ _ _), by rw [← H1.out]; exact GN0, by rw [← H1.out]; exact hidOf (Chg.refl _ _)⟩
      case round =>
        clear H1
        obtain ⟨i0, ga, gc, G, rfl, rfl, hi0, GL, GR, GN, CR⟩ := hrel
        have CW : Hid (Chg (Frs F) w wr) := hidOf (CR0.out.trans CR.out (fun x hx _ => hx))
        have ROW : Hid (wr.ownsRow B2 29 1 (.slice la i lc) i (F.map Prod.fst)) := hidOf (owns_chg HR.out (fun k hk hs => notT8 HR.out (by decide) hk (HF.out.isT8 hs)) CW.out)
        by_cases hin : i0 < i
        · have hlt : (i0 : Int) < i := by omega
          obtain ⟨⟨v, l⟩, hx⟩ : ∃ x, F[i0]? = some x := ⟨_, List.getElem?_eq_getElem (by have := HN.out; omega)⟩
          have hlb : l.length ≤ 1048576 := HL.out (v, l) (List.mem_of_getElem? hx)
          obtain ⟨lb, lc', e⟩ := row_form ROW.out (by omega)
          simp only [Value.slice.injEq] at e
          obtain ⟨rfl, _, rfl⟩ := e
          have hq1 : wr.cell? ⟨lb, i0, none⟩ = some v := row_cell ROW.out (by rw [List.getElem?_map, hx]; rfl)
          obtain ⟨N, hN⟩ : ∃ N, Hid (N = l.length) := ⟨_, rfl⟩
          obtain ⟨L0, hk0, ht0, _⟩ := GN.out i0 (v, l) hx
          simp only at hk0 ht0
          rw [← hN.out] at hk0 ht0 hlb
          obtain ⟨va, vc, rfl⟩ := owns_form hk0.owns
          have HX := hidOf hx
          have HV8 : Hid (∀ k, (Value.slice va N vc).ownBlock = some k → IsT8 wr k ∧ Frs F k) := hidOf (fun k hk => ⟨hk0.isT8 hk, ⟨_, List.mem_of_getElem? hx, hk⟩⟩)
          have HK0 := hidOf hk0
          have HT0 := hidOf ht0
          clear hx hk0 ht0
          obtain ⟨w4, hw4⟩ : ∃ w4, w4 = wr := ⟨_, rfl⟩
          have H4 := hidOf hw4
          have HV4 : Hid (∀ k, (Value.slice va N vc).ownBlock = some k → k < w4.heap.size) := hidOf (fun k hk => by rw [hw4]; exact (HV8.out k hk).1.lt)
          have HB4 : Hid (B ≤ w4.heap.size) := hidOf (by rw [hw4]; exact Nat.le_trans HBB.out CW.out.size)
          have HK4 : Hid (Kn B w4 (.slice va N vc) N L0) := hidOf (by rw [hw4]; exact HK0.out)
          clear hw4
          go_wp2
          go_loopw [7, 8] (fun gv kv wq => ∃ (k : Nat) (L4 : List Int) (a4 : Option Addr) (c4 : Nat), k ≤ 70 ∧ kv = .int .i64 k ∧ gv = .slice a4 (N + k) c4 ∧ Hid (Kn B wq (.slice va N vc) N L4) ∧ Hid (L4.take N = aL i0 N) ∧ Hid (Chg (fun x => (Value.slice va N vc).ownBlock = some x) w4 wq) ∧ Hid (G4 B w4 wq (.slice va N vc) L4 (.slice a4 (N + k) c4) (N + k) (aL i0 N ++ bL i0 k))) (fun _ kv _ => 70 - (intOf kv).toNat)
          case atStart =>
            have hs0 : L0.take (N + 0) = aL i0 N ++ bL i0 0 := by
              have : bL i0 0 = [] := rfl
              rw [this, List.append_nil, Nat.add_zero]; exact HT0.out
            refine ⟨0, L0, va, vc, by omega, rfl, rfl, HK0, HT0, by rw [← H4.out]; exact hidOf (Chg.refl _ _), by rw [← H4.out]; exact hidOf (.inl ⟨HK4.out, rfl, hs0⟩)⟩
          case round =>
            obtain ⟨k, L4, a4, c4, hk, rfl, rfl, KK, HT4, HC4, HGG⟩ := hrel
            by_cases hkR : k < 70
            · have hklt : (k : Int) < 70 := by omega
              have Hlq : Hid ((aL i0 N ++ bL i0 k).length = N + k) := hidOf (by rw [List.length_append, aL_len, bL_len])
              have Htk := hidOf (bL_take i0 k)
              go_wp2_with (at_builtin; go_loud (refine wpList_append_two rfl (.tmp 54) (.tmp 63) 29 rfl B 5 i8 (.int .u8 0) 1 Tryz.underlying29 hi8 hz0 hz1 hz2 rfl (.slice a4 (N + k) c4) (N + k) (bV (aL i0 N ++ bL i0 k)) rfl (HGG.out.out ((Out.refl wr).alloc _)).owns ⟨wr.heap.size, 0, none⟩ 1 1 [.int .u8 ((2 * (13 * (i0 : Int) + 7 * (k : Int)) + 1) % 256)] (by omega) rfl rfl (news_new _ #[.int .u8 ((2 * (13 * (i0 : Int) + 7 * (k : Int)) + 1) % 256)] _ _ rfl) (bV_one [((2 * (13 * (i0 : Int) + 7 * (k : Int)) + 1) % 256)]) (by omega) (by omega) (Nat.le_trans HB4.out (Nat.le_trans HC4.out.size (by rw [size_alloc]; omega))) ?_); intro g5 w5 hown5 hgrow5 hat5; obtain ⟨ga5, gc5, rfl⟩ := hat5.form; have Hat5 := hidOf hat5; have Hgr5 := hidOf hgrow5; have Hown5 := hidOf hown5; clear hat5 hgrow5 hown5)
              obtain ⟨L5, s1, s2, s3, s4, s5⟩ := g4_step KK.out HT4.out (by omega) HGG.out Hlq.out HC4.out HV4.out ((Out.refl wr).alloc _) Hat5.out Hgr5.out Hown5.out
              go_roundw
              case rel =>
                refine ⟨k + 1, L5, ga5, gc5, by omega, by first | rfl | simp, rfl, hidOf s1, hidOf s2, hidOf s4, ?_⟩
                rw [Htk.out, ← List.append_assoc]
                exact hidOf s5
              case measure => simp [intOf]; omega
            · have hklt : ¬ (k : Int) < 70 := by omega
              obtain rfl : k = 70 := by omega
              have GR4 : Hid (wr.ownsRow w1.heap.size 29 1 (.slice ga i0 gc) i0 G) := hidOf (owns_chg (by rw [H4.out]; exact GR.out) (fun q hq hs => notT8 GR.out (by decide) hq (HV8.out q hs).1) HC4.out)
              have hvF : Hid (∀ q, (Value.slice va N vc).ownBlock = some q → Frs F q) := hidOf (fun q hq => (HV8.out q hq).2)
              have hsz4 : Hid (w1.heap.size ≤ wr.heap.size) := hidOf (Nat.le_trans CR.out.size (by rw [← H4.out]; exact HC4.out.size))
              go_wp2_with (at_builtin; go_loud (refine wpList_append_two rfl (.tmp 65) (.tmp 67) 39 rfl w1.heap.size 29 i31 (.slice none 0 0) 24 Tryz.underlying39 hi31 hy0 hy1 hy2 rfl (.slice ga i0 gc) i0 G rfl (owns_alloc GR4.out _) ⟨wr.heap.size, 0, none⟩ 1 1 [.slice a4 (N + 70) c4] (by omega) rfl rfl (one_row _ _ _) (by intro x hx; simp at hx; subst hx; rfl) (by omega) (by omega) (by have := hsz4.out; rw [size_alloc]; omega) ?_); intro g6 w6 hown6 hgrow6 hat6; obtain ⟨ga6, gc6, rfl⟩ := hat6.form; have Hgr6 := hidOf hgrow6; have Hown6 := hidOf hown6; clear hat6 hgrow6 hown6)
              go_roundw
              case rel =>
                have c6 : Chg (fun q => (Value.slice ga i0 gc).ownBlock = some q) wr w6 := chg_grow ((Out.refl wr).alloc _) Hgr6.out
                have n8 : ∀ q, IsT8 wr q → ¬ (Value.slice ga i0 gc).ownBlock = some q := fun q h8 hq => notT8 GR4.out (by decide) hq h8
                have hFl : ∀ q, Frs F q → q < w4.heap.size := fun q hq => by
                  have h1 := (HF.out.isT8 hq).lt
                  have h2 := CW.out.size
                  rw [H4.out]; omega
                have hFl' : ∀ q, Frs F q → q < w1.heap.size := fun q hq => by
                  have h1 := (HF.out.isT8 hq).lt
                  have h2 := hw1s.out; omega
                refine ⟨i0 + 1, ga6, gc6, G ++ [.slice a4 (N + 70) c4], by first | rfl | simp, by first | rfl | simp, by omega, hidOf (by rw [List.length_append, GL.out]; rfl), Hown6, hidOf (fun j x hx => ?_), hidOf ((CR.out.trans (by rw [← H4.out]; exact HC4.out) (fun q hq _ => hvF.out q hq)).trans c6 (fun q hq hlt => ?_))⟩
                · by_cases hj : j = i0
                  · subst hj
                    have hxx := HX.out
                    rw [hx] at hxx
                    cases hxx
                    refine ⟨L4, ?_, ?_, fun g hg => ?_⟩
                    · show Kn B w6 (.slice va N vc) l.length L4
                      rw [← hN.out]
                      exact KK.out.chg c6 (fun q hq => n8 q (KK.out.isT8 hq))
                    · show L4.take l.length = aL j l.length
                      rw [← hN.out]; exact HT4.out
                    · rw [List.getElem?_append_right (by rw [GL.out]; exact Nat.le_refl _), GL.out, Nat.sub_self] at hg
                      cases hg
                      show Gr B (Frs F) w6 (.slice va N vc) L4 (.slice a4 (N + 70) c4) (aL j l.length ++ bL j 70)
                      rw [← hN.out]
                      exact (HGG.out.gr (w' := wr) (L' := L4) (by rw [List.length_append, aL_len, bL_len]) (by omega) hFl hvF.out (Chg.refl _ _) id).chg8 c6 n8
                  · have g1 : Gn B w4 F j x G := by rw [H4.out]; exact GN.out j x hx
                    have g2 : Gn B wr F j x G := g1.keep HC4.out (fun q hq hv => fr_dis HF.out hx HX.out hj q hq hv) (fun q hq => .inl (hvF.out q hq))
                    exact (g2.keep c6 (fun q hq hs => by
                      obtain ⟨L9, h9, _⟩ := g2
                      exact n8 q (h9.isT8 hq) hs) (fun q hq => .inr (fun h8 => n8 q h8 hq))).snoc (by rw [GL.out]; exact hj)
                · have h1 := (GR4.out.lt q hq).1
                  omega
              case measure => simp [intOf]; omega
        · have hlt : ¬ (i0 : Int) < i := by omega
          obtain rfl : i0 = i := by omega
          have CW9 := hidOf CW.out
          have GN9 := hidOf GN.out
          have GR9 := hidOf GR.out
          have RW9 := hidOf ROW.out
          obtain ⟨w9, hw9⟩ : ∃ w9, w9 = wr := ⟨_, rfl⟩
          have H9 := hidOf hw9
          rw [← hw9] at CW9 GN9 GR9 RW9
          clear hw9 CR CW ROW GR GN
          go_wp2
          go_loopw [9] (fun iv wr => ∃ j : Nat, iv = .int .i64 j ∧ j ≤ i0 ∧ Hid (Out w9 wr)) (fun iv _ => i0 - (intOf iv).toNat)
          case atStart => exact ⟨0, rfl, Nat.zero_le _, by rw [H9.out]; exact hidOf (Out.refl _)⟩
          case round =>
            obtain ⟨j, rfl, hj, OR⟩ := hrel
            by_cases hji : j < i0
            · have hlt : (j : Int) < i0 := by omega
              obtain ⟨⟨v, l⟩, hx⟩ : ∃ x, F[j]? = some x := ⟨_, List.getElem?_eq_getElem (by have := HN.out; omega)⟩
              obtain ⟨g, hg⟩ : ∃ g, G[j]? = some g := ⟨_, List.getElem?_eq_getElem (by have := GL.out; omega)⟩
              have hlb : l.length ≤ 1048576 := HL.out (v, l) (List.mem_of_getElem? hx)
              obtain ⟨lb, lc', e⟩ := row_form RW9.out (by omega)
              simp only [Value.slice.injEq] at e
              obtain ⟨rfl, _, rfl⟩ := e
              obtain ⟨gb, gc', e⟩ := row_form GR9.out (by omega)
              simp only [Value.slice.injEq] at e
              obtain ⟨rfl, _, rfl⟩ := e
              have hq1 : wr.cell? ⟨lb, j, none⟩ = some v := cell_later OR.out (row_cell RW9.out (by rw [List.getElem?_map, hx]; rfl))
              have hq2 : wr.cell? ⟨gb, j, none⟩ = some g := cell_later OR.out (row_cell GR9.out hg)
              obtain ⟨N, hN⟩ : ∃ N, Hid (N = l.length) := ⟨_, rfl⟩
              obtain ⟨L, hk0, ht0, hgr⟩ := GN9.out j (v, l) hx
              have hgg := hgr g hg
              simp only at hk0 ht0 hgg
              rw [← hN.out] at hk0 ht0 hgg hlb
              obtain ⟨va, vc, rfl⟩ := owns_form hk0.owns
              obtain ⟨a4, c4, rfl, hgc⟩ := gr_cells hgg hk0
              rw [show (aL j N ++ bL j 70).length = N + 70 by rw [List.length_append, aL_len, bL_len]] at hq2
              have hvc := kn_cells hk0 ht0
              have HVC := hidOf hvc
              have HGC := hidOf hgc
              clear hx hg hgr hgg hk0 ht0 hvc hgc
              have Q1 : Hid (w9.cell? ⟨lb, j, none⟩ = some (.slice va N vc)) := hidOf (by
                obtain ⟨⟨v', l'⟩, hx'⟩ : ∃ x, F[j]? = some x := ⟨_, List.getElem?_eq_getElem (by have := HN.out; omega)⟩
                have h1 := row_cell RW9.out (k := j) (x := v') (by rw [List.getElem?_map, hx']; rfl)
                have h2 := cell_later OR.out h1
                rw [hq1] at h2
                rw [h1]; exact h2.symm)
              have Q2 : Hid (w9.cell? ⟨gb, j, none⟩ = some (.slice a4 (N + 70 : Nat) c4)) := hidOf (by
                obtain ⟨g', hg'⟩ : ∃ g, G[j]? = some g := ⟨_, List.getElem?_eq_getElem (by have := GL.out; omega)⟩
                have h1 := row_cell GR9.out hg'
                have h2 := cell_later OR.out h1
                rw [hq2] at h2
                rw [h1]; exact h2.symm)
              go_wp2
              go_loopw [10] (fun kv wq => ∃ k : Nat, kv = .int .i64 k ∧ k ≤ N + 70 ∧ Hid (Out w9 wq)) (fun kv _ => N + 70 - (intOf kv).toNat)
              case atStart => exact ⟨0, rfl, Nat.zero_le _, OR⟩
              case round =>
                obtain ⟨k, rfl, hk, OK⟩ := hrel
                have q1 := cell_later OK.out Q1.out
                have q2 := cell_later OK.out Q2.out
                by_cases hk2 : k < N + 70
                · have hklt : (k : Int) < ((N + 70 : Nat) : Int) := by omega
                  by_cases hkN : k < N
                  · have hneg : (k : Int) - (N : Int) < 0 := by omega
                    obtain ⟨b1, rfl, d1⟩ := HVC.out k _ (by rw [List.getElem?_eq_getElem (by rw [aL_len]; exact hkN)])
                    obtain ⟨b2, rfl, d2⟩ := HGC.out k _ (by rw [List.getElem?_append_left (by rw [aL_len]; exact hkN), List.getElem?_eq_getElem (by rw [aL_len]; exact hkN)])
                    have hz : (aL j N)[k]'(by rw [aL_len]; exact hkN) = (2 * (13 * (j : Int) + 7 * (k : Int))) % 256 := by simp [aL]
                    rw [hz] at d1 d2
                    have e1 := cell_later OK.out d1
                    have e2 := cell_later OK.out d2
                    clear d1 d2 hz
                    have hwA : IntKind.u8.wrap (IntKind.i64.wrap (2 * IntKind.i64.wrap (IntKind.i64.wrap (13 * (j : Int)) + IntKind.i64.wrap (7 * (k : Int))))) = (2 * (13 * (j : Int) + 7 * (k : Int))) % 256 := by
                      exact wrapA j k (by omega) (by omega) (by omega) (by omega)
                    go_upto_region 25 with fail
                    refine wp_region_held_drew (S := (fun w' => w'.cell? ⟨lb, j, none⟩ = some (.slice (some ⟨b1, 0, none⟩) N vc) ∧ w'.cell? ⟨gb, j, none⟩ = some (.slice (some ⟨b2, 0, none⟩) (N + 70 : Nat) c4) ∧ w'.cell? ⟨b1, k, none⟩ = some (.int .u8 ((2 * (13 * (j : Int) + 7 * (k : Int))) % 256)) ∧ w'.cell? ⟨b2, k, none⟩ = some (.int .u8 ((2 * (13 * (j : Int) + 7 * (k : Int))) % 256)))) (by kernel_rfl) ?_ (fun hHeld => ?_)
                    · exact ⟨q1, q2, e1, e2⟩
                    refine tkLB [0] ?_
                    iterate 1 (refine tkLC (v := ?_) rfl rfl (by kernel_rfl) (by kernel_rfl) (by kernel_rfl) (fun _ _ _ h => h) (by rfl) (by assumption) ?_ ?_; rotate_left; (· (intro w hSw; (try dsimp only at hSw); go_simp; (try with_reducible rfl))); simp only [Act.put, List.setIfInBounds_toArray, List.set_cons_zero, List.set_cons_succ])
                    refine tkLE ?_
                    refine wpAnyH_take (i := 1) (v := .bool true) rfl (by kernel_rfl) (by kernel_rfl) (by kernel_rfl) (fun _ _ _ h => h) (Or.inl ⟨by rfl, ?_⟩) (by assumption) ?_
                    · (intro w hSw; (try dsimp only at hSw); go_simp; first | done | (with_reducible rfl) | (simp [hneg]; done) | (simp [hwA]; done) | (rw [hwA]; simp; done) | (simp; omega) | omega)
                    show wpAnyH _ _ _ _ _ _ _ (Act.put _ (some 92) _) _
                    simp only [Act.put, List.setIfInBounds_toArray, List.set_cons_zero, List.set_cons_succ]
                    refine tkLB [2, 3, 4, 5, 6, 7, 8, 9, 10, 11, 12, 13, 14, 15, 16] ?_
                    iterate 15 (refine tkLC (v := ?_) rfl rfl (by kernel_rfl) (by kernel_rfl) (by kernel_rfl) (fun _ _ _ h => h) (by rfl) (by assumption) ?_ ?_; rotate_left; (· (intro w hSw; (try dsimp only at hSw); go_simp; (try with_reducible rfl))); simp only [Act.put, List.setIfInBounds_toArray, List.set_cons_zero, List.set_cons_succ])
                    refine tkLE ?_
                    refine wpAnyH_take (i := 17) (v := .bool false) rfl (by kernel_rfl) (by kernel_rfl) (by kernel_rfl) (fun _ _ _ h => h) (Or.inl ⟨by rfl, ?_⟩) (by assumption) ?_
                    · (intro w hSw; (try dsimp only at hSw); go_simp; first | done | (with_reducible rfl) | (simp [hneg]; done) | (simp [hwA]; done) | (rw [hwA]; simp; done) | (simp; omega) | omega)
                    show wpAnyH _ _ _ _ _ _ _ (Act.put _ (some 108) _) _
                    simp only [Act.put, List.setIfInBounds_toArray, List.set_cons_zero, List.set_cons_succ]
                    refine tkLB [18, 19, 20, 21, 22, 23, 24, 25, 26, 27, 28, 29, 30, 31, 32] ?_
                    iterate 15 (refine tkLC (v := ?_) rfl rfl (by kernel_rfl) (by kernel_rfl) (by kernel_rfl) (fun _ _ _ h => h) (by rfl) (by assumption) ?_ ?_; rotate_left; (· (intro w hSw; (try dsimp only at hSw); go_simp; (try with_reducible rfl))); simp only [Act.put, List.setIfInBounds_toArray, List.set_cons_zero, List.set_cons_succ])
                    refine tkLE ?_
                    refine wpAnyH_take (i := 33) (v := .bool false) rfl (by kernel_rfl) (by kernel_rfl) (by kernel_rfl) (fun _ _ _ h => h) (Or.inl ⟨by rfl, ?_⟩) (by assumption) ?_
                    · (intro w hSw; (try dsimp only at hSw); go_simp; first | done | (with_reducible rfl) | (simp [hneg]; done) | (simp [hwA]; done) | (rw [hwA]; simp; done) | (simp; omega) | omega)
                    show wpAnyH _ _ _ _ _ _ _ (Act.put _ (some 124) _) _
                    simp only [Act.put, List.setIfInBounds_toArray, List.set_cons_zero, List.set_cons_succ]
                    refine tkLB [34, 35, 36, 37] ?_
                    iterate 4 (refine tkLC (v := ?_) rfl rfl (by kernel_rfl) (by kernel_rfl) (by kernel_rfl) (fun _ _ _ h => h) (by rfl) (by assumption) ?_ ?_; rotate_left; (· (intro w hSw; (try dsimp only at hSw); go_simp; (try with_reducible rfl))); simp only [Act.put, List.setIfInBounds_toArray, List.set_cons_zero, List.set_cons_succ])
                    refine tkLE ?_
                    refine wpAnyH_take (i := 38) (v := .bool false) rfl (by kernel_rfl) (by kernel_rfl) (by kernel_rfl) (fun _ _ _ h => h) (Or.inl ⟨by rfl, ?_⟩) (by assumption) ?_
                    · (intro w hSw; (try dsimp only at hSw); go_simp; first | done | (with_reducible rfl) | (simp [hneg]; done) | (simp [hwA]; done) | (rw [hwA]; simp; done) | (simp; omega) | omega)
                    show wpAnyH _ _ _ _ _ _ _ (Act.put _ (some 129) _) _
                    simp only [Act.put, List.setIfInBounds_toArray, List.set_cons_zero, List.set_cons_succ]
                    refine tkLB [39] ?_
                    iterate 1 (refine tkLC (v := ?_) rfl rfl (by kernel_rfl) (by kernel_rfl) (by kernel_rfl) (fun _ _ _ h => h) (by rfl) (by assumption) ?_ ?_; rotate_left; (· (intro w hSw; (try dsimp only at hSw); go_simp; (try with_reducible rfl))); simp only [Act.put, List.setIfInBounds_toArray, List.set_cons_zero, List.set_cons_succ])
                    refine tkLE ?_
                    refine wpAnyH_take (i := 40) (v := undef) rfl (by kernel_rfl) (by kernel_rfl) (by kernel_rfl) (fun _ _ _ h => h) (Or.inr ⟨by rfl, rfl⟩) (by assumption) ?_
                    show wpAnyH _ _ _ _ _ _ _ (Act.put _ (some 131) _) _
                    simp only [Act.put, List.setIfInBounds_toArray, List.set_cons_zero, List.set_cons_succ]
                    refine wpAnyH_take (i := 41) (v := undef) rfl (by kernel_rfl) (by kernel_rfl) (by kernel_rfl) (fun _ _ _ h => h) (Or.inr ⟨by rfl, rfl⟩) (by assumption) ?_
                    show wpAnyH _ _ _ _ _ _ _ (Act.put _ (some 132) _) _
                    simp only [Act.put, List.setIfInBounds_toArray, List.set_cons_zero, List.set_cons_succ]
                    refine wpAnyH_take (i := 42) (v := undef) rfl (by kernel_rfl) (by kernel_rfl) (by kernel_rfl) (fun _ _ _ h => h) (Or.inr ⟨by rfl, rfl⟩) (by assumption) ?_
                    show wpAnyH _ _ _ _ _ _ _ (Act.put _ (some 133) _) _
                    simp only [Act.put, List.setIfInBounds_toArray, List.set_cons_zero, List.set_cons_succ]
                    refine wpAnyH_take (i := 43) (v := undef) rfl (by kernel_rfl) (by kernel_rfl) (by kernel_rfl) (fun _ _ _ h => h) (Or.inr ⟨by rfl, rfl⟩) (by assumption) ?_
                    show wpAnyH _ _ _ _ _ _ _ (Act.put _ (some 134) _) _
                    simp only [Act.put, List.setIfInBounds_toArray, List.set_cons_zero, List.set_cons_succ]
                    refine wpAnyH_take (i := 44) (v := undef) rfl (by kernel_rfl) (by kernel_rfl) (by kernel_rfl) (fun _ _ _ h => h) (Or.inr ⟨by rfl, rfl⟩) (by assumption) ?_
                    show wpAnyH _ _ _ _ _ _ _ (Act.put _ (some 135) _) _
                    simp only [Act.put, List.setIfInBounds_toArray, List.set_cons_zero, List.set_cons_succ]
                    refine wpAnyH_take (i := 45) (v := undef) rfl (by kernel_rfl) (by kernel_rfl) (by kernel_rfl) (fun _ _ _ h => h) (Or.inr ⟨by rfl, rfl⟩) (by assumption) ?_
                    show wpAnyH _ _ _ _ _ _ _ (Act.put _ (some 136) _) _
                    simp only [Act.put, List.setIfInBounds_toArray, List.set_cons_zero, List.set_cons_succ]
                    refine wpAnyH_take (i := 46) (v := undef) rfl (by kernel_rfl) (by kernel_rfl) (by kernel_rfl) (fun _ _ _ h => h) (Or.inr ⟨by rfl, rfl⟩) (by assumption) ?_
                    show wpAnyH _ _ _ _ _ _ _ (Act.put _ (some 137) _) _
                    simp only [Act.put, List.setIfInBounds_toArray, List.set_cons_zero, List.set_cons_succ]
                    refine wpAnyH_take (i := 47) (v := undef) rfl (by kernel_rfl) (by kernel_rfl) (by kernel_rfl) (fun _ _ _ h => h) (Or.inr ⟨by rfl, rfl⟩) (by assumption) ?_
                    show wpAnyH _ _ _ _ _ _ _ (Act.put _ (some 138) _) _
                    simp only [Act.put, List.setIfInBounds_toArray, List.set_cons_zero, List.set_cons_succ]
                    refine wpAnyH_take (i := 48) (v := undef) rfl (by kernel_rfl) (by kernel_rfl) (by kernel_rfl) (fun _ _ _ h => h) (Or.inr ⟨by rfl, rfl⟩) (by assumption) ?_
                    show wpAnyH _ _ _ _ _ _ _ (Act.put _ (some 139) _) _
                    simp only [Act.put, List.setIfInBounds_toArray, List.set_cons_zero, List.set_cons_succ]
                    refine wpAnyH_take (i := 49) (v := undef) rfl (by kernel_rfl) (by kernel_rfl) (by kernel_rfl) (fun _ _ _ h => h) (Or.inr ⟨by rfl, rfl⟩) (by assumption) ?_
                    show wpAnyH _ _ _ _ _ _ _ (Act.put _ (some 140) _) _
                    simp only [Act.put, List.setIfInBounds_toArray, List.set_cons_zero, List.set_cons_succ]
                    refine wpAnyH_take (i := 50) (v := undef) rfl (by kernel_rfl) (by kernel_rfl) (by kernel_rfl) (fun _ _ _ h => h) (Or.inr ⟨by rfl, rfl⟩) (by assumption) ?_
                    show wpAnyH _ _ _ _ _ _ _ (Act.put _ (some 141) _) _
                    simp only [Act.put, List.setIfInBounds_toArray, List.set_cons_zero, List.set_cons_succ]
                    refine wpAnyH_take (i := 51) (v := undef) rfl (by kernel_rfl) (by kernel_rfl) (by kernel_rfl) (fun _ _ _ h => h) (Or.inr ⟨by rfl, rfl⟩) (by assumption) ?_
                    show wpAnyH _ _ _ _ _ _ _ (Act.put _ (some 142) _) _
                    simp only [Act.put, List.setIfInBounds_toArray, List.set_cons_zero, List.set_cons_succ]
                    refine wpAnyH_take (i := 52) (v := undef) rfl (by kernel_rfl) (by kernel_rfl) (by kernel_rfl) (fun _ _ _ h => h) (Or.inr ⟨by rfl, rfl⟩) (by assumption) ?_
                    show wpAnyH _ _ _ _ _ _ _ (Act.put _ (some 143) _) _
                    simp only [Act.put, List.setIfInBounds_toArray, List.set_cons_zero, List.set_cons_succ]
                    refine wpAnyH_take (i := 53) (v := undef) rfl (by kernel_rfl) (by kernel_rfl) (by kernel_rfl) (fun _ _ _ h => h) (Or.inr ⟨by rfl, rfl⟩) (by assumption) ?_
                    show wpAnyH _ _ _ _ _ _ _ (Act.put _ (some 144) _) _
                    simp only [Act.put, List.setIfInBounds_toArray, List.set_cons_zero, List.set_cons_succ]
                    refine wpAnyH_take (i := 54) (v := undef) rfl (by kernel_rfl) (by kernel_rfl) (by kernel_rfl) (fun _ _ _ h => h) (Or.inr ⟨by rfl, rfl⟩) (by assumption) ?_
                    show wpAnyH _ _ _ _ _ _ _ (Act.put _ (some 145) _) _
                    simp only [Act.put, List.setIfInBounds_toArray, List.set_cons_zero, List.set_cons_succ]
                    refine wpAnyH_take (i := 55) (v := undef) rfl (by kernel_rfl) (by kernel_rfl) (by kernel_rfl) (fun _ _ _ h => h) (Or.inr ⟨by rfl, rfl⟩) (by assumption) ?_
                    show wpAnyH _ _ _ _ _ _ _ (Act.put _ (some 146) _) _
                    simp only [Act.put, List.setIfInBounds_toArray, List.set_cons_zero, List.set_cons_succ]
                    refine tkLB [56, 57] ?_
                    iterate 2 (refine tkLC (v := ?_) rfl rfl (by kernel_rfl) (by kernel_rfl) (by kernel_rfl) (fun _ _ _ h => h) (by rfl) (by assumption) ?_ ?_; rotate_left; (· (intro w hSw; (try dsimp only at hSw); go_simp; (try with_reducible rfl))); simp only [Act.put, List.setIfInBounds_toArray, List.set_cons_zero, List.set_cons_succ])
                    refine tkLE ?_
                    refine wpAnyH_done (by kernel_rfl) ?_ _
                    go_wp2
                    go_roundw
                    case rel => exact ⟨k + 1, by first | rfl | simp, by omega, hidOf (OK.out.drew)⟩
                    case measure => simp [intOf]; omega
                  · have hneg : ¬ (k : Int) - (N : Int) < 0 := by omega
                    have hge : (k : Int) - (N : Int) ≥ 0 := by omega
                    obtain ⟨b2, rfl, d2⟩ := HGC.out k _ (by rw [List.getElem?_append_right (by rw [aL_len]; omega), aL_len, List.getElem?_eq_getElem (by rw [bL_len]; omega)])
                    have hz : (bL j 70)[k - N]'(by rw [bL_len]; omega) = (2 * (13 * (j : Int) + 7 * ((k : Int) - (N : Int))) + 1) % 256 := by
                      have : ((k - N : Nat) : Int) = (k : Int) - (N : Int) := by omega
                      simp [bL, this]
                    rw [hz] at d2
                    have e2 := cell_later OK.out d2
                    clear d2 hz
                    have hwA : IntKind.u8.wrap (IntKind.i64.wrap (IntKind.i64.wrap (2 * IntKind.i64.wrap (IntKind.i64.wrap (13 * (j : Int)) + IntKind.i64.wrap (7 * ((k : Int) - (N : Int))))) + 1)) = (2 * (13 * (j : Int) + 7 * ((k : Int) - (N : Int))) + 1) % 256 := by
                      exact wrapB j ((k : Int) - N) (by omega) (by omega) (by omega) (by omega)
                    go_upto_region 25 with fail
                    refine wp_region_held_drew (S := (fun w' => w'.cell? ⟨gb, j, none⟩ = some (.slice (some ⟨b2, 0, none⟩) (N + 70 : Nat) c4) ∧ w'.cell? ⟨b2, k, none⟩ = some (.int .u8 ((2 * (13 * (j : Int) + 7 * ((k : Int) - (N : Int))) + 1) % 256)))) (by kernel_rfl) ?_ (fun hHeld => ?_)
                    · exact ⟨q2, e2⟩
                    refine tkLB [0] ?_
                    iterate 1 (refine tkLC (v := ?_) rfl rfl (by kernel_rfl) (by kernel_rfl) (by kernel_rfl) (fun _ _ _ h => h) (by rfl) (by assumption) ?_ ?_; rotate_left; (· (intro w hSw; (try dsimp only at hSw); go_simp; (try with_reducible rfl))); simp only [Act.put, List.setIfInBounds_toArray, List.set_cons_zero, List.set_cons_succ])
                    refine tkLE ?_
                    refine wpAnyH_take (i := 1) (v := .bool false) rfl (by kernel_rfl) (by kernel_rfl) (by kernel_rfl) (fun _ _ _ h => h) (Or.inl ⟨by rfl, ?_⟩) (by assumption) ?_
                    · (intro w hSw; (try dsimp only at hSw); go_simp; first | done | (with_reducible rfl) | (simp [hneg]; done) | (simp [hwA]; done) | (rw [hwA]; simp; done) | (simp; omega) | omega)
                    show wpAnyH _ _ _ _ _ _ _ (Act.put _ (some 92) _) _
                    simp only [Act.put, List.setIfInBounds_toArray, List.set_cons_zero, List.set_cons_succ]
                    refine tkLB [2] ?_
                    iterate 1 (refine tkLC (v := ?_) rfl rfl (by kernel_rfl) (by kernel_rfl) (by kernel_rfl) (fun _ _ _ h => h) (by rfl) (by assumption) ?_ ?_; rotate_left; (· (intro w hSw; (try dsimp only at hSw); go_simp; (try with_reducible rfl))); simp only [Act.put, List.setIfInBounds_toArray, List.set_cons_zero, List.set_cons_succ])
                    refine tkLE ?_
                    refine wpAnyH_take (i := 3) (v := undef) rfl (by kernel_rfl) (by kernel_rfl) (by kernel_rfl) (fun _ _ _ h => h) (Or.inr ⟨by rfl, rfl⟩) (by assumption) ?_
                    show wpAnyH _ _ _ _ _ _ _ (Act.put _ (some 94) _) _
                    simp only [Act.put, List.setIfInBounds_toArray, List.set_cons_zero, List.set_cons_succ]
                    refine wpAnyH_take (i := 4) (v := undef) rfl (by kernel_rfl) (by kernel_rfl) (by kernel_rfl) (fun _ _ _ h => h) (Or.inr ⟨by rfl, rfl⟩) (by assumption) ?_
                    show wpAnyH _ _ _ _ _ _ _ (Act.put _ (some 95) _) _
                    simp only [Act.put, List.setIfInBounds_toArray, List.set_cons_zero, List.set_cons_succ]
                    refine wpAnyH_take (i := 5) (v := undef) rfl (by kernel_rfl) (by kernel_rfl) (by kernel_rfl) (fun _ _ _ h => h) (Or.inr ⟨by rfl, rfl⟩) (by assumption) ?_
                    show wpAnyH _ _ _ _ _ _ _ (Act.put _ (some 96) _) _
                    simp only [Act.put, List.setIfInBounds_toArray, List.set_cons_zero, List.set_cons_succ]
                    refine wpAnyH_take (i := 6) (v := undef) rfl (by kernel_rfl) (by kernel_rfl) (by kernel_rfl) (fun _ _ _ h => h) (Or.inr ⟨by rfl, rfl⟩) (by assumption) ?_
                    show wpAnyH _ _ _ _ _ _ _ (Act.put _ (some 97) _) _
                    simp only [Act.put, List.setIfInBounds_toArray, List.set_cons_zero, List.set_cons_succ]
                    refine wpAnyH_take (i := 7) (v := undef) rfl (by kernel_rfl) (by kernel_rfl) (by kernel_rfl) (fun _ _ _ h => h) (Or.inr ⟨by rfl, rfl⟩) (by assumption) ?_
                    show wpAnyH _ _ _ _ _ _ _ (Act.put _ (some 98) _) _
                    simp only [Act.put, List.setIfInBounds_toArray, List.set_cons_zero, List.set_cons_succ]
                    refine wpAnyH_take (i := 8) (v := undef) rfl (by kernel_rfl) (by kernel_rfl) (by kernel_rfl) (fun _ _ _ h => h) (Or.inr ⟨by rfl, rfl⟩) (by assumption) ?_
                    show wpAnyH _ _ _ _ _ _ _ (Act.put _ (some 99) _) _
                    simp only [Act.put, List.setIfInBounds_toArray, List.set_cons_zero, List.set_cons_succ]
                    refine wpAnyH_take (i := 9) (v := undef) rfl (by kernel_rfl) (by kernel_rfl) (by kernel_rfl) (fun _ _ _ h => h) (Or.inr ⟨by rfl, rfl⟩) (by assumption) ?_
                    show wpAnyH _ _ _ _ _ _ _ (Act.put _ (some 100) _) _
                    simp only [Act.put, List.setIfInBounds_toArray, List.set_cons_zero, List.set_cons_succ]
                    refine wpAnyH_take (i := 10) (v := undef) rfl (by kernel_rfl) (by kernel_rfl) (by kernel_rfl) (fun _ _ _ h => h) (Or.inr ⟨by rfl, rfl⟩) (by assumption) ?_
                    show wpAnyH _ _ _ _ _ _ _ (Act.put _ (some 101) _) _
                    simp only [Act.put, List.setIfInBounds_toArray, List.set_cons_zero, List.set_cons_succ]
                    refine wpAnyH_take (i := 11) (v := undef) rfl (by kernel_rfl) (by kernel_rfl) (by kernel_rfl) (fun _ _ _ h => h) (Or.inr ⟨by rfl, rfl⟩) (by assumption) ?_
                    show wpAnyH _ _ _ _ _ _ _ (Act.put _ (some 102) _) _
                    simp only [Act.put, List.setIfInBounds_toArray, List.set_cons_zero, List.set_cons_succ]
                    refine wpAnyH_take (i := 12) (v := undef) rfl (by kernel_rfl) (by kernel_rfl) (by kernel_rfl) (fun _ _ _ h => h) (Or.inr ⟨by rfl, rfl⟩) (by assumption) ?_
                    show wpAnyH _ _ _ _ _ _ _ (Act.put _ (some 103) _) _
                    simp only [Act.put, List.setIfInBounds_toArray, List.set_cons_zero, List.set_cons_succ]
                    refine wpAnyH_take (i := 13) (v := undef) rfl (by kernel_rfl) (by kernel_rfl) (by kernel_rfl) (fun _ _ _ h => h) (Or.inr ⟨by rfl, rfl⟩) (by assumption) ?_
                    show wpAnyH _ _ _ _ _ _ _ (Act.put _ (some 104) _) _
                    simp only [Act.put, List.setIfInBounds_toArray, List.set_cons_zero, List.set_cons_succ]
                    refine wpAnyH_take (i := 14) (v := undef) rfl (by kernel_rfl) (by kernel_rfl) (by kernel_rfl) (fun _ _ _ h => h) (Or.inr ⟨by rfl, rfl⟩) (by assumption) ?_
                    show wpAnyH _ _ _ _ _ _ _ (Act.put _ (some 105) _) _
                    simp only [Act.put, List.setIfInBounds_toArray, List.set_cons_zero, List.set_cons_succ]
                    refine wpAnyH_take (i := 15) (v := undef) rfl (by kernel_rfl) (by kernel_rfl) (by kernel_rfl) (fun _ _ _ h => h) (Or.inr ⟨by rfl, rfl⟩) (by assumption) ?_
                    show wpAnyH _ _ _ _ _ _ _ (Act.put _ (some 106) _) _
                    simp only [Act.put, List.setIfInBounds_toArray, List.set_cons_zero, List.set_cons_succ]
                    refine wpAnyH_take (i := 16) (v := undef) rfl (by kernel_rfl) (by kernel_rfl) (by kernel_rfl) (fun _ _ _ h => h) (Or.inr ⟨by rfl, rfl⟩) (by assumption) ?_
                    show wpAnyH _ _ _ _ _ _ _ (Act.put _ (some 107) _) _
                    simp only [Act.put, List.setIfInBounds_toArray, List.set_cons_zero, List.set_cons_succ]
                    refine wpAnyH_take (i := 17) (v := undef) rfl (by kernel_rfl) (by kernel_rfl) (by kernel_rfl) (fun _ _ _ h => h) (Or.inr ⟨by rfl, rfl⟩) (by assumption) ?_
                    show wpAnyH _ _ _ _ _ _ _ (Act.put _ (some 108) _) _
                    simp only [Act.put, List.setIfInBounds_toArray, List.set_cons_zero, List.set_cons_succ]
                    refine wpAnyH_take (i := 18) (v := undef) rfl (by kernel_rfl) (by kernel_rfl) (by kernel_rfl) (fun _ _ _ h => h) (Or.inr ⟨by rfl, rfl⟩) (by assumption) ?_
                    show wpAnyH _ _ _ _ _ _ _ (Act.put _ (some 109) _) _
                    simp only [Act.put, List.setIfInBounds_toArray, List.set_cons_zero, List.set_cons_succ]
                    refine wpAnyH_take (i := 19) (v := undef) rfl (by kernel_rfl) (by kernel_rfl) (by kernel_rfl) (fun _ _ _ h => h) (Or.inr ⟨by rfl, rfl⟩) (by assumption) ?_
                    show wpAnyH _ _ _ _ _ _ _ (Act.put _ (some 110) _) _
                    simp only [Act.put, List.setIfInBounds_toArray, List.set_cons_zero, List.set_cons_succ]
                    refine wpAnyH_take (i := 20) (v := undef) rfl (by kernel_rfl) (by kernel_rfl) (by kernel_rfl) (fun _ _ _ h => h) (Or.inr ⟨by rfl, rfl⟩) (by assumption) ?_
                    show wpAnyH _ _ _ _ _ _ _ (Act.put _ (some 111) _) _
                    simp only [Act.put, List.setIfInBounds_toArray, List.set_cons_zero, List.set_cons_succ]
                    refine wpAnyH_take (i := 21) (v := undef) rfl (by kernel_rfl) (by kernel_rfl) (by kernel_rfl) (fun _ _ _ h => h) (Or.inr ⟨by rfl, rfl⟩) (by assumption) ?_
                    show wpAnyH _ _ _ _ _ _ _ (Act.put _ (some 112) _) _
                    simp only [Act.put, List.setIfInBounds_toArray, List.set_cons_zero, List.set_cons_succ]
                    refine wpAnyH_take (i := 22) (v := undef) rfl (by kernel_rfl) (by kernel_rfl) (by kernel_rfl) (fun _ _ _ h => h) (Or.inr ⟨by rfl, rfl⟩) (by assumption) ?_
                    show wpAnyH _ _ _ _ _ _ _ (Act.put _ (some 113) _) _
                    simp only [Act.put, List.setIfInBounds_toArray, List.set_cons_zero, List.set_cons_succ]
                    refine wpAnyH_take (i := 23) (v := undef) rfl (by kernel_rfl) (by kernel_rfl) (by kernel_rfl) (fun _ _ _ h => h) (Or.inr ⟨by rfl, rfl⟩) (by assumption) ?_
                    show wpAnyH _ _ _ _ _ _ _ (Act.put _ (some 114) _) _
                    simp only [Act.put, List.setIfInBounds_toArray, List.set_cons_zero, List.set_cons_succ]
                    refine wpAnyH_take (i := 24) (v := undef) rfl (by kernel_rfl) (by kernel_rfl) (by kernel_rfl) (fun _ _ _ h => h) (Or.inr ⟨by rfl, rfl⟩) (by assumption) ?_
                    show wpAnyH _ _ _ _ _ _ _ (Act.put _ (some 115) _) _
                    simp only [Act.put, List.setIfInBounds_toArray, List.set_cons_zero, List.set_cons_succ]
                    refine wpAnyH_take (i := 25) (v := undef) rfl (by kernel_rfl) (by kernel_rfl) (by kernel_rfl) (fun _ _ _ h => h) (Or.inr ⟨by rfl, rfl⟩) (by assumption) ?_
                    show wpAnyH _ _ _ _ _ _ _ (Act.put _ (some 116) _) _
                    simp only [Act.put, List.setIfInBounds_toArray, List.set_cons_zero, List.set_cons_succ]
                    refine wpAnyH_take (i := 26) (v := undef) rfl (by kernel_rfl) (by kernel_rfl) (by kernel_rfl) (fun _ _ _ h => h) (Or.inr ⟨by rfl, rfl⟩) (by assumption) ?_
                    show wpAnyH _ _ _ _ _ _ _ (Act.put _ (some 117) _) _
                    simp only [Act.put, List.setIfInBounds_toArray, List.set_cons_zero, List.set_cons_succ]
                    refine wpAnyH_take (i := 27) (v := undef) rfl (by kernel_rfl) (by kernel_rfl) (by kernel_rfl) (fun _ _ _ h => h) (Or.inr ⟨by rfl, rfl⟩) (by assumption) ?_
                    show wpAnyH _ _ _ _ _ _ _ (Act.put _ (some 118) _) _
                    simp only [Act.put, List.setIfInBounds_toArray, List.set_cons_zero, List.set_cons_succ]
                    refine wpAnyH_take (i := 28) (v := undef) rfl (by kernel_rfl) (by kernel_rfl) (by kernel_rfl) (fun _ _ _ h => h) (Or.inr ⟨by rfl, rfl⟩) (by assumption) ?_
                    show wpAnyH _ _ _ _ _ _ _ (Act.put _ (some 119) _) _
                    simp only [Act.put, List.setIfInBounds_toArray, List.set_cons_zero, List.set_cons_succ]
                    refine wpAnyH_take (i := 29) (v := undef) rfl (by kernel_rfl) (by kernel_rfl) (by kernel_rfl) (fun _ _ _ h => h) (Or.inr ⟨by rfl, rfl⟩) (by assumption) ?_
                    show wpAnyH _ _ _ _ _ _ _ (Act.put _ (some 120) _) _
                    simp only [Act.put, List.setIfInBounds_toArray, List.set_cons_zero, List.set_cons_succ]
                    refine wpAnyH_take (i := 30) (v := undef) rfl (by kernel_rfl) (by kernel_rfl) (by kernel_rfl) (fun _ _ _ h => h) (Or.inr ⟨by rfl, rfl⟩) (by assumption) ?_
                    show wpAnyH _ _ _ _ _ _ _ (Act.put _ (some 121) _) _
                    simp only [Act.put, List.setIfInBounds_toArray, List.set_cons_zero, List.set_cons_succ]
                    refine wpAnyH_take (i := 31) (v := undef) rfl (by kernel_rfl) (by kernel_rfl) (by kernel_rfl) (fun _ _ _ h => h) (Or.inr ⟨by rfl, rfl⟩) (by assumption) ?_
                    show wpAnyH _ _ _ _ _ _ _ (Act.put _ (some 122) _) _
                    simp only [Act.put, List.setIfInBounds_toArray, List.set_cons_zero, List.set_cons_succ]
                    refine wpAnyH_take (i := 32) (v := undef) rfl (by kernel_rfl) (by kernel_rfl) (by kernel_rfl) (fun _ _ _ h => h) (Or.inr ⟨by rfl, rfl⟩) (by assumption) ?_
                    show wpAnyH _ _ _ _ _ _ _ (Act.put _ (some 123) _) _
                    simp only [Act.put, List.setIfInBounds_toArray, List.set_cons_zero, List.set_cons_succ]
                    refine wpAnyH_take (i := 33) (v := undef) rfl (by kernel_rfl) (by kernel_rfl) (by kernel_rfl) (fun _ _ _ h => h) (Or.inr ⟨by rfl, rfl⟩) (by assumption) ?_
                    show wpAnyH _ _ _ _ _ _ _ (Act.put _ (some 124) _) _
                    simp only [Act.put, List.setIfInBounds_toArray, List.set_cons_zero, List.set_cons_succ]
                    refine wpAnyH_take (i := 34) (v := undef) rfl (by kernel_rfl) (by kernel_rfl) (by kernel_rfl) (fun _ _ _ h => h) (Or.inr ⟨by rfl, rfl⟩) (by assumption) ?_
                    show wpAnyH _ _ _ _ _ _ _ (Act.put _ (some 125) _) _
                    simp only [Act.put, List.setIfInBounds_toArray, List.set_cons_zero, List.set_cons_succ]
                    refine tkLB [35, 36, 37] ?_
                    iterate 3 (refine tkLC (v := ?_) rfl rfl (by kernel_rfl) (by kernel_rfl) (by kernel_rfl) (fun _ _ _ h => h) (by rfl) (by assumption) ?_ ?_; rotate_left; (· (intro w hSw; (try dsimp only at hSw); go_simp; (try with_reducible rfl))); simp only [Act.put, List.setIfInBounds_toArray, List.set_cons_zero, List.set_cons_succ])
                    refine tkLE ?_
                    refine wpAnyH_take (i := 38) (v := .bool true) rfl (by kernel_rfl) (by kernel_rfl) (by kernel_rfl) (fun _ _ _ h => h) (Or.inl ⟨by rfl, ?_⟩) (by assumption) ?_
                    · (intro w hSw; (try dsimp only at hSw); go_simp; first | done | (with_reducible rfl) | (simp [hneg]; done) | (simp [hwA]; done) | (rw [hwA]; simp; done) | (simp; omega) | omega)
                    show wpAnyH _ _ _ _ _ _ _ (Act.put _ (some 129) _) _
                    simp only [Act.put, List.setIfInBounds_toArray, List.set_cons_zero, List.set_cons_succ]
                    refine tkLB [39, 40, 41, 42, 43, 44, 45, 46, 47, 48, 49, 50, 51, 52, 53, 54] ?_
                    iterate 16 (refine tkLC (v := ?_) rfl rfl (by kernel_rfl) (by kernel_rfl) (by kernel_rfl) (fun _ _ _ h => h) (by rfl) (by assumption) ?_ ?_; rotate_left; (· (intro w hSw; (try dsimp only at hSw); go_simp; (try with_reducible rfl))); simp only [Act.put, List.setIfInBounds_toArray, List.set_cons_zero, List.set_cons_succ])
                    refine tkLE ?_
                    refine wpAnyH_take (i := 55) (v := .bool false) rfl (by kernel_rfl) (by kernel_rfl) (by kernel_rfl) (fun _ _ _ h => h) (Or.inl ⟨by rfl, ?_⟩) (by assumption) ?_
                    · (intro w hSw; (try dsimp only at hSw); go_simp; first | done | (with_reducible rfl) | (simp [hneg]; done) | (simp [hwA]; done) | (rw [hwA]; simp; done) | (simp; omega) | omega)
                    show wpAnyH _ _ _ _ _ _ _ (Act.put _ (some 146) _) _
                    simp only [Act.put, List.setIfInBounds_toArray, List.set_cons_zero, List.set_cons_succ]
                    refine tkLB [56, 57] ?_
                    iterate 2 (refine tkLC (v := ?_) rfl rfl (by kernel_rfl) (by kernel_rfl) (by kernel_rfl) (fun _ _ _ h => h) (by rfl) (by assumption) ?_ ?_; rotate_left; (· (intro w hSw; (try dsimp only at hSw); go_simp; (try with_reducible rfl))); simp only [Act.put, List.setIfInBounds_toArray, List.set_cons_zero, List.set_cons_succ])
                    refine tkLE ?_
                    refine wpAnyH_done (by kernel_rfl) ?_ _
                    go_wp2
                    go_roundw
                    case rel => exact ⟨k + 1, by first | rfl | simp, by omega, hidOf (OK.out.drew)⟩
                    case measure => simp [intOf]; omega
                · have hklt : ¬ (k : Int) < ((N + 70 : Nat) : Int) := by omega
                  go_wp2
                  go_roundw
                  case rel => exact ⟨j + 1, by first | rfl | simp, by omega, OK⟩
                  case measure => simp [intOf]; omega
            · have hlt : ¬ (j : Int) < i0 := by omega
              go_wp2
              go_ret
              exact ⟨rfl, CW9.out.trans (Chg.of_out (S := fun _ => False) OR.out) (fun _ h _ => h.elim)⟩
end Go.Proofs.YtekjfbmebekmeaaGreat
