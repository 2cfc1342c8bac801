import Derived.Test.YtlfcjbeldnkkoaaGb44
import Derived.Test.YtlfcjbeldnkkoaaGb17
namespace Go.Proofs.Ytlfcjbeldnkkoaa
open Go.RowKit
set_option linter.unusedVariables false
set_option linter.unusedSimpArgs false
/-- spans -/
def spC (x : Nat × Nat) : List Value := [.int .i64 (x.1 : Int), .int .i64 (x.2 : Int)]
def spV (l : List (Nat × Nat)) : List Value := l.flatMap spC
theorem spV_len (l : List (Nat × Nat)) : (spV l).length = l.length * 2 := by
  induction l with
  | nil => rfl
  | cons x r ih => show (spC x ++ spV r).length = _; rw [List.length_append, ih]; simp [spC]; omega
theorem spV_snoc (l : List (Nat × Nat)) (x : Nat × Nat) : spV (l ++ [x]) = spV l ++ spC x := by simp [spV, List.flatMap_append]
theorem spV_get : ∀ (l : List (Nat × Nat)) (i : Nat) (x : Nat × Nat) (j : Nat), l[i]? = some x → j < 2 → (spV l)[i * 2 + j]? = (spC x)[j]?
  | [], i, x, j, h, _ => by simp at h
  | y :: r, 0, x, j, h, hj => by
    simp at h; subst h
    show (spC y ++ spV r)[0 * 2 + j]? = _
    rw [List.getElem?_append_left (by simp [spC]; omega)]; simp
  | y :: r, i + 1, x, j, h, hj => by
    show (spC y ++ spV r)[(i + 1) * 2 + j]? = _
    rw [List.getElem?_append_right (by simp [spC]; omega), ← spV_get r i x j (by simpa using h) hj]
    congr 1
    simp [spC]; omega
def OwSp (B : Nat) (v : Value) (S : List (Nat × Nat)) (w : World) : Prop := w.ownsRow B 90 2 v S.length (spV S)
theorem OwSp.cells {B : Nat} {a : Option Addr} {n c : Nat} {S : List (Nat × Nat)} {w : World} (h : OwSp B (.slice a n c) S w) {i : Nat} {x : Nat × Nat} (hx : S[i]? = some x) : ∃ g, a = some ⟨g, 0, none⟩ ∧ w.cell? ⟨g, i * 2, none⟩ = some (.int .i64 (x.1 : Int)) ∧ w.cell? ⟨g, i * 2 + 1, none⟩ = some (.int .i64 (x.2 : Int)) := by
  have hi := (List.getElem?_eq_some_iff.1 hx).1
  rcases h.2 with ⟨_, h0⟩ | ⟨g, cap, cur, e, _⟩
  · omega
  · simp only [Value.slice.injEq] at e
    have key : ∀ j, j < 2 → w.cell? ⟨g, i * 2 + j, none⟩ = (spC x)[j]? := fun j hj => by
      have hlt : j < (spC x).length := by simpa [spC] using hj
      have := World.ownsRow.cells h (g := g) (by rw [e.1]; rfl) (i * 2 + j) ((spC x)[j]'hlt) (by rw [spV_get S i x j hx hj, List.getElem?_eq_getElem hlt])
      rw [WideShapes.add_plain, Nat.zero_add] at this
      rw [this, List.getElem?_eq_getElem hlt]
    exact ⟨g, e.1, key 0 (by omega), key 1 (by omega)⟩
theorem infoSp : (Try.prog.info? 90).map (fun i => (i.zero, i.size, i.bytes)) = some (some (.agg #[.int .i64 0, .int .i64 0]), 2, 16) := by kernel_rfl
def spE (e : En) : Nat × Nat := (e.bg.toNat, e.en.toNat - e.bg.toNat)
def spsE (E : List En) : List (Nat × Nat) := (E.drop 1).map spE
/-- a file whose head is right -/
structure HdOk (b : List UInt8) (T k : Nat) : Prop where
  t : atP b 40 8 = (T : Int)
  c : cntP b = k
  len : T + 64 * k = b.length
  t64 : 64 ≤ T
  t8 : T % 8 = 0
  k2 : 2 ≤ k
  k18 : k ≤ 18
theorem hdOk_of {b : List UInt8} (hl : 64 ≤ b.length) (hm : b.length ≤ 1000000000000) (h : hdFlt b = none) : HdOk b (tpP b).toNat (cntP b) := by
  obtain ⟨h1, h2, h3, h4, _⟩ := hd_facts hl h
  have hT : atP b 40 8 = tpP b := by
    by_cases e : hdN b 40 = true
    · exfalso
      obtain ⟨_, hs⟩ := hd_dec hl hm
      -- the least place that is wrong
      have : ∀ n, n ≤ 40 → (∃ i, i < 64 ∧ (∀ k, k < i → hdN b k = false) ∧ hdN b i = true) ∨ ∀ k, k < n → hdN b k = false := by
        intro n
        induction n with
        | zero => intro _; right; intro k hk; omega
        | succ n ih =>
          intro hn
          rcases ih (by omega) with h | h
          · exact .inl h
          · cases hb : hdN b n with
            | true => exact .inl ⟨n, by omega, h, hb⟩
            | false =>
              right
              intro k hk
              by_cases e : k = n
              · rw [e]; exact hb
              · exact h k (by omega)
      rcases this 40 (by omega) with ⟨i, hi, hk, ht⟩ | hk
      · rw [hs i hi hk ht] at h; cases h
      · rw [hs 40 (by omega) hk e] at h; cases h
    · unfold hdN at e
      rw [if_pos rfl, decide_eq_true_iff] at e
      omega
  exact ⟨by rw [hT]; omega, rfl, by unfold tpP at *; omega, by omega, by omega, h3, h4⟩
theorem fld_m {b : List UInt8} {row m : Nat} (h : fB b (row + 32) 8 = m) (hm : m ≤ 1000000000000) : fldI (rowB b row) 32 8 = m := by
  unfold fldI
  rw [rowB_fld b row 32 8 (by omega), h, wrap64_small m hm]
/-- one more entry -/
theorem tk_go {b : List UInt8} {T k row want m : Nat} {E : List En} (hf : fltF (rowB b row) 0 (rowW T b.length row want).fds = none) (hm : fB b (row + 32) 8 = m) (hmb : m ≤ 1000000000000) : tkF b T (k + 1) row want E = tkF b T k (row + 64) (up8 (want + m)) (E ++ [enP (rowB b row) row want]) := by
  rw [tk_none hf]
  change tkF b T k (row + 64) (up8 (want + (fldI (rowB b row) 32 8).toNat)) _ = _
  rw [fld_m hm hmb, Int.toNat_natCast]
  rfl
theorem spE_en {b : List UInt8} {row want m : Nat} (hm : fB b (row + 32) 8 = m) (hmb : m ≤ 1000000000000) : spE (enP (rowB b row) row want) = (want, m) := by
  unfold spE enP
  simp only
  rw [fld_m hm hmb]
  simp
  omega
theorem wr_none {T want : Nat} {last : Bool} {kd fl li nf al ea sz z16 z24 : Int} (h : wrF9 last T want kd fl li nf al ea sz z16 z24 = none) : 0 ≤ sz ∧ sz ≤ (T : Int) - want := by
  unfold wrF9 at h
  repeat (first | (split at h; · cases h))
  omega
end Go.Proofs.Ytlfcjbeldnkkoaa
namespace Go.Proofs.Ytlfcjbeldnkkoaa
open Go.RowKit
set_option linter.unusedVariables false
set_option linter.unusedSimpArgs false
/-- wrong, at a row -/
theorem wrong9_any (w : World) (g off c : Nat) (b : List UInt8) (hb : BAt w g off b) (hc : b.length ≤ c) (hl : b.length ≤ 1000000000000) (row T want : Nat) (hr : row + 64 ≤ b.length) (hT : row ≠ T) (hTb : T ≤ 1000000000000) (hT8 : T % 8 = 0) (hw : want ≤ T) (hw8 : want % 8 = 0) (last : Bool) (hlast : last = decide (row + 64 = b.length)) :
    Calls Try.prog 62 #[.slice (some ⟨g, off, none⟩) b.length c, .int .i64 (row : Int), .int .i64 (want : Int), .int .i64 (T : Int), .bool last] w fun e w' => e = .returned (.int .i64 (wrRes row (fltF (rowB b row) 0 (rowW T b.length row want).fds))) ∧ w' = w := by
  have A : ∀ (o n : Nat), (n = 2 ∨ n = 4 ∨ n = 8) → o + n ≤ 64 → Hid (Calls Try.prog 38 #[.slice (some ⟨g, off, none⟩) b.length c, .int .i64 ((row : Int) + (o : Int)), .int .i64 (n : Int)] w fun e w' => e = .returned (.int .i64 (atP b (row + o) n)) ∧ w' = w) := fun o n hn ho => hidOf (by
    have h := at9_any w g off c b hb hc hl (row + o) n hn (by omega)
    rw [Int.natCast_add] at h
    exact h)
  have hs : atP b (row + 32) 8 ≤ 9223372036854775807 := by rcases atP8 b (row + 32) with ⟨h1, h2⟩ | ⟨h1, h2⟩ <;> omega
  rw [row_ref b row T want hT hTb hT8 hw hw8, ← hlast]
  cases last with
  | true => exact wrong9_true w _ row T want _ _ _ _ _ _ _ _ _ (by omega) hTb hw hs (A 4 4 (by omega) (by omega)) (A 8 8 (by omega) (by omega)) (A 40 4 (by omega) (by omega)) (A 44 4 (by omega) (by omega)) (A 48 8 (by omega) (by omega)) (A 56 8 (by omega) (by omega)) (A 32 8 (by omega) (by omega)) (A 16 8 (by omega) (by omega)) (A 24 8 (by omega) (by omega))
  | false => exact wrong9_false w _ row T want _ _ _ _ _ _ _ _ _ (by omega) hTb hw hs (A 4 4 (by omega) (by omega)) (A 8 8 (by omega) (by omega)) (A 40 4 (by omega) (by omega)) (A 44 4 (by omega) (by omega)) (A 48 8 (by omega) (by omega)) (A 56 8 (by omega) (by omega)) (A 32 8 (by omega) (by omega)) (A 16 8 (by omega) (by omega)) (A 24 8 (by omega) (by omega))
/-- what rows answers -/
def RowsE (w : World) (b : List UInt8) (T k : Nat) (e : Ending) (w' : World) : Prop := Out w w' ∧ match (tkF b T k T 64 []).2 with
  | some a => e = .returned (.tuple #[.slice none 0 0, .int .i64 (a : Nat)])
  | none => ∃ a c, e = .returned (.tuple #[.slice a (k - 1) c, .int .i64 (-1)]) ∧ OwSp w.heap.size (.slice a (k - 1) c) (spsE (tkF b T k T 64 []).1) w' ∧ (spsE (tkF b T k T 64 []).1).length = k - 1
theorem RowsE.bad {w w' : World} {b : List UInt8} {T k a : Nat} {z : Int} (o : Out w w') (h : (tkF b T k T 64 []).2 = some a) (hz : z = (a : Nat)) : RowsE w b T k (.returned (.tuple #[.slice none 0 0, .int .i64 z])) w' := ⟨o, by rw [h, hz]⟩
theorem up8_mod (n : Nat) : up8 n % 8 = 0 := by unfold up8; omega
theorem grow9 {w w4 : World} {O : Obj} {r : Option Nat} (h : (w.alloc O).grownBy w4 r) : Chg (fun b => r = some b) w w4 := (Chg.of_out (S := fun b => r = some b) ((Out.refl w).alloc O)).trans (Chg.of_grown h (fun k h => h)) (fun b hb _ => hb)
theorem spsE_snoc {E : List En} {x : En} (h : 1 ≤ E.length) : spsE (E ++ [x]) = spsE E ++ [spE x] := by
  unfold spsE
  rw [List.drop_append_of_le_length h]
  simp
theorem spsE_len (E : List En) : (spsE E).length = E.length - 1 := by simp [spsE]
set_option maxRecDepth 20000 in
set_option maxHeartbeats 4000000 in
theorem rows9_any (w : World) (g off c : Nat) (b : List UInt8) (hg : g < w.heap.size) (hb : BAt w g off b) (hc : b.length ≤ c) (hl : b.length ≤ 1000000000000) (T k : Nat) (hk : HdOk b T k) :
    Calls Try.prog 35 #[.slice (some ⟨g, off, none⟩) b.length c] w fun e w' => RowsE w b T k e w' := by
  obtain ⟨i0, hi, hz0, hz1, hz2⟩ := info_parts infoSp
  have hlen := hk.len
  have h64 := hk.t64
  have h8 := hk.t8
  have h2 := hk.k2
  have h18 := hk.k18
  have HT8 := hidOf h8
  have C40 : Hid (Calls Try.prog 38 #[.slice (some ⟨g, off, none⟩) b.length c, .int .i64 40, .int .i64 8] w fun e w' => e = .returned (.int .i64 (T : Int)) ∧ w' = w) := hidOf (by
    have h := at9_any w g off c b hb hc hl 40 8 (by omega) (by omega)
    rw [hk.t] at h
    exact h)
  have C60 : Hid (Calls Try.prog 38 #[.slice (some ⟨g, off, none⟩) b.length c, .int .i64 60, .int .i64 2] w fun e w' => e = .returned (.int .i64 (k : Int)) ∧ w' = w) := hidOf (by
    have h := at9_any w g off c b hb hc hl 60 2 (by omega) (by omega)
    rw [show atP b 60 2 = (cntP b : Nat) by unfold atP; rw [if_neg (by omega)]; rfl, hk.c] at h
    exact h)
  have CZ := hidOf (zeros9_any w g off c b hg hb hc hl T (by omega))
  have HB := hidOf hb
  have hTI : (T : Int) ≤ 1000000000000 := by omega
  have hkI : (k : Int) ≤ 18 := by omega
  have hk2I : (2 : Int) ≤ k := by omega
  have hT0 : (64 : Int) ≤ T := by omega
  have Hlen := hidOf hlen
  have Hrw : Hid ((rowW T b.length T 64).fds = zRw.fds) := hidOf (by unfold rowW; rw [if_pos rfl])
  clear hb hk hlen h8
  cases hz : fltF (rowB b T) 0 zRw.fds with
  | some a =>
    have HF : Hid ((tkF b T k T 64 []).2 = some (T + a)) := hidOf (by
      obtain ⟨k', rfl⟩ : ∃ k', k = k' + 1 := ⟨k - 1, by omega⟩
      have : fltF ((b.drop T).take 64) 0 (rowW T b.length T 64).fds = some a := by rw [Hrw.out]; exact hz
      rw [tk_some this])
    rw [zrRes_some hz] at CZ
    have hga : (0 : Int) ≤ (T : Int) + a := by omega
    clear hz
    go_enter Try.func35, Try.ntmps35
    go_wp2_with (first | (go_at_call 38; with_reducible refine C40.out.mono ?_; rintro e w5 ⟨rfl, hw⟩; have hw := hw.symm; subst hw) | (go_at_call 38; with_reducible refine C60.out.mono ?_; rintro e w5 ⟨rfl, hw⟩; have hw := hw.symm; subst hw) | (go_at_call 61; refine CZ.out.mono ?_; rintro e w6 ⟨rfl, ho⟩; have O6 := hidOf ho; clear ho))
    go_ret2
    exact RowsE.bad O6.out HF.out (by push_cast; omega)
  | none =>
    have HF : Hid (tkF b T k T 64 [] = tkF b T (k - 1) (T + 64 * 1) 64 [enP (rowB b T) T 64]) := hidOf (by
      obtain ⟨k', rfl⟩ : ∃ k', k = k' + 1 := ⟨k - 1, by omega⟩
      have hn : fltF (rowB b T) 0 (rowW T b.length T 64).fds = none := by rw [Hrw.out]; exact hz
      have h0 : fB b (T + 32) 8 = 0 := by
        have := (flt_get (rowB b T) zRw.fds 5 0 ⟨8, 0, 0⟩ hz rfl).2
        rw [show 0 + widF (zRw.fds.take 5) = 32 by decide] at this
        rw [← rowB_fld b T 32 8 (by omega)]
        simpa using this
      rw [tk_go hn h0 (by omega)]
      rfl)
    rw [zrRes_none hz] at CZ
    clear hz
    go_enter Try.func35, Try.ntmps35
    go_wp2_with (first | (go_at_call 38; with_reducible refine C40.out.mono ?_; rintro e w5 ⟨rfl, hw⟩; have hw := hw.symm; subst hw) | (go_at_call 38; with_reducible refine C60.out.mono ?_; rintro e w5 ⟨rfl, hw⟩; have hw := hw.symm; subst hw) | (go_at_call 61; refine CZ.out.mono ?_; rintro e w6 ⟨rfl, ho⟩; have O6 := hidOf ho; clear ho))
    clear C40 C60 CZ
    go_loopw [7, 8, 9] (fun ov nv iv wr => ∃ (i want : Nat) (E : List En) (a : Option Addr) (ca : Nat), iv = .int .i64 i ∧ nv = .int .i64 want ∧ ov = .slice a (i - 1) ca ∧ 1 ≤ i ∧ i ≤ k ∧ want ≤ T ∧ Hid (want % 8 = 0) ∧ Hid (OwSp w.heap.size (.slice a (i - 1) ca) (spsE E) wr) ∧ Hid (E.length = i) ∧ Hid (Out w wr) ∧ Hid (tkF b T k T 64 [] = tkF b T (k - i) (T + 64 * i) want E)) (fun _ _ iv _ => k - (intOf iv).toNat)
    case atStart => exact ⟨1, 64, [enP (rowB b T) T 64], none, 0, rfl, rfl, rfl, by omega, by omega, by omega, hidOf rfl, hidOf (World.ownsRow_nil _ _ _ _), hidOf rfl, O6, HF⟩
    case round =>
      clear O6 HF
      obtain ⟨i, want, E, a, ca, rfl, rfl, rfl, hi1, hik, hwT, HW8, HS, HEl, HO, HF⟩ := hrel
      have hi0 : (0 : Int) ≤ i := by omega
      have hwI : (want : Int) ≤ T := by omega
      by_cases hlt : i < k
      · have hltI : (i : Int) < k := by omega
        have HBr := hidOf (HB.out.out hg HO.out)
        obtain ⟨row, hrow⟩ : ∃ row, row = T + 64 * i := ⟨_, rfl⟩
        have hrI : (T : Int) + 64 * (i : Int) = row := by omega
        have CW : Hid (Calls Try.prog 62 #[.slice (some ⟨g, off, none⟩) b.length c, .int .i64 ((T : Int) + 64 * (i : Int)), .int .i64 (want : Int), .int .i64 (T : Int), .bool ((i : Int) == (k : Int) - 1)] wr fun e w' => e = .returned (.int .i64 (wrRes row (fltF (rowB b row) 0 (rowW T b.length row want).fds))) ∧ w' = wr) := hidOf (by
          rw [hrI]
          exact wrong9_any wr g off c b HBr.out hc hl row T want (by have := Hlen.out; omega) (by omega) (by omega) HT8.out hwT HW8.out _ (by
            have := Hlen.out
            rw [Bool.eq_iff_iff, beq_iff_eq, decide_eq_true_iff]
            omega))
        cases hf : fltF (rowB b row) 0 (rowW T b.length row want).fds with
        | some x =>
          have HF2 : Hid ((tkF b T k T 64 []).2 = some (row + x)) := hidOf (by
            rw [HF.out, show k - i = (k - i - 1) + 1 by omega, ← hrow, tk_some hf])
          rw [hf, wrRes_some rfl] at CW
          have hge : (0 : Int) ≤ (row : Int) + x := by omega
          clear hf hrow hrI
          go_wp2_with (go_at_call 62; refine CW.out.mono ?_; rintro e w5 ⟨rfl, hw⟩; have hw := hw.symm; subst hw)
          go_ret2
          exact RowsE.bad HO.out HF2.out (by push_cast; omega)
        | none =>
          have hsz := size_le (l := rowB b row) (by omega) hwT hf
          rw [rowB_fld b row 32 8 (by omega)] at hsz
          obtain ⟨m, hm⟩ : ∃ m, fB b (row + 32) 8 = m := ⟨_, rfl⟩
          rw [hm] at hsz
          have HF2 : Hid (tkF b T k T 64 [] = tkF b T (k - (i + 1)) (T + 64 * (i + 1)) (up8 (want + m)) (E ++ [enP (rowB b row) row want])) := hidOf (by
            rw [HF.out, show k - i = (k - (i + 1)) + 1 by omega, ← hrow, tk_go hf hm (by omega), hrow]
            rfl)
          have HSp := hidOf (spE_en (b := b) (row := row) (want := want) hm (by omega))
          have K32 : Hid (Calls Try.prog 38 #[.slice (some ⟨g, off, none⟩) b.length c, .int .i64 ((T : Int) + 64 * (i : Int) + 32), .int .i64 8] wr fun e w' => e = .returned (.int .i64 (m : Int)) ∧ w' = wr) := hidOf (by
            have h := at9_any wr g off c b HBr.out hc hl (row + 32) 8 (by omega) (by have := Hlen.out; omega)
            rw [show atP b (row + 32) 8 = (m : Int) by rcases atP8 b (row + 32) with ⟨h1, h2⟩ | ⟨h1, h2⟩ <;> omega, Int.natCast_add, ← hrI] at h
            exact h)
          have KU : Hid (∀ wx, Calls Try.prog 63 #[.int .i64 ((want : Int) + (m : Int))] wx fun e w' => e = .returned (.int .i64 (up8 (want + m) : Nat)) ∧ w' = wx) := hidOf (fun wx => by
            have h := up9_any (want + m) (by omega) wx
            rw [Int.natCast_add] at h
            exact h)
          have Hup : Hid (up8 (want + m) ≤ T ∧ up8 (want + m) % 8 = 0) := hidOf ⟨up8_le (by omega) HT8.out, up8_mod _⟩
          rw [hf, wrRes_none rfl] at CW
          have hwm : (want : Int) + m ≤ T := by omega
          have hm0 : (0 : Int) ≤ m := by omega
          have hi1I : (1 : Int) ≤ i := by omega
          generalize enP (rowB b row) row want = en at *
          generalize up8 (want + m) = U at *
          clear hf hrow hrI hm hsz HBr
          go_upto_region 16 with (first | (go_at_call 62; refine CW.out.mono ?_; rintro e w5 ⟨rfl, hw⟩; have hw := hw.symm; subst hw) | (go_at_call 38; refine K32.out.mono ?_; rintro e w5 ⟨rfl, hw⟩; have hw := hw.symm; subst hw))
          clear CW K32
          obtain ⟨q, hq⟩ : ∃ q, q = wr.heap.size := ⟨_, rfl⟩
          have b0 : (wr.alloc (.cells #[.int .i64 (want : Int), .int .i64 (m : Int)] 90)).cell? ⟨q, 0, none⟩ = some (.int .i64 (want : Int)) := by rw [cell_fresh _ _ _ _ _ hq]; rfl
          have b1 : (wr.alloc (.cells #[.int .i64 (want : Int), .int .i64 (m : Int)] 90)).cell? ⟨q, 1, none⟩ = some (.int .i64 (m : Int)) := by rw [cell_fresh _ _ _ _ _ hq]; rfl
          have hqs : q < (wr.alloc (.cells #[.int .i64 (want : Int), .int .i64 (m : Int)] 90)).heap.size := by rw [size_alloc]; omega
          have HS2 := hidOf (own_at HS.out ((Out.refl wr).alloc (.cells #[.int .i64 (want : Int), .int .i64 (m : Int)] 90)))
          have HO2 := hidOf (HO.out.alloc (.cells #[.int .i64 (want : Int), .int .i64 (m : Int)] 90))
          have Hqn : Hid (∀ k, (Value.slice a (i - 1) ca).ownBlock = some k → ¬ k = q) := hidOf (fun k hk => by have := (World.ownsRow.lt HS.out k hk).2; omega)
          rw [← hq]
          generalize wr.alloc (.cells #[.int .i64 (want : Int), .int .i64 (m : Int)] 90) = w3 at *
          clear hq HS HO
          have HSl : Hid ((spsE E).length = i - 1) := hidOf (by rw [spsE_len, HEl.out])
          go_upto_region 17 with (first | (at_builtin; go_loud (refine wpList_append_own _ rfl (.tmp 50) (.tmp 52) 81 rfl w.heap.size 90 i0 _ 2 16 Try.underlying81 hi hz0 hz1 hz2 rfl (by decide) (.slice a (i - 1) ca) (i - 1) (spV (spsE E)) rfl (World.ownsRow.alloc (by have h := HS2.out; unfold OwSp at h; rw [HSl.out] at h; exact h) _) ⟨w3.heap.size, 0, none⟩ 1 1 [.int .i64 (want : Int), .int .i64 (m : Int)] rfl rfl (news_new w3 _ _ _ rfl) (by intro u hu; simp at hu; rcases hu with rfl | rfl <;> rfl) (by unfold maxLen; omega) (by omega) (by rw [size_alloc]; have := HO2.out.size; omega) ?_); intro v4 w4 hown4 hgrow4 _; have HO4 := hidOf hown4; have C4 := hidOf (grow9 (show (w3.alloc _).grownBy w4 (Value.slice a (i - 1) ca).ownBlock from hgrow4)); clear hgrow4; obtain ⟨a4, c4, rfl⟩ := own_form hown4; clear hown4))
          have d0 := C4.out.cell b0 (fun h => Hqn.out _ h rfl)
          have d1 := C4.out.cell b1 (fun h => Hqn.out _ h rfl)
          have HO5 := hidOf (Chg.out C4.out HO2.out (fun k hk => (World.ownsRow.lt HS2.out k hk).1))
          have HS5 : Hid (OwSp w.heap.size (.slice a4 (i - 1 + 1) c4) (spsE (E ++ [en])) w4) := hidOf (by
            have h := HO4.out
            unfold OwSp
            rw [spsE_snoc (by rw [HEl.out]; omega), spV_snoc, List.length_append, HSl.out, HSp.out]
            exact h)
          clear b0 b1 HO4
          go_wp2_with (go_at_call 63; refine (KU.out _).mono ?_; rintro e w5 ⟨rfl, hw⟩; have hw := hw.symm; subst hw)
          go_roundw
          case rel =>
            refine ⟨i + 1, U, E ++ [en], a4, c4, by simp, rfl, by first | rw [Nat.add_sub_cancel] | rw [show i + 1 - 1 = i - 1 + 1 by omega], by omega, by omega, Hup.out.1, hidOf Hup.out.2, ?_, hidOf (by rw [List.length_append, HEl.out]; rfl), HO5, HF2⟩
            rw [show i + 1 - 1 = i - 1 + 1 by omega]
            exact HS5
          case measure => simp [intOf] <;> omega
      · have hltI : ¬ (i : Int) < k := by omega
        obtain rfl : i = k := by omega
        have HF3 : Hid (tkF b T i T 64 [] = (E, none)) := hidOf (by rw [HF.out, Nat.sub_self]; rfl)
        go_wp2
        go_ret2
        refine ⟨HO.out, ?_⟩
        rw [HF3.out]
        exact ⟨a, ca, rfl, HS.out, by rw [spsE_len, HEl.out]⟩
end Go.Proofs.Ytlfcjbeldnkkoaa
