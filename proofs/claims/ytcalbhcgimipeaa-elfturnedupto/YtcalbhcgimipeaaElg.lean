import Derived.Test.YtcalbhcgimipeaaElf
import Derived.Lib.MinMax
import Derived.Lib.SliceRun
namespace Go.Proofs.Ytcalbhcgimipeaa
open Go.RowKit
set_option linter.unusedVariables false
set_option linter.unusedSimpArgs false
/-- a section -/
structure Sec where
  nm : List UInt8
  ty : Int
  fl : Int
  li : Int
  inf : Int
  al : Int
  es : Int
  d : List UInt8
/-- a section as it lies: where its data are -/
structure SV where
  s : Sec
  da : Option Addr
  dc : Nat
def SV.cs (x : SV) : List Value := [.string ⟨x.s.nm.toArray⟩, .int .i64 x.s.ty, .int .i64 x.s.fl, .int .i64 x.s.li, .int .i64 x.s.inf, .int .i64 x.s.al, .int .i64 x.s.es, .slice x.da x.s.d.length x.dc]
def svV (l : List SV) : List Value := l.flatMap SV.cs
theorem svV_len (l : List SV) : (svV l).length = l.length * 8 := by
  induction l with
  | nil => rfl
  | cons x r ih => show (x.cs ++ svV r).length = _; rw [List.length_append, ih]; simp [SV.cs]; omega
theorem svV_app (l m : List SV) : svV (l ++ m) = svV l ++ svV m := by simp [svV, List.flatMap_append]
theorem svV_one (l : List SV) : ∀ u ∈ svV l, u.oneCell' = true := by
  intro u hu
  simp only [svV, List.mem_flatMap] at hu
  obtain ⟨x, _, hx⟩ := hu
  simp [SV.cs] at hx
  rcases hx with rfl | rfl | rfl | rfl | rfl | rfl | rfl | rfl <;> rfl
theorem svV_get : ∀ (l : List SV) (i : Nat) (x : SV) (j : Nat), l[i]? = some x → j < 8 → (svV l)[i * 8 + j]? = x.cs[j]?
  | [], i, x, j, h, _ => by simp at h
  | y :: r, 0, x, j, h, hj => by
    simp at h; subst h
    show (y.cs ++ svV r)[0 * 8 + j]? = _
    rw [List.getElem?_append_left (by simp [SV.cs]; omega)]; simp
  | y :: r, i + 1, x, j, h, hj => by
    show (y.cs ++ svV r)[(i + 1) * 8 + j]? = _
    rw [List.getElem?_append_right (by simp [SV.cs]; omega), ← svV_get r i x j (by simpa using h) hj]
    congr 1
    simp [SV.cs]; omega
theorem infoSc : (Try.prog.info? 60).map (fun i => (i.zero, i.size, i.bytes)) = some (some (.agg #[.string ⟨#[]⟩, .int .i64 0, .int .i64 0, .int .i64 0, .int .i64 0, .int .i64 0, .int .i64 0, .slice none 0 0]), 8, 88) := by kernel_rfl
/-- sections at an address, by their cells -/
def ScAt (B : Nat) (w : World) (a : Option Addr) (L : List SV) : Prop := L = [] ∨ ∃ b off, b < B ∧ a = some ⟨b, off, none⟩ ∧ ∀ k u, (svV L)[k]? = some u → w.cell? ⟨b, off + k, none⟩ = some u
theorem ScAt.below {B : Nat} {w w' : World} {a : Option Addr} {L : List SV} (h : ScAt B w a L) (b : Below B w w') : ScAt B w' a L := by
  rcases h with h | ⟨g, o, hg, ha, hc⟩
  · exact .inl h
  · exact .inr ⟨g, o, hg, ha, fun k x hx => (Below.cell b hg).trans (hc k x hx)⟩
structure Cells8 (w : World) (b off : Nat) (x : SV) : Prop where
  c0 : w.cell? ⟨b, off, none⟩ = some (.string ⟨x.s.nm.toArray⟩)
  c1 : w.cell? ⟨b, off + 1, none⟩ = some (.int .i64 x.s.ty)
  c2 : w.cell? ⟨b, off + 2, none⟩ = some (.int .i64 x.s.fl)
  c3 : w.cell? ⟨b, off + 3, none⟩ = some (.int .i64 x.s.li)
  c4 : w.cell? ⟨b, off + 4, none⟩ = some (.int .i64 x.s.inf)
  c5 : w.cell? ⟨b, off + 5, none⟩ = some (.int .i64 x.s.al)
  c6 : w.cell? ⟨b, off + 6, none⟩ = some (.int .i64 x.s.es)
  c7 : w.cell? ⟨b, off + 7, none⟩ = some (.slice x.da x.s.d.length x.dc)
theorem cells8_of {w : World} {b off : Nat} {L : List SV} {i : Nat} {x : SV} (hc : ∀ k u, (svV L)[k]? = some u → w.cell? ⟨b, off + k, none⟩ = some u) (hx : L[i]? = some x) : Cells8 w b (off + i * 8) x := by
  have key : ∀ j, j < 8 → w.cell? ⟨b, off + i * 8 + j, none⟩ = x.cs[j]? := fun j hj => by
    have hlt : j < x.cs.length := by simpa [SV.cs] using hj
    rw [Nat.add_assoc, hc (i * 8 + j) (x.cs[j]'hlt) (by rw [svV_get L i x j hx hj, List.getElem?_eq_getElem hlt]), List.getElem?_eq_getElem hlt]
  exact ⟨key 0 (by omega), key 1 (by omega), key 2 (by omega), key 3 (by omega), key 4 (by omega), key 5 (by omega), key 6 (by omega), key 7 (by omega)⟩
theorem ScAt.get {B : Nat} {w : World} {a : Option Addr} {L : List SV} (h : ScAt B w a L) {i : Nat} {x : SV} (hx : L[i]? = some x) : ∃ b off, a = some ⟨b, off, none⟩ ∧ b < B ∧ Cells8 w b (off + i * 8) x := by
  rcases h with rfl | ⟨g, o, hg, ha, hc⟩
  · simp at hx
  · exact ⟨g, o, ha, hg, cells8_of hc hx⟩
def badP (s : Sec) : Bool := decide (s.ty < 0 ∨ s.fl < 0 ∨ s.li < 0 ∨ s.inf < 0 ∨ s.al < 0 ∨ s.es < 0 ∨ 4294967295 < s.ty ∨ 4294967295 < s.li ∨ 4294967295 < s.inf)
theorem min_eq2 (x y : Int) : (if y < x then y else x) = min x y := by
  rw [Int.min_def]
  split <;> split <;> omega
theorem max_eq2 (x y : Int) : (if y > x then y else x) = max x y := by
  rw [Int.max_def]
  split <;> split <;> omega
theorem run_min6 (w : World) (ts : Array TypeId) (t : TypeId) (a b c d e f : Int) : (Builtin.min_ ts t #[.int .i64 a, .int .i64 b, .int .i64 c, .int .i64 d, .int .i64 e, .int .i64 f]).run Try.prog w = .ok (.int .i64 (min (min (min (min (min a b) c) d) e) f)) w := by
  simp [Builtin.min_, Builtin.min2, min_eq2]
theorem run_max3 (w : World) (ts : Array TypeId) (t : TypeId) (a b c : Int) : (Builtin.max_ ts t #[.int .i64 a, .int .i64 b, .int .i64 c]).run Try.prog w = .ok (.int .i64 (max (max a b) c)) w := by
  simp [Builtin.max_, Builtin.max2, max_eq2]
set_option maxRecDepth 8000 in
set_option maxHeartbeats 4000000 in
theorem wrong_any (x : SV) (w : World) : Calls Try.prog 32 #[.agg #[.string ⟨x.s.nm.toArray⟩, .int .i64 x.s.ty, .int .i64 x.s.fl, .int .i64 x.s.li, .int .i64 x.s.inf, .int .i64 x.s.al, .int .i64 x.s.es, .slice x.da x.s.d.length x.dc]] w fun e w' => e = .returned (.bool (badP x.s)) ∧ Out w w' := by
  obtain ⟨⟨nm, ty, fl, li, inf, al, es, d⟩, da, dc⟩ := x
  obtain ⟨m, hm⟩ : ∃ m, m = min (min (min (min (min ty fl) li) inf) al) es := ⟨_, rfl⟩
  obtain ⟨M, hM⟩ : ∃ m, m = max (max ty li) inf := ⟨_, rfl⟩
  have h1 := fun w => run_min6 w #[3, 3, 3, 3, 3, 3] 3 ty fl li inf al es
  have h2 := fun w => run_max3 w #[3, 3, 3] 3 ty li inf
  rw [← hm] at h1
  rw [← hM] at h2
  have hb : badP ⟨nm, ty, fl, li, inf, al, es, d⟩ = decide (m < 0 ∨ 4294967295 < M) := by
    unfold badP
    congr 1
    simp only [eq_iff_iff]
    omega
  show Calls _ _ _ _ (fun e w' => e = .returned (.bool (badP ⟨nm, ty, fl, li, inf, al, es, d⟩)) ∧ Out w w')
  rw [hb]
  clear hm hM hb
  have Ho := hidOf ((Out.refl w).alloc (.cells #[.string ⟨nm.toArray⟩, .int .i64 ty, .int .i64 fl, .int .i64 li, .int .i64 inf, .int .i64 al, .int .i64 es, .slice da d.length dc] 60))
  by_cases hm0 : m < 0
  · go_enter Try.func32, Try.ntmps32
    go_wp2
    all_goals (go_ret; exact ⟨by simp [hm0], by first | exact Ho.out | exact Ho.out.drew⟩)
  · by_cases hM0 : 4294967295 < M
    · go_enter Try.func32, Try.ntmps32
      go_wp2
      all_goals (go_ret; exact ⟨by simp [hM0], by first | exact Ho.out | exact Ho.out.drew⟩)
    · go_enter Try.func32, Try.ntmps32
      go_wp2
      all_goals (go_ret; exact ⟨by simp [hm0, hM0], by first | exact Ho.out | exact Ho.out.drew⟩)
set_option maxRecDepth 8000 in
set_option maxHeartbeats 4000000 in
theorem index_any (B : Nat) (a : Option Addr) (c : Nat) (L : List SV) (w : World) (h : ScAt B w a L) (hB : B ≤ w.heap.size) (hc : L.length ≤ c) (hl : L.length ≤ 1000) :
    Calls Try.prog 65 #[.slice a L.length c, .func (.func 32) #[] #[]] w fun e w' => (∃ n : Int, e = .returned (.int .i64 n) ∧ (0 ≤ n ↔ L.any (fun x => badP x.s) = true)) ∧ Out w w' := by
  have H := hidOf h
  have hcI : (L.length : Int) ≤ c := by omega
  have hlI : (L.length : Int) ≤ 1000 := by omega
  clear h
  go_enter Try.func65, Try.ntmps65
  go_wp2
  go_loopw [8] (fun iv wr => ∃ i : Nat, iv = .int .i64 i ∧ i ≤ L.length ∧ Hid ((L.take i).any (fun x => badP x.s) = false) ∧ Hid (Out w wr)) (fun iv _ => L.length - (intOf iv).toNat)
  case atStart => exact ⟨0, rfl, by omega, rfl, Out.refl _⟩
  case round =>
    obtain ⟨i, rfl, hi, HA, Ho⟩ := hrel
    by_cases hiL : i < L.length
    · have hlt : (i : Int) < L.length := by omega
      have h0 : (0 : Int) ≤ i := by omega
      obtain ⟨x, hx⟩ : ∃ x, L[i]? = some x := ⟨_, List.getElem?_eq_getElem hiL⟩
      obtain ⟨b, off, rfl, hb, hc8⟩ := (H.out.below (Below.mono Ho.out hB)).get hx
      obtain ⟨d0, d1, d2, d3, d4, d5, d6, d7⟩ := hc8
      have Hst := hidOf (take_snoc hx)
      have Hm := hidOf (List.mem_of_getElem? hx)
      have CW := hidOf (wrong_any x wr)
      clear hx
      cases hbad : badP x.s
      · rw [hbad] at CW
        go_wp2_with (go_at_call 32; refine (CW.out).mono ?_; rintro e w1 ⟨rfl, hO1⟩; have HO1 := hidOf hO1; clear hO1)
        refine ⟨⟨i + 1, by simp, by omega, ?_, Ho.out.trans HO1.out⟩, by simp [intOf]; omega⟩
        show _ = _
        rw [Hst.out, List.any_append, HA.out]
        simp [hbad]
      · rw [hbad] at CW
        go_wp2_with (go_at_call 32; refine (CW.out).mono ?_; rintro e w1 ⟨rfl, hO1⟩; have HO1 := hidOf hO1; clear hO1)
        go_ret
        refine ⟨⟨i, rfl, ⟨fun _ => ?_, fun _ => by omega⟩⟩, Ho.out.trans HO1.out⟩
        rw [List.any_eq_true]
        exact ⟨x, Hm.out, hbad⟩
    · have hlt : ¬ (i : Int) < L.length := by omega
      obtain rfl : i = L.length := by omega
      rw [List.take_length] at HA
      go_wp2
      go_ret
      refine ⟨⟨-1, rfl, ?_⟩, Ho.out⟩
      have hA := HA.out
      simp at hA ⊢
      exact hA
theorem contains_any (B : Nat) (a : Option Addr) (c : Nat) (L : List SV) (w : World) (h : ScAt B w a L) (hB : B ≤ w.heap.size) (hc : L.length ≤ c) (hl : L.length ≤ 1000) :
    Calls Try.prog 31 #[.slice a L.length c, .func (.func 32) #[] #[]] w fun e w' => e = .returned (.bool (L.any (fun x => badP x.s))) ∧ Out w w' := by
  have HI := hidOf (index_any B a c L w h hB hc hl)
  clear h
  cases hb : L.any (fun x => badP x.s)
  · have HJ : Hid (Calls Try.prog 65 #[.slice a L.length c, .func (.func 32) #[] #[]] w fun e w' => ∃ n : Int, e = .returned (.int .i64 n) ∧ ¬ (0 ≤ n) ∧ Out w w') := by
      refine (HI.out).mono ?_
      rintro e w1 ⟨⟨n, rfl, hn⟩, hO1⟩
      rw [hb] at hn
      exact ⟨n, rfl, by simpa using hn, hO1⟩
    clear HI
    go_enter Try.func31, Try.ntmps31
    go_wp2_with (go_at_call 65; refine (HJ.out).mono ?_; rintro e w1 ⟨n, rfl, hn0, hO1⟩; have HO1 := hidOf hO1; clear hO1)
    go_ret
    exact ⟨by simp [hn0], HO1.out⟩
  · have HJ : Hid (Calls Try.prog 65 #[.slice a L.length c, .func (.func 32) #[] #[]] w fun e w' => ∃ n : Int, e = .returned (.int .i64 n) ∧ 0 ≤ n ∧ Out w w') := by
      refine (HI.out).mono ?_
      rintro e w1 ⟨⟨n, rfl, hn⟩, hO1⟩
      rw [hb] at hn
      exact ⟨n, rfl, by simpa using hn, hO1⟩
    clear HI
    go_enter Try.func31, Try.ntmps31
    go_wp2_with (go_at_call 65; refine (HJ.out).mono ?_; rintro e w1 ⟨n, rfl, hn0, hO1⟩; have HO1 := hidOf hO1; clear hO1)
    go_ret
    exact ⟨by simp [hn0], HO1.out⟩
def OwV (B : Nat) (v : Value) (L : List SV) (w : World) : Prop := w.ownsRow B 60 8 v L.length (svV L)
set_option maxRecDepth 8000 in
theorem cloneV_any (B : Nat) (a : Option Addr) (c : Nat) (L : List SV) (w : World) (h : ScAt B w a L) (hl : L.length ≤ 1000) :
    Calls Try.prog 33 #[.slice a L.length c] w fun e w' => ∃ a' c', e = .returned (.slice a' L.length c') ∧ OwV w.heap.size (.slice a' L.length c') L w' ∧ Out w w' := by
  obtain ⟨i0, hi, hz0, hz1, hz2⟩ := info_parts infoSc
  cases a with
  | none =>
    obtain rfl : L = [] := by
      rcases h with h | ⟨b, off, _, h, _⟩
      · exact h
      · cases h
    have hq := fun w : World => Lib.run_eql_slice_nil (P := Try.prog) w 24 60 none 0 c 0 0 Try.underlying24
    simp only [List.length_nil]
    go_enter Try.func33, Try.ntmps33
    go_wp2
    go_ret
    exact ⟨none, 0, rfl, World.ownsRow_nil _ _ _ _, Out.refl _⟩
  | some ad =>
    have H : Hid (∀ j u, (svV L)[j]? = some u → w.cell? (ad.add j) = some u) := by
      intro j u hu
      rcases h with rfl | ⟨b, off, _, h, hc⟩
      · simp [svV] at hu
      · cases h
        rw [WideShapes.add_plain]
        exact hc j u hu
    have hq := fun w : World => Lib.run_eql_slice_nil (P := Try.prog) w 24 60 (some ad) L.length c 0 0 Try.underlying24
    clear h
    have HO : Hid ((w.alloc (.cells #[] 60)).ownsRow w.heap.size 60 8 (.slice (some ⟨w.heap.size, 0, none⟩) 0 0) 0 []) := own_mk (n := 0) (heap_alloc_new w _) (Nat.le_refl _) rfl (by omega)
    have Ho := hidOf ((Out.refl w).alloc (.cells #[] 60))
    go_enter Try.func33, Try.ntmps33
    go_wp2_with (at_builtin; refine wpList_append_own _ rfl (.tmp 5) (.tmp 6) 24 rfl w.heap.size 60 i0 _ 8 88 Try.underlying24 hi hz0 hz1 hz2 rfl (by decide) (.slice (some ⟨w.heap.size, 0, none⟩) 0 0) 0 [] rfl HO.out ad L.length c (svV L) rfl (svV_len L) (fun j u hu => cell_later Ho.out (H.out j u hu)) (svV_one L) (by unfold maxLen; omega) (by omega) (by rw [size_alloc]; omega) ?_; intro v4 w4 hown4 hgrow4 _; have HO4 := hidOf hown4; have Hg4 := hidOf hgrow4; clear hgrow4; obtain ⟨a4, c4, rfl⟩ := own_form hown4; clear hown4)
    go_ret
    refine ⟨a4, c4, rfl, ?_, out_rowN Ho.out HO.out Hg4.out⟩
    have h4 := HO4.out
    rw [Nat.zero_add, List.nil_append] at h4
    exact h4
end Go.Proofs.Ytcalbhcgimipeaa
