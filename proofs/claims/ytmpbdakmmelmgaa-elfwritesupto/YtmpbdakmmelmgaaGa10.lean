import Derived.Test.YtmpbdakmmelmgaaGa09
import Derived.Lib.MinMax
import Derived.Lib.SliceRun
namespace Go.Proofs.Ytmpbdakmmelmgaa
open Go.RowKit
set_option linter.unusedVariables false
set_option linter.unusedSimpArgs false
/-- a section -/
structure Sec where
  nm : List UInt8
  ty : Int
  fl : Int
  li : Int
  inf : Int
  al : Int
  es : Int
  d : List UInt8
/-- a section as it lies: where its data are -/
structure SV where
  s : Sec
  da : Option Addr
  dc : Nat
def SV.cs (x : SV) : List Value := [.string ⟨x.s.nm.toArray⟩, .int .i64 x.s.ty, .int .i64 x.s.fl, .int .i64 x.s.li, .int .i64 x.s.inf, .int .i64 x.s.al, .int .i64 x.s.es, .slice x.da x.s.d.length x.dc]
def svV (l : List SV) : List Value := l.flatMap SV.cs
theorem svV_len (l : List SV) : (svV l).length = l.length * 8 := by
  induction l with
  | nil => rfl
  | cons x r ih => show (x.cs ++ svV r).length = _; rw [List.length_append, ih]; simp [SV.cs]; omega
theorem svV_app (l m : List SV) : svV (l ++ m) = svV l ++ svV m := by simp [svV, List.flatMap_append]
theorem svV_one (l : List SV) : ∀ u ∈ svV l, u.oneCell' = true := by
  intro u hu
  simp only [svV, List.mem_flatMap] at hu
  obtain ⟨x, _, hx⟩ := hu
  simp [SV.cs] at hx
  rcases hx with rfl | rfl | rfl | rfl | rfl | rfl | rfl | rfl <;> rfl
theorem svV_get : ∀ (l : List SV) (i : Nat) (x : SV) (j : Nat), l[i]? = some x → j < 8 → (svV l)[i * 8 + j]? = x.cs[j]?
  | [], i, x, j, h, _ => by simp at h
  | y :: r, 0, x, j, h, hj => by
    simp at h; subst h
    show (y.cs ++ svV r)[0 * 8 + j]? = _
    rw [List.getElem?_append_left (by simp [SV.cs]; omega)]; simp
  | y :: r, i + 1, x, j, h, hj => by
    show (y.cs ++ svV r)[(i + 1) * 8 + j]? = _
    rw [List.getElem?_append_right (by simp [SV.cs]; omega), ← svV_get r i x j (by simpa using h) hj]
    congr 1
    simp [SV.cs]; omega
theorem infoSc : (Try.prog.info? 52).map (fun i => (i.zero, i.size, i.bytes)) = some (some (.agg #[.string ⟨#[]⟩, .int .i64 0, .int .i64 0, .int .i64 0, .int .i64 0, .int .i64 0, .int .i64 0, .slice none 0 0]), 8, 88) := by kernel_rfl
/-- sections at an address, by their cells -/
def ScAt (B : Nat) (w : World) (a : Option Addr) (L : List SV) : Prop := L = [] ∨ ∃ b off, b < B ∧ a = some ⟨b, off, none⟩ ∧ ∀ k u, (svV L)[k]? = some u → w.cell? ⟨b, off + k, none⟩ = some u
theorem ScAt.below {B : Nat} {w w' : World} {a : Option Addr} {L : List SV} (h : ScAt B w a L) (b : Below B w w') : ScAt B w' a L := by
  rcases h with h | ⟨g, o, hg, ha, hc⟩
  · exact .inl h
  · exact .inr ⟨g, o, hg, ha, fun k x hx => (Below.cell b hg).trans (hc k x hx)⟩
structure Cells8 (w : World) (b off : Nat) (x : SV) : Prop where
  c0 : w.cell? ⟨b, off, none⟩ = some (.string ⟨x.s.nm.toArray⟩)
  c1 : w.cell? ⟨b, off + 1, none⟩ = some (.int .i64 x.s.ty)
  c2 : w.cell? ⟨b, off + 2, none⟩ = some (.int .i64 x.s.fl)
  c3 : w.cell? ⟨b, off + 3, none⟩ = some (.int .i64 x.s.li)
  c4 : w.cell? ⟨b, off + 4, none⟩ = some (.int .i64 x.s.inf)
  c5 : w.cell? ⟨b, off + 5, none⟩ = some (.int .i64 x.s.al)
  c6 : w.cell? ⟨b, off + 6, none⟩ = some (.int .i64 x.s.es)
  c7 : w.cell? ⟨b, off + 7, none⟩ = some (.slice x.da x.s.d.length x.dc)
theorem cells8_of {w : World} {b off : Nat} {L : List SV} {i : Nat} {x : SV} (hc : ∀ k u, (svV L)[k]? = some u → w.cell? ⟨b, off + k, none⟩ = some u) (hx : L[i]? = some x) : Cells8 w b (off + i * 8) x := by
  have key : ∀ j, j < 8 → w.cell? ⟨b, off + i * 8 + j, none⟩ = x.cs[j]? := fun j hj => by
    have hlt : j < x.cs.length := by simpa [SV.cs] using hj
    rw [Nat.add_assoc, hc (i * 8 + j) (x.cs[j]'hlt) (by rw [svV_get L i x j hx hj, List.getElem?_eq_getElem hlt]), List.getElem?_eq_getElem hlt]
  exact ⟨key 0 (by omega), key 1 (by omega), key 2 (by omega), key 3 (by omega), key 4 (by omega), key 5 (by omega), key 6 (by omega), key 7 (by omega)⟩
theorem ScAt.get {B : Nat} {w : World} {a : Option Addr} {L : List SV} (h : ScAt B w a L) {i : Nat} {x : SV} (hx : L[i]? = some x) : ∃ b off, a = some ⟨b, off, none⟩ ∧ b < B ∧ Cells8 w b (off + i * 8) x := by
  rcases h with rfl | ⟨g, o, hg, ha, hc⟩
  · simp at hx
  · exact ⟨g, o, ha, hg, cells8_of hc hx⟩
def badP (s : Sec) : Bool := decide (s.ty < 0 ∨ s.fl < 0 ∨ s.li < 0 ∨ s.inf < 0 ∨ s.al < 0 ∨ s.es < 0 ∨ 4294967295 < s.ty ∨ 4294967295 < s.li ∨ 4294967295 < s.inf)
theorem min_eq2 (x y : Int) : (if y < x then y else x) = min x y := by
  rw [Int.min_def]
  split <;> split <;> omega
theorem max_eq2 (x y : Int) : (if y > x then y else x) = max x y := by
  rw [Int.max_def]
  split <;> split <;> omega
theorem run_min6 (w : World) (ts : Array TypeId) (t : TypeId) (a b c d e f : Int) : (Builtin.min_ ts t #[.int .i64 a, .int .i64 b, .int .i64 c, .int .i64 d, .int .i64 e, .int .i64 f]).run Try.prog w = .ok (.int .i64 (min (min (min (min (min a b) c) d) e) f)) w := by
  simp [Builtin.min_, Builtin.min2, min_eq2]
theorem run_max3 (w : World) (ts : Array TypeId) (t : TypeId) (a b c : Int) : (Builtin.max_ ts t #[.int .i64 a, .int .i64 b, .int .i64 c]).run Try.prog w = .ok (.int .i64 (max (max a b) c)) w := by
  simp [Builtin.max_, Builtin.max2, max_eq2]
set_option maxRecDepth 8000 in
set_option maxHeartbeats 4000000 in
theorem wrong_any (x : SV) (w : World) : Calls Try.prog 32 #[.agg #[.string ⟨x.s.nm.toArray⟩, .int .i64 x.s.ty, .int .i64 x.s.fl, .int .i64 x.s.li, .int .i64 x.s.inf, .int .i64 x.s.al, .int .i64 x.s.es, .slice x.da x.s.d.length x.dc]] w fun e w' => e = .returned (.bool (badP x.s)) ∧ Out w w' := by
  obtain ⟨⟨nm, ty, fl, li, inf, al, es, d⟩, da, dc⟩ := x
  obtain ⟨m, hm⟩ : ∃ m, m = min (min (min (min (min ty fl) li) inf) al) es := ⟨_, rfl⟩
  obtain ⟨M, hM⟩ : ∃ m, m = max (max ty li) inf := ⟨_, rfl⟩
  have h1 := fun w => run_min6 w #[3, 3, 3, 3, 3, 3] 3 ty fl li inf al es
  have h2 := fun w => run_max3 w #[3, 3, 3] 3 ty li inf
  rw [← hm] at h1
  rw [← hM] at h2
  have hb : badP ⟨nm, ty, fl, li, inf, al, es, d⟩ = decide (m < 0 ∨ 4294967295 < M) := by
    unfold badP
    congr 1
    simp only [eq_iff_iff]
    omega
  show Calls _ _ _ _ (fun e w' => e = .returned (.bool (badP ⟨nm, ty, fl, li, inf, al, es, d⟩)) ∧ Out w w')
  rw [hb]
  clear hm hM hb
  have Ho := hidOf ((Out.refl w).alloc (.cells #[.string ⟨nm.toArray⟩, .int .i64 ty, .int .i64 fl, .int .i64 li, .int .i64 inf, .int .i64 al, .int .i64 es, .slice da d.length dc] 52))
  by_cases hm0 : m < 0
  · go_enter Try.func32, Try.ntmps32
    go_wp2
    all_goals (go_ret; exact ⟨by simp [hm0], by first | exact Ho.out | exact Ho.out.drew⟩)
  · by_cases hM0 : 4294967295 < M
    · go_enter Try.func32, Try.ntmps32
      go_wp2
      all_goals (go_ret; exact ⟨by simp [hM0], by first | exact Ho.out | exact Ho.out.drew⟩)
    · go_enter Try.func32, Try.ntmps32
      go_wp2
      all_goals (go_ret; exact ⟨by simp [hm0, hM0], by first | exact Ho.out | exact Ho.out.drew⟩)
set_option maxRecDepth 8000 in
set_option maxHeartbeats 4000000 in
theorem index_any (B : Nat) (a : Option Addr) (c : Nat) (L : List SV) (w : World) (h : ScAt B w a L) (hB : B ≤ w.heap.size) (hc : L.length ≤ c) (hl : L.length ≤ 1000) :
    Calls Try.prog 69 #[.slice a L.length c, .func (.func 32) #[] #[]] w fun e w' => (∃ n : Int, e = .returned (.int .i64 n) ∧ (0 ≤ n ↔ L.any (fun x => badP x.s) = true)) ∧ Out w w' := by
  have H := hidOf h
  have hcI : (L.length : Int) ≤ c := by omega
  have hlI : (L.length : Int) ≤ 1000 := by omega
  clear h
  go_enter Try.func69, Try.ntmps69
  go_wp2
  go_loopw [8] (fun iv wr => ∃ i : Nat, iv = .int .i64 i ∧ i ≤ L.length ∧ Hid ((L.take i).any (fun x => badP x.s) = false) ∧ Hid (Out w wr)) (fun iv _ => L.length - (intOf iv).toNat)
  case atStart => exact ⟨0, rfl, by omega, rfl, Out.refl _⟩
  case round =>
    obtain ⟨i, rfl, hi, HA, Ho⟩ := hrel
    by_cases hiL : i < L.length
    · have hlt : (i : Int) < L.length := by omega
      have h0 : (0 : Int) ≤ i := by omega
      obtain ⟨x, hx⟩ : ∃ x, L[i]? = some x := ⟨_, List.getElem?_eq_getElem hiL⟩
      obtain ⟨b, off, rfl, hb, hc8⟩ := (H.out.below (Below.mono Ho.out hB)).get hx
      obtain ⟨d0, d1, d2, d3, d4, d5, d6, d7⟩ := hc8
      have Hst := hidOf (take_snoc hx)
      have Hm := hidOf (List.mem_of_getElem? hx)
      have CW := hidOf (wrong_any x wr)
      clear hx
      cases hbad : badP x.s
      · rw [hbad] at CW
        go_wp2_with (go_at_call 32; refine (CW.out).mono ?_; rintro e w1 ⟨rfl, hO1⟩; have HO1 := hidOf hO1; clear hO1)
        refine ⟨⟨i + 1, by simp, by omega, ?_, Ho.out.trans HO1.out⟩, by simp [intOf]; omega⟩
        show _ = _
        rw [Hst.out, List.any_append, HA.out]
        simp [hbad]
      · rw [hbad] at CW
        go_wp2_with (go_at_call 32; refine (CW.out).mono ?_; rintro e w1 ⟨rfl, hO1⟩; have HO1 := hidOf hO1; clear hO1)
        go_ret
        refine ⟨⟨i, rfl, ⟨fun _ => ?_, fun _ => by omega⟩⟩, Ho.out.trans HO1.out⟩
        rw [List.any_eq_true]
        exact ⟨x, Hm.out, hbad⟩
    · have hlt : ¬ (i : Int) < L.length := by omega
      obtain rfl : i = L.length := by omega
      rw [List.take_length] at HA
      go_wp2
      go_ret
      refine ⟨⟨-1, rfl, ?_⟩, Ho.out⟩
      have hA := HA.out
      simp at hA ⊢
      exact hA
theorem contains_any (B : Nat) (a : Option Addr) (c : Nat) (L : List SV) (w : World) (h : ScAt B w a L) (hB : B ≤ w.heap.size) (hc : L.length ≤ c) (hl : L.length ≤ 1000) :
    Calls Try.prog 31 #[.slice a L.length c, .func (.func 32) #[] #[]] w fun e w' => e = .returned (.bool (L.any (fun x => badP x.s))) ∧ Out w w' := by
  have HI := hidOf (index_any B a c L w h hB hc hl)
  clear h
  cases hb : L.any (fun x => badP x.s)
  · have HJ : Hid (Calls Try.prog 69 #[.slice a L.length c, .func (.func 32) #[] #[]] w fun e w' => ∃ n : Int, e = .returned (.int .i64 n) ∧ ¬ (0 ≤ n) ∧ Out w w') := by
      refine (HI.out).mono ?_
      rintro e w1 ⟨⟨n, rfl, hn⟩, hO1⟩
      rw [hb] at hn
      exact ⟨n, rfl, by simpa using hn, hO1⟩
    clear HI
    go_enter Try.func31, Try.ntmps31
    go_wp2_with (go_at_call 69; refine (HJ.out).mono ?_; rintro e w1 ⟨n, rfl, hn0, hO1⟩; have HO1 := hidOf hO1; clear hO1)
    go_ret
    exact ⟨by simp [hn0], HO1.out⟩
  · have HJ : Hid (Calls Try.prog 69 #[.slice a L.length c, .func (.func 32) #[] #[]] w fun e w' => ∃ n : Int, e = .returned (.int .i64 n) ∧ 0 ≤ n ∧ Out w w') := by
      refine (HI.out).mono ?_
      rintro e w1 ⟨⟨n, rfl, hn⟩, hO1⟩
      rw [hb] at hn
      exact ⟨n, rfl, by simpa using hn, hO1⟩
    clear HI
    go_enter Try.func31, Try.ntmps31
    go_wp2_with (go_at_call 69; refine (HJ.out).mono ?_; rintro e w1 ⟨n, rfl, hn0, hO1⟩; have HO1 := hidOf hO1; clear hO1)
    go_ret
    exact ⟨by simp [hn0], HO1.out⟩
def OwV (B : Nat) (v : Value) (L : List SV) (w : World) : Prop := w.ownsRow B 52 8 v L.length (svV L)
set_option maxRecDepth 8000 in
theorem cloneV_any (B : Nat) (a : Option Addr) (c : Nat) (L : List SV) (w : World) (h : ScAt B w a L) (hl : L.length ≤ 1000) :
    Calls Try.prog 33 #[.slice a L.length c] w fun e w' => ∃ a' c', e = .returned (.slice a' L.length c') ∧ OwV w.heap.size (.slice a' L.length c') L w' ∧ Out w w' := by
  obtain ⟨i0, hi, hz0, hz1, hz2⟩ := info_parts infoSc
  cases a with
  | none =>
    obtain rfl : L = [] := by
      rcases h with h | ⟨b, off, _, h, _⟩
      · exact h
      · cases h
    have hq := fun w : World => Lib.run_eql_slice_nil (P := Try.prog) w 24 52 none 0 c 0 0 Try.underlying24
    simp only [List.length_nil]
    go_enter Try.func33, Try.ntmps33
    go_wp2
    go_ret
    exact ⟨none, 0, rfl, World.ownsRow_nil _ _ _ _, Out.refl _⟩
  | some ad =>
    have H : Hid (∀ j u, (svV L)[j]? = some u → w.cell? (ad.add j) = some u) := by
      intro j u hu
      rcases h with rfl | ⟨b, off, _, h, hc⟩
      · simp [svV] at hu
      · cases h
        rw [WideShapes.add_plain]
        exact hc j u hu
    have hq := fun w : World => Lib.run_eql_slice_nil (P := Try.prog) w 24 52 (some ad) L.length c 0 0 Try.underlying24
    clear h
    have HO : Hid ((w.alloc (.cells #[] 52)).ownsRow w.heap.size 52 8 (.slice (some ⟨w.heap.size, 0, none⟩) 0 0) 0 []) := own_mk (n := 0) (heap_alloc_new w _) (Nat.le_refl _) rfl (by omega)
    have Ho := hidOf ((Out.refl w).alloc (.cells #[] 52))
    go_enter Try.func33, Try.ntmps33
    go_wp2_with (at_builtin; refine wpList_append_own _ rfl (.tmp 5) (.tmp 6) 24 rfl w.heap.size 52 i0 _ 8 88 Try.underlying24 hi hz0 hz1 hz2 rfl (by decide) (.slice (some ⟨w.heap.size, 0, none⟩) 0 0) 0 [] rfl HO.out ad L.length c (svV L) rfl (svV_len L) (fun j u hu => cell_later Ho.out (H.out j u hu)) (svV_one L) (by unfold maxLen; omega) (by omega) (by rw [size_alloc]; omega) ?_; intro v4 w4 hown4 hgrow4 _; have HO4 := hidOf hown4; have Hg4 := hidOf hgrow4; clear hgrow4; obtain ⟨a4, c4, rfl⟩ := own_form hown4; clear hown4)
    go_ret
    refine ⟨a4, c4, rfl, ?_, out_rowN Ho.out HO.out Hg4.out⟩
    have h4 := HO4.out
    rw [Nat.zero_add, List.nil_append] at h4
    exact h4
end Go.Proofs.Ytmpbdakmmelmgaa
namespace Go.Proofs.Ytmpbdakmmelmgaa
open Go.RowKit
open Go.Maps (Keyed)
set_option linter.unusedVariables false
set_option linter.unusedSimpArgs false
theorem plF_keep {N : List (List UInt8)} {x y : List UInt8} (h : x ∈ N) : plF 1 (N ++ [y]) x = plF 1 N x := by rw [plF_snoc, if_pos h]
theorem plF_new {N : List (List UInt8)} {x : List UInt8} (h : ¬ x ∈ N) : plF 1 (N ++ [x]) x = szF 1 N := by rw [plF_snoc, if_neg h, if_pos rfl]
/-- the names behind Add -/
def addN (N : List (List UInt8)) (x : List UInt8) : List (List UInt8) := if x ∈ N then N else N ++ [x]
theorem addN_mem (N : List (List UInt8)) (x : List UInt8) : x ∈ addN N x := by unfold addN; split <;> simp_all
theorem addN_sub {N : List (List UInt8)} {x y : List UInt8} (h : y ∈ N) : y ∈ addN N x := by unfold addN; split <;> simp_all
theorem addN_pl {N : List (List UInt8)} {x y : List UInt8} (h : y ∈ N) : plF 1 (addN N x) y = plF 1 N y := by
  unfold addN
  split
  · rfl
  · exact plF_keep h
theorem addN_ok {N : List (List UInt8)} {x : List UInt8} (hd : N.Nodup) (hn : ∀ y ∈ N, nameOk y = true) (hx : nameOk x = true) : (addN N x).Nodup ∧ ∀ y ∈ addN N x, nameOk y = true := by
  unfold addN
  split
  · exact ⟨hd, hn⟩
  · rename_i h
    refine ⟨by rw [List.nodup_append]; exact ⟨hd, by simp, fun a ha b hb e => h (by simp at hb; rw [hb] at e; rw [← e]; exact ha)⟩, fun y hy => ?_⟩
    rcases List.mem_append.1 hy with hy | hy
    · exact hn y hy
    · simp at hy; rw [hy]; exact hx
theorem addN_sz (N : List (List UInt8)) (x : List UInt8) : szF 1 (addN N x) ≤ szF 1 N + x.length + 1 := by
  unfold addN
  split
  · omega
  · rw [szF_snoc]; omega
/-- Add of a name -/
theorem add_any (p : Nat) (x : List UInt8) (w : World) (N : List (List UInt8)) (F : Nat → Prop) (h : Tab p w N F) (hx : nameOk x = true) (hb : szF 1 N ≤ 1000000000000) (hlt : ∀ k, F k → k < w.heap.size) : Calls Try.prog 71 #[.pointer (some ⟨p, 0, none⟩), .string ⟨x.toArray⟩] w fun e w' => e = .returned (.tuple #[.int .i64 (plF 1 (addN N x) x : Nat), .int .i64 0]) ∧ Tab p w' (addN N x) (FN F w w') ∧ Chg F w w' := by
  by_cases hm : x ∈ N
  · have e : addN N x = N := by unfold addN; rw [if_pos hm]
    rw [e]
    refine (add_old p x w N F h hx hm).mono ?_
    rintro e w' ⟨rfl, rfl⟩
    exact ⟨rfl, h.mono (fun k hk => .inl hk), Chg.refl _ _⟩
  · have e : addN N x = N ++ [x] := by unfold addN; rw [if_neg hm]
    rw [e, plF_new hm]
    exact add_new p x w N F h hx hm hb
theorem FN_lt {F : Nat → Prop} {w w' : World} (hlt : ∀ k, F k → k < w.heap.size) (hs : w.heap.size ≤ w'.heap.size) : ∀ k, FN F w w' k → k < w'.heap.size := fun k hk => by
  rcases hk with h | h
  · have := hlt k h; omega
  · exact h.2
theorem snoc_ind {α : Type} {P : List α → Prop} (h0 : P []) (hs : ∀ l x, P l → P (l ++ [x])) : ∀ l, P l := by
  have key : ∀ n (l : List α), l.length = n → P l := by
    intro n
    induction n with
    | zero => intro l hl; rw [List.length_eq_zero_iff.1 hl]; exact h0
    | succ n ih =>
      intro l hl
      rcases list_cases l with rfl | ⟨M, x, rfl⟩
      · simp at hl
      · exact hs M x (ih M (by simpa using hl))
  exact fun l => key _ l rfl
def namesF (K : List (List UInt8)) : List (List UInt8) := K.foldl addN []
theorem namesF_snoc (K : List (List UInt8)) (x : List UInt8) : namesF (K ++ [x]) = addN (namesF K) x := by simp [namesF]
theorem namesF_ok (K : List (List UInt8)) (h : ∀ x ∈ K, nameOk x = true) : (namesF K).Nodup ∧ (∀ x ∈ namesF K, nameOk x = true) ∧ (∀ x ∈ K, x ∈ namesF K) ∧ szF 1 (namesF K) ≤ 1 + 65 * K.length := by
  revert h
  refine snoc_ind (P := fun K => (∀ x ∈ K, nameOk x = true) → (namesF K).Nodup ∧ (∀ x ∈ namesF K, nameOk x = true) ∧ (∀ x ∈ K, x ∈ namesF K) ∧ szF 1 (namesF K) ≤ 1 + 65 * K.length) ?_ ?_ K
  · exact fun _ => ⟨by simp [namesF], by simp [namesF], by simp, by simp [namesF, szF]⟩
  · intro K x ih h
    obtain ⟨a, b, c, d⟩ := ih (fun y hy => h y (by simp [hy]))
    have hx := h x (by simp)
    rw [namesF_snoc]
    obtain ⟨a1, a2⟩ := addN_ok a b hx
    refine ⟨a1, a2, ?_, ?_⟩
    · intro y hy
      rcases List.mem_append.1 hy with hy | hy
      · exact addN_sub (c y hy)
      · simp at hy; rw [hy]; exact addN_mem _ _
    · have h1 := addN_sz (namesF K) x
      have h2 : x.length ≤ 64 := by simp [nameOk] at hx; exact hx.1.2
      simp only [List.length_append, List.length_singleton]
      omega
theorem namesF_pl (K M : List (List UInt8)) {x : List UInt8} (h : x ∈ namesF K) : plF 1 (namesF (K ++ M)) x = plF 1 (namesF K) x := by
  refine snoc_ind (P := fun M => plF 1 (namesF (K ++ M)) x = plF 1 (namesF K) x) ?_ ?_ M
  · simp
  · intro M y ih
    rw [← List.append_assoc, namesF_snoc]
    have : ∀ M : List (List UInt8), x ∈ namesF (K ++ M) := by
      intro M
      refine snoc_ind (P := fun M => x ∈ namesF (K ++ M)) ?_ ?_ M
      · simpa using h
      · intro M y ih
        rw [← List.append_assoc, namesF_snoc]; exact addN_sub ih
    rw [addN_pl (this M), ih]
/-- a row of ints that is a block -/
def RowI (w : World) (g : Nat) (zs : List Int) : Prop := w.heap[g]? = some (.cells (zs.map (Value.int .i64)).toArray 3 (0, 0))
theorem RowI.lt {w : World} {g : Nat} {zs : List Int} (h : RowI w g zs) : g < w.heap.size := (Array.getElem?_eq_some_iff.1 h).1
theorem RowI.set {w : World} {g : Nat} {zs : List Int} (h : RowI w g zs) (k : Nat) (z : Int) : RowI (w.setCell ⟨g, k, none⟩ (.int .i64 z)) g (zs.set k z) := by
  unfold RowI
  rw [show (w.setCell ⟨g, k, none⟩ (.int .i64 z)).heap[g]? = some (.cells ((zs.map (Value.int .i64)).toArray.setIfInBounds k (.int .i64 z)) 3 (0, 0)) by simp [World.setCell, Array.getElem?_modify, show w.heap[g]? = _ from h]]
  simp [List.map_set]
theorem RowI.own {w : World} {g B : Nat} {zs : List Int} (h : RowI w g zs) (hB : B ≤ g) (hl : zs.length ≤ 1000000000000) : OwI B (.slice (some ⟨g, 0, none⟩) zs.length zs.length) zs w := by
  have := own_mk (sz := 1) (n := zs.length) h hB (by simp) hl
  simpa [OwI] using this
theorem set_pl (A : List Int) (m : Nat) (z : Int) (h : 0 < m) : (A ++ List.replicate m 0).set A.length z = A ++ [z] ++ List.replicate (m - 1) 0 := by
  obtain ⟨m, rfl⟩ : ∃ k, m = k + 1 := ⟨m - 1, by omega⟩
  simp [List.set_append, List.replicate_succ]
/-- the state of addNames -/
structure AN (w0 wr : World) (p g n : Nat) (K : List (List UInt8)) (F : Nat → Prop) : Prop where
  tab : Tab p wr (namesF K) F
  lt : ∀ k, F k → k < wr.heap.size
  ge : ∀ k, F k → w0.heap.size ≤ k
  row : RowI wr g (K.map (fun x => (plF 1 (namesF K) x : Int)) ++ List.replicate (n - K.length) 0)
  gge : w0.heap.size ≤ g
  gF : ¬ F g
  ok : ∀ x ∈ K, nameOk x = true
  out : Out w0 wr
theorem AN.on {w0 wr w' : World} {p g n : Nat} {K : List (List UInt8)} {F : Nat → Prop} (h : AN w0 wr p g n K F) (o : Out wr w') : AN w0 w' p g n K F :=
  ⟨h.tab.out o, fun k hk => Nat.lt_of_lt_of_le (h.lt k hk) o.size, h.ge, (o.block g h.row.lt).trans h.row, h.gge, h.gF, h.ok, h.out.trans o⟩
theorem AN.add {w0 wr w' : World} {p g n : Nat} {K : List (List UInt8)} {F : Nat → Prop} {x : List UInt8} (h : AN w0 wr p g n K F) (hx : nameOk x = true) (hn : K.length < n) (ht : Tab p w' (addN (namesF K) x) (FN F wr w')) (hc : Chg F wr w') :
    AN w0 (w'.setCell ⟨g, K.length, none⟩ (.int .i64 (plF 1 (addN (namesF K) x) x : Nat))) p g n (K ++ [x]) (FN F wr w') := by
  have hg : w'.heap[g]? = wr.heap[g]? := hc.block g h.row.lt h.gF
  have hr : RowI w' g (K.map (fun x => (plF 1 (namesF K) x : Int)) ++ List.replicate (n - K.length) 0) := hg.trans h.row
  have hgn : ¬ FN F wr w' g := by
    rintro (hf | hf)
    · exact h.gF hf
    · have := h.row.lt; omega
  have c2 : Chg (fun k => k = g) w' (w'.setCell ⟨g, K.length, none⟩ (.int .i64 (plF 1 (addN (namesF K) x) x : Nat))) := Chg.setCell (S := fun k => k = g) (Chg.refl _ w') (p := ⟨g, K.length, none⟩) rfl _
  have hsz : (w'.setCell ⟨g, K.length, none⟩ (.int .i64 (plF 1 (addN (namesF K) x) x : Nat))).heap.size = w'.heap.size := by simp [World.setCell]
  have hok : ∀ y ∈ K ++ [x], nameOk y = true := by
    intro y hy
    rcases List.mem_append.1 hy with hy | hy
    · exact h.ok y hy
    · simp at hy; rw [hy]; exact hx
  refine ⟨?_, ?_, ?_, ?_, h.gge, hgn, hok, ?_⟩
  · rw [namesF_snoc]
    exact ht.chg c2 (fun k hk e => hgn (by rw [← e]; exact hk))
  · intro k hk
    rw [hsz]
    exact FN_lt h.lt hc.size k hk
  · rintro k (hf | hf)
    · exact h.ge k hf
    · exact Nat.le_trans h.out.size hf.1
  · have h2 := hr.set K.length (plF 1 (addN (namesF K) x) x : Nat)
    have e : (K.map (fun x => (plF 1 (namesF K) x : Int)) ++ List.replicate (n - K.length) 0).set K.length (plF 1 (addN (namesF K) x) x : Nat) = (K ++ [x]).map (fun y => (plF 1 (namesF (K ++ [x])) y : Int)) ++ List.replicate (n - (K ++ [x]).length) 0 := by
      have e1 := set_pl (K.map (fun x => (plF 1 (namesF K) x : Int))) (n - K.length) (plF 1 (addN (namesF K) x) x : Nat) (by omega)
      rw [List.length_map] at e1
      rw [e1, List.map_append, namesF_snoc]
      congr 1
      · congr 1
        exact List.map_congr_left (fun y hy => by rw [addN_pl ((namesF_ok K h.ok).2.2.1 y hy)])
      · congr 1
        simp; omega
    rw [e] at h2
    exact h2
  · exact Chg.out ((hc.mono (T := fun k => F k ∨ k = g) (fun k hk _ => .inl hk)).trans c2 (fun k hk _ => .inr hk)) h.out (fun k hk => by
      rcases hk with hk | hk
      · exact h.ge k hk
      · rw [hk]; exact h.gge)
theorem run_make_in (n : Nat) (hn : n ≤ 1000000000) (w : World) : (Instr.makeSlice 29 (.int .i64 (n : Int)) (.int .i64 (n : Int))).run Try.prog w = .ok (.slice (some ⟨w.heap.size, 0, none⟩) n n) (w.alloc (.cells ((List.replicate n (0 : Int)).map (Value.int .i64)).toArray 3)) := by
  obtain ⟨i0, hi, hz0, hz1, hz2⟩ := info_parts infoInt
  have h := run_make (P := Try.prog) w 29 3 i0 _ Try.underlying29 hi hz0 .i64 .i64 (n : Int) (n : Int) (by omega) (Int.le_refl _) (by rw [hz2]; omega) (by omega)
  rw [hz1, Nat.mul_one] at h
  have e : madeCells (Value.cells (.int .i64 0)) n = ((List.replicate n (0 : Int)).map (Value.int .i64)).toArray := by
    apply Array.ext_getElem?
    intro j
    simp [madeCells, Value.cells, List.getElem?_replicate]
    by_cases hj : j < n
    · simp [hj, Nat.mod_one]
    · simp [hj]
  simp only [Int.toNat_natCast] at h
  rw [e] at h
  exact h
end Go.Proofs.Ytmpbdakmmelmgaa
