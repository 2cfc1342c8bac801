import Derived.Test.YthififblejbleaaGreatDoorHy03
import Derived.Shelf.Strings.SlTrimAscii
namespace Go.Proofs.YthififblejbleaaGreatDoor
open Go.RowKit
set_option linter.unusedVariables false
set_option linter.unusedSimpArgs false
def startP (l : List UInt8) : Bool := match l with | [] => false | c :: _ => kindP (bI c) == 3
def wordP (l : List UInt8) : Bool := decide (l.length ≤ 64) && startP l && l.all runU
structure Ins where
  o : Int
  d : Int
  s : Int
  f : Int
  i : Int
def isW (o : Int) : Bool := o == 24
def slotsP (l : List Ins) : Nat := l.length + (l.filter (fun x => isW x.o)).length
structure Fn where
  nm : List UInt8
  ob : Int
  fi : Int
  ct : Int
structure Td where
  nm : List UInt8
  kd : Int
  ky : Int
  vl : Int
  en : Int
structure Img where
  T : List Ins
  F : List Fn
  D : List Td
  en : Int
def fstB (p : Nat → Bool) (n : Nat) : Option Nat := (List.range n).find? p
theorem fstB_none {p : Nat → Bool} {n : Nat} (h : ∀ j, j < n → p j = false) : fstB p n = none := by
  simp only [fstB, List.find?_eq_none, List.mem_range]
  intro x hx; simp [h x hx]
theorem fstB_some {p : Nat → Bool} {n k : Nat} (hk : k < n) (h : ∀ j, j < k → p j = false) (hp : p k = true) : fstB p n = some k := by
  have hr : List.range n = List.range k ++ (List.range' k (n - k)) := by
    rw [List.range_eq_range', List.range_eq_range', show n = k + (n - k) by omega, ← List.range'_append_1]; simp
  rw [fstB, hr, List.find?_append, show (List.range k).find? p = none from fstB_none h]
  obtain ⟨m, hm⟩ : ∃ m, n - k = m + 1 := ⟨n - k - 1, by omega⟩
  rw [hm, List.range'_succ, List.find?_cons, hp]; rfl
theorem fstB_out {p : Nat → Bool} {n : Nat} (h : fstB p n = none) : ∀ j, j < n → p j = false := by
  simp only [fstB, List.find?_eq_none, List.mem_range] at h
  intro j hj; simpa using h j hj
theorem fstB_in {p : Nat → Bool} {n k : Nat} (h : fstB p n = some k) : k < n ∧ p k = true := by
  have h1 := List.mem_of_find?_eq_some h
  have h2 := List.find?_some h
  exact ⟨by simpa using h1, h2⟩
def cntP (m : Img) : Option Nat := if 1048576 < slotsP m.T then some 0 else if 4096 < m.F.length then some 1 else if 1024 < m.D.length then some 2 else none
def fnW (x : Fn) : Bool := wordP x.nm && decide (0 ≤ x.ob) && decide (x.ob < 64)
def fnB (F : List Fn) (k : Nat) : Bool := match F[k]? with | none => false | some x => (F.take k).any (fun y => y.nm == x.nm && y.ob == x.ob) || !fnW x
def ahN (D : List Td) (k : Nat) : List UInt8 := match k with | 0 => [] | j + 1 => match D[j]? with | none => [] | some x => x.nm
def leS (a b : List UInt8) : Bool := Op.bytesLess a b || a == b
def tdB (D : List Td) (k : Nat) : Bool := match D[k]? with | none => false | some x => !wordP x.nm || leS x.nm (ahN D k)
def namP (m : Img) : Option Nat := match fstB (fnB m.F) m.F.length with | some k => some k | none => (fstB (tdB m.D) m.D.length).map (m.F.length + ·)
def bgn : List Fn → Int | [] => 0 | x :: r => x.ct + bgn r
def fcB (T : List Ins) (F : List Fn) (k : Nat) : Bool := match F[k]? with | none => false | some x => x.fi != bgn (F.take k) || decide (x.ct < 1) || decide ((T.length : Int) - bgn (F.take k) < x.ct)
def funP (m : Img) : Option Nat := match fstB (fcB m.T m.F) m.F.length with | some k => some k | none => if bgn m.F < m.T.length then some m.F.length else none
def szT (x : Td) : Int := x.en * (x.ky + (x.vl + 7) / 8 * 8 + 8)
def mayT (x : Td) : Bool := (x.kd == 1 && x.ky == 4 || x.kd == 2 && decide (1 ≤ x.ky) && decide (x.ky ≤ 64)) && (decide (1 ≤ x.vl) && decide (x.vl ≤ 4096)) && (decide (1 ≤ x.en) && decide (x.en ≤ 65536)) && decide (szT x ≤ 16777216)
def roomP : List Td → Int | [] => 0 | x :: r => szT x + roomP r
def shB (D : List Td) (k : Nat) : Bool := match D[k]? with | none => false | some x => !mayT x
def tabP (m : Img) : Option Nat := match fstB (shB m.D) m.D.length with | some k => some k | none => if 67108864 < roomP m.D then some m.D.length else none
def entP (m : Img) : Option Nat := if m.en < 0 ∨ (m.F.length : Int) ≤ m.en then some 0 else none
def fitI (x : Ins) : Bool := (decide (0 ≤ x.o) && decide (x.o ≤ 255)) && (decide (0 ≤ x.d) && decide (x.d ≤ 15)) && (decide (0 ≤ x.s) && decide (x.s ≤ 15)) && (decide (-32768 ≤ x.f) && decide (x.f ≤ 32767)) && (isW x.o || (decide (-2147483648 ≤ x.i) && decide (x.i ≤ 2147483647)))
def inB (T : List Ins) (k : Nat) : Bool := match T[k]? with | none => false | some x => !fitI x
def insP (m : Img) : Option Nat := fstB (inB m.T) m.T.length
def ptE (r : Option Nat) (e : Int) (x : Nat × Int) : Nat × Int := match r with | some k => (k, e) | none => x
def ckP (m : Img) : Nat × Int :=
  ptE (cntP m) 171 (ptE (namP m) 172 (ptE (funP m) 173 (ptE (tabP m) 174 (ptE (entP m) 175 (ptE (insP m) 176 (0, 0))))))
theorem bgn_app (A B : List Fn) : bgn (A ++ B) = bgn A + bgn B := by
  induction A with
  | nil => simp [bgn]
  | cons x r ih => simp [bgn, ih]; omega
theorem bgn_take {F : List Fn} {k : Nat} {x : Fn} (h : F[k]? = some x) : bgn (F.take (k + 1)) = bgn (F.take k) + x.ct := by
  rw [List.take_add_one, h, bgn_app]; simp [bgn]
theorem room_app (A B : List Td) : roomP (A ++ B) = roomP A + roomP B := by
  induction A with
  | nil => simp [roomP]
  | cons x r ih => simp [roomP, ih]; omega
theorem room_take {F : List Td} {k : Nat} {x : Td} (h : F[k]? = some x) : roomP (F.take (k + 1)) = roomP (F.take k) + szT x := by
  rw [List.take_add_one, h, room_app]; simp [roomP]
theorem bgn_le (T : List Ins) (F : List Fn) : ∀ k, k ≤ F.length → (∀ j, j < k → fcB T F j = false) → 0 ≤ bgn (F.take k) ∧ bgn (F.take k) ≤ T.length ∧ (k : Int) ≤ bgn (F.take k)
  | 0, _, _ => by simp [bgn]
  | k + 1, hk, h => by
    obtain ⟨h0, h1, h2⟩ := bgn_le T F k (by omega) (fun j hj => h j (by omega))
    obtain ⟨x, hx⟩ : ∃ x, F[k]? = some x := ⟨_, List.getElem?_eq_getElem (by omega)⟩
    have hb := h k (by omega)
    simp only [fcB, hx, Bool.or_eq_false_iff, bne_eq_false_iff_eq, decide_eq_false_iff_not] at hb
    rw [bgn_take hx]; omega
theorem mayT_in {x : Td} (h : mayT x = true) : (x.kd = 1 ∧ x.ky = 4 ∨ x.kd = 2 ∧ 1 ≤ x.ky ∧ x.ky ≤ 64) ∧ 1 ≤ x.vl ∧ x.vl ≤ 4096 ∧ 1 ≤ x.en ∧ x.en ≤ 65536 ∧ szT x ≤ 16777216 := by
  simp only [mayT, Bool.and_eq_true, Bool.or_eq_true, beq_iff_eq, decide_eq_true_eq] at h
  obtain ⟨⟨⟨h1, h2, h3⟩, h4, h5⟩, h6⟩ := h
  exact ⟨h1.imp id (fun h => ⟨h.1.1, h.1.2, h.2⟩), h2, h3, h4, h5, h6⟩
theorem szT_pos {x : Td} (h : mayT x = true) : 0 ≤ szT x := by
  obtain ⟨h1, h2, h3, h4, h5, _⟩ := mayT_in h
  unfold szT
  exact Int.mul_nonneg (by omega) (by omega)
end Go.Proofs.YthififblejbleaaGreatDoor
namespace Go.Proofs.YthififblejbleaaGreatDoor
open Go.RowKit
open Go.Maps (Keyed)
set_option linter.unusedVariables false
set_option linter.unusedSimpArgs false
theorem byP_last (A : List (List UInt8)) : ∃ C, byP A = C ++ [0] := by
  rcases list_cases A with rfl | ⟨M, y, rfl⟩
  · exact ⟨[], rfl⟩
  · exact ⟨byP M ++ y, by rw [byP_snoc]⟩
theorem byP_app (A B : List (List UInt8)) : byP (A ++ B) = byP A ++ byF B := by simp [byP, byF]
theorem name_ne {x : List UInt8} (h : nameOk x = true) : ¬ x = [] := fun e => by rw [e] at h; cases h
theorem OwB.rest {B : Nat} {v : Value} {O : List UInt8} {w : World} (h : OwB B v O w) : ∃ a cp, v = .slice a O.length cp ∧ O.length ≤ cp ∧ RestAt w.heap.size w a O := by
  rcases h.2 with ⟨hv, hn⟩ | ⟨g, cap, cur, hv, hb, hg, hc, _⟩
  · exact ⟨none, 0, by rw [hv, hn], by omega, .inl (List.length_eq_zero_iff.1 hn)⟩
  · refine ⟨_, _, hv, hc, .inr ⟨g, 0, (Array.getElem?_eq_some_iff.1 hg).1, rfl, fun k x hx => ?_⟩⟩
    have h1 := World.ownsRow.cells h (g := g) (by rw [hv]; rfl) k (.int .u8 (x.toNat : Int)) (by simp [Lib.byteCells, hx])
    rw [Nat.zero_add, ← h1, Go.WideShapes.add_plain, Nat.zero_add]
theorem sameBytes_any {B B' : Nat} (a a' : Option Addr) (c c' : Nat) (l : List UInt8) (w : World) (h : RestAt B w a l) (h' : RestAt B' w a' l) : Calls Tryz.prog 9 #[.slice a l.length c, .slice a' l.length c'] w fun e w' => e = .returned (.bool true) ∧ w = w' := by
  have h1 := conv_rest h c
  have h2 := conv_rest h' c'
  go_enter Tryz.func9, Tryz.ntmps9
  go_wp2
  go_ret
  exact ret_bool (by simp)
theorem plF_keep {N : List (List UInt8)} {x y : List UInt8} (h : x ∈ N) : plF 1 (N ++ [y]) x = plF 1 N x := by rw [plF_snoc, if_pos h]
theorem plF_new {N : List (List UInt8)} {x : List UInt8} (h : ¬ x ∈ N) : plF 1 (N ++ [x]) x = szF 1 N := by rw [plF_snoc, if_neg h, if_pos rfl]
def addN (N : List (List UInt8)) (x : List UInt8) : List (List UInt8) := if x ∈ N then N else N ++ [x]
theorem addN_mem (N : List (List UInt8)) (x : List UInt8) : x ∈ addN N x := by unfold addN; split <;> simp_all
theorem addN_sub {N : List (List UInt8)} {x y : List UInt8} (h : y ∈ N) : y ∈ addN N x := by unfold addN; split <;> simp_all
theorem addN_pl {N : List (List UInt8)} {x y : List UInt8} (h : y ∈ N) : plF 1 (addN N x) y = plF 1 N y := by
  unfold addN
  split
  · rfl
  · exact plF_keep h
theorem addN_ok {N : List (List UInt8)} {x : List UInt8} (hd : N.Nodup) (hn : ∀ y ∈ N, nameOk y = true) (hx : nameOk x = true) : (addN N x).Nodup ∧ ∀ y ∈ addN N x, nameOk y = true := by
  unfold addN
  split
  · exact ⟨hd, hn⟩
  · rename_i h
    refine ⟨by rw [List.nodup_append]; exact ⟨hd, by simp, fun a ha b hb e => h (by simp at hb; rw [hb] at e; rw [← e]; exact ha)⟩, fun y hy => ?_⟩
    rcases List.mem_append.1 hy with hy | hy
    · exact hn y hy
    · simp at hy; rw [hy]; exact hx
theorem addN_sz (N : List (List UInt8)) (x : List UInt8) : szF 1 (addN N x) ≤ szF 1 N + x.length + 1 := by
  unfold addN
  split
  · omega
  · rw [szF_snoc]; omega
theorem add_any (p : Nat) (x : List UInt8) (w : World) (N : List (List UInt8)) (F : Nat → Prop) (h : Tab p w N F) (hx : nameOk x = true) (hb : szF 1 N ≤ 1000000000000) (hlt : ∀ k, F k → k < w.heap.size) : Calls Tryz.prog 86 #[.pointer (some ⟨p, 0, none⟩), .string ⟨x.toArray⟩] w fun e w' => e = .returned (.tuple #[.int .i64 (plF 1 (addN N x) x : Nat), .int .i64 0]) ∧ Tab p w' (addN N x) (FN F w w') ∧ Chg F w w' := by
  by_cases hm : x ∈ N
  · have e : addN N x = N := by unfold addN; rw [if_pos hm]
    rw [e]
    refine (add_old p x w N F h hx hm).mono ?_
    rintro e w' ⟨rfl, rfl⟩
    exact ⟨rfl, h.mono (fun k hk => .inl hk), Chg.refl _ _⟩
  · have e : addN N x = N ++ [x] := by unfold addN; rw [if_neg hm]
    rw [e, plF_new hm]
    exact add_new p x w N F h hx hm hb
theorem FN_lt {F : Nat → Prop} {w w' : World} (hlt : ∀ k, F k → k < w.heap.size) (hs : w.heap.size ≤ w'.heap.size) : ∀ k, FN F w w' k → k < w'.heap.size := fun k hk => by
  rcases hk with h | h
  · have := hlt k h; omega
  · exact h.2
theorem snoc_ind {α : Type} {P : List α → Prop} (h0 : P []) (hs : ∀ l x, P l → P (l ++ [x])) : ∀ l, P l := by
  have key : ∀ n (l : List α), l.length = n → P l := by
    intro n
    induction n with
    | zero => intro l hl; rw [List.length_eq_zero_iff.1 hl]; exact h0
    | succ n ih =>
      intro l hl
      rcases list_cases l with rfl | ⟨M, x, rfl⟩
      · simp at hl
      · exact hs M x (ih M (by simpa using hl))
  exact fun l => key _ l rfl
def namesF (K : List (List UInt8)) : List (List UInt8) := K.foldl addN []
theorem namesF_snoc (K : List (List UInt8)) (x : List UInt8) : namesF (K ++ [x]) = addN (namesF K) x := by simp [namesF]
theorem namesF_ok (K : List (List UInt8)) (h : ∀ x ∈ K, nameOk x = true) : (namesF K).Nodup ∧ (∀ x ∈ namesF K, nameOk x = true) ∧ (∀ x ∈ K, x ∈ namesF K) ∧ szF 1 (namesF K) ≤ 1 + 65 * K.length := by
  revert h
  refine snoc_ind (P := fun K => (∀ x ∈ K, nameOk x = true) → (namesF K).Nodup ∧ (∀ x ∈ namesF K, nameOk x = true) ∧ (∀ x ∈ K, x ∈ namesF K) ∧ szF 1 (namesF K) ≤ 1 + 65 * K.length) ?_ ?_ K
  · exact fun _ => ⟨by simp [namesF], by simp [namesF], by simp, by simp [namesF, szF]⟩
  · intro K x ih h
    obtain ⟨a, b, c, d⟩ := ih (fun y hy => h y (by simp [hy]))
    have hx := h x (by simp)
    rw [namesF_snoc]
    obtain ⟨a1, a2⟩ := addN_ok a b hx
    refine ⟨a1, a2, ?_, ?_⟩
    · intro y hy
      rcases List.mem_append.1 hy with hy | hy
      · exact addN_sub (c y hy)
      · simp at hy; rw [hy]; exact addN_mem _ _
    · have h1 := addN_sz (namesF K) x
      have h2 : x.length ≤ 64 := by simp [nameOk] at hx; exact hx.1.2
      simp only [List.length_append, List.length_singleton]
      omega
theorem tw_split : ∀ l : List UInt8, (0 : UInt8) ∈ l → l = l.takeWhile (fun b => b != 0) ++ 0 :: l.drop ((l.takeWhile (fun b => b != 0)).length + 1)
  | [], h => by cases h
  | c :: r, h => by
    by_cases hc : c = 0
    · subst hc; simp
    · have h2 : (0 : UInt8) ∈ r := by
        rcases List.mem_cons.1 h with h | h
        · exact absurd h.symm hc
        · exact h
      have ih := tw_split r h2
      have e : (c :: r).takeWhile (fun b => b != 0) = c :: r.takeWhile (fun b => b != 0) := by simp [hc]
      rw [e, List.length_cons, List.drop_succ_cons, List.cons_append, ← ih]
theorem nmP_split (l : List UInt8) (h : ¬ nmP l = []) : l = nmP l ++ 0 :: l.drop ((nmP l).length + 1) ∧ nameOk (nmP l) = true := by
  have hle := nmP_le l
  have h0 : (l.take 65).contains 0 = true := by
    unfold nmP at h
    split at h
    · assumption
    · exact absurd rfl h
  have e : nmP l = l.takeWhile (fun b => b != 0) := by unfold nmP; rw [if_pos h0]
  have hm : (0 : UInt8) ∈ l := List.mem_of_mem_take (List.contains_iff_mem.1 h0)
  refine ⟨by rw [e]; exact tw_split l hm, ?_⟩
  have hz : (nmP l).contains 0 = false := by
    cases hc : (nmP l).contains 0 with
    | false => rfl
    | true =>
      have hx := List.contains_iff_mem.1 hc
      rw [e] at hx
      have := tw_all (fun b => b != 0) l 0 hx
      simp at this
  have he : (nmP l).isEmpty = false := by
    cases hq : nmP l with
    | nil => exact absurd hq h
    | cons a r => rfl
  simp only [nameOk, hz, he, Bool.not_false, Bool.true_and, Bool.and_true, decide_eq_true_eq]
  exact hle.1
theorem byF_cons (x : List UInt8) (M : List (List UInt8)) : byF (x :: M) = x ++ 0 :: byF M := by simp [byF]
theorem rdR_inv : ∀ (n : Nat) (l : List UInt8) (A N : List (List UInt8)) (p : Nat), l.length ≤ n → A.Nodup → rdR l A = (some N, p) → ∃ M, N = A ++ M ∧ l = byF M ∧ N.Nodup ∧ ∀ x ∈ M, nameOk x = true
  | n, [], A, N, p, _, hA, h => by
    rw [rdR_nil] at h
    cases h
    exact ⟨[], by simp, rfl, hA, by simp⟩
  | 0, c :: r, A, N, p, hl, _, h => by simp at hl
  | n + 1, c :: r, A, N, p, hl, hA, h => by
    by_cases hx : nmP (c :: r) ∈ A ∨ nmP (c :: r) = []
    · rw [rdR_bad _ _ (by simp) hx] at h; cases h
    · have hx1 : ¬ nmP (c :: r) ∈ A := fun q => hx (.inl q)
      have hx2 : ¬ nmP (c :: r) = [] := fun q => hx (.inr q)
      obtain ⟨hs, hok⟩ := nmP_split _ hx2
      rw [rdR_ok _ _ (by simp) hx1 hx2] at h
      have hl2 : ((c :: r).drop ((nmP (c :: r)).length + 1)).length ≤ n := by rw [List.length_drop]; omega
      obtain ⟨M, h1, h2, h3, h4⟩ := rdR_inv n _ _ N p hl2 (List.nodup_append.2 ⟨hA, by simp, by intro a ha b hb; simp at hb; rw [hb]; exact fun e => hx1 (e ▸ ha)⟩) h
      refine ⟨nmP (c :: r) :: M, by rw [h1]; simp, ?_, h3, ?_⟩
      · rw [byF_cons, ← h2]; exact hs
      · intro x hxm
        rcases List.mem_cons.1 hxm with q | q
        · rw [q]; exact hok
        · exact h4 x q
theorem rdP_inv {l : List UInt8} {N : List (List UInt8)} (h : (rdP l).1 = some N) : l = byP N ∧ N.Nodup ∧ ∀ x ∈ N, nameOk x = true := by
  cases l with
  | nil => cases h
  | cons c r =>
    by_cases hc : c = 0
    · subst hc
      rw [rdP_zero] at h
      obtain ⟨M, h1, h2, h3, h4⟩ := rdR_inv r.length r [] N (rdR r []).2 (Nat.le_refl _) (by simp) (Prod.ext h rfl)
      rw [List.nil_append] at h1
      subst h1
      exact ⟨by rw [byP, ← h2], h3, h4⟩
    · simp only [rdP, if_neg hc] at h
      cases h
theorem atF_idx : ∀ (N : List (List UInt8)) (a : Nat) (p : Int) (x : List UInt8), atF a N p = some x → ∃ k, N[k]? = some x ∧ p = (szF a (N.take k) : Nat)
  | [], _, _, _, h => by cases h
  | y :: r, a, p, x, h => by
    unfold atF at h
    split at h
    · rename_i e
      cases h
      exact ⟨0, rfl, by rw [← e]; rfl⟩
    · obtain ⟨k, h1, h2⟩ := atF_idx r _ p x h
      exact ⟨k + 1, by simpa using h1, by rw [h2]; rfl⟩
theorem szF_le {N : List (List UInt8)} {k j : Nat} (h : k ≤ j) : szF 1 (N.take k) ≤ szF 1 (N.take j) := by
  have := szF_take (N.take j) k
  rwa [List.take_take, Nat.min_eq_left h] at this
theorem szF_lt {N : List (List UInt8)} {k j : Nat} {x : List UInt8} (h : k < j) (hx : N[k]? = some x) : szF 1 (N.take k) < szF 1 (N.take j) := by
  have h1 := szF_le (N := N) (show k + 1 ≤ j from h)
  rw [take_snoc hx, szF_snoc] at h1
  omega
theorem idx_eq {N : List (List UInt8)} {k j : Nat} {x y : List UInt8} (hx : N[k]? = some x) (hy : N[j]? = some y) (h : szF 1 (N.take k) = szF 1 (N.take j)) : k = j := by
  rcases Nat.lt_trichotomy k j with q | q | q
  · have := szF_lt q hx; omega
  · exact q
  · have := szF_lt q hy; omega
theorem pl_of {N : List (List UInt8)} (hd : N.Nodup) {k : Nat} {x : List UInt8} (hx : N[k]? = some x) : plF 1 N x = szF 1 (N.take k) := by
  obtain ⟨j, h1, h2⟩ := plF_at N 1 x (List.mem_of_getElem? hx)
  have : j = k := by
    obtain ⟨hj, ej⟩ := List.getElem?_eq_some_iff.1 h1
    obtain ⟨hk, ek⟩ := List.getElem?_eq_some_iff.1 hx
    rcases Nat.lt_trichotomy j k with q | q | q
    · exact absurd (ej.trans ek.symm) (List.pairwise_iff_getElem.1 hd j k hj hk q)
    · exact q
    · exact absurd (ek.trans ej.symm) (List.pairwise_iff_getElem.1 hd k j hk hj q)
  rw [h2, this]
end Go.Proofs.YthififblejbleaaGreatDoor
namespace Go.Proofs.YthififblejbleaaGreatDoor
open Go.RowKit
set_option linter.unusedVariables false
set_option linter.unusedSimpArgs false
def b1 (x : Int) : UInt8 := UInt8.ofNat (x % 256).toNat
def b4 (x : Int) : List UInt8 := [b1 x, b1 (x / 256), b1 (x / 65536), b1 (x / 16777216)]
def fldI (x : Ins) : Int := x.o + 256 * x.d + 4096 * x.s + 65536 * x.f
def insB (x : Ins) : List UInt8 := b4 (fldI x) ++ (b4 x.i ++ (if isW x.o then b4 0 ++ b4 (x.i / 4294967296) else []))
def txtB (T : List Ins) : List UInt8 := T.flatMap insB
def allN (m : Img) : List (List UInt8) := m.F.map Fn.nm ++ m.D.map Td.nm
def tabM (m : Img) : List (List UInt8) := namesF (allN m)
def bodP (T : List Ins) (x : Fn) : List Ins := (T.drop x.fi.toNat).take x.ct.toNat
def fnRow (N : List (List UInt8)) (slot cnt : Nat) (x : Fn) : List UInt8 := b4 (plF 1 N x.nm : Nat) ++ (b4 x.ob ++ (b4 (slot : Nat) ++ b4 (cnt : Nat)))
def fnsB (T : List Ins) (N : List (List UInt8)) : Nat → List Fn → List UInt8
  | _, [] => []
  | s, x :: r => fnRow N s (slotsP (bodP T x)) x ++ fnsB T N (s + slotsP (bodP T x)) r
def tdRow (N : List (List UInt8)) (x : Td) : List UInt8 := b4 (plF 1 N x.nm : Nat) ++ (b4 x.kd ++ (b4 x.ky ++ (b4 x.vl ++ b4 x.en)))
def tdsB (N : List (List UInt8)) (D : List Td) : List UInt8 := D.flatMap (tdRow N)
def opB : List UInt8 := [83, 80, 73, 78, 1, 0, 0, 0]
def hdB (s f d n : Nat) (e : Int) : List UInt8 := opB ++ (b4 s ++ (b4 f ++ (b4 d ++ (b4 n ++ b4 e))))
def wrB (m : Img) : List UInt8 := hdB (slotsP m.T) m.F.length m.D.length (byP (tabM m)).length m.en ++ (txtB m.T ++ (fnsB m.T (tabM m) 0 m.F ++ (tdsB (tabM m) m.D ++ byP (tabM m))))
theorem b4_len (x : Int) : (b4 x).length = 4 := rfl
theorem insB_len (x : Ins) : (insB x).length = if isW x.o then 16 else 8 := by
  unfold insB; cases isW x.o <;> simp [b4_len]
theorem slots_cons (x : Ins) (r : List Ins) : slotsP (x :: r) = (if isW x.o then 2 else 1) + slotsP r := by
  unfold slotsP; cases h : isW x.o <;> simp [List.filter_cons, h] <;> omega
theorem slots_app (A B : List Ins) : slotsP (A ++ B) = slotsP A + slotsP B := by
  unfold slotsP; simp [List.filter_append]; omega
theorem txtB_len (T : List Ins) : (txtB T).length = 8 * slotsP T := by
  induction T with
  | nil => rfl
  | cons x r ih =>
    show (insB x ++ txtB r).length = _
    rw [List.length_append, ih, insB_len, slots_cons]; split <;> omega
theorem txtB_app (A B : List Ins) : txtB (A ++ B) = txtB A ++ txtB B := by simp [txtB]
theorem fnRow_len (N : List (List UInt8)) (s c : Nat) (x : Fn) : (fnRow N s c x).length = 16 := by simp [fnRow, b4_len]
theorem fnsB_len (T : List Ins) (N : List (List UInt8)) : ∀ (F : List Fn) (s : Nat), (fnsB T N s F).length = 16 * F.length
  | [], _ => rfl
  | x :: r, s => by rw [fnsB, List.length_append, fnRow_len, fnsB_len T N r]; simp; omega
theorem tdRow_len (N : List (List UInt8)) (x : Td) : (tdRow N x).length = 20 := by simp [tdRow, b4_len]
theorem tdsB_len (N : List (List UInt8)) (D : List Td) : (tdsB N D).length = 20 * D.length := by
  induction D with
  | nil => rfl
  | cons x r ih => show (tdRow N x ++ tdsB N r).length = _; rw [List.length_append, tdRow_len, ih]; simp; omega
theorem hdB_len (s f d n : Nat) (e : Int) : (hdB s f d n e).length = 28 := by simp [hdB, opB, b4_len]
def sizP (s f d n : Nat) : Nat := 28 + 8 * s + 16 * f + 20 * d + n
theorem wrB_len (m : Img) : (wrB m).length = sizP (slotsP m.T) m.F.length m.D.length (byP (tabM m)).length := by
  simp only [wrB, List.length_append, hdB_len, txtB_len, fnsB_len, tdsB_len, sizP]; omega
def g1 (l : List UInt8) (p : Nat) : Nat := (l.getD p 0).toNat
def g4 (l : List UInt8) (p : Nat) : Nat := g1 l p + 256 * g1 l (p + 1) + 65536 * g1 l (p + 2) + 16777216 * g1 l (p + 3)
def sxP (m v : Int) : Int := if v < m then v else v - 2 * m
def insR (l : List UInt8) (p : Nat) : Ins := ⟨(g4 l p : Int) % 256, (g4 l p : Int) / 256 % 16, (g4 l p : Int) / 4096 % 16, sxP 32768 ((g4 l p : Int) / 65536), sxP 2147483648 (g4 l (p + 4) : Int)⟩
def widR (l : List UInt8) (p : Nat) : Ins := { insR l p with i := (g4 l (p + 4) : Int) + 4294967296 * sxP 2147483648 (g4 l (p + 12) : Int) }
def tz4 (v : Nat) : Nat := if v % 256 ≠ 0 then 0 else if v / 256 % 256 ≠ 0 then 1 else if v / 65536 % 256 ≠ 0 then 2 else 3
def txR (l : List UInt8) : Nat → Nat → Except Nat (List Ins)
  | 0, _ => .ok []
  | j + 1, p => if isW (insR l p).o then
      (match j with
       | 0 => .error p
       | i + 1 => if g4 l (p + 8) ≠ 0 then .error (p + 8 + tz4 (g4 l (p + 8))) else (txR l i (p + 16)).map (widR l p :: ·))
    else (txR l j (p + 8)).map (insR l p :: ·)
def nmT (N : List (List UInt8)) (nx pl : Nat) : Option (List UInt8 × Nat) :=
  if pl < 1 ∨ nx < pl then none else match atF 1 N pl with | none => none | some x => some (x, if pl = nx then nx + x.length + 1 else nx)
def cntO : List Ins → Nat → Nat × Nat
  | [], _ => (0, 0)
  | x :: r, s => if s = 0 then (0, 0) else ((cntO r (s - (if isW x.o then 2 else 1))).1 + 1, (cntO r (s - (if isW x.o then 2 else 1))).2 + (if isW x.o then 2 else 1))
def fnR (l : List UInt8) (N : List (List UInt8)) (T : List Ins) : Nat → Nat → Nat → Nat → Nat → Except Nat (List Fn × Nat)
  | 0, _, _, _, nx => .ok ([], nx)
  | j + 1, p, fi, sl, nx => match nmT N nx (g4 l p) with
    | none => .error p
    | some (x, nx') => if g4 l (p + 8) ≠ sl then .error (p + 8)
      else if (cntO (T.drop fi) (g4 l (p + 12))).2 ≠ g4 l (p + 12) ∨ g4 l (p + 12) = 0 then .error (p + 12)
      else (fnR l N T j (p + 16) (fi + (cntO (T.drop fi) (g4 l (p + 12))).1) (sl + g4 l (p + 12)) nx').map (fun r => (⟨x, g4 l (p + 4), fi, (cntO (T.drop fi) (g4 l (p + 12))).1⟩ :: r.1, r.2))
def tdR (l : List UInt8) (N : List (List UInt8)) : Nat → Nat → Nat → Except Nat (List Td × Nat)
  | 0, _, nx => .ok ([], nx)
  | j + 1, p, nx => match nmT N nx (g4 l p) with
    | none => .error p
    | some (x, nx') => (tdR l N j (p + 20) nx').map (fun r => (⟨x, g4 l (p + 4), g4 l (p + 8), g4 l (p + 12), g4 l (p + 16)⟩ :: r.1, r.2))
def hdF (l : List UInt8) : Option Nat := if l.length < 28 then some l.length else match fstB (fun k => l.getD k 0 != opB.getD k 0) 8 with | some k => some k | none => if sizP (g4 l 8) (g4 l 12) (g4 l 16) (g4 l 20) ≠ l.length then some 8 else none
def enR (l : List UInt8) (T : List Ins) (N : List (List UInt8)) : Except Nat Img :=
  match fnR l N T (g4 l 12) (28 + 8 * g4 l 8) 0 0 1 with
  | .error p => .error p
  | .ok (F, nx) => match tdR l N (g4 l 16) (28 + 8 * g4 l 8 + 16 * g4 l 12) nx with
    | .error p => .error p
    | .ok (D, ny) => if ny < g4 l 20 then .error (l.length - g4 l 20 + ny) else .ok ⟨T, F, D, g4 l 24⟩
def pasR (l : List UInt8) : Except Nat Img :=
  match hdF l with
  | some p => .error p
  | none => match txR l (g4 l 8) 28 with
    | .error p => .error p
    | .ok T => match rdP (l.drop (l.length - g4 l 20)) with
      | (none, p) => .error (l.length - g4 l 20 + p)
      | (some N, _) => enR l T N
def nilM : Img := ⟨[], [], [], 0⟩
def rdI (l : List UInt8) : Img × Nat × Int := match pasR l with | .error p => (nilM, p, 170) | .ok m => if (ckP m).2 = 0 then (m, 0, 0) else (nilM, (ckP m).1, (ckP m).2)
def letL : List UInt8 := [97, 98, 99, 100, 101, 102, 103, 104, 105, 106, 107, 108, 109, 110, 111, 112, 113, 114, 115, 116, 117, 118, 119, 120, 121, 122, 65, 66, 67, 68, 69, 70, 71, 72, 73, 74, 75, 76, 77, 78, 79, 80, 81, 82, 83, 84, 85, 86, 87, 88, 89, 90, 95]
def inL : List UInt8 := letL ++ [48, 49, 50, 51, 52, 53, 54, 55, 56, 57, 46, 36]
theorem all_u8 (P : UInt8 → Bool) (h : ∀ n : Fin 256, P (UInt8.ofNat n.val) = true) (c : UInt8) : P c = true := by
  have := h ⟨c.toNat, c.toNat_lt⟩
  simpa using this
theorem let_head (c : UInt8) : decide (0 ≤ Lib.indexByte letL c) = (kindP (bI c) == 3) := by
  have := all_u8 (fun c => decide (0 ≤ Lib.indexByte letL c) == (kindP (bI c) == 3)) (by decide +kernel) c
  simpa using this
theorem in_run (c : UInt8) : inL.contains c = runU c := by
  have := all_u8 (fun c => inL.contains c == runU c) (by decide +kernel) c
  simpa using this
theorem trim_all (x : List UInt8) : (Lib.trimLeftS x inL).isEmpty = x.all runU := by
  induction x with
  | nil => rfl
  | cons c r ih =>
    simp only [Lib.trimLeftS, List.dropWhile_cons, in_run, List.all_cons] at ih ⊢
    cases h : runU c
    · simp
    · simpa using ih
theorem trimI_any (x : List UInt8) (w : World) : Calls Tryz.prog 120 #[.string ⟨x.toArray⟩, .string ⟨inL.toArray⟩] w fun e w' => e = .returned (.string ⟨(Lib.trimLeftS x inL).toArray⟩) ∧ Out w w' := by
  exact Go.Proofs.Any.strings_TrimLeft_laid Tryz.lays161 (by kernel_rfl) ⟨x.toArray⟩ ⟨inL.toArray⟩ w (by decide) (by
    intro j b hb
    have hm := List.mem_of_getElem? hb
    have ha : inL.all (fun b => decide (b.toNat < 128)) = true := by decide
    have := List.all_eq_true.1 ha b hm
    simpa using this)
theorem isNameI_any (x : List UInt8) (w : World) : Calls Tryz.prog 112 #[.string ⟨x.toArray⟩] w fun e w' => e = .returned (.bool (wordP x)) ∧ Out w w' := by
  have hsz : (⟨x.toArray⟩ : ByteArray).size = x.length := mk_size x
  by_cases h64 : x.length ≤ 64
  · cases x with
    | nil =>
      go_enter Tryz.func112, Tryz.ntmps112
      go_wp2
      go_ret
      exact ⟨rfl, Out.refl _⟩
    | cons c r =>
      have hli : (⟨(c :: r).toArray⟩ : ByteArray).toList = c :: r := mk_list _
      have hem : (⟨(c :: r).toArray⟩ : ByteArray).toList.isEmpty = false := by rw [hli]; rfl
      have hg0 : (⟨(c :: r).toArray⟩ : ByteArray)[0]? = some c := rfl
      have hlt : ¬ (64 : Int) < (c :: r).length := by omega
      have hI := Tryz.strings_IndexByte ⟨letL.toArray⟩ (c.toNat : Int) w
      rw [show (c.toNat : Int).toNat.toUInt8 = c by simp] at hI
      have hhd := let_head c
      have hT := trimI_any (c :: r) w
      have hta := trim_all (c :: r)
      have hw : wordP (c :: r) = ((kindP (bI c) == 3) && (c :: r).all runU) := by simp only [wordP, startP]; simp [show r.length + 1 ≤ 64 from h64]
      rw [hw, ← hhd, ← hta]
      clear hw hhd hta
      generalize Lib.indexByte letL c = z at *
      generalize Lib.trimLeftS (c :: r) inL = t at *
      go_enter Tryz.func112, Tryz.ntmps112
      go_wp2_with (first | (go_at_call 114; refine (hI).mono ?_; rintro e w1 ⟨rfl, rfl⟩) | (go_at_call 120; refine (hT).mono ?_; rintro e w1 ⟨rfl, h1⟩))
      all_goals go_ret
      all_goals first | exact ⟨by simp_all, h1⟩ | exact ⟨by simp_all <;> omega, Out.refl _⟩
  · have hlt : (64 : Int) < x.length := by omega
    have hw : wordP x = false := by simp only [wordP, decide_eq_false h64, Bool.false_and]
    have hem : (⟨x.toArray⟩ : ByteArray).toList.isEmpty = false := by rw [mk_list]; cases x with | nil => simp at h64 | cons c r => rfl
    rw [hw]
    generalize (⟨x.toArray⟩ : ByteArray) = q at *
    have hqs : (64 : Int) < q.size := by omega
    go_enter Tryz.func112, Tryz.ntmps112
    go_wp2
    all_goals (go_ret; exact ⟨rfl, Out.refl _⟩)
end Go.Proofs.YthififblejbleaaGreatDoor
namespace Go.Proofs.YthififblejbleaaGreatDoor
open Go.RowKit
open Go.Maps (Keyed)
set_option linter.unusedVariables false
set_option linter.unusedSimpArgs false
def StrAt (B : Nat) (w : World) (a : Option Addr) (N : List (List UInt8)) : Prop := N = [] ∨ ∃ b off, b < B ∧ a = some ⟨b, off, none⟩ ∧ ∀ k x, N[k]? = some x → w.cell? ⟨b, off + k, none⟩ = some (.string ⟨x.toArray⟩)
theorem StrAt.get {B : Nat} {w : World} {a : Option Addr} {N : List (List UInt8)} (h : StrAt B w a N) {k : Nat} {x : List UInt8} (hx : N[k]? = some x) : ∃ b off, a = some ⟨b, off, none⟩ ∧ b < B ∧ w.cell? ⟨b, off + k, none⟩ = some (.string ⟨x.toArray⟩) := by
  rcases h with rfl | ⟨g, o, hg, ha, hc⟩
  · simp at hx
  · exact ⟨g, o, ha, hg, hc k x hx⟩
theorem nameOk_zero {x : List UInt8} {k : Nat} (h : x[k]? = some 0) : nameOk x = false := by
  have : (0 : UInt8) ∈ x := List.mem_of_getElem? h
  unfold nameOk
  simp [this]
theorem nameOk_none {x : List UInt8} (h : ∀ b ∈ x, ¬ b = 0) : nameOk x = (decide (1 ≤ x.length) && decide (x.length ≤ 64)) := by
  have h0 : ¬ (0 : UInt8) ∈ x := fun hm => h 0 hm rfl
  unfold nameOk
  cases x with
  | nil => simp
  | cons y r => simp at h0 ⊢; simp [h0]
theorem u8_zero {b : UInt8} : ((b.toNat : Int) == 0) = decide (b = 0) := by
  by_cases h : b = 0
  · subst h; rfl
  · have : ¬ b.toNat = 0 := fun e => h (UInt8.toNat_inj.1 e)
    simp [h]; omega
theorem namedS_any (s : ByteArray) (w : World) (hs : s.size ≤ 4611686018427387904) : Calls Tryz.prog 60 #[.string s] w fun e w' => e = .returned (.bool (nameOk s.toList)) ∧ w = w' := by
  have HZ : Hid (∀ k : Nat, s.toList[k]? = some 0 → nameOk s.toList = false) := hidOf (fun k h => nameOk_zero h)
  have HN : Hid ((∀ b ∈ s.toList, ¬ b = 0) → nameOk s.toList = (decide (1 ≤ s.size) && decide (s.size ≤ 64))) := hidOf (fun h => by rw [nameOk_none h, lsize])
  go_enter Tryz.func60, Tryz.ntmps60
  go_wp2
  go_loopw [3] (fun nv wr => ∃ k : Nat, k ≤ s.size ∧ nv = .int .i64 k ∧ Hid (∀ b ∈ s.toList.take k, ¬ b = 0) ∧ wr = w) (fun nv _ => s.size - (intOf nv).toNat)
  case atStart => exact ⟨0, by omega, rfl, hidOf (by simp), rfl⟩
  case round =>
    obtain ⟨k, hk2, rfl, Ha, rfl⟩ := hrel
    by_cases hk : k < s.size
    · have hlt : (k : Int) < s.size := by omega
      have h0k : (0 : Int) ≤ k := by omega
      have Hg := hidOf (lget s k hk)
      have hz := u8_zero (b := s[k])
      by_cases hb : s[k] = 0
      · rw [decide_eq_true hb] at hz
        have Hfin := hidOf (HZ.out k (by rw [Hg.out, hb]))
        clear hb
        go_wp2
        go_ret
        exact ⟨by rw [Hfin.out]; rfl, rfl⟩
      · rw [decide_eq_false hb] at hz
        have Hb := hidOf hb
        clear hb
        go_wp2
        go_roundw
        case rel =>
          refine ⟨k + 1, by omega, by simp, hidOf ?_, trivial⟩
          rw [take_snoc Hg.out]
          intro b hm
          rcases List.mem_append.1 hm with hm | hm
          · exact Ha.out b hm
          · simp at hm; rw [hm]; exact Hb.out
        case measure => simp [intOf]; omega
    · have hlt : ¬ (k : Int) < s.size := by omega
      have hks : k = s.toList.length := by rw [lsize]; omega
      rw [hks, List.take_length] at Ha
      have Hfin := hidOf (HN.out Ha.out)
      clear hks
      go_wp2
      all_goals (go_ret; refine ret_bool ?_; rw [Hfin.out, Bool.eq_iff_iff]; simp; omega)
theorem named_any (x : List UInt8) (w : World) (hs : x.length ≤ 1000000000000) : Calls Tryz.prog 60 #[.string ⟨x.toArray⟩] w fun e w' => e = .returned (.bool (nameOk x)) ∧ w = w' := by
  have h := namedS_any ⟨x.toArray⟩ w (by rw [mk_size]; omega)
  rw [mk_list] at h
  exact h
def RT (w : World) (a : Option Addr) (N : List (List UInt8)) : Prop := StrAt w.heap.size w a N
theorem RT.out {w w' : World} {a : Option Addr} {N : List (List UInt8)} (h : RT w a N) (o : Out w w') : RT w' a N := by
  rcases h with h | ⟨g, off, hg, ha, hc⟩
  · exact .inl h
  · exact .inr ⟨g, off, Nat.lt_of_lt_of_le hg o.size, ha, fun k x hx => (o.cells g _ hg).trans (hc k x hx)⟩
def tabO (a : Option Addr) (n c : Nat) : Obj := .cells #[.slice a n c] 58 (0, 0)
theorem plF_step {N : List (List UInt8)} {k : Nat} {y : List UInt8} (x : List UInt8) (hy : N[k]? = some y) : plF (szF 1 (N.take k)) (N.drop k) x = if y = x then szF 1 (N.take k) else plF (szF 1 (N.take (k + 1))) (N.drop (k + 1)) x := by
  have hk : k < N.length := (List.getElem?_eq_some_iff.1 hy).1
  have hd := List.drop_eq_getElem_cons hk
  have hx' : N[k] = y := by rw [List.getElem?_eq_getElem hk] at hy; exact Option.some.inj hy
  rw [hd, hx', take_snoc hy, szF_snoc]
  rfl
theorem place_any (a : Option Addr) (c : Nat) (N : List (List UInt8)) (x : List UInt8) (w : World) (h : RT w a N) (hc : N.length ≤ c) (hb : szF 1 N ≤ 1000000000000) : Calls Tryz.prog 61 #[.agg #[.slice a N.length c], .string ⟨x.toArray⟩] w fun e w' => e = .returned (.int .i64 (plF 1 N x : Nat)) ∧ Out w w' := by
  have Ho : Hid (Out w (w.alloc (tabO a N.length c))) := (Out.refl w).alloc _
  have hn := szF_ge N 1
  have hnI : (N.length : Int) ≤ 1000000000000 := by omega
  have hcI : (N.length : Int) ≤ c := by omega
  have H := hidOf (h.out ((Out.refl w).alloc (tabO a N.length c)))
  have Hb := hidOf hb
  have c0 : (w.alloc (tabO a N.length c)).cell? ⟨w.heap.size, 0, none⟩ = some (.slice a N.length c) := cell_fresh _ _ _ _ _ rfl
  clear h hb
  go_enter Tryz.func61, Tryz.ntmps61
  go_wp2
  show Code.wp _ _ _ _ (w.alloc (tabO a N.length c))
  generalize w.alloc (tabO a N.length c) = w1 at *
  generalize w.heap.size = p at *
  go_loopw [5, 6] (fun av iv wr => ∃ k s : Nat, av = .int .i64 s ∧ iv = .int .i64 k ∧ k ≤ N.length ∧ s ≤ 1000000000000 ∧ Hid (s = szF 1 (N.take k)) ∧ Hid (plF 1 N x = plF s (N.drop k) x) ∧ wr = w1) (fun _ iv _ => N.length - (intOf iv).toNat)
  case atStart => exact ⟨0, 1, rfl, rfl, by omega, by omega, hidOf rfl, hidOf rfl, rfl⟩
  case round =>
    obtain ⟨k, s, rfl, rfl, hk, hs, HS, HP, rfl⟩ := hrel
    by_cases hkN : k < N.length
    · have hlt : (k : Int) < N.length := by omega
      have h0 : (0 : Int) ≤ k := by omega
      obtain ⟨y, hy⟩ : ∃ y, N[k]? = some y := ⟨_, List.getElem?_eq_getElem hkN⟩
      obtain ⟨b, off, rfl, hb, d⟩ := StrAt.get H.out hy
      have hsz : (⟨y.toArray⟩ : ByteArray).size = y.length := mk_size y
      have hst := plF_step x hy
      rw [← HS.out] at hst
      have hlen : szF 1 (N.take (k + 1)) = s + y.length + 1 := by rw [take_snoc hy, szF_snoc, ← HS.out]
      have hle := szF_take N (k + 1)
      have hyl : s + y.length + 1 ≤ 1000000000000 := by have := Hb.out; omega
      have hylI : (s : Int) + y.length + 1 ≤ 1000000000000 := by omega
      have Hst := hidOf hst
      have Hlen := hidOf hlen
      clear hst hlen hle hy hb
      by_cases e : y = x
      · have e' := hidOf e
        have ee : (y == x) = true := by simpa using e
        clear e
        go_wp2
        go_ret
        exact ⟨by rw [HP.out, Hst.out, if_pos e'.out]; rfl, Ho.out⟩
      · have e' := hidOf e
        have ee : (y == x) = false := by simpa using e
        clear e
        go_wp2
        go_roundw
        case rel => exact ⟨k + 1, s + y.length + 1, rfl, by simp, by omega, hyl, hidOf Hlen.out.symm, hidOf (by rw [HP.out, Hst.out, if_neg e'.out, Hlen.out]), trivial⟩
        case measure => simp [intOf]; omega
    · have hlt : ¬ (k : Int) < N.length := by omega
      obtain rfl : k = N.length := by omega
      rw [List.drop_length] at HP
      go_wp2
      go_ret
      exact ⟨by rw [HP.out]; rfl, Ho.out⟩
end Go.Proofs.YthififblejbleaaGreatDoor
