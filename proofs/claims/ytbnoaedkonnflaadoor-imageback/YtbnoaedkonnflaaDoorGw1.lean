import Derived.Test.YtbnoaedkonnflaaDoorIyk
import Derived.Test.YtbnoaedkonnflaaDoorImm
namespace Go.Proofs.YtbnoaedkonnflaaDoor
open Go.RowKit
set_option linter.unusedVariables false
set_option linter.unusedSimpArgs false
theorem flat_at {α : Type} (f : α → List Value) (m : Nat) (hf : ∀ x, (f x).length = m) : ∀ (T : List α) (k j : Nat) (x : α), T[k]? = some x → j < m → (T.flatMap f)[k * m + j]? = (f x)[j]?
  | [], _, _, _, h, _ => by simp at h
  | y :: r, 0, j, x, h, hj => by
    simp at h; subst h
    rw [List.flatMap_cons, Nat.zero_mul, Nat.zero_add, List.getElem?_append_left (by rw [hf]; exact hj)]
  | y :: r, k + 1, j, x, h, hj => by
    rw [List.flatMap_cons, List.getElem?_append_right (by rw [hf, Nat.succ_mul]; omega), hf, show (k + 1) * m + j - m = k * m + j by rw [Nat.succ_mul]; omega]
    exact flat_at f m hf r k j x (by simpa using h) hj
theorem own_cellN {B n sz : Nat} {w : World} {e : TypeId} {v : Value} {xs : List Value} (h : w.ownsRow B e sz v n xs) {k : Nat} {u : Value} (hk : xs[k]? = some u) : ∃ g cap, v = .slice (some ⟨g, 0, none⟩) n cap ∧ n ≤ cap ∧ w.cell? ⟨g, k, none⟩ = some u := by
  obtain ⟨hl, ⟨hv, hn⟩ | ⟨g, cap, cur, hv, hb, hg, hc, hm, hs, ht⟩⟩ := h
  · rw [hn, Nat.zero_mul] at hl
    rw [List.eq_nil_of_length_eq_zero hl] at hk
    simp at hk
  · refine ⟨g, cap, hv, hc, ?_⟩
    rw [cell_atL hg]
    rw [← ht, List.getElem?_take] at hk
    split at hk
    · simpa using hk
    · cases hk
theorem OwT.insA {w : World} {B : Nat} {a : Option Addr} {cp : Nat} {T : List Ins} (h : OwT w B (.slice a T.length cp) T) : InsA w a T := by
  cases T with
  | nil => exact .inl rfl
  | cons y r =>
    have key : ∀ k x j u, (y :: r)[k]? = some x → j < 5 → x.cs[j]? = some u → ∃ g, a = some ⟨g, 0, none⟩ ∧ w.cell? ⟨g, k * 5 + j, none⟩ = some u := fun k x j u hx hj hu => by
      obtain ⟨g, cap, hv, hc, d⟩ := own_cellN h (k := k * 5 + j) (u := u) (by unfold insV; rw [flat_at Ins.cs 5 (fun _ => rfl) _ k j x hx hj]; exact hu)
      simp only [Value.slice.injEq] at hv
      exact ⟨g, hv.1, d⟩
    obtain ⟨g, ha, _⟩ := key 0 y 0 _ rfl (by omega) rfl
    refine .inr ⟨g, 0, ha, fun k x hx => ?_⟩
    have get : ∀ j u, j < 5 → x.cs[j]? = some u → w.cell? ⟨g, k * 5 + j, none⟩ = some u := fun j u hj hu => by
      obtain ⟨g', ha', d⟩ := key k x j u hx hj hu
      rw [ha] at ha'; cases ha'; exact d
    rw [Nat.zero_add]
    exact ⟨get 0 _ (by omega) rfl, get 1 _ (by omega) rfl, get 2 _ (by omega) rfl, get 3 _ (by omega) rfl, get 4 _ (by omega) rfl⟩
theorem OwD.tdA {w : World} {B : Nat} {a : Option Addr} {cp : Nat} {T : List Td} (h : OwD w B (.slice a T.length cp) T) : TdA w a T := by
  cases T with
  | nil => exact .inl rfl
  | cons y r =>
    have key : ∀ k x j u, (y :: r)[k]? = some x → j < 5 → x.cs[j]? = some u → ∃ g, a = some ⟨g, 0, none⟩ ∧ w.cell? ⟨g, k * 5 + j, none⟩ = some u := fun k x j u hx hj hu => by
      obtain ⟨g, cap, hv, hc, d⟩ := own_cellN h (k := k * 5 + j) (u := u) (by unfold tdV; rw [flat_at Td.cs 5 (fun _ => rfl) _ k j x hx hj]; exact hu)
      simp only [Value.slice.injEq] at hv
      exact ⟨g, hv.1, d⟩
    obtain ⟨g, ha, _⟩ := key 0 y 0 _ rfl (by omega) rfl
    refine .inr ⟨g, 0, ha, fun k x hx => ?_⟩
    have get : ∀ j u, j < 5 → x.cs[j]? = some u → w.cell? ⟨g, k * 5 + j, none⟩ = some u := fun j u hj hu => by
      obtain ⟨g', ha', d⟩ := key k x j u hx hj hu
      rw [ha] at ha'; cases ha'; exact d
    rw [Nat.zero_add]
    exact ⟨get 0 _ (by omega) rfl, get 1 _ (by omega) rfl, get 2 _ (by omega) rfl, get 3 _ (by omega) rfl, get 4 _ (by omega) rfl⟩
theorem OwF.fnA {w : World} {B : Nat} {a : Option Addr} {cp : Nat} {T : List Fn} (h : OwF w B (.slice a T.length cp) T) : FnA w a T := by
  cases T with
  | nil => exact .inl rfl
  | cons y r =>
    have key : ∀ k x j u, (y :: r)[k]? = some x → j < 4 → x.cs[j]? = some u → ∃ g, a = some ⟨g, 0, none⟩ ∧ w.cell? ⟨g, k * 4 + j, none⟩ = some u := fun k x j u hx hj hu => by
      obtain ⟨g, cap, hv, hc, d⟩ := own_cellN h (k := k * 4 + j) (u := u) (by unfold fnV; rw [flat_at Fn.cs 4 (fun _ => rfl) _ k j x hx hj]; exact hu)
      simp only [Value.slice.injEq] at hv
      exact ⟨g, hv.1, d⟩
    obtain ⟨g, ha, _⟩ := key 0 y 0 _ rfl (by omega) rfl
    refine .inr ⟨g, 0, ha, fun k x hx => ?_⟩
    have get : ∀ j u, j < 4 → x.cs[j]? = some u → w.cell? ⟨g, k * 4 + j, none⟩ = some u := fun j u hj hu => by
      obtain ⟨g', ha', d⟩ := key k x j u hx hj hu
      rw [ha] at ha'; cases ha'; exact d
    rw [Nat.zero_add]
    exact ⟨get 0 _ (by omega) rfl, get 1 _ (by omega) rfl, get 2 _ (by omega) rfl, get 3 _ (by omega) rfl⟩
set_option maxHeartbeats 1000000 in
theorem passes_any (w : World) : Calls Tryd.prog 16 #[] w fun e w' => e = .returned (.slice (some ⟨w.heap.size, 0, none⟩) 4 4) ∧ w' = w.alloc (.cells #[.func (.func 34) #[] #[], .func (.func 35) #[] #[], .func (.func 36) #[] #[], .func (.func 37) #[] #[]] 61) := by
  go_enter Tryd.func16, Tryd.ntmps16
  go_wp2
  go_ret
  exact ⟨rfl, rfl⟩
end Go.Proofs.YtbnoaedkonnflaaDoor
namespace Go.Proofs.YtbnoaedkonnflaaDoor
open Go.RowKit
set_option linter.unusedVariables false
set_option linter.unusedSimpArgs false
theorem hd_size {l : List UInt8} (h : hdF l = none) : 28 ≤ l.length ∧ 28 + 8 * g4 l 8 + 16 * g4 l 12 + 20 * g4 l 16 + g4 l 20 = l.length := by
  unfold hdF at h
  split at h
  · cases h
  · rename_i h1
    split at h
    · cases h
    · split at h
      · cases h
      · rename_i h3
        simp only [ne_eq, Decidable.not_not] at h3
        unfold sizP at h3
        exact ⟨by omega, h3⟩
theorem hd_lim {l : List UInt8} (h : hdF l = none) : l.length ≤ 1000000000000 := by
  have := hd_size h
  have := g4_lt l 8; have := g4_lt l 12; have := g4_lt l 16; have := g4_lt l 20
  omega
theorem txR_len (l : List UInt8) : ∀ (j p : Nat) (T : List Ins), txR l j p = .ok T → T.length ≤ j
  | 0, p, T, h => by rw [txR] at h; cases h; simp
  | 1, p, T, h => by
    rw [txR.eq_def] at h
    dsimp only at h
    split at h
    · cases h
    · cases hr : txR l 0 (p + 8) with
      | error q => rw [hr] at h; cases h
      | ok R => rw [hr] at h; cases h; have := txR_len l 0 (p + 8) R hr; simp only [List.length_cons]; omega
  | j + 2, p, T, h => by
    rw [txR.eq_def] at h
    dsimp only at h
    split at h
    · split at h
      · cases h
      · cases hr : txR l j (p + 16) with
        | error q => rw [hr] at h; cases h
        | ok R => rw [hr] at h; cases h; have := txR_len l j (p + 16) R hr; simp only [List.length_cons]; omega
    · cases hr : txR l (j + 1) (p + 8) with
      | error q => rw [hr] at h; cases h
      | ok R => rw [hr] at h; cases h; have := txR_len l (j + 1) (p + 8) R hr; simp only [List.length_cons]; omega
theorem own_cap {B n sz cp : Nat} {w : World} {e : TypeId} {ad : Addr} {xs : List Value} (h : w.ownsRow B e sz (.slice (some ad) n cp) n xs) : n ≤ cp := by
  obtain ⟨hl, ⟨hv, hn⟩ | ⟨g, cap, cur, hv, hb, hg, hc, hm, hs, ht⟩⟩ := h
  · cases hv
  · cases hv; exact hc
def r0S : Rs := ⟨0, 0, 0, 0, 0, 0, .pointer none, 0, .slice none 0 0, .slice none 0 0, .slice none 0 0, 0⟩
def r1S (l : List UInt8) : Rs := ⟨28, g4 l 8, g4 l 12, g4 l 16, g4 l 20, g4 l 24, .pointer none, 0, .slice none 0 0, .slice none 0 0, .slice none 0 0, g4 l 24⟩
/-- the reader behind each of its passes -/
def St1 (l : List UInt8) (p g go n c : Nat) (w : World) : Prop := hdF l = none ∧ RdA w p g go n c l (r1S l)
def St2 (l : List UInt8) (p g go n c : Nat) (w : World) : Prop := hdF l = none ∧ ∃ T ga cp, txR l (g4 l 8) 28 = .ok T ∧ RdA w p g go n c l { r1S l with o := 28 + 8 * g4 l 8, tv := .slice (some ⟨ga, 0, none⟩) T.length cp } ∧ OwT w (p + 1) (.slice (some ⟨ga, 0, none⟩) T.length cp) T
def St3 (l : List UInt8) (p g go n c : Nat) (w : World) : Prop := hdF l = none ∧ ∃ T ga cp N q tb, txR l (g4 l 8) 28 = .ok T ∧ rdP (l.drop (n - g4 l 20)) = (some N, q) ∧ szF 1 N = g4 l 20 ∧ RdA w p g go n c l { r1S l with o := 28 + 8 * g4 l 8, tv := .slice (some ⟨ga, 0, none⟩) T.length cp, nm := .pointer (some ⟨tb, 0, none⟩), nx := 1 } ∧ OwT w (p + 1) (.slice (some ⟨ga, 0, none⟩) T.length cp) T ∧ Tab tb w N (fun k => p + 1 ≤ k)
def St4 (l : List UInt8) (p g go n c : Nat) (w : World) : Prop := ∃ (m : Img) (ga cp : Nat) (fa : Option Addr) (fc : Nat) (da : Option Addr) (dc : Nat) (r : Rs), pasR l = .ok m ∧ RdA w p g go n c l { r with tv := .slice (some ⟨ga, 0, none⟩) m.T.length cp, fv := .slice fa m.F.length fc, dv := .slice da m.D.length dc } ∧ m.en = r.en ∧ OwT w (p + 1) (.slice (some ⟨ga, 0, none⟩) m.T.length cp) m.T ∧ OwF w (p + 1) (.slice fa m.F.length fc) m.F ∧ OwD w (p + 1) (.slice da m.D.length dc) m.D
def PsE (l : List UInt8) (p : Nat) (S : World → Prop) (w : World) (e : Ending) (w' : World) : Prop := ((∃ q : Nat, pasR l = .error q ∧ e = .returned (.tuple #[.int .i64 (q : Nat), .bool true])) ∨ (∃ q : Int, e = .returned (.tuple #[.int .i64 q, .bool false]) ∧ S w')) ∧ Chg (fun k => k = p) w w'
theorem pass1 (w : World) (p g go n c : Nat) (l : List UInt8) (h : RdA w p g go n c l r0S) (hn : n ≤ 281474976710656) : Calls Tryd.prog 34 #[.pointer (some ⟨p, 0, none⟩)] w (PsE l p (St1 l p g go n c) w) := by
  refine (takeHead_any w p g go n c l r0S h hn).mono ?_
  intro e w' ⟨h1, h2⟩
  refine ⟨?_, h2⟩
  cases hh : hdF l with
  | some q => rw [hh] at h1; exact .inl ⟨q, by unfold pasR; rw [hh], h1⟩
  | none => rw [hh] at h1; exact .inr ⟨8, h1.1, hh, h1.2⟩
theorem pass2 (w : World) (p g go n c : Nat) (l : List UInt8) (h : St1 l p g go n c w) (hT : Tb64 w) (hp1 : ¬ 1 = p) (hn : n ≤ 1000000000000) : Calls Tryd.prog 35 #[.pointer (some ⟨p, 0, none⟩)] w (PsE l p (St2 l p g go n c) w) := by
  obtain ⟨hh, hr⟩ := h
  have hz := hd_size hh
  have hl := hr.l_
  refine (takeText_any w p g go n c l (r1S l) hr hT hp1 (by show 28 + 8 * g4 l 8 ≤ n; omega) hn).mono ?_
  intro e w' ⟨h1, h2⟩
  refine ⟨?_, h2⟩
  cases ht : txR l (g4 l 8) 28 with
  | error q =>
    rw [show txR l (r1S l).s (r1S l).o = .error q from ht] at h1
    exact .inl ⟨q, by unfold pasR; rw [hh]; dsimp only; rw [ht], h1⟩
  | ok T =>
    rw [show txR l (r1S l).s (r1S l).o = .ok T from ht] at h1
    obtain ⟨he, ga, cp, hr', ho⟩ := h1
    exact .inr ⟨0, he, hh, T, ga, cp, ht, hr', own_base ho (by have := hr.pl; omega)⟩
theorem pass3 (w : World) (p g go n c : Nat) (l : List UInt8) (h : St2 l p g go n c w) (hn : n ≤ 1000000000000) : Calls Tryd.prog 36 #[.pointer (some ⟨p, 0, none⟩)] w (PsE l p (St3 l p g go n c) w) := by
  obtain ⟨hh, T, ga, cp, ht, hr, ho⟩ := h
  have hz := hd_size hh
  have hl := hr.l_
  refine (takeNames_any w p g go n c l _ hr (by show g4 l 20 ≤ n; omega) hn).mono ?_
  intro e w' ⟨h1, h2⟩
  refine ⟨?_, h2⟩
  have h1 : (match rdP (l.drop (n - g4 l 20)) with
   | (none, q) => e = .returned (.tuple #[.int .i64 ((n - g4 l 20 + q : Nat) : Int), .bool true])
   | (some N, _) => e = .returned (.tuple #[.int .i64 ((n - g4 l 20 : Nat) : Int), .bool false]) ∧ szF 1 N = g4 l 20 ∧ ∃ tb, RdA w' p g go n c l { r1S l with o := 28 + 8 * g4 l 8, tv := .slice (some ⟨ga, 0, none⟩) T.length cp, nm := .pointer (some ⟨tb, 0, none⟩), nx := 1 } ∧ Tab tb w' N (fun k => w.heap.size ≤ k)) := h1
  obtain ⟨rN, q, hrd⟩ : ∃ rN q, rdP (l.drop (n - g4 l 20)) = (rN, q) := ⟨_, _, rfl⟩
  rw [hrd] at h1
  cases rN with
  | none =>
    refine .inl ⟨_, ?_, h1⟩
    unfold pasR; rw [hh]; dsimp only; rw [ht]; dsimp only; rw [hl, hrd]
  | some N =>
    obtain ⟨he, hsz, tb, hr', nv, sv, mv, t, hf⟩ := h1
    have hpl := hr.pl
    exact .inr ⟨_, he, hh, T, ga, cp, N, q, tb, ht, hrd, hsz, hr', owns_chg ho (fun k hk e => by have := (ho.lt k hk).1; omega) h2, nv, sv, mv, t, fun k hk => by have := hf k hk; omega⟩
theorem pass4 (w : World) (p g go n c : Nat) (l : List UInt8) (h : St3 l p g go n c w) (hn : n ≤ 1000000000000) : Calls Tryd.prog 37 #[.pointer (some ⟨p, 0, none⟩)] w (PsE l p (St4 l p g go n c) w) := by
  obtain ⟨hh, T, ga, cp, N, q, tb, ht, hrd, hsz, hr, ho, htb⟩ := h
  have hz := hd_size hh
  have hl := hr.l_
  have hTl := txR_len l _ _ _ ht
  have hga : ¬ ga = p := by
    have := (ho.lt ga rfl).1; omega
  refine (takeEntries_any w p g go n c l _ hr tb rfl N _ htb (fun k hk e => by omega) (by omega) (by show 1 ≤ szF 1 N; have := szF_ge N 1; omega) T ga cp rfl ho.insA hga (own_cap ho) (by omega) (by show 28 + 8 * g4 l 8 + 16 * g4 l 12 + 20 * g4 l 16 ≤ n; omega) (by show g4 l 20 ≤ n; omega) hn).mono ?_
  intro e w' ⟨h1, h2⟩
  refine ⟨?_, h2⟩
  have h1 : (match fnR l N T (g4 l 12) (28 + 8 * g4 l 8) 0 0 1 with
   | .error q => e = .returned (.tuple #[.int .i64 (q : Nat), .bool true])
   | .ok (Fs, n1) => match tdR l N (g4 l 16) (28 + 8 * g4 l 8 + 16 * g4 l 12) n1 with
     | .error q => e = .returned (.tuple #[.int .i64 (q : Nat), .bool true])
     | .ok (D, n2) => e = .returned (.tuple #[.int .i64 ((n - g4 l 20 + n2 : Nat) : Int), .bool (decide (n2 < g4 l 20))]) ∧ ∃ fa fc da dc, RdA w' p g go n c l { r1S l with o := 28 + 8 * g4 l 8 + 16 * g4 l 12 + 20 * g4 l 16, tv := .slice (some ⟨ga, 0, none⟩) T.length cp, nm := .pointer (some ⟨tb, 0, none⟩), nx := n2, fv := .slice fa Fs.length fc, dv := .slice da D.length dc } ∧ OwF w' w.heap.size (.slice fa Fs.length fc) Fs ∧ OwD w' w.heap.size (.slice da D.length dc) D) := h1
  have hp : pasR l = enR l T N := by unfold pasR; rw [hh]; dsimp only; rw [ht]; dsimp only; rw [hl, hrd]
  cases hf : fnR l N T (g4 l 12) (28 + 8 * g4 l 8) 0 0 1 with
  | error q => rw [hf] at h1; exact .inl ⟨q, by rw [hp]; unfold enR; rw [hf], h1⟩
  | ok y =>
    obtain ⟨Fs, n1⟩ := y
    rw [hf] at h1
    dsimp only at h1
    cases hd : tdR l N (g4 l 16) (28 + 8 * g4 l 8 + 16 * g4 l 12) n1 with
    | error q => rw [hd] at h1; exact .inl ⟨q, by rw [hp]; unfold enR; rw [hf]; dsimp only; rw [hd], h1⟩
    | ok z =>
      obtain ⟨D, n2⟩ := z
      rw [hd] at h1
      dsimp only at h1
      obtain ⟨he, fa, fc, da, dc, hr', of', od'⟩ := h1
      by_cases hlt : n2 < g4 l 20
      · refine .inl ⟨l.length - g4 l 20 + n2, by rw [hp]; unfold enR; rw [hf]; dsimp only; rw [hd]; dsimp only; rw [if_pos hlt], ?_⟩
        rw [he, hl]; simp [hlt]
      · have hpl := hr.pl
        refine .inr ⟨_, by rw [he]; simp only [hlt, decide_false]; rfl, ⟨T, Fs, D, g4 l 24⟩, ga, cp, fa, fc, da, dc, { r1S l with o := 28 + 8 * g4 l 8 + 16 * g4 l 12 + 20 * g4 l 16, nm := .pointer (some ⟨tb, 0, none⟩), nx := n2 }, ?_, hr', rfl, owns_chg ho (fun k hk e => by have := (ho.lt k hk).1; omega) h2, own_base of' (by omega), own_base od' (by omega)⟩
        rw [hp]; unfold enR; rw [hf]; dsimp only; rw [hd]; dsimp only; rw [if_neg hlt]
end Go.Proofs.YtbnoaedkonnflaaDoor
