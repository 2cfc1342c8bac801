import Derived.Test.YtkihaohdcgjioaaGreatDoorGr43
import Derived.Test.YtkihaohdcgjioaaGreatDoorGr41
namespace Go.Proofs.YtkihaohdcgjioaaGreatDoor
open Go.RowKit
set_option linter.unusedVariables false
set_option linter.unusedSimpArgs false
def RE.val {α : Type} (P : α → Prop) : RE α → Prop
  | .ok a _ => P a
  | .no _ _ => True
theorem val_bind {α β : Type} {Q : α → Prop} {P : β → Prop} {x : RE α} {f : α → List Lx.Tk → RE β} (h : x.val Q) (hf : ∀ a r, Q a → (f a r).val P) : (x.bind f).val P := by
  cases x with
  | ok a r => exact hf a r h
  | no c r => trivial
theorem val_any {α : Type} (x : RE α) : x.val (fun _ => True) := by cases x <;> trivial
theorem val_mono {α : Type} {P Q : α → Prop} {x : RE α} (h : x.val P) (hq : ∀ a, P a → Q a) : x.val Q := by
  cases x with
  | ok a r => exact hq a h
  | no c r => trivial
def Sml (s : Stm) : Prop := s.ws.length ≤ 1 ∧ s.ns.length ≤ 3
theorem nuR_val : ∀ (n : Nat) (l : List Int) (ts : List Lx.Tk), (nuR n l ts).val (fun o => o.length = l.length + n)
  | 0, l, ts => rfl
  | n + 1, l, ts => val_bind (val_any _) (fun a r _ => val_mono (nuR_val n (l ++ [a]) r) (fun o h => by
      rw [List.length_append, List.length_singleton] at h
      omega))
theorem nmQ_val (k : Int) (ts : List Lx.Tk) : (nmQ k ts).val Sml := val_bind (val_any _) (fun a r _ => ⟨Nat.zero_le _, Nat.zero_le _⟩)
theorem tbQ_val (ts : List Lx.Tk) : (tbQ ts).val Sml := val_bind (val_any _) (fun a r _ => val_bind (val_any _) (fun b r _ => val_bind (nuR_val 3 [] r) (fun l r h => ⟨Nat.le_refl _, by
  show l.length ≤ 3
  simp at h
  omega⟩)))
theorem restQ_val (x : List UInt8) (ts : List Lx.Tk) : (restQ x ts).val Sml := by
  unfold restQ
  by_cases h1 : x = funcB
  · rw [if_pos h1]; exact nmQ_val _ _
  rw [if_neg h1]
  by_cases h2 : x = globB
  · rw [if_pos h2]; exact nmQ_val _ _
  rw [if_neg h2]
  by_cases h3 : x = extB
  · rw [if_pos h3]; exact nmQ_val _ _
  rw [if_neg h3]
  by_cases h4 : x = mapB
  · rw [if_pos h4]; exact tbQ_val _
  rw [if_neg h4]
  trivial
theorem dirQ_val (ts : List Lx.Tk) : (dirQ ts).val Sml := val_bind (val_any _) (fun t r _ => val_bind (restQ_val t.t r) (fun s r h => by
  by_cases e : kindQ r = 5
  · rw [if_pos e]; exact h
  · rw [if_neg e]; trivial))
theorem inQ_val (ts : List Lx.Tk) : (inQ ts).val Sml := by
  unfold inQ
  by_cases e : (parseP (ixQ [] ts).1).e = 0
  · rw [if_pos e]; exact ⟨Nat.zero_le _, Nat.zero_le _⟩
  · rw [if_neg e]; trivial
def SmlAt (m : Int) (s : Stm) : Prop := Sml s ∧ s.l = m
theorem lbQ_val {m : Int} : ∀ (n : Nat) (L : List Stm) (ts : List Lx.Tk), ts.length ≤ n → (∀ s ∈ L, SmlAt m s) → LnAll m ts → ∀ s ∈ (lbQ L ts).1, SmlAt m s
  | _, L, [], _, h, _ => by unfold lbQ; exact h
  | _, L, [t], _, h, _ => by unfold lbQ; exact h
  | 0, L, t :: u :: r, hn, _, _ => by simp at hn
  | n + 1, L, t :: u :: r, hn, h, hm => by
    unfold lbQ
    by_cases e : t.k = 1 ∧ colQ u = true
    · rw [if_pos e]
      refine lbQ_val n _ r (by simp at hn; omega) (fun s hs => ?_) (fun x hx => hm x (List.mem_cons_of_mem _ (List.mem_cons_of_mem _ hx)))
      rcases List.mem_append.1 hs with hs | hs
      · exact h s hs
      · rw [List.mem_singleton.1 hs]
        exact ⟨⟨Nat.zero_le _, Nat.zero_le _⟩, hm u (by simp)⟩
    · rw [if_neg e]; exact h
theorem stQ_val {m : Int} {L : List Stm} {ts : List Lx.Tk} (h : En ts) (hL : ∀ s ∈ L, SmlAt m s) (hm : LnAll m ts) : (stQ L ts).val (fun o => ∀ s ∈ o, SmlAt m s) := by
  unfold stQ
  by_cases e : kindQ ts = 5
  · rw [if_pos e]; exact hL
  rw [if_neg e]
  have key : ∀ Z : RE Stm, Z.en → LnAll m Z.rest → Z.val Sml → (Z.bind fun s r => .ok (L ++ [{ s with l := lineQ r }]) r).val (fun o => ∀ s ∈ o, SmlAt m s) := fun Z h1 h2 h3 => by
    cases Z with
    | no c r => trivial
    | ok s r =>
      intro y hy
      rcases List.mem_append.1 hy with hy | hy
      · exact hL y hy
      · rw [List.mem_singleton.1 hy]
        refine ⟨h3, ?_⟩
        obtain ⟨t, r', rfl⟩ := En.ne h1
        exact h2 t (by simp [RE.rest])
  by_cases e1 : kindQ ts = 1
  · rw [if_pos e1]
    exact key _ (inQ_loc (N := 0) (R := []) h).2 (inQ_cl (lnAll_clo m) hm) (inQ_val ts)
  · rw [if_neg e1]
    exact key _ (dirQ_loc (N := 0) (R := []) h).2 (dirQ_cl (lnAll_clo m) hm) (dirQ_val ts)
theorem ln_val {m : Nat} {x : List UInt8} {o : List Stm} {r : List Lx.Tk} (h : lnQ [] (lnT m x) = .ok o r) : ∀ s ∈ o, SmlAt m s := by
  have hE := lnT_en m x
  have hA := lnT_all m x
  have h1 := lbQ_val (m := m) (lnT m x).length [] (lnT m x) (Nat.le_refl _) (fun s hs => by cases hs) hA
  have h2 : LnAll m (lbQ [] (lnT m x)).2 := lbQ_cl (lnAll_clo m) _ [] (lnT m x) (Nat.le_refl _) hA
  have h3 := (lbQ_loc (N := 0) (R := []) (out := []) (lnT m x).length [] (lnT m x) (Nat.le_refl _) hE).2
  have h4 := stQ_val h3 h1 h2
  unfold lnQ at h
  cases hz : stQ (lbQ [] (lnT m x)).1 (lbQ [] (lnT m x)).2 with
  | no c r' => rw [hz] at h; cases h
  | ok o' r' =>
    rw [hz] at h h4
    have h5 : (tkQ 5 r').bind (fun _ r => RE.ok o' r) = .ok o r := h
    cases hk : tkQ 5 r' with
    | no c r2 => rw [hk] at h5; cases h5
    | ok t r2 =>
      rw [hk] at h5
      have h6 : RE.ok o' r2 = .ok o r := h5
      cases h6
      exact h4
theorem stF_val : ∀ (f n : Nat) (l : List UInt8), l.length ≤ f → ∀ s ∈ (stF f n l).1, Sml s ∧ (n : Int) + 1 ≤ s.l ∧ s.l ≤ (n : Int) + l.length
  | 0, n, l, _, s, hs => by simp [stF] at hs
  | f + 1, n, [], _, s, hs => by simp [stF] at hs
  | f + 1, n, c :: r, hf, s, hs => by
    have hc := (Lx.cutL_len (c :: r) (by simp)).2
    simp only [List.length_cons] at hf hc
    have ih := stF_val f (n + 1) (Lx.cutL (c :: r)).2 (by omega)
    rw [show stF (f + 1) n (c :: r) = stB n (Lx.cutL (c :: r)).1 (stF f (n + 1) (Lx.cutL (c :: r)).2) from rfl] at hs
    generalize stF f (n + 1) (Lx.cutL (c :: r)).2 = Z at hs ih
    simp only [List.length_cons]
    by_cases hz : (Lx.lineP (Lx.cutL (c :: r)).1).1 = 0
    · cases hq : lnQ [] (lnT (n + 1) (Lx.cutL (c :: r)).1) with
      | no c' r' => rw [stB_no hz hq] at hs; simp at hs
      | ok o r' =>
        rw [stB_ok hz hq] at hs
        by_cases hZ : Z.2.2 = 0
        · rw [if_pos hZ] at hs
          simp only at hs
          rcases List.mem_append.1 hs with hs | hs
          · obtain ⟨h1, h2⟩ := ln_val hq s hs
            refine ⟨h1, ?_, ?_⟩ <;> omega
          · obtain ⟨h1, h2, h3⟩ := ih s hs
            refine ⟨h1, ?_, ?_⟩ <;> omega
        · rw [if_neg hZ] at hs; simp at hs
    · rw [stB_bad hz] at hs; simp at hs
theorem rd_len : ∀ (n : Nat) (out : List Stm) (ts : List Lx.Tk), Tw ts → (rdF n out ts).val (fun o => o.length ≤ out.length + ts.length)
  | 0, out, ts, _ => by show out.length ≤ out.length + ts.length; omega
  | n + 1, out, ts, hT => by
    by_cases hk : kindQ ts = 0
    · rw [rd_stop hk]; show out.length ≤ out.length + ts.length; omega
    · rw [rd_step hk]
      have hF := lnQ_f (out := out) (hT.lw hk)
      cases hz : lnQ out ts with
      | no c r => trivial
      | ok o r =>
        rw [hz] at hF
        exact val_mono (rd_len n o r hF.1) (fun a h => by have := hF.2.2; omega)
theorem readQ_len {ts : List Lx.Tk} (hT : Tw ts) : (readQ ts).1.length ≤ ts.length := by
  have h := rd_len ts.length [] ts hT
  unfold readQ
  cases hz : rdF ts.length [] ts with
  | ok o r => rw [hz] at h; simpa [RE.val] using h
  | no c r => exact Nat.zero_le _
theorem stats_len (l : List UInt8) : (statsP l).1.length ≤ 33554433 := by
  unfold statsP
  by_cases h : (Lx.tokensP l).2.2 = 0
  · rw [if_pos h]
    obtain ⟨h1, _, h3⟩ := tok_shape l h
    exact Nat.le_trans (readQ_len h1) h3
  · rw [if_neg h]
    have h1 := ahead_tok l h
    obtain ⟨h2, _, h3⟩ := tok_shape _ h1
    by_cases hz : (readQ (Lx.tokensP (aheadP l (Lx.tokensP l).2.1)).1).2.2 = 0
    · rw [if_pos hz]; exact Nat.zero_le _
    · rw [if_neg hz]; exact Nat.le_trans (readQ_len h2) h3
theorem stats_val (l : List UInt8) (hl : l.length ≤ 16777216) : ∀ s ∈ (statsP l).1, s.ws.length ≤ 1 ∧ s.ns.length ≤ 3 ∧ 1 ≤ s.l ∧ s.l ≤ 16777216 := fun s hs => by
  rw [stats_D l hl] at hs
  obtain ⟨h1, h2, h3⟩ := stF_val l.length 0 l (Nat.le_refl _) s hs
  exact ⟨h1.1, h1.2, by omega, by omega⟩
set_option maxRecDepth 20000 in
set_option maxHeartbeats 4000000 in
theorem print7_any (w : World) (g off cap : Nat) (Y : List (Stm × Value × Value)) (R : List (List UInt8 × Int)) (hR : R.length = Y.length) (hS : StR w g off Y) (hg : g < w.heap.size) (hcap : Y.length ≤ cap) (hlen : Y.length ≤ 1034834473171)
    (LC : ∀ wx, Out w wx → ∀ (k : Nat) (y : Stm × Value × Value) (r : List UInt8 × Int), Y[k]? = some y → R[k]? = some r → Calls Tryz.prog 30 #[stE y.1 y.2.1 y.2.2] wx fun e w' => e = .returned (.tuple #[.string ⟨r.1.toArray⟩, .int .i64 r.2]) ∧ Out wx w') (hT : ∀ r ∈ R, r.2 = 0 → r.1.length ≤ 1999) :
    Calls Tryz.prog 12 #[.slice (some ⟨g, off, none⟩) Y.length cap] w fun e w' => e = .returned (.tuple #[.string ⟨(prF [] 0 R).1.toArray⟩, .int .i64 (prF [] 0 R).2]) ∧ Out w w' := by
  obtain ⟨X, hX⟩ : ∃ X, X = prF [] 0 R := ⟨_, rfl⟩
  rw [← hX]
  have HX := hidOf hX
  obtain ⟨n, hn⟩ : ∃ n, n = Y.length := ⟨_, rfl⟩
  have Hn := hidOf hn
  obtain ⟨N, hNN⟩ : ∃ N, N = w.heap.size := ⟨_, rfl⟩
  obtain ⟨w1, hw1⟩ : ∃ w1, w1 = w.alloc (.cells #[.pointer none, .slice none 0 0, .int .i64 0] 79) := ⟨_, rfl⟩
  have b1 : w1.heap[N]? = some (.cells #[.pointer none, .slice none 0 0, .int .i64 0] 79 (0, 0)) := by rw [hw1, hNN]; exact heap_alloc_new w _
  have H1 : Hid (Lx.Pw.Wr N N w1 [] 0 0 (.pointer none) (.slice none 0 0)) := hidOf ⟨Nat.le_refl _, b1, .inl rfl, World.ownsRow_nil _ _ _ _, fun k hk => by simp [Value.ownBlock] at hk, fun _ => rfl⟩
  have B1 : Hid (Below N w w1) := hidOf (by rw [hw1, hNN]; exact (Out.refl w).alloc _)
  have Hw1 := hidOf hw1
  have HNN := hidOf hNN
  have HS := hidOf hS
  have HLC := hidOf LC
  have HT := hidOf hT
  have HR := hidOf hR
  rw [← hn] at hcap hlen ⊢
  have hgN : g < N := by rw [hNN]; exact hg
  clear hX hn hNN hw1 b1 hS LC hT hR
  go_enter Tryz.func12, Tryz.ntmps12
  go_upto_region 2 with fail
  rw [← Hw1.out, ← HNN.out]
  go_upto_region 3 with fail
  go_loopw [11] (fun i wr => ∃ (k : Nat) (l : List UInt8) (a : Nat) (ad bv : Value), i = .int .i64 k ∧ k ≤ n ∧ Hid (Lx.Pw.Wr N N wr l a 0 ad bv) ∧ Hid (Below N w wr) ∧ l.length ≤ 16777216 ∧ l.length ≤ a ∧ a ≤ 2000 * k ∧ Hid (X = prF l a (R.drop k))) (fun i _ => n - (intOf i).toNat)
  case atStart => exact ⟨0, [], 0, _, _, rfl, by omega, H1, B1, by simp, by simp, by omega, hidOf (by rw [HX.out]; rfl)⟩
  case round =>
    clear H1 B1
    obtain ⟨k, l, a, ad, bv, rfl, hk, HW, HB, hl, hla, ha, HQ⟩ := hrel
    by_cases hlt : k < n
    · have hltI : (k : Int) < n := by omega
      obtain ⟨y, hy⟩ : ∃ y, Y[k]? = some y := ⟨_, List.getElem?_eq_getElem (by have := Hn.out; omega)⟩
      obtain ⟨r, hr⟩ : ∃ r, R[k]? = some r := ⟨_, List.getElem?_eq_getElem (by have := Hn.out; have := HR.out; omega)⟩
      obtain ⟨⟨aw, nw, cw, e1⟩, ⟨an, nn, cn, e2⟩, hcl⟩ := HS.out k y hy
      obtain ⟨x, wv, nv⟩ := y
      simp only at e1 e2 hcl
      subst e1 e2
      have CELL : ∀ i u, (stL x (.slice aw nw cw) (.slice an nn cn))[i]? = some u → wr.cell? ⟨g, off + k * 11 + i, none⟩ = some u := fun i u hu => (Below.cell HB.out hgN).trans (hcl i u hu)
      have q0 : wr.cell? ⟨g, off + k * 11, none⟩ = some (.int .i64 x.k) := CELL 0 _ rfl
      have q1 : wr.cell? ⟨g, off + k * 11 + 1, none⟩ = some (.string ⟨x.nm.toArray⟩) := CELL 1 _ rfl
      have q2 : wr.cell? ⟨g, off + k * 11 + 2, none⟩ = some (.slice aw nw cw) := CELL 2 _ rfl
      have q3 : wr.cell? ⟨g, off + k * 11 + 3, none⟩ = some (.slice an nn cn) := CELL 3 _ rfl
      have q4 : wr.cell? ⟨g, off + k * 11 + 4, none⟩ = some (.int .i64 x.o) := CELL 4 _ rfl
      have q5 : wr.cell? ⟨g, off + k * 11 + 5, none⟩ = some (.int .i64 x.d) := CELL 5 _ rfl
      have q6 : wr.cell? ⟨g, off + k * 11 + 6, none⟩ = some (.int .i64 x.s) := CELL 6 _ rfl
      have q7 : wr.cell? ⟨g, off + k * 11 + 7, none⟩ = some (.int .i64 x.f) := CELL 7 _ rfl
      have q8 : wr.cell? ⟨g, off + k * 11 + 8, none⟩ = some (.int .i64 x.i) := CELL 8 _ rfl
      have q9 : wr.cell? ⟨g, off + k * 11 + 9, none⟩ = some (.string ⟨x.tg.toArray⟩) := CELL 9 _ rfl
      have q10 : wr.cell? ⟨g, off + k * 11 + 10, none⟩ = some (.int .i64 x.l) := CELL 10 _ rfl
      have LC : Hid (∀ wx, Out w wx → Calls Tryz.prog 30 #[.agg #[.int .i64 x.k, .string ⟨x.nm.toArray⟩, .slice aw nw cw, .slice an nn cn, .int .i64 x.o, .int .i64 x.d, .int .i64 x.s, .int .i64 x.f, .int .i64 x.i, .string ⟨x.tg.toArray⟩, .int .i64 x.l]] wx fun e w' => e = .returned (.tuple #[.string ⟨r.1.toArray⟩, .int .i64 r.2]) ∧ Out wx w') := hidOf (fun wx o => by
        have h9 := HLC.out wx o k (x, .slice aw nw cw, .slice an nn cn) r hy hr
        simp only [stE] at h9
        exact h9)
      have hdr : R.drop k = r :: R.drop (k + 1) := by
        have hlt' : k < R.length := by have := Hn.out; have := HR.out; omega
        rw [List.drop_eq_getElem_cons hlt']
        congr 1
        have := List.getElem?_eq_getElem hlt'
        rw [this] at hr
        exact Option.some.inj hr
      have hrm : r ∈ R := List.mem_of_getElem? hr
      obtain ⟨t, ec⟩ := r
      simp only at LC
      clear CELL hcl hy hr
      go_upto_region 5 with fail
      obtain ⟨w2, hw2⟩ : ∃ w2, w2 = wr.alloc (.cells #[.int .i64 x.k, .string ⟨x.nm.toArray⟩, .slice aw nw cw, .slice an nn cn, .int .i64 x.o, .int .i64 x.d, .int .i64 x.s, .int .i64 x.f, .int .i64 x.i, .string ⟨x.tg.toArray⟩, .int .i64 x.l] 60) := ⟨_, rfl⟩
      rw [← hw2]
      have O2 : Hid (Out wr w2) := hidOf (by rw [hw2]; exact (Out.refl wr).alloc _)
      have b2 : w2.heap[wr.heap.size]? = some (.cells #[.int .i64 x.k, .string ⟨x.nm.toArray⟩, .slice aw nw cw, .slice an nn cn, .int .i64 x.o, .int .i64 x.d, .int .i64 x.s, .int .i64 x.f, .int .i64 x.i, .string ⟨x.tg.toArray⟩, .int .i64 x.l] 60 (0, 0)) := by rw [hw2]; exact heap_alloc_new wr _
      have m0 : w2.cell? ⟨wr.heap.size, 0, none⟩ = some (.int .i64 x.k) := by rw [cell_atL b2]; rfl
      have m1 : w2.cell? ⟨wr.heap.size, 1, none⟩ = some (.string ⟨x.nm.toArray⟩) := by rw [cell_atL b2]; rfl
      have m2 : w2.cell? ⟨wr.heap.size, 2, none⟩ = some (.slice aw nw cw) := by rw [cell_atL b2]; rfl
      have m3 : w2.cell? ⟨wr.heap.size, 3, none⟩ = some (.slice an nn cn) := by rw [cell_atL b2]; rfl
      have m4 : w2.cell? ⟨wr.heap.size, 4, none⟩ = some (.int .i64 x.o) := by rw [cell_atL b2]; rfl
      have m5 : w2.cell? ⟨wr.heap.size, 5, none⟩ = some (.int .i64 x.d) := by rw [cell_atL b2]; rfl
      have m6 : w2.cell? ⟨wr.heap.size, 6, none⟩ = some (.int .i64 x.s) := by rw [cell_atL b2]; rfl
      have m7 : w2.cell? ⟨wr.heap.size, 7, none⟩ = some (.int .i64 x.f) := by rw [cell_atL b2]; rfl
      have m8 : w2.cell? ⟨wr.heap.size, 8, none⟩ = some (.int .i64 x.i) := by rw [cell_atL b2]; rfl
      have m9 : w2.cell? ⟨wr.heap.size, 9, none⟩ = some (.string ⟨x.tg.toArray⟩) := by rw [cell_atL b2]; rfl
      have m10 : w2.cell? ⟨wr.heap.size, 10, none⟩ = some (.int .i64 x.l) := by rw [cell_atL b2]; rfl
      have hNr : N ≤ wr.heap.size := by rw [HNN.out]; exact HB.out.size
      have B2 : Hid (Below N w w2) := hidOf (Below.trans HB.out (Below.mono O2.out hNr))
      have OW2 : Hid (Out w w2) := hidOf (by have := B2.out; rw [HNN.out] at this; exact this)
      clear hw2 b2 q0 q1 q2 q3 q4 q5 q6 q7 q8 q9 q10
      by_cases he : ec = 0
      · subst he
        have htl : t.length ≤ 1999 := HT.out _ hrm rfl
        have HQ2 : Hid (X = prF (wlP l a t) (a + (t.length + 1)) (R.drop (k + 1))) := hidOf (by
          rw [HQ.out, hdr]
          show (if (0 : Int) = 0 then prF (wlP l a t) (a + (t.length + 1)) (R.drop (k + 1)) else ([], 0)) = _
          rw [if_pos rfl])
        have CW : Hid (∀ wx, Out wr wx → Calls Tryz.prog 31 #[.pointer (some ⟨N, 0, none⟩), .string ⟨t.toArray⟩] wx fun e w' => (∃ v, e = .returned v) ∧ (∃ ad' bv', Lx.Pw.Wr N N w' (wlP l a t) (a + (t.length + 1)) 0 ad' bv') ∧ Below N wx w') := hidOf (fun wx o => wline_any N N wx l a ad bv t (HW.out.out o) hl (Nat.le_trans htl (by decide)) (by omega))
        obtain ⟨hw5, hw6⟩ := wl_len (t := t) hl hla
        clear hdr hrm
        generalize wlP l a t = l' at *
        generalize t.length = tn at *
        go_wp2_with (first | (go_at_call 30; refine (LC.out _ OW2.out).mono ?_; rintro e w3 ⟨rfl, ho⟩; have O3 := hidOf (O2.out.trans ho); have B3 := hidOf (Below.trans B2.out (Below.mono ho (by have := O2.out.size; omega))); clear ho) | (go_at_call 31; refine (CW.out _ O3.out).mono ?_; rintro e w4 ⟨⟨v4, rfl⟩, ⟨ad4, bv4, hw⟩, hb⟩; have W4 := hidOf hw; have B4 := hidOf (Below.trans B3.out hb); clear hw hb))
        go_roundw
        case rel => exact ⟨k + 1, l', a + (tn + 1), ad4, bv4, by simp, by omega, W4, B4, hw5, hw6, by omega, HQ2⟩
        case measure => simp [intOf]; omega
      · have hb : (ec != 0) = true := by simpa using he
        have HE : Hid (X = ([], ec)) := hidOf (by
          rw [HQ.out, hdr]
          show (if ec = 0 then prF (wlP l a t) (a + (t.length + 1)) (R.drop (k + 1)) else ([], ec)) = _
          rw [if_neg he])
        clear he hdr hrm
        go_wp2_with (go_at_call 30; refine (LC.out _ OW2.out).mono ?_; rintro e w3 ⟨rfl, ho⟩; have O3 := hidOf (OW2.out.trans ho); clear ho)
        go_ret2
        rw [HE.out]
        exact ⟨rfl, O3.out⟩
    · have e : k = n := by omega
      subst e
      have c2 : wr.cell? ⟨N, 2, none⟩ = some (.int .i64 a) := HW.out.cell 2
      have HQ2 : Hid (X = if 16777216 < a then ([], 50) else (l, 0)) := hidOf (by
        rw [HQ.out, List.drop_of_length_le (by have := Hn.out; have := HR.out; omega)]
        rfl)
      have OW : Hid (Out w wr) := hidOf (by have := HB.out; rw [HNN.out] at this; exact this)
      by_cases hm : 16777216 < a
      · have hmI : (16777216 : Int) < a := by omega
        have HE : Hid (X = ([], 50)) := hidOf (by rw [HQ2.out, if_pos hm])
        go_wp2
        go_ret2
        rw [HE.out]
        exact ⟨rfl, OW.out⟩
      · have hmI : ¬ (16777216 : Int) < a := by omega
        have HE : Hid (X = (l, 0)) := hidOf (by rw [HQ2.out, if_neg hm])
        have CS := hidOf (Lx.Pw.string_any N N wr l a 0 ad bv HW.out (by omega))
        go_wp2_with (go_at_call 32; refine CS.out.mono ?_; rintro e w3 ⟨rfl, hb⟩; have B3 := hidOf (Below.trans HB.out hb); clear hb)
        go_ret2
        rw [HE.out]
        exact ⟨rfl, by have := B3.out; rw [HNN.out] at this; exact this⟩
end Go.Proofs.YtkihaohdcgjioaaGreatDoor
