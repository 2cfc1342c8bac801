import Derived.Test.YthififblejbleaaGreatDoorHy35
import Derived.Test.YthififblejbleaaGreatDoorHy40
namespace Go.Proofs.YthififblejbleaaGreatDoor
open Go.RowKit
set_option linter.unusedVariables false
set_option linter.unusedSimpArgs false
def rN (r : Option Nat) : Int := match r with | some k => (k : Int) | none => -1
theorem refLetter_any (c : Int) (w : World) : Calls Tryz.prog 96 #[.int .u8 c] w fun e w' => e = .returned (.bool (letP c)) ∧ w = w' := by
  go_enter Tryz.func96, Tryz.ntmps96
  go_wp2
  all_goals go_ret
  all_goals (refine ret_bool ?_; rw [Bool.eq_iff_iff]; simp [letP]; omega)
theorem refInner_any (c : Int) (w : World) : Calls Tryz.prog 97 #[.int .u8 c] w fun e w' => e = .returned (.bool (runP c)) ∧ w = w' := by
  go_enter Tryz.func97, Tryz.ntmps97
  go_wp2_with (go_at_call 96; refine (refLetter_any c _).mono ?_; rintro e w' ⟨rfl, rfl⟩)
  all_goals go_ret
  all_goals (refine ret_bool ?_; first | (simp_all [runP, digP]; done) | (rw [Bool.eq_iff_iff]; simp_all [runP, digP] <;> omega))
theorem head_of17 {s : ByteArray} (h : 0 < s.size) : ∃ r, s.toList = s[0] :: r := by
  have hb := lget s 0 h
  cases hl : s.toList with
  | nil => rw [hl] at hb; simp at hb
  | cons x r => rw [hl] at hb; simp at hb; exact ⟨r, by rw [hb]⟩
theorem let_kind (c : Int) : (kindP c == 3) = letP c := by
  unfold kindP
  cases h : letP c
  · simp only [Bool.false_eq_true, if_false]
    repeat' split
    all_goals rfl
  · simp
set_option maxRecDepth 20000 in
set_option maxHeartbeats 1000000 in
theorem refWord_any (s : ByteArray) (hs : s.size ≤ 4611686018427387904) (w : World) : Calls Tryz.prog 75 #[.string s] w fun e w' => e = .returned (.bool (wordP s.toList)) ∧ w = w' := by
  have hl := lsize s
  by_cases h0 : s.size = 0
  · have h0I : (s.size : Int) < 1 := by omega
    have hN : wordP s.toList = false := by
      have : s.toList = [] := List.length_eq_zero_iff.1 (by omega)
      rw [this]; rfl
    rw [hN]
    clear hN
    go_enter Tryz.func75, Tryz.ntmps75
    go_wp2
    go_ret
    exact ⟨rfl, rfl⟩
  · have h0I : ¬ (s.size : Int) < 1 := by omega
    have h0z : 0 < s.size := by omega
    have h0z' : (0 : Int) < s.size := by omega
    by_cases h64 : 64 < s.size
    · have h64I : (64 : Int) < s.size := by omega
      have hN : wordP s.toList = false := by simp [wordP, hl]; omega
      rw [hN]
      clear hN
      go_enter Tryz.func75, Tryz.ntmps75
      go_wp2
      go_ret
      exact ⟨rfl, rfl⟩
    · have h64I : ¬ (64 : Int) < s.size := by omega
      obtain ⟨r, hr⟩ := head_of17 (s := s) h0z
      have hst : startP s.toList = letP (bI s[0]) := by rw [hr]; exact let_kind _
      have CL := hidOf (fun wx => refLetter_any (bI s[0]) wx)
      cases hlt : letP (bI s[0])
      · have hN : wordP s.toList = false := by simp [wordP, hst, hlt]
        rw [hN]
        rw [hlt] at CL
        clear hN hr
        unfold bI at CL
        go_enter Tryz.func75, Tryz.ntmps75
        go_wp2_with (go_at_call 96; refine (CL.out _).mono ?_; rintro e w1 ⟨rfl, rfl⟩)
        go_ret
        exact ⟨rfl, rfl⟩
      · have HW : Hid (wordP s.toList = s.toList.all runU) := by
          have : s.toList.length ≤ 64 := by omega
          exact hidOf (by simp [wordP, hst, hlt, this])
        rw [hlt] at CL
        have Hl := hidOf hl
        clear hr hst hlt hl
        unfold bI at CL
        go_enter Tryz.func75, Tryz.ntmps75
        go_wp2_with (go_at_call 96; refine (CL.out _).mono ?_; rintro e w1 ⟨rfl, rfl⟩)
        go_loopw [3] (fun kv wr => ∃ k : Nat, kv = .int .i64 k ∧ k ≤ s.size ∧ Hid ((s.toList.take k).all runU = true) ∧ wr = w) (fun kv _ => s.size - (intOf kv).toNat)
        case atStart => exact ⟨0, rfl, by omega, hidOf rfl, rfl⟩
        case round =>
          obtain ⟨k, rfl, hk, HA, rfl⟩ := hrel
          by_cases hlt : k < s.size
          · have hltI : (k : Int) < s.size := by omega
            have hg := lget s k hlt
            have HT : Hid ((s.toList.take (k + 1)).all runU = runU s[k]) := by
              rw [List.take_add_one, hg, List.all_append, HA.out]
              exact hidOf (by simp)
            have HT2 : Hid (runU s[k] = false → s.toList.all runU = false) := fun h => by
              rw [← Bool.not_eq_true]
              intro ha
              have := List.all_eq_true.1 ha s[k] (List.mem_of_getElem? hg)
              rw [h] at this; cases this
            have CI := hidOf (fun wx => refInner_any (bI s[k]) wx)
            rw [show runP (bI s[k]) = runU s[k] from rfl] at CI
            unfold bI at CI
            clear hg
            cases hru : runU s[k]
            · rw [hru] at CI
              have HF := hidOf (HT2.out hru)
              go_wp2_with (go_at_call 97; refine (CI.out _).mono ?_; rintro e w1 ⟨rfl, rfl⟩)
              go_ret
              exact ⟨by rw [HW.out, HF.out]; rfl, rfl⟩
            · rw [hru] at CI HT
              go_wp2_with (go_at_call 97; refine (CI.out _).mono ?_; rintro e w1 ⟨rfl, rfl⟩)
              go_roundw
              case rel => exact ⟨k + 1, by simp, by omega, HT, by first | rfl | trivial⟩
              case measure => simp [intOf]; omega
          · have hltI : ¬ (k : Int) < s.size := by omega
            have HF : Hid (s.toList.all runU = true) := by
              have h := HA.out
              rw [List.take_of_length_le (by have := Hl.out; omega)] at h
              exact hidOf h
            go_wp2
            go_ret
            exact ⟨by rw [HW.out, HF.out]; rfl, rfl⟩
theorem refWord_l (l : List UInt8) (hl : l.length ≤ 4611686018427387904) (w : World) : Calls Tryz.prog 75 #[.string ⟨l.toArray⟩] w fun e w' => e = .returned (.bool (wordP l)) ∧ w = w' := by
  have := refWord_any ⟨l.toArray⟩ (by rw [mk_size]; exact hl) w
  rw [mk_list] at this; exact this
theorem refWide_any (w : World) (o d s f i : Int) : Calls Tryz.prog 49 #[.agg #[.int .i64 o, .int .i64 d, .int .i64 s, .int .i64 f, .int .i64 i]] w fun e w' => e = .returned (.bool (isW o)) ∧ Out w w' := by
  go_enter Tryz.func49, Tryz.ntmps49
  go_wp2
  go_ret
  exact ⟨rfl, Out.alloc (Out.refl _) _⟩
theorem refSlots_any (w : World) (a : Option Addr) (n cap : Nat) (l : List Ins) (hn : l.length = n) (hi : InsA w a l) (hm : n ≤ 3518437208883) : Calls Tryz.prog 20 #[.slice a n cap] w fun e w' => e = .returned (.int .i64 (slotsP l : Nat)) ∧ Out w w' := by
  have hb0 : ∀ k : Nat, ((l.take k).filter (fun x => isW x.o)).length ≤ n := fun k => Nat.le_trans (List.length_filter_le _ _) (by simp; omega)
  go_enter Tryz.func20, Tryz.ntmps20
  go_wp2
  go_loopw [3, 4] (fun c i wr => ∃ k m : Nat, k ≤ n ∧ Hid (m = ((l.take k).filter (fun x => isW x.o)).length) ∧ m ≤ n ∧ c = .int .i64 ((k : Int) + m) ∧ i = .int .i64 k ∧ Out w wr) (fun _ i _ => n - (intOf i).toNat)
  case atStart => exact ⟨0, 0, by omega, by simp [Hid], by omega, by simp, rfl, Out.refl _⟩
  case round =>
    obtain ⟨k, m, hk, hm1, hm2, rfl, rfl, hor⟩ := hrel
    by_cases hkl : k < n
    · have hlt : (k : Int) < n := by omega
      rcases hi with hz | ⟨b, off, rfl, hc⟩
      · simp [hz] at hn; omega
      obtain ⟨x, hx⟩ : ∃ x, l[k]? = some x := ⟨_, List.getElem?_eq_getElem (by omega)⟩
      obtain ⟨c0, c1, c2, c3, c4⟩ := hc k x hx
      have q0 := cell_later hor c0
      have q1 := cell_later hor c1
      have q2 := cell_later hor c2
      have q3 := cell_later hor c3
      have q4 := cell_later hor c4
      have hF := take_filter l k x hx
      have hb1 := hb0 (k + 1)
      obtain ⟨o, d, s, f, i⟩ := x
      clear hc c0 c1 c2 c3 c4
      simp only at q0 q1 q2 q3 q4 hF
      cases hw : isW o
      · rw [hw] at hF
        go_wp2_with (go_at_call 49; refine (refWide_any _ _ _ _ _ _).mono ?_; rw [hw]; rintro e w1 ⟨rfl, h1⟩)
        go_roundw
        case rel => exact ⟨k + 1, m, by omega, by have := hm1.out; simp [Hid]; rw [hF]; simpa using this, hm2, by simp; omega, by simp, Out.trans hor h1⟩
        case measure => simp [intOf]; omega
      · rw [hw] at hF
        have hm3 : m + 1 ≤ n := by have := hm1.out; simp at hF; omega
        go_wp2_with (go_at_call 49; refine (refWide_any _ _ _ _ _ _).mono ?_; rw [hw]; rintro e w1 ⟨rfl, h1⟩)
        go_roundw
        case rel => exact ⟨k + 1, m + 1, by omega, by have := hm1.out; simp [Hid]; rw [hF]; simp; exact this, hm3, by simp; omega, by simp, Out.trans hor h1⟩
        case measure => simp [intOf]; omega
    · have hlt : ¬ (k : Int) < n := by omega
      have hfin : Hid (slotsP l = k + m) := hidOf (by have := hm1.out; rw [List.take_of_length_le (by omega)] at this; unfold slotsP; omega)
      go_wp2
      go_ret
      exact ⟨by rw [hfin.out]; simp, hor⟩
theorem refMany_any (m : Img) (w : World) (ta fa da : Option Addr) (tc fc dc : Nat) (h : InsA w ta m.T) (hn : m.T.length ≤ 3518437208883) : Calls Tryz.prog 43 #[.agg #[.slice ta m.T.length tc, .slice fa m.F.length fc, .slice da m.D.length dc, .int .i64 m.en]] w fun e w' => e = .returned (.int .i64 (rN (cntP m))) ∧ Out w w' := by
  have C : Hid (∀ wx, Out w wx → Calls Tryz.prog 20 #[.slice ta m.T.length tc] wx fun e w' => e = .returned (.int .i64 (slotsP m.T : Nat)) ∧ Out wx w') := hidOf fun wx o => refSlots_any wx ta _ tc m.T rfl (h.out o) hn
  obtain ⟨R, hR⟩ : ∃ R, Hid (R = rN (cntP m)) := ⟨_, rfl⟩
  rw [← hR.out]
  unfold cntP at hR
  generalize slotsP m.T = z at *
  generalize m.F.length = fn at *
  generalize m.D.length = dn at *
  clear h
  go_enter Tryz.func43, Tryz.ntmps43
  by_cases h1 : 1048576 < z
  · have h1' : (1048576 : Int) < z := by omega
    have hf : Hid (R = 0) := hidOf (by rw [hR.out, if_pos h1]; rfl)
    clear hR
    go_wp2_with (go_at_call 20; refine (C.out _ (Out.alloc (Out.refl _) _)).mono ?_; rintro e w1 ⟨rfl, o1⟩)
    go_ret
    exact ⟨by rw [hf.out]; rfl, Out.trans (Out.alloc (Out.refl _) _) o1⟩
  · have h1' : ¬ (1048576 : Int) < z := by omega
    by_cases h2 : 4096 < fn
    · have h2' : (4096 : Int) < fn := by omega
      have hf : Hid (R = 1) := hidOf (by rw [hR.out, if_neg h1, if_pos h2]; rfl)
      clear hR
      go_wp2_with (go_at_call 20; refine (C.out _ (Out.alloc (Out.refl _) _)).mono ?_; rintro e w1 ⟨rfl, o1⟩; have x1 := cell_later o1 (cell_fresh w _ _ 1 _ rfl))
      go_ret
      exact ⟨by rw [hf.out]; rfl, Out.trans (Out.alloc (Out.refl _) _) o1⟩
    · have h2' : ¬ (4096 : Int) < fn := by omega
      by_cases h3 : 1024 < dn
      · have h3' : (1024 : Int) < dn := by omega
        have hf : Hid (R = 2) := hidOf (by rw [hR.out, if_neg h1, if_neg h2, if_pos h3]; rfl)
        clear hR
        go_wp2_with (go_at_call 20; refine (C.out _ (Out.alloc (Out.refl _) _)).mono ?_; rintro e w1 ⟨rfl, o1⟩; have x1 := cell_later o1 (cell_fresh w _ _ 1 _ rfl); have x2 := cell_later o1 (cell_fresh w _ _ 2 _ rfl))
        go_ret
        exact ⟨by rw [hf.out]; rfl, Out.trans (Out.alloc (Out.refl _) _) o1⟩
      · have h3' : ¬ (1024 : Int) < dn := by omega
        have hf : Hid (R = -1) := hidOf (by rw [hR.out, if_neg h1, if_neg h2, if_neg h3]; rfl)
        clear hR
        go_wp2_with (go_at_call 20; refine (C.out _ (Out.alloc (Out.refl _) _)).mono ?_; rintro e w1 ⟨rfl, o1⟩; have x1 := cell_later o1 (cell_fresh w _ _ 1 _ rfl); have x2 := cell_later o1 (cell_fresh w _ _ 2 _ rfl))
        go_ret
        exact ⟨by rw [hf.out]; rfl, Out.trans (Out.alloc (Out.refl _) _) o1⟩
theorem own_ty {w : World} {B B' z z' n n' k : Nat} {e e' : TypeId} {v v' : Value} {V V' : List Value} (h : w.ownsRow B e z v n V) (h' : w.ownsRow B' e' z' v' n' V') (he : ¬ e = e') (hk : v.ownBlock = some k) (hk' : v'.ownBlock = some k) : False := by
  rcases h.2 with ⟨rfl, _⟩ | ⟨g, c, cur, rfl, _, hg, _⟩
  · cases hk
  · rcases h'.2 with ⟨rfl, _⟩ | ⟨g', c', cur', rfl, _, hg', _⟩
    · cases hk'
    · have e1 : g = k := by simpa [Value.ownBlock] using hk
      have e2 : g' = k := by simpa [Value.ownBlock] using hk'
      rw [e1] at hg
      rw [e2] at hg'
      have := hg.symm.trans hg'
      simp only [Option.some.injEq, Obj.cells.injEq] at this
      exact he this.2.1
theorem infoBo : (Tryz.prog.info? 4).map (fun i => (i.zero, i.size, i.bytes)) = some (some (.bool false), 1, 1) := by kernel_rfl
def boV (B : List Bool) : List Value := B.map Value.bool
structure TxS (w wr : World) (p : Nat) (v0 : Value) (S f d k : Int) (A : List Ins) (B : List Bool) (ta sa : Option Addr) (tn tc sn sc : Nat) : Prop where
  rg : RgA wr p v0 S f d k (.slice ta tn tc) (.slice sa sn sc) 0
  ot : wr.ownsRow w.heap.size 67 5 (.slice ta tn tc) tn (insV A)
  ob : wr.ownsRow w.heap.size 4 1 (.slice sa sn sc) sn (boV B)
  ch : Chg (fun k => k = p) w wr
theorem TxS.out {w wr wx : World} {p : Nat} {v0 : Value} {S f d k : Int} {A : List Ins} {B : List Bool} {ta sa : Option Addr} {tn tc sn sc : Nat} (h : TxS w wr p v0 S f d k A B ta sa tn tc sn sc) (o : Out wr wx) : TxS w wx p v0 S f d k A B ta sa tn tc sn sc :=
  ⟨h.rg.out o, owns_chg (S := fun _ => False) h.ot (fun _ _ h => h) (Chg.of_out o), owns_chg (S := fun _ => False) h.ob (fun _ _ h => h) (Chg.of_out o), h.ch.trans (T := fun _ => False) (Chg.of_out o) (fun _ h _ => h.elim)⟩
theorem TxS.pushB {w wx w8 : World} {p : Nat} {v0 : Value} {S f d k : Int} {A : List Ins} {B : List Bool} {ta sa a' : Option Addr} {tn tc sn sc c' : Nat} {b : Bool} (h : TxS w wx p v0 S f d k A B ta sa tn tc sn sc) (hp : p < w.heap.size) (h1 : w8.ownsRow w.heap.size 4 1 (.slice a' (sn + 1) c') (sn + 1) (boV (B ++ [b]))) (gr : wx.grownBy w8 (Value.slice sa sn sc).ownBlock) : TxS w (w8.setCell ⟨p, 6, none⟩ (.slice a' (sn + 1) c')) p v0 S f d k A (B ++ [b]) ta a' tn tc (sn + 1) c' := by
  have cg : Chg (fun k => (Value.slice sa sn sc).ownBlock = some k) wx w8 := Chg.of_grown gr (fun k h => h)
  have cs := Chg.setCell (S := fun k => k = p) (Chg.refl _ w8) (p := ⟨p, 6, none⟩) rfl (.slice a' (sn + 1) c')
  have np : ¬ (Value.slice sa sn sc).ownBlock = some p := fun e => by have := (h.ob.lt _ e).1; omega
  refine ⟨(h.rg.chg cg np).s6 _, ?_, owns_chg h1 (fun k hk e => by have := (h1.lt k hk).1; omega) cs, ?_⟩
  · exact owns_chg (owns_chg h.ot (fun k hk e => own_ty h.ot h.ob (by decide) hk e) cg) (fun k hk e => by have := (h.ot.lt k hk).1; omega) cs
  · exact (h.ch.trans cg (fun x hx hl => by have := (h.ob.lt _ hx).1; omega)).trans cs (fun _ h _ => h)
theorem TxS.pushT {w wx w8 : World} {p : Nat} {v0 : Value} {S f d k : Int} {A : List Ins} {B : List Bool} {ta sa a' : Option Addr} {tn tc sn sc c' : Nat} {x : Ins} (h : TxS w wx p v0 S f d k A B ta sa tn tc sn sc) (hp : p < w.heap.size) (h1 : w8.ownsRow w.heap.size 67 5 (.slice a' (tn + 1) c') (tn + 1) (insV A ++ x.cs)) (gr : wx.grownBy w8 (Value.slice ta tn tc).ownBlock) : TxS w (w8.setCell ⟨p, 5, none⟩ (.slice a' (tn + 1) c')) p v0 S f d k (A ++ [x]) B a' sa (tn + 1) c' sn sc := by
  have cg : Chg (fun k => (Value.slice ta tn tc).ownBlock = some k) wx w8 := Chg.of_grown gr (fun k h => h)
  have cs := Chg.setCell (S := fun k => k = p) (Chg.refl _ w8) (p := ⟨p, 5, none⟩) rfl (.slice a' (tn + 1) c')
  have np : ¬ (Value.slice ta tn tc).ownBlock = some p := fun e => by have := (h.ot.lt _ e).1; omega
  refine ⟨(h.rg.chg cg np).s5 _, ?_, ?_, ?_⟩
  · rw [insV_snoc]; exact owns_chg h1 (fun k hk e => by have := (h1.lt k hk).1; omega) cs
  · exact owns_chg (owns_chg h.ob (fun k hk e => own_ty h.ob h.ot (by decide) hk e) cg) (fun k hk e => by have := (h.ob.lt k hk).1; omega) cs
  · exact (h.ch.trans cg (fun x hx hl => by have := (h.ot.lt _ hx).1; omega)).trans cs (fun _ h _ => h)
theorem TxS.chg {Z : Nat → Prop} {w wr wx : World} {p : Nat} {v0 : Value} {S f d k : Int} {A : List Ins} {B : List Bool} {ta sa : Option Addr} {tn tc sn sc : Nat} (h : TxS w wr p v0 S f d k A B ta sa tn tc sn sc) (c : Chg Z wr wx) (hp : ¬ Z p) (h1 : ∀ k, (Value.slice ta tn tc).ownBlock = some k → ¬ Z k) (h2 : ∀ k, (Value.slice sa sn sc).ownBlock = some k → ¬ Z k) (h3 : ∀ k, Z k → k < w.heap.size → k = p) : TxS w wx p v0 S f d k A B ta sa tn tc sn sc :=
  ⟨h.rg.chg c hp, owns_chg h.ot h1 c, owns_chg h.ob h2 c, h.ch.trans c (fun x hx hl => h3 x hx hl)⟩
theorem own_not {w : World} {B z n k I : Nat} {e t : TypeId} {v : Value} {V : List Value} {cs : Array Value} (h : w.ownsRow B e z v n V) (hb : w.heap[I]? = some (.cells cs t (0, 0))) (he : ¬ e = t) (hk : v.ownBlock = some k) : ¬ k = I := fun ek => by
  rcases h.2 with ⟨rfl, _⟩ | ⟨g, c, cur, rfl, _, hg, _⟩
  · cases hk
  · have e1 : g = k := by simpa [Value.ownBlock] using hk
    rw [e1, ek] at hg
    have := hg.symm.trans hb
    simp only [Option.some.injEq, Obj.cells.injEq] at this
    exact he this.2.1
theorem app_Bo {ops : Array Oper} {rest : List Oper} {o : Oper} {ac : Act} {Q : Exit → Act → World → Prop} (w wx : World) (hgd : o.guard = none) (s x : Operand)
    (ho : o.op = .call { callee := .builtin .append, args := #[s, x], argTypes := #[79, 79] })
    (sa : Option Addr) (sc sn : Nat) (B : List Bool) (b : Bool) (hs : ac.eval s = .slice sa sn sc) (hown : wx.ownsRow w.heap.size 4 1 (.slice sa sn sc) sn (boV B)) (hle : w.heap.size ≤ wx.heap.size)
    (ad : Addr) (cm : Nat) (hx : ac.eval x = .slice (some ad) 1 cm) (hc : ∀ j u, ([Value.bool b] : List Value)[j]? = some u → wx.cell? (ad.add j) = some u) (hsz : sn ≤ 1000000000000)
    (k : ∀ a' c' w', w'.ownsRow w.heap.size 4 1 (.slice a' (sn + 1) c') (sn + 1) (boV (B ++ [b])) → wx.grownBy w' (Value.slice sa sn sc).ownBlock → wpList Tryz.prog ops Q rest (ac.put o.dst (.slice a' (sn + 1) c')) w') : wpList Tryz.prog ops Q (o :: rest) ac wx := by
  obtain ⟨i0, hi0, hz0, hz1, hz2⟩ := info_parts infoBo
  refine wpList_append_own wx hgd s x 79 ho w.heap.size 4 i0 _ 1 1 Tryz.underlying79 hi0 hz0 hz1 hz2 rfl (by decide) (.slice sa sn sc) sn (boV B) hs hown ad 1 cm [.bool b] hx rfl hc (by simp [Value.oneCell']) (by unfold maxLen; omega) (by omega) hle ?_
  intro v' w' h1 h2 _
  obtain ⟨a', c', rfl⟩ := own_form h1
  refine k a' c' w' ?_ h2
  rw [show boV (B ++ [b]) = boV B ++ [.bool b] by simp [boV]]
  exact h1
end Go.Proofs.YthififblejbleaaGreatDoor
