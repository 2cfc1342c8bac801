import Derived.Test.YtcomhlimgocoaaaGreatDoorGh00
import Derived.Test.YtcomhlimgocoaaaGreatDoorGc15
import Derived.Test.YtcomhlimgocoaaaGreatDoorGc16
import Derived.Test.YtcomhlimgocoaaaGreatDoorGc10
import Derived.Test.YtcomhlimgocoaaaGreatDoorGc18
import Derived.Test.YtcomhlimgocoaaaGreatDoorGc37
import Derived.Test.YtcomhlimgocoaaaGreatDoorGc38
import Derived.Test.YtcomhlimgocoaaaGreatDoorGc05
import Derived.BigQuiet
import Derived.Deep.QuietTactic
import Derived.Deep.DeepCutAuto
import Derived.Test.YtcomhlimgocoaaaGreatDoorGc39
namespace Go.Proofs.YtcomhlimgocoaaaGreatDoor
open Go.RowKit
set_option linter.unusedVariables false
set_option linter.unusedSimpArgs false
/-- where the reference's reader stands -/
structure S4 where
  k : Nat
  bad : Bool
  far : Bool
def A4 (w : World) (p : Nat) (l : List UInt8) (s : S4) : Prop := R4At w p l s.k s.bad s.far
def E4 (p : Nat) (l : List UInt8) (s : S4) (w w' : World) : Prop := M4 p l s.k s.bad s.far w w'
def S4.In (l : List UInt8) (s : S4) : Prop := s.k ≤ l.length
def S4.mk4 (l : List UInt8) (c : UInt8) (s : S4) : S4 := ⟨mkK l s.k s.bad c, mkB l s.k s.bad c, s.far⟩
def S4.rg (l : List UInt8) (s : S4) : S4 := ⟨wdK l s.k, rgB l s.k s.bad, s.far⟩
def S4.tg (l : List UInt8) (s : S4) : S4 := ⟨wdK l s.k, s.bad || !nameP (wdP l s.k), s.far⟩
def S4.pk (l : List UInt8) (s : S4) : S4 := ⟨blK l s.k, s.bad, s.far⟩
def S4.sg (l : List UInt8) (up down : Int) (al : Bool) (s : S4) : S4 := ⟨(sgR l s.k s.bad s.far up down al).2.1, (sgR l s.k s.bad s.far up down al).2.2.1, (sgR l s.k s.bad s.far up down al).2.2.2⟩
def S4.sv (l : List UInt8) (up down : Int) (al : Bool) (s : S4) : Int := (sgR l s.k s.bad s.far up down al).1
theorem S4.In.mk4 {l : List UInt8} {s : S4} (h : s.In l) {c : UInt8} (hc : ¬ c = 0) : (s.mk4 l c).In l := mkK_le h hc
theorem S4.In.rg {l : List UInt8} {s : S4} (h : s.In l) : (s.rg l).In l := wdK_le h
theorem S4.In.tg {l : List UInt8} {s : S4} (h : s.In l) : (s.tg l).In l := wdK_le h
theorem S4.In.pk {l : List UInt8} {s : S4} (h : s.In l) : (s.pk l).In l := blK_le h
theorem sgR_pos (l : List UInt8) (k : Nat) (bad far : Bool) (up down : Int) (al : Bool) : (sgR l k bad far up down al).2.1 = sgK l k ∨ (sgR l k bad far up down al).2.1 = blK l (sgK l k) ∨ (sgR l k bad far up down al).2.1 = rnK l (sgK l k) := by
  unfold sgR
  split
  · exact .inl rfl
  · split
    · exact .inr (.inl rfl)
    · split
      · exact .inr (.inr rfl)
      · split
        · exact .inr (.inr rfl)
        · exact .inr (.inr rfl)
theorem S4.In.sg {l : List UInt8} {s : S4} (h : s.In l) {up down : Int} {al : Bool} : (s.sg l up down al).In l := by
  have h1 := sgK_le (l := l) (k := s.k) h
  have h2 := blK_le h1
  have h3 := rnK_le h1
  show (sgR l s.k s.bad s.far up down al).2.1 ≤ l.length
  rcases sgR_pos l s.k s.bad s.far up down al with e | e | e <;> rw [e] <;> assumption
theorem wrap_in (x : Int) : -9223372036854775808 ≤ IntKind.i64.wrap x ∧ IntKind.i64.wrap x < 9223372036854775808 := by rw [IntKind.wrap_i64]; omega
theorem sv_in {l : List UInt8} {s : S4} {up down : Int} {al : Bool} : -9223372036854775808 ≤ s.sv l up down al ∧ s.sv l up down al < 9223372036854775808 := by
  show -9223372036854775808 ≤ (sgR l s.k s.bad s.far up down al).1 ∧ (sgR l s.k s.bad s.far up down al).1 < 9223372036854775808
  unfold sgR
  split
  · exact ⟨by simp, by simp⟩
  · split
    · exact ⟨by simp, by simp⟩
    · split
      · exact ⟨by simp, by simp⟩
      · split
        · exact ⟨by simp, by simp⟩
        · simp only
          split
          · exact wrap_in _
          · exact wrap_in _
theorem E4.then {p : Nat} {l : List UInt8} {s s' : S4} {w w1 w2 : World} (h : E4 p l s w w1) (k : E4 p l s' w1 w2) : E4 p l s' w w2 := M4.then h k
theorem E4.at {p : Nat} {l : List UInt8} {s : S4} {w w1 : World} (h : E4 p l s w w1) : A4 w1 p l s := h.1
theorem mark4_s (w : World) (p : Nat) (l : List UInt8) (s : S4) (c : UInt8) (v : Int) (hv : (c.toNat : Int) = v) (h : A4 w p l s) (hk : s.In l) (hl : l.length ≤ 140737488355328) : Calls Tryz.prog 74 #[.pointer (some ⟨p, 0, none⟩), .int .u8 v] w fun e w' => (∃ v, e = .returned v) ∧ E4 p l (s.mk4 l c) w w' := by
  subst hv; exact mark4_any w p l s.k s.bad s.far c h hk hl
theorem reg4_s (w : World) (p : Nat) (l : List UInt8) (s : S4) (h : A4 w p l s) (hk : s.In l) (hl : l.length ≤ 140737488355328) : Calls Tryz.prog 73 #[.pointer (some ⟨p, 0, none⟩)] w fun e w' => e = .returned (.int .i64 (rgV l s.k)) ∧ E4 p l (s.rg l) w w' := reg4_any w p l s.k s.bad s.far h hk hl
theorem target4_s (w : World) (p : Nat) (l : List UInt8) (s : S4) (h : A4 w p l s) (hk : s.In l) (hl : l.length ≤ 140737488355328) : Calls Tryz.prog 76 #[.pointer (some ⟨p, 0, none⟩)] w fun e w' => e = .returned (.string ⟨(wdP l s.k).toArray⟩) ∧ E4 p l (s.tg l) w w' := target4_any w p l s.k s.bad s.far h hk hl
theorem peek4_s (w : World) (p : Nat) (l : List UInt8) (s : S4) (h : A4 w p l s) (hk : s.In l) (hl : l.length ≤ 140737488355328) : Calls Tryz.prog 68 #[.pointer (some ⟨p, 0, none⟩)] w fun e w' => e = .returned (.int .u8 ((pkP l s.k).toNat : Int)) ∧ E4 p l (s.pk l) w w' := peek4_any w p l s.k s.bad s.far h hk hl
theorem signed4_s (w : World) (p : Nat) (l : List UInt8) (s : S4) (up down : Int) (al : Bool) (h : A4 w p l s) (hk : s.In l) (hl : l.length ≤ 140737488355328) : Calls Tryz.prog 79 #[.pointer (some ⟨p, 0, none⟩), .int .u64 up, .int .u64 down, .bool al] w fun e w' => e = .returned (.int .i64 (s.sv l up down al)) ∧ E4 p l (s.sg l up down al) w w' := signed4_any w p l s.k s.bad s.far up down al h hk hl
/-- a number of 32 bits -/
def S4.im (l : List UInt8) (s : S4) : S4 := s.sg l 4294967295 2147483648 false
def S4.iv (l : List UInt8) (s : S4) : Int := if 2147483647 < s.sv l 4294967295 2147483648 false then s.sv l 4294967295 2147483648 false - 4294967296 else s.sv l 4294967295 2147483648 false
theorem S4.In.im {l : List UInt8} {s : S4} (h : s.In l) : (s.im l).In l := h.sg
set_option maxRecDepth 8000 in
theorem imm4_s (w : World) (p : Nat) (l : List UInt8) (s : S4) (h : A4 w p l s) (hk : s.In l) (hl : l.length ≤ 140737488355328) : Calls Tryz.prog 78 #[.pointer (some ⟨p, 0, none⟩)] w fun e w' => e = .returned (.int .i64 (s.iv l)) ∧ E4 p l (s.im l) w w' := by
  have CS := hidOf (signed4_s w p l s 4294967295 2147483648 false h hk hl)
  have hv := sv_in (l := l) (s := s) (up := 4294967295) (down := 2147483648) (al := false)
  unfold S4.im S4.iv
  generalize s.sv l 4294967295 2147483648 false = V at *
  generalize s.sg l 4294967295 2147483648 false = S at *
  clear h hk hl
  by_cases hg : 2147483647 < V
  · rw [if_pos hg]
    have hw : IntKind.i64.wrap (V - 4294967296) = V - 4294967296 := by rw [IntKind.wrap_i64]; omega
    go_enter Tryz.func78, Tryz.ntmps78
    go_wp2_with (go_at_call 79; refine CS.out.mono ?_; rintro e w1 ⟨rfl, hm⟩; have HM := hidOf hm; clear hm)
    go_ret
    exact ⟨rfl, HM.out⟩
  · rw [if_neg hg]
    go_enter Tryz.func78, Tryz.ntmps78
    go_wp2_with (go_at_call 79; refine CS.out.mono ?_; rintro e w1 ⟨rfl, hm⟩; have HM := hidOf hm; clear hm)
    go_ret
    exact ⟨rfl, HM.out⟩
/-- a place -/
def S4.pl (l : List UInt8) (s : S4) : S4 := (((s.mk4 l 91).rg l).sg l 32767 32768 true).mk4 l 93
def S4.pr (l : List UInt8) (s : S4) : Int := rgV l (s.mk4 l 91).k
def S4.pf (l : List UInt8) (s : S4) : Int := ((s.mk4 l 91).rg l).sv l 32767 32768 true
theorem S4.In.pl {l : List UInt8} {s : S4} (h : s.In l) : (s.pl l).In l := ((h.mk4 (c := 91) (by decide)).rg.sg).mk4 (c := 93) (by decide)
set_option maxRecDepth 8000 in
theorem place4_s (w : World) (p : Nat) (l : List UInt8) (s : S4) (h : A4 w p l s) (hk : s.In l) (hl : l.length ≤ 140737488355328) : Calls Tryz.prog 77 #[.pointer (some ⟨p, 0, none⟩)] w fun e w' => e = .returned (.tuple #[.int .i64 (s.pr l), .int .i64 (s.pf l)]) ∧ E4 p l (s.pl l) w w' := by
  have k1 := hk.mk4 (c := 91) (by decide)
  have C1 := hidOf (mark4_s w p l s 91 91 rfl h hk hl)
  have C2 := hidOf (fun wx hx => reg4_s wx p l (s.mk4 l 91) hx k1 hl)
  have C3 := hidOf (fun wx hx => signed4_s wx p l ((s.mk4 l 91).rg l) 32767 32768 true hx k1.rg hl)
  have C4 := hidOf (fun wx hx => mark4_s wx p l (((s.mk4 l 91).rg l).sg l 32767 32768 true) 93 93 rfl hx k1.rg.sg hl)
  show Calls _ _ _ _ fun e w' => e = .returned (.tuple #[.int .i64 (rgV l (s.mk4 l 91).k), .int .i64 (((s.mk4 l 91).rg l).sv l 32767 32768 true)]) ∧ E4 p l ((((s.mk4 l 91).rg l).sg l 32767 32768 true).mk4 l 93) w w'
  generalize ((((s.mk4 l 91).rg l).sg l 32767 32768 true).mk4 l 93) = T4 at *
  generalize (((s.mk4 l 91).rg l).sg l 32767 32768 true) = T3 at *
  generalize (((s.mk4 l 91).rg l).sv l 32767 32768 true) = V3 at *
  generalize ((s.mk4 l 91).rg l) = T2 at *
  generalize rgV l (s.mk4 l 91).k = V2 at *
  generalize s.mk4 l 91 = T1 at *
  clear h hk hl k1
  go_enter Tryz.func77, Tryz.ntmps77
  go_upto_region 2 with (go_at_call 74; refine C1.out.mono ?_; rintro e w1 ⟨⟨v, rfl⟩, hm⟩; have H1 := hidOf hm; clear hm)
  go_upto_region 3 with (go_at_call 73; refine (C2.out _ H1.out.at).mono ?_; rintro e w2 ⟨rfl, hm⟩; have H2 := hidOf (H1.out.then hm); clear hm)
  go_upto_region 4 with (go_at_call 79; refine (C3.out _ H2.out.at).mono ?_; rintro e w3 ⟨rfl, hm⟩; have H3 := hidOf (H2.out.then hm); clear hm)
  go_wp2_with (go_at_call 74; refine (C4.out _ H3.out.at).mono ?_; rintro e w4 ⟨⟨v4, rfl⟩, hm⟩; have H4 := hidOf (H3.out.then hm); clear hm)
  go_ret2
  exact ⟨rfl, H4.out⟩
end Go.Proofs.YtcomhlimgocoaaaGreatDoor
namespace Go.Proofs.YtcomhlimgocoaaaGreatDoor
open Go.RowKit
set_option linter.unusedVariables false
set_option linter.unusedSimpArgs false
theorem drop_bl (l : List UInt8) (k : Nat) : l.drop (blK l k) = (l.drop k).dropWhile isBl := by
  have h := List.takeWhile_append_dropWhile (p := isBl) (l := l.drop k)
  have h2 : l.drop (blK l k) = (l.drop k).drop ((l.drop k).takeWhile isBl).length := by rw [List.drop_drop]; rfl
  rw [h2]
  conv => lhs; rw [← h]
  rw [List.drop_append_of_le_length (by simp)]
  simp
theorem tok_dw : ∀ u : List UInt8, tokP u = tokP (u.dropWhile isBl) ∧ restP u = restP (u.dropWhile isBl)
  | [] => ⟨rfl, rfl⟩
  | c :: r => by
    cases h : isBl c
    · rw [List.dropWhile_cons, h]; exact ⟨rfl, rfl⟩
    · rw [List.dropWhile_cons, h]
      have hc : c = 32 ∨ c = 9 := by simpa [isBl] using h
      have t := tok_blank c r hc
      have ih := tok_dw r
      rw [t.1, t.2]
      exact ih
theorem view4 (l : List UInt8) (k : Nat) (hk : k ≤ l.length) :
    (pkP l k = 0 ∧ tokP (l.drop k) = [] ∧ restP (l.drop k) = [] ∧ blK l k = l.length)
    ∨ (∃ c, pkP l k = c ∧ blK l k < l.length ∧ (letP (bI c) || digP (bI c)) = true ∧ tokP (l.drop k) = rnP l k ∧ restP (l.drop k) = l.drop (rnK l k) ∧ (rnP l k).head? = some c)
    ∨ (∃ c, pkP l k = c ∧ blK l k < l.length ∧ (letP (bI c) || digP (bI c)) = false ∧ tokP (l.drop k) = [c] ∧ restP (l.drop k) = l.drop (blK l k + 1)) := by
  have hb := blK_le hk
  have t := tok_dw (l.drop k)
  rw [← drop_bl] at t
  have hd := drop_bl l k
  cases hv : l.drop (blK l k) with
  | nil =>
    have hlen := List.drop_eq_nil_iff.1 hv
    rw [hv] at t
    exact .inl ⟨by unfold pkP; rw [List.getElem?_eq_none (by omega)], t.1.trans tok_nil.1, t.2.trans tok_nil.2, by omega⟩
  | cons c v =>
    have hlt : blK l k < l.length := by
      apply Classical.byContradiction
      intro hn
      rw [List.drop_eq_nil_iff.2 (by omega)] at hv
      cases hv
    have hg : l[blK l k]? = some c := by
      have : (l.drop (blK l k))[0]? = some c := by rw [hv]; rfl
      rw [List.getElem?_drop] at this
      simpa using this
    have hp : pkP l k = c := by unfold pkP; rw [hg]
    have hnb : isBl c = false := by
      have h3 := List.head?_dropWhile_not isBl (l.drop k)
      rw [← hd, hv] at h3
      simpa using h3
    rw [hv] at t
    cases ho : (letP (bI c) || digP (bI c))
    · refine .inr (.inr ⟨c, hp, hlt, ho, ?_⟩)
      have hc : ¬ c = 32 ∧ ¬ c = 9 := by simpa [isBl] using hnb
      have t2 := tok_mark c v (by simpa [headOk] using ho) hc.1 hc.2
      have e : l.drop (blK l k + 1) = v := by
        rw [show blK l k + 1 = blK l k + 1 from rfl, ← List.drop_drop, hv]
        rfl
      rw [t.1, t.2, t2.1, t2.2, e]
      exact ⟨rfl, rfl⟩
    · refine .inr (.inl ⟨c, hp, hlt, ho, ?_⟩)
      have hr : runU c = true := by
        unfold runU runP
        rcases Bool.or_eq_true _ _ ▸ ho with h | h <;> simp [h]
      have hR : rnP l k = (c :: v).takeWhile runU := by unfold rnP; rw [hv]
      have hsp := List.takeWhile_append_dropWhile (p := runU) (l := c :: v)
      have hh : (rnP l k).head? = some c := by rw [hR, List.takeWhile_cons, hr]; rfl
      have t2 := tok_run (rnP l k) ((c :: v).dropWhile runU) (by
          rw [hR, List.takeWhile_cons, hr]
          simpa [headOk] using ho) (by rw [hR]; exact List.all_takeWhile) (by
          cases hd2 : (c :: v).dropWhile runU with
          | nil => rfl
          | cons x r =>
            have h3 := List.head?_dropWhile_not runU (c :: v)
            rw [hd2] at h3
            simpa [stopP] using h3)
      have e : l.drop (rnK l k) = (c :: v).dropWhile runU := by
        unfold rnK
        rw [← List.drop_drop, hv, hR]
        conv => lhs; rw [← hsp]
        rw [List.drop_append_of_le_length (by rw [hsp]; exact Nat.le_refl _)]
        rw [hsp]
        simp
      have e2 : c :: v = rnP l k ++ (c :: v).dropWhile runU := by rw [hR, hsp]
      rw [t.1, t.2, e, e2, t2.1]
      refine ⟨rfl, ?_, hh⟩
      rw [t2.2]
      rw [← e2]
end Go.Proofs.YtcomhlimgocoaaaGreatDoor
namespace Go.Proofs.YtcomhlimgocoaaaGreatDoor
open Go.RowKit
set_option linter.unusedVariables false
set_option linter.unusedSimpArgs false
/-- the program's reader and the reference's: both wrong, or at the same place -/
def Sim (l : List UInt8) (r : RS) (t : S4) : Prop := (r.wrong = true ∧ t.bad = true) ∨ (r.wrong = false ∧ t.bad = false ∧ r.outside = t.far ∧ t.In l ∧ r.tok = tokP (l.drop t.k) ∧ r.rest = restP (l.drop t.k))
theorem sim_mark {l : List UInt8} {r : RS} {t : S4} {c : UInt8} (h : Sim l r t) (hc : (letP (bI c) || digP (bI c)) = false) (h0 : ¬ c = 0) : Sim l (markS [c] r) (t.mk4 l c) := by
  rcases h with ⟨hw, hb⟩ | ⟨hw, hb, ho, hi, ht, hr⟩
  · refine .inl ⟨?_, by simp [S4.mk4, mkB, hb]⟩
    unfold markS skipP
    split <;> simp_all [RS.next]
  · rcases view4 l t.k hi with ⟨hp, v1, v2, v3⟩ | ⟨x, hp, v0, v1, v2, v3, v4⟩ | ⟨x, hp, v0, v1, v2, v3⟩
    · have hne : ¬ r.tok = [c] := by rw [ht, v1]; simp
      refine .inl ⟨by simp [markS, skipP, hne], ?_⟩
      have : ¬ (0 : UInt8) = c := fun e => h0 e.symm
      simp [S4.mk4, mkB, hp, this]
    · have hxc : ¬ x = c := fun e => by rw [e] at v1; rw [v1] at hc; cases hc
      have hne : ¬ r.tok = [c] := by
        rw [ht, v2]
        intro e
        rw [e] at v4
        simp at v4
        exact hxc v4.symm
      exact .inl ⟨by simp [markS, skipP, hne], by simp [S4.mk4, mkB, hp, hxc]⟩
    · by_cases hxc : x = c
      · have he : r.tok = [c] := by rw [ht, v2, hxc]
        refine .inr ⟨by simp [markS, skipP, he, RS.next, hw], by simp [S4.mk4, mkB, hb, hp, hxc], by simp [markS, skipP, he, RS.next, S4.mk4, ho], S4.In.mk4 hi h0, ?_, ?_⟩
        · simp [markS, skipP, he, RS.next, S4.mk4, mkK, hb, hp, hxc, hr, v3]
        · simp [markS, skipP, he, RS.next, S4.mk4, mkK, hb, hp, hxc, hr, v3]
      · have hne : ¬ r.tok = [c] := by rw [ht, v2]; simpa using hxc
        exact .inl ⟨by simp [markS, skipP, hne], by simp [S4.mk4, mkB, hp, hxc]⟩
theorem regN_head {l : List UInt8} {j : Nat} (h : regN l = some j) : l.head? = some 114 ∧ l = regL j ∧ j < 11 := by
  unfold regN at h
  have h1 := List.find?_some h
  have h2 := List.mem_of_find?_eq_some h
  have hj : j < 11 := List.mem_range.1 h2
  have e : l = regL j := by simpa using h1
  rw [e]
  exact ⟨(show ∀ k : Fin 11, (regL k.val).head? = some 114 by decide) ⟨j, hj⟩, rfl, hj⟩
theorem pk_bI {l : List UInt8} {k : Nat} {c : UInt8} (h : pkP l k = c) : ((pkP l k).toNat : Int) = bI c := by rw [h]; rfl
theorem sim_reg {l : List UInt8} {r : RS} {t : S4} (h : Sim l r t) : Sim l (regS r).1 (t.rg l) ∧ ((regS r).1.wrong = false → (regS r).2 = rgV l t.k) := by
  rcases h with ⟨hw, hb⟩ | ⟨hw, hb, ho, hi, ht, hr⟩
  · have hw2 : (regS r).1.wrong = true := by unfold regS; split <;> simp [RS.next, hw]
    exact ⟨.inl ⟨hw2, by simp [S4.rg, rgB, hb]⟩, fun e => by rw [hw2] at e; cases e⟩
  · have bad : regN r.tok = none → wdP l t.k = [] → Sim l (regS r).1 (t.rg l) ∧ ((regS r).1.wrong = false → (regS r).2 = rgV l t.k) := fun e1 e2 =>
      ⟨.inl ⟨by simp [regS, e1], by simp [S4.rg, rgB, e2, show regN [] = none from rfl]⟩, fun e => by simp [regS, e1] at e⟩
    have non : r.tok.head? ≠ some 114 → regN r.tok = none := fun hn => by
      cases e : regN r.tok with
      | none => rfl
      | some j => exact absurd (regN_head e).1 hn
    rcases view4 l t.k hi with ⟨hp, v1, v2, v3⟩ | ⟨x, hp, v0, v1, v2, v3, v4⟩ | ⟨x, hp, v0, v1, v2, v3⟩
    · exact bad (non (by rw [ht, v1]; simp)) (by unfold wdP; rw [hp]; rfl)
    · cases hL : letP (bI x)
      · refine bad (non (by rw [ht, v2, v4]; intro e; cases e; exact absurd hL (by decide))) (by unfold wdP; rw [pk_bI hp, hL]; rfl)
      · have hW : wdP l t.k = rnP l t.k := by unfold wdP; rw [pk_bI hp, hL]; rfl
        have hK : wdK l t.k = rnK l t.k := by unfold wdK; rw [pk_bI hp, hL]; rfl
        have hT : r.tok = wdP l t.k := by rw [hW, ht, v2]
        cases e : regN r.tok with
        | none => exact ⟨.inl ⟨by simp [regS, e], by simp [S4.rg, rgB, ← hT, e]⟩, fun e2 => by simp [regS, e] at e2⟩
        | some j =>
          refine ⟨.inr ⟨by simp [regS, e, RS.next, hw], by simp [S4.rg, rgB, hb, ← hT, e], by simp [regS, e, RS.next, S4.rg, ho], S4.In.rg hi, ?_, ?_⟩, fun _ => by simp [regS, e, rgV, ← hT]⟩
          · simp [regS, e, RS.next, S4.rg, hK, hr, v3]
          · simp [regS, e, RS.next, S4.rg, hK, hr, v3]
    · have hL : letP (bI x) = false := by cases h : letP (bI x) <;> simp_all
      refine bad (non (by rw [ht, v2]; intro e; simp at e; subst e; exact absurd hL (by decide))) (by unfold wdP; rw [pk_bI hp, hL]; rfl)
theorem sim_name {l : List UInt8} {r : RS} {t : S4} (h : Sim l r t) : Sim l (nameS r) (t.tg l) ∧ ((nameS r).wrong = false → (nameS r).tgt = wdP l t.k) := by
  rcases h with ⟨hw, hb⟩ | ⟨hw, hb, ho, hi, ht, hr⟩
  · exact ⟨.inl ⟨by simp [nameS, RS.next, hw], by simp [S4.tg, hb]⟩, fun e => by simp [nameS, RS.next, hw] at e⟩
  · have bad : nameP r.tok = false → wdP l t.k = [] → Sim l (nameS r) (t.tg l) ∧ ((nameS r).wrong = false → (nameS r).tgt = wdP l t.k) := fun e1 e2 =>
      ⟨.inl ⟨by simp [nameS, RS.next, e1], by simp [S4.tg, e2, show nameP [] = false from rfl]⟩, fun e => by simp [nameS, RS.next, e1] at e⟩
    rcases view4 l t.k hi with ⟨hp, v1, v2, v3⟩ | ⟨x, hp, v0, v1, v2, v3, v4⟩ | ⟨x, hp, v0, v1, v2, v3⟩
    · exact bad (by rw [ht, v1]; rfl) (by unfold wdP; rw [hp]; rfl)
    · cases hL : letP (bI x)
      · refine bad ?_ (by unfold wdP; rw [pk_bI hp, hL]; rfl)
        rw [ht, v2]
        have hs : startP (rnP l t.k) = false := by
          cases hR : rnP l t.k with
          | nil => rfl
          | cons a b => rw [hR] at v4; simp at v4; subst v4; exact hL
        unfold nameP
        rw [hs]; simp
      · have hW : wdP l t.k = rnP l t.k := by unfold wdP; rw [pk_bI hp, hL]; rfl
        have hK : wdK l t.k = rnK l t.k := by unfold wdK; rw [pk_bI hp, hL]; rfl
        have hT : r.tok = wdP l t.k := by rw [hW, ht, v2]
        cases e : nameP r.tok
        · exact ⟨.inl ⟨by simp [nameS, RS.next, e], by simp [S4.tg, ← hT, e]⟩, fun e2 => by simp [nameS, RS.next, e] at e2⟩
        · refine ⟨.inr ⟨by simp [nameS, RS.next, hw, e], by simp [S4.tg, hb, ← hT, e], by simp [nameS, RS.next, S4.tg, ho], S4.In.tg hi, ?_, ?_⟩, fun _ => by simp [nameS, RS.next, hT]⟩
          · simp [nameS, RS.next, S4.tg, hK, hr, v3]
          · simp [nameS, RS.next, S4.tg, hK, hr, v3]
    · have hL : letP (bI x) = false := by cases h : letP (bI x) <;> simp_all
      refine bad ?_ (by unfold wdP; rw [pk_bI hp, hL]; rfl)
      rw [ht, v2]
      have hs : startP [x] = false := hL
      unfold nameP
      rw [hs]; simp
end Go.Proofs.YtcomhlimgocoaaaGreatDoor
namespace Go.Proofs.YtcomhlimgocoaaaGreatDoor
open Go.RowKit
set_option linter.unusedVariables false
set_option linter.unusedSimpArgs false
theorem bI_in (b : UInt8) : 0 ≤ bI b ∧ bI b < 256 := by have := b.toNat_lt; unfold bI; omega
theorem bI_fin (P : Int → Prop) (h : ∀ n : Fin 256, P (n.val : Int)) (b : UInt8) : P (bI b) := h ⟨b.toNat, b.toNat_lt⟩
theorem hx_dig (b : UInt8) (h : digU b = true) : hxV (bI b) = bI b - 48 ∧ 48 ≤ b.toNat ∧ b.toNat ≤ 57 := by
  have h2 := (digU_iff b).1 h
  have h3 : digP (bI b) = true := h
  unfold hxV
  rw [if_pos h3]
  exact ⟨rfl, h2⟩
theorem hx_nod (b : UInt8) (h : digU b = false) : hxV (bI b) < 0 ∨ 9 < hxV (bI b) := by
  have h3 : digP (bI b) = false := h
  unfold hxV
  rw [h3]
  have := bI_in b
  simp only [Bool.false_eq_true, if_false]
  split
  · omega
  · split
    · omega
    · omega
theorem hx_hexF : ∀ n : Fin 256, (hexP (n.val : Int) = true → hxV (n.val : Int) = hexD (n.val : Int) ∧ 0 ≤ hxV (n.val : Int) ∧ hxV (n.val : Int) ≤ 15) ∧ (hexP (n.val : Int) = false → hxV (n.val : Int) < 0) := by decide +kernel
theorem hx_hex (b : UInt8) : (hexP (bI b) = true → hxV (bI b) = hexD (bI b) ∧ 0 ≤ hxV (bI b) ∧ hxV (bI b) ≤ 15) ∧ (hexP (bI b) = false → hxV (bI b) < 0) := bI_fin (fun x => (hexP x = true → hxV x = hexD x ∧ 0 ≤ hxV x ∧ hxV x ≤ 15) ∧ (hexP x = false → hxV x < 0)) hx_hexF b
theorem vF10_no : ∀ (l : List UInt8) (v : Int) (ov : Bool), l.all digU = false → vF 10 v ov l = none
  | [], v, ov, h => by simp at h
  | b :: l, v, ov, h => by
    rw [vF]
    by_cases hc : hxV (bI b) < 0 ∨ (10 : Int) = 10 ∧ 9 < hxV (bI b)
    · rw [if_pos hc]
    · rw [if_neg hc]
      rw [List.all_cons] at h
      cases hb : digU b
      · rcases hx_nod b hb with h1 | h1
        · exact absurd (.inl h1) hc
        · exact absurd (.inr ⟨rfl, h1⟩) hc
      · rw [hb, Bool.true_and] at h
        exact vF10_no l _ _ h
theorem vF10_some : ∀ (l : List UInt8) (v : Int) (ov : Bool), l.all digU = true → ∃ v' ov', vF 10 v ov l = some (v', ov') ∧ (ov = true → ov' = true) ∧ (∀ n : Nat, v = (n : Int) → n ≤ 18446744073709551615 → ov = false → ov' = decide (18446744073709551615 < decV n l) ∧ (ov' = false → v' = ((decV n l : Nat) : Int)))
  | [], v, ov, h => ⟨v, ov, rfl, fun e => e, fun n hv hn ho => ⟨by rw [ho]; exact (decide_eq_false (by show ¬ 18446744073709551615 < n; omega)).symm, fun _ => hv⟩⟩
  | b :: l, v, ov, h => by
    rw [List.all_cons, Bool.and_eq_true] at h
    obtain ⟨e1, e2, e3⟩ := hx_dig b h.1
    have eb : bI b = (b.toNat : Int) := rfl
    obtain ⟨v', ov', i1, i2, i3⟩ := vF10_some l ((v * 10 + hxV (bI b)) % 18446744073709551616) (ov || decide ((18446744073709551615 - hxV (bI b)) / 10 < v)) h.2
    refine ⟨v', ov', ?_, fun e => i2 (by rw [e]; rfl), fun n hv hn ho => ?_⟩
    · rw [vF, if_neg (by rw [e1, eb]; omega)]; exact i1
    · subst hv
      have hd : decV n (b :: l) = decV (n * 10 + (b.toNat - 48)) l := rfl
      rw [hd]
      by_cases hov : 18446744073709551615 < n * 10 + (b.toNat - 48)
      · have : ov' = true := i2 (by rw [decide_eq_true (by rw [e1, eb]; omega)]; simp)
        have hge := decV_ge l (n * 10 + (b.toNat - 48))
        exact ⟨by rw [this, decide_eq_true (by omega)], fun e => by rw [this] at e; cases e⟩
      · exact i3 (n * 10 + (b.toNat - 48)) (by rw [e1, eb]; omega) (by omega) (by rw [ho, decide_eq_false (by rw [e1, eb]; omega)]; rfl)
theorem vF16_no : ∀ (l : List UInt8) (v : Int) (ov : Bool), l.all hexU = false → vF 16 v ov l = none
  | [], v, ov, h => by simp at h
  | b :: l, v, ov, h => by
    rw [vF]
    by_cases hc : hxV (bI b) < 0 ∨ (16 : Int) = 10 ∧ 9 < hxV (bI b)
    · rw [if_pos hc]
    · rw [if_neg hc]
      rw [List.all_cons] at h
      cases hb : hexU b
      · exact absurd (.inl ((hx_hex b).2 hb)) hc
      · rw [hb, Bool.true_and] at h
        exact vF16_no l _ _ h
theorem vF16_some : ∀ (l : List UInt8) (v : Int) (m : Nat), l.all hexU = true → 0 ≤ v → v < cap16 m → m + l.length ≤ 16 → vF 16 v false l = some (hexV v l, false)
  | [], v, m, h, h0, h1, h2 => rfl
  | b :: l, v, m, h, h0, h1, h2 => by
    rw [List.all_cons, Bool.and_eq_true] at h
    obtain ⟨e1, e2, e3⟩ := (hx_hex b).1 h.1
    have hm := cap16_le m (by simp at h2; omega)
    have hs := cap16_succ m
    rw [vF, if_neg (by omega), decide_eq_false (by omega), Bool.or_self, show (v * 16 + hxV (bI b)) % 18446744073709551616 = v * 16 + hexD (bI b) by rw [← e1]; omega]
    exact vF16_some l _ (m + 1) h.2 (by rw [← e1]; omega) (by rw [← e1]; omega) (by simp at h2; omega)
theorem val10 (s : List UInt8) (hne : ¬ s = []) : (vRes (vF 10 0 false s)).2.2 = (dig10 s).2.2 ∧ (vRes (vF 10 0 false s)).2.1 = (dig10 s).2.1 ∧ ((dig10 s).2.1 = false → (vRes (vF 10 0 false s)).1 = (dig10 s).1) := by
  unfold dig10
  rw [if_neg hne]
  cases h : s.all digU
  · rw [vF10_no s 0 false h]
    exact ⟨rfl, rfl, fun _ => rfl⟩
  · obtain ⟨v', ov', i1, i2, i3⟩ := vF10_some s 0 false h
    obtain ⟨j1, j2⟩ := i3 0 rfl (by omega) rfl
    rw [i1, if_pos rfl]
    by_cases hd : decV 0 s ≤ 18446744073709551615
    · have : ov' = false := by rw [j1]; exact decide_eq_false (by omega)
      rw [if_pos hd, this]
      exact ⟨rfl, rfl, fun _ => j2 this⟩
    · have : ov' = true := by rw [j1]; exact decide_eq_true (by omega)
      rw [if_neg hd, this]
      exact ⟨rfl, rfl, fun e => by cases e⟩
theorem val_rel (s : List UInt8) : (vR s).2.2 = (valP s).2.2 ∧ (vR s).2.1 = (valP s).2.1 ∧ ((valP s).2.1 = false → (vR s).1 = (valP s).1) := by
  match s with
  | [] => exact ⟨rfl, rfl, fun _ => rfl⟩
  | [c] =>
    have e1 : vR [c] = vRes (vF 10 0 false [c]) := by unfold vR; rw [if_neg (by simp), if_neg (by simp)]
    rw [e1]
    by_cases hc : c = 48
    · subst hc
      have e2 : valP [48] = (0, false, true) := rfl
      rw [e2]
      exact ⟨by decide, by decide, fun _ => by decide⟩
    · have e2 : valP [c] = dig10 [c] := by
        unfold valP
        rw [if_neg (by simpa using hc)]
        simp [Lib.hasPrefix, hc, show ¬ (48 : UInt8) = c from fun e => hc e.symm]
      rw [e2]
      exact val10 [c] (by simp)
  | a :: b :: r =>
    by_cases ha : a = 48
    · subst ha
      by_cases hb : b = 120
      · subst hb
        have e2 : valP (48 :: 120 :: r) = if 16 < r.length then (0, false, false) else dig16 r := by
          unfold valP
          rw [if_neg (by simp)]
          simp [Lib.hasPrefix, Lib.trimPrefix]
        rw [e2]
        unfold vR
        rw [if_neg (by simp), if_pos (by simp)]
        by_cases hl : 16 < r.length
        · rw [if_pos hl, if_pos (.inr (.inr (by simp; omega)))]
          exact ⟨rfl, rfl, fun _ => rfl⟩
        · rw [if_neg hl]
          by_cases hr : r = []
          · subst hr
            exact ⟨rfl, rfl, fun _ => rfl⟩
          · have : 0 < r.length := List.length_pos_iff.2 hr
            rw [if_neg (by simp; omega)]
            unfold dig16
            rw [if_neg hr]
            show (vRes (vF 16 0 false r)).2.2 = _ ∧ _
            cases h : r.all hexU
            · rw [show ((48 : UInt8) :: 120 :: r).drop 2 = r from rfl, vF16_no r 0 false h]
              exact ⟨rfl, rfl, fun _ => rfl⟩
            · rw [show ((48 : UInt8) :: 120 :: r).drop 2 = r from rfl, vF16_some r 0 0 h (by omega) (by decide) (by omega), if_pos rfl]
              exact ⟨rfl, rfl, fun _ => rfl⟩
      · have e2 : valP (48 :: b :: r) = (0, false, false) := by
          unfold valP
          rw [if_neg (by simp)]
          simp [Lib.hasPrefix, hb, show ¬ (120 : UInt8) = b from fun e => hb e.symm]
        rw [e2]
        unfold vR
        rw [if_neg (by simp), if_pos (by simp), if_pos (.inl (by simpa using hb))]
        exact ⟨rfl, rfl, fun _ => rfl⟩
    · have e2 : valP (a :: b :: r) = dig10 (a :: b :: r) := by
        unfold valP
        rw [if_neg (by simp)]
        simp [Lib.hasPrefix, ha, show ¬ (48 : UInt8) = a from fun e => ha e.symm]
      have e1 : vR (a :: b :: r) = vRes (vF 10 0 false (a :: b :: r)) := by unfold vR; rw [if_neg (by simp), if_neg (by simpa using ha)]
      rw [e1, e2]
      exact val10 _ (by simp)
theorem val_head (s : List UInt8) (h : ∀ c, s.head? = some c → digP (bI c) = false) : (valP s).2.2 = false := by
  match s with
  | [] => rfl
  | c :: r =>
    have hc := h c rfl
    have h48 : ¬ c = 48 := fun e => by subst e; exact absurd hc (by decide)
    unfold valP
    rw [if_neg (by simp [h48])]
    have e : dig10 (c :: r) = (0, false, false) := by
      unfold dig10
      rw [if_neg (by simp), List.all_cons, show digU c = false from hc]
      rfl
    simp [Lib.hasPrefix, h48, show ¬ (48 : UInt8) = c from fun e => h48 e.symm, e]
end Go.Proofs.YtcomhlimgocoaaaGreatDoor
namespace Go.Proofs.YtcomhlimgocoaaaGreatDoor
open Go.RowKit
set_option linter.unusedVariables false
set_option linter.unusedSimpArgs false
theorem vF_pos (base : Int) : ∀ (l : List UInt8) (v : Int) (ov : Bool) (x : Int × Bool), vF base v ov l = some x → 0 ≤ v → 0 ≤ x.1
  | [], v, ov, x, h, h0 => by rw [vF] at h; cases h; exact h0
  | b :: l, v, ov, x, h, h0 => by
    rw [vF] at h
    split at h
    · cases h
    · exact vF_pos base l _ _ x h (by omega)
theorem vRes_pos (base : Int) (l : List UInt8) : 0 ≤ (vRes (vF base 0 false l)).1 := by
  cases h : vF base 0 false l with
  | none => exact Int.le_refl _
  | some x => exact vF_pos base l 0 false x h (by omega)
theorem vR_pos (s : List UInt8) : 0 ≤ (vR s).1 := by
  unfold vR
  split
  · exact Int.le_refl _
  · split
    · split
      · exact Int.le_refl _
      · exact vRes_pos _ _
    · exact vRes_pos _ _
theorem tok_bl4 (l : List UInt8) (k : Nat) : tokP (l.drop (blK l k)) = tokP (l.drop k) ∧ restP (l.drop (blK l k)) = restP (l.drop k) := by
  have t := tok_dw (l.drop k)
  rw [← drop_bl] at t
  exact ⟨t.1.symm, t.2.symm⟩
/-- a reader amid a number: the sign is passed over -/
structure Mid (l : List UInt8) (r1 : RS) (t : S4) (below : Bool) : Prop where
  w : r1.wrong = false
  o : r1.outside = t.far
  b : below = (pkP l t.k == 45)
  k : r1.tok = tokP (l.drop (sgK l t.k))
  r : r1.rest = restP (l.drop (sgK l t.k))
theorem sgn_cases {l : List UInt8} {r : RS} {t : S4} (hw : r.wrong = false) (ho : r.outside = t.far) (hi : t.In l) (ht : r.tok = tokP (l.drop t.k)) (hr : r.rest = restP (l.drop t.k)) :
    (pkP l t.k = 45 ∧ r.tok = [45] ∧ Mid l r.next t true) ∨ (pkP l t.k = 43 ∧ r.tok = [43] ∧ Mid l r.next t false) ∨ (¬ pkP l t.k = 43 ∧ ¬ pkP l t.k = 45 ∧ ¬ r.tok = [43] ∧ ¬ r.tok = [45] ∧ Mid l r t false) := by
  have other : ¬ pkP l t.k = 43 → ¬ pkP l t.k = 45 → Mid l r t false := fun h1 h2 => by
    have hs : sgK l t.k = blK l t.k := by unfold sgK; rw [if_neg (by simp [h1, h2])]
    exact ⟨hw, ho, by simp [h2], by rw [hs, (tok_bl4 l t.k).1]; exact ht, by rw [hs, (tok_bl4 l t.k).2]; exact hr⟩
  rcases view4 l t.k hi with ⟨hp, v1, v2, v3⟩ | ⟨x, hp, v0, v1, v2, v3, v4⟩ | ⟨x, hp, v0, v1, v2, v3⟩
  · have h1 : ¬ pkP l t.k = 43 := by rw [hp]; decide
    have h2 : ¬ pkP l t.k = 45 := by rw [hp]; decide
    exact .inr (.inr ⟨h1, h2, by rw [ht, v1]; simp, by rw [ht, v1]; simp, other h1 h2⟩)
  · have h1 : ¬ pkP l t.k = 43 := by rw [hp]; intro e; subst e; exact absurd v1 (by decide)
    have h2 : ¬ pkP l t.k = 45 := by rw [hp]; intro e; subst e; exact absurd v1 (by decide)
    refine .inr (.inr ⟨h1, h2, ?_, ?_, other h1 h2⟩)
    · rw [ht, v2]; intro e; rw [e] at v4; simp at v4; subst v4; exact absurd v1 (by decide)
    · rw [ht, v2]; intro e; rw [e] at v4; simp at v4; subst v4; exact absurd v1 (by decide)
  · by_cases h45 : x = 45
    · subst h45
      have hs : sgK l t.k = blK l t.k + 1 := by unfold sgK; rw [hp, if_pos (by decide)]
      exact .inl ⟨hp, by rw [ht, v2], hw, ho, by rw [hp]; rfl, by rw [hs, ← v3, ← hr]; rfl, by rw [hs, ← v3, ← hr]; rfl⟩
    · by_cases h43 : x = 43
      · subst h43
        have hs : sgK l t.k = blK l t.k + 1 := by unfold sgK; rw [hp, if_pos (by decide)]
        exact .inr (.inl ⟨hp, by rw [ht, v2], hw, ho, by rw [hp]; rfl, by rw [hs, ← v3, ← hr]; rfl, by rw [hs, ← v3, ← hr]; rfl⟩)
      · have h1 : ¬ pkP l t.k = 43 := by rw [hp]; exact h43
        have h2 : ¬ pkP l t.k = 45 := by rw [hp]; exact h45
        exact .inr (.inr ⟨h1, h2, by rw [ht, v2]; simpa using h43, by rw [ht, v2]; simpa using h45, other h1 h2⟩)
/-- the number itself -/
theorem sim_num {l : List UInt8} {r1 : RS} {t : S4} {below al : Bool} (up down : Int) (m : Mid l r1 t below) (hb : t.bad = false) (hi : t.In l) (hal : (al && !(pkP l t.k == 43) && !(pkP l t.k == 45)) = false) :
    Sim l (numS below down up r1) (t.sg l up down al) ∧ ((numS below down up r1).wrong = false → (numS below down up r1).outside = false → 0 ≤ (valP r1.tok).1 ∧ (valP r1.tok).1 ≤ (if below then down else up) ∧ t.sv l up down al = if below then IntKind.i64.wrap (IntKind.u64.wrap (0 - (valP r1.tok).1)) else IntKind.i64.wrap (valP r1.tok).1) := by
  have hK := sgK_le (l := l) (k := t.k) hi
  have hc1 : (t.bad || (al && !(pkP l t.k == 43) && !(pkP l t.k == 45))) = false := by rw [hb, hal]; rfl
  have nod : digP ((pkP l (sgK l t.k)).toNat : Int) = false → (valP r1.tok).2.2 = false → Sim l (numS below down up r1) (t.sg l up down al) ∧ ((numS below down up r1).wrong = false → (numS below down up r1).outside = false → 0 ≤ (valP r1.tok).1 ∧ (valP r1.tok).1 ≤ (if below then down else up) ∧ t.sv l up down al = if below then IntKind.i64.wrap (IntKind.u64.wrap (0 - (valP r1.tok).1)) else IntKind.i64.wrap (valP r1.tok).1) := fun h1 h2 => by
    have hx : (numS below down up r1).wrong = true := by simp [numS, RS.next, h2]
    have hy : (t.sg l up down al).bad = true := by
      show (sgR l t.k t.bad t.far up down al).2.2.1 = true
      unfold sgR
      rw [if_neg (by rw [hc1]; decide), if_pos (by rw [h1]; rfl)]
    exact ⟨.inl ⟨hx, hy⟩, fun e => by rw [hx] at e; cases e⟩
  rcases view4 l (sgK l t.k) hK with ⟨hp, v1, v2, v3⟩ | ⟨x, hp, v0, v1, v2, v3, v4⟩ | ⟨x, hp, v0, v1, v2, v3⟩
  · exact nod (by rw [hp]; decide) (by rw [m.k, v1]; rfl)
  · cases hd : digP (bI x)
    · exact nod (by rw [pk_bI hp]; exact hd) (val_head _ (fun c hc => by rw [m.k, v2, v4] at hc; cases hc; exact hd))
    · have hT : r1.tok = rnP l (sgK l t.k) := by rw [m.k, v2]
      obtain ⟨q1, q2, q3⟩ := val_rel r1.tok
      have q0 := vR_pos r1.tok
      have hdg : digP ((pkP l (sgK l t.k)).toNat : Int) = true := by rw [pk_bI hp]; exact hd
      have hS : sgR l t.k t.bad t.far up down al = if !(vR r1.tok).2.2 then (0, rnK l (sgK l t.k), true, t.far) else if (vR r1.tok).2.1 || (pkP l t.k == 45 && decide (down < (vR r1.tok).1)) || (!(pkP l t.k == 45) && decide (up < (vR r1.tok).1)) then (0, rnK l (sgK l t.k), false, true) else (if pkP l t.k == 45 then IntKind.i64.wrap (IntKind.u64.wrap (0 - (vR r1.tok).1)) else IntKind.i64.wrap (vR r1.tok).1, rnK l (sgK l t.k), false, t.far) := by
        unfold sgR
        rw [if_neg (by rw [hc1]; decide), if_neg (by rw [hdg]; decide), ← hT]
      rw [← m.b] at hS
      have hin : (t.sg l up down al).In l := S4.In.sg hi
      unfold S4.sg S4.sv at *
      rw [hS] at hin ⊢
      generalize rnK l (sgK l t.k) = RK at *
      generalize vR r1.tok = VR at *
      obtain ⟨v, ov, ok⟩ := VR
      simp only at q1 q2 q3 q0 hin ⊢
      cases ok
      · have hx : (numS below down up r1).wrong = true := by simp [numS, RS.next, ← q1]
        exact ⟨.inl ⟨hx, rfl⟩, fun e => by rw [hx] at e; cases e⟩
      · have hx : (numS below down up r1).wrong = false := by simp [numS, RS.next, ← q1, m.w]
        cases ov
        · have hv := q3 q2.symm
          rw [← hv]
          have hou : (numS below down up r1).outside = (t.far || decide ((if below then down else up) < v)) := by simp [numS, m.o, ← q2, ← hv]
          cases below
          · simp only [Bool.false_and, Bool.or_false, Bool.false_or, Bool.not_false, Bool.true_and, Bool.not_true, Bool.false_eq_true, if_false] at hin hou ⊢
            by_cases hg : up < v
            · rw [decide_eq_true hg] at hin hou ⊢
              simp only [if_true, Bool.or_true] at hin hou ⊢
              exact ⟨.inr ⟨hx, rfl, hou, hin, by simp [numS, RS.next, m.r, v3], by simp [numS, RS.next, m.r, v3]⟩, fun _ e => by rw [hou] at e; cases e⟩
            · rw [decide_eq_false hg] at hin hou ⊢
              simp only [Bool.or_false, Bool.false_eq_true, if_false] at hin hou ⊢
              exact ⟨.inr ⟨hx, rfl, hou, hin, by simp [numS, RS.next, m.r, v3], by simp [numS, RS.next, m.r, v3]⟩, fun _ _ => ⟨q0, by omega, by first | trivial | rfl⟩⟩
          · simp only [Bool.false_or, Bool.not_false, Bool.true_and, Bool.not_true, Bool.false_and, Bool.or_false, Bool.false_eq_true, if_false, if_true] at hin hou ⊢
            by_cases hg : down < v
            · rw [decide_eq_true hg] at hin hou ⊢
              simp only [if_true, Bool.or_true] at hin hou ⊢
              exact ⟨.inr ⟨hx, rfl, hou, hin, by simp [numS, RS.next, m.r, v3], by simp [numS, RS.next, m.r, v3]⟩, fun _ e => by rw [hou] at e; cases e⟩
            · rw [decide_eq_false hg] at hin hou ⊢
              simp only [Bool.or_false, Bool.false_eq_true, if_false] at hin hou ⊢
              exact ⟨.inr ⟨hx, rfl, hou, hin, by simp [numS, RS.next, m.r, v3], by simp [numS, RS.next, m.r, v3]⟩, fun _ _ => ⟨q0, by omega, by first | trivial | rfl⟩⟩
        · have hou : (numS below down up r1).outside = true := by simp [numS, ← q2]
          simp only [Bool.true_or, if_true, Bool.not_true, Bool.false_eq_true, if_false] at hin ⊢
          exact ⟨.inr ⟨hx, rfl, hou, hin, by simp [numS, RS.next, m.r, v3], by simp [numS, RS.next, m.r, v3]⟩, fun _ e => by rw [hou] at e; cases e⟩
  · have hd : digP (bI x) = false := by cases h : digP (bI x) <;> simp_all
    exact nod (by rw [pk_bI hp]; exact hd) (val_head _ (fun c hc => by rw [m.k, v2] at hc; cases hc; exact hd))
theorem nv16 {below : Bool} {r1 : RS} (h0 : 0 ≤ (valP r1.tok).1) (h1 : (valP r1.tok).1 ≤ if below then 32768 else 32767) : numV below 16 r1 = if below then IntKind.i64.wrap (IntKind.u64.wrap (0 - (valP r1.tok).1)) else IntKind.i64.wrap (valP r1.tok).1 := by
  unfold numV
  generalize (valP r1.tok).1 = v at *
  cases below
  · simp only [Bool.false_eq_true, if_false] at h1 ⊢
    simp [Wo.sgnW, Wo.sgnM, Wo.hW, Wo.mW, wrap64, IntKind.wrap_i64]
    split <;> omega
  · simp only [if_true] at h1 ⊢
    simp [Wo.sgnW, Wo.sgnM, Wo.hW, Wo.mW, Wo.negW, wrap64, IntKind.wrap_i64, IntKind.wrap_u64]
    split <;> omega
theorem nv64 {below : Bool} {r1 : RS} (h0 : 0 ≤ (valP r1.tok).1) (h1 : (valP r1.tok).1 ≤ if below then 9223372036854775808 else 18446744073709551615) : numV below 64 r1 = if below then IntKind.i64.wrap (IntKind.u64.wrap (0 - (valP r1.tok).1)) else IntKind.i64.wrap (valP r1.tok).1 := by
  unfold numV
  generalize (valP r1.tok).1 = v at *
  cases below
  · simp only [Bool.false_eq_true, if_false] at h1 ⊢
    simp [Wo.sgnW, Wo.sgnM, Wo.hW, Wo.mW, wrap64, IntKind.wrap_i64]
    all_goals (split <;> omega)
  · simp only [if_true] at h1 ⊢
    simp [Wo.sgnW, Wo.sgnM, Wo.hW, Wo.mW, Wo.negW, wrap64, IntKind.wrap_i64, IntKind.wrap_u64]
    all_goals (split <;> omega)
theorem nv32 {below : Bool} {r1 : RS} {X : Int} (h0 : 0 ≤ (valP r1.tok).1) (h1 : (valP r1.tok).1 ≤ if below then 2147483648 else 4294967295) (hX : X = if below then IntKind.i64.wrap (IntKind.u64.wrap (0 - (valP r1.tok).1)) else IntKind.i64.wrap (valP r1.tok).1) : numV below 32 r1 = if 2147483647 < X then X - 4294967296 else X := by
  unfold numV
  generalize (valP r1.tok).1 = v at *
  subst hX
  cases below
  · simp only [Bool.false_eq_true, if_false] at h1 ⊢
    simp [Wo.sgnW, Wo.sgnM, Wo.hW, Wo.mW, wrap64, IntKind.wrap_i64]
    split <;> split <;> omega
  · simp only [if_true] at h1 ⊢
    simp [Wo.sgnW, Wo.sgnM, Wo.hW, Wo.mW, Wo.negW, wrap64, IntKind.wrap_i64, IntKind.wrap_u64]
    split <;> split <;> omega
end Go.Proofs.YtcomhlimgocoaaaGreatDoor
namespace Go.Proofs.YtcomhlimgocoaaaGreatDoor
open Go.RowKit
set_option linter.unusedVariables false
set_option linter.unusedSimpArgs false
/-- an instruction's box -/
def I4 (w : World) (q : Nat) (o d s f i : Int) : Prop := w.heap[q]? = some (.cells #[.int .i64 o, .int .i64 d, .int .i64 s, .int .i64 f, .int .i64 i] 25 (0, 0))
theorem I4.cells {w : World} {q : Nat} {o d s f i : Int} (h : I4 w q o d s f i) : w.cell? ⟨q, 0, none⟩ = some (.int .i64 o) ∧ w.cell? ⟨q, 1, none⟩ = some (.int .i64 d) ∧ w.cell? ⟨q, 2, none⟩ = some (.int .i64 s) ∧ w.cell? ⟨q, 3, none⟩ = some (.int .i64 f) ∧ w.cell? ⟨q, 4, none⟩ = some (.int .i64 i) :=
  ⟨by rw [cell_atL h]; rfl, by rw [cell_atL h]; rfl, by rw [cell_atL h]; rfl, by rw [cell_atL h]; rfl, by rw [cell_atL h]; rfl⟩
theorem I4.lt {w : World} {q : Nat} {o d s f i : Int} (h : I4 w q o d s f i) : q < w.heap.size := (Array.getElem?_eq_some_iff.1 h).1
/-- the reader and an instruction's box, and nothing else -/
structure G4 (p q : Nat) (l : List UInt8) (t : S4) (o d s f i : Int) (w w' : World) : Prop where
  a : A4 w' p l t
  b : I4 w' q o d s f i
  c : Chg (fun x => x = p ∨ x = q) w w'
  ne : ¬ p = q
theorem chg_up {p q : Nat} {w w' : World} (h : Chg (fun x => x = p) w w') : Chg (fun x => x = p ∨ x = q) w w' := ⟨h.os, h.tape, h.output, h.size, fun k hk hs => h.block k hk (fun e => hs (.inl e))⟩
theorem G4.call {p q : Nat} {l : List UInt8} {t t' : S4} {o d s f i : Int} {w w1 w2 : World} (h : G4 p q l t o d s f i w w1) (k : E4 p l t' w1 w2) : G4 p q l t' o d s f i w w2 :=
  ⟨k.1, (k.2.block q h.b.lt (fun e => h.ne e.symm)).trans h.b, Chg.trans h.c (chg_up k.2) (fun _ hx _ => hx), h.ne⟩
theorem keep_other {w : World} {p q j : Nat} {v : Value} (ne : ¬ p = q) : (w.setCell ⟨q, j, none⟩ v).heap[p]? = w.heap[p]? := by
  simp [World.setCell, Array.getElem?_modify, show ¬ q = p from fun e => ne e.symm]
theorem G4.set {p q : Nat} {l : List UInt8} {t : S4} {o d s f i o' d' s' f' i' : Int} {w w1 : World} (h : G4 p q l t o d s f i w w1) (j : Nat) (v : Value) (he : (#[.int .i64 o, .int .i64 d, .int .i64 s, .int .i64 f, .int .i64 i] : Array Value).setIfInBounds j v = #[.int .i64 o', .int .i64 d', .int .i64 s', .int .i64 f', .int .i64 i']) : G4 p q l t o' d' s' f' i' w (w1.setCell ⟨q, j, none⟩ v) :=
  ⟨(keep_other h.ne).trans h.a, by have := set_atL h.b j v; rw [he] at this; exact this, Chg.setCell h.c (p := ⟨q, j, none⟩) (show q = p ∨ q = q from .inr rfl) _, h.ne⟩
theorem G4.then {p q : Nat} {l : List UInt8} {t t' : S4} {o d s f i o' d' s' f' i' : Int} {w w1 w2 : World} (h : G4 p q l t o d s f i w w1) (k : G4 p q l t' o' d' s' f' i' w1 w2) : G4 p q l t' o' d' s' f' i' w w2 :=
  ⟨k.a, k.b, Chg.trans h.c k.c (fun _ hx _ => hx), h.ne⟩
/-- a register or a number -/
def S4.sc (l : List UInt8) (s : S4) : S4 := if letP ((pkP l s.k).toNat : Int) then (s.pk l).rg l else (s.pk l).im l
def S4.so (l : List UInt8) (s : S4) (o : Int) : Int := if letP ((pkP l s.k).toNat : Int) then o + 8 else o
def S4.ss (l : List UInt8) (s : S4) (x : Int) : Int := if letP ((pkP l s.k).toNat : Int) then rgV l (s.pk l).k else x
def S4.si (l : List UInt8) (s : S4) (x : Int) : Int := if letP ((pkP l s.k).toNat : Int) then x else (s.pk l).iv l
theorem S4.In.sc {l : List UInt8} {s : S4} (h : s.In l) : (s.sc l).In l := by
  unfold S4.sc
  split
  · exact h.pk.rg
  · exact h.pk.im
set_option maxRecDepth 8000 in
theorem second4_s (w : World) (p q : Nat) (l : List UInt8) (t : S4) (o d s f i : Int) (h : A4 w p l t) (hb : I4 w q o d s f i) (hne : ¬ p = q) (hk : t.In l) (hl : l.length ≤ 140737488355328) (o0 : -9223372036854775808 ≤ o) (o1 : o < 9223372036854775800) : Calls Tryz.prog 75 #[.pointer (some ⟨p, 0, none⟩), .pointer (some ⟨q, 0, none⟩)] w fun e w' => (∃ v, e = .returned v) ∧ G4 p q l (t.sc l) (t.so l o) d (t.ss l s) f (t.si l i) w w' := by
  have CP := hidOf (peek4_s w p l t h hk hl)
  have CR := hidOf (fun wx hx => reg4_s wx p l (t.pk l) hx hk.pk hl)
  have CI := hidOf (fun wx hx => imm4_s wx p l (t.pk l) hx hk.pk hl)
  have G0 : Hid (G4 p q l t o d s f i w w) := hidOf ⟨h, hb, Chg.refl _ _, hne⟩
  unfold S4.sc S4.so S4.ss S4.si
  have hw : IntKind.i64.wrap (o + 8) = o + 8 := by rw [IntKind.wrap_i64]; omega
  generalize pkP l t.k = P at *
  generalize (t.pk l).rg l = T2 at *
  generalize (t.pk l).im l = T3 at *
  generalize rgV l (t.pk l).k = V2 at *
  generalize (t.pk l).iv l = V3 at *
  generalize t.pk l = T1 at *
  clear h hb hk hl o0 o1
  cases hL : letP (P.toNat : Int)
  · rw [if_neg (by decide), if_neg (by decide), if_neg (by decide), if_neg (by decide)]
    go_enter Tryz.func75, Tryz.ntmps75
    go_wp2_with (first | (go_at_call 68; refine CP.out.mono ?_; rintro e w1 ⟨rfl, hm⟩; have H1 := hidOf (G0.out.call hm); clear hm) | (go_at_call 48; refine (refLetter_of hL _).mono ?_; rintro e w2 ⟨rfl, rfl⟩) | (go_at_call 78; refine (CI.out _ H1.out.a).mono ?_; rintro e w3 ⟨rfl, hm⟩; have H2 := hidOf (H1.out.call hm); clear hm; have x4 := H2.out.b.cells.2.2.2.2; have g4 := frozen_atL H2.out.b 4))
    go_end0
    exact ⟨⟨_, rfl⟩, H2.out.set 4 _ rfl⟩
  · rw [if_pos rfl, if_pos rfl, if_pos rfl, if_pos rfl]
    go_enter Tryz.func75, Tryz.ntmps75
    go_wp2_with (first | (go_at_call 68; refine CP.out.mono ?_; rintro e w1 ⟨rfl, hm⟩; have H1 := hidOf (G0.out.call hm); clear hm; have x0 := H1.out.b.cells.1; have g0 := frozen_atL H1.out.b 0) | (go_at_call 48; refine (refLetter_of hL _).mono ?_; rintro e w2 ⟨rfl, rfl⟩) | (go_at_call 73; have H1' := hidOf (H1.out.set 0 (.int .i64 (o + 8)) rfl); refine (CR.out _ H1'.out.a).mono ?_; rintro e w3 ⟨rfl, hm⟩; have H2 := hidOf (H1'.out.call hm); clear hm; have x2 := H2.out.b.cells.2.2.1; have g2 := frozen_atL H2.out.b 2))
    refine bodyPost_ret (results_none rfl _ _ _) rfl ?_
    exact ⟨⟨_, rfl⟩, H2.out.set 2 _ rfl⟩
end Go.Proofs.YtcomhlimgocoaaaGreatDoor
namespace Go.Proofs.YtcomhlimgocoaaaGreatDoor
open Go.RowKit
set_option linter.unusedVariables false
set_option linter.unusedSimpArgs false
theorem mark_f (m : List UInt8) (r : RS) : (r.wrong = true → (markS m r).wrong = true) ∧ (markS m r).outside = r.outside ∧ (markS m r).o = r.o ∧ (markS m r).d = r.d ∧ (markS m r).s = r.s ∧ (markS m r).f = r.f ∧ (markS m r).i = r.i ∧ (markS m r).tgt = r.tgt := by
  unfold markS skipP
  by_cases h : r.tok = m <;> simp [h, RS.next]
theorem reg_f (r : RS) : (r.wrong = true → (regS r).1.wrong = true) ∧ (regS r).1.outside = r.outside ∧ (regS r).1.o = r.o ∧ (regS r).1.d = r.d ∧ (regS r).1.s = r.s ∧ (regS r).1.f = r.f ∧ (regS r).1.i = r.i ∧ (regS r).1.tgt = r.tgt := by
  unfold regS
  cases regN r.tok <;> simp [RS.next]
theorem num_f (b : Bool) (x y : Int) (r : RS) : (r.wrong = true → (numS b x y r).wrong = true) ∧ (r.outside = true → (numS b x y r).outside = true) ∧ (numS b x y r).o = r.o ∧ (numS b x y r).d = r.d ∧ (numS b x y r).s = r.s ∧ (numS b x y r).f = r.f ∧ (numS b x y r).i = r.i ∧ (numS b x y r).tgt = r.tgt := by
  unfold numS
  simp [RS.next]
  exact ⟨fun h => .inl h, fun h => .inl h⟩
theorem false_of {a b : Bool} (h : a = true → b = true) (hb : b = false) : a = false := by cases a; rfl; rw [h rfl] at hb; cases hb
theorem Sim.pk {l : List UInt8} {r : RS} {t : S4} (h : Sim l r t) : Sim l r (t.pk l) := by
  rcases h with ⟨hw, hb⟩ | ⟨hw, hb, ho, hi, ht, hr⟩
  · exact .inl ⟨hw, hb⟩
  · exact .inr ⟨hw, hb, ho, S4.In.pk hi, by show r.tok = tokP (l.drop (blK l t.k)); rw [(tok_bl4 l t.k).1]; exact ht, by show r.rest = restP (l.drop (blK l t.k)); rw [(tok_bl4 l t.k).2]; exact hr⟩
theorem sg_bad {l : List UInt8} {t : S4} {up down : Int} {al : Bool} (h : t.bad = true) : (t.sg l up down al).bad = true := by
  show (sgR l t.k t.bad t.far up down al).2.2.1 = true
  unfold sgR
  rw [if_pos (by rw [h]; rfl)]
theorem sgn_w (r : RS) : (r.wrong = true → (sgnS r).1.wrong = true) ∧ (sgnS r).1.o = r.o ∧ (sgnS r).1.d = r.d ∧ (sgnS r).1.s = r.s ∧ (sgnS r).1.f = r.f ∧ (sgnS r).1.tgt = r.tgt ∧ (sgnS r).1.i = r.i := by
  unfold sgnS skipP
  by_cases h : r.tok = [45]
  · simp [h, RS.next]
  · by_cases h2 : r.tok = [43]
    · simp [h2, RS.next]
    · simp [h, h2]
/-- a number with a sign or none -/
theorem sim_sgn {l : List UInt8} {r : RS} {t : S4} (up down : Int) (h : Sim l r t) :
    Sim l (numS (sgnS r).2 down up (sgnS r).1) (t.sg l up down false) ∧ ((numS (sgnS r).2 down up (sgnS r).1).wrong = false → (numS (sgnS r).2 down up (sgnS r).1).outside = false → 0 ≤ (valP (sgnS r).1.tok).1 ∧ (valP (sgnS r).1.tok).1 ≤ (if (sgnS r).2 then down else up) ∧ t.sv l up down false = if (sgnS r).2 then IntKind.i64.wrap (IntKind.u64.wrap (0 - (valP (sgnS r).1.tok).1)) else IntKind.i64.wrap (valP (sgnS r).1.tok).1) := by
  rcases h with ⟨hw, hb⟩ | ⟨hw, hb, ho, hi, ht, hr⟩
  · have hx := (num_f (sgnS r).2 down up (sgnS r).1).1 ((sgn_w r).1 hw)
    exact ⟨.inl ⟨hx, sg_bad hb⟩, fun e => by rw [hx] at e; cases e⟩
  · rcases sgn_cases hw ho hi ht hr with ⟨hp, h1, m⟩ | ⟨hp, h1, m⟩ | ⟨_, _, h1, h2, m⟩
    · have e : sgnS r = (r.next, true) := by simp [sgnS, skipP, h1]
      rw [e]
      exact sim_num up down m hb hi rfl
    · have e : sgnS r = (r.next, false) := by simp [sgnS, skipP, h1]
      rw [e]
      exact sim_num up down m hb hi rfl
    · have e : sgnS r = (r, false) := by simp [sgnS, skipP, h1, h2]
      rw [e]
      exact sim_num up down m hb hi rfl
/-- the readers, and the fields when nothing is wrong -/
structure St (l : List UInt8) (r : RS) (t : S4) (o d s f i : Int) (g : List UInt8) : Prop where
  sim : Sim l r t
  eq : r.wrong = false → r.outside = false → r.o = o ∧ r.d = d ∧ r.s = s ∧ r.f = f ∧ r.i = i ∧ r.tgt = g
theorem St.mark {l : List UInt8} {r : RS} {t : S4} {o d s f i : Int} {g : List UInt8} (h : St l r t o d s f i g) : St l (markS [44] r) (t.mk4 l 44) o d s f i g := by
  obtain ⟨m1, m2, m3, m4, m5, m6, m7, m8⟩ := mark_f [44] r
  exact ⟨sim_mark h.sim (by decide) (by decide), fun e1 e2 => by rw [m3, m4, m5, m6, m7, m8]; exact h.eq (false_of m1 e1) (by rw [← m2]; exact e2)⟩
theorem St.regD {l : List UInt8} {r : RS} {t : S4} {o d s f i : Int} {g : List UInt8} (h : St l r t o d s f i g) : St l { (regS r).1 with d := (regS r).2 } (t.rg l) o (rgV l t.k) s f i g := by
  obtain ⟨m1, m2, m3, m4, m5, m6, m7, m8⟩ := reg_f r
  obtain ⟨s1, s2⟩ := sim_reg h.sim
  refine ⟨s1, fun e1 e2 => ?_⟩
  obtain ⟨q1, q2, q3, q4, q5, q6⟩ := h.eq (false_of m1 e1) (by rw [← m2]; exact e2)
  exact ⟨m3.trans q1, s2 e1, m5.trans q3, m6.trans q4, m7.trans q5, m8.trans q6⟩
theorem St.regS {l : List UInt8} {r : RS} {t : S4} {o d s f i : Int} {g : List UInt8} (h : St l r t o d s f i g) : St l { (YtcomhlimgocoaaaGreatDoor.regS r).1 with s := (YtcomhlimgocoaaaGreatDoor.regS r).2 } (t.rg l) o d (rgV l t.k) f i g := by
  obtain ⟨m1, m2, m3, m4, m5, m6, m7, m8⟩ := reg_f r
  obtain ⟨s1, s2⟩ := sim_reg h.sim
  refine ⟨s1, fun e1 e2 => ?_⟩
  obtain ⟨q1, q2, q3, q4, q5, q6⟩ := h.eq (false_of m1 e1) (by rw [← m2]; exact e2)
  exact ⟨m3.trans q1, m4.trans q2, s2 e1, m6.trans q4, m7.trans q5, m8.trans q6⟩
theorem St.name {l : List UInt8} {r : RS} {t : S4} {o d s f i : Int} {g : List UInt8} (h : St l r t o d s f i g) : St l (nameS r) (t.tg l) o d s f i (wdP l t.k) := by
  obtain ⟨s1, s2⟩ := sim_name h.sim
  refine ⟨s1, fun e1 e2 => ?_⟩
  have hw : r.wrong = false := by
    have : (r.wrong || !nameP r.tok) = false := e1
    cases hr : r.wrong
    · rfl
    · rw [hr] at this; cases this
  obtain ⟨q1, q2, q3, q4, q5, q6⟩ := h.eq hw e2
  exact ⟨q1, q2, q3, q4, q5, s2 e1⟩
theorem St.imm {l : List UInt8} {r : RS} {t : S4} {o d s f i : Int} {g : List UInt8} (h : St l r t o d s f i g) (ho : ¬ r.o = 24) : St l (immS r) (t.im l) o d s f (t.iv l) g := by
  obtain ⟨s1, s2⟩ := sim_sgn 4294967295 2147483648 h.sim
  obtain ⟨n1, n2, n3, n4, n5, n6, n7, n8⟩ := num_f (sgnS r).2 2147483648 4294967295 (sgnS r).1
  obtain ⟨w1, w2, w3, w4, w5, w6, w7⟩ := sgn_w r
  have e : immS r = { numS (sgnS r).2 2147483648 4294967295 (sgnS r).1 with i := numV (sgnS r).2 32 (sgnS r).1 } := by unfold immS; rw [if_neg ho]
  rw [e]
  have ho2 : (sgnS r).1.outside = r.outside := by
    unfold sgnS skipP
    by_cases h : r.tok = [45]
    · simp [h, RS.next]
    · by_cases h2 : r.tok = [43]
      · simp [h2, RS.next]
      · simp [h, h2]
  refine ⟨s1, fun e1 e2 => ?_⟩
  obtain ⟨q1, q2, q3, q4, q5, q6⟩ := h.eq (false_of w1 (false_of n1 e1)) (by rw [← ho2]; exact false_of n2 e2)
  obtain ⟨p1, p2, p3⟩ := s2 e1 e2
  exact ⟨(n3.trans w2).trans q1, (n4.trans w3).trans q2, (n5.trans w4).trans q3, (n6.trans w5).trans q4, nv32 p1 p2 p3, (n8.trans w6).trans q6⟩
theorem St.imm64 {l : List UInt8} {r : RS} {t : S4} {o d s f i : Int} {g : List UInt8} (h : St l r t o d s f i g) (ho : r.o = 24) : St l (immS r) (t.sg l 18446744073709551615 9223372036854775808 false) o d s f (t.sv l 18446744073709551615 9223372036854775808 false) g := by
  obtain ⟨s1, s2⟩ := sim_sgn 18446744073709551615 9223372036854775808 h.sim
  obtain ⟨n1, n2, n3, n4, n5, n6, n7, n8⟩ := num_f (sgnS r).2 9223372036854775808 18446744073709551615 (sgnS r).1
  obtain ⟨w1, w2, w3, w4, w5, w6, w7⟩ := sgn_w r
  have e : immS r = { numS (sgnS r).2 9223372036854775808 18446744073709551615 (sgnS r).1 with i := numV (sgnS r).2 64 (sgnS r).1 } := by unfold immS; rw [if_pos ho]
  rw [e]
  have ho2 : (sgnS r).1.outside = r.outside := by
    unfold sgnS skipP
    by_cases h : r.tok = [45]
    · simp [h, RS.next]
    · by_cases h2 : r.tok = [43]
      · simp [h2, RS.next]
      · simp [h, h2]
  refine ⟨s1, fun e1 e2 => ?_⟩
  obtain ⟨q1, q2, q3, q4, q5, q6⟩ := h.eq (false_of w1 (false_of n1 e1)) (by rw [← ho2]; exact false_of n2 e2)
  obtain ⟨p1, p2, p3⟩ := s2 e1 e2
  exact ⟨(n3.trans w2).trans q1, (n4.trans w3).trans q2, (n5.trans w4).trans q3, (n6.trans w5).trans q4, (nv64 p1 p2).trans p3.symm, (n8.trans w6).trans q6⟩
theorem start_pk {l : List UInt8} {r : RS} {t : S4} (hi : t.In l) (ht : r.tok = tokP (l.drop t.k)) : startP r.tok = letP ((pkP l t.k).toNat : Int) := by
  rcases view4 l t.k hi with ⟨hp, v1, v2, v3⟩ | ⟨x, hp, v0, v1, v2, v3, v4⟩ | ⟨x, hp, v0, v1, v2, v3⟩
  · rw [ht, v1, hp]; rfl
  · rw [ht, v2, pk_bI hp]
    cases hR : rnP l t.k with
    | nil => rw [hR] at v4; cases v4
    | cons a b => rw [hR] at v4; cases v4; rfl
  · rw [ht, v2, pk_bI hp]; rfl
theorem St.src {l : List UInt8} {r : RS} {t : S4} {o d s f i : Int} {g : List UInt8} (h : St l r t o d s f i g) (hro : r.o = o) (ho : ¬ o = 24) (hor : orB o = o + 8) : St l (srcS r) (t.sc l) (t.so l o) d (t.ss l s) f (t.si l i) g := by
  have hO : ¬ r.o = 24 := by rw [hro]; exact ho
  have hA : St l { (YtcomhlimgocoaaaGreatDoor.regS { r with o := orB r.o }).1 with s := (YtcomhlimgocoaaaGreatDoor.regS { r with o := orB r.o }).2 } ((t.pk l).rg l) (o + 8) d (rgV l (t.pk l).k) f i g :=
    St.regS (r := { r with o := orB r.o }) ⟨h.sim.pk, fun e1 e2 => by obtain ⟨q1, q2, q3, q4, q5, q6⟩ := h.eq e1 e2; exact ⟨by show orB r.o = _; rw [hro]; exact hor, q2, q3, q4, q5, q6⟩⟩
  have hB : St l (immS r) ((t.pk l).im l) o d s f ((t.pk l).iv l) g := St.imm ⟨h.sim.pk, h.eq⟩ hO
  rcases h.sim with ⟨hw, hb⟩ | ⟨hw, hb, hou, hi, ht, hr⟩
  · have bad : ∀ r' : RS, r'.wrong = true → St l r' (t.sc l) (t.so l o) d (t.ss l s) f (t.si l i) g := fun r' hr' => ⟨.inl ⟨hr', by unfold S4.sc; split; exact (by simp [S4.rg, S4.pk, rgB, hb]); exact sg_bad (by exact hb)⟩, fun e => by rw [hr'] at e; cases e⟩
    apply bad
    unfold srcS
    split
    · exact (reg_f { r with o := orB r.o }).1 hw
    · rcases hB.sim with h2 | h2
      · exact h2.1
      · have := h2.2.1; rw [show ((t.pk l).im l).bad = true from sg_bad (by exact hb)] at this; cases this
  · unfold srcS S4.sc S4.so S4.ss S4.si
    rw [start_pk hi ht]
    cases letP ((pkP l t.k).toNat : Int)
    · exact hB
    · exact hA
end Go.Proofs.YtcomhlimgocoaaaGreatDoor
namespace Go.Proofs.YtcomhlimgocoaaaGreatDoor
open Go.RowKit
set_option linter.unusedVariables false
set_option linter.unusedSimpArgs false
/-- what the operands of a row give -/
structure PO where
  (o d s f i : Int)
  g : List UInt8
  t : S4
def opdR4 (r : Rw) (l : List UInt8) (t : S4) : PO :=
  if r.sh = 1 then ⟨((t.rg l).mk4 l 44).so l r.op, rgV l t.k, ((t.rg l).mk4 l 44).ss l 0, r.off, ((t.rg l).mk4 l 44).si l r.imm, [], ((t.rg l).mk4 l 44).sc l⟩
  else if r.sh = 8 then ⟨((t.rg l).mk4 l 44).so l r.op, rgV l t.k, ((t.rg l).mk4 l 44).ss l 0, r.off, ((t.rg l).mk4 l 44).si l r.imm, wdP l ((((t.rg l).mk4 l 44).sc l).mk4 l 44).k, ((((t.rg l).mk4 l 44).sc l).mk4 l 44).tg l⟩
  else if r.sh = 2 then ⟨r.op, rgV l t.k, rgV l ((t.rg l).mk4 l 44).k, r.off, r.imm, [], ((t.rg l).mk4 l 44).rg l⟩
  else if r.sh = 3 then ⟨r.op, rgV l t.k, 0, r.off, r.imm, [], t.rg l⟩
  else if r.sh = 4 then ⟨r.op, rgV l t.k, ((t.rg l).mk4 l 44).pr l, ((t.rg l).mk4 l 44).pf l, r.imm, [], ((t.rg l).mk4 l 44).pl l⟩
  else if r.sh = 5 then ⟨r.op, t.pr l, 0, t.pf l, ((t.pl l).mk4 l 44).iv l, [], ((t.pl l).mk4 l 44).im l⟩
  else if r.sh = 6 then ⟨r.op, t.pr l, rgV l ((t.pl l).mk4 l 44).k, t.pf l, r.imm, [], ((t.pl l).mk4 l 44).rg l⟩
  else if r.sh = 7 then ⟨r.op, 0, 0, r.off, r.imm, wdP l t.k, t.tg l⟩
  else if r.sh = 9 then (if letP ((pkP l t.k).toNat : Int) then ⟨r.op, 0, 1, r.off, -1, wdP l (t.pk l).k, (t.pk l).tg l⟩ else ⟨r.op, 0, 0, r.off, (t.pk l).iv l, [], (t.pk l).im l⟩)
  else if r.sh = 11 then ⟨r.op, rgV l t.k, 0, r.off, ((t.rg l).mk4 l 44).sv l 18446744073709551615 9223372036854775808 false, [], ((t.rg l).mk4 l 44).sg l 18446744073709551615 9223372036854775808 false⟩
  else if r.sh = 12 then ⟨r.op, rgV l t.k, 1, r.off, r.imm, wdP l ((t.rg l).mk4 l 44).k, ((t.rg l).mk4 l 44).tg l⟩
  else ⟨r.op, 0, 0, r.off, r.imm, [], t⟩
theorem sizeIn4 : (Tryz.prog.info? 25).map (·.size) = some 5 := by kernel_rfl
theorem set5c_heap {w : World} {b : Nat} {t : TypeId} {x0 x1 x2 x3 x4 a0 a1 a2 a3 a4 : Value} (h : w.heap[b]? = some (.cells #[a0, a1, a2, a3, a4] t (0, 0))) : (((((w.setCell ⟨b, 0, none⟩ x0).setCell ⟨b, 1, none⟩ x1).setCell ⟨b, 2, none⟩ x2).setCell ⟨b, 3, none⟩ x3).setCell ⟨b, 4, none⟩ x4).heap[b]? = some (.cells #[x0, x1, x2, x3, x4] t (0, 0)) := by
  simp [World.setCell, Array.getElem?_modify, h]
theorem set5_chg {S : Nat → Prop} {w0 w : World} {b : Nat} {x0 x1 x2 x3 x4 : Value} (h : Chg S w0 w) (hb : w0.heap.size ≤ b) : Chg S w0 (((((w.setCell ⟨b, 0, none⟩ x0).setCell ⟨b, 1, none⟩ x1).setCell ⟨b, 2, none⟩ x2).setCell ⟨b, 3, none⟩ x3).setCell ⟨b, 4, none⟩ x4) := by
  have one : ∀ {w1 : World} (j : Nat) (v : Value), Chg S w0 w1 → Chg S w0 (w1.setCell ⟨b, j, none⟩ v) := fun {w1} j v k =>
    ⟨k.os, k.tape, k.output, by simp only [World.setCell, Array.size_modify]; exact k.size, fun x hx hs => (keep_other (show ¬ x = b by omega)).trans (k.block x hx hs)⟩
  exact one _ _ (one _ _ (one _ _ (one _ _ (one _ _ h))))
theorem set5_other {w : World} {p b : Nat} {x0 x1 x2 x3 x4 : Value} (ne : ¬ p = b) : (((((w.setCell ⟨b, 0, none⟩ x0).setCell ⟨b, 1, none⟩ x1).setCell ⟨b, 2, none⟩ x2).setCell ⟨b, 3, none⟩ x3).setCell ⟨b, 4, none⟩ x4).heap[p]? = w.heap[p]? := by
  rw [keep_other ne, keep_other ne, keep_other ne, keep_other ne, keep_other ne]
set_option maxRecDepth 20000 in
set_option maxHeartbeats 8000000 in
theorem operands4_any (w : World) (p : Nat) (l : List UInt8) (t : S4) (L : List UInt8) (sh op off imm : Int) (h : A4 w p l t) (hk : t.In l) (hl : l.length ≤ 140737488355328) (o0 : 0 ≤ op) (o1 : op ≤ 1000) (p2 : 1 ≤ sh) (p3 : sh ≤ 12) : Calls Tryz.prog 39 #[.pointer (some ⟨p, 0, none⟩), .agg #[.string ⟨L.toArray⟩, .int .i64 sh, .int .i64 op, .int .i64 off, .int .i64 imm]] w fun e w' => e = .returned (.tuple #[.agg #[.int .i64 (opdR4 ⟨L, sh, op, off, imm⟩ l t).o, .int .i64 (opdR4 ⟨L, sh, op, off, imm⟩ l t).d, .int .i64 (opdR4 ⟨L, sh, op, off, imm⟩ l t).s, .int .i64 (opdR4 ⟨L, sh, op, off, imm⟩ l t).f, .int .i64 (opdR4 ⟨L, sh, op, off, imm⟩ l t).i], .string ⟨(opdR4 ⟨L, sh, op, off, imm⟩ l t).g.toArray⟩]) ∧ E4 p l (opdR4 ⟨L, sh, op, off, imm⟩ l t).t w w' := by
  have KM := hidOf (fun wx (s : S4) (hx : A4 wx p l s) (hs : s.In l) => mark4_s wx p l s 44 44 rfl hx hs hl)
  have KR := hidOf (fun wx (s : S4) (hx : A4 wx p l s) (hs : s.In l) => reg4_s wx p l s hx hs hl)
  have KT := hidOf (fun wx (s : S4) (hx : A4 wx p l s) (hs : s.In l) => target4_s wx p l s hx hs hl)
  have KP := hidOf (fun wx (s : S4) (hx : A4 wx p l s) (hs : s.In l) => place4_s wx p l s hx hs hl)
  have KI := hidOf (fun wx (s : S4) (hx : A4 wx p l s) (hs : s.In l) => imm4_s wx p l s hx hs hl)
  have KK := hidOf (fun wx (s : S4) (hx : A4 wx p l s) (hs : s.In l) => peek4_s wx p l s hx hs hl)
  have KS := hidOf (fun wx (s : S4) (hx : A4 wx p l s) (hs : s.In l) => signed4_s wx p l s 18446744073709551615 9223372036854775808 false hx hs hl)
  obtain ⟨X, hX⟩ : ∃ X, opdR4 ⟨L, sh, op, off, imm⟩ l t = X := ⟨_, rfl⟩
  have HX := hidOf hX
  rw [hX]
  unfold opdR4 at HX
  simp only at HX
  clear hX
  have hpl : p < w.heap.size := (Array.getElem?_eq_some_iff.1 h).1
  have HK := hidOf hk
  go_enter Tryz.func39, Tryz.ntmps39
  go_upto_region 3 with fail
  obtain ⟨wC, hwC⟩ : ∃ wC, wC = ((w.alloc (.cells #[.string ⟨L.toArray⟩, .int .i64 sh, .int .i64 op, .int .i64 off, .int .i64 imm] 67)).alloc (.cells #[.int .i64 0, .int .i64 0, .int .i64 0, .int .i64 0, .int .i64 0] 25)).alloc (.cells #[.int .i64 op, .int .i64 0, .int .i64 0, .int .i64 off, .int .i64 imm] 25) := ⟨_, rfl⟩
  obtain ⟨q, hq⟩ : ∃ q, q = w.heap.size + 1 + 1 := ⟨_, rfl⟩
  obtain ⟨qR, hqR⟩ : ∃ qR, qR = w.heap.size + 1 := ⟨_, rfl⟩
  obtain ⟨qb, hqb⟩ : ∃ qb, qb = w.heap.size := ⟨_, rfl⟩
  have z1 : (w.alloc (.cells #[.string ⟨L.toArray⟩, .int .i64 sh, .int .i64 op, .int .i64 off, .int .i64 imm] 67)).heap.size = w.heap.size + 1 := size_alloc _ _
  have z2 : ((w.alloc (.cells #[.string ⟨L.toArray⟩, .int .i64 sh, .int .i64 op, .int .i64 off, .int .i64 imm] 67)).alloc (.cells #[.int .i64 0, .int .i64 0, .int .i64 0, .int .i64 0, .int .i64 0] 25)).heap.size = w.heap.size + 1 + 1 := by rw [size_alloc, z1]
  have oC : Out w wC := by rw [hwC]; exact (((Out.refl w).alloc _).alloc _).alloc _
  have hA : A4 wC p l t := blk_out oC h
  have hI : I4 wC q op 0 0 off imm := by rw [hwC, hq, ← z2]; exact heap_alloc_new _ _
  have hRr : wC.heap[qR]? = some (.cells #[.int .i64 0, .int .i64 0, .int .i64 0, .int .i64 0, .int .i64 0] 25 (0, 0)) := by
    rw [hwC, hqR, ← z1]
    exact blk_out ((Out.refl _).alloc _) (heap_alloc_new _ _)
  have hBx : wC.heap[qb]? = some (.cells #[.string ⟨L.toArray⟩, .int .i64 sh, .int .i64 op, .int .i64 off, .int .i64 imm] 67 (0, 0)) := by
    rw [hwC, hqb]
    exact blk_out (((Out.refl _).alloc _).alloc _) (heap_alloc_new _ _)
  have hsz : wC.heap.size = w.heap.size + 3 := by rw [hwC, size_alloc, z2]
  have G0 : Hid (G4 p q l t op 0 0 off imm wC wC) := hidOf ⟨hA, hI, Chg.refl _ _, by omega⟩
  have HRr : Hid (∀ wx, Chg (fun x => x = p ∨ x = q) wC wx → wx.heap[qR]? = some (.cells #[.int .i64 0, .int .i64 0, .int .i64 0, .int .i64 0, .int .i64 0] 25 (0, 0))) := hidOf (fun wx hc => (hc.block qR (by omega) (by omega)).trans hRr)
  have HBx : Hid (∀ wx, Chg (fun x => x = p ∨ x = q) wC wx → wx.cell? ⟨qb, 1, none⟩ = some (.int .i64 sh)) := hidOf (fun wx hc => by rw [cell_atL ((hc.block qb (by omega) (by omega)).trans hBx)]; rfl)
  have y1 := HBx.out wC (Chg.refl _ _)
  have OC := hidOf oC
  have Hne : Hid (¬ p = qR ∧ w.heap.size ≤ qR ∧ w.heap.size ≤ q) := hidOf ⟨by omega, by omega, by omega⟩
  have HEnd : Hid (∀ (s : S4) (o' d' s' f' i' : Int) (w' : World) (x0 x1 x2 x3 x4 : Value), G4 p q l s o' d' s' f' i' wC w' → E4 p l s w (((((w'.setCell ⟨qR, 0, none⟩ x0).setCell ⟨qR, 1, none⟩ x1).setCell ⟨qR, 2, none⟩ x2).setCell ⟨qR, 3, none⟩ x3).setCell ⟨qR, 4, none⟩ x4)) := hidOf (fun s o' d' s' f' i' w' x0 x1 x2 x3 x4 hg => ⟨(set5_other Hne.out.1).trans hg.a, set5_chg (S := fun x => x = p) ⟨hg.c.os.trans oC.os, hg.c.tape.trans oC.tape, hg.c.output.trans oC.output, Nat.le_trans oC.size hg.c.size, fun x hx hs => (hg.c.block x (Nat.lt_of_lt_of_le hx oC.size) (by have := Hne.out; omega)).trans (oC.block x hx)⟩ Hne.out.2.1⟩)
  rw [← hwC, ← hq, ← hqR, ← hqb]
  clear hwC hq hqR hqb z1 z2 oC hA hI hRr hBx hsz h hpl
  have ow : ∀ x : Int, op = x → True := fun _ _ => trivial
  clear ow
  have hsh : sh = 1 ∨ sh = 2 ∨ sh = 3 ∨ sh = 4 ∨ sh = 5 ∨ sh = 6 ∨ sh = 7 ∨ sh = 8 ∨ sh = 9 ∨ sh = 10 ∨ sh = 11 ∨ sh = 12 := by omega
  clear p2 p3
  rcases hsh with rfl | rfl | rfl | rfl | rfl | rfl | rfl | rfl | rfl | rfl | rfl | rfl
  · have hE := HX.out
    simp at hE
    clear HX
    go_upto_region 7 with (go_at_call 73; refine (KR.out _ _ G0.out.a (HK.out)).mono ?_; rintro e w1 ⟨rfl, hm⟩; have D1 := hidOf (G0.out.call hm); clear hm; have x11 := D1.out.b.cells.2.1; have g11 := frozen_atL D1.out.b 1)
    have D1b := hidOf (D1.out.set 1 (.int .i64 (rgV l t.k)) rfl)
    go_upto_region 8 with (go_at_call 74; refine (KM.out _ _ D1b.out.a (S4.In.rg HK.out)).mono ?_; rintro e w2 ⟨⟨_, rfl⟩, hm⟩; have D2 := hidOf (D1b.out.call hm); clear hm)
    have K2 := second4_s _ p q l _ _ _ _ _ _ D2.out.a D2.out.b D2.out.ne ((S4.In.rg HK.out).mk4 (c := 44) (by decide)) hl (by omega) (by omega)
    have KH := hidOf K2
    clear K2
    go_upto_region 9 with (go_at_call 75; refine KH.out.mono ?_; rintro e w3 ⟨⟨_, rfl⟩, hm⟩; have D3 := hidOf (D2.out.then hm); clear hm)
    have y9 := HBx.out _ D3.out.c
    obtain ⟨k0, k1, k2, k3, k4⟩ := D3.out.b.cells
    have hR := HRr.out _ D3.out.c
    have HR := hidOf hR
    have r0 := (cell_atL hR 0)
    simp at r0
    have e0 := frozen_atL hR 0
    have r1 := (cell_atL hR 1)
    simp at r1
    have e1 := frozen_atL hR 1
    have r2 := (cell_atL hR 2)
    simp at r2
    have e2 := frozen_atL hR 2
    have r3 := (cell_atL hR 3)
    simp at r3
    have e3 := frozen_atL hR 3
    have r4 := (cell_atL hR 4)
    simp at r4
    have e4 := frozen_atL hR 4
    clear hR
    go_wp2
    refine bodyPost_ret (results_row_tmp rfl _ _ qR 25 _ (0, 0) _ rfl (set5c_heap HR.out) Tryz.underlying25 rfl sizeIn4) rfl ?_
    subst hE
    exact ⟨rfl, HEnd.out _ _ _ _ _ _ _ _ _ _ _ _ D3.out⟩
  · have hE := HX.out
    simp at hE
    clear HX
    go_upto_region 14 with (go_at_call 73; refine (KR.out _ _ G0.out.a (HK.out)).mono ?_; rintro e w1 ⟨rfl, hm⟩; have D1 := hidOf (G0.out.call hm); clear hm; have x11 := D1.out.b.cells.2.1; have g11 := frozen_atL D1.out.b 1)
    have D1b := hidOf (D1.out.set 1 (.int .i64 (rgV l t.k)) rfl)
    go_upto_region 15 with (go_at_call 74; refine (KM.out _ _ D1b.out.a (S4.In.rg HK.out)).mono ?_; rintro e w2 ⟨⟨_, rfl⟩, hm⟩; have D2 := hidOf (D1b.out.call hm); clear hm)
    go_upto_region 47 with (go_at_call 73; refine (KR.out _ _ D2.out.a ((S4.In.rg HK.out).mk4 (c := 44) (by decide))).mono ?_; rintro e w3 ⟨rfl, hm⟩; have D3 := hidOf (D2.out.call hm); clear hm; have x32 := D3.out.b.cells.2.2.1; have g32 := frozen_atL D3.out.b 2)
    have D3c := hidOf (D3.out.set 2 (.int .i64 (rgV l ((t.rg l).mk4 l 44).k)) rfl)
    obtain ⟨k0, k1, k2, k3, k4⟩ := D3c.out.b.cells
    have hR := HRr.out _ D3c.out.c
    have HR := hidOf hR
    have r0 := (cell_atL hR 0)
    simp at r0
    have e0 := frozen_atL hR 0
    have r1 := (cell_atL hR 1)
    simp at r1
    have e1 := frozen_atL hR 1
    have r2 := (cell_atL hR 2)
    simp at r2
    have e2 := frozen_atL hR 2
    have r3 := (cell_atL hR 3)
    simp at r3
    have e3 := frozen_atL hR 3
    have r4 := (cell_atL hR 4)
    simp at r4
    have e4 := frozen_atL hR 4
    clear hR
    go_wp2
    refine bodyPost_ret (results_row_tmp rfl _ _ qR 25 _ (0, 0) _ rfl (set5c_heap HR.out) Tryz.underlying25 rfl sizeIn4) rfl ?_
    subst hE
    exact ⟨rfl, HEnd.out _ _ _ _ _ _ _ _ _ _ _ _ D3c.out⟩
  · have hE := HX.out
    simp at hE
    clear HX
    go_upto_region 47 with (go_at_call 73; refine (KR.out _ _ G0.out.a (HK.out)).mono ?_; rintro e w1 ⟨rfl, hm⟩; have D1 := hidOf (G0.out.call hm); clear hm; have x11 := D1.out.b.cells.2.1; have g11 := frozen_atL D1.out.b 1)
    have D1b := hidOf (D1.out.set 1 (.int .i64 (rgV l t.k)) rfl)
    obtain ⟨k0, k1, k2, k3, k4⟩ := D1b.out.b.cells
    have hR := HRr.out _ D1b.out.c
    have HR := hidOf hR
    have r0 := (cell_atL hR 0)
    simp at r0
    have e0 := frozen_atL hR 0
    have r1 := (cell_atL hR 1)
    simp at r1
    have e1 := frozen_atL hR 1
    have r2 := (cell_atL hR 2)
    simp at r2
    have e2 := frozen_atL hR 2
    have r3 := (cell_atL hR 3)
    simp at r3
    have e3 := frozen_atL hR 3
    have r4 := (cell_atL hR 4)
    simp at r4
    have e4 := frozen_atL hR 4
    clear hR
    go_wp2
    refine bodyPost_ret (results_row_tmp rfl _ _ qR 25 _ (0, 0) _ rfl (set5c_heap HR.out) Tryz.underlying25 rfl sizeIn4) rfl ?_
    subst hE
    exact ⟨rfl, HEnd.out _ _ _ _ _ _ _ _ _ _ _ _ D1b.out⟩
  · have hE := HX.out
    simp at hE
    clear HX
    go_upto_region 20 with (go_at_call 73; refine (KR.out _ _ G0.out.a (HK.out)).mono ?_; rintro e w1 ⟨rfl, hm⟩; have D1 := hidOf (G0.out.call hm); clear hm; have x11 := D1.out.b.cells.2.1; have g11 := frozen_atL D1.out.b 1)
    have D1b := hidOf (D1.out.set 1 (.int .i64 (rgV l t.k)) rfl)
    go_upto_region 21 with (go_at_call 74; refine (KM.out _ _ D1b.out.a (S4.In.rg HK.out)).mono ?_; rintro e w2 ⟨⟨_, rfl⟩, hm⟩; have D2 := hidOf (D1b.out.call hm); clear hm)
    go_upto_region 47 with (go_at_call 77; refine (KP.out _ _ D2.out.a ((S4.In.rg HK.out).mk4 (c := 44) (by decide))).mono ?_; rintro e w3 ⟨rfl, hm⟩; have D3 := hidOf (D2.out.call hm); clear hm; have x32 := D3.out.b.cells.2.2.1; have g32 := frozen_atL D3.out.b 2; have x33 := D3.out.b.cells.2.2.2.1; have g33 := frozen_atL D3.out.b 3)
    have D3c := hidOf (D3.out.set 2 (.int .i64 (((t.rg l).mk4 l 44).pr l)) rfl)
    have D3a := hidOf (D3c.out.set 3 (.int .i64 (((t.rg l).mk4 l 44).pf l)) rfl)
    obtain ⟨k0, k1, k2, k3, k4⟩ := D3a.out.b.cells
    have hR := HRr.out _ D3a.out.c
    have HR := hidOf hR
    have r0 := (cell_atL hR 0)
    simp at r0
    have e0 := frozen_atL hR 0
    have r1 := (cell_atL hR 1)
    simp at r1
    have e1 := frozen_atL hR 1
    have r2 := (cell_atL hR 2)
    simp at r2
    have e2 := frozen_atL hR 2
    have r3 := (cell_atL hR 3)
    simp at r3
    have e3 := frozen_atL hR 3
    have r4 := (cell_atL hR 4)
    simp at r4
    have e4 := frozen_atL hR 4
    clear hR
    go_wp2
    refine bodyPost_ret (results_row_tmp rfl _ _ qR 25 _ (0, 0) _ rfl (set5c_heap HR.out) Tryz.underlying25 rfl sizeIn4) rfl ?_
    subst hE
    exact ⟨rfl, HEnd.out _ _ _ _ _ _ _ _ _ _ _ _ D3a.out⟩
  · have hE := HX.out
    simp at hE
    clear HX
    go_upto_region 24 with (go_at_call 77; refine (KP.out _ _ G0.out.a (HK.out)).mono ?_; rintro e w1 ⟨rfl, hm⟩; have D1 := hidOf (G0.out.call hm); clear hm; have x11 := D1.out.b.cells.2.1; have g11 := frozen_atL D1.out.b 1; have x13 := D1.out.b.cells.2.2.2.1; have g13 := frozen_atL D1.out.b 3)
    have D1b := hidOf (D1.out.set 1 (.int .i64 (t.pr l)) rfl)
    have D1a := hidOf (D1b.out.set 3 (.int .i64 (t.pf l)) rfl)
    go_upto_region 25 with (go_at_call 74; refine (KM.out _ _ D1a.out.a (S4.In.pl HK.out)).mono ?_; rintro e w2 ⟨⟨_, rfl⟩, hm⟩; have D2 := hidOf (D1a.out.call hm); clear hm)
    go_upto_region 47 with (go_at_call 78; refine (KI.out _ _ D2.out.a ((S4.In.pl HK.out).mk4 (c := 44) (by decide))).mono ?_; rintro e w3 ⟨rfl, hm⟩; have D3 := hidOf (D2.out.call hm); clear hm; have x34 := D3.out.b.cells.2.2.2.2; have g34 := frozen_atL D3.out.b 4)
    have D3b := hidOf (D3.out.set 4 (.int .i64 (((t.pl l).mk4 l 44).iv l)) rfl)
    obtain ⟨k0, k1, k2, k3, k4⟩ := D3b.out.b.cells
    have hR := HRr.out _ D3b.out.c
    have HR := hidOf hR
    have r0 := (cell_atL hR 0)
    simp at r0
    have e0 := frozen_atL hR 0
    have r1 := (cell_atL hR 1)
    simp at r1
    have e1 := frozen_atL hR 1
    have r2 := (cell_atL hR 2)
    simp at r2
    have e2 := frozen_atL hR 2
    have r3 := (cell_atL hR 3)
    simp at r3
    have e3 := frozen_atL hR 3
    have r4 := (cell_atL hR 4)
    simp at r4
    have e4 := frozen_atL hR 4
    clear hR
    go_wp2
    refine bodyPost_ret (results_row_tmp rfl _ _ qR 25 _ (0, 0) _ rfl (set5c_heap HR.out) Tryz.underlying25 rfl sizeIn4) rfl ?_
    subst hE
    exact ⟨rfl, HEnd.out _ _ _ _ _ _ _ _ _ _ _ _ D3b.out⟩
  · have hE := HX.out
    simp at hE
    clear HX
    go_upto_region 28 with (go_at_call 77; refine (KP.out _ _ G0.out.a (HK.out)).mono ?_; rintro e w1 ⟨rfl, hm⟩; have D1 := hidOf (G0.out.call hm); clear hm; have x11 := D1.out.b.cells.2.1; have g11 := frozen_atL D1.out.b 1; have x13 := D1.out.b.cells.2.2.2.1; have g13 := frozen_atL D1.out.b 3)
    have D1b := hidOf (D1.out.set 1 (.int .i64 (t.pr l)) rfl)
    have D1a := hidOf (D1b.out.set 3 (.int .i64 (t.pf l)) rfl)
    go_upto_region 29 with (go_at_call 74; refine (KM.out _ _ D1a.out.a (S4.In.pl HK.out)).mono ?_; rintro e w2 ⟨⟨_, rfl⟩, hm⟩; have D2 := hidOf (D1a.out.call hm); clear hm)
    go_upto_region 47 with (go_at_call 73; refine (KR.out _ _ D2.out.a ((S4.In.pl HK.out).mk4 (c := 44) (by decide))).mono ?_; rintro e w3 ⟨rfl, hm⟩; have D3 := hidOf (D2.out.call hm); clear hm; have x32 := D3.out.b.cells.2.2.1; have g32 := frozen_atL D3.out.b 2)
    have D3c := hidOf (D3.out.set 2 (.int .i64 (rgV l ((t.pl l).mk4 l 44).k)) rfl)
    obtain ⟨k0, k1, k2, k3, k4⟩ := D3c.out.b.cells
    have hR := HRr.out _ D3c.out.c
    have HR := hidOf hR
    have r0 := (cell_atL hR 0)
    simp at r0
    have e0 := frozen_atL hR 0
    have r1 := (cell_atL hR 1)
    simp at r1
    have e1 := frozen_atL hR 1
    have r2 := (cell_atL hR 2)
    simp at r2
    have e2 := frozen_atL hR 2
    have r3 := (cell_atL hR 3)
    simp at r3
    have e3 := frozen_atL hR 3
    have r4 := (cell_atL hR 4)
    simp at r4
    have e4 := frozen_atL hR 4
    clear hR
    go_wp2
    refine bodyPost_ret (results_row_tmp rfl _ _ qR 25 _ (0, 0) _ rfl (set5c_heap HR.out) Tryz.underlying25 rfl sizeIn4) rfl ?_
    subst hE
    exact ⟨rfl, HEnd.out _ _ _ _ _ _ _ _ _ _ _ _ D3c.out⟩
  · have hE := HX.out
    simp at hE
    clear HX
    go_upto_region 47 with (go_at_call 76; refine (KT.out _ _ G0.out.a (HK.out)).mono ?_; rintro e w1 ⟨rfl, hm⟩; have D1 := hidOf (G0.out.call hm); clear hm)
    obtain ⟨k0, k1, k2, k3, k4⟩ := D1.out.b.cells
    have hR := HRr.out _ D1.out.c
    have HR := hidOf hR
    have r0 := (cell_atL hR 0)
    simp at r0
    have e0 := frozen_atL hR 0
    have r1 := (cell_atL hR 1)
    simp at r1
    have e1 := frozen_atL hR 1
    have r2 := (cell_atL hR 2)
    simp at r2
    have e2 := frozen_atL hR 2
    have r3 := (cell_atL hR 3)
    simp at r3
    have e3 := frozen_atL hR 3
    have r4 := (cell_atL hR 4)
    simp at r4
    have e4 := frozen_atL hR 4
    clear hR
    go_wp2
    refine bodyPost_ret (results_row_tmp rfl _ _ qR 25 _ (0, 0) _ rfl (set5c_heap HR.out) Tryz.underlying25 rfl sizeIn4) rfl ?_
    subst hE
    exact ⟨rfl, HEnd.out _ _ _ _ _ _ _ _ _ _ _ _ D1.out⟩
  · have hE := HX.out
    simp at hE
    clear HX
    go_upto_region 7 with (go_at_call 73; refine (KR.out _ _ G0.out.a (HK.out)).mono ?_; rintro e w1 ⟨rfl, hm⟩; have D1 := hidOf (G0.out.call hm); clear hm; have x11 := D1.out.b.cells.2.1; have g11 := frozen_atL D1.out.b 1)
    have D1b := hidOf (D1.out.set 1 (.int .i64 (rgV l t.k)) rfl)
    go_upto_region 8 with (go_at_call 74; refine (KM.out _ _ D1b.out.a (S4.In.rg HK.out)).mono ?_; rintro e w2 ⟨⟨_, rfl⟩, hm⟩; have D2 := hidOf (D1b.out.call hm); clear hm)
    have K2 := second4_s _ p q l _ _ _ _ _ _ D2.out.a D2.out.b D2.out.ne ((S4.In.rg HK.out).mk4 (c := 44) (by decide)) hl (by omega) (by omega)
    have KH := hidOf K2
    clear K2
    go_upto_region 9 with (go_at_call 75; refine KH.out.mono ?_; rintro e w3 ⟨⟨_, rfl⟩, hm⟩; have D3 := hidOf (D2.out.then hm); clear hm)
    have y9 := HBx.out _ D3.out.c
    go_upto_region 11 with (go_at_call 74; refine (KM.out _ _ D3.out.a (S4.In.sc ((S4.In.rg HK.out).mk4 (c := 44) (by decide)))).mono ?_; rintro e w4 ⟨⟨_, rfl⟩, hm⟩; have D4 := hidOf (D3.out.call hm); clear hm)
    go_upto_region 47 with (go_at_call 76; refine (KT.out _ _ D4.out.a ((S4.In.sc ((S4.In.rg HK.out).mk4 (c := 44) (by decide))).mk4 (c := 44) (by decide))).mono ?_; rintro e w5 ⟨rfl, hm⟩; have D5 := hidOf (D4.out.call hm); clear hm)
    obtain ⟨k0, k1, k2, k3, k4⟩ := D5.out.b.cells
    have hR := HRr.out _ D5.out.c
    have HR := hidOf hR
    have r0 := (cell_atL hR 0)
    simp at r0
    have e0 := frozen_atL hR 0
    have r1 := (cell_atL hR 1)
    simp at r1
    have e1 := frozen_atL hR 1
    have r2 := (cell_atL hR 2)
    simp at r2
    have e2 := frozen_atL hR 2
    have r3 := (cell_atL hR 3)
    simp at r3
    have e3 := frozen_atL hR 3
    have r4 := (cell_atL hR 4)
    simp at r4
    have e4 := frozen_atL hR 4
    clear hR
    go_wp2
    refine bodyPost_ret (results_row_tmp rfl _ _ qR 25 _ (0, 0) _ rfl (set5c_heap HR.out) Tryz.underlying25 rfl sizeIn4) rfl ?_
    subst hE
    exact ⟨rfl, HEnd.out _ _ _ _ _ _ _ _ _ _ _ _ D5.out⟩
  · have hE := HX.out
    simp at hE
    clear HX
    cases hL : letP ((pkP l t.k).toNat : Int)
    · rw [hL] at hE
      simp at hE
      go_upto_region 37 with (first | (go_at_call 68; refine (KK.out _ _ G0.out.a HK.out).mono ?_; rintro e w1 ⟨rfl, hm⟩; have D1 := hidOf (G0.out.call hm); clear hm) | (go_at_call 48; refine (refLetter_of hL _).mono ?_; rintro e wL ⟨rfl, rfl⟩))
      go_upto_region 47 with (go_at_call 78; refine (KI.out _ _ D1.out.a (S4.In.pk HK.out)).mono ?_; rintro e w2 ⟨rfl, hm⟩; have D2 := hidOf (D1.out.call hm); clear hm; have x24 := D2.out.b.cells.2.2.2.2; have g24 := frozen_atL D2.out.b 4)
      have D2b := hidOf (D2.out.set 4 (.int .i64 ((t.pk l).iv l)) rfl)
      obtain ⟨k0, k1, k2, k3, k4⟩ := D2b.out.b.cells
      have hR := HRr.out _ D2b.out.c
      have HR := hidOf hR
      have r0 := (cell_atL hR 0)
      simp at r0
      have e0 := frozen_atL hR 0
      have r1 := (cell_atL hR 1)
      simp at r1
      have e1 := frozen_atL hR 1
      have r2 := (cell_atL hR 2)
      simp at r2
      have e2 := frozen_atL hR 2
      have r3 := (cell_atL hR 3)
      simp at r3
      have e3 := frozen_atL hR 3
      have r4 := (cell_atL hR 4)
      simp at r4
      have e4 := frozen_atL hR 4
      clear hR
      go_wp2
      refine bodyPost_ret (results_row_tmp rfl _ _ qR 25 _ (0, 0) _ rfl (set5c_heap HR.out) Tryz.underlying25 rfl sizeIn4) rfl ?_
      subst hE
      exact ⟨rfl, HEnd.out _ _ _ _ _ _ _ _ _ _ _ _ D2b.out⟩
    · rw [hL] at hE
      simp at hE
      go_upto_region 34 with (first | (go_at_call 68; refine (KK.out _ _ G0.out.a HK.out).mono ?_; rintro e w1 ⟨rfl, hm⟩; have D1 := hidOf (G0.out.call hm); clear hm) | (go_at_call 48; refine (refLetter_of hL _).mono ?_; rintro e wL ⟨rfl, rfl⟩))
      have x22 := D1.out.b.cells.2.2.1
      have g22 := frozen_atL D1.out.b 2
      go_upto_region 35 with fail
      have D2 := hidOf (D1.out.set 2 (.int .i64 (1)) rfl)
      have x34 := D2.out.b.cells.2.2.2.2
      have g34 := frozen_atL D2.out.b 4
      go_upto_region 36 with fail
      have D3 := hidOf (D2.out.set 4 (.int .i64 (-1)) rfl)
      go_upto_region 47 with (go_at_call 76; refine (KT.out _ _ D3.out.a (S4.In.pk HK.out)).mono ?_; rintro e w4 ⟨rfl, hm⟩; have D4 := hidOf (D3.out.call hm); clear hm)
      obtain ⟨k0, k1, k2, k3, k4⟩ := D4.out.b.cells
      have hR := HRr.out _ D4.out.c
      have HR := hidOf hR
      have r0 := (cell_atL hR 0)
      simp at r0
      have e0 := frozen_atL hR 0
      have r1 := (cell_atL hR 1)
      simp at r1
      have e1 := frozen_atL hR 1
      have r2 := (cell_atL hR 2)
      simp at r2
      have e2 := frozen_atL hR 2
      have r3 := (cell_atL hR 3)
      simp at r3
      have e3 := frozen_atL hR 3
      have r4 := (cell_atL hR 4)
      simp at r4
      have e4 := frozen_atL hR 4
      clear hR
      go_wp2
      refine bodyPost_ret (results_row_tmp rfl _ _ qR 25 _ (0, 0) _ rfl (set5c_heap HR.out) Tryz.underlying25 rfl sizeIn4) rfl ?_
      subst hE
      exact ⟨rfl, HEnd.out _ _ _ _ _ _ _ _ _ _ _ _ D4.out⟩
  · have hE := HX.out
    simp at hE
    clear HX
    obtain ⟨k0, k1, k2, k3, k4⟩ := G0.out.b.cells
    have hR := HRr.out _ G0.out.c
    have HR := hidOf hR
    have r0 := (cell_atL hR 0)
    simp at r0
    have e0 := frozen_atL hR 0
    have r1 := (cell_atL hR 1)
    simp at r1
    have e1 := frozen_atL hR 1
    have r2 := (cell_atL hR 2)
    simp at r2
    have e2 := frozen_atL hR 2
    have r3 := (cell_atL hR 3)
    simp at r3
    have e3 := frozen_atL hR 3
    have r4 := (cell_atL hR 4)
    simp at r4
    have e4 := frozen_atL hR 4
    clear hR
    go_wp2
    refine bodyPost_ret (results_row_tmp rfl _ _ qR 25 _ (0, 0) _ rfl (set5c_heap HR.out) Tryz.underlying25 rfl sizeIn4) rfl ?_
    subst hE
    exact ⟨rfl, HEnd.out _ _ _ _ _ _ _ _ _ _ _ _ G0.out⟩
  · have hE := HX.out
    simp at hE
    clear HX
    go_upto_region 40 with (go_at_call 73; refine (KR.out _ _ G0.out.a (HK.out)).mono ?_; rintro e w1 ⟨rfl, hm⟩; have D1 := hidOf (G0.out.call hm); clear hm; have x11 := D1.out.b.cells.2.1; have g11 := frozen_atL D1.out.b 1)
    have D1b := hidOf (D1.out.set 1 (.int .i64 (rgV l t.k)) rfl)
    go_upto_region 41 with (go_at_call 74; refine (KM.out _ _ D1b.out.a (S4.In.rg HK.out)).mono ?_; rintro e w2 ⟨⟨_, rfl⟩, hm⟩; have D2 := hidOf (D1b.out.call hm); clear hm)
    go_upto_region 47 with (go_at_call 79; refine (KS.out _ _ D2.out.a ((S4.In.rg HK.out).mk4 (c := 44) (by decide))).mono ?_; rintro e w3 ⟨rfl, hm⟩; have D3 := hidOf (D2.out.call hm); clear hm; have x34 := D3.out.b.cells.2.2.2.2; have g34 := frozen_atL D3.out.b 4)
    have D3b := hidOf (D3.out.set 4 (.int .i64 (((t.rg l).mk4 l 44).sv l 18446744073709551615 9223372036854775808 false)) rfl)
    obtain ⟨k0, k1, k2, k3, k4⟩ := D3b.out.b.cells
    have hR := HRr.out _ D3b.out.c
    have HR := hidOf hR
    have r0 := (cell_atL hR 0)
    simp at r0
    have e0 := frozen_atL hR 0
    have r1 := (cell_atL hR 1)
    simp at r1
    have e1 := frozen_atL hR 1
    have r2 := (cell_atL hR 2)
    simp at r2
    have e2 := frozen_atL hR 2
    have r3 := (cell_atL hR 3)
    simp at r3
    have e3 := frozen_atL hR 3
    have r4 := (cell_atL hR 4)
    simp at r4
    have e4 := frozen_atL hR 4
    clear hR
    go_wp2
    refine bodyPost_ret (results_row_tmp rfl _ _ qR 25 _ (0, 0) _ rfl (set5c_heap HR.out) Tryz.underlying25 rfl sizeIn4) rfl ?_
    subst hE
    exact ⟨rfl, HEnd.out _ _ _ _ _ _ _ _ _ _ _ _ D3b.out⟩
  · have hE := HX.out
    simp at hE
    clear HX
    go_upto_region 44 with (go_at_call 73; refine (KR.out _ _ G0.out.a (HK.out)).mono ?_; rintro e w1 ⟨rfl, hm⟩; have D1 := hidOf (G0.out.call hm); clear hm; have x11 := D1.out.b.cells.2.1; have g11 := frozen_atL D1.out.b 1)
    have D1b := hidOf (D1.out.set 1 (.int .i64 (rgV l t.k)) rfl)
    have x22 := D1b.out.b.cells.2.2.1
    have g22 := frozen_atL D1b.out.b 2
    go_upto_region 45 with fail
    have D2 := hidOf (D1b.out.set 2 (.int .i64 (1)) rfl)
    go_upto_region 46 with (go_at_call 74; refine (KM.out _ _ D2.out.a (S4.In.rg HK.out)).mono ?_; rintro e w3 ⟨⟨_, rfl⟩, hm⟩; have D3 := hidOf (D2.out.call hm); clear hm)
    go_upto_region 47 with (go_at_call 76; refine (KT.out _ _ D3.out.a ((S4.In.rg HK.out).mk4 (c := 44) (by decide))).mono ?_; rintro e w4 ⟨rfl, hm⟩; have D4 := hidOf (D3.out.call hm); clear hm)
    obtain ⟨k0, k1, k2, k3, k4⟩ := D4.out.b.cells
    have hR := HRr.out _ D4.out.c
    have HR := hidOf hR
    have r0 := (cell_atL hR 0)
    simp at r0
    have e0 := frozen_atL hR 0
    have r1 := (cell_atL hR 1)
    simp at r1
    have e1 := frozen_atL hR 1
    have r2 := (cell_atL hR 2)
    simp at r2
    have e2 := frozen_atL hR 2
    have r3 := (cell_atL hR 3)
    simp at r3
    have e3 := frozen_atL hR 3
    have r4 := (cell_atL hR 4)
    simp at r4
    have e4 := frozen_atL hR 4
    clear hR
    go_wp2
    refine bodyPost_ret (results_row_tmp rfl _ _ qR 25 _ (0, 0) _ rfl (set5c_heap HR.out) Tryz.underlying25 rfl sizeIn4) rfl ?_
    subst hE
    exact ⟨rfl, HEnd.out _ _ _ _ _ _ _ _ _ _ _ _ D4.out⟩
end Go.Proofs.YtcomhlimgocoaaaGreatDoor
namespace Go.Proofs.YtcomhlimgocoaaaGreatDoor
open Go.RowKit
set_option linter.unusedVariables false
set_option linter.unusedSimpArgs false
theorem named_u {W A B : List UInt8} (h : (W.take A.length == A) = false) : (W == A ++ B) = false := by
  have h' : ¬ W.take A.length = A := by simpa using h
  have : ¬ W = A ++ B := fun e => h' (by rw [e]; simp)
  simpa using this
theorem named_v {W A B : List UInt8} (h : (W.drop A.length == B) = false) : (W == A ++ B) = false := by
  have h' : ¬ W.drop A.length = B := by simpa using h
  have : ¬ W = A ++ B := fun e => h' (by rw [e]; simp)
  simpa using this
theorem named_t {W A B : List UInt8} (h : (W.take A.length == A) = true) (k : (W.drop A.length == B) = true) : (W == A ++ B) = true := by
  have h' : W.take A.length = A := by simpa using h
  have k' : W.drop A.length = B := by simpa using k
  have : W = A ++ B := by
    conv => lhs; rw [← List.take_append_drop A.length W]
    rw [h', k']
  simpa using this
theorem named_l {W A B : List UInt8} (h : ¬ W.length = A.length + B.length) : (W == A ++ B) = false := by
  have : ¬ W = A ++ B := fun e => h (by rw [e]; simp)
  simpa using this
set_option maxRecDepth 20000 in
set_option maxHeartbeats 4000000 in
theorem add4w_no (w0 w : World) (pb : Nat) (R : List Rw) (o : Int) (W0 : List UInt8) (hW0 : 0 < W0.length) (hW1 : W0.length ≤ 140737488355328) (h : Pk w0 w pb R o W0) (hR : R.length ≤ 1000) (A B : List UInt8) (hA : 0 < A.length) (hA2 : A.length ≤ 100) (hB2 : B.length ≤ 100) (sh op off imm : Int) (op0 : 0 ≤ op) (op1 : op ≤ 1000) (hw : (W0 == A ++ B) = false) :
    Calls Tryz.prog 118 #[.pointer (some ⟨pb, 0, none⟩), .string ⟨A.toArray⟩, .string ⟨B.toArray⟩, .int .i64 sh, .int .i64 op, .int .i64 off, .int .i64 imm] w fun e w' => (∃ q, e = .returned q) ∧ Pk w0 w' pb R o W0 ∧ FrK w w' := by
  obtain ⟨a, c, st, own⟩ := h.st
  obtain ⟨n, hn⟩ : ∃ n, R.length = n := ⟨_, rfl⟩
  have c1 : w.cell? ⟨pb, 1, none⟩ = some (.bool false) := by rw [cell_atL st]; rfl
  have c2 : w.cell? ⟨pb, 2, none⟩ = some (.int .i64 o) := by rw [cell_atL st]; rfl
  have c3 : w.cell? ⟨pb, 3, none⟩ = some (.string ⟨W0.toArray⟩) := by rw [cell_atL st]; rfl
  have c0 : w.cell? ⟨pb, 0, none⟩ = some (.slice a n c) := by rw [cell_atL st, ← hn]; rfl
  have HP := hidOf h
  have ST := hidOf st
  have OW := hidOf own
  have Hn := hidOf hn
  have hWe : W0.isEmpty = false := by cases W0 with | nil => simp at hW0 | cons => rfl
  have hWI : (0 : Int) < W0.length := by omega
  have hWJ : (W0.length : Int) ≤ 140737488355328 := by omega
  have hAI : (A.length : Int) ≤ 100 := by omega
  have hBI : (B.length : Int) ≤ 100 := by omega
  have hnn : n ≤ 1000 := by omega
  have Hw := hidOf hw
  obtain ⟨NM, hNM⟩ : ∃ NM, (W0 == A ++ B) = NM := ⟨_, rfl⟩
  have HNM := hidOf hNM
  clear h st own hn hw hW0 hNM
  go_enter Tryz.func118, Tryz.ntmps118
  go_upto_region 1 with fail
  obtain ⟨q, hq⟩ : ∃ q, q = w.heap.size := ⟨_, rfl⟩
  obtain ⟨wB, hwB⟩ : ∃ wB, wB = w.alloc (.cells #[.string ⟨#[]⟩, .int .i64 sh, .int .i64 op, .int .i64 off, .int .i64 imm] 67) := ⟨_, rfl⟩
  have hB3 : wB.heap[q]? = some (.cells #[.string ⟨#[]⟩, .int .i64 sh, .int .i64 op, .int .i64 off, .int .i64 imm] 67 (0, 0)) := by rw [hwB, hq]; exact heap_alloc_new w _
  have oB : Out w wB := by rw [hwB]; exact (Out.refl w).alloc _
  rw [← hwB, ← hq]
  have OB := hidOf oB
  have HB3 := hidOf hB3
  have b0 := cell_later oB c0
  have b1 := cell_later oB c1
  have b2 := cell_later oB c2
  have b3 := cell_later oB c3
  have d0 : wB.cell? ⟨q, 0, none⟩ = some (.string ⟨#[]⟩) := by rw [cell_atL hB3]; rfl
  have d1 : wB.cell? ⟨q, 1, none⟩ = some (.int .i64 sh) := by rw [cell_atL hB3]; rfl
  have d2 : wB.cell? ⟨q, 2, none⟩ = some (.int .i64 op) := by rw [cell_atL hB3]; rfl
  have d3 : wB.cell? ⟨q, 3, none⟩ = some (.int .i64 off) := by rw [cell_atL hB3]; rfl
  have d4 : wB.cell? ⟨q, 4, none⟩ = some (.int .i64 imm) := by rw [cell_atL hB3]; rfl
  have Hq := hidOf hq
  clear hq hwB hB3 oB c0 c1 c2 c3
  go_upto_region 2 with fail
  go_cut [16] (fun v wx => v = .bool NM ∧ wB = wx)
  case first =>
    clear b0 b1 b2 d0 d1 d2 d3 d4
    by_cases hlen : W0.length = A.length + B.length
    · have hlI : ((W0.length : Int) == (A.length : Int) + (B.length : Int)) = true := by simp; omega
      have e1 : (⟨W0.toArray⟩ : ByteArray).extract 0 A.length = ⟨(W0.take A.length).toArray⟩ := ext_take W0 A.length (by omega)
      have e2 : (⟨W0.toArray⟩ : ByteArray).extract A.length W0.length = ⟨(W0.drop A.length).toArray⟩ := ext_drop W0 A.length (by omega)
      have e3 : (A.length : Int) ≤ W0.length := by omega
      have e4 : (0 : Int) ≤ A.length := by omega
      cases hU : (W0.take A.length == A)
      · have HF : Hid (NM = false) := hidOf (by rw [← HNM.out]; exact named_u hU)
        go_wp2
        go_meet
        exact ⟨by rw [HF.out], rfl⟩
      · cases hV : (W0.drop A.length == B)
        · have HF : Hid (NM = false) := hidOf (by rw [← HNM.out]; exact named_v hV)
          go_wp2
          go_meet
          exact ⟨by rw [HF.out, ← hlen, e2, mk_list, hV], rfl⟩
        · have HF : Hid (NM = true) := hidOf (by rw [← HNM.out]; exact named_t hU hV)
          go_wp2
          go_meet
          exact ⟨by rw [HF.out, ← hlen, e2, mk_list, hV], rfl⟩
    · have hlI : ((W0.length : Int) == (A.length : Int) + (B.length : Int)) = false := by simp; omega
      have HF : Hid (NM = false) := hidOf (by rw [← HNM.out]; exact named_l hlen)
      go_wp2
      go_meet
      exact ⟨by rw [HF.out], rfl⟩
  case rest =>
    obtain ⟨rfl, rfl⟩ := hcut
    obtain rfl : NM = false := by rw [← HNM.out, Hw.out]
    go_upto_region 3 with fail
    go_quiet (fail)
    go_wp2
    go_end0
    exact ⟨⟨_, rfl⟩, HP.out.on (OB.out.trans ((Out.refl _).dN _)), FrK.out (OB.out.trans ((Out.refl _).dN _))⟩
set_option maxRecDepth 20000 in
set_option maxHeartbeats 4000000 in
theorem add4w_yes (w0 w : World) (pb : Nat) (R : List Rw) (o : Int) (W0 : List UInt8) (hW0 : 0 < W0.length) (hW1 : W0.length ≤ 140737488355328) (h : Pk w0 w pb R o W0) (hR : R.length ≤ 1000) (A B : List UInt8) (hA : 0 < A.length) (hA2 : A.length ≤ 100) (hB2 : B.length ≤ 100) (sh op off imm : Int) (op0 : 0 ≤ op) (op1 : op ≤ 1000) (Z : List UInt8) (hZ : Z = A ++ B) (hw : (W0 == A ++ B) = true) :
    Calls Tryz.prog 118 #[.pointer (some ⟨pb, 0, none⟩), .string ⟨A.toArray⟩, .string ⟨B.toArray⟩, .int .i64 sh, .int .i64 op, .int .i64 off, .int .i64 imm] w fun e w' => (∃ q, e = .returned q) ∧ Pk w0 w' pb (R ++ [⟨Z, sh, op, off, imm⟩]) o W0 ∧ FrK w w' := by
  obtain ⟨a, c, st, own⟩ := h.st
  obtain ⟨n, hn⟩ : ∃ n, R.length = n := ⟨_, rfl⟩
  have c1 : w.cell? ⟨pb, 1, none⟩ = some (.bool false) := by rw [cell_atL st]; rfl
  have c2 : w.cell? ⟨pb, 2, none⟩ = some (.int .i64 o) := by rw [cell_atL st]; rfl
  have c3 : w.cell? ⟨pb, 3, none⟩ = some (.string ⟨W0.toArray⟩) := by rw [cell_atL st]; rfl
  have c0 : w.cell? ⟨pb, 0, none⟩ = some (.slice a n c) := by rw [cell_atL st, ← hn]; rfl
  have HP := hidOf h
  have ST := hidOf st
  have OW := hidOf own
  have Hn := hidOf hn
  have hWe : W0.isEmpty = false := by cases W0 with | nil => simp at hW0 | cons => rfl
  have hWI : (0 : Int) < W0.length := by omega
  have hWJ : (W0.length : Int) ≤ 140737488355328 := by omega
  have hAI : (A.length : Int) ≤ 100 := by omega
  have hBI : (B.length : Int) ≤ 100 := by omega
  have hnn : n ≤ 1000 := by omega
  have HZ := hidOf hZ
  have Hw := hidOf hw
  obtain ⟨NM, hNM⟩ : ∃ NM, (W0 == A ++ B) = NM := ⟨_, rfl⟩
  have HNM := hidOf hNM
  clear h st own hn hw hZ hW0 hNM
  go_enter Tryz.func118, Tryz.ntmps118
  go_upto_region 1 with fail
  obtain ⟨q, hq⟩ : ∃ q, q = w.heap.size := ⟨_, rfl⟩
  obtain ⟨wB, hwB⟩ : ∃ wB, wB = w.alloc (.cells #[.string ⟨#[]⟩, .int .i64 sh, .int .i64 op, .int .i64 off, .int .i64 imm] 67) := ⟨_, rfl⟩
  have hB3 : wB.heap[q]? = some (.cells #[.string ⟨#[]⟩, .int .i64 sh, .int .i64 op, .int .i64 off, .int .i64 imm] 67 (0, 0)) := by rw [hwB, hq]; exact heap_alloc_new w _
  have oB : Out w wB := by rw [hwB]; exact (Out.refl w).alloc _
  rw [← hwB, ← hq]
  have OB := hidOf oB
  have HB3 := hidOf hB3
  have b0 := cell_later oB c0
  have b1 := cell_later oB c1
  have b2 := cell_later oB c2
  have b3 := cell_later oB c3
  have d0 : wB.cell? ⟨q, 0, none⟩ = some (.string ⟨#[]⟩) := by rw [cell_atL hB3]; rfl
  have d1 : wB.cell? ⟨q, 1, none⟩ = some (.int .i64 sh) := by rw [cell_atL hB3]; rfl
  have d2 : wB.cell? ⟨q, 2, none⟩ = some (.int .i64 op) := by rw [cell_atL hB3]; rfl
  have d3 : wB.cell? ⟨q, 3, none⟩ = some (.int .i64 off) := by rw [cell_atL hB3]; rfl
  have d4 : wB.cell? ⟨q, 4, none⟩ = some (.int .i64 imm) := by rw [cell_atL hB3]; rfl
  have Hq := hidOf hq
  clear hq hwB hB3 oB c0 c1 c2 c3
  go_upto_region 2 with fail
  go_cut [16] (fun v wx => v = .bool NM ∧ wB = wx)
  case first =>
    clear b0 b1 b2 d0 d1 d2 d3 d4
    by_cases hlen : W0.length = A.length + B.length
    · have hlI : ((W0.length : Int) == (A.length : Int) + (B.length : Int)) = true := by simp; omega
      have e1 : (⟨W0.toArray⟩ : ByteArray).extract 0 A.length = ⟨(W0.take A.length).toArray⟩ := ext_take W0 A.length (by omega)
      have e2 : (⟨W0.toArray⟩ : ByteArray).extract A.length W0.length = ⟨(W0.drop A.length).toArray⟩ := ext_drop W0 A.length (by omega)
      have e3 : (A.length : Int) ≤ W0.length := by omega
      have e4 : (0 : Int) ≤ A.length := by omega
      cases hU : (W0.take A.length == A)
      · have HF : Hid (NM = false) := hidOf (by rw [← HNM.out]; exact named_u hU)
        go_wp2
        go_meet
        exact ⟨by rw [HF.out], rfl⟩
      · cases hV : (W0.drop A.length == B)
        · have HF : Hid (NM = false) := hidOf (by rw [← HNM.out]; exact named_v hV)
          go_wp2
          go_meet
          exact ⟨by rw [HF.out, ← hlen, e2, mk_list, hV], rfl⟩
        · have HF : Hid (NM = true) := hidOf (by rw [← HNM.out]; exact named_t hU hV)
          go_wp2
          go_meet
          exact ⟨by rw [HF.out, ← hlen, e2, mk_list, hV], rfl⟩
    · have hlI : ((W0.length : Int) == (A.length : Int) + (B.length : Int)) = false := by simp; omega
      have HF : Hid (NM = false) := hidOf (by rw [← HNM.out]; exact named_l hlen)
      go_wp2
      go_meet
      exact ⟨by rw [HF.out], rfl⟩
  case rest =>
    obtain ⟨rfl, rfl⟩ := hcut
    obtain rfl : NM = true := by rw [← HNM.out, Hw.out]
    go_upto_region 3 with fail
    go_quiet (fail)
    obtain ⟨w2, hw2⟩ : ∃ w2, w2 = wB.drewN nq := ⟨_, rfl⟩
    have O2 := hidOf (show Out wB w2 from by rw [hw2]; exact (Out.refl wB).dN _)
    rw [← hw2]
    clear hw2
    have a1 : ∀ w, (Op.stringOp .add ⟨A.toArray⟩ ⟨B.toArray⟩).run Tryz.prog w = .ok (.string ⟨Z.toArray⟩) w := add_l4 A B Z HZ.out (by omega)
    have hB2 : w2.heap[q]? = some (.cells #[.string ⟨#[]⟩, .int .i64 sh, .int .i64 op, .int .i64 off, .int .i64 imm] 67 (0, 0)) := (O2.out.block q (Array.getElem?_eq_some_iff.1 HB3.out).1).trans HB3.out
    have e0 : w2.cell? ⟨q, 0, none⟩ = some (.string ⟨#[]⟩) := by rw [cell_atL hB2]; rfl
    have f0 : w2.frozen? ⟨q, 0, none⟩ = false := frozen_atL hB2 0
    have HB2 := hidOf hB2
    have p0 := cell_later O2.out b0
    clear hB2 b0 b1 b2 b3 d0 d1 d2 d3 d4
    go_upto_region 5 with fail
    clear e0 f0 p0 a1
    obtain ⟨wC, hwC⟩ : ∃ wC, wC = w2.setCell ⟨q, 0, none⟩ (.string ⟨Z.toArray⟩) := ⟨_, rfl⟩
    rw [← hwC]
    have hC : wC.heap[q]? = some (.cells #[.string ⟨Z.toArray⟩, .int .i64 sh, .int .i64 op, .int .i64 off, .int .i64 imm] 67 (0, 0)) := by rw [hwC, set_atL HB2.out]; rfl
    have oW : Out w w2 := OB.out.trans O2.out
    have oC : Out w wC := by rw [hwC]; exact Out.setCell oW (by rw [Hq.out]; exact Nat.le_refl _) _
    have hpb : wC.heap[pb]? = _ := (oC.block pb (Array.getElem?_eq_some_iff.1 ST.out).1).trans ST.out
    have hown : wC.ownsRow w0.heap.size 67 5 (.slice a R.length c) R.length (rowsC R) := owns_chg (S := fun _ => False) OW.out (fun _ _ h => h) (Chg.of_out oC)
    have HC := hidOf hC
    have OC := hidOf oC
    have HPB := hidOf hpb
    have HOW := hidOf hown
    obtain ⟨i0, hi, hz0, hz1, hz2⟩ := info_parts infoRw
    have pD : wC.drew.cell? ⟨pb, 0, none⟩ = some (.slice a n c) := by rw [cell_atL (show wC.drew.heap[pb]? = _ from hpb), ← Hn.out]; rfl
    have d0 : wC.drew.cell? ⟨q, 0, none⟩ = some (.string ⟨Z.toArray⟩) := by rw [cell_atL (show wC.drew.heap[q]? = _ from hC)]; rfl
    have d1 : wC.drew.cell? ⟨q, 1, none⟩ = some (.int .i64 sh) := by rw [cell_atL (show wC.drew.heap[q]? = _ from hC)]; rfl
    have d2 : wC.drew.cell? ⟨q, 2, none⟩ = some (.int .i64 op) := by rw [cell_atL (show wC.drew.heap[q]? = _ from hC)]; rfl
    have d3 : wC.drew.cell? ⟨q, 3, none⟩ = some (.int .i64 off) := by rw [cell_atL (show wC.drew.heap[q]? = _ from hC)]; rfl
    have d4 : wC.drew.cell? ⟨q, 4, none⟩ = some (.int .i64 imm) := by rw [cell_atL (show wC.drew.heap[q]? = _ from hC)]; rfl
    have pDa : (wC.alloc (.cells #[.string ⟨Z.toArray⟩, .int .i64 sh, .int .i64 op, .int .i64 off, .int .i64 imm] 67)).cell? ⟨pb, 0, none⟩ = some (.slice a n c) := cell_later (((Out.refl wC)).alloc _) (show wC.cell? ⟨pb, 0, none⟩ = _ from pD)
    have RX : Hid (∀ O, (wC.alloc O).drew.ownsRow w0.heap.size 67 5 (.slice a n c) n (rowsC R)) := hidOf (fun O => by
      have := owns_chg (S := fun _ => False) hown (fun _ _ h => h) (Chg.of_out (((Out.refl wC).alloc O).drew))
      rw [Hn.out] at this; exact this)
    have HPw : Hid (∀ O w8, (wC.alloc O).drew.grownBy w8 (Value.slice a n c).ownBlock → w8.cell? ⟨pb, 0, none⟩ = some (.slice a n c) ∧ w8.frozen? ⟨pb, 0, none⟩ = false) := hidOf (fun O w8 hg => by
      have hA : (wC.alloc O).drew.heap[pb]? = _ := ((((Out.refl wC).alloc O).drew).block pb (Array.getElem?_eq_some_iff.1 hpb).1).trans hpb
      have hs : w8.heap[pb]? = _ := (hg.block pb (Array.getElem?_eq_some_iff.1 hA).1 (fun e => own_kind (RX.out O) hA (by decide) e.symm)).trans hA
      exact ⟨by rw [cell_atL hs, ← Hn.out]; rfl, frozen_atL hs 0⟩)
    have hbase : Hid (∀ O, w0.heap.size ≤ (wC.alloc O).drew.heap.size) := hidOf (fun O => ((HP.out.out.trans oC).alloc O).drew.size)
    have FC : Hid (FrK w wC) := hidOf (by rw [hwC]; exact (FrK.out oW).trans (FrK.chg (Chg.setCell (S := fun k => k = q) (Chg.refl _ w2) (p := ⟨q, 0, none⟩) rfl _) (fun k hk => by rw [hk]; exact ⟨_, _, _, HB2.out, .inl rfl⟩)))
    clear hwC hC oW oC hpb hown HB2 HB3 OB O2
    go_region_law (first | (refine step_append_lies _ rfl (.tmp 91) (.tmp 93) 86 rfl w0.heap.size 67 i0 _ 5 48 Tryz.underlying86 hi hz0 hz1 hz2 rfl (by decide) (.slice a n c) n (rowsC R) rfl (RX.out _) ⟨wC.heap.size, 0, none⟩ 1 1 [.string ⟨Z.toArray⟩, .int .i64 sh, .int .i64 op, .int .i64 off, .int .i64 imm] rfl rfl (fun j u hu => cell_later ((Out.refl _).drew) (news_new wC _ _ _ rfl j u hu)) (by intro u hu; simp at hu; rcases hu with h | h | h | h | h <;> subst h <;> rfl) (by decide) (by unfold maxLen; omega) (by omega) (hbase.out _) _ rfl ?_; intro g9 cap9 w9 hown9 hgrow9 hg9 hlt9; obtain ⟨q9, f9⟩ := HPw.out _ w9 hgrow9; have W9 := hidOf hown9; have G9 := hidOf hgrow9; clear hown9 hgrow9 hg9 hlt9))
    all_goals
      go_end0
      have hP := Pk.push (r := ⟨Z, sh, op, off, imm⟩) HPB.out HOW.out HP.out.pB (HP.out.out.trans OC.out) (((Out.refl wC).alloc _).drew) (by rw [Hn.out]; exact G9.out) (by rw [Hn.out]) W9.out
      exact ⟨⟨_, rfl⟩, hP.1, FC.out.trans hP.2⟩

end Go.Proofs.YtcomhlimgocoaaaGreatDoor
namespace Go.Proofs.YtcomhlimgocoaaaGreatDoor
open Go.RowKit
set_option linter.unusedVariables false
set_option linter.unusedSimpArgs false
/-- the rows of a word -/
def Pw (W : List UInt8) (L : List Rw) : List Rw := L.filter (fun r => W == r.w)
theorem Pw_len (W : List UInt8) (L : List Rw) : (Pw W L).length ≤ L.length := List.length_filter_le _ _
theorem Pw_snoc (W : List UInt8) (L : List Rw) (r : Rw) : Pw W (L ++ [r]) = Pw W L ++ (if W == r.w then [r] else []) := by
  unfold Pw
  rw [List.filter_append]
  cases h : (W == r.w) <;> simp [h]
theorem add4w_any (w0 w : World) (pb : Nat) (L : List Rw) (o : Int) (W0 : List UInt8) (hW0 : 0 < W0.length) (hW1 : W0.length ≤ 140737488355328) (h : Pk w0 w pb (Pw W0 L) o W0) (hL : L.length ≤ 900) (A B : List UInt8) (hA : 0 < A.length) (hA2 : A.length ≤ 100) (hB2 : B.length ≤ 100) (sh op off imm : Int) (op0 : 0 ≤ op) (op1 : op ≤ 1000) (Z : List UInt8) (hZ : Z = A ++ B) :
    Calls Tryz.prog 118 #[.pointer (some ⟨pb, 0, none⟩), .string ⟨A.toArray⟩, .string ⟨B.toArray⟩, .int .i64 sh, .int .i64 op, .int .i64 off, .int .i64 imm] w fun e w' => (∃ q, e = .returned q) ∧ Pk w0 w' pb (Pw W0 (L ++ [⟨Z, sh, op, off, imm⟩])) o W0 ∧ FrK w w' := by
  have hl := Pw_len W0 L
  rw [Pw_snoc]
  show Calls _ _ _ _ fun e w' => (∃ q, e = .returned q) ∧ Pk w0 w' pb (Pw W0 L ++ (if W0 == Z then [⟨Z, sh, op, off, imm⟩] else [])) o W0 ∧ FrK w w'
  cases hw : (W0 == Z)
  · have := add4w_no w0 w pb (Pw W0 L) o W0 hW0 hW1 h (by omega) A B hA hA2 hB2 sh op off imm op0 op1 (by rw [← hZ]; exact hw)
    simpa using this
  · exact add4w_yes w0 w pb (Pw W0 L) o W0 hW0 hW1 h (by omega) A B hA hA2 hB2 sh op off imm op0 op1 Z hZ (by rw [← hZ]; exact hw)
set_option maxRecDepth 8000 in
set_option maxHeartbeats 1000000 in
theorem both4w_any (w0 w : World) (pb : Nat) (L : List Rw) (o : Int) (W0 : List UInt8) (hW0 : 0 < W0.length) (hW1 : W0.length ≤ 140737488355328) (h : Pk w0 w pb (Pw W0 L) o W0) (hL : L.length ≤ 800) (A : List UInt8) (hA : 0 < A.length) (hA2 : A.length ≤ 100) (sh code off : Int) (c0 : 0 ≤ code) (c1 : code ≤ 900) :
    Calls Tryz.prog 117 #[.pointer (some ⟨pb, 0, none⟩), .string ⟨A.toArray⟩, .int .i64 sh, .int .i64 code, .int .i64 off] w fun e w' => (∃ q, e = .returned q) ∧ Pk w0 w' pb (Pw W0 (L ++ bothL A sh code off)) o W0 ∧ FrK w w' := by
  by_cases h8 : sh = 8
  · subst h8
    have C1 := hidOf (add4w_any w0 w pb L o W0 hW0 hW1 h (by omega) A [] hA hA2 (by simp) 8 (5 + code) off 0 (by omega) (by omega) A (by simp))
    have C2 : Hid (∀ wx, Pk w0 wx pb (Pw W0 (L ++ [⟨A, 8, 5 + code, off, 0⟩])) o W0 → Calls Tryz.prog 118 #[.pointer (some ⟨pb, 0, none⟩), .string ⟨A.toArray⟩, .string ⟨#[51, 50]⟩, .int .i64 8, .int .i64 (6 + code), .int .i64 off, .int .i64 0] wx fun e w' => (∃ q, e = .returned q) ∧ Pk w0 w' pb (Pw W0 ((L ++ [⟨A, 8, 5 + code, off, 0⟩]) ++ [⟨A ++ [51, 50], 8, 6 + code, off, 0⟩])) o W0 ∧ FrK wx w') := hidOf (fun wx hx => add4w_any w0 wx pb _ o W0 hW0 hW1 hx (by simp; omega) A [51, 50] hA hA2 (by simp) 8 (6 + code) off 0 (by omega) (by omega) (A ++ [51, 50]) rfl)
    have hE : Hid (L ++ bothL A 8 code off = (L ++ [⟨A, 8, 5 + code, off, 0⟩]) ++ [⟨A ++ [51, 50], 8, 6 + code, off, 0⟩]) := hidOf (by simp [bothL])
    rw [hE.out]
    clear h
    go_enter Tryz.func117, Tryz.ntmps117
    go_upto_region 2 with (go_at_call 118; refine C1.out.mono ?_; rintro e w1 ⟨⟨q1, rfl⟩, hp, hf⟩; have P1 := hidOf hp; have F1 := hidOf hf; clear hp hf)
    go_wp2_with (go_at_call 118; refine (C2.out _ P1.out).mono ?_; rintro e w2 ⟨⟨q2, rfl⟩, hp, hf⟩; have P2 := hidOf hp; have F2 := hidOf hf; clear hp hf)
    refine bodyPost_ret (results_none rfl _ _ _) rfl ?_
    exact ⟨⟨_, rfl⟩, P2.out, F1.out.trans F2.out⟩
  · have h8b : (sh == 8) = false := by simpa using h8
    have C1 := hidOf (add4w_any w0 w pb L o W0 hW0 hW1 h (by omega) A [] hA hA2 (by simp) sh (7 + code) off 0 (by omega) (by omega) A (by simp))
    have C2 : Hid (∀ wx, Pk w0 wx pb (Pw W0 (L ++ [⟨A, sh, 7 + code, off, 0⟩])) o W0 → Calls Tryz.prog 118 #[.pointer (some ⟨pb, 0, none⟩), .string ⟨A.toArray⟩, .string ⟨#[51, 50]⟩, .int .i64 sh, .int .i64 (4 + code), .int .i64 off, .int .i64 0] wx fun e w' => (∃ q, e = .returned q) ∧ Pk w0 w' pb (Pw W0 ((L ++ [⟨A, sh, 7 + code, off, 0⟩]) ++ [⟨A ++ [51, 50], sh, 4 + code, off, 0⟩])) o W0 ∧ FrK wx w') := hidOf (fun wx hx => add4w_any w0 wx pb _ o W0 hW0 hW1 hx (by simp; omega) A [51, 50] hA hA2 (by simp) sh (4 + code) off 0 (by omega) (by omega) (A ++ [51, 50]) rfl)
    have hE : Hid (L ++ bothL A sh code off = (L ++ [⟨A, sh, 7 + code, off, 0⟩]) ++ [⟨A ++ [51, 50], sh, 4 + code, off, 0⟩]) := hidOf (by simp [bothL, h8])
    rw [hE.out]
    clear h h8
    go_enter Tryz.func117, Tryz.ntmps117
    go_upto_region 4 with (go_at_call 118; refine C1.out.mono ?_; rintro e w1 ⟨⟨q1, rfl⟩, hp, hf⟩; have P1 := hidOf hp; have F1 := hidOf hf; clear hp hf)
    go_wp2_with (go_at_call 118; refine (C2.out _ P1.out).mono ?_; rintro e w2 ⟨⟨q2, rfl⟩, hp, hf⟩; have P2 := hidOf hp; have F2 := hidOf hf; clear hp hf)
    go_end0
    exact ⟨⟨_, rfl⟩, P2.out, F1.out.trans F2.out⟩
end Go.Proofs.YtcomhlimgocoaaaGreatDoor
