import Derived.Test.YtkihaohdcgjioaaGreatDoorGp10
import Derived.Test.YtkihaohdcgjioaaGreatDoorGp08
import Derived.Lib.ItoaNum
namespace Go.Proofs.YtkihaohdcgjioaaGreatDoor.Lx
open Go.RowKit
set_option linter.unusedVariables false
set_option linter.unusedSimpArgs false
theorem pre2 (l : List UInt8) : Lib.hasPrefix l [48, 120] = decide (l.take 2 = [48, 120]) := by
  unfold Lib.hasPrefix
  match l with
  | [] => rfl
  | [a] => simp [List.isPrefixOf]
  | a :: b :: r =>
    by_cases ha : a = 48
    · by_cases hb : b = 120
      · simp [List.isPrefixOf, ha, hb]
      · have hb' : ¬ 120 = b := fun h => hb h.symm
        simp [List.isPrefixOf, ha, hb, hb']
    · have ha' : ¬ 48 = a := fun h => ha h.symm
      simp [List.isPrefixOf, ha, ha']
set_option maxRecDepth 20000 in
theorem int_empty (w : World) : Calls Tryz.prog 252 #[.string ⟨#[]⟩, .int .i64 16, .int .i64 64] w fun e w' => e = .returned (.tuple #[.int .u64 0, .iface 291 (.int .i64 2)]) ∧ w' = w := by
  go_enter Tryz.func252, Tryz.ntmps252
  go_wp2
  go_ret2
  exact ⟨rfl, rfl⟩
theorem pub_empty (N : Nat) (w : World) (hE : Env N w) : Calls Tryz.prog 226 #[.string ⟨#[]⟩, .int .i64 16, .int .i64 64] w fun e w' => PubEnd w none e w' := by
  have CP := hidOf (int_empty w)
  obtain ⟨ev, hv, hev⟩ := hE.es
  have CT : Hid (Calls Tryz.prog 253 #[.string ⟨#[80, 97, 114, 115, 101, 85, 105, 110, 116]⟩, .string ⟨#[]⟩, .int .i64 16, .int .i64 64, .iface 291 (.int .i64 2)] w fun e w' => ∃ N, e = .returned (.iface 293 (.pointer (some ⟨N, 0, none⟩))) ∧ Out w w') := (Tryz.strconv_toError_syntax _ ⟨#[]⟩ 16 64 ev w (by decide) hv hev).mono fun e w' ⟨M, h1, _, _, h4⟩ => ⟨M, h1, h4⟩
  clear hv hev
  go_enter Tryz.func226, Tryz.ntmps226
  go_wp2_with (first | (go_at_call 252; refine CP.out.mono ?_; rintro e wx ⟨rfl, hwx⟩; have hwx := hwx.symm; subst hwx) | (go_at_call 253; refine CT.out.mono ?_; rintro e w2 ⟨M, rfl, ho⟩; have HO := hidOf ho; clear ho))
  go_ret2
  exact ⟨HO.out, _, _, _, rfl⟩
set_option maxHeartbeats 2000000 in
theorem valC : ValC := by
  intro N t w hE hne hlen
  have hsz : (⟨t.toArray⟩ : ByteArray).size = t.length := mk_size t
  have CC : Hid (Calls Tryz.prog 171 #[.string ⟨t.toArray⟩, .string ⟨#[48, 120]⟩] w fun e w' => e = .returned (.tuple #[.string ⟨(Lib.trimPrefix t [48, 120]).toArray⟩, .bool (Lib.hasPrefix t [48, 120])]) ∧ w' = w) := Tryz.strings_CutPrefix ⟨t.toArray⟩ ⟨#[48, 120]⟩ w
  unfold Lib.trimPrefix at CC
  rw [pre2] at CC
  unfold valP
  by_cases hx : t.take 2 = [48, 120]
  · rw [if_pos hx]
    rw [decide_eq_true hx, if_pos rfl] at CC
    obtain ⟨d, hd⟩ : ∃ d, d = t.drop 2 := ⟨_, rfl⟩
    have hl2 : 2 ≤ t.length := by have := congrArg List.length hx; rw [List.length_take] at this; simp at this; omega
    have hdl : d.length = t.length - 2 := by rw [hd, List.length_drop]
    rw [show t.drop [(48 : UInt8), 120].length = d from hd.symm] at CC
    rw [← hd]
    clear hd hx
    by_cases h16 : 16 < d.length
    · have h16' : (16 : Int) < d.length := by omega
      rw [if_neg (fun h => by omega)]
      go_enter Tryz.func188, Tryz.ntmps188
      go_wp2_with (go_at_call 171; refine CC.out.mono ?_; rintro e w1 ⟨rfl, hw1⟩; have hw1 := hw1.symm; subst hw1)
      go_ret2
      exact ⟨rfl, Out.refl _⟩
    · have h16' : ¬ (16 : Int) < d.length := by omega
      have hdsz : (⟨d.toArray⟩ : ByteArray).size = d.length := mk_size d
      by_cases h0 : d.length = 0
      · obtain rfl : d = [] := List.length_eq_zero_iff.1 h0
        rw [if_neg (fun h => by simp at hdl; omega)]
        have CP : Hid (Calls Tryz.prog 226 #[.string ⟨#[]⟩, .int .i64 16, .int .i64 64] w fun e w' => PubEnd w none e w') := pub_empty N w hE
        go_enter Tryz.func188, Tryz.ntmps188
        go_wp2_with (first | (go_at_call 171; refine CC.out.mono ?_; rintro e w1 ⟨rfl, hw1⟩; have hw1 := hw1.symm; subst hw1) | (go_at_call 226; refine CP.out.mono ?_; rintro e w2 ⟨ho, x, a, b, rfl⟩; have HO := hidOf ho; clear ho))
        go_ret2
        exact ⟨rfl, HO.out⟩
      · have CP := hidOf (pub16 N ⟨d.toArray⟩ (by rw [hdsz]; exact h0) (by rw [hdsz]; omega) w hE)
        have hdd : (⟨d.toArray⟩ : ByteArray).data.toList = d := rfl
        rw [hdd] at CP
        by_cases ha : d.all hexU = true
        · rw [if_pos ⟨by omega, by omega, ha⟩]
          rw [if_pos ha] at CP
          go_enter Tryz.func188, Tryz.ntmps188
          go_wp2_with (first | (go_at_call 171; refine CC.out.mono ?_; rintro e w1 ⟨rfl, hw1⟩; have hw1 := hw1.symm; subst hw1) | (go_at_call 226; refine CP.out.mono ?_; rintro e w2 ⟨ho, rfl⟩; have HO := hidOf ho; clear ho))
          go_ret2
          exact ⟨rfl, HO.out⟩
        · rw [if_neg (fun h => ha h.2.2)]
          rw [if_neg ha] at CP
          go_enter Tryz.func188, Tryz.ntmps188
          go_wp2_with (first | (go_at_call 171; refine CC.out.mono ?_; rintro e w1 ⟨rfl, hw1⟩; have hw1 := hw1.symm; subst hw1) | (go_at_call 226; refine CP.out.mono ?_; rintro e w2 ⟨ho, x, a, b, rfl⟩; have HO := hidOf ho; clear ho))
          go_ret2
          exact ⟨rfl, HO.out⟩
  · rw [if_neg hx]
    rw [decide_eq_false hx, if_neg (by decide)] at CC
    obtain ⟨c, r, rfl⟩ : ∃ c r, t = c :: r := by cases t with | nil => exact absurd rfl hne | cons c r => exact ⟨c, r, rfl⟩
    have hlt : (0 : Int) < (⟨(c :: r).toArray⟩ : ByteArray).size := by rw [hsz]; simp
    have ix : ∀ h, (⟨(c :: r).toArray⟩ : ByteArray)[0]'h = c := fun h => rfl
    have hie : (⟨(c :: r).toArray⟩ : ByteArray).toList = c :: r := mk_list _
    by_cases hc : c = 48
    · subst hc
      by_cases hr : r = []
      · subst hr
        rw [if_neg (fun h => h.2 rfl)]
        have CP := hidOf (pub10 N [48] (by simp) (by simp) w hE)
        rw [if_pos ⟨by decide, by decide⟩] at CP ⊢
        have e0 : ((decV 0 [48] : Nat) : Int) = 0 := by decide
        rw [e0] at CP ⊢
        go_enter Tryz.func188, Tryz.ntmps188
        go_wp2_with (first | (go_at_call 171; refine CC.out.mono ?_; rintro e w1 ⟨rfl, hw1⟩; have hw1 := hw1.symm; subst hw1) | (go_at_call 226; refine CP.out.mono ?_; rintro e w2 ⟨ho, rfl⟩; have HO := hidOf ho; clear ho))
        go_ret2
        exact ⟨rfl, HO.out⟩
      · rw [if_pos ⟨rfl, fun h => hr (by simpa using h)⟩]
        have hq : r.isEmpty = false := by cases r with | nil => exact absurd rfl hr | cons x y => rfl
        go_enter Tryz.func188, Tryz.ntmps188
        go_wp2_with (go_at_call 171; refine CC.out.mono ?_; rintro e w1 ⟨rfl, hw1⟩; have hw1 := hw1.symm; subst hw1)
        go_ret2
        exact ⟨rfl, Out.refl _⟩
    · rw [if_neg (fun h => hc (by simpa using h.1))]
      have hcn : ((c.toNat : Int) == 48) = false := by
        simp only [beq_eq_false_iff_ne]
        intro h
        exact hc (UInt8.toNat_inj.1 (by show c.toNat = 48; omega))
      have CP := hidOf (pub10 N (c :: r) (by simp) (by omega) w hE)
      by_cases ha : (c :: r).all digU = true ∧ decV 0 (c :: r) ≤ 18446744073709551615
      · rw [if_pos ha] at CP ⊢
        go_enter Tryz.func188, Tryz.ntmps188
        go_wp2_with (first | (go_at_call 171; refine CC.out.mono ?_; rintro e w1 ⟨rfl, hw1⟩; have hw1 := hw1.symm; subst hw1) | (go_at_call 226; refine CP.out.mono ?_; rintro e w2 ⟨ho, rfl⟩; have HO := hidOf ho; clear ho))
        go_ret2
        exact ⟨rfl, HO.out⟩
      · rw [if_neg ha] at CP ⊢
        go_enter Tryz.func188, Tryz.ntmps188
        go_wp2_with (first | (go_at_call 171; refine CC.out.mono ?_; rintro e w1 ⟨rfl, hw1⟩; have hw1 := hw1.symm; subst hw1) | (go_at_call 226; refine CP.out.mono ?_; rintro e w2 ⟨ho, x, a, b, rfl⟩; have HO := hidOf ho; clear ho))
        go_ret2
        exact ⟨rfl, HO.out⟩
end Go.Proofs.YtkihaohdcgjioaaGreatDoor.Lx
namespace Go.Proofs.YtkihaohdcgjioaaGreatDoor
open Go.RowKit
set_option linter.unusedVariables false
set_option linter.unusedSimpArgs false
/-- a statement -/
structure Stm where
  k : Int
  nm : List UInt8
  ws : List (List UInt8)
  ns : List Int
  o : Int
  d : Int
  s : Int
  f : Int
  i : Int
  tg : List UInt8
  l : Int
/-- a reader's answer: what it read and the tokens that are left, or what is wrong and the tokens that were left then -/
inductive RE (α : Type) where
  | ok (a : α) (ts : List Lx.Tk)
  | no (c : Int) (ts : List Lx.Tk)
def RE.bind {α β : Type} (x : RE α) (f : α → List Lx.Tk → RE β) : RE β :=
  match x with
  | .ok a ts => f a ts
  | .no c ts => .no c ts
/-- take: the next token, of that kind -/
def tkQ (k : Int) : List Lx.Tk → RE Lx.Tk
  | [] => .no 60 []
  | t :: r => if t.k = k then .ok t r else .no 60 (t :: r)
def wdQ (ts : List Lx.Tk) : RE (List UInt8) := (tkQ 1 ts).bind fun t r => .ok t.t r
def arrB : List UInt8 := [97, 114, 114, 97, 121]
def hashB : List UInt8 := [104, 97, 115, 104]
def tknQ (x : List UInt8) : Bool := x == arrB || x == hashB
def tdQ (ts : List Lx.Tk) : RE (List UInt8) := (wdQ ts).bind fun x r => if tknQ x then .ok x r else .no 60 r
def nuQ (ts : List Lx.Tk) : RE Int := (tkQ 3 ts).bind fun t r => if t.n ≤ 2147483647 then .ok t.n r else .no 60 r
/-- a label, or a directive that is a name alone -/
def nmS (k : Int) (x : List UInt8) : Stm := ⟨k, x, [], [], 0, 0, 0, 0, 0, [], 0⟩
def nmQ (k : Int) (ts : List Lx.Tk) : RE Stm := (wdQ ts).bind fun x r => .ok (nmS k x) r
/-- so many numbers more -/
def nuR : Nat → List Int → List Lx.Tk → RE (List Int)
  | 0, l, ts => .ok l ts
  | n + 1, l, ts => (nuQ ts).bind fun a r => nuR n (l ++ [a]) r
def tbS (x y : List UInt8) (l : List Int) : Stm := ⟨5, x, [y], l, 0, 0, 0, 0, 0, [], 0⟩
def tbQ (ts : List Lx.Tk) : RE Stm := (wdQ ts).bind fun x r => (tdQ r).bind fun y r => (nuR 3 [] r).bind fun l r => .ok (tbS x y l) r
/-- a token's text -/
def ttQ (t : Lx.Tk) : List UInt8 := if t.k = 3 then Lib.decDigits t.n.toNat else t.t
/-- the tokens up to the line's end, with blanks between them -/
def ixQ : List UInt8 → List Lx.Tk → List UInt8 × List Lx.Tk
  | acc, [] => (acc, [])
  | acc, t :: r => if t.k = 5 then (acc, t :: r) else ixQ ((if acc.isEmpty then acc else acc ++ [32]) ++ ttQ t) r
def funcB : List UInt8 := [46, 102, 117, 110, 99]
def globB : List UInt8 := [46, 103, 108, 111, 98, 97, 108]
def extB : List UInt8 := [46, 101, 120, 116, 101, 114, 110]
def mapB : List UInt8 := [46, 109, 97, 112]
/-- what reads the rest of a directive -/
def restQ (x : List UInt8) (ts : List Lx.Tk) : RE Stm :=
  if x = funcB then nmQ 2 ts else if x = globB then nmQ 3 ts else if x = extB then nmQ 4 ts else if x = mapB then tbQ ts else .no 60 ts
def kindQ (ts : List Lx.Tk) : Int := match ts with | [] => 0 | t :: _ => t.k
def lineQ (ts : List Lx.Tk) : Int := match ts with | [] => 0 | t :: _ => t.l
def dirQ (ts : List Lx.Tk) : RE Stm := (tkQ 2 ts).bind fun t r => (restQ t.t r).bind fun s r => if kindQ r = 5 then .ok s r else .no 61 r
def colQ (t : Lx.Tk) : Bool := t.k == 4 && t.t == [58]
/-- the labels ahead -/
def lbQ : List Stm → List Lx.Tk → List Stm × List Lx.Tk
  | out, t :: u :: r => if t.k = 1 ∧ colQ u = true then lbQ (out ++ [{ nmS 1 t.t with l := u.l }]) r else (out, t :: u :: r)
  | out, ts => (out, ts)
/-- within a line: a line's end comes ahead of the end -/
def Lw : List Lx.Tk → Prop
  | [] => False
  | t :: r => if t.k = 5 then (match r with | [] => False | u :: r' => if u.k = 0 then r' = [] else Lw r) else ¬ t.k = 0 ∧ Lw r
/-- at a line's beginning -/
def Tw (ts : List Lx.Tk) : Prop := match ts with | [] => False | u :: r => if u.k = 0 then r = [] else Lw (u :: r)
theorem Lw.next {t : Lx.Tk} {r : List Lx.Tk} (h : Lw (t :: r)) (hk : ¬ t.k = 5) : Lw r := by
  unfold Lw at h
  rw [if_neg hk] at h
  exact h.2
theorem Lw.pass {t : Lx.Tk} {r : List Lx.Tk} (h : Lw (t :: r)) (hk : t.k = 5) : Tw r := by
  unfold Lw at h
  rw [if_pos hk] at h
  unfold Tw
  cases r with
  | nil => exact h
  | cons u r' => exact h
theorem Lw.ne {ts : List Lx.Tk} (h : Lw ts) : ∃ t r, ts = t :: r := by
  cases ts with
  | nil => exact h.elim
  | cons t r => exact ⟨t, r, rfl⟩
theorem Tw.ne {ts : List Lx.Tk} (h : Tw ts) : ∃ t r, ts = t :: r := by
  cases ts with
  | nil => exact h.elim
  | cons t r => exact ⟨t, r, rfl⟩
theorem Tw.lw {ts : List Lx.Tk} (h : Tw ts) (hk : ¬ kindQ ts = 0) : Lw ts := by
  cases ts with
  | nil => exact h.elim
  | cons t r =>
    have h' : if t.k = 0 then r = [] else Lw (t :: r) := h
    rw [if_neg (show ¬ t.k = 0 from hk)] at h'
    exact h'
/-- whatever it answers, the line's end is still ahead -/
def RE.lw {α : Type} : RE α → Prop
  | .ok _ ts => Lw ts
  | .no _ ts => Lw ts
theorem RE.lw_bind {α β : Type} {x : RE α} {f : α → List Lx.Tk → RE β} (h : x.lw) (hf : ∀ a r, Lw r → (f a r).lw) : (x.bind f).lw := by
  cases x with
  | ok a r => exact hf a r h
  | no c r => exact h
theorem tkQ_lw {k : Int} {ts : List Lx.Tk} (h : Lw ts) (hk : ¬ k = 5) : (tkQ k ts).lw := by
  obtain ⟨t, r, rfl⟩ := h.ne
  show (if t.k = k then RE.ok t r else RE.no 60 (t :: r)).lw
  by_cases e : t.k = k
  · rw [if_pos e]; exact h.next (by rw [e]; exact hk)
  · rw [if_neg e]; exact h
theorem wdQ_lw {ts : List Lx.Tk} (h : Lw ts) : (wdQ ts).lw := RE.lw_bind (tkQ_lw h (by decide)) (fun _ _ h => h)
theorem tdQ_lw {ts : List Lx.Tk} (h : Lw ts) : (tdQ ts).lw := RE.lw_bind (wdQ_lw h) (fun x r h => by
  cases hx : tknQ x
  · rw [if_neg (by simp)]; exact h
  · rw [if_pos rfl]; exact h)
theorem nuQ_lw {ts : List Lx.Tk} (h : Lw ts) : (nuQ ts).lw := RE.lw_bind (tkQ_lw h (by decide)) (fun t r h => by
  by_cases hx : t.n ≤ 2147483647
  · rw [if_pos hx]; exact h
  · rw [if_neg hx]; exact h)
theorem nmQ_lw {k : Int} {ts : List Lx.Tk} (h : Lw ts) : (nmQ k ts).lw := RE.lw_bind (wdQ_lw h) (fun _ _ h => h)
theorem nuR_lw : ∀ (n : Nat) (l : List Int) (ts : List Lx.Tk), Lw ts → (nuR n l ts).lw
  | 0, l, ts, h => h
  | n + 1, l, ts, h => RE.lw_bind (nuQ_lw h) (fun a r h => nuR_lw n _ r h)
theorem tbQ_lw {ts : List Lx.Tk} (h : Lw ts) : (tbQ ts).lw := RE.lw_bind (wdQ_lw h) (fun _ _ h => RE.lw_bind (tdQ_lw h) (fun _ _ h => RE.lw_bind (nuR_lw 3 [] _ h) (fun _ _ h => h)))
theorem ixQ_lw : ∀ (acc : List UInt8) (ts : List Lx.Tk), Lw ts → Lw (ixQ acc ts).2 ∧ kindQ (ixQ acc ts).2 = 5
  | acc, [], h => h.elim
  | acc, t :: r, h => by
    unfold ixQ
    by_cases e : t.k = 5
    · rw [if_pos e]; exact ⟨h, e⟩
    · rw [if_neg e]; exact ixQ_lw _ r (h.next e)
theorem restQ_lw {x : List UInt8} {ts : List Lx.Tk} (h : Lw ts) : (restQ x ts).lw := by
  unfold restQ
  by_cases h1 : x = funcB
  · rw [if_pos h1]; exact nmQ_lw h
  rw [if_neg h1]
  by_cases h2 : x = globB
  · rw [if_pos h2]; exact nmQ_lw h
  rw [if_neg h2]
  by_cases h3 : x = extB
  · rw [if_pos h3]; exact nmQ_lw h
  rw [if_neg h3]
  by_cases h4 : x = mapB
  · rw [if_pos h4]; exact tbQ_lw h
  rw [if_neg h4]
  exact h
theorem dirQ_lw {ts : List Lx.Tk} (h : Lw ts) : (dirQ ts).lw := RE.lw_bind (tkQ_lw h (by decide)) (fun t r h => RE.lw_bind (restQ_lw h) (fun s r h => by
  by_cases e : kindQ r = 5
  · rw [if_pos e]; exact h
  · rw [if_neg e]; exact h))
theorem col_kind {u : Lx.Tk} (h : colQ u = true) : u.k = 4 := by
  unfold colQ at h
  simp at h
  exact h.1
theorem lbQ_lw : ∀ (n : Nat) (out : List Stm) (ts : List Lx.Tk), ts.length ≤ n → Lw ts → Lw (lbQ out ts).2
  | _, out, [], _, h => h.elim
  | _, out, [t], _, h => by unfold lbQ; exact h
  | 0, out, t :: u :: r, hn, h => by simp at hn
  | n + 1, out, t :: u :: r, hn, h => by
    unfold lbQ
    by_cases e : t.k = 1 ∧ colQ u = true
    · rw [if_pos e]
      have h1 := h.next (by rw [e.1]; decide)
      have h2 := h1.next (by rw [col_kind e.2]; decide)
      exact lbQ_lw n _ r (by simp at hn; omega) h2
    · rw [if_neg e]; exact h
/-- what is left -/
def RE.rest {α : Type} : RE α → List Lx.Tk
  | .ok _ ts => ts
  | .no _ ts => ts
def Clo (P : List Lx.Tk → Prop) : Prop := ∀ t r, P (t :: r) → P r
theorem rest_bind {α β : Type} {P : List Lx.Tk → Prop} {x : RE α} {f : α → List Lx.Tk → RE β} (h : P x.rest) (hf : ∀ a r, P r → P (f a r).rest) : P (x.bind f).rest := by
  cases x with
  | ok a r => exact hf a r h
  | no c r => exact h
theorem tkQ_cl {P : List Lx.Tk → Prop} (hP : Clo P) {k : Int} {ts : List Lx.Tk} (h : P ts) : P (tkQ k ts).rest := by
  cases ts with
  | nil => exact h
  | cons t r =>
    show P (if t.k = k then RE.ok t r else RE.no 60 (t :: r)).rest
    by_cases e : t.k = k
    · rw [if_pos e]; exact hP t r h
    · rw [if_neg e]; exact h
theorem wdQ_cl {P : List Lx.Tk → Prop} (hP : Clo P) {ts : List Lx.Tk} (h : P ts) : P (wdQ ts).rest := rest_bind (tkQ_cl hP h) (fun _ _ h => h)
theorem tdQ_cl {P : List Lx.Tk → Prop} (hP : Clo P) {ts : List Lx.Tk} (h : P ts) : P (tdQ ts).rest := rest_bind (wdQ_cl hP h) (fun x r h => by
  cases hx : tknQ x
  · rw [if_neg (by simp)]; exact h
  · rw [if_pos rfl]; exact h)
theorem nuQ_cl {P : List Lx.Tk → Prop} (hP : Clo P) {ts : List Lx.Tk} (h : P ts) : P (nuQ ts).rest := rest_bind (tkQ_cl hP h) (fun t r h => by
  by_cases hx : t.n ≤ 2147483647
  · rw [if_pos hx]; exact h
  · rw [if_neg hx]; exact h)
theorem nuR_cl {P : List Lx.Tk → Prop} (hP : Clo P) : ∀ (n : Nat) (l : List Int) (ts : List Lx.Tk), P ts → P (nuR n l ts).rest
  | 0, l, ts, h => h
  | n + 1, l, ts, h => rest_bind (nuQ_cl hP h) (fun a r h => nuR_cl hP n _ r h)
theorem tbQ_cl {P : List Lx.Tk → Prop} (hP : Clo P) {ts : List Lx.Tk} (h : P ts) : P (tbQ ts).rest := rest_bind (wdQ_cl hP h) (fun _ _ h => rest_bind (tdQ_cl hP h) (fun _ _ h => rest_bind (nuR_cl hP 3 [] _ h) (fun _ _ h => h)))
theorem ixQ_cl {P : List Lx.Tk → Prop} (hP : Clo P) : ∀ (acc : List UInt8) (ts : List Lx.Tk), P ts → P (ixQ acc ts).2
  | acc, [], h => h
  | acc, t :: r, h => by
    unfold ixQ
    by_cases e : t.k = 5
    · rw [if_pos e]; exact h
    · rw [if_neg e]; exact ixQ_cl hP _ r (hP t r h)
theorem restQ_cl {P : List Lx.Tk → Prop} (hP : Clo P) {x : List UInt8} {ts : List Lx.Tk} (h : P ts) : P (restQ x ts).rest := by
  unfold restQ
  by_cases h1 : x = funcB
  · rw [if_pos h1]; exact rest_bind (wdQ_cl hP h) (fun _ _ h => h)
  rw [if_neg h1]
  by_cases h2 : x = globB
  · rw [if_pos h2]; exact rest_bind (wdQ_cl hP h) (fun _ _ h => h)
  rw [if_neg h2]
  by_cases h3 : x = extB
  · rw [if_pos h3]; exact rest_bind (wdQ_cl hP h) (fun _ _ h => h)
  rw [if_neg h3]
  by_cases h4 : x = mapB
  · rw [if_pos h4]; exact tbQ_cl hP h
  rw [if_neg h4]
  exact h
theorem dirQ_cl {P : List Lx.Tk → Prop} (hP : Clo P) {ts : List Lx.Tk} (h : P ts) : P (dirQ ts).rest := rest_bind (tkQ_cl hP h) (fun t r h => rest_bind (restQ_cl hP h) (fun s r h => by
  by_cases e : kindQ r = 5
  · rw [if_pos e]; exact h
  · rw [if_neg e]; exact h))
theorem lbQ_cl {P : List Lx.Tk → Prop} (hP : Clo P) : ∀ (n : Nat) (out : List Stm) (ts : List Lx.Tk), ts.length ≤ n → P ts → P (lbQ out ts).2
  | _, out, [], _, h => h
  | _, out, [t], _, h => by unfold lbQ; exact h
  | 0, out, t :: u :: r, hn, h => by simp at hn
  | n + 1, out, t :: u :: r, hn, h => by
    unfold lbQ
    by_cases e : t.k = 1 ∧ colQ u = true
    · rw [if_pos e]
      exact lbQ_cl hP n _ r (by simp at hn; omega) (hP _ _ (hP _ _ h))
    · rw [if_neg e]; exact h
/-- the tokens' numbers and texts are such as a text has -/
def TkOk (ts : List Lx.Tk) : Prop := ∀ x ∈ ts, 0 ≤ x.n ∧ x.n < 18446744073709551616 ∧ x.t.length ≤ 70
theorem tkOk_clo : Clo TkOk := fun t r h x hx => h x (List.mem_cons_of_mem _ hx)
end Go.Proofs.YtkihaohdcgjioaaGreatDoor
