import Derived.Test.YtkihaohdcgjioaaGreatDoorGr23
import Derived.Test.YtkihaohdcgjioaaGreatDoorGr20
import Derived.Test.YtkihaohdcgjioaaGreatDoorGr22
import Derived.Lib.SmallJoins
import Derived.ProofKit
import Derived.OpenShut
import Derived.Lib.LaidTab
import Derived.Test.YtkihaohdcgjioaaGreatDoorTie
namespace Go.Proofs.YtkihaohdcgjioaaGreatDoor.Lx
open Go.RowKit
set_option linter.unusedVariables false
set_option linter.unusedSimpArgs false
def LEnv (w : World) : Prop := Env w.heap.size w ∧ Pow w
theorem LEnv.out {w w' : World} (h : LEnv w) (o : Out w w') : LEnv w' := ⟨(h.1.below o).le o.size, h.2.out o⟩
theorem tkV_get (T : List Tk) : ∀ (k : Nat) (x : Tk) (i : Nat), T[k]? = some x → i < 4 → (tkV T)[k * 4 + i]? = x.cs[i]? := by
  induction T with
  | nil => intro k x i h; simp at h
  | cons y r ih =>
    intro k x i h hi
    have hy : y.cs.length = 4 := rfl
    cases k with
    | zero =>
      have : y = x := by simpa using h
      subst this
      show (y.cs ++ tkV r)[0 * 4 + i]? = _
      rw [List.getElem?_append_left (by omega)]
      simp
    | succ k =>
      show (y.cs ++ tkV r)[(k + 1) * 4 + i]? = _
      rw [List.getElem?_append_right (by omega), show (k + 1) * 4 + i - y.cs.length = k * 4 + i by omega]
      exact ih k x i (by simpa using h) hi
end Go.Proofs.YtkihaohdcgjioaaGreatDoor.Lx
namespace Go.Proofs.YtkihaohdcgjioaaGreatDoor
open Go.RowKit
set_option linter.unusedVariables false
set_option linter.unusedSimpArgs false
def atlB : List Lx.Tk → Bool
  | t :: u :: _ => t.k == 1 && colQ u
  | _ => false
set_option maxRecDepth 20000 in
theorem atLabel_any (B : Nat) (w : World) (p g mb : Nat) (sv : Value) (ts : List Lx.Tk) (h : PS B w p g mb sv ts) (hl : Lw ts) : Calls Tryz.prog 94 #[.pointer (some ⟨p, 0, none⟩)] w fun e w' => e = .returned (.bool (atlB ts)) ∧ Out w w' := by
  obtain ⟨t, u, r, rfl⟩ := hl.two
  obtain ⟨off, cap, hR, hT, hc⟩ := h.st
  obtain ⟨q0, -, -, -⟩ := hT 0 t rfl
  obtain ⟨u0, u1, u2, u3⟩ := hT 1 u rfl
  simp only [Nat.zero_mul, Nat.add_zero, Nat.one_mul] at q0 u0 u1 u2 u3
  obtain ⟨n, hn⟩ : ∃ n, n = (t :: u :: r).length := ⟨_, rfl⟩
  have hnI : (2 : Int) ≤ n := by rw [hn]; simp; omega
  rw [← hn] at hR hc
  have c0 : w.cell? ⟨p, 0, none⟩ = some (.slice (some ⟨g, off, none⟩) n cap) := by rw [cell_atL hR]; rfl
  have CC := hidOf (isColon_any u)
  show Calls _ _ _ _ fun e w' => e = .returned (.bool (t.k == 1 && colQ u)) ∧ Out w w'
  generalize colQ u = b at *
  unfold tkE at CC
  clear h hl hT hR hn
  cases hk : (t.k == 1)
  all_goals cases b
  all_goals go_enter Tryz.func94, Tryz.ntmps94
  all_goals go_wp2_with (go_at_call 93; refine (CC.out _).mono ?_; rintro e w1 ⟨rfl, ho⟩; have O1 := hidOf ho; clear ho)
  all_goals go_ret
  all_goals first | exact ⟨rfl, O1.out⟩ | exact ⟨rfl, Out.refl _⟩
set_option maxRecDepth 20000 in
set_option maxHeartbeats 1000000 in
theorem byte6_any (B b : Nat) (bs : List Value) (c : Int) (w : World) (h : Lib.IsBuilder 77 5 B b bs w) (hlen : bs.length ≤ 1000000000000) (hBw : B ≤ w.heap.size) :
    Calls Tryz.prog 59 #[.pointer (some ⟨b, 0, none⟩), .int .u8 c] w fun e w' => (∃ v, e = .returned v) ∧ Lib.IsBuilder 77 5 B b (bs ++ [.int .u8 c]) w' ∧ Below B w w' := by
  obtain ⟨i0, hi, hz0, hz1, hz2⟩ := info_parts (show (Tryz.prog.info? 5).map (fun i => (i.zero, i.size, i.bytes)) = some (some (.int .u8 0), 1, 1) from Tryz.Builder_Extra_169.infoByte)
  have CK := hidOf (chk_any B b bs w h)
  clear h
  go_enter Tryz.func59, Tryz.ntmps59
  go_upto_region 2 with (go_at_call 89; refine CK.out.mono ?_; rintro e w1 ⟨rfl, hbd, hb1⟩; have HBD := hidOf hbd; have HB1 := hidOf hb1; clear hbd hb1)
  obtain ⟨hB, v, hbk, hown, hne⟩ := HBD.out
  have hsz := HB1.out.size
  have hlt : b < w1.heap.size := (Array.getElem?_eq_some_iff.1 hbk).1
  obtain ⟨av, cv, rfl⟩ := own_form hown
  have c1 : w1.cell? ⟨b, 1, none⟩ = some (.slice av bs.length cv) := by rw [Lib.cell_of_heap hbk]; rfl
  have RX : Hid (∀ O, (w1.alloc O).ownsRow B 5 1 (.slice av bs.length cv) bs.length bs) := hidOf (fun O => owns_chg (S := fun _ => False) hown (fun _ _ h => h) (Chg.of_out ((Out.refl w1).alloc O)))
  have HP : Hid (∀ O w8, (w1.alloc O).grownBy w8 (Value.slice av bs.length cv).ownBlock → w8.heap[b]? = some (.cells #[.pointer (some ⟨b, 0, none⟩), .slice av bs.length cv] 77 (0, 0))) := hidOf (fun O w8 hg => by
    have hA : (w1.alloc O).heap[b]? = _ := (((Out.refl w1).alloc O).block b hlt).trans hbk
    exact (hg.block b (Array.getElem?_eq_some_iff.1 hA).1 (fun e => hne e.symm)).trans hA)
  have Hown := hidOf hown
  clear hbk hown hne HBD CK
  go_upto_region 3 with (at_builtin; refine wpList_append_lies _ rfl (.tmp 11) (.tmp 13) 24 rfl B 5 i0 _ 1 1 Tryz.underlying24 hi hz0 hz1 hz2 rfl (by decide) (.slice av bs.length cv) bs.length bs rfl (RX.out _) ⟨w1.heap.size, 0, none⟩ 1 1 [.int .u8 c] rfl rfl (news_new w1 _ _ _ rfl) (by intro u hu; simp at hu; subst hu; rfl) (by decide) (by unfold maxLen; omega) (by omega) (by rw [size_alloc]; omega) _ rfl ?_; intro g8 cap8 w8 hown8 hgrow8 hg8 hlt8; have b8 := HP.out _ w8 hgrow8; have q8 : w8.cell? ⟨b, 1, none⟩ = some (.slice av bs.length cv) := (by rw [Lib.cell_of_heap b8]; rfl); have f8 : w8.frozen? ⟨b, 1, none⟩ = false := Lib.frozen_of_heap b8 1; have W8 := hidOf hown8; have G8 := hidOf hgrow8; have B8 := hidOf b8; clear hown8 hgrow8 hg8 hlt8 b8)
  go_wp2
  go_ret
  refine ⟨⟨_, rfl⟩, .inr (Lib.BuilderAt.put (T := 77) (e := 5) hB B8.out (bs' := bs ++ [.int .u8 c]) (by rw [List.length_append]; exact W8.out) (by decide)), ?_⟩
  exact (((HB1.out.alloc (by omega) _).grown G8.out (by rw [size_alloc]; omega) (fun k hk => (World.ownsRow.lt Hown.out k hk).1)).setCell (p := ⟨b, 1, none⟩) hB _)
def inQ (ts : List Lx.Tk) : RE Stm :=
  if (parseP (ixQ [] ts).1).e = 0 then .ok ⟨6, [], [], [], (parseP (ixQ [] ts).1).o, (parseP (ixQ [] ts).1).d, (parseP (ixQ [] ts).1).s, (parseP (ixQ [] ts).1).f, (parseP (ixQ [] ts).1).i, (parseP (ixQ [] ts).1).tgt, 0⟩ (ixQ [] ts).2
  else .no (if (parseP (ixQ [] ts).1).e = 40 then 60 else (parseP (ixQ [] ts).1).e) (ixQ [] ts).2
def stQ (out : List Stm) (ts : List Lx.Tk) : RE (List Stm) :=
  if kindQ ts = 5 then .ok out ts
  else (if kindQ ts = 1 then inQ ts else dirQ ts).bind fun s r => .ok (out ++ [{ s with l := lineQ r }]) r
def lnQ (out : List Stm) (ts : List Lx.Tk) : RE (List Stm) := (stQ (lbQ out ts).1 (lbQ out ts).2).bind fun o r => (tkQ 5 r).bind fun _ r => .ok o r
def rdF : Nat → List Stm → List Lx.Tk → RE (List Stm)
  | 0, out, ts => .ok out ts
  | n + 1, out, ts => if kindQ ts = 0 then .ok out ts else (lnQ out ts).bind fun o r => rdF n o r
def readQ (ts : List Lx.Tk) : List Stm × Int × Int :=
  match rdF ts.length [] ts with
  | .ok out _ => (out, 0, 0)
  | .no c r => ([], lineQ r, c)
theorem inQ_lw {ts : List Lx.Tk} (h : Lw ts) : (inQ ts).lw := by
  unfold inQ
  by_cases e : (parseP (ixQ [] ts).1).e = 0
  · rw [if_pos e]; exact (ixQ_lw [] ts h).1
  · rw [if_neg e]; exact (ixQ_lw [] ts h).1
theorem stQ_lw {out : List Stm} {ts : List Lx.Tk} (h : Lw ts) : (stQ out ts).lw := by
  unfold stQ
  by_cases e : kindQ ts = 5
  · rw [if_pos e]; exact h
  rw [if_neg e]
  refine RE.lw_bind ?_ (fun _ _ h => h)
  by_cases e1 : kindQ ts = 1
  · rw [if_pos e1]; exact inQ_lw h
  · rw [if_neg e1]; exact dirQ_lw h
end Go.Proofs.YtkihaohdcgjioaaGreatDoor
namespace Go.Proofs.YtkihaohdcgjioaaGreatDoor.Lx
open Go.RowKit
set_option linter.unusedVariables false
set_option linter.unusedSimpArgs false
def Tk.rw (x : Tk) : Int × List UInt8 × Int := (x.k, x.t, x.n)
def Stop (e : List UInt8) : Prop := e = [] ∨ ∃ c r, e = c :: r ∧ runU c = false
theorem run_stop {t e : List UInt8} (ht : t.all runU = true) (he : Stop e) : runN (t ++ e) = t.length := by
  unfold runN
  have h1 : (t ++ e).takeWhile runU = t := by
    induction t with
    | nil =>
      rcases he with rfl | ⟨c, r, rfl, hc⟩
      · rfl
      · simp [List.takeWhile, hc]
    | cons c t ih =>
      rw [List.all_cons, Bool.and_eq_true] at ht
      rw [List.cons_append, List.takeWhile_cons, ht.1]
      simp [ih ht.2]
  rw [h1]
theorem take_len {α : Type} (t e : List α) : (t ++ e).take t.length = t := by simp
theorem word_start {t : List UInt8} (h : wordP t = true) : ∃ c r, t = c :: r ∧ kindP (bI c) = 3 ∧ t.all runU = true ∧ t.length ≤ 64 := by
  simp only [wordP, Bool.and_eq_true, decide_eq_true_eq] at h
  cases t with
  | nil => simp [startP] at h
  | cons c r => exact ⟨c, r, rfl, by simpa [startP] using h.1.2, h.2, h.1.1⟩
theorem piece_cons (c : UInt8) (r : List UInt8) : pieceP (c :: r) = (if kindP (bI c) = 1 then (0, none, 1)
    else if kindP (bI c) = 2 then (0, none, r.length + 1)
    else if kindP (bI c) = 3 then (if runN (c :: r) ≤ 64 then 0 else 53, some (1, (c :: r).take (runN (c :: r)), 0), runN (c :: r))
    else if kindP (bI c) = 5 then (if startP r = true then (if runN (c :: r) ≤ 65 then 0 else 53) else 52, some (2, (c :: r).take (runN (c :: r)), 0), runN (c :: r))
    else if kindP (bI c) = 4 then (if (valP ((c :: r).take (runN (c :: r)))).2 = true then 0 else 54, some (3, [], (valP ((c :: r).take (runN (c :: r)))).1), runN (c :: r))
    else if kindP (bI c) = 7 then (0, some (4, [c], 0), 1)
    else (52, none, 0)) := rfl
theorem piece_word {t e : List UInt8} (h : wordP t = true) (he : Stop e) : pieceP (t ++ e) = (0, some (1, t, 0), t.length) := by
  obtain ⟨c, r, rfl, hk, ha, hl⟩ := word_start h
  have hr := run_stop ha he
  have ht := take_len (c :: r) e
  rw [List.cons_append] at hr ht ⊢
  rw [piece_cons, hk, hr, ht]
  simp at hl
  simp [hl]
theorem piece_dot {t e : List UInt8} (h : dotP t = true) (he : Stop e) : pieceP (t ++ e) = (0, some (2, t, 0), t.length) := by
  simp only [dotP, Bool.and_eq_true] at h
  obtain ⟨hp, hw⟩ := h
  obtain ⟨r, rfl⟩ : ∃ r, t = 46 :: r := by
    unfold Lib.hasPrefix at hp
    cases t with
    | nil => simp [List.isPrefixOf] at hp
    | cons c r =>
      simp [List.isPrefixOf] at hp
      exact ⟨r, by rw [hp]⟩
  have hr : Lib.trimPrefix (46 :: r) [46] = r := by unfold Lib.trimPrefix; rw [if_pos hp]; rfl
  rw [hr] at hw
  obtain ⟨c, r', rfl, hk, ha, hl⟩ := word_start hw
  have hrun := run_stop (t := 46 :: c :: r') (e := e) (by rw [List.all_cons, ha]; decide) he
  have ht := take_len (46 :: c :: r') e
  rw [List.cons_append] at hrun ht ⊢
  rw [piece_cons]
  have k46 : kindP (bI 46) = 5 := by decide
  have hs : startP (c :: r' ++ e) = true := by simp [startP, hk]
  rw [k46, hrun, ht, hs]
  simp at hl
  simp
  omega
theorem piece_mark {t e : List UInt8} (h : markB t = true) : pieceP (t ++ e) = (0, some (4, t, 0), t.length) := by
  unfold markB at h
  split at h
  · rename_i c
    have hk : kindP (bI c) = 7 := by simpa using h
    show pieceP (c :: e) = _
    rw [piece_cons, hk]
    simp
  · cases h
theorem digU_lt (n : Nat) (h : n < 10) : digU (UInt8.ofNat (48 + n)) = true ∧ (UInt8.ofNat (48 + n)).toNat = 48 + n := by
  have h1 : (UInt8.ofNat (48 + n)).toNat = 48 + n := by rw [UInt8.toNat_ofNat']; omega
  exact ⟨(digU_iff _).2 (by omega), h1⟩
theorem decV_app (l m : List UInt8) : ∀ a, decV a (l ++ m) = decV (decV a l) m := by
  induction l with
  | nil => intro a; rfl
  | cons b l ih => intro a; exact ih _
theorem dd_all (u : Nat) : (Lib.decDigits u).all digU = true ∧ decV 0 (Lib.decDigits u) = u ∧ (∃ c l, Lib.decDigits u = c :: l ∧ (¬ u = 0 → ¬ c = 48)) := by
  induction u using Nat.strongRecOn with
  | _ u ih =>
    by_cases h : u < 10
    · have hd := digU_lt u h
      rw [dd_small h]
      refine ⟨by rw [List.all_cons, hd.1]; rfl, ?_, _, _, rfl, fun h0 e => ?_⟩
      · show 0 * 10 + ((UInt8.ofNat (48 + u)).toNat - 48) = u
        omega
      · have e2 := congrArg UInt8.toNat e
        rw [hd.2] at e2
        have : (48 : UInt8).toNat = 48 := rfl
        omega
    · obtain ⟨i1, i2, c, l, i3, i4⟩ := ih (u / 10) (by omega)
      have hd := digU_lt (u % 10) (by omega)
      rw [dd_big h]
      refine ⟨by rw [List.all_append, i1, List.all_cons, hd.1]; rfl, ?_, c, l ++ [UInt8.ofNat (48 + u % 10)], by rw [i3]; rfl, fun _ => i4 (by omega)⟩
      rw [decV_app, i2]
      show u / 10 * 10 + ((UInt8.ofNat (48 + u % 10)).toNat - 48) = u
      omega
theorem dig_run {b : UInt8} (h : digU b = true) : runU b = true := by
  have h' : digP (bI b) = true := h
  simp [runU, runP, h']
theorem dig_kind : ∀ n : Fin 256, digP (n.val : Int) = true → kindP (n.val : Int) = 4 := by decide +kernel
theorem val_dd (u : Nat) (h : u ≤ 18446744073709551615) : valP (Lib.decDigits u) = ((u : Int), true) := by
  obtain ⟨h1, h2, c, l, h3, h4⟩ := dd_all u
  by_cases h0 : u = 0
  · subst h0
    rw [dd_small (by decide)]
    decide
  · have hc : ¬ c = 48 := h4 h0
    unfold valP
    rw [if_neg (by rw [h3]; intro e; simp at e; exact hc e.1), if_neg (by rw [h3]; intro e; simp at e; exact hc e.1), if_pos ⟨h1, by rw [h2]; exact h⟩, h2]
theorem piece_num {u : Nat} {e : List UInt8} (h : u ≤ 18446744073709551615) (he : Stop e) : pieceP (Lib.decDigits u ++ e) = (0, some (3, [], (u : Int)), (Lib.decDigits u).length) := by
  obtain ⟨h1, h2, c, l, h3, h4⟩ := dd_all u
  have hv := val_dd u h
  have ha : (Lib.decDigits u).all runU = true := by
    rw [List.all_eq_true] at h1 ⊢
    exact fun x hx => dig_run (h1 x hx)
  have hr := run_stop ha he
  have ht := take_len (Lib.decDigits u) e
  rw [h3] at h1 hv hr ht ⊢
  rw [List.all_cons, Bool.and_eq_true] at h1
  have hk : kindP (bI c) = 4 := dig_kind ⟨c.toNat, c.toNat_lt⟩ h1.1
  rw [List.cons_append] at hr ht ⊢
  rw [piece_cons, hk, hr, ht, hv]
  simp
end Go.Proofs.YtkihaohdcgjioaaGreatDoor.Lx
namespace Go.Proofs.YtkihaohdcgjioaaGreatDoor
open Go.RowKit Go.ChangeShapes Go.WideShapes Go.ChangeAt
set_option linter.unusedVariables false
set_option linter.unusedSimpArgs false
theorem gOps : Tryz.prog.globalNamed "spindle/isa.opcodes" = some 5 := by kernel_rfl
theorem gImms : Tryz.prog.globalNamed "spindle/isa.atomicImms" = some 9 := by kernel_rfl
theorem tOps : (Tryz.prog.globals[5]?).map (·.type) = some 239 := by kernel_rfl
theorem tImms : (Tryz.prog.globals[9]?).map (·.type) = some 274 := by kernel_rfl
theorem cellsArr : Tryz.prog.cellsOf 239 = 11 := by kernel_rfl
theorem cellsSl : Tryz.prog.cellsOf 24 = 1 := by kernel_rfl
theorem cellsU8 : Tryz.prog.cellsOf 5 = 1 := by kernel_rfl
theorem cellsArr10 : Tryz.prog.cellsOf 274 = 10 := by kernel_rfl
def listD (l : List Int) : DataW Unit := if l = [] then .nil else .slice (l.map fun z => .lit (.int .u8 z)) []
theorem laidO_eq : (Rows.laid_spindle_isa_opcodes : DataW Unit) = .agg (opsT.map listD) := by
  simp [Rows.laid_spindle_isa_opcodes, opsT, listD]
theorem laidA_eq : (Rows.laid_spindle_isa_atomicImms : DataW Unit) = Lib.tabData .u8 immsT := by
  simp [Rows.laid_spindle_isa_atomicImms, immsT, Lib.tabData]
theorem tabO_of {W : World} {base : Nat} {sp : Nat → Bool} {held : Bool} {fuel : Nat} {enc : TypeId × Value → Unit} {cs : Array Value} {p : List MemPlace}
    (hv : W.var? Tryz.prog "spindle/isa.opcodes" = some cs) (h : DataW.trod enc Tryz.prog W base sp held fuel 239 cs.toList = some (Rows.laid_spindle_isa_opcodes, p)) : TabO W := by
  rw [laidO_eq] at h
  obtain ⟨xs, m, rfl, hx, hlen, hxl, hel⟩ := DataW.trod_array Tryz.underlying239 h
  rw [cellsArr] at hlen
  simp only [cellsSl, Nat.mul_one] at hel
  simp only [Prod.mk.injEq, DataW.agg.injEq] at hx
  have hcell := World.var?_cell gOps hv
  refine ⟨fun k => cs[k]?.getD (.slice none 0 0), fun k hk => ?_, fun k hk => ?_⟩
  · have hk' : k < cs.size := by simpa using (show k < cs.toList.length by omega)
    simp only [hcell k, Array.getElem?_eq_getElem hk', Option.getD_some]
  · have hk' : k < cs.size := by simpa using (show k < cs.toList.length by omega)
    have hxk : k < xs.length := by omega
    have hl : k < opsT.length := by simpa [opsT] using hk
    have e1 : xs[k].1 = listD (opsL k) := by
      have := congrArg (fun l => l[k]?) hx.1
      simp only [List.getElem?_map, List.getElem?_eq_getElem hxk, List.getElem?_eq_getElem hl, Option.map_some, Option.some.injEq] at this
      rw [← this, opsL, getD_lt opsT [] k hl]
    have e2 : (cs.toList.drop k).take 1 = [cs[k]] := by
      rw [List.drop_eq_getElem_cons (by simpa using hk'), List.take_succ_cons]; simp
    have h2 := hel k hk
    rw [e2, List.getElem?_eq_getElem hxk, show xs[k] = (listD (opsL k), xs[k].2) from by rw [← e1]] at h2
    simp only [Array.getElem?_eq_getElem hk', Option.getD_some]
    by_cases z : opsL k = []
    · left
      rw [z] at h2 ⊢
      simp only [listD, ↓reduceIte] at h2
      rcases DataW.trod_slice Tryz.underlying24 h2 with ⟨hcs, _⟩ | ⟨a, len, cap, elems, rest, n, _, hcs, hx, _⟩
      · simp at hcs
        exact ⟨hcs, rfl⟩
      · simp at hx
    · right
      simp only [listD, if_neg z] at h2
      obtain ⟨a, cap, hcs, hle, hc⟩ := open_row Tryz.underlying24 cellsU8 h2
      simp only [List.cons.injEq, and_true, List.length_map] at hcs
      have hcell2 : ∀ j, j < (opsL k).length → W.cell? (a.add j) = some (.int .u8 ((opsL k).getD j 0)) := by
        intro j hj
        obtain ⟨v, n, q, hv1, hv2⟩ := hc j _ (by rw [List.getElem?_map, List.getElem?_eq_getElem hj]; rfl)
        obtain ⟨z, r1, r2, _⟩ := DataW.trod_int Tryz.underlying5 hv2
        simp at r1 r2
        rw [hv1, r1, getD_lt _ _ j hj, r2.1]
      obtain ⟨b, off, spot⟩ := a
      have hs : spot = none := by
        have hpos : 0 < (opsL k).length := List.length_pos_iff.2 z
        simpa [Addr.add] using World.cell?_spot (hcell2 0 hpos)
      subst hs
      refine ⟨b, off, cap, hcs, fun j hj => ?_⟩
      have := hcell2 j hj
      rwa [show (⟨b, off, none⟩ : Addr).add j = ⟨b, off + j, none⟩ from by simp only [Addr.add]; split <;> simp_all] at this
end Go.Proofs.YtkihaohdcgjioaaGreatDoor
