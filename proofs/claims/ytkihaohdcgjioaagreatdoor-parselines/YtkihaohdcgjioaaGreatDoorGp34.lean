import Derived.Test.YtkihaohdcgjioaaGreatDoorGp17
import Derived.Test.YtkihaohdcgjioaaGreatDoorGp25
import Derived.Test.YtkihaohdcgjioaaGreatDoorGp33
import Derived.Test.YtkihaohdcgjioaaGreatDoorGp27
import Derived.Test.YtkihaohdcgjioaaGreatDoorGp03
import Derived.Test.YtkihaohdcgjioaaGreatDoorGp11
import Derived.Test.YtkihaohdcgjioaaGreatDoorGp23
namespace Go.Proofs.YtkihaohdcgjioaaGreatDoor.Lx
open Go.RowKit
set_option linter.unusedVariables false
set_option linter.unusedSimpArgs false
theorem piece_kind (c : UInt8) (r : List UInt8) (q : Int × List UInt8 × Int) (h : (pieceP (c :: r)).2.1 = some q) : q.1 = 1 ∨ q.1 = 2 ∨ q.1 = 3 ∨ q.1 = 4 := by
  rw [piece_cons] at h
  by_cases k1 : kindP (bI c) = 1
  · rw [if_pos k1] at h; simp at h
  rw [if_neg k1] at h
  by_cases k2 : kindP (bI c) = 2
  · rw [if_pos k2] at h; simp at h
  rw [if_neg k2] at h
  by_cases k3 : kindP (bI c) = 3
  · rw [if_pos k3] at h; simp at h; rw [← h]; exact .inl rfl
  rw [if_neg k3] at h
  by_cases k5 : kindP (bI c) = 5
  · rw [if_pos k5] at h; simp at h; rw [← h]; exact .inr (.inl rfl)
  rw [if_neg k5] at h
  by_cases k4 : kindP (bI c) = 4
  · rw [if_pos k4] at h; simp at h; rw [← h]; exact .inr (.inr (.inl rfl))
  rw [if_neg k4] at h
  by_cases k7 : kindP (bI c) = 7
  · rw [if_pos k7] at h; simp at h; rw [← h]; exact .inr (.inr (.inr rfl))
  rw [if_neg k7] at h; simp at h
theorem scan_kind : ∀ (f : Nat) (l : List UInt8) (q : Int × List UInt8 × Int), q ∈ (scanF f l).2 → q.1 = 1 ∨ q.1 = 2 ∨ q.1 = 3 ∨ q.1 = 4
  | 0, _, q, h => by simp [scanF] at h
  | _ + 1, [], q, h => by simp [scanF] at h
  | f + 1, c :: r, q, h => by
    unfold scanF at h
    split at h
    · simp only [List.mem_append, Option.mem_toList] at h
      rcases h with h | h
      · exact piece_kind c r q h
      · exact scan_kind f _ q h
    · simp at h
theorem line_kind (l : List UInt8) (q : Int × List UInt8 × Int) (h : q ∈ (lineP l).2) : q.1 = 1 ∨ q.1 = 2 ∨ q.1 = 3 ∨ q.1 = 4 := by
  unfold lineP at h
  split at h
  · exact scan_kind _ _ _ h
  · simp at h
theorem num_cons (ln : Nat) (x : Tk) (r : List Tk) : numP ln (x :: r) = (if x.k = 0 then decide (r = []) && decide (x.l = (ln : Int) - 1) else if x.l = ln then numP (if x.k = 5 then ln + 1 else ln) r else false) := rfl
theorem num_raws (ln : Nat) (R : List Tk) : ∀ X : List (Int × List UInt8 × Int), (∀ q ∈ X, q.1 = 1 ∨ q.1 = 2 ∨ q.1 = 3 ∨ q.1 = 4) → numP ln (X.map (mkT ln) ++ R) = numP ln R
  | [], _ => rfl
  | q :: X, h => by
    have hq := h q (by simp)
    show numP ln (mkT ln q :: (X.map (mkT ln) ++ R)) = _
    rw [num_cons]
    have e0 : ¬ (mkT ln q).k = 0 := by show ¬ q.1 = 0; omega
    have e5 : ¬ (mkT ln q).k = 5 := by show ¬ q.1 = 5; omega
    rw [if_neg e0, if_pos (show (mkT ln q).l = (ln : Int) from rfl), if_neg e5]
    exact num_raws ln R X (fun q hq => h q (by simp [hq]))
theorem num_text : ∀ (f n : Nat) (l : List UInt8) (m : Nat) (T : List Tk), l.length ≤ f → textF f n l = (0, m, T) → numP (n + 1) (T ++ [⟨0, [], 0, (m : Int)⟩]) = true
  | 0, n, l, m, T, hl, h => by
    simp [textF] at h
    obtain ⟨rfl, rfl⟩ := h
    simp [numP]
  | f + 1, n, [], m, T, hl, h => by
    simp [textF] at h
    obtain ⟨rfl, rfl⟩ := h
    simp [numP]
  | f + 1, n, c :: r, m, T, hl, h => by
    unfold textF at h
    by_cases hz : (lineP (cutL (c :: r)).1).1 = 0
    · rw [if_pos hz] at h
      simp only [Prod.mk.injEq] at h
      obtain ⟨h1, h2, h3⟩ := h
      have hc := (cutL_len (c :: r) (by simp)).2
      simp only [List.length_cons] at hl hc
      have ih := num_text f (n + 1) (cutL (c :: r)).2 m (textF f (n + 1) (cutL (c :: r)).2).2.2 (by omega) (by rw [← h1, ← h2])
      rw [← h3, List.map_append, List.append_assoc, List.append_assoc, num_raws _ _ _ (line_kind _)]
      show numP (n + 1) (⟨5, [], 0, ((n + 1 : Nat) : Int)⟩ :: ((textF f (n + 1) (cutL (c :: r)).2).2.2 ++ [⟨0, [], 0, (m : Int)⟩])) = true
      rw [num_cons, if_neg (by simp), if_pos rfl, if_pos rfl]
      exact ih
    · rw [if_neg hz] at h
      simp only [Prod.mk.injEq] at h
      exact absurd h.1 hz
theorem num_P (l : List UInt8) (h : (tokensP l).2.2 = 0) : numP 1 (tokensP l).1 = true := by
  unfold tokensP at h ⊢
  by_cases hl : l.length ≤ 16777216
  · rw [if_pos hl] at h ⊢
    by_cases h0 : (textD 0 l).1 = 0
    · rw [if_pos h0] at h ⊢
      exact num_text l.length 0 l _ _ (Nat.le_refl _) (by show textD 0 l = _; rw [← h0])
    · rw [if_neg h0] at h; exact absurd h h0
  · rw [if_neg hl] at h; simp at h
theorem un_bad (ts : List Tk) (h : ¬ (untokP ts).2 = 0) : (untokP ts).1 = [] := by
  unfold untokP at h ⊢
  split
  · split
    · split
      · rename_i h1 h2 h3
        rw [if_pos h1, if_pos h2, if_pos h3] at h
        exact absurd rfl h
      · rfl
    · rfl
  · rfl
theorem tokens_len (l : List UInt8) : (tokensP l).1.length ≤ 33554433 := by
  unfold tokensP
  split
  · split
    · have := textF_len l.length 0 l
      show ((textF l.length 0 l).2.2 ++ _).length ≤ _
      rw [List.length_append]; simp; omega
    · simp
  · simp
end Go.Proofs.YtkihaohdcgjioaaGreatDoor.Lx
namespace Go.Proofs.YtkihaohdcgjioaaGreatDoor.Lx
open Go.RowKit
set_option linter.unusedVariables false
set_option linter.unusedSimpArgs false
/-- a text turned into bytes: what Tokens gives of it -/
theorem tok_str (w : World) (hE : LEnv w) (l : List UInt8) (hl : l.length ≤ 140737488355328) : TokC (Lib.bytesWorld w 5 ⟨l.toArray⟩) (some ⟨w.heap.size, 0, none⟩) (grownCap w l.length 0 5) l := by
  have ho : Out w (Lib.bytesWorld w 5 ⟨l.toArray⟩) := bw_out w _ _
  refine tokC _ (hE.out ho) _ _ l ?_ (grownCap_ge _ _ _ _) hl
  by_cases h0 : l = []
  · exact .inl h0
  · refine .inr ⟨w.heap.size, 0, ?_, rfl, fun k x hx => ?_⟩
    · rw [Lib.bytesWorld_size]; omega
    · have hk : k < l.length := (List.getElem?_eq_some_iff.1 hx).1
      rw [Nat.zero_add, Lib.bytesWorld_cell w 5 ⟨l.toArray⟩ k (by rw [mk_size]; exact hk)]
      simp [List.getD, hx]
theorem raw_rw (x : Tk) : x.raw = x.rw := rfl
end Go.Proofs.YtkihaohdcgjioaaGreatDoor.Lx
namespace Go.Proofs.YtkihaohdcgjioaaGreatDoor
open Go.RowKit Go.Shelf
set_option linter.unusedVariables false
set_option linter.unusedSimpArgs false
theorem pR : ∀ k, k ≤ 13 → mnR k <+: mnAll := fun k hk => (show ∀ k : Fin 14, mnR k.val <+: mnAll by decide +kernel) ⟨k, by omega⟩
theorem pJ : ∀ k, k ≤ 14 → mnJ k <+: mnAll := fun k hk => (show ∀ k : Fin 15, mnJ k.val <+: mnAll by decide +kernel) ⟨k, by omega⟩
theorem pM : ∀ k j, k < 4 → j ≤ 4 → mnM k j <+: mnAll := fun k j hk hj => (show ∀ k : Fin 4, ∀ j : Fin 5, mnM k.val j.val <+: mnAll by decide +kernel) ⟨k, by omega⟩ ⟨j, by omega⟩
theorem pO : ∀ k, k ≤ 9 → mnO k <+: mnAll := fun k hk => (show ∀ k : Fin 10, mnO k.val <+: mnAll by decide +kernel) ⟨k, by omega⟩
theorem pI : ∀ k, k ≤ 29 → mnI k <+: mnAll := fun k hk => (show ∀ k : Fin 30, mnI k.val <+: mnAll by decide +kernel) ⟨k, by omega⟩
theorem mnAll_len : mnAll.length < 111 := by decide +kernel
theorem live_mean : ∀ x ∈ live mnAll, meanOf x.1 = some x.2 := by decide +kernel
theorem live_none (t : List UInt8) (h : ∀ x ∈ live mnAll, x.1 ≠ t) : meanOf t = none := by
  unfold meanOf
  by_cases ht : t = []
  · rw [if_pos ht]
  · rw [if_neg ht]
    unfold lastAt
    rw [Option.map_eq_none_iff, List.find?_eq_none]
    intro x hx e
    have he : x.1 = t := eq_of_beq e
    refine h x (List.mem_filter.2 ⟨List.mem_reverse.1 hx, ?_⟩) he
    rw [he]
    cases t with
    | nil => exact absurd rfl ht
    | cons a b => rfl
theorem each_seq (F : Fence) (hd : F.depth = none) (hro : F.round = none) (h66 : F.fn 221) (h105 : F.fn 240) (n : Nat) (w0 : World) (hT : WTabs w0) :
    SeqStopsK F n Tryz.prog 221 #[] encM KC (fun ys => ys = live mnAll) (fun pre => pre <+: live mnAll) 111 w0 := fun l J Jx W hW hJ hJx hY h0 => by
  have hT := hT.out hW
  exact each_in F hd hro h66 h105 n l 111 mnAll_len J Jx W hJ hJx (fun m pre x W1 h1 hl => yield_any hd m (hY pre x W1 h1 hl)) h0
    reckCs hT.1 (show (Tryz.prog.info? 206).map (·.size) = some reckCs.length by kernel_rfl) reckA reckB (fun k hk w => reck_idx k (by omega) w) (fun k hk => by rw [mnR_step, reck_ent k hk, List.append_assoc]; rfl) pR
    jumpCs hT.2.1 (show (Tryz.prog.info? 173).map (·.size) = some jumpCs.length by kernel_rfl) jumpA jumpB (fun k hk w => jump_idx k (by omega) w) (fun k hk => by rw [mnJ_step, jump_ent k hk, List.append_assoc]; rfl) pJ
    memCs hT.2.2.1 (show (Tryz.prog.info? 209).map (·.size) = some memCs.length by kernel_rfl) memA memW (fun k hk w => mem_idx k (by omega) w) (fun k j hj w => idx4s (fun j => .string ⟨(memW k j).toArray⟩) j (by omega) w)
    (fun k j hk hj => (mem_all ⟨k, hk⟩ ⟨j, hj⟩).2.2.1) (fun k j hk hj => by rw [mnM_step, (mem_all ⟨k, hk⟩ ⟨j, hj⟩).1]) pM
    offCs hT.2.2.2.1 (show (Tryz.prog.info? 243).map (·.size) = some offCs.length by kernel_rfl) offA offB offS3 (fun k hk w => off_idx k (by omega) w) (fun k hk => by rw [mnO_step, off_ent k hk]) pO
    immCs hT.2.2.2.2 (show (Tryz.prog.info? 245).map (·.size) = some immCs.length by kernel_rfl) immA immB immS3 (fun k hk w => imm_idx k (by omega) w) (fun k hk => by rw [mnI_step, imm_ent k hk]) pI
/-- the contract of meaningOf -/
theorem meaning_any (w : World) (t : List UInt8) (hT : WTabs w) : Calls Tryz.prog 176 #[.string ⟨t.toArray⟩] w fun e w' => e = .returned (.tuple #[mnV ((meanOf t).getD (0, 0, 0, 0)), .bool (meanOf t).isSome]) ∧ Out w w' := by
  refine (callsIn_wide (n := 5)).1 ?_
  refine (meaning_in Fence.wide rfl rfl trivial trivial trivial 5 111 (by omega) w t (fun w0 hB => each_seq Fence.wide rfl rfl trivial trivial 4 w0 (hT.out hB))).mono ?_
  rintro e W' ⟨⟨x, hx, rfl, rfl⟩ | ⟨hn, rfl⟩, hB⟩
  · rw [live_mean x hx]; exact ⟨rfl, hB⟩
  · rw [live_none t hn]; exact ⟨rfl, hB⟩
end Go.Proofs.YtkihaohdcgjioaaGreatDoor
namespace Go.Proofs.YtkihaohdcgjioaaGreatDoor
open Go.RowKit
set_option linter.unusedVariables false
set_option linter.unusedSimpArgs false
/-- does a label stand there? -/
def atlB : List Lx.Tk → Bool
  | t :: u :: _ => t.k == 1 && colQ u
  | _ => false
set_option maxRecDepth 20000 in
theorem atLabel_any (B : Nat) (w : World) (p g mb : Nat) (sv : Value) (ts : List Lx.Tk) (h : PS B w p g mb sv ts) (hl : Lw ts) : Calls Tryz.prog 94 #[.pointer (some ⟨p, 0, none⟩)] w fun e w' => e = .returned (.bool (atlB ts)) ∧ Out w w' := by
  obtain ⟨t, u, r, rfl⟩ := hl.two
  obtain ⟨off, cap, hR, hT, hc⟩ := h.st
  obtain ⟨q0, -, -, -⟩ := hT 0 t rfl
  obtain ⟨u0, u1, u2, u3⟩ := hT 1 u rfl
  simp only [Nat.zero_mul, Nat.add_zero, Nat.one_mul] at q0 u0 u1 u2 u3
  obtain ⟨n, hn⟩ : ∃ n, n = (t :: u :: r).length := ⟨_, rfl⟩
  have hnI : (2 : Int) ≤ n := by rw [hn]; simp; omega
  rw [← hn] at hR hc
  have c0 : w.cell? ⟨p, 0, none⟩ = some (.slice (some ⟨g, off, none⟩) n cap) := by rw [cell_atL hR]; rfl
  have CC := hidOf (isColon_any u)
  show Calls _ _ _ _ fun e w' => e = .returned (.bool (t.k == 1 && colQ u)) ∧ Out w w'
  generalize colQ u = b at *
  unfold tkE at CC
  clear h hl hT hR hn
  cases hk : (t.k == 1)
  all_goals cases b
  all_goals go_enter Tryz.func94, Tryz.ntmps94
  all_goals go_wp2_with (go_at_call 93; refine (CC.out _).mono ?_; rintro e w1 ⟨rfl, ho⟩; have O1 := hidOf ho; clear ho)
  all_goals go_ret
  all_goals first | exact ⟨rfl, O1.out⟩ | exact ⟨rfl, Out.refl _⟩
set_option maxRecDepth 20000 in
set_option maxHeartbeats 1000000 in
/-- a byte is put behind what was written -/
theorem byte6_any (B b : Nat) (bs : List Value) (c : Int) (w : World) (h : Lib.IsBuilder 77 5 B b bs w) (hlen : bs.length ≤ 1000000000000) (hBw : B ≤ w.heap.size) :
    Calls Tryz.prog 59 #[.pointer (some ⟨b, 0, none⟩), .int .u8 c] w fun e w' => (∃ v, e = .returned v) ∧ Lib.IsBuilder 77 5 B b (bs ++ [.int .u8 c]) w' ∧ Below B w w' := by
  obtain ⟨i0, hi, hz0, hz1, hz2⟩ := info_parts (show (Tryz.prog.info? 5).map (fun i => (i.zero, i.size, i.bytes)) = some (some (.int .u8 0), 1, 1) from Tryz.Builder_Extra_169.infoByte)
  have CK := hidOf (chk_any B b bs w h)
  clear h
  go_enter Tryz.func59, Tryz.ntmps59
  go_upto_region 2 with (go_at_call 89; refine CK.out.mono ?_; rintro e w1 ⟨rfl, hbd, hb1⟩; have HBD := hidOf hbd; have HB1 := hidOf hb1; clear hbd hb1)
  obtain ⟨hB, v, hbk, hown, hne⟩ := HBD.out
  have hsz := HB1.out.size
  have hlt : b < w1.heap.size := (Array.getElem?_eq_some_iff.1 hbk).1
  obtain ⟨av, cv, rfl⟩ := own_form hown
  have c1 : w1.cell? ⟨b, 1, none⟩ = some (.slice av bs.length cv) := by rw [Lib.cell_of_heap hbk]; rfl
  have RX : Hid (∀ O, (w1.alloc O).ownsRow B 5 1 (.slice av bs.length cv) bs.length bs) := hidOf (fun O => owns_chg (S := fun _ => False) hown (fun _ _ h => h) (Chg.of_out ((Out.refl w1).alloc O)))
  have HP : Hid (∀ O w8, (w1.alloc O).grownBy w8 (Value.slice av bs.length cv).ownBlock → w8.heap[b]? = some (.cells #[.pointer (some ⟨b, 0, none⟩), .slice av bs.length cv] 77 (0, 0))) := hidOf (fun O w8 hg => by
    have hA : (w1.alloc O).heap[b]? = _ := (((Out.refl w1).alloc O).block b hlt).trans hbk
    exact (hg.block b (Array.getElem?_eq_some_iff.1 hA).1 (fun e => hne e.symm)).trans hA)
  have Hown := hidOf hown
  clear hbk hown hne HBD CK
  go_upto_region 3 with (at_builtin; refine wpList_append_lies _ rfl (.tmp 11) (.tmp 13) 24 rfl B 5 i0 _ 1 1 Tryz.underlying24 hi hz0 hz1 hz2 rfl (by decide) (.slice av bs.length cv) bs.length bs rfl (RX.out _) ⟨w1.heap.size, 0, none⟩ 1 1 [.int .u8 c] rfl rfl (news_new w1 _ _ _ rfl) (by intro u hu; simp at hu; subst hu; rfl) (by decide) (by unfold maxLen; omega) (by omega) (by rw [size_alloc]; omega) _ rfl ?_; intro g8 cap8 w8 hown8 hgrow8 hg8 hlt8; have b8 := HP.out _ w8 hgrow8; have q8 : w8.cell? ⟨b, 1, none⟩ = some (.slice av bs.length cv) := (by rw [Lib.cell_of_heap b8]; rfl); have f8 : w8.frozen? ⟨b, 1, none⟩ = false := Lib.frozen_of_heap b8 1; have W8 := hidOf hown8; have G8 := hidOf hgrow8; have B8 := hidOf b8; clear hown8 hgrow8 hg8 hlt8 b8)
  go_wp2
  go_ret
  refine ⟨⟨_, rfl⟩, .inr (Lib.BuilderAt.put (T := 77) (e := 5) hB B8.out (bs' := bs ++ [.int .u8 c]) (by rw [List.length_append]; exact W8.out) (by decide)), ?_⟩
  exact (((HB1.out.alloc (by omega) _).grown G8.out (by rw [size_alloc]; omega) (fun k hk => (World.ownsRow.lt Hown.out k hk).1)).setCell (p := ⟨b, 1, none⟩) hB _)
end Go.Proofs.YtkihaohdcgjioaaGreatDoor
namespace Go.Proofs.YtkihaohdcgjioaaGreatDoor
open Go.RowKit
set_option linter.unusedVariables false
set_option linter.unusedSimpArgs false
def inQ (ts : List Lx.Tk) : RE Stm :=
  if (parseP (ixQ [] ts).1).e = 0 then .ok ⟨6, [], [], [], (parseP (ixQ [] ts).1).o, (parseP (ixQ [] ts).1).d, (parseP (ixQ [] ts).1).s, (parseP (ixQ [] ts).1).f, (parseP (ixQ [] ts).1).i, (parseP (ixQ [] ts).1).tgt, 0⟩ (ixQ [] ts).2
  else .no (if (parseP (ixQ [] ts).1).e = 40 then 60 else (parseP (ixQ [] ts).1).e) (ixQ [] ts).2
/-- the statement behind the labels, if there is one -/
def stQ (out : List Stm) (ts : List Lx.Tk) : RE (List Stm) :=
  if kindQ ts = 5 then .ok out ts
  else (if kindQ ts = 1 then inQ ts else dirQ ts).bind fun s r => .ok (out ++ [{ s with l := lineQ r }]) r
def lnQ (out : List Stm) (ts : List Lx.Tk) : RE (List Stm) := (stQ (lbQ out ts).1 (lbQ out ts).2).bind fun o r => (tkQ 5 r).bind fun _ r => .ok o r
def rdF : Nat → List Stm → List Lx.Tk → RE (List Stm)
  | 0, out, ts => .ok out ts
  | n + 1, out, ts => if kindQ ts = 0 then .ok out ts else (lnQ out ts).bind fun o r => rdF n o r
/-- what read gives -/
def readQ (ts : List Lx.Tk) : List Stm × Int × Int :=
  match rdF ts.length [] ts with
  | .ok out _ => (out, 0, 0)
  | .no c r => ([], lineQ r, c)
theorem inQ_lw {ts : List Lx.Tk} (h : Lw ts) : (inQ ts).lw := by
  unfold inQ
  by_cases e : (parseP (ixQ [] ts).1).e = 0
  · rw [if_pos e]; exact (ixQ_lw [] ts h).1
  · rw [if_neg e]; exact (ixQ_lw [] ts h).1
theorem stQ_lw {out : List Stm} {ts : List Lx.Tk} (h : Lw ts) : (stQ out ts).lw := by
  unfold stQ
  by_cases e : kindQ ts = 5
  · rw [if_pos e]; exact h
  rw [if_neg e]
  refine RE.lw_bind ?_ (fun _ _ h => h)
  by_cases e1 : kindQ ts = 1
  · rw [if_pos e1]; exact inQ_lw h
  · rw [if_neg e1]; exact dirQ_lw h
end Go.Proofs.YtkihaohdcgjioaaGreatDoor
