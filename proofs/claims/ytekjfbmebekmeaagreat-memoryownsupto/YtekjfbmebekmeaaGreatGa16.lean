import Derived.Test.YtekjfbmebekmeaaGreatGa09
namespace Go.Proofs.YtekjfbmebekmeaaGreat
open Go.RowKit
set_option linter.unusedVariables false
set_option linter.unusedSimpArgs false
def AccE (F : List Rg) (at_ n : Nat) (e : Ending) : Prop := (acP F at_ n = none ∧ e = .returned (.tuple #[.slice none 0 0, .int .i64 200])) ∨ ∃ y o b, acP F at_ n = some (y, o) ∧ y.a = some b ∧ e = .returned (.tuple #[.slice (some ⟨b, o, none⟩) n (y.c - o), .int .i64 0])
set_option maxHeartbeats 2000000 in
set_option maxRecDepth 100000 in
theorem access_any (w : World) (B s : Nat) (v1 v2 : Value) (X Y : List Rw) (m at_ n : Nat) (h : SpD B w s v1 v2 X Y m) (hn : 0 < n) (hn8 : n ≤ 8) (ha : at_ < 18446744073709551616) :
    Calls Tryz.prog 67 #[.pointer (some ⟨s, 0, none⟩), .int .u64 at_, .int .i64 n] w fun e w' => AccE (flat X) at_ n e ∧ Out w w' := by
  have U := hidOf (upTo_any w B s 0 v1 X at_ h.sp.fil h.sp.c1 h.ok.sf (by have := h.sp.nX; omega))
  have HS := hidOf h
  have hn0 : ¬ ((n : Int) < 0) := by omega
  have hnz : ¬ ((n : Int) = 0) := by omega
  have hnzb : ((n : Int) == 0) = false := by rw [beq_eq_false_iff_ne]; exact hnz
  clear h
  go_enter Tryz.func67, Tryz.ntmps67
  go_upto_region 8 with (go_at_call 78; refine U.out.mono ?_; rintro e w1 ⟨⟨hu, rfl⟩ | ⟨y, hu, hy, rfl⟩, ho1⟩ <;> (have HU := hidOf hu; have O1 := hidOf ho1; clear hu ho1))
  · go_wp2
    refine bodyPost_ret (results_tmp2 rfl _ _ _) rfl ?_
    exact ⟨.inl ⟨by simp [acP, HU.out], rfl⟩, O1.out.alloc _⟩
  · have hyd := HS.out.ok.fd y hy
    have hyl := HS.out.le y (List.mem_append_left _ hy)
    have hyf : y.f ≤ at_ := by
      rcases upF_hit HS.out.ok.sf at_ with ⟨z, hz, _, hz2, _⟩ | ⟨hz, _⟩
      · rw [HU.out] at hz; cases hz; exact hz2
      · rw [HU.out] at hz; cases hz
    have hda := HS.out.da y (List.mem_append_left _ hy)
    obtain ⟨yb, hyb⟩ : ∃ yb, y.a = some yb := by
      cases hya : y.a with
      | some b => exact ⟨b, rfl⟩
      | none =>
        rcases hda.2 with ⟨_, h0⟩ | ⟨g, cap, cur, e, _⟩
        · omega
        · rw [daV, hya] at e; cases e
    have hyc : y.d.length ≤ y.c := by
      rcases hda.2 with ⟨_, h0⟩ | ⟨g, cap, cur, e, _, _, h1, _⟩
      · omega
      · rw [daV] at e; simp only [Value.slice.injEq] at e; omega
    have HY := hidOf hyb
    have hacc : Hid (acP (flat X) at_ n = if at_ - y.f < y.d.length ∧ n ≤ y.d.length - (at_ - y.f) then some (y, at_ - y.f) else none) := hidOf (by simp only [acP, HU.out])
    rw [hyb]
    simp only [Option.map_some]
    obtain ⟨o, hoe⟩ : ∃ o, at_ = y.f + o := ⟨at_ - y.f, by omega⟩
    subst hoe
    rw [show y.f + o - y.f = o by omega] at hacc
    obtain ⟨wB, HB, b0, b1, oB, _⟩ := box_two w1 (.int .u64 (y.f : Nat)) (.slice (some ⟨yb, 0, none⟩) y.d.length y.c) 36
    rw [← HB.out]
    have OB := hidOf oB
    have HAS := hidOf (fun W => hasR W y.f y.d.length y.c (y.f + o) (some ⟨yb, 0, none⟩) hyl (by omega) ha)
    rw [show y.f + o - y.f = o by omega] at HAS
    obtain ⟨yf, hyfe⟩ : ∃ yf, Hid (yf = y.f) := ⟨_, rfl⟩
    obtain ⟨yl, hyle⟩ : ∃ yl, Hid (yl = y.d.length) := ⟨_, rfl⟩
    obtain ⟨yc, hyce⟩ : ∃ yc, Hid (yc = y.c) := ⟨_, rfl⟩
    rw [← hyfe.out] at b0 HAS ha
    rw [← hyle.out, ← hyce.out] at b1 HAS
    rw [← hyle.out, ← hyce.out] at hyc
    rw [← hyle.out] at hyl
    have hw1 : IntKind.u64.wrap (((yf + o : Nat) : Int) - yf) = (o : Int) := by rw [IntKind.wrap_u64]; omega
    have hw2 : IntKind.u64.wrap ((yf : Int) + o - yf) = (o : Int) := by rw [IntKind.wrap_u64]; omega
    clear hy hyd hda hyb hyf oB
    rw [← hyfe.out]
    by_cases hol : o < yl
    · have hb : decide (o < yl) = true := by simpa using hol
      rw [hb] at HAS
      have hoI : (o : Int) ≤ (yl : Int) := by omega
      have hco : ¬ (yc = o) := by omega
      by_cases hnl : n ≤ yl - o
      · have hnlI : ¬ (((yl - o : Nat) : Int) < (n : Int)) := by omega
        have hnlJ : (n : Int) ≤ ((yc - o : Nat) : Int) := by omega
        have hac2 := hacc.out
        rw [← hyle.out, if_pos ⟨hol, hnl⟩] at hac2
        have HAC := hidOf hac2
        clear hb hol hac2
        go_wp2_with (go_at_call 97; refine (HAS.out _).mono ?_; rintro e w2 ⟨rfl, ho2⟩; have O2 := hidOf ho2; have c0 := cell_later ho2 b0; have c1 := cell_later ho2 b1; clear ho2)
        refine bodyPost_ret (results_tmp2 rfl _ _ _) rfl ?_
        exact ⟨.inr ⟨y, o, yb, HAC.out, HY.out, by rw [← hyce.out]; rfl⟩, (O1.out.trans OB.out).trans O2.out⟩
      · have hnlI : (((yl - o : Nat) : Int) < (n : Int)) := by omega
        have hac2 := hacc.out
        rw [← hyle.out, if_neg (by omega)] at hac2
        have HAC := hidOf hac2
        clear hb hol hac2
        go_wp2_with (go_at_call 97; refine (HAS.out _).mono ?_; rintro e w2 ⟨rfl, ho2⟩; have O2 := hidOf ho2; have c0 := cell_later ho2 b0; have c1 := cell_later ho2 b1; clear ho2)
        refine bodyPost_ret (results_tmp2 rfl _ _ _) rfl ?_
        exact ⟨.inl ⟨HAC.out, rfl⟩, (O1.out.trans OB.out).trans O2.out⟩
    · have hb : decide (o < yl) = false := by simpa using hol
      rw [hb] at HAS
      have hac2 := hacc.out
      rw [← hyle.out, if_neg (by omega)] at hac2
      have HAC := hidOf hac2
      clear hb hol hac2
      go_wp2_with (go_at_call 97; refine (HAS.out _).mono ?_; rintro e w2 ⟨rfl, ho2⟩; have O2 := hidOf ho2; clear ho2)
      refine bodyPost_ret (results_tmp2 rfl _ _ _) rfl ?_
      exact ⟨.inl ⟨HAC.out, rfl⟩, (O1.out.trans OB.out).trans O2.out⟩
def bysN (x : Nat) : Nat → List UInt8
  | 0 => []
  | n + 1 => bysN x n ++ [UInt8.ofNat (x / 2 ^ (8 * n) % 256)]
theorem bysN_len (x n : Nat) : (bysN x n).length = n := by
  induction n with
  | zero => rfl
  | succ n ih => simp [bysN, ih]
theorem bysN_get (x n k : Nat) (h : k < n) : (bysN x n)[k]? = some (UInt8.ofNat (x / 2 ^ (8 * k) % 256)) := by
  induction n with
  | zero => omega
  | succ n ih =>
    rw [bysN]
    by_cases hk : k < n
    · rw [List.getElem?_append_left (by rw [bysN_len]; exact hk)]; exact ih hk
    · obtain rfl : n = k := by omega
      rw [List.getElem?_append_right (by rw [bysN_len]; exact Nat.le_refl _), bysN_len, Nat.sub_self]
      rfl
theorem byV_ofNat (q : Nat) (h : q < 256) : byV (UInt8.ofNat q) = .int .u8 (q : Int) := by
  simp [byV, Nat.mod_eq_of_lt h]
theorem byV_bys (x k : Nat) : byV (UInt8.ofNat (x / 2 ^ (8 * k) % 256)) = .int .u8 ((x : Int) / 2 ^ (8 * k) % 256) := by
  rw [byV_ofNat _ (Nat.mod_lt _ (by decide))]
  congr 1
  try (push_cast; rfl)
theorem bysN_mod (x n m : Nat) (h : n ≤ m) : bysN (x % 2 ^ (8 * m)) n = bysN x n := by
  apply List.ext_getElem?
  intro k
  by_cases hk : k < n
  · rw [bysN_get _ _ _ hk, bysN_get _ _ _ hk]
    congr 2
    rw [show m = k + (m - k) by omega, Nat.mul_add, Nat.pow_add, Nat.mod_mul_right_div_self]
    have h3 : (256 : Nat) ∣ 2 ^ (8 * (m - k)) := by
      rw [show 8 * (m - k) = 8 + 8 * (m - k - 1) by omega, Nat.pow_add]
      exact Nat.dvd_mul_right _ _
    exact Nat.mod_mod_of_dvd _ h3
  · rw [List.getElem?_eq_none (by rw [bysN_len]; omega), List.getElem?_eq_none (by rw [bysN_len]; omega)]
theorem layC_get (cs : Array Value) (o x n : Nat) (h : o + n ≤ cs.size) (j : Nat) : (layC cs o x n)[j]? = if o ≤ j ∧ j < o + n then some (.int .u8 ((x : Int) / 2 ^ (8 * (j - o)) % 256)) else cs[j]? := by
  induction n with
  | zero => rw [if_neg (by omega)]; rfl
  | succ n ih =>
    rw [layC, Array.getElem?_setIfInBounds]
    by_cases hj : o + n = j
    · subst hj
      rw [if_pos rfl, if_pos (by rw [layC_size]; omega), if_pos (by omega), show o + n - o = n by omega]
    · rw [if_neg hj, ih (by omega)]
      by_cases h1 : o ≤ j ∧ j < o + n
      · rw [if_pos h1, if_pos (by omega)]
      · rw [if_neg h1, if_neg (by omega)]
theorem layC_layL (cur : List Value) (d : List UInt8) (o x n : Nat) (hd : cur.take d.length = d.map byV) (h : o + n ≤ d.length) (hl : d.length ≤ cur.length) : (layC cur.toArray o x n).toList.take d.length = (layL d o (bysN x n)).map byV := by
  apply List.ext_getElem?
  intro j
  rw [List.getElem?_take, List.getElem?_map, layL_get _ _ _ (by rw [bysN_len]; exact h), bysN_len, Array.getElem?_toList, layC_get _ _ _ _ (by simp; omega)]
  by_cases hj : j < d.length
  · rw [if_pos hj]
    by_cases h1 : o ≤ j ∧ j < o + n
    · rw [if_pos h1, if_pos h1, bysN_get _ _ _ (by omega)]
      simp only [Option.map_some]
      rw [byV_bys]
    · rw [if_neg h1, if_neg h1, List.getElem?_toArray, ← List.getElem?_map, ← hd, List.getElem?_take, if_pos hj]
  · rw [if_neg hj]
    have : ¬ (o ≤ j ∧ j < o + n) := by omega
    rw [if_neg this, List.getElem?_eq_none (by omega)]
    rfl
def updX (f : Nat) (d : List UInt8) (X : List Rw) : List Rw := X.map fun x => ⟨x.g, x.c, x.L.map (updR f d)⟩
theorem flat_updX (f : Nat) (d : List UInt8) (X : List Rw) : flat (updX f d X) = (flat X).map (updR f d) := by
  induction X with
  | nil => rfl
  | cons x X ih =>
    show _ ++ flat (updX f d X) = _
    rw [ih, flat_cons, List.map_append]
theorem csG_upd {f : Nat} {d : List UInt8} {z : Rg} (h : z.f = f → d.length = z.d.length) : csG (updR f d z) = csG z := by
  have h1 := updR_len h
  unfold csG daV
  rw [updR_f, h1]
  unfold updR
  split <;> rfl
theorem updR_a (f : Nat) (d : List UInt8) (z : Rg) : (updR f d z).a = z.a := by unfold updR; split <;> rfl
theorem rowG_upd {f : Nat} {d : List UInt8} {L : List Rg} (h : ∀ z ∈ L, z.f = f → d.length = z.d.length) : rowG (L.map (updR f d)) = rowG L := by
  induction L with
  | nil => rfl
  | cons z L ih =>
    rw [List.map_cons, rowG_cons, rowG_cons, csG_upd (h z (by simp)), ih (fun y hy => h y (by simp [hy]))]
theorem Sh.upd {B : Nat} {w : World} {v : Value} {X : List Rw} (h : Sh B w v X) (f : Nat) (d : List UInt8) (hd : ∀ z ∈ flat X, z.f = f → d.length = z.d.length) : Sh B w v (updX f d X) := by
  have hrw : (updX f d X).map rwV = X.map rwV := by
    unfold updX
    rw [List.map_map]
    apply List.map_congr_left
    intro x hx
    simp [rwV]
  have hmem : ∀ x ∈ updX f d X, ∃ y ∈ X, x.g = y.g ∧ x.c = y.c ∧ x.L = y.L.map (updR f d) := fun x hx => by
    obtain ⟨y, hy, rfl⟩ := List.mem_map.1 hx
    exact ⟨y, hy, rfl, rfl, rfl⟩
  refine ⟨by rw [hrw, show (updX f d X).length = X.length by simp [updX]]; exact h.own, fun x hx => ?_, fun x hx => ?_, fun x hx => ?_, ?_, fun x hx => ?_⟩
  · obtain ⟨y, hy, e1, e2, e3⟩ := hmem x hx
    have h1 := h.rows y hy
    have e4 : rwV x = rwV y := by simp [rwV, e1, e2, e3]
    rw [e4, e3, rowG_upd (fun z hz => hd z (List.mem_flatMap.2 ⟨y, hy, hz⟩)), List.length_map]
    exact h1
  · obtain ⟨y, hy, e1, e2, e3⟩ := hmem x hx
    rw [e3]
    intro e
    exact h.ne y hy (List.map_eq_nil_iff.1 e)
  · obtain ⟨y, hy, e1, e2, e3⟩ := hmem x hx
    rw [e3, List.length_map]; exact h.le y hy
  · exact List.pairwise_map.2 h.nd
  · obtain ⟨y, hy, e1, _⟩ := hmem x hx
    rw [e1]; exact h.vn y hy
theorem fpS_upd {v : Value} {X : List Rw} {f : Nat} {d : List UInt8} {k : Nat} : fpS v (updX f d X) k ↔ fpS v X k := by
  constructor
  · rintro (h | ⟨x, hx, rfl⟩)
    · exact .inl h
    · obtain ⟨y, hy, rfl⟩ := List.mem_map.1 hx
      exact .inr ⟨y, hy, rfl⟩
  · rintro (h | ⟨x, hx, rfl⟩)
    · exact .inl h
    · exact .inr ⟨_, List.mem_map.2 ⟨x, hx, rfl⟩, rfl⟩
theorem pair_two {R : Rg → Rg → Prop} (hsy : ∀ x y, R x y → R y x) {L : List Rg} (h : L.Pairwise R) {x y : Rg} (hx : x ∈ L) (hy : y ∈ L) (hne : x ≠ y) : R x y := by
  induction L with
  | nil => simp at hx
  | cons z L ih =>
    obtain ⟨h1, h2⟩ := List.pairwise_cons.1 h
    rcases List.mem_cons.1 hx with e | hx'
    · rcases List.mem_cons.1 hy with e2 | hy'
      · exact absurd (e.trans e2.symm) hne
      · rw [e]; exact h1 y hy'
    · rcases List.mem_cons.1 hy with e2 | hy'
      · rw [e2]; exact hsy _ _ (h1 x hx')
      · exact ih h2 hx' hy'
theorem SpD.upd {B : Nat} {w w' : World} {s : Nat} {v1 v2 : Value} {X Y : List Rw} {m b : Nat} {y : Rg} {d : List UInt8} (h : SpD B w s v1 v2 X Y m) (hy : y ∈ flat X) (hb : y.a = some b) (hd : d.length = y.d.length) (c : Chg (fun k => k = b) w w') (hda : DaI B w' { y with d := d }) : SpD B w' s v1 v2 (updX y.f d X) Y m := by
  have hdl : ∀ z ∈ flat X, z.f = y.f → d.length = z.d.length := fun z hz e => by rw [srt_one h.ok.sf hz hy e]; exact hd
  have hds := h.ds b ⟨y, List.mem_append_left _ hy, hb⟩
  have hfl := flat_updX y.f d X
  have hmem : ∀ z ∈ flat (updX y.f d X) ++ flat Y, (z = { y with d := d }) ∨ (z ∈ flat X ++ flat Y ∧ z ≠ y) ∨ (z ∈ flat X ++ flat Y ∧ z.a ≠ some b) := fun z hz => by
    rw [hfl] at hz
    rcases List.mem_append.1 hz with hz | hz
    · obtain ⟨u, hu, rfl⟩ := List.mem_map.1 hz
      by_cases e : u.f = y.f
      · left
        have := srt_one h.ok.sf hu hy e
        subst this
        simp [updR]
      · right; left
        have e2 : updR y.f d u = u := by simp [updR, e]
        rw [e2]
        exact ⟨List.mem_append_left _ hu, fun e3 => e (by rw [e3])⟩
    · right; right
      refine ⟨List.mem_append_right _ hz, fun hzb => ?_⟩
      obtain ⟨_, _, p3⟩ := List.pairwise_append.1 h.dn
      exact p3 y hy z hz b hb hzb
  have hnb : ∀ z ∈ flat X ++ flat Y, z ≠ y → z.a ≠ some b := fun z hz hne hzb => pair_two (fun x y hxy b hb hc => hxy b hc hb) h.dn hz (List.mem_append_left _ hy) hne b hzb hb
  refine ⟨⟨blk_chg h.sp.blk c (fun e => hds.1 e.symm), h.sp.bs, (h.sp.fil.keep c (fun k hk e => hds.2.1 (by rw [← e]; exact hk))).upd y.f d hdl, h.sp.emp.keep c (fun k hk e => hds.2.2 (by rw [← e]; exact hk)), fun hk => h.sp.s1 (fpS_upd.1 hk), h.sp.s2, fun k hk => h.sp.d12 k (fpS_upd.1 hk), by simp [updX]; exact h.sp.nX, h.sp.nY⟩, by rw [hfl]; exact h.ok.upd y.f d hdl, fun x hx => ?_, h.lY, fun z hz => ?_, ?_, fun k hk => ?_, fun z hz => ?_, ?_⟩
  · obtain ⟨u, hu, rfl⟩ := List.mem_map.1 hx
    simp only [List.length_map]; exact h.lX u hu
  · rcases hmem z hz with rfl | ⟨hz2, hne⟩ | ⟨hz2, hne⟩
    · exact hda
    · exact (h.da z hz2).chg c (fun q hq e => hnb z hz2 hne (by rw [hq, e]))
    · exact (h.da z hz2).chg c (fun q hq e => hne (by rw [hq, e]))
  · rw [hfl]
    obtain ⟨p1, p2, p3⟩ := List.pairwise_append.1 h.dn
    refine List.pairwise_append.2 ⟨List.pairwise_map.2 (p1.imp (fun {u z} hxy b hb hc => hxy b (by rw [← updR_a y.f d u]; exact hb) (by rw [← updR_a y.f d z]; exact hc))), p2, fun x hx z hz q hq hq2 => ?_⟩
    obtain ⟨u, hu, rfl⟩ := List.mem_map.1 hx
    rw [updR_a] at hq
    exact p3 u hu z hz q hq hq2
  · obtain ⟨z, hz, hq⟩ := hk
    have h2 : dbs (flat X ++ flat Y) k := by
      rw [hfl] at hz
      rcases List.mem_append.1 hz with hz | hz
      · obtain ⟨u, hu, rfl⟩ := List.mem_map.1 hz
        rw [updR_a] at hq
        exact ⟨u, List.mem_append_left _ hu, hq⟩
      · exact ⟨z, List.mem_append_right _ hz, hq⟩
    have h3 := h.ds k h2
    exact ⟨h3.1, fun hk => h3.2.1 (fpS_upd.1 hk), h3.2.2⟩
  · rcases hmem z hz with rfl | ⟨hz2, _⟩ | ⟨hz2, _⟩
    · show d.length ≤ _; rw [hd]; exact h.le y (List.mem_append_left _ hy)
    · exact h.le z hz2
    · exact h.le z hz2
  · rw [hfl, List.length_append, List.length_map, ← List.length_append]; exact h.nm
end Go.Proofs.YtekjfbmebekmeaaGreat
