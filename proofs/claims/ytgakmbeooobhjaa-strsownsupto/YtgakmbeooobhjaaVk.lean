import Derived.Test.YtgakmbeooobhjaaVj
namespace Go.Proofs.Ytgakmbeooobhjaa
open Go.RowKit
open Go.Maps (Keyed)
set_option linter.unusedVariables false
set_option linter.unusedSimpArgs false
/-- a desk, whatever it has, its blocks within G -/
def DS (d : Nat) (w : World) (S : Option (List (List UInt8))) (G : Nat → Prop) : Prop :=
  match S with
  | none => DkN d w ∧ G d
  | some N => ∃ p ra rc F, Dk d w p N ra rc F ∧ ∀ k, dkF d ra F k → G k
theorem DS.chg {d : Nat} {w w' : World} {S : Option (List (List UInt8))} {G T : Nat → Prop} (h : DS d w S G) (hc : Chg T w w') (hs : ∀ k, G k → ¬ T k) : DS d w' S G := by
  cases S with
  | none => exact ⟨(hc.block d h.1.lt (hs d h.2)).trans h.1, h.2⟩
  | some N =>
    obtain ⟨p, ra, rc, F, hd, hg⟩ := h
    exact ⟨p, ra, rc, F, hd.chg hc (fun k hk => hs k (hg k hk)), hg⟩
theorem DS.out {d : Nat} {w w' : World} {S : Option (List (List UInt8))} {G : Nat → Prop} (h : DS d w S G) (o : Out w w') : DS d w' S G := h.chg (T := fun _ => False) (Chg.of_out o) (fun _ _ h => h)
theorem DS.mono {d : Nat} {w : World} {S : Option (List (List UInt8))} {G G' : Nat → Prop} (h : DS d w S G) (hg : ∀ k, G k → G' k) : DS d w S G' := by
  cases S with
  | none => exact ⟨h.1, hg d h.2⟩
  | some N =>
    obtain ⟨p, ra, rc, F, hd, hk⟩ := h
    exact ⟨p, ra, rc, F, hd, fun k h => hg k (hk k h)⟩
def addS (S : Option (List (List UInt8))) (x : Ac) : Option (List (List UInt8)) := S.map fun N => if x.k = 1 ∧ nameOk x.s = true then addN N x.s else N
def szS (S : Option (List (List UInt8))) : Nat := match S with | none => 0 | some N => szF 1 N
theorem szS_add (S : Option (List (List UInt8))) (x : Ac) : szS (addS S x) ≤ szS S + 65 := by
  cases S with
  | none => simp [addS, szS]
  | some N =>
    show szF 1 (if x.k = 1 ∧ nameOk x.s = true then addN N x.s else N) ≤ szF 1 N + 65
    split
    · rename_i h
      have := addN_sz N x.s
      have := name_len h.2
      omega
    · omega
/-- every act -/
theorem act_any (d : Nat) (x : Ac) (w : World) (S : Option (List (List UInt8))) (G : Nat → Prop) (h : DS d w S G) (hb : szS S ≤ 900000000000) (hl : x.s.length ≤ 1000000000000) :
    Calls Try.prog 9 #[.pointer (some ⟨d, 0, none⟩), .agg x.cs] w fun e w' => (∃ a1 n1 c1 a2 n2 c2, e = .returned (.tuple #[.bool true, .slice a1 n1 c1, .slice a2 n2 c2])) ∧ DS d w' (addS S x) (FN G w w') ∧ Chg G w w' := by
  cases S with
  | none =>
    refine (act_nil d x w h.1).mono ?_
    rintro e w' ⟨rfl, ho⟩
    exact ⟨⟨_, _, _, _, _, _, rfl⟩, ⟨h.1.out ho, .inl h.2⟩, Chg.of_out ho⟩
  | some N =>
    obtain ⟨p, ra, rc, F, hd, hg⟩ := h
    have same : ∀ w', Dk d w' p N ra rc F → DS d w' (some N) (FN G w w') := fun w' h' => ⟨p, ra, rc, F, h', fun k hk => .inl (hg k hk)⟩
    have hb' : szF 1 N ≤ 900000000000 := hb
    by_cases h1 : x.k = 1
    · by_cases hok : nameOk x.s = true
      · by_cases hm : x.s ∈ N
        · have e : addS (some N) x = some N := by simp [addS, h1, hok, addN, hm]
          rw [e]
          refine (act_same d x w p N ra rc F hd hb' hl h1 (.inr hm)).mono ?_
          rintro e w' ⟨rfl, h2, h3⟩
          exact ⟨⟨_, _, _, _, _, _, rfl⟩, same w' h2, h3.mono (fun k hk _ => by rw [hk]; exact hg d (.inl rfl))⟩
        · have e : addS (some N) x = some (N ++ [x.s]) := by simp [addS, h1, hok, addN, hm]
          rw [e]
          refine (act_new d x w p N ra rc F hd hb' h1 hok hm).mono ?_
          rintro e w' ⟨he, ra', rc', F', h2, h3, h4⟩
          refine ⟨he, ⟨p, ra', rc', F', h2, fun k hk => ?_⟩, h3.mono (fun k hk _ => hg k hk)⟩
          rcases h4 k hk with h5 | h5
          · exact .inl (hg k h5)
          · exact .inr ⟨h5, h2.flt k hk⟩
      · have hf : nameOk x.s = false := by simpa using hok
        have e : addS (some N) x = some N := by simp [addS, hf]
        rw [e]
        refine (act_same d x w p N ra rc F hd hb' hl h1 (.inl hf)).mono ?_
        rintro e w' ⟨rfl, h2, h3⟩
        exact ⟨⟨_, _, _, _, _, _, rfl⟩, same w' h2, h3.mono (fun k hk _ => by rw [hk]; exact hg d (.inl rfl))⟩
    · have e : addS (some N) x = some N := by simp [addS, h1]
      rw [e]
      by_cases h2 : x.k = 2
      · refine (act_at d x w p N ra rc F hd hb' h2).mono ?_
        rintro e w' ⟨rfl, ho⟩
        exact ⟨⟨_, _, _, _, _, _, rfl⟩, same w' (hd.out ho), Chg.of_out ho⟩
      by_cases h3 : x.k = 3
      · refine (act_names d x w p N ra rc F hd hb' h3).mono ?_
        rintro e w' ⟨a, c, rfl, _, ho⟩
        exact ⟨⟨_, _, _, _, _, _, rfl⟩, same w' (hd.out ho), Chg.of_out ho⟩
      by_cases h4 : x.k = 4
      · refine (act_bytes d x w p N ra rc F hd hb' h4).mono ?_
        rintro e w' ⟨a, c, rfl, _, ho⟩
        exact ⟨⟨_, _, _, _, _, _, rfl⟩, same w' (hd.out ho), Chg.of_out ho⟩
      refine (act_other d x w p N ra rc F hd hb' h1 h2 h3 h4).mono ?_
      rintro e w' ⟨rfl, ho⟩
      exact ⟨⟨_, _, _, _, _, _, rfl⟩, same w' (hd.out ho), Chg.of_out ho⟩
/-- a new desk -/
theorem Dk.new {X : World} {p : Nat} {N : List (List UInt8)} {ra : Option Addr} {rc : Nat} {F : Nat → Prop} (ht : Tab p X N F) (ho : OwS 0 (.slice ra N.length rc) N X) (hr : ∀ k, (Value.slice ra N.length rc).ownBlock = some k → ¬ F k) (hl : ∀ k, F k → k < X.heap.size) :
    Dk X.heap.size (X.alloc (.cells #[.pointer (some ⟨p, 0, none⟩), .slice ra N.length rc] 68 (0, 0))) p N ra rc F := by
  have o : Out X (X.alloc (.cells #[.pointer (some ⟨p, 0, none⟩), .slice ra N.length rc] 68 (0, 0))) := (Out.refl X).alloc _
  exact ⟨heap_alloc_new _ _, ht.out o, ho.out o, fun hf => by have := hl _ hf; omega, hr, fun k hk => Nat.lt_of_lt_of_le (hl k hk) o.size⟩
theorem open_fp {w w3 X X' : World} {d p : Nat} {N : List (List UInt8)} {ra : Option Addr} {rc : Nat} {Y : World} (hX : Dk d X' p N ra rc (FN (fun _ => False) w3 Y)) (ho : OwS w.heap.size (.slice ra N.length rc) N X) (hs : w.heap.size ≤ w3.heap.size) (hd : w.heap.size ≤ d) {k : Nat} (hk : dkF d ra (FN (fun _ => False) w3 Y) k) : w.heap.size ≤ k ∧ k < X'.heap.size := by
  refine ⟨?_, hX.flt k hk⟩
  rcases hk with hk | hk | hk
  · omega
  · exact (ho.lt k (by rw [ob_len (n' := 0) (c' := 0)]; exact hk)).1
  · have := (hk.resolve_left id).1; omega
/-- what open leaves -/
def OEnd (w : World) (e : Ending) (w' : World) : Prop := ∃ d S, e = .returned (.tuple #[.pointer (some ⟨d, 0, none⟩), .bool true]) ∧ DS d w' S (FN (fun _ => False) w w') ∧ Out w w'
set_option maxRecDepth 20000 in
set_option maxHeartbeats 2000000 in
theorem open_empty (a : Option Addr) (c : Nat) (w : World) : Calls Try.prog 7 #[.slice a 0 c] w fun e w' => e = .returned (.tuple #[.pointer (some ⟨w.heap.size + 1, 0, none⟩), .bool true]) ∧ DS (w.heap.size + 1) w' (some []) (FN (fun _ => False) w w') ∧ Out w w' := by
  have HN := hidOf (new_any w)
  have HT := hidOf (new_tab w)
  go_enter Try.func7, Try.ntmps7
  go_wp2_with (go_at_call 18; refine (HN.out).mono ?_; rintro e w2 ⟨rfl, rfl⟩)
  go_ret2
  have hX := Dk.new (ra := none) (rc := 0) HT.out (World.ownsRow_nil _ _ _ _) (fun k hk => by cases hk) (fun k hk => by rw [hk, size_alloc]; omega)
  rw [size_alloc] at hX
  refine ⟨rfl, ⟨_, none, 0, _, hX, fun k hk => .inr ?_⟩, ((Out.refl w).alloc _).alloc _⟩
  have h1 := hX.flt k hk
  refine ⟨?_, h1⟩
  rcases hk with hk | hk | hk
  · omega
  · cases hk
  · omega
set_option maxRecDepth 20000 in
set_option maxHeartbeats 800000 in
theorem open_full (a : Option Addr) (c : Nat) (l : List UInt8) (w : World) (hr : RestAt w.heap.size w a l) (hc : l.length ≤ c) (hl : l.length ≤ 100000000000) (h0 : ¬ l = []) : Calls Try.prog 7 #[.slice a l.length c] w fun e w' => ∃ d S, e = .returned (.tuple #[.pointer (some ⟨d, 0, none⟩), .bool true]) ∧ DS d w' S (FN (fun _ => False) w w') ∧ szS S ≤ l.length ∧ Out w w' := by
  have CC := hidOf (copyBytes_any w a c l hr (by omega))
  have HR := hidOf hr
  have hl12 : l.length ≤ 1000000000000 := by omega
  have hz : ((l.length : Int) == 0) = false := by
    have : 0 < l.length := List.length_pos_iff.2 h0
    simp; omega
  obtain ⟨n, hn⟩ : ∃ n, n = l.length := ⟨_, rfl⟩
  have Hn := hidOf hn
  rw [← hn] at CC hz ⊢
  clear hr h0 hn
  cases hrd : (rdP l).1 with
  | none =>
    have Hrd := hidOf hrd
    obtain ⟨q, hq⟩ : ∃ q, q = (rdP l).2 := ⟨_, rfl⟩
    have Hq := hidOf hq
    have CR : Hid (∀ wx b cp, RestAt wx.heap.size wx b l → l.length ≤ cp → Calls Try.prog 24 #[.slice b n cp] wx fun e w' => e = .returned (.tuple #[.agg #[.slice none 0 0], .int .i64 q, .int .i64 80]) ∧ Out wx w') := fun wx b cp h1 h2 => by
      rw [Hn.out]
      exact (rread_any b cp l wx h1 h2 hl12).mono (fun e w' h => by
        obtain ⟨h1, h | ⟨N, _, _, h, _⟩⟩ := h
        · exact ⟨by rw [h.2, Hq.out], h1⟩
        · rw [Hrd.out] at h; cases h)
    have CT : Hid (∀ wx b cp, RestAt wx.heap.size wx b l → l.length ≤ cp → Calls Try.prog 21 #[.slice b n cp] wx fun e w' => e = .returned (.tuple #[.pointer none, .int .i64 q, .int .i64 80]) ∧ Out wx w') := fun wx b cp h1 h2 => by
      rw [Hn.out]
      exact (read_any b cp l wx h1 h2 hl12).mono (fun e w' h => by
        obtain ⟨h1, h | ⟨N, _, h, _⟩⟩ := h
        · exact ⟨by rw [h.2, Hq.out], h1⟩
        · rw [Hrd.out] at h; cases h)
    clear hrd hq
    go_enter Try.func7, Try.ntmps7
    go_upto_region 5 with (first | (go_at_call 25; refine CC.out.mono ?_; rintro e w1 ⟨v1, rfl, hown, ho⟩; have P1 := hidOf ho; obtain ⟨b1, c1, hv, hc1, hr1⟩ := OwB.rest hown; rw [← Hn.out] at hv; subst hv; have R1 := hidOf hr1; have HC1 := hidOf hc1; clear hown ho hr1 hc1) | (go_at_call 24; refine (CR.out w1 b1 c1 R1.out HC1.out).mono ?_; rintro e w2 ⟨rfl, ho⟩; have P2 := hidOf (Out.trans P1.out ho); clear ho))
    have X2 : Hid (BoxT (w2.alloc (.cells #[.slice none 0 0] 66)) w2.heap.size (.slice none 0 0)) := heap_alloc_new _ _
    have P2a := hidOf (P2.out.alloc (.cells #[.slice none 0 0] 66))
    generalize w2.heap.size = bx at *
    generalize w2.alloc (.cells #[.slice none 0 0] 66) = w3 at *
    have R3 := hidOf (HR.out.more P2a.out)
    go_upto_region 6 with (go_at_call 21; refine (CT.out w3 _ _ R3.out hc).mono ?_; rintro e w4 ⟨rfl, ho⟩; have P4 := hidOf ho; clear ho)
    have x4 := (X2.out.out P4.out).cell
    have x4' : ∀ O, (w4.alloc O).cell? ⟨bx, 0, none⟩ = some (.slice none 0 0) := fun O => cell_later ((Out.refl w4).alloc O) x4
    have CNm := hidOf (fun wx => num_any 80 wx)
    go_region_held3 (fun w' => w'.cell? ⟨bx, 0, none⟩ = some (.slice none 0 0)) (first | exact x4 | exact x4' _ | go_keep) (first | (go_at_call 26; refine (CNm.out _).mono ?_; rintro e w7 ⟨rfl, hw⟩; subst hw))
    all_goals
      have O4 := hidOf (P2a.out.trans P4.out)
      go_wp2
      go_ret2
    all_goals first
      | exact ⟨w4.heap.size, none, rfl, ⟨heap_alloc_new w4 _, .inr ⟨O4.out.size, by show w4.heap.size < (w4.alloc _).heap.size; rw [size_alloc]; omega⟩⟩, Nat.zero_le _, (O4.out.alloc _).drew⟩
      | exact ⟨w4.heap.size, none, rfl, ⟨heap_alloc_new w4.drew _, .inr ⟨O4.out.size, by show w4.drew.heap.size < (w4.drew.alloc _).heap.size; rw [size_alloc]; omega⟩⟩, Nat.zero_le _, O4.out.drew.alloc _⟩
  | some N =>
    have Hrd := hidOf hrd
    have hby := rd_whole hrd
    have hszl : szF 1 N = n := by rw [← byP_len, hby, Hn.out]
    have Hsl := hidOf hszl
    have CR : Hid (∀ wx b cp, RestAt wx.heap.size wx b l → l.length ≤ cp → Calls Try.prog 24 #[.slice b n cp] wx fun e w' => ∃ ra rc, e = .returned (.tuple #[.agg #[.slice ra N.length rc], .int .i64 0, .int .i64 0]) ∧ OwS wx.heap.size (.slice ra N.length rc) N w' ∧ Out wx w') := fun wx b cp h1 h2 => by
      rw [Hn.out]
      exact (rread_any b cp l wx h1 h2 hl12).mono (fun e w' h => by
        obtain ⟨h1, h | ⟨N', ra, rc, h, he, hw⟩⟩ := h
        · rw [Hrd.out] at h; cases h.1
        · rw [Hrd.out] at h
          cases h
          exact ⟨ra, rc, he, hw, h1⟩)
    have CT : Hid (∀ wx b cp, RestAt wx.heap.size wx b l → l.length ≤ cp → Calls Try.prog 21 #[.slice b n cp] wx fun e w' => ∃ p, e = .returned (.tuple #[.pointer (some ⟨p, 0, none⟩), .int .i64 0, .int .i64 0]) ∧ Out wx w' ∧ Tab p w' N (FN (fun _ => False) wx w')) := fun wx b cp h1 h2 => by
      rw [Hn.out]
      exact (read_any b cp l wx h1 h2 hl12).mono (fun e w' h => by
        obtain ⟨h1, h | ⟨N', q, h, he, _, _, ht⟩⟩ := h
        · rw [Hrd.out] at h; cases h.1
        · rw [Hrd.out] at h
          cases h
          exact ⟨q, he, h1, ht⟩)
    clear hrd hby hszl
    go_enter Try.func7, Try.ntmps7
    go_upto_region 5 with (first | (go_at_call 25; refine CC.out.mono ?_; rintro e w1 ⟨v1, rfl, hown, ho⟩; have P1 := hidOf ho; obtain ⟨b1, c1, hv, hc1, hr1⟩ := OwB.rest hown; rw [← Hn.out] at hv; subst hv; have R1 := hidOf hr1; have HC1 := hidOf hc1; clear hown ho hr1 hc1) | (go_at_call 24; refine (CR.out w1 b1 c1 R1.out HC1.out).mono ?_; rintro e w2 ⟨ra, rc, rfl, hown, ho⟩; have P2 := hidOf (Out.trans P1.out ho); have W2 := hidOf (owns_base hown P1.out.size); clear ho hown))
    have X2 : Hid (BoxT (w2.alloc (.cells #[.slice ra N.length rc] 66)) w2.heap.size (.slice ra N.length rc)) := heap_alloc_new _ _
    have P2a := hidOf (P2.out.alloc (.cells #[.slice ra N.length rc] 66))
    have W2a : Hid (OwS w.heap.size (.slice ra N.length rc) N (w2.alloc (.cells #[.slice ra N.length rc] 66))) := hidOf (OwS.out W2.out ((Out.refl w2).alloc _))
    generalize w2.heap.size = bx at *
    generalize w2.alloc (.cells #[.slice ra N.length rc] 66) = w3 at *
    have R3 := hidOf (HR.out.more P2a.out)
    go_upto_region 6 with (go_at_call 21; refine (CT.out w3 _ _ R3.out hc).mono ?_; rintro e w4 ⟨p, rfl, ho, ht⟩; have P4 := hidOf ho; have T4 := hidOf ht; clear ho ht)
    have x4 := (X2.out.out P4.out).cell
    have x4' : ∀ O, (w4.alloc O).cell? ⟨bx, 0, none⟩ = some (.slice ra N.length rc) := fun O => cell_later ((Out.refl w4).alloc O) x4
    have CNm := hidOf (fun wx => num_any 0 wx)
    go_region_held3 (fun w' => w'.cell? ⟨bx, 0, none⟩ = some (.slice ra N.length rc)) (first | exact x4 | exact x4' _ | go_keep) (first | (go_at_call 26; refine (CNm.out _).mono ?_; rintro e w7 ⟨rfl, hw⟩; subst hw))
    all_goals
      have O4 := hidOf (P2a.out.trans P4.out)
      have W4 := hidOf (W2a.out.out P4.out)
      have hrow : ∀ k, (Value.slice ra N.length rc).ownBlock = some k → ¬ FN (fun _ => False) w3 w4 k := fun k hk hf => by
        have h1 := W2a.out.lt k hk
        rcases hf with hf | hf
        · exact hf
        · have := hf.1; omega
      have hFlt : ∀ k, FN (fun _ => False) w3 w4 k → k < w4.heap.size := fun k hk => hk.resolve_left id |>.2
      go_wp2
      go_ret2
    all_goals first
      | (have hX := Dk.new (X := w4) T4.out (owns_base W4.out (Nat.zero_le _)) hrow hFlt
         exact ⟨w4.heap.size, some N, rfl, ⟨p, ra, rc, _, hX.out ((Out.refl _).drew), fun k hk => .inr (open_fp hX W4.out P2a.out.size O4.out.size hk)⟩, by show szF 1 N ≤ n; rw [Hsl.out]; exact Nat.le_refl _, (O4.out.alloc _).drew⟩)
      | (have hX := Dk.new (X := w4.drew) (T4.out.out ((Out.refl w4).drew)) (owns_base (W4.out.out ((Out.refl w4).drew)) (Nat.zero_le _)) hrow hFlt
         exact ⟨w4.heap.size, some N, rfl, ⟨p, ra, rc, _, hX, fun k hk => .inr (open_fp hX (W4.out.out ((Out.refl w4).drew)) P2a.out.size O4.out.size hk)⟩, by show szF 1 N ≤ n; rw [Hsl.out]; exact Nat.le_refl _, O4.out.drew.alloc _⟩)
end Go.Proofs.Ytgakmbeooobhjaa
