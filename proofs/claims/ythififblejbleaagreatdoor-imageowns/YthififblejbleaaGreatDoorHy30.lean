import Derived.Test.YthififblejbleaaGreatDoorHy29
namespace Go.Proofs.YthififblejbleaaGreatDoor
open Go.RowKit
open Go.Maps (Keyed)
set_option linter.unusedVariables false
set_option linter.unusedSimpArgs false
structure AS (w0 w : World) (a : Option Addr) (n c : Nat) : Prop where
  b0 : w.heap[w0.heap.size]? = some (tabO a n c)
  b1 : w.heap[w0.heap.size + 1]? = some nilO
  out : Out w0 w
theorem AS.lt {w0 w : World} {a : Option Addr} {n c : Nat} (h : AS w0 w a n c) : w0.heap.size + 2 ≤ w.heap.size := by
  have := (Array.getElem?_eq_some_iff.1 h.b1).1; omega
theorem AS.more {w0 w w' : World} {a : Option Addr} {n c : Nat} (h : AS w0 w a n c) (o : Out w w') : AS w0 w' a n c := by
  have := h.lt
  exact ⟨(o.block _ (by omega)).trans h.b0, (o.block _ (by omega)).trans h.b1, h.out.trans o⟩
theorem AS.c0 {w0 w : World} {a : Option Addr} {n c : Nat} (h : AS w0 w a n c) : w.cell? ⟨w0.heap.size, 0, none⟩ = some (.slice a n c) := by simp [World.cell?, h.b0, tabO]
theorem AS.c1 {w0 w : World} {a : Option Addr} {n c : Nat} (h : AS w0 w a n c) : w.cell? ⟨w0.heap.size + 1, 0, none⟩ = some (.slice none 0 0) := by simp [World.cell?, h.b1, nilO, tabO]
theorem AS.f1 {w0 w : World} {a : Option Addr} {n c : Nat} (h : AS w0 w a n c) : w.frozen? ⟨w0.heap.size + 1, 0, none⟩ = false := by simp [World.frozen?, h.b1, nilO, tabO]
theorem AS.start (w : World) (a : Option Addr) (n c : Nat) : AS w ((w.alloc (tabO a n c)).alloc nilO) a n c := by
  have s1 := size_alloc w (tabO a n c)
  have o2 : Out (w.alloc (tabO a n c)) ((w.alloc (tabO a n c)).alloc nilO) := (Out.refl _).alloc _
  refine ⟨?_, ?_, ((Out.refl w).alloc _).alloc _⟩
  · rw [o2.block _ (by rw [s1]; omega)]; exact heap_alloc_new _ _
  · rw [← s1]; exact heap_alloc_new _ _
set_option maxRecDepth 20000 in
set_option maxHeartbeats 2000000 in
theorem radd_old (a : Option Addr) (c : Nat) (N : List (List UInt8)) (x : List UInt8) (w : World) (h : RT w a N) (hc : N.length ≤ c) (hb : szF 1 N ≤ 1000000000000) (hx : nameOk x = true) (hm : x ∈ N) : Calls Tryz.prog 48 #[.agg #[.slice a N.length c], .string ⟨x.toArray⟩] w fun e w' => e = .returned (.tuple #[.agg #[.slice a N.length c], .int .i64 (plF 1 N x : Nat), .int .i64 0]) ∧ Out w w' := by
  have hl := name_len hx
  have HN := hidOf (fun w => named_any x w (by omega))
  rw [hx] at HN
  have HS := hidOf (AS.start w a N.length c)
  have hpp := (plF_zero N 1 x (Nat.le_refl _)).1 hm
  have HP := hidOf (place_any a c N x _ (h.out HS.out.out) hc hb)
  generalize plF 1 N x = pp at *
  have hppI : (0 : Int) < pp := by omega
  clear h hm hpp
  go_enter Tryz.func48, Tryz.ntmps48
  go_upto_region 1 with fail
  show Code.wp _ _ _ _ ((w.alloc (tabO a N.length c)).alloc nilO)
  generalize (w.alloc (tabO a N.length c)).alloc nilO = w1 at *
  have c0 := HS.out.c0
  go_upto_region 5 with (first | (go_at_call 60; refine (HN.out _).mono ?_; rintro e w2 ⟨rfl, hw1⟩; subst hw1) | (go_at_call 61; refine (HP.out).mono ?_; rintro e w3 ⟨rfl, ho⟩; have HS3 := hidOf (HS.out.more ho); clear ho))
  have d0 := HS3.out.c0
  have d1 := HS3.out.c1
  have e1 := HS3.out.f1
  go_wp2
  refine bodyPost_ret (results_cell3s rfl _ _ (w.heap.size + 1) 58 _ (0, 0) _ rfl (set_tab HS3.out.b1) Tryz.underlying58 rfl sizeT) rfl ?_
  exact ⟨rfl, Chg.out (chg_set _ (w.heap.size + 1) _) HS3.out.out (fun k hk => by omega)⟩
structure CS (w0 w : World) (a : Option Addr) (n c h : Nat) (v : Value) (M : List (List UInt8)) : Prop where
  st : AS w0 w a n c
  b2 : w.heap[h]? = some (.cells #[v] 58 (0, 0))
  hh : w0.heap.size + 2 ≤ h
  own : w.ownsRow (h + 1) 9 1 v M.length (M.map strV)
theorem CS.lt {w0 w : World} {a : Option Addr} {n c h : Nat} {v : Value} {M : List (List UInt8)} (s : CS w0 w a n c h v M) : h < w.heap.size := (Array.getElem?_eq_some_iff.1 s.b2).1
theorem CS.c2 {w0 w : World} {a : Option Addr} {n c h : Nat} {v : Value} {M : List (List UInt8)} (s : CS w0 w a n c h v M) : w.cell? ⟨h, 0, none⟩ = some v := by simp [World.cell?, s.b2]
theorem CS.f2 {w0 w : World} {a : Option Addr} {n c h : Nat} {v : Value} {M : List (List UInt8)} (s : CS w0 w a n c h v M) : w.frozen? ⟨h, 0, none⟩ = false := by simp [World.frozen?, s.b2]
theorem CS.more {w0 w w' : World} {a : Option Addr} {n c h : Nat} {v : Value} {M : List (List UInt8)} (s : CS w0 w a n c h v M) (o : Out w w') : CS w0 w' a n c h v M :=
  ⟨s.st.more o, (o.block _ s.lt).trans s.b2, s.hh, owns_chg (S := fun _ => False) s.own (fun _ _ h => h) (Chg.of_out o)⟩
theorem CS.keep {w0 X w' : World} {a : Option Addr} {n c h : Nat} {v : Value} {M : List (List UInt8)} (s : CS w0 X a n c h v M) (hg : X.grownBy w' v.ownBlock) : w'.frozen? ⟨h, 0, none⟩ = false ∧ w'.cell? ⟨h, 0, none⟩ = some v := by
  have hne : ¬ some h = v.ownBlock := fun e => by have := (s.own.lt _ e.symm).1; omega
  exact ⟨(hg.frozen_far ⟨h, 0, none⟩ s.lt hne).trans s.f2, (hg.cell_far ⟨h, 0, none⟩ s.lt hne).trans s.c2⟩
theorem CS.push {w0 X w' : World} {a : Option Addr} {n c h : Nat} {v v' : Value} {M M' : List (List UInt8)} (s : CS w0 X a n c h v M) (hg : X.grownBy w' v.ownBlock) (ho : w'.ownsRow (h + 1) 9 1 v' M'.length (M'.map strV)) : CS w0 (w'.setCell ⟨h, 0, none⟩ v') a n c h v' M' := by
  have hlt := s.lt
  have hh := s.hh
  have hc : Chg (fun k => v.ownBlock = some k) X w' := Chg.of_grown hg (fun k hk => hk)
  have hge : ∀ k, v.ownBlock = some k → h + 1 ≤ k := fun k hk => (s.own.lt k hk).1
  have c2 := chg_set w' h v'
  have e2 : w'.heap[h]? = some (.cells #[v] 58 (0, 0)) := (hc.block _ hlt (fun hk => by have := hge _ hk; omega)).trans s.b2
  have hs := hc.size
  refine ⟨⟨?_, ?_, ?_⟩, ?_, hh, owns_chg ho (fun k hk e => by have := (ho.lt k hk).1; omega) c2⟩
  · rw [c2.block _ (by omega) (by omega), hc.block _ (by omega) (fun hk => by have := hge _ hk; omega)]; exact s.st.b0
  · rw [c2.block _ (by omega) (by omega), hc.block _ (by omega) (fun hk => by have := hge _ hk; omega)]; exact s.st.b1
  · exact Chg.out c2 (Chg.out hc s.st.out (fun k hk => by have := hge k hk; omega)) (fun k hk => by omega)
  · simp [World.setCell, Array.getElem?_modify, e2]
theorem RT.news {w w' : World} {ad : Addr} {N : List (List UInt8)} (h : RT w (some ad) N) (o : Out w w') : ∀ j u, (N.map strV)[j]? = some u → w'.cell? (ad.add j) = some u := fun j u hu => by
  simp only [List.getElem?_map, Option.map_eq_some_iff] at hu
  obtain ⟨y, hy, rfl⟩ := hu
  obtain ⟨b, off, ha, hb, d⟩ := StrAt.get h hy
  cases ha
  rw [WideShapes.add_plain]
  exact cell_later o d
theorem strs_one (N : List (List UInt8)) : ∀ u ∈ N.map strV, u.oneCell' = true := fun u hu => by
  obtain ⟨y, _, rfl⟩ := List.mem_map.1 hu
  rfl
set_option maxRecDepth 20000 in
set_option maxHeartbeats 2000000 in
theorem radd_new (a : Option Addr) (c : Nat) (N : List (List UInt8)) (x : List UInt8) (w : World) (h : RT w a N) (hc : N.length ≤ c) (hb : szF 1 N ≤ 900000000000) (hx : nameOk x = true) (hm : ¬ x ∈ N) : Calls Tryz.prog 48 #[.agg #[.slice a N.length c], .string ⟨x.toArray⟩] w fun e w' => ∃ a' c', e = .returned (.tuple #[.agg #[.slice a' (N.length + 1) c'], .int .i64 (szF 1 N : Nat), .int .i64 0]) ∧ OwS w.heap.size (.slice a' (N ++ [x]).length c') (N ++ [x]) w' ∧ Out w w' := by
  obtain ⟨i0, hi, hz0, hz1, hz2⟩ := info_parts infoStr
  have hl := name_len hx
  have HN := hidOf (fun w => named_any x w (by omega))
  rw [hx] at HN
  have HS := hidOf (AS.start w a N.length c)
  have hpp : plF 1 N x = 0 := by
    have := plF_zero N 1 x (Nat.le_refl _)
    have : ¬ 0 < plF 1 N x := fun h => hm (this.2 h)
    omega
  have HP := hidOf (place_any a c N x _ (h.out HS.out.out) hc (by omega))
  rw [hpp] at HP
  have Hpl := hidOf (plF_new hm)
  have HRT := hidOf h
  have hn := szF_ge N 1
  have hN9 : N.length ≤ 1000000000000 := by omega
  have Hb := hidOf hb
  clear h hm hpp hn hb
  go_enter Tryz.func48, Tryz.ntmps48
  go_upto_region 1 with fail
  show Code.wp _ _ _ _ ((w.alloc (tabO a N.length c)).alloc nilO)
  generalize (w.alloc (tabO a N.length c)).alloc nilO = w1 at *
  have c0 := HS.out.c0
  go_upto_region 7 with (first | (go_at_call 60; refine (HN.out _).mono ?_; rintro e w2 ⟨rfl, hw1⟩; subst hw1) | (go_at_call 61; refine (HP.out).mono ?_; rintro e w3 ⟨rfl, ho⟩; have HS3 := hidOf (HS.out.more ho); clear ho))
  go_upto_region 8 with fail
  have HC : Hid (CS w (w3.alloc nilO) a N.length c w3.heap.size (.slice none 0 0) []) := hidOf ⟨HS3.out.more ((Out.refl _).alloc _), heap_alloc_new _ _, HS3.out.lt, World.ownsRow_nil _ _ _ _⟩
  have HRT3 := hidOf (HRT.out.out (HS3.out.out.alloc nilO))
  show Code.wp _ _ _ _ (w3.alloc nilO)
  generalize w3.alloc nilO = w4 at *
  generalize w3.heap.size = h at *
  clear HS HP HN c0 HS3
  have q0 := HC.out.st.c0
  have q2 := HC.out.c2
  have g2 := HC.out.f2
  have hsz4 := HC.out.lt
  by_cases hN0 : N = []
  · subst hN0
    simp only [List.length_nil] at *
    cases a with
    | none =>
      go_upto_region 9 with fail
      have HC6 := hidOf (HC.out.push (M' := []) (World.grownBy.refl _ _) (World.ownsRow_nil _ _ _ _))
      clear q0 q2 g2 HC
      generalize w4.setCell ⟨h, 0, none⟩ (.slice none 0 0) = w6 at *
      have q6 := HC6.out.c2
      have q6' : ∀ O, (w6.alloc O).cell? ⟨h, 0, none⟩ = some (.slice none 0 0) := fun O => (HC6.out.more ((Out.refl w6).alloc O)).c2
      have hsz6 := HC6.out.lt
      go_upto_region 10 with (at_builtin; refine wpList_append_lies _ rfl (.tmp 29) (.tmp 31) 56 rfl (h + 1) 9 i0 _ 1 16 Tryz.underlying56 hi hz0 hz1 hz2 rfl (by decide) (.slice none 0 0) 0 ([] : List Value) rfl (HC6.out.more ((Out.refl w6).alloc _)).own ⟨w6.heap.size, 0, none⟩ 1 1 [.string ⟨x.toArray⟩] rfl rfl (news_new w6 _ _ _ rfl) (str_one x) (by decide) (by unfold maxLen; omega) (by omega) (by rw [size_alloc]; omega) _ rfl ?_; intro g7 cap7 w7 hown7 hgrow7 _ _; have HO7 := hidOf hown7; have HG7 := hidOf hgrow7; obtain ⟨f7, q7⟩ := CS.keep (HC6.out.more ((Out.refl w6).alloc _)) hgrow7; clear hown7 hgrow7)
      have HC8 := hidOf ((HC6.out.more ((Out.refl w6).alloc _)).push (M' := [] ++ [x]) HG7.out (by rw [snoc_one [] x, List.map_append]; exact HO7.out))
      clear HO7 HG7 f7 q7 q6 q6' HC6
      generalize w7.setCell ⟨h, 0, none⟩ (.slice (some ⟨g7, 0, none⟩) (0 + 1) cap7) = w8 at *
      have q8 := HC8.out.c2
      have q1 := HC8.out.st.c1
      have g1 := HC8.out.st.f1
      have HP8 : Hid (∀ wx, Chg (fun k => k = w.heap.size + 1) w8 wx → Calls Tryz.prog 61 #[.agg #[.slice (some ⟨g7, 0, none⟩) (0 + 1) cap7], .string ⟨x.toArray⟩] wx fun e w' => e = .returned (.int .i64 (szF 1 [] : Nat)) ∧ Out wx w' ∧ w'.cell? ⟨w.heap.size + 1, 0, none⟩ = wx.cell? ⟨w.heap.size + 1, 0, none⟩ ∧ w'.frozen? ⟨w.heap.size + 1, 0, none⟩ = wx.frozen? ⟨w.heap.size + 1, 0, none⟩ ∧ w'.cell? ⟨h, 0, none⟩ = wx.cell? ⟨h, 0, none⟩) := hidOf (fun wx hcx => by
        have ho : OwS (h + 1) (.slice (some ⟨g7, 0, none⟩) ([] ++ [x]).length cap7) ([] ++ [x]) w8 := by
          have := HC8.out.own
          unfold OwS
          rw [snoc_one [] x] at this ⊢
          exact this
        have ho' : OwS (h + 1) (.slice (some ⟨g7, 0, none⟩) ([] ++ [x]).length cap7) ([] ++ [x]) wx := owns_chg ho (fun k hk e => by have := (ho.lt k hk).1; have := HC8.out.hh; omega) hcx
        have := place_any (some ⟨g7, 0, none⟩) cap7 ([] ++ [x]) x wx ho'.rt.1 ho'.rt.2 (by rw [szF_snoc]; have := Hb.out; omega)
        rw [Hpl.out, snoc_one [] x] at this
        refine this.mono ?_
        rintro e w' ⟨he, ho⟩
        have hlt : w.heap.size + 1 < wx.heap.size := by have := HC8.out.st.lt; have := hcx.size; omega
        exact ⟨he, ho, World.cell?_of_block (ho.block _ hlt), World.frozen?_of_block (ho.block _ hlt), World.cell?_of_block (ho.block _ (by have := HC8.out.lt; have := hcx.size; show h < _; omega))⟩)
      go_region_with (go_at_call 61; refine (HP8.out _ (by repeat (first | exact Chg.refl _ _ | apply Chg.drew | exact chg_set _ _ _))).mono ?_; rintro e w9 ⟨rfl, ho9, c9, f9, r9⟩; have Ho9 := hidOf ho9; clear ho9)
      all_goals
        have HC9 := hidOf (HC8.out.more (((Out.refl w8).drew).trans Ho9.out))
        go_wp2
        refine bodyPost_ret (results_cell3s rfl _ _ (w.heap.size + 1) 58 _ (0, 0) _ rfl (set_tab HC9.out.st.b1) Tryz.underlying58 rfl sizeT) rfl ?_
        have k9 := chg_set w9 (w.heap.size + 1) (.slice (some ⟨g7, 0, none⟩) (0 + 1) cap7)
        refine ⟨_, _, rfl, ?_, Chg.out k9 HC9.out.st.out (fun k hk => by omega)⟩
        have ho := HC9.out.own
        have h2 := HC9.out.hh
        refine owns_base (B := h + 1) ?_ (by omega)
        rw [snoc_one [] x] at ho ⊢
        exact owns_chg ho (fun k hk e => by have := (ho.lt k hk).1; omega) k9
    | some ad =>
      go_upto_region 9 with fail
      have HC6 := hidOf (HC.out.push (M' := []) (World.grownBy.refl _ _) (World.ownsRow_nil _ _ _ _))
      clear q0 q2 g2 HC
      generalize w4.setCell ⟨h, 0, none⟩ (.slice none 0 0) = w6 at *
      have q6 := HC6.out.c2
      have q6' : ∀ O, (w6.alloc O).cell? ⟨h, 0, none⟩ = some (.slice none 0 0) := fun O => (HC6.out.more ((Out.refl w6).alloc O)).c2
      have hsz6 := HC6.out.lt
      go_upto_region 10 with (at_builtin; refine wpList_append_lies _ rfl (.tmp 29) (.tmp 31) 56 rfl (h + 1) 9 i0 _ 1 16 Tryz.underlying56 hi hz0 hz1 hz2 rfl (by decide) (.slice none 0 0) 0 ([] : List Value) rfl (HC6.out.more ((Out.refl w6).alloc _)).own ⟨w6.heap.size, 0, none⟩ 1 1 [.string ⟨x.toArray⟩] rfl rfl (news_new w6 _ _ _ rfl) (str_one x) (by decide) (by unfold maxLen; omega) (by omega) (by rw [size_alloc]; omega) _ rfl ?_; intro g7 cap7 w7 hown7 hgrow7 _ _; have HO7 := hidOf hown7; have HG7 := hidOf hgrow7; obtain ⟨f7, q7⟩ := CS.keep (HC6.out.more ((Out.refl w6).alloc _)) hgrow7; clear hown7 hgrow7)
      have HC8 := hidOf ((HC6.out.more ((Out.refl w6).alloc _)).push (M' := [] ++ [x]) HG7.out (by rw [snoc_one [] x, List.map_append]; exact HO7.out))
      clear HO7 HG7 f7 q7 q6 q6' HC6
      generalize w7.setCell ⟨h, 0, none⟩ (.slice (some ⟨g7, 0, none⟩) (0 + 1) cap7) = w8 at *
      have q8 := HC8.out.c2
      have q1 := HC8.out.st.c1
      have g1 := HC8.out.st.f1
      have HP8 : Hid (∀ wx, Chg (fun k => k = w.heap.size + 1) w8 wx → Calls Tryz.prog 61 #[.agg #[.slice (some ⟨g7, 0, none⟩) (0 + 1) cap7], .string ⟨x.toArray⟩] wx fun e w' => e = .returned (.int .i64 (szF 1 [] : Nat)) ∧ Out wx w' ∧ w'.cell? ⟨w.heap.size + 1, 0, none⟩ = wx.cell? ⟨w.heap.size + 1, 0, none⟩ ∧ w'.frozen? ⟨w.heap.size + 1, 0, none⟩ = wx.frozen? ⟨w.heap.size + 1, 0, none⟩ ∧ w'.cell? ⟨h, 0, none⟩ = wx.cell? ⟨h, 0, none⟩) := hidOf (fun wx hcx => by
        have ho : OwS (h + 1) (.slice (some ⟨g7, 0, none⟩) ([] ++ [x]).length cap7) ([] ++ [x]) w8 := by
          have := HC8.out.own
          unfold OwS
          rw [snoc_one [] x] at this ⊢
          exact this
        have ho' : OwS (h + 1) (.slice (some ⟨g7, 0, none⟩) ([] ++ [x]).length cap7) ([] ++ [x]) wx := owns_chg ho (fun k hk e => by have := (ho.lt k hk).1; have := HC8.out.hh; omega) hcx
        have := place_any (some ⟨g7, 0, none⟩) cap7 ([] ++ [x]) x wx ho'.rt.1 ho'.rt.2 (by rw [szF_snoc]; have := Hb.out; omega)
        rw [Hpl.out, snoc_one [] x] at this
        refine this.mono ?_
        rintro e w' ⟨he, ho⟩
        have hlt : w.heap.size + 1 < wx.heap.size := by have := HC8.out.st.lt; have := hcx.size; omega
        exact ⟨he, ho, World.cell?_of_block (ho.block _ hlt), World.frozen?_of_block (ho.block _ hlt), World.cell?_of_block (ho.block _ (by have := HC8.out.lt; have := hcx.size; show h < _; omega))⟩)
      go_region_with (go_at_call 61; refine (HP8.out _ (by repeat (first | exact Chg.refl _ _ | apply Chg.drew | exact chg_set _ _ _))).mono ?_; rintro e w9 ⟨rfl, ho9, c9, f9, r9⟩; have Ho9 := hidOf ho9; clear ho9)
      all_goals
        have HC9 := hidOf (HC8.out.more (((Out.refl w8).drew).trans Ho9.out))
        go_wp2
        refine bodyPost_ret (results_cell3s rfl _ _ (w.heap.size + 1) 58 _ (0, 0) _ rfl (set_tab HC9.out.st.b1) Tryz.underlying58 rfl sizeT) rfl ?_
        have k9 := chg_set w9 (w.heap.size + 1) (.slice (some ⟨g7, 0, none⟩) (0 + 1) cap7)
        refine ⟨_, _, rfl, ?_, Chg.out k9 HC9.out.st.out (fun k hk => by omega)⟩
        have ho := HC9.out.own
        have h2 := HC9.out.hh
        refine owns_base (B := h + 1) ?_ (by omega)
        rw [snoc_one [] x] at ho ⊢
        exact owns_chg ho (fun k hk e => by have := (ho.lt k hk).1; omega) k9
  · have hNp : 0 < N.length := List.length_pos_iff.2 hN0
    obtain ⟨ad, rfl⟩ : ∃ ad, a = some ad := by
      rcases HRT3.out with e | ⟨b, off, _, ha, _⟩
      · exact absurd e hN0
      · exact ⟨_, ha⟩
    have HNw := hidOf (HRT3.out.news (Out.refl _))
    clear hN0
    go_upto_region 9 with (at_builtin; refine wpList_append_lies _ rfl (.tmp 23) (.tmp 25) 56 rfl (h + 1) 9 i0 _ 1 16 Tryz.underlying56 hi hz0 hz1 hz2 rfl (by decide) (.slice none 0 0) 0 [] rfl HC.out.own ad N.length c (N.map strV) rfl (by simp) HNw.out (strs_one N) hNp (by unfold maxLen; omega) (by omega) (by omega) _ rfl ?_; intro g5 cap5 w5 hown5 hgrow5 _ _; rw [Nat.zero_add, List.nil_append] at hown5; have HO5 := hidOf hown5; have HG5 := hidOf hgrow5; obtain ⟨f5, q5⟩ := CS.keep HC.out hgrow5; clear hown5 hgrow5)
    have HC6 := hidOf (HC.out.push (M' := N) HG5.out HO5.out)
    clear HO5 HG5 f5 q5 q0 q2 g2 HNw HC
    generalize w5.setCell ⟨h, 0, none⟩ (.slice (some ⟨g5, 0, none⟩) N.length cap5) = w6 at *
    have q6 := HC6.out.c2
    have q6' : ∀ O, (w6.alloc O).cell? ⟨h, 0, none⟩ = some (.slice (some ⟨g5, 0, none⟩) N.length cap5) := fun O => (HC6.out.more ((Out.refl w6).alloc O)).c2
    have hsz6 := HC6.out.lt
    go_upto_region 10 with (at_builtin; refine wpList_append_lies _ rfl (.tmp 29) (.tmp 31) 56 rfl (h + 1) 9 i0 _ 1 16 Tryz.underlying56 hi hz0 hz1 hz2 rfl (by decide) (.slice (some ⟨g5, 0, none⟩) N.length cap5) N.length (N.map strV) rfl (HC6.out.more ((Out.refl w6).alloc _)).own ⟨w6.heap.size, 0, none⟩ 1 1 [.string ⟨x.toArray⟩] rfl rfl (news_new w6 _ _ _ rfl) (str_one x) (by decide) (by unfold maxLen; omega) (by omega) (by rw [size_alloc]; omega) _ rfl ?_; intro g7 cap7 w7 hown7 hgrow7 _ _; have HO7 := hidOf hown7; have HG7 := hidOf hgrow7; obtain ⟨f7, q7⟩ := CS.keep (HC6.out.more ((Out.refl w6).alloc _)) hgrow7; clear hown7 hgrow7)
    have HC8 := hidOf ((HC6.out.more ((Out.refl w6).alloc _)).push (M' := N ++ [x]) HG7.out (by rw [snoc_one N x, List.map_append]; exact HO7.out))
    clear HO7 HG7 f7 q7 q6 q6' HC6
    generalize w7.setCell ⟨h, 0, none⟩ (.slice (some ⟨g7, 0, none⟩) (N.length + 1) cap7) = w8 at *
    have q8 := HC8.out.c2
    have q1 := HC8.out.st.c1
    have g1 := HC8.out.st.f1
    have HP8 : Hid (∀ wx, Chg (fun k => k = w.heap.size + 1) w8 wx → Calls Tryz.prog 61 #[.agg #[.slice (some ⟨g7, 0, none⟩) (N.length + 1) cap7], .string ⟨x.toArray⟩] wx fun e w' => e = .returned (.int .i64 (szF 1 N : Nat)) ∧ Out wx w' ∧ w'.cell? ⟨w.heap.size + 1, 0, none⟩ = wx.cell? ⟨w.heap.size + 1, 0, none⟩ ∧ w'.frozen? ⟨w.heap.size + 1, 0, none⟩ = wx.frozen? ⟨w.heap.size + 1, 0, none⟩ ∧ w'.cell? ⟨h, 0, none⟩ = wx.cell? ⟨h, 0, none⟩) := hidOf (fun wx hcx => by
      have ho : OwS (h + 1) (.slice (some ⟨g7, 0, none⟩) (N ++ [x]).length cap7) (N ++ [x]) w8 := by
        have := HC8.out.own
        unfold OwS
        rw [snoc_one N x] at this ⊢
        exact this
      have ho' : OwS (h + 1) (.slice (some ⟨g7, 0, none⟩) (N ++ [x]).length cap7) (N ++ [x]) wx := owns_chg ho (fun k hk e => by have := (ho.lt k hk).1; have := HC8.out.hh; omega) hcx
      have := place_any (some ⟨g7, 0, none⟩) cap7 (N ++ [x]) x wx ho'.rt.1 ho'.rt.2 (by rw [szF_snoc]; have := Hb.out; omega)
      rw [Hpl.out, snoc_one N x] at this
      refine this.mono ?_
      rintro e w' ⟨he, ho⟩
      have hlt : w.heap.size + 1 < wx.heap.size := by have := HC8.out.st.lt; have := hcx.size; omega
      exact ⟨he, ho, World.cell?_of_block (ho.block _ hlt), World.frozen?_of_block (ho.block _ hlt), World.cell?_of_block (ho.block _ (by have := HC8.out.lt; have := hcx.size; show h < _; omega))⟩)
    go_region_with (go_at_call 61; refine (HP8.out _ (by repeat (first | exact Chg.refl _ _ | apply Chg.drew | exact chg_set _ _ _))).mono ?_; rintro e w9 ⟨rfl, ho9, c9, f9, r9⟩; have Ho9 := hidOf ho9; clear ho9)
    all_goals
      have HC9 := hidOf (HC8.out.more (((Out.refl w8).drew).trans Ho9.out))
      go_wp2
      refine bodyPost_ret (results_cell3s rfl _ _ (w.heap.size + 1) 58 _ (0, 0) _ rfl (set_tab HC9.out.st.b1) Tryz.underlying58 rfl sizeT) rfl ?_
      have k9 := chg_set w9 (w.heap.size + 1) (.slice (some ⟨g7, 0, none⟩) (N.length + 1) cap7)
      refine ⟨_, _, rfl, ?_, Chg.out k9 HC9.out.st.out (fun k hk => by omega)⟩
      have ho := HC9.out.own
      have h2 := HC9.out.hh
      refine owns_base (B := h + 1) ?_ (by omega)
      rw [snoc_one N x] at ho ⊢
      exact owns_chg ho (fun k hk e => by have := (ho.lt k hk).1; omega) k9
end Go.Proofs.YthififblejbleaaGreatDoor
