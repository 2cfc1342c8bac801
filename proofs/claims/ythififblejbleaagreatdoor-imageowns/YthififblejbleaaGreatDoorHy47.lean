import Derived.Test.YthififblejbleaaGreatDoorHy46
namespace Go.Proofs.YthififblejbleaaGreatDoor
open Go.RowKit
set_option linter.unusedVariables false
set_option linter.unusedSimpArgs false
theorem td_n {l : List UInt8} {N : List (List UInt8)} {j p nx : Nat} (h : nmT N nx (g4 l p) = none) : tdR l N (j + 1) p nx = .error p := by
  rw [tdR, h]
theorem td_ok {l : List UInt8} {N : List (List UInt8)} {j p nx ny : Nat} {x : List UInt8} (h : nmT N nx (g4 l p) = some (x, ny)) : tdR l N (j + 1) p nx = (tdR l N j (p + 20) ny).map (fun r => (⟨x, g4 l (p + 4), g4 l (p + 8), g4 l (p + 12), g4 l (p + 16)⟩ :: r.1, r.2)) := by
  rw [tdR, h]
theorem ny_le {N : List (List UInt8)} {nx pl ny : Nat} {x : List UInt8} (h : nmT N nx pl = some (x, ny)) (hx : nx ≤ (byP N).length + 1) : ny ≤ (byP N).length + 1 := by
  unfold nmT at h
  split at h
  · cases h
  · cases ha : atF 1 N (pl : Int) with
    | none => rw [ha] at h; cases h
    | some y =>
      rw [ha] at h
      simp only [Option.some.injEq, Prod.mk.injEq] at h
      have h2 := (at_bytes ha).2.1
      rw [← h.2]
      split <;> omega
def TbsE (l : List UInt8) (N : List (List UInt8)) (S F D p se : Nat) (v0 tv sv : Value) (k : Int) (w : World) (e : Ending) (w' : World) : Prop :=
  Chg (fun k => k = p) w w' ∧ ((∃ q : Nat, tdR l N D (28 + 8 * S + 16 * F) (seN se) = .error q ∧ e = .returned (.tuple #[.slice none 0 0, .int .i64 q])) ∨
  (∃ (E : List Td) (nx se' : Nat) (a : Option Addr) (c : Nat), tdR l N D (28 + 8 * S + 16 * F) (seN se) = .ok (E, nx) ∧ nx = seN se' ∧ se' ≤ 100000000000 * 2 ∧ E.length = D ∧ e = .returned (.tuple #[.slice a D c, .int .i64 (-1)]) ∧ w'.ownsRow w.heap.size 72 5 (.slice a D c) D (tdV E) ∧ RgA w' p v0 (S : Nat) (F : Nat) (D : Nat) k tv sv (se' : Nat)))
set_option maxRecDepth 8000 in
set_option maxHeartbeats 8000000 in
theorem tables_any (w : World) (p g go n c S F D sg so sn sc se0 : Nat) (l : List UInt8) (N : List (List UInt8)) (k : Int) (tv sv : Value) (hl : l.length = n) (hnc : n ≤ c) (hb : BtA w g go l) (hgp : ¬ g = p) (hS : 28 + 8 * S + 16 * F + 20 * D ≤ n) (hSb : S < 4294967296) (hFb : F < 4294967296) (hDb : D < 4294967296) (hse0 : se0 ≤ sn + 1)
    (hok : ∀ y ∈ N, nameOk y = true) (hsn : (byP N).length = sn) (hsc : sn ≤ sc) (hsb : BtA w sg so (byP N)) (hsp : ¬ sg = p) (hsnb : sn ≤ 4294967296) (h : RgA w p (.slice (some ⟨g, go, none⟩) n c) (S : Nat) (F : Nat) (D : Nat) k tv sv (se0 : Nat)) : Calls Tryz.prog 29 #[.pointer (some ⟨p, 0, none⟩), .slice (some ⟨sg, so, none⟩) sn sc] w (TbsE l N S F D p se0 (.slice (some ⟨g, go, none⟩) n c) tv sv k w) := by
  have HL := hidOf hl
  have HB := hidOf hb
  have HOK := hidOf hok
  have HSN := hidOf hsn
  have HSB := hidOf hsb
  have hp := h.lt
  have R0 := hidOf h
  clear hl hb hok hsn hsb h
  obtain ⟨i0', hi0', hz0', hz1', hz2'⟩ := info_parts infoTD
  go_enter Tryz.func29, Tryz.ntmps29
  go_wp2
  go_loopw [6, 7] (fun v i wr => ∃ (j cap se : Nat) (E : List Td) (a : Option Addr), j ≤ D ∧ v = .slice a j cap ∧ i = .int .i64 j ∧ se ≤ 100000000000 * 2 ∧ Hid (se ≤ sn + 1) ∧ Hid (E.length = j) ∧ Hid (wr.ownsRow w.heap.size 72 5 (.slice a j cap) j (tdV E)) ∧ Hid (RgA wr p (.slice (some ⟨g, go, none⟩) n c) (S : Nat) (F : Nat) (D : Nat) k tv sv (se : Nat)) ∧ Hid (Chg (fun k => k = p) w wr) ∧ Hid (tdR l N D (28 + 8 * S + 16 * F) (seN se0) = (tdR l N (D - j) (28 + 8 * S + 16 * F + 20 * j) (seN se)).map (fun r => (E ++ r.1, r.2)))) (fun _ i _ => D - (intOf i).toNat)
  case atStart => exact ⟨0, 0, se0, [], none, by omega, rfl, rfl, by omega, hidOf hse0, hidOf rfl, hidOf (World.ownsRow_nil _ _ _ _), R0, hidOf (Chg.refl _ _), hidOf (by rw [show D - 0 = D by omega, show 28 + 8 * S + 16 * F + 20 * 0 = 28 + 8 * S + 16 * F by omega]; cases tdR l N D (28 + 8 * S + 16 * F) (seN se0) <;> simp [Except.map])⟩
  case round =>
    obtain ⟨j, cap, se, E, a, hj, rfl, rfl, hseb, HSE, HDl, HOw, HR, HC, HX⟩ := hrel
    obtain ⟨c0, c1, c2, c3, c4, c5, c6, c7⟩ := HR.out.at
    by_cases hjD : j < D
    · have hlt : (j : Int) < D := by omega
      obtain ⟨q, hq⟩ : ∃ q, Hid (28 + 8 * S + 16 * F + 20 * j = q) := ⟨_, rfl⟩
      have hq1 : q + 20 ≤ n := by rw [← hq.out]; omega
      have hq2 : q ≤ 300000000000 := by rw [← hq.out]; omega
      have hDj : Hid (D - j = (D - (j + 1)) + 1) := hidOf (by omega)
      have HX2 := hidOf HX.out
      rw [hq.out, hDj.out] at HX2
      have CT : Hid (∀ wx r, BtA wx g go l → r + 4 ≤ n → Calls Tryz.prog 30 #[.slice (some ⟨g, go + r, none⟩) 4 (c - r)] wx fun e w' => e = .returned (.int .i64 (g4 l r : Nat)) ∧ wx = w') := hidOf fun wx r hbx hr => by
        have := taken_any wx g (go + r) (c - r) 4 ((l.drop r).take 4) (by rw [List.length_take, List.length_drop, HL.out]; omega) (by omega) (bt_sub hbx r 4)
        rw [tk4 (by rw [HL.out]; omega)] at this
        exact this
      clear c4 c5 c6 c7
      go_upto_region 5 with fail
      have t1 : IntKind.i64.wrap (8 * (S : Int)) = 8 * S := by rw [IntKind.wrap_i64]; omega
      have t2 : IntKind.i64.wrap (28 + 8 * (S : Int)) = 28 + 8 * S := by rw [IntKind.wrap_i64]; omega
      have t3 : IntKind.i64.wrap (16 * (F : Int)) = 16 * F := by rw [IntKind.wrap_i64]; omega
      have t4 : IntKind.i64.wrap (28 + 8 * (S : Int) + 16 * F) = 28 + 8 * S + 16 * F := by rw [IntKind.wrap_i64]; omega
      have t5 : IntKind.i64.wrap (20 * (j : Int)) = 20 * j := by rw [IntKind.wrap_i64]; omega
      have t6 : IntKind.i64.wrap (28 + 8 * (S : Int) + 16 * F + 20 * j) = 28 + 8 * S + 16 * F + 20 * j := by rw [IntKind.wrap_i64]; omega
      clear hlt c3
      go_region_held3 (fun wx => wx.cell? ⟨p, 1, none⟩ = some (.int .i64 (S : Nat)) ∧ wx.cell? ⟨p, 2, none⟩ = some (.int .i64 (F : Nat))) (go_keep) (fail)
      rw [show (28 + 8 * (S : Int) + 16 * (F : Int) + 20 * (j : Int)) = (q : Int) by rw [← hq.out]; omega]
      clear t1 t2 t3 t4 t5 t6
      obtain ⟨wd, hwd⟩ : ∃ x, Hid (x = wr.drew) := ⟨_, rfl⟩
      rw [← hwd.out]
      have OD : Hid (Out wr wd) := hidOf (by rw [hwd.out]; exact Out.drew (Out.refl _))
      have HCd := hidOf (HC.out.trans (T := fun _ => False) (Chg.of_out OD.out) (fun _ h _ => h.elim))
      have HRd := hidOf (HR.out.out OD.out)
      have BtR := hidOf (bt_chg HB.out HCd.out hgp)
      have c0 : wd.cell? ⟨p, 0, none⟩ = some (.slice (some ⟨g, go, none⟩) n c) := HRd.out.at.1
      have u0 : (q : Int) + 4 ≤ c := by omega
      have u1 : (q : Int) ≤ q + 4 := by omega
      have u2 : ((q : Int) + 4).toNat = q + 4 := by omega
      have u3 : q + 4 - q = 4 := by omega
      have u4 : ¬ c = q := by omega
      have u5 : ¬ (c : Int) = q := by omega
      have u6 : (0 : Int) ≤ q := by omega
      obtain ⟨v0, hv0⟩ : ∃ y, Hid (g4 l q = y) := ⟨_, rfl⟩
      have v0b : v0 < 4294967296 := by rw [← hv0.out]; exact g4_lt _ _
      have CN := hidOf (name_any wd p sg so sn sc v0 _ _ _ _ _ _ _ N se (by omega) HOK.out HSN.out hsc (bt_chg HSB.out HCd.out hsp) hsp (by omega) (by omega) HRd.out)
      have CT0 : Hid (Calls Tryz.prog 30 #[.slice (some ⟨g, go + q, none⟩) 4 (c - q)] wd fun e w' => e = .returned (.int .i64 (v0 : Nat)) ∧ wd = w') := hidOf (by
        have := CT.out wd q BtR.out (by omega)
        rw [hv0.out] at this; exact this)
      cases hnm : nmT N (seN se) v0 with
      | none =>
        have CN' : Hid (Calls Tryz.prog 62 #[.pointer (some ⟨p, 0, none⟩), .slice (some ⟨sg, so, none⟩) sn sc, .int .i64 v0] wd fun e w' => e = .returned (.tuple #[.string ⟨#[]⟩, .bool false]) ∧ Chg (fun k => k = p) wd w') := hidOf (CN.out.mono (fun e w' h => by
          obtain ⟨h1, ⟨_, h2⟩ | ⟨x, ny, h2, _⟩⟩ := h
          · exact ⟨h2, h1⟩
          · rw [hnm] at h2; cases h2))
        have EE : Hid (tdR l N D (28 + 8 * S + 16 * F) (seN se0) = .error q) := hidOf (by rw [HX2.out, td_n (by rw [hv0.out]; exact hnm)]; rfl)
        clear hnm CN
        go_wp2_with (first | (go_at_call 30; refine CT0.out.mono ?_; rintro e wy ⟨rfl, hy⟩; subst hy) | (go_at_call 62; refine CN'.out.mono ?_; rintro e w1 ⟨rfl, k1⟩; have K1 := hidOf k1; clear k1))
        go_ret2
        exact ⟨HCd.out.trans K1.out (fun _ h _ => h), .inl ⟨q, EE.out, rfl⟩⟩
      | some y =>
        obtain ⟨x, ny⟩ := y
        have CN' : Hid (Calls Tryz.prog 62 #[.pointer (some ⟨p, 0, none⟩), .slice (some ⟨sg, so, none⟩) sn sc, .int .i64 v0] wd fun e w' => e = .returned (.tuple #[.string ⟨x.toArray⟩, .bool true]) ∧ RgA w' p (.slice (some ⟨g, go, none⟩) n c) (S : Nat) (F : Nat) (D : Nat) k tv sv (ny : Nat) ∧ Chg (fun k => k = p) wd w') := hidOf (CN.out.mono (fun e w' h => by
          obtain ⟨h1, ⟨h2, _⟩ | ⟨x', ny', h2, h3, h4⟩⟩ := h
          · rw [hnm] at h2; cases h2
          · rw [hnm] at h2; cases h2; exact ⟨h3, h4, h1⟩))
        have HNM := hidOf hnm
        have hny := nmT_pos hnm
        have hnyN : Hid (ny ≤ sn + 1 ∧ seN ny = ny) := hidOf (by
          refine ⟨?_, by simp [seN]; omega⟩
          have h1 := ny_le hnm (by rw [HSN.out]; have := HSE.out; unfold seN; split <;> omega)
          rw [HSN.out] at h1; exact h1)
        clear hnm CN hny
        go_upto_region 9 with (first | (go_at_call 30; refine CT0.out.mono ?_; rintro e wy ⟨rfl, hy⟩; subst hy) | (go_at_call 62; refine CN'.out.mono ?_; rintro e w1 ⟨rfl, r1, k1⟩; have R1 := hidOf r1; have K1 := hidOf k1; clear r1 k1))
        clear c0 c1 c2 u0 u1 u2 u3 u4 u5
        obtain ⟨c0, c1, c2, c3, c4, c5, c6, c7⟩ := R1.out.at
        clear c1 c2 c3 c4 c5 c6 c7
        have KK := hidOf (HCd.out.trans K1.out (fun _ h _ => h))
        have Bt1 := hidOf (bt_chg HB.out KK.out hgp)
        have m4 : (q : Int) + 8 ≤ c := by omega
        have n4 : (q : Int) + 4 ≤ q + 8 := by omega
        have o4 : ((q : Int) + 4).toNat = q + 4 := by omega
        have p4 : q + 8 - (q + 4) = 4 := by omega
        have q4 : ¬ c = q + 4 := by omega
        have r4 : ¬ (c : Int) = (q : Int) + 4 := by omega
        have s4 : (0 : Int) ≤ (q : Int) + 4 := by omega
        have w4' : IntKind.i64.wrap ((q : Int) + 4) = (q : Int) + 4 := by rw [IntKind.wrap_i64]; omega
        have m8 : (q : Int) + 12 ≤ c := by omega
        have n8 : (q : Int) + 8 ≤ q + 12 := by omega
        have o8 : ((q : Int) + 8).toNat = q + 8 := by omega
        have p8 : q + 12 - (q + 8) = 4 := by omega
        have q8 : ¬ c = q + 8 := by omega
        have r8 : ¬ (c : Int) = (q : Int) + 8 := by omega
        have s8 : (0 : Int) ≤ (q : Int) + 8 := by omega
        have w8' : IntKind.i64.wrap ((q : Int) + 8) = (q : Int) + 8 := by rw [IntKind.wrap_i64]; omega
        have m12 : (q : Int) + 16 ≤ c := by omega
        have n12 : (q : Int) + 12 ≤ q + 16 := by omega
        have o12 : ((q : Int) + 12).toNat = q + 12 := by omega
        have p12 : q + 16 - (q + 12) = 4 := by omega
        have q12 : ¬ c = q + 12 := by omega
        have r12 : ¬ (c : Int) = (q : Int) + 12 := by omega
        have s12 : (0 : Int) ≤ (q : Int) + 12 := by omega
        have w12' : IntKind.i64.wrap ((q : Int) + 12) = (q : Int) + 12 := by rw [IntKind.wrap_i64]; omega
        have m16 : (q : Int) + 20 ≤ c := by omega
        have n16 : (q : Int) + 16 ≤ q + 20 := by omega
        have o16 : ((q : Int) + 16).toNat = q + 16 := by omega
        have p16 : q + 20 - (q + 16) = 4 := by omega
        have q16 : ¬ c = q + 16 := by omega
        have r16 : ¬ (c : Int) = (q : Int) + 16 := by omega
        have s16 : (0 : Int) ≤ (q : Int) + 16 := by omega
        have w16' : IntKind.i64.wrap ((q : Int) + 16) = (q : Int) + 16 := by rw [IntKind.wrap_i64]; omega
        have o20 : ((q : Int) + 20).toNat = q + 20 := by omega
        have w20' : IntKind.i64.wrap ((q : Int) + 20) = (q : Int) + 20 := by rw [IntKind.wrap_i64]; omega
        obtain ⟨v4, hv4⟩ : ∃ y, Hid (g4 l (q + 4) = y) := ⟨_, rfl⟩
        obtain ⟨v8, hv8⟩ : ∃ y, Hid (g4 l (q + 8) = y) := ⟨_, rfl⟩
        obtain ⟨v12, hv12⟩ : ∃ y, Hid (g4 l (q + 12) = y) := ⟨_, rfl⟩
        obtain ⟨v16, hv16⟩ : ∃ y, Hid (g4 l (q + 16) = y) := ⟨_, rfl⟩
        have CTx : Hid (∀ wx o y, Out w1 wx → ((o = 4 ∧ y = v4) ∨ (o = 8 ∧ y = v8) ∨ (o = 12 ∧ y = v12) ∨ (o = 16 ∧ y = v16)) → Calls Tryz.prog 30 #[.slice (some ⟨g, go + (q + o), none⟩) 4 (c - (q + o))] wx fun e w' => e = .returned (.int .i64 (y : Nat)) ∧ wx = w') := hidOf fun wx o y ox hy => by
          have := CT.out wx (q + o) (Bt1.out.outI ox) (by omega)
          rcases hy with ⟨rfl, rfl⟩ | ⟨rfl, rfl⟩ | ⟨rfl, rfl⟩ | ⟨rfl, rfl⟩
          · rw [hv4.out] at this; exact this
          · rw [hv8.out] at this; exact this
          · rw [hv12.out] at this; exact this
          · rw [hv16.out] at this; exact this
        have HXN : Hid (tdR l N D (28 + 8 * S + 16 * F) (seN se0) = (tdR l N (D - (j + 1)) (28 + 8 * S + 16 * F + 20 * (j + 1)) (seN ny)).map (fun r => ((E ++ [⟨x, (v4 : Nat), (v8 : Nat), (v12 : Nat), (v16 : Nat)⟩]) ++ r.1, r.2))) := hidOf (by
          rw [HX2.out, td_ok (by rw [hv0.out]; exact HNM.out), hv4.out, hv8.out, hv12.out, hv16.out, hnyN.out.2, show q + 20 = 28 + 8 * S + 16 * F + 20 * (j + 1) by rw [← hq.out]; omega]
          cases tdR l N (D - (j + 1)) (28 + 8 * S + 16 * F + 20 * (j + 1)) ny <;> simp [Except.map])
        have HNP : Hid (∀ k, (Value.slice a j cap).ownBlock = some k → w.heap.size ≤ k) := hidOf fun k hk => (HOw.out.lt k hk).1
        have OA : Hid (∀ O, (w1.alloc O).drew.ownsRow w.heap.size 72 5 (.slice a j cap) j (tdV E)) := hidOf fun O => World.ownsRow.alloc (owns_chg (owns_chg (S := fun _ => False) HOw.out (fun _ _ h => h) (Chg.of_out OD.out)) (fun k hk e => by have := HNP.out k hk; omega) K1.out) O
        have hs1 : w.heap.size ≤ w1.heap.size := KK.out.size
        have FAR : Hid (∀ O w', (w1.alloc O).drew.grownBy w' (Value.slice a j cap).ownBlock → RgA w' p (.slice (some ⟨g, go, none⟩) n c) (S : Nat) (F : Nat) (D : Nat) k tv sv (ny : Nat) ∧ Chg (fun k => k = p) w w') := hidOf fun O w' hg => by
          have hc := Chg.of_grown (S := fun k => (Value.slice a j cap).ownBlock = some k) hg (fun k hk => hk)
          refine ⟨(R1.out.out (Out.drew (Out.alloc (Out.refl _) O))).chg hc (fun h => by have := HNP.out _ h; omega), ?_⟩
          exact (KK.out.trans (T := fun _ => False) (Chg.of_out (Out.drew (Out.alloc (Out.refl _) O))) (fun _ h _ => h.elim)).trans hc (fun x h hlt => by have := HNP.out x h; omega)
        have hj2 : j ≤ 4294967296 := by omega
        clear HX HX2 HR HRd HOw CT CT0 CN' hq1 BtR
        go_region_held3 (fun wx => wx.cell? ⟨p, 0, none⟩ = some (.slice (some ⟨g, go, none⟩) n c)) (first | go_keep | assumption | exact F8.out.1.at.1) (first
          | (go_at_call 30; refine (CTx.out _ _ _ (by repeat first | with_reducible exact Out.refl _ | with_reducible apply Out.drew | with_reducible apply Out.alloc) (by first | exact .inl ⟨rfl, rfl⟩ | exact .inr (.inl ⟨rfl, rfl⟩) | exact .inr (.inr (.inl ⟨rfl, rfl⟩)) | exact .inr (.inr (.inr ⟨rfl, rfl⟩)))).mono ?_; rintro e wy ⟨rfl, hy⟩; subst hy)
          | (refine step_append_lies _ rfl (.tmp 52) (.tmp 95) 24 rfl w.heap.size 72 i0' _ 5 48 Tryz.underlying24 hi0' hz0' hz1' hz2' rfl (by decide) (.slice a j cap) j (tdV E) rfl (OA.out _) ⟨w1.heap.size, 0, none⟩ 1 1 (Td.cs ⟨x, (v4 : Nat), (v8 : Nat), (v12 : Nat), (v16 : Nat)⟩) rfl rfl (news_drew17 _ _ _ _ rfl) (td_one _) (by decide) (by unfold maxLen; omega) (by omega) (Nat.le_trans hs1 (Out.size (Out.drew (Out.alloc (Out.refl _) _)))) _ rfl ?_; intro g2 cap2 w8 own8 gr8 hg hlt2; have F8 := hidOf (FAR.out _ _ gr8); have W8 := hidOf own8; clear own8 gr8 hg hlt2))
        go_wp2
        go_roundw
        case rel => exact ⟨j + 1, cap2, ny, E ++ [⟨x, (v4 : Nat), (v8 : Nat), (v12 : Nat), (v16 : Nat)⟩], some ⟨g2, 0, none⟩, by omega, rfl, by simp, by have := hnyN.out.1; omega, hidOf hnyN.out.1, hidOf (by rw [List.length_append, HDl.out]; rfl), hidOf (by rw [tdV_snoc]; exact W8.out), hidOf F8.out.1, hidOf F8.out.2, HXN⟩
        case measure => simp [intOf] <;> omega
    · have hlt : ¬ (j : Int) < D := by omega
      have hjD2 : Hid (j = D) := hidOf (by omega)
      go_wp2
      go_ret2
      refine ⟨HC.out, .inr ⟨E, seN se, se, a, cap, ?_, rfl, hseb, by rw [HDl.out, hjD2.out], by rw [hjD2.out]; rfl, ?_, HR.out⟩⟩
      · rw [HX.out, hjD2.out, Nat.sub_self]; simp [tdR, Except.map]
      · have := HOw.out; rw [hjD2.out] at this; exact this
end Go.Proofs.YthififblejbleaaGreatDoor
