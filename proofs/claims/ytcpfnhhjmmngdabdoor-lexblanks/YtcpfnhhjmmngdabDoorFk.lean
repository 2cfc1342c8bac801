import Derived.Test.YtcpfnhhjmmngdabDoorFj
namespace Go.Proofs.YtcpfnhhjmmngdabDoor
open Go.RowKit
set_option linter.unusedVariables false
set_option linter.unusedSimpArgs false
theorem str_bc (t : List UInt8) : Lib.strCells ⟨t.toArray⟩ = Lib.byteCells t := by simp [Lib.strCells, Lib.byteCells]
theorem bits3 : ∀ n : Fin 256, 0 ≤ bits BinOp.and IntKind.u8 (n.val : Int) 3 ∧ bits BinOp.and IntKind.u8 (n.val : Int) 3 ≤ 3 := by decide +kernel
theorem one_at (w : World) (k : Int) (t : List UInt8) (n l : Int) : TksAt (w.alloc (.cells #[.int .i64 k, .string ⟨t.toArray⟩, .int .u64 n, .int .i64 l, .int .i64 5, .string ⟨#[]⟩, .int .u64 0, .int .i64 0, .int .i64 0, .string ⟨#[]⟩, .int .u64 0, .int .i64 0] 38)) (some ⟨w.heap.size, 0, none⟩) [⟨k, t, n, l⟩, ⟨5, [], 0, 0⟩, ⟨0, [], 0, 0⟩] :=
  .inr ⟨w.heap.size, 0, rfl, fun j y hj => by
    match j, hj with
    | 0, hj => obtain rfl : (⟨k, t, n, l⟩ : Tk) = y := by simpa using hj
               refine ⟨?_, ?_, ?_, ?_⟩ <;> (rw [cell_fresh _ _ _ _ _ rfl]; rfl)
    | 1, hj => obtain rfl : (⟨5, [], 0, 0⟩ : Tk) = y := by simpa using hj
               refine ⟨?_, ?_, ?_, ?_⟩ <;> (rw [cell_fresh _ _ _ _ _ rfl]; rfl)
    | 2, hj => obtain rfl : (⟨0, [], 0, 0⟩ : Tk) = y := by simpa using hj
               refine ⟨?_, ?_, ?_, ?_⟩ <;> (rw [cell_fresh _ _ _ _ _ rfl]; rfl)
    | j + 3, hj => simp at hj⟩
theorem rest_at {N : Nat} {w w' : World} {pa : Option Addr} {ps : List UInt8} (hr : RestAt N w pa ps) (ho : Out w w') (i : Nat) : ∃ p : UInt8, (ps.length = 0 ∧ p = 0) ∨ (0 < ps.length ∧ ∃ g o, pa = some ⟨g, o, none⟩ ∧ w'.cell? ⟨g, o + i % ps.length, none⟩ = some (.int .u8 (p.toNat : Int))) := by
  by_cases h0 : ps.length = 0
  · exact ⟨0, .inl ⟨h0, rfl⟩⟩
  · rcases hr with rfl | ⟨g, o, _, rfl, hc⟩
    · simp at h0
    · have hlt : i % ps.length < ps.length := Nat.mod_lt _ (by omega)
      exact ⟨ps[i % ps.length], .inr ⟨by omega, g, o, rfl, cell_later ho (hc _ _ (List.getElem?_eq_getElem hlt))⟩⟩
set_option maxRecDepth 20000 in
set_option maxHeartbeats 8000000 in
theorem blanked_any (w : World) (hE : LEnv w) (a : Option Addr) (cap : Nat) (T : List Tk) (h : TksAt w a T) (hl : T.length ≤ 33554432) (hn : NumsOk T) (hm : ∀ x ∈ T, mayP x = 0 ∧ (isPiece x ∨ x.k = 5)) (pa : Option Addr) (pc : Nat) (ps : List UInt8) (hr : RestAt w.heap.size w pa ps) (hps : ps.length ≤ 140737488355328) :
    Calls Tryd.prog 6 #[.slice a T.length cap, .slice pa ps.length pc] w fun e w' => ∃ ra O rc, e = .returned (.slice ra O.length rc) ∧ O.length ≤ rc ∧ RestAt w'.heap.size w' ra O ∧ Bf T O ∧ O.length ≤ 100 * T.length ∧ Out w w' := by
  have OA : Hid (∀ B, Out w (w.alloc B)) := fun B => (Out.refl w).alloc B
  have HE := hidOf (hE.out (OA.out (Obj.cells #[Value.int IntKind.u8 32, Value.int IntKind.u8 9, Value.int IntKind.u8 13] 39)))
  have HT := hidOf (h.out (OA.out (Obj.cells #[Value.int IntKind.u8 32, Value.int IntKind.u8 9, Value.int IntKind.u8 13] 39)))
  have HR : Hid (∀ wx, Out (w.alloc (Obj.cells #[Value.int IntKind.u8 32, Value.int IntKind.u8 9, Value.int IntKind.u8 13] 39)) wx → ∀ i, ∃ p : UInt8, (ps.length = 0 ∧ p = 0) ∨ (0 < ps.length ∧ ∃ g o, pa = some ⟨g, o, none⟩ ∧ wx.cell? ⟨g, o + i % ps.length, none⟩ = some (.int .u8 (p.toNat : Int)))) := fun wx ho i => rest_at hr ((OA.out _).trans ho) i
  have O0 := hidOf (OA.out (Obj.cells #[Value.int IntKind.u8 32, Value.int IntKind.u8 9, Value.int IntKind.u8 13] 39))
  have HC : Hid ((w.alloc (Obj.cells #[Value.int IntKind.u8 32, Value.int IntKind.u8 9, Value.int IntKind.u8 13] 39)).cell? ⟨w.heap.size, 0, none⟩ = some (.int .u8 32) ∧ (w.alloc (Obj.cells #[Value.int IntKind.u8 32, Value.int IntKind.u8 9, Value.int IntKind.u8 13] 39)).cell? ⟨w.heap.size, 1, none⟩ = some (.int .u8 9) ∧ (w.alloc (Obj.cells #[Value.int IntKind.u8 32, Value.int IntKind.u8 9, Value.int IntKind.u8 13] 39)).cell? ⟨w.heap.size, 2, none⟩ = some (.int .u8 13)) := ⟨by rw [cell_fresh _ _ _ _ _ rfl]; rfl, by rw [cell_fresh _ _ _ _ _ rfl]; rfl, by rw [cell_fresh _ _ _ _ _ rfl]; rfl⟩
  have HN := hidOf hn
  have HM := hidOf hm
  obtain ⟨i0, hi, hz0, hz1, hz2⟩ := info_parts infoB
  clear h hE hn hm hr OA
  go_enter Tryd.func6, Tryd.ntmps6
  go_wp2
  generalize w.alloc (Obj.cells #[Value.int IntKind.u8 32, Value.int IntKind.u8 9, Value.int IntKind.u8 13] 39) = W0 at *
  generalize w.heap.size = B0 at *
  go_loopw [6, 7] (fun ov iv wr => ∃ (i : Nat) (O : List UInt8) (oa : Option Addr) (oc : Nat), ov = .slice oa O.length oc ∧ iv = .int .i64 i ∧ i ≤ T.length ∧ O.length ≤ 100 * i ∧ Hid (Bf (T.take i) O) ∧ Hid (OwB W0.heap.size (.slice oa O.length oc) O wr) ∧ Hid (Out W0 wr)) (fun _ iv _ => T.length - (intOf iv).toNat)
  case atStart => exact ⟨0, [], none, 0, rfl, rfl, by omega, by simp, hidOf .nil, hidOf (World.ownsRow_nil _ _ _ _), hidOf (Out.refl W0)⟩
  case round =>
    obtain ⟨i, O, oa, oc, rfl, rfl, hil, hOl, HB, HOB, HO⟩ := hrel
    by_cases hlt : i < T.length
    · have hltI : (i : Int) < T.length := by omega
      obtain ⟨x, hx⟩ : ∃ x, T[i]? = some x := ⟨_, List.getElem?_eq_getElem hlt⟩
      have Htk : Hid (T.take (i + 1) = T.take i ++ [x]) := by rw [List.take_add_one, hx]; exact hidOf rfl
      have HMx := hidOf (HM.out x (List.mem_of_getElem? hx))
      have HNx := hidOf (HN.out x (List.mem_of_getElem? hx))
      obtain ⟨b, off, rfl, hc⟩ := HT.out.at (fun h => by rw [h] at hlt; simp at hlt)
      have HQ := hidOf (hc i x hx)
      have q0 := cell_later HO.out HQ.out.1
      obtain ⟨p, Hp⟩ := HR.out wr HO.out i
      have HP := hidOf Hp
      obtain ⟨w0, rfl⟩ : ∃ w0, w0 = wr := ⟨wr, rfl⟩
      clear Hp hc hx
      go_upto_if 22 with fail
      go_cut [8] (fun s8 wx => s8 = .int .u8 (p.toNat : Int) ∧ w0 = wx)
      case first =>
        rcases HP.out with ⟨h0, rfl⟩ | ⟨h1, g, o, rfl, hcp⟩
        · have h0I : ¬ (0 : Int) < ps.length := by omega
          clear h0
          go_wp2
          go_meet
          exact ⟨rfl, rfl⟩
        · have h0I : (0 : Int) < ps.length := by omega
          have m0 : 0 ≤ (i : Int) % ps.length := by rw [← Int.natCast_emod]; exact Int.natCast_nonneg _
          have m1 : (i : Int) % ps.length < ps.length := by rw [← Int.natCast_emod]; exact Int.ofNat_lt.2 (Nat.mod_lt _ h1)
          have m2 : ((i : Int) % ps.length).toNat = i % ps.length := by rw [← Int.natCast_emod]; rfl
          go_wp2
          go_meet
          exact ⟨rfl, rfl⟩
      case rest =>
        obtain ⟨rfl, rfl⟩ := hcut
        clear HP
        obtain ⟨xk, xt, xn, xl⟩ := x
        simp only at q0 HQ
        by_cases hk5 : xk = 5
        · have e5 : (xk == 5) = true := by rw [hk5]; rfl
          subst hk5
          by_cases h8 : (bits BinOp.and IntKind.u8 (p.toNat : Int) 8 == 8) = true
          · obtain ⟨Y, hY⟩ : ∃ Y, Y = O ++ [59, p, 120] := ⟨_, rfl⟩
            have hYl : Y.length = O.length + 3 := by rw [hY]; simp
            have HY := hidOf hY
            have HYl := hidOf hYl
            have hY3 : 3 ≤ Y.length := by omega
            have hYb : Y.length ≤ 100 * i + 3 := by omega
            clear hY hYl
            go_upto_region 12 with (at_builtin; refine wpList_append_own _ rfl (.tmp 39) (.tmp 41) 22 rfl W0.heap.size 5 i0 _ 1 1 Tryd.underlying22 hi hz0 hz1 hz2 rfl (by decide) (.slice oa O.length oc) O.length (Lib.byteCells O) rfl (HOB.out.out ((Out.refl w0).alloc _)) ⟨w0.heap.size, 0, none⟩ 3 3 [.int .u8 59, .int .u8 (p.toNat : Int), .int .u8 120] rfl rfl (news_new w0 _ _ _ rfl) (fun u hu => by simp at hu; first | (rw [hu]; rfl) | (rcases hu with h | h | h <;> (rw [h]; rfl))) (by unfold maxLen; omega) (by omega) (by have := HO.out.size; rw [size_alloc]; omega) ?_; intro v' w2 hown' hgrow _; have HOy := hidOf (out_own rfl (HOB.out.out ((Out.refl w0).alloc _)) (HO.out.alloc _) hgrow); have HNy : Hid (OwB W0.heap.size v' Y w2) := OwB.mk (P := [59, p, 120]) hown' HY.out HYl.out.symm; obtain ⟨gy, cy, rfl⟩ : ∃ gl cpl, v' = .slice (some ⟨gl, 0, none⟩) Y.length cpl := (OwB.cells HNy.out).resolve_left (fun h => by rw [h] at hY3; simp at hY3) |>.imp fun g h => h.imp fun c h => h.1; clear hown' hgrow)
            by_cases hp10 : p = 10
            · have e10 : ((p.toNat : Int) == 10) = true := by rw [hp10]; rfl
              have fz := World.ownsRow.frozenAt HNy.out (Y.length - 2)
              have cz := World.ownsRow.cells HNy.out (g := gy) rfl (Y.length - 2) (.int .u8 (p.toNat : Int)) (by rw [HYl.out, HY.out]; simp [Lib.byteCells, show O.length + 3 - 2 = O.length + 1 by omega])
              rw [Go.WideShapes.add_plain, Nat.zero_add] at cz
              subst hp10
              go_upto_region 14 with fail
              obtain ⟨s1, s2⟩ := World.ownsRow.stored HNy.out (Y.length - 2) (.int .u8 32)
              have O5 := hidOf (out_own rfl HNy.out HOy.out s2)
              obtain ⟨X, hX⟩ : ∃ X, X = O ++ [59, 32, 120] := ⟨_, rfl⟩
              have hXl : X.length = Y.length := by rw [HYl.out, hX]; simp
              have HX : Hid (OwB W0.heap.size (.slice (some ⟨gy, 0, none⟩) X.length cy) X (w2.setCell ⟨gy, Y.length - 2, none⟩ (.int .u8 32))) := by
                have e : (Lib.byteCells Y).set (Y.length - 2) (.int .u8 32) = Lib.byteCells X := by
                  rw [HYl.out, HY.out, hX, show O.length + 3 - 2 = O.length + 1 by omega]
                  simp only [bc_app]
                  rw [List.set_append_right _ _ (by rw [Lib.byteCells_length]; omega), Lib.byteCells_length]
                  congr 1
                  rw [Nat.add_sub_cancel_left]
                  rfl
                unfold OwB
                rw [← e, hXl]
                exact hidOf s1
              have HXe := hidOf hX
              clear s1 s2 fz cz hX
              generalize w2.setCell ⟨gy, Y.length - 2, none⟩ (.int .u8 32) = w5 at *
              rw [← hXl]
              have hXb : X.length ≤ 100 * i + 3 := by omega
              clear hXl
              obtain ⟨Z, hZ⟩ : ∃ Z, Z = X ++ [10] := ⟨_, rfl⟩
              have hZl : Z.length = X.length + 1 := by rw [hZ]; simp
              have HZ := hidOf hZ
              have HZl := hidOf hZl
              have hZb : Z.length ≤ 100 * i + 100 := by omega
              clear hZ hZl
              go_wp2_with (at_builtin; refine wpList_append_own _ rfl (.tmp 50) (.tmp 51) 22 rfl W0.heap.size 5 i0 _ 1 1 Tryd.underlying22 hi hz0 hz1 hz2 rfl (by decide) (.slice (some ⟨gy, 0, none⟩) X.length cy) X.length (Lib.byteCells X) rfl (HX.out.out ((Out.refl w5).alloc _)) ⟨w5.heap.size, 0, none⟩ 1 1 [.int .u8 10] rfl rfl (news_new w5 _ _ _ rfl) (fun u hu => by simp at hu; first | (rw [hu]; rfl) | (rcases hu with h | h | h <;> (rw [h]; rfl))) (by unfold maxLen; omega) (by omega) (by have := O5.out.size; rw [size_alloc]; omega) ?_; intro v' w3 hown' hgrow _; have HOz := hidOf (out_own rfl (HX.out.out ((Out.refl w5).alloc _)) (O5.out.alloc _) hgrow); have HNz : Hid (OwB W0.heap.size v' Z w3) := OwB.mk (P := [10]) hown' HZ.out HZl.out.symm; obtain ⟨gz, cz, rfl⟩ : ∃ ad cp, v' = .slice ad Z.length cp := own_form HNz.out; clear hown' hgrow)
              go_roundw
              case rel => exact ⟨i + 1, Z, gz, cz, rfl, by simp, by omega, by omega, by rw [Htk.out, HZ.out, HXe.out, List.append_assoc]; exact hidOf (HB.out.append (Bf.line _ [] [59, 32, 120] [] rfl HMx.out.1 (.inr ⟨32, by decide, rfl⟩) .nil)), HNz, HOz⟩
              case measure => simp [intOf]; omega
            · have e10 : ((p.toNat : Int) == 10) = false := by
                simp only [beq_eq_false_iff_ne]
                intro h
                exact hp10 (UInt8.toNat_inj.1 (by show p.toNat = 10; omega))
              obtain ⟨Z, hZ⟩ : ∃ Z, Z = Y ++ [10] := ⟨_, rfl⟩
              have hZl : Z.length = Y.length + 1 := by rw [hZ]; simp
              have HZ := hidOf hZ
              have HZl := hidOf hZl
              have hZb : Z.length ≤ 100 * i + 100 := by omega
              clear hZ hZl
              go_wp2_with (at_builtin; refine wpList_append_own _ rfl (.tmp 50) (.tmp 51) 22 rfl W0.heap.size 5 i0 _ 1 1 Tryd.underlying22 hi hz0 hz1 hz2 rfl (by decide) (.slice (some ⟨gy, 0, none⟩) Y.length cy) Y.length (Lib.byteCells Y) rfl (HNy.out.out ((Out.refl w2).alloc _)) ⟨w2.heap.size, 0, none⟩ 1 1 [.int .u8 10] rfl rfl (news_new w2 _ _ _ rfl) (fun u hu => by simp at hu; first | (rw [hu]; rfl) | (rcases hu with h | h | h <;> (rw [h]; rfl))) (by unfold maxLen; omega) (by omega) (by have := HOy.out.size; rw [size_alloc]; omega) ?_; intro v' w3 hown' hgrow _; have HOz := hidOf (out_own rfl (HNy.out.out ((Out.refl w2).alloc _)) (HOy.out.alloc _) hgrow); have HNz : Hid (OwB W0.heap.size v' Z w3) := OwB.mk (P := [10]) hown' HZ.out HZl.out.symm; obtain ⟨gz, cz, rfl⟩ : ∃ ad cp, v' = .slice ad Z.length cp := own_form HNz.out; clear hown' hgrow)
              go_roundw
              case rel => exact ⟨i + 1, Z, gz, cz, rfl, by simp, by omega, by omega, by rw [Htk.out, HZ.out, HY.out, List.append_assoc]; exact hidOf (HB.out.append (Bf.line _ [] [59, p, 120] [] rfl HMx.out.1 (.inr ⟨p, hp10, rfl⟩) .nil)), HNz, HOz⟩
              case measure => simp [intOf]; omega
          · have h8' : (bits BinOp.and IntKind.u8 (p.toNat : Int) 8 == 8) = false := by simpa using h8
            clear h8
            obtain ⟨Z, hZ⟩ : ∃ Z, Z = O ++ [10] := ⟨_, rfl⟩
            have hZl : Z.length = O.length + 1 := by rw [hZ]; simp
            have HZ := hidOf hZ
            have HZl := hidOf hZl
            have hZb : Z.length ≤ 100 * i + 100 := by omega
            clear hZ hZl
            go_wp2_with (at_builtin; refine wpList_append_own _ rfl (.tmp 50) (.tmp 51) 22 rfl W0.heap.size 5 i0 _ 1 1 Tryd.underlying22 hi hz0 hz1 hz2 rfl (by decide) (.slice oa O.length oc) O.length (Lib.byteCells O) rfl (HOB.out.out ((Out.refl w0).alloc _)) ⟨w0.heap.size, 0, none⟩ 1 1 [.int .u8 10] rfl rfl (news_new w0 _ _ _ rfl) (fun u hu => by simp at hu; first | (rw [hu]; rfl) | (rcases hu with h | h | h <;> (rw [h]; rfl))) (by unfold maxLen; omega) (by omega) (by have := HO.out.size; rw [size_alloc]; omega) ?_; intro v' w3 hown' hgrow _; have HOz := hidOf (out_own rfl (HOB.out.out ((Out.refl w0).alloc _)) (HO.out.alloc _) hgrow); have HNz : Hid (OwB W0.heap.size v' Z w3) := OwB.mk (P := [10]) hown' HZ.out HZl.out.symm; obtain ⟨gz, cz, rfl⟩ : ∃ ad cp, v' = .slice ad Z.length cp := own_form HNz.out; clear hown' hgrow)
            go_roundw
            case rel => exact ⟨i + 1, Z, gz, cz, rfl, by simp, by omega, by omega, by rw [Htk.out, HZ.out]; exact hidOf (HB.out.append (Bf.line _ [] [] [] rfl HMx.out.1 (.inl rfl) .nil)), HNz, HOz⟩
            case measure => simp [intOf]; omega
        · have e5 : (xk == 5) = false := by simpa using hk5
          obtain ⟨m, hbm, hm3⟩ : ∃ m : Nat, bits BinOp.and IntKind.u8 (p.toNat : Int) 3 = (m : Int) ∧ m ≤ 3 := by
            have := bits3 ⟨p.toNat, p.toNat_lt⟩
            simp only at this
            exact ⟨(bits BinOp.and IntKind.u8 (p.toNat : Int) 3).toNat, by omega, by omega⟩
          have hp256 := p.toNat_lt
          go_upto_region 16 with fail
          go_loopw [6, 9] (fun ov kv wr => ∃ (k : Nat) (U : List UInt8) (ua : Option Addr) (uc : Nat), ov = .slice ua U.length uc ∧ kv = .int .i64 k ∧ k ≤ m + 1 ∧ U.length ≤ 100 * i + k ∧ Hid (∃ bl, U = O ++ bl ∧ bl.all isBl = true ∧ bl.length = k) ∧ Hid (OwB W0.heap.size (.slice ua U.length uc) U wr) ∧ Hid (Out W0 wr)) (fun _ kv _ => m + 1 - (intOf kv).toNat)
          case atStart => exact ⟨0, O, oa, oc, rfl, rfl, by omega, by omega, hidOf ⟨[], by simp, rfl, rfl⟩, HOB, HO⟩
          case round =>
            obtain ⟨k, U, ua, uc, rfl, rfl, hk, hUl, HU, HUB, HUO⟩ := hrel
            by_cases hkm : k ≤ m
            · have hkI : (k : Int) ≤ m := by omega
              obtain ⟨j, hj, hj3⟩ : ∃ j : Nat, ((p.toNat : Int) + k) % 3 = (j : Int) ∧ j < 3 := ⟨(p.toNat + k) % 3, by omega, by omega⟩
              obtain ⟨y, hby, HBy⟩ : ∃ y : UInt8, wr.cell? ⟨B0, j, none⟩ = some (.int .u8 (y.toNat : Int)) ∧ Hid (isBl y = true) := by
                have h3 : j = 0 ∨ j = 1 ∨ j = 2 := by omega
                rcases h3 with rfl | rfl | rfl
                · exact ⟨32, cell_later HUO.out HC.out.1, hidOf rfl⟩
                · exact ⟨9, cell_later HUO.out HC.out.2.1, hidOf rfl⟩
                · exact ⟨13, cell_later HUO.out HC.out.2.2, hidOf rfl⟩
              obtain ⟨Z, hZ⟩ : ∃ Z, Z = U ++ [y] := ⟨_, rfl⟩
              have hZl : Z.length = U.length + 1 := by rw [hZ]; simp
              have HZ := hidOf hZ
              have HZl := hidOf hZl
              have hZb : Z.length ≤ 100 * i + (k + 1) := by omega
              clear hZ hZl
              go_wp2_with (at_builtin; refine wpList_append_own _ rfl (.tmp 60) (.tmp 68) 22 rfl W0.heap.size 5 i0 _ 1 1 Tryd.underlying22 hi hz0 hz1 hz2 rfl (by decide) (.slice ua U.length uc) U.length (Lib.byteCells U) rfl (HUB.out.out ((Out.refl wr).alloc _)) ⟨wr.heap.size, 0, none⟩ 1 1 [.int .u8 (y.toNat : Int)] rfl rfl (news_new wr _ _ _ rfl) (fun u hu => by simp at hu; first | (rw [hu]; rfl) | (rcases hu with h | h | h <;> (rw [h]; rfl))) (by unfold maxLen; omega) (by omega) (by have := HUO.out.size; rw [size_alloc]; omega) ?_; intro v' w3 hown' hgrow _; have HOz := hidOf (out_own rfl (HUB.out.out ((Out.refl wr).alloc _)) (HUO.out.alloc _) hgrow); have HNz : Hid (OwB W0.heap.size v' Z w3) := OwB.mk (P := [y]) hown' HZ.out HZl.out.symm; obtain ⟨gz, cz, rfl⟩ : ∃ ad cp, v' = .slice ad Z.length cp := own_form HNz.out; clear hown' hgrow)
              go_roundw
              case rel => exact ⟨k + 1, Z, gz, cz, rfl, by simp, by omega, hZb, hidOf (by obtain ⟨bl, h1, h2, h3⟩ := HU.out; exact ⟨bl ++ [y], by rw [HZ.out, h1, List.append_assoc], by rw [List.all_append, h2]; simp [HBy.out], by simp [h3]⟩), HNz, HOz⟩
              case measure => simp [intOf]; omega
            · have hkI : ¬ (k : Int) ≤ m := by omega
              have q0 := cell_later HUO.out HQ.out.1
              have q1 := cell_later HUO.out HQ.out.2.1
              have q2 := cell_later HUO.out HQ.out.2.2.1
              have q3 := cell_later HUO.out HQ.out.2.2.2
              go_upto_region 20 with fail
              have hpc : isPiece ⟨xk, xt, xn, xl⟩ := HMx.out.2.resolve_right hk5
              have hml := pieceOf_len HMx.out.1 ⟨HNx.out.1, HNx.out.2.1⟩
              have hu := untok_one HMx.out.1 hpc ⟨HNx.out.1, HNx.out.2.1⟩
              have CU := hidOf (untoken_any (wr.alloc (.cells #[.int .i64 xk, .string ⟨xt.toArray⟩, .int .u64 xn, .int .i64 xl, .int .i64 5, .string ⟨#[]⟩, .int .u64 0, .int .i64 0, .int .i64 0, .string ⟨#[]⟩, .int .u64 0, .int .i64 0] 38)) (HE.out.out (HUO.out.alloc _)).2 (some ⟨wr.heap.size, 0, none⟩) 3 [⟨xk, xt, xn, xl⟩, ⟨5, [], 0, 0⟩, ⟨0, [], 0, 0⟩] (one_at wr xk xt xn xl) (by simp) (fun y hy => by simp at hy; rcases hy with rfl | rfl | rfl; exact HNx.out; exact ⟨by decide, by decide, by decide⟩; exact ⟨by decide, by decide, by decide⟩))
              rw [hu] at CU
              simp only [List.length_cons, List.length_nil, Nat.zero_add, Nat.reduceAdd] at CU
              have HPc := hidOf hpc
              obtain ⟨P, hP⟩ : ∃ P, P = pieceOf ⟨xk, xt, xn, xl⟩ := ⟨_, rfl⟩
              rw [← hP] at CU hml
              have HPe := hidOf hP
              obtain ⟨S, hS⟩ : ∃ S, S = P ++ [10] := ⟨_, rfl⟩
              have hSl : S.length = P.length + 1 := by rw [hS]; simp
              have hext : (⟨S.toArray⟩ : ByteArray).extract 0 (S.length - 1) = ⟨P.toArray⟩ := by
                rw [ByteArray.ext_iff, ByteArray.data_extract, hSl, hS]
                simp
              have hsz : (⟨S.toArray⟩ : ByteArray).size = S.length := mk_size S
              have hS1 : 1 ≤ S.length := by omega
              have hSb : S.length ≤ 66 := by omega
              rw [← hS] at CU
              clear hS hP hu hpc hSl q0 q1 q2 q3
              go_upto_region 21 with (go_at_call 9; refine CU.out.mono ?_; rintro e w4 ⟨rfl, ho⟩; have HO4 := hidOf (Out.trans (HUO.out.alloc _) ho); have HB4 := hidOf (HUB.out.out (Out.trans ((Out.refl wr).alloc _) ho)); clear ho)
              obtain ⟨Z, hZ⟩ : ∃ Z, Z = U ++ P := ⟨_, rfl⟩
              have hZl : Z.length = U.length + P.length := by rw [hZ]; simp
              have HZ := hidOf hZ
              have HZl := hidOf hZl
              have hZb : Z.length ≤ 100 * (i + 1) := by omega
              have hkm1 : 1 ≤ k := by omega
              clear hZ hZl
              go_wp2_with (at_builtin; refine Lib.wpList_append_own_string _ rfl (.tmp 89) (.tmp 94) 22 9 rfl W0.heap.size 5 i0 Tryd.underlying22 Tryd.underlying9 hi hz0 hz1 hz2 (.slice ua U.length uc) U.length (Lib.byteCells U) rfl HB4.out ⟨P.toArray⟩ rfl (by rw [mk_size]; unfold maxLen; omega) (by rw [mk_size]; omega) HO4.out.size ?_; intro v' w6 hown' hgrow _; have HO6 := hidOf (out_own rfl HB4.out HO4.out hgrow); rw [str_bc, mk_size] at hown'; have HN6 : Hid (OwB W0.heap.size v' Z w6) := OwB.mk (P := P) hown' HZ.out HZl.out.symm; obtain ⟨g6, c6, rfl⟩ : ∃ ad cp, v' = .slice ad Z.length cp := own_form HN6.out; clear hown' hgrow)
              go_roundw
              case rel => exact ⟨i + 1, Z, g6, c6, rfl, by simp, by omega, hZb, hidOf (by
                obtain ⟨bl, h1, h2, h3⟩ := HU.out
                have := HB.out.append (Bf.piece _ [] bl [] HPc.out HMx.out.1 h2 (fun h => by rw [h] at h3; simp at h3; omega) .nil)
                rw [Htk.out, HZ.out, h1, HPe.out]
                simpa using this), HN6, HO6⟩
              case measure => simp [intOf]; omega
    · have hltI : ¬ (i : Int) < T.length := by omega
      obtain ⟨ra, rc, her, hrc, hrr⟩ := HOB.out.rest
      have HRR := hidOf hrr
      simp only [Value.slice.injEq, true_and] at her
      obtain ⟨rfl, rfl⟩ := her
      clear hrr
      go_wp2
      go_ret
      refine ⟨oa, O, oc, rfl, hrc, HRR.out, ?_, by omega, O0.out.trans HO.out⟩
      have := HB.out
      rw [List.take_of_length_le (by omega)] at this
      exact this
end Go.Proofs.YtcpfnhhjmmngdabDoor
