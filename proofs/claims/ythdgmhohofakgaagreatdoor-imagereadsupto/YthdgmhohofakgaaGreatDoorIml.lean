import Derived.Test.YthdgmhohofakgaaGreatDoorImk
namespace Go.Proofs.YthdgmhohofakgaaGreatDoor
open Go.RowKit
open Go.Maps (Keyed)
set_option linter.unusedVariables false
set_option linter.unusedSimpArgs false
theorem laid17 : laidOutB Tryz.prog = true := by kernel_rfl
theorem owLaw : Keyed Tryz.prog 153 := Keyed.of_law (deep_law_laid laid17 (m := 5) (by omega) (Nat.lt_of_lt_of_le (Nat.lt_succ_self _) (Nat.le_of_ble_eq_true (by kernel_rfl))) (by kernel_rfl) (by kernel_rfl))
def kyB (nm : List UInt8) (ob : Int) : List UInt8 := keyBytes [.string nm, .int .i64 ob]
theorem keyOf_ow (nm : List UInt8) (ob : Int) (h : nm.length ≤ 140737488355328) (h0 : -9223372036854775808 ≤ ob) (h1 : ob ≤ 9223372036854775807) : keyOf Tryz.prog 153 (.agg #[.string ⟨nm.toArray⟩, .int .i64 ob]) = some (.string (kyB nm ob)) := by
  have hs : (⟨nm.toArray⟩ : ByteArray).size ≤ maxLen := by rw [mk_size]; unfold maxLen; omega
  have hw : (Lit.int .i64 ob).wf = true := by simp [Lit.wf, IntKind.min, IntKind.max, IntKind.bits, IntKind.signed]; omega
  have hk : Tryz.prog.keyType 153 = true := by kernel_rfl
  have hc : Tryz.prog.cellsOf 153 = 2 := by kernel_rfl
  have hc1 : Tryz.prog.cellsOf 9 = 1 := by kernel_rfl
  have hc2 : Tryz.prog.cellsOf 3 = 1 := by kernel_rfl
  obtain ⟨n, hn⟩ : ∃ n, Tryz.prog.types.size + 1 = n + 2 := ⟨Tryz.prog.types.size - 1, by have : 1 ≤ Tryz.prog.types.size := Nat.le_of_ble_eq_true (by kernel_rfl); omega⟩
  have hU := Tryz.underlying153
  have hS := Tryz.underlying9
  have hI := Tryz.underlying3
  have hq : (⟨nm.toArray⟩ : ByteArray).data.toList = nm := rfl
  unfold kyB
  generalize (⟨nm.toArray⟩ : ByteArray) = q at *
  have hf : Value.formed Tryz.prog 153 (.agg #[.string q, .int .i64 ob]) = true := by
    simp only [Value.formed, hU, hc]; rfl
  have hl : Tryz.prog.keyLits (Tryz.prog.types.size + 1) 153 [.string q, .int .i64 ob] = some [.string q.data.toList, .int .i64 ob] := by
    rw [hn]
    simp [Program.keyLits, hU, hS, hI, hc, hc1, hc2, hs, hw]
  simp only [keyOf, hU, hk, hf]
  show (if (true && true) = true then Option.map (fun ls => Lit.string (keyBytes ls)) (Tryz.prog.keyLits (Tryz.prog.types.size + 1) 153 [.string q, .int .i64 ob]) else none) = _
  rw [hl, hq]; rfl
def OkK (nm : List UInt8) (ob : Int) : Prop := nm.length ≤ 140737488355328 ∧ -9223372036854775808 ≤ ob ∧ ob ≤ 9223372036854775807
theorem ky_inj {nm nm' : List UInt8} {ob ob' : Int} (h : OkK nm ob) (h' : OkK nm' ob') (e : kyB nm ob = kyB nm' ob') : nm = nm' ∧ ob = ob' := by
  have a := keyOf_ow nm ob h.1 h.2.1 h.2.2
  have b := keyOf_ow nm' ob' h'.1 h'.2.1 h'.2.2
  rw [e] at a
  have := owLaw.inj a b
  simp at this
  exact this
def hasK (L : List Fn) (nm : List UInt8) (ob : Int) : Bool := L.any (fun y => y.nm == nm && y.ob == ob)
/-- the map of what is ahead -/
def MapK (D : DataW Unit) (L : List Fn) : Prop := Maps.IsMap D ∧ ∀ nm ob, OkK nm ob → Maps.has D (.string (kyB nm ob)) = hasK L nm ob
theorem MapK.nil : MapK (.map []) [] := ⟨⟨_, rfl⟩, fun nm ob _ => by simp [Maps.has_eq, hasK]⟩
theorem MapK.snoc {D : DataW Unit} {L : List Fn} (h : MapK D L) (x : Fn) (hx : OkK x.nm x.ob) (d : DataW Unit) : MapK (D.put (.string (kyB x.nm x.ob)) d) (L ++ [x]) := by
  refine ⟨h.1.put _ _, fun nm ob hk => ?_⟩
  by_cases e : kyB nm ob = kyB x.nm x.ob
  · obtain ⟨rfl, rfl⟩ := ky_inj hk hx e
    rw [Maps.has_put_same h.1 (isKey _)]; simp [hasK]
  · have hne : (Lit.string (kyB nm ob)) ≠ .string (kyB x.nm x.ob) := fun h => e (Lit.string.inj h)
    rw [Maps.has_put_other hne, h.2 nm ob hk]
    have : ¬ (x.nm = nm ∧ x.ob = ob) := fun ⟨a, b⟩ => e (by rw [a, b])
    simp only [hasK, List.any_append, List.any_cons, List.any_nil, Bool.or_false]
    cases hc : (x.nm == nm && x.ob == ob)
    · simp
    · simp at hc; exact absurd hc this
theorem ownsMap_same {w w' : World} {t : TypeId} {b n : Nat} {D : DataW Unit} (h : w.ownsMap Tryz.prog t PE b n D) (e : w'.heap[b]? = w.heap[b]?) : w'.ownsMap Tryz.prog t PE b n D := by
  obtain ⟨es, clock, hb, r⟩ := h
  exact ⟨es, clock, by rw [e]; exact hb, r⟩
theorem mkO (w : World) : (Instr.makeMap 151 none).run Tryz.prog w = .ok (.map (some w.heap.size)) (w.alloc (.map #[] 0)) := by kernel_rfl
theorem lookK {w : World} {b n : Nat} {D : DataW Unit} {L : List Fn} (h : w.ownsMap Tryz.prog 153 PE b n D) (hm : MapK D L) (nm : List UInt8) (ob : Int) (hk : OkK nm ob) : ∃ c : Int, (Instr.lookup 151 (.map (some b)) (.agg #[.string ⟨nm.toArray⟩, .int .i64 ob]) true).run Tryz.prog w = .ok (.tuple #[.int .i64 c, .bool (hasK L nm ob)]) w := by
  have hw0 : (Lit.int .i64 0).wf = true := by decide
  obtain ⟨v, ps, hr, hv⟩ := h.look_ok owLaw Tryz.underlying151 (zeroI w) (zd := .lit (.int .i64 0)) (zp := []) (plainElem_int Tryz.underlying3 hw0) (keyOf_ow nm ob hk.1 hk.2.1 hk.2.2)
  obtain ⟨c, rfl, hc, hwc⟩ := plainElem_int_inv Tryz.underlying3 hv
  exact ⟨c, by rw [hr, hm.2 nm ob hk]⟩
theorem fnB_eq {F : List Fn} {k : Nat} {x : Fn} (h : F[k]? = some x) : fnB F k = (hasK (F.take k) x.nm x.ob || !fnW x) := by simp only [fnB, h, hasK]
theorem funcName_any (F : List Fn) (w : World) (fa : Option Addr) (fc : Nat) (hF : FnA w fa F) (hm : F.length ≤ 4096) (hok : ∀ x ∈ F, OkK x.nm x.ob) : Calls Tryz.prog 84 #[.slice fa F.length fc] w (FltE (fstB (fnB F) F.length) w) := by
  obtain ⟨R, hR⟩ : ∃ R, Hid (R = fstB (fnB F) F.length) := ⟨_, rfl⟩
  rw [← hR.out]
  obtain ⟨n, hn⟩ : ∃ n, Hid (n = F.length) := ⟨_, rfl⟩
  rw [← hn.out] at hm ⊢ hR
  have HOK := hidOf hok
  clear hok
  have HM0 := hidOf (World.ownsMap_made w Tryz.prog 153 PE)
  have HMK := hidOf mkO
  obtain ⟨mb, hmb⟩ : ∃ mb, Hid (mb = w.heap.size) := ⟨_, rfl⟩
  have hmk : (Instr.makeMap 151 none).run Tryz.prog w = .ok (.map (some mb)) (w.alloc (.map #[] 0)) := by rw [hmb.out]; exact mkO w
  rw [← hmb.out] at HM0
  go_enter Tryz.func84, Tryz.ntmps84
  go_wp2
  go_loopw [13] (fun i wr => ∃ (k : Nat) (D : DataW Unit), k ≤ n ∧ i = .int .i64 k ∧ Hid (wr.ownsMap Tryz.prog 153 PE mb k D) ∧ Hid (MapK D (F.take k)) ∧ Hid (∀ j, j < k → fnB F j = false) ∧ Hid (Out w wr)) (fun i _ => n - (intOf i).toNat)
  case atStart => exact ⟨0, _, by omega, rfl, HM0, hidOf MapK.nil, hidOf (fun j hj => by omega), hidOf (Out.alloc (Out.refl _) _)⟩
  case round =>
    obtain ⟨k, D, hk, rfl, hom, hmk2, hg, hor⟩ := hrel
    by_cases hkl : k < n
    · have hlt : (k : Int) < n := by omega
      obtain ⟨x, hx⟩ : ∃ x, F[k]? = some x := ⟨_, List.getElem?_eq_getElem (by rw [← hn.out]; exact hkl)⟩
      obtain ⟨b, off, rfl, q0, q1, q2, q3⟩ := (hF.out hor.out).get hx
      have hB := fnB_eq hx
      have hokx := HOK.out x (List.mem_of_getElem? hx)
      have hts := take_snoc hx
      obtain ⟨nm, ob, fi, ct⟩ := x
      simp only [fnW] at q0 q1 q2 q3 hB hokx
      have HT := hidOf hts
      have HK := hidOf hokx
      clear hF hts hokx
      have CN : Hid (∀ wx, Calls Tryz.prog 95 #[.string ⟨nm.toArray⟩] wx fun e w' => e = .returned (.bool (wordP nm)) ∧ Out wx w') := fun wx => isNameI_any nm wx
      have hmlt : mb < wr.heap.size := hom.out.lt
      have hblk : ∀ O1 O2, ((wr.alloc O1).alloc O2).heap[mb]? = wr.heap[mb]? := fun O1 O2 => by
        rw [Below.heap_alloc _ _ _ (by rw [size_alloc]; omega), Below.heap_alloc _ _ _ hmlt]
      have HLK : ∀ O1 O2, ∃ c : Int, (Instr.lookup 151 (.map (some mb)) (.agg #[.string ⟨nm.toArray⟩, .int .i64 ob]) true).run Tryz.prog ((wr.alloc O1).alloc O2) = .ok (.tuple #[.int .i64 c, .bool (hasK (F.take k) nm ob)]) ((wr.alloc O1).alloc O2) := fun O1 O2 => lookK (ownsMap_same hom.out (hblk O1 O2)) hmk2.out nm ob HK.out
      obtain ⟨O1, hO1⟩ : ∃ O, O = Obj.cells #[.string ⟨nm.toArray⟩, .int .i64 ob, .int .i64 fi, .int .i64 ct] 85 := ⟨_, rfl⟩
      obtain ⟨O2, hO2⟩ : ∃ O, O = Obj.cells #[.string ⟨nm.toArray⟩, .int .i64 ob] 153 := ⟨_, rfl⟩
      obtain ⟨c, hlk⟩ := HLK O1 O2
      rw [hO1, hO2] at hlk
      clear HLK hblk hO1 hO2 O1 O2
      generalize hhk : hasK (F.take k) nm ob = hb at *
      generalize hwp : wordP nm = bw at *
      cases hb
      · cases bw
        · have hfin : Hid (R = some k) := hidOf (by rw [hR.out, fstB_some hkl hg.out (by rw [hB]; rfl)])
          clear hB
          go_wp2_with (go_at_call 95; refine (CN.out _).mono ?_; rintro e w1 ⟨rfl, o1⟩)
          go_ret2
          exact ⟨k, by rw [hfin.out]; rfl, fun z hz => by rw [hfin.out] at hz; cases hz; rfl, Out.trans (Out.alloc (Out.alloc hor.out _) _) o1⟩
        · by_cases h0 : ob < 0
          · have hfin : Hid (R = some k) := hidOf (by rw [hR.out, fstB_some hkl hg.out (by rw [hB]; simp; omega)])
            clear hB
            go_wp2_with (go_at_call 95; refine (CN.out _).mono ?_; rintro e w1 ⟨rfl, o1⟩; have y1 : w1.cell? ⟨wr.heap.size, 1, none⟩ = some (.int .i64 ob) := cell_later (Out.trans (Out.alloc (Out.refl _) _) o1) (cell_fresh wr _ _ 1 _ rfl))
            go_ret2
            exact ⟨k, by rw [hfin.out]; rfl, fun z hz => by rw [hfin.out] at hz; cases hz; rfl, Out.trans (Out.alloc (Out.alloc hor.out _) _) o1⟩
          · by_cases h64 : 64 ≤ ob
            · have hfin : Hid (R = some k) := hidOf (by rw [hR.out, fstB_some hkl hg.out (by rw [hB]; simp; omega)])
              clear hB
              go_wp2_with (go_at_call 95; refine (CN.out _).mono ?_; rintro e w1 ⟨rfl, o1⟩; have y1 : w1.cell? ⟨wr.heap.size, 1, none⟩ = some (.int .i64 ob) := cell_later (Out.trans (Out.alloc (Out.refl _) _) o1) (cell_fresh wr _ _ 1 _ rfl))
              go_ret2
              exact ⟨k, by rw [hfin.out]; rfl, fun z hz => by rw [hfin.out] at hz; cases hz; rfl, Out.trans (Out.alloc (Out.alloc hor.out _) _) o1⟩
            · have hf : fnB F k = false := by rw [hB]; simp; omega
              have Hg2 : Hid (∀ j, j < k + 1 → fnB F j = false) := hidOf (fun j hj => by
                by_cases e : j = k
                · rw [e, hf]
                · exact hg.out j (by omega))
              have hwk : (Lit.int .i64 (k : Int)).wf = true := by simp [Lit.wf, IntKind.min, IntKind.max, IntKind.bits, IntKind.signed]; omega
              have Hpe : Hid (PE (.int .i64 (k : Int)) = some (.lit (.int .i64 (k : Int)), [])) := hidOf (plainElem_int Tryz.underlying3 hwk)
              clear hB hf hwk
              have h0 : 0 ≤ ob := by omega
              have h64 : ob < 64 := by omega
              set_option maxRecDepth 4000 in
              go_upto_region 9 with (go_at_call 95; refine (CN.out _).mono ?_; rintro e w1 ⟨rfl, o1⟩; have y1 : w1.cell? ⟨wr.heap.size, 1, none⟩ = some (.int .i64 ob) := cell_later (Out.trans (Out.alloc (Out.refl _) _) o1) (cell_fresh wr _ _ 1 _ rfl); have z0 : w1.cell? ⟨wr.heap.size + 1, 0, none⟩ = some (.string ⟨nm.toArray⟩) := cell_later o1 (cell_fresh _ _ _ 0 _ (by rw [size_alloc])); have z1 : w1.cell? ⟨wr.heap.size + 1, 1, none⟩ = some (.int .i64 ob) := cell_later o1 (cell_fresh _ _ _ 1 _ (by rw [size_alloc])))
              have hom1 : w1.ownsMap Tryz.prog 153 PE mb k D := ownsMap_same hom.out (by
                rw [o1.block mb (by rw [size_alloc, size_alloc]; omega), Below.heap_alloc _ _ _ (by rw [size_alloc]; omega), Below.heap_alloc _ _ _ hmlt])
              obtain ⟨w2, hrun, ho2, hg2⟩ := hom1.update owLaw Tryz.underlying151 (by unfold maxLen; omega) (keyOf_ow nm ob HK.out.1 HK.out.2.1 HK.out.2.2) Hpe.out
              have HM2 := hidOf (hmk2.out.snoc ⟨nm, ob, fi, ct⟩ HK.out (.lit (.int .i64 (k : Int))))
              have HO2 : Hid (Out w w2) := hidOf (Chg.out (S := fun z => z = mb) (Chg.of_grown hg2 (fun z hz => (Option.some.inj hz).symm)) (Out.trans (Out.alloc (Out.alloc hor.out _) _) o1) (fun z hz => by rw [hz, hmb.out]; exact Nat.le_refl _))
              have Ho2 := hidOf ho2
              clear ho2 hg2 hom1
              go_wp2
              go_roundw
              case rel => exact ⟨k + 1, _, by omega, by simp, Ho2, hidOf (by rw [HT.out]; exact HM2.out), Hg2, HO2⟩
              case measure => simp [intOf]; omega
      · have hfin : Hid (R = some k) := hidOf (by rw [hR.out, fstB_some hkl hg.out (by rw [hB]; rfl)])
        clear hB
        go_wp2
        go_ret2
        exact ⟨k, by rw [hfin.out]; rfl, fun z hz => by rw [hfin.out] at hz; cases hz; rfl, Out.alloc (Out.alloc hor.out _) _⟩
    · have hlt : ¬ (k : Int) < n := by omega
      have hfin : Hid (R = none) := hidOf (by rw [hR.out, fstB_none fun j hj => hg.out j (by omega)])
      go_wp2
      go_ret2
      exact ⟨0, by rw [hfin.out]; rfl, (fun q hq => by rw [hfin.out] at hq; cases hq), hor.out⟩
end Go.Proofs.YthdgmhohofakgaaGreatDoor
