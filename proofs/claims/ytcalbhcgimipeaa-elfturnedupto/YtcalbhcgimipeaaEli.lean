import Derived.Test.YtcalbhcgimipeaaElh
namespace Go.Proofs.Ytcalbhcgimipeaa
open Go.RowKit
open Go.Maps (Keyed)
set_option linter.unusedVariables false
set_option linter.unusedSimpArgs false
/-- a section's box -/
def boxS (x : SV) : Obj := .cells #[.string ⟨x.s.nm.toArray⟩, .int .i64 x.s.ty, .int .i64 x.s.fl, .int .i64 x.s.li, .int .i64 x.s.inf, .int .i64 x.s.al, .int .i64 x.s.es, .slice x.da x.s.d.length x.dc] 60
theorem boxS_cells {w wx : World} {q : Nat} {x : SV} (h : wx.heap[q]? = some (.cells #[.string ⟨x.s.nm.toArray⟩, .int .i64 x.s.ty, .int .i64 x.s.fl, .int .i64 x.s.li, .int .i64 x.s.inf, .int .i64 x.s.al, .int .i64 x.s.es, .slice x.da x.s.d.length x.dc] 60 (0, 0))) : Cells8 wx q 0 x := by
  refine ⟨?_, ?_, ?_, ?_, ?_, ?_, ?_, ?_⟩ <;> (simp [World.cell?, h])
def nmsOf (L : List SV) : List (List UInt8) := L.map fun x => x.s.nm
def plsOf (L : List SV) : List Int := (nmsOf L).map fun x => (plF 1 (namesF (nmsOf L)) x : Int)
set_option maxRecDepth 8000 in
set_option maxHeartbeats 4000000 in
theorem addNames_any (B : Nat) (a : Option Addr) (c : Nat) (L : List SV) (w : World) (h : ScAt B w a L) (hB : B ≤ w.heap.size) (hc : L.length ≤ c) (hl : L.length ≤ 1000) :
    Calls Try.prog 34 #[.slice a L.length c] w fun e w' => Out w w' ∧ (((∀ x ∈ nmsOf L, nameOk x = true) ∧ ∃ na nc g, e = .returned (.tuple #[.slice na (byP (namesF (nmsOf L))).length nc, .slice (some ⟨g, 0, none⟩) L.length L.length, .int .i64 0]) ∧ OwB w.heap.size (.slice na (byP (namesF (nmsOf L))).length nc) (byP (namesF (nmsOf L))) w' ∧ RowI w' g (plsOf L) ∧ w.heap.size ≤ g) ∨ (¬ (∀ x ∈ nmsOf L, nameOk x = true) ∧ e = .returned (.tuple #[.slice none 0 0, .slice none 0 0, .int .i64 81]))) := by
  have H := hidOf h
  have hcI : (L.length : Int) ≤ c := by omega
  have hlI : (L.length : Int) ≤ 1000 := by omega
  have hmk := run_make_in L.length (by omega)
  obtain ⟨p, hp⟩ : ∃ p, p = w.heap.size := ⟨_, rfl⟩
  obtain ⟨g, hg⟩ : ∃ g, g = (w.alloc newO).heap.size := ⟨_, rfl⟩
  have hgp : g = p + 1 := by rw [hg, size_alloc, hp]
  have HN : Hid (Calls Try.prog 66 #[] w fun e w' => e = .returned (.pointer (some ⟨p, 0, none⟩)) ∧ w' = w.alloc newO) := by rw [hp]; exact new_any w
  have HS : Hid (AN w ((w.alloc newO).alloc (.cells ((List.replicate L.length (0 : Int)).map (Value.int .i64)).toArray 3)) p g L.length [] (fun k => k = p)) := by
    have o1 : Out (w.alloc newO) ((w.alloc newO).alloc (.cells ((List.replicate L.length (0 : Int)).map (Value.int .i64)).toArray 3)) := (Out.refl _).alloc _
    refine ⟨?_, ?_, ?_, ?_, by omega, by omega, by simp, ((Out.refl w).alloc _).alloc _⟩
    · have := (new_tab w).out o1
      rw [← hp] at this
      exact this
    · intro k hk
      rw [size_alloc, size_alloc]; omega
    · intro k hk; omega
    · have := heap_alloc_new (w.alloc newO) (.cells ((List.replicate L.length (0 : Int)).map (Value.int .i64)).toArray 3)
      rw [← hg] at this
      simpa [RowI] using this
  have Hp := hidOf hp
  have Hg := hidOf hg
  clear h hp hgp
  go_enter Try.func34, Try.ntmps34
  go_upto_region 2 with (go_at_call 66; refine (HN.out).mono ?_; rintro e w1 ⟨rfl, rfl⟩)
  have hm := hmk (w.alloc newO)
  rw [← hg] at hm
  clear hmk hg HN
  generalize w.alloc newO = W1 at *
  generalize W1.alloc (.cells ((List.replicate L.length (0 : Int)).map (Value.int .i64)).toArray 3) = W2 at *
  go_wp2
  clear hm
  go_loopw [19] (fun iv wr => ∃ (i : Nat) (F : Nat → Prop), iv = .int .i64 i ∧ i ≤ L.length ∧ Hid (AN w wr p g L.length (nmsOf (L.take i)) F)) (fun iv _ => L.length - (intOf iv).toNat)
  case atStart => exact ⟨0, _, rfl, by omega, HS.out⟩
  case round =>
    obtain ⟨i, F, rfl, hi, HA⟩ := hrel
    by_cases hiL : i < L.length
    · have hlt : (i : Int) < L.length := by omega
      have h0 : (0 : Int) ≤ i := by omega
      obtain ⟨x, hx⟩ : ∃ x, L[i]? = some x := ⟨_, List.getElem?_eq_getElem hiL⟩
      obtain ⟨b, off, rfl, hb, hc8⟩ := (H.out.below (Below.mono HA.out.out hB)).get hx
      obtain ⟨d0, d1, d2, d3, d4, d5, d6, d7⟩ := hc8
      have Hst : Hid (nmsOf (L.take (i + 1)) = nmsOf (L.take i) ++ [x.s.nm]) := hidOf (by rw [take_snoc hx]; simp [nmsOf])
      have Hln : Hid ((nmsOf (L.take i)).length = i) := hidOf (by simp [nmsOf]; omega)
      have Hm : Hid (x.s.nm ∈ nmsOf L) := hidOf (List.mem_map_of_mem (List.mem_of_getElem? hx))
      obtain ⟨q, hq⟩ : ∃ q, q = wr.heap.size := ⟨_, rfl⟩
      have Hbx : Hid (Cells8 (wr.alloc (boxS x)) q 0 x) := hidOf (boxS_cells (w := w) (by rw [hq]; exact heap_alloc_new wr _))
      have HA1 := hidOf (HA.out.on ((Out.refl wr).alloc (boxS x)))
      clear hx
      go_upto_region 6 with fail
      rw [← hq]
      have e1 : wr.alloc (.cells #[.string ⟨x.s.nm.toArray⟩, .int .i64 x.s.ty, .int .i64 x.s.fl, .int .i64 x.s.li, .int .i64 x.s.inf, .int .i64 x.s.al, .int .i64 x.s.es, .slice x.da x.s.d.length x.dc] 60) = wr.alloc (boxS x) := rfl
      rw [e1]
      clear e1 hq
      generalize wr.alloc (boxS x) = wb at *
      have c0 : wb.cell? ⟨q, 0, none⟩ = some (.string ⟨x.s.nm.toArray⟩) := Hbx.out.c0
      clear d0 d1 d2 d3 d4 d5 d6 d7
      cases hok : nameOk x.s.nm
      · have CA := hidOf (add_bad p x.s.nm wb hok)
        go_wp2_with (go_at_call 67; refine (CA.out).mono ?_; rintro e w1 ⟨rfl, hw⟩; subst hw)
        go_ret3
        refine ⟨HA1.out.out, .inr ⟨fun hall => ?_, rfl⟩⟩
        have := hall _ Hm.out
        rw [hok] at this
        cases this
      · have hsz := (namesF_ok _ HA1.out.ok).2.2.2
        rw [Hln.out] at hsz
        have CA := hidOf (add_any p x.s.nm wb _ F HA1.out.tab hok (by omega) HA1.out.lt)
        clear hsz
        obtain ⟨pl, hpl⟩ : ∃ pl, pl = plF 1 (addN (namesF (nmsOf (L.take i))) x.s.nm) x.s.nm := ⟨_, rfl⟩
        rw [← hpl] at CA
        have Hpl := hidOf hpl
        clear hpl
        go_upto_region 9 with (go_at_call 67; refine (CA.out).mono ?_; rintro e w1 ⟨rfl, hT, hC⟩; have HT := hidOf hT; have HC := hidOf hC; clear hT hC)
        have HA2 := HA1.out.add hok (by rw [Hln.out]; exact hiL) HT.out HC.out
        rw [Hln.out, ← Hst.out, ← Hpl.out] at HA2
        have HA3 := hidOf HA2
        have hr : RowI w1 g _ := (HC.out.block g HA1.out.row.lt HA1.out.gF).trans HA1.out.row
        have hf : w1.frozen? ⟨g, i, none⟩ = false := by simp [World.frozen?, show w1.heap[g]? = _ from hr]
        have hcl : ∃ u, w1.cell? ⟨g, i, none⟩ = some u := by
          have hlen : i < ((nmsOf (L.take i)).map (fun x => (plF 1 (namesF (nmsOf (L.take i))) x : Int)) ++ List.replicate (L.length - (nmsOf (L.take i)).length) 0).length := by
            rw [List.length_append, List.length_map, List.length_replicate, Hln.out]; omega
          simp only [World.cell?, show w1.heap[g]? = _ from hr]
          exact ⟨_, by simp; exact List.getElem?_eq_getElem (by simpa using hlen)⟩
        obtain ⟨u, hcu⟩ := hcl
        clear HA2 hr
        go_wp2
        exact ⟨⟨i + 1, _, by simp, by omega, HA3.out⟩, by simp [intOf]; omega⟩
    · have hlt : ¬ (i : Int) < L.length := by omega
      obtain rfl : i = L.length := by omega
      rw [List.take_length] at HA
      have hok := namesF_ok _ HA.out.ok
      have hnl : (nmsOf L).length = L.length := by simp [nmsOf]
      have CB := hidOf (bytes_any p wr _ F HA.out.tab (by omega))
      have Hrow : Hid (RowI wr g (plsOf L)) := by
        have := HA.out.row
        rw [hnl, Nat.sub_self] at this
        show RowI wr g _
        simpa [plsOf] using this
      clear hok hnl
      go_wp2_with (go_at_call 68; refine (CB.out).mono ?_; rintro e w1 ⟨na, nc, rfl, hOB, hO1⟩; have HOB := hidOf hOB; have HO1 := hidOf hO1; clear hOB hO1)
      go_ret3
      refine ⟨HA.out.out.trans HO1.out, .inl ⟨HA.out.ok, na, nc, g, rfl, own_base HOB.out HA.out.out.size, (HO1.out.block g Hrow.out.lt).trans Hrow.out, HA.out.gge⟩⟩
end Go.Proofs.Ytcalbhcgimipeaa
