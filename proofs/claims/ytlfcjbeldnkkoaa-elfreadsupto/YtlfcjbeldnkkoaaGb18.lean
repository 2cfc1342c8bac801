import Derived.Test.YtlfcjbeldnkkoaaGb17
import Derived.Test.YtlfcjbeldnkkoaaGb10
namespace Go.Proofs.Ytlfcjbeldnkkoaa
open Go.RowKit
set_option linter.unusedVariables false
set_option linter.unusedSimpArgs false
def RdEnd (w : World) (b : List UInt8) (e : Ending) (w' : World) : Prop := ((rdEl b).1 = none ∧ e = .returned (.tuple #[.slice none 0 0, .int .i64 (rdEl b).2.1, .int .i64 (rdEl b).2.2]) ∧ Out w w') ∨ ∃ S a c' Ls, rdEl b = (some S, 0, 0) ∧ e = .returned (.tuple #[.slice a S.length c', .int .i64 0, .int .i64 0]) ∧ SS w w' (.slice a S.length c') Ls ∧ secs Ls = S
theorem RdEnd.bad {w w' : World} {b : List UInt8} {p e : Int} (h : rdEl b = (none, p, e)) (o : Out w w') : RdEnd w b (.returned (.tuple #[.slice none 0 0, .int .i64 p, .int .i64 e])) w' := .inl (by rw [h]; exact ⟨rfl, rfl, o⟩)
theorem read_short (w : World) (a : Option Addr) (n c : Nat) (hn : n < 64) : Calls Try.prog 6 #[.slice a n c] w fun e w' => e = .returned (.tuple #[.slice none 0 0, .int .i64 n, .int .i64 90]) ∧ w' = w := by
  have hnI : (n : Int) < 64 := by omega
  go_enter Try.func6, Try.ntmps6
  go_wp2
  go_ret3
  exact ⟨rfl, rfl⟩
theorem read_head (w : World) (g off c : Nat) (b : List UInt8) (hB : Bin w g off c b) (hl : 64 ≤ b.length) (a : Nat) (h : hdFlt b = some a) : Calls Try.prog 6 #[.slice (some ⟨g, off, none⟩) b.length c] w fun e w' => e = .returned (.tuple #[.slice none 0 0, .int .i64 a, .int .i64 91]) ∧ Out w w' := by
  have hlI : ¬ (b.length : Int) < 64 := by omega
  have CH := hidOf (headFault_any w g off c b hB hl)
  rw [h] at CH
  clear hB h
  go_enter Try.func6, Try.ntmps6
  go_wp2_with (go_at_call 18; refine (CH.out).mono ?_; rintro e w1 ⟨rfl, hO⟩; have HO := hidOf hO; clear hO)
  go_ret3
  exact ⟨rfl, HO.out⟩
theorem SS.from_ {w wx w' : World} {lv : Value} {Ls : List SV} (h : SS wx w' lv Ls) (o : Out w wx) : SS w w' lv Ls := ⟨own_base h.own o.size, fun x hx => own_base (h.dat x hx) o.size, o.trans h.out, h.dst⟩
theorem fs_new {w w1 : World} {g off n c T : Nat} (o : Out w w1) : FS w (w1.alloc (.cells #[.slice (some ⟨g, off, none⟩) n c, .int .i64 (T : Int), .slice none 0 0] 60)) w1.heap.size g off n c T (.slice none 0 0) [] :=
  ⟨heap_alloc_new w1 _, ⟨rfl, .inl ⟨rfl, rfl⟩⟩, o.size, o.alloc _⟩
set_option maxRecDepth 8000 in
set_option maxHeartbeats 1000000 in
theorem read_tk (w : World) (g off c T k : Nat) (b : List UInt8) (hB : Bin w g off c b) (hl : 64 ≤ b.length) (h : hdFlt b = none) (htp : tpP b = T) (hT8 : T % 8 = 0) (hT : 64 ≤ T) (hk : T + 64 * k = b.length) (a : Nat) (h2 : (tkF b T k T 64 []).2 = some a) : Calls Try.prog 6 #[.slice (some ⟨g, off, none⟩) b.length c] w fun e w' => e = .returned (.tuple #[.slice none 0 0, .int .i64 a, .int .i64 92]) ∧ Out w w' := by
  have hlI : ¬ (b.length : Int) < 64 := by omega
  have CH := hidOf (headFault_any w g off c b hB hl)
  rw [h] at CH
  have CT := hidOf (fun wx (o : Out w wx) => table_any wx g off c b (hB.out o) hl)
  rw [htp] at CT
  have HB := hidOf hB
  have CE := hidOf (fun wx p (hF : FS w wx p g off b.length c T (.slice none 0 0) []) => takeEntries_any w wx p g off c T k b hF hB hT8 hT hk)
  rw [h2] at CE
  clear hB h htp h2
  go_enter Try.func6, Try.ntmps6
  go_upto_region 7 with (first | (go_at_call 18; refine (CH.out).mono ?_; rintro e w1 ⟨rfl, hO⟩; have HO := hidOf hO; clear hO) | (go_at_call 19; refine (CT.out _ HO.out).mono ?_; rintro e w2 ⟨rfl, hw⟩; have hw := hw.symm; subst hw))
  have HF : Hid (FS w (w1.alloc (.cells #[.slice (some ⟨g, off, none⟩) b.length c, .int .i64 (T : Int), .slice none 0 0] 60)) w1.heap.size g off b.length c T (.slice none 0 0) []) := hidOf (fs_new HO.out)
  generalize w1.alloc (.cells #[.slice (some ⟨g, off, none⟩) b.length c, .int .i64 (T : Int), .slice none 0 0] 60) = W at *
  generalize w1.heap.size = p at *
  go_wp2_with (go_at_call 20; refine (CE.out _ _ HF.out).mono ?_; rintro e w3 ⟨rfl, ev, hF3⟩; have HF3 := hidOf hF3; clear hF3)
  go_ret3
  exact ⟨rfl, HF3.out.out⟩
set_option maxRecDepth 8000 in
set_option maxHeartbeats 1000000 in
theorem read_pad (w : World) (g off c T k : Nat) (b : List UInt8) (hB : Bin w g off c b) (hl : 64 ≤ b.length) (h : hdFlt b = none) (E : List En) (nb : En) (r : Rdg b T k E nb) (a : Nat) (h3 : padF b E = some a) : Calls Try.prog 6 #[.slice (some ⟨g, off, none⟩) b.length c] w fun e w' => e = .returned (.tuple #[.slice none 0 0, .int .i64 a, .int .i64 93]) ∧ Out w w' := by
  obtain ⟨hT, hT8, hk, k2, k18, htp, _, htk, _, hlen, hall, _⟩ := r
  have hlI : ¬ (b.length : Int) < 64 := by omega
  have CH := hidOf (headFault_any w g off c b hB hl)
  rw [h] at CH
  have CT := hidOf (fun wx (o : Out w wx) => table_any wx g off c b (hB.out o) hl)
  rw [htp] at CT
  have HB := hidOf hB
  have CE := hidOf (fun wx p (hF : FS w wx p g off b.length c T (.slice none 0 0) []) => takeEntries_any w wx p g off c T k b hF hB hT8 hT hk)
  rw [htk] at CE
  have CP := hidOf (fun wx p ev (hF : FS w wx p g off b.length c T ev E) => padding_any w wx p g off c T ev E b hF hB (fun e he => ⟨by have := (hall e he).bg; have := (hall e he).be; omega, by have := (hall e he).up; omega⟩) (by omega))
  rw [h3] at CP
  clear hB h htp h3 htk hall k2 k18 hlen
  go_enter Try.func6, Try.ntmps6
  go_upto_region 7 with (first | (go_at_call 18; refine (CH.out).mono ?_; rintro e w1 ⟨rfl, hO⟩; have HO := hidOf hO; clear hO) | (go_at_call 19; refine (CT.out _ HO.out).mono ?_; rintro e w2 ⟨rfl, hw⟩; have hw := hw.symm; subst hw))
  have HF : Hid (FS w (w1.alloc (.cells #[.slice (some ⟨g, off, none⟩) b.length c, .int .i64 (T : Int), .slice none 0 0] 60)) w1.heap.size g off b.length c T (.slice none 0 0) []) := hidOf (fs_new HO.out)
  generalize w1.alloc (.cells #[.slice (some ⟨g, off, none⟩) b.length c, .int .i64 (T : Int), .slice none 0 0] 60) = W at *
  generalize w1.heap.size = p at *
  go_wp2_with (first | (go_at_call 20; refine (CE.out _ _ HF.out).mono ?_; rintro e w3 ⟨rfl, ev, hF3⟩; have HF3 := hidOf hF3; clear hF3) | (go_at_call 21; refine (CP.out _ _ _ HF3.out).mono ?_; rintro e w4 ⟨rfl, hO4⟩; have HO4 := hidOf hO4; clear hO4))
  go_ret3
  exact ⟨rfl, HF3.out.out.trans HO4.out⟩
theorem own_some0 {w : World} {B n sz : Nat} {T : TypeId} {v : Value} {xs : List Value} (h : w.ownsRow B T sz v n xs) (hn : 0 < n) : ∃ g c, v = .slice (some ⟨g, 0, none⟩) n c ∧ n ≤ c := by
  rcases h.2 with ⟨_, h0⟩ | ⟨g, cap, cur, rfl, _, _, hc, _⟩
  · omega
  · exact ⟨g, cap, rfl, hc⟩
set_option maxRecDepth 8000 in
set_option maxHeartbeats 2000000 in
theorem read_nm (w : World) (g off c T k : Nat) (b : List UInt8) (hB : Bin w g off c b) (hl : 64 ≤ b.length) (h : hdFlt b = none) (E : List En) (nb : En) (r : Rdg b T k E nb) (h3 : padF b E = none) (X : Int × Bool × List En) (hX : X = tnR b E nb.bg.toNat nb.en.toNat) (h4 : X.2.1 = true) : Calls Try.prog 6 #[.slice (some ⟨g, off, none⟩) b.length c] w fun e w' => e = .returned (.tuple #[.slice none 0 0, .int .i64 X.1, .int .i64 92]) ∧ Out w w' := by
  obtain ⟨hT, hT8, hk, k2, k18, htp, _, htk, _, hlen, hall, hlast⟩ := r
  have hlI : ¬ (b.length : Int) < 64 := by omega
  have CH := hidOf (headFault_any w g off c b hB hl)
  rw [h] at CH
  have CT := hidOf (fun wx (o : Out w wx) => table_any wx g off c b (hB.out o) hl)
  rw [htp] at CT
  have HB := hidOf hB
  have CE := hidOf (fun wx p (hF : FS w wx p g off b.length c T (.slice none 0 0) []) => takeEntries_any w wx p g off c T k b hF hB hT8 hT hk)
  rw [htk] at CE
  have CP := hidOf (fun wx p ev (hF : FS w wx p g off b.length c T ev E) => padding_any w wx p g off c T ev E b hF hB (fun e he => ⟨by have := (hall e he).bg; have := (hall e he).be; omega, by have := (hall e he).up; omega⟩) (by omega))
  rw [h3] at CP
  have hok := hall nb (List.mem_of_getElem? hlast)
  have CN := hidOf (fun wx p eg ec (hF : FS w wx p g off b.length c T (.slice (some ⟨eg, 0, none⟩) E.length ec) E) => takeNames_any w wx p g off c T eg ec nb.bg.toNat nb.en.toNat E nb b hF hB (by omega) (by omega) hlast (by have := hok.bg; omega) (by have := hok.bg; have := hok.be; omega) (by have := hok.be; omega) (by have := hok.en; omega) (by have := hok.be; have := hok.en; omega) (fun e he => ⟨(hall e he).na0, (hall e he).na1⟩))
  rw [← hX] at CN
  clear hX
  obtain ⟨x1, x2, x3⟩ := X
  have h4 : x2 = true := h4
  subst h4
  have HE2 : Hid (2 ≤ E.length) := hidOf (by omega)
  clear hB h htp h3 htk hall k2 k18 hlen hlast hok
  go_enter Try.func6, Try.ntmps6
  go_upto_region 7 with (first | (go_at_call 18; refine (CH.out).mono ?_; rintro e w1 ⟨rfl, hO⟩; have HO := hidOf hO; clear hO) | (go_at_call 19; refine (CT.out _ HO.out).mono ?_; rintro e w2 ⟨rfl, hw⟩; have hw := hw.symm; subst hw))
  have HF : Hid (FS w (w1.alloc (.cells #[.slice (some ⟨g, off, none⟩) b.length c, .int .i64 (T : Int), .slice none 0 0] 60)) w1.heap.size g off b.length c T (.slice none 0 0) []) := hidOf (fs_new HO.out)
  generalize w1.alloc (.cells #[.slice (some ⟨g, off, none⟩) b.length c, .int .i64 (T : Int), .slice none 0 0] 60) = W at *
  generalize w1.heap.size = p at *
  go_upto_region 13 with (first | (go_at_call 20; refine (CE.out _ _ HF.out).mono ?_; rintro e w3 ⟨rfl, ev, hF3⟩; have HF3 := hidOf hF3; clear hF3) | (go_at_call 21; refine (CP.out _ _ _ HF3.out).mono ?_; rintro e w4 ⟨rfl, hO4⟩; have HO4 := hidOf hO4; clear hO4))
  obtain ⟨eg, ec, rfl, hec⟩ := own_some0 HF3.out.own (Nat.lt_of_lt_of_le (by omega) HE2.out)
  have HF4 := hidOf (HF3.out.on HO4.out)
  clear hec
  go_wp2_with (go_at_call 22; refine (CN.out _ _ _ _ HF4.out).mono ?_; rintro e w5 ⟨rfl, hF5, hO5⟩; have HO5 := hidOf hO5; clear hF5 hO5)
  go_ret3
  exact ⟨rfl, HO5.out⟩
set_option maxRecDepth 8000 in
set_option maxHeartbeats 2000000 in
theorem read_ok (w : World) (g off c T k : Nat) (b : List UInt8) (hB : Bin w g off c b) (hl : 64 ≤ b.length) (h : hdFlt b = none) (E : List En) (nb : En) (r : Rdg b T k E nb) (h3 : padF b E = none) (X : Int × Bool × List En) (hX : X = tnR b E nb.bg.toNat nb.en.toNat) (h4 : X.2.1 = false) (S : List Sec) (hS : S = ((X.2.2.drop 1).take (k - 2)).map (secE b)) : Calls Try.prog 6 #[.slice (some ⟨g, off, none⟩) b.length c] w fun e w' => ∃ a c' Ls, e = .returned (.tuple #[.slice a (k - 2) c', .int .i64 0, .int .i64 0]) ∧ SS w w' (.slice a (k - 2) c') Ls ∧ secs Ls = S := by
  obtain ⟨hT, hT8, hk, k2, k18, htp, _, htk, _, hlen, hall, hlast⟩ := r
  have hlI : ¬ (b.length : Int) < 64 := by omega
  have CH := hidOf (headFault_any w g off c b hB hl)
  rw [h] at CH
  have CT := hidOf (fun wx (o : Out w wx) => table_any wx g off c b (hB.out o) hl)
  rw [htp] at CT
  have HB := hidOf hB
  have CE := hidOf (fun wx p (hF : FS w wx p g off b.length c T (.slice none 0 0) []) => takeEntries_any w wx p g off c T k b hF hB hT8 hT hk)
  rw [htk] at CE
  have CP := hidOf (fun wx p ev (hF : FS w wx p g off b.length c T ev E) => padding_any w wx p g off c T ev E b hF hB (fun e he => ⟨by have := (hall e he).bg; have := (hall e he).be; omega, by have := (hall e he).up; omega⟩) (by omega))
  rw [h3] at CP
  have hok := hall nb (List.mem_of_getElem? hlast)
  have CN := hidOf (fun wx p eg ec (hF : FS w wx p g off b.length c T (.slice (some ⟨eg, 0, none⟩) E.length ec) E) => takeNames_any w wx p g off c T eg ec nb.bg.toNat nb.en.toNat E nb b hF hB (by omega) (by omega) hlast (by have := hok.bg; omega) (by have := hok.bg; have := hok.be; omega) (by have := hok.be; omega) (by have := hok.en; omega) (by have := hok.be; have := hok.en; omega) (fun e he => ⟨(hall e he).na0, (hall e he).na1⟩))
  rw [← hX] at CN
  have hbut : X.2.2.map noNm = E.map noNm := by rw [hX] at h4 ⊢; exact tnR_but h4
  have hXl := but_len hbut
  have hXa := but_ok hbut hall
  clear hX hbut
  obtain ⟨x1, x2, x3⟩ := X
  have h4 : x2 = false := h4
  subst h4
  have CS := hidOf (fun wx p eg ec (hec : k - 2 + 2 ≤ ec) (hF : FS w wx p g off b.length c T (.slice (some ⟨eg, 0, none⟩) (k - 2 + 2) ec) x3) => sections_any w wx p g off c T eg ec (k - 2) x3 b (by simp only at hXl; omega) hF hB (by omega) hec (fun e he => by
    have h := hXa e he
    have h1 := h.bg; have h2 := h.be; have h3 := h.en
    exact ⟨h1, h2, by omega, by omega⟩) S hS)
  have hkE : E.length = k - 2 + 2 := by omega
  rw [hkE] at CN
  generalize k - 2 = n2 at *
  have HkE := hidOf hkE
  clear hkE hXl hXa
  have HE2 : Hid (2 ≤ E.length) := hidOf (by omega)
  clear hB h htp h3 htk hall k2 k18 hlen hlast hok
  go_enter Try.func6, Try.ntmps6
  go_upto_region 7 with (first | (go_at_call 18; refine (CH.out).mono ?_; rintro e w1 ⟨rfl, hO⟩; have HO := hidOf hO; clear hO) | (go_at_call 19; refine (CT.out _ HO.out).mono ?_; rintro e w2 ⟨rfl, hw⟩; have hw := hw.symm; subst hw))
  have HF : Hid (FS w (w1.alloc (.cells #[.slice (some ⟨g, off, none⟩) b.length c, .int .i64 (T : Int), .slice none 0 0] 60)) w1.heap.size g off b.length c T (.slice none 0 0) []) := hidOf (fs_new HO.out)
  generalize w1.alloc (.cells #[.slice (some ⟨g, off, none⟩) b.length c, .int .i64 (T : Int), .slice none 0 0] 60) = W at *
  generalize w1.heap.size = p at *
  go_upto_region 13 with (first | (go_at_call 20; refine (CE.out _ _ HF.out).mono ?_; rintro e w3 ⟨rfl, ev, hF3⟩; have HF3 := hidOf hF3; clear hF3) | (go_at_call 21; refine (CP.out _ _ _ HF3.out).mono ?_; rintro e w4 ⟨rfl, hO4⟩; have HO4 := hidOf hO4; clear hO4))
  obtain ⟨eg, ec, rfl, hec⟩ := own_some0 HF3.out.own (Nat.lt_of_lt_of_le (by omega) HE2.out)
  have HF4 := hidOf (HF3.out.on HO4.out)
  rw [HkE.out] at HF4 hec
  have Hec := hidOf hec
  clear hec
  go_upto_region 16 with (go_at_call 22; refine (CN.out _ _ _ _ HF4.out).mono ?_; rintro e w5 ⟨rfl, hF5, hO5⟩; have HF5 := hidOf (hF5 (by trivial)); clear hF5 hO5)
  go_wp2_with (go_at_call 23; refine (CS.out _ _ _ _ Hec.out HF5.out).mono ?_; rintro e w6 ⟨a6, c6, Ls, rfl, hS6, hs6⟩; have HS6 := hidOf hS6; have Hs6 := hidOf hs6; clear hS6 hs6)
  go_ret3
  exact ⟨a6, c6, Ls, rfl, HS6.out.from_ HF5.out.out, Hs6.out⟩
theorem read_elf (w : World) (g off c : Nat) (b : List UInt8) (hB : Bin w g off c b) : Calls Try.prog 6 #[.slice (some ⟨g, off, none⟩) b.length c] w fun e w' => RdEnd w b e w' := by
  by_cases h0 : b.length < 64
  · refine (read_short w _ _ c h0).mono ?_
    rintro e w' ⟨rfl, rfl⟩
    exact .bad (rdEl_short h0) (Out.refl _)
  · cases h1 : hdFlt b with
    | some a =>
      refine (read_head w g off c b hB (by omega) a h1).mono ?_
      rintro e w' ⟨rfl, o⟩
      exact .bad (rdEl_head (by omega) h1) o
    | none =>
      obtain ⟨a1, a2, a3, a4, _⟩ := hd_facts (by omega) h1
      obtain ⟨T, hT⟩ : ∃ T : Nat, tpP b = T := ⟨(tpP b).toNat, by omega⟩
      have hk : T + 64 * cntP b = b.length := by unfold tpP at hT; omega
      cases h2 : (tkF b (tpP b).toNat (cntP b) (tpP b).toNat 64 []).2 with
      | some a =>
        have h2' := h2
        rw [hT, Int.toNat_natCast] at h2'
        refine (read_tk w g off c T (cntP b) b hB (by omega) h1 hT (by omega) (by omega) hk a h2').mono ?_
        rintro e w' ⟨rfl, o⟩
        exact .bad (rdEl_tk (by omega) h1 h2) o
      | none =>
        obtain ⟨T, k, E, nb, r⟩ := rdg_of (by omega) hB.big h1 h2
        cases h3 : padF b E with
        | some a =>
          refine (read_pad w g off c T k b hB (by omega) h1 E nb r a h3).mono ?_
          rintro e w' ⟨rfl, o⟩
          exact .bad (rdEl_pad h1 r h3) o
        | none =>
          cases h4 : (tnR b E nb.bg.toNat nb.en.toNat).2.1 with
          | true =>
            refine (read_nm w g off c T k b hB (by omega) h1 E nb r h3 _ rfl h4).mono ?_
            rintro e w' ⟨rfl, o⟩
            exact .bad (rdEl_nm h1 r h3 h4) o
          | false =>
            refine (read_ok w g off c T k b hB (by omega) h1 E nb r h3 _ rfl h4 _ rfl).mono ?_
            rintro e w' ⟨a, c', Ls, rfl, hs, hl⟩
            have hlen : ((((tnR b E nb.bg.toNat nb.en.toNat).2.2.drop 1).take (k - 2)).map (secE b)).length = k - 2 := by
              have := but_len (tnR_but h4)
              have := r.len
              have := r.k2
              rw [List.length_map, List.length_take, List.length_drop]; omega
            exact .inr ⟨_, a, c', Ls, rdEl_ok h1 r h3 h4, by rw [hlen], by rw [hlen]; exact hs, hl⟩
end Go.Proofs.Ytlfcjbeldnkkoaa
namespace Go.Proofs.Ytlfcjbeldnkkoaa
open Go.RowKit
set_option linter.unusedVariables false
set_option linter.unusedSimpArgs false
set_option maxRecDepth 40000 in
set_option maxHeartbeats 4000000 in
theorem write_noname (B : Nat) (a : Option Addr) (c : Nat) (L : List SV) (w : World) (h : ScAt B w a L) (hB : B ≤ w.heap.size) (hc : L.length ≤ c) (hl : L.length ≤ 16) (hb : L.any (fun x => badP x.s) = false) (hn : ¬ (∀ x ∈ nmsS (secs L), nameOk x = true)) :
    Calls Try.prog 8 #[.slice a L.length c] w fun e w' => e = .returned (.tuple #[.slice none 0 0, .int .i64 92]) ∧ Out w w' := by
  have HC := hidOf (contains_any B a c L w h hB hc (by omega))
  rw [hb] at HC
  have HCl := hidOf (fun wx (o : Out w wx) => cloneV_any B a c L wx (h.below (Below.mono o hB)) (by omega))
  have hlI : ¬ (16 : Int) < L.length := by omega
  have hlN : (L.length : Int) ≤ 16 := by omega
  obtain ⟨i0, hi, hz0, hz1, hz2⟩ := info_parts infoSc
  have Hn := hidOf hn
  clear h hn
  go_enter Try.func8, Try.ntmps8
  go_upto_region 4 with (first | (go_at_call 24; refine (HC.out).mono ?_; rintro e w1 ⟨rfl, hO1⟩; have HO1 := hidOf hO1; clear hO1) | (go_at_call 26; refine (HCl.out _ HO1.out).mono ?_; rintro e w2 ⟨av, cv, rfl, hV, hO2⟩; have HV : Hid (OwV w.heap.size (.slice av L.length cv) L w2) := own_base hV HO1.out.size; have HO2 := hidOf (HO1.out.trans hO2); have hs2 : w.heap.size ≤ w2.heap.size := HO2.out.size; clear hV hO2) | (at_builtin; refine wpList_append_own _ rfl (.tmp 23) (.tmp 25) 38 rfl w.heap.size 46 i0 _ 8 88 Try.underlying38 hi hz0 hz1 hz2 rfl (by decide) (.slice av L.length cv) L.length (svV L) rfl (World.ownsRow.alloc HV.out _) ⟨w2.heap.size, 0, none⟩ 1 1 t0.cs rfl rfl (news_new w2 _ _ _ rfl) (svV_one [t0]) (by unfold maxLen; omega) (by omega) (by rw [size_alloc]; omega) ?_; intro v3 w3 hown3 hgrow3 _; have HO3 := hidOf hown3; have Hw3 := hidOf (out_rowN (HO2.out.alloc _) (World.ownsRow.alloc HV.out _) hgrow3); clear hgrow3; obtain ⟨ga, ca, rfl⟩ := own_some hown3 (by omega); clear hown3))
  clear HC HCl HV HO1 HO2 hs2
  have hlen : (L ++ [t0]).length = L.length + 1 := by simp
  have HV3 : Hid (OwV w.heap.size (.slice (some ⟨ga, 0, none⟩) (L.length + 1) ca) (L ++ [t0]) w3) := by
    have := HO3.out
    show World.ownsRow _ _ _ _ _ _ _
    rw [hlen, svV_app]
    simpa [svV] using this
  obtain ⟨hat3, hca, hbad⟩ := HV3.out.at
  clear hbad
  have CN := hidOf (addNames_any w3.heap.size (some ⟨ga, 0, none⟩) ca (L ++ [t0]) w3 hat3 (Nat.le_refl _) hca (by omega))
  rw [nms_secs, pls_secs, hlen] at CN
  have CN2 : Hid (Calls Try.prog 27 #[.slice (some ⟨ga, 0, none⟩) (L.length + 1) ca] w3 fun e w' => e = .returned (.tuple #[.slice none 0 0, .slice none 0 0, .int .i64 81]) ∧ Out w3 w') := by
    refine (CN.out).mono ?_
    rintro e w' ⟨ho, ⟨hok, _⟩ | ⟨_, he⟩⟩
    · exact absurd hok Hn.out
    · exact ⟨he, ho⟩
  clear CN hat3 hca HO3 hlen
  go_wp2_with (go_at_call 27; refine (CN2.out).mono ?_; rintro e w4 ⟨rfl, hO4⟩; have HO4 := hidOf hO4; clear hO4)
  go_ret2
  exact ⟨rfl, Hw3.out.trans HO4.out⟩
end Go.Proofs.Ytlfcjbeldnkkoaa
