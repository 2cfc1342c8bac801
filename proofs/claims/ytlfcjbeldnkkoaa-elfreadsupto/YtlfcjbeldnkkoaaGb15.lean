import Derived.Test.YtlfcjbeldnkkoaaGb14
namespace Go.Proofs.Ytlfcjbeldnkkoaa
open Go.RowKit
set_option linter.unusedVariables false
set_option linter.unusedSimpArgs false
def enV (l : List En) : List Value := l.flatMap En.cs
theorem enV_len (l : List En) : (enV l).length = l.length * 12 := by
  induction l with
  | nil => rfl
  | cons x r ih => show (x.cs ++ enV r).length = _; rw [List.length_append, ih]; simp [En.cs]; omega
theorem enV_app (l m : List En) : enV (l ++ m) = enV l ++ enV m := by simp [enV, List.flatMap_append]
theorem enV_one (l : List En) : ∀ u ∈ enV l, u.oneCell' = true := by
  intro u hu
  simp only [enV, List.mem_flatMap] at hu
  obtain ⟨x, _, hx⟩ := hu
  simp only [En.cs, List.mem_cons, List.not_mem_nil, or_false] at hx
  rcases hx with rfl | rfl | rfl | rfl | rfl | rfl | rfl | rfl | rfl | rfl | rfl | rfl <;> rfl
def OwE (B : Nat) (v : Value) (E : List En) (w : World) : Prop := w.ownsRow B 100 12 v E.length (enV E)
/-- the file that is being read, at p -/
structure FS (w0 wr : World) (p g off n c T : Nat) (ev : Value) (E : List En) : Prop where
  fil : wr.heap[p]? = some (.cells #[.slice (some ⟨g, off, none⟩) n c, .int .i64 (T : Int), ev] 60 (0, 0))
  own : OwE w0.heap.size ev E wr
  ge : w0.heap.size ≤ p
  out : Out w0 wr
theorem FS.cell {w0 wr : World} {p g off n c T : Nat} {ev : Value} {E : List En} (h : FS w0 wr p g off n c T ev E) (j : Nat) : wr.cell? ⟨p, j, none⟩ = (#[.slice (some ⟨g, off, none⟩) n c, .int .i64 (T : Int), ev] : Array Value)[j]? := by simp [World.cell?, h.fil]
theorem FS.frozen {w0 wr : World} {p g off n c T : Nat} {ev : Value} {E : List En} (h : FS w0 wr p g off n c T ev E) (j : Nat) : wr.frozen? ⟨p, j, none⟩ = false := by simp [World.frozen?, h.fil]
theorem FS.lt {w0 wr : World} {p g off n c T : Nat} {ev : Value} {E : List En} (h : FS w0 wr p g off n c T ev E) : p < wr.heap.size := (Array.getElem?_eq_some_iff.1 h.fil).1
theorem FS.on {w0 wr w' : World} {p g off n c T : Nat} {ev : Value} {E : List En} (h : FS w0 wr p g off n c T ev E) (o : Out wr w') : FS w0 w' p g off n c T ev E :=
  ⟨(o.block p h.lt).trans h.fil, owns_chg (S := fun _ => False) h.own (fun _ _ h => h) (Chg.of_out o), h.ge, h.out.trans o⟩
/-- behind an append to the entries, and the store of the list -/
theorem FS.push {w0 X w' : World} {p g off n c T g4 c4 : Nat} {ev : Value} {E : List En} {x : En} (h : FS w0 X p g off n c T ev E) (hg : X.grownBy w' ev.ownBlock) (ho : w'.ownsRow w0.heap.size 100 12 (.slice (some ⟨g4, 0, none⟩) (E.length + 1) c4) (E.length + 1) (enV E ++ x.cs)) (hw : ev.ownBlock = some g4 ∨ g4 = X.heap.size) :
    FS w0 (w'.setCell ⟨p, 2, none⟩ (.slice (some ⟨g4, 0, none⟩) (E.length + 1) c4)) p g off n c T (.slice (some ⟨g4, 0, none⟩) (E.length + 1) c4) (E ++ [x]) ∧ w'.cell? ⟨p, 2, none⟩ = some ev ∧ w'.frozen? ⟨p, 2, none⟩ = false := by
  have hnp : ¬ ev.ownBlock = some p := own_type h.own h.fil (by decide)
  have hc : Chg (fun k => ev.ownBlock = some k) X w' := Chg.of_grown hg (fun k hk => hk)
  have hp : w'.heap[p]? = X.heap[p]? := hc.block p h.lt hnp
  have hf := hp.trans h.fil
  have hne : ¬ g4 = p := by
    rcases hw with hw | hw
    · intro e; exact hnp (by rw [hw, e])
    · have := h.lt; omega
  have c2 : Chg (fun k => k = p) w' (w'.setCell ⟨p, 2, none⟩ (.slice (some ⟨g4, 0, none⟩) (E.length + 1) c4)) := Chg.setCell (S := fun k => k = p) (Chg.refl _ w') (p := ⟨p, 2, none⟩) rfl _
  refine ⟨⟨?_, ?_, h.ge, ?_⟩, by simp [World.cell?, hf], by simp [World.frozen?, hf]⟩
  · simp [World.setCell, Array.getElem?_modify, hf]
  · have := owns_chg ho (fun k hk e => by simp [Value.ownBlock] at hk; exact hne (by rw [hk, e])) c2
    unfold OwE
    rw [enV_app, List.length_append]
    simpa [enV] using this
  · exact (Chg.out (S := fun k => ev.ownBlock = some k) hc h.out (fun k hk => (h.own.lt k hk).1)).setCell (a := ⟨p, 2, none⟩) h.ge _
/-- entry by entry -/
def tkF (l : List UInt8) (T : Nat) : Nat → Nat → Nat → List En → List En × Option Nat
  | 0, _, _, E => (E, none)
  | k + 1, place, begin, E =>
    match fltF ((l.drop place).take 64) 0 (rowW T l.length place begin).fds with
    | some a => (E, some (place + a))
    | none => tkF l T k (place + 64) (up8 (begin + (fldI ((l.drop place).take 64) 32 8).toNat)) (E ++ [enP ((l.drop place).take 64) place begin])
/-- a field that is right -/
theorem flt_get (l : List UInt8) : ∀ (L : List Fd) (i p : Nat) (f : Fd), fltF l p L = none → L[i]? = some f → f.lo ≤ nmB ((l.drop (p + widF (L.take i))).take f.w) ∧ nmB ((l.drop (p + widF (L.take i))).take f.w) ≤ f.hi
  | [], i, p, f, _, h => by simp at h
  | f' :: r, 0, p, f, hn, h => by
    simp at h; subst h
    unfold fltF at hn
    split at hn
    · cases hn
    · simp [widF]; omega
  | f' :: r, i + 1, p, f, hn, h => by
    unfold fltF at hn
    split at hn
    · cases hn
    · have := flt_get l r i (p + f'.w) f hn (by simpa using h)
      simpa [widF, Nat.add_assoc] using this
theorem wrap64_small (n : Nat) (h : n ≤ 1000000000000) : wrap64 (n : Int) = n := by
  unfold wrap64
  first | omega | (rw [IntKind.wrap_i64]; omega) | (simp; omega)
theorem size_le {l : List UInt8} {T n place begin : Nat} (hT : T ≤ 1000000000000) (hb : begin ≤ T) (h : fltF l 0 (rowW T n place begin).fds = none) : nmB ((l.drop 32).take 8) ≤ T - begin := by
  have h5 : ∀ r : Rw, fltF l 0 r.fds = none → nmB ((l.drop 32).take 8) ≤ r.s.2 := fun r hr => (flt_get l r.fds 5 0 ⟨8, r.s.1, r.s.2⟩ hr rfl).2
  have hj : jw ((T : Int) - begin) = T - begin := by unfold jw; omega
  unfold rowW at h
  split at h
  · have := h5 _ h; simp [zRw] at this; omega
  · split at h
    · have := h5 _ h; simp only [rowL] at this; rw [hj] at this; exact this
    · have := h5 _ h; simp only [rowM] at this; rw [hj] at this; exact this
end Go.Proofs.Ytlfcjbeldnkkoaa
namespace Go.Proofs.Ytlfcjbeldnkkoaa
open Go.RowKit
set_option linter.unusedVariables false
set_option linter.unusedSimpArgs false
theorem rowAt_any (w : World) (p g off n c T place begin : Nat) (h0 : w.cell? ⟨p, 0, none⟩ = some (.slice (some ⟨g, off, none⟩) n c)) (h1 : w.cell? ⟨p, 1, none⟩ = some (.int .i64 T)) (hT : T ≤ 1000000000000) (hb : begin ≤ T) (hn : n ≤ 1000000000000) (hn64 : 64 ≤ n) (hp : place ≤ 1000000000000) :
    Calls Try.prog 50 #[.pointer (some ⟨p, 0, none⟩), .int .i64 place, .int .i64 begin] w fun e w' => e = .returned (.agg (rowW T n place begin).cs.toArray) ∧ Out w w' := by
  by_cases h : place = T
  · exact rowAt_zero w p g off n c T place begin h0 h1 hT hb hn hn64 hp h
  · by_cases h2 : place + 64 = n
    · exact rowAt_last w p g off n c T place begin h0 h1 hT hb hn hn64 hp h h2
    · exact rowAt_mid w p g off n c T place begin h0 h1 hT hb hn hn64 hp h h2
/-- an entry's box -/
def BoxE (w : World) (q : Nat) (x : En) : Prop := w.heap[q]? = some (.cells x.cs.toArray 100 (0, 0))
theorem BoxE.cells {wx : World} {q : Nat} {x : En} (h : BoxE wx q x) : wx.cell? ⟨q, 0, none⟩ = some (.int .i64 x.pl) ∧ wx.cell? ⟨q, 1, none⟩ = some (.string ⟨x.nm.toArray⟩) ∧ wx.cell? ⟨q, 2, none⟩ = some (.int .i64 x.ty) ∧ wx.cell? ⟨q, 3, none⟩ = some (.int .i64 x.fl) ∧ wx.cell? ⟨q, 4, none⟩ = some (.int .i64 x.li) ∧ wx.cell? ⟨q, 5, none⟩ = some (.int .i64 x.inf) ∧ wx.cell? ⟨q, 6, none⟩ = some (.int .i64 x.al) ∧ wx.cell? ⟨q, 7, none⟩ = some (.int .i64 x.es) ∧ wx.cell? ⟨q, 8, none⟩ = some (.slice none 0 0) ∧ wx.cell? ⟨q, 9, none⟩ = some (.int .i64 x.na) ∧ wx.cell? ⟨q, 10, none⟩ = some (.int .i64 x.bg) ∧ wx.cell? ⟨q, 11, none⟩ = some (.int .i64 x.en) := by
  have hb : wx.heap[q]? = some (.cells #[.int .i64 x.pl, .string ⟨x.nm.toArray⟩, .int .i64 x.ty, .int .i64 x.fl, .int .i64 x.li, .int .i64 x.inf, .int .i64 x.al, .int .i64 x.es, .slice none 0 0, .int .i64 x.na, .int .i64 x.bg, .int .i64 x.en] 100 (0, 0)) := h
  refine ⟨?_, ?_, ?_, ?_, ?_, ?_, ?_, ?_, ?_, ?_, ?_, ?_⟩ <;> simp [World.cell?, hb]
theorem BoxE.chg {S : Nat → Prop} {w w' : World} {q : Nat} {x : En} (h : BoxE w q x) (c : Chg S w w') (hs : ¬ S q) : BoxE w' q x := (c.block q (Array.getElem?_eq_some_iff.1 h).1 hs).trans h
theorem BoxE.out {w w' : World} {q : Nat} {x : En} (h : BoxE w q x) (o : Out w w') : BoxE w' q x := h.chg (S := fun _ => False) (Chg.of_out o) (fun h => h)
theorem enV_one1 (x : En) : ∀ u ∈ x.cs, u.oneCell' = true := fun u hu => enV_one [x] u (by simpa [enV] using hu)
theorem zeroEn : (Try.prog.info? 100).map (fun i => (i.zero, i.size)) = some (some (.agg (En.cs ⟨0, [], 0, 0, 0, 0, 0, 0, 0, 0, 0⟩).toArray), 12) := by kernel_rfl
theorem en_one (x : En) : x.cs.toArray.all (·.oneCell') = true := all_oneCell_toArray (fun u hu => enV_one [x] u (by simpa [enV] using hu))
/-- one round, in plain words -/
theorem tk_none {l : List UInt8} {T k place begin : Nat} {E : List En} (h : fltF ((l.drop place).take 64) 0 (rowW T l.length place begin).fds = none) : tkF l T (k + 1) place begin E = tkF l T k (place + 64) (up8 (begin + (fldI ((l.drop place).take 64) 32 8).toNat)) (E ++ [enP ((l.drop place).take 64) place begin]) := by
  rw [tkF, h]
theorem tk_some {l : List UInt8} {T k place begin a : Nat} {E : List En} (h : fltF ((l.drop place).take 64) 0 (rowW T l.length place begin).fds = some a) : tkF l T (k + 1) place begin E = (E, some (place + a)) := by
  rw [tkF, h]
theorem flt_lt (l : List UInt8) : ∀ (L : List Fd) (p a : Nat), fltF l p L = some a → a ≤ p + widF L
  | [], p, a, h => by simp [fltF] at h
  | f :: r, p, a, h => by
    unfold fltF at h
    split at h
    · cases h; omega
    · have := flt_lt l r (p + f.w) a h
      have e : widF (f :: r) = f.w + widF r := by simp [widF]
      omega
theorem fs_push {w0 wb X w' : World} {p g off n c T g4 c4 : Nat} {ev : Value} {E : List En} {x : En} (h : FS w0 wb p g off n c T ev E) (hg : X.grownBy w' ev.ownBlock) (ho : w'.ownsRow w0.heap.size 100 12 (.slice (some ⟨g4, 0, none⟩) (E.length + 1) c4) (E.length + 1) (enV E ++ x.cs)) (hw : ev.ownBlock = some g4 ∨ g4 = X.heap.size) (o : Out wb X) :
    FS w0 (w'.setCell ⟨p, 2, none⟩ (.slice (some ⟨g4, 0, none⟩) (E.length + 1) c4)) p g off n c T (.slice (some ⟨g4, 0, none⟩) (E.length + 1) c4) (E ++ [x]) ∧ w'.cell? ⟨p, 2, none⟩ = some ev ∧ w'.frozen? ⟨p, 2, none⟩ = false := (h.on o).push hg ho hw
theorem bx_grow {wb X w' : World} {q : Nat} {x : En} {ev : Value} (h : BoxE wb q x) (hq : ∀ v, ev.ownBlock = some v → ¬ v = q) (hg : X.grownBy w' ev.ownBlock) (o : Out wb X) : BoxE w' q x :=
  (h.out o).chg (Chg.of_grown (S := fun k => ev.ownBlock = some k) hg (fun k hk => hk)) (fun hk => hq q hk rfl)
theorem bx_set {w : World} {q p j : Nat} {x : En} {u : Value} (h : BoxE w q x) (hn : ¬ q = p) : BoxE (w.setCell ⟨p, j, none⟩ u) q x := h.chg (S := fun k => k = p) (Chg.setCell (S := fun k => k = p) (Chg.refl _ w) (p := ⟨p, j, none⟩) rfl u) hn
/-- a round's facts -/
structure RD (l : List UInt8) (T place begin : Nat) (sz : Int) : Prop where
  eq : fldI ((l.drop place).take 64) 32 8 = sz
  ge : 0 ≤ sz
  le : sz ≤ (T : Int) - begin
theorem rd_of {l : List UInt8} {T place begin : Nat} (hT : T ≤ 1000000000000) (hb : begin ≤ T) (h : fltF ((l.drop place).take 64) 0 (rowW T l.length place begin).fds = none) : ∃ m : Nat, RD l T place begin m ∧ begin + m ≤ T := by
  have h1 := size_le hT hb h
  refine ⟨nmB ((((l.drop place).take 64).drop 32).take 8), ⟨?_, by omega, by omega⟩, by omega⟩
  exact wrap64_small _ (by omega)
set_option maxRecDepth 8000 in
set_option maxHeartbeats 2000000 in
theorem takeEntries_any (w0 w : World) (p g off c T k : Nat) (l : List UInt8) (hF : FS w0 w p g off l.length c T (.slice none 0 0) []) (hB : Bin w0 g off c l) (hT8 : T % 8 = 0) (hT : 64 ≤ T) (hk : T + 64 * k = l.length) :
    Calls Try.prog 20 #[.pointer (some ⟨p, 0, none⟩)] w fun e w' => e = .returned (.tuple #[.int .i64 ((tkF l T k T 64 []).2.getD 0 : Nat), .bool (tkF l T k T 64 []).2.isSome]) ∧ (∃ ev, FS w0 w' p g off l.length c T ev (tkF l T k T 64 []).1) := by
  have HF := hidOf hF
  have HB := hidOf hB
  have hlb := hB.big
  have hcap := hB.cap
  have hlI : (l.length : Int) ≤ 1000000000000 := by omega
  have hTI : (T : Int) ≤ l.length := by omega
  have hcI : (l.length : Int) ≤ c := by omega
  have c0 : w.cell? ⟨p, 0, none⟩ = some (.slice (some ⟨g, off, none⟩) l.length c) := hF.cell 0
  have c1 : w.cell? ⟨p, 1, none⟩ = some (.int .i64 (T : Int)) := hF.cell 1
  obtain ⟨i0, hi0, hz0, hz1, hz2⟩ := info_parts infoEn
  clear hF hB
  go_enter Try.func20, Try.ntmps20
  go_wp2
  clear c0 c1
  go_loopw [5, 4] (fun pv bv wr => ∃ (i place begin : Nat) (ea : Option Addr) (ec : Nat) (E : List En), pv = .int .i64 place ∧ bv = .int .i64 begin ∧ i ≤ k ∧ place = T + 64 * i ∧ begin ≤ T ∧ E.length = i ∧ Hid (tkF l T k T 64 [] = tkF l T (k - i) place begin E) ∧ Hid (FS w0 wr p g off l.length c T (.slice ea E.length ec) E)) (fun pv _ _ => l.length - (intOf pv).toNat)
  case atStart => exact ⟨0, T, 64, none, 0, [], rfl, rfl, by omega, by omega, hT, rfl, rfl, HF.out⟩
  case round =>
    obtain ⟨i, place, begin, ea, ec, E, rfl, rfl, hik, hpl, hbT, hEi, HE, HS⟩ := hrel
    have d0 : wr.cell? ⟨p, 0, none⟩ = some (.slice (some ⟨g, off, none⟩) l.length c) := HS.out.cell 0
    have d1 : wr.cell? ⟨p, 1, none⟩ = some (.int .i64 (T : Int)) := HS.out.cell 1
    by_cases hlt' : i < k
    · have hlt : (place : Int) < l.length := by omega
      have hp0 : (0 : Int) ≤ place := by omega
      have hp64 : (place : Int) + 64 ≤ l.length := by omega
      have hcp : ¬ c = place := by omega
      obtain ⟨m, hm⟩ : ∃ m, k - i = m + 1 := ⟨k - i - 1, by omega⟩
      have hsl : ((l.drop place).take 64).length = 64 := by rw [List.length_take, List.length_drop]; omega
      obtain ⟨s, hs⟩ : ∃ s, s = (l.drop place).take 64 := ⟨_, rfl⟩
      have HBs : Hid (∀ wx, Out w0 wx → Bin wx g (off + place) (c - place) s) := fun wx o => ⟨(HB.out.out o).lt, by rw [hs]; exact (HB.out.out o).at_.cut place 64, by rw [hs, hsl]; omega, by rw [hs, hsl]; omega⟩
      obtain ⟨r, hr⟩ : ∃ r, r = rowW T l.length place begin := ⟨_, rfl⟩
      have CR : Hid (Calls Try.prog 50 #[.pointer (some ⟨p, 0, none⟩), .int .i64 place, .int .i64 begin] wr fun e w' => e = .returned (.agg r.cs.toArray) ∧ Out wr w') := by
        rw [hr]; exact rowAt_any wr p g off l.length c T place begin d0 d1 (by omega) hbT hlb (by omega) (by omega)
      have CF : Hid (∀ wx, Out wr wx → Calls Try.prog 33 #[.agg r.cs.toArray] wx fun e w' => ∃ a c, e = .returned (.slice a 10 c) ∧ OwF 0 (.slice a 10 c) r.fds w' ∧ Out wr w') := fun wx ho => (fields_any r wx).mono fun e w' ⟨a, c, he, h1, h2⟩ => ⟨a, c, he, own_base h1 (Nat.zero_le _), ho.trans h2⟩
      obtain ⟨F, hFl⟩ : ∃ F, F = fltF s 0 r.fds := ⟨_, rfl⟩
      have CX : Hid (∀ wx fa fc, Out wr wx → OwF 0 (.slice fa 10 fc) r.fds wx → Calls Try.prog 48 #[.slice (some ⟨g, off + place, none⟩) 64 (c - place), .slice fa 10 fc] wx fun e w' => e = .returned (.tuple #[.int .i64 (F.getD 0 : Nat), .bool F.isSome]) ∧ Out wr w') := by
        intro wx fa fc ho hO
        have hb := HBs.out wx (HS.out.out.trans ho)
        have hs64 : s.length = 64 := by rw [hs]; exact hsl
        have := fault_any wx g (off + place) (c - place) s fa fc r.fds hb.lt hb.at_ hb.cap hb.big hO (fds_w r) (by rw [fds_wid, hs64]; omega) (by rw [fds_len]; omega)
        rw [hs64, ← hFl] at this
        exact this.mono fun e w' ⟨h1, h2⟩ => ⟨h1, ho.trans h2⟩
      have O0 := hidOf (Out.refl wr)
      generalize hRC : r.cs.toArray = RC at *
      clear hRC
      cases hF0 : F with
      | some a =>
        have hE2 : tkF l T k T 64 [] = (E, some (place + a)) := by
          rw [HE.out, hm]; exact tk_some (by rw [← hr, ← hs, ← hFl, hF0])
        have ha : a ≤ 64 := by
          have := flt_lt s r.fds 0 a (by rw [← hFl, hF0])
          rw [fds_wid] at this; omega
        have haI : (a : Int) ≤ 64 := by omega
        have HE2 := hidOf hE2
        rw [hF0] at CX
        have Hpl := hidOf hpl
        clear hE2 hFl hr hs HE hm hpl
        go_wp2_with (first | (go_at_call 50; refine (CR.out).mono ?_; rintro e w1 ⟨rfl, hO1⟩; have HO1 := hidOf hO1; clear hO1) | (go_at_call 33; refine (CF.out _ HO1.out).mono ?_; rintro e w2 ⟨fa, fc, rfl, hO, hO2⟩; have HOf := hidOf hO; have HO2 := hidOf hO2; clear hO hO2) | (go_at_call 48; refine (CX.out _ _ _ HO2.out HOf.out).mono ?_; rintro e w3 ⟨rfl, hO3⟩; have HO3 := hidOf hO3; clear hO3))
        go_ret2
        rw [HE2.out]
        exact ⟨rfl, _, HS.out.on HO3.out⟩
      | none =>
        obtain ⟨sz, hrd, hend⟩ := rd_of (l := l) (T := T) (place := place) (begin := begin) (by omega) hbT (by rw [← hr, ← hs, ← hFl, hF0])
        have hsz0 : (0 : Int) ≤ sz := by omega
        have hsz1 : (sz : Int) ≤ 1000000000000 := by omega
        have hpb : place ≤ 1000000000000 := by omega
        have hbb : begin ≤ 1000000000000 := by omega
        have hE2 : tkF l T k T 64 [] = tkF l T m (place + 64) (up8 (begin + sz)) (E ++ [enP s place begin]) := by
          rw [HE.out, hm, tk_none (by rw [← hr, ← hs, ← hFl, hF0]), hrd.eq, hs]; rfl
        have hs64 : s.length = 64 := by rw [hs]; exact hsl
        have CE : Hid (∀ wx, Out wr wx → Calls Try.prog 51 #[.slice (some ⟨g, off + place, none⟩) 64 (c - place), .int .i64 place, .int .i64 begin] wx fun e w' => e = .returned (.agg (enP s place begin).cs.toArray) ∧ Out wr w') := fun wx ho => by
          have he : fldI s 32 8 = sz := by rw [hs]; exact hrd.eq
          have := entryOf_any wx g (off + place) (c - place) place begin s (HBs.out wx (HS.out.out.trans ho)) hs64 hpb hbb (by rw [he]; exact hsz0) (by rw [he]; exact hsz1)
          exact this.mono fun e w' ⟨h1, h2⟩ => ⟨h1, ho.trans h2⟩
        have hen : (enP s place begin).en = (begin : Int) + sz := by rw [hs]; show (begin : Int) + fldI _ 32 8 = _; rw [hrd.eq]
        obtain ⟨x, hx⟩ : ∃ x, x = enP s place begin := ⟨_, rfl⟩
        rw [← hx] at CE hE2 hen
        have HE2 := hidOf hE2
        have Hen := hidOf hen
        have Hend := hidOf hend
        rw [hF0] at CX
        have Hpl := hidOf hpl
        have HEi := hidOf hEi
        clear hE2 hFl hr hs HE hx hen hrd hend hs64 hpl hEi
        go_upto_region 9 with (first | (go_at_call 50; refine (CR.out).mono ?_; rintro e w1 ⟨rfl, hO1⟩; have HO1 := hidOf hO1; clear hO1) | (go_at_call 33; refine (CF.out _ HO1.out).mono ?_; rintro e w2 ⟨fa, fc, rfl, hO, hO2⟩; have HOf := hidOf hO; have HO2 := hidOf hO2; clear hO hO2) | (go_at_call 48; refine (CX.out _ _ _ HO2.out HOf.out).mono ?_; rintro e w3 ⟨rfl, hO3⟩; have HO3 := hidOf hO3; clear hO3))
        refine wp_region_lit ?_
        refine wpList_plain rfl fun K hK => ?_
        go_simp
        refine hK _ _ ?_
        clear hK
        refine wpList_plain rfl fun K hK => ?_
        go_simp
        refine hK _ _ ?_
        clear hK
        refine wpList_plain rfl fun K hK => ?_
        go_simp
        refine hK _ _ ?_
        clear hK
        refine wpList_plain rfl fun K hK => ?_
        go_simp
        refine (CE.out _ HO3.out).mono ?_
        rintro e w4 ⟨rfl, hO4⟩
        refine hK _ _ ?_
        clear hK
        refine wpList_alloc_new rfl 100 rfl (.agg (En.cs ⟨0, [], 0, 0, 0, 0, 0, 0, 0, 0, 0⟩).toArray) (zero_of_info zeroEn).1 ?_
        refine wpList_store_new rfl 100 (.tmp 9) (.tmp 48) rfl (En.cs ⟨0, [], 0, 0, 0, 0, 0, 0, 0, 0, 0⟩).toArray x.cs.toArray rfl rfl sizeEn rfl (en_one x) ?_
        refine wpList_nil ?_
        simp only [Act.put, List.setIfInBounds_toArray, List.set_cons_zero, List.set_cons_succ]
        obtain ⟨q, hq⟩ : ∃ q, q = w4.heap.size := ⟨_, rfl⟩
        have HX : Hid (BoxE (w4.alloc (.cells x.cs.toArray 100)) q x) := hidOf (by rw [hq]; exact heap_alloc_new w4 _)
        have HS4 := hidOf (HS.out.on (hO4.alloc (.cells x.cs.toArray 100)))
        have Hqn : Hid (∀ v, (Value.slice ea E.length ec).ownBlock = some v → ¬ v = q) := fun v hv e => by
          have h1 := (HS.out.own.lt v hv).2
          have h2 := hO4.size
          omega
        rw [← hq]
        clear hq
        generalize w4.alloc (.cells x.cs.toArray 100) = wb at *
        go_upto_region 10 with fail
        clear d0 d1 HS CR CF CX CE HBs HOf HO1 HO2 HO3 hO4
        have f2 : wb.drew.cell? ⟨p, 2, none⟩ = some (.slice ea E.length ec) := HS4.out.cell 2
        have f2a : ∀ O : Obj, (wb.drew.alloc O).cell? ⟨p, 2, none⟩ = some (.slice ea E.length ec) := fun O => (HS4.out.on (((Out.refl wb).drew).alloc O)).cell 2
        have f2b : ∀ O : Obj, (wb.alloc O).drew.cell? ⟨p, 2, none⟩ = some (.slice ea E.length ec) := fun O => (HS4.out.on (((Out.refl wb).alloc O).drew)).cell 2
        have f2c : ∀ O : Obj, (wb.alloc O).cell? ⟨p, 2, none⟩ = some (.slice ea E.length ec) := fun O => (HS4.out.on (((Out.refl wb).alloc O))).cell 2
        have HKS : Hid (∀ wx, Out wb wx → wx.cell? ⟨q, 0, none⟩ = some (.int .i64 x.pl) ∧ wx.cell? ⟨q, 1, none⟩ = some (.string ⟨x.nm.toArray⟩) ∧ wx.cell? ⟨q, 2, none⟩ = some (.int .i64 x.ty) ∧ wx.cell? ⟨q, 3, none⟩ = some (.int .i64 x.fl) ∧ wx.cell? ⟨q, 4, none⟩ = some (.int .i64 x.li) ∧ wx.cell? ⟨q, 5, none⟩ = some (.int .i64 x.inf) ∧ wx.cell? ⟨q, 6, none⟩ = some (.int .i64 x.al) ∧ wx.cell? ⟨q, 7, none⟩ = some (.int .i64 x.es) ∧ wx.cell? ⟨q, 8, none⟩ = some (.slice none 0 0) ∧ wx.cell? ⟨q, 9, none⟩ = some (.int .i64 x.na) ∧ wx.cell? ⟨q, 10, none⟩ = some (.int .i64 x.bg) ∧ wx.cell? ⟨q, 11, none⟩ = some (.int .i64 x.en)) := fun wx ho => (HX.out.out ho).cells
        have O0 := hidOf (Out.refl wb)
        have O1 := hidOf (Out.drew (Out.refl wb))
        have s0 := HKS.out _ O1.out
        have s1 := HKS.out _ (Out.refl wb)
        have HAp : Hid (∀ wx, Out wb wx → wx.ownsRow w0.heap.size 100 12 (.slice ea E.length ec) E.length (enV E) ∧ w0.heap.size ≤ wx.heap.size) := fun wx ho => ⟨(HS4.out.on ho).own, (HS4.out.on ho).out.size⟩
        have hqp : ¬ q = p := fun e => by
          have h1 := HS4.out.fil
          have h2 : wb.heap[q]? = _ := HX.out
          rw [e, h1] at h2
          simp at h2
        have Hqp := hidOf hqp
        have hEl : E.length ≤ 100000000000 := by have := HEi.out; omega
        clear hqp
        go_region_law (first | (refine step_append_lies _ rfl (.tmp 53) (.tmp 55) 58 rfl w0.heap.size 100 i0 _ 12 120 Try.underlying58 hi0 hz0 hz1 hz2 rfl (by decide) (.slice ea E.length ec) E.length (enV E) rfl (HAp.out _ (by first | with_reducible exact Out.alloc (Hid.out (by assumption)) _ | with_reducible exact Out.drew (Out.alloc (Hid.out (by assumption)) _))).1 _ 1 1 x.cs rfl rfl (by first | exact news_new _ _ _ _ rfl | exact news_drew _ _ _ _ rfl) (enV_one1 x) (by decide) (by unfold maxLen; omega) (by omega) (HAp.out _ (by first | with_reducible exact Out.alloc (Hid.out (by assumption)) _ | with_reducible exact Out.drew (Out.alloc (Hid.out (by assumption)) _))).2 _ rfl ?_; intro g4 cap4 w5 hown4 hgrow4 hg4 hlt4; have HPu := hidOf (fs_push HS4.out hgrow4 hown4 hg4 (by first | with_reducible exact Out.alloc (Hid.out (by assumption)) _ | with_reducible exact Out.drew (Out.alloc (Hid.out (by assumption)) _))); have HB5 := hidOf (bx_grow HX.out Hqn.out hgrow4 (by first | with_reducible exact Out.alloc (Hid.out (by assumption)) _ | with_reducible exact Out.drew (Out.alloc (Hid.out (by assumption)) _))); have HB6 := hidOf (fun u => bx_set (j := 2) (u := u) HB5.out Hqp.out); have Hs4 := hidOf HB5.out.cells; have Hs5 := hidOf (HB6.out (.slice (some ⟨g4, 0, none⟩) (E.length + 1) cap4)).cells; have k2 := HPu.out.2.1; have k2f := HPu.out.2.2; clear hown4 hgrow4 hg4 hlt4) | fail)
        all_goals
          have CU : Hid (∀ wx, Calls Try.prog 47 #[.int .i64 x.en] wx fun e w' => e = .returned (.int .i64 (up8 (begin + sz) : Nat)) ∧ w' = wx) := fun wx => by
            have := up8_any (begin + sz) (by have := Hend.out; omega) wx
            rw [Int.natCast_add] at this
            rw [Hen.out]; exact this
          have e11 := Hs5.out.2.2.2.2.2.2.2.2.2.2.2
          have HFS := hidOf HPu.out.1
          clear s0 s1 HKS f2 f2a f2b f2c k2 k2f Hs4 Hs5 HPu HB5 HB6
          generalize w5.setCell ⟨p, 2, none⟩ (.slice (some ⟨g4, 0, none⟩) (E.length + 1) cap4) = w6 at *
          go_wp2_with (go_at_call 47; refine (CU.out _).mono ?_; rintro e w7 ⟨rfl, hw⟩; have hw := hw.symm; subst hw)
          have hlen : (E ++ [x]).length = E.length + 1 := by simp
          have h1 := Hend.out
          have h2 := Hpl.out
          have h3 := HEi.out
          refine ⟨⟨i + 1, place + 64, up8 (begin + sz), some ⟨g4, 0, none⟩, cap4, E ++ [x], by simp, rfl, by omega, by omega, by unfold up8; omega, by omega, ?_, ?_⟩, by simp [intOf]; omega⟩
          · show _ = _
            rw [HE2.out, show k - (i + 1) = m by omega]
          · show FS _ _ _ _ _ _ _ _ _ _
            rw [hlen]; exact HFS.out
    · have hlt : ¬ (place : Int) < l.length := by omega
      obtain rfl : i = k := by omega
      have hfin : tkF l T i T 64 [] = (E, none) := by rw [HE.out, Nat.sub_self]; rfl
      have HE2 := hidOf hfin
      clear HE hfin hpl hEi
      go_wp2
      go_ret2
      rw [HE2.out]
      exact ⟨rfl, _, HS.out⟩
end Go.Proofs.Ytlfcjbeldnkkoaa
namespace Go.Proofs.Ytlfcjbeldnkkoaa
open Go.RowKit
set_option linter.unusedVariables false
set_option linter.unusedSimpArgs false
/-- the first byte that is not 0 -/
def fnz (l : List UInt8) : Nat → Nat → Option Nat
  | 0, _ => none
  | k + 1, a => if l.getD a 0 = 0 then fnz l k (a + 1) else some a
def padF (l : List UInt8) : List En → Option Nat
  | [] => none
  | e :: r => match fnz l (up8 e.en.toNat - e.en.toNat) e.en.toNat with
    | some a => some a
    | none => padF l r
theorem padF_step (l : List UInt8) (E : List En) (i : Nat) (e : En) (h : E[i]? = some e) : padF l (E.drop i) = match fnz l (up8 e.en.toNat - e.en.toNat) e.en.toNat with
    | some a => some a
    | none => padF l (E.drop (i + 1)) := by
  obtain ⟨hi, hx⟩ := List.getElem?_eq_some_iff.1 h
  rw [List.drop_eq_getElem_cons hi, hx, padF]
theorem OwE.range {B n c g : Nat} {E : List En} {w : World} (h : OwE B (.slice (some ⟨g, 0, none⟩) n c) E w) {i : Nat} {e : En} (he : E[i]? = some e) : w.rangeAt g (i * 12) e.cs := fun j v hv => by
  have hlt : j < 12 := by have := (List.getElem?_eq_some_iff.1 hv).1; simpa [En.cs] using this
  have key : ∀ (E : List En) (i : Nat), E[i]? = some e → (enV E)[i * 12 + j]? = e.cs[j]? := by
    intro E
    induction E with
    | nil => intro i h; simp at h
    | cons y r ih =>
      intro i h
      cases i with
      | zero =>
        simp at h; subst h
        show (y.cs ++ enV r)[0 * 12 + j]? = _
        rw [List.getElem?_append_left (by simp [En.cs]; omega)]; simp
      | succ i =>
        show (y.cs ++ enV r)[(i + 1) * 12 + j]? = _
        rw [List.getElem?_append_right (by simp [En.cs]; omega), ← ih i (by simpa using h)]
        congr 1
        simp [En.cs]; omega
  have h1 := World.ownsRow.cells h (g := g) rfl (i * 12 + j) v (by rw [key E i he]; exact hv)
  rwa [WideShapes.add_plain, Nat.zero_add] at h1
set_option maxRecDepth 8000 in
set_option maxHeartbeats 2000000 in
theorem padding_any (w0 w : World) (p g off c T : Nat) (ev : Value) (E : List En) (l : List UInt8) (hF : FS w0 w p g off l.length c T ev E) (hB : Bin w0 g off c l) (hE : ∀ e ∈ E, 0 ≤ e.en ∧ up8 e.en.toNat ≤ l.length) (hEl : E.length ≤ 1000) :
    Calls Try.prog 21 #[.pointer (some ⟨p, 0, none⟩)] w fun e w' => e = .returned (.tuple #[.int .i64 ((padF l E).getD 0 : Nat), .bool (padF l E).isSome]) ∧ Out w w' := by
  have HF := hidOf hF
  have HB := hidOf hB
  have HE := hidOf hE
  have hlb := hB.big
  have hcap := hB.cap
  have hlI : (l.length : Int) ≤ 1000000000000 := by omega
  have hEI : (E.length : Int) ≤ 1000 := by omega
  obtain ⟨ea, ec, rfl⟩ := own_form hF.own
  have c2 : w.cell? ⟨p, 2, none⟩ = some (.slice ea E.length ec) := hF.cell 2
  clear hF hB hE
  go_enter Try.func21, Try.ntmps21
  go_wp2
  clear c2
  go_loopw [12] (fun iv wr => ∃ i : Nat, iv = .int .i64 i ∧ i ≤ E.length ∧ Hid (padF l E = padF l (E.drop i)) ∧ Hid (Out w wr)) (fun iv _ => E.length - (intOf iv).toNat)
  case atStart => exact ⟨0, rfl, by omega, rfl, Out.refl _⟩
  case round =>
    obtain ⟨i, rfl, hi, HP, Ho⟩ := hrel
    by_cases hiE : i < E.length
    · have hlt : (i : Int) < E.length := by omega
      have h0 : (0 : Int) ≤ i := by omega
      obtain ⟨e, he⟩ : ∃ e, E[i]? = some e := ⟨_, List.getElem?_eq_getElem hiE⟩
      obtain ⟨eg, ec2, hev⟩ := own_some HF.out.own (by omega)
      simp only [Value.slice.injEq] at hev
      obtain ⟨rfl, _, rfl⟩ := hev
      have HRg := hidOf (OwE.range (HF.out.on Ho.out).own he)
      have Hst := hidOf (padF_step l E i e he)
      obtain ⟨he0, heu⟩ := HE.out e (List.mem_of_getElem? he)
      have hecI : (E.length : Int) ≤ ec := by
        have := HF.out.own
        rcases this.2 with ⟨hv, _⟩ | ⟨g', cap, cur, hv, _, _, hc, _⟩
        · cases hv
        · cases hv; omega
      obtain ⟨n0, hn0⟩ : ∃ n0 : Nat, e.en = n0 := ⟨e.en.toNat, by omega⟩
      rw [hn0, Int.toNat_natCast] at Hst heu
      obtain ⟨q, hq⟩ : ∃ q, q = wr.heap.size := ⟨_, rfl⟩
      have HX : Hid (BoxE (wr.alloc (.cells e.cs.toArray 100)) q e) := hidOf (by rw [hq]; exact heap_alloc_new wr _)
      have HO1 := hidOf (Ho.out.alloc (.cells e.cs.toArray 100))
      have Hq := hidOf hq
      clear he hq he0
      go_upto_region 3 with fail
      refine wp_region_lit ?_
      refine wpList_plain rfl fun K hK => ?_
      go_simp
      refine hK _ _ ?_
      clear hK
      refine wpList_load_mid rfl 100 (.tmp 14) rfl eg (i * 12) rfl e.cs _ HRg.out Try.underlying100 rfl sizeEn ?_
      refine wpList_alloc_new rfl 100 rfl (.agg (En.cs ⟨0, [], 0, 0, 0, 0, 0, 0, 0, 0, 0⟩).toArray) (zero_of_info zeroEn).1 ?_
      refine wpList_store_new rfl 100 (.tmp 5) (.tmp 15) rfl (En.cs ⟨0, [], 0, 0, 0, 0, 0, 0, 0, 0, 0⟩).toArray e.cs.toArray rfl rfl sizeEn rfl (en_one e) ?_
      refine wpList_nil ?_
      simp only [Act.put, List.setIfInBounds_toArray, List.set_cons_zero, List.set_cons_succ]
      rw [← Hq.out]
      generalize wr.alloc (.cells e.cs.toArray 100) = wb at *
      have e11 : wb.cell? ⟨q, 11, none⟩ = some (.int .i64 (n0 : Int)) := by have := HX.out.cells.2.2.2.2.2.2.2.2.2.2.2; rwa [hn0] at this
      have b0 : wb.cell? ⟨p, 0, none⟩ = some (.slice (some ⟨g, off, none⟩) l.length c) := (HF.out.on HO1.out).cell 0
      have hup := up8_ge n0
      have CU := hidOf (up8_any n0 (by omega) wb)
      generalize up8 n0 = u at *
      have huI : (u : Int) ≤ l.length := by omega
      generalize e.cs.toArray = EC at *
      go_wp2
      go_loopw [6] (fun pv wk => ∃ a : Nat, pv = .int .i64 a ∧ n0 ≤ a ∧ a ≤ u ∧ Hid (fnz l (u - n0) n0 = fnz l (u - a) a) ∧ wk = wb) (fun pv _ => u - (intOf pv).toNat)
      case atStart => exact ⟨n0, rfl, Nat.le_refl _, hup.1, rfl, rfl⟩
      case round =>
        obtain ⟨a, rfl, ha0, hau, HZ, rfl⟩ := hrel
        by_cases hlt2 : a < u
        · have hltI : (a : Int) < u := by omega
          have ha0I : (0 : Int) ≤ a := by omega
          have halI : (a : Int) < l.length := by omega
          obtain ⟨x, hx⟩ : ∃ x, l[a]? = some x := ⟨_, List.getElem?_eq_getElem (by omega)⟩
          have dx : wr.cell? ⟨g, off + a, none⟩ = some (.int .u8 (x.toNat : Int)) := (HB.out.out (HF.out.out.trans HO1.out)).at_ a x hx
          have hgd : l.getD a 0 = x := by simp [List.getD, hx]
          obtain ⟨m, hm⟩ : ∃ m, u - a = m + 1 := ⟨u - a - 1, by omega⟩
          have hz : fnz l (u - a) a = if x = 0 then fnz l m (a + 1) else some a := by rw [hm, fnz, hgd]
          have Hz := hidOf hz
          have Hm := hidOf hm
          clear hx hgd hz hm
          by_cases hx0 : x = 0
          · have hxn : ((x.toNat : Int) == 0) = true := by rw [hx0]; rfl
            have hxn' : ((x.toNat : Int) != 0) = false := by rw [hx0]; rfl
            go_wp2_with (go_at_call 47; refine (CU.out).mono ?_; rintro e' w7 ⟨rfl, hw⟩; have hw := hw.symm; subst hw)
            have h1 := Hm.out
            refine ⟨⟨a + 1, by simp, by omega, by omega, ?_, trivial⟩, by simp [intOf]; omega⟩
            show _ = _
            rw [HZ.out, Hz.out, if_pos hx0, show u - (a + 1) = m by omega]
          · have hne : ¬ x.toNat = 0 := fun h => hx0 (UInt8.toNat_inj.1 h)
            have hxn : ((x.toNat : Int) == 0) = false := by simp; omega
            have hxn' : ((x.toNat : Int) != 0) = true := by simp [bne]; omega
            have HZs := hidOf (show padF l E = some a by rw [HP.out, Hst.out, HZ.out, Hz.out, if_neg hx0])
            go_wp2_with (go_at_call 47; refine (CU.out).mono ?_; rintro e' w7 ⟨rfl, hw⟩; have hw := hw.symm; subst hw)
            go_ret2
            rw [HZs.out]
            exact ⟨rfl, HO1.out⟩
        · have hltI : ¬ (a : Int) < u := by omega
          obtain rfl : a = u := by omega
          have HZs := hidOf (show padF l E = padF l (E.drop (i + 1)) by rw [HP.out, Hst.out, HZ.out, Nat.sub_self]; rfl)
          go_wp2_with (go_at_call 47; refine (CU.out).mono ?_; rintro e' w7 ⟨rfl, hw⟩; have hw := hw.symm; subst hw)
          exact ⟨⟨i + 1, by simp, by omega, HZs.out, HO1.out⟩, by simp [intOf]; omega⟩
    · have hlt : ¬ (i : Int) < E.length := by omega
      obtain rfl : i = E.length := by omega
      have HPs := hidOf (show padF l E = none by rw [HP.out, List.drop_length]; rfl)
      clear HP
      go_wp2
      go_ret2
      rw [HPs.out]
      exact ⟨rfl, Ho.out⟩
end Go.Proofs.Ytlfcjbeldnkkoaa
