import Derived.Test.YtcalbhcgimipeaaEnc
import Derived.Test.YtcalbhcgimipeaaEmg
namespace Go.Proofs.Ytcalbhcgimipeaa
open Go.RowKit
set_option linter.unusedVariables false
set_option linter.unusedSimpArgs false
theorem OwB.dr {B : Nat} {w : World} {x : SV} (h : OwB B (.slice x.da x.s.d.length x.dc) x.s.d w) : DR w x := by
  obtain ⟨a, cp, hv, hc, hr⟩ := h.rest
  cases hv
  exact ⟨hr, hc⟩
theorem OwB.datAt {B : Nat} {w : World} {x : SV} (h : OwB B (.slice x.da x.s.d.length x.dc) x.s.d w) : DatAt w.heap.size w x := by
  obtain ⟨xs, da, dc⟩ := x
  have hdr := OwB.dr (x := ⟨xs, da, dc⟩) h
  rcases h.2 with ⟨hv, h0⟩ | ⟨g, cap, cur, hv, hb, hg, hc, _⟩
  · simp only [Value.slice.injEq] at hv
    obtain ⟨rfl, _, rfl⟩ := hv
    exact .inl ⟨rfl, List.length_eq_zero_iff.1 h0, rfl⟩
  · simp only [Value.slice.injEq] at hv
    obtain ⟨rfl, _, rfl⟩ := hv
    refine .inr ⟨⟨g, 0, none⟩, rfl, .inr (Array.getElem?_eq_some_iff.1 hg).1, fun j u hu => ?_⟩
    simp only [Lib.byteCells, List.getElem?_map, Option.map_eq_some_iff] at hu
    obtain ⟨y, hy, rfl⟩ := hu
    rcases hdr.1 with h1 | ⟨b, off, _, h1, hc⟩
    · rw [show xs.d = [] from h1] at hy; simp at hy
    · cases h1
      rw [WideShapes.add_plain]
      exact hc j y hy
theorem SS.at {w w' : World} {a : Option Addr} {n c : Nat} {Ls : List SV} (h : SS w w' (.slice a n c) Ls) : ScAt w'.heap.size w' a Ls ∧ Ls.length ≤ c ∧ n = Ls.length := h.own.at
theorem SS.dr {w w' : World} {lv : Value} {Ls : List SV} (h : SS w w' lv Ls) : ∀ x ∈ Ls, DR w' x := fun x hx => (h.dat x hx).dr
theorem SS.datAt {w w' : World} {lv : Value} {Ls : List SV} (h : SS w w' lv Ls) : ∀ x ∈ Ls, DatAt w'.heap.size w' x := fun x hx => (h.dat x hx).datAt
def WrEnd (w : World) (ss : List Sec) (e : Ending) (w' : World) : Prop := (writeOk ss = false ∧ e = .returned (.tuple #[.slice none 0 0, .int .i64 92]) ∧ Out w w') ∨ (writeOk ss = true ∧ ∃ a c, e = .returned (.tuple #[.slice a (writeB ss).length c, .int .i64 0]) ∧ OwB w.heap.size (.slice a (writeB ss).length c) (writeB ss) w' ∧ Out w w')
theorem nms_ok_iff (ss : List Sec) : (∀ x ∈ nmsS ss, nameOk x = true) ↔ (ss.all fun s => nameOk s.nm) = true := by
  have h : nameOk shN = true := by decide
  simp only [nmsS, List.mem_append, List.mem_map, List.mem_singleton, List.all_eq_true]
  constructor
  · intro hx s hs
    exact hx _ (.inl ⟨s, hs, rfl⟩)
  · rintro hs x (⟨s, h1, rfl⟩ | rfl)
    · exact hs s h1
    · exact h
theorem write_elf (w : World) (a : Option Addr) (c : Nat) (L : List SV) (h : ScAt w.heap.size w a L) (hD : ∀ x ∈ L, DatAt w.heap.size w x) (hc : L.length ≤ c) (hl : L.length ≤ 1000000000000) (hs : sumD (secs L) ≤ 100000000000) :
    Calls Try.prog 12 #[.slice a L.length c] w fun e w' => WrEnd w (secs L) e w' := by
  have hany : (secs L).any badP = L.any (fun x => badP x.s) := by simp [secs, List.any_map, Function.comp_def]
  by_cases h16 : L.length ≤ 16
  · cases hb : L.any (fun x => badP x.s) with
    | true =>
      refine (write_bad w.heap.size a c L w h (Nat.le_refl _) hc h16 hb).mono ?_
      rintro e w' ⟨rfl, o⟩
      exact .inl ⟨by rw [writeOk, hany, hb]; simp, rfl, o⟩
    | false =>
      by_cases hn : ∀ x ∈ nmsS (secs L), nameOk x = true
      · refine (write_ok w.heap.size a c L w _ h hD (Nat.le_refl _) hc h16 hb hn hs rfl).mono ?_
        rintro e w' ⟨a', c', rfl, ho, o⟩
        exact .inr ⟨by rw [writeOk, hany, hb, (nms_ok_iff _).1 hn, secs_len]; simp [h16], a', c', rfl, ho, o⟩
      · refine (write_noname w.heap.size a c L w h (Nat.le_refl _) hc h16 hb hn).mono ?_
        rintro e w' ⟨rfl, o⟩
        have : ((secs L).all fun s => nameOk s.nm) = false := by
          cases hq : (secs L).all fun s => nameOk s.nm with
          | false => rfl
          | true => exact absurd ((nms_ok_iff _).2 hq) hn
        exact .inl ⟨by rw [writeOk, this]; simp, rfl, o⟩
  · refine (write_many a L.length c w (by omega) hl).mono ?_
    rintro e w' ⟨rfl, rfl⟩
    exact .inl ⟨by rw [writeOk, secs_len]; simp [h16], rfl, Out.refl _⟩
theorem write_size (ss : List Sec) (hok : writeOk ss = true) (hs : sumD ss ≤ 100000000000) : (writeB ss).length ≤ 300000000000 ∧ 64 ≤ (writeB ss).length := by
  simp only [writeOk, Bool.and_eq_true, decide_eq_true_eq, Bool.not_eq_true'] at hok
  obtain ⟨⟨h16, _⟩, hn⟩ := hok
  obtain ⟨_, _, _, hd4⟩ := namesF_ok (nmsS ss) ((nms_ok_iff ss).2 hn)
  have hnl : (nmsS ss).length = ss.length + 1 := by simp [nmsS]
  have htl : (tabD ss).length = szF 1 (namesF (nmsS ss)) := byP_len _
  have hal : (allS ss).length = ss.length + 1 := by simp [allS]
  have hpl : (plsS ss).length = ss.length + 1 := by simp [plsS, nmsS]
  have hsum : sumD (allS ss) = sumD ss + (tabD ss).length := by simp [allS, sumD, tabS]
  have hT1 := endF_le (allS ss) 64
  have hl : (writeB ss).length = endF 64 (allS ss) + 64 * (ss.length + 2) := by
    unfold writeB
    rw [List.length_append, bodF_len, layB_len, headF_wid, tblF_len, List.length_cons, rowsF_len _ _ _ (by rw [hal, hpl]), hal]
  omega
/-- bytes of one's own, as they are read -/
theorem OwB.bin {B : Nat} {a : Option Addr} {n c : Nat} {l : List UInt8} {w : World} (h : OwB B (.slice a n c) l w) (h0 : 0 < l.length) (hb : l.length ≤ 1000000000000) : ∃ g, a = some ⟨g, 0, none⟩ ∧ n = l.length ∧ Bin w g 0 c l := by
  obtain ⟨a', cp, hv, hc, hr⟩ := h.rest
  rcases h.2 with ⟨hv2, hz⟩ | ⟨g, cap, cur, hv2, _, hg, _⟩
  · omega
  · cases hv
    cases hv2
    refine ⟨g, rfl, rfl, (Array.getElem?_eq_some_iff.1 hg).1, ?_, hc, hb⟩
    rcases hr with h1 | ⟨b, off, _, h1, hc2⟩
    · rw [h1] at h0; simp at h0
    · cases h1
      exact hc2
theorem sizeSc : (Try.prog.info? 60).map (·.size) = some 8 := by kernel_rfl
theorem plain_any (s : List UInt8) (a : Option Addr) (n c : Nat) (w : World) : Calls Try.prog 19 #[.string ⟨s.toArray⟩, .slice a n c] w fun e w' => e = .returned (.agg #[.string ⟨s.toArray⟩, .int .i64 1, .int .i64 6, .int .i64 0, .int .i64 0, .int .i64 8, .int .i64 0, .slice a n c]) ∧ Out w w' := by
  go_enter Try.func19, Try.ntmps19
  go_wp2
  refine bodyPost_ret (results_cell_row rfl _ _ w.heap.size 60 _ (0, 0) _ rfl (heap_alloc_new _ _) Try.underlying60 rfl sizeSc) rfl ?_
  exact ⟨rfl, (Out.refl _).alloc _⟩
def s0 : Sec := ⟨[46, 116, 101, 120, 116], 1, 6, 0, 0, 8, 0, [1, 2, 3]⟩
theorem s0_ok : writeOk [s0] = true := by kernel_rfl
theorem s0_len : (writeB [s0]).length = 288 := by kernel_rfl
theorem s0_at : (writeB [s0])[66]? = some 3 ∧ (writeB [s0])[72]? = some 0 ∧ (writeB [s0])[73]? = some 46 := ⟨by kernel_rfl, by kernel_rfl, by kernel_rfl⟩
end Go.Proofs.Ytcalbhcgimipeaa
