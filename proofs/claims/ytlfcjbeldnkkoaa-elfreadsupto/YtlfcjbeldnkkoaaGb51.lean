import Derived.Test.YtlfcjbeldnkkoaaGb50
import Derived.Test.YtlfcjbeldnkkoaaGb36
import Derived.Test.YtlfcjbeldnkkoaaGb41
import Derived.Test.YtlfcjbeldnkkoaaGb20
import Derived.Test.YtlfcjbeldnkkoaaGb23
namespace Go.Proofs.Ytlfcjbeldnkkoaa
open Go.RowKit
set_option linter.unusedVariables false
set_option linter.unusedSimpArgs false
/-- the reference's Read answers as Read does -/
theorem refRead9_any (w : World) (g off c : Nat) (b : List UInt8) (hB : Bin w g off c b) : Calls Try.prog 11 #[.slice (some ⟨g, off, none⟩) b.length c] w fun e w' => RdEnd w b e w' := by
  by_cases h0 : b.length < 64
  · refine (rread9_short w _ _ c h0).mono ?_
    rintro e w' ⟨rfl, rfl⟩
    exact .bad (rdEl_short h0) (Out.refl _)
  · cases h1 : hdFlt b with
    | some a =>
      refine (rread9_head w g off c b hB (by omega) a h1).mono ?_
      rintro e w' ⟨rfl, o⟩
      exact .bad (rdEl_head (by omega) h1) o
    | none =>
      cases h2 : (tkF b (tpP b).toNat (cntP b) (tpP b).toNat 64 []).2 with
      | some a =>
        refine (rread9_rows w g off c b hB (by omega) h1 a h2).mono ?_
        rintro e w' ⟨rfl, o⟩
        exact .bad (rdEl_tk (by omega) h1 h2) o
      | none =>
        obtain ⟨T, k, E, nb, r⟩ := rdg_of (by omega) hB.big h1 h2
        exact rread9_tail w g off c b hB (by omega) h1 T k E nb r
end Go.Proofs.Ytlfcjbeldnkkoaa
namespace Go.Proofs.Ytlfcjbeldnkkoaa
open Go.RowKit
set_option linter.unusedVariables false
set_option linter.unusedSimpArgs false
/-- what a Read hands out, in one form -/
def RdF (w : World) (b : List UInt8) (e : Ending) (w' : World) : Prop := ∃ a c Ls, e = .returned (.tuple #[.slice a Ls.length c, .int .i64 (rdEl b).2.1, .int .i64 (rdEl b).2.2]) ∧ SS w w' (.slice a Ls.length c) Ls ∧ secs Ls = (rdEl b).1.getD []
theorem RdEnd.flat {w w' : World} {b : List UInt8} {e : Ending} (h : RdEnd w b e w') : RdF w b e w' := by
  rcases h with ⟨h1, he, ho⟩ | ⟨S, a, c', Ls, h1, he, hS, hs⟩
  · exact ⟨none, 0, [], he, ⟨World.ownsRow_nil _ _ _ _, by simp, ho, fun i j x y hx => by simp at hx⟩, by rw [h1]; rfl⟩
  · have hl : S.length = Ls.length := by rw [← hs, secs_len]
    exact ⟨a, c', Ls, by rw [he, h1, hl], by rw [← hl]; exact hS, by rw [h1]; exact hs⟩
theorem rdEl_small (b : List UInt8) : ((rdEl b).1.getD []).length ≤ 16 ∧ ∀ x ∈ (rdEl b).1.getD [], x.d.length ≤ b.length := by
  unfold rdEl
  split
  · exact ⟨by simp, by simp⟩
  · rename_i hl
    split
    · exact ⟨by simp, by simp⟩
    · rename_i hh
      have hc := (hd_facts (by omega) hh).2.2.2.1
      split
      · exact ⟨by simp, by simp⟩
      · split
        · exact ⟨by simp, by simp⟩
        · split
          · exact ⟨by simp, by simp⟩
          · simp only [Option.getD_some]
            refine ⟨by rw [List.length_map, List.length_take]; omega, fun x hx => ?_⟩
            obtain ⟨e, _, rfl⟩ := List.mem_map.1 hx
            show ((b.drop _).take _).length ≤ _
            rw [List.length_take, List.length_drop]; omega
/-- the data of sections -/
def zs (Ls : List SV) : List (Value × List Int) := Ls.map (fun x => (.slice x.da x.s.d.length x.dc, i8 x.s.d))
theorem zs_cons (x : SV) (Ls : List SV) : zs (x :: Ls) = (.slice x.da x.s.d.length x.dc, i8 x.s.d) :: zs Ls := rfl
section
variable {W w w' : World} {pb B : Nat} {cb c1 : Int} {A Z E : List (Value × List Int)} {dv : Value} {K : List Ln}
theorem Rt.takeZs (h : Rt W w pb B cb c1 A Z E dv K) {lv : Value} {Ls : List SV} (hS : SS w w' lv Ls) (hl : ∀ x ∈ Ls, x.s.d.length ≤ 60000000000000) : Rt W w' pb B cb c1 A (zs Ls ++ Z) E dv K := by
  have h2 := h.more hS.out
  refine ⟨?_, h2.own, h2.buf, h2.dis, h2.bW, h2.out⟩
  rw [List.append_assoc]
  refine h.bq.turnN (N := zs Ls) (S := fun _ => False) (Chg.of_out hS.out) (fun _ h => h.elim) rfl (fun x hx => ?_) (fun x hx k hk => ?_) ?_ (fun x hx => ?_)
  · rcases List.mem_append.1 hx with hx | hx
    · obtain ⟨y, hy, rfl⟩ := List.mem_map.1 hx
      have h3 := hS.dat y hy
      show w'.ownsRow B 5 1 (.slice y.da y.s.d.length y.dc) (i8 y.s.d).length (bV (i8 y.s.d))
      rw [bV_i8B, i8_len]
      exact owns_lower h3 h.bq.bw
    · exact h.bq.keep (S := fun _ => False) (Chg.of_out hS.out) (fun _ h => h.elim) hx
  · obtain ⟨y, hy, rfl⟩ := List.mem_map.1 hx
    exact (World.ownsRow.lt (hS.dat y hy) k hk).1
  · refine List.pairwise_map.2 (List.pairwise_iff_getElem.2 (fun i j hi hj hij k hk hk' => ?_))
    exact hS.dst i j _ _ (List.getElem?_eq_getElem hi) (List.getElem?_eq_getElem hj) (by omega) k hk hk'
  · rcases List.mem_append.1 hx with hx | hx
    · obtain ⟨y, hy, rfl⟩ := List.mem_map.1 hx
      show (i8 y.s.d).length ≤ _
      rw [i8_len]; exact hl y hy
    · exact h.bq.len_ hx
theorem Rt.dr (h : Rt W w pb B cb c1 A Z E dv K) {x : SV} (hx : (Value.slice x.da x.s.d.length x.dc, i8 x.s.d) ∈ Z) : DR w x := by
  have h1 := h.bq.own_of (List.mem_append.2 (.inl hx))
  rw [bV_i8B, i8_len] at h1
  exact OwB.dr (B := B) h1
end
theorem zs_mem {Ls : List SV} {x : SV} (h : x ∈ Ls) : (Value.slice x.da x.s.d.length x.dc, i8 x.s.d) ∈ zs Ls := List.mem_map.2 ⟨x, h, rfl⟩
theorem ow_zv {B : Nat} {v : Value} {Ls : List SV} {w : World} (h : OwV B v Ls w) : OwZ B v (Ls.map SV.fs) w := by
  unfold OwV at h
  unfold OwZ
  rw [List.length_map, ← svV_fs]
  exact h
theorem ow_vz {B : Nat} {v : Value} {Ls : List SV} {w : World} (h : OwZ B v (Ls.map SV.fs) w) : OwV B v Ls w := by
  unfold OwZ at h
  unfold OwV
  rw [List.length_map, ← svV_fs] at h
  exact h
theorem own_kz {B : Nat} {v : Value} {N : List Fs} {w : World} (h : OwZ B v N w) {b : Nat} (hb : v.ownBlock = some b) : ¬ KZ w b := fun hk => by
  obtain ⟨_, cs, hc⟩ := own_blkZ h hb
  exact hk _ _ _ hc (.inl rfl)
theorem OwZ.kz {B : Nat} {v : Value} {N : List Fs} {w w' : World} (h : OwZ B v N w) (c : Chg (KZ w) w w') : OwZ B v N w' := h.chg c (fun b hb hs => own_kz h hb hs)
/-- the shelf stands while others' blocks turn -/
theorem ZI.kz {B : Nat} {w w' : World} {p : Nat} {ct tt : Int} {r : Nat → Value} {L : Nat → List Value} (h : ZI B w p ct tt r L) (c : Chg (KZ w) w w') : ZI B w' p ct tt r L := by
  have pr : ∀ {X Y : List Value}, PrZ w X Y → PrZ w' X Y := fun hp i x y hx hy => by
    obtain ⟨N, a1, c1, a2, c2, h1, h2, h3, h4, h5⟩ := hp i x y hx hy
    exact ⟨N, a1, c1, a2, c2, h1, h2, h3.kz c, h4.kz c, h5⟩
  refine ⟨⟨(c.block p h.sh.lt (fun hs => hs _ _ _ h.sh.st (.inr (.inr rfl)))).trans h.sh.st, fun j hj => owns_chg (h.sh.row j hj) (fun k hk hs => ?_) c, h.sh.sep⟩, h.wl, h.kl, pr h.pf, pr h.pk, fun x hx => ?_, h.ds, h.ap, h.lb⟩
  · obtain ⟨_, cs, hc⟩ := own_blkZ (h.sh.row j hj) hk
    exact hs _ _ _ hc (.inr (.inl rfl))
  · obtain ⟨N, h1, h2⟩ := h.bl x hx
    exact ⟨N, h1, h2.kz c⟩
/-- the shelf's blocks are of its kinds, and lie in the world -/
theorem ZI.blk {B : Nat} {w : World} {p : Nat} {ct tt : Int} {r : Nat → Value} {L : Nat → List Value} (h : ZI B w p ct tt r L) {b : Nat} (hb : ZSZ p r (L 0) b) : b < w.heap.size ∧ ¬ KZ w b := by
  rcases hb with e | ⟨j, hj, e⟩ | ⟨x, hx, e⟩
  · rw [e]; exact ⟨h.sh.lt, fun hk => hk _ _ _ h.sh.st (.inr (.inr rfl))⟩
  · obtain ⟨h1, cs, hc⟩ := own_blkZ (h.sh.row j hj) e
    exact ⟨h1, fun hk => hk _ _ _ hc (.inr (.inl rfl))⟩
  · obtain ⟨N, _, h2⟩ := h.bl x hx
    exact ⟨(own_blkZ h2 e).1, own_kz h2 e⟩
/-- what is newer than the shelf lies apart from it -/
theorem ZI.newer {B : Nat} {w : World} {p : Nat} {ct tt : Int} {r : Nat → Value} {L : Nat → List Value} (h : ZI B w p ct tt r L) {x : Value} (hx : ∀ b, x.ownBlock = some b → w.heap.size ≤ b) : New8 B L x := by
  have hB : B ≤ w.heap.size := Nat.le_trans (h.lb p (.inl rfl)) (Nat.le_of_lt h.sh.lt)
  refine ⟨fun b hb => Nat.le_trans hB (hx b hb), fun j y b hy hb he => ?_, fun l y b hy hb he => ?_⟩
  · obtain ⟨N, _, h2⟩ := h.bl y (List.mem_of_getElem? hy)
    have := (own_blkZ h2 he).1
    have := hx b hb
    omega
  · have hlt : b < w.heap.size := by
      rcases hy with hy | hy
      · obtain ⟨z, hz⟩ : ∃ z, (L 3)[l]? = some z := ⟨_, List.getElem?_eq_getElem (by rw [h.kl]; exact (List.getElem?_eq_some_iff.1 hy).1)⟩
        obtain ⟨N, _, _, _, _, _, _, o1, _⟩ := h.pk l y z hy hz
        exact (own_blkZ o1 he).1
      · obtain ⟨z, hz⟩ : ∃ z, (L 2)[l]? = some z := ⟨_, List.getElem?_eq_getElem (by rw [← h.kl]; exact (List.getElem?_eq_some_iff.1 hy).1)⟩
        obtain ⟨N, _, _, _, _, _, _, _, o2, _⟩ := h.pk l z y hz hy
        exact (own_blkZ o2 he).1
    have := hx b hb
    omega
/-- Read of bytes that came in, by the document -/
theorem refRead9_in (w : World) (N : Nat) (a : Option Addr) (cap : Nat) (l : List UInt8) (hr : RestAt N w a l) (hN : N ≤ w.heap.size) (hc : l.length ≤ cap) (hl : l.length ≤ 1000000000000) : Calls Try.prog 11 #[.slice a l.length cap] w fun e w' => RdF w l e w' := by
  by_cases h0 : l.length < 64
  · refine (rread9_short w _ _ cap h0).mono ?_
    rintro e w' ⟨rfl, rfl⟩
    exact (RdEnd.bad (rdEl_short h0) (Out.refl _)).flat
  · rcases hr with h | ⟨b, o, hb, rfl, hx⟩
    · rw [h] at h0; simp at h0
    · exact (refRead9_any w b o cap l ⟨by omega, hx, hc, hl⟩).mono (fun e w' h => h.flat)
/-- Read of what was lent -/
theorem read9_in (w : World) (N : Nat) (a : Option Addr) (cap : Nat) (l : List UInt8) (hr : RestAt N w a l) (hN : N ≤ w.heap.size) (hc : l.length ≤ cap) (hl : l.length ≤ 1000000000000) : Calls Try.prog 6 #[.slice a l.length cap] w fun e w' => RdF w l e w' := by
  by_cases h0 : l.length < 64
  · refine (read_short w _ _ cap h0).mono ?_
    rintro e w' ⟨rfl, rfl⟩
    exact (RdEnd.bad (rdEl_short h0) (Out.refl _)).flat
  · rcases hr with h | ⟨b, o, hb, rfl, hx⟩
    · rw [h] at h0; simp at h0
    · exact (read_elf w b o cap l ⟨by omega, hx, hc, hl⟩).mono (fun e w' h => h.flat)
end Go.Proofs.Ytlfcjbeldnkkoaa
namespace Go.Proofs.Ytlfcjbeldnkkoaa
open Go.RowKit
set_option linter.unusedVariables false
set_option linter.unusedSimpArgs false
/-- a handed-out list is handed in: its data to the books, itself to the shelf -/
def OwdE (W w : World) (pb ps B : Nat) (cb c1 ct tt : Int) (Z E : List (Value × List Int)) (dv : Value) (K : List Ln) (r : Nat → Value) (L : Nat → List Value) (x : Value) (n : Nat) (w' : World) : Prop :=
  ∃ A' c1' r' L', Rt W w' pb B (cb + n) c1' A' Z E dv K ∧ c1' ≤ c1 + 160000000 ∧ ZI B w' ps (ct + 1) (tt + n) r' L' ∧ (L' 0).length ≤ 2 ∧ (L' 2).length ≤ (L 2).length + 12 ∧ Chg (fun k => KZ w k ∨ ZSZ ps r (L 0) k ∨ x.ownBlock = some k) w w'
set_option maxRecDepth 20000 in
set_option maxHeartbeats 2000000 in
theorem owned9_any (W w : World) (pb ps B : Nat) (cb c1 ct tt : Int) (A Z E : List (Value × List Int)) (dv : Value) (K : List Ln) (r : Nat → Value) (L : Nat → List Value) (a : Option Addr) (n c : Nat) (Ls : List SV) (hn : Ls.length = n) (hR : Rt W w pb B cb c1 A (zs Ls ++ Z) E dv K) (hZ : ZI B w ps ct tt r L) (hF : (L 0).length ≤ 2) (hK : (L 2).length ≤ 500000000000) (ct0 : 0 ≤ ct) (ct1 : ct ≤ 900000000000) (t0 : 0 ≤ tt) (t1 : tt ≤ 800000000000000) (hown : OwV 0 (.slice a n c) Ls w) (hnew : New8 B L (.slice a n c)) (h16 : n ≤ 16) (hd : ∀ x ∈ Ls, x.s.d.length ≤ 10000000) (hc1 : c1 ≤ 800000000000000) (hcb : cb ≤ 10000000000) :
    Calls Try.prog 15 #[.pointer (some ⟨ps, 0, none⟩), .pointer (some ⟨pb, 0, none⟩), .slice a n c] w fun e w' => (∃ q, e = .returned q) ∧ OwdE W w pb ps B cb c1 ct tt Z E dv K r L (.slice a n c) n w' := by
  have HZ := hidOf hZ
  have HO := hidOf (ow_zv hown)
  have HNw := hidOf hnew
  have Hn := hidOf hn
  have Hd := hidOf hd
  have HR0 : Hid (∃ A', Rt W w pb B (cb + (0 : Nat)) c1 A' (zs (Ls.drop 0) ++ Z) E dv K) := hidOf ⟨A, by simpa using hR⟩
  clear hZ hown hnew hn hd hR
  go_enter Try.func15, Try.ntmps15
  go_wp2
  go_loopw [6] (fun iv wr => ∃ (i : Nat) (c' : Int), iv = .int .i64 i ∧ i ≤ n ∧ c' ≤ c1 + 10000000 * (i : Int) ∧ Hid (∃ A', Rt W wr pb B (cb + i) c' A' (zs (Ls.drop i) ++ Z) E dv K) ∧ Hid (Chg (KZ w) w wr)) (fun iv _ => n - (intOf iv).toNat)
  case atStart => exact ⟨0, c1, rfl, by omega, by omega, HR0, hidOf (out_kz (Out.refl _))⟩
  case round =>
    clear HR0
    obtain ⟨i, c', rfl, hi, hc', HRi, HC⟩ := hrel
    by_cases hiL : i < n
    · have hlt : (i : Int) < n := by omega
      have h0 : (0 : Int) ≤ i := by omega
      obtain ⟨x, hx⟩ : ∃ x, Ls[i]? = some x := ⟨_, List.getElem?_eq_getElem (by rw [Hn.out]; exact hiL)⟩
      have hdl := Hd.out x (List.mem_of_getElem? hx)
      have hxs : (Ls.map SV.fs)[i]? = some x.fs := by rw [List.getElem?_map, hx]; rfl
      obtain ⟨g, rfl, -, -, -, -, -, -, -, p7x⟩ := (HO.out.kz HC.out).cells hxs
      have p7 : wr.cell? ⟨g, i * 8 + 7, none⟩ = some (.slice x.da x.s.d.length x.dc) := p7x
      clear p7x
      have hdr : Ls.drop i = x :: Ls.drop (i + 1) := by
        have hk := (List.getElem?_eq_some_iff.1 hx)
        obtain ⟨h1, h2⟩ := hk
        rw [List.drop_eq_getElem_cons h1, h2]
      obtain ⟨A1, hR1⟩ := HRi.out
      rw [hdr, zs_cons, List.cons_append] at hR1
      have CO := hidOf (Rt.handIn hR1 rfl (by omega) (i : Int) (by omega) (by omega) (by omega))
      clear hR1 hdr hx hxs
      obtain ⟨q, hq⟩ : ∃ q, q = x.s.d.length := ⟨_, rfl⟩
      rw [← hq] at CO p7 hdl
      clear hq
      go_wp2_with (go_at_call 40; refine CO.out.mono ?_; rintro e w2 ⟨⟨q2, rfl⟩, ⟨A2, hR2⟩, hc2⟩; have R2 := hidOf hR2; have C2 := hidOf hc2; clear hR2 hc2)
      go_roundw
      case rel =>
        refine ⟨i + 1, c' + q, by simp, by omega, by omega, hidOf ⟨A2, ?_⟩, hidOf (chg_kz HC.out C2.out)⟩
        have h := R2.out
        rw [show cb + (i : Int) + 1 = cb + ((i + 1 : Nat) : Int) by omega] at h
        exact h
      case measure => simp [intOf]; omega
    · have hlt : ¬ (i : Int) < n := by omega
      obtain rfl : n = i := by omega
      have HZ2 := hidOf (HZ.out.kz HC.out)
      have HO2 := hidOf (HO.out.kz HC.out)
      have CS := hidOf (ownZ_any B wr ps ct tt r L HZ2.out hF hK ct0 ct1 t0 t1 a n c (Ls.map SV.fs) (by rw [List.length_map, Hn.out]) (by omega) HO2.out HNw.out)
      go_wp2_with (go_at_call 41; refine CS.out.mono ?_; rintro e w2 ⟨⟨q2, rfl⟩, hend⟩; have HE := hidOf hend; clear hend)
      go_end0
      obtain ⟨r', L', h1, h2, h3, h4⟩ := HE.out
      obtain ⟨A1, hR1⟩ := HRi.out
      have hdr : Ls.drop n = [] := List.drop_eq_nil_of_le (by rw [Hn.out]; omega)
      rw [hdr] at hR1
      refine ⟨⟨_, rfl⟩, A1, c', r', L', Rt.away (S := fun b => ZSZ ps r (L 0) b ∨ (Value.slice a n c).ownBlock = some b) hR1 h4 (fun k hk => ?_), by omega, h1, h2, h3, ?_⟩
      · rcases hk with e | e
        · exact ⟨HZ2.out.lb k e, (HZ2.out.blk e).2⟩
        · exact ⟨HNw.out.lb k e, own_kz HO2.out e⟩
      · refine (HC.out.mono (fun k hk _ => .inl hk)).trans h4 (fun k hk _ => ?_)
        exact .inr hk
end Go.Proofs.Ytlfcjbeldnkkoaa
