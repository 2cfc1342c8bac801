import Derived.Test.YtgakmbeooobhjaaZp
import Derived.Test.YtgakmbeooobhjaaAx
import Derived.Deep.DeepCutAuto
import Derived.Deep.RegionLaw
import Derived.Deep.RegionHeld3
import Derived.Deep.AppendLies
namespace Go.Proofs.Ytgakmbeooobhjaa
open Go.RowKit
set_option linter.unusedVariables false
set_option linter.unusedSimpArgs false
/-- the text of a mark -/
def mT (m : Int) : List UInt8 := [109, UInt8.ofNat (m % 256).toNat, UInt8.ofNat (m / 256 % 256).toNat, UInt8.ofNat (m / 65536 % 256).toNat]
theorem u8_back (x : Int) (h0 : 0 ≤ x) (h1 : x < 256) : ((UInt8.ofNat x.toNat).toNat : Int) = x := by
  rw [UInt8.toNat_ofNat']; omega
set_option maxRecDepth 20000 in
theorem mineS_any (m : Int) (h0 : 0 ≤ m) (h1 : m ≤ 1000000000000000000) (w : World) : Calls Try.prog 53 #[.int .i64 m] w fun e w' => e = .returned (.string ⟨(mT m).toArray⟩) ∧ Out w w' := by
  have hcv := conv_list (w.alloc (.cells #[.int .u8 109, .int .u8 (m % 256), .int .u8 (m / 256 % 256), .int .u8 (m / 65536 % 256)] 5)) ⟨w.heap.size, 0, none⟩ 4 (mT m) (fun j u hu => by
    refine news_new w _ _ _ rfl j u ?_
    have e1 := u8_back (m % 256) (by omega) (by omega)
    have e2 := u8_back (m / 256 % 256) (by omega) (by omega)
    have e3 := u8_back (m / 65536 % 256) (by omega) (by omega)
    rw [← hu]
    simp only [mT, bCells, List.map_cons, List.map_nil, e1, e2, e3]
    rfl)
  have hcv : (convert 22 9 (.slice (some ⟨w.heap.size, 0, none⟩) 4 4)).run Try.prog _ = _ := hcv
  go_enter Try.func53, Try.ntmps53
  go_wp2
  go_ret
  exact ⟨rfl, Out.alloc (Out.refl _) _⟩
/-- a list of texts that holds f's first n -/
def upV (f : Nat → List UInt8) (n : Nat) : List Value := (List.range n).map (fun k => strV (f k))
theorem upV_len (f : Nat → List UInt8) (n : Nat) : (upV f n).length = n := by simp [upV]
theorem upV_succ (f : Nat → List UInt8) (n : Nat) : upV f (n + 1) = upV f n ++ [strV (f n)] := by simp [upV, List.range_succ]
theorem upV_get (f : Nat → List UInt8) (n k : Nat) (h : k < n) : (upV f n)[k]? = some (strV (f k)) := by simp [upV, h]
theorem upV_ext {f f' : Nat → List UInt8} {n : Nat} (h : ∀ k, k < n → f k = f' k) : upV f n = upV f' n := by
  unfold upV
  exact List.map_congr_left (fun k hk => by rw [h k (List.mem_range.1 hk)])
def UpS (w : World) (v : Value) (f : Nat → List UInt8) (n : Nat) : Prop := w.ownsRow 0 9 1 v n (upV f n)
theorem UpS.ext {w : World} {v : Value} {f f' : Nat → List UInt8} {n : Nat} (h : UpS w v f n) (he : ∀ k, k < n → f k = f' k) : UpS w v f' n := by
  unfold UpS at h ⊢
  rw [← upV_ext he]; exact h
/-- only block ob is written, and f stays where it is -/
structure MildS (f : Nat → List UInt8) (ob : Option Nat) (w w' : World) : Prop where
  chg : Chg (fun b => ob = some b) w w'
  row : ∀ v n, UpS w v f n → UpS w' v f n
theorem MildS.of_out {f : Nat → List UInt8} {ob : Option Nat} {w w' : World} (o : Out w w') : MildS f ob w w' := ⟨Chg.of_out o, fun v n h => owns_chg (S := fun _ => False) h (fun _ _ h => h) (Chg.of_out o)⟩
theorem MildS.trans {f : Nat → List UInt8} {ob : Option Nat} {a b c : World} (h : MildS f ob a b) (k : MildS f ob b c) : MildS f ob a c := ⟨h.chg.trans k.chg (fun x hx _ => hx), fun v n hv => k.row v n (h.row v n hv)⟩
/-- what is written lies in a newer block -/
theorem MildS.newer {f : Nat → List UInt8} {ob o2 : Option Nat} {a b c : World} (h : MildS f ob a b) (k : MildS f o2 b c) (hn : ∀ x, o2 = some x → ob = some x ∨ a.heap.size ≤ x) : MildS f ob a c :=
  ⟨h.chg.trans k.chg (fun x hx hlt => by rcases hn x hx with e | e; exact e; omega), fun v n hv => k.row v n (h.row v n hv)⟩
theorem put_same {l : List Value} {n : Nat} {x : Value} (h : l[n]? = some x) : l.take n ++ [x] ++ l.drop (n + 1) = l := by
  obtain ⟨hn, rfl⟩ := List.getElem?_eq_some_iff.1 h
  rw [List.append_assoc, List.singleton_append, ← List.drop_eq_getElem_cons hn, List.take_append_drop]
theorem infoTx : (Try.prog.info? 9).map (fun i => (i.zero, i.size, i.bytes)) = some (some (.string ⟨#[]⟩), 1, 16) := by kernel_rfl
theorem app_mark (w : World) (v : Value) (f : Nat → List UInt8) (n : Nat) (hv : UpS w v f n) (ad : Addr) (hc : ∀ j u, [strV (f n)][j]? = some u → w.cell? (ad.add j) = some u) (hn : n ≤ 1000000000000) :
    ∃ v' w', (∀ ty, (Builtin.append_ #[30, 30] ty #[v, .slice (some ad) 1 1]).run Try.prog w = .ok v' w') ∧ UpS w' v' f (n + 1) ∧ MildS f v.ownBlock w w' ∧ (∀ b, v'.ownBlock = some b → v.ownBlock = some b ∨ w.heap.size ≤ b) := by
  obtain ⟨i0, hi, hz0, hz1, hz2⟩ := info_parts infoTx
  have h16 : (n + 1) * i0.bytes ≤ 140737488355328 := by rw [hz2]; omega
  rcases hv.2 with ⟨rfl, rfl⟩ | ⟨g, cap, cur, rfl, hb, hg, hnc, hcm, hcs, ht⟩
  · have hr := fun ty => run_append_nil (P := Try.prog) w 30 ty 9 i0 _ Try.underlying30 hi hz0 ad 1 1 [strV (f 0)] (by rw [hz1]; rfl) hc (by omega) (by omega) (by rw [hz2]; omega)
    have hge := grownCap_ge w 1 0 9
    have hcm := grownCap_le_maxLen w 1 0 9 (by unfold maxLen; omega)
    refine ⟨_, _, hr, ⟨by rw [upV_len, Nat.mul_one], .inr ⟨w.heap.size, _, _, rfl, Nat.zero_le _, heap_alloc_new w.drew _, hge, hcm, ?_, ?_⟩⟩, MildS.of_out ((Out.refl w).drew.alloc _), fun b hb => ?_⟩
    · rw [Array.size_append, size_zeroCells]; simp [Value.cells]; omega
    · simp [upV, List.range_succ]
    · simp [Value.ownBlock] at hb; right; omega
  · simp only [Nat.mul_one] at hcs ht
    have hlen : n ≤ cur.toList.length := by simp; omega
    by_cases hroom : n + 1 ≤ cap
    · have hr := fun ty => run_append_room (P := Try.prog) w 30 ty 9 i0 Try.underlying30 hi g n cap cur hg ad 1 1 [strV (f n)] (by rw [hz1]; rfl) hc (by intro u hu; simp at hu; subst hu; rfl) hroom (by rw [hz1]; simp; omega)
      rw [hz1] at hr
      simp only [Nat.mul_one, List.length_singleton] at hr
      have hh : (w.setRow g (cur.toList.take n ++ [strV (f n)] ++ cur.toList.drop (n + 1)).toArray).heap[g]? = some (.cells (cur.toList.take n ++ [strV (f n)] ++ cur.toList.drop (n + 1)).toArray 9 (0, 0)) := setRow_heap w g _ _ _ _ hg
      refine ⟨_, _, hr, ⟨by rw [upV_len, Nat.mul_one], .inr ⟨g, cap, _, rfl, hb, hh, hroom, hcm, ?_, ?_⟩⟩, ⟨⟨rfl, rfl, rfl, by simp [World.setRow], fun k hk hne => setRow_other w g k _ (fun e => hne (by rw [e]; rfl))⟩, fun v2 m h2 => ?_⟩, fun b hb => .inl hb⟩
      · simp; omega
      · rw [Nat.mul_one, List.toList_toArray, List.take_append_of_le_length (by simp; omega), List.take_of_length_le (by simp; omega), ht, upV_succ]
      · rcases h2.2 with h | ⟨g2, cap2, cur2, e2, hb2, hg2, hnc2, hcm2, hcs2, ht2⟩
        · exact ⟨h2.1, .inl h⟩
        · by_cases hgg : g2 = g
          · subst hgg
            rw [hg] at hg2
            simp at hg2
            subst hg2
            simp only [Nat.mul_one] at hcs2 ht2
            refine ⟨h2.1, .inr ⟨g2, cap2, _, e2, hb2, hh, hnc2, hcm2, by simp; omega, ?_⟩⟩
            rw [Nat.mul_one, List.toList_toArray]
            by_cases hm : m ≤ n
            · rw [List.append_assoc, List.take_append_of_le_length (by simp; omega), List.take_take, Nat.min_eq_left hm]; exact ht2
            · have hx : cur.toList[n]? = some (strV (f n)) := by
                have h3 := congrArg (fun l => l[n]?) ht2
                simp only [List.getElem?_take] at h3
                rw [if_pos (by omega), upV_get f m n (by omega)] at h3
                exact h3
              rw [put_same hx]; exact ht2
          · exact ⟨h2.1, .inr ⟨g2, cap2, cur2, e2, hb2, (setRow_other w g g2 _ hgg).trans hg2, hnc2, hcm2, hcs2, ht2⟩⟩
    · have hr := fun ty => run_append_grow (P := Try.prog) w 30 ty 9 i0 _ Try.underlying30 hi hz0 ⟨g, 0, none⟩ n cap (upV f n) (by rw [hz1, upV_len]; omega) (fun j u hu => hv.cells (g := g) rfl j u hu) ad 1 1 [strV (f n)] (by rw [hz1]; rfl) hc (by omega) (by omega) (growslice_fits (by omega) h16)
      have hge := grownCap_ge w (n + 1) cap 9
      have hcm' := grownCap_le_maxLen w (n + 1) cap 9 (by unfold maxLen; omega)
      refine ⟨_, _, hr, ⟨by rw [upV_len, Nat.mul_one], .inr ⟨w.heap.size, _, _, rfl, Nat.zero_le _, heap_alloc_new w.drew _, hge, hcm', ?_, ?_⟩⟩, MildS.of_out ((Out.refl w).drew.alloc _), fun b hb => ?_⟩
      · rw [Array.size_append, Array.size_append, size_zeroCells]; simp [upV_len, Value.cells]; omega
      · rw [Nat.mul_one, Array.toList_append, Array.toList_append, List.toList_toArray, List.toList_toArray, ← upV_succ, List.take_append_of_le_length (by rw [upV_len]; omega), List.take_of_length_le (by rw [upV_len]; omega)]
      · simp [Value.ownBlock] at hb; right; omega
set_option maxHeartbeats 800000 in
theorem copyTexts_any (w : World) (a : Option Addr) (n cap : Nat) (N : List (List UInt8)) (hn : n = N.length) (hr : RT w a N) (hll : N.length ≤ 1000000000000) : Calls Try.prog 36 #[.slice a n cap] w fun e w' => ∃ a' c', e = .returned (.slice a' n c') ∧ OwS w.heap.size (.slice a' n c') N w' ∧ Out w w' := by
  subst hn
  obtain ⟨i0, hi, hz0, hz1, hz2⟩ := info_parts infoTx
  have H0 := hidOf (owns_void w w.heap.size 1 9 (Nat.le_refl _))
  cases a with
  | none =>
    obtain rfl : N = [] := by
      rcases hr with h | ⟨b, off, _, h, _⟩
      · exact h
      · cases h
    simp only [List.length_nil]
    go_enter Try.func36, Try.ntmps36
    go_wp2
    go_ret
    exact ⟨_, _, rfl, H0.out, Out.alloc (Out.refl _) _⟩
  | some ad =>
    have HC : Hid (∀ j u, (N.map strV)[j]? = some u → (w.alloc (.cells #[] 9)).cell? (ad.add j) = some u) := fun j u hu => by
      simp only [List.getElem?_map, Option.map_eq_some_iff] at hu
      obtain ⟨x, hx, rfl⟩ := hu
      rcases hr with rfl | ⟨b, off, _, h, hc⟩
      · simp at hx
      · cases h
        rw [WideShapes.add_plain]
        exact cell_later ((Out.refl w).alloc _) (hc j x hx)
    clear hr
    go_enter Try.func36, Try.ntmps36
    go_wp2_with (at_builtin; refine wpList_append_own _ rfl (.tmp 3) (.tmp 4) 30 rfl w.heap.size 9 i0 _ 1 16 Try.underlying30 hi hz0 hz1 hz2 rfl (by decide) (.slice (some ⟨w.heap.size, 0, none⟩) 0 0) 0 [] rfl H0.out ad N.length cap (N.map strV) rfl (by rw [List.length_map, Nat.mul_one]) HC.out (by intro u hu; simp at hu; obtain ⟨x, _, rfl⟩ := hu; rfl) (by unfold maxLen; omega) (by omega) (by rw [size_alloc]; omega) ?_; intro v' w3 hown' hgrow _; have H3 := hidOf (out_row ((Out.refl w).alloc _) H0.out hgrow); have HN := hidOf hown'; clear hown' hgrow)
    go_ret
    have := HN.out
    rw [Nat.zero_add, List.nil_append] at this
    obtain ⟨a', c', rfl⟩ := own_form this
    exact ⟨_, _, rfl, this, H3.out⟩
/-- the shelf's block at p, and its four rows (untouched, what they held, kept, what they must hold) -/
structure ShF (w : World) (p : Nat) (ct tt : Int) (r : Nat → Value) (L : Nat → List Value) : Prop where
  st : w.heap[p]? = some (.cells #[.int .i64 ct, .int .i64 tt, .bool false, r 0, r 1, r 2, r 3] 48 (0, 0))
  row : ∀ j, j < 4 → w.ownsRow 0 30 1 (r j) (L j).length (L j)
  sep : ∀ i j b, i < 4 → j < 4 → ¬ i = j → (r i).ownBlock = some b → ¬ (r j).ownBlock = some b
theorem ShF.lt {w : World} {p : Nat} {ct tt : Int} {r : Nat → Value} {L : Nat → List Value} (h : ShF w p ct tt r L) : p < w.heap.size := (Array.getElem?_eq_some_iff.1 h.st).1
theorem owns_outS {B size : Nat} {w w' : World} {e : TypeId} {v : Value} {n : Nat} {xs : List Value} (h : w.ownsRow B e size v n xs) (o : Out w w') : w'.ownsRow B e size v n xs := owns_chg (S := fun _ => False) h (fun _ _ h => h) (Chg.of_out o)
theorem ShF.out {w w' : World} {p : Nat} {ct tt : Int} {r : Nat → Value} {L : Nat → List Value} (h : ShF w p ct tt r L) (o : Out w w') : ShF w' p ct tt r L := ⟨(o.block p h.lt).trans h.st, fun j hj => owns_outS (h.row j hj) o, h.sep⟩
/-- a row's place -/
theorem own_getS {B : Nat} {w : World} {e : TypeId} {a : Option Addr} {n c : Nat} {xs : List Value} (h : w.ownsRow B e 1 (.slice a n c) n xs) {i : Nat} {x : Value} (hx : xs[i]? = some x) : ∃ g, a = some ⟨g, 0, none⟩ ∧ w.cell? ⟨g, i, none⟩ = some x := by
  have hi := (List.getElem?_eq_some_iff.1 hx).1
  have hl := h.1
  rcases h.2 with ⟨hv, hn⟩ | ⟨g, cap, cur, hv, _⟩
  · omega
  · have hv2 := hv
    simp only [Value.slice.injEq] at hv2
    refine ⟨g, hv2.1, ?_⟩
    have := World.ownsRow.cells h (g := g) (by rw [hv]; rfl) i x hx
    rw [WideShapes.add_plain, Nat.zero_add] at this
    exact this
/-- two lists that hold the same -/
def PrS (w : World) (X Y : List Value) : Prop := ∀ (i : Nat) x y, X[i]? = some x → Y[i]? = some y → ∃ N a1 c1 a2 c2, x = .slice a1 N.length c1 ∧ y = .slice a2 N.length c2 ∧ OwS 0 x N w ∧ OwS 0 y N w ∧ N.length ≤ 1000000000000
theorem PrS.chg {S : Nat → Prop} {w w' : World} {X Y : List Value} (h : PrS w X Y) (c : Chg S w w') (hs : ∀ (i : Nat) x b, X[i]? = some x ∨ Y[i]? = some x → x.ownBlock = some b → ¬ S b) : PrS w' X Y := fun i x y hx hy => by
  obtain ⟨N, a1, c1, a2, c2, h1, h2, h3, h4, h5⟩ := h i x y hx hy
  exact ⟨N, a1, c1, a2, c2, h1, h2, owns_chg h3 (fun k hk => hs i x k (.inl hx) hk) c, owns_chg h4 (fun k hk => hs i y k (.inr hy) hk) c, h5⟩
theorem PrS.out {w w' : World} {X Y : List Value} (h : PrS w X Y) (o : Out w w') : PrS w' X Y := h.chg (S := fun _ => False) (Chg.of_out o) (fun _ _ _ _ _ h => h)
set_option maxRecDepth 20000 in
set_option maxHeartbeats 1000000 in
theorem untouchedS_any (w : World) (p : Nat) (ct tt : Int) (r : Nat → Value) (L : Nat → List Value) (h : ShF w p ct tt r L) (hl : (L 1).length = (L 0).length) (hp : PrS w (L 0) (L 1)) (hF : (L 0).length ≤ 1000000000000) :
    Calls Try.prog 40 #[.pointer (some ⟨p, 0, none⟩)] w fun e w' => e = .returned (.bool true) ∧ Out w w' := by
  obtain ⟨af, cf, e0⟩ := own_form (h.row 0 (by omega))
  obtain ⟨aw, cw, e1⟩ := own_form (h.row 1 (by omega))
  have q0 := h.row 0 (by omega)
  have q1 := h.row 1 (by omega)
  rw [e0] at q0
  rw [e1] at q1
  have H := hidOf h
  have HP := hidOf hp
  have Hl := hidOf hl
  have Q0 := hidOf q0
  have Q1 := hidOf q1
  have c3 : w.cell? ⟨p, 3, none⟩ = some (.slice af (L 0).length cf) := by rw [cell_atL h.st, ← e0]; rfl
  have c4 : w.cell? ⟨p, 4, none⟩ = some (.slice aw (L 0).length cw) := by rw [cell_atL h.st, ← hl, ← e1]; rfl
  clear h hp hl e0 e1 q0 q1
  go_enter Try.func40, Try.ntmps40
  go_wp2
  go_loopw [3] (fun kv wr => ∃ k : Nat, kv = .int .i64 k ∧ k ≤ (L 0).length ∧ Hid (Out w wr)) (fun kv _ => (L 0).length - (intOf kv).toNat)
  case atStart => exact ⟨0, rfl, by omega, hidOf (Out.refl w)⟩
  case round =>
    obtain ⟨k, rfl, hk, HO⟩ := hrel
    have d3 := cell_later HO.out c3
    have d4 := cell_later HO.out c4
    by_cases hlt : k < (L 0).length
    · have hltI : (k : Int) < (L 0).length := by omega
      obtain ⟨x, hx⟩ : ∃ x, (L 0)[k]? = some x := ⟨_, List.getElem?_eq_getElem hlt⟩
      obtain ⟨y, hy⟩ : ∃ y, (L 1)[k]? = some y := ⟨_, List.getElem?_eq_getElem (by have := Hl.out; omega)⟩
      obtain ⟨gf, rfl, qf⟩ := own_getS Q0.out hx
      obtain ⟨gw, rfl, qw⟩ := own_getS Q1.out hy
      have qf := cell_later HO.out qf
      have qw := cell_later HO.out qw
      obtain ⟨T, a1, c1, a2, c2, rfl, rfl, t1, t2, hT⟩ := HP.out k x y hx hy
      have T1 := hidOf (t1.out HO.out)
      have T2 := hidOf (t2.out HO.out)
      clear hx hy t1 t2
      have CS : Hid (∀ wx, Out wr wx → Calls Try.prog 31 #[.slice a1 T.length c1, .slice a2 T.length c2] wx fun e w' => e = .returned (.bool true) ∧ Out wx w') := fun wx ho => by
        have u1 := OwS.rt (T1.out.out ho)
        have u2 := OwS.rt (T2.out.out ho)
        refine (sameTexts_any a1 a2 c1 c2 T wx u1.1 u2.1 u1.2 u2.2 hT).mono ?_
        rintro e w' ⟨rfl, m, rfl⟩
        exact ⟨rfl, (Out.refl wx).drewN m⟩
      go_upto_region 4 with fail
      go_region_held3 (fun w' => w'.cell? ⟨p, 3, none⟩ = some (.slice (some ⟨gf, 0, none⟩) (L 0).length cf) ∧ w'.cell? ⟨p, 4, none⟩ = some (.slice (some ⟨gw, 0, none⟩) (L 0).length cw) ∧ w'.cell? ⟨gf, k, none⟩ = some (.slice a1 T.length c1) ∧ w'.cell? ⟨gw, k, none⟩ = some (.slice a2 T.length c2)) (first | exact ⟨d3, d4, qf, qw⟩ | exact ⟨e3, e4, e5, e6⟩ | go_keep) (first | (go_at_call 31; refine (CS.out _ ((Out.refl wr).drewN _)).mono ?_; rintro e w2 ⟨rfl, h2⟩; have e3 := cell_later h2 d3; have e4 := cell_later h2 d4; have e5 := cell_later h2 qf; have e6 := cell_later h2 qw; have O2 := hidOf (Out.trans (HO.out.drewN _) h2); clear h2))
      go_wp2
      go_roundw
      case rel => exact ⟨k + 1, by simp, by omega, O2⟩
      case measure => simp [intOf]; omega
    · have hltI : ¬ (k : Int) < (L 0).length := by omega
      go_wp2
      go_ret
      exact ⟨rfl, HO.out⟩
set_option maxRecDepth 20000 in
set_option maxHeartbeats 1000000 in
theorem holdsS_any (w : World) (p : Nat) (ct tt : Int) (r : Nat → Value) (L : Nat → List Value) (h : ShF w p ct tt r L) (hl : (L 1).length = (L 0).length) (hp : PrS w (L 0) (L 1)) (hF : (L 0).length ≤ 1000000000000) (hl2 : (L 3).length = (L 2).length) (hp2 : PrS w (L 2) (L 3)) (hK : (L 2).length ≤ 1000000000000) :
    Calls Try.prog 16 #[.pointer (some ⟨p, 0, none⟩)] w fun e w' => e = .returned (.bool true) ∧ Out w w' := by
  obtain ⟨af, cf, e0⟩ := own_form (h.row 2 (by omega))
  obtain ⟨aw, cw, e1⟩ := own_form (h.row 3 (by omega))
  have q0 := h.row 2 (by omega)
  have q1 := h.row 3 (by omega)
  rw [e0] at q0
  rw [e1] at q1
  have H := hidOf h
  have HP := hidOf hp2
  have Hl := hidOf hl2
  have Q0 := hidOf q0
  have Q1 := hidOf q1
  have CU : Hid (∀ wx, Out w wx → Calls Try.prog 40 #[.pointer (some ⟨p, 0, none⟩)] wx fun e w' => e = .returned (.bool true) ∧ Out wx w') := fun wx ho => untouchedS_any wx p ct tt r L (h.out ho) hl (hp.out ho) hF
  have c2 : w.cell? ⟨p, 2, none⟩ = some (.bool false) := by rw [cell_atL h.st]; rfl
  have c5 : w.cell? ⟨p, 5, none⟩ = some (.slice af (L 2).length cf) := by rw [cell_atL h.st, ← e0]; rfl
  have c6 : w.cell? ⟨p, 6, none⟩ = some (.slice aw (L 2).length cw) := by rw [cell_atL h.st, ← hl2, ← e1]; rfl
  clear h hp hl hp2 hl2 e0 e1 q0 q1
  go_enter Try.func16, Try.ntmps16
  go_wp2
  go_loopw [3] (fun kv wr => ∃ k : Nat, kv = .int .i64 k ∧ k ≤ (L 2).length ∧ Hid (Out w wr)) (fun kv _ => (L 2).length - (intOf kv).toNat)
  case atStart => exact ⟨0, rfl, by omega, hidOf (Out.refl w)⟩
  case round =>
    obtain ⟨k, rfl, hk, HO⟩ := hrel
    have d3 := cell_later HO.out c5
    have d4 := cell_later HO.out c6
    by_cases hlt : k < (L 2).length
    · have hltI : (k : Int) < (L 2).length := by omega
      obtain ⟨x, hx⟩ : ∃ x, (L 2)[k]? = some x := ⟨_, List.getElem?_eq_getElem hlt⟩
      obtain ⟨y, hy⟩ : ∃ y, (L 3)[k]? = some y := ⟨_, List.getElem?_eq_getElem (by have := Hl.out; omega)⟩
      obtain ⟨gf, rfl, qf⟩ := own_getS Q0.out hx
      obtain ⟨gw, rfl, qw⟩ := own_getS Q1.out hy
      have qf := cell_later HO.out qf
      have qw := cell_later HO.out qw
      obtain ⟨T, a1, c1, a2, c2, rfl, rfl, t1, t2, hT⟩ := HP.out k x y hx hy
      have T1 := hidOf (t1.out HO.out)
      have T2 := hidOf (t2.out HO.out)
      clear hx hy t1 t2
      have CS : Hid (∀ wx, Out wr wx → Calls Try.prog 31 #[.slice a1 T.length c1, .slice a2 T.length c2] wx fun e w' => e = .returned (.bool true) ∧ Out wx w') := fun wx ho => by
        have u1 := OwS.rt (T1.out.out ho)
        have u2 := OwS.rt (T2.out.out ho)
        refine (sameTexts_any a1 a2 c1 c2 T wx u1.1 u2.1 u1.2 u2.2 hT).mono ?_
        rintro e w' ⟨rfl, m, rfl⟩
        exact ⟨rfl, (Out.refl wx).drewN m⟩
      go_upto_region 4 with fail
      go_region_held3 (fun w' => w'.cell? ⟨p, 5, none⟩ = some (.slice (some ⟨gf, 0, none⟩) (L 2).length cf) ∧ w'.cell? ⟨p, 6, none⟩ = some (.slice (some ⟨gw, 0, none⟩) (L 2).length cw) ∧ w'.cell? ⟨gf, k, none⟩ = some (.slice a1 T.length c1) ∧ w'.cell? ⟨gw, k, none⟩ = some (.slice a2 T.length c2)) (first | exact ⟨d3, d4, qf, qw⟩ | exact ⟨e3, e4, e5, e6⟩ | go_keep) (first | (go_at_call 31; refine (CS.out _ ((Out.refl wr).drewN _)).mono ?_; rintro e w2 ⟨rfl, h2⟩; have e3 := cell_later h2 d3; have e4 := cell_later h2 d4; have e5 := cell_later h2 qf; have e6 := cell_later h2 qw; have O2 := hidOf (Out.trans (HO.out.drewN _) h2); clear h2))
      go_wp2
      go_roundw
      case rel => exact ⟨k + 1, by simp, by omega, O2⟩
      case measure => simp [intOf]; omega
    · have hltI : ¬ (k : Int) < (L 2).length := by omega
      have d2 := cell_later HO.out c2
      go_wp2_with (go_at_call 40; refine (CU.out _ HO.out).mono ?_; rintro e w2 ⟨rfl, h2⟩; have O2 := hidOf (Out.trans HO.out h2); clear h2)
      go_ret
      exact ⟨rfl, O2.out⟩
def upd {α : Type} (r : Nat → α) (j : Nat) (v : α) : Nat → α := fun i => if i = j then v else r i
theorem own_kindS {B s n : Nat} {w : World} {e t : TypeId} {v : Value} {xs : List Value} {b : Nat} {cs : Array Value} {fr : Nat × Nat} (h : w.ownsRow B e s v n xs) (hb : w.heap[b]? = some (.cells cs t fr)) (hne : ¬ e = t) : ¬ v.ownBlock = some b := fun hv => by
  rcases h.2 with ⟨hx, _⟩ | ⟨g, cap, cur, hx, _, hg, _⟩
  · rw [hx] at hv; cases hv
  · rw [hx] at hv
    simp [Value.ownBlock] at hv
    subst hv
    rw [hb] at hg; simp at hg; exact hne hg.2.1.symm
theorem ShF.notp {w : World} {p : Nat} {ct tt : Int} {r : Nat → Value} {L : Nat → List Value} (h : ShF w p ct tt r L) {j : Nat} (hj : j < 4) : ¬ (r j).ownBlock = some p := own_kindS (h.row j hj) h.st (by decide)
/-- a row's cell is stored -/
theorem ShF.store {w : World} {p : Nat} {ct tt : Int} {r : Nat → Value} (st : w.heap[p]? = some (.cells #[.int .i64 ct, .int .i64 tt, .bool false, r 0, r 1, r 2, r 3] 48 (0, 0))) (j : Nat) (hj : j < 4) (v : Value) (L : Nat → List Value)
    (row : ∀ i, i < 4 → w.ownsRow 0 30 1 (upd r j v i) (L i).length (L i)) (sep : ∀ i k b, i < 4 → k < 4 → ¬ i = k → (upd r j v i).ownBlock = some b → ¬ (upd r j v k).ownBlock = some b) : ShF (w.setCell ⟨p, 3 + j, none⟩ v) p ct tt (upd r j v) L := by
  have c : Chg (fun k => k = p) w (w.setCell ⟨p, 3 + j, none⟩ v) := Chg.setCell (S := fun k => k = p) (Chg.refl _ w) (p := ⟨p, 3 + j, none⟩) rfl v
  refine ⟨?_, fun i hi => owns_chg (row i hi) (fun k hk e => own_kindS (row i hi) st (by decide) (by rw [hk, e])) c, sep⟩
  rw [set_atL st]
  obtain rfl | rfl | rfl | rfl : j = 0 ∨ j = 1 ∨ j = 2 ∨ j = 3 := by omega
  all_goals rfl
/-- a row has one more -/
theorem ShF.push {w wA w8 : World} {p : Nat} {ct tt : Int} {r : Nat → Value} {L : Nat → List Value} (h : ShF w p ct tt r L) (j : Nat) (hj : j < 4) (o : Out w wA) {v x : Value} (hgrow : wA.grownBy w8 (r j).ownBlock) (hown : w8.ownsRow 0 30 1 v ((L j).length + 1) (L j ++ [x])) (hv : ∀ b, v.ownBlock = some b → (r j).ownBlock = some b ∨ w.heap.size ≤ b) :
    ShF (w8.setCell ⟨p, 3 + j, none⟩ v) p ct tt (upd r j v) (upd L j (L j ++ [x])) ∧ Chg (fun b => b = p ∨ (r j).ownBlock = some b) w (w8.setCell ⟨p, 3 + j, none⟩ v) := by
  have hA := h.out o
  have c8 : Chg (fun b => (r j).ownBlock = some b) wA w8 := Chg.of_grown hgrow (fun k h => h)
  have st8 : w8.heap[p]? = _ := (c8.block p hA.lt (fun e => hA.notp hj e)).trans hA.st
  refine ⟨ShF.store st8 j hj v _ (fun i hi => ?_) (fun i k b hi hk hne hib hkb => ?_), ((Chg.of_out (S := fun b => b = p ∨ (r j).ownBlock = some b) o).trans c8 (fun x hx _ => .inr hx)).setCell (p := ⟨p, 3 + j, none⟩) (.inl rfl) _⟩
  · unfold upd
    by_cases hij : i = j
    · rw [if_pos hij, if_pos hij, List.length_append, List.length_singleton]; exact hown
    · rw [if_neg hij, if_neg hij]
      exact owns_chg (hA.row i hi) (fun k hk e => h.sep i j k hi hj hij hk e) c8
  · unfold upd at hib hkb
    by_cases hij : i = j
    · have hkj : ¬ k = j := fun e => hne (hij.trans e.symm)
      rw [if_pos hij] at hib
      rw [if_neg hkj] at hkb
      rcases hv b hib with h1 | h1
      · exact h.sep k j b hk hj hkj hkb h1
      · have := ((h.row k hk).lt b hkb).2; omega
    · rw [if_neg hij] at hib
      by_cases hkj : k = j
      · rw [if_pos hkj] at hkb
        rcases hv b hkb with h1 | h1
        · exact h.sep i j b hi hj hij hib h1
        · have := ((h.row i hi).lt b hib).2; omega
      · rw [if_neg hkj] at hkb
        exact h.sep i k b hi hk hne hib hkb
theorem infoSls : (Try.prog.info? 30).map (fun i => (i.zero, i.size, i.bytes)) = some (some (.slice none 0 0), 1, 24) := by kernel_rfl
/-- the shelf's own blocks that a keeping writes -/
def SOS (p : Nat) (r : Nat → Value) (b : Nat) : Prop := b = p ∨ (r 2).ownBlock = some b ∨ (r 3).ownBlock = some b
/-- what a keeping leaves behind -/
def KpE (w : World) (p : Nat) (ct tt : Int) (r : Nat → Value) (L : Nat → List Value) (x : Value) (N : List (List UInt8)) (w' : World) : Prop :=
  ∃ v2 v3 y, ShF w' p ct tt (upd (upd r 2 v2) 3 v3) (upd (upd L 2 (L 2 ++ [x])) 3 (L 3 ++ [y])) ∧ OwS w.heap.size y N w' ∧ Chg (SOS p r) w w' ∧ (∀ b, v2.ownBlock = some b → (r 2).ownBlock = some b ∨ w.heap.size ≤ b) ∧ (∀ b, v3.ownBlock = some b → (r 3).ownBlock = some b ∨ w.heap.size ≤ b)
theorem OwS.lower {B B' : Nat} {v : Value} {N : List (List UInt8)} {w : World} (h : OwS B v N w) (hB : B' ≤ B) : OwS B' v N w := by
  refine ⟨h.1, ?_⟩
  rcases h.2 with h | ⟨g, cap, cur, e1, hb, rest⟩
  · exact .inl h
  · exact .inr ⟨g, cap, cur, e1, Nat.le_trans hB hb, rest⟩
set_option maxRecDepth 20000 in
set_option maxHeartbeats 1000000 in
theorem keepS_any (w : World) (p : Nat) (ct tt : Int) (r : Nat → Value) (L : Nat → List Value) (h : ShF w p ct tt r L) (hK : (L 2).length ≤ 1000000000000) (hl2 : (L 3).length = (L 2).length) (a : Option Addr) (n c : Nat) (N : List (List UInt8)) (hn : n = N.length) (hx : OwS 0 (.slice a n c) N w) (hN : N.length ≤ 1000000000000) :
    Calls Try.prog 54 #[.pointer (some ⟨p, 0, none⟩), .slice a n c] w fun e w' => (∃ q, e = .returned q) ∧ KpE w p ct tt r L (.slice a n c) N w' := by
  obtain ⟨i0, hi, hz0, hz1, hz2⟩ := info_parts infoSls
  obtain ⟨a2, c2, e2⟩ := own_form (h.row 2 (by omega))
  obtain ⟨a3, c3, e3⟩ := own_form (h.row 3 (by omega))
  have k5 : w.cell? ⟨p, 5, none⟩ = some (.slice a2 (L 2).length c2) := by rw [cell_atL h.st, ← e2]; rfl
  have H := hidOf h
  have HX := hidOf hx
  have Hl2 := hidOf hl2
  have Hn := hidOf hn
  have E2 := hidOf e2
  have E3 := hidOf e3
  have R2 : Hid (∀ O, (w.alloc O).ownsRow 0 30 1 (.slice a2 (L 2).length c2) (L 2).length (L 2)) := fun O => by
    have := (h.out ((Out.refl w).alloc O)).row 2 (by omega)
    rw [e2] at this; exact this
  have HP : Hid (∀ O w8, (w.alloc O).grownBy w8 (Value.slice a2 (L 2).length c2).ownBlock → w8.cell? ⟨p, 5, none⟩ = some (.slice a2 (L 2).length c2) ∧ w8.frozen? ⟨p, 5, none⟩ = false) := fun O w8 hg => by
    have hA := h.out ((Out.refl w).alloc O)
    have hs : w8.heap[p]? = _ := (hg.block p hA.lt (fun e => hA.notp (j := 2) (by omega) (by rw [e2]; exact e.symm))).trans hA.st
    exact ⟨by rw [cell_atL hs, ← e2]; rfl, frozen_atL hs 5⟩
  clear h hx hl2 hn e2 e3
  go_enter Try.func54, Try.ntmps54
  go_upto_region 2 with (at_builtin; refine wpList_append_lies _ rfl (.tmp 8) (.tmp 10) 46 rfl 0 30 i0 _ 1 24 Try.underlying46 hi hz0 hz1 hz2 rfl (by decide) (.slice a2 (L 2).length c2) (L 2).length (L 2) rfl (R2.out _) ⟨w.heap.size, 0, none⟩ 1 1 [.slice a n c] rfl rfl (news_new w _ _ _ rfl) (by intro u hu; simp at hu; subst hu; rfl) (by decide) (by unfold maxLen; omega) (by omega) (Nat.zero_le _) _ rfl ?_; intro g8 cap8 w8 hown8 hgrow8 hg8 hlt8; obtain ⟨q8, f8⟩ := HP.out _ w8 hgrow8; have W8 := hidOf hown8; have G8 := hidOf hgrow8; have Hg8 := hidOf hg8; clear hown8 hgrow8 hg8 hlt8)
  have hP := H.out.push 2 (by omega) ((Out.refl w).alloc _) (by rw [E2.out]; exact G8.out) W8.out (fun b hb => by
    simp [Value.ownBlock] at hb
    subst hb
    rcases Hg8.out with h | h
    · exact .inl (by rw [E2.out]; exact h)
    · right; rw [h, size_alloc]; omega)
  have S8 := hidOf hP.1
  have C8 := hidOf hP.2
  have B8 : Hid (∀ b, (Value.slice (some ⟨g8, 0, none⟩) ((L 2).length + 1) cap8).ownBlock = some b → (r 2).ownBlock = some b ∨ w.heap.size ≤ b) := fun b hb => by
    simp [Value.ownBlock] at hb
    subst hb
    rcases Hg8.out with h | h
    · exact .inl (by rw [E2.out]; exact h)
    · right; rw [h, size_alloc]; omega
  clear hP G8 W8 Hg8 R2 HP k5 q8 f8
  have hz : (3 : Nat) + 2 = 5 := rfl
  rw [hz] at S8 C8
  clear hz
  generalize w8.setCell ⟨p, 5, none⟩ (.slice (some ⟨g8, 0, none⟩) ((L 2).length + 1) cap8) = w4 at *
  have X4 : Hid (OwS 0 (.slice a n c) N w4) := owns_chg HX.out (fun k hk e => by
    have hr : OwS 0 (.slice a n c) N w := HX.out
    rcases e with e | e
    · exact own_kindS hr H.out.st (by decide) (by rw [hk, e])
    · exact own_apart (by decide) hr (H.out.row 2 (by omega)) k hk e) C8.out
  have k6 : w4.drew.cell? ⟨p, 6, none⟩ = some (.slice a3 (L 3).length c3) := by
    rw [cell_atL (show w4.drew.heap[p]? = _ from S8.out.st), ← E3.out]; rfl
  have CT : Hid (Calls Try.prog 36 #[.slice a n c] w4.drew fun e w' => ∃ a' c', e = .returned (.slice a' n c') ∧ OwS w4.drew.heap.size (.slice a' n c') N w' ∧ Out w4.drew w') := by
    have h4 : OwS 0 (.slice a N.length c) N w4 := by have := X4.out; rw [Hn.out] at this; exact this
    exact copyTexts_any w4.drew a n c N Hn.out ((OwS.rt h4).1.out (Out.refl w4).drew) hN
  have R3 : Hid (∀ wx O, Out w4.drew wx → (wx.alloc O).ownsRow 0 30 1 (.slice a3 (L 3).length c3) (L 3).length (L 3)) := fun wx O ho => by
    have := (S8.out.out (((Out.refl w4).drew.trans ho).alloc O)).row 3 (by omega)
    rw [← E3.out]; exact this
  have HP3 : Hid (∀ wx O w9, Out w4.drew wx → (wx.alloc O).grownBy w9 (Value.slice a3 (L 3).length c3).ownBlock → w9.cell? ⟨p, 6, none⟩ = some (.slice a3 (L 3).length c3) ∧ w9.frozen? ⟨p, 6, none⟩ = false) := fun wx O w9 ho hg => by
    have hA := S8.out.out (((Out.refl w4).drew.trans ho).alloc O)
    have hs : w9.heap[p]? = _ := (hg.block p hA.lt (fun e => hA.notp (j := 3) (by omega) (by show (r 3).ownBlock = _; rw [E3.out]; exact e.symm))).trans hA.st
    exact ⟨by rw [cell_atL hs, ← E3.out]; rfl, frozen_atL hs 6⟩
  have hl3 : (L 3).length ≤ 1000000000000 := by rw [Hl2.out]; exact hK
  go_region_law (first | (refine step_append_lies _ rfl (.tmp 18) (.tmp 21) 46 rfl 0 30 i0 _ 1 24 Try.underlying46 hi hz0 hz1 hz2 rfl (by decide) (.slice a3 (L 3).length c3) (L 3).length (L 3) rfl (R3.out w5 _ Ho5.out) ⟨w5.heap.size, 0, none⟩ 1 1 [.slice a5 n c5] rfl rfl (news_new w5 _ _ _ rfl) (by intro u hu; simp at hu; subst hu; rfl) (by decide) (by unfold maxLen; omega) (by omega) (Nat.zero_le _) _ rfl ?_; intro g9 cap9 w9 hown9 hgrow9 hg9 hlt9; obtain ⟨q9, f9⟩ := HP3.out w5 _ w9 Ho5.out hgrow9; have W9 := hidOf hown9; have G9 := hidOf hgrow9; have Hg9 := hidOf hg9; clear hown9 hgrow9 hg9 hlt9) | (go_simp; go_at_call 36; refine CT.out.mono ?_; rintro e w5 ⟨a5, c5, rfl, hown5, ho5⟩; (try dsimp only); have Ho5 := hidOf ho5; have Hown5 := hidOf hown5; have k65 : w5.cell? ⟨p, 6, none⟩ = some (.slice a3 (L 3).length c3) := cell_later ho5 k6; have k65a : (w5.alloc (.cells #[.slice a5 n c5] 30)).cell? ⟨p, 6, none⟩ = some (.slice a3 (L 3).length c3) := cell_later ((Out.refl w5).alloc _) k65; clear hown5 ho5))
  all_goals
    have B9 : Hid (∀ b, (Value.slice (some ⟨g9, 0, none⟩) ((L 3).length + 1) cap9).ownBlock = some b → (r 3).ownBlock = some b ∨ w5.heap.size ≤ b) := fun b hb => by
      simp [Value.ownBlock] at hb
      subst hb
      rcases Hg9.out with h | h
      · exact .inl (by rw [E3.out]; exact h)
      · right; rw [h, size_alloc]; omega
    have hP := (S8.out.out ((Out.refl w4).drew.trans Ho5.out)).push 3 (by omega) ((Out.refl w5).alloc _) (by show World.grownBy _ _ (r 3).ownBlock; rw [E3.out]; exact G9.out) W9.out B9.out
    have S9 := hidOf hP.1
    have C9 := hidOf hP.2
    clear hP q9 f9 k65 k65a k6
    go_wp2
    go_end0
    have z1 := C8.out.size
    have z2 := ((Out.refl w4).drew.trans Ho5.out).size
    refine ⟨⟨_, rfl⟩, _, _, _, S9.out, ?_, ?_, B8.out, fun b hb => (B9.out b hb).imp id (fun h => by omega)⟩
    · have h5 : OwS w.heap.size (.slice a5 n c5) N w5 := OwS.lower Hown5.out z1
      refine owns_chg h5 (fun k hk e => ?_) C9.out
      rcases e with e | e
      · exact own_kindS h5 (S8.out.out ((Out.refl w4).drew.trans Ho5.out)).st (by decide) (by rw [hk, e])
      · exact own_apart (by decide) h5 ((S8.out.out ((Out.refl w4).drew.trans Ho5.out)).row 3 (by omega)) k hk e
    · refine (((C8.out.mono (fun b hb _ => ?_)).trans (Chg.of_out (S := fun _ => False) ((Out.refl w4).drew.trans Ho5.out)) (fun _ h _ => h.elim)).trans C9.out (fun b hb _ => ?_))
      · rcases hb with h | h
        · exact .inl h
        · exact .inr (.inl h)
      · rcases hb with h | h
        · exact .inl h
        · exact .inr (.inr h)
/-- what a list of n texts holds that was written over, and grown -/
def fI (ct : Int) (i n k : Nat) : List UInt8 := if k < n then mT (977 * ct + 31 * i + k) else mT (100003 * ct + 1009 * i + ((k - n : Nat) : Int))
/-- a list of n texts; the first k are written over -/
def FMk (w : World) (x : Value) (ct : Int) (j n k : Nat) : Prop := ∃ N : List (List UInt8), N.length = n ∧ OwS 0 x N w ∧ ∀ q, q < k → N[q]? = some (mT (977 * ct + 31 * j + q))
theorem FMk.form {w : World} {x : Value} {ct : Int} {j n k : Nat} (h : FMk w x ct j n k) : ∃ a c, x = .slice a n c := by
  obtain ⟨N, rfl, h, _⟩ := h
  exact own_form h
theorem FMk.chg {S : Nat → Prop} {w w' : World} {x : Value} {ct : Int} {j n k : Nat} (h : FMk w x ct j n k) (c : Chg S w w') (hs : ∀ b, x.ownBlock = some b → ¬ S b) : FMk w' x ct j n k := by
  obtain ⟨N, hN, h, hm⟩ := h
  exact ⟨N, hN, owns_chg h hs c, hm⟩
theorem FMk.up {w : World} {x : Value} {ct : Int} {j n : Nat} (h : FMk w x ct j n n) : UpS w x (fI ct j n) n := by
  obtain ⟨N, rfl, h, hm⟩ := h
  have e : N.map strV = upV (fI ct j N.length) N.length := by
    apply List.ext_getElem?
    intro k
    by_cases hk : k < N.length
    · rw [upV_get _ _ _ hk, List.getElem?_map, hm k hk]
      simp [fI, hk]
    · rw [List.getElem?_eq_none (by simp; omega), List.getElem?_eq_none (by rw [upV_len]; omega)]
  unfold UpS
  rw [← e]; exact h
theorem UpS.ows {w : World} {x : Value} {f : Nat → List UInt8} {n : Nat} (h : UpS w x f n) : ∃ N : List (List UInt8), N.length = n ∧ OwS 0 x N w ∧ N = (List.range n).map f := by
  refine ⟨(List.range n).map f, by simp, ?_, rfl⟩
  have e : ((List.range n).map f).map strV = upV f n := by simp [upV]
  show w.ownsRow 0 _ 1 x _ _
  rw [e, show ((List.range n).map f).length = n by simp]
  exact h
theorem UpS.fmk {w : World} {x : Value} {ct : Int} {j n : Nat} (h : UpS w x (fI ct j n) n) : FMk w x ct j n n := by
  obtain ⟨N, hN, ho, e⟩ := h.ows
  refine ⟨N, hN, ho, fun q hq => ?_⟩
  rw [e, List.getElem?_map, List.getElem?_range hq]
  simp [fI, hq]
theorem UpS.form {w : World} {x : Value} {f : Nat → List UInt8} {n : Nat} (h : UpS w x f n) : ∃ a c, x = .slice a n c := own_form h
theorem UpS.chg {S : Nat → Prop} {w w' : World} {x : Value} {f : Nat → List UInt8} {n : Nat} (h : UpS w x f n) (c : Chg S w w') (hs : ∀ b, x.ownBlock = some b → ¬ S b) : UpS w' x f n := owns_chg h hs c
theorem own_of {w : World} {x : Value} {n : Nat} {a : Option Addr} {c : Nat} (hx : x = .slice a n c) {b : Nat} (hb : x.ownBlock = some b) : ∃ o q, a = some ⟨b, o, q⟩ := by
  subst hx
  cases a with
  | none => cases hb
  | some ad => cases ad; simp [Value.ownBlock] at hb; subst hb; exact ⟨_, _, rfl⟩
/-- the blocks that a writing writes -/
def WF (p : Nat) (r0 : Nat → Value) (F : List Value) (b : Nat) : Prop := b = p ∨ (r0 2).ownBlock = some b ∨ (r0 3).ownBlock = some b ∨ ∃ x ∈ F, x.ownBlock = some b
def DstS (F : List Value) : Prop := ∀ (i j : Nat) x y, F[i]? = some x → F[j]? = some y → ¬ i = j → ∀ b, x.ownBlock = some b → ¬ y.ownBlock = some b
/-- amid the writing: d lists are written over -/
structure WI (w : World) (p : Nat) (ct tt : Int) (r0 : Nat → Value) (F W : List Value) (K0 : Nat) (Q : Nat → Prop) (wr : World) (r : Nat → Value) (L : Nat → List Value) (d : Nat) : Prop where
  sh : ShF wr p ct tt r L
  r0_ : r 0 = r0 0
  r1_ : r 1 = r0 1
  l0 : L 0 = F
  l1 : L 1 = W
  kl : (L 3).length = (L 2).length
  kb : (L 2).length ≤ K0
  pr : PrS wr (L 2) (L 3)
  fm : ∀ (j : Nat) x, F[j]? = some x → ∃ n, n ≤ 100000000000 ∧ FMk wr x ct j n (if j < d then n else 0)
  ks : ∀ (l : Nat) y, (L 2)[l]? = some y → ∀ (j : Nat) x, F[j]? = some x → ∀ b, x.ownBlock = some b → y.ownBlock = some b → j < d ∧ ∃ n m a c, x = .slice a n c ∧ UpS wr y (fI ct j n) m
  vs : ∀ (l : Nat) y, (L 3)[l]? = some y → ∀ (j : Nat) x, F[j]? = some x → ∀ b, x.ownBlock = some b → ¬ y.ownBlock = some b
  b2 : ∀ b, (r 2).ownBlock = some b → (r0 2).ownBlock = some b ∨ w.heap.size ≤ b
  b3 : ∀ b, (r 3).ownBlock = some b → (r0 3).ownBlock = some b ∨ w.heap.size ≤ b
  chg : Chg (WF p r0 F) w wr
  qs : ∀ (l : Nat) y b, (L 2)[l]? = some y ∨ (L 3)[l]? = some y → y.ownBlock = some b → Q b ∨ w.heap.size ≤ b
/-- shelf's rows and lists of texts lie apart -/
theorem ShF.apart {w : World} {p : Nat} {ct tt : Int} {r : Nat → Value} {L : Nat → List Value} (h : ShF w p ct tt r L) {v : Value} {n : Nat} {xs : List Value} (hv : w.ownsRow 0 9 1 v n xs) {b : Nat} (hb : v.ownBlock = some b) : ¬ b = p ∧ ∀ j, j < 4 → ¬ (r j).ownBlock = some b :=
  ⟨fun e => own_kindS hv h.st (by decide) (by rw [hb, e]), fun j hj e => own_apart (by decide) hv (h.row j hj) b hb e⟩
/-- only lists of texts turn -/
theorem ShF.text {w w' : World} {p : Nat} {ct tt : Int} {r : Nat → Value} {L : Nat → List Value} (h : ShF w p ct tt r L) {S : Nat → Prop} (c : Chg S w w') (hS : ∀ b, S b → ∃ cs, w.heap[b]? = some (.cells cs 9 (0, 0))) : ShF w' p ct tt r L := by
  refine ⟨(c.block p h.lt (fun hs => ?_)).trans h.st, fun j hj => owns_chg (h.row j hj) (fun k hk hs => ?_) c, h.sep⟩
  · obtain ⟨cs, hb⟩ := hS p hs
    rw [h.st] at hb; simp at hb
  · obtain ⟨cs, hb⟩ := hS k hs
    exact own_kindS (h.row j hj) hb (by decide) hk
theorem own_blk {B s n : Nat} {w : World} {e : TypeId} {v : Value} {xs : List Value} (h : w.ownsRow B e s v n xs) {b : Nat} (hb : v.ownBlock = some b) : ∃ cs, w.heap[b]? = some (.cells cs e (0, 0)) := by
  rcases h.2 with ⟨hv, _⟩ | ⟨g, cap, cur, hv, _, hg, _⟩
  · rw [hv] at hb; cases hb
  · rw [hv] at hb; simp [Value.ownBlock] at hb; subst hb; exact ⟨cur, hg⟩
theorem WI.fown {w : World} {p : Nat} {ct tt : Int} {r0 : Nat → Value} {F W : List Value} {K0 : Nat} {Q : Nat → Prop} {wr : World} {r : Nat → Value} {L : Nat → List Value} {d : Nat} (h : WI w p ct tt r0 F W K0 Q wr r L d) {j : Nat} {x : Value} (hx : F[j]? = some x) : ∃ N : List (List UInt8), OwS 0 x N wr ∧ N.length ≤ 100000000000 := by
  obtain ⟨n, hn, N, rfl, ho, _⟩ := h.fm j x hx
  exact ⟨N, ho, hn⟩
theorem WI.out {w : World} {p : Nat} {ct tt : Int} {r0 : Nat → Value} {F W : List Value} {K0 : Nat} {Q : Nat → Prop} {wr w' : World} {r : Nat → Value} {L : Nat → List Value} {d : Nat} (h : WI w p ct tt r0 F W K0 Q wr r L d) (o : Out wr w') : WI w p ct tt r0 F W K0 Q w' r L d :=
  ⟨h.sh.out o, h.r0_, h.r1_, h.l0, h.l1, h.kl, h.kb, h.pr.out o, fun j x hx => by
    obtain ⟨n, hn, hf⟩ := h.fm j x hx
    exact ⟨n, hn, hf.chg (S := fun _ => False) (Chg.of_out o) (fun _ _ h => h)⟩, fun l y hy j x hx b hb hyb => by
    obtain ⟨h1, n, m, a, c, h2, h3⟩ := h.ks l y hy j x hx b hb hyb
    exact ⟨h1, n, m, a, c, h2, h3.chg (S := fun _ => False) (Chg.of_out o) (fun _ _ h => h)⟩, h.vs, h.b2, h.b3, h.chg.trans (T := fun _ => False) (Chg.of_out o) (fun _ h _ => h.elim), h.qs⟩
/-- a list of texts is kept -/
theorem WI.kept {w : World} {p : Nat} {ct tt : Int} {r0 : Nat → Value} {F W : List Value} {K0 : Nat} {Q : Nat → Prop} {wr w' : World} {r : Nat → Value} {L : Nat → List Value} {d : Nat} (h : WI w p ct tt r0 F W K0 Q wr r L d) {a : Option Addr} {n c : Nat} {N : List (List UInt8)} (hn : n = N.length) (hN : N.length ≤ 1000000000000) (hx : OwS 0 (.slice a n c) N wr) (hK : (L 2).length + 1 ≤ K0) (hq : ∀ b, (Value.slice a n c).ownBlock = some b → Q b ∨ w.heap.size ≤ b)
    (hks : ∀ (j : Nat) x, F[j]? = some x → ∀ b, x.ownBlock = some b → (Value.slice a n c).ownBlock = some b → j < d ∧ ∃ n' m a' c', x = .slice a' n' c' ∧ UpS wr (.slice a n c) (fI ct j n') m) (hk : KpE wr p ct tt r L (.slice a n c) N w') :
    ∃ r' L', WI w p ct tt r0 F W K0 Q w' r' L' d ∧ (L' 2).length = (L 2).length + 1 ∧ Chg (SOS p r) wr w' := by
  obtain ⟨v2, v3, y, hS, hy, hC, h2, h3⟩ := hk
  have apart : ∀ {v : Value} {m : Nat} {xs : List Value}, wr.ownsRow 0 9 1 v m xs → ∀ b, v.ownBlock = some b → ¬ SOS p r b := fun hv b hb hs => by
    have := h.sh.apart hv hb
    rcases hs with e | e | e
    · exact this.1 e
    · exact this.2 2 (by omega) e
    · exact this.2 3 (by omega) e
  obtain ⟨ay, cy, ey⟩ := own_form hy
  have hz := h.chg.size
  have hl2 : (upd (upd L 2 (L 2 ++ [Value.slice a n c])) 3 (L 3 ++ [y])) 2 = L 2 ++ [Value.slice a n c] := rfl
  have hl3 : (upd (upd L 2 (L 2 ++ [Value.slice a n c])) 3 (L 3 ++ [y])) 3 = L 3 ++ [y] := rfl
  refine ⟨_, _, ⟨hS, h.r0_, h.r1_, h.l0, h.l1, ?_, ?_, ?_, ?_, ?_, ?_, ?_, ?_, ?_, ?_⟩, by rw [hl2, List.length_append]; rfl, hC⟩
  · rw [hl2, hl3, List.length_append, List.length_append, h.kl]; rfl
  · rw [hl2, List.length_append]; exact hK
  · rw [hl2, hl3]
    have hp := h.pr.chg hC (fun i x b hx hb => by
      rcases hx with hx | hx
      · obtain ⟨z, hz⟩ : ∃ z, (L 3)[i]? = some z := ⟨_, List.getElem?_eq_getElem (by rw [h.kl]; exact (List.getElem?_eq_some_iff.1 hx).1)⟩
        obtain ⟨M, _, _, _, _, _, _, ho, _⟩ := h.pr i x z hx hz
        exact apart ho b hb
      · obtain ⟨z, hz⟩ : ∃ z, (L 2)[i]? = some z := ⟨_, List.getElem?_eq_getElem (by rw [← h.kl]; exact (List.getElem?_eq_some_iff.1 hx).1)⟩
        obtain ⟨M, _, _, _, _, _, _, _, ho, _⟩ := h.pr i z x hz hx
        exact apart ho b hb)
    intro i u z hu hzz
    by_cases hi : i < (L 2).length
    · rw [List.getElem?_append_left hi] at hu
      rw [List.getElem?_append_left (by rw [h.kl]; exact hi)] at hzz
      exact hp i u z hu hzz
    · have hie : i = (L 2).length := by have := (List.getElem?_eq_some_iff.1 hu).1; simp at this; omega
      subst hie
      rw [List.getElem?_append_right (Nat.le_refl _), Nat.sub_self] at hu
      rw [List.getElem?_append_right (by rw [h.kl]; exact Nat.le_refl _), h.kl, Nat.sub_self] at hzz
      simp at hu hzz
      subst hu hzz
      refine ⟨N, a, c, ay, cy, by rw [hn], ey, owns_chg hx (fun b hb => apart hx b hb) hC, OwS.lower hy (Nat.zero_le _), hN⟩
  · intro j x hxj
    obtain ⟨m, hm, hf⟩ := h.fm j x hxj
    exact ⟨m, hm, hf.chg hC (fun b hb => by obtain ⟨M, _, ho, _⟩ := hf; exact apart ho b hb)⟩
  · rw [hl2]
    intro l z hzl j x hxj b hb hzb
    by_cases hi : l < (L 2).length
    · rw [List.getElem?_append_left hi] at hzl
      obtain ⟨h4, n', m, a', c', h5, h6⟩ := h.ks l z hzl j x hxj b hb hzb
      exact ⟨h4, n', m, a', c', h5, h6.chg hC (fun b hb => apart h6 b hb)⟩
    · have hie : l - (L 2).length = 0 := by have := (List.getElem?_eq_some_iff.1 hzl).1; simp at this; omega
      rw [List.getElem?_append_right (by omega), hie] at hzl
      simp at hzl
      subst hzl
      obtain ⟨h4, n', m, a', c', h5, h6⟩ := hks j x hxj b hb hzb
      exact ⟨h4, n', m, a', c', h5, h6.chg hC (fun b hb => apart h6 b hb)⟩
  · rw [hl3]
    intro l z hzl j x hxj b hb hzb
    by_cases hi : l < (L 3).length
    · rw [List.getElem?_append_left hi] at hzl
      exact h.vs l z hzl j x hxj b hb hzb
    · have hie : l - (L 3).length = 0 := by have := (List.getElem?_eq_some_iff.1 hzl).1; simp at this; omega
      rw [List.getElem?_append_right (by omega), hie] at hzl
      simp at hzl
      subst hzl
      obtain ⟨M, ho, _⟩ := h.fown hxj
      have h7 := (World.ownsRow.lt ho b hb).2
      have h8 := (World.ownsRow.lt hy b hzb).1
      omega
  · intro b hb
    rcases h2 b hb with h9 | h9
    · exact h.b2 b h9
    · right; omega
  · intro b hb
    rcases h3 b hb with h9 | h9
    · exact h.b3 b h9
    · right; omega
  · refine h.chg.trans hC (fun b hb hlt => ?_)
    rcases hb with e | e | e
    · exact .inl e
    · rcases h.b2 b e with h9 | h9
      · exact .inr (.inl h9)
      · omega
    · rcases h.b3 b e with h9 | h9
      · exact .inr (.inr (.inl h9))
      · omega
  · rw [hl2, hl3]
    intro l z b hzl hzb
    rcases hzl with hzl | hzl
    · by_cases hi : l < (L 2).length
      · rw [List.getElem?_append_left hi] at hzl
        exact h.qs l z b (.inl hzl) hzb
      · have hie : l - (L 2).length = 0 := by have := (List.getElem?_eq_some_iff.1 hzl).1; simp at this; omega
        rw [List.getElem?_append_right (by omega), hie] at hzl
        simp at hzl
        subst hzl
        exact hq b hzb
    · by_cases hi : l < (L 3).length
      · rw [List.getElem?_append_left hi] at hzl
        exact h.qs l z b (.inr hzl) hzb
      · have hie : l - (L 3).length = 0 := by have := (List.getElem?_eq_some_iff.1 hzl).1; simp at this; omega
        rw [List.getElem?_append_right (by omega), hie] at hzl
        simp at hzl
        subst hzl
        have h8 := (World.ownsRow.lt hy b hzb).1
        right; omega
theorem own_unique {B B' s n : Nat} {w : World} {e e' : TypeId} {v : Value} {xs ys : List Value} (h : w.ownsRow B e s v n xs) (h' : w.ownsRow B' e' s v n ys) : xs = ys := by
  rcases h.2 with ⟨hv, h0⟩ | ⟨g, cap, cur, hv, _, hg, _, _, _, ht⟩
  · have l1 := h.1
    have l2 := h'.1
    subst h0
    rw [Nat.zero_mul] at l1 l2
    rw [List.eq_nil_of_length_eq_zero l1, List.eq_nil_of_length_eq_zero l2]
  · rcases h'.2 with ⟨hv', h0⟩ | ⟨g', cap', cur', hv', _, hg', _, _, _, ht'⟩
    · rw [hv] at hv'; cases hv'
    · rw [hv] at hv'
      simp only [Value.slice.injEq, Option.some.injEq, Addr.mk.injEq] at hv'
      obtain ⟨⟨rfl, _⟩, _⟩ := hv'
      rw [hg] at hg'
      simp at hg'
      obtain ⟨rfl, _⟩ := hg'
      rw [← ht, ← ht']
theorem FMk.zero {w : World} {x : Value} {ct : Int} {j n k : Nat} (h : FMk w x ct j n k) : FMk w x ct j n 0 := by
  obtain ⟨N, hN, h, _⟩ := h
  exact ⟨N, hN, h, fun q hq => by omega⟩
/-- one more is written over -/
theorem FMk.mark {w : World} {g n c : Nat} {ct : Int} {j k : Nat} (h : FMk w (.slice (some ⟨g, 0, none⟩) n c) ct j n k) (hk : k < n) : FMk (w.setCell ⟨g, k, none⟩ (strV (mT (977 * ct + 31 * j + k)))) (.slice (some ⟨g, 0, none⟩) n c) ct j n (k + 1) := by
  obtain ⟨N, rfl, ⟨h1, h2⟩, hm⟩ := h
  refine ⟨N.set k (mT (977 * ct + 31 * j + k)), by simp, ?_, fun q hq => ?_⟩
  · rcases h2 with ⟨hv, _⟩ | ⟨g', cap, cur, hv, hb, hg, hnc, hcm, hcs, ht⟩
    · cases hv
    · simp only [Value.slice.injEq, Option.some.injEq, Addr.mk.injEq] at hv
      obtain ⟨⟨rfl, _⟩, _, rfl⟩ := hv
      refine ⟨by simp, .inr ⟨g, c, _, by simp, hb, set_atL hg k _, by simpa using hnc, hcm, by simpa using hcs, ?_⟩⟩
      simp only [Nat.mul_one, List.length_set] at ht ⊢
      rw [Array.toList_setIfInBounds, List.take_set, ht, List.map_set]
  · by_cases hqk : q = k
    · subst hqk
      rw [List.getElem?_set_self hk]
    · rw [List.getElem?_set_ne (fun e => hqk e.symm)]
      exact hm q (by omega)
section
variable {w : World} {p : Nat} {ct tt : Int} {r0 : Nat → Value} {F W : List Value} {K0 : Nat} {Q : Nat → Prop} {wr w' : World} {r : Nat → Value} {L : Nat → List Value} {d : Nat}
theorem WI.kown (h : WI w p ct tt r0 F W K0 Q wr r L d) {l : Nat} {y : Value} (hy : (L 2)[l]? = some y) : ∃ N : List (List UInt8), OwS 0 y N wr := by
  obtain ⟨z, hz⟩ : ∃ z, (L 3)[l]? = some z := ⟨_, List.getElem?_eq_getElem (by rw [h.kl]; exact (List.getElem?_eq_some_iff.1 hy).1)⟩
  obtain ⟨M, _, _, _, _, _, _, ho, _⟩ := h.pr l y z hy hz
  exact ⟨M, ho⟩
/-- the d-th list turns, and nothing else -/
theorem WI.turn (h : WI w p ct tt r0 F W K0 Q wr r L d) (hD : DstS F) {x : Value} (hx : F[d]? = some x) {g : Nat} (hg : x.ownBlock = some g) (c : Chg (fun b => b = g) wr w') {n : Nat} (hn : n ≤ 100000000000) (hf : FMk w' x ct d n 0) : WI w p ct tt r0 F W K0 Q w' r L d := by
  obtain ⟨N, ho, _⟩ := h.fown hx
  refine ⟨h.sh.text c (fun b hb => by rw [hb]; exact own_blk ho hg), h.r0_, h.r1_, h.l0, h.l1, h.kl, h.kb, h.pr.chg c (fun i y b hy hb e => ?_), fun j y hy => ?_, fun l y hy j z hz b hb hyb => ?_, h.vs, h.b2, h.b3, h.chg.trans c (fun b hb _ => ?_), h.qs⟩
  · rcases hy with hy | hy
    · have := (h.ks i y hy d x hx g hg (by rw [hb, e])).1; omega
    · exact h.vs i y hy d x hx g hg (by rw [hb, e])
  · by_cases hjd : j = d
    · subst hjd
      rw [hx] at hy
      cases hy
      exact ⟨n, hn, by rw [if_neg (by omega)]; exact hf⟩
    · obtain ⟨m, hm, hf'⟩ := h.fm j y hy
      exact ⟨m, hm, hf'.chg c (fun b hb e => hD d j x y hx hy (fun e => hjd e.symm) g hg (by rw [hb, e]))⟩
  · obtain ⟨h1, m, q, a, cc, h2, h3⟩ := h.ks l y hy j z hz b hb hyb
    refine ⟨h1, m, q, a, cc, h2, h3.chg c (fun b' hb' e => ?_)⟩
    have := (h.ks l y hy d x hx g hg (by rw [hb', e])).1; omega
  · rw [hb]; exact .inr (.inr (.inr ⟨x, List.mem_of_getElem? hx, hg⟩))
/-- the d-th list is written over -/
theorem WI.next (h : WI w p ct tt r0 F W K0 Q wr r L d) {x : Value} (hx : F[d]? = some x) {n : Nat} (hn : n ≤ 100000000000) (hf : FMk wr x ct d n n) : WI w p ct tt r0 F W K0 Q wr r L (d + 1) := by
  refine ⟨h.sh, h.r0_, h.r1_, h.l0, h.l1, h.kl, h.kb, h.pr, fun j y hy => ?_, fun l y hy j z hz b hb hyb => ?_, h.vs, h.b2, h.b3, h.chg, h.qs⟩
  · by_cases hjd : j = d
    · subst hjd
      rw [hx] at hy
      cases hy
      exact ⟨n, hn, by rw [if_pos (by omega)]; exact hf⟩
    · obtain ⟨m, hm, hf'⟩ := h.fm j y hy
      refine ⟨m, hm, ?_⟩
      by_cases hlt : j < d
      · rw [if_pos hlt] at hf'; rw [if_pos (by omega)]; exact hf'
      · rw [if_neg hlt] at hf'; rw [if_neg (by omega)]; exact hf'
  · obtain ⟨h1, h2⟩ := h.ks l y hy j z hz b hb hyb
    exact ⟨by omega, h2⟩
/-- a list is grown -/
theorem WI.mild (h : WI w p ct tt r0 F W K0 Q wr r L d) (hD : DstS F) {i : Nat} (hi : i < d) {a : Option Addr} {n c : Nat} (hx : F[i]? = some (.slice a n c)) (hm : MildS (fI ct i n) (Value.slice a n c).ownBlock wr w') : WI w p ct tt r0 F W K0 Q w' r L d := by
  obtain ⟨N, ho, _⟩ := h.fown hx
  have hup : ∀ {y : Value} {l b : Nat}, (L 2)[l]? = some y → y.ownBlock = some b → (Value.slice a n c).ownBlock = some b → ∃ m, UpS wr y (fI ct i n) m := fun {y l b} hy hb hob => by
    obtain ⟨_, n', m, a', c', e, hu⟩ := h.ks l y hy i _ hx b hob hb
    simp only [Value.slice.injEq] at e
    obtain ⟨_, rfl, _⟩ := e
    exact ⟨m, hu⟩
  refine ⟨h.sh.text hm.chg (fun b hb => own_blk ho hb), h.r0_, h.r1_, h.l0, h.l1, h.kl, h.kb, fun l y z hy hz => ?_, fun j y hy => ?_, fun l y hy j z hz b hb hyb => ?_, h.vs, h.b2, h.b3, h.chg.trans hm.chg (fun b hb _ => .inr (.inr (.inr ⟨_, List.mem_of_getElem? hx, hb⟩))), h.qs⟩
  · obtain ⟨M, a1, c1, a2, c2, h1, h2, h3, h4, h5⟩ := h.pr l y z hy hz
    refine ⟨M, a1, c1, a2, c2, h1, h2, ?_, owns_chg h4 (fun b hb e => h.vs l z hz i _ hx b e hb) hm.chg, h5⟩
    by_cases hs : ∃ b, y.ownBlock = some b ∧ (Value.slice a n c).ownBlock = some b
    · obtain ⟨b, hb, hob⟩ := hs
      obtain ⟨m, hu⟩ := hup hy hb hob
      obtain ⟨a', c', e⟩ := hu.form
      have e' := e
      rw [h1] at e'
      simp only [Value.slice.injEq] at e'
      have hml := e'.2.1
      subst hml
      have hq := own_unique h3 (show wr.ownsRow 0 9 1 y M.length _ from hu)
      have := hm.row y M.length hu
      unfold UpS at this
      rw [← hq] at this
      exact this
    · exact owns_chg h3 (fun b hb e => hs ⟨b, hb, e⟩) hm.chg
  · obtain ⟨m, hmb, hf⟩ := h.fm j y hy
    refine ⟨m, hmb, ?_⟩
    by_cases hji : j = i
    · subst hji
      rw [hx] at hy
      cases hy
      rw [if_pos hi] at hf ⊢
      have hu := hf.up
      obtain ⟨a', c', e⟩ := hu.form
      simp only [Value.slice.injEq] at e
      obtain ⟨_, rfl, _⟩ := e
      exact UpS.fmk (hm.row _ _ hu)
    · exact hf.chg hm.chg (fun b hb e => hD i j _ y hx hy (fun e => hji e.symm) b e hb)
  · obtain ⟨h1, n', m, a', c', h2, h3⟩ := h.ks l y hy j z hz b hb hyb
    refine ⟨h1, n', m, a', c', h2, ?_⟩
    by_cases hji : j = i
    · subst hji
      rw [hx] at hz
      cases hz
      simp only [Value.slice.injEq] at h2
      obtain ⟨_, rfl, _⟩ := h2
      exact hm.row y m h3
    · refine h3.chg hm.chg (fun b' hb' e => ?_)
      rw [hyb] at hb'
      simp only [Option.some.injEq] at hb'
      subst hb'
      exact hD i j _ z hx hz (fun e => hji e.symm) b e hb
end
/-- the shelf's blocks -/
def QS (p : Nat) (r : Nat → Value) (L : Nat → List Value) (b : Nat) : Prop := b = p ∨ ∃ j, j < 4 ∧ ((r j).ownBlock = some b ∨ ∃ x ∈ L j, x.ownBlock = some b)
/-- the shelf between two calls -/
structure ShI (w : World) (p : Nat) (ct tt : Int) (r : Nat → Value) (L : Nat → List Value) : Prop where
  sh : ShF w p ct tt r L
  wl : (L 1).length = (L 0).length
  kl : (L 3).length = (L 2).length
  pf : PrS w (L 0) (L 1)
  pk : PrS w (L 2) (L 3)
  fl : ∀ (j : Nat) x, (L 0)[j]? = some x → ∃ N : List (List UInt8), OwS 0 x N w ∧ N.length ≤ 100000000000
  dst : DstS (L 0)
  fk : ∀ (l : Nat) y, (L 2)[l]? = some y ∨ (L 3)[l]? = some y → ∀ (j : Nat) x, (L 0)[j]? = some x → ∀ b, x.ownBlock = some b → ¬ y.ownBlock = some b
theorem ShI.chg {w w' : World} {p : Nat} {ct tt : Int} {r : Nat → Value} {L : Nat → List Value} (h : ShI w p ct tt r L) {T : Nat → Prop} (c : Chg T w w') (hT : ∀ b, QS p r L b → ¬ T b) : ShI w' p ct tt r L := by
  have hq : ∀ {i : Nat} {x : Value} {j b : Nat}, j < 4 → (L j)[i]? = some x → x.ownBlock = some b → ¬ T b := fun {i x j b} hj hx hb => hT b (.inr ⟨j, hj, .inr ⟨x, List.mem_of_getElem? hx, hb⟩⟩)
  refine ⟨⟨(c.block p h.sh.lt (hT p (.inl rfl))).trans h.sh.st, fun j hj => owns_chg (h.sh.row j hj) (fun b hb => hT b (.inr ⟨j, hj, .inl hb⟩)) c, h.sh.sep⟩, h.wl, h.kl, h.pf.chg c (fun i x b hx hb => ?_), h.pk.chg c (fun i x b hx hb => ?_), fun j x hx => ?_, h.dst, h.fk⟩
  · rcases hx with hx | hx
    · exact hq (j := 0) (by omega) hx hb
    · exact hq (j := 1) (by omega) hx hb
  · rcases hx with hx | hx
    · exact hq (j := 2) (by omega) hx hb
    · exact hq (j := 3) (by omega) hx hb
  · obtain ⟨N, ho, hn⟩ := h.fl j x hx
    exact ⟨N, owns_chg ho (fun b hb => hq (j := 0) (by omega) hx hb) c, hn⟩
theorem ShI.out {w w' : World} {p : Nat} {ct tt : Int} {r : Nat → Value} {L : Nat → List Value} (h : ShI w p ct tt r L) (o : Out w w') : ShI w' p ct tt r L := h.chg (T := fun _ => False) (Chg.of_out o) (fun _ _ h => h)
/-- the field Bad is stored again -/
theorem ShF.bad {w : World} {p : Nat} {ct tt : Int} {r : Nat → Value} {L : Nat → List Value} (h : ShF w p ct tt r L) : ShF (w.setCell ⟨p, 2, none⟩ (.bool false)) p ct tt r L ∧ Chg (fun b => b = p) w (w.setCell ⟨p, 2, none⟩ (.bool false)) := by
  have c : Chg (fun b => b = p) w (w.setCell ⟨p, 2, none⟩ (.bool false)) := Chg.setCell (S := fun b => b = p) (Chg.refl _ w) (p := ⟨p, 2, none⟩) rfl _
  refine ⟨⟨by rw [set_atL h.st]; rfl, fun j hj => owns_chg (h.row j hj) (fun b hb e => h.notp hj (by rw [hb, e])) c, h.sep⟩, c⟩
/-- ahead of the writing -/
theorem WI.start {w w1 : World} {p : Nat} {ct tt : Int} {r : Nat → Value} {L : Nat → List Value} (h : ShI w p ct tt r L) (o : Out w w1) : WI w p ct tt r (L 0) (L 1) ((L 2).length + 4 * (L 0).length) (QS p r L) (w1.setCell ⟨p, 2, none⟩ (.bool false)) r L 0 := by
  have h1 := h.out o
  obtain ⟨hs, c⟩ := h1.sh.bad
  have ap : ∀ {v : Value} {n : Nat} {xs : List Value}, w1.ownsRow 0 9 1 v n xs → ∀ b, v.ownBlock = some b → ¬ b = p := fun hv b hb => (h1.sh.apart hv hb).1
  refine ⟨hs, rfl, rfl, rfl, rfl, h.kl, by omega, h1.pk.chg c (fun i x b hx hb => ?_), fun j x hx => ?_, fun l y hy j x hx b hb hyb => absurd hyb (h.fk l y (.inl hy) j x hx b hb), fun l y hy j x hx b hb => h.fk l y (.inr hy) j x hx b hb, fun b hb => .inl hb, fun b hb => .inl hb, (Chg.of_out (S := WF p r (L 0)) o).trans c (fun b hb _ => .inl hb), fun l y b hy hb => ?_⟩
  · rcases hx with hx | hx
    · obtain ⟨z, hz⟩ : ∃ z, (L 3)[i]? = some z := ⟨_, List.getElem?_eq_getElem (by rw [h.kl]; exact (List.getElem?_eq_some_iff.1 hx).1)⟩
      obtain ⟨M, _, _, _, _, _, _, ho, _⟩ := h1.pk i x z hx hz
      exact ap ho b hb
    · obtain ⟨z, hz⟩ : ∃ z, (L 2)[i]? = some z := ⟨_, List.getElem?_eq_getElem (by rw [← h.kl]; exact (List.getElem?_eq_some_iff.1 hx).1)⟩
      obtain ⟨M, _, _, _, _, _, _, _, ho, _⟩ := h1.pk i z x hz hx
      exact ap ho b hb
  · obtain ⟨N, ho, hn⟩ := h1.fl j x hx
    refine ⟨N.length, hn, N, rfl, owns_chg ho (fun b hb => ap ho b hb) c, fun q hq => ?_⟩
    rw [if_neg (by omega)] at hq; omega
  · rcases hy with hy | hy
    · exact .inl (.inr ⟨2, by omega, .inr ⟨y, List.mem_of_getElem? hy, hb⟩⟩)
    · exact .inl (.inr ⟨3, by omega, .inr ⟨y, List.mem_of_getElem? hy, hb⟩⟩)
end Go.Proofs.Ytgakmbeooobhjaa
