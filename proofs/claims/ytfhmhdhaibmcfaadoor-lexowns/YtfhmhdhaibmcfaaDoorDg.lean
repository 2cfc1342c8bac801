import Derived.Test.YtfhmhdhaibmcfaaDoorZa
import Derived.Deep.RegionLaw
namespace Go.Proofs.YtfhmhdhaibmcfaaDoor
open Go.RowKit
set_option linter.unusedVariables false
set_option linter.unusedSimpArgs false
set_option maxRecDepth 20000 in
theorem mine_any (m : Int) (h0 : 0 ≤ m) (h1 : m ≤ 1000000000000000) (w : World) : Calls Tryd.prog 32 #[.int .i64 m] w fun e w' => e = .returned (.agg #[.int .i64 77, .string ⟨#[109, 105, 110, 101]⟩, .int .u64 m, .int .i64 0]) ∧ Out w w' := by
  have h2 : m < 18446744073709551616 := by omega
  go_enter Tryd.func32, Tryd.ntmps32
  go_wp2
  refine bodyPost_ret (results_cell_row rfl _ _ w.heap.size 36 _ (0, 0) _ rfl (heap_alloc_new _ _) Tryd.underlying36 rfl sizeTk) rfl ?_
  exact ⟨rfl, Out.alloc (Out.refl _) _⟩
/-- a mark's cells -/
def mkC (m : Int) : List Value := [.int .i64 77, .string ⟨#[109, 105, 110, 101]⟩, .int .u64 m, .int .i64 0]
/-- a block of tokens, by its cells -/
def BlT (w : World) (g : Nat) (cs : Array Value) : Prop := w.heap[g]? = some (.cells cs 36 (0, 0))
theorem BlT.lt {w : World} {g : Nat} {cs : Array Value} (h : BlT w g cs) : g < w.heap.size := (Array.getElem?_eq_some_iff.1 h).1
theorem BlT.chg {S : Nat → Prop} {w w' : World} {g : Nat} {cs : Array Value} (h : BlT w g cs) (c : Chg S w w') (hs : ¬ S g) : BlT w' g cs := (c.block g h.lt hs).trans h
theorem BlT.out {w w' : World} {g : Nat} {cs : Array Value} (h : BlT w g cs) (o : Out w w') : BlT w' g cs := (o.block g h.lt).trans h
/-- the first n tokens are marks from m on -/
def Mk (m : Int) (n : Nat) (cs : Array Value) : Prop := ∀ k, k < n → ∀ j, j < 4 → cs[k * 4 + j]? = (mkC (m + k))[j]?
theorem Mk.zero (m : Int) (cs : Array Value) : Mk m 0 cs := fun k hk => by omega
theorem Mk.le {m : Int} {n n' : Nat} {cs : Array Value} (h : Mk m n cs) (hn : n' ≤ n) : Mk m n' cs := fun k hk => h k (by omega)
/-- a list of marks from m on -/
def ML (w : World) (v : Value) (m : Int) (n : Nat) : Prop := (v = .slice none 0 0 ∧ n = 0) ∨ ∃ g c cs, v = .slice (some ⟨g, 0, none⟩) n c ∧ BlT w g cs ∧ cs.size = c * 4 ∧ n ≤ c ∧ Mk m n cs
theorem ML.form {w : World} {v : Value} {m : Int} {n : Nat} (h : ML w v m n) : ∃ a c, v = .slice a n c := by
  rcases h with ⟨rfl, rfl⟩ | ⟨g, c, cs, rfl, _⟩
  · exact ⟨_, _, rfl⟩
  · exact ⟨_, _, rfl⟩
theorem ML.out {w w' : World} {v : Value} {m : Int} {n : Nat} (h : ML w v m n) (o : Out w w') : ML w' v m n := by
  rcases h with h | ⟨g, c, cs, hv, hb, h⟩
  · exact .inl h
  · exact .inr ⟨g, c, cs, hv, hb.out o, h⟩
theorem ML.chg {S : Nat → Prop} {w w' : World} {v : Value} {m : Int} {n : Nat} (h : ML w v m n) (c : Chg S w w') (hs : ∀ b, v.ownBlock = some b → ¬ S b) : ML w' v m n := by
  rcases h with h | ⟨g, cp, cs, hv, hb, h⟩
  · exact .inl h
  · exact .inr ⟨g, cp, cs, hv, hb.chg c (hs g (by rw [hv]; rfl)), h⟩
theorem ML.lt {w : World} {v : Value} {m : Int} {n : Nat} (h : ML w v m n) : ∀ b, v.ownBlock = some b → b < w.heap.size := fun b hb => by
  rcases h with ⟨rfl, _⟩ | ⟨g, c, cs, rfl, hg, _⟩
  · cases hb
  · simp [Value.ownBlock] at hb; subst hb; exact hg.lt
/-- only block ob is written, and its marks stay -/
structure Mild (m : Int) (ob : Option Nat) (w w' : World) : Prop where
  chg : Chg (fun b => ob = some b) w w'
  row : ∀ b cs, ob = some b → BlT w b cs → ∃ cs', BlT w' b cs' ∧ cs'.size = cs.size ∧ ∀ e, Mk m e cs → Mk m e cs'
theorem Mild.of_out {m : Int} {ob : Option Nat} {w w' : World} (o : Out w w') : Mild m ob w w' := ⟨Chg.of_out o, fun b cs _ h => ⟨cs, h.out o, rfl, fun _ h => h⟩⟩
theorem Mild.trans {m : Int} {ob : Option Nat} {a b c : World} (h : Mild m ob a b) (k : Mild m ob b c) : Mild m ob a c := by
  refine ⟨h.chg.trans k.chg (fun x hx _ => hx), fun g cs hg hb => ?_⟩
  obtain ⟨cs1, h1, h2, h3⟩ := h.row g cs hg hb
  obtain ⟨cs2, k1, k2, k3⟩ := k.row g cs1 hg h1
  exact ⟨cs2, k1, k2.trans h2, fun e he => k3 e (h3 e he)⟩
/-- what is written lies in a newer block -/
theorem Mild.newer {m : Int} {ob o2 : Option Nat} {a b c : World} (h : Mild m ob a b) (k : Mild m o2 b c) (hn : ∀ x, o2 = some x → ob = some x ∨ a.heap.size ≤ x) : Mild m ob a c := by
  refine ⟨h.chg.trans k.chg (fun x hx hlt => by rcases hn x hx with e | e; exact e; omega), fun g cs hg hb => ?_⟩
  obtain ⟨cs1, h1, h2, h3⟩ := h.row g cs hg hb
  by_cases ho : o2 = some g
  · obtain ⟨cs2, k1, k2, k3⟩ := k.row g cs1 ho h1
    exact ⟨cs2, k1, k2.trans h2, fun e he => k3 e (h3 e he)⟩
  · exact ⟨cs1, h1.chg k.chg ho, h2, h3⟩
theorem ML.mild {m : Int} {ob : Option Nat} {w w' : World} {v : Value} {n : Nat} (h : ML w v m n) (k : Mild m ob w w') : ML w' v m n := by
  rcases h with h | ⟨g, c, cs, hv, hb, hs, hn, hm⟩
  · exact .inl h
  · by_cases ho : ob = some g
    · obtain ⟨cs', h1, h2, h3⟩ := k.row g cs ho hb
      exact .inr ⟨g, c, cs', hv, h1, h2.trans hs, hn, h3 n hm⟩
    · exact .inr ⟨g, c, cs, hv, hb.chg k.chg ho, hs, hn, hm⟩
theorem mkC_len (m : Int) : (mkC m).length = 4 := rfl
theorem mkC_one (m : Int) : ∀ u ∈ mkC m, u.oneCell' = true := by
  intro u hu
  simp [mkC] at hu
  rcases hu with rfl | rfl | rfl | rfl <;> rfl
/-- a row with one token put in -/
def putC (cs : Array Value) (n : Nat) (news : List Value) : Array Value := (cs.toList.take (n * 4) ++ news ++ cs.toList.drop (n * 4 + news.length)).toArray
theorem putC_size (cs : Array Value) (n : Nat) (m : Int) (h : n * 4 + 4 ≤ cs.size) : (putC cs n (mkC m)).size = cs.size := by
  simp [putC, mkC_len]; omega
theorem putC_get (cs : Array Value) (n : Nat) (m : Int) (h : n * 4 + 4 ≤ cs.size) (i : Nat) : (putC cs n (mkC m))[i]? = if i < n * 4 then cs[i]? else if i < n * 4 + 4 then (mkC m)[i - n * 4]? else cs[i]? := by
  have hl : (cs.toList.take (n * 4)).length = n * 4 := by simp; omega
  unfold putC
  rw [List.getElem?_toArray]
  by_cases h1 : i < n * 4
  · rw [if_pos h1, List.append_assoc, List.getElem?_append_left (by omega), List.getElem?_take, if_pos h1]; simp
  · rw [if_neg h1]
    by_cases h2 : i < n * 4 + 4
    · rw [if_pos h2, List.getElem?_append_left (by rw [List.length_append, hl, mkC_len]; exact h2), List.getElem?_append_right (by omega), hl]
    · rw [if_neg h2, List.getElem?_append_right (by rw [List.length_append, hl, mkC_len]; omega), List.length_append, hl, mkC_len, List.getElem?_drop, show n * 4 + 4 + (i - (n * 4 + 4)) = i by omega]; simp
theorem putC_mk {cs : Array Value} {n : Nat} {m : Int} (h : n * 4 + 4 ≤ cs.size) (e : Nat) (he : Mk m e cs) : Mk m e (putC cs n (mkC (m + n))) := fun k hk j hj => by
  rw [putC_get _ _ _ h]
  by_cases h1 : k * 4 + j < n * 4
  · rw [if_pos h1]; exact he k hk j hj
  · rw [if_neg h1]
    by_cases h2 : k * 4 + j < n * 4 + 4
    · obtain rfl : k = n := by omega
      rw [if_pos h2, show k * 4 + j - k * 4 = j by omega]
    · rw [if_neg h2]; exact he k hk j hj
theorem putC_succ {cs : Array Value} {n : Nat} {m : Int} (h : n * 4 + 4 ≤ cs.size) (he : Mk m n cs) : Mk m (n + 1) (putC cs n (mkC (m + n))) := fun k hk j hj => by
  by_cases hkn : k < n
  · exact putC_mk h n he k hkn j hj
  · obtain rfl : k = n := by omega
    rw [putC_get _ _ _ h, if_neg (by omega), if_pos (by omega), show k * 4 + j - k * 4 = j by omega]
end Go.Proofs.YtfhmhdhaibmcfaaDoor
namespace Go.Proofs.YtfhmhdhaibmcfaaDoor
open Go.RowKit
set_option linter.unusedVariables false
set_option linter.unusedSimpArgs false
theorem new_mk {cs : Array Value} {m : Int} {n gc : Nat} {z : Value} (hz : z.cells.size = 4) (hg : n + 1 ≤ gc) (hs : n * 4 ≤ cs.size) (he : Mk m n cs) :
    ((cs.toList.take (n * 4)).toArray ++ (mkC (m + n)).toArray ++ Builtin.zeroCells z.cells (gc - (n + 1))).size = gc * 4 ∧ Mk m (n + 1) ((cs.toList.take (n * 4)).toArray ++ (mkC (m + n)).toArray ++ Builtin.zeroCells z.cells (gc - (n + 1))) := by
  have hl : (cs.toList.take (n * 4)).length = n * 4 := by simp; omega
  refine ⟨?_, fun k hk j hj => ?_⟩
  · rw [Array.size_append, Array.size_append, size_zeroCells, hz, List.size_toArray, List.size_toArray, hl, mkC_len]; omega
  · rw [Array.append_assoc, ← Array.getElem?_toList, Array.toList_append, Array.toList_append]
    by_cases hkn : k < n
    · rw [List.getElem?_append_left (by simp; omega), List.getElem?_take, if_pos (by omega)]
      simpa using he k hkn j hj
    · obtain rfl : k = n := by omega
      rw [List.getElem?_append_right (by simp; omega), List.getElem?_append_left (by simp [mkC_len]; omega)]
      congr 1
      simp; omega
set_option maxRecDepth 20000 in
theorem append_mark (w : World) (v : Value) (m : Int) (n : Nat) (hv : ML w v m n) (ad : Addr) (hc : ∀ j u, (mkC (m + n))[j]? = some u → w.cell? (ad.add j) = some u) (hn : n ≤ 1000000000) :
    ∃ v' w', (∀ ty, (Builtin.append_ #[30, 30] ty #[v, .slice (some ad) 1 1]).run Tryd.prog w = .ok v' w') ∧ ML w' v' m (n + 1) ∧ Mild m v.ownBlock w w' ∧ (∀ b, v'.ownBlock = some b → v.ownBlock = some b ∨ w.heap.size ≤ b) := by
  obtain ⟨i0, hi, hz0, hz1, hz2⟩ := info_parts infoTk
  rcases hv with ⟨rfl, rfl⟩ | ⟨g, c, cs, rfl, hb, hs, hnc, hm⟩
  · have hr := fun ty => run_append_nil (P := Tryd.prog) w 30 ty 36 i0 _ Tryd.underlying30 hi hz0 ad 1 1 (mkC (m + 0)) (by rw [hz1]; rfl) hc (by omega) (by omega) (by rw [hz2]; omega)
    have hge := grownCap_ge w 1 0 36
    obtain ⟨h1, h2⟩ := new_mk (cs := #[]) (m := m) (n := 0) (gc := grownCap w 1 0 36) (z := .agg #[.int .i64 0, .string ⟨#[]⟩, .int .u64 0, .int .i64 0]) rfl (by simpa using hge) (by simp) (Mk.zero _ _)
    refine ⟨_, _, hr, .inr ⟨w.heap.size, _, _, rfl, ?_, h1, by simpa using hge, h2⟩, Mild.of_out ((Out.refl w).drew.alloc _), fun b hb => ?_⟩
    · have := heap_alloc_new w.drew (.cells ((#[].toList.take (0 * 4)).toArray ++ (mkC (m + ((0 : Nat) : Int))).toArray ++ Builtin.zeroCells (Value.agg #[.int .i64 0, .string ⟨#[]⟩, .int .u64 0, .int .i64 0]).cells (grownCap w 1 0 36 - (0 + 1))) 36)
      simpa [BlT] using this
    · simp [Value.ownBlock] at hb; right; omega
  · by_cases hroom : n + 1 ≤ c
    · have hr := fun ty => run_append_room (P := Tryd.prog) w 30 ty 36 i0 Tryd.underlying30 hi g n c cs hb ad 1 1 (mkC (m + n)) (by rw [hz1]; rfl) hc (mkC_one _) hroom (by rw [hz1, mkC_len]; omega)
      rw [hz1] at hr
      refine ⟨_, _, hr, .inr ⟨g, c, putC cs n (mkC (m + n)), rfl, setRow_heap w g _ _ _ _ hb, by rw [putC_size _ _ _ (by omega)]; exact hs, hroom, putC_succ (by omega) hm⟩, ⟨⟨rfl, rfl, rfl, by simp [World.setRow], fun k hk hne => setRow_other w g k _ (fun e => hne (by rw [e]; rfl))⟩, fun b cs0 hob hb0 => ?_⟩, fun b hb => .inl hb⟩
      simp [Value.ownBlock] at hob
      subst hob
      obtain rfl : cs0 = cs := by
        have h1 : w.heap[g]? = _ := hb0
        have h2 : w.heap[g]? = _ := hb
        rw [h2] at h1; simp at h1; exact h1.symm
      exact ⟨_, setRow_heap w g _ _ _ _ hb, putC_size _ _ _ (by omega), fun e he => putC_mk (by omega) e he⟩
    · have hcap := cap_le (need := n + 1) (old := c) (by omega)
      have hr := fun ty => run_append_grow (P := Tryd.prog) w 30 ty 36 i0 _ Tryd.underlying30 hi hz0 ⟨g, 0, none⟩ n c (cs.toList.take (n * 4)) (by rw [hz1]; simp; omega) (fun j u hu => by
        rw [List.getElem?_take] at hu
        split at hu
        · rw [WideShapes.add_plain, Nat.zero_add, cell_atL (show w.heap[g]? = _ from hb), ← Array.getElem?_toList]; exact hu
        · cases hu) ad 1 1 (mkC (m + n)) (by rw [hz1]; rfl) hc (by omega) (by omega) (by rw [hz2]; omega)
      have hge := grownCap_ge w (n + 1) c 36
      obtain ⟨h1, h2⟩ := new_mk (cs := cs) (m := m) (n := n) (gc := grownCap w (n + 1) c 36) (z := .agg #[.int .i64 0, .string ⟨#[]⟩, .int .u64 0, .int .i64 0]) rfl hge (by omega) hm
      refine ⟨_, _, hr, .inr ⟨w.heap.size, _, _, rfl, heap_alloc_new w.drew _, h1, hge, h2⟩, Mild.of_out ((Out.refl w).drew.alloc _), fun b hb => ?_⟩
      simp [Value.ownBlock] at hb; right; omega
set_option maxRecDepth 20000 in
set_option maxHeartbeats 1000000 in
theorem grown_any (w : World) (v : Value) (m : Int) (n k : Nat) (hv : ML w v m n) (h0 : 0 ≤ m) (h1 : m ≤ 100000000000) (hk : n + k ≤ 1000000000) :
    Calls Tryd.prog 45 #[v, .int .i64 m, .int .i64 k] w fun e w' => ∃ v', e = .returned v' ∧ ML w' v' m (n + k) ∧ Mild m v.ownBlock w w' ∧ (∀ b, v'.ownBlock = some b → v.ownBlock = some b ∨ w.heap.size ≤ b) := by
  have HV := hidOf hv
  obtain ⟨ob, hob⟩ : ∃ ob, ob = v.ownBlock := ⟨_, rfl⟩
  rw [← hob]
  have Hob := hidOf hob
  obtain ⟨a0, c0, rfl⟩ := hv.form
  clear hv hob
  go_enter Tryd.func45, Tryd.ntmps45
  go_wp2
  go_loopw [0, 7] (fun lv kv wr => ∃ (i : Nat) (a : Option Addr) (c : Nat), lv = .slice a (n + i) c ∧ kv = .int .i64 i ∧ i ≤ k ∧ Hid (ML wr (.slice a (n + i) c) m (n + i)) ∧ Hid (Mild m ob w wr) ∧ Hid (∀ b, (Value.slice a (n + i) c).ownBlock = some b → ob = some b ∨ w.heap.size ≤ b)) (fun _ kv _ => k - (intOf kv).toNat)
  case atStart => exact ⟨0, a0, c0, rfl, rfl, by omega, HV, hidOf (Mild.of_out (Out.refl w)), hidOf (fun b hb => .inl (by rw [Hob.out]; exact hb))⟩
  case round =>
    obtain ⟨i, a, c, rfl, rfl, hi, HM, HL, HB⟩ := hrel
    by_cases hlt : i < k
    · have hltI : (i : Int) < k := by omega
      have CMn : Hid (∀ wx, Calls Tryd.prog 32 #[.int .i64 (m + ((n : Int) + i))] wx fun e w' => e = .returned (.agg #[.int .i64 77, .string ⟨#[109, 105, 110, 101]⟩, .int .u64 (m + ((n : Int) + i)), .int .i64 0]) ∧ Out wx w') := fun wx => mine_any _ (by omega) (by omega) wx
      go_upto_region 3 with (first | (go_at_call 32; refine (CMn.out _).mono ?_; rintro e w2 ⟨rfl, ho⟩; have P2 := hidOf ho; clear ho) | (at_builtin; obtain ⟨v', w3, hr3, hl3, hd3, hb3⟩ := append_mark (w2.alloc (.cells #[.int .i64 77, .string ⟨#[109, 105, 110, 101]⟩, .int .u64 (m + ((n : Int) + i)), .int .i64 0] 36)) (.slice a (n + i) c) m (n + i) (HM.out.out (P2.out.alloc _)) ⟨w2.heap.size, 0, none⟩ (news_new w2 _ _ _ rfl) (by omega); refine wp_run rfl (.tmp 13) (.tmp 19) 30 rfl rfl rfl hr3 ?_; have L3 := hidOf hl3; have D3 := hidOf hd3; have B3 := hidOf hb3; clear hr3 hl3 hd3 hb3))
      obtain ⟨a3, c3, rfl⟩ := L3.out.form
      have HL3 : Hid (Mild m ob w w3) := Mild.newer (Mild.trans HL.out (Mild.of_out (P2.out.alloc _))) D3.out (fun x hx => HB.out x hx)
      have hsz := (P2.out.alloc (.cells #[.int .i64 77, .string ⟨#[109, 105, 110, 101]⟩, .int .u64 (m + ((n : Int) + i)), .int .i64 0] 36)).size
      have HB3 : Hid (∀ b, (Value.slice a3 (n + i + 1) c3).ownBlock = some b → ob = some b ∨ w.heap.size ≤ b) := fun b hb => by
        rcases B3.out b hb with h | h
        · exact HB.out b h
        · have := HL.out.chg.size; right; omega
      go_wp2
      go_roundw
      case rel => exact ⟨i + 1, a3, c3, rfl, by simp, by omega, L3, HL3, HB3⟩
      case measure => simp [intOf]; omega
    · have hltI : ¬ (i : Int) < k := by omega
      obtain rfl : i = k := by omega
      go_wp2
      go_ret
      exact ⟨_, rfl, HM.out, HL.out, HB.out⟩
end Go.Proofs.YtfhmhdhaibmcfaaDoor
namespace Go.Proofs.YtfhmhdhaibmcfaaDoor
open Go.RowKit
set_option linter.unusedVariables false
set_option linter.unusedSimpArgs false
/-- the shelf's block at p, and its four rows -/
structure Shf (w : World) (B p : Nat) (ct tt : Int) (fa wa ka ma : Value) (F W K : List Value) (M : List Int) : Prop where
  st : w.heap[p]? = some (.cells #[.int .i64 ct, .int .i64 tt, .bool false, fa, wa, ka, ma] 42 (0, 0))
  bp : B ≤ p
  fa_ : w.ownsRow B 30 1 fa F.length F
  wa_ : w.ownsRow B 30 1 wa W.length W
  ka_ : w.ownsRow B 30 1 ka K.length K
  ma_ : w.ownsRow B 3 1 ma M.length (M.map (Value.int .i64))
  fw : ∀ b, fa.ownBlock = some b → ¬ wa.ownBlock = some b
  fk : ∀ b, fa.ownBlock = some b → ¬ ka.ownBlock = some b
  wk : ∀ b, wa.ownBlock = some b → ¬ ka.ownBlock = some b
theorem Shf.lt {w : World} {B p : Nat} {ct tt : Int} {fa wa ka ma : Value} {F W K : List Value} {M : List Int} (h : Shf w B p ct tt fa wa ka ma F W K M) : p < w.heap.size := (Array.getElem?_eq_some_iff.1 h.st).1
theorem owns_out' {B size : Nat} {w w' : World} {e : TypeId} {v : Value} {n : Nat} {xs : List Value} (h : w.ownsRow B e size v n xs) (o : Out w w') : w'.ownsRow B e size v n xs := owns_chg (S := fun _ => False) h (fun _ _ h => h) (Chg.of_out o)
theorem Shf.out {w w' : World} {B p : Nat} {ct tt : Int} {fa wa ka ma : Value} {F W K : List Value} {M : List Int} (h : Shf w B p ct tt fa wa ka ma F W K M) (o : Out w w') : Shf w' B p ct tt fa wa ka ma F W K M :=
  ⟨(o.block p h.lt).trans h.st, h.bp, owns_out' h.fa_ o, owns_out' h.wa_ o, owns_out' h.ka_ o, owns_out' h.ma_ o, h.fw, h.fk, h.wk⟩
/-- a row's place -/
theorem own_get {B : Nat} {w : World} {e : TypeId} {a : Option Addr} {n c : Nat} {xs : List Value} (h : w.ownsRow B e 1 (.slice a n c) n xs) {i : Nat} {x : Value} (hx : xs[i]? = some x) : ∃ g, a = some ⟨g, 0, none⟩ ∧ w.cell? ⟨g, i, none⟩ = some x := by
  have hi := (List.getElem?_eq_some_iff.1 hx).1
  have hl := h.1
  rcases h.2 with ⟨hv, hn⟩ | ⟨g, cap, cur, hv, _⟩
  · omega
  · have hv2 := hv
    simp only [Value.slice.injEq] at hv2
    refine ⟨g, hv2.1, ?_⟩
    have := World.ownsRow.cells h (g := g) (by rw [hv]; rfl) i x hx
    rw [WideShapes.add_plain, Nat.zero_add] at this
    exact this
/-- what lies untouched, with its copies -/
def Prs (w : World) (F W : List Value) : Prop := ∀ (i : Nat) x y, F[i]? = some x → W[i]? = some y → ∃ T a1 c1 a2 c2, x = .slice a1 T.length c1 ∧ y = .slice a2 T.length c2 ∧ TksAt w a1 T ∧ TksAt w a2 T ∧ T.length ≤ 33554433
theorem Prs.out {w w' : World} {F W : List Value} (h : Prs w F W) (o : Out w w') : Prs w' F W := fun i x y hx hy => by
  obtain ⟨T, a1, c1, a2, c2, h1, h2, h3, h4, h5⟩ := h i x y hx hy
  exact ⟨T, a1, c1, a2, c2, h1, h2, h3.out o, h4.out o, h5⟩
/-- what is kept: marks -/
def Kp (w : World) (K : List Value) (M : List Int) : Prop := ∀ (i : Nat) x, K[i]? = some x → ∃ m n, M[i]? = some m ∧ ML w x m n ∧ n ≤ 1000000000 ∧ 0 ≤ m ∧ m ≤ 100000000000
theorem Kp.out {w w' : World} {K : List Value} {M : List Int} (h : Kp w K M) (o : Out w w') : Kp w' K M := fun i x hx => by
  obtain ⟨m, n, h1, h2, h3⟩ := h i x hx
  exact ⟨m, n, h1, h2.out o, h3⟩
set_option maxRecDepth 20000 in
set_option maxHeartbeats 1000000 in
theorem untouched_any (w : World) (B p : Nat) (ct tt : Int) (fa wa ka ma : Value) (F W K : List Value) (M : List Int) (h : Shf w B p ct tt fa wa ka ma F W K M) (hl : W.length = F.length) (hp : Prs w F W) (hF : F.length ≤ 1000) :
    Calls Tryd.prog 33 #[.pointer (some ⟨p, 0, none⟩)] w fun e w' => e = .returned (.bool true) ∧ Out w w' := by
  obtain ⟨af, cf, rfl⟩ := own_form h.fa_
  obtain ⟨aw, cw, rfl⟩ := own_form h.wa_
  have H := hidOf h
  have HP := hidOf hp
  have Hl := hidOf hl
  have c3 : w.cell? ⟨p, 3, none⟩ = some (.slice af F.length cf) := by rw [cell_atL h.st]; rfl
  have c4 : w.cell? ⟨p, 4, none⟩ = some (.slice aw F.length cw) := by rw [cell_atL h.st, ← hl]; rfl
  clear h hp hl
  go_enter Tryd.func33, Tryd.ntmps33
  go_wp2
  go_loopw [3] (fun kv wr => ∃ k : Nat, kv = .int .i64 k ∧ k ≤ F.length ∧ Hid (Out w wr)) (fun kv _ => F.length - (intOf kv).toNat)
  case atStart => exact ⟨0, rfl, by omega, hidOf (Out.refl w)⟩
  case round =>
    obtain ⟨k, rfl, hk, HO⟩ := hrel
    have d3 := cell_later HO.out c3
    have d4 := cell_later HO.out c4
    by_cases hlt : k < F.length
    · have hltI : (k : Int) < F.length := by omega
      obtain ⟨x, hx⟩ : ∃ x, F[k]? = some x := ⟨_, List.getElem?_eq_getElem hlt⟩
      obtain ⟨y, hy⟩ : ∃ y, W[k]? = some y := ⟨_, List.getElem?_eq_getElem (by have := Hl.out; omega)⟩
      obtain ⟨gf, rfl, qf⟩ := own_get H.out.fa_ hx
      obtain ⟨gw, rfl, qw⟩ := own_get H.out.wa_ hy
      have qf := cell_later HO.out qf
      have qw := cell_later HO.out qw
      obtain ⟨T, a1, c1, a2, c2, rfl, rfl, t1, t2, hT⟩ := HP.out k x y hx hy
      have T1 := hidOf (t1.out HO.out)
      have T2 := hidOf (t2.out HO.out)
      clear hx hy t1 t2
      have CS : Hid (∀ wx, Out wr wx → Calls Tryd.prog 16 #[.slice a1 T.length c1, .slice a2 T.length c2] wx fun e w' => e = .returned (.bool true) ∧ Out wx w') := fun wx ho => sameTokens_any wx a1 a2 c1 c2 T (T1.out.out ho) (T2.out.out ho) (by omega)
      go_upto_region 4 with fail
      go_region_held3 (fun w' => w'.cell? ⟨p, 3, none⟩ = some (.slice (some ⟨gf, 0, none⟩) F.length cf) ∧ w'.cell? ⟨p, 4, none⟩ = some (.slice (some ⟨gw, 0, none⟩) F.length cw) ∧ w'.cell? ⟨gf, k, none⟩ = some (.slice a1 T.length c1) ∧ w'.cell? ⟨gw, k, none⟩ = some (.slice a2 T.length c2)) (first | exact ⟨d3, d4, qf, qw⟩ | exact ⟨e3, e4, e5, e6⟩ | go_keep) (first | (go_at_call 16; refine (CS.out _ ((Out.refl wr).drewN _)).mono ?_; rintro e w2 ⟨rfl, h2⟩; have e3 := cell_later h2 d3; have e4 := cell_later h2 d4; have e5 := cell_later h2 qf; have e6 := cell_later h2 qw; have O2 := hidOf (Out.trans (HO.out.drewN _) h2); clear h2))
      go_wp2
      go_roundw
      case rel => exact ⟨k + 1, by simp, by omega, O2⟩
      case measure => simp [intOf]; omega
    · have hltI : ¬ (k : Int) < F.length := by omega
      go_wp2
      go_ret
      exact ⟨rfl, HO.out⟩
end Go.Proofs.YtfhmhdhaibmcfaaDoor
namespace Go.Proofs.YtfhmhdhaibmcfaaDoor
open Go.RowKit
set_option linter.unusedVariables false
set_option linter.unusedSimpArgs false
theorem wrapI (x : Int) (h0 : 0 ≤ x) (h1 : x ≤ 1000000000000000) : IntKind.i64.wrap x = x := by
  simp [IntKind.wrap, IntKind.bits, IntKind.signed]
  first | omega | (split <;> omega)
theorem ML.cells {w : World} {a : Option Addr} {n c : Nat} {m : Int} (h : ML w (.slice a n c) m n) {k : Nat} (hk : k < n) : ∃ g, a = some ⟨g, 0, none⟩ ∧ w.cell? ⟨g, k * 4, none⟩ = some (.int .i64 77) ∧ w.cell? ⟨g, k * 4 + 1, none⟩ = some (.string ⟨#[109, 105, 110, 101]⟩) ∧ w.cell? ⟨g, k * 4 + 2, none⟩ = some (.int .u64 (m + k)) ∧ w.cell? ⟨g, k * 4 + 3, none⟩ = some (.int .i64 0) := by
  rcases h with ⟨_, h⟩ | ⟨g, c', cs, hv, hb, hs, hn, hm⟩
  · omega
  · simp only [Value.slice.injEq] at hv
    refine ⟨g, hv.1, ?_, ?_, ?_, ?_⟩
    · rw [cell_atL (show w.heap[g]? = _ from hb)]; exact hm k hk 0 (by omega)
    · rw [cell_atL (show w.heap[g]? = _ from hb)]; exact hm k hk 1 (by omega)
    · rw [cell_atL (show w.heap[g]? = _ from hb)]; exact hm k hk 2 (by omega)
    · rw [cell_atL (show w.heap[g]? = _ from hb)]; exact hm k hk 3 (by omega)
set_option maxRecDepth 20000 in
set_option maxHeartbeats 1000000 in
theorem holds_any (w : World) (B p : Nat) (ct tt : Int) (fa wa ka ma : Value) (F W K : List Value) (M : List Int) (h : Shf w B p ct tt fa wa ka ma F W K M) (hl : W.length = F.length) (hp : Prs w F W) (hF : F.length ≤ 1000) (hk : Kp w K M) (hK : K.length ≤ 1000) (hKM : M.length = K.length) :
    Calls Tryd.prog 19 #[.pointer (some ⟨p, 0, none⟩)] w fun e w' => e = .returned (.bool true) ∧ Out w w' := by
  obtain ⟨ak, ck, rfl⟩ := own_form h.ka_
  obtain ⟨am, cm, rfl⟩ := own_form h.ma_
  have H := hidOf h
  have HK := hidOf hk
  have c5 : w.cell? ⟨p, 5, none⟩ = some (.slice ak K.length ck) := by rw [cell_atL h.st]; rfl
  have c6 : w.cell? ⟨p, 6, none⟩ = some (.slice am K.length cm) := by rw [cell_atL h.st, ← hKM]; rfl
  have c2 : w.cell? ⟨p, 2, none⟩ = some (.bool false) := by rw [cell_atL h.st]; rfl
  have CU : Hid (∀ wx, Out w wx → Calls Tryd.prog 33 #[.pointer (some ⟨p, 0, none⟩)] wx fun e w' => e = .returned (.bool true) ∧ Out wx w') := fun wx ho => untouched_any wx B p ct tt fa wa _ _ F W K M (h.out ho) hl (hp.out ho) hF
  have HKM := hidOf hKM
  clear h hp hl hk hKM
  go_enter Tryd.func19, Tryd.ntmps19
  go_wp2
  go_loopw [3] (fun kv wr => ∃ i : Nat, kv = .int .i64 i ∧ i ≤ K.length ∧ Hid (Out w wr)) (fun kv _ => K.length - (intOf kv).toNat)
  case atStart => exact ⟨0, rfl, by omega, hidOf (Out.refl w)⟩
  case round =>
    obtain ⟨i, rfl, hi, HO⟩ := hrel
    have d5 := cell_later HO.out c5
    by_cases hlt : i < K.length
    · have hltI : (i : Int) < K.length := by omega
      obtain ⟨x, hx⟩ : ∃ x, K[i]? = some x := ⟨_, List.getElem?_eq_getElem hlt⟩
      obtain ⟨m, n, hm, hml, hn, hm0, hm1⟩ := HK.out i x hx
      obtain ⟨a, c, rfl⟩ := hml.form
      obtain ⟨gk, rfl, qk⟩ := own_get H.out.ka_ hx
      obtain ⟨gm, rfl, qm⟩ := own_get H.out.ma_ (x := .int .i64 m) (i := i) (by rw [List.getElem?_map, hm]; rfl)
      have HML := hidOf hml
      clear hx hm hml
      go_wp2
      obtain ⟨w1, hw1⟩ : ∃ w1, w1 = wr := ⟨_, rfl⟩
      rw [← hw1] at HO
      have Hw1 := hidOf hw1
      clear hw1 d5
      go_loopw [4] (fun kv wr => ∃ k : Nat, kv = .int .i64 k ∧ k ≤ n ∧ Hid (Out w wr)) (fun kv _ => n - (intOf kv).toNat)
      case atStart => exact ⟨0, rfl, by omega, by rw [← Hw1.out]; exact HO⟩
      case round =>
        clear HO Hw1
        obtain ⟨k, rfl, hk, HO⟩ := hrel
        have d5 := cell_later HO.out c5
        have d6 := cell_later HO.out c6
        have qk := cell_later HO.out qk
        have qm := cell_later HO.out qm
        by_cases hkn : k < n
        · have hkI : (k : Int) < n := by omega
          obtain ⟨g, rfl, y0, y1, y2, y3⟩ := (HML.out.out HO.out).cells hkn
          have CMn : Hid (∀ wx, Calls Tryd.prog 32 #[.int .i64 (IntKind.i64.wrap (m + k))] wx fun e w' => e = .returned (.agg #[.int .i64 77, .string ⟨#[109, 105, 110, 101]⟩, .int .u64 (m + k), .int .i64 0]) ∧ Out wx w') := fun wx => by
            rw [wrapI _ (by omega) (by omega)]
            exact mine_any _ (by omega) (by omega) wx
          go_upto_region 7 with fail
          go_region_held3 (fun w' => w'.cell? ⟨p, 5, none⟩ = some (.slice (some ⟨gk, 0, none⟩) K.length ck) ∧ w'.cell? ⟨p, 6, none⟩ = some (.slice (some ⟨gm, 0, none⟩) K.length cm) ∧ w'.cell? ⟨gk, i, none⟩ = some (.slice (some ⟨g, 0, none⟩) n c) ∧ w'.cell? ⟨gm, i, none⟩ = some (.int .i64 m) ∧ w'.cell? ⟨g, k * 4, none⟩ = some (.int .i64 77) ∧ w'.cell? ⟨g, k * 4 + 1, none⟩ = some (.string ⟨#[109, 105, 110, 101]⟩) ∧ w'.cell? ⟨g, k * 4 + 2, none⟩ = some (.int .u64 (m + k)) ∧ w'.cell? ⟨g, k * 4 + 3, none⟩ = some (.int .i64 0)) (first | exact ⟨d5, d6, qk, qm, y0, y1, y2, y3⟩ | exact ⟨e5, e6, ek, em, z0, z1, z2, z3⟩ | go_keep) (first | (go_at_call 32; refine (CMn.out _).mono ?_; rintro e w2 ⟨rfl, h2⟩; have e5 := cell_later h2 d5; have e6 := cell_later h2 d6; have ek := cell_later h2 qk; have em := cell_later h2 qm; have z0 := cell_later h2 y0; have z1 := cell_later h2 y1; have z2 := cell_later h2 y2; have z3 := cell_later h2 y3; have O2 := hidOf (Out.trans (HO.out.drewN _) h2); clear h2))
          go_wp2
          go_roundw
          case rel => exact ⟨k + 1, by simp, by omega, O2⟩
          case measure => simp [intOf]; omega
        · have hkI : ¬ (k : Int) < n := by omega
          go_wp2
          go_roundw
          case rel => exact ⟨i + 1, by simp, by omega, HO⟩
          case measure => simp [intOf]; omega
    · have hltI : ¬ (i : Int) < K.length := by omega
      have d2 := cell_later HO.out c2
      go_wp2_with (go_at_call 33; refine (CU.out _ HO.out).mono ?_; rintro e w2 ⟨rfl, h2⟩; have O2 := hidOf (Out.trans HO.out h2); clear h2)
      go_ret
      exact ⟨rfl, O2.out⟩
end Go.Proofs.YtfhmhdhaibmcfaaDoor
namespace Go.Proofs.YtfhmhdhaibmcfaaDoor
open Go.RowKit
set_option linter.unusedVariables false
set_option linter.unusedSimpArgs false
/-- a row does not lie in a block of another kind -/
theorem own_kind {B s n : Nat} {w : World} {e t : TypeId} {v : Value} {xs : List Value} {b : Nat} {cs : Array Value} {fr : Nat × Nat} (h : w.ownsRow B e s v n xs) (hb : w.heap[b]? = some (.cells cs t fr)) (hne : ¬ e = t) : ¬ v.ownBlock = some b := fun hv => by
  rcases h.2 with ⟨hx, _⟩ | ⟨g, cap, cur, hx, _, hg, _⟩
  · rw [hx] at hv; cases hv
  · rw [hx] at hv
    simp [Value.ownBlock] at hv
    subst hv
    rw [hb] at hg; simp at hg; exact hne hg.2.1.symm
theorem Shf.notp {w : World} {B p : Nat} {ct tt : Int} {fa wa ka ma : Value} {F W K : List Value} {M : List Int} (h : Shf w B p ct tt fa wa ka ma F W K M) : (¬ fa.ownBlock = some p) ∧ (¬ wa.ownBlock = some p) ∧ (¬ ka.ownBlock = some p) ∧ ¬ ma.ownBlock = some p :=
  ⟨own_kind h.fa_ h.st (by decide), own_kind h.wa_ h.st (by decide), own_kind h.ka_ h.st (by decide), own_kind h.ma_ h.st (by decide)⟩
/-- a field is stored -/
theorem Shf.store {w : World} {B p : Nat} {ct tt : Int} {fa wa ka ma : Value} (hst : w.heap[p]? = some (.cells #[.int .i64 ct, .int .i64 tt, .bool false, fa, wa, ka, ma] 42 (0, 0))) (bp : B ≤ p) (j : Nat) (u : Value) {ct' tt' : Int} {fa' wa' ka' ma' : Value} {F' W' K' : List Value} {M' : List Int}
    (hc : (#[.int .i64 ct, .int .i64 tt, .bool false, fa, wa, ka, ma] : Array Value).setIfInBounds j u = #[.int .i64 ct', .int .i64 tt', .bool false, fa', wa', ka', ma'])
    (hf : w.ownsRow B 30 1 fa' F'.length F') (hw : w.ownsRow B 30 1 wa' W'.length W') (hk : w.ownsRow B 30 1 ka' K'.length K') (hm : w.ownsRow B 3 1 ma' M'.length (M'.map (Value.int .i64)))
    (fw : ∀ b, fa'.ownBlock = some b → ¬ wa'.ownBlock = some b) (fk : ∀ b, fa'.ownBlock = some b → ¬ ka'.ownBlock = some b) (wk : ∀ b, wa'.ownBlock = some b → ¬ ka'.ownBlock = some b) : Shf (w.setCell ⟨p, j, none⟩ u) B p ct' tt' fa' wa' ka' ma' F' W' K' M' := by
  have c : Chg (fun k => k = p) w (w.setCell ⟨p, j, none⟩ u) := Chg.setCell (S := fun k => k = p) (Chg.refl _ w) (p := ⟨p, j, none⟩) rfl u
  refine ⟨by rw [set_atL hst, hc], bp, owns_chg hf (fun k hk' e => own_kind hf hst (by decide) (by rw [hk', e])) c, owns_chg hw (fun k hk' e => own_kind hw hst (by decide) (by rw [hk', e])) c, owns_chg hk (fun k hk' e => own_kind hk hst (by decide) (by rw [hk', e])) c, owns_chg hm (fun k hk' e => own_kind hm hst (by decide) (by rw [hk', e])) c, fw, fk, wk⟩
/-- only blocks of tokens turn -/
theorem Shf.tok {w w' : World} {B p : Nat} {ct tt : Int} {fa wa ka ma : Value} {F W K : List Value} {M : List Int} (h : Shf w B p ct tt fa wa ka ma F W K M) {S : Nat → Prop} (c : Chg S w w') (hS : ∀ b, S b → b < w.heap.size → ∃ cs, BlT w b cs) : Shf w' B p ct tt fa wa ka ma F W K M := by
  have key : ∀ {e : TypeId} {n : Nat} {v : Value} {xs : List Value}, w.ownsRow B e 1 v n xs → ¬ e = 36 → w'.ownsRow B e 1 v n xs := fun {e n v xs} h1 hne => owns_chg h1 (fun k hk hs => by
    obtain ⟨cs, hb⟩ := hS k hs (h1.lt k hk).2
    exact own_kind h1 hb hne hk) c
  refine ⟨(c.block p h.lt (fun hs => ?_)).trans h.st, h.bp, key h.fa_ (by decide), key h.wa_ (by decide), key h.ka_ (by decide), key h.ma_ (by decide), h.fw, h.fk, h.wk⟩
  obtain ⟨cs, hb⟩ := hS p hs h.lt
  have h1 : w.heap[p]? = _ := hb
  rw [h.st] at h1; simp at h1
/-- a list that was handed out: k of its tokens are marks from m on -/
def FLk (w : World) (B : Nat) (x : Value) (m : Int) (n k : Nat) : Prop := n ≤ 33554433 ∧ k ≤ n ∧ ((x = .slice none 0 0 ∧ n = 0) ∨ ∃ g c cs, x = .slice (some ⟨g, 0, none⟩) n c ∧ B ≤ g ∧ BlT w g cs ∧ cs.size = c * 4 ∧ n ≤ c ∧ Mk m k cs)
theorem FLk.form {w : World} {B : Nat} {x : Value} {m : Int} {n k : Nat} (h : FLk w B x m n k) : ∃ a c, x = .slice a n c := by
  rcases h.2.2 with ⟨rfl, rfl⟩ | ⟨g, c, cs, rfl, _⟩
  · exact ⟨_, _, rfl⟩
  · exact ⟨_, _, rfl⟩
theorem FLk.ml {w : World} {B : Nat} {x : Value} {m : Int} {n : Nat} (h : FLk w B x m n n) : ML w x m n := by
  rcases h.2.2 with h | ⟨g, c, cs, hx, hg, hb, hs, hn, hm⟩
  · exact .inl h
  · exact .inr ⟨g, c, cs, hx, hb, hs, hn, hm⟩
theorem FLk.chg {S : Nat → Prop} {w w' : World} {B : Nat} {x : Value} {m : Int} {n k : Nat} (h : FLk w B x m n k) (c : Chg S w w') (hs : ∀ b, x.ownBlock = some b → ¬ S b) : FLk w' B x m n k := by
  refine ⟨h.1, h.2.1, ?_⟩
  rcases h.2.2 with h | ⟨g, cp, cs, hx, hg, hb, hr⟩
  · exact .inl h
  · exact .inr ⟨g, cp, cs, hx, hg, hb.chg c (hs g (by rw [hx]; rfl)), hr⟩
theorem FLk.out {w w' : World} {B : Nat} {x : Value} {m : Int} {n k : Nat} (h : FLk w B x m n k) (o : Out w w') : FLk w' B x m n k := h.chg (S := fun _ => False) (Chg.of_out o) (fun _ _ h => h)
theorem FLk.blk {w : World} {B : Nat} {x : Value} {m : Int} {n k : Nat} (h : FLk w B x m n k) : ∀ b, x.ownBlock = some b → B ≤ b ∧ ∃ cs, BlT w b cs := fun b hb => by
  rcases h.2.2 with ⟨rfl, _⟩ | ⟨g, c, cs, rfl, hg, hbl, _⟩
  · cases hb
  · simp [Value.ownBlock] at hb; subst hb; exact ⟨hg, cs, hbl⟩
theorem FLk.mark {w : World} {B : Nat} {x : Value} {m m' : Int} {n : Nat} (h : FLk w B x m n 0) : FLk w B x m' n 0 := by
  refine ⟨h.1, h.2.1, ?_⟩
  rcases h.2.2 with h | ⟨g, c, cs, hx, hg, hb, hs, hn, _⟩
  · exact .inl h
  · exact .inr ⟨g, c, cs, hx, hg, hb, hs, hn, Mk.zero _ _⟩
theorem FLk.of_own {w : World} {B : Nat} {x : Value} {T : List Tk} (h : OwT B x T w) (hl : T.length ≤ 33554433) (m : Int) : FLk w B x m T.length 0 := by
  refine ⟨hl, Nat.zero_le _, ?_⟩
  rcases h.2 with ⟨hv, hn⟩ | ⟨g, cap, cur, hv, hb, hg, hn, hm, hs, ht⟩
  · exact .inl ⟨hv, hn⟩
  · exact .inr ⟨g, cap, cur, hv, hb, hg, hs, hn, Mk.zero _ _⟩
def set4 (cs : Array Value) (k : Nat) (m : Int) : Array Value := (((cs.setIfInBounds (k * 4) (.int .i64 77)).setIfInBounds (k * 4 + 1) (.string ⟨#[109, 105, 110, 101]⟩)).setIfInBounds (k * 4 + 2) (.int .u64 m)).setIfInBounds (k * 4 + 3) (.int .i64 0)
theorem set4_size (cs : Array Value) (k : Nat) (m : Int) : (set4 cs k m).size = cs.size := by simp [set4]
theorem set4_mk {cs : Array Value} {k : Nat} {m : Int} (h : k * 4 + 4 ≤ cs.size) (hm : Mk m k cs) : Mk m (k + 1) (set4 cs k (m + k)) := fun i hi j hj => by
  unfold set4
  simp only [Array.getElem?_setIfInBounds, Array.size_setIfInBounds]
  by_cases hik : i < k
  · rw [if_neg (by omega), if_neg (by omega), if_neg (by omega), if_neg (by omega)]
    exact hm i hik j hj
  · obtain rfl : i = k := by omega
    have h4 : j = 0 ∨ j = 1 ∨ j = 2 ∨ j = 3 := by omega
    rcases h4 with rfl | rfl | rfl | rfl
    · rw [if_neg (by omega), if_neg (by omega), if_neg (by omega), if_pos (by omega), if_pos (by omega)]; rfl
    · rw [if_neg (by omega), if_neg (by omega), if_pos (by omega), if_pos (by omega)]; rfl
    · rw [if_neg (by omega), if_pos (by omega), if_pos (by omega)]; rfl
    · rw [if_pos (by omega), if_pos (by omega)]; rfl
theorem BlT.set4 {w : World} {g : Nat} {cs : Array Value} (h : BlT w g cs) (k : Nat) (m : Int) : BlT ((((w.setCell ⟨g, k * 4, none⟩ (.int .i64 77)).setCell ⟨g, k * 4 + 1, none⟩ (.string ⟨#[109, 105, 110, 101]⟩)).setCell ⟨g, k * 4 + 2, none⟩ (.int .u64 m)).setCell ⟨g, k * 4 + 3, none⟩ (.int .i64 0)) g (set4 cs k m) :=
  set_atL (set_atL (set_atL (set_atL (show w.heap[g]? = _ from h) _ _) _ _) _ _) _ _
theorem BlT.cell {w : World} {g : Nat} {cs : Array Value} (h : BlT w g cs) {i : Nat} (hi : i < cs.size) : ∃ u, w.cell? ⟨g, i, none⟩ = some u := ⟨cs[i], by rw [cell_atL (show w.heap[g]? = _ from h), Array.getElem?_eq_getElem hi]⟩
theorem BlT.frozen {w : World} {g : Nat} {cs : Array Value} (h : BlT w g cs) (j : Nat) : w.frozen? ⟨g, j, none⟩ = false := frozen_atL (show w.heap[g]? = _ from h) j
theorem chg4g {S : Nat → Prop} {g : Nat} {W w : World} (h : Chg S W w) (hg : S g) (o : Nat) (a b c d : Value) : Chg S W ((((w.setCell ⟨g, o, none⟩ a).setCell ⟨g, o + 1, none⟩ b).setCell ⟨g, o + 2, none⟩ c).setCell ⟨g, o + 3, none⟩ d) :=
  (((h.setCell (p := ⟨g, o, none⟩) hg a).setCell (p := ⟨g, o + 1, none⟩) hg b).setCell (p := ⟨g, o + 2, none⟩) hg c).setCell (p := ⟨g, o + 3, none⟩) hg d
end Go.Proofs.YtfhmhdhaibmcfaaDoor
namespace Go.Proofs.YtfhmhdhaibmcfaaDoor
open Go.RowKit
set_option linter.unusedVariables false
set_option linter.unusedSimpArgs false
/-- the lists that lie untouched: those before i are marked -/
def L1 (w : World) (B : Nat) (ct : Int) (F : List Value) (i : Nat) : Prop := ∀ (j : Nat) x, F[j]? = some x → ∃ n, FLk w B x (1000003 * (ct + j)) n (if j < i then n else 0)
theorem L1.out {w w' : World} {B : Nat} {ct : Int} {F : List Value} {i : Nat} (h : L1 w B ct F i) (o : Out w w') : L1 w' B ct F i := fun j x hx => by
  obtain ⟨n, hn⟩ := h j x hx
  exact ⟨n, hn.out o⟩
def Dst (F : List Value) : Prop := ∀ (i j : Nat) x y, F[i]? = some x → F[j]? = some y → ¬ i = j → ∀ b, x.ownBlock = some b → ¬ y.ownBlock = some b
def Ak (F K : List Value) : Prop := ∀ (i j : Nat) x y, F[i]? = some x → K[j]? = some y → ∀ b, x.ownBlock = some b → ¬ y.ownBlock = some b
theorem Kp.chg {S : Nat → Prop} {w w' : World} {K : List Value} {M : List Int} (h : Kp w K M) (c : Chg S w w') (hs : ∀ (j : Nat) y b, K[j]? = some y → y.ownBlock = some b → ¬ S b) : Kp w' K M := fun i x hx => by
  obtain ⟨m, n, h1, h2, h3⟩ := h i x hx
  exact ⟨m, n, h1, h2.chg c (fun b hb => hs i x b hx hb), h3⟩
theorem Chg.then_out {S : Nat → Prop} {a b c : World} (h : Chg S a b) (o : Out b c) : Chg S a c := h.trans (T := fun _ => False) (Chg.of_out o) (fun _ hx _ => hx.elim)
theorem own_slices (x : Value) (h : ∃ a n c, x = .slice a n c) : x.oneCell' = true := by obtain ⟨a, n, c, rfl⟩ := h; rfl
theorem infoSl : (Tryd.prog.info? 30).map (fun i => (i.zero, i.size, i.bytes)) = some (some (.slice none 0 0), 1, 24) := by kernel_rfl
theorem infoI : (Tryd.prog.info? 3).map (fun i => (i.zero, i.size, i.bytes)) = some (some (.int .i64 0), 1, 8) := by kernel_rfl
/-- lists of marks stay where no block of tokens is written -/
theorem ML.tok {S : Nat → Prop} {w w' : World} {v : Value} {m : Int} {n : Nat} (h : ML w v m n) (c : Chg S w w') (hS : ∀ b, S b → ¬ ∃ cs, BlT w b cs) : ML w' v m n := by
  rcases h with h | ⟨g, cp, cs, hv, hb, h⟩
  · exact .inl h
  · exact .inr ⟨g, cp, cs, hv, hb.chg c (fun hs => hS g hs ⟨cs, hb⟩), h⟩
theorem Kp.tok {S : Nat → Prop} {w w' : World} {K : List Value} {M : List Int} (h : Kp w K M) (c : Chg S w w') (hS : ∀ b, S b → ¬ ∃ cs, BlT w b cs) : Kp w' K M := fun i x hx => by
  obtain ⟨m, n, h1, h2, h3⟩ := h i x hx
  exact ⟨m, n, h1, h2.tok c hS, h3⟩
/-- the shelf's own blocks hold no tokens -/
def SO (p : Nat) (ka ma : Value) (b : Nat) : Prop := b = p ∨ ka.ownBlock = some b ∨ ma.ownBlock = some b
theorem Shf.so {w : World} {B p : Nat} {ct tt : Int} {fa wa ka ma : Value} {F W K : List Value} {M : List Int} (h : Shf w B p ct tt fa wa ka ma F W K M) : ∀ b, SO p ka ma b → ¬ ∃ cs, BlT w b cs := fun b hb ⟨cs, hc⟩ => by
  rcases hb with rfl | hb | hb
  · have h3 : w.heap[b]? = _ := hc
    rw [h.st] at h3; simp at h3
  · exact own_kind h.ka_ hc (by decide) hb
  · exact own_kind h.ma_ hc (by decide) hb
/-- the lists from i on, marked, apart from what is kept -/
def L3 (w : World) (B : Nat) (ct : Int) (F K : List Value) (i : Nat) : Prop := ∀ (j : Nat) x, F[j]? = some x → i ≤ j → (∃ n, n ≤ 33554433 ∧ ML w x (1000003 * (ct + j)) n) ∧ (∀ b, x.ownBlock = some b → B ≤ b) ∧ ∀ (l : Nat) y, K[l]? = some y → ∀ b, x.ownBlock = some b → ¬ y.ownBlock = some b
theorem after14 {w7 w8 : World} {B p : Nat} {ct tt : Int} {fa wa ka ma : Value} {F W K : List Value} {M : List Int} (h : Shf w7 B p ct tt fa wa ka ma F W K M) (O : Obj) (V : List Value) (g cap : Nat) (hown : w8.ownsRow B 30 1 (.slice (some ⟨g, 0, none⟩) (K.length + V.length) cap) (K.length + V.length) (K ++ V)) (hgrow : (w7.alloc O).grownBy w8 ka.ownBlock) (hg : ka.ownBlock = some g ∨ g = (w7.alloc O).heap.size) :
    Shf (w8.setCell ⟨p, 5, none⟩ (.slice (some ⟨g, 0, none⟩) (K.length + V.length) cap)) B p ct tt fa wa (.slice (some ⟨g, 0, none⟩) (K.length + V.length) cap) ma F W (K ++ V) M ∧ Chg (SO p ka ma) w7 (w8.setCell ⟨p, 5, none⟩ (.slice (some ⟨g, 0, none⟩) (K.length + V.length) cap)) := by
  have hA := h.out ((Out.refl w7).alloc O)
  have c8 : Chg (fun b => ka.ownBlock = some b) (w7.alloc O) w8 := Chg.of_grown hgrow (fun k h => h)
  have st8 : w8.heap[p]? = _ := (c8.block p hA.lt (fun e => hA.notp.2.2.1 e)).trans hA.st
  have f8 := owns_chg hA.fa_ (fun k hk e => hA.fk k hk e) c8
  have w8' := owns_chg hA.wa_ (fun k hk e => hA.wk k hk e) c8
  have m8 := owns_chg hA.ma_ (fun k hk e => own_apart (by decide) hA.ma_ hA.ka_ k hk e) c8
  refine ⟨Shf.store st8 h.bp 5 _ rfl f8 w8' (by rw [List.length_append]; exact hown) m8 h.fw (fun b hb e => ?_) (fun b hb e => ?_), ?_⟩
  · simp [Value.ownBlock] at e
    subst e
    rcases hg with hg | hg
    · exact h.fk g hb hg
    · have := (h.fa_.lt g hb).2; rw [size_alloc] at hg; omega
  · simp [Value.ownBlock] at e
    subst e
    rcases hg with hg | hg
    · exact h.wk g hb hg
    · have := (h.wa_.lt g hb).2; rw [size_alloc] at hg; omega
  · refine ((Chg.of_out (S := SO p ka ma) ((Out.refl w7).alloc O)).trans c8 (fun x hx _ => .inr (.inl hx))).setCell (p := ⟨p, 5, none⟩) (.inl rfl) _
theorem after15 {w7 w8 : World} {B p : Nat} {ct tt : Int} {fa wa ka ma : Value} {F W K : List Value} {M N : List Int} (h : Shf w7 B p ct tt fa wa ka ma F W K M) (O : Obj) (v : Value) (hown : w8.ownsRow B 3 1 v (M.length + N.length) (M.map (Value.int .i64) ++ N.map (Value.int .i64))) (hgrow : (w7.alloc O).grownBy w8 ma.ownBlock) :
    Shf (w8.setCell ⟨p, 6, none⟩ v) B p ct tt fa wa ka v F W K (M ++ N) ∧ Chg (SO p ka ma) w7 (w8.setCell ⟨p, 6, none⟩ v) := by
  have hA := h.out ((Out.refl w7).alloc O)
  have c8 : Chg (fun b => ma.ownBlock = some b) (w7.alloc O) w8 := Chg.of_grown hgrow (fun k h => h)
  have st8 : w8.heap[p]? = _ := (c8.block p hA.lt (fun e => hA.notp.2.2.2 e)).trans hA.st
  have f8 := owns_chg hA.fa_ (fun k hk e => own_apart (by decide) hA.fa_ hA.ma_ k hk e) c8
  have w8' := owns_chg hA.wa_ (fun k hk e => own_apart (by decide) hA.wa_ hA.ma_ k hk e) c8
  have k8 := owns_chg hA.ka_ (fun k hk e => own_apart (by decide) hA.ka_ hA.ma_ k hk e) c8
  refine ⟨Shf.store st8 h.bp 6 _ rfl f8 w8' k8 (by rw [List.length_append, List.map_append]; exact hown) h.fw h.fk h.wk, ?_⟩
  exact ((Chg.of_out (S := SO p ka ma) ((Out.refl w7).alloc O)).trans c8 (fun x hx _ => .inr (.inr hx))).setCell (p := ⟨p, 6, none⟩) (.inl rfl) _
/-- behind the lists' growing -/
def R14 (wr : World) (B p : Nat) (ct tt : Int) (fa wa ka ma : Value) (F W K : List Value) (M : List Int) (m : Int) (ob : Option Nat) (n K3 : Nat) (x : Value) (wx : World) : Prop :=
  ∃ w7 v5 v6 v7 ak ck, Mild m ob wr w7 ∧ ML w7 v5 m (n + 1) ∧ ML w7 v6 m (n + 2) ∧ ML w7 v7 m (n + K3) ∧ (∀ b, v5.ownBlock = some b ∨ v6.ownBlock = some b ∨ v7.ownBlock = some b → ob = some b ∨ wr.heap.size ≤ b) ∧ Shf wx B p ct tt fa wa (.slice ak (K.length + 4) ck) ma F W (K ++ [x, v5, v6, v7]) M ∧ Chg (SO p ka ma) w7 wx
/-- what is kept, with a list's four more -/
theorem fin15 {wr w7 wc wz : World} {B p i n K3 : Nat} {ct tt m : Int} {fa wa ka ka7 ma : Value} {F W K : List Value} {M : List Int} {ob : Option Nat} {x v5 v6 v7 : Value} (hS7 : Shf w7 B p ct tt fa wa ka ma F W K M) (hSc : Shf wc B p ct tt fa wa ka7 ma F W (K ++ [x, v5, v6, v7]) M)
    (hx : F[i]? = some x) (hob : ob = x.ownBlock) (hm : m = 1000003 * (ct + i)) (hm0 : 0 ≤ m) (hm1 : m ≤ 10000000000) (hn : n ≤ 33554433) (hK3 : K3 ≤ 500000000) (hMl : M.length = K.length) (hK : Kp wr K M) (hL : L3 wr B ct F K i) (hD : Dst F) (hml : ML wr x m n)
    (hM7 : Mild m ob wr w7) (h5 : ML w7 v5 m (n + 1)) (h6 : ML w7 v6 m (n + 2)) (h7 : ML w7 v7 m (n + K3)) (hb : ∀ b, v5.ownBlock = some b ∨ v6.ownBlock = some b ∨ v7.ownBlock = some b → ob = some b ∨ wr.heap.size ≤ b)
    (c7 : Chg (SO p ka ma) w7 wc) (cz : Chg (SO p ka7 ma) wc wz) : Kp wz (K ++ [x, v5, v6, v7]) (M ++ [m, m, m, m]) ∧ L3 wz B ct F (K ++ [x, v5, v6, v7]) (i + 1) := by
  have go : ∀ {v : Value} {q : Int} {l : Nat}, ML w7 v q l → ML wz v q l := fun h => (h.tok c7 hS7.so).tok cz hSc.so
  have hxK := (hL i x hx (Nat.le_refl _)).2.2
  have K7 : Kp w7 K M := hK.chg hM7.chg (fun j y b hy hyb e => hxK j y hy b (by rw [← hob]; exact e) hyb)
  have hx7 := hml.mild hM7
  refine ⟨fun l y hy => ?_, fun j y hy hij => ?_⟩
  · by_cases hl : l < K.length
    · rw [List.getElem?_append_left hl] at hy
      obtain ⟨q, nn, h1, h2, h3⟩ := K7 l y hy
      exact ⟨q, nn, by rw [List.getElem?_append_left (by omega)]; exact h1, go h2, h3⟩
    · rw [List.getElem?_append_right (by omega)] at hy
      have hM : ∀ k, k < 4 → (M ++ [m, m, m, m])[K.length + k]? = some m := fun k hk => by
        rw [List.getElem?_append_right (by omega), hMl, show K.length + k - K.length = k by omega]
        have : k = 0 ∨ k = 1 ∨ k = 2 ∨ k = 3 := by omega
        rcases this with rfl | rfl | rfl | rfl <;> rfl
      obtain ⟨k, hk⟩ : ∃ k, l = K.length + k := ⟨l - K.length, by omega⟩
      rw [hk, show K.length + k - K.length = k by omega] at hy
      have hk4 : k < 4 := by have := (List.getElem?_eq_some_iff.1 hy).1; simpa using this
      rw [hk]
      have : k = 0 ∨ k = 1 ∨ k = 2 ∨ k = 3 := by omega
      rcases this with rfl | rfl | rfl | rfl
      · simp at hy; subst hy; exact ⟨m, n, hM 0 hk4, go hx7, by omega, hm0, by omega⟩
      · simp at hy; subst hy; exact ⟨m, n + 1, hM 1 hk4, go h5, by omega, hm0, by omega⟩
      · simp at hy; subst hy; exact ⟨m, n + 2, hM 2 hk4, go h6, by omega, hm0, by omega⟩
      · simp at hy; subst hy; exact ⟨m, n + K3, hM 3 hk4, go h7, by omega, hm0, by omega⟩
  · obtain ⟨⟨n', hn', hy1⟩, hyB, hyK⟩ := hL j y hy (by omega)
    have hyx : ∀ b, y.ownBlock = some b → ¬ ob = some b := fun b hb' e => hD j i y x hy hx (by omega) b hb' (by rw [← hob]; exact e)
    have hylt := hy1.lt
    refine ⟨⟨n', hn', go (hy1.chg hM7.chg (fun b hb' => hyx b hb'))⟩, hyB, fun l z hz b hyb hzb => ?_⟩
    by_cases hl : l < K.length
    · rw [List.getElem?_append_left hl] at hz
      exact hyK l z hz b hyb hzb
    · rw [List.getElem?_append_right (by omega)] at hz
      have hk4 : l - K.length < 4 := by have := (List.getElem?_eq_some_iff.1 hz).1; simpa using this
      have hnew : ∀ u : Value, (v5 = u ∨ v6 = u ∨ v7 = u) → u.ownBlock = some b → False := fun u hu hub => by
        have : ob = some b ∨ wr.heap.size ≤ b := hb b (by rcases hu with rfl | rfl | rfl; exact .inl hub; exact .inr (.inl hub); exact .inr (.inr hub))
        rcases this with h | h
        · exact hyx b hyb h
        · have := hylt b hyb; omega
      have : l - K.length = 0 ∨ l - K.length = 1 ∨ l - K.length = 2 ∨ l - K.length = 3 := by omega
      rcases this with e | e | e | e
      · rw [e] at hz; simp at hz; subst hz; exact hyx b hyb (by rw [hob]; exact hzb)
      · rw [e] at hz; simp at hz; exact hnew z (.inl hz) hzb
      · rw [e] at hz; simp at hz; exact hnew z (.inr (.inl hz)) hzb
      · rw [e] at hz; simp at hz; exact hnew z (.inr (.inr hz)) hzb
/-- behind write -/
def WrEnd (w : World) (B p : Nat) (ct tt : Int) (F K : List Value) (e : Ending) (w' : World) : Prop :=
  (∃ r, e = .returned r) ∧ ∃ ka' ma' K' M', Shf w' B p (ct + F.length) tt (.slice none 0 0) (.slice none 0 0) ka' ma' [] [] K' M' ∧ Kp w' K' M' ∧ K'.length = K.length + 4 * F.length ∧ M'.length = K'.length ∧ Chg (fun b => B ≤ b) w w'
/-- the contract of write -/
def WriteC : Prop := ∀ (w : World) (B p : Nat) (ct tt : Int) (fa wa ka ma : Value) (F W K : List Value) (M : List Int) (h : Shf w B p ct tt fa wa ka ma F W K M) (hl : W.length = F.length) (hp : Prs w F W) (hF : F.length ≤ 3) (hk : Kp w K M) (hK : K.length ≤ 100) (hKM : M.length = K.length)
    (h1 : L1 w B ct F 0) (hd : Dst F) (ha : Ak F K) (hct0 : 0 ≤ ct) (hct1 : ct ≤ 1000) (htt0 : 0 ≤ tt) (htt1 : tt ≤ 400000000),
    Calls Tryd.prog 31 #[.pointer (some ⟨p, 0, none⟩)] w fun e w' => WrEnd w B p ct tt F K e w'
end Go.Proofs.YtfhmhdhaibmcfaaDoor
