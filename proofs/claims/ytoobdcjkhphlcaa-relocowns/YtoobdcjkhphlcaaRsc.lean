import Derived.Test.YtoobdcjkhphlcaaRsb
namespace Go.Proofs.Ytoobdcjkhphlcaa
open Go.RowKit
set_option linter.unusedVariables false
set_option linter.unusedSimpArgs false
/-- the shelf's block at p, and its four rows -/
structure Shf (w : World) (B p : Nat) (ct tt : Int) (fa wa ka ma : Value) (F W K : List Value) (M : List Int) : Prop where
  st : w.heap[p]? = some (.cells #[.int .i64 ct, .int .i64 tt, .bool false, fa, wa, ka, ma] 41 (0, 0))
  bp : B ≤ p
  fa_ : w.ownsRow B 22 1 fa F.length F
  wa_ : w.ownsRow B 22 1 wa W.length W
  ka_ : w.ownsRow B 22 1 ka K.length K
  ma_ : w.ownsRow B 3 1 ma M.length (M.map (Value.int .i64))
  fw : ∀ b, fa.ownBlock = some b → ¬ wa.ownBlock = some b
  fk : ∀ b, fa.ownBlock = some b → ¬ ka.ownBlock = some b
  wk : ∀ b, wa.ownBlock = some b → ¬ ka.ownBlock = some b
theorem Shf.lt {w : World} {B p : Nat} {ct tt : Int} {fa wa ka ma : Value} {F W K : List Value} {M : List Int} (h : Shf w B p ct tt fa wa ka ma F W K M) : p < w.heap.size := (Array.getElem?_eq_some_iff.1 h.st).1
theorem owns_out' {B size : Nat} {w w' : World} {e : TypeId} {v : Value} {n : Nat} {xs : List Value} (h : w.ownsRow B e size v n xs) (o : Out w w') : w'.ownsRow B e size v n xs := owns_chg (S := fun _ => False) h (fun _ _ h => h) (Chg.of_out o)
theorem Shf.out {w w' : World} {B p : Nat} {ct tt : Int} {fa wa ka ma : Value} {F W K : List Value} {M : List Int} (h : Shf w B p ct tt fa wa ka ma F W K M) (o : Out w w') : Shf w' B p ct tt fa wa ka ma F W K M :=
  ⟨(o.block p h.lt).trans h.st, h.bp, owns_out' h.fa_ o, owns_out' h.wa_ o, owns_out' h.ka_ o, owns_out' h.ma_ o, h.fw, h.fk, h.wk⟩
/-- a row's place -/
theorem own_get {B : Nat} {w : World} {e : TypeId} {a : Option Addr} {n c : Nat} {xs : List Value} (h : w.ownsRow B e 1 (.slice a n c) n xs) {i : Nat} {x : Value} (hx : xs[i]? = some x) : ∃ g, a = some ⟨g, 0, none⟩ ∧ w.cell? ⟨g, i, none⟩ = some x := by
  have hi := (List.getElem?_eq_some_iff.1 hx).1
  have hl := h.1
  rcases h.2 with ⟨hv, hn⟩ | ⟨g, cap, cur, hv, _⟩
  · omega
  · have hv2 := hv
    simp only [Value.slice.injEq] at hv2
    refine ⟨g, hv2.1, ?_⟩
    have := World.ownsRow.cells h (g := g) (by rw [hv]; rfl) i x hx
    rw [WideShapes.add_plain, Nat.zero_add] at this
    exact this
/-- what lies untouched, with its copies -/
def Prs (w : World) (F W : List Value) : Prop := ∀ (i : Nat) x y, F[i]? = some x → W[i]? = some y → ∃ T a1 c1 a2 c2, x = .slice a1 T.length c1 ∧ y = .slice a2 T.length c2 ∧ TksAt w a1 T ∧ TksAt w a2 T ∧ T.length ≤ 33554433
theorem Prs.out {w w' : World} {F W : List Value} (h : Prs w F W) (o : Out w w') : Prs w' F W := fun i x y hx hy => by
  obtain ⟨T, a1, c1, a2, c2, h1, h2, h3, h4, h5⟩ := h i x y hx hy
  exact ⟨T, a1, c1, a2, c2, h1, h2, h3.out o, h4.out o, h5⟩
/-- what is kept: marks -/
def Kp (w : World) (K : List Value) (M : List Int) : Prop := ∀ (i : Nat) x, K[i]? = some x → ∃ m n, M[i]? = some m ∧ ML w x m n ∧ n ≤ 1000000000 ∧ 0 ≤ m ∧ m ≤ 100000000000
theorem Kp.out {w w' : World} {K : List Value} {M : List Int} (h : Kp w K M) (o : Out w w') : Kp w' K M := fun i x hx => by
  obtain ⟨m, n, h1, h2, h3⟩ := h i x hx
  exact ⟨m, n, h1, h2.out o, h3⟩
set_option maxRecDepth 20000 in
set_option maxHeartbeats 1000000 in
theorem untouched_any (w : World) (B p : Nat) (ct tt : Int) (fa wa ka ma : Value) (F W K : List Value) (M : List Int) (h : Shf w B p ct tt fa wa ka ma F W K M) (hl : W.length = F.length) (hp : Prs w F W) (hF : F.length ≤ 1000) :
    Calls Try.prog 37 #[.pointer (some ⟨p, 0, none⟩)] w fun e w' => e = .returned (.bool true) ∧ Out w w' := by
  obtain ⟨af, cf, rfl⟩ := own_form h.fa_
  obtain ⟨aw, cw, rfl⟩ := own_form h.wa_
  have H := hidOf h
  have HP := hidOf hp
  have Hl := hidOf hl
  have c3 : w.cell? ⟨p, 3, none⟩ = some (.slice af F.length cf) := by rw [cell_atL h.st]; rfl
  have c4 : w.cell? ⟨p, 4, none⟩ = some (.slice aw F.length cw) := by rw [cell_atL h.st, ← hl]; rfl
  clear h hp hl
  go_enter Try.func37, Try.ntmps37
  go_wp2
  go_loopw [3] (fun kv wr => ∃ k : Nat, kv = .int .i64 k ∧ k ≤ F.length ∧ Hid (Out w wr)) (fun kv _ => F.length - (intOf kv).toNat)
  case atStart => exact ⟨0, rfl, by omega, hidOf (Out.refl w)⟩
  case round =>
    obtain ⟨k, rfl, hk, HO⟩ := hrel
    have d3 := cell_later HO.out c3
    have d4 := cell_later HO.out c4
    by_cases hlt : k < F.length
    · have hltI : (k : Int) < F.length := by omega
      obtain ⟨x, hx⟩ : ∃ x, F[k]? = some x := ⟨_, List.getElem?_eq_getElem hlt⟩
      obtain ⟨y, hy⟩ : ∃ y, W[k]? = some y := ⟨_, List.getElem?_eq_getElem (by have := Hl.out; omega)⟩
      obtain ⟨gf, rfl, qf⟩ := own_get H.out.fa_ hx
      obtain ⟨gw, rfl, qw⟩ := own_get H.out.wa_ hy
      have qf := cell_later HO.out qf
      have qw := cell_later HO.out qw
      obtain ⟨T, a1, c1, a2, c2, rfl, rfl, t1, t2, hT⟩ := HP.out k x y hx hy
      have T1 := hidOf (t1.out HO.out)
      have T2 := hidOf (t2.out HO.out)
      clear hx hy t1 t2
      have CS : Hid (∀ wx, Out wr wx → Calls Try.prog 19 #[.slice a1 T.length c1, .slice a2 T.length c2] wx fun e w' => e = .returned (.bool true) ∧ Out wx w') := fun wx ho => sameTokens_any wx a1 a2 c1 c2 T (T1.out.out ho) (T2.out.out ho) (by omega)
      go_upto_region 4 with fail
      go_region_held3 (fun w' => w'.cell? ⟨p, 3, none⟩ = some (.slice (some ⟨gf, 0, none⟩) F.length cf) ∧ w'.cell? ⟨p, 4, none⟩ = some (.slice (some ⟨gw, 0, none⟩) F.length cw) ∧ w'.cell? ⟨gf, k, none⟩ = some (.slice a1 T.length c1) ∧ w'.cell? ⟨gw, k, none⟩ = some (.slice a2 T.length c2)) (first | exact ⟨d3, d4, qf, qw⟩ | exact ⟨e3, e4, e5, e6⟩ | go_keep) (first | (go_at_call 19; refine (CS.out _ ((Out.refl wr).drewN _)).mono ?_; rintro e w2 ⟨rfl, h2⟩; have e3 := cell_later h2 d3; have e4 := cell_later h2 d4; have e5 := cell_later h2 qf; have e6 := cell_later h2 qw; have O2 := hidOf (Out.trans (HO.out.drewN _) h2); clear h2))
      go_wp2
      go_roundw
      case rel => exact ⟨k + 1, by simp, by omega, O2⟩
      case measure => simp [intOf]; omega
    · have hltI : ¬ (k : Int) < F.length := by omega
      go_wp2
      go_ret
      exact ⟨rfl, HO.out⟩
end Go.Proofs.Ytoobdcjkhphlcaa
