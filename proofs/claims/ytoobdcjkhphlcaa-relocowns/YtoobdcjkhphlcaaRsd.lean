import Derived.Test.YtoobdcjkhphlcaaRsc
namespace Go.Proofs.Ytoobdcjkhphlcaa
open Go.RowKit
set_option linter.unusedVariables false
set_option linter.unusedSimpArgs false
theorem wrapI (x : Int) (h0 : 0 ≤ x) (h1 : x ≤ 1000000000000000) : IntKind.i64.wrap x = x := by
  simp [IntKind.wrap, IntKind.bits, IntKind.signed]
  first | omega | (split <;> omega)
theorem ML.cells {w : World} {a : Option Addr} {n c : Nat} {m : Int} (h : ML w (.slice a n c) m n) {k : Nat} (hk : k < n) : ∃ g, a = some ⟨g, 0, none⟩ ∧ w.cell? ⟨g, k * 3, none⟩ = some (.int .i64 (m + k)) ∧ w.cell? ⟨g, k * 3 + 1, none⟩ = some (.int .i64 77) ∧ w.cell? ⟨g, k * 3 + 2, none⟩ = some (.int .i64 (-(m + k))) := by
  rcases h with ⟨_, h⟩ | ⟨g, c', cs, hv, hb, hs, hn, hm⟩
  · omega
  · simp only [Value.slice.injEq] at hv
    refine ⟨g, hv.1, ?_, ?_, ?_⟩
    · rw [cell_atL (show w.heap[g]? = _ from hb)]; exact hm k hk 0 (by omega)
    · rw [cell_atL (show w.heap[g]? = _ from hb)]; exact hm k hk 1 (by omega)
    · rw [cell_atL (show w.heap[g]? = _ from hb)]; exact hm k hk 2 (by omega)
set_option maxRecDepth 20000 in
set_option maxHeartbeats 1000000 in
theorem holds_any (w : World) (B p : Nat) (ct tt : Int) (fa wa ka ma : Value) (F W K : List Value) (M : List Int) (h : Shf w B p ct tt fa wa ka ma F W K M) (hl : W.length = F.length) (hp : Prs w F W) (hF : F.length ≤ 1000) (hk : Kp w K M) (hK : K.length ≤ 1000) (hKM : M.length = K.length) :
    Calls Try.prog 22 #[.pointer (some ⟨p, 0, none⟩)] w fun e w' => e = .returned (.bool true) ∧ Out w w' := by
  obtain ⟨ak, ck, rfl⟩ := own_form h.ka_
  obtain ⟨am, cm, rfl⟩ := own_form h.ma_
  have H := hidOf h
  have HK := hidOf hk
  have c5 : w.cell? ⟨p, 5, none⟩ = some (.slice ak K.length ck) := by rw [cell_atL h.st]; rfl
  have c6 : w.cell? ⟨p, 6, none⟩ = some (.slice am K.length cm) := by rw [cell_atL h.st, ← hKM]; rfl
  have c2 : w.cell? ⟨p, 2, none⟩ = some (.bool false) := by rw [cell_atL h.st]; rfl
  have CU : Hid (∀ wx, Out w wx → Calls Try.prog 37 #[.pointer (some ⟨p, 0, none⟩)] wx fun e w' => e = .returned (.bool true) ∧ Out wx w') := fun wx ho => untouched_any wx B p ct tt fa wa _ _ F W K M (h.out ho) hl (hp.out ho) hF
  have HKM := hidOf hKM
  clear h hp hl hk hKM
  go_enter Try.func22, Try.ntmps22
  go_wp2
  go_loopw [3] (fun kv wr => ∃ i : Nat, kv = .int .i64 i ∧ i ≤ K.length ∧ Hid (Out w wr)) (fun kv _ => K.length - (intOf kv).toNat)
  case atStart => exact ⟨0, rfl, by omega, hidOf (Out.refl w)⟩
  case round =>
    obtain ⟨i, rfl, hi, HO⟩ := hrel
    have d5 := cell_later HO.out c5
    by_cases hlt : i < K.length
    · have hltI : (i : Int) < K.length := by omega
      obtain ⟨x, hx⟩ : ∃ x, K[i]? = some x := ⟨_, List.getElem?_eq_getElem hlt⟩
      obtain ⟨m, n, hm, hml, hn, hm0, hm1⟩ := HK.out i x hx
      obtain ⟨a, c, rfl⟩ := hml.form
      obtain ⟨gk, rfl, qk⟩ := own_get H.out.ka_ hx
      obtain ⟨gm, rfl, qm⟩ := own_get H.out.ma_ (x := .int .i64 m) (i := i) (by rw [List.getElem?_map, hm]; rfl)
      have HML := hidOf hml
      clear hx hm hml
      go_wp2
      obtain ⟨w1, hw1⟩ : ∃ w1, w1 = wr := ⟨_, rfl⟩
      rw [← hw1] at HO
      have Hw1 := hidOf hw1
      clear hw1 d5
      go_loopw [4] (fun kv wr => ∃ k : Nat, kv = .int .i64 k ∧ k ≤ n ∧ Hid (Out w wr)) (fun kv _ => n - (intOf kv).toNat)
      case atStart => exact ⟨0, rfl, by omega, by rw [← Hw1.out]; exact HO⟩
      case round =>
        clear HO Hw1
        obtain ⟨k, rfl, hk, HO⟩ := hrel
        have d5 := cell_later HO.out c5
        have d6 := cell_later HO.out c6
        have qk := cell_later HO.out qk
        have qm := cell_later HO.out qm
        by_cases hkn : k < n
        · have hkI : (k : Int) < n := by omega
          obtain ⟨g, rfl, y0, y1, y2⟩ := (HML.out.out HO.out).cells hkn
          have CMn : Hid (∀ wx, Calls Try.prog 36 #[.int .i64 (IntKind.i64.wrap (m + k))] wx fun e w' => e = .returned (.agg #[.int .i64 (m + k), .int .i64 77, .int .i64 (-(m + k))]) ∧ Out wx w') := fun wx => by
            rw [wrapI _ (by omega) (by omega)]
            exact mine_any _ (by omega) (by omega) wx
          go_upto_region 7 with fail
          go_region_held3 (fun w' => w'.cell? ⟨p, 5, none⟩ = some (.slice (some ⟨gk, 0, none⟩) K.length ck) ∧ w'.cell? ⟨p, 6, none⟩ = some (.slice (some ⟨gm, 0, none⟩) K.length cm) ∧ w'.cell? ⟨gk, i, none⟩ = some (.slice (some ⟨g, 0, none⟩) n c) ∧ w'.cell? ⟨gm, i, none⟩ = some (.int .i64 m) ∧ w'.cell? ⟨g, k * 3, none⟩ = some (.int .i64 (m + k)) ∧ w'.cell? ⟨g, k * 3 + 1, none⟩ = some (.int .i64 77) ∧ w'.cell? ⟨g, k * 3 + 2, none⟩ = some (.int .i64 (-(m + k)))) (first | exact ⟨d5, d6, qk, qm, y0, y1, y2, y3⟩ | exact ⟨e5, e6, ek, em, z0, z1, z2, z3⟩ | go_keep) (first | (go_at_call 36; refine (CMn.out _).mono ?_; rintro e w2 ⟨rfl, h2⟩; have e5 := cell_later h2 d5; have e6 := cell_later h2 d6; have ek := cell_later h2 qk; have em := cell_later h2 qm; have z0 := cell_later h2 y0; have z1 := cell_later h2 y1; have z2 := cell_later h2 y2; have O2 := hidOf (Out.trans (HO.out.drewN _) h2); clear h2))
          go_wp2
          go_roundw
          case rel => exact ⟨k + 1, by simp, by omega, O2⟩
          case measure => simp [intOf]; omega
        · have hkI : ¬ (k : Int) < n := by omega
          go_wp2
          go_roundw
          case rel => exact ⟨i + 1, by simp, by omega, HO⟩
          case measure => simp [intOf]; omega
    · have hltI : ¬ (i : Int) < K.length := by omega
      have d2 := cell_later HO.out c2
      go_wp2_with (go_at_call 37; refine (CU.out _ HO.out).mono ?_; rintro e w2 ⟨rfl, h2⟩; have O2 := hidOf (Out.trans HO.out h2); clear h2)
      go_ret
      exact ⟨rfl, O2.out⟩
end Go.Proofs.Ytoobdcjkhphlcaa
