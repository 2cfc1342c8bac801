import Derived.Test.YtfhmhdhaibmcfaaDoorFa
namespace Go.Proofs.YtfhmhdhaibmcfaaDoor
open Go.RowKit
set_option linter.unusedVariables false
set_option linter.unusedSimpArgs false
/-- a text turned into bytes: what Tokens gives of it -/
theorem tok_str (w : World) (hE : LEnv w) (l : List UInt8) (hl : l.length ≤ 140737488355328) : TokC (Lib.bytesWorld w 5 ⟨l.toArray⟩) (some ⟨w.heap.size, 0, none⟩) (grownCap w l.length 0 5) l := by
  have ho : Out w (Lib.bytesWorld w 5 ⟨l.toArray⟩) := bw_out w _ _
  refine tokC _ (hE.out ho) _ _ l ?_ (grownCap_ge _ _ _ _) hl
  by_cases h0 : l = []
  · exact .inl h0
  · refine .inr ⟨w.heap.size, 0, ?_, rfl, fun k x hx => ?_⟩
    · rw [Lib.bytesWorld_size]; omega
    · have hk : k < l.length := (List.getElem?_eq_some_iff.1 hx).1
      rw [Nat.zero_add, Lib.bytesWorld_cell w 5 ⟨l.toArray⟩ k (by rw [mk_size]; exact hk)]
      simp [List.getD, hx]
theorem raw_rw (x : Tk) : x.raw = x.rw := rfl
set_option maxHeartbeats 4000000 in
theorem lexBack_walk (w : World) (hE : LEnv w) (a : Option Addr) (cap : Nat) (ts : List Tk) (h : TksAt w a ts) (hl : ts.length ≤ 3518437208883) (hn : NumsOk ts) :
    Calls Tryd.prog 6 #[.slice a ts.length cap] w fun e w' => e = .returned (.bool true) ∧ Out w w' := by
  have CU := hidOf (untoken_any w hE.2 a cap ts h hl hn)
  have CA : Hid (∀ wx, Out w wx → Calls Tryd.prog 11 #[] wx fun e w' => e = .returned (.bool true) ∧ Out wx w') := fun wx ho => awake_any wx (hE.out ho)
  by_cases h0 : (untokP ts).2 = 0
  · obtain ⟨b1, b2, b3⟩ := back_P ts hn h0
    rw [h0] at CU
    obtain ⟨l, hlu⟩ : ∃ l, (untokP ts).1 = l := ⟨_, rfl⟩
    rw [hlu] at CU b1 b2 b3
    have hnum := num_P l (by rw [b2])
    have htl := tokens_len l
    have CT : Hid (∀ wx, Out w wx → TokC (Lib.bytesWorld wx 5 ⟨l.toArray⟩) (some ⟨wx.heap.size, 0, none⟩) (grownCap wx l.length 0 5) l) := fun wx ho => tok_str wx (hE.out ho) l (by omega)
    unfold TokC at CT
    have e1 : (tokensP l).2.1 = 0 := by rw [b2]
    have e2 : (tokensP l).2.2 = 0 := by rw [b2]
    rw [e1, e2] at CT
    have CK : Hid (∀ wx b cp, Out w wx → TksAt wx b (tokensP l).1 → Calls Tryd.prog 21 #[.slice b (tokensP l).1.length cp, .slice a ts.length cap, .bool false] wx fun e w' => e = .returned (.bool true) ∧ Out wx w') := fun wx b cp ho ht => alike_any wx b a cp cap _ _ false ht (h.out ho) b3 (fun e => by cases e) (by omega)
    have CN : Hid (∀ wx b cp, TksAt wx b (tokensP l).1 → Calls Tryd.prog 22 #[.slice b (tokensP l).1.length cp] wx fun e w' => e = .returned (.bool true) ∧ Out wx w') := fun wx b cp ht => numbered_any wx b cp _ ht hnum (by omega)
    generalize (tokensP l).1 = T at *
    clear h hn hlu hnum b3 e1 e2 b2 h0
    have hls : (⟨l.toArray⟩ : ByteArray).size = l.length := mk_size l
    go_enter Tryd.func6, Tryd.ntmps6
    go_upto_region 4 with (go_at_call 20; refine CU.out.mono ?_; rintro e w1 ⟨rfl, ho⟩; have O1 := hidOf ho; clear ho)
    have hcv := Lib.run_convert_string_bytes (P := Tryd.prog) w1 9 22 5 ⟨l.toArray⟩ (u := .string) Tryd.underlying9 Tryd.underlying22 Tryd.underlying5
    rw [hls] at hcv
    have O2 := hidOf (Out.trans O1.out (bw_out w1 5 ⟨l.toArray⟩))
    have CT2 := hidOf (CT.out w1 O1.out)
    generalize Lib.bytesWorld w1 5 ⟨l.toArray⟩ = w2 at *
    go_upto_region 5 with (go_at_call 15; refine CT2.out.mono ?_; rintro e w3 ⟨b, cp, rfl, hcp, ht, ho⟩; have O3 := hidOf (Out.trans O2.out ho); have T3 := hidOf ht; clear ht ho)
    go_wp2_with (first | (go_at_call 21; refine (CK.out w3 b cp O3.out T3.out).mono ?_; rintro e w4 ⟨rfl, ho⟩; have O4 := hidOf (Out.trans O3.out ho); have T4 := hidOf (T3.out.out ho); clear ho) | (go_at_call 22; refine (CN.out w4 b cp T4.out).mono ?_; rintro e w5 ⟨rfl, ho⟩; have O5 := hidOf (Out.trans O4.out ho); clear ho) | (go_at_call 11; refine (CA.out w5 O5.out).mono ?_; rintro e w6 ⟨rfl, ho⟩; have O6 := hidOf (Out.trans O5.out ho); clear ho))
    go_ret
    exact ⟨rfl, O6.out⟩
  · have hb := un_bad ts h0
    rw [hb] at CU
    have h0' : ((untokP ts).2 == 0) = false := by simpa using h0
    generalize (untokP ts).2 = E at *
    clear h hn hb
    go_enter Tryd.func6, Tryd.ntmps6
    go_wp2_with (first | (go_at_call 20; refine CU.out.mono ?_; rintro e w1 ⟨rfl, ho⟩; have O1 := hidOf ho; clear ho) | (go_at_call 11; refine (CA.out w1 O1.out).mono ?_; rintro e w2 ⟨rfl, ho⟩; have O2 := hidOf (Out.trans O1.out ho); clear ho))
    go_ret
    exact ⟨rfl, O2.out⟩
end Go.Proofs.YtfhmhdhaibmcfaaDoor
