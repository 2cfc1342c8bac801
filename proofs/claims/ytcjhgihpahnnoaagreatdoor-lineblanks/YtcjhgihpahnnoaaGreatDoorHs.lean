import Derived.Test.YtcjhgihpahnnoaaGreatDoorHr
import Derived.Test.YtcjhgihpahnnoaaGreatDoorGt
import Derived.Test.YtcjhgihpahnnoaaGreatDoorHk
import Derived.Lib.ConvBytes
import Derived.Laws.BytesString
namespace Go.Proofs.YtcjhgihpahnnoaaGreatDoor
open Go.RowKit
set_option linter.unusedVariables false
set_option linter.unusedSimpArgs false
theorem out_own {B n : Nat} {w X w1 : World} {e : TypeId} {v : Value} {xs : List Value} (hB : B = w.heap.size) (h : X.ownsRow B e 1 v n xs) (o : Out w X) (hg : X.grownBy w1 v.ownBlock) : Out w w1 :=
  Chg.out (Chg.of_grown (S := fun k => v.ownBlock = some k) hg (fun k hk => hk)) o (fun k hk => by
    rcases h.2 with ⟨rfl, _⟩ | ⟨g, cap, cur, rfl, hb, _⟩
    · cases hk
    · have : g = k := by simpa [Value.ownBlock] using hk
      omega)
theorem own_form {B n : Nat} {X : World} {e : TypeId} {v : Value} {xs : List Value} (h : X.ownsRow B e 1 v n xs) : ∃ ad cp, v = .slice ad n cp := by
  rcases h.2 with ⟨rfl, rfl⟩ | ⟨g, cap, cur, rfl, _⟩
  · exact ⟨none, 0, rfl⟩
  · exact ⟨_, _, rfl⟩
theorem news1 (X : World) (b : Int) : ∀ (j : Nat) (u : Value), ([.int .u8 b] : List Value)[j]? = some u → (X.alloc (.cells #[.int .u8 b] 5)).cell? ((⟨X.heap.size, 0, none⟩ : Addr).add j) = some u := fun j u hj => by
  match j, hj with
  | 0, hj =>
    have : (.int .u8 b : Value) = u := by simpa using hj
    rw [← this]
    exact new_cell X _ _ 0
  | j + 1, hj => simp at hj
/-- bytes of the call's own -/
def OwU (B : Nat) (v : Value) (O : List UInt8) (w : World) : Prop := w.ownsRow B 5 1 v O.length (Lib.byteCells O)
theorem OwU.snoc {B : Nat} {v : Value} {O : List UInt8} {w : World} {x : UInt8} {n : Nat} (hn : n = O.length + 1) (h : w.ownsRow B 5 1 v n (Lib.byteCells O ++ [.int .u8 (x.toNat : Int)])) : OwU B v (O ++ [x]) w := by
  unfold OwU
  rw [show (O ++ [x]).length = n from by simp [hn], show Lib.byteCells (O ++ [x]) = Lib.byteCells O ++ [.int .u8 (x.toNat : Int)] from by simp [Lib.byteCells]]
  exact h
theorem bits1 : ∀ n : Fin 256, bits .and .u8 (n.val : Int) 1 = 0 ∨ bits .and .u8 (n.val : Int) 1 = 1 := by decide +kernel
theorem fold_bytes (O : List UInt8) : ∀ r : ByteArray, (O.map (fun b => (b.toNat : Int))).foldl (fun r n => r.push (UInt8.ofNat n.toNat)) r = ⟨r.data ++ O.toArray⟩ := by
  induction O with
  | nil => intro r; simp
  | cons b l ih =>
    intro r
    rw [List.map_cons, List.foldl_cons, ih]
    simp [ByteArray.push]
theorem conv_list (w : World) (a : Addr) (cap : Nat) (O : List UInt8) (h : ∀ j u, (Lib.byteCells O)[j]? = some u → w.cell? (a.add j) = some u) : (convert 51 9 (.slice (some a) O.length cap)).run Tryz.prog w = .ok (.string ⟨O.toArray⟩) w := by
  rw [run_convert_bytes_string w 51 9 5 (some a) O.length cap Tryz.underlying51 Tryz.underlying5 Tryz.underlying9]
  have h1 := run_loadCells_list (P := Tryz.prog) w a (Lib.byteCells O) h
  rw [Lib.byteCells_length] at h1
  rw [run_bytesToString w a O.length cap (O.map (fun b => (b.toNat : Int))) (by rw [show (O.map (fun b => (b.toNat : Int))).map (Value.int .u8) = Lib.byteCells O from by simp [Lib.byteCells]]; exact h1), fold_bytes]
  simp
theorem conv_own (w : World) (B : Nat) (ad : Option Addr) (cp : Nat) (O : List UInt8) (h : OwU B (.slice ad O.length cp) O w) : (convert 51 9 (.slice ad O.length cp)).run Tryz.prog w = .ok (.string ⟨O.toArray⟩) w := by
  rcases h.2 with ⟨hv, hn⟩ | ⟨g, cap, cur, hv, hb, hg, hnc, hcm, hsz, htake⟩
  · obtain rfl : O = [] := List.length_eq_zero_iff.1 hn
    cases hv
    rw [run_convert_bytes_string w 51 9 5 none _ _ Tryz.underlying51 Tryz.underlying5 Tryz.underlying9]
    rfl
  · simp only [Value.slice.injEq] at hv
    obtain ⟨rfl, _, rfl⟩ := hv
    refine conv_list w ⟨g, 0, none⟩ cp O (fun j u hj => ?_)
    have hjl : j < O.length := by have := (List.getElem?_eq_some_iff.1 hj).1; rwa [Lib.byteCells_length] at this
    rw [← htake, Nat.mul_one, List.getElem?_take, if_pos hjl] at hj
    have e2 : w.cell? ((⟨g, 0, none⟩ : Addr).add j) = cur[j]? := by rw [Go.WideShapes.add_plain]; simp [World.cell?, hg]
    rw [e2, ← Array.getElem?_toList]
    exact hj
theorem conv_new (X : World) (O : List UInt8) : (convert 51 9 (.slice (some ⟨X.heap.size, 0, none⟩) O.length O.length)).run Tryz.prog (X.alloc (.cells (Lib.byteCells O).toArray 5)) = .ok (.string ⟨O.toArray⟩) (X.alloc (.cells (Lib.byteCells O).toArray 5)) := by
  refine conv_list _ ⟨X.heap.size, 0, none⟩ _ O (fun j u hj => ?_)
  have e : (⟨X.heap.size, 0, none⟩ : Addr).add j = ⟨X.heap.size, j, none⟩ := by rw [Go.WideShapes.add_plain, Nat.zero_add]
  rw [e, new_cell]
  simpa using hj
set_option maxRecDepth 20000 in
set_option maxHeartbeats 4000000 in
theorem lineBlanks_walk (o d s f i : Int) (t : List UInt8) (ga : Option Addr) (gn gc : Nat) (G : Nat → Int) (c : UInt8) (w : World) (hE : AEnv w) (hl : t.length ≤ 140737488355328) (hf : I64 f) (hi : I64 i) (hgn : gn ≤ 140737488351232) (hG : ∀ k, k < gn → ∃ gb go, ga = some ⟨gb, go, none⟩ ∧ w.cell? ⟨gb, go + k, none⟩ = some (.int .u8 (G k)) ∧ 0 ≤ G k ∧ G k < 256) : Calls Tryz.prog 8 #[.agg #[.int .i64 o, .int .i64 d, .int .i64 s, .int .i64 f, .int .i64 i], .string ⟨t.toArray⟩, .slice ga gn gc, .int .u8 (c.toNat : Int)] w fun e w' => e = .returned (.bool true) ∧ Out w w' := by
  have CA : Hid (∀ wx, Out w wx → Calls Tryz.prog 9 #[] wx fun e w' => e = .returned (.bool true) ∧ Out wx w') := fun wx ho => awake_any wx (hE.out ho)
  have CP : Hid (∀ wx, Out w wx → Calls Tryz.prog 10 #[.agg #[.int .i64 o, .int .i64 d, .int .i64 s, .int .i64 f, .int .i64 i], .string ⟨t.toArray⟩] wx fun e w' => e = .returned (.tuple #[.string ⟨(printP o d s f i t).1.toArray⟩, .int .i64 (printP o d s f i t).2]) ∧ Out wx w') := fun wx ho => print_any o d s f i t wx (hE.out ho) hl hf hi
  have HX := hidOf (Bx.new w o d s f i)
  by_cases h0 : (printP o d s f i t).2 = 0
  · have hmt : mayP o d s f i = 0 ∧ tfitP o s f i t = true := by
      unfold printP at h0
      by_cases hm : mayP o d s f i = 0
      · rw [if_pos hm] at h0
        cases ht : tfitP o s f i t
        · rw [ht] at h0; simp at h0
        · exact ⟨hm, rfl⟩
      · rw [if_neg hm] at h0; exact absurd h0 hm
    have hP : printP o d s f i t = (lineP o d s f i t, 0) := by unfold printP; rw [if_pos hmt.1, if_pos hmt.2]
    rw [hP] at CP
    have hL : (lineP o d s f i t).length ≤ 4020 := by
      have hrng : (1 ≤ (tOf o s f).1 ∧ (tOf o s f).1 ≤ 8 ∨ (tOf o s f).1 = 0) ∧ (1 ≤ (tOf o s f).2.1 ∧ (tOf o s f).2.1 ≤ 8 ∨ (tOf o s f).2.1 = 0) ∧ (1 ≤ (tOf o s f).2.2 ∧ (tOf o s f).2.2 ≤ 8 ∨ (tOf o s f).2.2 = 0) := opds_rng _ _ _ _
      have h1 := wordP_len o s f i
      have h2 := tail_len (tOf o s f) (opdTx o d s f i t) (fun c hc hn => opdTx_len o d s f i c t hf hi (fun _ => tgt_len o d s f i t hmt.1 hmt.2) (by rcases hc with hc | hc | hc <;> omega))
      unfold lineP
      rw [List.length_append]
      omega
    clear h0 hP hl hf
    obtain ⟨L, HLe⟩ : ∃ L, Hid (lineP o d s f i t = L) := ⟨_, hidOf rfl⟩
    rw [HLe.out] at CP hL
    simp only at CP
    go_enter Tryz.func8, Tryz.ntmps8
    go_wp2_with (go_at_call 9; refine (CA.out _ ((Out.refl w).alloc _)).mono ?_; rintro e w1 ⟨rfl, ho⟩; have H1 := hidOf (Out.trans ((Out.refl w).alloc _) ho); have X1 := hidOf (HX.out.out ho); obtain ⟨c0, c1, c2, c3, c4⟩ := X1.out; clear ho CA)
    go_wp2_with (first | (go_at_call 12; refine (num_any _ _).mono ?_; rintro e wn ⟨rfl, hw⟩; have hw := hw.symm; subst hw) | (go_at_call 10; refine (CP.out w1 H1.out).mono ?_; rintro e w2 ⟨rfl, ho⟩; have H2 := hidOf (Out.trans H1.out ho); have X2 := hidOf (X1.out.out ho); clear ho CP c0 c1 c2 c3 c4))
    have Hback : Hid (parseP L = ⟨o, d, s, f, i, t, 0⟩) := by rw [← HLe.out]; exact parse_line o d s f i t hmt.1 hmt.2 hi
    have HB : Hid (runU c = false → ¬ c = 32 → ¬ c = 9 → (parseP (L ++ [c])).e = 41 ∧ (parseP (c :: L)).e = 40) := by rw [← HLe.out]; exact fun h1 h2 h3 => odd_both o d s f i t hmt.1 hmt.2 hi c h1 h2 h3
    have Hpos : Hid (0 < L.length) := by
      refine hidOf ?_
      cases hLn : L with
      | cons _ _ => simp
      | nil =>
        have h1 := Hback.out
        rw [hLn] at h1
        have h2 : (parseP []).e = 40 := by decide +kernel
        rw [h1] at h2
        cases h2
    obtain ⟨i0, hinf, hz0, hz1, hz2⟩ := info_parts (show (Tryz.prog.info? 5).map (fun i => (i.zero, i.size, i.bytes)) = some (some (.int .u8 0), 1, 1) from Tryz.Builder_Extra_169.infoByte)
    have hB := H2.out.size
    go_loopw [11, 12, 13] (fun ov kv av wr => ∃ (a kk nb : Nat) (O : List UInt8) (ad : Option Addr) (cp : Nat), ov = .slice ad O.length cp ∧ kv = .int .i64 kk ∧ av = .int .i64 a ∧ a ≤ L.length + 1 ∧ kk ≤ gn + a ∧ nb ≤ gn ∧ nb ≤ kk ∧ O.length ≤ a + nb ∧ Hid (OwU w2.heap.size (.slice ad O.length cp) O wr) ∧ Hid (Out w2 wr) ∧ Hid ((a ≤ L.length ∧ Pre (L.take a) O) ∨ (a = L.length + 1 ∧ TE L O))) (fun _ _ av _ => L.length + 1 - (intOf av).toNat)
    case atStart => exact ⟨0, 0, 0, [], none, 0, rfl, rfl, rfl, by omega, by omega, by omega, by omega, by simp, ⟨by simp [Lib.byteCells], .inl ⟨rfl, rfl⟩⟩, Out.refl w2, .inl ⟨by omega, Pre.nil⟩⟩
    case round =>
      obtain ⟨a, kk, nb, O, ad, cp, rfl, rfl, rfl, ha, hkk, hnb, hnk, hOl, HO, Hq, HPr⟩ := hrel
      by_cases hal : a ≤ L.length
      · have haI : (a : Int) ≤ L.length := by omega
        have HPre : Hid (Pre (L.take a) O) := by
          rcases HPr.out with h | h
          · exact h.2
          · omega
        by_cases haz : a < L.length
        · by_cases ha0 : a = 0
          · obtain ⟨x, hx⟩ : ∃ x, L[a]? = some x := ⟨_, List.getElem?_eq_getElem haz⟩
            subst ha0
            have hlt1 : (0 : Int) < L.length := by omega
            have ix : ∀ h, (⟨L.toArray⟩ : ByteArray)[0]'h = x := fun h => by have := (List.getElem?_eq_some_iff.1 hx).2; exact this
            rw [show ((0 : Nat) : Int) = 0 from rfl]
            --ZERO
            have HPx : Hid (∀ bl, bl.all isBl = true → Pre (L.take (0 + 1)) (O ++ bl ++ [x])) := fun bl hb => HPre.out.at x hx bl hb (.inr (.inl rfl))
            go_wp2_with (go_at_call 20; refine (apart_any _ _).mono ?_; rintro e wn ⟨rfl, hw⟩; subst hw)
            go_loopw [11, 12] (fun ov kv wr => ∃ (k2 nb2 : Nat) (Q : List UInt8) (bl : List UInt8) (ad2 : Option Addr) (cp2 : Nat), ov = .slice ad2 Q.length cp2 ∧ kv = .int .i64 k2 ∧ Q = O ++ bl ∧ k2 ≤ gn + (0) ∧ nb2 ≤ gn ∧ nb2 ≤ k2 ∧ Q.length ≤ (0) + nb2 ∧ bl.all isBl = true ∧ Hid (OwU w2.heap.size (.slice ad2 Q.length cp2) Q wr) ∧ Hid (Out w2 wr)) (fun _ kv _ => gn - (intOf kv).toNat)
            case atStart => exact ⟨kk, nb, O, [], ad, cp, rfl, rfl, by simp, hkk, hnb, hnk, hOl, rfl, HO, Hq⟩
            case round =>
              obtain ⟨k2, nb2, Q, bl, ad2, cp2, rfl, rfl, hQ, hk2, hn2, hnk2, hQl, hbl, HQ, Hr⟩ := hrel
              have HQe := hidOf hQ
              have HBl := hidOf hbl
              clear hQ hbl
              by_cases hkg : k2 < gn
              · have hkI : (k2 : Int) < gn := by omega
                obtain ⟨gb, go, rfl, qc0, qr0, qr1⟩ := hG k2 hkg
                have qc := cell_later (Out.trans H2.out Hr.out) qc0
                clear qc0
                by_cases h127 : 127 < G k2
                · have hbt : bits .and .u8 (G k2) 1 = 0 ∨ bits .and .u8 (G k2) 1 = 1 := by
                    have := bits1 ⟨(G k2).toNat, by omega⟩
                    rwa [show (((⟨(G k2).toNat, by omega⟩ : Fin 256).val : Nat) : Int) = G k2 from by simp only; omega] at this
                  have j0 : ∀ h, (⟨#[32, 9]⟩ : ByteArray)[0]'h = 32 := fun _ => rfl
                  have j1 : ∀ h, (⟨#[32, 9]⟩ : ByteArray)[1]'h = 9 := fun _ => rfl
                  have tt0 : (32 : UInt8).toNat = 32 := rfl
                  have tt1 : (9 : UInt8).toNat = 9 := rfl
                  rcases hbt with hbt | hbt
                  · go_wp2_with (at_builtin; refine wpList_append_own _ rfl (.tmp 74) (.tmp 81) 51 rfl w2.heap.size 5 i0 _ 1 1 Tryz.underlying51 hinf hz0 hz1 hz2 rfl (by decide) _ Q.length (Lib.byteCells Q) rfl (brow_out HQ.out ((Out.refl wr).alloc _)) ⟨wr.heap.size, 0, none⟩ 1 1 [.int .u8 ((32 : UInt8).toNat : Int)] rfl rfl (news1 wr _) (fun u hu => by rw [List.mem_singleton.1 hu]; rfl) (by unfold maxLen; omega) (by omega) (by have := Hr.out.size; rw [size_alloc]; omega) ?_; intro v' w3 hown' hgrow _; have H3 := hidOf (out_own rfl (brow_out HQ.out ((Out.refl wr).alloc _)) (Hr.out.alloc _) hgrow); have HN := hidOf (OwU.snoc rfl hown'); obtain ⟨ad', cp', rfl⟩ := own_form hown'; clear hown' hgrow)
                    go_roundw
                    case rel => exact ⟨k2 + 1, nb2 + 1, Q ++ [32], bl ++ [32], ad', cp', by simp, by simp, by rw [HQe.out, List.append_assoc], by omega, by omega, by omega, by simp; omega, by rw [List.all_append, HBl.out]; rfl, by simpa using HN, H3⟩
                    case measure => simp [intOf] <;> omega
                  · go_wp2_with (at_builtin; refine wpList_append_own _ rfl (.tmp 74) (.tmp 81) 51 rfl w2.heap.size 5 i0 _ 1 1 Tryz.underlying51 hinf hz0 hz1 hz2 rfl (by decide) _ Q.length (Lib.byteCells Q) rfl (brow_out HQ.out ((Out.refl wr).alloc _)) ⟨wr.heap.size, 0, none⟩ 1 1 [.int .u8 ((9 : UInt8).toNat : Int)] rfl rfl (news1 wr _) (fun u hu => by rw [List.mem_singleton.1 hu]; rfl) (by unfold maxLen; omega) (by omega) (by have := Hr.out.size; rw [size_alloc]; omega) ?_; intro v' w3 hown' hgrow _; have H3 := hidOf (out_own rfl (brow_out HQ.out ((Out.refl wr).alloc _)) (Hr.out.alloc _) hgrow); have HN := hidOf (OwU.snoc rfl hown'); obtain ⟨ad', cp', rfl⟩ := own_form hown'; clear hown' hgrow)
                    go_roundw
                    case rel => exact ⟨k2 + 1, nb2 + 1, Q ++ [9], bl ++ [9], ad', cp', by simp, by simp, by rw [HQe.out, List.append_assoc], by omega, by omega, by omega, by simp; omega, by rw [List.all_append, HBl.out]; rfl, by simpa using HN, H3⟩
                    case measure => simp [intOf] <;> omega
                · have h127' : (decide (127 < G k2)) = false := decide_eq_false h127
                  go_wp2_with (at_builtin; refine wpList_append_own _ rfl (.tmp 89) (.tmp 93) 51 rfl w2.heap.size 5 i0 _ 1 1 Tryz.underlying51 hinf hz0 hz1 hz2 rfl (by decide) _ Q.length (Lib.byteCells Q) rfl (brow_out HQ.out ((Out.refl wr).alloc _)) ⟨wr.heap.size, 0, none⟩ 1 1 [.int .u8 (x.toNat : Int)] rfl rfl (news1 wr _) (fun u hu => by rw [List.mem_singleton.1 hu]; rfl) (by unfold maxLen; omega) (by omega) (by have := Hr.out.size; rw [size_alloc]; omega) ?_; intro v' w3 hown' hgrow _; have H3 := hidOf (out_own rfl (brow_out HQ.out ((Out.refl wr).alloc _)) (Hr.out.alloc _) hgrow); have HN := hidOf (OwU.snoc rfl hown'); obtain ⟨ad', cp', rfl⟩ := own_form hown'; clear hown' hgrow)
                  go_roundw
                  case rel => exact ⟨0 + 1, k2 + 1, nb2, Q ++ [x], ad', cp', by simp, by simp, by simp, by omega, by omega, hn2, by omega, by simp; omega, by simpa using HN, H3, .inl ⟨by omega, by rw [HQe.out]; exact HPx.out bl HBl.out⟩⟩
                  case measure => simp [intOf] <;> omega
              · have hkI : ¬ (k2 : Int) < gn := by omega
                go_wp2_with (at_builtin; refine wpList_append_own _ rfl (.tmp 89) (.tmp 93) 51 rfl w2.heap.size 5 i0 _ 1 1 Tryz.underlying51 hinf hz0 hz1 hz2 rfl (by decide) _ Q.length (Lib.byteCells Q) rfl (brow_out HQ.out ((Out.refl wr).alloc _)) ⟨wr.heap.size, 0, none⟩ 1 1 [.int .u8 (x.toNat : Int)] rfl rfl (news1 wr _) (fun u hu => by rw [List.mem_singleton.1 hu]; rfl) (by unfold maxLen; omega) (by omega) (by have := Hr.out.size; rw [size_alloc]; omega) ?_; intro v' w3 hown' hgrow _; have H3 := hidOf (out_own rfl (brow_out HQ.out ((Out.refl wr).alloc _)) (Hr.out.alloc _) hgrow); have HN := hidOf (OwU.snoc rfl hown'); obtain ⟨ad', cp', rfl⟩ := own_form hown'; clear hown' hgrow)
                go_roundw
                case rel => exact ⟨0 + 1, k2 + 1, nb2, Q ++ [x], ad', cp', by simp, by simp, by simp, by omega, by omega, hn2, by omega, by simp; omega, by simpa using HN, H3, .inl ⟨by omega, by rw [HQe.out]; exact HPx.out bl HBl.out⟩⟩
                case measure => simp [intOf] <;> omega
            --ZEROEND
          · obtain ⟨x, hx⟩ : ∃ x, L[a]? = some x := ⟨_, List.getElem?_eq_getElem haz⟩
            obtain ⟨y, hy⟩ : ∃ y, L[a - 1]? = some y := ⟨_, List.getElem?_eq_getElem (by omega)⟩
            obtain ⟨a', rfl⟩ : ∃ a', a = a' + 1 := ⟨a - 1, by omega⟩
            have hax : ((a' : Int) + 1 == 0) = false := by simp only [beq_eq_false_iff_ne]; omega
            have haL : ((a' : Int) + 1 == (L.length : Int)) = false := by simp only [beq_eq_false_iff_ne]; omega
            have hlt1 : (a' : Int) + 1 < L.length := by omega
            have hlt2 : (a' : Int) < L.length := by omega
            have ix : ∀ h, (⟨L.toArray⟩ : ByteArray)[a' + 1]'h = x := fun h => by have := (List.getElem?_eq_some_iff.1 hx).2; exact this
            have iy : ∀ h, (⟨L.toArray⟩ : ByteArray)[a']'h = y := fun h => by have := (List.getElem?_eq_some_iff.1 hy).2; exact this
            cases b1 : apP (x.toNat : Int) <;> cases b2 : apP (y.toNat : Int)
            · have HP2 := hidOf (HPre.out.at x hx [] rfl (.inl rfl))
              rw [List.append_nil] at HP2
              go_wp2_with (first | (go_at_call 20; refine (apart_any _ _).mono ?_; rintro e wn ⟨rfl, hw⟩; subst hw) | (at_builtin; refine wpList_append_own _ rfl (.tmp 89) (.tmp 93) 51 rfl w2.heap.size 5 i0 _ 1 1 Tryz.underlying51 hinf hz0 hz1 hz2 rfl (by decide) _ O.length (Lib.byteCells O) rfl (brow_out HO.out ((Out.refl wr).alloc _)) ⟨wr.heap.size, 0, none⟩ 1 1 [.int .u8 (x.toNat : Int)] rfl rfl (news1 wr _) (fun u hu => by rw [List.mem_singleton.1 hu]; rfl) (by unfold maxLen; omega) (by omega) (by have := Hq.out.size; rw [size_alloc]; omega) ?_; intro v' w3 hown' hgrow _; have H3 := hidOf (out_own rfl (brow_out HO.out ((Out.refl wr).alloc _)) (Hq.out.alloc _) hgrow); have HN := hidOf (OwU.snoc rfl hown'); obtain ⟨ad', cp', rfl⟩ := own_form hown'; clear hown' hgrow))
              go_roundw
              case rel => exact ⟨a' + 1 + 1, kk, nb, O ++ [x], ad', cp', by simp, rfl, by simp, by omega, by omega, hnb, hnk, by simp; omega, by simpa using HN, H3, .inl ⟨by omega, HP2.out⟩⟩
              case measure => simp [intOf]; omega
            --MID
            · have HPx : Hid (∀ bl, bl.all isBl = true → Pre (L.take (a' + 1 + 1)) (O ++ bl ++ [x])) := fun bl hb => HPre.out.at x hx bl hb (.inr (.inr (.inr ⟨y, by omega, hy, b2⟩)))
              go_wp2_with (go_at_call 20; refine (apart_any _ _).mono ?_; rintro e wn ⟨rfl, hw⟩; subst hw)
              go_loopw [11, 12] (fun ov kv wr => ∃ (k2 nb2 : Nat) (Q : List UInt8) (bl : List UInt8) (ad2 : Option Addr) (cp2 : Nat), ov = .slice ad2 Q.length cp2 ∧ kv = .int .i64 k2 ∧ Q = O ++ bl ∧ k2 ≤ gn + (a' + 1) ∧ nb2 ≤ gn ∧ nb2 ≤ k2 ∧ Q.length ≤ (a' + 1) + nb2 ∧ bl.all isBl = true ∧ Hid (OwU w2.heap.size (.slice ad2 Q.length cp2) Q wr) ∧ Hid (Out w2 wr)) (fun _ kv _ => gn - (intOf kv).toNat)
              case atStart => exact ⟨kk, nb, O, [], ad, cp, rfl, rfl, by simp, hkk, hnb, hnk, hOl, rfl, HO, Hq⟩
              case round =>
                obtain ⟨k2, nb2, Q, bl, ad2, cp2, rfl, rfl, hQ, hk2, hn2, hnk2, hQl, hbl, HQ, Hr⟩ := hrel
                have HQe := hidOf hQ
                have HBl := hidOf hbl
                clear hQ hbl
                by_cases hkg : k2 < gn
                · have hkI : (k2 : Int) < gn := by omega
                  obtain ⟨gb, go, rfl, qc0, qr0, qr1⟩ := hG k2 hkg
                  have qc := cell_later (Out.trans H2.out Hr.out) qc0
                  clear qc0
                  by_cases h127 : 127 < G k2
                  · have hbt : bits .and .u8 (G k2) 1 = 0 ∨ bits .and .u8 (G k2) 1 = 1 := by
                      have := bits1 ⟨(G k2).toNat, by omega⟩
                      rwa [show (((⟨(G k2).toNat, by omega⟩ : Fin 256).val : Nat) : Int) = G k2 from by simp only; omega] at this
                    have j0 : ∀ h, (⟨#[32, 9]⟩ : ByteArray)[0]'h = 32 := fun _ => rfl
                    have j1 : ∀ h, (⟨#[32, 9]⟩ : ByteArray)[1]'h = 9 := fun _ => rfl
                    have tt0 : (32 : UInt8).toNat = 32 := rfl
                    have tt1 : (9 : UInt8).toNat = 9 := rfl
                    rcases hbt with hbt | hbt
                    · go_wp2_with (at_builtin; refine wpList_append_own _ rfl (.tmp 74) (.tmp 81) 51 rfl w2.heap.size 5 i0 _ 1 1 Tryz.underlying51 hinf hz0 hz1 hz2 rfl (by decide) _ Q.length (Lib.byteCells Q) rfl (brow_out HQ.out ((Out.refl wr).alloc _)) ⟨wr.heap.size, 0, none⟩ 1 1 [.int .u8 ((32 : UInt8).toNat : Int)] rfl rfl (news1 wr _) (fun u hu => by rw [List.mem_singleton.1 hu]; rfl) (by unfold maxLen; omega) (by omega) (by have := Hr.out.size; rw [size_alloc]; omega) ?_; intro v' w3 hown' hgrow _; have H3 := hidOf (out_own rfl (brow_out HQ.out ((Out.refl wr).alloc _)) (Hr.out.alloc _) hgrow); have HN := hidOf (OwU.snoc rfl hown'); obtain ⟨ad', cp', rfl⟩ := own_form hown'; clear hown' hgrow)
                      go_roundw
                      case rel => exact ⟨k2 + 1, nb2 + 1, Q ++ [32], bl ++ [32], ad', cp', by simp, by simp, by rw [HQe.out, List.append_assoc], by omega, by omega, by omega, by simp; omega, by rw [List.all_append, HBl.out]; rfl, by simpa using HN, H3⟩
                      case measure => simp [intOf] <;> omega
                    · go_wp2_with (at_builtin; refine wpList_append_own _ rfl (.tmp 74) (.tmp 81) 51 rfl w2.heap.size 5 i0 _ 1 1 Tryz.underlying51 hinf hz0 hz1 hz2 rfl (by decide) _ Q.length (Lib.byteCells Q) rfl (brow_out HQ.out ((Out.refl wr).alloc _)) ⟨wr.heap.size, 0, none⟩ 1 1 [.int .u8 ((9 : UInt8).toNat : Int)] rfl rfl (news1 wr _) (fun u hu => by rw [List.mem_singleton.1 hu]; rfl) (by unfold maxLen; omega) (by omega) (by have := Hr.out.size; rw [size_alloc]; omega) ?_; intro v' w3 hown' hgrow _; have H3 := hidOf (out_own rfl (brow_out HQ.out ((Out.refl wr).alloc _)) (Hr.out.alloc _) hgrow); have HN := hidOf (OwU.snoc rfl hown'); obtain ⟨ad', cp', rfl⟩ := own_form hown'; clear hown' hgrow)
                      go_roundw
                      case rel => exact ⟨k2 + 1, nb2 + 1, Q ++ [9], bl ++ [9], ad', cp', by simp, by simp, by rw [HQe.out, List.append_assoc], by omega, by omega, by omega, by simp; omega, by rw [List.all_append, HBl.out]; rfl, by simpa using HN, H3⟩
                      case measure => simp [intOf] <;> omega
                  · have h127' : (decide (127 < G k2)) = false := decide_eq_false h127
                    go_wp2_with (at_builtin; refine wpList_append_own _ rfl (.tmp 89) (.tmp 93) 51 rfl w2.heap.size 5 i0 _ 1 1 Tryz.underlying51 hinf hz0 hz1 hz2 rfl (by decide) _ Q.length (Lib.byteCells Q) rfl (brow_out HQ.out ((Out.refl wr).alloc _)) ⟨wr.heap.size, 0, none⟩ 1 1 [.int .u8 (x.toNat : Int)] rfl rfl (news1 wr _) (fun u hu => by rw [List.mem_singleton.1 hu]; rfl) (by unfold maxLen; omega) (by omega) (by have := Hr.out.size; rw [size_alloc]; omega) ?_; intro v' w3 hown' hgrow _; have H3 := hidOf (out_own rfl (brow_out HQ.out ((Out.refl wr).alloc _)) (Hr.out.alloc _) hgrow); have HN := hidOf (OwU.snoc rfl hown'); obtain ⟨ad', cp', rfl⟩ := own_form hown'; clear hown' hgrow)
                    go_roundw
                    case rel => exact ⟨a' + 1 + 1, k2 + 1, nb2, Q ++ [x], ad', cp', by simp, by simp, by simp, by omega, by omega, hn2, by omega, by simp; omega, by simpa using HN, H3, .inl ⟨by omega, by rw [HQe.out]; exact HPx.out bl HBl.out⟩⟩
                    case measure => simp [intOf] <;> omega
                · have hkI : ¬ (k2 : Int) < gn := by omega
                  go_wp2_with (at_builtin; refine wpList_append_own _ rfl (.tmp 89) (.tmp 93) 51 rfl w2.heap.size 5 i0 _ 1 1 Tryz.underlying51 hinf hz0 hz1 hz2 rfl (by decide) _ Q.length (Lib.byteCells Q) rfl (brow_out HQ.out ((Out.refl wr).alloc _)) ⟨wr.heap.size, 0, none⟩ 1 1 [.int .u8 (x.toNat : Int)] rfl rfl (news1 wr _) (fun u hu => by rw [List.mem_singleton.1 hu]; rfl) (by unfold maxLen; omega) (by omega) (by have := Hr.out.size; rw [size_alloc]; omega) ?_; intro v' w3 hown' hgrow _; have H3 := hidOf (out_own rfl (brow_out HQ.out ((Out.refl wr).alloc _)) (Hr.out.alloc _) hgrow); have HN := hidOf (OwU.snoc rfl hown'); obtain ⟨ad', cp', rfl⟩ := own_form hown'; clear hown' hgrow)
                  go_roundw
                  case rel => exact ⟨a' + 1 + 1, k2 + 1, nb2, Q ++ [x], ad', cp', by simp, by simp, by simp, by omega, by omega, hn2, by omega, by simp; omega, by simpa using HN, H3, .inl ⟨by omega, by rw [HQe.out]; exact HPx.out bl HBl.out⟩⟩
                  case measure => simp [intOf] <;> omega
            · have HPx : Hid (∀ bl, bl.all isBl = true → Pre (L.take (a' + 1 + 1)) (O ++ bl ++ [x])) := fun bl hb => HPre.out.at x hx bl hb (.inr (.inr (.inl b1)))
              go_wp2_with (go_at_call 20; refine (apart_any _ _).mono ?_; rintro e wn ⟨rfl, hw⟩; subst hw)
              go_loopw [11, 12] (fun ov kv wr => ∃ (k2 nb2 : Nat) (Q : List UInt8) (bl : List UInt8) (ad2 : Option Addr) (cp2 : Nat), ov = .slice ad2 Q.length cp2 ∧ kv = .int .i64 k2 ∧ Q = O ++ bl ∧ k2 ≤ gn + (a' + 1) ∧ nb2 ≤ gn ∧ nb2 ≤ k2 ∧ Q.length ≤ (a' + 1) + nb2 ∧ bl.all isBl = true ∧ Hid (OwU w2.heap.size (.slice ad2 Q.length cp2) Q wr) ∧ Hid (Out w2 wr)) (fun _ kv _ => gn - (intOf kv).toNat)
              case atStart => exact ⟨kk, nb, O, [], ad, cp, rfl, rfl, by simp, hkk, hnb, hnk, hOl, rfl, HO, Hq⟩
              case round =>
                obtain ⟨k2, nb2, Q, bl, ad2, cp2, rfl, rfl, hQ, hk2, hn2, hnk2, hQl, hbl, HQ, Hr⟩ := hrel
                have HQe := hidOf hQ
                have HBl := hidOf hbl
                clear hQ hbl
                by_cases hkg : k2 < gn
                · have hkI : (k2 : Int) < gn := by omega
                  obtain ⟨gb, go, rfl, qc0, qr0, qr1⟩ := hG k2 hkg
                  have qc := cell_later (Out.trans H2.out Hr.out) qc0
                  clear qc0
                  by_cases h127 : 127 < G k2
                  · have hbt : bits .and .u8 (G k2) 1 = 0 ∨ bits .and .u8 (G k2) 1 = 1 := by
                      have := bits1 ⟨(G k2).toNat, by omega⟩
                      rwa [show (((⟨(G k2).toNat, by omega⟩ : Fin 256).val : Nat) : Int) = G k2 from by simp only; omega] at this
                    have j0 : ∀ h, (⟨#[32, 9]⟩ : ByteArray)[0]'h = 32 := fun _ => rfl
                    have j1 : ∀ h, (⟨#[32, 9]⟩ : ByteArray)[1]'h = 9 := fun _ => rfl
                    have tt0 : (32 : UInt8).toNat = 32 := rfl
                    have tt1 : (9 : UInt8).toNat = 9 := rfl
                    rcases hbt with hbt | hbt
                    · go_wp2_with (at_builtin; refine wpList_append_own _ rfl (.tmp 74) (.tmp 81) 51 rfl w2.heap.size 5 i0 _ 1 1 Tryz.underlying51 hinf hz0 hz1 hz2 rfl (by decide) _ Q.length (Lib.byteCells Q) rfl (brow_out HQ.out ((Out.refl wr).alloc _)) ⟨wr.heap.size, 0, none⟩ 1 1 [.int .u8 ((32 : UInt8).toNat : Int)] rfl rfl (news1 wr _) (fun u hu => by rw [List.mem_singleton.1 hu]; rfl) (by unfold maxLen; omega) (by omega) (by have := Hr.out.size; rw [size_alloc]; omega) ?_; intro v' w3 hown' hgrow _; have H3 := hidOf (out_own rfl (brow_out HQ.out ((Out.refl wr).alloc _)) (Hr.out.alloc _) hgrow); have HN := hidOf (OwU.snoc rfl hown'); obtain ⟨ad', cp', rfl⟩ := own_form hown'; clear hown' hgrow)
                      go_roundw
                      case rel => exact ⟨k2 + 1, nb2 + 1, Q ++ [32], bl ++ [32], ad', cp', by simp, by simp, by rw [HQe.out, List.append_assoc], by omega, by omega, by omega, by simp; omega, by rw [List.all_append, HBl.out]; rfl, by simpa using HN, H3⟩
                      case measure => simp [intOf] <;> omega
                    · go_wp2_with (at_builtin; refine wpList_append_own _ rfl (.tmp 74) (.tmp 81) 51 rfl w2.heap.size 5 i0 _ 1 1 Tryz.underlying51 hinf hz0 hz1 hz2 rfl (by decide) _ Q.length (Lib.byteCells Q) rfl (brow_out HQ.out ((Out.refl wr).alloc _)) ⟨wr.heap.size, 0, none⟩ 1 1 [.int .u8 ((9 : UInt8).toNat : Int)] rfl rfl (news1 wr _) (fun u hu => by rw [List.mem_singleton.1 hu]; rfl) (by unfold maxLen; omega) (by omega) (by have := Hr.out.size; rw [size_alloc]; omega) ?_; intro v' w3 hown' hgrow _; have H3 := hidOf (out_own rfl (brow_out HQ.out ((Out.refl wr).alloc _)) (Hr.out.alloc _) hgrow); have HN := hidOf (OwU.snoc rfl hown'); obtain ⟨ad', cp', rfl⟩ := own_form hown'; clear hown' hgrow)
                      go_roundw
                      case rel => exact ⟨k2 + 1, nb2 + 1, Q ++ [9], bl ++ [9], ad', cp', by simp, by simp, by rw [HQe.out, List.append_assoc], by omega, by omega, by omega, by simp; omega, by rw [List.all_append, HBl.out]; rfl, by simpa using HN, H3⟩
                      case measure => simp [intOf] <;> omega
                  · have h127' : (decide (127 < G k2)) = false := decide_eq_false h127
                    go_wp2_with (at_builtin; refine wpList_append_own _ rfl (.tmp 89) (.tmp 93) 51 rfl w2.heap.size 5 i0 _ 1 1 Tryz.underlying51 hinf hz0 hz1 hz2 rfl (by decide) _ Q.length (Lib.byteCells Q) rfl (brow_out HQ.out ((Out.refl wr).alloc _)) ⟨wr.heap.size, 0, none⟩ 1 1 [.int .u8 (x.toNat : Int)] rfl rfl (news1 wr _) (fun u hu => by rw [List.mem_singleton.1 hu]; rfl) (by unfold maxLen; omega) (by omega) (by have := Hr.out.size; rw [size_alloc]; omega) ?_; intro v' w3 hown' hgrow _; have H3 := hidOf (out_own rfl (brow_out HQ.out ((Out.refl wr).alloc _)) (Hr.out.alloc _) hgrow); have HN := hidOf (OwU.snoc rfl hown'); obtain ⟨ad', cp', rfl⟩ := own_form hown'; clear hown' hgrow)
                    go_roundw
                    case rel => exact ⟨a' + 1 + 1, k2 + 1, nb2, Q ++ [x], ad', cp', by simp, by simp, by simp, by omega, by omega, hn2, by omega, by simp; omega, by simpa using HN, H3, .inl ⟨by omega, by rw [HQe.out]; exact HPx.out bl HBl.out⟩⟩
                    case measure => simp [intOf] <;> omega
                · have hkI : ¬ (k2 : Int) < gn := by omega
                  go_wp2_with (at_builtin; refine wpList_append_own _ rfl (.tmp 89) (.tmp 93) 51 rfl w2.heap.size 5 i0 _ 1 1 Tryz.underlying51 hinf hz0 hz1 hz2 rfl (by decide) _ Q.length (Lib.byteCells Q) rfl (brow_out HQ.out ((Out.refl wr).alloc _)) ⟨wr.heap.size, 0, none⟩ 1 1 [.int .u8 (x.toNat : Int)] rfl rfl (news1 wr _) (fun u hu => by rw [List.mem_singleton.1 hu]; rfl) (by unfold maxLen; omega) (by omega) (by have := Hr.out.size; rw [size_alloc]; omega) ?_; intro v' w3 hown' hgrow _; have H3 := hidOf (out_own rfl (brow_out HQ.out ((Out.refl wr).alloc _)) (Hr.out.alloc _) hgrow); have HN := hidOf (OwU.snoc rfl hown'); obtain ⟨ad', cp', rfl⟩ := own_form hown'; clear hown' hgrow)
                  go_roundw
                  case rel => exact ⟨a' + 1 + 1, k2 + 1, nb2, Q ++ [x], ad', cp', by simp, by simp, by simp, by omega, by omega, hn2, by omega, by simp; omega, by simpa using HN, H3, .inl ⟨by omega, by rw [HQe.out]; exact HPx.out bl HBl.out⟩⟩
                  case measure => simp [intOf] <;> omega
            · have HPx : Hid (∀ bl, bl.all isBl = true → Pre (L.take (a' + 1 + 1)) (O ++ bl ++ [x])) := fun bl hb => HPre.out.at x hx bl hb (.inr (.inr (.inl b1)))
              go_wp2_with (go_at_call 20; refine (apart_any _ _).mono ?_; rintro e wn ⟨rfl, hw⟩; subst hw)
              go_loopw [11, 12] (fun ov kv wr => ∃ (k2 nb2 : Nat) (Q : List UInt8) (bl : List UInt8) (ad2 : Option Addr) (cp2 : Nat), ov = .slice ad2 Q.length cp2 ∧ kv = .int .i64 k2 ∧ Q = O ++ bl ∧ k2 ≤ gn + (a' + 1) ∧ nb2 ≤ gn ∧ nb2 ≤ k2 ∧ Q.length ≤ (a' + 1) + nb2 ∧ bl.all isBl = true ∧ Hid (OwU w2.heap.size (.slice ad2 Q.length cp2) Q wr) ∧ Hid (Out w2 wr)) (fun _ kv _ => gn - (intOf kv).toNat)
              case atStart => exact ⟨kk, nb, O, [], ad, cp, rfl, rfl, by simp, hkk, hnb, hnk, hOl, rfl, HO, Hq⟩
              case round =>
                obtain ⟨k2, nb2, Q, bl, ad2, cp2, rfl, rfl, hQ, hk2, hn2, hnk2, hQl, hbl, HQ, Hr⟩ := hrel
                have HQe := hidOf hQ
                have HBl := hidOf hbl
                clear hQ hbl
                by_cases hkg : k2 < gn
                · have hkI : (k2 : Int) < gn := by omega
                  obtain ⟨gb, go, rfl, qc0, qr0, qr1⟩ := hG k2 hkg
                  have qc := cell_later (Out.trans H2.out Hr.out) qc0
                  clear qc0
                  by_cases h127 : 127 < G k2
                  · have hbt : bits .and .u8 (G k2) 1 = 0 ∨ bits .and .u8 (G k2) 1 = 1 := by
                      have := bits1 ⟨(G k2).toNat, by omega⟩
                      rwa [show (((⟨(G k2).toNat, by omega⟩ : Fin 256).val : Nat) : Int) = G k2 from by simp only; omega] at this
                    have j0 : ∀ h, (⟨#[32, 9]⟩ : ByteArray)[0]'h = 32 := fun _ => rfl
                    have j1 : ∀ h, (⟨#[32, 9]⟩ : ByteArray)[1]'h = 9 := fun _ => rfl
                    have tt0 : (32 : UInt8).toNat = 32 := rfl
                    have tt1 : (9 : UInt8).toNat = 9 := rfl
                    rcases hbt with hbt | hbt
                    · go_wp2_with (at_builtin; refine wpList_append_own _ rfl (.tmp 74) (.tmp 81) 51 rfl w2.heap.size 5 i0 _ 1 1 Tryz.underlying51 hinf hz0 hz1 hz2 rfl (by decide) _ Q.length (Lib.byteCells Q) rfl (brow_out HQ.out ((Out.refl wr).alloc _)) ⟨wr.heap.size, 0, none⟩ 1 1 [.int .u8 ((32 : UInt8).toNat : Int)] rfl rfl (news1 wr _) (fun u hu => by rw [List.mem_singleton.1 hu]; rfl) (by unfold maxLen; omega) (by omega) (by have := Hr.out.size; rw [size_alloc]; omega) ?_; intro v' w3 hown' hgrow _; have H3 := hidOf (out_own rfl (brow_out HQ.out ((Out.refl wr).alloc _)) (Hr.out.alloc _) hgrow); have HN := hidOf (OwU.snoc rfl hown'); obtain ⟨ad', cp', rfl⟩ := own_form hown'; clear hown' hgrow)
                      go_roundw
                      case rel => exact ⟨k2 + 1, nb2 + 1, Q ++ [32], bl ++ [32], ad', cp', by simp, by simp, by rw [HQe.out, List.append_assoc], by omega, by omega, by omega, by simp; omega, by rw [List.all_append, HBl.out]; rfl, by simpa using HN, H3⟩
                      case measure => simp [intOf] <;> omega
                    · go_wp2_with (at_builtin; refine wpList_append_own _ rfl (.tmp 74) (.tmp 81) 51 rfl w2.heap.size 5 i0 _ 1 1 Tryz.underlying51 hinf hz0 hz1 hz2 rfl (by decide) _ Q.length (Lib.byteCells Q) rfl (brow_out HQ.out ((Out.refl wr).alloc _)) ⟨wr.heap.size, 0, none⟩ 1 1 [.int .u8 ((9 : UInt8).toNat : Int)] rfl rfl (news1 wr _) (fun u hu => by rw [List.mem_singleton.1 hu]; rfl) (by unfold maxLen; omega) (by omega) (by have := Hr.out.size; rw [size_alloc]; omega) ?_; intro v' w3 hown' hgrow _; have H3 := hidOf (out_own rfl (brow_out HQ.out ((Out.refl wr).alloc _)) (Hr.out.alloc _) hgrow); have HN := hidOf (OwU.snoc rfl hown'); obtain ⟨ad', cp', rfl⟩ := own_form hown'; clear hown' hgrow)
                      go_roundw
                      case rel => exact ⟨k2 + 1, nb2 + 1, Q ++ [9], bl ++ [9], ad', cp', by simp, by simp, by rw [HQe.out, List.append_assoc], by omega, by omega, by omega, by simp; omega, by rw [List.all_append, HBl.out]; rfl, by simpa using HN, H3⟩
                      case measure => simp [intOf] <;> omega
                  · have h127' : (decide (127 < G k2)) = false := decide_eq_false h127
                    go_wp2_with (at_builtin; refine wpList_append_own _ rfl (.tmp 89) (.tmp 93) 51 rfl w2.heap.size 5 i0 _ 1 1 Tryz.underlying51 hinf hz0 hz1 hz2 rfl (by decide) _ Q.length (Lib.byteCells Q) rfl (brow_out HQ.out ((Out.refl wr).alloc _)) ⟨wr.heap.size, 0, none⟩ 1 1 [.int .u8 (x.toNat : Int)] rfl rfl (news1 wr _) (fun u hu => by rw [List.mem_singleton.1 hu]; rfl) (by unfold maxLen; omega) (by omega) (by have := Hr.out.size; rw [size_alloc]; omega) ?_; intro v' w3 hown' hgrow _; have H3 := hidOf (out_own rfl (brow_out HQ.out ((Out.refl wr).alloc _)) (Hr.out.alloc _) hgrow); have HN := hidOf (OwU.snoc rfl hown'); obtain ⟨ad', cp', rfl⟩ := own_form hown'; clear hown' hgrow)
                    go_roundw
                    case rel => exact ⟨a' + 1 + 1, k2 + 1, nb2, Q ++ [x], ad', cp', by simp, by simp, by simp, by omega, by omega, hn2, by omega, by simp; omega, by simpa using HN, H3, .inl ⟨by omega, by rw [HQe.out]; exact HPx.out bl HBl.out⟩⟩
                    case measure => simp [intOf] <;> omega
                · have hkI : ¬ (k2 : Int) < gn := by omega
                  go_wp2_with (at_builtin; refine wpList_append_own _ rfl (.tmp 89) (.tmp 93) 51 rfl w2.heap.size 5 i0 _ 1 1 Tryz.underlying51 hinf hz0 hz1 hz2 rfl (by decide) _ Q.length (Lib.byteCells Q) rfl (brow_out HQ.out ((Out.refl wr).alloc _)) ⟨wr.heap.size, 0, none⟩ 1 1 [.int .u8 (x.toNat : Int)] rfl rfl (news1 wr _) (fun u hu => by rw [List.mem_singleton.1 hu]; rfl) (by unfold maxLen; omega) (by omega) (by have := Hr.out.size; rw [size_alloc]; omega) ?_; intro v' w3 hown' hgrow _; have H3 := hidOf (out_own rfl (brow_out HQ.out ((Out.refl wr).alloc _)) (Hr.out.alloc _) hgrow); have HN := hidOf (OwU.snoc rfl hown'); obtain ⟨ad', cp', rfl⟩ := own_form hown'; clear hown' hgrow)
                  go_roundw
                  case rel => exact ⟨a' + 1 + 1, k2 + 1, nb2, Q ++ [x], ad', cp', by simp, by simp, by simp, by omega, by omega, hn2, by omega, by simp; omega, by simpa using HN, H3, .inl ⟨by omega, by rw [HQe.out]; exact HPx.out bl HBl.out⟩⟩
                  case measure => simp [intOf] <;> omega
            --MIDEND
        · obtain rfl : a = L.length := by omega
          have HPe : Hid (∀ bl, bl.all isBl = true → TE L (O ++ bl)) := fun bl hb => by
            have := HPre.out
            rw [List.take_length] at this
            exact this.done bl hb
          have hLz : ((L.length : Int) == 0) = false := by have := Hpos.out; simp only [beq_eq_false_iff_ne]; omega
          --END
          go_wp2_with (go_at_call 20; refine (apart_any _ _).mono ?_; rintro e wn ⟨rfl, hw⟩; subst hw)
          go_loopw [11, 12] (fun ov kv wr => ∃ (k2 nb2 : Nat) (Q : List UInt8) (bl : List UInt8) (ad2 : Option Addr) (cp2 : Nat), ov = .slice ad2 Q.length cp2 ∧ kv = .int .i64 k2 ∧ Q = O ++ bl ∧ k2 ≤ gn + (L.length) ∧ nb2 ≤ gn ∧ nb2 ≤ k2 ∧ Q.length ≤ (L.length) + nb2 ∧ bl.all isBl = true ∧ Hid (OwU w2.heap.size (.slice ad2 Q.length cp2) Q wr) ∧ Hid (Out w2 wr)) (fun _ kv _ => gn - (intOf kv).toNat)
          case atStart => exact ⟨kk, nb, O, [], ad, cp, rfl, rfl, by simp, hkk, hnb, hnk, hOl, rfl, HO, Hq⟩
          case round =>
            obtain ⟨k2, nb2, Q, bl, ad2, cp2, rfl, rfl, hQ, hk2, hn2, hnk2, hQl, hbl, HQ, Hr⟩ := hrel
            have HQe := hidOf hQ
            have HBl := hidOf hbl
            clear hQ hbl
            by_cases hkg : k2 < gn
            · have hkI : (k2 : Int) < gn := by omega
              obtain ⟨gb, go, rfl, qc0, qr0, qr1⟩ := hG k2 hkg
              have qc := cell_later (Out.trans H2.out Hr.out) qc0
              clear qc0
              by_cases h127 : 127 < G k2
              · have hbt : bits .and .u8 (G k2) 1 = 0 ∨ bits .and .u8 (G k2) 1 = 1 := by
                  have := bits1 ⟨(G k2).toNat, by omega⟩
                  rwa [show (((⟨(G k2).toNat, by omega⟩ : Fin 256).val : Nat) : Int) = G k2 from by simp only; omega] at this
                have j0 : ∀ h, (⟨#[32, 9]⟩ : ByteArray)[0]'h = 32 := fun _ => rfl
                have j1 : ∀ h, (⟨#[32, 9]⟩ : ByteArray)[1]'h = 9 := fun _ => rfl
                have tt0 : (32 : UInt8).toNat = 32 := rfl
                have tt1 : (9 : UInt8).toNat = 9 := rfl
                rcases hbt with hbt | hbt
                · go_wp2_with (at_builtin; refine wpList_append_own _ rfl (.tmp 74) (.tmp 81) 51 rfl w2.heap.size 5 i0 _ 1 1 Tryz.underlying51 hinf hz0 hz1 hz2 rfl (by decide) _ Q.length (Lib.byteCells Q) rfl (brow_out HQ.out ((Out.refl wr).alloc _)) ⟨wr.heap.size, 0, none⟩ 1 1 [.int .u8 ((32 : UInt8).toNat : Int)] rfl rfl (news1 wr _) (fun u hu => by rw [List.mem_singleton.1 hu]; rfl) (by unfold maxLen; omega) (by omega) (by have := Hr.out.size; rw [size_alloc]; omega) ?_; intro v' w3 hown' hgrow _; have H3 := hidOf (out_own rfl (brow_out HQ.out ((Out.refl wr).alloc _)) (Hr.out.alloc _) hgrow); have HN := hidOf (OwU.snoc rfl hown'); obtain ⟨ad', cp', rfl⟩ := own_form hown'; clear hown' hgrow)
                  go_roundw
                  case rel => exact ⟨k2 + 1, nb2 + 1, Q ++ [32], bl ++ [32], ad', cp', by simp, by simp, by rw [HQe.out, List.append_assoc], by omega, by omega, by omega, by simp; omega, by rw [List.all_append, HBl.out]; rfl, by simpa using HN, H3⟩
                  case measure => simp [intOf] <;> omega
                · go_wp2_with (at_builtin; refine wpList_append_own _ rfl (.tmp 74) (.tmp 81) 51 rfl w2.heap.size 5 i0 _ 1 1 Tryz.underlying51 hinf hz0 hz1 hz2 rfl (by decide) _ Q.length (Lib.byteCells Q) rfl (brow_out HQ.out ((Out.refl wr).alloc _)) ⟨wr.heap.size, 0, none⟩ 1 1 [.int .u8 ((9 : UInt8).toNat : Int)] rfl rfl (news1 wr _) (fun u hu => by rw [List.mem_singleton.1 hu]; rfl) (by unfold maxLen; omega) (by omega) (by have := Hr.out.size; rw [size_alloc]; omega) ?_; intro v' w3 hown' hgrow _; have H3 := hidOf (out_own rfl (brow_out HQ.out ((Out.refl wr).alloc _)) (Hr.out.alloc _) hgrow); have HN := hidOf (OwU.snoc rfl hown'); obtain ⟨ad', cp', rfl⟩ := own_form hown'; clear hown' hgrow)
                  go_roundw
                  case rel => exact ⟨k2 + 1, nb2 + 1, Q ++ [9], bl ++ [9], ad', cp', by simp, by simp, by rw [HQe.out, List.append_assoc], by omega, by omega, by omega, by simp; omega, by rw [List.all_append, HBl.out]; rfl, by simpa using HN, H3⟩
                  case measure => simp [intOf] <;> omega
              · have h127' : (decide (127 < G k2)) = false := decide_eq_false h127
                go_wp2
                go_roundw
                case rel => exact ⟨L.length + 1, k2 + 1, nb2, Q, ad2, cp2, rfl, by simp, by simp, by omega, by omega, hn2, by omega, by omega, HQ, Hr, .inr ⟨rfl, by rw [HQe.out]; exact HPe.out bl HBl.out⟩⟩
                case measure => simp [intOf] <;> omega
            · have hkI : ¬ (k2 : Int) < gn := by omega
              go_wp2
              go_roundw
              case rel => exact ⟨L.length + 1, k2 + 1, nb2, Q, ad2, cp2, rfl, by simp, by simp, by omega, by omega, hn2, by omega, by omega, HQ, Hr, .inr ⟨rfl, by rw [HQe.out]; exact HPe.out bl HBl.out⟩⟩
              case measure => simp [intOf] <;> omega
          --ENDEND
      · obtain rfl : a = L.length + 1 := by omega
        have hno : ¬ (L.length : Int) + 1 ≤ L.length := by omega
        have hpO : parseP O = ⟨o, d, s, f, i, t, 0⟩ := by
          rcases HPr.out with h | h
          · omega
          · rw [← parse_TE h.2]; exact Hback.out
        have kc := conv_own wr _ ad cp O HO.out
        have CPO : Hid (Calls Tryz.prog 13 #[.string ⟨O.toArray⟩] wr fun e w' => e = .returned (.tuple #[.agg #[.int .i64 o, .int .i64 d, .int .i64 s, .int .i64 f, .int .i64 i], .string ⟨t.toArray⟩, .int .i64 0]) ∧ Out wr w') := by
          have := parse_any wr O (hE.out (Out.trans H2.out Hq.out)).1 (by omega)
          rw [hpO] at this
          exact this
        have CPA : Hid (∀ (x : List UInt8), x.length ≤ 140737488355328 → ∀ wx, Out w wx → Calls Tryz.prog 13 #[.string ⟨x.toArray⟩] wx fun e w' => e = .returned (.tuple #[.agg #[.int .i64 (parseP x).o, .int .i64 (parseP x).d, .int .i64 (parseP x).s, .int .i64 (parseP x).f, .int .i64 (parseP x).i], .string ⟨(parseP x).tgt.toArray⟩, .int .i64 (parseP x).e]) ∧ Out wx w') := fun x hx wx ho => parse_any wx x (hE.out ho).1 hx
        have XQ := hidOf (X2.out.out Hq.out)
        have CN := hidOf (name2_any c)
        clear hpO HPr hal ha hkk hnb hnk hOl
        rw [show ((L.length + 1 : Nat) : Int) = (L.length : Int) + 1 from by omega]
        cases hu : runU c
        · rw [hu] at CN
          by_cases hc1 : (c.toNat : Int) = 32
          · have hb1 : ((c.toNat : Int) == 32) = true := by simpa using hc1
            clear hc1
            go_wp2_with (first | (go_at_call 12; refine (num_any _ _).mono ?_; rintro e wn ⟨rfl, hw⟩; have hw := hw.symm; subst hw) | (go_at_call 13; refine CPO.out.mono ?_; rintro e w3 ⟨rfl, ho⟩; have H3 := hidOf (Out.trans (Out.trans H2.out Hq.out) ho); have d0 := fun O => (XQ.out.out (ho.alloc O)).1; have d1 := fun O => (XQ.out.out (ho.alloc O)).2.1; have d2 := fun O => (XQ.out.out (ho.alloc O)).2.2.1; have d3 := fun O => (XQ.out.out (ho.alloc O)).2.2.2.1; have d4 := fun O => (XQ.out.out (ho.alloc O)).2.2.2.2; have k2 : ∀ A : Obj, (convert 51 9 (.slice (some ⟨w3.heap.size + 1, 0, none⟩) 2 2)).run Tryz.prog ((w3.alloc A).alloc (.cells #[.int .u8 97, .int .u8 (c.toNat : Int)] 5)) = .ok (.string ⟨#[97, c]⟩) ((w3.alloc A).alloc (.cells #[.int .u8 97, .int .u8 (c.toNat : Int)] 5)) := fun A => (by have := conv_new (w3.alloc A) [97, c]; rw [size_alloc] at this; exact this); clear ho) | (go_at_call 21; refine (CN.out _).mono ?_; rintro e wn ⟨rfl, hw⟩; subst hw))
            all_goals (go_ret; exact ⟨rfl, (H3.out.alloc _).alloc _⟩)
          have hb1 : ((c.toNat : Int) == 32) = false := by simpa using hc1
          by_cases hc2 : (c.toNat : Int) = 9
          · have hb2 : ((c.toNat : Int) == 9) = true := by simpa using hc2
            clear hc2 hc1
            go_wp2_with (first | (go_at_call 12; refine (num_any _ _).mono ?_; rintro e wn ⟨rfl, hw⟩; have hw := hw.symm; subst hw) | (go_at_call 13; refine CPO.out.mono ?_; rintro e w3 ⟨rfl, ho⟩; have H3 := hidOf (Out.trans (Out.trans H2.out Hq.out) ho); have d0 := fun O => (XQ.out.out (ho.alloc O)).1; have d1 := fun O => (XQ.out.out (ho.alloc O)).2.1; have d2 := fun O => (XQ.out.out (ho.alloc O)).2.2.1; have d3 := fun O => (XQ.out.out (ho.alloc O)).2.2.2.1; have d4 := fun O => (XQ.out.out (ho.alloc O)).2.2.2.2; have k2 : ∀ A : Obj, (convert 51 9 (.slice (some ⟨w3.heap.size + 1, 0, none⟩) 2 2)).run Tryz.prog ((w3.alloc A).alloc (.cells #[.int .u8 97, .int .u8 (c.toNat : Int)] 5)) = .ok (.string ⟨#[97, c]⟩) ((w3.alloc A).alloc (.cells #[.int .u8 97, .int .u8 (c.toNat : Int)] 5)) := fun A => (by have := conv_new (w3.alloc A) [97, c]; rw [size_alloc] at this; exact this); clear ho) | (go_at_call 21; refine (CN.out _).mono ?_; rintro e wn ⟨rfl, hw⟩; subst hw))
            all_goals (go_ret; exact ⟨rfl, (H3.out.alloc _).alloc _⟩)
          have hb2 : ((c.toNat : Int) == 9) = false := by simpa using hc2
          have hb := HB.out hu (fun h => hc1 (by rw [h]; rfl)) (fun h => hc2 (by rw [h]; rfl))
          obtain ⟨p0, p1, p2, p3, p4, p5, CB1⟩ : ∃ (r0 r1 r2 r3 r4 : Int) (r5 : List UInt8), Hid (∀ wx, Out w wx → Calls Tryz.prog 13 #[.string ⟨(L ++ [c]).toArray⟩] wx fun e w' => e = .returned (.tuple #[.agg #[.int .i64 r0, .int .i64 r1, .int .i64 r2, .int .i64 r3, .int .i64 r4], .string ⟨r5.toArray⟩, .int .i64 41]) ∧ Out wx w') := ⟨(parseP (L ++ [c])).o, (parseP (L ++ [c])).d, (parseP (L ++ [c])).s, (parseP (L ++ [c])).f, (parseP (L ++ [c])).i, (parseP (L ++ [c])).tgt, fun wx ho => by have := CPA.out (L ++ [c]) (by simp; omega) wx ho; rw [hb.1] at this; exact this⟩
          obtain ⟨q0, q1, q2, q3, q4, q5, CB2⟩ : ∃ (r0 r1 r2 r3 r4 : Int) (r5 : List UInt8), Hid (∀ wx, Out w wx → Calls Tryz.prog 13 #[.string ⟨(c :: L).toArray⟩] wx fun e w' => e = .returned (.tuple #[.agg #[.int .i64 r0, .int .i64 r1, .int .i64 r2, .int .i64 r3, .int .i64 r4], .string ⟨r5.toArray⟩, .int .i64 40]) ∧ Out wx w') := ⟨(parseP (c :: L)).o, (parseP (c :: L)).d, (parseP (c :: L)).s, (parseP (c :: L)).f, (parseP (c :: L)).i, (parseP (c :: L)).tgt, fun wx ho => by have := CPA.out (c :: L) (by simp; omega) wx ho; rw [hb.2] at this; exact this⟩
          have a1 : ∀ w, (Op.stringOp .add ⟨L.toArray⟩ ⟨#[c]⟩).run Tryz.prog w = .ok (.string ⟨(L ++ [c]).toArray⟩) w := add_lists L [c] _ rfl (by simp; omega)
          have a2 : ∀ w, (Op.stringOp .add ⟨#[c]⟩ ⟨L.toArray⟩).run Tryz.prog w = .ok (.string ⟨(c :: L).toArray⟩) w := add_lists [c] L _ rfl (by simp; omega)
          generalize L ++ [c] = L1 at *
          generalize c :: L = L2 at *
          clear hb HB CPA hc1 hc2
          go_wp2_with (first | (go_at_call 12; refine (num_any _ _).mono ?_; rintro e wn ⟨rfl, hw⟩; have hw := hw.symm; subst hw) | (go_at_call 13; refine CPO.out.mono ?_; rintro e w3 ⟨rfl, ho⟩; have H3 := hidOf (Out.trans (Out.trans H2.out Hq.out) ho); have d0 := fun O => (XQ.out.out (ho.alloc O)).1; have d1 := fun O => (XQ.out.out (ho.alloc O)).2.1; have d2 := fun O => (XQ.out.out (ho.alloc O)).2.2.1; have d3 := fun O => (XQ.out.out (ho.alloc O)).2.2.2.1; have d4 := fun O => (XQ.out.out (ho.alloc O)).2.2.2.2; have k2 : ∀ A : Obj, (convert 51 9 (.slice (some ⟨w3.heap.size + 1, 0, none⟩) 2 2)).run Tryz.prog ((w3.alloc A).alloc (.cells #[.int .u8 97, .int .u8 (c.toNat : Int)] 5)) = .ok (.string ⟨#[97, c]⟩) ((w3.alloc A).alloc (.cells #[.int .u8 97, .int .u8 (c.toNat : Int)] 5)) := fun A => (by have := conv_new (w3.alloc A) [97, c]; rw [size_alloc] at this; exact this); have k1 : ∀ A B : Obj, (convert 51 9 (.slice (some ⟨w3.heap.size + 1 + 1, 0, none⟩) 1 1)).run Tryz.prog (((w3.alloc A).alloc B).alloc (.cells #[.int .u8 (c.toNat : Int)] 5)) = .ok (.string ⟨#[c]⟩) (((w3.alloc A).alloc B).alloc (.cells #[.int .u8 (c.toNat : Int)] 5)) := fun A B => (by have := conv_new ((w3.alloc A).alloc B) [c]; rw [size_alloc, size_alloc] at this; exact this); clear ho CPO) | (go_at_call 13; refine (CB1.out _ (((H3.out.alloc _).alloc _).alloc _)).mono ?_; rintro e w5 ⟨rfl, ho⟩; have H5 := hidOf (Out.trans (((H3.out.alloc _).alloc _).alloc _) ho); have k5 : ∀ A : Obj, (convert 51 9 (.slice (some ⟨w5.heap.size + 1, 0, none⟩) 1 1)).run Tryz.prog ((w5.alloc A).alloc (.cells #[.int .u8 (c.toNat : Int)] 5)) = .ok (.string ⟨#[c]⟩) ((w5.alloc A).alloc (.cells #[.int .u8 (c.toNat : Int)] 5)) := fun A => (by have := conv_new (w5.alloc A) [c]; rw [size_alloc] at this; exact this); clear ho CB1) | (go_at_call 13; refine (CB2.out _ ((H5.out.alloc _).alloc _)).mono ?_; rintro e w6 ⟨rfl, ho⟩; have H6 := hidOf (Out.trans ((H5.out.alloc _).alloc _) ho); clear ho CB2) | (go_at_call 21; refine (CN.out _).mono ?_; rintro e wn ⟨rfl, hw⟩; subst hw))
          go_ret
          first | exact ⟨rfl, H6.out⟩ | exact ⟨rfl, H6.out.alloc _⟩
        · rw [hu] at CN
          go_wp2_with (first | (go_at_call 12; refine (num_any _ _).mono ?_; rintro e wn ⟨rfl, hw⟩; have hw := hw.symm; subst hw) | (go_at_call 13; refine CPO.out.mono ?_; rintro e w3 ⟨rfl, ho⟩; have H3 := hidOf (Out.trans (Out.trans H2.out Hq.out) ho); have d0 := fun O => (XQ.out.out (ho.alloc O)).1; have d1 := fun O => (XQ.out.out (ho.alloc O)).2.1; have d2 := fun O => (XQ.out.out (ho.alloc O)).2.2.1; have d3 := fun O => (XQ.out.out (ho.alloc O)).2.2.2.1; have d4 := fun O => (XQ.out.out (ho.alloc O)).2.2.2.2; have k2 : ∀ A : Obj, (convert 51 9 (.slice (some ⟨w3.heap.size + 1, 0, none⟩) 2 2)).run Tryz.prog ((w3.alloc A).alloc (.cells #[.int .u8 97, .int .u8 (c.toNat : Int)] 5)) = .ok (.string ⟨#[97, c]⟩) ((w3.alloc A).alloc (.cells #[.int .u8 97, .int .u8 (c.toNat : Int)] 5)) := fun A => (by have := conv_new (w3.alloc A) [97, c]; rw [size_alloc] at this; exact this); clear ho) | (go_at_call 21; refine (CN.out _).mono ?_; rintro e wn ⟨rfl, hw⟩; subst hw))
          go_ret
          exact ⟨rfl, (H3.out.alloc _).alloc _⟩
  · have h1 : (printP o d s f i t).1 = [] := by
      unfold printP at h0 ⊢
      by_cases hm : mayP o d s f i = 0
      · rw [if_pos hm] at h0 ⊢
        cases ht : tfitP o s f i t
        · rfl
        · rw [ht] at h0; simp at h0
      · rw [if_neg hm]
    rw [h1] at CP
    have hn : ((printP o d s f i t).2 != 0) = true := by simpa using h0
    generalize (printP o d s f i t).2 = m at *
    clear h0 h1 hE hl hf hi hG hgn
    go_enter Tryz.func8, Tryz.ntmps8
    go_wp2_with (go_at_call 9; refine (CA.out _ ((Out.refl w).alloc _)).mono ?_; rintro e w1 ⟨rfl, ho⟩; have H1 := hidOf (Out.trans ((Out.refl w).alloc _) ho); have X1 := hidOf (HX.out.out ho); obtain ⟨c0, c1, c2, c3, c4⟩ := X1.out; clear ho CA)
    go_wp2_with (first | (go_at_call 12; refine (num_any _ _).mono ?_; rintro e wn ⟨rfl, hw⟩; have hw := hw.symm; subst hw) | (go_at_call 10; refine (CP.out w1 H1.out).mono ?_; rintro e w2 ⟨rfl, ho⟩; have H2 := hidOf (Out.trans H1.out ho); clear ho CP))
    go_ret
    exact ⟨rfl, H2.out⟩
end Go.Proofs.YtcjhgihpahnnoaaGreatDoor
