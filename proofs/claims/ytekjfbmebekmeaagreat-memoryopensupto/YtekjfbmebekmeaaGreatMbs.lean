import Derived.Test.YtekjfbmebekmeaaGreatMbr
namespace Go.Proofs.YtekjfbmebekmeaaGreat
open Go.RowKit
set_option linter.unusedVariables false
set_option linter.unusedSimpArgs false
/-- a region as it is handed in -/
structure RI where
  f : Nat
  a : Option Addr
  c : Nat
  d : List UInt8
/-- regions that are handed in, in a row -/
def InR (w : World) (a : Option Addr) (L : List RI) : Prop := L = [] ∨ ∃ g o, a = some ⟨g, o, none⟩ ∧ ∀ i x, L[i]? = some x → w.cell? ⟨g, o + i * 2, none⟩ = some (.int .u64 (x.f : Nat)) ∧ w.cell? ⟨g, o + i * 2 + 1, none⟩ = some (.slice x.a x.d.length x.c) ∧ RestA w x.a x.d
theorem InR.out {w w' : World} {a : Option Addr} {L : List RI} (h : InR w a L) (o : Out w w') : InR w' a L := h.imp id (fun ⟨g, q, e, h1⟩ => ⟨g, q, e, fun i x hx => ⟨cell_later o (h1 i x hx).1, cell_later o (h1 i x hx).2.1, (h1 i x hx).2.2.out o⟩⟩)
/-- may it be put into a space of F and E? -/
def noP (F E : List Rg) (r : RI) : Bool := !mayR r.f r.d.length || clP F E r.f r.d.length
/-- a space's regions behind those that were put in -/
inductive Run : List RI → List Rg → List Rg → Prop
  | nil : Run [] [] []
  | addE (L : List RI) (F E E' : List Rg) (r : RI) (x : Rg) : Run L F E → noP F E r = false → r.d = [] → x.f = r.f → x.d = r.d → InsP E x E' → Run (L ++ [r]) F E'
  | addF (L : List RI) (F E F' : List Rg) (r : RI) (x : Rg) : Run L F E → noP F E r = false → ¬ r.d = [] → x.f = r.f → x.d = r.d → InsP F x F' → Run (L ++ [r]) F' E
/-- what New gives -/
def NewE (L : List RI) (w : World) (e : Ending) (w' : World) : Prop :=
  (e = .returned (.tuple #[.pointer none, .int .i64 201]) ∧ Out w w' ∧ ∃ k r F E, L[k]? = some r ∧ Run (L.take k) F E ∧ noP F E r = true) ∨
  ∃ s v1 v2 X Y, e = .returned (.tuple #[.pointer (some ⟨s, 0, none⟩), .int .i64 0]) ∧ SpD w.heap.size w' s v1 v2 X Y L.length ∧ Out w w' ∧ Run L (flat X) (flat Y)
theorem SpD.begin_ (w : World) : SpD w.heap.size (w.alloc (.cells #[.slice none 0 0, .slice none 0 0] 92)) w.heap.size (.slice none 0 0) (.slice none 0 0) [] [] 0 := by
  have hsh : Sh w.heap.size (w.alloc (.cells #[.slice none 0 0, .slice none 0 0] 92)) (.slice none 0 0) [] := ⟨World.ownsRow_nil _ _ _ _, by simp, by simp, by simp, List.Pairwise.nil, by simp⟩
  have hno : ∀ k, ¬ fpS (.slice none 0 0) [] k := fun k hk => by
    rcases hk with hk | ⟨z, hz, _⟩
    · cases hk
    · simp at hz
  refine ⟨⟨heap_alloc_new w _, Nat.le_refl _, hsh, hsh, hno _, hno _, fun k hk => (hno k hk).elim, by simp, by simp⟩, SpOk.nil, by simp, by simp, by simp [flat], by simp [flat], fun b ⟨z, hz, _⟩ => by simp [flat] at hz, by simp [flat], by simp [flat]⟩
set_option maxHeartbeats 2000000 in
set_option maxRecDepth 100000 in
theorem New_any (w : World) (a : Option Addr) (c : Nat) (L : List RI) (h : InR w a L) (hL : ∀ x ∈ L, x.f < 18446744073709551616 ∧ x.d.length ≤ 140737488355328) (hn : L.length ≤ 5864062014000) :
    Calls Tryz.prog 16 #[.slice a L.length c] w fun e w' => NewE L w e w' := by
  obtain ⟨n, hN⟩ : ∃ n, Hid (n = L.length) := ⟨_, rfl⟩
  rw [← hN.out] at hn ⊢
  have HI := hidOf h
  have HL := hidOf hL
  have SP0 := hidOf (SpD.begin_ w)
  obtain ⟨w0, H0, o0⟩ : ∃ w0, Hid (w0 = w.alloc (.cells #[.slice none 0 0, .slice none 0 0] 92)) ∧ Out w w0 := ⟨_, rfl, (Out.refl w).alloc _⟩
  rw [← H0.out] at SP0
  have O0 := hidOf o0
  clear h hL o0
  go_enter Tryz.func16, Tryz.ntmps16
  go_upto_region 2 with fail
  rw [← H0.out]
  go_wp2
  go_loopw [12] (fun kv wr => ∃ k v1 v2 X Y, kv = .int .i64 (k : Nat) ∧ k ≤ n ∧ Hid (SpD w.heap.size wr w.heap.size v1 v2 X Y k) ∧ Hid (Run (L.take k) (flat X) (flat Y)) ∧ Hid (Out w wr)) (fun kv _ => n - (intOf kv).toNat)
  case atStart => exact ⟨0, _, _, [], [], rfl, Nat.zero_le _, SP0, hidOf Run.nil, O0⟩
  case round =>
    obtain ⟨k, v1, v2, X, Y, rfl, hk, SP, RU, OR⟩ := hrel
    by_cases hkn : k < n
    · have hlt : (k : Int) < n := by omega
      obtain ⟨x, hx⟩ : ∃ x, L[k]? = some x := ⟨_, List.getElem?_eq_getElem (by rw [← hN.out]; exact hkn)⟩
      obtain ⟨g, o, rfl, hcs⟩ : ∃ g o, a = some ⟨g, o, none⟩ ∧ _ := HI.out.resolve_left (fun e => by rw [e] at hx; simp at hx)
      obtain ⟨q0, q1, q2⟩ := hcs k x hx
      have p0 := cell_later OR.out q0
      have p1 := cell_later OR.out q1
      obtain ⟨xf, xa, xc, xd⟩ := x
      obtain ⟨xn, hxn⟩ : ∃ xn, Hid (xn = xd.length) := ⟨_, rfl⟩
      have hxm := HL.out _ (List.mem_of_getElem? hx)
      have AC := hidOf (fun W (o : Out wr W) => Add_any W w.heap.size w.heap.size v1 v2 X Y k xf xc xa xd (SP.out.out o) (by omega) (q2.out (OR.out.trans o)) hxm.2 hxm.1)
      simp only at p0 p1
      rw [← hxn.out] at p1 AC
      obtain ⟨wB, HB, b0, b1, oB, _⟩ := box_two wr (.int .u64 xf) (.slice xa xn xc) 36
      have OB := hidOf oB
      have HX := hidOf hx
      clear hcs q0 q1 q2 hx hxm oB
      go_upto_region 5 with fail
      rw [← HB.out]
      go_upto_region 6 with (go_at_call 22; refine (AC.out _ OB.out).mono ?_; rintro e w1 (⟨hno, rfl, ho1⟩ | ⟨hno, rfl, v1', v2', X', Y', z, hsp, hc, hzf, hzd, hz⟩))
      · have O1 := hidOf ho1
        have NO := hidOf hno
        clear ho1 hno
        go_wp2
        refine bodyPost_ret (results_tmp2 rfl _ _ _) rfl ?_
        exact .inl ⟨rfl, (OR.out.trans OB.out).trans O1.out, k, _, _, _, HX.out, RU.out, NO.out⟩
      · have SP1 := hidOf hsp
        have C1 := hidOf hc
        have NO := hidOf hno
        have HZ := hidOf hz
        have HZF := hidOf hzf
        have HZD := hidOf hzd
        clear hsp hc hno hz hzf hzd
        go_wp2
        go_roundw
        case rel =>
          have hO : Out w w1 := Chg.out C1.out (OR.out.trans OB.out) (fun q hq => (SP.out.lt hq).1)
          refine ⟨k + 1, v1', v2', X', Y', by simp, by omega, SP1, hidOf ?_, hidOf hO⟩
          have et : L.take (k + 1) = L.take k ++ [⟨xf, xa, xc, xd⟩] := by rw [List.take_add_one, HX.out]; rfl
          rw [et]
          rcases HZ.out with ⟨hd, hi, rfl⟩ | ⟨hd, hi, rfl⟩
          · exact Run.addE _ _ _ _ _ z RU.out NO.out hd HZF.out HZD.out hi
          · exact Run.addF _ _ _ _ _ z RU.out NO.out hd HZF.out HZD.out hi
        case measure => simp [intOf]; omega
    · have hlt : ¬ (k : Int) < n := by omega
      obtain rfl : n = k := by omega
      go_wp2
      refine bodyPost_ret (results_tmp2 rfl _ _ _) rfl ?_
      have et : L.take n = L := by rw [hN.out]; exact List.take_length
      have hru := RU.out
      rw [et] at hru
      exact .inr ⟨w.heap.size, v1, v2, X, Y, rfl, by rw [← hN.out]; exact SP.out, OR.out, hru⟩
end Go.Proofs.YtekjfbmebekmeaaGreat
