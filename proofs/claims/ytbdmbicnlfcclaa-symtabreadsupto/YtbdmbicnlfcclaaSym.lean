import Derived.Test.YtbdmbicnlfcclaaSyl
namespace Go.Proofs.Ytbdmbicnlfcclaa
open Go.RowKit
set_option linter.unusedVariables false
set_option linter.unusedSimpArgs false
def OwS (B : Nat) (v : Value) (L : List Sy) (w : World) : Prop := w.ownsRow B 57 6 v L.length (syV L)
theorem infoSm : (Try.prog.info? 57).map (fun i => (i.zero, i.size, i.bytes)) = some (some (.agg #[.int .i64 0, .int .i64 0, .int .i64 0, .int .i64 0, .int .i64 0, .int .i64 0]), 6, 48) := by kernel_rfl
theorem run_make_s0 (n : Nat) (hn : n ≤ 5864062014805) (w : World) : ∃ cur : Array Value, (Instr.makeSlice 25 (.int .i64 0) (.int .i64 (n : Int))).run Try.prog w = .ok (.slice (some ⟨w.heap.size, 0, none⟩) 0 n) (w.alloc (.cells cur 57)) ∧ OwS w.heap.size (.slice (some ⟨w.heap.size, 0, none⟩) 0 n) [] (w.alloc (.cells cur 57)) := by
  obtain ⟨i0, hi, hz0, hz1, hz2⟩ := info_parts infoSm
  have h := run_make (P := Try.prog) w 25 57 i0 _ Try.underlying25 hi hz0 .i64 .i64 0 (n : Int) (by omega) (by omega) (by rw [hz2]; omega) (by omega)
  rw [hz1] at h
  refine ⟨_, h, rfl, .inr ⟨w.heap.size, n, _, rfl, Nat.le_refl _, heap_alloc_new w _, by simp, by unfold maxLen; omega, by simp [madeCells], ?_⟩⟩
  simp [syV]
/-- what Read makes of the entries behind the first -/
def rdG (step : Nat → Rn → Option (Sy × Rn) × Nat × Int) (L : Nat) : Nat → Nat → Rn → List Sy → Option (List Sy) × Int × Int
  | 0, _, _, S => (some S, 0, 0)
  | n + 1, place, q, S => if L ≤ place then (some S, 0, 0) else if L < place + 24 then (none, L, 100) else
    match step place q with
    | (none, a, e) => (none, (place : Int) + a, e)
    | (some (s, q'), _, _) => rdG step L n (place + 24) q' (S ++ [s])
theorem rdG_end {st : Nat → Rn → Option (Sy × Rn) × Nat × Int} {L n place : Nat} {q : Rn} {S : List Sy} (h : L ≤ place) : rdG st L n place q S = (some S, 0, 0) := by
  cases n with
  | zero => rfl
  | succ n => rw [rdG, if_pos h]
theorem rdG_cut {st : Nat → Rn → Option (Sy × Rn) × Nat × Int} {L n place : Nat} {q : Rn} {S : List Sy} (h : ¬ L ≤ place) (h2 : L < place + 24) : rdG st L (n + 1) place q S = (none, (L : Int), 100) := by
  rw [rdG, if_neg h, if_pos h2]
theorem rdG_bad {st : Nat → Rn → Option (Sy × Rn) × Nat × Int} {L n place : Nat} {q : Rn} {S : List Sy} (h2 : ¬ L < place + 24) {a : Nat} {e : Int} (h : st place q = (none, a, e)) : rdG st L (n + 1) place q S = (none, (place : Int) + a, e) := by
  rw [rdG, if_neg (by omega), if_neg h2, h]
theorem rdG_step {st : Nat → Rn → Option (Sy × Rn) × Nat × Int} {L n place : Nat} {q : Rn} {S : List Sy} (h2 : ¬ L < place + 24) {s : Sy} {q' : Rn} {a : Nat} {e : Int} (h : st place q = (some (s, q'), a, e)) : rdG st L (n + 1) place q S = rdG st L n (place + 24) q' (S ++ [s]) := by
  rw [rdG, if_neg (by omega), if_neg h2, h]
def stB (b : List UInt8) (place : Nat) (q : Rn) : Option (Sy × Rn) × Nat × Int := teP q ((b.drop place).take 24)
def rdF (b : List UInt8) : Nat → Nat → Rn → List Sy → Option (List Sy) × Int × Int := rdG (stB b) b.length
def rdS (b : List UInt8) : Option (List Sy) × Int × Int := match fzP b with
  | some a => (none, a, 100)
  | none => rdF b b.length 24 ⟨0, 0, 0⟩ []
/-- amid Read -/
structure RSt (w wr : World) (p : Nat) (v : Value) (S : List Sy) (q : Rn) : Prop where
  own : OwS w.heap.size v S wr
  out : Out w wr
  rb : RB wr p q
  ge : w.heap.size ≤ p
def RdE (w : World) (o : Option (List Sy) × Int × Int) (e : Ending) (w' : World) : Prop := Out w w' ∧ match o with
  | (none, at_, er) => e = .returned (.tuple #[.slice none 0 0, .int .i64 at_, .int .i64 er])
  | (some S, _, _) => ∃ a c, e = .returned (.tuple #[.slice a S.length c, .int .i64 0, .int .i64 0]) ∧ OwS w.heap.size (.slice a S.length c) S w'
theorem read_short (w : World) (a : Option Addr) (n c : Nat) (hn : n < 24) : Calls Try.prog 17 #[.slice a n c] w fun e w' => e = .returned (.tuple #[.slice none 0 0, .int .i64 n, .int .i64 100]) ∧ w' = w := by
  have C := hidOf (first_short w a n c hn)
  go_enter Try.func17, Try.ntmps17
  go_wp2_with (go_at_call 34; refine (C.out).mono ?_; rintro e w1 ⟨rfl, hw⟩; have hw := hw.symm; subst hw)
  go_ret3
  exact ⟨rfl, rfl⟩
theorem read_first (w : World) (g off c : Nat) (b : List UInt8) (h : BAt w g off b) (hn : 24 ≤ b.length) (hc : b.length ≤ c) (at_ : Nat) (hf : fzB (b.take 24) 0 = some at_) : Calls Try.prog 17 #[.slice (some ⟨g, off, none⟩) b.length c] w fun e w' => e = .returned (.tuple #[.slice none 0 0, .int .i64 at_, .int .i64 100]) ∧ w' = w := by
  have C := hidOf (first_long w g off c b h hn hc)
  rw [hf] at C
  simp only [Option.getD_some, Option.isSome_some] at C
  clear hf
  go_enter Try.func17, Try.ntmps17
  go_wp2_with (go_at_call 34; refine (C.out).mono ?_; rintro e w1 ⟨rfl, hw⟩; have hw := hw.symm; subst hw)
  go_ret3
  exact ⟨rfl, rfl⟩
theorem ff_le {k : Nat} {s : Sy} {a : Nat} (h : ffP k s = some a) : a ≤ 16 := by
  unfold ffP at h
  split at h
  · cases h; omega
  · split at h
    · cases h; omega
    · split at h
      · cases h; omega
      · cases h
theorem te_none {q : Rn} {l : List UInt8} {a : Nat} {e : Int} (h : teP q l = (none, a, e)) : a ≤ 16 ∧ (e = 100 ∨ e = 101) := by
  unfold teP at h
  split at h
  · cases h; exact ⟨by omega, .inl rfl⟩
  · split at h
    · cases h; exact ⟨by omega, .inl rfl⟩
    · split at h
      · rename_i hf
        cases h; exact ⟨ff_le hf, .inl rfl⟩
      · split at h
        · cases h; exact ⟨by omega, .inr rfl⟩
        · cases h
theorem te_some {q q' : Rn} {l : List UInt8} {s : Sy} {a : Nat} {e : Int} (h : teP q l = (some (s, q'), a, e)) : a = 0 ∧ e = 0 ∧ ∃ k, tkS q k s.va = some q' := by
  unfold teP at h
  split at h
  · cases h
  · split at h
    · cases h
    · split at h
      · cases h
      · split at h
        · cases h
        · rename_i ht
          cases h; exact ⟨rfl, rfl, _, ht⟩
theorem RSt.on {w wr w' : World} {p : Nat} {v : Value} {S : List Sy} {q : Rn} (h : RSt w wr p v S q) (o : Out wr w') : RSt w w' p v S q := ⟨own_at h.own o, h.out.trans o, h.rb.out o, h.ge⟩
theorem RSt.take {w wr w' : World} {p : Nat} {v : Value} {S : List Sy} {q q' : Rn} (h : RSt w wr p v S q) (c : Chg (fun k => k = p) wr w') (r : RB w' p q') : RSt w w' p v S q' := ⟨owns_chg h.own (fun k hk e => own_type h.own (show wr.heap[p]? = _ from h.rb) (by decide) (by rw [← e]; exact hk)) c, Chg.out c h.out (fun k hk => by rw [hk]; exact h.ge), r, h.ge⟩
theorem RSt.push {w wr w' : World} {p : Nat} {v v' : Value} {S : List Sy} {q : Rn} {s : Sy} (h : RSt w wr p v S q) (ho : w'.ownsRow w.heap.size 57 6 v' (S.length + 1) (syV S ++ s.cs)) (hg : wr.grownBy w' v.ownBlock) : RSt w w' p v' (S ++ [s]) q := by
  have hc : Chg (fun k => v.ownBlock = some k) wr w' := Chg.of_grown hg (fun k hk => hk)
  refine ⟨?_, Chg.out hc h.out (fun k hk => (World.ownsRow.lt h.own k hk).1), ?_, h.ge⟩
  · unfold OwS
    rw [syV_app, List.length_append]
    simpa [syV] using ho
  · exact (hc.block p h.rb.lt (own_type h.own (show wr.heap[p]? = _ from h.rb) (by decide))).trans h.rb
end Go.Proofs.Ytbdmbicnlfcclaa
