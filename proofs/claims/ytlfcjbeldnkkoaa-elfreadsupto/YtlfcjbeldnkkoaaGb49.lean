import Derived.Test.YtlfcjbeldnkkoaaGb48
import Derived.Test.YtlfcjbeldnkkoaaGb18
namespace Go.Proofs.Ytlfcjbeldnkkoaa
open Go.RowKit
set_option linter.unusedVariables false
set_option linter.unusedSimpArgs false
theorem step_append_own9 {P : Program} {w : World} {ops : Array Oper} {o : Oper} {a : Act} {K : Act → World → Prop} {Q : Exit → Act → World → Prop} {E : Prop} (hgd : o.guard = none) (s x : Operand) (t : TypeId)
    (ho : o.op = .call { callee := .builtin .append, args := #[s, x], argTypes := #[t, t] })
    (base : Nat) (e : TypeId) (i : TypeInfo) (z : Value) (size bytes : Nat) (ht : P.underlying t = some (.slice e)) (hi : P.info? e = some i) (hz : i.zero = some z)
    (hsize : i.size = size) (hby : i.bytes = bytes) (hzs : z.cells.size = size) (hsz : 0 < size)
    (v : Value) (n : Nat) (xs : List Value) (hs : a.eval s = v) (hown : w.ownsRow base e size v n xs)
    (ad : Addr) (m c : Nat) (news : List Value) (hx : a.eval x = .slice (some ad) m c) (hl : news.length = m * size) (hnews : ∀ j u, news[j]? = some u → w.cell? (ad.add j) = some u) (h1 : ∀ u ∈ news, u.oneCell' = true)
    (h63 : n + m ≤ maxLen) (hbytes : (n + m) * bytes ≤ 140737488355328) (hbase : base ≤ w.heap.size)
    (h : ∀ v' w', w'.ownsRow base e size v' (n + m) (xs ++ news) → w.grownBy w' v.ownBlock → (v' = .slice none 0 0 ↔ v = .slice none 0 0 ∧ m = 0) → K (a.put o.dst v') w') :
    if Region.wanted o (yielded ops a.tmps) = true then Oper.wp P o a w K Q else E := by
  have hw : Region.wanted o (yielded ops a.tmps) = true := by simp [Region.wanted, hgd]
  rw [if_pos hw]
  exact wp_append_own w s x t ho base e i z size bytes ht hi hz hsize hby hzs hsz v n xs hs hown ad m c news hx hl hnews h1 h63 hbytes hbase h
/-- an entry's section, as the reference reads it -/
theorem sec_at {b : List UInt8} {T k : Nat} {E : List En} {nb : En} (r : Rdg b T k E nb) (hT8 : T % 8 = 0) (hTb : T ≤ 1000000000000) {i : Nat} {e : En} (he : E[i]? = some e) (hi : 1 ≤ i) (hne : ¬ T + 64 * i + 64 = b.length) : e.ty = (fB b (T + 64 * i + 4) 4 : Nat) ∧ e.fl = atP b (T + 64 * i + 8) 8 ∧ e.li = (fB b (T + 64 * i + 40) 4 : Nat) ∧ e.inf = (fB b (T + 64 * i + 44) 4 : Nat) ∧ e.al = atP b (T + 64 * i + 48) 8 ∧ e.es = atP b (T + 64 * i + 56) 8 := by
  obtain ⟨bg, h1, h2⟩ := tk_atR b T k T 64 E r.ok i e he
  rw [row_flt] at h2
  have k4 := fB_lt b (T + 64 * i + 4) 4 (by omega)
  have k40 := fB_lt b (T + 64 * i + 40) 4 (by omega)
  have k44 := fB_lt b (T + 64 * i + 44) 4 (by omega)
  have hrw : rowW T b.length (T + 64 * i) bg = rowM T bg := by
    unfold rowW
    rw [if_neg (by omega), if_neg hne]
  rw [hrw] at h2
  have jl : jw 9223372036854775807 = 9223372036854775807 := by decide
  unfold rowM at h2
  simp only [jl] at h2
  repeat (first | (split at h2; · cases h2))
  rename_i c0 c1 c2 c3 c4 c5 c6 c7 c8 c9
  have a8 := atP8 b (T + 64 * i + 8)
  have a48 := atP8 b (T + 64 * i + 48)
  have a56 := atP8 b (T + 64 * i + 56)
  rw [h1]
  refine ⟨?_, ?_, ?_, ?_, ?_, ?_⟩
  · show fldI (rowB b (T + 64 * i)) 4 4 = _
    rw [fld_of b (T + 64 * i) 4 4 (by omega) (by omega)]
  · show fldI (rowB b (T + 64 * i)) 8 8 = _
    rw [fld_of b (T + 64 * i) 8 8 (by omega) (by omega)]
    omega
  · show fldI (rowB b (T + 64 * i)) 40 4 = _
    rw [fld_of b (T + 64 * i) 40 4 (by omega) (by omega)]
  · show fldI (rowB b (T + 64 * i)) 44 4 = _
    rw [fld_of b (T + 64 * i) 44 4 (by omega) (by omega)]
  · show fldI (rowB b (T + 64 * i)) 48 8 = _
    rw [fld_of b (T + 64 * i) 48 8 (by omega) (by omega)]
    omega
  · show fldI (rowB b (T + 64 * i)) 56 8 = _
    rw [fld_of b (T + 64 * i) 56 8 (by omega) (by omega)]
    omega
end Go.Proofs.Ytlfcjbeldnkkoaa
namespace Go.Proofs.Ytlfcjbeldnkkoaa
open Go.RowKit
set_option linter.unusedVariables false
set_option linter.unusedSimpArgs false
theorem rread9_short (w : World) (a : Option Addr) (n c : Nat) (hn : n < 64) : Calls Try.prog 11 #[.slice a n c] w fun e w' => e = .returned (.tuple #[.slice none 0 0, .int .i64 n, .int .i64 90]) ∧ w' = w := by
  have hnI : (n : Int) < 64 := by omega
  go_enter Try.func11, Try.ntmps11
  go_wp2
  go_ret3
  exact ⟨rfl, rfl⟩
theorem rread9_head (w : World) (g off c : Nat) (b : List UInt8) (hB : Bin w g off c b) (h64 : 64 ≤ b.length) (a : Nat) (h : hdFlt b = some a) : Calls Try.prog 11 #[.slice (some ⟨g, off, none⟩) b.length c] w fun e w' => e = .returned (.tuple #[.slice none 0 0, .int .i64 (a : Int), .int .i64 91]) ∧ Out w w' := by
  have CH := hidOf (headed9_any w g off c b hB.lt hB.at_ hB.cap h64 hB.big)
  rw [hdRes_some h] at CH
  have h64I : ¬ (b.length : Int) < 64 := by omega
  have ha : (0 : Int) ≤ a := by omega
  clear hB h
  go_enter Try.func11, Try.ntmps11
  go_wp2_with (go_at_call 34; refine CH.out.mono ?_; rintro e w1 ⟨rfl, ho⟩; have O1 := hidOf ho; clear ho)
  go_ret3
  exact ⟨rfl, O1.out⟩
end Go.Proofs.Ytlfcjbeldnkkoaa
