import Derived.Test.YthififblejbleaaGreatDoorHy00
import Derived.Shelf.Strings.Trim
import Derived.Shelf.Small.Utf8
import Derived.Shelf.Small.Strs
import Derived.Shelf.Small.Wraps
import Derived.Shelf.LaysM
import Derived.Shelf.Strconv.Clone
import Derived.Shelf.Strings.Search1
import Derived.Shelf.Strings.Runes
import Derived.Shelf.Strings.AsciiSet
import Derived.Shelf.Unicode.DecodeSlow
import Derived.Shelf.Unicode.DecodeAny
import Derived.Ground.Names2Prog
import Derived.Shelf.Slices.SearchI
import Derived.Shelf.Slices.Empties
import Derived.Shelf.Bytes.SlIndexAt
import Derived.Shelf.Bytes.SlSearch0
import Derived.Shelf.Bytes.IndexByte
namespace Go.Proofs
open Go.Shelf
def Tryz.lays161_ren : Go.Shelf.Ren := ⟨fun | 161 => 120 | 231 => 124 | 227 => 125 | 233 => 126 | 235 => 127 | 228 => 131 | 197 => 132 | 151 => 133 | 260 => 135 | 152 => 136 | 137 => 114 | 119 => 137 | 224 => 138 | 225 => 139 | 217 => 121 | 266 => 128 | n => n, fun | 9 => 9 | 4 => 4 | 3 => 3 | 5 => 5 | 117 => 187 | 116 => 186 | 0 => 0 | 124 => 190 | 105 => 193 | 21 => 21 | 119 => 197 | 46 => 110 | 139 => 200 | 138 => 199 | n => n, fun | 3 => 3 | 4 => 4 | n => n⟩
theorem Tryz.lays161 : Go.Proofs.Lays.n161 Tryz.prog Tryz.lays161_ren := {
  mixed := by kernel_rfl
  f119 := Tryz.func137.trans (congrArg some (by kernel_rfl))
  f137 := Tryz.func114.trans (congrArg some (by kernel_rfl))
  f151 := Tryz.func133.trans (congrArg some (by kernel_rfl))
  f152 := Tryz.func136.trans (congrArg some (by kernel_rfl))
  f161 := Tryz.func120.trans (congrArg some (by kernel_rfl))
  f197 := Tryz.func132.trans (congrArg some (by kernel_rfl))
  f217 := Tryz.func121.trans (congrArg some (by kernel_rfl))
  f224 := Tryz.func138.trans (congrArg some (by kernel_rfl))
  f225 := Tryz.func139.trans (congrArg some (by kernel_rfl))
  f227 := Tryz.func125.trans (congrArg some (by kernel_rfl))
  f228 := Tryz.func131.trans (congrArg some (by kernel_rfl))
  f231 := Tryz.func124.trans (congrArg some (by kernel_rfl))
  f233 := Tryz.func126.trans (congrArg some (by kernel_rfl))
  f235 := Tryz.func127.trans (congrArg some (by kernel_rfl))
  f260 := Tryz.func135.trans (congrArg some (by kernel_rfl))
  f266 := Tryz.func128.trans (congrArg some (by kernel_rfl))
  t0 := Tryz.underlying0
  a0 := Tryz.isAgg0
  z0 := Tryz.sizeOf0
  v0 := Tryz.zeroValue0
  t3 := Tryz.underlying3
  a3 := Tryz.isAgg3
  z3 := Tryz.sizeOf3
  v3 := Tryz.zeroValue3
  t4 := Tryz.underlying4
  a4 := Tryz.isAgg4
  z4 := Tryz.sizeOf4
  v4 := Tryz.zeroValue4
  t5 := Tryz.underlying5
  a5 := Tryz.isAgg5
  z5 := Tryz.sizeOf5
  v5 := Tryz.zeroValue5
  t9 := Tryz.underlying9
  a9 := Tryz.isAgg9
  z9 := Tryz.sizeOf9
  v9 := Tryz.zeroValue9
  t21 := Tryz.underlying21
  a21 := Tryz.isAgg21
  z21 := Tryz.sizeOf21
  v21 := Tryz.zeroValue21
  t46 := Tryz.underlying110
  a46 := Tryz.isAgg110
  z46 := Tryz.sizeOf110
  v46 := Tryz.zeroValue110
  t105 := Tryz.underlying193
  a105 := Tryz.isAgg193
  z105 := Tryz.sizeOf193
  v105 := Tryz.zeroValue193
  t116 := Tryz.underlying186
  a116 := Tryz.isAgg186
  z116 := Tryz.sizeOf186
  t117 := Tryz.underlying187
  a117 := Tryz.isAgg187
  z117 := Tryz.sizeOf187
  v117 := Tryz.zeroValue187
  t119 := Tryz.underlying197
  a119 := Tryz.isAgg197
  z119 := Tryz.sizeOf197
  t124 := Tryz.underlying190
  a124 := Tryz.isAgg190
  z124 := Tryz.sizeOf190
  v124 := Tryz.zeroValue190
  t138 := Tryz.underlying199
  a138 := Tryz.isAgg199
  z138 := Tryz.sizeOf199
  v138 := Tryz.zeroValue199
  t139 := Tryz.underlying200
  a139 := Tryz.isAgg200
  z139 := Tryz.sizeOf200
  v139 := Tryz.zeroValue200
  g3 := by kernel_rfl
  g4 := by kernel_rfl }
def Tryz.lays137_ren : Go.Shelf.Ren := ⟨fun | 137 => 114 | 217 => 121 | 266 => 128 | n => n, fun | 9 => 9 | 5 => 5 | 3 => 3 | n => n, fun | n => n⟩
theorem Tryz.lays137 : Go.Proofs.Lays.n137 Tryz.prog Tryz.lays137_ren := {
  mixed := by kernel_rfl
  f137 := Tryz.func114.trans (congrArg some (by kernel_rfl))
  f217 := Tryz.func121.trans (congrArg some (by kernel_rfl))
  f266 := Tryz.func128.trans (congrArg some (by kernel_rfl))
  t3 := Tryz.underlying3
  a3 := Tryz.isAgg3
  z3 := Tryz.sizeOf3
  v3 := Tryz.zeroValue3
  t5 := Tryz.underlying5
  a5 := Tryz.isAgg5
  z5 := Tryz.sizeOf5
  v5 := Tryz.zeroValue5
  t9 := Tryz.underlying9
  a9 := Tryz.isAgg9
  z9 := Tryz.sizeOf9
  v9 := Tryz.zeroValue9 }
open Go.RowKit in
theorem Tryz.strings_IndexByte (s : ByteArray) (c : Int) (w : World) :
    Calls Tryz.prog 114 #[.string s, .int .u8 c] w fun e w' => e = .returned (.int .i64 (Lib.indexByte s.data.toList c.toNat.toUInt8)) ∧ w' = w := Any.strings_IndexByte Tryz.lays137 s c w
def Tryz.laysM316_ren : Go.Shelf.Ren := ⟨fun | 316 => 115 | n => n, fun | 9 => 9 | 3 => 3 | 4 => 4 | 37 => 27 | 0 => 0 | 127 => 180 | 5 => 5 | n => n, fun | n => n⟩
theorem Tryz.laysM316 : Go.Proofs.LaysM.n316 Tryz.prog Tryz.laysM316_ren := {
  mixed := by kernel_rfl
  f316 := Tryz.func115.trans (congrArg some (by kernel_rfl))
  t0 := Tryz.underlying0
  a0 := Tryz.isAgg0
  z0 := Tryz.sizeOf0
  v0 := Tryz.zeroValue0
  t3 := Tryz.underlying3
  a3 := Tryz.isAgg3
  z3 := Tryz.sizeOf3
  v3 := Tryz.zeroValue3
  t4 := Tryz.underlying4
  a4 := Tryz.isAgg4
  z4 := Tryz.sizeOf4
  v4 := Tryz.zeroValue4
  t9 := Tryz.underlying9
  a9 := Tryz.isAgg9
  z9 := Tryz.sizeOf9
  v9 := Tryz.zeroValue9
  t37 := Tryz.underlying27
  a37 := Tryz.isAgg27
  z37 := Tryz.sizeOf27
  v37 := Tryz.zeroValue27
  t127 := Tryz.underlying180
  a127 := Tryz.isAgg180
  z127 := Tryz.sizeOf180
  v127 := Tryz.zeroValue180
  t5 := Tryz.underlying5
  a5 := Tryz.isAgg5
  z5 := Tryz.sizeOf5
  v5 := Tryz.zeroValue5
  i0 := by kernel_rfl
  i3 := by kernel_rfl
  i4 := by kernel_rfl
  i5 := by kernel_rfl
  i9 := by kernel_rfl
  i37 := by kernel_rfl
  i127 := by kernel_rfl }
open Go.RowKit in
theorem Tryz.stringslite_Clone (s : ByteArray) (w : World) (hlim : s.size ≤ 281474976710656) :
    Calls Tryz.prog 115 #[.string s] w fun e w' => e = .returned (.string s) ∧ Below w.heap.size w w' := Any.stringslite_Clone Tryz.laysM316 s w hlim
def Tryz.laysNm225_ren : Go.Shelf.Ren := ⟨fun | 25 => 123 | 31 => 129 | 32 => 130 | 37 => 134 | n => n, fun | 22 => 34 | 3 => 3 | 4 => 4 | 40 => 110 | 0 => 0 | n => n, fun | n => n⟩
theorem Tryz.laysNm225 : Go.Proofs.Lays2.n25 Tryz.prog Tryz.laysNm225_ren := {
  mixed := by kernel_rfl
  f25 := Tryz.func123.trans (congrArg some (by kernel_rfl))
  f31 := Tryz.func129.trans (congrArg some (by kernel_rfl))
  f32 := Tryz.func130.trans (congrArg some (by kernel_rfl))
  f37 := Tryz.func134.trans (congrArg some (by kernel_rfl))
  t0 := Tryz.underlying0
  a0 := Tryz.isAgg0
  z0 := Tryz.sizeOf0
  v0 := Tryz.zeroValue0
  t3 := Tryz.underlying3
  a3 := Tryz.isAgg3
  z3 := Tryz.sizeOf3
  v3 := Tryz.zeroValue3
  t4 := Tryz.underlying4
  a4 := Tryz.isAgg4
  z4 := Tryz.sizeOf4
  v4 := Tryz.zeroValue4
  t22 := Tryz.underlying34
  a22 := Tryz.isAgg34
  z22 := Tryz.sizeOf34
  v22 := Tryz.zeroValue34
  t40 := Tryz.underlying110
  a40 := Tryz.isAgg110
  z40 := Tryz.sizeOf110
  v40 := Tryz.zeroValue110 }
open Go.RowKit Go.Lib in
theorem Tryz.slices_BinarySearch_int (b off n c : Nat) (zs : List Int) (x : Int) (w : World) (hz : n ≤ zs.length) (hbig : n < 4611686018427387904) (hc : ∀ j, j < zs.length → w.cell? ⟨b, off + j, none⟩ = some (.int .i64 (zs.getD j 0))) (hs : (zs.take n).Pairwise (· ≤ ·)) :
    Calls Tryz.prog 123 #[.slice (some ⟨b, off, none⟩) n c, .int .i64 x] w fun e w' => e = .returned (.tuple #[.int .i64 ((zs.take n).countP (· < x) : Nat), .bool ((zs.take n).contains x)]) ∧ ∃ q, w' = w.drewN q := Any.slices_BinarySearch_int Tryz.laysNm225 b off n c zs x w hz hbig hc hs
open Go.RowKit Go.Lib in
theorem Tryz.slices_BinarySearch_int_empty (a : Option Addr) (c : Nat) (x : Int) (w : World) :
    Calls Tryz.prog 123 #[.slice a 0 c, .int .i64 x] w fun e w' => e = .returned (.tuple #[.int .i64 0, .bool false]) ∧ w' = w := Any.slices_BinarySearch_int_empty Tryz.laysNm225 a c x w
def Tryz.lays187_ren : Go.Shelf.Ren := ⟨fun | 187 => 118 | 255 => 122 | n => n, fun | 37 => 27 | 5 => 5 | 3 => 3 | n => n, fun | n => n⟩
theorem Tryz.lays187 : Go.Proofs.Lays.n187 Tryz.prog Tryz.lays187_ren := {
  mixed := by kernel_rfl
  f187 := Tryz.func118.trans (congrArg some (by kernel_rfl))
  f255 := Tryz.func122.trans (congrArg some (by kernel_rfl))
  t3 := Tryz.underlying3
  a3 := Tryz.isAgg3
  z3 := Tryz.sizeOf3
  v3 := Tryz.zeroValue3
  t5 := Tryz.underlying5
  a5 := Tryz.isAgg5
  z5 := Tryz.sizeOf5
  v5 := Tryz.zeroValue5
  t37 := Tryz.underlying27
  a37 := Tryz.isAgg27
  z37 := Tryz.sizeOf27
  v37 := Tryz.zeroValue27 }
theorem Tryz.bytes_IndexByte (b o n c : Nat) (xs : List Int) (cv : Int) (w : World) (hx : xs.length = n) (hc : ∀ i, i < n → w.cell? ⟨b, o + i, none⟩ = some (.int .u8 (xs.getD i 0))) :
    Calls Tryz.prog 118 #[.slice (some ⟨b, o, none⟩) n c, .int .u8 cv] w fun e w' => e = .returned (.int .i64 (Lib.indexByte (Lib.bytesOf xs) cv.toNat.toUInt8)) ∧ w' = w := Any.bytes_IndexByte Tryz.lays187 b o n c xs cv w hx hc
end Go.Proofs
namespace Go.Proofs.YthififblejbleaaGreatDoor
open Go.RowKit
open Go.Maps (Keyed)
set_option linter.unusedVariables false
set_option linter.unusedSimpArgs false
theorem own_cell {B n : Nat} {w : World} {e : TypeId} {v : Value} {xs : List Value} (h : w.ownsRow B e 1 v n xs) {k : Nat} {u : Value} (hk : xs[k]? = some u) : ∃ g cap, v = .slice (some ⟨g, 0, none⟩) n cap ∧ n ≤ cap ∧ w.cell? ⟨g, k, none⟩ = some u := by
  rcases h.2 with ⟨rfl, rfl⟩ | ⟨g, cap, cur, rfl, hb, hg, hc, _⟩
  · have := h.1; simp at this; rw [this] at hk; simp at hk
  · refine ⟨g, cap, rfl, hc, ?_⟩
    have := World.ownsRow.cells h (g := g) rfl k u hk
    rwa [WideShapes.add_plain, Nat.zero_add] at this
theorem list_cases {α : Type} (l : List α) : l = [] ∨ ∃ M x, l = M ++ [x] := by
  rcases List.eq_nil_or_concat l with h | ⟨M, x, h⟩
  · exact .inl h
  · exact .inr ⟨M, x, by simpa using h⟩
theorem size_any (p : Nat) (w : World) (N C : List (List UInt8)) (nv sv mv : Value) (h : T3 p w N N C nv sv mv) (hb : szF 1 N ≤ 1000000000000) :
    Calls Tryz.prog 106 #[.pointer (some ⟨p, 0, none⟩)] w fun e w' => e = .returned (.int .i64 (szF 1 N : Nat)) ∧ ∃ n, w' = w.drewN n := by
  have c0 : w.cell? ⟨p, 0, none⟩ = some nv := h.cell 0
  have c1 : w.cell? ⟨p, 1, none⟩ = some sv := h.cell 1
  rcases list_cases N with rfl | ⟨M, x, rfl⟩
  · obtain ⟨ad, cp, rfl⟩ := own_form h.nm
    simp only [List.length_nil] at c0
    go_enter Tryz.func106, Tryz.ntmps106
    go_wp2
    go_ret
    exact ⟨rfl, 0, rfl⟩
  · obtain ⟨g, cap, rfl, hc1, d1⟩ := own_cell h.nm (k := M.length) (u := strV x) (by simp)
    obtain ⟨g2, cap2, rfl, hc2, d2⟩ := own_cell h.st (k := M.length) (u := .int .i64 (szF 1 M : Nat)) (by rw [stF_snoc, List.map_append, List.getElem?_append_right (by simp [stF_len])]; simp [stF_len])
    rw [szF_snoc] at hb ⊢
    have hM := szF_ge M 1
    simp only [List.length_append, List.length_cons, List.length_nil, Nat.zero_add] at c0 c1 hc1 hc2
    simp only [strV] at d1
    have hx : (⟨x.toArray⟩ : ByteArray).size = x.length := mk_size x
    generalize szF 1 M = s at *
    generalize M.length = n at *
    clear h
    have hn1 : (n : Int) ≤ 1000000000000 := by omega
    have hs1 : (s : Int) ≤ 1000000000000 := by omega
    have hl1 : (x.length : Int) ≤ 1000000000000 := by omega
    have hs0 : (0 : Int) ≤ s := by omega
    go_enter Tryz.func106, Tryz.ntmps106
    go_wp2_with (go_quiet (fail))
    go_ret
    exact ⟨rfl, _, rfl⟩
def PEnd (p : Nat) (w : World) (N' : List (List UInt8)) (nv sv mv : Value) (w' : World) : Prop := ∃ nv' sv' mv', T3 p w' N' N' N' nv' sv' mv' ∧ Chg (fp p nv sv mv) w w' ∧ ∀ k, fp p nv' sv' mv' k → fp p nv sv mv k ∨ w.heap.size ≤ k
theorem mk0 (w : World) : (Instr.makeMap 156 none).run Tryz.prog w = .ok (.map (some w.heap.size)) (w.alloc (.map #[] 0)) := by kernel_rfl
theorem str_one (x : List UInt8) : ∀ u ∈ [strV x], u.oneCell' = true := by intro u hu; simp at hu; subst hu; rfl
theorem int_one (x : Int) : ∀ u ∈ [Value.int .i64 x], u.oneCell' = true := by intro u hu; simp at hu; subst hu; rfl
theorem pe_int (x : Nat) (h : x ≤ 1000000000000) : PE (.int .i64 x) = some (.lit (.int .i64 x), []) := by
  have h1 : (IntKind.i64.min ≤ (x : Int)) := by rw [show IntKind.i64.min = -9223372036854775808 by rfl]; omega
  have h2 : ((x : Int) ≤ IntKind.i64.max) := by rw [show IntKind.i64.max = 9223372036854775807 by rfl]; omega
  exact plainElem_int Tryz.underlying3 (by simp only [Lit.wf, decide_eq_true h1, decide_eq_true h2]; rfl)
theorem Chg.of_drewN {S : Nat → Prop} {a w : World} (h : Chg S a w) (n : Nat) : Chg S a (w.drewN n) := ⟨h.os, h.tape, h.output, h.size, h.block⟩
theorem snoc_one (N : List (List UInt8)) (x : List UInt8) : (N ++ [x]).length = N.length + 1 := by simp
def InF (w : World) (O C : Nat → Prop) : Prop := ∀ k, C k → O k ∨ w.heap.size ≤ k
theorem InF.chg {w a b : World} {O C : Nat → Prop} (h : InF w O C) (h1 : Chg O w a) (h2 : Chg C a b) : Chg O w b := h1.trans h2 (fun k hk hl => (h k hk).resolve_right (by omega))
theorem in_names {w : World} {O : Nat → Prop} {p g n c : Nat} {nv sv mv : Value} (h : InF w O (fp p nv sv mv)) (hg : nv.ownBlock = some g ∨ w.heap.size ≤ g) : InF w O (fp p (.slice (some ⟨g, 0, none⟩) n c) sv mv) := fun k hk => by
  rcases hk with hk | hk | hk | hk
  · exact h k (.inl hk)
  · simp [Value.ownBlock] at hk
    subst hk
    rcases hg with hg | hg
    · exact h g (.inr (.inl hg))
    · exact .inr hg
  · exact h k (.inr (.inr (.inl hk)))
  · exact h k (.inr (.inr (.inr hk)))
theorem in_starts {w : World} {O : Nat → Prop} {p g n c : Nat} {nv sv mv : Value} (h : InF w O (fp p nv sv mv)) (hg : sv.ownBlock = some g ∨ w.heap.size ≤ g) : InF w O (fp p nv (.slice (some ⟨g, 0, none⟩) n c) mv) := fun k hk => by
  rcases hk with hk | hk | hk | hk
  · exact h k (.inl hk)
  · exact h k (.inr (.inl hk))
  · simp [Value.ownBlock] at hk
    subst hk
    rcases hg with hg | hg
    · exact h g (.inr (.inr (.inl hg)))
    · exact .inr hg
  · exact h k (.inr (.inr (.inr hk)))
theorem fp_in {p b : Nat} {w : World} {nv sv mv : Value} (h : mapBlk mv = some b ∨ b = w.heap.size) : InF w (fp p nv sv mv) (fp p nv sv (.map (some b))) := fun k hk => by
  rcases hk with hk | hk | hk | hk
  · exact .inl (.inl hk)
  · exact .inl (.inr (.inl hk))
  · exact .inl (.inr (.inr (.inl hk)))
  · rcases h with h | h
    · exact .inl (.inr (.inr (.inr (by rw [h]; exact hk))))
    · cases hk; exact .inr (by omega)
theorem T3.far {p : Nat} {w w' : World} {O : Obj} {row : Option Nat} {A B C : List (List UInt8)} {nv sv mv : Value} (h : T3 p w A B C nv sv mv) (hg : (w.alloc O).grownBy w' row) (hr : ¬ row = some p) (j : Nat) : w'.frozen? ⟨p, j, none⟩ = false ∧ w'.cell? ⟨p, j, none⟩ = (#[nv, sv, mv] : Array Value)[j]? := by
  have h1 := h.out ((Out.refl _).alloc O)
  exact ⟨(hg.frozen_far ⟨p, j, none⟩ h1.lt (fun e => hr e.symm)).trans (h1.frozen j), (hg.cell_far ⟨p, j, none⟩ h1.lt (fun e => hr e.symm)).trans (h1.cell j)⟩
set_option maxRecDepth 4000 in
set_option maxHeartbeats 2000000 in
theorem push_any (p : Nat) (w : World) (N : List (List UInt8)) (nv sv mv : Value) (x : List UInt8) (h : T3 p w N N N nv sv mv) (hx : ¬ x ∈ N) (hb : szF 1 N ≤ 1000000000000) (hl : x.length ≤ 1000000000000) :
    Calls Tryz.prog 104 #[.pointer (some ⟨p, 0, none⟩), .string ⟨x.toArray⟩] w fun e w' => e = .returned (.int .i64 (szF 1 N : Nat)) ∧ PEnd p w (N ++ [x]) nv sv mv w' := by
  have hn := szF_ge N 1
  obtain ⟨i0, hi, hz0, hz1, hz2⟩ := info_parts infoStr
  obtain ⟨j0, hj, hy0, hy1, hy2⟩ := info_parts infoInt
  obtain ⟨ad, cp, rfl⟩ := own_form h.nm
  obtain ⟨ad2, cp2, rfl⟩ := own_form h.st
  have c2 : w.cell? ⟨p, 2, none⟩ = some mv := h.cell 2
  have f2 := h.frozen 2
  have f2' : ∀ O, (w.alloc O).frozen? ⟨p, 2, none⟩ = false := fun O => (h.out ((Out.refl _).alloc O)).frozen 2
  have c2' : ∀ O, (w.alloc O).cell? ⟨p, 2, none⟩ = some mv := fun O => (h.out ((Out.refl _).alloc O)).cell 2
  have hk := keyOf_tx x hl
  have Hpe := hidOf (pe_int (szF 1 N) hb)
  have H := hidOf h
  have HX := hidOf hx
  have key : ∃ (b : Nat) (wm : World), Hid (T3 p wm N N N (.slice ad N.length cp) (.slice ad2 N.length cp2) (.map (some b)) ∧ Chg (fp p (.slice ad N.length cp) (.slice ad2 N.length cp2) mv) w wm ∧ (mapBlk mv = some b ∨ b = w.heap.size)) ∧ Hid ((mv = .map (some b) ∧ wm = w) ∨ (mv = .map none ∧ wm = (w.alloc (.map #[] 0)).setCell ⟨p, 2, none⟩ (.map (some w.heap.size)))) := by
    rcases h.mp with ⟨rfl, rfl⟩ | ⟨b, D, rfl, ho, hm⟩
    · obtain ⟨a1, a2⟩ := h.made
      exact ⟨_, _, ⟨a1, a2, .inr rfl⟩, .inr ⟨rfl, rfl⟩⟩
    · exact ⟨b, w, ⟨h, Chg.refl _ w, .inl rfl⟩, .inl ⟨rfl, rfl⟩⟩
  obtain ⟨b, wm, HM, HC⟩ := key
  have HS := hidOf (size_any p wm N N _ _ _ HM.out.1 hb)
  clear h hx
  have HL := hidOf (snoc_one N x)
  obtain ⟨n, hnl⟩ : ∃ n, n = N.length := ⟨_, rfl⟩
  have Hnl := hidOf hnl
  have hn1 : n ≤ 1000000000000 := by omega
  rw [← hnl] at H HM
  clear hn hnl hb
  have hmn : ∀ (w : World) (r : Option Nat), (binOp .eql 156 (.map r) (.map none)).run Tryz.prog w = .ok (.bool r.isNone) w := fun w r => run_eql_map_nil w _ _ _ r Tryz.underlying156
  go_enter Tryz.func104, Tryz.ntmps104
  rcases HC.out with ⟨hmv, hwm⟩ | ⟨hmv, hwm⟩
  · rw [hmv] at c2 c2'
    have HW := hidOf hwm
    clear hmv hwm HC
    go_upto_region 4 with (go_at_call 106; rw [← HW.out]; refine (HS.out).mono ?_; rintro e w1 ⟨rfl, nd, rfl⟩)
    have H1 : Hid (T3 p (wm.drewN nd) N N N (.slice ad n cp) (.slice ad2 n cp2) (.map (some b))) := HM.out.1.out ((Out.refl _).drewN nd)
    have C1 : Hid (Chg (fp p (.slice ad n cp) (.slice ad2 n cp2) mv) w (wm.drewN nd)) := HM.out.2.1.of_drewN nd
    have Hb := hidOf HM.out.2.2
    clear c2 f2 c2' f2' HS HM HW H
    generalize wm.drewN nd = w1 at *
    have a0 : ∀ O, (w1.alloc O).cell? ⟨p, 0, none⟩ = some (.slice ad n cp) := fun O => (H1.out.out ((Out.refl _).alloc O)).cell 0
    have a0' : w1.cell? ⟨p, 0, none⟩ = some (.slice ad n cp) := H1.out.cell 0
    have HN1 : Hid (∀ O, (w1.alloc O).ownsRow 0 9 1 (.slice ad n cp) n (N.map strV)) := hidOf (fun O => by rw [Hnl.out]; have := (H1.out.out ((Out.refl _).alloc O)).nm; rw [Hnl.out] at this; exact this)
    go_upto_region 5 with (at_builtin; refine wpList_append_lies _ rfl (.tmp 21) (.tmp 23) 56 rfl 0 9 i0 _ 1 16 Tryz.underlying56 hi hz0 hz1 hz2 rfl (by decide) (.slice ad n cp) n (N.map strV) rfl (HN1.out _) ⟨w1.heap.size, 0, none⟩ 1 1 [.string ⟨x.toArray⟩] rfl rfl (news_new w1 _ _ _ rfl) (str_one x) (by decide) (by unfold maxLen; omega) (by omega) (Nat.zero_le _) _ rfl ?_; intro g3 cap3 w3 hown3 hgrow3 hg3 hlt3; have HO3 := hidOf hown3; have HG3 := hidOf hgrow3; have HH3 := hidOf hg3; obtain ⟨f3, q3⟩ := H1.out.far hgrow3 H1.out.np 0; clear hown3 hgrow3 hg3 hlt3)
    have H4 : Hid (T3 p (w3.setCell ⟨p, 0, none⟩ (.slice (some ⟨g3, 0, none⟩) (n + 1) cap3)) (N ++ [x]) N N (.slice (some ⟨g3, 0, none⟩) (n + 1) cap3) (.slice ad2 n cp2) (.map (some b)) ∧ Chg (fp p (.slice ad n cp) (.slice ad2 n cp2) (.map (some b))) _ (w3.setCell ⟨p, 0, none⟩ (.slice (some ⟨g3, 0, none⟩) (n + 1) cap3))) := (H1.out.out ((Out.refl _).alloc _)).names HG3.out (by rw [Hnl.out]) (by rw [← Hnl.out]; exact HO3.out) HH3.out
    have I1 := hidOf (fp_in (p := p) (nv := .slice ad n cp) (sv := .slice ad2 n cp2) Hb.out)
    have C4 := hidOf (I1.out.chg (C1.out.alloc _) H4.out.2)
    have I4 : Hid (InF w (fp p (.slice ad n cp) (.slice ad2 n cp2) mv) (fp p (.slice (some ⟨g3, 0, none⟩) (n + 1) cap3) (.slice ad2 n cp2) (.map (some b)))) := in_names I1.out (HH3.out.imp id (fun h => by rw [h, size_alloc]; have := C1.out.size; omega))
    have T4 := hidOf H4.out.1
    clear H4 HO3 HG3 HH3 f3 q3 a0 a0' HN1
    generalize w3.setCell ⟨p, 0, none⟩ (.slice (some ⟨g3, 0, none⟩) (n + 1) cap3) = w4 at *
    have a1 : ∀ O, (w4.alloc O).cell? ⟨p, 1, none⟩ = some (.slice ad2 n cp2) := fun O => (T4.out.out ((Out.refl _).alloc O)).cell 1
    have a1' : w4.cell? ⟨p, 1, none⟩ = some (.slice ad2 n cp2) := T4.out.cell 1
    have HN4 : Hid (∀ O, (w4.alloc O).ownsRow 0 3 1 (.slice ad2 n cp2) n ((stF 1 N).map (Value.int .i64))) := hidOf (fun O => by rw [Hnl.out]; have := (T4.out.out ((Out.refl _).alloc O)).st; rw [Hnl.out] at this; exact this)
    go_upto_region 6 with (at_builtin; refine wpList_append_lies _ rfl (.tmp 31) (.tmp 33) 34 rfl 0 3 j0 _ 1 8 Tryz.underlying34 hj hy0 hy1 hy2 rfl (by decide) (.slice ad2 n cp2) n ((stF 1 N).map (Value.int .i64)) rfl (HN4.out _) ⟨w4.heap.size, 0, none⟩ 1 1 [.int .i64 (szF 1 N : Nat)] rfl rfl (news_new w4 _ _ _ rfl) (int_one _) (by decide) (by unfold maxLen; omega) (by omega) (Nat.zero_le _) _ rfl ?_; intro g5 cap5 w5 hown5 hgrow5 hg5 hlt5; have HO5 := hidOf hown5; have HG5 := hidOf hgrow5; have HH5 := hidOf hg5; obtain ⟨f5, q5⟩ := T4.out.far hgrow5 T4.out.sp 1; clear hown5 hgrow5 hg5 hlt5)
    have H6 : Hid (T3 p (w5.setCell ⟨p, 1, none⟩ (.slice (some ⟨g5, 0, none⟩) (n + 1) cap5)) (N ++ [x]) (N ++ [x]) N (.slice (some ⟨g3, 0, none⟩) (n + 1) cap3) (.slice (some ⟨g5, 0, none⟩) (n + 1) cap5) (.map (some b)) ∧ Chg (fp p (.slice (some ⟨g3, 0, none⟩) (n + 1) cap3) (.slice ad2 n cp2) (.map (some b))) _ (w5.setCell ⟨p, 1, none⟩ (.slice (some ⟨g5, 0, none⟩) (n + 1) cap5))) := (T4.out.out ((Out.refl _).alloc _)).starts HG5.out (by rw [Hnl.out]) (by rw [← Hnl.out]; exact HO5.out) HH5.out
    have C6 := hidOf (I4.out.chg (C4.out.alloc _) H6.out.2)
    have I6 : Hid (InF w (fp p (.slice ad n cp) (.slice ad2 n cp2) mv) (fp p (.slice (some ⟨g3, 0, none⟩) (n + 1) cap3) (.slice (some ⟨g5, 0, none⟩) (n + 1) cap5) (.map (some b)))) := in_starts I4.out (HH5.out.imp id (fun h => by rw [h, size_alloc]; have := C4.out.size; omega))
    have T6 := hidOf H6.out.1
    clear H6 HO5 HG5 HH5 f5 q5 a1 a1' HN4 C4 I4 T4 C1 H1 I1
    generalize w5.setCell ⟨p, 1, none⟩ (.slice (some ⟨g5, 0, none⟩) (n + 1) cap5) = w6 at *
    have a2 : w6.cell? ⟨p, 2, none⟩ = some (.map (some b)) := T6.out.cell 2
    obtain ⟨D, hoD, hmD⟩ : ∃ D, w6.ownsMap Tryz.prog 9 PE b n D ∧ MapIs D N := by
      rcases T6.out.mp with ⟨h, _⟩ | ⟨b', D, h, ho, hm⟩
      · cases h
      · cases h; rw [Hnl.out]; exact ⟨D, ho, hm⟩
    have HD := hidOf hoD
    have HMD := hidOf hmD
    clear hoD hmD
    go_wp2_with (at_mapUpdate; refine wpList_mapUpdate_own _ rfl _ _ _ 156 rfl 9 3 strLaw Tryz.underlying156 PE b n D rfl HD.out (by unfold maxLen; omega) _ _ _ rfl rfl hk (.lit (.int .i64 (szF 1 N : Nat))) [] Hpe.out ?_; intro w7 hown7 hgrow7; have HO7 := hidOf hown7; have HG7 := hidOf hgrow7; clear hown7 hgrow7)
    go_ret
    obtain ⟨t7, c7⟩ := T6.out.put (x := x) HG7.out (by rw [← Hnl.out]; exact HO7.out) (HMD.out.snoc HX.out)
    refine ⟨rfl, _, _, _, t7, ?_, ?_⟩
    · rw [← Hnl.out]; exact I6.out.chg C6.out c7
    · rw [← Hnl.out]; exact I6.out
  · rw [hmv] at c2 c2'
    have HW := hidOf hwm
    clear hmv hwm HC
    have hmk := mk0
    go_upto_region 4 with (go_at_call 106; rw [← HW.out]; refine (HS.out).mono ?_; rintro e w1 ⟨rfl, nd, rfl⟩)
    have H1 : Hid (T3 p (wm.drewN nd) N N N (.slice ad n cp) (.slice ad2 n cp2) (.map (some b))) := HM.out.1.out ((Out.refl _).drewN nd)
    have C1 : Hid (Chg (fp p (.slice ad n cp) (.slice ad2 n cp2) mv) w (wm.drewN nd)) := HM.out.2.1.of_drewN nd
    have Hb := hidOf HM.out.2.2
    clear c2 f2 c2' f2' HS HM HW H
    generalize wm.drewN nd = w1 at *
    have a0 : ∀ O, (w1.alloc O).cell? ⟨p, 0, none⟩ = some (.slice ad n cp) := fun O => (H1.out.out ((Out.refl _).alloc O)).cell 0
    have a0' : w1.cell? ⟨p, 0, none⟩ = some (.slice ad n cp) := H1.out.cell 0
    have HN1 : Hid (∀ O, (w1.alloc O).ownsRow 0 9 1 (.slice ad n cp) n (N.map strV)) := hidOf (fun O => by rw [Hnl.out]; have := (H1.out.out ((Out.refl _).alloc O)).nm; rw [Hnl.out] at this; exact this)
    go_upto_region 5 with (at_builtin; refine wpList_append_lies _ rfl (.tmp 21) (.tmp 23) 56 rfl 0 9 i0 _ 1 16 Tryz.underlying56 hi hz0 hz1 hz2 rfl (by decide) (.slice ad n cp) n (N.map strV) rfl (HN1.out _) ⟨w1.heap.size, 0, none⟩ 1 1 [.string ⟨x.toArray⟩] rfl rfl (news_new w1 _ _ _ rfl) (str_one x) (by decide) (by unfold maxLen; omega) (by omega) (Nat.zero_le _) _ rfl ?_; intro g3 cap3 w3 hown3 hgrow3 hg3 hlt3; have HO3 := hidOf hown3; have HG3 := hidOf hgrow3; have HH3 := hidOf hg3; obtain ⟨f3, q3⟩ := H1.out.far hgrow3 H1.out.np 0; clear hown3 hgrow3 hg3 hlt3)
    have H4 : Hid (T3 p (w3.setCell ⟨p, 0, none⟩ (.slice (some ⟨g3, 0, none⟩) (n + 1) cap3)) (N ++ [x]) N N (.slice (some ⟨g3, 0, none⟩) (n + 1) cap3) (.slice ad2 n cp2) (.map (some b)) ∧ Chg (fp p (.slice ad n cp) (.slice ad2 n cp2) (.map (some b))) _ (w3.setCell ⟨p, 0, none⟩ (.slice (some ⟨g3, 0, none⟩) (n + 1) cap3))) := (H1.out.out ((Out.refl _).alloc _)).names HG3.out (by rw [Hnl.out]) (by rw [← Hnl.out]; exact HO3.out) HH3.out
    have I1 := hidOf (fp_in (p := p) (nv := .slice ad n cp) (sv := .slice ad2 n cp2) Hb.out)
    have C4 := hidOf (I1.out.chg (C1.out.alloc _) H4.out.2)
    have I4 : Hid (InF w (fp p (.slice ad n cp) (.slice ad2 n cp2) mv) (fp p (.slice (some ⟨g3, 0, none⟩) (n + 1) cap3) (.slice ad2 n cp2) (.map (some b)))) := in_names I1.out (HH3.out.imp id (fun h => by rw [h, size_alloc]; have := C1.out.size; omega))
    have T4 := hidOf H4.out.1
    clear H4 HO3 HG3 HH3 f3 q3 a0 a0' HN1
    generalize w3.setCell ⟨p, 0, none⟩ (.slice (some ⟨g3, 0, none⟩) (n + 1) cap3) = w4 at *
    have a1 : ∀ O, (w4.alloc O).cell? ⟨p, 1, none⟩ = some (.slice ad2 n cp2) := fun O => (T4.out.out ((Out.refl _).alloc O)).cell 1
    have a1' : w4.cell? ⟨p, 1, none⟩ = some (.slice ad2 n cp2) := T4.out.cell 1
    have HN4 : Hid (∀ O, (w4.alloc O).ownsRow 0 3 1 (.slice ad2 n cp2) n ((stF 1 N).map (Value.int .i64))) := hidOf (fun O => by rw [Hnl.out]; have := (T4.out.out ((Out.refl _).alloc O)).st; rw [Hnl.out] at this; exact this)
    go_upto_region 6 with (at_builtin; refine wpList_append_lies _ rfl (.tmp 31) (.tmp 33) 34 rfl 0 3 j0 _ 1 8 Tryz.underlying34 hj hy0 hy1 hy2 rfl (by decide) (.slice ad2 n cp2) n ((stF 1 N).map (Value.int .i64)) rfl (HN4.out _) ⟨w4.heap.size, 0, none⟩ 1 1 [.int .i64 (szF 1 N : Nat)] rfl rfl (news_new w4 _ _ _ rfl) (int_one _) (by decide) (by unfold maxLen; omega) (by omega) (Nat.zero_le _) _ rfl ?_; intro g5 cap5 w5 hown5 hgrow5 hg5 hlt5; have HO5 := hidOf hown5; have HG5 := hidOf hgrow5; have HH5 := hidOf hg5; obtain ⟨f5, q5⟩ := T4.out.far hgrow5 T4.out.sp 1; clear hown5 hgrow5 hg5 hlt5)
    have H6 : Hid (T3 p (w5.setCell ⟨p, 1, none⟩ (.slice (some ⟨g5, 0, none⟩) (n + 1) cap5)) (N ++ [x]) (N ++ [x]) N (.slice (some ⟨g3, 0, none⟩) (n + 1) cap3) (.slice (some ⟨g5, 0, none⟩) (n + 1) cap5) (.map (some b)) ∧ Chg (fp p (.slice (some ⟨g3, 0, none⟩) (n + 1) cap3) (.slice ad2 n cp2) (.map (some b))) _ (w5.setCell ⟨p, 1, none⟩ (.slice (some ⟨g5, 0, none⟩) (n + 1) cap5))) := (T4.out.out ((Out.refl _).alloc _)).starts HG5.out (by rw [Hnl.out]) (by rw [← Hnl.out]; exact HO5.out) HH5.out
    have C6 := hidOf (I4.out.chg (C4.out.alloc _) H6.out.2)
    have I6 : Hid (InF w (fp p (.slice ad n cp) (.slice ad2 n cp2) mv) (fp p (.slice (some ⟨g3, 0, none⟩) (n + 1) cap3) (.slice (some ⟨g5, 0, none⟩) (n + 1) cap5) (.map (some b)))) := in_starts I4.out (HH5.out.imp id (fun h => by rw [h, size_alloc]; have := C4.out.size; omega))
    have T6 := hidOf H6.out.1
    clear H6 HO5 HG5 HH5 f5 q5 a1 a1' HN4 C4 I4 T4 C1 H1 I1
    generalize w5.setCell ⟨p, 1, none⟩ (.slice (some ⟨g5, 0, none⟩) (n + 1) cap5) = w6 at *
    have a2 : w6.cell? ⟨p, 2, none⟩ = some (.map (some b)) := T6.out.cell 2
    obtain ⟨D, hoD, hmD⟩ : ∃ D, w6.ownsMap Tryz.prog 9 PE b n D ∧ MapIs D N := by
      rcases T6.out.mp with ⟨h, _⟩ | ⟨b', D, h, ho, hm⟩
      · cases h
      · cases h; rw [Hnl.out]; exact ⟨D, ho, hm⟩
    have HD := hidOf hoD
    have HMD := hidOf hmD
    clear hoD hmD
    go_wp2_with (at_mapUpdate; refine wpList_mapUpdate_own _ rfl _ _ _ 156 rfl 9 3 strLaw Tryz.underlying156 PE b n D rfl HD.out (by unfold maxLen; omega) _ _ _ rfl rfl hk (.lit (.int .i64 (szF 1 N : Nat))) [] Hpe.out ?_; intro w7 hown7 hgrow7; have HO7 := hidOf hown7; have HG7 := hidOf hgrow7; clear hown7 hgrow7)
    go_ret
    obtain ⟨t7, c7⟩ := T6.out.put (x := x) HG7.out (by rw [← Hnl.out]; exact HO7.out) (HMD.out.snoc HX.out)
    refine ⟨rfl, _, _, _, t7, ?_, ?_⟩
    · rw [← Hnl.out]; exact I6.out.chg C6.out c7
    · rw [← Hnl.out]; exact I6.out
end Go.Proofs.YthififblejbleaaGreatDoor
