import Derived.Test.YtmpbdakmmelmgaaGa14
namespace Go.Proofs.Ytmpbdakmmelmgaa
open Go.RowKit
set_option linter.unusedVariables false
set_option linter.unusedSimpArgs false
set_option maxRecDepth 8000 in
set_option maxHeartbeats 4000000 in
theorem rowAt_last (w : World) (p g off n c T place begin : Nat) (h0 : w.cell? ⟨p, 0, none⟩ = some (.slice (some ⟨g, off, none⟩) n c)) (h1 : w.cell? ⟨p, 1, none⟩ = some (.int .i64 T)) (hT : T ≤ 1000000000000) (hb : begin ≤ T) (hn : n ≤ 1000000000000) (hn64 : 64 ≤ n) (hp : place ≤ 1000000000000) (hpt : ¬ place = T) (hpn : place + 64 = n) :
    Calls Try.prog 64 #[.pointer (some ⟨p, 0, none⟩), .int .i64 place, .int .i64 begin] w fun e w' => e = .returned (.agg (rowW T n place begin).cs.toArray) ∧ Out w w' := by
  have hTI : (T : Int) ≤ 1000000000000 := by omega
  have hbI : (begin : Int) ≤ T := by omega
  have hnI : (n : Int) ≤ 1000000000000 := by omega
  have hpI : (place : Int) ≤ 1000000000000 := by omega
  have hn64I : (64 : Int) ≤ n := by omega
  have hlt := World.block_lt_of_cell? w _ h0
  obtain ⟨pr, hpr⟩ : ∃ pr, pr = w.heap.size := ⟨_, rfl⟩
  have HZ : Hid ((w.alloc (.cells #[.int .u64 0, .int .u64 0, .int .u64 0, .int .u64 0, .int .u64 0, .int .u64 0, .int .u64 0, .int .u64 0, .int .u64 0, .int .u64 0, .int .u64 0, .int .u64 0, .int .u64 0, .int .u64 0, .int .u64 0, .int .u64 0, .int .u64 0, .int .u64 0] 90)).heap[pr]? = some (.cells #[.int .u64 0, .int .u64 0, .int .u64 0, .int .u64 0, .int .u64 0, .int .u64 0, .int .u64 0, .int .u64 0, .int .u64 0, .int .u64 0, .int .u64 0, .int .u64 0, .int .u64 0, .int .u64 0, .int .u64 0, .int .u64 0, .int .u64 0, .int .u64 0] 90 (0, 0))) := hidOf (by rw [hpr]; exact heap_alloc_new w _)
  have Ho := hidOf ((Out.refl w).alloc (.cells #[.int .u64 0, .int .u64 0, .int .u64 0, .int .u64 0, .int .u64 0, .int .u64 0, .int .u64 0, .int .u64 0, .int .u64 0, .int .u64 0, .int .u64 0, .int .u64 0, .int .u64 0, .int .u64 0, .int .u64 0, .int .u64 0, .int .u64 0, .int .u64 0] 90))
  have h0' := cell_later Ho.out h0
  have h1' := cell_later Ho.out h1
  clear h0 h1 hlt
  go_enter Try.func64, Try.ntmps64
  go_upto_region 1 with fail
  rw [← hpr]
  have Hpr := hidOf hpr
  clear hpr
  generalize w.alloc (.cells #[.int .u64 0, .int .u64 0, .int .u64 0, .int .u64 0, .int .u64 0, .int .u64 0, .int .u64 0, .int .u64 0, .int .u64 0, .int .u64 0, .int .u64 0, .int .u64 0, .int .u64 0, .int .u64 0, .int .u64 0, .int .u64 0, .int .u64 0, .int .u64 0] 90) = W0 at *
  have U := hidOf (fun k wx => upTo_of (W := W0) k wx)
  have O0 := hidOf (Out.refl W0)
  go_upto_region 3 with (go_at_call 86; refine (U.out _ _ (Hid.out (by assumption))).mono ?_; rintro e wu ⟨rfl, hOu⟩; have HOu := hidOf hOu; clear hOu)
  obtain ⟨b8, hb8⟩ : ∃ b8, b8 = wu.heap.size := ⟨_, rfl⟩
  have HRA : Hid (RA w ((wu.alloc (.cells #[.int .u64 0, .int .u64 ((jw 4294967295 : Nat) : Int)] 87)).alloc (.cells #[.int .u64 0, .int .u64 ((jw 9223372036854775807 : Nat) : Int)] 87)) pr b8 (b8 + 1) (.int .u64 0) (.int .u64 ((jw 4294967295 : Nat) : Int)) (.int .u64 0) (.int .u64 ((jw 9223372036854775807 : Nat) : Int))) := by
    refine ⟨((Ho.out.trans HOu.out).alloc _).alloc _, ?_, ?_, ?_⟩
    · have o := (HOu.out.alloc (.cells #[.int .u64 0, .int .u64 ((jw 4294967295 : Nat) : Int)] 87)).alloc (.cells #[.int .u64 0, .int .u64 ((jw 9223372036854775807 : Nat) : Int)] 87)
      exact (o.block _ (Array.getElem?_eq_some_iff.1 HZ.out).1).trans HZ.out
    · rw [hb8]; exact (Below.heap_alloc _ _ _ (by rw [size_alloc]; omega)).trans (heap_alloc_new wu _)
    · rw [hb8]; exact heap_new2 wu _ _
  have HW4 : Hid (Out W0 ((wu.alloc (.cells #[.int .u64 0, .int .u64 ((jw 4294967295 : Nat) : Int)] 87)).alloc (.cells #[.int .u64 0, .int .u64 ((jw 9223372036854775807 : Nat) : Int)] 87))) := hidOf ((HOu.out.alloc _).alloc _)
  rw [← hb8]
  clear hb8
  generalize (wu.alloc (.cells #[.int .u64 0, .int .u64 ((jw 4294967295 : Nat) : Int)] 87)).alloc (.cells #[.int .u64 0, .int .u64 ((jw 9223372036854775807 : Nat) : Int)] 87) = W4 at *
  have c0 := cell_later HW4.out h0'
  have c1 := cell_later HW4.out h1'
  clear h0' h1' U O0
  have hbeq : ((place : Int) == T) = false := by simp; omega
  have hroom : IntKind.u64.wrap ((T : Int) - begin) = (jw ((T : Int) - begin) : Nat) := jw_wrap _
  have hbeq2 : ((place : Int) == (n : Int) - 64) = true := by simp; omega
  have HR1 : Hid (rowW T n place begin = rowL T begin) := hidOf (by rw [rowW, if_neg hpt, if_pos hpn])
  have hmax : IntKind.u64.wrap (max ((T : Int) - begin - 7) 0) = (jw (max ((T : Int) - begin - 7) 0) : Nat) := jw_wrap _
  clear hpt hpn
  go_upto_region 8 with fail
  obtain ⟨b10, hb10⟩ : ∃ b10, b10 = W4.heap.size := ⟨_, rfl⟩
  have HRA : Hid (RA w (W4.alloc (.cells #[.int .u64 ((jw (max ((T : Int) - begin - 7) 0) : Nat) : Int), .int .u64 ((jw ((T : Int) - begin) : Nat) : Int)] 87)) pr b8 b10 (.int .u64 0) (.int .u64 ((jw 4294967295 : Nat) : Int)) (.int .u64 ((jw (max ((T : Int) - begin - 7) 0) : Nat) : Int)) (.int .u64 ((jw ((T : Int) - begin) : Nat) : Int))) := by
    have hh := HRA.out.on ((Out.refl W4).alloc (.cells #[.int .u64 ((jw (max ((T : Int) - begin - 7) 0) : Nat) : Int), .int .u64 ((jw ((T : Int) - begin) : Nat) : Int)] 87))
    exact ⟨hh.out, hh.res, hh.s8, by rw [hb10]; exact heap_alloc_new W4 _⟩
  rw [← hb10]
  clear hb10
  generalize W4.alloc (.cells #[.int .u64 ((jw (max ((T : Int) - begin - 7) 0) : Nat) : Int), .int .u64 ((jw ((T : Int) - begin) : Nat) : Int)] 87) = W5 at *
  have J := hidOf (fun k wx => just_of (W := W5) k wx)
  have U := hidOf (fun k wx => upTo_of (W := W5) k wx)
  have O0 := hidOf (Out.refl W5)
  have O1 := hidOf (Out.drew (Out.refl W5))
  have HKS : Hid (∀ wx, Out W5 wx → wx.cell? ⟨b8, 0, none⟩ = some (.int .u64 0) ∧ wx.cell? ⟨b8, 1, none⟩ = some (.int .u64 ((jw 4294967295 : Nat) : Int)) ∧ wx.cell? ⟨b10, 0, none⟩ = some (.int .u64 ((jw (max ((T : Int) - begin - 7) 0) : Nat) : Int)) ∧ wx.cell? ⟨b10, 1, none⟩ = some (.int .u64 ((jw ((T : Int) - begin) : Nat) : Int))) := fun wx ho => (HRA.out.on ho).cells.1
  have HKP : Hid (∀ wx, Out W5 wx → wx.cell? ⟨pr, 0, none⟩ = some (.int .u64 0) ∧ wx.cell? ⟨pr, 1, none⟩ = some (.int .u64 0) ∧ wx.cell? ⟨pr, 2, none⟩ = some (.int .u64 0) ∧ wx.cell? ⟨pr, 3, none⟩ = some (.int .u64 0) ∧ wx.cell? ⟨pr, 4, none⟩ = some (.int .u64 0) ∧ wx.cell? ⟨pr, 5, none⟩ = some (.int .u64 0) ∧ wx.cell? ⟨pr, 6, none⟩ = some (.int .u64 0) ∧ wx.cell? ⟨pr, 7, none⟩ = some (.int .u64 0) ∧ wx.cell? ⟨pr, 8, none⟩ = some (.int .u64 0) ∧ wx.cell? ⟨pr, 9, none⟩ = some (.int .u64 0) ∧ wx.cell? ⟨pr, 10, none⟩ = some (.int .u64 0) ∧ wx.cell? ⟨pr, 11, none⟩ = some (.int .u64 0) ∧ wx.cell? ⟨pr, 12, none⟩ = some (.int .u64 0) ∧ wx.cell? ⟨pr, 13, none⟩ = some (.int .u64 0) ∧ wx.cell? ⟨pr, 14, none⟩ = some (.int .u64 0) ∧ wx.cell? ⟨pr, 15, none⟩ = some (.int .u64 0) ∧ wx.cell? ⟨pr, 16, none⟩ = some (.int .u64 0) ∧ wx.cell? ⟨pr, 17, none⟩ = some (.int .u64 0) ∧ wx.frozen? ⟨pr, 0, none⟩ = false ∧ wx.frozen? ⟨pr, 1, none⟩ = false ∧ wx.frozen? ⟨pr, 2, none⟩ = false ∧ wx.frozen? ⟨pr, 3, none⟩ = false ∧ wx.frozen? ⟨pr, 4, none⟩ = false ∧ wx.frozen? ⟨pr, 5, none⟩ = false ∧ wx.frozen? ⟨pr, 6, none⟩ = false ∧ wx.frozen? ⟨pr, 7, none⟩ = false ∧ wx.frozen? ⟨pr, 8, none⟩ = false ∧ wx.frozen? ⟨pr, 9, none⟩ = false ∧ wx.frozen? ⟨pr, 10, none⟩ = false ∧ wx.frozen? ⟨pr, 11, none⟩ = false ∧ wx.frozen? ⟨pr, 12, none⟩ = false ∧ wx.frozen? ⟨pr, 13, none⟩ = false ∧ wx.frozen? ⟨pr, 14, none⟩ = false ∧ wx.frozen? ⟨pr, 15, none⟩ = false ∧ wx.frozen? ⟨pr, 16, none⟩ = false ∧ wx.frozen? ⟨pr, 17, none⟩ = false) := fun wx ho => (HRA.out.on ho).cells.2
  have HKX : Hid (∀ wx, Out W5 wx → ∀ v0 v1 v2 v3 v4 v5 v6 v7 v8 v9 v10 v11 v12 v13 v14 v15 v16 v17 : Value, ((((((((((((((((((wx.setCell ⟨pr, 0, none⟩ v0).setCell ⟨pr, 1, none⟩ v1).setCell ⟨pr, 2, none⟩ v2).setCell ⟨pr, 3, none⟩ v3).setCell ⟨pr, 4, none⟩ v4).setCell ⟨pr, 5, none⟩ v5).setCell ⟨pr, 6, none⟩ v6).setCell ⟨pr, 7, none⟩ v7).setCell ⟨pr, 8, none⟩ v8).setCell ⟨pr, 9, none⟩ v9).setCell ⟨pr, 10, none⟩ v10).setCell ⟨pr, 11, none⟩ v11).setCell ⟨pr, 12, none⟩ v12).setCell ⟨pr, 13, none⟩ v13).setCell ⟨pr, 14, none⟩ v14).setCell ⟨pr, 15, none⟩ v15).setCell ⟨pr, 16, none⟩ v16).setCell ⟨pr, 17, none⟩ v17).cell? ⟨b8, 0, none⟩ = some (.int .u64 0) ∧ ((((((((((((((((((wx.setCell ⟨pr, 0, none⟩ v0).setCell ⟨pr, 1, none⟩ v1).setCell ⟨pr, 2, none⟩ v2).setCell ⟨pr, 3, none⟩ v3).setCell ⟨pr, 4, none⟩ v4).setCell ⟨pr, 5, none⟩ v5).setCell ⟨pr, 6, none⟩ v6).setCell ⟨pr, 7, none⟩ v7).setCell ⟨pr, 8, none⟩ v8).setCell ⟨pr, 9, none⟩ v9).setCell ⟨pr, 10, none⟩ v10).setCell ⟨pr, 11, none⟩ v11).setCell ⟨pr, 12, none⟩ v12).setCell ⟨pr, 13, none⟩ v13).setCell ⟨pr, 14, none⟩ v14).setCell ⟨pr, 15, none⟩ v15).setCell ⟨pr, 16, none⟩ v16).setCell ⟨pr, 17, none⟩ v17).cell? ⟨b8, 1, none⟩ = some (.int .u64 ((jw 4294967295 : Nat) : Int)) ∧ ((((((((((((((((((wx.setCell ⟨pr, 0, none⟩ v0).setCell ⟨pr, 1, none⟩ v1).setCell ⟨pr, 2, none⟩ v2).setCell ⟨pr, 3, none⟩ v3).setCell ⟨pr, 4, none⟩ v4).setCell ⟨pr, 5, none⟩ v5).setCell ⟨pr, 6, none⟩ v6).setCell ⟨pr, 7, none⟩ v7).setCell ⟨pr, 8, none⟩ v8).setCell ⟨pr, 9, none⟩ v9).setCell ⟨pr, 10, none⟩ v10).setCell ⟨pr, 11, none⟩ v11).setCell ⟨pr, 12, none⟩ v12).setCell ⟨pr, 13, none⟩ v13).setCell ⟨pr, 14, none⟩ v14).setCell ⟨pr, 15, none⟩ v15).setCell ⟨pr, 16, none⟩ v16).setCell ⟨pr, 17, none⟩ v17).cell? ⟨b10, 0, none⟩ = some (.int .u64 ((jw (max ((T : Int) - begin - 7) 0) : Nat) : Int)) ∧ ((((((((((((((((((wx.setCell ⟨pr, 0, none⟩ v0).setCell ⟨pr, 1, none⟩ v1).setCell ⟨pr, 2, none⟩ v2).setCell ⟨pr, 3, none⟩ v3).setCell ⟨pr, 4, none⟩ v4).setCell ⟨pr, 5, none⟩ v5).setCell ⟨pr, 6, none⟩ v6).setCell ⟨pr, 7, none⟩ v7).setCell ⟨pr, 8, none⟩ v8).setCell ⟨pr, 9, none⟩ v9).setCell ⟨pr, 10, none⟩ v10).setCell ⟨pr, 11, none⟩ v11).setCell ⟨pr, 12, none⟩ v12).setCell ⟨pr, 13, none⟩ v13).setCell ⟨pr, 14, none⟩ v14).setCell ⟨pr, 15, none⟩ v15).setCell ⟨pr, 16, none⟩ v16).setCell ⟨pr, 17, none⟩ v17).cell? ⟨b10, 1, none⟩ = some (.int .u64 ((jw ((T : Int) - begin) : Nat) : Int))) := fun wx ho v0 v1 v2 v3 v4 v5 v6 v7 v8 v9 v10 v11 v12 v13 v14 v15 v16 v17 => set18_far (HRA.out.on ho).ne8 (HRA.out.on ho).ne9 (HKS.out wx ho)
  have s0 := HKS.out W5 O0.out
  go_region_held3 (fun wx => wx.cell? ⟨b8, 0, none⟩ = some (.int .u64 0) ∧ wx.cell? ⟨b8, 1, none⟩ = some (.int .u64 ((jw 4294967295 : Nat) : Int)) ∧ wx.cell? ⟨b10, 0, none⟩ = some (.int .u64 ((jw (max ((T : Int) - begin - 7) 0) : Nat) : Int)) ∧ wx.cell? ⟨b10, 1, none⟩ = some (.int .u64 ((jw ((T : Int) - begin) : Nat) : Int))) (first | with_reducible exact s0 | with_reducible exact HKS.out _ (Hid.out (by assumption)) | with_reducible exact HKX.out _ (Hid.out (by assumption)) _ _ _ _ _ _ _ _ _ _ _ _ _ _ _ _ _ _ | fail) (first | (go_at_call 38; refine (J.out _ _ (Hid.out (by assumption))).mono ?_; rintro e wj ⟨rfl, hOj⟩; have HOj := hidOf hOj; have hz := HKP.out _ hOj; clear hOj) | (go_at_call 86; refine (U.out _ _ (Hid.out (by assumption))).mono ?_; rintro e wj ⟨rfl, hOj⟩; have HOj := hidOf hOj; clear hOj) | fail)
  all_goals
    have HRj := hidOf (HRA.out.on HOj.out)
    clear hz s0 HKS HKP HKX J U
    go_wp2
    refine bodyPost_ret (results_cell_row rfl _ _ pr 90 _ (0, 0) _ rfl (set18_heap HRj.out.res) Try.underlying90 rfl sizeRw) rfl ?_
    exact ⟨by rw [HR1.out]; rfl, set18_out HRj.out.out (Nat.le_of_eq Hpr.out.symm)⟩
end Go.Proofs.Ytmpbdakmmelmgaa
namespace Go.Proofs.Ytmpbdakmmelmgaa
open Go.RowKit
set_option linter.unusedVariables false
set_option linter.unusedSimpArgs false
/-- an entry of the table -/
structure En where
  pl : Int
  nm : List UInt8
  ty : Int
  fl : Int
  li : Int
  inf : Int
  al : Int
  es : Int
  na : Int
  bg : Int
  en : Int
def En.cs (x : En) : List Value := [.int .i64 x.pl, .string ⟨x.nm.toArray⟩, .int .i64 x.ty, .int .i64 x.fl, .int .i64 x.li, .int .i64 x.inf, .int .i64 x.al, .int .i64 x.es, .slice none 0 0, .int .i64 x.na, .int .i64 x.bg, .int .i64 x.en]
/-- the number of a field -/
def fldI (l : List UInt8) (o n : Nat) : Int := wrap64 (nmB ((l.drop o).take n) : Nat)
theorem nms_row (l : List UInt8) : nmsF l 0 zRw.fds = [fldI l 0 4, fldI l 4 4, fldI l 8 8, fldI l 16 8, fldI l 24 8, fldI l 32 8, fldI l 40 4, fldI l 44 4, fldI l 48 8, fldI l 56 8] := rfl
def enP (l : List UInt8) (place begin : Int) : En := ⟨place, [], fldI l 4 4, fldI l 8 8, fldI l 40 4, fldI l 44 4, fldI l 48 8, fldI l 56 8, fldI l 0 4, begin, begin + fldI l 32 8⟩
theorem infoEn : (Try.prog.info? 115).map (fun i => (i.zero, i.size, i.bytes)) = some (some (.agg (En.cs ⟨0, [], 0, 0, 0, 0, 0, 0, 0, 0, 0⟩).toArray), 12, 120) := by kernel_rfl
theorem sizeEn : (Try.prog.info? 115).map (·.size) = some 12 := by kernel_rfl
theorem wr_add (b : Nat) (f : Int) (hb : b ≤ 1000000000000) (h0 : 0 ≤ f) (h1 : f ≤ 1000000000000) : IntKind.i64.wrap ((b : Int) + f) = (b : Int) + f := by rw [IntKind.wrap_i64]; omega
theorem OwI.cell {B : Nat} {v : Value} {zs : List Int} {w : World} (h : OwI B v zs w) {i : Nat} {z : Int} (hz : zs[i]? = some z) : ∃ g c, v = .slice (some ⟨g, 0, none⟩) zs.length c ∧ zs.length ≤ c ∧ w.cell? ⟨g, i, none⟩ = some (.int .i64 z) := by
  obtain ⟨g, c, hv, hc, d⟩ := own_cell h (k := i) (u := .int .i64 z) (by simp [hz])
  exact ⟨g, c, hv, hc, d⟩
theorem set12_far {wx : World} {pr ng : Nat} {v0 v1 v2 v3 v4 v5 v6 v7 v8 v9 v10 v11 : Value} {f0 f1 f2 f5 f6 f7 f8 f9 : Int} (n8 : ¬ ng = pr) (h : wx.cell? ⟨ng, 0, none⟩ = some (.int .i64 f0) ∧ wx.cell? ⟨ng, 1, none⟩ = some (.int .i64 f1) ∧ wx.cell? ⟨ng, 2, none⟩ = some (.int .i64 f2) ∧ wx.cell? ⟨ng, 5, none⟩ = some (.int .i64 f5) ∧ wx.cell? ⟨ng, 6, none⟩ = some (.int .i64 f6) ∧ wx.cell? ⟨ng, 7, none⟩ = some (.int .i64 f7) ∧ wx.cell? ⟨ng, 8, none⟩ = some (.int .i64 f8) ∧ wx.cell? ⟨ng, 9, none⟩ = some (.int .i64 f9)) : ((((((((((((wx.setCell ⟨pr, 0, none⟩ v0).setCell ⟨pr, 1, none⟩ v1).setCell ⟨pr, 2, none⟩ v2).setCell ⟨pr, 3, none⟩ v3).setCell ⟨pr, 4, none⟩ v4).setCell ⟨pr, 5, none⟩ v5).setCell ⟨pr, 6, none⟩ v6).setCell ⟨pr, 7, none⟩ v7).setCell ⟨pr, 8, none⟩ v8).setCell ⟨pr, 9, none⟩ v9).setCell ⟨pr, 10, none⟩ v10).setCell ⟨pr, 11, none⟩ v11).cell? ⟨ng, 0, none⟩ = some (.int .i64 f0) ∧ ((((((((((((wx.setCell ⟨pr, 0, none⟩ v0).setCell ⟨pr, 1, none⟩ v1).setCell ⟨pr, 2, none⟩ v2).setCell ⟨pr, 3, none⟩ v3).setCell ⟨pr, 4, none⟩ v4).setCell ⟨pr, 5, none⟩ v5).setCell ⟨pr, 6, none⟩ v6).setCell ⟨pr, 7, none⟩ v7).setCell ⟨pr, 8, none⟩ v8).setCell ⟨pr, 9, none⟩ v9).setCell ⟨pr, 10, none⟩ v10).setCell ⟨pr, 11, none⟩ v11).cell? ⟨ng, 1, none⟩ = some (.int .i64 f1) ∧ ((((((((((((wx.setCell ⟨pr, 0, none⟩ v0).setCell ⟨pr, 1, none⟩ v1).setCell ⟨pr, 2, none⟩ v2).setCell ⟨pr, 3, none⟩ v3).setCell ⟨pr, 4, none⟩ v4).setCell ⟨pr, 5, none⟩ v5).setCell ⟨pr, 6, none⟩ v6).setCell ⟨pr, 7, none⟩ v7).setCell ⟨pr, 8, none⟩ v8).setCell ⟨pr, 9, none⟩ v9).setCell ⟨pr, 10, none⟩ v10).setCell ⟨pr, 11, none⟩ v11).cell? ⟨ng, 2, none⟩ = some (.int .i64 f2) ∧ ((((((((((((wx.setCell ⟨pr, 0, none⟩ v0).setCell ⟨pr, 1, none⟩ v1).setCell ⟨pr, 2, none⟩ v2).setCell ⟨pr, 3, none⟩ v3).setCell ⟨pr, 4, none⟩ v4).setCell ⟨pr, 5, none⟩ v5).setCell ⟨pr, 6, none⟩ v6).setCell ⟨pr, 7, none⟩ v7).setCell ⟨pr, 8, none⟩ v8).setCell ⟨pr, 9, none⟩ v9).setCell ⟨pr, 10, none⟩ v10).setCell ⟨pr, 11, none⟩ v11).cell? ⟨ng, 5, none⟩ = some (.int .i64 f5) ∧ ((((((((((((wx.setCell ⟨pr, 0, none⟩ v0).setCell ⟨pr, 1, none⟩ v1).setCell ⟨pr, 2, none⟩ v2).setCell ⟨pr, 3, none⟩ v3).setCell ⟨pr, 4, none⟩ v4).setCell ⟨pr, 5, none⟩ v5).setCell ⟨pr, 6, none⟩ v6).setCell ⟨pr, 7, none⟩ v7).setCell ⟨pr, 8, none⟩ v8).setCell ⟨pr, 9, none⟩ v9).setCell ⟨pr, 10, none⟩ v10).setCell ⟨pr, 11, none⟩ v11).cell? ⟨ng, 6, none⟩ = some (.int .i64 f6) ∧ ((((((((((((wx.setCell ⟨pr, 0, none⟩ v0).setCell ⟨pr, 1, none⟩ v1).setCell ⟨pr, 2, none⟩ v2).setCell ⟨pr, 3, none⟩ v3).setCell ⟨pr, 4, none⟩ v4).setCell ⟨pr, 5, none⟩ v5).setCell ⟨pr, 6, none⟩ v6).setCell ⟨pr, 7, none⟩ v7).setCell ⟨pr, 8, none⟩ v8).setCell ⟨pr, 9, none⟩ v9).setCell ⟨pr, 10, none⟩ v10).setCell ⟨pr, 11, none⟩ v11).cell? ⟨ng, 7, none⟩ = some (.int .i64 f7) ∧ ((((((((((((wx.setCell ⟨pr, 0, none⟩ v0).setCell ⟨pr, 1, none⟩ v1).setCell ⟨pr, 2, none⟩ v2).setCell ⟨pr, 3, none⟩ v3).setCell ⟨pr, 4, none⟩ v4).setCell ⟨pr, 5, none⟩ v5).setCell ⟨pr, 6, none⟩ v6).setCell ⟨pr, 7, none⟩ v7).setCell ⟨pr, 8, none⟩ v8).setCell ⟨pr, 9, none⟩ v9).setCell ⟨pr, 10, none⟩ v10).setCell ⟨pr, 11, none⟩ v11).cell? ⟨ng, 8, none⟩ = some (.int .i64 f8) ∧ ((((((((((((wx.setCell ⟨pr, 0, none⟩ v0).setCell ⟨pr, 1, none⟩ v1).setCell ⟨pr, 2, none⟩ v2).setCell ⟨pr, 3, none⟩ v3).setCell ⟨pr, 4, none⟩ v4).setCell ⟨pr, 5, none⟩ v5).setCell ⟨pr, 6, none⟩ v6).setCell ⟨pr, 7, none⟩ v7).setCell ⟨pr, 8, none⟩ v8).setCell ⟨pr, 9, none⟩ v9).setCell ⟨pr, 10, none⟩ v10).setCell ⟨pr, 11, none⟩ v11).cell? ⟨ng, 9, none⟩ = some (.int .i64 f9) := by
  simp only [setCell_far n8]
  exact h
theorem cell_drewE (w : World) (a : Addr) : w.drew.cell? a = w.cell? a := rfl
theorem set12_fard {wx : World} {pr ng : Nat} {v0 v1 v2 v3 v4 v5 v6 v7 v8 v9 v10 v11 : Value} {f0 f1 f2 f5 f6 f7 f8 f9 : Int} (n8 : ¬ ng = pr) (h : wx.cell? ⟨ng, 0, none⟩ = some (.int .i64 f0) ∧ wx.cell? ⟨ng, 1, none⟩ = some (.int .i64 f1) ∧ wx.cell? ⟨ng, 2, none⟩ = some (.int .i64 f2) ∧ wx.cell? ⟨ng, 5, none⟩ = some (.int .i64 f5) ∧ wx.cell? ⟨ng, 6, none⟩ = some (.int .i64 f6) ∧ wx.cell? ⟨ng, 7, none⟩ = some (.int .i64 f7) ∧ wx.cell? ⟨ng, 8, none⟩ = some (.int .i64 f8) ∧ wx.cell? ⟨ng, 9, none⟩ = some (.int .i64 f9)) : ((((((((((((wx.setCell ⟨pr, 0, none⟩ v0).setCell ⟨pr, 1, none⟩ v1).setCell ⟨pr, 2, none⟩ v2).setCell ⟨pr, 3, none⟩ v3).setCell ⟨pr, 4, none⟩ v4).setCell ⟨pr, 5, none⟩ v5).setCell ⟨pr, 6, none⟩ v6).setCell ⟨pr, 7, none⟩ v7).setCell ⟨pr, 8, none⟩ v8).setCell ⟨pr, 9, none⟩ v9).setCell ⟨pr, 10, none⟩ v10).setCell ⟨pr, 11, none⟩ v11).drew.cell? ⟨ng, 0, none⟩ = some (.int .i64 f0) ∧ ((((((((((((wx.setCell ⟨pr, 0, none⟩ v0).setCell ⟨pr, 1, none⟩ v1).setCell ⟨pr, 2, none⟩ v2).setCell ⟨pr, 3, none⟩ v3).setCell ⟨pr, 4, none⟩ v4).setCell ⟨pr, 5, none⟩ v5).setCell ⟨pr, 6, none⟩ v6).setCell ⟨pr, 7, none⟩ v7).setCell ⟨pr, 8, none⟩ v8).setCell ⟨pr, 9, none⟩ v9).setCell ⟨pr, 10, none⟩ v10).setCell ⟨pr, 11, none⟩ v11).drew.cell? ⟨ng, 1, none⟩ = some (.int .i64 f1) ∧ ((((((((((((wx.setCell ⟨pr, 0, none⟩ v0).setCell ⟨pr, 1, none⟩ v1).setCell ⟨pr, 2, none⟩ v2).setCell ⟨pr, 3, none⟩ v3).setCell ⟨pr, 4, none⟩ v4).setCell ⟨pr, 5, none⟩ v5).setCell ⟨pr, 6, none⟩ v6).setCell ⟨pr, 7, none⟩ v7).setCell ⟨pr, 8, none⟩ v8).setCell ⟨pr, 9, none⟩ v9).setCell ⟨pr, 10, none⟩ v10).setCell ⟨pr, 11, none⟩ v11).drew.cell? ⟨ng, 2, none⟩ = some (.int .i64 f2) ∧ ((((((((((((wx.setCell ⟨pr, 0, none⟩ v0).setCell ⟨pr, 1, none⟩ v1).setCell ⟨pr, 2, none⟩ v2).setCell ⟨pr, 3, none⟩ v3).setCell ⟨pr, 4, none⟩ v4).setCell ⟨pr, 5, none⟩ v5).setCell ⟨pr, 6, none⟩ v6).setCell ⟨pr, 7, none⟩ v7).setCell ⟨pr, 8, none⟩ v8).setCell ⟨pr, 9, none⟩ v9).setCell ⟨pr, 10, none⟩ v10).setCell ⟨pr, 11, none⟩ v11).drew.cell? ⟨ng, 5, none⟩ = some (.int .i64 f5) ∧ ((((((((((((wx.setCell ⟨pr, 0, none⟩ v0).setCell ⟨pr, 1, none⟩ v1).setCell ⟨pr, 2, none⟩ v2).setCell ⟨pr, 3, none⟩ v3).setCell ⟨pr, 4, none⟩ v4).setCell ⟨pr, 5, none⟩ v5).setCell ⟨pr, 6, none⟩ v6).setCell ⟨pr, 7, none⟩ v7).setCell ⟨pr, 8, none⟩ v8).setCell ⟨pr, 9, none⟩ v9).setCell ⟨pr, 10, none⟩ v10).setCell ⟨pr, 11, none⟩ v11).drew.cell? ⟨ng, 6, none⟩ = some (.int .i64 f6) ∧ ((((((((((((wx.setCell ⟨pr, 0, none⟩ v0).setCell ⟨pr, 1, none⟩ v1).setCell ⟨pr, 2, none⟩ v2).setCell ⟨pr, 3, none⟩ v3).setCell ⟨pr, 4, none⟩ v4).setCell ⟨pr, 5, none⟩ v5).setCell ⟨pr, 6, none⟩ v6).setCell ⟨pr, 7, none⟩ v7).setCell ⟨pr, 8, none⟩ v8).setCell ⟨pr, 9, none⟩ v9).setCell ⟨pr, 10, none⟩ v10).setCell ⟨pr, 11, none⟩ v11).drew.cell? ⟨ng, 7, none⟩ = some (.int .i64 f7) ∧ ((((((((((((wx.setCell ⟨pr, 0, none⟩ v0).setCell ⟨pr, 1, none⟩ v1).setCell ⟨pr, 2, none⟩ v2).setCell ⟨pr, 3, none⟩ v3).setCell ⟨pr, 4, none⟩ v4).setCell ⟨pr, 5, none⟩ v5).setCell ⟨pr, 6, none⟩ v6).setCell ⟨pr, 7, none⟩ v7).setCell ⟨pr, 8, none⟩ v8).setCell ⟨pr, 9, none⟩ v9).setCell ⟨pr, 10, none⟩ v10).setCell ⟨pr, 11, none⟩ v11).drew.cell? ⟨ng, 8, none⟩ = some (.int .i64 f8) ∧ ((((((((((((wx.setCell ⟨pr, 0, none⟩ v0).setCell ⟨pr, 1, none⟩ v1).setCell ⟨pr, 2, none⟩ v2).setCell ⟨pr, 3, none⟩ v3).setCell ⟨pr, 4, none⟩ v4).setCell ⟨pr, 5, none⟩ v5).setCell ⟨pr, 6, none⟩ v6).setCell ⟨pr, 7, none⟩ v7).setCell ⟨pr, 8, none⟩ v8).setCell ⟨pr, 9, none⟩ v9).setCell ⟨pr, 10, none⟩ v10).setCell ⟨pr, 11, none⟩ v11).drew.cell? ⟨ng, 9, none⟩ = some (.int .i64 f9) := by
  simp only [cell_drewE, setCell_far n8]
  exact h
theorem set12_heap {wx : World} {pr : Nat} {t : TypeId} {v0 v1 v2 v3 v4 v5 v6 v7 v8 v9 v10 v11 : Value} (h : wx.heap[pr]? = some (.cells #[.int .i64 0, .string ⟨#[]⟩, .int .i64 0, .int .i64 0, .int .i64 0, .int .i64 0, .int .i64 0, .int .i64 0, .slice none 0 0, .int .i64 0, .int .i64 0, .int .i64 0] t (0, 0))) : ((((((((((((wx.setCell ⟨pr, 0, none⟩ v0).setCell ⟨pr, 1, none⟩ v1).setCell ⟨pr, 2, none⟩ v2).setCell ⟨pr, 3, none⟩ v3).setCell ⟨pr, 4, none⟩ v4).setCell ⟨pr, 5, none⟩ v5).setCell ⟨pr, 6, none⟩ v6).setCell ⟨pr, 7, none⟩ v7).setCell ⟨pr, 8, none⟩ v8).setCell ⟨pr, 9, none⟩ v9).setCell ⟨pr, 10, none⟩ v10).setCell ⟨pr, 11, none⟩ v11).heap[pr]? = some (.cells #[v0, v1, v2, v3, v4, v5, v6, v7, v8, v9, v10, v11] t (0, 0)) := by
  simp [World.setCell, Array.getElem?_modify, h]
theorem set12_heapd {wx : World} {pr : Nat} {t : TypeId} {v0 v1 v2 v3 v4 v5 v6 v7 v8 v9 v10 v11 : Value} (h : wx.heap[pr]? = some (.cells #[.int .i64 0, .string ⟨#[]⟩, .int .i64 0, .int .i64 0, .int .i64 0, .int .i64 0, .int .i64 0, .int .i64 0, .slice none 0 0, .int .i64 0, .int .i64 0, .int .i64 0] t (0, 0))) : ((((((((((((wx.setCell ⟨pr, 0, none⟩ v0).setCell ⟨pr, 1, none⟩ v1).setCell ⟨pr, 2, none⟩ v2).setCell ⟨pr, 3, none⟩ v3).setCell ⟨pr, 4, none⟩ v4).setCell ⟨pr, 5, none⟩ v5).setCell ⟨pr, 6, none⟩ v6).setCell ⟨pr, 7, none⟩ v7).setCell ⟨pr, 8, none⟩ v8).setCell ⟨pr, 9, none⟩ v9).setCell ⟨pr, 10, none⟩ v10).setCell ⟨pr, 11, none⟩ v11).drew.heap[pr]? = some (.cells #[v0, v1, v2, v3, v4, v5, v6, v7, v8, v9, v10, v11] t (0, 0)) := by
  rw [heap_drew']
  exact set12_heap h
theorem set12_out {w wx : World} {pr : Nat} {v0 v1 v2 v3 v4 v5 v6 v7 v8 v9 v10 v11 : Value} (h : Out w wx) (hp : w.heap.size ≤ pr) : Out w ((((((((((((wx.setCell ⟨pr, 0, none⟩ v0).setCell ⟨pr, 1, none⟩ v1).setCell ⟨pr, 2, none⟩ v2).setCell ⟨pr, 3, none⟩ v3).setCell ⟨pr, 4, none⟩ v4).setCell ⟨pr, 5, none⟩ v5).setCell ⟨pr, 6, none⟩ v6).setCell ⟨pr, 7, none⟩ v7).setCell ⟨pr, 8, none⟩ v8).setCell ⟨pr, 9, none⟩ v9).setCell ⟨pr, 10, none⟩ v10).setCell ⟨pr, 11, none⟩ v11) := by
  repeat (refine Out.setCell ?_ hp _)
  exact h
theorem set12_outd {w wx : World} {pr : Nat} {v0 v1 v2 v3 v4 v5 v6 v7 v8 v9 v10 v11 : Value} (h : Out w wx) (hp : w.heap.size ≤ pr) : Out w ((((((((((((wx.setCell ⟨pr, 0, none⟩ v0).setCell ⟨pr, 1, none⟩ v1).setCell ⟨pr, 2, none⟩ v2).setCell ⟨pr, 3, none⟩ v3).setCell ⟨pr, 4, none⟩ v4).setCell ⟨pr, 5, none⟩ v5).setCell ⟨pr, 6, none⟩ v6).setCell ⟨pr, 7, none⟩ v7).setCell ⟨pr, 8, none⟩ v8).setCell ⟨pr, 9, none⟩ v9).setCell ⟨pr, 10, none⟩ v10).setCell ⟨pr, 11, none⟩ v11).drew := Out.drew (set12_out h hp)
set_option maxRecDepth 8000 in
set_option maxHeartbeats 1000000 in
theorem entryOf_any (w : World) (g off c place begin : Nat) (l : List UInt8) (h : Bin w g off c l) (hl : l.length = 64) (hp : place ≤ 1000000000000) (hb : begin ≤ 1000000000000) (hs0 : 0 ≤ fldI l 32 8) (hs1 : fldI l 32 8 ≤ 1000000000000) :
    Calls Try.prog 65 #[.slice (some ⟨g, off, none⟩) 64 c, .int .i64 place, .int .i64 begin] w fun e w' => e = .returned (.agg (enP l place begin).cs.toArray) ∧ Out w w' := by
  have CF := hidOf (fun wx => fields_any zRw wx)
  have CN : Hid (∀ wx fa fc, Out w wx → OwF 0 (.slice fa 10 fc) zRw.fds wx → Calls Try.prog 87 #[.slice (some ⟨g, off, none⟩) 64 c, .slice fa 10 fc] wx fun e w' => ∃ ng nc, e = .returned (.slice (some ⟨ng, 0, none⟩) 10 nc) ∧ OwI 0 (.slice (some ⟨ng, 0, none⟩) 10 nc) (nmsF l 0 zRw.fds) w' ∧ Out wx w') := by
    intro wx fa fc o hF
    have hx := h.out o
    have := numbers_any wx g off c l fa fc zRw.fds hx.lt hx.at_ h.cap h.big hF (fds_w zRw) (by rw [fds_wid, hl]; omega) (by rw [fds_len]; omega)
    rw [hl] at this
    refine this.mono ?_
    rintro e w' ⟨a, c', rfl, h1, h2⟩
    rcases h1.2 with ⟨_, h0⟩ | ⟨ng, cap, cur, hv, _⟩
    · rw [nms_row] at h0; cases h0
    · cases hv
      exact ⟨ng, c', rfl, own_base h1 (Nat.zero_le _), h2⟩
  have Hh := hidOf h
  have hbI : (begin : Int) ≤ 1000000000000 := by omega
  clear h
  obtain ⟨pr, hpr⟩ : ∃ pr, pr = w.heap.size := ⟨_, rfl⟩
  go_enter Try.func65, Try.ntmps65
  go_upto_region 1 with fail
  rw [← hpr]
  have HZ : Hid ((w.alloc (.cells #[.int .i64 0, .string ⟨#[]⟩, .int .i64 0, .int .i64 0, .int .i64 0, .int .i64 0, .int .i64 0, .int .i64 0, .slice none 0 0, .int .i64 0, .int .i64 0, .int .i64 0] 115)).heap[pr]? = some (.cells #[.int .i64 0, .string ⟨#[]⟩, .int .i64 0, .int .i64 0, .int .i64 0, .int .i64 0, .int .i64 0, .int .i64 0, .slice none 0 0, .int .i64 0, .int .i64 0, .int .i64 0] 115 (0, 0))) := hidOf (by rw [hpr]; exact heap_alloc_new w _)
  have Ho := hidOf ((Out.refl w).alloc (.cells #[.int .i64 0, .string ⟨#[]⟩, .int .i64 0, .int .i64 0, .int .i64 0, .int .i64 0, .int .i64 0, .int .i64 0, .slice none 0 0, .int .i64 0, .int .i64 0, .int .i64 0] 115))
  have Hpr := hidOf hpr
  clear hpr
  generalize w.alloc (.cells #[.int .i64 0, .string ⟨#[]⟩, .int .i64 0, .int .i64 0, .int .i64 0, .int .i64 0, .int .i64 0, .int .i64 0, .slice none 0 0, .int .i64 0, .int .i64 0, .int .i64 0] 115) = W0 at *
  have CF0 : Hid (Calls Try.prog 40 #[.agg zRw.cs.toArray] W0 fun e w' => ∃ a c, e = .returned (.slice a 10 c) ∧ OwF 0 (.slice a 10 c) zRw.fds w' ∧ Out W0 w') := (CF.out W0).mono fun e w' ⟨a, c, he, h1, h2⟩ => ⟨a, c, he, own_base h1 (Nat.zero_le _), h2⟩
  go_upto_region 2 with (first | (go_at_call 40; refine (CF0.out).mono ?_; rintro e wf ⟨af, cf, rfl, hF, hOf⟩; have HF := hidOf hF; have HOf := hidOf hOf; clear hF hOf) | (go_at_call 87; refine (CN.out _ _ _ (Ho.out.trans HOf.out) HF.out).mono ?_; rintro e W2 ⟨ng, nc, rfl, hN, hO2⟩; have HN := hidOf hN; have HO2 := hidOf (Out.trans HOf.out hO2); clear hN hO2))
  have hN := HN.out
  rw [nms_row] at hN
  have hcell : ∀ j z, [fldI l 0 4, fldI l 4 4, fldI l 8 8, fldI l 16 8, fldI l 24 8, fldI l 32 8, fldI l 40 4, fldI l 44 4, fldI l 48 8, fldI l 56 8][j]? = some z → W2.cell? ⟨ng, j, none⟩ = some (.int .i64 z) := fun j z hz => by
    obtain ⟨g', c', hv, _, d⟩ := hN.cell hz
    cases hv
    exact d
  have hne : ¬ ng = pr := fun e => by
    have hz := (HO2.out.block pr (Array.getElem?_eq_some_iff.1 HZ.out).1).trans HZ.out
    rcases hN.2 with ⟨hv, _⟩ | ⟨g', cap, cur, hv, _, hg, _⟩
    · cases hv
    · cases hv
      rw [e, hz] at hg
      simp at hg
  have hZ2 := (HO2.out.block pr (Array.getElem?_eq_some_iff.1 HZ.out).1).trans HZ.out
  have HZ2 := hidOf hZ2
  have hP : W2.cell? ⟨pr, 0, none⟩ = some (.int .i64 0) ∧ W2.cell? ⟨pr, 1, none⟩ = some (.string ⟨#[]⟩) ∧ W2.cell? ⟨pr, 2, none⟩ = some (.int .i64 0) ∧ W2.cell? ⟨pr, 3, none⟩ = some (.int .i64 0) ∧ W2.cell? ⟨pr, 4, none⟩ = some (.int .i64 0) ∧ W2.cell? ⟨pr, 5, none⟩ = some (.int .i64 0) ∧ W2.cell? ⟨pr, 6, none⟩ = some (.int .i64 0) ∧ W2.cell? ⟨pr, 7, none⟩ = some (.int .i64 0) ∧ W2.cell? ⟨pr, 8, none⟩ = some (.slice none 0 0) ∧ W2.cell? ⟨pr, 9, none⟩ = some (.int .i64 0) ∧ W2.cell? ⟨pr, 10, none⟩ = some (.int .i64 0) ∧ W2.cell? ⟨pr, 11, none⟩ = some (.int .i64 0) ∧ W2.frozen? ⟨pr, 0, none⟩ = false ∧ W2.frozen? ⟨pr, 1, none⟩ = false ∧ W2.frozen? ⟨pr, 2, none⟩ = false ∧ W2.frozen? ⟨pr, 3, none⟩ = false ∧ W2.frozen? ⟨pr, 4, none⟩ = false ∧ W2.frozen? ⟨pr, 5, none⟩ = false ∧ W2.frozen? ⟨pr, 6, none⟩ = false ∧ W2.frozen? ⟨pr, 7, none⟩ = false ∧ W2.frozen? ⟨pr, 8, none⟩ = false ∧ W2.frozen? ⟨pr, 9, none⟩ = false ∧ W2.frozen? ⟨pr, 10, none⟩ = false ∧ W2.frozen? ⟨pr, 11, none⟩ = false := by simp [World.cell?, World.frozen?, hZ2]
  obtain ⟨f0, hf0⟩ : ∃ f, f = fldI l 0 4 := ⟨_, rfl⟩
  obtain ⟨f1, hf1⟩ : ∃ f, f = fldI l 4 4 := ⟨_, rfl⟩
  obtain ⟨f2, hf2⟩ : ∃ f, f = fldI l 8 8 := ⟨_, rfl⟩
  obtain ⟨f5, hf5⟩ : ∃ f, f = fldI l 32 8 := ⟨_, rfl⟩
  obtain ⟨f6, hf6⟩ : ∃ f, f = fldI l 40 4 := ⟨_, rfl⟩
  obtain ⟨f7, hf7⟩ : ∃ f, f = fldI l 44 4 := ⟨_, rfl⟩
  obtain ⟨f8, hf8⟩ : ∃ f, f = fldI l 48 8 := ⟨_, rfl⟩
  obtain ⟨f9, hf9⟩ : ∃ f, f = fldI l 56 8 := ⟨_, rfl⟩
  have hS : W2.cell? ⟨ng, 0, none⟩ = some (.int .i64 f0) ∧ W2.cell? ⟨ng, 1, none⟩ = some (.int .i64 f1) ∧ W2.cell? ⟨ng, 2, none⟩ = some (.int .i64 f2) ∧ W2.cell? ⟨ng, 5, none⟩ = some (.int .i64 f5) ∧ W2.cell? ⟨ng, 6, none⟩ = some (.int .i64 f6) ∧ W2.cell? ⟨ng, 7, none⟩ = some (.int .i64 f7) ∧ W2.cell? ⟨ng, 8, none⟩ = some (.int .i64 f8) ∧ W2.cell? ⟨ng, 9, none⟩ = some (.int .i64 f9) := ⟨hcell 0 _ (by rw [hf0]; rfl), hcell 1 _ (by rw [hf1]; rfl), hcell 2 _ (by rw [hf2]; rfl), hcell 5 _ (by rw [hf5]; rfl), hcell 6 _ (by rw [hf6]; rfl), hcell 7 _ (by rw [hf7]; rfl), hcell 8 _ (by rw [hf8]; rfl), hcell 9 _ (by rw [hf9]; rfl)⟩
  have hSd : W2.drew.cell? ⟨ng, 0, none⟩ = some (.int .i64 f0) ∧ W2.drew.cell? ⟨ng, 1, none⟩ = some (.int .i64 f1) ∧ W2.drew.cell? ⟨ng, 2, none⟩ = some (.int .i64 f2) ∧ W2.drew.cell? ⟨ng, 5, none⟩ = some (.int .i64 f5) ∧ W2.drew.cell? ⟨ng, 6, none⟩ = some (.int .i64 f6) ∧ W2.drew.cell? ⟨ng, 7, none⟩ = some (.int .i64 f7) ∧ W2.drew.cell? ⟨ng, 8, none⟩ = some (.int .i64 f8) ∧ W2.drew.cell? ⟨ng, 9, none⟩ = some (.int .i64 f9) := hS
  have hPd : W2.drew.cell? ⟨pr, 0, none⟩ = some (.int .i64 0) ∧ W2.drew.cell? ⟨pr, 1, none⟩ = some (.string ⟨#[]⟩) ∧ W2.drew.cell? ⟨pr, 2, none⟩ = some (.int .i64 0) ∧ W2.drew.cell? ⟨pr, 3, none⟩ = some (.int .i64 0) ∧ W2.drew.cell? ⟨pr, 4, none⟩ = some (.int .i64 0) ∧ W2.drew.cell? ⟨pr, 5, none⟩ = some (.int .i64 0) ∧ W2.drew.cell? ⟨pr, 6, none⟩ = some (.int .i64 0) ∧ W2.drew.cell? ⟨pr, 7, none⟩ = some (.int .i64 0) ∧ W2.drew.cell? ⟨pr, 8, none⟩ = some (.slice none 0 0) ∧ W2.drew.cell? ⟨pr, 9, none⟩ = some (.int .i64 0) ∧ W2.drew.cell? ⟨pr, 10, none⟩ = some (.int .i64 0) ∧ W2.drew.cell? ⟨pr, 11, none⟩ = some (.int .i64 0) ∧ W2.drew.frozen? ⟨pr, 0, none⟩ = false ∧ W2.drew.frozen? ⟨pr, 1, none⟩ = false ∧ W2.drew.frozen? ⟨pr, 2, none⟩ = false ∧ W2.drew.frozen? ⟨pr, 3, none⟩ = false ∧ W2.drew.frozen? ⟨pr, 4, none⟩ = false ∧ W2.drew.frozen? ⟨pr, 5, none⟩ = false ∧ W2.drew.frozen? ⟨pr, 6, none⟩ = false ∧ W2.drew.frozen? ⟨pr, 7, none⟩ = false ∧ W2.drew.frozen? ⟨pr, 8, none⟩ = false ∧ W2.drew.frozen? ⟨pr, 9, none⟩ = false ∧ W2.drew.frozen? ⟨pr, 10, none⟩ = false ∧ W2.drew.frozen? ⟨pr, 11, none⟩ = false := hP
  have HKX : Hid (∀ v0 v1 v2 v3 v4 v5 v6 v7 v8 v9 v10 v11 : Value, ((((((((((((W2.setCell ⟨pr, 0, none⟩ v0).setCell ⟨pr, 1, none⟩ v1).setCell ⟨pr, 2, none⟩ v2).setCell ⟨pr, 3, none⟩ v3).setCell ⟨pr, 4, none⟩ v4).setCell ⟨pr, 5, none⟩ v5).setCell ⟨pr, 6, none⟩ v6).setCell ⟨pr, 7, none⟩ v7).setCell ⟨pr, 8, none⟩ v8).setCell ⟨pr, 9, none⟩ v9).setCell ⟨pr, 10, none⟩ v10).setCell ⟨pr, 11, none⟩ v11).drew.cell? ⟨ng, 0, none⟩ = some (.int .i64 f0) ∧ ((((((((((((W2.setCell ⟨pr, 0, none⟩ v0).setCell ⟨pr, 1, none⟩ v1).setCell ⟨pr, 2, none⟩ v2).setCell ⟨pr, 3, none⟩ v3).setCell ⟨pr, 4, none⟩ v4).setCell ⟨pr, 5, none⟩ v5).setCell ⟨pr, 6, none⟩ v6).setCell ⟨pr, 7, none⟩ v7).setCell ⟨pr, 8, none⟩ v8).setCell ⟨pr, 9, none⟩ v9).setCell ⟨pr, 10, none⟩ v10).setCell ⟨pr, 11, none⟩ v11).drew.cell? ⟨ng, 1, none⟩ = some (.int .i64 f1) ∧ ((((((((((((W2.setCell ⟨pr, 0, none⟩ v0).setCell ⟨pr, 1, none⟩ v1).setCell ⟨pr, 2, none⟩ v2).setCell ⟨pr, 3, none⟩ v3).setCell ⟨pr, 4, none⟩ v4).setCell ⟨pr, 5, none⟩ v5).setCell ⟨pr, 6, none⟩ v6).setCell ⟨pr, 7, none⟩ v7).setCell ⟨pr, 8, none⟩ v8).setCell ⟨pr, 9, none⟩ v9).setCell ⟨pr, 10, none⟩ v10).setCell ⟨pr, 11, none⟩ v11).drew.cell? ⟨ng, 2, none⟩ = some (.int .i64 f2) ∧ ((((((((((((W2.setCell ⟨pr, 0, none⟩ v0).setCell ⟨pr, 1, none⟩ v1).setCell ⟨pr, 2, none⟩ v2).setCell ⟨pr, 3, none⟩ v3).setCell ⟨pr, 4, none⟩ v4).setCell ⟨pr, 5, none⟩ v5).setCell ⟨pr, 6, none⟩ v6).setCell ⟨pr, 7, none⟩ v7).setCell ⟨pr, 8, none⟩ v8).setCell ⟨pr, 9, none⟩ v9).setCell ⟨pr, 10, none⟩ v10).setCell ⟨pr, 11, none⟩ v11).drew.cell? ⟨ng, 5, none⟩ = some (.int .i64 f5) ∧ ((((((((((((W2.setCell ⟨pr, 0, none⟩ v0).setCell ⟨pr, 1, none⟩ v1).setCell ⟨pr, 2, none⟩ v2).setCell ⟨pr, 3, none⟩ v3).setCell ⟨pr, 4, none⟩ v4).setCell ⟨pr, 5, none⟩ v5).setCell ⟨pr, 6, none⟩ v6).setCell ⟨pr, 7, none⟩ v7).setCell ⟨pr, 8, none⟩ v8).setCell ⟨pr, 9, none⟩ v9).setCell ⟨pr, 10, none⟩ v10).setCell ⟨pr, 11, none⟩ v11).drew.cell? ⟨ng, 6, none⟩ = some (.int .i64 f6) ∧ ((((((((((((W2.setCell ⟨pr, 0, none⟩ v0).setCell ⟨pr, 1, none⟩ v1).setCell ⟨pr, 2, none⟩ v2).setCell ⟨pr, 3, none⟩ v3).setCell ⟨pr, 4, none⟩ v4).setCell ⟨pr, 5, none⟩ v5).setCell ⟨pr, 6, none⟩ v6).setCell ⟨pr, 7, none⟩ v7).setCell ⟨pr, 8, none⟩ v8).setCell ⟨pr, 9, none⟩ v9).setCell ⟨pr, 10, none⟩ v10).setCell ⟨pr, 11, none⟩ v11).drew.cell? ⟨ng, 7, none⟩ = some (.int .i64 f7) ∧ ((((((((((((W2.setCell ⟨pr, 0, none⟩ v0).setCell ⟨pr, 1, none⟩ v1).setCell ⟨pr, 2, none⟩ v2).setCell ⟨pr, 3, none⟩ v3).setCell ⟨pr, 4, none⟩ v4).setCell ⟨pr, 5, none⟩ v5).setCell ⟨pr, 6, none⟩ v6).setCell ⟨pr, 7, none⟩ v7).setCell ⟨pr, 8, none⟩ v8).setCell ⟨pr, 9, none⟩ v9).setCell ⟨pr, 10, none⟩ v10).setCell ⟨pr, 11, none⟩ v11).drew.cell? ⟨ng, 8, none⟩ = some (.int .i64 f8) ∧ ((((((((((((W2.setCell ⟨pr, 0, none⟩ v0).setCell ⟨pr, 1, none⟩ v1).setCell ⟨pr, 2, none⟩ v2).setCell ⟨pr, 3, none⟩ v3).setCell ⟨pr, 4, none⟩ v4).setCell ⟨pr, 5, none⟩ v5).setCell ⟨pr, 6, none⟩ v6).setCell ⟨pr, 7, none⟩ v7).setCell ⟨pr, 8, none⟩ v8).setCell ⟨pr, 9, none⟩ v9).setCell ⟨pr, 10, none⟩ v10).setCell ⟨pr, 11, none⟩ v11).drew.cell? ⟨ng, 9, none⟩ = some (.int .i64 f9)) := fun v0 v1 v2 v3 v4 v5 v6 v7 v8 v9 v10 v11 => set12_fard (wx := W2) hne hS
  have HE : Hid (enP l place begin = ⟨place, [], f1, f2, f6, f7, f8, f9, f0, begin, begin + f5⟩) := hidOf (by rw [hf0, hf1, hf2, hf5, hf6, hf7, hf8, hf9]; rfl)
  rw [← hf5] at hs0 hs1
  have hwr := wr_add begin f5 hb hs0 hs1
  clear hf0 hf1 hf2 hf5 hf6 hf7 hf8 hf9 hcell hN hZ2 hne HN HF HOf CF0 CF CN
  go_region_held3 (fun wx => wx.cell? ⟨ng, 0, none⟩ = some (.int .i64 f0) ∧ wx.cell? ⟨ng, 1, none⟩ = some (.int .i64 f1) ∧ wx.cell? ⟨ng, 2, none⟩ = some (.int .i64 f2) ∧ wx.cell? ⟨ng, 5, none⟩ = some (.int .i64 f5) ∧ wx.cell? ⟨ng, 6, none⟩ = some (.int .i64 f6) ∧ wx.cell? ⟨ng, 7, none⟩ = some (.int .i64 f7) ∧ wx.cell? ⟨ng, 8, none⟩ = some (.int .i64 f8) ∧ wx.cell? ⟨ng, 9, none⟩ = some (.int .i64 f9)) (first | with_reducible exact hSd | with_reducible exact HKX.out _ _ _ _ _ _ _ _ _ _ _ _ | fail) (fail)
  all_goals
    clear hP hS hPd hSd HKX
    go_wp2
    refine bodyPost_ret (results_cell_row rfl _ _ pr 115 _ (0, 0) _ rfl (set12_heapd HZ2.out) Try.underlying115 rfl sizeEn) rfl ?_
    exact ⟨by rw [HE.out]; rfl, set12_outd (Ho.out.trans HO2.out) (Nat.le_of_eq Hpr.out.symm)⟩
end Go.Proofs.Ytmpbdakmmelmgaa
