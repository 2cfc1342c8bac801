import Derived.Test.YtlfcjbeldnkkoaaGb12
namespace Go.Proofs.Ytlfcjbeldnkkoaa
open Go.RowKit
set_option linter.unusedVariables false
set_option linter.unusedSimpArgs false
set_option maxRecDepth 8000 in
set_option maxHeartbeats 4000000 in
theorem rowAt_mid (w : World) (p g off n c T place begin : Nat) (h0 : w.cell? ⟨p, 0, none⟩ = some (.slice (some ⟨g, off, none⟩) n c)) (h1 : w.cell? ⟨p, 1, none⟩ = some (.int .i64 T)) (hT : T ≤ 1000000000000) (hb : begin ≤ T) (hn : n ≤ 1000000000000) (hn64 : 64 ≤ n) (hp : place ≤ 1000000000000) (hpt : ¬ place = T) (hpn : ¬ place + 64 = n) :
    Calls Try.prog 50 #[.pointer (some ⟨p, 0, none⟩), .int .i64 place, .int .i64 begin] w fun e w' => e = .returned (.agg (rowW T n place begin).cs.toArray) ∧ Out w w' := by
  have hTI : (T : Int) ≤ 1000000000000 := by omega
  have hbI : (begin : Int) ≤ T := by omega
  have hnI : (n : Int) ≤ 1000000000000 := by omega
  have hpI : (place : Int) ≤ 1000000000000 := by omega
  have hn64I : (64 : Int) ≤ n := by omega
  have hlt := World.block_lt_of_cell? w _ h0
  obtain ⟨pr, hpr⟩ : ∃ pr, pr = w.heap.size := ⟨_, rfl⟩
  have HZ : Hid ((w.alloc (.cells #[.int .u64 0, .int .u64 0, .int .u64 0, .int .u64 0, .int .u64 0, .int .u64 0, .int .u64 0, .int .u64 0, .int .u64 0, .int .u64 0, .int .u64 0, .int .u64 0, .int .u64 0, .int .u64 0, .int .u64 0, .int .u64 0, .int .u64 0, .int .u64 0] 79)).heap[pr]? = some (.cells #[.int .u64 0, .int .u64 0, .int .u64 0, .int .u64 0, .int .u64 0, .int .u64 0, .int .u64 0, .int .u64 0, .int .u64 0, .int .u64 0, .int .u64 0, .int .u64 0, .int .u64 0, .int .u64 0, .int .u64 0, .int .u64 0, .int .u64 0, .int .u64 0] 79 (0, 0))) := hidOf (by rw [hpr]; exact heap_alloc_new w _)
  have Ho := hidOf ((Out.refl w).alloc (.cells #[.int .u64 0, .int .u64 0, .int .u64 0, .int .u64 0, .int .u64 0, .int .u64 0, .int .u64 0, .int .u64 0, .int .u64 0, .int .u64 0, .int .u64 0, .int .u64 0, .int .u64 0, .int .u64 0, .int .u64 0, .int .u64 0, .int .u64 0, .int .u64 0] 79))
  have h0' := cell_later Ho.out h0
  have h1' := cell_later Ho.out h1
  clear h0 h1 hlt
  go_enter Try.func50, Try.ntmps50
  go_upto_region 1 with fail
  rw [← hpr]
  have Hpr := hidOf hpr
  clear hpr
  generalize w.alloc (.cells #[.int .u64 0, .int .u64 0, .int .u64 0, .int .u64 0, .int .u64 0, .int .u64 0, .int .u64 0, .int .u64 0, .int .u64 0, .int .u64 0, .int .u64 0, .int .u64 0, .int .u64 0, .int .u64 0, .int .u64 0, .int .u64 0, .int .u64 0, .int .u64 0] 79) = W0 at *
  have U := hidOf (fun k wx => upTo_of (W := W0) k wx)
  have O0 := hidOf (Out.refl W0)
  go_upto_region 3 with (go_at_call 71; refine (U.out _ _ (Hid.out (by assumption))).mono ?_; rintro e wu ⟨rfl, hOu⟩; have HOu := hidOf hOu; clear hOu)
  obtain ⟨b8, hb8⟩ : ∃ b8, b8 = wu.heap.size := ⟨_, rfl⟩
  have HRA : Hid (RA w ((wu.alloc (.cells #[.int .u64 0, .int .u64 ((jw 4294967295 : Nat) : Int)] 76)).alloc (.cells #[.int .u64 0, .int .u64 ((jw 9223372036854775807 : Nat) : Int)] 76)) pr b8 (b8 + 1) (.int .u64 0) (.int .u64 ((jw 4294967295 : Nat) : Int)) (.int .u64 0) (.int .u64 ((jw 9223372036854775807 : Nat) : Int))) := by
    refine ⟨((Ho.out.trans HOu.out).alloc _).alloc _, ?_, ?_, ?_⟩
    · have o := (HOu.out.alloc (.cells #[.int .u64 0, .int .u64 ((jw 4294967295 : Nat) : Int)] 76)).alloc (.cells #[.int .u64 0, .int .u64 ((jw 9223372036854775807 : Nat) : Int)] 76)
      exact (o.block _ (Array.getElem?_eq_some_iff.1 HZ.out).1).trans HZ.out
    · rw [hb8]; exact (Below.heap_alloc _ _ _ (by rw [size_alloc]; omega)).trans (heap_alloc_new wu _)
    · rw [hb8]; exact heap_new2 wu _ _
  have HW4 : Hid (Out W0 ((wu.alloc (.cells #[.int .u64 0, .int .u64 ((jw 4294967295 : Nat) : Int)] 76)).alloc (.cells #[.int .u64 0, .int .u64 ((jw 9223372036854775807 : Nat) : Int)] 76))) := hidOf ((HOu.out.alloc _).alloc _)
  rw [← hb8]
  clear hb8
  generalize (wu.alloc (.cells #[.int .u64 0, .int .u64 ((jw 4294967295 : Nat) : Int)] 76)).alloc (.cells #[.int .u64 0, .int .u64 ((jw 9223372036854775807 : Nat) : Int)] 76) = W4 at *
  have c0 := cell_later HW4.out h0'
  have c1 := cell_later HW4.out h1'
  clear h0' h1' U O0
  have hbeq : ((place : Int) == T) = false := by simp; omega
  have hroom : IntKind.u64.wrap ((T : Int) - begin) = (jw ((T : Int) - begin) : Nat) := jw_wrap _
  have hbeq2 : ((place : Int) == (n : Int) - 64) = false := by simp; omega
  have HR1 : Hid (rowW T n place begin = rowM T begin) := hidOf (by rw [rowW, if_neg hpt, if_neg hpn])
  clear hpt hpn
  go_upto_region 9 with fail
  have J := hidOf (fun k wx => just_of (W := W4) k wx)
  have U := hidOf (fun k wx => upTo_of (W := W4) k wx)
  have O0 := hidOf (Out.refl W4)
  have O1 := hidOf (Out.drew (Out.refl W4))
  have HKS : Hid (∀ wx, Out W4 wx → wx.cell? ⟨b8, 0, none⟩ = some (.int .u64 0) ∧ wx.cell? ⟨b8, 1, none⟩ = some (.int .u64 ((jw 4294967295 : Nat) : Int)) ∧ wx.cell? ⟨b8 + 1, 0, none⟩ = some (.int .u64 0) ∧ wx.cell? ⟨b8 + 1, 1, none⟩ = some (.int .u64 ((jw 9223372036854775807 : Nat) : Int))) := fun wx ho => (HRA.out.on ho).cells.1
  have HKP : Hid (∀ wx, Out W4 wx → wx.cell? ⟨pr, 0, none⟩ = some (.int .u64 0) ∧ wx.cell? ⟨pr, 1, none⟩ = some (.int .u64 0) ∧ wx.cell? ⟨pr, 2, none⟩ = some (.int .u64 0) ∧ wx.cell? ⟨pr, 3, none⟩ = some (.int .u64 0) ∧ wx.cell? ⟨pr, 4, none⟩ = some (.int .u64 0) ∧ wx.cell? ⟨pr, 5, none⟩ = some (.int .u64 0) ∧ wx.cell? ⟨pr, 6, none⟩ = some (.int .u64 0) ∧ wx.cell? ⟨pr, 7, none⟩ = some (.int .u64 0) ∧ wx.cell? ⟨pr, 8, none⟩ = some (.int .u64 0) ∧ wx.cell? ⟨pr, 9, none⟩ = some (.int .u64 0) ∧ wx.cell? ⟨pr, 10, none⟩ = some (.int .u64 0) ∧ wx.cell? ⟨pr, 11, none⟩ = some (.int .u64 0) ∧ wx.cell? ⟨pr, 12, none⟩ = some (.int .u64 0) ∧ wx.cell? ⟨pr, 13, none⟩ = some (.int .u64 0) ∧ wx.cell? ⟨pr, 14, none⟩ = some (.int .u64 0) ∧ wx.cell? ⟨pr, 15, none⟩ = some (.int .u64 0) ∧ wx.cell? ⟨pr, 16, none⟩ = some (.int .u64 0) ∧ wx.cell? ⟨pr, 17, none⟩ = some (.int .u64 0) ∧ wx.frozen? ⟨pr, 0, none⟩ = false ∧ wx.frozen? ⟨pr, 1, none⟩ = false ∧ wx.frozen? ⟨pr, 2, none⟩ = false ∧ wx.frozen? ⟨pr, 3, none⟩ = false ∧ wx.frozen? ⟨pr, 4, none⟩ = false ∧ wx.frozen? ⟨pr, 5, none⟩ = false ∧ wx.frozen? ⟨pr, 6, none⟩ = false ∧ wx.frozen? ⟨pr, 7, none⟩ = false ∧ wx.frozen? ⟨pr, 8, none⟩ = false ∧ wx.frozen? ⟨pr, 9, none⟩ = false ∧ wx.frozen? ⟨pr, 10, none⟩ = false ∧ wx.frozen? ⟨pr, 11, none⟩ = false ∧ wx.frozen? ⟨pr, 12, none⟩ = false ∧ wx.frozen? ⟨pr, 13, none⟩ = false ∧ wx.frozen? ⟨pr, 14, none⟩ = false ∧ wx.frozen? ⟨pr, 15, none⟩ = false ∧ wx.frozen? ⟨pr, 16, none⟩ = false ∧ wx.frozen? ⟨pr, 17, none⟩ = false) := fun wx ho => (HRA.out.on ho).cells.2
  have HKX : Hid (∀ wx, Out W4 wx → ∀ v0 v1 v2 v3 v4 v5 v6 v7 v8 v9 v10 v11 v12 v13 v14 v15 v16 v17 : Value, ((((((((((((((((((wx.setCell ⟨pr, 0, none⟩ v0).setCell ⟨pr, 1, none⟩ v1).setCell ⟨pr, 2, none⟩ v2).setCell ⟨pr, 3, none⟩ v3).setCell ⟨pr, 4, none⟩ v4).setCell ⟨pr, 5, none⟩ v5).setCell ⟨pr, 6, none⟩ v6).setCell ⟨pr, 7, none⟩ v7).setCell ⟨pr, 8, none⟩ v8).setCell ⟨pr, 9, none⟩ v9).setCell ⟨pr, 10, none⟩ v10).setCell ⟨pr, 11, none⟩ v11).setCell ⟨pr, 12, none⟩ v12).setCell ⟨pr, 13, none⟩ v13).setCell ⟨pr, 14, none⟩ v14).setCell ⟨pr, 15, none⟩ v15).setCell ⟨pr, 16, none⟩ v16).setCell ⟨pr, 17, none⟩ v17).cell? ⟨b8, 0, none⟩ = some (.int .u64 0) ∧ ((((((((((((((((((wx.setCell ⟨pr, 0, none⟩ v0).setCell ⟨pr, 1, none⟩ v1).setCell ⟨pr, 2, none⟩ v2).setCell ⟨pr, 3, none⟩ v3).setCell ⟨pr, 4, none⟩ v4).setCell ⟨pr, 5, none⟩ v5).setCell ⟨pr, 6, none⟩ v6).setCell ⟨pr, 7, none⟩ v7).setCell ⟨pr, 8, none⟩ v8).setCell ⟨pr, 9, none⟩ v9).setCell ⟨pr, 10, none⟩ v10).setCell ⟨pr, 11, none⟩ v11).setCell ⟨pr, 12, none⟩ v12).setCell ⟨pr, 13, none⟩ v13).setCell ⟨pr, 14, none⟩ v14).setCell ⟨pr, 15, none⟩ v15).setCell ⟨pr, 16, none⟩ v16).setCell ⟨pr, 17, none⟩ v17).cell? ⟨b8, 1, none⟩ = some (.int .u64 ((jw 4294967295 : Nat) : Int)) ∧ ((((((((((((((((((wx.setCell ⟨pr, 0, none⟩ v0).setCell ⟨pr, 1, none⟩ v1).setCell ⟨pr, 2, none⟩ v2).setCell ⟨pr, 3, none⟩ v3).setCell ⟨pr, 4, none⟩ v4).setCell ⟨pr, 5, none⟩ v5).setCell ⟨pr, 6, none⟩ v6).setCell ⟨pr, 7, none⟩ v7).setCell ⟨pr, 8, none⟩ v8).setCell ⟨pr, 9, none⟩ v9).setCell ⟨pr, 10, none⟩ v10).setCell ⟨pr, 11, none⟩ v11).setCell ⟨pr, 12, none⟩ v12).setCell ⟨pr, 13, none⟩ v13).setCell ⟨pr, 14, none⟩ v14).setCell ⟨pr, 15, none⟩ v15).setCell ⟨pr, 16, none⟩ v16).setCell ⟨pr, 17, none⟩ v17).cell? ⟨b8 + 1, 0, none⟩ = some (.int .u64 0) ∧ ((((((((((((((((((wx.setCell ⟨pr, 0, none⟩ v0).setCell ⟨pr, 1, none⟩ v1).setCell ⟨pr, 2, none⟩ v2).setCell ⟨pr, 3, none⟩ v3).setCell ⟨pr, 4, none⟩ v4).setCell ⟨pr, 5, none⟩ v5).setCell ⟨pr, 6, none⟩ v6).setCell ⟨pr, 7, none⟩ v7).setCell ⟨pr, 8, none⟩ v8).setCell ⟨pr, 9, none⟩ v9).setCell ⟨pr, 10, none⟩ v10).setCell ⟨pr, 11, none⟩ v11).setCell ⟨pr, 12, none⟩ v12).setCell ⟨pr, 13, none⟩ v13).setCell ⟨pr, 14, none⟩ v14).setCell ⟨pr, 15, none⟩ v15).setCell ⟨pr, 16, none⟩ v16).setCell ⟨pr, 17, none⟩ v17).cell? ⟨b8 + 1, 1, none⟩ = some (.int .u64 ((jw 9223372036854775807 : Nat) : Int))) := fun wx ho v0 v1 v2 v3 v4 v5 v6 v7 v8 v9 v10 v11 v12 v13 v14 v15 v16 v17 => set18_far (HRA.out.on ho).ne8 (HRA.out.on ho).ne9 (HKS.out wx ho)
  have s0 := HKS.out W4 O0.out
  go_region_held3 (fun wx => wx.cell? ⟨b8, 0, none⟩ = some (.int .u64 0) ∧ wx.cell? ⟨b8, 1, none⟩ = some (.int .u64 ((jw 4294967295 : Nat) : Int)) ∧ wx.cell? ⟨b8 + 1, 0, none⟩ = some (.int .u64 0) ∧ wx.cell? ⟨b8 + 1, 1, none⟩ = some (.int .u64 ((jw 9223372036854775807 : Nat) : Int))) (first | with_reducible exact s0 | with_reducible exact HKS.out _ (Hid.out (by assumption)) | with_reducible exact HKX.out _ (Hid.out (by assumption)) _ _ _ _ _ _ _ _ _ _ _ _ _ _ _ _ _ _ | fail) (first | (go_at_call 31; refine (J.out _ _ (Hid.out (by assumption))).mono ?_; rintro e wj ⟨rfl, hOj⟩; have HOj := hidOf hOj; clear hOj) | (go_at_call 71; refine (U.out _ _ (Hid.out (by assumption))).mono ?_; rintro e wj ⟨rfl, hOj⟩; have HOj := hidOf hOj; have hz := HKP.out _ hOj; clear hOj) | fail)
  all_goals
    have HRj := hidOf (HRA.out.on HOj.out)
    clear hz s0 HKS HKP HKX J U
    go_wp2
    refine bodyPost_ret (results_cell_row rfl _ _ pr 79 _ (0, 0) _ rfl (set18_heap HRj.out.res) Try.underlying79 rfl sizeRw) rfl ?_
    exact ⟨by rw [HR1.out]; rfl, set18_out HRj.out.out (Nat.le_of_eq Hpr.out.symm)⟩
end Go.Proofs.Ytlfcjbeldnkkoaa
namespace Go.Proofs.Ytlfcjbeldnkkoaa
open Go.RowKit
set_option linter.unusedVariables false
set_option linter.unusedSimpArgs false
set_option maxRecDepth 8000 in
set_option maxHeartbeats 4000000 in
theorem rowAt_last (w : World) (p g off n c T place begin : Nat) (h0 : w.cell? ⟨p, 0, none⟩ = some (.slice (some ⟨g, off, none⟩) n c)) (h1 : w.cell? ⟨p, 1, none⟩ = some (.int .i64 T)) (hT : T ≤ 1000000000000) (hb : begin ≤ T) (hn : n ≤ 1000000000000) (hn64 : 64 ≤ n) (hp : place ≤ 1000000000000) (hpt : ¬ place = T) (hpn : place + 64 = n) :
    Calls Try.prog 50 #[.pointer (some ⟨p, 0, none⟩), .int .i64 place, .int .i64 begin] w fun e w' => e = .returned (.agg (rowW T n place begin).cs.toArray) ∧ Out w w' := by
  have hTI : (T : Int) ≤ 1000000000000 := by omega
  have hbI : (begin : Int) ≤ T := by omega
  have hnI : (n : Int) ≤ 1000000000000 := by omega
  have hpI : (place : Int) ≤ 1000000000000 := by omega
  have hn64I : (64 : Int) ≤ n := by omega
  have hlt := World.block_lt_of_cell? w _ h0
  obtain ⟨pr, hpr⟩ : ∃ pr, pr = w.heap.size := ⟨_, rfl⟩
  have HZ : Hid ((w.alloc (.cells #[.int .u64 0, .int .u64 0, .int .u64 0, .int .u64 0, .int .u64 0, .int .u64 0, .int .u64 0, .int .u64 0, .int .u64 0, .int .u64 0, .int .u64 0, .int .u64 0, .int .u64 0, .int .u64 0, .int .u64 0, .int .u64 0, .int .u64 0, .int .u64 0] 79)).heap[pr]? = some (.cells #[.int .u64 0, .int .u64 0, .int .u64 0, .int .u64 0, .int .u64 0, .int .u64 0, .int .u64 0, .int .u64 0, .int .u64 0, .int .u64 0, .int .u64 0, .int .u64 0, .int .u64 0, .int .u64 0, .int .u64 0, .int .u64 0, .int .u64 0, .int .u64 0] 79 (0, 0))) := hidOf (by rw [hpr]; exact heap_alloc_new w _)
  have Ho := hidOf ((Out.refl w).alloc (.cells #[.int .u64 0, .int .u64 0, .int .u64 0, .int .u64 0, .int .u64 0, .int .u64 0, .int .u64 0, .int .u64 0, .int .u64 0, .int .u64 0, .int .u64 0, .int .u64 0, .int .u64 0, .int .u64 0, .int .u64 0, .int .u64 0, .int .u64 0, .int .u64 0] 79))
  have h0' := cell_later Ho.out h0
  have h1' := cell_later Ho.out h1
  clear h0 h1 hlt
  go_enter Try.func50, Try.ntmps50
  go_upto_region 1 with fail
  rw [← hpr]
  have Hpr := hidOf hpr
  clear hpr
  generalize w.alloc (.cells #[.int .u64 0, .int .u64 0, .int .u64 0, .int .u64 0, .int .u64 0, .int .u64 0, .int .u64 0, .int .u64 0, .int .u64 0, .int .u64 0, .int .u64 0, .int .u64 0, .int .u64 0, .int .u64 0, .int .u64 0, .int .u64 0, .int .u64 0, .int .u64 0] 79) = W0 at *
  have U := hidOf (fun k wx => upTo_of (W := W0) k wx)
  have O0 := hidOf (Out.refl W0)
  go_upto_region 3 with (go_at_call 71; refine (U.out _ _ (Hid.out (by assumption))).mono ?_; rintro e wu ⟨rfl, hOu⟩; have HOu := hidOf hOu; clear hOu)
  obtain ⟨b8, hb8⟩ : ∃ b8, b8 = wu.heap.size := ⟨_, rfl⟩
  have HRA : Hid (RA w ((wu.alloc (.cells #[.int .u64 0, .int .u64 ((jw 4294967295 : Nat) : Int)] 76)).alloc (.cells #[.int .u64 0, .int .u64 ((jw 9223372036854775807 : Nat) : Int)] 76)) pr b8 (b8 + 1) (.int .u64 0) (.int .u64 ((jw 4294967295 : Nat) : Int)) (.int .u64 0) (.int .u64 ((jw 9223372036854775807 : Nat) : Int))) := by
    refine ⟨((Ho.out.trans HOu.out).alloc _).alloc _, ?_, ?_, ?_⟩
    · have o := (HOu.out.alloc (.cells #[.int .u64 0, .int .u64 ((jw 4294967295 : Nat) : Int)] 76)).alloc (.cells #[.int .u64 0, .int .u64 ((jw 9223372036854775807 : Nat) : Int)] 76)
      exact (o.block _ (Array.getElem?_eq_some_iff.1 HZ.out).1).trans HZ.out
    · rw [hb8]; exact (Below.heap_alloc _ _ _ (by rw [size_alloc]; omega)).trans (heap_alloc_new wu _)
    · rw [hb8]; exact heap_new2 wu _ _
  have HW4 : Hid (Out W0 ((wu.alloc (.cells #[.int .u64 0, .int .u64 ((jw 4294967295 : Nat) : Int)] 76)).alloc (.cells #[.int .u64 0, .int .u64 ((jw 9223372036854775807 : Nat) : Int)] 76))) := hidOf ((HOu.out.alloc _).alloc _)
  rw [← hb8]
  clear hb8
  generalize (wu.alloc (.cells #[.int .u64 0, .int .u64 ((jw 4294967295 : Nat) : Int)] 76)).alloc (.cells #[.int .u64 0, .int .u64 ((jw 9223372036854775807 : Nat) : Int)] 76) = W4 at *
  have c0 := cell_later HW4.out h0'
  have c1 := cell_later HW4.out h1'
  clear h0' h1' U O0
  have hbeq : ((place : Int) == T) = false := by simp; omega
  have hroom : IntKind.u64.wrap ((T : Int) - begin) = (jw ((T : Int) - begin) : Nat) := jw_wrap _
  have hbeq2 : ((place : Int) == (n : Int) - 64) = true := by simp; omega
  have HR1 : Hid (rowW T n place begin = rowL T begin) := hidOf (by rw [rowW, if_neg hpt, if_pos hpn])
  have hmax : IntKind.u64.wrap (max ((T : Int) - begin - 7) 0) = (jw (max ((T : Int) - begin - 7) 0) : Nat) := jw_wrap _
  clear hpt hpn
  go_upto_region 8 with fail
  obtain ⟨b10, hb10⟩ : ∃ b10, b10 = W4.heap.size := ⟨_, rfl⟩
  have HRA : Hid (RA w (W4.alloc (.cells #[.int .u64 ((jw (max ((T : Int) - begin - 7) 0) : Nat) : Int), .int .u64 ((jw ((T : Int) - begin) : Nat) : Int)] 76)) pr b8 b10 (.int .u64 0) (.int .u64 ((jw 4294967295 : Nat) : Int)) (.int .u64 ((jw (max ((T : Int) - begin - 7) 0) : Nat) : Int)) (.int .u64 ((jw ((T : Int) - begin) : Nat) : Int))) := by
    have hh := HRA.out.on ((Out.refl W4).alloc (.cells #[.int .u64 ((jw (max ((T : Int) - begin - 7) 0) : Nat) : Int), .int .u64 ((jw ((T : Int) - begin) : Nat) : Int)] 76))
    exact ⟨hh.out, hh.res, hh.s8, by rw [hb10]; exact heap_alloc_new W4 _⟩
  rw [← hb10]
  clear hb10
  generalize W4.alloc (.cells #[.int .u64 ((jw (max ((T : Int) - begin - 7) 0) : Nat) : Int), .int .u64 ((jw ((T : Int) - begin) : Nat) : Int)] 76) = W5 at *
  have J := hidOf (fun k wx => just_of (W := W5) k wx)
  have U := hidOf (fun k wx => upTo_of (W := W5) k wx)
  have O0 := hidOf (Out.refl W5)
  have O1 := hidOf (Out.drew (Out.refl W5))
  have HKS : Hid (∀ wx, Out W5 wx → wx.cell? ⟨b8, 0, none⟩ = some (.int .u64 0) ∧ wx.cell? ⟨b8, 1, none⟩ = some (.int .u64 ((jw 4294967295 : Nat) : Int)) ∧ wx.cell? ⟨b10, 0, none⟩ = some (.int .u64 ((jw (max ((T : Int) - begin - 7) 0) : Nat) : Int)) ∧ wx.cell? ⟨b10, 1, none⟩ = some (.int .u64 ((jw ((T : Int) - begin) : Nat) : Int))) := fun wx ho => (HRA.out.on ho).cells.1
  have HKP : Hid (∀ wx, Out W5 wx → wx.cell? ⟨pr, 0, none⟩ = some (.int .u64 0) ∧ wx.cell? ⟨pr, 1, none⟩ = some (.int .u64 0) ∧ wx.cell? ⟨pr, 2, none⟩ = some (.int .u64 0) ∧ wx.cell? ⟨pr, 3, none⟩ = some (.int .u64 0) ∧ wx.cell? ⟨pr, 4, none⟩ = some (.int .u64 0) ∧ wx.cell? ⟨pr, 5, none⟩ = some (.int .u64 0) ∧ wx.cell? ⟨pr, 6, none⟩ = some (.int .u64 0) ∧ wx.cell? ⟨pr, 7, none⟩ = some (.int .u64 0) ∧ wx.cell? ⟨pr, 8, none⟩ = some (.int .u64 0) ∧ wx.cell? ⟨pr, 9, none⟩ = some (.int .u64 0) ∧ wx.cell? ⟨pr, 10, none⟩ = some (.int .u64 0) ∧ wx.cell? ⟨pr, 11, none⟩ = some (.int .u64 0) ∧ wx.cell? ⟨pr, 12, none⟩ = some (.int .u64 0) ∧ wx.cell? ⟨pr, 13, none⟩ = some (.int .u64 0) ∧ wx.cell? ⟨pr, 14, none⟩ = some (.int .u64 0) ∧ wx.cell? ⟨pr, 15, none⟩ = some (.int .u64 0) ∧ wx.cell? ⟨pr, 16, none⟩ = some (.int .u64 0) ∧ wx.cell? ⟨pr, 17, none⟩ = some (.int .u64 0) ∧ wx.frozen? ⟨pr, 0, none⟩ = false ∧ wx.frozen? ⟨pr, 1, none⟩ = false ∧ wx.frozen? ⟨pr, 2, none⟩ = false ∧ wx.frozen? ⟨pr, 3, none⟩ = false ∧ wx.frozen? ⟨pr, 4, none⟩ = false ∧ wx.frozen? ⟨pr, 5, none⟩ = false ∧ wx.frozen? ⟨pr, 6, none⟩ = false ∧ wx.frozen? ⟨pr, 7, none⟩ = false ∧ wx.frozen? ⟨pr, 8, none⟩ = false ∧ wx.frozen? ⟨pr, 9, none⟩ = false ∧ wx.frozen? ⟨pr, 10, none⟩ = false ∧ wx.frozen? ⟨pr, 11, none⟩ = false ∧ wx.frozen? ⟨pr, 12, none⟩ = false ∧ wx.frozen? ⟨pr, 13, none⟩ = false ∧ wx.frozen? ⟨pr, 14, none⟩ = false ∧ wx.frozen? ⟨pr, 15, none⟩ = false ∧ wx.frozen? ⟨pr, 16, none⟩ = false ∧ wx.frozen? ⟨pr, 17, none⟩ = false) := fun wx ho => (HRA.out.on ho).cells.2
  have HKX : Hid (∀ wx, Out W5 wx → ∀ v0 v1 v2 v3 v4 v5 v6 v7 v8 v9 v10 v11 v12 v13 v14 v15 v16 v17 : Value, ((((((((((((((((((wx.setCell ⟨pr, 0, none⟩ v0).setCell ⟨pr, 1, none⟩ v1).setCell ⟨pr, 2, none⟩ v2).setCell ⟨pr, 3, none⟩ v3).setCell ⟨pr, 4, none⟩ v4).setCell ⟨pr, 5, none⟩ v5).setCell ⟨pr, 6, none⟩ v6).setCell ⟨pr, 7, none⟩ v7).setCell ⟨pr, 8, none⟩ v8).setCell ⟨pr, 9, none⟩ v9).setCell ⟨pr, 10, none⟩ v10).setCell ⟨pr, 11, none⟩ v11).setCell ⟨pr, 12, none⟩ v12).setCell ⟨pr, 13, none⟩ v13).setCell ⟨pr, 14, none⟩ v14).setCell ⟨pr, 15, none⟩ v15).setCell ⟨pr, 16, none⟩ v16).setCell ⟨pr, 17, none⟩ v17).cell? ⟨b8, 0, none⟩ = some (.int .u64 0) ∧ ((((((((((((((((((wx.setCell ⟨pr, 0, none⟩ v0).setCell ⟨pr, 1, none⟩ v1).setCell ⟨pr, 2, none⟩ v2).setCell ⟨pr, 3, none⟩ v3).setCell ⟨pr, 4, none⟩ v4).setCell ⟨pr, 5, none⟩ v5).setCell ⟨pr, 6, none⟩ v6).setCell ⟨pr, 7, none⟩ v7).setCell ⟨pr, 8, none⟩ v8).setCell ⟨pr, 9, none⟩ v9).setCell ⟨pr, 10, none⟩ v10).setCell ⟨pr, 11, none⟩ v11).setCell ⟨pr, 12, none⟩ v12).setCell ⟨pr, 13, none⟩ v13).setCell ⟨pr, 14, none⟩ v14).setCell ⟨pr, 15, none⟩ v15).setCell ⟨pr, 16, none⟩ v16).setCell ⟨pr, 17, none⟩ v17).cell? ⟨b8, 1, none⟩ = some (.int .u64 ((jw 4294967295 : Nat) : Int)) ∧ ((((((((((((((((((wx.setCell ⟨pr, 0, none⟩ v0).setCell ⟨pr, 1, none⟩ v1).setCell ⟨pr, 2, none⟩ v2).setCell ⟨pr, 3, none⟩ v3).setCell ⟨pr, 4, none⟩ v4).setCell ⟨pr, 5, none⟩ v5).setCell ⟨pr, 6, none⟩ v6).setCell ⟨pr, 7, none⟩ v7).setCell ⟨pr, 8, none⟩ v8).setCell ⟨pr, 9, none⟩ v9).setCell ⟨pr, 10, none⟩ v10).setCell ⟨pr, 11, none⟩ v11).setCell ⟨pr, 12, none⟩ v12).setCell ⟨pr, 13, none⟩ v13).setCell ⟨pr, 14, none⟩ v14).setCell ⟨pr, 15, none⟩ v15).setCell ⟨pr, 16, none⟩ v16).setCell ⟨pr, 17, none⟩ v17).cell? ⟨b10, 0, none⟩ = some (.int .u64 ((jw (max ((T : Int) - begin - 7) 0) : Nat) : Int)) ∧ ((((((((((((((((((wx.setCell ⟨pr, 0, none⟩ v0).setCell ⟨pr, 1, none⟩ v1).setCell ⟨pr, 2, none⟩ v2).setCell ⟨pr, 3, none⟩ v3).setCell ⟨pr, 4, none⟩ v4).setCell ⟨pr, 5, none⟩ v5).setCell ⟨pr, 6, none⟩ v6).setCell ⟨pr, 7, none⟩ v7).setCell ⟨pr, 8, none⟩ v8).setCell ⟨pr, 9, none⟩ v9).setCell ⟨pr, 10, none⟩ v10).setCell ⟨pr, 11, none⟩ v11).setCell ⟨pr, 12, none⟩ v12).setCell ⟨pr, 13, none⟩ v13).setCell ⟨pr, 14, none⟩ v14).setCell ⟨pr, 15, none⟩ v15).setCell ⟨pr, 16, none⟩ v16).setCell ⟨pr, 17, none⟩ v17).cell? ⟨b10, 1, none⟩ = some (.int .u64 ((jw ((T : Int) - begin) : Nat) : Int))) := fun wx ho v0 v1 v2 v3 v4 v5 v6 v7 v8 v9 v10 v11 v12 v13 v14 v15 v16 v17 => set18_far (HRA.out.on ho).ne8 (HRA.out.on ho).ne9 (HKS.out wx ho)
  have s0 := HKS.out W5 O0.out
  go_region_held3 (fun wx => wx.cell? ⟨b8, 0, none⟩ = some (.int .u64 0) ∧ wx.cell? ⟨b8, 1, none⟩ = some (.int .u64 ((jw 4294967295 : Nat) : Int)) ∧ wx.cell? ⟨b10, 0, none⟩ = some (.int .u64 ((jw (max ((T : Int) - begin - 7) 0) : Nat) : Int)) ∧ wx.cell? ⟨b10, 1, none⟩ = some (.int .u64 ((jw ((T : Int) - begin) : Nat) : Int))) (first | with_reducible exact s0 | with_reducible exact HKS.out _ (Hid.out (by assumption)) | with_reducible exact HKX.out _ (Hid.out (by assumption)) _ _ _ _ _ _ _ _ _ _ _ _ _ _ _ _ _ _ | fail) (first | (go_at_call 31; refine (J.out _ _ (Hid.out (by assumption))).mono ?_; rintro e wj ⟨rfl, hOj⟩; have HOj := hidOf hOj; have hz := HKP.out _ hOj; clear hOj) | (go_at_call 71; refine (U.out _ _ (Hid.out (by assumption))).mono ?_; rintro e wj ⟨rfl, hOj⟩; have HOj := hidOf hOj; clear hOj) | fail)
  all_goals
    have HRj := hidOf (HRA.out.on HOj.out)
    clear hz s0 HKS HKP HKX J U
    go_wp2
    refine bodyPost_ret (results_cell_row rfl _ _ pr 79 _ (0, 0) _ rfl (set18_heap HRj.out.res) Try.underlying79 rfl sizeRw) rfl ?_
    exact ⟨by rw [HR1.out]; rfl, set18_out HRj.out.out (Nat.le_of_eq Hpr.out.symm)⟩
end Go.Proofs.Ytlfcjbeldnkkoaa
