import Derived.Test.YtcalbhcgimipeaaElc
namespace Go.Proofs.Ytcalbhcgimipeaa
open Go.RowKit
set_option linter.unusedVariables false
set_option linter.unusedSimpArgs false
/-- an entry of the table: what each field may be -/
structure Rw where
  n : Nat × Nat
  k : Nat × Nat
  f : Nat × Nat
  p : Nat × Nat
  s : Nat × Nat
  l : Nat × Nat
  i : Nat × Nat
  a : Nat × Nat
  e : Nat × Nat
def Rw.cs (r : Rw) : List Value := [.int .u64 r.n.1, .int .u64 r.n.2, .int .u64 r.k.1, .int .u64 r.k.2, .int .u64 r.f.1, .int .u64 r.f.2, .int .u64 r.p.1, .int .u64 r.p.2, .int .u64 r.s.1, .int .u64 r.s.2, .int .u64 r.l.1, .int .u64 r.l.2, .int .u64 r.i.1, .int .u64 r.i.2, .int .u64 r.a.1, .int .u64 r.a.2, .int .u64 r.e.1, .int .u64 r.e.2]
def Rw.fds (r : Rw) : List Fd := [⟨4, r.n.1, r.n.2⟩, ⟨4, r.k.1, r.k.2⟩, ⟨8, r.f.1, r.f.2⟩, ⟨8, 0, 0⟩, ⟨8, r.p.1, r.p.2⟩, ⟨8, r.s.1, r.s.2⟩, ⟨4, r.l.1, r.l.2⟩, ⟨4, r.i.1, r.i.2⟩, ⟨8, r.a.1, r.a.2⟩, ⟨8, r.e.1, r.e.2⟩]
theorem fds_wid (r : Rw) : widF r.fds = 64 := rfl
theorem fds_len (r : Rw) : r.fds.length = 10 := rfl
theorem fds_w (r : Rw) : ∀ f ∈ r.fds, 1 ≤ f.w ∧ f.w ≤ 8 := by
  intro f hf
  simp [Rw.fds] at hf
  rcases hf with rfl | rfl | rfl | rfl | rfl | rfl | rfl | rfl | rfl | rfl <;> simp
def RwAt (w : World) (p : Nat) (r : Rw) : Prop := w.heap[p]? = some (.cells r.cs.toArray 84 (0, 0))
theorem RwAt.cell {w : World} {p : Nat} {r : Rw} (h : RwAt w p r) (j : Nat) : w.cell? ⟨p, j, none⟩ = r.cs.toArray[j]? := by simp [World.cell?, show w.heap[p]? = _ from h]
theorem own_mk {Y : World} {g B n sz : Nat} {cs : Array Value} {T : TypeId} (h : Y.heap[g]? = some (.cells cs T (0, 0))) (hB : B ≤ g) (hs : cs.size = n * sz) (hm : n ≤ 1000000000000) : Y.ownsRow B T sz (.slice (some ⟨g, 0, none⟩) n n) n cs.toList := by
  refine ⟨by simp [hs], .inr ⟨g, n, cs, rfl, hB, h, Nat.le_refl _, by unfold maxLen; omega, hs, ?_⟩⟩
  rw [← hs, ← Array.length_toList, List.take_length]
theorem heap_new2 (W : World) (A B : Obj) : ((W.alloc A).alloc B).heap[W.heap.size + 1]? = some B := by rw [← size_alloc W A]; exact heap_alloc_new _ _
set_option maxRecDepth 8000 in
set_option maxHeartbeats 4000000 in
theorem fields_any (r : Rw) (w : World) : Calls Try.prog 40 #[.agg r.cs.toArray] w fun e w' => ∃ a c, e = .returned (.slice a 10 c) ∧ OwF w.heap.size (.slice a 10 c) r.fds w' ∧ Out w w' := by
  obtain ⟨p, hp⟩ : ∃ p, p = w.heap.size := ⟨_, rfl⟩
  have HR : Hid (RwAt (w.alloc (.cells r.cs.toArray 84)) p r) := by rw [hp]; exact heap_alloc_new w _
  have Ho := hidOf ((Out.refl w).alloc (.cells r.cs.toArray 84))
  obtain ⟨⟨n1, n2⟩, ⟨k1, k2⟩, ⟨f1, f2⟩, ⟨p1, p2⟩, ⟨s1, s2⟩, ⟨l1, l2⟩, ⟨i1, i2⟩, ⟨a1, a2⟩, ⟨e1, e2⟩⟩ := r
  have e0 : w.alloc (.cells (Rw.cs ⟨(n1, n2), (k1, k2), (f1, f2), (p1, p2), (s1, s2), (l1, l2), (i1, i2), (a1, a2), (e1, e2)⟩).toArray 84) = w.alloc (.cells #[.int .u64 n1, .int .u64 n2, .int .u64 k1, .int .u64 k2, .int .u64 f1, .int .u64 f2, .int .u64 p1, .int .u64 p2, .int .u64 s1, .int .u64 s2, .int .u64 l1, .int .u64 l2, .int .u64 i1, .int .u64 i2, .int .u64 a1, .int .u64 a2, .int .u64 e1, .int .u64 e2] 84) := rfl
  rw [e0] at HR Ho
  show Calls Try.prog 40 #[.agg #[.int .u64 n1, .int .u64 n2, .int .u64 k1, .int .u64 k2, .int .u64 f1, .int .u64 f2, .int .u64 p1, .int .u64 p2, .int .u64 s1, .int .u64 s2, .int .u64 l1, .int .u64 l2, .int .u64 i1, .int .u64 i2, .int .u64 a1, .int .u64 a2, .int .u64 e1, .int .u64 e2]] w _
  clear e0
  go_enter Try.func40, Try.ntmps40
  go_upto_region 1 with fail
  rw [← hp]
  have Hp := hidOf hp
  clear hp
  generalize w.alloc (.cells #[.int .u64 n1, .int .u64 n2, .int .u64 k1, .int .u64 k2, .int .u64 f1, .int .u64 f2, .int .u64 p1, .int .u64 p2, .int .u64 s1, .int .u64 s2, .int .u64 l1, .int .u64 l2, .int .u64 i1, .int .u64 i2, .int .u64 a1, .int .u64 a2, .int .u64 e1, .int .u64 e2] 84) = W at *
  have c0 : W.cell? ⟨p, 0, none⟩ = some (.int .u64 (n1 : Int)) := HR.out.cell 0
  have c1 : W.cell? ⟨p, 1, none⟩ = some (.int .u64 (n2 : Int)) := HR.out.cell 1
  have c2 : W.cell? ⟨p, 2, none⟩ = some (.int .u64 (k1 : Int)) := HR.out.cell 2
  have c3 : W.cell? ⟨p, 3, none⟩ = some (.int .u64 (k2 : Int)) := HR.out.cell 3
  have c4 : W.cell? ⟨p, 4, none⟩ = some (.int .u64 (f1 : Int)) := HR.out.cell 4
  have c5 : W.cell? ⟨p, 5, none⟩ = some (.int .u64 (f2 : Int)) := HR.out.cell 5
  have c6 : W.cell? ⟨p, 6, none⟩ = some (.int .u64 (p1 : Int)) := HR.out.cell 6
  have c7 : W.cell? ⟨p, 7, none⟩ = some (.int .u64 (p2 : Int)) := HR.out.cell 7
  have c8 : W.cell? ⟨p, 8, none⟩ = some (.int .u64 (s1 : Int)) := HR.out.cell 8
  have c9 : W.cell? ⟨p, 9, none⟩ = some (.int .u64 (s2 : Int)) := HR.out.cell 9
  have c10 : W.cell? ⟨p, 10, none⟩ = some (.int .u64 (l1 : Int)) := HR.out.cell 10
  have c11 : W.cell? ⟨p, 11, none⟩ = some (.int .u64 (l2 : Int)) := HR.out.cell 11
  have c12 : W.cell? ⟨p, 12, none⟩ = some (.int .u64 (i1 : Int)) := HR.out.cell 12
  have c13 : W.cell? ⟨p, 13, none⟩ = some (.int .u64 (i2 : Int)) := HR.out.cell 13
  have c14 : W.cell? ⟨p, 14, none⟩ = some (.int .u64 (a1 : Int)) := HR.out.cell 14
  have c15 : W.cell? ⟨p, 15, none⟩ = some (.int .u64 (a2 : Int)) := HR.out.cell 15
  have c16 : W.cell? ⟨p, 16, none⟩ = some (.int .u64 (e1 : Int)) := HR.out.cell 16
  have c17 : W.cell? ⟨p, 17, none⟩ = some (.int .u64 (e2 : Int)) := HR.out.cell 17
  have b0 : ∀ O : Obj, (W.alloc O).cell? ⟨p, 0, none⟩ = some (.int .u64 (n1 : Int)) := fun O => cell_later ((Out.refl W).alloc O) c0
  have b1 : ∀ O : Obj, (W.alloc O).cell? ⟨p, 1, none⟩ = some (.int .u64 (n2 : Int)) := fun O => cell_later ((Out.refl W).alloc O) c1
  have b2 : ∀ O : Obj, (W.alloc O).cell? ⟨p, 2, none⟩ = some (.int .u64 (k1 : Int)) := fun O => cell_later ((Out.refl W).alloc O) c2
  have b3 : ∀ O : Obj, (W.alloc O).cell? ⟨p, 3, none⟩ = some (.int .u64 (k2 : Int)) := fun O => cell_later ((Out.refl W).alloc O) c3
  have b4 : ∀ O : Obj, (W.alloc O).cell? ⟨p, 4, none⟩ = some (.int .u64 (f1 : Int)) := fun O => cell_later ((Out.refl W).alloc O) c4
  have b5 : ∀ O : Obj, (W.alloc O).cell? ⟨p, 5, none⟩ = some (.int .u64 (f2 : Int)) := fun O => cell_later ((Out.refl W).alloc O) c5
  have b6 : ∀ O : Obj, (W.alloc O).cell? ⟨p, 6, none⟩ = some (.int .u64 (p1 : Int)) := fun O => cell_later ((Out.refl W).alloc O) c6
  have b7 : ∀ O : Obj, (W.alloc O).cell? ⟨p, 7, none⟩ = some (.int .u64 (p2 : Int)) := fun O => cell_later ((Out.refl W).alloc O) c7
  have b8 : ∀ O : Obj, (W.alloc O).cell? ⟨p, 8, none⟩ = some (.int .u64 (s1 : Int)) := fun O => cell_later ((Out.refl W).alloc O) c8
  have b9 : ∀ O : Obj, (W.alloc O).cell? ⟨p, 9, none⟩ = some (.int .u64 (s2 : Int)) := fun O => cell_later ((Out.refl W).alloc O) c9
  have b10 : ∀ O : Obj, (W.alloc O).cell? ⟨p, 10, none⟩ = some (.int .u64 (l1 : Int)) := fun O => cell_later ((Out.refl W).alloc O) c10
  have b11 : ∀ O : Obj, (W.alloc O).cell? ⟨p, 11, none⟩ = some (.int .u64 (l2 : Int)) := fun O => cell_later ((Out.refl W).alloc O) c11
  have b12 : ∀ O : Obj, (W.alloc O).cell? ⟨p, 12, none⟩ = some (.int .u64 (i1 : Int)) := fun O => cell_later ((Out.refl W).alloc O) c12
  have b13 : ∀ O : Obj, (W.alloc O).cell? ⟨p, 13, none⟩ = some (.int .u64 (i2 : Int)) := fun O => cell_later ((Out.refl W).alloc O) c13
  have b14 : ∀ O : Obj, (W.alloc O).cell? ⟨p, 14, none⟩ = some (.int .u64 (a1 : Int)) := fun O => cell_later ((Out.refl W).alloc O) c14
  have b15 : ∀ O : Obj, (W.alloc O).cell? ⟨p, 15, none⟩ = some (.int .u64 (a2 : Int)) := fun O => cell_later ((Out.refl W).alloc O) c15
  have b16 : ∀ O : Obj, (W.alloc O).cell? ⟨p, 16, none⟩ = some (.int .u64 (e1 : Int)) := fun O => cell_later ((Out.refl W).alloc O) c16
  have b17 : ∀ O : Obj, (W.alloc O).cell? ⟨p, 17, none⟩ = some (.int .u64 (e2 : Int)) := fun O => cell_later ((Out.refl W).alloc O) c17
  go_region_held3 (fun w' => w'.cell? ⟨p, 0, none⟩ = some (.int .u64 (n1 : Int)) ∧ w'.cell? ⟨p, 1, none⟩ = some (.int .u64 (n2 : Int)) ∧ w'.cell? ⟨p, 2, none⟩ = some (.int .u64 (k1 : Int)) ∧ w'.cell? ⟨p, 3, none⟩ = some (.int .u64 (k2 : Int)) ∧ w'.cell? ⟨p, 4, none⟩ = some (.int .u64 (f1 : Int)) ∧ w'.cell? ⟨p, 5, none⟩ = some (.int .u64 (f2 : Int)) ∧ w'.cell? ⟨p, 6, none⟩ = some (.int .u64 (p1 : Int)) ∧ w'.cell? ⟨p, 7, none⟩ = some (.int .u64 (p2 : Int)) ∧ w'.cell? ⟨p, 8, none⟩ = some (.int .u64 (s1 : Int)) ∧ w'.cell? ⟨p, 9, none⟩ = some (.int .u64 (s2 : Int)) ∧ w'.cell? ⟨p, 10, none⟩ = some (.int .u64 (l1 : Int)) ∧ w'.cell? ⟨p, 11, none⟩ = some (.int .u64 (l2 : Int)) ∧ w'.cell? ⟨p, 12, none⟩ = some (.int .u64 (i1 : Int)) ∧ w'.cell? ⟨p, 13, none⟩ = some (.int .u64 (i2 : Int)) ∧ w'.cell? ⟨p, 14, none⟩ = some (.int .u64 (a1 : Int)) ∧ w'.cell? ⟨p, 15, none⟩ = some (.int .u64 (a2 : Int)) ∧ w'.cell? ⟨p, 16, none⟩ = some (.int .u64 (e1 : Int)) ∧ w'.cell? ⟨p, 17, none⟩ = some (.int .u64 (e2 : Int))) (first | exact ⟨c0, c1, c2, c3, c4, c5, c6, c7, c8, c9, c10, c11, c12, c13, c14, c15, c16, c17⟩ | exact ⟨b0 _, b1 _, b2 _, b3 _, b4 _, b5 _, b6 _, b7 _, b8 _, b9 _, b10 _, b11 _, b12 _, b13 _, b14 _, b15 _, b16 _, b17 _⟩ | go_keep) (first | (go_at_call 38; refine (just_any 0 _).mono ?_; rintro e w1 ⟨rfl, rfl⟩))
  clear c0 c1 c2 c3 c4 c5 c6 c7 c8 c9 c10 c11 c12 c13 c14 c15 c16 c17 b0 b1 b2 b3 b4 b5 b6 b7 b8 b9 b10 b11 b12 b13 b14 b15 b16 b17
  go_wp2
  go_ret
  refine ⟨_, _, rfl, ?_, ?_⟩
  · have hs := Ho.out.size
    exact own_mk (n := 10) (sz := 3) (heap_new2 W _ _) (by omega) rfl (by omega)
  · exact ((Ho.out.alloc _).alloc _).drew
end Go.Proofs.Ytcalbhcgimipeaa
