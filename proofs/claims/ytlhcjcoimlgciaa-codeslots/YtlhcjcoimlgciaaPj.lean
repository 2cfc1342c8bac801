import Derived.Test.YtlhcjcoimlgciaaPi
namespace Go.Proofs.Ytlhcjcoimlgciaa
open Go.RowKit
set_option linter.unusedVariables false
set_option linter.unusedSimpArgs false
def Ins.cs (x : Ins) : List Value := [.int .i64 x.o, .int .i64 x.d, .int .i64 x.s, .int .i64 x.f, .int .i64 x.i]
def insV (l : List Ins) : List Value := l.flatMap Ins.cs
theorem insV_len (l : List Ins) : (insV l).length = l.length * 5 := by
  induction l with
  | nil => rfl
  | cons x r ih => show (x.cs ++ insV r).length = _; rw [List.length_append, ih]; simp [Ins.cs]; omega
theorem insV_snoc (l : List Ins) (x : Ins) : insV (l ++ [x]) = insV l ++ x.cs := by simp [insV, List.flatMap_append]
theorem info55 : (Try.prog.info? 25).map (fun i => (i.zero, i.size, i.bytes)) = some (some (.agg #[.int .i64 0, .int .i64 0, .int .i64 0, .int .i64 0, .int .i64 0]), 5, 40) := by kernel_rfl
/-- instructions in memory of the call's own -/
def OwnI (w w' : World) (v : Value) (l : List Ins) : Prop := w'.ownsRow w.heap.size 25 5 v l.length (insV l)
theorem owns_chg {B size : Nat} {S : Nat → Prop} {w w' : World} {e : TypeId} {v : Value} {n : Nat} {xs : List Value} (h : w.ownsRow B e size v n xs) (hs : ∀ k, v.ownBlock = some k → ¬ S k) (hc : Chg S w w') : w'.ownsRow B e size v n xs := by
  refine ⟨h.1, ?_⟩
  rcases h.2 with hn | ⟨g, cap, cur, rfl, hb, hg, rest⟩
  · exact .inl hn
  · refine .inr ⟨g, cap, cur, rfl, hb, ?_, rest⟩
    rw [hc.block g (Array.getElem?_eq_some_iff.1 hg).1 (hs g rfl)]
    exact hg
theorem owns_out {B size : Nat} {w w' : World} {e : TypeId} {v : Value} {n : Nat} {xs : List Value} (h : w.ownsRow B e size v n xs) (o : Out w w') : w'.ownsRow B e size v n xs := owns_chg (S := fun _ => False) h (fun _ _ h => h) (Chg.of_out o)
theorem out_grow {B size n : Nat} {w wr X w1 : World} {e : TypeId} {v : Value} {xs : List Value} (hB : B = w.heap.size) (h : X.ownsRow B e size v n xs) (o : Out w X) (hg : X.grownBy w1 v.ownBlock) : Out w w1 :=
  Chg.out (S := fun k => v.ownBlock = some k) (Chg.of_grown hg (fun k h => h)) o (fun k hk => by have := (h.lt k hk).1; omega)
theorem news_new (w : World) (cs : Array Value) (t : TypeId) (b : Nat) (hb : b = w.heap.size) : ∀ j u, cs.toList[j]? = some u → (w.alloc (.cells cs t)).cell? ((⟨b, 0, none⟩ : Addr).add j) = some u := by
  intro j u hu
  rw [WideShapes.add_plain, Nat.zero_add, cell_fresh _ _ _ _ _ hb]
  simpa using hu
theorem ins_one (x : Ins) : ∀ u ∈ x.cs, u.oneCell' = true := by
  intro u hu
  simp [Ins.cs] at hu
  rcases hu with rfl | rfl | rfl | rfl | rfl <;> rfl
end Go.Proofs.Ytlhcjcoimlgciaa
