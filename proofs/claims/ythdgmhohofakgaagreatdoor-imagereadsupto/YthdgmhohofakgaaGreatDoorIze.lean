import Derived.Test.YthdgmhohofakgaaGreatDoorHw0
import Derived.Test.YthdgmhohofakgaaGreatDoorHw1
import Derived.Test.YthdgmhohofakgaaGreatDoorIka
namespace Go.Proofs.YthdgmhohofakgaaGreatDoor
open Go.RowKit
set_option linter.unusedVariables false
set_option linter.unusedSimpArgs false
theorem own_ty {w : World} {B B' z z' n n' k : Nat} {e e' : TypeId} {v v' : Value} {V V' : List Value} (h : w.ownsRow B e z v n V) (h' : w.ownsRow B' e' z' v' n' V') (he : ¬ e = e') (hk : v.ownBlock = some k) (hk' : v'.ownBlock = some k) : False := by
  rcases h.2 with ⟨rfl, _⟩ | ⟨g, c, cur, rfl, _, hg, _⟩
  · cases hk
  · rcases h'.2 with ⟨rfl, _⟩ | ⟨g', c', cur', rfl, _, hg', _⟩
    · cases hk'
    · have e1 : g = k := by simpa [Value.ownBlock] using hk
      have e2 : g' = k := by simpa [Value.ownBlock] using hk'
      rw [e1] at hg
      rw [e2] at hg'
      have := hg.symm.trans hg'
      simp only [Option.some.injEq, Obj.cells.injEq] at this
      exact he this.2.1
theorem infoBo : (Tryz.prog.info? 4).map (fun i => (i.zero, i.size, i.bytes)) = some (some (.bool false), 1, 1) := by kernel_rfl
def boV (B : List Bool) : List Value := B.map Value.bool
/-- the text so far, in the reading's box -/
structure TxS (w wr : World) (p : Nat) (v0 : Value) (S f d k : Int) (A : List Ins) (B : List Bool) (ta sa : Option Addr) (tn tc sn sc : Nat) : Prop where
  rg : RgA wr p v0 S f d k (.slice ta tn tc) (.slice sa sn sc) 0
  ot : wr.ownsRow w.heap.size 83 5 (.slice ta tn tc) tn (insV A)
  ob : wr.ownsRow w.heap.size 4 1 (.slice sa sn sc) sn (boV B)
  ch : Chg (fun k => k = p) w wr
theorem TxS.out {w wr wx : World} {p : Nat} {v0 : Value} {S f d k : Int} {A : List Ins} {B : List Bool} {ta sa : Option Addr} {tn tc sn sc : Nat} (h : TxS w wr p v0 S f d k A B ta sa tn tc sn sc) (o : Out wr wx) : TxS w wx p v0 S f d k A B ta sa tn tc sn sc :=
  ⟨h.rg.out o, owns_chg (S := fun _ => False) h.ot (fun _ _ h => h) (Chg.of_out o), owns_chg (S := fun _ => False) h.ob (fun _ _ h => h) (Chg.of_out o), h.ch.trans (T := fun _ => False) (Chg.of_out o) (fun _ h _ => h.elim)⟩
theorem TxS.pushB {w wx w8 : World} {p : Nat} {v0 : Value} {S f d k : Int} {A : List Ins} {B : List Bool} {ta sa a' : Option Addr} {tn tc sn sc c' : Nat} {b : Bool} (h : TxS w wx p v0 S f d k A B ta sa tn tc sn sc) (hp : p < w.heap.size) (h1 : w8.ownsRow w.heap.size 4 1 (.slice a' (sn + 1) c') (sn + 1) (boV (B ++ [b]))) (gr : wx.grownBy w8 (Value.slice sa sn sc).ownBlock) : TxS w (w8.setCell ⟨p, 6, none⟩ (.slice a' (sn + 1) c')) p v0 S f d k A (B ++ [b]) ta a' tn tc (sn + 1) c' := by
  have cg : Chg (fun k => (Value.slice sa sn sc).ownBlock = some k) wx w8 := Chg.of_grown gr (fun k h => h)
  have cs := Chg.setCell (S := fun k => k = p) (Chg.refl _ w8) (p := ⟨p, 6, none⟩) rfl (.slice a' (sn + 1) c')
  have np : ¬ (Value.slice sa sn sc).ownBlock = some p := fun e => by have := (h.ob.lt _ e).1; omega
  refine ⟨(h.rg.chg cg np).s6 _, ?_, owns_chg h1 (fun k hk e => by have := (h1.lt k hk).1; omega) cs, ?_⟩
  · exact owns_chg (owns_chg h.ot (fun k hk e => own_ty h.ot h.ob (by decide) hk e) cg) (fun k hk e => by have := (h.ot.lt k hk).1; omega) cs
  · exact (h.ch.trans cg (fun x hx hl => by have := (h.ob.lt _ hx).1; omega)).trans cs (fun _ h _ => h)
theorem TxS.pushT {w wx w8 : World} {p : Nat} {v0 : Value} {S f d k : Int} {A : List Ins} {B : List Bool} {ta sa a' : Option Addr} {tn tc sn sc c' : Nat} {x : Ins} (h : TxS w wx p v0 S f d k A B ta sa tn tc sn sc) (hp : p < w.heap.size) (h1 : w8.ownsRow w.heap.size 83 5 (.slice a' (tn + 1) c') (tn + 1) (insV A ++ x.cs)) (gr : wx.grownBy w8 (Value.slice ta tn tc).ownBlock) : TxS w (w8.setCell ⟨p, 5, none⟩ (.slice a' (tn + 1) c')) p v0 S f d k (A ++ [x]) B a' sa (tn + 1) c' sn sc := by
  have cg : Chg (fun k => (Value.slice ta tn tc).ownBlock = some k) wx w8 := Chg.of_grown gr (fun k h => h)
  have cs := Chg.setCell (S := fun k => k = p) (Chg.refl _ w8) (p := ⟨p, 5, none⟩) rfl (.slice a' (tn + 1) c')
  have np : ¬ (Value.slice ta tn tc).ownBlock = some p := fun e => by have := (h.ot.lt _ e).1; omega
  refine ⟨(h.rg.chg cg np).s5 _, ?_, ?_, ?_⟩
  · rw [insV_snoc]; exact owns_chg h1 (fun k hk e => by have := (h1.lt k hk).1; omega) cs
  · exact owns_chg (owns_chg h.ob (fun k hk e => own_ty h.ob h.ot (by decide) hk e) cg) (fun k hk e => by have := (h.ob.lt k hk).1; omega) cs
  · exact (h.ch.trans cg (fun x hx hl => by have := (h.ot.lt _ hx).1; omega)).trans cs (fun _ h _ => h)
theorem TxS.chg {Z : Nat → Prop} {w wr wx : World} {p : Nat} {v0 : Value} {S f d k : Int} {A : List Ins} {B : List Bool} {ta sa : Option Addr} {tn tc sn sc : Nat} (h : TxS w wr p v0 S f d k A B ta sa tn tc sn sc) (c : Chg Z wr wx) (hp : ¬ Z p) (h1 : ∀ k, (Value.slice ta tn tc).ownBlock = some k → ¬ Z k) (h2 : ∀ k, (Value.slice sa sn sc).ownBlock = some k → ¬ Z k) (h3 : ∀ k, Z k → k < w.heap.size → k = p) : TxS w wx p v0 S f d k A B ta sa tn tc sn sc :=
  ⟨h.rg.chg c hp, owns_chg h.ot h1 c, owns_chg h.ob h2 c, h.ch.trans c (fun x hx hl => h3 x hx hl)⟩
theorem own_not {w : World} {B z n k I : Nat} {e t : TypeId} {v : Value} {V : List Value} {cs : Array Value} (h : w.ownsRow B e z v n V) (hb : w.heap[I]? = some (.cells cs t (0, 0))) (he : ¬ e = t) (hk : v.ownBlock = some k) : ¬ k = I := fun ek => by
  rcases h.2 with ⟨rfl, _⟩ | ⟨g, c, cur, rfl, _, hg, _⟩
  · cases hk
  · have e1 : g = k := by simpa [Value.ownBlock] using hk
    rw [e1, ek] at hg
    have := hg.symm.trans hb
    simp only [Option.some.injEq, Obj.cells.injEq] at this
    exact he this.2.1
/-- a truth appended to truths of the call's own -/
theorem app_Bo {ops : Array Oper} {rest : List Oper} {o : Oper} {ac : Act} {Q : Exit → Act → World → Prop} (w wx : World) (hgd : o.guard = none) (s x : Operand)
    (ho : o.op = .call { callee := .builtin .append, args := #[s, x], argTypes := #[46, 46] })
    (sa : Option Addr) (sc sn : Nat) (B : List Bool) (b : Bool) (hs : ac.eval s = .slice sa sn sc) (hown : wx.ownsRow w.heap.size 4 1 (.slice sa sn sc) sn (boV B)) (hle : w.heap.size ≤ wx.heap.size)
    (ad : Addr) (cm : Nat) (hx : ac.eval x = .slice (some ad) 1 cm) (hc : ∀ j u, ([Value.bool b] : List Value)[j]? = some u → wx.cell? (ad.add j) = some u) (hsz : sn ≤ 1000000000000)
    (k : ∀ a' c' w', w'.ownsRow w.heap.size 4 1 (.slice a' (sn + 1) c') (sn + 1) (boV (B ++ [b])) → wx.grownBy w' (Value.slice sa sn sc).ownBlock → wpList Tryz.prog ops Q rest (ac.put o.dst (.slice a' (sn + 1) c')) w') : wpList Tryz.prog ops Q (o :: rest) ac wx := by
  obtain ⟨i0, hi0, hz0, hz1, hz2⟩ := info_parts infoBo
  refine wpList_append_own wx hgd s x 46 ho w.heap.size 4 i0 _ 1 1 Tryz.underlying46 hi0 hz0 hz1 hz2 rfl (by decide) (.slice sa sn sc) sn (boV B) hs hown ad 1 cm [.bool b] hx rfl hc (by simp [Value.oneCell']) (by unfold maxLen; omega) (by omega) hle ?_
  intro v' w' h1 h2 _
  obtain ⟨a', c', rfl⟩ := own_form h1
  refine k a' c' w' ?_ h2
  rw [show boV (B ++ [b]) = boV B ++ [.bool b] by simp [boV]]
  exact h1
end Go.Proofs.YthdgmhohofakgaaGreatDoor
