import Derived.Test.YtekjfbmebekmeaaGreatGa13
import Derived.Lib.MinMax
namespace Go.Proofs.YtekjfbmebekmeaaGreat.Bo
open Go.RowKit
set_option linter.unusedVariables false
set_option linter.unusedSimpArgs false
def Bks (p : Nat) (fa ha ma ka wa : Value) (F : List (Value × List Int)) (k : Nat) : Prop := k = p ∨ fa.ownBlock = some k ∨ ha.ownBlock = some k ∨ ma.ownBlock = some k ∨ ka.ownBlock = some k ∨ wa.ownBlock = some k ∨ Frs F k
structure Ph1 (B : Nat) (w0 w : World) (p : Nat) (c0 c1 : Int) (fa ha ma ka wa : Value) (F : List (Value × List Int)) (n : Nat) (hs : List Value) (M : List Int) (K W : List Value) (i : Nat) : Prop where
  arr : Arr B w p c0 c1 fa ha ma ka wa ((F.take n).map Prod.fst) hs M K W
  fr : Fresh B w (mixF F M i)
  kep : Kep B (Frs F) w K W
  chg : Chg (Bks p fa ha ma ka wa (F.take n)) w0 w
theorem frs_mix : ∀ (F : List (Value × List Int)) (M : List Int) (i k : Nat), Frs (mixF F M i) k ↔ Frs F k
  | [], M, i, k => by cases M <;> cases i <;> exact Iff.rfl
  | x :: F, [], i, k => by simp [mixF]
  | x :: F, m :: M, 0, k => by simp [mixF]
  | x :: F, m :: M, i + 1, k => by
    have ih := frs_mix F M i k
    constructor
    · rintro ⟨y, hy, hk⟩
      rcases List.mem_cons.1 hy with rfl | hy
      · exact ⟨x, List.mem_cons_self, hk⟩
      · obtain ⟨z, hz, hk⟩ := ih.1 ⟨y, hy, hk⟩
        exact ⟨z, List.mem_cons_of_mem _ hz, hk⟩
    · rintro ⟨y, hy, hk⟩
      rcases List.mem_cons.1 hy with rfl | hy
      · exact ⟨(y.1, markB y.2.length m), List.mem_cons_self, hk⟩
      · obtain ⟨z, hz, hk⟩ := ih.2 ⟨y, hy, hk⟩
        exact ⟨z, List.mem_cons_of_mem _ hz, hk⟩
theorem Ph1.step {B : Nat} {w0 w w' : World} {p : Nat} {c0 c1 : Int} {fa ha ma ka wa : Value} {F : List (Value × List Int)} {n : Nat} {hs : List Value} {M : List Int} {K W : List Value} {i : Nat} (h : Ph1 B w0 w p c0 c1 fa ha ma ka wa F n hs M K W i)
    {v : Value} {l : List Int} {m : Int} (hin : i < n) (hx : F[i]? = some (v, l)) (hm : M[i]? = some m) (c : Chg (fun k => v.ownBlock = some k) w w') (hv : w'.ownsRow B 5 1 v (markB l.length m).length (bV (markB l.length m))) : Ph1 B w0 w' p c0 c1 fa ha ma ka wa F n hs M K W (i + 1) := by
  obtain ⟨s1, s2⟩ := mixF_step F M i (v, l) m hx hm
  have hown := h.fr.at s1
  have hFv : ∀ k, v.ownBlock = some k → Frs F k := fun k hk => ⟨(v, l), List.mem_of_getElem? hx, hk⟩
  have hFn : ∀ k, v.ownBlock = some k → Frs (F.take n) k := fun k hk => ⟨(v, l), List.mem_of_getElem? (by rw [List.getElem?_take, if_pos hin]; exact hx), hk⟩
  refine ⟨h.arr.chg8 c (fun k _ hk => isT8_of hown hk), ?_, h.kep.chg c (fun k hs _ hk => hs (hFv k hk)) (fun _ _ h => h), h.chg.trans c (fun k hk _ => .inr (.inr (.inr (.inr (.inr (.inr (hFn k hk)))))))⟩
  rw [s2]
  exact h.fr.put s1 c hv
theorem Ph1.out {B : Nat} {w0 w w' : World} {p : Nat} {c0 c1 : Int} {fa ha ma ka wa : Value} {F : List (Value × List Int)} {n : Nat} {hs : List Value} {M : List Int} {K W : List Value} {i : Nat} (h : Ph1 B w0 w p c0 c1 fa ha ma ka wa F n hs M K W i) (o : Out w w') : Ph1 B w0 w' p c0 c1 fa ha ma ka wa F n hs M K W i :=
  ⟨h.arr.out o, h.fr.out o, h.kep.out o, h.chg.trans (Chg.of_out (S := fun _ => False) o) (fun _ h _ => h.elim)⟩
theorem mixF_fst : ∀ (F : List (Value × List Int)) (M : List Int) (i : Nat), (mixF F M i).map Prod.fst = F.map Prod.fst
  | [], M, i => by cases M <;> cases i <;> rfl
  | _ :: _, [], _ => by simp [mixF]
  | _ :: _, _ :: _, 0 => by simp [mixF]
  | _ :: F, _ :: M, i + 1 => by simp [mixF, mixF_fst F M i]
theorem mixF_at : ∀ (F : List (Value × List Int)) (M : List Int) (n i : Nat) (x : Value × List Int) (m : Int), i < n → F[i]? = some x → M[i]? = some m → (mixF F M n)[i]? = some (x.1, markB x.2.length m)
  | [], _, _, _, _, _, _, h, _ => by simp at h
  | _ :: _, [], _, _, _, _, _, _, h => by simp at h
  | _ :: _, _ :: _, 0, _, _, _, hlt, _, _ => by omega
  | y :: F, z :: M, n + 1, 0, x, m, _, h, k => by simp at h k; subst h k; rfl
  | y :: F, z :: M, n + 1, i + 1, x, m, hlt, h, k => by
    have := mixF_at F M n i x m (by omega) (by simpa using h) (by simpa using k)
    simpa [mixF] using this
theorem frs_fst {F G : List (Value × List Int)} (h : F.map Prod.fst = G.map Prod.fst) (k : Nat) : Frs F k ↔ Frs G k := by
  have key : ∀ {F G : List (Value × List Int)}, F.map Prod.fst = G.map Prod.fst → Frs F k → Frs G k := by
    rintro F G h ⟨x, hx, hk⟩
    have : x.1 ∈ G.map Prod.fst := by rw [← h]; exact List.mem_map_of_mem hx
    obtain ⟨y, hy, e⟩ := List.mem_map.1 this
    exact ⟨y, hy, by rw [e]; exact hk⟩
  exact ⟨key h, key h.symm⟩
structure Ph2 (B : Nat) (U : Nat → Prop) (w0 w : World) (p : Nat) (c0 c1 : Int) (fa ha ma ka0 wa0 ka wa : Value) (F2 : List (Value × List Int)) (nf : Nat) (hs : List Value) (M : List Int) (k0 : Nat) (K W : List Value) (ga : Value) (G : List Value) (i : Nat) : Prop where
  arr : Arr B w p c0 c1 fa ha ma ka wa ((F2.take nf).map Prod.fst) hs M K W
  ga_ : w.ownsRow B 29 1 ga G.length G
  gf : Dis ga fa
  gh : Dis ga ha
  gk : Dis ga ka
  gw : Dis ga wa
  fr : Fresh B w (F2.drop i)
  kep : Kep B (Frs (F2.drop i)) w K W
  grd : ∀ g ∈ G, ∃ l, Rd B (Frs (F2.drop i)) w g l
  gl : G.length = 4 * i
  kl : K.length = k0 + 2 * i
  kb : ∀ k, ka.ownBlock = some k → ka0.ownBlock = some k ∨ w0.heap.size ≤ k
  wb : ∀ k, wa.ownBlock = some k → wa0.ownBlock = some k ∨ w0.heap.size ≤ k
  gb : ∀ k, ga.ownBlock = some k → w0.heap.size ≤ k
  gn : Lens G 60000000004000
  chg : Chg U w0 w
theorem Ph2.it {B : Nat} {U : Nat → Prop} {w0 w : World} {p : Nat} {c0 c1 : Int} {fa ha ma ka0 wa0 ka wa : Value} {F2 : List (Value × List Int)} {nf : Nat} {hs : List Value} {M : List Int} {k0 : Nat} {K W : List Value} {ga : Value} {G : List Value} {i : Nat} (h : Ph2 B U w0 w p c0 c1 fa ha ma ka0 wa0 ka wa F2 nf hs M k0 K W ga G i) {v : Value} {l : List Int} (hx : F2[i]? = some (v, l)) :
    It B U w0 w p c0 c1 fa ha ma ka wa ((F2.take nf).map Prod.fst) hs M K W ga G v l.length (F2.drop (i + 1)) l K W G := by
  have hi := (List.getElem?_eq_some_iff.1 hx).1
  have hd : F2.drop i = (v, l) :: F2.drop (i + 1) := by
    rw [List.drop_eq_getElem_cons hi, (List.getElem?_eq_some_iff.1 hx).2]
  have hfr := h.fr
  rw [hd] at hfr
  have hS : ∀ k, (v.ownBlock = some k ∨ Frs (F2.drop (i + 1)) k) ↔ Frs (F2.drop i) k := by
    intro k
    rw [hd]
    constructor
    · rintro (hk | ⟨x, hx, hk⟩)
      · exact ⟨_, List.mem_cons_self, hk⟩
      · exact ⟨x, List.mem_cons_of_mem _ hx, hk⟩
    · rintro ⟨x, hx, hk⟩
      rcases List.mem_cons.1 hx with rfl | hx
      · exact .inl hk
      · exact .inr ⟨x, hx, hk⟩
  have hp := List.pairwise_cons.1 hfr.2
  refine ⟨h.arr, h.ga_, h.gf, h.gh, h.gk, h.gw, kn_of rfl (hfr.1 (v, l) List.mem_cons_self), ⟨fun x hx => hfr.1 x (List.mem_cons_of_mem _ hx), hp.2⟩, fun x hx => hp.1 x hx, ?_, ?_, h.chg⟩
  · exact h.kep.chg (Chg.refl (fun _ => False) _) (fun _ _ _ h => h) (fun k _ hk hk2 => hk ((hS k).1 hk2))
  · intro g hg
    obtain ⟨l', hr⟩ := h.grd g hg
    exact ⟨l', hr.mono (fun k hk hk2 => hk ((hS k).1 hk2))⟩
theorem Ph2.next {B : Nat} {U : Nat → Prop} {w0 w w' : World} {p : Nat} {c0 c1 : Int} {fa ha ma ka0 wa0 ka wa ka2 wa2 : Value} {F2 : List (Value × List Int)} {nf : Nat} {hs : List Value} {M : List Int} {k0 : Nat} {K W : List Value} {ga ga' : Value} {G gs : List Value} {i N n2 B1 B2 : Nat} {v g4 x1 x2 : Value} {L l l4 : List Int} (hP : Ph2 B U w0 w p c0 c1 fa ha ma ka0 wa0 ka wa F2 nf hs M k0 K W ga G i)
    (hI : It B U w0 w' p c0 c1 fa ha ma ka2 wa2 ((F2.take nf).map Prod.fst) hs M (K ++ [v] ++ [g4]) (W ++ [x1] ++ [x2]) ga' (G ++ gs) v N (F2.drop (i + 1)) L K W G) (hgs : gs.length = 4)
    (hS : Grs B (fun k => v.ownBlock = some k ∨ Frs (F2.drop (i + 1)) k) w' v L gs) (hQ : Gr B (fun k => v.ownBlock = some k ∨ Frs (F2.drop (i + 1)) k) w' v L g4 l4) (hT : L.take N = l) (hN : l.length = N)
    (hx1 : w'.ownsRow B1 5 1 x1 N (bV l)) (hB1 : B ≤ B1) (hS1 : ∀ k, Frs (F2.drop (i + 1)) k → k < B1) (hx2 : w'.ownsRow B2 5 1 x2 n2 (bV l4)) (h4 : l4.length = n2) (hB2 : B ≤ B2) (hS2 : ∀ k, Frs (F2.drop (i + 1)) k → k < B2)
    (kb : ∀ k, ka2.ownBlock = some k → ka0.ownBlock = some k ∨ w0.heap.size ≤ k) (wb : ∀ k, wa2.ownBlock = some k → wa0.ownBlock = some k ∨ w0.heap.size ≤ k) (gb : ∀ k, ga'.ownBlock = some k → w0.heap.size ≤ k) (gn : Lens gs 60000000004000) :
    Ph2 B U w0 w' p c0 c1 fa ha ma ka0 wa0 ka2 wa2 F2 nf hs M k0 (K ++ [v] ++ [g4]) (W ++ [x1] ++ [x2]) ga' (G ++ gs) (i + 1) := by
  have hv : ∀ k, v.ownBlock = some k → ¬ Frs (F2.drop (i + 1)) k := fun k hk ⟨x, hx, hk2⟩ => hI.dv x hx k hk hk2
  refine ⟨hI.arr, hI.ga_, hI.gf, hI.gh, hI.gk, hI.gw, hI.fr, ?_, ?_, ?_, ?_, kb, wb, gb, ?_, hI.chg⟩
  · refine ((hI.kep.chg (Chg.refl (fun _ => False) _) (fun _ _ _ h => h) (fun k _ hk hk2 => hk (.inr hk2))).snoc (l := l) ?_ ?_).snoc (l := l4) ?_ ?_
    · have h := hI.kn.owns
      rw [hT, ← hN] at h
      exact rd_of_owns h hv
    · exact rd_new hx1 hN hB1 hS1
    · exact hQ.rest hI.kn (fun k hk => .inr hk) hv
    · exact rd_new hx2 h4 hB2 hS2
  · intro g hg
    rcases List.mem_append.1 hg with hg | hg
    · obtain ⟨l', hr⟩ := hI.grd g hg
      exact ⟨l', hr.mono (fun k hk hk2 => hk (.inr hk2))⟩
    · obtain ⟨l', hr⟩ := hS g hg
      exact ⟨l', hr.rest hI.kn (fun k hk => .inr hk) hv⟩
  · rw [List.length_append, hgs, hP.gl]; omega
  · simp only [List.length_append, List.length_cons, List.length_nil]; rw [hP.kl]; omega
  · intro g hg
    rcases List.mem_append.1 hg with hg | hg
    · exact hP.gn g hg
    · exact gn g hg
theorem Ph2.exit {B : Nat} {U : Nat → Prop} {w0 w : World} {p : Nat} {c0 c1 : Int} {fa ha ma ka0 wa0 ka wa : Value} {F2 : List (Value × List Int)} {nf : Nat} {hs : List Value} {M : List Int} {k0 : Nat} {K W : List Value} {ga : Value} {G : List Value} {n : Nat} (h : Ph2 B U w0 w p c0 c1 fa ha ma ka0 wa0 ka wa F2 nf hs M k0 K W ga G n) :
    It B U w0 w p c0 c1 fa ha ma ka wa ((F2.take nf).map Prod.fst) hs M K W ga G (.slice none 0 0) 0 (F2.drop n) [] K W G := by
  have hS : ∀ k, ((Value.slice none 0 0).ownBlock = some k ∨ Frs (F2.drop n) k) → Frs (F2.drop n) k := by
    rintro k (hk | hk)
    · simp [Value.ownBlock] at hk
    · exact hk
  refine ⟨h.arr, h.ga_, h.gf, h.gh, h.gk, h.gw, .inl ⟨rfl, rfl, rfl⟩, h.fr, (fun x _ k hk => by simp [Value.ownBlock] at hk), ?_, ?_, h.chg⟩
  · exact h.kep.chg (Chg.refl (fun _ => False) _) (fun _ _ _ h => h) (fun k _ hk hk2 => hk (hS k hk2))
  · intro g hg
    obtain ⟨l, hr⟩ := h.grd g hg
    exact ⟨l, hr.mono (fun k hk hk2 => hk (hS k hk2))⟩
set_option maxRecDepth 20000 in
set_option maxHeartbeats 2000000 in
theorem books_write (w : World) (B p : Nat) (c0 c1 : Int) (fa ha ma ka wa : Value) (F : List (Value × List Int)) (n : Nat) (hs : List Value) (M : List Int) (K W : List Value)
    (hA : Arr B w p c0 c1 fa ha ma ka wa ((F.take n).map Prod.fst) hs M K W) (hF : Fresh B w F) (hK : Kep B (Frs F) w K W) (hP : Pairs w ((F.take n).map Prod.fst) hs) (hM : M.length = n) (hH : hs.length = n) (h0 : 0 < n) (hn : n ≤ F.length)
    (bF : n ≤ 1000) (bK : K.length ≤ 700000000000) (bl : ∀ x ∈ F, x.2.length ≤ 60000000000000) (bm : ∀ m ∈ M, 0 ≤ m ∧ m ≤ 10000000000000) (bc : 0 ≤ c1) :
    Calls Tryz.prog 39 #[.pointer (some ⟨p, 0, none⟩)] w fun e w' => (∃ r, e = .returned r) ∧ ∃ ka' wa' K' W', Arr B w' p c0 c1 (.slice none 0 0) (.slice none 0 0) (.slice none 0 0) ka' wa' [] [] [] K' W' ∧ Kep B (Frs (F.drop n)) w' K' W' ∧ K'.length ≤ K.length + 6 * n ∧ Chg (Bks p fa ha ma ka wa (F.take n)) w w' := by
  have Hn := hidOf hn
  have hn0 : 0 < n := h0
  have hn1 : n ≤ 1000 := bF
  have hfn : ((F.take n).map Prod.fst).length = n := by simp; omega
  have Hfn := hidOf hfn
  have hmn : M.length = n := hM
  have hhn : hs.length = n := hH
  obtain ⟨gf, cf, rfl⟩ : ∃ gf cf, fa = .slice (some ⟨gf, 0, none⟩) n cf := by
    have := row_form hA.fa_ (by omega); rw [hfn] at this; exact this
  obtain ⟨gm, cm, rfl⟩ : ∃ gm cm, ma = .slice (some ⟨gm, 0, none⟩) n cm := by
    have := row_form hA.ma_ (by omega); rw [hmn] at this; exact this
  have HU := hidOf (books_untouched w B p (.int .i64 c0) (.int .i64 c1) _ ha _ ka wa n _ _ (by omega) hA.st (by have := hA.fa_; rw [hfn] at this; exact this) (by have := hA.ha_; rw [hhn] at this; exact this) hP)
  have H1 : Hid (Ph1 B w w p c0 c1 (.slice (some ⟨gf, 0, none⟩) n cf) ha (.slice (some ⟨gm, 0, none⟩) n cm) ka wa F n hs M K W 0) := ⟨hA, by rw [mixF_zero]; exact hF, hK, Chg.refl _ _⟩
  have HM := hidOf hM
  have Hbl := hidOf bl
  have Hbm := hidOf bm
  have Hmn := hidOf hmn
  clear hA hF hK hP hM hH bl bm hmn hfn hhn h0 bF hn
  go_enter Tryz.func39, Tryz.ntmps39
  go_wp2_with (go_at_call 40; refine HU.out.mono ?_; rintro e w' ⟨⟨r, rfl⟩, m, rfl⟩)
  have H1' := hidOf (H1.out.out ((Out.refl w).drewN m))
  clear H1 HU
  go_loopw [2] (fun iv wr => ∃ i : Nat, i ≤ n ∧ iv = .int .i64 i ∧ Hid (Ph1 B w wr p c0 c1 (.slice (some ⟨gf, 0, none⟩) n cf) ha (.slice (some ⟨gm, 0, none⟩) n cm) ka wa F n hs M K W i)) (fun iv _ => n - (intOf iv).toNat)
  case atStart => exact ⟨0, by omega, rfl, H1'⟩
  case round =>
    obtain ⟨i, hi, rfl, HP⟩ := hrel
    have hc3 : wr.cell? ⟨p, 3, none⟩ = some (.slice (some ⟨gf, 0, none⟩) n cf) := HP.out.arr.st.cell 3
    have hc5 : wr.cell? ⟨p, 5, none⟩ = some (.slice (some ⟨gm, 0, none⟩) n cm) := HP.out.arr.st.cell 5
    by_cases hin : i < n
    · have hlt : (i : Int) < n := by omega
      obtain ⟨⟨v, l⟩, hx⟩ : ∃ x, F[i]? = some x := ⟨_, List.getElem?_eq_getElem (by have := Hn.out; omega)⟩
      obtain ⟨mk, hmk⟩ : ∃ x, M[i]? = some x := ⟨_, List.getElem?_eq_getElem (by have := Hmn.out; omega)⟩
      have hl : l.length ≤ 60000000000000 := Hbl.out (v, l) (List.mem_of_getElem? hx)
      have hmb := Hbm.out mk (List.mem_of_getElem? hmk)
      have hmb1 := hmb.1
      have hmb2 := hmb.2
      have hq1 : wr.cell? ⟨gf, i, none⟩ = some v := row_cell (by have := HP.out.arr.fa_; rw [Hfn.out] at this; exact this) (by rw [List.getElem?_map, List.getElem?_take, if_pos hin, hx]; rfl)
      have hq2 : wr.cell? ⟨gm, i, none⟩ = some (.int .i64 mk) := row_cell (by have := HP.out.arr.ma_; rw [Hmn.out] at this; exact this) (by rw [List.getElem?_map, hmk]; rfl)
      have Hx := hidOf hx
      have Hmk := hidOf hmk
      have hown2 : wr.ownsRow B 5 1 v l.length (bV l) := HP.out.fr.at (mixF_step F M i (v, l) mk hx hmk).1
      have hl' : l.length ≤ 60000000000000 := hl
      obtain ⟨a, c, rfl, hA1, hcap⟩ := owns_bytA hown2
      have Hown := hidOf hown2
      obtain ⟨N, HN⟩ : ∃ N, Hid (l.length = N) := ⟨_, hidOf rfl⟩
      rw [HN.out] at hq1 hl' hcap
      clear hown2 hl
      clear hx hmk hmb hA1
      go_upto_region 4 with fail
      go_region_held3 (fun w' => w'.cell? ⟨p, 3, none⟩ = some (.slice (some ⟨gf, 0, none⟩) n cf) ∧ w'.cell? ⟨p, 5, none⟩ = some (.slice (some ⟨gm, 0, none⟩) n cm) ∧ w'.cell? ⟨gf, i, none⟩ = some (.slice a N c) ∧ w'.cell? ⟨gm, i, none⟩ = some (.int .i64 mk)) (go_keep)
        (first | (go_at_call 74; refine (marked_any _ N mk (by omega) hmb1 (by omega)).mono ?_; rintro e w1 ⟨g1, rfl, hown1, ho1⟩; have e3 := cell_later ho1 (show wr.drew.cell? _ = _ from hc3); have e5 := cell_later ho1 (show wr.drew.cell? _ = _ from hc5); have eq1 := cell_later ho1 (show wr.drew.cell? _ = _ from hq1); have eq2 := cell_later ho1 (show wr.drew.cell? _ = _ from hq2)))
      have Ho1 := hidOf (Out.trans ((Out.refl wr).drewN 1) ho1)
      have Hown1 := hidOf hown1
      clear hown1 ho1
      have HP1 := hidOf (HP.out.out Ho1.out)
      have hlt1 : Hid (g1 ≥ wr.heap.size) := (World.ownsRow.lt Hown1.out g1 rfl).1
      go_wp2
      go_loopw [4] (fun kv wq => ∃ k : Nat, k ≤ N ∧ kv = .int .i64 k ∧ Hid (wq.ownsRow B 5 1 (.slice a N c) N (bV ((markB l.length mk).take k ++ l.drop k))) ∧ Hid (Chg (fun x => (Value.slice a N c).ownBlock = some x) w1 wq)) (fun kv _ => N - (intOf kv).toNat)
      case atStart =>
        refine ⟨0, by omega, rfl, ?_, hidOf (Chg.refl _ _)⟩
        have h := owns_out Hown.out Ho1.out
        rw [HN.out] at h
        simpa [Hid] using h
      case round =>
        obtain ⟨k, hk, rfl, Ho, Hc⟩ := hrel
        by_cases hkN : k < N
        · have hklt : (k : Int) < N := by omega
          obtain ⟨g, c', hac⟩ := row_form Ho.out (by omega)
          injection hac with ha1 _ hc1
          subst ha1 hc1
          obtain ⟨d1, d2⟩ := owns_cell Ho.out hkN
          have hgne : g1 ≠ g := by
            have h1 := (World.ownsRow.lt Hown.out g rfl).2
            have h2 := hlt1.out
            omega
          have em := (owns_cell (n := N) (by have := Hown1.out; rw [markB_len] at this; exact this) hkN).1
          have em' := Hc.out.cell em (by intro h; exact hgne (Option.some.inj h).symm)
          have e3' : wr.cell? ⟨p, 3, none⟩ = some (.slice (some ⟨gf, 0, none⟩) n cf) := Hc.out.cell e3 (fun h => st_notT8 HP1.out.arr.st (by obtain rfl := Option.some.inj h; exact isT8_of (owns_out Hown.out Ho1.out) rfl))
          have eq1' : wr.cell? ⟨gf, i, none⟩ = some (.slice (some ⟨g, 0, none⟩) N c) := Hc.out.cell eq1 (fun h => notT8 HP1.out.arr.fa_ (by decide) rfl (by obtain rfl := Option.some.inj h; exact isT8_of (owns_out Hown.out Ho1.out) rfl))
          generalize hz1 : gB ((markB l.length mk).take k ++ l.drop k) k = z1 at d1
          generalize hz2 : gB (markB N mk) k = z2 at em em'
          clear em e3 e5 eq1 eq2
          have hpg : p ≠ g := fun h => st_notT8 HP1.out.arr.st (by rw [h]; exact isT8_of (owns_out Hown.out Ho1.out) rfl)
          have hfg : gf ≠ g := fun h => notT8 HP1.out.arr.fa_ (by decide) rfl (by rw [h]; exact isT8_of (owns_out Hown.out Ho1.out) rfl)
          have hpg' : g ≠ p := fun h => hpg h.symm
          have hfg' : g ≠ gf := fun h => hfg h.symm
          have hgne' : g ≠ g1 := fun h => hgne h.symm
          have Hset : Hid (((markB l.length mk).take k ++ l.drop k).set k z2 = (markB l.length mk).take (k + 1) ++ l.drop (k + 1)) := by
            show _ = _
            rw [← hz2, ← HN.out]
            exact set_take_drop l (markB l.length mk) k (markB_len _ _) (by have := HN.out; omega)
          have Hz1 := hidOf hz1
          have Hz2 := hidOf hz2
          clear hz1 hz2
          have h0k : (0 : Int) ≤ (k : Int) := by omega
          have h0i : (0 : Int) ≤ (i : Int) := by omega
          go_upto_region 8 with fail
          go_region_held3 (fun w' => w'.cell? ⟨p, 3, none⟩ = some (.slice (some ⟨gf, 0, none⟩) n cf) ∧ w'.cell? ⟨gf, i, none⟩ = some (.slice (some ⟨g, 0, none⟩) N c) ∧ w'.cell? ⟨g1, k, none⟩ = some (.int .u8 z2)) (go_keep) (fail)
          go_wp2
          go_roundw
          case rel =>
            refine ⟨k + 1, by omega, by simp, ?_, ?_⟩
            · have h := owns_store Ho.out hkN z2
              rw [Hset.out] at h
              exact h
            · exact hidOf (Chg.setCell (Hc.out.trans (Chg.drew (Chg.refl (fun _ => False) _)) (fun _ h _ => h.elim)) (p := ⟨g, k, none⟩) rfl _)
          case measure => simp [intOf]; omega
        · have hklt : ¬ (k : Int) < N := by omega
          obtain rfl : k = N := by omega
          go_wp2
          go_roundw
          case rel =>
            refine ⟨i + 1, by omega, by simp, hidOf (HP1.out.step hin Hx.out Hmk.out ?_ ?_)⟩
            · rw [HN.out]; exact Hc.out
            · have h := Ho.out
              rw [List.take_of_length_le (by rw [markB_len, HN.out]; exact Nat.le_refl _), List.drop_of_length_le (by rw [HN.out]; exact Nat.le_refl _), List.append_nil] at h
              rw [markB_len, HN.out]
              rw [HN.out] at h
              exact h
          case measure => simp [intOf]; omega
    · have hlt : ¬ (i : Int) < n := by omega
      obtain rfl : n = i := by omega
      obtain ⟨i8, hi8, hz0, hz1, hz2⟩ := info_parts info8
      obtain ⟨i30, hi30, hy0, hy1, hy2⟩ := info_parts info31
      go_wp2
      clear hc3 hc5
      obtain ⟨F2, HF2⟩ : ∃ F2, Hid (mixF F M n = F2) := ⟨_, hidOf rfl⟩
      obtain ⟨U, HU⟩ : ∃ U, Hid (Bks p (.slice (some ⟨gf, 0, none⟩) n cf) ha (.slice (some ⟨gm, 0, none⟩) n cm) ka wa (F.take n) = U) := ⟨_, hidOf rfl⟩
      have Hfst0 : Hid (F2.map Prod.fst = F.map Prod.fst) := by show _ = _; rw [← HF2.out]; exact mixF_fst F M n
      have Hfst : Hid ((F2.take n).map Prod.fst = (F.take n).map Prod.fst) := by show _ = _; rw [List.map_take, Hfst0.out, List.map_take]
      have H2 : Hid (Ph2 B U w wr p c0 c1 (.slice (some ⟨gf, 0, none⟩) n cf) ha (.slice (some ⟨gm, 0, none⟩) n cm) ka wa ka wa F2 n hs M K.length K W (.slice none 0 0) [] 0) := by
        have hP := HP.out
        refine ⟨?_, World.ownsRow_nil _ _ _ _, (fun k h => by simp [Value.ownBlock] at h), (fun k h => by simp [Value.ownBlock] at h), (fun k h => by simp [Value.ownBlock] at h), (fun k h => by simp [Value.ownBlock] at h), ?_, ?_, (fun g hg => by cases hg), rfl, by simp, (fun k h => .inl h), (fun k h => .inl h), (fun k h => by simp [Value.ownBlock] at h), (fun g hg => by cases hg), ?_⟩
        · rw [Hfst.out]; exact hP.arr
        · rw [List.drop_zero, ← HF2.out]; exact hP.fr
        · rw [List.drop_zero]
          exact hP.kep.chg (Chg.refl (fun _ => False) _) (fun _ _ _ h => h) (fun k _ hk hk2 => hk (by rw [← HF2.out] at hk2; exact (frs_mix F M n k).1 hk2))
        · rw [← HU.out]; exact hP.chg
      clear HP H1'
      go_loopw [5, 6] (fun gv iv wq => ∃ (i : Nat) (ka' wa' : Value) (K' W' G : List Value), i ≤ n ∧ iv = .int .i64 i ∧ Hid (Ph2 B U w wq p c0 c1 (.slice (some ⟨gf, 0, none⟩) n cf) ha (.slice (some ⟨gm, 0, none⟩) n cm) ka wa ka' wa' F2 n hs M K.length K' W' gv G i)) (fun _ iv _ => n - (intOf iv).toNat)
      case atStart => exact ⟨0, ka, wa, K, W, [], by omega, rfl, H2⟩
      case round =>
        obtain ⟨i, ka', wa', K', W', G, hi2, rfl, HP⟩ := hrel
        have hc3 : wr.cell? ⟨p, 3, none⟩ = some (.slice (some ⟨gf, 0, none⟩) n cf) := HP.out.arr.st.cell 3
        by_cases hin : i < n
        · have hlt2 : (i : Int) < n := by omega
          have hc5 : wr.cell? ⟨p, 5, none⟩ = some (.slice (some ⟨gm, 0, none⟩) n cm) := HP.out.arr.st.cell 5
          obtain ⟨⟨v, l0⟩, hx⟩ : ∃ x, F[i]? = some x := ⟨_, List.getElem?_eq_getElem (by have := Hn.out; omega)⟩
          obtain ⟨mk, hmk⟩ : ∃ x, M[i]? = some x := ⟨_, List.getElem?_eq_getElem (by have := Hmn.out; omega)⟩
          have hl0 : l0.length ≤ 60000000000000 := Hbl.out (v, l0) (List.mem_of_getElem? hx)
          have hmb := Hbm.out mk (List.mem_of_getElem? hmk)
          have hmb1 := hmb.1
          have hmb2 := hmb.2
          have hx2 : F2[i]? = some (v, markB l0.length mk) := by rw [← HF2.out]; exact mixF_at F M n i (v, l0) mk hin hx hmk
          have hq1 : wr.cell? ⟨gf, i, none⟩ = some v := row_cell (by have := HP.out.arr.fa_; rw [Hfst.out, Hfn.out] at this; exact this) (by rw [List.getElem?_map, List.getElem?_take, if_pos hin, hx]; rfl)
          have hq2 : wr.cell? ⟨gm, i, none⟩ = some (.int .i64 mk) := row_cell (by have := HP.out.arr.ma_; rw [Hmn.out] at this; exact this) (by rw [List.getElem?_map, hmk]; rfl)
          obtain ⟨N, HN⟩ : ∃ N, Hid (l0.length = N) := ⟨_, hidOf rfl⟩
          obtain ⟨l, Hl⟩ : ∃ l, Hid (markB N mk = l) := ⟨_, hidOf rfl⟩
          have Hln : Hid (l.length = N) := by show _ = _; rw [← Hl.out, markB_len]
          rw [HN.out] at hl0 hx2
          rw [Hl.out] at hx2
          have HI := hidOf (HP.out.it hx2)
          obtain ⟨a, c, hv, hA1, hcap⟩ := owns_bytA (HP.out.fr.1 (v, l) (by rw [List.drop_eq_getElem_cons (List.getElem?_eq_some_iff.1 hx2).1]; rw [(List.getElem?_eq_some_iff.1 hx2).2]; exact List.mem_cons_self))
          simp only at hv hcap
          rw [Hln.out] at hv hcap
          subst hv
          have HvU : Hid (∀ k, (Value.slice a N c).ownBlock = some k → k < w.heap.size → U k) := fun k hk _ => by
            rw [← HU.out]; exact .inr (.inr (.inr (.inr (.inr (.inr ⟨(_, l0), List.mem_of_getElem? (by rw [List.getElem?_take, if_pos hin]; exact hx), hk⟩)))))
          rw [Hln.out] at HI
          have Hx := hidOf hx
          have Hx2 := hidOf hx2
          have Hmk := hidOf hmk
          clear hx hx2 hmk hmb hA1
          go_upto_region 15 with fail
          generalize mk % 256 = mb
          clear hc3 hc5 hq1 hq2
          go_upto_region 16 with (at_builtin; go_loud (refine wpList_append_two rfl (.tmp 87) (.tmp 90) 29 rfl B 5 i8 (.int .u8 0) 1 Tryz.underlying29 hi8 hz0 hz1 hz2 rfl (.slice a N c) N (bV (l.take N)) rfl (HI.out.out ((Out.refl wr).alloc _)).kn.owns ⟨wr.heap.size, 0, none⟩ 1 1 [.int .u8 ((mb + 101) % 256)] (by omega) rfl rfl (news_new _ #[.int .u8 ((mb + 101) % 256)] _ _ rfl) (bV_one [(mb + 101) % 256]) (by omega) (by omega) (Nat.le_trans HI.out.arr.bw (by rw [size_alloc]; omega)) ?_); intro g1 w1 hown1 hgrow1 hat1; obtain ⟨ga1, gc1, rfl⟩ := hat1.form; have Hat1 := hidOf hat1; have Hgr1 := hidOf hgrow1; have Hown1 := hidOf hown1; clear hat1 hgrow1 hown1)
          obtain ⟨L1, I1, t1, le1, c1', G1, _⟩ := HI.out.append HvU.out ((Out.refl wr).alloc _) (zs := [(mb + 101) % 256]) rfl (by rw [Hln.out]; exact Nat.le_refl _) Hat1.out Hgr1.out Hown1.out
          have HI1 := hidOf I1
          have HT1 : Hid (L1.take N = l) := by show _ = _; rw [t1, List.take_of_length_le (by rw [Hln.out]; exact Nat.le_refl _)]
          have HL1 : Hid (l.length ≤ L1.length) := by show _ ≤ _; exact le1
          have HG1 := hidOf G1
          clear I1 t1 G1
          clear c1' le1
          go_upto_region 17 with (at_builtin; go_loud (refine wpList_append_two rfl (.tmp 92) (.tmp 97) 29 rfl B 5 i8 (.int .u8 0) 1 Tryz.underlying29 hi8 hz0 hz1 hz2 rfl (.slice a N c) N (bV (L1.take N)) rfl (HI1.out.out ((Out.refl w1).alloc _)).kn.owns ⟨w1.heap.size, 0, none⟩ 2 2 [.int .u8 ((mb + 102) % 256), .int .u8 ((mb + 103) % 256)] (by omega) rfl rfl (news_new _ #[.int .u8 ((mb + 102) % 256), .int .u8 ((mb + 103) % 256)] _ _ rfl) (bV_one [(mb + 102) % 256, (mb + 103) % 256]) (by omega) (by omega) (Nat.le_trans HI1.out.arr.bw (by rw [size_alloc]; omega)) ?_); intro g2 w2 hown2 hgrow2 hat2; obtain ⟨ga2, gc2, rfl⟩ := hat2.form; have Hat2 := hidOf hat2; have Hgr2 := hidOf hgrow2; have Hown2 := hidOf hown2; clear hat2 hgrow2 hown2)
          obtain ⟨L2, I2, t2, le2, c2', G2, _⟩ := HI1.out.append HvU.out ((Out.refl w1).alloc _) (zs := [(mb + 102) % 256, (mb + 103) % 256]) rfl (by have := Hln.out; have := HL1.out; omega) Hat2.out Hgr2.out Hown2.out
          have HI2 := hidOf I2
          have HT2 : Hid (L2.take N = l) := by show _ = _; rw [t2, HT1.out]
          have HL2 : Hid (l.length ≤ L2.length) := by show _ ≤ _; have := HL1.out; omega
          have HG2 := hidOf G2
          clear I2 t2 G2
          obtain ⟨_, J1⟩ := HG1.out.step c2' (fun k hk => .inl hk) le2
          have HG1 := hidOf J1
          clear J1
          clear c2' le2
          go_upto_region 18 with (at_builtin; go_loud (refine wpList_append_two rfl (.tmp 99) (.tmp 106) 29 rfl B 5 i8 (.int .u8 0) 1 Tryz.underlying29 hi8 hz0 hz1 hz2 rfl (.slice a N c) N (bV (L2.take N)) rfl (HI2.out.out ((Out.refl w2).alloc _)).kn.owns ⟨w2.heap.size, 0, none⟩ 3 3 [.int .u8 ((mb + 104) % 256), .int .u8 ((mb + 105) % 256), .int .u8 ((mb + 106) % 256)] (by omega) rfl rfl (news_new _ #[.int .u8 ((mb + 104) % 256), .int .u8 ((mb + 105) % 256), .int .u8 ((mb + 106) % 256)] _ _ rfl) (bV_one [(mb + 104) % 256, (mb + 105) % 256, (mb + 106) % 256]) (by omega) (by omega) (Nat.le_trans HI2.out.arr.bw (by rw [size_alloc]; omega)) ?_); intro g3 w3 hown3 hgrow3 hat3; obtain ⟨ga3, gc3, rfl⟩ := hat3.form; have Hat3 := hidOf hat3; have Hgr3 := hidOf hgrow3; have Hown3 := hidOf hown3; clear hat3 hgrow3 hown3)
          obtain ⟨L3, I3, t3, le3, c3', G3, _⟩ := HI2.out.append HvU.out ((Out.refl w2).alloc _) (zs := [(mb + 104) % 256, (mb + 105) % 256, (mb + 106) % 256]) rfl (by have := Hln.out; have := HL2.out; omega) Hat3.out Hgr3.out Hown3.out
          have HI3 := hidOf I3
          have HT3 : Hid (L3.take N = l) := by show _ = _; rw [t3, HT2.out]
          have HL3 : Hid (l.length ≤ L3.length) := by show _ ≤ _; have := HL2.out; omega
          have HG3 := hidOf G3
          clear I3 t3 G3
          obtain ⟨_, J1⟩ := HG1.out.step c3' (fun k hk => .inl hk) le3
          have HG1 := hidOf J1
          clear J1
          obtain ⟨_, J2⟩ := HG2.out.step c3' (fun k hk => .inl hk) le3
          have HG2 := hidOf J2
          clear J2
          clear c3' le3
          have hc1 : w3.cell? ⟨p, 1, none⟩ = some (.int .i64 c1) := HI3.out.arr.st.cell 1
          have hc5 : w3.cell? ⟨p, 5, none⟩ = some (.slice (some ⟨gm, 0, none⟩) n cm) := HI3.out.arr.st.cell 5
          have hq2 : w3.cell? ⟨gm, i, none⟩ = some (.int .i64 mk) := row_cell (by have := HI3.out.arr.ma_; rw [Hmn.out] at this; exact this) (by rw [List.getElem?_map, Hmk.out]; rfl)
          obtain ⟨q, hq, hq0, hq3⟩ : ∃ q : Int, min c1 3000 = q ∧ 0 ≤ q ∧ q ≤ 3000 := ⟨min c1 3000, rfl, by omega, by omega⟩
          obtain ⟨R, HR⟩ : ∃ R : Nat, Hid (q + 70 = (R : Int)) := ⟨(q + 70).toNat, by show _ = _; omega⟩
          have hR0 : 70 ≤ R := by have := HR.out; omega
          have HRw : Hid (IntKind.i64.wrap (q + 70) = (R : Int)) := by show _ = _; rw [IntKind.wrap_i64]; have := HR.out; omega
          have HMw : Hid (IntKind.i64.wrap (mk + 107) = mk + 107) := by show _ = _; rw [IntKind.wrap_i64]; omega
          have hR1 : R ≤ 3070 := by have := HR.out; omega
          have h0i : (0 : Int) ≤ (i : Int) := by omega
          go_region_held3 (fun w' => w'.cell? ⟨p, 1, none⟩ = some (.int .i64 c1) ∧ w'.cell? ⟨p, 5, none⟩ = some (.slice (some ⟨gm, 0, none⟩) n cm) ∧ w'.cell? ⟨gm, i, none⟩ = some (.int .i64 mk)) (first | exact ⟨hc1, hc5, hq2⟩ | exact ⟨e1, e5, eq2⟩)
            (first | (go_at_call 74; go_loud (refine (marked_two _ _ _ R (mk + 107) HRw.out HMw.out (by omega) (by omega) (by omega)).mono ?_); rintro e w4 ⟨g4m, rfl, hown4, ho4⟩; have e1 := cell_later ho4 (show w3.drew.cell? _ = _ from hc1); have e5 := cell_later ho4 (show w3.drew.cell? _ = _ from hc5); have eq2 := cell_later ho4 (show w3.drew.cell? _ = _ from hq2)))
          rw [HRw.out, HMw.out]
          have Ho34 : Hid (Out w3 w4) := Out.trans ((Out.refl w3).drewN 1) ho4
          have HI4 := hidOf (HI3.out.out Ho34.out)
          have HH1 := hidOf (HG1.out.out Ho34.out)
          have HH2 := hidOf (HG2.out.out Ho34.out)
          have HH3 := hidOf (HG3.out.out Ho34.out)
          obtain ⟨mo, Hmo⟩ : ∃ mo, Hid (markB R (mk + 107) = mo) := ⟨_, hidOf rfl⟩
          have Hmol : Hid (mo.length = R) := by show _ = _; rw [← Hmo.out, markB_len]
          have Hown4 : Hid (w4.ownsRow w3.heap.size 5 1 (.slice (some ⟨g4m, 0, none⟩) R R) R (bV mo)) := by
            have h := hown4
            rw [markB_len, Hmo.out] at h
            exact h
          have Hg4 : Hid (w3.heap.size ≤ g4m ∧ g4m < w4.heap.size) := World.ownsRow.lt Hown4.out g4m rfl
          have Hv3 : Hid (∀ k, (Value.slice a N c).ownBlock = some k → k < w3.heap.size) := fun k hk => (HI3.out.kn.isT8 hk).lt
          clear hown4 ho4 e1 e5 eq2 hc1 hc5 hq2 HG1 HG2 HG3 hq
          go_wp2
          go_loopw [13, 14] (fun gv kv wq => ∃ (k : Nat) (L4 : List Int) (a4 : Option Addr) (c4 : Nat), k ≤ R ∧ kv = .int .i64 k ∧ gv = .slice a4 (N + k) c4 ∧ Hid (Kn B wq (.slice a N c) N L4) ∧ Hid (L4.take N = l) ∧ Hid (L3.length ≤ L4.length) ∧ Hid (Chg (fun x => (Value.slice a N c).ownBlock = some x) w4 wq) ∧ Hid (G4 B w4 wq (.slice a N c) L4 (.slice a4 (N + k) c4) (N + k) (l ++ mo.take k))) (fun _ kv _ => R - (intOf kv).toNat)
          case atStart =>
            refine ⟨0, L3, a, c, by omega, rfl, rfl, hidOf HI4.out.kn, HT3, hidOf (Nat.le_refl _), hidOf (Chg.refl _ _), hidOf (.inl ⟨HI4.out.kn, rfl, ?_⟩)⟩
            simp only [List.take_zero, List.append_nil, Nat.add_zero]; exact HT3.out
          case round =>
            obtain ⟨k, L4, a4, c4, hk, rfl, rfl, HK4, HT4, HLe4, HC4, HGG⟩ := hrel
            by_cases hkR : k < R
            · have hklt : (k : Int) < R := by omega
              have hcell : wr.cell? ⟨g4m, k, none⟩ = some (.int .u8 (gB mo k)) := HC4.out.cell (owns_cell Hown4.out hkR).1 (fun h => by have h1 : g4m < w3.heap.size := Hv3.out g4m h; have h2 := Hg4.out.1; omega)
              have Htk : Hid (mo.take (k + 1) = mo.take k ++ [gB mo k]) := by
                show _ = _
                rw [List.take_add_one, List.getElem?_eq_getElem (by have := Hmol.out; omega)]
                simp [gB, List.getD, List.getElem?_eq_getElem (show k < mo.length by have := Hmol.out; omega)]
              have Hlq : Hid ((l ++ mo.take k).length = N + k) := by
                show _ = _
                rw [List.length_append, List.length_take, Hln.out, Hmol.out, Nat.min_eq_left hk]
              generalize gB mo k = z at hcell Htk
              go_wp2_with (at_builtin; go_loud (refine wpList_append_two rfl (.tmp 130) (.tmp 135) 29 rfl B 5 i8 (.int .u8 0) 1 Tryz.underlying29 hi8 hz0 hz1 hz2 rfl (.slice a4 (N + k) c4) (N + k) (bV (l ++ mo.take k)) rfl (HGG.out.out ((Out.refl wr).alloc _)).owns ⟨wr.heap.size, 0, none⟩ 1 1 [.int .u8 z] (by omega) rfl rfl (news_new _ #[.int .u8 z] _ _ rfl) (bV_one [z]) (by omega) (by omega) (Nat.le_trans HI4.out.arr.bw (Nat.le_trans HC4.out.size (by rw [size_alloc]; omega))) ?_); intro g5 w5 hown5 hgrow5 hat5; obtain ⟨ga5, gc5, rfl⟩ := hat5.form; have Hat5 := hidOf hat5; have Hgr5 := hidOf hgrow5; have Hown5 := hidOf hown5; clear hat5 hgrow5 hown5)
              obtain ⟨L5, s1, s2, s3, s4, s5⟩ := g4_step HK4.out HT4.out (by omega) HGG.out Hlq.out HC4.out (fun k hk => by have := Hv3.out k hk; have := Ho34.out.size; omega) ((Out.refl wr).alloc _) Hat5.out Hgr5.out Hown5.out
              have hrel' : ∃ (k' : Nat) (L4' : List Int) (a4' : Option Addr) (c4' : Nat), k' ≤ R ∧ Value.int .i64 ((k : Int) + 1) = .int .i64 k' ∧ Value.slice ga5 (N + k + 1) gc5 = .slice a4' (N + k') c4' ∧ Hid (Kn B w5 (.slice a N c) N L4') ∧ Hid (L4'.take N = l) ∧ Hid (L3.length ≤ L4'.length) ∧ Hid (Chg (fun x => (Value.slice a N c).ownBlock = some x) w4 w5) ∧ Hid (G4 B w4 w5 (.slice a N c) L4' (.slice a4' (N + k') c4') (N + k') (l ++ mo.take k')) := by
                refine ⟨k + 1, L5, ga5, gc5, by omega, by simp, rfl, hidOf s1, hidOf s2, hidOf (Nat.le_trans HLe4.out s3), hidOf s4, ?_⟩
                rw [Htk.out, ← List.append_assoc]
                exact hidOf s5
              go_roundw
              case rel => exact hrel'
              case measure => simp [intOf]; omega
            · have hklt : ¬ (k : Int) < R := by omega
              obtain rfl : R = k := by omega
              have hmt : mo.take R = mo := List.take_of_length_le (by rw [Hmol.out]; exact Nat.le_refl _)
              rw [hmt] at HGG
              have Hln4 : Hid (N ≤ L4.length) := by show _ ≤ _; have := HLe4.out; have := HL3.out; have := Hln.out; omega
              have HI5 := hidOf (HI4.out.chgv HC4.out HvU.out HK4.out)
              obtain ⟨_, J1⟩ := HH1.out.step HC4.out (fun k hk => .inl hk) HLe4.out
              obtain ⟨_, J2⟩ := HH2.out.step HC4.out (fun k hk => .inl hk) HLe4.out
              obtain ⟨_, J3⟩ := HH3.out.step HC4.out (fun k hk => .inl hk) HLe4.out
              have HJ1 := hidOf J1
              have HJ2 := hidOf J2
              have HJ3 := hidOf J3
              have Hmo5 : Hid (wr.ownsRow w3.heap.size 5 1 (.slice (some ⟨g4m, 0, none⟩) R R) R (bV mo)) := owns_chg Hown4.out (fun k hk h => by
                obtain rfl := Option.some.inj hk
                have h1 : g4m < w3.heap.size := Hv3.out g4m h
                have h2 := Hg4.out.1
                omega) HC4.out
              have HS4 : Hid (∀ k, ((Value.slice a N c).ownBlock = some k ∨ Frs (F2.drop (i + 1)) k) → k < w4.heap.size) := fun k hk => (HI4.out.sub hk).lt
              clear J1 J2 J3 HH1 HH2 HH3 HI4 hmt
              go_upto_region 25 with (at_builtin; go_loud (refine wpList_append_two rfl (.tmp 137) (.tmp 138) 29 rfl B 5 i8 (.int .u8 0) 1 Tryz.underlying29 hi8 hz0 hz1 hz2 rfl (.slice a N c) N (bV (L4.take N)) rfl HI5.out.kn.owns ⟨g4m, 0, none⟩ R R (bV mo) (by omega) rfl (by rw [bV_len, Hmol.out]) (fun j u hu => Hmo5.out.cells (g := g4m) rfl j u hu) (bV_one mo) (by omega) (by omega) HI5.out.arr.bw ?_); intro g6 w6 hown6 hgrow6 hat6; obtain ⟨ga6, gc6, rfl⟩ := hat6.form; have Hat6 := hidOf hat6; have Hgr6 := hidOf hgrow6; have Hown6 := hidOf hown6; clear hat6 hgrow6 hown6)
              obtain ⟨L6, I6, t6, le6, c6, K6, hsame6⟩ := HI5.out.append HvU.out (Out.refl wr) Hmol.out Hln4.out Hat6.out Hgr6.out Hown6.out
              have Hlq : Hid ((l ++ mo).length = N + R) := by show _ = _; rw [List.length_append, Hln.out, Hmol.out]
              have HJ4 := hidOf (HGG.out.gr Hlq.out (by omega) HS4.out (fun k hk => .inl hk) c6 (take_same HT4.out Hln.out Hmol.out L6 hsame6))
              obtain ⟨_, J1⟩ := HJ1.out.step c6 (fun k hk => .inl hk) le6
              obtain ⟨_, J2⟩ := HJ2.out.step c6 (fun k hk => .inl hk) le6
              obtain ⟨_, J3⟩ := HJ3.out.step c6 (fun k hk => .inl hk) le6
              have HJ1 := hidOf J1
              have HJ2 := hidOf J2
              have HJ3 := hidOf J3
              have HJ5 := hidOf K6
              have HI6 := hidOf I6
              have HT6 : Hid (L6.take N = l) := by show _ = _; rw [t6, HT4.out]
              have Hmo6 : Hid (w6.ownsRow w3.heap.size 5 1 (.slice (some ⟨g4m, 0, none⟩) R R) R (bV mo)) := owns_chg Hmo5.out (fun k hk h => by
                obtain rfl := Option.some.inj hk
                have h1 : g4m < w3.heap.size := Hv3.out g4m h
                have h2 := Hg4.out.1
                omega) c6
              clear J1 J2 J3 K6 I6 t6 le6 c6 hsame6 HGG HK4 HC4 HI5 Hmo5
              have hGl : G.length ≤ 4000 := by have := HP.out.gl; omega
              go_upto_region 26 with (at_builtin; go_loud (refine wpList_append_two rfl (.tmp 140) (.tmp 145) 39 rfl B 29 i30 (.slice none 0 0) 24 Tryz.underlying39 hi30 hy0 hy1 hy2 rfl u5 G.length G rfl (owns_alloc HI6.out.ga_ _) ⟨w6.heap.size, 0, none⟩ 4 4 [.slice ga1 (N + 1) gc1, .slice ga2 (N + 2) gc2, .slice ga3 (N + 3) gc3, .slice ga6 (N + R) gc6] (by omega) rfl rfl (news_new _ #[.slice ga1 (N + 1) gc1, .slice ga2 (N + 2) gc2, .slice ga3 (N + 3) gc3, .slice ga6 (N + R) gc6] _ _ rfl) (by intro x hx; simp at hx; rcases hx with rfl | rfl | rfl | rfl <;> rfl) (by omega) (by omega) (Nat.le_trans HI6.out.arr.bw (by rw [size_alloc]; omega)) ?_); intro g7 w7 hown7 hgrow7 hat7; obtain ⟨ga7, gc7, rfl⟩ := hat7.form; have Hat7 := hidOf hat7; have Hgr7 := hidOf hgrow7; have Hown7 := hidOf hown7; clear hat7 hgrow7 hown7)
              have HI7 := hidOf (HI6.out.grow ((Out.refl w6).alloc _) rfl Hat7.out Hgr7.out Hown7.out (fun k hk hlt => by have := HP.out.gb k hk; omega))
              have Hc7 := hidOf (chg_grow ((Out.refl w6).alloc _) Hgr7.out)
              have HS7 : Hid (Grs B (fun k => (Value.slice a N c).ownBlock = some k ∨ Frs (F2.drop (i + 1)) k) w7 (.slice a N c) L6 [.slice ga1 (N + 1) gc1, .slice ga2 (N + 2) gc2, .slice ga3 (N + 3) gc3, .slice ga6 (N + R) gc6]) := by
                intro g hg
                simp only [List.mem_cons, List.not_mem_nil, or_false] at hg
                rcases hg with rfl | rfl | rfl | rfl
                · exact ⟨_, HJ1.out.chg8 Hc7.out HI6.out.g8⟩
                · exact ⟨_, HJ2.out.chg8 Hc7.out HI6.out.g8⟩
                · exact ⟨_, HJ3.out.chg8 Hc7.out HI6.out.g8⟩
                · exact ⟨_, HJ5.out.chg8 Hc7.out HI6.out.g8⟩
              have HQ7 := hidOf (HJ4.out.chg8 Hc7.out HI6.out.g8)
              have Hmo7 := hidOf (row_chg8 Hmo6.out Hc7.out HI6.out.g8)
              have Hgb7 : Hid (∀ k, (Value.slice ga7 (G.length + 4) gc7).ownBlock = some k → w.heap.size ≤ k) := fun k hk => by
                rcases Hat7.out.block k hk with h | h
                · exact HP.out.gb k h
                · have h1 := HI6.out.chg.size
                  have h2 := size_alloc w6 (.cells #[.slice ga1 (N + 1) gc1, .slice ga2 (N + 2) gc2, .slice ga3 (N + 3) gc3, .slice ga6 (N + R) gc6] 29)
                  omega
              have HkU : Hid (∀ k, k = p ∨ ka'.ownBlock = some k ∨ wa'.ownBlock = some k → k < w.heap.size → U k) := fun k hk hlt => by
                rw [← HU.out]
                rcases hk with rfl | hk | hk
                · exact .inl rfl
                · rcases HP.out.kb k hk with h | h
                  · exact .inr (.inr (.inr (.inr (.inl h))))
                  · omega
                · rcases HP.out.wb k hk with h | h
                  · exact .inr (.inr (.inr (.inr (.inr (.inl h)))))
                  · omega
              clear HJ1 HJ2 HJ3 HJ4 HJ5 Hmo6 HI6 Hat7 Hgr7 Hown7 Hc7 Hat6 Hgr6 Hown6 Hat1 Hgr1 Hown1 Hat2 Hgr2 Hown2 Hat3 Hgr3 Hown3
              have hc5 : w7.cell? ⟨p, 5, none⟩ = some (.slice (some ⟨gm, 0, none⟩) n cm) := HI7.out.arr.st.cell 5
              have hq2 : w7.cell? ⟨gm, i, none⟩ = some (.int .i64 mk) := row_cell (by have := HI7.out.arr.ma_; rw [Hmn.out] at this; exact this) (by rw [List.getElem?_map, Hmk.out]; rfl)
              have hKl : K'.length ≤ 700000002000 := by have := HP.out.kl; omega
              have HWK : Hid (W'.length = K'.length) := HP.out.kep.1
              go_upto_region 27 with (first | (go_at_call 74; go_loud (refine (marked_any _ N mk (by omega) hmb1 (by omega)).mono ?_); rintro e w8 ⟨g8, rfl, hown8, ho8⟩; have HI8 := hidOf (HI7.out.out ho8); have Ho8 := hidOf ho8; have Hown8 := hidOf hown8; clear ho8 hown8) | (go_at_call 75; go_loud (refine (keep_any _ B p _ _ _ _ _ _ _ _ _ _ _ _ _ _ HI8.out.arr.bw HI8.out.arr.st K'.length (by omega) K' W' HI8.out.arr.ka_ (by have h := HI8.out.arr.wa_; rw [HWK.out] at h; exact h) HI8.out.arr.kw).mono ?_); rintro e w9 ⟨⟨r9, rfl⟩, ka9, wa9, he9⟩; have He9 := hidOf he9; clear he9))
              clear hc5 hq2
              have HI9 := hidOf (HI8.out.keep He9.out HWK.out HkU.out)
              have HS9 := hidOf ((HS7.out.out Ho8.out).chg8 He9.out.chg HI8.out.k8)
              have HQ9 := hidOf ((HQ7.out.out Ho8.out).chg8 He9.out.chg HI8.out.k8)
              have Hmo9 := hidOf (row_chg8 (owns_out Hmo7.out Ho8.out) He9.out.chg HI8.out.k8)
              have Hwt9 : Hid (w9.ownsRow w7.heap.size 5 1 (.slice (some ⟨g8, 0, none⟩) N N) N (bV l)) := by
                have h := row_chg8 Hown8.out He9.out.chg HI8.out.k8
                rw [markB_len, Hl.out] at h
                exact h
              have HkU9 : Hid (∀ k, k = p ∨ ka9.ownBlock = some k ∨ wa9.ownBlock = some k → k < w.heap.size → U k) := fun k hk hlt => by
                have hs := HI8.out.chg.size
                rcases hk with hk | hk | hk
                · exact HkU.out k (.inl hk) hlt
                · rcases He9.out.kb k hk with h | h
                  · exact HkU.out k (.inr (.inl h)) hlt
                  · omega
                · rcases He9.out.wb k hk with h | h
                  · exact HkU.out k (.inr (.inr h)) hlt
                  · omega
              have hc5 : w9.cell? ⟨p, 5, none⟩ = some (.slice (some ⟨gm, 0, none⟩) n cm) := HI9.out.arr.st.cell 5
              have hq2 : w9.cell? ⟨gm, i, none⟩ = some (.int .i64 mk) := row_cell (by have := HI9.out.arr.ma_; rw [Hmn.out] at this; exact this) (by rw [List.getElem?_map, Hmk.out]; rfl)
              have HWK9 : Hid ((W' ++ [Value.slice (some ⟨g8, 0, none⟩) N N]).length = (K' ++ [Value.slice a N c]).length) := by show _ = _; rw [List.length_append, List.length_append, HWK.out]; rfl
              have hKl9 : (K' ++ [Value.slice a N c]).length ≤ 700000002001 := by rw [List.length_append]; simp; omega
              go_wp2_with (first | (go_at_call 74; go_loud (refine (marked_any _ N mk (by omega) hmb1 (by omega)).mono ?_); rintro e w10 ⟨g10, rfl, hown10, ho10⟩; have HI10 := hidOf (HI9.out.out ho10); have Ho10 := hidOf ho10; rw [markB_len, Hl.out] at hown10; have Hown10 := hidOf hown10; have Hmo10 := hidOf (owns_out Hmo9.out ho10); clear ho10 hown10) | (at_builtin; go_loud (refine wpList_append_two rfl (.tmp 171) (.tmp 172) 29 rfl w9.heap.size 5 i8 (.int .u8 0) 1 Tryz.underlying29 hi8 hz0 hz1 hz2 rfl (.slice (some ⟨g10, 0, none⟩) N N) N (bV l) rfl Hown10.out ⟨g4m, 0, none⟩ R R (bV mo) (by omega) rfl (by rw [bV_len, Hmol.out]) (fun j u hu => Hmo10.out.cells (g := g4m) rfl j u hu) (bV_one mo) (by omega) (by omega) Ho10.out.size ?_); intro g11 w11 hown11 hgrow11 hat11; obtain ⟨ga11, gc11, rfl⟩ := hat11.form; have Ho11 := hidOf (out_grown Ho10.out hgrow11 (World.ownsRow.lt Hown10.out g10 rfl).1); have Hown11 := hidOf hown11; have HI11 := hidOf (HI9.out.out Ho11.out); clear hat11 hgrow11 hown11) | (go_at_call 75; go_loud (refine (keep_any _ B p _ _ _ _ _ _ _ _ _ _ _ _ _ _ HI11.out.arr.bw HI11.out.arr.st (K' ++ [Value.slice a N c]).length (by omega) (K' ++ [Value.slice a N c]) (W' ++ [Value.slice (some ⟨g8, 0, none⟩) N N]) HI11.out.arr.ka_ (by have h := HI11.out.arr.wa_; rw [HWK9.out] at h; exact h) HI11.out.arr.kw).mono ?_); rintro e w12 ⟨⟨r12, rfl⟩, ka12, wa12, he12⟩; have He12 := hidOf he12; clear he12))
              have HI12 := hidOf (HI11.out.keep He12.out HWK9.out HkU9.out)
              have hsz9 := Hid.out (hidOf HI9.out.chg.size)
              have Hsz11 := hidOf Ho11.out.size
              have HN12 : Hid (Ph2 B U w w12 p c0 c1 (.slice (some ⟨gf, 0, none⟩) n cf) ha (.slice (some ⟨gm, 0, none⟩) n cm) ka wa ka12 wa12 F2 n hs M K.length (K' ++ [Value.slice a N c] ++ [Value.slice a4 (N + R) c4]) (W' ++ [Value.slice (some ⟨g8, 0, none⟩) N N] ++ [Value.slice ga11 (N + R) gc11]) (.slice ga7 (G.length + 4) gc7) (G ++ [.slice ga1 (N + 1) gc1, .slice ga2 (N + 2) gc2, .slice ga3 (N + 3) gc3, .slice ga6 (N + R) gc6]) (i + 1)) := by
                refine HP.out.next (l := l) (l4 := l ++ mo) (n2 := N + R) (B1 := w7.heap.size) (B2 := w9.heap.size) HI12.out rfl ((HS9.out.out Ho11.out).chg8 He12.out.chg HI11.out.k8) ((HQ9.out.out Ho11.out).chg8 He12.out.chg HI11.out.k8) HT6.out Hln.out (row_chg8 (owns_out Hwt9.out Ho11.out) He12.out.chg HI11.out.k8) HI7.out.arr.bw (fun k hk => (HI7.out.sub (.inr hk)).lt) (row_chg8 (by have h := Hown11.out; rw [← bV_app] at h; exact h) He12.out.chg HI11.out.k8) Hlq.out HI9.out.arr.bw (fun k hk => (HI9.out.sub (.inr hk)).lt) ?_ ?_ Hgb7.out (by intro g hg; simp only [List.mem_cons, List.not_mem_nil, or_false] at hg; rcases hg with rfl | rfl | rfl | rfl <;> exact ⟨_, _, _, rfl, by omega⟩)
                · intro k hk
                  have h8 := HI8.out.chg.size
                  have h11 := Hsz11.out
                  rcases He12.out.kb k hk with h | h
                  · rcases He9.out.kb k h with h | h
                    · exact HP.out.kb k h
                    · exact .inr (by omega)
                  · exact .inr (by omega)
                · intro k hk
                  have h8 := HI8.out.chg.size
                  have h11 := Hsz11.out
                  rcases He12.out.wb k hk with h | h
                  · rcases He9.out.wb k h with h | h
                    · exact HP.out.wb k h
                    · exact .inr (by omega)
                  · exact .inr (by omega)
              go_roundw
              case rel => exact ⟨i + 1, ka12, wa12, _, _, _, by omega, by simp, HN12⟩
              case measure => simp [intOf]; omega
        · have hlt2 : ¬ (i : Int) < n := by omega
          obtain rfl : n = i := by omega
          have HE := hidOf HP.out.exit
          obtain ⟨m, Hm⟩ : ∃ m, Hid (G.length = m) := ⟨_, hidOf rfl⟩
          have hm4 : m = 4 * n := by rw [← Hm.out]; exact HP.out.gl
          obtain ⟨gg, cg, rfl⟩ : ∃ gg cg, u5 = .slice (some ⟨gg, 0, none⟩) m cg := by
            have := row_form HP.out.ga_ (by rw [Hm.out]; omega)
            rw [Hm.out] at this
            exact this
          have Hgn := hidOf HP.out.gn
          have HK0 : Hid (K'.length = K.length + 2 * n) := hidOf HP.out.kl
          have HKb := hidOf HP.out.kb
          have HWb := hidOf HP.out.wb
          clear HP
          go_upto_region 31 with fail
          clear hc3
          go_loopw [16] (fun jv wq => ∃ (j : Nat) (ka2 wa2 : Value) (K2 W2 : List Value), j ≤ m ∧ jv = .int .i64 j ∧ Hid (It B U w wq p c0 c1 (.slice (some ⟨gf, 0, none⟩) n cf) ha (.slice (some ⟨gm, 0, none⟩) n cm) ka2 wa2 ((F2.take n).map Prod.fst) hs M K2 W2 (.slice (some ⟨gg, 0, none⟩) m cg) G (.slice none 0 0) 0 (F2.drop n) [] K2 W2 G) ∧ Hid (K2.length = K.length + 2 * n + j) ∧ Hid (∀ k, ka2.ownBlock = some k → ka.ownBlock = some k ∨ w.heap.size ≤ k) ∧ Hid (∀ k, wa2.ownBlock = some k → wa.ownBlock = some k ∨ w.heap.size ≤ k)) (fun jv _ => m - (intOf jv).toNat)
          case atStart => exact ⟨0, ka', wa', K', W', by omega, rfl, HE, HK0, HKb, HWb⟩
          case round =>
            clear HE HK0 HKb HWb
            obtain ⟨j, ka2, wa2, K2, W2, hj, rfl, HE, HK2, HKb, HWb⟩ := hrel
            by_cases hjm : j < m
            · have hjlt : (j : Int) < m := by omega
              obtain ⟨g, hg⟩ : ∃ g, G[j]? = some g := ⟨_, List.getElem?_eq_getElem (by rw [Hm.out]; exact hjm)⟩
              obtain ⟨l, hr⟩ := HE.out.grd g (List.mem_of_getElem? hg)
              obtain ⟨a, q, c, rfl, hq⟩ := Hgn.out g (List.mem_of_getElem? hg)
              have Hr := hidOf hr
              have Hg := hidOf hg
              clear hr hg
              have hq1 : wr.cell? ⟨gg, j, none⟩ = some (.slice a q c) := row_cell (by have := HE.out.ga_; rw [Hm.out] at this; exact this) Hg.out
              have hKl2 : K2.length ≤ 700000010000 := by have := HK2.out; omega
              have HWK2 : Hid (W2.length = K2.length) := HE.out.kep.1
              have HkU2 : Hid (∀ k, k = p ∨ ka2.ownBlock = some k ∨ wa2.ownBlock = some k → k < w.heap.size → U k) := fun k hk hlt => by
                rw [← HU.out]
                rcases hk with rfl | hk | hk
                · exact .inl rfl
                · rcases HKb.out k hk with h | h
                  · exact .inr (.inr (.inr (.inr (.inl h))))
                  · omega
                · rcases HWb.out k hk with h | h
                  · exact .inr (.inr (.inr (.inr (.inr (.inl h)))))
                  · omega
              have h0j : (0 : Int) ≤ (j : Int) := by omega
              go_upto_region 31 with fail
              go_region_held3 (fun w' => w'.cell? ⟨gg, j, none⟩ = some (.slice a q c)) (first | exact hq1 | exact e1 | exact f1)
                (first | (go_at_call 21; go_loud (refine (copyW _ a q c l (rd_len Hr.out).1 ((rd_len Hr.out).2.out ((Out.refl wr).drewN 1)) (by omega)).mono ?_); rintro e w1 ⟨a1, cc1, rfl, hown1, ho1⟩; have e1 := cell_later ho1 (show wr.drew.cell? _ = _ from hq1); have HI1 := hidOf (HE.out.out (Out.trans ((Out.refl wr).drewN 1) ho1)); have Ho1 := hidOf ho1; have Hown1 := hidOf hown1; clear ho1 hown1) | (go_at_call 75; go_loud (refine (keep_any _ B p _ _ _ _ _ _ _ _ _ _ _ _ _ _ HI1.out.arr.bw HI1.out.arr.st K2.length (by omega) K2 W2 HI1.out.arr.ka_ (by have h := HI1.out.arr.wa_; rw [HWK2.out] at h; exact h) HI1.out.arr.kw).mono ?_); rintro e w2 ⟨⟨r2, rfl⟩, ka3, wa3, he2⟩; have He2 := hidOf he2; clear he2; have f1 : w2.cell? ⟨gg, j, none⟩ = some (.slice a q c) := row_cell (by have := (HI1.out.keep He2.out HWK2.out HkU2.out).ga_; rw [Hm.out] at this; exact this) Hg.out))
              have HI2 := hidOf (HI1.out.keepRest He2.out HWK2.out HkU2.out (Hr.out.chg (Chg.of_out (S := fun _ => False) (Out.trans ((Out.refl wr).drewN 1) Ho1.out)) (fun _ _ _ _ h => h) (fun _ _ h => h)) (rd_new Hown1.out (rd_len Hr.out).1 HE.out.arr.bw (fun k hk => (HE.out.sub hk).lt)))
              have Hsz1 := hidOf HI1.out.chg.size
              have hrel' : ∃ (j' : Nat) (ka2' wa2' : Value) (K2' W2' : List Value), j' ≤ m ∧ Value.int .i64 ((j : Int) + 1) = .int .i64 j' ∧ Hid (It B U w w2 p c0 c1 (.slice (some ⟨gf, 0, none⟩) n cf) ha (.slice (some ⟨gm, 0, none⟩) n cm) ka2' wa2' ((F2.take n).map Prod.fst) hs M K2' W2' (.slice (some ⟨gg, 0, none⟩) m cg) G (.slice none 0 0) 0 (F2.drop n) [] K2' W2' G) ∧ Hid (K2'.length = K.length + 2 * n + j') ∧ Hid (∀ k, ka2'.ownBlock = some k → ka.ownBlock = some k ∨ w.heap.size ≤ k) ∧ Hid (∀ k, wa2'.ownBlock = some k → wa.ownBlock = some k ∨ w.heap.size ≤ k) := by
                refine ⟨j + 1, ka3, wa3, _, _, by omega, by simp, HI2, ?_, ?_, ?_⟩
                · show _ = _; rw [List.length_append, HK2.out]; simp; omega
                · intro k hk
                  rcases He2.out.kb k hk with h | h
                  · exact HKb.out k h
                  · exact .inr (Nat.le_trans Hsz1.out h)
                · intro k hk
                  rcases He2.out.wb k hk with h | h
                  · exact HWb.out k h
                  · exact .inr (Nat.le_trans Hsz1.out h)
              go_wp2
              go_roundw
              case rel => exact hrel'
              case measure => simp [intOf]; omega
            · have hjlt : ¬ (j : Int) < m := by omega
              obtain rfl : m = j := by omega
              go_upto_region 32 with fail
              have hst := HE.out.arr.st
              have hc3 : wr.cell? ⟨p, 3, none⟩ = some (.slice (some ⟨gf, 0, none⟩) n cf) := hst.cell 3
              have hf3 := hst.frozen 3
              have hs3 := hst.set 3 (.slice none 0 0)
              have hc4 : (wr.setCell ⟨p, 3, none⟩ (.slice none 0 0)).cell? ⟨p, 4, none⟩ = some ha := hs3.cell 4
              have hf4 := hs3.frozen 4
              have hs4 := hs3.set 4 (.slice none 0 0)
              have hc5 : ((wr.setCell ⟨p, 3, none⟩ (.slice none 0 0)).setCell ⟨p, 4, none⟩ (.slice none 0 0)).cell? ⟨p, 5, none⟩ = some (.slice (some ⟨gm, 0, none⟩) n cm) := hs4.cell 5
              have hf5 := hs4.frozen 5
              have hs5 := hs4.set 5 (.slice none 0 0)
              have Hs5 : Hid (StAt (((wr.setCell ⟨p, 3, none⟩ (.slice none 0 0)).setCell ⟨p, 4, none⟩ (.slice none 0 0)).setCell ⟨p, 5, none⟩ (.slice none 0 0)) p #[.int .i64 c0, .int .i64 c1, .bool false, .slice none 0 0, .slice none 0 0, .slice none 0 0, ka2, wa2]) := hs5
              have Hc : Hid (Chg (fun k => k = p) wr (((wr.setCell ⟨p, 3, none⟩ (.slice none 0 0)).setCell ⟨p, 4, none⟩ (.slice none 0 0)).setCell ⟨p, 5, none⟩ (.slice none 0 0))) := by
                have k1 : Chg (fun k => k = p) wr (wr.setCell ⟨p, 3, none⟩ (.slice none 0 0)) := Chg.setCell (Chg.refl (fun k => k = p) wr) (p := ⟨p, 3, none⟩) (show p = p from rfl) _
                have k2 : Chg (fun k => k = p) wr ((wr.setCell ⟨p, 3, none⟩ (.slice none 0 0)).setCell ⟨p, 4, none⟩ (.slice none 0 0)) := Chg.setCell k1 (p := ⟨p, 4, none⟩) (show p = p from rfl) _
                exact Chg.setCell k2 (p := ⟨p, 5, none⟩) (show p = p from rfl) _
              clear hst hs3 hs4 hs5
              go_upto_region 35 with fail
              clear hc3 hf3 hc4 hf4 hc5 hf5
              generalize ((wr.setCell ⟨p, 3, none⟩ (.slice none 0 0)).setCell ⟨p, 4, none⟩ (.slice none 0 0)).setCell ⟨p, 5, none⟩ (.slice none 0 0) = w5 at *
              have Hdf : Hid (∀ k, Frs (F.drop n) k → Frs (F2.drop n) k) := fun k hk => (frs_fst (by rw [List.map_drop, List.map_drop, Hfst0.out]) k).1 hk
              have Hkep5 : Hid (Kep B (Frs (F.drop n)) w5 K2 W2) := HE.out.kep.chg Hc.out (fun k _ h8 hk => st_notT8 HE.out.arr.st (by rw [← hk]; exact h8)) (fun k _ hk hk2 => hk (.inr (Hdf.out k hk2)))
              have Hka5 : Hid (w5.ownsRow B 29 1 ka2 K2.length K2) := owns_chg HE.out.arr.ka_ (fun k hk hkp => st_apart HE.out.arr.st (by decide) HE.out.arr.ka_ (by rw [hkp] at hk; exact hk)) Hc.out
              have Hwa5 : Hid (w5.ownsRow B 29 1 wa2 W2.length W2) := owns_chg HE.out.arr.wa_ (fun k hk hkp => st_apart HE.out.arr.st (by decide) HE.out.arr.wa_ (by rw [hkp] at hk; exact hk)) Hc.out
              have HQ := hidOf (books_same w5 B p _ _ _ _ _ _ ka2 wa2 K2.length K2 W2 (by have := HK2.out; omega) Hs5.out Hka5.out (by have h := Hwa5.out; rw [Hkep5.out.1] at h; exact h) Hkep5.out.pairs)
              have hc2 : w5.cell? ⟨p, 2, none⟩ = some (.bool false) := Hs5.out.cell 2
              go_wp2_with (go_at_call 41; refine HQ.out.mono ?_; rintro e w' ⟨rfl, q, rfl⟩; have hcq : (w5.drewN q).cell? ⟨p, 2, none⟩ = some (.bool false) := Hs5.out.cell 2; have hfq : (w5.drewN q).frozen? ⟨p, 2, none⟩ = false := Hs5.out.frozen 2)
              go_end0
              have Hc6 : Chg (fun k => k = p) wr ((w5.drewN q).setCell ⟨p, 2, none⟩ (.bool false)) := Chg.setCell (Hc.out.trans (Chg.of_out (S := fun _ => False) ((Out.refl w5).drewN q)) (fun _ h _ => h.elim)) (p := ⟨p, 2, none⟩) (show p = p from rfl) _
              have hs6 : StAt ((w5.drewN q).setCell ⟨p, 2, none⟩ (.bool false)) p #[.int .i64 c0, .int .i64 c1, .bool false, .slice none 0 0, .slice none 0 0, .slice none 0 0, ka2, wa2] := (show StAt (w5.drewN q) p _ from Hs5.out).set 2 (.bool false)
              have hd : ∀ y : Value, Dis (.slice none 0 0) y := fun y k hk => by simp [Value.ownBlock] at hk
              refine ⟨⟨_, rfl⟩, ka2, wa2, K2, W2, ⟨hs6, World.ownsRow_nil _ _ _ _, World.ownsRow_nil _ _ _ _, World.ownsRow_nil _ _ _ _, ?_, ?_, hd _, hd _, hd _, hd _, hd _, HE.out.arr.kw, HE.out.arr.bp, Nat.le_trans HE.out.arr.bw Hc6.size⟩, ?_, ?_, ?_⟩
              · exact owns_chg HE.out.arr.ka_ (fun k hk hkp => st_apart HE.out.arr.st (by decide) HE.out.arr.ka_ (by rw [hkp] at hk; exact hk)) Hc6
              · exact owns_chg HE.out.arr.wa_ (fun k hk hkp => st_apart HE.out.arr.st (by decide) HE.out.arr.wa_ (by rw [hkp] at hk; exact hk)) Hc6
              · exact HE.out.kep.chg Hc6 (fun k _ h8 hk => st_notT8 HE.out.arr.st (by rw [← hk]; exact h8)) (fun k _ hk hk2 => hk (.inr (Hdf.out k hk2)))
              · rw [HK2.out]; omega
              · rw [HU.out]
                refine HE.out.chg.trans Hc6 (fun k hk _ => ?_)
                rw [← HU.out, hk]
                exact .inl rfl
end Go.Proofs.YtekjfbmebekmeaaGreat.Bo
