import Derived.Test.YtadneimllbfdnaaGreatDoorGu30
namespace Go.Proofs.YtadneimllbfdnaaGreatDoor
open Go.RowKit
set_option linter.unusedVariables false
set_option linter.unusedSimpArgs false
theorem tok6_any (w:World) (hE:Lx.LEnv w) (a:Option Addr) (cap:Nat) (l:List UInt8) (hr:Lx.RestAt w.heap.size w a l) (hcap:l.length<=cap) (hll:l.length<=140737488355328) (h0:(Lx.tokensP l).2.2=0) :
  Calls Tryz.prog 12 #[.slice a l.length cap] w fun e w'=>∃ g cp,e=.returned (.tuple #[.slice (some ⟨g,0,none⟩) (Lx.tokensP l).1.length cp,.int .i64 0,.int .i64 0])/\(Lx.tokensP l).1.length<=cp/\TkR w' g 0 (Lx.tokensP l).1/\(∃ cs fr,w'.heap[g]? = some (.cells cs 77 fr))/\Out w w':=
 (Lx.tokens_any Lx.valC Lx.cutC w hE.1 a cap l hr hcap hll).mono fun e w' ⟨v,he,ho,hw⟩=>by
  have h1:(Lx.tokensP l).2.1=0:=(Lx.forth_P l h0).1
  rw [h0,h1] at he
  have hT:=(tok_shape l h0).1
  rcases ho.2 with ⟨hv,hn⟩ | ⟨g,cp,cur,hv,hb,hg,hc,_⟩
  ·
   exfalso
   rw [List.length_eq_zero_iff.1 hn] at hT
   exact hT
  ·
   refine ⟨g,cp,by rw [he,hv],hc,fun k x hx=>?_,⟨_,_,hg⟩,hw⟩
   have key:∀ i,i<4->w'.cell? ⟨g,0+k*4+i,none⟩=x.cs[i]?:=fun i hi=>by
    obtain ⟨u,hu⟩:∃ u,x.cs[i]? = some u:=⟨_,List.getElem?_eq_getElem (by show i<4;exact hi)⟩
    have h1:=ho.cells (g:=g) (by rw [hv];rfl) (k*4+i) u (by rw [Lx.tkV_get _ k x i hx hi,hu])
    rw [hu, <-h1,Go.WideShapes.add_plain,Nat.add_assoc]
   exact ⟨key 0 (by omega),key 1 (by omega),key 2 (by omega),key 3 (by omega)⟩
theorem tok6_bad (w:World) (hE:Lx.LEnv w) (a:Option Addr) (cap:Nat) (l:List UInt8) (hr:Lx.RestAt w.heap.size w a l) (hcap:l.length<=cap) (hll:l.length<=140737488355328) :
  Calls Tryz.prog 12 #[.slice a l.length cap] w fun e w'=>∃ v,e=.returned (.tuple #[v,.int .i64 (Lx.tokensP l).2.1,.int .i64 (Lx.tokensP l).2.2])/\Out w w':=
 (Lx.tokens_any Lx.valC Lx.cutC w hE.1 a cap l hr hcap hll).mono fun e w' ⟨v,he,ho,hw⟩=>⟨v,he,hw⟩
theorem restAt_take {w:World} {b off:Nat} {l:List UInt8} (h:b<w.heap.size) (hc:∀ k x,l[k]? = some x->w.cell? ⟨b,off+k,none⟩=some (.int .u8 (x.toNat:Int))) (n:Nat):Lx.RestAt w.heap.size w (some ⟨b,off,none⟩) (l.take n):=
 .inr ⟨b,off,h,rfl,fun k x hx=>hc k x (by
  rw [List.getElem?_take] at hx
  by_cases hk:k<n
  · rw [if_pos hk] at hx;exact hx
  · rw [if_neg hk] at hx;cases hx)⟩
set_option maxRecDepth 20000 in
set_option maxHeartbeats 2000000 in
theorem stats_any (w:World) (hE:Lx.LEnv w) (hP:PEnv w) (a:Option Addr) (cap:Nat) (l:List UInt8) (hr:Lx.RestAt w.heap.size w a l) (hcap:l.length<=cap) (hll:l.length<=140737488355328) :
  Calls Tryz.prog 6 #[.slice a l.length cap] w fun e w'=>∃ sv B,w.heap.size<=B/\e=.returned (.tuple #[sv,.int .i64 (statsP l).2.1,.int .i64 (statsP l).2.2])/\OwQ B sv (statsP l).1 w'/\Out w w':=by
 have RD:Hid (∀ wx g cp (ts:List Lx.Tk),Out w wx->TkR wx g 0 ts->(∃ cs fr,wx.heap[g]? = some (.cells cs 77 fr))->ts.length<=cp->Tw ts->TkOk ts->ts.length<=33554433->Calls Tryz.prog 14 #[.slice (some ⟨g,0,none⟩) ts.length cp] wx fun e w'=>∃ sv,e=.returned (.tuple #[sv,.int .i64 (readQ ts).2.1,.int .i64 (readQ ts).2.2])/\OwQ (wx.heap.size+3) sv (readQ ts).1 w'/\Out wx w'):=hidOf (fun wx g cp ts o hT hg hc hw hk hn=>read_any wx (hE.out o).2 (hP.out o) g 0 cp ts hT hg hc hw hk (by omega))
 obtain ⟨X,hX⟩:∃ X,X=statsP l:=⟨_,rfl⟩
 rw [<-hX]
 have HX:=hidOf hX
 clear hX
 by_cases h0:(Lx.tokensP l).2.2=0
 ·
  have CT:=hidOf (tok6_any w hE a cap l hr hcap hll h0)
  obtain ⟨hs1,hs2,hs3⟩:=tok_shape l h0
  have HEX:Hid (X=readQ (Lx.tokensP l).1):=hidOf (by rw [HX.out];unfold statsP;rw [if_pos h0])
  generalize (Lx.tokensP l).1=ts at CT hs1 hs2 hs3 HEX
  have S1:=hidOf hs1
  have S2:=hidOf hs2
  clear h0 hr hE hP hs1 hs2 HX
  have RD2:Hid (∀ wx g cp,Out w wx->TkR wx g 0 ts->(∃ cs fr,wx.heap[g]? = some (.cells cs 77 fr))->ts.length<=cp->Calls Tryz.prog 14 #[.slice (some ⟨g,0,none⟩) ts.length cp] wx fun e w'=>∃ sv,e=.returned (.tuple #[sv,.int .i64 X.2.1,.int .i64 X.2.2])/\OwQ (wx.heap.size+3) sv X.1 w'/\Out wx w'):=hidOf (fun wx g cp o h1 h2 h3=>by rw [HEX.out];exact RD.out wx g cp ts o h1 h2 h3 S1.out S2.out hs3)
  clear RD HEX
  obtain ⟨n,hn⟩:∃ n,n=ts.length:=⟨_,rfl⟩
  rw [<-hn] at CT RD2
  clear hn hs3
  cases hb:(X.2.2 == 0)
  all_goals
   go_enter Tryz.func6,Tryz.ntmps6
   go_wp2_with (first | (go_at_call 12;refine CT.out.mono ?_;rintro e w1 ⟨g,cp,rfl,hc,ht,hg,ho⟩;have C1:=hidOf (RD2.out w1 g cp ho ht hg hc);have O1:=hidOf ho;clear hc ht hg ho) | (go_at_call 14;refine C1.out.mono ?_;rintro e w2 ⟨sv,rfl,hq,ho⟩;have Q2:=hidOf hq;have O2:=hidOf ho;clear hq ho))
   go_ret3
   exact ⟨sv,_,Nat.le_trans O1.out.size (Nat.le_add_right _ 3),rfl,Q2.out,O1.out.trans O2.out⟩
 ·
  have CT:=hidOf (tok6_bad w hE a cap l hr hcap hll)
  have h1:=ahead_tok l h0
  obtain ⟨hs1,hs2,hs3⟩:=tok_shape _ h1
  have HEX:Hid (X=if (readQ (Lx.tokensP (aheadP l (Lx.tokensP l).2.1)).1).2.2=0 then ([],(Lx.tokensP l).2.1,(Lx.tokensP l).2.2) else readQ (Lx.tokensP (aheadP l (Lx.tokensP l).2.1)).1):=hidOf (by rw [HX.out];unfold statsP;rw [if_neg h0])
  have hne:¬l=[]:=fun e=>by rw [e] at h0;exact h0 rfl
  obtain ⟨b,off,hb,rfl,hcl⟩:∃ b off,b<w.heap.size/\a=some ⟨b,off,none⟩/\∀ k x,l[k]? = some x->w.cell? ⟨b,off+k,none⟩=some (.int .u8 (x.toNat:Int)):=by
   rcases hr with hr | hr
   · exact absurd hr hne
   · exact hr
  have hpos:0<l.length:=List.length_pos_iff.2 hne
  have CA:Hid (∃ A,(aheadP l (Lx.tokensP l).2.1).length=A/\A<=cap/\∀ wx,Out w wx->Calls Tryz.prog 13 #[.slice (some ⟨b,off,none⟩) l.length cap,.int .i64 (Lx.tokensP l).2.1] wx fun e w'=>e=.returned (.slice (some ⟨b,off,none⟩) A cap)/\w'=wx):=hidOf (by
   rcases bad_at l h0 with ⟨e1,e2⟩ | ⟨k,e1,hB,e2,hl⟩
   ·
    rw [e1] at e2 ⊢
    rw [e2]
    exact ⟨0,rfl,Nat.zero_le _,fun wx o=>linesAhead_zero wx b off cap l.length hcap hpos⟩
   ·
    have hle:=(ahead_ok k 0 l hB).1
    rw [e1] at e2 ⊢
    rw [e2]
    exact ⟨ahN k l,by rw [List.length_take];omega,by omega,fun wx o=>linesAhead_any wx b off cap k l hB hcap hl (fun j x hx=>cell_later o (hcl j x hx))⟩)
  obtain ⟨A,hA,hAc,hCA⟩:=CA.out
  have CA:=hidOf hCA
  have hal:aheadP l (Lx.tokensP l).2.1=l.take (ahN ((Lx.tokensP l).2.1 - 1).toNat l):=rfl
  have CT2:Hid (∀ wx,Out w wx->Calls Tryz.prog 12 #[.slice (some ⟨b,off,none⟩) A cap] wx fun e w'=>∃ g cp,e=.returned (.tuple #[.slice (some ⟨g,0,none⟩) (Lx.tokensP (aheadP l (Lx.tokensP l).2.1)).1.length cp,.int .i64 0,.int .i64 0])/\(Lx.tokensP (aheadP l (Lx.tokensP l).2.1)).1.length<=cp/\TkR w' g 0 (Lx.tokensP (aheadP l (Lx.tokensP l).2.1)).1/\(∃ cs fr,w'.heap[g]? = some (.cells cs 77 fr))/\Out wx w'):=hidOf (fun wx o=>by
   have hR:Lx.RestAt wx.heap.size wx (some ⟨b,off,none⟩) (aheadP l (Lx.tokensP l).2.1):=by
    rw [hal]
    exact restAt_take (Nat.lt_of_lt_of_le hb o.size) (fun k x hx=>cell_later o (hcl k x hx)) _
   have:=tok6_any wx (hE.out o) (some ⟨b,off,none⟩) cap (aheadP l (Lx.tokensP l).2.1) hR (by rw [hA];exact hAc) (by rw [hal,List.length_take];omega) h1
   rw [hA] at this
   exact this)
  generalize (Lx.tokensP (aheadP l (Lx.tokensP l).2.1)).1=ts at CT2 hs1 hs2 hs3 HEX
  have S1:=hidOf hs1
  have S2:=hidOf hs2
  obtain ⟨e1,he1⟩:∃ e1,e1=(Lx.tokensP l).2.1:=⟨_,rfl⟩
  obtain ⟨e2,he2⟩:∃ e2,e2=(Lx.tokensP l).2.2:=⟨_,rfl⟩
  rw [<-he1] at CT CA HEX
  rw [<-he2] at CT HEX h0
  have hb2:(e2 != 0)=true:=by simpa using h0
  obtain ⟨n,hn⟩:∃ n,n=ts.length:=⟨_,rfl⟩
  obtain ⟨nl,hnl⟩:∃ nl,nl=l.length:=⟨_,rfl⟩
  have RD2:Hid (∀ wx g cp,Out w wx->TkR wx g 0 ts->(∃ cs fr,wx.heap[g]? = some (.cells cs 77 fr))->n<=cp->Calls Tryz.prog 14 #[.slice (some ⟨g,0,none⟩) n cp] wx fun e w'=>∃ sv,e=.returned (.tuple #[sv,.int .i64 (readQ ts).2.1,.int .i64 (readQ ts).2.2])/\OwQ (wx.heap.size+3) sv (readQ ts).1 w'/\Out wx w'):=hidOf (fun wx g cp o h1 h2 h3=>by rw [hn] at h3 ⊢;exact RD.out wx g cp ts o h1 h2 h3 S1.out S2.out hs3)
  rw [<-hn] at CT2
  rw [<-hnl] at CT CA ⊢
  generalize readQ ts=Z at RD2 HEX
  clear h0 hr hE hP hs1 hs2 HX RD hn hs3 h1 hal hA hCA hcl hb hne hpos hcap hll hnl he1 he2
  cases hz:(Z.2.2 == 0) with
  | true=>
   have HE:Hid (X=([],e1,e2)):=hidOf (by rw [HEX.out,if_pos (by simpa using hz)])
   clear HEX
   go_enter Tryz.func6,Tryz.ntmps6
   go_upto_region 2 with (go_at_call 12;refine CT.out.mono ?_;rintro e w1 ⟨v1,rfl,ho⟩;have O1:=hidOf ho;clear ho)
   go_wp2_with (first | (go_at_call 13;refine (CA.out _ O1.out).mono ?_;rintro e wx ⟨rfl,hx⟩;subst hx) | (go_at_call 12;refine (CT2.out _ O1.out).mono ?_;rintro e w2 ⟨g,cp,rfl,hc,ht,hg,ho⟩;have O2:=hidOf (O1.out.trans ho);have C1:=hidOf (RD2.out w2 g cp O2.out ht hg hc);clear hc ht hg ho) | (go_at_call 14;refine C1.out.mono ?_;rintro e w3 ⟨sv,rfl,hq,ho⟩;have Q3:=hidOf hq;have O3:=hidOf (O2.out.trans ho);clear hq ho))
   go_ret3
   rw [HE.out]
   exact ⟨.slice none 0 0,w.heap.size,Nat.le_refl _,rfl,OwQ.nil _ _,O3.out⟩
  | false=>
   have HE:Hid (X=Z):=hidOf (by rw [HEX.out,if_neg (by simpa using hz)])
   clear HEX
   go_enter Tryz.func6,Tryz.ntmps6
   go_upto_region 2 with (go_at_call 12;refine CT.out.mono ?_;rintro e w1 ⟨v1,rfl,ho⟩;have O1:=hidOf ho;clear ho)
   go_wp2_with (first | (go_at_call 13;refine (CA.out _ O1.out).mono ?_;rintro e wx ⟨rfl,hx⟩;subst hx) | (go_at_call 12;refine (CT2.out _ O1.out).mono ?_;rintro e w2 ⟨g,cp,rfl,hc,ht,hg,ho⟩;have O2:=hidOf (O1.out.trans ho);have C1:=hidOf (RD2.out w2 g cp O2.out ht hg hc);clear hc ht hg ho) | (go_at_call 14;refine C1.out.mono ?_;rintro e w3 ⟨sv,rfl,hq,ho⟩;have Q3:=hidOf hq;have O3:=hidOf (O2.out.trans ho);clear hq ho))
   go_ret3
   rw [HE.out]
   exact ⟨sv,_,Nat.le_trans O2.out.size (Nat.le_add_right _ 3),rfl,Q3.out,O3.out⟩
def nmT (x:List UInt8):List Lx.Tk:=[⟨1,x,0,0⟩,⟨5,[],0,0⟩,⟨0,[],0,0⟩]
def isNmP (x:List UInt8):Bool:=(Lx.untokP (nmT x)).2 == 0
set_option maxRecDepth 20000 in
set_option maxHeartbeats 1000000 in
theorem isName6_any (x:List UInt8) (hx:x.length<=140737488355328) (w:World) (hpw:Lx.Pow w):Calls Tryz.prog 31 #[.string ⟨x.toArray⟩] w fun e w'=>e=.returned (.bool (isNmP x))/\Out w w':=by
 obtain ⟨w1,hw1⟩:∃ w1,w1=w.alloc (.cells #[.int .i64 1,.string ⟨x.toArray⟩,.int .u64 0,.int .i64 0,.int .i64 5,.string ⟨#[]⟩,.int .u64 0,.int .i64 0,.int .i64 0,.string ⟨#[]⟩,.int .u64 0,.int .i64 0] 77):=⟨_,rfl⟩
 have o1:Out w w1:=by rw [hw1];exact (Out.refl w).alloc _
 have b1:w1.heap[w.heap.size]? = some (.cells #[.int .i64 1,.string ⟨x.toArray⟩,.int .u64 0,.int .i64 0,.int .i64 5,.string ⟨#[]⟩,.int .u64 0,.int .i64 0,.int .i64 0,.string ⟨#[]⟩,.int .u64 0,.int .i64 0] 77 (0,0)):=by rw [hw1];exact heap_alloc_new w _
 have C:Hid (Calls Tryz.prog 60 #[.slice (some ⟨w.heap.size,0,none⟩) 3 3] w1 fun e w'=>e=.returned (.tuple #[.string ⟨(Lx.untokP (nmT x)).1.toArray⟩,.int .i64 (Lx.untokP (nmT x)).2])/\Out w1 w'):=hidOf (Lx.untoken_any w1 (hpw.out o1) (some ⟨w.heap.size,0,none⟩) 3 (nmT x) (.inr ⟨w.heap.size,0,rfl,fun k y hy=>by
  match k,hy with
  | 0,hy=>
   have e:(⟨1,x,0,0⟩:Lx.Tk)=y:=by simpa [nmT] using hy
   subst e
   exact ⟨by rw [cell_atL b1];rfl,by rw [cell_atL b1];rfl,by rw [cell_atL b1];rfl,by rw [cell_atL b1];rfl⟩
  | 1,hy=>
   have e:(⟨5,[],0,0⟩:Lx.Tk)=y:=by simpa [nmT] using hy
   subst e
   exact ⟨by rw [cell_atL b1];rfl,by rw [cell_atL b1];rfl,by rw [cell_atL b1];rfl,by rw [cell_atL b1];rfl⟩
  | 2,hy=>
   have e:(⟨0,[],0,0⟩:Lx.Tk)=y:=by simpa [nmT] using hy
   subst e
   exact ⟨by rw [cell_atL b1];rfl,by rw [cell_atL b1];rfl,by rw [cell_atL b1];rfl,by rw [cell_atL b1];rfl⟩
  | k+3,hy=>simp [nmT] at hy⟩) (by simp [nmT]) (fun y hy=>by
  simp [nmT] at hy
  rcases hy with rfl | rfl | rfl
  · exact ⟨by show (0:Int)<=0;omega,by show (0:Int)<18446744073709551616;omega,hx⟩
  · exact ⟨by decide,by decide,by simp⟩
  · exact ⟨by decide,by decide,by simp⟩))
 unfold isNmP
 generalize Lx.untokP (nmT x)=z at *
 have Hw1:=hidOf hw1
 have O1:=hidOf o1
 clear hw1 o1 b1 hpw
 go_enter Tryz.func31,Tryz.ntmps31
 go_wp2_with (go_at_call 60;rw [<-Hw1.out];refine C.out.mono ?_;rintro e w2 ⟨rfl,ho⟩;have O2:=hidOf ho;clear ho)
 go_ret
 exact ⟨rfl,O1.out.trans O2.out⟩
set_option maxRecDepth 20000 in
set_option maxHeartbeats 1000000 in
theorem hasLists_any (x:Stm) (aw an:Option Addr) (nw cw nn cn:Nat) (w:World):Calls Tryz.prog 28 #[.agg #[.int .i64 x.k,.string ⟨x.nm.toArray⟩,.slice aw nw cw,.slice an nn cn,.int .i64 x.o,.int .i64 x.d,.int .i64 x.s,.int .i64 x.f,.int .i64 x.i,.string ⟨x.tg.toArray⟩,.int .i64 x.l]] w fun e w'=>e=.returned (.bool (decide (0<nw) || decide (0<nn)))/\Out w w':=by
 by_cases h1:0<nw
 ·
  have h1I:(0:Int)<nw:=by omega
  go_enter Tryz.func28,Tryz.ntmps28
  go_wp2
  go_ret
  exact ⟨by simp [h1],(Out.refl w).alloc _⟩
 ·
  have e1:nw=0:=by omega
  subst e1
  by_cases h2:0<nn
  ·
   have h2I:(0:Int)<nn:=by omega
   go_enter Tryz.func28,Tryz.ntmps28
   go_wp2
   go_ret
   exact ⟨by simp [h2],(Out.refl w).alloc _⟩
  ·
   have e2:nn=0:=by omega
   subst e2
   go_enter Tryz.func28,Tryz.ntmps28
   go_wp2
   go_ret
   exact ⟨by simp,(Out.refl w).alloc _⟩
def insZ (x:Stm):Bool:=x.o == 0 && (x.d == 0 && (x.s == 0 && (x.f == 0 && x.i == 0)))
set_option maxRecDepth 20000 in
set_option maxHeartbeats 1000000 in
theorem hasInsn_any (x:Stm) (aw an:Option Addr) (nw cw nn cn:Nat) (w:World):Calls Tryz.prog 30 #[.agg #[.int .i64 x.k,.string ⟨x.nm.toArray⟩,.slice aw nw cw,.slice an nn cn,.int .i64 x.o,.int .i64 x.d,.int .i64 x.s,.int .i64 x.f,.int .i64 x.i,.string ⟨x.tg.toArray⟩,.int .i64 x.l]] w fun e w'=>e=.returned (.bool (!insZ x || !x.tg.isEmpty))/\Out w w':=by
 go_enter Tryz.func30,Tryz.ntmps30
 go_upto_region 1 with fail
 go_wp2
 all_goals
  go_ret
  refine ⟨?_,(Out.refl w).alloc _⟩
  simp [insZ, *]
def nmLn (x:Stm):List UInt8 × Int:=
 if x.k=1 then (x.nm++[58],0) else if x.k=2 then (funcB++[32]++x.nm,0) else if x.k=3 then (globB++[32]++x.nm,0) else if x.k=4 then (extB++[32]++x.nm,0) else ([],60)
set_option maxRecDepth 20000 in
set_option maxHeartbeats 1000000 in
theorem nameLine_any (x:Stm) (aw an:Option Addr) (nw cw nn cn:Nat) (w:World) (hx:x.nm.length<=140737488355328):Calls Tryz.prog 33 #[.agg #[.int .i64 x.k,.string ⟨x.nm.toArray⟩,.slice aw nw cw,.slice an nn cn,.int .i64 x.o,.int .i64 x.d,.int .i64 x.s,.int .i64 x.f,.int .i64 x.i,.string ⟨x.tg.toArray⟩,.int .i64 x.l]] w fun e w'=>e=.returned (.tuple #[.string ⟨(nmLn x).1.toArray⟩,.int .i64 (nmLn x).2])/\Out w w':=by
 have a1:∀ wx,(Op.stringOp .add ⟨x.nm.toArray⟩ ⟨#[58]⟩).run Tryz.prog wx=.ok (.string ⟨(x.nm++[58]).toArray⟩) wx:=fun wx=>add_l4 x.nm [58] _ rfl (by simp;omega) wx
 have a2:∀ wx,(Op.stringOp .add ⟨#[46,102,117,110,99,32]⟩ ⟨x.nm.toArray⟩).run Tryz.prog wx=.ok (.string ⟨(funcB++[32]++x.nm).toArray⟩) wx:=fun wx=>add_l4 (funcB++[32]) x.nm _ rfl (by simp [funcB];omega) wx
 have a3:∀ wx,(Op.stringOp .add ⟨#[46,103,108,111,98,97,108,32]⟩ ⟨x.nm.toArray⟩).run Tryz.prog wx=.ok (.string ⟨(globB++[32]++x.nm).toArray⟩) wx:=fun wx=>add_l4 (globB++[32]) x.nm _ rfl (by simp [globB];omega) wx
 have a4:∀ wx,(Op.stringOp .add ⟨#[46,101,120,116,101,114,110,32]⟩ ⟨x.nm.toArray⟩).run Tryz.prog wx=.ok (.string ⟨(extB++[32]++x.nm).toArray⟩) wx:=fun wx=>add_l4 (extB++[32]) x.nm _ rfl (by simp [extB];omega) wx
 obtain ⟨X,hX⟩:∃ X,X=nmLn x:=⟨_,rfl⟩
 rw [<-hX]
 unfold nmLn at hX
 generalize x.nm++[58]=z1 at *
 generalize funcB++[32]++x.nm=z2 at *
 generalize globB++[32]++x.nm=z3 at *
 generalize extB++[32]++x.nm=z4 at *
 have HX:=hidOf hX
 clear hX
 by_cases k1:x.k=1
 ·
  have HE:Hid (X=(z1,0)):=hidOf (by rw [HX.out,if_pos k1])
  rw [k1]
  go_enter Tryz.func33,Tryz.ntmps33
  go_wp2
  go_ret2
  rw [HE.out]
  exact ⟨rfl,(Out.refl w).alloc _⟩
 by_cases k2:x.k=2
 ·
  have HE:Hid (X=(z2,0)):=hidOf (by rw [HX.out,if_neg k1,if_pos k2])
  clear k1
  rw [k2]
  go_enter Tryz.func33,Tryz.ntmps33
  go_wp2
  go_ret2
  rw [HE.out]
  exact ⟨rfl,(Out.refl w).alloc _⟩
 by_cases k3:x.k=3
 ·
  have HE:Hid (X=(z3,0)):=hidOf (by rw [HX.out,if_neg k1,if_neg k2,if_pos k3])
  clear k1 k2
  rw [k3]
  go_enter Tryz.func33,Tryz.ntmps33
  go_wp2
  go_ret2
  rw [HE.out]
  exact ⟨rfl,(Out.refl w).alloc _⟩
 by_cases k4:x.k=4
 ·
  have HE:Hid (X=(z4,0)):=hidOf (by rw [HX.out,if_neg k1,if_neg k2,if_neg k3,if_pos k4])
  clear k1 k2 k3
  rw [k4]
  go_enter Tryz.func33,Tryz.ntmps33
  go_wp2
  go_ret2
  rw [HE.out]
  exact ⟨rfl,(Out.refl w).alloc _⟩
 have HE:Hid (X=([],60)):=hidOf (by rw [HX.out,if_neg k1,if_neg k2,if_neg k3,if_neg k4])
 go_enter Tryz.func33,Tryz.ntmps33
 go_wp2
 go_ret2
 rw [HE.out]
 exact ⟨rfl,(Out.refl w).alloc _⟩
def lnPl (x:Stm) (nw nn:Nat):List UInt8 × Int:=
 if (!insZ x || !x.tg.isEmpty)=true then ([],60) else if isNmP x.nm=false then ([],60) else if (decide (0<nw) || decide (0<nn))=true then ([],60) else nmLn x
set_option maxRecDepth 20000 in
set_option maxHeartbeats 4000000 in
theorem lineOf_plain (x:Stm) (aw an:Option Addr) (nw cw nn cn:Nat) (w:World) (hpw:Lx.Pow w) (hx:x.nm.length<=140737488355328) (h5:¬x.k=5) (h6:¬x.k=6):Calls Tryz.prog 15 #[.agg #[.int .i64 x.k,.string ⟨x.nm.toArray⟩,.slice aw nw cw,.slice an nn cn,.int .i64 x.o,.int .i64 x.d,.int .i64 x.s,.int .i64 x.f,.int .i64 x.i,.string ⟨x.tg.toArray⟩,.int .i64 x.l]] w fun e w'=>e=.returned (.tuple #[.string ⟨(lnPl x nw nn).1.toArray⟩,.int .i64 (lnPl x nw nn).2])/\Out w w':=by
 have CI:=hidOf (hasInsn_any x aw an nw cw nn cn)
 have CL:=hidOf (hasLists_any x aw an nw cw nn cn)
 have CN:=hidOf (fun wx=>nameLine_any x aw an nw cw nn cn wx hx)
 have CM:Hid (∀ wx,Out w wx->Calls Tryz.prog 31 #[.string ⟨x.nm.toArray⟩] wx fun e w'=>e=.returned (.bool (isNmP x.nm))/\Out wx w'):=hidOf (fun wx o=>isName6_any x.nm hx wx (hpw.out o))
 obtain ⟨X,hX⟩:∃ X,X=lnPl x nw nn:=⟨_,rfl⟩
 rw [<-hX]
 unfold lnPl at hX
 generalize (!insZ x || !x.tg.isEmpty)=b1 at *
 generalize isNmP x.nm=b2 at *
 generalize (decide (0<nw) || decide (0<nn))=b3 at *
 generalize nmLn x=z at *
 have HX:=hidOf hX
 obtain ⟨w1,hw1⟩:∃ w1,w1=w.alloc (.cells #[.int .i64 x.k,.string ⟨x.nm.toArray⟩,.slice aw nw cw,.slice an nn cn,.int .i64 x.o,.int .i64 x.d,.int .i64 x.s,.int .i64 x.f,.int .i64 x.i,.string ⟨x.tg.toArray⟩,.int .i64 x.l] 42):=⟨_,rfl⟩
 have O1:Hid (Out w w1):=hidOf (by rw [hw1];exact (Out.refl w).alloc _)
 have b1':w1.heap[w.heap.size]? = some (.cells #[.int .i64 x.k,.string ⟨x.nm.toArray⟩,.slice aw nw cw,.slice an nn cn,.int .i64 x.o,.int .i64 x.d,.int .i64 x.s,.int .i64 x.f,.int .i64 x.i,.string ⟨x.tg.toArray⟩,.int .i64 x.l] 42 (0,0)):=by rw [hw1];exact heap_alloc_new w _
 have BL:Hid (∀ wx,Out w1 wx->wx.heap[w.heap.size]? = some (.cells #[.int .i64 x.k,.string ⟨x.nm.toArray⟩,.slice aw nw cw,.slice an nn cn,.int .i64 x.o,.int .i64 x.d,.int .i64 x.s,.int .i64 x.f,.int .i64 x.i,.string ⟨x.tg.toArray⟩,.int .i64 x.l] 42 (0,0))):=hidOf (fun wx o=>(o.block _ (Array.getElem?_eq_some_iff.1 b1').1).trans b1')
 have Hw1:=hidOf hw1
 have k5:(x.k == 5)=false:=by simp [h5]
 have k6:(x.k == 6)=false:=by simp [h6]
 clear hX hw1 b1' hpw hx h5 h6
 have c0:w1.cell? ⟨w.heap.size,0,none⟩=some (.int .i64 x.k):=by rw [cell_atL (BL.out _ (Out.refl w1))];rfl
 have c1:w1.cell? ⟨w.heap.size,1,none⟩=some (.string ⟨x.nm.toArray⟩):=by rw [cell_atL (BL.out _ (Out.refl w1))];rfl
 have c2:w1.cell? ⟨w.heap.size,2,none⟩=some (.slice aw nw cw):=by rw [cell_atL (BL.out _ (Out.refl w1))];rfl
 have c3:w1.cell? ⟨w.heap.size,3,none⟩=some (.slice an nn cn):=by rw [cell_atL (BL.out _ (Out.refl w1))];rfl
 have c4:w1.cell? ⟨w.heap.size,4,none⟩=some (.int .i64 x.o):=by rw [cell_atL (BL.out _ (Out.refl w1))];rfl
 have c5:w1.cell? ⟨w.heap.size,5,none⟩=some (.int .i64 x.d):=by rw [cell_atL (BL.out _ (Out.refl w1))];rfl
 have c6:w1.cell? ⟨w.heap.size,6,none⟩=some (.int .i64 x.s):=by rw [cell_atL (BL.out _ (Out.refl w1))];rfl
 have c7:w1.cell? ⟨w.heap.size,7,none⟩=some (.int .i64 x.f):=by rw [cell_atL (BL.out _ (Out.refl w1))];rfl
 have c8:w1.cell? ⟨w.heap.size,8,none⟩=some (.int .i64 x.i):=by rw [cell_atL (BL.out _ (Out.refl w1))];rfl
 have c9:w1.cell? ⟨w.heap.size,9,none⟩=some (.string ⟨x.tg.toArray⟩):=by rw [cell_atL (BL.out _ (Out.refl w1))];rfl
 have c10:w1.cell? ⟨w.heap.size,10,none⟩=some (.int .i64 x.l):=by rw [cell_atL (BL.out _ (Out.refl w1))];rfl
 cases b1 with
 | true=>
  have HE:Hid (X=([],60)):=hidOf (by rw [HX.out,if_pos rfl])
  go_enter Tryz.func15,Tryz.ntmps15
  go_upto_region 1 with fail
  rw [<-Hw1.out]
  go_wp2_with (go_at_call 30;refine (CI.out _).mono ?_;rintro e w2 ⟨rfl,ho⟩;have O2:=hidOf ho;clear ho)
  go_ret2
  rw [HE.out]
  exact ⟨rfl,O1.out.trans O2.out⟩
 | false=>
  cases b2 with
  | false=>
   have HE:Hid (X=([],60)):=hidOf (by rw [HX.out,if_neg (by simp),if_pos rfl])
   go_enter Tryz.func15,Tryz.ntmps15
   go_upto_region 1 with fail
   rw [<-Hw1.out]
   go_wp2_with (first | (go_at_call 30;refine (CI.out _).mono ?_;rintro e w2 ⟨rfl,ho⟩;have O2:=hidOf ho;have d1:=(show w2.cell? ⟨w.heap.size,1,none⟩=some (.string ⟨x.nm.toArray⟩) by rw [cell_atL (BL.out _ ho)];rfl);clear ho) | (go_at_call 31;refine (CM.out _ (O1.out.trans O2.out)).mono ?_;rintro e w3 ⟨rfl,ho⟩;have O3:=hidOf ho;clear ho))
   go_ret2
   rw [HE.out]
   exact ⟨rfl,(O1.out.trans O2.out).trans O3.out⟩
  | true=>
   cases b3 with
   | true=>
    have HE:Hid (X=([],60)):=hidOf (by rw [HX.out,if_neg (by simp),if_neg (by simp),if_pos rfl])
    go_enter Tryz.func15,Tryz.ntmps15
    go_upto_region 1 with fail
    rw [<-Hw1.out]
    go_upto_region 5 with (first | (go_at_call 30;refine (CI.out _).mono ?_;rintro e w2 ⟨rfl,ho⟩;have O2:=hidOf ho;have d1:=(show w2.cell? ⟨w.heap.size,1,none⟩=some (.string ⟨x.nm.toArray⟩) by rw [cell_atL (BL.out _ ho)];rfl);clear ho) | (go_at_call 31;refine (CM.out _ (O1.out.trans O2.out)).mono ?_;rintro e w3 ⟨rfl,ho⟩;have O3:=hidOf (O2.out.trans ho);clear ho))
    clear d1 c0 c1 c2 c3 c4 c5 c6 c7 c8 c9 c10
    have e0:w3.cell? ⟨w.heap.size,0,none⟩=some (.int .i64 x.k):=by rw [cell_atL (BL.out _ (O3.out))];rfl
    have e1:w3.cell? ⟨w.heap.size,1,none⟩=some (.string ⟨x.nm.toArray⟩):=by rw [cell_atL (BL.out _ (O3.out))];rfl
    have e2:w3.cell? ⟨w.heap.size,2,none⟩=some (.slice aw nw cw):=by rw [cell_atL (BL.out _ (O3.out))];rfl
    have e3:w3.cell? ⟨w.heap.size,3,none⟩=some (.slice an nn cn):=by rw [cell_atL (BL.out _ (O3.out))];rfl
    have e4:w3.cell? ⟨w.heap.size,4,none⟩=some (.int .i64 x.o):=by rw [cell_atL (BL.out _ (O3.out))];rfl
    have e5:w3.cell? ⟨w.heap.size,5,none⟩=some (.int .i64 x.d):=by rw [cell_atL (BL.out _ (O3.out))];rfl
    have e6:w3.cell? ⟨w.heap.size,6,none⟩=some (.int .i64 x.s):=by rw [cell_atL (BL.out _ (O3.out))];rfl
    have e7:w3.cell? ⟨w.heap.size,7,none⟩=some (.int .i64 x.f):=by rw [cell_atL (BL.out _ (O3.out))];rfl
    have e8:w3.cell? ⟨w.heap.size,8,none⟩=some (.int .i64 x.i):=by rw [cell_atL (BL.out _ (O3.out))];rfl
    have e9:w3.cell? ⟨w.heap.size,9,none⟩=some (.string ⟨x.tg.toArray⟩):=by rw [cell_atL (BL.out _ (O3.out))];rfl
    have e10:w3.cell? ⟨w.heap.size,10,none⟩=some (.int .i64 x.l):=by rw [cell_atL (BL.out _ (O3.out))];rfl
    go_wp2_with (go_at_call 28;refine (CL.out _).mono ?_;rintro e w4 ⟨rfl,ho⟩;have O4:=hidOf (O3.out.trans ho);clear ho)
    go_ret2
    rw [HE.out]
    exact ⟨rfl,O1.out.trans O4.out⟩
   | false=>
    have HE:Hid (X=z):=hidOf (by rw [HX.out,if_neg (by simp),if_neg (by simp),if_neg (by simp)])
    go_enter Tryz.func15,Tryz.ntmps15
    go_upto_region 1 with fail
    rw [<-Hw1.out]
    go_upto_region 5 with (first | (go_at_call 30;refine (CI.out _).mono ?_;rintro e w2 ⟨rfl,ho⟩;have O2:=hidOf ho;have d1:=(show w2.cell? ⟨w.heap.size,1,none⟩=some (.string ⟨x.nm.toArray⟩) by rw [cell_atL (BL.out _ ho)];rfl);clear ho) | (go_at_call 31;refine (CM.out _ (O1.out.trans O2.out)).mono ?_;rintro e w3 ⟨rfl,ho⟩;have O3:=hidOf (O2.out.trans ho);clear ho))
    clear d1 c0 c1 c2 c3 c4 c5 c6 c7 c8 c9 c10
    have e0:w3.cell? ⟨w.heap.size,0,none⟩=some (.int .i64 x.k):=by rw [cell_atL (BL.out _ (O3.out))];rfl
    have e1:w3.cell? ⟨w.heap.size,1,none⟩=some (.string ⟨x.nm.toArray⟩):=by rw [cell_atL (BL.out _ (O3.out))];rfl
    have e2:w3.cell? ⟨w.heap.size,2,none⟩=some (.slice aw nw cw):=by rw [cell_atL (BL.out _ (O3.out))];rfl
    have e3:w3.cell? ⟨w.heap.size,3,none⟩=some (.slice an nn cn):=by rw [cell_atL (BL.out _ (O3.out))];rfl
    have e4:w3.cell? ⟨w.heap.size,4,none⟩=some (.int .i64 x.o):=by rw [cell_atL (BL.out _ (O3.out))];rfl
    have e5:w3.cell? ⟨w.heap.size,5,none⟩=some (.int .i64 x.d):=by rw [cell_atL (BL.out _ (O3.out))];rfl
    have e6:w3.cell? ⟨w.heap.size,6,none⟩=some (.int .i64 x.s):=by rw [cell_atL (BL.out _ (O3.out))];rfl
    have e7:w3.cell? ⟨w.heap.size,7,none⟩=some (.int .i64 x.f):=by rw [cell_atL (BL.out _ (O3.out))];rfl
    have e8:w3.cell? ⟨w.heap.size,8,none⟩=some (.int .i64 x.i):=by rw [cell_atL (BL.out _ (O3.out))];rfl
    have e9:w3.cell? ⟨w.heap.size,9,none⟩=some (.string ⟨x.tg.toArray⟩):=by rw [cell_atL (BL.out _ (O3.out))];rfl
    have e10:w3.cell? ⟨w.heap.size,10,none⟩=some (.int .i64 x.l):=by rw [cell_atL (BL.out _ (O3.out))];rfl
    go_upto_region 9 with (go_at_call 28;refine (CL.out _).mono ?_;rintro e w4 ⟨rfl,ho⟩;have O4:=hidOf (O3.out.trans ho);clear ho)
    clear e0 e1 e2 e3 e4 e5 e6 e7 e8 e9 e10
    have g0:w4.cell? ⟨w.heap.size,0,none⟩=some (.int .i64 x.k):=by rw [cell_atL (BL.out _ (O4.out))];rfl
    have g1:w4.cell? ⟨w.heap.size,1,none⟩=some (.string ⟨x.nm.toArray⟩):=by rw [cell_atL (BL.out _ (O4.out))];rfl
    have g2:w4.cell? ⟨w.heap.size,2,none⟩=some (.slice aw nw cw):=by rw [cell_atL (BL.out _ (O4.out))];rfl
    have g3:w4.cell? ⟨w.heap.size,3,none⟩=some (.slice an nn cn):=by rw [cell_atL (BL.out _ (O4.out))];rfl
    have g4:w4.cell? ⟨w.heap.size,4,none⟩=some (.int .i64 x.o):=by rw [cell_atL (BL.out _ (O4.out))];rfl
    have g5:w4.cell? ⟨w.heap.size,5,none⟩=some (.int .i64 x.d):=by rw [cell_atL (BL.out _ (O4.out))];rfl
    have g6:w4.cell? ⟨w.heap.size,6,none⟩=some (.int .i64 x.s):=by rw [cell_atL (BL.out _ (O4.out))];rfl
    have g7:w4.cell? ⟨w.heap.size,7,none⟩=some (.int .i64 x.f):=by rw [cell_atL (BL.out _ (O4.out))];rfl
    have g8:w4.cell? ⟨w.heap.size,8,none⟩=some (.int .i64 x.i):=by rw [cell_atL (BL.out _ (O4.out))];rfl
    have g9:w4.cell? ⟨w.heap.size,9,none⟩=some (.string ⟨x.tg.toArray⟩):=by rw [cell_atL (BL.out _ (O4.out))];rfl
    have g10:w4.cell? ⟨w.heap.size,10,none⟩=some (.int .i64 x.l):=by rw [cell_atL (BL.out _ (O4.out))];rfl
    go_wp2_with (go_at_call 33;refine (CN.out _).mono ?_;rintro e w5 ⟨rfl,ho⟩;have O5:=hidOf (O4.out.trans ho);clear ho)
    go_ret2
    rw [HE.out]
    exact ⟨rfl,O1.out.trans O5.out⟩
end Go.Proofs.YtadneimllbfdnaaGreatDoor
