import Derived.Test.YtadneimllbfdnaaGreatDoorGu50
import Derived.Test.YtadneimllbfdnaaGreatDoorGu51
namespace Go.Proofs.YtadneimllbfdnaaGreatDoor
open Go.ChangeShapes Go.WideShapes Go.ChangeAt Go.RowKit Go.Deep
set_option linter.unusedVariables false
set_option linter.unusedSimpArgs false
theorem bulk_len6 {H:Type} : ∀ l:List (DataW H),l.length<=Rows.uptoBulkAll l
 | []=>Nat.zero_le _
 | d::r=>by
  have:=bulk_len6 r
  have:1<=Rows.uptoBulk d:=by cases d with | lit v=>(cases v <;> simp [Rows.uptoBulk]) | _=>simp [Rows.uptoBulk]
  simp only [List.length_cons,Rows.uptoBulkAll]
  omega
theorem bulk_mem6 {H:Type} {l:List (DataW H)} {d:DataW H} (h:d ∈ l):Rows.uptoBulk d<=Rows.uptoBulkAll l:=by
 induction l with
 | nil=>cases h
 | cons x r ih=>
  simp only [Rows.uptoBulkAll]
  rcases List.mem_cons.1 h with rfl | h
  · omega
  · have:=ih h;omega
theorem open_texts6U {H:Type} {enc:TypeId × Value->H} {w:World} {base:Nat} {spare:Nat->Bool} {held:Bool} {fuel:Nat} {v:Value} {x:DataW H × List MemPlace}
  (h:DataW.trod enc Tryz.prog w base spare held fuel 37 [v]=some x):∃ (a:Option Addr) (cap:Nat) (ts:List (List UInt8)),v=.slice a ts.length cap/\RowC w a (strsC ts)/\ts.length<=cap/\(a=none->cap=0)/\ts.length<=Rows.uptoBulk x.1:=by
 rcases open_slice Tryz.underlying37 h with ⟨hcs,rfl⟩ | ⟨ad,l,c,m,n,D,Pl,hcs,hb,hl,hm,hmm,rfl,hx⟩
 ·
  simp at hcs
  exact ⟨none,0,[],hcs,.inl rfl,Nat.le_refl _,fun _=>rfl,Nat.zero_le _⟩
 ·
  simp at hcs
  subst hcs
  have hwl:l<=Rows.uptoBulk (DataW.slice ((List.range l).map D) ((List.range (m - l)).map fun i=>D (l+i))):=by
   simp only [Rows.uptoBulk]
   have:=bulk_len6 (H:=H) ((List.range l).map D)
   simp only [List.length_map,List.length_range] at this
   omega
  by_cases z:l=0
  · subst z;exact ⟨some ad,c,[],rfl,.inl rfl,hl,fun e=>(by cases e),Nat.zero_le _⟩
  have hlm:l<=m:=by rw [hmm];split <;> omega
  obtain ⟨b,off,spot⟩:=ad
  have hs:spot=none:=by
   obtain ⟨cs',h1,h2⟩:=hx 0 (by omega)
   simp only [cStr6] at h1
   obtain ⟨_,hlen,hcell⟩:=World.cells?_some h1
   match cs',hlen with
   | [v0],_=>
    have e0:w.cell? (((⟨b,off,spot⟩:Addr).add (0*1)).add 0)=some v0:=hcell 0 (by simp)
    simpa [Addr.add] using World.cell?_spot e0
  subst hs
  have key:∀ i,i<l->∃ y:List UInt8,w.cell? ⟨b,off+i,none⟩=some (.string ⟨y.toArray⟩):=by
   intro i hi
   obtain ⟨cs',h1,h2⟩:=hx i (by omega)
   simp only [cStr6] at h1
   obtain ⟨_,hlen,hcell⟩:=World.cells?_some h1
   match cs',hlen with
   | [v0],_=>
    have e0:=hcell 0 (by simp)
    simp only [add_plain] at e0
    simp at e0
    obtain ⟨B,r5,q5,_⟩:=DataW.trod_string Tryz.underlying9 h2
    obtain ⟨lt,rfl⟩:∃ lt:List UInt8,B=⟨lt.toArray⟩:=⟨B.data.toList,by simp⟩
    simp at r5
    subst r5
    exact ⟨lt,e0⟩
  obtain ⟨ts,hl1,hp⟩:=Lx.list_of _ l key
  refine ⟨some ⟨b,off,none⟩,c,ts,by rw [hl1],.inr ⟨b,off,rfl,fun k u hu=>?_⟩,by omega,fun e=>(by cases e),by rw [hl1];exact hwl⟩
  simp only [strsC,List.getElem?_map,Option.map_eq_some_iff] at hu
  obtain ⟨y,hy,rfl⟩:=hu
  exact hp k y hy
theorem open_nums6U {H:Type} {enc:TypeId × Value->H} {w:World} {base:Nat} {spare:Nat->Bool} {held:Bool} {fuel:Nat} {v:Value} {x:DataW H × List MemPlace}
  (h:DataW.trod enc Tryz.prog w base spare held fuel 38 [v]=some x):∃ (a:Option Addr) (cap:Nat) (ts:List Int),v=.slice a ts.length cap/\RowC w a (intsC ts)/\ts.length<=cap/\(a=none->cap=0)/\ts.length<=Rows.uptoBulk x.1:=by
 rcases open_slice Tryz.underlying38 h with ⟨hcs,rfl⟩ | ⟨ad,l,c,m,n,D,Pl,hcs,hb,hl,hm,hmm,rfl,hx⟩
 ·
  simp at hcs
  exact ⟨none,0,[],hcs,.inl rfl,Nat.le_refl _,fun _=>rfl,Nat.zero_le _⟩
 ·
  simp at hcs
  subst hcs
  have hwl:l<=Rows.uptoBulk (DataW.slice ((List.range l).map D) ((List.range (m - l)).map fun i=>D (l+i))):=by
   simp only [Rows.uptoBulk]
   have:=bulk_len6 (H:=H) ((List.range l).map D)
   simp only [List.length_map,List.length_range] at this
   omega
  by_cases z:l=0
  · subst z;exact ⟨some ad,c,[],rfl,.inl rfl,hl,fun e=>(by cases e),Nat.zero_le _⟩
  have hlm:l<=m:=by rw [hmm];split <;> omega
  obtain ⟨b,off,spot⟩:=ad
  have hs:spot=none:=by
   obtain ⟨cs',h1,h2⟩:=hx 0 (by omega)
   simp only [cInt6] at h1
   obtain ⟨_,hlen,hcell⟩:=World.cells?_some h1
   match cs',hlen with
   | [v0],_=>
    have e0:w.cell? (((⟨b,off,spot⟩:Addr).add (0*1)).add 0)=some v0:=hcell 0 (by simp)
    simpa [Addr.add] using World.cell?_spot e0
  subst hs
  have key:∀ i,i<l->∃ y:Int,w.cell? ⟨b,off+i,none⟩=some (.int .i64 y):=by
   intro i hi
   obtain ⟨cs',h1,h2⟩:=hx i (by omega)
   simp only [cInt6] at h1
   obtain ⟨_,hlen,hcell⟩:=World.cells?_some h1
   match cs',hlen with
   | [v0],_=>
    have e0:=hcell 0 (by simp)
    simp only [add_plain] at e0
    simp at e0
    obtain ⟨B,r5,_,_⟩:=DataW.trod_int Tryz.underlying3 h2
    simp at r5
    subst r5
    exact ⟨B,e0⟩
  obtain ⟨ts,hl1,hp⟩:=Lx.list_of _ l key
  refine ⟨some ⟨b,off,none⟩,c,ts,by rw [hl1],.inr ⟨b,off,rfl,fun k u hu=>?_⟩,by omega,fun e=>(by cases e),by rw [hl1];exact hwl⟩
  simp only [intsC,List.getElem?_map,Option.map_eq_some_iff] at hu
  obtain ⟨y,hy,rfl⟩:=hu
  exact hp k y hy
def StIu (w:World) (y:Stm × Value × Value) (bk:Nat):Prop:=LsR w y/\(y.1.ws.length<=bk/\y.1.ns.length<=bk)/\y.1.nm.length<=bk/\y.1.tg.length<=bk/\I64 y.1.o/\I64 y.1.f/\I64 y.1.i
theorem StIu.mono {w:World} {y:Stm × Value × Value} {a b:Nat} (h:StIu w y a) (e:a<=b):StIu w y b:=
 ⟨h.1,⟨Nat.le_trans h.2.1.1 e,Nat.le_trans h.2.1.2 e⟩,Nat.le_trans h.2.2.1 e,Nat.le_trans h.2.2.2.1 e,h.2.2.2.2⟩
set_option maxRecDepth 20000 in
set_option maxHeartbeats 2000000 in
theorem open_stsU {H:Type} {enc:TypeId × Value->H} {w:World} {base:Nat} {spare:Nat->Bool} {held:Bool} {fuel:Nat} {a:Option Addr} {len cap:Nat} {x:DataW H × List MemPlace}
  (h:DataW.trod enc Tryz.prog w base spare held fuel 24 [.slice a len cap]=some x):∃ Y:List (Stm × Value × Value),Y.length=len/\StA w a Y/\(∀ y ∈ Y,StIu w y (Rows.uptoBulk x.1))/\len<=cap/\len<=Rows.uptoBulk x.1:=by
 rcases open_slice Tryz.underlying24 h with ⟨hcs,rfl⟩ | ⟨ad,l,c,m,n,D,Pl,hcs,hb,hl,hm,hmm,rfl,hx⟩
 ·
  simp at hcs
  obtain ⟨rfl,rfl,rfl⟩:=hcs
  exact ⟨[],rfl,.inl rfl,fun y hy=>(by cases hy),Nat.le_refl _,Nat.zero_le _⟩
 ·
  simp at hcs
  obtain ⟨rfl,rfl,rfl⟩:=hcs
  obtain ⟨bk,hbk⟩:∃ bk,bk=Rows.uptoBulk (DataW.slice ((List.range len).map D) ((List.range (m - len)).map fun i=>D (len+i))):=⟨_,rfl⟩
  have hb2:=hbk
  simp only [Rows.uptoBulk] at hb2
  have hwl:len<=bk:=by
   have:=bulk_len6 (H:=H) ((List.range len).map D)
   simp only [List.length_map,List.length_range] at this
   omega
  have hwd:∀ i,i<len->Rows.uptoBulk (D i)<=bk:=fun i hi=>by
   have:=bulk_mem6 (l:=(List.range len).map D) (List.mem_map.2 ⟨i,List.mem_range.2 hi,rfl⟩)
   omega
  simp only
  rw [<-hbk]
  by_cases z:len=0
  · subst z;exact ⟨[],rfl,.inl rfl,fun y hy=>(by cases hy),hl,by omega⟩
  have hlm:len<=m:=by rw [hmm];split <;> omega
  obtain ⟨b,off,spot⟩:=ad
  have hs:spot=none:=by
   obtain ⟨cs',h1,h2⟩:=hx 0 (by omega)
   simp only [cSt6] at h1
   obtain ⟨_,hlen,hcell⟩:=World.cells?_some h1
   match cs',hlen with
   | [v0,v1,v2,v3,v4,v5,v6,v7,v8,v9,v10],_=>
    have e0:w.cell? (((⟨b,off,spot⟩:Addr).add (0*11)).add 0)=some v0:=hcell 0 (by simp)
    simpa [Addr.add] using World.cell?_spot e0
  subst hs
  have key:∀ i,i<len->∃ y:Stm × Value × Value,(∀ j u,(stL y.1 y.2.1 y.2.2)[j]? = some u->w.cell? ⟨b,off+i*11+j,none⟩=some u)/\StIu w y bk:=by
   intro i hi
   obtain ⟨cs',h1,h2⟩:=hx i (by omega)
   simp only [cSt6] at h1
   obtain ⟨_,hlen,hcell⟩:=World.cells?_some h1
   have hwi:=hwd i hi
   obtain ⟨xs,k,hk,hxy,_,hxl,hf⟩:=DataW.trod_struct Tryz.underlying42 h2
   match xs,hxl,cs',hlen with
   | [y0,y1,y2,y3,y4,y5,y6],_,[v0,v1,v2,v3,v4,v5,v6,v7,v8,v9,v10],_=>
    have g0:=hf 0 _ rfl
    have g1:=hf 1 _ rfl
    have g2:=hf 2 _ rfl
    have g3:=hf 3 _ rfl
    have g4:=hf 4 _ rfl
    have g5:=hf 5 _ rfl
    have g6:=hf 6 _ rfl
    simp [cInt6,cStr6,cSs6,cIs6,cInsn] at g0 g1 g2 g3 g4 g5 g6
    obtain ⟨A0,r0,_,_⟩:=DataW.trod_int Tryz.underlying3 g0
    obtain ⟨B1,r1,q1,_⟩:=DataW.trod_string Tryz.underlying9 g1
    obtain ⟨xi,k2,hk2,_,_,hxl2,hg⟩:=DataW.trod_struct Tryz.underlying40 g4
    obtain ⟨B5,r5,q5,_⟩:=DataW.trod_string Tryz.underlying9 g5
    obtain ⟨A6,r6,_,_⟩:=DataW.trod_int Tryz.underlying3 g6
    have hD:D i=.agg [y0.1,y1.1,y2.1,y3.1,y4.1,y5.1,y6.1]:=congrArg Prod.fst hxy
    rw [hD] at hwi
    simp only [Rows.uptoBulk,Rows.uptoBulkAll] at hwi
    have b1:Rows.uptoBulk y1.1=B1.data.toList.length+1:=by rw [q1];simp [Rows.uptoBulk]
    have b5:Rows.uptoBulk y5.1=B5.data.toList.length+1:=by rw [q5];simp [Rows.uptoBulk]
    obtain ⟨t1,rfl⟩:∃ lt:List UInt8,B1=⟨lt.toArray⟩:=⟨B1.data.toList,by simp⟩
    obtain ⟨t5,rfl⟩:∃ lt:List UInt8,B5=⟨lt.toArray⟩:=⟨B5.data.toList,by simp⟩
    simp only [List.toList_toArray] at b1 b5
    obtain ⟨aw,cw,ws,e2',w2,w2c,w2n,w2l⟩:=open_texts6U g2
    obtain ⟨an,cn,ns,e3',w3,w3c,w3n,w3l⟩:=open_nums6U g3
    match xi,hxl2 with
    | [z0,z1,z2,z3,z4],_=>
     have m0:=hg 0 _ rfl
     have m1:=hg 1 _ rfl
     have m2:=hg 2 _ rfl
     have m3:=hg 3 _ rfl
     have m4:=hg 4 _ rfl
     simp [cInt6] at m0 m1 m2 m3 m4
     obtain ⟨b0,s0,_,f0⟩:=DataW.trod_int Tryz.underlying3 m0
     obtain ⟨b1,s1,_,f1⟩:=DataW.trod_int Tryz.underlying3 m1
     obtain ⟨b2,s2,_,f2⟩:=DataW.trod_int Tryz.underlying3 m2
     obtain ⟨b3,s3,_,f3⟩:=DataW.trod_int Tryz.underlying3 m3
     obtain ⟨b4,s4,_,f4⟩:=DataW.trod_int Tryz.underlying3 m4
     have e0:=hcell 0 (by simp)
     have e1:=hcell 1 (by simp)
     have e2:=hcell 2 (by simp)
     have e3:=hcell 3 (by simp)
     have e4:=hcell 4 (by simp)
     have e5:=hcell 5 (by simp)
     have e6:=hcell 6 (by simp)
     have e7:=hcell 7 (by simp)
     have e8:=hcell 8 (by simp)
     have e9:=hcell 9 (by simp)
     have e10:=hcell 10 (by simp)
     simp at r0 r1 r5 r6 s0 s1 s2 s3 s4
     subst r0 r1 r5 r6 s0 s1 s2 s3 s4 e2' e3'
     simp only [add_plain] at e0 e1 e2 e3 e4 e5 e6 e7 e8 e9 e10
     simp at e0 e1 e2 e3 e4 e5 e6 e7 e8 e9 e10
     refine ⟨(⟨A0,t1,ws,ns,b0,b1,b2,b3,b4,t5,A6⟩,.slice aw ws.length cw,.slice an ns.length cn),fun j u hu=>?_,⟨aw,cw,an,cn,rfl,rfl,w2,w3,w2c,w3c⟩,⟨by simp only;omega,by simp only;omega⟩,by simp only;omega,by simp only;omega,wfI64 f0,wfI64 f3,wfI64 f4⟩
     have hj:j<11:=(List.getElem?_eq_some_iff.1 hu).1
     match j,hj with
     | 0,_=>simp [stL] at hu;subst hu;simpa using e0
     | 1,_=>simp [stL] at hu;subst hu;exact e1
     | 2,_=>simp [stL] at hu;subst hu;exact e2
     | 3,_=>simp [stL] at hu;subst hu;exact e3
     | 4,_=>simp [stL] at hu;subst hu;exact e4
     | 5,_=>simp [stL] at hu;subst hu;exact e5
     | 6,_=>simp [stL] at hu;subst hu;exact e6
     | 7,_=>simp [stL] at hu;subst hu;exact e7
     | 8,_=>simp [stL] at hu;subst hu;exact e8
     | 9,_=>simp [stL] at hu;subst hu;exact e9
     | 10,_=>simp [stL] at hu;subst hu;exact e10
  obtain ⟨Y,hl1,hp⟩:=Lx.list_of _ len key
  refine ⟨Y,hl1,.inr ⟨b,off,rfl,fun k y hy=>(hp k y hy).1⟩,fun y hy=>?_,hl,hwl⟩
  obtain ⟨i,hi⟩:=List.getElem?_of_mem hy
  exact (hp i y hi).2
theorem cSts6:Tryz.prog.cellsOf 24 = 1:=by kernel_rfl
def LlA (w:World) (a:Option Addr) (LL:List (List (Stm × Value × Value))):Prop:=LL=[]\/∃ g off,a=some ⟨g,off,none⟩/\∀ (k:Nat) (Y:List (Stm × Value × Value)),LL[k]? = some Y->∃ la lc,w.cell? ⟨g,off+k,none⟩=some (.slice la Y.length lc)/\StA w la Y/\Y.length<=lc
set_option maxRecDepth 20000 in
theorem open_stssU {H:Type} {enc:TypeId × Value->H} {w:World} {base:Nat} {spare:Nat->Bool} {held:Bool} {fuel:Nat} {a:Option Addr} {len cap:Nat} {x:DataW H × List MemPlace}
  (h:DataW.trod enc Tryz.prog w base spare held fuel 22 [.slice a len cap]=some x):∃ LL:List (List (Stm × Value × Value)),LL.length=len/\LlA w a LL/\len<=Rows.uptoBulk x.1/\∀ Y ∈ LL,Y.length<=Rows.uptoBulk x.1/\∀ y ∈ Y,StIu w y (Rows.uptoBulk x.1):=by
 rcases open_slice Tryz.underlying22 h with ⟨hcs,rfl⟩ | ⟨ad,l,c,m,n,D,Pl,hcs,hb,hl,hm,hmm,rfl,hx⟩
 ·
  simp at hcs
  obtain ⟨rfl,rfl,rfl⟩:=hcs
  exact ⟨[],rfl,.inl rfl,Nat.zero_le _,by simp⟩
 ·
  simp at hcs
  obtain ⟨rfl,rfl,rfl⟩:=hcs
  obtain ⟨bk,hbk⟩:∃ bk,bk=Rows.uptoBulk (DataW.slice ((List.range len).map D) ((List.range (m - len)).map fun i=>D (len+i))):=⟨_,rfl⟩
  have hb2:=hbk
  simp only [Rows.uptoBulk] at hb2
  have hwl:len<=bk:=by
   have:=bulk_len6 (H:=H) ((List.range len).map D)
   simp only [List.length_map,List.length_range] at this
   omega
  have hwd:∀ i,i<len->Rows.uptoBulk (D i)<=bk:=fun i hi=>by
   have:=bulk_mem6 (l:=(List.range len).map D) (List.mem_map.2 ⟨i,List.mem_range.2 hi,rfl⟩)
   omega
  simp only
  rw [<-hbk]
  by_cases z:len=0
  · subst z;exact ⟨[],rfl,.inl rfl,by omega,by simp⟩
  have hlm:len<=m:=by rw [hmm];split <;> omega
  obtain ⟨b,off,spot⟩:=ad
  have hs:spot=none:=by
   obtain ⟨cs',h1,h2⟩:=hx 0 (by omega)
   simp only [cSts6] at h1
   obtain ⟨_,hlen,hcell⟩:=World.cells?_some h1
   match cs',hlen with
   | [v0],_=>
    have e0:w.cell? (((⟨b,off,spot⟩:Addr).add (0*1)).add 0)=some v0:=hcell 0 (by simp)
    simpa [Addr.add] using World.cell?_spot e0
  subst hs
  have key:∀ i,i<len->∃ Y:List (Stm × Value × Value),(∃ la lc,w.cell? ⟨b,off+i,none⟩=some (.slice la Y.length lc)/\StA w la Y/\Y.length<=lc)/\Y.length<=bk/\∀ y ∈ Y,StIu w y bk:=by
   intro i hi
   obtain ⟨cs',h1,h2⟩:=hx i (by omega)
   simp only [cSts6] at h1
   obtain ⟨_,hlen,hcell⟩:=World.cells?_some h1
   match cs',hlen with
   | [v0],_=>
    have e0:=hcell 0 (by simp)
    simp only [add_plain] at e0
    simp at e0
    obtain ⟨la,ll,lc,rfl⟩:∃ la ll lc,v0=.slice la ll lc:=by
     rcases open_slice Tryz.underlying24 h2 with ⟨hcs,_⟩ | ⟨ad,l,c,m,n,D,Pl,hcs,_⟩
     · simp at hcs;exact ⟨_,_,_,hcs⟩
     · simp at hcs;exact ⟨_,_,_,hcs⟩
    obtain ⟨Y,hl1,hr,hk,hc,hb3⟩:=open_stsU h2
    subst hl1
    have:=hwd i hi
    exact ⟨Y,⟨la,lc,e0,hr,hc⟩,Nat.le_trans hb3 this,fun y hy=>(hk y hy).mono this⟩
  obtain ⟨LL,hl1,hp⟩:=Lx.list_of _ len key
  refine ⟨LL,hl1,.inr ⟨b,off,rfl,fun k Y hY=>(hp k Y hY).1⟩,hwl,fun Y hY=>?_⟩
  obtain ⟨k,hk⟩:=List.getElem?_of_mem hY
  exact (hp k Y hk).2
end Go.Proofs.YtadneimllbfdnaaGreatDoor
namespace Go.Proofs.YtadneimllbfdnaaGreatDoor
open Go.RowKit
set_option linter.unusedVariables false
set_option linter.unusedSimpArgs false
theorem print_lent (w0 w:World) (hA:AEnv w) {p gl m:Nat} {Y:List StV} (h:Rln w0 w p gl m Y) (hl:Y.length<=1048576) (hx:∀ y ∈ Y,StmI y.1) :
  Calls Tryz.prog 8 #[.slice (some ⟨gl,0,none⟩) Y.length m] w fun e w'=>e=.returned (.tuple #[.string ⟨(prF [] 0 (Y.map (fun y=>lnA y.1))).1.toArray⟩,.int .i64 (prF [] 0 (Y.map (fun y=>lnA y.1))).2])/\Out w w':=by
 obtain ⟨Z,zl,z2,z3,zr,z5,hg,hm⟩:=h.sts
 have e:Y.map (fun y=>lnA y.1)=Z.map (fun y=>lnA y.1):=by
  have:=congrArg (List.map lnA) z2
  simp only [List.map_map] at this
  exact this.symm
 have hz:∀ z ∈ Z,StmI z.1:=fun z hz=>by
  have:z.1 ∈ Y.map (fun y=>y.1):=by rw [<-z2];exact List.mem_map.2 ⟨z,hz,rfl⟩
  obtain ⟨y,hy,e⟩:=List.mem_map.1 this
  rw [<-e]
  exact hx y hy
 have:=print7_any w gl 0 m Z (Z.map (fun y=>lnA y.1)) (by simp) zr hg (by omega) (by omega) (fun wx o k y r hy hr=>?_) (fun r hr h0=>?_)
 ·
  rw [e, <-zl]
  exact this
 ·
  rw [List.getElem?_map,hy] at hr
  have hr:lnA y.1=r:=Option.some.inj hr
  obtain ⟨aw,cw,an,cn,e1,e2,r1,r2,_⟩:=z5 y (List.mem_of_getElem? hy)
  obtain ⟨x1,x2,x3,x4⟩:=hz y (List.mem_of_getElem? hy)
  unfold stE
  rw [e1,e2, <-hr]
  exact lineOf_any y.1 aw an cw cn wx (hA.out o) x1 x2 x3 x4 (r1.out o) (r2.out o)
 ·
  obtain ⟨y,hy,rfl⟩:=List.mem_map.1 hr
  exact ln_l4 (hz y hy).2.2.1 (hz y hy).2.2.2 h0
theorem refPrint6_nil (w:World) (a:Option Addr) (cap:Nat):Calls Tryz.prog 9 #[.slice a 0 cap] w fun e w'=>e=.returned (.tuple #[.string ⟨#[]⟩,.int .i64 0])/\Out w w':=by
 go_enter Tryz.func9,Tryz.ntmps9
 go_upto_region 3 with fail
 go_loopw [4,5] (fun ov iv wr=>ov=.slice none 0 0/\iv=.int .i64 0/\Hid (Out w wr)) (fun _ iv _=>0)
 case atStart=>exact ⟨rfl,rfl,hidOf (Out.refl _)⟩
 case round=>
  obtain ⟨rfl,rfl,HO⟩:=hrel
  have hv:(convert 35 9 (.slice none 0 0)).run Tryz.prog wr=.ok (.string ⟨#[]⟩) wr:=Lx.conv_rest (N:=0) (a:=none) (l:=[]) (.inl rfl) _
  go_wp2
  go_ret2
  exact ⟨rfl,HO.out⟩
theorem refPrint_in (w:World) (hpw:Lx.Pow w) (a:Option Addr) (cap:Nat) {Y:List StV} (hY:StA w a Y) (lY:∀ y ∈ Y,LsR w y) (hcap:Y.length<=cap) (hl:Y.length<=1048576) (hx:∀ y ∈ Y,StmI y.1/\I64 y.1.o) :
  Calls Tryz.prog 9 #[.slice a Y.length cap] w fun e w'=>e=.returned (.tuple #[.string ⟨(prF [] 0 (Y.map (fun y=>lnA y.1))).1.toArray⟩,.int .i64 (prF [] 0 (Y.map (fun y=>lnA y.1))).2])/\Out w w':=by
 rcases hY with rfl | ⟨g,off,rfl,hcl⟩
 · exact refPrint6_nil w a cap
 by_cases h0:Y=[]
 · subst h0;exact refPrint6_nil w _ cap
 have hg:g<w.heap.size:=by
  obtain ⟨y,hy⟩:∃ y,Y[0]? = some y:=⟨_,List.getElem?_eq_getElem (by rcases Y with _ | ⟨y,r⟩;exact absurd rfl h0;simp)⟩
  exact World.block_lt_of_cell? w _ (hcl 0 y hy 0 _ rfl)
 refine refPrint6_any w g off cap Y (Y.map (fun y=>lnA y.1)) (by simp) (fun k y hy=>?_) hg hcap (by omega) (fun wx o k y r hy hr=>?_) (fun r hr h0=>?_)
 ·
  obtain ⟨aw,cw,an,cn,e1,e2,_⟩:=lY y (List.mem_of_getElem? hy)
  exact ⟨⟨_,_,_,e1⟩,⟨_,_,_,e2⟩,hcl k y hy⟩
 ·
  rw [List.getElem?_map,hy] at hr
  have hr:lnA y.1=r:=Option.some.inj hr
  obtain ⟨aw,cw,an,cn,e1,e2,r1,r2,_⟩:=lY y (List.mem_of_getElem? hy)
  obtain ⟨⟨x1,x2,x3,x4⟩,x5⟩:=hx y (List.mem_of_getElem? hy)
  unfold stE
  rw [e1,e2, <-hr]
  exact one_any y.1 aw an cw cn wx (hpw.out o) x1 x2 x5 x3 x4 (r1.out o) (r2.out o)
 ·
  obtain ⟨y,hy,rfl⟩:=List.mem_map.1 hr
  exact ln_l4 (hx y hy).1.2.2.1 (hx y hy).1.2.2.2 h0
set_option maxRecDepth 20000 in
set_option maxHeartbeats 4000000 in
theorem printed6_any (w0 w:World) (hA:AEnv w0) (hpw:Lx.Pow w0) (p:Nat) (hK:Rok w0 w p) (a:Option Addr) (cap:Nat) (Y:List StV) (hY:StA w0 a Y) (hcap:Y.length<=cap) (hI:∀ y ∈ Y,StIu w0 y 1048576) (hlen:Y.length<=1048576) :
  Calls Tryz.prog 5 #[.slice a Y.length cap,.pointer (some ⟨p,0,none⟩)] w fun e w'=>e=.returned (.bool true)/\Rok w0 w' p:=by
 have lY:∀ y ∈ Y,LsR w0 y:=fun y hy=>(hI y hy).1
 have hs:∀ y ∈ Y,y.1.ws.length<=1048576/\y.1.ns.length<=1048576:=fun y hy=>(hI y hy).2.1
 have hx:∀ y ∈ Y,StmI y.1/\I64 y.1.o:=fun y hy=>by
  obtain ⟨_,_,h1,h2,h3,h4,h5⟩:=hI y hy
  exact ⟨⟨by omega,by omega,h4,h5⟩,h3⟩
 have hx':∀ y ∈ Y,StmI y.1:=fun y hy=>(hx y hy).1
 have CR:Hid (∀ wx,Out w0 wx->Calls Tryz.prog 9 #[.slice a Y.length cap] wx fun e w'=>e=.returned (.tuple #[.string ⟨(prF [] 0 (Y.map (fun y=>lnA y.1))).1.toArray⟩,.int .i64 (prF [] 0 (Y.map (fun y=>lnA y.1))).2])/\Out wx w'):=hidOf (fun wx o=>refPrint_in wx (hpw.out o) a cap (hY.out o) (fun y hy=>(lY y hy).out o) hcap hlen hx)
 have CL:Hid (∀ wx,Rok w0 wx p->Calls Tryz.prog 10 #[.pointer (some ⟨p,0,none⟩),.slice a Y.length cap] wx fun e w'=>∃ gl m,e=.returned (.slice (some ⟨gl,0,none⟩) Y.length m)/\Rln w0 w' p gl m Y):=hidOf (fun wx h=>lend6_any w0 wx p h a cap Y hY lY hs hlen)
 have CP:Hid (∀ wx gl m,Rln w0 wx p gl m Y->Calls Tryz.prog 8 #[.slice (some ⟨gl,0,none⟩) Y.length m] wx fun e w'=>e=.returned (.tuple #[.string ⟨(prF [] 0 (Y.map (fun y=>lnA y.1))).1.toArray⟩,.int .i64 (prF [] 0 (Y.map (fun y=>lnA y.1))).2])/\Out wx w'):=hidOf (fun wx gl m h=>print_lent w0 wx (hA.out h.o) h hlen hx')
 have CB:Hid (∀ wx gl m,Rln w0 wx p gl m Y->Calls Tryz.prog 11 #[.pointer (some ⟨p,0,none⟩),.slice a Y.length cap] wx fun e w'=>e=.returned (.bool true)/\Rok w0 w' p):=hidOf (fun wx gl m h=>back6_any w0 wx p gl m Y h a cap hY lY hs hlen)
 have HK:=hidOf hK
 have CN:=hidOf num6_any
 generalize prF [] 0 (Y.map (fun y=>lnA y.1))=X at *
 obtain ⟨T,c⟩:=X
 simp only at CR CP
 generalize Y.length=n at *
 clear hY hcap hI hlen lY hs hx hx' hK hA hpw
 go_enter Tryz.func5,Tryz.ntmps5
 go_wp2_with (first | (go_at_call 9;refine (CR.out _ HK.out.o).mono ?_;rintro e w1 ⟨rfl,o1⟩;have HK1:=hidOf (HK.out.out o1);clear o1) | (go_at_call 10;refine (CL.out _ (by first | exact HK3.out | exact HK1.out)).mono ?_;rintro e w2 ⟨gl,m,rfl,h2⟩;have HK2:=hidOf h2;clear h2) | (go_at_call 8;refine (CP.out _ gl m HK2.out).mono ?_;rintro e w3 ⟨rfl,o3⟩;have HK4:=hidOf (HK2.out.out o3);clear o3) | (go_at_call 11;refine (CB.out _ gl m HK4.out).mono ?_;rintro e w5 ⟨rfl,h5⟩;have HK3:=hidOf h5;clear h5) | (go_at_call 7;refine (CN.out _ _).mono ?_;rintro e wn ⟨rfl,hwn⟩;subst hwn))
 go_ret
 exact ⟨rfl,HK3.out⟩
set_option maxRecDepth 20000 in
set_option maxHeartbeats 4000000 in
theorem parsePrints_walk (W:World) (hE:Lx.LEnv W) (hP:PEnv W) (hA:AEnv W) (hpw:Lx.Pow W) (a:Option Addr) (cap:Nat) (LL:List (List StV)) (hY:LlA W a LL) (hlen:LL.length<=1048576) (hI:∀ Y ∈ LL,Y.length<=1048576/\∀ y ∈ Y,StIu W y 1048576) :
  Calls Tryz.prog 3 #[.slice a LL.length cap] W fun e w'=>e=.returned (.bool true)/\Out W w':=by
 have CA:=hidOf (awake6_any W hE hP)
 have CP:Hid (∀ wx p,Rok W wx p->∀ (la:Option Addr) (lc:Nat) (Y:List StV),Y ∈ LL->StA W la Y->Y.length<=lc->Calls Tryz.prog 5 #[.slice la Y.length lc,.pointer (some ⟨p,0,none⟩)] wx fun e w'=>e=.returned (.bool true)/\Rok W w' p):=hidOf (fun wx p h la lc Y hm h1 h2=>printed6_any W wx hA hpw p h la lc Y h1 h2 (hI Y hm).2 (hI Y hm).1)
 obtain ⟨n,hn⟩:∃ n,n=LL.length:=⟨_,rfl⟩
 rw [<-hn] at hlen ⊢
 have Hn:=hidOf hn
 have HY:=hidOf hY
 clear hn hY hI hE hP hA hpw
 go_enter Tryz.func3,Tryz.ntmps3
 go_upto_region 5 with (go_at_call 4;refine CA.out.mono ?_;rintro e w1 ⟨rfl,o1⟩;have O1:=hidOf o1;clear o1)
 obtain ⟨p,hp⟩:∃ p,p=w1.heap.size:=⟨_,rfl⟩
 rw [<-hp]
 obtain ⟨w2,hw2⟩:∃ w2,w2=w1.alloc (.cells #[.slice none 0 0,.slice none 0 0,.slice none 0 0] 28):=⟨_,rfl⟩
 rw [<-hw2]
 have HK:Hid (Rok W w2 p):=hidOf ⟨none,0,.slice none 0 0,.slice none 0 0,[],[],[],⟨by rw [hw2];exact O1.out.alloc _,by rw [hp];exact O1.out.size,by rw [hw2,hp];exact heap_alloc_new w1 _,.inl ⟨rfl,rfl⟩,Ir.nil _ _ _ _,Ir.nil _ _ _ _⟩,rfl,by simp,by simp,fun i y h=>by simp at h,fun i y h=>by simp at h⟩
 clear hw2 hp O1 CA
 go_loopw [4] (fun iv wr=>∃ (k:Nat),iv=.int .i64 k/\k<=n/\Hid (Rok W wr p)) (fun iv _=>n - (intOf iv).toNat)
 case atStart=>exact ⟨0,rfl,by omega,HK⟩
 case round=>
  clear HK
  obtain ⟨k,rfl,hk,HK⟩:=hrel
  by_cases hlt:k<n
  ·
   have hltI:(k:Int)<n:=by omega
   have h00:(0:Int)<=k:=by omega
   obtain ⟨Y,hy⟩:∃ Y,LL[k]? = some Y:=⟨_,List.getElem?_eq_getElem (by have:=Hn.out;omega)⟩
   rcases HY.out with e | ⟨g,off,rfl,hcl⟩
   · rw [e] at hy;simp at hy
   obtain ⟨la,lc,hc,hs,hl⟩:=hcl k Y hy
   have CY:=hidOf (CP.out wr p HK.out la lc Y (List.mem_of_getElem? hy) hs hl)
   have c0:wr.cell? ⟨g,off+k,none⟩=some (.slice la Y.length lc):=cell_later HK.out.o hc
   generalize Y.length=m at *
   clear hcl hc hs hl hy
   go_wp2_with (go_at_call 5;refine CY.out.mono ?_;rintro e w3 ⟨rfl,h3⟩;have HK3:=hidOf h3;clear h3)
   go_roundw
   case rel=>exact ⟨k+1,by simp,by omega,HK3⟩
   case measure=>simp [intOf];omega
  ·
   have hltI:¬(k:Int)<n:=by omega
   go_wp2
   go_ret
   exact ⟨rfl,HK.out.o⟩
end Go.Proofs.YtadneimllbfdnaaGreatDoor
