import Derived.Test.YtadneimllbfdnaaGreatDoorGu49
namespace Go.Proofs.YtadneimllbfdnaaGreatDoor
open Go.RowKit
set_option linter.unusedVariables false
set_option linter.unusedSimpArgs false
theorem Rln.out {w0 w w':World} {p gl m:Nat} {Y:List StV} (h:Rln w0 w p gl m Y) (o:Out w w'):Rln w0 w' p gl m Y:=by
 obtain ⟨wv,nv,M,W,N,h,r⟩:=h
 exact ⟨wv,nv,M,W,N,h.out o,r⟩
theorem Rok.out {w0 w w':World} {p:Nat} (h:Rok w0 w p) (o:Out w w'):Rok w0 w' p:=by
 obtain ⟨la,lc,wv,nv,M,W,N,h,r⟩:=h
 exact ⟨la,lc,wv,nv,M,W,N,h.out o,r⟩
theorem Rln.o {w0 w:World} {p gl m:Nat} {Y:List StV} (h:Rln w0 w p gl m Y):Out w0 w:=by
 obtain ⟨wv,nv,M,W,N,h,r⟩:=h
 exact h.o
theorem Rok.o {w0 w:World} {p:Nat} (h:Rok w0 w p):Out w0 w:=by
 obtain ⟨la,lc,wv,nv,M,W,N,h,r⟩:=h
 exact h.o
theorem Rln.sts {w0 w:World} {p gl m:Nat} {Y:List StV} (h:Rln w0 w p gl m Y):∃ Z:List StV,Z.length=Y.length/\Z.map (fun y=>y.1)=Y.map (fun y=>y.1)/\StA w (some ⟨gl,0,none⟩) Z/\StR w gl 0 Z/\(∀ z ∈ Z,LsR w z)/\gl<w.heap.size/\Y.length<m:=by
 obtain ⟨wv,nv,M,W,N,h,hMl,hWN,hW,hm,hBW,hBN,hYW,hYm,hL⟩:=h
 obtain ⟨_,_,hrow,_⟩:=h.row
 have hget:∀ (k:Nat) (z:StV),(M.take Y.length)[k]? = some z->k<Y.length/\M[k]? = some z:=fun k z hz=>by
  have hk:k<Y.length:=by
   have:=(List.getElem?_eq_some_iff.1 hz).1
   rw [List.length_take] at this
   omega
  rw [List.getElem?_take_of_lt hk] at hz
  exact ⟨hk,hz⟩
 have hls:∀ (k:Nat) (z:StV),(M.take Y.length)[k]? = some z->LsR w z/\∃ y,Y[k]? = some y/\z.1=y.1:=fun k z hz=>by
  obtain ⟨hk,hz⟩:=hget k z hz
  obtain ⟨y,hy⟩:∃ y,Y[k]? = some y:=⟨_,List.getElem?_eq_getElem hk⟩
  obtain ⟨gw,kw,gn,kn,h1,h2,h3⟩:=hL.one k y hk hy
  rw [h3] at hz
  obtain rfl:=Option.some.inj hz
  refine ⟨⟨_,_,_,_,rfl,rfl,.inr ⟨gw,0,rfl,fun j u hu=>?_⟩,.inr ⟨gn,0,rfl,fun j u hu=>?_⟩,by simp only;omega,by simp only;omega⟩,y,hy,rfl⟩
  ·
   rw [Nat.zero_add]
   exact (h.inW h1 (by rw [List.getElem?_append_left (List.getElem?_eq_some_iff.1 hu).1];exact hu)).1
  ·
   rw [Nat.zero_add]
   exact (h.inN h2 (by rw [List.getElem?_append_left (List.getElem?_eq_some_iff.1 hu).1];exact hu)).1
 have hcell:∀ (k:Nat) (z:StV),(M.take Y.length)[k]? = some z->∀ i u,(stL z.1 z.2.1 z.2.2)[i]? = some u->w.cell? ⟨gl,0+k*11+i,none⟩=some u:=fun k z hz i u hu=>by
  rw [Nat.zero_add]
  exact hrow.cells (hget k z hz).2 i u hu
 refine ⟨M.take Y.length,by rw [List.length_take];omega, ?_,.inr ⟨gl,0,rfl,hcell⟩,fun k z hz=>?_,fun z hz=>?_,hrow.lt,hYm⟩
 ·
  apply List.ext_getElem?
  intro k
  rw [List.getElem?_map,List.getElem?_map]
  by_cases hk:k<Y.length
  ·
   obtain ⟨z,hz⟩:∃ z,(M.take Y.length)[k]? = some z:=⟨_,List.getElem?_eq_getElem (by rw [List.length_take];omega)⟩
   obtain ⟨_,y,hy,e⟩:=hls k z hz
   rw [hz,hy,Option.map_some,Option.map_some,e]
  · rw [List.getElem?_eq_none (by rw [List.length_take];omega),List.getElem?_eq_none (by omega)]
 ·
  obtain ⟨⟨aw,cw,an,cn,e1,e2,_⟩,_⟩:=hls k z hz
  exact ⟨⟨_,_,_,e1⟩,⟨_,_,_,e2⟩,hcell k z hz⟩
 ·
  obtain ⟨k,hk⟩:=List.getElem?_of_mem hz
  exact (hls k z hk).1
def LentF (Y:List StV) (i:Nat) (W N:List In):Prop:=∀ (k:Nat) (y:StV),i<=k->Y[k]? = some y->∃ gw kw gn kn,W[k]? = some (gw,strsC y.1.ws++List.replicate (kw+5) behS)/\N[k]? = some (gn,intsC y.1.ns++bhNs y.1.ns.length (kn+5))
theorem LentF.step {Y:List StV} {i:Nat} {W N:List In} (h:LentF Y i W N) (z:In):LentF Y (i+1) (W.set i z) N:=fun k y hk hy=>by
 obtain ⟨a,b,c,d,h1,h2⟩:=h k y (by omega) hy
 exact ⟨a,b,c,d,by rw [set_off (by omega)];exact h1,h2⟩
theorem beh_at {A:List Value} {a k t:Nat} (hA:A.length=a) (h1:a<=t) (h2:t<a+k):(A++List.replicate k behS)[t]? = some behS:=by
 rw [List.getElem?_append_right (by omega),List.getElem?_replicate,if_pos (by omega)]
theorem bhn_at {A:List Value} {a k t:Nat} (hA:A.length=a) (h1:a<=t) (h2:t<a+k):(A++bhNs a k)[t]? = some (bhN t):=by
 rw [List.getElem?_append_right (by omega),hA,bhNs_get (by omega)]
 congr 2
 omega
set_option maxRecDepth 20000 in
set_option maxHeartbeats 4000000 in
theorem back6_any (w0 w:World) (p gl m:Nat) (Y:List StV) (hK:Rln w0 w p gl m Y) (a:Option Addr) (cap:Nat) (hY:StA w0 a Y) (lY:∀ y ∈ Y,LsR w0 y) (hs:∀ y ∈ Y,y.1.ws.length<=1048576/\y.1.ns.length<=1048576) (hlen:Y.length<=1048576) :
  Calls Tryz.prog 11 #[.pointer (some ⟨p,0,none⟩),.slice a Y.length cap] w fun e w'=>e=.returned (.bool true)/\Rok w0 w' p:=by
 obtain ⟨Z,zl,z2,z3, -,z5, -, -⟩:=hK.sts
 obtain ⟨wv,nv,M,W,N,h,hMl,hWN,hW,hm,hBW,hBN,hYW,hYm,hL⟩:=hK
 have cs:=sameSts_any w (some ⟨gl,0,none⟩) a m cap Z Y z2 z3 (hY.out h.o) z5 (fun y hy=>(lY y hy).out h.o) (fun z hz=>by
  have:z.1 ∈ Y.map (fun y=>y.1):=by rw [<-z2];exact List.mem_map.2 ⟨z,hz,rfl⟩
  obtain ⟨y,hy,e⟩:=List.mem_map.1 this
  have:=hs y hy
  rw [<-e]
  omega) (by omega)
 rw [zl] at cs
 obtain ⟨n,hn⟩:∃ n,n=Y.length:=⟨_,rfl⟩
 rw [<-hn] at cs hlen hYW hYm ⊢
 have Hn:=hidOf hn
 have CS:=hidOf cs
 have H:=hidOf h
 have HWN:=hidOf hWN
 have HBW:=hidOf hBW
 have HBN:=hidOf hBN
 have HY:=hidOf hY
 have HLS:=hidOf lY
 have HSZ:=hidOf hs
 have HB:Hid (∀ k,n<=k->k<m->M[k]? = some (behY k)):=hidOf (fun k h1 h2=>hL.beh k (by omega) (by omega))
 have HF:Hid (LentF Y 0 W N):=hidOf (fun k y _ hy=>by
  obtain ⟨a,b,c,d,h1,h2,_⟩:=hL.one k y (List.getElem?_eq_some_iff.1 hy).1 hy
  exact ⟨a,b,c,d,h1,h2⟩)
 have HMl:=hidOf hMl
 have c0:w.cell? ⟨p,0,none⟩=some (.slice (some ⟨gl,0,none⟩) m m):=h.cell 0
 have hnm:(n:Int)<=m:=by omega
 clear hn h hWN hBW hBN hY lY hs hL z2 z3 z5 zl cs hMl Z
 go_enter Tryz.func11,Tryz.ntmps11
 go_upto_region 2 with (go_at_call 20;refine CS.out.mono ?_;rintro e w1 ⟨rfl,o1⟩;have R1:=hidOf (H.out.out o1);clear o1)
 clear H CS c0
 go_upto_region 3 with fail
 go_loopw [5,6] (fun ok iv wr=>∃ (t:Nat),ok=.bool true/\iv=.int .i64 t/\n<=t/\t<=m/\Hid (Rk w0 wr p (.slice (some ⟨gl,0,none⟩) m m) wv nv M W N)) (fun _ iv _=>m - (intOf iv).toNat)
 case atStart=>exact ⟨n,rfl,rfl,Nat.le_refl _,by omega,R1⟩
 case round=>
  clear R1
  obtain ⟨t,rfl,rfl,hnt,htm,HR⟩:=hrel
  have c0:wr.cell? ⟨p,0,none⟩=some (.slice (some ⟨gl,0,none⟩) m m):=HR.out.cell 0
  by_cases hlt:t<m
  ·
   have hltI:(t:Int)<m:=by omega
   have h00:(0:Int)<=t:=by omega
   have CB:=hidOf (behind_any t (by omega))
   simp only [stE,behY] at CB
   have C2:Hid (∀ wx,Calls Tryz.prog 21 #[.agg #[.int .i64 (50+(t:Int)),.string ⟨#[98,101,104,105,110,100]⟩,.slice none 0 0,.slice none 0 0,.int .i64 0,.int .i64 0,.int .i64 0,.int .i64 0,.int .i64 0,.string ⟨#[]⟩,.int .i64 0],.agg #[.int .i64 (50+(t:Int)),.string ⟨#[98,101,104,105,110,100]⟩,.slice none 0 0,.slice none 0 0,.int .i64 0,.int .i64 0,.int .i64 0,.int .i64 0,.int .i64 0,.string ⟨#[]⟩,.int .i64 0]] wx fun e w'=>e=.returned (.bool true)/\Out wx w'):=hidOf (fun wx=>sameSt_any (behY t).1 none none none none 0 0 0 0 wx (.inl rfl) (.inl rfl) (.inl rfl) (.inl rfl) (by simp [behY]) (by simp [behY]))
   obtain ⟨_,hgB,hrow,hgp⟩:=HR.out.row
   have HG:Hid (∀ wx,Out wr wx->wx.cell? ⟨gl,t*11,none⟩=some (.int .i64 (50+(t:Int)))/\wx.cell? ⟨gl,t*11+1,none⟩=some (.string ⟨#[98,101,104,105,110,100]⟩)/\wx.cell? ⟨gl,t*11+2,none⟩=some (.slice none 0 0)/\wx.cell? ⟨gl,t*11+3,none⟩=some (.slice none 0 0)/\wx.cell? ⟨gl,t*11+4,none⟩=some (.int .i64 0)/\wx.cell? ⟨gl,t*11+5,none⟩=some (.int .i64 0)/\wx.cell? ⟨gl,t*11+6,none⟩=some (.int .i64 0)/\wx.cell? ⟨gl,t*11+7,none⟩=some (.int .i64 0)/\wx.cell? ⟨gl,t*11+8,none⟩=some (.int .i64 0)/\wx.cell? ⟨gl,t*11+9,none⟩=some (.string ⟨#[]⟩)/\wx.cell? ⟨gl,t*11+10,none⟩=some (.int .i64 0)):=hidOf (fun wx o=>(hrow.out o).cells11 (HB.out t hnt hlt))
   obtain ⟨y0,y1,y2,y3,y4,y5,y6,y7,y8,y9,y10⟩:=HG.out wr (Out.refl wr)
   clear hrow
   go_upto_region 5 with fail
   go_region_held3 (fun wx=>wx.cell? ⟨p,0,none⟩=some (.slice (some ⟨gl,0,none⟩) m m)/\wx.cell? ⟨gl,t*11,none⟩=some (.int .i64 (50+(t:Int)))/\wx.cell? ⟨gl,t*11+1,none⟩=some (.string ⟨#[98,101,104,105,110,100]⟩)/\wx.cell? ⟨gl,t*11+2,none⟩=some (.slice none 0 0)/\wx.cell? ⟨gl,t*11+3,none⟩=some (.slice none 0 0)/\wx.cell? ⟨gl,t*11+4,none⟩=some (.int .i64 0)/\wx.cell? ⟨gl,t*11+5,none⟩=some (.int .i64 0)/\wx.cell? ⟨gl,t*11+6,none⟩=some (.int .i64 0)/\wx.cell? ⟨gl,t*11+7,none⟩=some (.int .i64 0)/\wx.cell? ⟨gl,t*11+8,none⟩=some (.int .i64 0)/\wx.cell? ⟨gl,t*11+9,none⟩=some (.string ⟨#[]⟩)/\wx.cell? ⟨gl,t*11+10,none⟩=some (.int .i64 0)) (first | with_reducible exact ⟨c0,y0,y1,y2,y3,y4,y5,y6,y7,y8,y9,y10⟩ | with_reducible exact ⟨e0,z0,z1,z2,z3,z4,z5,z6,z7,z8,z9,z10⟩ | with_reducible exact ⟨g0,f0,f1,f2,f3,f4,f5,f6,f7,f8,f9,f10⟩ | go_keep) (first | (go_at_call 19;refine (CB.out _).mono ?_;rintro e w4 ⟨rfl,h2⟩;have O4:Hid (Out wr w4):=hidOf (Out.trans (Lx.Out.drewN (Lx.Out.refl wr) _) h2);have e0:=cell_later O4.out c0;obtain ⟨z0,z1,z2,z3,z4,z5,z6,z7,z8,z9,z10⟩:=HG.out w4 O4.out;clear h2) | (go_at_call 21;refine (C2.out _).mono ?_;rintro e w5 ⟨rfl,h2⟩;have O5:Hid (Out wr w5):=hidOf (Out.trans O4.out h2);have g0:=cell_later O5.out c0;obtain ⟨f0,f1,f2,f3,f4,f5,f6,f7,f8,f9,f10⟩:=HG.out w5 O5.out;clear h2))
   have R5:=hidOf (HR.out.out O5.out)
   go_wp2
   go_roundw
   case rel=>exact ⟨t+1,rfl,by simp,by omega,by omega,R5⟩
   case measure=>simp [intOf];omega
  ·
   have hltI:¬(t:Int)<m:=by omega
   obtain ⟨wy,hwy⟩:∃ wy,wy=wr:=⟨_,rfl⟩
   rw [<-hwy] at HR
   have Hwy:=hidOf hwy
   clear hwy
   go_wp2
   clear c0 HB
   go_loopw [5,7] (fun ok iv wr=>∃ (i:Nat) (M:List StV) (W:List In),ok=.bool true/\iv=.int .i64 i/\i<=n/\Hid (Rk w0 wr p (.slice (some ⟨gl,0,none⟩) m m) wv nv M W N)/\Hid (N.length=W.length)/\n<=W.length/\W.length<=2000000/\Hid (BdI W)/\Hid (M.length=m)/\Hid (LentF Y i W N)) (fun _ iv _=>n - (intOf iv).toNat)
   case atStart=>exact ⟨0,M,W,rfl,rfl,by omega,by rw [<-Hwy.out];exact HR,HWN,hYW,hW,HBW,HMl,HF⟩
   case round=>
    clear HR Hwy HWN hYW hW HBW HMl HF hlt hltI
    obtain ⟨i,M,W,rfl,rfl,hin,HR,HWN,hYW,hW,HBW,HMl,HF⟩:=hrel
    by_cases hjn:i<n
    ·
     have hjnI:(i:Int)<n:=by omega
     have hj0:(0:Int)<=i:=by omega
     rcases HY.out with e | ⟨g,off,rfl,hcl⟩
     · exfalso;have:=Hn.out;rw [e] at this;simp at this;omega
     obtain ⟨y,hy⟩:∃ y,Y[i]? = some y:=⟨_,List.getElem?_eq_getElem (by have:=Hn.out;omega)⟩
     obtain ⟨aw,cw,an,cn,e1,e2,_,_,_,_⟩:=HLS.out y (List.mem_of_getElem? hy)
     obtain ⟨hnw,hnn⟩:=HSZ.out y (List.mem_of_getElem? hy)
     obtain ⟨gy,kw,gz,kn,hyw,hyn⟩:=HF.out i y (Nat.le_refl _) hy
     obtain ⟨x,xw,xn⟩:=y
     simp only at e1 e2 hnw hnn hyw hyn
     subst e1 e2
     have hq:=hcl i _ hy
     simp only at hq
     clear hy hcl
     have lws:(strsC x.ws).length=x.ws.length:=by simp [strsC]
     have lns:(intsC x.ns).length=x.ns.length:=by simp [intsC]
     generalize hcw:strsC x.ws=sw at *
     generalize hcn:intsC x.ns=sn at *
     clear hcw hcn
     generalize x.ws.length=nw at *
     generalize x.ns.length=nn at *
     have HQ:=hidOf hq
     clear hq
     obtain ⟨gw,wc,rfl,_,cw1,_⟩:=HR.out.wo.outer hyw
     obtain ⟨gn,nc,rfl,_,cn1,_⟩:=HR.out.no.outer hyn
     simp only at cw1 cn1
     rw [inA_some (by simp only [List.length_append,List.length_replicate];omega)] at cw1
     rw [inA_some (by simp only [List.length_append,bhNs_len];omega)] at cn1
     have hbw:=HBW.out i _ hyw
     have hbn:=HBN.out i _ hyn
     simp only at hbw hbn
     obtain ⟨L,hL⟩:∃ L,L=(sw++List.replicate (kw+5) behS).length:=⟨_,rfl⟩
     obtain ⟨K,hK⟩:∃ K,K=(sn++bhNs nn (kn+5)).length:=⟨_,rfl⟩
     rw [<-hL] at cw1 hbw
     rw [<-hK] at cn1 hbn
     rw [List.length_append,lws,List.length_replicate] at hL
     rw [List.length_append,lns,bhNs_len] at hK
     have hWi:i<W.length:=by omega
     have hNi:i<N.length:=by have:=HWN.out;omega
     have Hyw:=hidOf hyw
     have Hyn:=hidOf hyn
     have HWi:=hidOf hWi
     obtain ⟨lw,hlw⟩:∃ lw,lw=W.length:=⟨_,rfl⟩
     obtain ⟨ln,hln⟩:∃ ln,ln=N.length:=⟨_,rfl⟩
     rw [<-hlw] at HR
     rw [<-hln] at HR
     have hjW:(i:Int)<lw:=by omega
     have hjN:(i:Int)<ln:=by omega
     have HL:=hidOf hL
     have HK:=hidOf hK
     have hLw:nw<=L:=by omega
     have hKn:nn<=K:=by omega
     have Hlws:=hidOf lws
     have Hlns:=hidOf lns
     have Hlw:=hidOf hlw
     have Hln:=hidOf hln
     have hW2:=hW
     have hY2:=hYW
     clear hyw hyn hL hK hlw hln hWi hNi lws lns cw1 cn1
     have q2:wr.cell? ⟨g,off+i*11+2,none⟩=some (.slice aw nw cw):=cell_later HR.out.o (HQ.out 2 _ rfl)
     go_upto_region 10 with fail
     clear q2
     go_loopw [5,8] (fun ok iv wr=>∃ (t:Nat),ok=.bool true/\iv=.int .i64 t/\nw<=t/\t<=L/\Hid (Rk w0 wr p (.slice (some ⟨gl,0,none⟩) m m) (.slice (some ⟨gw,0,none⟩) lw wc) (.slice (some ⟨gn,0,none⟩) ln nc) M W N)) (fun _ iv _=>L - (intOf iv).toNat)
     case atStart=>exact ⟨nw,rfl,rfl,Nat.le_refl _,hLw,HR⟩
     case round=>
      clear HR
      obtain ⟨t,rfl,rfl,hnt,htL,HR⟩:=hrel
      have c1:wr.cell? ⟨p,1,none⟩=some (.slice (some ⟨gw,0,none⟩) lw wc):=HR.out.cell 1
      have c2:wr.cell? ⟨gw,i,none⟩=some (.slice (some ⟨gy,0,none⟩) L L):=by
       have:=(HR.out.atW Hyw.out).1
       simp only at this
       rw [inA_some (by simp only [List.length_append,List.length_replicate];omega),List.length_append,Hlws.out,List.length_replicate, <-HL.out] at this
       exact this
      by_cases hlt:t<L
      ·
       have hltI:(t:Int)<L:=by omega
       have ht0:(0:Int)<=t:=by omega
       have c3:wr.cell? ⟨gy,t,none⟩=some (.string ⟨#[98,101,104,105,110,100]⟩):=(HR.out.inW Hyw.out (beh_at Hlws.out hnt (by have:=HL.out;omega))).1
       go_wp2
       go_roundw
       case rel=>exact ⟨t+1,rfl,by simp,by omega,by omega,HR⟩
       case measure=>simp [intOf];omega
      ·
       have hltI:¬(t:Int)<L:=by omega
       have q3:wr.cell? ⟨g,off+i*11+3,none⟩=some (.slice an nn cn):=cell_later HR.out.o (HQ.out 3 _ rfl)
       go_upto_region 14 with fail
       clear q3 c1 c2 hltI hlt
       obtain ⟨wy,hwy⟩:∃ wy,wy=wr:=⟨_,rfl⟩
       rw [<-hwy] at HR
       have Hwy:=hidOf hwy
       clear hwy
       go_loopw [5,9] (fun ok iv wr=>∃ (t:Nat),ok=.bool true/\iv=.int .i64 t/\nn<=t/\t<=K/\Hid (Rk w0 wr p (.slice (some ⟨gl,0,none⟩) m m) (.slice (some ⟨gw,0,none⟩) lw wc) (.slice (some ⟨gn,0,none⟩) ln nc) M W N)) (fun _ iv _=>K - (intOf iv).toNat)
       case atStart=>exact ⟨nn,rfl,rfl,Nat.le_refl _,hKn,by rw [<-Hwy.out];exact HR⟩
       case round=>
        clear HR Hwy
        obtain ⟨t,rfl,rfl,hnt,htL,HR⟩:=hrel
        have c1:wr.cell? ⟨p,2,none⟩=some (.slice (some ⟨gn,0,none⟩) ln nc):=HR.out.cell 2
        have c2:wr.cell? ⟨gn,i,none⟩=some (.slice (some ⟨gz,0,none⟩) K K):=by
         have:=(HR.out.atN Hyn.out).1
         simp only at this
         rw [inA_some (by simp only [List.length_append,bhNs_len];omega),List.length_append,Hlns.out,bhNs_len, <-HK.out] at this
         exact this
        by_cases hlt:t<K
        ·
         have hltI:(t:Int)<K:=by omega
         have ht0:(0:Int)<=t:=by omega
         have c3:wr.cell? ⟨gz,t,none⟩=some (.int .i64 (-7 - (t:Int))):=(HR.out.inN Hyn.out (bhn_at Hlns.out hnt (by have:=HK.out;omega))).1
         go_wp2
         go_roundw
         case rel=>exact ⟨t+1,rfl,by simp,by omega,by omega,HR⟩
         case measure=>simp [intOf];omega
        ·
         have hltI:¬(t:Int)<K:=by omega
         go_upto_region 18 with fail
         clear c1 c2 hltI hlt
         obtain ⟨wy,hwy⟩:∃ wy,wy=wr:=⟨_,rfl⟩
         rw [<-hwy] at HR
         have Hwy:=hidOf hwy
         clear hwy
         go_loopw [10] (fun iv wr=>∃ (t:Nat) (cs:List Value),iv=.int .i64 t/\t<=nw/\Hid (cs.length=L)/\Hid (Rk w0 wr p (.slice (some ⟨gl,0,none⟩) m m) (.slice (some ⟨gw,0,none⟩) lw wc) (.slice (some ⟨gn,0,none⟩) ln nc) M (W.set i (gy,cs)) N)) (fun iv _=>nw - (intOf iv).toNat)
         case atStart=>exact ⟨0,sw++List.replicate (kw+5) behS,rfl,by omega,hidOf (by rw [List.length_append,Hlws.out,List.length_replicate,HL.out]),by rw [<-Hwy.out,set_same Hyw.out];exact HR⟩
         case round=>
          clear HR Hwy
          obtain ⟨t,cs,rfl,htn,HC,HR⟩:=hrel
          have q2:wr.cell? ⟨g,off+i*11+2,none⟩=some (.slice aw nw cw):=cell_later HR.out.o (HQ.out 2 _ rfl)
          by_cases hlt:t<nw
          ·
           have hltI:(t:Int)<nw:=by omega
           have ht0:(0:Int)<=t:=by omega
           have htL2:(t:Int)<L:=by omega
           have c1:wr.cell? ⟨p,1,none⟩=some (.slice (some ⟨gw,0,none⟩) lw wc):=HR.out.cell 1
           have c2:wr.cell? ⟨gw,i,none⟩=some (.slice (some ⟨gy,0,none⟩) L L):=by
            have:=(HR.out.atW (set_at HWi.out _)).1
            simp only at this
            rw [inA_some (by rw [HC.out];omega),HC.out] at this
            exact this
           obtain ⟨u,hu⟩:∃ u,cs[t]? = some u:=⟨_,List.getElem?_eq_getElem (by rw [HC.out];omega)⟩
           obtain ⟨c3,f3⟩:=HR.out.inW (set_at HWi.out _) hu
           have RN:=hidOf (HR.out.stW (t:=t) HWi.out (by rw [HC.out];omega) (.string ⟨#[109,105,110,101]⟩))
           clear hu
           go_wp2
           go_roundw
           case rel=>exact ⟨t+1,_,by simp,by omega,hidOf (by rw [List.length_set];exact HC.out),RN⟩
           case measure=>simp [intOf];omega
          ·
           have hltI:¬(t:Int)<nw:=by omega
           have c0:wr.cell? ⟨p,0,none⟩=some (.slice (some ⟨gl,0,none⟩) m m):=HR.out.cell 0
           obtain ⟨hMm,_,hrow,_⟩:=HR.out.row
           obtain ⟨z,hz⟩:∃ z,M[i]? = some z:=⟨_,List.getElem?_eq_getElem (by omega)⟩
           obtain ⟨y0,y1,y2,y3,y4,y5,y6,y7,y8,y9,y10⟩:=hrow.cells11 hz
           obtain ⟨f0,f1,f2,f3,f4,f5,f6,f7,f8,f9,f10⟩:=hrow.frozen11 i
           have RN:=hidOf (HR.out.putL (i:=i) (by omega) mineY)
           unfold put11 at RN
           simp only [mineY] at RN
           have hiM:(i:Int)<m:=by omega
           rw [Hlw.out,Hln.out] at RN
           clear hz hrow hMm
           go_wp2
           go_roundw
           case rel=>exact ⟨i+1,M.set i mineY,W.set i (gy,cs),rfl,by simp,by omega,RN,hidOf (by rw [List.length_set];exact HWN.out),by rw [List.length_set];exact hY2,by rw [List.length_set];exact hW2,hidOf (HBW.out.set i (by simp only;rw [HC.out];exact hbw)),hidOf (by rw [List.length_set];exact HMl.out),hidOf (HF.out.step _)⟩
           case measure=>simp [intOf];omega
    ·
     have hjnI:¬(i:Int)<n:=by omega
     go_wp2
     go_ret
     refine ⟨rfl,_,_,wv,nv,M,W,N,by rw [HMl.out];exact HR.out,HWN.out,hW,by rw [HMl.out];exact hm,HBW.out,HBN.out⟩
end Go.Proofs.YtadneimllbfdnaaGreatDoor
