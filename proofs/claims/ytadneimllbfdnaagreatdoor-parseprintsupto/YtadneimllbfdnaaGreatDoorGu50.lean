import Derived.Test.YtadneimllbfdnaaGreatDoorGu49
namespace Go.Proofs.YtadneimllbfdnaaGreatDoor
open Go.RowKit
set_option linter.unusedVariables false
set_option linter.unusedSimpArgs false
set_option maxRecDepth 20000 in
set_option maxHeartbeats 40000000 in
theorem lend6_any (w0 w:World) (p:Nat) (hK:Rok w0 w p) (a:Option Addr) (cap:Nat) (Y:List StV) (hY:StA w0 a Y) (lY:∀ y ∈ Y,LsR w0 y) (hs:∀ y ∈ Y,y.1.ws.length<=1048576/\y.1.ns.length<=1048576) (hlen:Y.length<=1048576) :
  Calls Tryz.prog 10 #[.pointer (some ⟨p,0,none⟩),.slice a Y.length cap] w fun e w'=>∃ gl m,e=.returned (.slice (some ⟨gl,0,none⟩) Y.length m)/\Rln w0 w' p gl m Y:=by
 obtain ⟨la,lc,wv,nv,M,W,N,h,hWN,hW,hM,hBW,hBN⟩:=hK
 obtain ⟨n,hn⟩:∃ n,n=Y.length:=⟨_,rfl⟩
 have Hn:=hidOf hn
 rw [<-hn] at hlen ⊢
 have H:=hidOf h
 have HWN:=hidOf hWN
 have HBW:=hidOf hBW
 have HBN:=hidOf hBN
 have HY:=hidOf hY
 have HLS:=hidOf lY
 have HSZ:=hidOf hs
 have c0:w.cell? ⟨p,0,none⟩=some (.slice la M.length lc):=h.cell 0
 have f0:w.frozen? ⟨p,0,none⟩=false:=h.frozen 0
 have hwr:(2*(n:Int))=((2*n:Nat):Int):=by omega
 have hmk:=run_make_sts (2*n+9) (by omega) w
 have hcast:(((2*n+9:Nat):Nat):Int)=2*(n:Int)+9:=by omega
 rw [hcast] at hmk
 have lt1:((M.length:Int)<2*(n:Int)+9)\/¬((M.length:Int)<2*(n:Int)+9):=Classical.em _
 clear hn h hwr hcast hWN hBW hBN hY lY hs
 go_enter Tryz.func10,Tryz.ntmps10
 go_upto_if 21 with fail
 go_cut [0,1,4] (fun s0 s1 s4 wx=>s0=.pointer (some ⟨p,0,none⟩)/\s1=.slice a n cap/\s4=.slice none 0 0/\∃ (gl:Nat) (M':List StV),Hid (Rk w0 wx p (.slice (some ⟨gl,0,none⟩) M'.length M'.length) wv nv M' W N)/\2*n+9<=M'.length/\M'.length<=3000000)
 case first=>
  rcases lt1 with hl | hl
  ·
   have d0:=(H.out.out ((Out.refl w).alloc (.cells (stC (List.replicate (2*n+9) zeroY)).toArray 42))).cell 0
   have d0:(w.alloc (.cells (stC (List.replicate (2*n+9) zeroY)).toArray 42)).cell? ⟨p,0,none⟩=some (.slice la M.length lc):=d0
   have d1:=(H.out.out ((Out.refl w).alloc (.cells (stC (List.replicate (2*n+9) zeroY)).toArray 42))).frozen 0
   go_wp2
   go_meet
   refine ⟨rfl,rfl,rfl,w.heap.size,List.replicate (2*n+9) zeroY,hidOf ?_,by simp,by simp;omega⟩
   have:=H.out.listMade (List.replicate (2*n+9) zeroY)
   simp only [List.length_replicate] at this ⊢
   exact this
  ·
   go_wp2
   go_meet
   rcases H.out.li with ⟨e,hM0⟩ | ⟨gl,e,hb,hg⟩
   · rw [hM0] at hl;simp at hl;omega
   ·
    cases e
    exact ⟨rfl,rfl,rfl,gl,M,H,by omega,hM⟩
 case rest=>
  obtain ⟨rfl,rfl,rfl,gl,M',HR,hm1,hm2⟩:=hcut
  clear H hmk c0 f0 lt1 hM
  obtain ⟨m,hm⟩:∃ m,m=M'.length:=⟨_,rfl⟩
  rw [<-hm] at HR hm1 hm2
  have Hm:=hidOf hm
  clear hm
  go_upto_region 4 with fail
  go_loopw [5] (fun iv wr=>∃ (i:Nat) (M2:List StV),iv=.int .i64 i/\i<=m/\Hid (M2=ovY i (behsY 0 m) M')/\Hid (Rk w0 wr p (.slice (some ⟨gl,0,none⟩) m m) wv nv M2 W N)) (fun iv _=>m - (intOf iv).toNat)
  case atStart=>exact ⟨0,M',rfl,by omega,hidOf rfl,HR⟩
  case round=>
   clear HR
   obtain ⟨i,M2,rfl,hi,HM2,HR⟩:=hrel
   have c0:wr.cell? ⟨p,0,none⟩=some (.slice (some ⟨gl,0,none⟩) m m):=HR.out.cell 0
   by_cases hlt:i<m
   ·
    have hltI:(i:Int)<m:=by omega
    have h00:(0:Int)<=i:=by omega
    have CB:=hidOf (behind_any i (by omega))
    simp only [stE,behY] at CB
    obtain ⟨hM2,hgB,hrow,hgp⟩:=HR.out.row
    obtain ⟨z,hz⟩:∃ z,M2[i]? = some z:=⟨_,List.getElem?_eq_getElem (by omega)⟩
    have HZ:=hidOf hz
    have Hrow:=hidOf hrow
    clear hrow hz
    go_upto_region 6 with fail
    go_region_held3 (fun wx=>wx.cell? ⟨p,0,none⟩=some (.slice (some ⟨gl,0,none⟩) m m)) (first | with_reducible exact c0 | with_reducible exact e0 | go_keep) (first | (go_at_call 19;refine (CB.out _).mono ?_;rintro e w4 ⟨rfl,h2⟩;have O4:Hid (Out wr w4):=hidOf (Out.trans (Lx.Out.drewN (Lx.Out.refl wr) _) h2);have e0:=cell_later O4.out c0;have R4:=hidOf (HR.out.out O4.out);have Y4:=hidOf (Hrow.out.out O4.out);obtain ⟨y0,y1,y2,y3,y4,y5,y6,y7,y8,y9,y10⟩:=Y4.out.cells11 HZ.out;obtain ⟨f0,f1,f2,f3,f4,f5,f6,f7,f8,f9,f10⟩:=Y4.out.frozen11 i;clear h2))
    have HN:=hidOf (R4.out.putL (i:=i) (by omega) (behY i))
    unfold put11 at HN
    simp only [behY] at HN
    have HM3:Hid (M2.set i (behY i)=ovY (i+1) (behsY 0 m) M'):=hidOf (by rw [HM2.out,ovY_set (by rw [behsY_get hlt,Nat.zero_add]) (by rw [behsY_len, <-Hm.out];exact Nat.le_refl _)])
    simp only [behY] at HM3
    go_wp2
    go_roundw
    case rel=>exact ⟨i+1,_,by simp,by omega,HM3,HN⟩
    case measure=>simp [intOf];omega
   ·
    have hltI:¬(i:Int)<m:=by omega
    obtain rfl:i=m:=by omega
    obtain ⟨hM2l,hL0⟩:=Lent.zero (Y:=Y) (W:=W) (N:=N) HM2.out Hm.out
    have HM2l:=hidOf hM2l
    have HB2:Hid (∀ k,k<i->M2[k]? = some (behY k)):=hidOf (fun k hk=>hL0.beh k (Nat.zero_le _) (by rw [hM2l];exact hk))
    clear hM2l hL0
    obtain ⟨i1,hi1,ha0,ha1,ha2⟩:=info_parts infoW6
    obtain ⟨i2,hi2,hb0,hb1,hb2⟩:=info_parts infoN6
    obtain ⟨wy,hwy⟩:∃ wy,wy=wr:=⟨_,rfl⟩
    rw [<-hwy] at HR
    have Hwy:=hidOf hwy
    clear hwy
    go_wp2
    clear c0
    go_loopw [] (fun wr=>∃ (wv nv:Value) (W N:List In),Hid (Rk w0 wr p (.slice (some ⟨gl,0,none⟩) i i) wv nv M2 W N)/\Hid (N.length=W.length)/\W.length<=2000000/\Hid (BdI W)/\Hid (BdI N)) (fun wr=>n - wlen wr p)
    case atStart=>exact ⟨wv,nv,W,N,by rw [<-Hwy.out];exact HR,HWN,hW,HBW,HBN⟩
    case round=>
     clear HR Hwy HWN hW HBW HBN
     obtain ⟨wv,nv,W,N,HR,HWN,hW,HBW,HBN⟩:=hrel
     obtain ⟨wa,wc,rfl⟩:=Lx.own_form HR.out.wo.own
     obtain ⟨na,nc,rfl⟩:=Lx.own_form HR.out.no.own
     have c1:wr.cell? ⟨p,1,none⟩=some (.slice wa W.length wc):=HR.out.cell 1
     by_cases hlt2:W.length<n
     ·
      have hlt2I:(W.length:Int)<n:=by omega
      have hsz:w0.heap.size<=wr.heap.size:=HR.out.o.size
      go_upto_region 9 with (at_builtin;refine wpList_append_own _ rfl (.tmp 59) (.tmp 60) 25 rfl w0.heap.size 37 i1 _ 1 24 Tryz.underlying25 hi1 ha0 ha1 ha2 rfl (by decide) (.slice wa W.length wc) W.length (W.map inV) rfl (World.ownsRow.alloc HR.out.wo.own _) ⟨wr.heap.size,0,none⟩ 1 1 [.slice none 0 0] rfl rfl (Lx.news_new wr _ _ _ rfl) (fun u hu=>by rw [List.mem_singleton.1 hu];rfl) (by unfold maxLen;omega) (by omega) (by rw [Lx.size_alloc];omega) ?_;intro v4 w4 hown4 hgrow4 _;have R4:=hidOf (HR.out.wordsGrown ((Out.refl wr).alloc _) hgrow4 hown4);have at4:=HR.out.at4W ((Out.refl wr).alloc _) hgrow4;have q1:w4.cell? ⟨p,1,none⟩=some (.slice wa W.length wc):=cell_atL at4 1;have g1:w4.frozen? ⟨p,1,none⟩=false:=frozen_atL at4 1;clear at4 hgrow4;obtain ⟨a4,c4,rfl⟩:=Lx.own_form hown4;clear hown4)
      clear q1 g1
      generalize w4.setCell ⟨p,1,none⟩ (.slice a4 (W.length+1) c4)=w5 at *
      have e2:w5.cell? ⟨p,2,none⟩=some (.slice na N.length nc):=R4.out.cell 2
      have hsz5:w0.heap.size<=w5.heap.size:=R4.out.o.size
      go_wp2_with (at_builtin;refine wpList_append_own _ rfl (.tmp 68) (.tmp 69) 26 rfl w0.heap.size 38 i2 _ 1 24 Tryz.underlying26 hi2 hb0 hb1 hb2 rfl (by decide) (.slice na N.length nc) N.length (N.map inV) rfl (World.ownsRow.alloc R4.out.no.own _) ⟨w5.heap.size,0,none⟩ 1 1 [.slice none 0 0] rfl rfl (Lx.news_new w5 _ _ _ rfl) (fun u hu=>by rw [List.mem_singleton.1 hu];rfl) (by unfold maxLen;have:=HWN.out;omega) (by have:=HWN.out;omega) (by rw [Lx.size_alloc];omega) ?_;intro v6 w6 hown6 hgrow6 _;have R6:=hidOf (R4.out.numbersGrown ((Out.refl w5).alloc _) hgrow6 hown6);have at6:=R4.out.at4N ((Out.refl w5).alloc _) hgrow6;have q2:w6.cell? ⟨p,2,none⟩=some (.slice na N.length nc):=cell_atL at6 2;have g2:w6.frozen? ⟨p,2,none⟩=false:=frozen_atL at6 2;clear at6 hgrow6;obtain ⟨a6,c6,rfl⟩:=Lx.own_form hown6;clear hown6)
      go_roundw
      case rel=>exact ⟨_,_,_,_,R6,hidOf (by rw [List.length_append,List.length_append,HWN.out]),by simp;omega,hidOf HBW.out.snoc,hidOf HBN.out.snoc⟩
      case measure=>rw [wlen_of c1,wlen_of (show World.cell? _ ⟨p,1,none⟩=some (.slice a4 (W.length+1) c4) from R6.out.cell 1)];omega
     ·
      have hlt2I:¬(W.length:Int)<n:=by omega
      go_wp2
      clear c1 hi1 ha0 ha1 ha2 hi2 hb0 hb1 hb2
      obtain ⟨wz,hwz⟩:∃ wz,wz=wr:=⟨_,rfl⟩
      rw [<-hwz] at HR
      have Hwz:=hidOf hwz
      clear hwz
      go_loopw [6] (fun iv wr=>∃ (j:Nat) (wv nv:Value) (M3:List StV) (W N:List In),iv=.int .i64 j/\j<=n/\Hid (Rk w0 wr p (.slice (some ⟨gl,0,none⟩) i i) wv nv M3 W N)/\Hid (N.length=W.length)/\n<=W.length/\W.length<=2000000/\Hid (BdI W)/\Hid (BdI N)/\Hid (M3.length=i)/\Hid (Lent Y j M3 W N)) (fun iv _=>n - (intOf iv).toNat)
      case atStart=>exact ⟨0,_,_,M2,W,N,rfl,by omega,by rw [<-Hwz.out];exact HR,HWN,by omega,hW,HBW,HBN,HM2l,hidOf ⟨fun k y hk=>by omega,fun k _ hk=>HB2.out k (by have:=HM2l.out;omega)⟩⟩
      case round=>
       clear HR Hwz HWN hW HBW HBN HM2l HB2 hlt2I hlt2 hltI hlt
       obtain ⟨j,wv,nv,M3,W,N,rfl,hj,HR,HWN,hWn,hW,HBW,HBN,HM3,HL⟩:=hrel
       by_cases hjn:j<n
       ·
        have hjnI:(j:Int)<n:=by omega
        have hj0:(0:Int)<=j:=by omega
        rcases HY.out with e | ⟨g,off,rfl,hcl⟩
        · exfalso;have:=Hn.out;rw [e] at this;simp at this;omega
        obtain ⟨y,hy⟩:∃ y,Y[j]? = some y:=⟨_,List.getElem?_eq_getElem (by have:=Hn.out;omega)⟩
        obtain ⟨aw,cw,an,cn,e1,e2,rw1,rn1,hcw,hcn⟩:=HLS.out y (List.mem_of_getElem? hy)
        obtain ⟨hnw,hnn⟩:=HSZ.out y (List.mem_of_getElem? hy)
        obtain ⟨x,xw,xn⟩:=y
        simp only at e1 e2 rw1 rn1 hcw hcn hnw hnn
        subst e1 e2
        have hq:=hcl j _ hy
        simp only at hq
        have Hy:=hidOf hy
        have HRW:=hidOf rw1
        have HRN:=hidOf rn1
        clear rw1 rn1 hy hcl hcw hcn
        obtain ⟨nw,hnwE⟩:∃ nw,nw=x.ws.length:=⟨_,rfl⟩
        obtain ⟨nn,hnnE⟩:∃ nn,nn=x.ns.length:=⟨_,rfl⟩
        rw [<-hnwE] at hnw hq
        rw [<-hnnE] at hnn hq
        have HNW:=hidOf hnwE
        have HNN:=hidOf hnnE
        have HQ:=hidOf hq
        clear hnwE hnnE hq
        have hWN:=HWN.out
        obtain ⟨⟨gy0,cs0⟩,hyw⟩:∃ yw,W[j]? = some yw:=⟨_,List.getElem?_eq_getElem (by omega)⟩
        obtain ⟨⟨gz0,ds0⟩,hyn⟩:∃ yn,N[j]? = some yn:=⟨_,List.getElem?_eq_getElem (by omega)⟩
        obtain ⟨gw,wcp,rfl,_,cw1,fw1⟩:=HR.out.wo.outer hyw
        obtain ⟨gn,ncp,rfl,_,cn1,fn1⟩:=HR.out.no.outer hyn
        have hbw:=HBW.out j _ hyw
        have hbn:=HBN.out j _ hyn
        simp only at cw1 cn1 hbw hbn
        have Hyw:=hidOf hyw
        have Hyn:=hidOf hyn
        obtain ⟨lw,hlw⟩:∃ lw,lw=W.length:=⟨_,rfl⟩
        obtain ⟨ln,hln⟩:∃ ln,ln=N.length:=⟨_,rfl⟩
        rw [<-hlw] at HR
        rw [<-hln] at HR
        have hjW:(j:Int)<lw:=by omega
        have hjN:(j:Int)<ln:=by omega
        have HJW:Hid (j<W.length):=hidOf (by omega)
        have HJN:Hid (j<N.length):=hidOf (by omega)
        have Hlw:=hidOf hlw
        have Hln:=hidOf hln
        clear hlw hln hyw hyn hWN
        obtain ⟨l0,hl0⟩:∃ l0,l0=cs0.length:=⟨_,rfl⟩
        obtain ⟨k0,hk0⟩:∃ k0,k0=ds0.length:=⟨_,rfl⟩
        rw [<-hl0] at cw1 hbw
        rw [<-hk0] at cn1 hbn
        have Hl0:=hidOf hl0
        have Hk0:=hidOf hk0
        clear hl0 hk0
        generalize inA (gy0,cs0)=ya at *
        obtain ⟨za,hza⟩:∃ za,inA (gz0,ds0)=za:=⟨_,rfl⟩
        rw [hza] at cn1
        have Hza:=hidOf hza
        clear hza
        have c1:wr.cell? ⟨p,1,none⟩=some (.slice (some ⟨gw,0,none⟩) lw wcp):=HR.out.cell 1
        have q2:wr.cell? ⟨g,off+j*11+2,none⟩=some (.slice aw nw cw):=cell_later HR.out.o (HQ.out 2 _ rfl)
        have hw2:IntKind.i64.wrap (2*(nw:Int))=2*(nw:Int):=by unfold IntKind.wrap;simp only [IntKind.bits,IntKind.signed];simp;omega
        have hw5:IntKind.i64.wrap (2*(nw:Int)+5)=2*(nw:Int)+5:=by unfold IntKind.wrap;simp only [IntKind.bits,IntKind.signed];simp;omega
        go_upto_region 13 with fail
        go_region_held3 (fun wx=>wx.cell? ⟨p,1,none⟩=some (.slice (some ⟨gw,0,none⟩) lw wcp)/\wx.cell? ⟨gw,j,none⟩=some (.slice ya l0 l0)/\wx.cell? ⟨g,off+j*11+2,none⟩=some (.slice aw nw cw)) (first | with_reducible exact ⟨c1,cw1,q2⟩ | go_keep) (fail)
        obtain ⟨wb,hwb⟩:∃ wb,wb=wr.drew:=⟨_,rfl⟩
        rw [<-hwb]
        have RB:Hid (Rk w0 wb p (.slice (some ⟨gl,0,none⟩) i i) (.slice (some ⟨gw,0,none⟩) lw wcp) (.slice (some ⟨gn,0,none⟩) ln ncp) M3 W N):=hidOf (by rw [hwb];exact HR.out.out (Lx.Out.drewN (Lx.Out.refl wr) 1))
        have c1:wb.cell? ⟨p,1,none⟩=some (.slice (some ⟨gw,0,none⟩) lw wcp):=RB.out.cell 1
        have cw1:wb.cell? ⟨gw,j,none⟩=some (.slice ya l0 l0):=by rw [hwb];exact cw1
        have q2:wb.cell? ⟨g,off+j*11+2,none⟩=some (.slice aw nw cw):=by rw [hwb];exact q2
        clear hwb HR
        go_upto_if 95 with fail
        go_cut [0,1,4,6] (fun s0 s1 s4 s6 wx=>s0=.pointer (some ⟨p,0,none⟩)/\s1=.slice (some ⟨g,off,none⟩) n cap/\s4=.slice none 0 0/\s6=.int .i64 j/\∃ (gy:Nat) (cs:List Value),Hid (Rk w0 wx p (.slice (some ⟨gl,0,none⟩) i i) (.slice (some ⟨gw,0,none⟩) lw wcp) (.slice (some ⟨gn,0,none⟩) ln ncp) M3 (W.set j (gy,cs)) N)/\2*nw+5<=cs.length/\cs.length<=3000000)
        case first=>as_aux_lemma=>
         by_cases hl:(l0:Int)<2*(nw:Int)+5
         ·
          obtain ⟨zs,hzs⟩:∃ zs,zs=List.replicate (2*nw+5) (.string ⟨#[]⟩:Value):=⟨_,rfl⟩
          have hmw:∀ wx,(Instr.makeSlice 37 (.int .i64 (2*(nw:Int)+5)) (.int .i64 (2*(nw:Int)+5))).run Tryz.prog wx=.ok (.slice (some ⟨wx.heap.size,0,none⟩) (2*nw+5) (2*nw+5)) (wx.alloc (.cells zs.toArray 9)):=fun wx=>by
           have:=run_make_strs (2*nw+5) (by omega) wx
           rw [show (((2*nw+5:Nat):Nat):Int)=2*(nw:Int)+5 by omega, <-hzs] at this
           exact this
          have Hzs:Hid (zs.length=2*nw+5):=hidOf (by rw [hzs];simp)
          clear hzs
          have fA:∀ O,(wb.alloc O).frozen? ⟨gw,j,none⟩=false:=fun O=>((RB.out.out (Lx.Out.alloc (Lx.Out.refl wb) O)).atW Hyw.out).2.1
          have fB:∀ O,(wb.alloc O).drew.frozen? ⟨gw,j,none⟩=false:=fA
          have kA:∀ O,(wb.alloc O).cell? ⟨gw,j,none⟩=some (.slice ya l0 l0):=fun O=>cell_later (Lx.Out.alloc (Lx.Out.refl wb) O) cw1
          have kB:∀ O,(wb.alloc O).drew.cell? ⟨gw,j,none⟩=some (.slice ya l0 l0):=kA
          have RB2:=RB.out
          rw [Hlw.out] at RB2
          have RM:=RB2.wordsMade (i:=j) HJW.out zs (fun e=>by have:=Hzs.out;rw [e] at this;simp at this)
          rw [Hzs.out, <-Hlw.out] at RM
          clear RB2
          have RM2:Hid (Rk w0 (((wb.alloc (.cells zs.toArray 9)).setCell ⟨gw,j,none⟩ (.slice (some ⟨wb.heap.size,0,none⟩) (2*nw+5) (2*nw+5))).drew) p (.slice (some ⟨gl,0,none⟩) i i) (.slice (some ⟨gw,0,none⟩) lw wcp) (.slice (some ⟨gn,0,none⟩) ln ncp) M3 (W.set j (wb.heap.size,zs)) N):=hidOf (RM.out (Lx.Out.drewN (Lx.Out.refl _) 1))
          have k1:(((wb.alloc (.cells zs.toArray 9)).setCell ⟨gw,j,none⟩ (.slice (some ⟨wb.heap.size,0,none⟩) (2*nw+5) (2*nw+5))).drew).cell? ⟨p,1,none⟩=some (.slice (some ⟨gw,0,none⟩) lw wcp):=RM2.out.cell 1
          have k2:(((wb.alloc (.cells zs.toArray 9)).setCell ⟨gw,j,none⟩ (.slice (some ⟨wb.heap.size,0,none⟩) (2*nw+5) (2*nw+5))).drew).cell? ⟨g,off+j*11+2,none⟩=some (.slice aw nw cw):=cell_later RM2.out.o (HQ.out 2 _ rfl)
          clear RM cw1
          go_upto_region 14 with fail
          go_region_held3 (fun wx=>wx.cell? ⟨p,1,none⟩=some (.slice (some ⟨gw,0,none⟩) lw wcp)/\wx.cell? ⟨g,off+j*11+2,none⟩=some (.slice aw nw cw)) (first | with_reducible exact ⟨c1,q2⟩ | with_reducible exact ⟨k1,k2⟩ | simp [*,World.cell?_alloc_some]) (fail)
          go_wp2
          go_meet
          exact ⟨rfl,rfl,rfl,rfl,wb.heap.size,zs,RM2,by have:=Hzs.out;omega,by have:=Hzs.out;omega⟩
         ·
          go_wp2
          go_meet
          refine ⟨rfl,rfl,rfl,rfl,gy0,cs0, ?_,by have:=Hl0.out;omega,by have:=Hl0.out;omega⟩
          rw [set_same Hyw.out]
          exact RB
        case rest=>as_aux_lemma=>
         obtain ⟨rfl,rfl,rfl,rfl,gy,cs,HR,hL1,hL2⟩:=hcut
         clear RB c1 cw1 q2 hw2 hw5 Hyw Hl0 hbw fw1
         have cw1:wc.cell? ⟨gn,j,none⟩=some (.slice za k0 k0):=by
          have:=(HR.out.atN Hyn.out).1
          rw [Hza.out] at this
          simp only at this
          rw [<-Hk0.out] at this
          exact this
         have c1:wc.cell? ⟨p,2,none⟩=some (.slice (some ⟨gn,0,none⟩) ln ncp):=HR.out.cell 2
         have q2:wc.cell? ⟨g,off+j*11+3,none⟩=some (.slice an nn cn):=cell_later HR.out.o (HQ.out 3 _ rfl)
         have hw2:IntKind.i64.wrap (2*(nn:Int))=2*(nn:Int):=by unfold IntKind.wrap;simp only [IntKind.bits,IntKind.signed];simp;omega
         have hw5:IntKind.i64.wrap (2*(nn:Int)+5)=2*(nn:Int)+5:=by unfold IntKind.wrap;simp only [IntKind.bits,IntKind.signed];simp;omega
         go_upto_region 15 with fail
         go_region_held3 (fun wx=>wx.cell? ⟨p,2,none⟩=some (.slice (some ⟨gn,0,none⟩) ln ncp)/\wx.cell? ⟨gn,j,none⟩=some (.slice za k0 k0)/\wx.cell? ⟨g,off+j*11+3,none⟩=some (.slice an nn cn)) (first | with_reducible exact ⟨c1,cw1,q2⟩ | go_keep) (fail)
         obtain ⟨wb,hwb⟩:∃ wb,wb=wc.drew:=⟨_,rfl⟩
         rw [<-hwb]
         have RB:Hid (Rk w0 wb p (.slice (some ⟨gl,0,none⟩) i i) (.slice (some ⟨gw,0,none⟩) lw wcp) (.slice (some ⟨gn,0,none⟩) ln ncp) M3 (W.set j (gy,cs)) N):=hidOf (by rw [hwb];exact HR.out.out (Lx.Out.drewN (Lx.Out.refl wc) 1))
         have c1:wb.cell? ⟨p,2,none⟩=some (.slice (some ⟨gn,0,none⟩) ln ncp):=RB.out.cell 2
         have cw1:wb.cell? ⟨gn,j,none⟩=some (.slice za k0 k0):=by rw [hwb];exact cw1
         have q2:wb.cell? ⟨g,off+j*11+3,none⟩=some (.slice an nn cn):=by rw [hwb];exact q2
         clear hwb HR
         go_upto_if 127 with fail
         go_cut [0,1,4,6] (fun s0 s1 s4 s6 wx=>s0=.pointer (some ⟨p,0,none⟩)/\s1=.slice (some ⟨g,off,none⟩) n cap/\s4=.slice none 0 0/\s6=.int .i64 j/\∃ (gz:Nat) (ds:List Value),Hid (Rk w0 wx p (.slice (some ⟨gl,0,none⟩) i i) (.slice (some ⟨gw,0,none⟩) lw wcp) (.slice (some ⟨gn,0,none⟩) ln ncp) M3 (W.set j (gy,cs)) (N.set j (gz,ds)))/\2*nn+5<=ds.length/\ds.length<=3000000)
         case first=>as_aux_lemma=>
          by_cases hl:(k0:Int)<2*(nn:Int)+5
          ·
           obtain ⟨zs,hzs⟩:∃ zs,zs=List.replicate (2*nn+5) (.int .i64 0:Value):=⟨_,rfl⟩
           have hmw:∀ wx,(Instr.makeSlice 38 (.int .i64 (2*(nn:Int)+5)) (.int .i64 (2*(nn:Int)+5))).run Tryz.prog wx=.ok (.slice (some ⟨wx.heap.size,0,none⟩) (2*nn+5) (2*nn+5)) (wx.alloc (.cells zs.toArray 3)):=fun wx=>by
            have:=run_make_nums (2*nn+5) (by omega) wx
            rw [show (((2*nn+5:Nat):Nat):Int)=2*(nn:Int)+5 by omega, <-hzs] at this
            exact this
           have Hzs:Hid (zs.length=2*nn+5):=hidOf (by rw [hzs];simp)
           clear hzs
           have fA:∀ O,(wb.alloc O).frozen? ⟨gn,j,none⟩=false:=fun O=>((RB.out.out (Lx.Out.alloc (Lx.Out.refl wb) O)).atN Hyn.out).2.1
           have fB:∀ O,(wb.alloc O).drew.frozen? ⟨gn,j,none⟩=false:=fA
           have kA:∀ O,(wb.alloc O).cell? ⟨gn,j,none⟩=some (.slice za k0 k0):=fun O=>cell_later (Lx.Out.alloc (Lx.Out.refl wb) O) cw1
           have kB:∀ O,(wb.alloc O).drew.cell? ⟨gn,j,none⟩=some (.slice za k0 k0):=kA
           have RB2:=RB.out
           rw [Hln.out] at RB2
           have RM:=RB2.numbersMade (i:=j) HJN.out zs (fun e=>by have:=Hzs.out;rw [e] at this;simp at this)
           rw [Hzs.out, <-Hln.out] at RM
           clear RB2
           have RM2:Hid (Rk w0 (((wb.alloc (.cells zs.toArray 3)).setCell ⟨gn,j,none⟩ (.slice (some ⟨wb.heap.size,0,none⟩) (2*nn+5) (2*nn+5))).drew) p (.slice (some ⟨gl,0,none⟩) i i) (.slice (some ⟨gw,0,none⟩) lw wcp) (.slice (some ⟨gn,0,none⟩) ln ncp) M3 (W.set j (gy,cs)) (N.set j (wb.heap.size,zs))):=hidOf (RM.out (Lx.Out.drewN (Lx.Out.refl _) 1))
           have k1:(((wb.alloc (.cells zs.toArray 3)).setCell ⟨gn,j,none⟩ (.slice (some ⟨wb.heap.size,0,none⟩) (2*nn+5) (2*nn+5))).drew).cell? ⟨p,2,none⟩=some (.slice (some ⟨gn,0,none⟩) ln ncp):=RM2.out.cell 2
           have k2:(((wb.alloc (.cells zs.toArray 3)).setCell ⟨gn,j,none⟩ (.slice (some ⟨wb.heap.size,0,none⟩) (2*nn+5) (2*nn+5))).drew).cell? ⟨g,off+j*11+3,none⟩=some (.slice an nn cn):=cell_later RM2.out.o (HQ.out 3 _ rfl)
           clear RM cw1
           go_upto_region 16 with fail
           go_region_held3 (fun wx=>wx.cell? ⟨p,2,none⟩=some (.slice (some ⟨gn,0,none⟩) ln ncp)/\wx.cell? ⟨g,off+j*11+3,none⟩=some (.slice an nn cn)) (first | with_reducible exact ⟨c1,q2⟩ | with_reducible exact ⟨k1,k2⟩ | simp [*,World.cell?_alloc_some]) (fail)
           go_wp2
           go_meet
           exact ⟨rfl,rfl,rfl,rfl,wb.heap.size,zs,RM2,by have:=Hzs.out;omega,by have:=Hzs.out;omega⟩
          ·
           go_wp2
           go_meet
           refine ⟨rfl,rfl,rfl,rfl,gz0,ds0, ?_,by have:=Hk0.out;omega,by have:=Hk0.out;omega⟩
           rw [set_same Hyn.out]
           exact RB
         case rest=>as_aux_lemma=>
          obtain ⟨rfl,rfl,rfl,rfl,gz,ds,HR,hK1,hK2⟩:=hcut
          clear RB c1 cw1 q2 hw2 hw5 Hyn Hk0 hbn fn1
          obtain ⟨L,hL⟩:∃ L,L=cs.length:=⟨_,rfl⟩
          obtain ⟨K,hK⟩:∃ K,K=ds.length:=⟨_,rfl⟩
          rw [<-hL] at hL1 hL2
          rw [<-hK] at hK1 hK2
          have HcL:=hidOf hL
          have HdK:=hidOf hK
          clear hL hK
          go_upto_region 18 with fail
          go_loopw [7] (fun iv wr=>∃ (t:Nat) (cs2:List Value),iv=.int .i64 t/\t<=L/\Hid (cs2=ovY t (List.replicate L behS) cs)/\Hid (Rk w0 wr p (.slice (some ⟨gl,0,none⟩) i i) (.slice (some ⟨gw,0,none⟩) lw wcp) (.slice (some ⟨gn,0,none⟩) ln ncp) M3 (W.set j (gy,cs2)) (N.set j (gz,ds)))) (fun iv _=>L - (intOf iv).toNat)
          case atStart=>exact ⟨0,cs,rfl,by omega,hidOf (ovY_zero _ _).symm,HR⟩
          case round=>
           clear HR
           obtain ⟨t,cs2,rfl,ht,HC,HR⟩:=hrel
           have HC2l:Hid (cs2.length=L):=hidOf (by rw [HC.out,ovY_len (by rw [List.length_replicate];exact ht) (by rw [List.length_replicate];rw [HcL.out];exact Nat.le_refl _),HcL.out])
           have c1:wr.cell? ⟨p,1,none⟩=some (.slice (some ⟨gw,0,none⟩) lw wcp):=HR.out.cell 1
           have c2:wr.cell? ⟨gw,j,none⟩=some (.slice (some ⟨gy,0,none⟩) L L):=by
            have:=(HR.out.atW (set_at HJW.out _)).1
            simp only at this
            rw [inA_some (by rw [HC2l.out];omega),HC2l.out] at this
            exact this
           by_cases hlt:t<L
           ·
            as_aux_lemma=>
            skip
            have hltI:(t:Int)<L:=by omega
            have ht0:(0:Int)<=t:=by omega
            obtain ⟨u,hu⟩:∃ u,cs2[t]? = some u:=⟨_,List.getElem?_eq_getElem (by rw [HC2l.out];omega)⟩
            obtain ⟨c3,f3⟩:=HR.out.inW (set_at HJW.out _) hu
            have RN:=hidOf (HR.out.stW (t:=t) HJW.out (by rw [HC2l.out];omega) behS)
            have HCN:Hid (cs2.set t behS=ovY (t+1) (List.replicate L behS) cs):=hidOf (by rw [HC.out,ovY_set (by rw [List.getElem?_replicate,if_pos hlt]) (by rw [List.length_replicate];rw [HcL.out];exact Nat.le_refl _)])
            clear hu
            go_wp2
            go_roundw
            case rel=>exact ⟨t+1,_,by simp,by omega,HCN,RN⟩
            case measure=>simp [intOf];omega
           ·
            as_aux_lemma=>
            have hltI:¬(t:Int)<L:=by omega
            have hcE:cs2=(List.replicate L behS):=by rw [HC.out,ovY_all (by rw [List.length_replicate];omega) (by rw [List.length_replicate];rw [HcL.out])]
            rw [hcE] at HR
            clear HC HC2l
            go_upto_region 22 with fail
            clear c1 c2 hltI hlt hcE
            obtain ⟨wy,hwy⟩:∃ wy,wy=wr:=⟨_,rfl⟩
            rw [<-hwy] at HR
            have Hwy:=hidOf hwy
            clear hwy
            go_upto_region 22 with fail
            go_loopw [8] (fun iv wr=>∃ (t:Nat) (cs2:List Value),iv=.int .i64 t/\t<=K/\Hid (cs2=ovY t (bhNs 0 K) ds)/\Hid (Rk w0 wr p (.slice (some ⟨gl,0,none⟩) i i) (.slice (some ⟨gw,0,none⟩) lw wcp) (.slice (some ⟨gn,0,none⟩) ln ncp) M3 (W.set j (gy,List.replicate L behS)) (N.set j (gz,cs2)))) (fun iv _=>K - (intOf iv).toNat)
            case atStart=>exact ⟨0,ds,rfl,by omega,hidOf (ovY_zero _ _).symm,(by rw [<-Hwy.out];exact HR)⟩
            case round=>
             clear HR
             obtain ⟨t,cs2,rfl,ht,HC,HR⟩:=hrel
             have HC2l:Hid (cs2.length=K):=hidOf (by rw [HC.out,ovY_len (by rw [bhNs_len];exact ht) (by rw [bhNs_len];rw [HdK.out];exact Nat.le_refl _),HdK.out])
             have c1:wr.cell? ⟨p,2,none⟩=some (.slice (some ⟨gn,0,none⟩) ln ncp):=HR.out.cell 2
             have c2:wr.cell? ⟨gn,j,none⟩=some (.slice (some ⟨gz,0,none⟩) K K):=by
              have:=(HR.out.atN (set_at HJN.out _)).1
              simp only at this
              rw [inA_some (by rw [HC2l.out];omega),HC2l.out] at this
              exact this
             by_cases hlt:t<K
             ·
              as_aux_lemma=>
              skip
              have hltI:(t:Int)<K:=by omega
              have ht0:(0:Int)<=t:=by omega
              obtain ⟨u,hu⟩:∃ u,cs2[t]? = some u:=⟨_,List.getElem?_eq_getElem (by rw [HC2l.out];omega)⟩
              obtain ⟨c3,f3⟩:=HR.out.inN (set_at HJN.out _) hu
              have RN:=hidOf (HR.out.stN (t:=t) HJN.out (by rw [HC2l.out];omega) (bhN t))
              have HCN:Hid (cs2.set t (bhN t)=ovY (t+1) (bhNs 0 K) ds):=hidOf (by rw [HC.out,ovY_set (by rw [bhNs_get hlt,Nat.zero_add]) (by rw [bhNs_len];rw [HdK.out];exact Nat.le_refl _)])
              clear hu
              go_wp2
              go_roundw
              case rel=>exact ⟨t+1,_,by simp,by omega,HCN,RN⟩
              case measure=>simp [intOf];omega
             ·
              as_aux_lemma=>
              have hltI:¬(t:Int)<K:=by omega
              have hcE:cs2=(bhNs 0 K):=by rw [HC.out,ovY_all (by rw [bhNs_len];omega) (by rw [bhNs_len];rw [HdK.out])]
              rw [hcE] at HR
              clear HC HC2l
              clear Hwy hcE
              have q0:wr.cell? ⟨g,off+j*11,none⟩=some (.int .i64 x.k):=cell_later HR.out.o (HQ.out 0 _ rfl)
              have q1:wr.cell? ⟨g,off+j*11+1,none⟩=some (.string ⟨x.nm.toArray⟩):=cell_later HR.out.o (HQ.out 1 _ rfl)
              have q2:wr.cell? ⟨g,off+j*11+2,none⟩=some (.slice aw nw cw):=cell_later HR.out.o (HQ.out 2 _ rfl)
              have q3:wr.cell? ⟨g,off+j*11+3,none⟩=some (.slice an nn cn):=cell_later HR.out.o (HQ.out 3 _ rfl)
              have q4:wr.cell? ⟨g,off+j*11+4,none⟩=some (.int .i64 x.o):=cell_later HR.out.o (HQ.out 4 _ rfl)
              have q5:wr.cell? ⟨g,off+j*11+5,none⟩=some (.int .i64 x.d):=cell_later HR.out.o (HQ.out 5 _ rfl)
              have q6:wr.cell? ⟨g,off+j*11+6,none⟩=some (.int .i64 x.s):=cell_later HR.out.o (HQ.out 6 _ rfl)
              have q7:wr.cell? ⟨g,off+j*11+7,none⟩=some (.int .i64 x.f):=cell_later HR.out.o (HQ.out 7 _ rfl)
              have q8:wr.cell? ⟨g,off+j*11+8,none⟩=some (.int .i64 x.i):=cell_later HR.out.o (HQ.out 8 _ rfl)
              have q9:wr.cell? ⟨g,off+j*11+9,none⟩=some (.string ⟨x.tg.toArray⟩):=cell_later HR.out.o (HQ.out 9 _ rfl)
              have q10:wr.cell? ⟨g,off+j*11+10,none⟩=some (.int .i64 x.l):=cell_later HR.out.o (HQ.out 10 _ rfl)
              go_upto_region 27 with fail
              clear c1 c2 hltI hlt q0 q1 q2 q3 q4 q5 q6 q7 q8 q9 q10
              obtain ⟨_,_,hrow0,_⟩:=HR.out.row
              obtain ⟨b,hb⟩:∃ b,b=wr.heap.size:=⟨_,rfl⟩
              have hbgl:¬b=gl:=by have:=hrow0.lt;omega
              have hb0:w0.heap.size<=b:=by rw [hb];exact HR.out.o.size
              rw [<-hb]
              obtain ⟨wA,hwA⟩:∃ wA,wA=wr.alloc (.cells #[.int .i64 x.k,.string ⟨x.nm.toArray⟩,.slice aw nw cw,.slice an nn cn,.int .i64 x.o,.int .i64 x.d,.int .i64 x.s,.int .i64 x.f,.int .i64 x.i,.string ⟨x.tg.toArray⟩,.int .i64 x.l] 42):=⟨_,rfl⟩
              rw [<-hwA]
              have HBX:Hid (wA.heap[b]? = some (.cells #[.int .i64 x.k,.string ⟨x.nm.toArray⟩,.slice aw nw cw,.slice an nn cn,.int .i64 x.o,.int .i64 x.d,.int .i64 x.s,.int .i64 x.f,.int .i64 x.i,.string ⟨x.tg.toArray⟩,.int .i64 x.l] 42 (0,0))):=hidOf (by rw [hwA,hb];exact heap_alloc_new wr _)
              have RA:Hid (Rk w0 wA p (.slice (some ⟨gl,0,none⟩) i i) (.slice (some ⟨gw,0,none⟩) lw wcp) (.slice (some ⟨gn,0,none⟩) ln ncp) M3 (W.set j (gy,List.replicate L behS)) (N.set j (gz,bhNs 0 K))):=hidOf (by rw [hwA];exact HR.out.out (Lx.Out.alloc (Lx.Out.refl wr) _))
              clear HR hwA hb hrow0
              go_loopw [10] (fun iv wr=>∃ (t:Nat) (cs3:List Value),iv=.int .i64 t/\t<=nw/\Hid (cs3=ovY t (strsC x.ws) (List.replicate L behS))/\Hid (Rk w0 wr p (.slice (some ⟨gl,0,none⟩) i i) (.slice (some ⟨gw,0,none⟩) lw wcp) (.slice (some ⟨gn,0,none⟩) ln ncp) M3 (W.set j (gy,cs3)) (N.set j (gz,bhNs 0 K)))/\Hid (wr.heap[b]? = some (.cells #[.int .i64 x.k,.string ⟨x.nm.toArray⟩,.slice aw nw cw,.slice an nn cn,.int .i64 x.o,.int .i64 x.d,.int .i64 x.s,.int .i64 x.f,.int .i64 x.i,.string ⟨x.tg.toArray⟩,.int .i64 x.l] 42 (0,0)))) (fun iv _=>nw - (intOf iv).toNat)
              case atStart=>exact ⟨0,(List.replicate L behS),rfl,by omega,hidOf (ovY_zero _ _).symm,RA,HBX⟩
              case round=>
               clear RA HBX
               obtain ⟨t,cs3,rfl,ht,HC,HR,HBX⟩:=hrel
               have HTl:Hid ((strsC x.ws).length=nw):=hidOf (by rw [HNW.out];simp [strsC])
               have HC2l:Hid (cs3.length=L):=hidOf (by rw [HC.out,ovY_len (by rw [HTl.out];exact ht) (by rw [List.length_replicate];rw [HTl.out];omega)];rw [List.length_replicate])
               have bx2:wr.cell? ⟨b,2,none⟩=some (.slice aw nw cw):=cell_atL HBX.out 2
               by_cases hlt:t<nw
               ·
                as_aux_lemma=>
                skip
                have hltI:(t:Int)<nw:=by omega
                have ht0:(0:Int)<=t:=by omega
                have htL:(t:Int)<L:=by omega
                have c1:wr.cell? ⟨p,1,none⟩=some (.slice (some ⟨gw,0,none⟩) lw wcp):=HR.out.cell 1
                have c2:wr.cell? ⟨gw,j,none⟩=some (.slice (some ⟨gy,0,none⟩) L L):=by
                 have:=(HR.out.atW (set_at HJW.out _)).1
                 simp only at this
                 rw [inA_some (by rw [HC2l.out];omega),HC2l.out] at this
                 exact this
                obtain ⟨u,hu⟩:∃ u,cs3[t]? = some u:=⟨_,List.getElem?_eq_getElem (by rw [HC2l.out];omega)⟩
                obtain ⟨c3,f3⟩:=HR.out.inW (set_at HJW.out _) hu
                obtain ⟨u5,hu5⟩:∃ u,(strsC x.ws)[t]? = some u:=⟨_,List.getElem?_eq_getElem (by rw [HTl.out];omega)⟩
                obtain ⟨s5,rfl⟩:∃ s:List UInt8,u5=.string ⟨s.toArray⟩:=by
                 simp only [strsC,List.getElem?_map,Option.map_eq_some_iff] at hu5
                 obtain ⟨y5,_,e5⟩:=hu5
                 exact ⟨y5,e5.symm⟩
                rcases HRW.out with e | ⟨ga,oa,rfl,hrw⟩
                · exfalso;rw [e] at hu5;simp at hu5
                have c5:wr.cell? ⟨ga,oa+t,none⟩=some (.string ⟨s5.toArray⟩):=cell_later HR.out.o (hrw t _ hu5)
                have RN:=HR.out.stW (t:=t) HJW.out (by rw [HC2l.out];omega) (.string ⟨s5.toArray⟩)
                have hgb:¬b=gy:=fun e=>by
                 obtain ⟨_,hg5⟩:=HR.out.wo.blk j _ (set_at HJW.out _) (fun e=>by have:=HC2l.out;simp only at e;rw [e] at this;simp at this;omega)
                 exact kind_ne HBX.out hg5 (by decide) e
                have HB2:Hid (((wr.setCell ⟨gy,t,none⟩ (.string ⟨s5.toArray⟩)).drew).heap[b]? = some (.cells #[.int .i64 x.k,.string ⟨x.nm.toArray⟩,.slice (some ⟨ga,oa,none⟩) nw cw,.slice an nn cn,.int .i64 x.o,.int .i64 x.d,.int .i64 x.s,.int .i64 x.f,.int .i64 x.i,.string ⟨x.tg.toArray⟩,.int .i64 x.l] 42 (0,0))):=hidOf ((Below.heap_setCell _ _ _ _ hgb).trans HBX.out)
                have RN2:=hidOf (RN.out (Lx.Out.drewN (Lx.Out.refl _) 1))
                have HCN:Hid (cs3.set t (.string ⟨s5.toArray⟩)=ovY (t+1) (strsC x.ws) (List.replicate L behS)):=hidOf (by rw [HC.out,ovY_set hu5 (by rw [List.length_replicate];rw [HTl.out];omega)])
                have k1:(wr.setCell ⟨gy,t,none⟩ (.string ⟨s5.toArray⟩)).drew.cell? ⟨p,1,none⟩=some (.slice (some ⟨gw,0,none⟩) lw wcp):=RN2.out.cell 1
                have k2:(wr.setCell ⟨gy,t,none⟩ (.string ⟨s5.toArray⟩)).drew.cell? ⟨gw,j,none⟩=some (.slice (some ⟨gy,0,none⟩) L L):=by
                 have:=(RN2.out.atW (set_at HJW.out _)).1
                 simp only at this
                 rw [inA_some (by rw [List.length_set,HC2l.out];omega),List.length_set,HC2l.out] at this
                 exact this
                have k3:(wr.setCell ⟨gy,t,none⟩ (.string ⟨s5.toArray⟩)).drew.cell? ⟨b,2,none⟩=some (.slice (some ⟨ga,oa,none⟩) nw cw):=cell_atL HB2.out 2
                have k4:(wr.setCell ⟨gy,t,none⟩ (.string ⟨s5.toArray⟩)).drew.cell? ⟨ga,oa+t,none⟩=some (.string ⟨s5.toArray⟩):=cell_later RN2.out.o (hrw t _ hu5)
                clear hu hu5 hrw RN
                go_upto_region 29 with fail
                go_region_held3 (fun wx=>wx.cell? ⟨p,1,none⟩=some (.slice (some ⟨gw,0,none⟩) lw wcp)/\wx.cell? ⟨gw,j,none⟩=some (.slice (some ⟨gy,0,none⟩) L L)/\wx.cell? ⟨b,2,none⟩=some (.slice (some ⟨ga,oa,none⟩) nw cw)/\wx.cell? ⟨ga,oa+t,none⟩=some (.string ⟨s5.toArray⟩)) (first | with_reducible exact ⟨c1,c2,bx2,c5⟩ | with_reducible exact ⟨k1,k2,k3,k4⟩ | go_keep) (fail)
                clear k1 k2 k3 k4
                go_wp2
                go_roundw
                case rel=>exact ⟨t+1,_,by simp,by omega,HCN,RN2,HB2⟩
                case measure=>simp [intOf];omega
               ·
                as_aux_lemma=>
                have hltI:¬(t:Int)<nw:=by omega
                have hcE:cs3=strsC x.ws++List.replicate (L - nw) behS:=by
                 rw [HC.out,show t=(strsC x.ws).length by rw [HTl.out];omega,ovY_rep,HTl.out]
                rw [hcE] at HR
                clear HC HC2l hcE
                go_upto_region 31 with fail
                clear bx2 hltI hlt HTl
                obtain ⟨wy,hwy⟩:∃ wy,wy=wr:=⟨_,rfl⟩
                rw [<-hwy] at HR HBX
                have Hwy:=hidOf hwy
                clear hwy
                go_loopw [11] (fun iv wr=>∃ (t:Nat) (cs3:List Value),iv=.int .i64 t/\t<=nn/\Hid (cs3=ovY t (intsC x.ns) (bhNs 0 K))/\Hid (Rk w0 wr p (.slice (some ⟨gl,0,none⟩) i i) (.slice (some ⟨gw,0,none⟩) lw wcp) (.slice (some ⟨gn,0,none⟩) ln ncp) M3 (W.set j (gy,strsC x.ws++List.replicate (L - nw) behS)) (N.set j (gz,cs3)))/\Hid (wr.heap[b]? = some (.cells #[.int .i64 x.k,.string ⟨x.nm.toArray⟩,.slice aw nw cw,.slice an nn cn,.int .i64 x.o,.int .i64 x.d,.int .i64 x.s,.int .i64 x.f,.int .i64 x.i,.string ⟨x.tg.toArray⟩,.int .i64 x.l] 42 (0,0)))) (fun iv _=>nn - (intOf iv).toNat)
                case atStart=>exact ⟨0,(bhNs 0 K),rfl,by omega,hidOf (ovY_zero _ _).symm,(by rw [<-Hwy.out];exact HR),(by rw [<-Hwy.out];exact HBX)⟩
                case round=>
                 clear HR Hwy HBX
                 obtain ⟨t,cs3,rfl,ht,HC,HR,HBX⟩:=hrel
                 have HTl:Hid ((intsC x.ns).length=nn):=hidOf (by rw [HNN.out];simp [intsC])
                 have HC2l:Hid (cs3.length=K):=hidOf (by rw [HC.out,ovY_len (by rw [HTl.out];exact ht) (by rw [bhNs_len];rw [HTl.out];omega)];rw [bhNs_len])
                 have bx2:wr.cell? ⟨b,3,none⟩=some (.slice an nn cn):=cell_atL HBX.out 3
                 by_cases hlt:t<nn
                 ·
                  as_aux_lemma=>
                  skip
                  have hltI:(t:Int)<nn:=by omega
                  have ht0:(0:Int)<=t:=by omega
                  have htL:(t:Int)<K:=by omega
                  have c1:wr.cell? ⟨p,2,none⟩=some (.slice (some ⟨gn,0,none⟩) ln ncp):=HR.out.cell 2
                  have c2:wr.cell? ⟨gn,j,none⟩=some (.slice (some ⟨gz,0,none⟩) K K):=by
                   have:=(HR.out.atN (set_at HJN.out _)).1
                   simp only at this
                   rw [inA_some (by rw [HC2l.out];omega),HC2l.out] at this
                   exact this
                  obtain ⟨u,hu⟩:∃ u,cs3[t]? = some u:=⟨_,List.getElem?_eq_getElem (by rw [HC2l.out];omega)⟩
                  obtain ⟨c3,f3⟩:=HR.out.inN (set_at HJN.out _) hu
                  obtain ⟨u5,hu5⟩:∃ u,(intsC x.ns)[t]? = some u:=⟨_,List.getElem?_eq_getElem (by rw [HTl.out];omega)⟩
                  obtain ⟨s5,rfl⟩:∃ s:Int,u5=.int .i64 s:=by
                   simp only [intsC,List.getElem?_map,Option.map_eq_some_iff] at hu5
                   obtain ⟨y5,_,e5⟩:=hu5
                   exact ⟨y5,e5.symm⟩
                  rcases HRN.out with e | ⟨ga,oa,rfl,hrw⟩
                  · exfalso;rw [e] at hu5;simp at hu5
                  have c5:wr.cell? ⟨ga,oa+t,none⟩=some (.int .i64 s5):=cell_later HR.out.o (hrw t _ hu5)
                  have RN:=HR.out.stN (t:=t) HJN.out (by rw [HC2l.out];omega) (.int .i64 s5)
                  have hgb:¬b=gz:=fun e=>by
                   obtain ⟨_,hg5⟩:=HR.out.no.blk j _ (set_at HJN.out _) (fun e=>by have:=HC2l.out;simp only at e;rw [e] at this;simp at this;omega)
                   exact kind_ne HBX.out hg5 (by decide) e
                  have HB2:Hid (((wr.setCell ⟨gz,t,none⟩ (.int .i64 s5)).drew).heap[b]? = some (.cells #[.int .i64 x.k,.string ⟨x.nm.toArray⟩,.slice aw nw cw,.slice (some ⟨ga,oa,none⟩) nn cn,.int .i64 x.o,.int .i64 x.d,.int .i64 x.s,.int .i64 x.f,.int .i64 x.i,.string ⟨x.tg.toArray⟩,.int .i64 x.l] 42 (0,0))):=hidOf ((Below.heap_setCell _ _ _ _ hgb).trans HBX.out)
                  have RN2:=hidOf (RN.out (Lx.Out.drewN (Lx.Out.refl _) 1))
                  have HCN:Hid (cs3.set t (.int .i64 s5)=ovY (t+1) (intsC x.ns) (bhNs 0 K)):=hidOf (by rw [HC.out,ovY_set hu5 (by rw [bhNs_len];rw [HTl.out];omega)])
                  have k1:(wr.setCell ⟨gz,t,none⟩ (.int .i64 s5)).drew.cell? ⟨p,2,none⟩=some (.slice (some ⟨gn,0,none⟩) ln ncp):=RN2.out.cell 2
                  have k2:(wr.setCell ⟨gz,t,none⟩ (.int .i64 s5)).drew.cell? ⟨gn,j,none⟩=some (.slice (some ⟨gz,0,none⟩) K K):=by
                   have:=(RN2.out.atN (set_at HJN.out _)).1
                   simp only at this
                   rw [inA_some (by rw [List.length_set,HC2l.out];omega),List.length_set,HC2l.out] at this
                   exact this
                  have k3:(wr.setCell ⟨gz,t,none⟩ (.int .i64 s5)).drew.cell? ⟨b,3,none⟩=some (.slice (some ⟨ga,oa,none⟩) nn cn):=cell_atL HB2.out 3
                  have k4:(wr.setCell ⟨gz,t,none⟩ (.int .i64 s5)).drew.cell? ⟨ga,oa+t,none⟩=some (.int .i64 s5):=cell_later RN2.out.o (hrw t _ hu5)
                  clear hu hu5 hrw RN
                  go_upto_region 33 with fail
                  go_region_held3 (fun wx=>wx.cell? ⟨p,2,none⟩=some (.slice (some ⟨gn,0,none⟩) ln ncp)/\wx.cell? ⟨gn,j,none⟩=some (.slice (some ⟨gz,0,none⟩) K K)/\wx.cell? ⟨b,3,none⟩=some (.slice (some ⟨ga,oa,none⟩) nn cn)/\wx.cell? ⟨ga,oa+t,none⟩=some (.int .i64 s5)) (first | with_reducible exact ⟨c1,c2,bx2,c5⟩ | with_reducible exact ⟨k1,k2,k3,k4⟩ | go_keep) (fail)
                  clear k1 k2 k3 k4
                  go_wp2
                  go_roundw
                  case rel=>exact ⟨t+1,_,by simp,by omega,HCN,RN2,HB2⟩
                  case measure=>simp [intOf];omega
                 ·
                  as_aux_lemma=>
                  have hltI:¬(t:Int)<nn:=by omega
                  have hcE:cs3=intsC x.ns++bhNs nn (K - nn):=by
                   rw [HC.out,show t=(intsC x.ns).length by rw [HTl.out];omega,ovY_bh (by rw [HTl.out];omega),HTl.out]
                  rw [hcE] at HR
                  clear HC HC2l hcE
                  go_upto_region 34 with fail
                  clear bx2 hltI hlt HTl
                  have hnL:(nw:Int)<=L:=by omega
                  have c1:wr.cell? ⟨p,1,none⟩=some (.slice (some ⟨gw,0,none⟩) lw wcp):=HR.out.cell 1
                  have c2:wr.cell? ⟨gw,j,none⟩=some (.slice (some ⟨gy,0,none⟩) L L):=by
                   have:=(HR.out.atW (set_at HJW.out _)).1
                   simp only at this
                   have hl5:(strsC x.ws++List.replicate (L - nw) behS).length=L:=by simp [strsC,bhNs_len];have:=HNW.out;omega
                   rw [inA_some (by rw [hl5];omega),hl5] at this
                   exact this
                  have bx2:wr.cell? ⟨b,2,none⟩=some (.slice aw nw cw):=cell_atL HBX.out 2
                  have bf2:wr.frozen? ⟨b,2,none⟩=false:=frozen_atL HBX.out 2
                  have RX5:Hid (Rk w0 (wr.setCell ⟨b,2,none⟩ (.slice (some ⟨gy,0,none⟩) nw L)).drew p (.slice (some ⟨gl,0,none⟩) i i) (.slice (some ⟨gw,0,none⟩) lw wcp) (.slice (some ⟨gn,0,none⟩) ln ncp) M3 (W.set j (gy,strsC x.ws++List.replicate (L - nw) behS)) (N.set j (gz,intsC x.ns++bhNs nn (K - nn)))):=hidOf ((HR.out.box HBX.out hbgl hb0 2 (.slice (some ⟨gy,0,none⟩) nw L)).out (Lx.Out.drewN (Lx.Out.refl _) 1))
                  have k1:(wr.setCell ⟨b,2,none⟩ (.slice (some ⟨gy,0,none⟩) nw L)).drew.cell? ⟨p,1,none⟩=some (.slice (some ⟨gw,0,none⟩) lw wcp):=RX5.out.cell 1
                  have k2:(wr.setCell ⟨b,2,none⟩ (.slice (some ⟨gy,0,none⟩) nw L)).drew.cell? ⟨gw,j,none⟩=some (.slice (some ⟨gy,0,none⟩) L L):=by
                   have:=(RX5.out.atW (set_at HJW.out _)).1
                   simp only at this
                   have hl5:(strsC x.ws++List.replicate (L - nw) behS).length=L:=by simp [strsC,bhNs_len];have:=HNW.out;omega
                   rw [inA_some (by rw [hl5];omega),hl5] at this
                   exact this
                  clear RX5
                  go_upto_region 34 with fail
                  refine wp_region_held_drew (S:=(fun w'=>w'.cell? ⟨p,1,none⟩=some (.slice (some ⟨gw,0,none⟩) lw wcp)/\w'.cell? ⟨gw,j,none⟩=some (.slice (some ⟨gy,0,none⟩) L L))) (by kernel_rfl) ?_ (fun hHeld=>?_)
                  · exact ⟨c1,c2⟩
                  refine tkLB [0,1,2,3,4,5,6,7] ?_
                  iterate 8 (refine tkLC (v:=?_) rfl rfl (by kernel_rfl) (by kernel_rfl) (by kernel_rfl) (fun _ _ _ h=>h) (by rfl) (by assumption) ?_ ?_;rotate_left;(· (intro w hSw;(try dsimp only at hSw);go_simp;(try with_reducible rfl)));simp only [Act.put,List.setIfInBounds_toArray,List.set_cons_zero,List.set_cons_succ])
                  refine tkLE ?_
                  refine wpAnyH_ready (rs:=[8]) (by kernel_rfl) (by simp) ?_
                  refine AllReadyH.cons rfl (fun K5 hK5=>?_) AllReadyH.nil
                  rw [if_pos (by rfl)]
                  go_simp
                  refine hK5.out _ _ ⟨c1,c2⟩ (fun hHeld=>?_)
                  refine tkLB [9,10,11] ?_
                  iterate 3 (refine tkLC (v:=?_) rfl rfl (by kernel_rfl) (by kernel_rfl) (by kernel_rfl) (fun _ _ _ h=>h) (by rfl) (by assumption) ?_ ?_;rotate_left;(· (intro w hSw;(try dsimp only at hSw);go_simp;(try with_reducible rfl)));simp only [Act.put,List.setIfInBounds_toArray,List.set_cons_zero,List.set_cons_succ])
                  refine tkLE ?_
                  refine wpAnyH_ready (rs:=[12]) (by kernel_rfl) (by simp) ?_
                  refine AllReadyH.cons rfl (fun K6 hK6=>?_) AllReadyH.nil
                  rw [if_pos (by rfl)]
                  go_simp
                  refine hK6.out _ _ ⟨k1,k2⟩ (fun hHeld=>?_)
                  refine wpAnyH_done (by kernel_rfl) ?_ _
                  clear hHeld k1 k2
                  obtain ⟨wB,hwB⟩:∃ wB,wB=(wr.setCell ⟨b,2,none⟩ (.slice (some ⟨gy,0,none⟩) nw L)).drew:=⟨_,rfl⟩
                  rw [<-hwB]
                  have HBB:Hid (wB.heap[b]? = some (.cells #[.int .i64 x.k,.string ⟨x.nm.toArray⟩,.slice (some ⟨gy,0,none⟩) nw L,.slice an nn cn,.int .i64 x.o,.int .i64 x.d,.int .i64 x.s,.int .i64 x.f,.int .i64 x.i,.string ⟨x.tg.toArray⟩,.int .i64 x.l] 42 (0,0))):=hidOf (by rw [hwB];exact set_atL HBX.out 2 _)
                  have RB:Hid (Rk w0 wB p (.slice (some ⟨gl,0,none⟩) i i) (.slice (some ⟨gw,0,none⟩) lw wcp) (.slice (some ⟨gn,0,none⟩) ln ncp) M3 (W.set j (gy,strsC x.ws++List.replicate (L - nw) behS)) (N.set j (gz,intsC x.ns++bhNs nn (K - nn)))):=hidOf (by rw [hwB];exact (HR.out.box HBX.out hbgl hb0 2 _).out (Lx.Out.drewN (Lx.Out.refl _) 1))
                  clear hwB c1 c2 bx2 bf2 hnL HR HBX
                  have hnL:(nn:Int)<=K:=by omega
                  have c1:wB.cell? ⟨p,2,none⟩=some (.slice (some ⟨gn,0,none⟩) ln ncp):=RB.out.cell 2
                  have c2:wB.cell? ⟨gn,j,none⟩=some (.slice (some ⟨gz,0,none⟩) K K):=by
                   have:=(RB.out.atN (set_at HJN.out _)).1
                   simp only at this
                   have hl5:(intsC x.ns++bhNs nn (K - nn)).length=K:=by simp [intsC,bhNs_len];have:=HNN.out;omega
                   rw [inA_some (by rw [hl5];omega),hl5] at this
                   exact this
                  have bx2:wB.cell? ⟨b,3,none⟩=some (.slice an nn cn):=cell_atL HBB.out 3
                  have bf2:wB.frozen? ⟨b,3,none⟩=false:=frozen_atL HBB.out 3
                  have RX5:Hid (Rk w0 (wB.setCell ⟨b,3,none⟩ (.slice (some ⟨gz,0,none⟩) nn K)).drew p (.slice (some ⟨gl,0,none⟩) i i) (.slice (some ⟨gw,0,none⟩) lw wcp) (.slice (some ⟨gn,0,none⟩) ln ncp) M3 (W.set j (gy,strsC x.ws++List.replicate (L - nw) behS)) (N.set j (gz,intsC x.ns++bhNs nn (K - nn)))):=hidOf ((RB.out.box HBB.out hbgl hb0 3 (.slice (some ⟨gz,0,none⟩) nn K)).out (Lx.Out.drewN (Lx.Out.refl _) 1))
                  have k1:(wB.setCell ⟨b,3,none⟩ (.slice (some ⟨gz,0,none⟩) nn K)).drew.cell? ⟨p,2,none⟩=some (.slice (some ⟨gn,0,none⟩) ln ncp):=RX5.out.cell 2
                  have k2:(wB.setCell ⟨b,3,none⟩ (.slice (some ⟨gz,0,none⟩) nn K)).drew.cell? ⟨gn,j,none⟩=some (.slice (some ⟨gz,0,none⟩) K K):=by
                   have:=(RX5.out.atN (set_at HJN.out _)).1
                   simp only at this
                   have hl5:(intsC x.ns++bhNs nn (K - nn)).length=K:=by simp [intsC,bhNs_len];have:=HNN.out;omega
                   rw [inA_some (by rw [hl5];omega),hl5] at this
                   exact this
                  clear RX5
                  go_upto_region 35 with fail
                  refine wp_region_held_drew (S:=(fun w'=>w'.cell? ⟨p,2,none⟩=some (.slice (some ⟨gn,0,none⟩) ln ncp)/\w'.cell? ⟨gn,j,none⟩=some (.slice (some ⟨gz,0,none⟩) K K))) (by kernel_rfl) ?_ (fun hHeld=>?_)
                  · exact ⟨c1,c2⟩
                  refine tkLB [0,1,2,3,4,5,6,7] ?_
                  iterate 8 (refine tkLC (v:=?_) rfl rfl (by kernel_rfl) (by kernel_rfl) (by kernel_rfl) (fun _ _ _ h=>h) (by rfl) (by assumption) ?_ ?_;rotate_left;(· (intro w hSw;(try dsimp only at hSw);go_simp;(try with_reducible rfl)));simp only [Act.put,List.setIfInBounds_toArray,List.set_cons_zero,List.set_cons_succ])
                  refine tkLE ?_
                  refine wpAnyH_ready (rs:=[8]) (by kernel_rfl) (by simp) ?_
                  refine AllReadyH.cons rfl (fun K5 hK5=>?_) AllReadyH.nil
                  rw [if_pos (by rfl)]
                  go_simp
                  refine hK5.out _ _ ⟨c1,c2⟩ (fun hHeld=>?_)
                  refine tkLB [9,10,11] ?_
                  iterate 3 (refine tkLC (v:=?_) rfl rfl (by kernel_rfl) (by kernel_rfl) (by kernel_rfl) (fun _ _ _ h=>h) (by rfl) (by assumption) ?_ ?_;rotate_left;(· (intro w hSw;(try dsimp only at hSw);go_simp;(try with_reducible rfl)));simp only [Act.put,List.setIfInBounds_toArray,List.set_cons_zero,List.set_cons_succ])
                  refine tkLE ?_
                  refine wpAnyH_ready (rs:=[12]) (by kernel_rfl) (by simp) ?_
                  refine AllReadyH.cons rfl (fun K6 hK6=>?_) AllReadyH.nil
                  rw [if_pos (by rfl)]
                  go_simp
                  refine hK6.out _ _ ⟨k1,k2⟩ (fun hHeld=>?_)
                  refine wpAnyH_done (by kernel_rfl) ?_ _
                  clear hHeld k1 k2
                  obtain ⟨wC,hwC⟩:∃ wC,wC=(wB.setCell ⟨b,3,none⟩ (.slice (some ⟨gz,0,none⟩) nn K)).drew:=⟨_,rfl⟩
                  rw [<-hwC]
                  have HBC:Hid (wC.heap[b]? = some (.cells #[.int .i64 x.k,.string ⟨x.nm.toArray⟩,.slice (some ⟨gy,0,none⟩) nw L,.slice (some ⟨gz,0,none⟩) nn K,.int .i64 x.o,.int .i64 x.d,.int .i64 x.s,.int .i64 x.f,.int .i64 x.i,.string ⟨x.tg.toArray⟩,.int .i64 x.l] 42 (0,0))):=hidOf (by rw [hwC];exact set_atL HBB.out 3 _)
                  have RC:Hid (Rk w0 wC p (.slice (some ⟨gl,0,none⟩) i i) (.slice (some ⟨gw,0,none⟩) lw wcp) (.slice (some ⟨gn,0,none⟩) ln ncp) M3 (W.set j (gy,strsC x.ws++List.replicate (L - nw) behS)) (N.set j (gz,intsC x.ns++bhNs nn (K - nn)))):=hidOf (by rw [hwC];exact (RB.out.box HBB.out hbgl hb0 3 _).out (Lx.Out.drewN (Lx.Out.refl _) 1))
                  clear hwC c1 c2 bx2 bf2 hnL RB HBB
                  have c0:wC.cell? ⟨p,0,none⟩=some (.slice (some ⟨gl,0,none⟩) i i):=RC.out.cell 0
                  obtain ⟨hM5,_,hrow,_⟩:=RC.out.row
                  obtain ⟨z,hz⟩:∃ z,M3[j]? = some z:=⟨_,List.getElem?_eq_getElem (by omega)⟩
                  have b0:wC.cell? ⟨b,0,none⟩=some (.int .i64 x.k):=cell_atL HBC.out 0
                  have b1:wC.cell? ⟨b,1,none⟩=some (.string ⟨x.nm.toArray⟩):=cell_atL HBC.out 1
                  have b2:wC.cell? ⟨b,2,none⟩=some (.slice (some ⟨gy,0,none⟩) nw L):=cell_atL HBC.out 2
                  have b3:wC.cell? ⟨b,3,none⟩=some (.slice (some ⟨gz,0,none⟩) nn K):=cell_atL HBC.out 3
                  have b4:wC.cell? ⟨b,4,none⟩=some (.int .i64 x.o):=cell_atL HBC.out 4
                  have b5:wC.cell? ⟨b,5,none⟩=some (.int .i64 x.d):=cell_atL HBC.out 5
                  have b6:wC.cell? ⟨b,6,none⟩=some (.int .i64 x.s):=cell_atL HBC.out 6
                  have b7:wC.cell? ⟨b,7,none⟩=some (.int .i64 x.f):=cell_atL HBC.out 7
                  have b8:wC.cell? ⟨b,8,none⟩=some (.int .i64 x.i):=cell_atL HBC.out 8
                  have b9:wC.cell? ⟨b,9,none⟩=some (.string ⟨x.tg.toArray⟩):=cell_atL HBC.out 9
                  have b10:wC.cell? ⟨b,10,none⟩=some (.int .i64 x.l):=cell_atL HBC.out 10
                  have hji:(j:Int)<i:=by omega
                  have HLs:Hid (Lent Y (j+1) (M3.set j (x,.slice (some ⟨gy,0,none⟩) nw L,.slice (some ⟨gz,0,none⟩) nn K)) (W.set j (gy,strsC x.ws++List.replicate (L - nw) behS)) (N.set j (gz,intsC x.ns++bhNs nn (K - nn)))):=hidOf (by
                   have h:=HL.out.step Hy.out (by omega) HJW.out HJN.out gy (L - nw - 5) gz (K - nn - 5)
                   simp only at h
                   rw [<-HNW.out, <-HNN.out,show L - nw - 5+5=L - nw by omega,show K - nn - 5+5=K - nn by omega,show nw+(L - nw)=L by omega,show nn+(K - nn)=K by omega] at h
                   exact h)
                  have hc5:(strsC x.ws++List.replicate (L - nw) behS).length=L:=by simp [strsC];have:=HNW.out;omega
                  have hd5:(intsC x.ns++bhNs nn (K - nn)).length=K:=by simp [intsC,bhNs_len];have:=HNN.out;omega
                  have HBW5:=hidOf (HBW.out.set j (z:=(gy,strsC x.ws++List.replicate (L - nw) behS)) (by simp only;rw [hc5];exact hL2))
                  have HBN5:=hidOf (HBN.out.set j (z:=(gz,intsC x.ns++bhNs nn (K - nn))) (by simp only;rw [hd5];exact hK2))
                  have HM5:=hidOf hM5
                  skip
                  obtain ⟨wD,hwD⟩:∃ wD,wD=wC.drew.setCells gl (j*11) [.int .i64 x.k,.string ⟨x.nm.toArray⟩,.slice (some ⟨gy,0,none⟩) nw L,.slice (some ⟨gz,0,none⟩) nn K,.int .i64 x.o,.int .i64 x.d,.int .i64 x.s,.int .i64 x.f,.int .i64 x.i,.string ⟨x.tg.toArray⟩,.int .i64 x.l]:=⟨_,rfl⟩
                  have eW:put11 wC.drew gl (j*11) (x,.slice (some ⟨gy,0,none⟩) nw L,.slice (some ⟨gz,0,none⟩) nn K)=wD:=by rw [hwD];rfl
                  have RD:Hid (Rk w0 wD p (.slice (some ⟨gl,0,none⟩) i i) (.slice (some ⟨gw,0,none⟩) lw wcp) (.slice (some ⟨gn,0,none⟩) ln ncp) (M3.set j (x,.slice (some ⟨gy,0,none⟩) nw L,.slice (some ⟨gz,0,none⟩) nn K)) (W.set j (gy,strsC x.ws++List.replicate (L - nw) behS)) (N.set j (gz,intsC x.ns++bhNs nn (K - nn)))):=hidOf (by rw [<-eW];exact (RC.out.out (Lx.Out.drewN (Lx.Out.refl wC) 1)).putL (i:=j) (by omega) (x,.slice (some ⟨gy,0,none⟩) nw L,.slice (some ⟨gz,0,none⟩) nn K))
                  have k0:wD.cell? ⟨p,0,none⟩=some (.slice (some ⟨gl,0,none⟩) i i):=RD.out.cell 0
                  have HBD:Hid (wD.heap[b]? = some (.cells #[.int .i64 x.k,.string ⟨x.nm.toArray⟩,.slice (some ⟨gy,0,none⟩) nw L,.slice (some ⟨gz,0,none⟩) nn K,.int .i64 x.o,.int .i64 x.d,.int .i64 x.s,.int .i64 x.f,.int .i64 x.i,.string ⟨x.tg.toArray⟩,.int .i64 x.l] 42 (0,0))):=hidOf (by rw [<-eW];exact (put11_other hbgl).trans HBC.out)
                  have m0:wD.cell? ⟨b,0,none⟩=some (.int .i64 x.k):=cell_atL HBD.out 0
                  have m1:wD.cell? ⟨b,1,none⟩=some (.string ⟨x.nm.toArray⟩):=cell_atL HBD.out 1
                  have m2:wD.cell? ⟨b,2,none⟩=some (.slice (some ⟨gy,0,none⟩) nw L):=cell_atL HBD.out 2
                  have m3:wD.cell? ⟨b,3,none⟩=some (.slice (some ⟨gz,0,none⟩) nn K):=cell_atL HBD.out 3
                  have m4:wD.cell? ⟨b,4,none⟩=some (.int .i64 x.o):=cell_atL HBD.out 4
                  have m5:wD.cell? ⟨b,5,none⟩=some (.int .i64 x.d):=cell_atL HBD.out 5
                  have m6:wD.cell? ⟨b,6,none⟩=some (.int .i64 x.s):=cell_atL HBD.out 6
                  have m7:wD.cell? ⟨b,7,none⟩=some (.int .i64 x.f):=cell_atL HBD.out 7
                  have m8:wD.cell? ⟨b,8,none⟩=some (.int .i64 x.i):=cell_atL HBD.out 8
                  have m9:wD.cell? ⟨b,9,none⟩=some (.string ⟨x.tg.toArray⟩):=cell_atL HBD.out 9
                  have m10:wD.cell? ⟨b,10,none⟩=some (.int .i64 x.l):=cell_atL HBD.out 10
                  have HKM:=hidOf (And.intro k0 (And.intro m0 (And.intro m1 (And.intro m2 (And.intro m3 (And.intro m4 (And.intro m5 (And.intro m6 (And.intro m7 (And.intro m8 (And.intro m9 (m10))))))))))))
                  have HwD:=hidOf hwD
                  have HTH:Hid (wC.drew.there gl (j*11) 11):=hidOf (RowY.there (M:=M3) (hrow.out (Lx.Out.drewN (Lx.Out.refl wC) 1)) (by omega))
                  clear hwD HBD eW k0 m0 m1 m2 m3 m4 m5 m6 m7 m8 m9 m10
                  skip
                  clear hz hrow hM5 hc5 hd5
                  go_upto_region 36 with fail
                  refine wp_region_held_drew (S:=(fun wx=>wx.cell? ⟨p,0,none⟩=some (.slice (some ⟨gl,0,none⟩) i i)/\wx.cell? ⟨b,0,none⟩=some (.int .i64 x.k)/\wx.cell? ⟨b,1,none⟩=some (.string ⟨x.nm.toArray⟩)/\wx.cell? ⟨b,2,none⟩=some (.slice (some ⟨gy,0,none⟩) nw L)/\wx.cell? ⟨b,3,none⟩=some (.slice (some ⟨gz,0,none⟩) nn K)/\wx.cell? ⟨b,4,none⟩=some (.int .i64 x.o)/\wx.cell? ⟨b,5,none⟩=some (.int .i64 x.d)/\wx.cell? ⟨b,6,none⟩=some (.int .i64 x.s)/\wx.cell? ⟨b,7,none⟩=some (.int .i64 x.f)/\wx.cell? ⟨b,8,none⟩=some (.int .i64 x.i)/\wx.cell? ⟨b,9,none⟩=some (.string ⟨x.tg.toArray⟩)/\wx.cell? ⟨b,10,none⟩=some (.int .i64 x.l))) (by kernel_rfl) ?_ (fun hHeld=>?_)
                  · exact ⟨c0,b0,b1,b2,b3,b4,b5,b6,b7,b8,b9,b10⟩
                  refine tkLB [0,1,2,3,4,5,6] ?_
                  iterate 7 (refine tkLC (v:=?_) rfl rfl (by kernel_rfl) (by kernel_rfl) (by kernel_rfl) (fun _ _ _ h=>h) (by rfl) (by assumption) ?_ ?_;rotate_left;(· (intro w hSw;(try dsimp only at hSw);go_simp;(try with_reducible rfl)));simp only [Act.put,List.setIfInBounds_toArray,List.set_cons_zero,List.set_cons_succ])
                  refine tkLE ?_
                  skip
                  refine wpAnyH_ready (rs:=[7]) (by kernel_rfl) (by simp) ?_
                  refine AllReadyH.cons rfl (fun K7 hK7=>?_) AllReadyH.nil
                  rw [if_pos (by rfl)]
                  refine wp_store_mid 42 (.tmp 263) (.tmp 262) rfl gl (j*11) #[.int .i64 x.k,.string ⟨x.nm.toArray⟩,.slice (some ⟨gy,0,none⟩) nw L,.slice (some ⟨gz,0,none⟩) nn K,.int .i64 x.o,.int .i64 x.d,.int .i64 x.s,.int .i64 x.f,.int .i64 x.i,.string ⟨x.tg.toArray⟩,.int .i64 x.l] (by rfl) (by rfl) HTH.out sizeSt6 (all_oneCell_toArray (by intro v hv;simp only [List.mem_cons,List.not_mem_nil,or_false] at hv;rcases hv with rfl | rfl | rfl | rfl | rfl | rfl | rfl | rfl | rfl | rfl | rfl <;> rfl)) ?_
                  show K7 _ (wC.drew.setCells gl (j*11) [.int .i64 x.k,.string ⟨x.nm.toArray⟩,.slice (some ⟨gy,0,none⟩) nw L,.slice (some ⟨gz,0,none⟩) nn K,.int .i64 x.o,.int .i64 x.d,.int .i64 x.s,.int .i64 x.f,.int .i64 x.i,.string ⟨x.tg.toArray⟩,.int .i64 x.l])
                  rw [<-HwD.out]
                  skip
                  refine hK7.out _ _ HKM.out (fun hHeld=>?_)
                  refine wpAnyH_done (by kernel_rfl) ?_ _
                  clear hHeld HKM c0 b0 b1 b2 b3 b4 b5 b6 b7 b8 b9 b10
                  go_wp2
                  go_roundw
                  case rel=>
                   rw [Hlw.out,Hln.out] at RD
                   exact ⟨j+1,_,_,M3.set j (x,.slice (some ⟨gy,0,none⟩) nw L,.slice (some ⟨gz,0,none⟩) nn K),(W.set j (gy,strsC x.ws++List.replicate (L - nw) behS)),(N.set j (gz,intsC x.ns++bhNs nn (K - nn))),by simp,by omega,RD,hidOf (by rw [List.length_set,List.length_set];exact HWN.out),by rw [List.length_set];exact hWn,by rw [List.length_set];exact hW,HBW5,HBN5,hidOf (by rw [List.length_set];exact HM5.out),HLs⟩
                  case measure=>simp [intOf];omega
       ·
        have hjnI:¬(j:Int)<n:=by omega
        have c0:wr.cell? ⟨p,0,none⟩=some (.slice (some ⟨gl,0,none⟩) i i):=HR.out.cell 0
        have hni:(n:Int)<=i:=by omega
        go_wp2
        go_ret
        have ejn:j=Y.length:=by have:=Hn.out;omega
        exact ⟨gl,i,rfl,wv,nv,M3,W,N,HR.out,HM3.out,HWN.out,hW,hm2,HBW.out,HBN.out,by have:=Hn.out;omega,by have:=Hn.out;omega,by rw [<-ejn];exact HL.out⟩
end Go.Proofs.YtadneimllbfdnaaGreatDoor
