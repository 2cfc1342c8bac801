import Derived.Test.YtadneimllbfdnaaGreatDoorGu29
import Derived.Lib.IndexLaws
namespace Go.Proofs.YtadneimllbfdnaaGreatDoor
open Go.RowKit
set_option linter.unusedVariables false
set_option linter.unusedSimpArgs false
set_option maxRecDepth 20000 in
set_option maxHeartbeats 4000000 in
theorem read_any (w:World) (hpw:Lx.Pow w) (hE:PEnv w) (g off cap:Nat) (ts:List Lx.Tk) (hT:TkR w g off ts) (hgk:∃ cs fr,w.heap[g]? = some (.cells cs 77 fr)) (hc:ts.length<=cap) (hTw:Tw ts) (hN:TkOk ts) (hlen:ts.length<=1000000000) :
  Calls Tryz.prog 14 #[.slice (some ⟨g,off,none⟩) ts.length cap] w fun e w'=>∃ sv,e=.returned (.tuple #[sv,.int .i64 (readQ ts).2.1,.int .i64 (readQ ts).2.2])/\OwQ (w.heap.size+3) sv (readQ ts).1 w'/\Out w w':=by
 have hmf:∀ (fn:Fn) (first cap:Array Value) (w:World),(Instr.makeFunc fn first cap).run Tryz.prog w=.ok (.func fn first cap) w:=fun _ _ _ _=>rfl
 obtain ⟨N,hNN⟩:∃ N,N=w.heap.size:=⟨_,rfl⟩
 have hgl:g<N:=by
  obtain ⟨cs,fr,h⟩:=hgk
  rw [hNN]
  exact (Array.getElem?_eq_some_iff.1 h).1
 obtain ⟨w1,hw1⟩:∃ w1,w1=((w.alloc (.cells #[.slice none 0 0] 24)).alloc (.cells #[.int .i64 0] 3)).alloc (.cells #[.int .i64 0] 32):=⟨_,rfl⟩
 have o1:Out w w1:=by rw [hw1];exact (((Out.refl w).alloc _).alloc _).alloc _
 have s1:w1.heap.size=N+3:=by rw [hw1,size_alloc,size_alloc,size_alloc,hNN]
 have r1:R3 w1 N (.slice none 0 0) (.int .i64 0) (.int .i64 0):=by
  obtain ⟨v1,hv1⟩:∃ v1,v1=w.alloc (.cells #[.slice none 0 0] 24):=⟨_,rfl⟩
  obtain ⟨v2,hv2⟩:∃ v2,v2=v1.alloc (.cells #[.int .i64 0] 3):=⟨_,rfl⟩
  have e1:v1.heap[N]? = some (.cells #[.slice none 0 0] 24 (0,0)):=by rw [hv1,hNN];exact heap_alloc_new w _
  have n1:v1.heap.size=N+1:=by rw [hv1,hNN];exact size_alloc _ _
  have p2:Out v1 v2:=by rw [hv2];exact (Out.refl v1).alloc _
  have e2:v2.heap[N+1]? = some (.cells #[.int .i64 0] 3 (0,0)):=by rw [hv2, <-n1];exact heap_alloc_new v1 _
  have n2:v2.heap.size=N+2:=by rw [hv2,size_alloc,n1]
  have p3:Out v2 w1:=by rw [hw1, <-hv1, <-hv2];exact (Out.refl v2).alloc _
  have e3:w1.heap[N+2]? = some (.cells #[.int .i64 0] 32 (0,0)):=by rw [hw1, <-hv1, <-hv2, <-n2];exact heap_alloc_new v2 _
  exact ⟨(p3.block _ (by omega)).trans ((p2.block _ (by omega)).trans e1),(p3.block _ (by omega)).trans e2,e3⟩
 have CD:=hidOf (directives_any w1)
 rw [s1] at CD
 have CS:Hid (∀ wx,Out w wx->Calls Tryz.prog 25 #[.slice (some ⟨g,off,none⟩) ts.length cap] wx fun e w'=>∃ c:Nat,e=.returned (.int .i64 c)/\c<=ts.length/\Out wx w'):=hidOf (fun wx o=>statementCount_any wx g off cap ts (hT.chg (S:=fun _=>False) (Chg.of_out o) (fun h=>h)) hc hlen)
 obtain ⟨i0,hi,hz0,hz1,hz2⟩:=info_parts infoSt
 have R1:=hidOf r1
 have O1:=hidOf o1
 have Hw1:=hidOf hw1
 have HNN:=hidOf hNN
 have HT:=hidOf hT
 have Hgk:=hidOf hgk
 have HTw:=hidOf hTw
 have HN:=hidOf hN
 have Hpw:=hidOf hpw
 have HE:=hidOf hE
 obtain ⟨n,hn⟩:∃ n,n=ts.length:=⟨_,rfl⟩
 rw [<-hn] at CS hc hlen ⊢
 have Hn:=hidOf hn
 have S1:=hidOf s1
 clear r1 o1 hw1 hNN hT hgk hTw hN hpw hE hn s1
 obtain ⟨X,hX⟩:∃ X,X=readQ ts:=⟨_,rfl⟩
 rw [<-hX]
 have HX:=hidOf hX
 clear hX
 go_enter_defers Tryz.func14,Tryz.ntmps14
 go_upto_region 1 with fail
 rw [<-Hw1.out, <-HNN.out]
 go_upto_region 2 with (first | (go_at_call 24;refine CD.out.mono ?_;rintro e w2 ⟨rfl,hd,ho⟩;have D2:=hidOf hd;have O2:=hidOf ho;clear hd ho) | (go_at_call 25;refine (CS.out _ (O1.out.trans O2.out)).mono ?_;rintro e w3 ⟨C,rfl,hC,ho⟩;have O3:=hidOf ho;have b3:N+3<=w3.heap.size:=(by have:=S1.out;have:=O2.out.size;have:=ho.size;omega);clear ho) | (at_make;refine wpList_make_own _ rfl _ _ 24 rfl (N+3) 42 i0 _ 11 Tryz.underlying24 hi hz0 hz1 _ _ _ C rfl rfl rfl (by rw [hz2];omega) (by unfold maxLen;omega) b3 ?_;intro w4 hown hg4;have W4:=hidOf hown;have G4:=hidOf hg4;clear hown hg4))
 rw [show N+1+1=N+2 from rfl]
 obtain ⟨p,hp⟩:∃ p,p=w4.heap.size:=⟨_,rfl⟩
 obtain ⟨sv,hsv⟩:∃ sv,sv=Value.slice (some ⟨w3.heap.size,0,none⟩) 0 C:=⟨_,rfl⟩
 obtain ⟨w5,hw5⟩:∃ w5,w5=w4.alloc (.cells #[.slice (some ⟨g,off,none⟩) n cap,.map (some (N+3)),.slice (some ⟨w3.heap.size,0,none⟩) 0 C] 74):=⟨_,rfl⟩
 rw [<-hw5, <-hp]
 have o34:Out w3 w4:=Below.grown (Below.refl _ w3) G4.out (Nat.le_refl _) (fun k e=>by cases e)
 have o45:Out w4 w5:=by rw [hw5];exact (Out.refl w4).alloc _
 have b5:w5.heap[p]? = some (.cells #[.slice (some ⟨g,off,none⟩) n cap,.map (some (N+3)),sv] 74 (0,0)):=by rw [hw5,hp,hsv];exact heap_alloc_new w4 _
 have o25:Out w2 w5:=(O3.out.trans o34).trans o45
 have o15:Out w1 w5:=O2.out.trans o25
 have O5:Hid (Out w w5):=hidOf (O1.out.trans o15)
 have hpN:N+3<=p:=by have:=o34.size;omega
 have h5p:p<w5.heap.size:=(Array.getElem?_eq_some_iff.1 b5).1
 have P5:Hid (LS (N+3) w5 w5 p g (N+3) sv [] ts):=hidOf ⟨⟨⟨off,cap,by rw [<-Hn.out];exact b5,HT.out.chg (S:=fun _=>False) (Chg.of_out O5.out) (fun h=>h),by rw [<-Hn.out];exact hc⟩,by
   obtain ⟨cs,fr,h⟩:=Hgk.out
   exact ⟨cs,fr,(O5.out.block g (Array.getElem?_eq_some_iff.1 h).1).trans h⟩,hpN⟩,⟨[],rfl,by rw [hsv];exact owns_chg (S:=fun _=>False) W4.out (fun _ _ h=>h) (Chg.of_out o45),fun y hy=>by cases hy⟩,Chg.refl _ _⟩
 have R5:=hidOf (R1.out.out o15)
 have D5:=hidOf (D2.out.out o25)
 have h53:N+3<=w5.heap.size:=by omega
 clear hp hsv hw5 o34 o45 b5 o25 o15 b3
 go_upto_region 3 with fail
 go_loopw [] (fun wr=>∃ (L:List Stm) (r:List Lx.Tk) (sv':Value) (k:Nat),Hid (LS (N+3) w5 wr p g (N+3) sv' L r)/\Hid (Tw r)/\Hid (TkOk r)/\Hid (rdF ts.length [] ts=rdF k L r)/\r.length<=k/\L.length+r.length<=1000000000) (fun wr=>leftOf p wr)
 case atStart=>exact ⟨[],ts,sv,ts.length,P5,HTw,HN,hidOf rfl,Nat.le_refl _,by rw [<-Hn.out];simpa using hlen⟩
 case round=>
  clear P5 HTw HN hlen
  obtain ⟨L,r,svr,k,HS,HTw,HN,HQ,hrk,hlen⟩:=hrel
  obtain ⟨t,r',rfl⟩:=HTw.out.ne
  obtain ⟨off',cap',hRB,hT',hc'⟩:=HS.out.ps.st
  obtain ⟨q0, -, -, -⟩:=hT' 0 t rfl
  simp only [Nat.zero_mul,Nat.add_zero] at q0
  obtain ⟨m,hm⟩:∃ m,m=(t::r').length:=⟨_,rfl⟩
  have hmI:(1:Int)<=m:=by rw [hm];simp;omega
  rw [<-hm] at hRB
  have c0:wr.cell? ⟨p,0,none⟩=some (.slice (some ⟨g,off',none⟩) m cap'):=by rw [cell_atL hRB];rfl
  have HRB:=hidOf hRB
  have Hm:=hidOf hm
  have RW:=hidOf (R5.out.kq HS.out.ch)
  clear hRB hT' hc' hm
  by_cases hk:t.k=0
  ·
   have hkb:(t.k != 0)=false:=by simp [hk]
   have HEX:Hid (X=(L,0,0)):=hidOf (by
    rw [HX.out]
    unfold readQ
    rw [HQ.out,rd_stop (show kindQ (t::r')=0 from hk)])
   clear hk
   obtain ⟨Y,hY1,hY2,hY3⟩:=HS.out.ow.ex
   obtain ⟨as_,cs_,hsvr⟩:=own_form hY2
   clear hY1 hY2 hY3
   obtain ⟨nl,hnl⟩:∃ nl,nl=L.length:=⟨_,rfl⟩
   rw [<-hnl] at hsvr
   have c2:wr.cell? ⟨p,2,none⟩=some (.slice as_ nl cs_):=by rw [cell_atL HRB.out, <-hsvr];rfl
   have z1:wr.cell? ⟨N,0,none⟩=some (.slice none 0 0):=by rw [cell_atL RW.out.h1];rfl
   have f1:=frozen_atL RW.out.h1 0
   have z2:wr.cell? ⟨N+1,0,none⟩=some (.int .i64 0):=by rw [cell_atL RW.out.h2];rfl
   have f2:=frozen_atL RW.out.h2 0
   have z3:wr.cell? ⟨N+2,0,none⟩=some (.int .i64 0):=by rw [cell_atL RW.out.h3];rfl
   have f3:=frozen_atL RW.out.h3 0
   obtain ⟨wz,hwz⟩:∃ wz,wz=((wr.setCell ⟨N,0,none⟩ (.slice as_ nl cs_)).setCell ⟨N+1,0,none⟩ (.int .i64 0)).setCell ⟨N+2,0,none⟩ (.int .i64 0):=⟨_,rfl⟩
   obtain ⟨rz,cz⟩:=RW.out.set (.slice as_ nl cs_) (.int .i64 0) (.int .i64 0) wz hwz
   have Hwz:=hidOf hwz
   have RZ:=hidOf rz
   have CZ:=hidOf cz
   have Hsv:=hidOf hsvr
   clear hwz rz cz hsvr hnl
   go_wp2
   rw [<-Hwz.out]
   refine leaves_cons (f:=26) (args:=#[.pointer (some ⟨p,0,none⟩),.pointer (some ⟨N,0,none⟩),.pointer (some ⟨N+1,0,none⟩),.pointer (some ⟨N+2,0,none⟩)]) (by simp) (by simp [go_sem]) ?_
   refine (catch_idle6 _ _ _ _ _).mono ?_
   rintro e u' w6 ⟨rfl,rfl,hw6⟩
   subst hw6
   have y1:w6.cell? ⟨N,0,none⟩=some (.slice as_ nl cs_):=by rw [cell_atL RZ.out.h1];rfl
   have y2:w6.cell? ⟨N+1,0,none⟩=some (.int .i64 0):=by rw [cell_atL RZ.out.h2];rfl
   have y3:w6.cell? ⟨N+2,0,none⟩=some (.int .i64 0):=by rw [cell_atL RZ.out.h3];rfl
   have FIN:OwQ (w.heap.size+3) (.slice as_ nl cs_) X.1 w6/\Out w w6:=by
    rw [HEX.out, <-Hsv.out, <-HNN.out]
    exact ⟨HS.out.ow.offs CZ.out (fun x hx=>by omega),Chg.out CZ.out (KQ.out HS.out.ch O5.out (by have:=HNN.out;omega)) (fun x hx=>by have:=HNN.out;omega)⟩
   have e21:X.2.1=0:=by rw [HEX.out]
   have e22:X.2.2=0:=by rw [HEX.out]
   rw [e21,e22]
   simp [Leaves,settle,results,Tryz.results14,go_sem,y1,y2,y3]
   exact FIN
  ·
   have hkb:(t.k != 0)=true:=by simp [hk]
   have hlw:Lw (t::r'):=HTw.out.lw hk
   have hF:=lnQ_f (out:=L) hlw
   have hcl:TkOk (lnQ L (t::r')).rest:=lnQ_cl tkOk_clo HN.out
   obtain ⟨k',rfl⟩:∃ k',k=k' + 1:=⟨k - 1,by simp at hrk;omega⟩
   have HQ1:Hid (rdF ts.length [] ts=(lnQ L (t::r')).bind fun o r=>rdF k' o r):=hidOf (HQ.out.trans (rd_step hk))
   have CL0:=hidOf (line6_any w (N+3) (by have:=HNN.out;omega) Hpw.out HE.out wr (KQ.out HS.out.ch O5.out (by have:=HNN.out;omega)) p g (N+3) svr L (t::r') HS.out.ps HS.out.ow hlw HN.out (D5.out.kq HS.out.ch) (Nat.le_trans h53 HS.out.ch.size) hlen)
   generalize lnQ L (t::r')=Z at CL0 HQ1 hF hcl
   clear hk hlw HQ
   cases Z with
   | ok o r2=>
    obtain ⟨hF1,hF2,hF3⟩:=hF
    have CL:Hid (Calls Tryz.prog 27 #[.pointer (some ⟨p,0,none⟩)] wr fun e w'=>(∃ q,e=.returned q)/\∃ sv',LS (N+3) wr w' p g (N+3) sv' o r2):=hidOf CL0.out
    have HF1:=hidOf hF1
    have HCL:Hid (TkOk r2):=hidOf hcl
    clear hF1 hcl CL0
    go_wp2_with (go_at_call 27;refine CL.out.mono ?_;rintro e wd ⟨⟨qd,rfl⟩,svd,hs⟩;have SD:=hidOf hs;clear hs)
    go_roundw
    case rel=>
     refine ⟨o,r2,svd,k',hidOf ⟨SD.out.ps,SD.out.ow,KQ.chain HS.out.ch SD.out.ch⟩,HF1,HCL,hidOf HQ1.out, ?_, ?_⟩
     · simp only [List.length_cons] at hrk hF2;omega
     · omega
    case measure=>
     rw [SD.out.ps.left,HS.out.ps.left]
     exact hF2
   | no c r2=>
    have HEX:Hid (X=([],lineQ r2,c)):=hidOf (by
     rw [HX.out]
     unfold readQ
     rw [HQ1.out]
     rfl)
    have HF:Hid (Lw r2):=hidOf hF
    have CL:Hid (Calls Tryz.prog 27 #[.pointer (some ⟨p,0,none⟩)] wr fun e w'=>e=.panicked [{ v:=.iface 32 (.int .i64 c),recovered:=false }]/\∃ sv' L',LS (N+3) wr w' p g (N+3) sv' L' r2):=hidOf CL0.out
    clear hF hcl CL0 HQ1
    go_wp2_with (go_at_call 27;refine CL.out.mono ?_;rintro e wd ⟨rfl,svd,Ld,hs⟩;have SD:=hidOf hs;clear hs)
    refine leaves_cons (f:=26) (args:=#[.pointer (some ⟨p,0,none⟩),.pointer (some ⟨N,0,none⟩),.pointer (some ⟨N+1,0,none⟩),.pointer (some ⟨N+2,0,none⟩)]) (by simp) (by simp [go_sem]) ?_
    refine (catch_any6 (N+3) p g (N+3) N svd r2 c wd SD.out.ps HF.out _ _ _ (RW.out.kq SD.out.ch) hgl (by omega)).mono ?_
    rintro e u' w6 ⟨rfl,rfl,rz,cz⟩
    have y1:w6.cell? ⟨N,0,none⟩=some (.slice none 0 0):=by rw [cell_atL rz.h1];rfl
    have y2:w6.cell? ⟨N+1,0,none⟩=some (.int .i64 (lineQ r2)):=by rw [cell_atL rz.h2];rfl
    have y3:w6.cell? ⟨N+2,0,none⟩=some (.int .i64 c):=by rw [cell_atL rz.h3];rfl
    have FIN:OwQ (w.heap.size+3) (.slice none 0 0) X.1 w6/\Out w w6:=by
     rw [HEX.out]
     exact ⟨OwQ.nil _ _,Chg.out cz (KQ.out SD.out.ch (KQ.out HS.out.ch O5.out (by have:=HNN.out;omega)) (by have:=HNN.out;omega)) (fun x hx=>by have:=HNN.out;omega)⟩
    have e21:X.2.1=lineQ r2:=by rw [HEX.out]
    have e22:X.2.2=c:=by rw [HEX.out]
    rw [e21,e22]
    simp [Leaves,settle,results,Tryz.results14,go_sem,y1,y2,y3]
    exact FIN
theorem lw_of:∀ (T:List Lx.Tk) (e:Lx.Tk),¬T=[]->(∀ x ∈ T,¬x.k=0)->Lx.lastK T=some 5->e.k=0->Lw (T++[e])
 | [],_,h,_,_,_=>absurd rfl h
 | [t],e,_,_,hl,he=>by
  have hk:t.k=5:=by simpa [Lx.lastK] using hl
  show if t.k=5 then (if e.k=0 then ([]:List Lx.Tk)=[] else Lw [e]) else _
  rw [if_pos hk,if_pos he]
 | t::u::r,e,_,hx,hl,he=>by
  have hl':Lx.lastK (u::r)=some 5:=by unfold Lx.lastK at hl ⊢;rw [List.getLast?_cons_cons] at hl;exact hl
  have ih:=lw_of (u::r) e (by simp) (fun x hxx=>hx x (List.mem_cons_of_mem _ hxx)) hl' he
  have hu:¬u.k=0:=hx u (by simp)
  show if t.k=5 then (if u.k=0 then (r++[e])=[] else Lw (u::r++[e])) else ¬t.k=0/\Lw (u::r++[e])
  by_cases hk:t.k=5
  · rw [if_pos hk,if_neg hu];exact ih
  · rw [if_neg hk];exact ⟨hx t (by simp),ih⟩
theorem tw_of (T:List Lx.Tk) (e:Lx.Tk) (hx:∀ x ∈ T,¬x.k=0) (hz:T=[]\/Lx.lastK T=some 5) (he:e.k=0):Tw (T++[e]):=by
 cases T with
 | nil=>
  show if e.k=0 then ([]:List Lx.Tk)=[] else _
  rw [if_pos he]
 | cons t r=>
  have hz:Lx.lastK (t::r)=some 5:=by
   rcases hz with hz | hz
   · cases hz
   · exact hz
  have hL:=lw_of (t::r) e (by simp) hx hz he
  show if t.k=0 then (r++[e])=[] else Lw (t::r++[e])
  rw [if_neg (hx t (by simp))]
  exact hL
theorem tok_shape (l:List UInt8) (h:(Lx.tokensP l).2.2=0):Tw (Lx.tokensP l).1/\TkOk (Lx.tokensP l).1/\(Lx.tokensP l).1.length<=33554433:=by
 have hlen:=Lx.tokens_len l
 have hN:=(Lx.forth_P l h).2.1
 suffices hs:Tw (Lx.tokensP l).1/\∀ x ∈ (Lx.tokensP l).1,x.t.length<=70 from ⟨hs.1,fun x hx=>⟨(hN x hx).1,(hN x hx).2.1,hs.2 x hx⟩,hlen⟩
 clear hlen hN
 unfold Lx.tokensP at h ⊢
 by_cases hl:l.length<=16777216
 ·
  rw [if_pos hl] at h ⊢
  by_cases he:(Lx.textD 0 l).1=0
  ·
   rw [if_pos he]
   obtain ⟨hm,hz⟩:=Lx.text_mem l.length 0 l (Lx.textD 0 l).2.1 (Lx.textD 0 l).2.2 (Nat.le_refl _) (by show Lx.textD 0 l=_;rw [<-he])
   refine ⟨tw_of _ _ (fun x hx e=>?_) hz rfl,fun x hx=>?_⟩
   ·
    rcases (hm x hx).2 with hp | hp
    · unfold Lx.isPiece at hp;omega
    · omega
   ·
    rcases List.mem_append.1 hx with hx | hx
    · have:=Lx.may_len (hm x hx).1;omega
    · rw [List.mem_singleton.1 hx];simp
  ·
   rw [if_neg he] at h
   exact absurd h he
 ·
  rw [if_neg hl] at h
  simp at h
theorem tw_mem {p:UInt8->Bool} : ∀ {l:List UInt8} {b:UInt8},b ∈ l.takeWhile p->p b=true
 | [],b,h=>by simp at h
 | c::r,b,h=>by
  rw [List.takeWhile_cons] at h
  cases hc:p c
  · rw [hc] at h;simp at h
  ·
   rw [hc] at h
   simp at h
   rcases h with h | h
   · rw [h];exact hc
   · exact tw_mem h
def ahN:Nat->List UInt8->Nat
 | 0,_=>0
 | k+1,l=>(Lx.cutL l).1.length+1+ahN k (Lx.cutL l).2
theorem cut_split {l:List UInt8} (h:¬(Lx.cutL l).2=[]):l=(Lx.cutL l).1++10::(Lx.cutL l).2/\∀ b ∈ (Lx.cutL l).1,¬b=10:=by
 have e:=List.takeWhile_append_dropWhile (p:=fun b:UInt8=>!(b == 10)) (l:=l)
 unfold Lx.cutL at h ⊢
 simp only at h ⊢
 constructor
 ·
  cases hd:l.dropWhile (fun b=>!(b == 10)) with
  | nil=>rw [hd] at h;simp at h
  | cons c r=>
   have hc:c=10:=by
    have:=List.head?_dropWhile_not (fun b:UInt8=>!(b == 10)) l
    rw [hd] at this
    simpa using this
   rw [hd,hc] at e
   simpa using e.symm
 ·
  intro b hb e2
  have:=tw_mem hb
  rw [e2] at this
  simp at this
theorem cut_app {x y:List UInt8} (h:∀ b ∈ x,¬b=10):Lx.cutL (x++10::y)=(x,y):=by
 have h1:(x++10::y).takeWhile (fun b=>!(b == 10))=x:=by
  rw [List.takeWhile_append_of_pos (fun b hb=>by simpa using h b hb)]
  simp
 have h2:(x++10::y).dropWhile (fun b=>!(b == 10))=10::y:=by
  rw [List.dropWhile_append_of_pos (fun b hb=>by simpa using h b hb)]
  simp
 unfold Lx.cutL
 rw [h1,h2]
 rfl
def BadA (n k:Nat) (l:List UInt8):Prop:=¬(Lx.textD n l).1=0/\(Lx.textD n l).2.1=n+k+1
theorem BadA.step {n k:Nat} {l:List UInt8} (h:BadA n (k+1) l):BadA (n+1) k (Lx.cutL l).2/\¬(Lx.cutL l).2=[]/\(Lx.lineP (Lx.cutL l).1).1=0:=by
 obtain ⟨h1,h2⟩:=h
 have hne:¬l=[]:=fun e=>by rw [e] at h1;exact h1 rfl
 by_cases hz:(Lx.lineP (Lx.cutL l).1).1=0
 ·
  rw [Lx.textD_ok n l hne hz] at h1 h2
  simp only at h1 h2
  exact ⟨⟨h1,by omega⟩,fun e=>by rw [e] at h1;exact h1 rfl,hz⟩
 ·
  rw [Lx.textD_bad n l hne hz] at h2
  simp only at h2
  omega
theorem ahead_ok:∀ (k n:Nat) (l:List UInt8),BadA n k l->ahN k l<=l.length/\(Lx.textD n (l.take (ahN k l))).1=0
 | 0,n,l,_=>by
  refine ⟨Nat.zero_le _, ?_⟩
  show (Lx.textD n (l.take 0)).1=0
  rw [List.take_zero]
  rfl
 | k+1,n,l,h=>by
  obtain ⟨hb,hne,hz⟩:=h.step
  obtain ⟨he,hx⟩:=cut_split hne
  have ih:=ahead_ok k (n+1) _ hb
  generalize hX:(Lx.cutL l).1=x at *
  generalize hY:(Lx.cutL l).2=y at *
  have ha:ahN (k+1) l=x.length+1+ahN k y:=by
   show (Lx.cutL l).1.length+1+ahN k (Lx.cutL l).2=_
   rw [hX,hY]
  rw [ha]
  have htk:l.take (x.length+1+ahN k y)=x++10::y.take (ahN k y):=by
   rw [he,List.take_append,List.take_of_length_le (by omega),show x.length+1+ahN k y - x.length=ahN k y+1 by omega]
   rfl
  refine ⟨by rw [he];simp only [List.length_append,List.length_cons];have:=ih.1;omega, ?_⟩
  rw [htk]
  have hc:=cut_app (y:=y.take (ahN k y)) hx
  rw [Lx.textD_ok n _ (by simp) (by rw [hc];exact hz),hc]
  exact ih.2
theorem text_pos:∀ (n:Nat) (l:List UInt8),¬(Lx.textD n l).1=0->n<(Lx.textD n l).2.1:=by
 intro n l
 unfold Lx.textD
 generalize hf:l.length=f
 clear hf
 induction f generalizing n l with
 | zero=>intro h;exact absurd rfl h
 | succ f ih=>
  cases l with
  | nil=>intro h;exact absurd rfl h
  | cons c r=>
   intro h
   unfold Lx.textF at h ⊢
   by_cases hz:(Lx.lineP (Lx.cutL (c::r)).1).1=0
   ·
    rw [if_pos hz] at h ⊢
    have:=ih (n+1) _ h
    simp only at this ⊢
    omega
   · rw [if_neg hz];simp
def aheadP (l:List UInt8) (n:Int):List UInt8:=l.take (ahN (n - 1).toNat l)
def statsP (l:List UInt8):List Stm × Int × Int:=
 if (Lx.tokensP l).2.2=0 then readQ (Lx.tokensP l).1
 else if (readQ (Lx.tokensP (aheadP l (Lx.tokensP l).2.1)).1).2.2=0 then ([],(Lx.tokensP l).2.1,(Lx.tokensP l).2.2) else readQ (Lx.tokensP (aheadP l (Lx.tokensP l).2.1)).1
theorem bad_at (l:List UInt8) (h:¬(Lx.tokensP l).2.2=0):((Lx.tokensP l).2.1=0/\aheadP l (Lx.tokensP l).2.1=[])\/∃ k:Nat,(Lx.tokensP l).2.1=(k:Int)+1/\BadA 0 k l/\aheadP l (Lx.tokensP l).2.1=l.take (ahN k l)/\l.length<=16777216:=by
 unfold Lx.tokensP at h ⊢
 by_cases hl:l.length<=16777216
 ·
  rw [if_pos hl] at h ⊢
  by_cases he:(Lx.textD 0 l).1=0
  · rw [if_pos he] at h;exact absurd rfl h
  ·
   rw [if_neg he] at h ⊢
   simp only at h ⊢
   have hpos:0<(Lx.textD 0 l).2.1:=text_pos 0 l he
   refine .inr ⟨(Lx.textD 0 l).2.1 - 1,by omega,⟨he,by omega⟩, ?_,hl⟩
   unfold aheadP
   rw [show (((Lx.textD 0 l).2.1:Int) - 1).toNat=(Lx.textD 0 l).2.1 - 1 by omega]
 ·
  rw [if_neg hl] at h ⊢
  refine .inl ⟨rfl, ?_⟩
  unfold aheadP
  rfl
theorem ahead_tok (l:List UInt8) (h:¬(Lx.tokensP l).2.2=0):(Lx.tokensP (aheadP l (Lx.tokensP l).2.1)).2.2=0:=by
 rcases bad_at l h with ⟨_,e⟩ | ⟨k,_,hb,e,hl⟩
 · rw [e];rfl
 ·
  rw [e]
  obtain ⟨h1,h2⟩:=ahead_ok k 0 l hb
  unfold Lx.tokensP
  rw [if_pos (by rw [List.length_take];omega),if_pos h2]
theorem idx_app:∀ (x y:List UInt8),(∀ b ∈ x,¬b=10)->Lib.indexByte (x++10::y) 10=(x.length:Int)
 | [],y,_=>by simp [Lib.indexByte]
 | c::r,y,h=>by
  have ih:=idx_app r y (fun b hb=>h b (List.mem_cons_of_mem _ hb))
  have hc:(c == 10)=false:=by simpa using h c (by simp)
  show (if c == 10 then (0:Int) else if Lib.indexByte (r++10::y) 10 == -1 then -1 else Lib.indexByte (r++10::y) 10+1)=_
  rw [hc,ih]
  have:((r.length:Int) == -1)=false:=by simp
  rw [this]
  simp
set_option maxRecDepth 20000 in
set_option maxHeartbeats 1000000 in
theorem linesAhead_zero (w:World) (b off cap:Nat) (n:Nat) (hcap:n<=cap) (hn:0<n) :
  Calls Tryz.prog 13 #[.slice (some ⟨b,off,none⟩) n cap,.int .i64 0] w fun e w'=>e=.returned (.slice (some ⟨b,off,none⟩) 0 cap)/\w'=w:=by
 have h0:¬cap=0:=by omega
 go_enter Tryz.func13,Tryz.ntmps13
 go_upto_region 3 with fail
 go_loopw [5,8] (fun s i wr=>s=.int .i64 0/\i=.int .i64 0/\wr=w) (fun _ _ _=>0)
 case atStart=>exact ⟨rfl,rfl,rfl⟩
 case round=>
  obtain ⟨rfl,rfl,rfl⟩:=hrel
  go_wp2
  go_ret
  exact ⟨rfl,rfl⟩
set_option maxRecDepth 20000 in
set_option maxHeartbeats 2000000 in
theorem linesAhead_any (w:World) (b off cap k:Nat) (l:List UInt8) (hB:BadA 0 k l) (hcap:l.length<=cap) (hll:l.length<=16777216) (hr:∀ j x,l[j]? = some x->w.cell? ⟨b,off+j,none⟩=some (.int .u8 (x.toNat:Int))) :
  Calls Tryz.prog 13 #[.slice (some ⟨b,off,none⟩) l.length cap,.int .i64 ((k:Int)+1)] w fun e w'=>e=.returned (.slice (some ⟨b,off,none⟩) (ahN k l) cap)/\w'=w:=by
 have hk:k<=16777216:=by
  have hkl:k<=l.length:=by
   have key:∀ (k n:Nat) (l:List UInt8),BadA n k l->k<=l.length:=fun k=>by
    induction k with
    | zero=>intro n l _;exact Nat.zero_le _
    | succ k ih=>
     intro n l h
     obtain ⟨hb,hne,_⟩:=h.step
     obtain ⟨he,_⟩:=cut_split hne
     have:=ih _ _ hb
     rw [he]
     simp only [List.length_append,List.length_cons]
     omega
   exact key k 0 l hB
  omega
 have hpos:0<l.length:=by
  rcases Nat.eq_zero_or_pos l.length with e | e
  ·
   have:l=[]:=List.length_eq_zero_iff.1 e
   subst this
   exact absurd rfl hB.1
  · exact e
 obtain ⟨n,hn⟩:∃ n,n=l.length:=⟨_,rfl⟩
 have Hn:=hidOf hn
 have HB:=hidOf hB
 have HR:=hidOf hr
 obtain ⟨A,hA⟩:∃ A,A=ahN k l:=⟨_,rfl⟩
 rw [<-hA]
 have HA:=hidOf hA
 have hAl:A<=n:=by rw [hA,hn];exact (ahead_ok k 0 l hB).1
 rw [<-hn] at hcap hll hpos ⊢
 have h0:¬cap=0:=by omega
 have hAc:(A:Int)<=cap:=by omega
 clear hn hB hr hA
 go_enter Tryz.func13,Tryz.ntmps13
 go_upto_region 3 with fail
 go_loopw [5,8] (fun s i wr=>∃ (S J:Nat),s=.int .i64 S/\i=.int .i64 J/\J<=k/\wr=w/\Hid (S<=l.length/\S+ahN (k - J) (l.drop S)=ahN k l/\BadA J (k - J) (l.drop S))) (fun _ i _=>k - (intOf i).toNat)
 case atStart=>exact ⟨0,0,rfl,rfl,by omega,rfl,hidOf ⟨Nat.zero_le _,by simp,by simpa using HB.out⟩⟩
 case round=>
  obtain ⟨S,J,rfl,rfl,hJ,rfl,HI⟩:=hrel
  by_cases hlt:J<k
  ·
   have hltI:(J:Int)<k:=by omega
   obtain ⟨hS,hE,hb⟩:=HI.out
   rw [show k - J=(k - J - 1)+1 by omega] at hb
   obtain ⟨hb',hne,_⟩:=hb.step
   obtain ⟨hx1,hx2⟩:=cut_split hne
   obtain ⟨x,hx⟩:∃ x,x=(Lx.cutL (l.drop S)).1:=⟨_,rfl⟩
   obtain ⟨y,hy⟩:∃ y,y=(Lx.cutL (l.drop S)).2:=⟨_,rfl⟩
   rw [<-hx] at hx1 hx2
   rw [<-hy] at hx1 hb'
   obtain ⟨m,hm⟩:∃ m,m=x.length:=⟨_,rfl⟩
   have hlen:n - S=m+1+y.length:=by
    have:=congrArg List.length hx1
    simp only [List.length_drop,List.length_append,List.length_cons] at this
    rw [Hn.out,hm]
    omega
   have hSn:S<=n:=by rw [Hn.out];exact hS
   have CI:Hid (Calls Tryz.prog 23 #[.slice (some ⟨b,off+S,none⟩) (n - S) (cap - S),.int .u8 10] wr fun e w'=>e=.returned (.int .i64 (m:Int))/\w'=wr):=hidOf (by
    have h1:=Tryz.bytes_IndexByte_bytes b (off+S) (cap - S) ⟨(l.drop S).toArray⟩ 10 wr (fun i hi=>by
     have hi':i<(l.drop S).length:=by simpa [ByteArray.size] using hi
     have hg:l[S+i]? = some ((l.drop S)[i]):=by
      rw [<-List.getElem?_drop]
      exact List.getElem?_eq_getElem hi'
     have:=HR.out (S+i) _ hg
     rw [show off+S+i=off+(S+i) by omega]
     exact this)
    rw [show (⟨(l.drop S).toArray⟩:ByteArray).size=n - S by show (l.drop S).toArray.size=_;rw [List.size_toArray,List.length_drop,Hn.out]] at h1
    refine h1.mono ?_
    rintro e w' ⟨he,hw⟩
    refine ⟨?_,hw⟩
    rw [he]
    show Ending.returned (.int .i64 (Lib.indexByte (l.drop S) 10))=_
    rw [hx1,idx_app x y hx2,hm])
   have HE2:Hid (S+(m+1)<=l.length/\S+(m+1)+ahN (k - (J+1)) (l.drop (S+(m+1)))=ahN k l/\BadA (J+1) (k - (J+1)) (l.drop (S+(m+1)))):=hidOf (by
    have hd:l.drop (S+(m+1))=y:=by
     rw [<-List.drop_drop,hx1,hm,List.drop_append]
     simp
    rw [hd]
    refine ⟨by rw [<-Hn.out];omega, ?_, ?_⟩
    ·
     rw [<-hE]
     rw [show k - J=(k - J - 1)+1 by omega]
     show _=S+((Lx.cutL (l.drop S)).1.length+1+ahN (k - J - 1) (Lx.cutL (l.drop S)).2)
     rw [<-hx, <-hy, <-hm,show k - (J+1)=k - J - 1 by omega]
     omega
    ·
     rw [show k - (J+1)=k - J - 1 by omega]
     exact hb')
   have hmI:(m:Int)+1<=n - S:=by omega
   have hSI:(S:Int)<=n:=by omega
   have hSc:(S:Int)<cap:=by omega
   have hSc':S<cap:=by omega
   clear HI hb hb' hne hx1 hx2 hx hy hm hE hS hlen
   go_wp2_with (go_at_call 23;refine CI.out.mono ?_;rintro e w2 ⟨rfl,hw2⟩;subst hw2)
   go_roundw
   case rel=>exact ⟨S+(m+1),J+1,by simp,by simp,by omega,trivial,HE2⟩
   case measure=>simp [intOf];omega
  ·
   have e:J=k:=by omega
   subst e
   have hSA:S=A:=by
    have:=HI.out.2.1
    rw [Nat.sub_self] at this
    rw [HA.out, <-this]
    rfl
   subst hSA
   go_wp2
   go_ret
   exact ⟨rfl,rfl⟩
end Go.Proofs.YtadneimllbfdnaaGreatDoor
