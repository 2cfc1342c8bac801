import Derived.Test.YtadneimllbfdnaaGreatDoorGu40
import Derived.Test.YtadneimllbfdnaaGreatDoorGu41
namespace Go.Proofs.YtadneimllbfdnaaGreatDoor
open Go.RowKit
set_option linter.unusedVariables false
set_option linter.unusedSimpArgs false
set_option maxRecDepth 8000 in
set_option maxHeartbeats 4000000 in
theorem lawful4_any (L:List UInt8) (sh op off imm o d s f i:Int) (h0:0<=op) (h1:op<=1000) (s1:1<=sh) (s2:sh<=12) (w:World):Calls Tryz.prog 92 #[.agg #[.string ⟨L.toArray⟩,.int .i64 sh,.int .i64 op,.int .i64 off,.int .i64 imm],.agg #[.int .i64 o,.int .i64 d,.int .i64 s,.int .i64 f,.int .i64 i]] w fun e w'=>e=.returned (.bool (lawR ⟨L,sh,op,off,imm⟩ o d s f i))/\Out w w':=by
 have CU:=hidOf (fun wx=>uses4_any L sh op off imm o d s f i h0 h1 s1 s2 wx)
 have HL:Hid (lawR ⟨L,sh,op,off,imm⟩ o d s f i=((d == 0 || (usR ⟨L,sh,op,off,imm⟩ o).1 && inR d 0 10) && (s == 0 || (usR ⟨L,sh,op,off,imm⟩ o).2.1 && inR s 0 10 || s == 1 && (sh == 9 || sh == 12)) && (f == off || (usR ⟨L,sh,op,off,imm⟩ o).2.2.1 && inR f (-32768) 32767) && ((usR ⟨L,sh,op,off,imm⟩ o).2.2.2 && (inR i (-2147483648) 2147483647 || sh == 11) || !(usR ⟨L,sh,op,off,imm⟩ o).2.2.2 && i == imm))):=hidOf rfl
 generalize lawR ⟨L,sh,op,off,imm⟩ o d s f i=RES at *
 generalize (usR ⟨L,sh,op,off,imm⟩ o).1=u0 at *
 generalize (usR ⟨L,sh,op,off,imm⟩ o).2.1=u1 at *
 generalize (usR ⟨L,sh,op,off,imm⟩ o).2.2.1=u2 at *
 generalize (usR ⟨L,sh,op,off,imm⟩ o).2.2.2=u3 at *
 obtain ⟨X0,hX0⟩:∃ X0,X0=inR d 0 10:=⟨_,rfl⟩
 obtain ⟨X1,hX1⟩:∃ X1,X1=inR s 0 10:=⟨_,rfl⟩
 obtain ⟨X2,hX2⟩:∃ X2,X2=inR f (-32768) 32767:=⟨_,rfl⟩
 obtain ⟨X3,hX3⟩:∃ X3,X3=inR i (-2147483648) 2147483647:=⟨_,rfl⟩
 have CX0:Hid (∀ wx,Calls Tryz.prog 131 #[.int .i64 d,.int .i64 0,.int .i64 10] wx fun e w'=>e=.returned (.bool X0)/\wx=w'):=hidOf (fun wx=>by rw [hX0];exact within4 d 0 10 wx)
 have CX1:Hid (∀ wx,Calls Tryz.prog 131 #[.int .i64 s,.int .i64 0,.int .i64 10] wx fun e w'=>e=.returned (.bool X1)/\wx=w'):=hidOf (fun wx=>by rw [hX1];exact within4 s 0 10 wx)
 have CX2:Hid (∀ wx,Calls Tryz.prog 131 #[.int .i64 f,.int .i64 (-32768),.int .i64 32767] wx fun e w'=>e=.returned (.bool X2)/\wx=w'):=hidOf (fun wx=>by rw [hX2];exact within4 f (-32768) 32767 wx)
 have CX3:Hid (∀ wx,Calls Tryz.prog 131 #[.int .i64 i,.int .i64 (-2147483648),.int .i64 2147483647] wx fun e w'=>e=.returned (.bool X3)/\wx=w'):=hidOf (fun wx=>by rw [hX3];exact within4 i (-2147483648) 2147483647 wx)
 rw [<-hX0, <-hX1, <-hX2, <-hX3] at HL
 clear hX0 hX1 hX2 hX3
 obtain ⟨D0,hD0⟩:∃ D0,D0=(d == 0 || u0 && X0):=⟨_,rfl⟩
 obtain ⟨D1,hD1⟩:∃ D1,D1=(s == 0 || u1 && X1 || s == 1 && (sh == 9 || sh == 12)):=⟨_,rfl⟩
 obtain ⟨D2,hD2⟩:∃ D2,D2=(f == off || u2 && X2):=⟨_,rfl⟩
 obtain ⟨D3,hD3⟩:∃ D3,D3=(u3 && (X3 || sh == 11) || !u3 && i == imm):=⟨_,rfl⟩
 rw [<-hD0, <-hD1, <-hD2, <-hD3] at HL
 have HD0:=hidOf hD0
 have HD1:=hidOf hD1
 have HD2:=hidOf hD2
 have HD3:=hidOf hD3
 clear hD0 hD1 hD2 hD3 s1 s2
 go_enter Tryz.func92,Tryz.ntmps92
 go_upto_region 1 with fail
 obtain ⟨wB,hwB⟩:∃ wB,wB=(w.alloc (.cells #[.string ⟨L.toArray⟩,.int .i64 sh,.int .i64 op,.int .i64 off,.int .i64 imm] 111)).alloc (.cells #[.int .i64 o,.int .i64 d,.int .i64 s,.int .i64 f,.int .i64 i] 40):=⟨_,rfl⟩
 obtain ⟨qi,hqi⟩:∃ qi,qi=w.heap.size+1:=⟨_,rfl⟩
 obtain ⟨qr,hqr⟩:∃ qr,qr=w.heap.size:=⟨_,rfl⟩
 have hRI:RI wB qr qi L sh op off imm o d s f i:=by rw [hwB,hqi,hqr];exact RI.new w L sh op off imm o d s f i
 have oB:Out w wB:=by rw [hwB];exact ((Out.refl w).alloc _).alloc _
 rw [<-hwB, <-hqi, <-hqr]
 have HRI:=hidOf hRI
 have OB:=hidOf oB
 obtain ⟨⟨a0,a1,a2,a3,a4⟩,b0,b1,b2,b3,b4⟩:=hRI.cells
 clear hwB hqi hqr hRI oB
 go_upto_region 2 with (go_at_call 130;refine (CU.out _).mono ?_;rintro e w1 ⟨rfl,ho⟩;have O1:=hidOf ho;clear ho)
 obtain ⟨qu,hqu⟩:∃ qu,qu=w1.heap.size:=⟨_,rfl⟩
 obtain ⟨wU,hwU⟩:∃ wU,wU=w1.alloc (.cells #[.bool u0,.bool u1,.bool u2,.bool u3] 171):=⟨_,rfl⟩
 have hU:wU.heap[qu]? = some (.cells #[.bool u0,.bool u1,.bool u2,.bool u3] 171 (0,0)):=by rw [hwU,hqu];exact heap_alloc_new w1 _
 have oU:Out wB wU:=by rw [hwU];exact O1.out.alloc _
 rw [<-hwU, <-hqu]
 have OU:=hidOf (OB.out.trans oU)
 clear a0 a1 a2 a3 a4 b0 b1 b2 b3 b4
 obtain ⟨⟨a0,a1,a2,a3,a4⟩,b0,b1,b2,b3,b4⟩:=(HRI.out.on oU).cells
 have v0:wU.cell? ⟨qu,0,none⟩=some (.bool u0):=by rw [cell_atL hU];rfl
 have v1:wU.cell? ⟨qu,1,none⟩=some (.bool u1):=by rw [cell_atL hU];rfl
 have v2:wU.cell? ⟨qu,2,none⟩=some (.bool u2):=by rw [cell_atL hU];rfl
 have v3:wU.cell? ⟨qu,3,none⟩=some (.bool u3):=by rw [cell_atL hU];rfl
 clear hqu hwU hU oU O1 OB HRI CU
 go_cut [6] (fun s6 wx=>s6=.bool D0/\wU=wx)
 case first=>
  cases k1:(d == 0) <;> cases u0 <;> cases X0
  all_goals
   go_wp2_with (go_at_call 131;refine (CX0.out _).mono ?_;rintro e w2 ⟨rfl,hw⟩;subst hw)
   go_meet
   exact ⟨by rw [HD0.out,k1];rfl,rfl⟩
 case rest=>
  obtain ⟨rfl,rfl⟩:=hcut
  go_upto_region 3 with fail
  go_cut [7] (fun s7 wx=>s7=.bool D1/\wU=wx)
  case first=>
   cases k1:(s == 0) <;> cases u1 <;> cases X1 <;> cases k2:(s == 1) <;> cases k3:(sh == 9)
   all_goals
    go_wp2_with (go_at_call 131;refine (CX1.out _).mono ?_;rintro e w2 ⟨rfl,hw⟩;subst hw)
    go_meet
    exact ⟨by rw [HD1.out,k1,k2,k3];rfl,rfl⟩
  case rest=>
   obtain ⟨rfl,rfl⟩:=hcut
   go_upto_region 4 with fail
   go_cut [8] (fun s8 wx=>s8=.bool D2/\wU=wx)
   case first=>
    cases k1:(f == off) <;> cases u2 <;> cases X2
    all_goals
     go_wp2_with (go_at_call 131;refine (CX2.out _).mono ?_;rintro e w2 ⟨rfl,hw⟩;subst hw)
     go_meet
     exact ⟨by rw [HD2.out,k1];rfl,rfl⟩
   case rest=>
    obtain ⟨rfl,rfl⟩:=hcut
    go_upto_region 5 with fail
    go_cut [9] (fun s9 wx=>s9=.bool D3/\wU=wx)
    case first=>
     cases u3 <;> cases X3 <;> cases k1:(sh == 11)
     all_goals
      go_wp2_with (go_at_call 131;refine (CX3.out _).mono ?_;rintro e w2 ⟨rfl,hw⟩;subst hw)
      go_meet
      exact ⟨by rw [HD3.out,k1];rfl,rfl⟩
    case rest=>
     obtain ⟨rfl,rfl⟩:=hcut
     cases D0 <;> cases D1 <;> cases D2
     all_goals
      go_wp2
      go_ret
      exact ⟨by rw [HL.out];rfl,OU.out⟩
theorem sizeRw4:(Tryz.prog.info? 111).map (·.size)=some 5:=by kernel_rfl
theorem set5b_heap {w:World} {b:Nat} {t:TypeId} {x0 x1 x2 x3 x4 a0 a1 a2 a3 a4:Value} (h:w.heap[b]? = some (.cells #[a0,a1,a2,a3,a4] t (0,0))):(((((w.setCell ⟨b,0,none⟩ x0).setCell ⟨b,1,none⟩ x1).setCell ⟨b,2,none⟩ x2).setCell ⟨b,3,none⟩ x3).setCell ⟨b,4,none⟩ x4).heap[b]? = some (.cells #[x0,x1,x2,x3,x4] t (0,0)):=by
 simp [World.setCell,Array.getElem?_modify,h]
theorem set5_out {w0 w:World} {b:Nat} {x0 x1 x2 x3 x4:Value} (h:Out w0 w) (hb:w0.heap.size<=b):Out w0 (((((w.setCell ⟨b,0,none⟩ x0).setCell ⟨b,1,none⟩ x1).setCell ⟨b,2,none⟩ x2).setCell ⟨b,3,none⟩ x3).setCell ⟨b,4,none⟩ x4):=Out.setCell (Out.setCell (Out.setCell (Out.setCell (Out.setCell h hb _) hb _) hb _) hb _) hb _
theorem rowsC_get {R:List Rw} {k:Nat} {r:Rw} (h:R[k]? = some r) (j:Nat) (hj:j<5):(rowsC R)[k*5+j]? = r.cs[j]?:=by
 have hi:=(List.getElem?_eq_some_iff.1 h).1
 have e:R=R.take k++(r::R.drop (k+1)):=by
  have:=List.take_append_drop k R
  rw [List.drop_eq_getElem_cons hi] at this
  rw [(List.getElem?_eq_some_iff.1 h).2] at this
  exact this.symm
 rw [e,rowsC_app,List.getElem?_append_right (by rw [rowsC_len,List.length_take];omega),rowsC_len,List.length_take,Nat.min_eq_left (by omega),show k*5+j - k*5=j by omega]
 show (r.cs++rowsC _)[j]? = _
 rw [List.getElem?_append_left (by simp [Rw.cs];omega)]
theorem rows_at {B:Nat} {w:World} {a:Option Addr} {n c:Nat} {R:List Rw} (h:w.ownsRow B 111 5 (.slice a n c) n (rowsC R)) {k:Nat} {r:Rw} (hr:R[k]? = some r) (hn:R.length=n):∃ g,a=some ⟨g,0,none⟩/\w.cell? ⟨g,k*5,none⟩=some (.string ⟨r.w.toArray⟩)/\w.cell? ⟨g,k*5+1,none⟩=some (.int .i64 r.sh)/\w.cell? ⟨g,k*5+2,none⟩=some (.int .i64 r.op)/\w.cell? ⟨g,k*5+3,none⟩=some (.int .i64 r.off)/\w.cell? ⟨g,k*5+4,none⟩=some (.int .i64 r.imm):=by
 have hk:=(List.getElem?_eq_some_iff.1 hr).1
 rcases h.2 with ⟨_,h0⟩ | ⟨g,cap,cur,e,_⟩
 · omega
 ·
  have e2:=e
  simp only [Value.slice.injEq] at e2
  have key:∀ j u,j<5->r.cs[j]? = some u->w.cell? ⟨g,k*5+j,none⟩=some u:=fun j u hj hu=>by
   have:=World.ownsRow.cells h (g:=g) (by rw [e];rfl) (k*5+j) u (by rw [rowsC_get hr j hj];exact hu)
   rw [Go.WideShapes.add_plain,Nat.zero_add] at this
   exact this
  exact ⟨g,e2.1,key 0 _ (by omega) rfl,key 1 _ (by omega) rfl,key 2 _ (by omega) rfl,key 3 _ (by omega) rfl,key 4 _ (by omega) rfl⟩
def FndE (x:Option Rw) (em:Bool) (e:Ending):Prop:=(∃ r,x=some r/\e=.returned (.tuple #[.agg #[.string ⟨r.w.toArray⟩,.int .i64 r.sh,.int .i64 r.op,.int .i64 r.off,.int .i64 r.imm],.int .i64 0]))\/(x=none/\e=.returned (.tuple #[.agg #[.string ⟨#[]⟩,.int .i64 0,.int .i64 0,.int .i64 0,.int .i64 0],.int .i64 (if em then 20 else 21)]))
theorem row_bd:∀ r ∈ rowsAll,0<=r.op/\r.op<=1000/\1<=r.sh/\r.sh<=12:=by decide +kernel
set_option maxRecDepth 20000 in
set_option maxHeartbeats 4000000 in
theorem find4_any (o d s f i:Int) (w:World):Calls Tryz.prog 63 #[.agg #[.int .i64 o,.int .i64 d,.int .i64 s,.int .i64 f,.int .i64 i]] w fun e w'=>FndE (findR o d s f i) (pickO o).isEmpty e/\Out w w':=by
 have hP:(pickO o).length<=107:=Nat.le_trans (List.length_filter_le _ _) (by decide)
 have CP:=hidOf (fun wx=>picked4_any wx o)
 obtain ⟨PO,hPO⟩:∃ PO,PO=pickO o:=⟨_,rfl⟩
 have HB:Hid (∀ r ∈ PO,0<=r.op/\r.op<=1000/\1<=r.sh/\r.sh<=12):=hidOf (fun r hr=>row_bd r (by rw [hPO] at hr;exact (List.mem_filter.1 hr).1))
 have HF0:Hid (findR o d s f i=(PO.drop 0).find? (fun r=>ofR r o s f i && lawR r o d s f i)):=hidOf (by rw [hPO];rfl)
 rw [<-hPO] at CP hP ⊢
 obtain ⟨n,hn⟩:∃ n,PO.length=n:=⟨_,rfl⟩
 rw [hn] at CP hP
 have Hn:=hidOf hn
 have HE:Hid (PO.isEmpty=decide (n=0)):=hidOf (by rw [<-hn];cases PO <;> simp)
 generalize findR o d s f i=FR at *
 generalize PO.isEmpty=EM at *
 clear hPO hn
 go_enter Tryz.func63,Tryz.ntmps63
 go_upto_region 1 with fail
 obtain ⟨wC,hwC⟩:∃ wC,wC=(w.alloc (.cells #[.int .i64 o,.int .i64 d,.int .i64 s,.int .i64 f,.int .i64 i] 40)).alloc (.cells #[.string ⟨#[]⟩,.int .i64 0,.int .i64 0,.int .i64 0,.int .i64 0] 111):=⟨_,rfl⟩
 obtain ⟨qR,hqR⟩:∃ qR,qR=w.heap.size+1:=⟨_,rfl⟩
 obtain ⟨q,hq⟩:∃ q,q=w.heap.size:=⟨_,rfl⟩
 have hI:wC.heap[q]? = some (.cells #[.int .i64 o,.int .i64 d,.int .i64 s,.int .i64 f,.int .i64 i] 40 (0,0)):=by rw [hwC,hq];exact blk_out ((Out.refl _).alloc _) (heap_alloc_new w _)
 have hRr:wC.heap[qR]? = some (.cells #[.string ⟨#[]⟩,.int .i64 0,.int .i64 0,.int .i64 0,.int .i64 0] 111 (0,0)):=by
  rw [hwC,hqR, <-size_alloc w (.cells #[.int .i64 o,.int .i64 d,.int .i64 s,.int .i64 f,.int .i64 i] 40)]
  exact heap_alloc_new _ _
 have oC:Out w wC:=by rw [hwC];exact ((Out.refl w).alloc _).alloc _
 have hqs:w.heap.size<=qR:=by omega
 rw [<-hwC, <-hqR, <-hq]
 have HI:=hidOf hI
 have HRr:=hidOf hRr
 have OC:=hidOf oC
 have Hqs:=hidOf hqs
 have i0:wC.cell? ⟨q,0,none⟩=some (.int .i64 o):=by rw [cell_atL hI];rfl
 clear hwC hqR hq hI hRr oC hqs
 go_upto_region 2 with (go_at_call 90;refine (CP.out _).mono ?_;rintro e w1 ⟨a,c,rfl,hown,ho⟩;have OW:=hidOf hown;have O1:=hidOf ho;clear hown ho)
 clear i0
 have HI1:=hidOf (blk_out O1.out HI.out)
 have HR1:=hidOf (blk_out O1.out HRr.out)
 go_wp2
 go_loopw [5] (fun kv wr=>∃ k:Nat,kv=.int .i64 k/\k<=n/\Hid (Out w1 wr)/\Hid (FR=(PO.drop k).find? (fun r=>ofR r o s f i && lawR r o d s f i))) (fun kv _=>n - (intOf kv).toNat)
 case atStart=>exact ⟨0,rfl,by omega,hidOf (Out.refl _),HF0⟩
 case round=>
  clear HF0
  obtain ⟨k,rfl,hk,HO,HF⟩:=hrel
  by_cases hlt:k<n
  ·
   have hltI:(k:Int)<n:=by omega
   have hk0:(0:Int)<=k:=by omega
   obtain ⟨r,hr⟩:∃ r,PO[k]? = some r:=⟨_,List.getElem?_eq_getElem (by rw [Hn.out];exact hlt)⟩
   obtain ⟨p0,p1,p2,p3⟩:=HB.out r (List.mem_of_getElem? hr)
   obtain ⟨g,rfl,c0,c1,c2,c3,c4⟩:=rows_at OW.out hr Hn.out
   have hcap:(n:Int)<=c:=by
    rcases OW.out.2 with ⟨hv,_⟩ | ⟨g3,cap3,cur3,hv,_,_,hc3,_⟩
    · cases hv
    · simp only [Value.slice.injEq] at hv;omega
   have hdr:PO.drop k=r::PO.drop (k+1):=by
    obtain ⟨h1,h2⟩:=List.getElem?_eq_some_iff.1 hr
    rw [List.drop_eq_getElem_cons h1,h2]
   obtain ⟨L,sh,op,off,imm⟩:=r
   simp only at c0 c1 c2 c3 c4 p0 p1 p2 p3
   have HFs:Hid (FR=if (ofR ⟨L,sh,op,off,imm⟩ o s f i && lawR ⟨L,sh,op,off,imm⟩ o d s f i)=true then some ⟨L,sh,op,off,imm⟩ else (PO.drop (k+1)).find? (fun r=>ofR r o s f i && lawR r o d s f i)):=hidOf (by
    have h:=HF.out
    rw [hdr,find_two] at h
    exact h)
   have CF:=hidOf (fun wx=>of4_any L sh op off imm o d s f i p0 p1 wx)
   have CL:=hidOf (fun wx=>lawful4_any L sh op off imm o d s f i p0 p1 p2 p3 wx)
   have HC:Hid (∀ wx,Out w1 wx->wx.cell? ⟨g,k*5,none⟩=some (.string ⟨L.toArray⟩)/\wx.cell? ⟨g,k*5+1,none⟩=some (.int .i64 sh)/\wx.cell? ⟨g,k*5+2,none⟩=some (.int .i64 op)/\wx.cell? ⟨g,k*5+3,none⟩=some (.int .i64 off)/\wx.cell? ⟨g,k*5+4,none⟩=some (.int .i64 imm)/\wx.cell? ⟨q,0,none⟩=some (.int .i64 o)/\wx.cell? ⟨q,1,none⟩=some (.int .i64 d)/\wx.cell? ⟨q,2,none⟩=some (.int .i64 s)/\wx.cell? ⟨q,3,none⟩=some (.int .i64 f)/\wx.cell? ⟨q,4,none⟩=some (.int .i64 i)):=hidOf (fun wx ox=>⟨cell_later ox c0,cell_later ox c1,cell_later ox c2,cell_later ox c3,cell_later ox c4,by rw [cell_atL (blk_out ox HI1.out)];rfl,by rw [cell_atL (blk_out ox HI1.out)];rfl,by rw [cell_atL (blk_out ox HI1.out)];rfl,by rw [cell_atL (blk_out ox HI1.out)];rfl,by rw [cell_atL (blk_out ox HI1.out)];rfl⟩)
   clear HF hr hdr c0 c1 c2 c3 c4 p0 p1 p2 p3
   have HC0:=HC.out wr HO.out
   go_upto_region 5 with fail
   cases hof:ofR ⟨L,sh,op,off,imm⟩ o s f i
   ·
    rw [hof] at CF HFs
    simp only [Bool.false_and,Bool.false_eq_true,if_false] at HFs
    refine wp_region_held_drew (S:=(fun w'=>w'.cell? ⟨g,k*5,none⟩=some (.string ⟨L.toArray⟩)/\w'.cell? ⟨g,k*5+1,none⟩=some (.int .i64 sh)/\w'.cell? ⟨g,k*5+2,none⟩=some (.int .i64 op)/\w'.cell? ⟨g,k*5+3,none⟩=some (.int .i64 off)/\w'.cell? ⟨g,k*5+4,none⟩=some (.int .i64 imm)/\w'.cell? ⟨q,0,none⟩=some (.int .i64 o)/\w'.cell? ⟨q,1,none⟩=some (.int .i64 d)/\w'.cell? ⟨q,2,none⟩=some (.int .i64 s)/\w'.cell? ⟨q,3,none⟩=some (.int .i64 f)/\w'.cell? ⟨q,4,none⟩=some (.int .i64 i))) (by kernel_rfl) ?_ (fun hHeld=>?_)
    · exact HC0
    refine tkLB [0,1,2,3,4] ?_
    iterate 5 (refine tkLC (v:=?_) rfl rfl (by kernel_rfl) (by kernel_rfl) (by kernel_rfl) (fun _ _ _ h=>h) (by rfl) (by assumption) ?_ ?_;rotate_left;(· (intro w hSw;(try dsimp only at hSw);go_simp;(try with_reducible rfl)));simp only [Act.put,List.setIfInBounds_toArray,List.set_cons_zero,List.set_cons_succ])
    refine tkLE ?_
    refine wpAnyH_ready (rs:=[5]) (by kernel_rfl) (by simp) ?_
    refine AllReadyH.cons rfl (fun K5 hK5=>?_) AllReadyH.nil
    rw [if_pos (by rfl)]
    go_simp
    go_at_call 91
    refine (CF.out _).mono ?_
    rintro e u1 ⟨rfl,h2⟩
    have Ou1:=hidOf (Out.trans ((Out.refl wr).dN 1) h2)
    have HC1:=HC.out u1 (HO.out.trans Ou1.out)
    refine hK5.out _ _ HC1 (fun hHeld5=>?_)
    clear h2
    refine tkLB [6] ?_
    iterate 1 (refine tkLC (v:=?_) rfl rfl (by kernel_rfl) (by kernel_rfl) (by kernel_rfl) (fun _ _ _ h=>h) (by rfl) (by assumption) ?_ ?_;rotate_left;(· (intro w hSw;(try dsimp only at hSw);go_simp;(try with_reducible rfl)));simp only [Act.put,List.setIfInBounds_toArray,List.set_cons_zero,List.set_cons_succ])
    refine tkLE ?_
    refine wpAnyH_take (i:=7) (v:=undef) rfl (by kernel_rfl) (by kernel_rfl) (by kernel_rfl) (fun _ _ _ h=>h) (Or.inr ⟨by rfl,rfl⟩) (by assumption) ?_
    show wpAnyH _ _ _ _ _ _ _ (Act.put _ (some 23) _) _
    simp only [Act.put,List.setIfInBounds_toArray,List.set_cons_zero,List.set_cons_succ]
    refine wpAnyH_take (i:=8) (v:=undef) rfl (by kernel_rfl) (by kernel_rfl) (by kernel_rfl) (fun _ _ _ h=>h) (Or.inr ⟨by rfl,rfl⟩) (by assumption) ?_
    show wpAnyH _ _ _ _ _ _ _ (Act.put _ (some 24) _) _
    simp only [Act.put,List.setIfInBounds_toArray,List.set_cons_zero,List.set_cons_succ]
    refine wpAnyH_take (i:=9) (v:=undef) rfl (by kernel_rfl) (by kernel_rfl) (by kernel_rfl) (fun _ _ _ h=>h) (Or.inr ⟨by rfl,rfl⟩) (by assumption) ?_
    show wpAnyH _ _ _ _ _ _ _ (Act.put _ (some 25) _) _
    simp only [Act.put,List.setIfInBounds_toArray,List.set_cons_zero,List.set_cons_succ]
    refine wpAnyH_take (i:=10) (v:=undef) rfl (by kernel_rfl) (by kernel_rfl) (by kernel_rfl) (fun _ _ _ h=>h) (Or.inr ⟨by rfl,rfl⟩) (by assumption) ?_
    show wpAnyH _ _ _ _ _ _ _ (Act.put _ (some 26) _) _
    simp only [Act.put,List.setIfInBounds_toArray,List.set_cons_zero,List.set_cons_succ]
    refine wpAnyH_take (i:=11) (v:=undef) rfl (by kernel_rfl) (by kernel_rfl) (by kernel_rfl) (fun _ _ _ h=>h) (Or.inr ⟨by rfl,rfl⟩) (by assumption) ?_
    show wpAnyH _ _ _ _ _ _ _ (Act.put _ (some 27) _) _
    simp only [Act.put,List.setIfInBounds_toArray,List.set_cons_zero,List.set_cons_succ]
    refine wpAnyH_take (i:=12) (v:=undef) rfl (by kernel_rfl) (by kernel_rfl) (by kernel_rfl) (fun _ _ _ h=>h) (Or.inr ⟨by rfl,rfl⟩) (by assumption) ?_
    show wpAnyH _ _ _ _ _ _ _ (Act.put _ (some 28) _) _
    simp only [Act.put,List.setIfInBounds_toArray,List.set_cons_zero,List.set_cons_succ]
    refine tkLB [13] ?_
    iterate 1 (refine tkLC (v:=?_) rfl rfl (by kernel_rfl) (by kernel_rfl) (by kernel_rfl) (fun _ _ _ h=>h) (by rfl) (by assumption) ?_ ?_;rotate_left;(· (intro w hSw;(try dsimp only at hSw);go_simp;(try with_reducible rfl)));simp only [Act.put,List.setIfInBounds_toArray,List.set_cons_zero,List.set_cons_succ])
    refine tkLE ?_
    refine wpAnyH_done (by kernel_rfl) ?_ _
    go_wp2
    go_roundw
    case rel=>exact ⟨k+1,by simp,by omega,hidOf (HO.out.trans Ou1.out),hidOf HFs.out⟩
    case measure=>simp [intOf];omega
   ·
    rw [hof] at CF HFs
    cases hlw:lawR ⟨L,sh,op,off,imm⟩ o d s f i
    ·
     rw [hlw] at CL HFs
     simp only [Bool.and_false,Bool.false_eq_true,if_false] at HFs
     refine wp_region_held_drew (S:=(fun w'=>w'.cell? ⟨g,k*5,none⟩=some (.string ⟨L.toArray⟩)/\w'.cell? ⟨g,k*5+1,none⟩=some (.int .i64 sh)/\w'.cell? ⟨g,k*5+2,none⟩=some (.int .i64 op)/\w'.cell? ⟨g,k*5+3,none⟩=some (.int .i64 off)/\w'.cell? ⟨g,k*5+4,none⟩=some (.int .i64 imm)/\w'.cell? ⟨q,0,none⟩=some (.int .i64 o)/\w'.cell? ⟨q,1,none⟩=some (.int .i64 d)/\w'.cell? ⟨q,2,none⟩=some (.int .i64 s)/\w'.cell? ⟨q,3,none⟩=some (.int .i64 f)/\w'.cell? ⟨q,4,none⟩=some (.int .i64 i))) (by kernel_rfl) ?_ (fun hHeld=>?_)
     · exact HC0
     refine tkLB [0,1,2,3,4] ?_
     iterate 5 (refine tkLC (v:=?_) rfl rfl (by kernel_rfl) (by kernel_rfl) (by kernel_rfl) (fun _ _ _ h=>h) (by rfl) (by assumption) ?_ ?_;rotate_left;(· (intro w hSw;(try dsimp only at hSw);go_simp;(try with_reducible rfl)));simp only [Act.put,List.setIfInBounds_toArray,List.set_cons_zero,List.set_cons_succ])
     refine tkLE ?_
     refine wpAnyH_ready (rs:=[5]) (by kernel_rfl) (by simp) ?_
     refine AllReadyH.cons rfl (fun K5 hK5=>?_) AllReadyH.nil
     rw [if_pos (by rfl)]
     go_simp
     go_at_call 91
     refine (CF.out _).mono ?_
     rintro e u1 ⟨rfl,h2⟩
     have Ou1:=hidOf (Out.trans ((Out.refl wr).dN 1) h2)
     have HC1:=HC.out u1 (HO.out.trans Ou1.out)
     refine hK5.out _ _ HC1 (fun hHeld5=>?_)
     clear h2
     refine tkLB [6,7,8,9,10,11] ?_
     iterate 6 (refine tkLC (v:=?_) rfl rfl (by kernel_rfl) (by kernel_rfl) (by kernel_rfl) (fun _ _ _ h=>h) (by rfl) (by assumption) ?_ ?_;rotate_left;(· (intro w hSw;(try dsimp only at hSw);go_simp;(try with_reducible rfl)));simp only [Act.put,List.setIfInBounds_toArray,List.set_cons_zero,List.set_cons_succ])
     refine tkLE ?_
     refine wpAnyH_ready (rs:=[12]) (by kernel_rfl) (by simp) ?_
     refine AllReadyH.cons rfl (fun K12 hK12=>?_) AllReadyH.nil
     rw [if_pos (by rfl)]
     go_simp
     go_at_call 92
     refine (CL.out _).mono ?_
     rintro e u2 ⟨rfl,h2⟩
     have Ou2:=hidOf (Out.trans (Ou1.out) h2)
     have HC2:=HC.out u2 (HO.out.trans Ou2.out)
     refine hK12.out _ _ HC2 (fun hHeld12=>?_)
     clear h2
     refine tkLB [13] ?_
     iterate 1 (refine tkLC (v:=?_) rfl rfl (by kernel_rfl) (by kernel_rfl) (by kernel_rfl) (fun _ _ _ h=>h) (by rfl) (by assumption) ?_ ?_;rotate_left;(· (intro w hSw;(try dsimp only at hSw);go_simp;(try with_reducible rfl)));simp only [Act.put,List.setIfInBounds_toArray,List.set_cons_zero,List.set_cons_succ])
     refine tkLE ?_
     refine wpAnyH_done (by kernel_rfl) ?_ _
     go_wp2
     go_roundw
     case rel=>exact ⟨k+1,by simp,by omega,hidOf (HO.out.trans Ou2.out),hidOf HFs.out⟩
     case measure=>simp [intOf];omega
    ·
     rw [hlw] at CL HFs
     simp only [Bool.and_self,if_true] at HFs
     refine wp_region_held_drew (S:=(fun w'=>w'.cell? ⟨g,k*5,none⟩=some (.string ⟨L.toArray⟩)/\w'.cell? ⟨g,k*5+1,none⟩=some (.int .i64 sh)/\w'.cell? ⟨g,k*5+2,none⟩=some (.int .i64 op)/\w'.cell? ⟨g,k*5+3,none⟩=some (.int .i64 off)/\w'.cell? ⟨g,k*5+4,none⟩=some (.int .i64 imm)/\w'.cell? ⟨q,0,none⟩=some (.int .i64 o)/\w'.cell? ⟨q,1,none⟩=some (.int .i64 d)/\w'.cell? ⟨q,2,none⟩=some (.int .i64 s)/\w'.cell? ⟨q,3,none⟩=some (.int .i64 f)/\w'.cell? ⟨q,4,none⟩=some (.int .i64 i))) (by kernel_rfl) ?_ (fun hHeld=>?_)
     · exact HC0
     refine tkLB [0,1,2,3,4] ?_
     iterate 5 (refine tkLC (v:=?_) rfl rfl (by kernel_rfl) (by kernel_rfl) (by kernel_rfl) (fun _ _ _ h=>h) (by rfl) (by assumption) ?_ ?_;rotate_left;(· (intro w hSw;(try dsimp only at hSw);go_simp;(try with_reducible rfl)));simp only [Act.put,List.setIfInBounds_toArray,List.set_cons_zero,List.set_cons_succ])
     refine tkLE ?_
     refine wpAnyH_ready (rs:=[5]) (by kernel_rfl) (by simp) ?_
     refine AllReadyH.cons rfl (fun K5 hK5=>?_) AllReadyH.nil
     rw [if_pos (by rfl)]
     go_simp
     go_at_call 91
     refine (CF.out _).mono ?_
     rintro e u1 ⟨rfl,h2⟩
     have Ou1:=hidOf (Out.trans ((Out.refl wr).dN 1) h2)
     have HC1:=HC.out u1 (HO.out.trans Ou1.out)
     refine hK5.out _ _ HC1 (fun hHeld5=>?_)
     clear h2
     refine tkLB [6,7,8,9,10,11] ?_
     iterate 6 (refine tkLC (v:=?_) rfl rfl (by kernel_rfl) (by kernel_rfl) (by kernel_rfl) (fun _ _ _ h=>h) (by rfl) (by assumption) ?_ ?_;rotate_left;(· (intro w hSw;(try dsimp only at hSw);go_simp;(try with_reducible rfl)));simp only [Act.put,List.setIfInBounds_toArray,List.set_cons_zero,List.set_cons_succ])
     refine tkLE ?_
     refine wpAnyH_ready (rs:=[12]) (by kernel_rfl) (by simp) ?_
     refine AllReadyH.cons rfl (fun K12 hK12=>?_) AllReadyH.nil
     rw [if_pos (by rfl)]
     go_simp
     go_at_call 92
     refine (CL.out _).mono ?_
     rintro e u2 ⟨rfl,h2⟩
     have Ou2:=hidOf (Out.trans (Ou1.out) h2)
     have HC2:=HC.out u2 (HO.out.trans Ou2.out)
     refine hK12.out _ _ HC2 (fun hHeld12=>?_)
     clear h2
     refine tkLB [13] ?_
     iterate 1 (refine tkLC (v:=?_) rfl rfl (by kernel_rfl) (by kernel_rfl) (by kernel_rfl) (fun _ _ _ h=>h) (by rfl) (by assumption) ?_ ?_;rotate_left;(· (intro w hSw;(try dsimp only at hSw);go_simp;(try with_reducible rfl)));simp only [Act.put,List.setIfInBounds_toArray,List.set_cons_zero,List.set_cons_succ])
     refine tkLE ?_
     refine wpAnyH_done (by kernel_rfl) ?_ _
     obtain ⟨c0,c1,c2,c3,c4, -⟩:=HC2
     have hR2:=blk_out (HO.out.trans Ou2.out) HR1.out
     have HR2:=hidOf hR2
     have r0:u2.cell? ⟨qR,0,none⟩=some (.string ⟨#[]⟩):=by rw [cell_atL hR2];rfl
     have r1:u2.cell? ⟨qR,1,none⟩=some (.int .i64 0):=by rw [cell_atL hR2];rfl
     have r2:u2.cell? ⟨qR,2,none⟩=some (.int .i64 0):=by rw [cell_atL hR2];rfl
     have r3:u2.cell? ⟨qR,3,none⟩=some (.int .i64 0):=by rw [cell_atL hR2];rfl
     have r4:u2.cell? ⟨qR,4,none⟩=some (.int .i64 0):=by rw [cell_atL hR2];rfl
     have g0:=frozen_atL hR2 0
     have g1:=frozen_atL hR2 1
     have g2:=frozen_atL hR2 2
     have g3:=frozen_atL hR2 3
     have g4:=frozen_atL hR2 4
     clear hR2 HC1 HC0 hHeld
     go_wp2
     refine bodyPost_ret (results_row_tmp rfl _ _ qR 111 _ (0,0) _ rfl (set5b_heap HR2.out) Tryz.underlying111 rfl sizeRw4) rfl ?_
     exact ⟨.inl ⟨_,HFs.out,rfl⟩,set5_out (OC.out.trans (O1.out.trans (HO.out.trans Ou2.out))) Hqs.out⟩
  ·
   have hltI:¬(k:Int)<n:=by omega
   obtain rfl:k=n:=by omega
   have hFn:FR=none:=by
    have h:=HF.out
    rw [List.drop_eq_nil_of_le (by rw [Hn.out];omega)] at h
    exact h
   have HFn:=hidOf hFn
   have hR2:=blk_out HO.out HR1.out
   have HR2:=hidOf hR2
   have r0:wr.cell? ⟨qR,0,none⟩=some (.string ⟨#[]⟩):=by rw [cell_atL hR2];rfl
   have r1:wr.cell? ⟨qR,1,none⟩=some (.int .i64 0):=by rw [cell_atL hR2];rfl
   have r2:wr.cell? ⟨qR,2,none⟩=some (.int .i64 0):=by rw [cell_atL hR2];rfl
   have r3:wr.cell? ⟨qR,3,none⟩=some (.int .i64 0):=by rw [cell_atL hR2];rfl
   have r4:wr.cell? ⟨qR,4,none⟩=some (.int .i64 0):=by rw [cell_atL hR2];rfl
   have g0:=frozen_atL hR2 0
   have g1:=frozen_atL hR2 1
   have g2:=frozen_atL hR2 2
   have g3:=frozen_atL hR2 3
   have g4:=frozen_atL hR2 4
   clear hFn hR2 HF
   by_cases hz:k=0
   ·
    subst hz
    go_wp2
    refine bodyPost_ret (results_row_tmp rfl _ _ qR 111 _ (0,0) _ rfl (set5b_heap HR2.out) Tryz.underlying111 rfl sizeRw4) rfl ?_
    exact ⟨.inr ⟨HFn.out,by rw [HE.out];rfl⟩,set5_out (OC.out.trans (O1.out.trans HO.out)) Hqs.out⟩
   ·
    have hzI:(0:Int)<k:=by omega
    have HE2:Hid (EM=false):=hidOf (by rw [HE.out];simp [hz])
    go_wp2
    refine bodyPost_ret (results_row_tmp rfl _ _ qR 111 _ (0,0) _ rfl (set5b_heap HR2.out) Tryz.underlying111 rfl sizeRw4) rfl ?_
    exact ⟨.inr ⟨HFn.out,by rw [HE2.out];rfl⟩,set5_out (OC.out.trans (O1.out.trans HO.out)) Hqs.out⟩
end Go.Proofs.YtadneimllbfdnaaGreatDoor
