import Derived.Test.YtadneimllbfdnaaGreatDoorGu20
namespace Go.Proofs.YtadneimllbfdnaaGreatDoor
open Go.RowKit
set_option linter.unusedVariables false
set_option linter.unusedSimpArgs false
structure TbI (B:Nat) (w wr:World) (p g mb:Nat) (sv:Value) (r:List Lx.Tk) (q2 q3:Nat) (x:List UInt8) (wv nv:Value):Prop where
 ps:PS B wr p g mb sv r
 chg:Chg (fun b=>b=p) w wr
 h2:wr.heap[q2]? = some (.cells #[.int .i64 0,.string ⟨#[]⟩,.slice none 0 0,.slice none 0 0,.int .i64 0,.int .i64 0,.int .i64 0,.int .i64 0,.int .i64 0,.string ⟨#[]⟩,.int .i64 0] 42 (0,0))
 h3:wr.heap[q3]? = some (.cells #[.int .i64 5,.string ⟨x.toArray⟩,wv,nv,.int .i64 0,.int .i64 0,.int .i64 0,.int .i64 0,.int .i64 0,.string ⟨#[]⟩,.int .i64 0] 42 (0,0))
 l2:w.heap.size<=q2
 l3:w.heap.size<=q3
 ne:¬q2=q3
theorem TbI.on {B:Nat} {w wr w':World} {p g mb:Nat} {sv:Value} {r r':List Lx.Tk} {q2 q3:Nat} {x:List UInt8} {wv nv:Value} (h:TbI B w wr p g mb sv r q2 q3 x wv nv) (hpl:p<w.heap.size) (hp:PS B w' p g mb sv r') (c:Chg (fun b=>b=p) wr w'):TbI B w w' p g mb sv r' q2 q3 x wv nv:=by
 have h5:=h.l2
 have h6:=h.l3
 exact ⟨hp,Chg.then2 h.chg c,(c.block q2 (Array.getElem?_eq_some_iff.1 h.h2).1 (fun e=>by omega)).trans h.h2,(c.block q3 (Array.getElem?_eq_some_iff.1 h.h3).1 (fun e=>by omega)).trans h.h3,h5,h6,h.ne⟩
theorem TbI.out {B:Nat} {w wr w':World} {p g mb:Nat} {sv:Value} {r:List Lx.Tk} {q2 q3:Nat} {x:List UInt8} {wv nv:Value} (h:TbI B w wr p g mb sv r q2 q3 x wv nv) (hpl:p<w.heap.size) (o:Out wr w'):TbI B w w' p g mb sv r q2 q3 x wv nv:=h.on hpl (h.ps.out o) (Chg.of_out o)
theorem TbI.set {B:Nat} {w wr:World} {p g mb:Nat} {sv:Value} {r:List Lx.Tk} {q2 q3:Nat} {x:List UInt8} {wv nv wv' nv':Value} (h:TbI B w wr p g mb sv r q2 q3 x wv nv) (hpl:p<w.heap.size) (hgl:g<w.heap.size) (j:Nat) (v:Value) (hj:(j=2/\wv'=v/\nv'=nv)\/(j=3/\wv'=wv/\nv'=v)):TbI B w (wr.setCell ⟨q3,j,none⟩ v) p g mb sv r q2 q3 x wv' nv':=by
 have h5:=h.l2
 have h6:=h.l3
 have c:Chg (fun b=>b=q3) wr (wr.setCell ⟨q3,j,none⟩ v):=Chg.setCell (S:=fun b=>b=q3) (Chg.refl _ wr) (p:=⟨q3,j,none⟩) rfl v
 refine ⟨h.ps.setq c (fun e=>by omega) (fun e=>by omega),h.chg.trans c (fun y hy hlt=>by omega),(c.block q2 (Array.getElem?_eq_some_iff.1 h.h2).1 h.ne).trans h.h2, ?_,h5,h6,h.ne⟩
 rw [set_atL h.h3]
 rcases hj with ⟨rfl,rfl,rfl⟩ | ⟨rfl,rfl,rfl⟩ <;> rfl
theorem own_new {B q:Nat} {w:World} {e:TypeId} {cs:List Value} (h:w.heap[q]? = some (.cells cs.toArray e (0,0))) (hq:B<=q) (hm:cs.length<=maxLen):w.ownsRow B e 1 (.slice (some ⟨q,0,none⟩) cs.length cs.length) cs.length cs:=
 ⟨by simp,.inr ⟨q,cs.length,cs.toArray,rfl,hq,h,Nat.le_refl _,hm,by simp,by simp⟩⟩
set_option maxRecDepth 20000 in
set_option maxHeartbeats 4000000 in
theorem table_any (B:Nat) (w:World) (p g mb:Nat) (sv:Value) (ts:List Lx.Tk) (h:PS B w p g mb sv ts) (hl:Lw ts) (hN:TkOk ts) (hB:B<=w.heap.size):Calls Tryz.prog 47 #[.pointer (some ⟨p,0,none⟩)] w (REndS (tbQ ts) B w p g mb sv):=by
 obtain ⟨X,hX⟩:∃ X,X=tbQ ts:=⟨_,rfl⟩
 rw [<-hX]
 have HX:=hidOf hX
 clear hX
 have hpl:=h.gl.1
 have hgl:=h.gl.2
 obtain ⟨w1,hw1⟩:∃ w1,w1=w.alloc (.cells #[.int .i64 0,.string ⟨#[]⟩,.slice none 0 0,.slice none 0 0,.int .i64 0,.int .i64 0,.int .i64 0,.int .i64 0,.int .i64 0,.string ⟨#[]⟩,.int .i64 0] 42):=⟨_,rfl⟩
 have o1:Out w w1:=by rw [hw1];exact (Out.refl w).alloc _
 have b1:w1.heap[w.heap.size]? = some (.cells #[.int .i64 0,.string ⟨#[]⟩,.slice none 0 0,.slice none 0 0,.int .i64 0,.int .i64 0,.int .i64 0,.int .i64 0,.int .i64 0,.string ⟨#[]⟩,.int .i64 0] 42 (0,0)):=by rw [hw1];exact heap_alloc_new w _
 have z1:w1.heap.size=w.heap.size+1:=by rw [hw1];exact size_alloc _ _
 have C:=hidOf (word_any B w1 p g mb sv ts (h.out o1) hl)
 have B1:=hidOf b1
 have O1:=hidOf o1
 have Hw1:=hidOf hw1
 have Z1:=hidOf z1
 have HL:=hidOf (wdQ_lw hl)
 clear h b1 o1 hw1 z1
 cases hq:wdQ ts with
 | no c r=>
  have HE:Hid (X=.no c r):=hidOf (by rw [HX.out];unfold tbQ;rw [hq,bind_no])
  have C:Hid (Calls Tryz.prog 51 #[.pointer (some ⟨p,0,none⟩)] w1 fun e w'=>e=.panicked [{ v:=.iface 32 (.int .i64 c),recovered:=false }]/\PS B w' p g mb sv r/\Chg (fun b=>b=p) w1 w'):=hidOf (by have:=C.out;rw [hq] at this;exact this)
  clear hq hl
  go_enter Tryz.func47,Tryz.ntmps47
  go_upto_region 1 with fail
  rw [<-Hw1.out]
  go_wp2_with (go_at_call 51;refine C.out.mono ?_;rintro e w2 ⟨rfl,hp,hc⟩;have P2:=hidOf hp;have C2:=hidOf hc;clear hp hc)
  refine ⟨rfl, ?_⟩
  rw [HE.out]
  exact ⟨rfl,P2.out,Chg.then2 (Chg.of_out O1.out) C2.out⟩
 | ok x r=>
  have HX:Hid (X=(tdQ r).bind fun y r=>(nuR 3 [] r).bind fun l r=>.ok (tbS x y l) r):=hidOf (by rw [HX.out];unfold tbQ;rw [hq,bind_ok])
  have hlr:Lw r:=by have:=HL.out;rw [hq] at this;exact this
  have hNr:TkOk r:=by have:=wdQ_cl tkOk_clo hN;rw [hq] at this;exact this
  have C:Hid (Calls Tryz.prog 51 #[.pointer (some ⟨p,0,none⟩)] w1 fun e w'=>e=.returned (.string ⟨x.toArray⟩)/\PS B w' p g mb sv r/\Chg (fun b=>b=p) w1 w'):=hidOf (by have:=C.out;rw [hq] at this;exact this)
  clear hq hl HL
  go_enter Tryz.func47,Tryz.ntmps47
  go_upto_region 1 with fail
  rw [<-Hw1.out]
  go_upto_region 2 with (go_at_call 51;refine C.out.mono ?_;rintro e w2 ⟨rfl,hp,hc⟩;have P2:=hidOf hp;have C2:=hidOf hc;clear hp hc)
  obtain ⟨w3,hw3⟩:∃ w3,w3=w2.alloc (.cells #[.int .i64 5,.string ⟨x.toArray⟩,.slice none 0 0,.slice none 0 0,.int .i64 0,.int .i64 0,.int .i64 0,.int .i64 0,.int .i64 0,.string ⟨#[]⟩,.int .i64 0] 42):=⟨_,rfl⟩
  rw [<-hw3]
  have hz2:w.heap.size+1<=w2.heap.size:=by have:=C2.out.size;have:=Z1.out;omega
  obtain ⟨q3,hq3⟩:∃ q3,q3=w2.heap.size:=⟨_,rfl⟩
  obtain ⟨q2,hq2⟩:∃ q2,q2=w.heap.size:=⟨_,rfl⟩
  have o3:Out w2 w3:=by rw [hw3];exact (Out.refl w2).alloc _
  have T3:Hid (TbI B w w3 p g mb sv r q2 q3 x (.slice none 0 0) (.slice none 0 0)):=hidOf ⟨P2.out.out o3,(Chg.then2 (Chg.of_out O1.out) C2.out).trans (T:=fun _=>False) (Chg.of_out o3) (fun _ h _=>h.elim),by
   rw [hq2]
   exact (o3.block _ (by omega)).trans ((C2.out.block _ (by rw [Z1.out];omega) (fun e=>by omega)).trans B1.out),by rw [hq3,hw3];exact heap_alloc_new w2 _,by omega,by omega,by omega⟩
  rw [<-hq3, <-hq2]
  have Hq2:=hidOf hq2
  have Hq3:=hidOf hq3
  have CK:=hidOf (tableKind_any B w3 p g mb sv r T3.out.ps hlr)
  have HNr:Hid (TkOk r):=hidOf hNr
  have HL:=hidOf (tdQ_lw hlr)
  have HNd:=hidOf (tdQ_cl tkOk_clo hNr)
  clear hw3 hz2 hq3 hq2 o3 P2 C2 C hNr hlr B1
  cases hd:tdQ r with
  | no c r2=>
   have HE:Hid (X=.no c r2):=hidOf (by rw [HX.out,hd,bind_no])
   have CK:Hid (Calls Tryz.prog 75 #[.pointer (some ⟨p,0,none⟩)] w3 fun e w'=>e=.panicked [{ v:=.iface 32 (.int .i64 c),recovered:=false }]/\PS B w' p g mb sv r2/\Chg (fun b=>b=p) w3 w'):=hidOf (by have:=CK.out;rw [hd] at this;exact this)
   clear hd
   go_wp2_with (go_at_call 75;refine CK.out.mono ?_;rintro e w4 ⟨rfl,hp,hc⟩;have P4:=hidOf hp;have C4:=hidOf hc;clear hp hc)
   refine ⟨rfl, ?_⟩
   rw [HE.out]
   exact ⟨rfl,P4.out,Chg.then2 T3.out.chg C4.out⟩
  | ok y r2=>
   have HX:Hid (X=(nuR 3 [] r2).bind fun l r=>.ok (tbS x y l) r):=hidOf (by rw [HX.out,hd,bind_ok])
   have CK:Hid (Calls Tryz.prog 75 #[.pointer (some ⟨p,0,none⟩)] w3 fun e w'=>e=.returned (.string ⟨y.toArray⟩)/\PS B w' p g mb sv r2/\Chg (fun b=>b=p) w3 w'):=hidOf (by have:=CK.out;rw [hd] at this;exact this)
   have hl2:Lw r2:=by have:=HL.out;rw [hd] at this;exact this
   have hN2:TkOk r2:=by have:=HNd.out;rw [hd] at this;exact this
   clear hd HL HNd
   have e3:w3.heap[q3]? = _:=T3.out.h3
   go_upto_region 3 with (go_at_call 75;refine CK.out.mono ?_;rintro e w4 ⟨rfl,hp,hc⟩;have T4:=hidOf (T3.out.on hpl hp hc);have x0:∀ O,(w4.alloc O).cell? ⟨q3,2,none⟩=some (.slice none 0 0):=(fun O=>by rw [cell_atL (T4.out.out hpl ((Out.refl w4).alloc O)).h3];rfl);have y0:∀ O,(w4.alloc O).frozen? ⟨q3,2,none⟩=false:=(fun O=>frozen_atL (T4.out.out hpl ((Out.refl w4).alloc O)).h3 2);clear hp hc)
   clear x0 y0 e3
   obtain ⟨qw,hqw⟩:∃ qw,qw=w4.heap.size:=⟨_,rfl⟩
   rw [<-hqw]
   have T5:=hidOf ((T4.out.out hpl ((Out.refl w4).alloc (.cells #[.string ⟨y.toArray⟩] 9))).set hpl hgl 2 (.slice (some ⟨qw,0,none⟩) 1 1) (wv':=.slice (some ⟨qw,0,none⟩) 1 1) (nv':=.slice none 0 0) (.inl ⟨rfl,rfl,rfl⟩))
   have z4:w.heap.size<=w4.heap.size:=T4.out.chg.size
   have hq3l:q3<w4.heap.size:=(Array.getElem?_eq_some_iff.1 T4.out.h3).1
   have Hqw2:Hid (¬qw=q2):=hidOf (by have:=(Array.getElem?_eq_some_iff.1 T4.out.h2).1;omega)
   have W5:Hid (((w4.alloc (.cells #[.string ⟨y.toArray⟩] 9)).setCell ⟨q3,2,none⟩ (.slice (some ⟨qw,0,none⟩) 1 1)).heap[qw]? = some (.cells #[.string ⟨y.toArray⟩] 9 (0,0))):=hidOf (by
    rw [Below.heap_setCell _ _ _ _ (show ¬qw=q3 by omega),hqw]
    exact heap_alloc_new w4 _)
   generalize (w4.alloc (.cells #[.string ⟨y.toArray⟩] 9)).setCell ⟨q3,2,none⟩ (.slice (some ⟨qw,0,none⟩) 1 1)=w5 at *
   have x1:∀ O,(w5.alloc O).cell? ⟨q3,3,none⟩=some (.slice none 0 0):=fun O=>by rw [cell_atL (T5.out.out hpl ((Out.refl w5).alloc O)).h3];rfl
   have y1:∀ O,(w5.alloc O).frozen? ⟨q3,3,none⟩=false:=fun O=>frozen_atL (T5.out.out hpl ((Out.refl w5).alloc O)).h3 3
   have hms:∀ w:World,(Instr.makeSlice 38 (.int .i64 3) (.int .i64 3)).run Tryz.prog w=.ok (.slice (some ⟨w.heap.size,0,none⟩) 3 3) (w.alloc (.cells #[.int .i64 0,.int .i64 0,.int .i64 0] 3)):=fun w=>by kernel_rfl
   go_upto_region 4 with fail
   clear x1 y1
   obtain ⟨qn,hqn⟩:∃ qn,qn=w5.heap.size:=⟨_,rfl⟩
   rw [<-hqn]
   have T6:=hidOf ((T5.out.out hpl ((Out.refl w5).alloc (.cells #[.int .i64 0,.int .i64 0,.int .i64 0] 3))).set hpl hgl 3 (.slice (some ⟨qn,0,none⟩) 3 3) (wv':=.slice (some ⟨qw,0,none⟩) 1 1) (nv':=.slice (some ⟨qn,0,none⟩) 3 3) (.inr ⟨rfl,rfl,rfl⟩))
   have hq3m:q3<w5.heap.size:=(Array.getElem?_eq_some_iff.1 T5.out.h3).1
   have hq2m:q2<w5.heap.size:=(Array.getElem?_eq_some_iff.1 T5.out.h2).1
   have hqwl:qw<w5.heap.size:=(Array.getElem?_eq_some_iff.1 W5.out).1
   have hqw3:¬qw=q3:=by omega
   have N6:Hid (((w5.alloc (.cells #[.int .i64 0,.int .i64 0,.int .i64 0] 3)).setCell ⟨q3,3,none⟩ (.slice (some ⟨qn,0,none⟩) 3 3)).heap[qn]? = some (.cells (intsC [0,0,0]).toArray 3 (0,0))):=hidOf (by
    rw [Below.heap_setCell _ _ _ _ (show ¬qn=q3 by omega),hqn]
    exact heap_alloc_new w5 _)
   have W6:Hid (((w5.alloc (.cells #[.int .i64 0,.int .i64 0,.int .i64 0] 3)).setCell ⟨q3,3,none⟩ (.slice (some ⟨qn,0,none⟩) 3 3)).heap[qw]? = some (.cells #[.string ⟨y.toArray⟩] 9 (0,0))):=hidOf (by
    rw [Below.heap_setCell _ _ _ _ hqw3]
    exact (((Out.refl w5).alloc _).block _ hqwl).trans W5.out)
   have hqwn:¬qw=qn:=by omega
   have hqn3:¬q3=qn:=by omega
   have hqn2:¬q2=qn:=by omega
   have hqnB:w.heap.size<=qn:=by omega
   have hqwB:w.heap.size<=qw:=by omega
   generalize (w5.alloc (.cells #[.int .i64 0,.int .i64 0,.int .i64 0] 3)).setCell ⟨q3,3,none⟩ (.slice (some ⟨qn,0,none⟩) 3 3)=w6 at *
   have x2:w6.cell? ⟨q3,3,none⟩=some (.slice (some ⟨qn,0,none⟩) 3 3):=by rw [cell_atL T6.out.h3];rfl
   have HL2:=hidOf hl2
   have HN2:=hidOf hN2
   clear hms hqn hq3m hq2m hqwl T5 W5 T4 T3 hqw z4 hq3l hl2 hN2
   go_upto_region 5 with fail
   clear x2
   go_loopw [17] (fun kv wr=>∃ (k:Nat) (L:List Int) (r':List Lx.Tk),kv=.int .i64 k/\k<=3/\Hid (L.length=3)/\Hid (nuR 3 [] r2=nuR (3 - k) (L.take k) r')/\Hid (TbI B w wr p g mb sv r' q2 q3 x (.slice (some ⟨qw,0,none⟩) 1 1) (.slice (some ⟨qn,0,none⟩) 3 3))/\Hid (wr.heap[qn]? = some (.cells (intsC L).toArray 3 (0,0)))/\Hid (wr.heap[qw]? = some (.cells #[.string ⟨y.toArray⟩] 9 (0,0)))/\Hid (Lw r')/\Hid (TkOk r')) (fun kv _=>3 - (intOf kv).toNat)
   case atStart=>exact ⟨0,[0,0,0],r2,rfl,by omega,hidOf rfl,hidOf rfl,T6,N6,W6,HL2,HN2⟩
   case round=>
    clear T6 N6 W6 HL2 HN2
    obtain ⟨k,L,r',rfl,hk,HLl,HNR,TI,HN,HW,HLw,HNk⟩:=hrel
    by_cases hk3:k<3
    ·
     have hkI:(k:Int)<3:=by omega
     have hk0:(0:Int)<=k:=by omega
     have cn:wr.cell? ⟨q3,3,none⟩=some (.slice (some ⟨qn,0,none⟩) 3 3):=by rw [cell_atL TI.out.h3];rfl
     have CN:=hidOf (fun m=>number6_any B (wr.drewN m) p g mb sv r' (TI.out.ps.out ((Out.refl wr).dN m)) HLw.out HNk.out)
     have HXk:Hid (X=(nuQ r').bind fun a r''=>(nuR (2 - k) (L.take k++[a]) r'').bind fun l r=>.ok (tbS x y l) r):=hidOf (by
      rw [HX.out,HNR.out,show 3 - k=(2 - k)+1 by omega]
      show ((nuQ r').bind fun a r''=>nuR (2 - k) (L.take k++[a]) r'').bind _=_
      cases nuQ r' <;> rfl)
     go_upto_region 7 with fail
     cases hu:nuQ r' with
     | no c r3=>
      have HE:Hid (X=.no c r3):=hidOf (by rw [HXk.out,hu,bind_no])
      have CN:Hid (∀ m,Calls Tryz.prog 76 #[.pointer (some ⟨p,0,none⟩)] (wr.drewN m) fun e w'=>e=.panicked [{ v:=.iface 32 (.int .i64 c),recovered:=false }]/\PS B w' p g mb sv r3/\Chg (fun b=>b=p) (wr.drewN m) w'):=hidOf (fun m=>by have:=CN.out m;rw [hu] at this;exact this)
      clear hu
      refine wp_region_held_drew (S:=(fun w'=>w'.cell? ⟨q3,3,none⟩=some (.slice (some ⟨qn,0,none⟩) 3 3))) (by kernel_rfl) ?_ (fun hHeld=>?_)
      · exact cn
      refine tkLB [0,1,2,3] ?_
      iterate 4 (refine tkLC (v:=?_) rfl rfl (by kernel_rfl) (by kernel_rfl) (by kernel_rfl) (fun _ _ _ h=>h) (by rfl) (by assumption) ?_ ?_;rotate_left;(· (intro w hSw;(try dsimp only at hSw);go_simp;(try with_reducible rfl)));simp only [Act.put,List.setIfInBounds_toArray,List.set_cons_zero,List.set_cons_succ])
      refine tkLE ?_
      refine wpAnyH_ready (rs:=[4]) (by kernel_rfl) (by simp) ?_
      refine AllReadyH.cons rfl (fun K hK=>?_) AllReadyH.nil
      rw [if_pos (by rfl)]
      go_simp
      go_at_call 76
      refine (CN.out 1).mono ?_
      rintro e w7 ⟨rfl,hp,hc⟩
      have T7:=hidOf (TI.out.on hpl hp (Chg.then2 (Chg.of_out ((Out.refl wr).dN 1)) hc))
      have C7:=hidOf (Chg.then2 (Chg.of_out ((Out.refl wr).dN 1)) hc)
      clear hp hc
      refine ⟨rfl, ?_⟩
      rw [HE.out]
      exact ⟨rfl,T7.out.ps,T7.out.chg⟩
     | ok a r3=>
      have CN:Hid (∀ m,Calls Tryz.prog 76 #[.pointer (some ⟨p,0,none⟩)] (wr.drewN m) fun e w'=>e=.returned (.int .i64 a)/\PS B w' p g mb sv r3/\Chg (fun b=>b=p) (wr.drewN m) w'):=hidOf (fun m=>by have:=CN.out m;rw [hu] at this;exact this)
      have HL3:Hid (Lw r3):=hidOf (by have:=nuQ_lw HLw.out;rw [hu] at this;exact this)
      have HN3:Hid (TkOk r3):=hidOf (by have:=nuQ_cl tkOk_clo HNk.out;rw [hu] at this;exact this)
      have HR3:Hid (nuR 3 [] r2=nuR (2 - k) (L.take k++[a]) r3):=hidOf (by
       rw [HNR.out,show 3 - k=(2 - k)+1 by omega]
       show (nuQ r').bind _=_
       rw [hu,bind_ok])
      clear hu
      refine wp_region_held_drew (S:=(fun w'=>w'.cell? ⟨q3,3,none⟩=some (.slice (some ⟨qn,0,none⟩) 3 3))) (by kernel_rfl) ?_ (fun hHeld=>?_)
      · exact cn
      refine tkLB [0,1,2,3] ?_
      iterate 4 (refine tkLC (v:=?_) rfl rfl (by kernel_rfl) (by kernel_rfl) (by kernel_rfl) (fun _ _ _ h=>h) (by rfl) (by assumption) ?_ ?_;rotate_left;(· (intro w hSw;(try dsimp only at hSw);go_simp;(try with_reducible rfl)));simp only [Act.put,List.setIfInBounds_toArray,List.set_cons_zero,List.set_cons_succ])
      refine tkLE ?_
      refine wpAnyH_ready (rs:=[4]) (by kernel_rfl) (by simp) ?_
      refine AllReadyH.cons rfl (fun K hK=>?_) AllReadyH.nil
      rw [if_pos (by rfl)]
      go_simp
      go_at_call 76
      refine (CN.out 1).mono ?_
      rintro e w7 ⟨rfl,hp,hc⟩
      have T7:=hidOf (TI.out.on hpl hp (Chg.then2 (Chg.of_out ((Out.refl wr).dN 1)) hc))
      have C7:=hidOf (Chg.then2 (Chg.of_out ((Out.refl wr).dN 1)) hc)
      clear hp hc
      have cn7:w7.cell? ⟨q3,3,none⟩=some (.slice (some ⟨qn,0,none⟩) 3 3):=by rw [cell_atL T7.out.h3];rfl
      refine hK.out _ _ cn7 (fun hHeld=>?_)
      have hn7:w7.heap[qn]? = some (.cells (intsC L).toArray 3 (0,0)):=(C7.out.block qn (Array.getElem?_eq_some_iff.1 HN.out).1 (fun e=>by omega)).trans HN.out
      have hw7:w7.heap[qw]? = _:=(C7.out.block qw (Array.getElem?_eq_some_iff.1 HW.out).1 (fun e=>by omega)).trans HW.out
      obtain ⟨z,hz⟩:∃ z,L[k]? = some z:=⟨_,List.getElem?_eq_getElem (by rw [HLl.out];exact hk3)⟩
      have cz:w7.cell? ⟨qn,k,none⟩=some (.int .i64 z):=by rw [cell_atL hn7];simp [intsC,hz]
      have fz:w7.frozen? ⟨qn,k,none⟩=false:=frozen_atL hn7 k
      refine tkLB [5] ?_
      iterate 1 (refine tkLC (v:=?_) rfl rfl (by kernel_rfl) (by kernel_rfl) (by kernel_rfl) (fun _ _ _ h=>h) (by rfl) (by assumption) ?_ ?_;rotate_left;(· (intro w hSw;(try dsimp only at hSw);go_simp;(try with_reducible rfl)));simp only [Act.put,List.setIfInBounds_toArray,List.set_cons_zero,List.set_cons_succ])
      refine tkLE ?_
      refine wpAnyH_ready (rs:=[6]) (by kernel_rfl) (by simp) ?_
      refine AllReadyH.cons rfl (fun K2 hK2=>?_) AllReadyH.nil
      rw [if_pos (by rfl)]
      go_simp
      have c8:Chg (fun b=>b=qn) w7 (w7.setCell ⟨qn,k,none⟩ (.int .i64 a)):=Chg.setCell (S:=fun b=>b=qn) (Chg.refl _ w7) (p:=⟨qn,k,none⟩) rfl _
      have T8:=hidOf (TbI.mk (T7.out.ps.setq c8 (fun e=>by omega) (fun e=>by omega)) (T7.out.chg.trans c8 (fun y hy hlt=>by omega)) ((c8.block q2 (Array.getElem?_eq_some_iff.1 T7.out.h2).1 hqn2).trans T7.out.h2) ((c8.block q3 (Array.getElem?_eq_some_iff.1 T7.out.h3).1 hqn3).trans T7.out.h3) T7.out.l2 T7.out.l3 T7.out.ne)
      have N8:Hid ((w7.setCell ⟨qn,k,none⟩ (.int .i64 a)).heap[qn]? = some (.cells (intsC (L.set k a)).toArray 3 (0,0))):=hidOf (by
       rw [set_atL hn7]
       simp [intsC,List.map_set])
      have W8:=hidOf ((c8.block qw (Array.getElem?_eq_some_iff.1 hw7).1 hqwn).trans hw7)
      have HT8:Hid ((L.set k a).take (k+1)=L.take k++[a]):=hidOf (by
       rw [List.take_add_one,List.take_set,List.getElem?_set,if_pos rfl,if_pos (by rw [HLl.out];exact hk3),List.set_eq_of_length_le (by rw [List.length_take];omega)]
       simp)
      refine hK2.out _ _ (by rw [cell_atL T8.out.h3];rfl) (fun hHeld=>?_)
      clear c8 hn7 hw7 cz fz cn7 hz cn
      refine wpAnyH_done (by kernel_rfl) ?_ _
      go_wp2
      go_roundw
      case rel=>exact ⟨k+1,L.set k a,r3,by simp,by omega,hidOf (by rw [List.length_set,HLl.out]),hidOf (by rw [HT8.out,HR3.out,show 3 - (k+1)=2 - k by omega]),T8,N8,W8,HL3,HN3⟩
      case measure=>simp [intOf];omega
    ·
     have hkI:¬(k:Int)<3:=by omega
     obtain rfl:k=3:=by omega
     have HE:Hid (X=.ok (tbS x y L) r'):=hidOf (by
      rw [HX.out,HNR.out,List.take_of_length_le (by rw [HLl.out];omega)]
      rfl)
     have m0:wr.cell? ⟨q3,0,none⟩=some (.int .i64 5):=by rw [cell_atL TI.out.h3];rfl
     have m1:wr.cell? ⟨q3,1,none⟩=some (.string ⟨x.toArray⟩):=by rw [cell_atL TI.out.h3];rfl
     have m2:wr.cell? ⟨q3,2,none⟩=some (.slice (some ⟨qw,0,none⟩) 1 1):=by rw [cell_atL TI.out.h3];rfl
     have m3:wr.cell? ⟨q3,3,none⟩=some (.slice (some ⟨qn,0,none⟩) 3 3):=by rw [cell_atL TI.out.h3];rfl
     have m4:wr.cell? ⟨q3,4,none⟩=some (.int .i64 0):=by rw [cell_atL TI.out.h3];rfl
     have m5:wr.cell? ⟨q3,5,none⟩=some (.int .i64 0):=by rw [cell_atL TI.out.h3];rfl
     have m6:wr.cell? ⟨q3,6,none⟩=some (.int .i64 0):=by rw [cell_atL TI.out.h3];rfl
     have m7:wr.cell? ⟨q3,7,none⟩=some (.int .i64 0):=by rw [cell_atL TI.out.h3];rfl
     have m8:wr.cell? ⟨q3,8,none⟩=some (.int .i64 0):=by rw [cell_atL TI.out.h3];rfl
     have m9:wr.cell? ⟨q3,9,none⟩=some (.string ⟨#[]⟩):=by rw [cell_atL TI.out.h3];rfl
     have m10:wr.cell? ⟨q3,10,none⟩=some (.int .i64 0):=by rw [cell_atL TI.out.h3];rfl
     have n0:wr.cell? ⟨q2,0,none⟩=some (.int .i64 0):=by rw [cell_atL TI.out.h2];rfl
     have n1:wr.cell? ⟨q2,1,none⟩=some (.string ⟨#[]⟩):=by rw [cell_atL TI.out.h2];rfl
     have n2:wr.cell? ⟨q2,2,none⟩=some (.slice none 0 0):=by rw [cell_atL TI.out.h2];rfl
     have n3:wr.cell? ⟨q2,3,none⟩=some (.slice none 0 0):=by rw [cell_atL TI.out.h2];rfl
     have n4:wr.cell? ⟨q2,4,none⟩=some (.int .i64 0):=by rw [cell_atL TI.out.h2];rfl
     have n5:wr.cell? ⟨q2,5,none⟩=some (.int .i64 0):=by rw [cell_atL TI.out.h2];rfl
     have n6:wr.cell? ⟨q2,6,none⟩=some (.int .i64 0):=by rw [cell_atL TI.out.h2];rfl
     have n7:wr.cell? ⟨q2,7,none⟩=some (.int .i64 0):=by rw [cell_atL TI.out.h2];rfl
     have n8:wr.cell? ⟨q2,8,none⟩=some (.int .i64 0):=by rw [cell_atL TI.out.h2];rfl
     have n9:wr.cell? ⟨q2,9,none⟩=some (.string ⟨#[]⟩):=by rw [cell_atL TI.out.h2];rfl
     have n10:wr.cell? ⟨q2,10,none⟩=some (.int .i64 0):=by rw [cell_atL TI.out.h2];rfl
     have f0:=frozen_atL TI.out.h2 0
     have f1:=frozen_atL TI.out.h2 1
     have f2:=frozen_atL TI.out.h2 2
     have f3:=frozen_atL TI.out.h2 3
     have f4:=frozen_atL TI.out.h2 4
     have f5:=frozen_atL TI.out.h2 5
     have f6:=frozen_atL TI.out.h2 6
     have f7:=frozen_atL TI.out.h2 7
     have f8:=frozen_atL TI.out.h2 8
     have f9:=frozen_atL TI.out.h2 9
     have f10:=frozen_atL TI.out.h2 10
     have c8:=set11_chg wr q2 (.int .i64 5) (.string ⟨x.toArray⟩) (.slice (some ⟨qw,0,none⟩) 1 1) (.slice (some ⟨qn,0,none⟩) 3 3) (.int .i64 0) (.int .i64 0) (.int .i64 0) (.int .i64 0) (.int .i64 0) (.string ⟨#[]⟩) (.int .i64 0)
     have b8:=set11_heap (a0:=.int .i64 5) (a1:=.string ⟨x.toArray⟩) (a2:=.slice (some ⟨qw,0,none⟩) 1 1) (a3:=.slice (some ⟨qn,0,none⟩) 3 3) (a4:=.int .i64 0) (a5:=.int .i64 0) (a6:=.int .i64 0) (a7:=.int .i64 0) (a8:=.int .i64 0) (a9:=.string ⟨#[]⟩) (a10:=.int .i64 0) TI.out.h2
     have B8:=hidOf b8
     have C8:=hidOf c8
     clear b8 c8
     go_wp2
     refine bodyPost_ret (results_cell_row rfl _ _ q2 42 _ (0,0) _ rfl B8.out Tryz.underlying42 rfl size11) rfl ?_
     rw [HE.out]
     have hl2:=TI.out.l2
     have hq2n:¬qw=q2:=Hqw2.out
     refine ⟨.slice (some ⟨qw,0,none⟩) 1 1,.slice (some ⟨qn,0,none⟩) 3 3,rfl,⟨?_, ?_⟩,TI.out.ps.setq C8.out (fun e=>by omega) (fun e=>by omega),TI.out.chg.trans C8.out (fun y hy hlt=>by omega)⟩
     · exact own_new (cs:=[.string ⟨y.toArray⟩]) ((C8.out.block qw (Array.getElem?_eq_some_iff.1 HW.out).1 hq2n).trans HW.out) (by omega) (by unfold maxLen;simp)
     ·
      have:=own_new (B:=B) (cs:=intsC L) ((C8.out.block qn (Array.getElem?_eq_some_iff.1 HN.out).1 (fun e=>hqn2 e.symm)).trans HN.out) (by omega) (by simp [intsC,HLl.out,maxLen])
      have e3:(intsC L).length=3:=by simp [intsC,HLl.out]
      rw [e3] at this
      show World.ownsRow _ _ _ _ _ L.length _
      rw [HLl.out]
      exact this
end Go.Proofs.YtadneimllbfdnaaGreatDoor
namespace Go.Proofs.YtadneimllbfdnaaGreatDoor
open Go.RowKit
open Go.Maps (Keyed)
set_option linter.unusedVariables false
set_option linter.unusedSimpArgs false
def RV (v:Value):Option (DataW Value × List MemPlace):=some (.held v,[])
theorem strLaw6:Keyed Tryz.prog 9:=Maps.string_keyed Tryz.underlying9
theorem keyOf6 (l:List UInt8) (h:l.length<=1000000):keyOf Tryz.prog 9 (.string ⟨l.toArray⟩)=some (.string l):=by
 have:=WideMaps.keyOf_string_mk (P:=Tryz.prog) (k:=9) Tryz.underlying9 (s:=⟨l.toArray⟩) (by show l.toArray.size<=_;rw [List.size_toArray];unfold maxLen;omega)
 simpa using this
def fnV (kb:Nat):Value:=.func (.func 74) #[] #[.pointer (some ⟨kb,0,none⟩)]
def tbV:Value:=.func (.func 47) #[] #[]
def DirD (a b c:Nat):DataW Value:=((((DataW.map []).put (.string funcB) (.held (fnV a))).put (.string globB) (.held (fnV b))).put (.string extB) (.held (fnV c))).put (.string mapB) (.held tbV)
def BxI (w:World) (k:Nat) (c:Int):Prop:=w.heap[k]? = some (.cells #[.int .i64 c] 3 (0,0))
def DirM (w:World) (mb:Nat):Prop:=∃ a b c,w.ownsMap Tryz.prog 9 RV mb 4 (DirD a b c)/\BxI w a 2/\BxI w b 3/\BxI w c 4
theorem zfn (w:World):(zeroValue 95).run Tryz.prog w=.ok .nilFunc w:=by kernel_rfl
theorem mkDir (w:World):(Instr.makeMap 70 none).run Tryz.prog w=.ok (.map (some w.heap.size)) (w.alloc (.map #[] 0)):=by kernel_rfl
theorem undDir:Tryz.prog.underlying 70 = some (.map 9 95):=by kernel_rfl
theorem BxI.out {w w':World} {k:Nat} {c:Int} (h:BxI w k c) (o:Out w w'):BxI w' k c:=(o.block k (Array.getElem?_eq_some_iff.1 h).1).trans h
theorem own_map_block {H:Type} {P:Program} {k:TypeId} {R:Value->Option (DataW H × List MemPlace)} {b n:Nat} {D:DataW H} {w w':World} (h:w.ownsMap P k R b n D) (e:w'.heap[b]? = w.heap[b]?):w'.ownsMap P k R b n D:=by
 obtain ⟨es,cl,h1,h2,h3,h4⟩:=h
 exact ⟨es,cl,e.trans h1,h2,h3,h4⟩
theorem own_map_form {H:Type} {P:Program} {k:TypeId} {R:Value->Option (DataW H × List MemPlace)} {b n:Nat} {D:DataW H} {w:World} (h:w.ownsMap P k R b n D):∃ es cl,w.heap[b]? = some (.map es cl):=by
 obtain ⟨es,cl,h1,h2,h3,h4⟩:=h
 exact ⟨es,cl,h1⟩
theorem DirM.on {S:Nat->Prop} {w w':World} {mb:Nat} (h:DirM w mb) (c:Chg S w w') (hS:∀ b,S b->∃ cs t fr,w.heap[b]? = some (.cells cs t fr)/\¬t = 3):DirM w' mb:=by
 obtain ⟨x,y,z,h1,h2,h3,h4⟩:=h
 have bx:∀ k v,BxI w k v->BxI w' k v:=fun k v hb=>(c.block k (Array.getElem?_eq_some_iff.1 hb).1 (fun hs=>by
  obtain ⟨cs,t,fr,e,hn⟩:=hS k hs
  rw [show w.heap[k]? = _ from hb] at e
  simp at e
  exact hn e.2.1.symm)).trans hb
 refine ⟨x,y,z,own_map_block h1 (c.block mb h1.lt (fun hs=>?_)),bx _ _ h2,bx _ _ h3,bx _ _ h4⟩
 obtain ⟨cs,t,fr,e,hn⟩:=hS mb hs
 obtain ⟨es,cl,e2⟩:=own_map_form h1
 rw [e2] at e
 cases e
theorem DirM.out {w w':World} {mb:Nat} (h:DirM w mb) (o:Out w w'):DirM w' mb:=h.on (S:=fun _=>False) (Chg.of_out o) (fun _ h=>h.elim)
theorem DirM.kq {B:Nat} {w w':World} {mb:Nat} (h:DirM w mb) (c:Chg (KQ B w) w w'):DirM w' mb:=h.on c (fun b hb=>by
 obtain ⟨_,cs,t,fr,e,ht⟩:=hb
 refine ⟨cs,t,fr,e,fun e2=>?_⟩
 rcases ht with ht | ht
 · rw [ht] at e2;exact absurd e2 (by decide)
 · rw [ht] at e2;exact absurd e2 (by decide))
theorem named_any (w:World) (k:Int):Calls Tryz.prog 46 #[.int .i64 k] w fun e w'=>e=.returned (fnV w.heap.size)/\w'=w.alloc (.cells #[.int .i64 k] 3):=by
 unfold fnV
 go_enter Tryz.func46,Tryz.ntmps46
 go_wp2
 go_ret
 exact ⟨rfl,rfl⟩
set_option maxRecDepth 20000 in
set_option maxHeartbeats 1000000 in
theorem directives_any (w:World):Calls Tryz.prog 24 #[] w fun e w'=>e=.returned (.map (some w.heap.size))/\DirM w' w.heap.size/\Out w w':=by
 have hmk:=mkDir w
 obtain ⟨m,hm⟩:∃ m,m=w.heap.size:=⟨_,rfl⟩
 obtain ⟨w1,hw1⟩:∃ w1,w1=w.alloc (.map #[] 0):=⟨_,rfl⟩
 have h1:w1.ownsMap Tryz.prog 9 RV m 0 (.map []):=by rw [hw1,hm];exact World.ownsMap_made w Tryz.prog 9 RV
 have o1:Out w w1:=by rw [hw1];exact (Out.refl w).alloc _
 rw [<-hw1, <-hm] at hmk
 have step:∀ (wx:World) (n:Nat) (D:DataW Value) (key:List UInt8) (val:Value),key.length<=1000000->n<100->Out w wx->wx.ownsMap Tryz.prog 9 RV m n D->∃ w',(Instr.mapUpdate 70 (.map (some m)) (.string ⟨key.toArray⟩) val).run Tryz.prog wx=.ok () w'/\w'.ownsMap Tryz.prog 9 RV m (n+1) (D.put (.string key) (.held val))/\Out w w'/\∀ k c,BxI wx k c->BxI w' k c:=fun wx n D key val hk hn o h=>by
  obtain ⟨w',hrun,hown,hg⟩:=h.update (t:=70) (val:=val) strLaw6 undDir (by unfold maxLen;omega) (keyOf6 key hk) (show RV val=some (.held val,[]) from rfl)
  refine ⟨w',hrun,hown,Below.trans o (Below.grown (Below.refl w.heap.size wx) hg o.size (fun k e=>by cases e;rw [hm];exact Nat.le_refl _)),fun k c hb=>(hg.block k (Array.getElem?_eq_some_iff.1 hb).1 (fun e=>?_)).trans hb⟩
  cases e
  obtain ⟨es,cl,e2⟩:=own_map_form h
  rw [show wx.heap[m]? = _ from hb] at e2
  cases e2
 obtain ⟨w2,hw2⟩:∃ w2,w2=w1.alloc (.cells #[.int .i64 2] 3):=⟨_,rfl⟩
 have c2:BxI w2 w1.heap.size 2:=by rw [hw2];exact heap_alloc_new w1 _
 obtain ⟨w3,r3,h3,o3,k3⟩:=step w2 0 _ funcB (fnV w1.heap.size) (by decide) (by omega) (by rw [hw2];exact o1.alloc _) (by rw [hw2];exact h1.alloc _)
 obtain ⟨w4,hw4⟩:∃ w4,w4=w3.alloc (.cells #[.int .i64 3] 3):=⟨_,rfl⟩
 have c4:BxI w4 w3.heap.size 3:=by rw [hw4];exact heap_alloc_new w3 _
 have g4:Out w3 w4:=by rw [hw4];exact (Out.refl w3).alloc _
 obtain ⟨w5,r5,h5,o5,k5⟩:=step w4 1 _ globB (fnV w3.heap.size) (by decide) (by omega) (o3.trans g4) (by rw [hw4];exact h3.alloc _)
 obtain ⟨w6,hw6⟩:∃ w6,w6=w5.alloc (.cells #[.int .i64 4] 3):=⟨_,rfl⟩
 have c6:BxI w6 w5.heap.size 4:=by rw [hw6];exact heap_alloc_new w5 _
 have g6:Out w5 w6:=by rw [hw6];exact (Out.refl w5).alloc _
 obtain ⟨w7,r7,h7,o7,k7⟩:=step w6 2 _ extB (fnV w5.heap.size) (by decide) (by omega) (o5.trans g6) (by rw [hw6];exact h5.alloc _)
 obtain ⟨w8,r8,h8,o8,k8⟩:=step w7 3 _ mapB tbV (by decide) (by omega) o7 h7
 have HD:Hid (DirM w8 m):=hidOf ⟨w1.heap.size,w3.heap.size,w5.heap.size,h8,k8 _ _ (k7 _ _ ((k5 _ _ ((k3 _ _ c2).out g4)).out g6)),k8 _ _ (k7 _ _ ((k5 _ _ c4).out g6)),k8 _ _ (k7 _ _ c6)⟩
 have HO:=hidOf o8
 have C1:=hidOf (named_any w1 2)
 have C3:=hidOf (named_any w3 3)
 have C5:=hidOf (named_any w5 4)
 rw [<-hw2] at C1
 rw [<-hw4] at C3
 rw [<-hw6] at C5
 have R3:(Instr.mapUpdate 70 (.map (some m)) (.string ⟨#[46,102,117,110,99]⟩) (fnV w1.heap.size)).run Tryz.prog w2=.ok () w3:=r3
 have R5:(Instr.mapUpdate 70 (.map (some m)) (.string ⟨#[46,103,108,111,98,97,108]⟩) (fnV w3.heap.size)).run Tryz.prog w4=.ok () w5:=r5
 have R7:(Instr.mapUpdate 70 (.map (some m)) (.string ⟨#[46,101,120,116,101,114,110]⟩) (fnV w5.heap.size)).run Tryz.prog w6=.ok () w7:=r7
 have R8:(Instr.mapUpdate 70 (.map (some m)) (.string ⟨#[46,109,97,112]⟩) (.func (.func 47) #[] #[])).run Tryz.prog w7=.ok () w8:=r8
 have Hm:=hidOf hm
 rw [<-hm]
 generalize fnV w1.heap.size=F1 at *
 generalize fnV w3.heap.size=F3 at *
 generalize fnV w5.heap.size=F5 at *
 clear step r3 r5 r7 r8 h1 h3 h5 h7 h8 o1 o3 o5 o7 o8 k3 k5 k7 k8 c2 c4 c6 g4 g6 hw2 hw4 hw6 hw1 hm
 go_enter Tryz.func24,Tryz.ntmps24
 go_wp2_with (go_at_call 46;first | (refine C1.out.mono ?_;rintro e wx ⟨rfl,hx⟩;subst hx) | (refine C3.out.mono ?_;rintro e wx ⟨rfl,hx⟩;subst hx) | (refine C5.out.mono ?_;rintro e wx ⟨rfl,hx⟩;subst hx))
 go_ret
 exact ⟨rfl,HD.out,HO.out⟩
theorem dir_look {w:World} {mb:Nat} (h:DirM w mb) (x:List UInt8) (hx:x.length<=1000000) :
  (restQ x=(fun ts=>.no 60 ts)/\∀ w',w'.heap[mb]? = w.heap[mb]?->(Instr.lookup 70 (.map (some mb)) (.string ⟨x.toArray⟩) true).run Tryz.prog w'=.ok (.tuple #[.nilFunc,.bool false]) w')
  \/ (∃ kb kd,BxI w kb kd/\restQ x=nmQ kd/\∀ w',w'.heap[mb]? = w.heap[mb]?->(Instr.lookup 70 (.map (some mb)) (.string ⟨x.toArray⟩) true).run Tryz.prog w'=.ok (.tuple #[fnV kb,.bool true]) w')
  \/ (restQ x=tbQ/\∀ w',w'.heap[mb]? = w.heap[mb]?->(Instr.lookup 70 (.map (some mb)) (.string ⟨x.toArray⟩) true).run Tryz.prog w'=.ok (.tuple #[tbV,.bool true]) w'):=by
 obtain ⟨a,b,c,h1,h2,h3,h4⟩:=h
 have key:∀ w',w'.heap[mb]? = w.heap[mb]?->∃ v,(Instr.lookup 70 (.map (some mb)) (.string ⟨x.toArray⟩) true).run Tryz.prog w'=.ok (.tuple #[v,.bool (Maps.has (DirD a b c) (.string x))]) w'/\(DirD a b c).atKey (.string x) (.held .nilFunc)=.held v:=fun w' e=>by
  obtain ⟨v,ps,hrun,hv⟩:=(own_map_block h1 e).look_ok (t:=70) strLaw6 undDir (zfn w') (show RV .nilFunc=some (.held .nilFunc,[]) from rfl) (keyOf6 x hx)
  unfold RV at hv
  simp at hv
  exact ⟨v,hrun,hv.1.symm⟩
 have fin:∀ V bb,Maps.has (DirD a b c) (.string x)=bb->(DirD a b c).atKey (.string x) (.held .nilFunc)=.held V->∀ w',w'.heap[mb]? = w.heap[mb]?->(Instr.lookup 70 (.map (some mb)) (.string ⟨x.toArray⟩) true).run Tryz.prog w'=.ok (.tuple #[V,.bool bb]) w':=fun V bb e1 e2 w' e=>by
  obtain ⟨v,hrun,hv⟩:=key w' e
  rw [e2] at hv
  cases hv
  rw [<-e1]
  exact hrun
 by_cases e1:x=funcB
 ·
  refine .inr (.inl ⟨a,2,h2,by funext ts;unfold restQ;rw [if_pos e1],fin _ _ ?_ ?_⟩)
  · subst e1;rfl
  · subst e1;rfl
 by_cases e2:x=globB
 ·
  refine .inr (.inl ⟨b,3,h3,by funext ts;unfold restQ;rw [if_neg e1,if_pos e2],fin _ _ ?_ ?_⟩)
  · subst e2;rfl
  · subst e2;rfl
 by_cases e3:x=extB
 ·
  refine .inr (.inl ⟨c,4,h4,by funext ts;unfold restQ;rw [if_neg e1,if_neg e2,if_pos e3],fin _ _ ?_ ?_⟩)
  · subst e3;rfl
  · subst e3;rfl
 by_cases e4:x=mapB
 ·
  refine .inr (.inr ⟨by funext ts;unfold restQ;rw [if_neg e1,if_neg e2,if_neg e3,if_pos e4],fin _ _ ?_ ?_⟩)
  · subst e4;rfl
  · subst e4;rfl
 refine .inl ⟨by funext ts;unfold restQ;rw [if_neg e1,if_neg e2,if_neg e3,if_neg e4],fin _ _ ?_ ?_⟩
 ·
  unfold DirD
  rw [Maps.has_put_other (by simpa using e4),Maps.has_put_other (by simpa using e3),Maps.has_put_other (by simpa using e2),Maps.has_put_other (by simpa using e1)]
  rfl
 ·
  unfold DirD
  rw [Maps.atKey_put_other (by simpa using e4),Maps.atKey_put_other (by simpa using e3),Maps.atKey_put_other (by simpa using e2),Maps.atKey_put_other (by simpa using e1)]
  rfl
end Go.Proofs.YtadneimllbfdnaaGreatDoor
