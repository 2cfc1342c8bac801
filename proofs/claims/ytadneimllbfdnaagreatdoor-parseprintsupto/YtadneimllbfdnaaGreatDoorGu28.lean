import Derived.Test.YtadneimllbfdnaaGreatDoorGu25
namespace Go.Proofs.YtadneimllbfdnaaGreatDoor
open Go.RowKit
set_option linter.unusedVariables false
set_option linter.unusedSimpArgs false
theorem LsOk.off {B q:Nat} {w w':World} {x:Stm} {wv nv:Value} {cs:Array Value} {fr:Nat × Nat} (h:LsOk B w x wv nv) (hq:w.heap[q]? = some (.cells cs 42 fr)) (c:Chg (fun b=>b=q) w w'):LsOk B w' x wv nv:=
 ⟨owns_chg h.1 (fun k hk e=>own_kind h.1 hq (by decide) (by rw [<-e];exact hk)) c,owns_chg h.2 (fun k hk e=>own_kind h.2 hq (by decide) (by rw [<-e];exact hk)) c⟩
set_option maxRecDepth 20000 in
set_option maxHeartbeats 8000000 in
theorem directive_any (B:Nat) (w:World) (p g mb:Nat) (sv:Value) (ts:List Lx.Tk) (h:PS B w p g mb sv ts) (hl:Lw ts) (hN:TkOk ts) (hD:DirM w mb) (hB:B<=w.heap.size):Calls Tryz.prog 54 #[.pointer (some ⟨p,0,none⟩)] w (REndS (dirQ ts) B w p g mb sv):=by
 obtain ⟨X,hX⟩:∃ X,X=dirQ ts:=⟨_,rfl⟩
 rw [<-hX]
 have HX:=hidOf hX
 clear hX
 have hpl:=h.gl.1
 have hgl:=h.gl.2
 obtain ⟨w1,hw1⟩:∃ w1,w1=w.alloc (.cells #[.int .i64 0,.string ⟨#[]⟩,.slice none 0 0,.slice none 0 0,.int .i64 0,.int .i64 0,.int .i64 0,.int .i64 0,.int .i64 0,.string ⟨#[]⟩,.int .i64 0] 42):=⟨_,rfl⟩
 have o1:Out w w1:=by rw [hw1];exact (Out.refl w).alloc _
 have b1:w1.heap[w.heap.size]? = some (.cells #[.int .i64 0,.string ⟨#[]⟩,.slice none 0 0,.slice none 0 0,.int .i64 0,.int .i64 0,.int .i64 0,.int .i64 0,.int .i64 0,.string ⟨#[]⟩,.int .i64 0] 42 (0,0)):=by rw [hw1];exact heap_alloc_new w _
 have z1:w1.heap.size=w.heap.size+1:=by rw [hw1];exact size_alloc _ _
 have C0:=hidOf (fun m=>take_any B (w1.drewN m) p g mb sv ts 2 (h.out (o1.dN m)) hl)
 have HP1:=hidOf (h.out o1)
 have HD1:=hidOf (hD.out o1)
 obtain ⟨off,cap,hR,_⟩:=h.st
 have q1:w1.cell? ⟨p,1,none⟩=some (.map (some mb)):=cell_later o1 (by rw [cell_atL hR];rfl)
 have MK:Hid (∀ wx,Chg (fun b=>b=p) w1 wx->wx.heap[mb]? = w1.heap[mb]?):=hidOf (fun wx c=>by
  obtain ⟨a,b,c',h1,_⟩:=HD1.out
  refine c.block mb h1.lt (fun e=>?_)
  obtain ⟨es,cl,e2⟩:=own_map_form h1
  obtain ⟨off,cap,hR,_⟩:=HP1.out.st
  rw [e,show w1.heap[p]? = _ from hR] at e2
  cases e2)
 obtain ⟨M,hM⟩:∃ M,M=w1.heap[mb]?:=⟨_,rfl⟩
 rw [<-hM] at MK
 have M1:=hidOf hM.symm
 have B1:=hidOf b1
 have O1:=hidOf o1
 have Hw1:=hidOf hw1
 have Z1:=hidOf z1
 have HL:=hidOf hl
 have HN:=hidOf hN
 have HMk:=hidOf (show ∀ wx:World,wx.heap[mb]? = M->wx.heap[mb]? = w1.heap[mb]? from fun wx e=>e.trans hM)
 clear h hR b1 o1 hw1 z1 hM hD hl hN
 cases hq:tkQ 2 ts with
 | no c r=>
  have HE:Hid (X=.no c r):=hidOf (by rw [HX.out];unfold dirQ;rw [hq,bind_no])
  have C:Hid (∀ m,Calls Tryz.prog 52 #[.pointer (some ⟨p,0,none⟩),.int .i64 2] (w1.drewN m) fun e w'=>e=.panicked [{ v:=.iface 32 (.int .i64 c),recovered:=false }]/\PS B w' p g mb sv r/\Chg (fun b=>b=p) (w1.drewN m) w'):=hidOf (fun m=>by have:=C0.out m;rw [hq] at this;exact this)
  clear hq C0
  go_enter Tryz.func54,Tryz.ntmps54
  go_upto_region 1 with fail
  rw [<-Hw1.out]
  refine wp_region_held_drew (S:=(fun w'=>w'.cell? ⟨p,1,none⟩=some (.map (some mb))/\w'.heap[mb]? = M)) (by kernel_rfl) ?_ (fun hHeld=>?_)
  · exact ⟨q1,M1.out⟩
  refine tkLB [0,1,2,3,4] ?_
  iterate 5 (refine tkLC (v:=?_) rfl rfl (by kernel_rfl) (by kernel_rfl) (by kernel_rfl) (fun _ _ _ h=>h) (by rfl) (by assumption) ?_ ?_;rotate_left;(· (intro wy hSw;obtain ⟨hs1,hs2⟩:=hSw;go_simp;(try with_reducible rfl)));simp only [Act.put,List.setIfInBounds_toArray,List.set_cons_zero,List.set_cons_succ])
  refine tkLE ?_
  refine wpAnyH_ready (rs:=[5]) (by kernel_rfl) (by simp) ?_
  refine AllReadyH.cons rfl (fun K hK=>?_) AllReadyH.nil
  rw [if_pos (by rfl)]
  go_simp
  go_at_call 52
  refine (C.out 1).mono ?_
  rintro e w2 ⟨rfl,hp,hc⟩
  have P2:=hidOf hp
  have C2:=hidOf (Chg.then2 (Chg.of_out ((Out.refl w1).dN 1)) hc)
  clear hp hc
  rw [HE.out]
  exact ⟨rfl,rfl,P2.out,Chg.then2 (Chg.of_out O1.out) C2.out⟩
 | ok t r=>
  have hfl:=fldT1
  have hlr:Lw r:=by have:=tkQ_lw (k:=2) HL.out (by decide);rw [hq] at this;exact this
  have hNr:TkOk r:=by have:=tkQ_cl (k:=2) tkOk_clo HN.out;rw [hq] at this;exact this
  have htl:t.t.length<=1000000:=by
   obtain ⟨t',u',r',e⟩:=HL.out.two
   have hm:t ∈ ts:=by
    rw [e] at hq ⊢
    have hq':(if t'.k=2 then RE.ok t' (u'::r') else RE.no 60 (t'::u'::r'))=RE.ok t r:=hq
    by_cases e2:t'.k=2
    · rw [if_pos e2] at hq';cases hq';simp
    · rw [if_neg e2] at hq';cases hq'
   have:=(HN.out t hm).2.2
   omega
  have C:Hid (∀ m,Calls Tryz.prog 52 #[.pointer (some ⟨p,0,none⟩),.int .i64 2] (w1.drewN m) fun e w'=>e=.returned (.agg #[.int .i64 t.k,.string ⟨t.t.toArray⟩,.int .u64 t.n,.int .i64 t.l])/\PS B w' p g mb sv r/\Chg (fun b=>b=p) (w1.drewN m) w'):=hidOf (fun m=>by have:=C0.out m;rw [hq] at this;exact this)
  have HE0:Hid (X=(restQ t.t r).bind fun s r=>if kindQ r=5 then .ok s r else .no 61 r):=hidOf (by rw [HX.out];unfold dirQ;rw [hq,bind_ok])
  have HLr:=hidOf hlr
  have HNr:=hidOf hNr
  clear hq C0 hlr hNr HX
  rcases dir_look HD1.out t.t htl with ⟨hr,hrun⟩ | ⟨kb,kd,hbx,hr,hrun⟩ | ⟨hr,hrun⟩
  ·
   have HE:Hid (X=.no 60 r):=hidOf (by rw [HE0.out,hr];rfl)
   have HRun:=hidOf (fun wx e=>hrun wx (HMk.out wx e))
   clear hrun hr htl
   go_enter Tryz.func54,Tryz.ntmps54
   go_upto_region 1 with fail
   rw [<-Hw1.out]
   refine wp_region_held_drew (S:=(fun w'=>w'.cell? ⟨p,1,none⟩=some (.map (some mb))/\w'.heap[mb]? = M)) (by kernel_rfl) ?_ (fun hHeld=>?_)
   · exact ⟨q1,M1.out⟩
   refine tkLB [0,1,2,3,4] ?_
   iterate 5 (refine tkLC (v:=?_) rfl rfl (by kernel_rfl) (by kernel_rfl) (by kernel_rfl) (fun _ _ _ h=>h) (by rfl) (by assumption) ?_ ?_;rotate_left;(· (intro wy hSw;obtain ⟨hs1,hs2⟩:=hSw;go_simp;(try with_reducible rfl)));simp only [Act.put,List.setIfInBounds_toArray,List.set_cons_zero,List.set_cons_succ])
   refine tkLE ?_
   refine wpAnyH_ready (rs:=[5]) (by kernel_rfl) (by simp) ?_
   refine AllReadyH.cons rfl (fun K hK=>?_) AllReadyH.nil
   rw [if_pos (by rfl)]
   go_simp
   go_at_call 52
   refine (C.out 1).mono ?_
   rintro e w2 ⟨rfl,hp,hc⟩
   have P2:=hidOf hp
   have C2:=hidOf (Chg.then2 (Chg.of_out ((Out.refl w1).dN 1)) hc)
   clear hp hc
   have M2:Hid (w2.heap[mb]? = M):=hidOf (MK.out _ C2.out)
   have q2:w2.cell? ⟨p,1,none⟩=some (.map (some mb)):=by
    obtain ⟨off,cap,hR,_⟩:=P2.out.st
    rw [cell_atL hR];rfl
   refine hK.out _ _ ⟨q2,M2.out⟩ (fun hHeld=>?_)
   refine tkLB [6] ?_
   iterate 1 (refine tkLC (v:=?_) rfl rfl (by kernel_rfl) (by kernel_rfl) (by kernel_rfl) (fun _ _ _ h=>h) (by rfl) (by assumption) ?_ ?_;rotate_left;(· (intro wy hSw;obtain ⟨hs1,hs2⟩:=hSw;go_simp;(try with_reducible rfl)));simp only [Act.put,List.setIfInBounds_toArray,List.set_cons_zero,List.set_cons_succ])
   refine tkLE ?_
   refine tkLB [7] ?_
   iterate 1 (refine tkLC (v:=?_) rfl rfl (by kernel_rfl) (by kernel_rfl) (by kernel_rfl) (fun _ _ _ h=>h) (by rfl) (by assumption) ?_ ?_;rotate_left;(· (intro wy hSw;obtain ⟨hs1,hs2⟩:=hSw;have hr:=HRun.out _ hs2;go_simp;(try with_reducible rfl)));simp only [Act.put,List.setIfInBounds_toArray,List.set_cons_zero,List.set_cons_succ])
   refine tkLE ?_
   refine tkLB [8,9,10,11,12] ?_
   iterate 5 (refine tkLC (v:=?_) rfl rfl (by kernel_rfl) (by kernel_rfl) (by kernel_rfl) (fun _ _ _ h=>h) (by rfl) (by assumption) ?_ ?_;rotate_left;(· (intro wy hSw;obtain ⟨hs1,hs2⟩:=hSw;go_simp;(try with_reducible rfl)));simp only [Act.put,List.setIfInBounds_toArray,List.set_cons_zero,List.set_cons_succ])
   refine tkLE ?_
   refine wpAnyH_done (by kernel_rfl) ?_ _
   clear q2 q1 hfl
   go_wp2
   rw [HE.out]
   exact ⟨rfl,rfl,P2.out,Chg.then2 (Chg.of_out O1.out) C2.out⟩
  ·
   have HRun:=hidOf (fun wx e=>hrun wx (HMk.out wx e))
   unfold fnV at HRun
   have CN0:Hid (∀ wx,Chg (fun b=>b=p) w1 wx->PS B wx p g mb sv r->Calls Tryz.prog 74 #[.pointer (some ⟨p,0,none⟩),.pointer (some ⟨kb,0,none⟩)] wx (REndS (nmQ kd r) B wx p g mb sv)):=hidOf (fun wx hc hp=>named1_any B wx p g mb sv r kb kd hp HLr.out ((hc.block kb (Array.getElem?_eq_some_iff.1 hbx).1 (fun e=>by
    obtain ⟨off,cap,hR,_⟩:=HP1.out.st
    rw [e,BxI,show w1.heap[p]? = _ from hR] at hbx
    simp at hbx)).trans hbx) (by have:=hc.size;have:=Z1.out;omega))
   clear hrun htl hbx
   cases hz:nmQ kd r with
   | no c r'=>
    have HE:Hid (X=.no c r'):=hidOf (by rw [HE0.out,hr,hz];rfl)
    have CN:Hid (∀ wx,Chg (fun b=>b=p) w1 wx->PS B wx p g mb sv r->Calls Tryz.prog 74 #[.pointer (some ⟨p,0,none⟩),.pointer (some ⟨kb,0,none⟩)] wx fun e w'=>e=.panicked [{ v:=.iface 32 (.int .i64 c),recovered:=false }]/\PS B w' p g mb sv r'/\Chg (fun b=>b=p) wx w'):=hidOf (fun wx hc hp=>by have:=CN0.out wx hc hp;rw [hz] at this;exact this)
    clear hz hr HE0 CN0
    go_enter Tryz.func54,Tryz.ntmps54
    go_upto_region 1 with fail
    rw [<-Hw1.out]
    refine wp_region_held_drew (S:=(fun w'=>w'.cell? ⟨p,1,none⟩=some (.map (some mb))/\w'.heap[mb]? = M)) (by kernel_rfl) ?_ (fun hHeld=>?_)
    · exact ⟨q1,M1.out⟩
    refine tkLB [0,1,2,3,4] ?_
    iterate 5 (refine tkLC (v:=?_) rfl rfl (by kernel_rfl) (by kernel_rfl) (by kernel_rfl) (fun _ _ _ h=>h) (by rfl) (by assumption) ?_ ?_;rotate_left;(· (intro wy hSw;obtain ⟨hs1,hs2⟩:=hSw;go_simp;(try with_reducible rfl)));simp only [Act.put,List.setIfInBounds_toArray,List.set_cons_zero,List.set_cons_succ])
    refine tkLE ?_
    refine wpAnyH_ready (rs:=[5]) (by kernel_rfl) (by simp) ?_
    refine AllReadyH.cons rfl (fun K hK=>?_) AllReadyH.nil
    rw [if_pos (by rfl)]
    go_simp
    go_at_call 52
    refine (C.out 1).mono ?_
    rintro e w2 ⟨rfl,hp,hc⟩
    have P2:=hidOf hp
    have C2:=hidOf (Chg.then2 (Chg.of_out ((Out.refl w1).dN 1)) hc)
    clear hp hc
    have M2:Hid (w2.heap[mb]? = M):=hidOf (MK.out _ C2.out)
    have q2:w2.cell? ⟨p,1,none⟩=some (.map (some mb)):=by
     obtain ⟨off,cap,hR,_⟩:=P2.out.st
     rw [cell_atL hR];rfl
    refine hK.out _ _ ⟨q2,M2.out⟩ (fun hHeld=>?_)
    refine tkLB [6] ?_
    iterate 1 (refine tkLC (v:=?_) rfl rfl (by kernel_rfl) (by kernel_rfl) (by kernel_rfl) (fun _ _ _ h=>h) (by rfl) (by assumption) ?_ ?_;rotate_left;(· (intro wy hSw;obtain ⟨hs1,hs2⟩:=hSw;go_simp;(try with_reducible rfl)));simp only [Act.put,List.setIfInBounds_toArray,List.set_cons_zero,List.set_cons_succ])
    refine tkLE ?_
    refine tkLB [7] ?_
    iterate 1 (refine tkLC (v:=?_) rfl rfl (by kernel_rfl) (by kernel_rfl) (by kernel_rfl) (fun _ _ _ h=>h) (by rfl) (by assumption) ?_ ?_;rotate_left;(· (intro wy hSw;obtain ⟨hs1,hs2⟩:=hSw;have hr:=HRun.out _ hs2;go_simp;(try with_reducible rfl)));simp only [Act.put,List.setIfInBounds_toArray,List.set_cons_zero,List.set_cons_succ])
    refine tkLE ?_
    refine tkLB [8,9,10,11,12] ?_
    iterate 5 (refine tkLC (v:=?_) rfl rfl (by kernel_rfl) (by kernel_rfl) (by kernel_rfl) (fun _ _ _ h=>h) (by rfl) (by assumption) ?_ ?_;rotate_left;(· (intro wy hSw;obtain ⟨hs1,hs2⟩:=hSw;go_simp;(try with_reducible rfl)));simp only [Act.put,List.setIfInBounds_toArray,List.set_cons_zero,List.set_cons_succ])
    refine tkLE ?_
    refine wpAnyH_done (by kernel_rfl) ?_ _
    clear q2 q1 hfl
    go_wp2_with (go_at_call 74;refine (CN.out _ C2.out P2.out).mono ?_;rintro e w3 ⟨rfl,hp,hc⟩;have P3:=hidOf hp;have C3:=hidOf hc;clear hp hc)
    rw [HE.out]
    exact ⟨rfl,rfl,P3.out,Chg.then2 (Chg.then2 (Chg.of_out O1.out) C2.out) C3.out⟩
   | ok s r'=>
    have hlr':Lw r':=by have:=restQ_lw (x:=t.t) HLr.out;rw [hr,hz] at this;exact this
    have HE0:Hid (X=if kindQ r'=5 then .ok s r' else .no 61 r'):=hidOf (by rw [HE0.out,hr,hz];rfl)
    obtain ⟨nw,hnw⟩:∃ nw,nw=s.ws.length:=⟨_,rfl⟩
    obtain ⟨nn,hnn⟩:∃ nn,nn=s.ns.length:=⟨_,rfl⟩
    have CN:Hid (∀ wx,Chg (fun b=>b=p) w1 wx->PS B wx p g mb sv r->Calls Tryz.prog 74 #[.pointer (some ⟨p,0,none⟩),.pointer (some ⟨kb,0,none⟩)] wx fun e w'=>∃ aw cw an cn,e=.returned (.agg #[.int .i64 s.k,.string ⟨s.nm.toArray⟩,.slice aw nw cw,.slice an nn cn,.int .i64 s.o,.int .i64 s.d,.int .i64 s.s,.int .i64 s.f,.int .i64 s.i,.string ⟨s.tg.toArray⟩,.int .i64 s.l])/\LsOk B w' s (.slice aw nw cw) (.slice an nn cn)/\PS B w' p g mb sv r'/\Chg (fun b=>b=p) wx w'):=hidOf (fun wx hc hp=>by
     have:=CN0.out wx hc hp
     rw [hz] at this
     refine this.mono ?_
     rintro e w' ⟨wv,nv,rfl,hls,hp',hc'⟩
     obtain ⟨aw,cw,rfl⟩:=own_form hls.1
     obtain ⟨an,cn,rfl⟩:=own_form hls.2
     rw [hnw,hnn]
     exact ⟨aw,cw,an,cn,rfl,hls,hp',hc'⟩)
    clear hz hr CN0 hnw hnn
    obtain ⟨u,v,r2,rfl⟩:=hlr'.two
    clear hlr'
    by_cases hk:u.k=5
    ·
     have hkb:(u.k != 5)=false:=by simp [hk]
     have HE:Hid (X=.ok s (u::v::r2)):=hidOf (by rw [HE0.out,if_pos (show kindQ (u::v::r2)=5 from hk)])
     clear hk HE0
     go_enter Tryz.func54,Tryz.ntmps54
     go_upto_region 1 with fail
     rw [<-Hw1.out]
     refine wp_region_held_drew (S:=(fun w'=>w'.cell? ⟨p,1,none⟩=some (.map (some mb))/\w'.heap[mb]? = M)) (by kernel_rfl) ?_ (fun hHeld=>?_)
     · exact ⟨q1,M1.out⟩
     refine tkLB [0,1,2,3,4] ?_
     iterate 5 (refine tkLC (v:=?_) rfl rfl (by kernel_rfl) (by kernel_rfl) (by kernel_rfl) (fun _ _ _ h=>h) (by rfl) (by assumption) ?_ ?_;rotate_left;(· (intro wy hSw;obtain ⟨hs1,hs2⟩:=hSw;go_simp;(try with_reducible rfl)));simp only [Act.put,List.setIfInBounds_toArray,List.set_cons_zero,List.set_cons_succ])
     refine tkLE ?_
     refine wpAnyH_ready (rs:=[5]) (by kernel_rfl) (by simp) ?_
     refine AllReadyH.cons rfl (fun K hK=>?_) AllReadyH.nil
     rw [if_pos (by rfl)]
     go_simp
     go_at_call 52
     refine (C.out 1).mono ?_
     rintro e w2 ⟨rfl,hp,hc⟩
     have P2:=hidOf hp
     have C2:=hidOf (Chg.then2 (Chg.of_out ((Out.refl w1).dN 1)) hc)
     clear hp hc
     have M2:Hid (w2.heap[mb]? = M):=hidOf (MK.out _ C2.out)
     have q2:w2.cell? ⟨p,1,none⟩=some (.map (some mb)):=by
      obtain ⟨off,cap,hR,_⟩:=P2.out.st
      rw [cell_atL hR];rfl
     refine hK.out _ _ ⟨q2,M2.out⟩ (fun hHeld=>?_)
     refine tkLB [6] ?_
     iterate 1 (refine tkLC (v:=?_) rfl rfl (by kernel_rfl) (by kernel_rfl) (by kernel_rfl) (fun _ _ _ h=>h) (by rfl) (by assumption) ?_ ?_;rotate_left;(· (intro wy hSw;obtain ⟨hs1,hs2⟩:=hSw;go_simp;(try with_reducible rfl)));simp only [Act.put,List.setIfInBounds_toArray,List.set_cons_zero,List.set_cons_succ])
     refine tkLE ?_
     refine tkLB [7] ?_
     iterate 1 (refine tkLC (v:=?_) rfl rfl (by kernel_rfl) (by kernel_rfl) (by kernel_rfl) (fun _ _ _ h=>h) (by rfl) (by assumption) ?_ ?_;rotate_left;(· (intro wy hSw;obtain ⟨hs1,hs2⟩:=hSw;have hr:=HRun.out _ hs2;go_simp;(try with_reducible rfl)));simp only [Act.put,List.setIfInBounds_toArray,List.set_cons_zero,List.set_cons_succ])
     refine tkLE ?_
     refine tkLB [8,9,10,11,12] ?_
     iterate 5 (refine tkLC (v:=?_) rfl rfl (by kernel_rfl) (by kernel_rfl) (by kernel_rfl) (fun _ _ _ h=>h) (by rfl) (by assumption) ?_ ?_;rotate_left;(· (intro wy hSw;obtain ⟨hs1,hs2⟩:=hSw;go_simp;(try with_reducible rfl)));simp only [Act.put,List.setIfInBounds_toArray,List.set_cons_zero,List.set_cons_succ])
     refine tkLE ?_
     refine wpAnyH_done (by kernel_rfl) ?_ _
     clear q2 q1 hfl
     go_upto_region 5 with (go_at_call 74;refine (CN.out _ C2.out P2.out).mono ?_;rintro e w3 ⟨aw,cw,an,cn,rfl,hls,hp,hc⟩;have L3:=hidOf hls;have P3:=hidOf hp;have C3:=hidOf hc;clear hls hp hc)
     obtain ⟨w4,hw4⟩:∃ w4,w4=w3.alloc (.cells #[.int .i64 s.k,.string ⟨s.nm.toArray⟩,.slice aw nw cw,.slice an nn cn,.int .i64 s.o,.int .i64 s.d,.int .i64 s.s,.int .i64 s.f,.int .i64 s.i,.string ⟨s.tg.toArray⟩,.int .i64 s.l] 42):=⟨_,rfl⟩
     have O4:Hid (Out w3 w4):=hidOf (by rw [hw4];exact (Out.refl w3).alloc _)
     have b4:w4.heap[w3.heap.size]? = some (.cells #[.int .i64 s.k,.string ⟨s.nm.toArray⟩,.slice aw nw cw,.slice an nn cn,.int .i64 s.o,.int .i64 s.d,.int .i64 s.s,.int .i64 s.f,.int .i64 s.i,.string ⟨s.tg.toArray⟩,.int .i64 s.l] 42 (0,0)):=by rw [hw4];exact heap_alloc_new w3 _
     rw [<-hw4]
     have P4:=hidOf (P3.out.out O4.out)
     obtain ⟨off,cap,hR,hT,hc⟩:=P4.out.st
     obtain ⟨u0, -, -, -⟩:=hT 0 u rfl
     simp only [Nat.zero_mul,Nat.add_zero] at u0
     obtain ⟨n,hn⟩:∃ n,n=(u::v::r2).length:=⟨_,rfl⟩
     have hnI:(2:Int)<=n:=by rw [hn];simp;omega
     rw [<-hn] at hR
     have c0:w4.cell? ⟨p,0,none⟩=some (.slice (some ⟨g,off,none⟩) n cap):=by rw [cell_atL hR];rfl
     have HR4:=hidOf hR
     have m0:w4.cell? ⟨w3.heap.size,0,none⟩=some (.int .i64 s.k):=by rw [cell_atL b4];rfl
     have m1:w4.cell? ⟨w3.heap.size,1,none⟩=some (.string ⟨s.nm.toArray⟩):=by rw [cell_atL b4];rfl
     have m2:w4.cell? ⟨w3.heap.size,2,none⟩=some (.slice aw nw cw):=by rw [cell_atL b4];rfl
     have m3:w4.cell? ⟨w3.heap.size,3,none⟩=some (.slice an nn cn):=by rw [cell_atL b4];rfl
     have m4:w4.cell? ⟨w3.heap.size,4,none⟩=some (.int .i64 s.o):=by rw [cell_atL b4];rfl
     have m5:w4.cell? ⟨w3.heap.size,5,none⟩=some (.int .i64 s.d):=by rw [cell_atL b4];rfl
     have m6:w4.cell? ⟨w3.heap.size,6,none⟩=some (.int .i64 s.s):=by rw [cell_atL b4];rfl
     have m7:w4.cell? ⟨w3.heap.size,7,none⟩=some (.int .i64 s.f):=by rw [cell_atL b4];rfl
     have m8:w4.cell? ⟨w3.heap.size,8,none⟩=some (.int .i64 s.i):=by rw [cell_atL b4];rfl
     have m9:w4.cell? ⟨w3.heap.size,9,none⟩=some (.string ⟨s.tg.toArray⟩):=by rw [cell_atL b4];rfl
     have m10:w4.cell? ⟨w3.heap.size,10,none⟩=some (.int .i64 s.l):=by rw [cell_atL b4];rfl
     have s3:w1.heap.size<=w3.heap.size:=(Chg.then2 C2.out C3.out).size
     have z4:w4.heap[w.heap.size]? = some (.cells #[.int .i64 0,.string ⟨#[]⟩,.slice none 0 0,.slice none 0 0,.int .i64 0,.int .i64 0,.int .i64 0,.int .i64 0,.int .i64 0,.string ⟨#[]⟩,.int .i64 0] 42 (0,0)):=(O4.out.block _ (by have:=Z1.out;omega)).trans (((Chg.then2 C2.out C3.out).block _ (by have:=Z1.out;omega) (fun e=>by omega)).trans B1.out)
     have y0:w4.cell? ⟨w.heap.size,0,none⟩=some (.int .i64 0):=by rw [cell_atL z4];rfl
     have f0:=frozen_atL z4 0
     have y1:w4.cell? ⟨w.heap.size,1,none⟩=some (.string ⟨#[]⟩):=by rw [cell_atL z4];rfl
     have f1:=frozen_atL z4 1
     have y2:w4.cell? ⟨w.heap.size,2,none⟩=some (.slice none 0 0):=by rw [cell_atL z4];rfl
     have f2:=frozen_atL z4 2
     have y3:w4.cell? ⟨w.heap.size,3,none⟩=some (.slice none 0 0):=by rw [cell_atL z4];rfl
     have f3:=frozen_atL z4 3
     have y4:w4.cell? ⟨w.heap.size,4,none⟩=some (.int .i64 0):=by rw [cell_atL z4];rfl
     have f4:=frozen_atL z4 4
     have y5:w4.cell? ⟨w.heap.size,5,none⟩=some (.int .i64 0):=by rw [cell_atL z4];rfl
     have f5:=frozen_atL z4 5
     have y6:w4.cell? ⟨w.heap.size,6,none⟩=some (.int .i64 0):=by rw [cell_atL z4];rfl
     have f6:=frozen_atL z4 6
     have y7:w4.cell? ⟨w.heap.size,7,none⟩=some (.int .i64 0):=by rw [cell_atL z4];rfl
     have f7:=frozen_atL z4 7
     have y8:w4.cell? ⟨w.heap.size,8,none⟩=some (.int .i64 0):=by rw [cell_atL z4];rfl
     have f8:=frozen_atL z4 8
     have y9:w4.cell? ⟨w.heap.size,9,none⟩=some (.string ⟨#[]⟩):=by rw [cell_atL z4];rfl
     have f9:=frozen_atL z4 9
     have y10:w4.cell? ⟨w.heap.size,10,none⟩=some (.int .i64 0):=by rw [cell_atL z4];rfl
     have f10:=frozen_atL z4 10
     have HZ:=hidOf z4
     clear hw4 b4 z4 hR hT hc hn s3
     go_wp2
     have c3:=set11_chg w4 w.heap.size (.int .i64 s.k) (.string ⟨s.nm.toArray⟩) (.slice aw nw cw) (.slice an nn cn) (.int .i64 s.o) (.int .i64 s.d) (.int .i64 s.s) (.int .i64 s.f) (.int .i64 s.i) (.string ⟨s.tg.toArray⟩) (.int .i64 s.l)
     have b3:=set11_heap (a0:=.int .i64 s.k) (a1:=.string ⟨s.nm.toArray⟩) (a2:=.slice aw nw cw) (a3:=.slice an nn cn) (a4:=.int .i64 s.o) (a5:=.int .i64 s.d) (a6:=.int .i64 s.s) (a7:=.int .i64 s.f) (a8:=.int .i64 s.i) (a9:=.string ⟨s.tg.toArray⟩) (a10:=.int .i64 s.l) HZ.out
     refine bodyPost_ret (results_cell_row rfl _ _ w.heap.size 42 _ (0,0) _ rfl b3 Tryz.underlying42 rfl size11) rfl ?_
     rw [HE.out]
     have cw:Chg (fun b=>b=p) w w4:=Chg.then2 (Chg.then2 (Chg.then2 (Chg.of_out O1.out) C2.out) C3.out) (Chg.of_out O4.out)
     refine ⟨_,_,rfl, ?_,P4.out.setq c3 (fun e=>by omega) (fun e=>by omega),cw.trans c3 (fun x hx hlt=>by omega)⟩
     have L4:=L3.out.out O4.out
     exact L4.off HZ.out c3
    ·
     have hkb:(u.k != 5)=true:=by simp [hk]
     have HE:Hid (X=.no 61 (u::v::r2)):=hidOf (by rw [HE0.out,if_neg (show ¬kindQ (u::v::r2)=5 from hk)])
     clear hk HE0
     go_enter Tryz.func54,Tryz.ntmps54
     go_upto_region 1 with fail
     rw [<-Hw1.out]
     refine wp_region_held_drew (S:=(fun w'=>w'.cell? ⟨p,1,none⟩=some (.map (some mb))/\w'.heap[mb]? = M)) (by kernel_rfl) ?_ (fun hHeld=>?_)
     · exact ⟨q1,M1.out⟩
     refine tkLB [0,1,2,3,4] ?_
     iterate 5 (refine tkLC (v:=?_) rfl rfl (by kernel_rfl) (by kernel_rfl) (by kernel_rfl) (fun _ _ _ h=>h) (by rfl) (by assumption) ?_ ?_;rotate_left;(· (intro wy hSw;obtain ⟨hs1,hs2⟩:=hSw;go_simp;(try with_reducible rfl)));simp only [Act.put,List.setIfInBounds_toArray,List.set_cons_zero,List.set_cons_succ])
     refine tkLE ?_
     refine wpAnyH_ready (rs:=[5]) (by kernel_rfl) (by simp) ?_
     refine AllReadyH.cons rfl (fun K hK=>?_) AllReadyH.nil
     rw [if_pos (by rfl)]
     go_simp
     go_at_call 52
     refine (C.out 1).mono ?_
     rintro e w2 ⟨rfl,hp,hc⟩
     have P2:=hidOf hp
     have C2:=hidOf (Chg.then2 (Chg.of_out ((Out.refl w1).dN 1)) hc)
     clear hp hc
     have M2:Hid (w2.heap[mb]? = M):=hidOf (MK.out _ C2.out)
     have q2:w2.cell? ⟨p,1,none⟩=some (.map (some mb)):=by
      obtain ⟨off,cap,hR,_⟩:=P2.out.st
      rw [cell_atL hR];rfl
     refine hK.out _ _ ⟨q2,M2.out⟩ (fun hHeld=>?_)
     refine tkLB [6] ?_
     iterate 1 (refine tkLC (v:=?_) rfl rfl (by kernel_rfl) (by kernel_rfl) (by kernel_rfl) (fun _ _ _ h=>h) (by rfl) (by assumption) ?_ ?_;rotate_left;(· (intro wy hSw;obtain ⟨hs1,hs2⟩:=hSw;go_simp;(try with_reducible rfl)));simp only [Act.put,List.setIfInBounds_toArray,List.set_cons_zero,List.set_cons_succ])
     refine tkLE ?_
     refine tkLB [7] ?_
     iterate 1 (refine tkLC (v:=?_) rfl rfl (by kernel_rfl) (by kernel_rfl) (by kernel_rfl) (fun _ _ _ h=>h) (by rfl) (by assumption) ?_ ?_;rotate_left;(· (intro wy hSw;obtain ⟨hs1,hs2⟩:=hSw;have hr:=HRun.out _ hs2;go_simp;(try with_reducible rfl)));simp only [Act.put,List.setIfInBounds_toArray,List.set_cons_zero,List.set_cons_succ])
     refine tkLE ?_
     refine tkLB [8,9,10,11,12] ?_
     iterate 5 (refine tkLC (v:=?_) rfl rfl (by kernel_rfl) (by kernel_rfl) (by kernel_rfl) (fun _ _ _ h=>h) (by rfl) (by assumption) ?_ ?_;rotate_left;(· (intro wy hSw;obtain ⟨hs1,hs2⟩:=hSw;go_simp;(try with_reducible rfl)));simp only [Act.put,List.setIfInBounds_toArray,List.set_cons_zero,List.set_cons_succ])
     refine tkLE ?_
     refine wpAnyH_done (by kernel_rfl) ?_ _
     clear q2 q1 hfl
     go_upto_region 5 with (go_at_call 74;refine (CN.out _ C2.out P2.out).mono ?_;rintro e w3 ⟨aw,cw,an,cn,rfl,hls,hp,hc⟩;have L3:=hidOf hls;have P3:=hidOf hp;have C3:=hidOf hc;clear hls hp hc)
     obtain ⟨w4,hw4⟩:∃ w4,w4=w3.alloc (.cells #[.int .i64 s.k,.string ⟨s.nm.toArray⟩,.slice aw nw cw,.slice an nn cn,.int .i64 s.o,.int .i64 s.d,.int .i64 s.s,.int .i64 s.f,.int .i64 s.i,.string ⟨s.tg.toArray⟩,.int .i64 s.l] 42):=⟨_,rfl⟩
     have O4:Hid (Out w3 w4):=hidOf (by rw [hw4];exact (Out.refl w3).alloc _)
     have b4:w4.heap[w3.heap.size]? = some (.cells #[.int .i64 s.k,.string ⟨s.nm.toArray⟩,.slice aw nw cw,.slice an nn cn,.int .i64 s.o,.int .i64 s.d,.int .i64 s.s,.int .i64 s.f,.int .i64 s.i,.string ⟨s.tg.toArray⟩,.int .i64 s.l] 42 (0,0)):=by rw [hw4];exact heap_alloc_new w3 _
     rw [<-hw4]
     have P4:=hidOf (P3.out.out O4.out)
     obtain ⟨off,cap,hR,hT,hc⟩:=P4.out.st
     obtain ⟨u0, -, -, -⟩:=hT 0 u rfl
     simp only [Nat.zero_mul,Nat.add_zero] at u0
     obtain ⟨n,hn⟩:∃ n,n=(u::v::r2).length:=⟨_,rfl⟩
     have hnI:(2:Int)<=n:=by rw [hn];simp;omega
     rw [<-hn] at hR
     have c0:w4.cell? ⟨p,0,none⟩=some (.slice (some ⟨g,off,none⟩) n cap):=by rw [cell_atL hR];rfl
     have HR4:=hidOf hR
     clear hw4 b4 hR hT hc hn
     go_wp2
     rw [HE.out]
     exact ⟨rfl,rfl,P4.out,Chg.then2 (Chg.then2 (Chg.then2 (Chg.of_out O1.out) C2.out) C3.out) (Chg.of_out O4.out)⟩
  ·
   have HRun:=hidOf (fun wx e=>hrun wx (HMk.out wx e))
   unfold tbV at HRun
   have CN0:Hid (∀ wx,Chg (fun b=>b=p) w1 wx->PS B wx p g mb sv r->Calls Tryz.prog 47 #[.pointer (some ⟨p,0,none⟩)] wx (REndS (tbQ r) B wx p g mb sv)):=hidOf (fun wx hc hp=>table_any B wx p g mb sv r hp HLr.out HNr.out (by have:=hc.size;have:=Z1.out;omega))
   clear hrun htl
   cases hz:tbQ r with
   | no c r'=>
    have HE:Hid (X=.no c r'):=hidOf (by rw [HE0.out,hr,hz];rfl)
    have CN:Hid (∀ wx,Chg (fun b=>b=p) w1 wx->PS B wx p g mb sv r->Calls Tryz.prog 47 #[.pointer (some ⟨p,0,none⟩)] wx fun e w'=>e=.panicked [{ v:=.iface 32 (.int .i64 c),recovered:=false }]/\PS B w' p g mb sv r'/\Chg (fun b=>b=p) wx w'):=hidOf (fun wx hc hp=>by have:=CN0.out wx hc hp;rw [hz] at this;exact this)
    clear hz hr HE0 CN0
    go_enter Tryz.func54,Tryz.ntmps54
    go_upto_region 1 with fail
    rw [<-Hw1.out]
    refine wp_region_held_drew (S:=(fun w'=>w'.cell? ⟨p,1,none⟩=some (.map (some mb))/\w'.heap[mb]? = M)) (by kernel_rfl) ?_ (fun hHeld=>?_)
    · exact ⟨q1,M1.out⟩
    refine tkLB [0,1,2,3,4] ?_
    iterate 5 (refine tkLC (v:=?_) rfl rfl (by kernel_rfl) (by kernel_rfl) (by kernel_rfl) (fun _ _ _ h=>h) (by rfl) (by assumption) ?_ ?_;rotate_left;(· (intro wy hSw;obtain ⟨hs1,hs2⟩:=hSw;go_simp;(try with_reducible rfl)));simp only [Act.put,List.setIfInBounds_toArray,List.set_cons_zero,List.set_cons_succ])
    refine tkLE ?_
    refine wpAnyH_ready (rs:=[5]) (by kernel_rfl) (by simp) ?_
    refine AllReadyH.cons rfl (fun K hK=>?_) AllReadyH.nil
    rw [if_pos (by rfl)]
    go_simp
    go_at_call 52
    refine (C.out 1).mono ?_
    rintro e w2 ⟨rfl,hp,hc⟩
    have P2:=hidOf hp
    have C2:=hidOf (Chg.then2 (Chg.of_out ((Out.refl w1).dN 1)) hc)
    clear hp hc
    have M2:Hid (w2.heap[mb]? = M):=hidOf (MK.out _ C2.out)
    have q2:w2.cell? ⟨p,1,none⟩=some (.map (some mb)):=by
     obtain ⟨off,cap,hR,_⟩:=P2.out.st
     rw [cell_atL hR];rfl
    refine hK.out _ _ ⟨q2,M2.out⟩ (fun hHeld=>?_)
    refine tkLB [6] ?_
    iterate 1 (refine tkLC (v:=?_) rfl rfl (by kernel_rfl) (by kernel_rfl) (by kernel_rfl) (fun _ _ _ h=>h) (by rfl) (by assumption) ?_ ?_;rotate_left;(· (intro wy hSw;obtain ⟨hs1,hs2⟩:=hSw;go_simp;(try with_reducible rfl)));simp only [Act.put,List.setIfInBounds_toArray,List.set_cons_zero,List.set_cons_succ])
    refine tkLE ?_
    refine tkLB [7] ?_
    iterate 1 (refine tkLC (v:=?_) rfl rfl (by kernel_rfl) (by kernel_rfl) (by kernel_rfl) (fun _ _ _ h=>h) (by rfl) (by assumption) ?_ ?_;rotate_left;(· (intro wy hSw;obtain ⟨hs1,hs2⟩:=hSw;have hr:=HRun.out _ hs2;go_simp;(try with_reducible rfl)));simp only [Act.put,List.setIfInBounds_toArray,List.set_cons_zero,List.set_cons_succ])
    refine tkLE ?_
    refine tkLB [8,9,10,11,12] ?_
    iterate 5 (refine tkLC (v:=?_) rfl rfl (by kernel_rfl) (by kernel_rfl) (by kernel_rfl) (fun _ _ _ h=>h) (by rfl) (by assumption) ?_ ?_;rotate_left;(· (intro wy hSw;obtain ⟨hs1,hs2⟩:=hSw;go_simp;(try with_reducible rfl)));simp only [Act.put,List.setIfInBounds_toArray,List.set_cons_zero,List.set_cons_succ])
    refine tkLE ?_
    refine wpAnyH_done (by kernel_rfl) ?_ _
    clear q2 q1 hfl
    go_wp2_with (go_at_call 47;refine (CN.out _ C2.out P2.out).mono ?_;rintro e w3 ⟨rfl,hp,hc⟩;have P3:=hidOf hp;have C3:=hidOf hc;clear hp hc)
    rw [HE.out]
    exact ⟨rfl,rfl,P3.out,Chg.then2 (Chg.then2 (Chg.of_out O1.out) C2.out) C3.out⟩
   | ok s r'=>
    have hlr':Lw r':=by have:=restQ_lw (x:=t.t) HLr.out;rw [hr,hz] at this;exact this
    have HE0:Hid (X=if kindQ r'=5 then .ok s r' else .no 61 r'):=hidOf (by rw [HE0.out,hr,hz];rfl)
    obtain ⟨nw,hnw⟩:∃ nw,nw=s.ws.length:=⟨_,rfl⟩
    obtain ⟨nn,hnn⟩:∃ nn,nn=s.ns.length:=⟨_,rfl⟩
    have CN:Hid (∀ wx,Chg (fun b=>b=p) w1 wx->PS B wx p g mb sv r->Calls Tryz.prog 47 #[.pointer (some ⟨p,0,none⟩)] wx fun e w'=>∃ aw cw an cn,e=.returned (.agg #[.int .i64 s.k,.string ⟨s.nm.toArray⟩,.slice aw nw cw,.slice an nn cn,.int .i64 s.o,.int .i64 s.d,.int .i64 s.s,.int .i64 s.f,.int .i64 s.i,.string ⟨s.tg.toArray⟩,.int .i64 s.l])/\LsOk B w' s (.slice aw nw cw) (.slice an nn cn)/\PS B w' p g mb sv r'/\Chg (fun b=>b=p) wx w'):=hidOf (fun wx hc hp=>by
     have:=CN0.out wx hc hp
     rw [hz] at this
     refine this.mono ?_
     rintro e w' ⟨wv,nv,rfl,hls,hp',hc'⟩
     obtain ⟨aw,cw,rfl⟩:=own_form hls.1
     obtain ⟨an,cn,rfl⟩:=own_form hls.2
     rw [hnw,hnn]
     exact ⟨aw,cw,an,cn,rfl,hls,hp',hc'⟩)
    clear hz hr CN0 hnw hnn
    obtain ⟨u,v,r2,rfl⟩:=hlr'.two
    clear hlr'
    by_cases hk:u.k=5
    ·
     have hkb:(u.k != 5)=false:=by simp [hk]
     have HE:Hid (X=.ok s (u::v::r2)):=hidOf (by rw [HE0.out,if_pos (show kindQ (u::v::r2)=5 from hk)])
     clear hk HE0
     go_enter Tryz.func54,Tryz.ntmps54
     go_upto_region 1 with fail
     rw [<-Hw1.out]
     refine wp_region_held_drew (S:=(fun w'=>w'.cell? ⟨p,1,none⟩=some (.map (some mb))/\w'.heap[mb]? = M)) (by kernel_rfl) ?_ (fun hHeld=>?_)
     · exact ⟨q1,M1.out⟩
     refine tkLB [0,1,2,3,4] ?_
     iterate 5 (refine tkLC (v:=?_) rfl rfl (by kernel_rfl) (by kernel_rfl) (by kernel_rfl) (fun _ _ _ h=>h) (by rfl) (by assumption) ?_ ?_;rotate_left;(· (intro wy hSw;obtain ⟨hs1,hs2⟩:=hSw;go_simp;(try with_reducible rfl)));simp only [Act.put,List.setIfInBounds_toArray,List.set_cons_zero,List.set_cons_succ])
     refine tkLE ?_
     refine wpAnyH_ready (rs:=[5]) (by kernel_rfl) (by simp) ?_
     refine AllReadyH.cons rfl (fun K hK=>?_) AllReadyH.nil
     rw [if_pos (by rfl)]
     go_simp
     go_at_call 52
     refine (C.out 1).mono ?_
     rintro e w2 ⟨rfl,hp,hc⟩
     have P2:=hidOf hp
     have C2:=hidOf (Chg.then2 (Chg.of_out ((Out.refl w1).dN 1)) hc)
     clear hp hc
     have M2:Hid (w2.heap[mb]? = M):=hidOf (MK.out _ C2.out)
     have q2:w2.cell? ⟨p,1,none⟩=some (.map (some mb)):=by
      obtain ⟨off,cap,hR,_⟩:=P2.out.st
      rw [cell_atL hR];rfl
     refine hK.out _ _ ⟨q2,M2.out⟩ (fun hHeld=>?_)
     refine tkLB [6] ?_
     iterate 1 (refine tkLC (v:=?_) rfl rfl (by kernel_rfl) (by kernel_rfl) (by kernel_rfl) (fun _ _ _ h=>h) (by rfl) (by assumption) ?_ ?_;rotate_left;(· (intro wy hSw;obtain ⟨hs1,hs2⟩:=hSw;go_simp;(try with_reducible rfl)));simp only [Act.put,List.setIfInBounds_toArray,List.set_cons_zero,List.set_cons_succ])
     refine tkLE ?_
     refine tkLB [7] ?_
     iterate 1 (refine tkLC (v:=?_) rfl rfl (by kernel_rfl) (by kernel_rfl) (by kernel_rfl) (fun _ _ _ h=>h) (by rfl) (by assumption) ?_ ?_;rotate_left;(· (intro wy hSw;obtain ⟨hs1,hs2⟩:=hSw;have hr:=HRun.out _ hs2;go_simp;(try with_reducible rfl)));simp only [Act.put,List.setIfInBounds_toArray,List.set_cons_zero,List.set_cons_succ])
     refine tkLE ?_
     refine tkLB [8,9,10,11,12] ?_
     iterate 5 (refine tkLC (v:=?_) rfl rfl (by kernel_rfl) (by kernel_rfl) (by kernel_rfl) (fun _ _ _ h=>h) (by rfl) (by assumption) ?_ ?_;rotate_left;(· (intro wy hSw;obtain ⟨hs1,hs2⟩:=hSw;go_simp;(try with_reducible rfl)));simp only [Act.put,List.setIfInBounds_toArray,List.set_cons_zero,List.set_cons_succ])
     refine tkLE ?_
     refine wpAnyH_done (by kernel_rfl) ?_ _
     clear q2 q1 hfl
     go_upto_region 5 with (go_at_call 47;refine (CN.out _ C2.out P2.out).mono ?_;rintro e w3 ⟨aw,cw,an,cn,rfl,hls,hp,hc⟩;have L3:=hidOf hls;have P3:=hidOf hp;have C3:=hidOf hc;clear hls hp hc)
     obtain ⟨w4,hw4⟩:∃ w4,w4=w3.alloc (.cells #[.int .i64 s.k,.string ⟨s.nm.toArray⟩,.slice aw nw cw,.slice an nn cn,.int .i64 s.o,.int .i64 s.d,.int .i64 s.s,.int .i64 s.f,.int .i64 s.i,.string ⟨s.tg.toArray⟩,.int .i64 s.l] 42):=⟨_,rfl⟩
     have O4:Hid (Out w3 w4):=hidOf (by rw [hw4];exact (Out.refl w3).alloc _)
     have b4:w4.heap[w3.heap.size]? = some (.cells #[.int .i64 s.k,.string ⟨s.nm.toArray⟩,.slice aw nw cw,.slice an nn cn,.int .i64 s.o,.int .i64 s.d,.int .i64 s.s,.int .i64 s.f,.int .i64 s.i,.string ⟨s.tg.toArray⟩,.int .i64 s.l] 42 (0,0)):=by rw [hw4];exact heap_alloc_new w3 _
     rw [<-hw4]
     have P4:=hidOf (P3.out.out O4.out)
     obtain ⟨off,cap,hR,hT,hc⟩:=P4.out.st
     obtain ⟨u0, -, -, -⟩:=hT 0 u rfl
     simp only [Nat.zero_mul,Nat.add_zero] at u0
     obtain ⟨n,hn⟩:∃ n,n=(u::v::r2).length:=⟨_,rfl⟩
     have hnI:(2:Int)<=n:=by rw [hn];simp;omega
     rw [<-hn] at hR
     have c0:w4.cell? ⟨p,0,none⟩=some (.slice (some ⟨g,off,none⟩) n cap):=by rw [cell_atL hR];rfl
     have HR4:=hidOf hR
     have m0:w4.cell? ⟨w3.heap.size,0,none⟩=some (.int .i64 s.k):=by rw [cell_atL b4];rfl
     have m1:w4.cell? ⟨w3.heap.size,1,none⟩=some (.string ⟨s.nm.toArray⟩):=by rw [cell_atL b4];rfl
     have m2:w4.cell? ⟨w3.heap.size,2,none⟩=some (.slice aw nw cw):=by rw [cell_atL b4];rfl
     have m3:w4.cell? ⟨w3.heap.size,3,none⟩=some (.slice an nn cn):=by rw [cell_atL b4];rfl
     have m4:w4.cell? ⟨w3.heap.size,4,none⟩=some (.int .i64 s.o):=by rw [cell_atL b4];rfl
     have m5:w4.cell? ⟨w3.heap.size,5,none⟩=some (.int .i64 s.d):=by rw [cell_atL b4];rfl
     have m6:w4.cell? ⟨w3.heap.size,6,none⟩=some (.int .i64 s.s):=by rw [cell_atL b4];rfl
     have m7:w4.cell? ⟨w3.heap.size,7,none⟩=some (.int .i64 s.f):=by rw [cell_atL b4];rfl
     have m8:w4.cell? ⟨w3.heap.size,8,none⟩=some (.int .i64 s.i):=by rw [cell_atL b4];rfl
     have m9:w4.cell? ⟨w3.heap.size,9,none⟩=some (.string ⟨s.tg.toArray⟩):=by rw [cell_atL b4];rfl
     have m10:w4.cell? ⟨w3.heap.size,10,none⟩=some (.int .i64 s.l):=by rw [cell_atL b4];rfl
     have s3:w1.heap.size<=w3.heap.size:=(Chg.then2 C2.out C3.out).size
     have z4:w4.heap[w.heap.size]? = some (.cells #[.int .i64 0,.string ⟨#[]⟩,.slice none 0 0,.slice none 0 0,.int .i64 0,.int .i64 0,.int .i64 0,.int .i64 0,.int .i64 0,.string ⟨#[]⟩,.int .i64 0] 42 (0,0)):=(O4.out.block _ (by have:=Z1.out;omega)).trans (((Chg.then2 C2.out C3.out).block _ (by have:=Z1.out;omega) (fun e=>by omega)).trans B1.out)
     have y0:w4.cell? ⟨w.heap.size,0,none⟩=some (.int .i64 0):=by rw [cell_atL z4];rfl
     have f0:=frozen_atL z4 0
     have y1:w4.cell? ⟨w.heap.size,1,none⟩=some (.string ⟨#[]⟩):=by rw [cell_atL z4];rfl
     have f1:=frozen_atL z4 1
     have y2:w4.cell? ⟨w.heap.size,2,none⟩=some (.slice none 0 0):=by rw [cell_atL z4];rfl
     have f2:=frozen_atL z4 2
     have y3:w4.cell? ⟨w.heap.size,3,none⟩=some (.slice none 0 0):=by rw [cell_atL z4];rfl
     have f3:=frozen_atL z4 3
     have y4:w4.cell? ⟨w.heap.size,4,none⟩=some (.int .i64 0):=by rw [cell_atL z4];rfl
     have f4:=frozen_atL z4 4
     have y5:w4.cell? ⟨w.heap.size,5,none⟩=some (.int .i64 0):=by rw [cell_atL z4];rfl
     have f5:=frozen_atL z4 5
     have y6:w4.cell? ⟨w.heap.size,6,none⟩=some (.int .i64 0):=by rw [cell_atL z4];rfl
     have f6:=frozen_atL z4 6
     have y7:w4.cell? ⟨w.heap.size,7,none⟩=some (.int .i64 0):=by rw [cell_atL z4];rfl
     have f7:=frozen_atL z4 7
     have y8:w4.cell? ⟨w.heap.size,8,none⟩=some (.int .i64 0):=by rw [cell_atL z4];rfl
     have f8:=frozen_atL z4 8
     have y9:w4.cell? ⟨w.heap.size,9,none⟩=some (.string ⟨#[]⟩):=by rw [cell_atL z4];rfl
     have f9:=frozen_atL z4 9
     have y10:w4.cell? ⟨w.heap.size,10,none⟩=some (.int .i64 0):=by rw [cell_atL z4];rfl
     have f10:=frozen_atL z4 10
     have HZ:=hidOf z4
     clear hw4 b4 z4 hR hT hc hn s3
     go_wp2
     have c3:=set11_chg w4 w.heap.size (.int .i64 s.k) (.string ⟨s.nm.toArray⟩) (.slice aw nw cw) (.slice an nn cn) (.int .i64 s.o) (.int .i64 s.d) (.int .i64 s.s) (.int .i64 s.f) (.int .i64 s.i) (.string ⟨s.tg.toArray⟩) (.int .i64 s.l)
     have b3:=set11_heap (a0:=.int .i64 s.k) (a1:=.string ⟨s.nm.toArray⟩) (a2:=.slice aw nw cw) (a3:=.slice an nn cn) (a4:=.int .i64 s.o) (a5:=.int .i64 s.d) (a6:=.int .i64 s.s) (a7:=.int .i64 s.f) (a8:=.int .i64 s.i) (a9:=.string ⟨s.tg.toArray⟩) (a10:=.int .i64 s.l) HZ.out
     refine bodyPost_ret (results_cell_row rfl _ _ w.heap.size 42 _ (0,0) _ rfl b3 Tryz.underlying42 rfl size11) rfl ?_
     rw [HE.out]
     have cw:Chg (fun b=>b=p) w w4:=Chg.then2 (Chg.then2 (Chg.then2 (Chg.of_out O1.out) C2.out) C3.out) (Chg.of_out O4.out)
     refine ⟨_,_,rfl, ?_,P4.out.setq c3 (fun e=>by omega) (fun e=>by omega),cw.trans c3 (fun x hx hlt=>by omega)⟩
     have L4:=L3.out.out O4.out
     exact L4.off HZ.out c3
    ·
     have hkb:(u.k != 5)=true:=by simp [hk]
     have HE:Hid (X=.no 61 (u::v::r2)):=hidOf (by rw [HE0.out,if_neg (show ¬kindQ (u::v::r2)=5 from hk)])
     clear hk HE0
     go_enter Tryz.func54,Tryz.ntmps54
     go_upto_region 1 with fail
     rw [<-Hw1.out]
     refine wp_region_held_drew (S:=(fun w'=>w'.cell? ⟨p,1,none⟩=some (.map (some mb))/\w'.heap[mb]? = M)) (by kernel_rfl) ?_ (fun hHeld=>?_)
     · exact ⟨q1,M1.out⟩
     refine tkLB [0,1,2,3,4] ?_
     iterate 5 (refine tkLC (v:=?_) rfl rfl (by kernel_rfl) (by kernel_rfl) (by kernel_rfl) (fun _ _ _ h=>h) (by rfl) (by assumption) ?_ ?_;rotate_left;(· (intro wy hSw;obtain ⟨hs1,hs2⟩:=hSw;go_simp;(try with_reducible rfl)));simp only [Act.put,List.setIfInBounds_toArray,List.set_cons_zero,List.set_cons_succ])
     refine tkLE ?_
     refine wpAnyH_ready (rs:=[5]) (by kernel_rfl) (by simp) ?_
     refine AllReadyH.cons rfl (fun K hK=>?_) AllReadyH.nil
     rw [if_pos (by rfl)]
     go_simp
     go_at_call 52
     refine (C.out 1).mono ?_
     rintro e w2 ⟨rfl,hp,hc⟩
     have P2:=hidOf hp
     have C2:=hidOf (Chg.then2 (Chg.of_out ((Out.refl w1).dN 1)) hc)
     clear hp hc
     have M2:Hid (w2.heap[mb]? = M):=hidOf (MK.out _ C2.out)
     have q2:w2.cell? ⟨p,1,none⟩=some (.map (some mb)):=by
      obtain ⟨off,cap,hR,_⟩:=P2.out.st
      rw [cell_atL hR];rfl
     refine hK.out _ _ ⟨q2,M2.out⟩ (fun hHeld=>?_)
     refine tkLB [6] ?_
     iterate 1 (refine tkLC (v:=?_) rfl rfl (by kernel_rfl) (by kernel_rfl) (by kernel_rfl) (fun _ _ _ h=>h) (by rfl) (by assumption) ?_ ?_;rotate_left;(· (intro wy hSw;obtain ⟨hs1,hs2⟩:=hSw;go_simp;(try with_reducible rfl)));simp only [Act.put,List.setIfInBounds_toArray,List.set_cons_zero,List.set_cons_succ])
     refine tkLE ?_
     refine tkLB [7] ?_
     iterate 1 (refine tkLC (v:=?_) rfl rfl (by kernel_rfl) (by kernel_rfl) (by kernel_rfl) (fun _ _ _ h=>h) (by rfl) (by assumption) ?_ ?_;rotate_left;(· (intro wy hSw;obtain ⟨hs1,hs2⟩:=hSw;have hr:=HRun.out _ hs2;go_simp;(try with_reducible rfl)));simp only [Act.put,List.setIfInBounds_toArray,List.set_cons_zero,List.set_cons_succ])
     refine tkLE ?_
     refine tkLB [8,9,10,11,12] ?_
     iterate 5 (refine tkLC (v:=?_) rfl rfl (by kernel_rfl) (by kernel_rfl) (by kernel_rfl) (fun _ _ _ h=>h) (by rfl) (by assumption) ?_ ?_;rotate_left;(· (intro wy hSw;obtain ⟨hs1,hs2⟩:=hSw;go_simp;(try with_reducible rfl)));simp only [Act.put,List.setIfInBounds_toArray,List.set_cons_zero,List.set_cons_succ])
     refine tkLE ?_
     refine wpAnyH_done (by kernel_rfl) ?_ _
     clear q2 q1 hfl
     go_upto_region 5 with (go_at_call 47;refine (CN.out _ C2.out P2.out).mono ?_;rintro e w3 ⟨aw,cw,an,cn,rfl,hls,hp,hc⟩;have L3:=hidOf hls;have P3:=hidOf hp;have C3:=hidOf hc;clear hls hp hc)
     obtain ⟨w4,hw4⟩:∃ w4,w4=w3.alloc (.cells #[.int .i64 s.k,.string ⟨s.nm.toArray⟩,.slice aw nw cw,.slice an nn cn,.int .i64 s.o,.int .i64 s.d,.int .i64 s.s,.int .i64 s.f,.int .i64 s.i,.string ⟨s.tg.toArray⟩,.int .i64 s.l] 42):=⟨_,rfl⟩
     have O4:Hid (Out w3 w4):=hidOf (by rw [hw4];exact (Out.refl w3).alloc _)
     have b4:w4.heap[w3.heap.size]? = some (.cells #[.int .i64 s.k,.string ⟨s.nm.toArray⟩,.slice aw nw cw,.slice an nn cn,.int .i64 s.o,.int .i64 s.d,.int .i64 s.s,.int .i64 s.f,.int .i64 s.i,.string ⟨s.tg.toArray⟩,.int .i64 s.l] 42 (0,0)):=by rw [hw4];exact heap_alloc_new w3 _
     rw [<-hw4]
     have P4:=hidOf (P3.out.out O4.out)
     obtain ⟨off,cap,hR,hT,hc⟩:=P4.out.st
     obtain ⟨u0, -, -, -⟩:=hT 0 u rfl
     simp only [Nat.zero_mul,Nat.add_zero] at u0
     obtain ⟨n,hn⟩:∃ n,n=(u::v::r2).length:=⟨_,rfl⟩
     have hnI:(2:Int)<=n:=by rw [hn];simp;omega
     rw [<-hn] at hR
     have c0:w4.cell? ⟨p,0,none⟩=some (.slice (some ⟨g,off,none⟩) n cap):=by rw [cell_atL hR];rfl
     have HR4:=hidOf hR
     clear hw4 b4 hR hT hc hn
     go_wp2
     rw [HE.out]
     exact ⟨rfl,rfl,P4.out,Chg.then2 (Chg.then2 (Chg.then2 (Chg.of_out O1.out) C2.out) C3.out) (Chg.of_out O4.out)⟩
end Go.Proofs.YtadneimllbfdnaaGreatDoor
