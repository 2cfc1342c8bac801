import Derived.Test.YtadneimllbfdnaaGreatDoorGu31
namespace Go.Proofs.YtadneimllbfdnaaGreatDoor.Lx.Pw
open Go.RowKit
set_option linter.unusedVariables false
set_option linter.unusedSimpArgs false
theorem wrtLies:liesAt Tryz.prog Tryz.prog.depth 58 (3 / Tryz.prog.cellsOf 58) 0 56 1=true:=by kernel_rfl
set_option maxRecDepth 100000 in
set_option maxHeartbeats 1000000 in
theorem chk_new (b:Nat) (w:World) (h0:w.cell? ⟨b,0,none⟩=some (.pointer none)) (hs:w.shape? b=some (58,3)) (hf:w.frozen? ⟨b,0,none⟩=false):Calls Tryz.prog 62 #[.pointer (some ⟨b,0,none⟩)] w fun e w'=>e=.returned (.tuple #[])/\w'=w.setCell ⟨b,0,none⟩ (.pointer (some ⟨b,0,none⟩)):=by
 obtain ⟨j,hj,hj2⟩:=Option.map_eq_some_iff.1 bldSize
 go_enter Tryz.func62,Tryz.ntmps62
 go_wp2
 rw [Lib.run_to_unsafe w ⟨b,0,none⟩ Tryz.underlying54 Tryz.underlying139 hj (by rw [hj2];decide) hs (Nat.zero_lt_succ 2)]
 simp only [Result.andThen]
 rw [Oper.upon_value]
 go_wp2
 rw [run_callFunc_extern Tryz.func89 (by kernel_rfl) (by kernel_rfl) (by kernel_rfl) (e:=Extern.AbiNoEscape.same) (by kernel_rfl),Lib.run_noEscape]
 simp only [Result.andThen]
 rw [Oper.upon_value]
 go_wp2
 rw [Lib.run_from_unsafe w ⟨b,0,none⟩ Tryz.underlying139 Tryz.underlying54 hj hs wrtLies]
 simp only [Result.andThen]
 rw [Oper.upon_value]
 go_wp2
 go_end0
 exact ⟨rfl,rfl⟩
structure Wr (N p:Nat) (w:World) (l:List UInt8) (size line:Nat) (ad bv:Value):Prop where
 le:N<=p
 at_:w.heap[p]? = some (.cells #[ad,bv,.int .i64 size] 58 (0,0))
 ad_:ad=.pointer none\/ad=.pointer (some ⟨p,0,none⟩)
 own:w.ownsRow N 5 1 bv l.length (Lib.byteCells l)
 ne:∀ k,bv.ownBlock=some k->¬k=p
 nil_:l=[]->bv=.slice none 0 0
theorem Wr.cell {N p:Nat} {w:World} {l:List UInt8} {a b:Nat} {ad bv:Value} (h:Wr N p w l a b ad bv) (j:Nat):w.cell? ⟨p,j,none⟩=(#[ad,bv,.int .i64 a]:Array Value)[j]?:=by simp [World.cell?,h.at_]
theorem Wr.frozen {N p:Nat} {w:World} {l:List UInt8} {a b:Nat} {ad bv:Value} (h:Wr N p w l a b ad bv) (j:Nat):w.frozen? ⟨p,j,none⟩=false:=by simp [World.frozen?,h.at_]
theorem Wr.lt {N p:Nat} {w:World} {l:List UInt8} {a b:Nat} {ad bv:Value} (h:Wr N p w l a b ad bv):p<w.heap.size:=(Array.getElem?_eq_some_iff.1 h.at_).1
theorem Wr.base {N p:Nat} {w:World} {l:List UInt8} {a b:Nat} {ad bv:Value} (h:Wr N p w l a b ad bv):N<=w.heap.size:=by have:=h.lt;have:=h.le;omega
theorem Wr.out {N p:Nat} {w w':World} {l:List UInt8} {a b:Nat} {ad bv:Value} (h:Wr N p w l a b ad bv) (o:Out w w'):Wr N p w' l a b ad bv:=⟨h.le,(o.block p h.lt).trans h.at_,h.ad_,owns_chg (S:=fun _=>False) h.own (fun _ _ h=>h) (Chg.of_out o),h.ne,h.nil_⟩
theorem Wr.set2 {N p:Nat} {w:World} {l:List UInt8} {a b:Nat} {ad bv:Value} (h:Wr N p w l a b ad bv) (a':Nat):Wr N p (w.setCell ⟨p,2,none⟩ (.int .i64 a')) l a' b ad bv:=
 ⟨h.le,by simp [World.setCell,Array.getElem?_modify,h.at_],h.ad_,owns_chg (S:=fun k=>k=p) h.own h.ne (Chg.setCell (S:=fun k=>k=p) (Chg.refl _ w) (p:=⟨p,2,none⟩) rfl _),h.ne,h.nil_⟩
theorem Wr.set0 {N p:Nat} {w:World} {l:List UInt8} {a b:Nat} {ad bv:Value} (h:Wr N p w l a b ad bv):Wr N p (w.setCell ⟨p,0,none⟩ (.pointer (some ⟨p,0,none⟩))) l a b (.pointer (some ⟨p,0,none⟩)) bv:=
 ⟨h.le,by simp [World.setCell,Array.getElem?_modify,h.at_],.inr rfl,owns_chg (S:=fun k=>k=p) h.own h.ne (Chg.setCell (S:=fun k=>k=p) (Chg.refl _ w) (p:=⟨p,0,none⟩) rfl _),h.ne,h.nil_⟩
theorem chk_any (N p:Nat) (w:World) (l:List UInt8) (a b:Nat) (ad bv:Value) (h:Wr N p w l a b ad bv):Calls Tryz.prog 62 #[.pointer (some ⟨p,0,none⟩)] w fun e w'=>e=.returned (.tuple #[])/\Wr N p w' l a b (.pointer (some ⟨p,0,none⟩)) bv/\Below N w w':=by
 rcases h.ad_ with rfl | rfl
 · exact (chk_new p w (h.cell 0) (by simp [World.shape?,h.at_]) (h.frozen 0)).mono fun e w' ⟨he,hw⟩=>⟨he,hw ▸ h.set0,hw ▸ Below.set_own (Below.refl N w) h.le _⟩
 · exact (chk_used p w (h.cell 0)).mono fun e w' ⟨he,hw⟩=>⟨he,hw ▸ h,hw ▸ Below.refl N _⟩
set_option maxRecDepth 100000 in
set_option maxHeartbeats 2000000 in
theorem write_any (N p:Nat) (w:World) (l:List UInt8) (a b:Nat) (ad bv:Value) (t:List UInt8) (h:Wr N p w l a b ad bv) (hlen:l.length+t.length<=100000000) :
  Calls Tryz.prog 34 #[.pointer (some ⟨p,0,none⟩),.string ⟨t.toArray⟩] w fun e w'=>(∃ v,e=.returned v)/\(∃ ad' bv',Wr N p w' (l++t) a b ad' bv')/\Below N w w':=by
 obtain ⟨i0,hi,hz0,hz1,hz2⟩:=info_parts (show (Tryz.prog.info? 5).map (fun i=>(i.zero,i.size,i.bytes))=some (some (.int .u8 0),1,1) from Tryz.Builder_Extra_169.infoByte)
 have CK:=hidOf (chk_any N p w l a b ad bv h)
 have hts:(⟨t.toArray⟩:ByteArray).size=t.length:=mk_size t
 have hN0:=h.base
 clear h
 go_enter Tryz.func34,Tryz.ntmps34
 go_wp2_with (go_at_call 62;refine CK.out.mono ?_)
 rintro e w1 ⟨rfl,hW,hb1⟩
 have hsz:=hb1.size
 have c1:w1.cell? ⟨p,1,none⟩=some bv:=hW.cell 1
 have hlt:p<w1.heap.size:=hW.lt
 have hNw:=hW.base
 go_wp2_with (at_builtin;refine Lib.wpList_append_own_string _ rfl _ _ 35 9 rfl N 5 i0 Tryz.underlying35 Tryz.underlying9 hi hz0 hz1 hz2 bv l.length (Lib.byteCells l) rfl hW.own ⟨t.toArray⟩ rfl (by unfold maxLen;omega) (by omega) hNw ?_)
 intro v' w2 hown' hgrow hiff
 have hb2:w2.heap[p]? = some (.cells #[.pointer (some ⟨p,0,none⟩),bv,.int .i64 a] 58 (0,0)):=(hgrow.block p hlt (fun e=>hW.ne p e.symm rfl)).trans hW.at_
 have d1:w2.cell? ⟨p,1,none⟩=some bv:=by rw [Lib.cell_of_heap hb2];rfl
 have f1:w2.frozen? ⟨p,1,none⟩=false:=Lib.frozen_of_heap hb2 1
 have HW:=hidOf (Below.set_own (j:=1) (Below.of_grown hb1 hN0 hgrow (own_le hW.own)) hW.le v')
 have hne2:∀ k,v'.ownBlock=some k->¬k=p:=fun k hk e=>by
  subst e
  rcases hown'.2 with ⟨hv,_⟩ | ⟨g,cap,cur,hv,_,hg,_⟩
  · rw [hv] at hk;cases hk
  ·
   rw [hv] at hk
   simp [Value.ownBlock] at hk
   subst hk
   rw [hb2] at hg
   simp at hg
 have hst:Lib.strCells ⟨t.toArray⟩=Lib.byteCells t:=by simp [Lib.strCells,Lib.byteCells]
 rw [hst] at hown'
 have hbl:Lib.byteCells l++Lib.byteCells t=Lib.byteCells (l++t):=by simp [Lib.byteCells]
 rw [hbl,show l.length+t.length=(l++t).length from by simp] at hown'
 have hnil2:l++t=[]->v'=.slice none 0 0:=fun h0=>by
  obtain ⟨h1,h2⟩:=List.append_eq_nil_iff.1 h0
  exact hiff.2 ⟨hW.nil_ h1,by first | exact h2 | simp [h2]⟩
 have HN:Hid (Wr N p (w2.setCell ⟨p,1,none⟩ v') (l++t) a b (.pointer (some ⟨p,0,none⟩)) v'):=⟨hW.le,by simp [World.setCell,Array.getElem?_modify,hb2],.inr rfl,owns_chg (S:=fun k=>k=p) hown' hne2 (Chg.setCell (S:=fun k=>k=p) (Chg.refl _ w2) (p:=⟨p,1,none⟩) rfl _),hne2,hnil2⟩
 obtain ⟨ao,cp,rfl⟩:∃ ao cp,v'=.slice ao (l.length+t.length) cp:=by have:=own_form hown';rw [List.length_append] at this;exact this
 clear hown' hgrow hb2 hne2 hnil2 hiff hW hb1 c1 hbl hst
 go_wp2
 go_ret2
 exact ⟨⟨_,rfl⟩,⟨_,_,HN.out⟩,HW.out⟩
set_option maxHeartbeats 2000000 in
set_option maxRecDepth 100000 in
theorem string_any (N p:Nat) (w:World) (l:List UInt8) (a b:Nat) (ad bv:Value) (h:Wr N p w l a b ad bv) (hl:l.length<=100000000) :
  Calls Tryz.prog 17 #[.pointer (some ⟨p,0,none⟩)] w fun e w'=>e=.returned (.string ⟨l.toArray⟩)/\Below N w w':=by
 have mixed:=mixed_
 by_cases h0:l=[]
 ·
  subst h0
  have hbv:=h.nil_ rfl
  subst hbv
  have c1:w.drew.cell? ⟨p,1,none⟩=some (.slice none 0 0):=h.cell 1
  have hUS:∀ W,(Builtin.unsafeString_ #[87,3] 9 #[.pointer none,.int .i64 0]).run Tryz.prog W=.ok (.string .empty) W:=fun W=>Lib.run_unsafeString_none W _ _ _ none
  have hSD:(Builtin.unsafeSliceData_ #[35] 87 #[.slice none 0 0]).run Tryz.prog w.drew=.ok (.pointer none) w.drew:=rfl
  clear h
  go_enter Tryz.func17,Tryz.ntmps17
  go_wp2
  go_region_o
  all_goals (go_wp2;go_ret;exact ⟨rfl,Below.drew (Below.refl N w)⟩)
 ·
  have hl0:l.length ≠ 0:=by simpa using h0
  obtain ⟨g,cap,cur,rfl,hbg,hg,hnc,hcm,hcs,htake⟩:∃ g cap cur,bv=.slice (some ⟨g,0,none⟩) l.length cap/\N<=g/\w.heap[g]? = some (.cells cur 5 (0,0))/\l.length<=cap/\cap<=maxLen/\cur.size=cap*1/\cur.toList.take (l.length*1)=Lib.byteCells l:=by
   rcases h.own.2 with ⟨_,hz⟩ | ⟨g,cap,cur,hv,r⟩
   · exact absurd hz hl0
   · exact ⟨g,cap,cur,hv,r⟩
  have c1:w.drew.cell? ⟨p,1,none⟩=some (.slice (some ⟨g,0,none⟩) l.length cap):=h.cell 1
  have hSD:(Builtin.unsafeSliceData_ #[35] 87 #[.slice (some ⟨g,0,none⟩) l.length cap]).run Tryz.prog w.drew=.ok (.pointer (some ⟨g,0,none⟩)) w.drew:=
   Lib.run_unsafeSliceData_row _ _ _ _ _ _ (by omega)
  have hown:=h.own
  have hUS:(Builtin.unsafeString_ #[87,3] 9 #[.pointer (some ⟨g,0,none⟩),.int .i64 l.length]).run Tryz.prog w.drew=.ok (.string ⟨l.toArray⟩) (w.drew.freeze ⟨g,0,none⟩ l.length):=by
   refine Lib.run_unsafeString_row w.drew 87 3 9 5 Tryz.underlying87 Tryz.Builder_Extra_169.cellsByte g cur.size (by have hg':w.drew.heap[g]? = some (.cells cur 5 (0,0)):=hg;simp [World.shape?,hg']) l h0 (by omega) (by omega) ?_
   intro j x hx
   have:=hown.cells (g:=g) rfl j (.int .u8 x.toNat) (by simp [Lib.byteCells,hx])
   exact this
  clear h hown htake hcs hg
  go_enter Tryz.func17,Tryz.ntmps17
  go_wp2
  go_region_o
  all_goals (go_wp2;go_ret;exact ⟨rfl,Lib.below_freeze (Below.drew (Below.refl N w)) (p:=⟨g,0,none⟩) hbg _⟩)
set_option maxRecDepth 20000 in
set_option maxHeartbeats 1000000 in
theorem byte_any (N p:Nat) (w:World) (l:List UInt8) (a b:Nat) (ad bv:Value) (x:UInt8) (h:Wr N p w l a b ad bv) (hlen:l.length<=100000000) :
  Calls Tryz.prog 35 #[.pointer (some ⟨p,0,none⟩),.int .u8 (x.toNat:Int)] w fun e w'=>(∃ v,e=.returned v)/\(∃ ad' bv',Wr N p w' (l++[x]) a b ad' bv')/\Below N w w':=by
 obtain ⟨i0,hi,hz0,hz1,hz2⟩:=info_parts (show (Tryz.prog.info? 5).map (fun i=>(i.zero,i.size,i.bytes))=some (some (.int .u8 0),1,1) from Tryz.Builder_Extra_169.infoByte)
 have CK:=hidOf (chk_any N p w l a b ad bv h)
 have hN0:=h.base
 clear h
 obtain ⟨c,hc⟩:∃ c:Int,c=(x.toNat:Int):=⟨_,rfl⟩
 rw [<-hc]
 have Hc:=hidOf hc
 clear hc
 go_enter Tryz.func35,Tryz.ntmps35
 go_upto_region 2 with (go_at_call 62;refine CK.out.mono ?_;rintro e w1 ⟨rfl,hbd,hb1⟩;have HBD:=hidOf hbd;have HB1:=hidOf hb1;clear hbd hb1)
 have hW:=HBD.out
 have hown:=hW.own
 have hbk:=hW.at_
 have hsz:=HB1.out.size
 have hlt:p<w1.heap.size:=hW.lt
 have hNw:=hW.base
 obtain ⟨av,cv,hbv⟩:=own_form hown
 subst hbv
 have c1:w1.cell? ⟨p,1,none⟩=some (.slice av l.length cv):=hW.cell 1
 obtain ⟨bs,hbs⟩:∃ bs,bs=Lib.byteCells l:=⟨_,rfl⟩
 have hbl:bs.length=l.length:=by rw [hbs];exact Lib.byteCells_length l
 rw [<-hbs] at hown
 obtain ⟨n,hn⟩:∃ n,n=l.length:=⟨_,rfl⟩
 rw [<-hn] at hown hbk c1 hlen hbl
 have RX:Hid (∀ O,(w1.alloc O).ownsRow N 5 1 (.slice av n cv) n bs):=hidOf (fun O=>owns_chg (S:=fun _=>False) hown (fun _ _ h=>h) (Chg.of_out ((Out.refl w1).alloc O)))
 have hne:¬(Value.slice av n cv).ownBlock=some p:=fun e=>hW.ne p (by rw [<-hn];exact e) rfl
 have HP:Hid (∀ O w8,(w1.alloc O).grownBy w8 (Value.slice av n cv).ownBlock->w8.heap[p]? = some (.cells #[.pointer (some ⟨p,0,none⟩),.slice av n cv,.int .i64 a] 58 (0,0))):=hidOf (fun O w8 hg=>by
  have hA:(w1.alloc O).heap[p]? = _:=(((Out.refl w1).alloc O).block p hlt).trans hbk
  exact (hg.block p (Array.getElem?_eq_some_iff.1 hA).1 (fun e=>hne e.symm)).trans hA)
 have Hown:=hidOf hown
 have Hle:=hidOf hW.le
 have Hbs:=hidOf hbs
 have Hn:=hidOf hn
 clear hbk hown hne HBD CK hW hbs hn
 go_upto_region 3 with (at_builtin;refine wpList_append_lies _ rfl (.tmp 11) (.tmp 13) 35 rfl N 5 i0 _ 1 1 Tryz.underlying35 hi hz0 hz1 hz2 rfl (by decide) (.slice av n cv) n bs rfl (RX.out _) ⟨w1.heap.size,0,none⟩ 1 1 [.int .u8 c] rfl rfl (news_new w1 _ _ _ rfl) (by intro u hu;simp at hu;subst hu;rfl) (by decide) (by unfold maxLen;omega) (by omega) (by rw [size_alloc];omega) _ rfl ?_;intro g8 cap8 w8 hown8 hgrow8 hg8 hlt8;have b8:=HP.out _ w8 hgrow8;have q8:w8.cell? ⟨p,1,none⟩=some (.slice av n cv):=(by rw [Lib.cell_of_heap b8];rfl);have f8:w8.frozen? ⟨p,1,none⟩=false:=Lib.frozen_of_heap b8 1;have W8:=hidOf hown8;have G8:=hidOf hgrow8;have B8:=hidOf b8;clear hown8 hgrow8 hg8 hlt8 b8)
 go_wp2
 go_ret
 have hne8:∀ k,(Value.slice (some ⟨g8,0,none⟩) (n+1) cap8).ownBlock=some k->¬k=p:=fun k hk e=>by
  subst e
  exact own_kind W8.out B8.out (by decide) hk
 refine ⟨⟨_,rfl⟩,⟨.pointer (some ⟨p,0,none⟩),.slice (some ⟨g8,0,none⟩) (n+1) cap8,Hle.out,by simp [World.setCell,Array.getElem?_modify,B8.out],.inr rfl, ?_,hne8,fun h0=>by simp at h0⟩, ?_⟩
 ·
  rw [List.length_append,List.length_singleton, <-Hn.out]
  refine owns_chg (S:=fun k=>k=p) ?_ hne8 (Chg.setCell (S:=fun k=>k=p) (Chg.refl _ w8) (p:=⟨p,1,none⟩) rfl _)
  have:=W8.out
  rw [Hbs.out,Hc.out] at this
  simpa [Lib.byteCells] using this
 · exact (((HB1.out.alloc (by omega) _).grown G8.out (by rw [size_alloc];omega) (fun k hk=>(World.ownsRow.lt Hown.out k hk).1)).setCell (p:=⟨p,1,none⟩) Hle.out _)
end Go.Proofs.YtadneimllbfdnaaGreatDoor.Lx.Pw
namespace Go.Proofs.YtadneimllbfdnaaGreatDoor
open Go.RowKit
set_option linter.unusedVariables false
set_option linter.unusedSimpArgs false
def wlP (l:List UInt8) (a:Nat) (t:List UInt8):List UInt8:=if a+(t.length+1)<=16777216 then l++t++[10] else l
set_option maxRecDepth 20000 in
set_option maxHeartbeats 1000000 in
theorem wline_any (N p:Nat) (w:World) (l:List UInt8) (a:Nat) (ad bv:Value) (t:List UInt8) (h:Lx.Pw.Wr N p w l a 0 ad bv) (hl:l.length<=16777216) (ht:t.length<=1000000) (ha:a<=1000000000000000000) :
  Calls Tryz.prog 16 #[.pointer (some ⟨p,0,none⟩),.string ⟨t.toArray⟩] w fun e w'=>(∃ v,e=.returned v)/\(∃ ad' bv',Lx.Pw.Wr N p w' (wlP l a t) (a+(t.length+1)) 0 ad' bv')/\Below N w w':=by
 obtain ⟨X,hX⟩:∃ X,X=wlP l a t:=⟨_,rfl⟩
 rw [<-hX]
 have HX:=hidOf hX
 have c2:w.cell? ⟨p,2,none⟩=some (.int .i64 a):=h.cell 2
 have f2:w.frozen? ⟨p,2,none⟩=false:=h.frozen 2
 obtain ⟨n,hn⟩:∃ n,n=t.length:=⟨_,rfl⟩
 have hts:(⟨t.toArray⟩:ByteArray).size=n:=by rw [hn];exact Lx.mk_size t
 obtain ⟨w1,hw1⟩:∃ w1,w1=w.setCell ⟨p,2,none⟩ (.int .i64 ((a+(n+1):Nat):Int)):=⟨_,rfl⟩
 have h1:Lx.Pw.Wr N p w1 l (a+(n+1)) 0 ad bv:=by rw [hw1];exact h.set2 _
 have B1:Hid (Below N w w1):=hidOf (by rw [hw1];exact Below.setCell (Below.refl N w) h.le _)
 have d2:w1.cell? ⟨p,2,none⟩=some (.int .i64 ((a+(n+1):Nat):Int)):=h1.cell 2
 have H1:=hidOf h1
 have CW:=hidOf (Lx.Pw.write_any N p w1 l (a+(n+1)) 0 ad bv t h1 (by omega))
 have CB:Hid (∀ wx ad bv,Lx.Pw.Wr N p wx (l++t) (a+(n+1)) 0 ad bv->Calls Tryz.prog 35 #[.pointer (some ⟨p,0,none⟩),.int .u8 10] wx fun e w'=>(∃ v,e=.returned v)/\(∃ ad' bv',Lx.Pw.Wr N p w' (l++t++[10]) (a+(n+1)) 0 ad' bv')/\Below N wx w'):=hidOf (fun wx ad bv h=>Lx.Pw.byte_any N p wx (l++t) (a+(n+1)) 0 ad bv 10 h (by rw [List.length_append];omega))
 have Hw1:Hid (w1=w.setCell ⟨p,2,none⟩ (.int .i64 ((a:Int)+((n:Int)+1)))):=hidOf (by rw [hw1];simp)
 have hnI:(n:Int)<=1000000:=by omega
 have haI:(a:Int)<=1000000000000000000:=by omega
 have Hn:=hidOf hn
 rw [<-hn] at ht ⊢
 clear h h1 hw1 hX hn
 by_cases hm:a+(n+1)<=16777216
 ·
  have hmI:(a:Int)+((n:Int)+1)<=16777216:=by omega
  have HE:Hid (X=l++t++[10]):=hidOf (by rw [HX.out];unfold wlP;rw [<-Hn.out,if_pos hm])
  have d2':w1.cell? ⟨p,2,none⟩=some (.int .i64 ((a:Int)+((n:Int)+1))):=by rw [d2];simp
  clear d2 hm
  go_enter Tryz.func16,Tryz.ntmps16
  go_upto_region 1 with fail
  rw [<-Hw1.out]
  go_wp2_with (first | (go_at_call 34;refine CW.out.mono ?_;rintro e w2 ⟨⟨v2,rfl⟩,⟨ad2,bv2,hw⟩,hb⟩;have W2:=hidOf hw;have B2:=hidOf hb;clear hw hb) | (go_at_call 35;refine (CB.out _ _ _ W2.out).mono ?_;rintro e w3 ⟨⟨v3,rfl⟩,⟨ad3,bv3,hw⟩,hb⟩;have W3:=hidOf hw;have B3:=hidOf hb;clear hw hb))
  go_end0
  rw [HE.out]
  exact ⟨⟨_,rfl⟩,⟨_,_,W3.out⟩,Below.trans B1.out (Below.trans B2.out B3.out)⟩
 ·
  have hmI:¬(a:Int)+((n:Int)+1)<=16777216:=by omega
  have HE:Hid (X=l):=hidOf (by rw [HX.out];unfold wlP;rw [<-Hn.out,if_neg hm])
  have d2':w1.cell? ⟨p,2,none⟩=some (.int .i64 ((a:Int)+((n:Int)+1))):=by rw [d2];simp
  clear d2 hm
  go_enter Tryz.func16,Tryz.ntmps16
  go_upto_region 1 with fail
  rw [<-Hw1.out]
  go_wp2
  go_end0
  rw [HE.out]
  exact ⟨⟨_,rfl⟩,⟨_,_,H1.out⟩,B1.out⟩
def prF:List UInt8->Nat->List (List UInt8 × Int)->List UInt8 × Int
 | l,a,[]=>if 16777216<a then ([],50) else (l,0)
 | l,a,(t,e)::r=>if e=0 then prF (wlP l a t) (a+(t.length+1)) r else ([],e)
def StR (w:World) (g off:Nat) (Y:List (Stm × Value × Value)):Prop:=∀ k y,Y[k]? = some y->(∃ aw nw cw,y.2.1=.slice aw nw cw)/\(∃ an nn cn,y.2.2=.slice an nn cn)/\∀ i u,(stL y.1 y.2.1 y.2.2)[i]? = some u->w.cell? ⟨g,off+k*11+i,none⟩=some u
theorem wl_len {l t:List UInt8} {a:Nat} (h:l.length<=16777216) (h2:l.length<=a):(wlP l a t).length<=16777216/\(wlP l a t).length<=a+(t.length+1):=by
 unfold wlP
 by_cases e:a+(t.length+1)<=16777216
 · rw [if_pos e];simp only [List.length_append,List.length_cons,List.length_nil];omega
 · rw [if_neg e];omega
set_option maxRecDepth 20000 in
set_option maxHeartbeats 4000000 in
theorem print7_any (w:World) (g off cap:Nat) (Y:List (Stm × Value × Value)) (R:List (List UInt8 × Int)) (hR:R.length=Y.length) (hS:StR w g off Y) (hg:g<w.heap.size) (hcap:Y.length<=cap) (hlen:Y.length<=1034834473171)
  (LC:∀ wx,Out w wx->∀ (k:Nat) (y:Stm × Value × Value) (r:List UInt8 × Int),Y[k]? = some y->R[k]? = some r->Calls Tryz.prog 15 #[stE y.1 y.2.1 y.2.2] wx fun e w'=>e=.returned (.tuple #[.string ⟨r.1.toArray⟩,.int .i64 r.2])/\Out wx w') (hT:∀ r ∈ R,r.2=0->r.1.length<=1999) :
  Calls Tryz.prog 8 #[.slice (some ⟨g,off,none⟩) Y.length cap] w fun e w'=>e=.returned (.tuple #[.string ⟨(prF [] 0 R).1.toArray⟩,.int .i64 (prF [] 0 R).2])/\Out w w':=by
 obtain ⟨X,hX⟩:∃ X,X=prF [] 0 R:=⟨_,rfl⟩
 rw [<-hX]
 have HX:=hidOf hX
 obtain ⟨n,hn⟩:∃ n,n=Y.length:=⟨_,rfl⟩
 have Hn:=hidOf hn
 obtain ⟨N,hNN⟩:∃ N,N=w.heap.size:=⟨_,rfl⟩
 obtain ⟨w1,hw1⟩:∃ w1,w1=w.alloc (.cells #[.pointer none,.slice none 0 0,.int .i64 0] 58):=⟨_,rfl⟩
 have b1:w1.heap[N]? = some (.cells #[.pointer none,.slice none 0 0,.int .i64 0] 58 (0,0)):=by rw [hw1,hNN];exact heap_alloc_new w _
 have H1:Hid (Lx.Pw.Wr N N w1 [] 0 0 (.pointer none) (.slice none 0 0)):=hidOf ⟨Nat.le_refl _,b1,.inl rfl,World.ownsRow_nil _ _ _ _,fun k hk=>by simp [Value.ownBlock] at hk,fun _=>rfl⟩
 have B1:Hid (Below N w w1):=hidOf (by rw [hw1,hNN];exact (Out.refl w).alloc _)
 have Hw1:=hidOf hw1
 have HNN:=hidOf hNN
 have HS:=hidOf hS
 have HLC:=hidOf LC
 have HT:=hidOf hT
 have HR:=hidOf hR
 rw [<-hn] at hcap hlen ⊢
 have hgN:g<N:=by rw [hNN];exact hg
 clear hX hn hNN hw1 b1 hS LC hT hR
 go_enter Tryz.func8,Tryz.ntmps8
 go_upto_region 2 with fail
 rw [<-Hw1.out, <-HNN.out]
 go_upto_region 3 with fail
 go_loopw [11] (fun i wr=>∃ (k:Nat) (l:List UInt8) (a:Nat) (ad bv:Value),i=.int .i64 k/\k<=n/\Hid (Lx.Pw.Wr N N wr l a 0 ad bv)/\Hid (Below N w wr)/\l.length<=16777216/\l.length<=a/\a<=2000*k/\Hid (X=prF l a (R.drop k))) (fun i _=>n - (intOf i).toNat)
 case atStart=>exact ⟨0,[],0,_,_,rfl,by omega,H1,B1,by simp,by simp,by omega,hidOf (by rw [HX.out];rfl)⟩
 case round=>
  clear H1 B1
  obtain ⟨k,l,a,ad,bv,rfl,hk,HW,HB,hl,hla,ha,HQ⟩:=hrel
  by_cases hlt:k<n
  ·
   have hltI:(k:Int)<n:=by omega
   obtain ⟨y,hy⟩:∃ y,Y[k]? = some y:=⟨_,List.getElem?_eq_getElem (by have:=Hn.out;omega)⟩
   obtain ⟨r,hr⟩:∃ r,R[k]? = some r:=⟨_,List.getElem?_eq_getElem (by have:=Hn.out;have:=HR.out;omega)⟩
   obtain ⟨⟨aw,nw,cw,e1⟩,⟨an,nn,cn,e2⟩,hcl⟩:=HS.out k y hy
   obtain ⟨x,wv,nv⟩:=y
   simp only at e1 e2 hcl
   subst e1 e2
   have CELL:∀ i u,(stL x (.slice aw nw cw) (.slice an nn cn))[i]? = some u->wr.cell? ⟨g,off+k*11+i,none⟩=some u:=fun i u hu=>(Below.cell HB.out hgN).trans (hcl i u hu)
   have q0:wr.cell? ⟨g,off+k*11,none⟩=some (.int .i64 x.k):=CELL 0 _ rfl
   have q1:wr.cell? ⟨g,off+k*11+1,none⟩=some (.string ⟨x.nm.toArray⟩):=CELL 1 _ rfl
   have q2:wr.cell? ⟨g,off+k*11+2,none⟩=some (.slice aw nw cw):=CELL 2 _ rfl
   have q3:wr.cell? ⟨g,off+k*11+3,none⟩=some (.slice an nn cn):=CELL 3 _ rfl
   have q4:wr.cell? ⟨g,off+k*11+4,none⟩=some (.int .i64 x.o):=CELL 4 _ rfl
   have q5:wr.cell? ⟨g,off+k*11+5,none⟩=some (.int .i64 x.d):=CELL 5 _ rfl
   have q6:wr.cell? ⟨g,off+k*11+6,none⟩=some (.int .i64 x.s):=CELL 6 _ rfl
   have q7:wr.cell? ⟨g,off+k*11+7,none⟩=some (.int .i64 x.f):=CELL 7 _ rfl
   have q8:wr.cell? ⟨g,off+k*11+8,none⟩=some (.int .i64 x.i):=CELL 8 _ rfl
   have q9:wr.cell? ⟨g,off+k*11+9,none⟩=some (.string ⟨x.tg.toArray⟩):=CELL 9 _ rfl
   have q10:wr.cell? ⟨g,off+k*11+10,none⟩=some (.int .i64 x.l):=CELL 10 _ rfl
   have LC:Hid (∀ wx,Out w wx->Calls Tryz.prog 15 #[.agg #[.int .i64 x.k,.string ⟨x.nm.toArray⟩,.slice aw nw cw,.slice an nn cn,.int .i64 x.o,.int .i64 x.d,.int .i64 x.s,.int .i64 x.f,.int .i64 x.i,.string ⟨x.tg.toArray⟩,.int .i64 x.l]] wx fun e w'=>e=.returned (.tuple #[.string ⟨r.1.toArray⟩,.int .i64 r.2])/\Out wx w'):=hidOf (fun wx o=>by
    have h9:=HLC.out wx o k (x,.slice aw nw cw,.slice an nn cn) r hy hr
    simp only [stE] at h9
    exact h9)
   have hdr:R.drop k=r::R.drop (k+1):=by
    have hlt':k<R.length:=by have:=Hn.out;have:=HR.out;omega
    rw [List.drop_eq_getElem_cons hlt']
    congr 1
    have:=List.getElem?_eq_getElem hlt'
    rw [this] at hr
    exact Option.some.inj hr
   have hrm:r ∈ R:=List.mem_of_getElem? hr
   obtain ⟨t,ec⟩:=r
   simp only at LC
   clear CELL hcl hy hr
   go_upto_region 5 with fail
   obtain ⟨w2,hw2⟩:∃ w2,w2=wr.alloc (.cells #[.int .i64 x.k,.string ⟨x.nm.toArray⟩,.slice aw nw cw,.slice an nn cn,.int .i64 x.o,.int .i64 x.d,.int .i64 x.s,.int .i64 x.f,.int .i64 x.i,.string ⟨x.tg.toArray⟩,.int .i64 x.l] 42):=⟨_,rfl⟩
   rw [<-hw2]
   have O2:Hid (Out wr w2):=hidOf (by rw [hw2];exact (Out.refl wr).alloc _)
   have b2:w2.heap[wr.heap.size]? = some (.cells #[.int .i64 x.k,.string ⟨x.nm.toArray⟩,.slice aw nw cw,.slice an nn cn,.int .i64 x.o,.int .i64 x.d,.int .i64 x.s,.int .i64 x.f,.int .i64 x.i,.string ⟨x.tg.toArray⟩,.int .i64 x.l] 42 (0,0)):=by rw [hw2];exact heap_alloc_new wr _
   have m0:w2.cell? ⟨wr.heap.size,0,none⟩=some (.int .i64 x.k):=by rw [cell_atL b2];rfl
   have m1:w2.cell? ⟨wr.heap.size,1,none⟩=some (.string ⟨x.nm.toArray⟩):=by rw [cell_atL b2];rfl
   have m2:w2.cell? ⟨wr.heap.size,2,none⟩=some (.slice aw nw cw):=by rw [cell_atL b2];rfl
   have m3:w2.cell? ⟨wr.heap.size,3,none⟩=some (.slice an nn cn):=by rw [cell_atL b2];rfl
   have m4:w2.cell? ⟨wr.heap.size,4,none⟩=some (.int .i64 x.o):=by rw [cell_atL b2];rfl
   have m5:w2.cell? ⟨wr.heap.size,5,none⟩=some (.int .i64 x.d):=by rw [cell_atL b2];rfl
   have m6:w2.cell? ⟨wr.heap.size,6,none⟩=some (.int .i64 x.s):=by rw [cell_atL b2];rfl
   have m7:w2.cell? ⟨wr.heap.size,7,none⟩=some (.int .i64 x.f):=by rw [cell_atL b2];rfl
   have m8:w2.cell? ⟨wr.heap.size,8,none⟩=some (.int .i64 x.i):=by rw [cell_atL b2];rfl
   have m9:w2.cell? ⟨wr.heap.size,9,none⟩=some (.string ⟨x.tg.toArray⟩):=by rw [cell_atL b2];rfl
   have m10:w2.cell? ⟨wr.heap.size,10,none⟩=some (.int .i64 x.l):=by rw [cell_atL b2];rfl
   have hNr:N<=wr.heap.size:=by rw [HNN.out];exact HB.out.size
   have B2:Hid (Below N w w2):=hidOf (Below.trans HB.out (Below.mono O2.out hNr))
   have OW2:Hid (Out w w2):=hidOf (by have:=B2.out;rw [HNN.out] at this;exact this)
   clear hw2 b2 q0 q1 q2 q3 q4 q5 q6 q7 q8 q9 q10
   by_cases he:ec=0
   ·
    subst he
    have htl:t.length<=1999:=HT.out _ hrm rfl
    have HQ2:Hid (X=prF (wlP l a t) (a+(t.length+1)) (R.drop (k+1))):=hidOf (by
     rw [HQ.out,hdr]
     show (if (0:Int)=0 then prF (wlP l a t) (a+(t.length+1)) (R.drop (k+1)) else ([],0))=_
     rw [if_pos rfl])
    have CW:Hid (∀ wx,Out wr wx->Calls Tryz.prog 16 #[.pointer (some ⟨N,0,none⟩),.string ⟨t.toArray⟩] wx fun e w'=>(∃ v,e=.returned v)/\(∃ ad' bv',Lx.Pw.Wr N N w' (wlP l a t) (a+(t.length+1)) 0 ad' bv')/\Below N wx w'):=hidOf (fun wx o=>wline_any N N wx l a ad bv t (HW.out.out o) hl (Nat.le_trans htl (by decide)) (by omega))
    obtain ⟨hw5,hw6⟩:=wl_len (t:=t) hl hla
    clear hdr hrm
    generalize wlP l a t=l' at *
    generalize t.length=tn at *
    go_wp2_with (first | (go_at_call 15;refine (LC.out _ OW2.out).mono ?_;rintro e w3 ⟨rfl,ho⟩;have O3:=hidOf (O2.out.trans ho);have B3:=hidOf (Below.trans B2.out (Below.mono ho (by have:=O2.out.size;omega)));clear ho) | (go_at_call 16;refine (CW.out _ O3.out).mono ?_;rintro e w4 ⟨⟨v4,rfl⟩,⟨ad4,bv4,hw⟩,hb⟩;have W4:=hidOf hw;have B4:=hidOf (Below.trans B3.out hb);clear hw hb))
    go_roundw
    case rel=>exact ⟨k+1,l',a+(tn+1),ad4,bv4,by simp,by omega,W4,B4,hw5,hw6,by omega,HQ2⟩
    case measure=>simp [intOf];omega
   ·
    have hb:(ec != 0)=true:=by simpa using he
    have HE:Hid (X=([],ec)):=hidOf (by
     rw [HQ.out,hdr]
     show (if ec=0 then prF (wlP l a t) (a+(t.length+1)) (R.drop (k+1)) else ([],ec))=_
     rw [if_neg he])
    clear he hdr hrm
    go_wp2_with (go_at_call 15;refine (LC.out _ OW2.out).mono ?_;rintro e w3 ⟨rfl,ho⟩;have O3:=hidOf (OW2.out.trans ho);clear ho)
    go_ret2
    rw [HE.out]
    exact ⟨rfl,O3.out⟩
  ·
   have e:k=n:=by omega
   subst e
   have c2:wr.cell? ⟨N,2,none⟩=some (.int .i64 a):=HW.out.cell 2
   have HQ2:Hid (X=if 16777216<a then ([],50) else (l,0)):=hidOf (by
    rw [HQ.out,List.drop_of_length_le (by have:=Hn.out;have:=HR.out;omega)]
    rfl)
   have OW:Hid (Out w wr):=hidOf (by have:=HB.out;rw [HNN.out] at this;exact this)
   by_cases hm:16777216<a
   ·
    have hmI:(16777216:Int)<a:=by omega
    have HE:Hid (X=([],50)):=hidOf (by rw [HQ2.out,if_pos hm])
    go_wp2
    go_ret2
    rw [HE.out]
    exact ⟨rfl,OW.out⟩
   ·
    have hmI:¬(16777216:Int)<a:=by omega
    have HE:Hid (X=(l,0)):=hidOf (by rw [HQ2.out,if_neg hm])
    have CS:=hidOf (Lx.Pw.string_any N N wr l a 0 ad bv HW.out (by omega))
    go_wp2_with (go_at_call 17;refine CS.out.mono ?_;rintro e w3 ⟨rfl,hb⟩;have B3:=hidOf (Below.trans HB.out hb);clear hb)
    go_ret2
    rw [HE.out]
    exact ⟨rfl,by have:=B3.out;rw [HNN.out] at this;exact this⟩
theorem stC_get (Y:List (Stm × Value × Value)):∀ (k:Nat) (y:Stm × Value × Value) (i:Nat),Y[k]? = some y->i<11->(stC Y)[k*11+i]? = (stL y.1 y.2.1 y.2.2)[i]?:=by
 induction Y with
 | nil=>intro k y i h;simp at h
 | cons z r ih=>
  intro k y i h hi
  have hz:(stL z.1 z.2.1 z.2.2).length=11:=rfl
  cases k with
  | zero=>
   have:z=y:=by simpa using h
   subst this
   show (stL z.1 z.2.1 z.2.2++stC r)[0*11+i]? = _
   rw [List.getElem?_append_left (by omega)]
   simp
  | succ k=>
   show (stL z.1 z.2.1 z.2.2++stC r)[(k+1)*11+i]? = _
   rw [List.getElem?_append_right (by omega),show (k+1)*11+i - (stL z.1 z.2.1 z.2.2).length=k*11+i by omega]
   exact ih k y i (by simpa using h) hi
theorem OwQ.at {B:Nat} {sv:Value} {L:List Stm} {w:World} (h:OwQ B sv L w) (hne:¬L=[]):∃ g cap Y,sv=.slice (some ⟨g,0,none⟩) L.length cap/\L.length<=cap/\B<=g/\g<w.heap.size/\Y.map (fun y=>y.1)=L/\StR w g 0 Y/\∀ y ∈ Y,LsOk B w y.1 y.2.1 y.2.2:=by
 obtain ⟨Y,h1,h2,h3⟩:=h.ex
 have h2':=h2
 rcases h2.2 with ⟨hv,hn⟩ | ⟨g,cap,cur,hv,hb,hg,hc,_⟩
 · exact absurd (List.length_eq_zero_iff.1 hn) hne
 ·
  refine ⟨g,cap,Y,hv,hc,hb,(Array.getElem?_eq_some_iff.1 hg).1,h1,fun k y hy=>?_,h3⟩
  have hl:=h3 y (List.mem_of_getElem? hy)
  obtain ⟨aw,cw,e1⟩:=own_form hl.1
  obtain ⟨an,cn,e2⟩:=own_form hl.2
  refine ⟨⟨_,_,_,e1⟩,⟨_,_,_,e2⟩,fun i u hu=>?_⟩
  have hi:i<11:=by
   have:=(List.getElem?_eq_some_iff.1 hu).1
   exact this
  have h4:=h2'.cells (g:=g) (by rw [hv];rfl) (k*11+i) u (by rw [stC_get Y k y i hy hi,hu])
  rw [<-h4,Go.WideShapes.add_plain,Nat.add_assoc]
def awT:List UInt8:=[97,58,32,46,102,117,110,99,32,102,10,32,101,120,105,116]
def awL:List Stm:=[⟨1,[97],[],[],0,0,0,0,0,[],1⟩,⟨2,[102],[],[],0,0,0,0,0,[],1⟩,⟨6,[],[],[],149,0,0,0,0,[],2⟩]
theorem aw_stats:statsP awT=(awL,0,0):=by kernel_rfl
theorem aw_line:lnPl ⟨1,[97],[],[],0,0,0,0,0,[],0⟩ 0 0=([97,58],0):=by kernel_rfl
theorem aw_print:prF [] 0 [([97,58],0)]=([97,58,10],0):=by kernel_rfl
theorem num6_any (k:Int) (w:World):Calls Tryz.prog 7 #[.int .i64 k] w fun e w'=>e=.returned (.int .i64 k)/\w=w':=by
 go_enter Tryz.func7,Tryz.ntmps7
 go_wp2
 go_ret
 exact ⟨rfl,rfl⟩
theorem StR.get {w:World} {g off:Nat} {Y:List (Stm × Value × Value)} {L:List Stm} (h:StR w g off Y) (hY:Y.map (fun y=>y.1)=L) {k:Nat} {x:Stm} (hx:L[k]? = some x):∃ aw nw cw an nn cn,∀ i u,(stL x (.slice aw nw cw) (.slice an nn cn))[i]? = some u->w.cell? ⟨g,off+k*11+i,none⟩=some u:=by
 rw [<-hY,List.getElem?_map,Option.map_eq_some_iff] at hx
 obtain ⟨y,hy,rfl⟩:=hx
 obtain ⟨⟨aw,nw,cw,e1⟩,⟨an,nn,cn,e2⟩,hc⟩:=h k y hy
 rw [e1,e2] at hc
 exact ⟨aw,nw,cw,an,nn,cn,hc⟩
def awS:Stm:=⟨1,[97],[],[],0,0,0,0,0,[],0⟩
set_option maxRecDepth 20000 in
set_option maxHeartbeats 4000000 in
theorem awake6_any (w:World) (hE:Lx.LEnv w) (hP:PEnv w):Calls Tryz.prog 4 #[] w fun e w'=>e=.returned (.bool true)/\Out w w':=by
 have CN:=hidOf num6_any
 obtain ⟨wA,hwA⟩:∃ wA,wA=w.alloc (.cells #[.int .u8 97,.int .u8 58,.int .u8 32,.int .u8 46,.int .u8 102,.int .u8 117,.int .u8 110,.int .u8 99,.int .u8 32,.int .u8 102,.int .u8 10,.int .u8 32,.int .u8 101,.int .u8 120,.int .u8 105,.int .u8 116] 5 (16,17)):=⟨_,rfl⟩
 have OA:Hid (Out w wA):=hidOf (by rw [hwA];exact (Out.refl w).alloc _)
 have C1:Hid (Calls Tryz.prog 6 #[.slice (some ⟨w.heap.size,0,none⟩) 16 16] wA fun e w'=>∃ sv B,wA.heap.size<=B/\e=.returned (.tuple #[sv,.int .i64 0,.int .i64 0])/\OwQ B sv awL w'/\Out wA w'):=hidOf (by
  have h:=stats_any wA (hE.out OA.out) (hP.out OA.out) (some ⟨w.heap.size,0,none⟩) 16 awT (.inr ⟨w.heap.size,0,by rw [hwA,size_alloc];omega,rfl,fun k x hx=>by
   rw [hwA,World.cell?_alloc_mark,Nat.zero_add]
   show ((awT.map (fun x=>Value.int .u8 (x.toNat:Int))).toArray)[k]? = _
   rw [List.getElem?_toArray,List.getElem?_map,hx]
   rfl⟩) (by decide) (by decide)
  rw [aw_stats] at h
  exact h)
 have LB:Hid (∀ wx,Out w wx->Calls Tryz.prog 8 #[.slice (some ⟨wx.heap.size,0,none⟩) 1 1] (wx.alloc (.cells #[.int .i64 1,.string ⟨#[97]⟩,.slice none 0 0,.slice none 0 0,.int .i64 0,.int .i64 0,.int .i64 0,.int .i64 0,.int .i64 0,.string ⟨#[]⟩,.int .i64 0] 42)) fun e w'=>e=.returned (.tuple #[.string ⟨#[97,58,10]⟩,.int .i64 0])/\Out (wx.alloc (.cells #[.int .i64 1,.string ⟨#[97]⟩,.slice none 0 0,.slice none 0 0,.int .i64 0,.int .i64 0,.int .i64 0,.int .i64 0,.int .i64 0,.string ⟨#[]⟩,.int .i64 0] 42)) w'):=hidOf (fun wx o=>by
  obtain ⟨wy,hwy⟩:∃ wy,wy=wx.alloc (.cells #[.int .i64 1,.string ⟨#[97]⟩,.slice none 0 0,.slice none 0 0,.int .i64 0,.int .i64 0,.int .i64 0,.int .i64 0,.int .i64 0,.string ⟨#[]⟩,.int .i64 0] 42):=⟨_,rfl⟩
  rw [<-hwy]
  have oy:Out wx wy:=by rw [hwy];exact (Out.refl wx).alloc _
  have by_:wy.heap[wx.heap.size]? = some (.cells #[.int .i64 1,.string ⟨#[97]⟩,.slice none 0 0,.slice none 0 0,.int .i64 0,.int .i64 0,.int .i64 0,.int .i64 0,.int .i64 0,.string ⟨#[]⟩,.int .i64 0] 42 (0,0)):=by rw [hwy];exact heap_alloc_new wx _
  have h:=print7_any wy wx.heap.size 0 1 [(awS,.slice none 0 0,.slice none 0 0)] [([97,58],0)] rfl (fun k y hy=>by
   match k,hy with
   | 0,hy=>
    have e:(awS,Value.slice none 0 0,Value.slice none 0 0)=y:=by simpa using hy
    subst e
    refine ⟨⟨_,_,_,rfl⟩,⟨_,_,_,rfl⟩,fun i u hu=>?_⟩
    rw [cell_atL by_, <-hu]
    simp only [Nat.zero_mul,Nat.zero_add]
    show ((stL awS (.slice none 0 0) (.slice none 0 0)).toArray)[i]? = _
    rw [List.getElem?_toArray]
   | k+1,hy=>simp at hy) (Array.getElem?_eq_some_iff.1 by_).1 (by decide) (by decide) (fun wz oz k y r hy hr=>by
   match k,hy,hr with
   | 0,hy,hr=>
    have e:(awS,Value.slice none 0 0,Value.slice none 0 0)=y:=by simpa using hy
    have e2:(([97,58]:List UInt8),(0:Int))=r:=by simpa using hr
    subst e e2
    have h9:=lineOf_plain awS none none 0 0 0 0 wz (hE.out ((o.trans oy).trans oz)).2 (by decide) (by decide) (by decide)
    rw [show lnPl awS 0 0=([97,58],0) from aw_line] at h9
    simp only [stE]
    exact h9
   | k+1,hy,hr=>simp at hy) (fun r hr _=>by
   have:r=([97,58],0):=by simpa using hr
   rw [this]
   decide)
  rw [aw_print] at h
  exact h)
 have hcv:=Lib.run_convert_bytes_const (P:=Tryz.prog) w 35 5 #[.int .u8 97,.int .u8 58,.int .u8 32,.int .u8 46,.int .u8 102,.int .u8 117,.int .u8 110,.int .u8 99,.int .u8 32,.int .u8 102,.int .u8 10,.int .u8 32,.int .u8 101,.int .u8 120,.int .u8 105,.int .u8 116] 16 16 Tryz.underlying35 Tryz.underlying5
 simp only [List.size_toArray,List.length_cons,List.length_nil,Nat.zero_add,Nat.reduceAdd] at hcv
 rw [<-hwA] at hcv
 clear hwA hE hP
 go_enter Tryz.func4,Tryz.ntmps4
 go_upto_region 2 with (go_at_call 6;refine C1.out.mono ?_;rintro e w1 ⟨sv,B,hB,rfl,hq,ho⟩;have Q1:=hidOf hq;have O1:=hidOf (OA.out.trans ho);clear hq ho hB)
 obtain ⟨g,cap,Y,rfl,hcap, -, -,hY,hS, -⟩:=Q1.out.at (by simp [awL])
 obtain ⟨_,_,_,_,_,_,k0⟩:=hS.get hY (k:=0) rfl
 obtain ⟨_,_,_,_,_,_,k1⟩:=hS.get hY (k:=1) rfl
 obtain ⟨_,_,_,_,_,_,k2⟩:=hS.get hY (k:=2) rfl
 have q0:w1.cell? ⟨g,1,none⟩=some (.string ⟨#[97]⟩):=k0 1 _ rfl
 have q1:w1.cell? ⟨g,11,none⟩=some (.int .i64 2):=k1 0 _ rfl
 have q2:w1.cell? ⟨g,26,none⟩=some (.int .i64 149):=k2 4 _ rfl
 have q3:w1.cell? ⟨g,32,none⟩=some (.int .i64 2):=k2 10 _ rfl
 have e3:awL.length=3:=rfl
 rw [e3] at hcap ⊢
 clear hS hY k0 k1 k2 hcv Q1 e3
 go_wp2_with (first | (go_at_call 7;refine (CN.out _ _).mono ?_;rintro e wn ⟨rfl,hwn⟩;subst hwn) | (go_at_call 8;refine (LB.out _ O1.out).mono ?_;rintro e w3 ⟨rfl,ho⟩;have O3:=hidOf (Out.trans (O1.out.alloc _) ho);clear ho q0 q1 q2 q3))
 go_ret
 exact ⟨rfl,O3.out⟩
def OwB6 (B:Nat) (v:Value) (O:List UInt8) (w:World):Prop:=w.ownsRow B 5 1 v O.length (Lib.byteCells O)
theorem out_own6 {B n sz:Nat} {w X w1:World} {e:TypeId} {v:Value} {xs:List Value} (hB:B=w.heap.size) (h:X.ownsRow B e sz v n xs) (o:Out w X) (hg:X.grownBy w1 v.ownBlock):Out w w1:=
 Chg.out (S:=fun k=>v.ownBlock=some k) (Chg.of_grown hg (fun k h=>h)) o (fun k hk=>by have:=(h.lt k hk).1;omega)
theorem infoB6:(Tryz.prog.info? 5).map (fun i=>(i.zero,i.size,i.bytes))=some (some (.int .u8 0),1,1):=by kernel_rfl
theorem OwB6.rest {B:Nat} {v:Value} {l:List UInt8} {w:World} (h:OwB6 B v l w):∃ a cap,v=.slice a l.length cap/\l.length<=cap/\Lx.RestAt w.heap.size w a l:=by
 rcases h.2 with ⟨hv,hn⟩ | ⟨g,cap,cur,hv,hb,hg,hc,_⟩
 · exact ⟨none,0,by rw [hv,hn],by omega,.inl (List.length_eq_zero_iff.1 hn)⟩
 ·
  refine ⟨_,_,hv,hc,.inr ⟨g,0,(Array.getElem?_eq_some_iff.1 hg).1,rfl,fun k x hx=>?_⟩⟩
  have:=World.ownsRow.cells h (g:=g) (by rw [hv];rfl) k (.int .u8 (x.toNat:Int)) (by simp [Lib.byteCells,hx])
  rw [<-this,Go.WideShapes.add_plain]
def tbLn (x:Stm):List UInt8 × Int:=
 match x.ws,x.ns with
 | [y],[a,b,c]=>if tknQ y=true/\(0<=a/\a<=2147483647)/\(0<=b/\b<=2147483647)/\(0<=c/\c<=2147483647) then (mapB++[32]++x.nm++[32]++y++[32]++Lib.decDigits a.toNat++[32]++Lib.decDigits b.toNat++[32]++Lib.decDigits c.toNat,0) else ([],60)
 | _,_=>([],60)
def lnA (x:Stm):List UInt8 × Int:=
 if x.k=6/\x.nm=[]/\x.ws=[]/\x.ns=[] then printP x.o x.d x.s x.f x.i x.tg
 else if (!insZ x || !x.tg.isEmpty)=true then ([],60) else if isNmP x.nm=false then ([],60)
 else if x.k=5 then tbLn x else if (decide (0<x.ws.length) || decide (0<x.ns.length))=true then ([],60) else nmLn x
theorem nm_word {x:List UInt8} (h:isNmP x=true):Lx.wordP x=true:=by
 cases hw:Lx.wordP x with
 | true=>rfl
 | false=>
  exfalso
  have hm:Lx.mayP ⟨1,x,0,0⟩=53:=by
   unfold Lx.mayP
   rw [if_pos rfl]
   simp only
   rw [hw]
   rfl
  have hu:(Lx.unF true ⟨[],0,0⟩ (nmT x)).1=53:=by
   unfold nmT Lx.unF
   rw [hm]
   rfl
  unfold isNmP Lx.untokP at h
  rw [hu,if_neg (by decide)] at h
  exact absurd h (by decide)
theorem tkn_word {y:List UInt8} (h:tknQ y=true):Lx.wordP y=true/\y.length<=5:=by
 unfold tknQ at h
 simp only [Bool.or_eq_true,beq_iff_eq] at h
 rcases h with rfl | rfl <;> decide
end Go.Proofs.YtadneimllbfdnaaGreatDoor
