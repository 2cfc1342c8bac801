import Derived.Test.YtadneimllbfdnaaGreatDoorGu33
namespace Go.Proofs.YtadneimllbfdnaaGreatDoor
open Go.RowKit
set_option linter.unusedVariables false
set_option linter.unusedSimpArgs false
theorem tb_ws {x:Stm} (h:¬x.ws.length=1):tbLn x=([],60):=by
 unfold tbLn
 split
 ·
  rename_i y a b c e _
  rw [e] at h
  exact absurd rfl h
 · rfl
theorem tb_ns {x:Stm} (h:¬x.ns.length=3):tbLn x=([],60):=by
 unfold tbLn
 split
 ·
  rename_i y a b c _ e
  rw [e] at h
  exact absurd rfl h
 · rfl
set_option maxRecDepth 20000 in
set_option maxHeartbeats 1000000 in
theorem tableLine_bad (x:Stm) (aw an:Option Addr) (cw cn:Nat) (w:World) (hW:RowC w aw (strsC x.ws)) (hb:¬x.ws.length=1\/¬x.ns.length=3\/∃ y,x.ws=[y]/\tknQ y=false):Calls Tryz.prog 32 #[.agg #[.int .i64 x.k,.string ⟨x.nm.toArray⟩,.slice aw x.ws.length cw,.slice an x.ns.length cn,.int .i64 x.o,.int .i64 x.d,.int .i64 x.s,.int .i64 x.f,.int .i64 x.i,.string ⟨x.tg.toArray⟩,.int .i64 x.l]] w fun e w'=>e=.returned (.tuple #[.string ⟨#[]⟩,.int .i64 60])/\Out w w':=by
 obtain ⟨w1,hw1⟩:∃ w1,w1=w.alloc (.cells #[.int .i64 x.k,.string ⟨x.nm.toArray⟩,.slice aw x.ws.length cw,.slice an x.ns.length cn,.int .i64 x.o,.int .i64 x.d,.int .i64 x.s,.int .i64 x.f,.int .i64 x.i,.string ⟨x.tg.toArray⟩,.int .i64 x.l] 42):=⟨_,rfl⟩
 have O1:Hid (Out w w1):=hidOf (by rw [hw1];exact (Out.refl w).alloc _)
 have b1:w1.heap[w.heap.size]? = some (.cells #[.int .i64 x.k,.string ⟨x.nm.toArray⟩,.slice aw x.ws.length cw,.slice an x.ns.length cn,.int .i64 x.o,.int .i64 x.d,.int .i64 x.s,.int .i64 x.f,.int .i64 x.i,.string ⟨x.tg.toArray⟩,.int .i64 x.l] 42 (0,0)):=by rw [hw1];exact heap_alloc_new w _
 have c2:w1.cell? ⟨w.heap.size,2,none⟩=some (.slice aw x.ws.length cw):=by rw [cell_atL b1];rfl
 have c3:w1.cell? ⟨w.heap.size,3,none⟩=some (.slice an x.ns.length cn):=by rw [cell_atL b1];rfl
 have Hw1:=hidOf hw1
 have HW:=hidOf (hW.out O1.out)
 clear hw1 b1 hW
 by_cases h1:x.ws.length=1
 ·
  have h1I:((x.ws.length:Int) != 1)=false:=by rw [h1];rfl
  obtain ⟨y,hy⟩:∃ y,x.ws=[y]:=List.length_eq_one_iff.1 h1
  obtain ⟨g,off,rfl,q⟩:=HW.out.get (k:=0) (u:=.string ⟨y.toArray⟩) (by rw [hy];rfl)
  have q:w1.cell? ⟨g,off,none⟩=some (.string ⟨y.toArray⟩):=q
  have CT:=hidOf (isTableKind_any y)
  rw [h1] at c2 Hw1 ⊢
  have H1:=hidOf h1
  clear h1 h1I
  cases hk:tknQ y with
  | false=>
   rw [hk] at CT
   clear hb HW hy hk
   go_enter Tryz.func32,Tryz.ntmps32
   go_upto_region 1 with fail
   rw [<-Hw1.out]
   go_wp2_with (go_at_call 61;refine (CT.out _).mono ?_;rintro e w2 ⟨rfl,hw⟩;subst hw)
   go_ret2
   exact ⟨rfl,O1.out⟩
  | true=>
   rw [hk] at CT
   have h3:¬x.ns.length=3:=by
    rcases hb with h | h | ⟨z,hz,hz2⟩
    · exact absurd H1.out h
    · exact h
    ·
     rw [hy] at hz
     injection hz with hz
     rw [hz,hz2] at hk
     cases hk
   have h3I:((x.ns.length:Int) != 3)=true:=by simp;omega
   clear hb HW hy hk
   go_enter Tryz.func32,Tryz.ntmps32
   go_upto_region 1 with fail
   rw [<-Hw1.out]
   go_wp2_with (go_at_call 61;refine (CT.out _).mono ?_;rintro e w2 ⟨rfl,hw⟩;subst hw)
   go_ret2
   exact ⟨rfl,O1.out⟩
 ·
  have h1I:((x.ws.length:Int) != 1)=true:=by simp;omega
  clear hb HW
  go_enter Tryz.func32,Tryz.ntmps32
  go_upto_region 1 with fail
  rw [<-Hw1.out]
  go_wp2
  go_ret2
  exact ⟨rfl,O1.out⟩
def tbF:List UInt8->List Int->List UInt8 × Int
 | acc,[]=>(acc,0)
 | acc,n::r=>if 0<=n/\n<=2147483647 then tbF (acc++([32]++Lib.decDigits n.toNat)) r else ([],60)
set_option maxRecDepth 20000 in
set_option maxHeartbeats 1000000 in
theorem tableLine_good (x:Stm) (aw an:Option Addr) (cw cn:Nat) (w:World) (hpw:Lx.Pow w) (hx:x.nm.length<=1000) (hW:RowC w aw (strsC x.ws)) (hN:RowC w an (intsC x.ns)) (y:List UInt8) (hy:x.ws=[y]) (hk:tknQ y=true) (h3:x.ns.length=3):Calls Tryz.prog 32 #[.agg #[.int .i64 x.k,.string ⟨x.nm.toArray⟩,.slice aw x.ws.length cw,.slice an x.ns.length cn,.int .i64 x.o,.int .i64 x.d,.int .i64 x.s,.int .i64 x.f,.int .i64 x.i,.string ⟨x.tg.toArray⟩,.int .i64 x.l]] w fun e w'=>e=.returned (.tuple #[.string ⟨(tbF (mapB++[32]++x.nm++[32]++y) x.ns).1.toArray⟩,.int .i64 (tbF (mapB++[32]++x.nm++[32]++y) x.ns).2])/\Out w w':=by
 obtain ⟨w1,hw1⟩:∃ w1,w1=w.alloc (.cells #[.int .i64 x.k,.string ⟨x.nm.toArray⟩,.slice aw x.ws.length cw,.slice an x.ns.length cn,.int .i64 x.o,.int .i64 x.d,.int .i64 x.s,.int .i64 x.f,.int .i64 x.i,.string ⟨x.tg.toArray⟩,.int .i64 x.l] 42):=⟨_,rfl⟩
 have O1:Hid (Out w w1):=hidOf (by rw [hw1];exact (Out.refl w).alloc _)
 have b1:w1.heap[w.heap.size]? = some (.cells #[.int .i64 x.k,.string ⟨x.nm.toArray⟩,.slice aw x.ws.length cw,.slice an x.ns.length cn,.int .i64 x.o,.int .i64 x.d,.int .i64 x.s,.int .i64 x.f,.int .i64 x.i,.string ⟨x.tg.toArray⟩,.int .i64 x.l] 42 (0,0)):=by rw [hw1];exact heap_alloc_new w _
 have c1:w1.cell? ⟨w.heap.size,1,none⟩=some (.string ⟨x.nm.toArray⟩):=by rw [cell_atL b1];rfl
 have c2:w1.cell? ⟨w.heap.size,2,none⟩=some (.slice aw x.ws.length cw):=by rw [cell_atL b1];rfl
 have c3:w1.cell? ⟨w.heap.size,3,none⟩=some (.slice an x.ns.length cn):=by rw [cell_atL b1];rfl
 have Hw1:=hidOf hw1
 have HW:=hidOf (hW.out O1.out)
 have HN:=hidOf (hN.out O1.out)
 clear hw1 b1 hW hN
 have hyl:=(tkn_word hk).2
 have h1:x.ws.length=1:=by rw [hy];rfl
 obtain ⟨g,off,rfl,q⟩:=HW.out.get (k:=0) (u:=.string ⟨y.toArray⟩) (by rw [hy];rfl)
 have q:w1.cell? ⟨g,off,none⟩=some (.string ⟨y.toArray⟩):=q
 have CT:=hidOf (isTableKind_any y)
 rw [hk] at CT
 rw [h1] at c2 Hw1 ⊢
 rw [h3] at c3 Hw1 ⊢
 have a1:∀ wx,(Op.stringOp .add ⟨#[46,109,97,112,32]⟩ ⟨x.nm.toArray⟩).run Tryz.prog wx=.ok (.string ⟨(mapB++[32]++x.nm).toArray⟩) wx:=fun wx=>add_l4 (mapB++[32]) x.nm _ rfl (by simp [mapB];omega) wx
 have a2:∀ wx,(Op.stringOp .add ⟨(mapB++[32]++x.nm).toArray⟩ ⟨#[32]⟩).run Tryz.prog wx=.ok (.string ⟨(mapB++[32]++x.nm++[32]).toArray⟩) wx:=fun wx=>add_l4 (mapB++[32]++x.nm) [32] _ rfl (by simp [mapB];omega) wx
 have a3:∀ wx,(Op.stringOp .add ⟨(mapB++[32]++x.nm++[32]).toArray⟩ ⟨y.toArray⟩).run Tryz.prog wx=.ok (.string ⟨(mapB++[32]++x.nm++[32]++y).toArray⟩) wx:=fun wx=>add_l4 (mapB++[32]++x.nm++[32]) y _ rfl (by simp [mapB];omega) wx
 obtain ⟨T,hT⟩:∃ T,T=mapB++[32]++x.nm++[32]++y:=⟨_,rfl⟩
 have hTl:T.length<=1100:=by rw [hT];simp [mapB];omega
 rw [<-hT] at a3 ⊢
 generalize mapB++[32]++x.nm++[32]=T2 at *
 generalize mapB++[32]++x.nm=T1 at *
 clear hT HW hk hyl h1 hx
 have Hy:=hidOf hy
 clear hy
 obtain ⟨R,hR⟩:∃ R,R=tbF T x.ns:=⟨_,rfl⟩
 rw [<-hR]
 have HR:=hidOf hR
 clear hR
 go_enter Tryz.func32,Tryz.ntmps32
 go_upto_region 1 with fail
 rw [<-Hw1.out]
 go_upto_region 3 with (go_at_call 61;refine (CT.out _).mono ?_;rintro e w2 ⟨rfl,hw⟩;have hw:=hw.symm;subst hw)
 go_region_held3 (fun wx=>wx.cell? ⟨w.heap.size,1,none⟩=some (.string ⟨x.nm.toArray⟩)/\wx.cell? ⟨w.heap.size,2,none⟩=some (.slice (some ⟨g,off,none⟩) 1 cw)/\wx.cell? ⟨g,off,none⟩=some (.string ⟨y.toArray⟩)) (first | exact ⟨c1,c2,q⟩) (fail)
 obtain ⟨wd,hwd⟩:∃ wd,wd=w1.drew:=⟨_,rfl⟩
 have d3:wd.cell? ⟨w.heap.size,3,none⟩=some (.slice an 3 cn):=by rw [hwd];exact c3
 have HNd:Hid (RowC wd an (intsC x.ns)):=hidOf (by rw [hwd];exact HN.out.out ((Out.refl w1).drew))
 have OD:Hid (Out w wd):=hidOf (by rw [hwd];exact O1.out.drew)
 rw [<-hwd]
 clear hwd c1 c2 c3 q a1 a2 a3 HN
 have HC:Hid (∀ (n:Int) wx,Out w wx->0<=n->n<=2147483647->Calls Tryz.prog 40 #[.int .i64 n] wx fun e w'=>e=.returned (.string ⟨(Lib.decDigits n.toNat).toArray⟩)/\Out wx w'):=hidOf (fun n wx o h0 h1=>by
  have:=itoa_any n ⟨by omega,by omega⟩ wx (hpw.out o)
  rw [itoa_pos n (by omega)] at this
  exact this)
 have H3:=hidOf h3
 clear hpw h3
 go_upto_region 6 with fail
 go_loopw [4,37] (fun tv iv wr=>∃ (k:Nat) (acc:List UInt8),tv=.string ⟨acc.toArray⟩/\iv=.int .i64 k/\k<=3/\acc.length<=1100+30*k/\Hid (R=tbF acc (x.ns.drop k))/\Hid (Out wd wr)) (fun _ iv _=>3 - (intOf iv).toNat)
 case atStart=>exact ⟨0,T,rfl,rfl,by omega,by omega,hidOf (by rw [HR.out];rfl),hidOf (Out.refl _)⟩
 case round=>
  obtain ⟨k,acc,rfl,rfl,hk,hacc,HQ,HO⟩:=hrel
  by_cases hk3:k<3
  ·
   have hkI:(k:Int)<3:=by omega
   obtain ⟨n,hn⟩:∃ n,x.ns[k]? = some n:=⟨_,List.getElem?_eq_getElem (by have:=H3.out;omega)⟩
   obtain ⟨g2,off2,rfl,q2⟩:=(HNd.out.out HO.out).get (intsC_get hn)
   have hdr:x.ns.drop k=n::x.ns.drop (k+1):=by
    have hlt:k<x.ns.length:=by have:=H3.out;omega
    rw [List.drop_eq_getElem_cons hlt]
    congr 1
    rw [List.getElem?_eq_getElem hlt] at hn
    exact Option.some.inj hn
   have HQ2:Hid (R=if 0<=n/\n<=2147483647 then tbF (acc++([32]++Lib.decDigits n.toNat)) (x.ns.drop (k+1)) else ([],60)):=hidOf (by rw [HQ.out,hdr];rfl)
   clear hn hdr HQ
   have OW:=hidOf (OD.out.trans HO.out)
   by_cases h0:0<=n
   ·
    have h0I:¬n<0:=by omega
    by_cases h1:n<=2147483647
    ·
     have h1I:¬(2147483647:Int)<n:=by omega
     have hdl:(Lib.decDigits n.toNat).length<=20:=Lx.dd_len 19 n.toNat (by omega)
     have CI:=hidOf (HC.out n wr OW.out h0 h1)
     have HQ3:Hid (R=tbF (acc++([32]++Lib.decDigits n.toNat)) (x.ns.drop (k+1))):=hidOf (by rw [HQ2.out,if_pos ⟨h0,h1⟩])
     generalize Lib.decDigits n.toNat=D at *
     have a4:∀ wx,(Op.stringOp .add ⟨#[32]⟩ ⟨D.toArray⟩).run Tryz.prog wx=.ok (.string ⟨([32]++D).toArray⟩) wx:=fun wx=>add_l4 [32] D _ rfl (by simp;omega) wx
     have a5:∀ wx,(Op.stringOp .add ⟨acc.toArray⟩ ⟨([32]++D).toArray⟩).run Tryz.prog wx=.ok (.string ⟨(acc++([32]++D)).toArray⟩) wx:=fun wx=>add_l4 acc ([32]++D) _ rfl (by simp;omega) wx
     have hl2:(acc++([32]++D)).length<=1100+30*(k+1):=by simp only [List.length_append,List.length_cons,List.length_nil];omega
     clear HQ2 h0 h1
     generalize hA:acc++([32]++D)=A at *
     generalize hB : [32]++D=B at *
     clear hA hB
     go_wp2_with (go_at_call 40;refine CI.out.mono ?_;rintro e w3 ⟨rfl,ho⟩;have O3:=hidOf ho;clear ho)
     go_roundw
     case rel=>exact ⟨k+1,A,rfl,by simp,by omega,hl2,HQ3,hidOf (HO.out.trans O3.out)⟩
     case measure=>simp [intOf];omega
    ·
     have h1I:(2147483647:Int)<n:=by omega
     have HE:Hid (R=([],60)):=hidOf (by rw [HQ2.out,if_neg (fun h=>h1 h.2)])
     clear HQ2 h0 h1
     go_wp2
     go_ret2
     rw [HE.out]
     exact ⟨rfl,OW.out⟩
   ·
    have h0I:n<0:=by omega
    have HE:Hid (R=([],60)):=hidOf (by rw [HQ2.out,if_neg (fun h=>h0 h.1)])
    clear HQ2 h0
    go_wp2
    go_ret2
    rw [HE.out]
    exact ⟨rfl,OW.out⟩
  ·
   have hkI:¬(k:Int)<3:=by omega
   have HE:Hid (R=(acc,0)):=hidOf (by rw [HQ.out,List.drop_eq_nil_of_le (by have:=H3.out;omega)];rfl)
   go_wp2
   go_ret2
   rw [HE.out]
   exact ⟨rfl,OD.out.trans HO.out⟩
theorem tbF_eq {x:Stm} {y:List UInt8} (hy:x.ws=[y]) (hk:tknQ y=true) (h3:x.ns.length=3):tbF (mapB++[32]++x.nm++[32]++y) x.ns=tbLn x:=by
 obtain ⟨a,b,c,hn⟩:∃ a b c,x.ns=[a,b,c]:=by
  cases hq:x.ns with
  | nil=>rw [hq] at h3;cases h3
  | cons a r=>
   cases hr:r with
   | nil=>rw [hq,hr] at h3;cases h3
   | cons b r2=>
    cases hs:r2 with
    | nil=>rw [hq,hr,hs] at h3;cases h3
    | cons c r3=>
     cases r3 with
     | nil=>exact ⟨a,b,c,rfl⟩
     | cons d r4=>rw [hq,hr,hs] at h3;simp at h3
 unfold tbLn
 rw [hy,hn]
 simp only [tbF]
 by_cases ha:0<=a/\a<=2147483647
 ·
  rw [if_pos ha]
  by_cases hb:0<=b/\b<=2147483647
  ·
   rw [if_pos hb]
   by_cases hc:0<=c/\c<=2147483647
   ·
    rw [if_pos hc,if_pos ⟨hk,ha,hb,hc⟩]
    simp only [List.append_assoc]
   · rw [if_neg hc,if_neg (fun h=>hc h.2.2.2)]
  · rw [if_neg hb,if_neg (fun h=>hb h.2.2.1)]
 · rw [if_neg ha,if_neg (fun h=>ha h.2.1)]
theorem tableLine_any (x:Stm) (aw an:Option Addr) (cw cn:Nat) (w:World) (hpw:Lx.Pow w) (hx:x.nm.length<=1000) (hW:RowC w aw (strsC x.ws)) (hN:RowC w an (intsC x.ns)):Calls Tryz.prog 32 #[.agg #[.int .i64 x.k,.string ⟨x.nm.toArray⟩,.slice aw x.ws.length cw,.slice an x.ns.length cn,.int .i64 x.o,.int .i64 x.d,.int .i64 x.s,.int .i64 x.f,.int .i64 x.i,.string ⟨x.tg.toArray⟩,.int .i64 x.l]] w fun e w'=>e=.returned (.tuple #[.string ⟨(tbLn x).1.toArray⟩,.int .i64 (tbLn x).2])/\Out w w':=by
 by_cases h1:x.ws.length=1
 ·
  obtain ⟨y,hy⟩:∃ y,x.ws=[y]:=List.length_eq_one_iff.1 h1
  by_cases h3:x.ns.length=3
  ·
   cases hk:tknQ y with
   | true=>
    rw [<-tbF_eq hy hk h3]
    exact tableLine_good x aw an cw cn w hpw hx hW hN y hy hk h3
   | false=>
    have e:tbLn x=([],60):=by
     unfold tbLn
     split
     ·
      rename_i y2 a b c e2 _
      rw [hy] at e2
      injection e2 with e2
      rw [<-e2,hk]
      rfl
     · rfl
    rw [e]
    exact tableLine_bad x aw an cw cn w hW (.inr (.inr ⟨y,hy,hk⟩))
  ·
   rw [tb_ns h3]
   exact tableLine_bad x aw an cw cn w hW (.inr (.inl h3))
 ·
  rw [tb_ws h1]
  exact tableLine_bad x aw an cw cn w hW (.inl h1)
end Go.Proofs.YtadneimllbfdnaaGreatDoor
