import Derived.Test.YtadneimllbfdnaaGreatDoorGu35
namespace Go.Proofs.YtadneimllbfdnaaGreatDoor
open Go.RowKit
set_option linter.unusedVariables false
set_option linter.unusedSimpArgs false
theorem shape6_any (x:List UInt8) (w:World):Calls Tryz.prog 39 #[.string ⟨x.toArray⟩] w fun e w'=>e=.returned (.bool (tknQ x))/\w'=w:=by
 have e1:(arrB:List UInt8)=[97,114,114,97,121]:=rfl
 have e2:(hashB:List UInt8)=[104,97,115,104]:=rfl
 unfold tknQ
 rw [e1,e2]
 by_cases h1:x=[97,114,114,97,121]
 ·
  subst h1
  go_enter Tryz.func39,Tryz.ntmps39
  go_wp2
  go_ret
  exact ⟨rfl,rfl⟩
 ·
  by_cases h2:x=[104,97,115,104]
  ·
   subst h2
   go_enter Tryz.func39,Tryz.ntmps39
   go_wp2
   go_ret
   exact ⟨rfl,rfl⟩
  ·
   go_enter Tryz.func39,Tryz.ntmps39
   go_wp2
   all_goals
    go_ret
    refine ⟨?_,rfl⟩
    simp_all
theorem tb_kd {x:Stm} {y:List UInt8} (hy:x.ws=[y]) (hk:tknQ y=false):tbLn x=([],60):=by
 unfold tbLn
 split
 ·
  rename_i y2 a b c e2 _
  rw [hy] at e2
  injection e2 with e2
  rw [<-e2,hk]
  rfl
 · rfl
set_option maxRecDepth 20000 in
set_option maxHeartbeats 2000000 in
theorem one_table (nm:List UInt8) (ws:List (List UInt8)) (ns:List Int) (o d s f i:Int) (tg:List UInt8) (l:Int) (aw an:Option Addr) (cw cn:Nat) (w:World) (hpw:Lx.Pow w) (hb:bareP ⟨5,nm,ws,ns,o,d,s,f,i,tg,l⟩ ws.length ns.length 5=true) (hx:nm.length<=1000) (hn:nameP nm=true) (hW:RowC w aw (strsC ws)) (hN:RowC w an (intsC ns)):Calls Tryz.prog 18 #[.agg #[.int .i64 5,.string ⟨nm.toArray⟩,.slice aw ws.length cw,.slice an ns.length cn,.int .i64 o,.int .i64 d,.int .i64 s,.int .i64 f,.int .i64 i,.string ⟨tg.toArray⟩,.int .i64 l]] w fun e w'=>e=.returned (.tuple #[.string ⟨(tbLn ⟨5,nm,ws,ns,o,d,s,f,i,tg,l⟩).1.toArray⟩,.int .i64 (tbLn ⟨5,nm,ws,ns,o,d,s,f,i,tg,l⟩).2])/\Out w w':=by
 have CB:=hidOf (bare_any ⟨5,nm,ws,ns,o,d,s,f,i,tg,l⟩ aw an ws.length cw ns.length cn 5)
 simp only at CB
 rw [hb] at CB
 have CN:=hidOf (fun wx=>name4_any nm wx (by omega))
 rw [hn] at CN
 obtain ⟨R,hR⟩:∃ R,R=tbLn ⟨5,nm,ws,ns,o,d,s,f,i,tg,l⟩:=⟨_,rfl⟩
 rw [<-hR]
 have HR:=hidOf hR
 clear hb hn hR
 obtain ⟨w1,hw1⟩:∃ w1,w1=w.alloc (.cells #[.int .i64 5,.string ⟨nm.toArray⟩,.slice aw ws.length cw,.slice an ns.length cn,.int .i64 o,.int .i64 d,.int .i64 s,.int .i64 f,.int .i64 i,.string ⟨tg.toArray⟩,.int .i64 l] 42):=⟨_,rfl⟩
 have O1:Hid (Out w w1):=hidOf (by rw [hw1];exact (Out.refl w).alloc _)
 have b1':w1.heap[w.heap.size]? = some (.cells #[.int .i64 5,.string ⟨nm.toArray⟩,.slice aw ws.length cw,.slice an ns.length cn,.int .i64 o,.int .i64 d,.int .i64 s,.int .i64 f,.int .i64 i,.string ⟨tg.toArray⟩,.int .i64 l] 42 (0,0)):=by rw [hw1];exact heap_alloc_new w _
 have BL:Hid (∀ wx,Out w1 wx->wx.heap[w.heap.size]? = some (.cells #[.int .i64 5,.string ⟨nm.toArray⟩,.slice aw ws.length cw,.slice an ns.length cn,.int .i64 o,.int .i64 d,.int .i64 s,.int .i64 f,.int .i64 i,.string ⟨tg.toArray⟩,.int .i64 l] 42 (0,0))):=hidOf (fun wx o=>(o.block _ (Array.getElem?_eq_some_iff.1 b1').1).trans b1')
 have Hw1:=hidOf hw1
 clear hw1 b1'
 have c0:w1.cell? ⟨w.heap.size,0,none⟩=some (.int .i64 5):=by rw [cell_atL (BL.out _ (Out.refl w1))];rfl
 have c1:w1.cell? ⟨w.heap.size,1,none⟩=some (.string ⟨nm.toArray⟩):=by rw [cell_atL (BL.out _ (Out.refl w1))];rfl
 have c2:w1.cell? ⟨w.heap.size,2,none⟩=some (.slice aw ws.length cw):=by rw [cell_atL (BL.out _ (Out.refl w1))];rfl
 have c3:w1.cell? ⟨w.heap.size,3,none⟩=some (.slice an ns.length cn):=by rw [cell_atL (BL.out _ (Out.refl w1))];rfl
 have c4:w1.cell? ⟨w.heap.size,4,none⟩=some (.int .i64 o):=by rw [cell_atL (BL.out _ (Out.refl w1))];rfl
 have c5:w1.cell? ⟨w.heap.size,5,none⟩=some (.int .i64 d):=by rw [cell_atL (BL.out _ (Out.refl w1))];rfl
 have c6:w1.cell? ⟨w.heap.size,6,none⟩=some (.int .i64 s):=by rw [cell_atL (BL.out _ (Out.refl w1))];rfl
 have c7:w1.cell? ⟨w.heap.size,7,none⟩=some (.int .i64 f):=by rw [cell_atL (BL.out _ (Out.refl w1))];rfl
 have c8:w1.cell? ⟨w.heap.size,8,none⟩=some (.int .i64 i):=by rw [cell_atL (BL.out _ (Out.refl w1))];rfl
 have c9:w1.cell? ⟨w.heap.size,9,none⟩=some (.string ⟨tg.toArray⟩):=by rw [cell_atL (BL.out _ (Out.refl w1))];rfl
 have c10:w1.cell? ⟨w.heap.size,10,none⟩=some (.int .i64 l):=by rw [cell_atL (BL.out _ (Out.refl w1))];rfl
 have HW:=hidOf (hW.out O1.out)
 have HN:=hidOf (hN.out O1.out)
 clear hW hN
 go_enter Tryz.func18,Tryz.ntmps18
 go_upto_region 1 with fail
 rw [<-Hw1.out]
 go_upto_region 3 with (go_at_call 36;refine (CB.out _).mono ?_;rintro e w2 ⟨rfl,ho⟩;have O2:=hidOf ho;clear ho)
 clear c0 c1 c2 c3 c4 c5 c6 c7 c8 c9 c10
 have e0:w2.cell? ⟨w.heap.size,0,none⟩=some (.int .i64 5):=by rw [cell_atL (BL.out _ O2.out)];rfl
 have e1:w2.cell? ⟨w.heap.size,1,none⟩=some (.string ⟨nm.toArray⟩):=by rw [cell_atL (BL.out _ O2.out)];rfl
 have e2:w2.cell? ⟨w.heap.size,2,none⟩=some (.slice aw ws.length cw):=by rw [cell_atL (BL.out _ O2.out)];rfl
 have e3:w2.cell? ⟨w.heap.size,3,none⟩=some (.slice an ns.length cn):=by rw [cell_atL (BL.out _ O2.out)];rfl
 have e4:w2.cell? ⟨w.heap.size,4,none⟩=some (.int .i64 o):=by rw [cell_atL (BL.out _ O2.out)];rfl
 have e5:w2.cell? ⟨w.heap.size,5,none⟩=some (.int .i64 d):=by rw [cell_atL (BL.out _ O2.out)];rfl
 have e6:w2.cell? ⟨w.heap.size,6,none⟩=some (.int .i64 s):=by rw [cell_atL (BL.out _ O2.out)];rfl
 have e7:w2.cell? ⟨w.heap.size,7,none⟩=some (.int .i64 f):=by rw [cell_atL (BL.out _ O2.out)];rfl
 have e8:w2.cell? ⟨w.heap.size,8,none⟩=some (.int .i64 i):=by rw [cell_atL (BL.out _ O2.out)];rfl
 have e9:w2.cell? ⟨w.heap.size,9,none⟩=some (.string ⟨tg.toArray⟩):=by rw [cell_atL (BL.out _ O2.out)];rfl
 have e10:w2.cell? ⟨w.heap.size,10,none⟩=some (.int .i64 l):=by rw [cell_atL (BL.out _ O2.out)];rfl
 go_upto_region 16 with (go_at_call 38;refine (CN.out _).mono ?_;rintro e w3 ⟨rfl,hw3⟩;subst hw3)
 have HW2:=hidOf (HW.out.out O2.out)
 have HN2:=hidOf (HN.out.out O2.out)
 have OW:=hidOf (O1.out.trans O2.out)
 clear HW HN CB CN
 by_cases h1:ws.length=1
 ·
  obtain ⟨y,hy⟩:∃ y,ws=[y]:=List.length_eq_one_iff.1 h1
  obtain ⟨g,off,rfl,q⟩:=HW2.out.get (k:=0) (u:=.string ⟨y.toArray⟩) (by rw [hy];rfl)
  have q:w2.cell? ⟨g,off,none⟩=some (.string ⟨y.toArray⟩):=q
  have CT:=hidOf (shape6_any y)
  have Hy:=hidOf hy
  rw [h1] at e2 ⊢
  clear h1 hy
  cases hk:tknQ y with
  | false=>
   have HE:Hid (R=([],60)):=hidOf (by rw [HR.out];exact tb_kd (x:=⟨5,nm,ws,ns,o,d,s,f,i,tg,l⟩) Hy.out hk)
   rw [hk] at CT
   clear hk
   go_wp2_with (go_at_call 39;refine (CT.out _).mono ?_;rintro e w3 ⟨rfl,hw⟩;have hw:=hw.symm;subst hw)
   go_ret2
   rw [HE.out]
   exact ⟨rfl,OW.out⟩
  | true=>
   rw [hk] at CT
   by_cases h3:ns.length=3
   ·
    have HE:Hid (R=tbF (mapB++[32]++nm++[32]++y) ns):=hidOf (by rw [HR.out];exact (tbF_eq (x:=⟨5,nm,ws,ns,o,d,s,f,i,tg,l⟩) Hy.out hk h3).symm)
    have hyl:=(tkn_word hk).2
    have H3:=hidOf h3
    rw [h3] at e3 ⊢
    clear hk h3
    go_upto_region 18 with (go_at_call 39;refine (CT.out _).mono ?_;rintro e w3 ⟨rfl,hw⟩;have hw:=hw.symm;subst hw)
    have a1:∀ wx,(Op.stringOp .add ⟨#[46,109,97,112,32]⟩ ⟨nm.toArray⟩).run Tryz.prog wx=.ok (.string ⟨(mapB++[32]++nm).toArray⟩) wx:=fun wx=>add_l4 (mapB++[32]) nm _ rfl (by simp [mapB];omega) wx
    have a2:∀ wx,(Op.stringOp .add ⟨(mapB++[32]++nm).toArray⟩ ⟨#[32]⟩).run Tryz.prog wx=.ok (.string ⟨(mapB++[32]++nm++[32]).toArray⟩) wx:=fun wx=>add_l4 (mapB++[32]++nm) [32] _ rfl (by simp [mapB];omega) wx
    have a3:∀ wx,(Op.stringOp .add ⟨(mapB++[32]++nm++[32]).toArray⟩ ⟨y.toArray⟩).run Tryz.prog wx=.ok (.string ⟨(mapB++[32]++nm++[32]++y).toArray⟩) wx:=fun wx=>add_l4 (mapB++[32]++nm++[32]) y _ rfl (by simp [mapB];omega) wx
    have hTl:(mapB++[32]++nm++[32]++y).length<=1100:=by simp [mapB];omega
    generalize mapB++[32]++nm++[32]++y=T at *
    generalize mapB++[32]++nm++[32]=T2 at *
    generalize mapB++[32]++nm=T1 at *
    go_region_held3 (fun wx=>wx.cell? ⟨w.heap.size,1,none⟩=some (.string ⟨nm.toArray⟩)/\wx.cell? ⟨w.heap.size,2,none⟩=some (.slice (some ⟨g,off,none⟩) 1 cw)/\wx.cell? ⟨g,off,none⟩=some (.string ⟨y.toArray⟩)) (first | exact ⟨e1,e2,q⟩) (fail)
    obtain ⟨wd,hwd⟩:∃ wd,wd=w2.drew:=⟨_,rfl⟩
    have HNd:Hid (RowC wd an (intsC ns)):=hidOf (by rw [hwd];exact HN2.out.out ((Out.refl w2).drew))
    have D3:Hid (∀ wx,Out wd wx->wx.cell? ⟨w.heap.size,3,none⟩=some (.slice an 3 cn)):=hidOf (fun wx o=>cell_later o (by rw [hwd];exact e3))
    have OD:Hid (Out w wd):=hidOf (by rw [hwd];exact OW.out.drew)
    rw [<-hwd]
    have HC:Hid (∀ (n:Int) wx,Out w wx->0<=n->n<=2147483647->Calls Tryz.prog 40 #[.int .i64 n] wx fun e w'=>e=.returned (.string ⟨(Lib.decDigits n.toNat).toArray⟩)/\Out wx w'):=hidOf (fun n wx o h0 h1=>by
     have:=itoa_any n ⟨by omega,by omega⟩ wx (hpw.out o)
     rw [itoa_pos n (by omega)] at this
     exact this)
    clear hwd e0 e1 e2 e3 e4 e5 e6 e7 e8 e9 e10 q a1 a2 a3 HN2 HW2 hpw O1 O2 OW
    go_upto_region 20 with fail
    go_loopw [4,5] (fun tv iv wr=>∃ (k:Nat) (acc:List UInt8),tv=.string ⟨acc.toArray⟩/\iv=.int .i64 k/\k<=3/\acc.length<=1100+30*k/\Hid (R=tbF acc (ns.drop k))/\Hid (Out wd wr)) (fun _ iv _=>3 - (intOf iv).toNat)
    case atStart=>exact ⟨0,T,rfl,rfl,by omega,by omega,hidOf (by rw [HE.out];rfl),hidOf (Out.refl _)⟩
    case round=>
     obtain ⟨k,acc,rfl,rfl,hk,hacc,HQ,HO⟩:=hrel
     by_cases hk3:k<3
     ·
      have hkI:(k:Int)<3:=by omega
      have h00:(0:Int)<=k:=by omega
      obtain ⟨n,hn⟩:∃ n,ns[k]? = some n:=⟨_,List.getElem?_eq_getElem (by have:=H3.out;omega)⟩
      have HND:=hidOf (fun (wx:World) (oo:Out wr wx)=>((HNd.out.out HO.out).out oo))
      obtain ⟨g2,off2,rfl,q2⟩:=(HNd.out.out HO.out).get (intsC_get hn)
      have Q2:Hid (∀ wx,Out wr wx->wx.cell? ⟨g2,off2+k,none⟩=some (.int .i64 n)):=hidOf (fun wx oo=>cell_later oo q2)
      have d3:=D3.out wr HO.out
      have hdr:ns.drop k=n::ns.drop (k+1):=by
       have hlt:k<ns.length:=by have:=H3.out;omega
       rw [List.drop_eq_getElem_cons hlt]
       congr 1
       rw [List.getElem?_eq_getElem hlt] at hn
       exact Option.some.inj hn
      have HQ2:Hid (R=if 0<=n/\n<=2147483647 then tbF (acc++([32]++Lib.decDigits n.toNat)) (ns.drop (k+1)) else ([],60)):=hidOf (by rw [HQ.out,hdr];rfl)
      clear hn hdr HQ HND
      have OW:=hidOf (OD.out.trans HO.out)
      by_cases h0:0<=n
      ·
       have h0I:¬n<0:=by omega
       by_cases h1:n<=2147483647
       ·
        have h1I:¬(2147483647:Int)<n:=by omega
        have hdl:(Lib.decDigits n.toNat).length<=20:=Lx.dd_len 19 n.toNat (by omega)
        have CI:=hidOf (HC.out n wr OW.out h0 h1)
        have HQ3:Hid (R=tbF (acc++([32]++Lib.decDigits n.toNat)) (ns.drop (k+1))):=hidOf (by rw [HQ2.out,if_pos ⟨h0,h1⟩])
        generalize Lib.decDigits n.toNat=D at *
        have a4:∀ wx,(Op.stringOp .add ⟨acc.toArray⟩ ⟨#[32]⟩).run Tryz.prog wx=.ok (.string ⟨(acc++[32]).toArray⟩) wx:=fun wx=>add_l4 acc [32] _ rfl (by simp;omega) wx
        have a5:∀ wx,(Op.stringOp .add ⟨(acc++[32]).toArray⟩ ⟨D.toArray⟩).run Tryz.prog wx=.ok (.string ⟨(acc++([32]++D)).toArray⟩) wx:=fun wx=>by
         have:=add_l4 (acc++[32]) D _ rfl (by simp;omega) wx
         rw [List.append_assoc] at this
         exact this
        have hl2:(acc++([32]++D)).length<=1100+30*(k+1):=by simp only [List.length_append,List.length_cons,List.length_nil];omega
        clear HQ2 h0 h1
        generalize hA:acc++([32]++D)=A at *
        generalize hB:acc++[32]=B at *
        clear hA hB
        go_wp2_with (go_at_call 40;refine CI.out.mono ?_;rintro e w3 ⟨rfl,ho⟩;have O3:=hidOf ho;clear ho)
        go_roundw
        case rel=>exact ⟨k+1,A,rfl,by simp,by omega,hl2,HQ3,hidOf (HO.out.trans O3.out)⟩
        case measure=>simp [intOf];omega
       ·
        have h1I:(2147483647:Int)<n:=by omega
        have HE2:Hid (R=([],60)):=hidOf (by rw [HQ2.out,if_neg (fun h=>h1 h.2)])
        clear HQ2 h0 h1
        go_wp2
        go_ret2
        rw [HE2.out]
        exact ⟨rfl,OW.out⟩
      ·
       have h0I:n<0:=by omega
       have HE2:Hid (R=([],60)):=hidOf (by rw [HQ2.out,if_neg (fun h=>h0 h.1)])
       clear HQ2 h0
       go_wp2
       go_ret2
       rw [HE2.out]
       exact ⟨rfl,OW.out⟩
     ·
      have hkI:¬(k:Int)<3:=by omega
      have HE2:Hid (R=(acc,0)):=hidOf (by rw [HQ.out,List.drop_eq_nil_of_le (by have:=H3.out;omega)];rfl)
      go_wp2
      go_ret2
      rw [HE2.out]
      exact ⟨rfl,OD.out.trans HO.out⟩
   ·
    have HE:Hid (R=([],60)):=hidOf (by rw [HR.out];exact tb_ns (x:=⟨5,nm,ws,ns,o,d,s,f,i,tg,l⟩) h3)
    have h3I:((ns.length:Int) != 3)=true:=by simp;omega
    clear hk h3
    go_wp2_with (go_at_call 39;refine (CT.out _).mono ?_;rintro e w3 ⟨rfl,hw⟩;have hw:=hw.symm;subst hw)
    go_ret2
    rw [HE.out]
    exact ⟨rfl,OW.out⟩
 ·
  have HE:Hid (R=([],60)):=hidOf (by rw [HR.out];exact tb_ws (x:=⟨5,nm,ws,ns,o,d,s,f,i,tg,l⟩) h1)
  have h1I:((ws.length:Int) != 1)=true:=by simp;omega
  clear h1
  go_wp2
  go_ret2
  rw [HE.out]
  exact ⟨rfl,OW.out⟩
end Go.Proofs.YtadneimllbfdnaaGreatDoor
