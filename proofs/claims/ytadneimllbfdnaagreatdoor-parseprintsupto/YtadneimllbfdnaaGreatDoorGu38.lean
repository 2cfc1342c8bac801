import Derived.Test.YtadneimllbfdnaaGreatDoorGu37
namespace Go.Proofs.YtadneimllbfdnaaGreatDoor
open Go.RowKit
set_option linter.unusedVariables false
set_option linter.unusedSimpArgs false
set_option maxRecDepth 20000 in
set_option maxHeartbeats 4000000 in
theorem places4_any (w0 w:World) (pb:Nat) (o:Int) (h:Pk w0 w pb (Pf o (rwA++rwB++rwC)) o []):Calls Tryz.prog 127 #[.pointer (some ⟨pb,0,none⟩)] w fun e w'=>(∃ q,e=.returned q)/\Pk w0 w' pb (Pf o (rwA++rwB++rwC++rwD++rwE++rwF)) o []:=by
 have H:=hidOf h
 clear h
 obtain ⟨S0,hS0⟩:∃ S0,S0=rwA++rwB++rwC:=⟨_,rfl⟩
 have hSl:S0.length=44:=by rw [hS0];rfl
 rw [<-hS0] at H ⊢
 obtain ⟨FL,hFL⟩:∃ FL,FL=S0++rwD++rwE++rwF:=⟨_,rfl⟩
 rw [<-hFL]
 have HFL:=hidOf hFL
 clear hS0 hFL
 go_enter Tryz.func127,Tryz.ntmps127
 go_upto_region 1 with fail
 obtain ⟨q1,hq1⟩:∃ q1,q1=w.heap.size:=⟨_,rfl⟩
 obtain ⟨qw,hqw⟩:∃ qw,qw=w.alloc (.cells mWdC 163):=⟨_,rfl⟩
 have bq1:qw.heap[q1]? = some (.cells mWdC 163 (0,0)):=by rw [hqw,hq1];exact heap_alloc_new w _
 have oq:Out w qw:=by rw [hqw];exact (Out.refl w).alloc _
 change Code.wp _ _ _ _ (w.alloc (.cells mWdC 163))
 rw [<-hqw, <-hq1]
 have Bq1:=hidOf bq1
 have H0:Hid (Pk w0 qw pb (Pf o (S0++rwD.take (3*0))) o []):=hidOf (by have:=H.out.on oq;simpa using this)
 clear H oq bq1 hqw hq1
 go_wp2
 go_loopw [3] (fun iv wr=>∃ i:Nat,iv=.int .i64 i/\i<=4/\Hid (Pk w0 wr pb (Pf o (S0++rwD.take (3*i))) o [])/\Hid (wr.heap[q1]? = some (.cells mWdC 163 (0,0)))) (fun iv _=>4 - (intOf iv).toNat)
 case atStart=>exact ⟨0,rfl,by omega,H0,Bq1⟩
 case round=>
  clear H0 Bq1
  obtain ⟨i,rfl,hi,HP_0,B1_0⟩:=hrel
  by_cases hin:i<4
  ·
   have hiI:(i:Int)<4:=by omega
   have hi0:(0:Int)<=i:=by omega
   have c1_0:wr.cell? ⟨q1,i,none⟩=some (.string ⟨(mWd i).toArray⟩):=by rw [cell_atL B1_0.out];exact mWd_at i hin
   obtain ⟨hl1,hl2⟩:=mWd_len i hin
   have HS:=hidOf (sM i hin)
   obtain ⟨A,hA⟩:∃ A,A=mWd i:=⟨_,rfl⟩
   rw [<-hA] at HS c1_0 hl1 hl2
   clear hA
   obtain ⟨L0,hL0⟩:∃ L0,L0=S0++rwD.take (3*i):=⟨_,rfl⟩
   have hLl:L0.length<=100:=by
    have:(rwD.take (3*i)).length<=12:=Nat.le_trans (List.length_take_le' _ _) (by decide)
    rw [hL0,List.length_append,hSl];omega
   rw [<-hL0] at HP_0
   have HL0:=hidOf hL0
   clear hL0
   have C1:Hid (∀ wx,Pk w0 wx pb (Pf o (L0)) o []->Calls Tryz.prog 160 #[.pointer (some ⟨pb,0,none⟩),.string ⟨#[108,100,120]⟩,.string ⟨A.toArray⟩,.int .i64 4,.int .i64 (97+8*(i:Int)),.int .i64 0,.int .i64 0] wx fun e w'=>(∃ q,e=.returned q)/\Pk w0 w' pb (Pf o ((L0)++[⟨[108,100,120]++A,4,(97+8*(i:Int)),0,0⟩])) o []/\FrK wx w'):=hidOf (fun wx hx=>add4_any w0 wx pb _ o hx (by omega) ([108,100,120]) (A) (by first | omega | (simp;done) | (simp;omega)) (by first | omega | (simp;done) | (simp;omega)) (by first | omega | (simp;done) | (simp;omega)) 4 ((97+8*(i:Int))) 0 (0) (by omega) (by omega) ([108,100,120]++A) (by first | rfl | simp))
   have C2:Hid (∀ wx,Pk w0 wx pb (Pf o (L0++[⟨[108,100,120]++A,4,97+8*(i:Int),0,0⟩])) o []->Calls Tryz.prog 160 #[.pointer (some ⟨pb,0,none⟩),.string ⟨#[115,116]⟩,.string ⟨A.toArray⟩,.int .i64 5,.int .i64 (98+8*(i:Int)),.int .i64 0,.int .i64 0] wx fun e w'=>(∃ q,e=.returned q)/\Pk w0 w' pb (Pf o ((L0++[⟨[108,100,120]++A,4,97+8*(i:Int),0,0⟩])++[⟨[115,116]++A,5,(98+8*(i:Int)),0,0⟩])) o []/\FrK wx w'):=hidOf (fun wx hx=>add4_any w0 wx pb _ o hx (by simp;omega) ([115,116]) (A) (by first | omega | (simp;done) | (simp;omega)) (by first | omega | (simp;done) | (simp;omega)) (by first | omega | (simp;done) | (simp;omega)) 5 ((98+8*(i:Int))) 0 (0) (by omega) (by omega) ([115,116]++A) (by first | rfl | simp))
   have C3:Hid (∀ wx,Pk w0 wx pb (Pf o (L0++[⟨[108,100,120]++A,4,97+8*(i:Int),0,0⟩]++[⟨[115,116]++A,5,98+8*(i:Int),0,0⟩])) o []->Calls Tryz.prog 160 #[.pointer (some ⟨pb,0,none⟩),.string ⟨#[115,116,120]⟩,.string ⟨A.toArray⟩,.int .i64 6,.int .i64 (99+8*(i:Int)),.int .i64 0,.int .i64 0] wx fun e w'=>(∃ q,e=.returned q)/\Pk w0 w' pb (Pf o ((L0++[⟨[108,100,120]++A,4,97+8*(i:Int),0,0⟩]++[⟨[115,116]++A,5,98+8*(i:Int),0,0⟩])++[⟨[115,116,120]++A,6,(99+8*(i:Int)),0,0⟩])) o []/\FrK wx w'):=hidOf (fun wx hx=>add4_any w0 wx pb _ o hx (by simp;omega) ([115,116,120]) (A) (by first | omega | (simp;done) | (simp;omega)) (by first | omega | (simp;done) | (simp;omega)) (by first | omega | (simp;done) | (simp;omega)) 6 ((99+8*(i:Int))) 0 (0) (by omega) (by omega) ([115,116,120]++A) (by first | rfl | simp))
   clear hl1 hl2 hLl
   go_upto_region 4 with fail
   go_upto_region 5 with (go_at_call 160;refine (C1.out _ HP_0.out).mono ?_;rintro e u1 ⟨⟨y2,rfl⟩,hp,hf⟩;have HP_1:=hidOf hp;have F_1:=hidOf hf;have c1_1:u1.cell? ⟨q1,i,none⟩=some (.string ⟨A.toArray⟩):=(by rw [cell_atL (F_1.out _ _ _ _ B1_0.out (by decide) (by decide)), <-cell_atL B1_0.out];exact c1_0);clear hp hf)
   have B1_1:=hidOf (F_1.out _ _ _ _ B1_0.out (by decide) (by decide))
   clear c1_0 HP_0 F_1 B1_0
   go_upto_region 6 with (go_at_call 160;refine (C2.out _ HP_1.out).mono ?_;rintro e u2 ⟨⟨y2,rfl⟩,hp,hf⟩;have HP_2:=hidOf hp;have F_2:=hidOf hf;have c1_2:u2.cell? ⟨q1,i,none⟩=some (.string ⟨A.toArray⟩):=(by rw [cell_atL (F_2.out _ _ _ _ B1_1.out (by decide) (by decide)), <-cell_atL B1_1.out];exact c1_1);clear hp hf)
   have B1_2:=hidOf (F_2.out _ _ _ _ B1_1.out (by decide) (by decide))
   clear c1_1 HP_1 F_2 B1_1
   go_wp2_with (go_at_call 160;refine (C3.out _ HP_2.out).mono ?_;rintro e u3 ⟨⟨y2,rfl⟩,hp,hf⟩;have HP_3:=hidOf hp;have F_3:=hidOf hf;clear hp hf)
   have HQ:Hid (Pk w0 u3 pb (Pf o (S0++rwD.take (3*(i+1)))) o []):=hidOf (by
    have h:=HP_3.out
    rw [HL0.out] at h
    rw [HS.out]
    simpa using h)
   have B1_3:=hidOf (F_3.out _ _ _ _ B1_2.out (by decide) (by decide))
   clear HP_3 HS HL0 c1_2 B1_2
   go_roundw
   case rel=>exact ⟨i+1,by simp,by omega,HQ,B1_3⟩
   case measure=>simp [intOf];omega
  ·
   have hiI:¬(i:Int)<4:=by omega
   obtain rfl:i=4:=by omega
   have HP0:Hid (Pk w0 wr pb (Pf o (S0++rwD)) o []):=hidOf HP_0.out
   have hl0:(S0++rwD).length=56:=by rw [List.length_append,hSl];rfl
   clear HP_0 B1_0
   go_upto_region 7 with fail
   have C0:=hidOf (add4_any w0 _ pb _ o HP0.out (by omega) [108,100,120,115,119] [] (by decide) (by decide) (by decide) 4 129 0 0 (by omega) (by omega) [108,100,120,115,119] rfl)
   go_upto_region 8 with (go_at_call 160;refine C0.out.mono ?_;rintro e x0 ⟨⟨y0,rfl⟩,hp,hf⟩;have HP1:=hidOf hp;clear hp hf)
   have hl1:(S0++rwD++[(⟨[108,100,120,115,119],4,129,0,0⟩:Rw)]).length=57:=by rw [List.length_append,hl0];rfl
   clear C0 HP0 hl0
   have C1:=hidOf (add4_any w0 _ pb _ o HP1.out (by omega) [108,100,120,115,104] [] (by decide) (by decide) (by decide) 4 137 0 0 (by omega) (by omega) [108,100,120,115,104] rfl)
   go_upto_region 9 with (go_at_call 160;refine C1.out.mono ?_;rintro e x1 ⟨⟨y1,rfl⟩,hp,hf⟩;have HP2:=hidOf hp;clear hp hf)
   have hl2:(S0++rwD++[(⟨[108,100,120,115,119],4,129,0,0⟩:Rw)]++[(⟨[108,100,120,115,104],4,137,0,0⟩:Rw)]).length=58:=by rw [List.length_append,hl1];rfl
   clear C1 HP1 hl1
   have C2:=hidOf (add4_any w0 _ pb _ o HP2.out (by omega) [108,100,120,115,98] [] (by decide) (by decide) (by decide) 4 145 0 0 (by omega) (by omega) [108,100,120,115,98] rfl)
   go_upto_region 10 with (go_at_call 160;refine C2.out.mono ?_;rintro e x2 ⟨⟨y2,rfl⟩,hp,hf⟩;have HP3:=hidOf hp;clear hp hf)
   have hl3:(S0++rwD++[(⟨[108,100,120,115,119],4,129,0,0⟩:Rw)]++[(⟨[108,100,120,115,104],4,137,0,0⟩:Rw)]++[(⟨[108,100,120,115,98],4,145,0,0⟩:Rw)]).length=59:=by rw [List.length_append,hl2];rfl
   clear C2 HP2 hl2
   go_upto_region 12 with fail
   obtain ⟨r1,hr1⟩:∃ r1,r1=x2.heap.size:=⟨_,rfl⟩
   obtain ⟨r2,hr2⟩:∃ r2,r2=x2.heap.size+1:=⟨_,rfl⟩
   obtain ⟨rw,hrw⟩:∃ rw,rw=(x2.alloc (.cells aWC 199)).alloc (.cells aIC 200):=⟨_,rfl⟩
   have hsr:(x2.alloc (.cells aWC 199)).heap.size=x2.heap.size+1:=size_alloc _ _
   have br1:rw.heap[r1]? = some (.cells aWC 199 (0,0)):=by
    rw [hrw,hr1]
    exact blk_out ((Out.refl _).alloc _) (heap_alloc_new x2 _)
   have br2:rw.heap[r2]? = some (.cells aIC 200 (0,0)):=by
    rw [hrw,hr2, <-hsr]
    exact heap_alloc_new (x2.alloc (.cells aWC 199)) _
   have or:Out x2 rw:=by rw [hrw];exact ((Out.refl x2).alloc _).alloc _
   change Code.wp _ _ _ _ ((x2.alloc (.cells aWC 199)).alloc (.cells aIC 200))
   rw [<-hrw, <-hr2, <-hr1]
   have Br1:=hidOf br1
   have Br2:=hidOf br2
   have Or:=hidOf or
   clear hrw hr1 hr2 hsr br1 br2 or
   have H8:Hid (Pk w0 rw pb (Pf o (S0++rwD++rwE++rwF.take (2*0))) o []):=hidOf (by have:=HP3.out.on Or.out;simpa [rwE] using this)
   clear HP3 Or hl3
   go_wp2
   go_loopw [6] (fun iv wr=>∃ i:Nat,iv=.int .i64 i/\i<=10/\Hid (Pk w0 wr pb (Pf o (S0++rwD++rwE++rwF.take (2*i))) o [])/\Hid (wr.heap[r1]? = some (.cells aWC 199 (0,0)))/\Hid (wr.heap[r2]? = some (.cells aIC 200 (0,0)))) (fun iv _=>10 - (intOf iv).toNat)
   case atStart=>exact ⟨0,rfl,by omega,H8,Br1,Br2⟩
   case round=>
    clear H8 Br1 Br2
    obtain ⟨i,rfl,hi,HP_0,B1_0,B2_0⟩:=hrel
    by_cases hin:i<10
    ·
     have hiI:(i:Int)<10:=by omega
     have hi0:(0:Int)<=i:=by omega
     have c1_0:wr.cell? ⟨r1,i,none⟩=some (.string ⟨(aW i).toArray⟩):=by rw [cell_atL B1_0.out];exact aW_at i hin
     have c2_0:wr.cell? ⟨r2,i,none⟩=some (.int .i64 (aI i)):=by rw [cell_atL B2_0.out];exact aI_at i hin
     obtain ⟨hl1,hl2⟩:=aW_len i hin
     have HS:=hidOf (sF i hin)
     obtain ⟨A,hA⟩:∃ A,A=aW i:=⟨_,rfl⟩
     obtain ⟨cd,hcd⟩:∃ cd,cd=aI i:=⟨_,rfl⟩
     rw [<-hA, <-hcd] at HS
     rw [<-hA] at c1_0 hl1 hl2
     rw [<-hcd] at c2_0
     clear hA hcd
     obtain ⟨L0,hL0⟩:∃ L0,L0=S0++rwD++rwE++rwF.take (2*i):=⟨_,rfl⟩
     have hLl:L0.length<=100:=by
      have:(rwF.take (2*i)).length<=20:=Nat.le_trans (List.length_take_le' _ _) (by decide)
      rw [hL0,List.length_append,List.length_append,List.length_append,hSl,show rwD.length=12 from rfl,show rwE.length=3 from rfl];omega
     rw [<-hL0] at HP_0
     have HL0:=hidOf hL0
     clear hL0
     have C1:Hid (∀ wx,Pk w0 wx pb (Pf o (L0)) o []->Calls Tryz.prog 160 #[.pointer (some ⟨pb,0,none⟩),.string ⟨A.toArray⟩,.string ⟨#[]⟩,.int .i64 6,.int .i64 219,.int .i64 0,.int .i64 cd] wx fun e w'=>(∃ q,e=.returned q)/\Pk w0 w' pb (Pf o ((L0)++[⟨A,6,219,0,cd⟩])) o []/\FrK wx w'):=hidOf (fun wx hx=>add4_any w0 wx pb _ o hx (by omega) (A) ([]) (by first | omega | (simp;done) | (simp;omega)) (by first | omega | (simp;done) | (simp;omega)) (by first | omega | (simp;done) | (simp;omega)) 6 (219) 0 (cd) (by omega) (by omega) (A) (by first | rfl | simp))
     have C2:Hid (∀ wx,Pk w0 wx pb (Pf o (L0++[⟨A,6,219,0,cd⟩])) o []->Calls Tryz.prog 160 #[.pointer (some ⟨pb,0,none⟩),.string ⟨A.toArray⟩,.string ⟨#[51,50]⟩,.int .i64 6,.int .i64 195,.int .i64 0,.int .i64 cd] wx fun e w'=>(∃ q,e=.returned q)/\Pk w0 w' pb (Pf o ((L0++[⟨A,6,219,0,cd⟩])++[⟨A++[51,50],6,195,0,cd⟩])) o []/\FrK wx w'):=hidOf (fun wx hx=>add4_any w0 wx pb _ o hx (by simp;omega) (A) ([51,50]) (by first | omega | (simp;done) | (simp;omega)) (by first | omega | (simp;done) | (simp;omega)) (by first | omega | (simp;done) | (simp;omega)) 6 (195) 0 (cd) (by omega) (by omega) (A++[51,50]) (by first | rfl | simp))
     clear hl1 hl2 hLl
     go_upto_region 15 with fail
     go_region_held3 (fun w'=>w'.cell? ⟨r1,i,none⟩=some (.string ⟨A.toArray⟩)/\w'.cell? ⟨r2,i,none⟩=some (.int .i64 cd)) (first | exact ⟨c1_0,c2_0⟩ | exact ⟨c1_1,c2_1⟩ | go_keep) (first | (go_at_call 160;refine (C1.out _ (HP_0.out.on ((Out.refl wr).dN _))).mono ?_;rintro e u1 ⟨⟨y2,rfl⟩,hp,hf⟩;have HP_1:=hidOf hp;have F_1:=hidOf ((FrK.out ((Out.refl wr).dN _)).trans hf);have c1_1:u1.cell? ⟨r1,i,none⟩=some (.string ⟨A.toArray⟩):=(by rw [cell_atL (F_1.out _ _ _ _ B1_0.out (by decide) (by decide)), <-cell_atL B1_0.out];exact c1_0);have c2_1:u1.cell? ⟨r2,i,none⟩=some (.int .i64 cd):=(by rw [cell_atL (F_1.out _ _ _ _ B2_0.out (by decide) (by decide)), <-cell_atL B2_0.out];exact c2_0);clear hp hf))
     have B1_1:=hidOf (F_1.out _ _ _ _ B1_0.out (by decide) (by decide))
     have B2_1:=hidOf (F_1.out _ _ _ _ B2_0.out (by decide) (by decide))
     clear c1_0 c2_0 HP_0 F_1 B1_0 B2_0
     go_upto_region 16 with fail
     go_region_held3 (fun w'=>w'.cell? ⟨r1,i,none⟩=some (.string ⟨A.toArray⟩)/\w'.cell? ⟨r2,i,none⟩=some (.int .i64 cd)) (first | exact ⟨c1_1,c2_1⟩ | exact ⟨c1_2,c2_2⟩ | go_keep) (first | (go_at_call 160;refine (C2.out _ (HP_1.out.on ((Out.refl u1).dN _))).mono ?_;rintro e u2 ⟨⟨y2,rfl⟩,hp,hf⟩;have HP_2:=hidOf hp;have F_2:=hidOf ((FrK.out ((Out.refl u1).dN _)).trans hf);have c1_2:u2.cell? ⟨r1,i,none⟩=some (.string ⟨A.toArray⟩):=(by rw [cell_atL (F_2.out _ _ _ _ B1_1.out (by decide) (by decide)), <-cell_atL B1_1.out];exact c1_1);have c2_2:u2.cell? ⟨r2,i,none⟩=some (.int .i64 cd):=(by rw [cell_atL (F_2.out _ _ _ _ B2_1.out (by decide) (by decide)), <-cell_atL B2_1.out];exact c2_1);clear hp hf))
     have B1_2:=hidOf (F_2.out _ _ _ _ B1_1.out (by decide) (by decide))
     have B2_2:=hidOf (F_2.out _ _ _ _ B2_1.out (by decide) (by decide))
     clear c1_1 c2_1 HP_1 F_2 B1_1 B2_1
     have HQ:Hid (Pk w0 u2 pb (Pf o (S0++rwD++rwE++rwF.take (2*(i+1)))) o []):=hidOf (by
      have h:=HP_2.out
      rw [HL0.out] at h
      rw [HS.out]
      simpa using h)
     clear HP_2 HS HL0 c1_2 c2_2
     go_wp2
     go_roundw
     case rel=>exact ⟨i+1,by simp,by omega,HQ,B1_2,B2_2⟩
     case measure=>simp [intOf];omega
    ·
     have hiI:¬(i:Int)<10:=by omega
     obtain rfl:i=10:=by omega
     go_wp2
     go_end0
     exact ⟨⟨_,rfl⟩,by rw [HFL.out];exact HP_0.out⟩
set_option maxRecDepth 20000 in
set_option maxHeartbeats 4000000 in
theorem jumps4_any (w0 w:World) (pb:Nat) (o:Int) (h:Pk w0 w pb (Pf o (rwA++rwB++rwC++rwD++rwE++rwF)) o []):Calls Tryz.prog 128 #[.pointer (some ⟨pb,0,none⟩)] w fun e w'=>(∃ q,e=.returned q)/\Pk w0 w' pb (Pf o rowsAll) o []:=by
 have H:=hidOf h
 clear h
 obtain ⟨S0,hS0⟩:∃ S0,S0=rwA++rwB++rwC++rwD++rwE++rwF:=⟨_,rfl⟩
 have hSl:S0.length=79:=by rw [hS0];rfl
 have HFL:Hid (rowsAll=S0++rwG++rwH):=hidOf (by rw [hS0];rfl)
 rw [<-hS0] at H
 clear hS0
 obtain ⟨FL,hFL⟩:∃ FL,FL=rowsAll:=⟨_,rfl⟩
 rw [<-hFL] at HFL ⊢
 clear hFL
 go_enter Tryz.func128,Tryz.ntmps128
 go_upto_region 2 with fail
 obtain ⟨q1,hq1⟩:∃ q1,q1=w.heap.size:=⟨_,rfl⟩
 obtain ⟨q2,hq2⟩:∃ q2,q2=w.heap.size+1:=⟨_,rfl⟩
 obtain ⟨qw,hqw⟩:∃ qw,qw=(w.alloc (.cells jWC 133)).alloc (.cells jCC 201):=⟨_,rfl⟩
 have hsq:(w.alloc (.cells jWC 133)).heap.size=w.heap.size+1:=size_alloc _ _
 have bq1:qw.heap[q1]? = some (.cells jWC 133 (0,0)):=by
  rw [hqw,hq1]
  exact blk_out ((Out.refl _).alloc _) (heap_alloc_new w _)
 have bq2:qw.heap[q2]? = some (.cells jCC 201 (0,0)):=by
  rw [hqw,hq2, <-hsq]
  exact heap_alloc_new (w.alloc (.cells jWC 133)) _
 have oq:Out w qw:=by rw [hqw];exact ((Out.refl w).alloc _).alloc _
 change Code.wp _ _ _ _ ((w.alloc (.cells jWC 133)).alloc (.cells jCC 201))
 rw [<-hqw, <-hq2, <-hq1]
 have Bq1:=hidOf bq1
 have Bq2:=hidOf bq2
 have Oq:=hidOf oq
 clear hqw hq1 hq2 hsq bq1 bq2 oq
 have H0:Hid (Pk w0 qw pb (Pf o (S0++rwG.take (2*0))) o []):=hidOf (by have:=H.out.on Oq.out;simpa using this)
 clear H Oq
 go_wp2
 go_loopw [4] (fun iv wr=>∃ i:Nat,iv=.int .i64 i/\i<=11/\Hid (Pk w0 wr pb (Pf o (S0++rwG.take (2*i))) o [])/\Hid (wr.heap[q1]? = some (.cells jWC 133 (0,0)))/\Hid (wr.heap[q2]? = some (.cells jCC 201 (0,0)))) (fun iv _=>11 - (intOf iv).toNat)
 case atStart=>exact ⟨0,rfl,by omega,H0,Bq1,Bq2⟩
 case round=>
  clear H0 Bq1 Bq2
  obtain ⟨i,rfl,hi,HP,B1,B2⟩:=hrel
  by_cases hin:i<11
  ·
   have hiI:(i:Int)<11:=by omega
   have hi0:(0:Int)<=i:=by omega
   have c1:wr.cell? ⟨q1,i,none⟩=some (.string ⟨(jW i).toArray⟩):=by rw [cell_atL B1.out];exact jW_at i hin
   have c2:wr.cell? ⟨q2,i,none⟩=some (.int .i64 (jC i)):=by rw [cell_atL B2.out];exact jC_at i hin
   have hl1:=jW_len i hin
   have hb2:=jC_bd i hin
   obtain ⟨A,hA⟩:∃ A,A=jW i:=⟨_,rfl⟩
   obtain ⟨cd,hcd⟩:∃ cd,cd=jC i:=⟨_,rfl⟩
   have HS:=hidOf (sG i hin)
   rw [<-hA, <-hcd] at HS
   rw [<-hA] at c1 hl1
   rw [<-hcd] at c2 hb2
   obtain ⟨L0,hL0⟩:∃ L0,L0=S0++rwG.take (2*i):=⟨_,rfl⟩
   have hLl:L0.length<=110:=by
    have:(rwG.take (2*i)).length<=22:=Nat.le_trans (List.length_take_le' _ _) (by decide)
    rw [hL0,List.length_append,hSl];omega
   rw [<-hL0] at HP
   have HL0:=hidOf hL0
   clear hL0
   have CB:Hid (∀ wx,Pk w0 wx pb (Pf o L0) o []->Calls Tryz.prog 159 #[.pointer (some ⟨pb,0,none⟩),.string ⟨A.toArray⟩,.int .i64 8,.int .i64 cd,.int .i64 0] wx fun e w'=>(∃ q,e=.returned q)/\Pk w0 w' pb (Pf o (L0++bothL A 8 cd 0)) o []/\FrK wx w'):=hidOf (fun wx hx=>both4_any w0 wx pb _ o hx (by omega) A hl1.1 hl1.2 8 cd 0 hb2.1 hb2.2)
   clear hA hcd hl1 hb2 hLl
   go_upto_region 5 with fail
   go_region_held3 (fun w'=>w'.cell? ⟨q1,i,none⟩=some (.string ⟨A.toArray⟩)/\w'.cell? ⟨q2,i,none⟩=some (.int .i64 cd)) (first | exact ⟨c1,c2⟩ | exact ⟨e1,e2⟩ | go_keep) (first | (go_at_call 159;refine (CB.out _ (HP.out.on ((Out.refl wr).dN _))).mono ?_;rintro e w2 ⟨⟨y2,rfl⟩,hp,hf⟩;have P2:=hidOf hp;have F2:=hidOf ((FrK.out ((Out.refl wr).dN _)).trans hf);have e1:w2.cell? ⟨q1,i,none⟩=some (.string ⟨A.toArray⟩):=(by rw [cell_atL (F2.out _ _ _ _ B1.out (by decide) (by decide)), <-cell_atL B1.out];exact c1);have e2:w2.cell? ⟨q2,i,none⟩=some (.int .i64 cd):=(by rw [cell_atL (F2.out _ _ _ _ B2.out (by decide) (by decide)), <-cell_atL B2.out];exact c2);clear hp hf))
   have HQ:Hid (Pk w0 w2 pb (Pf o (S0++rwG.take (2*(i+1)))) o []):=hidOf (by
    have h:=P2.out
    rw [HL0.out] at h
    rw [HS.out]
    simpa using h)
   clear P2 HS HL0
   go_wp2
   go_roundw
   case rel=>exact ⟨i+1,by simp,by omega,HQ,hidOf (F2.out _ _ _ _ B1.out (by decide) (by decide)),hidOf (F2.out _ _ _ _ B2.out (by decide) (by decide))⟩
   case measure=>simp [intOf];omega
  ·
   have hiI:¬(i:Int)<11:=by omega
   obtain rfl:i=11:=by omega
   have HP0:Hid (Pk w0 wr pb (Pf o (S0++rwG)) o []):=hidOf HP.out
   have hl0:(S0++rwG).length=101:=by rw [List.length_append,hSl];rfl
   clear HP B1 B2
   go_upto_region 6 with fail
   have C0:=hidOf (add4_any w0 _ pb _ o HP0.out (by omega) [106,97] [] (by decide) (by decide) (by decide) 7 5 0 0 (by omega) (by omega) [106,97] rfl)
   go_upto_region 7 with (go_at_call 160;refine C0.out.mono ?_;rintro e x0 ⟨⟨y0,rfl⟩,hp,hf⟩;have HP1:=hidOf hp;clear hp hf)
   have hl1:(S0++rwG++[(⟨[106,97],7,5,0,0⟩:Rw)]).length=102:=by rw [List.length_append,hl0];rfl
   clear C0 HP0 hl0
   have C1:=hidOf (add4_any w0 _ pb _ o HP1.out (by omega) [106,97,51,50] [] (by decide) (by decide) (by decide) 7 6 0 0 (by omega) (by omega) [106,97,51,50] rfl)
   go_upto_region 8 with (go_at_call 160;refine C1.out.mono ?_;rintro e x1 ⟨⟨y1,rfl⟩,hp,hf⟩;have HP2:=hidOf hp;clear hp hf)
   have hl2:(S0++rwG++[(⟨[106,97],7,5,0,0⟩:Rw)]++[(⟨[106,97,51,50],7,6,0,0⟩:Rw)]).length=103:=by rw [List.length_append,hl1];rfl
   clear C1 HP1 hl1
   have C2:=hidOf (add4_any w0 _ pb _ o HP2.out (by omega) [99,97,108,108] [] (by decide) (by decide) (by decide) 9 133 0 0 (by omega) (by omega) [99,97,108,108] rfl)
   go_upto_region 9 with (go_at_call 160;refine C2.out.mono ?_;rintro e x2 ⟨⟨y2,rfl⟩,hp,hf⟩;have HP3:=hidOf hp;clear hp hf)
   have hl3:(S0++rwG++[(⟨[106,97],7,5,0,0⟩:Rw)]++[(⟨[106,97,51,50],7,6,0,0⟩:Rw)]++[(⟨[99,97,108,108],9,133,0,0⟩:Rw)]).length=104:=by rw [List.length_append,hl2];rfl
   clear C2 HP2 hl2
   have C3:=hidOf (add4_any w0 _ pb _ o HP3.out (by omega) [101,120,105,116] [] (by decide) (by decide) (by decide) 10 149 0 0 (by omega) (by omega) [101,120,105,116] rfl)
   go_upto_region 10 with (go_at_call 160;refine C3.out.mono ?_;rintro e x3 ⟨⟨y3,rfl⟩,hp,hf⟩;have HP4:=hidOf hp;clear hp hf)
   have hl4:(S0++rwG++[(⟨[106,97],7,5,0,0⟩:Rw)]++[(⟨[106,97,51,50],7,6,0,0⟩:Rw)]++[(⟨[99,97,108,108],9,133,0,0⟩:Rw)]++[(⟨[101,120,105,116],10,149,0,0⟩:Rw)]).length=105:=by rw [List.length_append,hl3];rfl
   clear C3 HP3 hl3
   have C4:=hidOf (add4_any w0 _ pb _ o HP4.out (by omega) [108,100,100,119] [] (by decide) (by decide) (by decide) 11 24 0 0 (by omega) (by omega) [108,100,100,119] rfl)
   go_upto_region 11 with (go_at_call 160;refine C4.out.mono ?_;rintro e x4 ⟨⟨y4,rfl⟩,hp,hf⟩;have HP5:=hidOf hp;clear hp hf)
   have hl5:(S0++rwG++[(⟨[106,97],7,5,0,0⟩:Rw)]++[(⟨[106,97,51,50],7,6,0,0⟩:Rw)]++[(⟨[99,97,108,108],9,133,0,0⟩:Rw)]++[(⟨[101,120,105,116],10,149,0,0⟩:Rw)]++[(⟨[108,100,100,119],11,24,0,0⟩:Rw)]).length=106:=by rw [List.length_append,hl4];rfl
   clear C4 HP4 hl4
   have C5:=hidOf (add4_any w0 _ pb _ o HP5.out (by omega) [108,100,109,97,112] [] (by decide) (by decide) (by decide) 12 24 0 0 (by omega) (by omega) [108,100,109,97,112] rfl)
   go_wp2_with (go_at_call 160;refine C5.out.mono ?_;rintro e x5 ⟨⟨y5,rfl⟩,hp,hf⟩;have HP6:=hidOf hp;clear hp hf)
   go_end0
   refine ⟨⟨_,rfl⟩, ?_⟩
   have h:=HP6.out
   rw [HFL.out]
   simpa [rwH] using h
theorem Pk.new (w0:World) (o:Int) (W0:List UInt8):Pk w0 (w0.alloc (.cells #[.slice none 0 0,.bool false,.int .i64 o,.string ⟨W0.toArray⟩] 144)) w0.heap.size [] o W0:=⟨⟨none,0,heap_alloc_new w0 _,World.ownsRow_nil _ _ _ _⟩,Nat.le_refl _,(Out.refl w0).alloc _⟩
set_option maxRecDepth 8000 in
theorem picked4_any (w:World) (o:Int):Calls Tryz.prog 90 #[.agg #[.slice none 0 0,.bool false,.int .i64 o,.string ⟨#[]⟩]] w fun e w'=>∃ a c,e=.returned (.slice a (pickO o).length c)/\w'.ownsRow w.heap.size 111 5 (.slice a (pickO o).length c) (pickO o).length (rowsC (pickO o))/\Out w w':=by
 have H0:=hidOf (Pk.new w o [])
 go_enter Tryz.func90,Tryz.ntmps90
 go_upto_region 1 with fail
 obtain ⟨p,hp⟩:∃ p,p=w.heap.size:=⟨_,rfl⟩
 obtain ⟨w1,hw1⟩:∃ w1,w1=w.alloc (.cells #[.slice none 0 0,.bool false,.int .i64 o,.string ⟨#[]⟩] 144):=⟨_,rfl⟩
 have H1:Hid (Pk w w1 p (Pf o []) o []):=hidOf (by rw [hw1,hp];exact H0.out)
 rw [<-hw1, <-hp]
 clear hw1 hp H0
 have C1:=hidOf (sums4_any w w1 p o H1.out)
 go_upto_region 2 with (go_at_call 126;refine C1.out.mono ?_;rintro e w2 ⟨⟨y2,rfl⟩,hq⟩;have H2:=hidOf hq;clear hq)
 have C2:=hidOf (places4_any w w2 p o H2.out)
 go_upto_region 3 with (go_at_call 127;refine C2.out.mono ?_;rintro e w3 ⟨⟨y3,rfl⟩,hq⟩;have H3:=hidOf hq;clear hq)
 have C3:=hidOf (jumps4_any w w3 p o H3.out)
 go_upto_region 4 with (go_at_call 128;refine C3.out.mono ?_;rintro e w4 ⟨⟨y4,rfl⟩,hq⟩;have H4:=hidOf hq;clear hq)
 obtain ⟨a,c,st,own⟩:=H4.out.st
 have c0:w4.cell? ⟨p,0,none⟩=some (.slice a (Pf o rowsAll).length c):=by rw [cell_atL st];rfl
 have HO:=hidOf own
 clear st own C1 C2 C3
 go_wp2
 go_ret
 exact ⟨a,c,rfl,HO.out,H4.out.out⟩
end Go.Proofs.YtadneimllbfdnaaGreatDoor
