import Derived.Test.YtadneimllbfdnaaGreatDoorGu36
namespace Go.Proofs.YtadneimllbfdnaaGreatDoor
open Go.RowKit
set_option linter.unusedVariables false
set_option linter.unusedSimpArgs false
def Pf (o:Int) (L:List Rw):List Rw:=L.filter (fun r=>opR r o)
theorem Pf_len (o:Int) (L:List Rw):(Pf o L).length<=L.length:=List.length_filter_le _ _
theorem Pf_snoc (o:Int) (L:List Rw) (r:Rw):Pf o (L++[r])=Pf o L++(if opR r o then [r] else []):=by
 unfold Pf
 rw [List.filter_append]
 cases h:opR r o <;> simp [h]
theorem add4_any (w0 w:World) (pb:Nat) (L:List Rw) (o:Int) (h:Pk w0 w pb (Pf o L) o []) (hL:L.length<=900) (A B:List UInt8) (hA:0<A.length) (hA2:A.length<=100) (hB2:B.length<=100) (sh op off imm:Int) (op0:0<=op) (op1:op<=1000) (Z:List UInt8) (hZ:Z=A++B) :
  Calls Tryz.prog 160 #[.pointer (some ⟨pb,0,none⟩),.string ⟨A.toArray⟩,.string ⟨B.toArray⟩,.int .i64 sh,.int .i64 op,.int .i64 off,.int .i64 imm] w fun e w'=>(∃ q,e=.returned q)/\Pk w0 w' pb (Pf o (L++[⟨Z,sh,op,off,imm⟩])) o []/\FrK w w':=by
 have hl:=Pf_len o L
 rw [Pf_snoc]
 cases hw:opR ⟨Z,sh,op,off,imm⟩ o
 ·
  have:=add4_no w0 w pb (Pf o L) o h (by omega) A B hA hA2 hB2 sh op off imm op0 op1 hw
  simpa using this
 · exact add4_yes w0 w pb (Pf o L) o h (by omega) A B hA hA2 hB2 sh op off imm op0 op1 Z hZ hw
def bothL (A:List UInt8) (sh code off:Int):List Rw:=if sh=8 then [⟨A,sh,5+code,off,0⟩,⟨A++[51,50],sh,6+code,off,0⟩] else [⟨A,sh,7+code,off,0⟩,⟨A++[51,50],sh,4+code,off,0⟩]
set_option maxRecDepth 8000 in
set_option maxHeartbeats 1000000 in
theorem both4_any (w0 w:World) (pb:Nat) (L:List Rw) (o:Int) (h:Pk w0 w pb (Pf o L) o []) (hL:L.length<=800) (A:List UInt8) (hA:0<A.length) (hA2:A.length<=100) (sh code off:Int) (c0:0<=code) (c1:code<=900) :
  Calls Tryz.prog 159 #[.pointer (some ⟨pb,0,none⟩),.string ⟨A.toArray⟩,.int .i64 sh,.int .i64 code,.int .i64 off] w fun e w'=>(∃ q,e=.returned q)/\Pk w0 w' pb (Pf o (L++bothL A sh code off)) o []/\FrK w w':=by
 by_cases h8:sh=8
 ·
  subst h8
  have C1:=hidOf (add4_any w0 w pb L o h (by omega) A [] hA hA2 (by simp) 8 (5+code) off 0 (by omega) (by omega) A (by simp))
  have C2:Hid (∀ wx,Pk w0 wx pb (Pf o (L++[⟨A,8,5+code,off,0⟩])) o []->Calls Tryz.prog 160 #[.pointer (some ⟨pb,0,none⟩),.string ⟨A.toArray⟩,.string ⟨#[51,50]⟩,.int .i64 8,.int .i64 (6+code),.int .i64 off,.int .i64 0] wx fun e w'=>(∃ q,e=.returned q)/\Pk w0 w' pb (Pf o ((L++[⟨A,8,5+code,off,0⟩])++[⟨A++[51,50],8,6+code,off,0⟩])) o []/\FrK wx w'):=hidOf (fun wx hx=>add4_any w0 wx pb _ o hx (by simp;omega) A [51,50] hA hA2 (by simp) 8 (6+code) off 0 (by omega) (by omega) (A++[51,50]) rfl)
  have hE:Hid (L++bothL A 8 code off=(L++[⟨A,8,5+code,off,0⟩])++[⟨A++[51,50],8,6+code,off,0⟩]):=hidOf (by simp [bothL])
  rw [hE.out]
  clear h
  go_enter Tryz.func159,Tryz.ntmps159
  go_upto_region 2 with (go_at_call 160;refine C1.out.mono ?_;rintro e w1 ⟨⟨q1,rfl⟩,hp,hf⟩;have P1:=hidOf hp;have F1:=hidOf hf;clear hp hf)
  go_wp2_with (go_at_call 160;refine (C2.out _ P1.out).mono ?_;rintro e w2 ⟨⟨q2,rfl⟩,hp,hf⟩;have P2:=hidOf hp;have F2:=hidOf hf;clear hp hf)
  refine bodyPost_ret (results_none rfl _ _ _) rfl ?_
  exact ⟨⟨_,rfl⟩,P2.out,F1.out.trans F2.out⟩
 ·
  have h8b:(sh == 8)=false:=by simpa using h8
  have C1:=hidOf (add4_any w0 w pb L o h (by omega) A [] hA hA2 (by simp) sh (7+code) off 0 (by omega) (by omega) A (by simp))
  have C2:Hid (∀ wx,Pk w0 wx pb (Pf o (L++[⟨A,sh,7+code,off,0⟩])) o []->Calls Tryz.prog 160 #[.pointer (some ⟨pb,0,none⟩),.string ⟨A.toArray⟩,.string ⟨#[51,50]⟩,.int .i64 sh,.int .i64 (4+code),.int .i64 off,.int .i64 0] wx fun e w'=>(∃ q,e=.returned q)/\Pk w0 w' pb (Pf o ((L++[⟨A,sh,7+code,off,0⟩])++[⟨A++[51,50],sh,4+code,off,0⟩])) o []/\FrK wx w'):=hidOf (fun wx hx=>add4_any w0 wx pb _ o hx (by simp;omega) A [51,50] hA hA2 (by simp) sh (4+code) off 0 (by omega) (by omega) (A++[51,50]) rfl)
  have hE:Hid (L++bothL A sh code off=(L++[⟨A,sh,7+code,off,0⟩])++[⟨A++[51,50],sh,4+code,off,0⟩]):=hidOf (by simp [bothL,h8])
  rw [hE.out]
  clear h h8
  go_enter Tryz.func159,Tryz.ntmps159
  go_upto_region 4 with (go_at_call 160;refine C1.out.mono ?_;rintro e w1 ⟨⟨q1,rfl⟩,hp,hf⟩;have P1:=hidOf hp;have F1:=hidOf hf;clear hp hf)
  go_wp2_with (go_at_call 160;refine (C2.out _ P1.out).mono ?_;rintro e w2 ⟨⟨q2,rfl⟩,hp,hf⟩;have P2:=hidOf hp;have F2:=hidOf hf;clear hp hf)
  go_end0
  exact ⟨⟨_,rfl⟩,P2.out,F1.out.trans F2.out⟩
def sWS:List (List UInt8):=[[97,100,100],[115,117,98],[109,117,108],[100,105,118],[111,114],[97,110,100],[108,115,104],[114,115,104],[109,111,100],[120,111,114],[109,111,118],[97,114,115,104]]
def sW (i:Nat):List UInt8:=sWS.getD i []
def sWC:Array Value:=#[.string ⟨#[97,100,100]⟩,.string ⟨#[115,117,98]⟩,.string ⟨#[109,117,108]⟩,.string ⟨#[100,105,118]⟩,.string ⟨#[111,114]⟩,.string ⟨#[97,110,100]⟩,.string ⟨#[108,115,104]⟩,.string ⟨#[114,115,104]⟩,.string ⟨#[109,111,100]⟩,.string ⟨#[120,111,114]⟩,.string ⟨#[109,111,118]⟩,.string ⟨#[97,114,115,104]⟩]
theorem sW_at (i:Nat) (h:i<12):sWC[i]? = some (.string ⟨(sW i).toArray⟩):=by
 have:i=0\/i=1\/i=2\/i=3\/i=4\/i=5\/i=6\/i=7\/i=8\/i=9\/i=10\/i=11:=by omega
 rcases this with rfl | rfl | rfl | rfl | rfl | rfl | rfl | rfl | rfl | rfl | rfl | rfl <;> rfl
theorem sW_len (i:Nat) (h:i<12):0<(sW i).length/\(sW i).length<=100:=by
 have:i=0\/i=1\/i=2\/i=3\/i=4\/i=5\/i=6\/i=7\/i=8\/i=9\/i=10\/i=11:=by omega
 rcases this with rfl | rfl | rfl | rfl | rfl | rfl | rfl | rfl | rfl | rfl | rfl | rfl <;> decide
def sCS:List Int:=[0,16,32,48,64,80,96,112,144,160,176,192]
def sC (i:Nat):Int:=sCS.getD i 0
def sCC:Array Value:=#[.int .i64 0,.int .i64 16,.int .i64 32,.int .i64 48,.int .i64 64,.int .i64 80,.int .i64 96,.int .i64 112,.int .i64 144,.int .i64 160,.int .i64 176,.int .i64 192]
theorem sC_at (i:Nat) (h:i<12):sCC[i]? = some (.int .i64 (sC i)):=by
 have:i=0\/i=1\/i=2\/i=3\/i=4\/i=5\/i=6\/i=7\/i=8\/i=9\/i=10\/i=11:=by omega
 rcases this with rfl | rfl | rfl | rfl | rfl | rfl | rfl | rfl | rfl | rfl | rfl | rfl <;> rfl
theorem sC_bd (i:Nat) (h:i<12):0<=sC i/\sC i<=900:=by
 have:i=0\/i=1\/i=2\/i=3\/i=4\/i=5\/i=6\/i=7\/i=8\/i=9\/i=10\/i=11:=by omega
 rcases this with rfl | rfl | rfl | rfl | rfl | rfl | rfl | rfl | rfl | rfl | rfl | rfl <;> decide
def eWS:List (List UInt8):=[[108,101],[98,101],[115,119,97,112]]
def eW (i:Nat):List UInt8:=eWS.getD i []
def eWC:Array Value:=#[.string ⟨#[108,101]⟩,.string ⟨#[98,101]⟩,.string ⟨#[115,119,97,112]⟩]
theorem eW_at (i:Nat) (h:i<3):eWC[i]? = some (.string ⟨(eW i).toArray⟩):=by
 have:i=0\/i=1\/i=2:=by omega
 rcases this with rfl | rfl | rfl <;> rfl
theorem eW_len (i:Nat) (h:i<3):0<(eW i).length/\(eW i).length<=100:=by
 have:i=0\/i=1\/i=2:=by omega
 rcases this with rfl | rfl | rfl <;> decide
def eCS:List Int:=[212,220,215]
def eC (i:Nat):Int:=eCS.getD i 0
def eCC:Array Value:=#[.int .i64 212,.int .i64 220,.int .i64 215]
theorem eC_at (i:Nat) (h:i<3):eCC[i]? = some (.int .i64 (eC i)):=by
 have:i=0\/i=1\/i=2:=by omega
 rcases this with rfl | rfl | rfl <;> rfl
theorem eC_bd (i:Nat) (h:i<3):0<=eC i/\eC i<=900:=by
 have:i=0\/i=1\/i=2:=by omega
 rcases this with rfl | rfl | rfl <;> decide
def mWdS:List (List UInt8):=[[119],[104],[98],[100,119]]
def mWd (i:Nat):List UInt8:=mWdS.getD i []
def mWdC:Array Value:=#[.string ⟨#[119]⟩,.string ⟨#[104]⟩,.string ⟨#[98]⟩,.string ⟨#[100,119]⟩]
theorem mWd_at (i:Nat) (h:i<4):mWdC[i]? = some (.string ⟨(mWd i).toArray⟩):=by
 have:i=0\/i=1\/i=2\/i=3:=by omega
 rcases this with rfl | rfl | rfl | rfl <;> rfl
theorem mWd_len (i:Nat) (h:i<4):0<(mWd i).length/\(mWd i).length<=100:=by
 have:i=0\/i=1\/i=2\/i=3:=by omega
 rcases this with rfl | rfl | rfl | rfl <;> decide
def aWS:List (List UInt8):=[[97,97,100,100],[97,111,114],[97,97,110,100],[97,120,111,114],[97,102,97,100,100],[97,102,111,114],[97,102,97,110,100],[97,102,120,111,114],[97,120,99,104,103],[97,99,109,112,120,99,104,103]]
def aW (i:Nat):List UInt8:=aWS.getD i []
def aWC:Array Value:=#[.string ⟨#[97,97,100,100]⟩,.string ⟨#[97,111,114]⟩,.string ⟨#[97,97,110,100]⟩,.string ⟨#[97,120,111,114]⟩,.string ⟨#[97,102,97,100,100]⟩,.string ⟨#[97,102,111,114]⟩,.string ⟨#[97,102,97,110,100]⟩,.string ⟨#[97,102,120,111,114]⟩,.string ⟨#[97,120,99,104,103]⟩,.string ⟨#[97,99,109,112,120,99,104,103]⟩]
theorem aW_at (i:Nat) (h:i<10):aWC[i]? = some (.string ⟨(aW i).toArray⟩):=by
 have:i=0\/i=1\/i=2\/i=3\/i=4\/i=5\/i=6\/i=7\/i=8\/i=9:=by omega
 rcases this with rfl | rfl | rfl | rfl | rfl | rfl | rfl | rfl | rfl | rfl <;> rfl
theorem aW_len (i:Nat) (h:i<10):0<(aW i).length/\(aW i).length<=100:=by
 have:i=0\/i=1\/i=2\/i=3\/i=4\/i=5\/i=6\/i=7\/i=8\/i=9:=by omega
 rcases this with rfl | rfl | rfl | rfl | rfl | rfl | rfl | rfl | rfl | rfl <;> decide
def aIS:List Int:=[0,64,80,160,1,65,81,161,225,241]
def aI (i:Nat):Int:=aIS.getD i 0
def aIC:Array Value:=#[.int .i64 0,.int .i64 64,.int .i64 80,.int .i64 160,.int .i64 1,.int .i64 65,.int .i64 81,.int .i64 161,.int .i64 225,.int .i64 241]
theorem aI_at (i:Nat) (h:i<10):aIC[i]? = some (.int .i64 (aI i)):=by
 have:i=0\/i=1\/i=2\/i=3\/i=4\/i=5\/i=6\/i=7\/i=8\/i=9:=by omega
 rcases this with rfl | rfl | rfl | rfl | rfl | rfl | rfl | rfl | rfl | rfl <;> rfl
def jWS:List (List UInt8):=[[106,101,113],[106,103,116],[106,103,101],[106,115,101,116],[106,110,101],[106,115,103,116],[106,115,103,101],[106,108,116],[106,108,101],[106,115,108,116],[106,115,108,101]]
def jW (i:Nat):List UInt8:=jWS.getD i []
def jWC:Array Value:=#[.string ⟨#[106,101,113]⟩,.string ⟨#[106,103,116]⟩,.string ⟨#[106,103,101]⟩,.string ⟨#[106,115,101,116]⟩,.string ⟨#[106,110,101]⟩,.string ⟨#[106,115,103,116]⟩,.string ⟨#[106,115,103,101]⟩,.string ⟨#[106,108,116]⟩,.string ⟨#[106,108,101]⟩,.string ⟨#[106,115,108,116]⟩,.string ⟨#[106,115,108,101]⟩]
theorem jW_at (i:Nat) (h:i<11):jWC[i]? = some (.string ⟨(jW i).toArray⟩):=by
 have:i=0\/i=1\/i=2\/i=3\/i=4\/i=5\/i=6\/i=7\/i=8\/i=9\/i=10:=by omega
 rcases this with rfl | rfl | rfl | rfl | rfl | rfl | rfl | rfl | rfl | rfl | rfl <;> rfl
theorem jW_len (i:Nat) (h:i<11):0<(jW i).length/\(jW i).length<=100:=by
 have:i=0\/i=1\/i=2\/i=3\/i=4\/i=5\/i=6\/i=7\/i=8\/i=9\/i=10:=by omega
 rcases this with rfl | rfl | rfl | rfl | rfl | rfl | rfl | rfl | rfl | rfl | rfl <;> decide
def jCS:List Int:=[16,32,48,64,80,96,112,160,176,192,208]
def jC (i:Nat):Int:=jCS.getD i 0
def jCC:Array Value:=#[.int .i64 16,.int .i64 32,.int .i64 48,.int .i64 64,.int .i64 80,.int .i64 96,.int .i64 112,.int .i64 160,.int .i64 176,.int .i64 192,.int .i64 208]
theorem jC_at (i:Nat) (h:i<11):jCC[i]? = some (.int .i64 (jC i)):=by
 have:i=0\/i=1\/i=2\/i=3\/i=4\/i=5\/i=6\/i=7\/i=8\/i=9\/i=10:=by omega
 rcases this with rfl | rfl | rfl | rfl | rfl | rfl | rfl | rfl | rfl | rfl | rfl <;> rfl
theorem jC_bd (i:Nat) (h:i<11):0<=jC i/\jC i<=900:=by
 have:i=0\/i=1\/i=2\/i=3\/i=4\/i=5\/i=6\/i=7\/i=8\/i=9\/i=10:=by omega
 rcases this with rfl | rfl | rfl | rfl | rfl | rfl | rfl | rfl | rfl | rfl | rfl <;> decide
theorem sA (i:Nat) (h:i<12):rwA.take (2*(i+1))=rwA.take (2*i)++bothL (sW i) 1 (sC i) 0:=by
 have:i=0\/i=1\/i=2\/i=3\/i=4\/i=5\/i=6\/i=7\/i=8\/i=9\/i=10\/i=11:=by omega
 rcases this with rfl | rfl | rfl | rfl | rfl | rfl | rfl | rfl | rfl | rfl | rfl | rfl <;> decide
theorem sE (i:Nat) (h:i<3):rwC.take (3*(i+1))=rwC.take (3*i)++[⟨eW i++[49,54],3,eC i,0,16⟩]++[⟨eW i++[51,50],3,eC i,0,32⟩]++[⟨eW i++[54,52],3,eC i,0,64⟩]:=by
 have:i=0\/i=1\/i=2:=by omega
 rcases this with rfl | rfl | rfl <;> decide
theorem sM (i:Nat) (h:i<4):rwD.take (3*(i+1))=rwD.take (3*i)++[⟨[108,100,120]++mWd i,4,97+8*(i:Int),0,0⟩]++[⟨[115,116]++mWd i,5,98+8*(i:Int),0,0⟩]++[⟨[115,116,120]++mWd i,6,99+8*(i:Int),0,0⟩]:=by
 have:i=0\/i=1\/i=2\/i=3:=by omega
 rcases this with rfl | rfl | rfl | rfl <;> decide
theorem sF (i:Nat) (h:i<10):rwF.take (2*(i+1))=rwF.take (2*i)++[⟨aW i,6,219,0,aI i⟩]++[⟨aW i++[51,50],6,195,0,aI i⟩]:=by
 have:i=0\/i=1\/i=2\/i=3\/i=4\/i=5\/i=6\/i=7\/i=8\/i=9:=by omega
 rcases this with rfl | rfl | rfl | rfl | rfl | rfl | rfl | rfl | rfl | rfl <;> decide
theorem sG (i:Nat) (h:i<11):rwG.take (2*(i+1))=rwG.take (2*i)++bothL (jW i) 8 (jC i) 0:=by
 have:i=0\/i=1\/i=2\/i=3\/i=4\/i=5\/i=6\/i=7\/i=8\/i=9\/i=10:=by omega
 rcases this with rfl | rfl | rfl | rfl | rfl | rfl | rfl | rfl | rfl | rfl | rfl <;> decide
theorem blk_out {w w':World} {q:Nat} {O:Obj} (o:Out w w') (h:w.heap[q]? = some O):w'.heap[q]? = some O:=(o.block q (Array.getElem?_eq_some_iff.1 h).1).trans h
set_option maxRecDepth 20000 in
set_option maxHeartbeats 4000000 in
theorem sums4_any (w0 w:World) (pb:Nat) (o:Int) (h:Pk w0 w pb (Pf o []) o []):Calls Tryz.prog 126 #[.pointer (some ⟨pb,0,none⟩)] w fun e w'=>(∃ q,e=.returned q)/\Pk w0 w' pb (Pf o (rwA++rwB++rwC)) o []:=by
 have H:=hidOf h
 clear h
 go_enter Tryz.func126,Tryz.ntmps126
 go_upto_region 2 with fail
 obtain ⟨q1,hq1⟩:∃ q1,q1=w.heap.size:=⟨_,rfl⟩
 obtain ⟨q2,hq2⟩:∃ q2,q2=w.heap.size+1:=⟨_,rfl⟩
 obtain ⟨qw,hqw⟩:∃ qw,qw=(w.alloc (.cells sWC 193)).alloc (.cells sCC 194):=⟨_,rfl⟩
 have hsq:(w.alloc (.cells sWC 193)).heap.size=w.heap.size+1:=size_alloc _ _
 have bq1:qw.heap[q1]? = some (.cells sWC 193 (0,0)):=by
  rw [hqw,hq1]
  exact blk_out ((Out.refl _).alloc _) (heap_alloc_new w _)
 have bq2:qw.heap[q2]? = some (.cells sCC 194 (0,0)):=by
  rw [hqw,hq2, <-hsq]
  exact heap_alloc_new (w.alloc (.cells sWC 193)) _
 have oq:Out w qw:=by rw [hqw];exact ((Out.refl w).alloc _).alloc _
 change Code.wp _ _ _ _ ((w.alloc (.cells sWC 193)).alloc (.cells sCC 194))
 rw [<-hqw, <-hq2, <-hq1]
 have Bq1:=hidOf bq1
 have Bq2:=hidOf bq2
 have Oq:=hidOf oq
 clear hqw hq1 hq2 hsq bq1 bq2 oq
 have H0:Hid (Pk w0 qw pb (Pf o (rwA.take (2*0))) o []):=hidOf (H.out.on Oq.out)
 clear H Oq
 go_wp2
 go_loopw [4] (fun iv wr=>∃ i:Nat,iv=.int .i64 i/\i<=12/\Hid (Pk w0 wr pb (Pf o (rwA.take (2*i))) o [])/\Hid (wr.heap[q1]? = some (.cells sWC 193 (0,0)))/\Hid (wr.heap[q2]? = some (.cells sCC 194 (0,0)))) (fun iv _=>12 - (intOf iv).toNat)
 case atStart=>exact ⟨0,rfl,by omega,H0,Bq1,Bq2⟩
 case round=>
  clear H0 Bq1 Bq2
  obtain ⟨i,rfl,hi,HP,B1,B2⟩:=hrel
  by_cases hin:i<12
  ·
   have hiI:(i:Int)<12:=by omega
   have hi0:(0:Int)<=i:=by omega
   have c1:wr.cell? ⟨q1,i,none⟩=some (.string ⟨(sW i).toArray⟩):=by rw [cell_atL B1.out];exact sW_at i hin
   have c2:wr.cell? ⟨q2,i,none⟩=some (.int .i64 (sC i)):=by rw [cell_atL B2.out];exact sC_at i hin
   have hl1:=sW_len i hin
   have hb2:=sC_bd i hin
   obtain ⟨A,hA⟩:∃ A,A=sW i:=⟨_,rfl⟩
   obtain ⟨cd,hcd⟩:∃ cd,cd=sC i:=⟨_,rfl⟩
   have HS:=hidOf (sA i hin)
   rw [<-hA, <-hcd] at HS
   rw [<-hA] at c1 hl1
   rw [<-hcd] at c2 hb2
   have CB:Hid (∀ wx,Pk w0 wx pb (Pf o (rwA.take (2*i))) o []->Calls Tryz.prog 159 #[.pointer (some ⟨pb,0,none⟩),.string ⟨A.toArray⟩,.int .i64 1,.int .i64 cd,.int .i64 0] wx fun e w'=>(∃ q,e=.returned q)/\Pk w0 w' pb (Pf o (rwA.take (2*i)++bothL A 1 cd 0)) o []/\FrK wx w'):=hidOf (fun wx hx=>both4_any w0 wx pb _ o hx (by have:(rwA.take (2*i)).length<=24:=Nat.le_trans (List.length_take_le' _ _) (by decide);omega) A hl1.1 hl1.2 1 cd 0 hb2.1 hb2.2)
   clear hA hcd hl1 hb2
   go_upto_region 5 with fail
   go_region_held3 (fun w'=>w'.cell? ⟨q1,i,none⟩=some (.string ⟨A.toArray⟩)/\w'.cell? ⟨q2,i,none⟩=some (.int .i64 cd)) (first | exact ⟨c1,c2⟩ | exact ⟨e1,e2⟩ | go_keep) (first | (go_at_call 159;refine (CB.out _ (HP.out.on ((Out.refl wr).dN _))).mono ?_;rintro e w2 ⟨⟨y2,rfl⟩,hp,hf⟩;have P2:=hidOf hp;have F2:=hidOf ((FrK.out ((Out.refl wr).dN _)).trans hf);have e1:w2.cell? ⟨q1,i,none⟩=some (.string ⟨A.toArray⟩):=(by rw [cell_atL (F2.out _ _ _ _ B1.out (by decide) (by decide)), <-cell_atL B1.out];exact c1);have e2:w2.cell? ⟨q2,i,none⟩=some (.int .i64 cd):=(by rw [cell_atL (F2.out _ _ _ _ B2.out (by decide) (by decide)), <-cell_atL B2.out];exact c2);clear hp hf))
   go_wp2
   go_roundw
   case rel=>exact ⟨i+1,by simp,by omega,hidOf (by rw [HS.out];exact P2.out),hidOf (F2.out _ _ _ _ B1.out (by decide) (by decide)),hidOf (F2.out _ _ _ _ B2.out (by decide) (by decide))⟩
   case measure=>simp [intOf];omega
  ·
   have hiI:¬(i:Int)<12:=by omega
   obtain rfl:i=12:=by omega
   have HP0:Hid (Pk w0 wr pb (Pf o rwA) o []):=hidOf HP.out
   clear HP B1 B2
   go_upto_region 6 with fail
   have C0:=hidOf (both4_any w0 _ pb _ o HP0.out (by decide) [115,100,105,118] (by decide) (by decide) 1 48 1 (by omega) (by omega))
   go_upto_region 7 with (go_at_call 159;refine C0.out.mono ?_;rintro e x0 ⟨⟨y0,rfl⟩,hp,hf⟩;have HP1:=hidOf hp;have FK1:=hidOf hf;clear hp hf)
   clear C0 HP0
   have C1:=hidOf (both4_any w0 _ pb _ o HP1.out (by decide) [115,109,111,100] (by decide) (by decide) 1 144 1 (by omega) (by omega))
   go_upto_region 8 with (go_at_call 159;refine C1.out.mono ?_;rintro e x1 ⟨⟨y1,rfl⟩,hp,hf⟩;have HP2:=hidOf hp;have FK2:=hidOf hf;clear hp hf)
   clear C1 HP1
   have C2:=hidOf (both4_any w0 _ pb _ o HP2.out (by decide) [110,101,103] (by decide) (by decide) 3 128 0 (by omega) (by omega))
   go_upto_region 9 with (go_at_call 159;refine C2.out.mono ?_;rintro e x2 ⟨⟨y2,rfl⟩,hp,hf⟩;have HP3:=hidOf hp;have FK3:=hidOf hf;clear hp hf)
   clear C2 HP2
   have C3:=hidOf (add4_any w0 _ pb _ o HP3.out (by decide) [109,111,118,115,56] [] (by decide) (by decide) (by decide) 2 191 8 0 (by omega) (by omega) [109,111,118,115,56] rfl)
   go_upto_region 10 with (go_at_call 160;refine C3.out.mono ?_;rintro e x3 ⟨⟨y3,rfl⟩,hp,hf⟩;have HP4:=hidOf hp;have FK4:=hidOf hf;clear hp hf)
   clear C3 HP3
   have C4:=hidOf (add4_any w0 _ pb _ o HP4.out (by decide) [109,111,118,115,49,54] [] (by decide) (by decide) (by decide) 2 191 16 0 (by omega) (by omega) [109,111,118,115,49,54] rfl)
   go_upto_region 11 with (go_at_call 160;refine C4.out.mono ?_;rintro e x4 ⟨⟨y4,rfl⟩,hp,hf⟩;have HP5:=hidOf hp;have FK5:=hidOf hf;clear hp hf)
   clear C4 HP4
   have C5:=hidOf (add4_any w0 _ pb _ o HP5.out (by decide) [109,111,118,115,51,50] [] (by decide) (by decide) (by decide) 2 191 32 0 (by omega) (by omega) [109,111,118,115,51,50] rfl)
   go_upto_region 12 with (go_at_call 160;refine C5.out.mono ?_;rintro e x5 ⟨⟨y5,rfl⟩,hp,hf⟩;have HP6:=hidOf hp;have FK6:=hidOf hf;clear hp hf)
   clear C5 HP5
   have C6:=hidOf (add4_any w0 _ pb _ o HP6.out (by decide) [109,111,118,115,56,119] [] (by decide) (by decide) (by decide) 2 188 8 0 (by omega) (by omega) [109,111,118,115,56,119] rfl)
   go_upto_region 13 with (go_at_call 160;refine C6.out.mono ?_;rintro e x6 ⟨⟨y6,rfl⟩,hp,hf⟩;have HP7:=hidOf hp;have FK7:=hidOf hf;clear hp hf)
   clear C6 HP6
   have C7:=hidOf (add4_any w0 _ pb _ o HP7.out (by decide) [109,111,118,115,49,54,119] [] (by decide) (by decide) (by decide) 2 188 16 0 (by omega) (by omega) [109,111,118,115,49,54,119] rfl)
   go_upto_region 14 with (go_at_call 160;refine C7.out.mono ?_;rintro e x7 ⟨⟨y7,rfl⟩,hp,hf⟩;have HP8:=hidOf hp;have FK8:=hidOf hf;clear hp hf)
   clear C7 HP7
   go_upto_region 16 with fail
   obtain ⟨r1,hr1⟩:∃ r1,r1=x7.heap.size:=⟨_,rfl⟩
   obtain ⟨r2,hr2⟩:∃ r2,r2=x7.heap.size+1:=⟨_,rfl⟩
   obtain ⟨rw,hrw⟩:∃ rw,rw=(x7.alloc (.cells eWC 197)).alloc (.cells eCC 198):=⟨_,rfl⟩
   have hsr:(x7.alloc (.cells eWC 197)).heap.size=x7.heap.size+1:=size_alloc _ _
   have br1:rw.heap[r1]? = some (.cells eWC 197 (0,0)):=by
    rw [hrw,hr1]
    exact blk_out ((Out.refl _).alloc _) (heap_alloc_new x7 _)
   have br2:rw.heap[r2]? = some (.cells eCC 198 (0,0)):=by
    rw [hrw,hr2, <-hsr]
    exact heap_alloc_new (x7.alloc (.cells eWC 197)) _
   have or:Out x7 rw:=by rw [hrw];exact ((Out.refl x7).alloc _).alloc _
   change Code.wp _ _ _ _ ((x7.alloc (.cells eWC 197)).alloc (.cells eCC 198))
   rw [<-hrw, <-hr2, <-hr1]
   have Br1:=hidOf br1
   have Br2:=hidOf br2
   have Or:=hidOf or
   clear hrw hr1 hr2 hsr br1 br2 or
   have H8:Hid (Pk w0 rw pb (Pf o (rwA++rwB++rwC.take (3*0))) o []):=hidOf (HP8.out.on Or.out)
   clear HP8 Or
   go_wp2
   go_loopw [7] (fun iv wr=>∃ i:Nat,iv=.int .i64 i/\i<=3/\Hid (Pk w0 wr pb (Pf o (rwA++rwB++rwC.take (3*i))) o [])/\Hid (wr.heap[r1]? = some (.cells eWC 197 (0,0)))/\Hid (wr.heap[r2]? = some (.cells eCC 198 (0,0)))) (fun iv _=>3 - (intOf iv).toNat)
   case atStart=>exact ⟨0,rfl,by omega,H8,Br1,Br2⟩
   case round=>
    clear H8 Br1 Br2
    obtain ⟨i,rfl,hi,HP_0,B1_0,B2_0⟩:=hrel
    by_cases hin:i<3
    ·
     have hiI:(i:Int)<3:=by omega
     have hi0:(0:Int)<=i:=by omega
     have c1_0:wr.cell? ⟨r1,i,none⟩=some (.string ⟨(eW i).toArray⟩):=by rw [cell_atL B1_0.out];exact eW_at i hin
     have c2_0:wr.cell? ⟨r2,i,none⟩=some (.int .i64 (eC i)):=by rw [cell_atL B2_0.out];exact eC_at i hin
     obtain ⟨hl1,hl2⟩:=eW_len i hin
     obtain ⟨hb1,hb2⟩:=eC_bd i hin
     have HS:=hidOf (sE i hin)
     obtain ⟨A,hA⟩:∃ A,A=eW i:=⟨_,rfl⟩
     obtain ⟨cd,hcd⟩:∃ cd,cd=eC i:=⟨_,rfl⟩
     rw [<-hA, <-hcd] at HS
     rw [<-hA] at c1_0 hl1 hl2
     rw [<-hcd] at c2_0 hb1 hb2
     clear hA hcd
     obtain ⟨L0,hL0⟩:∃ L0,L0=rwA++rwB++rwC.take (3*i):=⟨_,rfl⟩
     have hLl:L0.length<=100:=by
      have:(rwC.take (3*i)).length<=9:=Nat.le_trans (List.length_take_le' _ _) (by decide)
      rw [hL0,List.length_append,List.length_append,show rwA.length=24 from rfl,show rwB.length=11 from rfl];omega
     rw [<-hL0] at HP_0
     have HL0:=hidOf hL0
     clear hL0
     have C1:Hid (∀ wx,Pk w0 wx pb (Pf o (L0)) o []->Calls Tryz.prog 160 #[.pointer (some ⟨pb,0,none⟩),.string ⟨A.toArray⟩,.string ⟨#[49,54]⟩,.int .i64 3,.int .i64 cd,.int .i64 0,.int .i64 16] wx fun e w'=>(∃ q,e=.returned q)/\Pk w0 w' pb (Pf o ((L0)++[⟨A++[49,54],3,cd,0,16⟩])) o []/\FrK wx w'):=hidOf (fun wx hx=>add4_any w0 wx pb _ o hx (by omega) (A) ([49,54]) (by first | omega | (simp;done) | (simp;omega)) (by first | omega | (simp;done) | (simp;omega)) (by first | omega | (simp;done) | (simp;omega)) 3 (cd) 0 (16) (by omega) (by omega) (A++[49,54]) (by first | rfl | simp))
     have C2:Hid (∀ wx,Pk w0 wx pb (Pf o (L0++[⟨A++[49,54],3,cd,0,16⟩])) o []->Calls Tryz.prog 160 #[.pointer (some ⟨pb,0,none⟩),.string ⟨A.toArray⟩,.string ⟨#[51,50]⟩,.int .i64 3,.int .i64 cd,.int .i64 0,.int .i64 32] wx fun e w'=>(∃ q,e=.returned q)/\Pk w0 w' pb (Pf o ((L0++[⟨A++[49,54],3,cd,0,16⟩])++[⟨A++[51,50],3,cd,0,32⟩])) o []/\FrK wx w'):=hidOf (fun wx hx=>add4_any w0 wx pb _ o hx (by simp;omega) (A) ([51,50]) (by first | omega | (simp;done) | (simp;omega)) (by first | omega | (simp;done) | (simp;omega)) (by first | omega | (simp;done) | (simp;omega)) 3 (cd) 0 (32) (by omega) (by omega) (A++[51,50]) (by first | rfl | simp))
     have C3:Hid (∀ wx,Pk w0 wx pb (Pf o (L0++[⟨A++[49,54],3,cd,0,16⟩]++[⟨A++[51,50],3,cd,0,32⟩])) o []->Calls Tryz.prog 160 #[.pointer (some ⟨pb,0,none⟩),.string ⟨A.toArray⟩,.string ⟨#[54,52]⟩,.int .i64 3,.int .i64 cd,.int .i64 0,.int .i64 64] wx fun e w'=>(∃ q,e=.returned q)/\Pk w0 w' pb (Pf o ((L0++[⟨A++[49,54],3,cd,0,16⟩]++[⟨A++[51,50],3,cd,0,32⟩])++[⟨A++[54,52],3,cd,0,64⟩])) o []/\FrK wx w'):=hidOf (fun wx hx=>add4_any w0 wx pb _ o hx (by simp;omega) (A) ([54,52]) (by first | omega | (simp;done) | (simp;omega)) (by first | omega | (simp;done) | (simp;omega)) (by first | omega | (simp;done) | (simp;omega)) 3 (cd) 0 (64) (by omega) (by omega) (A++[54,52]) (by first | rfl | simp))
     clear hl1 hl2 hb1 hb2 hLl
     go_upto_region 19 with fail
     go_region_held3 (fun w'=>w'.cell? ⟨r1,i,none⟩=some (.string ⟨A.toArray⟩)/\w'.cell? ⟨r2,i,none⟩=some (.int .i64 cd)) (first | exact ⟨c1_0,c2_0⟩ | exact ⟨c1_1,c2_1⟩ | go_keep) (first | (go_at_call 160;refine (C1.out _ (HP_0.out.on ((Out.refl wr).dN _))).mono ?_;rintro e u1 ⟨⟨y2,rfl⟩,hp,hf⟩;have HP_1:=hidOf hp;have F_1:=hidOf ((FrK.out ((Out.refl wr).dN _)).trans hf);have c1_1:u1.cell? ⟨r1,i,none⟩=some (.string ⟨A.toArray⟩):=(by rw [cell_atL (F_1.out _ _ _ _ B1_0.out (by decide) (by decide)), <-cell_atL B1_0.out];exact c1_0);have c2_1:u1.cell? ⟨r2,i,none⟩=some (.int .i64 cd):=(by rw [cell_atL (F_1.out _ _ _ _ B2_0.out (by decide) (by decide)), <-cell_atL B2_0.out];exact c2_0);clear hp hf))
     have B1_1:=hidOf (F_1.out _ _ _ _ B1_0.out (by decide) (by decide))
     have B2_1:=hidOf (F_1.out _ _ _ _ B2_0.out (by decide) (by decide))
     clear c1_0 c2_0 HP_0 F_1 B1_0 B2_0
     go_upto_region 20 with fail
     go_region_held3 (fun w'=>w'.cell? ⟨r1,i,none⟩=some (.string ⟨A.toArray⟩)/\w'.cell? ⟨r2,i,none⟩=some (.int .i64 cd)) (first | exact ⟨c1_1,c2_1⟩ | exact ⟨c1_2,c2_2⟩ | go_keep) (first | (go_at_call 160;refine (C2.out _ (HP_1.out.on ((Out.refl u1).dN _))).mono ?_;rintro e u2 ⟨⟨y2,rfl⟩,hp,hf⟩;have HP_2:=hidOf hp;have F_2:=hidOf ((FrK.out ((Out.refl u1).dN _)).trans hf);have c1_2:u2.cell? ⟨r1,i,none⟩=some (.string ⟨A.toArray⟩):=(by rw [cell_atL (F_2.out _ _ _ _ B1_1.out (by decide) (by decide)), <-cell_atL B1_1.out];exact c1_1);have c2_2:u2.cell? ⟨r2,i,none⟩=some (.int .i64 cd):=(by rw [cell_atL (F_2.out _ _ _ _ B2_1.out (by decide) (by decide)), <-cell_atL B2_1.out];exact c2_1);clear hp hf))
     have B1_2:=hidOf (F_2.out _ _ _ _ B1_1.out (by decide) (by decide))
     have B2_2:=hidOf (F_2.out _ _ _ _ B2_1.out (by decide) (by decide))
     clear c1_1 c2_1 HP_1 F_2 B1_1 B2_1
     go_upto_region 21 with fail
     go_region_held3 (fun w'=>w'.cell? ⟨r1,i,none⟩=some (.string ⟨A.toArray⟩)/\w'.cell? ⟨r2,i,none⟩=some (.int .i64 cd)) (first | exact ⟨c1_2,c2_2⟩ | exact ⟨c1_3,c2_3⟩ | go_keep) (first | (go_at_call 160;refine (C3.out _ (HP_2.out.on ((Out.refl u2).dN _))).mono ?_;rintro e u3 ⟨⟨y2,rfl⟩,hp,hf⟩;have HP_3:=hidOf hp;have F_3:=hidOf ((FrK.out ((Out.refl u2).dN _)).trans hf);have c1_3:u3.cell? ⟨r1,i,none⟩=some (.string ⟨A.toArray⟩):=(by rw [cell_atL (F_3.out _ _ _ _ B1_2.out (by decide) (by decide)), <-cell_atL B1_2.out];exact c1_2);have c2_3:u3.cell? ⟨r2,i,none⟩=some (.int .i64 cd):=(by rw [cell_atL (F_3.out _ _ _ _ B2_2.out (by decide) (by decide)), <-cell_atL B2_2.out];exact c2_2);clear hp hf))
     have B1_3:=hidOf (F_3.out _ _ _ _ B1_2.out (by decide) (by decide))
     have B2_3:=hidOf (F_3.out _ _ _ _ B2_2.out (by decide) (by decide))
     clear c1_2 c2_2 HP_2 F_3 B1_2 B2_2
     have HQ:Hid (Pk w0 u3 pb (Pf o (rwA++rwB++rwC.take (3*(i+1)))) o []):=hidOf (by
      have h:=HP_3.out
      rw [HL0.out] at h
      rw [HS.out]
      simpa using h)
     clear HP_3 HS HL0 c1_3 c2_3
     go_wp2
     go_roundw
     case rel=>exact ⟨i+1,by simp,by omega,HQ,B1_3,B2_3⟩
     case measure=>simp [intOf];omega
    ·
     have hiI:¬(i:Int)<3:=by omega
     obtain rfl:i=3:=by omega
     go_wp2
     go_end0
     exact ⟨⟨_,rfl⟩,HP_0.out⟩
end Go.Proofs.YtadneimllbfdnaaGreatDoor
