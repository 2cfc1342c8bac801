import Derived.Test.YtadneimllbfdnaaGreatDoorGu34
import Derived.Laws.AppendOwnNone
import Derived.SliceStrings
namespace Go.Proofs.YtadneimllbfdnaaGreatDoor
open Go.RowKit
set_option linter.unusedVariables false
set_option linter.unusedSimpArgs false
set_option maxRecDepth 20000 in
set_option maxHeartbeats 4000000 in
theorem lineOf_lists (x:Stm) (aw an:Option Addr) (nw cw nn cn:Nat) (w:World) (hpw:Lx.Pow w) (hl:(decide (0<nw) || decide (0<nn))=true):Calls Tryz.prog 15 #[.agg #[.int .i64 6,.string ⟨#[]⟩,.slice aw nw cw,.slice an nn cn,.int .i64 x.o,.int .i64 x.d,.int .i64 x.s,.int .i64 x.f,.int .i64 x.i,.string ⟨x.tg.toArray⟩,.int .i64 x.l]] w fun e w'=>e=.returned (.tuple #[.string ⟨#[]⟩,.int .i64 60])/\Out w w':=by
 have CL:Hid (∀ wx,Calls Tryz.prog 28 #[.agg #[.int .i64 6,.string ⟨#[]⟩,.slice aw nw cw,.slice an nn cn,.int .i64 x.o,.int .i64 x.d,.int .i64 x.s,.int .i64 x.f,.int .i64 x.i,.string ⟨x.tg.toArray⟩,.int .i64 x.l]] wx fun e w'=>e=.returned (.bool (decide (0<nw) || decide (0<nn)))/\Out wx w'):=hidOf (hasLists_any { x with k:=6,nm:=[] } aw an nw cw nn cn)
 have CI:Hid (∀ wx,Calls Tryz.prog 30 #[.agg #[.int .i64 6,.string ⟨#[]⟩,.slice aw nw cw,.slice an nn cn,.int .i64 x.o,.int .i64 x.d,.int .i64 x.s,.int .i64 x.f,.int .i64 x.i,.string ⟨x.tg.toArray⟩,.int .i64 x.l]] wx fun e w'=>e=.returned (.bool (!insZ x || !x.tg.isEmpty))/\Out wx w'):=hidOf (hasInsn_any { x with k:=6,nm:=[] } aw an nw cw nn cn)
 have CM:Hid (∀ wx,Out w wx->Calls Tryz.prog 31 #[.string ⟨#[]⟩] wx fun e w'=>e=.returned (.bool false)/\Out wx w'):=hidOf (fun wx o=>isName6_any [] (by decide) wx (hpw.out o))
 rw [hl] at CL
 obtain ⟨w1,hw1⟩:∃ w1,w1=w.alloc (.cells #[.int .i64 6,.string ⟨#[]⟩,.slice aw nw cw,.slice an nn cn,.int .i64 x.o,.int .i64 x.d,.int .i64 x.s,.int .i64 x.f,.int .i64 x.i,.string ⟨x.tg.toArray⟩,.int .i64 x.l] 42):=⟨_,rfl⟩
 have O1:Hid (Out w w1):=hidOf (by rw [hw1];exact (Out.refl w).alloc _)
 have b1':w1.heap[w.heap.size]? = some (.cells #[.int .i64 6,.string ⟨#[]⟩,.slice aw nw cw,.slice an nn cn,.int .i64 x.o,.int .i64 x.d,.int .i64 x.s,.int .i64 x.f,.int .i64 x.i,.string ⟨x.tg.toArray⟩,.int .i64 x.l] 42 (0,0)):=by rw [hw1];exact heap_alloc_new w _
 have BL:Hid (∀ wx,Out w1 wx->wx.heap[w.heap.size]? = some (.cells #[.int .i64 6,.string ⟨#[]⟩,.slice aw nw cw,.slice an nn cn,.int .i64 x.o,.int .i64 x.d,.int .i64 x.s,.int .i64 x.f,.int .i64 x.i,.string ⟨x.tg.toArray⟩,.int .i64 x.l] 42 (0,0))):=hidOf (fun wx o=>(o.block _ (Array.getElem?_eq_some_iff.1 b1').1).trans b1')
 have Hw1:=hidOf hw1
 generalize (!insZ x || !x.tg.isEmpty)=b1 at *
 clear hl hw1 b1' hpw
 have c0:w1.cell? ⟨w.heap.size,0,none⟩=some (.int .i64 6):=by rw [cell_atL (BL.out _ (Out.refl w1))];rfl
 have c1:w1.cell? ⟨w.heap.size,1,none⟩=some (.string ⟨#[]⟩):=by rw [cell_atL (BL.out _ (Out.refl w1))];rfl
 have c2:w1.cell? ⟨w.heap.size,2,none⟩=some (.slice aw nw cw):=by rw [cell_atL (BL.out _ (Out.refl w1))];rfl
 have c3:w1.cell? ⟨w.heap.size,3,none⟩=some (.slice an nn cn):=by rw [cell_atL (BL.out _ (Out.refl w1))];rfl
 have c4:w1.cell? ⟨w.heap.size,4,none⟩=some (.int .i64 x.o):=by rw [cell_atL (BL.out _ (Out.refl w1))];rfl
 have c5:w1.cell? ⟨w.heap.size,5,none⟩=some (.int .i64 x.d):=by rw [cell_atL (BL.out _ (Out.refl w1))];rfl
 have c6:w1.cell? ⟨w.heap.size,6,none⟩=some (.int .i64 x.s):=by rw [cell_atL (BL.out _ (Out.refl w1))];rfl
 have c7:w1.cell? ⟨w.heap.size,7,none⟩=some (.int .i64 x.f):=by rw [cell_atL (BL.out _ (Out.refl w1))];rfl
 have c8:w1.cell? ⟨w.heap.size,8,none⟩=some (.int .i64 x.i):=by rw [cell_atL (BL.out _ (Out.refl w1))];rfl
 have c9:w1.cell? ⟨w.heap.size,9,none⟩=some (.string ⟨x.tg.toArray⟩):=by rw [cell_atL (BL.out _ (Out.refl w1))];rfl
 have c10:w1.cell? ⟨w.heap.size,10,none⟩=some (.int .i64 x.l):=by rw [cell_atL (BL.out _ (Out.refl w1))];rfl
 cases b1
 all_goals
  go_enter Tryz.func15,Tryz.ntmps15
  go_upto_region 1 with fail
  rw [<-Hw1.out]
  go_upto_region 3 with (go_at_call 28;refine (CL.out _).mono ?_;rintro e w2 ⟨rfl,ho⟩;have O2:=hidOf ho;clear ho)
  clear c0 c1 c2 c3 c4 c5 c6 c7 c8 c9 c10
  have e0:w2.cell? ⟨w.heap.size,0,none⟩=some (.int .i64 6):=by rw [cell_atL (BL.out _ O2.out)];rfl
  have e1:w2.cell? ⟨w.heap.size,1,none⟩=some (.string ⟨#[]⟩):=by rw [cell_atL (BL.out _ O2.out)];rfl
  have e2:w2.cell? ⟨w.heap.size,2,none⟩=some (.slice aw nw cw):=by rw [cell_atL (BL.out _ O2.out)];rfl
  have e3:w2.cell? ⟨w.heap.size,3,none⟩=some (.slice an nn cn):=by rw [cell_atL (BL.out _ O2.out)];rfl
  have e4:w2.cell? ⟨w.heap.size,4,none⟩=some (.int .i64 x.o):=by rw [cell_atL (BL.out _ O2.out)];rfl
  have e5:w2.cell? ⟨w.heap.size,5,none⟩=some (.int .i64 x.d):=by rw [cell_atL (BL.out _ O2.out)];rfl
  have e6:w2.cell? ⟨w.heap.size,6,none⟩=some (.int .i64 x.s):=by rw [cell_atL (BL.out _ O2.out)];rfl
  have e7:w2.cell? ⟨w.heap.size,7,none⟩=some (.int .i64 x.f):=by rw [cell_atL (BL.out _ O2.out)];rfl
  have e8:w2.cell? ⟨w.heap.size,8,none⟩=some (.int .i64 x.i):=by rw [cell_atL (BL.out _ O2.out)];rfl
  have e9:w2.cell? ⟨w.heap.size,9,none⟩=some (.string ⟨x.tg.toArray⟩):=by rw [cell_atL (BL.out _ O2.out)];rfl
  have e10:w2.cell? ⟨w.heap.size,10,none⟩=some (.int .i64 x.l):=by rw [cell_atL (BL.out _ O2.out)];rfl
  go_wp2_with (first | (go_at_call 30;refine (CI.out _).mono ?_;rintro e w3 ⟨rfl,ho⟩;have O3:=hidOf (O2.out.trans ho);have d1:=(show w3.cell? ⟨w.heap.size,1,none⟩=some (.string ⟨#[]⟩) by rw [cell_atL (BL.out _ (Hid.out (by assumption)))];rfl);clear ho) | (go_at_call 31;refine (CM.out _ (O1.out.trans O3.out)).mono ?_;rintro e w4 ⟨rfl,ho⟩;have O4:=hidOf (O3.out.trans ho);clear ho))
  go_ret2
  first | exact ⟨rfl,O1.out.trans O4.out⟩ | exact ⟨rfl,O1.out.trans O3.out⟩
theorem ln_pl {x:Stm} (h6:¬(x.k=6/\x.nm=[]/\x.ws=[]/\x.ns=[])) (h5:¬x.k=5):lnA x=lnPl x x.ws.length x.ns.length:=by
 unfold lnA lnPl
 rw [if_neg h6,if_neg h5]
theorem lineOf_any (x:Stm) (aw an:Option Addr) (cw cn:Nat) (w:World) (hE:AEnv w) (hx:x.nm.length<=140737488355328) (ht:x.tg.length<=140737488355328) (hf:I64 x.f) (hi:I64 x.i) (hW:RowC w aw (strsC x.ws)) (hN:RowC w an (intsC x.ns)):Calls Tryz.prog 15 #[.agg #[.int .i64 x.k,.string ⟨x.nm.toArray⟩,.slice aw x.ws.length cw,.slice an x.ns.length cn,.int .i64 x.o,.int .i64 x.d,.int .i64 x.s,.int .i64 x.f,.int .i64 x.i,.string ⟨x.tg.toArray⟩,.int .i64 x.l]] w fun e w'=>e=.returned (.tuple #[.string ⟨(lnA x).1.toArray⟩,.int .i64 (lnA x).2])/\Out w w':=by
 have hpw:Lx.Pow w:=hE.2
 by_cases h6:x.k=6
 ·
  by_cases hn:x.nm=[]
  ·
   cases hl:(decide (0<x.ws.length) || decide (0<x.ns.length)) with
   | false=>
    have hl2:x.ws=[]/\x.ns=[]:=by
     rw [Bool.or_eq_false_iff] at hl
     simp only [decide_eq_false_iff_not,Nat.not_lt,Nat.le_zero,List.length_eq_zero_iff] at hl
     exact hl
    have e:lnA x=printP x.o x.d x.s x.f x.i x.tg:=by unfold lnA;rw [if_pos ⟨h6,hn,hl2.1,hl2.2⟩]
    rw [e,h6,hn]
    exact lineOf_insn x aw an x.ws.length cw x.ns.length cn w hE hl ht hf hi
   | true=>
    have h6':¬(x.k=6/\x.nm=[]/\x.ws=[]/\x.ns=[]):=fun h=>by
     rw [h.2.2.1,h.2.2.2] at hl
     revert hl
     decide
    have hnm:isNmP x.nm=false:=by rw [hn];decide
    have e:lnA x=([],60):=by
     rw [ln_pl h6' (by omega)]
     unfold lnPl
     by_cases hz:(!insZ x || !x.tg.isEmpty)=true
     · rw [if_pos hz]
     · rw [if_neg hz,if_pos hnm]
    rw [e,h6,hn]
    exact lineOf_lists x aw an x.ws.length cw x.ns.length cn w hpw hl
  ·
   rw [ln_pl (fun h=>hn h.2.1) (by omega)]
   exact lineOf_named x aw an x.ws.length cw x.ns.length cn w hpw hx (by omega) h6 hn
 ·
  by_cases h5:x.k=5
  ·
   have e:lnA x=if (!insZ x || !x.tg.isEmpty)=true then ([],60) else if isNmP x.nm=false then ([],60) else tbLn x:=by
    unfold lnA
    rw [if_neg (fun h=>h6 h.1),if_pos h5]
   rw [e]
   exact lineOf_table x aw an x.ws.length cw x.ns.length cn w hpw hx h5 (tbLn x) (fun hm wx o=>tableLine_any x aw an cw cn wx (hpw.out o) (by have:=Lx.word_len (nm_word hm);omega) (hW.out o) (hN.out o))
  ·
   rw [ln_pl (fun h=>h6 h.1) h5]
   exact lineOf_plain x aw an x.ws.length cw x.ns.length cn w hpw hx h5 h6
def bareP (x:Stm) (nw nn:Nat) (k:Int):Bool:=(k == 5 || (nw == 0 && nn == 0)) && (k == 6 || (insZ x && x.tg.isEmpty)) && (!(k == 6) || x.nm.isEmpty)
set_option maxRecDepth 20000 in
set_option maxHeartbeats 2000000 in
theorem bare_any (x:Stm) (aw an:Option Addr) (nw cw nn cn:Nat) (k:Int) (w:World):Calls Tryz.prog 36 #[.agg #[.int .i64 x.k,.string ⟨x.nm.toArray⟩,.slice aw nw cw,.slice an nn cn,.int .i64 x.o,.int .i64 x.d,.int .i64 x.s,.int .i64 x.f,.int .i64 x.i,.string ⟨x.tg.toArray⟩,.int .i64 x.l],.int .i64 k] w fun e w'=>e=.returned (.bool (bareP x nw nn k))/\Out w w':=by
 obtain ⟨w1,hw1⟩:∃ w1,w1=w.alloc (.cells #[.int .i64 x.k,.string ⟨x.nm.toArray⟩,.slice aw nw cw,.slice an nn cn,.int .i64 x.o,.int .i64 x.d,.int .i64 x.s,.int .i64 x.f,.int .i64 x.i,.string ⟨x.tg.toArray⟩,.int .i64 x.l] 42):=⟨_,rfl⟩
 have O1:Hid (Out w w1):=hidOf (by rw [hw1];exact (Out.refl w).alloc _)
 have b1:w1.heap[w.heap.size]? = some (.cells #[.int .i64 x.k,.string ⟨x.nm.toArray⟩,.slice aw nw cw,.slice an nn cn,.int .i64 x.o,.int .i64 x.d,.int .i64 x.s,.int .i64 x.f,.int .i64 x.i,.string ⟨x.tg.toArray⟩,.int .i64 x.l] 42 (0,0)):=by rw [hw1];exact heap_alloc_new w _
 have c0:w1.cell? ⟨w.heap.size,0,none⟩=some (.int .i64 x.k):=by rw [cell_atL b1];rfl
 have c1:w1.cell? ⟨w.heap.size,1,none⟩=some (.string ⟨x.nm.toArray⟩):=by rw [cell_atL b1];rfl
 have c2:w1.cell? ⟨w.heap.size,2,none⟩=some (.slice aw nw cw):=by rw [cell_atL b1];rfl
 have c3:w1.cell? ⟨w.heap.size,3,none⟩=some (.slice an nn cn):=by rw [cell_atL b1];rfl
 have c4:w1.cell? ⟨w.heap.size,4,none⟩=some (.int .i64 x.o):=by rw [cell_atL b1];rfl
 have c5:w1.cell? ⟨w.heap.size,5,none⟩=some (.int .i64 x.d):=by rw [cell_atL b1];rfl
 have c6:w1.cell? ⟨w.heap.size,6,none⟩=some (.int .i64 x.s):=by rw [cell_atL b1];rfl
 have c7:w1.cell? ⟨w.heap.size,7,none⟩=some (.int .i64 x.f):=by rw [cell_atL b1];rfl
 have c8:w1.cell? ⟨w.heap.size,8,none⟩=some (.int .i64 x.i):=by rw [cell_atL b1];rfl
 have c9:w1.cell? ⟨w.heap.size,9,none⟩=some (.string ⟨x.tg.toArray⟩):=by rw [cell_atL b1];rfl
 have c10:w1.cell? ⟨w.heap.size,10,none⟩=some (.int .i64 x.l):=by rw [cell_atL b1];rfl
 have Hw1:=hidOf hw1
 clear hw1 b1
 go_enter Tryz.func36,Tryz.ntmps36
 go_upto_region 1 with fail
 rw [<-Hw1.out]
 go_wp2
 all_goals
  go_ret
  refine ⟨?_,by first | exact O1.out | exact O1.out.alloc _⟩
  clear Hw1 O1
  first | (simp [bareP,insZ, *];done) | (simp_all [bareP,insZ];done) | (simp_all [bareP,insZ];omega)
def StA (w:World) (a:Option Addr) (Y:List (Stm × Value × Value)):Prop:=Y=[]\/∃ g off,a=some ⟨g,off,none⟩/\∀ k y,Y[k]? = some y->∀ i u,(stL y.1 y.2.1 y.2.2)[i]? = some u->w.cell? ⟨g,off+k*11+i,none⟩=some u
def LsR (w:World) (y:Stm × Value × Value):Prop:=∃ aw cw an cn,y.2.1=.slice aw y.1.ws.length cw/\y.2.2=.slice an y.1.ns.length cn/\RowC w aw (strsC y.1.ws)/\RowC w an (intsC y.1.ns)/\y.1.ws.length<=cw/\y.1.ns.length<=cn
theorem StA.out {w w':World} {a:Option Addr} {Y:List (Stm × Value × Value)} (h:StA w a Y) (o:Out w w'):StA w' a Y:=by
 rcases h with h | ⟨g,off,e,h⟩
 · exact .inl h
 · exact .inr ⟨g,off,e,fun k y hy i u hu=>cell_later o (h k y hy i u hu)⟩
theorem LsR.out {w w':World} {y:Stm × Value × Value} (h:LsR w y) (o:Out w w'):LsR w' y:=by
 obtain ⟨aw,cw,an,cn,e1,e2,h1,h2,h3,h4⟩:=h
 exact ⟨aw,cw,an,cn,e1,e2,h1.out o,h2.out o,h3,h4⟩
theorem StA.get {w:World} {a:Option Addr} {Y:List (Stm × Value × Value)} (h:StA w a Y) {k:Nat} {y:Stm × Value × Value} (hy:Y[k]? = some y):∃ g off,a=some ⟨g,off,none⟩/\∀ i u,(stL y.1 y.2.1 y.2.2)[i]? = some u->w.cell? ⟨g,off+k*11+i,none⟩=some u:=by
 rcases h with h | ⟨g,off,e,h⟩
 · rw [h] at hy;cases hy
 · exact ⟨g,off,e,h k y hy⟩
set_option maxRecDepth 20000 in
set_option maxHeartbeats 4000000 in
theorem sameSts_any (w:World) (a b:Option Addr) (c d:Nat) (Y Z:List (Stm × Value × Value)) (hE:Y.map (fun y=>y.1)=Z.map (fun y=>y.1)) (hY:StA w a Y) (hZ:StA w b Z) (lY:∀ y ∈ Y,LsR w y) (lZ:∀ y ∈ Z,LsR w y) (hs:∀ y ∈ Y,y.1.ws.length<=20000000000000/\y.1.ns.length<=20000000000000) (hl:Y.length<=100000000000) :
  Calls Tryz.prog 20 #[.slice a Y.length c,.slice b Y.length d] w fun e w'=>e=.returned (.bool true)/\Out w w':=by
 have HY:=hidOf hY
 have HZ:=hidOf hZ
 have LY:=hidOf lY
 have LZ:=hidOf lZ
 have HS:=hidOf hs
 have HE:=hidOf hE
 obtain ⟨n,hn⟩:∃ n,n=Y.length:=⟨_,rfl⟩
 have Hn:=hidOf hn
 rw [<-hn] at hl ⊢
 clear hY hZ lY lZ hs hE hn
 have hnI:((n:Int) != (n:Int))=false:=by simp
 go_enter Tryz.func20,Tryz.ntmps20
 go_wp2
 go_loopw [5] (fun iv wr=>∃ i:Nat,iv=.int .i64 i/\i<=n/\Hid (Out w wr)) (fun iv _=>n - (intOf iv).toNat)
 case atStart=>exact ⟨0,rfl,by omega,hidOf (Out.refl _)⟩
 case round=>
  obtain ⟨i,rfl,hi,Ho⟩:=hrel
  by_cases hiL:i<n
  ·
   have hlt:(i:Int)<n:=by omega
   have h0:(0:Int)<=i:=by omega
   obtain ⟨y,hy⟩:∃ y,Y[i]? = some y:=⟨_,List.getElem?_eq_getElem (by have:=Hn.out;omega)⟩
   have hlz:Z.length=Y.length:=by have:=congrArg List.length HE.out;simpa using this.symm
   obtain ⟨z,hz⟩:∃ z,Z[i]? = some z:=⟨_,List.getElem?_eq_getElem (by have:=Hn.out;omega)⟩
   have hyz:z.1=y.1:=by
    have e1:(Y.map (fun y=>y.1))[i]? = some y.1:=by rw [List.getElem?_map,hy];rfl
    rw [HE.out,List.getElem?_map,hz] at e1
    exact Option.some.inj e1
   obtain ⟨g,off,rfl,h1⟩:=HY.out.get hy
   obtain ⟨g2,off2,rfl,h2⟩:=HZ.out.get hz
   obtain ⟨aw,cw,an,cn,e1,e2,r1,r2,_⟩:=LY.out y (List.mem_of_getElem? hy)
   obtain ⟨aw2,cw2,an2,cn2,e3,e4,r3,r4,_⟩:=LZ.out z (List.mem_of_getElem? hz)
   obtain ⟨hs1,hs2⟩:=HS.out y (List.mem_of_getElem? hy)
   obtain ⟨x,wv,nv⟩:=y
   obtain ⟨x2,wv2,nv2⟩:=z
   simp only at hyz h1 h2 e1 e2 e3 e4 r1 r2 r3 r4 hs1 hs2
   subst hyz e1 e2 e3 e4
   have CS:Hid (∀ wx,Out wr wx->Calls Tryz.prog 21 #[.agg #[.int .i64 x2.k,.string ⟨x2.nm.toArray⟩,.slice aw x2.ws.length cw,.slice an x2.ns.length cn,.int .i64 x2.o,.int .i64 x2.d,.int .i64 x2.s,.int .i64 x2.f,.int .i64 x2.i,.string ⟨x2.tg.toArray⟩,.int .i64 x2.l],.agg #[.int .i64 x2.k,.string ⟨x2.nm.toArray⟩,.slice aw2 x2.ws.length cw2,.slice an2 x2.ns.length cn2,.int .i64 x2.o,.int .i64 x2.d,.int .i64 x2.s,.int .i64 x2.f,.int .i64 x2.i,.string ⟨x2.tg.toArray⟩,.int .i64 x2.l]] wx fun e w'=>e=.returned (.bool true)/\Out wx w'):=hidOf (fun wx o=>sameSt_any x2 aw aw2 an an2 cw cw2 cn cn2 wx (r1.out (Ho.out.trans o)) (r3.out (Ho.out.trans o)) (r2.out (Ho.out.trans o)) (r4.out (Ho.out.trans o)) hs1 hs2)
   have HK:Hid (∀ wx,Out w wx->wx.cell? ⟨g,off+i*11,none⟩=some (.int .i64 x2.k)/\wx.cell? ⟨g,off+i*11+1,none⟩=some (.string ⟨x2.nm.toArray⟩)/\wx.cell? ⟨g,off+i*11+2,none⟩=some (.slice aw x2.ws.length cw)/\wx.cell? ⟨g,off+i*11+3,none⟩=some (.slice an x2.ns.length cn)/\wx.cell? ⟨g,off+i*11+4,none⟩=some (.int .i64 x2.o)/\wx.cell? ⟨g,off+i*11+5,none⟩=some (.int .i64 x2.d)/\wx.cell? ⟨g,off+i*11+6,none⟩=some (.int .i64 x2.s)/\wx.cell? ⟨g,off+i*11+7,none⟩=some (.int .i64 x2.f)/\wx.cell? ⟨g,off+i*11+8,none⟩=some (.int .i64 x2.i)/\wx.cell? ⟨g,off+i*11+9,none⟩=some (.string ⟨x2.tg.toArray⟩)/\wx.cell? ⟨g,off+i*11+10,none⟩=some (.int .i64 x2.l)/\wx.cell? ⟨g2,off2+i*11,none⟩=some (.int .i64 x2.k)/\wx.cell? ⟨g2,off2+i*11+1,none⟩=some (.string ⟨x2.nm.toArray⟩)/\wx.cell? ⟨g2,off2+i*11+2,none⟩=some (.slice aw2 x2.ws.length cw2)/\wx.cell? ⟨g2,off2+i*11+3,none⟩=some (.slice an2 x2.ns.length cn2)/\wx.cell? ⟨g2,off2+i*11+4,none⟩=some (.int .i64 x2.o)/\wx.cell? ⟨g2,off2+i*11+5,none⟩=some (.int .i64 x2.d)/\wx.cell? ⟨g2,off2+i*11+6,none⟩=some (.int .i64 x2.s)/\wx.cell? ⟨g2,off2+i*11+7,none⟩=some (.int .i64 x2.f)/\wx.cell? ⟨g2,off2+i*11+8,none⟩=some (.int .i64 x2.i)/\wx.cell? ⟨g2,off2+i*11+9,none⟩=some (.string ⟨x2.tg.toArray⟩)/\wx.cell? ⟨g2,off2+i*11+10,none⟩=some (.int .i64 x2.l)):=hidOf (fun wx o=>⟨cell_later o (h1 0 _ rfl),cell_later o (h1 1 _ rfl),cell_later o (h1 2 _ rfl),cell_later o (h1 3 _ rfl),cell_later o (h1 4 _ rfl),cell_later o (h1 5 _ rfl),cell_later o (h1 6 _ rfl),cell_later o (h1 7 _ rfl),cell_later o (h1 8 _ rfl),cell_later o (h1 9 _ rfl),cell_later o (h1 10 _ rfl),cell_later o (h2 0 _ rfl),cell_later o (h2 1 _ rfl),cell_later o (h2 2 _ rfl),cell_later o (h2 3 _ rfl),cell_later o (h2 4 _ rfl),cell_later o (h2 5 _ rfl),cell_later o (h2 6 _ rfl),cell_later o (h2 7 _ rfl),cell_later o (h2 8 _ rfl),cell_later o (h2 9 _ rfl),cell_later o (h2 10 _ rfl)⟩)
   clear h1 h2 r1 r2 r3 r4 hs1 hs2 hy hz hlz
   obtain ⟨nw,hnw⟩:∃ n,n=x2.ws.length:=⟨_,rfl⟩
   obtain ⟨nn,hnn⟩:∃ n,n=x2.ns.length:=⟨_,rfl⟩
   rw [<-hnw] at HK CS
   rw [<-hnn] at HK CS
   clear hnw hnn
   obtain ⟨xk,xnm,xws,xns,xo,xd,xs,xf,xi,xtg,xl⟩:=x2
   simp only at HK CS
   have OD:=hidOf ((Out.refl wr).drew)
   have HKr:Hid (∀ wx,Out wr wx->wx.cell? ⟨g,off+i*11,none⟩=some (.int .i64 xk)/\wx.cell? ⟨g,off+i*11+1,none⟩=some (.string ⟨xnm.toArray⟩)/\wx.cell? ⟨g,off+i*11+2,none⟩=some (.slice aw nw cw)/\wx.cell? ⟨g,off+i*11+3,none⟩=some (.slice an nn cn)/\wx.cell? ⟨g,off+i*11+4,none⟩=some (.int .i64 xo)/\wx.cell? ⟨g,off+i*11+5,none⟩=some (.int .i64 xd)/\wx.cell? ⟨g,off+i*11+6,none⟩=some (.int .i64 xs)/\wx.cell? ⟨g,off+i*11+7,none⟩=some (.int .i64 xf)/\wx.cell? ⟨g,off+i*11+8,none⟩=some (.int .i64 xi)/\wx.cell? ⟨g,off+i*11+9,none⟩=some (.string ⟨xtg.toArray⟩)/\wx.cell? ⟨g,off+i*11+10,none⟩=some (.int .i64 xl)/\wx.cell? ⟨g2,off2+i*11,none⟩=some (.int .i64 xk)/\wx.cell? ⟨g2,off2+i*11+1,none⟩=some (.string ⟨xnm.toArray⟩)/\wx.cell? ⟨g2,off2+i*11+2,none⟩=some (.slice aw2 nw cw2)/\wx.cell? ⟨g2,off2+i*11+3,none⟩=some (.slice an2 nn cn2)/\wx.cell? ⟨g2,off2+i*11+4,none⟩=some (.int .i64 xo)/\wx.cell? ⟨g2,off2+i*11+5,none⟩=some (.int .i64 xd)/\wx.cell? ⟨g2,off2+i*11+6,none⟩=some (.int .i64 xs)/\wx.cell? ⟨g2,off2+i*11+7,none⟩=some (.int .i64 xf)/\wx.cell? ⟨g2,off2+i*11+8,none⟩=some (.int .i64 xi)/\wx.cell? ⟨g2,off2+i*11+9,none⟩=some (.string ⟨xtg.toArray⟩)/\wx.cell? ⟨g2,off2+i*11+10,none⟩=some (.int .i64 xl)):=hidOf (fun wx o=>HK.out wx (Ho.out.trans o))
   clear HK
   have q:=HKr.out wr (Out.refl wr)
   obtain ⟨q0,q1,q2,q3,q4,q5,q6,q7,q8,q9,q10,q11,q12,q13,q14,q15,q16,q17,q18,q19,q20,q21⟩:=q
   go_upto_region 6 with fail
   go_region_held3 (fun wx=>wx.cell? ⟨g,off+i*11,none⟩=some (.int .i64 xk)/\wx.cell? ⟨g,off+i*11+1,none⟩=some (.string ⟨xnm.toArray⟩)/\wx.cell? ⟨g,off+i*11+2,none⟩=some (.slice aw nw cw)/\wx.cell? ⟨g,off+i*11+3,none⟩=some (.slice an nn cn)/\wx.cell? ⟨g,off+i*11+4,none⟩=some (.int .i64 xo)/\wx.cell? ⟨g,off+i*11+5,none⟩=some (.int .i64 xd)/\wx.cell? ⟨g,off+i*11+6,none⟩=some (.int .i64 xs)/\wx.cell? ⟨g,off+i*11+7,none⟩=some (.int .i64 xf)/\wx.cell? ⟨g,off+i*11+8,none⟩=some (.int .i64 xi)/\wx.cell? ⟨g,off+i*11+9,none⟩=some (.string ⟨xtg.toArray⟩)/\wx.cell? ⟨g,off+i*11+10,none⟩=some (.int .i64 xl)/\wx.cell? ⟨g2,off2+i*11,none⟩=some (.int .i64 xk)/\wx.cell? ⟨g2,off2+i*11+1,none⟩=some (.string ⟨xnm.toArray⟩)/\wx.cell? ⟨g2,off2+i*11+2,none⟩=some (.slice aw2 nw cw2)/\wx.cell? ⟨g2,off2+i*11+3,none⟩=some (.slice an2 nn cn2)/\wx.cell? ⟨g2,off2+i*11+4,none⟩=some (.int .i64 xo)/\wx.cell? ⟨g2,off2+i*11+5,none⟩=some (.int .i64 xd)/\wx.cell? ⟨g2,off2+i*11+6,none⟩=some (.int .i64 xs)/\wx.cell? ⟨g2,off2+i*11+7,none⟩=some (.int .i64 xf)/\wx.cell? ⟨g2,off2+i*11+8,none⟩=some (.int .i64 xi)/\wx.cell? ⟨g2,off2+i*11+9,none⟩=some (.string ⟨xtg.toArray⟩)/\wx.cell? ⟨g2,off2+i*11+10,none⟩=some (.int .i64 xl)) (first | with_reducible exact HKr.out _ (Hid.out (by assumption)) | fail) (first | (go_at_call 21;refine (CS.out _ (Hid.out (by assumption))).mono ?_;rintro e w1 ⟨rfl,hO1⟩;have HO1:=hidOf (OD.out.trans hO1);clear hO1) | fail)
   go_wp2
   exact ⟨⟨i+1,by simp,by omega,hidOf (Ho.out.trans HO1.out)⟩,by simp [intOf];omega⟩
  ·
   have hlt:¬(i:Int)<n:=by omega
   go_wp2
   go_ret
   exact ⟨rfl,Ho.out⟩
theorem infoS6:(Tryz.prog.info? 9).map (fun i=>(i.zero,i.size,i.bytes))=some (some (.string ⟨#[]⟩),1,16):=by kernel_rfl
theorem infoI6:(Tryz.prog.info? 3).map (fun i=>(i.zero,i.size,i.bytes))=some (some (.int .i64 0),1,8):=by kernel_rfl
def StmI (x:Stm):Prop:=x.nm.length<=140737488355328/\x.tg.length<=140737488355328/\I64 x.f/\I64 x.i
theorem word_nm {x:List UInt8} (h:Lx.wordP x=true):isNmP x=true:=by
 have hl:=Lx.word_len h
 have m1:Lx.mayP ⟨1,x,0,0⟩=0:=by
  unfold Lx.mayP
  rw [if_pos rfl]
  simp only
  rw [h]
  rfl
 have hu:∃ s:Lx.WS,Lx.unF true ⟨[],0,0⟩ (nmT x)=(0,s)/\s.size<=16777216:=by
  unfold nmT
  have t1:(⟨[],0,0⟩:Lx.WS).tok ⟨1,x,0,0⟩=(⟨[],0,0⟩:Lx.WS).piece x:=by
   unfold Lx.WS.tok
   rw [if_pos (.inl rfl)]
  obtain ⟨hok,hsz⟩:=Lx.WS.Ok.piece (s:=⟨[],0,0⟩) ⟨by decide,by decide,by decide⟩ x
  generalize hS:(⟨[],0,0⟩:Lx.WS).piece x=S at *
  have hli:=hok.li
  simp only at hsz
  have m5:Lx.mayP ⟨5,[],0,0⟩=0:=by decide
  have m0:Lx.mayP ⟨0,[],0,0⟩=0:=by decide
  refine ⟨⟨(S.put [10]).l,(S.put [10]).size,0⟩, ?_, ?_⟩
  ·
   unfold Lx.unF
   rw [if_pos m1]
   simp only
   rw [if_neg (fun h=>absurd h.1 (by decide)),if_neg (fun h=>absurd h.1 (by decide)),t1]
   unfold Lx.unF
   rw [if_pos m5]
   simp only
   rw [if_neg (fun h=>absurd h.1 (by decide)),if_neg (fun h=>by have:=h.2;omega)]
   have t5:S.tok ⟨5,[],0,0⟩=⟨(S.put [10]).l,(S.put [10]).size,0⟩:=by
    unfold Lx.WS.tok
    rw [if_neg (by decide),if_neg (by decide),if_pos rfl]
   rw [t5]
   unfold Lx.unF
   rw [if_pos m0]
   simp only
   rw [if_neg (fun h=>h.2 ⟨by trivial,by decide⟩),if_neg (fun h=>absurd h.1 (by decide))]
   unfold Lx.unF Lx.WS.tok
   rw [if_neg (by decide),if_neg (by decide),if_neg (by decide)]
  ·
   show S.size+1<=16777216
   omega
 obtain ⟨s,hs,hz⟩:=hu
 unfold isNmP Lx.untokP
 rw [hs]
 simp only
 rw [if_pos trivial,if_pos (show Lx.lastK (nmT x)=some 0 from rfl),if_pos hz]
 rfl
end Go.Proofs.YtadneimllbfdnaaGreatDoor
namespace Go.Proofs.YtadneimllbfdnaaGreatDoor
open Go.ChangeShapes Go.WideShapes Go.ChangeAt Go.RowKit
set_option linter.unusedVariables false
theorem cInsn:Tryz.prog.cellsOf 40 = 5:=by kernel_rfl
theorem wfI64 {n:Int} (h:(Lit.int .i64 n).wf=true):I64 n:=by
 simp [Lit.wf,IntKind.min,IntKind.max,IntKind.bits,IntKind.signed] at h
 unfold I64
 omega
end Go.Proofs.YtadneimllbfdnaaGreatDoor
namespace Go.Proofs.YtadneimllbfdnaaGreatDoor
open Go.ChangeShapes Go.WideShapes Go.ChangeAt Go.RowKit Go.Deep
set_option linter.unusedVariables false
set_option linter.unusedSimpArgs false
theorem cSt6:Tryz.prog.cellsOf 42 = 11:=by kernel_rfl
theorem cInt6:Tryz.prog.cellsOf 3 = 1:=by kernel_rfl
theorem cStr6:Tryz.prog.cellsOf 9 = 1:=by kernel_rfl
theorem cSs6:Tryz.prog.cellsOf 37 = 1:=by kernel_rfl
theorem cIs6:Tryz.prog.cellsOf 38 = 1:=by kernel_rfl
end Go.Proofs.YtadneimllbfdnaaGreatDoor
namespace Go.Proofs.YtadneimllbfdnaaGreatDoor
open Go.RowKit
set_option linter.unusedVariables false
set_option linter.unusedSimpArgs false
theorem wImm_l4 (o i:Int):(wImm o i).length<=400:=by
 unfold wImm
 cases hf:immT.find? (fun r=>o == r.1 && i == r.2.1) with
 | none=>simp
 | some r=>exact (show ∀ r ∈ immT,r.2.2.length<=400 by decide) r (List.mem_of_find?_eq_some hf)
theorem wOff_l4 (o f:Int):(wOff o f).length<=400:=by
 unfold wOff
 cases hf:offT.find? (fun r=>bits .or .i64 o 8 == bits .or .i64 r.1 8 && f == r.2.1) with
 | none=>simp
 | some r=>exact (show ∀ r ∈ offT,r.2.2.length<=400 by decide) r (List.mem_of_find?_eq_some hf)
theorem getD_l4 (l:List (List UInt8)) (h:∀ x ∈ l,x.length<=400) (j:Nat):(l.getD j []).length<=400:=by
 rw [List.getD_eq_getElem?_getD]
 cases hj:l[j]? with
 | none=>simp
 | some x=>exact h x (List.mem_of_getElem? hj)
theorem wMem_l4 (o i:Int):(wMem o i).length<=400:=by
 unfold wMem
 cases hf:memT.find? (fun r=>bits .andNot .i64 o 24 == r.1) with
 | none=>exact wImm_l4 o i
 | some r=>exact getD_l4 _ ((show ∀ r ∈ memT,∀ x ∈ r.2,x.length<=400 by decide) r (List.mem_of_find?_eq_some hf)) _
theorem pick2_l4 (T:List (List UInt8 × List UInt8)) (h:∀ r ∈ T,r.1.length<=400/\r.2.length<=400) (k:Nat) (b:Bool):(pick2 T k b).length<=400:=by
 unfold pick2
 cases hk:T[k]? with
 | none=>simp
 | some r=>cases b;exact (h r (List.mem_of_getElem? hk)).1;exact (h r (List.mem_of_getElem? hk)).2
theorem wReck_l4 (o f i:Int):(wReck o f i).length<=400:=by
 unfold wReck
 split
 ·
  split
  · exact wImm_l4 o i
  · exact pick2_l4 reckT (by decide) _ _
 · exact wOff_l4 o f
theorem wordP_l4 (o s f i:Int):(wordP o s f i).length<=400:=by
 unfold wordP
 split
 · split <;> simp
 split
 · exact wReck_l4 o f i
 split
 · exact wReck_l4 o f i
 split
 · exact pick2_l4 jumpT (by decide) _ _
 split
 · exact pick2_l4 jumpT (by decide) _ _
 exact wMem_l4 o i
theorem place_l4 (k:Nat) (f:Int) (hf:I64 f):(placeTx k f).length<=400:=by
 unfold placeTx
 have:=regL_len k
 have:=itoa_len f hf
 have:(if 0<=f then [43] else []:List UInt8).length<=1:=by split <;> simp
 simp only [List.length_cons,List.length_append,List.length_nil]
 omega
theorem opdTx_l4 (o d s f i c:Int) (t:List UInt8) (hf:I64 f) (hi:I64 i) (ht:t.length<=64):(opdTx o d s f i t c).length<=400:=by
 have h1:=regL_len d.toNat
 have h2:=regL_len s.toNat
 have h3:=itoa_len i hi
 have h5:=place_l4 s.toNat f hf
 have h6:=place_l4 d.toNat f hf
 unfold opdTx
 repeat' split
 all_goals omega
theorem name_l4 {t:List UInt8} (h:nameP t=true):t.length<=64:=by
 simp only [nameP,Bool.and_eq_true,decide_eq_true_eq] at h
 omega
theorem tfit_l4 {o s f i:Int} {t:List UInt8} (h:tfitP o s f i t=true):t.length<=64:=by
 unfold tfitP at h
 repeat' split at h
 all_goals first
  | (simp only [Bool.and_eq_true] at h;exact name_l4 h.1.1)
  | (simp only [Bool.and_eq_true] at h;exact name_l4 h.1)
  | (rw [List.isEmpty_iff] at h;rw [h];simp)
theorem line_l4 (o d s f i:Int) (t:List UInt8) (hf:I64 f) (hi:I64 i) (ht:t.length<=64):(lineP o d s f i t).length<=1999:=by
 have h0:=wordP_l4 o s f i
 have h1:=opdTx_l4 o d s f i (tOf o s f).1 t hf hi ht
 have h2:=opdTx_l4 o d s f i (tOf o s f).2.1 t hf hi ht
 have h3:=opdTx_l4 o d s f i (tOf o s f).2.2 t hf hi ht
 unfold lineP tailP
 repeat' split
 all_goals simp only [List.length_append,List.length_cons,List.length_nil]
 all_goals omega
theorem isNm_l4 {x:List UInt8} (h:isNmP x=true):x.length<=64:=by
 have:=nm_word h
 unfold Lx.wordP at this
 rw [Bool.and_eq_true,Bool.and_eq_true,decide_eq_true_eq] at this
 exact this.1.1
theorem dd_l4 {a:Int} (h:0<=a/\a<=2147483647):(Lib.decDigits a.toNat).length<=10:=dd_len 9 _ (by omega)
theorem tkn_l4 {y:List UInt8} (h:tknQ y=true):y.length<=64:=by
 simp only [tknQ,Bool.or_eq_true,beq_iff_eq] at h
 rcases h with h | h <;> rw [h] <;> decide
theorem tb_l4 {x:Stm} (hn:x.nm.length<=64):(tbLn x).1.length<=1999:=by
 unfold tbLn
 split
 ·
  split
  ·
   rename_i h
   obtain ⟨h1,h2,h3,h4⟩:=h
   have:=dd_l4 h2
   have:=dd_l4 h3
   have:=dd_l4 h4
   have:=tkn_l4 h1
   simp only [List.length_append,List.length_cons,List.length_nil,mapB]
   omega
  · simp
 · simp
theorem ln_l4 {x:Stm} (hf:I64 x.f) (hi:I64 x.i) (h:(lnA x).2=0):(lnA x).1.length<=1999:=by
 unfold lnA at h ⊢
 by_cases c1:x.k=6/\x.nm=[]/\x.ws=[]/\x.ns=[]
 ·
  rw [if_pos c1]
  unfold printP
  by_cases m:mayP x.o x.d x.s x.f x.i=0
  ·
   rw [if_pos m]
   by_cases tf:tfitP x.o x.s x.f x.i x.tg=true
   ·
    rw [if_pos tf]
    exact line_l4 _ _ _ _ _ _ hf hi (tfit_l4 tf)
   · rw [if_neg tf];simp
  · rw [if_neg m];simp
 ·
  rw [if_neg c1]
  by_cases c2:(!insZ x || !x.tg.isEmpty)=true
  · rw [if_pos c2];simp
  rw [if_neg c2]
  by_cases c3:isNmP x.nm=false
  · rw [if_pos c3];simp
  rw [if_neg c3]
  have hn:=isNm_l4 (by simpa using c3:isNmP x.nm=true)
  by_cases c5:x.k=5
  · rw [if_pos c5];exact tb_l4 hn
  rw [if_neg c5]
  split
  · simp
  ·
   unfold nmLn
   repeat' split
   all_goals simp [funcB,globB,extB]
   all_goals omega
end Go.Proofs.YtadneimllbfdnaaGreatDoor
