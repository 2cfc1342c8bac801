import Derived.Test.YtadneimllbfdnaaGreatDoorGu44
import Derived.Test.YtadneimllbfdnaaGreatDoorGu45
import Derived.Test.YtadneimllbfdnaaGreatDoorGu46
namespace Go.Proofs.YtadneimllbfdnaaGreatDoor
open Go.RowKit
set_option linter.unusedVariables false
set_option linter.unusedSimpArgs false
set_option maxRecDepth 20000 in
set_option maxHeartbeats 2000000 in
theorem one_out (x:Stm) (aw an:Option Addr) (cw cn:Nat) (w:World) (h:x.k<1\/6<x.k):Calls Tryz.prog 18 #[.agg #[.int .i64 x.k,.string ⟨x.nm.toArray⟩,.slice aw x.ws.length cw,.slice an x.ns.length cn,.int .i64 x.o,.int .i64 x.d,.int .i64 x.s,.int .i64 x.f,.int .i64 x.i,.string ⟨x.tg.toArray⟩,.int .i64 x.l]] w fun e w'=>e=.returned (.tuple #[.string ⟨#[]⟩,.int .i64 60])/\Out w w':=by
 obtain ⟨w1,hw1⟩:∃ w1,w1=w.alloc (.cells #[.int .i64 x.k,.string ⟨x.nm.toArray⟩,.slice aw x.ws.length cw,.slice an x.ns.length cn,.int .i64 x.o,.int .i64 x.d,.int .i64 x.s,.int .i64 x.f,.int .i64 x.i,.string ⟨x.tg.toArray⟩,.int .i64 x.l] 42):=⟨_,rfl⟩
 have O1:Hid (Out w w1):=hidOf (by rw [hw1];exact (Out.refl w).alloc _)
 have b1':w1.heap[w.heap.size]? = some (.cells #[.int .i64 x.k,.string ⟨x.nm.toArray⟩,.slice aw x.ws.length cw,.slice an x.ns.length cn,.int .i64 x.o,.int .i64 x.d,.int .i64 x.s,.int .i64 x.f,.int .i64 x.i,.string ⟨x.tg.toArray⟩,.int .i64 x.l] 42 (0,0)):=by rw [hw1];exact heap_alloc_new w _
 have BL:Hid (∀ wx,Out w1 wx->wx.heap[w.heap.size]? = some (.cells #[.int .i64 x.k,.string ⟨x.nm.toArray⟩,.slice aw x.ws.length cw,.slice an x.ns.length cn,.int .i64 x.o,.int .i64 x.d,.int .i64 x.s,.int .i64 x.f,.int .i64 x.i,.string ⟨x.tg.toArray⟩,.int .i64 x.l] 42 (0,0))):=hidOf (fun wx o=>(o.block _ (Array.getElem?_eq_some_iff.1 b1').1).trans b1')
 have Hw1:=hidOf hw1
 clear hw1 b1'
 have c0:w1.cell? ⟨w.heap.size,0,none⟩=some (.int .i64 x.k):=by rw [cell_atL (BL.out _ (Out.refl w1))];rfl
 have c1:w1.cell? ⟨w.heap.size,1,none⟩=some (.string ⟨x.nm.toArray⟩):=by rw [cell_atL (BL.out _ (Out.refl w1))];rfl
 have c2:w1.cell? ⟨w.heap.size,2,none⟩=some (.slice aw x.ws.length cw):=by rw [cell_atL (BL.out _ (Out.refl w1))];rfl
 have c3:w1.cell? ⟨w.heap.size,3,none⟩=some (.slice an x.ns.length cn):=by rw [cell_atL (BL.out _ (Out.refl w1))];rfl
 have c4:w1.cell? ⟨w.heap.size,4,none⟩=some (.int .i64 x.o):=by rw [cell_atL (BL.out _ (Out.refl w1))];rfl
 have c5:w1.cell? ⟨w.heap.size,5,none⟩=some (.int .i64 x.d):=by rw [cell_atL (BL.out _ (Out.refl w1))];rfl
 have c6:w1.cell? ⟨w.heap.size,6,none⟩=some (.int .i64 x.s):=by rw [cell_atL (BL.out _ (Out.refl w1))];rfl
 have c7:w1.cell? ⟨w.heap.size,7,none⟩=some (.int .i64 x.f):=by rw [cell_atL (BL.out _ (Out.refl w1))];rfl
 have c8:w1.cell? ⟨w.heap.size,8,none⟩=some (.int .i64 x.i):=by rw [cell_atL (BL.out _ (Out.refl w1))];rfl
 have c9:w1.cell? ⟨w.heap.size,9,none⟩=some (.string ⟨x.tg.toArray⟩):=by rw [cell_atL (BL.out _ (Out.refl w1))];rfl
 have c10:w1.cell? ⟨w.heap.size,10,none⟩=some (.int .i64 x.l):=by rw [cell_atL (BL.out _ (Out.refl w1))];rfl
 rcases h with h | h
 ·
  have h1:x.k<1:=h
  go_enter Tryz.func18,Tryz.ntmps18
  go_upto_region 1 with fail
  rw [<-Hw1.out]
  go_wp2
  go_ret2
  exact ⟨rfl,O1.out⟩
 ·
  have h1:¬x.k<1:=by omega
  have h2:6<x.k:=h
  go_enter Tryz.func18,Tryz.ntmps18
  go_upto_region 1 with fail
  rw [<-Hw1.out]
  go_wp2
  go_ret2
  exact ⟨rfl,O1.out⟩
set_option maxRecDepth 20000 in
set_option maxHeartbeats 2000000 in
theorem one_bare (x:Stm) (aw an:Option Addr) (cw cn:Nat) (w:World) (h1:¬x.k<1) (h2:¬6<x.k) (hb:bareP x x.ws.length x.ns.length x.k=false):Calls Tryz.prog 18 #[.agg #[.int .i64 x.k,.string ⟨x.nm.toArray⟩,.slice aw x.ws.length cw,.slice an x.ns.length cn,.int .i64 x.o,.int .i64 x.d,.int .i64 x.s,.int .i64 x.f,.int .i64 x.i,.string ⟨x.tg.toArray⟩,.int .i64 x.l]] w fun e w'=>e=.returned (.tuple #[.string ⟨#[]⟩,.int .i64 60])/\Out w w':=by
 have CB:=hidOf (bare_any x aw an x.ws.length cw x.ns.length cn x.k)
 rw [hb] at CB
 clear hb
 obtain ⟨w1,hw1⟩:∃ w1,w1=w.alloc (.cells #[.int .i64 x.k,.string ⟨x.nm.toArray⟩,.slice aw x.ws.length cw,.slice an x.ns.length cn,.int .i64 x.o,.int .i64 x.d,.int .i64 x.s,.int .i64 x.f,.int .i64 x.i,.string ⟨x.tg.toArray⟩,.int .i64 x.l] 42):=⟨_,rfl⟩
 have O1:Hid (Out w w1):=hidOf (by rw [hw1];exact (Out.refl w).alloc _)
 have b1':w1.heap[w.heap.size]? = some (.cells #[.int .i64 x.k,.string ⟨x.nm.toArray⟩,.slice aw x.ws.length cw,.slice an x.ns.length cn,.int .i64 x.o,.int .i64 x.d,.int .i64 x.s,.int .i64 x.f,.int .i64 x.i,.string ⟨x.tg.toArray⟩,.int .i64 x.l] 42 (0,0)):=by rw [hw1];exact heap_alloc_new w _
 have BL:Hid (∀ wx,Out w1 wx->wx.heap[w.heap.size]? = some (.cells #[.int .i64 x.k,.string ⟨x.nm.toArray⟩,.slice aw x.ws.length cw,.slice an x.ns.length cn,.int .i64 x.o,.int .i64 x.d,.int .i64 x.s,.int .i64 x.f,.int .i64 x.i,.string ⟨x.tg.toArray⟩,.int .i64 x.l] 42 (0,0))):=hidOf (fun wx o=>(o.block _ (Array.getElem?_eq_some_iff.1 b1').1).trans b1')
 have Hw1:=hidOf hw1
 clear hw1 b1'
 have c0:w1.cell? ⟨w.heap.size,0,none⟩=some (.int .i64 x.k):=by rw [cell_atL (BL.out _ (Out.refl w1))];rfl
 have c1:w1.cell? ⟨w.heap.size,1,none⟩=some (.string ⟨x.nm.toArray⟩):=by rw [cell_atL (BL.out _ (Out.refl w1))];rfl
 have c2:w1.cell? ⟨w.heap.size,2,none⟩=some (.slice aw x.ws.length cw):=by rw [cell_atL (BL.out _ (Out.refl w1))];rfl
 have c3:w1.cell? ⟨w.heap.size,3,none⟩=some (.slice an x.ns.length cn):=by rw [cell_atL (BL.out _ (Out.refl w1))];rfl
 have c4:w1.cell? ⟨w.heap.size,4,none⟩=some (.int .i64 x.o):=by rw [cell_atL (BL.out _ (Out.refl w1))];rfl
 have c5:w1.cell? ⟨w.heap.size,5,none⟩=some (.int .i64 x.d):=by rw [cell_atL (BL.out _ (Out.refl w1))];rfl
 have c6:w1.cell? ⟨w.heap.size,6,none⟩=some (.int .i64 x.s):=by rw [cell_atL (BL.out _ (Out.refl w1))];rfl
 have c7:w1.cell? ⟨w.heap.size,7,none⟩=some (.int .i64 x.f):=by rw [cell_atL (BL.out _ (Out.refl w1))];rfl
 have c8:w1.cell? ⟨w.heap.size,8,none⟩=some (.int .i64 x.i):=by rw [cell_atL (BL.out _ (Out.refl w1))];rfl
 have c9:w1.cell? ⟨w.heap.size,9,none⟩=some (.string ⟨x.tg.toArray⟩):=by rw [cell_atL (BL.out _ (Out.refl w1))];rfl
 have c10:w1.cell? ⟨w.heap.size,10,none⟩=some (.int .i64 x.l):=by rw [cell_atL (BL.out _ (Out.refl w1))];rfl
 go_enter Tryz.func18,Tryz.ntmps18
 go_upto_region 1 with fail
 rw [<-Hw1.out]
 go_wp2_with (go_at_call 36;refine (CB.out _).mono ?_;rintro e w2 ⟨rfl,ho⟩;have O2:=hidOf ho;clear ho)
 go_ret2
 exact ⟨rfl,O1.out.trans O2.out⟩
set_option maxRecDepth 20000 in
set_option maxHeartbeats 2000000 in
theorem one_insn (x:Stm) (aw an:Option Addr) (cw cn:Nat) (w:World) (h6:x.k=6) (hb:bareP x x.ws.length x.ns.length x.k=true) (ht:x.tg.length<=140737488355328) (ho:I64 x.o) (hf:I64 x.f) (hi:I64 x.i):Calls Tryz.prog 18 #[.agg #[.int .i64 x.k,.string ⟨x.nm.toArray⟩,.slice aw x.ws.length cw,.slice an x.ns.length cn,.int .i64 x.o,.int .i64 x.d,.int .i64 x.s,.int .i64 x.f,.int .i64 x.i,.string ⟨x.tg.toArray⟩,.int .i64 x.l]] w fun e w'=>e=.returned (.tuple #[.string ⟨(printP x.o x.d x.s x.f x.i x.tg).1.toArray⟩,.int .i64 (printP x.o x.d x.s x.f x.i x.tg).2])/\Out w w':=by
 have CB:=hidOf (bare_any x aw an x.ws.length cw x.ns.length cn x.k)
 rw [hb] at CB
 have CP:Hid (∀ wx,Calls Tryz.prog 37 #[.agg #[.int .i64 x.o,.int .i64 x.d,.int .i64 x.s,.int .i64 x.f,.int .i64 x.i],.string ⟨x.tg.toArray⟩] wx fun e w'=>e=.returned (.tuple #[.string ⟨(printP x.o x.d x.s x.f x.i x.tg).1.toArray⟩,.int .i64 (printP x.o x.d x.s x.f x.i x.tg).2])/\Out wx w'):=hidOf (fun wx=>by
  have:=rprint4_any x.o x.d x.s x.f x.i x.tg ht ho.1 ho.2 hf.1 hf.2 hi.1 hi.2 wx
  rw [rprint_eq] at this
  exact this)
 generalize printP x.o x.d x.s x.f x.i x.tg=z at *
 have h1:¬x.k<1:=by omega
 have h2:¬6<x.k:=by omega
 have k6:(x.k == 6)=true:=by simp [h6]
 clear hb ht ho hf hi h6
 obtain ⟨w1,hw1⟩:∃ w1,w1=w.alloc (.cells #[.int .i64 x.k,.string ⟨x.nm.toArray⟩,.slice aw x.ws.length cw,.slice an x.ns.length cn,.int .i64 x.o,.int .i64 x.d,.int .i64 x.s,.int .i64 x.f,.int .i64 x.i,.string ⟨x.tg.toArray⟩,.int .i64 x.l] 42):=⟨_,rfl⟩
 have O1:Hid (Out w w1):=hidOf (by rw [hw1];exact (Out.refl w).alloc _)
 have b1':w1.heap[w.heap.size]? = some (.cells #[.int .i64 x.k,.string ⟨x.nm.toArray⟩,.slice aw x.ws.length cw,.slice an x.ns.length cn,.int .i64 x.o,.int .i64 x.d,.int .i64 x.s,.int .i64 x.f,.int .i64 x.i,.string ⟨x.tg.toArray⟩,.int .i64 x.l] 42 (0,0)):=by rw [hw1];exact heap_alloc_new w _
 have BL:Hid (∀ wx,Out w1 wx->wx.heap[w.heap.size]? = some (.cells #[.int .i64 x.k,.string ⟨x.nm.toArray⟩,.slice aw x.ws.length cw,.slice an x.ns.length cn,.int .i64 x.o,.int .i64 x.d,.int .i64 x.s,.int .i64 x.f,.int .i64 x.i,.string ⟨x.tg.toArray⟩,.int .i64 x.l] 42 (0,0))):=hidOf (fun wx o=>(o.block _ (Array.getElem?_eq_some_iff.1 b1').1).trans b1')
 have Hw1:=hidOf hw1
 clear hw1 b1'
 have c0:w1.cell? ⟨w.heap.size,0,none⟩=some (.int .i64 x.k):=by rw [cell_atL (BL.out _ (Out.refl w1))];rfl
 have c1:w1.cell? ⟨w.heap.size,1,none⟩=some (.string ⟨x.nm.toArray⟩):=by rw [cell_atL (BL.out _ (Out.refl w1))];rfl
 have c2:w1.cell? ⟨w.heap.size,2,none⟩=some (.slice aw x.ws.length cw):=by rw [cell_atL (BL.out _ (Out.refl w1))];rfl
 have c3:w1.cell? ⟨w.heap.size,3,none⟩=some (.slice an x.ns.length cn):=by rw [cell_atL (BL.out _ (Out.refl w1))];rfl
 have c4:w1.cell? ⟨w.heap.size,4,none⟩=some (.int .i64 x.o):=by rw [cell_atL (BL.out _ (Out.refl w1))];rfl
 have c5:w1.cell? ⟨w.heap.size,5,none⟩=some (.int .i64 x.d):=by rw [cell_atL (BL.out _ (Out.refl w1))];rfl
 have c6:w1.cell? ⟨w.heap.size,6,none⟩=some (.int .i64 x.s):=by rw [cell_atL (BL.out _ (Out.refl w1))];rfl
 have c7:w1.cell? ⟨w.heap.size,7,none⟩=some (.int .i64 x.f):=by rw [cell_atL (BL.out _ (Out.refl w1))];rfl
 have c8:w1.cell? ⟨w.heap.size,8,none⟩=some (.int .i64 x.i):=by rw [cell_atL (BL.out _ (Out.refl w1))];rfl
 have c9:w1.cell? ⟨w.heap.size,9,none⟩=some (.string ⟨x.tg.toArray⟩):=by rw [cell_atL (BL.out _ (Out.refl w1))];rfl
 have c10:w1.cell? ⟨w.heap.size,10,none⟩=some (.int .i64 x.l):=by rw [cell_atL (BL.out _ (Out.refl w1))];rfl
 go_enter Tryz.func18,Tryz.ntmps18
 go_upto_region 1 with fail
 rw [<-Hw1.out]
 go_upto_region 3 with (go_at_call 36;refine (CB.out _).mono ?_;rintro e w2 ⟨rfl,ho⟩;have O2:=hidOf ho;clear ho)
 clear c0 c1 c2 c3 c4 c5 c6 c7 c8 c9 c10
 have e0:w2.cell? ⟨w.heap.size,0,none⟩=some (.int .i64 x.k):=by rw [cell_atL (BL.out _ O2.out)];rfl
 have e1:w2.cell? ⟨w.heap.size,1,none⟩=some (.string ⟨x.nm.toArray⟩):=by rw [cell_atL (BL.out _ O2.out)];rfl
 have e2:w2.cell? ⟨w.heap.size,2,none⟩=some (.slice aw x.ws.length cw):=by rw [cell_atL (BL.out _ O2.out)];rfl
 have e3:w2.cell? ⟨w.heap.size,3,none⟩=some (.slice an x.ns.length cn):=by rw [cell_atL (BL.out _ O2.out)];rfl
 have e4:w2.cell? ⟨w.heap.size,4,none⟩=some (.int .i64 x.o):=by rw [cell_atL (BL.out _ O2.out)];rfl
 have e5:w2.cell? ⟨w.heap.size,5,none⟩=some (.int .i64 x.d):=by rw [cell_atL (BL.out _ O2.out)];rfl
 have e6:w2.cell? ⟨w.heap.size,6,none⟩=some (.int .i64 x.s):=by rw [cell_atL (BL.out _ O2.out)];rfl
 have e7:w2.cell? ⟨w.heap.size,7,none⟩=some (.int .i64 x.f):=by rw [cell_atL (BL.out _ O2.out)];rfl
 have e8:w2.cell? ⟨w.heap.size,8,none⟩=some (.int .i64 x.i):=by rw [cell_atL (BL.out _ O2.out)];rfl
 have e9:w2.cell? ⟨w.heap.size,9,none⟩=some (.string ⟨x.tg.toArray⟩):=by rw [cell_atL (BL.out _ O2.out)];rfl
 have e10:w2.cell? ⟨w.heap.size,10,none⟩=some (.int .i64 x.l):=by rw [cell_atL (BL.out _ O2.out)];rfl
 go_wp2_with (go_at_call 37;refine (CP.out _).mono ?_;rintro e w3 ⟨rfl,ho⟩;have O3:=hidOf (O2.out.trans ho);clear ho)
 go_ret2
 exact ⟨rfl,O1.out.trans O3.out⟩
set_option maxRecDepth 20000 in
set_option maxHeartbeats 2000000 in
theorem one_glob (x:Stm) (aw an:Option Addr) (cw cn:Nat) (w:World) (hk:x.k=3) (hb:bareP x x.ws.length x.ns.length x.k=true) (hx:x.nm.length<=1000) (hn:nameP x.nm=true):Calls Tryz.prog 18 #[.agg #[.int .i64 x.k,.string ⟨x.nm.toArray⟩,.slice aw x.ws.length cw,.slice an x.ns.length cn,.int .i64 x.o,.int .i64 x.d,.int .i64 x.s,.int .i64 x.f,.int .i64 x.i,.string ⟨x.tg.toArray⟩,.int .i64 x.l]] w fun e w'=>e=.returned (.tuple #[.string ⟨(globB++[32]++x.nm).toArray⟩,.int .i64 0])/\Out w w':=by
 obtain ⟨k,nm,ws,ns,o,d,s,f,i,tg,l⟩:=x
 simp only at hk hx hn hb ⊢
 subst hk
 have CB:=hidOf (bare_any ⟨3,nm,ws,ns,o,d,s,f,i,tg,l⟩ aw an ws.length cw ns.length cn 3)
 simp only at CB
 rw [hb] at CB
 have CN:=hidOf (fun wx=>name4_any nm wx (by omega))
 rw [hn] at CN
 have a1:∀ wx,(Op.stringOp .add ⟨#[46,103,108,111,98,97,108,32]⟩ ⟨nm.toArray⟩).run Tryz.prog wx=.ok (.string ⟨(globB++[32]++nm).toArray⟩) wx:=fun wx=>add_l4 (globB++[32]) nm _ rfl (by simp [globB];omega) wx
 generalize (globB++[32]++nm)=T at *
 clear hb hx hn
 obtain ⟨w1,hw1⟩:∃ w1,w1=w.alloc (.cells #[.int .i64 3,.string ⟨nm.toArray⟩,.slice aw ws.length cw,.slice an ns.length cn,.int .i64 o,.int .i64 d,.int .i64 s,.int .i64 f,.int .i64 i,.string ⟨tg.toArray⟩,.int .i64 l] 42):=⟨_,rfl⟩
 have O1:Hid (Out w w1):=hidOf (by rw [hw1];exact (Out.refl w).alloc _)
 have b1':w1.heap[w.heap.size]? = some (.cells #[.int .i64 3,.string ⟨nm.toArray⟩,.slice aw ws.length cw,.slice an ns.length cn,.int .i64 o,.int .i64 d,.int .i64 s,.int .i64 f,.int .i64 i,.string ⟨tg.toArray⟩,.int .i64 l] 42 (0,0)):=by rw [hw1];exact heap_alloc_new w _
 have BL:Hid (∀ wx,Out w1 wx->wx.heap[w.heap.size]? = some (.cells #[.int .i64 3,.string ⟨nm.toArray⟩,.slice aw ws.length cw,.slice an ns.length cn,.int .i64 o,.int .i64 d,.int .i64 s,.int .i64 f,.int .i64 i,.string ⟨tg.toArray⟩,.int .i64 l] 42 (0,0))):=hidOf (fun wx o=>(o.block _ (Array.getElem?_eq_some_iff.1 b1').1).trans b1')
 have Hw1:=hidOf hw1
 clear hw1 b1'
 have c0:w1.cell? ⟨w.heap.size,0,none⟩=some (.int .i64 3):=by rw [cell_atL (BL.out _ (Out.refl w1))];rfl
 have c1:w1.cell? ⟨w.heap.size,1,none⟩=some (.string ⟨nm.toArray⟩):=by rw [cell_atL (BL.out _ (Out.refl w1))];rfl
 have c2:w1.cell? ⟨w.heap.size,2,none⟩=some (.slice aw ws.length cw):=by rw [cell_atL (BL.out _ (Out.refl w1))];rfl
 have c3:w1.cell? ⟨w.heap.size,3,none⟩=some (.slice an ns.length cn):=by rw [cell_atL (BL.out _ (Out.refl w1))];rfl
 have c4:w1.cell? ⟨w.heap.size,4,none⟩=some (.int .i64 o):=by rw [cell_atL (BL.out _ (Out.refl w1))];rfl
 have c5:w1.cell? ⟨w.heap.size,5,none⟩=some (.int .i64 d):=by rw [cell_atL (BL.out _ (Out.refl w1))];rfl
 have c6:w1.cell? ⟨w.heap.size,6,none⟩=some (.int .i64 s):=by rw [cell_atL (BL.out _ (Out.refl w1))];rfl
 have c7:w1.cell? ⟨w.heap.size,7,none⟩=some (.int .i64 f):=by rw [cell_atL (BL.out _ (Out.refl w1))];rfl
 have c8:w1.cell? ⟨w.heap.size,8,none⟩=some (.int .i64 i):=by rw [cell_atL (BL.out _ (Out.refl w1))];rfl
 have c9:w1.cell? ⟨w.heap.size,9,none⟩=some (.string ⟨tg.toArray⟩):=by rw [cell_atL (BL.out _ (Out.refl w1))];rfl
 have c10:w1.cell? ⟨w.heap.size,10,none⟩=some (.int .i64 l):=by rw [cell_atL (BL.out _ (Out.refl w1))];rfl
 go_enter Tryz.func18,Tryz.ntmps18
 go_upto_region 1 with fail
 rw [<-Hw1.out]
 go_upto_region 3 with (go_at_call 36;refine (CB.out _).mono ?_;rintro e w2 ⟨rfl,ho⟩;have O2:=hidOf ho;clear ho)
 clear c0 c1 c2 c3 c4 c5 c6 c7 c8 c9 c10
 have e0:w2.cell? ⟨w.heap.size,0,none⟩=some (.int .i64 3):=by rw [cell_atL (BL.out _ O2.out)];rfl
 have e1:w2.cell? ⟨w.heap.size,1,none⟩=some (.string ⟨nm.toArray⟩):=by rw [cell_atL (BL.out _ O2.out)];rfl
 have e2:w2.cell? ⟨w.heap.size,2,none⟩=some (.slice aw ws.length cw):=by rw [cell_atL (BL.out _ O2.out)];rfl
 have e3:w2.cell? ⟨w.heap.size,3,none⟩=some (.slice an ns.length cn):=by rw [cell_atL (BL.out _ O2.out)];rfl
 have e4:w2.cell? ⟨w.heap.size,4,none⟩=some (.int .i64 o):=by rw [cell_atL (BL.out _ O2.out)];rfl
 have e5:w2.cell? ⟨w.heap.size,5,none⟩=some (.int .i64 d):=by rw [cell_atL (BL.out _ O2.out)];rfl
 have e6:w2.cell? ⟨w.heap.size,6,none⟩=some (.int .i64 s):=by rw [cell_atL (BL.out _ O2.out)];rfl
 have e7:w2.cell? ⟨w.heap.size,7,none⟩=some (.int .i64 f):=by rw [cell_atL (BL.out _ O2.out)];rfl
 have e8:w2.cell? ⟨w.heap.size,8,none⟩=some (.int .i64 i):=by rw [cell_atL (BL.out _ O2.out)];rfl
 have e9:w2.cell? ⟨w.heap.size,9,none⟩=some (.string ⟨tg.toArray⟩):=by rw [cell_atL (BL.out _ O2.out)];rfl
 have e10:w2.cell? ⟨w.heap.size,10,none⟩=some (.int .i64 l):=by rw [cell_atL (BL.out _ O2.out)];rfl
 go_wp2_with (go_at_call 38;refine (CN.out _).mono ?_;rintro e w3 ⟨rfl,hw3⟩;subst hw3)
 go_ret2
 exact ⟨rfl,O1.out.trans O2.out⟩
set_option maxRecDepth 20000 in
set_option maxHeartbeats 2000000 in
theorem one_ext (x:Stm) (aw an:Option Addr) (cw cn:Nat) (w:World) (hk:x.k=4) (hb:bareP x x.ws.length x.ns.length x.k=true) (hx:x.nm.length<=1000) (hn:nameP x.nm=true):Calls Tryz.prog 18 #[.agg #[.int .i64 x.k,.string ⟨x.nm.toArray⟩,.slice aw x.ws.length cw,.slice an x.ns.length cn,.int .i64 x.o,.int .i64 x.d,.int .i64 x.s,.int .i64 x.f,.int .i64 x.i,.string ⟨x.tg.toArray⟩,.int .i64 x.l]] w fun e w'=>e=.returned (.tuple #[.string ⟨(extB++[32]++x.nm).toArray⟩,.int .i64 0])/\Out w w':=by
 obtain ⟨k,nm,ws,ns,o,d,s,f,i,tg,l⟩:=x
 simp only at hk hx hn hb ⊢
 subst hk
 have CB:=hidOf (bare_any ⟨4,nm,ws,ns,o,d,s,f,i,tg,l⟩ aw an ws.length cw ns.length cn 4)
 simp only at CB
 rw [hb] at CB
 have CN:=hidOf (fun wx=>name4_any nm wx (by omega))
 rw [hn] at CN
 have a1:∀ wx,(Op.stringOp .add ⟨#[46,101,120,116,101,114,110,32]⟩ ⟨nm.toArray⟩).run Tryz.prog wx=.ok (.string ⟨(extB++[32]++nm).toArray⟩) wx:=fun wx=>add_l4 (extB++[32]) nm _ rfl (by simp [extB];omega) wx
 generalize (extB++[32]++nm)=T at *
 clear hb hx hn
 obtain ⟨w1,hw1⟩:∃ w1,w1=w.alloc (.cells #[.int .i64 4,.string ⟨nm.toArray⟩,.slice aw ws.length cw,.slice an ns.length cn,.int .i64 o,.int .i64 d,.int .i64 s,.int .i64 f,.int .i64 i,.string ⟨tg.toArray⟩,.int .i64 l] 42):=⟨_,rfl⟩
 have O1:Hid (Out w w1):=hidOf (by rw [hw1];exact (Out.refl w).alloc _)
 have b1':w1.heap[w.heap.size]? = some (.cells #[.int .i64 4,.string ⟨nm.toArray⟩,.slice aw ws.length cw,.slice an ns.length cn,.int .i64 o,.int .i64 d,.int .i64 s,.int .i64 f,.int .i64 i,.string ⟨tg.toArray⟩,.int .i64 l] 42 (0,0)):=by rw [hw1];exact heap_alloc_new w _
 have BL:Hid (∀ wx,Out w1 wx->wx.heap[w.heap.size]? = some (.cells #[.int .i64 4,.string ⟨nm.toArray⟩,.slice aw ws.length cw,.slice an ns.length cn,.int .i64 o,.int .i64 d,.int .i64 s,.int .i64 f,.int .i64 i,.string ⟨tg.toArray⟩,.int .i64 l] 42 (0,0))):=hidOf (fun wx o=>(o.block _ (Array.getElem?_eq_some_iff.1 b1').1).trans b1')
 have Hw1:=hidOf hw1
 clear hw1 b1'
 have c0:w1.cell? ⟨w.heap.size,0,none⟩=some (.int .i64 4):=by rw [cell_atL (BL.out _ (Out.refl w1))];rfl
 have c1:w1.cell? ⟨w.heap.size,1,none⟩=some (.string ⟨nm.toArray⟩):=by rw [cell_atL (BL.out _ (Out.refl w1))];rfl
 have c2:w1.cell? ⟨w.heap.size,2,none⟩=some (.slice aw ws.length cw):=by rw [cell_atL (BL.out _ (Out.refl w1))];rfl
 have c3:w1.cell? ⟨w.heap.size,3,none⟩=some (.slice an ns.length cn):=by rw [cell_atL (BL.out _ (Out.refl w1))];rfl
 have c4:w1.cell? ⟨w.heap.size,4,none⟩=some (.int .i64 o):=by rw [cell_atL (BL.out _ (Out.refl w1))];rfl
 have c5:w1.cell? ⟨w.heap.size,5,none⟩=some (.int .i64 d):=by rw [cell_atL (BL.out _ (Out.refl w1))];rfl
 have c6:w1.cell? ⟨w.heap.size,6,none⟩=some (.int .i64 s):=by rw [cell_atL (BL.out _ (Out.refl w1))];rfl
 have c7:w1.cell? ⟨w.heap.size,7,none⟩=some (.int .i64 f):=by rw [cell_atL (BL.out _ (Out.refl w1))];rfl
 have c8:w1.cell? ⟨w.heap.size,8,none⟩=some (.int .i64 i):=by rw [cell_atL (BL.out _ (Out.refl w1))];rfl
 have c9:w1.cell? ⟨w.heap.size,9,none⟩=some (.string ⟨tg.toArray⟩):=by rw [cell_atL (BL.out _ (Out.refl w1))];rfl
 have c10:w1.cell? ⟨w.heap.size,10,none⟩=some (.int .i64 l):=by rw [cell_atL (BL.out _ (Out.refl w1))];rfl
 go_enter Tryz.func18,Tryz.ntmps18
 go_upto_region 1 with fail
 rw [<-Hw1.out]
 go_upto_region 3 with (go_at_call 36;refine (CB.out _).mono ?_;rintro e w2 ⟨rfl,ho⟩;have O2:=hidOf ho;clear ho)
 clear c0 c1 c2 c3 c4 c5 c6 c7 c8 c9 c10
 have e0:w2.cell? ⟨w.heap.size,0,none⟩=some (.int .i64 4):=by rw [cell_atL (BL.out _ O2.out)];rfl
 have e1:w2.cell? ⟨w.heap.size,1,none⟩=some (.string ⟨nm.toArray⟩):=by rw [cell_atL (BL.out _ O2.out)];rfl
 have e2:w2.cell? ⟨w.heap.size,2,none⟩=some (.slice aw ws.length cw):=by rw [cell_atL (BL.out _ O2.out)];rfl
 have e3:w2.cell? ⟨w.heap.size,3,none⟩=some (.slice an ns.length cn):=by rw [cell_atL (BL.out _ O2.out)];rfl
 have e4:w2.cell? ⟨w.heap.size,4,none⟩=some (.int .i64 o):=by rw [cell_atL (BL.out _ O2.out)];rfl
 have e5:w2.cell? ⟨w.heap.size,5,none⟩=some (.int .i64 d):=by rw [cell_atL (BL.out _ O2.out)];rfl
 have e6:w2.cell? ⟨w.heap.size,6,none⟩=some (.int .i64 s):=by rw [cell_atL (BL.out _ O2.out)];rfl
 have e7:w2.cell? ⟨w.heap.size,7,none⟩=some (.int .i64 f):=by rw [cell_atL (BL.out _ O2.out)];rfl
 have e8:w2.cell? ⟨w.heap.size,8,none⟩=some (.int .i64 i):=by rw [cell_atL (BL.out _ O2.out)];rfl
 have e9:w2.cell? ⟨w.heap.size,9,none⟩=some (.string ⟨tg.toArray⟩):=by rw [cell_atL (BL.out _ O2.out)];rfl
 have e10:w2.cell? ⟨w.heap.size,10,none⟩=some (.int .i64 l):=by rw [cell_atL (BL.out _ O2.out)];rfl
 go_wp2_with (go_at_call 38;refine (CN.out _).mono ?_;rintro e w3 ⟨rfl,hw3⟩;subst hw3)
 go_ret2
 exact ⟨rfl,O1.out.trans O2.out⟩
theorem let_nb:∀ n:Fin 256,Lx.kindP (n.val:Int)=3->letP (n.val:Int)=true:=by decide +kernel
theorem word_name {t:List UInt8} (h:Lx.wordP t=true):nameP t=true:=by
 unfold Lx.wordP at h
 rw [Bool.and_eq_true,Bool.and_eq_true,decide_eq_true_eq] at h
 obtain ⟨⟨h1,h2⟩,h3⟩:=h
 simp only [nameP,Bool.and_eq_true,decide_eq_true_eq]
 refine ⟨⟨h1, ?_⟩, ?_⟩
 ·
  cases t with
  | nil=>cases h2
  | cons c r=>
   have h2:Lx.kindP (Lx.bI c)=3:=by simpa [Lx.startP] using h2
   exact let_nb ⟨c.toNat,c.toNat_lt⟩ h2
 ·
  rw [List.all_eq_true] at h3 ⊢
  intro b hb
  have:=h3 b hb
  rw [<-run_uu] at this
  exact this
theorem nm_eq (x:List UInt8):nameP x=isNmP x:=by
 cases h:isNmP x with
 | true=>exact word_name (nm_word h)
 | false=>
  cases h2:nameP x with
  | false=>rfl
  | true=>have:=word_nm (name_word h2);rw [h] at this;cases this
theorem nmLn_out {x:Stm} (h:x.k<1\/4<x.k):nmLn x=([],60):=by
 unfold nmLn
 rw [if_neg (by omega),if_neg (by omega),if_neg (by omega),if_neg (by omega)]
theorem ln_o {x:Stm} (h:x.k<1\/6<x.k):lnA x=([],60):=by
 unfold lnA
 rw [if_neg (by omega),if_neg (show ¬x.k=5 by omega),nmLn_out (by omega)]
 repeat' split
 all_goals rfl
theorem ln_b {x:Stm} (hb:bareP x x.ws.length x.ns.length x.k=false):lnA x=([],60):=by
 unfold lnA
 by_cases h6:x.k=6
 ·
  have hn:¬(x.k=6/\x.nm=[]/\x.ws=[]/\x.ns=[]):=by
   rintro ⟨-,h1,h2,h3⟩
   simp [bareP,h6,h1,h2,h3] at hb
  rw [if_neg hn,if_neg (show ¬x.k=5 by omega),nmLn_out (by omega)]
  repeat' split
  all_goals rfl
 ·
  rw [if_neg (fun h=>h6 h.1)]
  by_cases hi:(!insZ x || !x.tg.isEmpty)=true
  · rw [if_pos hi]
  ·
   rw [if_neg hi]
   have hi2:insZ x=true/\x.tg.isEmpty=true:=by
    cases h1:insZ x <;> cases h2:x.tg.isEmpty <;> simp_all
   have hl:¬x.k=5/\(decide (0<x.ws.length) || decide (0<x.ns.length))=true:=by
    have e6:(x.k == 6)=false:=by simp [h6]
    unfold bareP at hb
    rw [hi2.1,hi2.2,e6] at hb
    simp only [Bool.and_true,Bool.or_true,Bool.not_false,Bool.true_or,Bool.or_eq_false_iff] at hb
    refine ⟨by simpa using hb.1, ?_⟩
    have:=hb.2
    simp only [Bool.and_eq_false_iff,beq_eq_false_iff_ne] at this
    rw [Bool.or_eq_true,decide_eq_true_eq,decide_eq_true_eq]
    omega
   rw [if_neg hl.1,if_pos hl.2]
   split <;> rfl
theorem bare_zero {x:Stm} (h6:¬x.k=6) (hb:bareP x x.ws.length x.ns.length x.k=true):¬(!insZ x || !x.tg.isEmpty)=true:=by
 have e6:(x.k == 6)=false:=by simp [h6]
 unfold bareP at hb
 rw [e6] at hb
 cases h1:insZ x <;> cases h2:x.tg.isEmpty <;> simp_all
theorem bare_lists {x:Stm} (h5:¬x.k=5) (hb:bareP x x.ws.length x.ns.length x.k=true):x.ws.length=0/\x.ns.length=0:=by
 have e5:(x.k == 5)=false:=by simp [h5]
 unfold bareP at hb
 rw [e5] at hb
 simp only [Bool.false_or,Bool.and_eq_true,beq_iff_eq] at hb
 exact hb.1.1
theorem ln_in {x:Stm} (h6:x.k=6) (hb:bareP x x.ws.length x.ns.length x.k=true):lnA x=printP x.o x.d x.s x.f x.i x.tg:=by
 have hl:=bare_lists (by omega) hb
 have hn:x.nm=[]:=by
  have e6:(x.k == 6)=true:=by simp [h6]
  unfold bareP at hb
  rw [e6] at hb
  simp only [Bool.and_eq_true,Bool.not_true,Bool.false_or] at hb
  exact List.isEmpty_iff.1 hb.2
 unfold lnA
 rw [if_pos ⟨h6,hn,List.length_eq_zero_iff.1 hl.1,List.length_eq_zero_iff.1 hl.2⟩]
theorem ln_nn {x:Stm} (h6:¬x.k=6) (hb:bareP x x.ws.length x.ns.length x.k=true) (hn:nameP x.nm=false):lnA x=([],60):=by
 unfold lnA
 rw [if_neg (fun h=>h6 h.1),if_neg (bare_zero h6 hb),if_pos (by rw [<-nm_eq];exact hn)]
theorem ln_tb {x:Stm} (h5:x.k=5) (hb:bareP x x.ws.length x.ns.length x.k=true) (hn:nameP x.nm=true):lnA x=tbLn x:=by
 unfold lnA
 rw [if_neg (fun h=>by omega),if_neg (bare_zero (by omega) hb),if_neg (by rw [<-nm_eq,hn];decide),if_pos h5]
theorem ln_nm {x:Stm} (h5:¬x.k=5) (h6:¬x.k=6) (hb:bareP x x.ws.length x.ns.length x.k=true) (hn:nameP x.nm=true):lnA x=nmLn x:=by
 have hl:=bare_lists h5 hb
 unfold lnA
 rw [if_neg (fun h=>h6 h.1),if_neg (bare_zero h6 hb),if_neg (by rw [<-nm_eq,hn];decide),if_neg h5,hl.1,hl.2]
 rfl
theorem one_any (x:Stm) (aw an:Option Addr) (cw cn:Nat) (w:World) (hpw:Lx.Pow w) (hx:x.nm.length<=140737488355328) (ht:x.tg.length<=140737488355328) (ho:I64 x.o) (hf:I64 x.f) (hi:I64 x.i) (hW:RowC w aw (strsC x.ws)) (hN:RowC w an (intsC x.ns)):Calls Tryz.prog 18 #[.agg #[.int .i64 x.k,.string ⟨x.nm.toArray⟩,.slice aw x.ws.length cw,.slice an x.ns.length cn,.int .i64 x.o,.int .i64 x.d,.int .i64 x.s,.int .i64 x.f,.int .i64 x.i,.string ⟨x.tg.toArray⟩,.int .i64 x.l]] w fun e w'=>e=.returned (.tuple #[.string ⟨(lnA x).1.toArray⟩,.int .i64 (lnA x).2])/\Out w w':=by
 by_cases hk:x.k<1\/6<x.k
 · rw [ln_o hk];exact one_out x aw an cw cn w hk
 ·
  have h1:¬x.k<1:=by omega
  have h2:¬6<x.k:=by omega
  cases hb:bareP x x.ws.length x.ns.length x.k with
  | false=>rw [ln_b hb];exact one_bare x aw an cw cn w h1 h2 hb
  | true=>
   by_cases h6:x.k=6
   · rw [ln_in h6 hb];exact one_insn x aw an cw cn w h6 hb ht ho hf hi
   ·
    cases hn:nameP x.nm with
    | false=>rw [ln_nn h6 hb hn];exact one_noname x aw an cw cn w h1 h2 h6 hb (by omega) hn
    | true=>
     have hl:=name_len hn
     by_cases h5:x.k=5
     ·
      rw [ln_tb h5 hb hn]
      obtain ⟨k,nm,ws,ns,o,d,s,f,i,tg,l⟩:=x
      simp only at h5
      subst h5
      exact one_table nm ws ns o d s f i tg l aw an cw cn w hpw hb hl hn hW hN
     ·
      rw [ln_nm h5 h6 hb hn]
      by_cases k1:x.k=1
      ·
       have e:nmLn x=(x.nm++[58],0):=by unfold nmLn;rw [if_pos k1]
       rw [e];exact one_label x aw an cw cn w k1 hb hl hn
      ·
       by_cases k2:x.k=2
       ·
        have e:nmLn x=(funcB++[32]++x.nm,0):=by unfold nmLn;rw [if_neg k1,if_pos k2]
        rw [e];exact one_func x aw an cw cn w k2 hb hl hn
       ·
        by_cases k3:x.k=3
        ·
         have e:nmLn x=(globB++[32]++x.nm,0):=by unfold nmLn;rw [if_neg k1,if_neg k2,if_pos k3]
         rw [e];exact one_glob x aw an cw cn w k3 hb hl hn
        ·
         have k4:x.k=4:=by omega
         have e:nmLn x=(extB++[32]++x.nm,0):=by unfold nmLn;rw [if_neg k1,if_neg k2,if_neg k3,if_pos k4]
         rw [e];exact one_ext x aw an cw cn w k4 hb hl hn
theorem bc_app6 (O P:List UInt8):Lib.byteCells (O++P)=Lib.byteCells O++Lib.byteCells P:=by simp [Lib.byteCells]
theorem bc_str6 (x:List UInt8):Lib.strCells ⟨x.toArray⟩=Lib.byteCells x:=by simp [Lib.strCells,Lib.byteCells]
def prU:List UInt8->List (List UInt8 × Int)->List UInt8 × Int
 | l,[]=>if 16777216<l.length then ([],50) else (l,0)
 | l,(t,e)::r=>if e=0 then prU (l++t++[10]) r else ([],e)
theorem prU_F:∀ (R:List (List UInt8 × Int)) (m l:List UInt8) (a:Nat),m.length=a->(a<=16777216->l=m)->prF l a R=prU m R
 | [],m,l,a,h1,h2=>by
  unfold prF prU
  by_cases h:16777216<a
  · rw [if_pos h,if_pos (by omega)]
  · rw [if_neg h,if_neg (by omega),h2 (by omega)]
 | (t,e)::r,m,l,a,h1,h2=>by
  unfold prF prU
  by_cases he:e=0
  ·
   rw [if_pos he,if_pos he]
   refine prU_F r _ _ _ (by simp;omega) (fun h=>?_)
   unfold wlP
   rw [if_pos h,h2 (by omega)]
  · rw [if_neg he,if_neg he]
set_option maxRecDepth 20000 in
set_option maxHeartbeats 4000000 in
theorem refPrint6_any (w:World) (g off cap:Nat) (Y:List (Stm × Value × Value)) (R:List (List UInt8 × Int)) (hR:R.length=Y.length) (hS:StR w g off Y) (hg:g<w.heap.size) (hcap:Y.length<=cap) (hlen:Y.length<=2000000000)
  (LC:∀ wx,Out w wx->∀ (k:Nat) (y:Stm × Value × Value) (r:List UInt8 × Int),Y[k]? = some y->R[k]? = some r->Calls Tryz.prog 18 #[stE y.1 y.2.1 y.2.2] wx fun e w'=>e=.returned (.tuple #[.string ⟨r.1.toArray⟩,.int .i64 r.2])/\Out wx w') (hT:∀ r ∈ R,r.2=0->r.1.length<=1999) :
  Calls Tryz.prog 9 #[.slice (some ⟨g,off,none⟩) Y.length cap] w fun e w'=>e=.returned (.tuple #[.string ⟨(prF [] 0 R).1.toArray⟩,.int .i64 (prF [] 0 R).2])/\Out w w':=by
 obtain ⟨X,hX⟩:∃ X,X=prF [] 0 R:=⟨_,rfl⟩
 rw [<-hX]
 rw [prU_F R [] [] 0 rfl (fun _=>rfl)] at hX
 have HX:=hidOf hX
 obtain ⟨n,hn⟩:∃ n,n=Y.length:=⟨_,rfl⟩
 have Hn:=hidOf hn
 obtain ⟨i0,hi,hz0,hz1,hz2⟩:=info_parts infoB6
 have HS:=hidOf hS
 have HLC:=hidOf LC
 have HT:=hidOf hT
 have HR:=hidOf hR
 rw [<-hn] at hcap hlen ⊢
 clear hX hn hS LC hT hR
 go_enter Tryz.func9,Tryz.ntmps9
 go_upto_region 3 with fail
 go_loopw [4,5] (fun ov iv wr=>∃ (k:Nat) (O:List UInt8) (ba:Option Addr) (bc:Nat),ov=.slice ba O.length bc/\iv=.int .i64 k/\k<=n/\O.length<=2000*k/\Hid (wr.ownsRow w.heap.size 5 1 (.slice ba O.length bc) O.length (Lib.byteCells O))/\Hid (Out w wr)/\Hid (X=prU O (R.drop k))) (fun _ iv _=>n - (intOf iv).toNat)
 case atStart=>exact ⟨0,[],none,0,rfl,rfl,by omega,by simp,hidOf (World.ownsRow_nil _ _ _ _),hidOf (Out.refl _),hidOf (by rw [HX.out];rfl)⟩
 case round=>
  obtain ⟨k,O,ba,bc,rfl,rfl,hk,hO,HB,HO,HQ⟩:=hrel
  by_cases hlt:k<n
  ·
   have hltI:(k:Int)<n:=by omega
   have h00:(0:Int)<=k:=by omega
   obtain ⟨y,hy⟩:∃ y,Y[k]? = some y:=⟨_,List.getElem?_eq_getElem (by have:=Hn.out;omega)⟩
   obtain ⟨r,hr⟩:∃ r,R[k]? = some r:=⟨_,List.getElem?_eq_getElem (by have:=Hn.out;have:=HR.out;omega)⟩
   obtain ⟨⟨aw,nw,cw,e1⟩,⟨an,nn,cn,e2⟩,hcl⟩:=HS.out k y hy
   obtain ⟨x,wv,nv⟩:=y
   simp only at e1 e2 hcl
   subst e1 e2
   have CELL:∀ i u,(stL x (.slice aw nw cw) (.slice an nn cn))[i]? = some u->wr.cell? ⟨g,off+k*11+i,none⟩=some u:=fun i u hu=>cell_later HO.out (hcl i u hu)
   have q0:wr.cell? ⟨g,off+k*11,none⟩=some (.int .i64 x.k):=CELL 0 _ rfl
   have q1:wr.cell? ⟨g,off+k*11+1,none⟩=some (.string ⟨x.nm.toArray⟩):=CELL 1 _ rfl
   have q2:wr.cell? ⟨g,off+k*11+2,none⟩=some (.slice aw nw cw):=CELL 2 _ rfl
   have q3:wr.cell? ⟨g,off+k*11+3,none⟩=some (.slice an nn cn):=CELL 3 _ rfl
   have q4:wr.cell? ⟨g,off+k*11+4,none⟩=some (.int .i64 x.o):=CELL 4 _ rfl
   have q5:wr.cell? ⟨g,off+k*11+5,none⟩=some (.int .i64 x.d):=CELL 5 _ rfl
   have q6:wr.cell? ⟨g,off+k*11+6,none⟩=some (.int .i64 x.s):=CELL 6 _ rfl
   have q7:wr.cell? ⟨g,off+k*11+7,none⟩=some (.int .i64 x.f):=CELL 7 _ rfl
   have q8:wr.cell? ⟨g,off+k*11+8,none⟩=some (.int .i64 x.i):=CELL 8 _ rfl
   have q9:wr.cell? ⟨g,off+k*11+9,none⟩=some (.string ⟨x.tg.toArray⟩):=CELL 9 _ rfl
   have q10:wr.cell? ⟨g,off+k*11+10,none⟩=some (.int .i64 x.l):=CELL 10 _ rfl
   have LC:Hid (∀ wx,Out w wx->Calls Tryz.prog 18 #[.agg #[.int .i64 x.k,.string ⟨x.nm.toArray⟩,.slice aw nw cw,.slice an nn cn,.int .i64 x.o,.int .i64 x.d,.int .i64 x.s,.int .i64 x.f,.int .i64 x.i,.string ⟨x.tg.toArray⟩,.int .i64 x.l]] wx fun e w'=>e=.returned (.tuple #[.string ⟨r.1.toArray⟩,.int .i64 r.2])/\Out wx w'):=hidOf (fun wx o=>by
    have h9:=HLC.out wx o k (x,.slice aw nw cw,.slice an nn cn) r hy hr
    simp only [stE] at h9
    exact h9)
   have hdr:R.drop k=r::R.drop (k+1):=by
    have hlt':k<R.length:=by have:=Hn.out;have:=HR.out;omega
    rw [List.drop_eq_getElem_cons hlt']
    congr 1
    have:=List.getElem?_eq_getElem hlt'
    rw [this] at hr
    exact Option.some.inj hr
   have hrm:r ∈ R:=List.mem_of_getElem? hr
   obtain ⟨t,ec⟩:=r
   simp only at LC
   clear CELL hcl hy hr
   by_cases he:ec=0
   ·
    subst he
    have htl:t.length<=1999:=HT.out _ hrm rfl
    have HQ2:Hid (X=prU (O++t++[10]) (R.drop (k+1))):=hidOf (by
     rw [HQ.out,hdr]
     show (if (0:Int)=0 then prU (O++t++[10]) (R.drop (k+1)) else ([],0))=_
     rw [if_pos rfl])
    have hsz:(⟨t.toArray⟩:ByteArray).size=t.length:=mk_size t
    have hsum:O.length+t.length<=4000000000000:=by omega
    clear hdr hrm
    go_upto_region 8 with (go_at_call 18;refine (LC.out _ HO.out).mono ?_;rintro e w2 ⟨rfl,ho⟩;have O2:=hidOf (HO.out.trans ho);have B2:=hidOf (brow_out HB.out ho);clear ho)
    go_upto_region 9 with (at_builtin;refine Lib.wpList_append_own_string _ rfl _ _ 35 9 rfl w.heap.size 5 i0 Tryz.underlying35 Tryz.underlying9 hi hz0 hz1 hz2 (.slice ba O.length bc) O.length (Lib.byteCells O) rfl B2.out ⟨t.toArray⟩ rfl (by rw [hsz];unfold maxLen;omega) (by rw [hsz];omega) O2.out.size ?_;intro v3 w3 hown3 hgrow3 _;rw [hsz,bc_str6, <-bc_app6] at hown3;have B3:=hidOf hown3;have O3:=hidOf (out_own6 rfl B2.out O2.out hgrow3);clear hgrow3;obtain ⟨a3,c3,rfl⟩:=Lx.own_form hown3;clear hown3)
    go_upto_region 4 with (at_builtin;refine wpList_append_own _ rfl (.tmp 28) (.tmp 29) 35 rfl w.heap.size 5 i0 _ 1 1 Tryz.underlying35 hi hz0 hz1 hz2 rfl (by decide) (.slice a3 (O.length+t.length) c3) (O.length+t.length) (Lib.byteCells (O++t)) rfl (B3.out.alloc _) ⟨w3.heap.size,0,none⟩ 1 1 [.int .u8 10] rfl rfl (Lx.news_new w3 _ _ _ rfl) (fun u hu=>by rw [List.mem_singleton.1 hu];rfl) (by unfold maxLen;omega) (by omega) (by have:=O3.out.size;rw [Lx.size_alloc];omega) ?_;intro v4 w4 hown4 hgrow4 _;have B4:=hidOf hown4;have O4:=hidOf (out_own6 rfl (B3.out.alloc _) (O3.out.alloc _) hgrow4);clear hgrow4;obtain ⟨a4,c4,rfl⟩:=Lx.own_form hown4;clear hown4)
    go_wp2
    go_roundw
    case rel=>
     have e2:(O++t++[10]).length=O.length+t.length+1:=by simp;omega
     refine ⟨k+1,O++t++[10],a4,c4,by rw [e2],by simp,by omega,by rw [e2];omega,hidOf ?_,O4,HQ2⟩
     rw [e2,bc_app6]
     exact B4.out
    case measure=>simp [intOf];omega
   ·
    have hb:(ec != 0)=true:=by simpa using he
    have HE:Hid (X=([],ec)):=hidOf (by
     rw [HQ.out,hdr]
     show (if ec=0 then prU (O++t++[10]) (R.drop (k+1)) else ([],ec))=_
     rw [if_neg he])
    clear he hdr hrm
    go_wp2_with (go_at_call 18;refine (LC.out _ HO.out).mono ?_;rintro e w2 ⟨rfl,ho⟩;have O2:=hidOf (HO.out.trans ho);have B2:=hidOf (brow_out HB.out ho);clear ho)
    go_ret2
    rw [HE.out]
    exact ⟨rfl,O2.out⟩
  ·
   have e:k=n:=by omega
   subst e
   have HQ2:Hid (X=if 16777216<O.length then ([],50) else (O,0)):=hidOf (by
    rw [HQ.out,List.drop_of_length_le (by have:=Hn.out;have:=HR.out;omega)]
    rfl)
   by_cases hm:16777216<O.length
   ·
    have hmI:(16777216:Int)<O.length:=by omega
    have HE:Hid (X=([],50)):=hidOf (by rw [HQ2.out,if_pos hm])
    go_wp2
    go_ret2
    rw [HE.out]
    exact ⟨rfl,HO.out⟩
   ·
    have hmI:¬(16777216:Int)<O.length:=by omega
    have HE:Hid (X=(O,0)):=hidOf (by rw [HQ2.out,if_neg hm])
    have hv:(convert 35 9 (.slice ba O.length bc)).run Tryz.prog wr=.ok (.string ⟨O.toArray⟩) wr:=by
     obtain ⟨a5,c5,hv5,_,hr5⟩:=OwB6.rest (l:=O) HB.out
     cases hv5
     exact Lx.conv_rest hr5 _
    go_wp2
    go_ret2
    rw [HE.out]
    exact ⟨rfl,HO.out⟩
end Go.Proofs.YtadneimllbfdnaaGreatDoor
