import Derived.Test.YtadneimllbfdnaaGreatDoorGu35
namespace Go.Proofs.YtadneimllbfdnaaGreatDoor
open Go.RowKit
set_option linter.unusedVariables false
set_option linter.unusedSimpArgs false
set_option maxRecDepth 20000 in
set_option maxHeartbeats 2000000 in
theorem one_noname (x:Stm) (aw an:Option Addr) (cw cn:Nat) (w:World) (h1:¬x.k<1) (h2:¬6<x.k) (h6:¬x.k=6) (hb:bareP x x.ws.length x.ns.length x.k=true) (hx:x.nm.length<=9223372036854775807) (hn:nameP x.nm=false):Calls Tryz.prog 18 #[.agg #[.int .i64 x.k,.string ⟨x.nm.toArray⟩,.slice aw x.ws.length cw,.slice an x.ns.length cn,.int .i64 x.o,.int .i64 x.d,.int .i64 x.s,.int .i64 x.f,.int .i64 x.i,.string ⟨x.tg.toArray⟩,.int .i64 x.l]] w fun e w'=>e=.returned (.tuple #[.string ⟨#[]⟩,.int .i64 60])/\Out w w':=by
 have CB:=hidOf (bare_any x aw an x.ws.length cw x.ns.length cn x.k)
 rw [hb] at CB
 have CN:=hidOf (fun wx=>name4_any x.nm wx hx)
 rw [hn] at CN
 have k6:(x.k == 6)=false:=by simp [h6]
 clear hb hx hn h6
 obtain ⟨w1,hw1⟩:∃ w1,w1=w.alloc (.cells #[.int .i64 x.k,.string ⟨x.nm.toArray⟩,.slice aw x.ws.length cw,.slice an x.ns.length cn,.int .i64 x.o,.int .i64 x.d,.int .i64 x.s,.int .i64 x.f,.int .i64 x.i,.string ⟨x.tg.toArray⟩,.int .i64 x.l] 42):=⟨_,rfl⟩
 have O1:Hid (Out w w1):=hidOf (by rw [hw1];exact (Out.refl w).alloc _)
 have b1':w1.heap[w.heap.size]? = some (.cells #[.int .i64 x.k,.string ⟨x.nm.toArray⟩,.slice aw x.ws.length cw,.slice an x.ns.length cn,.int .i64 x.o,.int .i64 x.d,.int .i64 x.s,.int .i64 x.f,.int .i64 x.i,.string ⟨x.tg.toArray⟩,.int .i64 x.l] 42 (0,0)):=by rw [hw1];exact heap_alloc_new w _
 have BL:Hid (∀ wx,Out w1 wx->wx.heap[w.heap.size]? = some (.cells #[.int .i64 x.k,.string ⟨x.nm.toArray⟩,.slice aw x.ws.length cw,.slice an x.ns.length cn,.int .i64 x.o,.int .i64 x.d,.int .i64 x.s,.int .i64 x.f,.int .i64 x.i,.string ⟨x.tg.toArray⟩,.int .i64 x.l] 42 (0,0))):=hidOf (fun wx o=>(o.block _ (Array.getElem?_eq_some_iff.1 b1').1).trans b1')
 have Hw1:=hidOf hw1
 clear hw1 b1'
 have c0:w1.cell? ⟨w.heap.size,0,none⟩=some (.int .i64 x.k):=by rw [cell_atL (BL.out _ (Out.refl w1))];rfl
 have c1:w1.cell? ⟨w.heap.size,1,none⟩=some (.string ⟨x.nm.toArray⟩):=by rw [cell_atL (BL.out _ (Out.refl w1))];rfl
 have c2:w1.cell? ⟨w.heap.size,2,none⟩=some (.slice aw x.ws.length cw):=by rw [cell_atL (BL.out _ (Out.refl w1))];rfl
 have c3:w1.cell? ⟨w.heap.size,3,none⟩=some (.slice an x.ns.length cn):=by rw [cell_atL (BL.out _ (Out.refl w1))];rfl
 have c4:w1.cell? ⟨w.heap.size,4,none⟩=some (.int .i64 x.o):=by rw [cell_atL (BL.out _ (Out.refl w1))];rfl
 have c5:w1.cell? ⟨w.heap.size,5,none⟩=some (.int .i64 x.d):=by rw [cell_atL (BL.out _ (Out.refl w1))];rfl
 have c6:w1.cell? ⟨w.heap.size,6,none⟩=some (.int .i64 x.s):=by rw [cell_atL (BL.out _ (Out.refl w1))];rfl
 have c7:w1.cell? ⟨w.heap.size,7,none⟩=some (.int .i64 x.f):=by rw [cell_atL (BL.out _ (Out.refl w1))];rfl
 have c8:w1.cell? ⟨w.heap.size,8,none⟩=some (.int .i64 x.i):=by rw [cell_atL (BL.out _ (Out.refl w1))];rfl
 have c9:w1.cell? ⟨w.heap.size,9,none⟩=some (.string ⟨x.tg.toArray⟩):=by rw [cell_atL (BL.out _ (Out.refl w1))];rfl
 have c10:w1.cell? ⟨w.heap.size,10,none⟩=some (.int .i64 x.l):=by rw [cell_atL (BL.out _ (Out.refl w1))];rfl
 go_enter Tryz.func18,Tryz.ntmps18
 go_upto_region 1 with fail
 rw [<-Hw1.out]
 go_upto_region 3 with (go_at_call 36;refine (CB.out _).mono ?_;rintro e w2 ⟨rfl,ho⟩;have O2:=hidOf ho;clear ho)
 clear c0 c1 c2 c3 c4 c5 c6 c7 c8 c9 c10
 have e0:w2.cell? ⟨w.heap.size,0,none⟩=some (.int .i64 x.k):=by rw [cell_atL (BL.out _ O2.out)];rfl
 have e1:w2.cell? ⟨w.heap.size,1,none⟩=some (.string ⟨x.nm.toArray⟩):=by rw [cell_atL (BL.out _ O2.out)];rfl
 have e2:w2.cell? ⟨w.heap.size,2,none⟩=some (.slice aw x.ws.length cw):=by rw [cell_atL (BL.out _ O2.out)];rfl
 have e3:w2.cell? ⟨w.heap.size,3,none⟩=some (.slice an x.ns.length cn):=by rw [cell_atL (BL.out _ O2.out)];rfl
 have e4:w2.cell? ⟨w.heap.size,4,none⟩=some (.int .i64 x.o):=by rw [cell_atL (BL.out _ O2.out)];rfl
 have e5:w2.cell? ⟨w.heap.size,5,none⟩=some (.int .i64 x.d):=by rw [cell_atL (BL.out _ O2.out)];rfl
 have e6:w2.cell? ⟨w.heap.size,6,none⟩=some (.int .i64 x.s):=by rw [cell_atL (BL.out _ O2.out)];rfl
 have e7:w2.cell? ⟨w.heap.size,7,none⟩=some (.int .i64 x.f):=by rw [cell_atL (BL.out _ O2.out)];rfl
 have e8:w2.cell? ⟨w.heap.size,8,none⟩=some (.int .i64 x.i):=by rw [cell_atL (BL.out _ O2.out)];rfl
 have e9:w2.cell? ⟨w.heap.size,9,none⟩=some (.string ⟨x.tg.toArray⟩):=by rw [cell_atL (BL.out _ O2.out)];rfl
 have e10:w2.cell? ⟨w.heap.size,10,none⟩=some (.int .i64 x.l):=by rw [cell_atL (BL.out _ O2.out)];rfl
 go_wp2_with (go_at_call 38;refine (CN.out _).mono ?_;rintro e w3 ⟨rfl,hw3⟩;subst hw3)
 go_ret2
 exact ⟨rfl,O1.out.trans O2.out⟩
set_option maxRecDepth 20000 in
set_option maxHeartbeats 2000000 in
theorem one_label (x:Stm) (aw an:Option Addr) (cw cn:Nat) (w:World) (hk:x.k=1) (hb:bareP x x.ws.length x.ns.length x.k=true) (hx:x.nm.length<=1000) (hn:nameP x.nm=true):Calls Tryz.prog 18 #[.agg #[.int .i64 x.k,.string ⟨x.nm.toArray⟩,.slice aw x.ws.length cw,.slice an x.ns.length cn,.int .i64 x.o,.int .i64 x.d,.int .i64 x.s,.int .i64 x.f,.int .i64 x.i,.string ⟨x.tg.toArray⟩,.int .i64 x.l]] w fun e w'=>e=.returned (.tuple #[.string ⟨(x.nm++[58]).toArray⟩,.int .i64 0])/\Out w w':=by
 obtain ⟨k,nm,ws,ns,o,d,s,f,i,tg,l⟩:=x
 simp only at hk hx hn hb ⊢
 subst hk
 have CB:=hidOf (bare_any ⟨1,nm,ws,ns,o,d,s,f,i,tg,l⟩ aw an ws.length cw ns.length cn 1)
 simp only at CB
 rw [hb] at CB
 have CN:=hidOf (fun wx=>name4_any nm wx (by omega))
 rw [hn] at CN
 have a1:∀ wx,(Op.stringOp .add ⟨nm.toArray⟩ ⟨#[58]⟩).run Tryz.prog wx=.ok (.string ⟨(nm++[58]).toArray⟩) wx:=fun wx=>add_l4 nm [58] _ rfl (by simp;omega) wx
 generalize (nm++[58])=T at *
 clear hb hx hn
 obtain ⟨w1,hw1⟩:∃ w1,w1=w.alloc (.cells #[.int .i64 1,.string ⟨nm.toArray⟩,.slice aw ws.length cw,.slice an ns.length cn,.int .i64 o,.int .i64 d,.int .i64 s,.int .i64 f,.int .i64 i,.string ⟨tg.toArray⟩,.int .i64 l] 42):=⟨_,rfl⟩
 have O1:Hid (Out w w1):=hidOf (by rw [hw1];exact (Out.refl w).alloc _)
 have b1':w1.heap[w.heap.size]? = some (.cells #[.int .i64 1,.string ⟨nm.toArray⟩,.slice aw ws.length cw,.slice an ns.length cn,.int .i64 o,.int .i64 d,.int .i64 s,.int .i64 f,.int .i64 i,.string ⟨tg.toArray⟩,.int .i64 l] 42 (0,0)):=by rw [hw1];exact heap_alloc_new w _
 have BL:Hid (∀ wx,Out w1 wx->wx.heap[w.heap.size]? = some (.cells #[.int .i64 1,.string ⟨nm.toArray⟩,.slice aw ws.length cw,.slice an ns.length cn,.int .i64 o,.int .i64 d,.int .i64 s,.int .i64 f,.int .i64 i,.string ⟨tg.toArray⟩,.int .i64 l] 42 (0,0))):=hidOf (fun wx o=>(o.block _ (Array.getElem?_eq_some_iff.1 b1').1).trans b1')
 have Hw1:=hidOf hw1
 clear hw1 b1'
 have c0:w1.cell? ⟨w.heap.size,0,none⟩=some (.int .i64 1):=by rw [cell_atL (BL.out _ (Out.refl w1))];rfl
 have c1:w1.cell? ⟨w.heap.size,1,none⟩=some (.string ⟨nm.toArray⟩):=by rw [cell_atL (BL.out _ (Out.refl w1))];rfl
 have c2:w1.cell? ⟨w.heap.size,2,none⟩=some (.slice aw ws.length cw):=by rw [cell_atL (BL.out _ (Out.refl w1))];rfl
 have c3:w1.cell? ⟨w.heap.size,3,none⟩=some (.slice an ns.length cn):=by rw [cell_atL (BL.out _ (Out.refl w1))];rfl
 have c4:w1.cell? ⟨w.heap.size,4,none⟩=some (.int .i64 o):=by rw [cell_atL (BL.out _ (Out.refl w1))];rfl
 have c5:w1.cell? ⟨w.heap.size,5,none⟩=some (.int .i64 d):=by rw [cell_atL (BL.out _ (Out.refl w1))];rfl
 have c6:w1.cell? ⟨w.heap.size,6,none⟩=some (.int .i64 s):=by rw [cell_atL (BL.out _ (Out.refl w1))];rfl
 have c7:w1.cell? ⟨w.heap.size,7,none⟩=some (.int .i64 f):=by rw [cell_atL (BL.out _ (Out.refl w1))];rfl
 have c8:w1.cell? ⟨w.heap.size,8,none⟩=some (.int .i64 i):=by rw [cell_atL (BL.out _ (Out.refl w1))];rfl
 have c9:w1.cell? ⟨w.heap.size,9,none⟩=some (.string ⟨tg.toArray⟩):=by rw [cell_atL (BL.out _ (Out.refl w1))];rfl
 have c10:w1.cell? ⟨w.heap.size,10,none⟩=some (.int .i64 l):=by rw [cell_atL (BL.out _ (Out.refl w1))];rfl
 go_enter Tryz.func18,Tryz.ntmps18
 go_upto_region 1 with fail
 rw [<-Hw1.out]
 go_upto_region 3 with (go_at_call 36;refine (CB.out _).mono ?_;rintro e w2 ⟨rfl,ho⟩;have O2:=hidOf ho;clear ho)
 clear c0 c1 c2 c3 c4 c5 c6 c7 c8 c9 c10
 have e0:w2.cell? ⟨w.heap.size,0,none⟩=some (.int .i64 1):=by rw [cell_atL (BL.out _ O2.out)];rfl
 have e1:w2.cell? ⟨w.heap.size,1,none⟩=some (.string ⟨nm.toArray⟩):=by rw [cell_atL (BL.out _ O2.out)];rfl
 have e2:w2.cell? ⟨w.heap.size,2,none⟩=some (.slice aw ws.length cw):=by rw [cell_atL (BL.out _ O2.out)];rfl
 have e3:w2.cell? ⟨w.heap.size,3,none⟩=some (.slice an ns.length cn):=by rw [cell_atL (BL.out _ O2.out)];rfl
 have e4:w2.cell? ⟨w.heap.size,4,none⟩=some (.int .i64 o):=by rw [cell_atL (BL.out _ O2.out)];rfl
 have e5:w2.cell? ⟨w.heap.size,5,none⟩=some (.int .i64 d):=by rw [cell_atL (BL.out _ O2.out)];rfl
 have e6:w2.cell? ⟨w.heap.size,6,none⟩=some (.int .i64 s):=by rw [cell_atL (BL.out _ O2.out)];rfl
 have e7:w2.cell? ⟨w.heap.size,7,none⟩=some (.int .i64 f):=by rw [cell_atL (BL.out _ O2.out)];rfl
 have e8:w2.cell? ⟨w.heap.size,8,none⟩=some (.int .i64 i):=by rw [cell_atL (BL.out _ O2.out)];rfl
 have e9:w2.cell? ⟨w.heap.size,9,none⟩=some (.string ⟨tg.toArray⟩):=by rw [cell_atL (BL.out _ O2.out)];rfl
 have e10:w2.cell? ⟨w.heap.size,10,none⟩=some (.int .i64 l):=by rw [cell_atL (BL.out _ O2.out)];rfl
 go_wp2_with (go_at_call 38;refine (CN.out _).mono ?_;rintro e w3 ⟨rfl,hw3⟩;subst hw3)
 go_ret2
 exact ⟨rfl,O1.out.trans O2.out⟩
set_option maxRecDepth 20000 in
set_option maxHeartbeats 2000000 in
theorem one_func (x:Stm) (aw an:Option Addr) (cw cn:Nat) (w:World) (hk:x.k=2) (hb:bareP x x.ws.length x.ns.length x.k=true) (hx:x.nm.length<=1000) (hn:nameP x.nm=true):Calls Tryz.prog 18 #[.agg #[.int .i64 x.k,.string ⟨x.nm.toArray⟩,.slice aw x.ws.length cw,.slice an x.ns.length cn,.int .i64 x.o,.int .i64 x.d,.int .i64 x.s,.int .i64 x.f,.int .i64 x.i,.string ⟨x.tg.toArray⟩,.int .i64 x.l]] w fun e w'=>e=.returned (.tuple #[.string ⟨(funcB++[32]++x.nm).toArray⟩,.int .i64 0])/\Out w w':=by
 obtain ⟨k,nm,ws,ns,o,d,s,f,i,tg,l⟩:=x
 simp only at hk hx hn hb ⊢
 subst hk
 have CB:=hidOf (bare_any ⟨2,nm,ws,ns,o,d,s,f,i,tg,l⟩ aw an ws.length cw ns.length cn 2)
 simp only at CB
 rw [hb] at CB
 have CN:=hidOf (fun wx=>name4_any nm wx (by omega))
 rw [hn] at CN
 have a1:∀ wx,(Op.stringOp .add ⟨#[46,102,117,110,99,32]⟩ ⟨nm.toArray⟩).run Tryz.prog wx=.ok (.string ⟨(funcB++[32]++nm).toArray⟩) wx:=fun wx=>add_l4 (funcB++[32]) nm _ rfl (by simp [funcB];omega) wx
 generalize (funcB++[32]++nm)=T at *
 clear hb hx hn
 obtain ⟨w1,hw1⟩:∃ w1,w1=w.alloc (.cells #[.int .i64 2,.string ⟨nm.toArray⟩,.slice aw ws.length cw,.slice an ns.length cn,.int .i64 o,.int .i64 d,.int .i64 s,.int .i64 f,.int .i64 i,.string ⟨tg.toArray⟩,.int .i64 l] 42):=⟨_,rfl⟩
 have O1:Hid (Out w w1):=hidOf (by rw [hw1];exact (Out.refl w).alloc _)
 have b1':w1.heap[w.heap.size]? = some (.cells #[.int .i64 2,.string ⟨nm.toArray⟩,.slice aw ws.length cw,.slice an ns.length cn,.int .i64 o,.int .i64 d,.int .i64 s,.int .i64 f,.int .i64 i,.string ⟨tg.toArray⟩,.int .i64 l] 42 (0,0)):=by rw [hw1];exact heap_alloc_new w _
 have BL:Hid (∀ wx,Out w1 wx->wx.heap[w.heap.size]? = some (.cells #[.int .i64 2,.string ⟨nm.toArray⟩,.slice aw ws.length cw,.slice an ns.length cn,.int .i64 o,.int .i64 d,.int .i64 s,.int .i64 f,.int .i64 i,.string ⟨tg.toArray⟩,.int .i64 l] 42 (0,0))):=hidOf (fun wx o=>(o.block _ (Array.getElem?_eq_some_iff.1 b1').1).trans b1')
 have Hw1:=hidOf hw1
 clear hw1 b1'
 have c0:w1.cell? ⟨w.heap.size,0,none⟩=some (.int .i64 2):=by rw [cell_atL (BL.out _ (Out.refl w1))];rfl
 have c1:w1.cell? ⟨w.heap.size,1,none⟩=some (.string ⟨nm.toArray⟩):=by rw [cell_atL (BL.out _ (Out.refl w1))];rfl
 have c2:w1.cell? ⟨w.heap.size,2,none⟩=some (.slice aw ws.length cw):=by rw [cell_atL (BL.out _ (Out.refl w1))];rfl
 have c3:w1.cell? ⟨w.heap.size,3,none⟩=some (.slice an ns.length cn):=by rw [cell_atL (BL.out _ (Out.refl w1))];rfl
 have c4:w1.cell? ⟨w.heap.size,4,none⟩=some (.int .i64 o):=by rw [cell_atL (BL.out _ (Out.refl w1))];rfl
 have c5:w1.cell? ⟨w.heap.size,5,none⟩=some (.int .i64 d):=by rw [cell_atL (BL.out _ (Out.refl w1))];rfl
 have c6:w1.cell? ⟨w.heap.size,6,none⟩=some (.int .i64 s):=by rw [cell_atL (BL.out _ (Out.refl w1))];rfl
 have c7:w1.cell? ⟨w.heap.size,7,none⟩=some (.int .i64 f):=by rw [cell_atL (BL.out _ (Out.refl w1))];rfl
 have c8:w1.cell? ⟨w.heap.size,8,none⟩=some (.int .i64 i):=by rw [cell_atL (BL.out _ (Out.refl w1))];rfl
 have c9:w1.cell? ⟨w.heap.size,9,none⟩=some (.string ⟨tg.toArray⟩):=by rw [cell_atL (BL.out _ (Out.refl w1))];rfl
 have c10:w1.cell? ⟨w.heap.size,10,none⟩=some (.int .i64 l):=by rw [cell_atL (BL.out _ (Out.refl w1))];rfl
 go_enter Tryz.func18,Tryz.ntmps18
 go_upto_region 1 with fail
 rw [<-Hw1.out]
 go_upto_region 3 with (go_at_call 36;refine (CB.out _).mono ?_;rintro e w2 ⟨rfl,ho⟩;have O2:=hidOf ho;clear ho)
 clear c0 c1 c2 c3 c4 c5 c6 c7 c8 c9 c10
 have e0:w2.cell? ⟨w.heap.size,0,none⟩=some (.int .i64 2):=by rw [cell_atL (BL.out _ O2.out)];rfl
 have e1:w2.cell? ⟨w.heap.size,1,none⟩=some (.string ⟨nm.toArray⟩):=by rw [cell_atL (BL.out _ O2.out)];rfl
 have e2:w2.cell? ⟨w.heap.size,2,none⟩=some (.slice aw ws.length cw):=by rw [cell_atL (BL.out _ O2.out)];rfl
 have e3:w2.cell? ⟨w.heap.size,3,none⟩=some (.slice an ns.length cn):=by rw [cell_atL (BL.out _ O2.out)];rfl
 have e4:w2.cell? ⟨w.heap.size,4,none⟩=some (.int .i64 o):=by rw [cell_atL (BL.out _ O2.out)];rfl
 have e5:w2.cell? ⟨w.heap.size,5,none⟩=some (.int .i64 d):=by rw [cell_atL (BL.out _ O2.out)];rfl
 have e6:w2.cell? ⟨w.heap.size,6,none⟩=some (.int .i64 s):=by rw [cell_atL (BL.out _ O2.out)];rfl
 have e7:w2.cell? ⟨w.heap.size,7,none⟩=some (.int .i64 f):=by rw [cell_atL (BL.out _ O2.out)];rfl
 have e8:w2.cell? ⟨w.heap.size,8,none⟩=some (.int .i64 i):=by rw [cell_atL (BL.out _ O2.out)];rfl
 have e9:w2.cell? ⟨w.heap.size,9,none⟩=some (.string ⟨tg.toArray⟩):=by rw [cell_atL (BL.out _ O2.out)];rfl
 have e10:w2.cell? ⟨w.heap.size,10,none⟩=some (.int .i64 l):=by rw [cell_atL (BL.out _ O2.out)];rfl
 go_wp2_with (go_at_call 38;refine (CN.out _).mono ?_;rintro e w3 ⟨rfl,hw3⟩;subst hw3)
 go_ret2
 exact ⟨rfl,O1.out.trans O2.out⟩
end Go.Proofs.YtadneimllbfdnaaGreatDoor
