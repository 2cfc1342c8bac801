import Derived.Test.YtadneimllbfdnaaGreatDoorGu21
namespace Go.Proofs.YtadneimllbfdnaaGreatDoor
open Go.RowKit
set_option linter.unusedVariables false
set_option linter.unusedSimpArgs false
def Pow (w:World):Prop:=Lib.TabIs Tryz.prog w "internal/strconv.uint64pow10" .u64 Lib.pow10Tab
theorem Pow.out {w w':World} (h:Pow w) (o:Out w w'):Pow w':=Lib.tabBelow_of_tabIs h w' o
theorem itoa_any (f:Int) (h : -9223372036854775808<=f/\f<9223372036854775808) (w:World) (ht:Pow w):Calls Tryz.prog 40 #[.int .i64 f] w fun e w'=>e=.returned (.string ⟨(Lib.itoa f).toArray⟩)/\Out w w':=
 (Tryz.strconv_Itoa f h.1 (by omega) w ht).mono fun e w' ⟨he,k,os,hw⟩=>⟨he,by rw [hw];exact Lib.below_grow _ w (Nat.le_refl _) k os⟩
theorem dd_len:∀ (k u:Nat),u<10 ^ (k+1)->(Lib.decDigits u).length<=k+1
 | 0,u,h=>by rw [dd_small (by omega)];simp
 | k+1,u,h=>by
  by_cases hu:u<10
  · rw [dd_small hu];simp
  ·
   rw [dd_big hu,List.length_append]
   have:=dd_len k (u / 10) (by rw [Nat.pow_succ] at h;omega)
   simp;omega
theorem itoa_len (f:Int) (h : -9223372036854775808<=f/\f<9223372036854775808):(Lib.itoa f).length<=100:=by
 by_cases hf:f<0
 ·
  rw [itoa_neg f hf]
  have:=dd_len 19 f.natAbs (by omega)
  simp;omega
 ·
  rw [itoa_pos f hf]
  have:=dd_len 19 f.toNat (by omega)
  omega
theorem add_lists (x y z:List UInt8) (hz:z=x++y) (h:x.length+y.length<=9223372036854775807) (w:World):(Op.stringOp .add ⟨x.toArray⟩ ⟨y.toArray⟩).run Tryz.prog w=.ok (.string ⟨z.toArray⟩) w:=by
 rw [run_string_add_sum w _ _ (by simp [ByteArray.size];omega),ByteArray.mk_append_mk,hz]
theorem regL_len (k:Nat):(regL k).length<=3:=by unfold regL;split <;> simp
theorem place_at0 (f:Int) (w:World) (k:Nat) (l m:List UInt8) (hl:l.length<=3) (hm:m.length<=100) (h11:(k:Int)<11) (c0:w.cell? ⟨2,k,none⟩=some (.string ⟨l.toArray⟩)) (CI:Hid (∀ wx,Out w wx->Calls Tryz.prog 40 #[.int .i64 f] wx fun e w'=>e=.returned (.string ⟨m.toArray⟩)/\Out wx w')):Calls Tryz.prog 85 #[.int .i64 k,.int .i64 f] w fun e w'=>e=.returned (.string ⟨([91]++l++(if 0<=f then [43] else [])++m++[93]).toArray⟩)/\Out w w':=by
 obtain ⟨sg,hsg⟩:∃ sg:List UInt8,sg=if 0<=f then [43] else []:=⟨_,rfl⟩
 rw [<-hsg]
 obtain ⟨l1,h1⟩:∃ l1,l1=[91]++l:=⟨_,rfl⟩
 obtain ⟨l2,h2⟩:∃ l2,l2=l1++sg:=⟨_,rfl⟩
 obtain ⟨l3,h3⟩:∃ l3,l3=l2++m:=⟨_,rfl⟩
 obtain ⟨l4,h4⟩:∃ l4,l4=l3++[93]:=⟨_,rfl⟩
 have zs:sg.length<=1:=by rw [hsg];split <;> simp
 have z1:l1.length<=4:=by rw [h1];simp;omega
 have z2:l2.length<=5:=by rw [h2];simp;omega
 have z3:l3.length<=105:=by rw [h3];simp;omega
 have a1:∀ w,(Op.stringOp .add ⟨#[91]⟩ ⟨l.toArray⟩).run Tryz.prog w=.ok (.string ⟨l1.toArray⟩) w:=add_lists [91] l l1 h1 (by simp;omega)
 have a2:∀ w,(Op.stringOp .add ⟨l1.toArray⟩ ⟨sg.toArray⟩).run Tryz.prog w=.ok (.string ⟨l2.toArray⟩) w:=add_lists l1 sg l2 h2 (by omega)
 have a3:∀ w,(Op.stringOp .add ⟨l2.toArray⟩ ⟨m.toArray⟩).run Tryz.prog w=.ok (.string ⟨l3.toArray⟩) w:=add_lists l2 m l3 h3 (by omega)
 have a4:∀ w,(Op.stringOp .add ⟨l3.toArray⟩ ⟨#[93]⟩).run Tryz.prog w=.ok (.string ⟨l4.toArray⟩) w:=add_lists l3 [93] l4 h4 (by simp;omega)
 rw [<-h1, <-h2, <-h3, <-h4]
 clear h1 h2 h3 h4 z1 z2 z3 hl hm zs
 by_cases hf:0<=f
 ·
  rw [if_pos hf] at hsg
  subst hsg
  have hp:(decide (0<=f))=true:=by simpa using hf
  go_enter Tryz.func85,Tryz.ntmps85
  go_wp2
  go_region_held3 (fun w'=>w'.cell? ⟨2,k,none⟩=some (.string ⟨l.toArray⟩)) (first | exact c0 | exact d0 | go_keep) (first | (go_at_call 40;refine (CI.out _ (by first | exact Out.refl _ | exact (Out.refl _).drew)).mono ?_;rintro e w1 ⟨rfl,ho1⟩;have Ho1:=hidOf ho1;have d0:=cell_later ho1 c0;clear ho1))
  all_goals go_wp2
  all_goals go_ret
  all_goals exact ⟨rfl,Out.trans (Out.refl w).drew Ho1.out⟩
 ·
  rw [if_neg hf] at hsg
  subst hsg
  have hp:(decide (0<=f))=false:=by simpa using hf
  go_enter Tryz.func85,Tryz.ntmps85
  go_wp2
  go_region_held3 (fun w'=>w'.cell? ⟨2,k,none⟩=some (.string ⟨l.toArray⟩)) (first | exact c0 | exact d0 | go_keep) (first | (go_at_call 40;refine (CI.out _ (by first | exact Out.refl _ | exact (Out.refl _).drew)).mono ?_;rintro e w1 ⟨rfl,ho1⟩;have Ho1:=hidOf ho1;have d0:=cell_later ho1 c0;clear ho1))
  all_goals go_wp2
  all_goals go_ret
  all_goals exact ⟨rfl,Out.trans (Out.refl w).drew Ho1.out⟩
theorem placeText_any (k:Nat) (hk:k<11) (f:Int) (h : -9223372036854775808<=f/\f<9223372036854775808) (w:World) (hR:RegT w) (ht:Pow w):Calls Tryz.prog 85 #[.int .i64 k,.int .i64 f] w fun e w'=>e=.returned (.string ⟨(placeTx k f).toArray⟩)/\Out w w':=by
 have:=place_at0 f w k (regL k) (Lib.itoa f) (regL_len k) (itoa_len f h) (by omega) (hR k hk) (fun wx ho=>itoa_any f h wx (ht.out ho))
 rw [show [91]++regL k++(if 0<=f then [43] else [])++Lib.itoa f++[93]=placeTx k f from by unfold placeTx;simp [List.append_assoc]] at this
 exact this
def txOk (o d s f i c:Int):Prop:=(c=1/\isReg d=true)\/(c=2/\isReg s=true)\/c=3\/(c=4/\(hasSrc o=true->isReg s=true))\/(c=5/\isReg s=true)\/(c=6/\isReg d=true)\/c=7\/c=8
set_option maxHeartbeats 1600000 in
theorem operandText_any (o d s f i c:Int) (t:List UInt8) (hc:txOk o d s f i c) (hf : -9223372036854775808<=f/\f<9223372036854775808) (hi : -9223372036854775808<=i/\i<9223372036854775808) (w:World) (hR:RegT w) (ht:Pow w):Calls Tryz.prog 59 #[.agg #[.int .i64 o,.int .i64 d,.int .i64 s,.int .i64 f,.int .i64 i],.int .u8 c,.string ⟨t.toArray⟩] w fun e w'=>e=.returned (.string ⟨(opdTx o d s f i t c).toArray⟩)/\Out w w':=by
 have CI:Hid (∀ wx,Out w wx->Calls Tryz.prog 40 #[.int .i64 i] wx fun e w'=>e=.returned (.string ⟨(Lib.itoa i).toArray⟩)/\Out wx w'):=fun wx ho=>itoa_any i hi wx (ht.out ho)
 rcases hc with ⟨rfl,hr⟩ | ⟨rfl,hr⟩ | rfl | ⟨rfl,hr⟩ | ⟨rfl,hr⟩ | ⟨rfl,hr⟩ | rfl | rfl
 ·
  rw [show opdTx o d s f i t 1=regL d.toNat from rfl]
  obtain ⟨hk,he⟩:=isReg_nat hr
  generalize d.toNat=k at *
  subst he
  have hlt:(k:Int)<11:=by omega
  have c0:∀ O,(w.alloc O).cell? ⟨2,k,none⟩=some (.string ⟨(regL k).toArray⟩):=fun O=>cell_later ((Out.refl w).alloc O) (hR k hk)
  clear hR ht hr hf hi CI hk
  generalize regL k=l at *
  go_enter Tryz.func59,Tryz.ntmps59
  go_wp2
  go_ret
  exact ⟨rfl,(Out.refl w).alloc _⟩
 ·
  rw [show opdTx o d s f i t 2=regL s.toNat from rfl]
  obtain ⟨hk,he⟩:=isReg_nat hr
  generalize s.toNat=k at *
  subst he
  have hlt:(k:Int)<11:=by omega
  have c0:∀ O,(w.alloc O).cell? ⟨2,k,none⟩=some (.string ⟨(regL k).toArray⟩):=fun O=>cell_later ((Out.refl w).alloc O) (hR k hk)
  clear hR ht hr hf hi CI hk
  generalize regL k=l at *
  go_enter Tryz.func59,Tryz.ntmps59
  go_wp2
  go_ret
  exact ⟨rfl,(Out.refl w).alloc _⟩
 ·
  rw [show opdTx o d s f i t 3=Lib.itoa i from rfl]
  generalize Lib.itoa i=l at *
  clear hR ht hf hi
  go_enter Tryz.func59,Tryz.ntmps59
  go_wp2_with (go_at_call 40;refine (CI.out _ ((Out.refl w).alloc _)).mono ?_;rintro e w1 ⟨rfl,ho1⟩;have Ho1:=hidOf ho1;clear ho1)
  go_ret
  exact ⟨rfl,Out.trans ((Out.refl w).alloc _) Ho1.out⟩
 ·
  cases hh:hasSrc o
  ·
   rw [show opdTx o d s f i t 4=Lib.itoa i from by show (if hasSrc o then _ else _)=_;rw [hh];rfl]
   have hb:(bits .and .i64 o 8 != 0)=false:=hh
   generalize Lib.itoa i=l at *
   clear hR ht hf hi hr hh
   go_enter Tryz.func59,Tryz.ntmps59
   go_wp2_with (go_at_call 40;refine (CI.out _ ((Out.refl w).alloc _)).mono ?_;rintro e w1 ⟨rfl,ho1⟩;have Ho1:=hidOf ho1;clear ho1)
   go_ret
   exact ⟨rfl,Out.trans ((Out.refl w).alloc _) Ho1.out⟩
  ·
   rw [show opdTx o d s f i t 4=regL s.toNat from by show (if hasSrc o then _ else _)=_;rw [hh];rfl]
   have hb:(bits .and .i64 o 8 != 0)=true:=hh
   obtain ⟨hk,he⟩:=isReg_nat (hr hh)
   generalize s.toNat=k at *
   subst he
   have hlt:(k:Int)<11:=by omega
   have c0:∀ O,(w.alloc O).cell? ⟨2,k,none⟩=some (.string ⟨(regL k).toArray⟩):=fun O=>cell_later ((Out.refl w).alloc O) (hR k hk)
   clear hR ht hr hf hi CI hk hh
   generalize regL k=l at *
   go_enter Tryz.func59,Tryz.ntmps59
   go_wp2
   go_ret
   exact ⟨rfl,(Out.refl w).alloc _⟩
 ·
  rw [show opdTx o d s f i t 5=placeTx s.toNat f from rfl]
  obtain ⟨hk,he⟩:=isReg_nat hr
  have CP:Hid (∀ wx,Out w wx->Calls Tryz.prog 85 #[.int .i64 s,.int .i64 f] wx fun e w'=>e=.returned (.string ⟨(placeTx s.toNat f).toArray⟩)/\Out wx w'):=fun wx ho=>by
   have:=placeText_any s.toNat hk f hf wx (hR.out ho) (ht.out ho)
   rw [he] at this
   exact this
  generalize placeTx s.toNat f=l at *
  clear hR ht hf hi CI hr hk he
  go_enter Tryz.func59,Tryz.ntmps59
  go_wp2_with (go_at_call 85;refine (CP.out _ ((Out.refl w).alloc _)).mono ?_;rintro e w1 ⟨rfl,ho1⟩;have Ho1:=hidOf ho1;clear ho1)
  go_ret
  exact ⟨rfl,Out.trans ((Out.refl w).alloc _) Ho1.out⟩
 ·
  rw [show opdTx o d s f i t 6=placeTx d.toNat f from rfl]
  obtain ⟨hk,he⟩:=isReg_nat hr
  have CP:Hid (∀ wx,Out w wx->Calls Tryz.prog 85 #[.int .i64 d,.int .i64 f] wx fun e w'=>e=.returned (.string ⟨(placeTx d.toNat f).toArray⟩)/\Out wx w'):=fun wx ho=>by
   have:=placeText_any d.toNat hk f hf wx (hR.out ho) (ht.out ho)
   rw [he] at this
   exact this
  generalize placeTx d.toNat f=l at *
  clear hR ht hf hi CI hr hk he
  go_enter Tryz.func59,Tryz.ntmps59
  go_wp2_with (go_at_call 85;refine (CP.out _ ((Out.refl w).alloc _)).mono ?_;rintro e w1 ⟨rfl,ho1⟩;have Ho1:=hidOf ho1;clear ho1)
  go_ret
  exact ⟨rfl,Out.trans ((Out.refl w).alloc _) Ho1.out⟩
 ·
  rw [show opdTx o d s f i t 7=t from rfl]
  clear hR ht hf hi CI
  go_enter Tryz.func59,Tryz.ntmps59
  go_wp2
  go_ret
  exact ⟨rfl,(Out.refl w).alloc _⟩
 ·
  by_cases hs:s=1
  ·
   rw [show opdTx o d s f i t 8=t from by show (if s=1 then _ else _)=_;rw [if_pos hs]]
   subst hs
   clear hR ht hf hi CI
   go_enter Tryz.func59,Tryz.ntmps59
   go_wp2
   go_ret
   exact ⟨rfl,(Out.refl w).alloc _⟩
  ·
   rw [show opdTx o d s f i t 8=Lib.itoa i from by show (if s=1 then _ else _)=_;rw [if_neg hs]]
   have hb:(s != 1)=true:=by simpa using hs
   generalize Lib.itoa i=l at *
   clear hR ht hf hi hs
   go_enter Tryz.func59,Tryz.ntmps59
   go_wp2_with (go_at_call 40;refine (CI.out _ ((Out.refl w).alloc _)).mono ?_;rintro e w1 ⟨rfl,ho1⟩;have Ho1:=hidOf ho1;clear ho1)
   go_ret
   exact ⟨rfl,Out.trans ((Out.refl w).alloc _) Ho1.out⟩
end Go.Proofs.YtadneimllbfdnaaGreatDoor
namespace Go.Proofs.YtadneimllbfdnaaGreatDoor
open Go.RowKit
open Go.Maps (Keyed)
set_option linter.unusedVariables false
set_option linter.unusedSimpArgs false
def PEnv (w:World):Prop:=Env w/\WTabs w
theorem PEnv.out {w w':World} (h:PEnv w) (o:Out w w'):PEnv w':=⟨h.1.out o,h.2.out o⟩
def zero5:Array Value:=#[.int .i64 0,.int .i64 0,.int .i64 0,.int .i64 0,.int .i64 0]
theorem via_wp {P:Program} {c:Code} {Q:Exit->Act->World->Prop} {a:Act} {W:World} (Φ:World->Prop) (hW:Φ W) (h:∀ wz,Φ wz->Code.wp P c Q a wz):Code.wp P c Q a W:=h W hW
theorem via_world {R:Exit->Act->World->Prop} {e:Exit} {a:Act} {W:World} (Φ:World->Prop) (hW:Φ W) (h:∀ wz,Φ wz->R e a wz):R e a W:=h W hW
theorem res_cells {w wz:World} (h:Out (w.alloc (.cells zero5 40)) wz):wz.heap[w.heap.size]? = some (.cells zero5 40 (0,0)):=
 (Below.block h _ (by rw [size_alloc];omega)).trans (heap_alloc_new w _)
theorem blk_cell {w:World} {b:Nat} {cs:Array Value} {t:TypeId} (h:w.heap[b]? = some (.cells cs t (0,0))) (j:Nat):w.cell? ⟨b,j,none⟩=cs[j]?/\w.frozen? ⟨b,j,none⟩=false:=by
 constructor
 · simp [World.cell?,h]
 · simp [World.frozen?,h]
theorem set5_heap {w:World} {b:Nat} {t:TypeId} {x0 x1 x2 x3 x4 u0 u1 u2 u3 u4:Value} (h:w.heap[b]? = some (.cells #[u0,u1,u2,u3,u4] t (0,0))):(((((w.setCell ⟨b,0,none⟩ x0).setCell ⟨b,1,none⟩ x1).setCell ⟨b,2,none⟩ x2).setCell ⟨b,3,none⟩ x3).setCell ⟨b,4,none⟩ x4).heap[b]? = some (.cells #[x0,x1,x2,x3,x4] t (0,0)):=by
 simp [World.setCell,Array.getElem?_modify,h]
theorem MEnd.insn {w w1:World} {p:Nat} {r:RS} (a:MEnd p r w w1) (o d s f i:Int):MEnd p { r with o:=o,d:=d,s:=s,f:=f,i:=i } w (((((w1.setCell ⟨p,2,none⟩ (.int .i64 o)).setCell ⟨p,3,none⟩ (.int .i64 d)).setCell ⟨p,4,none⟩ (.int .i64 s)).setCell ⟨p,5,none⟩ (.int .i64 f)).setCell ⟨p,6,none⟩ (.int .i64 i)):=
 ((((a.set (r2:={ r with o:=o }) 2 _ rfl).set (r2:={ r with o:=o,d:=d }) 3 _ rfl).set (r2:={ r with o:=o,d:=d,s:=s }) 4 _ rfl).set (r2:={ r with o:=o,d:=d,s:=s,f:=f }) 5 _ rfl).set 6 _ rfl
theorem Out.set5 {w0 w:World} {b:Nat} (h:Out w0 w) (hb:w0.heap.size<=b) (x0 x1 x2 x3 x4:Value):Out w0 (((((w.setCell ⟨b,0,none⟩ x0).setCell ⟨b,1,none⟩ x1).setCell ⟨b,2,none⟩ x2).setCell ⟨b,3,none⟩ x3).setCell ⟨b,4,none⟩ x4):=
 ((((h.setCell (a:=⟨b,0,none⟩) hb _).setCell (a:=⟨b,1,none⟩) hb _).setCell (a:=⟨b,2,none⟩) hb _).setCell (a:=⟨b,3,none⟩) hb _).setCell (a:=⟨b,4,none⟩) hb _
set_option maxRecDepth 40000 in
set_option maxHeartbeats 8000000 in
theorem parse_none (w:World) (l:List UInt8) (hE:PEnv w) (hl:l.length<=140737488355328) (hm:meanOf (newR l).tok=none):Calls Tryz.prog 77 #[.string ⟨l.toArray⟩] w fun e w'=>e=.returned (.tuple #[.agg zero5,.string ⟨#[]⟩,.int .i64 40])/\Out w w':=by
 have CN:Hid (∀ wx,Calls Tryz.prog 103 #[.string ⟨l.toArray⟩] wx fun e w'=>∃ p,e=.returned (.pointer (some ⟨p,0,none⟩))/\wx.heap.size<=p/\RdAt w' p (newR l).cells/\Out wx w'):=fun wx=>newReader_any wx l hl
 have CM:Hid (∀ wx,Out w wx->Calls Tryz.prog 104 #[.string ⟨(newR l).tok.toArray⟩] wx fun e w'=>e=.returned (.tuple #[.agg #[.int .u8 0,.int .u8 0,.int .u8 0,.int .u8 0],.bool false])/\Out wx w'):=fun wx ho=>(meaning_any wx _ (hE.2.out ho)).mono fun e w' ⟨a,b⟩=>⟨by rw [a,hm];rfl,b⟩
 have HSm:=hidOf (newR_sm hl)
 have HM:=hidOf hm
 have HEnv:=hidOf hE.1
 clear hE hl hm
 generalize newR l=r at *
 go_enter Tryz.func77,Tryz.ntmps77
 go_wp2_with (first | (go_at_call 103;refine (CN.out _).mono ?_;rintro e w1 ⟨p,rfl,hp,hR,ho⟩;have H1:=hidOf hR;have Hp:=hidOf hp;have Ho1:=hidOf (Out.trans ((Out.refl w).alloc _) ho);have HoA:=hidOf ho;have d1:w1.cell? ⟨p,1,none⟩=some (.string ⟨r.tok.toArray⟩):=hR.cell 1;clear hp hR ho))
 have nw1:=World.new_ne w1 ⟨p,1,none⟩ d1
 go_at_call 104
 refine (CM.out w1 Ho1.out).mono ?_
 rintro e w2 ⟨rfl,ho⟩
 have d1A:w2.cell? ⟨p,1,none⟩=some (.string ⟨r.tok.toArray⟩):=cell_later ho d1
 have Hw2:Hid (Out w1 w2):=ho
 have nw:=World.new_ne w2 ⟨p,1,none⟩ d1A
 clear ho
 go_upto_if 19 with fail
 refine via_wp (fun wz=>Out w1 wz) (Hw2.out.alloc _) ?_
 all_goals intro wz hz
 all_goals have HB:=hidOf (res_cells (Out.trans HoA.out hz))
 all_goals have HZ:=hidOf (Out.trans Ho1.out hz)
 all_goals (have r0:wz.cell? ⟨w.heap.size,0,none⟩=some (.int .i64 0):=(blk_cell HB.out 0).1;have r1:wz.cell? ⟨w.heap.size,1,none⟩=some (.int .i64 0):=(blk_cell HB.out 1).1;have r2:wz.cell? ⟨w.heap.size,2,none⟩=some (.int .i64 0):=(blk_cell HB.out 2).1;have r3:wz.cell? ⟨w.heap.size,3,none⟩=some (.int .i64 0):=(blk_cell HB.out 3).1;have r4:wz.cell? ⟨w.heap.size,4,none⟩=some (.int .i64 0):=(blk_cell HB.out 4).1;have f0:=(blk_cell HB.out 0).2;have f1:=(blk_cell HB.out 1).2;have f2:=(blk_cell HB.out 2).2;have f3:=(blk_cell HB.out 3).2;have f4:=(blk_cell HB.out 4).2)
 all_goals clear hz d1 d1A CM CN
 all_goals go_wp2
 all_goals refine bodyPost_ret (results_row_tmp2 rfl _ _ w.heap.size 40 #[.int .i64 0,.int .i64 0,.int .i64 0,.int .i64 0,.int .i64 0] (0,0) _ rfl (set5_heap HB.out) Tryz.underlying40 rfl size5) rfl ?_
 all_goals exact ⟨rfl,HZ.out.set5 (Nat.le_refl _) _ _ _ _ _⟩
end Go.Proofs.YtadneimllbfdnaaGreatDoor
namespace Go.Proofs.YtadneimllbfdnaaGreatDoor
open Go.RowKit Go.ChangeShapes Go.WideShapes Go.ChangeAt
set_option linter.unusedVariables false
set_option linter.unusedSimpArgs false
theorem laid_at {P:Program} {W:World} {n:String} {D:DataW Unit} : ∀ {laid:List (String × DataW Unit)} {ps:List MemPlace},DataW.LaidVars P W laid ps->(n,D) ∈ laid ->
  ∃ g t cs fuel p,P.globalNamed n=some g/\(P.globals[g]?).map (·.type)=some t/\W.var? P n=some cs/\DataW.trod (fun _=>()) P W 0 (fun _=>true) false fuel t cs.toList=some (D,p)
 | [],_,h,hm=>by cases hm
 | (m,E)::L,ps,h,hm=>by
  obtain ⟨g,t,cs,f,p,q,hg,ht,hv,hd,hr,_⟩:=h
  rcases List.mem_cons.1 hm with e | hm'
  ·
   cases e
   exact ⟨g,t,cs,f,p,hg,ht,hv,hd⟩
  · exact laid_at hr hm'
theorem arr_flat {H:Type} {enc:TypeId × Value->H} {P:Program} {W:World} {base:Nat} {sp:Nat->Bool} {held:Bool} {fuel:Nat} {t e:TypeId} {n c:Nat} {cs:List Value} {ds:List (DataW H)} {p:List MemPlace}
  (ht:P.underlying t=some (.array n e)) (hc:P.cellsOf e=c) (hcl:P.cellsOf t=n*c) (F:DataW H->List Value)
  (hF:∀ m cs d p,DataW.trod enc P W base sp held m e cs=some (d,p)->cs=F d)
  (h:DataW.trod enc P W base sp held fuel t cs=some (.agg ds,p)):cs=ds.flatMap F:=by
 obtain ⟨xs,m,rfl,hx,hlen,hxl,hel⟩:=DataW.trod_array ht h
 simp only [Prod.mk.injEq,DataW.agg.injEq] at hx
 obtain ⟨hds,_⟩:=hx
 rw [hc] at hel
 rw [hcl] at hlen
 have key:∀ (n:Nat) (cs:List Value) (xs:List (DataW H × List MemPlace)),cs.length=n*c->xs.length=n->(∀ i,i<n->DataW.trod enc P W base sp held m e ((cs.drop (i*c)).take c)=xs[i]?)->cs=(xs.map (·.1)).flatMap F:=by
  intro n
  induction n with
  | zero=>
   intro cs xs h1 h2 _
   rw [Nat.zero_mul] at h1
   rw [List.length_eq_zero_iff.1 h1,List.length_eq_zero_iff.1 h2]
   rfl
  | succ n ih=>
   intro cs xs h1 h2 h3
   cases xs with
   | nil=>simp at h2
   | cons x xs=>
    have e0:=h3 0 (by omega)
    simp only [Nat.zero_mul,List.drop_zero,List.getElem?_cons_zero] at e0
    have e1:=hF m _ x.1 x.2 e0
    have e2:=ih (cs.drop c) xs (by rw [List.length_drop,h1,Nat.succ_mul];omega) (by simpa using h2) (fun i hi=>by
     have:=h3 (i+1) (by omega)
     rw [List.getElem?_cons_succ] at this
     rw [List.drop_drop,show c+i*c=(i+1)*c from by rw [Nat.succ_mul];omega]
     exact this)
    simp only [List.map_cons,List.flatMap_cons]
    rw [<-e1, <-e2,List.take_append_drop]
 rw [hds]
 exact key n cs xs hlen hxl hel
def fS {H:Type} : DataW H->List Value
 | .lit (.string l)=>[.string ⟨l.toArray⟩]
 | _=>[]
def fI {H:Type} : DataW H->List Value
 | .lit (.int k n)=>[.int k n]
 | _=>[]
theorem str_flat {H:Type} {enc:TypeId × Value->H} {P:Program} {W:World} {base:Nat} {sp:Nat->Bool} {held:Bool} {t:TypeId} (ht:P.underlying t=some .string) (m:Nat) (cs:List Value) (d:DataW H) (p:List MemPlace) (h:DataW.trod enc P W base sp held m t cs=some (d,p)):cs=fS d:=by
 obtain ⟨s,hs,hx,_⟩:=DataW.trod_string ht h
 simp only [Prod.mk.injEq] at hx
 rw [hs,hx.1]
 simp [fS]
theorem int_flat {H:Type} {enc:TypeId × Value->H} {P:Program} {W:World} {base:Nat} {sp:Nat->Bool} {held:Bool} {t:TypeId} {k:IntKind} (ht:P.underlying t=some (.int k)) (m:Nat) (cs:List Value) (d:DataW H) (p:List MemPlace) (h:DataW.trod enc P W base sp held m t cs=some (d,p)):cs=fI d:=by
 obtain ⟨n,hs,hx,_⟩:=DataW.trod_int ht h
 simp only [Prod.mk.injEq] at hx
 rw [hs,hx.1]
 rfl
def fA {H:Type} (F:DataW H->List Value):DataW H->List Value
 | .agg ds=>ds.flatMap F
 | _=>[]
theorem agg_flat {H:Type} {enc:TypeId × Value->H} {P:Program} {W:World} {base:Nat} {sp:Nat->Bool} {held:Bool} {t e:TypeId} {n c:Nat}
  (ht:P.underlying t=some (.array n e)) (hc:P.cellsOf e=c) (hcl:P.cellsOf t=n*c) (F:DataW H->List Value)
  (hF:∀ m cs d p,DataW.trod enc P W base sp held m e cs=some (d,p)->cs=F d) (m:Nat) (cs:List Value) (d:DataW H) (p:List MemPlace) (h:DataW.trod enc P W base sp held m t cs=some (d,p)):cs=fA F d:=by
 obtain ⟨xs,q,rfl,hx,_⟩:=DataW.trod_array ht h
 simp only [Prod.mk.injEq] at hx
 obtain ⟨rfl,rfl⟩:=hx
 exact arr_flat ht hc hcl F hF h
def f3 {H:Type} : DataW H->List Value
 | .agg [a,b,c]=>fI a++fI b++fS c
 | _=>[]
def f2 {H:Type} : DataW H->List Value
 | .agg [a,b]=>fI a++fA fS b
 | _=>[]
theorem row3_flat {H:Type} {enc:TypeId × Value->H} {P:Program} {W:World} {base:Nat} {sp:Nat->Bool} {held:Bool} {t a b c:TypeId} {ka kb:IntKind} {n0 n1 n2:Field}
  (ht:P.underlying t=some (.struct #[n0,n1,n2])) (hn0:n0.type=a/\n0.offset=0) (hn1:n1.type=b/\n1.offset=1) (hn2:n2.type=c/\n2.offset=2) (ha:P.underlying a=some (.int ka)) (hb:P.underlying b=some (.int kb)) (hc:P.underlying c=some .string)
  (za:P.cellsOf a=1) (zb:P.cellsOf b=1) (zc:P.cellsOf c=1) (zt:P.cellsOf t=3) (m:Nat) (cs:List Value) (d:DataW H) (p:List MemPlace) (h:DataW.trod enc P W base sp held m t cs=some (d,p)):cs=f3 d:=by
 obtain ⟨xs,q,rfl,hx,hlen,hxl,hel⟩:=DataW.trod_struct ht h
 rw [zt] at hlen
 have e0:=hel 0 n0 rfl
 have e1:=hel 1 n1 rfl
 have e2:=hel 2 n2 rfl
 rw [hn0.1,hn0.2,za] at e0
 rw [hn1.1,hn1.2,zb] at e1
 rw [hn2.1,hn2.2,zc] at e2
 match cs,hlen with
 | [u,v,x],_=>
  match xs,(show xs.length=3 from hxl) with
  | [y0,y1,y2],_=>
   simp only [List.drop_zero,List.drop_succ_cons,List.take_succ_cons,List.take_zero,List.getElem?_cons_zero,List.getElem?_cons_succ] at e0 e1 e2
   have r0:=int_flat ha q _ y0.1 y0.2 e0
   have r1:=int_flat hb q _ y1.1 y1.2 e1
   have r2:=str_flat hc q _ y2.1 y2.2 e2
   simp only [Prod.mk.injEq] at hx
   rw [hx.1]
   show [u,v,x]=fI y0.1++fI y1.1++fS y2.1
   rw [<-r0, <-r1, <-r2]
   rfl
theorem row2_flat {H:Type} {enc:TypeId × Value->H} {P:Program} {W:World} {base:Nat} {sp:Nat->Bool} {held:Bool} {t a b c:TypeId} {ka:IntKind} {n0 n1:Field}
  (ht:P.underlying t=some (.struct #[n0,n1])) (hn0:n0.type=a/\n0.offset=0) (hn1:n1.type=b/\n1.offset=1) (ha:P.underlying a=some (.int ka)) (hb:P.underlying b=some (.array 4 c)) (hc:P.underlying c=some .string)
  (za:P.cellsOf a=1) (zb:P.cellsOf b=4) (zc:P.cellsOf c=1) (zt:P.cellsOf t=5) (m:Nat) (cs:List Value) (d:DataW H) (p:List MemPlace) (h:DataW.trod enc P W base sp held m t cs=some (d,p)):cs=f2 d:=by
 obtain ⟨xs,q,rfl,hx,hlen,hxl,hel⟩:=DataW.trod_struct ht h
 rw [zt] at hlen
 have e0:=hel 0 n0 rfl
 have e1:=hel 1 n1 rfl
 rw [hn0.1,hn0.2,za] at e0
 rw [hn1.1,hn1.2,zb] at e1
 match cs,hlen with
 | [u,v,x,y,z],_=>
  match xs,(show xs.length=2 from hxl) with
  | [y0,y1],_=>
   simp only [List.drop_zero,List.drop_succ_cons,List.take_succ_cons,List.take_zero,List.getElem?_cons_zero,List.getElem?_cons_succ] at e0 e1
   have r0:=int_flat ha q _ y0.1 y0.2 e0
   have r1:=agg_flat hb zc (by rw [zb]) fS (str_flat hc) q _ y1.1 y1.2 e1
   simp only [Prod.mk.injEq] at hx
   rw [hx.1]
   show [u,v,x,y,z]=fI y0.1++fA fS y1.1
   rw [<-r0, <-r1]
   rfl
theorem range_of {W:World} {P:Program} {n:String} {g:Nat} {cs:Array Value} {vs:List Value} (hg:P.globalNamed n=some g) (hv:W.var? P n=some cs) (h:cs.toList=vs):W.rangeAt g 0 vs:=fun j v hj=>by
 have:=World.var?_cell hg hv j
 rw [Nat.zero_add]
 rw [this, <-hj, <-h]
 simp
end Go.Proofs.YtadneimllbfdnaaGreatDoor
