import Derived.Test.YtadneimllbfdnaaGreatDoorGu08
import Derived.Lib.ConvBytes
import Derived.Lib.AtoiAllMem
namespace Go.Proofs.YtadneimllbfdnaaGreatDoor
open Go.RowKit
set_option linter.unusedVariables false
set_option linter.unusedSimpArgs false
def regL (k:Nat):List UInt8:=if k=10 then [114,49,48] else [114,UInt8.ofNat (48+k)]
def RegT (w:World):Prop:=∀ k,k<11->w.cell? ⟨2,k,none⟩=some (.string ⟨(regL k).toArray⟩)
theorem idx11s (s:Nat->Value) (k:Nat) (hk:(k:Int)<11) (w:World):(Instr.index 133 (.agg #[s 0,s 1,s 2,s 3,s 4,s 5,s 6,s 7,s 8,s 9,s 10]) (.int .i64 k)).run Tryz.prog w=.ok (s k) w:=by
 rcases (show k=0\/k=1\/k=2\/k=3\/k=4\/k=5\/k=6\/k=7\/k=8\/k=9\/k=10 from by omega) with rfl | rfl | rfl | rfl | rfl | rfl | rfl | rfl | rfl | rfl | rfl <;> kernel_rfl
def regIs (l:List UInt8) (k:Nat):Prop:=k<11/\l=regL k
def registerS (r:RS) (r':RS) (n:Int):Prop:=(∃ k,regIs r.tok k/\r'=r.next/\n=k)\/((∀ k,¬regIs r.tok k)/\r' = { r with wrong:=true }/\n=0)
def RegEnd (p:Nat) (r:RS) (w:World) (e:Ending) (w':World):Prop:=∃ n r',e=.returned (.int .i64 n)/\registerS r r' n/\MEnd p r' w w'
set_option maxRecDepth 20000 in
set_option maxHeartbeats 800000 in
theorem register_any (w:World) (p:Nat) (r:RS) (h:RdAt w p r.cells) (hs:Sm r) (ht:RegT w):Calls Tryz.prog 174 #[.pointer (some ⟨p,0,none⟩)] w fun e w'=>RegEnd p r w e w':=by
 have CN:=hidOf (nextR w p r h hs)
 have H:=hidOf h
 obtain ⟨g,hg⟩:∃ g:Nat->List UInt8,g=regL:=⟨_,rfl⟩
 have hl:∀ k,k<11->w.cell? ⟨2,k,none⟩=some (.string ⟨(g k).toArray⟩):=by rw [hg];exact ht
 have HG:=hidOf hg
 clear hg ht
 have c1:w.cell? ⟨p,1,none⟩=some (.string ⟨r.tok.toArray⟩):=h.cell 1
 have c8:w.cell? ⟨p,8,none⟩=some (.bool r.wrong):=h.cell 8
 have f8:=h.frozen 8
 clear h hs
 have hix:=idx11s (fun k=>.string ⟨(g k).toArray⟩)
 go_enter Tryz.func174,Tryz.ntmps174
 go_wp2
 clear hl
 go_loopw [6] (fun iv wr=>∃ k:Nat,k<=11/\iv=.int .i64 k/\Hid (∀ j,j<k->r.tok ≠ g j)/\wr=w) (fun iv _=>11 - (intOf iv).toNat)
 case atStart=>exact ⟨0,by omega,rfl,fun j hj=>by omega,rfl⟩
 case round=>
  obtain ⟨k,hk,rfl,Hno,rfl⟩:=hrel
  by_cases hk11:k<11
  ·
   have hlt:(k:Int)<11:=by omega
   by_cases he:r.tok=g k
   ·
    have He:=hidOf he
    go_wp2_with (go_at_call 106;refine CN.out.mono ?_;rintro e w1 ⟨⟨v,rfl⟩,hend⟩;have Hend:=hidOf hend;clear hend)
    go_ret
    exact ⟨k,r.next,rfl,.inl ⟨k,⟨hk11,by rw [He.out,HG.out]⟩,rfl,rfl⟩,Hend.out⟩
   ·
    have h1:(r.tok == g k)=false:=by simpa using he
    have Hno':Hid (∀ j,j<k+1->r.tok ≠ g j):=fun j hj=>by
     by_cases z:j=k
     · subst z;exact he
     · exact Hno.out j (by omega)
    go_wp2
    go_roundw
    case rel=>exact ⟨k+1,by omega,by simp,Hno',trivial⟩
    case measure=>simp [intOf];omega
  ·
   have hlt:¬(k:Int)<11:=by omega
   obtain rfl:k=11:=by omega
   go_wp2
   go_ret
   refine ⟨0, { r with wrong:=true },rfl,.inr ⟨fun j hj=>?_,rfl,rfl⟩,H.out.set 8 _,Chg.setCell (Chg.refl (fun k=>k=p) _) (p:=⟨p,8,none⟩) (show p=p from rfl) _⟩
   exact Hno.out j hj.1 (by rw [HG.out];exact hj.2)
def newR (l:List UInt8):RS:=RS.next ⟨l,[],0,0,0,0,0,[],false,false⟩
theorem newR_sm {l:List UInt8} (h:l.length<=140737488355328):Sm (newR l):=Sm.next (r:=⟨l,[],0,0,0,0,0,[],false,false⟩) ⟨h,Nat.zero_le _⟩
theorem newReader_any (w:World) (l:List UInt8) (h:l.length<=140737488355328):Calls Tryz.prog 103 #[.string ⟨l.toArray⟩] w fun e w'=>∃ p,e=.returned (.pointer (some ⟨p,0,none⟩))/\w.heap.size<=p/\RdAt w' p (newR l).cells/\Out w w':=by
 have CN:Hid (∀ wx p,RdAt wx p (RS.cells ⟨l,[],0,0,0,0,0,[],false,false⟩)->Calls Tryz.prog 106 #[.pointer (some ⟨p,0,none⟩)] wx fun e w'=>(∃ v,e=.returned v)/\MEnd p (newR l) wx w'):=fun wx p hx=>nextR wx p _ hx ⟨h,Nat.zero_le _⟩
 have H0:Hid (RdAt (w.alloc (.cells #[.string ⟨l.toArray⟩,.string ⟨#[]⟩,.int .i64 0,.int .i64 0,.int .i64 0,.int .i64 0,.int .i64 0,.string ⟨#[]⟩,.bool false,.bool false] 157)) w.heap.size (RS.cells ⟨l,[],0,0,0,0,0,[],false,false⟩)):=heap_alloc_new w _
 go_enter Tryz.func103,Tryz.ntmps103
 go_wp2_with (go_at_call 106;go_loud (refine (CN.out _ _ H0.out).mono ?_);rintro e w1 ⟨⟨v,rfl⟩,hend⟩;have He:=hidOf hend;clear hend)
 go_ret
 exact ⟨w.heap.size,rfl,Nat.le_refl _,He.out.1,Chg.out He.out.2 ((Out.refl w).alloc _) (fun k hk=>by omega)⟩
def hexD (c:Int):Int:=if c<=57 then c - 48 else if 97<=c then c - 87 else c - 55
theorem lower_any (c:Int) (w:World):Calls Tryz.prog 191 #[.int .u8 c] w fun e w'=>e=.returned (.int .u8 (bits .or .u8 c 32))/\w=w':=by
 go_enter Tryz.func191,Tryz.ntmps191
 go_wp2
 go_ret
 exact ⟨rfl,rfl⟩
theorem low_hex:∀ n:Fin 256,hexP (n.val:Int)=true->digP (n.val:Int)=false->97<=bits .or .u8 (n.val:Int) 32/\bits .or .u8 (n.val:Int) 32<=102/\bits .or .u8 (n.val:Int) 32 - 87=hexD (n.val:Int):=by decide +kernel
theorem low65:∀ n:Fin 256,hexP (n.val:Int)=true->digP (n.val:Int)=false->65<=(n.val:Int):=by decide +kernel
theorem dig_hex:∀ n:Fin 256,digP (n.val:Int)=true->hexD (n.val:Int)=(n.val:Int) - 48/\48<=(n.val:Int)/\(n.val:Int)<=57:=by decide +kernel
theorem not95:∀ n:Fin 256,hexP (n.val:Int)=true->((n.val:Int) == 95)=false:=by decide +kernel
def hexV:Int->List UInt8->Int
 | a,[]=>a
 | a,b::l=>hexV (a*16+hexD (bI b)) l
def cap16 (k:Nat):Int:=16 ^ k
theorem cap16_le:∀ k,k<=15->cap16 k<=1152921504606846976:=by decide
theorem cap16_succ (k:Nat):cap16 (k+1)=cap16 k*16:=Int.pow_succ _ _
theorem hexD_rng:∀ n:Fin 256,hexP (n.val:Int)=true->0<=hexD (n.val:Int)/\hexD (n.val:Int)<=15:=by decide +kernel
theorem hexV_snoc (a:Int) (l:List UInt8) (b:UInt8):hexV a (l++[b])=hexV a l*16+hexD (bI b):=by
 induction l generalizing a with
 | nil=>rfl
 | cons x l ih=>exact ih _
set_option maxRecDepth 20000 in
set_option maxHeartbeats 4000000 in
theorem parse16 (t:ByteArray) (hne:t.size ≠ 0) (h16:t.size<=16) (hall:∀ b ∈ t.data.toList,hexP (bI b)=true) (w:World) :
  Calls Tryz.prog 184 #[.string t,.int .i64 16,.int .i64 64] w fun e w'=>e=.returned (.tuple #[.int .u64 (hexV 0 t.data.toList),.nilIface])/\w'=Lib.bytesWorld w 5 t:=by
 obtain ⟨hie,hne'⟩:=isEmpty_of hne
 have hcv:=Lib.run_convert_string_bytes (P:=Tryz.prog) w 9 35 5 t (u:=.string) Tryz.underlying9 Tryz.underlying35 Tryz.underlying5
 have HB:Hid (∀ j,j<t.size->(Lib.bytesWorld w 5 t).cell? ⟨w.heap.size,j,none⟩=some (.int .u8 (t.data.toList.getD j 0).toNat)):=fun j hj=>Lib.bytesWorld_cell w 5 t j hj
 have HA:=hidOf hall
 clear hall
 obtain ⟨W1,hW1⟩:∃ W1,W1=Lib.bytesWorld w 5 t:=⟨_,rfl⟩
 rw [<-hW1] at hcv HB ⊢
 clear hW1
 obtain ⟨bs,hL⟩:∃ bs,bs=t.data.toList:=⟨_,rfl⟩
 have hLn:bs.length=t.size:=by rw [hL];rfl
 rw [<-hL] at HB HA ⊢
 clear hL
 have hmv:IntKind.u64.wrap (IntKind.u64.wrap 18446744073709551616 - 1)=18446744073709551615:=by
  rw [IntKind.wrap_u64,IntKind.wrap_u64];decide
 go_enter Tryz.func184,Tryz.ntmps184
 go_wp2
 go_loop [12,13,101] (fun vu vn vi=>∃ (k:Nat) (a:Int),vu=.bool false/\vn=.int .u64 a/\vi=.int .i64 k/\k<=t.size/\Hid (0<=a/\a<cap16 k/\a=hexV 0 (bs.take k))) (fun _ _ vi=>t.size - (intOf vi).toNat)
 case atStart=>exact ⟨0,0,rfl,rfl,rfl,by omega,by omega,by decide,rfl⟩
 case round=>
  obtain ⟨k,a,rfl,rfl,rfl,hk,hh⟩:=hrel
  by_cases hkn:k<t.size
  ·
   have hc:=HB.out k hkn
   have hget:bs[k]? = some (bs[k]'(by omega)):=List.getElem?_eq_getElem (by omega)
   have hgd:bs.getD k 0=bs[k]'(by omega):=by simp [List.getD,hget]
   have hx:=HA.out _ (List.getElem_mem (show k<bs.length by omega))
   rw [hgd] at hc
   have htk:bs.take (k+1)=bs.take k++[bs[k]'(by omega)]:=by rw [List.take_add_one,hget];rfl
   have hcap:=cap16_le k (by omega)
   have hcs:=cap16_succ k
   obtain ⟨a0,a1,a2⟩:=hh.out
   have hv:=hexV_snoc 0 (bs.take k) (bs[k]'(by omega))
   rw [<-htk, <-a2] at hv
   generalize bs[k]'(by omega)=cb at hc hx hv
   have h256:cb.toNat<256:=cb.toNat_lt
   have hr:=hexD_rng ⟨cb.toNat,h256⟩ hx
   have h95:=not95 ⟨cb.toNat,h256⟩ hx
   have hlw:=low_hex ⟨cb.toNat,h256⟩ hx
   have hdg:=dig_hex ⟨cb.toNat,h256⟩
   have h65:=low65 ⟨cb.toNat,h256⟩ hx
   simp only at hr h95 hlw hdg h65
   have hbI:bI cb=(cb.toNat:Int):=rfl
   rw [hbI] at hv
   generalize hD:hexD (cb.toNat:Int)=dd at *
   have HN:Hid (0<=a*16+dd/\a*16+dd<cap16 (k+1)/\a*16+dd=hexV 0 (bs.take (k+1))):=⟨by omega,by omega,hv.symm⟩
   have icut:a<1152921504606846976:=by omega
   have iov:a*16+dd<18446744073709551616:=by omega
   have i0:0<=a*16:=by omega
   obtain ⟨r0,r1⟩:=hr
   clear hh a1 a2 hv hcap hcs hget hgd htk hD hbI hx HB
   cases hdig:digP (cb.toNat:Int)
   ·
    obtain ⟨l0,l1,l2⟩:=hlw hdig
    have c65:=h65 hdig
    have c57:¬(cb.toNat:Int)<=57:=by omega
    have CL:Hid (∀ wx:World,Calls Tryz.prog 191 #[.int .u8 (cb.toNat:Int)] wx fun e w'=>e=.returned (.int .u8 (dd+87))/\wx=w'):=fun wx=>by
     have h:=lower_any (cb.toNat:Int) wx
     rw [show bits .or .u8 (cb.toNat:Int) 32=dd+87 by omega] at h
     exact h
    have q0:97<=dd+87:=by omega
    have q1:dd+87<=122:=by omega
    have q2:10<=dd:=by omega
    clear hlw hdg hdig l0 l1 l2 h65
    go_wp2_with (go_at_call 191;refine (CL.out _).mono ?_;rintro e w3 ⟨rfl,rfl⟩)
    exact ⟨⟨k+1,a*16+dd,rfl,by congr 1;omega,by simp,by omega,HN⟩,by simp [intOf];omega⟩
   ·
    obtain ⟨e1,e2,e3⟩:=hdg hdig
    clear hlw hdg hdig h65
    subst e1
    go_wp2
    exact ⟨⟨k+1,_,rfl,rfl,by simp,by omega,HN⟩,by simp [intOf];omega⟩
  ·
   obtain rfl:k=t.size:=by omega
   obtain ⟨a0,a1,a2⟩:=hh.out
   have e1:bs.take t.size=bs:=List.take_of_length_le (by omega)
   rw [e1] at a2
   have A2:=hidOf a2
   clear hh a2 a1
   go_wp2
   go_ret2
   exact ⟨by rw [A2.out];rfl,rfl⟩
theorem info_ok_out (op:Int) (w:World) (h:TabO w) (hf:(formP op == 0)=false):Calls Tryz.prog 79 #[.int .i64 op] w fun e w'=>e=.returned (.tuple #[.agg #[.int .i64 (formP op),.int .i64 (groupP op (formP op)),.bool (useD op (formP op)),.bool (useS op (formP op)),.bool (useO op (formP op)),.bool (useI op (formP op))],.int .i64 0])/\Out w w':=
 (info_ok op w h hf).mono fun e w' ⟨he,hw⟩=>⟨he,by rw [<-hw];exact (((Out.refl w).alloc _).alloc _).alloc _⟩
theorem carries_any (o d s f i:Int) (w:World):Calls Tryz.prog 84 #[.agg #[.int .i64 o,.int .i64 d,.int .i64 s,.int .i64 f,.int .i64 i]] w fun e w'=>e=.returned (.bool (decide (8<=f)))/\Out w w':=by
 go_enter Tryz.func84,Tryz.ntmps84
 go_wp2
 go_ret
 exact ⟨rfl,(Out.refl w).alloc _⟩
def opdsP (c s f:Int) (us:Bool):Int × Int × Int:=
 if c=3 then (if 8<=f then (1,2,0) else (1,4,0)) else if c=2 then (1,0,0) else if c=4 then (1,5,0) else if c=5\/c=6 then (if us then (6,2,0) else (6,3,0)) else if c=7 then (7,0,0) else if c=8 then (1,4,7) else if c=9 then (8,0,0) else if c=10 then (if s=1 then (1,7,0) else (1,3,0)) else (0,0,0)
def opdV (t:Int × Int × Int):Value:=.agg #[.int .u8 t.1,.int .u8 t.2.1,.int .u8 t.2.2]
theorem Out.setCell {w w':World} (h:Out w w') {a:Addr} (ha:w.heap.size<=a.block) (u:Value):Out w (w'.setCell a u):=Below.setCell h ha u
theorem new_cell (w:World) (cs:Array Value) (t:TypeId) (j:Nat):(w.alloc (.cells cs t)).cell? ⟨w.heap.size,j,none⟩=cs[j]?:=by
 have h:(w.alloc (.cells cs t)).heap[w.heap.size]? = some (.cells cs t (0,0)):=heap_alloc_new w (.cells cs t)
 unfold World.cell?
 simp only
 rw [h]
 rfl
theorem size64:(Tryz.prog.info? 106).map (·.size)=some 3:=by kernel_rfl
theorem set3_heap {w:World} {b:Nat} {t:TypeId} {x y z u v q:Value} (h:w.heap[b]? = some (.cells #[u,v,q] t (0,0))):(((w.setCell ⟨b,0,none⟩ x).setCell ⟨b,1,none⟩ y).setCell ⟨b,2,none⟩ z).heap[b]? = some (.cells #[x,y,z] t (0,0)):=by
 simp [World.setCell,Array.getElem?_modify,h]
theorem opds_ft (o d s f i:Int) (w w1:World) (Hb:Hid (Out ((w.alloc (.cells #[.int .i64 o,.int .i64 d,.int .i64 s,.int .i64 f,.int .i64 i] 40)).alloc (.cells #[.int .u8 0,.int .u8 0,.int .u8 0] 106)) w1)):w1.cell? ⟨w.heap.size,3,none⟩=some (.int .i64 f)/\w1.cell? ⟨w.heap.size,2,none⟩=some (.int .i64 s)/\w1.cell? ⟨w.heap.size+1,0,none⟩=some (.int .u8 0)/\w1.cell? ⟨w.heap.size+1,1,none⟩=some (.int .u8 0)/\w1.cell? ⟨w.heap.size+1,2,none⟩=some (.int .u8 0)/\Hid (w1.heap[w.heap.size+1]? = some (.cells #[.int .u8 0,.int .u8 0,.int .u8 0] 106 (0,0)))/\(∀ O:Obj,(w1.alloc O).cell? ⟨w.heap.size+1,0,none⟩=some (.int .u8 0))/\(∀ O:Obj,(w1.alloc O).cell? ⟨w.heap.size+1,1,none⟩=some (.int .u8 0))/\(∀ O:Obj,(w1.alloc O).cell? ⟨w.heap.size+1,2,none⟩=some (.int .u8 0))/\(∀ O:Obj,(w1.alloc O).cell? ⟨w.heap.size,3,none⟩=some (.int .i64 f))/\(∀ O:Obj,(w1.alloc O).cell? ⟨w.heap.size,2,none⟩=some (.int .i64 s))/\(Hid (∀ O:Obj,(w1.alloc O).heap[w.heap.size+1]? = some (.cells #[.int .u8 0,.int .u8 0,.int .u8 0] 106 (0,0))))/\(∀ O:Obj,(w1.alloc O).frozen? ⟨w.heap.size+1,0,none⟩=false)/\(∀ O:Obj,(w1.alloc O).frozen? ⟨w.heap.size+1,1,none⟩=false)/\(∀ O:Obj,(w1.alloc O).frozen? ⟨w.heap.size+1,2,none⟩=false):=by
 have HBX:Hid (((w.alloc (.cells #[.int .i64 o,.int .i64 d,.int .i64 s,.int .i64 f,.int .i64 i] 40)).alloc (.cells #[.int .u8 0,.int .u8 0,.int .u8 0] 106)).cell? ⟨w.heap.size,2,none⟩=some (.int .i64 s)/\((w.alloc (.cells #[.int .i64 o,.int .i64 d,.int .i64 s,.int .i64 f,.int .i64 i] 40)).alloc (.cells #[.int .u8 0,.int .u8 0,.int .u8 0] 106)).cell? ⟨w.heap.size,3,none⟩=some (.int .i64 f)/\(∀ j:Fin 3,((w.alloc (.cells #[.int .i64 o,.int .i64 d,.int .i64 s,.int .i64 f,.int .i64 i] 40)).alloc (.cells #[.int .u8 0,.int .u8 0,.int .u8 0] 106)).cell? ⟨w.heap.size+1,j.val,none⟩=some (.int .u8 0))/\((w.alloc (.cells #[.int .i64 o,.int .i64 d,.int .i64 s,.int .i64 f,.int .i64 i] 40)).alloc (.cells #[.int .u8 0,.int .u8 0,.int .u8 0] 106)).heap[w.heap.size+1]? = some (.cells #[.int .u8 0,.int .u8 0,.int .u8 0] 106 (0,0))):=by
  generalize hB:w.alloc (.cells #[.int .i64 o,.int .i64 d,.int .i64 s,.int .i64 f,.int .i64 i] 40)=wB
  have hz:wB.heap.size=w.heap.size+1:=by rw [<-hB,size_alloc]
  have hx:wB.heap[w.heap.size]? = some (.cells #[.int .i64 o,.int .i64 d,.int .i64 s,.int .i64 f,.int .i64 i] 40 (0,0)):=by rw [<-hB];exact heap_alloc_new w _
  have hn:(wB.alloc (.cells #[.int .u8 0,.int .u8 0,.int .u8 0] 106)).heap[w.heap.size+1]? = some (.cells #[.int .u8 0,.int .u8 0,.int .u8 0] 106 (0,0)):=by rw [<-hz];exact heap_alloc_new wB _
  have ho:(wB.alloc (.cells #[.int .u8 0,.int .u8 0,.int .u8 0] 106)).heap[w.heap.size]? = some (.cells #[.int .i64 o,.int .i64 d,.int .i64 s,.int .i64 f,.int .i64 i] 40 (0,0)):=(Below.heap_alloc wB _ _ (by omega)).trans hx
  refine ⟨by simp [World.cell?,ho],by simp [World.cell?,ho],fun j=>?_,hn⟩
  match j with
  | 0=>simp [World.cell?,hn]
  | 1=>simp [World.cell?,hn]
  | 2=>simp [World.cell?,hn]
 have b3:=cell_later Hb.out HBX.out.2.1
 have b2:=cell_later Hb.out HBX.out.1
 have r0:=cell_later Hb.out (HBX.out.2.2.1 0)
 have r1:=cell_later Hb.out (HBX.out.2.2.1 1)
 have r2:=cell_later Hb.out (HBX.out.2.2.1 2)
 simp only [Fin.isValue,Fin.val_zero,Fin.val_one,Fin.val_two] at r0 r1 r2
 have HR:Hid (w1.heap[w.heap.size+1]? = some (.cells #[.int .u8 0,.int .u8 0,.int .u8 0] 106 (0,0))):=(Below.block Hb.out _ (by rw [size_alloc,size_alloc];omega)).trans HBX.out.2.2.2
 have a0:∀ O:Obj,(w1.alloc O).cell? ⟨w.heap.size+1,0,none⟩=some (.int .u8 0):=fun O=>cell_later ((Out.refl w1).alloc O) r0
 have a1:∀ O:Obj,(w1.alloc O).cell? ⟨w.heap.size+1,1,none⟩=some (.int .u8 0):=fun O=>cell_later ((Out.refl w1).alloc O) r1
 have a2:∀ O:Obj,(w1.alloc O).cell? ⟨w.heap.size+1,2,none⟩=some (.int .u8 0):=fun O=>cell_later ((Out.refl w1).alloc O) r2
 have a3:∀ O:Obj,(w1.alloc O).cell? ⟨w.heap.size,3,none⟩=some (.int .i64 f):=fun O=>cell_later ((Out.refl w1).alloc O) b3
 have a4:∀ O:Obj,(w1.alloc O).cell? ⟨w.heap.size,2,none⟩=some (.int .i64 s):=fun O=>cell_later ((Out.refl w1).alloc O) b2
 have HRa:Hid (∀ O:Obj,(w1.alloc O).heap[w.heap.size+1]? = some (.cells #[.int .u8 0,.int .u8 0,.int .u8 0] 106 (0,0))):=fun O=>(Below.heap_alloc w1 O _ (Array.getElem?_eq_some_iff.1 HR.out).1).trans HR.out
 have g0:∀ O:Obj,(w1.alloc O).frozen? ⟨w.heap.size+1,0,none⟩=false:=fun O=>by simp [World.frozen?,HRa.out O]
 have g1:∀ O:Obj,(w1.alloc O).frozen? ⟨w.heap.size+1,1,none⟩=false:=fun O=>by simp [World.frozen?,HRa.out O]
 have g2:∀ O:Obj,(w1.alloc O).frozen? ⟨w.heap.size+1,2,none⟩=false:=fun O=>by simp [World.frozen?,HRa.out O]
 exact ⟨b3,b2,r0,r1,r2,HR,a0,a1,a2,a3,a4,HRa,g0,g1,g2⟩
theorem opds_S (o d s f i c g:Int) (u1 u2 u3 u4:Bool) (w:World) (CI:Hid (∀ wx:World,Out w wx->Calls Tryz.prog 79 #[.int .i64 o] wx fun e w'=>e=.returned (.tuple #[.agg #[.int .i64 c,.int .i64 g,.bool u1,.bool u2,.bool u3,.bool u4],.int .i64 0])/\Out wx w')) (hc:c=2\/c=4\/c=7\/c=8\/c=9):Calls Tryz.prog 58 #[.agg #[.int .i64 o,.int .i64 d,.int .i64 s,.int .i64 f,.int .i64 i]] w fun e w'=>e=.returned (opdV (opdsP c s f u2))/\Out w w':=by
 rcases hc with rfl | rfl | rfl | rfl | rfl
 all_goals
  go_enter Tryz.func58,Tryz.ntmps58
  go_upto_region 2 with (go_at_call 79;go_loud (refine (CI.out _ (((Out.refl w).alloc _).alloc _)).mono ?_);rintro e w1 ⟨rfl,ho1⟩;have Hb:=hidOf ho1;clear ho1)
  have Ho1:=hidOf (Out.trans (((Out.refl w).alloc _).alloc _) Hb.out)
  obtain ⟨b3,b2,r0,r1,r2,HR,a0,a1,a2,a3,a4,HRa,g0,g1,g2⟩:=opds_ft o d s f i w w1 Hb
  go_wp2
  refine bodyPost_ret (results_cell_row rfl _ _ (w.heap.size+1) 106 _ (0,0) _ rfl (set3_heap (HRa.out _)) Tryz.underlying106 rfl size64) rfl ?_
  exact ⟨by first | rfl | simp [opdV,opdsP, *],(((Ho1.out.alloc _).setCell (a:=⟨w.heap.size+1,0,none⟩) (by simp) _).setCell (a:=⟨w.heap.size+1,1,none⟩) (by simp) _).setCell (a:=⟨w.heap.size+1,2,none⟩) (by simp) _⟩
theorem opds_U (o d s f i c g:Int) (u1 u2 u3 u4:Bool) (w:World) (CI:Hid (∀ wx:World,Out w wx->Calls Tryz.prog 79 #[.int .i64 o] wx fun e w'=>e=.returned (.tuple #[.agg #[.int .i64 c,.int .i64 g,.bool u1,.bool u2,.bool u3,.bool u4],.int .i64 0])/\Out wx w')) (hc:c=5\/c=6):Calls Tryz.prog 58 #[.agg #[.int .i64 o,.int .i64 d,.int .i64 s,.int .i64 f,.int .i64 i]] w fun e w'=>e=.returned (opdV (opdsP c s f u2))/\Out w w':=by
 rcases hc with rfl | rfl
 all_goals cases u2
 all_goals
  go_enter Tryz.func58,Tryz.ntmps58
  go_upto_region 2 with (go_at_call 79;go_loud (refine (CI.out _ (((Out.refl w).alloc _).alloc _)).mono ?_);rintro e w1 ⟨rfl,ho1⟩;have Hb:=hidOf ho1;clear ho1)
  have Ho1:=hidOf (Out.trans (((Out.refl w).alloc _).alloc _) Hb.out)
  obtain ⟨b3,b2,r0,r1,r2,HR,a0,a1,a2,a3,a4,HRa,g0,g1,g2⟩:=opds_ft o d s f i w w1 Hb
  go_wp2
  refine bodyPost_ret (results_cell_row rfl _ _ (w.heap.size+1) 106 _ (0,0) _ rfl (set3_heap (HRa.out _)) Tryz.underlying106 rfl size64) rfl ?_
  exact ⟨by first | rfl | simp [opdV,opdsP, *],(((Ho1.out.alloc _).setCell (a:=⟨w.heap.size+1,0,none⟩) (by simp) _).setCell (a:=⟨w.heap.size+1,1,none⟩) (by simp) _).setCell (a:=⟨w.heap.size+1,2,none⟩) (by simp) _⟩
theorem opds_10t (o d s f i c g:Int) (u1 u2 u3 u4:Bool) (w:World) (CI:Hid (∀ wx:World,Out w wx->Calls Tryz.prog 79 #[.int .i64 o] wx fun e w'=>e=.returned (.tuple #[.agg #[.int .i64 c,.int .i64 g,.bool u1,.bool u2,.bool u3,.bool u4],.int .i64 0])/\Out wx w')) (hc:c=10) (hs:s=1):Calls Tryz.prog 58 #[.agg #[.int .i64 o,.int .i64 d,.int .i64 s,.int .i64 f,.int .i64 i]] w fun e w'=>e=.returned (opdV (opdsP c s f u2))/\Out w w':=by
 subst hc
 have hs1:(s == 1)=true:=by simpa using hs
 have Hs:=hidOf hs
 clear hs
 go_enter Tryz.func58,Tryz.ntmps58
 go_upto_region 2 with (go_at_call 79;go_loud (refine (CI.out _ (((Out.refl w).alloc _).alloc _)).mono ?_);rintro e w1 ⟨rfl,ho1⟩;have Hb:=hidOf ho1;clear ho1)
 have Ho1:=hidOf (Out.trans (((Out.refl w).alloc _).alloc _) Hb.out)
 obtain ⟨b3,b2,r0,r1,r2,HR,a0,a1,a2,a3,a4,HRa,g0,g1,g2⟩:=opds_ft o d s f i w w1 Hb
 go_wp2
 refine bodyPost_ret (results_cell_row rfl _ _ (w.heap.size+1) 106 _ (0,0) _ rfl (set3_heap (HRa.out _)) Tryz.underlying106 rfl size64) rfl ?_
 exact ⟨by simp [opdV,opdsP,Hs.out],(((Ho1.out.alloc _).setCell (a:=⟨w.heap.size+1,0,none⟩) (by simp) _).setCell (a:=⟨w.heap.size+1,1,none⟩) (by simp) _).setCell (a:=⟨w.heap.size+1,2,none⟩) (by simp) _⟩
theorem opds_10f (o d s f i c g:Int) (u1 u2 u3 u4:Bool) (w:World) (CI:Hid (∀ wx:World,Out w wx->Calls Tryz.prog 79 #[.int .i64 o] wx fun e w'=>e=.returned (.tuple #[.agg #[.int .i64 c,.int .i64 g,.bool u1,.bool u2,.bool u3,.bool u4],.int .i64 0])/\Out wx w')) (hc:c=10) (hs:¬s=1):Calls Tryz.prog 58 #[.agg #[.int .i64 o,.int .i64 d,.int .i64 s,.int .i64 f,.int .i64 i]] w fun e w'=>e=.returned (opdV (opdsP c s f u2))/\Out w w':=by
 subst hc
 have hs1:(s == 1)=false:=by simpa using hs
 go_enter Tryz.func58,Tryz.ntmps58
 go_upto_region 2 with (go_at_call 79;go_loud (refine (CI.out _ (((Out.refl w).alloc _).alloc _)).mono ?_);rintro e w1 ⟨rfl,ho1⟩;have Hb:=hidOf ho1;clear ho1)
 have Ho1:=hidOf (Out.trans (((Out.refl w).alloc _).alloc _) Hb.out)
 obtain ⟨b3,b2,r0,r1,r2,HR,a0,a1,a2,a3,a4,HRa,g0,g1,g2⟩:=opds_ft o d s f i w w1 Hb
 go_wp2
 refine bodyPost_ret (results_cell_row rfl _ _ (w.heap.size+1) 106 _ (0,0) _ rfl (set3_heap (HRa.out _)) Tryz.underlying106 rfl size64) rfl ?_
 exact ⟨by first | rfl | simp [opdV,opdsP, *],(((Ho1.out.alloc _).setCell (a:=⟨w.heap.size+1,0,none⟩) (by simp) _).setCell (a:=⟨w.heap.size+1,1,none⟩) (by simp) _).setCell (a:=⟨w.heap.size+1,2,none⟩) (by simp) _⟩
theorem opds_no (o d s f i c g:Int) (u1 u2 u3 u4:Bool) (w:World) (CI:Hid (∀ wx:World,Out w wx->Calls Tryz.prog 79 #[.int .i64 o] wx fun e w'=>e=.returned (.tuple #[.agg #[.int .i64 c,.int .i64 g,.bool u1,.bool u2,.bool u3,.bool u4],.int .i64 0])/\Out wx w')) (h2:¬c=2) (h3:¬c=3) (h4:¬c=4) (h5:¬c=5) (h6:¬c=6) (h7:¬c=7) (h8:¬c=8) (h9:¬c=9) (h10:¬c=10):Calls Tryz.prog 58 #[.agg #[.int .i64 o,.int .i64 d,.int .i64 s,.int .i64 f,.int .i64 i]] w fun e w'=>e=.returned (opdV (opdsP c s f u2))/\Out w w':=by
 have e2:(c == 2)=false:=by simpa using h2
 have e3:(c == 3)=false:=by simpa using h3
 have e4:(c == 4)=false:=by simpa using h4
 have e5:(c == 5)=false:=by simpa using h5
 have e6:(c == 6)=false:=by simpa using h6
 have e7:(c == 7)=false:=by simpa using h7
 have e8:(c == 8)=false:=by simpa using h8
 have e9:(c == 9)=false:=by simpa using h9
 have e10:(c == 10)=false:=by simpa using h10
 go_enter Tryz.func58,Tryz.ntmps58
 go_upto_region 2 with (go_at_call 79;go_loud (refine (CI.out _ (((Out.refl w).alloc _).alloc _)).mono ?_);rintro e w1 ⟨rfl,ho1⟩;have Hb:=hidOf ho1;clear ho1)
 have Ho1:=hidOf (Out.trans (((Out.refl w).alloc _).alloc _) Hb.out)
 obtain ⟨b3,b2,r0,r1,r2,HR,a0,a1,a2,a3,a4,HRa,g0,g1,g2⟩:=opds_ft o d s f i w w1 Hb
 go_wp2
 refine bodyPost_ret (results_cell_row rfl _ _ (w.heap.size+1) 106 _ (0,0) _ rfl (set3_heap (HRa.out _)) Tryz.underlying106 rfl size64) rfl ?_
 exact ⟨by first | rfl | simp [opdV,opdsP, *],(((Ho1.out.alloc _).setCell (a:=⟨w.heap.size+1,0,none⟩) (by simp) _).setCell (a:=⟨w.heap.size+1,1,none⟩) (by simp) _).setCell (a:=⟨w.heap.size+1,2,none⟩) (by simp) _⟩
end Go.Proofs.YtadneimllbfdnaaGreatDoor
