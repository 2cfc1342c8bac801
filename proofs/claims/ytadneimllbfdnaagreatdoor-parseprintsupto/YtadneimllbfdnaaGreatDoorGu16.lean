import Derived.Test.YtadneimllbfdnaaGreatDoorGu09
import Derived.Deep.AppendLies
import Derived.OwnWalk
import Derived.Lib.ItoaNum
namespace Go.Proofs.YtadneimllbfdnaaGreatDoor
open Go.RowKit
set_option linter.unusedVariables false
set_option linter.unusedSimpArgs false
theorem cell_later {w w':World} (o:Out w w') {a:Addr} {v:Value} (h:w.cell? a=some v):w'.cell? a=some v:=by
 rw [<-h];exact World.cell?_of_block (o.block _ (World.block_lt_of_cell? w a h))
theorem owns_chg {B size:Nat} {S:Nat->Prop} {w w':World} {e:TypeId} {v:Value} {n:Nat} {xs:List Value} (h:w.ownsRow B e size v n xs) (hs:∀ k,v.ownBlock=some k->¬S k) (hc:Chg S w w'):w'.ownsRow B e size v n xs:=by
 refine ⟨h.1, ?_⟩
 rcases h.2 with hn | ⟨g,cap,cur,rfl,hb,hg,rest⟩
 · exact .inl hn
 ·
  refine .inr ⟨g,cap,cur,rfl,hb, ?_,rest⟩
  rw [hc.block g (Array.getElem?_eq_some_iff.1 hg).1 (hs g rfl)]
  exact hg
theorem own_form {B n sz:Nat} {X:World} {e:TypeId} {v:Value} {xs:List Value} (h:X.ownsRow B e sz v n xs):∃ ad cp,v=.slice ad n cp:=by
 rcases h.2 with ⟨rfl,rfl⟩ | ⟨g,cap,cur,rfl,_⟩
 · exact ⟨none,0,rfl⟩
 · exact ⟨_,_,rfl⟩
theorem cell_fresh (w:World) (cs:Array Value) (t:TypeId) (j:Nat) (b:Nat) (hb:b=w.heap.size):(w.alloc (.cells cs t)).cell? ⟨b,j,none⟩=cs[j]?:=by
 subst hb
 rw [World.cell?,show (w.alloc (.cells cs t)).heap[w.heap.size]? = some (.cells cs t) from heap_alloc_new w _]
 rfl
theorem news_new (w:World) (cs:Array Value) (t:TypeId) (b:Nat) (hb:b=w.heap.size):∀ j u,cs.toList[j]? = some u->(w.alloc (.cells cs t)).cell? ((⟨b,0,none⟩:Addr).add j)=some u:=by
 intro j u hu
 rw [WideShapes.add_plain,Nat.zero_add,cell_fresh _ _ _ _ _ hb]
 simpa using hu
theorem cell_atL {w:World} {p:Nat} {cs:Array Value} {t:TypeId} (h:w.heap[p]? = some (.cells cs t (0,0))) (j:Nat):w.cell? ⟨p,j,none⟩=cs[j]?:=by simp [World.cell?,h]
theorem frozen_atL {w:World} {p:Nat} {cs:Array Value} {t:TypeId} (h:w.heap[p]? = some (.cells cs t (0,0))) (j:Nat):w.frozen? ⟨p,j,none⟩=false:=by simp [World.frozen?,h]
theorem set_atL {w:World} {p:Nat} {cs:Array Value} {t:TypeId} (h:w.heap[p]? = some (.cells cs t (0,0))) (j:Nat) (u:Value):(w.setCell ⟨p,j,none⟩ u).heap[p]? = some (.cells (cs.setIfInBounds j u) t (0,0)):=by
 simp [World.setCell,Array.getElem?_modify,h]
theorem own_kind {B s n:Nat} {w:World} {e t:TypeId} {v:Value} {xs:List Value} {b:Nat} {cs:Array Value} {fr:Nat × Nat} (h:w.ownsRow B e s v n xs) (hb:w.heap[b]? = some (.cells cs t fr)) (hne:¬e=t):¬v.ownBlock=some b:=fun hv=>by
 rcases h.2 with ⟨hx,_⟩ | ⟨g,cap,cur,hx,_,hg,_⟩
 · rw [hx] at hv;cases hv
 ·
  rw [hx] at hv
  simp [Value.ownBlock] at hv
  subst hv
  rw [hb] at hg;simp at hg;exact hne hg.2.1.symm
theorem Out.dN {w w':World} (h:Out w w') (n:Nat):Out w (w'.drewN n):=⟨h.os,h.tape,h.output,h.size,h.block⟩
theorem add_l4 (x y z:List UInt8) (hz:z=x++y) (h:x.length+y.length<=9223372036854775807) (w:World):(Op.stringOp .add ⟨x.toArray⟩ ⟨y.toArray⟩).run Tryz.prog w=.ok (.string ⟨z.toArray⟩) w:=by
 rw [run_string_add_sum w _ _ (by simp [ByteArray.size];omega),ByteArray.mk_append_mk,hz]
theorem fold_b4 (O:List UInt8):∀ r:ByteArray,(O.map (fun b=>(b.toNat:Int))).foldl (fun r n=>r.push (UInt8.ofNat n.toNat)) r=⟨r.data++O.toArray⟩:=by
 induction O with
 | nil=>intro r;simp
 | cons b l ih=>
  intro r
  rw [List.map_cons,List.foldl_cons,ih]
  simp [ByteArray.push]
theorem conv_l4 (w:World) (a:Addr) (cap:Nat) (O:List UInt8) (h:∀ j u,(Lib.byteCells O)[j]? = some u->w.cell? (a.add j)=some u):(convert 35 9 (.slice (some a) O.length cap)).run Tryz.prog w=.ok (.string ⟨O.toArray⟩) w:=by
 rw [run_convert_bytes_string w 35 9 5 (some a) O.length cap Tryz.underlying35 Tryz.underlying5 Tryz.underlying9]
 have h1:=run_loadCells_list (P:=Tryz.prog) w a (Lib.byteCells O) h
 rw [Lib.byteCells_length] at h1
 rw [run_bytesToString w a O.length cap (O.map (fun b=>(b.toNat:Int))) (by rw [show (O.map (fun b=>(b.toNat:Int))).map (Value.int .u8)=Lib.byteCells O from by simp [Lib.byteCells]];exact h1),fold_b4]
 simp
theorem conv_one (w:World) (q:Nat) (b:UInt8) (h:w.cell? ⟨q,0,none⟩=some (.int .u8 (b.toNat:Int))):(convert 35 9 (.slice (some ⟨q,0,none⟩) 1 1)).run Tryz.prog w=.ok (.string ⟨#[b]⟩) w:=
 conv_l4 w ⟨q,0,none⟩ 1 [b] (fun j u hu=>by
  match j,hu with
  | 0,hu=>simp [Lib.byteCells] at hu;subst hu;simpa [Addr.add] using h
  | j+1,hu=>simp [Lib.byteCells] at hu)
theorem conv_fresh (X:World) (b:UInt8):(convert 35 9 (.slice (some ⟨X.heap.size,0,none⟩) 1 1)).run Tryz.prog (X.alloc (.cells #[.int .u8 (b.toNat:Int)] 5))=.ok (.string ⟨#[b]⟩) (X.alloc (.cells #[.int .u8 (b.toNat:Int)] 5)):=
 conv_one _ _ b (by rw [new_cell];rfl)
theorem dig_byte (k:Nat) (h:k<10):((UInt8.ofNat (48+k)).toNat:Int)=48+(k:Int):=by
 rw [UInt8.toNat_ofNat_of_lt' (by show _<256;omega)];omega
theorem dec_len4 (u:Nat) (h:u<18446744073709551616):(Lib.decDigits u).length<=20:=by
 rw [Lib.decDigits_eq,List.length_map,List.length_range]
 by_cases h0:Lib.nDigits u<=20
 · exact h0
 ·
  exfalso
  have:∀ (k u:Nat),u<10 ^ k->0<k->Lib.nDigits u<=k:=by
   intro k
   induction k with
   | zero=>intro u _ h0;omega
   | succ k ih=>
    intro u hu _
    by_cases h1:u<10
    · rw [Lib.nDigits_small h1];omega
    ·
     rw [Lib.nDigits_big h1]
     have hk:0<k:=by
      rcases Nat.eq_zero_or_pos k with e | e
      · subst e;simp at hu;omega
      · exact e
     have:=ih (u / 10) (by rw [Nat.pow_succ] at hu;omega) hk
     omega
  have h2:=this 20 u (by omega) (by omega)
  omega
set_option maxRecDepth 8000 in
set_option maxHeartbeats 1000000 in
theorem decimal_any:∀ (u:Nat),u<18446744073709551616->∀ w:World,Calls Tryz.prog 94 #[.int .u64 (u:Int)] w fun e w'=>e=.returned (.string ⟨(Lib.decDigits u).toArray⟩)/\Out w w':=by
 intro u
 induction u using Nat.strongRecOn with
 | _ u ih=>
  intro hu w
  have hl:=dec_len4 u hu
  by_cases h:u<10
  ·
   have hD:Lib.decDigits u=[UInt8.ofNat (48+u)]:=by rw [Lib.decDigits,dif_pos h]
   obtain ⟨b,hb⟩:∃ b,b=UInt8.ofNat (48+u):=⟨_,rfl⟩
   have e2:48+(u:Int)=(b.toNat:Int):=by rw [hb,dig_byte u h]
   have e3:(b.toNat:Int) % 256=(b.toNat:Int):=by have:=b.toNat_lt;omega
   have hI:(u:Int)<10:=by omega
   have h0:(0:Int)<=u:=by omega
   have kc:=conv_fresh w b
   rw [hD, <-hb]
   clear hb hD ih hl
   go_enter Tryz.func94,Tryz.ntmps94
   go_wp2
   go_ret
   exact ⟨rfl,(Out.refl w).alloc _⟩
  ·
   have hD:Lib.decDigits u=Lib.decDigits (u / 10)++[UInt8.ofNat (48+u % 10)]:=by rw [Lib.decDigits,dif_neg h]
   obtain ⟨b,hb⟩:∃ b,b=UInt8.ofNat (48+u % 10):=⟨_,rfl⟩
   have hbt:=dig_byte (u % 10) (by omega)
   rw [<-hb] at hbt
   obtain ⟨m,hm⟩:∃ m:Int,(u:Int).tmod 10=m:=⟨_,rfl⟩
   have hm2:m=((u % 10:Nat):Int):=by rw [<-hm,Int.tmod_eq_emod_of_nonneg (by omega)];omega
   have t2:IntKind.u64.wrap (48+m)=(b.toNat:Int):=by rw [hbt,hm2];unfold IntKind.wrap;simp [IntKind.bits];omega
   have t3:IntKind.u8.wrap (b.toNat:Int)=(b.toNat:Int):=by rw [hbt];unfold IntKind.wrap;simp [IntKind.bits];omega
   clear hm2 hbt
   have hI:¬(u:Int)<10:=by omega
   have h0:(0:Int)<=u:=by omega
   have huI:(u:Int)<18446744073709551616:=by omega
   obtain ⟨D,hDD⟩:∃ D,D=Lib.decDigits (u / 10):=⟨_,rfl⟩
   have CD:Hid (∀ wx,Calls Tryz.prog 94 #[.int .u64 (IntKind.u64.wrap ((u:Int) / 10))] wx fun e w'=>e=.returned (.string ⟨D.toArray⟩)/\Out wx w'):=hidOf (fun wx=>by rw [hDD,show IntKind.u64.wrap ((u:Int) / 10)=((u / 10:Nat):Int) by unfold IntKind.wrap;simp [IntKind.bits];omega];exact ih (u / 10) (by omega) (by omega) wx)
   obtain ⟨Z,hZ⟩:∃ Z,Z=D++[b]:=⟨_,rfl⟩
   have hDl:D.length<=20:=by rw [hDD];exact dec_len4 _ (by omega)
   have a1:∀ w,(Op.stringOp .add ⟨D.toArray⟩ ⟨#[b]⟩).run Tryz.prog w=.ok (.string ⟨Z.toArray⟩) w:=add_l4 D [b] Z hZ (by simp;omega)
   have kc:∀ X:World,(convert 35 9 (.slice (some ⟨X.heap.size,0,none⟩) 1 1)).run Tryz.prog (X.alloc (.cells #[.int .u8 (b.toNat:Int)] 5))=.ok (.string ⟨#[b]⟩) (X.alloc (.cells #[.int .u8 (b.toNat:Int)] 5)):=fun X=>conv_fresh X b
   have kd:(convert 35 9 (.slice (some ⟨w.heap.size,0,none⟩) 1 1)).run Tryz.prog (w.alloc (.cells #[.int .u8 (b.toNat:Int)] 5)).drew=.ok (.string ⟨#[b]⟩) (w.alloc (.cells #[.int .u8 (b.toNat:Int)] 5)).drew:=conv_one _ _ b (show (w.alloc (.cells #[.int .u8 (b.toNat:Int)] 5)).cell? ⟨w.heap.size,0,none⟩=_ from by rw [new_cell];rfl)
   rw [hD, <-hb, <-hDD, <-hZ]
   clear hb hD ih hl hDD hZ hDl
   go_enter Tryz.func94,Tryz.ntmps94
   go_upto_region 3 with fail
   go_region_law (first | (go_simp;go_at_call 94;refine (CD.out _).mono ?_;rintro e w1 ⟨rfl,ho⟩;(try dsimp only);have O1:=hidOf ho;(try have kc1:=conv_one w1 w.heap.size b (cell_later O1.out (show (w.alloc (.cells #[.int .u8 (b.toNat:Int)] 5)).cell? ⟨w.heap.size,0,none⟩=some (.int .u8 (b.toNat:Int)) from by rw [new_cell];rfl)));clear ho))
   all_goals
    go_wp2
    go_ret
    refine ⟨rfl, ?_⟩
    first | exact (Out.trans ((Out.refl w).drew) O1.out).alloc _ | exact Out.trans (((Out.refl w).alloc _).drew) O1.out
theorem itoa_len4 (x:Int) (h0 : -9223372036854775808<=x) (h1:x<9223372036854775808):(Lib.itoa x).length<=21:=by
 unfold Lib.itoa
 split
 ·
  have:=dec_len4 x.natAbs (by omega)
  simp;omega
 ·
  have:=dec_len4 x.toNat (by omega)
  omega
set_option maxRecDepth 8000 in
theorem Decimal_any (x:Int) (h0 : -9223372036854775808<=x) (h1:x<9223372036854775808) (w:World):Calls Tryz.prog 65 #[.int .i64 x] w fun e w'=>e=.returned (.string ⟨(Lib.itoa x).toArray⟩)/\Out w w':=by
 by_cases h:x<0
 ·
  obtain ⟨D,hD⟩:∃ D,D=Lib.decDigits x.natAbs:=⟨_,rfl⟩
  obtain ⟨Z,hZ⟩:∃ Z,Z=[45]++D:=⟨_,rfl⟩
  have hl:D.length<=20:=by rw [hD];exact dec_len4 _ (by omega)
  have hI:Lib.itoa x=Z:=by rw [hZ,hD];simp [Lib.itoa,h]
  have a1:∀ w,(Op.stringOp .add ⟨#[45]⟩ ⟨D.toArray⟩).run Tryz.prog w=.ok (.string ⟨Z.toArray⟩) w:=add_l4 [45] D Z hZ (by simp;omega)
  obtain ⟨y,hy⟩:∃ y:Int,IntKind.u64.wrap x=y:=⟨_,rfl⟩
  have hy2:y=x+18446744073709551616:=by rw [<-hy,IntKind.wrap_u64];omega
  have hz:IntKind.u64.wrap (0 - y)=(x.natAbs:Int):=by rw [hy2,IntKind.wrap_u64];omega
  have hz2:IntKind.u64.wrap (-y)=(x.natAbs:Int):=by rw [hy2,IntKind.wrap_u64];omega
  have CD:=hidOf (fun wx=>decimal_any x.natAbs (by omega) wx)
  rw [<-hD] at CD
  obtain ⟨v,hv⟩:∃ v:Int,(x.natAbs:Int)=v:=⟨_,rfl⟩
  rw [hv] at hz hz2 CD
  rw [hI]
  clear hD hZ hI hl hy2 hv
  go_enter Tryz.func65,Tryz.ntmps65
  go_wp2_with (go_at_call 94;refine (CD.out _).mono ?_;rintro e w1 ⟨rfl,ho⟩;have O1:=hidOf ho;clear ho)
  go_ret
  exact ⟨rfl,O1.out⟩
 ·
  have CD:=hidOf (fun wx=>decimal_any x.toNat (by omega) wx)
  have hI:Lib.itoa x=Lib.decDigits x.toNat:=by simp [Lib.itoa,h]
  rw [hI]
  rw [show ((x.toNat:Nat):Int)=x by omega] at CD
  generalize Lib.decDigits x.toNat=D at *
  have hw:IntKind.u64.wrap x=x:=by rw [IntKind.wrap_u64];omega
  clear hI
  go_enter Tryz.func65,Tryz.ntmps65
  go_wp2_with (go_at_call 94;refine (CD.out _).mono ?_;rintro e w1 ⟨rfl,ho⟩;have O1:=hidOf ho;clear ho)
  go_ret
  exact ⟨rfl,O1.out⟩
theorem reg_itoa:∀ k:Fin 11,114::Lib.itoa (k.val:Int)=regL k.val:=by
 intro k
 match k with
 | 0 | 1 | 2 | 3 | 4 | 5 | 6 | 7 | 8 | 9=>
  simp [Lib.itoa,regL]
  rw [Lib.decDigits,dif_pos (by decide)]
  try rfl
 | 10=>
  simp [Lib.itoa,regL]
  rw [Lib.decDigits,dif_neg (by decide),Lib.decDigits,dif_pos (by decide)]
  rfl
set_option maxRecDepth 8000 in
theorem register4_any (x:Int) (h0:0<=x) (h1:x<=10) (w:World):Calls Tryz.prog 67 #[.int .i64 x] w fun e w'=>e=.returned (.string ⟨(regL x.toNat).toArray⟩)/\Out w w':=by
 have CD:=hidOf (fun wx=>Decimal_any x (by omega) (by omega) wx)
 obtain ⟨D,hD⟩:∃ D,D=Lib.itoa x:=⟨_,rfl⟩
 obtain ⟨Z,hZ⟩:∃ Z,Z=[114]++D:=⟨_,rfl⟩
 have hl:D.length<=21:=by rw [hD];exact itoa_len4 x (by omega) (by omega)
 have hR:regL x.toNat=Z:=by
  have:=reg_itoa ⟨x.toNat,by omega⟩
  rw [hZ,hD, <-this]
  simp [show ((x.toNat:Nat):Int)=x by omega]
 have a1:∀ w,(Op.stringOp .add ⟨#[114]⟩ ⟨D.toArray⟩).run Tryz.prog w=.ok (.string ⟨Z.toArray⟩) w:=add_l4 [114] D Z hZ (by simp;omega)
 rw [<-hD] at CD
 rw [hR]
 clear hD hZ hl hR
 go_enter Tryz.func67,Tryz.ntmps67
 go_wp2_with (go_at_call 65;refine (CD.out _).mono ?_;rintro e w1 ⟨rfl,ho⟩;have O1:=hidOf ho;clear ho)
 go_ret
 exact ⟨rfl,O1.out⟩
structure Rw where
 w:List UInt8
 sh:Int
 op:Int
 off:Int
 imm:Int
deriving instance DecidableEq for Rw
def rwA:List Rw:=[⟨[97,100,100],1,7,0,0⟩,⟨[97,100,100,51,50],1,4,0,0⟩,⟨[115,117,98],1,23,0,0⟩,⟨[115,117,98,51,50],1,20,0,0⟩,⟨[109,117,108],1,39,0,0⟩,⟨[109,117,108,51,50],1,36,0,0⟩,⟨[100,105,118],1,55,0,0⟩,⟨[100,105,118,51,50],1,52,0,0⟩,⟨[111,114],1,71,0,0⟩,⟨[111,114,51,50],1,68,0,0⟩,⟨[97,110,100],1,87,0,0⟩,⟨[97,110,100,51,50],1,84,0,0⟩,⟨[108,115,104],1,103,0,0⟩,⟨[108,115,104,51,50],1,100,0,0⟩,⟨[114,115,104],1,119,0,0⟩,⟨[114,115,104,51,50],1,116,0,0⟩,⟨[109,111,100],1,151,0,0⟩,⟨[109,111,100,51,50],1,148,0,0⟩,⟨[120,111,114],1,167,0,0⟩,⟨[120,111,114,51,50],1,164,0,0⟩,⟨[109,111,118],1,183,0,0⟩,⟨[109,111,118,51,50],1,180,0,0⟩,⟨[97,114,115,104],1,199,0,0⟩,⟨[97,114,115,104,51,50],1,196,0,0⟩]
def rwB:List Rw:=[⟨[115,100,105,118],1,55,1,0⟩,⟨[115,100,105,118,51,50],1,52,1,0⟩,⟨[115,109,111,100],1,151,1,0⟩,⟨[115,109,111,100,51,50],1,148,1,0⟩,⟨[110,101,103],3,135,0,0⟩,⟨[110,101,103,51,50],3,132,0,0⟩,⟨[109,111,118,115,56],2,191,8,0⟩,⟨[109,111,118,115,49,54],2,191,16,0⟩,⟨[109,111,118,115,51,50],2,191,32,0⟩,⟨[109,111,118,115,56,119],2,188,8,0⟩,⟨[109,111,118,115,49,54,119],2,188,16,0⟩]
def rwC:List Rw:=[⟨[108,101,49,54],3,212,0,16⟩,⟨[108,101,51,50],3,212,0,32⟩,⟨[108,101,54,52],3,212,0,64⟩,⟨[98,101,49,54],3,220,0,16⟩,⟨[98,101,51,50],3,220,0,32⟩,⟨[98,101,54,52],3,220,0,64⟩,⟨[115,119,97,112,49,54],3,215,0,16⟩,⟨[115,119,97,112,51,50],3,215,0,32⟩,⟨[115,119,97,112,54,52],3,215,0,64⟩]
def rwD:List Rw:=[⟨[108,100,120,119],4,97,0,0⟩,⟨[115,116,119],5,98,0,0⟩,⟨[115,116,120,119],6,99,0,0⟩,⟨[108,100,120,104],4,105,0,0⟩,⟨[115,116,104],5,106,0,0⟩,⟨[115,116,120,104],6,107,0,0⟩,⟨[108,100,120,98],4,113,0,0⟩,⟨[115,116,98],5,114,0,0⟩,⟨[115,116,120,98],6,115,0,0⟩,⟨[108,100,120,100,119],4,121,0,0⟩,⟨[115,116,100,119],5,122,0,0⟩,⟨[115,116,120,100,119],6,123,0,0⟩]
def rwE:List Rw:=[⟨[108,100,120,115,119],4,129,0,0⟩,⟨[108,100,120,115,104],4,137,0,0⟩,⟨[108,100,120,115,98],4,145,0,0⟩]
def rwF:List Rw:=[⟨[97,97,100,100],6,219,0,0⟩,⟨[97,97,100,100,51,50],6,195,0,0⟩,⟨[97,111,114],6,219,0,64⟩,⟨[97,111,114,51,50],6,195,0,64⟩,⟨[97,97,110,100],6,219,0,80⟩,⟨[97,97,110,100,51,50],6,195,0,80⟩,⟨[97,120,111,114],6,219,0,160⟩,⟨[97,120,111,114,51,50],6,195,0,160⟩,⟨[97,102,97,100,100],6,219,0,1⟩,⟨[97,102,97,100,100,51,50],6,195,0,1⟩,⟨[97,102,111,114],6,219,0,65⟩,⟨[97,102,111,114,51,50],6,195,0,65⟩,⟨[97,102,97,110,100],6,219,0,81⟩,⟨[97,102,97,110,100,51,50],6,195,0,81⟩,⟨[97,102,120,111,114],6,219,0,161⟩,⟨[97,102,120,111,114,51,50],6,195,0,161⟩,⟨[97,120,99,104,103],6,219,0,225⟩,⟨[97,120,99,104,103,51,50],6,195,0,225⟩,⟨[97,99,109,112,120,99,104,103],6,219,0,241⟩,⟨[97,99,109,112,120,99,104,103,51,50],6,195,0,241⟩]
def rwG:List Rw:=[⟨[106,101,113],8,21,0,0⟩,⟨[106,101,113,51,50],8,22,0,0⟩,⟨[106,103,116],8,37,0,0⟩,⟨[106,103,116,51,50],8,38,0,0⟩,⟨[106,103,101],8,53,0,0⟩,⟨[106,103,101,51,50],8,54,0,0⟩,⟨[106,115,101,116],8,69,0,0⟩,⟨[106,115,101,116,51,50],8,70,0,0⟩,⟨[106,110,101],8,85,0,0⟩,⟨[106,110,101,51,50],8,86,0,0⟩,⟨[106,115,103,116],8,101,0,0⟩,⟨[106,115,103,116,51,50],8,102,0,0⟩,⟨[106,115,103,101],8,117,0,0⟩,⟨[106,115,103,101,51,50],8,118,0,0⟩,⟨[106,108,116],8,165,0,0⟩,⟨[106,108,116,51,50],8,166,0,0⟩,⟨[106,108,101],8,181,0,0⟩,⟨[106,108,101,51,50],8,182,0,0⟩,⟨[106,115,108,116],8,197,0,0⟩,⟨[106,115,108,116,51,50],8,198,0,0⟩,⟨[106,115,108,101],8,213,0,0⟩,⟨[106,115,108,101,51,50],8,214,0,0⟩]
def rwH:List Rw:=[⟨[106,97],7,5,0,0⟩,⟨[106,97,51,50],7,6,0,0⟩,⟨[99,97,108,108],9,133,0,0⟩,⟨[101,120,105,116],10,149,0,0⟩,⟨[108,100,100,119],11,24,0,0⟩,⟨[108,100,109,97,112],12,24,0,0⟩]
def rowsAll:List Rw:=rwA++rwB++rwC++rwD++rwE++rwF++rwG++rwH
def twoR (r:Rw):Bool:=r.sh == 1 || r.sh == 8
def opR (r:Rw) (o:Int):Bool:=o == r.op || twoR r && o == r.op+8
def ofR (r:Rw) (o s f i:Int):Bool:=
 if r.sh=1\/r.sh=2 then opR r o && f == r.off else if r.sh=3 then o == r.op && i == r.imm else if r.sh=6 then o == r.op && (i == r.imm || r.op != 219 && r.op != 195)
 else if r.sh=11 then o == r.op && s == 0 else if r.sh=12 then o == r.op && s == 1 else opR r o
def secR (r:Rw) (o:Int):Bool:=twoR r && o == r.op+8
def usR (r:Rw) (o:Int):Bool × Bool × Bool × Bool:=
 if r.sh=1 then (true,secR r o,false, !secR r o) else if r.sh=2 then (true,true,false,false) else if r.sh=3 then (true,false,false,false) else if r.sh=4\/r.sh=6 then (true,true,true,false)
 else if r.sh=5 then (true,false,true,true) else if r.sh=7 then (false,false,r.op == 5,r.op == 6) else if r.sh=8 then (true,secR r o,true, !secR r o) else if r.sh=9 then (false,false,false,true)
 else if r.sh=11\/r.sh=12 then (true,false,false,true) else (false,false,false,false)
def inR (x a b:Int):Bool:=decide (a<=x) && decide (x<=b)
def lawR (r:Rw) (o d s f i:Int):Bool:=
 (d == 0 || (usR r o).1 && inR d 0 10) && (s == 0 || (usR r o).2.1 && inR s 0 10 || s == 1 && (r.sh == 9 || r.sh == 12)) && (f == r.off || (usR r o).2.2.1 && inR f (-32768) 32767) &&
 ((usR r o).2.2.2 && (inR i (-2147483648) 2147483647 || r.sh == 11) || !(usR r o).2.2.2 && i == r.imm)
def pickO (o:Int):List Rw:=rowsAll.filter (fun r=>opR r o)
def findR (o d s f i:Int):Option Rw:=(pickO o).find? (fun r=>ofR r o s f i && lawR r o d s f i)
def shapeR (o s f:Int):Int:=
 if o=149 then 10 else if o=133 then 9 else if o=24/\s=1 then 12 else if o=24 then 11 else if o=5\/o=6 then 7 else if o.tmod 8=1 then 4 else if o.tmod 8=2 then 5 else if o.tmod 8=3 then 6 else if o.tmod 8=5\/o.tmod 8=6 then 8
 else if o.tdiv 16=8\/o.tdiv 16=13 then 3 else if o.tdiv 16=11/\¬f=0 then 2 else 1
def tgtR (o s f i:Int):Bool × Int:=
 if shapeR o s f=7\/shapeR o s f=8 then (true,if o=6 then i else f) else if shapeR o s f=9 then (s == 1,i+1) else if shapeR o s f=12 then (true,i) else (false,0)
theorem two4_any (L:List UInt8) (sh op off imm:Int) (w:World):Calls Tryz.prog 66 #[.agg #[.string ⟨L.toArray⟩,.int .i64 sh,.int .i64 op,.int .i64 off,.int .i64 imm]] w fun e w'=>e=.returned (.bool (twoR ⟨L,sh,op,off,imm⟩))/\Out w w':=by
 cases h1:(sh == 1)
 ·
  cases h8:(sh == 8)
  ·
   have hR:Hid (twoR ⟨L,sh,op,off,imm⟩=false):=hidOf (by simp [twoR,h1,h8])
   go_enter Tryz.func66,Tryz.ntmps66
   go_wp2
   go_ret
   exact ⟨by rw [hR.out];rfl,(Out.refl w).alloc _⟩
  ·
   have hR:Hid (twoR ⟨L,sh,op,off,imm⟩=true):=hidOf (by simp [twoR,h8])
   go_enter Tryz.func66,Tryz.ntmps66
   go_wp2
   go_ret
   exact ⟨by rw [hR.out];rfl,(Out.refl w).alloc _⟩
 ·
  have hR:Hid (twoR ⟨L,sh,op,off,imm⟩=true):=hidOf (by simp [twoR,h1])
  go_enter Tryz.func66,Tryz.ntmps66
  go_wp2
  go_ret
  exact ⟨by rw [hR.out];rfl,(Out.refl w).alloc _⟩
theorem op4_any (L:List UInt8) (sh op off imm o:Int) (h0:0<=op) (h1:op<=1000) (w:World):Calls Tryz.prog 129 #[.agg #[.string ⟨L.toArray⟩,.int .i64 sh,.int .i64 op,.int .i64 off,.int .i64 imm],.int .i64 o] w fun e w'=>e=.returned (.bool (opR ⟨L,sh,op,off,imm⟩ o))/\Out w w':=by
 have CT:=hidOf (fun wx=>two4_any L sh op off imm wx)
 cases h2:(o == op)
 ·
  cases h3:twoR ⟨L,sh,op,off,imm⟩
  ·
   have hR:Hid (opR ⟨L,sh,op,off,imm⟩ o=false):=hidOf (by simp [opR,h2,h3])
   rw [h3] at CT
   go_enter Tryz.func129,Tryz.ntmps129
   go_wp2_with (go_at_call 66;refine (CT.out _).mono ?_;rintro e w1 ⟨rfl,ho⟩;have O1:=hidOf (((Out.refl w).alloc _).trans ho);clear ho)
   go_ret
   exact ⟨by rw [hR.out];rfl,O1.out⟩
  ·
   rw [h3] at CT
   have hR:Hid (opR ⟨L,sh,op,off,imm⟩ o=(o == op+8)):=hidOf (by simp [opR,h2,h3])
   cases h4:(o == op+8)
   ·
    go_enter Tryz.func129,Tryz.ntmps129
    go_upto_region 1 with fail
    obtain ⟨wB,hwB⟩:∃ wB,wB=w.alloc (.cells #[.string ⟨L.toArray⟩,.int .i64 sh,.int .i64 op,.int .i64 off,.int .i64 imm] 111):=⟨_,rfl⟩
    have q2:∀ wx,Out wB wx->wx.cell? ⟨w.heap.size,2,none⟩=some (.int .i64 op):=fun wx o=>cell_later o (by rw [hwB,new_cell];rfl)
    have HQ:=hidOf q2
    have HB:=hidOf hwB
    clear q2 hwB
    go_wp2_with (go_at_call 66;refine (CT.out _).mono ?_;rintro e w1 ⟨rfl,ho⟩;have O1:=hidOf (((Out.refl w).alloc _).trans ho);have q2:=HQ.out w1 (by rw [HB.out];exact ho);clear ho)
    go_ret
    exact ⟨by rw [hR.out,h4];rfl,O1.out⟩
   ·
    go_enter Tryz.func129,Tryz.ntmps129
    go_upto_region 1 with fail
    obtain ⟨wB,hwB⟩:∃ wB,wB=w.alloc (.cells #[.string ⟨L.toArray⟩,.int .i64 sh,.int .i64 op,.int .i64 off,.int .i64 imm] 111):=⟨_,rfl⟩
    have q2:∀ wx,Out wB wx->wx.cell? ⟨w.heap.size,2,none⟩=some (.int .i64 op):=fun wx o=>cell_later o (by rw [hwB,new_cell];rfl)
    have HQ:=hidOf q2
    have HB:=hidOf hwB
    clear q2 hwB
    go_wp2_with (go_at_call 66;refine (CT.out _).mono ?_;rintro e w1 ⟨rfl,ho⟩;have O1:=hidOf (((Out.refl w).alloc _).trans ho);have q2:=HQ.out w1 (by rw [HB.out];exact ho);clear ho)
    go_ret
    exact ⟨by rw [hR.out,h4];rfl,O1.out⟩
 ·
  have hR:Hid (opR ⟨L,sh,op,off,imm⟩ o=true):=hidOf (by simp [opR,h2])
  go_enter Tryz.func129,Tryz.ntmps129
  go_wp2
  go_ret
  exact ⟨by rw [hR.out];rfl,(Out.refl w).alloc _⟩
end Go.Proofs.YtadneimllbfdnaaGreatDoor
