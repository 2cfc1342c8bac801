import Derived.Test.YtadneimllbfdnaaGreatDoorGu03
namespace Go.Proofs.YtadneimllbfdnaaGreatDoor.Lx
open Go.RowKit
set_option linter.unusedVariables false
set_option linter.unusedSimpArgs false
theorem mixed_:Tryz.prog.follows Departure.mixedOrders=true:=by kernel_rfl
set_option maxHeartbeats 2000000 in
set_option maxRecDepth 100000 in
theorem string_any (N p:Nat) (w:World) (s:WS) (h:WrAt N p w s) (hl:s.l.length<=16777216) :
  Calls Tryz.prog 17 #[.pointer (some ⟨p,0,none⟩)] w fun e w'=>e=.returned (.string ⟨s.l.toArray⟩)/\Below N w w':=by
 have mixed:=mixed_
 obtain ⟨ad,bv,h⟩:=h
 obtain ⟨l,size,line⟩:=s
 simp only at h hl ⊢
 by_cases h0:l=[]
 ·
  subst h0
  have hbv:=h.nil_ rfl
  subst hbv
  have c1:w.drew.cell? ⟨p,1,none⟩=some (.slice none 0 0):=h.cell 1
  have hUS:∀ W,(Builtin.unsafeString_ #[87,3] 9 #[.pointer none,.int .i64 0]).run Tryz.prog W=.ok (.string .empty) W:=fun W=>Lib.run_unsafeString_none W _ _ _ none
  have hSD:(Builtin.unsafeSliceData_ #[35] 87 #[.slice none 0 0]).run Tryz.prog w.drew=.ok (.pointer none) w.drew:=rfl
  clear h
  go_enter Tryz.func17,Tryz.ntmps17
  go_wp2
  go_region_o
  all_goals (go_wp2;go_ret;exact ⟨rfl,Below.drew (Below.refl N w)⟩)
 ·
  have hl0:l.length ≠ 0:=by simpa using h0
  obtain ⟨g,cap,cur,rfl,hbg,hg,hnc,hcm,hcs,htake⟩:∃ g cap cur,bv=.slice (some ⟨g,0,none⟩) l.length cap/\N<=g/\w.heap[g]? = some (.cells cur 5 (0,0))/\l.length<=cap/\cap<=maxLen/\cur.size=cap*1/\cur.toList.take (l.length*1)=Lib.byteCells l:=by
   rcases h.own.2 with ⟨_,hz⟩ | ⟨g,cap,cur,hv,r⟩
   · exact absurd hz hl0
   · exact ⟨g,cap,cur,hv,r⟩
  have c1:w.drew.cell? ⟨p,1,none⟩=some (.slice (some ⟨g,0,none⟩) l.length cap):=h.cell 1
  have hSD:(Builtin.unsafeSliceData_ #[35] 87 #[.slice (some ⟨g,0,none⟩) l.length cap]).run Tryz.prog w.drew=.ok (.pointer (some ⟨g,0,none⟩)) w.drew:=
   Lib.run_unsafeSliceData_row _ _ _ _ _ _ (by omega)
  have hown:=h.own
  have hUS:(Builtin.unsafeString_ #[87,3] 9 #[.pointer (some ⟨g,0,none⟩),.int .i64 l.length]).run Tryz.prog w.drew=.ok (.string ⟨l.toArray⟩) (w.drew.freeze ⟨g,0,none⟩ l.length):=by
   refine Lib.run_unsafeString_row w.drew 87 3 9 5 Tryz.underlying87 Tryz.Builder_Extra_169.cellsByte g cur.size (by have hg':w.drew.heap[g]? = some (.cells cur 5 (0,0)):=hg;simp [World.shape?,hg']) l h0 (by omega) (by omega) ?_
   intro j x hx
   have:=hown.cells (g:=g) rfl j (.int .u8 x.toNat) (by simp [Lib.byteCells,hx])
   exact this
  clear h hown htake hcs hg
  go_enter Tryz.func17,Tryz.ntmps17
  go_wp2
  go_region_o
  all_goals (go_wp2;go_ret;exact ⟨rfl,Lib.below_freeze (Below.drew (Below.refl N w)) (p:=⟨g,0,none⟩) hbg _⟩)
theorem dd_small {u:Nat} (h:u<10):Lib.decDigits u=[UInt8.ofNat (48+u)]:=by
 unfold Lib.decDigits
 simp [h]
def WS.tok (s:WS) (x:Tk):WS:=
 if x.k=1\/x.k=2\/x.k=4 then s.piece x.t else if x.k=3 then s.piece (Lib.decDigits x.n.toNat) else if x.k=5 then ⟨(s.put [10]).l,(s.put [10]).size,0⟩ else s
theorem Wr.line0 {N p:Nat} {w:World} {s:WS} (h:WrAt N p w s):WrAt N p (w.setCell ⟨p,3,none⟩ (.int .i64 0)) ⟨s.l,s.size,0⟩:=by
 obtain ⟨ad,bv,h⟩:=h
 exact ⟨ad,bv,h.set3 0⟩
theorem WrAt.out {N p:Nat} {w w':World} {s:WS} (h:WrAt N p w s) (o:Out w w'):WrAt N p w' s:=by
 obtain ⟨ad,bv,h⟩:=h
 exact ⟨ad,bv,h.out o⟩
theorem WrAt.base {N p:Nat} {w:World} {s:WS} (h:WrAt N p w s):N<=w.heap.size:=by
 obtain ⟨ad,bv,h⟩:=h
 exact h.base
theorem WrAt.le {N p:Nat} {w:World} {s:WS} (h:WrAt N p w s):N<=p:=by
 obtain ⟨ad,bv,h⟩:=h
 exact h.le
theorem WrAt.c3 {N p:Nat} {w:World} {s:WS} (h:WrAt N p w s):w.cell? ⟨p,3,none⟩=some (.int .i64 s.line)/\w.frozen? ⟨p,3,none⟩=false:=by
 obtain ⟨ad,bv,h⟩:=h
 exact ⟨h.cell 3,h.frozen 3⟩
set_option maxHeartbeats 2000000 in
theorem wtoken_any (N p:Nat) (w:World) (s:WS) (x:Tk) (hpw:Pow w) (h:WrAt N p w s) (hl:s.l.length<=16777216) (hls:s.l.length<=s.size) (hs:s.size<=1000000000000000000) (hli:s.line<=s.size) (ht:x.t.length<=16777216) (hn:0<=x.n/\x.n<18446744073709551616) (hdl:(Lib.decDigits x.n.toNat).length<=100) :
  Calls Tryz.prog 88 #[.pointer (some ⟨p,0,none⟩),.agg #[.int .i64 x.k,.string ⟨x.t.toArray⟩,.int .u64 x.n,.int .i64 x.l]] w fun e w'=>WEnd N p w (s.tok x) e w':=by
 obtain ⟨k,t,n,l⟩:=x
 simp only at ht hn hdl ⊢
 obtain ⟨u,rfl⟩:∃ u:Nat,n=u:=⟨n.toNat,by omega⟩
 simp only [Int.toNat_natCast] at hdl
 have HO:Hid (Out w (w.alloc (.cells #[.int .i64 k,.string ⟨t.toArray⟩,.int .u64 (u:Int),.int .i64 l] 77))):=(Out.refl w).alloc _
 have d0:(w.alloc (.cells #[.int .i64 k,.string ⟨t.toArray⟩,.int .u64 (u:Int),.int .i64 l] 77)).cell? ⟨w.heap.size,0,none⟩=some (.int .i64 k):=cell_fresh _ _ _ _ _ rfl
 have d1:(w.alloc (.cells #[.int .i64 k,.string ⟨t.toArray⟩,.int .u64 (u:Int),.int .i64 l] 77)).cell? ⟨w.heap.size,1,none⟩=some (.string ⟨t.toArray⟩):=cell_fresh _ _ _ _ _ rfl
 have d2:(w.alloc (.cells #[.int .i64 k,.string ⟨t.toArray⟩,.int .u64 (u:Int),.int .i64 l] 77)).cell? ⟨w.heap.size,2,none⟩=some (.int .u64 (u:Int)):=cell_fresh _ _ _ _ _ rfl
 have HP:=hidOf (hpw.out HO.out)
 have H1:=hidOf (h.out HO.out)
 have B1:Hid (Below N w (w.alloc (.cells #[.int .i64 k,.string ⟨t.toArray⟩,.int .u64 (u:Int),.int .i64 l] 77))):=Below.of_out HO.out h.base
 have hle:=hidOf h.le
 clear h hpw
 have CP:Hid (∀ (y:List UInt8) wx,y.length<=16777216->WrAt N p wx s->Calls Tryz.prog 123 #[.pointer (some ⟨p,0,none⟩),.string ⟨y.toArray⟩] wx fun e w'=>WEnd N p wx (s.piece y) e w'):=fun y wx hy hx=>piece_any N p wx s y hx hl hls (by omega) hli hy
 by_cases k1:k=1\/k=2\/k=4
 ·
  have hP:s.tok ⟨k,t,u,l⟩=s.piece t:=by unfold WS.tok;rw [if_pos k1]
  rw [hP]
  rcases k1 with rfl | rfl | rfl
  all_goals (
   go_enter Tryz.func88,Tryz.ntmps88
   go_wp2_with (go_at_call 123;refine (CP.out t _ ht H1.out).mono ?_;rintro e w1 ⟨⟨v,rfl⟩,hq,hb⟩;have H2:=hidOf hq;have B2:=hidOf hb;clear hq hb)
   go_end0
   exact ⟨⟨_,rfl⟩,H2.out,Below.step B1.out B2.out⟩)
 have j1:(k == 1)=false:=by simp only [beq_eq_false_iff_ne];exact fun h=>k1 (.inl h)
 have j2:(k == 2)=false:=by simp only [beq_eq_false_iff_ne];exact fun h=>k1 (.inr (.inl h))
 have j4:(k == 4)=false:=by simp only [beq_eq_false_iff_ne];exact fun h=>k1 (.inr (.inr h))
 by_cases k3:k=3
 ·
  have hP:s.tok ⟨k,t,u,l⟩=s.piece (Lib.decDigits u):=by unfold WS.tok;rw [if_neg k1,if_pos k3];rfl
  rw [hP]
  subst k3
  have CF:=hidOf (fmt_any u (by omega) _ HP.out)
  go_enter Tryz.func88,Tryz.ntmps88
  go_wp2_with (first | (go_at_call 124;refine CF.out.mono ?_;rintro e wf ⟨rfl,ho⟩;have HF:=hidOf ho;clear ho) | (go_at_call 123;refine (CP.out (Lib.decDigits u) wf (by omega) (H1.out.out HF.out)).mono ?_;rintro e w1 ⟨⟨v,rfl⟩,hq,hb⟩;have H2:=hidOf hq;have B2:=hidOf hb;clear hq hb))
  go_end0
  exact ⟨⟨_,rfl⟩,H2.out,Below.step B1.out (Below.step (Below.of_out HF.out H1.out.base) B2.out)⟩
 have j3:(k == 3)=false:=by simpa using k3
 by_cases k5:k=5
 ·
  have hP:s.tok ⟨k,t,u,l⟩=⟨(s.put [10]).l,(s.put [10]).size,0⟩:=by unfold WS.tok;rw [if_neg k1,if_neg k3,if_pos k5]
  rw [hP]
  subst k5
  have CU:=hidOf (put_any N p _ s [10] H1.out hl (by simp;omega) (by simp;omega) (by simp))
  go_enter Tryz.func88,Tryz.ntmps88
  go_upto_region 10 with (go_at_call 125;refine CU.out.mono ?_;rintro e w1 ⟨⟨v,rfl⟩,hq,hb⟩;have H2:=hidOf hq;have B2:=hidOf hb;clear hq hb)
  obtain ⟨e3,f3⟩:=H2.out.c3
  go_wp2
  go_end0
  exact ⟨⟨_,rfl⟩,Wr.line0 H2.out,Below.step B1.out (Below.set_own B2.out hle.out _)⟩
 have j5:(k == 5)=false:=by simpa using k5
 have hP:s.tok ⟨k,t,u,l⟩=s:=by unfold WS.tok;rw [if_neg k1,if_neg k3,if_neg k5]
 rw [hP]
 go_enter Tryz.func88,Tryz.ntmps88
 go_wp2
 go_end0
 exact ⟨⟨_,rfl⟩,H1.out,B1.out⟩
def dotP (l:List UInt8):Bool:=Lib.hasPrefix l [46] && wordP (Lib.trimPrefix l [46])
def mayP (x:Tk):Int:=
 if x.k=1 then (if wordP x.t=true then (if x.n=0 then 0 else 52) else 53)
 else if x.k=2 then (if dotP x.t=true then (if x.n=0 then 0 else 52) else 53)
 else if x.k=3 then (if x.t=[] then 0 else 54)
 else if x.k=4 then (if markB x.t=true then (if x.n=0 then 0 else 52) else 52)
 else if x.k=5\/x.k=0 then (if x.t=[] then (if x.n=0 then 0 else 52) else 52)
 else 52
set_option maxHeartbeats 4000000 in
theorem may_any (x:Tk) (w:World) (ht:x.t.length<=4611686018427387904):Calls Tryz.prog 86 #[.agg #[.int .i64 x.k,.string ⟨x.t.toArray⟩,.int .u64 x.n,.int .i64 x.l]] w fun e w'=>e=.returned (.int .i64 (mayP x))/\Out w w':=by
 obtain ⟨k,t,n,l⟩:=x
 simp only at ht ⊢
 have c0:∀ cs:Array Value,∀ j,(w.alloc (.cells cs 77)).cell? ⟨w.heap.size,j,none⟩=cs[j]?:=fun cs j=>cell_fresh _ _ _ _ _ rfl
 have HO:Hid (Out w (w.alloc (.cells #[.int .i64 k,.string ⟨t.toArray⟩,.int .u64 n,.int .i64 l] 77))):=(Out.refl w).alloc _
 have d0:(w.alloc (.cells #[.int .i64 k,.string ⟨t.toArray⟩,.int .u64 n,.int .i64 l] 77)).cell? ⟨w.heap.size,0,none⟩=some (.int .i64 k):=c0 _ 0
 have d1:(w.alloc (.cells #[.int .i64 k,.string ⟨t.toArray⟩,.int .u64 n,.int .i64 l] 77)).cell? ⟨w.heap.size,1,none⟩=some (.string ⟨t.toArray⟩):=c0 _ 1
 have d2:(w.alloc (.cells #[.int .i64 k,.string ⟨t.toArray⟩,.int .u64 n,.int .i64 l] 77)).cell? ⟨w.heap.size,2,none⟩=some (.int .u64 n):=c0 _ 2
 clear c0
 have CW:Hid (∀ (y:List UInt8) wx,y.length<=4611686018427387904->Calls Tryz.prog 120 #[.string ⟨y.toArray⟩] wx fun e w'=>e=.returned (.bool (wordP y))/\wx=w'):=fun y wx hy=>by
  have h:=isWord_any ⟨y.toArray⟩ wx (by rw [mk_size];exact hy)
  rw [mk_list] at h
  exact h
 have CM:Hid (∀ wx,Calls Tryz.prog 122 #[.string ⟨t.toArray⟩] wx fun e w'=>e=.returned (.bool (markB t))/\wx=w'):=fun wx=>by
  have h:=isMark_any ⟨t.toArray⟩ wx
  rw [mk_list] at h
  exact h
 have CC:Hid (∀ wx,Calls Tryz.prog 121 #[.string ⟨t.toArray⟩,.string ⟨#[46]⟩] wx fun e w'=>e=.returned (.tuple #[.string ⟨(Lib.trimPrefix t [46]).toArray⟩,.bool (Lib.hasPrefix t [46])])/\w'=wx):=fun wx=>Tryz.strings_CutPrefix ⟨t.toArray⟩ ⟨#[46]⟩ wx
 have htp:(Lib.trimPrefix t [46]).length<=4611686018427387904:=by
  unfold Lib.trimPrefix
  split
  · rw [List.length_drop];omega
  · exact ht
 have hn1:n=0->(n == 0)=true:=fun h=>by simp [h]
 have hn2:¬n=0->(n == 0)=false:=fun h=>by simpa using h
 have ht1:t=[]->t.isEmpty=true:=fun h=>by simp [h]
 have ht2:¬t=[]->t.isEmpty=false:=fun h=>by cases t with | nil=>exact absurd rfl h | cons a b=>rfl
 by_cases k1:k=1
 ·
  subst k1
  cases hw:wordP t
  ·
   have hP:mayP ⟨1,t,n,l⟩=53:=by simp [mayP,hw]
   rw [hP]
   go_enter Tryz.func86,Tryz.ntmps86
   go_wp2_with (go_at_call 120;refine (CW.out t _ ht).mono ?_;rw [hw];rintro e w1 ⟨rfl,rfl⟩)
   go_ret
   exact ⟨rfl,(Out.refl w).alloc _⟩
  ·
   by_cases hn:n=0
   ·
    have hP:mayP ⟨1,t,n,l⟩=0:=by simp [mayP,hw,hn]
    rw [hP]
    have hn':=hn1 hn
    go_enter Tryz.func86,Tryz.ntmps86
    go_wp2_with (go_at_call 120;refine (CW.out t _ ht).mono ?_;rw [hw];rintro e w1 ⟨rfl,rfl⟩)
    go_ret
    exact ⟨rfl,(Out.refl w).alloc _⟩
   ·
    have hP:mayP ⟨1,t,n,l⟩=52:=by simp [mayP,hw,hn]
    rw [hP]
    have hn':=hn2 hn
    go_enter Tryz.func86,Tryz.ntmps86
    go_wp2_with (go_at_call 120;refine (CW.out t _ ht).mono ?_;rw [hw];rintro e w1 ⟨rfl,rfl⟩)
    go_ret
    exact ⟨rfl,(Out.refl w).alloc _⟩
 by_cases k2:k=2
 ·
  subst k2
  cases hp:Lib.hasPrefix t [46]
  ·
   have hP:mayP ⟨2,t,n,l⟩=53:=by simp [mayP,dotP,hp]
   rw [hP]
   go_enter Tryz.func86,Tryz.ntmps86
   go_wp2_with (go_at_call 121;refine (CC.out _).mono ?_;rw [hp];rintro e w1 ⟨rfl,hw⟩;subst hw)
   go_ret
   exact ⟨rfl,(Out.refl w).alloc _⟩
  ·
   cases hw:wordP (Lib.trimPrefix t [46])
   ·
    have hP:mayP ⟨2,t,n,l⟩=53:=by simp [mayP,dotP,hp,hw]
    rw [hP]
    go_enter Tryz.func86,Tryz.ntmps86
    go_wp2_with (first | (go_at_call 121;refine (CC.out _).mono ?_;rw [hp];rintro e w1 ⟨rfl,hw⟩;subst hw) | (go_at_call 120;refine (CW.out _ _ htp).mono ?_;rw [hw];rintro e w1 ⟨rfl,rfl⟩))
    go_ret
    exact ⟨rfl,(Out.refl w).alloc _⟩
   ·
    by_cases hn:n=0
    ·
     have hP:mayP ⟨2,t,n,l⟩=0:=by simp [mayP,dotP,hp,hw,hn]
     rw [hP]
     have hn':=hn1 hn
     go_enter Tryz.func86,Tryz.ntmps86
     go_wp2_with (first | (go_at_call 121;refine (CC.out _).mono ?_;rw [hp];rintro e w1 ⟨rfl,hw⟩;subst hw) | (go_at_call 120;refine (CW.out _ _ htp).mono ?_;rw [hw];rintro e w1 ⟨rfl,rfl⟩))
     go_ret
     exact ⟨rfl,(Out.refl w).alloc _⟩
    ·
     have hP:mayP ⟨2,t,n,l⟩=52:=by simp [mayP,dotP,hp,hw,hn]
     rw [hP]
     have hn':=hn2 hn
     go_enter Tryz.func86,Tryz.ntmps86
     go_wp2_with (first | (go_at_call 121;refine (CC.out _).mono ?_;rw [hp];rintro e w1 ⟨rfl,hw⟩;subst hw) | (go_at_call 120;refine (CW.out _ _ htp).mono ?_;rw [hw];rintro e w1 ⟨rfl,rfl⟩))
     go_ret
     exact ⟨rfl,(Out.refl w).alloc _⟩
 have j1:(k == 1)=false:=by simpa using k1
 have j2:(k == 2)=false:=by simpa using k2
 by_cases k3:k=3
 ·
  subst k3
  by_cases hte:t=[]
  ·
   have hP:mayP ⟨3,t,n,l⟩=0:=by simp [mayP,hte]
   rw [hP]
   have he:=ht1 hte
   clear CC CM CW
   go_enter Tryz.func86,Tryz.ntmps86
   go_wp2
   go_ret
   exact ⟨rfl,(Out.refl w).alloc _⟩
  ·
   have hP:mayP ⟨3,t,n,l⟩=54:=by simp [mayP,hte]
   rw [hP]
   have he:=ht2 hte
   clear CC CM CW
   go_enter Tryz.func86,Tryz.ntmps86
   go_wp2
   go_ret
   exact ⟨rfl,(Out.refl w).alloc _⟩
 have j3:(k == 3)=false:=by simpa using k3
 by_cases k4:k=4
 ·
  subst k4
  cases hw:markB t
  ·
   have hP:mayP ⟨4,t,n,l⟩=52:=by simp [mayP,hw]
   rw [hP]
   go_enter Tryz.func86,Tryz.ntmps86
   go_wp2_with (go_at_call 122;refine (CM.out _).mono ?_;rw [hw];rintro e w1 ⟨rfl,rfl⟩)
   go_ret
   exact ⟨rfl,(Out.refl w).alloc _⟩
  ·
   by_cases hn:n=0
   ·
    have hP:mayP ⟨4,t,n,l⟩=0:=by simp [mayP,hw,hn]
    rw [hP]
    have hn':=hn1 hn
    go_enter Tryz.func86,Tryz.ntmps86
    go_wp2_with (go_at_call 122;refine (CM.out _).mono ?_;rw [hw];rintro e w1 ⟨rfl,rfl⟩)
    go_ret
    exact ⟨rfl,(Out.refl w).alloc _⟩
   ·
    have hP:mayP ⟨4,t,n,l⟩=52:=by simp [mayP,hw,hn]
    rw [hP]
    have hn':=hn2 hn
    go_enter Tryz.func86,Tryz.ntmps86
    go_wp2_with (go_at_call 122;refine (CM.out _).mono ?_;rw [hw];rintro e w1 ⟨rfl,rfl⟩)
    go_ret
    exact ⟨rfl,(Out.refl w).alloc _⟩
 have j4:(k == 4)=false:=by simpa using k4
 clear CC CM CW
 by_cases k5:k=5\/k=0
 ·
  have hP:mayP ⟨k,t,n,l⟩=(if t=[] then (if n=0 then 0 else 52) else 52):=by simp [mayP,k1,k2,k3,k4,k5]
  rw [hP]
  by_cases hte:t=[]
  ·
   have he:=ht1 hte
   rw [if_pos hte]
   by_cases hn:n=0
   ·
    have hn':=hn1 hn
    rw [if_pos hn]
    rcases k5 with rfl | rfl
    all_goals (
     go_enter Tryz.func86,Tryz.ntmps86
     go_wp2
     go_ret
     exact ⟨rfl,(Out.refl w).alloc _⟩)
   ·
    have hn':=hn2 hn
    rw [if_neg hn]
    rcases k5 with rfl | rfl
    all_goals (
     go_enter Tryz.func86,Tryz.ntmps86
     go_wp2
     go_ret
     exact ⟨rfl,(Out.refl w).alloc _⟩)
  ·
   have he:=ht2 hte
   rw [if_neg hte]
   rcases k5 with rfl | rfl
   all_goals (
    go_enter Tryz.func86,Tryz.ntmps86
    go_wp2
    go_ret
    exact ⟨rfl,(Out.refl w).alloc _⟩)
 ·
  have hP:mayP ⟨k,t,n,l⟩=52:=by simp [mayP,k1,k2,k3,k4,k5]
  rw [hP]
  have j5:(k == 5)=false:=by simp only [beq_eq_false_iff_ne];exact fun h=>k5 (.inl h)
  have j0:(k == 0)=false:=by simp only [beq_eq_false_iff_ne];exact fun h=>k5 (.inr h)
  go_enter Tryz.func86,Tryz.ntmps86
  go_wp2
  go_ret
  exact ⟨rfl,(Out.refl w).alloc _⟩
theorem dd_big {u:Nat} (h:¬u<10):Lib.decDigits u=Lib.decDigits (u / 10)++[UInt8.ofNat (48+u % 10)]:=by rw [Lib.decDigits,dif_neg h]
theorem dd_len:∀ (k u:Nat),u<10 ^ (k+1)->(Lib.decDigits u).length<=k+1
 | 0,u,h=>by rw [dd_small (by omega)];simp
 | k+1,u,h=>by
  by_cases hu:u<10
  · rw [dd_small hu];simp
  ·
   rw [dd_big hu,List.length_append]
   have:=dd_len k (u / 10) (by rw [Nat.pow_succ] at h;omega)
   simp;omega
def TksAt (w:World) (a:Option Addr) (ts:List Tk):Prop:=ts=[]\/∃ b off,a=some ⟨b,off,none⟩/\∀ k x,ts[k]? = some x->w.cell? ⟨b,off+k*4,none⟩=some (.int .i64 x.k)/\w.cell? ⟨b,off+k*4+1,none⟩=some (.string ⟨x.t.toArray⟩)/\w.cell? ⟨b,off+k*4+2,none⟩=some (.int .u64 x.n)/\w.cell? ⟨b,off+k*4+3,none⟩=some (.int .i64 x.l)
theorem TksAt.out {w w':World} {a:Option Addr} {ts:List Tk} (h:TksAt w a ts) (o:Out w w'):TksAt w' a ts:=by
 rcases h with h | ⟨b,off,ha,hc⟩
 · exact .inl h
 · exact .inr ⟨b,off,ha,fun k x hx=>⟨cell_later o (hc k x hx).1,cell_later o (hc k x hx).2.1,cell_later o (hc k x hx).2.2.1,cell_later o (hc k x hx).2.2.2⟩⟩
def okAt (ts:List Tk) (k:Nat):Bool:=decide (k=0) || (match ts[k - 1]? with | some y=>decide (y.k=5) | none=>false)
def endsP (ts:List Tk) (k:Nat):Bool:=decide (k+1=ts.length) && okAt ts k
set_option maxHeartbeats 1000000 in
theorem endsAt_any (w:World) (a:Option Addr) (cap:Nat) (ts:List Tk) (h:TksAt w a ts) (hl:ts.length<=4611686018427387904) (k:Nat) (hk:k<ts.length) :
  Calls Tryz.prog 87 #[.slice a ts.length cap,.int .i64 (k:Int)] w fun e w'=>e=.returned (.bool (endsP ts k))/\w=w':=by
 obtain ⟨b,off,rfl,hc⟩:∃ b off,a=some ⟨b,off,none⟩/\∀ k x,ts[k]? = some x->w.cell? ⟨b,off+k*4,none⟩=some (.int .i64 x.k)/\w.cell? ⟨b,off+k*4+1,none⟩=some (.string ⟨x.t.toArray⟩)/\w.cell? ⟨b,off+k*4+2,none⟩=some (.int .u64 x.n)/\w.cell? ⟨b,off+k*4+3,none⟩=some (.int .i64 x.l):=by
  rcases h with rfl | h
  · simp at hk
  · exact h
 have hkl:(k:Int)<ts.length:=by omega
 by_cases h1:k+1=ts.length
 ·
  have h1':((k:Int) == (ts.length:Int) - 1)=true:=by simp;omega
  by_cases h0:k=0
  ·
   subst h0
   have hE:endsP ts 0=true:=by simp [endsP,okAt,h1]
   rw [hE]
   have h1'':((0:Int) == (ts.length:Int) - 1)=true:=by simpa using h1'
   clear hc h1'
   go_enter Tryz.func87,Tryz.ntmps87
   rw [show ((0:Nat):Int)=0 from rfl]
   go_wp2
   go_ret
   exact ⟨rfl,rfl⟩
  ·
   obtain ⟨j,rfl⟩:∃ j,k=j+1:=⟨k - 1,by omega⟩
   obtain ⟨y,hy⟩:∃ y,ts[j]? = some y:=⟨_,List.getElem?_eq_getElem (by omega)⟩
   have q0:=(hc j y hy).1
   have hE:endsP ts (j+1)=decide (y.k=5):=by simp [endsP,okAt,h1,hy]
   rw [hE]
   have hlen:ts.length=j+2:=by omega
   have hjb:(j:Int)<=4611686018427387904:=by omega
   rw [hlen]
   generalize y.k=yk at *
   clear hc hkl h1 h1' hk hE hy h h0 hlen hl
   go_enter Tryz.func87,Tryz.ntmps87
   go_wp2
   all_goals (go_ret;refine ret_bool ?_;have e1:((j:Int)+2 - 1 == 0)=false:=by simp only [beq_eq_false_iff_ne];omega
              rw [e1,Bool.false_or];rfl)
 ·
  have h1':((k:Int) == (ts.length:Int) - 1)=false:=by simp;omega
  have hE:endsP ts k=false:=by simp [endsP,h1]
  rw [hE]
  clear hc
  go_enter Tryz.func87,Tryz.ntmps87
  go_wp2
  go_ret
  exact ⟨rfl,rfl⟩
def unF (ok:Bool) (s:WS):List Tk->Int × WS
 | []=>(0,s)
 | x::r=>
  if mayP x=0 then
   (if x.k=0/\¬(r=[]/\ok=true) then (52,s) else if x.k=5/\1024<s.line then (51,s) else unF (decide (x.k=5)) (s.tok x) r)
  else (mayP x,s)
def lastK (ts:List Tk):Option Int:=ts.getLast?.map (·.k)
def untokP (ts:List Tk):List UInt8 × Int:=
 if (unF true ⟨[],0,0⟩ ts).1=0 then (if lastK ts=some 0 then (if (unF true ⟨[],0,0⟩ ts).2.size<=16777216 then ((unF true ⟨[],0,0⟩ ts).2.l,0) else ([],50)) else ([],52)) else ([],(unF true ⟨[],0,0⟩ ts).1)
theorem word_len {t:List UInt8} (h:wordP t=true):t.length<=64:=by
 simp only [wordP,Bool.and_eq_true,decide_eq_true_eq] at h
 exact h.1.1
theorem may_len {x:Tk} (h:mayP x=0):x.t.length<=65:=by
 unfold mayP at h
 by_cases k1:x.k=1
 ·
  rw [if_pos k1] at h
  by_cases hw:wordP x.t=true
  · have:=word_len hw;omega
  · rw [if_neg hw] at h;cases h
 rw [if_neg k1] at h
 by_cases k2:x.k=2
 ·
  rw [if_pos k2] at h
  by_cases hw:dotP x.t=true
  ·
   simp only [dotP,Bool.and_eq_true] at hw
   have h1:=word_len hw.2
   unfold Lib.trimPrefix at h1
   rw [if_pos hw.1,List.length_drop] at h1
   simp at h1;omega
  · rw [if_neg hw] at h;cases h
 rw [if_neg k2] at h
 by_cases k3:x.k=3
 ·
  rw [if_pos k3] at h
  by_cases ht:x.t=[]
  · rw [ht];simp
  · rw [if_neg ht] at h;cases h
 rw [if_neg k3] at h
 by_cases k4:x.k=4
 ·
  rw [if_pos k4] at h
  by_cases hw:markB x.t=true
  ·
   unfold markB at hw
   split at hw
   · rename_i c hc;rw [hc];simp
   · cases hw
  · rw [if_neg hw] at h;cases h
 rw [if_neg k4] at h
 by_cases k5:x.k=5\/x.k=0
 ·
  rw [if_pos k5] at h
  by_cases ht:x.t=[]
  · rw [ht];simp
  · rw [if_neg ht] at h;cases h
 · rw [if_neg k5] at h;cases h
structure WS.Ok (s:WS):Prop where
 l24:s.l.length<=16777216
 ls:s.l.length<=s.size
 li:s.line<=s.size
theorem WS.Ok.put {s:WS} (h:s.Ok) (t:List UInt8):(s.put t).Ok:=⟨(put_len s t h.l24 h.ls).1,(put_len s t h.l24 h.ls).2,by have:=h.li;show s.line+t.length<=s.size+t.length;omega⟩
theorem WS.Ok.piece {s:WS} (h:s.Ok) (t:List UInt8):(s.piece t).Ok/\(s.piece t).size<=s.size+t.length+1:=by
 unfold WS.piece
 split
 · exact ⟨(h.put _).put _,by show s.size+1+t.length<=_;omega⟩
 · exact ⟨h.put _,by show s.size+t.length<=_;omega⟩
theorem WS.Ok.tok {s:WS} (h:s.Ok) (x:Tk) (ht:x.t.length<=65) (hd:(Lib.decDigits x.n.toNat).length<=20):(s.tok x).Ok/\(s.tok x).size<=s.size+100:=by
 unfold WS.tok
 split
 · have:=h.piece x.t;exact ⟨this.1,by omega⟩
 split
 · have:=h.piece (Lib.decDigits x.n.toNat);exact ⟨this.1,by omega⟩
 split
 ·
  have h1:=h.put [10]
  refine ⟨⟨h1.l24,h1.ls,Nat.zero_le _⟩, ?_⟩
  show s.size+1<=_
  omega
 · exact ⟨h,by omega⟩
theorem drop_at {α:Type} {l:List α} {k:Nat} {x:α} (h:l[k]? = some x):l.drop k=x::l.drop (k+1):=by
 obtain ⟨hk,hx⟩:=List.getElem?_eq_some_iff.1 h
 rw [List.drop_eq_getElem_cons hk,hx]
theorem okAt_succ {ts:List Tk} {k:Nat} {x:Tk} (h:ts[k]? = some x):okAt ts (k+1)=decide (x.k=5):=by simp [okAt,h]
theorem lastK_at {ts:List Tk} {k:Nat} {x:Tk} (hk:ts.length=k+1) (h:ts[k]? = some x):lastK ts=some x.k:=by
 unfold lastK
 rw [List.getLast?_eq_getElem?,hk]
 simp [h]
end Go.Proofs.YtadneimllbfdnaaGreatDoor.Lx
