import Derived.Test.YtadneimllbfdnaaGreatDoorGu01
import Derived.Test.YtadneimllbfdnaaGreatDoorGu02
import Derived.Lib.AtoiAllMem
namespace Go.Proofs.YtadneimllbfdnaaGreatDoor.Lx
open Go.RowKit
set_option linter.unusedVariables false
set_option linter.unusedSimpArgs false
theorem lower_any (c:Int) (w:World):Calls Tryz.prog 191 #[.int .u8 c] w fun e w'=>e=.returned (.int .u8 (bits .or .u8 c 32))/\w=w':=by
 go_enter Tryz.func191,Tryz.ntmps191
 go_wp2
 go_ret
 exact ⟨rfl,rfl⟩
theorem low_hex:∀ n:Fin 256,hexP (n.val:Int)=true->digP (n.val:Int)=false->97<=bits .or .u8 (n.val:Int) 32/\bits .or .u8 (n.val:Int) 32<=102/\bits .or .u8 (n.val:Int) 32 - 87=hexD (n.val:Int):=by decide +kernel
theorem low65:∀ n:Fin 256,hexP (n.val:Int)=true->digP (n.val:Int)=false->65<=(n.val:Int):=by decide +kernel
theorem dig_hex:∀ n:Fin 256,digP (n.val:Int)=true->hexD (n.val:Int)=(n.val:Int) - 48/\48<=(n.val:Int)/\(n.val:Int)<=57:=by decide +kernel
theorem not95:∀ n:Fin 256,hexP (n.val:Int)=true->((n.val:Int) == 95)=false:=by decide +kernel
theorem low_bad:∀ n:Fin 256,hexP (n.val:Int)=false->digP (n.val:Int)=false/\0<=bits .or .u8 (n.val:Int) 32/\bits .or .u8 (n.val:Int) 32<256/\(97<=bits .or .u8 (n.val:Int) 32->bits .or .u8 (n.val:Int) 32<=122->103<=bits .or .u8 (n.val:Int) 32)/\((n.val:Int)=95->bits .or .u8 (n.val:Int) 32=127):=by decide +kernel
def cap16 (k:Nat):Int:=16 ^ k
theorem cap16_le:∀ k,k<=15->cap16 k<=1152921504606846976:=by decide
theorem cap16_succ (k:Nat):cap16 (k+1)=cap16 k*16:=Int.pow_succ _ _
theorem hexD_rng:∀ n:Fin 256,hexP (n.val:Int)=true->0<=hexD (n.val:Int)/\hexD (n.val:Int)<=15:=by decide +kernel
theorem hexV_snoc (a:Int) (l:List UInt8) (b:UInt8):hexV a (l++[b])=hexV a l*16+hexD (bI b):=by
 induction l generalizing a with
 | nil=>rfl
 | cons x l ih=>exact ih _
theorem all_take {α:Type} (p:α->Bool) (l:List α) (k:Nat) (b:α) (h:(l.take k).all p=true) (hb:l[k]? = some b) (hp:p b=true):(l.take (k+1)).all p=true:=by
 rw [List.take_add_one,List.all_append,h,hb];simp [hp]
theorem all_not {α:Type} (p:α->Bool) (l:List α) (k:Nat) (b:α) (hb:l[k]? = some b) (hp:p b=false):l.all p=false:=by
 rw [List.all_eq_false]
 exact ⟨b,List.mem_of_getElem? hb,by simp [hp]⟩
def val16 (l:List UInt8):Value × Value:=if l.all hexU=true then (.int .u64 (hexV 0 l),.nilIface) else (.int .u64 0,.iface 232 (.int .i64 2))
set_option maxRecDepth 20000 in
set_option maxHeartbeats 4000000 in
theorem parse16 (t:ByteArray) (hne:t.size ≠ 0) (h16:t.size<=16) (w:World) :
  Calls Tryz.prog 184 #[.string t,.int .i64 16,.int .i64 64] w fun e w'=>e=.returned (.tuple #[(val16 t.data.toList).1,(val16 t.data.toList).2])/\w'=Lib.bytesWorld w 5 t:=by
 have hie:t.toList.isEmpty=false/\¬t.toList=[]:=isEmpty_of hne
 obtain ⟨hie,hne'⟩:=hie
 have hcv:=Lib.run_convert_string_bytes (P:=Tryz.prog) w 9 35 5 t (u:=.string) Tryz.underlying9 Tryz.underlying35 Tryz.underlying5
 have HB:Hid (∀ j,j<t.size->(Lib.bytesWorld w 5 t).cell? ⟨w.heap.size,j,none⟩=some (.int .u8 (t.data.toList.getD j 0).toNat)):=fun j hj=>Lib.bytesWorld_cell w 5 t j hj
 obtain ⟨W1,hW1⟩:∃ W1,W1=Lib.bytesWorld w 5 t:=⟨_,rfl⟩
 rw [<-hW1] at hcv HB ⊢
 clear hW1
 obtain ⟨bs,hL⟩:∃ bs,bs=t.data.toList:=⟨_,rfl⟩
 have hLn:bs.length=t.size:=by rw [hL];rfl
 rw [<-hL] at HB ⊢
 clear hL
 have hmv:IntKind.u64.wrap (IntKind.u64.wrap 18446744073709551616 - 1)=18446744073709551615:=by
  rw [IntKind.wrap_u64,IntKind.wrap_u64];decide
 go_enter Tryz.func184,Tryz.ntmps184
 go_wp2
 go_loop [12,13,101] (fun vu vn vi=>∃ (k:Nat) (a:Int),vu=.bool false/\vn=.int .u64 a/\vi=.int .i64 k/\k<=t.size/\Hid (0<=a/\a<cap16 k/\a=hexV 0 (bs.take k)/\(bs.take k).all hexU=true)) (fun _ _ vi=>t.size - (intOf vi).toNat)
 case atStart=>exact ⟨0,0,rfl,rfl,rfl,by omega,by omega,by decide,rfl,by simp⟩
 case round=>
  obtain ⟨k,a,rfl,rfl,rfl,hk,hh⟩:=hrel
  by_cases hkn:k<t.size
  ·
   have hc:=HB.out k hkn
   have hget:bs[k]? = some (bs[k]'(by omega)):=List.getElem?_eq_getElem (by omega)
   have hgd:bs.getD k 0=bs[k]'(by omega):=by simp [List.getD,hget]
   rw [hgd] at hc
   have htk:bs.take (k+1)=bs.take k++[bs[k]'(by omega)]:=by rw [List.take_add_one,hget];rfl
   have hcap:=cap16_le k (by omega)
   have hcs:=cap16_succ k
   obtain ⟨a0,a1,a2,a3⟩:=hh.out
   have hv:=hexV_snoc 0 (bs.take k) (bs[k]'(by omega))
   rw [<-htk, <-a2] at hv
   have hall:=all_take hexU bs k _ a3 hget
   have hnot:=all_not hexU bs k _ hget
   generalize bs[k]'(by omega)=cb at hc hv hall hnot
   have h256:cb.toNat<256:=cb.toNat_lt
   cases hx:hexU cb
   ·
    have HN:Hid (bs.all hexU=false):=hnot hx
    have hb:=low_bad ⟨cb.toNat,h256⟩ hx
    simp only at hb
    obtain ⟨hdig,l0,l1,l2,l3⟩:=hb
    have CL:Hid (∀ wx:World,Calls Tryz.prog 191 #[.int .u8 (cb.toNat:Int)] wx fun e w'=>e=.returned (.int .u8 (bits .or .u8 (cb.toNat:Int) 32))/\wx=w'):=fun wx=>lower_any (cb.toNat:Int) wx
    generalize bits .or .u8 (cb.toNat:Int) 32=dd at *
    have hd1:¬(48<=(cb.toNat:Int)/\(cb.toNat:Int)<=57):=fun h=>by
     rw [show digP (cb.toNat:Int)=true from by simp only [digP,Bool.and_eq_true,decide_eq_true_eq];exact h] at hdig;cases hdig
    clear hh a1 a2 a3 hv hcap hcs hget hgd htk hall hnot hx HB hdig
    have hfin:∀ x:Ending,x=.returned (.tuple #[.int .u64 0,.iface 232 (.int .i64 2)])->x=.returned (.tuple #[(val16 bs).1,(val16 bs).2]):=fun x hxx=>by
     have:val16 bs=(.int .u64 0,.iface 232 (.int .i64 2)):=by unfold val16;rw [HN.out];rfl
     rw [this];exact hxx
    have HF:=hidOf hfin
    clear hfin HN
    by_cases p1:97<=dd
    ·
     by_cases p2:dd<=122
     ·
      have p3:103<=dd:=l2 p1 p2
      have p4:¬(dd - 97+10<16):=by omega
      have p5:16<=dd - 97+10:=by omega
      clear l2
      by_cases p6:48<=(cb.toNat:Int)
      ·
       have p7:¬(cb.toNat:Int)<=57:=fun h=>hd1 ⟨p6,h⟩
       have h95:((cb.toNat:Int) == 95)=false:=by simp only [beq_eq_false_iff_ne];intro h;have:=l3 h;omega
       clear l3
       go_wp2_with (go_at_call 191;refine (CL.out _).mono ?_;rintro e w3 ⟨rfl,rfl⟩)
       all_goals (go_ret2;exact ⟨HF.out _ rfl,rfl⟩)
      ·
       have h95:((cb.toNat:Int) == 95)=false:=by simp only [beq_eq_false_iff_ne];omega
       go_wp2_with (go_at_call 191;refine (CL.out _).mono ?_;rintro e w3 ⟨rfl,rfl⟩)
       all_goals (go_ret2;exact ⟨HF.out _ rfl,rfl⟩)
     ·
      clear l2
      by_cases p6:48<=(cb.toNat:Int)
      ·
       have p7:¬(cb.toNat:Int)<=57:=fun h=>hd1 ⟨p6,h⟩
       by_cases hq:(cb.toNat:Int)=95
       ·
        rw [hq] at hc CL p6 p7
        clear l3 hd1 hq
        go_wp2_with (go_at_call 191;refine (CL.out _).mono ?_;rintro e w3 ⟨rfl,rfl⟩)
        all_goals (go_ret2;exact ⟨HF.out _ rfl,rfl⟩)
       ·
        have h95:((cb.toNat:Int) == 95)=false:=by simpa using hq
        clear l3
        go_wp2_with (go_at_call 191;refine (CL.out _).mono ?_;rintro e w3 ⟨rfl,rfl⟩)
        all_goals (go_ret2;exact ⟨HF.out _ rfl,rfl⟩)
      ·
       have h95:((cb.toNat:Int) == 95)=false:=by simp only [beq_eq_false_iff_ne];omega
       go_wp2_with (go_at_call 191;refine (CL.out _).mono ?_;rintro e w3 ⟨rfl,rfl⟩)
       all_goals (go_ret2;exact ⟨HF.out _ rfl,rfl⟩)
    ·
     clear l2
     by_cases p6:48<=(cb.toNat:Int)
     ·
      have p7:¬(cb.toNat:Int)<=57:=fun h=>hd1 ⟨p6,h⟩
      have h95:((cb.toNat:Int) == 95)=false:=by simp only [beq_eq_false_iff_ne];intro h;have:=l3 h;omega
      clear l3
      go_wp2_with (go_at_call 191;refine (CL.out _).mono ?_;rintro e w3 ⟨rfl,rfl⟩)
      all_goals (go_ret2;exact ⟨HF.out _ rfl,rfl⟩)
     ·
      have h95:((cb.toNat:Int) == 95)=false:=by simp only [beq_eq_false_iff_ne];omega
      go_wp2_with (go_at_call 191;refine (CL.out _).mono ?_;rintro e w3 ⟨rfl,rfl⟩)
      all_goals (go_ret2;exact ⟨HF.out _ rfl,rfl⟩)
   ·
    have hall:=hall hx
    have hr:=hexD_rng ⟨cb.toNat,h256⟩ hx
    have h95:=not95 ⟨cb.toNat,h256⟩ hx
    have hlw:=low_hex ⟨cb.toNat,h256⟩ hx
    have hdg:=dig_hex ⟨cb.toNat,h256⟩
    have h65:=low65 ⟨cb.toNat,h256⟩ hx
    simp only at hr h95 hlw hdg h65
    have hbI:bI cb=(cb.toNat:Int):=rfl
    rw [hbI] at hv
    generalize hD:hexD (cb.toNat:Int)=dd at *
    have HN:Hid (0<=a*16+dd/\a*16+dd<cap16 (k+1)/\a*16+dd=hexV 0 (bs.take (k+1))/\(bs.take (k+1)).all hexU=true):=⟨by omega,by omega,hv.symm,hall⟩
    have icut:a<1152921504606846976:=by omega
    have iov:a*16+dd<18446744073709551616:=by omega
    have i0:0<=a*16:=by omega
    obtain ⟨r0,r1⟩:=hr
    clear hh a1 a2 a3 hv hcap hcs hget hgd htk hD hbI hx HB hall hnot
    cases hdig:digP (cb.toNat:Int)
    ·
     obtain ⟨l0,l1,l2⟩:=hlw hdig
     have c65:=h65 hdig
     have c57:¬(cb.toNat:Int)<=57:=by
      intro h
      rw [show digP (cb.toNat:Int)=true from by simp only [digP,Bool.and_eq_true,decide_eq_true_eq];omega] at hdig;cases hdig
     have CL:Hid (∀ wx:World,Calls Tryz.prog 191 #[.int .u8 (cb.toNat:Int)] wx fun e w'=>e=.returned (.int .u8 (dd+87))/\wx=w'):=fun wx=>by
      have h:=lower_any (cb.toNat:Int) wx
      rw [show bits .or .u8 (cb.toNat:Int) 32=dd+87 by omega] at h
      exact h
     have q0:97<=dd+87:=by omega
     have q1:dd+87<=122:=by omega
     have q2:10<=dd:=by omega
     clear hlw hdg hdig l0 l1 l2 h65
     go_wp2_with (go_at_call 191;refine (CL.out _).mono ?_;rintro e w3 ⟨rfl,rfl⟩)
     exact ⟨⟨k+1,a*16+dd,rfl,by congr 1;omega,by simp,by omega,HN⟩,by simp [intOf];omega⟩
    ·
     obtain ⟨e1,e2,e3⟩:=hdg hdig
     clear hlw hdg hdig h65
     subst e1
     go_wp2
     exact ⟨⟨k+1,_,rfl,rfl,by simp,by omega,HN⟩,by simp [intOf];omega⟩
  ·
   obtain rfl:k=t.size:=by omega
   obtain ⟨a0,a1,a2,a3⟩:=hh.out
   have e1:bs.take t.size=bs:=List.take_of_length_le (by omega)
   rw [e1] at a2 a3
   have A2:Hid (val16 bs=(.int .u64 a,.nilIface)):=by unfold val16;rw [if_pos a3,a2];exact hidOf rfl
   clear hh a2 a1 a3
   go_wp2
   go_ret2
   exact ⟨by rw [A2.out];rfl,rfl⟩
theorem decV_ge:∀ (l:List UInt8) (a:Nat),a<=decV a l
 | [],a=>Nat.le_refl a
 | b::l,a=>Nat.le_trans (by omega) (decV_ge l (a*10+(b.toNat - 48)))
theorem digU_iff (b:UInt8):digU b=true ↔ 48<=b.toNat/\b.toNat<=57:=by
 unfold digU digP bI
 simp only [Bool.and_eq_true,decide_eq_true_eq]
 omega
theorem pM_dec (M:Nat) (hM:M=18446744073709551615) (l:List UInt8):∀ (a:Nat),a<=M->l.all digU=true->Lib.parseUintM M a l=if decV a l<=M then .ok (decV a l) else .range:=by
 induction l with
 | nil=>
  intro a ha _
  have hd:decV a []=a:=rfl
  have hp:Lib.parseUintM M a []=.ok a:=rfl
  rw [hd,hp,if_pos ha]
 | cons b l ih=>
  intro a ha hl
  simp only [List.all_cons,Bool.and_eq_true] at hl
  have hb:=(digU_iff b).1 hl.1
  have hge:=decV_ge l (a*10+(b.toNat - 48))
  have hd:decV a (b::l)=decV (a*10+(b.toNat - 48)) l:=rfl
  rw [hd]
  simp only [Lib.parseUintM]
  rw [if_pos hb]
  by_cases h1:1844674407370955162<=a
  · rw [if_pos h1,if_neg (by omega)]
  ·
   rw [if_neg h1]
   by_cases h2:M<a*10+(b.toNat - 48)
   · rw [if_pos h2,if_neg (by omega)]
   ·
    rw [if_neg h2]
    exact ih _ (by omega) hl.2
theorem pM_bad (M:Nat) (l:List UInt8):∀ a:Nat,l.all digU=false->Lib.parseUintM M a l=.syntax\/Lib.parseUintM M a l=.range:=by
 induction l with
 | nil=>intro a h;simp at h
 | cons b l ih=>
  intro a h
  simp only [Lib.parseUintM]
  by_cases hb:48<=b.toNat/\b.toNat<=57
  ·
   rw [if_pos hb]
   have hl:l.all digU=false:=by
    rw [List.all_cons,(digU_iff b).2 hb] at h
    simpa using h
   by_cases h1:1844674407370955162<=a
   · rw [if_pos h1];exact .inr rfl
   ·
    rw [if_neg h1]
    by_cases h2:M<a*10+(b.toNat - 48)
    · rw [if_pos h2];exact .inr rfl
    · rw [if_neg h2];exact ih _ hl
  · rw [if_neg hb];exact .inl rfl
theorem pB_dec (l:List UInt8) (hne:¬l=[]) (hl:l.all digU=true):Lib.parseUintB 64 l=if decV 0 l<=18446744073709551615 then .ok (decV 0 l) else .range:=by
 unfold Lib.parseUintB
 rw [if_neg hne]
 exact pM_dec _ (by decide) l 0 (by omega) hl
theorem pB_bad (l:List UInt8) (hl:l.all digU=false):Lib.parseUintB 64 l=.syntax\/Lib.parseUintB 64 l=.range:=by
 unfold Lib.parseUintB
 split
 · exact .inl rfl
 · exact pM_bad _ l 0 hl
def PubEnd (w:World) (r:Option Int) (e:Ending) (w':World):Prop:=Out w w'/\(match r with | some n=>e=.returned (.tuple #[.int .u64 n,.nilIface]) | none=>∃ x a b,e=.returned (.tuple #[.int .u64 x,.iface a (.pointer (some ⟨b,0,none⟩))]))
theorem bw_out (w:World) (t:TypeId) (s:ByteArray):Out w (Lib.bytesWorld w t s):=Lib.bytesWorld_below _ _ _
set_option maxHeartbeats 1000000 in
theorem pub16 (N:Nat) (t:ByteArray) (hne:t.size ≠ 0) (h16:t.size<=16) (w:World) (hE:Env N w) :
  Calls Tryz.prog 167 #[.string t,.int .i64 16,.int .i64 64] w fun e w'=>PubEnd w (if t.data.toList.all hexU=true then some (hexV 0 t.data.toList) else none) e w':=by
 have CP:=hidOf (parse16 t hne h16 w)
 have HB:=hidOf (bw_out w 5 t)
 generalize Lib.bytesWorld w 5 t=w1 at *
 unfold val16 at CP
 by_cases ha:t.data.toList.all hexU=true
 ·
  rw [if_pos ha] at CP ⊢
  go_enter Tryz.func167,Tryz.ntmps167
  go_wp2_with (go_at_call 184;refine CP.out.mono ?_;rintro e wx ⟨rfl,hwx⟩;subst hwx)
  go_ret2
  exact ⟨HB.out,rfl⟩
 ·
  rw [if_neg ha] at CP ⊢
  obtain ⟨ev,hv,hev⟩:=hE.es
  have CT:Hid (Calls Tryz.prog 185 #[.string ⟨#[80,97,114,115,101,85,105,110,116]⟩,.string t,.int .i64 16,.int .i64 64,.iface 232 (.int .i64 2)] w1 fun e w'=>∃ N,e=.returned (.iface 234 (.pointer (some ⟨N,0,none⟩)))/\Out w1 w'):=(Tryz.strconv_toError_syntax _ t 16 64 ev w1 (by omega) (cell_later HB.out hv) hev).mono fun e w' ⟨M,h1,_,_,h4⟩=>⟨M,h1,h4⟩
  clear hv hev
  go_enter Tryz.func167,Tryz.ntmps167
  go_wp2_with (first | (go_at_call 184;refine CP.out.mono ?_;rintro e wx ⟨rfl,hwx⟩;subst hwx) | (go_at_call 185;refine CT.out.mono ?_;rintro e w2 ⟨M,rfl,ho⟩;have HO:=hidOf ho;clear ho))
  go_ret2
  exact ⟨Out.trans HB.out HO.out,_,_,_,rfl⟩
theorem pub10 (N:Nat) (l:List UInt8) (hne:¬l=[]) (hl:l.length<=281474976710656) (w:World) (hE:Env N w) :
  Calls Tryz.prog 167 #[.string ⟨l.toArray⟩,.int .i64 10,.int .i64 64] w fun e w'=>PubEnd w (if l.all digU=true/\decV 0 l<=18446744073709551615 then some ((decV 0 l:Nat):Int) else none) e w':=by
 have hsz:(⟨l.toArray⟩:ByteArray).size<=281474976710656:=by rw [mk_size];exact hl
 have hrange:Lib.parseUintB 64 l=.range->Calls Tryz.prog 167 #[.string ⟨l.toArray⟩,.int .i64 10,.int .i64 64] w fun e w'=>PubEnd w none e w':=fun h=>by
  obtain ⟨ev,hv,hev⟩:=hE.er
  exact (Tryz.strconv_ParseUint_10_at64_range ⟨l.toArray⟩ hsz h ev w hv hev).mono fun e w' ⟨M,h1,_,_,h4⟩=>⟨h4,_,_,_,h1⟩
 have hsyn:Lib.parseUintB 64 l=.syntax->Calls Tryz.prog 167 #[.string ⟨l.toArray⟩,.int .i64 10,.int .i64 64] w fun e w'=>PubEnd w none e w':=fun h=>by
  obtain ⟨ev,hv,hev⟩:=hE.es
  exact (Tryz.strconv_ParseUint_10_at64_syntax ⟨l.toArray⟩ hsz h ev w hv hev).mono fun e w' ⟨M,h1,_,_,h4⟩=>⟨h4,_,_,_,h1⟩
 cases ha:l.all digU
 ·
  rw [if_neg (by simp)]
  rcases pB_bad l ha with h | h
  · exact hsyn h
  · exact hrange h
 ·
  have hp:=pB_dec l hne ha
  by_cases hd:decV 0 l<=18446744073709551615
  ·
   rw [if_pos ⟨rfl,hd⟩]
   rw [if_pos hd] at hp
   refine (Tryz.strconv_ParseUint_10_at64_ok ⟨l.toArray⟩ (by omega) _ hp w).mono ?_
   rintro e w' ⟨rfl,h | h⟩
   · subst h;exact ⟨Out.refl _,rfl⟩
   · subst h;exact ⟨bw_out w _ _,rfl⟩
  ·
   rw [if_neg (fun h=>hd h.2)]
   rw [if_neg hd] at hp
   exact hrange hp
theorem pre2 (l:List UInt8):Lib.hasPrefix l [48,120]=decide (l.take 2=[48,120]):=by
 unfold Lib.hasPrefix
 match l with
 | []=>rfl
 | [a]=>simp [List.isPrefixOf]
 | a::b::r=>
  by_cases ha:a=48
  ·
   by_cases hb:b=120
   · simp [List.isPrefixOf,ha,hb]
   ·
    have hb':¬120=b:=fun h=>hb h.symm
    simp [List.isPrefixOf,ha,hb,hb']
  ·
   have ha':¬48=a:=fun h=>ha h.symm
   simp [List.isPrefixOf,ha,ha']
set_option maxRecDepth 20000 in
theorem int_empty (w:World):Calls Tryz.prog 184 #[.string ⟨#[]⟩,.int .i64 16,.int .i64 64] w fun e w'=>e=.returned (.tuple #[.int .u64 0,.iface 232 (.int .i64 2)])/\w'=w:=by
 go_enter Tryz.func184,Tryz.ntmps184
 go_wp2
 go_ret2
 exact ⟨rfl,rfl⟩
theorem pub_empty (N:Nat) (w:World) (hE:Env N w):Calls Tryz.prog 167 #[.string ⟨#[]⟩,.int .i64 16,.int .i64 64] w fun e w'=>PubEnd w none e w':=by
 have CP:=hidOf (int_empty w)
 obtain ⟨ev,hv,hev⟩:=hE.es
 have CT:Hid (Calls Tryz.prog 185 #[.string ⟨#[80,97,114,115,101,85,105,110,116]⟩,.string ⟨#[]⟩,.int .i64 16,.int .i64 64,.iface 232 (.int .i64 2)] w fun e w'=>∃ N,e=.returned (.iface 234 (.pointer (some ⟨N,0,none⟩)))/\Out w w'):=(Tryz.strconv_toError_syntax _ ⟨#[]⟩ 16 64 ev w (by decide) hv hev).mono fun e w' ⟨M,h1,_,_,h4⟩=>⟨M,h1,h4⟩
 clear hv hev
 go_enter Tryz.func167,Tryz.ntmps167
 go_wp2_with (first | (go_at_call 184;refine CP.out.mono ?_;rintro e wx ⟨rfl,hwx⟩;have hwx:=hwx.symm;subst hwx) | (go_at_call 185;refine CT.out.mono ?_;rintro e w2 ⟨M,rfl,ho⟩;have HO:=hidOf ho;clear ho))
 go_ret2
 exact ⟨HO.out,_,_,_,rfl⟩
set_option maxHeartbeats 2000000 in
theorem valC:ValC:=by
 intro N t w hE hne hlen
 have hsz:(⟨t.toArray⟩:ByteArray).size=t.length:=mk_size t
 have CC:Hid (Calls Tryz.prog 121 #[.string ⟨t.toArray⟩,.string ⟨#[48,120]⟩] w fun e w'=>e=.returned (.tuple #[.string ⟨(Lib.trimPrefix t [48,120]).toArray⟩,.bool (Lib.hasPrefix t [48,120])])/\w'=w):=Tryz.strings_CutPrefix ⟨t.toArray⟩ ⟨#[48,120]⟩ w
 unfold Lib.trimPrefix at CC
 rw [pre2] at CC
 unfold valP
 by_cases hx:t.take 2=[48,120]
 ·
  rw [if_pos hx]
  rw [decide_eq_true hx,if_pos rfl] at CC
  obtain ⟨d,hd⟩:∃ d,d=t.drop 2:=⟨_,rfl⟩
  have hl2:2<=t.length:=by have:=congrArg List.length hx;rw [List.length_take] at this;simp at this;omega
  have hdl:d.length=t.length - 2:=by rw [hd,List.length_drop]
  rw [show t.drop [(48:UInt8),120].length=d from hd.symm] at CC
  rw [<-hd]
  clear hd hx
  by_cases h16:16<d.length
  ·
   have h16':(16:Int)<d.length:=by omega
   rw [if_neg (fun h=>by omega)]
   go_enter Tryz.func142,Tryz.ntmps142
   go_wp2_with (go_at_call 121;refine CC.out.mono ?_;rintro e w1 ⟨rfl,hw1⟩;have hw1:=hw1.symm;subst hw1)
   go_ret2
   exact ⟨rfl,Out.refl _⟩
  ·
   have h16':¬(16:Int)<d.length:=by omega
   have hdsz:(⟨d.toArray⟩:ByteArray).size=d.length:=mk_size d
   by_cases h0:d.length=0
   ·
    obtain rfl:d=[]:=List.length_eq_zero_iff.1 h0
    rw [if_neg (fun h=>by simp at hdl;omega)]
    have CP:Hid (Calls Tryz.prog 167 #[.string ⟨#[]⟩,.int .i64 16,.int .i64 64] w fun e w'=>PubEnd w none e w'):=pub_empty N w hE
    go_enter Tryz.func142,Tryz.ntmps142
    go_wp2_with (first | (go_at_call 121;refine CC.out.mono ?_;rintro e w1 ⟨rfl,hw1⟩;have hw1:=hw1.symm;subst hw1) | (go_at_call 167;refine CP.out.mono ?_;rintro e w2 ⟨ho,x,a,b,rfl⟩;have HO:=hidOf ho;clear ho))
    go_ret2
    exact ⟨rfl,HO.out⟩
   ·
    have CP:=hidOf (pub16 N ⟨d.toArray⟩ (by rw [hdsz];exact h0) (by rw [hdsz];omega) w hE)
    have hdd:(⟨d.toArray⟩:ByteArray).data.toList=d:=rfl
    rw [hdd] at CP
    by_cases ha:d.all hexU=true
    ·
     rw [if_pos ⟨by omega,by omega,ha⟩]
     rw [if_pos ha] at CP
     go_enter Tryz.func142,Tryz.ntmps142
     go_wp2_with (first | (go_at_call 121;refine CC.out.mono ?_;rintro e w1 ⟨rfl,hw1⟩;have hw1:=hw1.symm;subst hw1) | (go_at_call 167;refine CP.out.mono ?_;rintro e w2 ⟨ho,rfl⟩;have HO:=hidOf ho;clear ho))
     go_ret2
     exact ⟨rfl,HO.out⟩
    ·
     rw [if_neg (fun h=>ha h.2.2)]
     rw [if_neg ha] at CP
     go_enter Tryz.func142,Tryz.ntmps142
     go_wp2_with (first | (go_at_call 121;refine CC.out.mono ?_;rintro e w1 ⟨rfl,hw1⟩;have hw1:=hw1.symm;subst hw1) | (go_at_call 167;refine CP.out.mono ?_;rintro e w2 ⟨ho,x,a,b,rfl⟩;have HO:=hidOf ho;clear ho))
     go_ret2
     exact ⟨rfl,HO.out⟩
 ·
  rw [if_neg hx]
  rw [decide_eq_false hx,if_neg (by decide)] at CC
  obtain ⟨c,r,rfl⟩:∃ c r,t=c::r:=by cases t with | nil=>exact absurd rfl hne | cons c r=>exact ⟨c,r,rfl⟩
  have hlt:(0:Int)<(⟨(c::r).toArray⟩:ByteArray).size:=by rw [hsz];simp
  have ix:∀ h,(⟨(c::r).toArray⟩:ByteArray)[0]'h=c:=fun h=>rfl
  have hie:(⟨(c::r).toArray⟩:ByteArray).toList=c::r:=mk_list _
  by_cases hc:c=48
  ·
   subst hc
   by_cases hr:r=[]
   ·
    subst hr
    rw [if_neg (fun h=>h.2 rfl)]
    have CP:=hidOf (pub10 N [48] (by simp) (by simp) w hE)
    rw [if_pos ⟨by decide,by decide⟩] at CP ⊢
    have e0:((decV 0 [48]:Nat):Int)=0:=by decide
    rw [e0] at CP ⊢
    go_enter Tryz.func142,Tryz.ntmps142
    go_wp2_with (first | (go_at_call 121;refine CC.out.mono ?_;rintro e w1 ⟨rfl,hw1⟩;have hw1:=hw1.symm;subst hw1) | (go_at_call 167;refine CP.out.mono ?_;rintro e w2 ⟨ho,rfl⟩;have HO:=hidOf ho;clear ho))
    go_ret2
    exact ⟨rfl,HO.out⟩
   ·
    rw [if_pos ⟨rfl,fun h=>hr (by simpa using h)⟩]
    have hq:r.isEmpty=false:=by cases r with | nil=>exact absurd rfl hr | cons x y=>rfl
    go_enter Tryz.func142,Tryz.ntmps142
    go_wp2_with (go_at_call 121;refine CC.out.mono ?_;rintro e w1 ⟨rfl,hw1⟩;have hw1:=hw1.symm;subst hw1)
    go_ret2
    exact ⟨rfl,Out.refl _⟩
  ·
   rw [if_neg (fun h=>hc (by simpa using h.1))]
   have hcn:((c.toNat:Int) == 48)=false:=by
    simp only [beq_eq_false_iff_ne]
    intro h
    exact hc (UInt8.toNat_inj.1 (by show c.toNat=48;omega))
   have CP:=hidOf (pub10 N (c::r) (by simp) (by omega) w hE)
   by_cases ha:(c::r).all digU=true/\decV 0 (c::r)<=18446744073709551615
   ·
    rw [if_pos ha] at CP ⊢
    go_enter Tryz.func142,Tryz.ntmps142
    go_wp2_with (first | (go_at_call 121;refine CC.out.mono ?_;rintro e w1 ⟨rfl,hw1⟩;have hw1:=hw1.symm;subst hw1) | (go_at_call 167;refine CP.out.mono ?_;rintro e w2 ⟨ho,rfl⟩;have HO:=hidOf ho;clear ho))
    go_ret2
    exact ⟨rfl,HO.out⟩
   ·
    rw [if_neg ha] at CP ⊢
    go_enter Tryz.func142,Tryz.ntmps142
    go_wp2_with (first | (go_at_call 121;refine CC.out.mono ?_;rintro e w1 ⟨rfl,hw1⟩;have hw1:=hw1.symm;subst hw1) | (go_at_call 167;refine CP.out.mono ?_;rintro e w2 ⟨ho,x,a,b,rfl⟩;have HO:=hidOf ho;clear ho))
    go_ret2
    exact ⟨rfl,HO.out⟩
end Go.Proofs.YtadneimllbfdnaaGreatDoor.Lx
