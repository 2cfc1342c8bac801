import Derived.Test.YtadneimllbfdnaaGreatDoorGu23
namespace Go.Proofs.YtadneimllbfdnaaGreatDoor
open Go.RowKit
set_option linter.unusedVariables false
set_option linter.unusedSimpArgs false
def AEnv (w:World):Prop:=PEnv w/\Pow w
theorem AEnv.out {w w':World} (h:AEnv w) (o:Out w w'):AEnv w':=⟨h.1.out o,h.2.out o⟩
def I64 (x:Int):Prop:=-9223372036854775808<=x/\x<9223372036854775808
def printP (o d s f i:Int) (t:List UInt8):List UInt8 × Int:=if mayP o d s f i=0 then (if tfitP o s f i t then (lineP o d s f i t,0) else ([],41)) else ([],mayP o d s f i)
theorem wImm_len (o i:Int):(wImm o i).length<=1000:=by
 unfold wImm
 cases hf:immT.find? (fun r=>o == r.1 && i == r.2.1) with
 | none=>simp
 | some r=>exact (show ∀ r ∈ immT,r.2.2.length<=1000 by decide) r (List.mem_of_find?_eq_some hf)
theorem wOff_len (o f:Int):(wOff o f).length<=1000:=by
 unfold wOff
 cases hf:offT.find? (fun r=>bits .or .i64 o 8 == bits .or .i64 r.1 8 && f == r.2.1) with
 | none=>simp
 | some r=>exact (show ∀ r ∈ offT,r.2.2.length<=1000 by decide) r (List.mem_of_find?_eq_some hf)
theorem getD_len (l:List (List UInt8)) (h:∀ x ∈ l,x.length<=1000) (j:Nat):(l.getD j []).length<=1000:=by
 rw [List.getD_eq_getElem?_getD]
 cases hj:l[j]? with
 | none=>simp
 | some x=>exact h x (List.mem_of_getElem? hj)
theorem wMem_len (o i:Int):(wMem o i).length<=1000:=by
 unfold wMem
 cases hf:memT.find? (fun r=>bits .andNot .i64 o 24 == r.1) with
 | none=>exact wImm_len o i
 | some r=>exact getD_len _ ((show ∀ r ∈ memT,∀ x ∈ r.2,x.length<=1000 by decide) r (List.mem_of_find?_eq_some hf)) _
theorem pick2_len (T:List (List UInt8 × List UInt8)) (h:∀ r ∈ T,r.1.length<=1000/\r.2.length<=1000) (k:Nat) (b:Bool):(pick2 T k b).length<=1000:=by
 unfold pick2
 cases hk:T[k]? with
 | none=>simp
 | some r=>cases b;exact (h r (List.mem_of_getElem? hk)).1;exact (h r (List.mem_of_getElem? hk)).2
theorem wReck_len (o f i:Int):(wReck o f i).length<=1000:=by
 unfold wReck
 split
 ·
  split
  · exact wImm_len o i
  · exact pick2_len reckT (by decide) _ _
 · exact wOff_len o f
theorem wordP_len (o s f i:Int):(wordP o s f i).length<=1000:=by
 unfold wordP
 split
 · split <;> simp
 split
 · exact wReck_len o f i
 split
 · exact wReck_len o f i
 split
 · exact pick2_len jumpT (by decide) _ _
 split
 · exact pick2_len jumpT (by decide) _ _
 exact wMem_len o i
theorem place_len (k:Nat) (f:Int) (hf:I64 f):(placeTx k f).length<=1000:=by
 unfold placeTx
 have:=regL_len k
 have:=itoa_len f hf
 have:(if 0<=f then [43] else []:List UInt8).length<=1:=by split <;> simp
 simp only [List.length_cons,List.length_append,List.length_nil]
 omega
theorem opdTx_len (o d s f i c:Int) (t:List UInt8) (hf:I64 f) (hi:I64 i) (ht:(c=7\/(c=8/\s=1))->t.length<=1000) (hc:1<=c/\c<=8):(opdTx o d s f i t c).length<=1000:=by
 have h1:=regL_len d.toNat
 have h2:=regL_len s.toNat
 have h3:=itoa_len i hi
 have h5:=place_len s.toNat f hf
 have h6:=place_len d.toNat f hf
 unfold opdTx
 split;omega
 split;omega
 split;omega
 split
 · split <;> omega
 split;omega
 split;omega
 split
 ·
  split
  · exact ht (.inr ⟨by assumption,by assumption⟩)
  · omega
 · exact ht (.inl (by omega))
theorem name_len {t:List UInt8} (h:nameP t=true):t.length<=1000:=by
 simp only [nameP,Bool.and_eq_true,decide_eq_true_eq] at h
 omega
theorem op_all:∀ l ∈ opsT,∀ o ∈ l,0<=o/\o<256/\((cls o=7\/cls o=4)->¬shrO o=13->shrO o<13)/\((cls o=5\/cls o=6)->shrO o<14):=by decide +kernel
theorem reg_of {x:Bool} {d:Int} (h:dstP x d=true) (hx:x=true):isReg d=true:=by rw [hx] at h;exact h
theorem src_of {fm:Int} {x:Bool} {d:Int} (h:srcP fm x d=true) (hx:x=true):isReg d=true:=by rw [hx] at h;exact h
theorem tx_ok (o d s f i:Int) (h:mayP o d s f i=0) (a b c:Int) (ht:tOf o s f=(a,b,c)):(¬a=0->txOk o d s f i a)/\(¬b=0->txOk o d s f i b)/\(¬c=0->txOk o d s f i c):=by
 obtain ⟨h0,h1,h2,h3,h4⟩:=may_parts o d s f i h
 obtain ⟨l0,l1⟩:=form_le o
 have ht':opdsP (formP o) s f (useS o (formP o))=(a,b,c):=ht
 rcases (show formP o=1\/formP o=2\/formP o=3\/formP o=4\/formP o=5\/formP o=6\/formP o=7\/formP o=8\/formP o=9\/formP o=10 from by omega) with hk | hk | hk | hk | hk | hk | hk | hk | hk | hk
 ·
  have ho:=ops_at 1 (by decide) o hk (by decide)
  obtain ⟨u1,u2,u3,u4⟩:=uses_of 1 o ho
  simp only at u1 u2 u3
  rw [hk] at h1 h2 h3 u1 u2 u3 ht'
  have e:(((0:Int),(0:Int),(0:Int)))=(a,b,c):=ht'
  simp only [Prod.mk.injEq] at e
  obtain ⟨rfl,rfl,rfl⟩:=e
  exact ⟨fun h=>absurd rfl h,fun h=>absurd rfl h,fun h=>absurd rfl h⟩
 ·
  have ho:=ops_at 2 (by decide) o hk (by decide)
  obtain ⟨u1,u2,u3,u4⟩:=uses_of 2 o ho
  simp only at u1 u2 u3
  rw [hk] at h1 h2 h3 u1 u2 u3 ht'
  have e:(((1:Int),(0:Int),(0:Int)))=(a,b,c):=ht'
  simp only [Prod.mk.injEq] at e
  obtain ⟨rfl,rfl,rfl⟩:=e
  exact ⟨fun _=>.inl ⟨rfl,reg_of h1 u1⟩,fun h=>absurd rfl h,fun h=>absurd rfl h⟩
 ·
  have ho:=ops_at 3 (by decide) o hk (by decide)
  obtain ⟨u1,u2,u3,u4⟩:=uses_of 3 o ho
  simp only at u1 u2 u3
  rw [hk] at h1 h2 h3 u1 u2 u3 ht'
  have e:(if 8<=f then ((1:Int),(2:Int),(0:Int)) else (1,4,0))=(a,b,c):=ht'
  split at e
  ·
   rename_i h8
   simp only [Prod.mk.injEq] at e
   obtain ⟨rfl,rfl,rfl⟩:=e
   refine ⟨fun _=>.inl ⟨rfl,reg_of h1 u1⟩,fun _=>.inr (.inl ⟨rfl,src_of h2 (u2.trans ?_)⟩),fun h=>absurd rfl h⟩
   rw [u3] at h3
   have hv:variantP o f=true:=by
    unfold offP at h3
    simp only [Bool.false_eq_true,if_false] at h3
    split at h3
    · rename_i hz;simp at hz;omega
    · simpa using h3
   have hfi:=variant_in hv
   exact (show ∀ o ∈ opsL 3,∀ f ∈ ([0,1,8,16,32]:List Int),8<=f->variantP o f=true->hasSrc o=true by decide +kernel) o ho f hfi h8 hv
  ·
   simp only [Prod.mk.injEq] at e
   obtain ⟨rfl,rfl,rfl⟩:=e
   exact ⟨fun _=>.inl ⟨rfl,reg_of h1 u1⟩,fun _=>.inr (.inr (.inr (.inl ⟨rfl,fun hs=>src_of h2 (u2.trans hs)⟩))),fun h=>absurd rfl h⟩
 ·
  have ho:=ops_at 4 (by decide) o hk (by decide)
  obtain ⟨u1,u2,u3,u4⟩:=uses_of 4 o ho
  simp only at u1 u2 u3
  rw [hk] at h1 h2 h3 u1 u2 u3 ht'
  have e:(((1:Int),(5:Int),(0:Int)))=(a,b,c):=ht'
  simp only [Prod.mk.injEq] at e
  obtain ⟨rfl,rfl,rfl⟩:=e
  exact ⟨fun _=>.inl ⟨rfl,reg_of h1 u1⟩,fun _=>.inr (.inr (.inr (.inr (.inl ⟨rfl,src_of h2 u2⟩)))),fun h=>absurd rfl h⟩
 ·
  have ho:=ops_at 5 (by decide) o hk (by decide)
  obtain ⟨u1,u2,u3,u4⟩:=uses_of 5 o ho
  simp only at u1 u2 u3
  rw [hk] at h1 h2 h3 u1 u2 u3 ht'
  have e:(if useS o 5 then ((6:Int),(2:Int),(0:Int)) else (6,3,0))=(a,b,c):=ht'
  split at e
  ·
   rename_i hu
   simp only [Prod.mk.injEq] at e
   obtain ⟨rfl,rfl,rfl⟩:=e
   exact ⟨fun _=>.inr (.inr (.inr (.inr (.inr (.inl ⟨rfl,reg_of h1 u1⟩))))),fun _=>.inr (.inl ⟨rfl,src_of h2 hu⟩),fun h=>absurd rfl h⟩
  ·
   simp only [Prod.mk.injEq] at e
   obtain ⟨rfl,rfl,rfl⟩:=e
   exact ⟨fun _=>.inr (.inr (.inr (.inr (.inr (.inl ⟨rfl,reg_of h1 u1⟩))))),fun _=>.inr (.inr (.inl rfl)),fun h=>absurd rfl h⟩
 ·
  have ho:=ops_at 6 (by decide) o hk (by decide)
  obtain ⟨u1,u2,u3,u4⟩:=uses_of 6 o ho
  simp only at u1 u2 u3
  rw [hk] at h1 h2 h3 u1 u2 u3 ht'
  rw [u2] at ht'
  have e:(((6:Int),(2:Int),(0:Int)))=(a,b,c):=ht'
  simp only [Prod.mk.injEq] at e
  obtain ⟨rfl,rfl,rfl⟩:=e
  exact ⟨fun _=>.inr (.inr (.inr (.inr (.inr (.inl ⟨rfl,reg_of h1 u1⟩))))),fun _=>.inr (.inl ⟨rfl,src_of h2 u2⟩),fun h=>absurd rfl h⟩
 ·
  have ho:=ops_at 7 (by decide) o hk (by decide)
  obtain ⟨u1,u2,u3,u4⟩:=uses_of 7 o ho
  simp only at u1 u2 u3
  rw [hk] at h1 h2 h3 u1 u2 u3 ht'
  have e:(((7:Int),(0:Int),(0:Int)))=(a,b,c):=ht'
  simp only [Prod.mk.injEq] at e
  obtain ⟨rfl,rfl,rfl⟩:=e
  exact ⟨fun _=>.inr (.inr (.inr (.inr (.inr (.inr (.inl rfl)))))),fun h=>absurd rfl h,fun h=>absurd rfl h⟩
 ·
  have ho:=ops_at 8 (by decide) o hk (by decide)
  obtain ⟨u1,u2,u3,u4⟩:=uses_of 8 o ho
  simp only at u1 u2 u3
  rw [hk] at h1 h2 h3 u1 u2 u3 ht'
  have e:(((1:Int),(4:Int),(7:Int)))=(a,b,c):=ht'
  simp only [Prod.mk.injEq] at e
  obtain ⟨rfl,rfl,rfl⟩:=e
  exact ⟨fun _=>.inl ⟨rfl,reg_of h1 u1⟩,fun _=>.inr (.inr (.inr (.inl ⟨rfl,fun hs=>src_of h2 (u2.trans hs)⟩))),fun _=>.inr (.inr (.inr (.inr (.inr (.inr (.inl rfl))))))⟩
 ·
  have ho:=ops_at 9 (by decide) o hk (by decide)
  obtain ⟨u1,u2,u3,u4⟩:=uses_of 9 o ho
  simp only at u1 u2 u3
  rw [hk] at h1 h2 h3 u1 u2 u3 ht'
  have e:(((8:Int),(0:Int),(0:Int)))=(a,b,c):=ht'
  simp only [Prod.mk.injEq] at e
  obtain ⟨rfl,rfl,rfl⟩:=e
  exact ⟨fun _=>.inr (.inr (.inr (.inr (.inr (.inr (.inr (rfl))))))),fun h=>absurd rfl h,fun h=>absurd rfl h⟩
 ·
  have ho:=ops_at 10 (by decide) o hk (by decide)
  obtain ⟨u1,u2,u3,u4⟩:=uses_of 10 o ho
  simp only at u1 u2 u3
  rw [hk] at h1 h2 h3 u1 u2 u3 ht'
  have e:(if s=1 then ((1:Int),(7:Int),(0:Int)) else (1,3,0))=(a,b,c):=ht'
  split at e
  ·
   simp only [Prod.mk.injEq] at e
   obtain ⟨rfl,rfl,rfl⟩:=e
   exact ⟨fun _=>.inl ⟨rfl,reg_of h1 u1⟩,fun _=>.inr (.inr (.inr (.inr (.inr (.inr (.inl rfl)))))),fun h=>absurd rfl h⟩
  ·
   simp only [Prod.mk.injEq] at e
   obtain ⟨rfl,rfl,rfl⟩:=e
   exact ⟨fun _=>.inl ⟨rfl,reg_of h1 u1⟩,fun _=>.inr (.inr (.inl rfl)),fun h=>absurd rfl h⟩
theorem tgt_len (o d s f i:Int) (t:List UInt8) (hm:mayP o d s f i=0) (h:tfitP o s f i t=true):t.length<=1000:=by
 unfold tfitP at h
 split at h
 · simp only [Bool.and_eq_true] at h;exact name_len h.1.1
 split at h
 · simp only [Bool.and_eq_true] at h;exact name_len h.1
 split at h
 · simp only [Bool.and_eq_true] at h;exact name_len h.1
 split at h
 · simp only [Bool.and_eq_true] at h;exact name_len h.1
 · rw [List.isEmpty_iff.1 h];simp
theorem print_may (o d s f i:Int) (t:List UInt8) (w:World) (hT:Tabs w) (hm:¬mayP o d s f i=0):Calls Tryz.prog 29 #[.agg #[.int .i64 o,.int .i64 d,.int .i64 s,.int .i64 f,.int .i64 i],.string ⟨t.toArray⟩] w fun e w'=>e=.returned (.tuple #[.string ⟨#[]⟩,.int .i64 (mayP o d s f i)])/\Out w w':=by
 have CM:Hid (∀ wx,Out w wx->Calls Tryz.prog 55 #[.agg #[.int .i64 o,.int .i64 d,.int .i64 s,.int .i64 f,.int .i64 i]] wx fun e w'=>e=.returned (.int .i64 (mayP o d s f i))/\Out wx w'):=fun wx ho=>may_lit wx (hT.out ho).1 (hT.out ho).2 o d s f i
 have hn:(mayP o d s f i != 0)=true:=by simpa using hm
 generalize mayP o d s f i=m at *
 clear hm hT
 go_enter Tryz.func29,Tryz.ntmps29
 go_wp2_with (go_at_call 55;refine (CM.out _ ((Out.refl w).alloc _)).mono ?_;rintro e w1 ⟨rfl,ho⟩;have H1:=hidOf ho;clear ho)
 go_ret2
 exact ⟨rfl,Out.trans ((Out.refl w).alloc _) H1.out⟩
theorem print_unfit (o d s f i:Int) (t:List UInt8) (w:World) (hT:Tabs w) (hl:t.length<=140737488355328) (hm:mayP o d s f i=0) (ht:tfitP o s f i t=false):Calls Tryz.prog 29 #[.agg #[.int .i64 o,.int .i64 d,.int .i64 s,.int .i64 f,.int .i64 i],.string ⟨t.toArray⟩] w fun e w'=>e=.returned (.tuple #[.string ⟨#[]⟩,.int .i64 41])/\Out w w':=by
 have h0:(formP o == 0)=false:=beq_eq_false_iff_ne.2 (may_parts o d s f i hm).1
 have CM:Hid (∀ wx,Out w wx->Calls Tryz.prog 55 #[.agg #[.int .i64 o,.int .i64 d,.int .i64 s,.int .i64 f,.int .i64 i]] wx fun e w'=>e=.returned (.int .i64 0)/\Out wx w'):=fun wx ho=>by
  have:=may_lit wx (hT.out ho).1 (hT.out ho).2 o d s f i
  rw [hm] at this
  exact this
 have CF:Hid (∀ wx,Out w wx->Calls Tryz.prog 56 #[.agg #[.int .i64 o,.int .i64 d,.int .i64 s,.int .i64 f,.int .i64 i],.string ⟨t.toArray⟩] wx fun e w'=>e=.returned (.bool false)/\Out wx w'):=fun wx ho=>by
  have:=targetFits_any o d s f i t wx hl (hT.out ho) h0
  rw [ht] at this
  exact this
 have HX:=hidOf (Bx.new w o d s f i)
 clear hm hT ht h0
 go_enter Tryz.func29,Tryz.ntmps29
 go_wp2_with (first | (go_at_call 55;refine (CM.out _ ((Out.refl w).alloc _)).mono ?_;rintro e w1 ⟨rfl,ho⟩;have H1:=hidOf ho;obtain ⟨c0,c1,c2,c3,c4⟩:=HX.out.out ho;clear ho) | (go_at_call 56;refine (CF.out _ (Out.trans ((Out.refl w).alloc _) H1.out)).mono ?_;rintro e w2 ⟨rfl,ho⟩;have H2:=hidOf (Out.trans H1.out ho);clear ho))
 go_ret2
 exact ⟨rfl,Out.trans ((Out.refl w).alloc _) H2.out⟩
theorem print_fits (o d s f i:Int) (t:List UInt8) (w:World) (hE:AEnv w) (hl:t.length<=140737488355328) (hf:I64 f) (hi:I64 i) (hm:mayP o d s f i=0) (ht:tfitP o s f i t=true):Calls Tryz.prog 29 #[.agg #[.int .i64 o,.int .i64 d,.int .i64 s,.int .i64 f,.int .i64 i],.string ⟨t.toArray⟩] w fun e w'=>e=.returned (.tuple #[.string ⟨(lineP o d s f i t).toArray⟩,.int .i64 0])/\Out w w':=by
 have h0:(formP o == 0)=false:=beq_eq_false_iff_ne.2 (may_parts o d s f i hm).1
 obtain ⟨l,hlm,hol⟩:=form_ex o (may_parts o d s f i hm).1
 obtain ⟨o0,o1,o2,o3⟩:=op_all l hlm o hol
 have CM:Hid (∀ wx,Out w wx->Calls Tryz.prog 55 #[.agg #[.int .i64 o,.int .i64 d,.int .i64 s,.int .i64 f,.int .i64 i]] wx fun e w'=>e=.returned (.int .i64 0)/\Out wx w'):=fun wx ho=>by
  have:=may_lit wx (hE.out ho).1.1.2.2.1 (hE.out ho).1.1.2.2.2 o d s f i
  rw [hm] at this
  exact this
 have CF:Hid (∀ wx,Out w wx->Calls Tryz.prog 56 #[.agg #[.int .i64 o,.int .i64 d,.int .i64 s,.int .i64 f,.int .i64 i],.string ⟨t.toArray⟩] wx fun e w'=>e=.returned (.bool true)/\Out wx w'):=fun wx ho=>by
  have:=targetFits_any o d s f i t wx hl (hE.out ho).1.1.2.2 h0
  rw [ht] at this
  exact this
 have CW:Hid (∀ wx,Out w wx->Calls Tryz.prog 57 #[.agg #[.int .i64 o,.int .i64 d,.int .i64 s,.int .i64 f,.int .i64 i]] wx fun e w'=>e=.returned (.string ⟨(wordP o s f i).toArray⟩)/\Out wx w'):=fun wx ho=>wordOf_any o d s f i wx o0 o1 (hE.out ho).1.2 (fun hc _=>o2 hc) o3
 have CO:Hid (∀ wx,Out w wx->Calls Tryz.prog 58 #[.agg #[.int .i64 o,.int .i64 d,.int .i64 s,.int .i64 f,.int .i64 i]] wx fun e w'=>e=.returned (.agg #[.int .u8 (tOf o s f).1,.int .u8 (tOf o s f).2.1,.int .u8 (tOf o s f).2.2])/\Out wx w'):=fun wx ho=>opds_all o d s f i _ _ _ _ _ _ wx (hidOf fun wy hy=>info_ok_out o wy ((hE.out ho).1.1.2.2.2.out hy) h0)
 have hrng:(1<=(tOf o s f).1/\(tOf o s f).1<=8\/(tOf o s f).1=0)/\(1<=(tOf o s f).2.1/\(tOf o s f).2.1<=8\/(tOf o s f).2.1=0)/\(1<=(tOf o s f).2.2/\(tOf o s f).2.2<=8\/(tOf o s f).2.2=0):=opds_rng _ _ _ _
 have CT:∀ c,txOk o d s f i c->Hid (∀ wx,Out w wx->Calls Tryz.prog 59 #[.agg #[.int .i64 o,.int .i64 d,.int .i64 s,.int .i64 f,.int .i64 i],.int .u8 c,.string ⟨t.toArray⟩] wx fun e w'=>e=.returned (.string ⟨(opdTx o d s f i t c).toArray⟩)/\Out wx w'):=fun c hc wx ho=>operandText_any o d s f i c t hc hf hi wx (hE.out ho).1.1.2.1 (hE.out ho).2
 have htx:=tx_ok o d s f i hm (tOf o s f).1 (tOf o s f).2.1 (tOf o s f).2.2 rfl
 have hlen:∀ c,1<=c/\c<=8->(opdTx o d s f i t c).length<=1000:=fun c hc=>opdTx_len o d s f i c t hf hi (fun _=>tgt_len o d s f i t hm ht) hc
 have hw:=wordP_len o s f i
 unfold lineP tailP
 generalize tOf o s f=T at *
 obtain ⟨a,b,c⟩:=T
 simp only at hrng htx CO ⊢
 obtain ⟨ha,hb,hc⟩:=hrng
 obtain ⟨xa,xb,xc⟩:=htx
 rcases ha with ha | ha
 ·
  have na:¬a=0:=by omega
  rw [if_neg na]
  rcases hb with hb | hb
  ·
   have nb:¬b=0:=by omega
   rw [if_neg nb]
   rcases hc with hc | hc
   ·
    have nc:¬c=0:=by omega
    rw [if_neg nc]
    have:=print_3 o d s f i t (wordP o s f i) _ _ _ a b c w (beq_eq_false_iff_ne.2 na) (beq_eq_false_iff_ne.2 nb) (beq_eq_false_iff_ne.2 nc) hw (hlen a ha) (hlen b hb) (hlen c hc) CM CF CW CO (CT a (xa na)) (CT b (xb nb)) (CT c (xc nc))
    simpa [List.append_assoc] using this
   ·
    rw [if_pos hc]
    have:=print_2 o d s f i t (wordP o s f i) _ _ a b c w (beq_eq_false_iff_ne.2 na) (beq_eq_false_iff_ne.2 nb) hc hw (hlen a ha) (hlen b hb) CM CF CW CO (CT a (xa na)) (CT b (xb nb))
    simpa [List.append_assoc] using this
  ·
   rw [if_pos hb]
   have:=print_1 o d s f i t (wordP o s f i) _ a b c w (beq_eq_false_iff_ne.2 na) hb hw (hlen a ha) CM CF CW CO (CT a (xa na))
   simpa [List.append_assoc] using this
 ·
  rw [if_pos ha]
  have:=print_0 o d s f i t (wordP o s f i) a b c w ha hw CM CF CW CO
  simpa [List.append_assoc] using this
theorem print_any (o d s f i:Int) (t:List UInt8) (w:World) (hE:AEnv w) (hl:t.length<=140737488355328) (hf:I64 f) (hi:I64 i):Calls Tryz.prog 29 #[.agg #[.int .i64 o,.int .i64 d,.int .i64 s,.int .i64 f,.int .i64 i],.string ⟨t.toArray⟩] w fun e w'=>e=.returned (.tuple #[.string ⟨(printP o d s f i t).1.toArray⟩,.int .i64 (printP o d s f i t).2])/\Out w w':=by
 unfold printP
 by_cases hm:mayP o d s f i=0
 ·
  rw [if_pos hm]
  cases ht:tfitP o s f i t
  · exact print_unfit o d s f i t w hE.1.1.2.2 hl hm ht
  · exact print_fits o d s f i t w hE hl hf hi hm ht
 ·
  rw [if_neg hm]
  exact print_may o d s f i t w hE.1.1.2.2 hm
end Go.Proofs.YtadneimllbfdnaaGreatDoor
namespace Go.Proofs.YtadneimllbfdnaaGreatDoor
open Go.RowKit Go.ChangeShapes Go.WideShapes Go.ChangeAt
set_option linter.unusedVariables false
set_option linter.unusedSimpArgs false
theorem iface_flat {H:Type} {enc:TypeId × Value->H} {P:Program} {W:World} {base:Nat} {sp:Nat->Bool} {held:Bool} {fuel:Nat} {t:TypeId} {ms:Array Nat} {cs:List Value} {x:DataW H × List MemPlace} (ht:∃ z,P.underlying t=some (.interface z)) (h:DataW.trod enc P W base sp held fuel t cs=some x):cs=[.nilIface]\/∃ u v,cs=[.iface u v]:=by
 obtain ⟨z,ht⟩:=ht
 cases fuel with
 | zero=>simp [DataW.trod] at h
 | succ n=>
  unfold DataW.trod at h
  rw [ht] at h
  split at h <;> simp_all
theorem cU8:Tryz.prog.cellsOf 5 = 1:=by kernel_rfl
theorem cStr:Tryz.prog.cellsOf 9 = 1:=by kernel_rfl
theorem c2s:Tryz.prog.cellsOf 130 = 2:=by kernel_rfl
theorem c4s:Tryz.prog.cellsOf 163 = 4:=by kernel_rfl
theorem regs_of {W:World} {fuel:Nat} {enc:TypeId × Value->Unit} {sp:Nat->Bool} {held:Bool} {cs:List Value} {p:List MemPlace} (h:DataW.trod enc Tryz.prog W 0 sp held fuel 133 cs=some (Rows.laid_spindle_line_registers,p)):cs=(List.range 11).map (fun k=>.string ⟨(regL k).toArray⟩):=
 (arr_flat Tryz.underlying133 cStr (by kernel_rfl) fS (str_flat Tryz.underlying9) h).trans (by rfl)
theorem reck_of {W:World} {fuel:Nat} {enc:TypeId × Value->Unit} {sp:Nat->Bool} {held:Bool} {cs:List Value} {p:List MemPlace} (h:DataW.trod enc Tryz.prog W 0 sp held fuel 162 cs=some (Rows.laid_spindle_line_reckonWords,p)):cs=reckCs:=
 (arr_flat Tryz.underlying162 c2s (by kernel_rfl) (fA fS) (agg_flat Tryz.underlying130 cStr (by kernel_rfl) fS (str_flat Tryz.underlying9)) h).trans (by rfl)
theorem jump_of {W:World} {fuel:Nat} {enc:TypeId × Value->Unit} {sp:Nat->Bool} {held:Bool} {cs:List Value} {p:List MemPlace} (h:DataW.trod enc Tryz.prog W 0 sp held fuel 131 cs=some (Rows.laid_spindle_line_jumpWords,p)):cs=jumpCs:=
 (arr_flat Tryz.underlying131 c2s (by kernel_rfl) (fA fS) (agg_flat Tryz.underlying130 cStr (by kernel_rfl) fS (str_flat Tryz.underlying9)) h).trans (by rfl)
theorem mem_of {W:World} {fuel:Nat} {enc:TypeId × Value->Unit} {sp:Nat->Bool} {held:Bool} {cs:List Value} {p:List MemPlace} (h:DataW.trod enc Tryz.prog W 0 sp held fuel 165 cs=some (Rows.laid_spindle_line_memoryWords,p)):cs=memCs:=
 (arr_flat Tryz.underlying165 (c:=5) (by kernel_rfl) (by kernel_rfl) f2 (row2_flat Tryz.underlying164 ⟨rfl,rfl⟩ ⟨rfl,rfl⟩ Tryz.underlying5 Tryz.underlying163 Tryz.underlying9 cU8 c4s cStr (by kernel_rfl)) h).trans (by rfl)
theorem off_of {W:World} {fuel:Nat} {enc:TypeId × Value->Unit} {sp:Nat->Bool} {held:Bool} {cs:List Value} {p:List MemPlace} (h:DataW.trod enc Tryz.prog W 0 sp held fuel 189 cs=some (Rows.laid_spindle_line_offWords,p)):cs=offCs:=
 (arr_flat Tryz.underlying189 (c:=3) (by kernel_rfl) (by kernel_rfl) f3 (row3_flat Tryz.underlying188 ⟨rfl,rfl⟩ ⟨rfl,rfl⟩ ⟨rfl,rfl⟩ Tryz.underlying5 Tryz.underlying5 Tryz.underlying9 cU8 cU8 cStr (by kernel_rfl)) h).trans (by rfl)
theorem imm_of {W:World} {fuel:Nat} {enc:TypeId × Value->Unit} {sp:Nat->Bool} {held:Bool} {cs:List Value} {p:List MemPlace} (h:DataW.trod enc Tryz.prog W 0 sp held fuel 191 cs=some (Rows.laid_spindle_line_immWords,p)):cs=immCs:=
 (arr_flat Tryz.underlying191 (c:=3) (by kernel_rfl) (by kernel_rfl) f3 (row3_flat Tryz.underlying190 ⟨rfl,rfl⟩ ⟨rfl,rfl⟩ ⟨rfl,rfl⟩ Tryz.underlying5 Tryz.underlying5 Tryz.underlying9 cU8 cU8 cStr (by kernel_rfl)) h).trans (by rfl)
theorem pow_of {W:World} {fuel:Nat} {enc:TypeId × Value->Unit} {sp:Nat->Bool} {held:Bool} {cs:List Value} {p:List MemPlace} (h:DataW.trod enc Tryz.prog W 0 sp held fuel 203 cs=some (Rows.laid_internal_strconv_uint64pow10,p)):cs=Lib.pow10Tab.map (fun z=>Value.int .u64 z):=
 (arr_flat (c:=1) Tryz.underlying203 (by kernel_rfl) (by kernel_rfl) fI (int_flat Tryz.underlying75) h).trans (by rfl)
theorem env_of {W:World} (laid:List (String × DataW Unit)) (hp:(laid.all fun x=>x.2.handleName?.isNone)=true) (h:laidMetH Tryz.prog laid W)
  (m1:("spindle/isa.atomicImms",Rows.laid_spindle_isa_atomicImms) ∈ laid) (m2:("spindle/isa.opcodes",Rows.laid_spindle_isa_opcodes) ∈ laid) (m3:("spindle/line.registers",Rows.laid_spindle_line_registers) ∈ laid)
  (m4:("spindle/line.reckonWords",Rows.laid_spindle_line_reckonWords) ∈ laid) (m5:("spindle/line.jumpWords",Rows.laid_spindle_line_jumpWords) ∈ laid) (m6:("spindle/line.memoryWords",Rows.laid_spindle_line_memoryWords) ∈ laid)
  (m7:("spindle/line.offWords",Rows.laid_spindle_line_offWords) ∈ laid) (m8:("spindle/line.immWords",Rows.laid_spindle_line_immWords) ∈ laid) (m9:("internal/strconv.uint64pow10",Rows.laid_internal_strconv_uint64pow10) ∈ laid) (m10:("strconv.ErrRange",Rows.laid_strconv_ErrRange) ∈ laid):AEnv W:=by
 rw [MakeChecks.laidMetH_plain _ _ _ hp] at h
 obtain ⟨ps,h,_,_⟩:=h
 have e3:RegT W:=by
  obtain ⟨g,t,cs,f,p,hg,ht,hv,hd⟩:=laid_at h m3
  obtain rfl:=Option.some.inj ((show Tryz.prog.globalNamed "spindle/line.registers" = some 2 by kernel_rfl).symm.trans hg)
  obtain rfl:=Option.some.inj ((show (Tryz.prog.globals[2]?).map (·.type)=some 133 by kernel_rfl).symm.trans ht)
  intro k hk
  have:=range_of hg hv (regs_of hd) k _ (by rw [List.getElem?_map,List.getElem?_range hk];rfl)
  rwa [Nat.zero_add] at this
 have e4:ReckTb W:=by
  obtain ⟨g,t,cs,f,p,hg,ht,hv,hd⟩:=laid_at h m4
  obtain rfl:=Option.some.inj ((show Tryz.prog.globalNamed "spindle/line.reckonWords" = some 3 by kernel_rfl).symm.trans hg)
  obtain rfl:=Option.some.inj ((show (Tryz.prog.globals[3]?).map (·.type)=some 162 by kernel_rfl).symm.trans ht)
  exact range_of hg hv (reck_of hd)
 have e5:JumpTb W:=by
  obtain ⟨g,t,cs,f,p,hg,ht,hv,hd⟩:=laid_at h m5
  obtain rfl:=Option.some.inj ((show Tryz.prog.globalNamed "spindle/line.jumpWords" = some 1 by kernel_rfl).symm.trans hg)
  obtain rfl:=Option.some.inj ((show (Tryz.prog.globals[1]?).map (·.type)=some 131 by kernel_rfl).symm.trans ht)
  exact range_of hg hv (jump_of hd)
 have e6:MemTb W:=by
  obtain ⟨g,t,cs,f,p,hg,ht,hv,hd⟩:=laid_at h m6
  obtain rfl:=Option.some.inj ((show Tryz.prog.globalNamed "spindle/line.memoryWords" = some 4 by kernel_rfl).symm.trans hg)
  obtain rfl:=Option.some.inj ((show (Tryz.prog.globals[4]?).map (·.type)=some 165 by kernel_rfl).symm.trans ht)
  exact range_of hg hv (mem_of hd)
 have e7:OffTb W:=by
  obtain ⟨g,t,cs,f,p,hg,ht,hv,hd⟩:=laid_at h m7
  obtain rfl:=Option.some.inj ((show Tryz.prog.globalNamed "spindle/line.offWords" = some 6 by kernel_rfl).symm.trans hg)
  obtain rfl:=Option.some.inj ((show (Tryz.prog.globals[6]?).map (·.type)=some 189 by kernel_rfl).symm.trans ht)
  exact range_of hg hv (off_of hd)
 have e8:ImmTb W:=by
  obtain ⟨g,t,cs,f,p,hg,ht,hv,hd⟩:=laid_at h m8
  obtain rfl:=Option.some.inj ((show Tryz.prog.globalNamed "spindle/line.immWords" = some 7 by kernel_rfl).symm.trans hg)
  obtain rfl:=Option.some.inj ((show (Tryz.prog.globals[7]?).map (·.type)=some 191 by kernel_rfl).symm.trans ht)
  exact range_of hg hv (imm_of hd)
 have e9:Pow W:=by
  obtain ⟨g,t,cs,f,p,hg,ht,hv,hd⟩:=laid_at h m9
  obtain rfl:=Option.some.inj ((show Tryz.prog.globalNamed "internal/strconv.uint64pow10" = some 8 by kernel_rfl).symm.trans hg)
  obtain rfl:=Option.some.inj ((show (Tryz.prog.globals[8]?).map (·.type)=some 203 by kernel_rfl).symm.trans ht)
  unfold Pow Lib.TabIs
  rw [hv, <-pow_of hd]
 have e10:ErrR W:=by
  obtain ⟨g,t,cs,f,p,hg,ht,hv,hd⟩:=laid_at h m10
  obtain rfl:=Option.some.inj ((show Tryz.prog.globalNamed "strconv.ErrRange" = some 13 by kernel_rfl).symm.trans hg)
  obtain rfl:=Option.some.inj ((show (Tryz.prog.globals[13]?).map (·.type)=some 83 by kernel_rfl).symm.trans ht)
  rcases iface_flat (ms:=#[]) ⟨_,Tryz.underlying83⟩ hd with hc | ⟨u,v,hc⟩
  · exact ⟨_,by have:=range_of hg hv hc 0 .nilIface rfl;rwa [Nat.zero_add] at this,.inl rfl⟩
  · exact ⟨_,by have:=range_of hg hv hc 0 (.iface u v) rfl;rwa [Nat.zero_add] at this,.inr ⟨u,v,rfl⟩⟩
 have e1:TabA W:=by
  obtain ⟨g,t,cs,f,p,hg,ht,hv,hd⟩:=laid_at h m1
  obtain rfl:=Option.some.inj (gImms.symm.trans hg)
  obtain rfl:=Option.some.inj (tImms.symm.trans ht)
  rw [laidA_eq] at hd
  have hT:Lib.TabIs Tryz.prog W "spindle/isa.atomicImms" .u8 immsT:=by
   unfold Lib.TabIs
   rw [hv, <-Lib.cells_of_tab Tryz.underlying221 Tryz.underlying5 cellsU8 cellsArr10 hd]
  exact fun k hk=>hT.cell gImms k (by simpa [immsT] using hk)
 have e2:TabO W:=by
  obtain ⟨g,t,cs,f,p,hg,ht,hv,hd⟩:=laid_at h m2
  obtain rfl:=Option.some.inj (gOps.symm.trans hg)
  obtain rfl:=Option.some.inj (tOps.symm.trans ht)
  exact tabO_of hv hd
 exact ⟨⟨⟨e10,e3,e1,e2⟩,e4,e5,e6,e7,e8⟩,e9⟩
end Go.Proofs.YtadneimllbfdnaaGreatDoor
