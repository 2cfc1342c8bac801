import Derived.Test.YtadneimllbfdnaaGreatDoorGu27
import Derived.Test.YtadneimllbfdnaaGreatDoorGu28
import Derived.Defers
import Derived.Recover
namespace Go.Proofs.YtadneimllbfdnaaGreatDoor
open Go.RowKit
set_option linter.unusedVariables false
set_option linter.unusedSimpArgs false
structure LS (B:Nat) (w wr:World) (p g mb:Nat) (sv:Value) (L:List Stm) (r:List Lx.Tk):Prop where
 ps:PS B wr p g mb sv r
 ow:OwQ B sv L wr
 ch:Chg (KQ B w) w wr
theorem LS.on {B:Nat} {w wr w':World} {p g mb:Nat} {sv:Value} {L:List Stm} {r r':List Lx.Tk} (h:LS B w wr p g mb sv L r) (hp:PS B w' p g mb sv r') (c:Chg (fun b=>b=p) wr w'):LS B w w' p g mb sv L r':=by
 obtain ⟨tv,hR⟩:=h.ps.rb
 exact ⟨hp,h.ow.atp hR c,KQ.chain h.ch (c.mono (fun x hx _=>by rw [hx];exact h.ps.kq))⟩
theorem LS.out {B:Nat} {w wr w':World} {p g mb:Nat} {sv:Value} {L:List Stm} {r:List Lx.Tk} (h:LS B w wr p g mb sv L r) (o:Out wr w'):LS B w w' p g mb sv L r:=h.on (h.ps.out o) (Chg.of_out o)
theorem LS.then_ {B:Nat} {w wr w':World} {p g mb:Nat} {sv sv':Value} {L L':List Stm} {r r':List Lx.Tk} (h:LS B w wr p g mb sv L r) (hp:PS B w' p g mb sv' r') (ho:OwQ B sv' L' w') (c:Chg (KQ B wr) wr w'):LS B w w' p g mb sv' L' r':=⟨hp,ho,KQ.chain h.ch c⟩
def LEnd (x:RE (List Stm)) (B:Nat) (w:World) (p g mb:Nat) (e:Ending) (w':World):Prop:=
 match x with
 | .ok o ts=>(∃ q,e=.returned q)/\∃ sv',LS B w w' p g mb sv' o ts
 | .no c ts=>e=pnc c/\∃ sv' L,LS B w w' p g mb sv' L ts
theorem tk_ok {k:Int} {t:Lx.Tk} {r:List Lx.Tk} (h:t.k=k):tkQ k (t::r)=.ok t r:=by
 show (if t.k=k then RE.ok t r else RE.no 60 (t::r))=_
 rw [if_pos h]
theorem lb_step {L:List Stm} {t u:Lx.Tk} {r:List Lx.Tk} (h:atlB (t::u::r)=true):lbQ L (t::u::r)=lbQ (L++[{ nmS 1 t.t with l:=u.l }]) r/\t.k=1/\u.k=4:=by
 unfold atlB at h
 simp at h
 refine ⟨?_,h.1,col_kind h.2⟩
 conv=>lhs;unfold lbQ
 rw [if_pos ⟨h.1,h.2⟩]
theorem lb_stop {L:List Stm} {t u:Lx.Tk} {r:List Lx.Tk} (h:atlB (t::u::r)=false):lbQ L (t::u::r)=(L,t::u::r):=by
 unfold atlB at h
 simp at h
 unfold lbQ
 rw [if_neg (fun e=>by rw [h e.1] at e;exact absurd e.2 (by simp))]
set_option maxRecDepth 20000 in
set_option maxHeartbeats 8000000 in
theorem line6_any (w0:World) (B:Nat) (hB0:w0.heap.size<=B) (hpw:Lx.Pow w0) (hE0:PEnv w0) (w:World) (hw:Out w0 w) (p g mb:Nat) (sv:Value) (out:List Stm) (ts:List Lx.Tk) (h:PS B w p g mb sv ts) (ho:OwQ B sv out w) (hl:Lw ts) (hN:TkOk ts) (hD:DirM w mb) (hB:B<=w.heap.size) (hlen:out.length+ts.length<=1000000000) :
  Calls Tryz.prog 27 #[.pointer (some ⟨p,0,none⟩)] w (LEnd (lnQ out ts) B w p g mb):=by
 obtain ⟨X,hX⟩:∃ X,X=lnQ out ts:=⟨_,rfl⟩
 rw [<-hX]
 have HX:Hid (X=(stQ (lbQ out ts).1 (lbQ out ts).2).bind fun o r=>(tkQ 5 r).bind fun _ r=>.ok o r):=hidOf (by rw [hX];rfl)
 have HS:Hid (LS B w w p g mb sv out ts):=hidOf ⟨h,ho,Chg.refl _ _⟩
 have Hw:=hidOf hw
 have HL:=hidOf hl
 have HN:=hidOf hN
 have HD:=hidOf hD
 have Hpw:=hidOf hpw
 have HE0:=hidOf hE0
 clear hX h ho hl hN hD hw hpw hE0
 go_enter Tryz.func27,Tryz.ntmps27
 go_upto_region 0 with fail
 go_loopw [] (fun wr=>∃ (L:List Stm) (r:List Lx.Tk) (sv':Value),Hid (LS B w wr p g mb sv' L r)/\Hid (Lw r)/\Hid (TkOk r)/\Hid (lbQ out ts=lbQ L r)/\L.length+r.length<=1000000000) (fun wr=>leftOf p wr)
 case atStart=>exact ⟨out,ts,sv,HS,HL,HN,hidOf rfl,hlen⟩
 case round=>
  clear HS HL HN hlen sv
  obtain ⟨L,r,sv,HS,HL,HN,HQ,hlen⟩:=hrel
  obtain ⟨t,u,r',rfl⟩:=HL.out.two
  have CL:=hidOf (atLabel_any B wr p g mb sv _ HS.out.ps HL.out)
  have hBr:B<=wr.heap.size:=Nat.le_trans hB HS.out.ch.size
  cases hat:atlB (t::u::r') with
  | true=>
   rw [hat] at CL
   obtain ⟨e1,hk1,hk4⟩:=lb_step (L:=L) hat
   have HQ1:Hid (lbQ out ts=lbQ (L++[{ nmS 1 t.t with l:=u.l }]) r'):=hidOf (HQ.out.trans e1)
   have hL1:Lw (u::r'):=HL.out.next (by rw [hk1];decide)
   have HL1:=hidOf hL1
   have HL2:=hidOf (hL1.next (by rw [hk4];decide))
   have HN2:=hidOf (tkOk_clo _ _ (tkOk_clo _ _ HN.out))
   have CW:Hid (∀ wx,PS B wx p g mb sv (t::u::r')->Calls Tryz.prog 51 #[.pointer (some ⟨p,0,none⟩)] wx fun e w'=>e=.returned (.string ⟨t.t.toArray⟩)/\PS B w' p g mb sv (u::r')/\Chg (fun b=>b=p) wx w'):=hidOf (fun wx hp=>by
    have:=word_any B wx p g mb sv _ hp HL.out
    rw [show wdQ (t::u::r')=.ok t.t (u::r') by unfold wdQ;rw [tk_ok hk1];rfl] at this
    exact this)
   have CA:Hid (∀ wx,LS B w wx p g mb sv L (u::r')->Calls Tryz.prog 50 #[.pointer (some ⟨p,0,none⟩),.agg #[.int .i64 1,.string ⟨t.t.toArray⟩,.slice none 0 0,.slice none 0 0,.int .i64 0,.int .i64 0,.int .i64 0,.int .i64 0,.int .i64 0,.string ⟨#[]⟩,.int .i64 0]] wx fun e w'=>(∃ q,e=.returned q)/\∃ sv',LS B w w' p g mb sv' (L++[{ nmS 1 t.t with l:=u.l }]) (u::r')):=hidOf (fun wx hs=>by
    refine (add6_any B wx p g mb sv u r' L (nmS 1 t.t) (.slice none 0 0) (.slice none 0 0) hs.ps hs.ow (LsOk.nil B _ _ rfl rfl) (by omega) (Nat.le_trans hB hs.ch.size)).mono ?_
    rintro e w' ⟨he,sv',hp,ho,hc⟩
    exact ⟨he,sv',hs.then_ hp ho hc⟩)
   have CK:Hid (∀ wx sv',PS B wx p g mb sv' (u::r')->Calls Tryz.prog 52 #[.pointer (some ⟨p,0,none⟩),.int .i64 4] wx fun e w'=>e=.returned (tkE u)/\PS B w' p g mb sv' r'/\Chg (fun b=>b=p) wx w'):=hidOf (fun wx sv' hp=>by
    have:=take_any B wx p g mb sv' _ 4 hp HL1.out
    rw [show tkQ 4 (u::r')=.ok u r' from tk_ok hk4] at this
    exact this)
   clear hat e1 hk1 hk4 hL1
   go_wp2_with (first | (go_at_call 49;refine CL.out.mono ?_;rintro e wa ⟨rfl,hoa⟩;have SA:=hidOf (HS.out.out hoa);clear hoa) | (go_at_call 51;refine (CW.out _ SA.out.ps).mono ?_;rintro e wb ⟨rfl,hp,hc⟩;have SB:=hidOf (SA.out.on hp hc);clear hp hc) | (go_at_call 50;refine (CA.out _ SB.out).mono ?_;rintro e wc ⟨⟨qc,rfl⟩,svc,hs⟩;have SC:=hidOf hs;clear hs) | (go_at_call 52;refine (CK.out _ _ SC.out.ps).mono ?_;rintro e wd ⟨rfl,hp,hc⟩;have SD:=hidOf (SC.out.on hp hc);clear hp hc))
   go_roundw
   case rel=>
    exact ⟨_,r',svc,SD,HL2,HN2,HQ1,by simp at hlen ⊢;omega⟩
   case measure=>
    rw [SD.out.ps.left,HS.out.ps.left]
    show r'.length<(t::u::r').length
    simp only [List.length_cons]
    omega
  | false=>
   rw [hat] at CL
   have HQ1:Hid (X=(stQ L (t::u::r')).bind fun o r=>(tkQ 5 r).bind fun _ r=>.ok o r):=hidOf (by rw [HX.out,HQ.out,lb_stop hat])
   clear hat
   obtain ⟨n,hn⟩:∃ n,n=(t::u::r').length:=⟨_,rfl⟩
   have hnI:(2:Int)<=n:=by rw [hn];simp;omega
   have CELL:Hid (∀ wx,LS B w wx p g mb sv L (t::u::r')->∃ off cap,wx.cell? ⟨p,0,none⟩=some (.slice (some ⟨g,off,none⟩) n cap)/\wx.cell? ⟨g,off,none⟩=some (.int .i64 t.k)):=hidOf (fun wx hs=>by
    obtain ⟨off,cap,hR,hT,hc⟩:=hs.ps.st
    obtain ⟨q0, -, -, -⟩:=hT 0 t rfl
    simp only [Nat.zero_mul,Nat.add_zero] at q0
    rw [hn]
    exact ⟨off,cap,by rw [cell_atL hR];rfl,q0⟩)
   have Hn:=hidOf hn
   clear hn
   by_cases h5:t.k=5
   ·
    have hkb:(t.k == 5)=true:=by simp [h5]
    have HE:Hid (X=.ok L (u::r')):=hidOf (by
     rw [HQ1.out]
     unfold stQ
     rw [if_pos (show kindQ (t::u::r')=5 from h5),bind_ok]
     rw [tk_ok h5]
     rfl)
    have CK:Hid (∀ wx,PS B wx p g mb sv (t::u::r')->Calls Tryz.prog 52 #[.pointer (some ⟨p,0,none⟩),.int .i64 5] wx fun e w'=>e=.returned (tkE t)/\PS B w' p g mb sv (u::r')/\Chg (fun b=>b=p) wx w'):=hidOf (fun wx hp=>by
     have:=take_any B wx p g mb sv _ 5 hp HL.out
     rw [show tkQ 5 (t::u::r')=.ok t (u::r') from tk_ok h5] at this
     exact this)
    clear h5
    go_upto_region 3 with (go_at_call 49;refine CL.out.mono ?_;rintro e wa ⟨rfl,hoa⟩;have SA:=hidOf (HS.out.out hoa);clear hoa)
    obtain ⟨off,cap,c0,q0⟩:=CELL.out _ SA.out
    go_wp2_with (go_at_call 52;refine (CK.out _ SA.out.ps).mono ?_;rintro e wd ⟨rfl,hp,hc⟩;have SD:=hidOf (SA.out.on hp hc);clear hp hc)
    go_end0
    rw [HE.out]
    exact ⟨⟨_,rfl⟩,sv,SD.out⟩
   have hk5:(t.k == 5)=false:=by simp [h5]
   have HQ2:Hid (X=((if kindQ (t::u::r')=1 then inQ (t::u::r') else dirQ (t::u::r')).bind fun s r=>.ok (L++[{ s with l:=lineQ r }]) r).bind fun o r=>(tkQ 5 r).bind fun _ r=>.ok o r):=hidOf (by
    rw [HQ1.out]
    unfold stQ
    rw [if_neg (show ¬kindQ (t::u::r')=5 from h5)])
   clear HQ1 h5
   by_cases h1:t.k=1
   ·
    have hk1:(t.k == 1)=true:=by simp [h1]
    have HQ3:Hid (X=((inQ (t::u::r')).bind fun s r=>.ok (L++[{ s with l:=lineQ r }]) r).bind fun o r=>(tkQ 5 r).bind fun _ r=>.ok o r):=hidOf (by rw [HQ2.out,if_pos (show kindQ (t::u::r')=1 from h1)])
    have hlz:(inQ (t::u::r')).lw:=inQ_lw HL.out
    have CI:Hid (∀ wx,LS B w wx p g mb sv L (t::u::r')->Calls Tryz.prog 53 #[.pointer (some ⟨p,0,none⟩)] wx (REndS (inQ (t::u::r')) B wx p g mb sv)):=hidOf (fun wx hs=>instruction_any w0 B hB0 Hpw.out HE0.out wx (KQ.out hs.ch Hw.out hB0) p g mb sv _ hs.ps HL.out HN.out (by omega))
    generalize inQ (t::u::r')=Z at CI HQ3 hlz
    clear HQ2 h1
    cases Z with
    | no c r2=>
     have HE:Hid (X=.no c r2):=hidOf HQ3.out
     have CI:Hid (∀ wx,LS B w wx p g mb sv L (t::u::r')->Calls Tryz.prog 53 #[.pointer (some ⟨p,0,none⟩)] wx fun e w'=>e=.panicked [{ v:=.iface 32 (.int .i64 c),recovered:=false }]/\PS B w' p g mb sv r2/\Chg (fun b=>b=p) wx w'):=hidOf (fun wx hs=>CI.out wx hs)
     clear HQ3 hlz
     go_upto_region 3 with (go_at_call 49;refine CL.out.mono ?_;rintro e wa ⟨rfl,hoa⟩;have SA:=hidOf (HS.out.out hoa);clear hoa)
     obtain ⟨off,cap,c0,q0⟩:=CELL.out _ SA.out
     go_wp2_with (go_at_call 53;refine (CI.out _ SA.out).mono ?_;rintro e wd ⟨rfl,hp,hc⟩;have SD:=hidOf (SA.out.on hp hc);clear hp hc)
     rw [HE.out]
     exact ⟨rfl,rfl,sv,L,SD.out⟩
    | ok s r2=>
     have hlz:Lw r2:=hlz
     obtain ⟨y,y2,r3,rfl⟩:=hlz.two
     obtain ⟨nw,hnw⟩:∃ nw,nw=s.ws.length:=⟨_,rfl⟩
     obtain ⟨nn,hnn⟩:∃ nn,nn=s.ns.length:=⟨_,rfl⟩
     have HQ4:Hid (X=(tkQ 5 (y::y2::r3)).bind fun _ r=>.ok (L++[{ s with l:=y.l }]) r):=hidOf HQ3.out
     have CI:Hid (∀ wx,LS B w wx p g mb sv L (t::u::r')->Calls Tryz.prog 53 #[.pointer (some ⟨p,0,none⟩)] wx fun e w'=>∃ aw cw an cn,e=.returned (.agg #[.int .i64 s.k,.string ⟨s.nm.toArray⟩,.slice aw nw cw,.slice an nn cn,.int .i64 s.o,.int .i64 s.d,.int .i64 s.s,.int .i64 s.f,.int .i64 s.i,.string ⟨s.tg.toArray⟩,.int .i64 s.l])/\LsOk B w' s (.slice aw nw cw) (.slice an nn cn)/\PS B w' p g mb sv (y::y2::r3)/\Chg (fun b=>b=p) wx w'):=hidOf (fun wx hs=>by
      refine (CI.out wx hs).mono ?_
      rintro e w' ⟨wv,nv,rfl,hls,hp',hc'⟩
      obtain ⟨aw,cw,rfl⟩:=own_form hls.1
      obtain ⟨an,cn,rfl⟩:=own_form hls.2
      rw [hnw,hnn]
      exact ⟨aw,cw,an,cn,rfl,hls,hp',hc'⟩)
     have CA:Hid (∀ wx aw cw an cn,LS B w wx p g mb sv L (y::y2::r3)->LsOk B wx s (.slice aw nw cw) (.slice an nn cn)->Calls Tryz.prog 50 #[.pointer (some ⟨p,0,none⟩),.agg #[.int .i64 s.k,.string ⟨s.nm.toArray⟩,.slice aw nw cw,.slice an nn cn,.int .i64 s.o,.int .i64 s.d,.int .i64 s.s,.int .i64 s.f,.int .i64 s.i,.string ⟨s.tg.toArray⟩,.int .i64 s.l]] wx fun e w'=>(∃ q,e=.returned q)/\∃ sv',LS B w w' p g mb sv' (L++[{ s with l:=y.l }]) (y::y2::r3)):=hidOf (fun wx aw cw an cn hs hx=>by
      refine (add6_any B wx p g mb sv y (y2::r3) L s (.slice aw nw cw) (.slice an nn cn) hs.ps hs.ow hx (by omega) (Nat.le_trans hB hs.ch.size)).mono ?_
      rintro e w' ⟨he,sv',hp,ho,hc⟩
      exact ⟨he,sv',hs.then_ hp ho hc⟩)
     have CK0:Hid (∀ wx sv',PS B wx p g mb sv' (y::y2::r3)->Calls Tryz.prog 52 #[.pointer (some ⟨p,0,none⟩),.int .i64 5] wx (REnd tkE (tkQ 5 (y::y2::r3)) B wx p g mb sv')):=hidOf (fun wx sv' hp=>take_any B wx p g mb sv' _ 5 hp hlz)
     clear HQ3 hlz hnw hnn
     cases hz:tkQ 5 (y::y2::r3) with
     | no c r4=>
      have HE:Hid (X=.no c r4):=hidOf (by rw [HQ4.out,hz];rfl)
      have CK:Hid (∀ wx sv',PS B wx p g mb sv' (y::y2::r3)->Calls Tryz.prog 52 #[.pointer (some ⟨p,0,none⟩),.int .i64 5] wx fun e w'=>e=.panicked [{ v:=.iface 32 (.int .i64 c),recovered:=false }]/\PS B w' p g mb sv' r4/\Chg (fun b=>b=p) wx w'):=hidOf (fun wx sv' hp=>by have:=CK0.out wx sv' hp;rw [hz] at this;exact this)
      clear hz HQ4 CK0
      go_upto_region 3 with (go_at_call 49;refine CL.out.mono ?_;rintro e wa ⟨rfl,hoa⟩;have SA:=hidOf (HS.out.out hoa);clear hoa)
      obtain ⟨off,cap,c0,q0⟩:=CELL.out _ SA.out
      go_wp2_with (first | (go_at_call 53;refine (CI.out _ SA.out).mono ?_;rintro e wb ⟨aw,cw,an,cn,rfl,hls,hp,hc⟩;have SB:=hidOf (SA.out.on hp hc);have LB:=hidOf hls;clear hp hc hls) | (go_at_call 50;refine (CA.out _ _ _ _ _ SB.out LB.out).mono ?_;rintro e wc ⟨⟨qc,rfl⟩,svc,hs⟩;have SC:=hidOf hs;clear hs) | (go_at_call 52;refine (CK.out _ _ SC.out.ps).mono ?_;rintro e wd ⟨rfl,hp,hc⟩;have SD:=hidOf (SC.out.on hp hc);clear hp hc))
      rw [HE.out]
      exact ⟨rfl,rfl,svc,_,SD.out⟩
     | ok a r4=>
      have HE:Hid (X=.ok (L++[{ s with l:=y.l }]) r4):=hidOf (by rw [HQ4.out,hz];rfl)
      have CK:Hid (∀ wx sv',PS B wx p g mb sv' (y::y2::r3)->Calls Tryz.prog 52 #[.pointer (some ⟨p,0,none⟩),.int .i64 5] wx fun e w'=>e=.returned (tkE a)/\PS B w' p g mb sv' r4/\Chg (fun b=>b=p) wx w'):=hidOf (fun wx sv' hp=>by have:=CK0.out wx sv' hp;rw [hz] at this;exact this)
      clear hz HQ4 CK0
      go_upto_region 3 with (go_at_call 49;refine CL.out.mono ?_;rintro e wa ⟨rfl,hoa⟩;have SA:=hidOf (HS.out.out hoa);clear hoa)
      obtain ⟨off,cap,c0,q0⟩:=CELL.out _ SA.out
      go_wp2_with (first | (go_at_call 53;refine (CI.out _ SA.out).mono ?_;rintro e wb ⟨aw,cw,an,cn,rfl,hls,hp,hc⟩;have SB:=hidOf (SA.out.on hp hc);have LB:=hidOf hls;clear hp hc hls) | (go_at_call 50;refine (CA.out _ _ _ _ _ SB.out LB.out).mono ?_;rintro e wc ⟨⟨qc,rfl⟩,svc,hs⟩;have SC:=hidOf hs;clear hs) | (go_at_call 52;refine (CK.out _ _ SC.out.ps).mono ?_;rintro e wd ⟨rfl,hp,hc⟩;have SD:=hidOf (SC.out.on hp hc);clear hp hc))
      go_end0
      rw [HE.out]
      exact ⟨⟨_,rfl⟩,svc,SD.out⟩
   ·
    have hk1:(t.k == 1)=false:=by simp [h1]
    have HQ3:Hid (X=((dirQ (t::u::r')).bind fun s r=>.ok (L++[{ s with l:=lineQ r }]) r).bind fun o r=>(tkQ 5 r).bind fun _ r=>.ok o r):=hidOf (by rw [HQ2.out,if_neg (show ¬kindQ (t::u::r')=1 from h1)])
    have hlz:(dirQ (t::u::r')).lw:=dirQ_lw HL.out
    have CI:Hid (∀ wx,LS B w wx p g mb sv L (t::u::r')->Calls Tryz.prog 54 #[.pointer (some ⟨p,0,none⟩)] wx (REndS (dirQ (t::u::r')) B wx p g mb sv)):=hidOf (fun wx hs=>directive_any B wx p g mb sv _ hs.ps HL.out HN.out (HD.out.kq hs.ch) (Nat.le_trans hB hs.ch.size))
    generalize dirQ (t::u::r')=Z at CI HQ3 hlz
    clear HQ2 h1
    cases Z with
    | no c r2=>
     have HE:Hid (X=.no c r2):=hidOf HQ3.out
     have CI:Hid (∀ wx,LS B w wx p g mb sv L (t::u::r')->Calls Tryz.prog 54 #[.pointer (some ⟨p,0,none⟩)] wx fun e w'=>e=.panicked [{ v:=.iface 32 (.int .i64 c),recovered:=false }]/\PS B w' p g mb sv r2/\Chg (fun b=>b=p) wx w'):=hidOf (fun wx hs=>CI.out wx hs)
     clear HQ3 hlz
     go_upto_region 3 with (go_at_call 49;refine CL.out.mono ?_;rintro e wa ⟨rfl,hoa⟩;have SA:=hidOf (HS.out.out hoa);clear hoa)
     obtain ⟨off,cap,c0,q0⟩:=CELL.out _ SA.out
     go_wp2_with (go_at_call 54;refine (CI.out _ SA.out).mono ?_;rintro e wd ⟨rfl,hp,hc⟩;have SD:=hidOf (SA.out.on hp hc);clear hp hc)
     rw [HE.out]
     exact ⟨rfl,rfl,sv,L,SD.out⟩
    | ok s r2=>
     have hlz:Lw r2:=hlz
     obtain ⟨y,y2,r3,rfl⟩:=hlz.two
     obtain ⟨nw,hnw⟩:∃ nw,nw=s.ws.length:=⟨_,rfl⟩
     obtain ⟨nn,hnn⟩:∃ nn,nn=s.ns.length:=⟨_,rfl⟩
     have HQ4:Hid (X=(tkQ 5 (y::y2::r3)).bind fun _ r=>.ok (L++[{ s with l:=y.l }]) r):=hidOf HQ3.out
     have CI:Hid (∀ wx,LS B w wx p g mb sv L (t::u::r')->Calls Tryz.prog 54 #[.pointer (some ⟨p,0,none⟩)] wx fun e w'=>∃ aw cw an cn,e=.returned (.agg #[.int .i64 s.k,.string ⟨s.nm.toArray⟩,.slice aw nw cw,.slice an nn cn,.int .i64 s.o,.int .i64 s.d,.int .i64 s.s,.int .i64 s.f,.int .i64 s.i,.string ⟨s.tg.toArray⟩,.int .i64 s.l])/\LsOk B w' s (.slice aw nw cw) (.slice an nn cn)/\PS B w' p g mb sv (y::y2::r3)/\Chg (fun b=>b=p) wx w'):=hidOf (fun wx hs=>by
      refine (CI.out wx hs).mono ?_
      rintro e w' ⟨wv,nv,rfl,hls,hp',hc'⟩
      obtain ⟨aw,cw,rfl⟩:=own_form hls.1
      obtain ⟨an,cn,rfl⟩:=own_form hls.2
      rw [hnw,hnn]
      exact ⟨aw,cw,an,cn,rfl,hls,hp',hc'⟩)
     have CA:Hid (∀ wx aw cw an cn,LS B w wx p g mb sv L (y::y2::r3)->LsOk B wx s (.slice aw nw cw) (.slice an nn cn)->Calls Tryz.prog 50 #[.pointer (some ⟨p,0,none⟩),.agg #[.int .i64 s.k,.string ⟨s.nm.toArray⟩,.slice aw nw cw,.slice an nn cn,.int .i64 s.o,.int .i64 s.d,.int .i64 s.s,.int .i64 s.f,.int .i64 s.i,.string ⟨s.tg.toArray⟩,.int .i64 s.l]] wx fun e w'=>(∃ q,e=.returned q)/\∃ sv',LS B w w' p g mb sv' (L++[{ s with l:=y.l }]) (y::y2::r3)):=hidOf (fun wx aw cw an cn hs hx=>by
      refine (add6_any B wx p g mb sv y (y2::r3) L s (.slice aw nw cw) (.slice an nn cn) hs.ps hs.ow hx (by omega) (Nat.le_trans hB hs.ch.size)).mono ?_
      rintro e w' ⟨he,sv',hp,ho,hc⟩
      exact ⟨he,sv',hs.then_ hp ho hc⟩)
     have CK0:Hid (∀ wx sv',PS B wx p g mb sv' (y::y2::r3)->Calls Tryz.prog 52 #[.pointer (some ⟨p,0,none⟩),.int .i64 5] wx (REnd tkE (tkQ 5 (y::y2::r3)) B wx p g mb sv')):=hidOf (fun wx sv' hp=>take_any B wx p g mb sv' _ 5 hp hlz)
     clear HQ3 hlz hnw hnn
     cases hz:tkQ 5 (y::y2::r3) with
     | no c r4=>
      have HE:Hid (X=.no c r4):=hidOf (by rw [HQ4.out,hz];rfl)
      have CK:Hid (∀ wx sv',PS B wx p g mb sv' (y::y2::r3)->Calls Tryz.prog 52 #[.pointer (some ⟨p,0,none⟩),.int .i64 5] wx fun e w'=>e=.panicked [{ v:=.iface 32 (.int .i64 c),recovered:=false }]/\PS B w' p g mb sv' r4/\Chg (fun b=>b=p) wx w'):=hidOf (fun wx sv' hp=>by have:=CK0.out wx sv' hp;rw [hz] at this;exact this)
      clear hz HQ4 CK0
      go_upto_region 3 with (go_at_call 49;refine CL.out.mono ?_;rintro e wa ⟨rfl,hoa⟩;have SA:=hidOf (HS.out.out hoa);clear hoa)
      obtain ⟨off,cap,c0,q0⟩:=CELL.out _ SA.out
      go_wp2_with (first | (go_at_call 54;refine (CI.out _ SA.out).mono ?_;rintro e wb ⟨aw,cw,an,cn,rfl,hls,hp,hc⟩;have SB:=hidOf (SA.out.on hp hc);have LB:=hidOf hls;clear hp hc hls) | (go_at_call 50;refine (CA.out _ _ _ _ _ SB.out LB.out).mono ?_;rintro e wc ⟨⟨qc,rfl⟩,svc,hs⟩;have SC:=hidOf hs;clear hs) | (go_at_call 52;refine (CK.out _ _ SC.out.ps).mono ?_;rintro e wd ⟨rfl,hp,hc⟩;have SD:=hidOf (SC.out.on hp hc);clear hp hc))
      rw [HE.out]
      exact ⟨rfl,rfl,svc,_,SD.out⟩
     | ok a r4=>
      have HE:Hid (X=.ok (L++[{ s with l:=y.l }]) r4):=hidOf (by rw [HQ4.out,hz];rfl)
      have CK:Hid (∀ wx sv',PS B wx p g mb sv' (y::y2::r3)->Calls Tryz.prog 52 #[.pointer (some ⟨p,0,none⟩),.int .i64 5] wx fun e w'=>e=.returned (tkE a)/\PS B w' p g mb sv' r4/\Chg (fun b=>b=p) wx w'):=hidOf (fun wx sv' hp=>by have:=CK0.out wx sv' hp;rw [hz] at this;exact this)
      clear hz HQ4 CK0
      go_upto_region 3 with (go_at_call 49;refine CL.out.mono ?_;rintro e wa ⟨rfl,hoa⟩;have SA:=hidOf (HS.out.out hoa);clear hoa)
      obtain ⟨off,cap,c0,q0⟩:=CELL.out _ SA.out
      go_wp2_with (first | (go_at_call 54;refine (CI.out _ SA.out).mono ?_;rintro e wb ⟨aw,cw,an,cn,rfl,hls,hp,hc⟩;have SB:=hidOf (SA.out.on hp hc);have LB:=hidOf hls;clear hp hc hls) | (go_at_call 50;refine (CA.out _ _ _ _ _ SB.out LB.out).mono ?_;rintro e wc ⟨⟨qc,rfl⟩,svc,hs⟩;have SC:=hidOf hs;clear hs) | (go_at_call 52;refine (CK.out _ _ SC.out.ps).mono ?_;rintro e wd ⟨rfl,hp,hc⟩;have SD:=hidOf (SC.out.on hp hc);clear hp hc))
      go_end0
      rw [HE.out]
      exact ⟨⟨_,rfl⟩,svc,SD.out⟩
theorem inQ_cl {P:List Lx.Tk->Prop} (hP:Clo P) {ts:List Lx.Tk} (h:P ts):P (inQ ts).rest:=by
 unfold inQ
 by_cases e:(parseP (ixQ [] ts).1).e=0
 · rw [if_pos e];exact ixQ_cl hP [] ts h
 · rw [if_neg e];exact ixQ_cl hP [] ts h
theorem stQ_cl {P:List Lx.Tk->Prop} (hP:Clo P) {out:List Stm} {ts:List Lx.Tk} (h:P ts):P (stQ out ts).rest:=by
 unfold stQ
 by_cases e:kindQ ts=5
 · rw [if_pos e];exact h
 rw [if_neg e]
 refine rest_bind ?_ (fun _ _ h=>h)
 by_cases e1:kindQ ts=1
 · rw [if_pos e1];exact inQ_cl hP h
 · rw [if_neg e1];exact dirQ_cl hP h
theorem lnQ_cl {P:List Lx.Tk->Prop} (hP:Clo P) {out:List Stm} {ts:List Lx.Tk} (h:P ts):P (lnQ out ts).rest:=
 rest_bind (stQ_cl hP (lbQ_cl hP ts.length out ts (Nat.le_refl _) h)) (fun _ _ h=>rest_bind (tkQ_cl hP h) (fun _ _ h=>h))
theorem len_clo (n:Nat):Clo (fun r:List Lx.Tk=>r.length<=n):=fun t r h=>by
 simp only [List.length_cons] at h
 omega
theorem lbQ_len:∀ (n:Nat) (out:List Stm) (ts:List Lx.Tk),ts.length<=n->(lbQ out ts).1.length+(lbQ out ts).2.length<=out.length+ts.length
 | _,out,[],_=>by unfold lbQ;simp
 | _,out,[t],_=>by unfold lbQ;simp
 | 0,out,t::u::r,hn=>by simp at hn
 | n+1,out,t::u::r,hn=>by
  unfold lbQ
  by_cases e:t.k=1/\colQ u=true
  ·
   rw [if_pos e]
   have:=lbQ_len n (out++[{ nmS 1 t.t with l:=u.l }]) r (by simp at hn;omega)
   simp only [List.length_append,List.length_cons,List.length_nil] at this ⊢
   omega
  · rw [if_neg e];simp
def LnF (out:List Stm) (ts:List Lx.Tk):RE (List Stm)->Prop
 | .ok o r=>Tw r/\r.length<ts.length/\o.length+r.length<=out.length+ts.length
 | .no c r=>Lw r
theorem lnQ_f {out:List Stm} {ts:List Lx.Tk} (h:Lw ts):LnF out ts (lnQ out ts):=by
 have hL:=lbQ_lw ts.length out ts (Nat.le_refl _) h
 have hn:=lbQ_len ts.length out ts (Nat.le_refl _)
 have hn2:(lbQ out ts).2.length<=ts.length:=lbQ_cl (len_clo ts.length) ts.length out ts (Nat.le_refl _) (Nat.le_refl _)
 unfold lnQ
 generalize hA:lbQ out ts=A at *
 obtain ⟨L,r⟩:=A
 simp only at hL hn hn2 ⊢
 have hS:(stQ L r).lw:=stQ_lw hL
 have hSl:(stQ L r).rest.length<=r.length:=stQ_cl (P:=fun x=>x.length<=r.length) (len_clo r.length) (Nat.le_refl _)
 have hSo:∀ o r',stQ L r=.ok o r'->o.length<=L.length+1:=fun o r' e=>by
  unfold stQ at e
  by_cases e5:kindQ r=5
  · rw [if_pos e5] at e;cases e;omega
  rw [if_neg e5] at e
  generalize (if kindQ r=1 then inQ r else dirQ r)=Z at e
  cases Z with
  | no c r=>cases e
  | ok s r=>cases e;simp
 cases hz:stQ L r with
 | no c r'=>rw [hz] at hS;exact hS
 | ok o r'=>
  have hSo:=hSo o r' hz
  rw [hz] at hS hSl
  have hS:Lw r':=hS
  have hSl:r'.length<=r.length:=hSl
  rw [bind_ok]
  obtain ⟨t,u,r2,rfl⟩:=hS.two
  by_cases hk:t.k=5
  ·
   rw [tk_ok hk,bind_ok]
   refine ⟨hS.pass hk, ?_, ?_⟩
   · simp only [List.length_cons] at hSl ⊢;omega
   · simp only [List.length_cons] at hSl ⊢;omega
  ·
   rw [show tkQ 5 (t::u::r2)=.no 60 (t::u::r2) by
    show (if t.k=5 then RE.ok t (u::r2) else RE.no 60 (t::u::r2))=_
    rw [if_neg hk]]
   exact hS
theorem rd_step {n:Nat} {out:List Stm} {ts:List Lx.Tk} (h:¬kindQ ts=0):rdF (n+1) out ts=(lnQ out ts).bind fun o r=>rdF n o r:=by
 conv=>lhs;unfold rdF
 rw [if_neg h]
theorem rd_stop {n:Nat} {out:List Stm} {ts:List Lx.Tk} (h:kindQ ts=0):rdF n out ts=.ok out ts:=by
 cases n with
 | zero=>rfl
 | succ n=>unfold rdF;rw [if_pos h]
set_option maxRecDepth 20000 in
set_option maxHeartbeats 2000000 in
theorem statementCount_any (w:World) (g off cap:Nat) (ts:List Lx.Tk) (hT:TkR w g off ts) (hc:ts.length<=cap) (hlen:ts.length<=1000000000) :
  Calls Tryz.prog 25 #[.slice (some ⟨g,off,none⟩) ts.length cap] w fun e w'=>∃ c:Nat,e=.returned (.int .i64 c)/\c<=ts.length/\Out w w':=by
 obtain ⟨n,hn⟩:∃ n,n=ts.length:=⟨_,rfl⟩
 have Hn:=hidOf hn
 have HT:=hidOf hT
 have Hc:=hidOf hc
 rw [<-hn] at hlen hc ⊢
 clear hn hT
 go_enter Tryz.func25,Tryz.ntmps25
 go_upto_region 3 with fail
 go_loopw [3,4,9] (fun c o i wr=>∃ (C O I:Nat),c=.int .i64 C/\o=.int .i64 O/\i=.int .i64 I/\O<=1/\C+O<=I/\I<=n/\Hid (Out w wr)) (fun _ _ i _=>n - (intOf i).toNat)
 case atStart=>exact ⟨0,0,0,rfl,rfl,rfl,by omega,by omega,by omega,hidOf (Out.refl w)⟩
 case round=>
  obtain ⟨C,O,I,rfl,rfl,rfl,hO,hCO,hI,HO⟩:=hrel
  by_cases hlt:I<n
  ·
   have hltI:(I:Int)<n:=by omega
   obtain ⟨t,ht⟩:∃ t,ts[I]? = some t:=⟨_,List.getElem?_eq_getElem (by have:=Hn.out;omega)⟩
   obtain ⟨q0,q1,q2,q3⟩:=HT.out I t ht
   have q0:=cell_later HO.out q0
   have q1:=cell_later HO.out q1
   have q2:=cell_later HO.out q2
   have q3:=cell_later HO.out q3
   have CC:=hidOf (isColon_any t)
   unfold tkE at CC
   clear ht
   go_upto_region 6 with fail
   obtain ⟨w2,hw2⟩:∃ w2,w2=wr.alloc (.cells #[.int .i64 t.k,.string ⟨t.t.toArray⟩,.int .u64 t.n,.int .i64 t.l] 77):=⟨_,rfl⟩
   have O2:Hid (Out w w2):=hidOf (by rw [hw2];exact HO.out.alloc _)
   have b2:w2.heap[wr.heap.size]? = some (.cells #[.int .i64 t.k,.string ⟨t.t.toArray⟩,.int .u64 t.n,.int .i64 t.l] 77 (0,0)):=by rw [hw2];exact heap_alloc_new wr _
   rw [<-hw2]
   have m0:w2.cell? ⟨wr.heap.size,0,none⟩=some (.int .i64 t.k):=by rw [cell_atL b2];rfl
   have m1:w2.cell? ⟨wr.heap.size,1,none⟩=some (.string ⟨t.t.toArray⟩):=by rw [cell_atL b2];rfl
   have m2:w2.cell? ⟨wr.heap.size,2,none⟩=some (.int .u64 t.n):=by rw [cell_atL b2];rfl
   have m3:w2.cell? ⟨wr.heap.size,3,none⟩=some (.int .i64 t.l):=by rw [cell_atL b2];rfl
   clear hw2 b2 q0 q1 q2 q3
   cases hcol:colQ t with
   | true=>
    rw [hcol] at CC
    go_wp2_with (go_at_call 48;refine (CC.out _).mono ?_;rintro e w3 ⟨rfl,ho⟩;have O3:=hidOf (O2.out.trans ho);clear ho)
    go_roundw
    case rel=>exact ⟨C+1,0,I+1,by simp,rfl,by simp,by omega,by omega,by omega,O3⟩
    case measure=>simp [intOf];omega
   | false=>
    rw [hcol] at CC
    have M0:Hid (∀ wx,Out w2 wx->wx.cell? ⟨wr.heap.size,0,none⟩=some (.int .i64 t.k)):=hidOf (fun wx o=>cell_later o m0)
    cases hk:(t.k == 5) with
    | true=>
     go_wp2_with (go_at_call 48;refine (CC.out _).mono ?_;rintro e w3 ⟨rfl,ho⟩;have O3:=hidOf (O2.out.trans ho);have m30:=M0.out _ ho;clear ho m0 m1 m2 m3)
     go_roundw
     case rel=>exact ⟨C+O,0,I+1,by simp,rfl,by simp,by omega,by omega,by omega,O3⟩
     case measure=>simp [intOf];omega
    | false=>
     go_wp2_with (go_at_call 48;refine (CC.out _).mono ?_;rintro e w3 ⟨rfl,ho⟩;have O3:=hidOf (O2.out.trans ho);have m30:=M0.out _ ho;clear ho m0 m1 m2 m3)
     go_roundw
     case rel=>exact ⟨C,1,I+1,rfl,rfl,by simp,by omega,by omega,by omega,O3⟩
     case measure=>simp [intOf];omega
  ·
   have e:I=n:=by omega
   subst e
   go_wp2
   go_ret
   exact ⟨C,rfl,by have:=Hn.out;omega,HO.out⟩
set_option maxRecDepth 20000 in
theorem catch_idle6 (a b c d:Addr) (w:World) :
  CallsD Tryz.prog 26 #[.pointer (some a),.pointer (some b),.pointer (some c),.pointer (some d)] .returning w fun e u' w'=>e=.returned (.tuple #[])/\u'=.returning/\w'=w:=by
 refine callsD_of_wpS Tryz.func26 rfl fun c₀ cs hu=>?_
 apply wpS_seq
 apply wpS_region
 simp [wpOpsS,go_sem,recoverD,hu,Tryz.ntmps26,Exit.thenS]
 refine wpS_of_wp ?_
 simp only [Array.replicate_succ,Array.replicate_zero,List.push_toArray,List.append_toArray,List.nil_append,List.cons_append,List.setIfInBounds_toArray,List.set_cons_zero,List.set_cons_succ,List.set_nil]
 go_wp2
 cases c₀
 simp_all [bodyPostS,results,Tryz.results26]
set_option maxRecDepth 20000 in
set_option maxHeartbeats 1000000 in
theorem catch_pan6 (p g off n cap:Nat) (a1 a2 a3:Nat) (c l:Int) (w:World) (hn:1<=n) (h0:w.cell? ⟨p,0,none⟩=some (.slice (some ⟨g,off,none⟩) n cap)) (h1:w.cell? ⟨g,off+3,none⟩=some (.int .i64 l))
  (x1 x2 x3:Value) (k1:w.heap[a1]? = some (.cells #[x1] 24 (0,0))) (k2:w.heap[a2]? = some (.cells #[x2] 3 (0,0))) (k3:w.heap[a3]? = some (.cells #[x3] 32 (0,0)))
  (hp:¬p=a1/\¬p=a2/\¬p=a3) (hg:¬g=a1/\¬g=a2/\¬g=a3) (h12:¬a1=a2/\¬a1=a3/\¬a2=a3) :
  CallsD Tryz.prog 26 #[.pointer (some ⟨p,0,none⟩),.pointer (some ⟨a1,0,none⟩),.pointer (some ⟨a2,0,none⟩),.pointer (some ⟨a3,0,none⟩)] (.panicking [{ v:=.iface 32 (.int .i64 c),recovered:=false }]) w fun e u' w'=>e=.returned (.tuple #[])/\u'=.panicking [{ v:=.iface 32 (.int .i64 c),recovered:=true }]/\w'=(((w.setCell ⟨a1,0,none⟩ (.slice none 0 0)).drew).setCell ⟨a2,0,none⟩ (.int .i64 l)).setCell ⟨a3,0,none⟩ (.int .i64 c):=by
 have hnI:0<n:=by omega
 have hta:∀ wy:World,(Instr.typeAssert (.iface 32 (.int .i64 c)) 20 32 false).run Tryz.prog wy=.ok (.int .i64 c) wy:=fun _=>by kernel_rfl
 obtain ⟨wa,hwa⟩:∃ wa,wa=(w.setCell ⟨a1,0,none⟩ (.slice none 0 0)).drew:=⟨_,rfl⟩
 obtain ⟨wb,hwb⟩:∃ wb,wb=wa.setCell ⟨a2,0,none⟩ (.int .i64 l):=⟨_,rfl⟩
 obtain ⟨wc,hwc⟩:∃ wc,wc=wb.setCell ⟨a3,0,none⟩ (.int .i64 c):=⟨_,rfl⟩
 rw [<-hwa, <-hwb, <-hwc]
 have ca:Chg (fun b=>b=a1) w wa:=by rw [hwa];exact (Chg.setCell (S:=fun b=>b=a1) (Chg.refl _ w) (p:=⟨a1,0,none⟩) rfl _).drew
 have cb:Chg (fun b=>b=a2) wa wb:=by rw [hwb];exact Chg.setCell (S:=fun b=>b=a2) (Chg.refl _ wa) (p:=⟨a2,0,none⟩) rfl _
 have cc:Chg (fun b=>b=a3) wb wc:=by rw [hwc];exact Chg.setCell (S:=fun b=>b=a3) (Chg.refl _ wb) (p:=⟨a3,0,none⟩) rfl _
 have ha1:w.heap[a1]? = _:=k1
 have k2a:wa.heap[a2]? = _:=(ca.block a2 (Array.getElem?_eq_some_iff.1 k2).1 (fun e=>h12.1 e.symm)).trans k2
 have k3b:wb.heap[a3]? = _:=(cb.block a3 (by have:=(Array.getElem?_eq_some_iff.1 k3).1;have:=ca.size;omega) (fun e=>h12.2.2 e.symm)).trans ((ca.block a3 (Array.getElem?_eq_some_iff.1 k3).1 (fun e=>h12.2.1 e.symm)).trans k3)
 have z1:(w.drew).cell? ⟨a1,0,none⟩=some x1:=by rw [cell_atL (show (w.drew).heap[a1]? = _ from k1)];rfl
 have f1:(w.drew).frozen? ⟨a1,0,none⟩=false:=frozen_atL (show (w.drew).heap[a1]? = _ from k1) 0
 have z2:wa.cell? ⟨a2,0,none⟩=some x2:=by rw [cell_atL k2a];rfl
 have f2:wa.frozen? ⟨a2,0,none⟩=false:=frozen_atL k2a 0
 have z3:wb.cell? ⟨a3,0,none⟩=some x3:=by rw [cell_atL k3b];rfl
 have f3:wb.frozen? ⟨a3,0,none⟩=false:=frozen_atL k3b 0
 have s0a:=ca.cell h0 hp.1
 have s1a:=ca.cell h1 hg.1
 have s0b:=cb.cell s0a hp.2.1
 have s1b:=cb.cell s1a hg.2.1
 have s0c:=cc.cell s0b hp.2.2
 have s1c:=cc.cell s1b hg.2.2
 have Hwa:=hidOf hwa
 have Hwb:=hidOf hwb
 have Hwc:=hidOf hwc
 have SA:=hidOf (And.intro s0a s1a)
 have SB:=hidOf (And.intro s0b s1b)
 have SC:=hidOf (And.intro s0c s1c)
 clear hwa hwb hwc ca cb cc k1 k2 k3 ha1 k2a k3b s0a s1a s0b s1b s0c s1c hp hg h12
 refine callsD_of_wpS Tryz.func26 rfl fun c₀ cs hu=>?_
 apply wpS_seq
 apply wpS_region
 simp [wpOpsS,go_sem,recoverD,hu,Tryz.ntmps26,Exit.thenS]
 refine wpS_of_wp ?_
 simp only [Array.replicate_succ,Array.replicate_zero,List.push_toArray,List.append_toArray,List.nil_append,List.cons_append,List.setIfInBounds_toArray,List.set_cons_zero,List.set_cons_succ,List.set_nil]
 go_upto_region 2 with fail
 refine wp_region_held_drew (S:=(fun w'=>w'.cell? ⟨p,0,none⟩=some (.slice (some ⟨g,off,none⟩) n cap)/\w'.cell? ⟨g,off+3,none⟩=some (.int .i64 l))) (by kernel_rfl) ?_ (fun hHeld=>?_)
 · exact ⟨h0,h1⟩
 refine tkLB [0,1,2,3,4,5,6] ?_
 iterate 7 (refine tkLC (v:=?_) rfl rfl (by kernel_rfl) (by kernel_rfl) (by kernel_rfl) (fun _ _ _ h=>h) (by rfl) (by assumption) ?_ ?_;rotate_left;(· (intro wy hSw;obtain ⟨hs1,hs2⟩:=hSw;go_simp;(try with_reducible rfl)));simp only [Act.put,List.setIfInBounds_toArray,List.set_cons_zero,List.set_cons_succ])
 refine tkLE ?_
 refine wpAnyH_ready (rs:=[7]) (by kernel_rfl) (by simp) ?_
 refine AllReadyH.cons rfl (fun K hK=>?_) AllReadyH.nil
 rw [if_pos (by rfl)]
 go_simp
 rw [<-Hwa.out]
 refine hK.out _ _ SA.out (fun hHeld=>?_)
 refine wpAnyH_ready (rs:=[8]) (by kernel_rfl) (by simp) ?_
 refine AllReadyH.cons rfl (fun K2 hK2=>?_) AllReadyH.nil
 rw [if_pos (by rfl)]
 go_simp
 rw [<-Hwb.out]
 refine hK2.out _ _ SB.out (fun hHeld=>?_)
 refine wpAnyH_ready (rs:=[9]) (by kernel_rfl) (by simp) ?_
 refine AllReadyH.cons rfl (fun K3 hK3=>?_) AllReadyH.nil
 rw [if_pos (by rfl)]
 go_simp
 rw [<-Hwc.out]
 refine hK3.out _ _ SC.out (fun hHeld=>?_)
 refine wpAnyH_done (by kernel_rfl) ?_ _
 go_wp2
 cases c₀
 simp_all [bodyPostS,results,Tryz.results26]
theorem OwQ.offs {B:Nat} {S:Nat->Prop} {sv:Value} {L:List Stm} {w w':World} (h:OwQ B sv L w) (c:Chg S w w') (hS:∀ x,S x->x<B):OwQ B sv L w':=by
 have key:∀ {e:TypeId} {s n:Nat} {v:Value} {xs:List Value},w.ownsRow B e s v n xs->w'.ownsRow B e s v n xs:=fun ho=>owns_chg ho (fun k hk e=>by have:=(World.ownsRow.lt ho k hk).1;have:=hS k e;omega) c
 obtain ⟨Y,h1,h2,h3⟩:=h.ex
 exact ⟨Y,h1,key h2,fun y hy=>⟨key (h3 y hy).1,key (h3 y hy).2⟩⟩
structure R3 (w:World) (a:Nat) (x y z:Value):Prop where
 h1:w.heap[a]? = some (.cells #[x] 24 (0,0))
 h2:w.heap[a+1]? = some (.cells #[y] 3 (0,0))
 h3:w.heap[a+2]? = some (.cells #[z] 32 (0,0))
theorem R3.kq {B a:Nat} {w w':World} {x y z:Value} (h:R3 w a x y z) (c:Chg (KQ B w) w w'):R3 w' a x y z:=⟨KQ.kind c h.h1 (by decide) (by decide),KQ.kind c h.h2 (by decide) (by decide),KQ.kind c h.h3 (by decide) (by decide)⟩
theorem R3.out {a:Nat} {w w':World} {x y z:Value} (h:R3 w a x y z) (o:Out w w'):R3 w' a x y z:=⟨(o.block _ (Array.getElem?_eq_some_iff.1 h.h1).1).trans h.h1,(o.block _ (Array.getElem?_eq_some_iff.1 h.h2).1).trans h.h2,(o.block _ (Array.getElem?_eq_some_iff.1 h.h3).1).trans h.h3⟩
theorem R3.set {a:Nat} {w:World} {x y z:Value} (h:R3 w a x y z) (x' y' z':Value) (wz:World) (hz:wz=((w.setCell ⟨a,0,none⟩ x').setCell ⟨a+1,0,none⟩ y').setCell ⟨a+2,0,none⟩ z'):R3 wz a x' y' z'/\Chg (fun b=>b=a\/b=a+1\/b=a+2) w wz:=by
 subst hz
 have c1:Chg (fun b=>b=a) w (w.setCell ⟨a,0,none⟩ x'):=Chg.setCell (S:=fun b=>b=a) (Chg.refl _ w) (p:=⟨a,0,none⟩) rfl _
 generalize hw1:w.setCell ⟨a,0,none⟩ x'=w1 at *
 have c2:Chg (fun b=>b=a+1) w1 (w1.setCell ⟨a+1,0,none⟩ y'):=Chg.setCell (S:=fun b=>b=a+1) (Chg.refl _ w1) (p:=⟨a+1,0,none⟩) rfl _
 have k1:w1.heap[a]? = some (.cells #[x'] 24 (0,0)):=by rw [<-hw1,set_atL h.h1];rfl
 have k2:w1.heap[a+1]? = _:=(c1.block _ (Array.getElem?_eq_some_iff.1 h.h2).1 (by omega)).trans h.h2
 have k3:w1.heap[a+2]? = _:=(c1.block _ (Array.getElem?_eq_some_iff.1 h.h3).1 (by omega)).trans h.h3
 generalize hw2:w1.setCell ⟨a+1,0,none⟩ y'=w2 at *
 have c3:Chg (fun b=>b=a+2) w2 (w2.setCell ⟨a+2,0,none⟩ z'):=Chg.setCell (S:=fun b=>b=a+2) (Chg.refl _ w2) (p:=⟨a+2,0,none⟩) rfl _
 have j1:w2.heap[a]? = _:=(c2.block _ (Array.getElem?_eq_some_iff.1 k1).1 (by omega)).trans k1
 have j2:w2.heap[a+1]? = some (.cells #[y'] 3 (0,0)):=by rw [<-hw2,set_atL k2];rfl
 have j3:w2.heap[a+2]? = _:=(c2.block _ (Array.getElem?_eq_some_iff.1 k3).1 (by omega)).trans k3
 refine ⟨⟨(c3.block _ (Array.getElem?_eq_some_iff.1 j1).1 (by omega)).trans j1,(c3.block _ (Array.getElem?_eq_some_iff.1 j2).1 (by omega)).trans j2,by rw [set_atL j3];rfl⟩, ?_⟩
 exact ((c1.mono (T:=fun b=>b=a\/b=a+1\/b=a+2) (fun x hx _=>.inl hx)).trans c2 (fun x hx _=>.inr (.inl hx))).trans c3 (fun x hx _=>.inr (.inr hx))
theorem catch_any6 (B:Nat) (p g mb a:Nat) (sv:Value) (ts:List Lx.Tk) (c:Int) (w:World) (hP:PS B w p g mb sv ts) (hl:Lw ts) (x y z:Value) (hR:R3 w a x y z) (hg:g<a) (hp:a+2<p) :
  CallsD Tryz.prog 26 #[.pointer (some ⟨p,0,none⟩),.pointer (some ⟨a,0,none⟩),.pointer (some ⟨a+1,0,none⟩),.pointer (some ⟨a+2,0,none⟩)] (.panicking [{ v:=.iface 32 (.int .i64 c),recovered:=false }]) w fun e u' w'=>e=.returned (.tuple #[])/\u'=.panicking [{ v:=.iface 32 (.int .i64 c),recovered:=true }]/\R3 w' a (.slice none 0 0) (.int .i64 (lineQ ts)) (.int .i64 c)/\Chg (fun b=>b=a\/b=a+1\/b=a+2) w w':=by
 obtain ⟨t,u,r,rfl⟩:=hl.two
 obtain ⟨off,cap,hRB,hT,hc⟩:=hP.st
 obtain ⟨-, -, -,q3⟩:=hT 0 t rfl
 simp only [Nat.zero_mul,Nat.add_zero] at q3
 refine (catch_pan6 p g off _ cap a (a+1) (a+2) c t.l w (by simp) (show w.cell? ⟨p,0,none⟩=some (.slice (some ⟨g,off,none⟩) (t::u::r).length cap) by rw [cell_atL hRB];rfl) q3 x y z hR.h1 hR.h2 hR.h3 ⟨by omega,by omega,by omega⟩ ⟨by omega,by omega,by omega⟩ ⟨by omega,by omega,by omega⟩).mono ?_
 rintro e u' w' ⟨he,hu,hw⟩
 have hd:R3 w.drew a x y z:=⟨hR.h1,hR.h2,hR.h3⟩
 have:=hd.set (.slice none 0 0) (.int .i64 t.l) (.int .i64 c) w' hw
 exact ⟨he,hu,this.1,⟨this.2.os,this.2.tape,this.2.output,this.2.size,this.2.block⟩⟩
end Go.Proofs.YtadneimllbfdnaaGreatDoor
