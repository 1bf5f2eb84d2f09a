/-
 GenI, GenJ, GenK, GenL, GenM, GenO in one text.
-/
import Derived.Test.YtpiamlgmadnepaaGreatGenMid
import Derived.Test.YtpiamlgmadnepaaGreatPullEP
import Derived.Deep.CutRange
import Derived.Test.YtpiamlgmadnepaaGreatNRepAll
import Derived.Test.YtpiamlgmadnepaaGreatNodeMid
import Derived.Test.YtpiamlgmadnepaaGreatSubAll
import Derived.Deep.LoopGhost
open Go.Proofs.Tryz
set_option linter.unusedVariables false
set_option maxHeartbeats 8000000
set_option maxRecDepth 100000
namespace Go.Proofs.YtpiamlgmadnepaaGreat.ND
open Go.ChangeShapes Go.WideShapes Go.ChangeAt Go.RowKit Go.Maps Go.Lib Mem NO
def Fits (N:Nd) (fr:Int):Msg->Prop
 | .fr tk _ _ _ _=>∃ t,N.at tk=some t
 | .lost tk _=>∃ t,N.at tk=some t/\fr∈t.kids
 | .key tk _=>∃ t,N.at tk=some t/\fr∈t.kids
theorem ξ3y {N:Nd} {tk:Int} {t:Tr} (h1:1<=tk) (h2:tk<=8) (h:N.at tk=some t):∃ k:Nat,k<8/\tk=(k:Int)+1/\(tk - 1).toNat=k/\N.tr k=some t:=by
 refine ⟨(tk - 1).toNat,by omega,by omega,rfl,h⟩
theorem ξ9y {w w':World} {o:Nat->Tg} {n b:Nat} {P:NP} {N:Nd} (hN:NAt w o n b P N) (hb:Below w.heap.size w w'):Done w w' o n b N:=⟨o,P,hN.below hb,Ext.refl _ _,Chg.of_below hb _ _⟩
theorem ξa5 {n:Nat} {N:Nd} (h:NdOk n N) {now:Int} (h0:N.nw<=now) (h1:now<=1000000):∀ x∈N.sb,SbOk N.nw x.2/\OM.tf x.2.on now=0:=fun x hx=>by
 have:=(h.sb x hx).1
 exact ⟨this,ξ2f this.oi.c1 (Int.le_trans this.on h0) h1⟩
theorem ξcP {tk:Int} {L:List Int} {u:Int}:(Back.ebytes 1 tk L u).head?≠some 70:=by simp [Back.ebytes]
theorem ξcO {tk:Int} {L:List Int} {u:Int}:(Back.ebytes 2 tk L u).head?≠some 70:=by simp [Back.ebytes]
theorem ξ2H {N:Nd} {fr now:Int} {bv:Value} {tk og ep h:Int} {p:Pk} {t:Tr} (ht:N.at tk=some t):N.hear fr now bv (.fr tk og ep h p)=if hrF t fr ep=0 then { N.tookG (tk - 1).toNat t (p.lies bv) og (h+1) now with nw:=now } else N:=by simp only [Nd.hear,ht]
theorem ξ2k {N:Nd} {fr now:Int} {bv:Value} {tk:Int} {L:List Int} {t:Tr} (ht:N.at tk=some t) (hk:fr∈t.kids):N.hear fr now bv (.lost tk L)={ N with lt:=N.lt++L.flatMap (againL t fr),nw:=now }:=by simp only [Nd.hear,ht,if_pos hk]
theorem ξ47 {N:Nd} {fr now:Int} {bv:Value} {tk v:Int} {t:Tr} (ht:N.at tk=some t) (hk:fr∈t.kids):N.hear fr now bv (.key tk v)={ N with lt:=N.lt++(if t.pa=-1 then [] else [(t.pa,Back.ebytes 2 tk [] v)]),nw:=now }:=by simp only [Nd.hear,ht,if_pos hk]
theorem ξcN (nn n b:Nat) (o:Nat->Tg) (P:NP) (N:Nd) (fr now:Int) (m:Msg) (a:Option Addr) (k cap:Nat) (w:World) (hn:n≠0) (hN:NAt w o n b P N) (hK:NdOk nn N) (hl:N.lt.length<=500) (h0:N.nw<=now) (h1:now<=1000000) (hm:m.ok) (hf:Fits N fr m) (hA:Arg w a k m.by) (hc:k<=cap) :
 Calls prog 89 #[.pointer (some ⟨b,0,none⟩),.int .i64 fr,.slice a k cap,.int .i64 now] w fun e w'=>∃ f bv,e=.returned (errv f)/\Done w w' o n b (N.hear fr now bv m):=by
 have hnow:=ξ1Y hK.nw.1 h0 h1
 cases m with
 | fr tk og ep h p=>
   obtain ⟨m1,m2,m3,m4,m5⟩:=hm;obtain ⟨t,ht⟩:=hf;obtain ⟨i,hi,rfl,ei,hti⟩:=ξ3y m1 m2 ht;have hT:=hK.tr i hi t hti
   have hkl:=hT.kl
   refine (ξ7s n b i o P N t fr now og ep h p.s p.t p.l p.q p.st a k cap p.L w hn hN hi hti hnow hT.gi hT.ri hA hc m3 m4 m5 N.nw (ξa5 hK h0 h1) hK.si (by omega)).mono ?_
   rintro e w' ⟨rfl,hg⟩;by_cases hr:hrF t fr ep=0
   ·obtain ⟨bv,hd⟩:=hg.1 hr;refine ⟨_,bv,rfl,?_⟩
    rw [ξ2H ht,if_pos hr,ei];exact hd
   ·refine ⟨_,.pointer none,rfl,?_⟩
    rw [ξ2H ht,if_neg hr];exact ξ9y hN (hg.2 hr)
 | lost tk L=>
   obtain ⟨m1,m2⟩:=hm;obtain ⟨t,ht,hkid⟩:=hf;obtain ⟨_,q1,q2,_⟩:=Back.ξ1e (Back.ξU m1).1;obtain ⟨i,hi,rfl,ei,hti⟩:=ξ3y q1 q2 ht;have hT:=hK.tr i hi t hti
   obtain ⟨R,hR⟩:∃ R:Nd,{ N with lt:=N.lt++L.flatMap (againL t fr) }=R:=⟨_,rfl⟩;refine (ξ6S n b o P N fr now a k cap _ w (fun f N'=>f=0/\N'=R) hn hN hnow hA (fun W _ hx=>absurd hx ξcP) ?_).mono ?_
   ·intro W hBW _;have hNW:NAt W (grow o w ξ2) n b P N:=hN.chg (S:=fun _=>False) (Chg.of_below hBW _ _) (fun g hg=>hg.elim) (ξ3 o w ξ2)
    have C:=ξ53 n b i (grow o w ξ2) P N t fr L a k cap W hn hNW hi hti hT.ri (hA.below hBW) hc m1 hkid hT.rf (by omega)
    refine C.mono ?_
    rintro e w' ⟨rfl,hd⟩;rw [hR] at hd;exact ⟨0,rfl,fun _=>⟨R,⟨rfl,rfl⟩,hd⟩,fun hx=>absurd rfl hx⟩
   ·rintro e w' ⟨f,rfl,g1,g2⟩;by_cases hx:f=0
    ·obtain ⟨N',⟨_,rfl⟩,hd⟩:=g1 hx;refine ⟨f,.pointer none,rfl,?_⟩
     rw [ξ2k ht hkid];rw [<- hR] at hd;exact hd
    ·exact absurd (g2 hx).1.1 hx
 | key tk v=>
   obtain ⟨t,ht,hkid⟩:=hf;obtain ⟨_,q1,q2,_⟩:=Back.ξ1e (Back.ξU hm).1;obtain ⟨i,hi,rfl,ei,hti⟩:=ξ3y q1 q2 ht;have hT:=hK.tr i hi t hti
   obtain ⟨R,hR⟩:∃ R:Nd,{ N with lt:=N.lt++(if t.pa=-1 then [] else [(t.pa,Back.ebytes 2 ((i:Int)+1) [] v)]) }=R:=⟨_,rfl⟩;refine (ξ6S n b o P N fr now a k cap _ w (fun f N'=>f=0/\N'=R) hn hN hnow hA (fun W _ hx=>absurd hx ξcO) ?_).mono ?_
   ·intro W hBW _;have hNW:NAt W (grow o w ξ2) n b P N:=hN.chg (S:=fun _=>False) (Chg.of_below hBW _ _) (fun g hg=>hg.elim) (ξ3 o w ξ2)
    have C:=ξ5Z n b i (grow o w ξ2) P N t fr v a k cap W hn hNW hi hti (hA.below hBW) hc hm hkid (by omega)
    refine C.mono ?_
    rintro e w' ⟨rfl,hd⟩;rw [hR] at hd;exact ⟨0,rfl,fun _=>⟨R,⟨rfl,rfl⟩,hd⟩,fun hx=>absurd rfl hx⟩
   ·rintro e w' ⟨f,rfl,g1,g2⟩;by_cases hx:f=0
    ·obtain ⟨N',⟨_,rfl⟩,hd⟩:=g1 hx;refine ⟨f,.pointer none,rfl,?_⟩
     rw [ξ47 ht hkid];rw [<- hR] at hd;exact hd
    ·exact absurd (g2 hx).1.1 hx
def DoneP (w w':World) (o:Nat->Tg) (n b:Nat) (P:NP) (N:Nd):Prop:=∃ o' P',NAt w' o' n b P' N/\(∀ x,(P'.sp x).s=(P.sp x).s)/\(∀ i,(P'.tp i).p=(P.tp i).p)/\Ext w o o'/\Chg o (mine n) w w'
theorem nobP {w:World} {b:Nat} {mb:Nat->Nat} {th nw:Int} {td ak:Nat->Int} {L:PU.Wts} (h:Pull.ξ8 w b mb th nw td ak L):Nob w (Pull.pblks b mb):=by
 intro k hk;rcases Ξf.1 hk with rfl | hk
 ·obtain ⟨cs,h1,_⟩:=h.box;exact ξj h1 (by decide)
 ·obtain ⟨i,hi,rfl⟩:=Ξi.1 hk;obtain ⟨D,h1,_⟩:=h.map i (by simpa using hi)
  obtain ⟨es,clock,hh,_⟩:=h1;exact ξ13 ⟨es,clock,hh⟩
theorem NCells.pul {cs:Array Value} {P:NP} {N:Nd} (h:NCells cs P N) (pn:Int) (ak:Nat->Int) (L:PU.Wts):NCells cs P { N with pn:=pn,ak:=ak,pL:=L }:=⟨h.sz,h.c0,h.c1,h.ct,h.c10,h.c11,h.c12,h.c13⟩
theorem NAt.pull {w w':World} {o:Nat->Tg} {n b:Nat} {P:NP} {N:Nd} {pn:Int} {ak:Nat->Int} {L:PU.Wts} (h:NAt w o n b P N) (hn:n≠0) (hp:Pull.ξ8 w' P.pb P.pm 10 pn (fun _=>-1) ak L) (ho:Only (Pull.pblks P.pb P.pm) w w') :
 NAt w' o n b P { N with pn:=pn,ak:=ak,pL:=L }/\Chg o (fun g=>g=⟨n,2,0⟩) w w':=by
 have hc:Chg o (fun g=>g=⟨n,2,0⟩) w w':=Chg.of_only ho (fun k hk=>h.put k hk) (nobP h.pul)
 have he:=Ext.refl w o
 have h0:∀ g:Tg,g=⟨n,2,0⟩->g.n≠0:=by rintro g rfl;exact hn
 obtain ⟨cs,k1,k2⟩:=h.box' hc (by simp)
 refine ⟨⟨⟨cs,k1,k2.pul _ _ _⟩,h.tag,fun i hi t ht=>h.trs' hc he hi (by simp) t ht,h.sbm' hc (by simp),h.smt,fun x hx=>h.sbs' hc he h0 hx (by simp),hp,h.put,h.ltr' hc he h0 (by simp),h.ltt⟩,hc⟩
theorem ξ9F (nn n b k:Nat) (o:Nat->Tg) (P:NP) (N:Nd) (t:Tr) (x:Int) (s:Sb) (now:Int) (w:World) (hn:n≠0) (hN:NAt w o n b P N) (hK:NdOk nn N) (hx:(x,s)∈N.sb) (hk:k<8) (hs:s.tk=(k:Int)+1) (ht:N.tr k=some t) (hw:s.wants=true) (h0:N.pn<=now) (h1:now<=1000000) (hl:N.lt.length<=1000) :
 Calls prog 121 #[.pointer (some ⟨b,0,none⟩),.pointer (some ⟨(P.sp x).s,0,none⟩),.int .i64 now] w fun e w'=>e=.returned (.tuple #[])/\DoneP w w' o n b P (N.askS now s):=by
 have hat:N.at s.tk=some t:=by unfold Nd.at;rw [hs,show ((k:Int)+1 - 1).toNat=k by omega];exact ht
 obtain ⟨mo0,mo1⟩:=(hK.si.mem (x,s) hx).2.2;simp only at mo0 mo1
 have hid:=hK.id
 -- cells, wherever the node is as it was but for its Pull and letters
 have HCe:Hid (∀ W oW PW (NW:Nd),NAt W oW n b PW NW->NW.id=N.id->NW.tr=N.tr->NW.sb=N.sb->(∀ x,(PW.sp x).s=(P.sp x).s)->(∀ i,(PW.tp i).p=(P.tp i).p)->PW.pb=P.pb->W.cell? ⟨b,1,none⟩=some (.int .i64 N.id)/\W.cell? ⟨b,12,none⟩=some (.pointer (some ⟨P.pb,0,none⟩))/\W.cell? ⟨(P.sp x).s,0,none⟩=some (.int .i64 ((k:Int)+1))/\W.cell? ⟨(P.sp x).s,1,none⟩=some (.int .i64 s.mo)/\W.cell? ⟨b,2+k,none⟩=some (.pointer (some ⟨(P.tp k).p,0,none⟩))/\W.cell? ⟨(P.tp k).p,2,none⟩=some (.int .i64 t.pa)):=by
  refine ξ0 ?_
  intro W oW PW NW g e1 e2 e3 e4 e5 e6;obtain ⟨_,c1,_,_,c12,_⟩:=g.cells;have bx:=(g.sbs (x,s) (by rw [e3];exact hx)).1.box
  have ct:=g.track hk
  have bt:=(g.trs k hk t (by rw [e2];exact ht)).1.box
  rw [e1] at c1;rw [e6] at c12;rw [e4] at bx;rw [e2,ht] at ct;simp only [tpv] at ct
  rw [e5] at ct bt;refine ⟨c1,c12,?_,?_,ct,?_⟩
  ·rw [<- hs];simp [World.cell?,bx]
  ·simp [World.cell?,bx]
  ·simp [World.cell?,bt]
 obtain ⟨R,hRes⟩:∃ R,N.askS now s=R:=⟨_,rfl⟩;rw [hRes];have hRe:N.askS now s=if s.wants=false∨t.pa=-1 then N else { N with pn:=PU.aN (PU.put N.pL ⟨N.id,s.tk,s.mo⟩) N.pn s.tk now,ak:=PU.aK (PU.put N.pL ⟨N.id,s.tk,s.mo⟩) 10 N.pn N.ak s.tk now,pL:=PU.put N.pL ⟨N.id,s.tk,s.mo⟩,lt:=N.lt++(if PU.aB (PU.put N.pL ⟨N.id,s.tk,s.mo⟩) 10 N.pn N.ak s.tk now=true then [(t.pa,Back.ebytes 2 s.tk [] s.mo)] else []) }:=by
  unfold Nd.askS;rw [hat]
 rw [hRes] at hRe;have hk3:wrap64 ((k:Int)+1 - 1)=(k:Int):=by unfold wrap64;omega
 have hk5:wrap64 (k:Int)=(k:Int):=by unfold wrap64;omega
 have hk4:(k:Int)<8:=by omega
 by_cases hpa:t.pa=-1
 ·rw [if_pos (.inr hpa)] at hRe;rw [hRe];obtain ⟨c1,c12,s0,s1,ct,cp⟩:=HCe.out w o P N hN rfl rfl rfl (fun _=>rfl) (fun _=>rfl) rfl
  rw [hpa] at cp;have HD:Hid (∀ j,DoneP w (w.drewN j) o n b P N):=ξ0 fun j=>⟨o,P,hN.below (below_drewN' (Ξp _ _)),fun _=>rfl,fun _=>rfl,Ext.refl _ _,Chg.of_below (below_drewN' (Ξp _ _)) _ _⟩
  clear hN hK hx hs ht hw hat HCe hRes hRe hpa c1 c12 s1 hl hid;obtain ⟨sb,hsb⟩:∃ sb,(P.sp x).s=sb:=⟨_,rfl⟩;rw [hsb] at s0 ⊢;obtain ⟨pp,hpp⟩:∃ pp,(P.tp k).p=pp:=⟨_,rfl⟩;rw [hpp] at ct cp;clear hsb hpp;go_enter func121,ntmps121
  go_wp2_with fail
  go_quiet (fail)
  go_wp2_with fail
  (try simp only [Exit.inBlock,Exit.then])
  refine bodyPost_ret (results_none rfl _ _ _) rfl ?_
  exact ⟨rfl,HD.out _⟩
 ·rw [if_neg (by rw [hw];simp [hpa])] at hRe
  have hput:Pull.Wanted N.pL N.id s.tk s.mo (PU.put N.pL ⟨N.id,s.tk,s.mo⟩)/\PU.wf N.id s.tk s.mo=0:=by
   have hwf:PU.wf N.id s.tk s.mo=0:=by unfold PU.wf;rw [if_pos (by rw [hs];omega)]
   exact ⟨⟨fun _=>Pull.ξce _ _,fun h=>absurd hwf h⟩,hwf⟩
  have hpl:=ξao hK.pl hK.pw
  have hPI:PU.Inv (PU.put N.pL ⟨N.id,s.tk,s.mo⟩):=PU.ξ27 hK.pl (PU.ξ4N.1 hput.2)
  have hpl2:(PU.put N.pL ⟨N.id,s.tk,s.mo⟩).length<=8:=ξao (a:=N.id) hPI (by
   intro y hy;rcases PU.ξ2A.1 hy with h | rfl
   ·exact hK.pw y h.1
   ·rfl)
  obtain ⟨L2,hL2⟩:∃ L2,PU.put N.pL ⟨N.id,s.tk,s.mo⟩=L2:=⟨_,rfl⟩;rw [hL2] at hput hPI hpl2 hRe;have haf:PU.af L2 N.pn s.tk now=0:=by
   unfold PU.af;rw [if_neg (by rw [hs];omega),if_neg (by rw [show PU.tf N.pn now=0 by unfold PU.tf;rw [if_neg (by have:=hK.pn.1;omega),if_neg (by omega)]];simp),if_neg]
   have:=(PU.ξ5r L2 s.tk).2.1 ⟨N.id,s.tk,s.mo⟩ (by rw [<- hL2];exact PU.ξ2A.2 (.inr rfl)) rfl
   simp only at this
   omega
  obtain ⟨c1,c12,s0,s1,ct,cp⟩:=HCe.out w o P N hN rfl rfl rfl (fun _=>rfl) (fun _=>rfl) rfl
  have HA:=ξ0 hK.ak
  -- behind Want
  have HW:Hid (∀ W,(∃ j,W=w.drewN j)->Calls prog 156 #[.pointer (some ⟨P.pb,0,none⟩),.int .i64 N.id,.int .i64 ((k:Int)+1),.int .i64 s.mo] W fun e w'=>e=.returned .nilIface/\(w'.cell? ⟨b,1,none⟩=some (.int .i64 N.id)/\w'.cell? ⟨b,12,none⟩=some (.pointer (some ⟨P.pb,0,none⟩))/\w'.cell? ⟨(P.sp x).s,0,none⟩=some (.int .i64 ((k:Int)+1))/\w'.cell? ⟨(P.sp x).s,1,none⟩=some (.int .i64 s.mo))/\Hid (NAt w' o n b P { N with pL:=L2 }/\Chg o (mine n) w w')):=by
   refine ξ0 ?_
   rintro W ⟨j,rfl⟩;have hNW:NAt (w.drewN j) o n b P N:=hN.below (below_drewN' (Ξp _ _))
   have C:=Pull.ξ8u P.pb P.pm 10 N.pn N.id ((k:Int)+1) s.mo (fun _=>-1) N.ak N.pL L2 (w.drewN j) hNW.pul hK.pl (by omega) (by rw [<- hs];exact hput.1)
   rw [show PU.wf N.id ((k:Int)+1) s.mo=0 by rw [<- hs];exact hput.2] at C
   refine C.mono ?_
   rintro e w' ⟨rfl,g1,g2⟩;obtain ⟨q1,q2⟩:=hNW.pull hn g1 g2;obtain ⟨d1,d12,d0,d1',_,_⟩:=HCe.out w' o P _ q1 rfl rfl rfl (fun _=>rfl) (fun _=>rfl) rfl
   exact ⟨rfl,⟨d1,d12,d0,d1'⟩,ξ0 ⟨q1,(Chg.of_below (below_drewN' (Ξp _ _)) o _).trans' (ξx q2)⟩⟩
  -- behind Ask
  have HK2:Hid (∀ W,NAt W o n b P { N with pL:=L2 }->Chg o (mine n) w W->Calls prog 157 #[.pointer (some ⟨P.pb,0,none⟩),.int .i64 ((k:Int)+1),.int .i64 now] W fun e w'=>e=.returned (.tuple #[.bool (PU.aB L2 10 N.pn N.ak s.tk now),.nilIface])/\(w'.cell? ⟨b,12,none⟩=some (.pointer (some ⟨P.pb,0,none⟩))/\w'.cell? ⟨(P.sp x).s,0,none⟩=some (.int .i64 ((k:Int)+1))/\w'.cell? ⟨(P.sp x).s,1,none⟩=some (.int .i64 s.mo))/\Hid (NAt w' o n b P { N with pn:=PU.aN L2 N.pn s.tk now,ak:=PU.aK L2 10 N.pn N.ak s.tk now,pL:=L2 }/\Chg o (mine n) w w')):=by
   refine ξ0 ?_
   intro W hNW hcW;have C:=Pull.ξbA P.pb P.pm 10 N.pn ((k:Int)+1) now (fun _=>-1) N.ak L2 W hNW.pul hPI HA.out (by omega)
   rw [<- hs,haf] at C;rw [<- hs];refine C.mono ?_
   rintro e w' ⟨rfl,g1,g2⟩;obtain ⟨q1,q2⟩:=hNW.pull hn g1 g2;obtain ⟨_,d12,d0,d1',_,_⟩:=HCe.out w' o P _ q1 rfl rfl rfl (fun _=>rfl) (fun _=>rfl) rfl
   rw [<- hs] at d0;exact ⟨rfl,⟨d12,d0,d1'⟩,ξ0 ⟨q1,hcW.trans' (ξx q2)⟩⟩
  -- behind sayUp
  have HU:Hid (∀ W,NAt W o n b P { N with pn:=PU.aN L2 N.pn s.tk now,ak:=PU.aK L2 10 N.pn N.ak s.tk now,pL:=L2 }->Chg o (mine n) w W->PU.aB L2 10 N.pn N.ak s.tk now=true->Calls prog 152 #[.pointer (some ⟨b,0,none⟩),.pointer (some ⟨(P.tp k).p,0,none⟩),.agg #[.int .i64 2,.int .i64 ((k:Int)+1),.slice none 0 0,.int .i64 s.mo]] W fun e w'=>e=.returned (.tuple #[])/\(w'.cell? ⟨(P.sp x).s,0,none⟩=some (.int .i64 ((k:Int)+1))/\w'.cell? ⟨(P.sp x).s,1,none⟩=some (.int .i64 s.mo))/\Hid (DoneP w w' o n b P R)):=by
   refine ξ0 ?_
   intro W hNW hcW hB;have C:=ξ2s n b k o P _ t 2 ((k:Int)+1) s.mo none 0 0 [] W hn hNW hk ht hpa ⟨fun j hj=>absurd hj (by simp),rfl,by omega⟩ (fun _=>⟨rfl,rfl⟩) (by
    unfold Back.efault Back.cfault Back.most;rw [if_pos (by
     rw [if_neg (by simp;omega)]
     decide)]
    rfl) (by
    unfold Back.ebytes Back.tail;rw [Back.ξ7X];simp [Back.ξ19,Back.pbytes]) (by show N.lt.length<=_;omega)
   refine C.mono ?_
   rintro e w' ⟨rfl,o',lv,q1,q2,q3⟩;obtain ⟨_,_,d0,d1',_,_⟩:=HCe.out w' o' { P with lv:=lv } _ q1 rfl rfl rfl (fun _=>rfl) (fun _=>rfl) rfl
   refine ⟨rfl,⟨d0,d1'⟩,ξ0 ⟨o',{ P with lv:=lv },?_,fun _=>rfl,fun _=>rfl,extG q2 hcW,hcW.trans' (ξ1h q3)⟩⟩
   rw [<- hs] at q1;rw [hRe,if_pos hB];exact q1
  have HN0:Hid (∀ W,NAt W o n b P { N with pn:=PU.aN L2 N.pn s.tk now,ak:=PU.aK L2 10 N.pn N.ak s.tk now,pL:=L2 }->Chg o (mine n) w W->PU.aB L2 10 N.pn N.ak s.tk now=false->DoneP w W o n b P R):=by
   refine ξ0 ?_
   intro W hNW hcW hB;refine ⟨o,P,?_,fun _=>rfl,fun _=>rfl,Ext.refl _ _,hcW⟩
   rw [hRe,if_neg (by rw [hB];simp),Ξu]
   exact hNW
  obtain ⟨NA,hNA⟩:∃ NA:Nd,{ N with pL:=L2 }=NA:=⟨_,rfl⟩;obtain ⟨NB,hNB⟩:∃ NB:Nd,{ N with pn:=PU.aN L2 N.pn s.tk now,ak:=PU.aK L2 10 N.pn N.ak s.tk now,pL:=L2 }=NB:=⟨_,rfl⟩;rw [hNA] at HW HK2;rw [hNB] at HK2 HU HN0;obtain ⟨sb,hsb⟩:∃ sb,(P.sp x).s=sb:=⟨_,rfl⟩;obtain ⟨pp,hpp⟩:∃ pp,(P.tp k).p=pp:=⟨_,rfl⟩;obtain ⟨pb,hpb⟩:∃ pb,P.pb=pb:=⟨_,rfl⟩;obtain ⟨id,hidd⟩:∃ id,N.id=id:=⟨_,rfl⟩;obtain ⟨mo,hmo⟩:∃ mo,s.mo=mo:=⟨_,rfl⟩;obtain ⟨pa,hpa'⟩:∃ pa,t.pa=pa:=⟨_,rfl⟩;obtain ⟨aB,haB⟩:∃ aB,PU.aB L2 10 N.pn N.ak s.tk now=aB:=⟨_,rfl⟩;rw [hsb] at HW HK2 HU s0 s1 ⊢;rw [hpp] at HU ct cp;rw [hpb] at HW HK2 c12;rw [hidd] at HW c1;rw [hmo] at HW HK2 HU s1;rw [hpa'] at cp hpa;rw [haB] at HK2 HU HN0;have e1:(pa==-1)=false:=by simpa using hpa
  clear hN hK hx hs ht hw hat HCe hRes hl hput hPI hpl hpl2 haf hL2 HA hNA hNB hsb hpp hpb hidd hmo hpa' haB hRe mo0 mo1 hid hpa;go_enter func121,ntmps121
  go_upto_region 0 with fail
  go_cut [6] from 10 to 19 (fun x6 wx=>x6=.pointer (some ⟨pp,0,none⟩)/\Hid (∃ j,wx=w.drewN j))
  case first=>
   go_wp2_with fail
   go_quiet (fail)
   go_wp2_with fail
   go_meet
   exact ⟨rfl,ξ0 ⟨_,rfl⟩⟩
  case rest=>
   obtain ⟨rfl,HJ⟩:=hcut;obtain ⟨wA,rfl⟩:∃ z,z=wc:=⟨_,rfl⟩;have CW:=ξ0 (fun W (hW:∃ j,W=wA.drewN j)=>HW.out W (by
    obtain ⟨j,rfl⟩:=hW;obtain ⟨i,hi⟩:=HJ.out;exact ⟨i+j,by rw [hi,World.drewN_drewN]⟩))
   obtain ⟨a1,a12,b0,b1,ap⟩:wA.cell? ⟨b,1,none⟩=some (.int .i64 id)/\wA.cell? ⟨b,12,none⟩=some (.pointer (some ⟨pb,0,none⟩))/\wA.cell? ⟨sb,0,none⟩=some (.int .i64 ((k:Int)+1))/\wA.cell? ⟨sb,1,none⟩=some (.int .i64 mo)/\wA.cell? ⟨pp,2,none⟩=some (.int .i64 pa):=by
    obtain ⟨i,hi⟩:=HJ.out;rw [hi];exact ⟨c1,c12,s0,s1,cp⟩
   have S0:wA.drew.cell? ⟨b,1,none⟩=some (.int .i64 id)/\wA.drew.cell? ⟨b,12,none⟩=some (.pointer (some ⟨pb,0,none⟩))/\wA.drew.cell? ⟨sb,0,none⟩=some (.int .i64 ((k:Int)+1))/\wA.drew.cell? ⟨sb,1,none⟩=some (.int .i64 mo):=⟨a1,a12,b0,b1⟩
   have CW1:=ξ0 (CW.out wA.drew ⟨1,rfl⟩)
   clear HW CW c1 c12 s0 s1 ct cp HJ;go_upto_region 2 with fail
   go_region_held3 (fun w'=>w'.cell? ⟨b,1,none⟩=some (.int .i64 id)/\w'.cell? ⟨b,12,none⟩=some (.pointer (some ⟨pb,0,none⟩))/\w'.cell? ⟨sb,0,none⟩=some (.int .i64 ((k:Int)+1))/\w'.cell? ⟨sb,1,none⟩=some (.int .i64 mo)) (with_reducible assumption) (first | (go_at_call 156;refine CW1.out.mono ?_;rintro e w4 ⟨rfl,hS4,HD4⟩))
   obtain ⟨d1,d12,d0,d1'⟩:=hS4;have CK:=ξ0 (HK2.out w4.drew (HD4.out.1.below ((Ξp _ _).drew)) (HD4.out.2.trans' (Chg.of_below ((Ξp _ _).drew) _ _)))
   have S1:w4.drew.cell? ⟨b,12,none⟩=some (.pointer (some ⟨pb,0,none⟩))/\w4.drew.cell? ⟨sb,0,none⟩=some (.int .i64 ((k:Int)+1))/\w4.drew.cell? ⟨sb,1,none⟩=some (.int .i64 mo):=⟨d12,d0,d1'⟩
   clear HK2 a1 a12 b0 b1 ap S0 CW1 HD4;go_upto_region 4 with fail
   go_region_held3 (fun w'=>w'.cell? ⟨b,12,none⟩=some (.pointer (some ⟨pb,0,none⟩))/\w'.cell? ⟨sb,0,none⟩=some (.int .i64 ((k:Int)+1))/\w'.cell? ⟨sb,1,none⟩=some (.int .i64 mo)) (with_reducible assumption) (first | (go_at_call 157;refine CK.out.mono ?_;rintro e w5 ⟨rfl,hS5,HD5⟩))
   obtain ⟨f12,f0,f1⟩:=hS5;clear CK S1 d1 d12 d0 d1';cases aB with
   | false=>
     have HDn:=ξ0 (HN0.out w5 HD5.out.1 HD5.out.2 rfl)
     clear HU HN0 HD5;go_wp2_with fail
     go_end0
     exact ⟨rfl,HDn.out⟩
   | true=>
     have CU:=ξ0 (HU.out w5.drew (HD5.out.1.below ((Ξp _ _).drew)) (HD5.out.2.trans' (Chg.of_below ((Ξp _ _).drew) _ _)) rfl)
     have S2:w5.drew.cell? ⟨sb,0,none⟩=some (.int .i64 ((k:Int)+1))/\w5.drew.cell? ⟨sb,1,none⟩=some (.int .i64 mo):=⟨f0,f1⟩
     clear HU HN0 HD5;go_upto_region 6 with fail
     go_region_held3 (fun w'=>w'.cell? ⟨sb,0,none⟩=some (.int .i64 ((k:Int)+1))/\w'.cell? ⟨sb,1,none⟩=some (.int .i64 mo)) (with_reducible assumption) (first | (go_at_call 152;refine CU.out.mono ?_;rintro e w6 ⟨rfl,hS6,HD6⟩))
     go_wp2_with fail
     go_end0
     exact ⟨rfl,HD6.out⟩
def MidP (w w':World) (o:Nat->Tg) (n b i pp:Nat) (P:NP) (N:Nd):Prop:=∃ o' P',NAt w' o' n b P' N/\(P'.tp i).p=pp/\Ext w o o'/\Chg o (mine n) w w'/\(∀ j,(P'.tp j).p=(P.tp j).p)/\∀ x,(P'.sp x).s=(P.sp x).s
theorem ξ9L (f:Nat->TP) (i:Nat) (g:Value):∀ j,(updT f i { f i with gv:=g } j).p=(f j).p:=by
 intro j;unfold updT;split
 ·rename_i e;rw [e]
 ·rfl
theorem ξ9G (n b i:Nat) (o:Nat->Tg) (P:NP) (N:Nd) (tr:Tr) (now:Int) (w:World) (hn:n≠0) (hN:NAt w o n b P N) (hi:i<8) (ht:N.tr i=some tr) (hG:GM.Inv 3 3 tr.gn tr.gT tr.gM) (htf:GM.tf tr.gn now=0) (hpa:tr.pa≠-1) (hgG:tr.gG=[]) (hgv:GM.gaveL 3 3 now tr.gM=[]) (hef:GM.dueL 3 3 now tr.gM≠[]->Back.efault 1 tr.tk (BM.norm (sq (GM.dueL 3 3 now tr.gM))) 0=0/\(Back.ebytes 1 tr.tk (BM.norm (sq (GM.dueL 3 3 now tr.gM))) 0).length<=2000) (hl:N.lt.length<=1000000) :
 Calls prog 118 #[.pointer (some ⟨b,0,none⟩),.pointer (some ⟨(P.tp i).p,0,none⟩),.int .i64 now] w fun e w'=>e=.returned (.tuple #[])/\DoneP w w' o n b P (N.asked i tr now):=by
 have hT:=(hN.trs i hi tr ht).1
 have hgap:=hT.gap
 rw [hgG] at hgap;have hlen:=hG.len
 have CD:=Gaps.ξ3w (P.tp i).g (P.tp i).gm 3 3 tr.gn tr.gT now tr.gM (P.tp i).gv [] w hgap hG htf (by simp;omega)
 rw [hgv,Ξu] at CD;have hdn:=GM.ξ8m 3 3 now tr.gM
 have hdm:∀ y∈GM.dueL 3 3 now tr.gM,0<=y/\y<=1099511627776:=by
  intro y hy;obtain ⟨x,hx,rfl⟩:=Ξi.1 hy;have:=hG.mem x (Ξj.1 hx).1
  have:=hG.t2
  omega
 have c4:w.cell? ⟨(P.tp i).p,4,none⟩=some (.pointer (some ⟨(P.tp i).g,0,none⟩)):=by simp [World.cell?,hT.box]
 obtain ⟨D,hD⟩:∃ D,GM.dueL 3 3 now tr.gM=D:=⟨_,rfl⟩;obtain ⟨R,hRes⟩:∃ R,N.asked i tr now=R:=⟨_,rfl⟩;rw [hRes];unfold Nd.asked at hRes;rw [hD] at CD hdn hdm hef hRes
 -- the track behind Due
 obtain ⟨T2,hT2⟩:∃ T2:Tr,{ tr with gn:=now,gM:=GM.dM 3 3 now tr.gM,gG:=[] }=T2:=⟨_,rfl⟩;rw [hT2] at hRes;have e2:T2.tk=tr.tk/\T2.pa=tr.pa/\T2.gT=tr.gT:=by rw [<- hT2];exact ⟨rfl,rfl,rfl⟩
 have g2:T2.gn=now/\T2.gM=GM.dM 3 3 now tr.gM/\T2.gG=[]:=by rw [<- hT2];exact ⟨rfl,rfl,rfl⟩
 -- behind Due
 have HDue:Hid (Calls prog 29 #[.pointer (some ⟨(P.tp i).g,0,none⟩),.int .i64 now] w fun e w1=>∃ a c,e=.returned (.tuple #[.slice a D.length c,.nilIface])/\Back.IArg w1 a D.length D/\Hid (MidP w w1 o n b i (P.tp i).p P { N with tr:=updR N.tr i T2 })):=by
  refine ξ0 (CD.mono ?_)
  rintro e w1 ⟨dv,rfl,gv2,q1,q2,q3,q4⟩;obtain ⟨a,c,rfl,hA,_⟩:=Gaps.ξo q2 (by omega)
  obtain ⟨hg1,hg2⟩:=hN.gaps hn hi ht q1 q4 (fun j hj=>(q3 j hj).1)
  rw [show ({ tr with gn:=now,gT:=tr.gT,gM:=GM.dM 3 3 now tr.gM,gG:=[] }:Tr)=T2 from hT2] at hg1;exact ⟨a,c,rfl,hA,ξ0 ⟨_,_,hg1,by simp [updT],ξ3 o w _,hg2,ξ9L _ _ _,fun _=>rfl⟩⟩
 -- seqsOf and sayUp
 have HSq:Hid (∀ W a c,Back.IArg W a D.length D->MidP w W o n b i (P.tp i).p P { N with tr:=updR N.tr i T2 }->D≠[]->Calls prog 153 #[.slice a D.length c] W fun e w2=>∃ a' m' c',e=.returned (.slice a' m' c')/\w2.cell? ⟨(P.tp i).p,0,none⟩=some (.int .i64 tr.tk)/\Hid (Back.IArg w2 a' m' (BM.norm (sq D))/\(a'=none->m'=0/\c'=0)/\MidP w w2 o n b i (P.tp i).p P { N with tr:=updR N.tr i T2 })):=by
  refine ξ0 ?_
  intro W a c hA hM hne;refine (ξ8F a D.length c D W hA hdm (by omega)).mono ?_
  rintro e w2 ⟨v',rfl,hv,hb⟩;obtain ⟨a',c',rfl,hA',hno',_⟩:=Back.ξo hv (by
   have:=BM.ξ1x (sq D)
   have e:(sq D).length=D.length:=by simp [sq]
   omega)
  obtain ⟨o',P',m1,m2,m3,m4,mq⟩:=hM;have m1':=m1.below hb
  have hb2:=(m1'.trs i hi T2 (ξO _ _ _)).1.box
  rw [m2] at hb2;exact ⟨a',_,c',rfl,by rw [<- e2.1];simp [World.cell?,hb2],ξ0 ⟨hA',hno',o',P',m1',m2,m3,m4.trans' (Chg.of_below hb _ _),mq⟩⟩
 have HSay:Hid (∀ W a' m' c',Hid (Back.IArg W a' m' (BM.norm (sq D))/\(a'=none->m'=0/\c'=0)/\MidP w W o n b i (P.tp i).p P { N with tr:=updR N.tr i T2 })->D≠[]->Calls prog 152 #[.pointer (some ⟨b,0,none⟩),.pointer (some ⟨(P.tp i).p,0,none⟩),.agg #[.int .i64 1,.int .i64 tr.tk,.slice a' m' c',.int .i64 0]] W fun e w3=>e=.returned (.tuple #[])/\w3.cell? ⟨(P.tp i).p,0,none⟩=some (.int .i64 tr.tk)/\Hid (MidP w w3 o n b i (P.tp i).p P R)):=by
  refine ξ0 ?_
  intro W a' m' c' hS hne;obtain ⟨hA',hno',o',P',m1,m2,m3,m4,mq⟩:=hS.out;obtain ⟨f1,f2⟩:=hef hne;have C:=ξ2s n b i o' P' { N with tr:=updR N.tr i T2 } T2 1 tr.tk 0 a' m' c' _ W hn m1 hi (ξO _ _ _) (by rw [e2.2.1];exact hpa) hA' hno' f1 f2 hl
  rw [m2] at C;refine C.mono ?_
  rintro e w3 ⟨rfl,o3,lv,q1,q2,q3⟩;have hR:({ ({ N with tr:=updR N.tr i T2 }:Nd) with lt:=N.lt++[(T2.pa,Back.ebytes 1 tr.tk (BM.norm (sq D)) 0)] }:Nd)=R:=by
   rw [<- hRes,if_neg hne,e2.2.1]
  have q1':NAt w3 o3 n b { P' with lv:=lv } R:=by rw [<- hR];exact q1
  have hb3:=(q1'.trs i hi T2 (by rw [<- hRes];exact ξO _ _ _)).1.box
  have m2':(({ P' with lv:=lv }:NP).tp i).p=(P.tp i).p:=m2
  rw [m2'] at hb3;exact ⟨rfl,by rw [<- e2.1];simp [World.cell?,hb3],ξ0 ⟨o3,_,q1',m2,m3.trans q2 m4.size,m4.trans (ξ1h q3) m3,mq⟩⟩
 -- GaveUp
 have HGv:Hid (∀ W,MidP w W o n b i (P.tp i).p P R->∃ g,W.cell? ⟨(P.tp i).p,4,none⟩=some (.pointer (some ⟨g,0,none⟩))/\Calls prog 30 #[.pointer (some ⟨g,0,none⟩)] W fun e w4=>∃ a c,e=.returned (.slice a 0 c)/\Hid (DoneP w w4 o n b P R)):=by
  refine ξ0 ?_
  rintro W ⟨o',P',m1,m2,m3,m4,mq⟩;have hti:R.tr i=some T2:=by rw [<- hRes];exact ξO _ _ _
  have hTW:=(m1.trs i hi T2 hti).1
  have hb2:=hTW.box
  rw [m2] at hb2;have hgap2:=hTW.gap
  rw [g2.2.2] at hgap2;refine ⟨(P'.tp i).g,by simp [World.cell?,hb2],?_⟩
  refine (Gaps.ξ6U (P'.tp i).g (P'.tp i).gm 3 3 _ _ _ (P'.tp i).gv [] W hgap2 (by simp)).mono ?_
  rintro e w4 ⟨rfl,q1,q2,q3⟩;obtain ⟨a,c,hv,_⟩:=Gaps.ξo (L:=[]) (by simpa using q2) (by simp)
  obtain ⟨hg1,hg2⟩:=m1.gaps hn hi hti q1 q3 (fun j hj=>by simp [Value.ownBlock] at hj)
  have e:({ R with tr:=updR R.tr i { T2 with gn:=T2.gn,gT:=T2.gT,gM:=T2.gM,gG:=[] } }:Nd)=R:=by
   have e1:({ T2 with gn:=T2.gn,gT:=T2.gT,gM:=T2.gM,gG:=[] }:Tr)=T2:=by
    have:=g2.2.2
    cases T2
    simp only at this
    rw [this]
   rw [e1];have e3:updR R.tr i T2=R.tr:=by
    funext k
    unfold updR;split
    ·rename_i h;rw [h,hti]
    ·rfl
   rw [e3]
  rw [e] at hg1;exact ⟨a,c,by rw [hv],ξ0 ⟨_,_,hg1,mq.2,fun j=>(ξ9L _ _ _ j).trans (mq.1 j),m3.trans (ξ3 o' W _) m4.size,m4.trans hg2 m3⟩⟩
 have HEq:Hid (D=[]->({ N with tr:=updR N.tr i T2 }:Nd)=R):=by
  refine ξ0 ?_
  intro h0;rw [<- hRes,if_pos h0,Ξu]
 have HTk:Hid (∀ W,MidP w W o n b i (P.tp i).p P { N with tr:=updR N.tr i T2 }->W.cell? ⟨(P.tp i).p,0,none⟩=some (.int .i64 tr.tk)):=by
  refine ξ0 ?_
  rintro W ⟨o',P',m1,m2,m3,m4,mq⟩;have hb2:=(m1.trs i hi T2 (ξO _ _ _)).1.box
  rw [m2] at hb2;rw [<- e2.1];simp [World.cell?,hb2]
 obtain ⟨N1,hN1⟩:∃ N1:Nd,{ N with tr:=updR N.tr i T2 }=N1:=⟨_,rfl⟩;rw [hN1] at HDue HSq HSay HEq HTk;obtain ⟨pp,hpp⟩:∃ pp,(P.tp i).p=pp:=⟨_,rfl⟩;obtain ⟨gb,hgb⟩:∃ gb,(P.tp i).g=gb:=⟨_,rfl⟩;rw [hpp] at HDue HSq HSay HGv HTk c4;rw [hgb] at HDue c4;rw [hpp];obtain ⟨tk,htk⟩:∃ tk,tr.tk=tk:=⟨_,rfl⟩;rw [htk] at HSq HSay HTk;obtain ⟨dl,hdl⟩:∃ dl,D.length=dl:=⟨_,rfl⟩;have HDL:=ξ0 hdl
 rw [hdl] at HDue HSq hdn;clear hN ht hG htf hpa hgG hgv hef hl hT hgap hlen CD hdm hD hRes hT2 e2 g2 hN1 hpp hgb htk hdl;go_enter func118,ntmps118
 go_wp2_with fail
 refine HDue.out.mono ?_
 rintro e w1 ⟨a,c,rfl,hA1,HM1⟩;by_cases h0:dl=0
 ·have hD0:D=[]:=Ξk (by rw [HDL.out];exact h0)
  have HMR:Hid (MidP w w1 o n b i pp P R):=by
   have:=HM1.out
   rw [HEq.out hD0] at this;exact ξ0 this
  subst h0;obtain ⟨g,c4',CG⟩:=HGv.out w1 HMR.out;have HCG:=ξ0 CG
  clear hA1 HM1 hD0 HSq HSay HTk HDue c4 CG;go_wp2_with fail
  refine HCG.out.mono ?_
  rintro e w4 ⟨a4,c5,rfl,HD4⟩;go_wp2_with fail
  go_loopg [42] 0 (fun g x wr=>x=.int .i64 0/\w4=wr)
  case atStart=>exact ⟨rfl,rfl⟩
  case round=>
   obtain ⟨rfl,rfl⟩:=hrel;go_wp2_with fail
   go_end0
   exact ⟨rfl,HD4.out⟩
 ·have hne:D≠[]:=by
   intro e;have:=HDL.out
   rw [e] at this;simp at this
   omega
  have hpos:(0:Int)<(dl:Int):=by omega
  have hd1:decide ((0:Int)<(dl:Int))=true:=by simpa using hpos
  have HS1:=HSq.out w1.drew a c (hA1.below ((Ξp _ _).drew)) (by
   obtain ⟨o',P',m1,m2,m3,m4,mq⟩:=HM1.out;exact ⟨o',P',m1.below ((Ξp _ _).drew),m2,m3,m4.trans' (Chg.of_below ((Ξp _ _).drew) _ _),mq⟩) hne
  have HC1:=ξ0 HS1
  have hS0:w1.drew.cell? ⟨pp,0,none⟩=some (.int .i64 tk):=HTk.out w1 HM1.out
  have HC2:=ξ0 (fun W a' m' c' h=>HSay.out W a' m' c' h hne)
  clear hA1 HM1 HS1 HSq HSay HTk HDue c4 hne h0;go_upto_region 3 with fail
  go_region_held3 (fun w'=>w'.cell? ⟨pp,0,none⟩=some (.int .i64 tk)) (with_reducible assumption) (first | (go_at_call 153;refine HC1.out.mono ?_;rintro e w2 ⟨a2,m2,c2,rfl,hS2,HX2⟩) | (go_at_call 152;refine (HC2.out _ _ _ _ (by with_reducible assumption)).mono ?_;rintro e w3 ⟨rfl,hS3,HM3⟩))
  obtain ⟨g,c4',CG⟩:=HGv.out w3 HM3.out;have HCG:=ξ0 CG
  clear HM3 CG;go_wp2_with fail
  refine HCG.out.mono ?_
  rintro e w4 ⟨a4,c5,rfl,HD4⟩;go_wp2_with fail
  go_loopg [42] 0 (fun g x wr=>x=.int .i64 0/\w4=wr)
  case atStart=>exact ⟨rfl,rfl⟩
  case round=>
   obtain ⟨rfl,rfl⟩:=hrel;go_wp2_with fail
   go_end0
   exact ⟨rfl,HD4.out⟩
theorem ξ3w {n:Nat} {nw now:Int} {i:Nat} {t:Tr} (h:TrOk n nw i t) (hi:i<8) (hd:GM.dueL 3 3 now t.gM≠[]):Back.efault 1 t.tk (BM.norm (sq (GM.dueL 3 3 now t.gM))) 0=0/\(BM.norm (sq (GM.dueL 3 3 now t.gM))).length<=200/\(Back.ebytes 1 t.tk (BM.norm (sq (GM.dueL 3 3 now t.gM))) 0).length<=2000:=by
 obtain ⟨L,hL⟩:∃ L,BM.norm (sq (GM.dueL 3 3 now t.gM))=L:=⟨_,rfl⟩;obtain ⟨hr,hm⟩:=BM.ξY (sq (GM.dueL 3 3 now t.gM));have hlen:=BM.ξ1x (sq (GM.dueL 3 3 now t.gM))
 rw [hL] at hr hm hlen ⊢;have hl:L.length<=200:=by
  have h1:(sq (GM.dueL 3 3 now t.gM)).length<=t.gM.length:=by
   unfold sq GM.dueL GM.nums;rw [Ξm,Ξm];exact List.length_filter_le _ _
  have:=GM.Inv.len h.gi
  omega
 have hne:L≠[]:=by
  intro e;rw [e] at hm;cases hq:GM.dueL 3 3 now t.gM with
  | nil=>exact hd hq
  | cons y r=>
    have:=(hm (y%65536)).2 (by rw [hq];simp [sq])
    simp at this
 have hb:∀ x∈L,0<=x/\x<=65535:=by
  intro x hx;obtain ⟨y,_,rfl⟩:=Ξi.1 ((hm x).1 hx);omega
 have hp:Back.pfault L=0:=by
  unfold Back.pfault;rw [if_neg (by omega),if_neg]
  simp only [Bool.not_eq_true,List.any_eq_false]
  intro x hx;have:=hb x hx
  simp [Back.inR]
  omega
 refine ⟨?_,hl,?_⟩
 ·unfold Back.efault;rw [if_pos]
  ·exact hp
  ·unfold Back.cfault Back.most;have h1:L.length≠0:=by
    intro e;exact hne (Ξk e)
   have htk:=h.tk
   rw [if_neg (by simp;omega),if_neg]
   simp only [Bool.or_eq_true,not_or,beq_iff_eq,decide_eq_decide,Bool.not_eq_true',decide_eq_false_iff_not,Decidable.not_not]
   exact ⟨by simp [h1],hr⟩
 ·have:=(Back.ξ1J hp).2.2.2.2.1
  unfold Back.ebytes Back.tail Back.pbytes;simp only [List.length_cons,Ξh]
  have e:∀ l:List (Int×Nat),(l.flatMap fun p=>Back.be 2 p.1.toNat++Back.be 2 p.2).length=4*l.length:=by
   intro l
   induction l with
   | nil=>rfl
   | cons a l ih=>simp only [List.flatMap_cons,Ξh,Back.ξ19,ih,List.length_cons];omega
  rw [e];simp
  omega
theorem ξ4S (tk:Int) (l:List (Int×Sb)):selS tk (fun s=>s) l=l:=by
 unfold selS;rw [List.map_congr_left (g:=id),List.map_id];intro x _;show (if x.2.tk=tk then (x.1,x.2) else x)=x
 split<;>rfl
theorem ξde {N:Nd} {i:Nat} {t:Tr} {now:Int} (ht:N.tr i=some t) (hpa:t.pa≠-1) (hgv:GM.gaveL 3 3 now t.gM=[]):N.askG i now=N.asked i t now:=by
 unfold Nd.askG Nd.asked;rw [ht];simp only []
 rw [if_neg hpa,hgv];simp only [List.foldl_nil]
 rw [ξ4S]
end Go.Proofs.YtpiamlgmadnepaaGreat.ND
namespace Go.Proofs.YtpiamlgmadnepaaGreat.ND
open Go.ChangeShapes Go.WideShapes Go.ChangeAt Go.RowKit Go.Maps Mem NO
theorem SbOk.gones {nw now:Int} (h1:now<=1000000):∀ (G:List Int) (s:Sb),SbOk nw s->nw<=now->SbOk now (G.foldl (fun s y=>s.gone y now) s)
 | [],s,h,hn=>h.mono hn
 | y::G,s,h,hn=>by
   rw [List.foldl_cons];exact SbOk.gones h1 G _ (h.gone (ξ2f h.oi.c1 (Int.le_trans h.on hn) h1)) (Int.le_refl _)
theorem ξ48 (now:Int):∀ (G:List Int) (s:Sb),(G.foldl (fun s y=>s.gone y now) s).tk=s.tk/\(G.foldl (fun s y=>s.gone y now) s).mo=s.mo
 | [],s=>⟨rfl,rfl⟩
 | y::G,s=>ξ48 now G (s.gone y now)
theorem NdOk.askG {n:Nat} {N:Nd} (h:NdOk n N) {i:Nat} (hi:i<8):NdOk n (N.askG i N.nw):=by
 unfold Nd.askG;cases ht:N.tr i with
 | none=>exact h
 | some t=>
   simp only []
   split
   ·exact h
   ·have hT:=h.tr i hi t ht
    have h2:=h.nw.2
    have hT':TrOk n N.nw i { t with gn:=N.nw,gM:=GM.dM 3 3 N.nw t.gM,gG:=[] }:=⟨hT.tk,hT.ep,hT.pa,hT.kd,hT.kl,GM.ξea hT.gi (ξ1Y hT.gi.n1 hT.gn h2),Int.le_refl _,rfl,hT.ri,hT.rf⟩
    have k1:=h.setT hT'
    have k2:=k1.setS (tk:=t.tk) (f:=fun s=>(GM.gaveL 3 3 N.nw t.gM).foldl (fun s y=>s.gone y N.nw) s) (fun s hs=>SbOk.gones h2 _ s hs (Int.le_refl _)) (fun s=>(ξ48 _ _ s).2) (fun s=>(ξ48 _ _ s).1)
    exact k2.letters _
theorem ξex (N:Nd) (i:Nat) (now:Int):(N.askG i now).nw=N.nw/\(N.askG i now).id=N.id/\(N.askG i now).ls=N.ls/\(N.askG i now).pn=N.pn/\(N.askG i now).ak=N.ak/\(N.askG i now).pL=N.pL/\(∀ k,k≠i->(N.askG i now).tr k=N.tr k)/\(N.askG i now).lt.length<=N.lt.length+1:=by
 unfold Nd.askG;split
 ·exact ⟨rfl,rfl,rfl,rfl,rfl,rfl,fun _ _=>rfl,Nat.le_succ _⟩
 ·split
  ·exact ⟨rfl,rfl,rfl,rfl,rfl,rfl,fun _ _=>rfl,Nat.le_succ _⟩
  ·refine ⟨rfl,rfl,rfl,rfl,rfl,rfl,fun k hk=>?_,?_⟩
   ·show updR N.tr i _ k=N.tr k
    unfold updR;rw [if_neg hk]
   ·show (N.lt++_).length<=_
    rw [Ξh];split<;>simp
theorem ξ1m (N:Nd) (now:Int):∀ j,(N.asksG now j).nw=N.nw/\(N.asksG now j).id=N.id/\(N.asksG now j).ls=N.ls/\(N.asksG now j).pn=N.pn/\(N.asksG now j).ak=N.ak/\(N.asksG now j).pL=N.pL/\(∀ k,j<=k->(N.asksG now j).tr k=N.tr k)/\(N.asksG now j).lt.length<=N.lt.length+j
 | 0=>⟨rfl,rfl,rfl,rfl,rfl,rfl,fun _ _=>rfl,Ξo _⟩
 | j+1=>by
   obtain ⟨a1,a2,a3,a4,a5,a6,a7,a8⟩:=ξ1m N now j;obtain ⟨b1,b2,b3,b4,b5,b6,b7,b8⟩:=ξex (N.asksG now j) j now;show ((N.asksG now j).askG j now).nw=N.nw/\((N.asksG now j).askG j now).id=N.id/\((N.asksG now j).askG j now).ls=N.ls/\((N.asksG now j).askG j now).pn=N.pn/\((N.asksG now j).askG j now).ak=N.ak/\((N.asksG now j).askG j now).pL=N.pL/\(∀ k,j+1<=k->((N.asksG now j).askG j now).tr k=N.tr k)/\((N.asksG now j).askG j now).lt.length<=N.lt.length+(j+1)
   exact ⟨b1.trans a1,b2.trans a2,b3.trans a3,b4.trans a4,b5.trans a5,b6.trans a6,fun k hk=>(b7 k (by omega)).trans (a7 k (by omega)),by omega⟩
theorem NdOk.asksG {n:Nat} {N:Nd} (h:NdOk n N):∀ j,j<=8->NdOk n (N.asksG N.nw j)
 | 0,_=>h
 | j+1,hj=>by
   have k:=NdOk.asksG h j (by omega)
   have e:=(ξ1m N N.nw j).1
   have:=k.askG (i:=j) (by omega)
   rw [e] at this;exact this
theorem ξ6r (now:Int) (l:List (Int×Sb)):ids (popS now l)=ids l:=by
 unfold ids popS;rw [List.map_map];rfl
theorem NdOk.pops {n:Nat} {N:Nd} (h:NdOk n N):NdOk n (N.pops N.nw):=by
 refine ⟨h.nw,h.id,h.tr,⟨?_,?_,?_,h.si.ls0,h.si.ls1⟩,?_,h.pn,h.pl,h.pw,h.ak⟩
 ·show (ids (popS N.nw N.sb)).Pairwise _
  rw [ξ6r];exact h.si.ris
 ·intro x hx;obtain ⟨y,hy,rfl⟩:=Ξi.1 hx;have:=h.si.mem y hy
  show 1<=y.1/\y.1<=N.ls/\0<=(y.2.popd N.nw).mo/\(y.2.popd N.nw).mo<=3
  rw [(ξ4X y.2 N.nw).2];exact this
 ·show (popS N.nw N.sb).length<=20
  unfold popS;rw [Ξm];exact h.si.len
 ·intro x hx;obtain ⟨y,hy,rfl⟩:=Ξi.1 hx;obtain ⟨k1,k,hk,e,k2⟩:=h.sb y hy;refine ⟨(k1.pop (ξ2f k1.oi.c1 k1.on h.nw.2)).2.2.1,k,hk,?_,k2⟩
  show (y.2.popd N.nw).tk=_
  rw [(ξ4X y.2 N.nw).1];exact e
theorem NdOk.askS {n:Nat} {N:Nd} (h:NdOk n N) {x:Int×Sb} (hx:1<=x.2.tk/\x.2.tk<=8/\0<=x.2.mo/\x.2.mo<=3):NdOk n (N.askS N.nw x.2):=by
 unfold Nd.askS;split
 ·exact h
 ·split
  ·exact h
  ·have hi:=h.id
   have hok:PU.Ok ⟨N.id,x.2.tk,x.2.mo⟩:=by unfold PU.Ok;simp only [];omega
   refine ⟨h.nw,h.id,h.tr,h.si,h.sb,?_,PU.ξ27 h.pl hok,?_,PU.ξdk h.ak⟩
   ·have h1:=h.pn
    have h2:=h.nw
    show 0<=PU.aN _ N.pn x.2.tk N.nw/\PU.aN _ N.pn x.2.tk N.nw<=N.nw
    unfold PU.aN;split<;>omega
   ·intro y hy;rcases PU.ξ2A.1 hy with h1 | rfl
    ·exact h.pw y h1.1
    ·rfl
theorem ξ8s (N:Nd) (now:Int) (s:Sb):(N.askS now s).nw=N.nw/\(N.askS now s).id=N.id/\(N.askS now s).tr=N.tr/\(N.askS now s).sb=N.sb/\(N.askS now s).ls=N.ls/\(N.askS now s).lt.length<=N.lt.length+1:=by
 unfold Nd.askS;split
 ·exact ⟨rfl,rfl,rfl,rfl,rfl,Nat.le_succ _⟩
 ·split
  ·exact ⟨rfl,rfl,rfl,rfl,rfl,Nat.le_succ _⟩
  ·refine ⟨rfl,rfl,rfl,rfl,rfl,?_⟩
   show (N.lt++_).length<=_
   rw [Ξh];split<;>simp
theorem ξ2g (now:Int):∀ (l:List (Int×Sb)) (N:Nd),(N.starts now l).nw=N.nw/\(N.starts now l).id=N.id/\(N.starts now l).tr=N.tr/\(N.starts now l).sb=N.sb/\(N.starts now l).ls=N.ls/\(N.starts now l).lt.length<=N.lt.length+l.length
 | [],N=>⟨rfl,rfl,rfl,rfl,rfl,Ξo _⟩
 | x::l,N=>by
   obtain ⟨a1,a2,a3,a4,a5,a6⟩:=ξ8s N now x.2;obtain ⟨b1,b2,b3,b4,b5,b6⟩:=ξ2g now l (N.askS now x.2);show ((N.askS now x.2).starts now l).nw=_/\((N.askS now x.2).starts now l).id=_/\((N.askS now x.2).starts now l).tr=_/\((N.askS now x.2).starts now l).sb=_/\((N.askS now x.2).starts now l).ls=_/\((N.askS now x.2).starts now l).lt.length<=_
   simp only [List.length_cons]
   exact ⟨b1.trans a1,b2.trans a2,b3.trans a3,b4.trans a4,b5.trans a5,by omega⟩
theorem NdOk.starts {n:Nat}:∀ (l:List (Int×Sb)) (N:Nd),NdOk n N->(∀ x∈l,1<=x.2.tk/\x.2.tk<=8/\0<=x.2.mo/\x.2.mo<=3)->NdOk n (N.starts N.nw l)
 | [],N,h,_=>h
 | x::l,N,h,hl=>by
   have k:=NdOk.starts l _ (h.askS (hl x (by simp))) (fun y hy=>hl y (by simp [hy]))
   rw [(ξ8s N N.nw x.2).1] at k;exact k
theorem ξ3N (N:Nd) (now:Int) (l:List (Int×Sb)) (x:Int×Sb):N.starts now (l++[x])=(N.starts now l).askS now x.2:=by
 unfold Nd.starts;rw [List.foldl_append];rfl
theorem ξdm {n:Nat} {N:Nd} (h:NdOk n N):∀ x∈N.sb,1<=x.2.tk/\x.2.tk<=8/\0<=x.2.mo/\x.2.mo<=3:=by
 intro x hx;obtain ⟨_,k,hk,e,_⟩:=h.sb x hx;have:=h.si.mem x hx
 omega
theorem NdOk.tick {n:Nat} {N:Nd} (h:NdOk n N) {now:Int} (h0:N.nw<=now) (h1:now<=1000000):NdOk n (N.tick now):=by
 have k1:=h.later h0 h1
 have k2:=k1.asksG 8 (Ξo _)
 have e2:((({ N with nw:=now }:Nd).asksG now 8)).nw=now:=(ξ1m ({ N with nw:=now }:Nd) now 8).1
 have k3:=k2.pops
 rw [show ({ N with nw:=now }:Nd).nw=now from rfl,e2] at k3;have k4:=NdOk.starts _ _ k3 (ξdm k3)
 rw [show (((({ N with nw:=now }:Nd).asksG now 8)).pops now).nw=now from e2] at k4;exact k4
def NoGive (N:Nd) (now:Int):Prop:=∀ i,i<8->∀ t,N.tr i=some t->t.pa≠-1->GM.gaveL 3 3 now t.gM=[]
end Go.Proofs.YtpiamlgmadnepaaGreat.ND
namespace Go.Proofs.YtpiamlgmadnepaaGreat.ND
open Go.ChangeShapes Go.WideShapes Go.ChangeAt Go.RowKit Go.Maps Go.Lib Mem NO
theorem ξey (q:Nat->Option Addr) (j:Nat) (hj:j<8) (w:World) :
 (Instr.index 154 (.agg #[.pointer (q 0),.pointer (q 1),.pointer (q 2),.pointer (q 3),.pointer (q 4),.pointer (q 5),.pointer (q 6),.pointer (q 7)]) (.int .i64 (j:Int))).run prog w=.ok (.pointer (q j)) w:=by
 rcases upto8 hj with rfl | rfl | rfl | rfl | rfl | rfl | rfl | rfl<;>kernel_rfl
def qp (N:Nd) (P:NP) (i:Nat):Option Addr:=match N.tr i with
 | none=>none
 | some _=>some ⟨(P.tp i).p,0,none⟩
theorem ξeL (N:Nd) (P:NP) (i:Nat):tpv (N.tr i) (P.tp i)=.pointer (qp N P i):=by
 unfold tpv qp;cases N.tr i<;>rfl
theorem ξ14 {N:Nd} {now:Int} {j:Nat} (h:N.tr j=none∨∃ t,N.tr j=some t/\t.pa=-1):N.asksG now (j+1)=N.asksG now j:=by
 have e:=(ξ1m N now j).2.2.2.2.2.2.1 j (Ξo _)
 show (N.asksG now j).askG j now=_
 unfold Nd.askG;rcases h with h | ⟨t,h,hp⟩
 ·rw [e,h]
 ·rw [e,h];simp only []
  rw [if_pos hp]
def WSt (w wx:World) (o:Nat->Tg) (n b:Nat) (P:NP) (N:Nd) (now:Int) (ra:Option Addr) (j:Nat):Prop:=∃ oj Pj,NAt wx oj n b Pj (N.starts now (N.sb.take j))/\(∀ x,(Pj.sp x).s=(P.sp x).s)/\Ext w o oj/\Chg o (mine n) w wx/\PArg wx ra (fun x=>(P.sp x).s) (ids N.sb)/\∀ ad,ra=some ad->(oj ad.block).n=0
theorem ξ8d {l:List (Int×Sb)} {j:Nat} (hj:j<l.length):(ids l).getD j 0=l[j].1:=by
 rw [Ξa,Ξd (by rw [ξ10];exact hj)]
 simp [ids]
theorem WSt.skip {w wx w':World} {o:Nat->Tg} {n b:Nat} {P:NP} {N:Nd} {now:Int} {ra:Option Addr} {j:Nat} (h:WSt w wx o n b P N now ra j) (hj:j<N.sb.length) (hw:N.sb[j].2.wants=false) (hk:∃ k,w'=wx.drewN k):WSt w w' o n b P N now ra (j+1):=by
 obtain ⟨oj,Pj,g1,g2,g3,g4,g5,g6⟩:=h;obtain ⟨k,rfl⟩:=hk;have e:N.starts now (N.sb.take (j+1))=N.starts now (N.sb.take j):=by
  rw [<- List.take_append_getElem hj,ξ3N];unfold Nd.askS;split
  ·rfl
  ·rw [if_pos (.inl hw)]
 refine ⟨oj,Pj,?_,g2,g3,g4,g5,g6⟩
 rw [e];exact g1.below (below_drewN' (Ξp _ _))
theorem WSt.ask {w wx w1:World} {o:Nat->Tg} {nn n b:Nat} {P:NP} {N:Nd} {now:Int} {ra:Option Addr} {j:Nat} (hn:n≠0) (hK:NdOk nn N) (hnw:N.nw=now) (hl:N.lt.length<=500) (h:WSt w wx o n b P N now ra j) (hj:j<N.sb.length) (hw:N.sb[j].2.wants=true) (hk:∃ k,w1=wx.drewN k) :
 Calls prog 121 #[.pointer (some ⟨b,0,none⟩),.pointer (some ⟨(P.sp ((ids N.sb).getD j 0)).s,0,none⟩),.int .i64 now] w1 fun e w'=>e=.returned (.tuple #[])/\Hid (WSt w w' o n b P N now ra (j+1)):=by
 obtain ⟨oj,Pj,g1,g2,g3,g4,g5,g6⟩:=h;obtain ⟨k,rfl⟩:=hk;obtain ⟨a1,a2,a3,a4,a5,a6⟩:=ξ2g now (N.sb.take j) N;have hKj:NdOk nn (N.starts now (N.sb.take j)):=by
  have:=NdOk.starts (N.sb.take j) N hK (fun x hx=>ξdm hK x (List.mem_of_mem_take hx))
  rwa [hnw] at this
 obtain ⟨_,i,hi,e,hs⟩:=hK.sb N.sb[j] (List.getElem_mem hj);obtain ⟨t,ht⟩:=Option.isSome_iff_exists.1 hs;have h2:=hK.nw.2
 have hlen:(N.sb.take j).length<=20:=by rw [List.length_take];have:=hK.si.len;omega
 have C:=ξ9F nn n b i oj Pj _ t N.sb[j].1 N.sb[j].2 now (wx.drewN k) hn (g1.below (below_drewN' (Ξp _ _))) hKj (by rw [a4];exact List.getElem_mem hj) hi e (by rw [a3];exact ht) hw (by have:=hKj.pn.2;omega) (by omega) (by omega)
 rw [ξ8d hj,<- g2];refine C.mono ?_
 rintro e' w' ⟨rfl,o',P',q1,q2,q3,q4,q5⟩;have hc:Chg oj (mine n) wx w':=(Chg.of_below (below_drewN' (Ξp _ _)) oj _).trans' q5
 refine ⟨rfl,ξ0 ⟨o',P',?_,fun x=>(q2 x).trans (g2 x),?_,g4.trans hc g3,?_,?_⟩⟩
 ·rw [<- List.take_append_getElem hj,ξ3N];exact q1
 ·exact g3.trans (fun k' hk'=>q4 k' hk') g4.size
 ·obtain ⟨bs,r1,r2,r3⟩:=hc;exact g5.only r1 (fun ad e hk=>by have h1:=g6 ad e;have h3:(oj ad.block).n=n:=r2 _ hk;omega)
 ·intro ad e;obtain ⟨rb,e',hc'⟩:=g5 0 (by rw [ξ10];omega)
  rw [q4 _ (by rw [e] at e';cases e';exact Ξq wx ⟨rb,0,none⟩ hc')]
  exact g6 ad e
theorem ξbW (nn n b:Nat) (o:Nat->Tg) (P:NP) (N:Nd) (now:Int) (w:World) (hn:n≠0) (hN:NAt w o n b P N) (hK:NdOk nn N) (h0:N.nw<=now) (h1:now<=1000000) (hgv:NoGive N now) (hl:N.lt.length<=100) :
 Calls prog 91 #[.pointer (some ⟨b,0,none⟩),.int .i64 now] w fun e w'=>e=.returned .nilIface/\Done w w' o n b (N.tick now):=by
 have hnow:=ξ1Y hK.nw.1 h0 h1
 have CA:=ξ0 (Gaps.ξF N.nw now w)
 rw [if_pos hnow,hnow] at CA;obtain ⟨N1,hN1⟩:∃ N1:Nd,{ N with nw:=now }=N1:=⟨_,rfl⟩;have hK1:NdOk nn N1:=by rw [<- hN1];exact hK.later h0 h1
 have hnw1:N1.nw=now:=by rw [<- hN1]
 have hg1:NoGive N1 now:=by rw [<- hN1];exact hgv
 have hl1:N1.lt.length<=100:=by rw [<- hN1];exact hl
 have htr1:N1.tr=N.tr:=by rw [<- hN1]
 -- behind the clock
 have HA:Hid (∀ W,Below w.heap.size w W->W.cell? ⟨b,0,none⟩=some (.int .i64 N.nw)/\W.frozen? ⟨b,0,none⟩=false/\(∀ i,i<8->(W.setCell ⟨b,0,none⟩ (.int .i64 now)).cell? ⟨b,2+i,none⟩=some (.pointer (qp N P i)))/\DoneP w (W.setCell ⟨b,0,none⟩ (.int .i64 now)) o n b P (N1.asksG now 0)):=by
  refine ξ0 ?_
  intro W hBW;have hNW:NAt W o n b P N:=hN.below hBW
  have hNs:=hNW.setN hn now
  have hcs:=ξx (hNW.chgB 0 (.int .i64 now))
  refine ⟨hNW.cells.1,hNW.free 0,fun i hi=>?_,o,P,?_,fun _=>rfl,fun _=>rfl,Ext.refl _ _,(Chg.of_below hBW _ _).trans' hcs⟩
  ·rw [hNs.track hi];show some (tpv (N.tr i) (P.tp i))=_
   rw [ξeL]
  ·show NAt _ o n b P N1
   rw [<- hN1];exact hNs
 -- a track's pa
 have HPa:Hid (∀ W j t,j<8->DoneP w W o n b P (N1.asksG now j)->N.tr j=some t->W.cell? ⟨(P.tp j).p,2,none⟩=some (.int .i64 t.pa)):=by
  refine ξ0 ?_
  rintro W j t hj ⟨o',P',a1,a2,a3,a4,a5⟩ ht;have e:=(ξ1m N1 now j).2.2.2.2.2.2.1 j (Ξo _)
  have bx:=(a1.trs j hj t (by rw [e,htr1];exact ht)).1.box
  rw [a3] at bx;simp [World.cell?,bx]
 have HAsk:Hid (∀ W j t,j<8->DoneP w W o n b P (N1.asksG now j)->N.tr j=some t->t.pa≠-1->Calls prog 118 #[.pointer (some ⟨b,0,none⟩),.pointer (some ⟨(P.tp j).p,0,none⟩),.int .i64 now] W fun e w'=>e=.returned (.tuple #[])/\Hid (DoneP w w' o n b P (N1.asksG now (j+1)))):=by
  refine ξ0 ?_
  intro W j t hj hD ht hpa;have hD':=hD
  obtain ⟨o',P',a1,a2,a3,a4,a5⟩:=hD;have hq:=ξ1m N1 now j
  have e:=hq.2.2.2.2.2.2.1 j (Ξo _)
  have e':(N1.asksG now j).tr j=some t:=by rw [e,htr1];exact ht
  have hKj:NdOk nn (N1.asksG now j):=by have:=hK1.asksG j (by omega);rwa [hnw1] at this
  have hT:=hKj.tr j hj t e'
  have hgn:GM.tf t.gn now=0:=ξ1Y hT.gi.n1 (by have:=hT.gn;rw [hq.1,hnw1] at this;exact this) h1
  have hgl:=hgv j hj t ht hpa
  have C:=ξ9G n b j o' P' _ t now W hn a1 hj e' hT.gi hgn hpa hT.gg hgl (fun hd=>⟨(ξ3w hT hj hd).1,(ξ3w hT hj hd).2.2⟩) (by have:=hq.2.2.2.2.2.2.2;omega)
  rw [a3] at C;refine C.mono ?_
  rintro e w' ⟨rfl,hd⟩;rw [<- ξde e' hpa hgl] at hd;obtain ⟨o2,P2,b1,b2,b3,b4,b5⟩:=hd;exact ⟨rfl,ξ0 ⟨o2,P2,b1,fun x=>(b2 x).trans (a2 x),fun i=>(b3 i).trans (a3 i),a4.trans b4 a5.size,a5.trans b5 a4⟩⟩
 have HNo:Hid (∀ W j,j<8->DoneP w W o n b P (N1.asksG now j)->(N.tr j=none∨∃ t,N.tr j=some t/\t.pa=-1)->DoneP w W o n b P (N1.asksG now (j+1))):=by
  refine ξ0 ?_
  intro W j hj hD hx;rw [ξ14 (by rw [htr1];exact hx)]
  exact hD
 -- who subscribes
 obtain ⟨N2,hN2⟩:∃ N2,N1.asksG now 8=N2:=⟨_,rfl⟩;have hK2:NdOk nn N2:=by rw [<- hN2];have:=hK1.asksG 8 (Ξo _);rwa [hnw1] at this
 have hq2:=ξ1m N1 now 8
 rw [hN2,hnw1] at hq2;obtain ⟨N3,hN3⟩:∃ N3,N2.pops now=N3:=⟨_,rfl⟩;have hK3:NdOk nn N3:=by rw [<- hN3];have:=hK2.pops;rwa [hq2.1] at this
 have hnw3:N3.nw=now:=by rw [<- hN3];exact hq2.1
 have hl3:N3.lt.length<=500:=by rw [<- hN3];show N2.lt.length<=500;omega
 have hids:ids N3.sb=ids N2.sb:=by rw [<- hN3];exact ξ6r _ _
 obtain ⟨nl,hnl⟩:∃ nl,(ids N2.sb).length=nl:=⟨_,rfl⟩;have hnl20:nl<=20:=by rw [<- hnl,ξ10];exact hK2.si.len
 have hnl3:N3.sb.length=nl:=by rw [<- ξ10,hids];exact hnl
 have HSb:Hid (∀ W,DoneP w W o n b P (N1.asksG now 8)->Calls prog 119 #[.pointer (some ⟨b,0,none⟩)] W fun e w'=>∃ a c P2,e=.returned (.slice a nl c)/\Hid (SStG w w' o n b P2 N2 (ids N2.sb) (fun s=>s.popd now) a 0)):=by
  refine ξ0 ?_
  rintro W ⟨o',P',q1,_,_,q2,q3⟩;rw [hN2] at q1;refine (ξ34 n b o' P' N2 W q1 hK2.si).mono ?_
  rintro e w' ⟨v,rfl,hv,hb⟩;rw [<- ξ10] at hv;obtain ⟨a,cap,rfl,hP,hf⟩:=ξ42 hv;rw [hnl];refine ⟨a,cap,P',rfl,ξ0 ⟨grow o' W ξ2,P',?_,fun _=>rfl,q2.trans (ξ3 _ _ _) q3.size,q3.trans' (Chg.of_below hb _ _),hP,fun ad e=>ξ1F (hf ad e).1⟩⟩
  rw [List.take_zero,ξ7S];exact q1.chg (S:=fun _=>False) (Chg.of_below hb _ _) (fun g hg=>hg.elim) (ξ3 _ _ _)
 have HPop:Hid (∀ W P2 j ra,j<nl->SStG w W o n b P2 N2 (ids N2.sb) (fun s=>s.popd now) ra j->Calls prog 120 #[.pointer (some ⟨(P2.sp ((ids N2.sb).getD j 0)).s,0,none⟩),.int .i64 now] W fun e w'=>e=.returned (.tuple #[])/\Hid (SStG w w' o n b P2 N2 (ids N2.sb) (fun s=>s.popd now) ra (j+1))):=by
  refine ξ0 ?_
  intro W P2 j ra hj hS;refine hS.step (F:=120) (mk:=fun p=>#[p,.int .i64 now]) hn hK2.si.ris (List.Sublist.refl _) (by omega) ?_
  intro x oj Q s hm hat hown;have k1:=(hK2.sb (x,s) hm).1
  simp only at k1
  have kt:OM.tf s.on now=0:=ξ2f k1.oi.c1 (by have:=k1.on;rw [hq2.1] at this;exact this) h1
  obtain ⟨p1,p2,_⟩:=k1.pop kt;exact ξ4i n x oj Q s now _ W hn hat hown k1.sbi kt (ξ2h k1.oi kt) p1 p2
 have HMid:Hid (∀ W P2 ra,SStG w W o n b P2 N2 (ids N2.sb) (fun s=>s.popd now) ra nl->WSt w W o n b P2 N3 now ra 0):=by
  refine ξ0 ?_
  rintro W P2 ra ⟨oj,Pj,g1,g2,g3,g4,g5,g6⟩;rw [<- hnl,List.take_length,ξdE] at g1;refine ⟨oj,Pj,?_,g2,g3,g4,by rw [hids];exact g5,g6⟩
  rw [List.take_zero,<- hN3];exact g1
 have HWn:Hid (∀ W P2 j ra,j<nl->WSt w W o n b P2 N3 now ra j->∃ lb,W.cell? ⟨(P2.sp ((ids N3.sb).getD j 0)).s,3,none⟩=some (.pointer (some ⟨lb,0,none⟩))/\∃ v:Bool,Calls prog 108 #[.pointer (some ⟨lb,0,none⟩)] W fun e w'=>e=.returned (.bool v)/\Hid ((v=false->WSt w w' o n b P2 N3 now ra (j+1))/\(v=true->Calls prog 121 #[.pointer (some ⟨b,0,none⟩),.pointer (some ⟨(P2.sp ((ids N3.sb).getD j 0)).s,0,none⟩),.int .i64 now] w' fun e w2=>e=.returned (.tuple #[])/\Hid (WSt w w2 o n b P2 N3 now ra (j+1))))):=by
  refine ξ0 ?_
  intro W P2 j ra hj hS;have hj3:j<N3.sb.length:=by omega
  have hS':=hS
  obtain ⟨oj,Pj,g1,g2,g3,g4,g5,g6⟩:=hS;have hm:N3.sb[j]∈(N3.starts now (N3.sb.take j)).sb:=by rw [(ξ2g now (N3.sb.take j) N3).2.2.2.1];exact List.getElem_mem hj3
  have ha:=(g1.sbs _ hm).1
  have bx:=ha.box
  rw [g2] at bx;refine ⟨(Pj.sp N3.sb[j].1).lb,by rw [ξ8d hj3];simp [World.cell?,bx],N3.sb[j].2.wants,?_⟩
  refine (Layer.ξ2q _ _ _ _ _ W ha.lay).mono ?_
  rintro e w' ⟨rfl,hk⟩;exact ⟨rfl,ξ0 ⟨fun hv=>hS'.skip hj3 hv hk,fun hv=>hS'.ask hn hK3 hnw3 hl3 hj3 hv hk⟩⟩
 have HRow:Hid (∀ W P2 j ra,j<nl->SStG w W o n b P2 N2 (ids N2.sb) (fun s=>s.popd now) ra j->∃ rb,ra=some ⟨rb,0,none⟩/\W.cell? ⟨rb,j,none⟩=some (.pointer (some ⟨(P2.sp ((ids N2.sb).getD j 0)).s,0,none⟩))):=by
  refine ξ0 ?_
  intro W P2 j ra hj hS;obtain ⟨rb,e,hc⟩:=hS.row (by omega)
  exact ⟨rb,e,hc j (by omega)⟩
 have HRow2:Hid (∀ W P2 j ra,j<nl->WSt w W o n b P2 N3 now ra j->∃ rb,ra=some ⟨rb,0,none⟩/\W.cell? ⟨rb,j,none⟩=some (.pointer (some ⟨(P2.sp ((ids N3.sb).getD j 0)).s,0,none⟩))):=by
  refine ξ0 ?_
  rintro W P2 j ra hj ⟨oj,Pj,g1,g2,g3,g4,g5,g6⟩;obtain ⟨rb,e,hc⟩:=g5.at (by rw [ξ10];omega)
  exact ⟨rb,e,hc j (by rw [ξ10];omega)⟩
 have HFin:Hid (∀ W P2 ra,WSt w W o n b P2 N3 now ra nl->Done w W o n b (N.tick now)):=by
  refine ξ0 ?_
  rintro W P2 ra ⟨oj,Pj,g1,g2,g3,g4,g5,g6⟩;rw [<- hnl3,List.take_length] at g1;refine ⟨oj,Pj,?_,g3,g4⟩
  have e:N.tick now=N3.starts now N3.sb:=by
   unfold Nd.tick;rw [hN1,hN2,hN3]
  rw [e];exact g1
 obtain ⟨R,hRes⟩:∃ R,N.tick now=R:=⟨_,rfl⟩;rw [hRes] at HFin ⊢;have c0:=hN.cells.1
 obtain ⟨nw,hnw⟩:∃ nw,N.nw=nw:=⟨_,rfl⟩;rw [hnw] at c0 CA HA;obtain ⟨D1,hD1⟩:∃ D1:World->Nat->Prop,(fun W j=>DoneP w W o n b P (N1.asksG now j))=D1:=⟨_,rfl⟩
 have hD1e:∀ W j,DoneP w W o n b P (N1.asksG now j)=D1 W j:=fun W j=>by rw [<- hD1]
 simp only [hD1e] at HA HPa HAsk HNo HSb
 obtain ⟨D2,hD2⟩:∃ D2:World->NP->Option Addr->Nat->Prop,(fun W P2 ra j=>SStG w W o n b P2 N2 (ids N2.sb) (fun s=>s.popd now) ra j)=D2:=⟨_,rfl⟩
 have hD2e:∀ W P2 ra j,SStG w W o n b P2 N2 (ids N2.sb) (fun s=>s.popd now) ra j=D2 W P2 ra j:=fun W P2 ra j=>by rw [<- hD2]
 simp only [hD2e] at HSb HPop HMid HRow
 obtain ⟨D3,hD3⟩:∃ D3:World->NP->Option Addr->Nat->Prop,(fun W P2 ra j=>WSt w W o n b P2 N3 now ra j)=D3:=⟨_,rfl⟩
 have hD3e:∀ W P2 ra j,WSt w W o n b P2 N3 now ra j=D3 W P2 ra j:=fun W P2 ra j=>by rw [<- hD3]
 simp only [hD3e] at HMid HWn HRow2 HFin
 clear hN hK h0 h1 hgv hl hnow hN1 hK1 hnw1 hg1 hl1 htr1 hN2 hK2 hq2 hN3 hK3 hnw3 hl3 hids hnl hnl3 hRes hnw hD1 hD1e hD2 hD2e hD3 hD3e;go_enter func91,ntmps91
 go_wp2_with fail
 refine CA.out.mono ?_
 rintro e w1 ⟨rfl,hb1⟩;rw [show Gaps.errv 0=Value.nilIface from rfl];obtain ⟨W1,hW1⟩:∃ W1,w1.alloc (.cells #[.int .i64 now] 89)=W1:=⟨_,rfl⟩;have hB1:Below w.heap.size w W1:=by rw [<- hW1];exact hb1.alloc hb1.size _
 have hbk:W1.heap[w1.heap.size]?=some (.cells #[.int .i64 now] 89 (0,0)):=by rw [<- hW1];exact heap_alloc_new w1 _
 have ck:W1.cell? ⟨w1.heap.size,0,none⟩=some (.int .i64 now):=by simp [World.cell?,hbk]
 obtain ⟨g0,g1,tall,hD0⟩:=HA.out W1 hB1;obtain ⟨w2,hw2⟩:∃ w2,W1.setCell ⟨b,0,none⟩ (.int .i64 now)=w2:=⟨_,rfl⟩;rw [hw2] at tall hD0;obtain ⟨q,hq⟩:∃ q:Nat->Option Addr,qp N P=q:=⟨_,rfl⟩;rw [hq] at tall;have t0:w2.cell? ⟨b,2,none⟩=some (.pointer (q 0)):=tall 0 (by omega)
 have t1:w2.cell? ⟨b,3,none⟩=some (.pointer (q 1)):=tall 1 (by omega)
 have t2:w2.cell? ⟨b,4,none⟩=some (.pointer (q 2)):=tall 2 (by omega)
 have t3:w2.cell? ⟨b,5,none⟩=some (.pointer (q 3)):=tall 3 (by omega)
 have t4:w2.cell? ⟨b,6,none⟩=some (.pointer (q 4)):=tall 4 (by omega)
 have t5:w2.cell? ⟨b,7,none⟩=some (.pointer (q 5)):=tall 5 (by omega)
 have t6:w2.cell? ⟨b,8,none⟩=some (.pointer (q 6)):=tall 6 (by omega)
 have t7:w2.cell? ⟨b,9,none⟩=some (.pointer (q 7)):=tall 7 (by omega)
 have HD0:=ξ0 hD0
 have HQ:=ξ0 hq
 obtain ⟨cb,hcb⟩:∃ cb,w1.heap.size=cb:=⟨_,rfl⟩;rw [hcb] at ck;have HW1:=ξ0 hW1
 have HW2:=ξ0 hw2
 clear hb1 hW1 hB1 hbk CA HA c0 hw2 tall hD0 hq;go_upto_region 4 with fail
 first | rw [HW1.out] | skip
 clear hcb;go_upto_region 5 with fail
 rw [HW2.out];clear g0 g1 ck;go_wp2_with fail
 go_loopg [34] 8 (fun g x wr=>∃ j:Nat,j+g=8/\x=.int .i64 (j:Int)/\Hid (D1 wr j))
 case atStart=>exact ⟨0,by omega,rfl,HD0⟩
 case round=>
  obtain ⟨j,hjg,rfl,HD⟩:=hrel;clear t0 t1 t2 t3 t4 t5 t6 t7;by_cases hj:j<8
  ·have hjz:(j:Int)<8:=by omega
   have ia:=fun W=>ξey q j hj W
   cases ht:N.tr j with
   | none=>
     have hqj:q j=none:=by rw [<- HQ.out];unfold qp;rw [ht]
     rw [hqj] at ia;have HDn:=ξ0 (HNo.out wr j hj HD.out (.inl ht))
     clear HD ht hqj;go_wp2_with fail
     go_roundg (8 - (j+1))
     case measure=>omega
     case rel=>exact ⟨j+1,by omega,by go_num,HDn⟩
   | some t=>
     have hqj:q j=some ⟨(P.tp j).p,0,none⟩:=by rw [<- HQ.out];unfold qp;rw [ht]
     rw [hqj] at ia;have cp:=HPa.out wr j t hj HD.out ht
     by_cases hpa:t.pa=-1
     ·rw [hpa] at cp;have HDn:=ξ0 (HNo.out wr j hj HD.out (.inr ⟨t,ht,hpa⟩))
      obtain ⟨pp,hpp⟩:∃ pp,(P.tp j).p=pp:=⟨_,rfl⟩;rw [hpp] at ia cp;clear HD ht hqj hpa hpp;go_wp2_with fail
      go_roundg (8 - (j+1))
      case measure=>omega
      case rel=>exact ⟨j+1,by omega,by go_num,HDn⟩
     ·have CK:=ξ0 (HAsk.out wr j t hj HD.out ht hpa)
      obtain ⟨pp,hpp⟩:∃ pp,(P.tp j).p=pp:=⟨_,rfl⟩;obtain ⟨pa,hpa'⟩:∃ pa,t.pa=pa:=⟨_,rfl⟩;rw [hpp] at ia cp CK;rw [hpa'] at cp hpa;have e1:(pa != -1)=true:=by simpa using hpa
      clear HD ht hqj hpa hpp hpa';go_wp2_with fail
      refine CK.out.mono ?_
      rintro e w3 ⟨rfl,HD3⟩;go_wp2_with fail
      go_roundg (8 - (j+1))
      case measure=>omega
      case rel=>exact ⟨j+1,by omega,by go_num,HD3⟩
  ·obtain rfl:j=8:=by omega
   have CB:=ξ0 (HSb.out wr HD.out)
   clear HSb HD HPa HAsk HNo;go_wp2_with fail
   refine CB.out.mono ?_
   rintro e w4 ⟨a4,c4,P2,rfl,HD4⟩;clear CB;go_wp2_with fail
   go_loopg [55] nl (fun g x wx=>∃ j:Nat,j+g=nl/\x=.int .i64 (j:Int)/\Hid (D2 wx P2 a4 j))
   case atStart=>exact ⟨0,by omega,rfl,HD4⟩
   case round=>
    obtain ⟨j,hjg,rfl,HD⟩:=hrel;by_cases hj:j<nl
    ·have hjz:(j:Int)<(nl:Int):=by omega
     obtain ⟨rb,rfl,c0⟩:=HRow.out wr P2 j a4 hj HD.out;have CP:=ξ0 (HPop.out wr P2 j _ hj HD.out)
     obtain ⟨sp,hsp⟩:∃ sp,(P2.sp ((ids N2.sb).getD j 0)).s=sp:=⟨_,rfl⟩;rw [hsp] at c0 CP;clear hsp HD;go_wp2_with fail
     refine CP.out.mono ?_
     rintro e w5 ⟨rfl,HD5⟩;go_wp2_with fail
     go_roundg (nl - (j+1))
     case measure=>omega
     case rel=>exact ⟨j+1,by omega,by go_num,HD5⟩
    ·have hjz:¬ (j:Int)<(nl:Int):=by omega
     obtain rfl:nl=j:=by omega
     have HD6:=ξ0 (HMid.out wr P2 a4 HD.out)
     clear HD HRow HPop HMid;go_wp2_with fail
     go_loopg [65] nl (fun g x wx=>∃ j:Nat,j+g=nl/\x=.int .i64 (j:Int)/\Hid (D3 wx P2 a4 j))
     case atStart=>exact ⟨0,by omega,rfl,HD6⟩
     case round=>
      obtain ⟨j,hjg2,rfl,HD⟩:=hrel;by_cases hj3:j<nl
      ·have hjz3:(j:Int)<(nl:Int):=by omega
       obtain ⟨rb,rfl,c0⟩:=HRow2.out wr P2 j a4 hj3 HD.out;obtain ⟨lb,cl,v,CW0⟩:=HWn.out wr P2 j _ hj3 HD.out;have CW:=ξ0 CW0
       obtain ⟨sp,hsp⟩:∃ sp,(P2.sp ((ids N3.sb).getD j 0)).s=sp:=⟨_,rfl⟩;rw [hsp] at c0 cl CW;clear hsp HD CW0;go_wp2_with fail
       refine CW.out.mono ?_
       rintro e w5 ⟨rfl,HD5⟩;cases v with
       | false=>
         have HS:=ξ0 (HD5.out.1 rfl)
         clear HD5 CW;go_wp2_with fail
         go_roundg (nl - (j+1))
         case measure=>omega
         case rel=>exact ⟨j+1,by omega,by go_num,HS⟩
       | true=>
         have CS:=ξ0 (HD5.out.2 rfl)
         clear HD5 CW;go_wp2_with fail
         refine CS.out.mono ?_
         rintro e w6 ⟨rfl,HS⟩;go_wp2_with fail
         go_roundg (nl - (j+1))
         case measure=>omega
         case rel=>exact ⟨j+1,by omega,by go_num,HS⟩
      ·have hjz3:¬ (j:Int)<(nl:Int):=by omega
       obtain rfl:nl=j:=by omega
       have HDn:=ξ0 (HFin.out wr P2 a4 HD.out)
       clear HD HRow2 HWn HFin;go_wp2_with fail
       go_ret
       exact ⟨rfl,HDn.out⟩
end Go.Proofs.YtpiamlgmadnepaaGreat.ND
namespace Go.Proofs.YtpiamlgmadnepaaGreat.ND
open Go.ChangeShapes Go.WideShapes Go.ChangeAt Go.RowKit Go.Maps Mem NO
theorem ξaW {w:World} {sm m:Nat} {D:DataW Value} {X:List Int} {g:Int->Nat} (hown:w.ownsMap prog 3 ptR sm m D) (hS:SM D X g) {x:Int} (hx:x∈X) (hw:(Lit.int .i64 x).wf=true) :
 (Instr.lookup 152 (.map (some sm)) (.int .i64 x) true).run prog w=.ok (.tuple #[.pointer (some ⟨g x,0,none⟩),.bool true]) w:=by
 obtain ⟨v',ps,hrun,hr⟩:=hown.look_ok law3 underlying152 (zeroSQ w) (ξ6p none) (keyOf3 hw);have he:D.atKey (GM.key x) (.held (.pointer none))=.held (.pointer (some ⟨g x,0,none⟩)):=hS.elems x hx _
 have hh:Maps.has D (GM.key x)=true:=(hS.keys (GM.key x)).2 ⟨lk x,Ξi.2 ⟨x,hx,rfl⟩,rfl⟩
 rw [he] at hr;have e:=ξ7W hr
 simp only [Prod.mk.injEq,DataW.held.injEq] at e
 have hrun':(Instr.lookup 152 (.map (some sm)) (.int .i64 x) true).run prog w=.ok (.tuple #[v',.bool (Maps.has D (GM.key x))]) w:=hrun
 rw [hrun',hh,<- e.1]
def away (o:Nat->Tg) (gb:Option Nat):Nat->Tg:=fun k=>if gb=some k then ξ2 else o k
theorem ξfg {o:Nat->Tg} {gb:Option Nat} {k:Nat} (h:(o k).n=0):(away o gb k).n=0:=by
 unfold away;split
 ·rfl
 ·exact h
theorem ξm.unown {w:World} {o:Nat->Tg} {v:Value} {L:List Nat} (h:ξm w o v L) (gb:Option Nat):ξm w (away o gb) v L:=by
 obtain ⟨a,m,c,e,hA,hF⟩:=h;exact ⟨a,m,c,e,hA,fun h0 ad e'=>ξfg (hF h0 ad e')⟩
theorem NAt.unown {w:World} {o:Nat->Tg} {n b:Nat} {P:NP} {N:Nd} (h:NAt w o n b P N) (hn:n≠0) {gb:Option Nat} {x:Int} (hgb:∀ k,gb=some k->o k=⟨n,4,x⟩) (hx:∀ s,(x,s)∈N.sb->∀ k,gb=some k->k∉ξ6 (P.sp x)):NAt w (away o gb) n b P N:=by
 have keep:∀ k,o k≠⟨n,4,x⟩->away o gb k=o k:=by
  intro k hk;unfold away;split
  ·rename_i e;exact absurd (hgb k e) hk
  ·rfl
 have own:∀ c j bs,(⟨n,c,j⟩:Tg)≠⟨n,4,x⟩->Own o ⟨n,c,j⟩ bs->Own (away o gb) ⟨n,c,j⟩ bs:=fun c j bs hne ho k hk=>by rw [keep k (by rw [ho k hk];exact hne)];exact ho k hk
 refine ⟨h.box,by rw [keep b (by rw [h.tag];simp)];exact h.tag,?_,h.sbm,by rw [keep P.sm (by rw [h.smt];simp)];exact h.smt,?_,h.pul,own _ _ _ (by simp) h.put,?_,own _ _ _ (by simp) h.ltt⟩
 ·intro i hi t ht;obtain ⟨q1,q2⟩:=h.trs i hi t ht;exact ⟨q1,own _ _ _ (by simp) q2⟩
 ·intro y hy;obtain ⟨q1,q2⟩:=h.sbs y hy;refine ⟨⟨q1.box,q1.ord,q1.lay,q1.out,?_⟩,?_⟩
  ·obtain ⟨X,r1,r2,r3⟩:=q1.got;exact ⟨X,r1,r2,fun z hz=>(r3 z hz).unown gb⟩
  ·by_cases e:y.1=x
   ·intro k hk;rw [e] at hk q2 ⊢;have hk':gb≠some k:=fun hg=>hx y.2 (by rw [<- e];exact hy) k hg hk
    unfold away;rw [if_neg hk'];exact q2 k hk
   ·exact own _ _ _ (by simp [e]) q2
 ·obtain ⟨X,r1,r2,r3⟩:=h.ltr;exact ⟨X,r1,r2,fun z hz=>⟨(r3 z hz).1.unown gb,(r3 z hz).2⟩⟩
theorem ξew {o:Nat->Tg} {gb:Option Nat} {n:Nat} {x:Int} (h:∀ k,gb=some k->o k=⟨n,4,x⟩) (k:Nat):away o gb k=o k∨((o k).n=n/\away o gb k=ξ2):=by
 unfold away;by_cases c:gb=some k
 ·rw [if_pos c];exact .inr ⟨by rw [h k c],rfl⟩
 ·rw [if_neg c];exact .inl rfl
def Gave (w w':World) (o:Nat->Tg) (n b:Nat) (N:Nd) (lv:Value) (G:List Pk):Prop:=∃ o' P,NAt w' o' n b P N/\ξM w' o' lv G/\Own o' ξ2 lv.ownBlock.toList/\(∀ k,o' k=o k∨((o k).n=n/\o' k=ξ2))/\Chg o (mine n) w w'
theorem ξbb (n b:Nat) (o:Nat->Tg) (P:NP) (N:Nd) (x:Int) (s:Sb) (A B:List (Int×Sb)) (w:World) (hn:n≠0) (hN:NAt w o n b P N) (hs:N.sb=A++(x,s)::B) (hI:SInv N.sb N.ls) :
 Calls prog 49 #[.pointer (some ⟨b,0,none⟩),.int .i64 x] w fun e w'=>∃ a c,e=.returned (.tuple #[.slice a s.got.length c,.nilIface])/\Gave w w' o n b { N with sb:=A++(x,{ s with got:=[] })::B } (.slice a s.got.length c) s.got:=by
 have hmem:(x,s)∈N.sb:=by rw [hs];simp
 obtain ⟨k1,k2⟩:=hN.sbs (x,s) hmem;have hwf:=ξL (y:=x) (by have:=hI.mem (x,s) hmem;simp only at this;omega) (by have:=hI.mem (x,s) hmem;have:=hI.ls1;simp only at *;omega)
 obtain ⟨D,hown,hS⟩:=hN.sbm;have hl:=ξaW hown hS (x:=x) (Ξi.2 ⟨(x,s),hmem,rfl⟩) hwf
 have c10:=hN.cells.2.2.1
 have c5:w.cell? ⟨(P.sp x).s,5,none⟩=some (P.sp x).gv:=by simp [World.cell?,k1.box]
 have f5:w.frozen? ⟨(P.sp x).s,5,none⟩=false:=by simp [World.frozen?,k1.box]
 obtain ⟨Y,y1,y2,y3⟩:=k1.got;have hlen:s.got.length=Y.length:=by rw [<- y1,Ξm]
 obtain ⟨ga,gc,hgv⟩:∃ a c,(P.sp x).gv=.slice a s.got.length c:=by
  rcases y2.2 with ⟨e,h0⟩ | ⟨g,cap,cur,e,_⟩
  ·exact ⟨none,0,by rw [e,hlen,h0]⟩
  ·exact ⟨_,cap,by rw [e,hlen]⟩
 have HG:Hid (Gave w (w.setCell ⟨(P.sp x).s,5,none⟩ (.slice none 0 0)) o n b { N with sb:=A++(x,{ s with got:=[] })::B } (.slice ga s.got.length gc) s.got):=by
  refine ξ0 ?_
  have q:=k1.sep
  have ho:Only [(P.sp x).s] w (w.setCell ⟨(P.sp x).s,5,none⟩ (.slice none 0 0)):=(Only.refl _ _).setCell (by simp) _
  have hin:∀ k∈[(P.sp x).s],k∈ξ6 (P.sp x):=by intro k hk;simp at hk;rw [hk];simp [ξ6]
  have hc:Chg o (fun g=>g=⟨n,4,x⟩) w (w.setCell ⟨(P.sp x).s,5,none⟩ (.slice none 0 0)):=ξ1U ho k1 k2 hin
  have nb:=(k1.nob.sub hin).old
  obtain ⟨M',eM,hM⟩:=k1.ord;have ha:SbAt (w.setCell ⟨(P.sp x).s,5,none⟩ (.slice none 0 0)) o { P.sp x with gv:=.slice none 0 0 } { s with got:=[] }:=by
   refine ⟨heap_setCell_same w _ 5 _ _ _ k1.box,⟨M',eM,hM.only ho (by simp;exact fun e=>q.so e.symm) (by simp;exact fun e=>q.sm e.symm) nb⟩,k1.lay.only ho (by simp;exact fun e=>q.sl e.symm),k1.out.only ho (by simp;exact fun e=>q.su e.symm),ξM.nil _ _⟩
  have h1:=hN.sub hn hs hI.ris hc (Ext.refl _ _) (Q:={ P.sp x with gv:=.slice none 0 0 }) rfl ha (fun k hk=>k2 k (by
   simp only [ξ6,Ξf,Value.ownBlock,Option.mem_toList] at hk ⊢
   rcases hk with e | e | e | e | e | e
   ·exact .inl e
   ·exact .inr (.inl e)
   ·exact .inr (.inr (.inl e))
   ·exact .inr (.inr (.inr (.inl e)))
   ·exact .inr (.inr (.inr (.inr (.inl e))))
   ·simp at e))
  have hgb:∀ k,(P.sp x).gv.ownBlock=some k->o k=⟨n,4,x⟩:=fun k hk=>k2 k (by simp only [ξ6,Ξf];simp [hk])
  refine ⟨away o (P.sp x).gv.ownBlock,_,h1.unown hn hgb ?_,?_,?_,fun k=>ξew hgb k,ξx hc⟩
  ·intro s' _ k hk hm;have:=q.gv k hk
   simp only [updS,if_pos,ξ6,Ξf,Value.ownBlock,Option.mem_toList] at hm
   rcases hm with e | e | e | e | e | e
   ·exact this.1 e
   ·exact this.2.1 e
   ·exact this.2.2.1 e
   ·exact this.2.2.2.1 e
   ·exact this.2.2.2.2 e
   ·simp at e
  ·rw [<- hgv];exact ⟨Y,y1,ho.owns y2 (fun k hk=>by simp;exact (q.gv k hk).1),fun z hz=>((y3 z hz).own ho (ξ1b k2 hn hin) (Ext.refl _ _)).unown _⟩
  ·rw [<- hgv];intro k hk;unfold away;rw [if_pos (by simpa using hk)]
 rw [hgv] at c5;obtain ⟨sp,hsp⟩:∃ sp,(P.sp x).s=sp:=⟨_,rfl⟩;rw [hsp] at hl c5 f5 HG;obtain ⟨gl,hgl⟩:∃ gl,s.got.length=gl:=⟨_,rfl⟩;rw [hgl] at c5 HG;rw [hgl];clear hN hs hI hmem k1 k2 hwf hown hS y1 y2 y3 hlen hgv hsp hgl;go_enter func49,ntmps49
 go_wp2_with fail
 go_ret2
 exact ⟨ga,gc,rfl,HG.out⟩
def SentG (w w':World) (o:Nat->Tg) (n b:Nat) (N:Nd) (e:Ending):Prop:=
 ∃ lv o' P,e=.returned lv/\NAt w' o' n b P { N with lt:=[] }/\ξI w' o' lv N.lt/\Own o' ξ2 lv.ownBlock.toList/\(∀ k,o' k=o k∨((o k).n=n/\o' k=ξ2))/\Chg o (mine n) w w'
theorem ξ90 (n b:Nat) (o:Nat->Tg) (P:NP) (N:Nd) (w:World) (hn:n≠0) (h:NAt w o n b P N) :
 Calls prog 94 #[.pointer (some ⟨b,0,none⟩)] w fun e w'=>SentG w w' o n b N e:=by
 have c13:=h.cells.2.2.2.2.2
 have f13:=h.free 13
 have HP:Hid (SentG w (w.setCell ⟨b,13,none⟩ (.slice none 0 0)) o n b N (.returned P.lv)):=by
  have hg:=h.chgB 13 (.slice none 0 0)
  have h0:∀ g:Tg,g=⟨n,0,0⟩->g.n≠0:=by rintro g rfl;exact hn
  have h1:=h.setL hn (ξI.nil w o) (by intro k hk;simp [Value.ownBlock] at hk)
  have hl:=h.ltr.chg hg h.ltt (by simp) h0 (Ext.refl _ _)
  have hoff:∀ k,k∈P.lv.ownBlock.toList->o k=⟨n,1,0⟩:=h.ltt
  let o':Nat->Tg:=fun k=>if k∈P.lv.ownBlock.toList then ξ2 else o k
  have hkeep:∀ k,o k≠⟨n,1,0⟩->o' k=o k:=fun k hk=>if_neg (fun hm=>hk (hoff k hm))
  have hOwn:∀ g bs,g≠⟨n,1,0⟩->Own o g bs->Own o' g bs:=fun g bs hgn ho k hk=>(hkeep k (by rw [ho k hk];exact hgn)).trans (ho k hk)
  have hBody:∀ W v L,ξm W o v L->ξm W o' v L:=by
   rintro W v L ⟨a,m,c,rfl,hA,hF⟩;refine ⟨a,m,c,rfl,hA,fun hm ad e=>?_⟩
   have:=hF hm ad e
   rw [hkeep _ (by intro hx;rw [hx] at this;exact hn this)]
   exact this
  refine ⟨P.lv,o',_,rfl,⟨h1.box,?_,?_,h1.sbm,?_,?_,h1.pul,hOwn _ _ (by simp) h1.put,ξI.nil _ _,by intro k hk;simp [Value.ownBlock] at hk⟩,?_,?_,?_,ξx hg⟩
  ·rw [hkeep b (by rw [h.tag];simp)];exact h1.tag
  ·intro i hi t ht;obtain ⟨q1,q2⟩:=h1.trs i hi t ht;exact ⟨q1,hOwn _ _ (by simp) q2⟩
  ·rw [hkeep P.sm (by rw [h.smt];simp)];exact h1.smt
  ·intro x hx;obtain ⟨q1,q2⟩:=h1.sbs x hx;refine ⟨⟨q1.box,q1.ord,q1.lay,q1.out,?_⟩,hOwn _ _ (by simp) q2⟩
   obtain ⟨X,r1,r2,r3⟩:=q1.got;exact ⟨X,r1,r2,fun y hy=>hBody _ _ _ (r3 y hy)⟩
  ·obtain ⟨X,r1,r2,r3⟩:=hl;exact ⟨X,r1,r2,fun y hy=>⟨hBody _ _ _ (r3 y hy).1,(r3 y hy).2⟩⟩
  ·intro k hk;exact if_pos hk
  ·intro k;by_cases hm:k∈P.lv.ownBlock.toList
   ·exact .inr ⟨by rw [hoff k hm],if_pos hm⟩
   ·exact .inl (if_neg hm)
 obtain ⟨X,_,hr,_⟩:=h.ltr;obtain ⟨la,ln,lc,hlv⟩:∃ a m c,P.lv=.slice a m c:=by
  rcases hr.2 with ⟨e,_⟩ | ⟨g,cap,cur,e,_⟩
  ·exact ⟨_,_,_,e⟩
  ·exact ⟨_,_,_,e⟩
 rw [hlv] at c13 HP;clear h hr hlv;go_enter func94,ntmps94
 go_wp2_with fail
 go_ret
 exact HP.out
end Go.Proofs.YtpiamlgmadnepaaGreat.ND
