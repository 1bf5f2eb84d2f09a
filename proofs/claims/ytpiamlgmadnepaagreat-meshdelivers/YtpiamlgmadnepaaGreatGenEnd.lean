/-
 What the proof needs.
-/
import Derived.Test.YtpiamlgmadnepaaGreatGenMid
open Go.Proofs.Tryz
set_option linter.unusedVariables false
set_option maxHeartbeats 4000000
set_option maxRecDepth 100000
namespace Go.Proofs.YtpiamlgmadnepaaGreat.ND
open ChangeShapes WideShapes ChangeAt RowKit Maps Go.Lib Mem NO
variable {N:Nd}{tk now u fr nw x:Int}{t:Tr}{w w' wx:World}{o:Nat->Tg}{n b i j:Nat}{P:NP}{L:List Int}{bv:Value}{ak:Nat->Int}{ra:Option Addr}{gb:Option Nat}
def Fits(N:Nd)(fr:Int):Msg->Prop
 | .fr tk _ _ _ _=>∃t,N.at tk=some t
 | .lost tk _=>∃t,N.at tk=some t/\fr∈t.kids
 | .key tk _=>∃t,N.at tk=some t/\fr∈t.kids
theorem ξ3G(h1:1<=tk)(h2:tk<=8)(h:N.at tk=some t):∃k:Nat,k<8/\tk=(k:Int)+1/\(tk-1).toNat=k/\N.tr k=some t:=by
 refine⟨(tk-1).toNat,by omega,by omega,rfl,h⟩
theorem ξab(hN:NAt w o n b P N)(hb:Below w.heap.size w w'):Done w w' o n b N:=⟨o,P,hN.below hb,Ext.refl _ _,Chg.of_below hb _ _⟩
theorem ξaN(h:A0v n N)(h0:N.nw<=now)(h1:now<=1000000):∀x∈N.sb,A1k N.nw x.2/\OM.tf x.2.on now=0:=λx hx=>by
 have:=(h.sb x hx).1;exact⟨this,ξ2m this.oi.c1 (Int.le_trans this.on h0) h1⟩
theorem ξdA:(Back.A0c 1 tk L u).head?≠some 70:=by simp[Back.A0c]
theorem ξdz:(Back.A0c 2 tk L u).head?≠some 70:=by simp[Back.A0c]
theorem ξ2c{og ep h:Int}{p:Pk}(ht:N.at tk=some t):N.hear fr now bv (.fr tk og ep h p)=if hrF t fr ep=0 then { N.A0t (tk-1).toNat t (p.lies bv) og (h+1) now with nw:=now }else N:=by simp only[Nd.hear,ht]
theorem ξ2r(ht:N.at tk=some t)(hk:fr∈t.kids):N.hear fr now bv (.lost tk L)={ N with lt:=N.lt++L.flatMap (A0w t fr),nw:=now }:=by simp only[Nd.hear,ht,if_pos hk]
theorem ξ38{v:Int}(ht:N.at tk=some t)(hk:fr∈t.kids):N.hear fr now bv (.key tk v)={ N with lt:=N.lt++(if t.pa=-1 then[]else[(t.pa,Back.A0c 2 tk [] v)]),nw:=now }:=by simp only[Nd.hear,ht,if_pos hk]
theorem ξdy(nn n b:Nat)(o:Nat->Tg)(P:NP)(N:Nd)(fr now:Int)(m:Msg)(a:Option Addr)(k cap:Nat)(w:World)(hn:n≠0)(hN:NAt w o n b P N)(hK:A0v nn N)(hl:N.lt.length<=500)(h0:N.nw<=now)(h1:now<=1000000)(hm:m.ok)(hf:Fits N fr m)(hA:Arg w a k m.by)(hc:k<=cap) :
 Calls prog 89 #[.pointer (some ⟨b,0,none⟩),.int .i64 fr,.slice a k cap,.int .i64 now] w λe w'=>∃f bv,e=.returned (A0a f)/\Done w w' o n b (N.hear fr now bv m):=by
 have ai:=ξ23 hK.nw.1 h0 h1;cases m with
 | fr tk og ep h p=>
   obtain⟨m1,m2,m3,m4,m5⟩:=hm;obtain⟨t,ht⟩:=hf;obtain⟨i,hi,rfl,ei,ah⟩:=ξ3G m1 m2 ht;have hT:=hK.tr i hi t ah;have aq:=hT.kl;refine(ξ7Q n b i o P N t fr now og ep h p.s p.t p.l p.q p.st a k cap p.L w hn hN hi ah ai hT.gi hT.ri hA hc m3 m4 m5 N.nw (ξaN hK h0 h1) hK.si (by omega)).mono ?_;rintro e w' ⟨rfl,hg⟩;by_cases hr:hrF t fr ep=0
   ·obtain⟨bv,hd⟩:=hg.1 hr;refine⟨_,bv,rfl,?_⟩;rw[ξ2c ht,if_pos hr,ei];exact hd
   ·refine⟨_,.pointer none,rfl,?_⟩;rw[ξ2c ht,if_neg hr];exact ξab hN (hg.2 hr)
 | lost tk L=>
   obtain⟨m1,m2⟩:=hm;obtain⟨t,ht,ae⟩:=hf;obtain⟨_,q1,q2,_⟩:=Back.ξ1k (Back.ξY m1).1;obtain⟨i,hi,rfl,ei,ah⟩:=ξ3G q1 q2 ht;have hT:=hK.tr i hi t ah;obtain⟨R,hR⟩:∃R:Nd,{ N with lt:=N.lt++L.flatMap (A0w t fr) }=R:=⟨_,rfl⟩;refine(ξ7e n b o P N fr now a k cap _ w (λf N'=>f=0/\N'=R) hn hN ai hA (λW _ hx=>absurd hx ξdA) ?_).mono ?_
   ·intro W aj _;have am:NAt W (grow o w ξ2) n b P N:=hN.chg (S:=λ_=>False) (Chg.of_below aj _ _) (λg hg=>hg.elim) (ξ3 o w ξ2);have C:=ξ5g n b i (grow o w ξ2) P N t fr L a k cap W hn am hi ah hT.ri (hA.below aj) hc m1 ae hT.rf (by omega);refine C.mono ?_;rintro e w' ⟨rfl,hd⟩;rw[hR]at hd;exact⟨0,rfl,λ_=>⟨R,⟨rfl,rfl⟩,hd⟩,λhx=>absurd rfl hx⟩
   ·rintro e w' ⟨f,rfl,g1,g2⟩;by_cases hx:f=0
    ·obtain⟨N',⟨_,rfl⟩,hd⟩:=g1 hx;refine⟨f,.pointer none,rfl,?_⟩;rw[ξ2r ht ae];rw[<-hR]at hd;exact hd
    ·exact absurd (g2 hx).1.1 hx
 | key tk v=>
   obtain⟨t,ht,ae⟩:=hf;obtain⟨_,q1,q2,_⟩:=Back.ξ1k (Back.ξY hm).1;obtain⟨i,hi,rfl,ei,ah⟩:=ξ3G q1 q2 ht;have hT:=hK.tr i hi t ah;obtain⟨R,hR⟩:∃R:Nd,{ N with lt:=N.lt++(if t.pa=-1 then[]else[(t.pa,Back.A0c 2 ((i:Int)+1) [] v)]) }=R:=⟨_,rfl⟩;refine(ξ7e n b o P N fr now a k cap _ w (λf N'=>f=0/\N'=R) hn hN ai hA (λW _ hx=>absurd hx ξdz) ?_).mono ?_
   ·intro W aj _;have am:NAt W (grow o w ξ2) n b P N:=hN.chg (S:=λ_=>False) (Chg.of_below aj _ _) (λg hg=>hg.elim) (ξ3 o w ξ2);have C:=ξ6f n b i (grow o w ξ2) P N t fr v a k cap W hn am hi ah (hA.below aj) hc hm ae (by omega);refine C.mono ?_;rintro e w' ⟨rfl,hd⟩;rw[hR]at hd;exact⟨0,rfl,λ_=>⟨R,⟨rfl,rfl⟩,hd⟩,λhx=>absurd rfl hx⟩
   ·rintro e w' ⟨f,rfl,g1,g2⟩;by_cases hx:f=0
    ·obtain⟨N',⟨_,rfl⟩,hd⟩:=g1 hx;refine⟨f,.pointer none,rfl,?_⟩;rw[ξ38 ht ae];rw[<-hR]at hd;exact hd
    ·exact absurd (g2 hx).1.1 hx
def A2p(w w':World)(o:Nat->Tg)(n b:Nat)(P:NP)(N:Nd):Prop:=∃o' P',NAt w' o' n b P' N/\(∀x,(P'.sp x).s=(P.sp x).s)/\(∀i,(P'.tp i).p=(P.tp i).p)/\Ext w o o'/\Chg o (mine n) w w'
theorem nobP{mb:Nat->Nat}{th:Int}{td:Nat->Int}{L:PU.Wts}(h:Pull.ξ8 w b mb th nw td ak L):Nob w (Pull.A2m b mb):=by
 intro k hk;rcases Ξf.1 hk with rfl|hk
 ·obtain⟨cs,h1,_⟩:=h.box;exact ξi h1 (by decide)
 ·obtain⟨i,hi,rfl⟩:=Ξi.1 hk;obtain⟨D,h1,_⟩:=h.map i (by simpa using hi);obtain⟨es,ae,hh,_⟩:=h1;exact ξ14 ⟨es,ae,hh⟩
theorem A12.pul{cs:Array Value}(h:A12 cs P N)(pn:Int)(ak:Nat->Int)(L:PU.Wts):A12 cs P { N with pn:=pn,ak:=ak,pL:=L }:=⟨h.sz,h.c0,h.c1,h.ct,h.c10,h.c11,h.c12,h.c13⟩
theorem NAt.pull{pn:Int}{L:PU.Wts}(h:NAt w o n b P N)(hn:n≠0)(hp:Pull.ξ8 w' P.pb P.pm 10 pn (λ_=>-1) ak L)(ho:Only (Pull.A2m P.pb P.pm) w w') :
 NAt w' o n b P { N with pn:=pn,ak:=ak,pL:=L }/\Chg o (λg=>g=⟨n,2,0⟩) w w':=by
 have hc:Chg o (λg=>g=⟨n,2,0⟩) w w':=Chg.A1j ho (λk hk=>h.put k hk) (nobP h.pul);have he:=Ext.refl w o;have h0:∀g:Tg,g=⟨n,2,0⟩->g.n≠0:=by rintro g rfl;exact hn
 obtain⟨cs,k1,k2⟩:=h.A99 hc (by simp);refine⟨⟨⟨cs,k1,k2.pul _ _ _⟩,h.tag,λi hi t ht=>h.A66 hc he hi (by simp) t ht,h.A7m hc (by simp),h.smt,λx hx=>h.A67 hc he h0 hx (by simp),hp,h.put,h.A8n hc he h0 (by simp),h.ltt⟩,hc⟩
theorem ξaj(nn n b k:Nat)(o:Nat->Tg)(P:NP)(N:Nd)(t:Tr)(x:Int)(s:Sb)(now:Int)(w:World)(hn:n≠0)(hN:NAt w o n b P N)(hK:A0v nn N)(hx:(x,s)∈N.sb)(hk:k<8)(hs:s.tk=(k:Int)+1)(ht:N.tr k=some t)(hw:s.wants=true)(h0:N.pn<=now)(h1:now<=1000000)(hl:N.lt.length<=1000) :
 Calls prog 121 #[.pointer (some ⟨b,0,none⟩),.pointer (some ⟨(P.sp x).s,0,none⟩),.int .i64 now] w λe w'=>e=.returned (.tuple #[])/\A2p w w' o n b P (N.A2c now s):=by
 have aH:N.at s.tk=some t:=by unfold Nd.at;rw[hs,show((k:Int)+1-1).toNat=k by omega];exact ht
 obtain⟨aL,aM⟩:=(hK.si.mem (x,s) hx).2.2;simp only at aL aM;have aO:=hK.id
 -- cells, wherever the node is as it was but for its Pull and letters
 have au:Hid (∀W oW PW (NW:Nd),NAt W oW n b PW NW->NW.id=N.id->NW.tr=N.tr->NW.sb=N.sb->(∀x,(PW.sp x).s=(P.sp x).s)->(∀i,(PW.tp i).p=(P.tp i).p)->PW.pb=P.pb->W.cell? ⟨b,1,none⟩=some (.int .i64 N.id)/\W.cell? ⟨b,12,none⟩=some (.pointer (some ⟨P.pb,0,none⟩))/\W.cell? ⟨(P.sp x).s,0,none⟩=some (.int .i64 ((k:Int)+1))/\W.cell? ⟨(P.sp x).s,1,none⟩=some (.int .i64 s.mo)/\W.cell? ⟨b,2+k,none⟩=some (.pointer (some ⟨(P.tp k).p,0,none⟩))/\W.cell? ⟨(P.tp k).p,2,none⟩=some (.int .i64 t.pa)):=by
  refine ξ0 ?_;intro W oW PW NW g e1 e2 e3 e4 e5 e6;obtain⟨_,c1,_,_,c12,_⟩:=g.cells;have bx:=(g.sbs (x,s) (by rw[e3];exact hx)).1.box;have ct:=g.A2l hk;have bt:=(g.trs k hk t (by rw[e2];exact ht)).1.box;rw[e1]at c1;rw[e6]at c12;rw[e4]at bx;rw[e2,ht]at ct;simp only[tpv]at ct;rw[e5]at ct bt;refine⟨c1,c12,?_,?_,ct,?_⟩
  ·rw[<-hs];simp[World.cell?,bx]
  ·simp[World.cell?,bx]
  ·simp[World.cell?,bt]
 obtain⟨R,ah⟩:=nm (N.A2c now s);rw[ah];have ai:N.A2c now s=if s.wants=false∨t.pa=-1 then N else { N with pn:=PU.aN (PU.put N.pL ⟨N.id,s.tk,s.mo⟩) N.pn s.tk now,ak:=PU.aK (PU.put N.pL ⟨N.id,s.tk,s.mo⟩) 10 N.pn N.ak s.tk now,pL:=PU.put N.pL ⟨N.id,s.tk,s.mo⟩,lt:=N.lt++(if PU.aB (PU.put N.pL ⟨N.id,s.tk,s.mo⟩) 10 N.pn N.ak s.tk now=true then[(t.pa,Back.A0c 2 s.tk [] s.mo)]else[]) }:=by
  unfold Nd.A2c;rw[aH]
 rw[ah]at ai;have bu:wrap64 ((k:Int)+1-1)=(k:Int):=by unfold wrap64;omega
 have bz:wrap64 (k:Int)=(k:Int):=by unfold wrap64;omega
 have b9:(k:Int)<8:=by omega
 by_cases hpa:t.pa=-1
 ·rw[if_pos (.inr hpa)]at ai;rw[ai];obtain⟨c1,c12,s0,s1,ct,cp⟩:=au.out w o P N hN rfl rfl rfl (λ_=>rfl) (λ_=>rfl) rfl;rw[hpa]at cp;have HD:Hid (∀j,A2p w (w.drewN j) o n b P N):=ξ0 λj=>⟨o,P,hN.below (below_drewN' (Ξp _ _)),λ_=>rfl,λ_=>rfl,Ext.refl _ _,Chg.of_below (below_drewN' (Ξp _ _)) _ _⟩;clear hN hK hx hs ht hw aH au ah ai hpa c1 c12 s1 hl aO;obtain⟨sb,az⟩:=nm ((P.sp x).s);rw[az]at s0 ⊢;obtain⟨pp,aA⟩:=nm ((P.tp k).p);rw[aA]at ct cp;clear az aA;go_enter func121,ntmps121;go_wp2_with fail
  go_quiet (fail)
  go_wp2_with fail
  (try simp only[Exit.inBlock,Exit.then])
  refine bodyPost_ret (results_none rfl _ _ _) rfl ?_;exact⟨rfl,HD.out _⟩
 ·rw[if_neg (by rw[hw];simp[hpa])]at ai;have ae:Pull.Wanted N.pL N.id s.tk s.mo (PU.put N.pL ⟨N.id,s.tk,s.mo⟩)/\PU.wf N.id s.tk s.mo=0:=by
   have aP:PU.wf N.id s.tk s.mo=0:=by unfold PU.wf;rw[if_pos (by rw[hs];omega)]
   exact⟨⟨λ_=>Pull.ξcO _ _,λh=>absurd aP h⟩,aP⟩
  have aZ:=ξb6 hK.pl hK.pw;have aG:PU.Inv (PU.put N.pL ⟨N.id,s.tk,s.mo⟩):=PU.ξ2b hK.pl (PU.ξ4Z.1 ae.2);have aC:(PU.put N.pL ⟨N.id,s.tk,s.mo⟩).length<=8:=ξb6 (a:=N.id) aG (by
   intro y hy;rcases PU.ξ2H.1 hy with h|rfl
   ·exact hK.pw y h.1
   ·rfl)
  obtain⟨L2,aI⟩:=nm (PU.put N.pL ⟨N.id,s.tk,s.mo⟩);rw[aI]at ae aG aC ai;have aQ:PU.af L2 N.pn s.tk now=0:=by
   unfold PU.af;rw[if_neg (by rw[hs];omega),if_neg (by rw[show PU.tf N.pn now=0 by unfold PU.tf;rw[if_neg (by have:=hK.pn.1;omega),if_neg (by omega)]];simp),if_neg];have:=(PU.ξ5J L2 s.tk).2.1 ⟨N.id,s.tk,s.mo⟩ (by rw[<-aI];exact PU.ξ2H.2 (.inr rfl)) rfl;simp only at this;omega
  obtain⟨c1,c12,s0,s1,ct,cp⟩:=au.out w o P N hN rfl rfl rfl (λ_=>rfl) (λ_=>rfl) rfl;have HA:=ξ0 hK.ak
  -- behind Want
  have HW:Hid (∀W,(∃j,W=w.drewN j)->Calls prog 156 #[.pointer (some ⟨P.pb,0,none⟩),.int .i64 N.id,.int .i64 ((k:Int)+1),.int .i64 s.mo] W λe w'=>e=.returned .nilIface/\(w'.cell? ⟨b,1,none⟩=some (.int .i64 N.id)/\w'.cell? ⟨b,12,none⟩=some (.pointer (some ⟨P.pb,0,none⟩))/\w'.cell? ⟨(P.sp x).s,0,none⟩=some (.int .i64 ((k:Int)+1))/\w'.cell? ⟨(P.sp x).s,1,none⟩=some (.int .i64 s.mo))/\Hid (NAt w' o n b P { N with pL:=L2 }/\Chg o (mine n) w w')):=by
   refine ξ0 ?_;rintro W ⟨j,rfl⟩;have aj:NAt (w.drewN j) o n b P N:=hN.below (below_drewN' (Ξp _ _));have C:=Pull.ξ94 P.pb P.pm 10 N.pn N.id ((k:Int)+1) s.mo (λ_=>-1) N.ak N.pL L2 (w.drewN j) aj.pul hK.pl (by omega) (by rw[<-hs];exact ae.1);rw[show PU.wf N.id ((k:Int)+1) s.mo=0 by rw[<-hs];exact ae.2]at C;refine C.mono ?_;rintro e w' ⟨rfl,g1,g2⟩;obtain⟨q1,q2⟩:=aj.pull hn g1 g2;obtain⟨d1,aw,d0,am,_,_⟩:=au.out w' o P _ q1 rfl rfl rfl (λ_=>rfl) (λ_=>rfl) rfl;exact⟨rfl,⟨d1,aw,d0,am⟩,ξ0 ⟨q1,(Chg.of_below (below_drewN' (Ξp _ _)) o _).trans' (ξx q2)⟩⟩
  -- behind Ask
  have aq:Hid (∀W,NAt W o n b P { N with pL:=L2 }->Chg o (mine n) w W->Calls prog 157 #[.pointer (some ⟨P.pb,0,none⟩),.int .i64 ((k:Int)+1),.int .i64 now] W λe w'=>e=.returned (.tuple #[.bool (PU.aB L2 10 N.pn N.ak s.tk now),.nilIface])/\(w'.cell? ⟨b,12,none⟩=some (.pointer (some ⟨P.pb,0,none⟩))/\w'.cell? ⟨(P.sp x).s,0,none⟩=some (.int .i64 ((k:Int)+1))/\w'.cell? ⟨(P.sp x).s,1,none⟩=some (.int .i64 s.mo))/\Hid (NAt w' o n b P { N with pn:=PU.aN L2 N.pn s.tk now,ak:=PU.aK L2 10 N.pn N.ak s.tk now,pL:=L2 }/\Chg o (mine n) w w')):=by
   refine ξ0 ?_;intro W aj ax;have C:=Pull.ξcd P.pb P.pm 10 N.pn ((k:Int)+1) now (λ_=>-1) N.ak L2 W aj.pul aG HA.out (by omega);rw[<-hs,aQ]at C;rw[<-hs];refine C.mono ?_;rintro e w' ⟨rfl,g1,g2⟩;obtain⟨q1,q2⟩:=aj.pull hn g1 g2;obtain⟨_,aw,d0,am,_,_⟩:=au.out w' o P _ q1 rfl rfl rfl (λ_=>rfl) (λ_=>rfl) rfl;rw[<-hs]at d0;exact⟨rfl,⟨aw,d0,am⟩,ξ0 ⟨q1,ax.trans' (ξx q2)⟩⟩
  -- behind sayUp
  have HU:Hid (∀W,NAt W o n b P { N with pn:=PU.aN L2 N.pn s.tk now,ak:=PU.aK L2 10 N.pn N.ak s.tk now,pL:=L2 }->Chg o (mine n) w W->PU.aB L2 10 N.pn N.ak s.tk now=true->Calls prog 152 #[.pointer (some ⟨b,0,none⟩),.pointer (some ⟨(P.tp k).p,0,none⟩),.agg #[.int .i64 2,.int .i64 ((k:Int)+1),.slice none 0 0,.int .i64 s.mo]] W λe w'=>e=.returned (.tuple #[])/\(w'.cell? ⟨(P.sp x).s,0,none⟩=some (.int .i64 ((k:Int)+1))/\w'.cell? ⟨(P.sp x).s,1,none⟩=some (.int .i64 s.mo))/\Hid (A2p w w' o n b P R)):=by
   refine ξ0 ?_;intro W aj ax hB;have C:=ξ1S n b k o P _ t 2 ((k:Int)+1) s.mo none 0 0 [] W hn aj hk ht hpa ⟨λj hj=>absurd hj (by simp),rfl,by omega⟩ (λ_=>⟨rfl,rfl⟩) (by
    unfold Back.A0o Back.A0s Back.most;rw[if_pos (by
     rw[if_neg (by simp;omega)];decide)]
    rfl) (by
    unfold Back.A0c Back.tail;rw[Back.ξ8r];simp[Back.ξ1f,Back.A06]) (by show N.lt.length<=_;omega)
   refine C.mono ?_;rintro e w' ⟨rfl,o',lv,q1,q2,q3⟩;obtain⟨_,_,d0,am,_,_⟩:=au.out w' o' { P with lv:=lv } _ q1 rfl rfl rfl (λ_=>rfl) (λ_=>rfl) rfl;refine⟨rfl,⟨d0,am⟩,ξ0 ⟨o',{ P with lv:=lv },?_,λ_=>rfl,λ_=>rfl,extG q2 ax,ax.trans' (ξ16 q3)⟩⟩;rw[<-hs]at q1;rw[ai,if_pos hB];exact q1
  have aD:Hid (∀W,NAt W o n b P { N with pn:=PU.aN L2 N.pn s.tk now,ak:=PU.aK L2 10 N.pn N.ak s.tk now,pL:=L2 }->Chg o (mine n) w W->PU.aB L2 10 N.pn N.ak s.tk now=false->A2p w W o n b P R):=by
   refine ξ0 ?_;intro W aj ax hB;refine⟨o,P,?_,λ_=>rfl,λ_=>rfl,Ext.refl _ _,ax⟩;rw[ai,if_neg (by rw[hB];simp),Ξu];exact aj
  obtain⟨NA,aS⟩:∃NA:Nd,{ N with pL:=L2 }=NA:=⟨_,rfl⟩;obtain⟨NB,aT⟩:∃NB:Nd,{ N with pn:=PU.aN L2 N.pn s.tk now,ak:=PU.aK L2 10 N.pn N.ak s.tk now,pL:=L2 }=NB:=⟨_,rfl⟩;rw[aS]at HW aq;rw[aT]at aq HU aD;obtain⟨sb,az⟩:=nm ((P.sp x).s);obtain⟨pp,aA⟩:=nm ((P.tp k).p);obtain⟨pb,aU⟩:=nm P.pb;obtain⟨id,aE⟩:=nm N.id;obtain⟨mo,aV⟩:=nm s.mo;obtain⟨pa,aF⟩:=nm t.pa;obtain⟨aB,aW⟩:=nm (PU.aB L2 10 N.pn N.ak s.tk now);rw[az]at HW aq HU s0 s1 ⊢;rw[aA]at HU ct cp;rw[aU]at HW aq c12;rw[aE]at HW c1;rw[aV]at HW aq HU s1;rw[aF]at cp hpa;rw[aW]at aq HU aD;have e1:(pa==-1)=false:=by simpa using hpa
  clear hN hK hx hs ht hw aH au ah hl ae aG aZ aC aQ aI HA aS aT az aA aU aE aV aF aW ai aL aM aO hpa;go_enter func121,ntmps121;go_upto_region 0 with fail
  go_cut [6]from 10 to 19 (λx6 wx=>x6=.pointer (some ⟨pp,0,none⟩)/\Hid (∃j,wx=w.drewN j))
  case first=>
   go_wp2_with fail
   go_quiet (fail)
   go_wp2_with fail
   go_meet;exact⟨rfl,ξ0 ⟨_,rfl⟩⟩
  case rest=>
   obtain⟨rfl,HJ⟩:=hcut;obtain⟨wA,rfl⟩:∃z,z=wc:=⟨_,rfl⟩;have CW:=ξ0 (λW (hW:∃j,W=wA.drewN j)=>HW.out W (by
    obtain⟨j,rfl⟩:=hW;obtain⟨i,hi⟩:=HJ.out;exact⟨i+j,by rw[hi,World.drewN_drewN]⟩))
   obtain⟨a1,aX,b0,b1,ap⟩:wA.cell? ⟨b,1,none⟩=some (.int .i64 id)/\wA.cell? ⟨b,12,none⟩=some (.pointer (some ⟨pb,0,none⟩))/\wA.cell? ⟨sb,0,none⟩=some (.int .i64 ((k:Int)+1))/\wA.cell? ⟨sb,1,none⟩=some (.int .i64 mo)/\wA.cell? ⟨pp,2,none⟩=some (.int .i64 pa):=by
    obtain⟨i,hi⟩:=HJ.out;rw[hi];exact⟨c1,c12,s0,s1,cp⟩
   have S0:wA.drew.cell? ⟨b,1,none⟩=some (.int .i64 id)/\wA.drew.cell? ⟨b,12,none⟩=some (.pointer (some ⟨pb,0,none⟩))/\wA.drew.cell? ⟨sb,0,none⟩=some (.int .i64 ((k:Int)+1))/\wA.drew.cell? ⟨sb,1,none⟩=some (.int .i64 mo):=⟨a1,aX,b0,b1⟩;have aY:=ξ0 (CW.out wA.drew ⟨1,rfl⟩);clear HW CW c1 c12 s0 s1 ct cp HJ;go_upto_region 2 with fail
   go_region_held3 (λw'=>w'.cell? ⟨b,1,none⟩=some (.int .i64 id)/\w'.cell? ⟨b,12,none⟩=some (.pointer (some ⟨pb,0,none⟩))/\w'.cell? ⟨sb,0,none⟩=some (.int .i64 ((k:Int)+1))/\w'.cell? ⟨sb,1,none⟩=some (.int .i64 mo)) (with_reducible assumption) (first|(go_at_call 156;refine aY.out.mono ?_;rintro e w4 ⟨rfl,bh,aJ⟩))
   obtain⟨d1,aw,d0,am⟩:=bh;have CK:=ξ0 (aq.out w4.drew (aJ.out.1.below ((Ξp _ _).drew)) (aJ.out.2.trans' (Chg.of_below ((Ξp _ _).drew) _ _)));have S1:w4.drew.cell? ⟨b,12,none⟩=some (.pointer (some ⟨pb,0,none⟩))/\w4.drew.cell? ⟨sb,0,none⟩=some (.int .i64 ((k:Int)+1))/\w4.drew.cell? ⟨sb,1,none⟩=some (.int .i64 mo):=⟨aw,d0,am⟩;clear aq a1 aX b0 b1 ap S0 aY aJ;go_upto_region 4 with fail
   go_region_held3 (λw'=>w'.cell? ⟨b,12,none⟩=some (.pointer (some ⟨pb,0,none⟩))/\w'.cell? ⟨sb,0,none⟩=some (.int .i64 ((k:Int)+1))/\w'.cell? ⟨sb,1,none⟩=some (.int .i64 mo)) (with_reducible assumption) (first|(go_at_call 157;refine CK.out.mono ?_;rintro e w5 ⟨rfl,bi,ay⟩))
   obtain⟨bA,f0,f1⟩:=bi;clear CK S1 d1 aw d0 am;cases aB with
   | false=>
     have bj:=ξ0 (aD.out w5 ay.out.1 ay.out.2 rfl);clear HU aD ay;go_wp2_with fail
     go_end0
     exact⟨rfl,bj.out⟩
   | true=>
     have CU:=ξ0 (HU.out w5.drew (ay.out.1.below ((Ξp _ _).drew)) (ay.out.2.trans' (Chg.of_below ((Ξp _ _).drew) _ _)) rfl);have S2:w5.drew.cell? ⟨sb,0,none⟩=some (.int .i64 ((k:Int)+1))/\w5.drew.cell? ⟨sb,1,none⟩=some (.int .i64 mo):=⟨f0,f1⟩;clear HU aD ay;go_upto_region 6 with fail
     go_region_held3 (λw'=>w'.cell? ⟨sb,0,none⟩=some (.int .i64 ((k:Int)+1))/\w'.cell? ⟨sb,1,none⟩=some (.int .i64 mo)) (with_reducible assumption) (first|(go_at_call 152;refine CU.out.mono ?_;rintro e w6 ⟨rfl,bB,bq⟩))
     go_wp2_with fail
     go_end0
     exact⟨rfl,bq.out⟩
def A4c(w w':World)(o:Nat->Tg)(n b i pp:Nat)(P:NP)(N:Nd):Prop:=∃o' P',NAt w' o' n b P' N/\(P'.tp i).p=pp/\Ext w o o'/\Chg o (mine n) w w'/\(∀j,(P'.tp j).p=(P.tp j).p)/\∀x,(P'.sp x).s=(P.sp x).s
theorem ξ4n(f:Nat->TP)(i:Nat)(g:Value):∀j,(A26 f i { f i with gv:=g } j).p=(f j).p:=by
 intro j;unfold A26;split
 ·rename_i e;rw[e]
 ·rfl
theorem ξgE(n b i:Nat)(o:Nat->Tg)(P:NP)(N:Nd)(tr:Tr)(now:Int)(w:World)(hn:n≠0)(hN:NAt w o n b P N)(hi:i<8)(ht:N.tr i=some tr)(hG:GM.Inv 3 3 tr.gn tr.gT tr.gM)(htf:GM.tf tr.gn now=0)(hpa:tr.pa≠-1)(hgG:tr.gG=[])(hgv:GM.A0q 3 3 now tr.gM=[])(hef:GM.A07 3 3 now tr.gM≠[]->Back.A0o 1 tr.tk (BM.norm (sq (GM.A07 3 3 now tr.gM))) 0=0/\(Back.A0c 1 tr.tk (BM.norm (sq (GM.A07 3 3 now tr.gM))) 0).length<=2000)(hl:N.lt.length<=1000000) :
 Calls prog 118 #[.pointer (some ⟨b,0,none⟩),.pointer (some ⟨(P.tp i).p,0,none⟩),.int .i64 now] w λe w'=>e=.returned (.tuple #[])/\A2p w w' o n b P (N.asked i tr now):=by
 have hT:=(hN.trs i hi tr ht).1;have aq:=hT.gap;rw[hgG]at aq;have aD:=hG.len;have CD:=Gaps.ξ2N (P.tp i).g (P.tp i).gm 3 3 tr.gn tr.gT now tr.gM (P.tp i).gv [] w aq hG htf (by simp;omega);rw[hgv,Ξu]at CD;have aS:=GM.ξ5h 3 3 now tr.gM;have aE:∀y∈GM.A07 3 3 now tr.gM,0<=y/\y<=1099511627776:=by
  intro y hy;obtain⟨x,hx,rfl⟩:=Ξi.1 hy;have:=hG.mem x (Ξj.1 hx).1;have:=hG.t2;omega
 have c4:w.cell? ⟨(P.tp i).p,4,none⟩=some (.pointer (some ⟨(P.tp i).g,0,none⟩)):=by simp[World.cell?,hT.box]
 obtain⟨D,hD⟩:=nm (GM.A07 3 3 now tr.gM);obtain⟨R,ae⟩:=nm (N.asked i tr now);rw[ae];unfold Nd.asked at ae;rw[hD]at CD aS aE hef ae
 -- the A2l behind Due
 obtain⟨T2,az⟩:∃T2:Tr,{ tr with gn:=now,gM:=GM.dM 3 3 now tr.gM,gG:=[] }=T2:=⟨_,rfl⟩;rw[az]at ae;have e2:T2.tk=tr.tk/\T2.pa=tr.pa/\T2.gT=tr.gT:=by rw[<-az];exact⟨rfl,rfl,rfl⟩
 have g2:T2.gn=now/\T2.gM=GM.dM 3 3 now tr.gM/\T2.gG=[]:=by rw[<-az];exact⟨rfl,rfl,rfl⟩
 -- behind Due
 have ah:Hid (Calls prog 29 #[.pointer (some ⟨(P.tp i).g,0,none⟩),.int .i64 now] w λe w1=>∃a c,e=.returned (.tuple #[.slice a D.length c,.nilIface])/\Back.A0b w1 a D.length D/\Hid (A4c w w1 o n b i (P.tp i).p P { N with tr:=A0f N.tr i T2 })):=by
  refine ξ0 (CD.mono ?_);rintro e w1 ⟨dv,rfl,bD,q1,q2,q3,q4⟩;obtain⟨a,c,rfl,hA,_⟩:=Gaps.ξl q2 (by omega);obtain⟨aA,aF⟩:=hN.gaps hn hi ht q1 q4 (λj hj=>(q3 j hj).1);rw[show({ tr with gn:=now,gT:=tr.gT,gM:=GM.dM 3 3 now tr.gM,gG:=[] }:Tr)=T2 from az]at aA;exact⟨a,c,rfl,hA,ξ0 ⟨_,_,aA,by simp[A26],ξ3 o w _,aF,ξ4n _ _ _,λ_=>rfl⟩⟩
 -- seqsOf and sayUp
 have au:Hid (∀W a c,Back.A0b W a D.length D->A4c w W o n b i (P.tp i).p P { N with tr:=A0f N.tr i T2 }->D≠[]->Calls prog 153 #[.slice a D.length c] W λe w2=>∃a' m' c',e=.returned (.slice a' m' c')/\w2.cell? ⟨(P.tp i).p,0,none⟩=some (.int .i64 tr.tk)/\Hid (Back.A0b w2 a' m' (BM.norm (sq D))/\(a'=none->m'=0/\c'=0)/\A4c w w2 o n b i (P.tp i).p P { N with tr:=A0f N.tr i T2 })):=by
  refine ξ0 ?_;intro W a c hA hM aw;refine(ξ4u a D.length c D W hA aE (by omega)).mono ?_;rintro e w2 ⟨v',rfl,hv,hb⟩;obtain⟨a',c',rfl,aG,ax,_⟩:=Back.ξl hv (by
   have:=BM.ξ1y (sq D);have e:(sq D).length=D.length:=by simp[sq]
   omega)
  obtain⟨o',P',m1,m2,m3,m4,mq⟩:=hM;have aT:=m1.below hb;have aj:=(aT.trs i hi T2 (ξF _ _ _)).1.box;rw[m2]at aj;exact⟨a',_,c',rfl,by rw[<-e2.1];simp[World.cell?,aj],ξ0 ⟨aG,ax,o',P',aT,m2,m3,m4.trans' (Chg.of_below hb _ _),mq⟩⟩
 have ai:Hid (∀W a' m' c',Hid (Back.A0b W a' m' (BM.norm (sq D))/\(a'=none->m'=0/\c'=0)/\A4c w W o n b i (P.tp i).p P { N with tr:=A0f N.tr i T2 })->D≠[]->Calls prog 152 #[.pointer (some ⟨b,0,none⟩),.pointer (some ⟨(P.tp i).p,0,none⟩),.agg #[.int .i64 1,.int .i64 tr.tk,.slice a' m' c',.int .i64 0]] W λe w3=>e=.returned (.tuple #[])/\w3.cell? ⟨(P.tp i).p,0,none⟩=some (.int .i64 tr.tk)/\Hid (A4c w w3 o n b i (P.tp i).p P R)):=by
  refine ξ0 ?_;intro W a' m' c' hS aw;obtain⟨aG,ax,o',P',m1,m2,m3,m4,mq⟩:=hS.out;obtain⟨f1,f2⟩:=hef aw;have C:=ξ1S n b i o' P' { N with tr:=A0f N.tr i T2 } T2 1 tr.tk 0 a' m' c' _ W hn m1 hi (ξF _ _ _) (by rw[e2.2.1];exact hpa) aG ax f1 f2 hl;rw[m2]at C;refine C.mono ?_;rintro e w3 ⟨rfl,o3,lv,q1,q2,q3⟩;have hR:({ ({ N with tr:=A0f N.tr i T2 }:Nd)with lt:=N.lt++[(T2.pa,Back.A0c 1 tr.tk (BM.norm (sq D)) 0)] }:Nd)=R:=by
   rw[<-ae,if_neg aw,e2.2.1]
  have aU:NAt w3 o3 n b { P' with lv:=lv } R:=by rw[<-hR];exact q1
  have aV:=(aU.trs i hi T2 (by rw[<-ae];exact ξF _ _ _)).1.box;have bz:(({ P' with lv:=lv }:NP).tp i).p=(P.tp i).p:=m2;rw[bz]at aV;exact⟨rfl,by rw[<-e2.1];simp[World.cell?,aV],ξ0 ⟨o3,_,aU,m2,m3.trans q2 m4.size,m4.trans (ξ16 q3) m3,mq⟩⟩
 -- GaveUp
 have aH:Hid (∀W,A4c w W o n b i (P.tp i).p P R->∃g,W.cell? ⟨(P.tp i).p,4,none⟩=some (.pointer (some ⟨g,0,none⟩))/\Calls prog 30 #[.pointer (some ⟨g,0,none⟩)] W λe w4=>∃a c,e=.returned (.slice a 0 c)/\Hid (A2p w w4 o n b P R)):=by
  refine ξ0 ?_;rintro W ⟨o',P',m1,m2,m3,m4,mq⟩;have aI:R.tr i=some T2:=by rw[<-ae];exact ξF _ _ _
  have aW:=(m1.trs i hi T2 aI).1;have aj:=aW.box;rw[m2]at aj;have am:=aW.gap;rw[g2.2.2]at am;refine⟨(P'.tp i).g,by simp[World.cell?,aj],?_⟩;refine(Gaps.ξ3A (P'.tp i).g (P'.tp i).gm 3 3 _ _ _ (P'.tp i).gv [] W am (by simp)).mono ?_;rintro e w4 ⟨rfl,q1,q2,q3⟩;obtain⟨a,c,hv,_⟩:=Gaps.ξl (L:=[]) (by simpa using q2) (by simp);obtain⟨aA,aF⟩:=m1.gaps hn hi aI q1 q3 (λj hj=>by simp[Value.ownBlock]at hj);have e:({ R with tr:=A0f R.tr i { T2 with gn:=T2.gn,gT:=T2.gT,gM:=T2.gM,gG:=[] } }:Nd)=R:=by
   have e1:({ T2 with gn:=T2.gn,gT:=T2.gT,gM:=T2.gM,gG:=[] }:Tr)=T2:=by
    have:=g2.2.2;cases T2;simp only at this;rw[this]
   rw[e1];have e3:A0f R.tr i T2=R.tr:=by
    funext k
    unfold A0f;split
    ·rename_i h;rw[h,aI]
    ·rfl
   rw[e3]
  rw[e]at aA;exact⟨a,c,by rw[hv],ξ0 ⟨_,_,aA,mq.2,λj=>(ξ4n _ _ _ j).trans (mq.1 j),m3.trans (ξ3 o' W _) m4.size,m4.trans aF m3⟩⟩
 have aX:Hid (D=[]->({ N with tr:=A0f N.tr i T2 }:Nd)=R):=by
  refine ξ0 ?_;intro h0;rw[<-ae,if_pos h0,Ξu]
 have ay:Hid (∀W,A4c w W o n b i (P.tp i).p P { N with tr:=A0f N.tr i T2 }->W.cell? ⟨(P.tp i).p,0,none⟩=some (.int .i64 tr.tk)):=by
  refine ξ0 ?_;rintro W ⟨o',P',m1,m2,m3,m4,mq⟩;have aj:=(m1.trs i hi T2 (ξF _ _ _)).1.box;rw[m2]at aj;rw[<-e2.1];simp[World.cell?,aj]
 obtain⟨N1,aY⟩:∃N1:Nd,{ N with tr:=A0f N.tr i T2 }=N1:=⟨_,rfl⟩;rw[aY]at ah au ai aX ay;obtain⟨pp,aJ⟩:=nm ((P.tp i).p);obtain⟨gb,aZ⟩:=nm ((P.tp i).g);rw[aJ]at ah au ai aH ay c4;rw[aZ]at ah c4;rw[aJ];obtain⟨tk,bh⟩:=nm tr.tk;rw[bh]at au ai ay;obtain⟨dl,aL⟩:=nm D.length;have bi:=ξ0 aL;rw[aL]at ah au aS;clear hN ht hG htf hpa hgG hgv hef hl hT aq aD CD aE hD ae az e2 g2 aY aJ aZ bh aL;go_enter func118,ntmps118;go_wp2_with fail
 refine ah.out.mono ?_;rintro e w1 ⟨a,c,rfl,aM,aC⟩;by_cases h0:dl=0
 ·have bj:D=[]:=Ξk (by rw[bi.out];exact h0);have b9:Hid (A4c w w1 o n b i pp P R):=by
   have:=aC.out;rw[aX.out bj]at this;exact ξ0 this
  subst h0;obtain⟨g,bA,CG⟩:=aH.out w1 b9.out;have aO:=ξ0 CG;clear aM aC bj au ai ay ah c4 CG;go_wp2_with fail;refine aO.out.mono ?_;rintro e w4 ⟨a4,c5,rfl,aP⟩;go_wp2_with fail;go_loopg [42] 0 (λg x wr=>x=.int .i64 0/\w4=wr)
  case atStart=>exact⟨rfl,rfl⟩
  case round=>
   obtain⟨rfl,rfl⟩:=hrel;go_wp2_with fail
   go_end0
   exact⟨rfl,aP.out⟩
 ·have aw:D≠[]:=by
   intro e;have:=bi.out;rw[e]at this;simp at this;omega
  have aQ:(0:Int)<(dl:Int):=by omega
  have bE:decide ((0:Int)<(dl:Int))=true:=by simpa using aQ
  have bq:=au.out w1.drew a c (aM.below ((Ξp _ _).drew)) (by
   obtain⟨o',P',m1,m2,m3,m4,mq⟩:=aC.out;exact⟨o',P',m1.below ((Ξp _ _).drew),m2,m3,m4.trans' (Chg.of_below ((Ξp _ _).drew) _ _),mq⟩) aw
  have bB:=ξ0 bq;have bF:w1.drew.cell? ⟨pp,0,none⟩=some (.int .i64 tk):=ay.out w1 aC.out;have bC:=ξ0 (λW a' m' c' h=>ai.out W a' m' c' h aw);clear aM aC bq au ai ay ah c4 aw h0;go_upto_region 3 with fail
  go_region_held3 (λw'=>w'.cell? ⟨pp,0,none⟩=some (.int .i64 tk)) (with_reducible assumption) (first|(go_at_call 153;refine bB.out.mono ?_;rintro e w2 ⟨a2,m2,c2,rfl,bG,bH⟩)|(go_at_call 152;refine(bC.out _ _ _ _ (by with_reducible assumption)).mono ?_;rintro e w3 ⟨rfl,bI,bu⟩))
  obtain⟨g,bA,CG⟩:=aH.out w3 bu.out;have aO:=ξ0 CG;clear bu CG;go_wp2_with fail;refine aO.out.mono ?_;rintro e w4 ⟨a4,c5,rfl,aP⟩;go_wp2_with fail;go_loopg [42] 0 (λg x wr=>x=.int .i64 0/\w4=wr)
  case atStart=>exact⟨rfl,rfl⟩
  case round=>
   obtain⟨rfl,rfl⟩:=hrel;go_wp2_with fail
   go_end0
   exact⟨rfl,aP.out⟩
theorem ξ2N(h:A3h n nw i t)(hi:i<8)(hd:GM.A07 3 3 now t.gM≠[]):Back.A0o 1 t.tk (BM.norm (sq (GM.A07 3 3 now t.gM))) 0=0/\(BM.norm (sq (GM.A07 3 3 now t.gM))).length<=200/\(Back.A0c 1 t.tk (BM.norm (sq (GM.A07 3 3 now t.gM))) 0).length<=2000:=by
 obtain⟨L,hL⟩:=nm (BM.norm (sq (GM.A07 3 3 now t.gM)));obtain⟨hr,hm⟩:=BM.ξ1h (sq (GM.A07 3 3 now t.gM));have ae:=BM.ξ1y (sq (GM.A07 3 3 now t.gM));rw[hL]at hr hm ae ⊢;have hl:L.length<=200:=by
  have h1:(sq (GM.A07 3 3 now t.gM)).length<=t.gM.length:=by
   unfold sq GM.A07 GM.nums;rw[Ξm,Ξm];exact List.length_filter_le _ _
  have:=GM.Inv.len h.gi;omega
 have ah:L≠[]:=by
  intro e;rw[e]at hm;cases hq:GM.A07 3 3 now t.gM with
  | nil=>exact hd hq
  | cons y r=>
    have:=(hm (y%65536)).2 (by rw[hq];simp[sq]);simp at this
 have hb:∀x∈L,0<=x/\x<=65535:=by
  intro x hx;obtain⟨y,_,rfl⟩:=Ξi.1 ((hm x).1 hx);omega
 have hp:Back.A1n L=0:=by
  unfold Back.A1n;rw[if_neg (by omega),if_neg];simp only[Bool.not_eq_true,List.any_eq_false];intro x hx;have:=hb x hx;simp[Back.inR];omega
 refine⟨?_,hl,?_⟩
 ·unfold Back.A0o;rw[if_pos]
  ·exact hp
  ·unfold Back.A0s Back.most;have h1:L.length≠0:=by
    intro e;exact ah (Ξk e)
   have ai:=h.tk;rw[if_neg (by simp;omega),if_neg];simp only[Bool.or_eq_true,not_or,beq_iff_eq,decide_eq_decide,Bool.not_eq_true',decide_eq_false_iff_not,Decidable.not_not];exact⟨by simp[h1],hr⟩
 ·have:=(Back.ξ1M hp).2.2.2.2.1;unfold Back.A0c Back.tail Back.A06;simp only[List.length_cons,Ξh];have e:∀l:List (Int×Nat),(l.flatMap λp=>Back.be 2 p.1.toNat++Back.be 2 p.2).length=4*l.length:=by
   intro l
   induction l with
   | nil=>rfl
   | cons a l ih=>simp only[List.flatMap_cons,Ξh,Back.ξ1f,ih,List.length_cons];omega
  rw[e];simp;omega
theorem ξ8n(tk:Int)(l:List (Int×Sb)):A10 tk (λs=>s) l=l:=by
 unfold A10;rw[List.map_congr_left (g:=id),List.map_id];intro x _;show(if x.2.tk=tk then(x.1,x.2)else x)=x;split<;>rfl
theorem A1k.A6c{nw:Int}(h1:now<=1000000):∀(G:List Int) (s:Sb),A1k nw s->nw<=now->A1k now (G.foldl (λs y=>s.gone y now) s)
 | [],s,h,hn=>h.mono hn
 | y::G,s,h,hn=>by
   rw[List.foldl_cons];exact A1k.A6c h1 G _ (h.gone (ξ2m h.oi.c1 (Int.le_trans h.on hn) h1)) (Int.le_refl _)
theorem ξ3a(now:Int):∀(G:List Int) (s:Sb),(G.foldl (λs y=>s.gone y now) s).tk=s.tk/\(G.foldl (λs y=>s.gone y now) s).mo=s.mo
 | [],s=>⟨rfl,rfl⟩
 | y::G,s=>ξ3a now G (s.gone y now)
theorem A0v.A1v(h:A0v n N)(hi:i<8):A0v n (N.A1v i N.nw):=by
 unfold Nd.A1v;cases ht:N.tr i with
 | none=>exact h
 | some t=>
   simp only[];split
   ·exact h
   ·have hT:=h.tr i hi t ht;have h2:=h.nw.2;have ae:A3h n N.nw i { t with gn:=N.nw,gM:=GM.dM 3 3 N.nw t.gM,gG:=[] }:=⟨hT.tk,hT.ep,hT.pa,hT.kd,hT.kl,GM.ξfa hT.gi (ξ23 hT.gi.n1 hT.gn h2),Int.le_refl _,rfl,hT.ri,hT.rf⟩;have k1:=h.A52 ae;have k2:=k1.A47 (tk:=t.tk) (f:=λs=>(GM.A0q 3 3 N.nw t.gM).foldl (λs y=>s.gone y N.nw) s) (λs hs=>A1k.A6c h2 _ s hs (Int.le_refl _)) (λs=>(ξ3a _ _ s).2) (λs=>(ξ3a _ _ s).1);exact k2.letters _
theorem ξfz(N:Nd)(i:Nat)(now:Int):(N.A1v i now).nw=N.nw/\(N.A1v i now).id=N.id/\(N.A1v i now).ls=N.ls/\(N.A1v i now).pn=N.pn/\(N.A1v i now).ak=N.ak/\(N.A1v i now).pL=N.pL/\(∀k,k≠i->(N.A1v i now).tr k=N.tr k)/\(N.A1v i now).lt.length<=N.lt.length+1:=by
 unfold Nd.A1v;split
 ·exact⟨rfl,rfl,rfl,rfl,rfl,rfl,λ_ _=>rfl,Nat.le_succ _⟩
 ·split
  ·exact⟨rfl,rfl,rfl,rfl,rfl,rfl,λ_ _=>rfl,Nat.le_succ _⟩
  ·refine⟨rfl,rfl,rfl,rfl,rfl,rfl,λk hk=>?_,?_⟩
   ·show A0f N.tr i _ k=N.tr k;unfold A0f;rw[if_neg hk]
   ·show(N.lt++_).length<=_;rw[Ξh];split<;>simp
theorem ξ1c(N:Nd)(now:Int):∀j,(N.A0i now j).nw=N.nw/\(N.A0i now j).id=N.id/\(N.A0i now j).ls=N.ls/\(N.A0i now j).pn=N.pn/\(N.A0i now j).ak=N.ak/\(N.A0i now j).pL=N.pL/\(∀k,j<=k->(N.A0i now j).tr k=N.tr k)/\(N.A0i now j).lt.length<=N.lt.length+j
 | 0=>⟨rfl,rfl,rfl,rfl,rfl,rfl,λ_ _=>rfl,Ξo _⟩
 | j+1=>by
   obtain⟨a1,a2,a3,a4,a5,a6,a7,a8⟩:=ξ1c N now j;obtain⟨b1,b2,b3,b4,b5,b6,b7,b8⟩:=ξfz (N.A0i now j) j now;show((N.A0i now j).A1v j now).nw=N.nw/\((N.A0i now j).A1v j now).id=N.id/\((N.A0i now j).A1v j now).ls=N.ls/\((N.A0i now j).A1v j now).pn=N.pn/\((N.A0i now j).A1v j now).ak=N.ak/\((N.A0i now j).A1v j now).pL=N.pL/\(∀k,j+1<=k->((N.A0i now j).A1v j now).tr k=N.tr k)/\((N.A0i now j).A1v j now).lt.length<=N.lt.length+(j+1);exact⟨b1.trans a1,b2.trans a2,b3.trans a3,b4.trans a4,b5.trans a5,b6.trans a6,λk hk=>(b7 k (by omega)).trans (a7 k (by omega)),by omega⟩
theorem A0v.A0i(h:A0v n N):∀j,j<=8->A0v n (N.A0i N.nw j)
 | 0,_=>h
 | j+1,hj=>by
   have k:=A0v.A0i h j (by omega);have e:=(ξ1c N N.nw j).1;have:=k.A1v (i:=j) (by omega);rw[e]at this;exact this
theorem ξ6O(now:Int)(l:List (Int×Sb)):ids (A5h now l)=ids l:=by
 unfold ids A5h;rw[List.map_map];rfl
theorem A0v.A27(h:A0v n N):A0v n (N.A27 N.nw):=by
 refine⟨h.nw,h.id,h.tr,⟨?_,?_,?_,h.si.ls0,h.si.ls1⟩,?_,h.pn,h.pl,h.pw,h.ak⟩
 ·show(ids (A5h N.nw N.sb)).Pairwise _;rw[ξ6O];exact h.si.ris
 ·intro x hx;obtain⟨y,hy,rfl⟩:=Ξi.1 hx;have:=h.si.mem y hy;show 1<=y.1/\y.1<=N.ls/\0<=(y.2.A1r N.nw).mo/\(y.2.A1r N.nw).mo<=3;rw[(ξ5a y.2 N.nw).2];exact this
 ·show(A5h N.nw N.sb).length<=20;unfold A5h;rw[Ξm];exact h.si.len
 ·intro x hx;obtain⟨y,hy,rfl⟩:=Ξi.1 hx;obtain⟨k1,k,hk,e,k2⟩:=h.sb y hy;refine⟨(k1.pop (ξ2m k1.oi.c1 k1.on h.nw.2)).2.2.1,k,hk,?_,k2⟩;show(y.2.A1r N.nw).tk=_;rw[(ξ5a y.2 N.nw).1];exact e
theorem A0v.A2c(h:A0v n N){x:Int×Sb}(hx:1<=x.2.tk/\x.2.tk<=8/\0<=x.2.mo/\x.2.mo<=3):A0v n (N.A2c N.nw x.2):=by
 unfold Nd.A2c;split
 ·exact h
 ·split
  ·exact h
  ·have hi:=h.id;have ae:PU.Ok ⟨N.id,x.2.tk,x.2.mo⟩:=by unfold PU.Ok;simp only[];omega
   refine⟨h.nw,h.id,h.tr,h.si,h.sb,?_,PU.ξ2b h.pl ae,?_,PU.ξe8 h.ak⟩
   ·have h1:=h.pn;have h2:=h.nw;show 0<=PU.aN _ N.pn x.2.tk N.nw/\PU.aN _ N.pn x.2.tk N.nw<=N.nw;unfold PU.aN;split<;>omega
   ·intro y hy;rcases PU.ξ2H.1 hy with h1|rfl
    ·exact h.pw y h1.1
    ·rfl
theorem ξ8Z(N:Nd)(now:Int)(s:Sb):(N.A2c now s).nw=N.nw/\(N.A2c now s).id=N.id/\(N.A2c now s).tr=N.tr/\(N.A2c now s).sb=N.sb/\(N.A2c now s).ls=N.ls/\(N.A2c now s).lt.length<=N.lt.length+1:=by
 unfold Nd.A2c;split
 ·exact⟨rfl,rfl,rfl,rfl,rfl,Nat.le_succ _⟩
 ·split
  ·exact⟨rfl,rfl,rfl,rfl,rfl,Nat.le_succ _⟩
  ·refine⟨rfl,rfl,rfl,rfl,rfl,?_⟩;show(N.lt++_).length<=_;rw[Ξh];split<;>simp
theorem ξ2n(now:Int):∀(l:List (Int×Sb)) (N:Nd),(N.starts now l).nw=N.nw/\(N.starts now l).id=N.id/\(N.starts now l).tr=N.tr/\(N.starts now l).sb=N.sb/\(N.starts now l).ls=N.ls/\(N.starts now l).lt.length<=N.lt.length+l.length
 | [],N=>⟨rfl,rfl,rfl,rfl,rfl,Ξo _⟩
 | x::l,N=>by
   obtain⟨a1,a2,a3,a4,a5,a6⟩:=ξ8Z N now x.2;obtain⟨b1,b2,b3,b4,b5,b6⟩:=ξ2n now l (N.A2c now x.2);show((N.A2c now x.2).starts now l).nw=_/\((N.A2c now x.2).starts now l).id=_/\((N.A2c now x.2).starts now l).tr=_/\((N.A2c now x.2).starts now l).sb=_/\((N.A2c now x.2).starts now l).ls=_/\((N.A2c now x.2).starts now l).lt.length<=_;simp only[List.length_cons];exact⟨b1.trans a1,b2.trans a2,b3.trans a3,b4.trans a4,b5.trans a5,by omega⟩
theorem A0v.starts:∀(l:List (Int×Sb)) (N:Nd),A0v n N->(∀x∈l,1<=x.2.tk/\x.2.tk<=8/\0<=x.2.mo/\x.2.mo<=3)->A0v n (N.starts N.nw l)
 | [],N,h,_=>h
 | x::l,N,h,hl=>by
   have k:=A0v.starts l _ (h.A2c (hl x (by simp))) (λy hy=>hl y (by simp[hy]));rw[(ξ8Z N N.nw x.2).1]at k;exact k
theorem ξ3T(N:Nd)(now:Int)(l:List (Int×Sb))(x:Int×Sb):N.starts now (l++[x])=(N.starts now l).A2c now x.2:=by
 unfold Nd.starts;rw[List.foldl_append];rfl
theorem ξeb(h:A0v n N):∀x∈N.sb,1<=x.2.tk/\x.2.tk<=8/\0<=x.2.mo/\x.2.mo<=3:=by
 intro x hx;obtain⟨_,k,hk,e,_⟩:=h.sb x hx;have:=h.si.mem x hx;omega
theorem A0v.tick(h:A0v n N)(h0:N.nw<=now)(h1:now<=1000000):A0v n (N.tick now):=by
 have k1:=h.later h0 h1;have k2:=k1.A0i 8 (Ξo _);have e2:((({ N with nw:=now }:Nd).A0i now 8)).nw=now:=(ξ1c ({ N with nw:=now }:Nd) now 8).1;have k3:=k2.A27;rw[show({ N with nw:=now }:Nd).nw=now from rfl,e2]at k3;have k4:=A0v.starts _ _ k3 (ξeb k3);rw[show(((({ N with nw:=now }:Nd).A0i now 8)).A27 now).nw=now from e2]at k4;exact k4
theorem ξfA(q:Nat->Option Addr)(j:Nat)(hj:j<8)(w:World) :
 (Instr.index 154 (.agg #[.pointer (q 0),.pointer (q 1),.pointer (q 2),.pointer (q 3),.pointer (q 4),.pointer (q 5),.pointer (q 6),.pointer (q 7)]) (.int .i64 (j:Int))).run prog w=.ok (.pointer (q j)) w:=by
 rcases A9d hj with rfl|rfl|rfl|rfl|rfl|rfl|rfl|rfl<;>kernel_rfl
def qp(N:Nd)(P:NP)(i:Nat):Option Addr:=match N.tr i with
 | none=>none
 | some _=>some ⟨(P.tp i).p,0,none⟩
theorem ξfM(N:Nd)(P:NP)(i:Nat):tpv (N.tr i) (P.tp i)=.pointer (qp N P i):=by
 unfold tpv qp;cases N.tr i<;>rfl
theorem ξ17(h:N.tr j=none∨∃t,N.tr j=some t/\t.pa=-1):N.A0i now (j+1)=N.A0i now j:=by
 have e:=(ξ1c N now j).2.2.2.2.2.2.1 j (Ξo _);show(N.A0i now j).A1v j now=_;unfold Nd.A1v;rcases h with h|⟨t,h,hp⟩
 ·rw[e,h]
 ·rw[e,h];simp only[];rw[if_pos hp]
def WSt(w wx:World)(o:Nat->Tg)(n b:Nat)(P:NP)(N:Nd)(now:Int)(ra:Option Addr)(j:Nat):Prop:=∃oj Pj,NAt wx oj n b Pj (N.starts now (N.sb.take j))/\(∀x,(Pj.sp x).s=(P.sp x).s)/\Ext w o oj/\Chg o (mine n) w wx/\A04 wx ra (λx=>(P.sp x).s) (ids N.sb)/\∀ad,ra=some ad->(oj ad.block).n=0
theorem ξ8O{l:List (Int×Sb)}(hj:j<l.length):(ids l).getD j 0=l[j].1:=by
 rw[Ξa,Ξd (by rw[ξL];exact hj)];simp[ids]
theorem WSt.skip(h:WSt w wx o n b P N now ra j)(hj:j<N.sb.length)(hw:N.sb[j].2.wants=false)(hk:∃k,w'=wx.drewN k):WSt w w' o n b P N now ra (j+1):=by
 obtain⟨oj,Pj,g1,g2,g3,g4,g5,g6⟩:=h;obtain⟨k,rfl⟩:=hk;have e:N.starts now (N.sb.take (j+1))=N.starts now (N.sb.take j):=by
  rw[<-List.take_append_getElem hj,ξ3T];unfold Nd.A2c;split
  ·rfl
  ·rw[if_pos (.inl hw)]
 refine⟨oj,Pj,?_,g2,g3,g4,g5,g6⟩;rw[e];exact g1.below (below_drewN' (Ξp _ _))
theorem WSt.ask{w1:World}{nn:Nat}(hn:n≠0)(hK:A0v nn N)(hnw:N.nw=now)(hl:N.lt.length<=500)(h:WSt w wx o n b P N now ra j)(hj:j<N.sb.length)(hw:N.sb[j].2.wants=true)(hk:∃k,w1=wx.drewN k) :
 Calls prog 121 #[.pointer (some ⟨b,0,none⟩),.pointer (some ⟨(P.sp ((ids N.sb).getD j 0)).s,0,none⟩),.int .i64 now] w1 λe w'=>e=.returned (.tuple #[])/\Hid (WSt w w' o n b P N now ra (j+1)):=by
 obtain⟨oj,Pj,g1,g2,g3,g4,g5,g6⟩:=h;obtain⟨k,rfl⟩:=hk;obtain⟨a1,a2,a3,a4,a5,a6⟩:=ξ2n now (N.sb.take j) N;have ae:A0v nn (N.starts now (N.sb.take j)):=by
  have:=A0v.starts (N.sb.take j) N hK (λx hx=>ξeb hK x (List.mem_of_mem_take hx));rwa [hnw]at this
 obtain⟨_,i,hi,e,hs⟩:=hK.sb N.sb[j] (List.getElem_mem hj);obtain⟨t,ht⟩:=Option.isSome_iff_exists.1 hs;have h2:=hK.nw.2;have ah:(N.sb.take j).length<=20:=by rw[List.length_take];have:=hK.si.len;omega
 have C:=ξaj nn n b i oj Pj _ t N.sb[j].1 N.sb[j].2 now (wx.drewN k) hn (g1.below (below_drewN' (Ξp _ _))) ae (by rw[a4];exact List.getElem_mem hj) hi e (by rw[a3];exact ht) hw (by have:=ae.pn.2;omega) (by omega) (by omega);rw[ξ8O hj,<-g2];refine C.mono ?_;rintro e' w' ⟨rfl,o',P',q1,q2,q3,q4,q5⟩;have hc:Chg oj (mine n) wx w':=(Chg.of_below (below_drewN' (Ξp _ _)) oj _).trans' q5;refine⟨rfl,ξ0 ⟨o',P',?_,λx=>(q2 x).trans (g2 x),?_,g4.trans hc g3,?_,?_⟩⟩
 ·rw[<-List.take_append_getElem hj,ξ3T];exact q1
 ·exact g3.trans (λk' hk'=>q4 k' hk') g4.size
 ·obtain⟨bs,r1,r2,r3⟩:=hc;exact g5.only r1 (λad e hk=>by have h1:=g6 ad e;have h3:(oj ad.block).n=n:=r2 _ hk;omega)
 ·intro ad e;obtain⟨rb,e',ai⟩:=g5 0 (by rw[ξL];omega);rw[q4 _ (by rw[e]at e';cases e';exact Ξq wx ⟨rb,0,none⟩ ai)];exact g6 ad e
theorem ξbw{sm m:Nat}{D:DataW Value}{X:List Int}{g:Int->Nat}(hown:w.ownsMap prog 3 ptR sm m D)(hS:SM D X g)(hx:x∈X)(hw:(Lit.int .i64 x).wf=true) :
 (Instr.lookup 152 (.map (some sm)) (.int .i64 x) true).run prog w=.ok (.tuple #[.pointer (some ⟨g x,0,none⟩),.bool true]) w:=by
 obtain⟨v',ps,ah,hr⟩:=hown.look_ok A09 underlying152 (A7l w) (ξ6M none) (A05 hw);have he:D.atKey (GM.key x) (.held (.pointer none))=.held (.pointer (some ⟨g x,0,none⟩)):=hS.elems x hx _;have hh:Maps.has D (GM.key x)=true:=(hS.keys (GM.key x)).2 ⟨lk x,Ξi.2 ⟨x,hx,rfl⟩,rfl⟩;rw[he]at hr;have e:=ξ8q hr;simp only[Prod.mk.injEq,DataW.held.injEq]at e;have ae:(Instr.lookup 152 (.map (some sm)) (.int .i64 x) true).run prog w=.ok (.tuple #[v',.bool (Maps.has D (GM.key x))]) w:=ah;rw[ae,hh,<-e.1]
def away(o:Nat->Tg)(gb:Option Nat):Nat->Tg:=λk=>if gb=some k then ξ2 else o k
theorem ξgg{k:Nat}(h:(o k).n=0):(away o gb k).n=0:=by
 unfold away;split
 ·rfl
 ·exact h
theorem ξo.A68{v:Value}{L:List Nat}(h:ξo w o v L)(gb:Option Nat):ξo w (away o gb) v L:=by
 obtain⟨a,m,c,e,hA,hF⟩:=h;exact⟨a,m,c,e,hA,λh0 ad e'=>ξgg (hF h0 ad e')⟩
theorem NAt.A68(h:NAt w o n b P N)(hn:n≠0)(hgb:∀k,gb=some k->o k=⟨n,4,x⟩)(hx:∀s,(x,s)∈N.sb->∀k,gb=some k->k∉ξ6 (P.sp x)):NAt w (away o gb) n b P N:=by
 have keep:∀k,o k≠⟨n,4,x⟩->away o gb k=o k:=by
  intro k hk;unfold away;split
  ·rename_i e;exact absurd (hgb k e) hk
  ·rfl
 have own:∀c j bs,(⟨n,c,j⟩:Tg)≠⟨n,4,x⟩->Own o ⟨n,c,j⟩ bs->Own (away o gb) ⟨n,c,j⟩ bs:=λc j bs hne ho k hk=>by rw[keep k (by rw[ho k hk];exact hne)];exact ho k hk
 refine⟨h.box,by rw[keep b (by rw[h.tag];simp)];exact h.tag,?_,h.sbm,by rw[keep P.sm (by rw[h.smt];simp)];exact h.smt,?_,h.pul,own _ _ _ (by simp) h.put,?_,own _ _ _ (by simp) h.ltt⟩
 ·intro i hi t ht;obtain⟨q1,q2⟩:=h.trs i hi t ht;exact⟨q1,own _ _ _ (by simp) q2⟩
 ·intro y hy;obtain⟨q1,q2⟩:=h.sbs y hy;refine⟨⟨q1.box,q1.ord,q1.lay,q1.out,?_⟩,?_⟩
  ·obtain⟨X,r1,r2,r3⟩:=q1.got;exact⟨X,r1,r2,λz hz=>(r3 z hz).A68 gb⟩
  ·by_cases e:y.1=x
   ·intro k hk;rw[e]at hk q2 ⊢;have ae:gb≠some k:=λhg=>hx y.2 (by rw[<-e];exact hy) k hg hk;unfold away;rw[if_neg ae];exact q2 k hk
   ·exact own _ _ _ (by simp[e]) q2
 ·obtain⟨X,r1,r2,r3⟩:=h.ltr;exact⟨X,r1,r2,λz hz=>⟨(r3 z hz).1.A68 gb,(r3 z hz).2⟩⟩
theorem ξfy(h:∀k,gb=some k->o k=⟨n,4,x⟩)(k:Nat):away o gb k=o k∨((o k).n=n/\away o gb k=ξ2):=by
 unfold away;by_cases c:gb=some k
 ·rw[if_pos c];exact .inr ⟨by rw[h k c],rfl⟩
 ·rw[if_neg c];exact .inl rfl
def Gave(w w':World)(o:Nat->Tg)(n b:Nat)(N:Nd)(lv:Value)(G:List Pk):Prop:=∃o' P,NAt w' o' n b P N/\ξO w' o' lv G/\Own o' ξ2 lv.ownBlock.toList/\(∀k,o' k=o k∨((o k).n=n/\o' k=ξ2))/\Chg o (mine n) w w'
theorem ξbI(n b:Nat)(o:Nat->Tg)(P:NP)(N:Nd)(x:Int)(s:Sb)(A B:List (Int×Sb))(w:World)(hn:n≠0)(hN:NAt w o n b P N)(hs:N.sb=A++(x,s)::B)(hI:A2v N.sb N.ls) :
 Calls prog 49 #[.pointer (some ⟨b,0,none⟩),.int .i64 x] w λe w'=>∃a c,e=.returned (.tuple #[.slice a s.got.length c,.nilIface])/\Gave w w' o n b { N with sb:=A++(x,{ s with got:=[] })::B } (.slice a s.got.length c) s.got:=by
 have ae:(x,s)∈N.sb:=by rw[hs];simp
 obtain⟨k1,k2⟩:=hN.sbs (x,s) ae;have au:=ξJ (y:=x) (by have:=hI.mem (x,s) ae;simp only at this;omega) (by have:=hI.mem (x,s) ae;have:=hI.ls1;simp only at *;omega);obtain⟨D,ai,hS⟩:=hN.sbm;have hl:=ξbw ai hS (x:=x) (Ξi.2 ⟨(x,s),ae,rfl⟩) au;have c10:=hN.cells.2.2.1;have c5:w.cell? ⟨(P.sp x).s,5,none⟩=some (P.sp x).gv:=by simp[World.cell?,k1.box]
 have f5:w.frozen? ⟨(P.sp x).s,5,none⟩=false:=by simp[World.frozen?,k1.box]
 obtain⟨Y,y1,y2,y3⟩:=k1.got;have ah:s.got.length=Y.length:=by rw[<-y1,Ξm]
 obtain⟨ga,gc,aj⟩:∃a c,(P.sp x).gv=.slice a s.got.length c:=by
  rcases y2.2 with⟨e,h0⟩|⟨g,cap,cur,e,_⟩
  ·exact⟨none,0,by rw[e,ah,h0]⟩
  ·exact⟨_,cap,by rw[e,ah]⟩
 have HG:Hid (Gave w (w.setCell ⟨(P.sp x).s,5,none⟩ (.slice none 0 0)) o n b { N with sb:=A++(x,{ s with got:=[] })::B } (.slice ga s.got.length gc) s.got):=by
  refine ξ0 ?_;have q:=k1.sep;have ho:Only [(P.sp x).s] w (w.setCell ⟨(P.sp x).s,5,none⟩ (.slice none 0 0)):=(Only.refl _ _).setCell (by simp) _;have am:∀k∈[(P.sp x).s],k∈ξ6 (P.sp x):=by intro k hk;simp at hk;rw[hk];simp[ξ6]
  have hc:Chg o (λg=>g=⟨n,4,x⟩) w (w.setCell ⟨(P.sp x).s,5,none⟩ (.slice none 0 0)):=ξ1C ho k1 k2 am;have nb:=(k1.nob.sub am).old;obtain⟨M',eM,hM⟩:=k1.ord;have ha:A1q (w.setCell ⟨(P.sp x).s,5,none⟩ (.slice none 0 0)) o { P.sp x with gv:=.slice none 0 0 } { s with got:=[] }:=by
   refine⟨heap_setCell_same w _ 5 _ _ _ k1.box,⟨M',eM,hM.only ho (by simp;exact λe=>q.so e.symm) (by simp;exact λe=>q.sm e.symm) nb⟩,k1.lay.only ho (by simp;exact λe=>q.sl e.symm),k1.out.only ho (by simp;exact λe=>q.su e.symm),ξO.nil _ _⟩
  have h1:=hN.sub hn hs hI.ris hc (Ext.refl _ _) (Q:={ P.sp x with gv:=.slice none 0 0 }) rfl ha (λk hk=>k2 k (by
   simp only[ξ6,Ξf,Value.ownBlock,Option.mem_toList]at hk ⊢;rcases hk with e|e|e|e|e|e
   ·exact .inl e
   ·exact .inr (.inl e)
   ·exact .inr (.inr (.inl e))
   ·exact .inr (.inr (.inr (.inl e)))
   ·exact .inr (.inr (.inr (.inr (.inl e))))
   ·simp at e))
  have aw:∀k,(P.sp x).gv.ownBlock=some k->o k=⟨n,4,x⟩:=λk hk=>k2 k (by simp only[ξ6,Ξf];simp[hk]);refine⟨away o (P.sp x).gv.ownBlock,_,h1.A68 hn aw ?_,?_,?_,λk=>ξfy aw k,ξx hc⟩
  ·intro s' _ k hk hm;have:=q.gv k hk;simp only[A32,if_pos,ξ6,Ξf,Value.ownBlock,Option.mem_toList]at hm;rcases hm with e|e|e|e|e|e
   ·exact this.1 e
   ·exact this.2.1 e
   ·exact this.2.2.1 e
   ·exact this.2.2.2.1 e
   ·exact this.2.2.2.2 e
   ·simp at e
  ·rw[<-aj];exact⟨Y,y1,ho.owns y2 (λk hk=>by simp;exact(q.gv k hk).1),λz hz=>((y3 z hz).own ho (ξ1g k2 hn am) (Ext.refl _ _)).A68 _⟩
  ·rw[<-aj];intro k hk;unfold away;rw[if_pos (by simpa using hk)]
 rw[aj]at c5;obtain⟨sp,ax⟩:=nm ((P.sp x).s);rw[ax]at hl c5 f5 HG;obtain⟨gl,aq⟩:=nm s.got.length;rw[aq]at c5 HG;rw[aq];clear hN hs hI ae k1 k2 au ai hS y1 y2 y3 ah aj ax aq;go_enter func49,ntmps49;go_wp2_with fail
 go_ret2;exact⟨ga,gc,rfl,HG.out⟩
def B0r(w w':World)(o:Nat->Tg)(n b:Nat)(N:Nd)(e:Ending):Prop:=
 ∃lv o' P,e=.returned lv/\NAt w' o' n b P { N with lt:=[] }/\ξN w' o' lv N.lt/\Own o' ξ2 lv.ownBlock.toList/\(∀k,o' k=o k∨((o k).n=n/\o' k=ξ2))/\Chg o (mine n) w w'
theorem ξ9A(n b:Nat)(o:Nat->Tg)(P:NP)(N:Nd)(w:World)(hn:n≠0)(h:NAt w o n b P N) :
 Calls prog 94 #[.pointer (some ⟨b,0,none⟩)] w λe w'=>B0r w w' o n b N e:=by
 have c13:=h.cells.2.2.2.2.2;have aq:=h.free 13;have HP:Hid (B0r w (w.setCell ⟨b,13,none⟩ (.slice none 0 0)) o n b N (.returned P.lv)):=by
  have hg:=h.A53 13 (.slice none 0 0);have h0:∀g:Tg,g=⟨n,0,0⟩->g.n≠0:=by rintro g rfl;exact hn
  have h1:=h.A5f hn (ξN.nil w o) (by intro k hk;simp[Value.ownBlock]at hk);have hl:=h.ltr.chg hg h.ltt (by simp) h0 (Ext.refl _ _);have aj:∀k,k∈P.lv.ownBlock.toList->o k=⟨n,1,0⟩:=h.ltt
  let o':Nat->Tg:=λk=>if k∈P.lv.ownBlock.toList then ξ2 else o k
  have ae:∀k,o k≠⟨n,1,0⟩->o' k=o k:=λk hk=>if_neg (λhm=>hk (aj k hm));have ai:∀g bs,g≠⟨n,1,0⟩->Own o g bs->Own o' g bs:=λg bs hgn ho k hk=>(ae k (by rw[ho k hk];exact hgn)).trans (ho k hk);have ah:∀W v L,ξo W o v L->ξo W o' v L:=by
   rintro W v L ⟨a,m,c,rfl,hA,hF⟩;refine⟨a,m,c,rfl,hA,λhm ad e=>?_⟩;have:=hF hm ad e;rw[ae _ (by intro hx;rw[hx]at this;exact hn this)];exact this
  refine⟨P.lv,o',_,rfl,⟨h1.box,?_,?_,h1.sbm,?_,?_,h1.pul,ai _ _ (by simp) h1.put,ξN.nil _ _,by intro k hk;simp[Value.ownBlock]at hk⟩,?_,?_,?_,ξx hg⟩
  ·rw[ae b (by rw[h.tag];simp)];exact h1.tag
  ·intro i hi t ht;obtain⟨q1,q2⟩:=h1.trs i hi t ht;exact⟨q1,ai _ _ (by simp) q2⟩
  ·rw[ae P.sm (by rw[h.smt];simp)];exact h1.smt
  ·intro x hx;obtain⟨q1,q2⟩:=h1.sbs x hx;refine⟨⟨q1.box,q1.ord,q1.lay,q1.out,?_⟩,ai _ _ (by simp) q2⟩;obtain⟨X,r1,r2,r3⟩:=q1.got;exact⟨X,r1,r2,λy hy=>ah _ _ _ (r3 y hy)⟩
  ·obtain⟨X,r1,r2,r3⟩:=hl;exact⟨X,r1,r2,λy hy=>⟨ah _ _ _ (r3 y hy).1,(r3 y hy).2⟩⟩
  ·intro k hk;exact if_pos hk
  ·intro k;by_cases hm:k∈P.lv.ownBlock.toList
   ·exact .inr ⟨by rw[aj k hm],if_pos hm⟩
   ·exact .inl (if_neg hm)
 obtain⟨X,_,hr,_⟩:=h.ltr;obtain⟨la,ln,lc,am⟩:∃a m c,P.lv=.slice a m c:=by
  rcases hr.2 with⟨e,_⟩|⟨g,cap,cur,e,_⟩
  ·exact⟨_,_,_,e⟩
  ·exact⟨_,_,_,e⟩
 rw[am]at c13 HP;clear h hr am;go_enter func94,ntmps94;go_wp2_with fail
 go_ret;exact HP.out
end Go.Proofs.YtpiamlgmadnepaaGreat.ND
