/-
 What the proof needs.
-/
import Derived.Test.YtpiamlgmadnepaaGreatGenAll
open Go.Proofs.Tryz
set_option linter.unusedVariables false
set_option maxHeartbeats 4000000
set_option maxRecDepth 100000
namespace Go.Proofs.YtpiamlgmadnepaaGreat.ND
open ChangeShapes WideShapes ChangeAt RowKit Maps Mem NO
variable {f:Sb->Sb}{l:List (Int×Sb)}{X:List Int}{j n b:Nat}{w wx:World}{o:Nat->Tg}{P:NP}{N:Nd}{ra:Option Addr}
theorem extG{w1 w2:World}{o0 oj:Nat->Tg}{S:Tg->Prop}(h:Ext w2 o0 oj)(hc:Chg o0 S w1 w2):Ext w1 o0 oj:=λk hk=>h k (by have:=hc.size;omega)
def stg(f:Sb->Sb)(Y:List Int)(l:List (Int×Sb)):List (Int×Sb):=l.map λx=>if x.1∈Y then(x.1,f x.2)else x
theorem ξ54(f:Sb->Sb)(l:List (Int×Sb)):stg f [] l=l:=by
 unfold stg;simp
theorem ξ8m(f:Sb->Sb)(Y:List Int)(l:List (Int×Sb)):ids (stg f Y l)=ids l:=by
 unfold ids stg;rw[List.map_map];refine List.map_congr_left λx _=>?_;show(if x.1∈Y then(x.1,f x.2)else x).1=x.1;split<;>rfl
theorem ξ5r{Y:List Int}(hr:(ids l).Pairwise λa b=>a<b){x:Int}{s:Sb}(hx:(x,s)∈l)(hY:x∉Y):∃A B,stg f Y l=A++(x,s)::B/\stg f (Y++[x]) l=A++(x,f s)::B:=by
 obtain⟨A,B,rfl⟩:=List.append_of_mem hx;have ae:(ids A++x::ids B).Pairwise λa b=>a<b:=by
  have:=hr;unfold ids at this ⊢;rwa [List.map_append,List.map_cons]at this
 obtain⟨_,h2,h3⟩:=List.pairwise_append.1 ae;have hA:∀y∈A,y.1≠x:=λy hy e=>by
  have:=h3 y.1 (Ξi.2 ⟨y,hy,rfl⟩) x (by simp);omega
 have hB:∀y∈B,y.1≠x:=λy hy e=>by
  have:=(List.pairwise_cons.1 h2).1 y.1 (Ξi.2 ⟨y,hy,rfl⟩);omega
 have same:∀C:List (Int×Sb),(∀y∈C,y.1≠x)->stg f (Y++[x]) C=stg f Y C:=by
  intro C hC;refine List.map_congr_left λy hy=>?_;have:=hC y hy;simp[this]
 refine⟨stg f Y A,stg f Y B,?_,?_⟩
 ·unfold stg;rw[List.map_append,List.map_cons,if_neg hY]
 ·rw[show stg f (Y++[x]) (A++(x,s)::B)=stg f (Y++[x]) A++(if x∈Y++[x]then(x,f s)else(x,s))::stg f (Y++[x]) B by unfold stg;rw[List.map_append,List.map_cons],same A hA,same B hB,if_pos (by simp)]
theorem ξ8l{tk:Int}(hr:(ids l).Pairwise λa b=>a<b):stg f (fil (A2u l) tk (ids l)) l=A10 tk f l:=by
 unfold stg A10;refine List.map_congr_left λx hx=>?_;have e:=ξ1I hr x hx;have hm:x.1∈fil (A2u l) tk (ids l)↔x.2.tk=tk:=by
  unfold fil;rw[Ξj,e];simp only[decide_eq_true_eq];exact⟨λh=>h.2,λh=>⟨Ξi.2 ⟨x,hx,rfl⟩,h⟩⟩
 by_cases c:x.2.tk=tk
 ·rw[if_pos (hm.2 c),if_pos c]
 ·rw[if_neg (λh=>c (hm.1 h)),if_neg c]
theorem ξev:stg f (ids l) l=l.map λx=>(x.1,f x.2):=by
 unfold stg;refine List.map_congr_left λx hx=>?_;rw[if_pos (show x.1∈ids l from Ξi.2 ⟨x,hx,rfl⟩)]
theorem ξ1Z(hj:j<X.length):X.take (j+1)=X.take j++[X.getD j 0]:=by
 have e:X.getD j 0=X[j]:=by rw[Ξa,Ξd hj];rfl
 rw[e,List.take_append_getElem hj]
theorem ξ5H(hr:X.Pairwise λa b=>a<b)(hj:j<X.length):X.getD j 0∉X.take j:=by
 intro hm;have h:(X.take (j+1)).Pairwise λa b=>a<b:=hr.sublist (List.take_sublist _ _);rw[ξ1Z hj]at h;have:=(List.pairwise_append.1 h).2.2 _ hm _ (Ξg.2 rfl);omega
def A3p(w wx:World)(o:Nat->Tg)(n b:Nat)(P:NP)(N:Nd)(X:List Int)(f:Sb->Sb)(ra:Option Addr)(j:Nat):Prop:=∃oj Pj,NAt wx oj n b Pj { N with sb:=stg f (X.take j) N.sb }/\(∀x,(Pj.sp x).s=(P.sp x).s)/\Ext w o oj/\Chg o (mine n) w wx/\A04 wx ra (λx=>(P.sp x).s) X/\∀ad,ra=some ad->(oj ad.block).n=0
theorem A3p.chg(h:A3p w wx o n b P N X f ra j):Chg o (mine n) w wx:=by
 obtain⟨_,_,_,_,_,h,_⟩:=h;exact h
theorem A3p.row(h:A3p w wx o n b P N X f ra j)(hn:0<X.length):∃rb,ra=some ⟨rb,0,none⟩/\∀j,j<X.length->wx.cell? ⟨rb,j,none⟩=some (.pointer (some ⟨(P.sp (X.getD j 0)).s,0,none⟩)):=by
 obtain⟨_,_,_,_,_,_,h,_⟩:=h;exact h.at hn
theorem A3p.step{F:Nat}{mk:Value->Array Value}(h:A3p w wx o n b P N X f ra j)(hn:n≠0)(hris:(ids N.sb).Pairwise λa b=>a<b)(hXs:X.Sublist (ids N.sb))(hj:j<X.length)
 (hC:∀(x:Int) (oj:Nat->Tg) (Q:SP) (s:Sb),(x,s)∈N.sb->A1q wx oj Q s->Own oj ⟨n,4,x⟩ (ξ6 Q)->Calls prog F (mk (.pointer (some ⟨Q.s,0,none⟩))) wx λe w'=>e=.returned (.tuple #[])/\SbS wx w' oj n x Q (f s)) :
 Calls prog F (mk (.pointer (some ⟨(P.sp (X.getD j 0)).s,0,none⟩))) wx λe w'=>e=.returned (.tuple #[])/\Hid (A3p w w' o n b P N X f ra (j+1)):=by
 obtain⟨oj,Pj,g1,g2,g3,g4,g5,g6⟩:=h;have e2:=ξ1Z hj;have ae:=ξ5H (hris.sublist hXs) hj;have ah:X.getD j 0∈X:=by rw[Ξa,Ξd hj];exact List.getElem_mem hj
 obtain⟨x,hx⟩:=nm (X.getD j 0);rw[hx]at e2 ae ah;rw[hx];obtain⟨y,hy,aj⟩:=Ξi.1 (hXs.subset ah);obtain⟨x',s⟩:=y;obtain rfl:x'=x:=aj;obtain⟨A,B,q1,q2⟩:=ξ5r (f:=f) hris hy ae;have ai:({ N with sb:=stg f (X.take j) N.sb }:Nd).sb=A++(x',s)::B:=q1;obtain⟨k1,k2⟩:=g1.sbs (x',s) (by rw[ai];simp);rw[<-g2 x'];refine(hC x' oj (Pj.sp x') s hy k1 k2).mono ?_;rintro e w' ⟨rfl,o',Q,r1,r2,r3,r4,r5⟩;refine⟨rfl,ξ0 ⟨o',{ Pj with sp:=A32 Pj.sp x' Q },?_,?_,?_,g4.trans (ξx r5) g3,?_,?_⟩⟩
 ·have:=g1.sub hn ai (by rw[show({ N with sb:=stg f (X.take j) N.sb }:Nd).sb=stg f (X.take j) N.sb from rfl,ξ8m];exact hris) r5 r4 r2 r1 r3;rw[e2,q2];exact this
 ·intro z;show(A32 Pj.sp x' Q z).s=_;unfold A32;split
  ·rename_i e;rw[e,r2];exact g2 x'
  ·exact g2 z
 ·exact g3.trans r4 g4.size
 ·obtain⟨bs,q1,q2,q3⟩:=r5;exact g5.only q1 (λad e hk=>by have h1:=g6 ad e;have h2:=q2 _ hk;rw[h2]at h1;exact hn h1)
 ·intro ad e;obtain⟨rb,e',hc⟩:=g5 0 (by omega);rw[r4 _ (by rw[e]at e';cases e';exact Ξq wx ⟨rb,0,none⟩ hc)];exact g6 ad e
theorem ξ6u(n b i:Nat)(o:Nat->Tg)(P:NP)(N:Nd)(tr:Tr)(s t l q og h now:Int)(st:Bool)(a:Option Addr)(m cap:Nat)(L:List Nat)(w:World)(hn:n≠0)(hN:NAt w o n b P N)(hi:i<8)(ht:N.tr i=some tr)(hG:GM.Inv 3 3 tr.gn tr.gT tr.gM)(hR:RM.Inv 64 tr.rT tr.rM)(hA:Arg w a m L)(hno:a=none->m=0/\cap=0)(hf:PM.fault s t l q m=0)(hF:0<m->∀ad,a=some ad->(o ad.block).n=0)(nw:Int)(hsb:∀x∈N.sb,A1k nw x.2/\OM.tf x.2.on now=0)(hls:A2v N.sb N.ls)(hl:N.lt.length+tr.kids.length<=1000000) :
 Calls prog 92 #[.pointer (some ⟨b,0,none⟩),.pointer (some ⟨(P.tp i).p,0,none⟩),.agg #[.int .i64 s,.int .i64 t,.int .i64 l,.int .i64 q,.bool st,.slice a m cap],.agg #[.int .i64 og,.int .i64 h],.int .i64 now] w λe w'=>e=.returned (.tuple #[])/\Done w w' o n b (N.A0t i tr ⟨s,t,l,q,st,L,.slice a m cap⟩ og h now):=by
 obtain⟨W0,aF⟩:=nm ((w.alloc (.cells #[.int .i64 s,.int .i64 t,.int .i64 l,.int .i64 q,.bool st,.slice a m cap] 38)).alloc (.cells #[.int .i64 og,.int .i64 h] 177));have aU:Below w.heap.size w W0:=by rw[<-aF];exact A4k w _ _
 have aV:W0.heap[w.heap.size+1]?=some (.cells #[.int .i64 og,.int .i64 h] 177 (0,0)):=by
  rw[<-aF];have:=heap_alloc_new (w.alloc (.cells #[.int .i64 s,.int .i64 t,.int .i64 l,.int .i64 q,.bool st,.slice a m cap] 38)) (.cells #[.int .i64 og,.int .i64 h] 177);simpa using this
 have aW:W0.heap[w.heap.size]?=some (.cells #[.int .i64 s,.int .i64 t,.int .i64 l,.int .i64 q,.bool st,.slice a m cap] 38 (0,0)):=by
  rw[<-aF];exact(Below.heap_alloc _ _ _ (by simp)).trans (heap_alloc_new w _)
 obtain⟨o0,aX⟩:=nm (grow o w ξ2);have aY:Ext w o o0:=by rw[<-aX];exact ξ3 o w ξ2
 have cf:(o0 w.heap.size).n=0:=by rw[<-aX,ξg (Ξo _)]
 have cj:(o0 (w.heap.size+1)).n=0:=by rw[<-aX,ξg (by omega)]
 have bA:NAt W0 o0 n b P N:=hN.chg (S:=λ_=>False) (Chg.of_below aU _ _) (λg hg=>hg.elim) aY;have ay:=(bA.trs i hi tr ht).1;have az:∀(S:Tg->Prop),(∀g,S g->g.n≠0)->Far o0 S a m:=by
  intro S hS hm ad e hs;obtain⟨b',o1,e',hc⟩:=hA.1.2 0 (by have:=hA.2.1;omega);have cY:=Ξq w ⟨b',o1+0,none⟩ hc;have hz:=hF hm ad e;rw[e]at e';cases e';rw[aY _ cY]at hs;exact hS _ hs hz
 have cu:=hA.below aU
 -- what the boxes read as wherever they are as they were
 have aG:∀W:World,W.heap[w.heap.size]?=W0.heap[w.heap.size]?->W.cell? ⟨w.heap.size,0,none⟩=some (.int .i64 s)/\W.cell? ⟨w.heap.size,1,none⟩=some (.int .i64 t)/\W.cell? ⟨w.heap.size,2,none⟩=some (.int .i64 l)/\W.cell? ⟨w.heap.size,3,none⟩=some (.int .i64 q)/\W.cell? ⟨w.heap.size,4,none⟩=some (.bool st)/\W.cell? ⟨w.heap.size,5,none⟩=some (.slice a m cap):=by
  intro W e;have:=e.trans aW;refine⟨?_,?_,?_,?_,?_,?_⟩<;>simp[World.cell?,this]
 have aH:∀W:World,W.heap[w.heap.size+1]?=W0.heap[w.heap.size+1]?->W.cell? ⟨w.heap.size+1,0,none⟩=some (.int .i64 og)/\W.cell? ⟨w.heap.size+1,1,none⟩=some (.int .i64 h):=by
  intro W e;have:=e.trans aV;constructor<;>simp[World.cell?,this]
 have aw:∀W,Chg o0 (mine n) W0 W->W.heap[w.heap.size]?=W0.heap[w.heap.size]?/\W.heap[w.heap.size+1]?=W0.heap[w.heap.size+1]?/\Arg W a m L:=by
  intro W hc;exact⟨(ξ1E hn hc aW cf).trans aW.symm,(ξ1E hn hc aV cj).trans aV.symm,hc.arg cu (az _ (by intro g hg;unfold mine at hg;omega))⟩
 have CN:=ξ0 (ξ2F (P.tp i).p (P.tp i).r (P.tp i).rm tr.rT tr.rM s W0 (by simp[World.cell?,ay.box]) ay.rng hR (by obtain⟨_,_,_,_,rfl,_,_,_,h1,_⟩:=PM.ξs hf;omega) (by obtain⟨_,_,_,_,rfl,_,_,_,h1,_⟩:=PM.ξs hf;omega));obtain⟨y,hy⟩:=nm (num tr.rT s);rw[hy]at CN;have CH:=ξ0 (Gaps.ξ9U (P.tp i).g (P.tp i).gm 3 3 tr.gn tr.gT y now tr.gM (P.tp i).gv tr.gG W0 ay.gap hG);have c4:W0.cell? ⟨(P.tp i).p,4,none⟩=some (.pointer (some ⟨(P.tp i).g,0,none⟩)):=by simp[World.cell?,ay.box]
 -- behind Hear
 have HH:Hid (∀w1,Gaps.ξ7 w1 (P.tp i).g (P.tp i).gm 3 3 (GM.hN tr.gn tr.gT tr.gM y now) (GM.hU tr.gn tr.gT tr.gM y now) (GM.hL tr.gn tr.gT tr.gM y now) (P.tp i).gv tr.gG->Only [(P.tp i).g,(P.tp i).gm] W0 w1->NAt w1 o0 n b P { N with tr:=A0f N.tr i (tr.heard y now) }/\Chg o0 (mine n) W0 w1):=by
  refine ξ0 ?_;intro w1 g1 g2;have:=bA.A4l hn hi ht g2 (by intro k hk;simp at hk;rcases hk with rfl|rfl<;>simp[A0x,Gaps.A01]) (nobT ay) (ay.heard g1 g2) rfl;exact⟨this.1,ξx this.2⟩
 obtain⟨R,ae⟩:=nm (N.A0t i tr ⟨s,t,l,q,st,L,.slice a m cap⟩ og h now);rw[ae];unfold Nd.A0t at ae;simp only[hy]at ae;have aI:=ξ0 aG;have bB:=ξ0 aH;have HSt:=ξ0 aw;have HW:=ξ0 aF;have bC:=ξ0 aU;have aZ:=ξ0 aY;have cZ:=ξ0 hR;have dd:=ξ0 az;have bD:=ξ0 hno;have cw:=ξ0 hf;have df:=ξ0 hsb;have dh:=ξ0 hls;have HL:=ξ0 hl;obtain⟨pb,di⟩:=nm w.heap.size;rw[di]at aI bB HSt;obtain⟨x0,x1,x2,x3,x4,x5⟩:=aI.out W0 rfl;obtain⟨pp,bh⟩:=nm ((P.tp i).p);have bi:=ξ0 bh;rw[bh]at CN c4;rw[bh];obtain⟨gb,bE⟩:=nm ((P.tp i).g);rw[bE]at CH c4;have cy:=ξ0 bE;obtain⟨hb,aA⟩:=nm (GM.hB tr.gn tr.gT tr.gM y now);obtain⟨fe,bF⟩:=nm (GM.hf tr.gn tr.gT tr.gM y now);rw[aA,bF]at CH;rw[aA]at ae;have dm:Hid (hb=true->fe=0):=by
  refine ξ0 ?_;intro e;rw[e]at aA;unfold GM.hB at aA;simp at aA;rw[<-bF];exact aA.1
 have aJ:=ξ0 ae;have q1:=ξq fe;have q2:=ξp fe;clear hN hG hR hA hno hf hF hsb hls hl aF aU aV aW aX aY cf cj bA ay az cu aG aH aw hy bh bE aA bF ae ht;go_enter func92,ntmps92;go_upto_region 1 with fail
 rw[HW.out];go_wp2_with fail;refine CN.out.mono ?_;rintro e w0 ⟨rfl,dr⟩;obtain rfl:W0=w0:=dr.symm;go_wp2_with fail;refine CH.out.mono ?_;rintro e w1 ⟨rfl,cz,c9⟩;have cA:=HH.out w1 (by rw[cy.out];exact cz) (by rw[cy.out];exact c9);have aC:=ξ0 cA;rw[show Gaps.A0a fe=A0a fe from rfl];clear cz c9 cA HH CH CN;cases hb with
 | false=>
   have HD:Hid (Done w w1 o n b R):=by
    rw[<-aJ.out];exact ξ0 ⟨o0,P,aC.out.1,aZ.out,(Chg.of_below bC.out _ _).trans aC.out.2 aZ.out⟩
   by_cases hp0:fe=0
   ·have d0:decide (fe=0)=true:=by simpa using hp0
    clear hp0;go_wp2_with fail
    (try simp only[Exit.inBlock,Exit.then])
    refine bodyPost_ret (results_none rfl _ _ _) rfl ?_;exact⟨rfl,HD.out⟩
   ·have d0:decide (fe=0)=false:=by simpa using hp0
    clear hp0;go_wp2_with fail
    (try simp only[Exit.inBlock,Exit.then])
    refine bodyPost_ret (results_none rfl _ _ _) rfl ?_;exact⟨rfl,HD.out⟩
 | true=>
   have d0:decide (fe=0)=true:=by simpa using dm.out rfl
   obtain⟨aL,aM,cB⟩:=HSt.out w1 aC.out.2;obtain⟨z0,z1,z2,z3,z4,z5⟩:=aI.out w1 aL;obtain⟨v0,v1⟩:=bB.out w1 aM;have bG:=(aC.out.1.trs i hi (tr.heard y now) (ξF _ _ _)).1;have cC:=(aC.out.1.trs i hi (tr.heard y now) (ξF _ _ _)).2;have bH:=ξ0 (ξ27 (P.tp i) (tr.heard y now) y s t l q st a m cap L og h w1 bG cZ.out cB bD.out cw.out (by
    intro ad e hm aO;have hz:=dd.out (λg=>g=⟨n,3,i⟩) (by rintro g rfl;exact hn) hm ad e;exact hz (cC ad.block (by simp only[Ξf,List.not_mem_nil,or_false]at aO;simp only[A0x,Ξf];rcases aO with h|h|h<;>simp[h]))))
   have HK:Hid (∀w2,A1h w2 (P.tp i) ((tr.heard y now).keep y ⟨s,t,l,q,st,L,.slice a m cap⟩ (og,h))->Only [(P.tp i).r,(P.tp i).rm,(P.tp i).wm] w1 w2->NAt w2 o0 n b P { N with tr:=A0f N.tr i ((tr.heard y now).keep y ⟨s,t,l,q,st,L,.slice a m cap⟩ (og,h)) }/\Chg o0 (mine n) W0 w2):=by
    refine ξ0 ?_;intro w2 g1 g2;have:=aC.out.1.A4l hn hi (ξF _ _ _) g2 (by intro k hk;simp at hk;rcases hk with rfl|rfl|rfl<;>simp[A0x]) (nobR bG) g1 (ξ8I _ _ _ _).2.2.2;rw[show({ N with tr:=A0f N.tr i (tr.heard y now) }:Nd).tr=A0f N.tr i (tr.heard y now)from rfl,ξ95]at this;exact⟨this.1,aC.out.2.trans' (ξx this.2)⟩
   rw[bi.out]at bH;clear aL aM cB bG cC x0 x1 x2 x3 x4 x5 c4;go_wp2_with fail;refine bH.out.mono ?_;rintro e w2 ⟨rfl,cD,cE⟩;have cF:=HK.out w2 cD cE;have aE:=ξ0 cF;obtain⟨T2,bI⟩:=nm ((tr.heard y now).keep y ⟨s,t,l,q,st,L,.slice a m cap⟩ (og,h));have e2:=ξ8I (tr.heard y now) y ⟨s,t,l,q,st,L,.slice a m cap⟩ (og,h);rw[bI]at e2 aE;obtain⟨cG,cH,cI,bJ⟩:=e2;obtain⟨N2,aj⟩:∃N2:Nd,{ N with tr:=A0f N.tr i T2 }=N2:=⟨_,rfl⟩;rw[aj]at aE;have bK:N2.tr i=some T2:=by rw[<-aj];exact ξF _ _ _
   have cJ:=(aE.out.1.trs i hi T2 bK).1;have c3:w2.cell? ⟨pp,3,none⟩=some (.slice (P.tp i).ka T2.kids.length (P.tp i).kc):=by rw[<-bi.out];simp[World.cell?,cJ.box]
   rw[bJ]at c3;have bj:=ξ0 (And.intro cG (And.intro cH (And.intro cI bJ)));have dt:=ξ0 bI;have am:=ξ0 aj;have bM:=ξ0 bK;obtain⟨ka,bN⟩:=nm ((P.tp i).ka);obtain⟨kc,cL⟩:=nm ((P.tp i).kc);have ax:(tr.heard y now).kids=tr.kids:=rfl;rw[ax]at c3;obtain⟨K,bq⟩:=nm tr.kids;obtain⟨kl,bu⟩:=nm K.length;rw[bN,cL,bq,bu]at c3;have du:=ξ0 bN;have bO:=ξ0 bq;have bP:=ξ0 bu;have dx:kl<=1000000:=by have:=HL.out;rw[bq,bu]at this;omega
   obtain⟨f,cM⟩:=nm (FM.A0k tr.tk og tr.ep h (pby s t l q st L));obtain⟨F,cN⟩:=nm (fby tr.tk og tr.ep h (pby s t l q st L));have bz:=ξ0 (And.intro cM cN);have d9:Hid (KSt w2 w2 o0 n b P N2 K f F 0):=by
    refine ξ0 ⟨o0,P.lv,?_,Ext.refl _ _,Chg.refl _ _ _⟩;rw[List.take_zero,ξbX,Ξu];exact aE.out.1
   clear cD cE cF bI cG cH cI bJ aj bK cJ bN cL ax bq bu cM cN HK bH z0 z1 z2 z3 z4 z5 v0 v1;go_wp2_with fail;go_loopg [47] kl (λgh x wr=>∃j:Nat,j+gh=kl/\x=.int .i64 (j:Int)/\Hid (KSt w2 wr o0 n b P N2 K f F j))
   case atStart=>exact⟨0,by omega,rfl,d9⟩
   case round=>
    obtain⟨j,dA,rfl,HS⟩:=hrel;have cO:Chg o0 (mine n) W0 wr:=by
     obtain⟨oj,lv,h1,h2,h3⟩:=HS.out;exact aE.out.2.trans' (ξ16 h3)
    have bQ:=ξ0 cO;clear cO;by_cases hj:j<kl
    ·have bR:(j:Int)<(kl:Int):=by omega
     obtain⟨aL,aM,cP⟩:=HSt.out wr bQ.out;obtain⟨z0,z1,z2,z3,z4,z5⟩:=aI.out wr aL;obtain⟨v0,v1⟩:=bB.out wr aM;obtain⟨oj,lv,h1,h2,h3⟩:=HS.out;have aP:=(h1.trs i hi T2 bM.out).1;have aq:=aP.kid;rw[bj.out.2.2.2,show(tr.heard y now).kids=tr.kids from rfl,bO.out,bP.out]at aq;rw[show(({ P with lv:=lv }:NP).tp i).ka=(P.tp i).ka from rfl,du.out]at aq;obtain⟨ba,oa,rfl,aQ⟩:=aq.at (by omega);have c0:=aQ j hj;have cQ:j<K.length:=by rw[bP.out];exact hj
     have b9:=ξ2B n b i oj { P with lv:=lv } _ T2 (K.getD j 0) s t l q og h st a m cap L wr hn h1 hi bM.out cP bD.out cw.out (by
      have g1:=ξ5W (K.take j) f F;have dB:N2.lt=N.lt:=by rw[<-am.out]
      show(N2.lt++A2o (K.take j) f F).length<=1000000;rw[Ξh,dB];have g2:(K.take j).length<=K.length:=by rw[List.length_take];omega
      have g3:=HL.out;rw[bO.out]at g3;omega)
     rw[bj.out.1,bj.out.2.1,show(tr.heard y now).tk=tr.tk from rfl,show(tr.heard y now).ep=tr.ep from rfl,bz.out.1,bz.out.2]at b9;have CS:Hid (Calls prog 124 #[.pointer (some ⟨b,0,none⟩),.int .i64 (K.getD j 0),.pointer (some ⟨pp,0,none⟩),.agg #[.int .i64 s,.int .i64 t,.int .i64 l,.int .i64 q,.bool st,.slice a m cap],.agg #[.int .i64 og,.int .i64 h]] wr λe w'=>e=.returned (.tuple #[])/\Hid (KSt w2 w' o0 n b P N2 K f F (j+1))):=by
      rw[show(({ P with lv:=lv }:NP).tp i).p=(P.tp i).p from rfl,bi.out]at b9;refine ξ0 (b9.mono ?_);rintro e w' ⟨rfl,hW⟩;exact⟨rfl,ξdj cQ h2 h3 hW⟩
     obtain⟨kx,cT⟩:=nm (K.getD j 0);rw[cT]at CS c0;clear aL aM cP h1 h2 h3 aP aq aQ cQ b9 cT;go_wp2_with fail;refine CS.out.mono ?_;rintro e w3 ⟨rfl,dC⟩;go_wp2_with fail;go_roundg (kl-(j+1))
     case measure=>omega
     case rel=>exact⟨j+1,by omega,by go_num,dC⟩
    ·have bR:¬(j:Int)<(kl:Int):=by omega
     obtain rfl:kl=j:=by omega
     obtain⟨oj,lv,h1,h2,h3⟩:=HS.out;have aP:=(h1.trs i hi T2 bM.out).1;have c0:wr.cell? ⟨pp,0,none⟩=some (.int .i64 T2.tk):=by rw[<-bi.out];simp[World.cell?,show wr.heap[(P.tp i).p]?=_ from aP.box]
     obtain⟨N3,aS⟩:∃N3:Nd,{ N2 with lt:=N2.lt++A2o (K.take kl) f F }=N3:=⟨_,rfl⟩;rw[aS]at h1;have au:N3.sb=N.sb:=by rw[<-aS,<-am.out]
     have ah:A2v N3.sb N3.ls:=by rw[au,<-aS,<-am.out];exact dh.out
     have bS:=ξ2U n b oj { P with lv:=lv } N3 (A2u N3.sb) T2.tk wr h1 ah (ξ1I ah.ris);obtain⟨X,hX⟩:=nm (fil (A2u N3.sb) T2.tk (ids N3.sb));rw[hX]at bS;have bT:X.Sublist (ids N3.sb):=by rw[<-hX];exact List.filter_sublist
     have bU:X.length<=20:=Nat.le_trans bT.length_le (by rw[ξL];exact ah.len);obtain⟨fS,bV⟩:∃fS:Sb->Sb,(λs':Sb=>s'.push y now ⟨s,t,l,q,st,L⟩)=fS:=⟨_,rfl⟩;have CU:Hid (Calls prog 125 #[.pointer (some ⟨b,0,none⟩),.int .i64 T2.tk] wr λe w'=>∃a cap,e=.returned (.slice a X.length cap)/\Hid (A3p W0 w' o0 n b P N3 X fS a 0)):=by
      refine ξ0 (bS.mono ?_);rintro e w' ⟨a',bW,rfl,dD,dE,hb⟩;refine⟨a',bW,rfl,ξ0 ⟨grow oj wr ξ2,{ P with lv:=lv },?_,λ_=>rfl,?_,bQ.out.trans' (Chg.of_below hb o0 _),dD,λad e=>ξ1G (dE ad e)⟩⟩
      ·have dG:=h1.chg (S:=λ_=>False) (Chg.of_below hb _ _) (λg hg=>hg.elim) (ξ3 oj wr ξ2);rw[List.take_zero,ξ54];exact dG
      ·exact(extG h2 aE.out.2).trans (ξ3 _ _ _) bQ.out.size
     have ai:Hid (∀wx j (hj:j<X.length) ra,A3p W0 wx o0 n b P N3 X fS ra j->Calls prog 126 #[.pointer (some ⟨(P.sp (X.getD j 0)).s,0,none⟩),.int .i64 y,.agg #[.int .i64 s,.int .i64 t,.int .i64 l,.int .i64 q,.bool st,.slice a m cap],.int .i64 now] wx λe w'=>e=.returned (.tuple #[])/\Hid (A3p W0 w' o0 n b P N3 X fS ra (j+1))):=by
      refine ξ0 ?_;intro wx j hj ra hS;have dH:=(HSt.out wx hS.chg).2.2;refine hS.step (F:=126) (mk:=λp=>#[p,.int .i64 y,.agg #[.int .i64 s,.int .i64 t,.int .i64 l,.int .i64 q,.bool st,.slice a m cap],.int .i64 now]) hn ah.ris bT hj ?_;intro x bX Q s' hm dI bY;obtain⟨k1,k2⟩:=df.out (x,s') (by rw[<-au];exact hm);obtain⟨m1,m2⟩:=k1.pushed (y:=y) (p:=⟨s,t,l,q,st,L⟩) k2;obtain⟨p1,p2,_⟩:=m1.pop m2;rw[<-bV];exact ξ7D n x bX Q s' y now s t l q st a m cap L _ wx hn dI bY k1.sbi dH bD.out k2 (ξ2o m1.oi m2) p1 p2
     have aD:Hid (∀wx ra,A3p W0 wx o0 n b P N3 X fS ra X.length->Done w wx o n b R):=by
      refine ξ0 ?_;rintro wx ra ⟨bX,Pj,g1,g2,g3,g4,g5,g6⟩;refine⟨bX,Pj,?_,λk hk=>by rw[g3 k (by have:=bC.out.size;omega)];exact aZ.out k hk,(Chg.of_below bC.out _ _).trans g4 aZ.out⟩;rw[List.take_length,<-hX,ξ8l ah.ris]at g1;have hR:=aJ.out;rw[if_pos trivial,dt.out]at hR;rw[<-hR];have ek:K.take kl=K:=Ξl (by rw[bP.out];exact Ξo _);have eN:({ N3 with sb:=A10 T2.tk fS N3.sb }:Nd)={ N with tr:=A0f N.tr i T2,lt:=N.lt++A2o tr.kids (FM.A0k tr.tk og tr.ep h (pby s t l q st L)) (fby tr.tk og tr.ep h (pby s t l q st L)),sb:=A10 tr.tk (λs'=>s'.push y now (ppk ⟨s,t,l,q,st,L,.slice a m cap⟩)) N.sb }:=by
       rw[au,bj.out.1,<-bV,<-aS,<-am.out,bz.out.1,bz.out.2,bO.out,ek];rfl
      rw[<-eN];exact g1
     have cU:Hid (∀wx ra j,A3p W0 wx o0 n b P N3 X fS ra j->(wx.cell? ⟨pb,0,none⟩=some (.int .i64 s)/\wx.cell? ⟨pb,1,none⟩=some (.int .i64 t)/\wx.cell? ⟨pb,2,none⟩=some (.int .i64 l)/\wx.cell? ⟨pb,3,none⟩=some (.int .i64 q)/\wx.cell? ⟨pb,4,none⟩=some (.bool st)/\wx.cell? ⟨pb,5,none⟩=some (.slice a m cap))):=by
      refine ξ0 ?_;intro wx ra j hS;exact aI.out wx (HSt.out wx hS.chg).1
     obtain⟨dL,aT⟩:=nm T2.tk;rw[aT]at CU c0;obtain⟨XL,bZ⟩:=nm X.length;rw[bZ]at CU ai aD bU;have cV:=ξ0 bZ;clear h1 h2 h3 aP au ah bS aT hX bT aS bV bZ;go_wp2_with fail;refine CU.out.mono ?_;rintro e w3 ⟨sa,sc,rfl,HD⟩;clear CU c0;go_wp2_with fail;go_loopg [65] XL (λgh z wx=>∃j:Nat,j+gh=XL/\z=.int .i64 (j:Int)/\Hid (A3p W0 wx o0 n b P N3 X fS sa j))
     case atStart=>exact⟨0,by omega,rfl,HD⟩
     case round=>
      obtain⟨j,dA,rfl,HS⟩:=hrel;by_cases hj:j<XL
      ·have bR:(j:Int)<(XL:Int):=by omega
       obtain⟨z0,z1,z2,z3,z4,z5⟩:=cU.out wr sa j HS.out;obtain⟨rb,rfl,aQ⟩:=HS.out.row (by rw[cV.out];omega);have c0:=aQ j (by rw[cV.out];exact hj);have cW:=ξ0 (ai.out wr j hj _ HS.out);obtain⟨sp,cX⟩:=nm ((P.sp (X.getD j 0)).s);rw[cX]at cW c0;clear aQ cX HS;go_wp2_with fail;refine cW.out.mono ?_;rintro e w4 ⟨rfl,dJ⟩;go_wp2_with fail;go_roundg (XL-(j+1))
       case measure=>omega
       case rel=>exact⟨j+1,by omega,by go_num,dJ⟩
      ·have bR:¬(j:Int)<(XL:Int):=by omega
       obtain rfl:j=XL:=by omega
       have dK:=ξ0 (aD.out wr sa HS.out);clear HS aD ai cU;go_wp2_with fail
       go_end0
       exact⟨rfl,dK.out⟩
theorem ξcF(n b k:Nat)(o:Nat->Tg)(P:NP)(N:Nd)(tr:Tr)(now s t l q:Int)(st:Bool)(a:Option Addr)(m cap:Nat)(L:List Nat)(w:World)(hn:n≠0)(hN:NAt w o n b P N)(hi:k<8)(ht:N.tr k=some tr)(hpa:tr.pa=-1)(hnow:GM.tf N.nw now=0)(hG:GM.Inv 3 3 tr.gn tr.gT tr.gM)(hR:RM.Inv 64 tr.rT tr.rM)(hA:Arg w a m L)(hno:a=none->m=0/\cap=0)(hf:PM.fault s t l q m=0)(hF:0<m->∀ad,a=some ad->(o ad.block).n=0)(nw0:Int)(hsb:∀x∈N.sb,A1k nw0 x.2/\OM.tf x.2.on now=0)(hls:A2v N.sb N.ls)(hl:N.lt.length+tr.kids.length<=1000000) :
 Calls prog 45 #[.pointer (some ⟨b,0,none⟩),.int .i64 ((k:Int)+1),.agg #[.int .i64 s,.int .i64 t,.int .i64 l,.int .i64 q,.bool st,.slice a m cap],.int .i64 now] w λe w'=>e=.returned .nilIface/\Done w w' o n b (({ N with nw:=now }:Nd).A0t k tr ⟨s,t,l,q,st,L,.slice a m cap⟩ N.id 1 now):=by
 obtain⟨W0,az⟩:=nm (w.alloc (.cells #[.int .i64 s,.int .i64 t,.int .i64 l,.int .i64 q,.bool st,.slice a m cap] 38));have aE:Below w.heap.size w W0:=by rw[<-az];exact(Ξp _ _).alloc (Ξo _) _
 have aF:W0.heap[w.heap.size]?=some (.cells #[.int .i64 s,.int .i64 t,.int .i64 l,.int .i64 q,.bool st,.slice a m cap] 38 (0,0)):=by
  rw[<-az];exact heap_alloc_new w _
 have CT:=ξ0 (ξk ((k:Int)+1));rw[show okT ((k:Int)+1)=true from by simp[okT];omega]at CT;have CA:=ξ0 (Gaps.ξH N.nw now W0);rw[if_pos hnow,hnow]at CA;have CC:=ξ0 (Pack.ξa s t l q st a m cap);rw[hf]at CC;have bK:wrap64 ((k:Int)+1-1)=(k:Int):=by unfold wrap64;omega
 have bM:wrap64 (k:Int)=(k:Int):=by unfold wrap64;omega
 have bN:(k:Int)<8:=by omega
 obtain⟨o0,aG⟩:=nm (grow o w ξ2);have aq:Ext w o o0:=by rw[<-aG];exact ξ3 o w ξ2
 have aV:(o0 w.heap.size).n=0:=by rw[<-aG,ξg (Ξo _)]
 have HT:Hid (∀W,Below w.heap.size w W->W.heap[w.heap.size]?=W0.heap[w.heap.size]?->Calls prog 92 #[.pointer (some ⟨b,0,none⟩),.pointer (some ⟨(P.tp k).p,0,none⟩),.agg #[.int .i64 s,.int .i64 t,.int .i64 l,.int .i64 q,.bool st,.slice a m cap],.agg #[.int .i64 N.id,.int .i64 1],.int .i64 now] (W.setCell ⟨b,0,none⟩ (.int .i64 now)).drew λe w'=>e=.returned (.tuple #[]) /\
  (w'.cell? ⟨w.heap.size,0,none⟩=some (.int .i64 s)/\w'.cell? ⟨w.heap.size,1,none⟩=some (.int .i64 t)/\w'.cell? ⟨w.heap.size,2,none⟩=some (.int .i64 l)/\w'.cell? ⟨w.heap.size,3,none⟩=some (.int .i64 q)/\w'.cell? ⟨w.heap.size,4,none⟩=some (.bool st)/\w'.cell? ⟨w.heap.size,5,none⟩=some (.slice a m cap)/\w'.cell? ⟨b,1,none⟩=some (.int .i64 N.id))/\Hid (Done w w' o n b (({ N with nw:=now }:Nd).A0t k tr ⟨s,t,l,q,st,L,.slice a m cap⟩ N.id 1 now))):=by
  refine ξ0 ?_;intro W aA bz;have aW:NAt W o0 n b P N:=hN.chg (S:=λ_=>False) (Chg.of_below aA _ _) (λg hg=>hg.elim) aq;have b9:=aW.A4u hn now;have aX:=ξx (aW.A53 0 (.int .i64 now));have bA:=b9.below ((Ξp _ _).drew);have aY:Below (W.setCell ⟨b,0,none⟩ (.int .i64 now)).heap.size (W.setCell ⟨b,0,none⟩ (.int .i64 now)) (W.setCell ⟨b,0,none⟩ (.int .i64 now)).drew:=(Ξp _ _).drew;have ah:Far o0 (mine n) a m:=by
   intro hm ad e hs;obtain⟨b',o1,e',hc⟩:=hA.1.2 0 (by have:=hA.2.1;omega);have hz:=hF hm ad e;rw[e]at e';cases e';rw[aq _ (Ξq w ⟨b',o1+0,none⟩ hc)]at hs;have h2:(o b').n=n:=hs;have h3:(o b').n=0:=hz;omega
  have bB:=hA.below aA;have bC:=(aX.arg bB ah).below aY;refine(ξ6u n b k o0 P { N with nw:=now } tr s t l q N.id 1 now st a m cap L _ hn bA hi ht hG hR bC hno hf (λhm ad e=>by
   have:=ah hm ad e;obtain⟨b',o1,e',hc⟩:=hA.1.2 0 (by have:=hA.2.1;omega);have hz:=hF hm ad e;rw[e]at e';cases e';rw[aq _ (Ξq w ⟨b',o1+0,none⟩ hc)];exact hz) nw0 hsb hls hl).mono ?_
  rintro e w' ⟨rfl,o',P',q1,q2,q3⟩;have bD:Chg o0 (mine n) W (W.setCell ⟨b,0,none⟩ (.int .i64 now)).drew:=aX.trans' (Chg.of_below aY _ _);have aZ:=bD.trans' q3;have aH:w'.heap[w.heap.size]?=some (.cells #[.int .i64 s,.int .i64 t,.int .i64 l,.int .i64 q,.bool st,.slice a m cap] 38 (0,0)):=ξ1E hn aZ (bz.trans aF) aV;have au:w'.cell? ⟨b,1,none⟩=some (.int .i64 N.id):=by
   have:=q1.cells.2.1;rw[this];unfold Nd.A0t;split<;>rfl
  refine⟨rfl,⟨?_,?_,?_,?_,?_,?_,au⟩,ξ0 ⟨o',P',q1,?_,?_⟩⟩
  any_goals (simp[World.cell?,aH];done)
  ·intro j hj;have bO:(W.setCell ⟨b,0,none⟩ (.int .i64 now)).drew.heap.size=W.heap.size:=by simp[World.setCell,World.drew]
   have bP:=aA.size;rw[q2 j (by omega)];exact aq j hj
  ·exact(Chg.of_below aA _ _).trans aZ aq
 have HN:=ξ0 hN;have aI:=ξ0 aE;have HW:=ξ0 az;have aw:=ξ0 aF;have c0:=(hN.below aE).cells.1;have bh:=ξ0 ht;obtain⟨nw,bi⟩:=nm N.nw;rw[bi]at c0 CA;obtain⟨R,ai⟩:=nm (({ N with nw:=now }:Nd).A0t k tr ⟨s,t,l,q,st,L,.slice a m cap⟩ N.id 1 now);rw[ai]at HT;rw[ai];obtain⟨id,au⟩:=nm N.id;rw[au]at HT;have bE:=ξ0 au;obtain⟨pp,aJ⟩:=nm ((P.tp k).p);rw[aJ]at HT;have bF:=ξ0 aJ;have bG:=ξ0 hpa;clear hN hnow hG hR hA hno hf hF hsb hls hl aE az aF aG aq aV bi ai au aJ hpa ht;go_enter func45,ntmps45;go_upto_region 1 with fail
 rw[HW.out];go_wp2_with fail;refine CA.out.mono ?_;rintro e w1 ⟨rfl,ax⟩;rw[show Gaps.A0a 0=Value.nilIface from rfl];obtain⟨W1,ay⟩:=nm (w1.alloc (.cells #[.int .i64 now] 89));have aL:Below w.heap.size w W1:=by rw[<-ay];exact(aI.out.trans (ax.mono aI.out.size)).alloc (by have:=aI.out.size;have:=ax.size;omega) _
 have aM:W1.heap[w.heap.size]?=W0.heap[w.heap.size]?:=by
  rw[<-ay];exact(Below.heap_alloc _ _ _ (by have:=lt_of_block aw.out;have:=ax.size;omega)).trans (ax.block _ (lt_of_block aw.out))
 have aO:W1.cell? ⟨w1.heap.size,0,none⟩=some (.int .i64 now):=by rw[<-ay];simp
 have bH:=ξ0 ay;have bj:=ξ0 aL;have bq:=ξ0 aM;have aP:=HN.out.below aL;have ct:=aP.A2l hi;have bx:=(aP.trs k hi tr bh.out).1.box;rw[bh.out]at ct;simp only[tpv]at ct;rw[bF.out]at ct bx;have cp:W1.cell? ⟨pp,2,none⟩=some (.int .i64 (-1)):=by rw[<-bG.out];simp[World.cell?,bx]
 have ae:=aM.trans aw.out;have x0:W1.cell? ⟨w.heap.size,0,none⟩=some (.int .i64 s):=by simp[World.cell?,ae]
 have x1:W1.cell? ⟨w.heap.size,1,none⟩=some (.int .i64 t):=by simp[World.cell?,ae]
 have x2:W1.cell? ⟨w.heap.size,2,none⟩=some (.int .i64 l):=by simp[World.cell?,ae]
 have x3:W1.cell? ⟨w.heap.size,3,none⟩=some (.int .i64 q):=by simp[World.cell?,ae]
 have x4:W1.cell? ⟨w.heap.size,4,none⟩=some (.bool st):=by simp[World.cell?,ae]
 have x5:W1.cell? ⟨w.heap.size,5,none⟩=some (.slice a m cap):=by simp[World.cell?,ae]
 obtain⟨cb,aQ⟩:=nm w1.heap.size;rw[aQ]at aO;have bQ:=ξ0 aQ;clear ax ay aL aM c0 CA aP bx ae;go_upto_region 4 with fail
 first|rw[bH.out]|skip
 clear aQ;go_wp2_with fail;refine(CT.out _).mono ?_;rintro e w2 ⟨rfl,rfl⟩;go_wp2_with fail;refine(CC.out _).mono ?_;rintro e w2 ⟨rfl,aC⟩;rw[show Pack.A0a 0=Value.nilIface from rfl];have aS:=bj.out.trans (aC.mono bj.out.size);have aj:w2.heap[w.heap.size]?=W0.heap[w.heap.size]?:=(aC.block _ (lt_of_block (bq.out.trans aw.out))).trans bq.out;have bI:=ξc aC aO;have aD:=HN.out.below aS;have bR:=aD.cells.1;have bS:=aD.free 0;have bu:=ξ0 (HT.out w2 aS aj);have aT:=aD.A4u hn now;have am:(w2.setCell ⟨b,0,none⟩ (.int .i64 now)).heap[w.heap.size]?=some (.cells #[.int .i64 s,.int .i64 t,.int .i64 l,.int .i64 q,.bool st,.slice a m cap] 38 (0,0)):=by
  rw[Below.heap_setCell _ _ _ _ (by have:=HN.out.lt;simp;omega)];exact aj.trans aw.out
 obtain⟨w3,aU⟩:=nm (w2.setCell ⟨b,0,none⟩ (.int .i64 now));rw[aU]at bu aT am;have bT:w3.drew.cell? ⟨w.heap.size,0,none⟩=some (.int .i64 s)/\w3.drew.cell? ⟨w.heap.size,1,none⟩=some (.int .i64 t)/\w3.drew.cell? ⟨w.heap.size,2,none⟩=some (.int .i64 l)/\w3.drew.cell? ⟨w.heap.size,3,none⟩=some (.int .i64 q)/\w3.drew.cell? ⟨w.heap.size,4,none⟩=some (.bool st)/\w3.drew.cell? ⟨w.heap.size,5,none⟩=some (.slice a m cap)/\w3.drew.cell? ⟨b,1,none⟩=some (.int .i64 id):=by
  refine⟨?_,?_,?_,?_,?_,?_,?_⟩
  any_goals (show w3.cell? _=_;simp[World.cell?,am];done)
  ·show w3.cell? _=_;have:=aT.cells.2.1;rw[this];show some (Value.int .i64 N.id)=_;rw[bE.out]
 have bJ:=ξ0 aU;clear aC aS aj aD aT am aU HT aO ct cp x0 x1 x2 x3 x4 x5 CC CT;go_upto_region 15 with fail;rw[bJ.out];go_region_held3 (λw'=>w'.cell? ⟨w.heap.size,0,none⟩=some (.int .i64 s)/\w'.cell? ⟨w.heap.size,1,none⟩=some (.int .i64 t)/\w'.cell? ⟨w.heap.size,2,none⟩=some (.int .i64 l)/\w'.cell? ⟨w.heap.size,3,none⟩=some (.int .i64 q)/\w'.cell? ⟨w.heap.size,4,none⟩=some (.bool st)/\w'.cell? ⟨w.heap.size,5,none⟩=some (.slice a m cap)/\w'.cell? ⟨b,1,none⟩=some (.int .i64 id)) (with_reducible assumption) (first|(go_at_call 92;refine bu.out.mono ?_;rintro e w4 ⟨rfl,bU,HD⟩));go_wp2_with fail
 go_ret;exact⟨rfl,HD.out⟩
theorem ξaL(n b k:Nat)(o:Nat->Tg)(P:NP)(N:Nd)(tr:Tr)(now s t l q:Int)(st:Bool)(a:Option Addr)(m cap:Nat)(w:World)(hN:NAt w o n b P N)(hi:k<8)(ht:N.tr k=some tr)(hpa:tr.pa=-1)(hnow:GM.tf N.nw now=0)(hf:PM.fault s t l q m≠0) :
 Calls prog 45 #[.pointer (some ⟨b,0,none⟩),.int .i64 ((k:Int)+1),.agg #[.int .i64 s,.int .i64 t,.int .i64 l,.int .i64 q,.bool st,.slice a m cap],.int .i64 now] w λe w'=>e=.returned (A0a (PM.fault s t l q m))/\Below w.heap.size w w':=by
 obtain⟨W0,ai⟩:=nm (w.alloc (.cells #[.int .i64 s,.int .i64 t,.int .i64 l,.int .i64 q,.bool st,.slice a m cap] 38));have am:Below w.heap.size w W0:=by rw[<-ai];exact(Ξp _ _).alloc (Ξo _) _
 have ay:W0.heap[w.heap.size]?=some (.cells #[.int .i64 s,.int .i64 t,.int .i64 l,.int .i64 q,.bool st,.slice a m cap] 38 (0,0)):=by rw[<-ai];exact heap_alloc_new w _
 have CT:=ξ0 (ξk ((k:Int)+1));rw[show okT ((k:Int)+1)=true from by simp[okT];omega]at CT;have CA:=ξ0 (Gaps.ξH N.nw now W0);rw[if_pos hnow,hnow]at CA;have CC:=ξ0 (Pack.ξa s t l q st a m cap);obtain⟨f,az⟩:=nm (PM.fault s t l q m);rw[az]at CC hf ⊢;have q1:=ξq f;have q2:=ξp f;have d0:decide (f=0)=false:=by simpa using hf
 have aO:wrap64 ((k:Int)+1-1)=(k:Int):=by unfold wrap64;omega
 have aP:wrap64 (k:Int)=(k:Int):=by unfold wrap64;omega
 have aQ:(k:Int)<8:=by omega
 have HN:=ξ0 hN;have aq:=ξ0 am;have HW:=ξ0 ai;have au:=ξ0 ay;have c0:=(hN.below am).cells.1;have aA:=ξ0 ht;obtain⟨nw,aC⟩:=nm N.nw;rw[aC]at c0 CA;obtain⟨pp,aD⟩:=nm ((P.tp k).p);have aH:=ξ0 aD;have aI:=ξ0 hpa;clear hN hnow hf am ai ay aC aD hpa ht az;go_enter func45,ntmps45;go_upto_region 1 with fail
 rw[HW.out];go_wp2_with fail;refine CA.out.mono ?_;rintro e w1 ⟨rfl,ah⟩;rw[show Gaps.A0a 0=Value.nilIface from rfl];obtain⟨W1,aj⟩:=nm (w1.alloc (.cells #[.int .i64 now] 89));have aw:Below w.heap.size w W1:=by rw[<-aj];exact(aq.out.trans (ah.mono aq.out.size)).alloc (by have:=aq.out.size;have:=ah.size;omega) _
 have aE:W1.heap[w.heap.size]?=W0.heap[w.heap.size]?:=by
  rw[<-aj];exact(Below.heap_alloc _ _ _ (by have:=lt_of_block au.out;have:=ah.size;omega)).trans (ah.block _ (lt_of_block au.out))
 have aJ:=ξ0 aj;have aF:=ξ0 aw;have ax:=HN.out.below aw;have ct:=ax.A2l hi;have bx:=(ax.trs k hi tr aA.out).1.box;rw[aA.out]at ct;simp only[tpv]at ct;rw[aH.out]at ct bx;have cp:W1.cell? ⟨pp,2,none⟩=some (.int .i64 (-1)):=by rw[<-aI.out];simp[World.cell?,bx]
 have ae:=aE.trans au.out;have x0:W1.cell? ⟨w.heap.size,0,none⟩=some (.int .i64 s):=by simp[World.cell?,ae]
 have x1:W1.cell? ⟨w.heap.size,1,none⟩=some (.int .i64 t):=by simp[World.cell?,ae]
 have x2:W1.cell? ⟨w.heap.size,2,none⟩=some (.int .i64 l):=by simp[World.cell?,ae]
 have x3:W1.cell? ⟨w.heap.size,3,none⟩=some (.int .i64 q):=by simp[World.cell?,ae]
 have x4:W1.cell? ⟨w.heap.size,4,none⟩=some (.bool st):=by simp[World.cell?,ae]
 have x5:W1.cell? ⟨w.heap.size,5,none⟩=some (.slice a m cap):=by simp[World.cell?,ae]
 obtain⟨cb,aL⟩:=nm w1.heap.size;clear ah aj aw aE c0 CA ax bx ae;go_upto_region 4 with fail
 first|rw[aJ.out]|skip
 clear aL;go_wp2_with fail;refine(CT.out _).mono ?_;rintro e w2 ⟨rfl,rfl⟩;go_wp2_with fail;refine(CC.out _).mono ?_;rintro e w2 ⟨rfl,aG⟩;rw[show Pack.A0a f=A0a f from rfl];have aM:=ξ0 (aF.out.trans (aG.mono aF.out.size));clear aG;go_wp2_with fail;go_ret;exact⟨rfl,aM.out⟩
def A7o(w w':World)(o:Nat->Tg)(n b:Nat)(N:Nd)(k:Nat)(tr:Tr)(s t l q:Int)(st:Bool)(L:List Nat)(og h now:Int)(f:Nat):Prop:=
 (f=0->∃bv,Done w w' o n b (N.A0t k tr ⟨s,t,l,q,st,L,bv⟩ og h now))/\(f≠0->Below w.heap.size w w')
theorem ξ5f(n b k:Nat)(o:Nat->Tg)(P:NP)(N:Nd)(tr:Tr)(fr now og ep h s t l q:Int)(st:Bool)(a:Option Addr)(m cap:Nat)(L:List Nat)(w:World)(hn:n≠0)(hN:NAt w o n b P N)(hi:k<8)(ht:N.tr k=some tr)(hG:GM.Inv 3 3 tr.gn tr.gT tr.gM)(hR:RM.Inv 64 tr.rT tr.rM)(hA:Arg w a m (fby ((k:Int)+1) og ep h (pby s t l q st L)))(hc:m<=cap)(hff:FM.A0k ((k:Int)+1) og ep h (pby s t l q st L)=0)(hf:PM.fault s t l q L.length=0)(hL:∀c∈L,c<256)(nw0:Int)(hsb:∀x∈N.sb,A1k nw0 x.2/\OM.tf x.2.on now=0)(hls:A2v N.sb N.ls)(hl:N.lt.length+tr.kids.length<=1000000) :
 Calls prog 116 #[.pointer (some ⟨b,0,none⟩),.int .i64 fr,.slice a m cap,.int .i64 now] w λe w'=>e=.returned (A0a (hrF tr fr ep))/\A7o w w' o n b N k tr s t l q st L og (h+1) now (hrF tr fr ep):=by
 have aU:∀c∈pby s t l q st L,c<256:=by
  obtain⟨s',t',l',q',rfl,rfl,rfl,rfl,h1,h2,h3,h4,h5⟩:=PM.ξs hf;intro c am;unfold pby at am;simp only[Int.toNat_natCast]at am;rcases Ξe.1 am with am|am
  ·exact PM.ξ8P st h1 h2 h3 h4 c am
  ·exact hL c am
 have CF:=ξ0 (ξa4 ((k:Int)+1) og ep h a m cap _ w hA hc aU hff);have hh:0<=h/\h<=64:=by obtain⟨_,_,_,p',_,_,_,rfl,_,_,_,_,h5,_⟩:=FM.ξ1V hff;omega
 obtain⟨o0,aF⟩:=nm (grow o w ξ2);have ax:Ext w o o0:=by rw[<-aF];exact ξ3 o w ξ2
 have aq:∀j,w.heap.size<=j->(o0 j).n=0:=λj hj=>by rw[<-aF,ξg hj]
 have HT:Hid (∀W a2 c2,Below w.heap.size w W->Arg W a2 L.length L->(a2=none->L.length=0/\c2=0)->(∀ad,a2=some ad->w.heap.size<=ad.block)->Calls prog 92 #[.pointer (some ⟨b,0,none⟩),.pointer (some ⟨(P.tp k).p,0,none⟩),.agg #[.int .i64 s,.int .i64 t,.int .i64 l,.int .i64 q,.bool st,.slice a2 L.length c2],.agg #[.int .i64 og,.int .i64 (h+1)],.int .i64 now] W λe w'=>e=.returned (.tuple #[])/\Hid (A7o w w' o n b N k tr s t l q st L og (h+1) now 0)):=by
  refine ξ0 ?_;intro W a2 c2 aG b9 ai aH;have bA:NAt W o0 n b P N:=hN.chg (S:=λ_=>False) (Chg.of_below aG _ _) (λg hg=>hg.elim) ax;refine(ξ6u n b k o0 P N tr s t l q og (h+1) now st a2 L.length c2 L W hn bA hi ht hG hR b9 ai hf (λhm ad e=>aq _ (aH ad e)) nw0 hsb hls hl).mono ?_;rintro e w' ⟨rfl,o',P',q1,q2,q3⟩;refine⟨rfl,ξ0 ⟨λ_=>⟨_,o',P',q1,λj hj=>?_,(Chg.of_below aG _ _).trans q3 ax⟩,λhx=>absurd rfl hx⟩⟩;rw[q2 j (by have:=aG.size;omega)];exact ax j hj
 have CP:=ξ0 (λW a1 m1 c1 (h1:Arg W a1 m1 (pby s t l q st L)) (h2:m1<=c1)=>ξ9n s t l q st a1 m1 c1 L W h1 h2 hf);have bG:wrap64 ((k:Int)+1-1)=(k:Int):=by unfold wrap64;omega
 have bH:wrap64 (k:Int)=(k:Int):=by unfold wrap64;omega
 have bI:(k:Int)<8:=by omega
 have bJ:wrap64 (h+1)=h+1:=by unfold wrap64;omega
 have HN:=ξ0 hN;have aV:=ξ0 ht;obtain⟨pp,aI⟩:=nm ((P.tp k).p);rw[aI]at HT;have bB:=ξ0 aI;obtain⟨B,hB⟩:=nm (pby s t l q st L);rw[hB]at CF CP;obtain⟨fl,ae⟩:=nm (hrF tr fr ep);rw[ae];unfold hrF at ae;have au:=ξ0 ae;obtain⟨pa,aJ⟩:=nm tr.pa;obtain⟨te,aL⟩:=nm tr.ep;rw[aJ,aL]at au;have aW:=ξ0 (And.intro aJ aL);obtain⟨ll,aX⟩:=nm L.length;rw[aX]at CP HT;clear hN ht hG hR hA hff hf hsb hls hl aU aF ax aq aI hB ae aJ aL aX hL;go_enter func116,ntmps116;go_wp2_with fail
 refine CF.out.mono ?_;rintro e w1 ⟨a1,m1,c1,rfl,aM,aY,aZ,bC⟩;obtain⟨W1,ay⟩:=nm (w1.alloc (.cells #[.int .i64 ((k:Int)+1),.int .i64 og,.int .i64 ep,.int .i64 h,.slice a1 m1 c1] 238));have aO:Below w1.heap.size w1 W1:=by rw[<-ay];exact(Ξp _ _).alloc (Ξo _) _
 have az:W1.heap[w1.heap.size]?=some (.cells #[.int .i64 ((k:Int)+1),.int .i64 og,.int .i64 ep,.int .i64 h,.slice a1 m1 c1] 238 (0,0)):=by rw[<-ay];exact heap_alloc_new w1 _
 have bh:=ξ0 (CP.out W1 a1 m1 c1 (aY.below aO) aZ);have c4:W1.cell? ⟨w1.heap.size,4,none⟩=some (.slice a1 m1 c1):=by simp[World.cell?,az]
 obtain⟨fb,bi⟩:=nm w1.heap.size;rw[bi]at az c4;have aP:=ξ0 az;have aA:=ξ0 (aM.trans (aO.mono aM.size));have bD:=ξ0 ay;clear aM aY aZ bC ay aO az CP CF;go_upto_region 4 with fail
 first|rw[bD.out]|skip
 clear bi;go_wp2_with fail;refine bh.out.mono ?_;rintro e w2 ⟨a2,c2,rfl,aw,bj,ai,bq⟩;obtain⟨W2,aC⟩:=nm (w2.alloc (.cells #[.int .i64 s,.int .i64 t,.int .i64 l,.int .i64 q,.bool st,.slice a2 ll c2] 38));have aD:Below w2.heap.size w2 W2:=by rw[<-aC];exact(Ξp _ _).alloc (Ξo _) _
 have aj:W2.heap[w2.heap.size]?=some (.cells #[.int .i64 s,.int .i64 t,.int .i64 l,.int .i64 q,.bool st,.slice a2 ll c2] 38 (0,0)):=by rw[<-aC];exact heap_alloc_new w2 _
 have ah:W2.heap[fb]?=some (.cells #[.int .i64 ((k:Int)+1),.int .i64 og,.int .i64 ep,.int .i64 h,.slice a1 m1 c1] 238 (0,0)):=(aD.block _ (by have:=lt_of_block aP.out;have:=aw.size;omega)).trans ((aw.block _ (lt_of_block aP.out)).trans aP.out);have aE:Below w.heap.size w W2:=(aA.out.trans (aw.mono aA.out.size)).trans (aD.mono (by have:=aA.out.size;have:=aw.size;omega));obtain⟨pb,bu⟩:=nm w2.heap.size;rw[bu]at aj;have aQ:=HN.out.below aE;have ct:=aQ.A2l hi;have bx:=(aQ.trs k hi tr aV.out).1.box;rw[aV.out]at ct;simp only[tpv]at ct;rw[bB.out]at ct bx;have p1:W2.cell? ⟨pp,1,none⟩=some (.int .i64 te):=by rw[<-aW.out.2];simp[World.cell?,bx]
 have p2:W2.cell? ⟨pp,2,none⟩=some (.int .i64 pa):=by rw[<-aW.out.1];simp[World.cell?,bx]
 have f0:W2.cell? ⟨fb,0,none⟩=some (.int .i64 ((k:Int)+1)):=by simp[World.cell?,ah]
 have f1:W2.cell? ⟨fb,1,none⟩=some (.int .i64 og):=by simp[World.cell?,ah]
 have f2:W2.cell? ⟨fb,2,none⟩=some (.int .i64 ep):=by simp[World.cell?,ah]
 have f3:W2.cell? ⟨fb,3,none⟩=some (.int .i64 h):=by simp[World.cell?,ah]
 have x0:W2.cell? ⟨pb,0,none⟩=some (.int .i64 s):=by simp[World.cell?,aj]
 have x1:W2.cell? ⟨pb,1,none⟩=some (.int .i64 t):=by simp[World.cell?,aj]
 have x2:W2.cell? ⟨pb,2,none⟩=some (.int .i64 l):=by simp[World.cell?,aj]
 have x3:W2.cell? ⟨pb,3,none⟩=some (.int .i64 q):=by simp[World.cell?,aj]
 have x4:W2.cell? ⟨pb,4,none⟩=some (.bool st):=by simp[World.cell?,aj]
 have x5:W2.cell? ⟨pb,5,none⟩=some (.slice a2 ll c2):=by simp[World.cell?,aj]
 have bE:=ξ0 (λj=>HT.out (W2.drewN j) a2 c2 (below_drewN' aE) (((bj.below aD)).below (below_drewN' (Ξp _ _))) ai (λad e=>by have:=bq ad e;have:=aA.out.size;omega));have aS:=ξ0 aE;have bF:=ξ0 aC;clear aw bj ai bq aC aD aj ah aE aQ bx c4 bh HT;go_upto_region 7 with fail
 first|rw[bF.out]|skip
 clear bu;go_quiet (fail);by_cases c1:pa=-1
 ·have e1:(pa==-1)=true:=by simpa using c1
  have ae:fl=6:=by rw[<-au.out,if_pos (by exact .inl c1)]
  subst ae;clear c1;go_wp2_with fail;go_quiet (fail)
  go_wp2_with fail
  go_ret;exact⟨rfl,λhx=>absurd hx (by omega),λ_=>below_drewN' aS.out⟩
 have e1:(pa==-1)=false:=by simpa using c1
 by_cases c2:fr≠pa
 ·have e2:(fr != pa)=true:=by simpa using c2
  have ae:fl=6:=by rw[<-au.out,if_pos (by exact .inr (.inl c2))]
  subst ae;clear c2 c1;go_wp2_with fail;go_quiet (fail)
  go_wp2_with fail
  go_ret;exact⟨rfl,λhx=>absurd hx (by omega),λ_=>below_drewN' aS.out⟩
 have aT:fr=pa:=by omega
 have e2:(fr != pa)=false:=by simpa using aT
 by_cases c3:ep≠te
 ·have e3:(ep != te)=true:=by simpa using c3
  have ae:fl=6:=by rw[<-au.out,if_pos (by exact .inr (.inr c3))]
  subst ae;clear c3 c2 aT c1;go_wp2_with fail;go_quiet (fail)
  go_wp2_with fail
  go_ret;exact⟨rfl,λhx=>absurd hx (by omega),λ_=>below_drewN' aS.out⟩
 have bz:ep=te:=by omega
 have e3:(ep != te)=false:=by simpa using bz
 have ae:fl=0:=by rw[<-au.out,if_neg (by omega)]
 subst ae;clear c1 c2 aT c3 bz;go_wp2_with fail;go_quiet (fail)
 go_wp2_with fail
 refine(bE.out _).mono ?_;rintro e w4 ⟨rfl,HD⟩;go_wp2_with fail;go_ret;exact⟨rfl,HD.out⟩
def A6t(w w':World)(o:Nat->Tg)(n b:Nat)(N:Nd)(k:Nat)(tr:Tr)(s t l q:Int)(st:Bool)(L:List Nat)(og h now:Int)(f:Nat):Prop:=
 (f=0->∃bv,Done w w' o n b { N.A0t k tr ⟨s,t,l,q,st,L,bv⟩ og h now with nw:=now })/\(f≠0->Below w.heap.size w w')
theorem ξ7Q(n b k:Nat)(o:Nat->Tg)(P:NP)(N:Nd)(tr:Tr)(fr now og ep h s t l q:Int)(st:Bool)(a:Option Addr)(m cap:Nat)(L:List Nat)(w:World)(hn:n≠0)(hN:NAt w o n b P N)(hi:k<8)(ht:N.tr k=some tr)(hnow:GM.tf N.nw now=0)(hG:GM.Inv 3 3 tr.gn tr.gT tr.gM)(hR:RM.Inv 64 tr.rT tr.rM)(hA:Arg w a m (fby ((k:Int)+1) og ep h (pby s t l q st L)))(hc:m<=cap)(hff:FM.A0k ((k:Int)+1) og ep h (pby s t l q st L)=0)(hf:PM.fault s t l q L.length=0)(hL:∀c∈L,c<256)(nw0:Int)(hsb:∀x∈N.sb,A1k nw0 x.2/\OM.tf x.2.on now=0)(hls:A2v N.sb N.ls)(hl:N.lt.length+tr.kids.length<=1000000) :
 Calls prog 89 #[.pointer (some ⟨b,0,none⟩),.int .i64 fr,.slice a m cap,.int .i64 now] w λe w'=>e=.returned (A0a (hrF tr fr ep))/\A6t w w' o n b N k tr s t l q st L og (h+1) now (hrF tr fr ep):=by
 have CA:=ξ0 (Gaps.ξH N.nw now w);rw[if_pos hnow,hnow]at CA;obtain⟨R,ah⟩:=ξbR hff;have ai:=hA;rw[ah]at ai;have au:0<m:=by have:=ai.2.1;simp at this;omega
 obtain⟨ba,oa,rfl⟩:=Pack.ξ1q ai au;have aA:w.cell? ⟨ba,oa,none⟩=some (.int .u8 70):=by
  have:=Pack.ξf ai 0 au;simpa using this
 obtain⟨o0,aC⟩:=nm (grow o w ξ2);have aD:Ext w o o0:=by rw[<-aC];exact ξ3 o w ξ2
 have aj:∀j,w.heap.size<=j->(o0 j).n=0:=λj hj=>by rw[<-aC,ξg hj]
 have HH:Hid (∀W,Below w.heap.size w W->Calls prog 116 #[.pointer (some ⟨b,0,none⟩),.int .i64 fr,.slice (some ⟨ba,oa,none⟩) m cap,.int .i64 now] W λe w'=>e=.returned (A0a (hrF tr fr ep))/\A7o W w' o0 n b N k tr s t l q st L og (h+1) now (hrF tr fr ep)):=by
  refine ξ0 ?_;intro W aI;have aO:NAt W o0 n b P N:=hN.chg (S:=λ_=>False) (Chg.of_below aI _ _) (λg hg=>hg.elim) aD;exact ξ5f n b k o0 P N tr fr now og ep h s t l q st (some ⟨ba,oa,none⟩) m cap L W hn aO hi ht hG hR (hA.below aI) hc hff hf hL nw0 hsb hls hl
 have c0:=hN.cells.1;obtain⟨nw,aJ⟩:=nm N.nw;rw[aJ]at c0 CA;obtain⟨fl,aE⟩:=nm (hrF tr fr ep);rw[aE]at HH;rw[aE];have q1:=ξq fl;have q2:=ξp fl;have HN:=ξ0 hN;have aL:=ξ0 aD;have aF:=ξ0 aj;have aW:(0:Int)<(m:Int):=by omega
 have aX:decide ((0:Int)<(m:Int))=true:=by simpa using au
 have aP:decide (0<m)=true:=by simpa using au
 have aQ:=ξ0 aA;clear hN ht hnow hG hR hA ai hff hf hL hsb hls hl aC aD aj aJ aE ah hc aA;go_enter func89,ntmps89;go_wp2_with fail
 refine CA.out.mono ?_;rintro e w1 ⟨rfl,aw⟩;rw[show Gaps.A0a 0=Value.nilIface from rfl];obtain⟨W1,ax⟩:=nm (w1.alloc (.cells #[.int .i64 now] 89));have ay:Below w.heap.size w W1:=by rw[<-ax];exact aw.alloc aw.size _
 have aG:W1.heap[w1.heap.size]?=some (.cells #[.int .i64 now] 89 (0,0)):=by rw[<-ax];exact heap_alloc_new w1 _
 have aA:=ξc ay aQ.out;have CH:=ξ0 (HH.out W1 ay);obtain⟨cb,aH⟩:=nm w1.heap.size;rw[aH]at aG;have am:=aF.out cb (by rw[<-aH];exact aw.size);have aS:=ξ0 am;have aT:=ξ0 aG;have az:=ξ0 ay;have aU:=ξ0 ax;clear aw ax ay aG am CA HH c0;go_upto_region 4 with fail
 first|rw[aU.out]|skip
 clear aH;go_wp2_with fail;refine CH.out.mono ?_;rintro e w2 ⟨rfl,hH⟩;by_cases hf0:fl=0
 ·obtain⟨bv,o2,P2,r1,r2,r3⟩:=hH.1 hf0;have d0:decide (fl=0)=true:=by simpa using hf0
  have ae:w2.heap[cb]?=some (.cells #[.int .i64 now] 89 (0,0)):=ξ1E hn r3 aT.out aS.out;have ck:w2.cell? ⟨cb,0,none⟩=some (.int .i64 now):=by simp[World.cell?,ae]
  have cc:=r1.cells.1;have ff:=r1.free 0;have aq:=r1.A4u hn now;have aM:=ξx (r1.A53 0 (.int .i64 now));have HD:Hid (A6t w (w2.setCell ⟨b,0,none⟩ (.int .i64 now)) o n b N k tr s t l q st L og (h+1) now fl):=by
   refine ξ0 ⟨λ_=>⟨bv,o2,P2,aq,λj hj=>?_,?_⟩,λhx=>absurd hf0 hx⟩
   ·rw[r2 j (by have:=az.out.size;omega)];exact aL.out j hj
   ·exact(Chg.of_below az.out o _).trans (r3.trans aM r2) aL.out
  have aV:=ξ0 hf0;clear hH r1 r2 r3 ae aq aM hf0;go_wp2_with fail;go_ret;exact⟨by rw[aV.out];rfl,HD.out⟩
 ·have hb:=hH.2 hf0;have d0:decide (fl=0)=false:=by simpa using hf0
  have HD:Hid (A6t w w2 o n b N k tr s t l q st L og (h+1) now fl):=ξ0 ⟨λhx=>absurd hx hf0,λ_=>az.out.trans (hb.mono az.out.size)⟩;clear hH hb hf0;go_wp2_with fail;go_ret;exact⟨rfl,HD.out⟩
end Go.Proofs.YtpiamlgmadnepaaGreat.ND
namespace Go.Proofs.YtpiamlgmadnepaaGreat.Ring
open ChangeShapes WideShapes ChangeAt RowKit Maps PM Mem Pack RM
theorem ξdE(b mb:Nat)(n T:Int)(M:Its)(w:World)(h:RingAt w b mb n T M)(i:Int×Pk)(hi:i∈M)(hw:(Lit.int .i64 i.1).wf=true) :
 Calls prog 186 #[.pointer (some ⟨b,0,none⟩),.int .i64 i.1] w λe w'=>∃a m c,e=.returned (.tuple #[.agg #[.int .i64 i.2.s,.int .i64 i.2.t,.int .i64 i.2.l,.int .i64 i.2.q,.bool i.2.st,.slice a m c],.nilIface])/\Arg w' a m i.2.L/\(a=none->m=0/\c=0)/\Below w.heap.size w w':=by
 have hR:RingAt (w.alloc (.cells #[.int .i64 0,.int .i64 0,.int .i64 0,.int .i64 0,.bool false,.slice none 0 0] 38)) b mb n T M:=h.below ((Ξp _ _).alloc (Ξo _) _);obtain⟨a,m,c,hl,ho,hb,hm⟩:=ξ35 hR hi hw;obtain⟨c0,c1,c2⟩:=hR.cells;have HO:=ξ0 ho;have HL:=ξ0 hb;clear hR h hi ho hb;generalize i.2.s=s at *;generalize i.2.t=t at *;generalize i.2.l=l at *;generalize i.2.q=q at *;generalize i.2.st=st at *;generalize i.2.L=L at *;generalize i.1=y at *;clear i;go_enter func186,ntmps186;go_wp2_with fail
 obtain⟨a0,k0,e0,hA,hN,_,_⟩:=ξy (L:=L) (HO.out.alloc (.cells #[.int .i64 s,.int .i64 t,.int .i64 l,.int .i64 q,.bool st,.slice a m c] 38)) HL.out (by omega);cases e0;refine(ξ1X s t l q st a m c L _ hA hN hm).mono ?_;rintro e w1 ⟨a',c',rfl,ae,ah⟩;have hy:w1.heap[w.heap.size]?=some (.cells #[.int .i64 0,.int .i64 0,.int .i64 0,.int .i64 0,.bool false,.slice none 0 0] 38 (0,0)):=
  (ah.block _ (by simp;omega)).trans (((Box.new w 0 0 0 0 false (.slice none 0 0)).alloc _))
 have HY:=ξ0 hy;have aj:=ξ0 ae;have am:Hid (Below w.heap.size w w1):=(((Ξp _ _).alloc (Ξo _) _).alloc (by simp) _).trans (ah.mono (by simp;omega));clear hy ae ah hA hN HO hl c0 c1 c2;obtain⟨⟨d0,d1,d2,d3,d4,d5⟩,g0,g1,g2,g3,g4,g5⟩:=A6b HY.out;go_wp2_with fail;have ho:Only [w.heap.size] w1 _:=A6a (g:=w.heap.size) (Only.refl _ w1) (by simp) (.int .i64 s) (.int .i64 t) (.int .i64 l) (.int .i64 q) (.bool st) (.slice a' m c');refine bodyPost_ret (ξ4y (g:=w.heap.size) rfl rfl (A8j HY.out s t l q st _)) rfl ?_;obtain⟨a2,k2,e2,aq,ai,_⟩:=ξy (L:=L) (ho.owns aj.out (λk hk hc=>by
  simp at hc;subst hc;rcases aj.out.2 with⟨hn,_⟩|⟨g,cap,cur,e,_,hgg,_⟩
  ·rw[hn]at hk;simp[Value.ownBlock]at hk
  ·rw[e]at hk;simp[Value.ownBlock]at hk;subst hk;rw[HY.out]at hgg;simp at hgg)) HL.out (by omega)
 cases e2;exact⟨a',m,c',rfl,aq,ai,am.out.trans (ho.below am.out.size (by simp))⟩
end Go.Proofs.YtpiamlgmadnepaaGreat.Ring
namespace Go.Proofs.YtpiamlgmadnepaaGreat.ND
open ChangeShapes WideShapes ChangeAt RowKit Maps Go.Lib Mem NO
variable {w:World}{o:Nat->Tg}{M:RM.Its}
theorem ξ4g{w':World}{S:Tg->Prop}{a:Option Addr}{m:Nat}{L:List Int}(h:Back.A0b w a m L)(hc:Chg o S w w')(hS:∀g,S g->g.n≠0)(hz:∀ad,a=some ad->0<m->(o ad.block).n=0):Back.A0b w' a m L:=by
 obtain⟨bs,q1,q2,q3⟩:=hc;refine⟨λj hj=>?_,h.2⟩;obtain⟨b',o',e,hc⟩:=h.1 j hj;have ae:b'∉bs:=λhx=>hS _ (q2 _ hx) (hz _ e (by have:=h.2.1;omega));exact⟨b',o',e,(ξr (q1.2.2.2.2 b' (Ξq w ⟨b',o'+j,none⟩ hc) ae) _).trans hc⟩
theorem Wrote.below{w1 w2:World}{n b:Nat}{P:NP}{N:Nd}(h:Wrote w w1 o n b P N)(hb:Below w1.heap.size w1 w2):Wrote w w2 o n b P N:=by
 obtain⟨o',lv,h1,h2,h3⟩:=h;exact⟨o',lv,h1.below hb,h2,h3.trans' (Chg.of_below hb _ _)⟩
theorem ξdO(h1:M.Pairwise λa b=>a.1≠b.1){x:Int×RM.Pk}(hx:x∈M):(M.find? λi=>i.1==x.1)=some x:=by
 induction M with
 | nil=>cases hx
 | cons a M ih=>
   obtain⟨k1,k2⟩:=List.pairwise_cons.1 h1;rw[List.find?_cons];rcases Ξf.1 hx with rfl|hx
   ·simp
   ·have:=k1 x hx;rw[show(a.1==x.1)=false by simpa using this];exact ih k2 hx
theorem ξdN{y:Int}(h:RM.has M y=false):(M.find? λi=>i.1==y)=none:=by
 rw[List.find?_eq_none];intro x hx;simpa using RM.ξ13 h x hx
theorem ξem{T q:Int}(h0:0<=q)(h1:q<=65535)(hT:-1<=T)(hT2:T<=1099511627776):-9223372036854775808<=num T q/\num T q<=9223372036854775807:=by
 unfold num Ser.unw Ser.bey;split
 ·omega
 ·(try simp only[])
  split<;>omega
theorem ξck(n b i:Nat)(o:Nat->Tg)(P:NP)(N:Nd)(tr:Tr)(kd:Int)(a:Option Addr)(nn cap:Nat)(L:List Int)(w:World)(hn:n≠0)(hN:NAt w o n b P N)(hi:i<8)(ht:N.tr i=some tr)(hR:RM.Inv 64 tr.rT tr.rM)(hrf:∀x∈tr.rM,PM.fault x.2.s x.2.t x.2.l x.2.q x.2.L.length=0)(hA:Back.A0b w a nn L)(hz:∀ad,a=some ad->0<nn->(o ad.block).n=0)(hL:∀q∈L,0<=q/\q<=65535)(hnn:nn<=1000)(hl:N.lt.length<=1000) :
 Calls prog 151 #[.pointer (some ⟨b,0,none⟩),.int .i64 kd,.pointer (some ⟨(P.tp i).p,0,none⟩),.slice a nn cap] w λe w'=>e=.returned (.tuple #[])/\Wrote w w' o n b P { N with lt:=N.lt++L.flatMap (A0w tr kd) }:=by
 have aC:=hA.2.1
 -- what stands at a round's start
 obtain⟨St,aO⟩:∃St:World->Nat->Prop,(λwr j=>Wrote w wr o n b P { N with lt:=N.lt++(L.take j).flatMap (A0w tr kd) })=St:=⟨_,rfl⟩;have ae:∀wr j,St wr j↔Wrote w wr o n b P { N with lt:=N.lt++(L.take j).flatMap (A0w tr kd) }:=λwr j=>by rw[<-aO]
 have aj:Hid (∀wr j,St wr j->j<nn->∃ba oa,a=some ⟨ba,oa,none⟩/\wr.cell? ⟨ba,oa+j,none⟩=some (.int .i64 (L.getD j 0))):=by
  refine ξ0 ?_;intro wr j hs hj;obtain⟨o',lv,h1,h2,h3⟩:=(ae wr j).1 hs;have:=ξ4g hA (ξ16 h3) (by intro g hg;unfold mine at hg;omega) hz;obtain⟨ba,oa,e,bz⟩:=this.at (by omega);exact⟨ba,oa,e,bz j hj⟩
 have am:∀j,j<nn->(L.take (j+1)).flatMap (A0w tr kd)=(L.take j).flatMap (A0w tr kd)++A0w tr kd (L.getD j 0):=by
  intro j hj;rw[ξ1Z (by omega),List.flatMap_append];simp
 have aq:∀j,j<nn->0<=L.getD j 0/\L.getD j 0<=65535:=by
  intro j hj;have:j<L.length:=by omega
  exact hL _ (by rw[Ξa,Ξd this];exact List.getElem_mem this)
 have au:∀j,((L.take j).flatMap (A0w tr kd)).length<=j:=by
  intro j;have g:∀X:List Int,(X.flatMap (A0w tr kd)).length<=X.length:=by
   intro X
   induction X with
   | nil=>simp
   | cons x X ih=>simp only[List.flatMap_cons,Ξh,List.length_cons];have:=ξ4X tr kd x;omega
  have:=g (L.take j);rw[List.length_take]at this;omega
 have aw:Hid (∀wr j,St wr j->j<nn->Calls prog 122 #[.pointer (some ⟨(P.tp i).p,0,none⟩),.int .i64 (L.getD j 0)] wr λe w'=>e=.returned (.int .i64 (num tr.rT (L.getD j 0)))/\w'=wr):=by
  refine ξ0 ?_;intro wr j hs hj;obtain⟨o',lv,h1,h2,h3⟩:=(ae wr j).1 hs;have hT:=(h1.trs i hi tr ht).1;exact ξ2F (P.tp i).p (P.tp i).r (P.tp i).rm tr.rT tr.rM _ wr (by simp[World.cell?,show wr.heap[(P.tp i).p]?=_ from hT.box]) hT.rng hR (aq j hj).1 (aq j hj).2
 have ay:Hid (∀wr j,St wr j->wr.cell? ⟨(P.tp i).p,5,none⟩=some (.pointer (some ⟨(P.tp i).r,0,none⟩))):=by
  refine ξ0 ?_;intro wr j hs;obtain⟨o',lv,h1,h2,h3⟩:=(ae wr j).1 hs;have hT:=(h1.trs i hi tr ht).1;simp[World.cell?,show wr.heap[(P.tp i).p]?=_ from hT.box]
 have aD:∀j,j<nn->(Lit.int .i64 (num tr.rT (L.getD j 0))).wf=true:=λj hj=>by
  obtain⟨h1,h2⟩:=ξem (T:=tr.rT) (aq j hj).1 (aq j hj).2 hR.t1 hR.t2;exact ξJ h1 h2
 have ah:Hid (∀wr j,St wr j->j<nn->RM.has tr.rM (num tr.rT (L.getD j 0))=false->Calls prog 186 #[.pointer (some ⟨(P.tp i).r,0,none⟩),.int .i64 (num tr.rT (L.getD j 0))] wr λe w'=>e=.returned (.tuple #[.agg #[.int .i64 0,.int .i64 0,.int .i64 0,.int .i64 0,.bool false,.slice none 0 0],Pack.A0a 5])/\Hid (∀w2,Below w'.heap.size w' w2->St w2 (j+1))):=by
  refine ξ0 ?_;intro wr j hs hj hh;have b9:=(ae wr j).1 hs;obtain⟨o',lv,h1,h2,h3⟩:=(ae wr j).1 hs;have hT:=(h1.trs i hi tr ht).1;refine(Ring.ξdD (P.tp i).r (P.tp i).rm 64 tr.rT _ tr.rM wr hT.rng hh (aD j hj)).mono ?_;rintro e w' ⟨rfl,hb⟩;refine⟨rfl,ξ0 λw2 hb2=>(ae _ _).2 ?_⟩;rw[am j hj,show A0w tr kd (L.getD j 0)=[]by unfold A0w;rw[ξdN hh],Ξu];exact(b9.below hb).below hb2
 have ai:Hid (∀wr j,St wr j->j<nn->RM.has tr.rM (num tr.rT (L.getD j 0))=true->∃(p:RM.Pk) (og h:Int),Calls prog 186 #[.pointer (some ⟨(P.tp i).r,0,none⟩),.int .i64 (num tr.rT (L.getD j 0))] wr λe w'=>∃a1 m1 c1,e=.returned (.tuple #[.agg #[.int .i64 p.s,.int .i64 p.t,.int .i64 p.l,.int .i64 p.q,.bool p.st,.slice a1 m1 c1],.nilIface]) /\
  Hid (∀W,W=(w'.alloc (.cells #[.int .i64 p.s,.int .i64 p.t,.int .i64 p.l,.int .i64 p.q,.bool p.st,.slice a1 m1 c1] 38)).drew->AgS W w'.heap.size (P.tp i).p (P.tp i).wm p a1 m1 c1 (num tr.rT (L.getD j 0)) og h /\
   Calls prog 124 #[.pointer (some ⟨b,0,none⟩),.int .i64 kd,.pointer (some ⟨(P.tp i).p,0,none⟩),.agg #[.int .i64 p.s,.int .i64 p.t,.int .i64 p.l,.int .i64 p.q,.bool p.st,.slice a1 m1 c1],.agg #[.int .i64 og,.int .i64 h]] W λe w2=>e=.returned (.tuple #[])/\AgS w2 w'.heap.size (P.tp i).p (P.tp i).wm p a1 m1 c1 (num tr.rT (L.getD j 0)) og h/\Hid (St w2 (j+1)))):=by
  refine ξ0 ?_;intro wr j hs hj hh;obtain⟨o',lv,h1,h2,h3⟩:=(ae wr j).1 hs;have hT:=(h1.trs i hi tr ht).1;obtain⟨x,hx,aP⟩:=RM.ξn.1 hh;obtain⟨y,hy⟩:=nm (num tr.rT (L.getD j 0));have hw:=aD j hj;rw[hy]at aP hw ⊢;obtain⟨y',p⟩:=x;obtain rfl:y'=y:=aP;refine⟨p,(tr.wy y').1,(tr.wy y').2,(Ring.ξdE (P.tp i).r (P.tp i).rm 64 tr.rT tr.rM wr hT.rng (y',p) hx hw).mono ?_⟩;rintro e w1 ⟨a1,m1,c1,rfl,bA,aE,aF⟩;refine⟨a1,m1,c1,rfl,ξ0 ?_⟩;rintro W rfl;obtain⟨W,hW⟩:=nm ((w1.alloc (.cells #[.int .i64 p.s,.int .i64 p.t,.int .i64 p.l,.int .i64 p.q,.bool p.st,.slice a1 m1 c1] 38)).drew);rw[hW];have aQ:Below w1.heap.size w1 W:=by rw[<-hW];exact((Ξp _ _).alloc (Ξo _) _).drew
  have aS:W.heap[w1.heap.size]?=some (.cells #[.int .i64 p.s,.int .i64 p.t,.int .i64 p.l,.int .i64 p.q,.bool p.st,.slice a1 m1 c1] 38 (0,0)):=by rw[<-hW];exact heap_alloc_new w1 _
  have aG:Below wr.heap.size wr W:=aF.trans (aQ.mono aF.size);obtain⟨o0,aT⟩:=nm (grow o' wr ξ2);have aH:Ext wr o' o0:=by rw[<-aT];exact ξ3 o' wr ξ2
  have bB:(o0 w1.heap.size).n=0:=by rw[<-aT,ξg aF.size]
  have aU:=h1.chg (S:=λ_=>False) (Chg.of_below aG _ _) (λg hg=>hg.elim) aH;have aV:=bA.below aQ;have hm:=aV.2.1;have bC:=ags aU hi ht aS hx (Prod.ext rfl rfl:tr.wy y'=((tr.wy y').1,(tr.wy y').2)) hw;refine⟨bC,?_⟩;have C:=ξ2B n b i o0 { P with lv:=lv } _ tr kd p.s p.t p.l p.q (tr.wy y').1 (tr.wy y').2 p.st a1 m1 c1 p.L W hn aU hi ht aV aE (by rw[<-hm];exact hrf _ hx) (by
   show(N.lt++(L.take j).flatMap (A0w tr kd)).length<=1000000;rw[Ξh];have:=au j;omega)
  refine C.mono ?_;rintro e w2 ⟨rfl,o2,bD,q1,q2,q3⟩;have aI:=ξ1E hn (ξ16 q3) aS bB;have g2:=ags (tr:=tr) q1 hi ht aI hx (Prod.ext rfl rfl:tr.wy y'=((tr.wy y').1,(tr.wy y').2)) hw;refine⟨rfl,g2,ξ0 ((ae _ _).2 ⟨o2,bD,?_,?_,?_⟩)⟩
  ·have e:({ N with lt:=N.lt++(L.take (j+1)).flatMap (A0w tr kd) }:Nd)={ ({ N with lt:=N.lt++(L.take j).flatMap (A0w tr kd) }:Nd)with lt:=if FM.A0k tr.tk (tr.wy y').1 tr.ep (tr.wy y').2 (pby p.s p.t p.l p.q p.st p.L)=0 then(N.lt++(L.take j).flatMap (A0w tr kd))++[(kd,fby tr.tk (tr.wy y').1 tr.ep (tr.wy y').2 (pby p.s p.t p.l p.q p.st p.L))]else N.lt++(L.take j).flatMap (A0w tr kd) }:=by
    rw[am j hj];unfold A0w;rw[hy,ξdO hR.one hx];simp only[];split
    ·rw[List.append_assoc]
    ·rw[Ξu]
   rw[e];exact q1
  ·exact(h2.trans aH h3.size).trans q2 (by have:=h3.size;have:=aG.size;omega)
  ·exact(h3.trans (Chg.of_below aG _ _) h2).trans q3 (h2.trans aH h3.size)
 have ax:Hid (∀wr,St wr nn->Wrote w wr o n b P { N with lt:=N.lt++L.flatMap (A0w tr kd) }):=by
  refine ξ0 ?_;intro wr hs;have:=(ae wr nn).1 hs;rwa [Ξl (by omega)]at this
 have aJ:Hid (St w 0):=by
  refine ξ0 ((ae w 0).2 ⟨o,P.lv,?_,Ext.refl _ _,Chg.refl _ _ _⟩);rw[List.take_zero,List.flatMap_nil,Ξu];exact hN
 obtain⟨R,az⟩:∃R:Nd,{ N with lt:=N.lt++L.flatMap (A0w tr kd) }=R:=⟨_,rfl⟩;rw[az]at ax ⊢;obtain⟨pp,aL⟩:=nm ((P.tp i).p);obtain⟨rb,aW⟩:=nm ((P.tp i).r);obtain⟨wm,aX⟩:=nm ((P.tp i).wm);rw[aL]at aw ay ai;rw[aW]at ay ah ai;rw[aX]at ai;rw[aL];obtain⟨T,hT⟩:=nm tr.rT;obtain⟨M,hM⟩:=nm tr.rM;rw[hT]at aw ah ai;rw[hM]at ah ai;unfold AgS at ai;clear hN ht hR hrf hA hz hL hl aC aO ae am aq au aD az aL aW aX hT hM;go_enter func151,ntmps151;go_wp2_with fail
 go_loopg [15] nn (λgh x wr=>∃j:Nat,j+gh=nn/\x=.int .i64 (j:Int)/\Hid (St wr j))
 case atStart=>exact⟨0,by omega,rfl,aJ⟩
 case round=>
  obtain⟨j,bH,rfl,HS⟩:=hrel;by_cases hj:j<nn
  ·have bE:(j:Int)<(nn:Int):=by omega
   obtain⟨ba,oa,rfl,c0⟩:=aj.out wr j HS.out hj;have CN:=ξ0 (aw.out wr j HS.out hj);have c5:=ay.out wr j HS.out;have CO:=ξ0 (ah.out wr j HS.out hj);have CG:=ξ0 (ai.out wr j HS.out hj);obtain⟨q,hq⟩:=nm (L.getD j 0);rw[hq]at CN CO CG c0;obtain⟨y,hy⟩:=nm (num T q);rw[hy]at CN CO CG;clear hq hy aj aw ah ai ay ax aJ HS;go_wp2_with fail;refine CN.out.mono ?_;rintro e w0 ⟨rfl,bF⟩;obtain rfl:wr=w0:=bF.symm;cases hh:RM.has M y with
   | false=>
     have C:=ξ0 (CO.out hh);have z1:∀w,(binOp .eql 25 (Pack.A0a 5) .nilIface).run prog w=.ok (.bool false) w:=λw=>cmp_eq 5 w;have z2:∀o1 w,(eqGuard .eql 25 o1 (.const .nilIface) (Pack.A0a 5) .nilIface).run prog w=.ok () w:=λo1 w=>ξ3z 5 o1 w;obtain⟨ev,aY⟩:=nm (Pack.A0a 5);rw[aY]at C z1 z2;clear CO CG hh aY CN;go_wp2_with fail;refine C.out.mono ?_;rintro e w1 ⟨rfl,HB⟩;clear C;go_wp2_with fail;go_roundg (nn-(j+1))
     case measure=>omega
     case rel=>exact⟨j+1,by omega,by go_num,ξ0 (HB.out _ ((Ξp _ _).alloc (Ξo _) _))⟩
   | true=>
     obtain⟨p,og,h,C0⟩:=CG.out hh;have C:=ξ0 C0;obtain⟨ps,aZ⟩:=nm p.s;obtain⟨pt,bh⟩:=nm p.t;obtain⟨pl,bi⟩:=nm p.l;obtain⟨pq,bj⟩:=nm p.q;obtain⟨bq,aA⟩:=nm p.st;rw[aZ,bh,bi,bj,aA]at C;clear CO CG hh C0 CN aZ bh bi bj aA;go_wp2_with fail;refine C.out.mono ?_;rintro e w1 ⟨a1,m1,c1,rfl,HB⟩;clear C c5 c0;obtain⟨W1,aM⟩:=nm (w1.alloc (.cells #[.int .i64 ps,.int .i64 pt,.int .i64 pl,.int .i64 pq,.bool bq,.slice a1 m1 c1] 38));obtain⟨S0,C0⟩:=HB.out W1.drew (by rw[<-aM]);obtain⟨pb,bu⟩:=nm w1.heap.size;rw[bu]at S0 C0;have HC:=ξ0 C0;have bG:=ξ0 aM;clear aM C0 HB;go_upto_region 6 with fail
     first|rw[bG.out]|skip
     clear bu;go_region_held3 (λw'=>(w'.cell? ⟨pb,0,none⟩=some (.int .i64 ps)/\w'.cell? ⟨pb,1,none⟩=some (.int .i64 pt)/\w'.cell? ⟨pb,2,none⟩=some (.int .i64 pl)/\w'.cell? ⟨pb,3,none⟩=some (.int .i64 pq)/\w'.cell? ⟨pb,4,none⟩=some (.bool bq)/\w'.cell? ⟨pb,5,none⟩=some (.slice a1 m1 c1))/\w'.cell? ⟨pp,6,none⟩=some (.map (some wm))/\(Instr.lookup 172 (.map (some wm)) (.int .i64 y) false).run prog w'=.ok (.agg #[.int .i64 og,.int .i64 h]) w') (with_reducible assumption) (first|(go_at_call 124;refine HC.out.mono ?_;rintro e w4 ⟨rfl,bI,HD⟩));go_wp2_with fail
     go_roundg (nn-(j+1))
     case measure=>omega
     case rel=>exact⟨j+1,by omega,by go_num,HD⟩
  ·have bE:¬(j:Int)<(nn:Int):=by omega
   obtain rfl:nn=j:=by omega
   have HD:=ξ0 (ax.out wr HS.out);clear aj aw ah ai ay ax aJ HS;go_wp2_with fail
   go_end0
   exact⟨rfl,HD.out⟩
end Go.Proofs.YtpiamlgmadnepaaGreat.ND
namespace Go.Proofs.YtpiamlgmadnepaaGreat.Back
open ChangeShapes WideShapes ChangeAt RowKit Go.Sort Go.Lib BM Mem
def A4g(w:World)(a:Option Addr):Prop:=∀ad,a=some ad->w.heap.size<=ad.block
theorem A4g.none(w:World):A4g w none:=λad e=>by cases e
theorem ξ8r:A1p []=[]:=Ξk (by have:=(ξ1M (L:=[]) rfl).2.2.2.2.1;simpa using this)
theorem ξaV(b o n cap k t:Nat)(r:List Nat)(w:World)(h:Arg w (some ⟨b,o,none⟩) n (k::t::r))(hc:n<=cap)(hs:A1m (k::t::r)=false) :
 Calls prog 149 #[.slice (some ⟨b,o,none⟩) n cap] w λe w'=>∃(k' t':Int) (a':Option Addr) (m c':Nat) (u':Int),e=.returned (.tuple #[.agg #[.int .i64 k',.int .i64 t',.slice a' m c',.int .i64 u'],A0a (A3k k t r)]) /\
  A4g w a'/\(a'=none->m=0/\c'=0)/\Below w.heap.size w w'/\(A3k k t r≠0->k'=0/\t'=0/\u'=0/\A0b w' a' m [])/\(A3k k t r=0->k'=k/\t'=t/\u'=A2g k r/\A0b w' a' m (A2f k r)):=by
 have HS:Hid (∀W,Below w.heap.size w W->Calls prog 182 #[.slice (some ⟨b,o,none⟩) n cap] W λe w'=>e=.returned (.bool false)/\w'=W):=λW hW=>by
  have:=ξ5u _ n cap _ W (h.below hW);rw[hs]at this;exact this
 have HP:Hid (∀W,Below w.heap.size w W->Calls prog 183 #[.slice (some ⟨b,o,none⟩) n cap] W _):=λW hW=>ξbb b o n cap k t r W (h.below hW) hc hs;have HF:Hid (A3k k t r=if A2b k r then 2 else if A0o k t (A2f k r) (A2g k r)≠0∨A0c k t (A2f k r) (A2g k r)≠k::t::r then 2 else 0):=rfl;have aD:Hid (A0o k t (A2f k r) (A2g k r)=0->A8l k t (A2f k r) (A2g k r)=A0c k t (A2f k r) (A2g k r)):=λhz=>by rw[A8l,if_pos hz]
 have HA:=ξ0 h;generalize A3k k t r=F at *;generalize A2f k r=L at *;generalize A2g k r=u at *;have aJ:Below w.heap.size w (w.alloc (.cells #[.int .i64 0,.int .i64 0,.slice none 0 0,.int .i64 0] 242)):=(Ξp _ _).alloc (Ξo _) _;have au:=ξ0 aJ;clear h hs aJ;obtain⟨gf,aT⟩:=nm (A2b k r);rw[aT]at HP HF;cases gf with
 | true=>
   obtain rfl:F=2:=by rw[HF.out];rfl
   clear HF aD;go_enter func149,ntmps149;go_wp2_with fail
   refine(HS.out _ au.out).mono ?_;rintro e w1 ⟨rfl,rfl⟩;go_wp2_with fail;refine(HP.out _ au.out).mono ?_;rintro e w1 ⟨k',t',a',m,c',u',rfl,_,_,_,aj⟩;have am:Hid (A02 w1 w.heap.size 0 0 (.slice none 0 0) 0):=(A02.new w 0 0 (.slice none 0 0) 0).below aj (by simp);have ay:=ξ0 (au.out.trans (aj.mono (by simp)));clear aj;have aE:=am.out.lt;go_upto_region 4 with fail
   obtain⟨w2,ae⟩:=nm (w1.alloc (.cells #[.int .i64 k',.int .i64 t',.slice a' m c',.int .i64 u'] 242));rw[ae];have ah:Hid (A02 w2 w.heap.size 0 0 (.slice none 0 0) 0):=ae ▸ am.out.alloc _;have aw:Hid (A02 w2 w1.heap.size k' t' (.slice a' m c') u'):=ae ▸ A02.new w1 k' t' (.slice a' m c') u';have aq:Hid (Below w.heap.size w w2):=ae ▸ ay.out.alloc ay.out.size _;clear ae am;obtain⟨j0,j1,j2,j3⟩:=ah.out.cells;have f0:=ah.out.free 0;have f1:=ah.out.free 1;have f2:=ah.out.free 2;have f3:=ah.out.free 3;go_wp2_with fail
   refine bodyPost_ret (ξ1t (g:=w.heap.size) rfl rfl (ah.out.put 0 0 (.slice none 0 0) 0) ⟨_,_,_,rfl⟩) rfl ?_;exact⟨0,0,none,0,0,0,rfl,A4g.none w,λ_=>⟨rfl,rfl⟩,(((aq.out.setCell (Ξo _) _).setCell (Ξo _) _).setCell (Ξo _) _).setCell (Ξo _) _,λ_=>⟨rfl,rfl,rfl,A0b.nil _ _⟩,λh=>absurd h (by decide)⟩
 | false=>
   go_enter func149,ntmps149;go_wp2_with fail
   refine(HS.out _ au.out).mono ?_;rintro e w1 ⟨rfl,rfl⟩;go_wp2_with fail;refine(HP.out _ au.out).mono ?_;rintro e w1 ⟨k',t',a',m,c',u',rfl,aL,aM,aF,aj⟩;obtain⟨rfl,rfl,rfl,hI⟩:=aL (by first|rfl|trivial);have am:Hid (A02 w1 w.heap.size 0 0 (.slice none 0 0) 0):=(A02.new w 0 0 (.slice none 0 0) 0).below aj (by simp);have ay:=ξ0 (au.out.trans (aj.mono (by simp)));have aO:=ξ0 hI;have aP:=ξ0 aM;have aC:Hid (∀ad,a'=some ad->ad.block≠w.heap.size):=λad e=>by have:=aF ad e;simp at this;omega
   have aU:Hid (A4g w a'):=λad e=>by have:=aF ad e;simp at this;omega
   clear aj aL hI aM aF;have aE:=am.out.lt;go_upto_region 4 with fail
   obtain⟨w2,ae⟩:=nm (w1.alloc (.cells #[.int .i64 (k:Int),.int .i64 (t:Int),.slice a' m c',.int .i64 (u:Int)] 242));rw[ae];have ah:Hid (A02 w2 w.heap.size 0 0 (.slice none 0 0) 0):=ae ▸ am.out.alloc _;have aw:Hid (A02 w2 w1.heap.size k t (.slice a' m c') (u)):=ae ▸ A02.new w1 k t (.slice a' m c') (u);have aq:Hid (Below w.heap.size w w2):=ae ▸ ay.out.alloc ay.out.size _;have aG:Hid (A0b w2 a' m (L)):=aO.out.below (ae ▸ (Ξp _ _).alloc (Ξo _) _);have aV:w1.heap.size<w2.heap.size:=aw.out.lt;have aQ:=ξ0 (ξa8 k t a' m c' (u) (L) w2 aG.out aP.out);have aW:=ξq (A0o k t (L) (u));have aZ:=ξp (A0o k t (L) (u));clear ae am aO;generalize A8l k t L u=EB at *;generalize A0c k t L u=EC at *;generalize A0o k t L u=f at *;obtain⟨k0,k1,k2,k3⟩:=aw.out.cells;go_wp2_with fail;refine aQ.out.mono ?_;rintro e w3 ⟨a3,m3,c3,rfl,aS,_,_,ax⟩;have ai:=ξ0 (ah.out.below ax ah.out.lt);have aX:=ξ0 (aw.out.below ax aw.out.lt);have aH:=ξ0 (aq.out.trans (ax.mono aq.out.size));have aY:=ξ0 (aG.out.below ax);have aI:=ξ0 (ξ2y a3 (some ⟨b,o,none⟩) m3 c3 n cap EB (k::t::r) w3 aS (HA.out.below (aq.out.trans (ax.mono aq.out.size))));clear aS ax k0 k1 k2 k3 aQ aG aq ah aw;obtain⟨z,hz⟩:=nm (decide (f=0));rw[hz]at aW;obtain⟨q,hq⟩:=nm (decide (EB=k::t::r));rw[hq]at aI;obtain⟨j0,j1,j2,j3⟩:=ai.out.cells;have f0:=ai.out.free 0;have f1:=ai.out.free 1;have f2:=ai.out.free 2;have f3:=ai.out.free 3;have HZ:=ξ0 hz;have HQ:=ξ0 hq;clear hz hq;have az:∀W,Hid (Below w.heap.size w W)->Hid (Below w.heap.size w ((((W.setCell ⟨w.heap.size,0,none⟩ (.int .i64 0)).setCell ⟨w.heap.size,1,none⟩ (.int .i64 0)).setCell ⟨w.heap.size,2,none⟩ (.slice none 0 0)).setCell ⟨w.heap.size,3,none⟩ (.int .i64 0))):=λW hW=>(((hW.out.setCell (Ξo _) _).setCell (Ξo _) _).setCell (Ξo _) _).setCell (Ξo _) _;have aA:=ξ0 az;clear az;cases z with
   | false=>
     have hF:F=2:=by
      rw[HF.out,if_neg (by decide),if_pos (.inl (of_decide_eq_false HZ.out))]
     subst hF;go_wp2_with fail;refine bodyPost_ret (ξ1t (g:=w.heap.size) rfl rfl (ai.out.put 0 0 (.slice none 0 0) 0) ⟨_,_,_,rfl⟩) rfl ?_;exact⟨0,0,none,0,0,0,rfl,A4g.none w,λ_=>⟨rfl,rfl⟩,aA.out _ aH,λ_=>⟨rfl,rfl,rfl,A0b.nil _ _⟩,λh=>absurd h (by decide)⟩
   | true=>
     cases q with
     | false=>
       have hF:F=2:=by
        rw[HF.out,if_neg (by decide),if_pos (.inr (by rw[<-aD.out (of_decide_eq_true HZ.out)];exact of_decide_eq_false HQ.out))]
       subst hF;go_wp2_with fail;refine aI.out.mono ?_;rintro e w4 ⟨rfl,rfl⟩;go_wp2_with fail;refine bodyPost_ret (ξ1t (g:=w.heap.size) rfl rfl (ai.out.put 0 0 (.slice none 0 0) 0) ⟨_,_,_,rfl⟩) rfl ?_;exact⟨0,0,none,0,0,0,rfl,A4g.none w,λ_=>⟨rfl,rfl⟩,aA.out _ aH,λ_=>⟨rfl,rfl,rfl,A0b.nil _ _⟩,λh=>absurd h (by decide)⟩
     | true=>
       have hF:F=0:=by
        rw[HF.out,if_neg (by decide),if_neg];rw[not_or,Decidable.not_not,Decidable.not_not];exact⟨of_decide_eq_true HZ.out,by rw[<-aD.out (of_decide_eq_true HZ.out)];exact of_decide_eq_true HQ.out⟩
       subst hF;obtain⟨k0,k1,k2,k3⟩:=aX.out.cells;go_wp2_with fail;refine aI.out.mono ?_;rintro e w4 ⟨rfl,rfl⟩;go_wp2_with fail;refine bodyPost_ret (ξ1t (g:=w.heap.size) rfl rfl (ai.out.put k t (.slice a' m c') u) ⟨_,_,_,rfl⟩) rfl ?_;exact⟨k,t,a',m,c',u,rfl,aU.out,aP.out,(((aH.out.setCell (Ξo _) _).setCell (Ξo _) _).setCell (Ξo _) _).setCell (Ξo _) _,rfl,rfl,rfl,(((aY.out.set aC.out _).set aC.out _).set aC.out _).set aC.out _⟩
theorem ξ5z(a:Option Addr)(n cap:Nat)(B:List Nat)(w:World)(h:Arg w a n B)(hc:n<=cap) :
 Calls prog 149 #[.slice a n cap] w λe w'=>∃(k' t':Int) (a':Option Addr) (m c':Nat) (u':Int),e=.returned (.tuple #[.agg #[.int .i64 k',.int .i64 t',.slice a' m c',.int .i64 u'],A0a (A0y B)])/\A4g w a'/\Reads w w' B k' t' a' m c' u':=by
 by_cases hs:A1m B=true
 ·have hf:A0y B=8:=by unfold A0y;rw[if_pos hs]
  refine(ξ2Y a n cap B w h hs).mono ?_;rintro e w' ⟨rfl,hb⟩;refine⟨0,0,none,0,0,0,by rw[hf],A4g.none w,λ_=>⟨rfl,rfl⟩,hb,λ_=>⟨rfl,rfl,rfl,A0b.nil _ _⟩,λh0=>?_⟩;rw[hf]at h0;omega
 ·have ae:A1m B=false:=by simpa using hs
  match B,h,ae with
  | [],_,h1=>simp[A1m]at h1
  | [_],_,h1=>simp[A1m]at h1
  | k::t::r,h,h1=>
    have hf:=ξ2W k t r h1;obtain⟨b,o,rfl⟩:=ξ1q h (by have:=h.2.1;simp at this;omega);refine(ξaV b o n cap k t r w h hc h1).mono ?_;rintro e w' ⟨k',t',a',m,c',u',rfl,ah,hn,hb,h2,h3⟩;refine⟨k',t',a',m,c',u',by rw[hf],ah,hn,hb,λh0=>h2 (by rw[hf]at h0;exact h0),λh0=>?_⟩;rw[hf]at h0;obtain⟨e1,e2,e3,e4⟩:=h3 h0;exact⟨k,t,r,rfl,h1,h0,e1,e2,e3,e4⟩
end Go.Proofs.YtpiamlgmadnepaaGreat.Back
namespace Go.Proofs.YtpiamlgmadnepaaGreat.ND
open ChangeShapes WideShapes ChangeAt RowKit Maps Go.Lib Mem NO
theorem ξ5g(n b i:Nat)(o:Nat->Tg)(P:NP)(N:Nd)(tr:Tr)(fr:Int)(L:List Int)(a:Option Addr)(m cap:Nat)(w:World)(hn:n≠0)(hN:NAt w o n b P N)(hi:i<8)(ht:N.tr i=some tr)(hR:RM.Inv 64 tr.rT tr.rM)(hA:Arg w a m (Back.A0c 1 ((i:Int)+1) L 0))(hc:m<=cap)(hef:Back.A0o 1 ((i:Int)+1) L 0=0)(hkid:fr∈tr.kids)(hkf:∀x∈tr.rM,PM.fault x.2.s x.2.t x.2.l x.2.q x.2.L.length=0)(hl:N.lt.length<=1000) :
 Calls prog 117 #[.pointer (some ⟨b,0,none⟩),.int .i64 fr,.slice a m cap] w λe w'=>e=.returned .nilIface/\Done w w' o n b { N with lt:=N.lt++L.flatMap (A0w tr fr) }:=by
 obtain⟨k1,t1,r,e1,e2,e3,e4,e5,e6,e7⟩:=Back.again hef;have aP:k1=1:=by omega
 have aQ:t1=i+1:=by omega
 subst aP;subst aQ;rw[e3]at hA;have aw:Back.A0y (1::(i+1)::r)=0:=(Back.ξ2W 1 (i+1) r e4).trans e5;have CR:=ξ0 (Back.ξ5z a m cap _ w hA hc);rw[aw]at CR;obtain⟨o0,ax⟩:=nm (grow o w ξ2);have aj:Ext w o o0:=by rw[<-ax];exact ξ3 o w ξ2
 obtain⟨R,ah⟩:∃R:Nd,{ N with lt:=N.lt++L.flatMap (A0w tr fr) }=R:=⟨_,rfl⟩;rw[ah];have ay:=Back.ξX (Back.ξY hef).2;obtain⟨nl,az⟩:=nm L.length;have aS:nl<=200:=by rw[<-az];exact ay.1
 have HS:Hid (∀W a' c',Below w.heap.size w W->Back.A4g w a'->Back.A0b W a' nl L->Calls prog 151 #[.pointer (some ⟨b,0,none⟩),.int .i64 fr,.pointer (some ⟨(P.tp i).p,0,none⟩),.slice a' nl c'] W λe w'=>e=.returned (.tuple #[])/\Hid (Done w w' o n b R)):=by
  refine ξ0 ?_;intro W a' c' aA am ae;have aT:NAt W o0 n b P N:=hN.chg (S:=λ_=>False) (Chg.of_below aA _ _) (λg hg=>hg.elim) aj;have C:=ξck n b i o0 P N tr fr a' nl c' L W hn aT hi ht hR hkf ae (λad e _=>by rw[<-ax,ξg (am ad e)]) ay.2 (by omega) hl;rw[ah]at C;refine C.mono ?_;rintro e w' ⟨rfl,o',lv,q1,q2,q3⟩;exact⟨rfl,ξ0 ⟨o',_,q1,aj.trans q2 aA.size,(Chg.of_below aA _ _).trans (ξ16 q3) aj⟩⟩
 have HN:=ξ0 hN;have aG:=ξ0 ht;have HK:=ξ0 hkid;have HZ:=ξ0 (And.intro aw (And.intro e6 e7));obtain⟨aY,aZ,bh⟩:=ξ2I hi;have aH:=hi;have aU:=ξ0 az;clear hN ht hR hA hc hef hkid hkf hl ay az e1 e2 e3 e4 e5 e6 e7 aw ax aj ah hi;go_enter func117,ntmps117;go_wp2_with fail
 refine CR.out.mono ?_;rintro e w1 ⟨k',t',a',m',c',u',rfl,am,_,aC,_,hz⟩;rw[show Back.A0a 0=Value.nilIface from rfl];obtain⟨rfl,rfl,rfl,ae⟩:k'=1/\t'=(i:Int)+1/\nl=m'/\Back.A0b w1 a' m' L:=by
  obtain⟨kk,tt,rr,ai,_,_,aV,aW,_,ae⟩:=hz HZ.out.1;cases ai;rw[HZ.out.2.1]at ae;exact⟨by rw[aV];rfl,by rw[aW];omega,aU.out.symm.trans ae.2.1,ae⟩
 obtain⟨W1,aq⟩:=nm (w1.alloc (.cells #[.int .i64 1,.int .i64 ((i:Int)+1),.slice a' nl c',.int .i64 u'] 242));have aD:Below w1.heap.size w1 W1:=by rw[<-aq];exact(Ξp _ _).alloc (Ξo _) _
 have au:W1.heap[w1.heap.size]?=some (.cells #[.int .i64 1,.int .i64 ((i:Int)+1),.slice a' nl c',.int .i64 u'] 242 (0,0)):=by rw[<-aq];exact heap_alloc_new w1 _
 have f0:W1.cell? ⟨w1.heap.size,0,none⟩=some (.int .i64 1):=by simp[World.cell?,au]
 have f1:W1.cell? ⟨w1.heap.size,1,none⟩=some (.int .i64 ((i:Int)+1)):=by simp[World.cell?,au]
 have f2:W1.cell? ⟨w1.heap.size,2,none⟩=some (.slice a' nl c'):=by simp[World.cell?,au]
 have aE:Below w.heap.size w W1:=aC.trans (aD.mono aC.size);have aF:=HN.out.below aE;have ct:=aF.A2l aH;have hT:=(aF.trs i aH tr aG.out).1;have c3:W1.cell? ⟨(P.tp i).p,3,none⟩=some (.slice (P.tp i).ka tr.kids.length (P.tp i).kc):=by simp[World.cell?,hT.box]
 have CC:=λj=>ξ2O (P.tp i).ka tr.kids.length (P.tp i).kc tr.kids fr (W1.drewN j) ⟨λz hz=>hT.kid.1 z hz,hT.kid.2⟩;rw[decide_eq_true HK.out]at CC;have HC:=ξ0 CC;have CS:=ξ0 (λj=>HS.out (W1.drewN j) a' c' (below_drewN' aE) am ((ae.below aD).below (below_drewN' (Ξp _ _))));rw[aG.out]at ct;simp only[tpv]at ct;obtain⟨pb,aI⟩:=nm w1.heap.size;rw[aI]at f0 f1 f2;obtain⟨pp,aJ⟩:=nm ((P.tp i).p);obtain⟨ka,aL⟩:=nm ((P.tp i).ka);obtain⟨kc,aM⟩:=nm ((P.tp i).kc);obtain⟨kl,aO⟩:=nm tr.kids.length;rw[aJ]at ct c3 CS;rw[aL,aM,aO]at c3 HC;have aX:=ξ0 aq;clear aC aD au aE aq aF hz CR hT CC aJ aL aM aO ae HS am;go_upto_region 4 with fail
 first|rw[aX.out]|skip
 clear aI;go_quiet (fail);go_wp2_with fail
 refine(HC.out _).mono ?_;rintro e w2 ⟨rfl,rfl⟩;go_wp2_with fail;refine(CS.out _).mono ?_;rintro e w3 ⟨rfl,HD⟩;go_wp2_with fail;go_ret;exact⟨rfl,HD.out⟩
theorem ξ9f(n b i:Nat)(o:Nat->Tg)(P:NP)(N:Nd)(tr:Tr)(w:World)(bk:Value)(hbk:∃k t a m c u,bk=.agg #[.int .i64 k,.int .i64 t,.slice a m c,.int .i64 u])(hN:NAt w o n b P N)(hi:i<8)(ht:N.tr i=some tr)(hpa:tr.pa=-1) :
 Calls prog 152 #[.pointer (some ⟨b,0,none⟩),.pointer (some ⟨(P.tp i).p,0,none⟩),bk] w λe w'=>e=.returned (.tuple #[])/\Below w.heap.size w w':=by
 obtain⟨k,t,a,m,c,u,rfl⟩:=hbk;have hT:=(hN.trs i hi tr ht).1.box;have c2:∀O,(w.alloc O).cell? ⟨(P.tp i).p,2,none⟩=some (.int .i64 (-1)):=by
  intro O;have:(w.alloc O).heap[(P.tp i).p]?=_:=(Below.heap_alloc _ _ _ (lt_of_block hT)).trans hT;rw[<-hpa];simp[World.cell?,this]
 obtain⟨pp,ae⟩:=nm ((P.tp i).p);rw[ae]at c2;rw[ae];clear hT hN hi ht hpa ae;go_enter func152,ntmps152;go_wp2_with fail
 (try simp only[Exit.inBlock,Exit.then])
 refine bodyPost_ret (results_none rfl _ _ _) rfl ?_;exact⟨rfl,(Ξp _ _).alloc (Ξo _) _⟩
theorem ξ6f(n b i:Nat)(o:Nat->Tg)(P:NP)(N:Nd)(tr:Tr)(fr v:Int)(a:Option Addr)(m cap:Nat)(w:World)(hn:n≠0)(hN:NAt w o n b P N)(hi:i<8)(ht:N.tr i=some tr)(hA:Arg w a m (Back.A0c 2 ((i:Int)+1) [] v))(hc:m<=cap)(hef:Back.A0o 2 ((i:Int)+1) [] v=0)(hkid:fr∈tr.kids)(hl:N.lt.length<=1000) :
 Calls prog 117 #[.pointer (some ⟨b,0,none⟩),.int .i64 fr,.slice a m cap] w λe w'=>e=.returned .nilIface/\Done w w' o n b { N with lt:=N.lt++(if tr.pa=-1 then[]else[(tr.pa,Back.A0c 2 ((i:Int)+1) [] v)]) }:=by
 obtain⟨k1,t1,r,e1,e2,e3,e4,e5,e6,e7⟩:=Back.again hef;have aO:k1=2:=by omega
 have aP:t1=i+1:=by omega
 subst aO;subst aP;rw[e3]at hA;have ax:Back.A0y (2::(i+1)::r)=0:=(Back.ξ2W 2 (i+1) r e4).trans e5;have CR:=ξ0 (Back.ξ5z a m cap _ w hA hc);rw[ax]at CR;obtain⟨o0,aE⟩:=nm (grow o w ξ2);have ai:Ext w o o0:=by rw[<-aE];exact ξ3 o w ξ2
 obtain⟨R,ae⟩:∃R:Nd,{ N with lt:=N.lt++(if tr.pa=-1 then[]else[(tr.pa,Back.A0c 2 ((i:Int)+1) [] v)]) }=R:=⟨_,rfl⟩;rw[ae];have HS:Hid (∀W a' c',Below w.heap.size w W->Back.A0b W a' 0 []->(a'=none->True/\c'=0)->Calls prog 152 #[.pointer (some ⟨b,0,none⟩),.pointer (some ⟨(P.tp i).p,0,none⟩),.agg #[.int .i64 2,.int .i64 ((i:Int)+1),.slice a' 0 c',.int .i64 v]] W λe w'=>e=.returned (.tuple #[])/\Hid (Done w w' o n b R)):=by
  refine ξ0 ?_;intro W a' c' au ah aQ;have ay:NAt W o0 n b P N:=hN.chg (S:=λ_=>False) (Chg.of_below au _ _) (λg hg=>hg.elim) ai;by_cases hpa:tr.pa=-1
  ·rw[if_pos hpa,Ξu]at ae;refine(ξ9f n b i o0 P N tr W (.agg #[.int .i64 2,.int .i64 ((i:Int)+1),.slice a' 0 c',.int .i64 v]) ⟨_,_,_,_,_,_,rfl⟩ ay hi ht hpa).mono ?_;rintro e w' ⟨rfl,hb⟩;refine⟨rfl,ξ0 ⟨o0,P,?_,ai,(Chg.of_below au _ _).trans (Chg.of_below hb o0 _) ai⟩⟩;rw[<-ae];exact ay.below hb
  ·rw[if_neg hpa]at ae;have C:=ξ1S n b i o0 P N tr 2 ((i:Int)+1) v a' 0 c' [] W hn ay hi ht hpa ah (λe=>⟨rfl,(aQ e).2⟩) hef (by
    show(Back.A0c 2 ((i:Int)+1) [] v).length<=2000;unfold Back.A0c Back.tail;rw[Back.ξ8r];simp[Back.ξ1f,Back.A06]) (by omega)
   rw[ae]at C;refine C.mono ?_;rintro e w' ⟨rfl,o',lv,q1,q2,q3⟩;exact⟨rfl,ξ0 ⟨o',_,q1,ai.trans q2 au.size,(Chg.of_below au _ _).trans (ξ16 q3) ai⟩⟩
 have HN:=ξ0 hN;have aF:=ξ0 ht;have HK:=ξ0 hkid;have HZ:=ξ0 (And.intro ax (And.intro e6 e7));obtain⟨aW,aX,aY⟩:=ξ2I hi;have aG:=hi;clear hN ht hA hc hef hkid hl e1 e2 e3 e4 e5 e6 e7 ax aE ai ae hi;go_enter func117,ntmps117;go_wp2_with fail
 refine CR.out.mono ?_;rintro e w1 ⟨k',t',a',m',c',u',rfl,_,aj,az,_,hz⟩;rw[show Back.A0a 0=Value.nilIface from rfl];obtain⟨rfl,rfl,rfl,rfl,ah⟩:k'=2/\t'=(i:Int)+1/\m'=0/\v=u'/\Back.A0b w1 a' m' []:=by
  obtain⟨kk,tt,rr,am,_,_,aS,aT,aU,ah⟩:=hz HZ.out.1;cases am;rw[HZ.out.2.1]at ah;exact⟨by rw[aS];rfl,by rw[aT];omega,ah.2.1.symm,HZ.out.2.2.symm.trans aU.symm,ah⟩
 obtain⟨W1,aw⟩:=nm (w1.alloc (.cells #[.int .i64 2,.int .i64 ((i:Int)+1),.slice a' 0 c',.int .i64 v] 242));have aA:Below w1.heap.size w1 W1:=by rw[<-aw];exact(Ξp _ _).alloc (Ξo _) _
 have aq:W1.heap[w1.heap.size]?=some (.cells #[.int .i64 2,.int .i64 ((i:Int)+1),.slice a' 0 c',.int .i64 v] 242 (0,0)):=by rw[<-aw];exact heap_alloc_new w1 _
 have f0:W1.cell? ⟨w1.heap.size,0,none⟩=some (.int .i64 2):=by simp[World.cell?,aq]
 have f1:W1.cell? ⟨w1.heap.size,1,none⟩=some (.int .i64 ((i:Int)+1)):=by simp[World.cell?,aq]
 have f2:W1.cell? ⟨w1.heap.size,2,none⟩=some (.slice a' 0 c'):=by simp[World.cell?,aq]
 have f3:W1.cell? ⟨w1.heap.size,3,none⟩=some (.int .i64 v):=by simp[World.cell?,aq]
 have aC:Below w.heap.size w W1:=az.trans (aA.mono az.size);have aD:=HN.out.below aC;have ct:=aD.A2l aG;have hT:=(aD.trs i aG tr aF.out).1;have c3:W1.cell? ⟨(P.tp i).p,3,none⟩=some (.slice (P.tp i).ka tr.kids.length (P.tp i).kc):=by simp[World.cell?,hT.box]
 have CC:=λj=>ξ2O (P.tp i).ka tr.kids.length (P.tp i).kc tr.kids fr (W1.drewN j) ⟨λz hz=>hT.kid.1 z hz,hT.kid.2⟩;rw[decide_eq_true HK.out]at CC;have HC:=ξ0 CC;have CS:=ξ0 (λj=>HS.out (W1.drewN j) a' c' (below_drewN' aC) ((ah.below aA).below (below_drewN' (Ξp _ _))) (λe=>⟨trivial,(aj e).2⟩));rw[aF.out]at ct;simp only[tpv]at ct;obtain⟨pb,aH⟩:=nm w1.heap.size;rw[aH]at f0 f1 f2 f3;obtain⟨pp,aI⟩:=nm ((P.tp i).p);obtain⟨ka,aJ⟩:=nm ((P.tp i).ka);obtain⟨kc,aL⟩:=nm ((P.tp i).kc);obtain⟨kl,aM⟩:=nm tr.kids.length;rw[aI]at ct c3 CS;rw[aJ,aL,aM]at c3 HC;have aV:=ξ0 aw;clear az aA aq aC aw aD hz CR hT CC aI aJ aL aM ah HS aj;go_upto_region 4 with fail
 first|rw[aV.out]|skip
 clear aH;go_quiet (fail);go_wp2_with fail
 refine(HC.out _).mono ?_;rintro e w2 ⟨rfl,rfl⟩;go_wp2_with fail;refine(CS.out _).mono ?_;rintro e w3 ⟨rfl,HD⟩;go_wp2_with fail;go_ret;exact⟨rfl,HD.out⟩
def Res(Φ:Nat->Nd->Prop)(w w':World)(o:Nat->Tg)(n b:Nat)(N:Nd)(f:Nat):Prop:=(f=0->∃N',Φ f N'/\Done w w' o n b N')/\(f≠0->Φ f N/\Below w.heap.size w w')
theorem ξbG{w:World}{b o m:Nat}{B:List Nat}(h:Arg w (some ⟨b,o,none⟩) m B)(hm:0<m):∃x,B.head?=some x/\x<256/\w.cell? ⟨b,o,none⟩=some (.int .u8 (x:Int)):=by
 match B,h with
 | [],h=>have:=h.2.1;simp at this;omega
 | x::B,h=>
   refine⟨x,rfl,h.1.1 x (by simp),?_⟩;have:=Pack.ξf h 0 hm;simpa using this
theorem ξ7e(n b:Nat)(o:Nat->Tg)(P:NP)(N:Nd)(fr now:Int)(a:Option Addr)(m cap:Nat)(B:List Nat)(w:World)(Φ:Nat->Nd->Prop)(hn:n≠0)(hN:NAt w o n b P N)(hnow:GM.tf N.nw now=0)(hA:Arg w a m B)
 (HF:∀W,Below w.heap.size w W->B.head?=some 70->Calls prog 116 #[.pointer (some ⟨b,0,none⟩),.int .i64 fr,.slice a m cap,.int .i64 now] W λe w'=>∃f,e=.returned (A0a f)/\Res Φ W w' (grow o w ξ2) n b N f)
 (HB:∀W,Below w.heap.size w W->B.head?≠some 70->Calls prog 117 #[.pointer (some ⟨b,0,none⟩),.int .i64 fr,.slice a m cap] W λe w'=>∃f,e=.returned (A0a f)/\Res Φ W w' (grow o w ξ2) n b N f) :
 Calls prog 89 #[.pointer (some ⟨b,0,none⟩),.int .i64 fr,.slice a m cap,.int .i64 now] w λe w'=>∃f,e=.returned (A0a f)/\(f=0->∃N',Φ f N'/\Done w w' o n b { N' with nw:=now })/\(f≠0->Φ f N/\Below w.heap.size w w'):=by
 have CA:=ξ0 (Gaps.ξH N.nw now w);rw[if_pos hnow,hnow]at CA;obtain⟨o0,az⟩:=nm (grow o w ξ2);rw[az]at HF HB;have aA:Ext w o o0:=by rw[<-az];exact ξ3 o w ξ2
 have am:∀j,w.heap.size<=j->(o0 j).n=0:=λj hj=>by rw[<-az,ξg hj]
 have c0:=hN.cells.1;obtain⟨nw,aI⟩:=nm N.nw;rw[aI]at c0 CA;have aS:=ξ0 aA;have aM:=ξ0 am;have aC:=ξ0 HF;have aw:=ξ0 HB;have HA:=ξ0 hA
 -- behind hearFrame or hearBack
 have ai:Hid (∀W1 w2 f cb,Below w.heap.size w W1->W1.heap[cb]?=some (.cells #[.int .i64 now] 89 (0,0))->w.heap.size<=cb->Res Φ W1 w2 o0 n b N f->(f=0->w2.cell? ⟨cb,0,none⟩=some (.int .i64 now)/\(∃v,w2.cell? ⟨b,0,none⟩=some v)/\w2.frozen? ⟨b,0,none⟩=false/\∃N',Φ f N'/\Done w (w2.setCell ⟨b,0,none⟩ (.int .i64 now)) o n b { N' with nw:=now })/\(f≠0->Φ f N/\Below w.heap.size w w2)):=by
  refine ξ0 ?_;intro W1 w2 f cb aq ax aD aj;refine⟨λh0=>?_,λh0=>⟨(aj.2 h0).1,aq.trans ((aj.2 h0).2.mono aq.size)⟩⟩;obtain⟨N',hΦ,o2,P2,r1,r2,r3⟩:=aj.1 h0;have ay:w2.heap[cb]?=some (.cells #[.int .i64 now] 89 (0,0)):=ξ1E hn r3 ax (am _ aD);have aH:=r1.A4u hn now;have aO:=ξx (r1.A53 0 (.int .i64 now));refine⟨by simp[World.cell?,ay],⟨_,r1.cells.1⟩,r1.free 0,N',hΦ,o2,P2,aH,λj hj=>?_,?_⟩
  ·rw[r2 j (by have:=aq.size;omega)];exact aA j hj
  ·exact(Chg.of_below aq o _).trans (r3.trans aO r2) aA
 clear hN hnow hA az aA am aI HF HB;go_enter func89,ntmps89;go_wp2_with fail
 refine CA.out.mono ?_;rintro e w1 ⟨rfl,aE⟩;rw[show Gaps.A0a 0=Value.nilIface from rfl];obtain⟨W1,aF⟩:=nm (w1.alloc (.cells #[.int .i64 now] 89));have aq:Below w.heap.size w W1:=by rw[<-aF];exact aE.alloc aE.size _
 have ax:W1.heap[w1.heap.size]?=some (.cells #[.int .i64 now] 89 (0,0)):=by rw[<-aF];exact heap_alloc_new w1 _
 have au:w.heap.size<=w1.heap.size:=aE.size;obtain⟨cb,aD⟩:=nm w1.heap.size;rw[aD]at ax au;have HX:=ξ0 (And.intro aq (And.intro ax au));have aP:=ξ0 aF;clear aE aF aq ax au CA c0;go_upto_region 4 with fail
 first|rw[aP.out]|skip
 clear aD;by_cases hm:m=0
 ·subst hm;have aJ:B.head?≠some 70:=by
   have:=HA.out.2.1;rw[List.length_eq_zero_iff.1 this];simp
  have CH:=ξ0 (aw.out W1 HX.out.1 aJ);clear aC aw HA aJ;go_wp2_with fail;refine CH.out.mono ?_;rintro e w2 ⟨fl,rfl,aj⟩;have hE:=ai.out W1 w2 fl cb HX.out.1 HX.out.2.1 HX.out.2.2 aj;have HE:=ξ0 hE;have q1:=ξq fl;have q2:=ξp fl;clear aj hE ai CH;by_cases hf0:fl=0
  ·have d0:decide (fl=0)=true:=by simpa using hf0
   obtain⟨ck,⟨v,cc⟩,ff,ae⟩:=HE.out.1 hf0;have HD:=ξ0 ae;have ah:=ξ0 hf0;clear ae hf0 HE;go_wp2_with fail;go_ret;exact⟨fl,by rw[ah.out];rfl,λ_=>HD.out,λh=>absurd ah.out h⟩
  ·have d0:decide (fl=0)=false:=by simpa using hf0
   have ah:=ξ0 hf0;clear hf0;go_wp2_with fail;go_ret;exact⟨fl,rfl,λh=>absurd h ah.out,λ_=>HE.out.2 ah.out⟩
 ·have aG:0<m:=by omega
  have aT:(0:Int)<(m:Int):=by omega
  have aU:decide ((0:Int)<(m:Int))=true:=by simpa using aG
  have aQ:decide (0<m)=true:=by simpa using aG
  obtain⟨ba,oa,rfl⟩:=Pack.ξ1q HA.out aG;obtain⟨x,hx,aL,cx⟩:=ξbG HA.out aG;have aV:=ξc HX.out.1 cx;by_cases h70:x=70
  ·subst h70;have CH:=ξ0 (aC.out W1 HX.out.1 hx);clear aC aw HA hx aL cx hm;go_wp2_with fail;refine CH.out.mono ?_;rintro e w2 ⟨fl,rfl,aj⟩;have hE:=ai.out W1 w2 fl cb HX.out.1 HX.out.2.1 HX.out.2.2 aj;have HE:=ξ0 hE;have q1:=ξq fl;have q2:=ξp fl;clear aj hE ai CH;by_cases hf0:fl=0
   ·have d0:decide (fl=0)=true:=by simpa using hf0
    obtain⟨ck,⟨v,cc⟩,ff,ae⟩:=HE.out.1 hf0;have HD:=ξ0 ae;have ah:=ξ0 hf0;clear ae hf0 HE;go_wp2_with fail;go_ret;exact⟨fl,by rw[ah.out];rfl,λ_=>HD.out,λh=>absurd ah.out h⟩
   ·have d0:decide (fl=0)=false:=by simpa using hf0
    have ah:=ξ0 hf0;clear hf0;go_wp2_with fail;go_ret;exact⟨fl,rfl,λh=>absurd h ah.out,λ_=>HE.out.2 ah.out⟩
  ·have CH:=ξ0 (aw.out W1 HX.out.1 (by rw[hx];simpa using h70));have aW:((x:Int)==70)=false:=by
    have:(x:Int)≠70:=by omega
    simpa using this
   clear aC aw HA hx aL cx hm h70;go_wp2_with fail;refine CH.out.mono ?_;rintro e w2 ⟨fl,rfl,aj⟩;have hE:=ai.out W1 w2 fl cb HX.out.1 HX.out.2.1 HX.out.2.2 aj;have HE:=ξ0 hE;have q1:=ξq fl;have q2:=ξp fl;clear aj hE ai CH;by_cases hf0:fl=0
   ·have d0:decide (fl=0)=true:=by simpa using hf0
    obtain⟨ck,⟨v,cc⟩,ff,ae⟩:=HE.out.1 hf0;have HD:=ξ0 ae;have ah:=ξ0 hf0;clear ae hf0 HE;go_wp2_with fail;go_ret;exact⟨fl,by rw[ah.out];rfl,λ_=>HD.out,λh=>absurd ah.out h⟩
   ·have d0:decide (fl=0)=false:=by simpa using hf0
    have ah:=ξ0 hf0;clear hf0;go_wp2_with fail;go_ret;exact⟨fl,rfl,λh=>absurd h ah.out,λ_=>HE.out.2 ah.out⟩
end Go.Proofs.YtpiamlgmadnepaaGreat.ND
