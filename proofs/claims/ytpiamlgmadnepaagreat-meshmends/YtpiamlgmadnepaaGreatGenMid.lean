/-
 GenE, GenF, GenG, GenH in one text.
-/
import Derived.Test.YtpiamlgmadnepaaGreatNodeEnd
import Derived.Test.YtpiamlgmadnepaaGreatSubAll
import Derived.Test.YtpiamlgmadnepaaGreatGenAll
import Derived.Test.YtpiamlgmadnepaaGreatNRepAll
import Derived.Deep.RegionHeld3
open Go.Proofs.Tryz
set_option linter.unusedVariables false
set_option maxHeartbeats 4000000
set_option maxRecDepth 100000
namespace Go.Proofs.YtpiamlgmadnepaaGreat.ND
open Go.ChangeShapes Go.WideShapes Go.ChangeAt Go.RowKit Go.Maps Mem NO
theorem extG {w1 w2:World} {o0 oj:Nat->Tg} {S:Tg->Prop} (h:Ext w2 o0 oj) (hc:Chg o0 S w1 w2):Ext w1 o0 oj:=fun k hk=>h k (by have:=hc.size;omega)
def stg (f:Sb->Sb) (Y:List Int) (l:List (Int×Sb)):List (Int×Sb):=l.map fun x=>if x.1∈Y then (x.1,f x.2) else x
theorem ξ7S (f:Sb->Sb) (l:List (Int×Sb)):stg f [] l=l:=by
 unfold stg;simp
theorem ξdD (f:Sb->Sb) (Y:List Int) (l:List (Int×Sb)):ids (stg f Y l)=ids l:=by
 unfold ids stg;rw [List.map_map];refine List.map_congr_left fun x _=>?_
 show (if x.1∈Y then (x.1,f x.2) else x).1=x.1
 split<;>rfl
theorem ξa0 {f:Sb->Sb} {Y:List Int} {l:List (Int×Sb)} (hr:(ids l).Pairwise fun a b=>a<b) {x:Int} {s:Sb} (hx:(x,s)∈l) (hY:x∉Y):∃ A B,stg f Y l=A++(x,s)::B/\stg f (Y++[x]) l=A++(x,f s)::B:=by
 obtain ⟨A,B,rfl⟩:=List.append_of_mem hx;have hr':(ids A++x::ids B).Pairwise fun a b=>a<b:=by
  have:=hr
  unfold ids at this ⊢
  rwa [List.map_append,List.map_cons] at this
 obtain ⟨_,h2,h3⟩:=List.pairwise_append.1 hr';have hA:∀ y∈A,y.1≠x:=fun y hy e=>by
  have:=h3 y.1 (Ξi.2 ⟨y,hy,rfl⟩) x (by simp)
  omega
 have hB:∀ y∈B,y.1≠x:=fun y hy e=>by
  have:=(List.pairwise_cons.1 h2).1 y.1 (Ξi.2 ⟨y,hy,rfl⟩)
  omega
 have same:∀ C:List (Int×Sb),(∀ y∈C,y.1≠x)->stg f (Y++[x]) C=stg f Y C:=by
  intro C hC;refine List.map_congr_left fun y hy=>?_
  have:=hC y hy
  simp [this]
 refine ⟨stg f Y A,stg f Y B,?_,?_⟩
 ·unfold stg;rw [List.map_append,List.map_cons,if_neg hY]
 ·rw [show stg f (Y++[x]) (A++(x,s)::B)=stg f (Y++[x]) A++(if x∈Y++[x] then (x,f s) else (x,s))::stg f (Y++[x]) B by unfold stg;rw [List.map_append,List.map_cons],same A hA,same B hB,if_pos (by simp)]
theorem ξdC {f:Sb->Sb} {tk:Int} {l:List (Int×Sb)} (hr:(ids l).Pairwise fun a b=>a<b):stg f (fil (trackOf l) tk (ids l)) l=selS tk f l:=by
 unfold stg selS;refine List.map_congr_left fun x hx=>?_
 have e:=ξ21 hr x hx
 have hm:x.1∈fil (trackOf l) tk (ids l)↔x.2.tk=tk:=by
  unfold fil;rw [Ξj,e];simp only [decide_eq_true_eq]
  exact ⟨fun h=>h.2,fun h=>⟨Ξi.2 ⟨x,hx,rfl⟩,h⟩⟩
 by_cases c:x.2.tk=tk
 ·rw [if_pos (hm.2 c),if_pos c]
 ·rw [if_neg (fun h=>c (hm.1 h)),if_neg c]
theorem ξdE {f:Sb->Sb} {l:List (Int×Sb)}:stg f (ids l) l=l.map fun x=>(x.1,f x.2):=by
 unfold stg;refine List.map_congr_left fun x hx=>?_
 rw [if_pos (show x.1∈ids l from Ξi.2 ⟨x,hx,rfl⟩)]
theorem ξ38 {X:List Int} {j:Nat} (hj:j<X.length):X.take (j+1)=X.take j++[X.getD j 0]:=by
 have e:X.getD j 0=X[j]:=by rw [Ξa,Ξd hj];rfl
 rw [e,List.take_append_getElem hj]
theorem ξaD {X:List Int} (hr:X.Pairwise fun a b=>a<b) {j:Nat} (hj:j<X.length):X.getD j 0∉X.take j:=by
 intro hm;have h:(X.take (j+1)).Pairwise fun a b=>a<b:=hr.sublist (List.take_sublist _ _)
 rw [ξ38 hj] at h;have:=(List.pairwise_append.1 h).2.2 _ hm _ (Ξg.2 rfl)
 omega
def SStG (w wx:World) (o:Nat->Tg) (n b:Nat) (P:NP) (N:Nd) (X:List Int) (f:Sb->Sb) (ra:Option Addr) (j:Nat):Prop:=∃ oj Pj,NAt wx oj n b Pj { N with sb:=stg f (X.take j) N.sb }/\(∀ x,(Pj.sp x).s=(P.sp x).s)/\Ext w o oj/\Chg o (mine n) w wx/\PArg wx ra (fun x=>(P.sp x).s) X/\∀ ad,ra=some ad->(oj ad.block).n=0
theorem SStG.chg {w wx:World} {o:Nat->Tg} {n b:Nat} {P:NP} {N:Nd} {X:List Int} {f:Sb->Sb} {ra:Option Addr} {j:Nat} (h:SStG w wx o n b P N X f ra j):Chg o (mine n) w wx:=by
 obtain ⟨_,_,_,_,_,h,_⟩:=h;exact h
theorem SStG.row {w wx:World} {o:Nat->Tg} {n b:Nat} {P:NP} {N:Nd} {X:List Int} {f:Sb->Sb} {ra:Option Addr} {j:Nat} (h:SStG w wx o n b P N X f ra j) (hn:0<X.length):∃ rb,ra=some ⟨rb,0,none⟩/\∀ j,j<X.length->wx.cell? ⟨rb,j,none⟩=some (.pointer (some ⟨(P.sp (X.getD j 0)).s,0,none⟩)):=by
 obtain ⟨_,_,_,_,_,_,h,_⟩:=h;exact h.at hn
theorem SStG.step {w wx:World} {o:Nat->Tg} {n b:Nat} {P:NP} {N:Nd} {X:List Int} {f:Sb->Sb} {ra:Option Addr} {j:Nat} {F:Nat} {mk:Value->Array Value} (h:SStG w wx o n b P N X f ra j) (hn:n≠0) (hris:(ids N.sb).Pairwise fun a b=>a<b) (hXs:X.Sublist (ids N.sb)) (hj:j<X.length)
 (hC:∀ (x:Int) (oj:Nat->Tg) (Q:SP) (s:Sb),(x,s)∈N.sb->SbAt wx oj Q s->Own oj ⟨n,4,x⟩ (ξ6 Q)->Calls prog F (mk (.pointer (some ⟨Q.s,0,none⟩))) wx fun e w'=>e=.returned (.tuple #[])/\SbS wx w' oj n x Q (f s)) :
 Calls prog F (mk (.pointer (some ⟨(P.sp (X.getD j 0)).s,0,none⟩))) wx fun e w'=>e=.returned (.tuple #[])/\Hid (SStG w w' o n b P N X f ra (j+1)):=by
 obtain ⟨oj,Pj,g1,g2,g3,g4,g5,g6⟩:=h;have e2:=ξ38 hj
 have hna:=ξaD (hris.sublist hXs) hj
 have hmX:X.getD j 0∈X:=by rw [Ξa,Ξd hj];exact List.getElem_mem hj
 obtain ⟨x,hx⟩:∃ x,X.getD j 0=x:=⟨_,rfl⟩;rw [hx] at e2 hna hmX;rw [hx];obtain ⟨y,hy,hyx⟩:=Ξi.1 (hXs.subset hmX);obtain ⟨x',s⟩:=y;obtain rfl:x'=x:=hyx;obtain ⟨A,B,q1,q2⟩:=ξa0 (f:=f) hris hy hna;have hsb:({ N with sb:=stg f (X.take j) N.sb }:Nd).sb=A++(x',s)::B:=q1
 obtain ⟨k1,k2⟩:=g1.sbs (x',s) (by rw [hsb];simp)
 rw [<- g2 x'];refine (hC x' oj (Pj.sp x') s hy k1 k2).mono ?_
 rintro e w' ⟨rfl,o',Q,r1,r2,r3,r4,r5⟩;refine ⟨rfl,ξ0 ⟨o',{ Pj with sp:=updS Pj.sp x' Q },?_,?_,?_,g4.trans (ξx r5) g3,?_,?_⟩⟩
 ·have:=g1.sub hn hsb (by rw [show ({ N with sb:=stg f (X.take j) N.sb }:Nd).sb=stg f (X.take j) N.sb from rfl,ξdD];exact hris) r5 r4 r2 r1 r3
  rw [e2,q2];exact this
 ·intro z;show (updS Pj.sp x' Q z).s=_
  unfold updS;split
  ·rename_i e;rw [e,r2];exact g2 x'
  ·exact g2 z
 ·exact g3.trans r4 g4.size
 ·obtain ⟨bs,q1,q2,q3⟩:=r5;exact g5.only q1 (fun ad e hk=>by have h1:=g6 ad e;have h2:=q2 _ hk;rw [h2] at h1;exact hn h1)
 ·intro ad e;obtain ⟨rb,e',hc⟩:=g5 0 (by omega)
  rw [r4 _ (by rw [e] at e';cases e';exact Ξq wx ⟨rb,0,none⟩ hc)]
  exact g6 ad e
theorem ξ6a (n b i:Nat) (o:Nat->Tg) (P:NP) (N:Nd) (tr:Tr) (s t l q og h now:Int) (st:Bool) (a:Option Addr) (m cap:Nat) (L:List Nat) (w:World) (hn:n≠0) (hN:NAt w o n b P N) (hi:i<8) (ht:N.tr i=some tr) (hG:GM.Inv 3 3 tr.gn tr.gT tr.gM) (hR:RM.Inv 64 tr.rT tr.rM) (hA:Arg w a m L) (hno:a=none->m=0/\cap=0) (hf:PM.fault s t l q m=0) (hF:0<m->∀ ad,a=some ad->(o ad.block).n=0) (nw:Int) (hsb:∀ x∈N.sb,SbOk nw x.2/\OM.tf x.2.on now=0) (hls:SInv N.sb N.ls) (hl:N.lt.length+tr.kids.length<=1000000) :
 Calls prog 92 #[.pointer (some ⟨b,0,none⟩),.pointer (some ⟨(P.tp i).p,0,none⟩),.agg #[.int .i64 s,.int .i64 t,.int .i64 l,.int .i64 q,.bool st,.slice a m cap],.agg #[.int .i64 og,.int .i64 h],.int .i64 now] w fun e w'=>e=.returned (.tuple #[])/\Done w w' o n b (N.tookG i tr ⟨s,t,l,q,st,L,.slice a m cap⟩ og h now):=by
 obtain ⟨W0,hW0⟩:∃ W0,(w.alloc (.cells #[.int .i64 s,.int .i64 t,.int .i64 l,.int .i64 q,.bool st,.slice a m cap] 38)).alloc (.cells #[.int .i64 og,.int .i64 h] 177)=W0:=⟨_,rfl⟩;have hB0:Below w.heap.size w W0:=by rw [<- hW0];exact below2 w _ _
 have hby:W0.heap[w.heap.size+1]?=some (.cells #[.int .i64 og,.int .i64 h] 177 (0,0)):=by
  rw [<- hW0];have:=heap_alloc_new (w.alloc (.cells #[.int .i64 s,.int .i64 t,.int .i64 l,.int .i64 q,.bool st,.slice a m cap] 38)) (.cells #[.int .i64 og,.int .i64 h] 177)
  simpa using this
 have hbx:W0.heap[w.heap.size]?=some (.cells #[.int .i64 s,.int .i64 t,.int .i64 l,.int .i64 q,.bool st,.slice a m cap] 38 (0,0)):=by
  rw [<- hW0];exact (Below.heap_alloc _ _ _ (by simp)).trans (heap_alloc_new w _)
 obtain ⟨o0,ho0⟩:∃ o0,grow o w ξ2=o0:=⟨_,rfl⟩;have he0:Ext w o o0:=by rw [<- ho0];exact ξ3 o w ξ2
 have hob:(o0 w.heap.size).n=0:=by rw [<- ho0,ξh (Ξo _)]
 have hoy:(o0 (w.heap.size+1)).n=0:=by rw [<- ho0,ξh (by omega)]
 have hN0:NAt W0 o0 n b P N:=hN.chg (S:=fun _=>False) (Chg.of_below hB0 _ _) (fun g hg=>hg.elim) he0
 have hT0:=(hN0.trs i hi tr ht).1
 have hFar:∀ (S:Tg->Prop),(∀ g,S g->g.n≠0)->Far o0 S a m:=by
  intro S hS hm ad e hs;obtain ⟨b',o1,e',hc⟩:=hA.1.2 0 (by have:=hA.2.1;omega)
  have hl':=Ξq w ⟨b',o1+0,none⟩ hc
  have hz:=hF hm ad e
  rw [e] at e';cases e'
  rw [he0 _ hl'] at hs;exact hS _ hs hz
 have hA0:=hA.below hB0
 -- what the boxes read as wherever they are as they were
 have hbox:∀ W:World,W.heap[w.heap.size]?=W0.heap[w.heap.size]?->W.cell? ⟨w.heap.size,0,none⟩=some (.int .i64 s)/\W.cell? ⟨w.heap.size,1,none⟩=some (.int .i64 t)/\W.cell? ⟨w.heap.size,2,none⟩=some (.int .i64 l)/\W.cell? ⟨w.heap.size,3,none⟩=some (.int .i64 q)/\W.cell? ⟨w.heap.size,4,none⟩=some (.bool st)/\W.cell? ⟨w.heap.size,5,none⟩=some (.slice a m cap):=by
  intro W e;have:=e.trans hbx
  refine ⟨?_,?_,?_,?_,?_,?_⟩<;>simp [World.cell?,this]
 have hway:∀ W:World,W.heap[w.heap.size+1]?=W0.heap[w.heap.size+1]?->W.cell? ⟨w.heap.size+1,0,none⟩=some (.int .i64 og)/\W.cell? ⟨w.heap.size+1,1,none⟩=some (.int .i64 h):=by
  intro W e;have:=e.trans hby
  constructor<;>simp [World.cell?,this]
 have hstay:∀ W,Chg o0 (mine n) W0 W->W.heap[w.heap.size]?=W0.heap[w.heap.size]?/\W.heap[w.heap.size+1]?=W0.heap[w.heap.size+1]?/\Arg W a m L:=by
  intro W hc;exact ⟨(ξ1D hn hc hbx hob).trans hbx.symm,(ξ1D hn hc hby hoy).trans hby.symm,hc.arg hA0 (hFar _ (by intro g hg;unfold mine at hg;omega))⟩
 have CN:=ξ0 (ξ2z (P.tp i).p (P.tp i).r (P.tp i).rm tr.rT tr.rM s W0 (by simp [World.cell?,hT0.box]) hT0.rng hR (by obtain ⟨_,_,_,_,rfl,_,_,_,h1,_⟩:=PM.ξt hf;omega) (by obtain ⟨_,_,_,_,rfl,_,_,_,h1,_⟩:=PM.ξt hf;omega))
 obtain ⟨y,hy⟩:∃ y,num tr.rT s=y:=⟨_,rfl⟩;rw [hy] at CN;have CH:=ξ0 (Gaps.ξ9k (P.tp i).g (P.tp i).gm 3 3 tr.gn tr.gT y now tr.gM (P.tp i).gv tr.gG W0 hT0.gap hG)
 have c4:W0.cell? ⟨(P.tp i).p,4,none⟩=some (.pointer (some ⟨(P.tp i).g,0,none⟩)):=by simp [World.cell?,hT0.box]
 -- behind Hear
 have HH:Hid (∀ w1,Gaps.ξ7 w1 (P.tp i).g (P.tp i).gm 3 3 (GM.hN tr.gn tr.gT tr.gM y now) (GM.hU tr.gn tr.gT tr.gM y now) (GM.hL tr.gn tr.gT tr.gM y now) (P.tp i).gv tr.gG->Only [(P.tp i).g,(P.tp i).gm] W0 w1->NAt w1 o0 n b P { N with tr:=updR N.tr i (tr.heard y now) }/\Chg o0 (mine n) W0 w1):=by
  refine ξ0 ?_
  intro w1 g1 g2;have:=hN0.trk1 hn hi ht g2 (by intro k hk;simp at hk;rcases hk with rfl | rfl<;>simp [tblks,Gaps.blks]) (nobT hT0) (hT0.heard g1 g2) rfl
  exact ⟨this.1,ξx this.2⟩
 obtain ⟨R,hRes⟩:∃ R,N.tookG i tr ⟨s,t,l,q,st,L,.slice a m cap⟩ og h now=R:=⟨_,rfl⟩;rw [hRes];unfold Nd.tookG at hRes;simp only [hy] at hRes
 have HBx:=ξ0 hbox
 have HWy:=ξ0 hway
 have HSt:=ξ0 hstay
 have HW:=ξ0 hW0
 have HB0:=ξ0 hB0
 have HE0:=ξ0 he0
 have HRI:=ξ0 hR
 have HFr:=ξ0 hFar
 have HNo:=ξ0 hno
 have HFl:=ξ0 hf
 have HSB:=ξ0 hsb
 have HLS:=ξ0 hls
 have HL:=ξ0 hl
 obtain ⟨pb,hpb⟩:∃ pb,w.heap.size=pb:=⟨_,rfl⟩;rw [hpb] at HBx HWy HSt;obtain ⟨x0,x1,x2,x3,x4,x5⟩:=HBx.out W0 rfl;obtain ⟨pp,hpp⟩:∃ pp,(P.tp i).p=pp:=⟨_,rfl⟩;have HPP:=ξ0 hpp
 rw [hpp] at CN c4;rw [hpp];obtain ⟨gb,hgb⟩:∃ gb,(P.tp i).g=gb:=⟨_,rfl⟩;rw [hgb] at CH c4;have HGB:=ξ0 hgb
 obtain ⟨hb,hhb⟩:∃ hb,GM.hB tr.gn tr.gT tr.gM y now=hb:=⟨_,rfl⟩;obtain ⟨fe,hfe⟩:∃ fe,GM.hf tr.gn tr.gT tr.gM y now=fe:=⟨_,rfl⟩;rw [hhb,hfe] at CH;rw [hhb] at hRes;have HFE:Hid (hb=true->fe=0):=by
  refine ξ0 ?_
  intro e;rw [e] at hhb;unfold GM.hB at hhb;simp at hhb
  rw [<- hfe];exact hhb.1
 have HRes:=ξ0 hRes
 have q1:=ξr fe
 have q2:=ξq fe
 clear hN hG hR hA hno hf hF hsb hls hl hW0 hB0 hby hbx ho0 he0 hob hoy hN0 hT0 hFar hA0 hbox hway hstay hy hpp hgb hhb hfe hRes ht;go_enter func92,ntmps92
 go_upto_region 1 with fail
 rw [HW.out];go_wp2_with fail
 refine CN.out.mono ?_
 rintro e w0 ⟨rfl,hw0⟩;obtain rfl:W0=w0:=hw0.symm;go_wp2_with fail
 refine CH.out.mono ?_
 rintro e w1 ⟨rfl,hg1,ho1⟩;have hN1:=HH.out w1 (by rw [HGB.out];exact hg1) (by rw [HGB.out];exact ho1)
 have HN1:=ξ0 hN1
 rw [show Gaps.errv fe=errv fe from rfl];clear hg1 ho1 hN1 HH CH CN;cases hb with
 | false=>
   have HD:Hid (Done w w1 o n b R):=by
    rw [<- HRes.out];exact ξ0 ⟨o0,P,HN1.out.1,HE0.out,(Chg.of_below HB0.out _ _).trans HN1.out.2 HE0.out⟩
   by_cases hp0:fe=0
   ·have d0:decide (fe=0)=true:=by simpa using hp0
    clear hp0;go_wp2_with fail
    (try simp only [Exit.inBlock,Exit.then])
    refine bodyPost_ret (results_none rfl _ _ _) rfl ?_
    exact ⟨rfl,HD.out⟩
   ·have d0:decide (fe=0)=false:=by simpa using hp0
    clear hp0;go_wp2_with fail
    (try simp only [Exit.inBlock,Exit.then])
    refine bodyPost_ret (results_none rfl _ _ _) rfl ?_
    exact ⟨rfl,HD.out⟩
 | true=>
   have d0:decide (fe=0)=true:=by simpa using HFE.out rfl
   obtain ⟨hs1,hs2,hA1⟩:=HSt.out w1 HN1.out.2;obtain ⟨z0,z1,z2,z3,z4,z5⟩:=HBx.out w1 hs1;obtain ⟨v0,v1⟩:=HWy.out w1 hs2;have hT1:=(HN1.out.1.trs i hi (tr.heard y now) (ξO _ _ _)).1
   have hO1:=(HN1.out.1.trs i hi (tr.heard y now) (ξO _ _ _)).2
   have CKp:=ξ0 (ξ2X (P.tp i) (tr.heard y now) y s t l q st a m cap L og h w1 hT1 HRI.out hA1 HNo.out HFl.out (by
    intro ad e hm hmem;have hz:=HFr.out (fun g=>g=⟨n,3,i⟩) (by rintro g rfl;exact hn) hm ad e
    exact hz (hO1 ad.block (by simp only [Ξf,List.not_mem_nil,or_false] at hmem;simp only [tblks,Ξf];rcases hmem with h | h | h<;>simp [h]))))
   have HK:Hid (∀ w2,TrAt w2 (P.tp i) ((tr.heard y now).keep y ⟨s,t,l,q,st,L,.slice a m cap⟩ (og,h))->Only [(P.tp i).r,(P.tp i).rm,(P.tp i).wm] w1 w2->NAt w2 o0 n b P { N with tr:=updR N.tr i ((tr.heard y now).keep y ⟨s,t,l,q,st,L,.slice a m cap⟩ (og,h)) }/\Chg o0 (mine n) W0 w2):=by
    refine ξ0 ?_
    intro w2 g1 g2;have:=HN1.out.1.trk1 hn hi (ξO _ _ _) g2 (by intro k hk;simp at hk;rcases hk with rfl | rfl | rfl<;>simp [tblks]) (nobR hT1) g1 (ξ8a _ _ _ _).2.2.2
    rw [show ({ N with tr:=updR N.tr i (tr.heard y now) }:Nd).tr=updR N.tr i (tr.heard y now) from rfl,ξ8v] at this;exact ⟨this.1,HN1.out.2.trans' (ξx this.2)⟩
   rw [HPP.out] at CKp;clear hs1 hs2 hA1 hT1 hO1 x0 x1 x2 x3 x4 x5 c4;go_wp2_with fail
   refine CKp.out.mono ?_
   rintro e w2 ⟨rfl,hk1,hk2⟩;have hN2:=HK.out w2 hk1 hk2
   have HN2:=ξ0 hN2
   obtain ⟨T2,hT2⟩:∃ T2,(tr.heard y now).keep y ⟨s,t,l,q,st,L,.slice a m cap⟩ (og,h)=T2:=⟨_,rfl⟩;have e2:=ξ8a (tr.heard y now) y ⟨s,t,l,q,st,L,.slice a m cap⟩ (og,h)
   rw [hT2] at e2 HN2;obtain ⟨e21,e22,e23,e24⟩:=e2;obtain ⟨N2,hN2e⟩:∃ N2:Nd,{ N with tr:=updR N.tr i T2 }=N2:=⟨_,rfl⟩;rw [hN2e] at HN2;have ht2:N2.tr i=some T2:=by rw [<- hN2e];exact ξO _ _ _
   have hTb:=(HN2.out.1.trs i hi T2 ht2).1
   have c3:w2.cell? ⟨pp,3,none⟩=some (.slice (P.tp i).ka T2.kids.length (P.tp i).kc):=by rw [<- HPP.out];simp [World.cell?,hTb.box]
   rw [e24] at c3;have HE2:=ξ0 (And.intro e21 (And.intro e22 (And.intro e23 e24)))
   have HT2:=ξ0 hT2
   have HN2e:=ξ0 hN2e
   have Ht2:=ξ0 ht2
   obtain ⟨ka,hka⟩:∃ ka,(P.tp i).ka=ka:=⟨_,rfl⟩;obtain ⟨kc,hkc⟩:∃ kc,(P.tp i).kc=kc:=⟨_,rfl⟩;have hkids:(tr.heard y now).kids=tr.kids:=rfl
   rw [hkids] at c3;obtain ⟨K,hKK⟩:∃ K,tr.kids=K:=⟨_,rfl⟩;obtain ⟨kl,hkl⟩:∃ kl,K.length=kl:=⟨_,rfl⟩;rw [hka,hkc,hKK,hkl] at c3;have HKA:=ξ0 hka
   have HKK:=ξ0 hKK
   have HKL:=ξ0 hkl
   have hklb:kl<=1000000:=by have:=HL.out;rw [hKK,hkl] at this;omega
   obtain ⟨f,hff⟩:∃ f,FM.ffault tr.tk og tr.ep h (pby s t l q st L)=f:=⟨_,rfl⟩;obtain ⟨F,hFF⟩:∃ F,fby tr.tk og tr.ep h (pby s t l q st L)=F:=⟨_,rfl⟩;have HFF:=ξ0 (And.intro hff hFF)
   have HK0:Hid (KSt w2 w2 o0 n b P N2 K f F 0):=by
    refine ξ0 ⟨o0,P.lv,?_,Ext.refl _ _,Chg.refl _ _ _⟩
    rw [List.take_zero,ξbo,Ξu];exact HN2.out.1
   clear hk1 hk2 hN2 hT2 e21 e22 e23 e24 hN2e ht2 hTb hka hkc hkids hKK hkl hff hFF HK CKp z0 z1 z2 z3 z4 z5 v0 v1;go_wp2_with fail
   go_loopg [47] kl (fun gh x wr=>∃ j:Nat,j+gh=kl/\x=.int .i64 (j:Int)/\Hid (KSt w2 wr o0 n b P N2 K f F j))
   case atStart=>exact ⟨0,by omega,rfl,HK0⟩
   case round=>
    obtain ⟨j,hjg,rfl,HS⟩:=hrel;have hcr:Chg o0 (mine n) W0 wr:=by
     obtain ⟨oj,lv,h1,h2,h3⟩:=HS.out;exact HN2.out.2.trans' (ξ1h h3)
    have HCR:=ξ0 hcr
    clear hcr;by_cases hj:j<kl
    ·have hjz:(j:Int)<(kl:Int):=by omega
     obtain ⟨hs1,hs2,hAr⟩:=HSt.out wr HCR.out;obtain ⟨z0,z1,z2,z3,z4,z5⟩:=HBx.out wr hs1;obtain ⟨v0,v1⟩:=HWy.out wr hs2;obtain ⟨oj,lv,h1,h2,h3⟩:=HS.out;have hTr:=(h1.trs i hi T2 Ht2.out).1
     have hkid:=hTr.kid
     rw [HE2.out.2.2.2,show (tr.heard y now).kids=tr.kids from rfl,HKK.out,HKL.out] at hkid;rw [show (({ P with lv:=lv }:NP).tp i).ka=(P.tp i).ka from rfl,HKA.out] at hkid;obtain ⟨ba,oa,rfl,hcs⟩:=hkid.at (by omega)
     have c0:=hcs j hj
     have hjl:j<K.length:=by rw [HKL.out];exact hj
     have CSd:=ξ2x n b i oj { P with lv:=lv } _ T2 (K.getD j 0) s t l q og h st a m cap L wr hn h1 hi Ht2.out hAr HNo.out HFl.out (by
      have g1:=ξ5F (K.take j) f F
      have hnl:N2.lt=N.lt:=by rw [<- HN2e.out]
      show (N2.lt++downs (K.take j) f F).length<=1000000
      rw [Ξh,hnl];have g2:(K.take j).length<=K.length:=by rw [List.length_take];omega
      have g3:=HL.out
      rw [HKK.out] at g3;omega)
     rw [HE2.out.1,HE2.out.2.1,show (tr.heard y now).tk=tr.tk from rfl,show (tr.heard y now).ep=tr.ep from rfl,HFF.out.1,HFF.out.2] at CSd;have CS:Hid (Calls prog 124 #[.pointer (some ⟨b,0,none⟩),.int .i64 (K.getD j 0),.pointer (some ⟨pp,0,none⟩),.agg #[.int .i64 s,.int .i64 t,.int .i64 l,.int .i64 q,.bool st,.slice a m cap],.agg #[.int .i64 og,.int .i64 h]] wr fun e w'=>e=.returned (.tuple #[])/\Hid (KSt w2 w' o0 n b P N2 K f F (j+1))):=by
      rw [show (({ P with lv:=lv }:NP).tp i).p=(P.tp i).p from rfl,HPP.out] at CSd;refine ξ0 (CSd.mono ?_)
      rintro e w' ⟨rfl,hW⟩;exact ⟨rfl,ξcz hjl h2 h3 hW⟩
     obtain ⟨kx,hkx⟩:∃ kx,K.getD j 0=kx:=⟨_,rfl⟩;rw [hkx] at CS c0;clear hs1 hs2 hAr h1 h2 h3 hTr hkid hcs hjl CSd hkx;go_wp2_with fail
     refine CS.out.mono ?_
     rintro e w3 ⟨rfl,HK3⟩;go_wp2_with fail
     go_roundg (kl - (j+1))
     case measure=>omega
     case rel=>exact ⟨j+1,by omega,by go_num,HK3⟩
    ·have hjz:¬ (j:Int)<(kl:Int):=by omega
     obtain rfl:kl=j:=by omega
     obtain ⟨oj,lv,h1,h2,h3⟩:=HS.out;have hTr:=(h1.trs i hi T2 Ht2.out).1
     have c0:wr.cell? ⟨pp,0,none⟩=some (.int .i64 T2.tk):=by rw [<- HPP.out];simp [World.cell?,show wr.heap[(P.tp i).p]?=_ from hTr.box]
     obtain ⟨N3,hN3⟩:∃ N3:Nd,{ N2 with lt:=N2.lt++downs (K.take kl) f F }=N3:=⟨_,rfl⟩;rw [hN3] at h1;have hsb3:N3.sb=N.sb:=by rw [<- hN3,<- HN2e.out]
     have hls3:SInv N3.sb N3.ls:=by rw [hsb3,<- hN3,<- HN2e.out];exact HLS.out
     have CSu:=ξ4h n b oj { P with lv:=lv } N3 (trackOf N3.sb) T2.tk wr h1 hls3 (ξ21 hls3.ris)
     obtain ⟨X,hX⟩:∃ X,fil (trackOf N3.sb) T2.tk (ids N3.sb)=X:=⟨_,rfl⟩;rw [hX] at CSu;have hXs:X.Sublist (ids N3.sb):=by rw [<- hX];exact List.filter_sublist
     have hX20:X.length<=20:=Nat.le_trans hXs.length_le (by rw [ξ10];exact hls3.len)
     obtain ⟨fS,hfS⟩:∃ fS:Sb->Sb,(fun s':Sb=>s'.push y now ⟨s,t,l,q,st,L⟩)=fS:=⟨_,rfl⟩
     have CU:Hid (Calls prog 125 #[.pointer (some ⟨b,0,none⟩),.int .i64 T2.tk] wr fun e w'=>∃ a cap,e=.returned (.slice a X.length cap)/\Hid (SStG W0 w' o0 n b P N3 X fS a 0)):=by
      refine ξ0 (CSu.mono ?_)
      rintro e w' ⟨a',cap',rfl,hPA,hfr,hb⟩;refine ⟨a',cap',rfl,ξ0 ⟨grow oj wr ξ2,{ P with lv:=lv },?_,fun _=>rfl,?_,HCR.out.trans' (Chg.of_below hb o0 _),hPA,fun ad e=>ξ1F (hfr ad e)⟩⟩
      ·have hN4:=h1.chg (S:=fun _=>False) (Chg.of_below hb _ _) (fun g hg=>hg.elim) (ξ3 oj wr ξ2)
       rw [List.take_zero,ξ7S];exact hN4
      ·exact (extG h2 HN2.out.2).trans (ξ3 _ _ _) HCR.out.size
     have HPush:Hid (∀ wx j (hj:j<X.length) ra,SStG W0 wx o0 n b P N3 X fS ra j->Calls prog 126 #[.pointer (some ⟨(P.sp (X.getD j 0)).s,0,none⟩),.int .i64 y,.agg #[.int .i64 s,.int .i64 t,.int .i64 l,.int .i64 q,.bool st,.slice a m cap],.int .i64 now] wx fun e w'=>e=.returned (.tuple #[])/\Hid (SStG W0 w' o0 n b P N3 X fS ra (j+1))):=by
      refine ξ0 ?_
      intro wx j hj ra hS;have hAx:=(HSt.out wx hS.chg).2.2
      refine hS.step (F:=126) (mk:=fun p=>#[p,.int .i64 y,.agg #[.int .i64 s,.int .i64 t,.int .i64 l,.int .i64 q,.bool st,.slice a m cap],.int .i64 now]) hn hls3.ris hXs hj ?_
      intro x oj' Q s' hm hat hown;obtain ⟨k1,k2⟩:=HSB.out (x,s') (by rw [<- hsb3];exact hm)
      obtain ⟨m1,m2⟩:=k1.pushed (y:=y) (p:=⟨s,t,l,q,st,L⟩) k2;obtain ⟨p1,p2,_⟩:=m1.pop m2;rw [<- hfS];exact ξ7h n x oj' Q s' y now s t l q st a m cap L _ wx hn hat hown k1.sbi hAx HNo.out k2 (ξ2h m1.oi m2) p1 p2
     have HFin:Hid (∀ wx ra,SStG W0 wx o0 n b P N3 X fS ra X.length->Done w wx o n b R):=by
      refine ξ0 ?_
      rintro wx ra ⟨oj',Pj,g1,g2,g3,g4,g5,g6⟩;refine ⟨oj',Pj,?_,fun k hk=>by rw [g3 k (by have:=HB0.out.size;omega)];exact HE0.out k hk,(Chg.of_below HB0.out _ _).trans g4 HE0.out⟩
      rw [List.take_length,<- hX,ξdC hls3.ris] at g1;have hR:=HRes.out
      rw [if_pos trivial,HT2.out] at hR;rw [<- hR];have ek:K.take kl=K:=Ξl (by rw [HKL.out];exact Ξo _)
      have eN:({ N3 with sb:=selS T2.tk fS N3.sb }:Nd)={ N with tr:=updR N.tr i T2,lt:=N.lt++downs tr.kids (FM.ffault tr.tk og tr.ep h (pby s t l q st L)) (fby tr.tk og tr.ep h (pby s t l q st L)),sb:=selS tr.tk (fun s'=>s'.push y now (ppk ⟨s,t,l,q,st,L,.slice a m cap⟩)) N.sb }:=by
       rw [hsb3,HE2.out.1,<- hfS,<- hN3,<- HN2e.out,HFF.out.1,HFF.out.2,HKK.out,ek];rfl
      rw [<- eN];exact g1
     have HB3:Hid (∀ wx ra j,SStG W0 wx o0 n b P N3 X fS ra j->(wx.cell? ⟨pb,0,none⟩=some (.int .i64 s)/\wx.cell? ⟨pb,1,none⟩=some (.int .i64 t)/\wx.cell? ⟨pb,2,none⟩=some (.int .i64 l)/\wx.cell? ⟨pb,3,none⟩=some (.int .i64 q)/\wx.cell? ⟨pb,4,none⟩=some (.bool st)/\wx.cell? ⟨pb,5,none⟩=some (.slice a m cap))):=by
      refine ξ0 ?_
      intro wx ra j hS;exact HBx.out wx (HSt.out wx hS.chg).1
     obtain ⟨tk2,htk2⟩:∃ tk2,T2.tk=tk2:=⟨_,rfl⟩;rw [htk2] at CU c0;obtain ⟨XL,hXL⟩:∃ XL,X.length=XL:=⟨_,rfl⟩;rw [hXL] at CU HPush HFin hX20;have HXL:=ξ0 hXL
     clear h1 h2 h3 hTr hsb3 hls3 CSu htk2 hX hXs hN3 hfS hXL;go_wp2_with fail
     refine CU.out.mono ?_
     rintro e w3 ⟨sa,sc,rfl,HD⟩;clear CU c0;go_wp2_with fail
     go_loopg [65] XL (fun gh z wx=>∃ j:Nat,j+gh=XL/\z=.int .i64 (j:Int)/\Hid (SStG W0 wx o0 n b P N3 X fS sa j))
     case atStart=>exact ⟨0,by omega,rfl,HD⟩
     case round=>
      obtain ⟨j,hjg,rfl,HS⟩:=hrel;by_cases hj:j<XL
      ·have hjz:(j:Int)<(XL:Int):=by omega
       obtain ⟨z0,z1,z2,z3,z4,z5⟩:=HB3.out wr sa j HS.out;obtain ⟨rb,rfl,hcs⟩:=HS.out.row (by rw [HXL.out];omega)
       have c0:=hcs j (by rw [HXL.out];exact hj)
       have CPu:=ξ0 (HPush.out wr j hj _ HS.out)
       obtain ⟨sp,hsp⟩:∃ sp,(P.sp (X.getD j 0)).s=sp:=⟨_,rfl⟩;rw [hsp] at CPu c0;clear hcs hsp HS;go_wp2_with fail
       refine CPu.out.mono ?_
       rintro e w4 ⟨rfl,HS4⟩;go_wp2_with fail
       go_roundg (XL - (j+1))
       case measure=>omega
       case rel=>exact ⟨j+1,by omega,by go_num,HS4⟩
      ·have hjz:¬ (j:Int)<(XL:Int):=by omega
       obtain rfl:j=XL:=by omega
       have HDn:=ξ0 (HFin.out wr sa HS.out)
       clear HS HFin HPush HB3;go_wp2_with fail
       go_end0
       exact ⟨rfl,HDn.out⟩
theorem ξc4 (n b k:Nat) (o:Nat->Tg) (P:NP) (N:Nd) (tr:Tr) (now s t l q:Int) (st:Bool) (a:Option Addr) (m cap:Nat) (L:List Nat) (w:World) (hn:n≠0) (hN:NAt w o n b P N) (hi:k<8) (ht:N.tr k=some tr) (hpa:tr.pa=-1) (hnow:GM.tf N.nw now=0) (hG:GM.Inv 3 3 tr.gn tr.gT tr.gM) (hR:RM.Inv 64 tr.rT tr.rM) (hA:Arg w a m L) (hno:a=none->m=0/\cap=0) (hf:PM.fault s t l q m=0) (hF:0<m->∀ ad,a=some ad->(o ad.block).n=0) (nw0:Int) (hsb:∀ x∈N.sb,SbOk nw0 x.2/\OM.tf x.2.on now=0) (hls:SInv N.sb N.ls) (hl:N.lt.length+tr.kids.length<=1000000) :
 Calls prog 45 #[.pointer (some ⟨b,0,none⟩),.int .i64 ((k:Int)+1),.agg #[.int .i64 s,.int .i64 t,.int .i64 l,.int .i64 q,.bool st,.slice a m cap],.int .i64 now] w fun e w'=>e=.returned .nilIface/\Done w w' o n b (({ N with nw:=now }:Nd).tookG k tr ⟨s,t,l,q,st,L,.slice a m cap⟩ N.id 1 now):=by
 obtain ⟨W0,hW0⟩:∃ W0,w.alloc (.cells #[.int .i64 s,.int .i64 t,.int .i64 l,.int .i64 q,.bool st,.slice a m cap] 38)=W0:=⟨_,rfl⟩;have hB0:Below w.heap.size w W0:=by rw [<- hW0];exact (Ξp _ _).alloc (Ξo _) _
 have hbx:W0.heap[w.heap.size]?=some (.cells #[.int .i64 s,.int .i64 t,.int .i64 l,.int .i64 q,.bool st,.slice a m cap] 38 (0,0)):=by
  rw [<- hW0];exact heap_alloc_new w _
 have CT:=ξ0 (ξl ((k:Int)+1))
 rw [show okT ((k:Int)+1)=true from by simp [okT];omega] at CT
 have CA:=ξ0 (Gaps.ξF N.nw now W0)
 rw [if_pos hnow,hnow] at CA;have CC:=ξ0 (Pack.ξe s t l q st a m cap)
 rw [hf] at CC;have hk3:wrap64 ((k:Int)+1 - 1)=(k:Int):=by unfold wrap64;omega
 have hk5:wrap64 (k:Int)=(k:Int):=by unfold wrap64;omega
 have hk4:(k:Int)<8:=by omega
 obtain ⟨o0,ho0⟩:∃ o0,grow o w ξ2=o0:=⟨_,rfl⟩;have he0:Ext w o o0:=by rw [<- ho0];exact ξ3 o w ξ2
 have hob:(o0 w.heap.size).n=0:=by rw [<- ho0,ξh (Ξo _)]
 have HT:Hid (∀ W,Below w.heap.size w W->W.heap[w.heap.size]?=W0.heap[w.heap.size]?->Calls prog 92 #[.pointer (some ⟨b,0,none⟩),.pointer (some ⟨(P.tp k).p,0,none⟩),.agg #[.int .i64 s,.int .i64 t,.int .i64 l,.int .i64 q,.bool st,.slice a m cap],.agg #[.int .i64 N.id,.int .i64 1],.int .i64 now] (W.setCell ⟨b,0,none⟩ (.int .i64 now)).drew fun e w'=>e=.returned (.tuple #[]) /\
  (w'.cell? ⟨w.heap.size,0,none⟩=some (.int .i64 s)/\w'.cell? ⟨w.heap.size,1,none⟩=some (.int .i64 t)/\w'.cell? ⟨w.heap.size,2,none⟩=some (.int .i64 l)/\w'.cell? ⟨w.heap.size,3,none⟩=some (.int .i64 q)/\w'.cell? ⟨w.heap.size,4,none⟩=some (.bool st)/\w'.cell? ⟨w.heap.size,5,none⟩=some (.slice a m cap)/\w'.cell? ⟨b,1,none⟩=some (.int .i64 N.id))/\Hid (Done w w' o n b (({ N with nw:=now }:Nd).tookG k tr ⟨s,t,l,q,st,L,.slice a m cap⟩ N.id 1 now))):=by
  refine ξ0 ?_
  intro W hBW hbW;have hNW:NAt W o0 n b P N:=hN.chg (S:=fun _=>False) (Chg.of_below hBW _ _) (fun g hg=>hg.elim) he0
  have hNs:=hNW.setN hn now
  have hcs:=ξx (hNW.chgB 0 (.int .i64 now))
  have hNd:=hNs.below ((Ξp _ _).drew)
  have hbd:Below (W.setCell ⟨b,0,none⟩ (.int .i64 now)).heap.size (W.setCell ⟨b,0,none⟩ (.int .i64 now)) (W.setCell ⟨b,0,none⟩ (.int .i64 now)).drew:=(Ξp _ _).drew
  have hFar0:Far o0 (mine n) a m:=by
   intro hm ad e hs;obtain ⟨b',o1,e',hc⟩:=hA.1.2 0 (by have:=hA.2.1;omega)
   have hz:=hF hm ad e
   rw [e] at e';cases e'
   rw [he0 _ (Ξq w ⟨b',o1+0,none⟩ hc)] at hs;have h2:(o b').n=n:=hs
   have h3:(o b').n=0:=hz
   omega
  have hAW:=hA.below hBW
  have hAs:=(hcs.arg hAW hFar0).below hbd
  refine (ξ6a n b k o0 P { N with nw:=now } tr s t l q N.id 1 now st a m cap L _ hn hNd hi ht hG hR hAs hno hf (fun hm ad e=>by
   have:=hFar0 hm ad e
   obtain ⟨b',o1,e',hc⟩:=hA.1.2 0 (by have:=hA.2.1;omega)
   have hz:=hF hm ad e
   rw [e] at e';cases e'
   rw [he0 _ (Ξq w ⟨b',o1+0,none⟩ hc)];exact hz) nw0 hsb hls hl).mono ?_
  rintro e w' ⟨rfl,o',P',q1,q2,q3⟩;have hc1:Chg o0 (mine n) W (W.setCell ⟨b,0,none⟩ (.int .i64 now)).drew:=hcs.trans' (Chg.of_below hbd _ _)
  have hc2:=hc1.trans' q3
  have hbw':w'.heap[w.heap.size]?=some (.cells #[.int .i64 s,.int .i64 t,.int .i64 l,.int .i64 q,.bool st,.slice a m cap] 38 (0,0)):=ξ1D hn hc2 (hbW.trans hbx) hob
  have hid:w'.cell? ⟨b,1,none⟩=some (.int .i64 N.id):=by
   have:=q1.cells.2.1
   rw [this];unfold Nd.tookG;split<;>rfl
  refine ⟨rfl,⟨?_,?_,?_,?_,?_,?_,hid⟩,ξ0 ⟨o',P',q1,?_,?_⟩⟩
  any_goals (simp [World.cell?,hbw'];done)
  ·intro j hj;have hsz:(W.setCell ⟨b,0,none⟩ (.int .i64 now)).drew.heap.size=W.heap.size:=by simp [World.setCell,World.drew]
   have hsw:=hBW.size
   rw [q2 j (by omega)]
   exact he0 j hj
  ·exact (Chg.of_below hBW _ _).trans hc2 he0
 have HN:=ξ0 hN
 have HB0:=ξ0 hB0
 have HW:=ξ0 hW0
 have HBX:=ξ0 hbx
 have c0:=(hN.below hB0).cells.1
 have HTr:=ξ0 ht
 obtain ⟨nw,hnw⟩:∃ nw,N.nw=nw:=⟨_,rfl⟩;rw [hnw] at c0 CA;obtain ⟨R,hRes⟩:∃ R,({ N with nw:=now }:Nd).tookG k tr ⟨s,t,l,q,st,L,.slice a m cap⟩ N.id 1 now=R:=⟨_,rfl⟩;rw [hRes] at HT;rw [hRes];obtain ⟨id,hid⟩:∃ id,N.id=id:=⟨_,rfl⟩;rw [hid] at HT;have HID:=ξ0 hid
 obtain ⟨pp,hpp⟩:∃ pp,(P.tp k).p=pp:=⟨_,rfl⟩;rw [hpp] at HT;have HPP:=ξ0 hpp
 have HPA:=ξ0 hpa
 clear hN hnow hG hR hA hno hf hF hsb hls hl hB0 hW0 hbx ho0 he0 hob hnw hRes hid hpp hpa ht;go_enter func45,ntmps45
 go_upto_region 1 with fail
 rw [HW.out];go_wp2_with fail
 refine CA.out.mono ?_
 rintro e w1 ⟨rfl,hb1⟩;rw [show Gaps.errv 0=Value.nilIface from rfl];obtain ⟨W1,hW1⟩:∃ W1,w1.alloc (.cells #[.int .i64 now] 89)=W1:=⟨_,rfl⟩;have hB1:Below w.heap.size w W1:=by rw [<- hW1];exact (HB0.out.trans (hb1.mono HB0.out.size)).alloc (by have:=HB0.out.size;have:=hb1.size;omega) _
 have hbk:W1.heap[w.heap.size]?=W0.heap[w.heap.size]?:=by
  rw [<- hW1];exact (Below.heap_alloc _ _ _ (by have:=lt_of_block HBX.out;have:=hb1.size;omega)).trans (hb1.block _ (lt_of_block HBX.out))
 have hck:W1.cell? ⟨w1.heap.size,0,none⟩=some (.int .i64 now):=by rw [<- hW1];simp
 have HW1:=ξ0 hW1
 have HB1:=ξ0 hB1
 have HBK:=ξ0 hbk
 have hN1:=HN.out.below hB1
 have ct:=hN1.track hi
 have bx:=(hN1.trs k hi tr HTr.out).1.box
 rw [HTr.out] at ct;simp only [tpv] at ct
 rw [HPP.out] at ct bx;have cp:W1.cell? ⟨pp,2,none⟩=some (.int .i64 (-1)):=by rw [<- HPA.out];simp [World.cell?,bx]
 have hbx1:=hbk.trans HBX.out
 have x0:W1.cell? ⟨w.heap.size,0,none⟩=some (.int .i64 s):=by simp [World.cell?,hbx1]
 have x1:W1.cell? ⟨w.heap.size,1,none⟩=some (.int .i64 t):=by simp [World.cell?,hbx1]
 have x2:W1.cell? ⟨w.heap.size,2,none⟩=some (.int .i64 l):=by simp [World.cell?,hbx1]
 have x3:W1.cell? ⟨w.heap.size,3,none⟩=some (.int .i64 q):=by simp [World.cell?,hbx1]
 have x4:W1.cell? ⟨w.heap.size,4,none⟩=some (.bool st):=by simp [World.cell?,hbx1]
 have x5:W1.cell? ⟨w.heap.size,5,none⟩=some (.slice a m cap):=by simp [World.cell?,hbx1]
 obtain ⟨cb,hcb⟩:∃ cb,w1.heap.size=cb:=⟨_,rfl⟩;rw [hcb] at hck;have HCB:=ξ0 hcb
 clear hb1 hW1 hB1 hbk c0 CA hN1 bx hbx1;go_upto_region 4 with fail
 first | rw [HW1.out] | skip
 clear hcb;go_wp2_with fail
 refine (CT.out _).mono ?_
 rintro e w2 ⟨rfl,rfl⟩;go_wp2_with fail
 refine (CC.out _).mono ?_
 rintro e w2 ⟨rfl,hb2⟩;rw [show Pack.errv 0=Value.nilIface from rfl];have hB2:=HB1.out.trans (hb2.mono HB1.out.size)
 have hbk2:w2.heap[w.heap.size]?=W0.heap[w.heap.size]?:=(hb2.block _ (lt_of_block (HBK.out.trans HBX.out))).trans HBK.out
 have hck2:=ξb hb2 hck
 have hN2:=HN.out.below hB2
 have c02:=hN2.cells.1
 have f02:=hN2.free 0
 have CTk:=ξ0 (HT.out w2 hB2 hbk2)
 have hN3:=hN2.setN hn now
 have hbx3:(w2.setCell ⟨b,0,none⟩ (.int .i64 now)).heap[w.heap.size]?=some (.cells #[.int .i64 s,.int .i64 t,.int .i64 l,.int .i64 q,.bool st,.slice a m cap] 38 (0,0)):=by
  rw [Below.heap_setCell _ _ _ _ (by have:=HN.out.lt;simp;omega)]
  exact hbk2.trans HBX.out
 obtain ⟨w3,hw3⟩:∃ w3,w2.setCell ⟨b,0,none⟩ (.int .i64 now)=w3:=⟨_,rfl⟩;rw [hw3] at CTk hN3 hbx3;have hS0:w3.drew.cell? ⟨w.heap.size,0,none⟩=some (.int .i64 s)/\w3.drew.cell? ⟨w.heap.size,1,none⟩=some (.int .i64 t)/\w3.drew.cell? ⟨w.heap.size,2,none⟩=some (.int .i64 l)/\w3.drew.cell? ⟨w.heap.size,3,none⟩=some (.int .i64 q)/\w3.drew.cell? ⟨w.heap.size,4,none⟩=some (.bool st)/\w3.drew.cell? ⟨w.heap.size,5,none⟩=some (.slice a m cap)/\w3.drew.cell? ⟨b,1,none⟩=some (.int .i64 id):=by
  refine ⟨?_,?_,?_,?_,?_,?_,?_⟩
  any_goals (show w3.cell? _=_;simp [World.cell?,hbx3];done)
  ·show w3.cell? _=_
   have:=hN3.cells.2.1
   rw [this];show some (Value.int .i64 N.id)=_
   rw [HID.out]
 have HW3:=ξ0 hw3
 clear hb2 hB2 hbk2 hN2 hN3 hbx3 hw3 HT hck ct cp x0 x1 x2 x3 x4 x5 CC CT;go_upto_region 15 with fail
 rw [HW3.out];go_region_held3 (fun w'=>w'.cell? ⟨w.heap.size,0,none⟩=some (.int .i64 s)/\w'.cell? ⟨w.heap.size,1,none⟩=some (.int .i64 t)/\w'.cell? ⟨w.heap.size,2,none⟩=some (.int .i64 l)/\w'.cell? ⟨w.heap.size,3,none⟩=some (.int .i64 q)/\w'.cell? ⟨w.heap.size,4,none⟩=some (.bool st)/\w'.cell? ⟨w.heap.size,5,none⟩=some (.slice a m cap)/\w'.cell? ⟨b,1,none⟩=some (.int .i64 id)) (with_reducible assumption) (first | (go_at_call 92;refine CTk.out.mono ?_;rintro e w4 ⟨rfl,hS4,HD⟩))
 go_wp2_with fail
 go_ret
 exact ⟨rfl,HD.out⟩
theorem ξa3 (n b k:Nat) (o:Nat->Tg) (P:NP) (N:Nd) (tr:Tr) (now s t l q:Int) (st:Bool) (a:Option Addr) (m cap:Nat) (w:World) (hN:NAt w o n b P N) (hi:k<8) (ht:N.tr k=some tr) (hpa:tr.pa=-1) (hnow:GM.tf N.nw now=0) (hf:PM.fault s t l q m≠0) :
 Calls prog 45 #[.pointer (some ⟨b,0,none⟩),.int .i64 ((k:Int)+1),.agg #[.int .i64 s,.int .i64 t,.int .i64 l,.int .i64 q,.bool st,.slice a m cap],.int .i64 now] w fun e w'=>e=.returned (errv (PM.fault s t l q m))/\Below w.heap.size w w':=by
 obtain ⟨W0,hW0⟩:∃ W0,w.alloc (.cells #[.int .i64 s,.int .i64 t,.int .i64 l,.int .i64 q,.bool st,.slice a m cap] 38)=W0:=⟨_,rfl⟩;have hB0:Below w.heap.size w W0:=by rw [<- hW0];exact (Ξp _ _).alloc (Ξo _) _
 have hbx:W0.heap[w.heap.size]?=some (.cells #[.int .i64 s,.int .i64 t,.int .i64 l,.int .i64 q,.bool st,.slice a m cap] 38 (0,0)):=by rw [<- hW0];exact heap_alloc_new w _
 have CT:=ξ0 (ξl ((k:Int)+1))
 rw [show okT ((k:Int)+1)=true from by simp [okT];omega] at CT
 have CA:=ξ0 (Gaps.ξF N.nw now W0)
 rw [if_pos hnow,hnow] at CA;have CC:=ξ0 (Pack.ξe s t l q st a m cap)
 obtain ⟨f,hff⟩:∃ f,PM.fault s t l q m=f:=⟨_,rfl⟩;rw [hff] at CC hf ⊢;have q1:=ξr f
 have q2:=ξq f
 have d0:decide (f=0)=false:=by simpa using hf
 have hk3:wrap64 ((k:Int)+1 - 1)=(k:Int):=by unfold wrap64;omega
 have hk5:wrap64 (k:Int)=(k:Int):=by unfold wrap64;omega
 have hk4:(k:Int)<8:=by omega
 have HN:=ξ0 hN
 have HB0:=ξ0 hB0
 have HW:=ξ0 hW0
 have HBX:=ξ0 hbx
 have c0:=(hN.below hB0).cells.1
 have HTr:=ξ0 ht
 obtain ⟨nw,hnw⟩:∃ nw,N.nw=nw:=⟨_,rfl⟩;rw [hnw] at c0 CA;obtain ⟨pp,hpp⟩:∃ pp,(P.tp k).p=pp:=⟨_,rfl⟩;have HPP:=ξ0 hpp
 have HPA:=ξ0 hpa
 clear hN hnow hf hB0 hW0 hbx hnw hpp hpa ht hff;go_enter func45,ntmps45
 go_upto_region 1 with fail
 rw [HW.out];go_wp2_with fail
 refine CA.out.mono ?_
 rintro e w1 ⟨rfl,hb1⟩;rw [show Gaps.errv 0=Value.nilIface from rfl];obtain ⟨W1,hW1⟩:∃ W1,w1.alloc (.cells #[.int .i64 now] 89)=W1:=⟨_,rfl⟩;have hB1:Below w.heap.size w W1:=by rw [<- hW1];exact (HB0.out.trans (hb1.mono HB0.out.size)).alloc (by have:=HB0.out.size;have:=hb1.size;omega) _
 have hbk:W1.heap[w.heap.size]?=W0.heap[w.heap.size]?:=by
  rw [<- hW1];exact (Below.heap_alloc _ _ _ (by have:=lt_of_block HBX.out;have:=hb1.size;omega)).trans (hb1.block _ (lt_of_block HBX.out))
 have HW1:=ξ0 hW1
 have HB1:=ξ0 hB1
 have hN1:=HN.out.below hB1
 have ct:=hN1.track hi
 have bx:=(hN1.trs k hi tr HTr.out).1.box
 rw [HTr.out] at ct;simp only [tpv] at ct
 rw [HPP.out] at ct bx;have cp:W1.cell? ⟨pp,2,none⟩=some (.int .i64 (-1)):=by rw [<- HPA.out];simp [World.cell?,bx]
 have hbx1:=hbk.trans HBX.out
 have x0:W1.cell? ⟨w.heap.size,0,none⟩=some (.int .i64 s):=by simp [World.cell?,hbx1]
 have x1:W1.cell? ⟨w.heap.size,1,none⟩=some (.int .i64 t):=by simp [World.cell?,hbx1]
 have x2:W1.cell? ⟨w.heap.size,2,none⟩=some (.int .i64 l):=by simp [World.cell?,hbx1]
 have x3:W1.cell? ⟨w.heap.size,3,none⟩=some (.int .i64 q):=by simp [World.cell?,hbx1]
 have x4:W1.cell? ⟨w.heap.size,4,none⟩=some (.bool st):=by simp [World.cell?,hbx1]
 have x5:W1.cell? ⟨w.heap.size,5,none⟩=some (.slice a m cap):=by simp [World.cell?,hbx1]
 obtain ⟨cb,hcb⟩:∃ cb,w1.heap.size=cb:=⟨_,rfl⟩;clear hb1 hW1 hB1 hbk c0 CA hN1 bx hbx1;go_upto_region 4 with fail
 first | rw [HW1.out] | skip
 clear hcb;go_wp2_with fail
 refine (CT.out _).mono ?_
 rintro e w2 ⟨rfl,rfl⟩;go_wp2_with fail
 refine (CC.out _).mono ?_
 rintro e w2 ⟨rfl,hb2⟩;rw [show Pack.errv f=errv f from rfl];have HB2:=ξ0 (HB1.out.trans (hb2.mono HB1.out.size))
 clear hb2;go_wp2_with fail
 go_ret
 exact ⟨rfl,HB2.out⟩
def HeardG (w w':World) (o:Nat->Tg) (n b:Nat) (N:Nd) (k:Nat) (tr:Tr) (s t l q:Int) (st:Bool) (L:List Nat) (og h now:Int) (f:Nat):Prop:=
 (f=0->∃ bv,Done w w' o n b (N.tookG k tr ⟨s,t,l,q,st,L,bv⟩ og h now))/\(f≠0->Below w.heap.size w w')
theorem ξ52 (n b k:Nat) (o:Nat->Tg) (P:NP) (N:Nd) (tr:Tr) (fr now og ep h s t l q:Int) (st:Bool) (a:Option Addr) (m cap:Nat) (L:List Nat) (w:World) (hn:n≠0) (hN:NAt w o n b P N) (hi:k<8) (ht:N.tr k=some tr) (hG:GM.Inv 3 3 tr.gn tr.gT tr.gM) (hR:RM.Inv 64 tr.rT tr.rM) (hA:Arg w a m (fby ((k:Int)+1) og ep h (pby s t l q st L))) (hc:m<=cap) (hff:FM.ffault ((k:Int)+1) og ep h (pby s t l q st L)=0) (hf:PM.fault s t l q L.length=0) (hL:∀ c∈L,c<256) (nw0:Int) (hsb:∀ x∈N.sb,SbOk nw0 x.2/\OM.tf x.2.on now=0) (hls:SInv N.sb N.ls) (hl:N.lt.length+tr.kids.length<=1000000) :
 Calls prog 116 #[.pointer (some ⟨b,0,none⟩),.int .i64 fr,.slice a m cap,.int .i64 now] w fun e w'=>e=.returned (errv (hrF tr fr ep))/\HeardG w w' o n b N k tr s t l q st L og (h+1) now (hrF tr fr ep):=by
 have hpL:∀ c∈pby s t l q st L,c<256:=by
  obtain ⟨s',t',l',q',rfl,rfl,rfl,rfl,h1,h2,h3,h4,h5⟩:=PM.ξt hf;intro c hcc;unfold pby at hcc;simp only [Int.toNat_natCast] at hcc
  rcases Ξe.1 hcc with hcc | hcc
  ·exact PM.ξ8e st h1 h2 h3 h4 c hcc
  ·exact hL c hcc
 have CF:=ξ0 (ξ9r ((k:Int)+1) og ep h a m cap _ w hA hc hpL hff)
 have hh:0<=h/\h<=64:=by obtain ⟨_,_,_,p',_,_,_,rfl,_,_,_,_,h5,_⟩:=FM.ξ1R hff;omega
 obtain ⟨o0,ho0⟩:∃ o0,grow o w ξ2=o0:=⟨_,rfl⟩;have he0:Ext w o o0:=by rw [<- ho0];exact ξ3 o w ξ2
 have hnew:∀ j,w.heap.size<=j->(o0 j).n=0:=fun j hj=>by rw [<- ho0,ξh hj]
 have HT:Hid (∀ W a2 c2,Below w.heap.size w W->Arg W a2 L.length L->(a2=none->L.length=0/\c2=0)->(∀ ad,a2=some ad->w.heap.size<=ad.block)->Calls prog 92 #[.pointer (some ⟨b,0,none⟩),.pointer (some ⟨(P.tp k).p,0,none⟩),.agg #[.int .i64 s,.int .i64 t,.int .i64 l,.int .i64 q,.bool st,.slice a2 L.length c2],.agg #[.int .i64 og,.int .i64 (h+1)],.int .i64 now] W fun e w'=>e=.returned (.tuple #[])/\Hid (HeardG w w' o n b N k tr s t l q st L og (h+1) now 0)):=by
  refine ξ0 ?_
  intro W a2 c2 hBW hAW hno2 hfr2;have hNW:NAt W o0 n b P N:=hN.chg (S:=fun _=>False) (Chg.of_below hBW _ _) (fun g hg=>hg.elim) he0
  refine (ξ6a n b k o0 P N tr s t l q og (h+1) now st a2 L.length c2 L W hn hNW hi ht hG hR hAW hno2 hf (fun hm ad e=>hnew _ (hfr2 ad e)) nw0 hsb hls hl).mono ?_
  rintro e w' ⟨rfl,o',P',q1,q2,q3⟩;refine ⟨rfl,ξ0 ⟨fun _=>⟨_,o',P',q1,fun j hj=>?_,(Chg.of_below hBW _ _).trans q3 he0⟩,fun hx=>absurd rfl hx⟩⟩
  rw [q2 j (by have:=hBW.size;omega)]
  exact he0 j hj
 have CP:=ξ0 (fun W a1 m1 c1 (h1:Arg W a1 m1 (pby s t l q st L)) (h2:m1<=c1)=>ξ8P s t l q st a1 m1 c1 L W h1 h2 hf)
 have hk3:wrap64 ((k:Int)+1 - 1)=(k:Int):=by unfold wrap64;omega
 have hk5:wrap64 (k:Int)=(k:Int):=by unfold wrap64;omega
 have hk4:(k:Int)<8:=by omega
 have hw1:wrap64 (h+1)=h+1:=by unfold wrap64;omega
 have HN:=ξ0 hN
 have HTr:=ξ0 ht
 obtain ⟨pp,hpp⟩:∃ pp,(P.tp k).p=pp:=⟨_,rfl⟩;rw [hpp] at HT;have HPP:=ξ0 hpp
 obtain ⟨B,hB⟩:∃ B,pby s t l q st L=B:=⟨_,rfl⟩;rw [hB] at CF CP;obtain ⟨fl,hfl⟩:∃ fl,hrF tr fr ep=fl:=⟨_,rfl⟩;rw [hfl];unfold hrF at hfl;have HFL:=ξ0 hfl
 obtain ⟨pa,hpa⟩:∃ pa,tr.pa=pa:=⟨_,rfl⟩;obtain ⟨te,hte⟩:∃ te,tr.ep=te:=⟨_,rfl⟩;rw [hpa,hte] at HFL;have HPE:=ξ0 (And.intro hpa hte)
 obtain ⟨ll,hll⟩:∃ ll,L.length=ll:=⟨_,rfl⟩;rw [hll] at CP HT;clear hN ht hG hR hA hff hf hsb hls hl hpL ho0 he0 hnew hpp hB hfl hpa hte hll hL;go_enter func116,ntmps116
 go_wp2_with fail
 refine CF.out.mono ?_
 rintro e w1 ⟨a1,m1,c1,rfl,hb1,hA1,hm1,hf1⟩;obtain ⟨W1,hW1⟩:∃ W1,w1.alloc (.cells #[.int .i64 ((k:Int)+1),.int .i64 og,.int .i64 ep,.int .i64 h,.slice a1 m1 c1] 238)=W1:=⟨_,rfl⟩;have hB1:Below w1.heap.size w1 W1:=by rw [<- hW1];exact (Ξp _ _).alloc (Ξo _) _
 have hbf:W1.heap[w1.heap.size]?=some (.cells #[.int .i64 ((k:Int)+1),.int .i64 og,.int .i64 ep,.int .i64 h,.slice a1 m1 c1] 238 (0,0)):=by rw [<- hW1];exact heap_alloc_new w1 _
 have CP1:=ξ0 (CP.out W1 a1 m1 c1 (hA1.below hB1) hm1)
 have c4:W1.cell? ⟨w1.heap.size,4,none⟩=some (.slice a1 m1 c1):=by simp [World.cell?,hbf]
 obtain ⟨fb,hfb⟩:∃ fb,w1.heap.size=fb:=⟨_,rfl⟩;rw [hfb] at hbf c4;have HBF:=ξ0 hbf
 have HB1:=ξ0 (hb1.trans (hB1.mono hb1.size))
 have HW1:=ξ0 hW1
 clear hb1 hA1 hm1 hf1 hW1 hB1 hbf CP CF;go_upto_region 4 with fail
 first | rw [HW1.out] | skip
 clear hfb;go_wp2_with fail
 refine CP1.out.mono ?_
 rintro e w2 ⟨a2,c2,rfl,hb2,hA2,hno2,hf2⟩;obtain ⟨W2,hW2⟩:∃ W2,w2.alloc (.cells #[.int .i64 s,.int .i64 t,.int .i64 l,.int .i64 q,.bool st,.slice a2 ll c2] 38)=W2:=⟨_,rfl⟩;have hB2:Below w2.heap.size w2 W2:=by rw [<- hW2];exact (Ξp _ _).alloc (Ξo _) _
 have hbp:W2.heap[w2.heap.size]?=some (.cells #[.int .i64 s,.int .i64 t,.int .i64 l,.int .i64 q,.bool st,.slice a2 ll c2] 38 (0,0)):=by rw [<- hW2];exact heap_alloc_new w2 _
 have hbf2:W2.heap[fb]?=some (.cells #[.int .i64 ((k:Int)+1),.int .i64 og,.int .i64 ep,.int .i64 h,.slice a1 m1 c1] 238 (0,0)):=(hB2.block _ (by have:=lt_of_block HBF.out;have:=hb2.size;omega)).trans ((hb2.block _ (lt_of_block HBF.out)).trans HBF.out)
 have hBt:Below w.heap.size w W2:=(HB1.out.trans (hb2.mono HB1.out.size)).trans (hB2.mono (by have:=HB1.out.size;have:=hb2.size;omega))
 obtain ⟨pb,hpb⟩:∃ pb,w2.heap.size=pb:=⟨_,rfl⟩;rw [hpb] at hbp;have hN2:=HN.out.below hBt
 have ct:=hN2.track hi
 have bx:=(hN2.trs k hi tr HTr.out).1.box
 rw [HTr.out] at ct;simp only [tpv] at ct
 rw [HPP.out] at ct bx;have p1:W2.cell? ⟨pp,1,none⟩=some (.int .i64 te):=by rw [<- HPE.out.2];simp [World.cell?,bx]
 have p2:W2.cell? ⟨pp,2,none⟩=some (.int .i64 pa):=by rw [<- HPE.out.1];simp [World.cell?,bx]
 have f0:W2.cell? ⟨fb,0,none⟩=some (.int .i64 ((k:Int)+1)):=by simp [World.cell?,hbf2]
 have f1:W2.cell? ⟨fb,1,none⟩=some (.int .i64 og):=by simp [World.cell?,hbf2]
 have f2:W2.cell? ⟨fb,2,none⟩=some (.int .i64 ep):=by simp [World.cell?,hbf2]
 have f3:W2.cell? ⟨fb,3,none⟩=some (.int .i64 h):=by simp [World.cell?,hbf2]
 have x0:W2.cell? ⟨pb,0,none⟩=some (.int .i64 s):=by simp [World.cell?,hbp]
 have x1:W2.cell? ⟨pb,1,none⟩=some (.int .i64 t):=by simp [World.cell?,hbp]
 have x2:W2.cell? ⟨pb,2,none⟩=some (.int .i64 l):=by simp [World.cell?,hbp]
 have x3:W2.cell? ⟨pb,3,none⟩=some (.int .i64 q):=by simp [World.cell?,hbp]
 have x4:W2.cell? ⟨pb,4,none⟩=some (.bool st):=by simp [World.cell?,hbp]
 have x5:W2.cell? ⟨pb,5,none⟩=some (.slice a2 ll c2):=by simp [World.cell?,hbp]
 have CTk:=ξ0 (fun j=>HT.out (W2.drewN j) a2 c2 (below_drewN' hBt) (((hA2.below hB2)).below (below_drewN' (Ξp _ _))) hno2 (fun ad e=>by have:=hf2 ad e;have:=HB1.out.size;omega))
 have HBt:=ξ0 hBt
 have HW2:=ξ0 hW2
 clear hb2 hA2 hno2 hf2 hW2 hB2 hbp hbf2 hBt hN2 bx c4 CP1 HT;go_upto_region 7 with fail
 first | rw [HW2.out] | skip
 clear hpb;go_quiet (fail)
 by_cases c1:pa=-1
 ·have e1:(pa==-1)=true:=by simpa using c1
  have hfl:fl=6:=by rw [<- HFL.out,if_pos (by exact .inl c1)]
  subst hfl;clear c1;go_wp2_with fail
  go_quiet (fail)
  go_wp2_with fail
  go_ret
  exact ⟨rfl,fun hx=>absurd hx (by omega),fun _=>below_drewN' HBt.out⟩
 have e1:(pa==-1)=false:=by simpa using c1
 by_cases c2:fr≠pa
 ·have e2:(fr != pa)=true:=by simpa using c2
  have hfl:fl=6:=by rw [<- HFL.out,if_pos (by exact .inr (.inl c2))]
  subst hfl;clear c2 c1;go_wp2_with fail
  go_quiet (fail)
  go_wp2_with fail
  go_ret
  exact ⟨rfl,fun hx=>absurd hx (by omega),fun _=>below_drewN' HBt.out⟩
 have c2':fr=pa:=by omega
 have e2:(fr != pa)=false:=by simpa using c2'
 by_cases c3:ep≠te
 ·have e3:(ep != te)=true:=by simpa using c3
  have hfl:fl=6:=by rw [<- HFL.out,if_pos (by exact .inr (.inr c3))]
  subst hfl;clear c3 c2 c2' c1;go_wp2_with fail
  go_quiet (fail)
  go_wp2_with fail
  go_ret
  exact ⟨rfl,fun hx=>absurd hx (by omega),fun _=>below_drewN' HBt.out⟩
 have c3':ep=te:=by omega
 have e3:(ep != te)=false:=by simpa using c3'
 have hfl:fl=0:=by rw [<- HFL.out,if_neg (by omega)]
 subst hfl;clear c1 c2 c2' c3 c3';go_wp2_with fail
 go_quiet (fail)
 go_wp2_with fail
 refine (CTk.out _).mono ?_
 rintro e w4 ⟨rfl,HD⟩;go_wp2_with fail
 go_ret
 exact ⟨rfl,HD.out⟩
def HeardNG (w w':World) (o:Nat->Tg) (n b:Nat) (N:Nd) (k:Nat) (tr:Tr) (s t l q:Int) (st:Bool) (L:List Nat) (og h now:Int) (f:Nat):Prop:=
 (f=0->∃ bv,Done w w' o n b { N.tookG k tr ⟨s,t,l,q,st,L,bv⟩ og h now with nw:=now })/\(f≠0->Below w.heap.size w w')
theorem ξ7s (n b k:Nat) (o:Nat->Tg) (P:NP) (N:Nd) (tr:Tr) (fr now og ep h s t l q:Int) (st:Bool) (a:Option Addr) (m cap:Nat) (L:List Nat) (w:World) (hn:n≠0) (hN:NAt w o n b P N) (hi:k<8) (ht:N.tr k=some tr) (hnow:GM.tf N.nw now=0) (hG:GM.Inv 3 3 tr.gn tr.gT tr.gM) (hR:RM.Inv 64 tr.rT tr.rM) (hA:Arg w a m (fby ((k:Int)+1) og ep h (pby s t l q st L))) (hc:m<=cap) (hff:FM.ffault ((k:Int)+1) og ep h (pby s t l q st L)=0) (hf:PM.fault s t l q L.length=0) (hL:∀ c∈L,c<256) (nw0:Int) (hsb:∀ x∈N.sb,SbOk nw0 x.2/\OM.tf x.2.on now=0) (hls:SInv N.sb N.ls) (hl:N.lt.length+tr.kids.length<=1000000) :
 Calls prog 89 #[.pointer (some ⟨b,0,none⟩),.int .i64 fr,.slice a m cap,.int .i64 now] w fun e w'=>e=.returned (errv (hrF tr fr ep))/\HeardNG w w' o n b N k tr s t l q st L og (h+1) now (hrF tr fr ep):=by
 have CA:=ξ0 (Gaps.ξF N.nw now w)
 rw [if_pos hnow,hnow] at CA;obtain ⟨R,hR70⟩:=ξbi hff;have hA':=hA
 rw [hR70] at hA';have hm0:0<m:=by have:=hA'.2.1;simp at this;omega
 obtain ⟨ba,oa,rfl⟩:=Pack.ξ1n hA' hm0;have c70:w.cell? ⟨ba,oa,none⟩=some (.int .u8 70):=by
  have:=Pack.ξd hA' 0 hm0
  simpa using this
 obtain ⟨o0,ho0⟩:∃ o0,grow o w ξ2=o0:=⟨_,rfl⟩;have he0:Ext w o o0:=by rw [<- ho0];exact ξ3 o w ξ2
 have hnew:∀ j,w.heap.size<=j->(o0 j).n=0:=fun j hj=>by rw [<- ho0,ξh hj]
 have HH:Hid (∀ W,Below w.heap.size w W->Calls prog 116 #[.pointer (some ⟨b,0,none⟩),.int .i64 fr,.slice (some ⟨ba,oa,none⟩) m cap,.int .i64 now] W fun e w'=>e=.returned (errv (hrF tr fr ep))/\HeardG W w' o0 n b N k tr s t l q st L og (h+1) now (hrF tr fr ep)):=by
  refine ξ0 ?_
  intro W hBW;have hNW:NAt W o0 n b P N:=hN.chg (S:=fun _=>False) (Chg.of_below hBW _ _) (fun g hg=>hg.elim) he0
  exact ξ52 n b k o0 P N tr fr now og ep h s t l q st (some ⟨ba,oa,none⟩) m cap L W hn hNW hi ht hG hR (hA.below hBW) hc hff hf hL nw0 hsb hls hl
 have c0:=hN.cells.1
 obtain ⟨nw,hnw⟩:∃ nw,N.nw=nw:=⟨_,rfl⟩;rw [hnw] at c0 CA;obtain ⟨fl,hfl⟩:∃ fl,hrF tr fr ep=fl:=⟨_,rfl⟩;rw [hfl] at HH;rw [hfl];have q1:=ξr fl
 have q2:=ξq fl
 have HN:=ξ0 hN
 have HE0:=ξ0 he0
 have HNew:=ξ0 hnew
 have hmz:(0:Int)<(m:Int):=by omega
 have hmd:decide ((0:Int)<(m:Int))=true:=by simpa using hm0
 have hmd2:decide (0<m)=true:=by simpa using hm0
 have H70:=ξ0 c70
 clear hN ht hnow hG hR hA hA' hff hf hL hsb hls hl ho0 he0 hnew hnw hfl hR70 hc c70;go_enter func89,ntmps89
 go_wp2_with fail
 refine CA.out.mono ?_
 rintro e w1 ⟨rfl,hb1⟩;rw [show Gaps.errv 0=Value.nilIface from rfl];obtain ⟨W1,hW1⟩:∃ W1,w1.alloc (.cells #[.int .i64 now] 89)=W1:=⟨_,rfl⟩;have hB1:Below w.heap.size w W1:=by rw [<- hW1];exact hb1.alloc hb1.size _
 have hbk:W1.heap[w1.heap.size]?=some (.cells #[.int .i64 now] 89 (0,0)):=by rw [<- hW1];exact heap_alloc_new w1 _
 have c70:=ξb hB1 H70.out
 have CH:=ξ0 (HH.out W1 hB1)
 obtain ⟨cb,hcb⟩:∃ cb,w1.heap.size=cb:=⟨_,rfl⟩;rw [hcb] at hbk;have hcbn:=HNew.out cb (by rw [<- hcb];exact hb1.size)
 have HCN:=ξ0 hcbn
 have HBK:=ξ0 hbk
 have HB1:=ξ0 hB1
 have HW1:=ξ0 hW1
 clear hb1 hW1 hB1 hbk hcbn CA HH c0;go_upto_region 4 with fail
 first | rw [HW1.out] | skip
 clear hcb;go_wp2_with fail
 refine CH.out.mono ?_
 rintro e w2 ⟨rfl,hH⟩;by_cases hf0:fl=0
 ·obtain ⟨bv,o2,P2,r1,r2,r3⟩:=hH.1 hf0;have d0:decide (fl=0)=true:=by simpa using hf0
  have hcell:w2.heap[cb]?=some (.cells #[.int .i64 now] 89 (0,0)):=ξ1D hn r3 HBK.out HCN.out
  have ck:w2.cell? ⟨cb,0,none⟩=some (.int .i64 now):=by simp [World.cell?,hcell]
  have cc:=r1.cells.1
  have ff:=r1.free 0
  have hfin:=r1.setN hn now
  have hcf:=ξx (r1.chgB 0 (.int .i64 now))
  have HD:Hid (HeardNG w (w2.setCell ⟨b,0,none⟩ (.int .i64 now)) o n b N k tr s t l q st L og (h+1) now fl):=by
   refine ξ0 ⟨fun _=>⟨bv,o2,P2,hfin,fun j hj=>?_,?_⟩,fun hx=>absurd hf0 hx⟩
   ·rw [r2 j (by have:=HB1.out.size;omega)]
    exact HE0.out j hj
   ·exact (Chg.of_below HB1.out o _).trans (r3.trans hcf r2) HE0.out
  have HF0:=ξ0 hf0
  clear hH r1 r2 r3 hcell hfin hcf hf0;go_wp2_with fail
  go_ret
  exact ⟨by rw [HF0.out];rfl,HD.out⟩
 ·have hb:=hH.2 hf0
  have d0:decide (fl=0)=false:=by simpa using hf0
  have HD:Hid (HeardNG w w2 o n b N k tr s t l q st L og (h+1) now fl):=ξ0 ⟨fun hx=>absurd hx hf0,fun _=>HB1.out.trans (hb.mono HB1.out.size)⟩
  clear hH hb hf0;go_wp2_with fail
  go_ret
  exact ⟨rfl,HD.out⟩
end Go.Proofs.YtpiamlgmadnepaaGreat.ND
namespace Go.Proofs.YtpiamlgmadnepaaGreat.Ring
open Go.ChangeShapes Go.WideShapes Go.ChangeAt Go.RowKit Go.Maps PM Mem Pack RM
theorem ξcR (b mb:Nat) (n T:Int) (M:Its) (w:World) (h:RingAt w b mb n T M) (i:Int×Pk) (hi:i∈M) (hw:(Lit.int .i64 i.1).wf=true) :
 Calls prog 186 #[.pointer (some ⟨b,0,none⟩),.int .i64 i.1] w fun e w'=>∃ a m c,e=.returned (.tuple #[.agg #[.int .i64 i.2.s,.int .i64 i.2.t,.int .i64 i.2.l,.int .i64 i.2.q,.bool i.2.st,.slice a m c],.nilIface])/\Arg w' a m i.2.L/\(a=none->m=0/\c=0)/\Below w.heap.size w w':=by
 have hR:RingAt (w.alloc (.cells #[.int .i64 0,.int .i64 0,.int .i64 0,.int .i64 0,.bool false,.slice none 0 0] 38)) b mb n T M:=h.below ((Ξp _ _).alloc (Ξo _) _)
 obtain ⟨a,m,c,hl,ho,hb,hm⟩:=ξ2V hR hi hw;obtain ⟨c0,c1,c2⟩:=hR.cells;have HO:=ξ0 ho
 have HL:=ξ0 hb
 clear hR h hi ho hb;generalize i.2.s=s at *
 generalize i.2.t=t at *
 generalize i.2.l=l at *
 generalize i.2.q=q at *
 generalize i.2.st=st at *
 generalize i.2.L=L at *
 generalize i.1=y at *
 clear i;go_enter func186,ntmps186
 go_wp2_with fail
 obtain ⟨a0,k0,e0,hA,hN,_,_⟩:=ξy (L:=L) (HO.out.alloc (.cells #[.int .i64 s,.int .i64 t,.int .i64 l,.int .i64 q,.bool st,.slice a m c] 38)) HL.out (by omega)
 cases e0
 refine (ξ1T s t l q st a m c L _ hA hN hm).mono ?_
 rintro e w1 ⟨a',c',rfl,hown,hb1⟩;have hy:w1.heap[w.heap.size]?=some (.cells #[.int .i64 0,.int .i64 0,.int .i64 0,.int .i64 0,.bool false,.slice none 0 0] 38 (0,0)):=
  (hb1.block _ (by simp;omega)).trans (((Box.new w 0 0 0 0 false (.slice none 0 0)).alloc _))
 have HY:=ξ0 hy
 have HO1:=ξ0 hown
 have HB1:Hid (Below w.heap.size w w1):=(((Ξp _ _).alloc (Ξo _) _).alloc (by simp) _).trans (hb1.mono (by simp;omega))
 clear hy hown hb1 hA hN HO hl c0 c1 c2;obtain ⟨⟨d0,d1,d2,d3,d4,d5⟩,g0,g1,g2,g3,g4,g5⟩:=open6 HY.out;go_wp2_with fail
 have ho:Only [w.heap.size] w1 _:=only6 (g:=w.heap.size) (Only.refl _ w1) (by simp) (.int .i64 s) (.int .i64 t) (.int .i64 l) (.int .i64 q) (.bool st) (.slice a' m c')
 refine bodyPost_ret (ξ4m (g:=w.heap.size) rfl rfl (box6 HY.out s t l q st _)) rfl ?_
 obtain ⟨a2,k2,e2,hA2,hno2,_⟩:=ξy (L:=L) (ho.owns HO1.out (fun k hk hc=>by
  simp at hc
  subst hc;rcases HO1.out.2 with ⟨hn,_⟩ | ⟨g,cap,cur,e,_,hgg,_⟩
  ·rw [hn] at hk;simp [Value.ownBlock] at hk
  ·rw [e] at hk;simp [Value.ownBlock] at hk
   subst hk;rw [HY.out] at hgg;simp at hgg)) HL.out (by omega)
 cases e2
 exact ⟨a',m,c',rfl,hA2,hno2,HB1.out.trans (ho.below HB1.out.size (by simp))⟩
end Go.Proofs.YtpiamlgmadnepaaGreat.Ring
namespace Go.Proofs.YtpiamlgmadnepaaGreat.ND
open Go.ChangeShapes Go.WideShapes Go.ChangeAt Go.RowKit Go.Maps Go.Lib Mem NO
theorem ξ46 {w w':World} {o:Nat->Tg} {S:Tg->Prop} {a:Option Addr} {m:Nat} {L:List Int} (h:Back.IArg w a m L) (hc:Chg o S w w') (hS:∀ g,S g->g.n≠0) (hz:∀ ad,a=some ad->0<m->(o ad.block).n=0):Back.IArg w' a m L:=by
 obtain ⟨bs,q1,q2,q3⟩:=hc;refine ⟨fun j hj=>?_,h.2⟩
 obtain ⟨b',o',e,hc⟩:=h.1 j hj;have hnb:b'∉bs:=fun hx=>hS _ (q2 _ hx) (hz _ e (by have:=h.2.1;omega))
 exact ⟨b',o',e,(ξn (q1.2.2.2.2 b' (Ξq w ⟨b',o'+j,none⟩ hc) hnb) _).trans hc⟩
theorem Wrote.below {w w1 w2:World} {o:Nat->Tg} {n b:Nat} {P:NP} {N:Nd} (h:Wrote w w1 o n b P N) (hb:Below w1.heap.size w1 w2):Wrote w w2 o n b P N:=by
 obtain ⟨o',lv,h1,h2,h3⟩:=h;exact ⟨o',lv,h1.below hb,h2,h3.trans' (Chg.of_below hb _ _)⟩
theorem ξd1 {M:RM.Its} (h1:M.Pairwise fun a b=>a.1≠b.1) {x:Int×RM.Pk} (hx:x∈M):(M.find? fun i=>i.1==x.1)=some x:=by
 induction M with
 | nil=>cases hx
 | cons a M ih=>
   obtain ⟨k1,k2⟩:=List.pairwise_cons.1 h1;rw [List.find?_cons];rcases Ξf.1 hx with rfl | hx
   ·simp
   ·have:=k1 x hx
    rw [show (a.1==x.1)=false by simpa using this]
    exact ih k2 hx
theorem ξd0 {M:RM.Its} {y:Int} (h:RM.has M y=false):(M.find? fun i=>i.1==y)=none:=by
 rw [List.find?_eq_none];intro x hx;simpa using RM.ξ11 h x hx
theorem ξdw {T q:Int} (h0:0<=q) (h1:q<=65535) (hT:-1<=T) (hT2:T<=1099511627776):-9223372036854775808<=num T q/\num T q<=9223372036854775807:=by
 unfold num Ser.unw Ser.bey;split
 ·omega
 ·(try simp only [])
  split<;>omega
theorem ξbI (n b i:Nat) (o:Nat->Tg) (P:NP) (N:Nd) (tr:Tr) (kd:Int) (a:Option Addr) (nn cap:Nat) (L:List Int) (w:World) (hn:n≠0) (hN:NAt w o n b P N) (hi:i<8) (ht:N.tr i=some tr) (hR:RM.Inv 64 tr.rT tr.rM) (hrf:∀ x∈tr.rM,PM.fault x.2.s x.2.t x.2.l x.2.q x.2.L.length=0) (hA:Back.IArg w a nn L) (hz:∀ ad,a=some ad->0<nn->(o ad.block).n=0) (hL:∀ q∈L,0<=q/\q<=65535) (hnn:nn<=1000) (hl:N.lt.length<=1000) :
 Calls prog 151 #[.pointer (some ⟨b,0,none⟩),.int .i64 kd,.pointer (some ⟨(P.tp i).p,0,none⟩),.slice a nn cap] w fun e w'=>e=.returned (.tuple #[])/\Wrote w w' o n b P { N with lt:=N.lt++L.flatMap (againL tr kd) }:=by
 have hlen:=hA.2.1
 -- what stands at a round's start
 obtain ⟨St,hSt⟩:∃ St:World->Nat->Prop,(fun wr j=>Wrote w wr o n b P { N with lt:=N.lt++(L.take j).flatMap (againL tr kd) })=St:=⟨_,rfl⟩
 have hSte:∀ wr j,St wr j↔Wrote w wr o n b P { N with lt:=N.lt++(L.take j).flatMap (againL tr kd) }:=fun wr j=>by rw [<- hSt]
 have HCell:Hid (∀ wr j,St wr j->j<nn->∃ ba oa,a=some ⟨ba,oa,none⟩/\wr.cell? ⟨ba,oa+j,none⟩=some (.int .i64 (L.getD j 0))):=by
  refine ξ0 ?_
  intro wr j hs hj;obtain ⟨o',lv,h1,h2,h3⟩:=(hSte wr j).1 hs;have:=ξ46 hA (ξ1h h3) (by intro g hg;unfold mine at hg;omega) hz
  obtain ⟨ba,oa,e,hcs⟩:=this.at (by omega)
  exact ⟨ba,oa,e,hcs j hj⟩
 have hstep:∀ j,j<nn->(L.take (j+1)).flatMap (againL tr kd)=(L.take j).flatMap (againL tr kd)++againL tr kd (L.getD j 0):=by
  intro j hj;rw [ξ38 (by omega),List.flatMap_append]
  simp
 have hmem:∀ j,j<nn->0<=L.getD j 0/\L.getD j 0<=65535:=by
  intro j hj;have:j<L.length:=by omega
  exact hL _ (by rw [Ξa,Ξd this];exact List.getElem_mem this)
 have hsmall:∀ j,((L.take j).flatMap (againL tr kd)).length<=j:=by
  intro j;have g:∀ X:List Int,(X.flatMap (againL tr kd)).length<=X.length:=by
   intro X
   induction X with
   | nil=>simp
   | cons x X ih=>simp only [List.flatMap_cons,Ξh,List.length_cons];have:=ξ4L tr kd x;omega
  have:=g (L.take j)
  rw [List.length_take] at this;omega
 have HNum:Hid (∀ wr j,St wr j->j<nn->Calls prog 122 #[.pointer (some ⟨(P.tp i).p,0,none⟩),.int .i64 (L.getD j 0)] wr fun e w'=>e=.returned (.int .i64 (num tr.rT (L.getD j 0)))/\w'=wr):=by
  refine ξ0 ?_
  intro wr j hs hj;obtain ⟨o',lv,h1,h2,h3⟩:=(hSte wr j).1 hs;have hT:=(h1.trs i hi tr ht).1
  exact ξ2z (P.tp i).p (P.tp i).r (P.tp i).rm tr.rT tr.rM _ wr (by simp [World.cell?,show wr.heap[(P.tp i).p]?=_ from hT.box]) hT.rng hR (hmem j hj).1 (hmem j hj).2
 have HC5:Hid (∀ wr j,St wr j->wr.cell? ⟨(P.tp i).p,5,none⟩=some (.pointer (some ⟨(P.tp i).r,0,none⟩))):=by
  refine ξ0 ?_
  intro wr j hs;obtain ⟨o',lv,h1,h2,h3⟩:=(hSte wr j).1 hs;have hT:=(h1.trs i hi tr ht).1
  simp [World.cell?,show wr.heap[(P.tp i).p]?=_ from hT.box]
 have hwf:∀ j,j<nn->(Lit.int .i64 (num tr.rT (L.getD j 0))).wf=true:=fun j hj=>by
  obtain ⟨h1,h2⟩:=ξdw (T:=tr.rT) (hmem j hj).1 (hmem j hj).2 hR.t1 hR.t2;exact ξL h1 h2
 have HNone:Hid (∀ wr j,St wr j->j<nn->RM.has tr.rM (num tr.rT (L.getD j 0))=false->Calls prog 186 #[.pointer (some ⟨(P.tp i).r,0,none⟩),.int .i64 (num tr.rT (L.getD j 0))] wr fun e w'=>e=.returned (.tuple #[.agg #[.int .i64 0,.int .i64 0,.int .i64 0,.int .i64 0,.bool false,.slice none 0 0],Pack.errv 5])/\Hid (∀ w2,Below w'.heap.size w' w2->St w2 (j+1))):=by
  refine ξ0 ?_
  intro wr j hs hj hh;have hs':=(hSte wr j).1 hs
  obtain ⟨o',lv,h1,h2,h3⟩:=(hSte wr j).1 hs;have hT:=(h1.trs i hi tr ht).1
  refine (Ring.ξcQ (P.tp i).r (P.tp i).rm 64 tr.rT _ tr.rM wr hT.rng hh (hwf j hj)).mono ?_
  rintro e w' ⟨rfl,hb⟩;refine ⟨rfl,ξ0 fun w2 hb2=>(hSte _ _).2 ?_⟩
  rw [hstep j hj,show againL tr kd (L.getD j 0)=[] by unfold againL;rw [ξd0 hh],Ξu]
  exact (hs'.below hb).below hb2
 have HHas:Hid (∀ wr j,St wr j->j<nn->RM.has tr.rM (num tr.rT (L.getD j 0))=true->∃ (p:RM.Pk) (og h:Int),Calls prog 186 #[.pointer (some ⟨(P.tp i).r,0,none⟩),.int .i64 (num tr.rT (L.getD j 0))] wr fun e w'=>∃ a1 m1 c1,e=.returned (.tuple #[.agg #[.int .i64 p.s,.int .i64 p.t,.int .i64 p.l,.int .i64 p.q,.bool p.st,.slice a1 m1 c1],.nilIface]) /\
  Hid (∀ W,W=(w'.alloc (.cells #[.int .i64 p.s,.int .i64 p.t,.int .i64 p.l,.int .i64 p.q,.bool p.st,.slice a1 m1 c1] 38)).drew->AgS W w'.heap.size (P.tp i).p (P.tp i).wm p a1 m1 c1 (num tr.rT (L.getD j 0)) og h /\
   Calls prog 124 #[.pointer (some ⟨b,0,none⟩),.int .i64 kd,.pointer (some ⟨(P.tp i).p,0,none⟩),.agg #[.int .i64 p.s,.int .i64 p.t,.int .i64 p.l,.int .i64 p.q,.bool p.st,.slice a1 m1 c1],.agg #[.int .i64 og,.int .i64 h]] W fun e w2=>e=.returned (.tuple #[])/\AgS w2 w'.heap.size (P.tp i).p (P.tp i).wm p a1 m1 c1 (num tr.rT (L.getD j 0)) og h/\Hid (St w2 (j+1)))):=by
  refine ξ0 ?_
  intro wr j hs hj hh;obtain ⟨o',lv,h1,h2,h3⟩:=(hSte wr j).1 hs;have hT:=(h1.trs i hi tr ht).1
  obtain ⟨x,hx,hxy⟩:=RM.ξg.1 hh;obtain ⟨y,hy⟩:∃ y,num tr.rT (L.getD j 0)=y:=⟨_,rfl⟩;have hw:=hwf j hj
  rw [hy] at hxy hw ⊢;obtain ⟨y',p⟩:=x;obtain rfl:y'=y:=hxy;refine ⟨p,(tr.wy y').1,(tr.wy y').2,(Ring.ξcR (P.tp i).r (P.tp i).rm 64 tr.rT tr.rM wr hT.rng (y',p) hx hw).mono ?_⟩
  rintro e w1 ⟨a1,m1,c1,rfl,hA1,hno1,hb1⟩;refine ⟨a1,m1,c1,rfl,ξ0 ?_⟩
  rintro W rfl;obtain ⟨W,hW⟩:∃ W,(w1.alloc (.cells #[.int .i64 p.s,.int .i64 p.t,.int .i64 p.l,.int .i64 p.q,.bool p.st,.slice a1 m1 c1] 38)).drew=W:=⟨_,rfl⟩;rw [hW];have hB1:Below w1.heap.size w1 W:=by rw [<- hW];exact ((Ξp _ _).alloc (Ξo _) _).drew
  have hbx:W.heap[w1.heap.size]?=some (.cells #[.int .i64 p.s,.int .i64 p.t,.int .i64 p.l,.int .i64 p.q,.bool p.st,.slice a1 m1 c1] 38 (0,0)):=by rw [<- hW];exact heap_alloc_new w1 _
  have hBW:Below wr.heap.size wr W:=hb1.trans (hB1.mono hb1.size)
  obtain ⟨o0,ho0⟩:∃ o0,grow o' wr ξ2=o0:=⟨_,rfl⟩;have he0:Ext wr o' o0:=by rw [<- ho0];exact ξ3 o' wr ξ2
  have hob:(o0 w1.heap.size).n=0:=by rw [<- ho0,ξh hb1.size]
  have hNW:=h1.chg (S:=fun _=>False) (Chg.of_below hBW _ _) (fun g hg=>hg.elim) he0
  have hA2:=hA1.below hB1
  have hm:=hA2.2.1
  have gag:=ags hNW hi ht hbx hx (Prod.ext rfl rfl:tr.wy y'=((tr.wy y').1,(tr.wy y').2)) hw
  refine ⟨gag,?_⟩
  have C:=ξ2x n b i o0 { P with lv:=lv } _ tr kd p.s p.t p.l p.q (tr.wy y').1 (tr.wy y').2 p.st a1 m1 c1 p.L W hn hNW hi ht hA2 hno1 (by rw [<- hm];exact hrf _ hx) (by
   show (N.lt++(L.take j).flatMap (againL tr kd)).length<=1000000
   rw [Ξh];have:=hsmall j
   omega)
  refine C.mono ?_
  rintro e w2 ⟨rfl,o2,lv2,q1,q2,q3⟩;have hbx':=ξ1D hn (ξ1h q3) hbx hob
  have g2:=ags (tr:=tr) q1 hi ht hbx' hx (Prod.ext rfl rfl:tr.wy y'=((tr.wy y').1,(tr.wy y').2)) hw
  refine ⟨rfl,g2,ξ0 ((hSte _ _).2 ⟨o2,lv2,?_,?_,?_⟩)⟩
  ·have e:({ N with lt:=N.lt++(L.take (j+1)).flatMap (againL tr kd) }:Nd)={ ({ N with lt:=N.lt++(L.take j).flatMap (againL tr kd) }:Nd) with lt:=if FM.ffault tr.tk (tr.wy y').1 tr.ep (tr.wy y').2 (pby p.s p.t p.l p.q p.st p.L)=0 then (N.lt++(L.take j).flatMap (againL tr kd))++[(kd,fby tr.tk (tr.wy y').1 tr.ep (tr.wy y').2 (pby p.s p.t p.l p.q p.st p.L))] else N.lt++(L.take j).flatMap (againL tr kd) }:=by
    rw [hstep j hj];unfold againL;rw [hy,ξd1 hR.one hx];simp only []
    split
    ·rw [List.append_assoc]
    ·rw [Ξu]
   rw [e];exact q1
  ·exact (h2.trans he0 h3.size).trans q2 (by have:=h3.size;have:=hBW.size;omega)
  ·exact (h3.trans (Chg.of_below hBW _ _) h2).trans q3 (h2.trans he0 h3.size)
 have HFin:Hid (∀ wr,St wr nn->Wrote w wr o n b P { N with lt:=N.lt++L.flatMap (againL tr kd) }):=by
  refine ξ0 ?_
  intro wr hs;have:=(hSte wr nn).1 hs
  rwa [Ξl (by omega)] at this
 have HS0:Hid (St w 0):=by
  refine ξ0 ((hSte w 0).2 ⟨o,P.lv,?_,Ext.refl _ _,Chg.refl _ _ _⟩)
  rw [List.take_zero,List.flatMap_nil,Ξu];exact hN
 obtain ⟨R,hRes⟩:∃ R:Nd,{ N with lt:=N.lt++L.flatMap (againL tr kd) }=R:=⟨_,rfl⟩;rw [hRes] at HFin ⊢;obtain ⟨pp,hpp⟩:∃ pp,(P.tp i).p=pp:=⟨_,rfl⟩;obtain ⟨rb,hrb⟩:∃ rb,(P.tp i).r=rb:=⟨_,rfl⟩;obtain ⟨wm,hwm⟩:∃ wm,(P.tp i).wm=wm:=⟨_,rfl⟩;rw [hpp] at HNum HC5 HHas;rw [hrb] at HC5 HNone HHas;rw [hwm] at HHas;rw [hpp];obtain ⟨T,hT⟩:∃ T,tr.rT=T:=⟨_,rfl⟩;obtain ⟨M,hM⟩:∃ M,tr.rM=M:=⟨_,rfl⟩;rw [hT] at HNum HNone HHas;rw [hM] at HNone HHas;unfold AgS at HHas;clear hN ht hR hrf hA hz hL hl hlen hSt hSte hstep hmem hsmall hwf hRes hpp hrb hwm hT hM;go_enter func151,ntmps151
 go_wp2_with fail
 go_loopg [15] nn (fun gh x wr=>∃ j:Nat,j+gh=nn/\x=.int .i64 (j:Int)/\Hid (St wr j))
 case atStart=>exact ⟨0,by omega,rfl,HS0⟩
 case round=>
  obtain ⟨j,hjg,rfl,HS⟩:=hrel;by_cases hj:j<nn
  ·have hjz:(j:Int)<(nn:Int):=by omega
   obtain ⟨ba,oa,rfl,c0⟩:=HCell.out wr j HS.out hj;have CN:=ξ0 (HNum.out wr j HS.out hj)
   have c5:=HC5.out wr j HS.out
   have CO:=ξ0 (HNone.out wr j HS.out hj)
   have CG:=ξ0 (HHas.out wr j HS.out hj)
   obtain ⟨q,hq⟩:∃ q,L.getD j 0=q:=⟨_,rfl⟩;rw [hq] at CN CO CG c0;obtain ⟨y,hy⟩:∃ y,num T q=y:=⟨_,rfl⟩;rw [hy] at CN CO CG;clear hq hy HCell HNum HNone HHas HC5 HFin HS0 HS;go_wp2_with fail
   refine CN.out.mono ?_
   rintro e w0 ⟨rfl,hw0⟩;obtain rfl:wr=w0:=hw0.symm;cases hh:RM.has M y with
   | false=>
     have C:=ξ0 (CO.out hh)
     have z1:∀ w,(binOp .eql 25 (Pack.errv 5) .nilIface).run prog w=.ok (.bool false) w:=fun w=>cmp_eq 5 w
     have z2:∀ o1 w,(eqGuard .eql 25 o1 (.const .nilIface) (Pack.errv 5) .nilIface).run prog w=.ok () w:=fun o1 w=>ξ3q 5 o1 w
     obtain ⟨ev,hev⟩:∃ ev,Pack.errv 5=ev:=⟨_,rfl⟩;rw [hev] at C z1 z2;clear CO CG hh hev CN;go_wp2_with fail
     refine C.out.mono ?_
     rintro e w1 ⟨rfl,HB⟩;clear C;go_wp2_with fail
     go_roundg (nn - (j+1))
     case measure=>omega
     case rel=>exact ⟨j+1,by omega,by go_num,ξ0 (HB.out _ ((Ξp _ _).alloc (Ξo _) _))⟩
   | true=>
     obtain ⟨p,og,h,C0⟩:=CG.out hh;have C:=ξ0 C0
     obtain ⟨ps,hps⟩:∃ z,p.s=z:=⟨_,rfl⟩;obtain ⟨pt,hpt⟩:∃ z,p.t=z:=⟨_,rfl⟩;obtain ⟨pl,hpl⟩:∃ z,p.l=z:=⟨_,rfl⟩;obtain ⟨pq,hpq⟩:∃ z,p.q=z:=⟨_,rfl⟩;obtain ⟨pst,hpst⟩:∃ z,p.st=z:=⟨_,rfl⟩;rw [hps,hpt,hpl,hpq,hpst] at C;clear CO CG hh C0 CN hps hpt hpl hpq hpst;go_wp2_with fail
     refine C.out.mono ?_
     rintro e w1 ⟨a1,m1,c1,rfl,HB⟩;clear C c5 c0;obtain ⟨W1,hW1⟩:∃ W1,w1.alloc (.cells #[.int .i64 ps,.int .i64 pt,.int .i64 pl,.int .i64 pq,.bool pst,.slice a1 m1 c1] 38)=W1:=⟨_,rfl⟩;obtain ⟨S0,C0⟩:=HB.out W1.drew (by rw [<- hW1])
     obtain ⟨pb,hpb⟩:∃ pb,w1.heap.size=pb:=⟨_,rfl⟩;rw [hpb] at S0 C0;have HC:=ξ0 C0
     have HW1:=ξ0 hW1
     clear hW1 C0 HB;go_upto_region 6 with fail
     first | rw [HW1.out] | skip
     clear hpb;go_region_held3 (fun w'=>(w'.cell? ⟨pb,0,none⟩=some (.int .i64 ps)/\w'.cell? ⟨pb,1,none⟩=some (.int .i64 pt)/\w'.cell? ⟨pb,2,none⟩=some (.int .i64 pl)/\w'.cell? ⟨pb,3,none⟩=some (.int .i64 pq)/\w'.cell? ⟨pb,4,none⟩=some (.bool pst)/\w'.cell? ⟨pb,5,none⟩=some (.slice a1 m1 c1))/\w'.cell? ⟨pp,6,none⟩=some (.map (some wm))/\(Instr.lookup 172 (.map (some wm)) (.int .i64 y) false).run prog w'=.ok (.agg #[.int .i64 og,.int .i64 h]) w') (with_reducible assumption) (first | (go_at_call 124;refine HC.out.mono ?_;rintro e w4 ⟨rfl,hS4,HD⟩))
     go_wp2_with fail
     go_roundg (nn - (j+1))
     case measure=>omega
     case rel=>exact ⟨j+1,by omega,by go_num,HD⟩
  ·have hjz:¬ (j:Int)<(nn:Int):=by omega
   obtain rfl:nn=j:=by omega
   have HD:=ξ0 (HFin.out wr HS.out)
   clear HCell HNum HNone HHas HC5 HFin HS0 HS;go_wp2_with fail
   go_end0
   exact ⟨rfl,HD.out⟩
end Go.Proofs.YtpiamlgmadnepaaGreat.ND
namespace Go.Proofs.YtpiamlgmadnepaaGreat.Back
open Go.ChangeShapes Go.WideShapes Go.ChangeAt Go.RowKit Go.Sort Go.Lib BM Mem
def Fresh (w:World) (a:Option Addr):Prop:=∀ ad,a=some ad->w.heap.size<=ad.block
theorem Fresh.none (w:World):Fresh w none:=fun ad e=>by cases e
theorem ξ7X:prsOf []=[]:=Ξk (by have:=(ξ1J (L:=[]) rfl).2.2.2.2.1;simpa using this)
theorem ξaa (b o n cap k t:Nat) (r:List Nat) (w:World) (h:Arg w (some ⟨b,o,none⟩) n (k::t::r)) (hc:n<=cap) (hs:rshort (k::t::r)=false) :
 Calls prog 149 #[.slice (some ⟨b,o,none⟩) n cap] w fun e w'=>∃ (k' t':Int) (a':Option Addr) (m c':Nat) (u':Int),e=.returned (.tuple #[.agg #[.int .i64 k',.int .i64 t',.slice a' m c',.int .i64 u'],errv (sfault k t r)]) /\
  Fresh w a'/\(a'=none->m=0/\c'=0)/\Below w.heap.size w w'/\(sfault k t r≠0->k'=0/\t'=0/\u'=0/\IArg w' a' m [])/\(sfault k t r=0->k'=k/\t'=t/\u'=saidU k r/\IArg w' a' m (saidL k r)):=by
 have HS:Hid (∀ W,Below w.heap.size w W->Calls prog 182 #[.slice (some ⟨b,o,none⟩) n cap] W fun e w'=>e=.returned (.bool false)/\w'=W):=fun W hW=>by
  have:=ξ5f _ n cap _ W (h.below hW)
  rw [hs] at this;exact this
 have HP:Hid (∀ W,Below w.heap.size w W->Calls prog 183 #[.slice (some ⟨b,o,none⟩) n cap] W _):=fun W hW=>ξau b o n cap k t r W (h.below hW) hc hs
 have HF:Hid (sfault k t r=if gfault k r then 2 else if efault k t (saidL k r) (saidU k r)≠0∨ebytes k t (saidL k r) (saidU k r)≠k::t::r then 2 else 0):=rfl
 have HEB:Hid (efault k t (saidL k r) (saidU k r)=0->encB k t (saidL k r) (saidU k r)=ebytes k t (saidL k r) (saidU k r)):=fun hz=>by rw [encB,if_pos hz]
 have HA:=ξ0 h
 generalize sfault k t r=F at *
 generalize saidL k r=L at *
 generalize saidU k r=u at *
 have hB0:Below w.heap.size w (w.alloc (.cells #[.int .i64 0,.int .i64 0,.slice none 0 0,.int .i64 0] 242)):=(Ξp _ _).alloc (Ξo _) _
 have HB0:=ξ0 hB0
 clear h hs hB0;obtain ⟨gf,hgf⟩:∃ g,gfault k r=g:=⟨_,rfl⟩;rw [hgf] at HP HF;cases gf with
 | true=>
   obtain rfl:F=2:=by rw [HF.out];rfl
   clear HF HEB;go_enter func149,ntmps149
   go_wp2_with fail
   refine (HS.out _ HB0.out).mono ?_
   rintro e w1 ⟨rfl,rfl⟩;go_wp2_with fail
   refine (HP.out _ HB0.out).mono ?_
   rintro e w1 ⟨k',t',a',m,c',u',rfl,_,_,_,hb1⟩;have HX0:Hid (BBox w1 w.heap.size 0 0 (.slice none 0 0) 0):=(BBox.new w 0 0 (.slice none 0 0) 0).below hb1 (by simp)
   have HB1:=ξ0 (HB0.out.trans (hb1.mono (by simp)))
   clear hb1;have hlt0:=HX0.out.lt
   go_upto_region 4 with fail
   obtain ⟨w2,hw2⟩:∃ w2,w1.alloc (.cells #[.int .i64 k',.int .i64 t',.slice a' m c',.int .i64 u'] 242)=w2:=⟨_,rfl⟩;rw [hw2];have HY0:Hid (BBox w2 w.heap.size 0 0 (.slice none 0 0) 0):=hw2 ▸ HX0.out.alloc _
   have HY1:Hid (BBox w2 w1.heap.size k' t' (.slice a' m c') u'):=hw2 ▸ BBox.new w1 k' t' (.slice a' m c') u'
   have HB2:Hid (Below w.heap.size w w2):=hw2 ▸ HB1.out.alloc HB1.out.size _
   clear hw2 HX0;obtain ⟨j0,j1,j2,j3⟩:=HY0.out.cells;have f0:=HY0.out.free 0
   have f1:=HY0.out.free 1
   have f2:=HY0.out.free 2
   have f3:=HY0.out.free 3
   go_wp2_with fail
   refine bodyPost_ret (ξ1s (g:=w.heap.size) rfl rfl (HY0.out.put 0 0 (.slice none 0 0) 0) ⟨_,_,_,rfl⟩) rfl ?_
   exact ⟨0,0,none,0,0,0,rfl,Fresh.none w,fun _=>⟨rfl,rfl⟩,(((HB2.out.setCell (Ξo _) _).setCell (Ξo _) _).setCell (Ξo _) _).setCell (Ξo _) _,fun _=>⟨rfl,rfl,rfl,IArg.nil _ _⟩,fun h=>absurd h (by decide)⟩
 | false=>
   go_enter func149,ntmps149
   go_wp2_with fail
   refine (HS.out _ HB0.out).mono ?_
   rintro e w1 ⟨rfl,rfl⟩;go_wp2_with fail
   refine (HP.out _ HB0.out).mono ?_
   rintro e w1 ⟨k',t',a',m,c',u',rfl,hsd,hn',hfa,hb1⟩;obtain ⟨rfl,rfl,rfl,hI⟩:=hsd (by first | rfl | trivial)
   have HX0:Hid (BBox w1 w.heap.size 0 0 (.slice none 0 0) 0):=(BBox.new w 0 0 (.slice none 0 0) 0).below hb1 (by simp)
   have HB1:=ξ0 (HB0.out.trans (hb1.mono (by simp)))
   have HI1:=ξ0 hI
   have HN':=ξ0 hn'
   have HFA:Hid (∀ ad,a'=some ad->ad.block≠w.heap.size):=fun ad e=>by have:=hfa ad e;simp at this;omega
   have HFB:Hid (Fresh w a'):=fun ad e=>by have:=hfa ad e;simp at this;omega
   clear hb1 hsd hI hn' hfa;have hlt0:=HX0.out.lt
   go_upto_region 4 with fail
   obtain ⟨w2,hw2⟩:∃ w2,w1.alloc (.cells #[.int .i64 (k:Int),.int .i64 (t:Int),.slice a' m c',.int .i64 (u:Int)] 242)=w2:=⟨_,rfl⟩;rw [hw2];have HY0:Hid (BBox w2 w.heap.size 0 0 (.slice none 0 0) 0):=hw2 ▸ HX0.out.alloc _
   have HY1:Hid (BBox w2 w1.heap.size k t (.slice a' m c') (u)):=hw2 ▸ BBox.new w1 k t (.slice a' m c') (u)
   have HB2:Hid (Below w.heap.size w w2):=hw2 ▸ HB1.out.alloc HB1.out.size _
   have HI2:Hid (IArg w2 a' m (L)):=HI1.out.below (hw2 ▸ (Ξp _ _).alloc (Ξo _) _)
   have hlt2:w1.heap.size<w2.heap.size:=HY1.out.lt
   have HEN:=ξ0 (ξ9v k t a' m c' (u) (L) w2 HI2.out HN'.out)
   have cne:=ξr (efault k t (L) (u))
   have gne:=ξq (efault k t (L) (u))
   clear hw2 HX0 HI1;generalize encB k t L u=EB at *
   generalize ebytes k t L u=EC at *
   generalize efault k t L u=f at *
   obtain ⟨k0,k1,k2,k3⟩:=HY1.out.cells;go_wp2_with fail
   refine HEN.out.mono ?_
   rintro e w3 ⟨a3,m3,c3,rfl,hA3,_,_,hb3⟩;have HZ0:=ξ0 (HY0.out.below hb3 HY0.out.lt)
   have HZ1:=ξ0 (HY1.out.below hb3 HY1.out.lt)
   have HB3:=ξ0 (HB2.out.trans (hb3.mono HB2.out.size))
   have HI3:=ξ0 (HI2.out.below hb3)
   have HEQ:=ξ0 (ξ7z a3 (some ⟨b,o,none⟩) m3 c3 n cap EB (k::t::r) w3 hA3 (HA.out.below (HB2.out.trans (hb3.mono HB2.out.size))))
   clear hA3 hb3 k0 k1 k2 k3 HEN HI2 HB2 HY0 HY1;obtain ⟨z,hz⟩:∃ z,decide (f=0)=z:=⟨_,rfl⟩;rw [hz] at cne;obtain ⟨q,hq⟩:∃ q,decide (EB=k::t::r)=q:=⟨_,rfl⟩;rw [hq] at HEQ;obtain ⟨j0,j1,j2,j3⟩:=HZ0.out.cells;have f0:=HZ0.out.free 0
   have f1:=HZ0.out.free 1
   have f2:=HZ0.out.free 2
   have f3:=HZ0.out.free 3
   have HZ:=ξ0 hz
   have HQ:=ξ0 hq
   clear hz hq;have hfin:∀ W,Hid (Below w.heap.size w W)->Hid (Below w.heap.size w ((((W.setCell ⟨w.heap.size,0,none⟩ (.int .i64 0)).setCell ⟨w.heap.size,1,none⟩ (.int .i64 0)).setCell ⟨w.heap.size,2,none⟩ (.slice none 0 0)).setCell ⟨w.heap.size,3,none⟩ (.int .i64 0))):=fun W hW=>(((hW.out.setCell (Ξo _) _).setCell (Ξo _) _).setCell (Ξo _) _).setCell (Ξo _) _
   have HFIN:=ξ0 hfin
   clear hfin;cases z with
   | false=>
     have hF:F=2:=by
      rw [HF.out,if_neg (by decide),if_pos (.inl (of_decide_eq_false HZ.out))]
     subst hF;go_wp2_with fail
     refine bodyPost_ret (ξ1s (g:=w.heap.size) rfl rfl (HZ0.out.put 0 0 (.slice none 0 0) 0) ⟨_,_,_,rfl⟩) rfl ?_
     exact ⟨0,0,none,0,0,0,rfl,Fresh.none w,fun _=>⟨rfl,rfl⟩,HFIN.out _ HB3,fun _=>⟨rfl,rfl,rfl,IArg.nil _ _⟩,fun h=>absurd h (by decide)⟩
   | true=>
     cases q with
     | false=>
       have hF:F=2:=by
        rw [HF.out,if_neg (by decide),if_pos (.inr (by rw [<- HEB.out (of_decide_eq_true HZ.out)];exact of_decide_eq_false HQ.out))]
       subst hF;go_wp2_with fail
       refine HEQ.out.mono ?_
       rintro e w4 ⟨rfl,rfl⟩;go_wp2_with fail
       refine bodyPost_ret (ξ1s (g:=w.heap.size) rfl rfl (HZ0.out.put 0 0 (.slice none 0 0) 0) ⟨_,_,_,rfl⟩) rfl ?_
       exact ⟨0,0,none,0,0,0,rfl,Fresh.none w,fun _=>⟨rfl,rfl⟩,HFIN.out _ HB3,fun _=>⟨rfl,rfl,rfl,IArg.nil _ _⟩,fun h=>absurd h (by decide)⟩
     | true=>
       have hF:F=0:=by
        rw [HF.out,if_neg (by decide),if_neg]
        rw [not_or,Decidable.not_not,Decidable.not_not];exact ⟨of_decide_eq_true HZ.out,by rw [<- HEB.out (of_decide_eq_true HZ.out)];exact of_decide_eq_true HQ.out⟩
       subst hF;obtain ⟨k0,k1,k2,k3⟩:=HZ1.out.cells;go_wp2_with fail
       refine HEQ.out.mono ?_
       rintro e w4 ⟨rfl,rfl⟩;go_wp2_with fail
       refine bodyPost_ret (ξ1s (g:=w.heap.size) rfl rfl (HZ0.out.put k t (.slice a' m c') u) ⟨_,_,_,rfl⟩) rfl ?_
       exact ⟨k,t,a',m,c',u,rfl,HFB.out,HN'.out,(((HB3.out.setCell (Ξo _) _).setCell (Ξo _) _).setCell (Ξo _) _).setCell (Ξo _) _,rfl,rfl,rfl,(((HI3.out.set HFA.out _).set HFA.out _).set HFA.out _).set HFA.out _⟩
theorem ξ5j (a:Option Addr) (n cap:Nat) (B:List Nat) (w:World) (h:Arg w a n B) (hc:n<=cap) :
 Calls prog 149 #[.slice a n cap] w fun e w'=>∃ (k' t':Int) (a':Option Addr) (m c':Nat) (u':Int),e=.returned (.tuple #[.agg #[.int .i64 k',.int .i64 t',.slice a' m c',.int .i64 u'],errv (rfault B)])/\Fresh w a'/\Reads w w' B k' t' a' m c' u':=by
 by_cases hs:rshort B=true
 ·have hf:rfault B=8:=by unfold rfault;rw [if_pos hs]
  refine (ξ2Q a n cap B w h hs).mono ?_
  rintro e w' ⟨rfl,hb⟩;refine ⟨0,0,none,0,0,0,by rw [hf],Fresh.none w,fun _=>⟨rfl,rfl⟩,hb,fun _=>⟨rfl,rfl,rfl,IArg.nil _ _⟩,fun h0=>?_⟩
  rw [hf] at h0;omega
 ·have hs':rshort B=false:=by simpa using hs
  match B,h,hs' with
  | [],_,h1=>simp [rshort] at h1
  | [_],_,h1=>simp [rshort] at h1
  | k::t::r,h,h1=>
    have hf:=ξ2O k t r h1
    obtain ⟨b,o,rfl⟩:=ξ1n h (by have:=h.2.1;simp at this;omega)
    refine (ξaa b o n cap k t r w h hc h1).mono ?_
    rintro e w' ⟨k',t',a',m,c',u',rfl,hfr,hn,hb,h2,h3⟩;refine ⟨k',t',a',m,c',u',by rw [hf],hfr,hn,hb,fun h0=>h2 (by rw [hf] at h0;exact h0),fun h0=>?_⟩
    rw [hf] at h0;obtain ⟨e1,e2,e3,e4⟩:=h3 h0;exact ⟨k,t,r,rfl,h1,h0,e1,e2,e3,e4⟩
end Go.Proofs.YtpiamlgmadnepaaGreat.Back
namespace Go.Proofs.YtpiamlgmadnepaaGreat.ND
open Go.ChangeShapes Go.WideShapes Go.ChangeAt Go.RowKit Go.Maps Go.Lib Mem NO
theorem ξ53 (n b i:Nat) (o:Nat->Tg) (P:NP) (N:Nd) (tr:Tr) (fr:Int) (L:List Int) (a:Option Addr) (m cap:Nat) (w:World) (hn:n≠0) (hN:NAt w o n b P N) (hi:i<8) (ht:N.tr i=some tr) (hR:RM.Inv 64 tr.rT tr.rM) (hA:Arg w a m (Back.ebytes 1 ((i:Int)+1) L 0)) (hc:m<=cap) (hef:Back.efault 1 ((i:Int)+1) L 0=0) (hkid:fr∈tr.kids) (hkf:∀ x∈tr.rM,PM.fault x.2.s x.2.t x.2.l x.2.q x.2.L.length=0) (hl:N.lt.length<=1000) :
 Calls prog 117 #[.pointer (some ⟨b,0,none⟩),.int .i64 fr,.slice a m cap] w fun e w'=>e=.returned .nilIface/\Done w w' o n b { N with lt:=N.lt++L.flatMap (againL tr fr) }:=by
 obtain ⟨k1,t1,r,e1,e2,e3,e4,e5,e6,e7⟩:=Back.again hef;have hk1:k1=1:=by omega
 have ht1:t1=i+1:=by omega
 subst hk1;subst ht1;rw [e3] at hA;have hrf:Back.rfault (1::(i+1)::r)=0:=(Back.ξ2O 1 (i+1) r e4).trans e5
 have CR:=ξ0 (Back.ξ5j a m cap _ w hA hc)
 rw [hrf] at CR;obtain ⟨o0,ho0⟩:∃ o0,grow o w ξ2=o0:=⟨_,rfl⟩;have he0:Ext w o o0:=by rw [<- ho0];exact ξ3 o w ξ2
 obtain ⟨R,hRes⟩:∃ R:Nd,{ N with lt:=N.lt++L.flatMap (againL tr fr) }=R:=⟨_,rfl⟩;rw [hRes];have hlp:=Back.ξT (Back.ξU hef).2
 obtain ⟨nl,hnl⟩:∃ nl,L.length=nl:=⟨_,rfl⟩;have hnl2:nl<=200:=by rw [<- hnl];exact hlp.1
 have HS:Hid (∀ W a' c',Below w.heap.size w W->Back.Fresh w a'->Back.IArg W a' nl L->Calls prog 151 #[.pointer (some ⟨b,0,none⟩),.int .i64 fr,.pointer (some ⟨(P.tp i).p,0,none⟩),.slice a' nl c'] W fun e w'=>e=.returned (.tuple #[])/\Hid (Done w w' o n b R)):=by
  refine ξ0 ?_
  intro W a' c' hBW hfr hIA;have hNW:NAt W o0 n b P N:=hN.chg (S:=fun _=>False) (Chg.of_below hBW _ _) (fun g hg=>hg.elim) he0
  have C:=ξbI n b i o0 P N tr fr a' nl c' L W hn hNW hi ht hR hkf hIA (fun ad e _=>by rw [<- ho0,ξh (hfr ad e)]) hlp.2 (by omega) hl
  rw [hRes] at C;refine C.mono ?_
  rintro e w' ⟨rfl,o',lv,q1,q2,q3⟩;exact ⟨rfl,ξ0 ⟨o',_,q1,he0.trans q2 hBW.size,(Chg.of_below hBW _ _).trans (ξ1h q3) he0⟩⟩
 have HN:=ξ0 hN
 have HTr:=ξ0 ht
 have HK:=ξ0 hkid
 have HZ:=ξ0 (And.intro hrf (And.intro e6 e7))
 obtain ⟨hk3,hk5,hk4⟩:=ξ2B hi;have hi8:=hi
 have HNL:=ξ0 hnl
 clear hN ht hR hA hc hef hkid hkf hl hlp hnl e1 e2 e3 e4 e5 e6 e7 hrf ho0 he0 hRes hi;go_enter func117,ntmps117
 go_wp2_with fail
 refine CR.out.mono ?_
 rintro e w1 ⟨k',t',a',m',c',u',rfl,hfr,_,hb1,_,hz⟩;rw [show Back.errv 0=Value.nilIface from rfl];obtain ⟨rfl,rfl,rfl,hIA⟩:k'=1/\t'=(i:Int)+1/\nl=m'/\Back.IArg w1 a' m' L:=by
  obtain ⟨kk,tt,rr,hcons,_,_,hk',ht',_,hIA⟩:=hz HZ.out.1;cases hcons
  rw [HZ.out.2.1] at hIA;exact ⟨by rw [hk'];rfl,by rw [ht'];omega,HNL.out.symm.trans hIA.2.1,hIA⟩
 obtain ⟨W1,hW1⟩:∃ W1,w1.alloc (.cells #[.int .i64 1,.int .i64 ((i:Int)+1),.slice a' nl c',.int .i64 u'] 242)=W1:=⟨_,rfl⟩;have hB1:Below w1.heap.size w1 W1:=by rw [<- hW1];exact (Ξp _ _).alloc (Ξo _) _
 have hbx:W1.heap[w1.heap.size]?=some (.cells #[.int .i64 1,.int .i64 ((i:Int)+1),.slice a' nl c',.int .i64 u'] 242 (0,0)):=by rw [<- hW1];exact heap_alloc_new w1 _
 have f0:W1.cell? ⟨w1.heap.size,0,none⟩=some (.int .i64 1):=by simp [World.cell?,hbx]
 have f1:W1.cell? ⟨w1.heap.size,1,none⟩=some (.int .i64 ((i:Int)+1)):=by simp [World.cell?,hbx]
 have f2:W1.cell? ⟨w1.heap.size,2,none⟩=some (.slice a' nl c'):=by simp [World.cell?,hbx]
 have hBt:Below w.heap.size w W1:=hb1.trans (hB1.mono hb1.size)
 have hN1:=HN.out.below hBt
 have ct:=hN1.track hi8
 have hT:=(hN1.trs i hi8 tr HTr.out).1
 have c3:W1.cell? ⟨(P.tp i).p,3,none⟩=some (.slice (P.tp i).ka tr.kids.length (P.tp i).kc):=by simp [World.cell?,hT.box]
 have CC:=fun j=>ξ2I (P.tp i).ka tr.kids.length (P.tp i).kc tr.kids fr (W1.drewN j) ⟨fun z hz=>hT.kid.1 z hz,hT.kid.2⟩
 rw [decide_eq_true HK.out] at CC;have HC:=ξ0 CC
 have CS:=ξ0 (fun j=>HS.out (W1.drewN j) a' c' (below_drewN' hBt) hfr ((hIA.below hB1).below (below_drewN' (Ξp _ _))))
 rw [HTr.out] at ct;simp only [tpv] at ct
 obtain ⟨pb,hpb⟩:∃ pb,w1.heap.size=pb:=⟨_,rfl⟩;rw [hpb] at f0 f1 f2;obtain ⟨pp,hpp⟩:∃ pp,(P.tp i).p=pp:=⟨_,rfl⟩;obtain ⟨ka,hka⟩:∃ ka,(P.tp i).ka=ka:=⟨_,rfl⟩;obtain ⟨kc,hkc⟩:∃ kc,(P.tp i).kc=kc:=⟨_,rfl⟩;obtain ⟨kl,hkl⟩:∃ kl,tr.kids.length=kl:=⟨_,rfl⟩;rw [hpp] at ct c3 CS;rw [hka,hkc,hkl] at c3 HC;have HW1:=ξ0 hW1
 clear hb1 hB1 hbx hBt hW1 hN1 hz CR hT CC hpp hka hkc hkl hIA HS hfr;go_upto_region 4 with fail
 first | rw [HW1.out] | skip
 clear hpb;go_quiet (fail)
 go_wp2_with fail
 refine (HC.out _).mono ?_
 rintro e w2 ⟨rfl,rfl⟩;go_wp2_with fail
 refine (CS.out _).mono ?_
 rintro e w3 ⟨rfl,HD⟩;go_wp2_with fail
 go_ret
 exact ⟨rfl,HD.out⟩
theorem ξ8I (n b i:Nat) (o:Nat->Tg) (P:NP) (N:Nd) (tr:Tr) (w:World) (bk:Value) (hbk:∃ k t a m c u,bk=.agg #[.int .i64 k,.int .i64 t,.slice a m c,.int .i64 u]) (hN:NAt w o n b P N) (hi:i<8) (ht:N.tr i=some tr) (hpa:tr.pa=-1) :
 Calls prog 152 #[.pointer (some ⟨b,0,none⟩),.pointer (some ⟨(P.tp i).p,0,none⟩),bk] w fun e w'=>e=.returned (.tuple #[])/\Below w.heap.size w w':=by
 obtain ⟨k,t,a,m,c,u,rfl⟩:=hbk;have hT:=(hN.trs i hi tr ht).1.box
 have c2:∀ O,(w.alloc O).cell? ⟨(P.tp i).p,2,none⟩=some (.int .i64 (-1)):=by
  intro O;have:(w.alloc O).heap[(P.tp i).p]?=_:=(Below.heap_alloc _ _ _ (lt_of_block hT)).trans hT
  rw [<- hpa];simp [World.cell?,this]
 obtain ⟨pp,hpp⟩:∃ pp,(P.tp i).p=pp:=⟨_,rfl⟩;rw [hpp] at c2;rw [hpp];clear hT hN hi ht hpa hpp;go_enter func152,ntmps152
 go_wp2_with fail
 (try simp only [Exit.inBlock,Exit.then])
 refine bodyPost_ret (results_none rfl _ _ _) rfl ?_
 exact ⟨rfl,(Ξp _ _).alloc (Ξo _) _⟩
theorem ξ5Z (n b i:Nat) (o:Nat->Tg) (P:NP) (N:Nd) (tr:Tr) (fr v:Int) (a:Option Addr) (m cap:Nat) (w:World) (hn:n≠0) (hN:NAt w o n b P N) (hi:i<8) (ht:N.tr i=some tr) (hA:Arg w a m (Back.ebytes 2 ((i:Int)+1) [] v)) (hc:m<=cap) (hef:Back.efault 2 ((i:Int)+1) [] v=0) (hkid:fr∈tr.kids) (hl:N.lt.length<=1000) :
 Calls prog 117 #[.pointer (some ⟨b,0,none⟩),.int .i64 fr,.slice a m cap] w fun e w'=>e=.returned .nilIface/\Done w w' o n b { N with lt:=N.lt++(if tr.pa=-1 then [] else [(tr.pa,Back.ebytes 2 ((i:Int)+1) [] v)]) }:=by
 obtain ⟨k1,t1,r,e1,e2,e3,e4,e5,e6,e7⟩:=Back.again hef;have hk1:k1=2:=by omega
 have ht1:t1=i+1:=by omega
 subst hk1;subst ht1;rw [e3] at hA;have hrf:Back.rfault (2::(i+1)::r)=0:=(Back.ξ2O 2 (i+1) r e4).trans e5
 have CR:=ξ0 (Back.ξ5j a m cap _ w hA hc)
 rw [hrf] at CR;obtain ⟨o0,ho0⟩:∃ o0,grow o w ξ2=o0:=⟨_,rfl⟩;have he0:Ext w o o0:=by rw [<- ho0];exact ξ3 o w ξ2
 obtain ⟨R,hRes⟩:∃ R:Nd,{ N with lt:=N.lt++(if tr.pa=-1 then [] else [(tr.pa,Back.ebytes 2 ((i:Int)+1) [] v)]) }=R:=⟨_,rfl⟩;rw [hRes];have HS:Hid (∀ W a' c',Below w.heap.size w W->Back.IArg W a' 0 []->(a'=none->True/\c'=0)->Calls prog 152 #[.pointer (some ⟨b,0,none⟩),.pointer (some ⟨(P.tp i).p,0,none⟩),.agg #[.int .i64 2,.int .i64 ((i:Int)+1),.slice a' 0 c',.int .i64 v]] W fun e w'=>e=.returned (.tuple #[])/\Hid (Done w w' o n b R)):=by
  refine ξ0 ?_
  intro W a' c' hBW hIA hno;have hNW:NAt W o0 n b P N:=hN.chg (S:=fun _=>False) (Chg.of_below hBW _ _) (fun g hg=>hg.elim) he0
  by_cases hpa:tr.pa=-1
  ·rw [if_pos hpa,Ξu] at hRes;refine (ξ8I n b i o0 P N tr W (.agg #[.int .i64 2,.int .i64 ((i:Int)+1),.slice a' 0 c',.int .i64 v]) ⟨_,_,_,_,_,_,rfl⟩ hNW hi ht hpa).mono ?_
   rintro e w' ⟨rfl,hb⟩;refine ⟨rfl,ξ0 ⟨o0,P,?_,he0,(Chg.of_below hBW _ _).trans (Chg.of_below hb o0 _) he0⟩⟩
   rw [<- hRes];exact hNW.below hb
  ·rw [if_neg hpa] at hRes;have C:=ξ2s n b i o0 P N tr 2 ((i:Int)+1) v a' 0 c' [] W hn hNW hi ht hpa hIA (fun e=>⟨rfl,(hno e).2⟩) hef (by
    show (Back.ebytes 2 ((i:Int)+1) [] v).length<=2000
    unfold Back.ebytes Back.tail;rw [Back.ξ7X];simp [Back.ξ19,Back.pbytes]) (by omega)
   rw [hRes] at C;refine C.mono ?_
   rintro e w' ⟨rfl,o',lv,q1,q2,q3⟩;exact ⟨rfl,ξ0 ⟨o',_,q1,he0.trans q2 hBW.size,(Chg.of_below hBW _ _).trans (ξ1h q3) he0⟩⟩
 have HN:=ξ0 hN
 have HTr:=ξ0 ht
 have HK:=ξ0 hkid
 have HZ:=ξ0 (And.intro hrf (And.intro e6 e7))
 obtain ⟨hk3,hk5,hk4⟩:=ξ2B hi;have hi8:=hi
 clear hN ht hA hc hef hkid hl e1 e2 e3 e4 e5 e6 e7 hrf ho0 he0 hRes hi;go_enter func117,ntmps117
 go_wp2_with fail
 refine CR.out.mono ?_
 rintro e w1 ⟨k',t',a',m',c',u',rfl,_,hno',hb1,_,hz⟩;rw [show Back.errv 0=Value.nilIface from rfl];obtain ⟨rfl,rfl,rfl,rfl,hIA⟩:k'=2/\t'=(i:Int)+1/\m'=0/\v=u'/\Back.IArg w1 a' m' []:=by
  obtain ⟨kk,tt,rr,hcons,_,_,hk',ht',hu',hIA⟩:=hz HZ.out.1;cases hcons
  rw [HZ.out.2.1] at hIA;exact ⟨by rw [hk'];rfl,by rw [ht'];omega,hIA.2.1.symm,HZ.out.2.2.symm.trans hu'.symm,hIA⟩
 obtain ⟨W1,hW1⟩:∃ W1,w1.alloc (.cells #[.int .i64 2,.int .i64 ((i:Int)+1),.slice a' 0 c',.int .i64 v] 242)=W1:=⟨_,rfl⟩;have hB1:Below w1.heap.size w1 W1:=by rw [<- hW1];exact (Ξp _ _).alloc (Ξo _) _
 have hbx:W1.heap[w1.heap.size]?=some (.cells #[.int .i64 2,.int .i64 ((i:Int)+1),.slice a' 0 c',.int .i64 v] 242 (0,0)):=by rw [<- hW1];exact heap_alloc_new w1 _
 have f0:W1.cell? ⟨w1.heap.size,0,none⟩=some (.int .i64 2):=by simp [World.cell?,hbx]
 have f1:W1.cell? ⟨w1.heap.size,1,none⟩=some (.int .i64 ((i:Int)+1)):=by simp [World.cell?,hbx]
 have f2:W1.cell? ⟨w1.heap.size,2,none⟩=some (.slice a' 0 c'):=by simp [World.cell?,hbx]
 have f3:W1.cell? ⟨w1.heap.size,3,none⟩=some (.int .i64 v):=by simp [World.cell?,hbx]
 have hBt:Below w.heap.size w W1:=hb1.trans (hB1.mono hb1.size)
 have hN1:=HN.out.below hBt
 have ct:=hN1.track hi8
 have hT:=(hN1.trs i hi8 tr HTr.out).1
 have c3:W1.cell? ⟨(P.tp i).p,3,none⟩=some (.slice (P.tp i).ka tr.kids.length (P.tp i).kc):=by simp [World.cell?,hT.box]
 have CC:=fun j=>ξ2I (P.tp i).ka tr.kids.length (P.tp i).kc tr.kids fr (W1.drewN j) ⟨fun z hz=>hT.kid.1 z hz,hT.kid.2⟩
 rw [decide_eq_true HK.out] at CC;have HC:=ξ0 CC
 have CS:=ξ0 (fun j=>HS.out (W1.drewN j) a' c' (below_drewN' hBt) ((hIA.below hB1).below (below_drewN' (Ξp _ _))) (fun e=>⟨trivial,(hno' e).2⟩))
 rw [HTr.out] at ct;simp only [tpv] at ct
 obtain ⟨pb,hpb⟩:∃ pb,w1.heap.size=pb:=⟨_,rfl⟩;rw [hpb] at f0 f1 f2 f3;obtain ⟨pp,hpp⟩:∃ pp,(P.tp i).p=pp:=⟨_,rfl⟩;obtain ⟨ka,hka⟩:∃ ka,(P.tp i).ka=ka:=⟨_,rfl⟩;obtain ⟨kc,hkc⟩:∃ kc,(P.tp i).kc=kc:=⟨_,rfl⟩;obtain ⟨kl,hkl⟩:∃ kl,tr.kids.length=kl:=⟨_,rfl⟩;rw [hpp] at ct c3 CS;rw [hka,hkc,hkl] at c3 HC;have HW1:=ξ0 hW1
 clear hb1 hB1 hbx hBt hW1 hN1 hz CR hT CC hpp hka hkc hkl hIA HS hno';go_upto_region 4 with fail
 first | rw [HW1.out] | skip
 clear hpb;go_quiet (fail)
 go_wp2_with fail
 refine (HC.out _).mono ?_
 rintro e w2 ⟨rfl,rfl⟩;go_wp2_with fail
 refine (CS.out _).mono ?_
 rintro e w3 ⟨rfl,HD⟩;go_wp2_with fail
 go_ret
 exact ⟨rfl,HD.out⟩
def Res (Φ:Nat->Nd->Prop) (w w':World) (o:Nat->Tg) (n b:Nat) (N:Nd) (f:Nat):Prop:=(f=0->∃ N',Φ f N'/\Done w w' o n b N')/\(f≠0->Φ f N/\Below w.heap.size w w')
theorem ξb8 {w:World} {b o m:Nat} {B:List Nat} (h:Arg w (some ⟨b,o,none⟩) m B) (hm:0<m):∃ x,B.head?=some x/\x<256/\w.cell? ⟨b,o,none⟩=some (.int .u8 (x:Int)):=by
 match B,h with
 | [],h=>have:=h.2.1;simp at this;omega
 | x::B,h=>
   refine ⟨x,rfl,h.1.1 x (by simp),?_⟩
   have:=Pack.ξd h 0 hm
   simpa using this
theorem ξ6S (n b:Nat) (o:Nat->Tg) (P:NP) (N:Nd) (fr now:Int) (a:Option Addr) (m cap:Nat) (B:List Nat) (w:World) (Φ:Nat->Nd->Prop) (hn:n≠0) (hN:NAt w o n b P N) (hnow:GM.tf N.nw now=0) (hA:Arg w a m B)
 (HF:∀ W,Below w.heap.size w W->B.head?=some 70->Calls prog 116 #[.pointer (some ⟨b,0,none⟩),.int .i64 fr,.slice a m cap,.int .i64 now] W fun e w'=>∃ f,e=.returned (errv f)/\Res Φ W w' (grow o w ξ2) n b N f)
 (HB:∀ W,Below w.heap.size w W->B.head?≠some 70->Calls prog 117 #[.pointer (some ⟨b,0,none⟩),.int .i64 fr,.slice a m cap] W fun e w'=>∃ f,e=.returned (errv f)/\Res Φ W w' (grow o w ξ2) n b N f) :
 Calls prog 89 #[.pointer (some ⟨b,0,none⟩),.int .i64 fr,.slice a m cap,.int .i64 now] w fun e w'=>∃ f,e=.returned (errv f)/\(f=0->∃ N',Φ f N'/\Done w w' o n b { N' with nw:=now })/\(f≠0->Φ f N/\Below w.heap.size w w'):=by
 have CA:=ξ0 (Gaps.ξF N.nw now w)
 rw [if_pos hnow,hnow] at CA;obtain ⟨o0,ho0⟩:∃ o0,grow o w ξ2=o0:=⟨_,rfl⟩;rw [ho0] at HF HB;have he0:Ext w o o0:=by rw [<- ho0];exact ξ3 o w ξ2
 have hnew:∀ j,w.heap.size<=j->(o0 j).n=0:=fun j hj=>by rw [<- ho0,ξh hj]
 have c0:=hN.cells.1
 obtain ⟨nw,hnw⟩:∃ nw,N.nw=nw:=⟨_,rfl⟩;rw [hnw] at c0 CA;have HE0:=ξ0 he0
 have HNew:=ξ0 hnew
 have HHF:=ξ0 HF
 have HHB:=ξ0 HB
 have HA:=ξ0 hA
 -- behind hearFrame or hearBack
 have HEnd:Hid (∀ W1 w2 f cb,Below w.heap.size w W1->W1.heap[cb]?=some (.cells #[.int .i64 now] 89 (0,0))->w.heap.size<=cb->Res Φ W1 w2 o0 n b N f->(f=0->w2.cell? ⟨cb,0,none⟩=some (.int .i64 now)/\(∃ v,w2.cell? ⟨b,0,none⟩=some v)/\w2.frozen? ⟨b,0,none⟩=false/\∃ N',Φ f N'/\Done w (w2.setCell ⟨b,0,none⟩ (.int .i64 now)) o n b { N' with nw:=now })/\(f≠0->Φ f N/\Below w.heap.size w w2)):=by
  refine ξ0 ?_
  intro W1 w2 f cb hB1 hbk hcb hRs;refine ⟨fun h0=>?_,fun h0=>⟨(hRs.2 h0).1,hB1.trans ((hRs.2 h0).2.mono hB1.size)⟩⟩
  obtain ⟨N',hΦ,o2,P2,r1,r2,r3⟩:=hRs.1 h0;have hcell:w2.heap[cb]?=some (.cells #[.int .i64 now] 89 (0,0)):=ξ1D hn r3 hbk (hnew _ hcb)
  have hfin:=r1.setN hn now
  have hcf:=ξx (r1.chgB 0 (.int .i64 now))
  refine ⟨by simp [World.cell?,hcell],⟨_,r1.cells.1⟩,r1.free 0,N',hΦ,o2,P2,hfin,fun j hj=>?_,?_⟩
  ·rw [r2 j (by have:=hB1.size;omega)]
   exact he0 j hj
  ·exact (Chg.of_below hB1 o _).trans (r3.trans hcf r2) he0
 clear hN hnow hA ho0 he0 hnew hnw HF HB;go_enter func89,ntmps89
 go_wp2_with fail
 refine CA.out.mono ?_
 rintro e w1 ⟨rfl,hb1⟩;rw [show Gaps.errv 0=Value.nilIface from rfl];obtain ⟨W1,hW1⟩:∃ W1,w1.alloc (.cells #[.int .i64 now] 89)=W1:=⟨_,rfl⟩;have hB1:Below w.heap.size w W1:=by rw [<- hW1];exact hb1.alloc hb1.size _
 have hbk:W1.heap[w1.heap.size]?=some (.cells #[.int .i64 now] 89 (0,0)):=by rw [<- hW1];exact heap_alloc_new w1 _
 have hcbs:w.heap.size<=w1.heap.size:=hb1.size
 obtain ⟨cb,hcb⟩:∃ cb,w1.heap.size=cb:=⟨_,rfl⟩;rw [hcb] at hbk hcbs;have HX:=ξ0 (And.intro hB1 (And.intro hbk hcbs))
 have HW1:=ξ0 hW1
 clear hb1 hW1 hB1 hbk hcbs CA c0;go_upto_region 4 with fail
 first | rw [HW1.out] | skip
 clear hcb;by_cases hm:m=0
 ·subst hm;have hB0:B.head?≠some 70:=by
   have:=HA.out.2.1
   rw [List.length_eq_zero_iff.1 this];simp
  have CH:=ξ0 (HHB.out W1 HX.out.1 hB0)
  clear HHF HHB HA hB0;go_wp2_with fail
  refine CH.out.mono ?_
  rintro e w2 ⟨fl,rfl,hRs⟩;have hE:=HEnd.out W1 w2 fl cb HX.out.1 HX.out.2.1 HX.out.2.2 hRs
  have HE:=ξ0 hE
  have q1:=ξr fl
  have q2:=ξq fl
  clear hRs hE HEnd CH;by_cases hf0:fl=0
  ·have d0:decide (fl=0)=true:=by simpa using hf0
   obtain ⟨ck,⟨v,cc⟩,ff,hdone⟩:=HE.out.1 hf0;have HD:=ξ0 hdone
   have HF0:=ξ0 hf0
   clear hdone hf0 HE;go_wp2_with fail
   go_ret
   exact ⟨fl,by rw [HF0.out];rfl,fun _=>HD.out,fun h=>absurd HF0.out h⟩
  ·have d0:decide (fl=0)=false:=by simpa using hf0
   have HF0:=ξ0 hf0
   clear hf0;go_wp2_with fail
   go_ret
   exact ⟨fl,rfl,fun h=>absurd h HF0.out,fun _=>HE.out.2 HF0.out⟩
 ·have hm0:0<m:=by omega
  have hmz:(0:Int)<(m:Int):=by omega
  have hmd:decide ((0:Int)<(m:Int))=true:=by simpa using hm0
  have hmd2:decide (0<m)=true:=by simpa using hm0
  obtain ⟨ba,oa,rfl⟩:=Pack.ξ1n HA.out hm0;obtain ⟨x,hx,hx2,cx⟩:=ξb8 HA.out hm0;have c70:=ξb HX.out.1 cx
  by_cases h70:x=70
  ·subst h70;have CH:=ξ0 (HHF.out W1 HX.out.1 hx)
   clear HHF HHB HA hx hx2 cx hm;go_wp2_with fail
   refine CH.out.mono ?_
   rintro e w2 ⟨fl,rfl,hRs⟩;have hE:=HEnd.out W1 w2 fl cb HX.out.1 HX.out.2.1 HX.out.2.2 hRs
   have HE:=ξ0 hE
   have q1:=ξr fl
   have q2:=ξq fl
   clear hRs hE HEnd CH;by_cases hf0:fl=0
   ·have d0:decide (fl=0)=true:=by simpa using hf0
    obtain ⟨ck,⟨v,cc⟩,ff,hdone⟩:=HE.out.1 hf0;have HD:=ξ0 hdone
    have HF0:=ξ0 hf0
    clear hdone hf0 HE;go_wp2_with fail
    go_ret
    exact ⟨fl,by rw [HF0.out];rfl,fun _=>HD.out,fun h=>absurd HF0.out h⟩
   ·have d0:decide (fl=0)=false:=by simpa using hf0
    have HF0:=ξ0 hf0
    clear hf0;go_wp2_with fail
    go_ret
    exact ⟨fl,rfl,fun h=>absurd h HF0.out,fun _=>HE.out.2 HF0.out⟩
  ·have CH:=ξ0 (HHB.out W1 HX.out.1 (by rw [hx];simpa using h70))
   have h71:((x:Int)==70)=false:=by
    have:(x:Int)≠70:=by omega
    simpa using this
   clear HHF HHB HA hx hx2 cx hm h70;go_wp2_with fail
   refine CH.out.mono ?_
   rintro e w2 ⟨fl,rfl,hRs⟩;have hE:=HEnd.out W1 w2 fl cb HX.out.1 HX.out.2.1 HX.out.2.2 hRs
   have HE:=ξ0 hE
   have q1:=ξr fl
   have q2:=ξq fl
   clear hRs hE HEnd CH;by_cases hf0:fl=0
   ·have d0:decide (fl=0)=true:=by simpa using hf0
    obtain ⟨ck,⟨v,cc⟩,ff,hdone⟩:=HE.out.1 hf0;have HD:=ξ0 hdone
    have HF0:=ξ0 hf0
    clear hdone hf0 HE;go_wp2_with fail
    go_ret
    exact ⟨fl,by rw [HF0.out];rfl,fun _=>HD.out,fun h=>absurd HF0.out h⟩
   ·have d0:decide (fl=0)=false:=by simpa using hf0
    have HF0:=ξ0 hf0
    clear hf0;go_wp2_with fail
    go_ret
    exact ⟨fl,rfl,fun h=>absurd h HF0.out,fun _=>HE.out.2 HF0.out⟩
end Go.Proofs.YtpiamlgmadnepaaGreat.ND
