/-
 What the proof needs.
-/
import Derived.Test.YtpiamlgmadnepaaGreatMeshMid
open Go.Proofs.Tryz
set_option linter.unusedVariables false
set_option maxHeartbeats 8000000
set_option maxRecDepth 100000
namespace Go.Proofs.YtpiamlgmadnepaaGreat.ND
open ChangeShapes WideShapes ChangeAt RowKit Maps Go.Lib Mem NO
variable {n b j q:Nat}{o:Nat->Tg}{w w' wx:World}{a ra:Option Addr}{P:NP}{N R:Nd}{X G:List Int}{now:Int}
theorem ξgx(nw nx y now:Int)(M:OM.Its):(OM.gM nw nx y now M).map sk=OM.gM nw nx y now (M.map sk):=by
 unfold OM.gM OM.gx OM.kx;rw[ξ7f];split
 ·rw[List.map_append];rfl
 ·rfl
theorem ξ7E(n:Nat)(x:Int)(o:Nat->Tg)(P:SP)(s:Sb)(y now:Int)(w:World)(hn:n≠0)(h:A1q w o P s)(hO:Own o ⟨n,4,x⟩ (ξ6 P))(hI:SbI s) :
 Calls prog 154 #[.pointer (some ⟨P.s,0,none⟩),.int .i64 y,.int .i64 now] w λe w'=>e=.returned (.tuple #[])/\SbS w w' o n x P (s.gone y now):=by
 obtain⟨M',eM,hM⟩:=h.ord;have ae:OM.Inv s.on s.ox M':=ξ7b (by rw[eM];exact hI.oi);have ah:∀k∈[P.ob,P.om],k∈ξ6 P:=by intro k hk;simp at hk;rcases hk with e|e<;>simp[ξ6,e]
 obtain⟨R,hR⟩:=nm (s.gone y now);rw[hR];have HC:Hid (Calls prog 31 #[.pointer (some ⟨P.ob,0,none⟩),.int .i64 y,.int .i64 now] w λe w'=>∃f,e=.returned (A0a f)/\Hid (SbS w w' o n x P R)):=by
  refine ξ0 ((Order.ξ7R P.ob P.om 10 s.on s.ox y now M' w hM ae).mono ?_);rintro e w' ⟨rfl,q1,q2⟩;have ha:=h.ord' hn hO q1 q2;rw[ξgx,eM]at ha;rw[show({ s with on:=OM.gW s.on s.ox y now,ox:=s.ox,oM:=OM.gM s.on s.ox y now s.oM }:Sb)=R from hR]at ha;exact⟨_,rfl,ξ0 ⟨o,P,ha,rfl,hO,Ext.refl _ _,ξ1C q2 h hO ah⟩⟩
 have c2:=h.cells.1;clear hM ae eM h hR;go_enter func154,ntmps154;go_wp2_with fail
 refine HC.out.mono ?_;rintro e w' ⟨f,rfl,H⟩;go_wp2_with fail
 go_end0
 exact⟨rfl,H.out⟩
def A7r(n:Nat):Tg->Prop:=λg=>∃x:Int,g=⟨n,4,x⟩
theorem ξfS{g:Tg}(h:A7r n g):g.n=n:=by obtain⟨x,rfl⟩:=h;rfl
theorem ξfu{x:Int}(h:Chg o (λg=>g=⟨n,4,x⟩) w w'):Chg o (A7r n) w w':=h.mono λt e=>⟨x,e⟩
theorem ξe0(h:Chg o (A7r n) w w'):Chg o (mine n) w w':=h.mono λt e=>ξfS e
theorem ξaS{L:List Int}{bs:List Nat}(h:Back.A0b w a n L)(ho:Only bs w w')(hn:∀ad,a=some ad->ad.block∉bs):Back.A0b w' a n L:=by
 refine⟨λj hj=>?_,h.2⟩;obtain⟨b,o,e,hc⟩:=h.1 j hj;refine⟨b,o,e,?_⟩;have hb:=hn _ e;have hl:=Ξq w _ hc;rw[<-hc];exact World.cell?_of_block (ho.2.2.2.2 b hl hb)
def A5o(G:List Int)(now:Int)(s:Sb):Sb:=G.foldl (λs y=>s.gone y now) s
theorem ξ7k(G:List Int)(now:Int)(s:Sb):(A5o G now s).tk=s.tk/\(A5o G now s).mo=s.mo:=ξ3a now G s
theorem ξcG(tk:Int)(f g:Sb->Sb)(hf:∀s,(f s).tk=s.tk)(l:List (Int×Sb)):A10 tk g (A10 tk f l)=A10 tk (λs=>g (f s)) l:=by
 unfold A10;rw[List.map_map];refine List.map_congr_left λx hx=>?_;show(if (if x.2.tk=tk then(x.1,f x.2)else x).2.tk=tk then _ else _)=_;by_cases c:x.2.tk=tk
 ·have:(f x.2).tk=tk:=(hf x.2).trans c;simp[c,this]
 ·simp[c]
def A1c(R:Nd)(tk now:Int)(G:List Int)(q:Nat):Nd:={ R with sb:=A10 tk (A5o (G.take q) now) R.sb }
def GSt(w wx:World)(o:Nat->Tg)(n b:Nat)(P:NP)(R:Nd)(tk now:Int)(G:List Int)(a:Option Addr)(q:Nat):Prop:=∃oj Pj,NAt wx oj n b Pj (A1c R tk now G q)/\(∀x,(Pj.sp x).s=(P.sp x).s)/\(∀i,(Pj.tp i).p=(P.tp i).p)/\Ext w o oj/\Chg o (A7r n) w wx/\Back.A0b wx a G.length G/\∀ad,a=some ad->ad.block<wx.heap.size/\¬A7r n (oj ad.block)
def HSt(w wx:World)(o:Nat->Tg)(n b:Nat)(P:NP)(N:Nd)(X:List Int)(f:Sb->Sb)(ra:Option Addr)(j:Nat)(G:List Int)(a:Option Addr):Prop:=∃oj Pj,NAt wx oj n b Pj { N with sb:=stg f (X.take j) N.sb }/\(∀x,(Pj.sp x).s=(P.sp x).s)/\(∀i,(Pj.tp i).p=(P.tp i).p)/\Ext w o oj/\Chg o (A7r n) w wx/\(A04 wx ra (λx=>(P.sp x).s) X/\∀ad,ra=some ad->(oj ad.block).n=0)/\Back.A0b wx a G.length G/\∀ad,a=some ad->ad.block<wx.heap.size/\¬A7r n (oj ad.block)
theorem HSt.row{f:Sb->Sb}(h:HSt w wx o n b P N X f ra j G a)(hn:0<X.length):∃rb,ra=some ⟨rb,0,none⟩/\∀j,j<X.length->wx.cell? ⟨rb,j,none⟩=some (.pointer (some ⟨(P.sp (X.getD j 0)).s,0,none⟩)):=by
 obtain⟨_,_,_,_,_,_,_,⟨h,_⟩,_⟩:=h;exact h.at hn
theorem HSt.step{y:Int}(h:HSt w wx o n b P N X (λs=>s.gone y now) ra j G a)(hn:n≠0)(hris:(ids N.sb).Pairwise λa b=>a<b)(hXs:X.Sublist (ids N.sb))(hj:j<X.length)
 (hI:∀x∈N.sb,SbI x.2) :
 Calls prog 154 #[.pointer (some ⟨(P.sp (X.getD j 0)).s,0,none⟩),.int .i64 y,.int .i64 now] wx λe w'=>e=.returned (.tuple #[])/\Hid (HSt w w' o n b P N X (λs=>s.gone y now) ra (j+1) G a):=by
 obtain⟨oj,Pj,g1,g2,gt,g3,g4,⟨g5,g6⟩,g7,g8⟩:=h;have e2:=ξ1Z hj;have ae:=ξ5H (hris.sublist hXs) hj;have ah:X.getD j 0∈X:=by rw[Ξa,Ξd hj];exact List.getElem_mem hj
 obtain⟨x,hx⟩:=nm (X.getD j 0);rw[hx]at e2 ae ah;rw[hx];obtain⟨z,hy,aj⟩:=Ξi.1 (hXs.subset ah);obtain⟨x',s⟩:=z;obtain rfl:x'=x:=aj;obtain⟨A,B,q1,q2⟩:=ξ5r (f:=λs=>s.gone y now) hris hy ae;have ai:({ N with sb:=stg (λs=>s.gone y now) (X.take j) N.sb }:Nd).sb=A++(x',s)::B:=q1;obtain⟨k1,k2⟩:=g1.sbs (x',s) (by rw[ai];simp);rw[<-g2 x'];refine(ξ7E n x' oj (Pj.sp x') s y now wx hn k1 k2 (hI (x',s) hy)).mono ?_;rintro e w' ⟨rfl,o',Q,r1,r2,r3,r4,r5⟩;obtain⟨bs,c1,c2,c3⟩:=r5;have r5:Chg oj (λg=>g=⟨n,4,x'⟩) wx w':=⟨bs,c1,c2,c3⟩;refine⟨rfl,ξ0 ⟨o',{ Pj with sp:=A32 Pj.sp x' Q },?_,?_,gt,?_,g4.trans (ξfu r5) g3,⟨?_,?_⟩,?_,?_⟩⟩
 ·have:=g1.sub hn ai (by rw[show({ N with sb:=stg (λs=>s.gone y now) (X.take j) N.sb }:Nd).sb=stg (λs=>s.gone y now) (X.take j) N.sb from rfl,ξ8m];exact hris) r5 r4 r2 r1 r3;rw[e2,q2];exact this
 ·intro z;show(A32 Pj.sp x' Q z).s=_;unfold A32;split
  ·rename_i e;rw[e,r2];exact g2 x'
  ·exact g2 z
 ·exact g3.trans r4 g4.size
 ·exact g5.only c1 (λad e hk=>by have h1:=g6 ad e;have h2:=c2 _ hk;rw[h2]at h1;exact hn h1)
 ·intro ad e;obtain⟨rb,e',hc⟩:=g5 0 (by omega);rw[r4 _ (by rw[e]at e';cases e';exact Ξq wx ⟨rb,0,none⟩ hc)];exact g6 ad e
 ·exact ξaS g7 c1 (λad e hk=>(g8 ad e).2 ⟨x',c2 _ hk⟩)
 ·intro ad e;obtain⟨l1,l2⟩:=g8 ad e;exact⟨Ξn l1 c1.2.2.2.1,by rw[r4 _ l1];exact l2⟩
theorem ξ9Z(R:Nd)(tk now:Int)(G:List Int):A1c R tk now G 0=R:=by
 unfold A1c;have:A10 tk (A5o (G.take 0) now) R.sb=R.sb:=ξ8n tk R.sb;rw[this]
theorem ξ1H(h:A2v R.sb R.ls)(tk now:Int)(G:List Int)(q:Nat):A2v (A1c R tk now G q).sb (A1c R tk now G q).ls:=h.A10 λs=>(ξ7k _ _ s).2
theorem ξbM{nw:Int}(h1:now<=1000000)(h0:nw<=now)(h:∀x∈R.sb,A1k nw x.2)(tk:Int)(G:List Int)(q:Nat):∀x∈(A1c R tk now G q).sb,SbI x.2:=by
 intro x hx;obtain⟨y,hy,e1,e2⟩:=ξ49 hx;rcases e2 with⟨_,e2⟩|⟨_,e2⟩
 ·rw[e2];exact(A1k.A6c h1 _ _ (h y hy) h0).sbi
 ·rw[e2];exact(h y hy).sbi
theorem ξaC(hq:q<G.length):G.take (q+1)=G.take q++[G.getD q 0]:=ξ1Z hq
theorem ξa0{tk:Int}(hq:q<G.length):({ A1c R tk now G q with sb:=A10 tk (λs=>s.gone (G.getD q 0) now) (A1c R tk now G q).sb }:Nd)=A1c R tk now G (q+1):=by
 unfold A1c;simp only[];rw[ξcG tk _ _ (λs=>(ξ7k _ _ s).1)]
 have:(λs=>(A5o (G.take q) now s).gone (G.getD q 0) now)=A5o (G.take (q+1)) now:=by
  funext s
  unfold A5o;rw[ξaC hq,List.foldl_append];rfl
 rw[this]
def A6v(N:Nd)(tk:Int):List Int:=fil (A2u N.sb) tk (ids N.sb)
section
variable {w wx:World}{o:Nat->Tg}{n b:Nat}{P:NP}{R:Nd}{tk now:Int}{G:List Int}{a:Option Addr}{q:Nat}
theorem GSt.subs(hls:A2v R.sb R.ls)(h:GSt w wx o n b P R tk now G a q) :
 Calls prog 125 #[.pointer (some ⟨b,0,none⟩),.int .i64 tk] wx λe w'=>∃ra cap,e=.returned (.slice ra (A6v (A1c R tk now G q) tk).length cap)/\Hid (HSt w w' o n b P (A1c R tk now G q) (A6v (A1c R tk now G q) tk) (λs=>s.gone (G.getD q 0) now) ra 0 G a):=by
 obtain⟨oj,Pj,g1,g2,gt,g3,g4,g7,g8⟩:=h;have hI:=ξ1H hls tk now G q;refine(ξ2U n b oj Pj (A1c R tk now G q) (A2u (A1c R tk now G q).sb) tk wx g1 hI (ξ1I hI.ris)).mono ?_;rintro e w' ⟨ra,cap,rfl,ae,ah,hb⟩;refine⟨ra,cap,rfl,ξ0 ⟨grow oj wx ξ2,Pj,?_,g2,gt,?_,?_,⟨?_,λad e=>?_⟩,g7.below hb,λad e=>?_⟩⟩
 ·have ai:=g1.chg (S:=λ_=>False) (Chg.of_below hb _ _) (λg hg=>hg.elim) (ξ3 oj wx ξ2);rw[List.take_zero,ξ54];exact ai
 ·exact g3.trans (ξ3 _ _ _) g4.size
 ·exact g4.trans' (Chg.of_below hb o _)
 ·intro j hj;obtain⟨rb,e,hc⟩:=ae j hj;exact⟨rb,e,by rw[hc];show some (Value.pointer (some ⟨(Pj.sp _).s,0,none⟩))=_;rw[g2];rfl⟩
 ·rw[ξg (ah ad e)]
 ·obtain⟨l1,l2⟩:=g8 ad e;exact⟨Ξn l1 hb.size,by rw[ξt l1];exact l2⟩
theorem HSt.done(hls:A2v R.sb R.ls)(hq:q<G.length)(h:HSt w wx o n b P (A1c R tk now G q) (A6v (A1c R tk now G q) tk) (λs=>s.gone (G.getD q 0) now) ra (A6v (A1c R tk now G q) tk).length G a):GSt w wx o n b P R tk now G a (q+1):=by
 obtain⟨oj,Pj,g1,g2,gt,g3,g4,_,g7,g8⟩:=h;have hI:=ξ1H hls tk now G q;refine⟨oj,Pj,?_,g2,gt,g3,g4,g7,g8⟩;rw[List.take_length]at g1;unfold A6v at g1;rw[ξ8l hI.ris,ξa0 hq]at g1;exact g1
end
theorem ξ7h{ag tr:Int}{M:GM.Its}(h:GM.Ris M):(GM.A0q ag tr now M).mergeSort (λx y=>decide (x<=y))=GM.A0q ag tr now M:=by
 refine List.mergeSort_of_pairwise ?_;unfold GM.A0q GM.nums;rw[List.pairwise_map];refine(h.sublist List.filter_sublist).imp ?_;intro x y ae;simp only[decide_eq_true_eq];omega
theorem ξ88(n b i:Nat)(o:Nat->Tg)(P:NP)(N:Nd)(tr:Tr)(now:Int)(w:World)(hn:n≠0)(hN:NAt w o n b P N)(hi:i<8)(ht:N.tr i=some tr)(hG:GM.Inv 3 3 tr.gn tr.gT tr.gM)(htf:GM.tf tr.gn now=0)(hpa:tr.pa≠-1)(hgG:tr.gG=[])(hef:GM.A07 3 3 now tr.gM≠[]->Back.A0o 1 tr.tk (BM.norm (sq (GM.A07 3 3 now tr.gM))) 0=0/\(Back.A0c 1 tr.tk (BM.norm (sq (GM.A07 3 3 now tr.gM))) 0).length<=2000)(hl:N.lt.length<=1000000)(hsb:∀x∈N.sb,A1k N.nw x.2)(hnw:N.nw<=now)(hnow:now<=1000000)(hls:A2v N.sb N.ls) :
 Calls prog 118 #[.pointer (some ⟨b,0,none⟩),.pointer (some ⟨(P.tp i).p,0,none⟩),.int .i64 now] w λe w'=>e=.returned (.tuple #[])/\A2p w w' o n b P (A1c (N.asked i tr now) tr.tk now (GM.A0q 3 3 now tr.gM) (GM.A0q 3 3 now tr.gM).length):=by
 have hT:=(hN.trs i hi tr ht).1;have aC:=hT.gap;rw[hgG]at aC;have aZ:=hG.len;have CD:=Gaps.ξ2N (P.tp i).g (P.tp i).gm 3 3 tr.gn tr.gT now tr.gM (P.tp i).gv [] w aC hG htf (by simp;omega);rw[List.nil_append]at CD;have aj:=ξ7h (ag:=3) (tr:=3) (now:=now) hG.ris;have ay:(GM.A0q 3 3 now tr.gM).length<=tr.gM.length:=by unfold GM.A0q GM.nums;rw[Ξm];exact List.length_filter_le _ _
 obtain⟨G,bh⟩:=nm (GM.A0q 3 3 now tr.gM);rw[bh]at CD aj ay;rw[bh];have bS:=GM.ξ5h 3 3 now tr.gM;have bi:∀y∈GM.A07 3 3 now tr.gM,0<=y/\y<=1099511627776:=by
  intro y hy;obtain⟨x,hx,rfl⟩:=Ξi.1 hy;have:=hG.mem x (Ξj.1 hx).1;have:=hG.t2;omega
 have c4:w.cell? ⟨(P.tp i).p,4,none⟩=some (.pointer (some ⟨(P.tp i).g,0,none⟩)):=by simp[World.cell?,hT.box]
 obtain⟨D,hD⟩:=nm (GM.A07 3 3 now tr.gM);obtain⟨R,ae⟩:=nm (N.asked i tr now);rw[ae];unfold Nd.asked at ae;rw[hD]at CD bS bi hef ae
 -- the A2l behind Due
 obtain⟨T2,aT⟩:∃T2:Tr,{ tr with gn:=now,gM:=GM.dM 3 3 now tr.gM,gG:=G }=T2:=⟨_,rfl⟩;obtain⟨Rm,aO⟩:∃Rm:Nd,{ N with tr:=A0f N.tr i T2,lt:=N.lt++(if D=[]then[]else[(tr.pa,Back.A0c 1 tr.tk (BM.norm (sq D)) 0)]) }=Rm:=⟨_,rfl⟩;have e2:T2.tk=tr.tk/\T2.pa=tr.pa/\T2.gT=tr.gT:=by rw[<-aT];exact⟨rfl,rfl,rfl⟩
 have g2:T2.gn=now/\T2.gM=GM.dM 3 3 now tr.gM/\T2.gG=G:=by rw[<-aT];exact⟨rfl,rfl,rfl⟩
 -- behind Due
 have ah:Hid (Calls prog 29 #[.pointer (some ⟨(P.tp i).g,0,none⟩),.int .i64 now] w λe w1=>∃a c,e=.returned (.tuple #[.slice a D.length c,.nilIface])/\Back.A0b w1 a D.length D/\Hid (A4c w w1 o n b i (P.tp i).p P { N with tr:=A0f N.tr i T2 })):=by
  refine ξ0 (CD.mono ?_);rintro e w1 ⟨dv,rfl,cJ,q1,q2,q3,q4⟩;obtain⟨a,c,rfl,hA,_⟩:=Gaps.ξl q2 (by omega);obtain⟨aP,bj⟩:=hN.gaps hn hi ht q1 q4 (λj hj=>(q3 j hj).1);rw[show({ tr with gn:=now,gT:=tr.gT,gM:=GM.dM 3 3 now tr.gM,gG:=G }:Tr)=T2 from aT]at aP;exact⟨a,c,rfl,hA,ξ0 ⟨_,_,aP,by simp[A26],ξ3 o w _,bj,ξ4n _ _ _,λ_=>rfl⟩⟩
 -- seqsOf and sayUp
 have aD:Hid (∀W a c,Back.A0b W a D.length D->A4c w W o n b i (P.tp i).p P { N with tr:=A0f N.tr i T2 }->D≠[]->Calls prog 153 #[.slice a D.length c] W λe w2=>∃a' m' c',e=.returned (.slice a' m' c')/\w2.cell? ⟨(P.tp i).p,0,none⟩=some (.int .i64 tr.tk)/\Hid (Back.A0b w2 a' m' (BM.norm (sq D))/\(a'=none->m'=0/\c'=0)/\A4c w w2 o n b i (P.tp i).p P { N with tr:=A0f N.tr i T2 })):=by
  refine ξ0 ?_;intro W a c hA hM aE;refine(ξ4u a D.length c D W hA bi (by omega)).mono ?_;rintro e w2 ⟨v',rfl,hv,hb⟩;obtain⟨a',c',rfl,bq,aF,_⟩:=Back.ξl hv (by
   have:=BM.ξ1y (sq D);have e:(sq D).length=D.length:=by simp[sq]
   omega)
  obtain⟨o',P',m1,m2,m3,m4,mq⟩:=hM;have bT:=m1.below hb;have am:=(bT.trs i hi T2 (ξF _ _ _)).1.box;rw[m2]at am;exact⟨a',_,c',rfl,by rw[<-e2.1];simp[World.cell?,am],ξ0 ⟨bq,aF,o',P',bT,m2,m3,m4.trans' (Chg.of_below hb _ _),mq⟩⟩
 have ai:Hid (∀W a' m' c',Hid (Back.A0b W a' m' (BM.norm (sq D))/\(a'=none->m'=0/\c'=0)/\A4c w W o n b i (P.tp i).p P { N with tr:=A0f N.tr i T2 })->D≠[]->Calls prog 152 #[.pointer (some ⟨b,0,none⟩),.pointer (some ⟨(P.tp i).p,0,none⟩),.agg #[.int .i64 1,.int .i64 tr.tk,.slice a' m' c',.int .i64 0]] W λe w3=>e=.returned (.tuple #[])/\w3.cell? ⟨(P.tp i).p,0,none⟩=some (.int .i64 tr.tk)/\Hid (A4c w w3 o n b i (P.tp i).p P Rm)):=by
  refine ξ0 ?_;intro W a' m' c' hS aE;obtain⟨bq,aF,o',P',m1,m2,m3,m4,mq⟩:=hS.out;obtain⟨f1,f2⟩:=hef aE;have C:=ξ1S n b i o' P' { N with tr:=A0f N.tr i T2 } T2 1 tr.tk 0 a' m' c' _ W hn m1 hi (ξF _ _ _) (by rw[e2.2.1];exact hpa) bq aF f1 f2 hl;rw[m2]at C;refine C.mono ?_;rintro e w3 ⟨rfl,o3,lv,q1,q2,q3⟩;have hR:({ ({ N with tr:=A0f N.tr i T2 }:Nd)with lt:=N.lt++[(T2.pa,Back.A0c 1 tr.tk (BM.norm (sq D)) 0)] }:Nd)=Rm:=by
   rw[<-aO,if_neg aE,e2.2.1]
  have bU:NAt w3 o3 n b { P' with lv:=lv } Rm:=by rw[<-hR];exact q1
  have bV:=(bU.trs i hi T2 (by rw[<-aO];exact ξF _ _ _)).1.box;have cA:(({ P' with lv:=lv }:NP).tp i).p=(P.tp i).p:=m2;rw[cA]at bV;exact⟨rfl,by rw[<-e2.1];simp[World.cell?,bV],ξ0 ⟨o3,_,bU,m2,m3.trans q2 m4.size,m4.trans (ξ16 q3) m3,mq⟩⟩
 -- GaveUp
 have bu:Rm.tr i=some T2:=by rw[<-aO];exact ξF _ _ _
 have bz:({ Rm with tr:=A0f Rm.tr i { T2 with gn:=T2.gn,gT:=T2.gT,gM:=T2.gM,gG:=[] } }:Nd)=R:=by
  rw[<-aO,<-ae,<-aT];have:∀A B:Tr,A0f (A0f N.tr i A) i B=A0f N.tr i B:=by
   intro A B
   funext k
   unfold A0f;split<;>rfl
  simp only[this]
 have bW:∃t,R.tr i=some t/\t.tk=tr.tk:=⟨{ T2 with gG:=[] },by rw[<-bz];exact ξF _ _ _,e2.1⟩;have aG:Hid (∀W,A4c w W o n b i (P.tp i).p P Rm->∃g,W.cell? ⟨(P.tp i).p,4,none⟩=some (.pointer (some ⟨g,0,none⟩))/\Calls prog 30 #[.pointer (some ⟨g,0,none⟩)] W λe w4=>∃a c o4 P4,e=.returned (.slice a G.length c)/\Hid (GSt w4 w4 o4 n b P4 R tr.tk now G a 0/\(∀x,(P4.sp x).s=(P.sp x).s)/\(∀j,(P4.tp j).p=(P.tp j).p)/\Ext w o o4/\Chg o (mine n) w w4)):=by
  refine ξ0 ?_;rintro W ⟨o',P',m1,m2,m3,m4,mq⟩;obtain⟨b9,cB⟩:=m1.trs i hi T2 bu;have am:=b9.box;rw[m2]at am;have az:=b9.gap;rw[g2.2.2]at az;refine⟨(P'.tp i).g,by simp[World.cell?,am],?_⟩;refine(Gaps.ξ3A (P'.tp i).g (P'.tp i).gm 3 3 _ _ _ (P'.tp i).gv G W az (by omega)).mono ?_;rintro e w4 ⟨rfl,q1,q2,q3⟩;rw[aj]at q2;obtain⟨a,c,hv,cC,_,_,cD⟩:=Back.ξl q2 (by omega);obtain⟨aP,bj⟩:=m1.gaps hn hi bu q1 q3 (λj hj=>by simp[Value.ownBlock]at hj);rw[bz]at aP;obtain⟨P4,bA⟩:∃P4:NP,({ P' with tp:=A26 P'.tp i { P'.tp i with gv:=.slice none 0 0 } }:NP)=P4:=⟨_,rfl⟩;rw[bA]at aP;have p1:∀x,(P4.sp x).s=(P'.sp x).s:=λx=>by rw[<-bA]
  have p2:∀j,(P4.tp j).p=(P'.tp j).p:=λj=>by rw[<-bA];exact ξ4n _ _ _ j
  refine⟨a,c,grow o' W ⟨n,3,i⟩,P4,by rw[hv],ξ0 ⟨⟨grow o' W ⟨n,3,i⟩,P4,by rw[ξ9Z];exact aP,λ_=>rfl,λ_=>rfl,Ext.refl _ _,Chg.of_below (Ξp _ _) _ _,cC,λad e=>?_⟩,λx=>(p1 x).trans (mq.2 x),λj=>(p2 j).trans (mq.1 j),m3.trans (ξ3 o' W _) m4.size,m4.trans bj m3⟩⟩;obtain⟨g,rfl,_,hl⟩:=cD ad e;have hm:g∈A0x (P'.tp i) T2:=by
   have:(P'.tp i).gv.ownBlock=some g:=by rw[hv,e];rfl
   simp[A0x,Gaps.A01,this]
  have hg:g<W.heap.size:=b9.lt g hm;refine⟨hl,?_⟩;rw[ξt hg,cB g hm];rintro⟨x,hx⟩;simp at hx
 have bX:Hid (D=[]->({ N with tr:=A0f N.tr i T2 }:Nd)=Rm):=by
  refine ξ0 ?_;intro h0;rw[<-aO,if_pos h0,Ξu]
 have aQ:Hid (∀W,A4c w W o n b i (P.tp i).p P { N with tr:=A0f N.tr i T2 }->W.cell? ⟨(P.tp i).p,0,none⟩=some (.int .i64 tr.tk)):=by
  refine ξ0 ?_;rintro W ⟨o',P',m1,m2,m3,m4,mq⟩;have am:=(m1.trs i hi T2 (ξF _ _ _)).1.box;rw[m2]at am;rw[<-e2.1];simp[World.cell?,am]
 have bB:Hid (∀w4 wx o4 a q,∀{P4:NP},GSt w4 wx o4 n b P4 R tr.tk now G a q->Back.A0b wx a G.length G):=by
  refine ξ0 ?_;rintro w4 wx o4 a q P4 ⟨oj,Pj,g1,g2,gt,g3,g4,g7,g8⟩;exact g7
 have au:Hid (∀w4 wx o4 P4 a q,GSt w4 wx o4 n b P4 R tr.tk now G a q->(∀j,(P4.tp j).p=(P.tp j).p)->wx.cell? ⟨(P.tp i).p,0,none⟩=some (.int .i64 tr.tk)):=by
  refine ξ0 ?_;rintro w4 wx o4 P4 a q ⟨oj,Pj,g1,g2,gt,g3,g4,g7,g8⟩ hp;obtain⟨t,ht,hk⟩:=bW;have am:=(g1.trs i hi t ht).1.box;rw[gt,hp]at am;rw[<-hk];simp[World.cell?,am]
 have aH:Hid (∀w4 wx o4 P4 a q,GSt w4 wx o4 n b P4 R tr.tk now G a q->((∀x,(P4.sp x).s=(P.sp x).s)/\(∀j,(P4.tp j).p=(P.tp j).p)/\Ext w o o4/\Chg o (mine n) w w4)->A2p w wx o n b P (A1c R tr.tk now G q)):=by
  refine ξ0 ?_;rintro w4 wx o4 P4 a q ⟨oj,Pj,g1,g2,gt,g3,g4,g7,g8⟩ ⟨p1,p2,p3,p4⟩;exact⟨oj,Pj,g1,λx=>(g2 x).trans (p1 x),λj=>(gt j).trans (p2 j),p3.trans g3 p4.size,p4.trans (ξe0 g4) p3⟩
 have aA:Hid (A2v R.sb R.ls):=by rw[<-ae];exact hls
 have aI:Hid (∀q,∀x∈(A1c R tr.tk now G q).sb,SbI x.2):=by
  refine ξ0 λq=>ξbM hnow hnw (R:=R) ?_ _ _ _;rw[<-ae];exact hsb
 have bY:=ξ0 hn;obtain⟨N1,bZ⟩:∃N1:Nd,{ N with tr:=A0f N.tr i T2 }=N1:=⟨_,rfl⟩;rw[bZ]at ah aD ai bX aQ;obtain⟨pp,bC⟩:=nm ((P.tp i).p);obtain⟨gb,cf⟩:=nm ((P.tp i).g);rw[bC]at ah aD ai aG aQ au c4;rw[cf]at ah c4;rw[bC];obtain⟨tk,cj⟩:=nm tr.tk;rw[cj]at aD ai aQ aG bB au aH aI ⊢;obtain⟨dl,bD⟩:=nm D.length;have cu:=ξ0 bD;rw[bD]at ah aD bS;obtain⟨gl,bE⟩:=nm G.length;have aS:=ξ0 bE;rw[bE]at aG ⊢;have cE:gl<=1000000:=by omega
 clear hN ht hG htf hpa hgG hef hl hT aC aZ CD bi hD ae aT e2 g2 bZ bC cf cj bD bE aj ay bh bu bz bW aO hsb hls hn;go_enter func118,ntmps118;go_wp2_with fail
 refine ah.out.mono ?_;rintro e w1 ⟨a,c,rfl,bF,aU⟩;by_cases h0:dl=0
 ·have cw:D=[]:=Ξk (by rw[cu.out];exact h0);have cy:Hid (A4c w w1 o n b i pp P Rm):=by
   have:=aU.out;rw[bX.out cw]at this;exact ξ0 this
  subst h0;obtain⟨g,bG,CG⟩:=aG.out w1 cy.out;have aV:=ξ0 CG;clear bF aU cw aD ai aQ ah c4 CG cy aG;go_wp2_with fail;refine aV.out.mono ?_;rintro e w4 ⟨a4,c5,o4,P4,rfl,aJ⟩;have aW:=ξ0 aJ.out.1;have aX:=ξ0 aJ.out.2;clear aJ aV bG;go_wp2_with fail;go_loopg [42] gl (λg x wr=>∃(q:Nat),q+g=gl/\x=.int .i64 (q:Int)/\Hid (GSt w4 wr o4 n b P4 R tk now G a4 q))
  case atStart=>exact⟨0,by omega,rfl,aW⟩
  case round=>
   obtain⟨q,cF,rfl,HS⟩:=hrel;clear aW;by_cases hq:q<gl
   ·have bH:(q:Int)<(gl:Int):=by omega
    have bI:q<G.length:=by rw[aS.out];exact hq
    obtain⟨rb,ro,rfl,aq⟩:=(bB.out _ _ _ _ _ HS.out).at (by rw[aS.out];omega);have cq:=aq q (by rw[aS.out];exact hq);have c0:=au.out _ _ _ _ _ _ HS.out aX.out.2.1;have CU:=ξ0 (HS.out.subs (aA.out));have aL:Hid ((A6v (A1c R tk now G q) tk).Sublist (ids (A1c R tk now G q).sb)):=List.filter_sublist;obtain⟨y,hy⟩:=nm (G.getD q 0);have HY:=ξ0 hy;obtain⟨X,hX⟩:=nm (A6v (A1c R tk now G q) tk);have HX:=ξ0 hX;obtain⟨XL,aw⟩:=nm X.length;have ax:=ξ0 aw;rw[hy]at cq CU;rw[hX,aw]at CU;rw[hX]at aL;have bJ:XL<=20:=by rw[<-aw];exact Nat.le_trans aL.out.length_le (by rw[ξL];exact(ξ1H aA.out tk now G q).len)
    clear aq HS hy hX aw;go_wp2_with fail;refine CU.out.mono ?_;rintro e w5 ⟨sa,sc,rfl,HD⟩;clear CU c0 cq;go_wp2_with fail;go_loopg [53] XL (λgh z wx=>∃j:Nat,j+gh=XL/\z=.int .i64 (j:Int)/\Hid (HSt w4 wx o4 n b P4 (A1c R tk now G q) X (λs=>s.gone y now) sa j G (some ⟨rb,ro,none⟩)))
    case atStart=>exact⟨0,by omega,rfl,HD⟩
    case round=>
     obtain⟨j,cG,rfl,HS⟩:=hrel;clear HD;by_cases hj:j<XL
     ·have bK:(j:Int)<(XL:Int):=by omega
      obtain⟨sb,rfl,aq⟩:=HS.out.row (by rw[ax.out];omega);have c0:=aq j (by rw[ax.out];exact hj);have aM:=ξ0 (HS.out.step bY.out (ξ1H aA.out tk now G q).ris aL.out (by rw[ax.out];exact hj) (aI.out q));obtain⟨sp,aY⟩:=nm ((P4.sp (X.getD j 0)).s);rw[aY]at aM c0;clear aq aY HS;go_wp2_with fail;refine aM.out.mono ?_;rintro e w6 ⟨rfl,bM⟩;clear aM c0;go_wp2_with fail;go_roundg (XL-(j+1))
      case measure=>omega
      case rel=>exact⟨j+1,by omega,by go_num,bM⟩
     ·have bK:¬(j:Int)<(XL:Int):=by omega
      have bN:j=XL:=by omega
      have bO:Hid (GSt w4 wr o4 n b P4 R tk now G (some ⟨rb,ro,none⟩) (q+1)):=by
       have h:=HS.out;rw[bN,<-ax.out,<-HX.out,<-HY.out]at h;exact h.done aA.out bI
      clear HS;go_wp2_with fail;go_roundg (gl-(q+1))
      case measure=>omega
      case rel=>exact⟨q+1,by omega,by go_num,bO⟩
   ·have bH:¬(q:Int)<(gl:Int):=by omega
    have bP:q=gl:=by omega
    have bQ:Hid (A2p w wr o n b P (A1c R tk now G gl)):=by
     rw[<-bP];exact aH.out _ _ _ _ _ _ HS.out aX.out
    clear HS;go_wp2_with fail
    go_end0
    exact⟨rfl,bQ.out⟩
 ·have aE:D≠[]:=by
   intro e;have:=cu.out;rw[e]at this;simp at this;omega
  have bR:(0:Int)<(dl:Int):=by omega
  have cL:decide ((0:Int)<(dl:Int))=true:=by simpa using bR
  have cz:=aD.out w1.drew a c (bF.below ((Ξp _ _).drew)) (by
   obtain⟨o',P',m1,m2,m3,m4,mq⟩:=aU.out;exact⟨o',P',m1.below ((Ξp _ _).drew),m2,m3,m4.trans' (Chg.of_below ((Ξp _ _).drew) _ _),mq⟩) aE
  have cH:=ξ0 cz;have cM:w1.drew.cell? ⟨pp,0,none⟩=some (.int .i64 tk):=aQ.out w1 aU.out;have cI:=ξ0 (λW a' m' c' h=>ai.out W a' m' c' h aE);clear bF aU cz aD ai aQ ah c4 aE h0;go_upto_region 3 with fail
  go_region_held3 (λw'=>w'.cell? ⟨pp,0,none⟩=some (.int .i64 tk)) (with_reducible assumption) (first|(go_at_call 153;refine cH.out.mono ?_;rintro e w2 ⟨a2,m2,c2,rfl,cN,cO⟩)|(go_at_call 152;refine(cI.out _ _ _ _ (by with_reducible assumption)).mono ?_;rintro e w3 ⟨rfl,cP,c9⟩))
  obtain⟨g,bG,CG⟩:=aG.out w3 c9.out;have aV:=ξ0 CG;clear c9 CG aG;go_wp2_with fail;refine aV.out.mono ?_;rintro e w4 ⟨a4,c5,o4,P4,rfl,aJ⟩;have aW:=ξ0 aJ.out.1;have aX:=ξ0 aJ.out.2;clear aJ aV bG;go_wp2_with fail;go_loopg [42] gl (λg x wr=>∃(q:Nat),q+g=gl/\x=.int .i64 (q:Int)/\Hid (GSt w4 wr o4 n b P4 R tk now G a4 q))
  case atStart=>exact⟨0,by omega,rfl,aW⟩
  case round=>
   obtain⟨q,cF,rfl,HS⟩:=hrel;clear aW;by_cases hq:q<gl
   ·have bH:(q:Int)<(gl:Int):=by omega
    have bI:q<G.length:=by rw[aS.out];exact hq
    obtain⟨rb,ro,rfl,aq⟩:=(bB.out _ _ _ _ _ HS.out).at (by rw[aS.out];omega);have cq:=aq q (by rw[aS.out];exact hq);have c0:=au.out _ _ _ _ _ _ HS.out aX.out.2.1;have CU:=ξ0 (HS.out.subs (aA.out));have aL:Hid ((A6v (A1c R tk now G q) tk).Sublist (ids (A1c R tk now G q).sb)):=List.filter_sublist;obtain⟨y,hy⟩:=nm (G.getD q 0);have HY:=ξ0 hy;obtain⟨X,hX⟩:=nm (A6v (A1c R tk now G q) tk);have HX:=ξ0 hX;obtain⟨XL,aw⟩:=nm X.length;have ax:=ξ0 aw;rw[hy]at cq CU;rw[hX,aw]at CU;rw[hX]at aL;have bJ:XL<=20:=by rw[<-aw];exact Nat.le_trans aL.out.length_le (by rw[ξL];exact(ξ1H aA.out tk now G q).len)
    clear aq HS hy hX aw;go_wp2_with fail;refine CU.out.mono ?_;rintro e w5 ⟨sa,sc,rfl,HD⟩;clear CU c0 cq;go_wp2_with fail;go_loopg [53] XL (λgh z wx=>∃j:Nat,j+gh=XL/\z=.int .i64 (j:Int)/\Hid (HSt w4 wx o4 n b P4 (A1c R tk now G q) X (λs=>s.gone y now) sa j G (some ⟨rb,ro,none⟩)))
    case atStart=>exact⟨0,by omega,rfl,HD⟩
    case round=>
     obtain⟨j,cG,rfl,HS⟩:=hrel;clear HD;by_cases hj:j<XL
     ·have bK:(j:Int)<(XL:Int):=by omega
      obtain⟨sb,rfl,aq⟩:=HS.out.row (by rw[ax.out];omega);have c0:=aq j (by rw[ax.out];exact hj);have aM:=ξ0 (HS.out.step bY.out (ξ1H aA.out tk now G q).ris aL.out (by rw[ax.out];exact hj) (aI.out q));obtain⟨sp,aY⟩:=nm ((P4.sp (X.getD j 0)).s);rw[aY]at aM c0;clear aq aY HS;go_wp2_with fail;refine aM.out.mono ?_;rintro e w6 ⟨rfl,bM⟩;clear aM c0;go_wp2_with fail;go_roundg (XL-(j+1))
      case measure=>omega
      case rel=>exact⟨j+1,by omega,by go_num,bM⟩
     ·have bK:¬(j:Int)<(XL:Int):=by omega
      have bN:j=XL:=by omega
      have bO:Hid (GSt w4 wr o4 n b P4 R tk now G (some ⟨rb,ro,none⟩) (q+1)):=by
       have h:=HS.out;rw[bN,<-ax.out,<-HX.out,<-HY.out]at h;exact h.done aA.out bI
      clear HS;go_wp2_with fail;go_roundg (gl-(q+1))
      case measure=>omega
      case rel=>exact⟨q+1,by omega,by go_num,bO⟩
   ·have bH:¬(q:Int)<(gl:Int):=by omega
    have bP:q=gl:=by omega
    have bQ:Hid (A2p w wr o n b P (A1c R tk now G gl)):=by
     rw[<-bP];exact aH.out _ _ _ _ _ _ HS.out aX.out
    clear HS;go_wp2_with fail
    go_end0
    exact⟨rfl,bQ.out⟩
theorem ξca{i:Nat}{t:Tr}(ht:N.tr i=some t)(hpa:t.pa≠-1):A1c (N.asked i t now) t.tk now (GM.A0q 3 3 now t.gM) (GM.A0q 3 3 now t.gM).length=N.A1v i now:=by
 unfold A1c Nd.A1v;rw[ht,List.take_length];simp only[];rw[if_neg hpa];rfl
theorem ξcv(nn n b:Nat)(o:Nat->Tg)(P:NP)(N:Nd)(now:Int)(w:World)(hn:n≠0)(hN:NAt w o n b P N)(hK:A0v nn N)(h0:N.nw<=now)(h1:now<=1000000)(hl:N.lt.length<=100) :
 Calls prog 91 #[.pointer (some ⟨b,0,none⟩),.int .i64 now] w λe w'=>e=.returned .nilIface/\Done w w' o n b (N.tick now):=by
 have aw:=ξ23 hK.nw.1 h0 h1;have CA:=ξ0 (Gaps.ξH N.nw now w);rw[if_pos aw,aw]at CA;obtain⟨N1,ax⟩:∃N1:Nd,{ N with nw:=now }=N1:=⟨_,rfl⟩;have bj:A0v nn N1:=by rw[<-ax];exact hK.later h0 h1
 have ah:N1.nw=now:=by rw[<-ax]
 have bU:N1.lt.length<=100:=by rw[<-ax];exact hl
 have am:N1.tr=N.tr:=by rw[<-ax]
 -- behind the clock
 have HA:Hid (∀W,Below w.heap.size w W->W.cell? ⟨b,0,none⟩=some (.int .i64 N.nw)/\W.frozen? ⟨b,0,none⟩=false/\(∀i,i<8->(W.setCell ⟨b,0,none⟩ (.int .i64 now)).cell? ⟨b,2+i,none⟩=some (.pointer (qp N P i)))/\A2p w (W.setCell ⟨b,0,none⟩ (.int .i64 now)) o n b P (N1.A0i now 0)):=by
  refine ξ0 ?_;intro W bE;have aY:NAt W o n b P N:=hN.below bE;have bF:=aY.A4u hn now;have bV:=ξx (aY.A53 0 (.int .i64 now));refine⟨aY.cells.1,aY.free 0,λi hi=>?_,o,P,?_,λ_=>rfl,λ_=>rfl,Ext.refl _ _,(Chg.of_below bE _ _).trans' bV⟩
  ·rw[bF.A2l hi];show some (tpv (N.tr i) (P.tp i))=_;rw[ξfM]
  ·show NAt _ o n b P N1;rw[<-ax];exact bF
 -- a track's pa
 have bq:Hid (∀W j t,j<8->A2p w W o n b P (N1.A0i now j)->N.tr j=some t->W.cell? ⟨(P.tp j).p,2,none⟩=some (.int .i64 t.pa)):=by
  refine ξ0 ?_;rintro W j t hj ⟨o',P',a1,a2,a3,a4,a5⟩ ht;have e:=(ξ1c N1 now j).2.2.2.2.2.2.1 j (Ξo _);have bx:=(a1.trs j hj t (by rw[e,am];exact ht)).1.box;rw[a3]at bx;simp[World.cell?,bx]
 have ay:Hid (∀W j t,j<8->A2p w W o n b P (N1.A0i now j)->N.tr j=some t->t.pa≠-1->Calls prog 118 #[.pointer (some ⟨b,0,none⟩),.pointer (some ⟨(P.tp j).p,0,none⟩),.int .i64 now] W λe w'=>e=.returned (.tuple #[])/\Hid (A2p w w' o n b P (N1.A0i now (j+1)))):=by
  refine ξ0 ?_;intro W j t hj hD ht aj;have cB:=hD;obtain⟨o',P',a1,a2,a3,a4,a5⟩:=hD;have hq:=ξ1c N1 now j;have e:=hq.2.2.2.2.2.2.1 j (Ξo _);have e':(N1.A0i now j).tr j=some t:=by rw[e,am];exact ht
  have bu:A0v nn (N1.A0i now j):=by have:=bj.A0i j (by omega);rwa [ah]at this
  have hT:=bu.tr j hj t e';have bW:GM.tf t.gn now=0:=ξ23 hT.gi.n1 (by have:=hT.gn;rw[hq.1,ah]at this;exact this) h1;have bX:(N1.A0i now j).lt.length<=1000000:=by have:=hq.2.2.2.2.2.2.2;omega
  have bY:(N1.A0i now j).nw<=now:=by rw[hq.1,ah];exact Int.le_refl _
  have C:=ξ88 n b j o' P' _ t now W hn a1 hj e' hT.gi bW aj hT.gg (λhd=>⟨(ξ2N hT hj hd).1,(ξ2N hT hj hd).2.2⟩) bX (λx hx=>(bu.sb x hx).1) bY h1 bu.si;rw[a3]at C;refine C.mono ?_;rintro e w' ⟨rfl,hd⟩;rw[ξca e' aj]at hd;obtain⟨o2,P2,b1,b2,b3,b4,b5⟩:=hd;exact⟨rfl,ξ0 ⟨o2,P2,b1,λx=>(b2 x).trans (a2 x),λi=>(b3 i).trans (a3 i),a4.trans b4 a5.size,a5.trans b5 a4⟩⟩
 have aZ:Hid (∀W j,j<8->A2p w W o n b P (N1.A0i now j)->(N.tr j=none∨∃t,N.tr j=some t/\t.pa=-1)->A2p w W o n b P (N1.A0i now (j+1))):=by
  refine ξ0 ?_;intro W j hj hD hx;rw[ξ17 (by rw[am];exact hx)];exact hD
 -- who subscribes
 obtain⟨N2,aI⟩:=nm (N1.A0i now 8);have aF:A0v nn N2:=by rw[<-aI];have:=bj.A0i 8 (Ξo _);rwa [ah]at this
 have aJ:=ξ1c N1 now 8;rw[aI,ah]at aJ;obtain⟨N3,az⟩:=nm (N2.A27 now);have bG:A0v nn N3:=by rw[<-az];have:=aF.A27;rwa [aJ.1]at this
 have aL:N3.nw=now:=by rw[<-az];exact aJ.1
 have bH:N3.lt.length<=500:=by rw[<-az];show N2.lt.length<=500;omega
 have aA:ids N3.sb=ids N2.sb:=by rw[<-az];exact ξ6O _ _
 obtain⟨nl,aM⟩:=nm ((ids N2.sb).length);have bI:nl<=20:=by rw[<-aM,ξL];exact aF.si.len
 have aO:N3.sb.length=nl:=by rw[<-ξL,aA];exact aM
 have bh:Hid (∀W,A2p w W o n b P (N1.A0i now 8)->Calls prog 119 #[.pointer (some ⟨b,0,none⟩)] W λe w'=>∃a c P2,e=.returned (.slice a nl c)/\Hid (A3p w w' o n b P2 N2 (ids N2.sb) (λs=>s.A1r now) a 0)):=by
  refine ξ0 ?_;rintro W ⟨o',P',q1,_,_,q2,q3⟩;rw[aI]at q1;refine(ξ3i n b o' P' N2 W q1 aF.si).mono ?_;rintro e w' ⟨v,rfl,hv,hb⟩;rw[<-ξL]at hv;obtain⟨a,cap,rfl,hP,hf⟩:=ξ4c hv;rw[aM];refine⟨a,cap,P',rfl,ξ0 ⟨grow o' W ξ2,P',?_,λ_=>rfl,q2.trans (ξ3 _ _ _) q3.size,q3.trans' (Chg.of_below hb _ _),hP,λad e=>ξ1G (hf ad e).1⟩⟩;rw[List.take_zero,ξ54];exact q1.chg (S:=λ_=>False) (Chg.of_below hb _ _) (λg hg=>hg.elim) (ξ3 _ _ _)
 have aC:Hid (∀W P2 j ra,j<nl->A3p w W o n b P2 N2 (ids N2.sb) (λs=>s.A1r now) ra j->Calls prog 120 #[.pointer (some ⟨(P2.sp ((ids N2.sb).getD j 0)).s,0,none⟩),.int .i64 now] W λe w'=>e=.returned (.tuple #[])/\Hid (A3p w w' o n b P2 N2 (ids N2.sb) (λs=>s.A1r now) ra (j+1))):=by
  refine ξ0 ?_;intro W P2 j ra hj hS;refine hS.step (F:=120) (mk:=λp=>#[p,.int .i64 now]) hn aF.si.ris (List.Sublist.refl _) (by omega) ?_;intro x oj Q s hm bZ bz;have k1:=(aF.sb (x,s) hm).1;simp only at k1;have kt:OM.tf s.on now=0:=ξ2m k1.oi.c1 (by have:=k1.on;rw[aJ.1]at this;exact this) h1;obtain⟨p1,p2,_⟩:=k1.pop kt;exact ξ4s n x oj Q s now _ W hn bZ bz k1.sbi kt (ξ2o k1.oi kt) p1 p2
 have aq:Hid (∀W P2 ra,A3p w W o n b P2 N2 (ids N2.sb) (λs=>s.A1r now) ra nl->WSt w W o n b P2 N3 now ra 0):=by
  refine ξ0 ?_;rintro W P2 ra ⟨oj,Pj,g1,g2,g3,g4,g5,g6⟩;rw[<-aM,List.take_length,ξev]at g1;refine⟨oj,Pj,?_,g2,g3,g4,by rw[aA];exact g5,g6⟩;rw[List.take_zero,<-az];exact g1
 have b9:Hid (∀W P2 j ra,j<nl->WSt w W o n b P2 N3 now ra j->∃lb,W.cell? ⟨(P2.sp ((ids N3.sb).getD j 0)).s,3,none⟩=some (.pointer (some ⟨lb,0,none⟩))/\∃v:Bool,Calls prog 108 #[.pointer (some ⟨lb,0,none⟩)] W λe w'=>e=.returned (.bool v)/\Hid ((v=false->WSt w w' o n b P2 N3 now ra (j+1))/\(v=true->Calls prog 121 #[.pointer (some ⟨b,0,none⟩),.pointer (some ⟨(P2.sp ((ids N3.sb).getD j 0)).s,0,none⟩),.int .i64 now] w' λe w2=>e=.returned (.tuple #[])/\Hid (WSt w w2 o n b P2 N3 now ra (j+1))))):=by
  refine ξ0 ?_;intro W P2 j ra hj hS;have aD:j<N3.sb.length:=by omega
  have bJ:=hS;obtain⟨oj,Pj,g1,g2,g3,g4,g5,g6⟩:=hS;have hm:N3.sb[j]∈(N3.starts now (N3.sb.take j)).sb:=by rw[(ξ2n now (N3.sb.take j) N3).2.2.2.1];exact List.getElem_mem aD
  have ha:=(g1.sbs _ hm).1;have bx:=ha.box;rw[g2]at bx;refine⟨(Pj.sp N3.sb[j].1).lb,by rw[ξ8O aD];simp[World.cell?,bx],N3.sb[j].2.wants,?_⟩;refine(Layer.ξ2w _ _ _ _ _ W ha.lay).mono ?_;rintro e w' ⟨rfl,hk⟩;exact⟨rfl,ξ0 ⟨λhv=>bJ.skip aD hv hk,λhv=>bJ.ask hn bG aL bH aD hv hk⟩⟩
 have aE:Hid (∀W P2 j ra,j<nl->A3p w W o n b P2 N2 (ids N2.sb) (λs=>s.A1r now) ra j->∃rb,ra=some ⟨rb,0,none⟩/\W.cell? ⟨rb,j,none⟩=some (.pointer (some ⟨(P2.sp ((ids N2.sb).getD j 0)).s,0,none⟩))):=by
  refine ξ0 ?_;intro W P2 j ra hj hS;obtain⟨rb,e,hc⟩:=hS.row (by omega);exact⟨rb,e,hc j (by omega)⟩
 have ai:Hid (∀W P2 j ra,j<nl->WSt w W o n b P2 N3 now ra j->∃rb,ra=some ⟨rb,0,none⟩/\W.cell? ⟨rb,j,none⟩=some (.pointer (some ⟨(P2.sp ((ids N3.sb).getD j 0)).s,0,none⟩))):=by
  refine ξ0 ?_;rintro W P2 j ra hj ⟨oj,Pj,g1,g2,g3,g4,g5,g6⟩;obtain⟨rb,e,hc⟩:=g5.at (by rw[ξL];omega);exact⟨rb,e,hc j (by rw[ξL];omega)⟩
 have au:Hid (∀W P2 ra,WSt w W o n b P2 N3 now ra nl->Done w W o n b (N.tick now)):=by
  refine ξ0 ?_;rintro W P2 ra ⟨oj,Pj,g1,g2,g3,g4,g5,g6⟩;rw[<-aO,List.take_length]at g1;refine⟨oj,Pj,?_,g3,g4⟩;have e:N.tick now=N3.starts now N3.sb:=by
   unfold Nd.tick;rw[ax,aI,az]
  rw[e];exact g1
 obtain⟨R,aP⟩:=nm (N.tick now);rw[aP]at au ⊢;have c0:=hN.cells.1;obtain⟨nw,bK⟩:=nm N.nw;rw[bK]at c0 CA HA;obtain⟨D1,bM⟩:∃D1:World->Nat->Prop,(λW j=>A2p w W o n b P (N1.A0i now j))=D1:=⟨_,rfl⟩;have aQ:∀W j,A2p w W o n b P (N1.A0i now j)=D1 W j:=λW j=>by rw[<-bM]
 simp only[aQ]at HA bq ay aZ bh;obtain⟨D2,bN⟩:∃D2:World->NP->Option Addr->Nat->Prop,(λW P2 ra j=>A3p w W o n b P2 N2 (ids N2.sb) (λs=>s.A1r now) ra j)=D2:=⟨_,rfl⟩;have aS:∀W P2 ra j,A3p w W o n b P2 N2 (ids N2.sb) (λs=>s.A1r now) ra j=D2 W P2 ra j:=λW P2 ra j=>by rw[<-bN]
 simp only[aS]at bh aC aq aE;obtain⟨D3,bO⟩:∃D3:World->NP->Option Addr->Nat->Prop,(λW P2 ra j=>WSt w W o n b P2 N3 now ra j)=D3:=⟨_,rfl⟩;have aT:∀W P2 ra j,WSt w W o n b P2 N3 now ra j=D3 W P2 ra j:=λW P2 ra j=>by rw[<-bO]
 simp only[aT]at aq b9 ai au;clear hN hK h0 h1 hl aw ax bj ah bU am aI aF aJ az bG aL bH aA aM aO aP bK bM aQ bN aS bO aT;go_enter func91,ntmps91;go_wp2_with fail
 refine CA.out.mono ?_;rintro e w1 ⟨rfl,bA⟩;rw[show Gaps.A0a 0=Value.nilIface from rfl];obtain⟨W1,bi⟩:=nm (w1.alloc (.cells #[.int .i64 now] 89));have bP:Below w.heap.size w W1:=by rw[<-bi];exact bA.alloc bA.size _
 have bQ:W1.heap[w1.heap.size]?=some (.cells #[.int .i64 now] 89 (0,0)):=by rw[<-bi];exact heap_alloc_new w1 _
 have ck:W1.cell? ⟨w1.heap.size,0,none⟩=some (.int .i64 now):=by simp[World.cell?,bQ]
 obtain⟨g0,g1,ae,bB⟩:=HA.out W1 bP;obtain⟨w2,bC⟩:=nm (W1.setCell ⟨b,0,none⟩ (.int .i64 now));rw[bC]at ae bB;obtain⟨q,hq⟩:∃q:Nat->Option Addr,qp N P=q:=⟨_,rfl⟩;rw[hq]at ae;have t0:w2.cell? ⟨b,2,none⟩=some (.pointer (q 0)):=ae 0 (by omega);have t1:w2.cell? ⟨b,3,none⟩=some (.pointer (q 1)):=ae 1 (by omega);have t2:w2.cell? ⟨b,4,none⟩=some (.pointer (q 2)):=ae 2 (by omega);have t3:w2.cell? ⟨b,5,none⟩=some (.pointer (q 3)):=ae 3 (by omega);have t4:w2.cell? ⟨b,6,none⟩=some (.pointer (q 4)):=ae 4 (by omega);have t5:w2.cell? ⟨b,7,none⟩=some (.pointer (q 5)):=ae 5 (by omega);have t6:w2.cell? ⟨b,8,none⟩=some (.pointer (q 6)):=ae 6 (by omega);have t7:w2.cell? ⟨b,9,none⟩=some (.pointer (q 7)):=ae 7 (by omega);have cf:=ξ0 bB;have HQ:=ξ0 hq;obtain⟨cb,bR⟩:=nm w1.heap.size;rw[bR]at ck;have cj:=ξ0 bi;have cu:=ξ0 bC;clear bA bi bP bQ CA HA c0 bC ae bB hq;go_upto_region 4 with fail
 first|rw[cj.out]|skip
 clear bR;go_upto_region 5 with fail;rw[cu.out];clear g0 g1 ck;go_wp2_with fail;go_loopg [34] 8 (λg x wr=>∃j:Nat,j+g=8/\x=.int .i64 (j:Int)/\Hid (D1 wr j))
 case atStart=>exact⟨0,by omega,rfl,cf⟩
 case round=>
  obtain⟨j,cw,rfl,HD⟩:=hrel;clear t0 t1 t2 t3 t4 t5 t6 t7;by_cases hj:j<8
  ·have bS:(j:Int)<8:=by omega
   have ia:=λW=>ξfA q j hj W;cases ht:N.tr j with
   | none=>
     have aG:q j=none:=by rw[<-HQ.out];unfold qp;rw[ht]
     rw[aG]at ia;have aU:=ξ0 (aZ.out wr j hj HD.out (.inl ht));clear HD ht aG;go_wp2_with fail;go_roundg (8-(j+1))
     case measure=>omega
     case rel=>exact⟨j+1,by omega,by go_num,aU⟩
   | some t=>
     have aG:q j=some ⟨(P.tp j).p,0,none⟩:=by rw[<-HQ.out];unfold qp;rw[ht]
     rw[aG]at ia;have cp:=bq.out wr j t hj HD.out ht;by_cases aj:t.pa=-1
     ·rw[aj]at cp;have aU:=ξ0 (aZ.out wr j hj HD.out (.inr ⟨t,ht,aj⟩));obtain⟨pp,aV⟩:=nm ((P.tp j).p);rw[aV]at ia cp;clear HD ht aG aj aV;go_wp2_with fail;go_roundg (8-(j+1))
      case measure=>omega
      case rel=>exact⟨j+1,by omega,by go_num,aU⟩
     ·have CK:=ξ0 (ay.out wr j t hj HD.out ht aj);obtain⟨pp,aV⟩:=nm ((P.tp j).p);obtain⟨pa,aW⟩:=nm t.pa;rw[aV]at ia cp CK;rw[aW]at cp aj;have e1:(pa != -1)=true:=by simpa using aj
      clear HD ht aG aj aV aW;go_wp2_with fail;refine CK.out.mono ?_;rintro e w3 ⟨rfl,cy⟩;go_wp2_with fail;go_roundg (8-(j+1))
      case measure=>omega
      case rel=>exact⟨j+1,by omega,by go_num,cy⟩
  ·obtain rfl:j=8:=by omega
   have CB:=ξ0 (bh.out wr HD.out);clear bh HD bq ay aZ;go_wp2_with fail;refine CB.out.mono ?_;rintro e w4 ⟨a4,c4,P2,rfl,cz⟩;clear CB;go_wp2_with fail;go_loopg [55] nl (λg x wx=>∃j:Nat,j+g=nl/\x=.int .i64 (j:Int)/\Hid (D2 wx P2 a4 j))
   case atStart=>exact⟨0,by omega,rfl,cz⟩
   case round=>
    obtain⟨j,cw,rfl,HD⟩:=hrel;by_cases hj:j<nl
    ·have bS:(j:Int)<(nl:Int):=by omega
     obtain⟨rb,rfl,c0⟩:=aE.out wr P2 j a4 hj HD.out;have CP:=ξ0 (aC.out wr P2 j _ hj HD.out);obtain⟨sp,aX⟩:=nm ((P2.sp ((ids N2.sb).getD j 0)).s);rw[aX]at c0 CP;clear aX HD;go_wp2_with fail;refine CP.out.mono ?_;rintro e w5 ⟨rfl,aH⟩;go_wp2_with fail;go_roundg (nl-(j+1))
     case measure=>omega
     case rel=>exact⟨j+1,by omega,by go_num,aH⟩
    ·have bS:¬(j:Int)<(nl:Int):=by omega
     obtain rfl:nl=j:=by omega
     have c9:=ξ0 (aq.out wr P2 a4 HD.out);clear HD aE aC aq;go_wp2_with fail;go_loopg [65] nl (λg x wx=>∃j:Nat,j+g=nl/\x=.int .i64 (j:Int)/\Hid (D3 wx P2 a4 j))
     case atStart=>exact⟨0,by omega,rfl,c9⟩
     case round=>
      obtain⟨j,cA,rfl,HD⟩:=hrel;by_cases aD:j<nl
      ·have bD:(j:Int)<(nl:Int):=by omega
       obtain⟨rb,rfl,c0⟩:=ai.out wr P2 j a4 aD HD.out;obtain⟨lb,cl,v,bT⟩:=b9.out wr P2 j _ aD HD.out;have CW:=ξ0 bT;obtain⟨sp,aX⟩:=nm ((P2.sp ((ids N3.sb).getD j 0)).s);rw[aX]at c0 cl CW;clear aX HD bT;go_wp2_with fail;refine CW.out.mono ?_;rintro e w5 ⟨rfl,aH⟩;cases v with
       | false=>
         have HS:=ξ0 (aH.out.1 rfl);clear aH CW;go_wp2_with fail;go_roundg (nl-(j+1))
         case measure=>omega
         case rel=>exact⟨j+1,by omega,by go_num,HS⟩
       | true=>
         have CS:=ξ0 (aH.out.2 rfl);clear aH CW;go_wp2_with fail;refine CS.out.mono ?_;rintro e w6 ⟨rfl,HS⟩;go_wp2_with fail;go_roundg (nl-(j+1))
         case measure=>omega
         case rel=>exact⟨j+1,by omega,by go_num,HS⟩
      ·have bD:¬(j:Int)<(nl:Int):=by omega
       obtain rfl:nl=j:=by omega
       have aU:=ξ0 (au.out wr P2 a4 HD.out);clear HD ai b9 au;go_wp2_with fail;go_ret;exact⟨rfl,aU.out⟩
end Go.Proofs.YtpiamlgmadnepaaGreat.ND
namespace Go.Proofs.YtpiamlgmadnepaaGreat.MS
open ChangeShapes WideShapes ChangeAt RowKit Maps Mem NO ND
theorem ξ3S(b:Nat)(o:Nat->Tg)(P:MP)(M:Ms)(by':Int)(w:World)(h:MAt w o b P M)(hK:MOk M)(h1:1<=by')(h2:by'<=1000)(h3:M.nw+by'<=1000000)(hl:M.fl.length<=500000) :
 Calls prog 44 #[.pointer (some ⟨b,0,none⟩),.int .i64 by'] w λe w'=>e=.returned .nilIface/\A0j w w' o b (M.A0n (M.nw+by') M.n):=by
 have bS:=h.n16;have az:=hK.nw.1;obtain⟨now,aA⟩:=nm (M.nw+by');have hw:IntKind.i64.wrap (M.nw+by')=now:=by rw[aA,IntKind.wrap_i64];omega
 rw[aA]at h3 ⊢;have aM:M.nw<=now:=by omega
 obtain⟨rb,rc,aV,_⟩:=h.A5j (i:=0) hK.n1;have bq:=λj=>ξaz M now j;obtain⟨D,hD⟩:∃D:World->Nat->Prop,(λW j=>∃o' P',MAt W o' b P' (M.A0n now j)/\A0u w o o'/\Chg o A1f w W/\P'.nv=P.nv/\P'.nb=P.nb)=D:=⟨_,rfl⟩;have ay:∀W j,D W j↔∃o' P',MAt W o' b P' (M.A0n now j)/\A0u w o o'/\Chg o A1f w W/\P'.nv=P.nv/\P'.nb=P.nb:=λW j=>by rw[<-hD]
 obtain⟨D1,bu⟩:∃D1:World->Nat->Prop,(λW j=>∃o' P',MAt W o' b P' { M.A0n now j with nd:=A0h (M.A0n now j).nd j ((M.nd j).tick now) }/\A0u w o o'/\Chg o A1f w W/\P'.nv=P.nv/\P'.nb=P.nb)=D1:=⟨_,rfl⟩;have aC:∀W j,D1 W j↔∃o' P',MAt W o' b P' { M.A0n now j with nd:=A0h (M.A0n now j).nd j ((M.nd j).tick now) }/\A0u w o o'/\Chg o A1f w W/\P'.nv=P.nv/\P'.nb=P.nb:=λW j=>by rw[<-bu]
 obtain⟨A1,bz⟩:∃A1:World->Prop,(λW=>Below w.heap.size w W)=A1:=⟨_,rfl⟩;have ae:∀W,A1 W↔Below w.heap.size w W:=λW=>by rw[<-bz]
 obtain⟨Z,hZ⟩:∃Z:Obj,Obj.cells #[.int .i64 0] 89=Z:=⟨_,rfl⟩;obtain⟨A2,b9⟩:∃A2:World->Nat->Prop,(λW pb=>Below w.heap.size w W/\W.heap[pb]?=some Z/\w.heap.size<=pb)=A2:=⟨_,rfl⟩;have ah:∀W pb,A2 W pb↔Below w.heap.size w W/\W.heap[pb]?=some Z/\w.heap.size<=pb:=λW pb=>by rw[<-b9]
 obtain⟨A3,bA⟩:∃A3:World->Nat->Prop,(λW pb=>Below w.heap.size w W/\W.cell? ⟨pb,0,none⟩=some (.int .i64 now))=A3:=⟨_,rfl⟩;have au:∀W pb,A3 W pb↔Below w.heap.size w W/\W.cell? ⟨pb,0,none⟩=some (.int .i64 now):=λW pb=>by rw[<-bA]
 have am:∀W:World,A1 W->A2 (W.alloc Z) W.heap.size:=by
  intro W hA;have hB:=(ae W).1 hA;exact(ah _ _).2 ⟨hB.alloc hB.size _,heap_alloc_new W Z,hB.size⟩
 have aW:∀W pb,A2 W pb->A1 W:=λW pb hA=>(ae _).2 ((ah _ _).1 hA).1;have bB:∀W,A1 W->A1 W.drew:=λW hA=>(ae _).2 ((ae _).1 hA).drew;have aH:∀W pb,A2 W pb->A2 W.drew pb:=λW pb hA=>(ah _ _).2 ⟨((ah _ _).1 hA).1.drew,((ah _ _).1 hA).2⟩;have aG:∀W,A1 W->W.cell? ⟨b,0,none⟩=some (.int .i64 M.nw):=λW hA=>(h.below ((ae _).1 hA)).cells.1;have aX:Hid (∀W,Hid (A1 W)->Calls prog 46 #[.pointer (some ⟨b,0,none⟩)] W λe w'=>e=.returned (.int .i64 M.nw)/\w'.cell? ⟨b,0,none⟩=some (.int .i64 M.nw)/\(w'.alloc Z).cell? ⟨b,0,none⟩=some (.int .i64 M.nw)/\Hid (A1 w')/\Hid (A2 (w'.alloc Z) w'.heap.size)):=by
  refine ξ0 ?_;intro W hA;have hB:=(ae W).1 hA.out;refine(ξ20 b o P M W (h.below hB)).mono ?_;rintro e w' ⟨rfl,hb⟩;have aO:=(ae _).2 (hB.trans (hb.mono hB.size));exact⟨rfl,aG _ aO,aG _ (aW _ _ (am _ aO)),ξ0 aO,ξ0 (am _ aO)⟩
 have aP:Hid (∀W pb,Hid (A2 W pb)->Calls prog 46 #[.pointer (some ⟨b,0,none⟩)] W λe w'=>e=.returned (.int .i64 M.nw)/\w'.cell? ⟨b,0,none⟩=some (.int .i64 M.nw)/\Hid (A2 w' pb)):=by
  refine ξ0 ?_;intro W pb hA;obtain⟨hB,hz,hp⟩:=(ah W pb).1 hA.out;refine(ξ20 b o P M W (h.below hB)).mono ?_;rintro e w' ⟨rfl,hb⟩;have aj:=hB.trans (hb.mono hB.size);exact⟨rfl,(h.below aj).cells.1,ξ0 ((ah _ _).2 ⟨aj,(hb.block _ (lt_of_block hz)).trans hz,hp⟩)⟩
 have aY:Hid (∀W,Hid (A1 W)->Calls prog 66 #[.agg #[.int .i64 M.nw],.int .i64 (IntKind.i64.wrap (M.nw+by'))] W λe w'=>e=.returned (.tuple #[.agg #[.int .i64 now],.nilIface])/\w'.cell? ⟨b,0,none⟩=some (.int .i64 M.nw)/\(w'.alloc Z).cell? ⟨b,0,none⟩=some (.int .i64 M.nw)/\(w'.alloc (.cells #[.int .i64 now] 89)).cell? ⟨b,0,none⟩=some (.int .i64 M.nw)/\Hid (A3 (w'.alloc (.cells #[.int .i64 now] 89)) w'.heap.size)):=by
  refine ξ0 ?_;intro W hA;have hB:=(ae W).1 hA.out;rw[hw];refine(Gaps.ξV M.nw now W (ξ23 az aM h3)).mono ?_;rintro e w' ⟨rfl,hb⟩;have aj:=hB.trans (hb.mono hB.size);refine⟨rfl,(h.below aj).cells.1,(h.below (aj.alloc aj.size _)).cells.1,(h.below (aj.alloc aj.size _)).cells.1,ξ0 ((au _ _).2 ⟨aj.alloc aj.size _,?_⟩)⟩;have:=heap_alloc_new w' (.cells #[.int .i64 now] 89);simp only[World.cell?,this];rfl
 have aQ:Hid (∀W pb,Hid (A2 W pb)->Calls prog 66 #[.agg #[.int .i64 M.nw],.int .i64 (IntKind.i64.wrap (M.nw+by'))] W λe w'=>e=.returned (.tuple #[.agg #[.int .i64 now],.nilIface])/\w'.cell? ⟨b,0,none⟩=some (.int .i64 M.nw)/\(w'.setCell ⟨pb,0,none⟩ (.int .i64 now)).cell? ⟨b,0,none⟩=some (.int .i64 M.nw)/\w'.cell? ⟨pb,0,none⟩=some (.int .i64 0)/\w'.frozen? ⟨pb,0,none⟩=false/\Hid (A3 (w'.setCell ⟨pb,0,none⟩ (.int .i64 now)) pb)):=by
  refine ξ0 ?_;intro W pb hA;obtain⟨hB,hz,hp⟩:=(ah W pb).1 hA.out;rw[hw];refine(Gaps.ξV M.nw now W (ξ23 az aM h3)).mono ?_;rintro e w' ⟨rfl,hb⟩;have aj:=hB.trans (hb.mono hB.size);have aS:=(hb.block _ (lt_of_block hz)).trans hz;rw[<-hZ]at aS;have bT:=Gaps.A46 aS 0 (.int .i64 now);have bC:Below w.heap.size w (w'.setCell ⟨pb,0,none⟩ (.int .i64 now)):=aj.setCell hp _;refine⟨rfl,(h.below aj).cells.1,(h.below bC).cells.1,?_,?_,ξ0 ((au _ _).2 ⟨bC,?_⟩)⟩
  ·simp only[World.cell?,aS];rfl
  ·simp only[World.frozen?,aS];rfl
  ·simp only[World.cell?,bT];rfl
 have aD:Hid (∀W pb,A3 W pb->W.cell? ⟨b,0,none⟩=some (.int .i64 M.nw)/\W.frozen? ⟨b,0,none⟩=false/\W.cell? ⟨pb,0,none⟩=some (.int .i64 now)/\Hid (D (W.setCell ⟨b,0,none⟩ (.int .i64 now)) 0)):=by
  refine ξ0 ?_;intro W pb hA;obtain⟨hB,hc⟩:=(au _ _).1 hA;have hM:=h.below hB;obtain⟨g1,g2⟩:=hM.setNow now;refine⟨hM.cells.1,hM.free 0,hc,ξ0 ((ay _ _).2 ⟨o,P,?_,A0u.A16 (Ext.refl _ _),(Chg.of_below hB _ _).trans' g2,rfl,rfl⟩)⟩;rw[ξ7B];exact g1
 have aq:Hid (∀W j,D W j->W.cell? ⟨b,1,none⟩=some (.slice (some ⟨rb,0,none⟩) M.n rc)/\(j<M.n->W.cell? ⟨rb,j,none⟩=some (.pointer (some ⟨P.nb j,0,none⟩)))):=by
  refine ξ0 ?_;intro W j hA;obtain⟨o1,P1,g1,g2,g3,g4,g5⟩:=(ay _ _).1 hA;have c1:=g1.cells.2.1;rw[g4,aV]at c1;refine⟨c1,λhj=>?_⟩;obtain⟨x1,x2⟩:=ξQ g1 (r:=j) (show j<M.n from hj) (show P1.nv=.slice (some ⟨rb,0,none⟩) M.n rc by rw[g4];exact aV);rw[g5]at x2;exact x2
 have aI:Hid (∀W j,D W j->Calls prog 46 #[.pointer (some ⟨b,0,none⟩)] W λe w'=>e=.returned (.int .i64 now)/\Hid (D w' j)):=by
  refine ξ0 ?_;intro W j hA;obtain⟨o1,P1,g1,g2,g3,g4,g5⟩:=(ay _ _).1 hA;refine(ξ20 b o1 P1 _ W g1).mono ?_;rintro e w' ⟨rfl,hb⟩;exact⟨rfl,ξ0 ((ay _ _).2 ⟨o1,P1,g1.below hb,g2,Chg.keep g3 (Chg.of_below hb o1 _) g2,g4,g5⟩)⟩
 have ai:Hid (∀W j,D W j->j<M.n->Calls prog 91 #[.pointer (some ⟨P.nb j,0,none⟩),.int .i64 now] W λe w'=>e=.returned .nilIface/\Hid (D1 w' j)):=by
  refine ξ0 ?_;intro W j hA hj;obtain⟨o1,P1,g1,g2,g3,g4,g5⟩:=(ay _ _).1 hA;obtain⟨kN,kL,kW,kI⟩:=hK.nd j hj;have gN:=g1.nds j (show j<M.n from hj);rw[bq j]at gN;have C:=ξcv M.n (j+1) (P1.nb j) o1 (P1.np j) (M.nd j) now W (by omega) gN kN (Int.le_trans kW aM) h3 (by rw[kL];simp);rw[g5]at C;refine C.mono ?_;rintro e w' ⟨rfl,hd⟩;rw[<-g5]at hd;obtain⟨o2,P2,r1,r2,r3,r4,r5,r6,r7⟩:=g1.node (i:=j) (show j<M.n from hj) hd;exact⟨rfl,ξ0 ((aC _ _).2 ⟨o2,P2,r1,g2.trans (A0u.A16 r6) g3.size,Chg.keep g3 (ξ1a r7 (by omega) (by omega)) g2,r3.trans g4,r2.trans g5⟩)⟩
 have aE:Hid (∀W j,D1 W j->j<M.n->Calls prog 47 #[.pointer (some ⟨b,0,none⟩),.int .i64 (j:Int)] W λe w'=>e=.returned (.tuple #[])/\Hid (D w' (j+1))):=by
  refine ξ0 ?_;intro W j hA hj;obtain⟨o1,P1,g1,g2,g3,g4,g5⟩:=(aC _ _).1 hA;have l1:=ξcX M now j (λk hk=>hK.A9m now (by omega));have l2:=hK.A9m now hj;refine(ξ3v b j o1 P1 _ W g1 (show j<M.n from hj) (by
   show(M.fl++(List.range j).flatMap λk=>outs k ((M.nd k).tick now).lt).length+(A0h (M.A0n now j).nd j _ j).lt.length<=_;rw[ξe,Ξh];omega)).mono ?_
  rintro e w' ⟨rfl,hd⟩;obtain⟨o3,P3,s1,s2,s3,s4,s5⟩:=hd;rw[ξ7C]at s1;exact⟨rfl,ξ0 ((ay _ _).2 ⟨o3,P3,s1,g2.trans s2 g3.size,Chg.keep g3 s3 g2,s4.trans g4,s5.trans g5⟩)⟩
 have aw:Hid (∀W,D W M.n->A0j w W o b (M.A0n now M.n)):=by
  refine ξ0 ?_;intro W hA;obtain⟨o1,P1,g1,g2,g3,_⟩:=(ay _ _).1 hA;exact⟨o1,P1,g1,g2,g3⟩
 have aT:A1 w:=(ae _).2 (Ξp _ _);have c0:=aG _ aT;have ax:Hid (A1 w.drew):=ξ0 (bB _ aT);have bD:=aG _ ax.out;have aJ:Hid (A2 (w.drew.alloc Z) w.drew.heap.size):=ξ0 (am _ ax.out);have aF:Hid (A2 (w.alloc Z).drew w.heap.size):=ξ0 (aH _ _ (am _ aT));have bE:=aG _ (aW _ _ aF.out);obtain⟨nw,bF⟩:=nm M.nw;obtain⟨nn,bG⟩:=nm M.n;rw[bF]at aX aP aY aQ aD c0 bD bE;obtain⟨R,hR⟩:∃R:World->Prop,(λW=>A0j w W o b (M.A0n now M.n))=R:=⟨_,rfl⟩;have bH:∀W,A0j w W o b (M.A0n now M.n)=R W:=λW=>by rw[<-hR]
 simp only[bH]at aw ⊢;rw[bG]at aq ai aE aw;have bU:nn<=16:=by omega
 obtain⟨nb,bI⟩:∃nb:Nat->Nat,P.nb=nb:=⟨_,rfl⟩;rw[bI]at aq ai;clear h hK h3 hl bS az aM aV bq hD ay bu aC bz ae b9 ah bA au hR bH bF bG bI aA hw aT aG am aW bB aH;have cj:¬by'<1:=by omega
 have cu:¬1000<by':=by omega
 subst hZ;go_enter func44,ntmps44;go_upto_region 3 with fail
 go_cut [5,6]from 17 to 28 (λx5 x6 wx=>∃pb,x5=.pointer (some ⟨pb,0,none⟩)/\x6=.nilIface/\Hid (A3 wx pb))
 case first=>
  go_region_held3 (λw'=>w'.cell? ⟨b,0,none⟩=some (.int .i64 nw)) (first|(with_reducible assumption)|(with_reducible exact Pack.ξj (by assumption) _)) (first|(go_at_call 46;first|(with_reducible refine(aX.out _ ax).mono ?_;rintro e w4 ⟨rfl,bJ,bV,aU,aZ⟩)|(with_reducible refine(aP.out _ _ aJ).mono ?_;rintro e w4 ⟨rfl,bJ,bK⟩)|(with_reducible refine(aP.out _ _ aF).mono ?_;rintro e w4 ⟨rfl,bJ,bK⟩))|(go_at_call 66;first|(with_reducible refine(aY.out _ aU).mono ?_;rintro e w5 ⟨rfl,bM,aL,bW,bh⟩)|(with_reducible refine(aQ.out _ _ bK).mono ?_;rintro e w5 ⟨rfl,bM,aL,bX,bY,bN⟩)|(with_reducible refine(aQ.out _ _ aZ).mono ?_;rintro e w5 ⟨rfl,bM,aL,bX,bY,bN⟩)))
  all_goals (go_wp2_with fail)
  all_goals go_meet
  all_goals (first|exact⟨_,rfl,rfl,bh⟩|exact⟨_,rfl,rfl,bN⟩)
 case rest=>
  obtain⟨pb,rfl,rfl,bO⟩:=hcut;obtain⟨wA,rfl⟩:∃z,z=wc:=⟨_,rfl⟩;obtain⟨a0,af,ap,bi⟩:=aD.out wA pb bO.out;obtain⟨W1,bj⟩:=nm (wA.setCell ⟨b,0,none⟩ (.int .i64 now));rw[bj]at bi;have cr:=(aq.out W1 0 bi.out).1;have bP:=ξ0 bj;clear bj bO aD aX aP aY aQ ax aJ aF c0 bD bE;go_upto_region 7 with fail;rw[bP.out];clear a0 af ap bP;go_wp2_with fail;go_loopg [41] nn (λg x wx=>∃j:Nat,j+g=nn/\x=.int .i64 (j:Int)/\Hid (D wx j))
  case atStart=>exact⟨0,by omega,rfl,bi⟩
  case round=>
   obtain⟨j,cw,rfl,HD⟩:=hrel;by_cases hj:j<nn
   ·have bZ:(j:Int)<(nn:Int):=by omega
    have ck:=(aq.out wr j HD.out).2 hj;have CN:=ξ0 (aI.out wr j HD.out);obtain⟨nj,bQ⟩:=nm (nb j);have CT:=ξ0 (λW hW=>ai.out W j hW hj);have CO:=ξ0 (λW hW=>aE.out W j hW hj);rw[bQ]at ck CT;clear HD cr bQ;go_wp2_with fail;refine CN.out.mono ?_;rintro e w3 ⟨rfl,bR⟩;clear CN;go_wp2_with fail;refine(CT.out w3 bR.out).mono ?_;rintro e w4 ⟨rfl,aU⟩;clear CT bR;go_wp2_with fail;refine(CO.out w4 aU.out).mono ?_;rintro e w5 ⟨rfl,bh⟩;clear CO aU;go_wp2_with fail;go_roundg (nn-(j+1))
    case measure=>omega
    case rel=>exact⟨j+1,by omega,by go_num,bh⟩
   ·have bZ:¬(j:Int)<(nn:Int):=by omega
    obtain rfl:nn=j:=by omega
    have cf:=ξ0 (aw.out wr HD.out);clear HD aw aq aI ai aE;go_wp2_with fail;go_ret;exact⟨rfl,cf.out⟩
structure A7s(J:Nat->Nat->Ms->Prop):Prop where
 go:∀r c M,J r c M->r<60->c<2->∃(I:Nat->Ms->Prop) (g0:Nat),A8c I/\I g0 M/\∀g' M',I g' M'->M'.fl=[]->M'.nw+3<=1000000/\J (r+1) (if M.fl.length=0 then c+1 else 0) (M'.A0n (M'.nw+3) M'.n)
theorem ξ45(J:Nat->Nat->Ms->Prop)(hJ:A7s J)(b:Nat)(o:Nat->Tg)(P:MP)(M:Ms)(w:World)(h:MAt w o b P M)(h0:J 0 0 M) :
 Calls prog 13 #[.pointer (some ⟨b,0,none⟩)] w λe w'=>∃r c M',e=.returned (.int .i64 ((r:Nat):Int))/\r<=60/\(r=60∨2<=c)/\J r c M'/\A0j w w' o b M':=by
 obtain⟨D,hD⟩:∃D:World->Nat->Nat->Prop,(λW r c=>∃M',A0j w W o b M'/\J r c M')=D:=⟨_,rfl⟩;have am:∀W r c,D W r c↔∃M',A0j w W o b M'/\J r c M':=λW r c=>by rw[<-hD]
 obtain⟨D1,ax⟩:∃D1:World->Nat->Nat->Prop,(λW r c=>∃M',A0j w W o b M'/\MOk M'/\M'.fl=[]/\M'.nw+3<=1000000/\J r c (M'.A0n (M'.nw+3) M'.n))=D1:=⟨_,rfl⟩;have ai:∀W r c,D1 W r c↔∃M',A0j w W o b M'/\MOk M'/\M'.fl=[]/\M'.nw+3<=1000000/\J r c (M'.A0n (M'.nw+3) M'.n):=λW r c=>by rw[<-ax]
 have aj:Hid (∀W r c,D W r c->r<60->c<2->Calls prog 48 #[.pointer (some ⟨b,0,none⟩)] W λe w'=>∃d,e=.returned (.bool d)/\Hid (D1 w' (r+1) (if d=true then 0 else c+1))):=by
  refine ξ0 ?_;intro W r c hA hr hc;obtain⟨M',⟨o1,P1,g1,g2,g3⟩,g4⟩:=(am _ _ _).1 hA;obtain⟨I,g0,k1,k2,k3⟩:=hJ.go r c M' g4 hr hc;refine(ξ6e I k1 g0 b o1 P1 M' W g1 k2).mono ?_;rintro e w' ⟨rfl,g',M2,⟨o2,P2,r1,r2,r3⟩,r4,r5⟩;obtain⟨k4,k6⟩:=k3 g' M2 r4 r5;refine⟨_,rfl,ξ0 ((ai _ _ _).2 ⟨M2,⟨o2,P2,r1,g2.trans r2 g3.size,Chg.keep g3 r3 g2⟩,(k1.ok g' M2 r4).1,r5,k4,?_⟩)⟩;have e:(if decide (0<M'.fl.length)=true then 0 else c+1)=(if M'.fl.length=0 then c+1 else 0):=by
   by_cases hz:M'.fl.length=0
   ·rw[if_pos hz,if_neg (by rw[hz];simp)]
   ·rw[if_neg hz,if_pos (by simp;omega)]
  rw[e];exact k6
 have ah:Hid (∀W r c,D1 W r c->Calls prog 44 #[.pointer (some ⟨b,0,none⟩),.int .i64 3] W λe w'=>e=.returned .nilIface/\Hid (D w' r c)):=by
  refine ξ0 ?_;intro W r c hA;obtain⟨M',⟨o1,P1,g1,g2,g3⟩,g4,g5,g6,g8⟩:=(ai _ _ _).1 hA;refine(ξ3S b o1 P1 M' 3 W g1 g4 (by omega) (by omega) g6 (by rw[g5];simp)).mono ?_;rintro e w' ⟨rfl,o2,P2,r1,r2,r3⟩;exact⟨rfl,ξ0 ((am _ _ _).2 ⟨_,⟨o2,P2,r1,g2.trans r2 g3.size,Chg.keep g3 r3 g2⟩,g8⟩)⟩
 have aq:Hid (∀W r c,D W r c->r<=60->(r=60∨2<=c)->∃r' c M',Value.int .i64 (r:Int)=Value.int .i64 ((r':Nat):Int)/\r'<=60/\(r'=60∨2<=c)/\J r' c M'/\A0j w W o b M'):=by
  refine ξ0 ?_;intro W r c hA hr hc;obtain⟨M',g1,g4⟩:=(am _ _ _).1 hA;exact⟨r,c,M',rfl,hr,hc,g4,g1⟩
 have az:Hid (D w 0 0):=ξ0 ((am _ _ _).2 ⟨M,A0j.refl h (Ξp _ _),h0⟩);obtain⟨R,hR⟩:∃R:Value->World->Prop,(λv W=>∃(r' c:Nat) (M':Ms),v=Value.int .i64 (r':Int)/\r'<=60/\(r'=60∨2<=c)/\J r' c M'/\A0j w W o b M')=R:=⟨_,rfl⟩;have au:∀v W,(∃(r' c:Nat) (M':Ms),v=Value.int .i64 (r':Int)/\r'<=60/\(r'=60∨2<=c)/\J r' c M'/\A0j w W o b M')=R v W:=λv W=>by rw[<-hR]
 have ae:Hid (∀W r c,D W r c->r<=60->(r=60∨2<=c)->R (.int .i64 (r:Int)) W):=ξ0 (λW r c hA hr hc=>by rw[<-au];exact aq.out W r c hA hr hc)
 suffices hS:Calls prog 13 #[.pointer (some ⟨b,0,none⟩)] w λe w'=>∃v,e=.returned v/\R v w' by
  refine hS.mono ?_;rintro e w' ⟨v,rfl,hr⟩;rw[<-au]at hr;obtain⟨r,c,M',rfl,k1,k2,k3,k4⟩:=hr;exact⟨r,c,M',rfl,k1,k2,k3,k4⟩
 clear h h0 hJ hD am ax ai hR au aq;go_enter func13,ntmps13;go_wp2_with fail
 go_loopg [3,4] 60 (λg x y wx=>∃(r c:Nat),r+g=60/\x=.int .i64 (r:Int)/\y=.int .i64 (c:Int)/\c<=100/\Hid (D wx r c))
 case atStart=>exact⟨0,0,by omega,rfl,rfl,by omega,az⟩
 case round=>
  obtain⟨r,c,aD,rfl,rfl,ay,HD⟩:=hrel;by_cases hr:r<60
  ·have aA:(r:Int)<60:=by omega
   by_cases hc:c<2
   ·have aC:(c:Int)<2:=by omega
    have CA:=ξ0 (aj.out wr r c HD.out hr hc);clear HD ae;go_wp2_with fail;refine CA.out.mono ?_;rintro e w2 ⟨d,rfl,HE⟩;have CT:=ξ0 (ah.out w2 _ _ HE.out);clear CA HE;cases d with
    | true=>
      rw[if_pos rfl]at CT;go_wp2_with fail;refine CT.out.mono ?_;rintro e w3 ⟨rfl,aw⟩;go_wp2_with fail;go_roundg (60-(r+1))
      case measure=>omega
      case rel=>exact⟨r+1,0,by omega,by go_num,rfl,by omega,aw⟩
    | false=>
      rw[if_neg (by decide)]at CT;go_wp2_with fail
      refine CT.out.mono ?_;rintro e w3 ⟨rfl,aw⟩;go_wp2_with fail;go_roundg (60-(r+1))
      case measure=>omega
      case rel=>exact⟨r+1,c+1,by omega,by go_num,by go_num,by omega,aw⟩
   ·have aC:¬(c:Int)<2:=by omega
    have HR:=ξ0 (ae.out wr r c HD.out (by omega) (.inr (by omega)));clear HD ae aj ah;go_wp2_with fail;go_ret;exact⟨_,rfl,HR.out⟩
  ·have aA:¬(r:Int)<60:=by omega
   have HR:=ξ0 (ae.out wr r c HD.out (by omega) (.inl (by omega)));clear HD ae aj ah;go_wp2_with fail;go_ret;exact⟨_,rfl,HR.out⟩
end Go.Proofs.YtpiamlgmadnepaaGreat.MS
