/-
 What the proof needs.
-/
import Derived.Test.YtpiamlgmadnepaaGreatMeshEnd
import Derived.Test.YtpiamlgmadnepaaGreatGenTop
open Go.Proofs.Tryz
set_option linter.unusedVariables false
namespace Go.Proofs.YtpiamlgmadnepaaGreat.MS
open ChangeShapes WideShapes ChangeAt RowKit Maps Mem NO ND
variable {T y nw now mo:Int}{M M':Ms}{k n v s r u i b j:Nat}{p d:List Int}{h:Nat->Nat->Nat}{t:Tr}{E:List TM.Ed}{N:Nd}{f g c:Nat->Nat}{w W W':World}{o:Nat->Tg}{rt:Nat->Int}{sb:List (Int×Int)}
theorem ξdB{M:RM.Its}(h:RM.Inv 64 T M)(hy:T<y):RM.has M y=false:=by
 unfold RM.has;rw[List.any_eq_false];intro i hi;have:=(h.mem i hi).2.1;simp;omega
theorem ξeB{M:RM.Its}(h:RM.Inv 64 T M)(hy:T<y)(h0:0<=y)(h1:y<=1099511627776):RM.px 64 T y M 0=true:=by
 unfold RM.px;rw[RM.ξ4B h0 h1 rfl (by omega),ξdB h hy];rfl
def top(s h:Nat):Int:=if h=0 then -1 else 65535+(s:Int)+(h:Int)
theorem ξ6p(s h:Nat):top s (h+1)=65536+(s:Int)+(h:Int):=by
 unfold top;rw[if_neg (by omega)];omega
theorem ξfN(s h:Nat):top s h<65536+(s:Int)+(h:Int):=by
 unfold top;split<;>omega
theorem ξd8(s h:Nat):num (top s h) ((s+h:Nat):Int)=65536+(s:Int)+(h:Int):=by
 unfold top num;by_cases c:h=0
 ·subst c;rw[if_pos rfl,if_pos (by omega)];omega
 ·rw[if_neg c,if_neg (by omega)];unfold Ser.unw Ser.bey;split<;>omega
structure TrH(k:Nat)(p:List Int)(n v s h:Nat)(t:Tr):Prop where
 tk:t.tk=(k:Int)+1
 ep:t.ep=1
 pa:t.pa=TM.dg p v
 kids:t.kids=TM.kd p (v:Int) n
 gM:t.gM=[]
 gT:t.gT=top s h
 rT:t.rT=top s h
theorem TrH.start(k:Nat)(p:List Int)(n v s:Nat):TrH k p n v s 0 (trk k p n v):=⟨rfl,rfl,rfl,rfl,rfl,rfl,rfl⟩
theorem TrH.hear{h:Nat}(hT:TrH k p n v s h t)(hO:A3h n nw k t)(h0:nw<=now)(h1:now<=1000000)(hb:s+h<=65535)(pk:RM.Pk)(hs:pk.s=((s+h:Nat):Int))(wy:Int×Int) :
 num t.rT pk.s=65536+(s:Int)+(h:Int)/\GM.hB t.gn t.gT t.gM (num t.rT pk.s) now=true/\TrH k p n v s (h+1) ((t.heard (num t.rT pk.s) now).keep (num t.rT pk.s) pk wy):=by
 have e1:num t.rT pk.s=65536+(s:Int)+(h:Int):=by rw[hT.rT,hs];exact ξd8 s h
 have ae:=ξfN s h;have ah:GM.lo (top s h) (65536+(s:Int)+(h:Int))=0:=by
  unfold GM.lo top;by_cases c:h=0
  ·rw[if_pos c,if_pos (.inl rfl)]
  ·rw[if_neg c];split<;>omega
 have hf:GM.hf t.gn t.gT t.gM (65536+(s:Int)+(h:Int)) now=0:=by
  have ai:=ξ23 hO.gi.n1 (Int.le_trans hO.gn h0) h1;unfold GM.hf;rw[hT.gT,hT.gM,ah];rw[if_neg (by omega),if_neg (by omega),if_neg (by simp)]
 rw[e1];have hx:=ξeB hO.ri (y:=65536+(s:Int)+(h:Int)) (by rw[hT.rT];exact ae) (by omega) (by omega);refine⟨rfl,?_,?_⟩
 ·unfold GM.hB GM.hx;rw[hf,hT.gT];simp[ae]
 ·rw[Tr.A4w (t:=t.heard (65536+(s:Int)+(h:Int)) now) hx];refine⟨hT.tk,hT.ep,hT.pa,hT.kids,?_,?_,?_⟩
  ·show GM.hL t.gn t.gT t.gM (65536+(s:Int)+(h:Int)) now=[];unfold GM.hL GM.hM;rw[if_pos hf,hT.gT,hT.gM,if_pos ae,ah];rfl
  ·show GM.hU t.gn t.gT t.gM (65536+(s:Int)+(h:Int)) now=_;unfold GM.hU GM.hT;rw[if_pos hf,hT.gT,if_pos ae,ξ6p]
  ·show RM.top t.rT (65536+(s:Int)+(h:Int))=_;unfold RM.top;rw[hT.rT,if_pos ae,ξ6p]
structure SbR(s h:Nat)(x:Sb):Prop where
 oM:x.oM=[]
 ox:x.ox=if h=0 then -1 else 65536+(s:Int)+(h:Int)
theorem SbR.start(s:Nat)(tk mo:Int):SbR s 0 (s0 tk mo):=⟨rfl,rfl⟩
def kpk(y now:Int)(p:Pk):OM.Kp:=⟨y,false,⟨p.s,p.t,p.l,p.q,p.st,p.L,.slice none 0 0⟩,now⟩
theorem ξfr{p:Pk}(h0:0<=y):cnt [kpk y now p] (odF now [kpk y now p]) 200 y=1:=by
 have e0:odF now [kpk y now p]=-1:=by
  unfold odF;rw[if_neg]
  ·rfl
  ·rintro⟨h,_⟩;simp[OM.late,kpk]at h
 rw[e0];have g1:OM.goes [kpk y now p] (-1) y=true:=by simp[OM.goes,OM.has,kpk]
 have g2:OM.goes [kpk y now p] (-1) (y+1)=false:=by
  simp[OM.goes,OM.has,kpk];omega
 rw[show(200:Nat)=198+1+1 from rfl,cnt,if_pos g1,cnt,if_neg (by rw[g2];simp)]
theorem SbR.push{h:Nat}{x:Sb}(hR:SbR s h x)(hO:A1k nw x)(h0:nw<=now)(h1:now<=1000000)(hb:s+h<=65535)(p:Pk)(hf:PM.fault p.s p.t p.l p.q p.L.length=0) :
 x.push (65536+(s:Int)+(h:Int)) now p=({ x with on:=now,ox:=65536+(s:Int)+(h:Int)+1,oM:=[] }:Sb).item (kpk (65536+(s:Int)+(h:Int)) now p)/\SbR s (h+1) (x.push (65536+(s:Int)+(h:Int)) now p):=by
 have am:=ξ2m hO.oi.c1 (Int.le_trans hO.on h0) h1;obtain⟨y,hy⟩:∃y:Int,65536+(s:Int)+(h:Int)=y:=⟨_,rfl⟩;have ai:0<=y:=by omega
 have aq:y<=1099511627776:=by omega
 have aj:OM.fx x.ox y=y:=by
  unfold OM.fx;rw[hR.ox];by_cases c:h=0
  ·rw[if_pos c,if_pos rfl]
  ·rw[if_neg c,if_neg (by omega)];omega
 have ae:OM.far x.ox y=false:=by
  unfold OM.far;rw[hR.ox];by_cases c:h=0
  ·rw[if_pos c];simp
  ·rw[if_neg c,show y-(65536+(s:Int)+(h:Int))=0 by omega];simp
 have ah:OM.pf x.on x.ox y now (PM.fault p.s p.t p.l p.q p.L.length)=0:=OM.ξ4B am ai aq hf ae;have au:OM.px x.on x.ox y now x.oM (PM.fault p.s p.t p.l p.q p.L.length)=true:=by
  unfold OM.px OM.kx;rw[ah,aj,hR.oM];simp[OM.has]
 have e1:x.pushed y now p={ x with on:=now,ox:=y,oM:=[kpk y now p] }:=by
  unfold Sb.pushed OM.pW OM.pX OM.pM;rw[if_pos ah,if_pos ah,if_pos au,aj,hR.oM];rfl
 have e2:(x.pushed y now p).A3n now=1:=by
  rw[e1];exact ξfr ai
 have e3:x.push y now p=({ x with on:=now,ox:=y+1,oM:=[] }:Sb).item (kpk y now p):=by
  unfold Sb.push Sb.A1r;rw[e2,e1];have t1:OM.takes [kpk y now p] y 1=[kpk y now p]:=by
   simp[OM.takes,OM.itm,kpk,List.range_succ]
  have t2:OM.rest [kpk y now p] (y+1)=[]:=by
   simp[OM.rest,kpk];omega
  have t3:Order.qW now now=now:=by unfold Order.qW;split<;>rfl
  unfold Sb.pop Sb.popped;show((OM.takes [kpk y now p] y 1).foldl Sb.item ({ x with on:=Order.qW now now,ox:=y+((1:Nat):Int),oM:=OM.rest [kpk y now p] (y+((1:Nat):Int)) }:Sb))=_;rw[t1,show y+((1:Nat):Int)=y+1 from rfl,t2,t3];rfl
 rw[hy,e3];obtain⟨i1,i2,i3,i4⟩:=ξ4L ({ x with on:=now,ox:=y+1,oM:=[] }:Sb) (kpk y now p);refine⟨rfl,i3,?_⟩;rw[i2,if_neg (by omega)];show y+1=_;omega
def A5p(x:Sb)(now:Int)(s:Nat)(S:Nat->Pk):Nat->Sb
 | 0=>x
 | h+1=>(A5p x now s S h).push (65536+(s:Int)+(h:Int)) now (S h)
theorem ξ6C(x:Sb)(now:Int)(s:Nat)(S:Nat->Pk):∀h,(A5p x now s S h).tk=x.tk/\(A5p x now s S h).mo=x.mo
 | 0=>⟨rfl,rfl⟩
 | h+1=>by
   have ih:=ξ6C x now s S h;have e:=ξ58 (A5p x now s S h) (65536+(s:Int)+(h:Int)) now (S h);exact⟨e.1.trans ih.1,e.2.trans ih.2⟩
theorem ξ8b{P:List Int}:∀(k:Nat) (x:Int),TM.anc P k x=-1->TM.wu P (k+1) x=TM.wu P k x
 | 0,x,h=>by
   have:x=-1:=h;subst this;rfl
 | k+1,x,h=>by
   rw[TM.wu];by_cases c:x<0
   ·rw[if_pos c,TM.wu,if_pos c]
   ·rw[if_neg c,ξ8b k (TM.pa P x) h]
    conv=>rhs;rw[TM.wu,if_neg c]
def dp(p:List Int)(n v:Nat):Nat:=(TM.wu p n (v:Int)).length
theorem ξ6k(p:List Int)(n v:Nat):dp p n v<=n:=TM.ξgi p n (v:Int)
theorem Trees.anc(h:Trees n r E p d)(hv:v<n):TM.anc p n (v:Int)=-1:=by
 have:=h.ok.ends v (by rw[h.A9q];exact hv);rwa [h.A9q]at this
theorem Trees.A8d(h:Trees n r E p d)(hv:v<n)(hp:TM.dg p v=-1):dp p n v=1:=by
 obtain⟨m,e,e2,e3⟩:=TM.ξ8a (P:=p) (k:=n) (x:=(v:Int)) (by omega) (h.anc hv);unfold dp;rw[e2,TM.ξ2D,hp,TM.ξfI];rfl
theorem Trees.A6w(h:Trees n r E p d)(hv:v<n)(hu:u<n)(hp:TM.dg p v=(u:Int)):dp p n v=dp p n u+1:=by
 obtain⟨m,e,e2,e3⟩:=TM.ξ8a (P:=p) (k:=n) (x:=(v:Int)) (by omega) (h.anc hv);rw[TM.ξ2D,hp]at e2 e3;unfold dp;rw[e2,List.length_cons];have:=ξ8b m (u:Int) e3;rw[<-e]at this;rw[this]
theorem Trees.A28(h:Trees n r E p d):TM.dg p r=-1:=by
 rcases h.pa h.rn with e|⟨k,e,h1,h2,h3,h4⟩
 ·exact e
 ·have:=h.dist.root h.rn;omega
theorem Trees.A9r(h:Trees n r E p d):TM.dg d r=0:=h.dist.root h.rn
theorem Trees.up(h:Trees n r E p d)(hv:v<n)(hd:0<=TM.dg d v)(hne:v≠r):∃u:Nat,TM.dg p v=(u:Int)/\u<n/\0<=TM.dg d u/\u≠v:=by
 have:=TM.ξcW h.dist h.pars hv hd hne;rcases h.pa hv with e|⟨k,e,h1,h2,h3,h4⟩
 ·omega
 ·exact⟨k,e,h1,h4,h2⟩
theorem Trees.down(h:Trees n r E p d)(hv:v<n)(hp:TM.dg p v=(u:Int)):0<=TM.dg d v/\v≠r/\u<n/\0<=TM.dg d u/\v≠u:=by
 obtain⟨k,e,h1,h2,h3,h4,h5,h6⟩:=TM.ξ2p h.dist h.rn h.pars hv (by omega)
 have:k=u:=by omega
 subst this;exact⟨h5,h6,h1,h4,λe=>by subst e;omega⟩
structure A0r where
 n:Nat
 now:Int
 E:List TM.Ed
 on:Nat->Bool
 rt:Nat->Nat
 p:Nat->List Int
 d:Nat->List Int
 sq:Nat->Nat
 pk:Nat->Nat->Pk
 mx:Nat->Nat
 B:Nat->List (Int×Sb)
variable {Q:A0r}
def A0r.at(Q:A0r)(k v:Nat):Bool:=Q.on k&&decide (0<=TM.dg (Q.d k) v)
theorem A0r.A3c:Q.at k v=true↔Q.on k=true/\0<=TM.dg (Q.d k) v:=by
 unfold A0r.at
 simp
structure A4i(s i:Nat)(p:Pk):Prop where
 num:p.s=((s+i:Nat):Int)
 lt:s+i<=65535
 f:PM.fault p.s p.t p.l p.q p.L.length=0
 b:∀c∈p.L,c<256
structure A0r.Ok(Q:A0r):Prop where
 tr:∀k,k<8->Q.on k=true->Trees Q.n (Q.rt k) Q.E (Q.p k) (Q.d k)
 pk:∀k,k<8->∀i,i<Q.mx k->A4i (Q.sq k) i (Q.pk k i)
 mx:∀k,Q.mx k<=1000
def B0e(p:Pk):List Nat:=pby p.s p.t p.l p.q p.st p.L
def A0r.byt(Q:A0r)(k u i:Nat):List Nat:=fby ((k:Int)+1) (Q.rt k:Int) 1 (dp (Q.p k) Q.n u:Int) (B0e (Q.pk k i))
structure Fy where
 k:Nat
 v:Nat
 i:Nat
variable {x:Fy}{X:List Fy}
def A0r.frm(Q:A0r)(x:Fy):Fl:=⟨TM.dg (Q.p x.k) x.v,(x.v:Int),Q.byt x.k (TM.dg (Q.p x.k) x.v).toNat x.i⟩
def Fy.is(k v:Nat)(x:Fy):Bool:=decide (x.k=k/\x.v=v)
def A4l(tk:Int):Nat:=(tk-1).toNat
def A0r.sub(Q:A0r)(h:Nat->Nat->Nat)(v:Nat)(x:Int×Sb):Int×Sb:=(x.1,A5p x.2 Q.now (Q.sq (A4l x.2.tk)) (Q.pk (A4l x.2.tk)) (h (A4l x.2.tk) v))
structure Pipe(Q:A0r)(h:Nat->Nat->Nat)(X:List Fy)(M:Ms):Prop where
 ok:MOk M
 n:M.n=Q.n
 nw:M.nw=Q.now
 tr:∀v,v<Q.n->∀k,k<8->Q.at k v=true->∃t,(M.nd v).tr k=some t/\TrH k (Q.p k) Q.n v (Q.sq k) (h k v) t
 no:∀v,v<Q.n->∀k,k<8->Q.at k v=false->(M.nd v).tr k=none
 sb:∀v,v<Q.n->(M.nd v).sb=(Q.B v).map (Q.sub h v)
 sr:∀v,v<Q.n->∀x∈Q.B v,SbR (Q.sq (A4l x.2.tk)) (h (A4l x.2.tk) v) (Q.sub h v x).2
 fl:M.fl=X.map Q.frm
 xs:∀x∈X,x.k<8/\x.v<Q.n/\Q.on x.k=true/\0<=TM.dg (Q.p x.k) x.v
 fi:∀k,k<8->Q.on k=true->∀v,v<Q.n->∀u:Nat,TM.dg (Q.p k) v=(u:Int)->h k v<=h k u/\(X.filter (Fy.is k v)).map Fy.i=List.range' (h k v) (h k u-h k v)
 le:∀k,k<8->∀v,h k v<=Q.mx k
 ls:∀v,v<Q.n->(M.nd v).ls=((Q.B v).length:Int)
def upH(h:Nat->Nat->Nat)(k v:Nat):Nat->Nat->Nat:=λk' v'=>if k'=k/\v'=v then h k v+1 else h k' v'
theorem ξ1Y(h:Nat->Nat->Nat)(k v:Nat):upH h k v k v=h k v+1:=if_pos ⟨rfl,rfl⟩
theorem ξ1d(h:Nat->Nat->Nat){k' v':Nat}(hn:¬(k'=k/\v'=v)):upH h k v k' v'=h k' v':=if_neg hn
theorem ξ3j{p:RM.Pk}{og hp:Int}(hB:GM.hB t.gn t.gT t.gM (num t.rT p.s) now=true)(hF:FM.A0k t.tk og t.ep hp (pby p.s p.t p.l p.q p.st p.L)=0) :
 N.A0t i t p og hp now={ N with tr:=A0f N.tr i ((t.heard (num t.rT p.s) now).keep (num t.rT p.s) p (og,hp)),lt:=N.lt++t.kids.map (λc=>(c,fby t.tk og t.ep hp (pby p.s p.t p.l p.q p.st p.L))),sb:=A10 t.tk (λs=>s.push (num t.rT p.s) now (ppk p)) N.sb }:=by
 unfold Nd.A0t;rw[if_pos hB];unfold A2o;rw[if_pos hF]
theorem ξ3d(hQ:Q.Ok)(hk:k<8)(ho:Q.on k=true)(hi:i<Q.mx k):FM.A0k ((k:Int)+1) (Q.rt k:Int) 1 (dp (Q.p k) Q.n u:Int) (B0e (Q.pk k i))=0:=by
 have hT:=hQ.tr k hk ho;have ae:=hT.fit.hi;have hr:=hT.rn;have hd:=ξ6k (Q.p k) Q.n u;unfold FM.A0k;rw[if_pos (by unfold FM.nums;omega)];exact ξ9r (hQ.pk k hk i hi).f
def A0r.news(Q:A0r)(k v i:Nat):List Fy:=((List.range Q.n).filter λj=>decide (TM.dg (Q.p k) j=(v:Int))).map λc=>⟨k,c,i⟩
theorem A4z(Q:A0r)(k v i:Nat):(Q.news k v i).map Q.frm=(TM.kd (Q.p k) (v:Int) Q.n).map λc=>(⟨(v:Int),c,Q.byt k v i⟩:Fl):=by
 unfold A0r.news TM.kd;rw[List.map_map,List.map_map];refine List.map_congr_left ?_;intro j hj;have hp:TM.dg (Q.p k) j=(v:Int):=by simpa using(Ξj.1 hj).2
 show Q.frm ⟨k,j,i⟩=_;unfold A0r.frm;simp only[hp,Int.toNat_natCast];rfl
theorem A3d(h:x∈Q.news k v i):x.k=k/\x.v<Q.n/\TM.dg (Q.p k) x.v=(v:Int)/\x.i=i:=by
 unfold A0r.news at h;obtain⟨j,hj,rfl⟩:=Ξi.1 h;obtain⟨h1,h2⟩:=Ξj.1 hj;exact⟨rfl,by simpa using h1,by simpa using h2,rfl⟩
theorem filter_one(n c:Nat)(q:Nat->Bool)(hc:c<n)(hq:q c=true):((List.range n).filter q).filter (λj=>decide (j=c))=[c]:=by
 rw[List.filter_filter];have e:(λa=>decide (a=c)&&q a)=λa=>decide (a=c):=by
  funext a
  by_cases h:a=c
  ·subst h;simp[hq]
  ·simp[h]
 rw[e]
 induction n with
 | zero=>omega
 | succ n ih=>
   rw[List.range_succ,List.filter_append];by_cases h:c=n
   ·subst h;have:(List.range c).filter (λa=>decide (a=c))=[]:=by
     rw[List.filter_eq_nil_iff];intro a ha;have:a<c:=by simpa using ha
     simp;omega
    rw[this];simp
   ·rw[ih (by omega)];simp;omega
theorem ξ7L(Q:A0r)(k v i k' v':Nat)(hv:v'<Q.n):((Q.news k v i).filter (Fy.is k' v')).map Fy.i=if k'=k/\TM.dg (Q.p k) v'=(v:Int)then[i]else[]:=by
 by_cases c:k'=k/\TM.dg (Q.p k) v'=(v:Int)
 ·rw[if_pos c];obtain⟨rfl,hp⟩:=c;unfold A0r.news;rw[List.filter_map];have e:(Fy.is k' v'∘λc=>(⟨k',c,i⟩:Fy))=λj=>decide (j=v'):=by
   funext j
   simp[Fy.is]
  rw[e,filter_one Q.n v' _ hv (by simpa using hp)];rfl
 ·rw[if_neg c];have:(Q.news k v i).filter (Fy.is k' v')=[]:=by
   rw[List.filter_eq_nil_iff];intro x hx;obtain⟨h1,h2,h3,h4⟩:=A3d hx;simp only[Fy.is,decide_eq_true_eq];rintro⟨rfl,rfl⟩;exact c ⟨h1,h1 ▸ h3⟩
  rw[this];rfl
theorem ξ8T{A:List Fy}(hv:v<Q.n)(hT:∀k,k<8->Q.on k=true->Trees Q.n (Q.rt k) Q.E (Q.p k) (Q.d k))
 (h1:∀k',k'<8->Q.on k'=true->∀v',v'<Q.n->¬(k'=k/\v'=v)->∀u:Nat,TM.dg (Q.p k') v'=(u:Int)->h k' v'<=h k' u/\(A.filter (Fy.is k' v')).map Fy.i=List.range' (h k' v') (h k' u-h k' v'))
 (h2:∀u:Nat,TM.dg (Q.p k) v=(u:Int)->h k v+1<=h k u/\(A.filter (Fy.is k v)).map Fy.i=List.range' (h k v+1) (h k u-(h k v+1))) :
 ∀k',k'<8->Q.on k'=true->∀v',v'<Q.n->∀u:Nat,TM.dg (Q.p k') v'=(u:Int)->upH h k v k' v'<=upH h k v k' u/\((A++Q.news k v (h k v)).filter (Fy.is k' v')).map Fy.i=List.range' (upH h k v k' v') (upH h k v k' u-upH h k v k' v'):=by
 intro k' ah ho v' ae u hu;obtain⟨d1,d2,d3,d4,d5⟩:=(hT k' ah ho).down ae hu;rw[List.filter_append,List.map_append,ξ7L Q k v (h k v) k' v' ae];by_cases c:k'=k/\v'=v
 ·obtain⟨rfl,rfl⟩:=c;obtain⟨g1,g2⟩:=h2 u hu;rw[ξ1Y,ξ1d h (by omega),if_neg (by omega),g2,Ξu];exact⟨g1,rfl⟩
 ·obtain⟨g1,g2⟩:=h1 k' ah ho v' ae c u hu;rw[ξ1d h c];by_cases c2:k'=k/\u=v
  ·obtain⟨rfl,rfl⟩:=c2;rw[ξ1Y,if_pos ⟨rfl,hu⟩,g2];refine⟨by omega,?_⟩;rw[show h k' u+1-h k' v'=(h k' u-h k' v')+1 by omega,List.range'_concat]
   congr 2
   omega
  ·rw[ξ1d h c2,if_neg (λq=>c2 ⟨q.1,by have:=q.2;rw[<-q.1]at this;omega⟩),g2,Ξu];exact⟨g1,rfl⟩
def A6x(N:Nd)(k:Nat)(t:Tr)(p:RM.Pk)(wy:Int×Int)(now:Int):Nd:={ N with nw:=now,tr:=A0f N.tr k ((t.heard (num t.rT p.s) now).keep (num t.rT p.s) p wy),lt:=[],sb:=A10 t.tk (λs=>s.push (num t.rT p.s) now (ppk p)) N.sb }
theorem ξdb(N:Nd)(k:Nat)(t:Tr)(p:RM.Pk)(wy:Int×Int)(now:Int):(A6x N k t p wy now).sb=A10 t.tk (λs=>s.push (num t.rT p.s) now (ppk p)) N.sb:=rfl
theorem Pipe.step(hQ:Q.Ok)(hP:Pipe Q h X M)(hk:k<8)(hv:v<Q.n)(hat:Q.at k v=true)(ht:(M.nd v).tr k=some t)(hi:h k v<Q.mx k){p:RM.Pk}(hp:ppk p=Q.pk k (h k v)){wy:Int×Int}{X2:List Fy}{M2:Ms}
 (e0:MOk M2) (e1:M2.n=M.n) (e2:M2.nw=M.nw) (e3:M2.nd=A0h M.nd v (A6x (M.nd v) k t p wy M.nw)) (e4:M2.fl=X2.map Q.frm)
 (hx:∀x∈X2,x.k<8/\x.v<Q.n/\Q.on x.k=true/\0<=TM.dg (Q.p x.k) x.v)
 (hf:∀k',k'<8->Q.on k'=true->∀v',v'<Q.n->∀u:Nat,TM.dg (Q.p k') v'=(u:Int)->upH h k v k' v'<=upH h k v k' u/\(X2.filter (Fy.is k' v')).map Fy.i=List.range' (upH h k v k' v') (upH h k v k' u-upH h k v k' v')):Pipe Q (upH h k v) X2 M2:=by
 have aq:v<M.n:=by rw[hP.n];exact hv
 obtain⟨kN,kL,kW,kI⟩:=hP.ok.nd v aq;obtain⟨t',am,hH⟩:=hP.tr v hv k hk hat;rw[ht]at am;cases am;have hO:A3h Q.n (M.nd v).nw k t:=by rw[<-hP.n];exact kN.tr k hk t ht
 have ah:=hQ.pk k hk (h k v) hi;rw[<-hp]at ah;obtain⟨n1,n2,n3⟩:=hH.hear hO kW hP.ok.nw.2 ah.lt p ah.num wy;refine⟨e0,e1.trans hP.n,e2.trans hP.nw,?_,?_,?_,?_,e4,hx,hf,?_,?_⟩
 ·intro v' ae k' ai aj;obtain⟨t',g1,g2⟩:=hP.tr v' ae k' ai aj;rw[e3];by_cases c:v'=v
  ·subst c;rw[ξe];by_cases c2:k'=k
   ·subst c2;rw[ξ1Y];exact⟨_,by show A0f (M.nd v').tr k' _ k'=_;exact if_pos rfl,n3⟩
   ·rw[ξ1d h (λq=>c2 q.1)];exact⟨t',by show A0f (M.nd v').tr k _ k'=_;rw[show A0f (M.nd v').tr k _ k'=(M.nd v').tr k' from if_neg c2];exact g1,g2⟩
  ·rw[ξh _ _ c,ξ1d h (λq=>c q.2)];exact⟨t',g1,g2⟩
 ·intro v' ae k' ai aj;have g1:=hP.no v' ae k' ai aj;rw[e3];by_cases c:v'=v
  ·subst c;rw[ξe];by_cases c2:k'=k
   ·subst c2;rw[hat]at aj;cases aj
   ·show A0f (M.nd v').tr k _ k'=_;rw[show A0f (M.nd v').tr k _ k'=(M.nd v').tr k' from if_neg c2];exact g1
  ·rw[ξh _ _ c];exact g1
 ·intro v' ae;rw[e3];by_cases c:v'=v
  ·subst c;rw[ξe];rw[ξdb,hP.sb v' ae];unfold A10;rw[List.map_map];refine List.map_congr_left ?_;intro x hx;have au:=ξ6C x.2 Q.now (Q.sq (A4l x.2.tk)) (Q.pk (A4l x.2.tk)) (h (A4l x.2.tk) v');show(if (Q.sub h v' x).2.tk=t.tk then((Q.sub h v' x).1,(Q.sub h v' x).2.push (num t.rT p.s) M.nw (ppk p))else Q.sub h v' x)=Q.sub (upH h k v') v' x;have e5:(Q.sub h v' x).2.tk=x.2.tk:=au.1;rw[e5,hH.tk];by_cases c2:x.2.tk=(k:Int)+1
   ·have c3:A4l x.2.tk=k:=by unfold A4l;omega
    rw[if_pos c2];unfold A0r.sub;rw[c3,ξ1Y,n1,hp,hP.nw];rfl
   ·rw[if_neg c2];obtain⟨_,k',q1,q2,_⟩:=kN.sb (Q.sub h v' x) (by rw[hP.sb v' ae];exact Ξi.2 ⟨x,hx,rfl⟩);rw[e5]at q2;unfold A0r.sub;rw[ξ1d h (λq=>c2 (by have:=q.1;unfold A4l at this;omega))]
  ·rw[ξh _ _ c,hP.sb v' ae];refine List.map_congr_left ?_;intro x hx;unfold A0r.sub;rw[ξ1d h (λq=>c q.2)]
 ·intro v' ae x hx;have g:=hP.sr v' ae x hx;have hm:Q.sub h v' x∈(M.nd v').sb:=by rw[hP.sb v' ae];exact Ξi.2 ⟨x,hx,rfl⟩
  by_cases c:A4l x.2.tk=k/\v'=v
  ·obtain⟨c1,rfl⟩:=c;have gS:=(kN.sb _ hm).1;unfold A0r.sub at g gS ⊢;rw[c1]at g gS ⊢;rw[ξ1Y];have:=(g.push gS kW hP.ok.nw.2 ah.lt (ppk p) ah.f).2;rw[hp,hP.nw]at this;exact this
  ·unfold A0r.sub at g ⊢;rw[ξ1d h c];exact g
 ·intro k' ai v';by_cases c:k'=k/\v'=v
  ·obtain⟨rfl,rfl⟩:=c;rw[ξ1Y];omega
  ·rw[ξ1d h c];exact hP.le k' ai v'
 ·intro v' ae;rw[e3,<-hP.ls v' ae];by_cases c:v'=v
  ·subst c;rw[ξe];rfl
  ·rw[ξh _ _ c]
theorem ξ96{α:Type}(f:Nat->α)(i:Nat)(x y:α):A0h (A0h f i x) i y=A0h f i y:=by
 funext k
 by_cases c:k=i
 ·subst c;rw[ξe,ξe]
 ·rw[ξh _ _ c,ξh _ _ c,ξh _ _ c]
theorem ξ2E(M:Ms)(F:List Fl)(v:Nat)(N:Nd):({ M with fl:=F,nd:=A0h M.nd v N }:Ms).out v={ M with fl:=F++outs v N.lt,nd:=A0h M.nd v { N with lt:=[] } }:=by
 unfold Ms.out outs;simp only[ξe,ξ96]
theorem Pipe.land(hQ:Q.Ok)(hP:Pipe Q h (x::X) M) :
 ∃m,A35 M (Q.frm x) m/\∀bv,Pipe Q (upH h x.k x.v) (X++Q.news x.k x.v (h x.k x.v)) (M.land 0 (Q.frm x) m bv):=by
 obtain⟨k,v,i⟩:=x;obtain⟨hk,hv,ae,az⟩:=hP.xs _ (List.mem_cons_self ..);simp only at hk hv ae az ⊢;have hT:=hQ.tr k hk ae;obtain⟨u,hu⟩:∃u:Nat,TM.dg (Q.p k) v=(u:Int):=⟨(TM.dg (Q.p k) v).toNat,by omega⟩;obtain⟨d1,d2,d3,d4,d5⟩:=hT.down hv hu;obtain⟨f1,f2⟩:=hP.fi k hk ae v hv u hu;have aA:Fy.is k v ⟨k,v,i⟩=true:=by simp[Fy.is]
 rw[List.filter_cons_of_pos aA,List.map_cons]at f2;obtain⟨m,hm⟩:∃m,h k u-h k v=m+1:=by
  cases e:h k u-h k v with
  | zero=>rw[e]at f2;simp at f2
  | succ m=>exact⟨m,rfl⟩
 rw[hm,List.range'_succ]at f2;injection f2 with f3 f4;have f3:i=h k v:=f3;subst f3;have hi:h k v<Q.mx k:=by have:=hP.le k hk u;omega
 have au:Q.at k v=true:=A0r.A3c.2 ⟨ae,d1⟩;obtain⟨t,ht,hH⟩:=hP.tr v hv k hk au;have aC:v<M.n:=by rw[hP.n];exact hv
 obtain⟨kN,kL,kW,kI⟩:=hP.ok.nd v aC;have ai:=hQ.pk k hk (h k v) hi;have aw:=hT.A6w hv d3 hu;have ax:(((k:Int)+1)-1).toNat=k:=by omega
 have aj:(M.nd v).at ((k:Int)+1)=some t:=by unfold Nd.at;rw[ax];exact ht
 obtain⟨pk,am⟩:=nm (Q.pk k (h k v));have aq:Q.frm ⟨k,v,h k v⟩=⟨(u:Int),(v:Int),Q.byt k u (h k v)⟩:=by
  unfold A0r.frm;simp only[hu,Int.toNat_natCast]
 rw[aq];have hL:A35 M ⟨(u:Int),(v:Int),Q.byt k u (h k v)⟩ (.fr ((k:Int)+1) (Q.rt k:Int) 1 (dp (Q.p k) Q.n u:Int) (Q.pk k (h k v))):=by
  refine⟨?_,?_,rfl,⟨by omega,by omega,ξ3d hQ hk ae hi,ai.f,ai.b⟩,?_⟩
  ·show(0:Int)<=(v:Int);omega
  ·show(v:Int)<(M.n:Int);omega
  ·exact⟨t,by show(M.nd (v:Int).toNat).at _=_;rw[Int.toNat_natCast];exact aj⟩
 refine⟨_,hL,λbv=>?_⟩;have ah:=hP.ok.land (i:=0) hL bv;have hO:A3h Q.n (M.nd v).nw k t:=by rw[<-hP.n];exact kN.tr k hk t ht
 rw[am]at ai ah ⊢;obtain⟨n1,n2,n3⟩:=hH.hear hO kW hP.ok.nw.2 ai.lt (pk.lies bv) ai.num ((Q.rt k:Int),(dp (Q.p k) Q.n u:Int)+1);have hF:FM.A0k t.tk (Q.rt k:Int) t.ep ((dp (Q.p k) Q.n u:Int)+1) (pby (pk.lies bv).s (pk.lies bv).t (pk.lies bv).l (pk.lies bv).q (pk.lies bv).st (pk.lies bv).L)=0:=by
  have:=ξ3d hQ (u:=v) hk ae hi;rw[am,aw]at this;rw[hH.tk,hH.ep];exact this
 have hr:hrF t (u:Int) 1=0:=by
  unfold hrF;rw[if_neg];rw[hH.pa,hu,hH.ep];omega
 have e:M.land 0 ⟨(u:Int),(v:Int),Q.byt k u (h k v)⟩ (.fr ((k:Int)+1) (Q.rt k:Int) 1 (dp (Q.p k) Q.n u:Int) pk) bv={ M with fl:=(X++Q.news k v (h k v)).map Q.frm,nd:=A0h M.nd v (A6x (M.nd v) k t (pk.lies bv) ((Q.rt k:Int),(dp (Q.p k) Q.n u:Int)+1) M.nw) }:=by
  unfold Ms.land;simp only[Int.toNat_natCast];rw[ξ2c aj,if_pos hr,ax,ξ3j n2 hF,ξ2E];have aD:M.fl.eraseIdx 0=X.map Q.frm:=by rw[hP.fl];rfl
  rw[aD,List.map_append,A4z];have aE:outs v ((M.nd v).lt++t.kids.map λc=>(c,fby t.tk (Q.rt k:Int) t.ep ((dp (Q.p k) Q.n u:Int)+1) (pby (pk.lies bv).s (pk.lies bv).t (pk.lies bv).l (pk.lies bv).q (pk.lies bv).st (pk.lies bv).L)))=(TM.kd (Q.p k) (v:Int) Q.n).map λc=>(⟨(v:Int),c,Q.byt k v (h k v)⟩:Fl):=by
   unfold outs;rw[kL,List.nil_append,List.map_map,hH.kids,hH.tk,hH.ep];refine List.map_congr_left ?_;intro c hc;show(⟨(v:Int),c,_⟩:Fl)=⟨(v:Int),c,_⟩
   congr 1
   unfold A0r.byt;rw[aw,am];rfl
  show({ M with fl:=X.map Q.frm++outs v ((M.nd v).lt++t.kids.map λc=>(c,fby t.tk (Q.rt k:Int) t.ep ((dp (Q.p k) Q.n u:Int)+1) (pby (pk.lies bv).s (pk.lies bv).t (pk.lies bv).l (pk.lies bv).q (pk.lies bv).st (pk.lies bv).L))),nd:=_ }:Ms)=_;rw[aE];rfl
 rw[e]at ah ⊢;refine hP.step hQ hk hv au ht hi (p:=pk.lies bv) am.symm ah rfl rfl rfl rfl ?_ ?_
 ·intro x hx;rcases Ξe.1 hx with hx|hx
  ·exact hP.xs x (List.mem_cons_of_mem _ hx)
  ·obtain⟨g1,g2,g3,g4⟩:=A3d hx;rw[g1];exact⟨hk,g2,ae,by rw[g3];omega⟩
 ·refine ξ8T hv hQ.tr ?_ ?_
  ·intro k' aF aG v' aH aI u' ay;obtain⟨q1,q2⟩:=hP.fi k' aF aG v' aH u' ay;rw[List.filter_cons_of_neg (by simp[Fy.is];intro a b;exact aI ⟨a.symm,b.symm⟩)]at q2;exact⟨q1,q2⟩
  ·intro u' ay;have:u'=u:=by omega
   subst this;refine⟨by omega,?_⟩;rw[f4]
   congr 1
   omega
theorem Pipe.send(hQ:Q.Ok)(hP:Pipe Q h X M)(hk:k<8)(hon:Q.on k=true)(hi:h k (Q.rt k)<Q.mx k)(ht:(M.nd (Q.rt k)).tr k=some t){p:RM.Pk}(hp:ppk p=Q.pk k (h k (Q.rt k))) :
 Pipe Q (upH h k (Q.rt k)) (X++Q.news k (Q.rt k) (h k (Q.rt k))) (M.send k (Q.rt k) t p):=by
 obtain⟨v,ae⟩:=nm (Q.rt k);have hT:=hQ.tr k hk hon;have hv:v<Q.n:=by rw[<-ae];exact hT.rn
 have ax:TM.dg (Q.p k) v=-1:=by rw[<-ae];exact hT.A28
 have aD:TM.dg (Q.d k) v=0:=by rw[<-ae];exact hT.A9r
 have aj:dp (Q.p k) Q.n v=1:=hT.A8d hv ax;rw[ae]at hi ht hp ⊢;have am:Q.at k v=true:=A0r.A3c.2 ⟨hon,by omega⟩;obtain⟨t',aq,hH⟩:=hP.tr v hv k hk am;rw[ht]at aq;cases aq;have au:v<M.n:=by rw[hP.n];exact hv
 obtain⟨kN,kL,kW,kI⟩:=hP.ok.nd v au;have ah:=hQ.pk k hk (h k v) hi;have hO:A3h Q.n (M.nd v).nw k t:=by rw[<-hP.n];exact kN.tr k hk t ht
 have ai:=hP.ok.send hk au ht (p:=p) (by rw[<-hp]at ah;exact ah.f);rw[<-hp]at ah;obtain⟨n1,n2,n3⟩:=hH.hear hO kW hP.ok.nw.2 ah.lt p ah.num ((v:Int),1);have hF:FM.A0k t.tk (v:Int) t.ep 1 (pby p.s p.t p.l p.q p.st p.L)=0:=by
  have:=ξ3d hQ (u:=v) hk hon hi;rw[<-hp,aj,ae]at this;rw[hH.tk,hH.ep];exact this
 have e:M.send k v t p={ M with fl:=(X++Q.news k v (h k v)).map Q.frm,nd:=A0h M.nd v (A6x (M.nd v) k t p ((v:Int),1) M.nw) }:=by
  unfold Ms.send;rw[kI,ξ3j n2 hF];have:=ξ2E M M.fl v ({ ({ M.nd v with nw:=M.nw }:Nd)with tr:=A0f (M.nd v).tr k ((t.heard (num t.rT p.s) M.nw).keep (num t.rT p.s) p ((v:Int),1)),lt:=(M.nd v).lt++t.kids.map (λc=>(c,fby t.tk (v:Int) t.ep 1 (pby p.s p.t p.l p.q p.st p.L))),sb:=A10 t.tk (λs=>s.push (num t.rT p.s) M.nw (ppk p)) (M.nd v).sb }:Nd);refine this.trans ?_;rw[hP.fl,List.map_append,A4z];have ay:outs v ((M.nd v).lt++t.kids.map λc=>(c,fby t.tk (v:Int) t.ep 1 (pby p.s p.t p.l p.q p.st p.L)))=(TM.kd (Q.p k) (v:Int) Q.n).map λc=>(⟨(v:Int),c,Q.byt k v (h k v)⟩:Fl):=by
   unfold outs;rw[kL,List.nil_append,List.map_map,hH.kids,hH.tk,hH.ep];refine List.map_congr_left ?_;intro c hc;show(⟨(v:Int),c,_⟩:Fl)=⟨(v:Int),c,_⟩
   congr 1
   unfold A0r.byt;rw[aj,<-hp,ae];rfl
  show({ M with fl:=X.map Q.frm++outs v ((M.nd v).lt++t.kids.map λc=>(c,fby t.tk (v:Int) t.ep 1 (pby p.s p.t p.l p.q p.st p.L))),nd:=_ }:Ms)=_;rw[ay];rfl
 rw[e]at ai ⊢;refine hP.step hQ hk hv am ht hi hp ai rfl rfl rfl rfl ?_ ?_
 ·intro x hx;rcases Ξe.1 hx with hx|hx
  ·exact hP.xs x hx
  ·obtain⟨g1,g2,g3,g4⟩:=A3d hx;rw[g1];exact⟨hk,g2,hon,by rw[g3];omega⟩
 ·refine ξ8T hv hQ.tr ?_ ?_
  ·intro k' az aA v' aC aE u' aw;exact hP.fi k' az aA v' aC u' aw
  ·intro u' aw;omega
def A31(f:Nat->Nat):Nat->Nat
 | 0=>0
 | m+1=>A31 f m+f m
theorem ξ2T:∀m,(∀q,q<m->g q=f q)->A31 g m=A31 f m
 | 0,_=>rfl
 | m+1,h=>by rw[A31,A31,ξ2T m (λq hq=>h q (by omega)),h m (by omega)]
theorem ξ48{q0:Nat}(h0:g q0=f q0+1):∀m,q0<m->(∀q,q<m->q≠q0->g q=f q)->A31 g m=A31 f m+1
 | 0,h,_=>by omega
 | m+1,h,hq=>by
   by_cases c:q0=m
   ·subst c;rw[A31,A31,ξ2T q0 (λq hq'=>hq q (by omega) (by omega)),h0];omega
   ·rw[A31,A31,ξ48 h0 m (by omega) (λq hq'=>hq q (by omega)),hq m (by omega) (by omega)];omega
theorem ξ8k:∀m,(∀q,q<m->f q<=b)->A31 f m<=m*b
 | 0,_=>by simp[A31]
 | m+1,h=>by
   rw[A31,Nat.succ_mul];have:=ξ8k m (λq hq=>h q (by omega));have:=h m (by omega);omega
theorem ξ8G:∀X:List Fy,(∀x∈X,x.k<8/\x.v<16)->X.length=A31 (λq=>(X.filter (Fy.is (q/16) (q%16))).length) 128
 | [],_=>by
   have:∀m,A31 (λ_=>0) m=0:=λm=>by induction m with
    | zero=>rfl
    | succ m ih=>rw[A31,ih]
   exact((ξ2T (f:=λ_=>0) 128 (λq hq=>rfl)).trans (this 128)).symm
 | x::X,h=>by
   obtain⟨h1,h2⟩:=h x (List.mem_cons_self ..);have ih:=ξ8G X (λy hy=>h y (List.mem_cons_of_mem _ hy));rw[List.length_cons,ih];refine(ξ48 (q0:=x.k*16+x.v) ?_ 128 (by omega) ?_).symm
   ·have e1:(x.k*16+x.v)/16=x.k:=by omega
    have e2:(x.k*16+x.v)%16=x.v:=by omega
    simp only[e1,e2];rw[List.filter_cons_of_pos (by simp[Fy.is]),List.length_cons]
   ·intro q hq ae;rw[List.filter_cons_of_neg];simp only[Fy.is,decide_eq_true_eq];rintro⟨a,b⟩;omega
theorem Pipe.n16(hP:Pipe Q h X M):Q.n<=16:=by rw[<-hP.n];exact hP.ok.n16
theorem Pipe.few(hQ:Q.Ok)(hP:Pipe Q h X M):M.fl.length<=128000:=by
 have ae:=hP.n16;rw[hP.fl,Ξm,ξ8G X (λx hx=>⟨(hP.xs x hx).1,by have:=(hP.xs x hx).2.1;omega⟩)]
 have:∀q,q<128->(X.filter (Fy.is (q/16) (q%16))).length<=1000:=by
  intro q hq;cases e:X.filter (Fy.is (q/16) (q%16))with
  | nil=>simp
  | cons y Y=>
    have hy:y∈X.filter (Fy.is (q/16) (q%16)):=by rw[e];exact List.mem_cons_self ..
    obtain⟨y1,y2⟩:=Ξj.1 hy;obtain⟨a,b⟩:y.k=q/16/\y.v=q%16:=by simpa[Fy.is]using y2
    obtain⟨z1,z2,z3,z4⟩:=hP.xs y y1;obtain⟨f1,f2⟩:=hP.fi y.k z1 z3 y.v z2 (TM.dg (Q.p y.k) y.v).toNat (by omega);rw[a,b]at f2;have:=congrArg List.length f2;rw[Ξm,List.length_range',e]at this;rw[this];have:=hP.le (q/16) (by omega) (TM.dg (Q.p (q/16)) (q%16)).toNat
    have:=hQ.mx (q/16);omega
 exact ξ8k 128 this
def left(Q:A0r)(h:Nat->Nat->Nat):Nat:=A31 (λq=>Q.mx (q/16)-h (q/16) (q%16)) 128
theorem ξf4(hk:k<8)(hv:v<16)(hi:h k v<Q.mx k):left Q (upH h k v)<left Q h:=by
 have:left Q h=left Q (upH h k v)+1:=by
  refine ξ48 (q0:=k*16+v) ?_ 128 (by omega) ?_
  ·have e1:(k*16+v)/16=k:=by omega
   have e2:(k*16+v)%16=v:=by omega
   simp only[e1,e2,ξ1Y];omega
  ·intro q hq ae;rw[ξ1d h (by omega)]
 omega
def B0v(Q:A0r)(C:(Nat->Nat->Nat)->Prop)(R:Ms->Prop)(g:Nat)(M:Ms):Prop:=∃h X,Pipe Q h X M/\C h/\R M/\left Q h=g
theorem ξeJ(hQ:Q.Ok)(hP:Pipe Q h (x::X) M):h x.k x.v<Q.mx x.k:=by
 obtain⟨hk,hv,ae,ah⟩:=hP.xs _ (List.mem_cons_self ..);obtain⟨f1,f2⟩:=hP.fi x.k hk ae x.v hv (TM.dg (Q.p x.k) x.v).toNat (by omega);rw[List.filter_cons_of_pos (by simp[Fy.is]),List.map_cons]at f2;have:=congrArg List.length f2;rw[List.length_cons,List.length_range']at this;have:=hP.le x.k hk (TM.dg (Q.p x.k) x.v).toNat
 omega
theorem ξ9p(hQ:Q.Ok)(C:(Nat->Nat->Nat)->Prop)(hC:∀h k v,v≠Q.rt k->C h->C (upH h k v))(R:Ms->Prop)(hR:∀M i f m bv,R M->R (M.land i f m bv)):A8c (B0v Q C R):=by
 refine⟨?_,?_⟩
 ·rintro g M ⟨h,X,hP,_⟩;exact⟨hP.ok,Nat.le_trans (hP.few hQ) (by omega)⟩
 ·rintro g M f F ⟨h,X,hP,hc,hr,rfl⟩ hf;have ae:=hP.fl;cases X with
  | nil=>rw[hf]at ae;cases ae
  | cons x X=>
    rw[hf,List.map_cons]at ae;injection ae with hf1 hf2;subst hf1;obtain⟨m,hL,hm⟩:=hP.land hQ;refine⟨m,hL,λbv=>⟨left Q (upH h x.k x.v),ξf4 (hP.xs _ (List.mem_cons_self ..)).1 ?_ (ξeJ hQ hP),_,_,hm bv,hC _ _ _ ?_ hc,hR _ _ _ _ _ hr,rfl⟩⟩
    ·have:=(hP.xs _ (List.mem_cons_self ..)).2.1;have:=hP.n16;omega
    ·intro e;obtain⟨z1,z2,z3,z4⟩:=hP.xs _ (List.mem_cons_self ..);have:=(hQ.tr x.k z1 z3).A28;rw[<-e]at this;omega
theorem Pipe.all(hQ:Q.Ok)(hP:Pipe Q h [] M)(hk:k<8)(hon:Q.on k=true):∀(g v:Nat),v<Q.n->0<=TM.dg (Q.d k) v->(TM.dg (Q.d k) v).toNat<=g->h k v=h k (Q.rt k):=by
 intro g
 induction g with
 | zero=>
   intro v hv hd hg;by_cases c:v=Q.rt k
   ·rw[c]
   ·rcases(hQ.tr k hk hon).pa hv with e|⟨u,e,h1,h2,h3,h4⟩
    ·obtain⟨u,e',_⟩:=(hQ.tr k hk hon).up hv hd c;omega
    ·omega
 | succ g ih=>
   intro v hv hd hg;by_cases c:v=Q.rt k
   ·rw[c]
   ·obtain⟨u',e',_⟩:=(hQ.tr k hk hon).up hv hd c;rcases(hQ.tr k hk hon).pa hv with e|⟨u,e,h1,h2,h3,h4⟩
    ·omega
    ·obtain⟨f1,f2⟩:=hP.fi k hk hon v hv u e;have:=congrArg List.length f2;simp only[List.filter_nil,List.map_nil,List.length_nil,List.length_range']at this;rw[<-ih u h1 h4 (by omega)];omega
def A2d(now:Int)(t:Tr):Tr:=if t.pa=-1 then t else { t with gn:=now,gM:=[],gG:=[] }
def A5q(now:Int)(s:Sb):Sb:={ s with on:=Order.qW s.on now }
def A2y(now:Int)(f:Nat->Option Tr)(j:Nat):Nat->Option Tr:=λk=>if k<j then(f k).map (A2d now)else f k
def A4n(N:Nd)(now:Int):Nd:={ N with nw:=now,tr:=A2y now N.tr 8,sb:=N.sb.map λx=>(x.1,A5q now x.2) }
structure A7t(N:Nd):Prop where
 gm:∀k,k<8->∀t,N.tr k=some t->t.gM=[]
 om:∀x∈N.sb,x.2.oM=[]/\-1<=x.2.ox
theorem ξcc(h:∀t,N.tr j=some t->t.gM=[]):N.A1v j now={ N with tr:=λk=>if k=j then(N.tr j).map (A2d now)else N.tr k }:=by
 unfold Nd.A1v;cases ht:N.tr j with
 | none=>
   have e:(λk=>if k=j then(none:Option Tr).map (A2d now)else N.tr k)=N.tr:=by
    funext k
    by_cases c:k=j
    ·subst c;rw[if_pos rfl,ht];rfl
    ·rw[if_neg c]
   rw[e]
 | some t=>
   have hg:=h t ht;simp only;by_cases c:t.pa=-1
   ·rw[if_pos c];have e:(λk=>if k=j then(some t).map (A2d now)else N.tr k)=N.tr:=by
     funext k
     by_cases c2:k=j
     ·subst c2;rw[if_pos rfl,ht];show some (A2d now t)=_;unfold A2d;rw[if_pos c]
     ·rw[if_neg c2]
    rw[e]
   ·rw[if_neg c,hg];have e1:GM.A0q 3 3 now []=[]:=rfl;have e2:GM.A07 3 3 now []=[]:=rfl;have e3:GM.dM 3 3 now []=[]:=rfl;rw[e1,e2,e3,if_pos rfl,Ξu];have e4:A10 t.tk (λs=>List.foldl (λs y=>s.gone y now) s []) N.sb=N.sb:=ξ8n t.tk N.sb;rw[e4];have e5:A0f N.tr j { t with gn:=now,gM:=[],gG:=[] }=λk=>if k=j then(some t).map (A2d now)else N.tr k:=by
     funext k
     by_cases c2:k=j
     ·subst c2;rw[if_pos rfl];show(if k=k then some _ else _)=some (A2d now t);rw[if_pos rfl];unfold A2d;rw[if_neg c]
     ·rw[if_neg c2];exact if_neg c2
    rw[e5]
theorem ξ4W(h:∀k,k<8->∀t,N.tr k=some t->t.gM=[]):∀j,j<=8->N.A0i now j={ N with tr:=A2y now N.tr j }
 | 0,_=>by
   have e:A2y now N.tr 0=N.tr:=by
    funext k
    exact if_neg (Nat.not_lt_zero k)
   rw[e];rfl
 | j+1,hj=>by
   show(N.A0i now j).A1v j now=_;rw[ξ4W h j (by omega)];have e0:A2y now N.tr j j=N.tr j:=if_neg (Nat.lt_irrefl j);rw[ξcc (N:={ N with tr:=A2y now N.tr j }) (by intro t ht;exact h j (by omega) t (by rw[<-e0];exact ht))];have e:(λk=>if k=j then(A2y now N.tr j j).map (A2d now)else A2y now N.tr j k)=A2y now N.tr (j+1):=by
    funext k
    by_cases c:k=j
    ·subst c;rw[if_pos rfl,e0];exact(if_pos (Nat.lt_succ_self k)).symm
    ·rw[if_neg c];unfold A2y;by_cases c2:k<j
     ·rw[if_pos c2,if_pos (by omega)]
     ·rw[if_neg c2,if_neg (by omega)]
   show({ N with tr:=λk=>if k=j then(A2y now N.tr j j).map (A2d now)else A2y now N.tr j k }:Nd)=_;rw[e]
theorem ξb3{s:Sb}(h:s.oM=[])(hx:-1<=s.ox):s.A1r now=A5q now s:=by
 have e0:s.A3n now=0:=by
  unfold Sb.A3n;rw[h];have g:OM.goes [] (odF now []) s.ox=false:=by
   show(false||decide (s.ox < -1))=false;simp;omega
  rw[show(200:Nat)=199+1 from rfl,cnt,if_neg (by rw[g];simp)]
 unfold Sb.A1r;rw[e0];unfold Sb.pop Sb.popped A5q;rw[h];show(({ s with on:=Order.qW s.on now,ox:=s.ox+((0:Nat):Int),oM:=[] }:Sb))=_;rw[show s.ox+((0:Nat):Int)=s.ox by omega,<-h]
theorem ξ98(h:A7t N):N.tick now=(A4n N now).starts now (A4n N now).sb:=by
 have e:(({ N with nw:=now }:Nd).A0i now 8).A27 now=A4n N now:=by
  rw[ξ4W (N:={ N with nw:=now }) h.gm 8 (Ξo _)];unfold Nd.A27 A5h A4n;have e2:(N.sb.map λx=>(x.1,x.2.A1r now))=N.sb.map λx=>(x.1,A5q now x.2):=by
   refine List.map_congr_left ?_;intro x hx;rw[ξb3 (h.om x hx).1 (h.om x hx).2]
  show({ N with nw:=now,tr:=A2y now N.tr 8,sb:=N.sb.map λx=>(x.1,x.2.A1r now) }:Nd)=_;rw[e2]
 unfold Nd.tick;rw[e]
theorem ξ3U(now:Int):∀(l:List (Int×Sb)) (N:Nd),(∀x∈l,x.2.wants=false)->N.starts now l=N
 | [],N,_=>rfl
 | x::l,N,h=>by
   show(N.A2c now x.2).starts now l=N;have e:N.A2c now x.2=N:=by
    unfold Nd.A2c;split
    ·rfl
    ·rw[if_pos (.inl (h x (List.mem_cons_self ..)))]
   rw[e];exact ξ3U now l N (λy hy=>h y (List.mem_cons_of_mem _ hy))
theorem ξ4o(h:A7t N)(hw:∀x∈N.sb,x.2.wants=false):N.tick now=A4n N now:=by
 rw[ξ98 h,ξ3U];intro x hx;obtain⟨y,hy,rfl⟩:=Ξi.1 hx;exact hw y hy
structure Core where
 id:Int
 tk:Int
 mo:Int
 ln:Int
 br:Bool
 got:List Pk
def core(x:Int×Sb):Core:=⟨x.1,x.2.tk,x.2.mo,x.2.ln,x.2.br,x.2.got⟩
structure A3e(Q:A0r)(h:Nat->Nat->Nat)(M:Ms):Prop where
 ok:MOk M
 n:M.n=Q.n
 fl:M.fl=[]
 tr:∀v,v<Q.n->∀k,k<8->Q.at k v=true->∃t,(M.nd v).tr k=some t/\TrH k (Q.p k) Q.n v (Q.sq k) (h k v) t
 no:∀v,v<Q.n->∀k,k<8->Q.at k v=false->(M.nd v).tr k=none
 sb:∀v,v<Q.n->(M.nd v).sb.map core=(Q.B v).map λx=>core (Q.sub h v x)
 om:∀v,v<Q.n->∀x∈(M.nd v).sb,x.2.oM=[]
 ls:∀v,v<Q.n->(M.nd v).ls=((Q.B v).length:Int)
theorem Pipe.calmed(hP:Pipe Q h [] M):A3e Q h M:=by
 refine⟨hP.ok,hP.n,by rw[hP.fl];rfl,hP.tr,hP.no,?_,?_,hP.ls⟩
 ·intro v hv;rw[hP.sb v hv,List.map_map];rfl
 ·intro v hv x hx;rw[hP.sb v hv]at hx;obtain⟨y,hy,rfl⟩:=Ξi.1 hx;exact(hP.sr v hv y hy).oM
theorem A3e.lacks(hC:A3e Q h M)(hv:v<Q.n):A7t (M.nd v):=by
 obtain⟨kN,_⟩:=hC.ok.nd v (by rw[hC.n];exact hv);refine⟨?_,λx hx=>⟨hC.om v hv x hx,(kN.sb x hx).1.oi.x1⟩⟩;intro k hk t ht;cases ha:Q.at k v with
 | true=>
   obtain⟨t',h1,h2⟩:=hC.tr v hv k hk ha;rw[ht]at h1;cases h1;exact h2.gM
 | false=>
   rw[hC.no v hv k hk ha]at ht;cases ht
theorem ξaf{x y:Int×Sb}(h:core x=core y):x.2.wants=y.2.wants:=by
 unfold core at h;injection h with h1 h2 h3 h4 h5 h6;unfold Sb.wants;rw[h3,h4,h5]
def Full(Q:A0r)(h:Nat->Nat->Nat):Prop:=∀v,v<Q.n->∀x∈Q.B v,(Q.sub h v x).2.wants=false
theorem A3e.quiet(hC:A3e Q h M)(hF:Full Q h)(hv:v<Q.n):∀x∈(M.nd v).sb,x.2.wants=false:=by
 intro x hx;have hm:core x∈(Q.B v).map λx=>core (Q.sub h v x):=by rw[<-hC.sb v hv];exact Ξi.2 ⟨x,hx,rfl⟩
 obtain⟨y,hy,e⟩:=Ξi.1 hm;rw[<-ξaf e];exact hF v hv y hy
theorem A3e.A0n(hC:A3e Q h M)(hF:Full Q h)(h0:M.nw<=now)(h1:now<=1000000):A3e Q h (M.A0n now M.n):=by
 have ae:∀v,v<Q.n->(M.A0n now M.n).nd v={ A4n (M.nd v) now with lt:=[] }:=by
  intro v hv;show(if v<M.n then({ (M.nd v).tick now with lt:=[] }:Nd)else M.nd v)=_;rw[if_pos (by rw[hC.n];exact hv),ξ4o (hC.lacks hv) (hC.quiet hF hv)]
 refine⟨hC.ok.A0n h0 h1 _,hC.n,?_,?_,?_,?_,?_,λv hv=>by rw[ae v hv];exact hC.ls v hv⟩
 ·show M.fl++_=[];rw[hC.fl,List.nil_append];have:∀l:List Nat,(∀v∈l,v<Q.n)->(l.flatMap λv=>outs v ((M.nd v).tick now).lt)=[]:=by
   intro l
   induction l with
   | nil=>intro _;rfl
   | cons v l ih=>
     intro hl;have hv:=hl v (List.mem_cons_self ..);rw[List.flatMap_cons,ih (λy hy=>hl y (List.mem_cons_of_mem _ hy)),ξ4o (hC.lacks hv) (hC.quiet hF hv)]
     have:(A4n (M.nd v) now).lt=[]:=(hC.ok.nd v (by rw[hC.n];exact hv)).2.1;rw[this];rfl
  exact this _ (λv hv=>by rw[<-hC.n];simpa using hv)
 ·intro v hv k hk ha;obtain⟨t,t1,t2⟩:=hC.tr v hv k hk ha;refine⟨A2d now t,?_,?_⟩
  ·rw[ae v hv];show(if k<8 then((M.nd v).tr k).map (A2d now)else(M.nd v).tr k)=_;rw[if_pos hk,t1];rfl
  ·unfold A2d;split
   ·exact t2
   ·exact⟨t2.tk,t2.ep,t2.pa,t2.kids,rfl,t2.gT,t2.rT⟩
 ·intro v hv k hk ha;rw[ae v hv];show(if k<8 then((M.nd v).tr k).map (A2d now)else(M.nd v).tr k)=_;rw[if_pos hk,hC.no v hv k hk ha];rfl
 ·intro v hv;rw[ae v hv,<-hC.sb v hv];show((M.nd v).sb.map λx=>(x.1,A5q now x.2)).map core=_;rw[List.map_map];rfl
 ·intro v hv x hx;rw[ae v hv]at hx;obtain⟨y,hy,rfl⟩:=Ξi.1 hx;exact hC.om v hv y hy
structure Same(M M':Ms):Prop where
 E:M'.E=M.E
 rt:M'.rt=M.rt
 sb:M'.sb=M.sb
 n:M'.n=M.n
theorem Same.refl(M:Ms):Same M M:=⟨rfl,rfl,rfl,rfl⟩
theorem Same.land(h:Same M M')(i:Nat)(f:Fl)(m:Msg)(bv:Value):Same M (M'.land i f m bv):=⟨h.E,h.rt,h.sb,h.n⟩
theorem Same.A0n(h:Same M M')(now:Int)(j:Nat):Same M (M'.A0n now j):=⟨h.E,h.rt,h.sb,h.n⟩
def A4x(Q:A0r)(c:Nat->Nat)(h:Nat->Nat->Nat):Prop:=∀k,k<8->∀v,v<Q.n->Q.at k v=true->h k v=c k
def B0x(Q:A0r)(c:Nat->Nat)(M0:Ms)(x0:Bool)(r cc:Nat)(M:Ms):Prop:=
 cc<=2/\((r=0/\cc=0/\∃h X,Pipe Q h X M/\(∀k,k<8->h k (Q.rt k)=c k)/\Same M0 M/\(X=[]↔x0=true))∨(1<=r/\M.nw=Q.now+3*(r:Int)/\(cc=if x0 then r else r-1)/\∃h,A3e Q h M/\A4x Q c h/\Same M0 M))
theorem ξai(hQ:Q.Ok){M0:Ms}{x0:Bool}(hF:∀h,A4x Q c h->Full Q h)(hnow:0<=Q.now/\Q.now<=900000):A7s (B0x Q c M0 x0):=by
 refine⟨?_⟩;rintro r cc M ⟨ax,⟨rfl,rfl,h,X,hP,hc,hS,hX⟩|⟨ay,ai,aj,h,hC,hH,hS⟩⟩ hr az
 ·refine⟨B0v Q (λh=>∀k,k<8->h k (Q.rt k)=c k) (Same M0),left Q h,ξ9p hQ _ ?_ _ (λM i f m bv hs=>hs.land i f m bv),⟨h,X,hP,hc,hS,rfl⟩,?_⟩
  ·intro h k v hv hc k' am;rw[ξ1d h (λq=>hv (by rw[<-q.2,q.1]))];exact hc k' am
  ·rintro g' M' ⟨h',X',ah,aq,au,_⟩ ae;have aw:X'=[]:=by
    have:=ah.fl;rw[ae]at this;cases X' with
    | nil=>rfl
    | cons a b=>cases this
   subst aw;have hC:=ah.calmed;have hH:A4x Q c h':=by
    intro k hk v hv ha;obtain⟨a1,a2⟩:=A0r.A3c.1 ha;rw[ah.all hQ hk a1 _ v hv a2 (Ξo _)];exact aq k hk
   have hn:=ah.nw;refine⟨by omega,?_,.inr ⟨by omega,?_,?_,h',hC.A0n (hF h' hH) (by omega) (by omega),hH,au.A0n _ _⟩⟩
   ·split<;>omega
   ·show M'.nw+3=_;rw[hn];omega
   ·have e:M.fl.length=0↔X=[]:=by
     rw[hP.fl,Ξm];exact List.length_eq_zero_iff
    cases x0 with
    | true=>rw[if_pos (e.2 (hX.2 rfl))];rfl
    | false=>rw[if_neg (λq=>by have:=hX.1 (e.1 q);cases this)];rfl
 ·have ae:=hC.fl;refine⟨λ_ M'=>M'=M,0,⟨?_,?_⟩,rfl,?_⟩
  ·rintro g M' rfl;exact⟨hC.ok,by rw[ae];simp⟩
  ·rintro g M' f F rfl hf;rw[ae]at hf;cases hf
  ·rintro g' M' rfl _;refine⟨by omega,?_,.inr ⟨by omega,?_,?_,h,hC.A0n (hF h hH) (by omega) (by omega),hH,hS.A0n _ _⟩⟩
   ·split<;>omega
   ·show M'.nw+3=_;rw[ai];omega
   ·rw[ae,List.length_nil,if_pos (show(0:Nat)=0 from rfl),aj];cases x0<;>simp<;>omega
theorem ξc6(hQ:Q.Ok)(hF:∀h,A4x Q c h->Full Q h)(hnow:0<=Q.now/\Q.now<=900000)(b:Nat)(o:Nat->Tg)(P:MP)(M:Ms)(h:Nat->Nat->Nat)(X:List Fy)(w:World)(hM:MAt w o b P M)(hP:Pipe Q h X M)(hc:∀k,k<8->h k (Q.rt k)=c k) :
 Calls prog 13 #[.pointer (some ⟨b,0,none⟩)] w λe w'=>e=.returned (.int .i64 (if X=[]then 2 else 3))/\∃h' M',A3e Q h' M'/\A4x Q c h'/\Same M M'/\M'.nw=Q.now+(if X=[]then 6 else 9)/\A0j w w' o b M':=by
 obtain⟨x0,ae⟩:∃x0:Bool,X=[]↔x0=true:=⟨decide (X=[]),by simp⟩;refine(ξ45 (B0x Q c M x0) (ξai hQ hF hnow) b o P M w hM ⟨by omega,.inl ⟨rfl,rfl,h,X,hP,hc,Same.refl M,ae⟩⟩).mono ?_;rintro e w' ⟨r,cc,M',rfl,hr,he,⟨ah,hJ⟩,hd⟩;rcases hJ with⟨rfl,rfl,_⟩|⟨h1,hnw,hcr,h',hC,hH,hS⟩
 ·omega
 ·by_cases hX:X=[]
  ·rw[ae.1 hX,if_pos rfl]at hcr;have:r=2:=by omega
   subst this;rw[if_pos hX,if_pos hX];exact⟨rfl,h',M',hC,hH,hS,by rw[hnw];rfl,hd⟩
  ·have e:x0=false:=by
    cases x0 with
    | true=>exact absurd (ae.2 rfl) hX
    | false=>rfl
   rw[e,if_neg (by simp)]at hcr
   have:r=3:=by omega
   subst this;rw[if_neg hX,if_neg hX];exact⟨rfl,h',M',hC,hH,hS,by rw[hnw];rfl,hd⟩
theorem ξ2v(hb:Below w.heap.size w W)(ho:∀k,k<w.heap.size->(o k).n=0)(hc:Chg o A1f W W'):Below w.heap.size w W':=by
 obtain⟨bs,q1,q2,q3⟩:=hc;refine hb.trans ⟨q1.1,q1.2.1,q1.2.2.1,q1.2.2.2.1,λk hk=>q1.2.2.2.2 k (Ξn hk hb.size) (λhm=>(q2 k hm).1 (ho k hk))⟩
theorem ξ5P{o':Nat->Tg}(hb:Below w.heap.size w W)(ho:∀k,k<w.heap.size->(o k).n=0)(hk:A0u W o o'):∀k,k<w.heap.size->(o' k).n=0:=by
 intro k hl;rcases hk k (Ξn hl hb.size)with e|⟨_,e⟩
 ·rw[e];exact ho k hl
 ·rw[e]
def Zt(w W:World)(b:Nat)(M:Ms):Prop:=∃o P,MAt W o b P M/\(∀k,k<w.heap.size->(o k).n=0)/\Below w.heap.size w W
theorem Zt.made{w1:World}(hb:Below w.heap.size w w1)(h:A3i w1 W (λ_=>ξ2) b M):Zt w W b M:=by
 obtain⟨o,P,h1,h2,h3,_⟩:=h;refine⟨o,P,h1,λk hk=>?_,hb.trans (h3.mono hb.size)⟩;rw[h2 k (Ξn hk hb.size)]
theorem Zt.next{M:Ms}(hb:Below w.heap.size w W)(ho:∀k,k<w.heap.size->(o k).n=0)(h:A0j W W' o b M'):Zt w W' b M':=by
 obtain⟨o',P',h1,h2,h3⟩:=h;exact⟨o',P',h1,ξ5P hb ho h2,ξ2v hb ho h3⟩
theorem Zt.bel(h:Zt w W b M):Below w.heap.size w W:=by
 obtain⟨o,P,h1,h2,h3⟩:=h;exact h3
def A1y:Nat->Nat->Nat:=λ_ _=>0
theorem ξ9o(h1:1<=Q.n)(h16:Q.n<=16)(hn:Q.now=0)(ho:∀k,Q.on k=false)(hB:∀v,Q.B v=[]):Pipe Q A1y [] (A2r Q.n E):=by
 refine⟨ξdd h1 h16,rfl,hn.symm,?_,?_,?_,?_,rfl,by simp,?_,λk _ v=>Nat.zero_le _,λv _=>by rw[hB v];rfl⟩
 ·intro v hv k hk ha;have:=(A0r.A3c.1 ha).1;rw[ho k]at this;cases this
 ·intro v hv k hk ha;rfl
 ·intro v hv;rw[hB v];rfl
 ·intro v hv x hx;rw[hB v]at hx;cases hx
 ·intro k hk ae;rw[ho k]at ae;cases ae
def A0r.A0g(Q:A0r)(k:Nat)(p d:List Int):A0r:={ Q with on:=λj=>if j=k then true else Q.on j,p:=A0h Q.p k p,d:=A0h Q.d k d }
theorem ξ18(Q:A0r)(k:Nat)(p d:List Int)(h:j≠k):(Q.A0g k p d).on j=Q.on j/\(Q.A0g k p d).p j=Q.p j/\(Q.A0g k p d).d j=Q.d j/\∀v,(Q.A0g k p d).at j v=Q.at j v:=by
 have e1:(Q.A0g k p d).on j=Q.on j:=if_neg h;have e2:(Q.A0g k p d).p j=Q.p j:=ξh _ _ h;have e3:(Q.A0g k p d).d j=Q.d j:=ξh _ _ h;exact⟨e1,e2,e3,λv=>by unfold A0r.at;rw[e1,e3]⟩
theorem ξT(Q:A0r)(k:Nat)(p d:List Int):(Q.A0g k p d).on k=true/\(Q.A0g k p d).p k=p/\(Q.A0g k p d).d k=d:=⟨if_pos rfl,ξe _ _ _,ξe _ _ _⟩
theorem A0r.Ok.A0g(hQ:Q.Ok)(hT:Trees Q.n (Q.rt k) Q.E p d):(Q.A0g k p d).Ok:=by
 refine⟨?_,hQ.pk,hQ.mx⟩;intro j hj ho;by_cases c:j=k
 ·subst c;rw[(ξT Q j p d).2.1,(ξT Q j p d).2.2];exact hT
 ·rw[(ξ18 Q k p d c).2.1,(ξ18 Q k p d c).2.2.1];exact hQ.tr j hj (by rw[<-(ξ18 Q k p d c).1];exact ho)
theorem ξ6T(hP:Pipe Q A1y [] M)(hk:k<8)(hoff:Q.on k=false)(hT:Trees Q.n (Q.rt k) Q.E p d)(hE:M.E=Q.E):Pipe (Q.A0g k p d) A1y [] (M.A0g k (Q.rt k) p d):=by
 have ah:Trees M.n (Q.rt k) M.E p d:=by rw[hP.n,hE];exact hT
 have ae:∀v,v<Q.n->(M.A0g k (Q.rt k) p d).nd v=if 0<=TM.dg d v then({ M.nd v with tr:=A0f (M.nd v).tr k (trk k p M.n v) }:Nd)else M.nd v:=by
  intro v hv;show(if v<M.n/\0<=TM.dg d v then({ M.nd v with tr:=A0f (M.nd v).tr k (trk k p M.n v) }:Nd)else M.nd v)=_;by_cases c:0<=TM.dg d v
  ·rw[if_pos ⟨by rw[hP.n];exact hv,c⟩,if_pos c]
  ·rw[if_neg (λq=>c q.2),if_neg c]
 have ai:∀v,v<Q.n->(M.nd v).tr k=none:=λv hv=>hP.no v hv k hk (by unfold A0r.at;rw[hoff];rfl);have aj:∀v,v<Q.n->((M.A0g k (Q.rt k) p d).nd v).sb=(M.nd v).sb:=by
  intro v hv;rw[ae v hv];split<;>rfl
 refine⟨hP.ok.A0g ah,hP.n,hP.nw,?_,?_,?_,?_,hP.fl,by simp,?_,λk _ v=>Nat.zero_le _,λv hv=>by rw[ae v hv];split<;>exact hP.ls v hv⟩
 ·intro v hv j hj ha;rw[ae v hv];by_cases c:j=k
  ·subst c;have hd:0<=TM.dg d v:=by have:=(A0r.A3c.1 ha).2;rwa [(ξT Q j p d).2.2]at this
   rw[if_pos hd,(ξT Q j p d).2.1];refine⟨trk j p M.n v,if_pos rfl,?_⟩;rw[hP.n];exact TrH.start j p Q.n v (Q.sq j)
  ·rw[(ξ18 Q k p d c).2.2.2 v]at ha;rw[(ξ18 Q k p d c).2.1];obtain⟨t,t1,t2⟩:=hP.tr v hv j hj ha;refine⟨t,?_,t2⟩;split
   ·show A0f (M.nd v).tr k _ j=_;rw[show A0f (M.nd v).tr k (trk k p M.n v) j=(M.nd v).tr j from if_neg c];exact t1
   ·exact t1
 ·intro v hv j hj ha;rw[ae v hv];by_cases c:j=k
  ·subst c;have hd:¬0<=TM.dg d v:=λq=>by
    have:(Q.A0g j p d).at j v=true:=A0r.A3c.2 ⟨(ξT Q j p d).1,by rw[(ξT Q j p d).2.2];exact q⟩;rw[ha]at this;cases this
   rw[if_neg hd];exact ai v hv
  ·rw[(ξ18 Q k p d c).2.2.2 v]at ha;split
   ·show A0f (M.nd v).tr k _ j=_;rw[show A0f (M.nd v).tr k (trk k p M.n v) j=(M.nd v).tr j from if_neg c];exact hP.no v hv j hj ha
   ·exact hP.no v hv j hj ha
 ·intro v hv;rw[aj v hv,hP.sb v hv];rfl
 ·intro v hv x hx;exact hP.sr v hv x hx
 ·intro j hj am v hv u hu;exact⟨Ξo _,rfl⟩
def A0r.A5g(Q:A0r)(v:Nat)(x:Int×Sb):A0r:={ Q with B:=A0h Q.B v (Q.B v++[x]) }
theorem A0r.Ok.A5g(hQ:Q.Ok)(v:Nat)(x:Int×Sb):(Q.A5g v x).Ok:=⟨hQ.tr,hQ.pk,hQ.mx⟩
theorem A0v.subs(h:A0v n N)(hk:k<8)(ht:(N.tr k).isSome=true)(h0:0<=mo)(h3:mo<=3)(hl:N.sb.length<20)(hls:N.ls<1000000):A0v n (N.subs ((k:Int)+1) mo):=by
 refine⟨h.nw,h.id,h.tr,?_,?_,h.pn,h.pl,h.pw,h.ak⟩
 ·have hs:=h.si;refine⟨?_,?_,?_,by have:=hs.ls0;show 0<=N.ls+1;omega,by show N.ls+1<=1000000;omega⟩
  ·show(ids (N.sb++[(N.ls+1,s0 ((k:Int)+1) mo)])).Pairwise _;unfold ids;rw[List.map_append,List.pairwise_append];refine⟨hs.ris,by simp,?_⟩;intro a ha b hb;simp at hb;subst hb;obtain⟨y,hy,rfl⟩:=Ξi.1 ha;have:=hs.mem y hy;omega
  ·intro x hx;rcases Ξe.1 hx with hx|hx
   ·have:=hs.mem x hx;exact⟨this.1,by show x.1<=N.ls+1;omega,this.2.2⟩
   ·rw[Ξg]at hx;subst hx;have:=hs.ls0;exact⟨by show 1<=N.ls+1;omega,Int.le_refl _,h0,h3⟩
  ·show(N.sb++[_]).length<=20;rw[Ξh];simp;omega
 ·intro x hx;rcases Ξe.1 hx with hx|hx
  ·exact h.sb x hx
  ·rw[Ξg]at hx;subst hx;exact⟨(A1k.start _ _).mono h.nw.1,k,hk,rfl,ht⟩
theorem ξcV(hP:Pipe Q A1y [] M)(hk:k<8)(hv:v<Q.n)(hat:Q.at k v=true)(h0:0<=mo)(h3:mo<=3)(hl:(Q.B v).length<20)(hls:(M.nd v).ls<1000000):Pipe (Q.A5g v ((M.nd v).ls+1,s0 ((k:Int)+1) mo)) A1y [] (M.sub v ((k:Int)+1) mo):=by
 have aj:(M.nd v).sb.length=(Q.B v).length:=by rw[hP.sb v hv,Ξm]
 obtain⟨t,t1,t2⟩:=hP.tr v hv k hk hat;have ae:∀j,j≠v->(M.sub v ((k:Int)+1) mo).nd j=M.nd j:=λj hj=>ξh _ _ hj;have ah:(M.sub v ((k:Int)+1) mo).nd v=(M.nd v).subs ((k:Int)+1) mo:=ξe _ _ _;refine⟨⟨hP.ok.n1,hP.ok.n16,hP.ok.nw,?_⟩,hP.n,hP.nw,?_,?_,?_,?_,hP.fl,by simp,?_,λk _ v=>Nat.zero_le _,?_⟩
 ·intro j hj;obtain⟨g1,g2,g3,g4⟩:=hP.ok.nd j hj;by_cases c:j=v
  ·subst c;rw[ah];exact⟨A0v.subs g1 hk (by rw[t1];rfl) h0 h3 (by omega) hls,g2,g3,g4⟩
  ·rw[ae j c];exact⟨g1,g2,g3,g4⟩
 ·intro j hj k' ai ha;obtain⟨t',q1,q2⟩:=hP.tr j hj k' ai ha;refine⟨t',?_,q2⟩;by_cases c:j=v
  ·subst c;rw[ah];exact q1
  ·rw[ae j c];exact q1
 ·intro j hj k' ai ha;have q1:=hP.no j hj k' ai ha;by_cases c:j=v
  ·subst c;rw[ah];exact q1
  ·rw[ae j c];exact q1
 ·intro j hj;by_cases c:j=v
  ·subst c;rw[ah];show(M.nd j).sb++[_]=(A0h Q.B j _ j).map _;rw[ξe,List.map_append,hP.sb j hj];rfl
  ·rw[ae j c,hP.sb j hj];show _=(A0h Q.B v _ j).map _;rw[ξh _ _ c];rfl
 ·intro j hj x hx;have hx:x∈A0h Q.B v (Q.B v++[((M.nd v).ls+1,s0 ((k:Int)+1) mo)]) j:=hx;by_cases c:j=v
  ·subst c;rw[ξe]at hx;rcases Ξe.1 hx with hx|hx
   ·exact hP.sr j hj x hx
   ·rw[Ξg]at hx;subst hx;exact SbR.start _ _ _
  ·rw[ξh _ _ c]at hx;exact hP.sr j hj x hx
 ·intro j hj am v hv u hu;exact⟨Ξo _,rfl⟩
 ·intro j hj;by_cases c:j=v
  ·subst c;rw[ah];show(M.nd j).ls+1=((A0h Q.B j _ j).length:Int);rw[ξe,Ξh,hP.ls j hj];simp
  ·rw[ae j c,hP.ls j hj];show _=((A0h Q.B v _ j).length:Int);rw[ξh _ _ c]
def PZ(w W:World)(b:Nat)(Q:A0r)(h:Nat->Nat->Nat)(X:List Fy)(rt:Nat->Int)(sb:List (Int×Int)):Prop:=∃M,Zt w W b M/\Pipe Q h X M/\M.rt=rt/\M.sb=sb/\M.E=Q.E
theorem PZ.bel(hz:PZ w W b Q h X rt sb):Below w.heap.size w W:=by
 obtain⟨M,h1,h2⟩:=hz;exact h1.bel
theorem ξ6K(hw:Below w.heap.size w W)(a:Option Addr)(n cap:Nat)(hA:Tree.A1t W a n Q.E)(hn0:a=none->n=0/\cap=0)(hnc:n<=cap)(hf:TM.ef (Q.n:Int) Q.E=0)(hnow:Q.now=0)(ho:∀k,Q.on k=false)(hB:∀v,Q.B v=[]) :
 Calls prog 6 #[.int .i64 (Q.n:Int),.slice a n cap] W λe w'=>∃b,e=.returned (.tuple #[.pointer (some ⟨b,0,none⟩),.nilIface])/\PZ w w' b Q A1y [] (λ_=>-1) []:=by
 obtain⟨_,ae⟩:=TM.ξ2d.1 hf;rw[Int.toNat_natCast]at ae;refine(ξbl (λ_=>ξ2) (λk=>by show 0≠1000;omega) Q.n a n cap Q.E W hA hn0 hnc hf).mono ?_;rintro e w' ⟨b,rfl,hm⟩;exact⟨b,rfl,_,Zt.made hw hm,ξ9o ae.lo ae.hi hnow ho hB,rfl,rfl,rfl⟩
theorem ξ2Z(hz:PZ w W b Q A1y [] rt sb)(hk:k<8)(hoff:Q.on k=false)(hrt:rt k=-1)(hr:Q.rt k<Q.n)(hf:TM.ef (Q.n:Int) Q.E=0) :
 Calls prog 8 #[.pointer (some ⟨b,0,none⟩),.int .i64 ((k:Int)+1),.int .i64 (Q.rt k:Int)] W λe w'=>e=.returned .nilIface/\∃p d,Trees Q.n (Q.rt k) Q.E p d/\PZ w w' b (Q.A0g k p d) A1y [] (A0h rt k (Q.rt k:Int)) sb:=by
 obtain⟨M,⟨o,P,h1,h2,h3⟩,hP,e1,e2,e3⟩:=hz;refine(ξ66 b k (Q.rt k) o P M W h1 hP.ok (by rw[hP.n,e3];exact hf) hk (by rw[hP.n];exact hr) (by rw[e1];exact hrt) (λi hi=>hP.no i (by rw[<-hP.n];exact hi) k hk (by unfold A0r.at;rw[hoff];rfl))).mono ?_;rintro e w' ⟨rfl,p,d,hT,hd⟩;rw[hP.n,e3]at hT;exact⟨rfl,p,d,hT,_,Zt.next (M:=M) h3 h2 hd,ξ6T hP hk hoff hT e3,by rw[<-e1];rfl,e2,e3⟩
theorem ξ6J(hz:PZ w W b Q A1y [] rt sb)(hk:k<8)(hv:v<Q.n)(hat:Q.at k v=true)(h0:0<=mo)(h3:mo<=3)(hl:(Q.B v).length<20)(hsb:sb.length<=1000) :
 Calls prog 9 #[.pointer (some ⟨b,0,none⟩),.int .i64 ((k:Int)+1),.int .i64 (v:Int),.int .i64 mo] W λe w'=>e=.returned (.tuple #[.int .i64 ((sb.length:Int)+1),.nilIface])/\PZ w w' b (Q.A5g v (((Q.B v).length:Int)+1,s0 ((k:Int)+1) mo)) A1y [] rt (sb++[((v:Int),((Q.B v).length:Int)+1)]):=by
 obtain⟨M,⟨o,P,h1,h2,hb⟩,hP,e1,e2,e3⟩:=hz;have ae:v<M.n:=by rw[hP.n];exact hv
 obtain⟨t,t1,t2⟩:=hP.tr v hv k hk hat;have hls:=hP.ls v hv;have ai:(M.nd v).sb.length=(Q.B v).length:=by rw[hP.sb v hv,Ξm]
 have ah:sF (M.nd v) ((k:Int)+1) mo=0:=by
  unfold sF;rw[if_neg (by simp[okT];omega),if_neg (by omega),if_neg,if_neg (by omega)];unfold Nd.at
  rw[show(((k:Int)+1)-1).toNat=k by omega,t1];simp
 have hI:=(hP.ok.nd v ae).1.si;refine(ξaF b v o P M ((k:Int)+1) mo W h1 ae ah hI (by omega) (by rw[e2];omega)).mono ?_;rintro e w' ⟨rfl,hd⟩;rw[e2];refine⟨rfl,_,Zt.next (M:=M) hb h2 hd,?_,e1,?_,e3⟩
 ·have:=ξcV hP hk hv hat h0 h3 hl (by omega);rw[hls]at this;exact this
 ·show M.sb++[((v:Int),(M.nd v).ls+1)]=_;rw[e2,hls]
theorem ξez{W0:World}(hQ:Q.Ok)(hz:PZ w W0 b Q h X rt sb)(hb0:Below W0.heap.size W0 W)(hk:k<8)(hon:Q.on k=true)(hrt:rt k=(Q.rt k:Int))(hi:h k (Q.rt k)<Q.mx k)(a:Option Addr)(c:Nat){p:Pk}(hp:Q.pk k (h k (Q.rt k))=p)(hA:Arg W a p.L.length p.L)(hno:a=none->p.L.length=0/\c=0)(ha:0<p.L.length->∀ad,a=some ad->ad.block<w.heap.size∨W0.heap.size<=ad.block) :
 Calls prog 12 #[.pointer (some ⟨b,0,none⟩),.int .i64 ((k:Int)+1),.agg #[.int .i64 p.s,.int .i64 p.t,.int .i64 p.l,.int .i64 p.q,.bool p.st,.slice a p.L.length c]] W λe w'=>e=.returned .nilIface/\PZ w w' b Q (upH h k (Q.rt k)) (X++Q.news k (Q.rt k) (h k (Q.rt k))) rt sb:=by
 obtain⟨M,⟨o,P,h1,h2,hb⟩,hP,e1,e2,e3⟩:=hz;have m1:=h1.grow hb0 ξ2;have m2:∀k,k<w.heap.size->(grow o W0 ξ2 k).n=0:=by
  intro k hk;rw[ξt (Ξn hk hb.size)];exact h2 k hk
 have m3:0<p.L.length->∀ad,a=some ad->(grow o W0 ξ2 ad.block).n=0:=by
  intro hm ad e;rcases ha hm ad e with q|q
  ·exact m2 _ q
  ·rw[ξg q]
 have hT:=hQ.tr k hk hon;have hr:Q.rt k<Q.n:=hT.rn;obtain⟨t,t1,t2⟩:=hP.tr (Q.rt k) hr k hk (A0r.A3c.2 ⟨hon,by rw[hT.A9r];omega⟩);have ae:=hQ.pk k hk _ hi;rw[hp]at ae;have C:=ξ4v b k (Q.rt k) (grow o W0 ξ2) P M t p.s p.t p.l p.q p.st a p.L.length c p.L W m1 hP.ok hk (by rw[e1];exact hrt) (by rw[hP.n];exact hr) t1 (by rw[t2.pa];exact hT.A28) hA hno m3 (Nat.le_trans (hP.few hQ) (by omega));rw[ae.f]at C;refine C.mono ?_;rintro e w' ⟨rfl,_,hd⟩;exact⟨rfl,_,Zt.next (M:=M) (hb.trans (hb0.mono hb.size)) m2 (hd rfl),hP.send hQ hk hon hi t1 hp.symm,e1,e2,e3⟩
theorem ξfY(hz:PZ w W b Q h X rt sb){A C:List (Int×Sb)}{x:Int×Sb}(hj:sb[j]?=some ((v:Int),x.1))(hv:v<Q.n)(hB:Q.B v=A++x::C)(hl:sb.length<=1000) :
 Calls prog 14 #[.pointer (some ⟨b,0,none⟩),.int .i64 ((j:Int)+1)] W λe w'=>∃a c o,e=.returned (.tuple #[.slice a (Q.sub h v x).2.got.length c,.nilIface])/\ξO w' o (.slice a (Q.sub h v x).2.got.length c) (Q.sub h v x).2.got/\Below w.heap.size w w':=by
 obtain⟨M,⟨o,P,h1,h2,hb⟩,hP,e1,e2,e3⟩:=hz;have ae:v<M.n:=by rw[hP.n];exact hv
 have hs:(M.nd v).sb=A.map (Q.sub h v)++(x.1,(Q.sub h v x).2)::C.map (Q.sub h v):=by
  rw[hP.sb v hv,hB,List.map_append,List.map_cons];rfl
 refine(ξ39 b j v x.1 o P M (Q.sub h v x).2 _ _ W h1 (by rw[e2];exact hj) ae hs (hP.ok.nd v ae).1.si (by rw[e2];omega)).mono ?_;rintro e w' ⟨a,c,rfl,o',P',g1,g2,g3,g4,g5⟩;exact⟨a,c,o',rfl,g2,ξ2v hb h2 g5⟩
end Go.Proofs.YtpiamlgmadnepaaGreat.MS
