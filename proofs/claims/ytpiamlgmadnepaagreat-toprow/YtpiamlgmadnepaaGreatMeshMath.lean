/-
 MeshT, MeshU, MeshV, MeshW, MeshY, MeshZ in one text.
-/
import Derived.Test.YtpiamlgmadnepaaGreatMeshEnd
set_option linter.unusedVariables false
namespace Go.Proofs.YtpiamlgmadnepaaGreat.MS
open Go.ChangeShapes Go.WideShapes Go.ChangeAt Go.RowKit Go.Maps Mem NO ND
theorem ξbY {T y:Int} {M:RM.Its} (h:RM.Inv 64 T M) (hy:T<y):RM.has M y=false:=by
 unfold RM.has;rw [List.any_eq_false];intro i hi;have:=(h.mem i hi).2.1
 simp
 omega
theorem ξcQ {T y:Int} {M:RM.Its} (h:RM.Inv 64 T M) (hy:T<y) (h0:0<=y) (h1:y<=1099511627776):RM.px 64 T y M 0=true:=by
 unfold RM.px;rw [RM.ξ3i h0 h1 rfl (by omega),ξbY h hy]
 rfl
def top (s h:Nat):Int:=if h=0 then -1 else 65535+(s:Int)+(h:Int)
theorem ξ5G (s h:Nat):top s (h+1)=65536+(s:Int)+(h:Int):=by
 unfold top;rw [if_neg (by omega)]
 omega
theorem ξdN (s h:Nat):top s h<65536+(s:Int)+(h:Int):=by
 unfold top;split<;>omega
theorem ξbw (s h:Nat):num (top s h) ((s+h:Nat):Int)=65536+(s:Int)+(h:Int):=by
 unfold top num;by_cases c:h=0
 ·subst c;rw [if_pos rfl,if_pos (by omega)]
  omega
 ·rw [if_neg c,if_neg (by omega)]
  unfold Ser.unw Ser.bey;split<;>omega
structure TrH (k:Nat) (p:List Int) (n v s h:Nat) (t:Tr):Prop where
 tk:t.tk=(k:Int)+1
 ep:t.ep=1
 pa:t.pa=TM.dg p v
 kids:t.kids=TM.kd p (v:Int) n
 gM:t.gM=[]
 gT:t.gT=top s h
 rT:t.rT=top s h
theorem TrH.start (k:Nat) (p:List Int) (n v s:Nat):TrH k p n v s 0 (trk k p n v):=⟨rfl,rfl,rfl,rfl,rfl,rfl,rfl⟩
theorem TrH.hear {k:Nat} {p:List Int} {n v s h:Nat} {t:Tr} {nw now:Int} (hT:TrH k p n v s h t) (hO:TrOk n nw k t) (h0:nw<=now) (h1:now<=1000000) (hb:s+h<=65535) (pk:RM.Pk) (hs:pk.s=((s+h:Nat):Int)) (wy:Int×Int) :
 num t.rT pk.s=65536+(s:Int)+(h:Int)/\GM.hB t.gn t.gT t.gM (num t.rT pk.s) now=true/\TrH k p n v s (h+1) ((t.heard (num t.rT pk.s) now).keep (num t.rT pk.s) pk wy):=by
 have e1:num t.rT pk.s=65536+(s:Int)+(h:Int):=by rw [hT.rT,hs];exact ξbw s h
 have hlt:=ξdN s h
 have hlo:GM.lo (top s h) (65536+(s:Int)+(h:Int))=0:=by
  unfold GM.lo top;by_cases c:h=0
  ·rw [if_pos c,if_pos (.inl rfl)]
  ·rw [if_neg c];split<;>omega
 have hf:GM.hf t.gn t.gT t.gM (65536+(s:Int)+(h:Int)) now=0:=by
  have htf:=ξ6s hO.gi.n1 (Int.le_trans hO.gn h0) h1
  unfold GM.hf;rw [hT.gT,hT.gM,hlo];rw [if_neg (by omega),if_neg (by omega),if_neg (by simp)]
 rw [e1];have hx:=ξcQ hO.ri (y:=65536+(s:Int)+(h:Int)) (by rw [hT.rT];exact hlt) (by omega) (by omega)
 refine ⟨rfl,?_,?_⟩
 ·unfold GM.hB GM.hx;rw [hf,hT.gT];simp [hlt]
 ·rw [Tr.keep_yes (t:=t.heard (65536+(s:Int)+(h:Int)) now) hx];refine ⟨hT.tk,hT.ep,hT.pa,hT.kids,?_,?_,?_⟩
  ·show GM.hL t.gn t.gT t.gM (65536+(s:Int)+(h:Int)) now=[]
   unfold GM.hL GM.hM;rw [if_pos hf,hT.gT,hT.gM,if_pos hlt,hlo];rfl
  ·show GM.hU t.gn t.gT t.gM (65536+(s:Int)+(h:Int)) now=_
   unfold GM.hU GM.hT;rw [if_pos hf,hT.gT,if_pos hlt,ξ5G]
  ·show RM.top t.rT (65536+(s:Int)+(h:Int))=_
   unfold RM.top;rw [hT.rT,if_pos hlt,ξ5G]
structure SbR (s h:Nat) (x:Sb):Prop where
 oM:x.oM=[]
 ox:x.ox=if h=0 then -1 else 65536+(s:Int)+(h:Int)
theorem SbR.start (s:Nat) (tk mo:Int):SbR s 0 (s0 tk mo):=⟨rfl,rfl⟩
def kpk (y now:Int) (p:Pk):OM.Kp:=⟨y,false,⟨p.s,p.t,p.l,p.q,p.st,p.L,.slice none 0 0⟩,now⟩
theorem ξdx {y now:Int} {p:Pk} (h0:0<=y):cnt [kpk y now p] (odF now [kpk y now p]) 200 y=1:=by
 have e0:odF now [kpk y now p]=-1:=by
  unfold odF;rw [if_neg]
  ·rfl
  ·rintro ⟨h,_⟩;simp [OM.late,kpk] at h
 rw [e0];have g1:OM.goes [kpk y now p] (-1) y=true:=by simp [OM.goes,OM.has,kpk]
 have g2:OM.goes [kpk y now p] (-1) (y+1)=false:=by
  simp [OM.goes,OM.has,kpk]
  omega
 rw [show (200:Nat)=198+1+1 from rfl,cnt,if_pos g1,cnt,if_neg (by rw [g2];simp)]
theorem SbR.push {s h:Nat} {x:Sb} {nw now:Int} (hR:SbR s h x) (hO:SbOk nw x) (h0:nw<=now) (h1:now<=1000000) (hb:s+h<=65535) (p:Pk) (hf:PM.fault p.s p.t p.l p.q p.L.length=0) :
 x.push (65536+(s:Int)+(h:Int)) now p=({ x with on:=now,ox:=65536+(s:Int)+(h:Int)+1,oM:=[] }:Sb).item (kpk (65536+(s:Int)+(h:Int)) now p)/\SbR s (h+1) (x.push (65536+(s:Int)+(h:Int)) now p):=by
 have htf:=ξ7Z hO.oi.c1 (Int.le_trans hO.on h0) h1
 obtain ⟨y,hy⟩:∃ y:Int,65536+(s:Int)+(h:Int)=y:=⟨_,rfl⟩;have hy0:0<=y:=by omega
 have hy1:y<=1099511627776:=by omega
 have hfx:OM.fx x.ox y=y:=by
  unfold OM.fx;rw [hR.ox];by_cases c:h=0
  ·rw [if_pos c,if_pos rfl]
  ·rw [if_neg c,if_neg (by omega)]
   omega
 have hfar:OM.far x.ox y=false:=by
  unfold OM.far;rw [hR.ox];by_cases c:h=0
  ·rw [if_pos c];simp
  ·rw [if_neg c,show y - (65536+(s:Int)+(h:Int))=0 by omega]
   simp
 have hpf:OM.pf x.on x.ox y now (PM.fault p.s p.t p.l p.q p.L.length)=0:=OM.ξ3i htf hy0 hy1 hf hfar
 have hpx:OM.px x.on x.ox y now x.oM (PM.fault p.s p.t p.l p.q p.L.length)=true:=by
  unfold OM.px OM.kx;rw [hpf,hfx,hR.oM];simp [OM.has]
 have e1:x.pushed y now p={ x with on:=now,ox:=y,oM:=[kpk y now p] }:=by
  unfold Sb.pushed OM.pW OM.pX OM.pM;rw [if_pos hpf,if_pos hpf,if_pos hpx,hfx,hR.oM];rfl
 have e2:(x.pushed y now p).popK now=1:=by
  rw [e1];exact ξdx hy0
 have e3:x.push y now p=({ x with on:=now,ox:=y+1,oM:=[] }:Sb).item (kpk y now p):=by
  unfold Sb.push Sb.popd;rw [e2,e1];have t1:OM.takes [kpk y now p] y 1=[kpk y now p]:=by
   simp [OM.takes,OM.itm,kpk,List.range_succ]
  have t2:OM.rest [kpk y now p] (y+1)=[]:=by
   simp [OM.rest,kpk]
   omega
  have t3:Order.qW now now=now:=by unfold Order.qW;split<;>rfl
  unfold Sb.pop Sb.popped;show ((OM.takes [kpk y now p] y 1).foldl Sb.item ({ x with on:=Order.qW now now,ox:=y+((1:Nat):Int),oM:=OM.rest [kpk y now p] (y+((1:Nat):Int)) }:Sb))=_
  rw [t1,show y+((1:Nat):Int)=y+1 from rfl,t2,t3];rfl
 rw [hy,e3];obtain ⟨i1,i2,i3,i4⟩:=ξ4f ({ x with on:=now,ox:=y+1,oM:=[] }:Sb) (kpk y now p);refine ⟨rfl,i3,?_⟩
 rw [i2,if_neg (by omega)]
 show y+1=_
 omega
def rowsN (x:Sb) (now:Int) (s:Nat) (S:Nat->Pk):Nat->Sb
 | 0=>x
 | h+1=>(rowsN x now s S h).push (65536+(s:Int)+(h:Int)) now (S h)
theorem ξ5S (x:Sb) (now:Int) (s:Nat) (S:Nat->Pk):∀ h,(rowsN x now s S h).tk=x.tk/\(rowsN x now s S h).mo=x.mo
 | 0=>⟨rfl,rfl⟩
 | h+1=>by
   have ih:=ξ5S x now s S h
   have e:=ξ4y (rowsN x now s S h) (65536+(s:Int)+(h:Int)) now (S h)
   exact ⟨e.1.trans ih.1,e.2.trans ih.2⟩
theorem ξ7j {P:List Int}:∀ (k:Nat) (x:Int),TM.anc P k x=-1->TM.wu P (k+1) x=TM.wu P k x
 | 0,x,h=>by
   have:x=-1:=h
   subst this;rfl
 | k+1,x,h=>by
   rw [TM.wu];by_cases c:x<0
   ·rw [if_pos c,TM.wu,if_pos c]
   ·rw [if_neg c,ξ7j k (TM.pa P x) h]
    conv=>rhs;rw [TM.wu,if_neg c]
def dp (p:List Int) (n v:Nat):Nat:=(TM.wu p n (v:Int)).length
theorem ξez (p:List Int) (n v:Nat):dp p n v<=n:=TM.ξeh p n (v:Int)
theorem Trees.anc {n r:Nat} {E:List TM.Ed} {p d:List Int} (h:Trees n r E p d) {v:Nat} (hv:v<n):TM.anc p n (v:Int)=-1:=by
 have:=h.ok.ends v (by rw [h.lenp];exact hv)
 rwa [h.lenp] at this
theorem Trees.dp_root {n r:Nat} {E:List TM.Ed} {p d:List Int} (h:Trees n r E p d) {v:Nat} (hv:v<n) (hp:TM.dg p v=-1):dp p n v=1:=by
 obtain ⟨m,e,e2,e3⟩:=TM.ξ7i (P:=p) (k:=n) (x:=(v:Int)) (by omega) (h.anc hv)
 unfold dp;rw [e2,TM.ξ2d,hp,TM.ξdJ];rfl
theorem Trees.dp_step {n r:Nat} {E:List TM.Ed} {p d:List Int} (h:Trees n r E p d) {v u:Nat} (hv:v<n) (hu:u<n) (hp:TM.dg p v=(u:Int)):dp p n v=dp p n u+1:=by
 obtain ⟨m,e,e2,e3⟩:=TM.ξ7i (P:=p) (k:=n) (x:=(v:Int)) (by omega) (h.anc hv)
 rw [TM.ξ2d,hp] at e2 e3;unfold dp;rw [e2,List.length_cons];have:=ξ7j m (u:Int) e3
 rw [<- e] at this;rw [this]
theorem Trees.root_pa {n r:Nat} {E:List TM.Ed} {p d:List Int} (h:Trees n r E p d):TM.dg p r=-1:=by
 rcases h.pa h.rn with e | ⟨k,e,h1,h2,h3,h4⟩
 ·exact e
 ·have:=h.dist.root h.rn
  omega
theorem Trees.root_d {n r:Nat} {E:List TM.Ed} {p d:List Int} (h:Trees n r E p d):TM.dg d r=0:=h.dist.root h.rn
theorem Trees.down {n r:Nat} {E:List TM.Ed} {p d:List Int} (h:Trees n r E p d) {v u:Nat} (hv:v<n) (hp:TM.dg p v=(u:Int)):0<=TM.dg d v/\v≠r/\u<n/\0<=TM.dg d u/\v≠u:=by
 obtain ⟨k,e,h1,h2,h3,h4,h5,h6⟩:=TM.ξ21 h.dist h.rn h.pars hv (by omega)
 have:k=u:=by omega
 subst this;exact ⟨h5,h6,h1,h4,fun e=>by subst e;omega⟩
structure Plan where
 n:Nat
 now:Int
 E:List TM.Ed
 on:Nat->Bool
 rt:Nat->Nat
 p:Nat->List Int
 d:Nat->List Int
 sq:Nat->Nat
 pk:Nat->Nat->Pk
 mx:Nat->Nat
 B:Nat->List (Int×Sb)
def Plan.at (Q:Plan) (k v:Nat):Bool:=Q.on k&&decide (0<=TM.dg (Q.d k) v)
theorem Plan.at_iff {Q:Plan} {k v:Nat}:Q.at k v=true↔Q.on k=true/\0<=TM.dg (Q.d k) v:=by
 unfold Plan.at
 simp
structure PkOk (s i:Nat) (p:Pk):Prop where
 num:p.s=((s+i:Nat):Int)
 lt:s+i<=65535
 f:PM.fault p.s p.t p.l p.q p.L.length=0
 b:∀ c∈p.L,c<256
structure Plan.Ok (Q:Plan):Prop where
 tr:∀ k,k<8->Q.on k=true->Trees Q.n (Q.rt k) Q.E (Q.p k) (Q.d k)
 pk:∀ k,k<8->∀ i,i<Q.mx k->PkOk (Q.sq k) i (Q.pk k i)
 mx:∀ k,Q.mx k<=1000
def pbyP (p:Pk):List Nat:=pby p.s p.t p.l p.q p.st p.L
def Plan.byt (Q:Plan) (k u i:Nat):List Nat:=fby ((k:Int)+1) (Q.rt k:Int) 1 (dp (Q.p k) Q.n u:Int) (pbyP (Q.pk k i))
structure Fy where
 k:Nat
 v:Nat
 i:Nat
def Plan.frm (Q:Plan) (x:Fy):Fl:=⟨TM.dg (Q.p x.k) x.v,(x.v:Int),Q.byt x.k (TM.dg (Q.p x.k) x.v).toNat x.i⟩
def Fy.is (k v:Nat) (x:Fy):Bool:=decide (x.k=k/\x.v=v)
def trk1 (tk:Int):Nat:=(tk - 1).toNat
def Plan.sub (Q:Plan) (h:Nat->Nat->Nat) (v:Nat) (x:Int×Sb):Int×Sb:=(x.1,rowsN x.2 Q.now (Q.sq (trk1 x.2.tk)) (Q.pk (trk1 x.2.tk)) (h (trk1 x.2.tk) v))
structure Pipe (Q:Plan) (h:Nat->Nat->Nat) (X:List Fy) (M:Ms):Prop where
 ok:MOk M
 n:M.n=Q.n
 nw:M.nw=Q.now
 tr:∀ v,v<Q.n->∀ k,k<8->Q.at k v=true->∃ t,(M.nd v).tr k=some t/\TrH k (Q.p k) Q.n v (Q.sq k) (h k v) t
 no:∀ v,v<Q.n->∀ k,k<8->Q.at k v=false->(M.nd v).tr k=none
 sb:∀ v,v<Q.n->(M.nd v).sb=(Q.B v).map (Q.sub h v)
 sr:∀ v,v<Q.n->∀ x∈Q.B v,SbR (Q.sq (trk1 x.2.tk)) (h (trk1 x.2.tk) v) (Q.sub h v x).2
 fl:M.fl=X.map Q.frm
 xs:∀ x∈X,x.k<8/\x.v<Q.n/\Q.on x.k=true/\0<=TM.dg (Q.p x.k) x.v
 fi:∀ k,k<8->Q.on k=true->∀ v,v<Q.n->∀ u:Nat,TM.dg (Q.p k) v=(u:Int)->h k v<=h k u/\(X.filter (Fy.is k v)).map Fy.i=List.range' (h k v) (h k u - h k v)
 le:∀ k,k<8->∀ v,h k v<=Q.mx k
 ls:∀ v,v<Q.n->(M.nd v).ls=((Q.B v).length:Int)
def upH (h:Nat->Nat->Nat) (k v:Nat):Nat->Nat->Nat:=fun k' v'=>if k'=k/\v'=v then h k v+1 else h k' v'
theorem ξ2b (h:Nat->Nat->Nat) (k v:Nat):upH h k v k v=h k v+1:=if_pos ⟨rfl,rfl⟩
theorem ξ1v (h:Nat->Nat->Nat) {k v k' v':Nat} (hn:¬ (k'=k/\v'=v)):upH h k v k' v'=h k' v':=if_neg hn
theorem ξ4P {N:Nd} {i:Nat} {t:Tr} {p:RM.Pk} {og hp now:Int} (hB:GM.hB t.gn t.gT t.gM (num t.rT p.s) now=true) (hF:FM.ffault t.tk og t.ep hp (pby p.s p.t p.l p.q p.st p.L)=0) :
 N.tookG i t p og hp now={ N with tr:=updR N.tr i ((t.heard (num t.rT p.s) now).keep (num t.rT p.s) p (og,hp)),lt:=N.lt++t.kids.map (fun c=>(c,fby t.tk og t.ep hp (pby p.s p.t p.l p.q p.st p.L))),sb:=selS t.tk (fun s=>s.push (num t.rT p.s) now (ppk p)) N.sb }:=by
 unfold Nd.tookG;rw [if_pos hB];unfold downs;rw [if_pos hF]
theorem ξ3N {Q:Plan} (hQ:Q.Ok) {k u i:Nat} (hk:k<8) (ho:Q.on k=true) (hi:i<Q.mx k):FM.ffault ((k:Int)+1) (Q.rt k:Int) 1 (dp (Q.p k) Q.n u:Int) (pbyP (Q.pk k i))=0:=by
 have hT:=hQ.tr k hk ho
 have h16:=hT.fit.hi
 have hr:=hT.rn
 have hd:=ξez (Q.p k) Q.n u
 unfold FM.ffault;rw [if_pos (by unfold FM.nums;omega)]
 exact ξ8i (hQ.pk k hk i hi).f
def Plan.news (Q:Plan) (k v i:Nat):List Fy:=((List.range Q.n).filter fun j=>decide (TM.dg (Q.p k) j=(v:Int))).map fun c=>⟨k,c,i⟩
theorem ξ6e (Q:Plan) (k v i:Nat):(Q.news k v i).map Q.frm=(TM.kd (Q.p k) (v:Int) Q.n).map fun c=>(⟨(v:Int),c,Q.byt k v i⟩:Fl):=by
 unfold Plan.news TM.kd;rw [List.map_map,List.map_map];refine List.map_congr_left ?_
 intro j hj;have hp:TM.dg (Q.p k) j=(v:Int):=by simpa using (List.mem_filter.1 hj).2
 show Q.frm ⟨k,j,i⟩=_
 unfold Plan.frm;simp only [hp,Int.toNat_natCast]
 rfl
theorem ξ3H {Q:Plan} {k v i:Nat} {x:Fy} (h:x∈Q.news k v i):x.k=k/\x.v<Q.n/\TM.dg (Q.p k) x.v=(v:Int)/\x.i=i:=by
 unfold Plan.news at h;obtain ⟨j,hj,rfl⟩:=List.mem_map.1 h;obtain ⟨h1,h2⟩:=List.mem_filter.1 hj;exact ⟨rfl,by simpa using h1,by simpa using h2,rfl⟩
theorem filter_one (n c:Nat) (q:Nat->Bool) (hc:c<n) (hq:q c=true):((List.range n).filter q).filter (fun j=>decide (j=c))=[c]:=by
 rw [List.filter_filter];have e:(fun a=>decide (a=c)&&q a)=fun a=>decide (a=c):=by
  funext a
  by_cases h:a=c
  ·subst h;simp [hq]
  ·simp [h]
 rw [e]
 induction n with
 | zero=>omega
 | succ n ih=>
   rw [List.range_succ,List.filter_append];by_cases h:c=n
   ·subst h;have:(List.range c).filter (fun a=>decide (a=c))=[]:=by
     rw [List.filter_eq_nil_iff];intro a ha;have:a<c:=by simpa using ha
     simp
     omega
    rw [this];simp
   ·rw [ih (by omega)]
    simp
    omega
theorem ξ6W (Q:Plan) (k v i k' v':Nat) (hv:v'<Q.n):((Q.news k v i).filter (Fy.is k' v')).map Fy.i=if k'=k/\TM.dg (Q.p k) v'=(v:Int) then [i] else []:=by
 by_cases c:k'=k/\TM.dg (Q.p k) v'=(v:Int)
 ·rw [if_pos c];obtain ⟨rfl,hp⟩:=c;unfold Plan.news;rw [List.filter_map];have e:(Fy.is k' v'∘fun c=>(⟨k',c,i⟩:Fy))=fun j=>decide (j=v'):=by
   funext j
   simp [Fy.is]
  rw [e,filter_one Q.n v' _ hv (by simpa using hp)]
  rfl
 ·rw [if_neg c];have:(Q.news k v i).filter (Fy.is k' v')=[]:=by
   rw [List.filter_eq_nil_iff];intro x hx;obtain ⟨h1,h2,h3,h4⟩:=ξ3H hx;simp only [Fy.is,decide_eq_true_eq]
   rintro ⟨rfl,rfl⟩;exact c ⟨h1,h1 ▸ h3⟩
  rw [this];rfl
theorem ξ7M {Q:Plan} {h:Nat->Nat->Nat} {A:List Fy} {k v:Nat} (hv:v<Q.n) (hT:∀ k,k<8->Q.on k=true->Trees Q.n (Q.rt k) Q.E (Q.p k) (Q.d k))
 (h1:∀ k',k'<8->Q.on k'=true->∀ v',v'<Q.n->¬ (k'=k/\v'=v)->∀ u:Nat,TM.dg (Q.p k') v'=(u:Int)->h k' v'<=h k' u/\(A.filter (Fy.is k' v')).map Fy.i=List.range' (h k' v') (h k' u - h k' v'))
 (h2:∀ u:Nat,TM.dg (Q.p k) v=(u:Int)->h k v+1<=h k u/\(A.filter (Fy.is k v)).map Fy.i=List.range' (h k v+1) (h k u - (h k v+1))) :
 ∀ k',k'<8->Q.on k'=true->∀ v',v'<Q.n->∀ u:Nat,TM.dg (Q.p k') v'=(u:Int)->upH h k v k' v'<=upH h k v k' u/\((A++Q.news k v (h k v)).filter (Fy.is k' v')).map Fy.i=List.range' (upH h k v k' v') (upH h k v k' u - upH h k v k' v'):=by
 intro k' hk' ho v' hv' u hu;obtain ⟨d1,d2,d3,d4,d5⟩:=(hT k' hk' ho).down hv' hu;rw [List.filter_append,List.map_append,ξ6W Q k v (h k v) k' v' hv'];by_cases c:k'=k/\v'=v
 ·obtain ⟨rfl,rfl⟩:=c;obtain ⟨g1,g2⟩:=h2 u hu;rw [ξ2b,ξ1v h (by omega),if_neg (by omega),g2,List.append_nil]
  exact ⟨g1,rfl⟩
 ·obtain ⟨g1,g2⟩:=h1 k' hk' ho v' hv' c u hu;rw [ξ1v h c];by_cases c2:k'=k/\u=v
  ·obtain ⟨rfl,rfl⟩:=c2;rw [ξ2b,if_pos ⟨rfl,hu⟩,g2];refine ⟨by omega,?_⟩
   rw [show h k' u+1 - h k' v'=(h k' u - h k' v')+1 by omega,List.range'_concat]
   congr 2
   omega
  ·rw [ξ1v h c2,if_neg (fun q=>c2 ⟨q.1,by have:=q.2;rw [<- q.1] at this;omega⟩),g2,List.append_nil]
   exact ⟨g1,rfl⟩
def nextsN (N:Nd) (k:Nat) (t:Tr) (p:RM.Pk) (wy:Int×Int) (now:Int):Nd:={ N with nw:=now,tr:=updR N.tr k ((t.heard (num t.rT p.s) now).keep (num t.rT p.s) p wy),lt:=[],sb:=selS t.tk (fun s=>s.push (num t.rT p.s) now (ppk p)) N.sb }
theorem ξbz (N:Nd) (k:Nat) (t:Tr) (p:RM.Pk) (wy:Int×Int) (now:Int):(nextsN N k t p wy now).sb=selS t.tk (fun s=>s.push (num t.rT p.s) now (ppk p)) N.sb:=rfl
theorem Pipe.step {Q:Plan} (hQ:Q.Ok) {h:Nat->Nat->Nat} {X:List Fy} {M:Ms} (hP:Pipe Q h X M) {k v:Nat} (hk:k<8) (hv:v<Q.n) (hat:Q.at k v=true) {t:Tr} (ht:(M.nd v).tr k=some t) (hi:h k v<Q.mx k) {p:RM.Pk} (hp:ppk p=Q.pk k (h k v)) {wy:Int×Int} {X2:List Fy} {M2:Ms}
 (e0:MOk M2) (e1:M2.n=M.n) (e2:M2.nw=M.nw) (e3:M2.nd=updN M.nd v (nextsN (M.nd v) k t p wy M.nw)) (e4:M2.fl=X2.map Q.frm)
 (hx:∀ x∈X2,x.k<8/\x.v<Q.n/\Q.on x.k=true/\0<=TM.dg (Q.p x.k) x.v)
 (hf:∀ k',k'<8->Q.on k'=true->∀ v',v'<Q.n->∀ u:Nat,TM.dg (Q.p k') v'=(u:Int)->upH h k v k' v'<=upH h k v k' u/\(X2.filter (Fy.is k' v')).map Fy.i=List.range' (upH h k v k' v') (upH h k v k' u - upH h k v k' v')):Pipe Q (upH h k v) X2 M2:=by
 have hvn:v<M.n:=by rw [hP.n];exact hv
 obtain ⟨kN,kL,kW,kI⟩:=hP.ok.nd v hvn;obtain ⟨t',ht',hH⟩:=hP.tr v hv k hk hat;rw [ht] at ht';cases ht'
 have hO:TrOk Q.n (M.nd v).nw k t:=by rw [<- hP.n];exact kN.tr k hk t ht
 have hpk:=hQ.pk k hk (h k v) hi
 rw [<- hp] at hpk;obtain ⟨n1,n2,n3⟩:=hH.hear hO kW hP.ok.nw.2 hpk.lt p hpk.num wy;refine ⟨e0,e1.trans hP.n,e2.trans hP.nw,?_,?_,?_,?_,e4,hx,hf,?_,?_⟩
 ·intro v' hv' k' hk' ha';obtain ⟨t',g1,g2⟩:=hP.tr v' hv' k' hk' ha';rw [e3];by_cases c:v'=v
  ·subst c;rw [ξg];by_cases c2:k'=k
   ·subst c2;rw [ξ2b];exact ⟨_,by show updR (M.nd v').tr k' _ k'=_;exact if_pos rfl,n3⟩
   ·rw [ξ1v h (fun q=>c2 q.1)]
    exact ⟨t',by show updR (M.nd v').tr k _ k'=_;rw [show updR (M.nd v').tr k _ k'=(M.nd v').tr k' from if_neg c2];exact g1,g2⟩
  ·rw [ξh _ _ c,ξ1v h (fun q=>c q.2)]
   exact ⟨t',g1,g2⟩
 ·intro v' hv' k' hk' ha';have g1:=hP.no v' hv' k' hk' ha'
  rw [e3];by_cases c:v'=v
  ·subst c;rw [ξg];by_cases c2:k'=k
   ·subst c2;rw [hat] at ha';cases ha'
   ·show updR (M.nd v').tr k _ k'=_
    rw [show updR (M.nd v').tr k _ k'=(M.nd v').tr k' from if_neg c2];exact g1
  ·rw [ξh _ _ c];exact g1
 ·intro v' hv';rw [e3];by_cases c:v'=v
  ·subst c;rw [ξg];rw [ξbz,hP.sb v' hv'];unfold selS;rw [List.map_map];refine List.map_congr_left ?_
   intro x hx;have htm:=ξ5S x.2 Q.now (Q.sq (trk1 x.2.tk)) (Q.pk (trk1 x.2.tk)) (h (trk1 x.2.tk) v')
   show (if (Q.sub h v' x).2.tk=t.tk then ((Q.sub h v' x).1,(Q.sub h v' x).2.push (num t.rT p.s) M.nw (ppk p)) else Q.sub h v' x)=Q.sub (upH h k v') v' x
   have e5:(Q.sub h v' x).2.tk=x.2.tk:=htm.1
   rw [e5,hH.tk];by_cases c2:x.2.tk=(k:Int)+1
   ·have c3:trk1 x.2.tk=k:=by unfold trk1;omega
    rw [if_pos c2];unfold Plan.sub;rw [c3,ξ2b,n1,hp,hP.nw];rfl
   ·rw [if_neg c2];obtain ⟨_,k',q1,q2,_⟩:=kN.sb (Q.sub h v' x) (by rw [hP.sb v' hv'];exact List.mem_map.2 ⟨x,hx,rfl⟩)
    rw [e5] at q2;unfold Plan.sub;rw [ξ1v h (fun q=>c2 (by have:=q.1;unfold trk1 at this;omega))]
  ·rw [ξh _ _ c,hP.sb v' hv'];refine List.map_congr_left ?_
   intro x hx;unfold Plan.sub;rw [ξ1v h (fun q=>c q.2)]
 ·intro v' hv' x hx;have g:=hP.sr v' hv' x hx
  have hm:Q.sub h v' x∈(M.nd v').sb:=by rw [hP.sb v' hv'];exact List.mem_map.2 ⟨x,hx,rfl⟩
  by_cases c:trk1 x.2.tk=k/\v'=v
  ·obtain ⟨c1,rfl⟩:=c;have gS:=(kN.sb _ hm).1
   unfold Plan.sub at g gS ⊢;rw [c1] at g gS ⊢;rw [ξ2b];have:=(g.push gS kW hP.ok.nw.2 hpk.lt (ppk p) hpk.f).2
   rw [hp,hP.nw] at this;exact this
  ·unfold Plan.sub at g ⊢;rw [ξ1v h c];exact g
 ·intro k' hk' v';by_cases c:k'=k/\v'=v
  ·obtain ⟨rfl,rfl⟩:=c;rw [ξ2b];omega
  ·rw [ξ1v h c];exact hP.le k' hk' v'
 ·intro v' hv';rw [e3,<- hP.ls v' hv'];by_cases c:v'=v
  ·subst c;rw [ξg];rfl
  ·rw [ξh _ _ c]
theorem ξ7X {α:Type} (f:Nat->α) (i:Nat) (x y:α):updN (updN f i x) i y=updN f i y:=by
 funext k
 by_cases c:k=i
 ·subst c;rw [ξg,ξg]
 ·rw [ξh _ _ c,ξh _ _ c,ξh _ _ c]
theorem ξ9T (M:Ms) (F:List Fl) (v:Nat) (N:Nd):({ M with fl:=F,nd:=updN M.nd v N }:Ms).out v={ M with fl:=F++outs v N.lt,nd:=updN M.nd v { N with lt:=[] } }:=by
 unfold Ms.out outs;simp only [ξg,ξ7X]
theorem Pipe.land {Q:Plan} (hQ:Q.Ok) {h:Nat->Nat->Nat} {X:List Fy} {x:Fy} {M:Ms} (hP:Pipe Q h (x::X) M) :
 ∃ m,Lands M (Q.frm x) m/\∀ bv,Pipe Q (upH h x.k x.v) (X++Q.news x.k x.v (h x.k x.v)) (M.land 0 (Q.frm x) m bv):=by
 obtain ⟨k,v,i⟩:=x;obtain ⟨hk,hv,hon,hpa⟩:=hP.xs _ (List.mem_cons_self ..);simp only at hk hv hon hpa ⊢
 have hT:=hQ.tr k hk hon
 obtain ⟨u,hu⟩:∃ u:Nat,TM.dg (Q.p k) v=(u:Int):=⟨(TM.dg (Q.p k) v).toNat,by omega⟩
 obtain ⟨d1,d2,d3,d4,d5⟩:=hT.down hv hu;obtain ⟨f1,f2⟩:=hP.fi k hk hon v hv u hu;have his:Fy.is k v ⟨k,v,i⟩=true:=by simp [Fy.is]
 rw [List.filter_cons_of_pos his,List.map_cons] at f2;obtain ⟨m,hm⟩:∃ m,h k u - h k v=m+1:=by
  cases e:h k u - h k v with
  | zero=>rw [e] at f2;simp at f2
  | succ m=>exact ⟨m,rfl⟩
 rw [hm,List.range'_succ] at f2;injection f2 with f3 f4
 have f3:i=h k v:=f3
 subst f3;have hi:h k v<Q.mx k:=by have:=hP.le k hk u;omega
 have hat:Q.at k v=true:=Plan.at_iff.2 ⟨hon,d1⟩
 obtain ⟨t,ht,hH⟩:=hP.tr v hv k hk hat;have hvn:v<M.n:=by rw [hP.n];exact hv
 obtain ⟨kN,kL,kW,kI⟩:=hP.ok.nd v hvn;have hpk:=hQ.pk k hk (h k v) hi
 have hdp:=hT.dp_step hv d3 hu
 have hkt:(((k:Int)+1) - 1).toNat=k:=by omega
 have hatt:(M.nd v).at ((k:Int)+1)=some t:=by unfold Nd.at;rw [hkt];exact ht
 obtain ⟨pk,hpe⟩:∃ pk,Q.pk k (h k v)=pk:=⟨_,rfl⟩;have hfrm:Q.frm ⟨k,v,h k v⟩=⟨(u:Int),(v:Int),Q.byt k u (h k v)⟩:=by
  unfold Plan.frm;simp only [hu,Int.toNat_natCast]
 rw [hfrm];have hL:Lands M ⟨(u:Int),(v:Int),Q.byt k u (h k v)⟩ (.fr ((k:Int)+1) (Q.rt k:Int) 1 (dp (Q.p k) Q.n u:Int) (Q.pk k (h k v))):=by
  refine ⟨?_,?_,rfl,⟨by omega,by omega,ξ3N hQ hk hon hi,hpk.f,hpk.b⟩,?_⟩
  ·show (0:Int)<=(v:Int);omega
  ·show (v:Int)<(M.n:Int);omega
  ·exact ⟨t,by show (M.nd (v:Int).toNat).at _=_;rw [Int.toNat_natCast];exact hatt⟩
 refine ⟨_,hL,fun bv=>?_⟩
 have hmok:=hP.ok.land (i:=0) hL bv
 have hO:TrOk Q.n (M.nd v).nw k t:=by rw [<- hP.n];exact kN.tr k hk t ht
 rw [hpe] at hpk hmok ⊢;obtain ⟨n1,n2,n3⟩:=hH.hear hO kW hP.ok.nw.2 hpk.lt (pk.lies bv) hpk.num ((Q.rt k:Int),(dp (Q.p k) Q.n u:Int)+1);have hF:FM.ffault t.tk (Q.rt k:Int) t.ep ((dp (Q.p k) Q.n u:Int)+1) (pby (pk.lies bv).s (pk.lies bv).t (pk.lies bv).l (pk.lies bv).q (pk.lies bv).st (pk.lies bv).L)=0:=by
  have:=ξ3N hQ (u:=v) hk hon hi
  rw [hpe,hdp] at this;rw [hH.tk,hH.ep];exact this
 have hr:hrF t (u:Int) 1=0:=by
  unfold hrF;rw [if_neg];rw [hH.pa,hu,hH.ep];omega
 have e:M.land 0 ⟨(u:Int),(v:Int),Q.byt k u (h k v)⟩ (.fr ((k:Int)+1) (Q.rt k:Int) 1 (dp (Q.p k) Q.n u:Int) pk) bv={ M with fl:=(X++Q.news k v (h k v)).map Q.frm,nd:=updN M.nd v (nextsN (M.nd v) k t (pk.lies bv) ((Q.rt k:Int),(dp (Q.p k) Q.n u:Int)+1) M.nw) }:=by
  unfold Ms.land;simp only [Int.toNat_natCast]
  rw [ξ2m hatt,if_pos hr,hkt,ξ4P n2 hF,ξ9T];have hfl:M.fl.eraseIdx 0=X.map Q.frm:=by rw [hP.fl];rfl
  rw [hfl,List.map_append,ξ6e];have hlt:outs v ((M.nd v).lt++t.kids.map fun c=>(c,fby t.tk (Q.rt k:Int) t.ep ((dp (Q.p k) Q.n u:Int)+1) (pby (pk.lies bv).s (pk.lies bv).t (pk.lies bv).l (pk.lies bv).q (pk.lies bv).st (pk.lies bv).L)))=(TM.kd (Q.p k) (v:Int) Q.n).map fun c=>(⟨(v:Int),c,Q.byt k v (h k v)⟩:Fl):=by
   unfold outs;rw [kL,List.nil_append,List.map_map,hH.kids,hH.tk,hH.ep];refine List.map_congr_left ?_
   intro c hc;show (⟨(v:Int),c,_⟩:Fl)=⟨(v:Int),c,_⟩
   congr 1
   unfold Plan.byt;rw [hdp,hpe];rfl
  show ({ M with fl:=X.map Q.frm++outs v ((M.nd v).lt++t.kids.map fun c=>(c,fby t.tk (Q.rt k:Int) t.ep ((dp (Q.p k) Q.n u:Int)+1) (pby (pk.lies bv).s (pk.lies bv).t (pk.lies bv).l (pk.lies bv).q (pk.lies bv).st (pk.lies bv).L))),nd:=_ }:Ms)=_
  rw [hlt];rfl
 rw [e] at hmok ⊢;refine hP.step hQ hk hv hat ht hi (p:=pk.lies bv) hpe.symm hmok rfl rfl rfl rfl ?_ ?_
 ·intro x hx;rcases List.mem_append.1 hx with hx | hx
  ·exact hP.xs x (List.mem_cons_of_mem _ hx)
  ·obtain ⟨g1,g2,g3,g4⟩:=ξ3H hx;rw [g1];exact ⟨hk,g2,hon,by rw [g3];omega⟩
 ·refine ξ7M hv hQ.tr ?_ ?_
  ·intro k' hk' ho' v' hv' hne u' hu';obtain ⟨q1,q2⟩:=hP.fi k' hk' ho' v' hv' u' hu';rw [List.filter_cons_of_neg (by simp [Fy.is];intro a b;exact hne ⟨a.symm,b.symm⟩)] at q2
   exact ⟨q1,q2⟩
  ·intro u' hu';have:u'=u:=by omega
   subst this;refine ⟨by omega,?_⟩
   rw [f4]
   congr 1
   omega
theorem Pipe.send {Q:Plan} (hQ:Q.Ok) {h:Nat->Nat->Nat} {X:List Fy} {M:Ms} (hP:Pipe Q h X M) {k:Nat} (hk:k<8) (hon:Q.on k=true) (hi:h k (Q.rt k)<Q.mx k) {t:Tr} (ht:(M.nd (Q.rt k)).tr k=some t) {p:RM.Pk} (hp:ppk p=Q.pk k (h k (Q.rt k))) :
 Pipe Q (upH h k (Q.rt k)) (X++Q.news k (Q.rt k) (h k (Q.rt k))) (M.send k (Q.rt k) t p):=by
 obtain ⟨v,hve⟩:∃ v,Q.rt k=v:=⟨_,rfl⟩;have hT:=hQ.tr k hk hon
 have hv:v<Q.n:=by rw [<- hve];exact hT.rn
 have hpv:TM.dg (Q.p k) v=-1:=by rw [<- hve];exact hT.root_pa
 have hd0:TM.dg (Q.d k) v=0:=by rw [<- hve];exact hT.root_d
 have hdp:dp (Q.p k) Q.n v=1:=hT.dp_root hv hpv
 rw [hve] at hi ht hp ⊢;have hat:Q.at k v=true:=Plan.at_iff.2 ⟨hon,by omega⟩
 obtain ⟨t',ht',hH⟩:=hP.tr v hv k hk hat;rw [ht] at ht';cases ht'
 have hvn:v<M.n:=by rw [hP.n];exact hv
 obtain ⟨kN,kL,kW,kI⟩:=hP.ok.nd v hvn;have hpk:=hQ.pk k hk (h k v) hi
 have hO:TrOk Q.n (M.nd v).nw k t:=by rw [<- hP.n];exact kN.tr k hk t ht
 have hmok:=hP.ok.send hk hvn ht (p:=p) (by rw [<- hp] at hpk;exact hpk.f)
 rw [<- hp] at hpk;obtain ⟨n1,n2,n3⟩:=hH.hear hO kW hP.ok.nw.2 hpk.lt p hpk.num ((v:Int),1);have hF:FM.ffault t.tk (v:Int) t.ep 1 (pby p.s p.t p.l p.q p.st p.L)=0:=by
  have:=ξ3N hQ (u:=v) hk hon hi
  rw [<- hp,hdp,hve] at this;rw [hH.tk,hH.ep];exact this
 have e:M.send k v t p={ M with fl:=(X++Q.news k v (h k v)).map Q.frm,nd:=updN M.nd v (nextsN (M.nd v) k t p ((v:Int),1) M.nw) }:=by
  unfold Ms.send;rw [kI,ξ4P n2 hF];have:=ξ9T M M.fl v ({ ({ M.nd v with nw:=M.nw }:Nd) with tr:=updR (M.nd v).tr k ((t.heard (num t.rT p.s) M.nw).keep (num t.rT p.s) p ((v:Int),1)),lt:=(M.nd v).lt++t.kids.map (fun c=>(c,fby t.tk (v:Int) t.ep 1 (pby p.s p.t p.l p.q p.st p.L))),sb:=selS t.tk (fun s=>s.push (num t.rT p.s) M.nw (ppk p)) (M.nd v).sb }:Nd)
  refine this.trans ?_
  rw [hP.fl,List.map_append,ξ6e];have hlt:outs v ((M.nd v).lt++t.kids.map fun c=>(c,fby t.tk (v:Int) t.ep 1 (pby p.s p.t p.l p.q p.st p.L)))=(TM.kd (Q.p k) (v:Int) Q.n).map fun c=>(⟨(v:Int),c,Q.byt k v (h k v)⟩:Fl):=by
   unfold outs;rw [kL,List.nil_append,List.map_map,hH.kids,hH.tk,hH.ep];refine List.map_congr_left ?_
   intro c hc;show (⟨(v:Int),c,_⟩:Fl)=⟨(v:Int),c,_⟩
   congr 1
   unfold Plan.byt;rw [hdp,<- hp,hve];rfl
  show ({ M with fl:=X.map Q.frm++outs v ((M.nd v).lt++t.kids.map fun c=>(c,fby t.tk (v:Int) t.ep 1 (pby p.s p.t p.l p.q p.st p.L))),nd:=_ }:Ms)=_
  rw [hlt];rfl
 rw [e] at hmok ⊢;refine hP.step hQ hk hv hat ht hi hp hmok rfl rfl rfl rfl ?_ ?_
 ·intro x hx;rcases List.mem_append.1 hx with hx | hx
  ·exact hP.xs x hx
  ·obtain ⟨g1,g2,g3,g4⟩:=ξ3H hx;rw [g1];exact ⟨hk,g2,hon,by rw [g3];omega⟩
 ·refine ξ7M hv hQ.tr ?_ ?_
  ·intro k' hk' ho' v' hv' hne u' hu';exact hP.fi k' hk' ho' v' hv' u' hu'
  ·intro u' hu';omega
def sumN (f:Nat->Nat):Nat->Nat
 | 0=>0
 | m+1=>sumN f m+f m
theorem ξ2s {f g:Nat->Nat}:∀ m,(∀ q,q<m->g q=f q)->sumN g m=sumN f m
 | 0,_=>rfl
 | m+1,h=>by rw [sumN,sumN,ξ2s m (fun q hq=>h q (by omega)),h m (by omega)]
theorem ξ5L {f g:Nat->Nat} {q0:Nat} (h0:g q0=f q0+1):∀ m,q0<m->(∀ q,q<m->q≠q0->g q=f q)->sumN g m=sumN f m+1
 | 0,h,_=>by omega
 | m+1,h,hq=>by
   by_cases c:q0=m
   ·subst c;rw [sumN,sumN,ξ2s q0 (fun q hq'=>hq q (by omega) (by omega)),h0]
    omega
   ·rw [sumN,sumN,ξ5L h0 m (by omega) (fun q hq'=>hq q (by omega)),hq m (by omega) (by omega)]
    omega
theorem ξ7n {f:Nat->Nat} {b:Nat}:∀ m,(∀ q,q<m->f q<=b)->sumN f m<=m*b
 | 0,_=>by simp [sumN]
 | m+1,h=>by
   rw [sumN,Nat.succ_mul];have:=ξ7n m (fun q hq=>h q (by omega))
   have:=h m (by omega)
   omega
theorem ξ7D:∀ X:List Fy,(∀ x∈X,x.k<8/\x.v<16)->X.length=sumN (fun q=>(X.filter (Fy.is (q / 16) (q%16))).length) 128
 | [],_=>by
   have:∀ m,sumN (fun _=>0) m=0:=fun m=>by induction m with
    | zero=>rfl
    | succ m ih=>rw [sumN,ih]
   exact ((ξ2s (f:=fun _=>0) 128 (fun q hq=>rfl)).trans (this 128)).symm
 | x::X,h=>by
   obtain ⟨h1,h2⟩:=h x (List.mem_cons_self ..);have ih:=ξ7D X (fun y hy=>h y (List.mem_cons_of_mem _ hy))
   rw [List.length_cons,ih];refine (ξ5L (q0:=x.k*16+x.v) ?_ 128 (by omega) ?_).symm
   ·have e1:(x.k*16+x.v) / 16=x.k:=by omega
    have e2:(x.k*16+x.v)%16=x.v:=by omega
    simp only [e1,e2]
    rw [List.filter_cons_of_pos (by simp [Fy.is]),List.length_cons]
   ·intro q hq hne;rw [List.filter_cons_of_neg];simp only [Fy.is,decide_eq_true_eq]
    rintro ⟨a,b⟩;omega
theorem Pipe.n16 {Q:Plan} {h:Nat->Nat->Nat} {X:List Fy} {M:Ms} (hP:Pipe Q h X M):Q.n<=16:=by rw [<- hP.n];exact hP.ok.n16
theorem Pipe.few {Q:Plan} (hQ:Q.Ok) {h:Nat->Nat->Nat} {X:List Fy} {M:Ms} (hP:Pipe Q h X M):M.fl.length<=128000:=by
 have h16:=hP.n16
 rw [hP.fl,List.length_map,ξ7D X (fun x hx=>⟨(hP.xs x hx).1,by have:=(hP.xs x hx).2.1;omega⟩)]
 have:∀ q,q<128->(X.filter (Fy.is (q / 16) (q%16))).length<=1000:=by
  intro q hq;cases e:X.filter (Fy.is (q / 16) (q%16)) with
  | nil=>simp
  | cons y Y=>
    have hy:y∈X.filter (Fy.is (q / 16) (q%16)):=by rw [e];exact List.mem_cons_self ..
    obtain ⟨y1,y2⟩:=List.mem_filter.1 hy;obtain ⟨a,b⟩:y.k=q / 16/\y.v=q%16:=by simpa [Fy.is] using y2
    obtain ⟨z1,z2,z3,z4⟩:=hP.xs y y1;obtain ⟨f1,f2⟩:=hP.fi y.k z1 z3 y.v z2 (TM.dg (Q.p y.k) y.v).toNat (by omega)
    rw [a,b] at f2;have:=congrArg List.length f2
    rw [List.length_map,List.length_range',e] at this;rw [this];have:=hP.le (q / 16) (by omega) (TM.dg (Q.p (q / 16)) (q%16)).toNat
    have:=hQ.mx (q / 16)
    omega
 exact ξ7n 128 this
theorem ξ5l {w W W':World} {o:Nat->Tg} (hb:Below w.heap.size w W) (ho:∀ k,k<w.heap.size->(o k).n=0) (hc:Chg o meshy W W'):Below w.heap.size w W':=by
 obtain ⟨bs,q1,q2,q3⟩:=hc;refine hb.trans ⟨q1.1,q1.2.1,q1.2.2.1,q1.2.2.2.1,fun k hk=>q1.2.2.2.2 k (Nat.lt_of_lt_of_le hk hb.size) (fun hm=>(q2 k hm).1 (ho k hk))⟩
theorem ξae {w W:World} {o o':Nat->Tg} (hb:Below w.heap.size w W) (ho:∀ k,k<w.heap.size->(o k).n=0) (hk:Keep W o o'):∀ k,k<w.heap.size->(o' k).n=0:=by
 intro k hl;rcases hk k (Nat.lt_of_lt_of_le hl hb.size) with e | ⟨_,e⟩
 ·rw [e];exact ho k hl
 ·rw [e]
def Zt (w W:World) (b:Nat) (M:Ms):Prop:=∃ o P,MAt W o b P M/\(∀ k,k<w.heap.size->(o k).n=0)/\Below w.heap.size w W
theorem Zt.made {w w1 W:World} {b:Nat} {M:Ms} (hb:Below w.heap.size w w1) (h:MMade w1 W (fun _=>ξ2) b M):Zt w W b M:=by
 obtain ⟨o,P,h1,h2,h3,_⟩:=h;refine ⟨o,P,h1,fun k hk=>?_,hb.trans (h3.mono hb.size)⟩
 rw [h2 k (Nat.lt_of_lt_of_le hk hb.size)]
theorem Zt.next {w W W':World} {b:Nat} {M M':Ms} {o:Nat->Tg} (hb:Below w.heap.size w W) (ho:∀ k,k<w.heap.size->(o k).n=0) (h:MDone W W' o b M'):Zt w W' b M':=by
 obtain ⟨o',P',h1,h2,h3⟩:=h;exact ⟨o',P',h1,ξae hb ho h2,ξ5l hb ho h3⟩
def zeroH:Nat->Nat->Nat:=fun _ _=>0
theorem ξ8h {Q:Plan} {E:List TM.Ed} (h1:1<=Q.n) (h16:Q.n<=16) (hn:Q.now=0) (ho:∀ k,Q.on k=false) (hB:∀ v,Q.B v=[]):Pipe Q zeroH [] (mesh0 Q.n E):=by
 refine ⟨ξbB h1 h16,rfl,hn.symm,?_,?_,?_,?_,rfl,by simp,?_,fun k _ v=>Nat.zero_le _,fun v _=>by rw [hB v];rfl⟩
 ·intro v hv k hk ha;have:=(Plan.at_iff.1 ha).1
  rw [ho k] at this;cases this
 ·intro v hv k hk ha;rfl
 ·intro v hv;rw [hB v];rfl
 ·intro v hv x hx;rw [hB v] at hx;cases hx
 ·intro k hk hon;rw [ho k] at hon;cases hon
def Plan.publish (Q:Plan) (k:Nat) (p d:List Int):Plan:={ Q with on:=fun j=>if j=k then true else Q.on j,p:=updN Q.p k p,d:=updN Q.d k d }
theorem ξ1d (Q:Plan) (k:Nat) (p d:List Int) {j:Nat} (h:j≠k):(Q.publish k p d).on j=Q.on j/\(Q.publish k p d).p j=Q.p j/\(Q.publish k p d).d j=Q.d j/\∀ v,(Q.publish k p d).at j v=Q.at j v:=by
 have e1:(Q.publish k p d).on j=Q.on j:=if_neg h
 have e2:(Q.publish k p d).p j=Q.p j:=ξh _ _ h
 have e3:(Q.publish k p d).d j=Q.d j:=ξh _ _ h
 exact ⟨e1,e2,e3,fun v=>by unfold Plan.at;rw [e1,e3]⟩
theorem ξ1e (Q:Plan) (k:Nat) (p d:List Int):(Q.publish k p d).on k=true/\(Q.publish k p d).p k=p/\(Q.publish k p d).d k=d:=⟨if_pos rfl,ξg _ _ _,ξg _ _ _⟩
theorem Plan.Ok.publish {Q:Plan} (hQ:Q.Ok) {k:Nat} {p d:List Int} (hT:Trees Q.n (Q.rt k) Q.E p d):(Q.publish k p d).Ok:=by
 refine ⟨?_,hQ.pk,hQ.mx⟩
 intro j hj ho;by_cases c:j=k
 ·subst c;rw [(ξ1e Q j p d).2.1,(ξ1e Q j p d).2.2];exact hT
 ·rw [(ξ1d Q k p d c).2.1,(ξ1d Q k p d c).2.2.1];exact hQ.tr j hj (by rw [<- (ξ1d Q k p d c).1];exact ho)
theorem ξ66 {Q:Plan} {M:Ms} (hP:Pipe Q zeroH [] M) {k:Nat} (hk:k<8) (hoff:Q.on k=false) {p d:List Int} (hT:Trees Q.n (Q.rt k) Q.E p d) (hE:M.E=Q.E):Pipe (Q.publish k p d) zeroH [] (M.publish k (Q.rt k) p d):=by
 have hT':Trees M.n (Q.rt k) M.E p d:=by rw [hP.n,hE];exact hT
 have hnd:∀ v,v<Q.n->(M.publish k (Q.rt k) p d).nd v=if 0<=TM.dg d v then ({ M.nd v with tr:=updR (M.nd v).tr k (trk k p M.n v) }:Nd) else M.nd v:=by
  intro v hv;show (if v<M.n/\0<=TM.dg d v then ({ M.nd v with tr:=updR (M.nd v).tr k (trk k p M.n v) }:Nd) else M.nd v)=_
  by_cases c:0<=TM.dg d v
  ·rw [if_pos ⟨by rw [hP.n];exact hv,c⟩,if_pos c]
  ·rw [if_neg (fun q=>c q.2),if_neg c]
 have hk0:∀ v,v<Q.n->(M.nd v).tr k=none:=fun v hv=>hP.no v hv k hk (by unfold Plan.at;rw [hoff];rfl)
 have hsb:∀ v,v<Q.n->((M.publish k (Q.rt k) p d).nd v).sb=(M.nd v).sb:=by
  intro v hv;rw [hnd v hv];split<;>rfl
 refine ⟨hP.ok.publish hT',hP.n,hP.nw,?_,?_,?_,?_,hP.fl,by simp,?_,fun k _ v=>Nat.zero_le _,fun v hv=>by rw [hnd v hv];split<;>exact hP.ls v hv⟩
 ·intro v hv j hj ha;rw [hnd v hv];by_cases c:j=k
  ·subst c;have hd:0<=TM.dg d v:=by have:=(Plan.at_iff.1 ha).2;rwa [(ξ1e Q j p d).2.2] at this
   rw [if_pos hd,(ξ1e Q j p d).2.1];refine ⟨trk j p M.n v,if_pos rfl,?_⟩
   rw [hP.n];exact TrH.start j p Q.n v (Q.sq j)
  ·rw [(ξ1d Q k p d c).2.2.2 v] at ha;rw [(ξ1d Q k p d c).2.1];obtain ⟨t,t1,t2⟩:=hP.tr v hv j hj ha;refine ⟨t,?_,t2⟩
   split
   ·show updR (M.nd v).tr k _ j=_
    rw [show updR (M.nd v).tr k (trk k p M.n v) j=(M.nd v).tr j from if_neg c];exact t1
   ·exact t1
 ·intro v hv j hj ha;rw [hnd v hv];by_cases c:j=k
  ·subst c;have hd:¬ 0<=TM.dg d v:=fun q=>by
    have:(Q.publish j p d).at j v=true:=Plan.at_iff.2 ⟨(ξ1e Q j p d).1,by rw [(ξ1e Q j p d).2.2];exact q⟩
    rw [ha] at this;cases this
   rw [if_neg hd];exact hk0 v hv
  ·rw [(ξ1d Q k p d c).2.2.2 v] at ha;split
   ·show updR (M.nd v).tr k _ j=_
    rw [show updR (M.nd v).tr k (trk k p M.n v) j=(M.nd v).tr j from if_neg c];exact hP.no v hv j hj ha
   ·exact hP.no v hv j hj ha
 ·intro v hv;rw [hsb v hv,hP.sb v hv];rfl
 ·intro v hv x hx;exact hP.sr v hv x hx
 ·intro j hj hon v hv u hu;exact ⟨Nat.le_refl _,rfl⟩
def Plan.addS (Q:Plan) (v:Nat) (x:Int×Sb):Plan:={ Q with B:=updN Q.B v (Q.B v++[x]) }
theorem Plan.Ok.addS {Q:Plan} (hQ:Q.Ok) (v:Nat) (x:Int×Sb):(Q.addS v x).Ok:=⟨hQ.tr,hQ.pk,hQ.mx⟩
theorem NdOk.subs {n:Nat} {N:Nd} (h:NdOk n N) {k:Nat} {mo:Int} (hk:k<8) (ht:(N.tr k).isSome=true) (h0:0<=mo) (h3:mo<=3) (hl:N.sb.length<20) (hls:N.ls<1000000):NdOk n (N.subs ((k:Int)+1) mo):=by
 refine ⟨h.nw,h.id,h.tr,?_,?_,h.pn,h.pl,h.pw,h.ak⟩
 ·have hs:=h.si
  refine ⟨?_,?_,?_,by have:=hs.ls0;show 0<=N.ls+1;omega,by show N.ls+1<=1000000;omega⟩
  ·show (ids (N.sb++[(N.ls+1,s0 ((k:Int)+1) mo)])).Pairwise _
   unfold ids;rw [List.map_append,List.pairwise_append];refine ⟨hs.ris,by simp,?_⟩
   intro a ha b hb;simp at hb
   subst hb;obtain ⟨y,hy,rfl⟩:=List.mem_map.1 ha;have:=hs.mem y hy
   omega
  ·intro x hx;rcases List.mem_append.1 hx with hx | hx
   ·have:=hs.mem x hx
    exact ⟨this.1,by show x.1<=N.ls+1;omega,this.2.2⟩
   ·rw [List.mem_singleton] at hx;subst hx;have:=hs.ls0
    exact ⟨by show 1<=N.ls+1;omega,Int.le_refl _,h0,h3⟩
  ·show (N.sb++[_]).length<=20
   rw [List.length_append];simp
   omega
 ·intro x hx;rcases List.mem_append.1 hx with hx | hx
  ·exact h.sb x hx
  ·rw [List.mem_singleton] at hx;subst hx;exact ⟨(SbOk.start _ _).mono h.nw.1,k,hk,rfl,ht⟩
theorem ξbq {Q:Plan} {M:Ms} (hP:Pipe Q zeroH [] M) {k v:Nat} (hk:k<8) (hv:v<Q.n) (hat:Q.at k v=true) {mo:Int} (h0:0<=mo) (h3:mo<=3) (hl:(Q.B v).length<20) (hls:(M.nd v).ls<1000000):Pipe (Q.addS v ((M.nd v).ls+1,s0 ((k:Int)+1) mo)) zeroH [] (M.sub v ((k:Int)+1) mo):=by
 have hsl:(M.nd v).sb.length=(Q.B v).length:=by rw [hP.sb v hv,List.length_map]
 obtain ⟨t,t1,t2⟩:=hP.tr v hv k hk hat;have hnd:∀ j,j≠v->(M.sub v ((k:Int)+1) mo).nd j=M.nd j:=fun j hj=>ξh _ _ hj
 have hnv:(M.sub v ((k:Int)+1) mo).nd v=(M.nd v).subs ((k:Int)+1) mo:=ξg _ _ _
 refine ⟨⟨hP.ok.n1,hP.ok.n16,hP.ok.nw,?_⟩,hP.n,hP.nw,?_,?_,?_,?_,hP.fl,by simp,?_,fun k _ v=>Nat.zero_le _,?_⟩
 ·intro j hj;obtain ⟨g1,g2,g3,g4⟩:=hP.ok.nd j hj;by_cases c:j=v
  ·subst c;rw [hnv];exact ⟨NdOk.subs g1 hk (by rw [t1];rfl) h0 h3 (by omega) hls,g2,g3,g4⟩
  ·rw [hnd j c];exact ⟨g1,g2,g3,g4⟩
 ·intro j hj k' hk' ha;obtain ⟨t',q1,q2⟩:=hP.tr j hj k' hk' ha;refine ⟨t',?_,q2⟩
  by_cases c:j=v
  ·subst c;rw [hnv];exact q1
  ·rw [hnd j c];exact q1
 ·intro j hj k' hk' ha;have q1:=hP.no j hj k' hk' ha
  by_cases c:j=v
  ·subst c;rw [hnv];exact q1
  ·rw [hnd j c];exact q1
 ·intro j hj;by_cases c:j=v
  ·subst c;rw [hnv];show (M.nd j).sb++[_]=(updN Q.B j _ j).map _
   rw [ξg,List.map_append,hP.sb j hj];rfl
  ·rw [hnd j c,hP.sb j hj];show _=(updN Q.B v _ j).map _
   rw [ξh _ _ c];rfl
 ·intro j hj x hx;have hx:x∈updN Q.B v (Q.B v++[((M.nd v).ls+1,s0 ((k:Int)+1) mo)]) j:=hx
  by_cases c:j=v
  ·subst c;rw [ξg] at hx;rcases List.mem_append.1 hx with hx | hx
   ·exact hP.sr j hj x hx
   ·rw [List.mem_singleton] at hx;subst hx;exact SbR.start _ _ _
  ·rw [ξh _ _ c] at hx;exact hP.sr j hj x hx
 ·intro j hj hon v hv u hu;exact ⟨Nat.le_refl _,rfl⟩
 ·intro j hj;by_cases c:j=v
  ·subst c;rw [hnv];show (M.nd j).ls+1=((updN Q.B j _ j).length:Int)
   rw [ξg,List.length_append,hP.ls j hj];simp
  ·rw [hnd j c,hP.ls j hj];show _=((updN Q.B v _ j).length:Int)
   rw [ξh _ _ c]
def PZ (w W:World) (b:Nat) (Q:Plan) (h:Nat->Nat->Nat) (X:List Fy) (rt:Nat->Int) (sb:List (Int×Int)):Prop:=∃ M,Zt w W b M/\Pipe Q h X M/\M.rt=rt/\M.sb=sb/\M.E=Q.E
theorem ξdX {w W:World} {Q:Plan} (hw:Below w.heap.size w W) (a:Option Addr) (n cap:Nat) (hA:Tree.EArg W a n Q.E) (hn0:a=none->n=0/\cap=0) (hnc:n<=cap) (hf:TM.ef (Q.n:Int) Q.E=0) (hnow:Q.now=0) (ho:∀ k,Q.on k=false) (hB:∀ v,Q.B v=[]) :
 Calls Tryz.prog 6 #[.int .i64 (Q.n:Int),.slice a n cap] W fun e w'=>∃ b,e=.returned (.tuple #[.pointer (some ⟨b,0,none⟩),.nilIface])/\PZ w w' b Q zeroH [] (fun _=>-1) []:=by
 obtain ⟨_,hfit⟩:=TM.ξ2n.1 hf;rw [Int.toNat_natCast] at hfit;refine (ξa0 (fun _=>ξ2) (fun k=>by show 0≠1000;omega) Q.n a n cap Q.E W hA hn0 hnc hf).mono ?_
 rintro e w' ⟨b,rfl,hm⟩;exact ⟨b,rfl,_,Zt.made hw hm,ξ8h hfit.lo hfit.hi hnow ho hB,rfl,rfl,rfl⟩
theorem ξ8e {w W:World} {b:Nat} {Q:Plan} {rt:Nat->Int} {sb:List (Int×Int)} (hz:PZ w W b Q zeroH [] rt sb) {k:Nat} (hk:k<8) (hoff:Q.on k=false) (hrt:rt k=-1) (hr:Q.rt k<Q.n) (hf:TM.ef (Q.n:Int) Q.E=0) :
 Calls Tryz.prog 8 #[.pointer (some ⟨b,0,none⟩),.int .i64 ((k:Int)+1),.int .i64 (Q.rt k:Int)] W fun e w'=>e=.returned .nilIface/\∃ p d,Trees Q.n (Q.rt k) Q.E p d/\PZ w w' b (Q.publish k p d) zeroH [] (updN rt k (Q.rt k:Int)) sb:=by
 obtain ⟨M,⟨o,P,h1,h2,h3⟩,hP,e1,e2,e3⟩:=hz;refine (ξ5r b k (Q.rt k) o P M W h1 hP.ok (by rw [hP.n,e3];exact hf) hk (by rw [hP.n];exact hr) (by rw [e1];exact hrt) (fun i hi=>hP.no i (by rw [<- hP.n];exact hi) k hk (by unfold Plan.at;rw [hoff];rfl))).mono ?_
 rintro e w' ⟨rfl,p,d,hT,hd⟩;rw [hP.n,e3] at hT;exact ⟨rfl,p,d,hT,_,Zt.next (M:=M) h3 h2 hd,ξ66 hP hk hoff hT e3,by rw [<- e1];rfl,e2,e3⟩
theorem ξdW {w W:World} {b:Nat} {Q:Plan} {rt:Nat->Int} {sb:List (Int×Int)} (hz:PZ w W b Q zeroH [] rt sb) {k v:Nat} (hk:k<8) (hv:v<Q.n) (hat:Q.at k v=true) {mo:Int} (h0:0<=mo) (h3:mo<=3) (hl:(Q.B v).length<20) (hsb:sb.length<=1000) :
 Calls Tryz.prog 9 #[.pointer (some ⟨b,0,none⟩),.int .i64 ((k:Int)+1),.int .i64 (v:Int),.int .i64 mo] W fun e w'=>e=.returned (.tuple #[.int .i64 ((sb.length:Int)+1),.nilIface])/\PZ w w' b (Q.addS v (((Q.B v).length:Int)+1,s0 ((k:Int)+1) mo)) zeroH [] rt (sb++[((v:Int),((Q.B v).length:Int)+1)]):=by
 obtain ⟨M,⟨o,P,h1,h2,hb⟩,hP,e1,e2,e3⟩:=hz;have hvn:v<M.n:=by rw [hP.n];exact hv
 obtain ⟨t,t1,t2⟩:=hP.tr v hv k hk hat;have hls:=hP.ls v hv
 have hsl:(M.nd v).sb.length=(Q.B v).length:=by rw [hP.sb v hv,List.length_map]
 have hsF:sF (M.nd v) ((k:Int)+1) mo=0:=by
  unfold sF;rw [if_neg (by simp [okT];omega),if_neg (by omega),if_neg,if_neg (by omega)]
  unfold Nd.at
  rw [show (((k:Int)+1) - 1).toNat=k by omega,t1]
  simp
 have hI:=(hP.ok.nd v hvn).1.si
 refine (ξ9j b v o P M ((k:Int)+1) mo W h1 hvn hsF hI (by omega) (by rw [e2];omega)).mono ?_
 rintro e w' ⟨rfl,hd⟩;rw [e2];refine ⟨rfl,_,Zt.next (M:=M) hb h2 hd,?_,e1,?_,e3⟩
 ·have:=ξbq hP hk hv hat h0 h3 hl (by omega)
  rw [hls] at this;exact this
 ·show M.sb++[((v:Int),(M.nd v).ls+1)]=_
  rw [e2,hls]
theorem ξcP {w W0 W:World} {b:Nat} {Q:Plan} (hQ:Q.Ok) {h:Nat->Nat->Nat} {X:List Fy} {rt:Nat->Int} {sb:List (Int×Int)} (hz:PZ w W0 b Q h X rt sb) (hb0:Below W0.heap.size W0 W) {k:Nat} (hk:k<8) (hon:Q.on k=true) (hrt:rt k=(Q.rt k:Int)) (hi:h k (Q.rt k)<Q.mx k) (a:Option Addr) (c:Nat) {p:Pk} (hp:Q.pk k (h k (Q.rt k))=p) (hA:Arg W a p.L.length p.L) (hno:a=none->p.L.length=0/\c=0) (ha:0<p.L.length->∀ ad,a=some ad->ad.block<w.heap.size∨W0.heap.size<=ad.block) :
 Calls Tryz.prog 12 #[.pointer (some ⟨b,0,none⟩),.int .i64 ((k:Int)+1),.agg #[.int .i64 p.s,.int .i64 p.t,.int .i64 p.l,.int .i64 p.q,.bool p.st,.slice a p.L.length c]] W fun e w'=>e=.returned .nilIface/\PZ w w' b Q (upH h k (Q.rt k)) (X++Q.news k (Q.rt k) (h k (Q.rt k))) rt sb:=by
 obtain ⟨M,⟨o,P,h1,h2,hb⟩,hP,e1,e2,e3⟩:=hz;have m1:=h1.grow hb0 ξ2
 have m2:∀ k,k<w.heap.size->(grow o W0 ξ2 k).n=0:=by
  intro k hk;rw [ξP (Nat.lt_of_lt_of_le hk hb.size)];exact h2 k hk
 have m3:0<p.L.length->∀ ad,a=some ad->(grow o W0 ξ2 ad.block).n=0:=by
  intro hm ad e;rcases ha hm ad e with q | q
  ·exact m2 _ q
  ·rw [ξe q]
 have hT:=hQ.tr k hk hon
 have hr:Q.rt k<Q.n:=hT.rn
 obtain ⟨t,t1,t2⟩:=hP.tr (Q.rt k) hr k hk (Plan.at_iff.2 ⟨hon,by rw [hT.root_d];omega⟩)
 have hpk:=hQ.pk k hk _ hi
 rw [hp] at hpk;have C:=ξ86 b k (Q.rt k) (grow o W0 ξ2) P M t p.s p.t p.l p.q p.st a p.L.length c p.L W m1 hP.ok hk (by rw [e1];exact hrt) (by rw [hP.n];exact hr) t1 (by rw [t2.pa];exact hT.root_pa) hA hno m3 (Nat.le_trans (hP.few hQ) (by omega))
 rw [hpk.f] at C;refine C.mono ?_
 rintro e w' ⟨rfl,_,hd⟩;exact ⟨rfl,_,Zt.next (M:=M) (hb.trans (hb0.mono hb.size)) m2 (hd rfl),hP.send hQ hk hon hi t1 hp.symm,e1,e2,e3⟩
theorem ξ9F {w W:World} {b:Nat} {Q:Plan} {h:Nat->Nat->Nat} {X:List Fy} {rt:Nat->Int} {sb:List (Int×Int)} (hz:PZ w W b Q h X rt sb) :
 Calls Tryz.prog 60 #[.pointer (some ⟨b,0,none⟩)] W fun e w'=>e=.returned (.int .i64 (X.length:Int))/\w'=W:=by
 obtain ⟨M,⟨o,P,h1,h2,hb⟩,hP,e1,e2,e3⟩:=hz;have:=ξ6z b o P M W h1
 rw [hP.fl,List.length_map] at this;exact this
theorem ξ7s {w W:World} {b:Nat} {Q:Plan} (hQ:Q.Ok) {h:Nat->Nat->Nat} {x:Fy} {X:List Fy} {rt:Nat->Int} {sb:List (Int×Int)} (hz:PZ w W b Q h (x::X) rt sb) :
 Calls Tryz.prog 41 #[.pointer (some ⟨b,0,none⟩),.int .i64 0] W fun e w'=>e=.returned .nilIface/\PZ w w' b Q (upH h x.k x.v) (X++Q.news x.k x.v (h x.k x.v)) rt sb:=by
 obtain ⟨M,⟨o,P,h1,h2,hb⟩,hP,e1,e2,e3⟩:=hz;obtain ⟨m,hL,hm⟩:=hP.land hQ;refine (ξ8A b o P M 0 (Q.frm x) m W h1 hP.ok (by rw [hP.fl];rfl) hL (Nat.le_trans (hP.few hQ) (by omega))).mono ?_
 rintro e w' ⟨rfl,bv,hd⟩;exact ⟨rfl,_,Zt.next (M:=M) hb h2 hd,hm bv,e1,e2,e3⟩
theorem ξdY {w W:World} {b:Nat} {Q:Plan} {h:Nat->Nat->Nat} {X:List Fy} {rt:Nat->Int} {sb:List (Int×Int)} (hz:PZ w W b Q h X rt sb) {j v:Nat} {A C:List (Int×Sb)} {x:Int×Sb} (hj:sb[j]?=some ((v:Int),x.1)) (hv:v<Q.n) (hB:Q.B v=A++x::C) (hl:sb.length<=1000) :
 Calls Tryz.prog 14 #[.pointer (some ⟨b,0,none⟩),.int .i64 ((j:Int)+1)] W fun e w'=>∃ a c o,e=.returned (.tuple #[.slice a (Q.sub h v x).2.got.length c,.nilIface])/\ξH w' o (.slice a (Q.sub h v x).2.got.length c) (Q.sub h v x).2.got/\Below w.heap.size w w':=by
 obtain ⟨M,⟨o,P,h1,h2,hb⟩,hP,e1,e2,e3⟩:=hz;have hvn:v<M.n:=by rw [hP.n];exact hv
 have hs:(M.nd v).sb=A.map (Q.sub h v)++(x.1,(Q.sub h v x).2)::C.map (Q.sub h v):=by
  rw [hP.sb v hv,hB,List.map_append,List.map_cons];rfl
 refine (ξ8K b j v x.1 o P M (Q.sub h v x).2 _ _ W h1 (by rw [e2];exact hj) hvn hs (hP.ok.nd v hvn).1.si (by rw [e2];omega)).mono ?_
 rintro e w' ⟨a,c,rfl,o',P',g1,g2,g3,g4,g5⟩;exact ⟨a,c,o',rfl,g2,ξ5l hb h2 g5⟩
end Go.Proofs.YtpiamlgmadnepaaGreat.MS
