/-
 MeshT, MeshU, MeshV, MeshW, MeshX, MeshY, MeshZ in one text.
-/
import Derived.Test.YtpiamlgmadnepaaGreatMeshEnd
set_option linter.unusedVariables false
namespace Go.Proofs.YtpiamlgmadnepaaGreat.MS
open Go.ChangeShapes Go.WideShapes Go.ChangeAt Go.RowKit Go.Maps Mem NO ND
def top (s h:Nat):Int:=if h=0 then -1 else 65535+(s:Int)+(h:Int)
structure TrH (k:Nat) (p:List Int) (n v s h:Nat) (t:Tr):Prop where
 tk:t.tk=(k:Int)+1
 ep:t.ep=1
 pa:t.pa=TM.dg p v
 kids:t.kids=TM.kd p (v:Int) n
 gM:t.gM=[]
 gT:t.gT=top s h
 rT:t.rT=top s h
theorem TrH.start (k:Nat) (p:List Int) (n v s:Nat):TrH k p n v s 0 (trk k p n v):=⟨rfl,rfl,rfl,rfl,rfl,rfl,rfl⟩
structure SbR (s h:Nat) (x:Sb):Prop where
 oM:x.oM=[]
 ox:x.ox=if h=0 then -1 else 65536+(s:Int)+(h:Int)
theorem SbR.start (s:Nat) (tk mo:Int):SbR s 0 (s0 tk mo):=⟨rfl,rfl⟩
def kpk (y now:Int) (p:Pk):OM.Kp:=⟨y,false,⟨p.s,p.t,p.l,p.q,p.st,p.L,.slice none 0 0⟩,now⟩
def rowsN (x:Sb) (now:Int) (s:Nat) (S:Nat->Pk):Nat->Sb
 | 0=>x
 | h+1=>(rowsN x now s S h).push (65536+(s:Int)+(h:Int)) now (S h)
theorem ξ7L {P:List Int}:∀ (k:Nat) (x:Int),TM.anc P k x=-1->TM.wu P (k+1) x=TM.wu P k x
 | 0,x,h=>by
   have:x=-1:=h
   subst this;rfl
 | k+1,x,h=>by
   rw [TM.wu];by_cases c:x<0
   ·rw [if_pos c,TM.wu,if_pos c]
   ·rw [if_neg c,ξ7L k (TM.pa P x) h]
    conv=>rhs;rw [TM.wu,if_neg c]
def dp (p:List Int) (n v:Nat):Nat:=(TM.wu p n (v:Int)).length
theorem ξfv (p:List Int) (n v:Nat):dp p n v<=n:=TM.ξfi p n (v:Int)
theorem Trees.anc {n r:Nat} {E:List TM.Ed} {p d:List Int} (h:Trees n r E p d) {v:Nat} (hv:v<n):TM.anc p n (v:Int)=-1:=by
 have:=h.ok.ends v (by rw [h.lenp];exact hv)
 rwa [h.lenp] at this
theorem Trees.dp_root {n r:Nat} {E:List TM.Ed} {p d:List Int} (h:Trees n r E p d) {v:Nat} (hv:v<n) (hp:TM.dg p v=-1):dp p n v=1:=by
 obtain ⟨m,e,e2,e3⟩:=TM.ξ7K (P:=p) (k:=n) (x:=(v:Int)) (by omega) (h.anc hv)
 unfold dp;rw [e2,TM.ξ2y,hp,TM.ξeH];rfl
theorem Trees.dp_step {n r:Nat} {E:List TM.Ed} {p d:List Int} (h:Trees n r E p d) {v u:Nat} (hv:v<n) (hu:u<n) (hp:TM.dg p v=(u:Int)):dp p n v=dp p n u+1:=by
 obtain ⟨m,e,e2,e3⟩:=TM.ξ7K (P:=p) (k:=n) (x:=(v:Int)) (by omega) (h.anc hv)
 rw [TM.ξ2y,hp] at e2 e3;unfold dp;rw [e2,List.length_cons];have:=ξ7L m (u:Int) e3
 rw [<- e] at this;rw [this]
theorem Trees.root_pa {n r:Nat} {E:List TM.Ed} {p d:List Int} (h:Trees n r E p d):TM.dg p r=-1:=by
 rcases h.pa h.rn with e | ⟨k,e,h1,h2,h3,h4⟩
 ·exact e
 ·have:=h.dist.root h.rn
  omega
theorem Trees.up {n r:Nat} {E:List TM.Ed} {p d:List Int} (h:Trees n r E p d) {v:Nat} (hv:v<n) (hd:0<=TM.dg d v) (hne:v≠r):∃ u:Nat,TM.dg p v=(u:Int)/\u<n/\0<=TM.dg d u/\u≠v:=by
 have:=TM.ξcl h.dist h.pars hv hd hne
 rcases h.pa hv with e | ⟨k,e,h1,h2,h3,h4⟩
 ·omega
 ·exact ⟨k,e,h1,h4,h2⟩
theorem Trees.down {n r:Nat} {E:List TM.Ed} {p d:List Int} (h:Trees n r E p d) {v u:Nat} (hv:v<n) (hp:TM.dg p v=(u:Int)):0<=TM.dg d v/\v≠r/\u<n/\0<=TM.dg d u/\v≠u:=by
 obtain ⟨k,e,h1,h2,h3,h4,h5,h6⟩:=TM.ξ2i h.dist h.rn h.pars hv (by omega)
 have:k=u:=by omega
 subst this;exact ⟨h5,h6,h1,h4,fun e=>by subst e;omega⟩
structure Plan where
 n:Nat
 now:Int
 E:List TM.Ed
 on:Nat->Bool
 rt:Nat->Nat
 p:Nat->List Int
 d:Nat->List Int
 sq:Nat->Nat
 pk:Nat->Nat->Pk
 mx:Nat->Nat
 B:Nat->List (Int×Sb)
def Plan.at (Q:Plan) (k v:Nat):Bool:=Q.on k&&decide (0<=TM.dg (Q.d k) v)
theorem Plan.at_iff {Q:Plan} {k v:Nat}:Q.at k v=true↔Q.on k=true/\0<=TM.dg (Q.d k) v:=by
 unfold Plan.at
 simp
structure PkOk (s i:Nat) (p:Pk):Prop where
 num:p.s=((s+i:Nat):Int)
 lt:s+i<=65535
 f:PM.fault p.s p.t p.l p.q p.L.length=0
 b:∀ c∈p.L,c<256
structure Plan.Ok (Q:Plan):Prop where
 tr:∀ k,k<8->Q.on k=true->Trees Q.n (Q.rt k) Q.E (Q.p k) (Q.d k)
 pk:∀ k,k<8->∀ i,i<Q.mx k->PkOk (Q.sq k) i (Q.pk k i)
 mx:∀ k,Q.mx k<=1000
def pbyP (p:Pk):List Nat:=pby p.s p.t p.l p.q p.st p.L
def Plan.byt (Q:Plan) (k u i:Nat):List Nat:=fby ((k:Int)+1) (Q.rt k:Int) 1 (dp (Q.p k) Q.n u:Int) (pbyP (Q.pk k i))
structure Fy where
 k:Nat
 v:Nat
 i:Nat
def Plan.frm (Q:Plan) (x:Fy):Fl:=⟨TM.dg (Q.p x.k) x.v,(x.v:Int),Q.byt x.k (TM.dg (Q.p x.k) x.v).toNat x.i⟩
def Fy.is (k v:Nat) (x:Fy):Bool:=decide (x.k=k/\x.v=v)
def trk1 (tk:Int):Nat:=(tk - 1).toNat
def Plan.sub (Q:Plan) (h:Nat->Nat->Nat) (v:Nat) (x:Int×Sb):Int×Sb:=(x.1,rowsN x.2 Q.now (Q.sq (trk1 x.2.tk)) (Q.pk (trk1 x.2.tk)) (h (trk1 x.2.tk) v))
structure Pipe (Q:Plan) (h:Nat->Nat->Nat) (X:List Fy) (M:Ms):Prop where
 ok:MOk M
 n:M.n=Q.n
 nw:M.nw=Q.now
 tr:∀ v,v<Q.n->∀ k,k<8->Q.at k v=true->∃ t,(M.nd v).tr k=some t/\TrH k (Q.p k) Q.n v (Q.sq k) (h k v) t
 no:∀ v,v<Q.n->∀ k,k<8->Q.at k v=false->(M.nd v).tr k=none
 sb:∀ v,v<Q.n->(M.nd v).sb=(Q.B v).map (Q.sub h v)
 sr:∀ v,v<Q.n->∀ x∈Q.B v,SbR (Q.sq (trk1 x.2.tk)) (h (trk1 x.2.tk) v) (Q.sub h v x).2
 fl:M.fl=X.map Q.frm
 xs:∀ x∈X,x.k<8/\x.v<Q.n/\Q.on x.k=true/\0<=TM.dg (Q.p x.k) x.v
 fi:∀ k,k<8->Q.on k=true->∀ v,v<Q.n->∀ u:Nat,TM.dg (Q.p k) v=(u:Int)->h k v<=h k u/\(X.filter (Fy.is k v)).map Fy.i=List.range' (h k v) (h k u - h k v)
 le:∀ k,k<8->∀ v,h k v<=Q.mx k
 ls:∀ v,v<Q.n->(M.nd v).ls=((Q.B v).length:Int)
def upH (h:Nat->Nat->Nat) (k v:Nat):Nat->Nat->Nat:=fun k' v'=>if k'=k/\v'=v then h k v+1 else h k' v'
theorem ξ9R {N:Nd} {i:Nat} {t:Tr} {p:RM.Pk} {og hp now:Int} (hB:GM.hB t.gn t.gT t.gM (num t.rT p.s) now=true) (hF:FM.ffault t.tk og t.ep hp (pby p.s p.t p.l p.q p.st p.L)=0) :
 N.tookG i t p og hp now={ N with tr:=updR N.tr i ((t.heard (num t.rT p.s) now).keep (num t.rT p.s) p (og,hp)),lt:=N.lt++t.kids.map (fun c=>(c,fby t.tk og t.ep hp (pby p.s p.t p.l p.q p.st p.L))),sb:=selS t.tk (fun s=>s.push (num t.rT p.s) now (ppk p)) N.sb }:=by
 unfold Nd.tookG;rw [if_pos hB];unfold downs;rw [if_pos hF]
theorem ξcU {Q:Plan} (hQ:Q.Ok) {k u i:Nat} (hk:k<8) (ho:Q.on k=true) (hi:i<Q.mx k):FM.ffault ((k:Int)+1) (Q.rt k:Int) 1 (dp (Q.p k) Q.n u:Int) (pbyP (Q.pk k i))=0:=by
 have hT:=hQ.tr k hk ho
 have h16:=hT.fit.hi
 have hr:=hT.rn
 have hd:=ξfv (Q.p k) Q.n u
 unfold FM.ffault;rw [if_pos (by unfold FM.nums;omega)]
 exact ξ8S (hQ.pk k hk i hi).f
theorem ξ8w {α:Type} (f:Nat->α) (i:Nat) (x y:α):updN (updN f i x) i y=updN f i y:=by
 funext k
 by_cases c:k=i
 ·subst c;rw [ξ9,ξ9]
 ·rw [ξf _ _ c,ξf _ _ c,ξf _ _ c]
theorem ξ6B (M:Ms) (F:List Fl) (v:Nat) (N:Nd):({ M with fl:=F,nd:=updN M.nd v N }:Ms).out v={ M with fl:=F++outs v N.lt,nd:=updN M.nd v { N with lt:=[] } }:=by
 unfold Ms.out outs;simp only [ξ9,ξ8w]
def sumN (f:Nat->Nat):Nat->Nat
 | 0=>0
 | m+1=>sumN f m+f m
theorem ξ4g {f g:Nat->Nat}:∀ m,(∀ q,q<m->g q=f q)->sumN g m=sumN f m
 | 0,_=>rfl
 | m+1,h=>by rw [sumN,sumN,ξ4g m (fun q hq=>h q (by omega)),h m (by omega)]
theorem ξ3Y {f g:Nat->Nat} {q0:Nat} (h0:g q0=f q0+1):∀ m,q0<m->(∀ q,q<m->q≠q0->g q=f q)->sumN g m=sumN f m+1
 | 0,h,_=>by omega
 | m+1,h,hq=>by
   by_cases c:q0=m
   ·subst c;rw [sumN,sumN,ξ4g q0 (fun q hq'=>hq q (by omega) (by omega)),h0]
    omega
   ·rw [sumN,sumN,ξ3Y h0 m (by omega) (fun q hq'=>hq q (by omega)),hq m (by omega) (by omega)]
    omega
theorem ξ4Q {f:Nat->Nat} {b:Nat}:∀ m,(∀ q,q<m->f q<=b)->sumN f m<=m*b
 | 0,_=>by simp [sumN]
 | m+1,h=>by
   rw [sumN,Nat.succ_mul];have:=ξ4Q m (fun q hq=>h q (by omega))
   have:=h m (by omega)
   omega
def left (Q:Plan) (h:Nat->Nat->Nat):Nat:=sumN (fun q=>Q.mx (q / 16) - h (q / 16) (q%16)) 128
def stillT (now:Int) (t:Tr):Tr:=if t.pa=-1 then t else { t with gn:=now,gM:=[],gG:=[] }
def stillS (now:Int) (s:Sb):Sb:={ s with on:=Order.qW s.on now }
def stillF (now:Int) (f:Nat->Option Tr) (j:Nat):Nat->Option Tr:=fun k=>if k<j then (f k).map (stillT now) else f k
def stillN (N:Nd) (now:Int):Nd:={ N with nw:=now,tr:=stillF now N.tr 8,sb:=N.sb.map fun x=>(x.1,stillS now x.2) }
structure Lacks0 (N:Nd):Prop where
 gm:∀ k,k<8->∀ t,N.tr k=some t->t.gM=[]
 om:∀ x∈N.sb,x.2.oM=[]/\-1<=x.2.ox
theorem ξbz {N:Nd} {now:Int} {j:Nat} (h:∀ t,N.tr j=some t->t.gM=[]):N.askG j now={ N with tr:=fun k=>if k=j then (N.tr j).map (stillT now) else N.tr k }:=by
 unfold Nd.askG;cases ht:N.tr j with
 | none=>
   have e:(fun k=>if k=j then (none:Option Tr).map (stillT now) else N.tr k)=N.tr:=by
    funext k
    by_cases c:k=j
    ·subst c;rw [if_pos rfl,ht];rfl
    ·rw [if_neg c]
   rw [e]
 | some t=>
   have hg:=h t ht
   simp only
   by_cases c:t.pa=-1
   ·rw [if_pos c];have e:(fun k=>if k=j then (some t).map (stillT now) else N.tr k)=N.tr:=by
     funext k
     by_cases c2:k=j
     ·subst c2;rw [if_pos rfl,ht];show some (stillT now t)=_
      unfold stillT;rw [if_pos c]
     ·rw [if_neg c2]
    rw [e]
   ·rw [if_neg c,hg];have e1:GM.gaveL 3 3 now []=[]:=rfl
    have e2:GM.dueL 3 3 now []=[]:=rfl
    have e3:GM.dM 3 3 now []=[]:=rfl
    rw [e1,e2,e3,if_pos rfl,Ξu];have e4:selS t.tk (fun s=>List.foldl (fun s y=>s.gone y now) s []) N.sb=N.sb:=ξ4S t.tk N.sb
    rw [e4];have e5:updR N.tr j { t with gn:=now,gM:=[],gG:=[] }=fun k=>if k=j then (some t).map (stillT now) else N.tr k:=by
     funext k
     by_cases c2:k=j
     ·subst c2;rw [if_pos rfl];show (if k=k then some _ else _)=some (stillT now t)
      rw [if_pos rfl];unfold stillT;rw [if_neg c]
     ·rw [if_neg c2];exact if_neg c2
    rw [e5]
theorem ξ4K {N:Nd} {now:Int} (h:∀ k,k<8->∀ t,N.tr k=some t->t.gM=[]):∀ j,j<=8->N.asksG now j={ N with tr:=stillF now N.tr j }
 | 0,_=>by
   have e:stillF now N.tr 0=N.tr:=by
    funext k
    exact if_neg (Nat.not_lt_zero k)
   rw [e];rfl
 | j+1,hj=>by
   show (N.asksG now j).askG j now=_
   rw [ξ4K h j (by omega)]
   have e0:stillF now N.tr j j=N.tr j:=if_neg (Nat.lt_irrefl j)
   rw [ξbz (N:={ N with tr:=stillF now N.tr j }) (by intro t ht;exact h j (by omega) t (by rw [<- e0];exact ht))]
   have e:(fun k=>if k=j then (stillF now N.tr j j).map (stillT now) else stillF now N.tr j k)=stillF now N.tr (j+1):=by
    funext k
    by_cases c:k=j
    ·subst c;rw [if_pos rfl,e0];exact (if_pos (Nat.lt_succ_self k)).symm
    ·rw [if_neg c];unfold stillF;by_cases c2:k<j
     ·rw [if_pos c2,if_pos (by omega)]
     ·rw [if_neg c2,if_neg (by omega)]
   show ({ N with tr:=fun k=>if k=j then (stillF now N.tr j j).map (stillT now) else stillF now N.tr j k }:Nd)=_
   rw [e]
theorem ξal {s:Sb} {now:Int} (h:s.oM=[]) (hx:-1<=s.ox):s.popd now=stillS now s:=by
 have e0:s.popK now=0:=by
  unfold Sb.popK;rw [h];have g:OM.goes [] (odF now []) s.ox=false:=by
   show (false||decide (s.ox < -1))=false
   simp
   omega
  rw [show (200:Nat)=199+1 from rfl,cnt,if_neg (by rw [g];simp)]
 unfold Sb.popd;rw [e0];unfold Sb.pop Sb.popped stillS;rw [h];show (({ s with on:=Order.qW s.on now,ox:=s.ox+((0:Nat):Int),oM:=[] }:Sb))=_
 rw [show s.ox+((0:Nat):Int)=s.ox by omega,<- h]
theorem ξ8x {N:Nd} {now:Int} (h:Lacks0 N):N.tick now=(stillN N now).starts now (stillN N now).sb:=by
 have e:(({ N with nw:=now }:Nd).asksG now 8).pops now=stillN N now:=by
  rw [ξ4K (N:={ N with nw:=now }) h.gm 8 (Ξo _)];unfold Nd.pops popS stillN;have e2:(N.sb.map fun x=>(x.1,x.2.popd now))=N.sb.map fun x=>(x.1,stillS now x.2):=by
   refine List.map_congr_left ?_
   intro x hx;rw [ξal (h.om x hx).1 (h.om x hx).2]
  show ({ N with nw:=now,tr:=stillF now N.tr 8,sb:=N.sb.map fun x=>(x.1,x.2.popd now) }:Nd)=_
  rw [e2]
 unfold Nd.tick;rw [e]
theorem ξ2r (now:Int):∀ (l:List (Int×Sb)) (N:Nd),(∀ x∈l,x.2.wants=false)->N.starts now l=N
 | [],N,_=>rfl
 | x::l,N,h=>by
   show (N.askS now x.2).starts now l=N
   have e:N.askS now x.2=N:=by
    unfold Nd.askS;split
    ·rfl
    ·rw [if_pos (.inl (h x (List.mem_cons_self ..)))]
   rw [e];exact ξ2r now l N (fun y hy=>h y (List.mem_cons_of_mem _ hy))
theorem ξ8y {N:Nd} {now:Int} (h:Lacks0 N) (hw:∀ x∈N.sb,x.2.wants=false):N.tick now=stillN N now:=by
 rw [ξ8x h,ξ2r];intro x hx;obtain ⟨y,hy,rfl⟩:=Ξi.1 hx;exact hw y hy
theorem ξ3h {N:Nd} {now:Int} (h:Lacks0 N):NoGive N now:=by
 intro i hi t ht _;rw [h.gm i hi t ht];rfl
theorem ξ5I {w W W':World} {o:Nat->Tg} (hb:Below w.heap.size w W) (ho:∀ k,k<w.heap.size->(o k).n=0) (hc:Chg o meshy W W'):Below w.heap.size w W':=by
 obtain ⟨bs,q1,q2,q3⟩:=hc;refine hb.trans ⟨q1.1,q1.2.1,q1.2.2.1,q1.2.2.2.1,fun k hk=>q1.2.2.2.2 k (Ξn hk hb.size) (fun hm=>(q2 k hm).1 (ho k hk))⟩
theorem ξ5x {w W:World} {o o':Nat->Tg} (hb:Below w.heap.size w W) (ho:∀ k,k<w.heap.size->(o k).n=0) (hk:Keep W o o'):∀ k,k<w.heap.size->(o' k).n=0:=by
 intro k hl;rcases hk k (Ξn hl hb.size) with e | ⟨_,e⟩
 ·rw [e];exact ho k hl
 ·rw [e]
def Zt (w W:World) (b:Nat) (M:Ms):Prop:=∃ o P,MAt W o b P M/\(∀ k,k<w.heap.size->(o k).n=0)/\Below w.heap.size w W
theorem Zt.made {w w1 W:World} {b:Nat} {M:Ms} (hb:Below w.heap.size w w1) (h:MMade w1 W (fun _=>ξ2) b M):Zt w W b M:=by
 obtain ⟨o,P,h1,h2,h3,_⟩:=h;refine ⟨o,P,h1,fun k hk=>?_,hb.trans (h3.mono hb.size)⟩
 rw [h2 k (Ξn hk hb.size)]
theorem Zt.next {w W W':World} {b:Nat} {M M':Ms} {o:Nat->Tg} (hb:Below w.heap.size w W) (ho:∀ k,k<w.heap.size->(o k).n=0) (h:MDone W W' o b M'):Zt w W' b M':=by
 obtain ⟨o',P',h1,h2,h3⟩:=h;exact ⟨o',P',h1,ξ5x hb ho h2,ξ5I hb ho h3⟩
def zeroH:Nat->Nat->Nat:=fun _ _=>0
theorem ξ8Q {Q:Plan} {E:List TM.Ed} (h1:1<=Q.n) (h16:Q.n<=16) (hn:Q.now=0) (ho:∀ k,Q.on k=false) (hB:∀ v,Q.B v=[]):Pipe Q zeroH [] (mesh0 Q.n E):=by
 refine ⟨ξcv h1 h16,rfl,hn.symm,?_,?_,?_,?_,rfl,by simp,?_,fun k _ v=>Nat.zero_le _,fun v _=>by rw [hB v];rfl⟩
 ·intro v hv k hk ha;have:=(Plan.at_iff.1 ha).1
  rw [ho k] at this;cases this
 ·intro v hv k hk ha;rfl
 ·intro v hv;rw [hB v];rfl
 ·intro v hv x hx;rw [hB v] at hx;cases hx
 ·intro k hk hon;rw [ho k] at hon;cases hon
def Plan.publish (Q:Plan) (k:Nat) (p d:List Int):Plan:={ Q with on:=fun j=>if j=k then true else Q.on j,p:=updN Q.p k p,d:=updN Q.d k d }
theorem ξ22 (Q:Plan) (k:Nat) (p d:List Int) {j:Nat} (h:j≠k):(Q.publish k p d).on j=Q.on j/\(Q.publish k p d).p j=Q.p j/\(Q.publish k p d).d j=Q.d j/\∀ v,(Q.publish k p d).at j v=Q.at j v:=by
 have e1:(Q.publish k p d).on j=Q.on j:=if_neg h
 have e2:(Q.publish k p d).p j=Q.p j:=ξf _ _ h
 have e3:(Q.publish k p d).d j=Q.d j:=ξf _ _ h
 exact ⟨e1,e2,e3,fun v=>by unfold Plan.at;rw [e1,e3]⟩
theorem ξ1H (Q:Plan) (k:Nat) (p d:List Int):(Q.publish k p d).on k=true/\(Q.publish k p d).p k=p/\(Q.publish k p d).d k=d:=⟨if_pos rfl,ξ9 _ _ _,ξ9 _ _ _⟩
theorem ξ6w {Q:Plan} {M:Ms} (hP:Pipe Q zeroH [] M) {k:Nat} (hk:k<8) (hoff:Q.on k=false) {p d:List Int} (hT:Trees Q.n (Q.rt k) Q.E p d) (hE:M.E=Q.E):Pipe (Q.publish k p d) zeroH [] (M.publish k (Q.rt k) p d):=by
 have hT':Trees M.n (Q.rt k) M.E p d:=by rw [hP.n,hE];exact hT
 have hnd:∀ v,v<Q.n->(M.publish k (Q.rt k) p d).nd v=if 0<=TM.dg d v then ({ M.nd v with tr:=updR (M.nd v).tr k (trk k p M.n v) }:Nd) else M.nd v:=by
  intro v hv;show (if v<M.n/\0<=TM.dg d v then ({ M.nd v with tr:=updR (M.nd v).tr k (trk k p M.n v) }:Nd) else M.nd v)=_
  by_cases c:0<=TM.dg d v
  ·rw [if_pos ⟨by rw [hP.n];exact hv,c⟩,if_pos c]
  ·rw [if_neg (fun q=>c q.2),if_neg c]
 have hk0:∀ v,v<Q.n->(M.nd v).tr k=none:=fun v hv=>hP.no v hv k hk (by unfold Plan.at;rw [hoff];rfl)
 have hsb:∀ v,v<Q.n->((M.publish k (Q.rt k) p d).nd v).sb=(M.nd v).sb:=by
  intro v hv;rw [hnd v hv];split<;>rfl
 refine ⟨hP.ok.publish hT',hP.n,hP.nw,?_,?_,?_,?_,hP.fl,by simp,?_,fun k _ v=>Nat.zero_le _,fun v hv=>by rw [hnd v hv];split<;>exact hP.ls v hv⟩
 ·intro v hv j hj ha;rw [hnd v hv];by_cases c:j=k
  ·subst c;have hd:0<=TM.dg d v:=by have:=(Plan.at_iff.1 ha).2;rwa [(ξ1H Q j p d).2.2] at this
   rw [if_pos hd,(ξ1H Q j p d).2.1];refine ⟨trk j p M.n v,if_pos rfl,?_⟩
   rw [hP.n];exact TrH.start j p Q.n v (Q.sq j)
  ·rw [(ξ22 Q k p d c).2.2.2 v] at ha;rw [(ξ22 Q k p d c).2.1];obtain ⟨t,t1,t2⟩:=hP.tr v hv j hj ha;refine ⟨t,?_,t2⟩
   split
   ·show updR (M.nd v).tr k _ j=_
    rw [show updR (M.nd v).tr k (trk k p M.n v) j=(M.nd v).tr j from if_neg c];exact t1
   ·exact t1
 ·intro v hv j hj ha;rw [hnd v hv];by_cases c:j=k
  ·subst c;have hd:¬ 0<=TM.dg d v:=fun q=>by
    have:(Q.publish j p d).at j v=true:=Plan.at_iff.2 ⟨(ξ1H Q j p d).1,by rw [(ξ1H Q j p d).2.2];exact q⟩
    rw [ha] at this;cases this
   rw [if_neg hd];exact hk0 v hv
  ·rw [(ξ22 Q k p d c).2.2.2 v] at ha;split
   ·show updR (M.nd v).tr k _ j=_
    rw [show updR (M.nd v).tr k (trk k p M.n v) j=(M.nd v).tr j from if_neg c];exact hP.no v hv j hj ha
   ·exact hP.no v hv j hj ha
 ·intro v hv;rw [hsb v hv,hP.sb v hv];rfl
 ·intro v hv x hx;exact hP.sr v hv x hx
 ·intro j hj hon v hv u hu;exact ⟨Ξo _,rfl⟩
def Plan.addS (Q:Plan) (v:Nat) (x:Int×Sb):Plan:={ Q with B:=updN Q.B v (Q.B v++[x]) }
theorem NdOk.subs {n:Nat} {N:Nd} (h:NdOk n N) {k:Nat} {mo:Int} (hk:k<8) (ht:(N.tr k).isSome=true) (h0:0<=mo) (h3:mo<=3) (hl:N.sb.length<20) (hls:N.ls<1000000):NdOk n (N.subs ((k:Int)+1) mo):=by
 refine ⟨h.nw,h.id,h.tr,?_,?_,h.pn,h.pl,h.pw,h.ak⟩
 ·have hs:=h.si
  refine ⟨?_,?_,?_,by have:=hs.ls0;show 0<=N.ls+1;omega,by show N.ls+1<=1000000;omega⟩
  ·show (ids (N.sb++[(N.ls+1,s0 ((k:Int)+1) mo)])).Pairwise _
   unfold ids;rw [List.map_append,List.pairwise_append];refine ⟨hs.ris,by simp,?_⟩
   intro a ha b hb;simp at hb
   subst hb;obtain ⟨y,hy,rfl⟩:=Ξi.1 ha;have:=hs.mem y hy
   omega
  ·intro x hx;rcases Ξe.1 hx with hx | hx
   ·have:=hs.mem x hx
    exact ⟨this.1,by show x.1<=N.ls+1;omega,this.2.2⟩
   ·rw [Ξg] at hx;subst hx;have:=hs.ls0
    exact ⟨by show 1<=N.ls+1;omega,Int.le_refl _,h0,h3⟩
  ·show (N.sb++[_]).length<=20
   rw [Ξh];simp
   omega
 ·intro x hx;rcases Ξe.1 hx with hx | hx
  ·exact h.sb x hx
  ·rw [Ξg] at hx;subst hx;exact ⟨(SbOk.start _ _).mono h.nw.1,k,hk,rfl,ht⟩
theorem ξck {Q:Plan} {M:Ms} (hP:Pipe Q zeroH [] M) {k v:Nat} (hk:k<8) (hv:v<Q.n) (hat:Q.at k v=true) {mo:Int} (h0:0<=mo) (h3:mo<=3) (hl:(Q.B v).length<20) (hls:(M.nd v).ls<1000000):Pipe (Q.addS v ((M.nd v).ls+1,s0 ((k:Int)+1) mo)) zeroH [] (M.sub v ((k:Int)+1) mo):=by
 have hsl:(M.nd v).sb.length=(Q.B v).length:=by rw [hP.sb v hv,Ξm]
 obtain ⟨t,t1,t2⟩:=hP.tr v hv k hk hat;have hnd:∀ j,j≠v->(M.sub v ((k:Int)+1) mo).nd j=M.nd j:=fun j hj=>ξf _ _ hj
 have hnv:(M.sub v ((k:Int)+1) mo).nd v=(M.nd v).subs ((k:Int)+1) mo:=ξ9 _ _ _
 refine ⟨⟨hP.ok.n1,hP.ok.n16,hP.ok.nw,?_⟩,hP.n,hP.nw,?_,?_,?_,?_,hP.fl,by simp,?_,fun k _ v=>Nat.zero_le _,?_⟩
 ·intro j hj;obtain ⟨g1,g2,g3,g4⟩:=hP.ok.nd j hj;by_cases c:j=v
  ·subst c;rw [hnv];exact ⟨NdOk.subs g1 hk (by rw [t1];rfl) h0 h3 (by omega) hls,g2,g3,g4⟩
  ·rw [hnd j c];exact ⟨g1,g2,g3,g4⟩
 ·intro j hj k' hk' ha;obtain ⟨t',q1,q2⟩:=hP.tr j hj k' hk' ha;refine ⟨t',?_,q2⟩
  by_cases c:j=v
  ·subst c;rw [hnv];exact q1
  ·rw [hnd j c];exact q1
 ·intro j hj k' hk' ha;have q1:=hP.no j hj k' hk' ha
  by_cases c:j=v
  ·subst c;rw [hnv];exact q1
  ·rw [hnd j c];exact q1
 ·intro j hj;by_cases c:j=v
  ·subst c;rw [hnv];show (M.nd j).sb++[_]=(updN Q.B j _ j).map _
   rw [ξ9,List.map_append,hP.sb j hj];rfl
  ·rw [hnd j c,hP.sb j hj];show _=(updN Q.B v _ j).map _
   rw [ξf _ _ c];rfl
 ·intro j hj x hx;have hx:x∈updN Q.B v (Q.B v++[((M.nd v).ls+1,s0 ((k:Int)+1) mo)]) j:=hx
  by_cases c:j=v
  ·subst c;rw [ξ9] at hx;rcases Ξe.1 hx with hx | hx
   ·exact hP.sr j hj x hx
   ·rw [Ξg] at hx;subst hx;exact SbR.start _ _ _
  ·rw [ξf _ _ c] at hx;exact hP.sr j hj x hx
 ·intro j hj hon v hv u hu;exact ⟨Ξo _,rfl⟩
 ·intro j hj;by_cases c:j=v
  ·subst c;rw [hnv];show (M.nd j).ls+1=((updN Q.B j _ j).length:Int)
   rw [ξ9,Ξh,hP.ls j hj];simp
  ·rw [hnd j c,hP.ls j hj];show _=((updN Q.B v _ j).length:Int)
   rw [ξf _ _ c]
def PZ (w W:World) (b:Nat) (Q:Plan) (h:Nat->Nat->Nat) (X:List Fy) (rt:Nat->Int) (sb:List (Int×Int)):Prop:=∃ M,Zt w W b M/\Pipe Q h X M/\M.rt=rt/\M.sb=sb/\M.E=Q.E
theorem ξaf {w W:World} {Q:Plan} (hw:Below w.heap.size w W) (a:Option Addr) (n cap:Nat) (hA:Tree.EArg W a n Q.E) (hn0:a=none->n=0/\cap=0) (hnc:n<=cap) (hf:TM.ef (Q.n:Int) Q.E=0) (hnow:Q.now=0) (ho:∀ k,Q.on k=false) (hB:∀ v,Q.B v=[]) :
 Calls Tryz.prog 6 #[.int .i64 (Q.n:Int),.slice a n cap] W fun e w'=>∃ b,e=.returned (.tuple #[.pointer (some ⟨b,0,none⟩),.nilIface])/\PZ w w' b Q zeroH [] (fun _=>-1) []:=by
 obtain ⟨_,hfit⟩:=TM.ξ3H.1 hf;rw [Int.toNat_natCast] at hfit;refine (ξaE (fun _=>ξ2) (fun k=>by show 0≠1000;omega) Q.n a n cap Q.E W hA hn0 hnc hf).mono ?_
 rintro e w' ⟨b,rfl,hm⟩;exact ⟨b,rfl,_,Zt.made hw hm,ξ8Q hfit.lo hfit.hi hnow ho hB,rfl,rfl,rfl⟩
theorem ξ4n {w W:World} {b:Nat} {Q:Plan} {rt:Nat->Int} {sb:List (Int×Int)} (hz:PZ w W b Q zeroH [] rt sb) {k:Nat} (hk:k<8) (hoff:Q.on k=false) (hrt:rt k=-1) (hr:Q.rt k<Q.n) (hf:TM.ef (Q.n:Int) Q.E=0) :
 Calls Tryz.prog 8 #[.pointer (some ⟨b,0,none⟩),.int .i64 ((k:Int)+1),.int .i64 (Q.rt k:Int)] W fun e w'=>e=.returned .nilIface/\∃ p d,Trees Q.n (Q.rt k) Q.E p d/\PZ w w' b (Q.publish k p d) zeroH [] (updN rt k (Q.rt k:Int)) sb:=by
 obtain ⟨M,⟨o,P,h1,h2,h3⟩,hP,e1,e2,e3⟩:=hz;refine (ξ5Q b k (Q.rt k) o P M W h1 hP.ok (by rw [hP.n,e3];exact hf) hk (by rw [hP.n];exact hr) (by rw [e1];exact hrt) (fun i hi=>hP.no i (by rw [<- hP.n];exact hi) k hk (by unfold Plan.at;rw [hoff];rfl))).mono ?_
 rintro e w' ⟨rfl,p,d,hT,hd⟩;rw [hP.n,e3] at hT;exact ⟨rfl,p,d,hT,_,Zt.next (M:=M) h3 h2 hd,ξ6w hP hk hoff hT e3,by rw [<- e1];rfl,e2,e3⟩
theorem ξae {w W:World} {b:Nat} {Q:Plan} {rt:Nat->Int} {sb:List (Int×Int)} (hz:PZ w W b Q zeroH [] rt sb) {k v:Nat} (hk:k<8) (hv:v<Q.n) (hat:Q.at k v=true) {mo:Int} (h0:0<=mo) (h3:mo<=3) (hl:(Q.B v).length<20) (hsb:sb.length<=1000) :
 Calls Tryz.prog 9 #[.pointer (some ⟨b,0,none⟩),.int .i64 ((k:Int)+1),.int .i64 (v:Int),.int .i64 mo] W fun e w'=>e=.returned (.tuple #[.int .i64 ((sb.length:Int)+1),.nilIface])/\PZ w w' b (Q.addS v (((Q.B v).length:Int)+1,s0 ((k:Int)+1) mo)) zeroH [] rt (sb++[((v:Int),((Q.B v).length:Int)+1)]):=by
 obtain ⟨M,⟨o,P,h1,h2,hb⟩,hP,e1,e2,e3⟩:=hz;have hvn:v<M.n:=by rw [hP.n];exact hv
 obtain ⟨t,t1,t2⟩:=hP.tr v hv k hk hat;have hls:=hP.ls v hv
 have hsl:(M.nd v).sb.length=(Q.B v).length:=by rw [hP.sb v hv,Ξm]
 have hsF:sF (M.nd v) ((k:Int)+1) mo=0:=by
  unfold sF;rw [if_neg (by simp [okT];omega),if_neg (by omega),if_neg,if_neg (by omega)]
  unfold Nd.at
  rw [show (((k:Int)+1) - 1).toNat=k by omega,t1]
  simp
 have hI:=(hP.ok.nd v hvn).1.si
 refine (ξ9X b v o P M ((k:Int)+1) mo W h1 hvn hsF hI (by omega) (by rw [e2];omega)).mono ?_
 rintro e w' ⟨rfl,hd⟩;rw [e2];refine ⟨rfl,_,Zt.next (M:=M) hb h2 hd,?_,e1,?_,e3⟩
 ·have:=ξck hP hk hv hat h0 h3 hl (by omega)
  rw [hls] at this;exact this
 ·show M.sb++[((v:Int),(M.nd v).ls+1)]=_
  rw [e2,hls]
end Go.Proofs.YtpiamlgmadnepaaGreat.MS
