/-
 What the proof needs.
-/
import Derived.Test.YtpiamlgmadnepaaGreatMdAll
set_option linter.unusedVariables false
namespace Go.Proofs.YtpiamlgmadnepaaGreat.MS
open ChangeShapes WideShapes ChangeAt RowKit Maps Mem NO ND
variable {u i v m m' j:Nat}{M M2:Ms}{tm og hp now k:Int}{N:Nd}{t:Tr}{p pk:RM.Pk}
structure Zd where
 n:Nat
 rt:Nat
 at':Nat
 mo:Int
 E:List TM.Ed
 p:List Int
 d:List Int
 S:Nat->Pk
variable {Z:Zd}
structure Zd.Ok(Z:Zd):Prop where
 tr:Trees Z.n Z.rt Z.E Z.p Z.d
 pk:A7b Z.S
 at':Z.at'<Z.n
 ar:0<=TM.dg Z.d Z.at'
def Zd.Q(Z:Zd):A0r:=⟨Z.n,0,Z.E,λk=>decide (k=0),λ_=>Z.rt,λ_=>Z.p,λ_=>Z.d,λ_=>0,λ_ i=>Z.S i,λk=>if k=0 then 90 else 0,λ_=>[]⟩
theorem Zd.Ok.q(h:Z.Ok):Z.Q.Ok:=by
 refine⟨λk hk ho=>h.tr,λk hk i hi=>?_,λk=>?_⟩
 ·have ae:i<(if k=0 then 90 else 0):=hi;split at ae
  ·exact h.pk.ok i ae
  ·omega
 ·show(if k=0 then 90 else 0)<=1000;split<;>omega
inductive Fd where
 | fr (v i:Nat)
 | lo (v:Nat) (L:List Int)
 | ky (v:Nat) (k:Int)
variable {x:Fd}{X X':List Fd}
def Zd.wd(Z:Zd):Fd->Nat
 | .fr _ _=>1
 | .lo _ L=>L.length+1
 | .ky v _=>dp Z.p Z.n v+1
def Zd.wds(Z:Zd):List Fd->Nat
 | []=>0
 | x::X=>Z.wd x+Z.wds X
theorem Zd.A1s(Z:Zd):∀X Y:List Fd,Z.wds (X++Y)=Z.wds X+Z.wds Y
 | [],Y=>(Nat.zero_add _).symm
 | x::X,Y=>by
   show Z.wd x+Z.wds (X++Y)=Z.wd x+Z.wds X+Z.wds Y;rw[Zd.A1s Z X Y,Nat.add_assoc]
theorem Zd.wd_pos(Z:Zd)(x:Fd):1<=Z.wd x:=by
 cases x with
 | fr v i=>exact Ξo _
 | lo v L=>exact Nat.succ_le_succ (Nat.zero_le _)
 | ky v k=>exact Nat.succ_le_succ (Nat.zero_le _)
theorem Zd.A40(Z:Zd):∀X:List Fd,X.length<=Z.wds X
 | []=>Ξo _
 | x::X=>by
   have h1:=Zd.A40 Z X;have h2:=Z.wd_pos x;show X.length+1<=Z.wd x+Z.wds X;omega
theorem Zd.A3q(Z:Zd):∀X:List Fd,(∀x∈X,∃v i,x=.fr v i)->Z.wds X=X.length
 | [],_=>rfl
 | x::X,h=>by
   obtain⟨v,i,e⟩:=h x (List.mem_cons_self ..);have h1:=Zd.A3q Z X (λy hy=>h y (List.mem_cons_of_mem _ hy));show Z.wd x+Z.wds X=X.length+1;rw[h1,e];exact Nat.add_comm _ _
theorem Zd.A48(Z:Zd):∀(X:List Fd) (j:Nat) (x:Fd),X[j]?=some x->Z.wds (X.eraseIdx j)+Z.wd x=Z.wds X
 | [],j,x,h=>by cases j<;>cases h
 | y::X,0,x,h=>by
   have:y=x:=by simpa using h
   subst this;exact Nat.add_comm _ _
 | y::X,j+1,x,h=>by
   have h1:=Zd.A48 Z X j x (by simpa using h);show Z.wd y+Z.wds (X.eraseIdx j)+Z.wd x=Z.wd y+Z.wds X;omega
def Zd.byt(Z:Zd)(u i:Nat):List Nat:=fby 1 (Z.rt:Int) 1 (dp Z.p Z.n u:Int) (B0e (Z.S i))
def Zd.frm(Z:Zd):Fd->Fl
 | .fr v i=>⟨TM.dg Z.p v,(v:Int),Z.byt (TM.dg Z.p v).toNat i⟩
 | .lo v L=>⟨(v:Int),TM.dg Z.p v,Back.A0c 1 1 L 0⟩
 | .ky v k=>⟨(v:Int),TM.dg Z.p v,Back.A0c 2 1 [] k⟩
theorem Zd.Ok.frame(h:Z.Ok)(hi:i<90):FM.A0k 1 (Z.rt:Int) 1 (dp Z.p Z.n u:Int) (B0e (Z.S i))=0:=by
 have:=ξ3d h.q (k:=0) (u:=u) (i:=i) (by omega) rfl hi;have e:((0:Nat):Int)+1=1:=rfl;rw[e]at this;exact this
def Zd.news(Z:Zd)(v i:Nat):List Fd:=((List.range Z.n).filter λj=>decide (TM.dg Z.p j=(v:Int))).map λc=>.fr c i
theorem Zd.A4z(Z:Zd)(v i:Nat):(Z.news v i).map Z.frm=(TM.kd Z.p (v:Int) Z.n).map λc=>(⟨(v:Int),c,Z.byt v i⟩:Fl):=by
 unfold Zd.news TM.kd;rw[List.map_map,List.map_map];refine List.map_congr_left ?_;intro j hj;have hp:TM.dg Z.p j=(v:Int):=by simpa using(Ξj.1 hj).2
 show Z.frm (.fr j i)=_;unfold Zd.frm;simp only[hp,Int.toNat_natCast];rfl
theorem Zd.A3d(h:x∈Z.news v i):∃c,x=.fr c i/\c<Z.n/\TM.dg Z.p c=(v:Int):=by
 unfold Zd.news at h;obtain⟨j,hj,rfl⟩:=Ξi.1 h;obtain⟨h1,h2⟩:=Ξj.1 hj;exact⟨j,rfl,by simpa using h1,by simpa using h2⟩
theorem Zd.A5r(Z:Zd)(v i:Nat):(Z.news v i).length<=Z.n:=by
 unfold Zd.news;rw[Ξm];exact Nat.le_trans (List.length_filter_le _ _) (by simp)
structure WD(Z:Zd)(m:Nat)(X:List Fd)(M:Ms):Prop where
 ok:MOk M
 n:M.n=Z.n
 rtt:M.rt 0=(Z.rt:Int)
 sbs:M.sb=[((Z.at':Int),1)]
 tr:∀v,v<Z.n->0<=TM.dg Z.d v->∃t,(M.nd v).tr 0=some t/\TD Z.p Z.n v Z.rt Z.S m t
 nr:∀v,v<Z.n->¬0<=TM.dg Z.d v->(M.nd v).tr 0=none
 no:∀v,v<Z.n->∀k,0<k->k<8->(M.nd v).tr k=none
 sb:∀v,v<Z.n->v≠Z.at'->(M.nd v).sb=[]
 sa:∃s,(M.nd Z.at').sb=[(1,s)]/\SD Z.S m Z.mo s
 fl:M.fl=X.map Z.frm
 xf:∀v i,Fd.fr v i∈X->v<Z.n/\i<m/\∃u:Nat,TM.dg Z.p v=(u:Int)
 xl:∀v L,Fd.lo v L∈X->v<Z.n/\L.length<=200/\Back.A0o 1 1 L 0=0/\∃u:Nat,TM.dg Z.p v=(u:Int)
 xk:∀v k,Fd.ky v k∈X->v<Z.n/\Back.A0o 2 1 [] k=0/\∃u:Nat,TM.dg Z.p v=(u:Int)
 m80:m<=80
theorem ξ5v{s:Sb}{g:Sb->Sb}(h:s.tk=1)(x:Int):A10 1 g [(x,s)]=[(x,g s)]:=by
 unfold A10;rw[List.map_cons,List.map_nil,if_pos h]
theorem ξ9z(v:Nat)(K:List Int)(B:List Nat):outs v (K.map λc=>(c,B))=K.map λc=>(⟨(v:Int),c,B⟩:Fl):=by
 unfold outs;rw[List.map_map];rfl
theorem ξ2R(f:Nat->Option Tr)(i:Nat)(a:Tr):A0f f i a i=some a:=by simp[A0f]
theorem ξ6n(f:Nat->Option Tr){k:Nat}(a:Tr)(h:k≠i):A0f f i a k=f k:=by simp[A0f,h]
def A7u(N:Nd)(tm:Int)(r:Nat->Option Tr)(l:List (Int×Sb)):Nd:={ nw:=tm,id:=N.id,tr:=r,sb:=l,ls:=N.ls,pn:=N.pn,ak:=N.ak,pL:=N.pL,lt:=[] }
theorem WD.node(h:WD Z m X M)(hv:v<Z.n)(hr:0<=TM.dg Z.d v)(hm:m<=m')(hm8:m'<=80)(e0:MOk M2)(e1:M2.n=M.n)(er:M2.rt=M.rt)(es:M2.sb=M.sb){t':Tr}{l:List (Int×Sb)}
 (e3:M2.nd=A0h M.nd v (A7u (M.nd v) tm (A0f (M.nd v).tr 0 t') l)) (ht:TD Z.p Z.n v Z.rt Z.S m' t') (hl:(v≠Z.at'/\l=[])∨(v=Z.at'/\∃s,l=[(1,s)]/\SD Z.S m' Z.mo s)) (e4:M2.fl=X'.map Z.frm)
 (hX:∀x∈X',x∈X∨(∃c i,x=.fr c i/\c<Z.n/\i<m'/\∃u:Nat,TM.dg Z.p c=(u:Int))∨(∃c k,x=.ky c k/\c<Z.n/\Back.A0o 2 1 [] k=0/\∃u:Nat,TM.dg Z.p c=(u:Int))):WD Z m' X' M2:=by
 refine⟨e0,e1.trans h.n,by rw[er];exact h.rtt,by rw[es];exact h.sbs,?_,?_,?_,?_,?_,e4,?_,?_,?_,hm8⟩
 ·intro v' ae ah;by_cases c:v'=v
  ·subst c;exact⟨t',by rw[e3,ξe];show A0f (M.nd v').tr 0 t' 0=_;exact ξ2R _ _ _,ht⟩
  ·obtain⟨t2,q1,q2⟩:=h.tr v' ae ah;exact⟨t2,by rw[e3,ξh _ _ c];exact q1,q2.more hm⟩
 ·intro v' ae ah;have c:v'≠v:=λe=>ah (by rw[e];exact hr);rw[e3,ξh _ _ c];exact h.nr v' ae ah
 ·intro v' ae k ai hk;rw[e3];by_cases c:v'=v
  ·subst c;rw[ξe];show A0f (M.nd v').tr 0 t' k=none;rw[ξ6n _ _ (by omega)];exact h.no v' ae k ai hk
  ·rw[ξh _ _ c];exact h.no v' ae k ai hk
 ·intro v' ae hn;rw[e3];by_cases c:v'=v
  ·subst c;rw[ξe];rcases hl with⟨_,e⟩|⟨e,_⟩
   ·exact e
   ·exact absurd e hn
  ·rw[ξh _ _ c];exact h.sb v' ae hn
 ·by_cases c:Z.at'=v
  ·rcases hl with⟨e,_⟩|⟨_,s,e,hs⟩
   ·exact absurd c.symm e
   ·exact⟨s,by rw[e3,c,ξe];exact e,hs⟩
  ·obtain⟨s,q1,q2⟩:=h.sa;exact⟨s,by rw[e3,ξh _ _ c];exact q1,q2.more hm⟩
 ·intro v' i hx;rcases hX _ hx with q|⟨c,j,e,q1,q2,q3⟩|⟨c,k,e,_⟩
  ·obtain⟨q1,q2,q3⟩:=h.xf v' i q;exact⟨q1,by omega,q3⟩
  ·injection e with a b;rw[a,b];exact⟨q1,q2,q3⟩
  ·cases e
 ·intro v' L hx;rcases hX _ hx with q|⟨c,j,e,_⟩|⟨c,k,e,_⟩
  ·exact h.xl v' L q
  ·cases e
  ·cases e
 ·intro v' k' hx;rcases hX _ hx with q|⟨c,j,e,_⟩|⟨c,k,e,q1,q2,q3⟩
  ·exact h.xk v' k' q
  ·cases e
  ·injection e with a b;rw[a,b];exact⟨q1,q2,q3⟩
theorem ξax(hB:GM.hB t.gn t.gT t.gM (ND.num t.rT p.s) now=false):N.A0t i t p og hp now={ N with tr:=A0f N.tr i (t.heard (ND.num t.rT p.s) now) }:=by
 unfold Nd.A0t;rw[hB,if_neg (by simp)]
theorem WD.took(hZ:Z.Ok)(h:WD Z m X M)(hv:v<Z.n)(hr:0<=TM.dg Z.d v)(hi:i<m')(hm:m<=m')(hm8:m'<=80)(h0:M.nw<=tm)(h1:tm<=1000000)(ht:(M.nd v).tr 0=some t)(hp:ppk pk=Z.S i){X0:List Fd}(hX0:∀x∈X0,x∈X)(e0:MOk M2)(e1:M2.n=M.n)(er:M2.rt=M.rt)(es:M2.sb=M.sb)
 (e3:M2.nd=A0h M.nd v { (M.nd v).A0t 0 t pk (Z.rt:Int) (dp Z.p Z.n v:Int) tm with nw:=tm,lt:=[] }) (e4:M2.fl=X0.map Z.frm++outs v ((M.nd v).A0t 0 t pk (Z.rt:Int) (dp Z.p Z.n v:Int) tm).lt) :
 (GM.hB t.gn t.gT t.gM (65536+(i:Int)) tm=true->WD Z m' (X0++Z.news v i) M2)/\(GM.hB t.gn t.gT t.gM (65536+(i:Int)) tm=false->WD Z m' X0 M2):=by
 have au:v<M.n:=by rw[h.n];exact hv
 obtain⟨kN,kL,kW,kI⟩:=h.ok.nd v au;obtain⟨t',ai,hT⟩:=h.tr v hv hr;rw[ht]at ai;simp only[Option.some.injEq]at ai;subst ai;have hw:(M.nd v).nw<=tm:=Int.le_trans kW h0;have hs:pk.s=(i:Int):=by
  have:pk.s=(Z.S i).s:=by rw[<-hp]
  rw[this,(hZ.pk.ok i (by omega)).num];simp
 have ae:ND.num t.rT pk.s=65536+(i:Int):=by rw[hs];exact hT.num (by have:=h.m80;omega) (by omega)
 have am:=(hT.more hm).heard hi tm;have aq:(v≠Z.at'/\(M.nd v).sb=[])∨(v=Z.at'/\∃s,(M.nd v).sb=[(1,s)]/\SD Z.S m' Z.mo s/\A1k (M.nd v).nw s):=by
  by_cases c:v=Z.at'
  ·right
   obtain⟨s,q1,q2⟩:=h.sa;refine⟨c,s,by rw[c];exact q1,q2.more hm,(kN.sb (1,s) (by rw[c,q1];exact Ξg.2 rfl)).1⟩
  ·exact .inl ⟨c,h.sb v hv c⟩
 constructor
 ·intro hB;have hF:FM.A0k t.tk (Z.rt:Int) t.ep (dp Z.p Z.n v:Int) (pby pk.s pk.t pk.l pk.q pk.st pk.L)=0:=by
   have:=hZ.frame (u:=v) (i:=i) (by omega);rw[<-hp]at this;rw[hT.tk,hT.ep];exact this
  have ah:=ξ3j (N:=M.nd v) (i:=0) (og:=(Z.rt:Int)) (by rw[ae];exact hB) hF;rw[hT.tk,hT.ep,ae,hT.kids,kL,List.nil_append]at ah;rw[ah]at e3 e4;have aj:fby 1 (Z.rt:Int) 1 (dp Z.p Z.n v:Int) (pby pk.s pk.t pk.l pk.q pk.st pk.L)=Z.byt v i:=by
   unfold Zd.byt;rw[<-hp];rfl
  rw[aj]at e3 e4;have e3:M2.nd=A0h M.nd v (A7u (M.nd v) tm (A0f (M.nd v).tr 0 ((t.heard (65536+(i:Int)) tm).keep (65536+(i:Int)) pk ((Z.rt:Int),(dp Z.p Z.n v:Int)))) (A10 1 (λs=>s.push (65536+(i:Int)) tm (ppk pk)) (M.nd v).sb)):=e3;refine h.node hv hr hm hm8 e0 e1 er es e3 (am.keep hi hp) ?_ (by rw[e4,List.map_append,Z.A4z,ξ9z]) ?_
  ·rcases aq with⟨c,e⟩|⟨c,s,e,hs1,hs2⟩
   ·exact .inl ⟨c,by rw[e];rfl⟩
   ·refine .inr ⟨c,s.push (65536+(i:Int)) tm (Z.S i),by rw[e,ξ5v hs1.tk,hp],?_⟩;exact hs1.push hZ.pk hm8 hs2 (ξ2m hs2.oi.c1 (Int.le_trans hs2.on hw) h1) hi
  ·intro x hx;rcases Ξe.1 hx with hx|hx
   ·exact .inl (hX0 x hx)
   ·obtain⟨c,rfl,q1,q2⟩:=Zd.A3d hx;exact .inr (.inl ⟨c,i,rfl,q1,hi,v,q2⟩)
 ·intro hB;have ah:=ξax (N:=M.nd v) (i:=0) (t:=t) (p:=pk) (og:=(Z.rt:Int)) (hp:=(dp Z.p Z.n v:Int)) (now:=tm) (by rw[ae];exact hB);rw[ae]at ah;rw[ah]at e3 e4;have e3:M2.nd=A0h M.nd v (A7u (M.nd v) tm (A0f (M.nd v).tr 0 (t.heard (65536+(i:Int)) tm)) (M.nd v).sb):=e3;have aw:M2.fl=X0.map Z.frm:=by
   rw[e4];show _++outs v (M.nd v).lt=_;rw[kL];show _++[]=_;rw[Ξu]
  refine h.node hv hr hm hm8 e0 e1 er es e3 am ?_ aw (λx hx=>.inl (hX0 x hx));rcases aq with⟨c,e⟩|⟨c,s,e,hs1,hs2⟩
  ·exact .inl ⟨c,e⟩
  ·exact .inr ⟨c,s,e,hs1⟩
theorem ξ1L{α β:Type}(f:α->β):∀(l:List α) (j:Nat),(l.map f).eraseIdx j=(l.eraseIdx j).map f
 | [],_=>rfl
 | x::l,0=>rfl
 | x::l,j+1=>by rw[List.map_cons,List.eraseIdx_cons_succ,List.eraseIdx_cons_succ,List.map_cons,ξ1L f l j]
theorem ξ8K{p:List Int}{n c:Nat}(hc:c<n)(hp:TM.dg p c=(v:Int)):(c:Int)∈TM.kd p (v:Int) n:=by
 unfold TM.kd;exact Ξi.2 ⟨c,Ξj.2 ⟨by simpa using hc,by simpa using hp⟩,rfl⟩
def opn(t:Tr)(i:Nat):Bool:=decide (t.gT<65536+(i:Int))||GM.has t.gM (65536+(i:Int))
def A7c(o:Option Tr)(k:Nat):Bool:=match o with
 | none=>false
 | some t=>opn t k
def A2z(M:Ms)(v k:Nat):Bool:=A7c ((M.nd v).tr 0) k
theorem ξaw(k:Nat):A7c ((N.A0t 0 t p og hp now).tr 0) k=opn (t.heard (ND.num t.rT p.s) now) k:=by
 unfold Nd.A0t;split
 ·show A7c (A0f N.tr 0 _ 0) k=_;rw[ξ2R];show opn ((t.heard (ND.num t.rT p.s) now).keep (ND.num t.rT p.s) p (og,hp)) k=_;unfold Tr.keep;split<;>rfl
 ·show A7c (A0f N.tr 0 _ 0) k=_;rw[ξ2R];rfl
theorem ξ8w(e:M2.nd=A0h M.nd v N)(v' k:Nat):A2z M2 v' k=if v'=v then A7c (N.tr 0) k else A2z M v' k:=by
 unfold A2z;rw[e];by_cases c:v'=v
 ·rw[if_pos c,c,ξe]
 ·rw[if_neg c,ξh _ _ c]
theorem ξ5E{sb:List (Int×Sb)}(e:M2.nd=A0h M.nd v (A7u (M.nd v) tm (M.nd v).tr sb))(v' k:Nat):A2z M2 v' k=A2z M v' k:=by
 rw[ξ8w e];split
 ·rename_i c;rw[c];rfl
 ·rfl
variable {Z:Zd}{m:Nat}{X:List Fd}{M:Ms}
theorem WD.B0z(hZ:Z.Ok)(h:WD Z m X M)(h1:M.nw<=1000000)(hx:X[j]?=some (.fr v i)) :
 ∃g,A35 M (Z.frm (.fr v i)) g/\∃t,(M.nd v).tr 0=some t/\∀bv,(GM.hB t.gn t.gT t.gM (65536+(i:Int)) M.nw=true->WD Z m (X.eraseIdx j++Z.news v i) (M.land j (Z.frm (.fr v i)) g bv)) /\
  (GM.hB t.gn t.gT t.gM (65536+(i:Int)) M.nw=false->WD Z m (X.eraseIdx j) (M.land j (Z.frm (.fr v i)) g bv)) /\
  (∀v' k,A2z (M.land j (Z.frm (.fr v i)) g bv) v' k=if v'=v then opn (t.heard (65536+(i:Int)) M.nw) k else A2z M v' k)/\(M.land j (Z.frm (.fr v i)) g bv).nw=M.nw:=by
 obtain⟨hv,hi,u,hu⟩:=h.xf v i (List.mem_of_getElem? hx);have aq:=h.m80;obtain⟨d1,d2,au,d4,d5⟩:=hZ.tr.down hv hu;have ax:=hZ.tr.A6w hv au hu;obtain⟨t,ht,hT⟩:=h.tr v hv d1;have aw:v<M.n:=by rw[h.n];exact hv
 obtain⟨kN,kL,kW,kI⟩:=h.ok.nd v aw;have ae:(M.nd v).at 1=some t:=ht;have ai:Z.frm (.fr v i)=⟨(u:Int),(v:Int),Z.byt u i⟩:=by
  unfold Zd.frm;simp only[hu,Int.toNat_natCast]
 have aj:=hZ.pk.ok i (by omega);rw[ai];have hL:A35 M ⟨(u:Int),(v:Int),Z.byt u i⟩ (.fr 1 (Z.rt:Int) 1 (dp Z.p Z.n u:Int) (Z.S i)):=by
  refine⟨?_,?_,rfl,⟨by omega,by omega,hZ.frame (by omega),aj.f,aj.b⟩,?_⟩
  ·show(0:Int)<=(v:Int);omega
  ·show(v:Int)<(M.n:Int);omega
  ·exact⟨t,by show(M.nd (v:Int).toNat).at _=_;rw[Int.toNat_natCast];exact ae⟩
 refine⟨_,hL,t,ht,λbv=>?_⟩;have ah:=h.ok.land (i:=j) hL bv;have hr:hrF t (u:Int) 1=0:=by
  unfold hrF;rw[if_neg];rw[hT.pa,hu,hT.ep];omega
 have e:M.land j ⟨(u:Int),(v:Int),Z.byt u i⟩ (.fr 1 (Z.rt:Int) 1 (dp Z.p Z.n u:Int) (Z.S i)) bv={ M with fl:=(X.eraseIdx j).map Z.frm++outs v ((M.nd v).A0t 0 t ((Z.S i).lies bv) (Z.rt:Int) (dp Z.p Z.n v:Int) M.nw).lt,nd:=A0h M.nd v { (M.nd v).A0t 0 t ((Z.S i).lies bv) (Z.rt:Int) (dp Z.p Z.n v:Int) M.nw with nw:=M.nw,lt:=[] } }:=by
  unfold Ms.land;simp only[Int.toNat_natCast];rw[ξ2c ae,if_pos hr,ξ2E,h.fl,ξ1L];have e1:(dp Z.p Z.n u:Int)+1=(dp Z.p Z.n v:Int):=by omega
  rw[e1];rfl
 rw[e]at ah ⊢;obtain⟨k1,k2⟩:=h.took hZ hv d1 hi (Ξo _) aq (Int.le_refl _) h1 ht rfl (λx hx'=>List.mem_of_mem_eraseIdx hx') ah rfl rfl rfl rfl rfl;refine⟨k1,k2,λv' k=>?_,rfl⟩;have am:ND.num t.rT ((Z.S i).lies bv).s=65536+(i:Int):=by
  have:((Z.S i).lies bv).s=(i:Int):=by
   show(Z.S i).s=_;rw[aj.num];simp
  rw[this];exact hT.num (by omega) (by omega)
 rw[ξ8w rfl,<-am];split
 ·exact ξaw k
 ·rfl
theorem ξ60(hZ:Z.Ok)(hm:m<=80)(v:Nat)(hT:TD Z.p Z.n u Z.rt Z.S m t):∀L:List Int,∃Y:List Nat,L.flatMap (A0w t (v:Int))=Y.map (λi=>((v:Int),Z.byt u i))/\(∀i∈Y,i<m)/\Y.length<=L.length
 | []=>⟨[],rfl,λi hi=>(by cases hi),Ξo _⟩
 | q::L=>by
   obtain⟨Y,y1,y2,y3⟩:=ξ60 hZ hm v hT L;have h1:A0w t (v:Int) q=[]∨∃i,i<m/\A0w t (v:Int) q=[((v:Int),Z.byt u i)]:=by
    unfold A0w;cases hf:t.rM.find? (λz=>z.1==ND.num t.rT q)with
    | none=>exact .inl rfl
    | some z=>
      obtain⟨zn,zp⟩:=z;obtain⟨i,q1,q2,q3,q4⟩:=hT.rn _ (List.mem_of_find?_eq_some hf);right;refine⟨i,q1,?_⟩;have q2:zn=65536+(i:Int):=q2;have q4:t.wy zn=((Z.rt:Int),(dp Z.p Z.n u:Int)):=q4;simp only[q4];have hF:FM.A0k t.tk (Z.rt:Int) t.ep (dp Z.p Z.n u:Int) (pby zp.s zp.t zp.l zp.q zp.st zp.L)=0:=by
       have:=hZ.frame (u:=u) (i:=i) (by omega);rw[<-q3]at this;rw[hT.tk,hT.ep];exact this
      rw[if_pos hF,hT.tk,hT.ep];unfold Zd.byt;rw[<-q3];rfl
   rw[List.flatMap_cons,y1];rcases h1 with e|⟨i,hi,e⟩
   ·exact⟨Y,by rw[e];rfl,y2,by rw[List.length_cons];omega⟩
   ·refine⟨i::Y,by rw[e];rfl,λk hk=>?_,by rw[List.length_cons,List.length_cons];omega⟩;rcases Ξf.1 hk with rfl|hk
    ·exact hi
    ·exact y2 k hk
theorem ξap{f:Nat->Option Tr}(h:f i=some t):A0f f i t=f:=by
 funext k
 unfold A0f;split
 ·rename_i e;rw[e,h]
 ·rfl
theorem WD.still(h:WD Z m X M)(hu:u<Z.n)(hr:0<=TM.dg Z.d u)(e0:MOk M2)(e1:M2.n=M.n)(er:M2.rt=M.rt)(es:M2.sb=M.sb)
 (e3:M2.nd=A0h M.nd u (A7u (M.nd u) tm (M.nd u).tr (M.nd u).sb)) (e4:M2.fl=X'.map Z.frm)
 (hX:∀x∈X',x∈X∨(∃c i,x=.fr c i/\c<Z.n/\i<m/\∃u:Nat,TM.dg Z.p c=(u:Int))∨(∃c k,x=.ky c k/\c<Z.n/\Back.A0o 2 1 [] k=0/\∃u:Nat,TM.dg Z.p c=(u:Int))):WD Z m X' M2:=by
 obtain⟨t,ht,hT⟩:=h.tr u hu hr;refine h.node hu hr (Ξo _) h.m80 e0 e1 er es (tm:=tm) (t':=t) (l:=(M.nd u).sb) ?_ hT ?_ e4 hX
 ·rw[ξap ht];exact e3
 ·by_cases c:u=Z.at'
  ·obtain⟨s,q1,q2⟩:=h.sa;exact .inr ⟨c,s,by rw[c];exact q1,q2⟩
  ·exact .inl ⟨c,h.sb u hu c⟩
theorem WD.B00(hZ:Z.Ok)(h:WD Z m X M){L:List Int}(hx:X[j]?=some (.lo v L)) :
 ∃g,A35 M (Z.frm (.lo v L)) g/\∃Y:List Nat,Y.length<=L.length/\∀bv,WD Z m (X.eraseIdx j++Y.map λi=>.fr v i) (M.land j (Z.frm (.lo v L)) g bv)/\(∀v' k,A2z (M.land j (Z.frm (.lo v L)) g bv) v' k=A2z M v' k)/\(M.land j (Z.frm (.lo v L)) g bv).nw=M.nw:=by
 obtain⟨hv,ax,au,u,hu⟩:=h.xl v L (List.mem_of_getElem? hx);obtain⟨d1,d2,aj,d4,d5⟩:=hZ.tr.down hv hu;obtain⟨t,ht,hT⟩:=h.tr u aj d4;have aw:u<M.n:=by rw[h.n];exact aj
 obtain⟨kN,kL,kW,kI⟩:=h.ok.nd u aw;have ae:(M.nd u).at 1=some t:=ht;have aq:(v:Int)∈t.kids:=by rw[hT.kids];exact ξ8K hv hu
 have am:Z.frm (.lo v L)=⟨(v:Int),(u:Int),Back.A0c 1 1 L 0⟩:=by
  show(⟨(v:Int),TM.dg Z.p v,Back.A0c 1 1 L 0⟩:Fl)=_;rw[hu]
 rw[am];have hL:A35 M ⟨(v:Int),(u:Int),Back.A0c 1 1 L 0⟩ (.lost 1 L):=by
  refine⟨?_,?_,rfl,⟨au,by omega⟩,?_⟩
  ·show(0:Int)<=(u:Int);omega
  ·show(u:Int)<(M.n:Int);omega
  ·exact⟨t,by show(M.nd (u:Int).toNat).at _=_;rw[Int.toNat_natCast];exact ae,aq⟩
 obtain⟨Y,y1,y2,y3⟩:=ξ60 hZ h.m80 v hT L;refine⟨_,hL,Y,y3,λbv=>?_⟩;have ah:=h.ok.land (i:=j) hL bv;have e:M.land j ⟨(v:Int),(u:Int),Back.A0c 1 1 L 0⟩ (.lost 1 L) bv={ M with fl:=(X.eraseIdx j++Y.map λi=>Fd.fr v i).map Z.frm,nd:=A0h M.nd u (A7u (M.nd u) M.nw (M.nd u).tr (M.nd u).sb) }:=by
  unfold Ms.land;simp only[Int.toNat_natCast];rw[ξ2r ae aq,ξ2E,h.fl,ξ1L,List.map_append];have e1:outs u ((M.nd u).lt++L.flatMap (A0w t (v:Int)))=(Y.map λi=>Fd.fr v i).map Z.frm:=by
   rw[kL,List.nil_append,y1];unfold outs;rw[List.map_map,List.map_map];refine List.map_congr_left ?_;intro q ay;show(⟨(u:Int),(v:Int),Z.byt u q⟩:Fl)=Z.frm (.fr v q);unfold Zd.frm;simp only[hu,Int.toNat_natCast]
  show({ M with fl:=(X.eraseIdx j).map Z.frm++outs u ((M.nd u).lt++L.flatMap (A0w t (v:Int))),nd:=_ }:Ms)=_;rw[e1];rfl
 rw[e]at ah ⊢;refine⟨h.still aj d4 ah rfl rfl rfl rfl rfl ?_,ξ5E rfl,rfl⟩;intro x ai;rcases Ξe.1 ai with ai|ai
 ·exact .inl (List.mem_of_mem_eraseIdx ai)
 ·obtain⟨i,hi,rfl⟩:=Ξi.1 ai;exact .inr (.inl ⟨v,i,rfl,hv,y2 i hi,u,hu⟩)
theorem WD.B01(hZ:Z.Ok)(h:WD Z m X M)(hx:X[j]?=some (.ky v k)) :
 ∃u:Nat,TM.dg Z.p v=(u:Int)/\u<Z.n/\∃g,A35 M (Z.frm (.ky v k)) g/\∀bv,WD Z m (X.eraseIdx j++if u=Z.rt then[]else[.ky u k]) (M.land j (Z.frm (.ky v k)) g bv)/\(∀v' q,A2z (M.land j (Z.frm (.ky v k)) g bv) v' q=A2z M v' q)/\(M.land j (Z.frm (.ky v k)) g bv).nw=M.nw:=by
 obtain⟨hv,aq,u,hu⟩:=h.xk v k (List.mem_of_getElem? hx);obtain⟨d1,d2,ah,d4,d5⟩:=hZ.tr.down hv hu;refine⟨u,hu,ah,?_⟩;obtain⟨t,ht,hT⟩:=h.tr u ah d4;have aw:u<M.n:=by rw[h.n];exact ah
 obtain⟨kN,kL,kW,kI⟩:=h.ok.nd u aw;have ai:(M.nd u).at 1=some t:=ht;have au:(v:Int)∈t.kids:=by rw[hT.kids];exact ξ8K hv hu
 have am:Z.frm (.ky v k)=⟨(v:Int),(u:Int),Back.A0c 2 1 [] k⟩:=by
  show(⟨(v:Int),TM.dg Z.p v,Back.A0c 2 1 [] k⟩:Fl)=_;rw[hu]
 rw[am];have hL:A35 M ⟨(v:Int),(u:Int),Back.A0c 2 1 [] k⟩ (.key 1 k):=by
  refine⟨?_,?_,rfl,aq,?_⟩
  ·show(0:Int)<=(u:Int);omega
  ·show(u:Int)<(M.n:Int);omega
  ·exact⟨t,by show(M.nd (u:Int).toNat).at _=_;rw[Int.toNat_natCast];exact ai,au⟩
 refine⟨_,hL,λbv=>?_⟩;have aj:=h.ok.land (i:=j) hL bv;have ax:(if t.pa=-1 then([]:List (Int×List Nat))else[(t.pa,Back.A0c 2 1 [] k)])=if u=Z.rt then[]else[(TM.dg Z.p u,Back.A0c 2 1 [] k)]:=by
  rw[hT.pa];by_cases c:u=Z.rt
  ·rw[if_pos c,c,hZ.tr.A28,if_pos rfl]
  ·obtain⟨u',e,_⟩:=hZ.tr.up ah d4 c;rw[if_neg c,e,if_neg (by omega)]
 have e:M.land j ⟨(v:Int),(u:Int),Back.A0c 2 1 [] k⟩ (.key 1 k) bv={ M with fl:=(X.eraseIdx j++if u=Z.rt then[]else[Fd.ky u k]).map Z.frm,nd:=A0h M.nd u (A7u (M.nd u) M.nw (M.nd u).tr (M.nd u).sb) }:=by
  unfold Ms.land;simp only[Int.toNat_natCast];rw[ξ38 ai au,ξ2E,h.fl,ξ1L,List.map_append,ax];have e1:outs u ((M.nd u).lt++if u=Z.rt then[]else[(TM.dg Z.p u,Back.A0c 2 1 [] k)])=(if u=Z.rt then[]else[Fd.ky u k]).map Z.frm:=by
   rw[kL,List.nil_append];split
   ·rfl
   ·rfl
  show({ M with fl:=(X.eraseIdx j).map Z.frm++outs u ((M.nd u).lt++if u=Z.rt then[]else[(TM.dg Z.p u,Back.A0c 2 1 [] k)]),nd:=_ }:Ms)=_;rw[e1];rfl
 rw[e]at aj ⊢;refine⟨h.still ah d4 aj rfl rfl rfl rfl rfl ?_,ξ5E rfl,rfl⟩;intro x ae;rcases Ξe.1 ae with ae|ae
 ·exact .inl (List.mem_of_mem_eraseIdx ae)
 ·split at ae
  ·cases ae
  ·rename_i c;rw[Ξg]at ae;obtain⟨u',e,_⟩:=hZ.tr.up ah d4 c;exact .inr (.inr ⟨u,k,ae,ah,aq,u',e⟩)
theorem WD.A9l(h:WD Z m X M)(j:Nat):WD Z m (X.eraseIdx j) { M with fl:=M.fl.eraseIdx j }:=by
 have e:∀x∈X.eraseIdx j,x∈X:=λx hx=>List.mem_of_mem_eraseIdx hx;refine⟨?_,h.n,h.rtt,h.sbs,h.tr,h.nr,h.no,h.sb,h.sa,?_,λv i hx=>h.xf v i (e _ hx),λv L hx=>h.xl v L (e _ hx),λv k hx=>h.xk v k (e _ hx),h.m80⟩
 ·obtain⟨a1,a2,a3,a4⟩:=h.ok;exact⟨a1,a2,a3,a4⟩
 ·show M.fl.eraseIdx j=_;rw[h.fl,ξ1L]
theorem WD.twice(h:WD Z m X M)(hx:X[j]?=some x):WD Z m (X++[x]) { M with fl:=M.fl++[Z.frm x] }:=by
 have hm:=List.mem_of_getElem? hx;have e:∀y∈X++[x],y∈X:=λy hy=>by
  rcases Ξe.1 hy with hy|hy
  ·exact hy
  ·rw[Ξg]at hy;rw[hy];exact hm
 refine⟨?_,h.n,h.rtt,h.sbs,h.tr,h.nr,h.no,h.sb,h.sa,?_,λv i hx=>h.xf v i (e _ hx),λv L hx=>h.xl v L (e _ hx),λv k hx=>h.xk v k (e _ hx),h.m80⟩
 ·obtain⟨a1,a2,a3,a4⟩:=h.ok;exact⟨a1,a2,a3,a4⟩
 ·show M.fl++_=_;rw[h.fl,List.map_append];rfl
variable {Z:Zd}{m:Nat}{X:List Fd}{M:Ms}
theorem WD.send(hZ:Z.Ok)(h:WD Z m X M)(hm:m<80)(h1:M.nw<=1000000)(ht:(M.nd Z.rt).tr 0=some t)(hp:ppk pk=Z.S m) :
 t.pa=-1/\(WD Z (m+1) (X++Z.news Z.rt m) (M.send 0 Z.rt t pk)∨WD Z (m+1) X (M.send 0 Z.rt t pk)):=by
 have hr:=hZ.tr.rn;have ai:0<=TM.dg Z.d Z.rt:=by have:=hZ.tr.dist.root hr;omega
 have aj:Z.rt<M.n:=by rw[h.n];exact hr
 obtain⟨kN,kL,kW,kI⟩:=h.ok.nd Z.rt aj;obtain⟨t',ah,hT⟩:=h.tr Z.rt hr ai;rw[ht]at ah;simp only[Option.some.injEq]at ah;subst ah;have am:t.pa=-1:=by rw[hT.pa];exact hZ.tr.A28
 refine⟨am,?_⟩;have hf:PM.fault pk.s pk.t pk.l pk.q pk.L.length=0:=by
  have:=(hZ.pk.ok m (by omega)).f;rw[<-hp]at this;exact this
 have ae:=h.ok.send (k:=0) (by omega) aj ht (p:=pk) hf;have aq:dp Z.p Z.n Z.rt=1:=hZ.tr.A8d hr hZ.tr.A28;have e:M.send 0 Z.rt t pk={ M with fl:=X.map Z.frm++outs Z.rt ((M.nd Z.rt).A0t 0 t pk (Z.rt:Int) (dp Z.p Z.n Z.rt:Int) M.nw).lt,nd:=A0h M.nd Z.rt { (M.nd Z.rt).A0t 0 t pk (Z.rt:Int) (dp Z.p Z.n Z.rt:Int) M.nw with nw:=M.nw,lt:=[] } }:=by
  have e1:({ M.nd Z.rt with nw:=M.nw }:Nd).A0t 0 t pk (M.nd Z.rt).id 1 M.nw={ (M.nd Z.rt).A0t 0 t pk (Z.rt:Int) (dp Z.p Z.n Z.rt:Int) M.nw with nw:=M.nw }:=by
   rw[kI,aq];unfold Nd.A0t;split<;>rfl
  unfold Ms.send;have e2:=ξ2E M M.fl Z.rt ({ (M.nd Z.rt).A0t 0 t pk (Z.rt:Int) (dp Z.p Z.n Z.rt:Int) M.nw with nw:=M.nw }:Nd);rw[h.fl]at e2;rw[<-e1]at e2;have e3:({ M with nd:=A0h M.nd Z.rt (({ M.nd Z.rt with nw:=M.nw }:Nd).A0t 0 t pk (M.nd Z.rt).id 1 M.nw) }:Ms)={ M with fl:=X.map Z.frm,nd:=A0h M.nd Z.rt (({ M.nd Z.rt with nw:=M.nw }:Nd).A0t 0 t pk (M.nd Z.rt).id 1 M.nw) }:=by rw[<-h.fl]
  rw[e3,e2,e1]
 rw[e]at ae ⊢;obtain⟨q1,q2⟩:=h.took hZ hr ai (i:=m) (m':=m+1) (by omega) (by omega) (by omega) (Int.le_refl _) h1 ht hp (λx hx=>hx) ae rfl rfl rfl rfl rfl;cases hB:GM.hB t.gn t.gT t.gM (65536+(m:Int)) M.nw with
 | true=>exact .inl (q1 hB)
 | false=>exact .inr (q2 hB)
theorem A9s(h:∀k,0<k->k<8->N.tr k=none):N.A0i now 8=N.A1v 0 now:=by
 rw[ξ17 (j:=7) (.inl (h 7 (by omega) (by omega))),ξ17 (j:=6) (.inl (h 6 (by omega) (by omega))),ξ17 (j:=5) (.inl (h 5 (by omega) (by omega))),ξ17 (j:=4) (.inl (h 4 (by omega) (by omega))),ξ17 (j:=3) (.inl (h 3 (by omega) (by omega))),ξ17 (j:=2) (.inl (h 2 (by omega) (by omega))),ξ17 (j:=1) (.inl (h 1 (by omega) (by omega)))];rfl
variable {Z:Zd}{m:Nat}{X:List Fd}{M:Ms}
structure AskD(Z:Zd)(m:Nat)(v:Nat)(A:Nd)(l:List Fd):Prop where
 tr:∃t,A.tr 0=some t/\TD Z.p Z.n v Z.rt Z.S m t
 no:∀k,0<k->k<8->A.tr k=none
 sb:(v≠Z.at'->A.sb=[])/\(v=Z.at'->∃s,A.sb=[(1,s)]/\SD Z.S m Z.mo s)
 lt:outs v A.lt=l.map Z.frm
 few:l.length<=1
 is:∀x∈l,∃L,x=.lo v L/\L.length<=200/\Back.A0o 1 1 L 0=0/\∃u:Nat,TM.dg Z.p v=(u:Int)
theorem WD.ask(hZ:Z.Ok)(h:WD Z m X M)(now:Int)(hv:v<Z.n)(hr:0<=TM.dg Z.d v):∃l,AskD Z m v (({ (M.nd v)with nw:=now }:Nd).A0i now 8) l:=by
 obtain⟨t,ht,ae⟩:=h.tr v hv hr;have ah:=h.no v hv;have au:v<M.n:=by rw[h.n];exact hv
 obtain⟨kN,kL,kW,kI⟩:=h.ok.nd v au;have hO:A3h M.n (M.nd v).nw 0 t:=kN.tr 0 (by omega) t ht;rw[A9s (N:={ (M.nd v)with nw:=now }) ah];have ai:(v≠Z.at'->(M.nd v).sb=[])/\(v=Z.at'->∃s,(M.nd v).sb=[(1,s)]/\SD Z.S m Z.mo s):=⟨λc=>h.sb v hv c,λc=>by rw[c];exact h.sa⟩;by_cases hpa:t.pa=-1
 ·have e:({ (M.nd v)with nw:=now }:Nd).A1v 0 now={ (M.nd v)with nw:=now }:=by
   unfold Nd.A1v;show(match (M.nd v).tr 0 with|none=>_|some t=>_)=_;rw[ht];simp only[hpa,if_true]
  rw[e];refine⟨[],⟨t,ht,ae⟩,ah,ai,?_,by simp,λx hx=>(by cases hx)⟩;show outs v (M.nd v).lt=_;rw[kL];rfl
 ·obtain⟨N1,aj⟩:=nm (({ (M.nd v)with nw:=now }:Nd).A1v 0 now);have e:N1={ (M.nd v)with nw:=now,tr:=A0f (M.nd v).tr 0 { t with gn:=now,gM:=GM.dM 3 3 now t.gM,gG:=[] },lt:=(M.nd v).lt++(if GM.A07 3 3 now t.gM=[]then[]else[(t.pa,Back.A0c 1 t.tk (BM.norm (sq (GM.A07 3 3 now t.gM))) 0)]),sb:=A10 t.tk (λs=>(GM.A0q 3 3 now t.gM).foldl (λs y=>s.gone y now) s) (M.nd v).sb }:=by
   rw[<-aj];unfold Nd.A1v;show(match (M.nd v).tr 0 with|none=>_|some t=>_)=_;rw[ht];simp only[hpa,if_false]
  have e_tr:N1.tr=A0f (M.nd v).tr 0 { t with gn:=now,gM:=GM.dM 3 3 now t.gM,gG:=[] }:=by rw[e]
  have e_lt:N1.lt=(if GM.A07 3 3 now t.gM=[]then[]else[(t.pa,Back.A0c 1 t.tk (BM.norm (sq (GM.A07 3 3 now t.gM))) 0)]):=by rw[e,kL];rfl
  have e_sb:N1.sb=A10 1 (λs=>(GM.A0q 3 3 now t.gM).foldl (λs y=>s.gone y now) s) (M.nd v).sb:=by rw[e,ae.tk]
  rw[aj];have aw:v≠Z.rt:=λc=>hpa (by rw[ae.pa,c];exact hZ.tr.A28);obtain⟨u,hu,_⟩:=hZ.tr.up hv hr aw;have hS:(v≠Z.at'->N1.sb=[])/\(v=Z.at'->∃s,N1.sb=[(1,s)]/\SD Z.S m Z.mo s):=by
   refine⟨λc=>by rw[e_sb,ai.1 c];rfl,λc=>?_⟩;obtain⟨s,q1,q2⟩:=ai.2 c;exact⟨_,by rw[e_sb,q1,ξ5v q2.tk],q2.A6c _ now (ae.gave now)⟩
  have am:∃t,N1.tr 0=some t/\TD Z.p Z.n v Z.rt Z.S m t:=⟨_,by rw[e_tr];exact ξ2R _ _ _,ae.ask now⟩;have aq:∀k,0<k->k<8->N1.tr k=none:=λk h1 h2=>by rw[e_tr,ξ6n _ _ (by omega)];exact ah k h1 h2
  by_cases hd:GM.A07 3 3 now t.gM=[]
  ·rw[if_pos hd]at e_lt;exact⟨[],am,aq,hS,by rw[e_lt];rfl,by simp,λx hx=>(by cases hx)⟩
  ·rw[if_neg hd,ae.tk,ae.pa]at e_lt;obtain⟨d1,d2,_⟩:=ξ2N hO (by omega) hd;rw[ae.tk]at d1;refine⟨[.lo v (BM.norm (sq (GM.A07 3 3 now t.gM)))],am,aq,hS,by rw[e_lt];rfl,by simp,λx hx=>?_⟩;rw[Ξg]at hx;exact⟨_,hx,d2,d1,u,hu⟩
variable {Z:Zd}{m:Nat}{X:List Fd}{M:Ms}
theorem ξdm(h0:0<=k)(h3:k<=3):Back.A0o 2 1 [] k=0:=by
 rcases(by omega:k=0∨k=1∨k=2∨k=3)with rfl|rfl|rfl|rfl<;>decide
structure TickD(Z:Zd)(m:Nat)(v:Nat)(N:Nd)(l:List Fd):Prop where
 tr:∃t,N.tr 0=some t/\TD Z.p Z.n v Z.rt Z.S m t
 no:∀k,0<k->k<8->N.tr k=none
 sb:(v≠Z.at'->N.sb=[])/\(v=Z.at'->∃s,N.sb=[(1,s)]/\SD Z.S m Z.mo s)
 lt:outs v N.lt=l.map Z.frm
 wt:Z.wds l<=218
 is:∀x∈l,(∃L,x=.lo v L/\L.length<=200/\Back.A0o 1 1 L 0=0/\∃u:Nat,TM.dg Z.p v=(u:Int))∨(∃k,x=.ky v k/\Back.A0o 2 1 [] k=0/\∃u:Nat,TM.dg Z.p v=(u:Int))
theorem AskD.wt{A:Nd}{l:List Fd}(h:AskD Z m v A l):Z.wds l<=201:=by
 have hf:=h.few;cases l with
 | nil=>exact Nat.zero_le _
 | cons x l=>
   have:l=[]:=Ξk (by simpa using hf);subst this;obtain⟨L,e,e2,_⟩:=h.is x (List.mem_cons_self ..);rw[e];show L.length+1+0<=201;omega
theorem WD.A7d(hZ:Z.Ok)(hmo:0<=Z.mo/\Z.mo<=3)(h:WD Z m X M)(h0:M.nw<=now)(h1:now<=1000000)(hv:v<Z.n)(hr:0<=TM.dg Z.d v):∃l,TickD Z m v ((M.nd v).tick now) l:=by
 obtain⟨l,hA⟩:=h.ask hZ now hv hr;have ax:v<M.n:=by rw[h.n];exact hv
 obtain⟨kN,kL,kW,kI⟩:=h.ok.nd v ax;have hK:=(kN.later (Int.le_trans kW h0) h1).A0i 8 (Ξo _);have hq:=ξ1c ({ (M.nd v)with nw:=now }:Nd) now 8;obtain⟨A,aj⟩:=nm (({ (M.nd v)with nw:=now }:Nd).A0i now 8);have hK:A0v M.n A:=by rw[<-aj];exact hK
 rw[aj]at hA hq;have aA:A.nw=now:=hq.1;have e:(M.nd v).tick now=(A.A27 now).starts now (A.A27 now).sb:=by
  unfold Nd.tick;rw[aj]
 obtain⟨t2,ai,ah⟩:=hA.tr;by_cases c:v=Z.at'
 ·obtain⟨s,q1,q2⟩:=hA.sb.2 c;have am:A1k A.nw s:=(hK.sb (1,s) (by rw[q1];exact Ξg.2 rfl)).1;have ay:OM.tf s.on now=0:=ξ2m am.oi.c1 (by have:=am.on;omega) h1;have ae:=q2.A1r hZ.pk h.m80 am.oi ay;have e2:(A.A27 now).sb=[(1,s.A1r now)]:=by
   show A5h now A.sb=_;rw[q1];rfl
  have e3:(M.nd v).tick now=(A.A27 now).A2c now (s.A1r now):=by
   rw[e,e2];rfl
  have aq:(A.A27 now).at (s.A1r now).tk=some t2:=by
   rw[ae.tk];exact ai
  by_cases w:(s.A1r now).wants=false∨t2.pa=-1
  ·have e4:(M.nd v).tick now=A.A27 now:=by
    rw[e3];unfold Nd.A2c;rw[aq];simp only[];rw[if_pos w]
   rw[e4];exact⟨l,⟨t2,ai,ah⟩,hA.no,⟨λx=>absurd c x,λ_=>⟨_,e2,ae⟩⟩,hA.lt,by have:=hA.wt;omega,λx hx=>.inl (hA.is x hx)⟩
  ·have az:v≠Z.rt:=λx=>w (.inr (by rw[ah.pa,x];exact hZ.tr.A28));obtain⟨u,hu,_⟩:=hZ.tr.up hv hr az;obtain⟨N2,au⟩:=nm ((M.nd v).tick now);have e4:N2.tr=A.tr/\N2.sb=(A.A27 now).sb/\(N2.lt=A.lt∨N2.lt=A.lt++[(t2.pa,Back.A0c 2 (s.A1r now).tk [] (s.A1r now).mo)]):=by
    rw[<-au,e3];unfold Nd.A2c;rw[aq];simp only[];rw[if_neg w];refine⟨rfl,rfl,?_⟩;split
    ·exact .inr rfl
    ·exact .inl (Ξu _)
   obtain⟨g1,g2,g3⟩:=e4;rw[au];have aw:∀k,0<k->k<8->N2.tr k=none:=λk a b=>by rw[g1];exact hA.no k a b
   rcases g3 with g3|g3
   ·exact⟨l,⟨t2,by rw[g1];exact ai,ah⟩,aw,⟨λx=>absurd c x,λ_=>⟨_,g2.trans e2,ae⟩⟩,by rw[g3];exact hA.lt,by have:=hA.wt;omega,λx hx=>.inl (hA.is x hx)⟩
   ·refine⟨l++[.ky v Z.mo],⟨t2,by rw[g1];exact ai,ah⟩,aw,⟨λx=>absurd c x,λ_=>⟨_,g2.trans e2,ae⟩⟩,?_,(by
     have h1:=hA.wt;have h2:=ξ6k Z.p Z.n v;have h3:=hZ.tr.fit.hi;rw[Zd.A1s];show Z.wds l+(dp Z.p Z.n v+1+0)<=218;omega),λx hx=>?_⟩
    ·rw[g3,List.map_append,<-hA.lt,ae.tk,ae.mo,ah.pa];unfold outs;rw[List.map_append];rfl
    ·rcases Ξe.1 hx with hx|hx
     ·exact .inl (hA.is x hx)
     ·rw[Ξg]at hx;exact .inr ⟨_,hx,ξdm hmo.1 hmo.2,u,hu⟩
 ·have q1:=hA.sb.1 c;have e2:(A.A27 now).sb=[]:=by
   show A5h now A.sb=_;rw[q1];rfl
  have e4:(M.nd v).tick now=A.A27 now:=by
   rw[e,e2];rfl
  rw[e4];exact⟨l,⟨t2,ai,ah⟩,hA.no,⟨λ_=>e2,λx=>absurd x c⟩,hA.lt,by have:=hA.wt;omega,λx hx=>.inl (hA.is x hx)⟩
variable {Z:Zd}{m:Nat}{X:List Fd}{M:Ms}
theorem WD.A8e(hZ:Z.Ok)(h:WD Z m X M)(now:Int)(hv:v<Z.n)(hr:¬0<=TM.dg Z.d v):((M.nd v).tick now).tr 0=none/\(∀k,0<k->k<8->((M.nd v).tick now).tr k=none)/\((M.nd v).tick now).sb=[]/\((M.nd v).tick now).lt=[]:=by
 have hn:=h.nr v hv hr;have ae:=h.no v hv;have ah:=h.sb v hv (λc=>hr (by rw[c];exact hZ.ar));have ai:v<M.n:=by rw[h.n];exact hv
 obtain⟨kN,kL,kW,kI⟩:=h.ok.nd v ai;have e1:({ (M.nd v)with nw:=now }:Nd).A0i now 8={ (M.nd v)with nw:=now }:=by
  rw[A9s (N:={ (M.nd v)with nw:=now }) ae];unfold Nd.A1v;show(match (M.nd v).tr 0 with|none=>_|some t=>_)=_;rw[hn]
 have e2:(({ (M.nd v)with nw:=now }:Nd).A27 now).sb=[]:=by
  show A5h now (M.nd v).sb=_;rw[ah];rfl
 have e:(M.nd v).tick now=({ (M.nd v)with nw:=now }:Nd).A27 now:=by
  unfold Nd.tick;rw[e1,e2];rfl
 rw[e];exact⟨hn,ae,e2,kL⟩
def B02(Z:Zd)(x:Fd):Prop:=(∃v L,x=.lo v L/\v<Z.n/\L.length<=200/\Back.A0o 1 1 L 0=0/\∃u:Nat,TM.dg Z.p v=(u:Int))∨(∃v k,x=.ky v k/\v<Z.n/\Back.A0o 2 1 [] k=0/\∃u:Nat,TM.dg Z.p v=(u:Int))
theorem WD.says(hZ:Z.Ok)(hmo:0<=Z.mo/\Z.mo<=3)(h:WD Z m X M)(h0:M.nw<=now)(h1:now<=1000000):∀l:List Nat,(∀v∈l,v<Z.n)->∃Y:List Fd,(l.flatMap λv=>outs v ((M.nd v).tick now).lt)=Y.map Z.frm/\(∀x∈Y,B02 Z x)/\Z.wds Y<=218*l.length
 | [],_=>⟨[],rfl,λx hx=>(by cases hx),Ξo _⟩
 | v::l,hl=>by
   have hv:=hl v (List.mem_cons_self ..);obtain⟨Y,y1,y2,y3⟩:=WD.says hZ hmo h h0 h1 l (λx hx=>hl x (List.mem_cons_of_mem _ hx));by_cases hr:0<=TM.dg Z.d v
   ·obtain⟨l2,hT⟩:=h.A7d hZ hmo h0 h1 hv hr;refine⟨l2++Y,by rw[List.flatMap_cons,y1,hT.lt,List.map_append],λx hx=>?_,by have:=hT.wt;rw[Zd.A1s,List.length_cons];omega⟩;rcases Ξe.1 hx with hx|hx
    ·rcases hT.is x hx with⟨L,e,q⟩|⟨k,e,q⟩
     ·exact .inl ⟨v,L,e,hv,q⟩
     ·exact .inr ⟨v,k,e,hv,q⟩
    ·exact y2 x hx
   ·obtain⟨_,_,_,q⟩:=h.A8e hZ now hv hr;exact⟨Y,by rw[List.flatMap_cons,y1,q];rfl,y2,by rw[List.length_cons];omega⟩
theorem WD.A0n(hZ:Z.Ok)(hmo:0<=Z.mo/\Z.mo<=3)(h:WD Z m X M)(h0:M.nw<=now)(h1:now<=1000000):∃Y,WD Z m (X++Y) (M.A0n now M.n)/\(∀x∈Y,B02 Z x)/\Z.wds Y<=218*Z.n:=by
 obtain⟨Y,y1,y2,y3⟩:=h.says hZ hmo h0 h1 (List.range M.n) (λv hv=>by rw[<-h.n];simpa using hv);have ae:∀v,v<Z.n->(M.A0n now M.n).nd v={ (M.nd v).tick now with lt:=[] }:=by
  intro v hv;show(if v<M.n then({ (M.nd v).tick now with lt:=[] }:Nd)else M.nd v)=_;rw[if_pos (by rw[h.n];exact hv)]
 refine⟨Y,⟨h.ok.A0n h0 h1 _,h.n,h.rtt,h.sbs,?_,?_,?_,?_,?_,?_,?_,?_,?_,h.m80⟩,y2,by rw[List.length_range,h.n]at y3;exact y3⟩
 ·intro v hv hr;obtain⟨l2,hT⟩:=h.A7d hZ hmo h0 h1 hv hr;rw[ae v hv];exact hT.tr
 ·intro v hv hr;rw[ae v hv];exact(h.A8e hZ now hv hr).1
 ·intro v hv k a b;rw[ae v hv];by_cases hr:0<=TM.dg Z.d v
  ·obtain⟨l2,hT⟩:=h.A7d hZ hmo h0 h1 hv hr;exact hT.no k a b
  ·exact(h.A8e hZ now hv hr).2.1 k a b
 ·intro v hv hn;rw[ae v hv];by_cases hr:0<=TM.dg Z.d v
  ·obtain⟨l2,hT⟩:=h.A7d hZ hmo h0 h1 hv hr;exact hT.sb.1 hn
  ·exact(h.A8e hZ now hv hr).2.2.1
 ·obtain⟨l2,hT⟩:=h.A7d hZ hmo h0 h1 hZ.at' hZ.ar;rw[ae _ hZ.at'];exact hT.sb.2 rfl
 ·show M.fl++_=_;rw[h.fl,List.map_append,<-y1]
 ·intro v i hx;rcases Ξe.1 hx with hx|hx
  ·exact h.xf v i hx
  ·rcases y2 _ hx with⟨_,_,e,_⟩|⟨_,_,e,_⟩<;>cases e
 ·intro v L hx;rcases Ξe.1 hx with hx|hx
  ·exact h.xl v L hx
  ·rcases y2 _ hx with⟨v',L',e,q⟩|⟨_,_,e,_⟩
   ·injection e with a b;rw[a,b];exact q
   ·cases e
 ·intro v k hx;rcases Ξe.1 hx with hx|hx
  ·exact h.xk v k hx
  ·rcases y2 _ hx with⟨_,_,e,_⟩|⟨v',k',e,q⟩
   ·cases e
   ·injection e with a b;rw[a,b];exact q
end Go.Proofs.YtpiamlgmadnepaaGreat.MS
