/-
 What the proof needs.
-/
import Derived.Test.YtpiamlgmadnepaaGreatMdMid
import Derived.Test.YtpiamlgmadnepaaGreatAuditAll
import Derived.Lib.OwnKind
open Go.Proofs.Tryz
set_option linter.unusedVariables false
set_option maxHeartbeats 4000000
set_option maxRecDepth 100000
namespace Go.Proofs.YtpiamlgmadnepaaGreat.MS
open ChangeShapes WideShapes ChangeAt RowKit Maps Mem NO ND
variable {t:Tr}{i g j b n v c base e size g0 cap vb:Nat}{now l a0 a1 a2:Int}{f:Nat->Nat}{M:Ms}{o:Nat->Tg}{bs ks L:List Nat}{st:Bool}{xs:List Value}{O:Obj}
theorem ξcY(hI:∀x∈t.gM,x.n<t.gT)(hB:GM.hB t.gn t.gT t.gM (65536+(i:Int)) now=true) :
 opn t i=true/\opn (t.heard (65536+(i:Int)) now) i=false/\∀k,opn (t.heard (65536+(i:Int)) now) k=true->opn t k=true:=by
 unfold GM.hB GM.hx at hB;rw[Bool.and_eq_true,decide_eq_true_eq]at hB;obtain⟨hf,hx⟩:=hB;have e1:(t.heard (65536+(i:Int)) now).gT=GM.hT t.gT (65536+(i:Int)):=by
  show GM.hU _ _ _ _ _=_;unfold GM.hU;rw[if_pos hf]
 have e2:(t.heard (65536+(i:Int)) now).gM=GM.hM t.gT t.gM (65536+(i:Int)):=by
  show GM.hL _ _ _ _ _=_;unfold GM.hL;rw[if_pos hf]
 unfold opn;rw[e1,e2];refine⟨hx,?_,λk hk=>?_⟩
 ·rw[Bool.or_eq_false_iff,decide_eq_false_iff_not];unfold GM.hT GM.hM;by_cases c:t.gT<65536+(i:Int)
  ·rw[if_pos c,if_pos c];refine⟨by omega,?_⟩;cases hh:GM.has (t.gM++GM.fresh t.gT (GM.lo t.gT (65536+(i:Int))).toNat) (65536+(i:Int))with
   | false=>rfl
   | true=>
     obtain⟨x,ae,hn⟩:=GM.ξn.1 hh;rcases Ξe.1 ae with ae|ae
     ·have:=hI x ae;omega
     ·obtain⟨q,hq,rfl⟩:=GM.ξ1D.1 ae;have hn:t.gT+1+(q:Int)=65536+(i:Int):=hn;unfold GM.lo at hq;split at hq<;>omega
  ·rw[if_neg c,if_neg c];refine⟨c,?_⟩;cases hh:GM.has (t.gM.filter λx=>decide (x.n≠65536+(i:Int))) (65536+(i:Int))with
   | false=>rfl
   | true=>
     obtain⟨x,ae,hn⟩:=GM.ξn.1 hh;have:=(Ξj.1 ae).2;rw[decide_eq_true_eq]at this;exact absurd hn this
 ·rw[Bool.or_eq_true,decide_eq_true_eq]at hk ⊢;unfold GM.hT GM.hM at hk;by_cases c:t.gT<65536+(i:Int)
  ·rw[if_pos c,if_pos c]at hk;rcases hk with hk|hk
   ·exact .inl (by omega)
   ·obtain⟨x,ae,hn⟩:=GM.ξn.1 hk;rcases Ξe.1 ae with ae|ae
    ·exact .inr (GM.ξn.2 ⟨x,ae,hn⟩)
    ·obtain⟨q,hq,rfl⟩:=GM.ξ1D.1 ae;have hn:t.gT+1+(q:Int)=65536+(k:Int):=hn;exact .inl (by omega)
  ·rw[if_neg c,if_neg c]at hk;rcases hk with hk|hk
   ·exact .inl hk
   ·obtain⟨x,ae,hn⟩:=GM.ξn.1 hk;exact .inr (GM.ξn.2 ⟨x,(Ξj.1 ae).1,hn⟩)
theorem ξcZ(hB:GM.hB t.gn t.gT t.gM (65536+(i:Int)) now=false):∀k,opn (t.heard (65536+(i:Int)) now) k=opn t k:=by
 have h:(t.heard (65536+(i:Int)) now).gT=t.gT/\(t.heard (65536+(i:Int)) now).gM=t.gM:=by
  show GM.hU t.gn t.gT t.gM (65536+(i:Int)) now=_/\GM.hL t.gn t.gT t.gM (65536+(i:Int)) now=_;unfold GM.hU GM.hL;unfold GM.hB GM.hx at hB;by_cases hf:GM.hf t.gn t.gT t.gM (65536+(i:Int)) now=0
  ·rw[decide_eq_true hf,Bool.true_and,Bool.or_eq_false_iff,decide_eq_false_iff_not]at hB;rw[if_pos hf,if_pos hf];unfold GM.hT GM.hM;rw[if_neg hB.1,if_neg hB.1];exact⟨rfl,List.filter_eq_self.2 (λx hx=>by simpa using GM.ξ13 hB.2 x hx)⟩
  ·rw[if_neg hf,if_neg hf];exact⟨rfl,rfl⟩
 intro k;unfold opn;rw[h.1,h.2]
def A4o(f:Nat->Nat):Nat->Nat
 | 0=>0
 | n+1=>A4o f n+f n
theorem ξ52{g:Nat->Nat}:∀n:Nat,(∀i,i<n->f i<=g i)->A4o f n<=A4o g n
 | 0,_=>Ξo _
 | n+1,h=>by
   have h1:=ξ52 n (λi hi=>h i (by omega));have h2:=h n (by omega);show A4o f n+f n<=A4o g n+g n;omega
theorem ξ51{g:Nat->Nat}{d:Nat}:∀n:Nat,(∀i,i<n->f i<=g i)->j<n->f j+d<=g j->A4o f n+d<=A4o g n
 | 0,_,hj,_=>absurd hj (Nat.not_lt_zero _)
 | n+1,h,hj,hd=>by
   show A4o f n+f n+d<=A4o g n+g n;by_cases c:j=n
   ·have h1:=ξ52 n (λi hi=>h i (by omega));subst c;omega
   ·have h1:=ξ51 n (λi hi=>h i (by omega)) (by omega) hd;have h2:=h n (by omega);omega
theorem ξ53:∀n:Nat,(∀i,i<n->f i<=b)->A4o f n<=n*b
 | 0,_=>by simp[A4o]
 | n+1,h=>by
   have h1:=ξ53 n (λi hi=>h i (by omega));have h2:=h n (by omega);show A4o f n+f n<=(n+1)*b;rw[Nat.succ_mul];omega
def A8q(M:Ms)(v:Nat):Nat:=A4o (λk=>if A2z M v k=true then 17 else 0) 80
def A4p(M:Ms)(n:Nat):Nat:=A4o (A8q M) n
theorem ξeI(M:Ms)(hn:n<=16):A4p M n<=21760:=by
 have h:=ξ53 (f:=A8q M) (b:=1360) n (λv hv=>by
  have:=ξ53 (f:=λk=>if A2z M v k=true then 17 else 0) (b:=17) 80 (λk hk=>by
   show(if A2z M v k=true then 17 else 0)<=17;split<;>omega)
  exact this)
 show A4o (A8q M) n<=21760;omega
theorem ξ3p{M2:Ms}(h:∀v k,A2z M2 v k=A2z M v k)(n:Nat):A4p M2 n=A4p M n:=by
 have:A8q M2=A8q M:=by
  funext v
  unfold A8q
  congr 1
  funext k
  rw[h]
 unfold A4p;rw[this]
variable {Z:Zd}{m:Nat}{X:List Fd}{M:Ms}
def FID(Z:Zd)(m:Nat)(tm:Int)(g:Nat)(M:Ms):Prop:=∃X,WD Z m X M/\M.nw=tm/\Z.wds X+A4p M Z.n<=g/\g<=450000
theorem WD.gmem(h:WD Z m X M)(hv:v<Z.n)(ht:(M.nd v).tr 0=some t):∀x∈t.gM,x.n<t.gT:=by
 have ae:v<M.n:=by rw[h.n];exact hv
 have hO:A3h M.n (M.nd v).nw 0 t:=(h.ok.nd v ae).1.tr 0 (by omega) t ht;intro x hx;exact(hO.gi.mem x hx).2.1
theorem ξdf(hZ:Z.Ok){tm:Int}(h1:tm<=1000000):A8c (FID Z m tm):=by
 constructor
 ·rintro g M ⟨X,h,_,hg,hb⟩;refine⟨h.ok,?_⟩;rw[h.fl,Ξm];have:=Z.A40 X;omega
 ·rintro g M f F ⟨X,h,ht,hg,hb⟩ aj;have am:=hZ.tr.fit.hi;obtain⟨x,X',rfl,rfl⟩:∃x X',X=x::X'/\Z.frm x=f:=by
   have e:=h.fl;rw[aj]at e;cases X with
   | nil=>cases e
   | cons x X'=>
     rw[List.map_cons]at e;injection e with e1 e2;exact⟨x,X',rfl,e1.symm⟩
  have au:Z.wd x+Z.wds X'+A4p M Z.n<=g:=hg;cases x with
  | fr v i=>
    obtain⟨gm,hL,t,ae,hN⟩:=h.B0z hZ (by omega) (j:=0) (v:=v) (i:=i) rfl;obtain⟨hv,hi,u,hu⟩:=h.xf v i (List.mem_cons_self ..);have aw:=h.m80;refine⟨gm,hL,λbv=>?_⟩;obtain⟨q1,q2,q3,q4⟩:=hN bv;have hw:Z.wd (.fr v i)=1:=rfl;cases hB:GM.hB t.gn t.gT t.gM (65536+(i:Int)) M.nw with
    | true=>
      obtain⟨o1,o2,o3⟩:=ξcY (h.gmem hv ae) hB;have ax:=Z.A5r v i;have ah:=Z.A3q (Z.news v i) (λx hx=>by
       obtain⟨c,e,_⟩:=Zd.A3d hx;exact⟨c,i,e⟩)
      have ai:∀k,A2z M v k=opn t k:=λk=>by
       unfold A2z;rw[ae];rfl
      have hp:A4p (M.land 0 (Z.frm (.fr v i)) gm bv) Z.n+17<=A4p M Z.n:=by
       refine ξ51 (j:=v) Z.n (λu hu=>?_) hv ?_
       ·refine ξ52 80 (λk hk=>?_);show(if A2z _ u k=true then 17 else 0)<=(if A2z M u k=true then 17 else 0);rw[q3];by_cases c:u=v
        ·rw[if_pos c,c,ai];by_cases c2:opn (t.heard (65536+(i:Int)) M.nw) k=true
         ·rw[if_pos c2,if_pos (o3 k c2)];exact Ξo _
         ·rw[if_neg c2];exact Nat.zero_le _
        ·rw[if_neg c];exact Ξo _
       ·refine ξ51 (j:=i) 80 (λk hk=>?_) (by omega) ?_
        ·show(if A2z _ v k=true then 17 else 0)<=(if A2z M v k=true then 17 else 0);rw[q3,if_pos rfl,ai];by_cases c2:opn (t.heard (65536+(i:Int)) M.nw) k=true
         ·rw[if_pos c2,if_pos (o3 k c2)];exact Ξo _
         ·rw[if_neg c2];exact Nat.zero_le _
        ·show(if A2z _ v i=true then 17 else 0)+17<=(if A2z M v i=true then 17 else 0);rw[q3,if_pos rfl,ai,o1,o2];decide
      refine⟨Z.wds (X'++Z.news v i)+A4p (M.land 0 (Z.frm (.fr v i)) gm bv) Z.n,?_,_,q1 hB,q4.trans ht,Ξo _,?_⟩
      ·rw[Zd.A1s];omega
      ·rw[Zd.A1s];omega
    | false=>
      have hp:A4p (M.land 0 (Z.frm (.fr v i)) gm bv) Z.n=A4p M Z.n:=ξ3p (λv' k=>by
       rw[q3];split
       ·rename_i c;rw[ξcZ hB,c];unfold A2z;rw[ae];rfl
       ·rfl) _
      refine⟨Z.wds X'+A4p (M.land 0 (Z.frm (.fr v i)) gm bv) Z.n,by omega,_,q2 hB,q4.trans ht,Ξo _,by omega⟩
  | lo v L=>
    obtain⟨gm,hL,Y,hY,hN⟩:=h.B00 hZ (j:=0) (v:=v) (L:=L) rfl;refine⟨gm,hL,λbv=>?_⟩;obtain⟨q1,q3,q4⟩:=hN bv;have hp:=ξ3p q3 Z.n;have hw:Z.wd (.lo v L)=L.length+1:=rfl;have ah:=Z.A3q (Y.map λi=>Fd.fr v i) (λx hx=>by
     obtain⟨i,_,e⟩:=Ξi.1 hx;exact⟨v,i,e.symm⟩)
    rw[Ξm]at ah;refine⟨Z.wds (X'++Y.map λi=>Fd.fr v i)+A4p (M.land 0 (Z.frm (.lo v L)) gm bv) Z.n,?_,_,q1,q4.trans ht,Ξo _,?_⟩
    ·rw[Zd.A1s];omega
    ·rw[Zd.A1s];omega
  | ky v k=>
    obtain⟨u,hu,aq,gm,hL,hN⟩:=h.B01 hZ (j:=0) (v:=v) (k:=k) rfl;obtain⟨hv,_⟩:=h.xk v k (List.mem_cons_self ..);refine⟨gm,hL,λbv=>?_⟩;obtain⟨q1,q3,q4⟩:=hN bv;have hp:=ξ3p q3 Z.n;have hw:Z.wd (.ky v k)=dp Z.p Z.n v+1:=rfl;have ay:=hZ.tr.A6w hv aq hu;have ah:Z.wds (if u=Z.rt then[]else[Fd.ky u k])<=dp Z.p Z.n u+1:=by
     split
     ·exact Nat.zero_le _
     ·exact Ξo _
    refine⟨Z.wds (X'++if u=Z.rt then[]else[Fd.ky u k])+A4p (M.land 0 (Z.frm (.ky v k)) gm bv) Z.n,?_,_,q1,q4.trans ht,Ξo _,?_⟩
    ·rw[Zd.A1s];omega
    ·rw[Zd.A1s];omega
def JD(Z:Zd)(m:Nat)(r:Nat)(M:Ms):Prop:=∃X,WD Z m X M/\Z.wds X<=400000/\M.nw<=900000+3*(r:Int)
theorem ξde(hZ:Z.Ok)(hmo:0<=Z.mo/\Z.mo<=3)(m:Nat):A7s λr c M=>JD Z m r M:=by
 constructor;rintro r c M ⟨X,h,hw,hn⟩ hr hc;have ae:=hZ.tr.fit.hi;have hp:=ξeI M ae;refine⟨FID Z m M.nw,Z.wds X+A4p M Z.n,ξdf hZ (by omega),⟨X,h,rfl,Ξo _,by omega⟩,?_⟩;rintro g' M' ⟨X',h',aj,_,_⟩ ai;obtain rfl:X'=[]:=by
  have e:=h'.fl;rw[ai]at e;exact List.map_eq_nil_iff.1 e.symm
 have ah:M'.nw+3<=1000000:=by omega
 obtain⟨Y,y1,_,y3⟩:=h'.A0n hZ hmo (now:=M'.nw+3) (by omega) ah;refine⟨ah,[]++Y,y1,?_,?_⟩
 ·show Z.wds Y<=400000;omega
 ·show M'.nw+3<=900000+3*((r+1:Nat):Int);omega
theorem ξeX(hZ:Z.Ok)(hmo:0<=Z.mo/\Z.mo<=3){P:MP}{w:World}(h:MAt w o b P M)(hW:WD Z m X M)(hw:Z.wds X<=400000)(hn:M.nw<=900000) :
 Calls prog 13 #[.pointer (some ⟨b,0,none⟩)] w λe w'=>∃r:Int,e=.returned (.int .i64 r)/\∃X' M',WD Z m X' M'/\A0j w w' o b M':=by
 refine(ξ45 _ (ξde hZ hmo m) b o P M w h ⟨X,hW,hw,by omega⟩).mono ?_;rintro e w' ⟨r,c,M',rfl,_,_,⟨X',h',_,_⟩,hd⟩;exact⟨_,rfl,X',M',h',hd⟩
def Zn(w W:World)(b:Nat)(M:Ms)(bs cs:List Nat):Prop:=∃o P,MAt W o b P M/\(∀k,k<w.heap.size->(o k).n=0)/\Below w.heap.size w W/\(∀k∈bs,(o k).n=2000/\k<W.heap.size)/\∀k∈cs,(o k).n=0/\k<W.heap.size
def A2i(bs:List Nat)(W W':World):Prop:=∀k∈bs,W'.heap[k]?=W.heap[k]?
theorem A2i.refl(bs:List Nat)(W:World):A2i bs W W:=λ_ _=>rfl
theorem A2i.trans{W W1 W2:World}(h:A2i bs W W1)(h':A2i bs W1 W2):A2i bs W W2:=λk hk=>(h' k hk).trans (h k hk)
section
variable {w W W':World}{b:Nat}{M M':Ms}{bs cs:List Nat}
theorem Zt.zn(h:Zt w W b M):Zn w W b M [] []:=by
 obtain⟨o,P,h1,h2,h3⟩:=h;exact⟨o,P,h1,h2,h3,by simp,by simp⟩
theorem Zn.bel(h:Zn w W b M bs cs):Below w.heap.size w W:=by
 obtain⟨o,P,h1,h2,h3,_⟩:=h;exact h3
theorem Zn.lt(h:Zn w W b M bs cs):∀k,k∈bs∨k∈cs->k<W.heap.size:=by
 obtain⟨o,P,h1,h2,h3,h4,h5⟩:=h;intro k hk;rcases hk with hk|hk
 ·exact(h4 k hk).2
 ·exact(h5 k hk).2
theorem ξZ(hb:Below w.heap.size w W)(ho:∀k,k<w.heap.size->(o k).n=0)(h4:∀k∈bs,(o k).n=2000/\k<W.heap.size)(h5:∀k∈cs,(o k).n=0/\k<W.heap.size)(h:A0j W W' o b M'):Zn w W' b M' bs cs/\A2i (bs++cs) W W':=by
 obtain⟨o',P',h1,h2,h3⟩:=h;have hs:=h3.size;refine⟨⟨o',P',h1,ξ5P hb ho h2,ξ2v hb ho h3,λk hk=>?_,λk hk=>?_⟩,λk hk=>?_⟩
 ·obtain⟨q1,q2⟩:=h4 k hk;refine⟨?_,Ξn q2 hs⟩;rcases h2 k q2 with e|⟨e,_⟩
  ·rw[e];exact q1
  ·exact absurd q1 e.2
 ·obtain⟨q1,q2⟩:=h5 k hk;refine⟨?_,Ξn q2 hs⟩;rcases h2 k q2 with e|⟨e,_⟩
  ·rw[e];exact q1
  ·exact absurd q1 e.1
 ·obtain⟨ds,c1,c2,c3⟩:=h3;rcases Ξe.1 hk with hk|hk
  ·obtain⟨q1,q2⟩:=h4 k hk;exact c1.2.2.2.2 k q2 (λhm=>(c2 k hm).2 q1)
  ·obtain⟨q1,q2⟩:=h5 k hk;exact c1.2.2.2.2 k q2 (λhm=>(c2 k hm).1 q1)
theorem Zn.own(h:Zn w W b M bs cs)(ho:Only ks W W')(hk:∀k∈ks,k∈bs)(hn:Nob W ks)(new:List Nat)(hnew:∀k∈new,W.heap.size<=k/\k<W'.heap.size):Zn w W' b M (bs++new) cs:=by
 obtain⟨o,P,h1,h2,h3,h4,h5⟩:=h;have hc:Chg o (λg=>g.n=2000) W W':=Chg.A1j ho (λk hm=>(h4 k (hk k hm)).1) hn;have hs:=hc.size;refine⟨grow o W ⟨2000,0,0⟩,P,h1.chg hc (λg hg=>by omega) (ξ3 o W _),λk hl=>?_,?_,λk hm=>?_,λk hm=>?_⟩
 ·rw[ξt (Ξn hl h3.size)];exact h2 k hl
 ·refine h3.trans ⟨ho.1,ho.2.1,ho.2.2.1,ho.2.2.2.1,λk hl=>ho.2.2.2.2 k (Ξn hl h3.size) (λhm=>?_)⟩;have q1:=(h4 k (hk k hm)).1;have q2:=h2 k hl;omega
 ·rcases Ξe.1 hm with hm|hm
  ·obtain⟨q1,q2⟩:=h4 k hm;exact⟨by rw[ξt q2];exact q1,Ξn q2 hs⟩
  ·obtain⟨q1,q2⟩:=hnew k hm;exact⟨by rw[ξg q1],q2⟩
 ·obtain⟨q1,q2⟩:=h5 k hm;exact⟨by rw[ξt q2];exact q1,Ξn q2 hs⟩
theorem Zn.below(h:Zn w W b M bs cs)(hb:Below W.heap.size W W')(new:List Nat)(hnew:∀k∈new,W.heap.size<=k/\k<W'.heap.size):Zn w W' b M bs (cs++new):=by
 obtain⟨o,P,h1,h2,h3,h4,h5⟩:=h;have hs:=hb.size;refine⟨grow o W ξ2,P,h1.grow hb ξ2,λk hl=>?_,h3.trans (hb.mono h3.size),λk hm=>?_,λk hm=>?_⟩
 ·rw[ξt (Ξn hl h3.size)];exact h2 k hl
 ·obtain⟨q1,q2⟩:=h4 k hm;exact⟨by rw[ξt q2];exact q1,Ξn q2 hs⟩
 ·rcases Ξe.1 hm with hm|hm
  ·obtain⟨q1,q2⟩:=h5 k hm;exact⟨by rw[ξt q2];exact q1,Ξn q2 hs⟩
  ·obtain⟨q1,q2⟩:=hnew k hm;exact⟨by rw[ξg q1],q2⟩
end
theorem ξ7Y(b:Nat)(o:Nat->Tg)(P:MP)(M:Ms)(i:Nat)(w:World)(h:MAt w o b P M)(hi:i<M.fl.length)(hl:1000<=M.fl.length) :
 Calls prog 90 #[.pointer (some ⟨b,12,none⟩),.int .i64 (i:Int)] w λe w'=>e=.returned (A0a 4)/\w'=w:=by
 obtain⟨X,ai,ah,au⟩:=h.fly;have aj:X.length=M.fl.length:=by rw[<-ai,Ξm]
 obtain⟨fa,aw,am⟩:=ah.form;have c12:=h.cells.2.2.2.2;rw[am]at c12;have ae:=ξ4O ah;obtain⟨fn,aq⟩:=nm X.length;rw[aq]at c12 aj ae;have CH:=ξ0 (ξI fa fn aw (i:Int) w ae);rw[show decide (0<=(i:Int)/\(i:Int)<(fn:Int))=true by simp;omega]at CH;have ax:(1000:Int)<=(fn:Int):=by omega
 clear h ai ah au am aq hi aj hl;go_enter func90,ntmps90;go_wp2_with fail
 refine CH.out.mono ?_;rintro e w1 ⟨rfl,rfl⟩;go_wp2_with fail;go_ret;exact⟨rfl,rfl⟩
theorem ξ97(b:Nat)(o:Nat->Tg)(P:MP)(M:Ms)(i:Nat)(w:World)(h:MAt w o b P M)(hi:i<M.fl.length)(hl:1000<=M.fl.length) :
 Calls prog 43 #[.pointer (some ⟨b,0,none⟩),.int .i64 (i:Int)] w λe w'=>e=.returned (A0a 4)/\w'=w:=by
 have C:=ξ0 (ξ7Y b o P M i w h hi hl);obtain⟨ev,ae⟩:=nm (A0a 4);rw[ae]at C ⊢;clear h hi hl ae;go_enter func43,ntmps43;go_wp2_with fail
 refine C.out.mono ?_;rintro e w1 ⟨rfl,rfl⟩;go_wp2_with fail;go_ret;exact⟨rfl,rfl⟩
section
variable {w W W':World}{b:Nat}{M M':Ms}{bs cs:List Nat}{Z:Zd}{m i:Nat}
def DW(w W:World)(b:Nat)(Z:Zd)(m i:Nat)(bs cs:List Nat):Prop:=∃M X,Zn w W b M bs cs/\WD Z m X M/\Z.wds X<=3488*i/\M.nw<=7*(i:Int)
theorem DW.bel(h:DW w W b Z m i bs cs):Below w.heap.size w W:=by
 obtain⟨M,X,h1,_⟩:=h;exact h1.bel
theorem DW.lt(h:DW w W b Z m i bs cs):∀k,k∈bs∨k∈cs->k<W.heap.size:=by
 obtain⟨M,X,h1,_⟩:=h;exact h1.lt
theorem DW.own(h:DW w W b Z m i bs cs)(ho:Only ks W W')(hk:∀k∈ks,k∈bs)(hn:Nob W ks)(new:List Nat)(hnew:∀k∈new,W.heap.size<=k/\k<W'.heap.size):DW w W' b Z m i (bs++new) cs:=by
 obtain⟨M,X,h1,h2⟩:=h;exact⟨M,X,h1.own ho hk hn new hnew,h2⟩
theorem DW.below(h:DW w W b Z m i bs cs)(hb:Below W.heap.size W W')(new:List Nat)(hnew:∀k∈new,W.heap.size<=k/\k<W'.heap.size):DW w W' b Z m i bs (cs++new):=by
 obtain⟨M,X,h1,h2⟩:=h;exact⟨M,X,h1.below hb new hnew,h2⟩
theorem DW.step(h:DW w W b Z m i bs cs):DW w W b Z m (i+1) bs cs:=by
 obtain⟨M,X,h1,h2,h3,h4⟩:=h;exact⟨M,X,h1,h2,by omega,by omega⟩
theorem ξ5I{k:Nat}:∀x∈Z.news v k,∃c j,x=Fd.fr c j:=λx hx=>by
 obtain⟨c,e,_⟩:=Zd.A3d hx;exact⟨c,k,e⟩
theorem DW.send(hZ:Z.Ok)(hS:Z.S m=⟨(m:Int),(m:Int),l,0,st,LP.pL m⟩)(h:DW w W b Z m i bs cs)(hm:m<80)(hi:i<=80)(hg:g∈cs)(hA:Arg W (some ⟨g,0,none⟩) 2 (LP.pL m)) :
 Calls prog 12 #[.pointer (some ⟨b,0,none⟩),.int .i64 1,.agg #[.int .i64 (m:Int),.int .i64 (m:Int),.int .i64 l,.int .i64 0,.bool st,.slice (some ⟨g,0,none⟩) 2 c]] W λe w'=>e=.returned .nilIface/\A2i (bs++cs) W w'/\DW w w' b Z (m+1) (i+1) bs cs:=by
 obtain⟨M,X,⟨o,P,h1,h2,h3,h4,h5⟩,hW,hX,hl⟩:=h;have hr:=hZ.tr.rn;have ah:0<=TM.dg Z.d Z.rt:=by have:=hZ.tr.dist.root hr;omega
 obtain⟨t,ht,hT⟩:=hW.tr Z.rt hr ah;have ai:t.pa=-1:=by rw[hT.pa];exact hZ.tr.A28
 have aq:M.fl.length=X.length:=by rw[hW.fl,Ξm]
 have au:=Z.A40 X;have C:=ξ4v b 0 Z.rt o P M t (m:Int) (m:Int) l 0 st (some ⟨g,0,none⟩) 2 c (LP.pL m) W h1 hW.ok (by omega) hW.rtt (by rw[hW.n];exact hr) ht ai hA (λe=>by cases e) (λ_ ad e=>by cases e;exact(h5 g hg).1) (by omega);have aj:PM.fault (m:Int) (m:Int) l 0 2=0:=by
  have:=(hZ.pk.ok m (by omega)).f;rw[hS]at this;exact this
 rw[aj]at C;refine C.mono ?_;rintro e w' ⟨rfl,_,hd⟩;obtain⟨hz,ae⟩:=ξZ h3 h2 h4 h5 (hd rfl);obtain⟨_,hU⟩:=hW.send hZ hm (by omega) ht (pk:=⟨(m:Int),(m:Int),l,0,st,LP.pL m,.slice (some ⟨g,0,none⟩) 2 c⟩) hS.symm;have hn:=Z.A5r Z.rt m;have aw:=Z.A3q (Z.news Z.rt m) ξ5I;have am:=hZ.tr.fit.hi;rcases hU with hU|hU
 ·exact⟨rfl,ae,_,_,hz,hU,by rw[Zd.A1s];omega,by show M.nw<=_;omega⟩
 ·exact⟨rfl,ae,_,_,hz,hU,by omega,by show M.nw<=_;omega⟩
theorem DW.land(hZ:Z.Ok)(h:DW w W b Z m i bs cs)(hi:i<=80)(x:Int) :
 Calls prog 41 #[.pointer (some ⟨b,0,none⟩),.int .i64 x] W λe w'=>∃f,e=.returned (A0a f)/\A2i (bs++cs) W w'/\DW w w' b Z m (i+1) bs cs:=by
 obtain⟨M,X,⟨o,P,h1,h2,h3,h4,h5⟩,hW,hX,hl⟩:=h;have aj:M.fl.length=X.length:=by rw[hW.fl,Ξm]
 have am:=Z.A40 X;have ai:=hZ.tr.fit.hi;by_cases c:x<0∨(M.fl.length:Int)<=x
 ·refine(ξf6 b o P M x W h1 c).mono ?_;rintro e w' ⟨rfl,hb⟩;obtain⟨hz,ae⟩:=ξZ h3 h2 h4 h5 (A0j.refl h1 hb);exact⟨1,rfl,ae,M,X,hz,hW,by omega,by omega⟩
 ·obtain⟨j,rfl⟩:∃j:Nat,x=(j:Int):=⟨x.toNat,by omega⟩;have hj:j<X.length:=by omega
  obtain⟨y,hy⟩:∃y,X[j]?=some y:=⟨X[j],Ξd hj⟩;have hf:M.fl[j]?=some (Z.frm y):=by rw[hW.fl,List.getElem?_map,hy];rfl
  have aq:=Z.A48 X j y hy;cases y with
  | fr v k=>
    obtain⟨gm,hL,t,ht,hN⟩:=hW.B0z hZ (by omega) hy;refine(ξ26 b o P M j _ gm W h1 hW.ok hf hL (by omega)).mono ?_;rintro e w' ⟨rfl,bv,hd⟩;obtain⟨hz,ae⟩:=ξZ h3 h2 h4 h5 hd;obtain⟨q1,q2,_,q4⟩:=hN bv;have hn:=Z.A5r v k;have au:=Z.A3q (Z.news v k) ξ5I;cases hB:GM.hB t.gn t.gT t.gM (65536+(k:Int)) M.nw with
    | true=>exact⟨0,rfl,ae,_,_,hz,q1 hB,by rw[Zd.A1s];omega,by rw[q4];omega⟩
    | false=>exact⟨0,rfl,ae,_,_,hz,q2 hB,by omega,by rw[q4];omega⟩
  | lo v L=>
    obtain⟨gm,hL,Y,hY,hN⟩:=hW.B00 hZ hy;refine(ξ26 b o P M j _ gm W h1 hW.ok hf hL (by omega)).mono ?_;rintro e w' ⟨rfl,bv,hd⟩;obtain⟨hz,ae⟩:=ξZ h3 h2 h4 h5 hd;obtain⟨q1,_,q4⟩:=hN bv;have hw:Z.wd (.lo v L)=L.length+1:=rfl;have ah:=Z.A3q (Y.map λi=>Fd.fr v i) (λx hx=>by
     obtain⟨i,_,e⟩:=Ξi.1 hx;exact⟨v,i,e.symm⟩)
    rw[Ξm]at ah;exact⟨0,rfl,ae,_,_,hz,q1,by rw[Zd.A1s];omega,by rw[q4];omega⟩
  | ky v k=>
    obtain⟨u,hu,aw,gm,hL,hN⟩:=hW.B01 hZ hy;refine(ξ26 b o P M j _ gm W h1 hW.ok hf hL (by omega)).mono ?_;rintro e w' ⟨rfl,bv,hd⟩;obtain⟨hz,ae⟩:=ξZ h3 h2 h4 h5 hd;obtain⟨q1,_,q4⟩:=hN bv;have ax:=ξ6k Z.p Z.n u;have ah:Z.wds (if u=Z.rt then[]else[Fd.ky u k])<=dp Z.p Z.n u+1:=by
     split
     ·exact Nat.zero_le _
     ·exact Ξo _
    exact⟨0,rfl,ae,_,_,hz,q1,by rw[Zd.A1s];omega,by rw[q4];omega⟩
theorem DW.A9l(h:DW w W b Z m i bs cs)(x:Int) :
 Calls prog 42 #[.pointer (some ⟨b,0,none⟩),.int .i64 x] W λe w'=>∃f,e=.returned (A0a f)/\A2i (bs++cs) W w'/\DW w w' b Z m (i+1) bs cs:=by
 obtain⟨M,X,⟨o,P,h1,h2,h3,h4,h5⟩,hW,hX,hl⟩:=h;have ah:M.fl.length=X.length:=by rw[hW.fl,Ξm]
 by_cases c:x<0∨(M.fl.length:Int)<=x
 ·refine(ξf2 b o P M x W h1 c).mono ?_;rintro e w' ⟨rfl,hb⟩;obtain⟨hz,ae⟩:=ξZ h3 h2 h4 h5 (A0j.refl h1 hb);exact⟨1,rfl,ae,M,X,hz,hW,by omega,by omega⟩
 ·obtain⟨j,rfl⟩:∃j:Nat,x=(j:Int):=⟨x.toNat,by omega⟩;have hj:j<X.length:=by omega
  have ai:=Z.A48 X j _ (Ξd hj);refine(ξ9K b o P M j W h1 (by omega)).mono ?_;rintro e w' ⟨rfl,hd⟩;obtain⟨hz,ae⟩:=ξZ h3 h2 h4 h5 hd;exact⟨0,rfl,ae,_,_,hz,hW.A9l j,by omega,by show M.nw<=_;omega⟩
theorem WD.wd_bd{X:List Fd}(hZ:Z.Ok)(h:WD Z m X M){x:Fd}(hx:x∈X):Z.wd x<=201:=by
 have ae:=hZ.tr.fit.hi;cases x with
 | fr v k=>show 1<=201;omega
 | lo v L=>
   have:=(h.xl v L hx).2.1;show L.length+1<=201;omega
 | ky v k=>
   have:=ξ6k Z.p Z.n v;show dp Z.p Z.n v+1<=201;omega
theorem DW.twice(hZ:Z.Ok)(h:DW w W b Z m i bs cs)(x:Int) :
 Calls prog 43 #[.pointer (some ⟨b,0,none⟩),.int .i64 x] W λe w'=>∃f,e=.returned (A0a f)/\A2i (bs++cs) W w'/\DW w w' b Z m (i+1) bs cs:=by
 obtain⟨M,X,⟨o,P,h1,h2,h3,h4,h5⟩,hW,hX,hl⟩:=h;have ah:M.fl.length=X.length:=by rw[hW.fl,Ξm]
 by_cases c:x<0∨(M.fl.length:Int)<=x
 ·refine(ξcu b o P M x W h1 c).mono ?_;rintro e w' ⟨rfl,rfl⟩;exact⟨1,rfl,A2i.refl _ _,M,X,⟨o,P,h1,h2,h3,h4,h5⟩,hW,by omega,by omega⟩
 ·obtain⟨j,rfl⟩:∃j:Nat,x=(j:Int):=⟨x.toNat,by omega⟩;have hj:j<X.length:=by omega
  by_cases c2:1000<=M.fl.length
  ·refine(ξ97 b o P M j W h1 (by omega) c2).mono ?_;rintro e w' ⟨rfl,rfl⟩;exact⟨4,rfl,A2i.refl _ _,M,X,⟨o,P,h1,h2,h3,h4,h5⟩,hW,by omega,by omega⟩
  ·obtain⟨y,hy⟩:∃y,X[j]?=some y:=⟨X[j],Ξd hj⟩;have hf:M.fl[j]?=some (Z.frm y):=by rw[hW.fl,List.getElem?_map,hy];rfl
   have ai:=hW.wd_bd hZ (List.mem_of_getElem? hy);refine(ξ1R b o P M j _ W h1 hf (by omega)).mono ?_;rintro e w' ⟨rfl,hd⟩;obtain⟨hz,ae⟩:=ξZ h3 h2 h4 h5 hd;refine⟨0,rfl,ae,_,_,hz,hW.twice hy,?_,by show M.nw<=_;omega⟩;rw[Zd.A1s];show Z.wds X+(Z.wd y+0)<=_;omega
theorem DW.tick(hZ:Z.Ok)(hmo:0<=Z.mo/\Z.mo<=3)(h:DW w W b Z m i bs cs)(hi:i<=80){x:Int}(x1:1<=x)(x7:x<=7) :
 Calls prog 44 #[.pointer (some ⟨b,0,none⟩),.int .i64 x] W λe w'=>e=.returned .nilIface/\A2i (bs++cs) W w'/\DW w w' b Z m (i+1) bs cs:=by
 obtain⟨M,X,⟨o,P,h1,h2,h3,h4,h5⟩,hW,hX,hl⟩:=h;have aj:M.fl.length=X.length:=by rw[hW.fl,Ξm]
 have am:=Z.A40 X;have ah:=hZ.tr.fit.hi;have ae:M.nw+x<=1000000:=by omega
 refine(ξ3S b o P M x W h1 hW.ok x1 (by omega) ae (by omega)).mono ?_;rintro e w' ⟨rfl,hd⟩;obtain⟨hz,ai⟩:=ξZ h3 h2 h4 h5 hd;obtain⟨Y,y1,_,y3⟩:=hW.A0n hZ hmo (now:=M.nw+x) (by omega) ae;exact⟨rfl,ai,_,_,hz,y1,by rw[Zd.A1s];omega,by show M.nw+x<=_;omega⟩
def DE(w W:World)(b:Nat)(Z:Zd)(m:Nat)(bs cs:List Nat):Prop:=∃M X,Zn w W b M bs cs/\WD Z m X M
theorem DW.calm(hZ:Z.Ok)(hmo:0<=Z.mo/\Z.mo<=3)(h:DW w W b Z m i bs cs)(hi:i<=80) :
 Calls prog 13 #[.pointer (some ⟨b,0,none⟩)] W λe w'=>∃r:Int,e=.returned (.int .i64 r)/\A2i (bs++cs) W w'/\DE w w' b Z m bs cs:=by
 obtain⟨M,X,⟨o,P,h1,h2,h3,h4,h5⟩,hW,hX,hl⟩:=h;refine(ξeX hZ hmo h1 hW (by omega) (by omega)).mono ?_;rintro e w' ⟨r,rfl,X',M',hc,hd⟩;obtain⟨hz,ae⟩:=ξZ h3 h2 h4 h5 hd;exact⟨r,rfl,ae,M',X',hz,hc⟩
theorem DE.got(hZ:Z.Ok)(h:DE w W b Z m bs cs) :
 Calls prog 14 #[.pointer (some ⟨b,0,none⟩),.int .i64 1] W λe w'=>∃a k g s c,e=.returned (.tuple #[.slice a g k,.nilIface])/\g=s.got.length/\(∃o,ξO w' o (.slice a s.got.length k) s.got)/\SD Z.S m Z.mo s/\GD Z.S s c/\(∀i∈c,i<m)/\A2i (bs++cs) W w'/\Below w.heap.size w w':=by
 obtain⟨M,X,⟨o,P,h1,h2,h3,h4,h5⟩,hW⟩:=h;obtain⟨s,ai,ae⟩:=hW.sa;obtain⟨c,aj,am⟩:=ae.gd;have ah:Z.at'<M.n:=by rw[hW.n];exact hZ.at'
 refine(ξ39 b 0 Z.at' 1 o P M s [] [] W h1 (by rw[hW.sbs];rfl) ah (by rw[ai];rfl) (hW.ok.nd _ ah).1.si (by rw[hW.sbs];simp)).mono ?_;rintro e' w' ⟨a,k,rfl,o',P',g1,g2,g3,g4,g5⟩;obtain⟨hz,aq⟩:=ξZ h3 h2 h4 h5 ⟨o',P',g1,g4,g5⟩;exact⟨a,k,_,s,c,rfl,rfl,⟨o',g2⟩,ae,aj,am,aq,hz.bel⟩
end
open PM Pack
section
variable {w W W' W1:World}{b:Nat}{Z:Zd}{m i:Nat}{bs cs:List Nat}{sv:Value}{Y:List AU.Pk}
theorem ξen(h:DW w W b Z m i bs cs)(O1 O2:Obj):DW w ((W.alloc O1).alloc O2) b Z m i bs cs/\A2i (bs++cs) W ((W.alloc O1).alloc O2):=by
 have hb:Below W.heap.size W ((W.alloc O1).alloc O2):=((Ξp _ _).alloc (Ξo _) _).alloc (by simp) _;have:=h.below hb [] (by simp);rw[Ξu]at this;refine⟨this,λk hk=>hb.block k (h.lt k (Ξe.1 hk))⟩
theorem ξeo{a:Option Addr}(h:Arg W a n L)(O1 O2:Obj):Arg ((W.alloc O1).alloc O2) a n L:=h.below (((Ξp _ _).alloc (Ξo _) _).alloc (by simp) _)
def isS(v0:Int):Nat:=if v0=0∨v0=1 then 1 else 0
theorem ξal(hZ:Z.Ok)(hmo:0<=Z.mo/\Z.mo<=3)(hS:Z.S m=⟨(m:Int),(m:Int),l,0,st,LP.pL m⟩)(h:DW w W b Z m i bs cs)(hm:m<80)(hi:i<80)(v0 v1 v2:Int)(hg:g∈cs)(hA:Arg W (some ⟨g,0,none⟩) 2 (LP.pL m)) :
 Calls prog 11 #[.pointer (some ⟨b,0,none⟩),.agg #[.int .i64 v0,.int .i64 v1,.int .i64 v2],.agg #[.int .i64 (m:Int),.int .i64 (m:Int),.int .i64 l,.int .i64 0,.bool st,.slice (some ⟨g,0,none⟩) 2 c]] W λe w'=>e=.returned (.bool true)/\A2i (bs++cs) W w'/\DW w w' b Z (m+isS v0) (i+1) bs cs:=by
 have HZ:=ξ0 (λO1 O2=>ξen h O1 O2);have HA:=ξ0 (λO1 O2=>ξeo hA O1 O2);clear h hA;by_cases s01:v0=0∨v0=1
 ·have e1:isS v0=1:=if_pos s01;rw[e1];clear e1;rcases s01 with rfl|rfl
  ·go_enter func11,ntmps11;go_wp2_with fail
   refine((HZ.out _ _).1.send hZ hS hm (by omega) hg (HA.out _ _)).mono ?_;rintro e w' ⟨rfl,h1,h2⟩;have HR:=ξ0 (And.intro h1 h2);clear h1 h2;go_wp2_with fail;go_ret;exact⟨rfl,(HZ.out _ _).2.trans HR.out.1,HR.out.2⟩
  ·go_enter func11,ntmps11;go_wp2_with fail
   refine((HZ.out _ _).1.send hZ hS hm (by omega) hg (HA.out _ _)).mono ?_;rintro e w' ⟨rfl,h1,h2⟩;have HR:=ξ0 (And.intro h1 h2);clear h1 h2;go_wp2_with fail;go_ret;exact⟨rfl,(HZ.out _ _).2.trans HR.out.1,HR.out.2⟩
 ·have e1:isS v0=0:=if_neg s01;rw[e1,Nat.add_zero];clear e1;by_cases s2:v0=2∨v0=3∨v0=4
  ·rcases s2 with rfl|rfl|rfl
   all_goals
    clear s01;go_enter func11,ntmps11;go_wp2_with fail
    refine((HZ.out _ _).1.land hZ (by omega) v1).mono ?_;rintro e w' ⟨f,rfl,h1,h2⟩;have HR:=ξ0 (And.intro h1 h2);clear h1 h2;go_wp2_with fail;go_ret;exact⟨rfl,(HZ.out _ _).2.trans HR.out.1,HR.out.2⟩
  ·by_cases s5:v0=5
   ·subst s5;clear s01 s2;go_enter func11,ntmps11;go_wp2_with fail
    refine((HZ.out _ _).1.A9l v1).mono ?_;rintro e w' ⟨f,rfl,h1,h2⟩;have HR:=ξ0 (And.intro h1 h2);clear h1 h2;go_wp2_with fail;go_ret;exact⟨rfl,(HZ.out _ _).2.trans HR.out.1,HR.out.2⟩
   ·by_cases s6:v0=6
    ·subst s6;clear s01 s2 s5;go_enter func11,ntmps11;go_wp2_with fail
     refine((HZ.out _ _).1.twice hZ v1).mono ?_;rintro e w' ⟨f,rfl,h1,h2⟩;have HR:=ξ0 (And.intro h1 h2);clear h1 h2;go_wp2_with fail;go_ret;exact⟨rfl,(HZ.out _ _).2.trans HR.out.1,HR.out.2⟩
    ·have z0:¬v0=0:=λe=>s01 (.inl e);have z1:¬v0=1:=λe=>s01 (.inr e);have z2:¬v0=2:=λe=>s2 (.inl e);have z3:¬v0=3:=λe=>s2 (.inr (.inl e));have z4:¬v0=4:=λe=>s2 (.inr (.inr e));have y0:decide (v0=0)=false:=decide_eq_false z0;have y1:decide (v0=1)=false:=decide_eq_false z1;have y2:decide (v0=2)=false:=decide_eq_false z2;have y3:decide (v0=3)=false:=decide_eq_false z3;have y4:decide (v0=4)=false:=decide_eq_false z4;have y5:decide (v0=5)=false:=decide_eq_false s5;have y6:decide (v0=6)=false:=decide_eq_false s6;clear s01 s2;by_cases t0:0<v2
     ·have u0:decide (0<v2)=true:=decide_eq_true t0;by_cases t8:v2<8
      ·have u8:decide (v2<8)=true:=decide_eq_true t8;have HT:=ξ0 (λO1 O2=>(HZ.out O1 O2).1.tick hZ hmo (by omega) (x:=v2) (by omega) (by omega));go_enter func11,ntmps11;go_wp2_with fail
       refine(HT.out _ _).mono ?_;rintro e w' ⟨rfl,h1,h2⟩;have HR:=ξ0 (And.intro h1 h2);clear h1 h2;go_wp2_with fail;go_ret;exact⟨rfl,(HZ.out _ _).2.trans HR.out.1,HR.out.2⟩
      ·have u8:decide (v2<8)=false:=decide_eq_false t8;go_enter func11,ntmps11;go_wp2_with fail
       go_ret;exact⟨rfl,(HZ.out _ _).2,(HZ.out _ _).1.step⟩
     ·have u0:decide (0<v2)=false:=decide_eq_false t0;go_enter func11,ntmps11;go_wp2_with fail
      go_ret;exact⟨rfl,(HZ.out _ _).2,(HZ.out _ _).1.step⟩
theorem B03{v:Value}(h:W.ownsRow base e size v n xs)(hs:∀g,v.ownBlock=some g->W'.heap[g]?=W.heap[g]?):W'.ownsRow base e size v n xs:=by
 refine⟨h.1,?_⟩;rcases h.2 with c|⟨g,cap,cur,hv,hb,hg,hr⟩
 ·exact .inl c
 ·exact .inr ⟨g,cap,cur,hv,hb,by rw[hs g (by rw[hv];rfl)];exact hg,hr⟩
theorem A5s(h:Arg W (some ⟨g,0,none⟩) n L)(hs:W'.heap[g]?=W.heap[g]?):Arg W' (some ⟨g,0,none⟩) n L:=by
 refine⟨⟨h.1.1,λj hj=>?_⟩,h.2⟩;obtain⟨b,o,e,hc⟩:=h.1.2 j hj;cases e;exact⟨g,0,rfl,by rw[<-hc];exact ξr hs _⟩
theorem A9u(hb:Below W.heap.size W W')(hl:∀k∈bs,k<W.heap.size):A2i bs W W':=λk hk=>hb.block k (hl k hk)
def pD(Z:Zd)(j g:Nat):AU.Pk:=⟨(j:Int),(j:Int),(Z.S j).l,0,(Z.S j).st,some ⟨g,0,none⟩,2,2,LP.pL j⟩
structure RD(w W:World)(Z:Zd)(sv:Value)(Y:List AU.Pk)(m:Nat)(bs cs:List Nat):Prop where
 len:Y.length=m
 own:W.ownsRow w.heap.size 38 6 sv m (Audit.flat Y)
 blk:∀g,sv.ownBlock=some g->g∈bs
 el:∀j,j<m->∃g,Y.getD j AU.A0l=pD Z j g/\g∈cs/\Arg W (some ⟨g,0,none⟩) 2 (LP.pL j)
theorem RD.nil:RD w W Z (.slice none 0 0) [] 0 [] []:=⟨rfl,Ξr _ _ _ _,by simp[Value.ownBlock],λj h=>by omega⟩
theorem RD.stay(h:RD w W Z sv Y m bs cs)(hs:A2i (bs++cs) W W'){bs' cs':List Nat}(h1:∀k∈bs,k∈bs')(h2:∀k∈cs,k∈cs'):RD w W' Z sv Y m bs' cs':=by
 refine⟨h.len,B03 h.own (λg hg=>hs g (List.mem_append_left _ (h.blk g hg))),λg hg=>h1 g (h.blk g hg),λj hj=>?_⟩;obtain⟨g,a1,a4,a5⟩:=h.el j hj;exact⟨g,a1,h2 g a4,A5s a5 (hs g (List.mem_append_right _ a4))⟩
theorem Zn.disD(h:Zn w W b M bs cs):∀k∈cs,k∉bs:=by
 obtain⟨o,P,h1,h2,h3,h4,h5⟩:=h;intro k hk hb;have q1:=(h4 k hb).1;have q2:=(h5 k hk).1;omega
theorem DW.dis(h:DW w W b Z m i bs cs):∀k∈cs,k∉bs:=by
 obtain⟨M,X,h1,_⟩:=h;exact h1.disD
theorem DW.ws(h:DW w W b Z m i bs cs):w.heap.size<=W.heap.size:=h.bel.size
theorem RD.add(h:RD w W Z sv Y m bs cs)(hdj:∀k∈cs,k∉bs)(hlt:∀k,k∈bs∨k∈cs->k<W.heap.size)(hg0:g0∈cs)(hA:Arg W (some ⟨g0,0,none⟩) 2 (LP.pL m))
 (hown:W1.ownsRow w.heap.size 38 6 (.slice (some ⟨g,0,none⟩) (m+1) cap) (m+1) (Audit.flat Y++Audit.pc (pD Z m g0))) (hg:(W.alloc O).grownBy W1 sv.ownBlock) (hl:sv.ownBlock=some g∨g=W.heap.size+1) (hgl:g<W1.heap.size) :
 ∃ks new,Only ks W W1/\(∀k∈ks,k∈bs)/\Nob W ks/\(∀k∈new,W.heap.size<=k/\k<W1.heap.size)/\RD w W1 Z (.slice (some ⟨g,0,none⟩) (m+1) cap) (Y++[pD Z m g0]) (m+1) (bs++new) cs:=by
 have ho:Only sv.ownBlock.toList W W1:=(((Only.refl _ W).alloc O).grown hg (λk e=>by simp[e]));have hk:∀k∈sv.ownBlock.toList,k∈bs:=λk hk=>h.blk k (by simpa using hk);have ae:=h.len;have ah:∀g' L,g'∈cs->Arg W (some ⟨g',0,none⟩) 2 L->Arg W1 (some ⟨g',0,none⟩) 2 L:=λg' L hg' hA'=>
  A5s hA' (ho.2.2.2.2 g' (hlt g' (.inr hg')) (λhm=>hdj g' hg' (hk g' hm)))
 have ai:Nob W sv.ownBlock.toList:=by
  intro k hk cs fr;obtain⟨c,fz,hc⟩:=Lib.ownsRow_kind h.own k (by simpa using hk);rw[hc];simp
 have aj:∀j,j<m+1->∃g',(Y++[pD Z m g0]).getD j AU.A0l=pD Z j g'/\g'∈cs/\Arg W1 (some ⟨g',0,none⟩) 2 (LP.pL j):=by
  intro j hj;by_cases c:j<m
  ·obtain⟨g',a1,a4,a5⟩:=h.el j c;have e:(Y++[pD Z m g0]).getD j AU.A0l=Y.getD j AU.A0l:=by
    rw[Ξa,Ξa,Ξt (by omega)]
   rw[e];exact⟨g',a1,a4,ah _ _ a4 a5⟩
  ·obtain rfl:j=m:=by omega
   have e:(Y++[pD Z j g0]).getD j AU.A0l=pD Z j g0:=by
    rw[Ξa,List.getElem?_append_right (by omega),ae,Nat.sub_self];rfl
   rw[e];exact⟨g0,rfl,hg0,ah _ _ hg0 hA⟩
 have am:Audit.flat (Y++[pD Z m g0])=Audit.flat Y++Audit.pc (pD Z m g0):=by rw[Audit.ξ4i,Audit.ξ4h]
 rcases hl with hl|hl
 ·refine⟨_,[],ho,hk,ai,by simp,by rw[Ξh,List.length_singleton,ae],by rw[am];exact hown,λg' e=>?_,aj⟩;simp[Value.ownBlock]at e;subst e;rw[Ξu];exact h.blk _ hl
 ·refine⟨_,[g],ho,hk,ai,?_,by rw[Ξh,List.length_singleton,ae],by rw[am];exact hown,λg' e=>?_,aj⟩
  ·intro k hk;rw[Ξg]at hk;subst hk;omega
  ·simp[Value.ownBlock]at e;subst e;simp
def V4(W:World)(vb:Nat)(a0 a1 a2:Int):Prop:=W.heap[vb]?=some (.cells #[.int .i64 a0,.int .i64 a1,.int .i64 a2] 34 (0,0))
theorem V4.cells(h:V4 W vb a0 a1 a2):W.cell? ⟨vb,0,none⟩=some (.int .i64 a0)/\W.cell? ⟨vb,1,none⟩=some (.int .i64 a1)/\W.cell? ⟨vb,2,none⟩=some (.int .i64 a2):=by
 simp only[V4]at h;simp[World.cell?,h]
theorem V4.free(h:V4 W vb a0 a1 a2)(j:Nat):W.frozen? ⟨vb,j,none⟩=false:=by
 simp only[V4]at h;simp[World.frozen?,h]
theorem V4.same(h:V4 W vb a0 a1 a2)(e:W'.heap[vb]?=W.heap[vb]?):V4 W' vb a0 a1 a2:=e.trans h
theorem V4.cell(h:V4 W vb a0 a1 a2)(hj:j<3):∃x,W.cell? ⟨vb,j,none⟩=some (.int .i64 x):=by
 obtain⟨h1,h2,h3⟩:=h.cells;rcases(by omega:j=0∨j=1∨j=2)with rfl|rfl|rfl
 ·exact⟨_,h1⟩
 ·exact⟨_,h2⟩
 ·exact⟨_,h3⟩
def DV(w W:World)(b:Nat)(Z:Zd)(m i:Nat)(sv:Value)(Y:List AU.Pk)(vb:Nat)(a0 a1 a2:Int):Prop:=∃bs cs,DW w W b Z m i bs cs/\RD w W Z sv Y m bs cs/\vb∈bs/\V4 W vb a0 a1 a2
def DL(w W:World)(b:Nat)(Z:Zd)(m i:Nat)(sv:Value)(Y:List AU.Pk):Prop:=∃bs cs,DW w W b Z m i bs cs/\RD w W Z sv Y m bs cs
theorem DW.new(h:DW w W b Z m i bs cs)(hs:RD w W Z sv Y m bs cs)(O:Obj):DW w (W.alloc O) b Z m i (bs++[W.heap.size]) cs/\RD w (W.alloc O) Z sv Y m (bs++[W.heap.size]) cs:=by
 have hb:Below W.heap.size W (W.alloc O):=(Ξp _ _).alloc (Ξo _) _;refine⟨h.own (ks:=[]) (Only.of_below hb _) (by simp) (λk hk=>by cases hk) [W.heap.size] (by simp),hs.stay (A9u hb (λk hk=>h.lt k (Ξe.1 hk))) (λk hk=>List.mem_append_left _ hk) (λk hk=>hk)⟩
theorem DL.vec(h:DL w W b Z m i sv Y):DV w (W.alloc (.cells #[.int .i64 0,.int .i64 0,.int .i64 0] 34)) b Z m i sv Y W.heap.size 0 0 0:=by
 obtain⟨bs,cs,h1,h2⟩:=h;obtain⟨q1,q2⟩:=h1.new h2 (.cells #[.int .i64 0,.int .i64 0,.int .i64 0] 34);exact⟨_,_,q1,q2,by simp,heap_alloc_new _ _⟩
theorem DV.dl(h:DV w W b Z m i sv Y vb a0 a1 a2):DL w W b Z m i sv Y:=by
 obtain⟨bs,cs,h1,h2,_⟩:=h;exact⟨bs,cs,h1,h2⟩
theorem DL.bel(h:DL w W b Z m i sv Y):Below w.heap.size w W:=by
 obtain⟨bs,cs,h1,_⟩:=h;exact h1.bel
theorem DL.own(h:DL w W b Z m i sv Y):W.ownsRow w.heap.size 38 6 sv m (Audit.flat Y):=by
 obtain⟨bs,cs,_,h1⟩:=h;exact h1.own
theorem formO{v:Value}(h:W.ownsRow base e size v n xs):∃a c,v=.slice a n c:=by
 rcases h.2 with⟨e,h0⟩|⟨g,cap,cur,e,_⟩
 ·subst h0;exact⟨none,0,e⟩
 ·exact⟨_,_,e⟩
theorem DV.v4(h:DV w W b Z m i sv Y vb a0 a1 a2):V4 W vb a0 a1 a2:=by
 obtain⟨bs,cs,_,_,_,h1⟩:=h;exact h1
theorem DW.set(h1:DW w W b Z m i bs cs)(h2:RD w W Z sv Y m bs cs)(h3:vb∈bs){c:Array Value}{T:Nat}(hT:T≠38∨sv.ownBlock≠some vb)(h4:W.heap[vb]?=some (.cells c T (0,0)))(hn:Nob W [vb])(hv:sv.ownBlock≠some vb)(j:Nat)(x:Value) :
 DW w (W.setCell ⟨vb,j,none⟩ x) b Z m i bs cs/\RD w (W.setCell ⟨vb,j,none⟩ x) Z sv Y m bs cs/\∀k,k≠vb->k<W.heap.size->(W.setCell ⟨vb,j,none⟩ x).heap[k]?=W.heap[k]?:=by
 have ho:Only [vb] W (W.setCell ⟨vb,j,none⟩ x):=(Only.refl _ W).setCell (by simp) _;have hk:∀k,k≠vb->k<W.heap.size->(W.setCell ⟨vb,j,none⟩ x).heap[k]?=W.heap[k]?:=λk h1 h2=>ho.2.2.2.2 k h2 (λhm=>h1 (by simpa using hm));have q:=h1.own (ks:=[vb]) ho (by simpa using h3) hn [] (by simp);rw[Ξu]at q;refine⟨q,⟨h2.len,B03 h2.own (λg hg=>hk g (λe=>hv (by rw[<-e];exact hg)) (h1.lt g (.inl (h2.blk g hg)))),h2.blk,λi hi=>?_⟩,hk⟩;obtain⟨g,a1,a4,a5⟩:=h2.el i hi;exact⟨g,a1,a4,A5s a5 (hk g (λe=>h1.dis g a4 (by rw[e];exact h3)) (h1.lt g (.inr a4)))⟩
theorem DV.put(h:DV w W b Z m i sv Y vb a0 a1 a2)(x:Int){c0 c1 c2:Int}(e:#[Value.int .i64 a0,.int .i64 a1,.int .i64 a2].setIfInBounds j (.int .i64 x)=#[Value.int .i64 c0,.int .i64 c1,.int .i64 c2]):DV w (W.setCell ⟨vb,j,none⟩ (.int .i64 x)) b Z m i sv Y vb c0 c1 c2:=by
 obtain⟨bs,cs,h1,h2,h3,h4⟩:=h;have hv:sv.ownBlock≠some vb:=λe=>by
  obtain⟨c,fz,hc⟩:=Lib.ownsRow_kind h2.own vb e;rw[V4,hc]at h4;simp at h4
 have hn:Nob W [vb]:=λk hk=>by
  rw[Ξg]at hk;subst hk;exact ξi h4 (by decide)
 obtain⟨q1,q2,q3⟩:=h1.set h2 h3 (.inr hv) h4 hn hv j (.int .i64 x);refine⟨bs,cs,q1,q2,h3,?_⟩;have:=heap_setCell_same W vb j _ 34 (.int .i64 x) h4;rw[e]at this;exact this
theorem DV.put'(h:DV w W b Z m i sv Y vb a0 a1 a2)(hj:j<3)(x:Int):∃c0 c1 c2,DV w (W.setCell ⟨vb,j,none⟩ (.int .i64 x)) b Z m i sv Y vb c0 c1 c2:=by
 rcases(by omega:j=0∨j=1∨j=2)with rfl|rfl|rfl
 ·exact⟨x,a1,a2,h.put x rfl⟩
 ·exact⟨a0,x,a2,h.put x rfl⟩
 ·exact⟨a0,a1,x,h.put x rfl⟩
def DP(w W:World)(b:Nat)(Z:Zd)(m i:Nat)(sv:Value)(Y:List AU.Pk)(vb:Nat)(a0 a1 a2:Int)(g:Nat):Prop:=∃bs cs,DW w W b Z m i bs cs/\RD w W Z sv Y m bs cs/\(vb∈bs/\V4 W vb a0 a1 a2)/\g∈cs/\Arg W (some ⟨g,0,none⟩) 2 (LP.pL m)
structure DX(w W:World)(b:Nat)(Z:Zd)(m' i m:Nat)(sv:Value)(Y:List AU.Pk)(vb:Nat)(a0 a1 a2:Int)(g xb:Nat)(l:Int)(st:Bool)(bs cs:List Nat):Prop where
 dw:DW w W b Z m' i bs cs
 rd:RD w W Z sv Y m bs cs
 vi:vb∈bs
 v4:V4 W vb a0 a1 a2
 gi:g∈cs
 ga:Arg W (some ⟨g,0,none⟩) 2 (LP.pL m)
 xi:xb∈bs
 bx:Box W xb (m:Int) (m:Int) l 0 st (.slice (some ⟨g,0,none⟩) 2 2)
 xv:xb≠vb
 xr:sv.ownBlock≠some xb
theorem inA(h:Arg W (some ⟨g,0,none⟩) 2 L):g<W.heap.size:=by
 obtain⟨g',o,e,hc⟩:=h.1.2 0 (by have:=h.2.1;omega);cases e;exact Ξq W _ hc
theorem DV.packet(h:DV w W b Z m i sv Y vb a0 a1 a2)(hm:m<=1000) :
 Calls prog 10 #[.int .i64 (m:Int),.int .i64 0] W λe w'=>∃g,e=.returned (.agg #[.int .i64 (m:Int),.int .i64 (m:Int),.int .i64 0,.int .i64 0,.bool true,.slice (some ⟨g,0,none⟩) 2 2])/\DP w w' b Z m i sv Y vb a0 a1 a2 g:=by
 obtain⟨bs,cs,h1,h2,h3,h4⟩:=h;refine(ξ3g m hm 0 W).mono ?_;rintro e w' ⟨g,rfl,hA,hg,hb⟩;have ae:=A9u (bs:=bs++cs) hb (λk hk=>h1.lt k (Ξe.1 hk));exact⟨g,rfl,bs,cs++[g],h1.below hb [g] (by simpa using⟨hg,inA hA⟩),h2.stay ae (λk hk=>hk) (λk hk=>List.mem_append_left _ hk),⟨h3,h4.same (ae vb (List.mem_append_left _ h3))⟩,by simp,hA⟩
theorem DP.box(h:DP w W b Z m i sv Y vb a0 a1 a2 g) :
 ∃bs cs,DX w (W.alloc (.cells #[.int .i64 (m:Int),.int .i64 (m:Int),.int .i64 0,.int .i64 0,.bool true,.slice (some ⟨g,0,none⟩) 2 2] 38)) b Z m i m sv Y vb a0 a1 a2 g W.heap.size 0 true bs cs:=by
 obtain⟨bs,cs,h1,h2,⟨h3,h4⟩,h5,h6⟩:=h;obtain⟨q1,q2⟩:=h1.new h2 (.cells #[.int .i64 (m:Int),.int .i64 (m:Int),.int .i64 0,.int .i64 0,.bool true,.slice (some ⟨g,0,none⟩) 2 2] 38);have hl:=h1.lt;have hb:=Below.heap_alloc W (.cells #[.int .i64 (m:Int),.int .i64 (m:Int),.int .i64 0,.int .i64 0,.bool true,.slice (some ⟨g,0,none⟩) 2 2] 38);exact⟨_,_,q1,q2,List.mem_append_left _ h3,h4.same (hb _ (hl vb (.inl h3))),h5,A5s h6 (hb _ (hl g (.inr h5))),by simp,Box.new _ _ _ _ _ _ _,by have:=hl vb (.inl h3);omega,λe=>by have:=hl _ (.inl (h2.blk _ e));omega⟩
section
variable {m':Nat}{vb:Nat}{a0 a1 a2:Int}{g xb:Nat}{l:Int}{st:Bool}
theorem DX.bel(h:DX w W b Z m' i m sv Y vb a0 a1 a2 g xb l st bs cs):Below w.heap.size w W:=h.dw.bel
theorem DX.new(h:DX w W b Z m' i m sv Y vb a0 a1 a2 g xb l st bs cs)(O:Obj):DX w (W.alloc O) b Z m' i m sv Y vb a0 a1 a2 g xb l st bs cs:=by
 have hb:Below W.heap.size W (W.alloc O):=(Ξp _ _).alloc (Ξo _) _;have ae:=A9u (bs:=bs++cs) hb (λk hk=>h.dw.lt k (Ξe.1 hk));have q:=h.dw.below hb [] (by simp);rw[Ξu]at q;exact⟨q,h.rd.stay ae (λk hk=>hk) (λk hk=>hk),h.vi,h.v4.same (ae _ (List.mem_append_left _ h.vi)),h.gi,A5s h.ga (ae _ (List.mem_append_right _ h.gi)),h.xi,(ae _ (List.mem_append_left _ h.xi)).trans h.bx,h.xv,h.xr⟩
theorem DX.set(h:DX w W b Z m' i m sv Y vb a0 a1 a2 g xb l st bs cs)(hm:m'=m)(j:Nat)(x:Value){l':Int}{st':Bool}(e:#[Value.int .i64 (m:Int),.int .i64 (m:Int),.int .i64 l,.int .i64 0,.bool st,.slice (some ⟨g,0,none⟩) 2 2].setIfInBounds j x=#[Value.int .i64 (m:Int),.int .i64 (m:Int),.int .i64 l',.int .i64 0,.bool st',.slice (some ⟨g,0,none⟩) 2 2]) :
 DX w (W.setCell ⟨xb,j,none⟩ x) b Z m' i m sv Y vb a0 a1 a2 g xb l' st' bs cs/\∀k,k≠xb->k<W.heap.size->(W.setCell ⟨xb,j,none⟩ x).heap[k]?=W.heap[k]?:=by
 subst hm;have ah:=h.bx;unfold Box at ah;have hn:Nob W [xb]:=λk hk=>by
  rw[Ξg]at hk;subst hk;exact ξi ah (by decide)
 obtain⟨q1,q2,q3⟩:=h.dw.set h.rd h.xi (.inr h.xr) ah hn h.xr j x;have ae:=heap_setCell_same W xb j _ 38 x ah;rw[e]at ae;refine⟨⟨q1,q2,h.vi,h.v4.same (q3 vb (λe=>h.xv e.symm) (h.dw.lt _ (.inl h.vi))),h.gi,A5s h.ga (q3 g (λe=>h.dw.dis g h.gi (by rw[e];exact h.xi)) (h.dw.lt _ (.inr h.gi))),h.xi,ae,h.xv,h.xr⟩,q3⟩
theorem DX.A5f(h:DX w W b Z m' i m sv Y vb a0 a1 a2 g xb l st bs cs)(hm:m'=m)(l':Int):DX w (W.setCell ⟨xb,2,none⟩ (.int .i64 l')) b Z m' i m sv Y vb a0 a1 a2 g xb l' st bs cs/\∀k,k≠xb->k<W.heap.size->(W.setCell ⟨xb,2,none⟩ (.int .i64 l')).heap[k]?=W.heap[k]?:=h.set hm 2 (.int .i64 l') rfl
theorem DX.A47(h:DX w W b Z m' i m sv Y vb a0 a1 a2 g xb l st bs cs)(hm:m'=m)(st':Bool):DX w (W.setCell ⟨xb,4,none⟩ (.bool st')) b Z m' i m sv Y vb a0 a1 a2 g xb l st' bs cs/\∀k,k≠xb->k<W.heap.size->(W.setCell ⟨xb,4,none⟩ (.bool st')).heap[k]?=W.heap[k]?:=h.set hm 4 (.bool st') rfl
theorem DX.act(hZ:Z.Ok)(hmo:0<=Z.mo/\Z.mo<=3)(hS:Z.S m=⟨(m:Int),(m:Int),l,0,st,LP.pL m⟩)(h:DX w W b Z m i m sv Y vb a0 a1 a2 g xb l st bs cs)(hm:m<80)(hi:i<80) :
 Calls prog 11 #[.pointer (some ⟨b,0,none⟩),.agg #[.int .i64 a0,.int .i64 a1,.int .i64 a2],.agg #[.int .i64 (m:Int),.int .i64 (m:Int),.int .i64 l,.int .i64 0,.bool st,.slice (some ⟨g,0,none⟩) 2 2]] W λe w'=>e=.returned (.bool true)/\DX w w' b Z (m+isS a0) (i+1) m sv Y vb a0 a1 a2 g xb l st bs cs:=by
 refine(ξal hZ hmo hS h.dw hm hi a0 a1 a2 h.gi h.ga).mono ?_;rintro e w' ⟨rfl,ae,hw⟩;exact⟨rfl,hw,h.rd.stay ae (λk hk=>hk) (λk hk=>hk),h.vi,h.v4.same (ae _ (List.mem_append_left _ h.vi)),h.gi,A5s h.ga (ae _ (List.mem_append_right _ h.gi)),h.xi,(ae _ (List.mem_append_left _ h.xi)).trans h.bx,h.xv,h.xr⟩
theorem DX.dl(h:DX w W b Z m' i m sv Y vb a0 a1 a2 g xb l st bs cs)(e:m'=m):DL w W b Z m i sv Y:=by
 subst e;exact⟨bs,cs,h.dw,h.rd⟩
theorem DX.own(h:DX w W b Z m' i m sv Y vb a0 a1 a2 g xb l st bs cs):W.ownsRow w.heap.size 38 6 sv m (Audit.flat Y)/\w.heap.size<=W.heap.size:=⟨h.rd.own,h.dw.ws⟩
theorem DX.add(hS:Z.S m=⟨(m:Int),(m:Int),l,0,st,LP.pL m⟩)(h:DX w W b Z m' i m sv Y vb a0 a1 a2 g0 xb l st bs cs)(e:m'=m+1)
 (hown:W1.ownsRow w.heap.size 38 6 (.slice (some ⟨g,0,none⟩) (m+1) cap) (m+1) (Audit.flat Y++Audit.pc ⟨(m:Int),(m:Int),l,0,st,some ⟨g0,0,none⟩,2,2,LP.pL m⟩)) (hg:(W.alloc O).grownBy W1 sv.ownBlock) (hl:sv.ownBlock=some g∨g=W.heap.size+1) (hgl:g<W1.heap.size) :
 DL w W1 b Z (m+1) i (.slice (some ⟨g,0,none⟩) (m+1) cap) (Y++[pD Z m g0]):=by
 subst e;have hp:pD Z m g0=⟨(m:Int),(m:Int),l,0,st,some ⟨g0,0,none⟩,2,2,LP.pL m⟩:=by
  unfold pD;rw[hS]
 rw[<-hp]at hown;obtain⟨ks,new,q1,q2,q3,q4,q5⟩:=h.rd.add h.dw.dis h.dw.lt h.gi h.ga hown hg hl hgl;exact⟨_,_,h.dw.own q1 q2 q3 new q4,q5⟩
end
def DM(w W:World)(b:Nat)(Z:Zd)(m:Nat)(sv:Value)(Y:List AU.Pk):Prop:=∃bs cs,DE w W b Z m bs cs/\RD w W Z sv Y m bs cs
theorem DL.calm(hZ:Z.Ok)(hmo:0<=Z.mo/\Z.mo<=3)(h:DL w W b Z m i sv Y)(hi:i<=80) :
 Calls prog 13 #[.pointer (some ⟨b,0,none⟩)] W λe w'=>∃r:Int,e=.returned (.int .i64 r)/\DM w w' b Z m sv Y:=by
 obtain⟨bs,cs,h1,h2⟩:=h;refine(h1.calm hZ hmo hi).mono ?_;rintro e w' ⟨r,rfl,ae,hz⟩;exact⟨r,rfl,bs,cs,hz,h2.stay ae (λk hk=>hk) (λk hk=>hk)⟩
structure GvD(S:Nat->Pk)(mt:Int)(c:List Nat)(m:Nat)(G:List AU.Pk):Prop where
 len:G.length=c.length
 ci:c.length<=80
 up:∀j,j+1<c.length->c.getD j 0<c.getD (j+1) 0
 lt:∀j,j<c.length->c.getD j 0<m
 at':∀j,j<c.length->(G.getD j AU.A0l).s=(j:Int)/\(G.getD j AU.A0l).l=(S (c.getD j 0)).l/\(G.getD j AU.A0l).q=(S (c.getD j 0)).q/\(G.getD j AU.A0l).st=(S (c.getD j 0)).st/\(G.getD j AU.A0l).L=(S (c.getD j 0)).L/\PM.fault (G.getD j AU.A0l).s (G.getD j AU.A0l).t (G.getD j AU.A0l).l (G.getD j AU.A0l).q (G.getD j AU.A0l).L.length=0
 lay:∀j,j<c.length->(S (c.getD j 0)).l<=mt/\((S (c.getD j 0)).st=true∨(0<j/\(S (c.getD (j-1) 0)).l=(S (c.getD j 0)).l))
theorem ξ5R{l:List Nat}(h:j<l.length):l.getD j 0∈l:=by
 rw[Ξa,Ξd h];exact List.getElem_mem _
theorem ξgb{S:Nat->Pk}{s:Sb}{c:List Nat}{mt:Int}(hS:A7b S)(hm:m<=80)(hs:s.mo=mt)(h:GD S s c)(hc:∀i∈c,i<m){G:List AU.Pk}(hG:G.map (λg=>(⟨g.s,g.t,g.l,g.q,g.st,g.L⟩:Pk))=s.got):GvD S mt c m G:=by
 have hl:G.length=c.length:=by rw[<-h.len,<-hG,Ξm]
 have ae:c.length<=80:=Nat.le_trans (ξ8M h.inc hc) hm;refine⟨hl,ae,λj hj=>?_,λj hj=>hc _ (ξ5R hj),λj hj=>?_,λj hj=>by have:=h.lay j hj;rw[hs]at this;exact this⟩
 ·rw[Ξa,Ξa,Ξd hj,Ξd (show j<c.length by omega)];exact List.pairwise_iff_getElem.1 h.inc j (j+1) (by omega) hj (by omega)
 ·obtain⟨q0,q1,q2,q3,q4⟩:=h.el j hj;have q5:=h.tt.2 j hj;have e:s.got.getD j pkZ=⟨(G.getD j AU.A0l).s,(G.getD j AU.A0l).t,(G.getD j AU.A0l).l,(G.getD j AU.A0l).q,(G.getD j AU.A0l).st,(G.getD j AU.A0l).L⟩:=by
   rw[<-hG,Ξa,List.getElem?_map,Ξa,Ξd (show j<G.length by omega)];rfl
  rw[e]at q0 q1 q2 q3 q4 q5;have q0:(G.getD j AU.A0l).s=(j:Int):=q0;have q1:(G.getD j AU.A0l).l=(S (c.getD j 0)).l:=q1;have q2:(G.getD j AU.A0l).q=(S (c.getD j 0)).q:=q2;have q3:(G.getD j AU.A0l).st=(S (c.getD j 0)).st:=q3;have q4:(G.getD j AU.A0l).L=(S (c.getD j 0)).L:=q4;have q5:0<=(G.getD j AU.A0l).t/\(G.getD j AU.A0l).t<=4294967295:=q5;refine⟨q0,q1,q2,q3,q4,?_⟩;have ah:=hc _ (ξ5R hj);obtain⟨s',t',l',v',f1,f2,f3,f4,f5,f6,f7,f8,f9⟩:=PM.ξs (hS.ok (c.getD j 0) (by omega)).f;unfold PM.fault;rw[if_pos ⟨by omega,by omega,q5.1,q5.2,by rw[q1,f3];omega,by rw[q1,f3];omega,by rw[q2,f4];omega,by rw[q2,f4];omega⟩,if_pos (by rw[q4];exact f9)]
theorem B04:∀X:List (Pk×Value),(∀x∈X,ξo W o x.2 x.1.L)->∃G:List AU.Pk,G.length=X.length/\Audit.flat G=(X.flatMap λx=>pc x.1 x.2)/\(∀g∈G,Audit.A4i W g)/\G.map (λg=>(⟨g.s,g.t,g.l,g.q,g.st,g.L⟩:Pk))=X.map Prod.fst
 | [],_=>⟨[],rfl,rfl,by simp,rfl⟩
 | x::r,h=>by
   obtain⟨G,h1,h2,h3,h4⟩:=B04 r (λy hy=>h y (List.mem_cons_of_mem _ hy));obtain⟨a,m,c,e,hA,_⟩:=h x (List.mem_cons_self ..);refine⟨⟨x.1.s,x.1.t,x.1.l,x.1.q,x.1.st,a,m,c,x.1.L⟩::G,by simp[h1],?_,?_,by simp[h4]⟩
   ·show Audit.flat (_::G)=_;rw[List.flatMap_cons,<-h2,e];rfl
   ·intro g hg;rcases Ξf.1 hg with rfl|hg
    ·exact hA
    ·exact h3 g hg
structure A41(w W:World)(Z:Zd)(m:Nat)(sa:Option Addr)(sc:Nat)(Y:List AU.Pk)(a:Option Addr)(c:List Nat)(G:List AU.Pk):Prop where
 bel:Below w.heap.size w W
 sp:Audit.A04 W sa m Y
 scap:m<=sc
 sn:sa=none->sc=0
 sy:∀j,j<m->∃g,Y.getD j AU.A0l=pD Z j g
 gp:Audit.A04 W a c.length G
 gv:GvD Z.S Z.mo c m G
theorem DM.got(hZ:Z.Ok)(h:DM w W b Z m sv Y) :
 Calls prog 14 #[.pointer (some ⟨b,0,none⟩),.int .i64 1] W λe w'=>∃a k c G sa sc,e=.returned (.tuple #[.slice a c.length k,.nilIface])/\sv=.slice sa m sc/\A41 w w' Z m sa sc Y a c G:=by
 obtain⟨bs,cs,h1,h2⟩:=h;have hm:m<=80:=by
  obtain⟨M,X,_,q⟩:=h1;exact q.m80
 refine(h1.got hZ).mono ?_;rintro e w' ⟨a,k,n,s,c,rfl,rfl,⟨o,X,x1,x2,x3⟩,hs,hg,hc,ah,hb⟩;have hr:=h2.stay ah (λk hk=>hk) (λk hk=>hk);obtain⟨G,g1,g2,g3,g4⟩:=B04 X x3;rw[x1]at g4;rw[<-g2]at x2;have ai:X.length=s.got.length:=by rw[<-x1,Ξm]
 have ae:=hg.len;have aj:=hg.few;obtain⟨a',am,e',hP,_⟩:=Audit.ξ8u x2 g1 (by omega) g3;simp only[Value.slice.injEq]at e';obtain⟨rfl,e2,rfl⟩:=e';rw[ai,ae]at hP;have aq:∀p∈Y,Audit.A4i w' p:=by
  intro p hp;obtain⟨j,hj,rfl⟩:=List.mem_iff_getElem.1 hp;obtain⟨g,q1,_,q3⟩:=hr.el j (by rw[<-hr.len];exact hj);have e:Y.getD j AU.A0l=Y[j]:=by rw[Ξa,Ξd hj];rfl
  rw[<-e,q1];exact q3
 obtain⟨sa,sc,rfl,sP,s2,s3⟩:=Audit.ξ8u hr.own hr.len (by omega) aq;refine⟨a,k,c,G,sa,sc,by rw[ae],rfl,hb,sP,s2,s3,λj hj=>?_,hP,ξgb hZ.pk hm hs.mo hg hc g4⟩;obtain⟨g,q1,_⟩:=hr.el j hj;exact⟨g,q1⟩
variable {sa a:Option Addr}{sc k:Nat}{c:List Nat}{G:List AU.Pk}
theorem A41.below(h:A41 w W Z m sa sc Y a c G)(hb:Below W.heap.size W W'):A41 w W' Z m sa sc Y a c G:=
 ⟨h.bel.trans (hb.mono h.bel.size),h.sp.below hb,h.scap,h.sn,h.sy,h.gp.below hb,h.gv⟩
theorem A41.drew(h:A41 w W Z m sa sc Y a c G)(r:Nat):A41 w (W.drewN r) Z m sa sc Y a c G:=h.below (Audit.below_drewN' (Ξp _ _) _)
theorem A41.check(hS:∀j,j<m->(Z.S j).q=0/\(Z.S j).L=LP.pL j)(hm:m<=80)(h:A41 w W Z m sa sc Y a c G)(cap:Nat) :
 Calls prog 17 #[.slice sa m sc,.slice a c.length cap] W λe w'=>e=.returned (.tuple #[.int .i64 0,.nilIface])/\A41 w w' Z m sa sc Y a c G:=by
 have hl:=h.gv.len;have am:=h.gv.ci;have ah:Y.length=m:=h.sp.1;have ai:AU.Stop Y G G.length:=by
  refine AU.ξet (c:=λj=>c.getD j 0) (λj hj=>?_) (λj hj=>h.gv.up j (by omega));have ae:=h.gv.lt j (by omega);obtain⟨_,e1,e2,e3,e4,_⟩:=h.gv.at' j (by omega);refine⟨by rw[ah];exact ae,?_⟩;obtain⟨g,hg⟩:=h.sy _ ae;obtain⟨s1,s2⟩:=hS _ ae;show AU.like (G.getD j AU.A0l) (Y.getD (c.getD j 0) AU.A0l)=true;rw[hg];exact AU.ξdi.2 ⟨e1,e2.trans s1,e3,e4.trans s2⟩
 have hf:AU.A0s Y G G.length=0:=AU.ξ5Y (by omega) (by omega);have aj:AU.cat Y G G.length=0:=by unfold AU.cat;rw[hf];rfl
 have C:=Audit.ξa sa m sc Y a c.length cap G G.length W h.sp h.scap h.sn h.gp ai;rw[hf,aj]at C;refine C.mono ?_;rintro e w' ⟨rfl,hb⟩;exact⟨rfl,h.below hb⟩
theorem A41.row(h:A41 w W Z m sa sc Y a c G)(cap:Nat) :
 Calls prog 18 #[.slice a c.length cap] W λe w'=>e=.returned (.tuple #[.int .i64 0,.nilIface])/\A41 w w' Z m sa sc Y a c G:=by
 have hl:=h.gv.len;have aq:=h.gv.ci;have ae:AU.A8z G G.length:=AU.ξaP λj hj=>by
  obtain⟨e0,_,_,_,_,ef⟩:=h.gv.at' j (by omega);obtain⟨b,o,_,_,ah⟩:=h.gp.2.2 j (by omega);have ai:AU.pf (G.getD j AU.A0l)=0:=by
   have hm:=ah.2.1;unfold AU.pf;rw[<-hm];exact ef
  unfold AU.rfa;rw[if_neg (by rw[ai];simp)];by_cases hj0:0<j
  ·obtain⟨aj,_⟩:=h.gv.at' (j-1) (by omega);rw[if_neg (by rw[e0,aj];omega)]
  ·rw[if_neg (by omega)]
 have hf:AU.A5z G G.length=0:=by unfold AU.A5z;rw[if_neg (by omega),if_neg (by omega)]
 have am:AU.rat G G.length=0:=by unfold AU.rat;rw[if_neg (by omega),if_neg (by omega)]
 have C:=Audit.ξaR a c.length cap G G.length W h.gp ae;rw[hf,am]at C;refine C.mono ?_;rintro e w' ⟨rfl,hb⟩;exact⟨rfl,h.below hb⟩
end
end Go.Proofs.YtpiamlgmadnepaaGreat.MS
