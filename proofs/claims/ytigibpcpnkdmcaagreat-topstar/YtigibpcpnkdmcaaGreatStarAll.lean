/-
 StarA, StarB, StarK, StarC in one text.
-/
import Derived.Test.YtigibpcpnkdmcaaGreatMeshMath
set_option linter.unusedVariables false
namespace Go.Proofs.YtigibpcpnkdmcaaGreat.MS
open Go.ChangeShapes Go.WideShapes Go.ChangeAt Go.RowKit Go.Maps Mem NO ND
structure Run (l:Int) (S:Nat->Pk) (h:Nat) (b:Int) (x:Sb):Prop where
 mo:x.mo=3
 ln:x.ln=if h=0 then -1 else l
 br:x.br=false
 la:x.la<=b
 uk:x.uk=h
 len:x.got.length=h
 got:∀ j,j<h->∃ g,x.got[j]?=some g/\g.s=(j:Int)/\g.l=l/\g.L=(S j).L
theorem Run.start (l:Int) (S:Nat->Pk) (tk b:Int) (hb:-1<=b):Run l S 0 b (s0 tk 3):=⟨rfl,rfl,rfl,hb,rfl,rfl,fun j hj=>absurd hj (by omega)⟩
theorem Run.wants {l:Int} {S:Nat->Pk} {h:Nat} {b:Int} {x:Sb} (hR:Run l S h b x) (h0:0<=l) (h3:l<=3):x.wants=decide (h=0):=by
 unfold Sb.wants LM.wants;rw [hR.mo,hR.ln,hR.br];by_cases c:h=0
 ·simp [c]
 ·rw [if_neg c];simp [c]
  omega
theorem Run.item {l:Int} {S:Nat->Pk} {h:Nat} {b y now:Int} {x:Sb} (hR:Run l S h b x) (h0:0<=l) (h3:l<=3) (hy:b<y) (hy0:0<=y) (hy1:y<=1099511627776) (hf:PM.fault (S h).s (S h).t (S h).l (S h).q (S h).L.length=0) (hl:(S h).l=l) (hs:h=0->(S h).st=true) (hh:h<=60000):Run l S (h+1) y (x.item (kpk y now (S h))):=by
 have hif:ifl (kpk y now (S h))=0:=hf
 have hla:=hR.la
 have htf:LM.tkf x.la y false 0=0:=by
  unfold LM.tkf;rw [if_neg (by omega),if_neg (by omega)]
  rfl
 have hgo:LM.goes 3 x.ln l false (S h).st=true:=by
  unfold LM.goes;rw [hR.ln];by_cases c:h=0
  ·rw [if_pos c,hs c];simp
   omega
  ·rw [if_neg c];cases hst:(S h).st<;>simp<;>omega
 have hth:LM.tkx 3 x.ln x.la y false false 0 l (S h).st=true:=by
  unfold LM.tkx;rw [htf,hgo];rfl
 have hthru:x.thru (kpk y now (S h))=true:=by
  show LM.tkx x.mo x.ln x.la y x.br false (ifl (kpk y now (S h))) (S h).l (S h).st=true
  rw [hif,hR.mo,hR.br,hl];exact hth
 have e:x.item (kpk y now (S h))={ (x.laid (kpk y now (S h))).next (kpk y now (S h)) with got:=x.got++[x.outp (kpk y now (S h))] }:=by
  unfold Sb.item;rw [if_pos hthru]
 rw [e];refine ⟨hR.mo,?_,?_,?_,?_,?_,?_⟩
 ·show LM.tkN x.mo x.ln x.la y x.br false (ifl (kpk y now (S h))) (S h).l (S h).st=_
  rw [hif,hR.mo,hR.br,hl,if_neg (by omega)]
  unfold LM.tkN;rw [hth];cases hst:(S h).st with
  | true=>rfl
  | false=>
    have c:h≠0:=fun c=>by rw [hs c] at hst;cases hst
    show x.ln=l
    rw [hR.ln,if_neg c]
 ·show LM.tkB x.mo x.ln x.la y x.br false (ifl (kpk y now (S h))) (S h).l (S h).st=false
  rw [hif,hR.mo,hR.br,hl];unfold LM.tkB;rw [htf,hth];cases hst:(S h).st<;>rfl
 ·show LM.tkL x.la y false (ifl (kpk y now (S h)))<=y
  rw [hif];unfold LM.tkL;rw [if_pos htf];exact Int.le_refl _
 ·show x.uk+1=h+1
  rw [hR.uk]
 ·show (x.got++[x.outp (kpk y now (S h))]).length=h+1
  rw [List.length_append,hR.len];rfl
 ·intro j hj;show ∃ g,(x.got++[x.outp (kpk y now (S h))])[j]?=some g/\_
  by_cases c:j<h
  ·obtain ⟨g,g1,g2⟩:=hR.got j c;exact ⟨g,by rw [List.getElem?_append_left (by rw [hR.len];exact c)];exact g1,g2⟩
  ·have e2:j=h:=by omega
   subst e2;refine ⟨x.outp (kpk y now (S j)),?_,?_,hl,rfl⟩
   ·rw [List.getElem?_append_right (by rw [hR.len];exact Nat.le_refl _),hR.len,Nat.sub_self]
    rfl
   ·show UM.sq 0 x.uk=(j:Int)
    rw [hR.uk];unfold UM.sq;omega
theorem ξ58 {l:Int} {S:Nat->Pk} {s:Nat} {now:Int} (hnow:0<=now) (hnow1:now<=1000000) (h0:0<=l) (h3:l<=3) (tk:Int):∀ h,s+h<=60000->(∀ j,j<h->PM.fault (S j).s (S j).t (S j).l (S j).q (S j).L.length=0/\(S j).l=l)->(0<h->(S 0).st=true) ->
 Run l S h (65535+(s:Int)+(h:Int)) (rowsN (s0 tk 3) now s S h)/\SbR s h (rowsN (s0 tk 3) now s S h)/\SbOk now (rowsN (s0 tk 3) now s S h)
 | 0,_,_,_=>⟨Run.start l S tk (65535+(s:Int)+((0:Nat):Int)) (by omega),SbR.start s tk 3,(SbOk.start tk 3).mono hnow⟩
 | h+1,hb,hS,hs=>by
   obtain ⟨r1,r2,r3⟩:=ξ58 (l:=l) (S:=S) (s:=s) hnow hnow1 h0 h3 tk h (by omega) (fun j hj=>hS j (by omega)) (fun hh=>hs (by omega))
   obtain ⟨e1,e2⟩:=r2.push r3 (Int.le_refl now) hnow1 (by omega) (S h) (hS h (by omega)).1
   have htf:=ξ2x r3.oi.c1 r3.on hnow1
   refine ⟨?_,e2,(r3.push htf).1⟩
   show Run l S (h+1) _ ((rowsN (s0 tk 3) now s S h).push (65536+(s:Int)+(h:Int)) now (S h))
   rw [e1];have r1':Run l S h (65535+(s:Int)+(h:Int)) ({ rowsN (s0 tk 3) now s S h with on:=now,ox:=65536+(s:Int)+(h:Int)+1,oM:=[] }:Sb):=⟨r1.mo,r1.ln,r1.br,r1.la,r1.uk,r1.len,r1.got⟩
   have:=r1'.item (y:=65536+(s:Int)+(h:Int)) (now:=now) h0 h3 (by omega) (by omega) (by omega) (hS h (by omega)).1 (hS h (by omega)).2 (fun c=>by subst c;exact hs (by omega)) (by omega)
   rw [show (65535+(s:Int)+((h+1:Nat):Int))=65536+(s:Int)+(h:Int) by omega]
   exact this
def Zs (w W:World) (b:Nat) (M:Ms) (bs:List Nat):Prop:=∃ o P,MAt W o b P M/\(∀ k,k<w.heap.size->(o k).n=0)/\Below w.heap.size w W/\∀ k∈bs,(o k).n=2000/\k<W.heap.size
def Stay (bs:List Nat) (W W':World):Prop:=∀ k∈bs,W'.heap[k]?=W.heap[k]?
theorem Stay.sub {bs cs:List Nat} {W W':World} (h:Stay bs W W') (hs:∀ k∈cs,k∈bs):Stay cs W W':=fun k hk=>h k (hs k hk)
theorem Zt.zs {w W:World} {b:Nat} {M:Ms} (h:Zt w W b M):Zs w W b M []:=by
 obtain ⟨o,P,h1,h2,h3⟩:=h;exact ⟨o,P,h1,h2,h3,fun k hk=>absurd hk (by simp)⟩
theorem Zs.bel {w W:World} {b:Nat} {M:Ms} {bs:List Nat} (h:Zs w W b M bs):Below w.heap.size w W:=by
 obtain ⟨o,P,_,_,h,_⟩:=h;exact h
theorem ξ1W {w W W':World} {b:Nat} {M':Ms} {bs:List Nat} {o:Nat->Tg} (hb:Below w.heap.size w W) (ho:∀ k,k<w.heap.size->(o k).n=0) (h4:∀ k∈bs,(o k).n=2000/\k<W.heap.size) (h:MDone W W' o b M'):Zs w W' b M' bs/\Stay bs W W':=by
 obtain ⟨o',P',h1,h2,h3⟩:=h;have hs:=h3.size
 refine ⟨⟨o',P',h1,ξ5p hb ho h2,ξ3i hb ho h3,fun k hk=>?_⟩,fun k hk=>?_⟩
 ·obtain ⟨q1,q2⟩:=h4 k hk;refine ⟨?_,Nat.lt_of_lt_of_le q2 hs⟩
  rcases h2 k q2 with e | ⟨e,_⟩
  ·rw [e];exact q1
  ·exact absurd q1 e.2
 ·obtain ⟨q1,q2⟩:=h4 k hk;obtain ⟨cs,c1,c2,c3⟩:=h3;exact c1.2.2.2.2 k q2 (fun hm=>(c2 k hm).2 q1)
theorem Zs.own {w W W':World} {b:Nat} {M:Ms} {bs ks:List Nat} (h:Zs w W b M bs) (ho:Only ks W W') (hk:∀ k∈ks,k∈bs) (hn:Nob W ks) (new:List Nat) (hnew:∀ k∈new,W.heap.size<=k/\k<W'.heap.size):Zs w W' b M (bs++new):=by
 obtain ⟨o,P,h1,h2,h3,h4⟩:=h;have hc:Chg o (fun g=>g.n=2000) W W':=Chg.of_only ho (fun k hm=>(h4 k (hk k hm)).1) hn
 have hs:=hc.size
 refine ⟨grow o W ⟨2000,0,0⟩,P,h1.chg hc (fun g hg=>by omega) (ξ3 o W _),fun k hl=>?_,?_,fun k hm=>?_⟩
 ·rw [ξB (Nat.lt_of_lt_of_le hl h3.size)];exact h2 k hl
 ·refine h3.trans ⟨ho.1,ho.2.1,ho.2.2.1,ho.2.2.2.1,fun k hl=>ho.2.2.2.2 k (Nat.lt_of_lt_of_le hl h3.size) (fun hm=>?_)⟩
  have q1:=(h4 k (hk k hm)).1
  have q2:=h2 k hl
  omega
 ·rcases List.mem_append.1 hm with hm | hm
  ·obtain ⟨q1,q2⟩:=h4 k hm;exact ⟨by rw [ξB q2];exact q1,Nat.lt_of_lt_of_le q2 hs⟩
  ·obtain ⟨q1,q2⟩:=hnew k hm;exact ⟨by rw [ξf q1],q2⟩
def PS (w W:World) (b:Nat) (Q:Plan) (h:Nat->Nat->Nat) (X:List Fy) (rt:Nat->Int) (sb:List (Int×Int)) (bs:List Nat):Prop:=∃ M,Zs w W b M bs/\Pipe Q h X M/\M.rt=rt/\M.sb=sb/\M.E=Q.E
theorem PZ.ps {w W:World} {b:Nat} {Q:Plan} {h:Nat->Nat->Nat} {X:List Fy} {rt:Nat->Int} {sb:List (Int×Int)} (hz:PZ w W b Q h X rt sb):PS w W b Q h X rt sb []:=by
 obtain ⟨M,h1,h2⟩:=hz;exact ⟨M,h1.zs,h2⟩
theorem PS.bel {w W:World} {b:Nat} {Q:Plan} {h:Nat->Nat->Nat} {X:List Fy} {rt:Nat->Int} {sb:List (Int×Int)} {bs:List Nat} (hz:PS w W b Q h X rt sb bs):Below w.heap.size w W:=by
 obtain ⟨M,h1,h2⟩:=hz;exact h1.bel
theorem PS.own {w W W':World} {b:Nat} {Q:Plan} {h:Nat->Nat->Nat} {X:List Fy} {rt:Nat->Int} {sb:List (Int×Int)} {bs ks:List Nat} (hz:PS w W b Q h X rt sb bs) (ho:Only ks W W') (hk:∀ k∈ks,k∈bs) (hn:Nob W ks) (new:List Nat) (hnew:∀ k∈new,W.heap.size<=k/\k<W'.heap.size):PS w W' b Q h X rt sb (bs++new):=by
 obtain ⟨M,h1,h2⟩:=hz;exact ⟨M,h1.own ho hk hn new hnew,h2⟩
theorem ξ8D {w W:World} {b:Nat} {Q:Plan} {rt:Nat->Int} {sb:List (Int×Int)} {bs:List Nat} (hz:PS w W b Q zeroH [] rt sb bs) {k:Nat} (hk:k<8) (hoff:Q.on k=false) (hrt:rt k=-1) (hr:Q.rt k<Q.n) (hf:TM.ef (Q.n:Int) Q.E=0) :
 Calls Tryz.prog 9 #[.pointer (some ⟨b,0,none⟩),.int .i64 ((k:Int)+1),.int .i64 (Q.rt k:Int)] W fun e w'=>e=.returned .nilIface/\Stay bs W w'/\∃ p d,Trees Q.n (Q.rt k) Q.E p d/\PS w w' b (Q.publish k p d) zeroH [] (updN rt k (Q.rt k:Int)) sb bs:=by
 obtain ⟨M,⟨o,P,h1,h2,h3,h4⟩,hP,e1,e2,e3⟩:=hz;refine (ξ2N b k (Q.rt k) o P M W h1 hP.ok (by rw [hP.n,e3];exact hf) hk (by rw [hP.n];exact hr) (by rw [e1];exact hrt) (fun i hi=>hP.no i (by rw [<- hP.n];exact hi) k hk (by unfold Plan.at;rw [hoff];rfl))).mono ?_
 rintro e w' ⟨rfl,p,d,hT,hd⟩;rw [hP.n,e3] at hT;have hz:=ξ1W h3 h2 h4 hd
 exact ⟨rfl,hz.2,p,d,hT,_,hz.1,ξ2Y hP hk hoff hT e3,by rw [<- e1];rfl,e2,e3⟩
theorem ξeT {w W:World} {b:Nat} {Q:Plan} {rt:Nat->Int} {sb:List (Int×Int)} {bs:List Nat} (hz:PS w W b Q zeroH [] rt sb bs) {k v:Nat} (hk:k<8) (hv:v<Q.n) (hat:Q.at k v=true) {mo:Int} (h0:0<=mo) (h3:mo<=3) (hl:(Q.B v).length<20) (hsb:sb.length<=1000) :
 Calls Tryz.prog 10 #[.pointer (some ⟨b,0,none⟩),.int .i64 ((k:Int)+1),.int .i64 (v:Int),.int .i64 mo] W fun e w'=>e=.returned (.tuple #[.int .i64 ((sb.length:Int)+1),.nilIface])/\Stay bs W w'/\PS w w' b (Q.addS v (((Q.B v).length:Int)+1,s0 ((k:Int)+1) mo)) zeroH [] rt (sb++[((v:Int),((Q.B v).length:Int)+1)]) bs:=by
 obtain ⟨M,⟨o,P,h1,h2,hb,h4⟩,hP,e1,e2,e3⟩:=hz;have hvn:v<M.n:=by rw [hP.n];exact hv
 obtain ⟨t,t1,t2⟩:=hP.tr v hv k hk hat;have hls:=hP.ls v hv
 have hsl:(M.nd v).sb.length=(Q.B v).length:=by rw [hP.sb v hv,List.length_map]
 have hsF:sF (M.nd v) ((k:Int)+1) mo=0:=by
  unfold sF;rw [if_neg (by simp [okT];omega),if_neg (by omega),if_neg,if_neg (by omega)]
  unfold Nd.at
  rw [show (((k:Int)+1) - 1).toNat=k by omega,t1]
  simp
 have hI:=(hP.ok.nd v hvn).1.si
 refine (ξ52 b v o P M ((k:Int)+1) mo W h1 hvn hsF hI (by omega) (by rw [e2];omega)).mono ?_
 rintro e w' ⟨rfl,hd⟩;rw [e2];have hz:=ξ1W hb h2 h4 hd
 refine ⟨rfl,hz.2,_,hz.1,?_,e1,?_,e3⟩
 ·have:=ξ6k hP hk hv hat h0 h3 hl (by omega)
  rw [hls] at this;exact this
 ·show M.sb++[((v:Int),(M.nd v).ls+1)]=_
  rw [e2,hls]
theorem ξdJ {w W0 W:World} {b:Nat} {Q:Plan} (hQ:Q.Ok) {h:Nat->Nat->Nat} {X:List Fy} {rt:Nat->Int} {sb:List (Int×Int)} {bs:List Nat} (hz:PS w W0 b Q h X rt sb bs) (hb0:Below W0.heap.size W0 W) {k:Nat} (hk:k<8) (hon:Q.on k=true) (hrt:rt k=(Q.rt k:Int)) (hi:h k (Q.rt k)<Q.mx k) (a:Option Addr) (c:Nat) {p:Pk} (hp:Q.pk k (h k (Q.rt k))=p) (hA:Arg W a p.L.length p.L) (hno:a=none->p.L.length=0/\c=0) (ha:0<p.L.length->∀ ad,a=some ad->ad.block<w.heap.size∨W0.heap.size<=ad.block) :
 Calls Tryz.prog 13 #[.pointer (some ⟨b,0,none⟩),.int .i64 ((k:Int)+1),.agg #[.int .i64 p.s,.int .i64 p.t,.int .i64 p.l,.int .i64 p.q,.bool p.st,.slice a p.L.length c]] W fun e w'=>e=.returned .nilIface/\Stay bs W0 w'/\PS w w' b Q (upH h k (Q.rt k)) (X++Q.news k (Q.rt k) (h k (Q.rt k))) rt sb bs:=by
 obtain ⟨M,⟨o,P,h1,h2,hb,h4⟩,hP,e1,e2,e3⟩:=hz;have m1:=h1.grow hb0 ξ2
 have m2:∀ k,k<w.heap.size->(grow o W0 ξ2 k).n=0:=by
  intro k hk;rw [ξB (Nat.lt_of_lt_of_le hk hb.size)];exact h2 k hk
 have m3:0<p.L.length->∀ ad,a=some ad->(grow o W0 ξ2 ad.block).n=0:=by
  intro hm ad e;rcases ha hm ad e with q | q
  ·exact m2 _ q
  ·rw [ξf q]
 have m4:∀ k∈bs,(grow o W0 ξ2 k).n=2000/\k<W.heap.size:=by
  intro k hk;obtain ⟨q1,q2⟩:=h4 k hk;exact ⟨by rw [ξB q2];exact q1,Nat.lt_of_lt_of_le q2 hb0.size⟩
 have hT:=hQ.tr k hk hon
 have hr:Q.rt k<Q.n:=hT.rn
 obtain ⟨t,t1,t2⟩:=hP.tr (Q.rt k) hr k hk (Plan.at_iff.2 ⟨hon,by rw [hT.root_d];omega⟩)
 have hpk:=hQ.pk k hk _ hi
 rw [hp] at hpk;have C:=ξ46 b k (Q.rt k) (grow o W0 ξ2) P M t p.s p.t p.l p.q p.st a p.L.length c p.L W m1 hP.ok hk (by rw [e1];exact hrt) (by rw [hP.n];exact hr) t1 (by rw [t2.pa];exact hT.root_pa) hA hno m3 (Nat.le_trans (hP.few hQ) (by omega))
 rw [hpk.f] at C;refine C.mono ?_
 rintro e w' ⟨rfl,_,hd⟩;have hz:=ξ1W (hb.trans (hb0.mono hb.size)) m2 m4 (hd rfl)
 exact ⟨rfl,fun k hk=>(hz.2 k hk).trans (hb0.block k (h4 k hk).2),_,hz.1,hP.send hQ hk hon hi t1 hp.symm,e1,e2,e3⟩
structure Gots (M:Ms) (nn:Nat) (S:List (Int×Int)) (G:Nat->List (Int×List Pk)):Prop where
 n:M.n=nn
 sb:M.sb=S
 got:∀ v,v<nn->(M.nd v).sb.map (fun x=>(x.1,x.2.got))=G v
 si:∀ v,v<nn->SInv (M.nd v).sb (M.nd v).ls
def GZ (w W:World) (b n:Nat) (sb:List (Int×Int)) (G:Nat->List (Int×List Pk)) (fl:Nat) (bs:List Nat):Prop:=∃ M,Zs w W b M bs/\Gots M n sb G/\M.fl.length=fl
theorem GZ.bel {w W:World} {b n:Nat} {sb:List (Int×Int)} {G:Nat->List (Int×List Pk)} {fl:Nat} {bs:List Nat} (h:GZ w W b n sb G fl bs):Below w.heap.size w W:=by
 obtain ⟨M,h1,h2⟩:=h;exact h1.bel
theorem ξaT {w W:World} {b n:Nat} {sb:List (Int×Int)} {G:Nat->List (Int×List Pk)} {fl:Nat} {bs:List Nat} (h:GZ w W b n sb G fl bs) :
 Calls Tryz.prog 17 #[.pointer (some ⟨b,0,none⟩)] W fun e w'=>e=.returned (.int .i64 (fl:Int))/\w'=W:=by
 obtain ⟨M,⟨o,P,h1,_⟩,_,e⟩:=h;rw [<- e];exact ξ26 b o P M W h1
theorem ξbN {A B:List (Int×Sb)} {x:Int} {s:Sb} {ls:Int} (h:SInv (A++(x,s)::B) ls):SInv (A++(x,{ s with got:=[] })::B) ls:=by
 have e:ids (A++(x,{ s with got:=[] })::B)=ids (A++(x,s)::B):=by simp [ids]
 refine ⟨by rw [e];exact h.ris,?_,?_,h.ls0,h.ls1⟩
 ·intro y hy;rcases List.mem_append.1 hy with hy | hy
  ·exact h.mem y (List.mem_append_left _ hy)
  ·rcases List.mem_cons.1 hy with rfl | hy
   ·exact h.mem (x,s) (List.mem_append_right _ (List.mem_cons_self ..))
   ·exact h.mem y (List.mem_append_right _ (List.mem_cons_of_mem _ hy))
 ·have:=h.len
  simp only [List.length_append,List.length_cons] at this ⊢
  exact this
theorem ξf6 {w W:World} {b n:Nat} {sb:List (Int×Int)} {G:Nat->List (Int×List Pk)} {fl:Nat} {bs:List Nat} (h:GZ w W b n sb G fl bs) {j v:Nat} {id:Int} {g:List Pk} {A C:List (Int×List Pk)} (hj:sb[j]?=some ((v:Int),id)) (hv:v<n) (hG:G v=A++(id,g)::C) (hl:sb.length<=1000) :
 Calls Tryz.prog 15 #[.pointer (some ⟨b,0,none⟩),.int .i64 ((j:Int)+1)] W fun e w'=>∃ a c,e=.returned (.tuple #[.slice a g.length c,.nilIface])/\(∃ o,ξG w' o (.slice a g.length c) g)/\Stay bs W w'/\GZ w w' b n sb (updN G v (A++(id,[])::C)) fl bs:=by
 obtain ⟨M,⟨o,P,h1,h2,h3,h4⟩,hM,e⟩:=h;have hvn:v<M.n:=by rw [hM.n];exact hv
 have hg:=hM.got v hv
 rw [hG,List.map_eq_append_iff] at hg;obtain ⟨A',R',e1,e2,e3⟩:=hg;rw [List.map_eq_cons_iff] at e3;obtain ⟨x,C',e4,e5,e6⟩:=e3;obtain ⟨xi,s⟩:=x;simp only [Prod.mk.injEq] at e5
 obtain ⟨rfl,rfl⟩:=e5;subst e4;refine (ξ4o b j v xi o P M s A' C' W h1 (by rw [hM.sb];exact hj) hvn e1 (hM.si v hv) (by rw [hM.sb];omega)).mono ?_
 rintro e' w' ⟨a,c,rfl,o',P',g1,g2,g3,g4,g5⟩;have hd:MDone W w' o b (M.got v A' xi s C'):=⟨o',P',g1,g4,g5⟩
 have hz:=ξ1W h3 h2 h4 hd
 refine ⟨a,c,rfl,⟨o',g2⟩,hz.2,_,hz.1,⟨hM.n,hM.sb,?_,?_⟩,e⟩
 ·intro u hu;show (updN M.nd v { M.nd v with sb:=A'++(xi,{ s with got:=[] })::C' } u).sb.map _=updN G v _ u
  by_cases q:u=v
  ·subst q;rw [ξe,ξe];simp only [List.map_append,List.map_cons,e2,e6]
  ·rw [ξg _ _ q,ξg _ _ q];exact hM.got u hu
 ·intro u hu;show SInv (updN M.nd v { M.nd v with sb:=A'++(xi,{ s with got:=[] })::C' } u).sb (updN M.nd v { M.nd v with sb:=A'++(xi,{ s with got:=[] })::C' } u).ls
  by_cases q:u=v
  ·subst q;rw [ξe];have:=hM.si u hu
   rw [e1] at this;exact ξbN this
  ·rw [ξg _ _ q];exact hM.si u hu
structure Ky where
 k:Nat
 u:Nat
 v:Nat
 m:Int
def Ky.frm (x:Ky):Fl:=⟨(x.u:Int),(x.v:Int),Back.ebytes 2 ((x.k:Int)+1) [] x.m⟩
structure KyOk (Q:Plan) (x:Ky):Prop where
 k8:x.k<8
 un:x.u<Q.n
 on:Q.on x.k=true
 pa:TM.dg (Q.p x.k) x.u=(x.v:Int)
 m0:0<=x.m
 m3:x.m<=3
def kyw (Q:Plan) (X:List Ky):Nat:=(X.map fun x=>dp (Q.p x.k) Q.n x.v).sum
structure Keys (Q:Plan) (X:List Ky) (M:Ms):Prop where
 ok:MOk M
 n:M.n=Q.n
 tr:∀ v,v<Q.n->∀ k,k<8->Q.at k v=true->∃ t,(M.nd v).tr k=some t/\TrH k (Q.p k) Q.n v (Q.sq k) 0 t
 no:∀ v,v<Q.n->∀ k,k<8->Q.at k v=false->(M.nd v).tr k=none
 sb:∀ v,v<Q.n->(M.nd v).sb.map core=(Q.B v).map core
 om:∀ v,v<Q.n->∀ x∈(M.nd v).sb,x.2.oM=[]
 fl:M.fl=X.map Ky.frm
 xs:∀ x∈X,KyOk Q x
 few:X.length<=448
theorem Pipe.keys {Q:Plan} {M:Ms} (hP:Pipe Q zeroH [] M):Keys Q [] M:=by
 have hC:=hP.calmed
 refine ⟨hP.ok,hP.n,hP.tr,hP.no,?_,hC.om,hP.fl,by simp,by simp⟩
 intro v hv;rw [hC.sb v hv];rfl
theorem ξf1 {k:Nat} {m:Int} (hk:k<8) (h0:0<=m) (h3:m<=3):(Msg.key ((k:Int)+1) m).ok:=by
 show Back.efault 2 ((k:Int)+1) [] m=0
 have:k=0∨k=1∨k=2∨k=3∨k=4∨k=5∨k=6∨k=7:=by omega
 have:m=0∨m=1∨m=2∨m=3:=by omega
 rcases ‹k=0∨_› with rfl | rfl | rfl | rfl | rfl | rfl | rfl | rfl<;>rcases ‹m=0∨_› with rfl | rfl | rfl | rfl<;>decide
theorem Keys.land {Q:Plan} (hQ:Q.Ok) {x:Ky} {X:List Ky} {M:Ms} (hK:Keys Q (x::X) M) :
 ∃ m,Lands M x.frm m/\∀ bv,∃ X',Keys Q X' (M.land 0 x.frm m bv)/\kyw Q X'<kyw Q (x::X):=by
 obtain ⟨k,u,v,mo⟩:=x;have hx:=hK.xs _ (List.mem_cons_self ..)
 have hk:=hx.k8
 have hT:=hQ.tr k hk hx.on
 obtain ⟨d1,d2,d3,d4,d5⟩:=hT.down hx.un hx.pa;have hv:v<Q.n:=d3
 have hvn:v<M.n:=by rw [hK.n];exact hv
 have hat:Q.at k v=true:=Plan.at_iff.2 ⟨hx.on,d4⟩
 obtain ⟨t,t1,t2⟩:=hK.tr v hv k hk hat;obtain ⟨kN,kL,kW,kI⟩:=hK.ok.nd v hvn;have hkt:(((k:Int)+1) - 1).toNat=k:=by omega
 have hatt:(M.nd v).at ((k:Int)+1)=some t:=by unfold Nd.at;rw [hkt];exact t1
 have hkid:(u:Int)∈t.kids:=by
  rw [t2.kids];unfold TM.kd;rw [List.mem_map];exact ⟨u,by rw [List.mem_filter,List.mem_range];exact ⟨hx.un,decide_eq_true hx.pa⟩,rfl⟩
 have hL:Lands M (Ky.frm ⟨k,u,v,mo⟩) (.key ((k:Int)+1) mo):=by
  refine ⟨?_,?_,rfl,ξf1 hk hx.m0 hx.m3,?_⟩
  ·show (0:Int)<=(v:Int);omega
  ·show (v:Int)<(M.n:Int);omega
  ·exact ⟨t,by show (M.nd (v:Int).toNat).at _=_;rw [Int.toNat_natCast];exact hatt,hkid⟩
 refine ⟨_,hL,fun bv=>?_⟩
 have hmok:=hK.ok.land (i:=0) hL bv
 have hd1:1<=dp (Q.p k) Q.n v:=by
  by_cases c:TM.dg (Q.p k) v=-1
  ·rw [hT.dp_root hv c];exact Nat.le_refl _
  ·rcases hT.pa hv with e | ⟨y,e,hy,_⟩
   ·exact absurd e c
   ·rw [hT.dp_step hv hy e];omega
 have hhear:(M.nd v).hear (u:Int) M.nw bv (.key ((k:Int)+1) mo)={ M.nd v with lt:=(M.nd v).lt++(if t.pa=-1 then [] else [(t.pa,Back.ebytes 2 ((k:Int)+1) [] mo)]),nw:=M.nw }:=by
  unfold Nd.hear;simp only [hatt,if_pos hkid]
 have hM:M.land 0 (Ky.frm ⟨k,u,v,mo⟩) (.key ((k:Int)+1) mo) bv={ M with fl:=X.map Ky.frm++outs v (if t.pa=-1 then [] else [(t.pa,Back.ebytes 2 ((k:Int)+1) [] mo)]),nd:=updN M.nd v { M.nd v with lt:=[],nw:=M.nw } }:=by
  unfold Ms.land;show ({ M with fl:=M.fl.eraseIdx 0,nd:=updN M.nd (v:Int).toNat ((M.nd (v:Int).toNat).hear (u:Int) M.nw bv (.key ((k:Int)+1) mo)) }:Ms).out (v:Int).toNat=_
  rw [Int.toNat_natCast,hhear,kL,List.nil_append,ξ6q,hK.fl];rfl
 have hfin:∀ X',(∀ y∈X',KyOk Q y)->X'.length<=448->({ M with fl:=X.map Ky.frm++outs v (if t.pa=-1 then [] else [(t.pa,Back.ebytes 2 ((k:Int)+1) [] mo)]),nd:=updN M.nd v { M.nd v with lt:=[],nw:=M.nw } }:Ms).fl=X'.map Ky.frm->Keys Q X' (M.land 0 (Ky.frm ⟨k,u,v,mo⟩) (.key ((k:Int)+1) mo) bv):=by
  intro X' h1 h2 h3;rw [hM] at hmok ⊢;have hnd:∀ y,(updN M.nd v { M.nd v with lt:=[],nw:=M.nw } y).tr=(M.nd y).tr/\(updN M.nd v { M.nd v with lt:=[],nw:=M.nw } y).sb=(M.nd y).sb:=by
   intro y;by_cases c:y=v
   ·subst c;rw [ξe];exact ⟨rfl,rfl⟩
   ·rw [ξg _ _ c];exact ⟨rfl,rfl⟩
  refine ⟨hmok,hK.n,?_,?_,?_,?_,h3,h1,h2⟩
  ·intro y hy j hj ha;show ∃ t,(updN M.nd v _ y).tr j=some t/\_
   rw [(hnd y).1];exact hK.tr y hy j hj ha
  ·intro y hy j hj ha;show (updN M.nd v _ y).tr j=none
   rw [(hnd y).1];exact hK.no y hy j hj ha
  ·intro y hy;show (updN M.nd v _ y).sb.map core=_
   rw [(hnd y).2];exact hK.sb y hy
  ·intro y hy z hz;have hz':z∈(updN M.nd v { M.nd v with lt:=[],nw:=M.nw } y).sb:=hz
   rw [(hnd y).2] at hz';exact hK.om y hy z hz'
 have hlen:=hK.few
 rw [List.length_cons] at hlen;by_cases c:t.pa=-1
 ·refine ⟨X,hfin X (fun y hy=>hK.xs y (List.mem_cons_of_mem _ hy)) (by omega) ?_,?_⟩
  ·show X.map Ky.frm++outs v (if t.pa=-1 then [] else _)=_
   rw [if_pos c];exact List.append_nil _
  ·show kyw Q X<((Ky.mk k u v mo::X).map fun x=>dp (Q.p x.k) Q.n x.v).sum
   rw [List.map_cons,List.sum_cons];show kyw Q X<dp (Q.p k) Q.n v+kyw Q X
   omega
 ·rw [t2.pa] at c;rcases hT.pa hv with e | ⟨y,e,hy,_⟩
  ·exact absurd e c
  ·have hst:=hT.dp_step hv hy e
   refine ⟨X++[⟨k,v,y,mo⟩],hfin _ ?_ (by simp;omega) ?_,?_⟩
   ·intro z hz;rcases List.mem_append.1 hz with hz | hz
    ·exact hK.xs z (List.mem_cons_of_mem _ hz)
    ·rw [List.mem_singleton] at hz;subst hz;exact ⟨hk,hv,hx.on,e,hx.m0,hx.m3⟩
   ·show X.map Ky.frm++outs v (if t.pa=-1 then [] else _)=_
    rw [t2.pa,if_neg c,e,List.map_append];rfl
   ·show ((X++[Ky.mk k v y mo]).map fun x=>dp (Q.p x.k) Q.n x.v).sum<((Ky.mk k u v mo::X).map fun x=>dp (Q.p x.k) Q.n x.v).sum
    rw [List.map_append,List.sum_append,List.map_cons,List.sum_cons];simp only [List.map_cons,List.map_nil,List.sum_cons,List.sum_nil]
    omega
theorem ξ3x (now:Int):∀ (l:List (Int×Sb)) (N:Nd),∃ L,(N.starts now l).tr=N.tr/\(N.starts now l).sb=N.sb/\(N.starts now l).lt=N.lt++L/\∀ a∈L,∃ x∈l,∃ t,N.at x.2.tk=some t/\t.pa≠-1/\a=(t.pa,Back.ebytes 2 x.2.tk [] x.2.mo)
 | [],N=>⟨[],rfl,rfl,(List.append_nil _).symm,by simp⟩
 | x::l,N=>by
   obtain ⟨L,e1,e2,e3,e4⟩:=ξ3x now l (N.askS now x.2);have key:∃ L0,(N.askS now x.2).tr=N.tr/\(N.askS now x.2).sb=N.sb/\(N.askS now x.2).lt=N.lt++L0/\∀ a∈L0,∃ t,N.at x.2.tk=some t/\t.pa≠-1/\a=(t.pa,Back.ebytes 2 x.2.tk [] x.2.mo):=by
    unfold Nd.askS;cases ha:N.at x.2.tk with
    | none=>exact ⟨[],rfl,rfl,(List.append_nil _).symm,by simp⟩
    | some t=>
      simp only
      by_cases c:x.2.wants=false∨t.pa=-1
      ·rw [if_pos c];exact ⟨[],rfl,rfl,(List.append_nil _).symm,by simp⟩
      ·rw [if_neg c];refine ⟨_,rfl,rfl,rfl,?_⟩
       intro a hm;split at hm
       ·rw [List.mem_singleton] at hm;exact ⟨t,rfl,fun q=>c (.inr q),hm⟩
       ·cases hm
   obtain ⟨L0,f1,f2,f3,f4⟩:=key;refine ⟨L0++L,e1.trans f1,e2.trans f2,?_,?_⟩
   ·show ((N.askS now x.2).starts now l).lt=_
    rw [e3,f3,List.append_assoc]
   ·intro a hm;rcases List.mem_append.1 hm with hm | hm
    ·obtain ⟨t,g⟩:=f4 a hm;exact ⟨x,List.mem_cons_self ..,t,g⟩
    ·obtain ⟨y,hy,t,g1,g2⟩:=e4 a hm;refine ⟨y,List.mem_cons_of_mem _ hy,t,?_,g2⟩
     unfold Nd.at at g1 ⊢;rw [<- f1];exact g1
theorem ξ7W (Q:Plan):∀ F:List Fl,(∀ f∈F,∃ x:Ky,KyOk Q x/\x.frm=f)->∃ X:List Ky,F=X.map Ky.frm/\∀ x∈X,KyOk Q x
 | [],_=>⟨[],rfl,by simp⟩
 | f::F,h=>by
   obtain ⟨X,e,hX⟩:=ξ7W Q F (fun g hg=>h g (List.mem_cons_of_mem _ hg))
   obtain ⟨x,h1,h2⟩:=h f (List.mem_cons_self ..);exact ⟨x::X,by rw [List.map_cons,h2,e],fun y hy=>by rcases List.mem_cons.1 hy with rfl | hy;exact h1;exact hX y hy⟩
theorem Keys.lacks {Q:Plan} {X:List Ky} {M:Ms} (hK:Keys Q X M) {v:Nat} (hv:v<Q.n):Lacks0 (M.nd v):=by
 obtain ⟨kN,_⟩:=hK.ok.nd v (by rw [hK.n];exact hv)
 refine ⟨?_,fun x hx=>⟨hK.om v hv x hx,(kN.sb x hx).1.oi.x1⟩⟩
 intro k hk t ht;cases ha:Q.at k v with
 | true=>
   obtain ⟨t',h1,h2⟩:=hK.tr v hv k hk ha;rw [ht] at h1;cases h1
   exact h2.gM
 | false=>
   rw [hK.no v hv k hk ha] at ht;cases ht
theorem Keys.ticked {Q:Plan} (hQ:Q.Ok) {M:Ms} (hK:Keys Q [] M) {now:Int} (h0:M.nw<=now) (h1:now<=1000000):∃ X,Keys Q X (M.ticked now M.n):=by
 have hst:∀ v,v<Q.n->∃ L,((M.nd v).tick now).tr=stillF now (M.nd v).tr 8/\((M.nd v).tick now).sb=(M.nd v).sb.map (fun x=>(x.1,stillS now x.2))/\((M.nd v).tick now).lt=L/\∀ a∈L,∃ x∈(M.nd v).sb,∃ t,(stillN (M.nd v) now).at x.2.tk=some t/\t.pa≠-1/\a=(t.pa,Back.ebytes 2 x.2.tk [] x.2.mo):=by
  intro v hv;rw [ξ3Y (hK.lacks hv)];obtain ⟨L,e1,e2,e3,e4⟩:=ξ3x now (stillN (M.nd v) now).sb (stillN (M.nd v) now);have hl:(stillN (M.nd v) now).lt=[]:=(hK.ok.nd v (by rw [hK.n];exact hv)).2.1
  rw [hl,List.nil_append] at e3;refine ⟨L,e1,e2,e3,?_⟩
  intro a ha;obtain ⟨x,hx,t,g1,g2,g3⟩:=e4 a ha;obtain ⟨y,hy,rfl⟩:=List.mem_map.1 hx;exact ⟨y,hy,t,g1,g2,g3⟩
 have hnd:∀ v,v<Q.n->((M.ticked now M.n).nd v).tr=stillF now (M.nd v).tr 8/\((M.ticked now M.n).nd v).sb=(M.nd v).sb.map (fun x=>(x.1,stillS now x.2)):=by
  intro v hv;obtain ⟨L,e1,e2,_⟩:=hst v hv;have:(M.ticked now M.n).nd v={ (M.nd v).tick now with lt:=[] }:=by
   show (if v<M.n then ({ (M.nd v).tick now with lt:=[] }:Nd) else M.nd v)=_
   rw [if_pos (by rw [hK.n];exact hv)]
  rw [this];exact ⟨e1,e2⟩
 have hfl:∀ f∈(M.ticked now M.n).fl,∃ x:Ky,KyOk Q x/\x.frm=f:=by
  intro f hf;have hf':f∈M.fl++(List.range M.n).flatMap fun k=>outs k ((M.nd k).tick now).lt:=hf
  rw [hK.fl,List.map_nil,List.nil_append,List.mem_flatMap] at hf';obtain ⟨v,hv,hm⟩:=hf';rw [List.mem_range,hK.n] at hv;obtain ⟨L,_,_,e3,e4⟩:=hst v hv;rw [e3] at hm;obtain ⟨a,ha,rfl⟩:=List.mem_map.1 hm;obtain ⟨x,hx,t,g1,g2,g3⟩:=e4 a ha;obtain ⟨kN,_,_,_⟩:=hK.ok.nd v (by rw [hK.n];exact hv)
  obtain ⟨_,k,hk,etk,hsome⟩:=kN.sb x hx;have hmo:=(kN.si.mem x hx).2.2
  have hat:Q.at k v=true:=by
   cases ha:Q.at k v with
   | true=>rfl
   | false=>
     rw [hK.no v hv k hk ha] at hsome;cases hsome
  obtain ⟨t0,t1,t2⟩:=hK.tr v hv k hk hat;obtain ⟨hon,_⟩:=Plan.at_iff.1 hat;have hT:=hQ.tr k hk hon
  have ht:t=stillT now t0:=by
   have g1':stillF now (M.nd v).tr 8 (x.2.tk - 1).toNat=some t:=g1
   rw [etk,show (((k:Int)+1) - 1).toNat=k by omega] at g1'
   have:stillF now (M.nd v).tr 8 k=some (stillT now t0):=by
    show (if k<8 then ((M.nd v).tr k).map (stillT now) else (M.nd v).tr k)=_
    rw [if_pos hk,t1];rfl
   rw [this] at g1';exact (Option.some.inj g1').symm
  have hpa:t.pa=TM.dg (Q.p k) v:=by
   rw [ht,<- t2.pa];unfold stillT;split<;>rfl
  rw [hpa] at g2 g3;rcases hT.pa hv with e | ⟨y,e,hy,_⟩
  ·exact absurd e g2
  ·refine ⟨⟨k,v,y,x.2.mo⟩,⟨hk,hv,hon,e,hmo.1,hmo.2⟩,?_⟩
   rw [g3,e,etk];rfl
 obtain ⟨X,e,hX⟩:=ξ7W Q _ hfl;refine ⟨X,hK.ok.ticked h0 h1 _,hK.n,?_,?_,?_,?_,e,hX,?_⟩
 ·intro v hv k hk ha;obtain ⟨t,t1,t2⟩:=hK.tr v hv k hk ha;refine ⟨stillT now t,?_,?_⟩
  ·rw [(hnd v hv).1];show (if k<8 then ((M.nd v).tr k).map (stillT now) else (M.nd v).tr k)=_
   rw [if_pos hk,t1];rfl
  ·unfold stillT;split
   ·exact t2
   ·exact ⟨t2.tk,t2.ep,t2.pa,t2.kids,rfl,t2.gT,t2.rT⟩
 ·intro v hv k hk ha;rw [(hnd v hv).1];show (if k<8 then ((M.nd v).tr k).map (stillT now) else (M.nd v).tr k)=_
  rw [if_pos hk,hK.no v hv k hk ha];rfl
 ·intro v hv;rw [(hnd v hv).2,<- hK.sb v hv,List.map_map];rfl
 ·intro v hv x hx;rw [(hnd v hv).2] at hx;obtain ⟨y,hy,rfl⟩:=List.mem_map.1 hx;exact hK.om v hv y hy
 ·have hl:X.length=(M.ticked now M.n).fl.length:=by rw [e,List.length_map]
  rw [hl];show (M.fl++(List.range M.n).flatMap fun k=>outs k ((M.nd k).tick now).lt).length<=448
  rw [hK.fl,List.map_nil,List.nil_append];have:=ξ6p M now M.n (fun k hk=>hK.ok.tick28 _ hk)
  have:=hK.ok.n16
  omega
def KeyJ (Q:Plan) (M0:Ms) (r c:Nat) (M:Ms):Prop:=∃ X,Keys Q X M/\Same M0 M/\M.nw=3*(r:Int)
theorem ξaH {Q:Plan} (hQ:Q.Ok) (M0:Ms):Round (KeyJ Q M0):=by
 refine ⟨?_⟩
 intro r c M hJ hr hc;obtain ⟨X,hK,hS,hw⟩:=hJ;refine ⟨fun g M'=>∃ X,Keys Q X M'/\Same M0 M'/\M'.nw=3*(r:Int)/\kyw Q X=g,kyw Q X,⟨?_,?_⟩,⟨X,hK,hS,hw,rfl⟩,?_⟩
 ·rintro g M' ⟨X',h1,_⟩;refine ⟨h1.ok,?_⟩
  rw [h1.fl,List.length_map];have:=h1.few
  omega
 ·rintro g M' f F ⟨X',h1,h2,h3,h4⟩ he;cases X' with
  | nil=>rw [h1.fl] at he;cases he
  | cons x X'=>
    rw [h1.fl,List.map_cons] at he;injection he with he1 he2
    subst he1;obtain ⟨m,hL,hm⟩:=h1.land hQ;refine ⟨m,hL,fun bv=>?_⟩
    obtain ⟨X2,k1,k2⟩:=hm bv;exact ⟨kyw Q X2,by rw [<- h4];exact k2,X2,k1,h2.land 0 _ m bv,h3,rfl⟩
 ·rintro g M' ⟨X',h1,h2,h3,h4⟩ he;have hx:X'=[]:=by
   rw [h1.fl] at he;exact List.map_eq_nil_iff.1 he
  subst hx;refine ⟨by rw [h3];omega,fun i hi=>ξ23 (h1.lacks (by rw [<- h1.n];exact hi)),?_⟩
  obtain ⟨X2,k1⟩:=h1.ticked hQ (now:=M'.nw+3) (by omega) (by rw [h3];omega)
  refine ⟨X2,k1,h2.ticked _ _,?_⟩
  show M'.nw+3=3*((r+1:Nat):Int)
  rw [h3];omega
def cpair (c:Core):Int×List Pk:=(c.id,c.got)
theorem ξ8E {w W:World} {b:Nat} {Q:Plan} (hQ:Q.Ok) (hnow:Q.now=0) {rt:Nat->Int} {sb:List (Int×Int)} {bs:List Nat} (hz:PS w W b Q zeroH [] rt sb bs) :
 Calls Tryz.prog 14 #[.pointer (some ⟨b,0,none⟩)] W fun e w'=>∃ r:Int,e=.returned (.int .i64 r)/\Stay bs W w'/\∃ fl,GZ w w' b Q.n sb (fun v=>(Q.B v).map fun x=>(x.1,x.2.got)) fl bs:=by
 obtain ⟨M,⟨o,P,h1,h2,h3,h4⟩,hP,e1,e2,e3⟩:=hz;refine (ξ4z (KeyJ Q M) (ξaH hQ M) b o P M W h1 ⟨[],hP.keys,Same.refl M,by rw [hP.nw,hnow];rfl⟩).mono ?_
 rintro e w' ⟨r,c,M',rfl,_,_,⟨X,k1,k2,k3⟩,hd⟩;have hz:=ξ1W h3 h2 h4 hd
 refine ⟨_,rfl,hz.2,_,M',hz.1,⟨k1.n,k2.sb.trans e2,?_,?_⟩,rfl⟩
 ·intro v hv;have:=congrArg (List.map cpair) (k1.sb v hv)
  rw [List.map_map,List.map_map] at this;exact this
 ·intro v hv;exact (k1.ok.nd v (by rw [k1.n];exact hv)).1.si
theorem ξdK {w W:World} {b:Nat} {Q:Plan} (hQ:Q.Ok) {c:Nat->Nat} (hF:∀ h,Heard Q c h->Full Q h) (hnow:Q.now=0) {h:Nat->Nat->Nat} {X:List Fy} {rt:Nat->Int} {sb:List (Int×Int)} {bs:List Nat} (hz:PS w W b Q h X rt sb bs) (hc:∀ k,k<8->h k (Q.rt k)=c k) :
 Calls Tryz.prog 14 #[.pointer (some ⟨b,0,none⟩)] W fun e w'=>∃ r:Int,e=.returned (.int .i64 r)/\Stay bs W w'/\∃ h',Heard Q c h'/\GZ w w' b Q.n sb (fun v=>(Q.B v).map fun x=>(x.1,(Q.sub h' v x).2.got)) 0 bs:=by
 obtain ⟨M,⟨o,P,h1,h2,h3,h4⟩,hP,e1,e2,e3⟩:=hz;refine (ξbd hQ hF ⟨by omega,by omega⟩ b o P M h X W h1 hP hc).mono ?_
 rintro e w' ⟨rfl,h',M',k1,k2,k3,k4,hd⟩;have hz:=ξ1W h3 h2 h4 hd
 refine ⟨_,rfl,hz.2,h',k2,M',hz.1,⟨k1.n,k3.sb.trans e2,?_,?_⟩,by rw [k1.fl];rfl⟩
 ·intro v hv;have:=congrArg (List.map cpair) (k1.sb v hv)
  rw [List.map_map,List.map_map] at this;exact this
 ·intro v hv;exact (k1.ok.nd v (by rw [k1.n];exact hv)).1.si
end Go.Proofs.YtigibpcpnkdmcaaGreat.MS
