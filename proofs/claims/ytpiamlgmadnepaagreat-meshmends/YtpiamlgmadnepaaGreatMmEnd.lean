/-
 MmF, MmG, MmH, MmI in one text.
-/
import Derived.Test.YtpiamlgmadnepaaGreatMmAll
import Derived.Test.YtpiamlgmadnepaaGreatLawPkP
import Derived.Test.YtpiamlgmadnepaaGreatAuditAll
import Derived.LoopTactic
import Derived.Deep.LoopGhost
import Derived.Lib.OwnKind
import Derived.Deep.AppendLies
import Derived.Test.YtpiamlgmadnepaaGreatOpenSP
import Derived.Test.YtpiamlgmadnepaaGreatTopAP
open Go.Proofs.Tryz
set_option linter.unusedVariables false
set_option maxHeartbeats 4000000
set_option maxRecDepth 100000
namespace Go.Proofs.YtpiamlgmadnepaaGreat.MS
open Go.ChangeShapes Go.WideShapes Go.ChangeAt Go.RowKit Go.Maps Mem NO ND
theorem ξdO:Pks LP.pkN:=by
 refine ⟨fun i hi=>⟨?_,by omega,LP.ξap (by omega),LP.ξdn i⟩,fun i=>rfl,fun i=>rfl⟩
 show (i:Int)=((0+i:Nat):Int)
 omega
def Zn (w W:World) (b:Nat) (M:Ms) (bs cs:List Nat):Prop:=∃ o P,MAt W o b P M/\(∀ k,k<w.heap.size->(o k).n=0)/\Below w.heap.size w W/\(∀ k∈bs,(o k).n=2000/\k<W.heap.size)/\∀ k∈cs,(o k).n=0/\k<W.heap.size
def StayM (bs:List Nat) (W W':World):Prop:=∀ k∈bs,W'.heap[k]?=W.heap[k]?
theorem StayM.refl (bs:List Nat) (W:World):StayM bs W W:=fun _ _=>rfl
theorem StayM.trans {bs:List Nat} {W W1 W2:World} (h:StayM bs W W1) (h':StayM bs W1 W2):StayM bs W W2:=fun k hk=>(h' k hk).trans (h k hk)
section
variable {w W W':World} {b:Nat} {M M':Ms} {bs cs:List Nat}
theorem Zt.zn (h:Zt w W b M):Zn w W b M [] []:=by
 obtain ⟨o,P,h1,h2,h3⟩:=h;exact ⟨o,P,h1,h2,h3,by simp,by simp⟩
theorem Zn.bel (h:Zn w W b M bs cs):Below w.heap.size w W:=by
 obtain ⟨o,P,h1,h2,h3,_⟩:=h;exact h3
theorem Zn.lt (h:Zn w W b M bs cs):∀ k,k∈bs∨k∈cs->k<W.heap.size:=by
 obtain ⟨o,P,h1,h2,h3,h4,h5⟩:=h;intro k hk;rcases hk with hk | hk
 ·exact (h4 k hk).2
 ·exact (h5 k hk).2
theorem ξ1o {o:Nat->Tg} (hb:Below w.heap.size w W) (ho:∀ k,k<w.heap.size->(o k).n=0) (h4:∀ k∈bs,(o k).n=2000/\k<W.heap.size) (h5:∀ k∈cs,(o k).n=0/\k<W.heap.size) (h:MDone W W' o b M'):Zn w W' b M' bs cs/\StayM (bs++cs) W W':=by
 obtain ⟨o',P',h1,h2,h3⟩:=h;have hs:=h3.size
 refine ⟨⟨o',P',h1,ξ5x hb ho h2,ξ5I hb ho h3,fun k hk=>?_,fun k hk=>?_⟩,fun k hk=>?_⟩
 ·obtain ⟨q1,q2⟩:=h4 k hk;refine ⟨?_,Ξn q2 hs⟩
  rcases h2 k q2 with e | ⟨e,_⟩
  ·rw [e];exact q1
  ·exact absurd q1 e.2
 ·obtain ⟨q1,q2⟩:=h5 k hk;refine ⟨?_,Ξn q2 hs⟩
  rcases h2 k q2 with e | ⟨e,_⟩
  ·rw [e];exact q1
  ·exact absurd q1 e.1
 ·obtain ⟨ds,c1,c2,c3⟩:=h3;rcases Ξe.1 hk with hk | hk
  ·obtain ⟨q1,q2⟩:=h4 k hk;exact c1.2.2.2.2 k q2 (fun hm=>(c2 k hm).2 q1)
  ·obtain ⟨q1,q2⟩:=h5 k hk;exact c1.2.2.2.2 k q2 (fun hm=>(c2 k hm).1 q1)
theorem Zn.own {ks:List Nat} (h:Zn w W b M bs cs) (ho:Only ks W W') (hk:∀ k∈ks,k∈bs) (hn:Nob W ks) (new:List Nat) (hnew:∀ k∈new,W.heap.size<=k/\k<W'.heap.size):Zn w W' b M (bs++new) cs:=by
 obtain ⟨o,P,h1,h2,h3,h4,h5⟩:=h;have hc:Chg o (fun g=>g.n=2000) W W':=Chg.of_only ho (fun k hm=>(h4 k (hk k hm)).1) hn
 have hs:=hc.size
 refine ⟨grow o W ⟨2000,0,0⟩,P,h1.chg hc (fun g hg=>by omega) (ξ3 o W _),fun k hl=>?_,?_,fun k hm=>?_,fun k hm=>?_⟩
 ·rw [ξw (Ξn hl h3.size)];exact h2 k hl
 ·refine h3.trans ⟨ho.1,ho.2.1,ho.2.2.1,ho.2.2.2.1,fun k hl=>ho.2.2.2.2 k (Ξn hl h3.size) (fun hm=>?_)⟩
  have q1:=(h4 k (hk k hm)).1
  have q2:=h2 k hl
  omega
 ·rcases Ξe.1 hm with hm | hm
  ·obtain ⟨q1,q2⟩:=h4 k hm;exact ⟨by rw [ξw q2];exact q1,Ξn q2 hs⟩
  ·obtain ⟨q1,q2⟩:=hnew k hm;exact ⟨by rw [ξh q1],q2⟩
 ·obtain ⟨q1,q2⟩:=h5 k hm;exact ⟨by rw [ξw q2];exact q1,Ξn q2 hs⟩
theorem Zn.below (h:Zn w W b M bs cs) (hb:Below W.heap.size W W') (new:List Nat) (hnew:∀ k∈new,W.heap.size<=k/\k<W'.heap.size):Zn w W' b M bs (cs++new):=by
 obtain ⟨o,P,h1,h2,h3,h4,h5⟩:=h;have hs:=hb.size
 refine ⟨grow o W ξ2,P,h1.grow hb ξ2,fun k hl=>?_,h3.trans (hb.mono h3.size),fun k hm=>?_,fun k hm=>?_⟩
 ·rw [ξw (Ξn hl h3.size)];exact h2 k hl
 ·obtain ⟨q1,q2⟩:=h4 k hm;exact ⟨by rw [ξw q2];exact q1,Ξn q2 hs⟩
 ·rcases Ξe.1 hm with hm | hm
  ·obtain ⟨q1,q2⟩:=h5 k hm;exact ⟨by rw [ξw q2];exact q1,Ξn q2 hs⟩
  ·obtain ⟨q1,q2⟩:=hnew k hm;exact ⟨by rw [ξh q1],q2⟩
def ZW (w W:World) (b:Nat) (Z:Zp) (m k:Nat) (bs cs:List Nat):Prop:=∃ M D X,Zn w W b M bs cs/\WS Z true m 0 D X M/\(∀ x∈X,wt x=1)/\X.length<=k
def ZC (w W:World) (b:Nat) (Z:Zp) (m k:Nat) (bs cs:List Nat):Prop:=∃ M D X,Zn w W b M bs cs/\WS Z true m 0 D X M/\(∀ x∈X,wt x=1)/\X.length<=k/\Cov (KA m) Z D X
variable {Z:Zp} {m k:Nat}
theorem ZW.bel (h:ZW w W b Z m k bs cs):Below w.heap.size w W:=by
 obtain ⟨M,D,X,h1,_⟩:=h;exact h1.bel
theorem ZW.lt (h:ZW w W b Z m k bs cs):∀ k,k∈bs∨k∈cs->k<W.heap.size:=by
 obtain ⟨M,D,X,h1,_⟩:=h;exact h1.lt
theorem ZC.zw (h:ZC w W b Z m k bs cs):ZW w W b Z m k bs cs:=by
 obtain ⟨M,D,X,h1,h2,h3,h4,_⟩:=h;exact ⟨M,D,X,h1,h2,h3,h4⟩
theorem ZW.own {ks:List Nat} (h:ZW w W b Z m k bs cs) (ho:Only ks W W') (hk:∀ k∈ks,k∈bs) (hn:Nob W ks) (new:List Nat) (hnew:∀ k∈new,W.heap.size<=k/\k<W'.heap.size):ZW w W' b Z m k (bs++new) cs:=by
 obtain ⟨M,D,X,h1,h2⟩:=h;exact ⟨M,D,X,h1.own ho hk hn new hnew,h2⟩
theorem ZC.own {ks:List Nat} (h:ZC w W b Z m k bs cs) (ho:Only ks W W') (hk:∀ k∈ks,k∈bs) (hn:Nob W ks) (new:List Nat) (hnew:∀ k∈new,W.heap.size<=k/\k<W'.heap.size):ZC w W' b Z m k (bs++new) cs:=by
 obtain ⟨M,D,X,h1,h2⟩:=h;exact ⟨M,D,X,h1.own ho hk hn new hnew,h2⟩
theorem ZW.below (h:ZW w W b Z m k bs cs) (hb:Below W.heap.size W W') (new:List Nat) (hnew:∀ k∈new,W.heap.size<=k/\k<W'.heap.size):ZW w W' b Z m k bs (cs++new):=by
 obtain ⟨M,D,X,h1,h2⟩:=h;exact ⟨M,D,X,h1.below hb new hnew,h2⟩
theorem ZW.few (h:ZW w W b Z m k bs cs) {k':Nat} (hk:k<=k'):ZW w W b Z m k' bs cs:=by
 obtain ⟨M,D,X,h1,h2,h3,h4⟩:=h;exact ⟨M,D,X,h1,h2,h3,Nat.le_trans h4 hk⟩
theorem ξ6G {Z:Zp} {v i:Nat}:∀ x∈Z.news v i,wt x=1:=fun x hx=>by
 obtain ⟨c,rfl,_⟩:=Zp.news_mem hx;rfl
theorem ξ3J {X Y:List Fm} (h1:∀ x∈X,wt x=1) (h2:∀ x∈Y,wt x=1):∀ x∈X++Y,wt x=1:=fun x hx=>by
 rcases Ξe.1 hx with hx | hx
 ·exact h1 x hx
 ·exact h2 x hx
theorem ξ2m {X:List Fm} (h:∀ x∈X,wt x=1) (j:Nat):∀ x∈X.eraseIdx j,wt x=1:=fun x hx=>h x (List.mem_of_mem_eraseIdx hx)
theorem ξ3v (X:List Fm) (j:Nat):(X.eraseIdx j).length<=X.length:=by
 rw [List.length_eraseIdx];split<;>omega
theorem ZW.send (hZ:Z.Ok) (hS:Z.S=LP.pkN) (h:ZW w W b Z m k bs cs) (hm:m<60) (hk:k<=2000) {g c:Nat} (hg:g∈cs) (hA:Arg W (some ⟨g,0,none⟩) 2 (LP.pL m)) :
 Calls prog 12 #[.pointer (some ⟨b,0,none⟩),.int .i64 1,.agg #[.int .i64 (m:Int),.int .i64 (m:Int),.int .i64 0,.int .i64 0,.bool true,.slice (some ⟨g,0,none⟩) 2 c]] W fun e w'=>e=.returned .nilIface/\StayM (bs++cs) W w'/\ZC w w' b Z (m+1) (k+16) bs cs:=by
 obtain ⟨M,D,X,⟨o,P,h1,h2,h3,h4,h5⟩,hW,hX,hl⟩:=h;have hr:=hZ.tr.rn
 obtain ⟨t,ht,hT,_⟩:=hW.tr Z.rt hr;have hpa:t.pa=-1:=by rw [hT.pa];exact hZ.tr.root_pa
 have hfl:M.fl.length=X.length:=by rw [hW.fl,Ξm]
 have C:=ξ8G b 0 Z.rt o P M t (m:Int) (m:Int) 0 0 true (some ⟨g,0,none⟩) 2 c (LP.pL m) W h1 hW.ok (by omega) hW.rtt (by rw [hW.n];exact hr) ht hpa hA (fun e=>by cases e) (fun _ ad e=>by cases e;exact (h5 g hg).1) (by omega)
 have hf0:PM.fault (m:Int) (m:Int) 0 0 2=0:=LP.ξap (n:=m) (by omega)
 rw [hf0] at C;refine C.mono ?_
 rintro e w' ⟨rfl,_,hd⟩;obtain ⟨hz,hst⟩:=ξ1o h3 h2 h4 h5 (hd rfl);obtain ⟨_,D',hU,hW'⟩:=hW.send hZ hm ht (pk:=⟨(m:Int),(m:Int),0,0,true,LP.pL m,.slice (some ⟨g,0,none⟩) 2 c⟩) (by rw [hS];rfl)
 have hn:=Z.news_len Z.rt m
 have hn16:=hZ.tr.fit.hi
 refine ⟨rfl,hst,_,D',_,hz,hW',ξ3J hX ξ6G,by rw [Ξh];omega,?_⟩
 intro v hv u hu j hj;have hjm:j=m:=by unfold KA at hj;omega
 subst hjm;by_cases c1:u=Z.rt
 ·right;left
  rw [c1] at hu;exact List.mem_append_right _ (Zp.mem_news hv hu)
 ·right;right;right
  obtain ⟨_,_,hun,_,_⟩:=hZ.tr.down hv hu;cases hh:D'.H u j with
  | false=>rfl
  | true=>
    exfalso
    rcases hU.back hh with ⟨q,_⟩ | q
    ·exact c1 q
    ·have:=hW.hm u hun j q
     omega
theorem ZW.land (hZ:Z.Ok) (h:ZW w W b Z m k bs cs) (hk:k<=2000) (x:Int) :
 Calls prog 41 #[.pointer (some ⟨b,0,none⟩),.int .i64 x] W fun e w'=>∃ f,e=.returned (errv f)/\StayM (bs++cs) W w'/\ZW w w' b Z m (k+16) bs cs:=by
 obtain ⟨M,D,X,⟨o,P,h1,h2,h3,h4,h5⟩,hW,hX,hl⟩:=h;have hfl:M.fl.length=X.length:=by rw [hW.fl,Ξm]
 have hn16:=hZ.tr.fit.hi
 by_cases c:x<0∨(M.fl.length:Int)<=x
 ·refine (ξe6 b o P M x W h1 c).mono ?_
  rintro e w' ⟨rfl,hb⟩;obtain ⟨hz,hst⟩:=ξ1o h3 h2 h4 h5 (MDone.refl h1 hb);exact ⟨1,rfl,hst,M,D,X,hz,hW,hX,by omega⟩
 ·obtain ⟨j,rfl⟩:∃ j:Nat,x=(j:Int):=⟨x.toNat,by omega⟩
  have hj:j<X.length:=by omega
  obtain ⟨y,hy⟩:∃ y,X[j]?=some y:=⟨X[j],Ξd hj⟩;have hf:M.fl[j]?=some (Z.frm y):=by rw [hW.fl,List.getElem?_map,hy];rfl
  have hyw:=hX y (List.mem_of_getElem? hy)
  cases y with
  | lo v L=>
    obtain ⟨u,_,_,gm,hL,hN⟩:=hW.landL hZ hy;have hL0:L.length=0:=by have:L.length+1=1:=hyw;omega
    refine (ξ2W b o P M j _ gm W h1 hW.ok hf hL (by omega)).mono ?_
    rintro e w' ⟨rfl,bv,hd⟩;obtain ⟨hz,hst⟩:=ξ1o h3 h2 h4 h5 hd;have hgl:=ξ5A D u v L
    have hel:=ξ3v X j
    exact ⟨0,rfl,hst,_,D,_,hz,hN bv,ξ3J (ξ2m hX j) (fun x hx=>by obtain ⟨q,_,rfl,_⟩:=ξ2l hx;rfl),by rw [Ξh];omega⟩
  | fr v i=>
    obtain ⟨gm,hL,hN⟩:=hW.landF hZ hy;refine (ξ2W b o P M j _ gm W h1 hW.ok hf hL (by omega)).mono ?_
    rintro e w' ⟨rfl,bv,hd⟩;obtain ⟨hz,hst⟩:=ξ1o h3 h2 h4 h5 hd;obtain ⟨q1,q2⟩:=hN bv;have hel:=ξ3v X j
    by_cases hfr:D.H v i=false/\(D.T v=-1∨D.f v<=i)
    ·obtain ⟨D',hU,hW'⟩:=q1 hfr;have hn:=Z.news_len v i
     exact ⟨0,rfl,hst,_,D',_,hz,hW',ξ3J (ξ2m hX j) ξ6G,by rw [Ξh];omega⟩
    ·exact ⟨0,rfl,hst,_,D,_,hz,q2 hfr,ξ2m hX j,by omega⟩
theorem ZW.lose (h:ZW w W b Z m k bs cs) (x:Int) :
 Calls prog 42 #[.pointer (some ⟨b,0,none⟩),.int .i64 x] W fun e w'=>∃ f,e=.returned (errv f)/\StayM (bs++cs) W w'/\ZW w w' b Z m (k+16) bs cs:=by
 obtain ⟨M,D,X,⟨o,P,h1,h2,h3,h4,h5⟩,hW,hX,hl⟩:=h;have hfl:M.fl.length=X.length:=by rw [hW.fl,Ξm]
 by_cases c:x<0∨(M.fl.length:Int)<=x
 ·refine (ξe3 b o P M x W h1 c).mono ?_
  rintro e w' ⟨rfl,hb⟩;obtain ⟨hz,hst⟩:=ξ1o h3 h2 h4 h5 (MDone.refl h1 hb);exact ⟨1,rfl,hst,M,D,X,hz,hW,hX,by omega⟩
 ·obtain ⟨j,rfl⟩:∃ j:Nat,x=(j:Int):=⟨x.toNat,by omega⟩
  refine (ξ99 b o P M j W h1 (by omega)).mono ?_
  rintro e w' ⟨rfl,hd⟩;obtain ⟨hz,hst⟩:=ξ1o h3 h2 h4 h5 hd;have hel:=ξ3v X j
  exact ⟨0,rfl,hst,_,D,_,hz,hW.lose j,ξ2m hX j,by omega⟩
theorem ZW.twice (h:ZW w W b Z m k bs cs) (hk:k<1000) (x:Int) :
 Calls prog 43 #[.pointer (some ⟨b,0,none⟩),.int .i64 x] W fun e w'=>∃ f,e=.returned (errv f)/\StayM (bs++cs) W w'/\ZW w w' b Z m (k+16) bs cs:=by
 obtain ⟨M,D,X,⟨o,P,h1,h2,h3,h4,h5⟩,hW,hX,hl⟩:=h;have hfl:M.fl.length=X.length:=by rw [hW.fl,Ξm]
 by_cases c:x<0∨(M.fl.length:Int)<=x
 ·refine (ξbT b o P M x W h1 c).mono ?_
  rintro e w' ⟨rfl,rfl⟩;exact ⟨1,rfl,StayM.refl _ _,M,D,X,⟨o,P,h1,h2,h3,h4,h5⟩,hW,hX,by omega⟩
 ·obtain ⟨j,rfl⟩:∃ j:Nat,x=(j:Int):=⟨x.toNat,by omega⟩
  have hj:j<X.length:=by omega
  obtain ⟨y,hy⟩:∃ y,X[j]?=some y:=⟨X[j],Ξd hj⟩;have hf:M.fl[j]?=some (Z.frm y):=by rw [hW.fl,List.getElem?_map,hy];rfl
  refine (ξ1O b o P M j _ W h1 hf (by omega)).mono ?_
  rintro e w' ⟨rfl,hd⟩;obtain ⟨hz,hst⟩:=ξ1o h3 h2 h4 h5 hd;exact ⟨0,rfl,hst,_,D,_,hz,hW.twice hy,ξ3J hX (fun x hx=>by rw [Ξg] at hx;rw [hx];exact hX y (List.mem_of_getElem? hy)),by rw [Ξh,List.length_singleton];omega⟩
theorem ZC.calm (hZ:Z.Ok) (h:ZC w W b Z m k bs cs) (hm:0<m) (hk:k<=2000) :
 Calls prog 13 #[.pointer (some ⟨b,0,none⟩)] W fun e w'=>∃ r:Int,e=.returned (.int .i64 r)/\StayM (bs++cs) W w'/\∃ f tm M',Zn w w' b M' bs cs/\CSt Z m f tm M':=by
 obtain ⟨M,D,X,⟨o,P,h1,h2,h3,h4,h5⟩,hW,hX,hl,hC⟩:=h;refine (ξdY hZ (m:=m) h1 ⟨D,X,hW,hm,hC,by rw [ξ3A X hX];omega⟩).mono ?_
 rintro e w' ⟨r,rfl,f,tm,M',hc,hd⟩;obtain ⟨hz,hst⟩:=ξ1o h3 h2 h4 h5 hd;exact ⟨r,rfl,hst,f,tm,M',hz,hc⟩
theorem CSt.got {f:Nat} {tm:Int} (hZ:Z.Ok) (hz:Zn w W b M bs cs) (hc:CSt Z m f tm M) :
 Calls prog 14 #[.pointer (some ⟨b,0,none⟩),.int .i64 1] W fun e w'=>∃ a c g,e=.returned (.tuple #[.slice a (m - f) c,.nilIface])/\(∃ o,ξM w' o (.slice a (m - f) c) g)/\Row0 Z.S f (m - f) g/\StayM (bs++cs) W w'/\Below w.heap.size w w':=by
 obtain ⟨o,P,h1,h2,h3,h4,h5⟩:=hz;obtain ⟨s,hs1,hs2⟩:=hc.sa;have hvn:Z.at'<M.n:=by rw [hc.n];exact hZ.at'
 have hlen:=hs2.1
 have C:=ξ9l b 0 Z.at' 1 o P M s [] [] W h1 (by rw [hc.sbs];rfl) hvn (by rw [hs1];rfl) (hc.ok.nd _ hvn).1.si (by rw [hc.sbs];simp)
 rw [hlen] at C;refine C.mono ?_
 rintro e' w' ⟨a,c,rfl,o',P',g1,g2,g3,g4,g5⟩;obtain ⟨hz,hst⟩:=ξ1o h3 h2 h4 h5 ⟨o',P',g1,g4,g5⟩;exact ⟨a,c,s.got,rfl,⟨o',g2⟩,hs2,hst,hz.bel⟩
end
end Go.Proofs.YtpiamlgmadnepaaGreat.MS
namespace Go.Proofs.YtpiamlgmadnepaaGreat.MS
open Go.ChangeShapes Go.WideShapes Go.ChangeAt Go.RowKit Go.Maps PM Mem Pack NO ND
def chainE (m:Nat):List TM.Ed:=(List.range m).map fun (i:Nat)=>⟨(i:Int),(i:Int)+1,1⟩
theorem ξ7F (m:Nat):chainE (m+1)=chainE m++[⟨(m:Int),(m:Int)+1,1⟩]:=by simp [chainE,List.range_succ]
theorem ξ5J {n:Nat} (h1:1<=n) (h10:n<=10):TM.ef (n:Int) (chainE (n - 1))=0:=by
 have:n=1∨n=2∨n=3∨n=4∨n=5∨n=6∨n=7∨n=8∨n=9∨n=10:=by omega
 rcases this with rfl | rfl | rfl | rfl | rfl | rfl | rfl | rfl | rfl | rfl<;>decide
theorem ξ5K {n v:Nat} (hF:TM.Fit n (chainE (n - 1))) (hv:v+1<n):TM.cst (chainE (n - 1)) (v:Int) ((v+1:Nat):Int)=1:=by
 have hm:(⟨(v:Int),(v:Int)+1,1⟩:TM.Ed)∈chainE (n - 1):=by
  unfold chainE;rw [Ξi];exact ⟨v,by rw [List.mem_range];omega,rfl⟩
 have:=TM.ξeq hF hm (x:=(v:Int)) (y:=((v+1:Nat):Int)) (TM.ξ3o.2 (.inl ⟨rfl,by show (v:Int)+1=((v+1:Nat):Int);omega⟩))
 exact this
theorem ξ2u {n r:Nat} {p d:List Int} (hT:Trees n r (chainE (n - 1)) p d) {v:Nat} (hv:v<n):0<=TM.dg d v:=by
 have hr:=hT.rn
 have w0:=TM.Way.here (chainE (n - 1)) n r
 have up:∀ k:Nat,r+k<n->∃ s,TM.Way (chainE (n - 1)) n r (r+k) s:=by
  intro k
  induction k with
  | zero=>intro _;exact ⟨0,w0⟩
  | succ k ih=>
    intro hk;obtain ⟨s,hs⟩:=ih (by omega)
    have e:=ξ5K hT.fit (v:=r+k) (by omega)
    exact ⟨_,hs.step (by omega) (y:=r+k+1) (by rw [e];omega)⟩
 have down:∀ k:Nat,k<=r->∃ s,TM.Way (chainE (n - 1)) n r (r - k) s:=by
  intro k
  induction k with
  | zero=>intro _;exact ⟨0,w0⟩
  | succ k ih=>
    intro hk;obtain ⟨s,hs⟩:=ih (by omega)
    have e:=ξ5K hT.fit (v:=r - (k+1)) (by omega)
    rw [TM.ξ77,show r - (k+1)+1=r - k by omega] at e
    exact ⟨_,hs.step (by omega) (y:=r - (k+1)) (by rw [e];omega)⟩
 by_cases c:r<=v
 ·obtain ⟨s,hs⟩:=up (v - r) (by omega)
  rw [show r+(v - r)=v by omega] at hs
  exact (hT.dist.le hv hs).1
 ·obtain ⟨s,hs⟩:=down (r - v) (by omega)
  rw [show r - (r - v)=v by omega] at hs
  exact (hT.dist.le hv hs).1
theorem lit3c {w:World} {T:TypeId} (c0 c1 c2:Value):∀ j u,[c0,c1,c2][j]?=some u->(w.alloc (.cells #[c0,c1,c2] T)).cell? ((⟨w.heap.size,0,none⟩:Addr).add j)=some u:=by
 intro j u hu;rw [Addr.add_lit,World.cell?_alloc_mark,Nat.zero_add,<- hu];exact List.getElem?_toArray
structure ChSt (w W:World) (j:Nat) (v:Value):Prop where
 below:Below w.heap.size w W
 own:W.ownsRow w.heap.size 87 3 v j (Tree.mc (chainE j))
theorem ξ7E (n:Nat) (h1:1<=n) (h10:n<=10) (w:World) :
 Calls prog 7 #[.int .i64 (n:Int)] w fun e w'=>∃ a c,e=.returned (.slice a (n - 1) c)/\Tree.EArg w' a (n - 1) (chainE (n - 1))/\(a=none->n - 1=0/\c=0)/\n - 1<=c/\Below w.heap.size w w':=by
 have HE0:Hid (ChSt w w 0 (.slice none 0 0)):=⟨Ξp _ _,Ξr _ _ _ _⟩
 obtain ⟨ie,hie,he0,he1,he2⟩:=info_parts Tree.infoED;go_enter func7,ntmps7
 go_wp2_with fail
 go_loopg [3,4] (n - 1) (fun g u3 u4 wr=>∃ (j:Nat) (v:Value),j+1+g=n/\v=u3/\u4=.int .i64 ((j:Int)+1)/\Hid (ChSt w wr j v))
 case atStart=>exact ⟨0,_,by omega,rfl,rfl,HE0⟩
 case round=>
 obtain ⟨j,v,hjg,rfl,rfl,HE⟩:=hrel;clear HE0;by_cases hj:j+1<n
 case pos=>
  have hjz:(j:Int)+1<(n:Int):=by omega
  go_wp2_with (at_builtin;refine wpList_append_own _ rfl _ _ 28 rfl w.heap.size 87 ie _ 3 24 underlying28 hie he0 he1 he2 rfl (by decide) v j (Tree.mc (chainE j)) rfl (HE.out.own.alloc _) ⟨wr.heap.size,0,none⟩ 1 1 [.int .i64 (j:Int),.int .i64 ((j:Int)+1),.int .i64 1] rfl rfl ?cc ?one ?b1 ?b2 ?b3 ?next)
  case cc=>exact lit3c _ _ _
  case one=>simp [Value.oneCell']
  case b1=>unfold maxLen;omega
  case b2=>omega
  case b3=>have:=HE.out.below.size;simp;omega
  case next=>
  intro v3 w' hown hgrow _;have HEn:Hid (ChSt w w' (j+1) v3):=by
   have hs:=HE.out.below.size
   refine ⟨(HE.out.below.alloc hs _).grown hgrow (by simp;omega) (fun k hk=>(HE.out.own.lt k hk).1),?_⟩
   rw [ξ7F,Tree.ξf3];exact hown
  clear hown hgrow;go_wp2_with fail
  go_roundg (n - (j+2))
  case measure=>omega
  case rel=>exact ⟨j+1,v3,by omega,rfl,by go_num,HEn⟩
 case neg=>
 have hjz:¬ (j:Int)+1<(n:Int):=by omega
 have hj1:j=n - 1:=by omega
 subst hj1;obtain ⟨ea,ec,hev,hEA,hen,hec,-⟩:=Tree.ξ7Z HE.out.own (by omega)
 subst hev;have HR:=ξ0 (And.intro hEA (And.intro hen hec))
 clear hEA hen hec;go_wp2_with fail
 go_ret
 exact ⟨ea,ec,rfl,HR.out.1,HR.out.2.1,by have:=HR.out.2.2;omega,HE.out.below⟩
section
variable {w W:World} {b:Nat} {Z:Zp} {m k:Nat} {bs cs:List Nat}
theorem ZW.two (h:ZW w W b Z m k bs cs) (O1 O2:Obj):ZW w ((W.alloc O1).alloc O2) b Z m k bs cs/\StayM (bs++cs) W ((W.alloc O1).alloc O2):=by
 have hb:Below W.heap.size W ((W.alloc O1).alloc O2):=((Ξp _ _).alloc (Ξo _) _).alloc (by simp) _
 have:=h.below hb [] (by simp)
 rw [Ξu] at this;refine ⟨this,fun k hk=>hb.block k (h.lt k (Ξe.1 hk))⟩
theorem ξez {a:Option Addr} {n:Nat} {L:List Nat} (h:Arg W a n L) (O1 O2:Obj):Arg ((W.alloc O1).alloc O2) a n L:=h.below (((Ξp _ _).alloc (Ξo _) _).alloc (by simp) _)
theorem ξbJ (hZ:Z.Ok) (hS:Z.S=LP.pkN) (h:ZW w W b Z m k bs cs) (hm:m<60) (hk:k<1000) {v0 v1:Int} (h0:0<=v0) (h6:v0<=6) {g c:Nat} (hg:g∈cs) (hA:Arg W (some ⟨g,0,none⟩) 2 (LP.pL m)) :
 Calls prog 11 #[.pointer (some ⟨b,0,none⟩),.agg #[.int .i64 v0,.int .i64 v1,.int .i64 0],.agg #[.int .i64 (m:Int),.int .i64 (m:Int),.int .i64 0,.int .i64 0,.bool true,.slice (some ⟨g,0,none⟩) 2 c]] W fun e w'=>e=.returned (.bool true)/\StayM (bs++cs) W w'/\ZW w w' b Z (if v0<2 then m+1 else m) (k+16) bs cs:=by
 have HZ:=ξ0 (fun O1 O2=>h.two O1 O2)
 have HA:=ξ0 (fun O1 O2=>ξez hA O1 O2)
 clear h hA;rcases (by omega:v0=0∨v0=1∨v0=2∨v0=3∨v0=4∨v0=5∨v0=6) with rfl | rfl | rfl | rfl | rfl | rfl | rfl
 ·rw [if_pos (by omega)]
  clear h0 h6;go_enter func11,ntmps11
  go_wp2_with fail
  refine ((HZ.out _ _).1.send hZ hS hm (by omega) hg (HA.out _ _)).mono ?_
  rintro e w' ⟨rfl,h1,h2⟩;have HR:=ξ0 (And.intro h1 h2.zw)
  clear h1 h2;go_wp2_with fail
  go_ret
  exact ⟨rfl,(HZ.out _ _).2.trans HR.out.1,HR.out.2⟩
 ·rw [if_pos (by omega)]
  clear h0 h6;go_enter func11,ntmps11
  go_wp2_with fail
  refine ((HZ.out _ _).1.send hZ hS hm (by omega) hg (HA.out _ _)).mono ?_
  rintro e w' ⟨rfl,h1,h2⟩;have HR:=ξ0 (And.intro h1 h2.zw)
  clear h1 h2;go_wp2_with fail
  go_ret
  exact ⟨rfl,(HZ.out _ _).2.trans HR.out.1,HR.out.2⟩
 ·rw [if_neg (by omega)]
  clear h0 h6;go_enter func11,ntmps11
  go_wp2_with fail
  refine ((HZ.out _ _).1.land hZ (by omega) v1).mono ?_
  rintro e w' ⟨f,rfl,h1,h2⟩;have HR:=ξ0 (And.intro h1 h2)
  clear h1 h2;go_wp2_with fail
  go_ret
  exact ⟨rfl,(HZ.out _ _).2.trans HR.out.1,HR.out.2⟩
 ·rw [if_neg (by omega)]
  clear h0 h6;go_enter func11,ntmps11
  go_wp2_with fail
  refine ((HZ.out _ _).1.land hZ (by omega) v1).mono ?_
  rintro e w' ⟨f,rfl,h1,h2⟩;have HR:=ξ0 (And.intro h1 h2)
  clear h1 h2;go_wp2_with fail
  go_ret
  exact ⟨rfl,(HZ.out _ _).2.trans HR.out.1,HR.out.2⟩
 ·rw [if_neg (by omega)]
  clear h0 h6;go_enter func11,ntmps11
  go_wp2_with fail
  refine ((HZ.out _ _).1.land hZ (by omega) v1).mono ?_
  rintro e w' ⟨f,rfl,h1,h2⟩;have HR:=ξ0 (And.intro h1 h2)
  clear h1 h2;go_wp2_with fail
  go_ret
  exact ⟨rfl,(HZ.out _ _).2.trans HR.out.1,HR.out.2⟩
 ·rw [if_neg (by omega)]
  clear h0 h6;go_enter func11,ntmps11
  go_wp2_with fail
  refine ((HZ.out _ _).1.lose v1).mono ?_
  rintro e w' ⟨f,rfl,h1,h2⟩;have HR:=ξ0 (And.intro h1 h2)
  clear h1 h2;go_wp2_with fail
  go_ret
  exact ⟨rfl,(HZ.out _ _).2.trans HR.out.1,HR.out.2⟩
 ·rw [if_neg (by omega)]
  clear h0 h6;go_enter func11,ntmps11
  go_wp2_with fail
  refine ((HZ.out _ _).1.twice hk v1).mono ?_
  rintro e w' ⟨f,rfl,h1,h2⟩;have HR:=ξ0 (And.intro h1 h2)
  clear h1 h2;go_wp2_with fail
  go_ret
  exact ⟨rfl,(HZ.out _ _).2.trans HR.out.1,HR.out.2⟩
end
def q0 (n r:Nat):Plan:=⟨n,0,chainE (n - 1),fun _=>false,fun _=>r,fun _=>[],fun _=>[],fun _=>0,fun _ i=>LP.pkN i,fun k=>if k=0 then 60 else 0,fun _=>[]⟩
def Zmm (n r v:Nat) (p d:List Int):Zp:=⟨n,r,v,chainE (n - 1),p,d,LP.pkN⟩
theorem ξ9I {n r v:Nat} {p d:List Int} (hT:Trees n r (chainE (n - 1)) p d) (hv:v<n):(Zmm n r v p d).Ok:=⟨hT,fun u hu=>ξ2u hT hu,ξdO,hv⟩
section
variable {w W W':World} {b n r v:Nat} {bs cs:List Nat}
theorem ξf2 (hb:Below w.heap.size w W) (h1:1<=n) (h10:n<=10) (a:Option Addr) (c:Nat) (hA:Tree.EArg W a (n - 1) (chainE (n - 1))) (hn:a=none->n - 1=0/\c=0) (hc:n - 1<=c) :
 Calls prog 6 #[.int .i64 (n:Int),.slice a (n - 1) c] W fun e w'=>∃ b,e=.returned (.tuple #[.pointer (some ⟨b,0,none⟩),.nilIface])/\PZ w w' b (q0 n r) zeroH [] (fun _=>-1) []:=
 ξaf (Q:=q0 n r) hb a (n - 1) c hA hn hc (ξ5J h1 h10) rfl (fun _=>rfl) (fun _=>rfl)
theorem ξf1 (h1:1<=n) (h10:n<=10) (hr:r<n) (h:PZ w W b (q0 n r) zeroH [] (fun _=>-1) []) :
 Calls prog 8 #[.pointer (some ⟨b,0,none⟩),.int .i64 1,.int .i64 (r:Int)] W fun e w'=>e=.returned .nilIface/\∃ p d,Trees n r (chainE (n - 1)) p d/\PZ w w' b ((q0 n r).publish 0 p d) zeroH [] (updN (fun _=>-1) 0 (r:Int)) []:=
 ξ4n h (k:=0) (by omega) rfl rfl hr (ξ5J h1 h10)
theorem ξf0 {p d:List Int} (hT:Trees n r (chainE (n - 1)) p d) (hv:v<n) (h:PZ w W b ((q0 n r).publish 0 p d) zeroH [] (updN (fun _=>-1) 0 (r:Int)) []) :
 Calls prog 9 #[.pointer (some ⟨b,0,none⟩),.int .i64 1,.int .i64 (v:Int),.int .i64 3] W fun e w'=>e=.returned (.tuple #[.int .i64 1,.nilIface])/\ZW w w' b (Zmm n r v p d) 0 0 [] []:=by
 have hZ:=ξ9I hT hv
 obtain ⟨q1,q2,q3⟩:=ξ1H (q0 n r) 0 p d;have hat:((q0 n r).publish 0 p d).at 0 v=true:=Plan.at_iff.2 ⟨q1,by rw [q3];exact ξ2u hT hv⟩
 refine (ξae h (k:=0) (v:=v) (by omega) hv hat (mo:=3) (by omega) (by omega) (by show ([]:List (Int×Sb)).length<20;simp) (by simp)).mono ?_
 rintro e w' ⟨rfl,M,hz,hP,e1,e2,e3⟩;refine ⟨rfl,M,⟨fun _ _=>false,fun _=>0,fun _=>-1⟩,[],hz.zn,?_,fun x hx=>(by cases hx),Ξo _⟩
 have hB:∀ u,u<n->(M.nd u).sb=if u=v then [(1,s0 1 3)] else []:=by
  intro u hu;have hs:=hP.sb u hu
  have hs':(M.nd u).sb=(updN (fun _=>([]:List (Int×Sb))) v ([]++[((([]:List (Int×Sb)).length:Int)+1,s0 (((0:Nat):Int)+1) 3)]) u).map (Plan.sub (((q0 n r).publish 0 p d).addS v ((([]:List (Int×Sb)).length:Int)+1,s0 (((0:Nat):Int)+1) 3)) zeroH u):=hs
  by_cases c:u=v
  ·rw [if_pos c,hs',c,ξ9];rfl
  ·rw [if_neg c,hs',ξf _ _ c];rfl
 refine ⟨hP.ok,hP.n,hP.nw,Int.le_refl _,by omega,?_,?_,fun u hu=>?_,fun u hu k h0 hk=>?_,fun u hu hn=>?_,⟨s0 1 3,?_,.inl ⟨rfl,rfl⟩⟩,hP.fl,fun u i hx=>(by cases hx),fun u L hx=>(by cases hx),fun u hu y hy i hi=>(by cases hi),fun i=>⟨fun hi=>(by cases hi),fun hi=>by omega⟩,fun u hu i hi=>(by cases hi),by omega⟩
 ·rw [e1];exact ξ9 _ _ _
 ·rw [e2];rfl
 ·have hat':(((q0 n r).publish 0 p d).addS v ((([]:List (Int×Sb)).length:Int)+1,s0 (((0:Nat):Int)+1) 3)).at 0 u=true:=Plan.at_iff.2 ⟨q1,by show 0<=TM.dg (((q0 n r).publish 0 p d).d 0) u;rw [q3];exact ξ2u hT hu⟩
  obtain ⟨t,ht,hH⟩:=hP.tr u hu 0 (by omega) hat'
  have hO:TrOk M.n (M.nd u).nw 0 t:=(hP.ok.nd u (by rw [hP.n];exact hu)).1.tr 0 (by omega) t ht
  have hrM:t.rM=[]:=by
   rcases hO.ri.tops with ⟨_,e⟩ | ⟨i,hi,e⟩
   ·exact e
   ·have:=(hO.ri.mem i hi).1
    have e4:t.rT=-1:=hH.rT
    omega
  have hpa:t.pa=TM.dg (((q0 n r).publish 0 p d).p 0) u:=hH.pa
  have hkk:t.kids=TM.kd (((q0 n r).publish 0 p d).p 0) (u:Int) n:=hH.kids
  rw [q2] at hpa hkk;refine ⟨t,ht,⟨hH.tk,hH.ep,hpa,hkk,hH.gT,hH.rT,.inl ⟨rfl,fun _=>rfl⟩,fun i hi=>(by cases hi),fun i=>?_,fun x hx=>?_,fun i hi=>(by cases hi),fun x hx=>?_⟩,fun _ x hx=>?_⟩
  ·rw [hH.gM];constructor
   ·intro hc;cases hc
   ·intro hc;have h2:65536+(i:Int) < -1:=hc.2.1
    omega
  ·rw [hH.gM] at hx;cases hx
  ·rw [hrM] at hx;cases hx
  ·rw [hH.gM] at hx;cases hx
 ·refine hP.no u hu k hk ?_
  have h2:=(ξ22 (q0 n r) 0 p d (j:=k) (by omega)).2.2.2 u
  have h3:((q0 n r).publish 0 p d).at k u=false:=by rw [h2];rfl
  exact h3
 ·have hn':u≠v:=hn
  rw [hB u hu,if_neg hn']
 ·show (M.nd v).sb=_
  rw [hB v hv,if_pos rfl]
theorem ξ6y {base e size n:Nat} {v:Value} {xs:List Value} (h:W.ownsRow base e size v n xs) (hs:∀ g,v.ownBlock=some g->W'.heap[g]?=W.heap[g]?):W'.ownsRow base e size v n xs:=by
 refine ⟨h.1,?_⟩
 rcases h.2 with c | ⟨g,cap,cur,hv,hb,hg,hr⟩
 ·exact .inl c
 ·exact .inr ⟨g,cap,cur,hv,hb,by rw [hs g (by rw [hv];rfl)];exact hg,hr⟩
theorem ξ1A {g n:Nat} {L:List Nat} (h:Arg W (some ⟨g,0,none⟩) n L) (hs:W'.heap[g]?=W.heap[g]?):Arg W' (some ⟨g,0,none⟩) n L:=by
 refine ⟨⟨h.1.1,fun j hj=>?_⟩,h.2⟩
 obtain ⟨b,o,e,hc⟩:=h.1.2 j hj;cases e
 exact ⟨g,0,rfl,by rw [<- hc];exact ξn hs _⟩
structure SR (w W:World) (sv:Value) (Y:List AU.Pk) (m:Nat) (bs cs:List Nat):Prop where
 len:Y.length=m
 own:W.ownsRow w.heap.size 38 6 sv m (Audit.flat Y)
 blk:∀ g,sv.ownBlock=some g->g∈bs
 el:∀ j,j<m->∃ g,(Y.getD j AU.noPk).a=some ⟨g,0,none⟩/\(Y.getD j AU.noPk).m=2/\(Y.getD j AU.noPk).L=LP.pL j/\g∈cs/\Arg W (some ⟨g,0,none⟩) 2 (LP.pL j)
theorem SR.nil:SR w W (.slice none 0 0) [] 0 [] []:=⟨rfl,Ξr _ _ _ _,by simp [Value.ownBlock],fun j h=>by omega⟩
variable {sv:Value} {Y:List AU.Pk} {m:Nat}
theorem SR.stay (h:SR w W sv Y m bs cs) (hs:StayM (bs++cs) W W') {bs' cs':List Nat} (h1:∀ k∈bs,k∈bs') (h2:∀ k∈cs,k∈cs'):SR w W' sv Y m bs' cs':=by
 refine ⟨h.len,ξ6y h.own (fun g hg=>hs g (List.mem_append_left _ (h.blk g hg))),fun g hg=>h1 g (h.blk g hg),fun j hj=>?_⟩
 obtain ⟨g,a1,a2,a3,a4,a5⟩:=h.el j hj;exact ⟨g,a1,a2,a3,h2 g a4,ξ1A a5 (hs g (List.mem_append_right _ a4))⟩
theorem ξ2M {bs:List Nat} (hb:Below W.heap.size W W') (hl:∀ k∈bs,k<W.heap.size):StayM bs W W':=fun k hk=>hb.block k (hl k hk)
theorem SR.at (h:SR w W sv Y m bs cs) {j:Nat} (hj:j<m):∃ gs c g c',sv=.slice (some ⟨gs,0,none⟩) m c/\W.cell? ⟨gs,j*6+5,none⟩=some (.slice (some ⟨g,0,none⟩) 2 c')/\Arg W (some ⟨g,0,none⟩) 2 (LP.pL j):=by
 obtain ⟨g,a1,a2,a3,a4,a5⟩:=h.el j hj;obtain ⟨gs,c,hv,_⟩:=h.own.form (by omega)
 refine ⟨gs,c,g,(Y.getD j AU.noPk).c,hv,?_,a5⟩
 have hlen:=h.len
 have hg5:=Audit.flat_get Y j 5 (by omega) (by omega)
 have hown:=h.own
 rw [hv] at hown;have hc:=hown.cells (g:=gs) rfl (j*6+5) (.slice (some ⟨g,0,none⟩) 2 (Y.getD j AU.noPk).c) (by
  rw [hg5];show some (Value.slice (Y.getD j AU.noPk).a (Y.getD j AU.noPk).m (Y.getD j AU.noPk).c)=_
  rw [a1,a2])
 rw [Addr.add_lit,Nat.zero_add] at hc;exact hc
end
section
variable {w W W' W1:World} {b:Nat} {Z:Zp} {m k:Nat} {bs cs:List Nat} {sv:Value} {Y:List AU.Pk}
def pkM (m g:Nat):AU.Pk:=⟨(m:Int),(m:Int),0,0,true,some ⟨g,0,none⟩,2,2,LP.pL m⟩
theorem Zn.dis {M:Ms} (h:Zn w W b M bs cs):∀ k∈cs,k∉bs:=by
 obtain ⟨o,P,h1,h2,h3,h4,h5⟩:=h;intro k hk hb;have q1:=(h4 k hb).1
 have q2:=(h5 k hk).1
 omega
theorem ZW.dis (h:ZW w W b Z m k bs cs):∀ k∈cs,k∉bs:=by
 obtain ⟨M,D,X,h1,_⟩:=h;exact h1.dis
theorem ZW.ws (h:ZW w W b Z m k bs cs):w.heap.size<=W.heap.size:=h.bel.size
theorem SR.add (h:SR w W sv Y m bs cs) (hdj:∀ k∈cs,k∉bs) (hlt:∀ k,k∈bs∨k∈cs->k<W.heap.size) {g0:Nat} (hg0:g0∈cs) (hA:Arg W (some ⟨g0,0,none⟩) 2 (LP.pL m)) {O:Obj} {g cap:Nat}
 (hown:W1.ownsRow w.heap.size 38 6 (.slice (some ⟨g,0,none⟩) (m+1) cap) (m+1) (Audit.flat Y++Audit.pc (pkM m g0))) (hg:(W.alloc O).grownBy W1 sv.ownBlock) (hl:sv.ownBlock=some g∨g=W.heap.size+1) (hgl:g<W1.heap.size) :
 ∃ ks new,Only ks W W1/\(∀ k∈ks,k∈bs)/\Nob W ks/\(∀ k∈new,W.heap.size<=k/\k<W1.heap.size)/\SR w W1 (.slice (some ⟨g,0,none⟩) (m+1) cap) (Y++[pkM m g0]) (m+1) (bs++new) cs:=by
 have ho:Only sv.ownBlock.toList W W1:=(((Only.refl _ W).alloc O).grown hg (fun k e=>by simp [e]))
 have hk:∀ k∈sv.ownBlock.toList,k∈bs:=fun k hk=>h.blk k (by simpa using hk)
 have hlen:=h.len
 have hArg:∀ g' L,g'∈cs->Arg W (some ⟨g',0,none⟩) 2 L->Arg W1 (some ⟨g',0,none⟩) 2 L:=fun g' L hg' hA'=>
  ξ1A hA' (ho.2.2.2.2 g' (hlt g' (.inr hg')) (fun hm=>hdj g' hg' (hk g' hm)))
 have hnb:Nob W sv.ownBlock.toList:=by
  intro k hk cs fr;obtain ⟨c,fz,hc⟩:=Lib.ownsRow_kind h.own k (by simpa using hk)
  rw [hc];simp
 have hel:∀ j,j<m+1->∃ g',((Y++[pkM m g0]).getD j AU.noPk).a=some ⟨g',0,none⟩/\((Y++[pkM m g0]).getD j AU.noPk).m=2/\((Y++[pkM m g0]).getD j AU.noPk).L=LP.pL j/\g'∈cs/\Arg W1 (some ⟨g',0,none⟩) 2 (LP.pL j):=by
  intro j hj;by_cases c:j<m
  ·obtain ⟨g',a1,a2,a3,a4,a5⟩:=h.el j c;have e:(Y++[pkM m g0]).getD j AU.noPk=Y.getD j AU.noPk:=by
    rw [Ξa,Ξa,Ξt (by omega)]
   rw [e];exact ⟨g',a1,a2,a3,a4,hArg _ _ a4 a5⟩
  ·obtain rfl:j=m:=by omega
   have e:(Y++[pkM j g0]).getD j AU.noPk=pkM j g0:=by
    rw [Ξa,List.getElem?_append_right (by omega),hlen,Nat.sub_self]
    rfl
   rw [e];exact ⟨g0,rfl,rfl,rfl,hg0,hArg _ _ hg0 hA⟩
 have hfl:Audit.flat (Y++[pkM m g0])=Audit.flat Y++Audit.pc (pkM m g0):=by rw [Audit.ξ4a,Audit.ξ49]
 rcases hl with hl | hl
 ·refine ⟨_,[],ho,hk,hnb,by simp,by rw [Ξh,List.length_singleton,hlen],by rw [hfl];exact hown,fun g' e=>?_,hel⟩
  simp [Value.ownBlock] at e
  subst e;rw [Ξu];exact h.blk _ hl
 ·refine ⟨_,[g],ho,hk,hnb,?_,by rw [Ξh,List.length_singleton,hlen],by rw [hfl];exact hown,fun g' e=>?_,hel⟩
  ·intro k hk;rw [Ξg] at hk;subst hk;omega
  ·simp [Value.ownBlock] at e
   subst e;simp
def V3 (W:World) (vb:Nat) (a0 a1:Int):Prop:=W.heap[vb]?=some (.cells #[.int .i64 a0,.int .i64 a1,.int .i64 0] 34 (0,0))
theorem V3.cells {vb:Nat} {a0 a1:Int} (h:V3 W vb a0 a1):W.cell? ⟨vb,0,none⟩=some (.int .i64 a0)/\W.cell? ⟨vb,1,none⟩=some (.int .i64 a1)/\W.cell? ⟨vb,2,none⟩=some (.int .i64 0):=by
 simp only [V3] at h
 simp [World.cell?,h]
theorem V3.free {vb:Nat} {a0 a1:Int} (h:V3 W vb a0 a1) (j:Nat):W.frozen? ⟨vb,j,none⟩=false:=by
 simp only [V3] at h
 simp [World.frozen?,h]
theorem V3.same {vb:Nat} {a0 a1:Int} (h:V3 W vb a0 a1) (e:W'.heap[vb]?=W.heap[vb]?):V3 W' vb a0 a1:=e.trans h
def LV (w W:World) (b:Nat) (Z:Zp) (m k:Nat) (sv:Value) (Y:List AU.Pk) (vb:Nat) (a0 a1:Int):Prop:=∃ bs cs,ZW w W b Z m k bs cs/\SR w W sv Y m bs cs/\vb∈bs/\V3 W vb a0 a1
def LW (w W:World) (b:Nat) (Z:Zp) (m k:Nat) (sv:Value) (Y:List AU.Pk):Prop:=∃ bs cs,ZW w W b Z m k bs cs/\SR w W sv Y m bs cs
theorem ZW.new (h:ZW w W b Z m k bs cs) (hs:SR w W sv Y m bs cs) (O:Obj):ZW w (W.alloc O) b Z m k (bs++[W.heap.size]) cs/\SR w (W.alloc O) sv Y m (bs++[W.heap.size]) cs:=by
 have hb:Below W.heap.size W (W.alloc O):=(Ξp _ _).alloc (Ξo _) _
 refine ⟨h.own (ks:=[]) (Only.of_below hb _) (by simp) (fun k hk=>by cases hk) [W.heap.size] (by simp),hs.stay (ξ2M hb (fun k hk=>h.lt k (Ξe.1 hk))) (fun k hk=>List.mem_append_left _ hk) (fun k hk=>hk)⟩
theorem LW.vec (h:LW w W b Z m k sv Y):LV w (W.alloc (.cells #[.int .i64 0,.int .i64 0,.int .i64 0] 34)) b Z m k sv Y W.heap.size 0 0:=by
 obtain ⟨bs,cs,h1,h2⟩:=h;obtain ⟨q1,q2⟩:=h1.new h2 (.cells #[.int .i64 0,.int .i64 0,.int .i64 0] 34);exact ⟨_,_,q1,q2,by simp,heap_alloc_new _ _⟩
theorem LV.lw {vb:Nat} {a0 a1:Int} (h:LV w W b Z m k sv Y vb a0 a1):LW w W b Z m k sv Y:=by
 obtain ⟨bs,cs,h1,h2,_⟩:=h;exact ⟨bs,cs,h1,h2⟩
theorem LW.bel (h:LW w W b Z m k sv Y):Below w.heap.size w W:=by
 obtain ⟨bs,cs,h1,_⟩:=h;exact h1.bel
theorem LW.own (h:LW w W b Z m k sv Y):W.ownsRow w.heap.size 38 6 sv m (Audit.flat Y):=by
 obtain ⟨bs,cs,_,h1⟩:=h;exact h1.own
theorem ξcm {base e size n:Nat} {v:Value} {xs:List Value} (h:W.ownsRow base e size v n xs):∃ a c,v=.slice a n c:=by
 rcases h.2 with ⟨e,h0⟩ | ⟨g,cap,cur,e,_⟩
 ·subst h0;exact ⟨none,0,e⟩
 ·exact ⟨_,_,e⟩
theorem LW.few (h:LW w W b Z m k sv Y) {k':Nat} (hk:k<=k'):LW w W b Z m k' sv Y:=by
 obtain ⟨bs,cs,h1,h2⟩:=h;exact ⟨bs,cs,h1.few hk,h2⟩
theorem LV.v3 {vb:Nat} {a0 a1:Int} (h:LV w W b Z m k sv Y vb a0 a1):V3 W vb a0 a1:=by
 obtain ⟨bs,cs,_,_,_,h1⟩:=h;exact h1
theorem LV.put {vb:Nat} {a0 a1:Int} (h:LV w W b Z m k sv Y vb a0 a1) {j:Nat} (x:Int) {c0 c1:Int} (e:#[Value.int .i64 a0,.int .i64 a1,.int .i64 0].setIfInBounds j (.int .i64 x)=#[Value.int .i64 c0,.int .i64 c1,.int .i64 0]):LV w (W.setCell ⟨vb,j,none⟩ (.int .i64 x)) b Z m k sv Y vb c0 c1:=by
 obtain ⟨bs,cs,h1,h2,h3,h4⟩:=h;have hv:sv.ownBlock≠some vb:=fun e=>by
  obtain ⟨c,fz,hc⟩:=Lib.ownsRow_kind h2.own vb e;rw [V3,hc] at h4;simp at h4
 have ho:Only [vb] W (W.setCell ⟨vb,j,none⟩ (.int .i64 x)):=(Only.refl _ W).setCell (by simp) _
 have hn:Nob W [vb]:=fun k hk=>by
  rw [Ξg] at hk;subst hk;exact ξj h4 (by decide)
 have q:=h1.own (ks:=[vb]) ho (by simpa using h3) hn [] (by simp)
 rw [Ξu] at q;refine ⟨bs,cs,q,⟨h2.len,ξ6y h2.own (fun g hg=>ho.2.2.2.2 g (h1.lt g (.inl (h2.blk g hg))) (fun hm=>hv (by rw [Ξg] at hm;rw [<- hm];exact hg))),h2.blk,fun i hi=>?_⟩,h3,?_⟩
 ·obtain ⟨g,a1,a2,a3,a4,a5⟩:=h2.el i hi;exact ⟨g,a1,a2,a3,a4,ξ1A a5 (ho.2.2.2.2 g (h1.lt g (.inr a4)) (fun hm=>h1.dis g a4 (by rw [Ξg] at hm;rw [hm];exact h3)))⟩
 ·have:=heap_setCell_same W vb j _ 34 (.int .i64 x) h4
  rw [e] at this;exact this
theorem V3.cell {vb:Nat} {a0 a1:Int} (h:V3 W vb a0 a1) {j:Nat} (hj:j<2):∃ x,W.cell? ⟨vb,j,none⟩=some (.int .i64 x):=by
 obtain ⟨h1,h2,_⟩:=h.cells;rcases (by omega:j=0∨j=1) with rfl | rfl
 ·exact ⟨_,h1⟩
 ·exact ⟨_,h2⟩
theorem LV.put' {vb:Nat} {a0 a1:Int} (h:LV w W b Z m k sv Y vb a0 a1) {j:Nat} (hj:j<2) (x:Int):∃ c0 c1,LV w (W.setCell ⟨vb,j,none⟩ (.int .i64 x)) b Z m k sv Y vb c0 c1:=by
 rcases (by omega:j=0∨j=1) with rfl | rfl
 ·exact ⟨x,a1,h.put x rfl⟩
 ·exact ⟨a0,x,h.put x rfl⟩
def PV (w W:World) (b:Nat) (Z:Zp) (m k:Nat) (sv:Value) (Y:List AU.Pk) (vb:Nat) (a0 a1:Int) (g:Nat):Prop:=∃ bs cs,ZW w W b Z m k bs cs/\SR w W sv Y m bs cs/\(vb∈bs/\V3 W vb a0 a1)/\g∈cs/\Arg W (some ⟨g,0,none⟩) 2 (LP.pL m)
def PX (w W:World) (b:Nat) (Z:Zp) (m' m k:Nat) (sv:Value) (Y:List AU.Pk) (vb:Nat) (a0 a1:Int) (g xb:Nat):Prop:=∃ bs cs,ZW w W b Z m' k bs cs/\SR w W sv Y m bs cs/\(vb∈bs/\V3 W vb a0 a1)/\(g∈cs/\Arg W (some ⟨g,0,none⟩) 2 (LP.pL m))/\xb∈bs/\Box W xb (m:Int) (m:Int) 0 0 true (.slice (some ⟨g,0,none⟩) 2 2)
theorem ξbC {g:Nat} {L:List Nat} (h:Arg W (some ⟨g,0,none⟩) 2 L):g<W.heap.size:=by
 obtain ⟨g',o,e,hc⟩:=h.1.2 0 (by have:=h.2.1;omega)
 cases e
 exact Ξq W _ hc
theorem LV.packet {vb:Nat} {a0 a1:Int} (h:LV w W b Z m k sv Y vb a0 a1) (hm:m<=1000) :
 Calls prog 10 #[.int .i64 (m:Int),.int .i64 0] W fun e w'=>∃ g,e=.returned (.agg #[.int .i64 (m:Int),.int .i64 (m:Int),.int .i64 0,.int .i64 0,.bool true,.slice (some ⟨g,0,none⟩) 2 2])/\PV w w' b Z m k sv Y vb a0 a1 g:=by
 obtain ⟨bs,cs,h1,h2,h3,h4⟩:=h;refine (LP.ξ3e m hm W).mono ?_
 rintro e w' ⟨g,rfl,hA,hg,hb⟩;have hst:=ξ2M (bs:=bs++cs) hb (fun k hk=>h1.lt k (Ξe.1 hk))
 exact ⟨g,rfl,bs,cs++[g],h1.below hb [g] (by simpa using ⟨hg,ξbC hA⟩),h2.stay hst (fun k hk=>hk) (fun k hk=>List.mem_append_left _ hk),⟨h3,h4.same (hst vb (List.mem_append_left _ h3))⟩,by simp,hA⟩
theorem PV.box {vb:Nat} {a0 a1:Int} {g:Nat} (h:PV w W b Z m k sv Y vb a0 a1 g) :
 PX w (W.alloc (.cells #[.int .i64 (m:Int),.int .i64 (m:Int),.int .i64 0,.int .i64 0,.bool true,.slice (some ⟨g,0,none⟩) 2 2] 38)) b Z m m k sv Y vb a0 a1 g W.heap.size:=by
 obtain ⟨bs,cs,h1,h2,⟨h3,h4⟩,h5,h6⟩:=h;obtain ⟨q1,q2⟩:=h1.new h2 (.cells #[.int .i64 (m:Int),.int .i64 (m:Int),.int .i64 0,.int .i64 0,.bool true,.slice (some ⟨g,0,none⟩) 2 2] 38);have hl:=h1.lt
 have hb:=Below.heap_alloc W (.cells #[.int .i64 (m:Int),.int .i64 (m:Int),.int .i64 0,.int .i64 0,.bool true,.slice (some ⟨g,0,none⟩) 2 2] 38)
 exact ⟨_,_,q1,q2,⟨List.mem_append_left _ h3,h4.same (hb _ (hl vb (.inl h3)))⟩,⟨h5,ξ1A h6 (hb _ (hl g (.inr h5)))⟩,by simp,Box.new _ _ _ _ _ _ _⟩
theorem PX.bx {m':Nat} {vb:Nat} {a0 a1:Int} {g xb:Nat} (h:PX w W b Z m' m k sv Y vb a0 a1 g xb):Box W xb (m:Int) (m:Int) 0 0 true (.slice (some ⟨g,0,none⟩) 2 2)/\V3 W vb a0 a1:=by
 obtain ⟨bs,cs,_,_,⟨_,h4⟩,_,_,h8⟩:=h;exact ⟨h8,h4⟩
theorem PX.act (hZ:Z.Ok) (hS:Z.S=LP.pkN) {vb:Nat} {a0 a1:Int} {g xb:Nat} (h:PX w W b Z m m k sv Y vb a0 a1 g xb) (hm:m<60) (hk:k<1000) (h0:0<=a0) (h6:a0<=6) :
 Calls prog 11 #[.pointer (some ⟨b,0,none⟩),.agg #[.int .i64 a0,.int .i64 a1,.int .i64 0],.agg #[.int .i64 (m:Int),.int .i64 (m:Int),.int .i64 0,.int .i64 0,.bool true,.slice (some ⟨g,0,none⟩) 2 2]] W fun e w'=>e=.returned (.bool true)/\PX w w' b Z (if a0<2 then m+1 else m) m (k+16) sv Y vb a0 a1 g xb:=by
 obtain ⟨bs,cs,h1,h2,⟨h3,h4⟩,⟨h5,h7⟩,h8,h9⟩:=h;refine (ξbJ hZ hS h1 hm hk h0 h6 h5 h7).mono ?_
 rintro e w' ⟨rfl,hst,hw⟩;exact ⟨rfl,bs,cs,hw,h2.stay hst (fun k hk=>hk) (fun k hk=>hk),⟨h3,h4.same (hst _ (List.mem_append_left _ h3))⟩,⟨h5,ξ1A h7 (hst _ (List.mem_append_right _ h5))⟩,h8,(hst _ (List.mem_append_left _ h8)).trans h9⟩
theorem PX.lw {m':Nat} {vb:Nat} {a0 a1:Int} {g xb:Nat} (h:PX w W b Z m' m k sv Y vb a0 a1 g xb) (e:m'=m):LW w W b Z m k sv Y:=by
 subst e;obtain ⟨bs,cs,h1,h2,_⟩:=h;exact ⟨bs,cs,h1,h2⟩
theorem PX.own {m':Nat} {vb:Nat} {a0 a1:Int} {g xb:Nat} (h:PX w W b Z m' m k sv Y vb a0 a1 g xb):W.ownsRow w.heap.size 38 6 sv m (Audit.flat Y)/\w.heap.size<=W.heap.size:=by
 obtain ⟨bs,cs,h1,h2,_⟩:=h;exact ⟨h2.own,h1.ws⟩
theorem PX.add {m':Nat} {vb:Nat} {a0 a1:Int} {g0 xb:Nat} (h:PX w W b Z m' m k sv Y vb a0 a1 g0 xb) (e:m'=m+1) {O:Obj} {g cap:Nat}
 (hown:W1.ownsRow w.heap.size 38 6 (.slice (some ⟨g,0,none⟩) (m+1) cap) (m+1) (Audit.flat Y++Audit.pc (pkM m g0))) (hg:(W.alloc O).grownBy W1 sv.ownBlock) (hl:sv.ownBlock=some g∨g=W.heap.size+1) (hgl:g<W1.heap.size) :
 LW w W1 b Z (m+1) k (.slice (some ⟨g,0,none⟩) (m+1) cap) (Y++[pkM m g0]):=by
 subst e;obtain ⟨bs,cs,h1,h2,_,⟨h5,h7⟩,_⟩:=h;obtain ⟨ks,new,q1,q2,q3,q4,q5⟩:=h2.add h1.dis h1.lt h5 h7 hown hg hl hgl;exact ⟨_,_,h1.own q1 q2 q3 new q4,q5⟩
def PF (w W:World) (b:Nat) (Z:Zp) (m k:Nat) (sv:Value) (Y:List AU.Pk) (g:Nat):Prop:=∃ bs cs,ZW w W b Z m k bs cs/\SR w W sv Y m bs cs/\g∈cs/\Arg W (some ⟨g,0,none⟩) 2 (LP.pL m)
def PY (w W:World) (b:Nat) (Z:Zp) (m k:Nat) (sv:Value) (Y:List AU.Pk) (g xb:Nat):Prop:=∃ bs cs,ZW w W b Z m k bs cs/\SR w W sv Y m bs cs/\(g∈cs/\Arg W (some ⟨g,0,none⟩) 2 (LP.pL m))/\xb∈bs/\Box W xb (m:Int) (m:Int) 0 0 true (.slice (some ⟨g,0,none⟩) 2 2)
def PC (w W:World) (b:Nat) (Z:Zp) (m k:Nat) (sv:Value) (Y:List AU.Pk) (g xb:Nat):Prop:=∃ bs cs,ZC w W b Z (m+1) k bs cs/\SR w W sv Y m bs cs/\(g∈cs/\Arg W (some ⟨g,0,none⟩) 2 (LP.pL m))/\xb∈bs/\Box W xb (m:Int) (m:Int) 0 0 true (.slice (some ⟨g,0,none⟩) 2 2)
def LC (w W:World) (b:Nat) (Z:Zp) (m k:Nat) (sv:Value) (Y:List AU.Pk):Prop:=∃ bs cs,ZC w W b Z m k bs cs/\SR w W sv Y m bs cs
def LD (w W:World) (b:Nat) (Z:Zp) (m:Nat) (sv:Value) (Y:List AU.Pk) (f:Nat) (tm:Int):Prop:=∃ bs cs M,Zn w W b M bs cs/\CSt Z m f tm M/\SR w W sv Y m bs cs
theorem LW.packet (h:LW w W b Z m k sv Y) (hm:m<=1000) :
 Calls prog 10 #[.int .i64 (m:Int),.int .i64 0] W fun e w'=>∃ g,e=.returned (.agg #[.int .i64 (m:Int),.int .i64 (m:Int),.int .i64 0,.int .i64 0,.bool true,.slice (some ⟨g,0,none⟩) 2 2])/\PF w w' b Z m k sv Y g:=by
 obtain ⟨bs,cs,h1,h2⟩:=h;refine (LP.ξ3e m hm W).mono ?_
 rintro e w' ⟨g,rfl,hA,hg,hb⟩;have hst:=ξ2M (bs:=bs++cs) hb (fun k hk=>h1.lt k (Ξe.1 hk))
 exact ⟨g,rfl,bs,cs++[g],h1.below hb [g] (by simpa using ⟨hg,ξbC hA⟩),h2.stay hst (fun k hk=>hk) (fun k hk=>List.mem_append_left _ hk),by simp,hA⟩
theorem PF.box {g:Nat} (h:PF w W b Z m k sv Y g) :
 PY w (W.alloc (.cells #[.int .i64 (m:Int),.int .i64 (m:Int),.int .i64 0,.int .i64 0,.bool true,.slice (some ⟨g,0,none⟩) 2 2] 38)) b Z m k sv Y g W.heap.size:=by
 obtain ⟨bs,cs,h1,h2,h5,h6⟩:=h;obtain ⟨q1,q2⟩:=h1.new h2 (.cells #[.int .i64 (m:Int),.int .i64 (m:Int),.int .i64 0,.int .i64 0,.bool true,.slice (some ⟨g,0,none⟩) 2 2] 38);exact ⟨_,_,q1,q2,⟨h5,ξ1A h6 (Below.heap_alloc W _ _ (h1.lt g (.inr h5)))⟩,by simp,Box.new _ _ _ _ _ _ _⟩
theorem PY.bx {g xb:Nat} (h:PY w W b Z m k sv Y g xb):Box W xb (m:Int) (m:Int) 0 0 true (.slice (some ⟨g,0,none⟩) 2 2):=by
 obtain ⟨bs,cs,_,_,_,_,h8⟩:=h;exact h8
theorem PC.bx {g xb:Nat} (h:PC w W b Z m k sv Y g xb):Box W xb (m:Int) (m:Int) 0 0 true (.slice (some ⟨g,0,none⟩) 2 2):=by
 obtain ⟨bs,cs,_,_,_,_,h8⟩:=h;exact h8
theorem PC.own {g xb:Nat} (h:PC w W b Z m k sv Y g xb):W.ownsRow w.heap.size 38 6 sv m (Audit.flat Y)/\w.heap.size<=W.heap.size:=by
 obtain ⟨bs,cs,h1,h2,_⟩:=h;exact ⟨h2.own,h1.zw.ws⟩
theorem PY.send (hZ:Z.Ok) (hS:Z.S=LP.pkN) {g xb:Nat} (h:PY w W b Z m k sv Y g xb) (hm:m<60) (hk:k<=1000) :
 Calls prog 12 #[.pointer (some ⟨b,0,none⟩),.int .i64 1,.agg #[.int .i64 (m:Int),.int .i64 (m:Int),.int .i64 0,.int .i64 0,.bool true,.slice (some ⟨g,0,none⟩) 2 2]] W fun e w'=>e=.returned .nilIface/\PC w w' b Z m (k+16) sv Y g xb:=by
 obtain ⟨bs,cs,h1,h2,⟨h5,h7⟩,h8,h9⟩:=h;refine (h1.send hZ hS hm (by omega) h5 h7).mono ?_
 rintro e w' ⟨rfl,hst,hw⟩;exact ⟨rfl,bs,cs,hw,h2.stay hst (fun k hk=>hk) (fun k hk=>hk),⟨h5,ξ1A h7 (hst _ (List.mem_append_right _ h5))⟩,h8,(hst _ (List.mem_append_left _ h8)).trans h9⟩
theorem PC.add {g0 xb:Nat} (h:PC w W b Z m k sv Y g0 xb) {O:Obj} {g cap:Nat}
 (hown:W1.ownsRow w.heap.size 38 6 (.slice (some ⟨g,0,none⟩) (m+1) cap) (m+1) (Audit.flat Y++Audit.pc (pkM m g0))) (hg:(W.alloc O).grownBy W1 sv.ownBlock) (hl:sv.ownBlock=some g∨g=W.heap.size+1) (hgl:g<W1.heap.size) :
 LC w W1 b Z (m+1) k (.slice (some ⟨g,0,none⟩) (m+1) cap) (Y++[pkM m g0]):=by
 obtain ⟨bs,cs,h1,h2,⟨h5,h7⟩,_⟩:=h;obtain ⟨ks,new,q1,q2,q3,q4,q5⟩:=h2.add h1.zw.dis h1.zw.lt h5 h7 hown hg hl hgl;exact ⟨_,_,h1.own q1 q2 q3 new q4,q5⟩
theorem LC.calm (hZ:Z.Ok) (h:LC w W b Z m k sv Y) (hm:0<m) (hk:k<=2000) :
 Calls prog 13 #[.pointer (some ⟨b,0,none⟩)] W fun e w'=>∃ r:Int,e=.returned (.int .i64 r)/\∃ f tm,LD w w' b Z m sv Y f tm:=by
 obtain ⟨bs,cs,h1,h2⟩:=h;refine (h1.calm hZ hm hk).mono ?_
 rintro e w' ⟨r,rfl,hst,f,tm,M',hz,hc⟩;exact ⟨r,rfl,f,tm,bs,cs,M',hz,hc,h2.stay hst (fun k hk=>hk) (fun k hk=>hk)⟩
structure Fin (w W:World) (Z:Zp) (m f:Nat) (sv:Value) (a:Option Addr) (c:Nat):Prop where
 bel:Below w.heap.size w W
 fm:f<m
 fr:Z.at'=Z.rt->f=0
 gs:∃ gs cc,sv=.slice (some ⟨gs,0,none⟩) m cc
 at':∀ i,i<m - f->∃ g g1 n1 c1 gs cc g2 c2,a=some ⟨g,0,none⟩/\sv=.slice (some ⟨gs,0,none⟩) m cc/\W.cell? ⟨g,i*6,none⟩=some (.int .i64 (i:Int))/\W.cell? ⟨g,i*6+5,none⟩=some (.slice g1 n1 c1)/\W.cell? ⟨gs,(f+i)*6+5,none⟩=some (.slice g2 2 c2)/\Arg W g1 n1 (LP.pL (f+i))/\Arg W g2 2 (LP.pL (f+i))
theorem ξ7b {a:Option Addr} {n:Nat} {L:List Nat} (h:Arg W a n L) (r:Nat):Arg (W.drewN r) a n L:=h
theorem Fin.drewN {f:Nat} {a:Option Addr} {c:Nat} (h:Fin w W Z m f sv a c) (q:Nat):Fin w (W.drewN q) Z m f sv a c:=⟨below_drewN' h.bel q,h.fm,h.fr,h.gs,h.at'⟩
theorem LD.got (hZ:Z.Ok) (hS:Z.S=LP.pkN) {f:Nat} {tm:Int} (h:LD w W b Z m sv Y f tm) :
 Calls prog 14 #[.pointer (some ⟨b,0,none⟩),.int .i64 1] W fun e w'=>∃ a c,e=.returned (.tuple #[.slice a (m - f) c,.nilIface])/\Fin w w' Z m f sv a c:=by
 obtain ⟨bs,cs,M,h1,h2,h3⟩:=h;refine (h2.got hZ h1).mono ?_
 rintro e w' ⟨a,c,g,rfl,⟨o,hg⟩,⟨r1,r2⟩,hst,hb⟩;have hs:=h3.stay hst (fun k hk=>hk) (fun k hk=>hk)
 have hfm:=h2.fm
 refine ⟨a,c,rfl,hb,hfm,h2.fr,?_,fun i hi=>?_⟩
 ·obtain ⟨gs,cc,_,_,e,_⟩:=hs.at (j:=0) (by omega)
  exact ⟨gs,cc,e⟩
 ·obtain ⟨gs,cc,g2,c2,e2,e3,e4⟩:=hs.at (j:=f+i) (by omega)
  obtain ⟨g0,a',n',c',e5,⟨k0,_,_,_,_,k5⟩,hA⟩:=ξfa hg (j:=i) (by omega)
  obtain ⟨q1,q2⟩:=r2 i hi;have e6:g.getD i pk0=g[i]:=by rw [Ξa,Ξd (by omega)];rfl
  rw [e6] at q1 q2;rw [q1] at k0;have hA':Arg w' a' n' (LP.pL (f+i)):=by
   have e7:LP.pL (f+i)=g[i].L:=by rw [q2,hS];rfl
   rw [e7];exact hA
  exact ⟨g0,a',n',c',gs,cc,some ⟨g2,0,none⟩,c2,e5,e2,k0,k5,e3,hA',e4⟩
end
end Go.Proofs.YtpiamlgmadnepaaGreat.MS
