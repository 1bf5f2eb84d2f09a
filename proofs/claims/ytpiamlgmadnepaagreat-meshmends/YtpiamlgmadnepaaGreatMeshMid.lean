/-
 MeshJ, MeshK, MeshL, MeshN, MeshO, MeshP in one text.
-/
import Derived.Test.YtpiamlgmadnepaaGreatMeshAll
import Derived.Deep.AppendLies
open Go.Proofs.Tryz
set_option linter.unusedVariables false
set_option maxHeartbeats 4000000
set_option maxRecDepth 100000
namespace Go.Proofs.YtpiamlgmadnepaaGreat.MS
open Go.ChangeShapes Go.WideShapes Go.ChangeAt Go.RowKit Go.Maps Mem NO ND
structure MOk (M:Ms):Prop where
 n1:1<=M.n
 n16:M.n<=16
 nw:0<=M.nw/\M.nw<=1000000
 nd:∀ i,i<M.n->NdOk M.n (M.nd i)/\(M.nd i).lt=[]/\(M.nd i).nw<=M.nw/\(M.nd i).id=(i:Int)
theorem ξ7N {N:Nd} {i:Nat} {t:Tr} {p:RM.Pk} {og h now:Int}:(N.tookG i t p og h now).lt.length<=N.lt.length+t.kids.length:=by
 unfold Nd.tookG;split
 ·show (N.lt++_).length<=_
  rw [Ξh];have:=ξ5F t.kids (FM.ffault t.tk og t.ep h (pby p.s p.t p.l p.q p.st p.L)) (fby t.tk og t.ep h (pby p.s p.t p.l p.q p.st p.L))
  omega
 ·exact Nat.le_add_right _ _
theorem ξbH (t:Tr) (kd:Int) (L:List Int):(L.flatMap (againL t kd)).length<=L.length:=by
 induction L with
 | nil=>simp
 | cons x L ih=>simp only [List.flatMap_cons,Ξh,List.length_cons];have:=ξ4L t kd x;omega
theorem ξef {n:Nat} {N:Nd} (h:NdOk n N) {fr now:Int} {bv:Value} {m:Msg} (hm:m.ok) (hf:Fits N fr m):(N.hear fr now bv m).lt.length<=N.lt.length+200:=by
 cases m with
 | fr tk og ep hp p=>
   obtain ⟨m1,m2,_⟩:=hm;obtain ⟨t,ht⟩:=hf;obtain ⟨i,hi,_,ei,hti⟩:=ξ3y m1 m2 ht;have hk:=(h.tr i hi t hti).kl
   rw [ξ2H ht];split
   ·show (N.tookG _ t _ og (hp+1) now).lt.length<=_
    have:=ξ7N (N:=N) (i:=(tk - 1).toNat) (t:=t) (p:=p.lies bv) (og:=og) (h:=hp+1) (now:=now)
    omega
   ·omega
 | lost tk L=>
   obtain ⟨t,ht,hk⟩:=hf;rw [ξ2k ht hk];show (N.lt++_).length<=_
   rw [Ξh];have:=ξbH t fr L
   have:=hm.2
   omega
 | key tk v=>
   obtain ⟨t,ht,hk⟩:=hf;rw [ξ47 ht hk];show (N.lt++_).length<=_
   rw [Ξh];split<;>simp
theorem NdOk.hear {n:Nat} {N:Nd} (h:NdOk n N) {fr now:Int} {bv:Value} {m:Msg} (hm:m.ok) (hf:Fits N fr m) (h0:N.nw<=now) (h1:now<=1000000):NdOk n (N.hear fr now bv m):=by
 cases m with
 | fr tk og ep hp p=>
   obtain ⟨m1,m2,m3,m4,m5⟩:=hm;obtain ⟨t,ht⟩:=hf;obtain ⟨i,hi,_,ei,hti⟩:=ξ3y m1 m2 ht;rw [ξ2H ht];split
   ·have k:=(h.later h0 h1).took hi (t:=t) hti (p:=p.lies bv) (og:=og) (hp:=hp+1) m4
    rw [ei];have e:({ N.tookG i t (p.lies bv) og (hp+1) now with nw:=now }:Nd)=({ N with nw:=now }:Nd).tookG i t (p.lies bv) og (hp+1) now:=by
     unfold Nd.tookG;split<;>rfl
    rw [e];exact k
   ·exact h
 | lost tk L=>
   obtain ⟨t,ht,hk⟩:=hf;rw [ξ2k ht hk];exact (h.later h0 h1).letters _
 | key tk v=>
   obtain ⟨t,ht,hk⟩:=hf;rw [ξ47 ht hk];exact (h.later h0 h1).letters _
theorem ξeg {N:Nd} {fr now:Int} {bv:Value} {m:Msg}:(N.hear fr now bv m).id=N.id:=by
 cases m with
 | fr tk og ep hp p=>
   simp only [Nd.hear]
   split
   ·rfl
   ·split
    ·show (N.tookG _ _ _ _ _ _).id=_
     unfold Nd.tookG;split<;>rfl
    ·rfl
 | lost tk L=>
   simp only [Nd.hear]
   split
   ·rfl
   ·split<;>rfl
 | key tk v=>
   simp only [Nd.hear]
   split
   ·rfl
   ·split<;>rfl
theorem ξee {N:Nd} {fr now:Int} {bv:Value} {m:Msg} (h:N.nw<=now):(N.hear fr now bv m).nw<=now:=by
 cases m with
 | fr tk og ep hp p=>
   simp only [Nd.hear]
   split
   ·exact h
   ·split
    ·exact Int.le_refl _
    ·exact h
 | lost tk L=>
   simp only [Nd.hear]
   split
   ·exact h
   ·split
    ·exact Int.le_refl _
    ·exact h
 | key tk v=>
   simp only [Nd.hear]
   split
   ·exact h
   ·split
    ·exact Int.le_refl _
    ·exact h
def Ms.land (M:Ms) (i:Nat) (f:Fl) (m:Msg) (bv:Value):Ms:=({ M with fl:=M.fl.eraseIdx i,nd:=updN M.nd f.tw.toNat ((M.nd f.tw.toNat).hear f.fr M.nw bv m) }:Ms).out f.tw.toNat
structure Lands (M:Ms) (f:Fl) (m:Msg):Prop where
 t0:0<=f.tw
 tn:f.tw<M.n
 by':f.B=m.by
 ok:m.ok
 fit:Fits (M.nd f.tw.toNat) f.fr m
theorem MOk.out {M:Ms} {i:Nat} (hi:i<M.n) (h1:1<=M.n) (h16:M.n<=16) (hw:0<=M.nw/\M.nw<=1000000) (hn:∀ j,j<M.n->NdOk M.n (M.nd j)/\(j≠i->(M.nd j).lt=[])/\(M.nd j).nw<=M.nw/\(M.nd j).id=(j:Int)):MOk (M.out i):=by
 refine ⟨h1,h16,hw,?_⟩
 intro j hj;obtain ⟨k1,k2,k3,k4⟩:=hn j hj;show NdOk M.n (updN M.nd i _ j)/\(updN M.nd i _ j).lt=[]/\(updN M.nd i _ j).nw<=M.nw/\(updN M.nd i _ j).id=_
 by_cases c:j=i
 ·subst c;rw [ξ9];exact ⟨k1.letters _,rfl,k3,k4⟩
 ·rw [ξf _ _ c];exact ⟨k1,k2 c,k3,k4⟩
theorem MOk.land {M:Ms} (h:MOk M) {i:Nat} {f:Fl} {m:Msg} (hL:Lands M f m) (bv:Value):MOk (M.land i f m bv):=by
 have ht:f.tw.toNat<M.n:=by have:=hL.t0;have:=hL.tn;omega
 refine MOk.out (M:={ M with fl:=M.fl.eraseIdx i,nd:=updN M.nd f.tw.toNat ((M.nd f.tw.toNat).hear f.fr M.nw bv m) }) ht h.n1 h.n16 h.nw ?_
 intro j hj;obtain ⟨k1,k2,k3,k4⟩:=h.nd j hj;show NdOk M.n (updN M.nd _ _ j)/\(j≠_->(updN M.nd _ _ j).lt=[])/\(updN M.nd _ _ j).nw<=M.nw/\(updN M.nd _ _ j).id=_
 by_cases c:j=f.tw.toNat
 ·subst c;rw [ξ9];exact ⟨NdOk.hear k1 hL.ok hL.fit k3 h.nw.2,fun e=>absurd rfl e,ξee k3,ξeg.trans k4⟩
 ·rw [ξf _ _ c];exact ⟨k1,fun _=>k2,k3,k4⟩
theorem ξe6 (b:Nat) (o:Nat->Tg) (P:MP) (M:Ms) (i:Int) (w:World) (h:MAt w o b P M) (hi:i<0∨(M.fl.length:Int)<=i) :
 Calls prog 41 #[.pointer (some ⟨b,0,none⟩),.int .i64 i] w fun e w'=>e=.returned (errv 1)/\Below w.heap.size w w':=by
 have C:=ξ0 (ξ7R b o P M i w h hi)
 have q1:=ξr 1
 have q2:=ξq 1
 rw [show decide (1=0)=false from rfl,Bool.not_false] at q1;obtain ⟨ev,hev⟩:∃ ev,errv 1=ev:=⟨_,rfl⟩;rw [hev] at C q1 q2 ⊢;clear h hi hev;go_enter func41,ntmps41
 go_wp2_with fail
 refine C.out.mono ?_
 rintro e w1 ⟨rfl,hb⟩;have HB:=ξ0 hb
 clear hb C;go_wp2_with fail
 go_ret
 exact ⟨rfl,HB.out.alloc HB.out.size _⟩
theorem ξ2W (b:Nat) (o:Nat->Tg) (P:MP) (M:Ms) (i:Nat) (f:Fl) (m:Msg) (w:World) (h:MAt w o b P M) (hK:MOk M) (hf:M.fl[i]?=some f) (hL:Lands M f m) (hl:M.fl.length<=500000) :
 Calls prog 41 #[.pointer (some ⟨b,0,none⟩),.int .i64 (i:Int)] w fun e w'=>e=.returned .nilIface/\∃ bv,MDone w w' o b (M.land i f m bv):=by
 have h16:=h.n16
 obtain ⟨t,ht⟩:∃ t:Nat,f.tw=(t:Int):=⟨f.tw.toNat,by have:=hL.t0;omega⟩
 have htN:f.tw.toNat=t:=by rw [ht];rfl
 have htn:t<M.n:=by have:=hL.tn;omega
 obtain ⟨kN,kL,kW,kI⟩:=hK.nd t htn;have hfit:Fits (M.nd t) f.fr m:=by have:=hL.fit;rwa [htN] at this
 have CT:=ξ1p b o P M i f w h hf
 obtain ⟨M1,hM1⟩:∃ M1:Ms,{ M with fl:=M.fl.eraseIdx i }=M1:=⟨_,rfl⟩;obtain ⟨rb,rc,hnv,_⟩:=h.nptr htn
 -- behind take: the box of what flew, and what stands there
 obtain ⟨A1,hA1⟩:∃ A1:World->Nat->Value->World->Prop,(fun w2 pb bv W=>∃ o1 P1,MAt W o1 b P1 M1/\P1.nv=P.nv/\P1.nb=P.nb/\ξm W o1 bv f.B/\Cap bv/\Keep w o o1/\Chg o meshy w W/\FBox W pb f.fr f.tw bv/\o1 pb=ξ2)=A1:=⟨_,rfl⟩
 have hA1e:∀ w2 pb bv W,A1 w2 pb bv W↔∃ o1 P1,MAt W o1 b P1 M1/\P1.nv=P.nv/\P1.nb=P.nb/\ξm W o1 bv f.B/\Cap bv/\Keep w o o1/\Chg o meshy w W/\FBox W pb f.fr f.tw bv/\o1 pb=ξ2:=fun w2 pb bv W=>by rw [<- hA1]
 have HT:Hid (Calls prog 88 #[.pointer (some ⟨b,12,none⟩),.int .i64 (i:Int)] w fun e w'=>∃ a k c,e=.returned (.tuple #[.agg #[.int .i64 f.fr,.int .i64 f.tw,.slice a k c],.nilIface])/\Hid (∀ W,W=(w'.alloc (.cells #[.int .i64 f.fr,.int .i64 f.tw,.slice a k c] 167)).drew->A1 w' w'.heap.size (.slice a k c) W)):=by
  refine ξ0 (CT.mono ?_)
  rintro e w' ⟨a,k,c,rfl,o1,v1,g1,g2,g3,g4,g5⟩;refine ⟨a,k,c,rfl,ξ0 ?_⟩
  rintro W rfl;have hb:Below w'.heap.size w' (w'.alloc (.cells #[.int .i64 f.fr,.int .i64 f.tw,.slice a k c] 167)).drew:=((Ξp _ _).alloc (Ξo _) _).drew
  rw [hM1] at g1;refine (hA1e _ _ _ _).2 ⟨grow o1 w' ξ2,_,g1.grow hb ξ2,rfl,rfl,g2.chg (S:=fun _=>False) (Chg.of_below hb _ _) (fun g hg=>hg.elim) (ξ3 _ _ _),g3,Keep.of_ext (g4.trans (ξ3 _ _ _) g5.size),(ξ23 g5).trans' (Chg.of_below hb _ _),heap_alloc_new w' _,ξh (Ξo _)⟩
 have hn1:M1.n=M.n:=by rw [<- hM1]
 have hS:∀ w2 pb bv W,A1 w2 pb bv W->W.cell? ⟨b,1,none⟩=some (.slice (some ⟨rb,0,none⟩) M.n rc)/\W.cell? ⟨rb,t,none⟩=some (.pointer (some ⟨P.nb t,0,none⟩))/\W.cell? ⟨pb,0,none⟩=some (.int .i64 f.fr)/\W.cell? ⟨pb,1,none⟩=some (.int .i64 (t:Int))/\W.cell? ⟨pb,2,none⟩=some bv:=by
  intro w2 pb bv W hA;obtain ⟨o1,P1,g1,g2,g3,_,_,_,_,g4,_⟩:=(hA1e _ _ _ _).1 hA;obtain ⟨rb',rc',e,hc⟩:=g1.nptr (i:=t) (by rw [hn1];exact htn)
  have c1:=g1.cells.2.1
  rw [g2,hnv] at c1 e;rw [hn1] at e;cases e
  have hct:=hc t (by rw [hn1];exact htn)
  rw [g3] at hct;obtain ⟨x0,x1,x2⟩:=g4.cells;rw [ht] at x1;exact ⟨c1,hct,x0,x1,x2⟩
 have HNow:Hid (∀ w2 pb bv W,A1 w2 pb bv W->Calls prog 46 #[.pointer (some ⟨b,0,none⟩)] W fun e w'=>e=.returned (.int .i64 M.nw)/\(w'.cell? ⟨b,1,none⟩=some (.slice (some ⟨rb,0,none⟩) M.n rc)/\w'.cell? ⟨rb,t,none⟩=some (.pointer (some ⟨P.nb t,0,none⟩))/\w'.cell? ⟨pb,0,none⟩=some (.int .i64 f.fr)/\w'.cell? ⟨pb,1,none⟩=some (.int .i64 (t:Int))/\w'.cell? ⟨pb,2,none⟩=some bv)/\Hid (A1 w2 pb bv w'/\True)):=by
  refine ξ0 ?_
  intro w2 pb bv W hA;obtain ⟨o1,P1,g1,g2,g3,g4,g5,g6,g7,g8,g9⟩:=(hA1e _ _ _ _).1 hA;refine (ξ1V b o1 P1 M1 W g1).mono ?_
  rintro e w' ⟨rfl,hb⟩;have hA':A1 w2 pb bv w':=(hA1e _ _ _ _).2 ⟨grow o1 W ξ2,P1,g1.grow hb ξ2,g2,g3,g4.chg (S:=fun _=>False) (Chg.of_below hb _ _) (fun g hg=>hg.elim) (ξ3 _ _ _),g5,g6.trans (Keep.of_ext (ξ3 o1 W ξ2)) g7.size,Chg.keep g7 (Chg.of_below hb o1 _) g6,(hb.block pb (lt_of_block g8)).trans g8,by rw [ξw (lt_of_block g8)];exact g9⟩
  exact ⟨by rw [<- hM1],hS _ _ _ _ hA',ξ0 ⟨hA',trivial⟩⟩
 -- behind Hear
 obtain ⟨A2,hA2⟩:∃ A2:World->Prop,(fun W=>∃ bv,MDone w W o b { M1 with nd:=updN M1.nd t ((M.nd t).hear f.fr M.nw bv m) })=A2:=⟨_,rfl⟩
 have hA2e:∀ W,A2 W↔∃ bv,MDone w W o b { M1 with nd:=updN M1.nd t ((M.nd t).hear f.fr M.nw bv m) }:=fun W=>by rw [<- hA2]
 have HHear:Hid (∀ w2 pb a k c W,Hid (A1 w2 pb (.slice a k c) W/\True)->Calls prog 89 #[.pointer (some ⟨P.nb t,0,none⟩),.int .i64 f.fr,.slice a k c,.int .i64 M.nw] W fun e w'=>∃ ef,e=.returned (errv ef)/\(w'.cell? ⟨b,1,none⟩=some (.slice (some ⟨rb,0,none⟩) M.n rc)/\w'.cell? ⟨rb,t,none⟩=some (.pointer (some ⟨P.nb t,0,none⟩))/\w'.cell? ⟨pb,0,none⟩=some (.int .i64 f.fr)/\w'.cell? ⟨pb,1,none⟩=some (.int .i64 (t:Int))/\w'.cell? ⟨pb,2,none⟩=some (.slice a k c))/\Hid (A2 w')):=by
  refine ξ0 ?_
  intro w2 pb a k c W hA0;have hA:=hA0.out.1
  obtain ⟨o1,P1,g1,g2,g3,g4,g5,g6,g7,g8,g9⟩:=(hA1e _ _ _ _).1 hA;have hnd1:M1.nd=M.nd:=by rw [<- hM1]
  have gN:=g1.nds t (by rw [hn1];exact htn)
  rw [hnd1] at gN;obtain ⟨a',m',c',ev,hAr,hz⟩:=g4;cases ev
  have hcp:=g5 a k c rfl
  have C:=ξcN M.n (t+1) (P1.nb t) o1 (P1.np t) (M.nd t) f.fr M.nw m a k c W (by omega) gN kN (by rw [kL];simp) kW hK.nw.2 hL.ok hfit (by rw [<- hL.by'];exact hAr) hcp.1
  rw [g3] at C;refine C.mono ?_
  rintro e w' ⟨ef,bv,rfl,hd⟩;rw [<- g3] at hd;obtain ⟨o2,P2,r1,r2,r3,r4,r5,r6,r7⟩:=g1.node (i:=t) (by rw [hn1];exact htn) hd
  have hb8:FBox w' pb f.fr f.tw (.slice a k c):=r7.block g8 (by rw [g9];unfold mine;show ¬ (0=t+1);omega)
  refine ⟨ef,rfl,?_,ξ0 ((hA2e _).2 ⟨bv,o2,P2,r1,g6.trans (Keep.of_ext r6) g7.size,Chg.keep g7 (ξ16 r7 (by omega) (by omega)) g6⟩)⟩
  obtain ⟨rb',rc',e,hc⟩:=r1.nptr (i:=t) (show t<M1.n by rw [hn1];exact htn)
  have c1:=r1.cells.2.1
  rw [r3,g2,hnv] at c1;rw [r3,g2,hnv,show ({ M1 with nd:=updN M1.nd t ((M.nd t).hear f.fr M.nw bv m) }:Ms).n=M.n from hn1] at e;cases e
  have hct:=hc t (show t<M1.n by rw [hn1];exact htn)
  rw [r2,g3] at hct;obtain ⟨x0,x1,x2⟩:=hb8.cells;rw [ht] at x1;exact ⟨c1,hct,x0,x1,x2⟩
 have HOut:Hid (∀ W,A2 W->Calls prog 47 #[.pointer (some ⟨b,0,none⟩),.int .i64 (t:Int)] W fun e w'=>e=.returned (.tuple #[])/\Hid (∃ bv,MDone w w' o b (M.land i f m bv))):=by
  refine ξ0 ?_
  intro W hA;obtain ⟨bv,o2,P2,r1,r2,r3⟩:=(hA2e _).1 hA;have hle:=ξef (n:=M.n) kN (fr:=f.fr) (now:=M.nw) (bv:=bv) hL.ok hfit
  refine (ξ3m b t o2 P2 _ W r1 (show t<M1.n by rw [hn1];exact htn) (by
   show M1.fl.length+(updN M1.nd t ((M.nd t).hear f.fr M.nw bv m) t).lt.length<=_
   rw [ξ9,<- hM1];show (M.fl.eraseIdx i).length+_<=_
   rw [kL] at hle;have:=List.length_eraseIdx_le M.fl i
   simp at hle
   omega)).mono ?_
  rintro e w' ⟨rfl,hd⟩;obtain ⟨o3,P3,s1,s2,s3⟩:=hd;refine ⟨rfl,ξ0 ⟨bv,o3,P3,?_,r2.trans s2 r3.size,Chg.keep r3 s3 r2⟩⟩
  unfold Ms.land;rw [htN];rw [<- hM1] at s1;exact s1
 obtain ⟨fr,hfr⟩:∃ z,f.fr=z:=⟨_,rfl⟩;obtain ⟨nw,hnw⟩:∃ z,M.nw=z:=⟨_,rfl⟩;obtain ⟨nn,hnn⟩:∃ z,M.n=z:=⟨_,rfl⟩;obtain ⟨nb,hnb⟩:∃ z,P.nb t=z:=⟨_,rfl⟩;rw [ht] at HT;rw [hfr] at HT HNow HHear hS;rw [hnw] at HNow HHear;rw [hnn] at HNow HHear hS htn;rw [hnb] at HNow HHear hS;have HS:=ξ0 hS
 obtain ⟨R,hR⟩:∃ R:World->Prop,(fun W=>∃ bv,MDone w W o b (M.land i f m bv))=R:=⟨_,rfl⟩
 have hRe:∀ W,(∃ bv,MDone w W o b (M.land i f m bv))=R W:=fun W=>by rw [<- hR]
 simp only [hRe] at HOut ⊢
 have htz:(t:Int)<(nn:Int):=by omega
 clear h hK hf hL hl h16 htN kN kL kW kI hfit CT hM1 hnv hA1 hA1e hn1 hS hA2 hA2e hfr hnw hnn hnb hR hRe htn ht;go_enter func41,ntmps41
 go_wp2_with fail
 refine HT.out.mono ?_
 rintro e w1 ⟨a,k,c,rfl,HA0⟩;obtain ⟨W1,hW1⟩:∃ W1,w1.alloc (.cells #[.int .i64 fr,.int .i64 (t:Int),.slice a k c] 167)=W1:=⟨_,rfl⟩;have hAd:=HA0.out W1.drew (by rw [<- hW1])
 obtain ⟨pb,hpb⟩:∃ pb,w1.heap.size=pb:=⟨_,rfl⟩;rw [hpb] at hAd;have S0:=HS.out _ _ _ _ hAd
 have HAd:=ξ0 hAd
 have HW1:=ξ0 hW1
 have CN:=ξ0 (HNow.out w1 pb (.slice a k c) W1.drew hAd)
 have CH:=ξ0 (HHear.out w1 pb a k c)
 clear HA0 hAd hW1 HT HNow HHear HS;go_upto_region 4 with fail
 first | rw [HW1.out] | skip
 clear hpb;go_region_held3 (fun w'=>w'.cell? ⟨b,1,none⟩=some (.slice (some ⟨rb,0,none⟩) nn rc)/\w'.cell? ⟨rb,t,none⟩=some (.pointer (some ⟨nb,0,none⟩))/\w'.cell? ⟨pb,0,none⟩=some (.int .i64 fr)/\w'.cell? ⟨pb,1,none⟩=some (.int .i64 (t:Int))/\w'.cell? ⟨pb,2,none⟩=some (.slice a k c)) (with_reducible assumption) (first | (go_at_call 46;refine CN.out.mono ?_;rintro e w4 ⟨rfl,hS4,HD4⟩) | (go_at_call 89;refine (CH.out _ (by with_reducible assumption)).mono ?_;rintro e w5 ⟨ef,rfl,hS5,HD5⟩))
 obtain ⟨x1,x2,x3,x4,x5⟩:=hS5;have CO:=ξ0 (HOut.out w5 HD5.out)
 clear HOut HD5;go_wp2_with fail
 refine CO.out.mono ?_
 rintro e w6 ⟨rfl,HR⟩;go_wp2_with fail
 go_ret
 exact ⟨rfl,HR.out⟩
theorem ξl (x:Int) (w:World):Calls prog 37 #[.int .i64 x] w fun e w'=>e=.returned (.bool (okT x))/\w'=w:=by
 unfold okT;by_cases h0:1<=x
 ·by_cases h1:x<=8
  ·rw [decide_eq_true ⟨h0,h1⟩];go_enter func37,ntmps37
   go_wp2_with fail
   go_ret
   exact ⟨rfl,rfl⟩
  ·rw [decide_eq_false (fun h=>h1 h.2)]
   go_enter func37,ntmps37
   go_wp2_with fail
   go_ret
   exact ⟨rfl,rfl⟩
 ·rw [decide_eq_false (fun h=>h0 h.1)]
  go_enter func37,ntmps37
  go_wp2_with fail
  go_ret
  exact ⟨rfl,rfl⟩
theorem ξp (b:Nat) (o:Nat->Tg) (P:MP) (M:Ms) (x:Int) (w:World) (h:MAt w o b P M):Calls prog 38 #[.pointer (some ⟨b,0,none⟩),.int .i64 x] w fun e w'=>e=.returned (.bool (decide (0<=x/\x<(M.n:Int))))/\w'=w:=by
 have c1:=h.cells.2.1
 obtain ⟨a,c,hv⟩:∃ a c,P.nv=.slice a M.n c:=by
  rcases h.nrow.2 with ⟨e,h0⟩ | ⟨g,cap,cur,e,_⟩
  ·exact ⟨none,0,by rw [e,h0]⟩
  ·exact ⟨_,_,e⟩
 rw [hv] at c1;obtain ⟨n,hn⟩:∃ n,M.n=n:=⟨_,rfl⟩;rw [hn] at c1 ⊢;clear h hv hn;by_cases h0:0<=x
 ·by_cases h1:x<(n:Int)
  ·rw [decide_eq_true ⟨h0,h1⟩];go_enter func38,ntmps38
   go_wp2_with fail
   go_ret
   exact ⟨rfl,rfl⟩
  ·rw [decide_eq_false (fun h=>h1 h.2)]
   go_enter func38,ntmps38
   go_wp2_with fail
   go_ret
   exact ⟨rfl,rfl⟩
 ·rw [decide_eq_false (fun h=>h0 h.1)]
  go_enter func38,ntmps38
  go_wp2_with fail
  go_ret
  exact ⟨rfl,rfl⟩
def Ms.send (M:Ms) (k r:Nat) (tr:Tr) (p:RM.Pk):Ms:=({ M with nd:=updN M.nd r (({ M.nd r with nw:=M.nw }:Nd).tookG k tr p (M.nd r).id 1 M.nw) }:Ms).out r
theorem MOk.send {M:Ms} (h:MOk M) {k r:Nat} {tr:Tr} {p:RM.Pk} (hk:k<8) (hr:r<M.n) (ht:(M.nd r).tr k=some tr) (hf:PM.fault p.s p.t p.l p.q p.L.length=0):MOk (M.send k r tr p):=by
 refine MOk.out (M:={ M with nd:=updN M.nd r (({ M.nd r with nw:=M.nw }:Nd).tookG k tr p (M.nd r).id 1 M.nw) }) hr h.n1 h.n16 h.nw ?_
 intro j hj;obtain ⟨k1,k2,k3,k4⟩:=h.nd j hj;show NdOk M.n (updN M.nd _ _ j)/\(j≠_->(updN M.nd _ _ j).lt=[])/\(updN M.nd _ _ j).nw<=M.nw/\(updN M.nd _ _ j).id=_
 by_cases c:j=r
 ·subst c;rw [ξ9];have e:((({ M.nd j with nw:=M.nw }:Nd).tookG k tr p (M.nd j).id 1 M.nw)).nw=M.nw/\((({ M.nd j with nw:=M.nw }:Nd).tookG k tr p (M.nd j).id 1 M.nw)).id=(M.nd j).id:=by
   unfold Nd.tookG;split<;>exact ⟨rfl,rfl⟩
  exact ⟨(k1.later k3 h.nw.2).took hk ht hf,fun e=>absurd rfl e,by rw [e.1];exact Int.le_refl _,e.2.trans k4⟩
 ·rw [ξf _ _ c];exact ⟨k1,fun _=>k2,k3,k4⟩
theorem ξP {w:World} {o:Nat->Tg} {b:Nat} {P:MP} {M:Ms} (h:MAt w o b P M) {r:Nat} (hr:r<M.n) {rb rc:Nat} (hnv:P.nv=.slice (some ⟨rb,0,none⟩) M.n rc):w.cell? ⟨b,1,none⟩=some (.slice (some ⟨rb,0,none⟩) M.n rc)/\w.cell? ⟨rb,r,none⟩=some (.pointer (some ⟨P.nb r,0,none⟩)):=by
 obtain ⟨rb',rc',e,hc⟩:=h.nptr hr;have c1:=h.cells.2.1
 rw [hnv] at e c1;cases e
 exact ⟨c1,hc r hr⟩
theorem ξ8G (b k r:Nat) (o:Nat->Tg) (P:MP) (M:Ms) (tr:Tr) (s t l q:Int) (st:Bool) (a:Option Addr) (m c:Nat) (L:List Nat) (w:World) (h:MAt w o b P M) (hK:MOk M) (hk:k<8) (hrt:M.rt k=(r:Int)) (hr:r<M.n) (ht:(M.nd r).tr k=some tr) (hpa:tr.pa=-1) (hA:Arg w a m L) (hno:a=none->m=0/\c=0) (hF:0<m->∀ ad,a=some ad->(o ad.block).n=0) (hl:M.fl.length<=500000) :
 Calls prog 12 #[.pointer (some ⟨b,0,none⟩),.int .i64 ((k:Int)+1),.agg #[.int .i64 s,.int .i64 t,.int .i64 l,.int .i64 q,.bool st,.slice a m c]] w fun e w'=>e=.returned (errv (PM.fault s t l q m))/\(PM.fault s t l q m≠0->MDone w w' o b M)/\(PM.fault s t l q m=0->MDone w w' o b (M.send k r tr ⟨s,t,l,q,st,L,.slice a m c⟩)):=by
 have h16:=h.n16
 obtain ⟨kN,kL,kW,kI⟩:=hK.nd r hr;have hnow:=ξ1Y kN.nw.1 kW hK.nw.2
 obtain ⟨rb,rc,hnv,_⟩:=h.nptr hr;have hT:=kN.tr k hk tr ht
 have CT:=ξ0 (ξl ((k:Int)+1))
 rw [show okT ((k:Int)+1)=true from by simp [okT];omega] at CT
 obtain ⟨W0,hW0⟩:∃ W0,w.alloc (.cells #[.int .i64 s,.int .i64 t,.int .i64 l,.int .i64 q,.bool st,.slice a m c] 38)=W0:=⟨_,rfl⟩;have hB0:Below w.heap.size w W0:=by rw [<- hW0];exact (Ξp _ _).alloc (Ξo _) _
 have hbx:W0.heap[w.heap.size]?=some (.cells #[.int .i64 s,.int .i64 t,.int .i64 l,.int .i64 q,.bool st,.slice a m c] 38 (0,0)):=by rw [<- hW0];exact heap_alloc_new w _
 have cr:=(h.below hB0).root hk
 rw [hrt] at cr
 -- what a world holds whose blocks are these and new ones
 have hS:∀ W,Below W0.heap.size W0 W->W.cell? ⟨b,1,none⟩=some (.slice (some ⟨rb,0,none⟩) M.n rc)/\W.cell? ⟨rb,r,none⟩=some (.pointer (some ⟨P.nb r,0,none⟩))/\(W.cell? ⟨w.heap.size,0,none⟩=some (.int .i64 s)/\W.cell? ⟨w.heap.size,1,none⟩=some (.int .i64 t)/\W.cell? ⟨w.heap.size,2,none⟩=some (.int .i64 l)/\W.cell? ⟨w.heap.size,3,none⟩=some (.int .i64 q)/\W.cell? ⟨w.heap.size,4,none⟩=some (.bool st)/\W.cell? ⟨w.heap.size,5,none⟩=some (.slice a m c)):=by
  intro W hB;obtain ⟨g1,g2⟩:=ξP ((h.below hB0).below hB) hr hnv;have hb:=(hB.block _ (lt_of_block hbx)).trans hbx
  exact ⟨g1,g2,by refine ⟨?_,?_,?_,?_,?_,?_⟩<;>simp [World.cell?,hb]⟩
 obtain ⟨A1,hA1⟩:∃ A1:World->Prop,(fun W=>Below W0.heap.size W0 W)=A1:=⟨_,rfl⟩
 have hA1e:∀ W,A1 W↔Below W0.heap.size W0 W:=fun W=>by rw [<- hA1]
 have HNow:Hid (∀ W,A1 W->Calls prog 46 #[.pointer (some ⟨b,0,none⟩)] W fun e w'=>e=.returned (.int .i64 M.nw)/\(w'.cell? ⟨b,1,none⟩=some (.slice (some ⟨rb,0,none⟩) M.n rc)/\w'.cell? ⟨rb,r,none⟩=some (.pointer (some ⟨P.nb r,0,none⟩))/\(w'.cell? ⟨w.heap.size,0,none⟩=some (.int .i64 s)/\w'.cell? ⟨w.heap.size,1,none⟩=some (.int .i64 t)/\w'.cell? ⟨w.heap.size,2,none⟩=some (.int .i64 l)/\w'.cell? ⟨w.heap.size,3,none⟩=some (.int .i64 q)/\w'.cell? ⟨w.heap.size,4,none⟩=some (.bool st)/\w'.cell? ⟨w.heap.size,5,none⟩=some (.slice a m c)))/\Hid (A1 w'/\True)):=by
  refine ξ0 ?_
  intro W hA;have hB:=(hA1e W).1 hA
  refine (ξ1V b o P M W ((h.below hB0).below hB)).mono ?_
  rintro e w' ⟨rfl,hb⟩;have hB':=hB.trans (hb.mono hB.size)
  exact ⟨rfl,hS w' hB',ξ0 ⟨(hA1e _).2 hB',trivial⟩⟩
 obtain ⟨A2,hA2⟩:∃ A2:World->Prop,(fun W=>(PM.fault s t l q m≠0->MDone w W o b M)/\(PM.fault s t l q m=0->MDone w W o b { M with nd:=updN M.nd r (({ M.nd r with nw:=M.nw }:Nd).tookG k tr ⟨s,t,l,q,st,L,.slice a m c⟩ (M.nd r).id 1 M.nw) }))=A2:=⟨_,rfl⟩
 have hA2e:∀ W,A2 W↔(PM.fault s t l q m≠0->MDone w W o b M)/\(PM.fault s t l q m=0->MDone w W o b { M with nd:=updN M.nd r (({ M.nd r with nw:=M.nw }:Nd).tookG k tr ⟨s,t,l,q,st,L,.slice a m c⟩ (M.nd r).id 1 M.nw) }):=fun W=>by rw [<- hA2]
 have HSend:Hid (∀ W,Hid (A1 W/\True)->Calls prog 45 #[.pointer (some ⟨P.nb r,0,none⟩),.int .i64 ((k:Int)+1),.agg #[.int .i64 s,.int .i64 t,.int .i64 l,.int .i64 q,.bool st,.slice a m c],.int .i64 M.nw] W fun e w'=>e=.returned (errv (PM.fault s t l q m))/\(w'.cell? ⟨b,1,none⟩=some (.slice (some ⟨rb,0,none⟩) M.n rc)/\w'.cell? ⟨rb,r,none⟩=some (.pointer (some ⟨P.nb r,0,none⟩))/\(w'.cell? ⟨w.heap.size,0,none⟩=some (.int .i64 s)/\w'.cell? ⟨w.heap.size,1,none⟩=some (.int .i64 t)/\w'.cell? ⟨w.heap.size,2,none⟩=some (.int .i64 l)/\w'.cell? ⟨w.heap.size,3,none⟩=some (.int .i64 q)/\w'.cell? ⟨w.heap.size,4,none⟩=some (.bool st)/\w'.cell? ⟨w.heap.size,5,none⟩=some (.slice a m c)))/\Hid (A2 w')):=by
  refine ξ0 ?_
  intro W hA0;have hB:=(hA1e W).1 hA0.out.1
  have hBt:Below w.heap.size w W:=hB0.trans (hB.mono hB0.size)
  have hMW:=h.grow hBt ξ2
  have gN:=hMW.nds r hr
  by_cases hf:PM.fault s t l q m=0
  ·have hAW:Arg W a m L:=hA.below hBt
   have C:=ξc4 (r+1) (P.nb r) k (grow o w ξ2) (P.np r) (M.nd r) tr M.nw s t l q st a m c L W (by omega) gN hk ht hpa hnow hT.gi hT.ri hAW hno hf (fun hm ad e=>by
    have:=hF hm ad e
    unfold NO.grow;split
    ·exact this
    ·rfl) (M.nd r).nw (ξa5 kN kW hK.nw.2) kN.si (by rw [kL];have:=hT.kl;simp;omega)
   rw [hf];refine C.mono ?_
   rintro e w' ⟨rfl,hd⟩;obtain ⟨o2,P2,r1,r2,r3,r4,r5,r6,r7⟩:=hMW.node (i:=r) hr hd;have hc2:Chg o meshy w w':=(Chg.of_below hBt o meshy).trans (ξ16 r7 (by omega) (by omega)) (ξ3 _ _ _)
   refine ⟨rfl,?_,ξ0 ((hA2e _).2 ⟨fun hx=>absurd hf hx,fun _=>⟨o2,P2,r1,Keep.of_ext ((ξ3 o w ξ2).trans r6 hBt.size),hc2⟩⟩)⟩
   have hb:w'.heap[w.heap.size]?=some (.cells #[.int .i64 s,.int .i64 t,.int .i64 l,.int .i64 q,.bool st,.slice a m c] 38 (0,0)):=r7.block ((hB.block _ (lt_of_block hbx)).trans hbx) (by rw [ξh (Ξo _)];unfold mine;show ¬ (0=r+1);omega)
   obtain ⟨g1,g2⟩:=ξP r1 (r:=r) (show r<M.n from hr) (show P2.nv=.slice (some ⟨rb,0,none⟩) M.n rc by rw [r3];exact hnv)
   rw [r2] at g2;exact ⟨g1,g2,by refine ⟨?_,?_,?_,?_,?_,?_⟩<;>simp [World.cell?,hb]⟩
  ·refine (ξa3 (r+1) (P.nb r) k (grow o w ξ2) (P.np r) (M.nd r) tr M.nw s t l q st a m c W gN hk ht hpa hnow hf).mono ?_
   rintro e w' ⟨rfl,hb⟩;refine ⟨rfl,hS w' (hB.trans (hb.mono hB.size)),ξ0 ((hA2e _).2 ⟨fun _=>MDone.refl h (hBt.trans (hb.mono hBt.size)),fun hx=>absurd hx hf⟩)⟩
 have HOut:Hid (∀ W,A2 W->PM.fault s t l q m=0->Calls prog 47 #[.pointer (some ⟨b,0,none⟩),.int .i64 (r:Int)] W fun e w'=>e=.returned (.tuple #[])/\Hid (MDone w w' o b (M.send k r tr ⟨s,t,l,q,st,L,.slice a m c⟩))):=by
  refine ξ0 ?_
  intro W hA hf;obtain ⟨o2,P2,r1,r2,r3⟩:=((hA2e _).1 hA).2 hf;have hle:=ξ7N (N:=({ M.nd r with nw:=M.nw }:Nd)) (i:=k) (t:=tr) (p:=⟨s,t,l,q,st,L,.slice a m c⟩) (og:=(M.nd r).id) (h:=1) (now:=M.nw)
  have hkl:=hT.kl
  refine (ξ3m b r o2 P2 _ W r1 hr (by
   show M.fl.length+(updN M.nd r _ r).lt.length<=_
   rw [ξ9];have e:({ M.nd r with nw:=M.nw }:Nd).lt.length=0:=by show (M.nd r).lt.length=0;rw [kL];rfl
   omega)).mono ?_
  rintro e w' ⟨rfl,hd⟩;obtain ⟨o3,P3,s1,s2,s3⟩:=hd;exact ⟨rfl,ξ0 ⟨o3,P3,s1,r2.trans s2 r3.size,Chg.keep r3 s3 r2⟩⟩
 have HBad:Hid (∀ W,A2 W->PM.fault s t l q m≠0->MDone w W o b M):=ξ0 (fun W hA=>((hA2e W).1 hA).1)
 have S0:=hS W0.drew ((Ξp _ _).drew)
 have HA0:Hid (A1 W0.drew):=ξ0 ((hA1e _).2 ((Ξp _ _).drew))
 obtain ⟨f,hff⟩:∃ f,PM.fault s t l q m=f:=⟨_,rfl⟩;rw [hff] at HSend HOut HBad ⊢;obtain ⟨nw,hnw⟩:∃ z,M.nw=z:=⟨_,rfl⟩;obtain ⟨nn,hnn⟩:∃ z,M.n=z:=⟨_,rfl⟩;obtain ⟨nb,hnb⟩:∃ z,P.nb r=z:=⟨_,rfl⟩;rw [hnw] at HNow HSend;rw [hnn] at HNow HSend S0 hr;rw [hnb] at HNow HSend S0;obtain ⟨R,hR⟩:∃ R,M.send k r tr ⟨s,t,l,q,st,L,.slice a m c⟩=R:=⟨_,rfl⟩;rw [hR] at HOut ⊢;have CN:=ξ0 (HNow.out W0.drew HA0.out)
 have q1:=ξr f
 have q2:=ξq f
 obtain ⟨hk3,hk5,hk4⟩:=ξ2B hk;have hrz:(r:Int)<(nn:Int):=Int.ofNat_lt.2 hr
 have hrn:((r:Int)==-1)=false:=by simp
 have HW:=ξ0 hW0
 obtain ⟨pb,hpb⟩:∃ pb,w.heap.size=pb:=⟨_,rfl⟩;rw [hpb] at S0 CN HSend;clear h hK hrt ht hpa hA hno hF hl h16 kN kL kW kI hnow hnv hT hW0 hB0 hbx hS hA1 hA1e hA2 hA2e HA0 hff hnw hnn hnb hR hr HNow hk;go_enter func12,ntmps12
 go_upto_region 1 with fail
 rw [HW.out];go_wp2_with fail
 refine (CT.out _).mono ?_
 rintro e w1 ⟨rfl,hw1⟩;obtain rfl:W0=w1:=hw1.symm;go_upto_region 6 with fail
 clear hpb cr;go_region_held3 (fun w'=>w'.cell? ⟨b,1,none⟩=some (.slice (some ⟨rb,0,none⟩) nn rc)/\w'.cell? ⟨rb,r,none⟩=some (.pointer (some ⟨nb,0,none⟩))/\(w'.cell? ⟨pb,0,none⟩=some (.int .i64 s)/\w'.cell? ⟨pb,1,none⟩=some (.int .i64 t)/\w'.cell? ⟨pb,2,none⟩=some (.int .i64 l)/\w'.cell? ⟨pb,3,none⟩=some (.int .i64 q)/\w'.cell? ⟨pb,4,none⟩=some (.bool st)/\w'.cell? ⟨pb,5,none⟩=some (.slice a m c))) (with_reducible assumption) (first | (go_at_call 46;refine CN.out.mono ?_;rintro e w4 ⟨rfl,hS4,HD4⟩) | (go_at_call 45;refine (HSend.out _ (by with_reducible assumption)).mono ?_;rintro e w5 ⟨rfl,hS5,HD5⟩))
 clear hS5 S0 CN HSend hS4 HD4;by_cases hf0:f=0
 ·have d0:decide (f=0)=true:=by simpa using hf0
  have CO:=ξ0 (HOut.out w5 HD5.out hf0)
  have HF:=ξ0 hf0
  clear HOut HD5 HBad hf0;go_wp2_with fail
  refine CO.out.mono ?_
  rintro e w6 ⟨rfl,HR⟩;go_wp2_with fail
  go_ret
  exact ⟨by rw [HF.out];rfl,fun hx=>absurd HF.out hx,fun _=>HR.out⟩
 ·have d0:decide (f=0)=false:=by simpa using hf0
  have HR:=ξ0 (HBad.out w5 HD5.out hf0)
  have HF:=ξ0 hf0
  clear HOut HD5 HBad hf0;go_wp2_with fail
  go_ret
  exact ⟨rfl,fun _=>HR.out,fun hx=>absurd hx HF.out⟩
def outs (i:Nat) (l:List (Int×List Nat)):List Fl:=l.map fun l=>⟨(i:Int),l.1,l.2⟩
def Ms.ticked (M:Ms) (now:Int) (j:Nat):Ms:={ M with nw:=now,nd:=fun k=>if k<j then { (M.nd k).tick now with lt:=[] } else M.nd k,fl:=M.fl++(List.range j).flatMap fun k=>outs k ((M.nd k).tick now).lt }
theorem ξ7f (M:Ms) (now:Int):M.ticked now 0={ M with nw:=now }:=by
 unfold Ms.ticked;simp
theorem ξ9T (M:Ms) (now:Int) (j:Nat):(M.ticked now j).nd j=M.nd j:=if_neg (Nat.lt_irrefl j)
theorem ξ7g (M:Ms) (now:Int) (j:Nat):({ M.ticked now j with nd:=updN (M.ticked now j).nd j ((M.nd j).tick now) }:Ms).out j=M.ticked now (j+1):=by
 unfold Ms.out Ms.ticked;simp only [ξ9,List.range_succ,List.flatMap_append,List.flatMap_cons,List.flatMap_nil,Ξu,<- List.append_assoc]
 congr 1
 funext k
 by_cases c:k=j
 ·subst c;rw [ξ9,if_pos (Nat.lt_succ_self k)]
 ·rw [ξf _ _ c,ξf _ _ c];by_cases c2:k<j
  ·rw [if_pos c2,if_pos (by omega)]
  ·rw [if_neg c2,if_neg (by omega)]
theorem ξ7Q (N:Nd) (now:Int):(N.tick now).nw=now/\(N.tick now).id=N.id/\(N.tick now).lt.length<=N.lt.length+8+N.sb.length:=by
 unfold Nd.tick;obtain ⟨a1,a2,a3,a4,a5,a6,a7,a8⟩:=ξ1m ({ N with nw:=now }:Nd) now 8;obtain ⟨b1,b2,b3,b4,b5,b6⟩:=ξ2g now (((({ N with nw:=now }:Nd).asksG now 8).pops now).sb) ((({ N with nw:=now }:Nd).asksG now 8).pops now);refine ⟨b1.trans a1,b2.trans a2,?_⟩
 refine Nat.le_trans b6 ?_
 have e:((({ N with nw:=now }:Nd).asksG now 8).pops now).sb.length=N.sb.length:=by
  show (popS now _).length=_
  unfold popS;rw [Ξm];exact asks_len now 8
 rw [e];exact Nat.add_le_add_right a8 _
 where
 asks_len {N:Nd} (now:Int):∀ j,(N.asksG now j).sb.length=N.sb.length
  | 0=>rfl
  | j+1=>by
    have ih:=asks_len (N:=N) now j
    show ((N.asksG now j).askG j now).sb.length=_
    rw [<- ih];unfold Nd.askG;split
    ·rfl
    ·split
     ·rfl
     ·simp [ξ6f]
theorem ξcn (M:Ms) (now:Int):∀ j,(∀ k,k<j->((M.nd k).tick now).lt.length<=28)->((List.range j).flatMap fun k=>outs k ((M.nd k).tick now).lt).length<=28*j:=by
 intro j
 induction j with
 | zero=>intro _;simp
 | succ j ih=>
   intro h;rw [List.range_succ,List.flatMap_append,Ξh];have:=ih (fun k hk=>h k (by omega))
   have:=h j (by omega)
   simp [outs] at *
   omega
theorem MOk.tick28 {M:Ms} (h:MOk M) (now:Int) {k:Nat} (hk:k<M.n):((M.nd k).tick now).lt.length<=28:=by
 obtain ⟨k1,k2,k3,k4⟩:=h.nd k hk;have h1:=(ξ7Q (M.nd k) now).2.2
 have h2:=k1.si.len
 rw [k2] at h1;have e:([]:List (Int×List Nat)).length=0:=rfl
 omega
theorem MOk.ticked {M:Ms} (h:MOk M) {now:Int} (h0:M.nw<=now) (h1:now<=1000000) (j:Nat):MOk (M.ticked now j):=by
 refine ⟨h.n1,h.n16,⟨Int.le_trans h.nw.1 h0,h1⟩,?_⟩
 intro i hi;obtain ⟨k1,k2,k3,k4⟩:=h.nd i hi;show NdOk M.n (if i<j then { (M.nd i).tick now with lt:=[] } else M.nd i)/\(if i<j then { (M.nd i).tick now with lt:=[] } else M.nd i).lt=[]/\(if i<j then { (M.nd i).tick now with lt:=[] } else M.nd i).nw<=now/\(if i<j then { (M.nd i).tick now with lt:=[] } else M.nd i).id=_
 obtain ⟨t1,t2,_⟩:=ξ7Q (M.nd i) now;split
 ·exact ⟨(k1.tick (Int.le_trans k3 h0) h1).letters _,rfl,by show ((M.nd i).tick now).nw<=now;rw [t1];exact Int.le_refl _,t2.trans k4⟩
 ·exact ⟨k1,k2,Int.le_trans k3 h0,k4⟩
theorem MAt.setBox {w:World} {o:Nat->Tg} {b:Nat} {P:MP} {M:Ms} (h:MAt w o b P M) (j:Nat) (v:Value) (M':Ms) (hm:∀ cs,MCells cs P M->MCells (cs.setIfInBounds j v) P M') (e1:M'.n=M.n) (e2:M'.nd=M.nd) (e3:M'.E=M.E) (e4:M'.sb=M.sb) (e5:M'.fl=M.fl):MAt (w.setCell ⟨b,j,none⟩ v) o b P M'/\Chg o meshy w (w.setCell ⟨b,j,none⟩ v):=by
 have ho:Only [b] w (w.setCell ⟨b,j,none⟩ v):=(Only.refl _ _).setCell (by simp) _
 obtain ⟨cs,h1,h2⟩:=h.box;have hc:Chg o (fun g=>g=⟨1000,0,0⟩) w (w.setCell ⟨b,j,none⟩ v):=Chg.of_only ho (fun k hk=>by simp at hk;subst hk;exact h.tag) (fun k hk=>by simp at hk;subst hk;exact h.nobB)
 have no:∀ c j,(c,j)≠((0:Nat),(0:Int))->¬ ((⟨1000,c,j⟩:Tg)=⟨1000,0,0⟩):=fun c j hne e=>hne (by cases e;rfl)
 refine ⟨⟨by rw [e1];exact h.n16,?_,h.tag,by rw [e1];exact ξG h.nrow hc h.nrt (no _ _ (by decide)),h.nrt,?_,by rw [e3];exact ξ1z h.edg hc h.edt (no _ _ (by decide)),by rw [e3];exact h.edc,by rw [e3];exact h.edt,by rw [e4];exact ξG h.srow hc h.srt (no _ _ (by decide)),h.srt,by rw [e5];exact h.fly.chg hc h.flt (no _ _ (by decide)) (fun g hg=>by subst hg;decide) (Ext.refl _ _),h.flt⟩,hc.mono (fun t ht=>by subst ht;unfold meshy;decide)⟩
 ·exact ⟨_,Gaps.setb h1 j v,hm cs h2⟩
 ·intro i hi;have h16:=h.n16
  rw [e1] at hi;rw [e2];exact (h.nds i hi).chg hc (fun g hg=>by subst hg;exact ⟨by decide,by show 1000≠i+1;omega⟩) (Ext.refl _ _)
theorem MAt.setNow {w:World} {o:Nat->Tg} {b:Nat} {P:MP} {M:Ms} (h:MAt w o b P M) (x:Int):MAt (w.setCell ⟨b,0,none⟩ (.int .i64 x)) o b P { M with nw:=x }/\Chg o meshy w (w.setCell ⟨b,0,none⟩ (.int .i64 x)):=by
 refine h.setBox 0 (.int .i64 x) _ ?_ rfl rfl rfl rfl rfl
 intro cs h2;have hs:=h2.sz
 refine ⟨by simpa using hs,?_,?_,?_,?_,?_,?_⟩
 ·rw [Array.getElem?_setIfInBounds_self_of_lt (by omega)]
 ·rw [Ξc (by omega)];exact h2.c1
 ·rw [Ξc (by omega)];exact h2.c2
 ·intro i hi;rw [Ξc (by omega)]
  exact h2.cr i hi
 ·rw [Ξc (by omega)];exact h2.c11
 ·rw [Ξc (by omega)];exact h2.c12
theorem ξ8z (b:Nat) (o:Nat->Tg) (P:MP) (M:Ms) (by':Int) (w:World) (h:MAt w o b P M) (hK:MOk M) (h1:1<=by') (h2:by'<=1000) (h3:M.nw+by'<=1000000) (hg:∀ i,i<M.n->NoGive (M.nd i) (M.nw+by')) (hl:M.fl.length<=500000) :
 Calls prog 44 #[.pointer (some ⟨b,0,none⟩),.int .i64 by'] w fun e w'=>e=.returned .nilIface/\MDone w w' o b (M.ticked (M.nw+by') M.n):=by
 have h16:=h.n16
 have hnn0:=hK.nw.1
 obtain ⟨now,hnow⟩:∃ now,M.nw+by'=now:=⟨_,rfl⟩
 have hw:IntKind.i64.wrap (M.nw+by')=now:=by rw [hnow,IntKind.wrap_i64];omega
 rw [hnow] at h3 hg ⊢;have hle:M.nw<=now:=by omega
 obtain ⟨rb,rc,hnv,_⟩:=h.nptr (i:=0) hK.n1;have hdn:=fun j=>ξ9T M now j
 obtain ⟨D,hD⟩:∃ D:World->Nat->Prop,(fun W j=>∃ o' P',MAt W o' b P' (M.ticked now j)/\Keep w o o'/\Chg o meshy w W/\P'.nv=P.nv/\P'.nb=P.nb)=D:=⟨_,rfl⟩
 have hDe:∀ W j,D W j↔∃ o' P',MAt W o' b P' (M.ticked now j)/\Keep w o o'/\Chg o meshy w W/\P'.nv=P.nv/\P'.nb=P.nb:=fun W j=>by rw [<- hD]
 obtain ⟨D1,hD1⟩:∃ D1:World->Nat->Prop,(fun W j=>∃ o' P',MAt W o' b P' { M.ticked now j with nd:=updN (M.ticked now j).nd j ((M.nd j).tick now) }/\Keep w o o'/\Chg o meshy w W/\P'.nv=P.nv/\P'.nb=P.nb)=D1:=⟨_,rfl⟩
 have hD1e:∀ W j,D1 W j↔∃ o' P',MAt W o' b P' { M.ticked now j with nd:=updN (M.ticked now j).nd j ((M.nd j).tick now) }/\Keep w o o'/\Chg o meshy w W/\P'.nv=P.nv/\P'.nb=P.nb:=fun W j=>by rw [<- hD1]
 obtain ⟨A1,hA1⟩:∃ A1:World->Prop,(fun W=>Below w.heap.size w W)=A1:=⟨_,rfl⟩
 have hA1e:∀ W,A1 W↔Below w.heap.size w W:=fun W=>by rw [<- hA1]
 obtain ⟨Z,hZ⟩:∃ Z:Obj,Obj.cells #[.int .i64 0] 89=Z:=⟨_,rfl⟩;obtain ⟨A2,hA2⟩:∃ A2:World->Nat->Prop,(fun W pb=>Below w.heap.size w W/\W.heap[pb]?=some Z/\w.heap.size<=pb)=A2:=⟨_,rfl⟩
 have hA2e:∀ W pb,A2 W pb↔Below w.heap.size w W/\W.heap[pb]?=some Z/\w.heap.size<=pb:=fun W pb=>by rw [<- hA2]
 obtain ⟨A3,hA3⟩:∃ A3:World->Nat->Prop,(fun W pb=>Below w.heap.size w W/\W.cell? ⟨pb,0,none⟩=some (.int .i64 now))=A3:=⟨_,rfl⟩
 have hA3e:∀ W pb,A3 W pb↔Below w.heap.size w W/\W.cell? ⟨pb,0,none⟩=some (.int .i64 now):=fun W pb=>by rw [<- hA3]
 have hnew:∀ W:World,A1 W->A2 (W.alloc Z) W.heap.size:=by
  intro W hA;have hB:=(hA1e W).1 hA
  exact (hA2e _ _).2 ⟨hB.alloc hB.size _,heap_alloc_new W Z,hB.size⟩
 have h21:∀ W pb,A2 W pb->A1 W:=fun W pb hA=>(hA1e _).2 ((hA2e _ _).1 hA).1
 have hdr:∀ W,A1 W->A1 W.drew:=fun W hA=>(hA1e _).2 ((hA1e _).1 hA).drew
 have hdr2:∀ W pb,A2 W pb->A2 W.drew pb:=fun W pb hA=>(hA2e _ _).2 ⟨((hA2e _ _).1 hA).1.drew,((hA2e _ _).1 hA).2⟩
 have hc0:∀ W,A1 W->W.cell? ⟨b,0,none⟩=some (.int .i64 M.nw):=fun W hA=>(h.below ((hA1e _).1 hA)).cells.1
 have HN1:Hid (∀ W,Hid (A1 W)->Calls prog 46 #[.pointer (some ⟨b,0,none⟩)] W fun e w'=>e=.returned (.int .i64 M.nw)/\w'.cell? ⟨b,0,none⟩=some (.int .i64 M.nw)/\(w'.alloc Z).cell? ⟨b,0,none⟩=some (.int .i64 M.nw)/\Hid (A1 w')/\Hid (A2 (w'.alloc Z) w'.heap.size)):=by
  refine ξ0 ?_
  intro W hA;have hB:=(hA1e W).1 hA.out
  refine (ξ1V b o P M W (h.below hB)).mono ?_
  rintro e w' ⟨rfl,hb⟩;have hA':=(hA1e _).2 (hB.trans (hb.mono hB.size))
  exact ⟨rfl,hc0 _ hA',hc0 _ (h21 _ _ (hnew _ hA')),ξ0 hA',ξ0 (hnew _ hA')⟩
 have HN2:Hid (∀ W pb,Hid (A2 W pb)->Calls prog 46 #[.pointer (some ⟨b,0,none⟩)] W fun e w'=>e=.returned (.int .i64 M.nw)/\w'.cell? ⟨b,0,none⟩=some (.int .i64 M.nw)/\Hid (A2 w' pb)):=by
  refine ξ0 ?_
  intro W pb hA;obtain ⟨hB,hz,hp⟩:=(hA2e W pb).1 hA.out;refine (ξ1V b o P M W (h.below hB)).mono ?_
  rintro e w' ⟨rfl,hb⟩;have hB':=hB.trans (hb.mono hB.size)
  exact ⟨rfl,(h.below hB').cells.1,ξ0 ((hA2e _ _).2 ⟨hB',(hb.block _ (lt_of_block hz)).trans hz,hp⟩)⟩
 have HT1:Hid (∀ W,Hid (A1 W)->Calls prog 66 #[.agg #[.int .i64 M.nw],.int .i64 (IntKind.i64.wrap (M.nw+by'))] W fun e w'=>e=.returned (.tuple #[.agg #[.int .i64 now],.nilIface])/\w'.cell? ⟨b,0,none⟩=some (.int .i64 M.nw)/\(w'.alloc Z).cell? ⟨b,0,none⟩=some (.int .i64 M.nw)/\(w'.alloc (.cells #[.int .i64 now] 89)).cell? ⟨b,0,none⟩=some (.int .i64 M.nw)/\Hid (A3 (w'.alloc (.cells #[.int .i64 now] 89)) w'.heap.size)):=by
  refine ξ0 ?_
  intro W hA;have hB:=(hA1e W).1 hA.out
  rw [hw];refine (Gaps.ξ1r M.nw now W (ξ1Y hnn0 hle h3)).mono ?_
  rintro e w' ⟨rfl,hb⟩;have hB':=hB.trans (hb.mono hB.size)
  refine ⟨rfl,(h.below hB').cells.1,(h.below (hB'.alloc hB'.size _)).cells.1,(h.below (hB'.alloc hB'.size _)).cells.1,ξ0 ((hA3e _ _).2 ⟨hB'.alloc hB'.size _,?_⟩)⟩
  have:=heap_alloc_new w' (.cells #[.int .i64 now] 89)
  simp only [World.cell?,this]
  rfl
 have HT2:Hid (∀ W pb,Hid (A2 W pb)->Calls prog 66 #[.agg #[.int .i64 M.nw],.int .i64 (IntKind.i64.wrap (M.nw+by'))] W fun e w'=>e=.returned (.tuple #[.agg #[.int .i64 now],.nilIface])/\w'.cell? ⟨b,0,none⟩=some (.int .i64 M.nw)/\(w'.setCell ⟨pb,0,none⟩ (.int .i64 now)).cell? ⟨b,0,none⟩=some (.int .i64 M.nw)/\w'.cell? ⟨pb,0,none⟩=some (.int .i64 0)/\w'.frozen? ⟨pb,0,none⟩=false/\Hid (A3 (w'.setCell ⟨pb,0,none⟩ (.int .i64 now)) pb)):=by
  refine ξ0 ?_
  intro W pb hA;obtain ⟨hB,hz,hp⟩:=(hA2e W pb).1 hA.out;rw [hw];refine (Gaps.ξ1r M.nw now W (ξ1Y hnn0 hle h3)).mono ?_
  rintro e w' ⟨rfl,hb⟩;have hB':=hB.trans (hb.mono hB.size)
  have hz':=(hb.block _ (lt_of_block hz)).trans hz
  rw [<- hZ] at hz';have hz2:=Gaps.setb hz' 0 (.int .i64 now)
  have hB2:Below w.heap.size w (w'.setCell ⟨pb,0,none⟩ (.int .i64 now)):=hB'.setCell hp _
  refine ⟨rfl,(h.below hB').cells.1,(h.below hB2).cells.1,?_,?_,ξ0 ((hA3e _ _).2 ⟨hB2,?_⟩)⟩
  ·simp only [World.cell?,hz']
   rfl
  ·simp only [World.frozen?,hz']
   rfl
  ·simp only [World.cell?,hz2]
   rfl
 have HSet:Hid (∀ W pb,A3 W pb->W.cell? ⟨b,0,none⟩=some (.int .i64 M.nw)/\W.frozen? ⟨b,0,none⟩=false/\W.cell? ⟨pb,0,none⟩=some (.int .i64 now)/\Hid (D (W.setCell ⟨b,0,none⟩ (.int .i64 now)) 0)):=by
  refine ξ0 ?_
  intro W pb hA;obtain ⟨hB,hc⟩:=(hA3e _ _).1 hA;have hM:=h.below hB
  obtain ⟨g1,g2⟩:=hM.setNow now;refine ⟨hM.cells.1,hM.free 0,hc,ξ0 ((hDe _ _).2 ⟨o,P,?_,Keep.of_ext (Ext.refl _ _),(Chg.of_below hB _ _).trans' g2,rfl,rfl⟩)⟩
  rw [ξ7f];exact g1
 have HRow:Hid (∀ W j,D W j->W.cell? ⟨b,1,none⟩=some (.slice (some ⟨rb,0,none⟩) M.n rc)/\(j<M.n->W.cell? ⟨rb,j,none⟩=some (.pointer (some ⟨P.nb j,0,none⟩)))):=by
  refine ξ0 ?_
  intro W j hA;obtain ⟨o1,P1,g1,g2,g3,g4,g5⟩:=(hDe _ _).1 hA;have c1:=g1.cells.2.1
  rw [g4,hnv] at c1;refine ⟨c1,fun hj=>?_⟩
  obtain ⟨x1,x2⟩:=ξP g1 (r:=j) (show j<M.n from hj) (show P1.nv=.slice (some ⟨rb,0,none⟩) M.n rc by rw [g4];exact hnv)
  rw [g5] at x2;exact x2
 have HNow:Hid (∀ W j,D W j->Calls prog 46 #[.pointer (some ⟨b,0,none⟩)] W fun e w'=>e=.returned (.int .i64 now)/\Hid (D w' j)):=by
  refine ξ0 ?_
  intro W j hA;obtain ⟨o1,P1,g1,g2,g3,g4,g5⟩:=(hDe _ _).1 hA;refine (ξ1V b o1 P1 _ W g1).mono ?_
  rintro e w' ⟨rfl,hb⟩;exact ⟨rfl,ξ0 ((hDe _ _).2 ⟨o1,P1,g1.below hb,g2,Chg.keep g3 (Chg.of_below hb o1 _) g2,g4,g5⟩)⟩
 have HTick:Hid (∀ W j,D W j->j<M.n->Calls prog 91 #[.pointer (some ⟨P.nb j,0,none⟩),.int .i64 now] W fun e w'=>e=.returned .nilIface/\Hid (D1 w' j)):=by
  refine ξ0 ?_
  intro W j hA hj;obtain ⟨o1,P1,g1,g2,g3,g4,g5⟩:=(hDe _ _).1 hA;obtain ⟨kN,kL,kW,kI⟩:=hK.nd j hj;have gN:=g1.nds j (show j<M.n from hj)
  rw [hdn j] at gN;have C:=ξbW M.n (j+1) (P1.nb j) o1 (P1.np j) (M.nd j) now W (by omega) gN kN (Int.le_trans kW hle) h3 (hg j hj) (by rw [kL];simp)
  rw [g5] at C;refine C.mono ?_
  rintro e w' ⟨rfl,hd⟩;rw [<- g5] at hd;obtain ⟨o2,P2,r1,r2,r3,r4,r5,r6,r7⟩:=g1.node (i:=j) (show j<M.n from hj) hd;exact ⟨rfl,ξ0 ((hD1e _ _).2 ⟨o2,P2,r1,g2.trans (Keep.of_ext r6) g3.size,Chg.keep g3 (ξ16 r7 (by omega) (by omega)) g2,r3.trans g4,r2.trans g5⟩)⟩
 have HOut:Hid (∀ W j,D1 W j->j<M.n->Calls prog 47 #[.pointer (some ⟨b,0,none⟩),.int .i64 (j:Int)] W fun e w'=>e=.returned (.tuple #[])/\Hid (D w' (j+1))):=by
  refine ξ0 ?_
  intro W j hA hj;obtain ⟨o1,P1,g1,g2,g3,g4,g5⟩:=(hD1e _ _).1 hA;have l1:=ξcn M now j (fun k hk=>hK.tick28 now (by omega))
  have l2:=hK.tick28 now hj
  refine (ξ3l b j o1 P1 _ W g1 (show j<M.n from hj) (by
   show (M.fl++(List.range j).flatMap fun k=>outs k ((M.nd k).tick now).lt).length+(updN (M.ticked now j).nd j _ j).lt.length<=_
   rw [ξ9,Ξh];omega)).mono ?_
  rintro e w' ⟨rfl,hd⟩;obtain ⟨o3,P3,s1,s2,s3,s4,s5⟩:=hd;rw [ξ7g] at s1;exact ⟨rfl,ξ0 ((hDe _ _).2 ⟨o3,P3,s1,g2.trans s2 g3.size,Chg.keep g3 s3 g2,s4.trans g4,s5.trans g5⟩)⟩
 have HFin:Hid (∀ W,D W M.n->MDone w W o b (M.ticked now M.n)):=by
  refine ξ0 ?_
  intro W hA;obtain ⟨o1,P1,g1,g2,g3,_⟩:=(hDe _ _).1 hA;exact ⟨o1,P1,g1,g2,g3⟩
 have hA0:A1 w:=(hA1e _).2 (Ξp _ _)
 have c0:=hc0 _ hA0
 have HA0d:Hid (A1 w.drew):=ξ0 (hdr _ hA0)
 have c0d:=hc0 _ HA0d.out
 have HA1d:Hid (A2 (w.drew.alloc Z) w.drew.heap.size):=ξ0 (hnew _ HA0d.out)
 have HA2d:Hid (A2 (w.alloc Z).drew w.heap.size):=ξ0 (hdr2 _ _ (hnew _ hA0))
 have c0e:=hc0 _ (h21 _ _ HA2d.out)
 obtain ⟨nw,hnw⟩:∃ z,M.nw=z:=⟨_,rfl⟩;obtain ⟨nn,hnn⟩:∃ z,M.n=z:=⟨_,rfl⟩;rw [hnw] at HN1 HN2 HT1 HT2 HSet c0 c0d c0e;obtain ⟨R,hR⟩:∃ R:World->Prop,(fun W=>MDone w W o b (M.ticked now M.n))=R:=⟨_,rfl⟩
 have hRe:∀ W,MDone w W o b (M.ticked now M.n)=R W:=fun W=>by rw [<- hR]
 simp only [hRe] at HFin ⊢
 rw [hnn] at HRow HTick HOut HFin;have hn16:nn<=16:=by omega
 obtain ⟨nb,hnb⟩:∃ nb:Nat->Nat,P.nb=nb:=⟨_,rfl⟩;rw [hnb] at HRow HTick;clear h hK h3 hg hl h16 hnn0 hle hnv hdn hD hDe hD1 hD1e hA1 hA1e hA2 hA2e hA3 hA3e hR hRe hnw hnn hnb hnow hw hA0 hc0 hnew h21 hdr hdr2;have hq1:¬ by'<1:=by omega
 have hq2:¬ 1000<by':=by omega
 subst hZ;go_enter func44,ntmps44
 go_upto_region 3 with fail
 go_cut [5,6] from 17 to 28 (fun x5 x6 wx=>∃ pb,x5=.pointer (some ⟨pb,0,none⟩)/\x6=.nilIface/\Hid (A3 wx pb))
 case first=>
  go_region_held3 (fun w'=>w'.cell? ⟨b,0,none⟩=some (.int .i64 nw)) (first | (with_reducible assumption) | (with_reducible exact Pack.ξk (by assumption) _)) (first | (go_at_call 46;first | (with_reducible refine (HN1.out _ HA0d).mono ?_;rintro e w4 ⟨rfl,hS4,hS4b,HD4,HD4b⟩) | (with_reducible refine (HN2.out _ _ HA1d).mono ?_;rintro e w4 ⟨rfl,hS4,HE4⟩) | (with_reducible refine (HN2.out _ _ HA2d).mono ?_;rintro e w4 ⟨rfl,hS4,HE4⟩)) | (go_at_call 66;first | (with_reducible refine (HT1.out _ HD4).mono ?_;rintro e w5 ⟨rfl,hS5,hS5b,hS5c,HD5⟩) | (with_reducible refine (HT2.out _ _ HE4).mono ?_;rintro e w5 ⟨rfl,hS5,hS5b,hz5,hf5,HE5⟩) | (with_reducible refine (HT2.out _ _ HD4b).mono ?_;rintro e w5 ⟨rfl,hS5,hS5b,hz5,hf5,HE5⟩)))
  all_goals (go_wp2_with fail)
  all_goals go_meet
  all_goals (first | exact ⟨_,rfl,rfl,HD5⟩ | exact ⟨_,rfl,rfl,HE5⟩)
 case rest=>
  obtain ⟨pb,rfl,rfl,HA3⟩:=hcut;obtain ⟨wA,rfl⟩:∃ z,z=wc:=⟨_,rfl⟩;obtain ⟨a0,af,ap,HD0⟩:=HSet.out wA pb HA3.out;obtain ⟨W1,hW1⟩:∃ W1,wA.setCell ⟨b,0,none⟩ (.int .i64 now)=W1:=⟨_,rfl⟩;rw [hW1] at HD0;have cr:=(HRow.out W1 0 HD0.out).1
  have HW1:=ξ0 hW1
  clear hW1 HA3 HSet HN1 HN2 HT1 HT2 HA0d HA1d HA2d c0 c0d c0e;go_upto_region 7 with fail
  rw [HW1.out];clear a0 af ap HW1;go_wp2_with fail
  go_loopg [41] nn (fun g x wx=>∃ j:Nat,j+g=nn/\x=.int .i64 (j:Int)/\Hid (D wx j))
  case atStart=>exact ⟨0,by omega,rfl,HD0⟩
  case round=>
   obtain ⟨j,hjg,rfl,HD⟩:=hrel;by_cases hj:j<nn
   ·have hjz:(j:Int)<(nn:Int):=by omega
    have ck:=(HRow.out wr j HD.out).2 hj
    have CN:=ξ0 (HNow.out wr j HD.out)
    obtain ⟨nj,hnj⟩:∃ nj,nb j=nj:=⟨_,rfl⟩;have CT:=ξ0 (fun W hW=>HTick.out W j hW hj)
    have CO:=ξ0 (fun W hW=>HOut.out W j hW hj)
    rw [hnj] at ck CT;clear HD cr hnj;go_wp2_with fail
    refine CN.out.mono ?_
    rintro e w3 ⟨rfl,HD3⟩;clear CN;go_wp2_with fail
    refine (CT.out w3 HD3.out).mono ?_
    rintro e w4 ⟨rfl,HD4⟩;clear CT HD3;go_wp2_with fail
    refine (CO.out w4 HD4.out).mono ?_
    rintro e w5 ⟨rfl,HD5⟩;clear CO HD4;go_wp2_with fail
    go_roundg (nn - (j+1))
    case measure=>omega
    case rel=>exact ⟨j+1,by omega,by go_num,HD5⟩
   ·have hjz:¬ (j:Int)<(nn:Int):=by omega
    obtain rfl:nn=j:=by omega
    have HDn:=ξ0 (HFin.out wr HD.out)
    clear HD HFin HRow HNow HTick HOut;go_wp2_with fail
    go_ret
    exact ⟨rfl,HDn.out⟩
def stag (g:Tg):Prop:=g=⟨1000,0,0⟩∨g=⟨1000,3,0⟩
theorem ξ6c {g:Tg} (h:stag g):g.n=1000:=by rcases h with rfl | rfl<;>rfl
theorem ξ8E {o:Nat->Tg} {w w':World} (h:Chg o stag w w'):Chg o meshy w w':=h.mono (fun t ht=>by unfold meshy;rw [ξ6c ht];decide)
theorem ξdG (l:List (Int×Int)) (x y:Int):sbc (l++[(x,y)])=sbc l++[.int .i64 x,.int .i64 y]:=by simp [sbc]
theorem ξdF (l:List (Int×Int)):∀ (j:Nat) (x:Int×Int),l[j]?=some x->(sbc l)[j*2]?=some (.int .i64 x.1)/\(sbc l)[j*2+1]?=some (.int .i64 x.2):=by
 induction l with
 | nil=>intro j x h;simp at h
 | cons y l ih=>
   intro j x h;have e:sbc (y::l)=.int .i64 y.1::.int .i64 y.2::sbc l:=rfl
   cases j with
   | zero=>
     rw [List.getElem?_cons_zero] at h;cases h
     exact ⟨rfl,rfl⟩
   | succ j=>
     have:=ih j x (by simpa using h)
     rw [e,show (j+1)*2=j*2+1+1 by omega]
     simpa using this
theorem MCells.setS {cs:Array Value} {P:MP} {M:Ms} (h:MCells cs P M) (v:Value) (F:List (Int×Int)):MCells (cs.setIfInBounds 11 v) { P with sv:=v } { M with sb:=F }:=by
 have hs:=h.sz
 refine ⟨by simpa using h.sz,?_,?_,?_,?_,?_,?_⟩
 ·rw [Ξc (by omega)];exact h.c0
 ·rw [Ξc (by omega)];exact h.c1
 ·rw [Ξc (by omega)];exact h.c2
 ·intro i hi;rw [Ξc (by omega)]
  exact h.cr i hi
 ·rw [Array.getElem?_setIfInBounds_self_of_lt (by omega)]
 ·rw [Ξc (by omega)];exact h.c12
theorem MAt.sne {w:World} {o:Nat->Tg} {b:Nat} {P:MP} {M:Ms} (h:MAt w o b P M):∀ k,P.sv.ownBlock=some k->k≠b:=by
 intro k hk e;have:=h.srt k (by simp [hk])
 rw [e,h.tag] at this;cases this
theorem ξ9W {W w1 w2:World} {o:Nat->Tg} {b:Nat} {P:MP} {M:Ms} {g cap:Nat} {x y:Int} (h:MAt W o b P M) (hb:Below W.heap.size W w1) (hown:w2.ownsRow 0 104 2 (.slice (some ⟨g,0,none⟩) (M.sb.length+1) cap) (M.sb.length+1) (sbc M.sb++[.int .i64 x,.int .i64 y])) (hgrow:w1.grownBy w2 P.sv.ownBlock) (hat:P.sv.ownBlock=some g∨W.heap.size<=g) :
 w2.cell? ⟨b,11,none⟩=some P.sv/\w2.frozen? ⟨b,11,none⟩=false/\(w2.setCell ⟨b,11,none⟩ (.slice (some ⟨g,0,none⟩) (M.sb.length+1) cap)).cell? ⟨b,11,none⟩=some (.slice (some ⟨g,0,none⟩) (M.sb.length+1) cap)/\MDone W (w2.setCell ⟨b,11,none⟩ (.slice (some ⟨g,0,none⟩) (M.sb.length+1) cap)) o b { M with sb:=M.sb++[(x,y)] }:=by
 obtain ⟨cs,h1,h2⟩:=h.box;obtain ⟨v',hv'⟩:∃ v',Value.slice (some ⟨g,0,none⟩) (M.sb.length+1) cap=v':=⟨_,rfl⟩;have hvo:v'.ownBlock=some g:=by rw [<- hv'];rfl
 rw [hv'] at hown ⊢;have hne:=h.sne
 have ho:Only P.sv.ownBlock.toList W w2:=(Only.of_below hb _).grown hgrow (by intro k hk;simp [hk])
 have hb2:w2.heap[b]?=some (.cells cs 96 (0,0)):=ho.block h1 (fun hm=>hne b (by simpa using hm) rfl)
 have hO:Only (b::P.sv.ownBlock.toList) W (w2.setCell ⟨b,11,none⟩ v'):=(ho.mono (fun k hk=>List.mem_cons_of_mem _ hk)).setCell (by simp) _
 have hc:Chg o stag W (w2.setCell ⟨b,11,none⟩ v'):=by
  refine Chg.of_only hO ?_ ?_
  ·intro k hk;rcases Ξf.1 hk with rfl | hk
   ·exact .inl h.tag
   ·exact .inr (h.srt k hk)
  ·intro k hk;rcases Ξf.1 hk with rfl | hk
   ·exact h.nobB
   ·rcases h.srow.2 with ⟨e,_⟩ | ⟨g',cap',cur,e,_,hg,_⟩
    ·rw [e] at hk;simp [Value.ownBlock] at hk
    ·rw [e] at hk;simp [Value.ownBlock] at hk
     subst hk;exact ξj hg (by decide)
 obtain ⟨o',ho'⟩:∃ o',grow o W ⟨1000,3,0⟩=o':=⟨_,rfl⟩;have he:Ext W o o':=by rw [<- ho'];exact ξ3 _ _ _
 have h0:∀ g,stag g->g.n≠0:=fun g hg=>by rw [ξ6c hg];decide
 have hbs:(w2.setCell ⟨b,11,none⟩ v').heap[b]?=some (.cells (cs.setIfInBounds 11 v') 96 (0,0)):=heap_setCell_same w2 b 11 cs _ v' hb2
 have h11:=(h2.setS v' (M.sb++[(x,y)])).c11
 refine ⟨by simp [World.cell?,hb2,h2.c11],by simp [World.frozen?,hb2],by simp only [World.cell?,hbs];exact h11,o',{ P with sv:=v' },⟨h.n16,⟨_,hbs,h2.setS v' _⟩,(he _ h.lt).trans h.tag,ξG h.nrow hc h.nrt (by simp [stag]),h.nrt.ext he (fun k hk=>ξB h.nrow (by simpa using hk)),?_,ξ1z h.edg hc h.edt (by simp [stag]),h.edc,?_,?_,?_,h.fly.chg hc h.flt (by simp [stag]) h0 he,h.flt.ext he h.fly.lt⟩,Keep.of_ext he,ξ8E hc⟩
 ·intro i hi;have:=h.n16
  have hi':i<M.n:=hi
  exact (h.nds i hi).chg hc (fun g hg=>⟨h0 g hg,by rw [ξ6c hg];omega⟩) he
 ·intro ad e hm;rw [he _ (ξ28 h.edg e hm)];exact h.edt ad e hm
 ·show World.ownsRow _ 0 104 2 v' (M.sb++[(x,y)]).length (sbc (M.sb++[(x,y)]))
  rw [ξdG,Ξh];refine (Only.setCell (bs:=[b]) (Only.refl _ w2) (by simp) _).owns hown ?_
  intro k hk;rw [hvo] at hk;cases hk
  simp only [Ξg]
  rcases hat with e | e
  ·exact hne g e
  ·have:=lt_of_block h1;omega
 ·intro k hk;rw [hvo] at hk;simp at hk
  subst hk;rcases hat with e | e
  ·exact (he _ (ξB h.srow e)).trans (h.srt k (by simp [e]))
  ·rw [<- ho'];exact ξh e
def Ms.sub (M:Ms) (r:Nat) (tk mo:Int):Ms:={ M with nd:=updN M.nd r ((M.nd r).subs tk mo),sb:=M.sb++[((r:Int),(M.nd r).ls+1)] }
theorem ξ9X (b r:Nat) (o:Nat->Tg) (P:MP) (M:Ms) (tk mo:Int) (w:World) (h:MAt w o b P M) (hr:r<M.n) (hf:sF (M.nd r) tk mo=0) (hI:SInv (M.nd r).sb (M.nd r).ls) (hls:(M.nd r).ls<1000000) (hl:M.sb.length<=1000000) :
 Calls prog 9 #[.pointer (some ⟨b,0,none⟩),.int .i64 tk,.int .i64 (r:Int),.int .i64 mo] w fun e w'=>e=.returned (.tuple #[.int .i64 ((M.sb.length:Int)+1),.nilIface])/\MDone w w' o b (M.sub r tk mo):=by
 have h16:=h.n16
 have CI:=ξ0 (ξp b o P M (r:Int) w h)
 rw [decide_eq_true ⟨Int.natCast_nonneg r,Int.ofNat_lt.2 hr⟩] at CI;obtain ⟨rb,rc,hnv,hcell⟩:=h.nptr hr;obtain ⟨c1,c2⟩:=ξP h hr hnv;obtain ⟨sa,sc,hsv⟩:∃ a c,P.sv=.slice a M.sb.length c:=by
  rcases h.srow.2 with ⟨e,h0⟩ | ⟨g,cap,cur,e,_⟩
  ·exact ⟨none,0,by rw [e,h0]⟩
  ·exact ⟨_,_,e⟩
 obtain ⟨sl,hsl⟩:∃ sl,M.sb.length=sl:=⟨_,rfl⟩;obtain ⟨id,hid⟩:∃ id,(M.nd r).ls+1=id:=⟨_,rfl⟩;have CS:Hid (Calls prog 40 #[.pointer (some ⟨P.nb r,0,none⟩),.int .i64 tk,.int .i64 mo] w fun e w'=>e=.returned (.tuple #[.int .i64 id,.nilIface])/\w'.cell? ⟨b,11,none⟩=some (.slice sa sl sc)/\Hid (w'.ownsRow 0 104 2 (.slice sa sl sc) sl (sbc M.sb))/\Hid (∀ g cap w2,w2.ownsRow 0 104 2 (.slice (some ⟨g,0,none⟩) (sl+1) cap) (sl+1) (sbc M.sb++[.int .i64 (r:Int),.int .i64 id])->(w'.alloc (.cells #[.int .i64 (r:Int),.int .i64 id] 104)).grownBy w2 (Value.slice sa sl sc).ownBlock->((Value.slice sa sl sc).ownBlock=some g∨g=w'.heap.size+1)->w2.cell? ⟨b,11,none⟩=some (.slice sa sl sc)/\w2.frozen? ⟨b,11,none⟩=false/\(w2.setCell ⟨b,11,none⟩ (.slice (some ⟨g,0,none⟩) (sl+1) cap)).cell? ⟨b,11,none⟩=some (.slice (some ⟨g,0,none⟩) (sl+1) cap)/\Hid (MDone w (w2.setCell ⟨b,11,none⟩ (.slice (some ⟨g,0,none⟩) (sl+1) cap)) o b (M.sub r tk mo)))):=by
  refine ξ0 ((ξeP (r+1) (P.nb r) o (P.np r) (M.nd r) tk mo w (by omega) (h.nds r hr) hI hls hf).mono ?_)
  rintro e w' ⟨rfl,hd⟩;obtain ⟨o2,P2,r1,r2,r3,r4,r5,r6,r7⟩:=h.node (i:=r) hr hd;have c11:=r1.cells.2.2.2.1
  have row:=r1.srow
  rw [r5,hsv] at c11 row;have row:w'.ownsRow 0 104 2 (.slice sa M.sb.length sc) M.sb.length (sbc M.sb):=row
  rw [hsl] at c11 row;refine ⟨by rw [hid],c11,ξ0 row,ξ0 ?_⟩
  intro g cap w2 hown hgrow hat;rw [<- hsl] at hown hgrow hat ⊢;obtain ⟨s1,s2,s3,s4⟩:=ξ9W r1 (w1:=w'.alloc (.cells #[.int .i64 (r:Int),.int .i64 id] 104)) ((Ξp _ _).alloc (Ξo _) _) hown (by rw [r5,hsv];exact hgrow) (by
   rw [r5,hsv];rcases hat with e | e
   ·exact .inl e
   ·exact .inr (by omega))
  rw [r5,hsv] at s1;refine ⟨s1,s2,s3,ξ0 ?_⟩
  obtain ⟨o3,P3,t1,t2,t3⟩:=s4;refine ⟨o3,P3,?_,(Keep.of_ext r6).trans t2 r7.size,Chg.keep (ξ16 r7 (by omega) (by omega)) t3 (Keep.of_ext r6)⟩
  unfold Ms.sub;rw [hid];exact t1
 obtain ⟨nb,hnb⟩:∃ nb,P.nb r=nb:=⟨_,rfl⟩;obtain ⟨nn,hnn⟩:∃ nn,M.n=nn:=⟨_,rfl⟩;rw [hnb] at c2 CS;rw [hnn] at c1 hr;rw [hsl] at hl ⊢;have hrz:(r:Int)<(nn:Int):=Int.ofNat_lt.2 hr
 obtain ⟨R,hR⟩:∃ R,M.sub r tk mo=R:=⟨_,rfl⟩;rw [hR] at CS ⊢;obtain ⟨xs,hxs⟩:∃ xs,sbc M.sb=xs:=⟨_,rfl⟩;rw [hxs] at CS;obtain ⟨i0,hii,hz0,hz1,hz2⟩:∃ i0,prog.info? 104=some i0/\i0.zero=some (.agg #[.int .i64 0,.int .i64 0])/\i0.size=2/\i0.bytes=16:=⟨_,rfl,rfl,rfl,rfl⟩;clear h hnv hcell hI hf hnb hnn hr hsv hsl hid hls h16 hR hxs;go_enter func9,ntmps9
 go_wp2_with fail
 refine CI.out.mono ?_
 rintro e w1 ⟨rfl,hw1⟩;obtain rfl:w=w1:=hw1.symm;go_wp2_with fail
 refine CS.out.mono ?_
 rintro e w2 ⟨rfl,c11,HRow,HSt⟩;clear CS c1 c2 CI;go_wp2_with (at_builtin;refine wpList_append_lies _ rfl _ _ 92 rfl 0 104 i0 _ 2 16 underlying92 hii hz0 hz1 hz2 rfl (by decide) _ sl xs rfl (HRow.out.alloc _) ⟨w2.heap.size,0,none⟩ 1 1 [.int .i64 (r:Int),.int .i64 id] rfl rfl (World.news_of_block (cs:=#[.int .i64 (r:Int),.int .i64 id]) (t:=104) (fr:=(0,0)) (heap_alloc_new w2 _)) ?c2 (by omega) ?b1 ?b2 (Nat.zero_le _) (w2.heap.size+1) (by simp) ?next)
 case c2=>intro u hu;simp at hu;rcases hu with rfl | rfl<;>rfl
 case b1=>unfold maxLen;omega
 case b2=>omega
 case next=>
  intro g cap w3 hown hgrow hat _;obtain ⟨k1,k2,k3,HD⟩:=HSt.out g cap w3 hown hgrow hat;clear hown hgrow hat HSt HRow c11;go_wp2_with fail
  go_ret2
  exact ⟨by go_num,HD.out⟩
def MGave (w w':World) (o:Nat->Tg) (b:Nat) (M:Ms) (lv:Value) (G:List Pk):Prop:=∃ o' P,MAt w' o' b P M/\ξM w' o' lv G/\Own o' ξ2 lv.ownBlock.toList/\Keep w o o'/\Chg o meshy w w'
def Ms.got (M:Ms) (r:Nat) (A:List (Int×Sb)) (id:Int) (s:Sb) (B:List (Int×Sb)):Ms:={ M with nd:=updN M.nd r { M.nd r with sb:=A++(id,{ s with got:=[] })::B } }
theorem ξ9l (b j r:Nat) (id:Int) (o:Nat->Tg) (P:MP) (M:Ms) (s:Sb) (A B:List (Int×Sb)) (w:World) (h:MAt w o b P M) (hj:M.sb[j]?=some ((r:Int),id)) (hr:r<M.n) (hs:(M.nd r).sb=A++(id,s)::B) (hI:SInv (M.nd r).sb (M.nd r).ls) (hl:M.sb.length<=1000000) :
 Calls prog 14 #[.pointer (some ⟨b,0,none⟩),.int .i64 ((j:Int)+1)] w fun e w'=>∃ a c,e=.returned (.tuple #[.slice a s.got.length c,.nilIface])/\MGave w w' o b (M.got r A id s B) (.slice a s.got.length c) s.got:=by
 have h16:=h.n16
 obtain ⟨hjl,_⟩:=List.getElem?_eq_some_iff.1 hj;obtain ⟨sb,sc,hsv,hsc⟩:∃ sb sc,P.sv=.slice (some ⟨sb,0,none⟩) M.sb.length sc/\(w.cell? ⟨sb,j*2,none⟩=some (.int .i64 (r:Int))/\w.cell? ⟨sb,j*2+1,none⟩=some (.int .i64 id)):=by
  rcases h.srow.2 with ⟨_,h0⟩ | ⟨g,cap,cur,e,_⟩
  ·omega
  ·have hc:=h.srow.cells (g:=g) (by rw [e];rfl)
   obtain ⟨g1,g2⟩:=ξdF M.sb j _ hj;have k1:=hc _ _ g1
   have k2:=hc _ _ g2
   rw [Addr.add_lit,Nat.zero_add] at k1 k2;exact ⟨g,cap,e,k1,k2⟩
 have c11:=h.cells.2.2.2.1
 rw [hsv] at c11;obtain ⟨rb,rc,hnv,hcell⟩:=h.nptr hr;obtain ⟨s0,s1⟩:=hsc;obtain ⟨W0,hW0⟩:∃ W0,w.alloc (.cells #[.int .i64 (r:Int),.int .i64 id] 104)=W0:=⟨_,rfl⟩;have hB0:Below w.heap.size w W0:=by rw [<- hW0];exact (Ξp _ _).alloc (Ξo _) _
 have hbx:W0.heap[w.heap.size]?=some (.cells #[.int .i64 (r:Int),.int .i64 id] 104 (0,0)):=by rw [<- hW0];exact heap_alloc_new w _
 have hM:=h.grow hB0.drew ξ2
 obtain ⟨c1,c2⟩:=ξP hM hr hnv;have hbd:W0.drew.heap[w.heap.size]?=some (.cells #[.int .i64 (r:Int),.int .i64 id] 104 (0,0)):=hbx
 have b0:W0.drew.cell? ⟨w.heap.size,0,none⟩=some (.int .i64 (r:Int)):=by simp [World.cell?,hbd]
 have b1:W0.drew.cell? ⟨w.heap.size,1,none⟩=some (.int .i64 id):=by simp [World.cell?,hbd]
 obtain ⟨gl,hgl⟩:∃ gl,s.got.length=gl:=⟨_,rfl⟩;have CG:Hid (Calls prog 49 #[.pointer (some ⟨P.nb r,0,none⟩),.int .i64 id] W0.drew fun e w'=>∃ a c,e=.returned (.tuple #[.slice a gl c,.nilIface])/\(w'.cell? ⟨b,1,none⟩=some (.slice (some ⟨rb,0,none⟩) M.n rc)/\w'.cell? ⟨rb,r,none⟩=some (.pointer (some ⟨P.nb r,0,none⟩))/\w'.cell? ⟨w.heap.size,0,none⟩=some (.int .i64 (r:Int))/\w'.cell? ⟨w.heap.size,1,none⟩=some (.int .i64 id))/\Hid (MGave w w' o b (M.got r A id s B) (.slice a gl c) s.got)):=by
  refine ξ0 ((ξbb (r+1) (P.nb r) _ (P.np r) (M.nd r) id s A B W0.drew (by omega) (hM.nds r hr) hs hI).mono ?_)
  rintro e w' ⟨a,c,rfl,o',Q,g1,g2,g3,g4,g5⟩;have hm:=hM.nodeR hr g1 g4 g5
  have hb':w'.heap[w.heap.size]?=some (.cells #[.int .i64 (r:Int),.int .i64 id] 104 (0,0)):=g5.block (show W0.drew.heap[w.heap.size]?=_ from hbx) (by rw [ξh (Ξo _)];unfold mine;show ¬ (0=r+1);omega)
  obtain ⟨d1,d2⟩:=ξP hm (show r<M.n from hr) (show _=Value.slice (some ⟨rb,0,none⟩) M.n rc from hnv);rw [hgl] at g2 g3;refine ⟨a,c,by rw [hgl],⟨d1,d2,by simp [World.cell?,hb'],by simp [World.cell?,hb']⟩,ξ0 ⟨o',_,hm,g2,g3,?_,?_⟩⟩
  ·exact (Keep.of_ext (ξ3 o w ξ2)).trans (Ret.keep (n:=r+1) g4 (by omega) (by omega)) hB0.drew.size
  ·exact (Chg.of_below hB0.drew o meshy).trans (ξ16 g5 (by omega) (by omega)) (ξ3 _ _ _)
 rw [hgl];obtain ⟨G,hG⟩:∃ G,s.got=G:=⟨_,rfl⟩;rw [hG] at CG ⊢;obtain ⟨R,hR⟩:∃ R,M.got r A id s B=R:=⟨_,rfl⟩;rw [hR] at CG ⊢;obtain ⟨nb,hnb⟩:∃ nb,P.nb r=nb:=⟨_,rfl⟩;obtain ⟨nn,hnn⟩:∃ nn,M.n=nn:=⟨_,rfl⟩;obtain ⟨sl,hsl⟩:∃ sl,M.sb.length=sl:=⟨_,rfl⟩;obtain ⟨pb,hpb⟩:∃ pb,w.heap.size=pb:=⟨_,rfl⟩;rw [hnb] at c2 CG;rw [hnn] at c1 hr CG;rw [hsl] at c11 hl hjl;rw [hpb] at CG b0 b1;have hrz:(r:Int)<(nn:Int):=Int.ofNat_lt.2 hr
 have hjz:(j:Int)<(sl:Int):=Int.ofNat_lt.2 hjl
 have hq1:¬ ((j:Int)+1<1):=by omega
 have hq2:¬ ((sl:Int)<(j:Int)+1):=by omega
 have hq3:wrap64 ((j:Int)+1 - 1)=(j:Int):=by unfold wrap64;omega
 have hq4:wrap64 (j:Int)=(j:Int):=by unfold wrap64;omega
 have S0:W0.drew.cell? ⟨b,1,none⟩=some (.slice (some ⟨rb,0,none⟩) nn rc)/\W0.drew.cell? ⟨rb,r,none⟩=some (.pointer (some ⟨nb,0,none⟩))/\W0.drew.cell? ⟨pb,0,none⟩=some (.int .i64 (r:Int))/\W0.drew.cell? ⟨pb,1,none⟩=some (.int .i64 id):=⟨c1,c2,b0,b1⟩
 have HW:=ξ0 hW0
 clear h hj hs hI hl h16 hsv hnv hcell hW0 hB0 hbx hbd hM hgl hG hR hnb hnn hsl hr hjl c1 c2 b0 b1;go_enter func14,ntmps14
 go_upto_region 4 with fail
 rw [HW.out];clear c11 s0 s1 HW;go_region_held3 (fun w'=>w'.cell? ⟨b,1,none⟩=some (.slice (some ⟨rb,0,none⟩) nn rc)/\w'.cell? ⟨rb,r,none⟩=some (.pointer (some ⟨nb,0,none⟩))/\w'.cell? ⟨pb,0,none⟩=some (.int .i64 (r:Int))/\w'.cell? ⟨pb,1,none⟩=some (.int .i64 id)) (with_reducible assumption) (first | (go_at_call 49;refine CG.out.mono ?_;rintro e w4 ⟨a4,c4,rfl,hS4,HD4⟩))
 go_wp2_with fail
 go_ret2
 exact ⟨_,_,rfl,HD4.out⟩
structure Falls (I:Nat->Ms->Prop):Prop where
 ok:∀ g M,I g M->MOk M/\M.fl.length<=500000
 step:∀ g M f F,I g M->M.fl=f::F->∃ m,Lands M f m/\∀ bv,∃ g',g'<g/\I g' (M.land 0 f m bv)
theorem ξ5Y (I:Nat->Ms->Prop) (hF:Falls I) (g0 b:Nat) (o:Nat->Tg) (P:MP) (M:Ms) (w:World) (h:MAt w o b P M) (hI:I g0 M) :
 Calls prog 48 #[.pointer (some ⟨b,0,none⟩)] w fun e w'=>e=.returned (.bool (decide (0<M.fl.length)))/\∃ g' M',MDone w w' o b M'/\I g' M'/\M'.fl=[]:=by
 obtain ⟨D,hD⟩:∃ D:World->Nat->Ms->Prop,(fun W g M'=>MDone w W o b M'/\I g M')=D:=⟨_,rfl⟩
 have hDe:∀ W g M',D W g M'↔MDone w W o b M'/\I g M':=fun W g M'=>by rw [<- hD]
 have HFl:Hid (∀ W g M',D W g M'->Calls prog 60 #[.pointer (some ⟨b,0,none⟩)] W fun e w'=>e=.returned (.int .i64 (M'.fl.length:Int))/\w'=W):=by
  refine ξ0 ?_
  intro W g M' hA;obtain ⟨⟨o1,P1,g1,g2,g3⟩,g4⟩:=(hDe _ _ _).1 hA;exact ξ6X b o1 P1 M' W g1
 have HLand:Hid (∀ W g M',D W g M'->0<M'.fl.length->Calls prog 41 #[.pointer (some ⟨b,0,none⟩),.int .i64 0] W fun e w'=>e=.returned .nilIface/\∃ g2 M2,g2<g/\Hid (D w' g2 M2)):=by
  refine ξ0 ?_
  intro W g M' hA hl;obtain ⟨⟨o1,P1,g1,g2,g3⟩,g4⟩:=(hDe _ _ _).1 hA;obtain ⟨f,F,hf⟩:∃ f F,M'.fl=f::F:=by
   cases e:M'.fl with
   | nil=>rw [e] at hl;simp at hl
   | cons f F=>exact ⟨f,F,rfl⟩
  obtain ⟨m,hL,hm⟩:=hF.step g M' f F g4 hf;obtain ⟨k1,k2⟩:=hF.ok g M' g4;refine (ξ2W b o1 P1 M' 0 f m W g1 k1 (by rw [hf];rfl) hL k2).mono ?_
  rintro e w' ⟨rfl,bv,hd⟩;obtain ⟨o2,P2,r1,r2,r3⟩:=hd;obtain ⟨g',hlt,hI'⟩:=hm bv;exact ⟨rfl,g',_,hlt,ξ0 ((hDe _ _ _).2 ⟨⟨o2,P2,r1,g2.trans r2 g3.size,Chg.keep g3 r3 g2⟩,hI'⟩)⟩
 have HFin:Hid (∀ W g M',D W g M'->M'.fl.length=0->∃ g' M',MDone w W o b M'/\I g' M'/\M'.fl=[]):=by
  refine ξ0 ?_
  intro W g M' hA h0;obtain ⟨g1,g4⟩:=(hDe _ _ _).1 hA;exact ⟨g,M',g1,g4,Ξk h0⟩
 have HD0:Hid (D w g0 M):=ξ0 ((hDe _ _ _).2 ⟨MDone.refl h (Ξp _ _),hI⟩)
 obtain ⟨R,hR⟩:∃ R:World->Prop,(fun W=>∃ g' M',MDone w W o b M'/\I g' M'/\M'.fl=[])=R:=⟨_,rfl⟩
 have hRe:∀ W,(∃ g' M',MDone w W o b M'/\I g' M'/\M'.fl=[])=R W:=fun W=>by rw [<- hR]
 simp only [hRe] at HFin ⊢
 have C0:=ξ0 (HFl.out w g0 M HD0.out)
 obtain ⟨n0,hn0⟩:∃ n0,M.fl.length=n0:=⟨_,rfl⟩;rw [hn0] at C0 ⊢;clear h hI hF hD hDe hR hRe hn0;go_enter func48,ntmps48
 go_wp2_with fail
 refine C0.out.mono ?_
 rintro e w1 ⟨rfl,hw1⟩;obtain rfl:w=w1:=hw1.symm;clear C0;go_wp2_with fail
 go_loopg [7] g0 (fun g x wx=>∃ M',Hid (D wx g M'))
 case atStart=>exact ⟨M,HD0⟩
 case round=>
  obtain ⟨M',HD⟩:=hrel;have C1:=ξ0 (HFl.out wr gk M' HD.out)
  by_cases hl:0<M'.fl.length
  ·have CL:=ξ0 (HLand.out wr gk M' HD.out hl)
   obtain ⟨nl,hnl⟩:∃ nl,M'.fl.length=nl:=⟨_,rfl⟩;rw [hnl] at C1 hl;have hlz:(0:Int)<(nl:Int):=Int.ofNat_lt.2 hl
   clear HD hnl hl;go_wp2_with fail
   refine C1.out.mono ?_
   rintro e w2 ⟨rfl,hw2⟩;obtain rfl:wr=w2:=hw2.symm;clear C1;go_wp2_with fail
   refine CL.out.mono ?_
   rintro e w3 ⟨rfl,g2,M2,hlt,HD2⟩;go_wp2_with fail
   go_roundg g2
   case measure=>exact hlt
   case rel=>exact ⟨M2,HD2⟩
  ·have h0:M'.fl.length=0:=by omega
   have HR:=ξ0 (HFin.out wr gk M' HD.out h0)
   rw [h0] at C1;clear HD HLand HFin HFl h0 hl;go_wp2_with fail
   refine C1.out.mono ?_
   rintro e w2 ⟨rfl,hw2⟩;obtain rfl:wr=w2:=hw2.symm;clear C1;go_wp2_with fail
   go_ret
   exact ⟨rfl,HR.out⟩
structure Round (J:Nat->Nat->Ms->Prop):Prop where
 go:∀ r c M,J r c M->r<60->c<2->∃ (I:Nat->Ms->Prop) (g0:Nat),Falls I/\I g0 M/\∀ g' M',I g' M'->M'.fl=[]->M'.nw+3<=1000000/\(∀ i,i<M'.n->NoGive (M'.nd i) (M'.nw+3))/\J (r+1) (if M.fl.length=0 then c+1 else 0) (M'.ticked (M'.nw+3) M'.n)
theorem ξ9E (J:Nat->Nat->Ms->Prop) (hJ:Round J) (b:Nat) (o:Nat->Tg) (P:MP) (M:Ms) (w:World) (h:MAt w o b P M) (h0:J 0 0 M) :
 Calls prog 13 #[.pointer (some ⟨b,0,none⟩)] w fun e w'=>∃ r c M',e=.returned (.int .i64 ((r:Nat):Int))/\r<=60/\(r=60∨2<=c)/\J r c M'/\MDone w w' o b M':=by
 obtain ⟨D,hD⟩:∃ D:World->Nat->Nat->Prop,(fun W r c=>∃ M',MDone w W o b M'/\J r c M')=D:=⟨_,rfl⟩
 have hDe:∀ W r c,D W r c↔∃ M',MDone w W o b M'/\J r c M':=fun W r c=>by rw [<- hD]
 obtain ⟨D1,hD1⟩:∃ D1:World->Nat->Nat->Prop,(fun W r c=>∃ M',MDone w W o b M'/\MOk M'/\M'.fl=[]/\M'.nw+3<=1000000/\(∀ i,i<M'.n->NoGive (M'.nd i) (M'.nw+3))/\J r c (M'.ticked (M'.nw+3) M'.n))=D1:=⟨_,rfl⟩
 have hD1e:∀ W r c,D1 W r c↔∃ M',MDone w W o b M'/\MOk M'/\M'.fl=[]/\M'.nw+3<=1000000/\(∀ i,i<M'.n->NoGive (M'.nd i) (M'.nw+3))/\J r c (M'.ticked (M'.nw+3) M'.n):=fun W r c=>by rw [<- hD1]
 have HAll:Hid (∀ W r c,D W r c->r<60->c<2->Calls prog 48 #[.pointer (some ⟨b,0,none⟩)] W fun e w'=>∃ d,e=.returned (.bool d)/\Hid (D1 w' (r+1) (if d=true then 0 else c+1))):=by
  refine ξ0 ?_
  intro W r c hA hr hc;obtain ⟨M',⟨o1,P1,g1,g2,g3⟩,g4⟩:=(hDe _ _ _).1 hA;obtain ⟨I,g0,k1,k2,k3⟩:=hJ.go r c M' g4 hr hc;refine (ξ5Y I k1 g0 b o1 P1 M' W g1 k2).mono ?_
  rintro e w' ⟨rfl,g',M2,⟨o2,P2,r1,r2,r3⟩,r4,r5⟩;obtain ⟨k4,k5,k6⟩:=k3 g' M2 r4 r5;refine ⟨_,rfl,ξ0 ((hD1e _ _ _).2 ⟨M2,⟨o2,P2,r1,g2.trans r2 g3.size,Chg.keep g3 r3 g2⟩,(k1.ok g' M2 r4).1,r5,k4,k5,?_⟩)⟩
  have e:(if decide (0<M'.fl.length)=true then 0 else c+1)=(if M'.fl.length=0 then c+1 else 0):=by
   by_cases hz:M'.fl.length=0
   ·rw [if_pos hz,if_neg (by rw [hz];simp)]
   ·rw [if_neg hz,if_pos (by simp;omega)]
  rw [e];exact k6
 have HTick:Hid (∀ W r c,D1 W r c->Calls prog 44 #[.pointer (some ⟨b,0,none⟩),.int .i64 3] W fun e w'=>e=.returned .nilIface/\Hid (D w' r c)):=by
  refine ξ0 ?_
  intro W r c hA;obtain ⟨M',⟨o1,P1,g1,g2,g3⟩,g4,g5,g6,g7,g8⟩:=(hD1e _ _ _).1 hA;refine (ξ8z b o1 P1 M' 3 W g1 g4 (by omega) (by omega) g6 g7 (by rw [g5];simp)).mono ?_
  rintro e w' ⟨rfl,o2,P2,r1,r2,r3⟩;exact ⟨rfl,ξ0 ((hDe _ _ _).2 ⟨_,⟨o2,P2,r1,g2.trans r2 g3.size,Chg.keep g3 r3 g2⟩,g8⟩)⟩
 have HFin:Hid (∀ W r c,D W r c->r<=60->(r=60∨2<=c)->∃ r' c M',Value.int .i64 (r:Int)=Value.int .i64 ((r':Nat):Int)/\r'<=60/\(r'=60∨2<=c)/\J r' c M'/\MDone w W o b M'):=by
  refine ξ0 ?_
  intro W r c hA hr hc;obtain ⟨M',g1,g4⟩:=(hDe _ _ _).1 hA;exact ⟨r,c,M',rfl,hr,hc,g4,g1⟩
 have HD0:Hid (D w 0 0):=ξ0 ((hDe _ _ _).2 ⟨M,MDone.refl h (Ξp _ _),h0⟩)
 obtain ⟨R,hR⟩:∃ R:Value->World->Prop,(fun v W=>∃ (r' c:Nat) (M':Ms),v=Value.int .i64 (r':Int)/\r'<=60/\(r'=60∨2<=c)/\J r' c M'/\MDone w W o b M')=R:=⟨_,rfl⟩
 have hRe:∀ v W,(∃ (r' c:Nat) (M':Ms),v=Value.int .i64 (r':Int)/\r'<=60/\(r'=60∨2<=c)/\J r' c M'/\MDone w W o b M')=R v W:=fun v W=>by rw [<- hR]
 have HFin2:Hid (∀ W r c,D W r c->r<=60->(r=60∨2<=c)->R (.int .i64 (r:Int)) W):=ξ0 (fun W r c hA hr hc=>by rw [<- hRe];exact HFin.out W r c hA hr hc)
 suffices hS:Calls prog 13 #[.pointer (some ⟨b,0,none⟩)] w fun e w'=>∃ v,e=.returned v/\R v w' by
  refine hS.mono ?_
  rintro e w' ⟨v,rfl,hr⟩;rw [<- hRe] at hr;obtain ⟨r,c,M',rfl,k1,k2,k3,k4⟩:=hr;exact ⟨r,c,M',rfl,k1,k2,k3,k4⟩
 clear h h0 hJ hD hDe hD1 hD1e hR hRe HFin;go_enter func13,ntmps13
 go_wp2_with fail
 go_loopg [3,4] 60 (fun g x y wx=>∃ (r c:Nat),r+g=60/\x=.int .i64 (r:Int)/\y=.int .i64 (c:Int)/\c<=100/\Hid (D wx r c))
 case atStart=>exact ⟨0,0,by omega,rfl,rfl,by omega,HD0⟩
 case round=>
  obtain ⟨r,c,hrg,rfl,rfl,hc100,HD⟩:=hrel;by_cases hr:r<60
  ·have hrz:(r:Int)<60:=by omega
   by_cases hc:c<2
   ·have hcz:(c:Int)<2:=by omega
    have CA:=ξ0 (HAll.out wr r c HD.out hr hc)
    clear HD HFin2;go_wp2_with fail
    refine CA.out.mono ?_
    rintro e w2 ⟨d,rfl,HE⟩;have CT:=ξ0 (HTick.out w2 _ _ HE.out)
    clear CA HE;cases d with
    | true=>
      rw [if_pos rfl] at CT;go_wp2_with fail
      refine CT.out.mono ?_
      rintro e w3 ⟨rfl,HD3⟩;go_wp2_with fail
      go_roundg (60 - (r+1))
      case measure=>omega
      case rel=>exact ⟨r+1,0,by omega,by go_num,rfl,by omega,HD3⟩
    | false=>
      rw [if_neg (by decide)] at CT
      go_wp2_with fail
      refine CT.out.mono ?_
      rintro e w3 ⟨rfl,HD3⟩;go_wp2_with fail
      go_roundg (60 - (r+1))
      case measure=>omega
      case rel=>exact ⟨r+1,c+1,by omega,by go_num,by go_num,by omega,HD3⟩
   ·have hcz:¬ (c:Int)<2:=by omega
    have HR:=ξ0 (HFin2.out wr r c HD.out (by omega) (.inr (by omega)))
    clear HD HFin2 HAll HTick;go_wp2_with fail
    go_ret
    exact ⟨_,rfl,HR.out⟩
  ·have hrz:¬ (r:Int)<60:=by omega
   have HR:=ξ0 (HFin2.out wr r c HD.out (by omega) (.inl (by omega)))
   clear HD HFin2 HAll HTick;go_wp2_with fail
   go_ret
   exact ⟨_,rfl,HR.out⟩
end Go.Proofs.YtpiamlgmadnepaaGreat.MS
