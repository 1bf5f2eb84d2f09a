/-
 What the proof needs.
-/
import Derived.Test.YtpiamlgmadnepaaGreatMeshAll
open Go.Proofs.Tryz
set_option linter.unusedVariables false
set_option maxHeartbeats 4000000
set_option maxRecDepth 100000
namespace Go.Proofs.YtpiamlgmadnepaaGreat.MS
open ChangeShapes WideShapes ChangeAt RowKit Maps Mem NO ND
variable {N:Nd}{i n k r b:Nat}{p:RM.Pk}{now fr:Int}{bv:Value}{m:Msg}{M:Ms}{w:World}{o:Nat->Tg}{P:MP}
structure MOk(M:Ms):Prop where
 n1:1<=M.n
 n16:M.n<=16
 nw:0<=M.nw/\M.nw<=1000000
 nd:∀i,i<M.n->A0v M.n (M.nd i)/\(M.nd i).lt=[]/\(M.nd i).nw<=M.nw/\(M.nd i).id=(i:Int)
theorem ξ8e{t:Tr}{og h:Int}:(N.A0t i t p og h now).lt.length<=N.lt.length+t.kids.length:=by
 unfold Nd.A0t;split
 ·show(N.lt++_).length<=_;rw[Ξh];have:=ξ5W t.kids (FM.A0k t.tk og t.ep h (pby p.s p.t p.l p.q p.st p.L)) (fby t.tk og t.ep h (pby p.s p.t p.l p.q p.st p.L));omega
 ·exact Nat.le_add_right _ _
theorem ξcj(t:Tr)(kd:Int)(L:List Int):(L.flatMap (A0w t kd)).length<=L.length:=by
 induction L with
 | nil=>simp
 | cons x L ih=>simp only[List.flatMap_cons,Ξh,List.length_cons];have:=ξ4X t kd x;omega
theorem ξff(h:A0v n N)(hm:m.ok)(hf:Fits N fr m):(N.hear fr now bv m).lt.length<=N.lt.length+200:=by
 cases m with
 | fr tk og ep hp p=>
   obtain⟨m1,m2,_⟩:=hm;obtain⟨t,ht⟩:=hf;obtain⟨i,hi,_,ei,ae⟩:=ξ3G m1 m2 ht;have hk:=(h.tr i hi t ae).kl;rw[ξ2c ht];split
   ·show(N.A0t _ t _ og (hp+1) now).lt.length<=_;have:=ξ8e (N:=N) (i:=(tk-1).toNat) (t:=t) (p:=p.lies bv) (og:=og) (h:=hp+1) (now:=now);omega
   ·omega
 | lost tk L=>
   obtain⟨t,ht,hk⟩:=hf;rw[ξ2r ht hk];show(N.lt++_).length<=_;rw[Ξh];have:=ξcj t fr L;have:=hm.2;omega
 | key tk v=>
   obtain⟨t,ht,hk⟩:=hf;rw[ξ38 ht hk];show(N.lt++_).length<=_;rw[Ξh];split<;>simp
theorem A0v.hear(h:A0v n N)(hm:m.ok)(hf:Fits N fr m)(h0:N.nw<=now)(h1:now<=1000000):A0v n (N.hear fr now bv m):=by
 cases m with
 | fr tk og ep hp p=>
   obtain⟨m1,m2,m3,m4,m5⟩:=hm;obtain⟨t,ht⟩:=hf;obtain⟨i,hi,_,ei,ae⟩:=ξ3G m1 m2 ht;rw[ξ2c ht];split
   ·have k:=(h.later h0 h1).took hi (t:=t) ae (p:=p.lies bv) (og:=og) (hp:=hp+1) m4;rw[ei];have e:({ N.A0t i t (p.lies bv) og (hp+1) now with nw:=now }:Nd)=({ N with nw:=now }:Nd).A0t i t (p.lies bv) og (hp+1) now:=by
     unfold Nd.A0t;split<;>rfl
    rw[e];exact k
   ·exact h
 | lost tk L=>
   obtain⟨t,ht,hk⟩:=hf;rw[ξ2r ht hk];exact(h.later h0 h1).letters _
 | key tk v=>
   obtain⟨t,ht,hk⟩:=hf;rw[ξ38 ht hk];exact(h.later h0 h1).letters _
theorem ξfg:(N.hear fr now bv m).id=N.id:=by
 cases m with
 | fr tk og ep hp p=>
   simp only[Nd.hear];split
   ·rfl
   ·split
    ·show(N.A0t _ _ _ _ _ _).id=_;unfold Nd.A0t;split<;>rfl
    ·rfl
 | lost tk L=>
   simp only[Nd.hear];split
   ·rfl
   ·split<;>rfl
 | key tk v=>
   simp only[Nd.hear];split
   ·rfl
   ·split<;>rfl
theorem ξfe(h:N.nw<=now):(N.hear fr now bv m).nw<=now:=by
 cases m with
 | fr tk og ep hp p=>
   simp only[Nd.hear];split
   ·exact h
   ·split
    ·exact Int.le_refl _
    ·exact h
 | lost tk L=>
   simp only[Nd.hear];split
   ·exact h
   ·split
    ·exact Int.le_refl _
    ·exact h
 | key tk v=>
   simp only[Nd.hear];split
   ·exact h
   ·split
    ·exact Int.le_refl _
    ·exact h
def Ms.land(M:Ms)(i:Nat)(f:Fl)(m:Msg)(bv:Value):Ms:=({ M with fl:=M.fl.eraseIdx i,nd:=A0h M.nd f.tw.toNat ((M.nd f.tw.toNat).hear f.fr M.nw bv m) }:Ms).out f.tw.toNat
structure A35(M:Ms)(f:Fl)(m:Msg):Prop where
 t0:0<=f.tw
 tn:f.tw<M.n
 by':f.B=m.by
 ok:m.ok
 fit:Fits (M.nd f.tw.toNat) f.fr m
theorem MOk.out(hi:i<M.n)(h1:1<=M.n)(h16:M.n<=16)(hw:0<=M.nw/\M.nw<=1000000)(hn:∀j,j<M.n->A0v M.n (M.nd j)/\(j≠i->(M.nd j).lt=[])/\(M.nd j).nw<=M.nw/\(M.nd j).id=(j:Int)):MOk (M.out i):=by
 refine⟨h1,h16,hw,?_⟩;intro j hj;obtain⟨k1,k2,k3,k4⟩:=hn j hj;show A0v M.n (A0h M.nd i _ j)/\(A0h M.nd i _ j).lt=[]/\(A0h M.nd i _ j).nw<=M.nw/\(A0h M.nd i _ j).id=_;by_cases c:j=i
 ·subst c;rw[ξe];exact⟨k1.letters _,rfl,k3,k4⟩
 ·rw[ξh _ _ c];exact⟨k1,k2 c,k3,k4⟩
theorem MOk.land(h:MOk M){f:Fl}(hL:A35 M f m)(bv:Value):MOk (M.land i f m bv):=by
 have ht:f.tw.toNat<M.n:=by have:=hL.t0;have:=hL.tn;omega
 refine MOk.out (M:={ M with fl:=M.fl.eraseIdx i,nd:=A0h M.nd f.tw.toNat ((M.nd f.tw.toNat).hear f.fr M.nw bv m) }) ht h.n1 h.n16 h.nw ?_;intro j hj;obtain⟨k1,k2,k3,k4⟩:=h.nd j hj;show A0v M.n (A0h M.nd _ _ j)/\(j≠_->(A0h M.nd _ _ j).lt=[])/\(A0h M.nd _ _ j).nw<=M.nw/\(A0h M.nd _ _ j).id=_;by_cases c:j=f.tw.toNat
 ·subst c;rw[ξe];exact⟨A0v.hear k1 hL.ok hL.fit k3 h.nw.2,λe=>absurd rfl e,ξfe k3,ξfg.trans k4⟩
 ·rw[ξh _ _ c];exact⟨k1,λ_=>k2,k3,k4⟩
theorem ξf6(b:Nat)(o:Nat->Tg)(P:MP)(M:Ms)(i:Int)(w:World)(h:MAt w o b P M)(hi:i<0∨(M.fl.length:Int)<=i) :
 Calls prog 41 #[.pointer (some ⟨b,0,none⟩),.int .i64 i] w λe w'=>e=.returned (A0a 1)/\Below w.heap.size w w':=by
 have C:=ξ0 (ξ8j b o P M i w h hi);have q1:=ξq 1;have q2:=ξp 1;rw[show decide (1=0)=false from rfl,Bool.not_false]at q1;obtain⟨ev,ae⟩:=nm (A0a 1);rw[ae]at C q1 q2 ⊢;clear h hi ae;go_enter func41,ntmps41;go_wp2_with fail
 refine C.out.mono ?_;rintro e w1 ⟨rfl,hb⟩;have HB:=ξ0 hb;clear hb C;go_wp2_with fail;go_ret;exact⟨rfl,HB.out.alloc HB.out.size _⟩
theorem ξ26(b:Nat)(o:Nat->Tg)(P:MP)(M:Ms)(i:Nat)(f:Fl)(m:Msg)(w:World)(h:MAt w o b P M)(hK:MOk M)(hf:M.fl[i]?=some f)(hL:A35 M f m)(hl:M.fl.length<=500000) :
 Calls prog 41 #[.pointer (some ⟨b,0,none⟩),.int .i64 (i:Int)] w λe w'=>e=.returned .nilIface/\∃bv,A0j w w' o b (M.land i f m bv):=by
 have aU:=h.n16;obtain⟨t,ht⟩:∃t:Nat,f.tw=(t:Int):=⟨f.tw.toNat,by have:=hL.t0;omega⟩;have aC:f.tw.toNat=t:=by rw[ht];rfl
 have aj:t<M.n:=by have:=hL.tn;omega
 obtain⟨kN,kL,kW,kI⟩:=hK.nd t aj;have aq:Fits (M.nd t) f.fr m:=by have:=hL.fit;rwa [aC]at this
 have CT:=ξR b o P M i f w h hf;obtain⟨M1,au⟩:∃M1:Ms,{ M with fl:=M.fl.eraseIdx i }=M1:=⟨_,rfl⟩;obtain⟨rb,rc,aA,_⟩:=h.A5j aj
 -- behind take: the box of what flew, and what stands there
 obtain⟨A1,aF⟩:∃A1:World->Nat->Value->World->Prop,(λw2 pb bv W=>∃o1 P1,MAt W o1 b P1 M1/\P1.nv=P.nv/\P1.nb=P.nb/\ξo W o1 bv f.B/\Cap bv/\A0u w o o1/\Chg o A1f w W/\A08 W pb f.fr f.tw bv/\o1 pb=ξ2)=A1:=⟨_,rfl⟩;have ah:∀w2 pb bv W,A1 w2 pb bv W↔∃o1 P1,MAt W o1 b P1 M1/\P1.nv=P.nv/\P1.nb=P.nb/\ξo W o1 bv f.B/\Cap bv/\A0u w o o1/\Chg o A1f w W/\A08 W pb f.fr f.tw bv/\o1 pb=ξ2:=λw2 pb bv W=>by rw[<-aF]
 have HT:Hid (Calls prog 88 #[.pointer (some ⟨b,12,none⟩),.int .i64 (i:Int)] w λe w'=>∃a k c,e=.returned (.tuple #[.agg #[.int .i64 f.fr,.int .i64 f.tw,.slice a k c],.nilIface])/\Hid (∀W,W=(w'.alloc (.cells #[.int .i64 f.fr,.int .i64 f.tw,.slice a k c] 167)).drew->A1 w' w'.heap.size (.slice a k c) W)):=by
  refine ξ0 (CT.mono ?_);rintro e w' ⟨a,k,c,rfl,o1,v1,g1,g2,g3,g4,g5⟩;refine⟨a,k,c,rfl,ξ0 ?_⟩;rintro W rfl;have hb:Below w'.heap.size w' (w'.alloc (.cells #[.int .i64 f.fr,.int .i64 f.tw,.slice a k c] 167)).drew:=((Ξp _ _).alloc (Ξo _) _).drew;rw[au]at g1;refine(ah _ _ _ _).2 ⟨grow o1 w' ξ2,_,g1.grow hb ξ2,rfl,rfl,g2.chg (S:=λ_=>False) (Chg.of_below hb _ _) (λg hg=>hg.elim) (ξ3 _ _ _),g3,A0u.A16 (g4.trans (ξ3 _ _ _) g5.size),(ξ28 g5).trans' (Chg.of_below hb _ _),heap_alloc_new w' _,ξg (Ξo _)⟩
 have am:M1.n=M.n:=by rw[<-au]
 have hS:∀w2 pb bv W,A1 w2 pb bv W->W.cell? ⟨b,1,none⟩=some (.slice (some ⟨rb,0,none⟩) M.n rc)/\W.cell? ⟨rb,t,none⟩=some (.pointer (some ⟨P.nb t,0,none⟩))/\W.cell? ⟨pb,0,none⟩=some (.int .i64 f.fr)/\W.cell? ⟨pb,1,none⟩=some (.int .i64 (t:Int))/\W.cell? ⟨pb,2,none⟩=some bv:=by
  intro w2 pb bv W hA;obtain⟨o1,P1,g1,g2,g3,_,_,_,_,g4,_⟩:=(ah _ _ _ _).1 hA;obtain⟨aV,aW,e,hc⟩:=g1.A5j (i:=t) (by rw[am];exact aj);have c1:=g1.cells.2.1;rw[g2,aA]at c1 e;rw[am]at e;cases e;have ay:=hc t (by rw[am];exact aj);rw[g3]at ay;obtain⟨x0,x1,x2⟩:=g4.cells;rw[ht]at x1;exact⟨c1,ay,x0,x1,x2⟩
 have ai:Hid (∀w2 pb bv W,A1 w2 pb bv W->Calls prog 46 #[.pointer (some ⟨b,0,none⟩)] W λe w'=>e=.returned (.int .i64 M.nw)/\(w'.cell? ⟨b,1,none⟩=some (.slice (some ⟨rb,0,none⟩) M.n rc)/\w'.cell? ⟨rb,t,none⟩=some (.pointer (some ⟨P.nb t,0,none⟩))/\w'.cell? ⟨pb,0,none⟩=some (.int .i64 f.fr)/\w'.cell? ⟨pb,1,none⟩=some (.int .i64 (t:Int))/\w'.cell? ⟨pb,2,none⟩=some bv)/\Hid (A1 w2 pb bv w'/\True)):=by
  refine ξ0 ?_;intro w2 pb bv W hA;obtain⟨o1,P1,g1,g2,g3,g4,g5,g6,g7,g8,g9⟩:=(ah _ _ _ _).1 hA;refine(ξ20 b o1 P1 M1 W g1).mono ?_;rintro e w' ⟨rfl,hb⟩;have aG:A1 w2 pb bv w':=(ah _ _ _ _).2 ⟨grow o1 W ξ2,P1,g1.grow hb ξ2,g2,g3,g4.chg (S:=λ_=>False) (Chg.of_below hb _ _) (λg hg=>hg.elim) (ξ3 _ _ _),g5,g6.trans (A0u.A16 (ξ3 o1 W ξ2)) g7.size,Chg.keep g7 (Chg.of_below hb o1 _) g6,(hb.block pb (lt_of_block g8)).trans g8,by rw[ξt (lt_of_block g8)];exact g9⟩;exact⟨by rw[<-au],hS _ _ _ _ aG,ξ0 ⟨aG,trivial⟩⟩
 -- behind Hear
 obtain⟨A2,aH⟩:∃A2:World->Prop,(λW=>∃bv,A0j w W o b { M1 with nd:=A0h M1.nd t ((M.nd t).hear f.fr M.nw bv m) })=A2:=⟨_,rfl⟩;have aw:∀W,A2 W↔∃bv,A0j w W o b { M1 with nd:=A0h M1.nd t ((M.nd t).hear f.fr M.nw bv m) }:=λW=>by rw[<-aH]
 have ae:Hid (∀w2 pb a k c W,Hid (A1 w2 pb (.slice a k c) W/\True)->Calls prog 89 #[.pointer (some ⟨P.nb t,0,none⟩),.int .i64 f.fr,.slice a k c,.int .i64 M.nw] W λe w'=>∃ef,e=.returned (A0a ef)/\(w'.cell? ⟨b,1,none⟩=some (.slice (some ⟨rb,0,none⟩) M.n rc)/\w'.cell? ⟨rb,t,none⟩=some (.pointer (some ⟨P.nb t,0,none⟩))/\w'.cell? ⟨pb,0,none⟩=some (.int .i64 f.fr)/\w'.cell? ⟨pb,1,none⟩=some (.int .i64 (t:Int))/\w'.cell? ⟨pb,2,none⟩=some (.slice a k c))/\Hid (A2 w')):=by
  refine ξ0 ?_;intro w2 pb a k c W aX;have hA:=aX.out.1;obtain⟨o1,P1,g1,g2,g3,g4,g5,g6,g7,g8,g9⟩:=(ah _ _ _ _).1 hA;have aD:M1.nd=M.nd:=by rw[<-au]
  have gN:=g1.nds t (by rw[am];exact aj);rw[aD]at gN;obtain⟨a',m',c',ev,aY,hz⟩:=g4;cases ev;have aZ:=g5 a k c rfl;have C:=ξdy M.n (t+1) (P1.nb t) o1 (P1.np t) (M.nd t) f.fr M.nw m a k c W (by omega) gN kN (by rw[kL];simp) kW hK.nw.2 hL.ok aq (by rw[<-hL.by'];exact aY) aZ.1;rw[g3]at C;refine C.mono ?_;rintro e w' ⟨ef,bv,rfl,hd⟩;rw[<-g3]at hd;obtain⟨o2,P2,r1,r2,r3,r4,r5,r6,r7⟩:=g1.node (i:=t) (by rw[am];exact aj) hd;have bh:A08 w' pb f.fr f.tw (.slice a k c):=r7.block g8 (by rw[g9];unfold mine;show ¬(0=t+1);omega);refine⟨ef,rfl,?_,ξ0 ((aw _).2 ⟨bv,o2,P2,r1,g6.trans (A0u.A16 r6) g7.size,Chg.keep g7 (ξ1a r7 (by omega) (by omega)) g6⟩)⟩;obtain⟨aV,aW,e,hc⟩:=r1.A5j (i:=t) (show t<M1.n by rw[am];exact aj);have c1:=r1.cells.2.1;rw[r3,g2,aA]at c1;rw[r3,g2,aA,show({ M1 with nd:=A0h M1.nd t ((M.nd t).hear f.fr M.nw bv m) }:Ms).n=M.n from am]at e;cases e;have ay:=hc t (show t<M1.n by rw[am];exact aj);rw[r2,g3]at ay;obtain⟨x0,x1,x2⟩:=bh.cells;rw[ht]at x1;exact⟨c1,ay,x0,x1,x2⟩
 have ax:Hid (∀W,A2 W->Calls prog 47 #[.pointer (some ⟨b,0,none⟩),.int .i64 (t:Int)] W λe w'=>e=.returned (.tuple #[])/\Hid (∃bv,A0j w w' o b (M.land i f m bv))):=by
  refine ξ0 ?_;intro W hA;obtain⟨bv,o2,P2,r1,r2,r3⟩:=(aw _).1 hA;have aI:=ξff (n:=M.n) kN (fr:=f.fr) (now:=M.nw) (bv:=bv) hL.ok aq;refine(ξ3w b t o2 P2 _ W r1 (show t<M1.n by rw[am];exact aj) (by
   show M1.fl.length+(A0h M1.nd t ((M.nd t).hear f.fr M.nw bv m) t).lt.length<=_;rw[ξe,<-au];show(M.fl.eraseIdx i).length+_<=_;rw[kL]at aI;have:=List.length_eraseIdx_le M.fl i;simp at aI;omega)).mono ?_
  rintro e w' ⟨rfl,hd⟩;obtain⟨o3,P3,s1,s2,s3⟩:=hd;refine⟨rfl,ξ0 ⟨bv,o3,P3,?_,r2.trans s2 r3.size,Chg.keep r3 s3 r2⟩⟩;unfold Ms.land;rw[aC];rw[<-au]at s1;exact s1
 obtain⟨fr,aJ⟩:=nm f.fr;obtain⟨nw,aL⟩:=nm M.nw;obtain⟨nn,aM⟩:=nm M.n;obtain⟨nb,aO⟩:=nm (P.nb t);rw[ht]at HT;rw[aJ]at HT ai ae hS;rw[aL]at ai ae;rw[aM]at ai ae hS aj;rw[aO]at ai ae hS;have HS:=ξ0 hS;obtain⟨R,hR⟩:∃R:World->Prop,(λW=>∃bv,A0j w W o b (M.land i f m bv))=R:=⟨_,rfl⟩;have aP:∀W,(∃bv,A0j w W o b (M.land i f m bv))=R W:=λW=>by rw[<-hR]
 simp only[aP]at ax ⊢;have bq:(t:Int)<(nn:Int):=by omega
 clear h hK hf hL hl aU aC kN kL kW kI aq CT au aA aF ah am hS aH aw aJ aL aM aO hR aP aj ht;go_enter func41,ntmps41;go_wp2_with fail
 refine HT.out.mono ?_;rintro e w1 ⟨a,k,c,rfl,aQ⟩;obtain⟨W1,aE⟩:=nm (w1.alloc (.cells #[.int .i64 fr,.int .i64 (t:Int),.slice a k c] 167));have az:=aQ.out W1.drew (by rw[<-aE]);obtain⟨pb,aS⟩:=nm w1.heap.size;rw[aS]at az;have S0:=HS.out _ _ _ _ az;have bu:=ξ0 az;have bi:=ξ0 aE;have CN:=ξ0 (ai.out w1 pb (.slice a k c) W1.drew az);have CH:=ξ0 (ae.out w1 pb a k c);clear aQ az aE HT ai ae HS;go_upto_region 4 with fail
 first|rw[bi.out]|skip
 clear aS;go_region_held3 (λw'=>w'.cell? ⟨b,1,none⟩=some (.slice (some ⟨rb,0,none⟩) nn rc)/\w'.cell? ⟨rb,t,none⟩=some (.pointer (some ⟨nb,0,none⟩))/\w'.cell? ⟨pb,0,none⟩=some (.int .i64 fr)/\w'.cell? ⟨pb,1,none⟩=some (.int .i64 (t:Int))/\w'.cell? ⟨pb,2,none⟩=some (.slice a k c)) (with_reducible assumption) (first|(go_at_call 46;refine CN.out.mono ?_;rintro e w4 ⟨rfl,bz,b9⟩)|(go_at_call 89;refine(CH.out _ (by with_reducible assumption)).mono ?_;rintro e w5 ⟨ef,rfl,bj,aT⟩));obtain⟨x1,x2,x3,x4,x5⟩:=bj;have CO:=ξ0 (ax.out w5 aT.out);clear ax aT;go_wp2_with fail;refine CO.out.mono ?_;rintro e w6 ⟨rfl,HR⟩;go_wp2_with fail;go_ret;exact⟨rfl,HR.out⟩
theorem ξk(x:Int)(w:World):Calls prog 37 #[.int .i64 x] w λe w'=>e=.returned (.bool (okT x))/\w'=w:=by
 unfold okT;by_cases h0:1<=x
 ·by_cases h1:x<=8
  ·rw[decide_eq_true ⟨h0,h1⟩];go_enter func37,ntmps37;go_wp2_with fail
   go_ret;exact⟨rfl,rfl⟩
  ·rw[decide_eq_false (λh=>h1 h.2)];go_enter func37,ntmps37;go_wp2_with fail
   go_ret;exact⟨rfl,rfl⟩
 ·rw[decide_eq_false (λh=>h0 h.1)];go_enter func37,ntmps37;go_wp2_with fail
  go_ret;exact⟨rfl,rfl⟩
theorem ξm(b:Nat)(o:Nat->Tg)(P:MP)(M:Ms)(x:Int)(w:World)(h:MAt w o b P M):Calls prog 38 #[.pointer (some ⟨b,0,none⟩),.int .i64 x] w λe w'=>e=.returned (.bool (decide (0<=x/\x<(M.n:Int))))/\w'=w:=by
 have c1:=h.cells.2.1;obtain⟨a,c,hv⟩:∃a c,P.nv=.slice a M.n c:=by
  rcases h.nrow.2 with⟨e,h0⟩|⟨g,cap,cur,e,_⟩
  ·exact⟨none,0,by rw[e,h0]⟩
  ·exact⟨_,_,e⟩
 rw[hv]at c1;obtain⟨n,hn⟩:=nm M.n;rw[hn]at c1 ⊢;clear h hv hn;by_cases h0:0<=x
 ·by_cases h1:x<(n:Int)
  ·rw[decide_eq_true ⟨h0,h1⟩];go_enter func38,ntmps38;go_wp2_with fail
   go_ret;exact⟨rfl,rfl⟩
  ·rw[decide_eq_false (λh=>h1 h.2)];go_enter func38,ntmps38;go_wp2_with fail
   go_ret;exact⟨rfl,rfl⟩
 ·rw[decide_eq_false (λh=>h0 h.1)];go_enter func38,ntmps38;go_wp2_with fail
  go_ret;exact⟨rfl,rfl⟩
def Ms.send(M:Ms)(k r:Nat)(tr:Tr)(p:RM.Pk):Ms:=({ M with nd:=A0h M.nd r (({ M.nd r with nw:=M.nw }:Nd).A0t k tr p (M.nd r).id 1 M.nw) }:Ms).out r
theorem MOk.send(h:MOk M){tr:Tr}(hk:k<8)(hr:r<M.n)(ht:(M.nd r).tr k=some tr)(hf:PM.fault p.s p.t p.l p.q p.L.length=0):MOk (M.send k r tr p):=by
 refine MOk.out (M:={ M with nd:=A0h M.nd r (({ M.nd r with nw:=M.nw }:Nd).A0t k tr p (M.nd r).id 1 M.nw) }) hr h.n1 h.n16 h.nw ?_;intro j hj;obtain⟨k1,k2,k3,k4⟩:=h.nd j hj;show A0v M.n (A0h M.nd _ _ j)/\(j≠_->(A0h M.nd _ _ j).lt=[])/\(A0h M.nd _ _ j).nw<=M.nw/\(A0h M.nd _ _ j).id=_;by_cases c:j=r
 ·subst c;rw[ξe];have e:((({ M.nd j with nw:=M.nw }:Nd).A0t k tr p (M.nd j).id 1 M.nw)).nw=M.nw/\((({ M.nd j with nw:=M.nw }:Nd).A0t k tr p (M.nd j).id 1 M.nw)).id=(M.nd j).id:=by
   unfold Nd.A0t;split<;>exact⟨rfl,rfl⟩
  exact⟨(k1.later k3 h.nw.2).took hk ht hf,λe=>absurd rfl e,by rw[e.1];exact Int.le_refl _,e.2.trans k4⟩
 ·rw[ξh _ _ c];exact⟨k1,λ_=>k2,k3,k4⟩
theorem ξQ(h:MAt w o b P M)(hr:r<M.n){rb rc:Nat}(hnv:P.nv=.slice (some ⟨rb,0,none⟩) M.n rc):w.cell? ⟨b,1,none⟩=some (.slice (some ⟨rb,0,none⟩) M.n rc)/\w.cell? ⟨rb,r,none⟩=some (.pointer (some ⟨P.nb r,0,none⟩)):=by
 obtain⟨ae,ah,e,hc⟩:=h.A5j hr;have c1:=h.cells.2.1;rw[hnv]at e c1;cases e;exact⟨c1,hc r hr⟩
theorem ξ4v(b k r:Nat)(o:Nat->Tg)(P:MP)(M:Ms)(tr:Tr)(s t l q:Int)(st:Bool)(a:Option Addr)(m c:Nat)(L:List Nat)(w:World)(h:MAt w o b P M)(hK:MOk M)(hk:k<8)(hrt:M.rt k=(r:Int))(hr:r<M.n)(ht:(M.nd r).tr k=some tr)(hpa:tr.pa=-1)(hA:Arg w a m L)(hno:a=none->m=0/\c=0)(hF:0<m->∀ad,a=some ad->(o ad.block).n=0)(hl:M.fl.length<=500000) :
 Calls prog 12 #[.pointer (some ⟨b,0,none⟩),.int .i64 ((k:Int)+1),.agg #[.int .i64 s,.int .i64 t,.int .i64 l,.int .i64 q,.bool st,.slice a m c]] w λe w'=>e=.returned (A0a (PM.fault s t l q m))/\(PM.fault s t l q m≠0->A0j w w' o b M)/\(PM.fault s t l q m=0->A0j w w' o b (M.send k r tr ⟨s,t,l,q,st,L,.slice a m c⟩)):=by
 have aP:=h.n16;obtain⟨kN,kL,kW,kI⟩:=hK.nd r hr;have au:=ξ23 kN.nw.1 kW hK.nw.2;obtain⟨rb,rc,aC,_⟩:=h.A5j hr;have hT:=kN.tr k hk tr ht;have CT:=ξ0 (ξk ((k:Int)+1));rw[show okT ((k:Int)+1)=true from by simp[okT];omega]at CT;obtain⟨W0,az⟩:=nm (w.alloc (.cells #[.int .i64 s,.int .i64 t,.int .i64 l,.int .i64 q,.bool st,.slice a m c] 38));have aw:Below w.heap.size w W0:=by rw[<-az];exact(Ξp _ _).alloc (Ξo _) _
 have ay:W0.heap[w.heap.size]?=some (.cells #[.int .i64 s,.int .i64 t,.int .i64 l,.int .i64 q,.bool st,.slice a m c] 38 (0,0)):=by rw[<-az];exact heap_alloc_new w _
 have cr:=(h.below aw).root hk;rw[hrt]at cr
 -- what a world holds whose blocks are these and new ones
 have hS:∀W,Below W0.heap.size W0 W->W.cell? ⟨b,1,none⟩=some (.slice (some ⟨rb,0,none⟩) M.n rc)/\W.cell? ⟨rb,r,none⟩=some (.pointer (some ⟨P.nb r,0,none⟩))/\(W.cell? ⟨w.heap.size,0,none⟩=some (.int .i64 s)/\W.cell? ⟨w.heap.size,1,none⟩=some (.int .i64 t)/\W.cell? ⟨w.heap.size,2,none⟩=some (.int .i64 l)/\W.cell? ⟨w.heap.size,3,none⟩=some (.int .i64 q)/\W.cell? ⟨w.heap.size,4,none⟩=some (.bool st)/\W.cell? ⟨w.heap.size,5,none⟩=some (.slice a m c)):=by
  intro W hB;obtain⟨g1,g2⟩:=ξQ ((h.below aw).below hB) hr aC;have hb:=(hB.block _ (lt_of_block ay)).trans ay;exact⟨g1,g2,by refine⟨?_,?_,?_,?_,?_,?_⟩<;>simp[World.cell?,hb]⟩
 obtain⟨A1,aD⟩:∃A1:World->Prop,(λW=>Below W0.heap.size W0 W)=A1:=⟨_,rfl⟩;have ah:∀W,A1 W↔Below W0.heap.size W0 W:=λW=>by rw[<-aD]
 have ai:Hid (∀W,A1 W->Calls prog 46 #[.pointer (some ⟨b,0,none⟩)] W λe w'=>e=.returned (.int .i64 M.nw)/\(w'.cell? ⟨b,1,none⟩=some (.slice (some ⟨rb,0,none⟩) M.n rc)/\w'.cell? ⟨rb,r,none⟩=some (.pointer (some ⟨P.nb r,0,none⟩))/\(w'.cell? ⟨w.heap.size,0,none⟩=some (.int .i64 s)/\w'.cell? ⟨w.heap.size,1,none⟩=some (.int .i64 t)/\w'.cell? ⟨w.heap.size,2,none⟩=some (.int .i64 l)/\w'.cell? ⟨w.heap.size,3,none⟩=some (.int .i64 q)/\w'.cell? ⟨w.heap.size,4,none⟩=some (.bool st)/\w'.cell? ⟨w.heap.size,5,none⟩=some (.slice a m c)))/\Hid (A1 w'/\True)):=by
  refine ξ0 ?_;intro W hA;have hB:=(ah W).1 hA;refine(ξ20 b o P M W ((h.below aw).below hB)).mono ?_;rintro e w' ⟨rfl,hb⟩;have aE:=hB.trans (hb.mono hB.size);exact⟨rfl,hS w' aE,ξ0 ⟨(ah _).2 aE,trivial⟩⟩
 obtain⟨A2,aF⟩:∃A2:World->Prop,(λW=>(PM.fault s t l q m≠0->A0j w W o b M)/\(PM.fault s t l q m=0->A0j w W o b { M with nd:=A0h M.nd r (({ M.nd r with nw:=M.nw }:Nd).A0t k tr ⟨s,t,l,q,st,L,.slice a m c⟩ (M.nd r).id 1 M.nw) }))=A2:=⟨_,rfl⟩;have aj:∀W,A2 W↔(PM.fault s t l q m≠0->A0j w W o b M)/\(PM.fault s t l q m=0->A0j w W o b { M with nd:=A0h M.nd r (({ M.nd r with nw:=M.nw }:Nd).A0t k tr ⟨s,t,l,q,st,L,.slice a m c⟩ (M.nd r).id 1 M.nw) }):=λW=>by rw[<-aF]
 have ae:Hid (∀W,Hid (A1 W/\True)->Calls prog 45 #[.pointer (some ⟨P.nb r,0,none⟩),.int .i64 ((k:Int)+1),.agg #[.int .i64 s,.int .i64 t,.int .i64 l,.int .i64 q,.bool st,.slice a m c],.int .i64 M.nw] W λe w'=>e=.returned (A0a (PM.fault s t l q m))/\(w'.cell? ⟨b,1,none⟩=some (.slice (some ⟨rb,0,none⟩) M.n rc)/\w'.cell? ⟨rb,r,none⟩=some (.pointer (some ⟨P.nb r,0,none⟩))/\(w'.cell? ⟨w.heap.size,0,none⟩=some (.int .i64 s)/\w'.cell? ⟨w.heap.size,1,none⟩=some (.int .i64 t)/\w'.cell? ⟨w.heap.size,2,none⟩=some (.int .i64 l)/\w'.cell? ⟨w.heap.size,3,none⟩=some (.int .i64 q)/\w'.cell? ⟨w.heap.size,4,none⟩=some (.bool st)/\w'.cell? ⟨w.heap.size,5,none⟩=some (.slice a m c)))/\Hid (A2 w')):=by
  refine ξ0 ?_;intro W aQ;have hB:=(ah W).1 aQ.out.1;have ax:Below w.heap.size w W:=aw.trans (hB.mono aw.size);have aG:=h.grow ax ξ2;have gN:=aG.nds r hr;by_cases hf:PM.fault s t l q m=0
  ·have aS:Arg W a m L:=hA.below ax;have C:=ξcF (r+1) (P.nb r) k (grow o w ξ2) (P.np r) (M.nd r) tr M.nw s t l q st a m c L W (by omega) gN hk ht hpa au hT.gi hT.ri aS hno hf (λhm ad e=>by
    have:=hF hm ad e;unfold NO.grow;split
    ·exact this
    ·rfl) (M.nd r).nw (ξaN kN kW hK.nw.2) kN.si (by rw[kL];have:=hT.kl;simp;omega)
   rw[hf];refine C.mono ?_;rintro e w' ⟨rfl,hd⟩;obtain⟨o2,P2,r1,r2,r3,r4,r5,r6,r7⟩:=aG.node (i:=r) hr hd;have aT:Chg o A1f w w':=(Chg.of_below ax o A1f).trans (ξ1a r7 (by omega) (by omega)) (ξ3 _ _ _);refine⟨rfl,?_,ξ0 ((aj _).2 ⟨λhx=>absurd hf hx,λ_=>⟨o2,P2,r1,A0u.A16 ((ξ3 o w ξ2).trans r6 ax.size),aT⟩⟩)⟩;have hb:w'.heap[w.heap.size]?=some (.cells #[.int .i64 s,.int .i64 t,.int .i64 l,.int .i64 q,.bool st,.slice a m c] 38 (0,0)):=r7.block ((hB.block _ (lt_of_block ay)).trans ay) (by rw[ξg (Ξo _)];unfold mine;show ¬(0=r+1);omega);obtain⟨g1,g2⟩:=ξQ r1 (r:=r) (show r<M.n from hr) (show P2.nv=.slice (some ⟨rb,0,none⟩) M.n rc by rw[r3];exact aC);rw[r2]at g2;exact⟨g1,g2,by refine⟨?_,?_,?_,?_,?_,?_⟩<;>simp[World.cell?,hb]⟩
  ·refine(ξaL (r+1) (P.nb r) k (grow o w ξ2) (P.np r) (M.nd r) tr M.nw s t l q st a m c W gN hk ht hpa au hf).mono ?_;rintro e w' ⟨rfl,hb⟩;refine⟨rfl,hS w' (hB.trans (hb.mono hB.size)),ξ0 ((aj _).2 ⟨λ_=>A0j.refl h (ax.trans (hb.mono ax.size)),λhx=>absurd hx hf⟩)⟩
 have am:Hid (∀W,A2 W->PM.fault s t l q m=0->Calls prog 47 #[.pointer (some ⟨b,0,none⟩),.int .i64 (r:Int)] W λe w'=>e=.returned (.tuple #[])/\Hid (A0j w w' o b (M.send k r tr ⟨s,t,l,q,st,L,.slice a m c⟩))):=by
  refine ξ0 ?_;intro W hA hf;obtain⟨o2,P2,r1,r2,r3⟩:=((aj _).1 hA).2 hf;have aY:=ξ8e (N:=({ M.nd r with nw:=M.nw }:Nd)) (i:=k) (t:=tr) (p:=⟨s,t,l,q,st,L,.slice a m c⟩) (og:=(M.nd r).id) (h:=1) (now:=M.nw);have aZ:=hT.kl;refine(ξ3w b r o2 P2 _ W r1 hr (by
   show M.fl.length+(A0h M.nd r _ r).lt.length<=_;rw[ξe];have e:({ M.nd r with nw:=M.nw }:Nd).lt.length=0:=by show(M.nd r).lt.length=0;rw[kL];rfl
   omega)).mono ?_
  rintro e w' ⟨rfl,hd⟩;obtain⟨o3,P3,s1,s2,s3⟩:=hd;exact⟨rfl,ξ0 ⟨o3,P3,s1,r2.trans s2 r3.size,Chg.keep r3 s3 r2⟩⟩
 have aq:Hid (∀W,A2 W->PM.fault s t l q m≠0->A0j w W o b M):=ξ0 (λW hA=>((aj W).1 hA).1);have S0:=hS W0.drew ((Ξp _ _).drew);have aH:Hid (A1 W0.drew):=ξ0 ((ah _).2 ((Ξp _ _).drew));obtain⟨f,aI⟩:=nm (PM.fault s t l q m);rw[aI]at ae am aq ⊢;obtain⟨nw,aJ⟩:=nm M.nw;obtain⟨nn,aL⟩:=nm M.n;obtain⟨nb,aM⟩:=nm (P.nb r);rw[aJ]at ai ae;rw[aL]at ai ae S0 hr;rw[aM]at ai ae S0;obtain⟨R,hR⟩:=nm (M.send k r tr ⟨s,t,l,q,st,L,.slice a m c⟩);rw[hR]at am ⊢;have CN:=ξ0 (ai.out W0.drew aH.out);have q1:=ξq f;have q2:=ξp f;obtain⟨bh,bi,bj⟩:=ξ2I hk;have bq:(r:Int)<(nn:Int):=Int.ofNat_lt.2 hr;have bu:((r:Int)==-1)=false:=by simp
 have HW:=ξ0 az;obtain⟨pb,aO⟩:=nm w.heap.size;rw[aO]at S0 CN ae;clear h hK hrt ht hpa hA hno hF hl aP kN kL kW kI au aC hT az aw ay hS aD ah aF aj aH aI aJ aL aM hR hr ai hk;go_enter func12,ntmps12;go_upto_region 1 with fail
 rw[HW.out];go_wp2_with fail;refine(CT.out _).mono ?_;rintro e w1 ⟨rfl,aU⟩;obtain rfl:W0=w1:=aU.symm;go_upto_region 6 with fail;clear aO cr;go_region_held3 (λw'=>w'.cell? ⟨b,1,none⟩=some (.slice (some ⟨rb,0,none⟩) nn rc)/\w'.cell? ⟨rb,r,none⟩=some (.pointer (some ⟨nb,0,none⟩))/\(w'.cell? ⟨pb,0,none⟩=some (.int .i64 s)/\w'.cell? ⟨pb,1,none⟩=some (.int .i64 t)/\w'.cell? ⟨pb,2,none⟩=some (.int .i64 l)/\w'.cell? ⟨pb,3,none⟩=some (.int .i64 q)/\w'.cell? ⟨pb,4,none⟩=some (.bool st)/\w'.cell? ⟨pb,5,none⟩=some (.slice a m c))) (with_reducible assumption) (first|(go_at_call 46;refine CN.out.mono ?_;rintro e w4 ⟨rfl,aV,aW⟩)|(go_at_call 45;refine(ae.out _ (by with_reducible assumption)).mono ?_;rintro e w5 ⟨rfl,aX,aA⟩));clear aX S0 CN ae aV aW;by_cases hf0:f=0
 ·have d0:decide (f=0)=true:=by simpa using hf0
  have CO:=ξ0 (am.out w5 aA.out hf0);have HF:=ξ0 hf0;clear am aA aq hf0;go_wp2_with fail;refine CO.out.mono ?_;rintro e w6 ⟨rfl,HR⟩;go_wp2_with fail;go_ret;exact⟨by rw[HF.out];rfl,λhx=>absurd HF.out hx,λ_=>HR.out⟩
 ·have d0:decide (f=0)=false:=by simpa using hf0
  have HR:=ξ0 (aq.out w5 aA.out hf0);have HF:=ξ0 hf0;clear am aA aq hf0;go_wp2_with fail;go_ret;exact⟨rfl,λ_=>HR.out,λhx=>absurd hx HF.out⟩
def outs(i:Nat)(l:List (Int×List Nat)):List Fl:=l.map λl=>⟨(i:Int),l.1,l.2⟩
def Ms.A0n(M:Ms)(now:Int)(j:Nat):Ms:={ M with nw:=now,nd:=λk=>if k<j then { (M.nd k).tick now with lt:=[] }else M.nd k,fl:=M.fl++(List.range j).flatMap λk=>outs k ((M.nd k).tick now).lt }
theorem ξ7B(M:Ms)(now:Int):M.A0n now 0={ M with nw:=now }:=by
 unfold Ms.A0n;simp
theorem ξaz(M:Ms)(now:Int)(j:Nat):(M.A0n now j).nd j=M.nd j:=if_neg (Nat.lt_irrefl j)
theorem ξ7C(M:Ms)(now:Int)(j:Nat):({ M.A0n now j with nd:=A0h (M.A0n now j).nd j ((M.nd j).tick now) }:Ms).out j=M.A0n now (j+1):=by
 unfold Ms.out Ms.A0n;simp only[ξe,List.range_succ,List.flatMap_append,List.flatMap_cons,List.flatMap_nil,Ξu,<-List.append_assoc]
 congr 1
 funext k
 by_cases c:k=j
 ·subst c;rw[ξe,if_pos (Nat.lt_succ_self k)]
 ·rw[ξh _ _ c,ξh _ _ c];by_cases c2:k<j
  ·rw[if_pos c2,if_pos (by omega)]
  ·rw[if_neg c2,if_neg (by omega)]
theorem ξ8i(N:Nd)(now:Int):(N.tick now).nw=now/\(N.tick now).id=N.id/\(N.tick now).lt.length<=N.lt.length+8+N.sb.length:=by
 unfold Nd.tick;obtain⟨a1,a2,a3,a4,a5,a6,a7,a8⟩:=ξ1c ({ N with nw:=now }:Nd) now 8;obtain⟨b1,b2,b3,b4,b5,b6⟩:=ξ2n now (((({ N with nw:=now }:Nd).A0i now 8).A27 now).sb) ((({ N with nw:=now }:Nd).A0i now 8).A27 now);refine⟨b1.trans a1,b2.trans a2,?_⟩;refine Nat.le_trans b6 ?_;have e:((({ N with nw:=now }:Nd).A0i now 8).A27 now).sb.length=N.sb.length:=by
  show(A5h now _).length=_;unfold A5h;rw[Ξm];exact asks_len now 8
 rw[e];exact Nat.add_le_add_right a8 _
 where
 asks_len {N:Nd} (now:Int):∀j,(N.A0i now j).sb.length=N.sb.length
  | 0=>rfl
  | j+1=>by
    have ih:=asks_len (N:=N) now j;show((N.A0i now j).A1v j now).sb.length=_;rw[<-ih];unfold Nd.A1v;split
    ·rfl
    ·split
     ·rfl
     ·simp[ξ6z]
theorem ξcX(M:Ms)(now:Int):∀j,(∀k,k<j->((M.nd k).tick now).lt.length<=28)->((List.range j).flatMap λk=>outs k ((M.nd k).tick now).lt).length<=28*j:=by
 intro j
 induction j with
 | zero=>intro _;simp
 | succ j ih=>
   intro h;rw[List.range_succ,List.flatMap_append,Ξh];have:=ih (λk hk=>h k (by omega));have:=h j (by omega);simp[outs]at *;omega
theorem MOk.A9m(h:MOk M)(now:Int)(hk:k<M.n):((M.nd k).tick now).lt.length<=28:=by
 obtain⟨k1,k2,k3,k4⟩:=h.nd k hk;have h1:=(ξ8i (M.nd k) now).2.2;have h2:=k1.si.len;rw[k2]at h1;have e:([]:List (Int×List Nat)).length=0:=rfl;omega
theorem MOk.A0n(h:MOk M)(h0:M.nw<=now)(h1:now<=1000000)(j:Nat):MOk (M.A0n now j):=by
 refine⟨h.n1,h.n16,⟨Int.le_trans h.nw.1 h0,h1⟩,?_⟩;intro i hi;obtain⟨k1,k2,k3,k4⟩:=h.nd i hi;show A0v M.n (if i<j then { (M.nd i).tick now with lt:=[] }else M.nd i)/\(if i<j then { (M.nd i).tick now with lt:=[] }else M.nd i).lt=[]/\(if i<j then { (M.nd i).tick now with lt:=[] }else M.nd i).nw<=now/\(if i<j then { (M.nd i).tick now with lt:=[] }else M.nd i).id=_;obtain⟨t1,t2,_⟩:=ξ8i (M.nd i) now;split
 ·exact⟨(k1.tick (Int.le_trans k3 h0) h1).letters _,rfl,by show((M.nd i).tick now).nw<=now;rw[t1];exact Int.le_refl _,t2.trans k4⟩
 ·exact⟨k1,k2,Int.le_trans k3 h0,k4⟩
theorem MAt.A7p(h:MAt w o b P M)(j:Nat)(v:Value)(M':Ms)(hm:∀cs,A2t cs P M->A2t (cs.setIfInBounds j v) P M')(e1:M'.n=M.n)(e2:M'.nd=M.nd)(e3:M'.E=M.E)(e4:M'.sb=M.sb)(e5:M'.fl=M.fl):MAt (w.setCell ⟨b,j,none⟩ v) o b P M'/\Chg o A1f w (w.setCell ⟨b,j,none⟩ v):=by
 have ho:Only [b] w (w.setCell ⟨b,j,none⟩ v):=(Only.refl _ _).setCell (by simp) _;obtain⟨cs,h1,h2⟩:=h.box;have hc:Chg o (λg=>g=⟨1000,0,0⟩) w (w.setCell ⟨b,j,none⟩ v):=Chg.A1j ho (λk hk=>by simp at hk;subst hk;exact h.tag) (λk hk=>by simp at hk;subst hk;exact h.A9k);have no:∀c j,(c,j)≠((0:Nat),(0:Int))->¬((⟨1000,c,j⟩:Tg)=⟨1000,0,0⟩):=λc j hne e=>hne (by cases e;rfl);refine⟨⟨by rw[e1];exact h.n16,?_,h.tag,by rw[e1];exact ξK h.nrow hc h.nrt (no _ _ (by decide)),h.nrt,?_,by rw[e3];exact ξ1A h.edg hc h.edt (no _ _ (by decide)),by rw[e3];exact h.edc,by rw[e3];exact h.edt,by rw[e4];exact ξK h.srow hc h.srt (no _ _ (by decide)),h.srt,by rw[e5];exact h.fly.chg hc h.flt (no _ _ (by decide)) (λg hg=>by subst hg;decide) (Ext.refl _ _),h.flt⟩,hc.mono (λt ht=>by subst ht;unfold A1f;decide)⟩
 ·exact⟨_,Gaps.A46 h1 j v,hm cs h2⟩
 ·intro i hi;have ae:=h.n16;rw[e1]at hi;rw[e2];exact(h.nds i hi).chg hc (λg hg=>by subst hg;exact⟨by decide,by show 1000≠i+1;omega⟩) (Ext.refl _ _)
theorem MAt.setNow(h:MAt w o b P M)(x:Int):MAt (w.setCell ⟨b,0,none⟩ (.int .i64 x)) o b P { M with nw:=x }/\Chg o A1f w (w.setCell ⟨b,0,none⟩ (.int .i64 x)):=by
 refine h.A7p 0 (.int .i64 x) _ ?_ rfl rfl rfl rfl rfl;intro cs h2;have hs:=h2.sz;refine⟨by simpa using hs,?_,?_,?_,?_,?_,?_⟩
 ·rw[Array.getElem?_setIfInBounds_self_of_lt (by omega)]
 ·rw[Ξc (by omega)];exact h2.c1
 ·rw[Ξc (by omega)];exact h2.c2
 ·intro i hi;rw[Ξc (by omega)];exact h2.cr i hi
 ·rw[Ξc (by omega)];exact h2.c11
 ·rw[Ξc (by omega)];exact h2.c12
def A7q(g:Tg):Prop:=g=⟨1000,0,0⟩∨g=⟨1000,3,0⟩
theorem ξ6w{g:Tg}(h:A7q g):g.n=1000:=by rcases h with rfl|rfl<;>rfl
theorem ξ9d{w':World}(h:Chg o A7q w w'):Chg o A1f w w':=h.mono (λt ht=>by unfold A1f;rw[ξ6w ht];decide)
theorem ξex(l:List (Int×Int))(x y:Int):sbc (l++[(x,y)])=sbc l++[.int .i64 x,.int .i64 y]:=by simp[sbc]
theorem ξew(l:List (Int×Int)):∀(j:Nat) (x:Int×Int),l[j]?=some x->(sbc l)[j*2]?=some (.int .i64 x.1)/\(sbc l)[j*2+1]?=some (.int .i64 x.2):=by
 induction l with
 | nil=>intro j x h;simp at h
 | cons y l ih=>
   intro j x h;have e:sbc (y::l)=.int .i64 y.1::.int .i64 y.2::sbc l:=rfl;cases j with
   | zero=>
     rw[List.getElem?_cons_zero]at h;cases h;exact⟨rfl,rfl⟩
   | succ j=>
     have:=ih j x (by simpa using h);rw[e,show(j+1)*2=j*2+1+1 by omega];simpa using this
theorem A2t.A47{cs:Array Value}(h:A2t cs P M)(v:Value)(F:List (Int×Int)):A2t (cs.setIfInBounds 11 v) { P with sv:=v } { M with sb:=F }:=by
 have hs:=h.sz;refine⟨by simpa using h.sz,?_,?_,?_,?_,?_,?_⟩
 ·rw[Ξc (by omega)];exact h.c0
 ·rw[Ξc (by omega)];exact h.c1
 ·rw[Ξc (by omega)];exact h.c2
 ·intro i hi;rw[Ξc (by omega)];exact h.cr i hi
 ·rw[Array.getElem?_setIfInBounds_self_of_lt (by omega)]
 ·rw[Ξc (by omega)];exact h.c12
theorem MAt.sne(h:MAt w o b P M):∀k,P.sv.ownBlock=some k->k≠b:=by
 intro k hk e;have:=h.srt k (by simp[hk]);rw[e,h.tag]at this;cases this
theorem ξaD{W w1 w2:World}{g cap:Nat}{x y:Int}(h:MAt W o b P M)(hb:Below W.heap.size W w1)(hown:w2.ownsRow 0 104 2 (.slice (some ⟨g,0,none⟩) (M.sb.length+1) cap) (M.sb.length+1) (sbc M.sb++[.int .i64 x,.int .i64 y]))(hgrow:w1.grownBy w2 P.sv.ownBlock)(hat:P.sv.ownBlock=some g∨W.heap.size<=g) :
 w2.cell? ⟨b,11,none⟩=some P.sv/\w2.frozen? ⟨b,11,none⟩=false/\(w2.setCell ⟨b,11,none⟩ (.slice (some ⟨g,0,none⟩) (M.sb.length+1) cap)).cell? ⟨b,11,none⟩=some (.slice (some ⟨g,0,none⟩) (M.sb.length+1) cap)/\A0j W (w2.setCell ⟨b,11,none⟩ (.slice (some ⟨g,0,none⟩) (M.sb.length+1) cap)) o b { M with sb:=M.sb++[(x,y)] }:=by
 obtain⟨cs,h1,h2⟩:=h.box;obtain⟨v',ah⟩:=nm (Value.slice (some ⟨g,0,none⟩) (M.sb.length+1) cap);have ai:v'.ownBlock=some g:=by rw[<-ah];rfl
 rw[ah]at hown ⊢;have aj:=h.sne;have ho:Only P.sv.ownBlock.toList W w2:=(Only.of_below hb _).grown hgrow (by intro k hk;simp[hk]);have ae:w2.heap[b]?=some (.cells cs 96 (0,0)):=ho.block h1 (λhm=>aj b (by simpa using hm) rfl);have hO:Only (b::P.sv.ownBlock.toList) W (w2.setCell ⟨b,11,none⟩ v'):=(ho.mono (λk hk=>List.mem_cons_of_mem _ hk)).setCell (by simp) _;have hc:Chg o A7q W (w2.setCell ⟨b,11,none⟩ v'):=by
  refine Chg.A1j hO ?_ ?_
  ·intro k hk;rcases Ξf.1 hk with rfl|hk
   ·exact .inl h.tag
   ·exact .inr (h.srt k hk)
  ·intro k hk;rcases Ξf.1 hk with rfl|hk
   ·exact h.A9k
   ·rcases h.srow.2 with⟨e,_⟩|⟨g',cap',cur,e,_,hg,_⟩
    ·rw[e]at hk;simp[Value.ownBlock]at hk
    ·rw[e]at hk;simp[Value.ownBlock]at hk;subst hk;exact ξi hg (by decide)
 obtain⟨o',am⟩:=nm (grow o W ⟨1000,3,0⟩);have he:Ext W o o':=by rw[<-am];exact ξ3 _ _ _
 have h0:∀g,A7q g->g.n≠0:=λg hg=>by rw[ξ6w hg];decide
 have aq:(w2.setCell ⟨b,11,none⟩ v').heap[b]?=some (.cells (cs.setIfInBounds 11 v') 96 (0,0)):=heap_setCell_same w2 b 11 cs _ v' ae;have au:=(h2.A47 v' (M.sb++[(x,y)])).c11;refine⟨by simp[World.cell?,ae,h2.c11],by simp[World.frozen?,ae],by simp only[World.cell?,aq];exact au,o',{ P with sv:=v' },⟨h.n16,⟨_,aq,h2.A47 v' _⟩,(he _ h.lt).trans h.tag,ξK h.nrow hc h.nrt (by simp[A7q]),h.nrt.ext he (λk hk=>ξB h.nrow (by simpa using hk)),?_,ξ1A h.edg hc h.edt (by simp[A7q]),h.edc,?_,?_,?_,h.fly.chg hc h.flt (by simp[A7q]) h0 he,h.flt.ext he h.fly.lt⟩,A0u.A16 he,ξ9d hc⟩
 ·intro i hi;have:=h.n16;have aw:i<M.n:=hi;exact(h.nds i hi).chg hc (λg hg=>⟨h0 g hg,by rw[ξ6w hg];omega⟩) he
 ·intro ad e hm;rw[he _ (ξ2e h.edg e hm)];exact h.edt ad e hm
 ·show World.ownsRow _ 0 104 2 v' (M.sb++[(x,y)]).length (sbc (M.sb++[(x,y)]));rw[ξex,Ξh];refine(Only.setCell (bs:=[b]) (Only.refl _ w2) (by simp) _).owns hown ?_;intro k hk;rw[ai]at hk;cases hk;simp only[Ξg];rcases hat with e|e
  ·exact aj g e
  ·have:=lt_of_block h1;omega
 ·intro k hk;rw[ai]at hk;simp at hk;subst hk;rcases hat with e|e
  ·exact(he _ (ξB h.srow e)).trans (h.srt k (by simp[e]))
  ·rw[<-am];exact ξg e
theorem ξaE(b:Nat)(o:Nat->Tg)(P:MP)(M:Ms)(tk at' mo:Int)(w:World)(h:MAt w o b P M)(hr:¬(0<=at'/\at'<(M.n:Int))) :
 Calls prog 9 #[.pointer (some ⟨b,0,none⟩),.int .i64 tk,.int .i64 at',.int .i64 mo] w λe w'=>e=.returned (.tuple #[.int .i64 0,A0a 1])/\w'=w:=by
 have CI:=ξ0 (ξm b o P M at' w h);rw[decide_eq_false hr]at CI;clear h hr;go_enter func9,ntmps9;go_wp2_with fail
 refine CI.out.mono ?_;rintro e w1 ⟨rfl,rfl⟩;go_wp2_with fail;go_ret2;exact⟨rfl,rfl⟩
theorem ξcB(b r:Nat)(o:Nat->Tg)(P:MP)(M:Ms)(tk mo:Int)(w:World)(h:MAt w o b P M)(hr:r<M.n)(hf:sF (M.nd r) tk mo≠0)(hI:A2v (M.nd r).sb (M.nd r).ls) :
 Calls prog 9 #[.pointer (some ⟨b,0,none⟩),.int .i64 tk,.int .i64 (r:Int),.int .i64 mo] w λe w'=>e=.returned (.tuple #[.int .i64 0,A0a (sF (M.nd r) tk mo)])/\Below w.heap.size w w':=by
 have CI:=ξ0 (ξm b o P M (r:Int) w h);rw[decide_eq_true ⟨Int.natCast_nonneg r,Int.ofNat_lt.2 hr⟩]at CI;obtain⟨rb,rc,ah,ae⟩:=h.A5j hr;obtain⟨c1,c2⟩:=ξQ h hr ah;have CS:=ξ0 (ξeq (r+1) (P.nb r) o (P.np r) (M.nd r) tk mo w (h.nds r hr) hI hf);obtain⟨nb,ai⟩:=nm (P.nb r);obtain⟨nn,aj⟩:=nm M.n;obtain⟨f,am⟩:=nm (sF (M.nd r) tk mo);rw[ai]at c2 CS;rw[aj]at c1 hr;rw[am]at CS hf ⊢;have au:(r:Int)<(nn:Int):=Int.ofNat_lt.2 hr;have q1:=ξq f;have q2:=ξp f;have d0:decide (f=0)=false:=by simpa using hf
 clear h ah ae hI hf ai aj am hr;go_enter func9,ntmps9;go_wp2_with fail
 refine CI.out.mono ?_;rintro e w1 ⟨rfl,aq⟩;obtain rfl:w=w1:=aq.symm;go_wp2_with fail;refine CS.out.mono ?_;rintro e w2 ⟨rfl,hb⟩;have HB:=ξ0 hb;clear hb CS c1 c2;go_wp2_with fail;go_ret2;exact⟨rfl,HB.out⟩
def Ms.sub(M:Ms)(r:Nat)(tk mo:Int):Ms:={ M with nd:=A0h M.nd r ((M.nd r).subs tk mo),sb:=M.sb++[((r:Int),(M.nd r).ls+1)] }
theorem ξaF(b r:Nat)(o:Nat->Tg)(P:MP)(M:Ms)(tk mo:Int)(w:World)(h:MAt w o b P M)(hr:r<M.n)(hf:sF (M.nd r) tk mo=0)(hI:A2v (M.nd r).sb (M.nd r).ls)(hls:(M.nd r).ls<1000000)(hl:M.sb.length<=1000000) :
 Calls prog 9 #[.pointer (some ⟨b,0,none⟩),.int .i64 tk,.int .i64 (r:Int),.int .i64 mo] w λe w'=>e=.returned (.tuple #[.int .i64 ((M.sb.length:Int)+1),.nilIface])/\A0j w w' o b (M.sub r tk mo):=by
 have aC:=h.n16;have CI:=ξ0 (ξm b o P M (r:Int) w h);rw[decide_eq_true ⟨Int.natCast_nonneg r,Int.ofNat_lt.2 hr⟩]at CI;obtain⟨rb,rc,ax,ai⟩:=h.A5j hr;obtain⟨c1,c2⟩:=ξQ h hr ax;obtain⟨sa,sc,aj⟩:∃a c,P.sv=.slice a M.sb.length c:=by
  rcases h.srow.2 with⟨e,h0⟩|⟨g,cap,cur,e,_⟩
  ·exact⟨none,0,by rw[e,h0]⟩
  ·exact⟨_,_,e⟩
 obtain⟨sl,au⟩:=nm M.sb.length;obtain⟨id,aw⟩:=nm ((M.nd r).ls+1);have CS:Hid (Calls prog 40 #[.pointer (some ⟨P.nb r,0,none⟩),.int .i64 tk,.int .i64 mo] w λe w'=>e=.returned (.tuple #[.int .i64 id,.nilIface])/\w'.cell? ⟨b,11,none⟩=some (.slice sa sl sc)/\Hid (w'.ownsRow 0 104 2 (.slice sa sl sc) sl (sbc M.sb))/\Hid (∀g cap w2,w2.ownsRow 0 104 2 (.slice (some ⟨g,0,none⟩) (sl+1) cap) (sl+1) (sbc M.sb++[.int .i64 (r:Int),.int .i64 id])->(w'.alloc (.cells #[.int .i64 (r:Int),.int .i64 id] 104)).grownBy w2 (Value.slice sa sl sc).ownBlock->((Value.slice sa sl sc).ownBlock=some g∨g=w'.heap.size+1)->w2.cell? ⟨b,11,none⟩=some (.slice sa sl sc)/\w2.frozen? ⟨b,11,none⟩=false/\(w2.setCell ⟨b,11,none⟩ (.slice (some ⟨g,0,none⟩) (sl+1) cap)).cell? ⟨b,11,none⟩=some (.slice (some ⟨g,0,none⟩) (sl+1) cap)/\Hid (A0j w (w2.setCell ⟨b,11,none⟩ (.slice (some ⟨g,0,none⟩) (sl+1) cap)) o b (M.sub r tk mo)))):=by
  refine ξ0 ((ξfR (r+1) (P.nb r) o (P.np r) (M.nd r) tk mo w (by omega) (h.nds r hr) hI hls hf).mono ?_);rintro e w' ⟨rfl,hd⟩;obtain⟨o2,P2,r1,r2,r3,r4,r5,r6,r7⟩:=h.node (i:=r) hr hd;have c11:=r1.cells.2.2.2.1;have row:=r1.srow;rw[r5,aj]at c11 row;have row:w'.ownsRow 0 104 2 (.slice sa M.sb.length sc) M.sb.length (sbc M.sb):=row;rw[au]at c11 row;refine⟨by rw[aw],c11,ξ0 row,ξ0 ?_⟩;intro g cap w2 ah ae am;rw[<-au]at ah ae am ⊢;obtain⟨s1,s2,s3,s4⟩:=ξaD r1 (w1:=w'.alloc (.cells #[.int .i64 (r:Int),.int .i64 id] 104)) ((Ξp _ _).alloc (Ξo _) _) ah (by rw[r5,aj];exact ae) (by
   rw[r5,aj];rcases am with e|e
   ·exact .inl e
   ·exact .inr (by omega))
  rw[r5,aj]at s1;refine⟨s1,s2,s3,ξ0 ?_⟩;obtain⟨o3,P3,t1,t2,t3⟩:=s4;refine⟨o3,P3,?_,(A0u.A16 r6).trans t2 r7.size,Chg.keep (ξ1a r7 (by omega) (by omega)) t3 (A0u.A16 r6)⟩;unfold Ms.sub;rw[aw];exact t1
 obtain⟨nb,ay⟩:=nm (P.nb r);obtain⟨nn,az⟩:=nm M.n;rw[ay]at c2 CS;rw[az]at c1 hr;rw[au]at hl ⊢;have aI:(r:Int)<(nn:Int):=Int.ofNat_lt.2 hr;obtain⟨R,hR⟩:=nm (M.sub r tk mo);rw[hR]at CS ⊢;obtain⟨xs,aA⟩:=nm (sbc M.sb);rw[aA]at CS;obtain⟨i0,aD,aE,aF,aG⟩:∃i0,prog.info? 104=some i0/\i0.zero=some (.agg #[.int .i64 0,.int .i64 0])/\i0.size=2/\i0.bytes=16:=⟨_,rfl,rfl,rfl,rfl⟩;clear h ax ai hI hf ay az hr aj au aw hls aC hR aA;go_enter func9,ntmps9;go_wp2_with fail
 refine CI.out.mono ?_;rintro e w1 ⟨rfl,aH⟩;obtain rfl:w=w1:=aH.symm;go_wp2_with fail;refine CS.out.mono ?_;rintro e w2 ⟨rfl,c11,aq,HSt⟩;clear CS c1 c2 CI;go_wp2_with (at_builtin;refine wpList_append_lies _ rfl _ _ 92 rfl 0 104 i0 _ 2 16 underlying92 aD aE aF aG rfl (by decide) _ sl xs rfl (aq.out.alloc _) ⟨w2.heap.size,0,none⟩ 1 1 [.int .i64 (r:Int),.int .i64 id] rfl rfl (World.news_of_block (cs:=#[.int .i64 (r:Int),.int .i64 id]) (t:=104) (fr:=(0,0)) (heap_alloc_new w2 _)) ?c2 (by omega) ?b1 ?b2 (Nat.zero_le _) (w2.heap.size+1) (by simp) ?next)
 case c2=>intro u hu;simp at hu;rcases hu with rfl|rfl<;>rfl
 case b1=>unfold maxLen;omega
 case b2=>omega
 case next=>
  intro g cap w3 ah ae am _;obtain⟨k1,k2,k3,HD⟩:=HSt.out g cap w3 ah ae am;clear ah ae am HSt aq c11;go_wp2_with fail;go_ret2;exact⟨by go_num,HD.out⟩
def B0t(w w':World)(o:Nat->Tg)(b:Nat)(M:Ms)(lv:Value)(G:List Pk):Prop:=∃o' P,MAt w' o' b P M/\ξO w' o' lv G/\Own o' ξ2 lv.ownBlock.toList/\A0u w o o'/\Chg o A1f w w'
def Ms.got(M:Ms)(r:Nat)(A:List (Int×Sb))(id:Int)(s:Sb)(B:List (Int×Sb)):Ms:={ M with nd:=A0h M.nd r { M.nd r with sb:=A++(id,{ s with got:=[] })::B } }
theorem ξ39(b j r:Nat)(id:Int)(o:Nat->Tg)(P:MP)(M:Ms)(s:Sb)(A B:List (Int×Sb))(w:World)(h:MAt w o b P M)(hj:M.sb[j]?=some ((r:Int),id))(hr:r<M.n)(hs:(M.nd r).sb=A++(id,s)::B)(hI:A2v (M.nd r).sb (M.nd r).ls)(hl:M.sb.length<=1000000) :
 Calls prog 14 #[.pointer (some ⟨b,0,none⟩),.int .i64 ((j:Int)+1)] w λe w'=>∃a c,e=.returned (.tuple #[.slice a s.got.length c,.nilIface])/\B0t w w' o b (M.got r A id s B) (.slice a s.got.length c) s.got:=by
 have aD:=h.n16;obtain⟨am,_⟩:=List.getElem?_eq_some_iff.1 hj;obtain⟨sb,sc,ax,aE⟩:∃sb sc,P.sv=.slice (some ⟨sb,0,none⟩) M.sb.length sc/\(w.cell? ⟨sb,j*2,none⟩=some (.int .i64 (r:Int))/\w.cell? ⟨sb,j*2+1,none⟩=some (.int .i64 id)):=by
  rcases h.srow.2 with⟨_,h0⟩|⟨g,cap,cur,e,_⟩
  ·omega
  ·have hc:=h.srow.cells (g:=g) (by rw[e];rfl);obtain⟨g1,g2⟩:=ξew M.sb j _ hj;have k1:=hc _ _ g1;have k2:=hc _ _ g2;rw[Addr.add_lit,Nat.zero_add]at k1 k2;exact⟨g,cap,e,k1,k2⟩
 have c11:=h.cells.2.2.2.1;rw[ax]at c11;obtain⟨rb,rc,aq,ae⟩:=h.A5j hr;obtain⟨s0,s1⟩:=aE;obtain⟨W0,ah⟩:=nm (w.alloc (.cells #[.int .i64 (r:Int),.int .i64 id] 104));have ai:Below w.heap.size w W0:=by rw[<-ah];exact(Ξp _ _).alloc (Ξo _) _
 have au:W0.heap[w.heap.size]?=some (.cells #[.int .i64 (r:Int),.int .i64 id] 104 (0,0)):=by rw[<-ah];exact heap_alloc_new w _
 have hM:=h.grow ai.drew ξ2;obtain⟨c1,c2⟩:=ξQ hM hr aq;have aw:W0.drew.heap[w.heap.size]?=some (.cells #[.int .i64 (r:Int),.int .i64 id] 104 (0,0)):=au;have b0:W0.drew.cell? ⟨w.heap.size,0,none⟩=some (.int .i64 (r:Int)):=by simp[World.cell?,aw]
 have b1:W0.drew.cell? ⟨w.heap.size,1,none⟩=some (.int .i64 id):=by simp[World.cell?,aw]
 obtain⟨gl,aj⟩:=nm s.got.length;have CG:Hid (Calls prog 49 #[.pointer (some ⟨P.nb r,0,none⟩),.int .i64 id] W0.drew λe w'=>∃a c,e=.returned (.tuple #[.slice a gl c,.nilIface])/\(w'.cell? ⟨b,1,none⟩=some (.slice (some ⟨rb,0,none⟩) M.n rc)/\w'.cell? ⟨rb,r,none⟩=some (.pointer (some ⟨P.nb r,0,none⟩))/\w'.cell? ⟨w.heap.size,0,none⟩=some (.int .i64 (r:Int))/\w'.cell? ⟨w.heap.size,1,none⟩=some (.int .i64 id))/\Hid (B0t w w' o b (M.got r A id s B) (.slice a gl c) s.got)):=by
  refine ξ0 ((ξbI (r+1) (P.nb r) _ (P.np r) (M.nd r) id s A B W0.drew (by omega) (hM.nds r hr) hs hI).mono ?_);rintro e w' ⟨a,c,rfl,o',Q,g1,g2,g3,g4,g5⟩;have hm:=hM.B0s hr g1 g4 g5;have ay:w'.heap[w.heap.size]?=some (.cells #[.int .i64 (r:Int),.int .i64 id] 104 (0,0)):=g5.block (show W0.drew.heap[w.heap.size]?=_ from au) (by rw[ξg (Ξo _)];unfold mine;show ¬(0=r+1);omega);obtain⟨d1,d2⟩:=ξQ hm (show r<M.n from hr) (show _=Value.slice (some ⟨rb,0,none⟩) M.n rc from aq);rw[aj]at g2 g3;refine⟨a,c,by rw[aj],⟨d1,d2,by simp[World.cell?,ay],by simp[World.cell?,ay]⟩,ξ0 ⟨o',_,hm,g2,g3,?_,?_⟩⟩
  ·exact(A0u.A16 (ξ3 o w ξ2)).trans (Ret.keep (n:=r+1) g4 (by omega) (by omega)) ai.drew.size
  ·exact(Chg.of_below ai.drew o A1f).trans (ξ1a g5 (by omega) (by omega)) (ξ3 _ _ _)
 rw[aj];obtain⟨G,hG⟩:=nm s.got;rw[hG]at CG ⊢;obtain⟨R,hR⟩:=nm (M.got r A id s B);rw[hR]at CG ⊢;obtain⟨nb,az⟩:=nm (P.nb r);obtain⟨nn,aA⟩:=nm M.n;obtain⟨sl,aC⟩:=nm M.sb.length;obtain⟨pb,aF⟩:=nm w.heap.size;rw[az]at c2 CG;rw[aA]at c1 hr CG;rw[aC]at c11 hl am;rw[aF]at CG b0 b1;have aH:(r:Int)<(nn:Int):=Int.ofNat_lt.2 hr;have aI:(j:Int)<(sl:Int):=Int.ofNat_lt.2 am;have aJ:¬((j:Int)+1<1):=by omega
 have aL:¬((sl:Int)<(j:Int)+1):=by omega
 have aM:wrap64 ((j:Int)+1-1)=(j:Int):=by unfold wrap64;omega
 have aO:wrap64 (j:Int)=(j:Int):=by unfold wrap64;omega
 have S0:W0.drew.cell? ⟨b,1,none⟩=some (.slice (some ⟨rb,0,none⟩) nn rc)/\W0.drew.cell? ⟨rb,r,none⟩=some (.pointer (some ⟨nb,0,none⟩))/\W0.drew.cell? ⟨pb,0,none⟩=some (.int .i64 (r:Int))/\W0.drew.cell? ⟨pb,1,none⟩=some (.int .i64 id):=⟨c1,c2,b0,b1⟩;have HW:=ξ0 ah;clear h hj hs hI hl aD ax aq ae ah ai au aw hM aj hG hR az aA aC hr am c1 c2 b0 b1;go_enter func14,ntmps14;go_upto_region 4 with fail
 rw[HW.out];clear c11 s0 s1 HW;go_region_held3 (λw'=>w'.cell? ⟨b,1,none⟩=some (.slice (some ⟨rb,0,none⟩) nn rc)/\w'.cell? ⟨rb,r,none⟩=some (.pointer (some ⟨nb,0,none⟩))/\w'.cell? ⟨pb,0,none⟩=some (.int .i64 (r:Int))/\w'.cell? ⟨pb,1,none⟩=some (.int .i64 id)) (with_reducible assumption) (first|(go_at_call 49;refine CG.out.mono ?_;rintro e w4 ⟨a4,c4,rfl,aP,aG⟩));go_wp2_with fail
 go_ret2;exact⟨_,_,rfl,aG.out⟩
structure A8c(I:Nat->Ms->Prop):Prop where
 ok:∀g M,I g M->MOk M/\M.fl.length<=500000
 step:∀g M f F,I g M->M.fl=f::F->∃m,A35 M f m/\∀bv,∃g',g'<g/\I g' (M.land 0 f m bv)
theorem ξ6e(I:Nat->Ms->Prop)(hF:A8c I)(g0 b:Nat)(o:Nat->Tg)(P:MP)(M:Ms)(w:World)(h:MAt w o b P M)(hI:I g0 M) :
 Calls prog 48 #[.pointer (some ⟨b,0,none⟩)] w λe w'=>e=.returned (.bool (decide (0<M.fl.length)))/\∃g' M',A0j w w' o b M'/\I g' M'/\M'.fl=[]:=by
 obtain⟨D,hD⟩:∃D:World->Nat->Ms->Prop,(λW g M'=>A0j w W o b M'/\I g M')=D:=⟨_,rfl⟩;have ai:∀W g M',D W g M'↔A0j w W o b M'/\I g M':=λW g M'=>by rw[<-hD]
 have aj:Hid (∀W g M',D W g M'->Calls prog 60 #[.pointer (some ⟨b,0,none⟩)] W λe w'=>e=.returned (.int .i64 (M'.fl.length:Int))/\w'=W):=by
  refine ξ0 ?_;intro W g M' hA;obtain⟨⟨o1,P1,g1,g2,g3⟩,g4⟩:=(ai _ _ _).1 hA;exact ξ7l b o1 P1 M' W g1
 have ae:Hid (∀W g M',D W g M'->0<M'.fl.length->Calls prog 41 #[.pointer (some ⟨b,0,none⟩),.int .i64 0] W λe w'=>e=.returned .nilIface/\∃g2 M2,g2<g/\Hid (D w' g2 M2)):=by
  refine ξ0 ?_;intro W g M' hA hl;obtain⟨⟨o1,P1,g1,g2,g3⟩,g4⟩:=(ai _ _ _).1 hA;obtain⟨f,F,hf⟩:∃f F,M'.fl=f::F:=by
   cases e:M'.fl with
   | nil=>rw[e]at hl;simp at hl
   | cons f F=>exact⟨f,F,rfl⟩
  obtain⟨m,hL,hm⟩:=hF.step g M' f F g4 hf;obtain⟨k1,k2⟩:=hF.ok g M' g4;refine(ξ26 b o1 P1 M' 0 f m W g1 k1 (by rw[hf];rfl) hL k2).mono ?_;rintro e w' ⟨rfl,bv,hd⟩;obtain⟨o2,P2,r1,r2,r3⟩:=hd;obtain⟨g',am,az⟩:=hm bv;exact⟨rfl,g',_,am,ξ0 ((ai _ _ _).2 ⟨⟨o2,P2,r1,g2.trans r2 g3.size,Chg.keep g3 r3 g2⟩,az⟩)⟩
 have ah:Hid (∀W g M',D W g M'->M'.fl.length=0->∃g' M',A0j w W o b M'/\I g' M'/\M'.fl=[]):=by
  refine ξ0 ?_;intro W g M' hA h0;obtain⟨g1,g4⟩:=(ai _ _ _).1 hA;exact⟨g,M',g1,g4,Ξk h0⟩
 have au:Hid (D w g0 M):=ξ0 ((ai _ _ _).2 ⟨A0j.refl h (Ξp _ _),hI⟩);obtain⟨R,hR⟩:∃R:World->Prop,(λW=>∃g' M',A0j w W o b M'/\I g' M'/\M'.fl=[])=R:=⟨_,rfl⟩;have aw:∀W,(∃g' M',A0j w W o b M'/\I g' M'/\M'.fl=[])=R W:=λW=>by rw[<-hR]
 simp only[aw]at ah ⊢;have C0:=ξ0 (aj.out w g0 M au.out);obtain⟨n0,ax⟩:=nm M.fl.length;rw[ax]at C0 ⊢;clear h hI hF hD ai hR aw ax;go_enter func48,ntmps48;go_wp2_with fail
 refine C0.out.mono ?_;rintro e w1 ⟨rfl,aA⟩;obtain rfl:w=w1:=aA.symm;clear C0;go_wp2_with fail;go_loopg [7] g0 (λg x wx=>∃M',Hid (D wx g M'))
 case atStart=>exact⟨M,au⟩
 case round=>
  obtain⟨M',HD⟩:=hrel;have C1:=ξ0 (aj.out wr gk M' HD.out);by_cases hl:0<M'.fl.length
  ·have CL:=ξ0 (ae.out wr gk M' HD.out hl);obtain⟨nl,ay⟩:=nm M'.fl.length;rw[ay]at C1 hl;have aD:(0:Int)<(nl:Int):=Int.ofNat_lt.2 hl;clear HD ay hl;go_wp2_with fail;refine C1.out.mono ?_;rintro e w2 ⟨rfl,aq⟩;obtain rfl:wr=w2:=aq.symm;clear C1;go_wp2_with fail;refine CL.out.mono ?_;rintro e w3 ⟨rfl,g2,M2,am,aC⟩;go_wp2_with fail;go_roundg g2
   case measure=>exact am
   case rel=>exact⟨M2,aC⟩
  ·have h0:M'.fl.length=0:=by omega
   have HR:=ξ0 (ah.out wr gk M' HD.out h0);rw[h0]at C1;clear HD ae ah aj h0 hl;go_wp2_with fail;refine C1.out.mono ?_;rintro e w2 ⟨rfl,aq⟩;obtain rfl:wr=w2:=aq.symm;clear C1;go_wp2_with fail;go_ret;exact⟨rfl,HR.out⟩
end Go.Proofs.YtpiamlgmadnepaaGreat.MS
