/-
 What the proof needs.
-/
import Derived.Test.YtpiamlgmadnepaaGreatGenEnd
import Derived.Test.YtpiamlgmadnepaaGreatTreeAll
import Derived.ArgAppend
open Go.Proofs.Tryz
set_option linter.unusedVariables false
set_option maxHeartbeats 4000000
set_option maxRecDepth 1000000
namespace Go.Proofs.YtpiamlgmadnepaaGreat.MS
open ChangeShapes WideShapes ChangeAt RowKit Maps Mem NO ND
variable {w w' w1 w2:World}{v v':Value}{bs:List Nat}{o o' o1:Nat->Tg}{S:Tg->Prop}{g:Tg}{n k m b i j:Nat}{G:List (Int×List Nat)}{N:Nd}{a:Option Addr}{L:List TM.Ed}{fr tw:Int}
structure Fl where
 fr:Int
 tw:Int
 B:List Nat
variable {X:List (Fl×Value)}{F:List Fl}{x:Fl×Value}
structure Ms where
 nw:Int
 n:Nat
 nd:Nat->Nd
 E:List TM.Ed
 rt:Nat->Int
 sb:List (Int×Int)
 fl:List Fl
variable {M:Ms}
structure MP where
 nb:Nat->Nat
 np:Nat->NP
 nv:Value
 ea:Option Addr
 ec:Nat
 sv:Value
 fv:Value
variable {P:MP}
def fcs(x:Fl×Value):List Value:=[.int .i64 x.1.fr,.int .i64 x.1.tw,x.2]
def fc(X:List (Fl×Value)):List Value:=X.flatMap fcs
theorem ξ2j(X:List (Fl×Value)):(fc X).length=X.length*3:=by
 induction X with
 | nil=>rfl
 | cons x X ih=>
   show(fcs x++fc X).length=_;rw[Ξh,ih,List.length_cons];simp[fcs];omega
theorem ξ7o(X Y:List (Fl×Value)):fc (X++Y)=fc X++fc Y:=by simp[fc]
theorem ξbQ(X:List (Fl×Value)):∀(i:Nat) (x:Fl×Value),X[i]?=some x->(fc X)[i*3]?=some (.int .i64 x.1.fr)/\(fc X)[i*3+1]?=some (.int .i64 x.1.tw)/\(fc X)[i*3+2]?=some x.2:=by
 induction X with
 | nil=>intro i x h;simp at h
 | cons y X ih=>
   intro i x h;have e:fc (y::X)=.int .i64 y.1.fr::.int .i64 y.1.tw::y.2::fc X:=rfl;cases i with
   | zero=>
     rw[List.getElem?_cons_zero]at h;cases h;exact⟨rfl,rfl,rfl⟩
   | succ i=>
     have:=ih i x (by simpa using h);rw[e,show(i+1)*3=i*3+1+1+1 by omega];simpa using this
theorem ξ8U(X:List (Fl×Value)):∀k,fc (X.drop k)=(fc X).drop (k*3):=by
 induction X with
 | nil=>intro k;simp[fc]
 | cons y X ih=>
   intro k;cases k with
   | zero=>simp
   | succ k=>
     rw[List.drop_succ_cons,ih k];show _=(fcs y++fc X).drop _;rw[List.drop_append_of_le_length' y X k]
 where
 List.drop_append_of_le_length' (y:Fl×Value) (X:List (Fl×Value)) (k:Nat):(fcs y++fc X).drop ((k+1)*3)=(fc X).drop (k*3):=by
  rw[List.drop_append,List.drop_of_length_le (by simp[fcs];omega),show(k+1)*3-(fcs y).length=k*3 by simp[fcs];omega];rfl
theorem ξfn(X:List (Fl×Value))(k:Nat):fc (X.take k)=(fc X).take (k*3):=by
 have h:=ξ7o (X.take k) (X.drop k);rw[List.take_append_drop]at h;by_cases hk:k<=X.length
 ·have e:(fc (X.take k)).length=k*3:=by rw[ξ2j,List.length_take];omega
  rw[h,<-e,List.take_left'];rfl
 ·rw[Ξl (l:=X) (by omega),Ξl (l:=fc X) (by rw[ξ2j];omega)]
theorem ξ8V(X:List (Fl×Value))(h:∀x∈X,∃a m c,x.2=.slice a m c):∀u∈fc X,u.oneCell'=true:=by
 intro u hu;obtain⟨x,hx,hu⟩:=List.mem_flatMap.1 hu;obtain⟨a,m,c,e⟩:=h x hx;simp only[fcs,Ξf,List.not_mem_nil,or_false]at hu;rcases hu with rfl|rfl|rfl
 ·rfl
 ·rfl
 ·rw[e];rfl
def A13(w:World)(v:Value)(X:List (Fl×Value)):Prop:=(v=.slice none 0 0/\X=[]) ∨
 ∃g off cap cur,v=.slice (some ⟨g,off,none⟩) X.length cap/\w.heap[g]?=some (.cells cur 167 (0,0))/\X.length<=cap/\cap<=maxLen/\off+cap*3<=cur.size/\∀j u,(fc X)[j]?=some u->cur[off+j]?=some u
theorem A13.nil(w:World):A13 w (.slice none 0 0) []:=.inl ⟨rfl,rfl⟩
theorem A13.form(h:A13 w v X):∃a c,v=.slice a X.length c:=by
 rcases h with⟨rfl,rfl⟩|⟨g,off,cap,cur,rfl,_⟩
 ·exact⟨none,0,rfl⟩
 ·exact⟨_,_,rfl⟩
theorem A13.lt(h:A13 w v X):∀k∈v.ownBlock.toList,k<w.heap.size:=by
 intro k hk;rcases h with⟨rfl,rfl⟩|⟨g,off,cap,cur,rfl,hg,_⟩
 ·simp[Value.ownBlock]at hk
 ·simp[Value.ownBlock]at hk;subst hk;exact lt_of_block hg
theorem A13.only(h:A13 w v X)(ho:Only bs w w')(hb:∀k∈v.ownBlock.toList,k∉bs):A13 w' v X:=by
 rcases h with⟨rfl,rfl⟩|⟨g,off,cap,cur,rfl,hg,h1,h2,h3,h4⟩
 ·exact .inl ⟨rfl,rfl⟩
 ·exact .inr ⟨g,off,cap,cur,rfl,ho.block hg (hb g (by simp[Value.ownBlock])),h1,h2,h3,h4⟩
def A5i(w:World)(o:Nat->Tg)(v:Value)(F:List Fl):Prop:=∃X:List (Fl×Value),X.map Prod.fst=F/\A13 w v X/\∀x∈X,ξo w o x.2 x.1.B/\Cap x.2
theorem A5i.nil(w:World)(o:Nat->Tg):A5i w o (.slice none 0 0) []:=⟨[],rfl,A13.nil w,by simp⟩
theorem A5i.chg(h:A5i w o v F)(hc:Chg o S w w')(ho:Own o g v.ownBlock.toList)(hs:¬S g)(h0:∀g,S g->g.n≠0)(he:Ext w o o'):A5i w' o' v F:=by
 obtain⟨X,h1,h2,h3⟩:=h;refine⟨X,h1,?_,λx hx=>⟨(h3 x hx).1.chg hc h0 he,(h3 x hx).2⟩⟩;obtain⟨bs,q1,q2,q3⟩:=hc;exact h2.only q1 (λk hk hb=>hs (by rw[<-ho k hk];exact q2 k hb))
theorem A5i.lt(h:A5i w o v F):∀k∈v.ownBlock.toList,k<w.heap.size:=by
 obtain⟨X,_,h2,_⟩:=h;exact h2.lt
def Ret(n:Nat)(o o':Nat->Tg):Prop:=∀k,o' k=o k∨((o k).n=n/\o' k=ξ2)
theorem Ret.own(h:Ret n o o')(hg:g.n≠n)(ho:Own o g bs):Own o' g bs:=by
 intro k hk;rcases h k with e|⟨e,_⟩
 ·exact e.trans (ho k hk)
 ·rw[ho k hk]at e;exact absurd e hg
theorem Ret.one(h:Ret n o o')(hg:g.n≠n)(ho:o k=g):o' k=g:=by
 rcases h k with e|⟨e,_⟩
 ·exact e.trans ho
 ·rw[ho]at e;exact absurd e hg
theorem Ret.zero(h:Ret n o o')(ho:(o k).n=0):(o' k).n=0:=by
 rcases h k with e|⟨_,e⟩
 ·rw[e];exact ho
 ·rw[e]
theorem Ret.body(h:Ret n o o'){L:List Nat}(hb:ξo w o v L):ξo w o' v L:=by
 obtain⟨a,m,c,rfl,hA,hF⟩:=hb;exact⟨a,m,c,rfl,hA,λhm ad e=>h.zero (hF hm ad e)⟩
theorem Ret.got(h:Ret n o o'){G:List Pk}(hb:ξO w o v G):ξO w o' v G:=by
 obtain⟨X,r1,r2,r3⟩:=hb;exact⟨X,r1,r2,λy hy=>h.body (r3 y hy)⟩
theorem Ret.let(h:Ret n o o')(hb:ξN w o v G):ξN w o' v G:=by
 obtain⟨X,r1,r2,r3⟩:=hb;exact⟨X,r1,r2,λy hy=>⟨h.body (r3 y hy).1,(r3 y hy).2⟩⟩
theorem Ret.fly(h:Ret n o o'){G:List Fl}(hb:A5i w o v G):A5i w o' v G:=by
 obtain⟨X,r1,r2,r3⟩:=hb;exact⟨X,r1,r2,λy hy=>⟨h.body (r3 y hy).1,(r3 y hy).2⟩⟩
theorem NAt.ret{P:NP}(h:NAt w o m b P N)(hr:Ret n o o')(hm:m≠n):NAt w o' m b P N:=by
 refine⟨h.box,hr.one (g:=⟨m,0,0⟩) hm h.tag,?_,h.sbm,hr.one (g:=⟨m,0,1⟩) hm h.smt,?_,h.pul,hr.own (g:=⟨m,2,0⟩) hm h.put,hr.let h.ltr,hr.own (g:=⟨m,1,0⟩) hm h.ltt⟩
 ·intro i hi t ht;obtain⟨k1,k2⟩:=h.trs i hi t ht;exact⟨k1,hr.own (g:=⟨m,3,i⟩) hm k2⟩
 ·intro x hx;obtain⟨k1,k2⟩:=h.sbs x hx;exact⟨⟨k1.box,k1.ord,k1.lay,k1.out,hr.got k1.got⟩,hr.own (g:=⟨m,4,x.1⟩) hm k2⟩
def npt(f:Nat->Nat)(n:Nat):List Value:=(List.range n).map λi=>Value.pointer (some ⟨f i,0,none⟩)
def sbc(l:List (Int×Int)):List Value:=l.flatMap λx=>[.int .i64 x.1,.int .i64 x.2]
structure A2t(cs:Array Value)(P:MP)(M:Ms):Prop where
 sz:cs.size=13
 c0:cs[0]?=some (.int .i64 M.nw)
 c1:cs[1]?=some P.nv
 c2:cs[2]?=some (.slice P.ea M.E.length P.ec)
 cr:∀i,i<8->cs[3+i]?=some (.int .i64 (M.rt i))
 c11:cs[11]?=some P.sv
 c12:cs[12]?=some P.fv
structure MAt(w:World)(o:Nat->Tg)(b:Nat)(P:MP)(M:Ms):Prop where
 n16:M.n<=16
 box:∃cs,w.heap[b]?=some (.cells cs 96 (0,0))/\A2t cs P M
 tag:o b=⟨1000,0,0⟩
 nrow:w.ownsRow 0 97 1 P.nv M.n (npt P.nb M.n)
 nrt:Own o ⟨1000,1,0⟩ P.nv.ownBlock.toList
 nds:∀i,i<M.n->NAt w o (i+1) (P.nb i) (P.np i) (M.nd i)
 edg:Tree.A1t w P.ea M.E.length M.E
 edc:M.E.length<=P.ec
 edt:∀ad,P.ea=some ad->0<M.E.length->o ad.block=⟨1000,2,0⟩
 srow:w.ownsRow 0 104 2 P.sv M.sb.length (sbc M.sb)
 srt:Own o ⟨1000,3,0⟩ P.sv.ownBlock.toList
 fly:A5i w o P.fv M.fl
 flt:Own o ⟨1000,4,0⟩ P.fv.ownBlock.toList
theorem MAt.cells(h:MAt w o b P M):w.cell? ⟨b,0,none⟩=some (.int .i64 M.nw)/\w.cell? ⟨b,1,none⟩=some P.nv/\w.cell? ⟨b,2,none⟩=some (.slice P.ea M.E.length P.ec)/\w.cell? ⟨b,11,none⟩=some P.sv/\w.cell? ⟨b,12,none⟩=some P.fv:=by
 obtain⟨cs,h1,h2⟩:=h.box;simp[World.cell?,h1,h2.c0,h2.c1,h2.c2,h2.c11,h2.c12]
theorem MAt.root(h:MAt w o b P M)(hi:i<8):w.cell? ⟨b,3+i,none⟩=some (.int .i64 (M.rt i)):=by
 obtain⟨cs,h1,h2⟩:=h.box;simp[World.cell?,h1,h2.cr i hi]
theorem MAt.free(h:MAt w o b P M)(j:Nat):w.frozen? ⟨b,j,none⟩=false:=by
 obtain⟨cs,h1,h2⟩:=h.box;simp[World.frozen?,h1]
theorem MAt.lt(h:MAt w o b P M):b<w.heap.size:=by
 obtain⟨cs,h1,h2⟩:=h.box;exact lt_of_block h1
theorem ξ1A(h:Tree.A1t w a m L)(hc:Chg o S w w')(ht:∀ad,a=some ad->0<m->o ad.block=g)(hg:¬S g):Tree.A1t w' a m L:=by
 obtain⟨bs,q1,q2,q3⟩:=hc;refine⟨λj hj=>?_,h.2⟩;obtain⟨b',o',e,h0,h1,h2⟩:=h.1 j hj;have ae:b'∉bs:=λhx=>hg (by rw[<-ht _ e (by have:=h.2.1;omega)];exact q2 _ hx);have hl:=Ξq w ⟨b',o'+j*3,none⟩ h0;have hs:=q1.2.2.2.2 b' hl ae;exact⟨b',o',e,(ξr hs _).trans h0,(ξr hs _).trans h1,(ξr hs _).trans h2⟩
theorem ξ2e(h:Tree.A1t w a m L){ad:Addr}(e:a=some ad)(hm:0<m):ad.block<w.heap.size:=by
 obtain⟨b',o',e',h0,_,_⟩:=h.1 0 (by have:=h.2.1;omega);rw[e]at e';cases e';exact Ξq w ⟨b',o'+0*3,none⟩ h0
theorem MAt.chg(h:MAt w o b P M)(hc:Chg o S w w')(hs:∀g,S g->g.n≠0/\g.n≠1000/\16<g.n)(he:Ext w o o'):MAt w' o' b P M:=by
 have h0:∀g,S g->g.n≠0:=λg hg=>(hs g hg).1;have no:∀c j,¬S ⟨1000,c,j⟩:=λc j hg=>(hs _ hg).2.1 rfl;obtain⟨cs,h1,h2⟩:=h.box;refine⟨h.n16,⟨cs,hc.block h1 (by rw[h.tag];exact no _ _),h2⟩,(he _ (lt_of_block h1)).trans h.tag,ξK h.nrow hc h.nrt (no _ _),h.nrt.ext he (λk hk=>ξB h.nrow (by simpa using hk)),?_,ξ1A h.edg hc h.edt (no _ _),h.edc,?_,ξK h.srow hc h.srt (no _ _),h.srt.ext he (λk hk=>ξB h.srow (by simpa using hk)),h.fly.chg hc h.flt (no _ _) h0 he,h.flt.ext he h.fly.lt⟩
 ·intro i hi;exact(h.nds i hi).chg hc (λg hg=>⟨h0 g hg,by have:=(hs g hg).2.2;have:=h.n16;omega⟩) he
 ·intro ad e hm;rw[he _ (ξ2e h.edg e hm)];exact h.edt ad e hm
theorem MAt.below(h:MAt w o b P M)(hb:Below w.heap.size w w'):MAt w' o b P M:=
 h.chg (S:=λ_=>False) (Chg.of_below hb _ _) (λg hg=>hg.elim) (Ext.refl _ _)
theorem MAt.grow(h:MAt w o b P M)(hb:Below w.heap.size w w')(t:Tg):MAt w' (grow o w t) b P M:=
 h.chg (S:=λ_=>False) (Chg.of_below hb _ _) (λg hg=>hg.elim) (ξ3 o w t)
def A0h{α:Type}(f:Nat->α)(i:Nat)(x:α):Nat->α:=λk=>if k=i then x else f k
theorem ξe{α:Type}(f:Nat->α)(i:Nat)(x:α):A0h f i x i=x:=if_pos rfl
theorem ξh{α:Type}(f:Nat->α)(x:α)(h:k≠i):A0h f i x k=f k:=if_neg h
def A1f(g:Tg):Prop:=g.n≠0/\g.n≠2000
def A0u(w:World)(o o':Nat->Tg):Prop:=∀k,k<w.heap.size->o' k=o k∨(A1f (o k)/\o' k=ξ2)
theorem A0u.A16(h:Ext w o o'):A0u w o o':=λk hk=>.inl (h k hk)
theorem A0u.trans{o2:Nat->Tg}(h:A0u w o o1)(h':A0u w1 o1 o2)(hs:w.heap.size<=w1.heap.size):A0u w o o2:=by
 intro k hk;rcases h k hk with e|⟨e1,e2⟩
 ·rcases h' k (by omega)with e'|⟨e1',e2'⟩
  ·exact .inl (e'.trans e)
  ·exact .inr ⟨by rw[e]at e1';exact e1',e2'⟩
 ·rcases h' k (by omega)with e'|⟨e1',e2'⟩
  ·exact .inr ⟨e1,e'.trans e2⟩
  ·exact .inr ⟨e1,e2'⟩
theorem Chg.keep(h:Chg o A1f w w1)(h':Chg o1 A1f w1 w2)(hk:A0u w o o1):Chg o A1f w w2:=by
 obtain⟨bs,a1,a2,a3⟩:=h;obtain⟨cs,b1,b2,b3⟩:=h';refine⟨bs++cs.filter λk=>decide (k<w.heap.size),?_,?_,a3.app (Nob.back a1 a3 b3)⟩
 ·refine⟨b1.1.trans a1.1,b1.2.1.trans a1.2.1,b1.2.2.1.trans a1.2.2.1,Nat.le_trans a1.2.2.2.1 b1.2.2.2.1,?_⟩;intro k hk hn;have n1:k∉bs:=λhc=>hn (Ξe.2 (.inl hc));have n2:k∉cs:=λhc=>hn (Ξe.2 (.inr (Ξj.2 ⟨hc,by simpa using hk⟩)));exact(b1.2.2.2.2 k (Ξn hk a1.2.2.2.1) n2).trans (a1.2.2.2.2 k hk n1)
 ·intro k ae;rcases Ξe.1 ae with ae|ae
  ·exact a2 k ae
  ·obtain⟨ah,hl⟩:=Ξj.1 ae;have hl:k<w.heap.size:=by simpa using hl
   rcases hk k hl with e|⟨e1,_⟩
   ·rw[<-e];exact b2 k ah
   ·exact e1
def A0j(w w':World)(o:Nat->Tg)(b:Nat)(M:Ms):Prop:=∃o' P,MAt w' o' b P M/\A0u w o o'/\Chg o A1f w w'
theorem A0j.refl(h:MAt w o b P M)(hb:Below w.heap.size w w'):A0j w w' o b M:=⟨o,P,h.below hb,A0u.A16 (Ext.refl _ _),Chg.of_below hb _ _⟩
theorem ξ1a(h:Chg o (mine n) w w')(h0:n≠0)(h1:n≠2000):Chg o A1f w w':=h.mono (λt ht=>by unfold mine at ht;unfold A1f;omega)
theorem NAt.far{P:NP}(h:NAt w o m b P N)(hc:Chg o (mine n) w w')(hn:n≠0)(hm:m≠n)(he:Ext w o o'):NAt w' o' m b P N:=h.chg hc (λg hg=>by unfold mine at hg;exact⟨by omega,by omega⟩) he
theorem MAt.node(h:MAt w o b P M)(hi:i<M.n)(hd:Done w w' o (i+1) (P.nb i) N) :
 ∃o' P',MAt w' o' b P' { M with nd:=A0h M.nd i N }/\P'.nb=P.nb/\P'.nv=P.nv/\P'.fv=P.fv/\P'.sv=P.sv/\Ext w o o'/\Chg o (mine (i+1)) w w':=by
 obtain⟨o',Q,h1,he,hc⟩:=hd;have ae:=h.n16;have h0:∀g,mine (i+1) g->g.n≠0:=λg hg=>by unfold mine at hg;omega
 have no:∀c j,¬mine (i+1) ⟨1000,c,j⟩:=λc j hg=>by unfold mine at hg;simp only at hg;omega
 obtain⟨cs,k1,k2⟩:=h.box;refine⟨o',{ P with np:=A0h P.np i Q },⟨ae,⟨cs,hc.block k1 (by rw[h.tag];exact no _ _),⟨k2.sz,k2.c0,k2.c1,k2.c2,k2.cr,k2.c11,k2.c12⟩⟩,(he _ (lt_of_block k1)).trans h.tag,ξK h.nrow hc h.nrt (no _ _),h.nrt.ext he (λk hk=>ξB h.nrow (by simpa using hk)),?_,ξ1A h.edg hc h.edt (no _ _),h.edc,?_,ξK h.srow hc h.srt (no _ _),h.srt.ext he (λk hk=>ξB h.srow (by simpa using hk)),h.fly.chg hc h.flt (no _ _) h0 he,h.flt.ext he h.fly.lt⟩,rfl,rfl,rfl,rfl,he,hc⟩
 ·intro j hj;by_cases c:j=i
  ·subst c;show NAt w' o' (j+1) (P.nb j) (A0h P.np j Q j) (A0h M.nd j N j);rw[ξe,ξe];exact h1
  ·show NAt w' o' (j+1) (P.nb j) (A0h P.np i Q j) (A0h M.nd i N j);rw[ξh _ _ c,ξh _ _ c];exact NAt.far (h.nds j hj) hc (by omega) (by omega) he
 ·intro ad e hm;rw[he _ (ξ2e h.edg e hm)];exact h.edt ad e hm
theorem MAt.B0s(h:MAt w o b P M)(hi:i<M.n){Q:NP}(h1:NAt w' o' (i+1) (P.nb i) Q N)(hr:Ret (i+1) o o')(hc:Chg o (mine (i+1)) w w') :
 MAt w' o' b { P with np:=A0h P.np i Q } { M with nd:=A0h M.nd i N }:=by
 have ah:=h.n16;have h0:∀g,mine (i+1) g->g.n≠0:=λg hg=>by unfold mine at hg;omega
 have no:∀c j,¬mine (i+1) ⟨1000,c,j⟩:=λc j hg=>by unfold mine at hg;simp only at hg;omega
 have ae:∀c j,(⟨1000,c,j⟩:Tg).n≠i+1:=λc j=>by show 1000≠i+1;omega
 have he:=Ext.refl w o;obtain⟨cs,k1,k2⟩:=h.box;refine⟨ah,⟨cs,hc.block k1 (by rw[h.tag];exact no _ _),⟨k2.sz,k2.c0,k2.c1,k2.c2,k2.cr,k2.c11,k2.c12⟩⟩,hr.one (ae _ _) h.tag,ξK h.nrow hc h.nrt (no _ _),hr.own (ae _ _) h.nrt,?_,ξ1A h.edg hc h.edt (no _ _),h.edc,λad e hm=>hr.one (ae _ _) (h.edt ad e hm),ξK h.srow hc h.srt (no _ _),hr.own (ae _ _) h.srt,hr.fly (h.fly.chg hc h.flt (no _ _) h0 he),hr.own (ae _ _) h.flt⟩;intro j hj;by_cases c:j=i
 ·subst c;show NAt w' o' (j+1) (P.nb j) (A0h P.np j Q j) (A0h M.nd j N j);rw[ξe,ξe];exact h1
 ·show NAt w' o' (j+1) (P.nb j) (A0h P.np i Q j) (A0h M.nd i N j);rw[ξh _ _ c,ξh _ _ c];exact NAt.ret (NAt.far (h.nds j hj) hc (by omega) (by omega) he) hr (by omega)
theorem Ret.keep(h:Ret n o o')(h0:n≠0)(h1:n≠2000):A0u w o o':=by
 intro k _;rcases h k with e|⟨e1,e2⟩
 ·exact .inl e
 ·exact .inr ⟨by unfold A1f;omega,e2⟩
theorem A9i:(prog.info? 167).map (λi=>(i.zero,i.size,i.bytes))=some (some (.agg #[.int .i64 0,.int .i64 0,.slice none 0 0]),3,40):=by kernel_rfl
theorem ξ6W{base:Nat}(h:w.ownsRow base 167 3 v n (fc X))(hn:X.length=n):A13 w v X:=by
 rcases h.2 with⟨rfl,h0⟩|⟨g,cap,cur,rfl,hb,hg,h1,h2,h3,h4⟩
 ·exact .inl ⟨rfl,Ξk (by omega)⟩
 ·refine .inr ⟨g,0,cap,cur,by rw[hn],hg,by omega,h2,by omega,?_⟩;intro j u hu;rw[<-h4,List.getElem?_take]at hu;split at hu
  ·rw[Nat.zero_add];simpa using hu
  ·cases hu
theorem A13.cells{g off cap:Nat}(h:A13 w (.slice (some ⟨g,off,none⟩) n cap) X):∀j u,(fc X)[j]?=some u->w.cell? ((⟨g,off,none⟩:Addr).add j)=some u:=by
 intro j u hu;rcases h with⟨e,_⟩|⟨g',off',cap',cur,e,hg,h1,h2,h3,h4⟩
 ·cases e
 ·cases e;rw[Addr.add_lit];simp only[World.cell?,hg];exact h4 j u hu
theorem ξ4M{row:Option Nat}(h:w.grownBy w' row):Only row.toList w w':=⟨h.os,h.tape,h.output,h.size,λk hk hn=>h.block k hk (λe=>hn (by rw[<-e];simp))⟩
theorem ξ64(h:A13 w v X)(ty:TypeId)(B:Nat)(x:Fl×Value)(hB:w.heap[B]?=some (.cells (fcs x).toArray 167 (0,0)))(hx:∃a m c,x.2=.slice a m c)(hl:X.length<=1000000) :
 ∃v' w',(Builtin.append_ #[94,94] ty #[v,.slice (some ⟨B,0,none⟩) 1 1]).run prog w=.ok v' w'/\A13 w' v' (X++[x])/\Only v.ownBlock.toList w w'/\(∀k,v'.ownBlock=some k->v.ownBlock=some k∨w.heap.size<=k):=by
 obtain⟨i0,aq,au,ai,aw⟩:=info_parts A9i;have ae:∀j u,(fcs x)[j]?=some u->w.cell? ((⟨B,0,none⟩:Addr).add j)=some u:=by
  have:=World.news_of_block hB;simpa using this
 have aj:∀u∈fcs x,u.oneCell'=true:=by
  have:=ξ8V [x] (by intro y hy;rw[Ξg]at hy;rw[hy];exact hx);simpa[fc]using this
 have e1:fc (X++[x])=fc X++fcs x:=by rw[ξ7o];simp[fc]
 rcases h with⟨rfl,rfl⟩|⟨g,off,cap,cur,rfl,hg,h1,h2,h3,h4⟩
 ·obtain⟨v',w',q1,q2,q3,_⟩:=run_append_own (P:=prog) w w.heap.size 94 ty 167 i0 _ 3 40 underlying94 aq au ai aw rfl (by omega) (.slice none 0 0) 0 [] (Ξr w _ _ _) ⟨B,0,none⟩ 1 1 (fcs x) (by rfl) ae aj (by unfold maxLen;omega) (by omega) (Ξo _);refine⟨v',w',q1,ξ6W (base:=w.heap.size) (n:=0+1) (by rw[e1];exact q2) rfl,ξ4M q3,λk hk=>.inr ?_⟩;exact(q2.lt k hk).1
 ·by_cases hr:X.length+1<=cap
  ·have ax:=ξ2j X;obtain⟨⟨c',k1,k2,k3,k4,k5⟩,k6⟩:=ξ10 (t:=167) g (fcs x) (off+X.length*3) w cur hg (by show off+X.length*3+3<=_;omega);have hs:∀j,j<(fcs x).length->(w.cell? ⟨g,off+X.length*i0.size+j,none⟩).isSome=true:=by
    intro j hj;have az:j<3:=hj;rw[ai];simp only[World.cell?,hg];rw[Array.getElem?_eq_getElem (by omega)];rfl
   have am:=run_append_room_cells (P:=prog) w 94 ty 167 i0 underlying94 aq g off X.length cap ⟨B,0,none⟩ 1 1 (fcs x) (by rw[ai];rfl) ae aj hr hs (λj hj=>by simp[World.frozen?,hg]);rw[ai]at am;refine⟨_,_,am,.inr ⟨g,off,cap,c',by rw[Ξh];rfl,k1,by rw[Ξh];exact hr,h2,by omega,?_⟩,by simpa[Value.ownBlock]using k6,λk hk=>.inl hk⟩;intro j u hu;rw[e1]at hu;by_cases hj:j<(fc X).length
   ·rw[Ξt hj]at hu;rw[k3 _ (by omega)];exact h4 j u hu
   ·rw[List.getElem?_append_right (by omega)]at hu;have ay:=(List.getElem?_eq_some_iff.1 hu).1;have:=k5 (j-(fc X).length) ay;rw[ax]at this hu;rw[show off+j=off+X.length*3+(j-X.length*3)by omega,this];exact hu
  ·have ah:∀j u,(fc X)[j]?=some u->w.cell? ((⟨g,off,none⟩:Addr).add j)=some u:=A13.cells (n:=X.length) (cap:=cap) (.inr ⟨g,off,cap,cur,rfl,hg,h1,h2,h3,h4⟩);obtain⟨v',w',q1,q2,q3⟩:=run_append_arg_grows (P:=prog) w 94 ty 167 i0 _ 3 40 underlying94 aq au ai aw rfl (by omega) ⟨g,off,none⟩ X.length cap (fc X) (ξ2j X) ah ⟨B,0,none⟩ 1 1 (fcs x) (by rfl) ae (by omega) (by unfold maxLen;omega) (by omega);refine⟨v',w',q1,ξ6W (base:=w.heap.size) (n:=X.length+1) (by rw[e1];exact q2) (by rw[Ξh];rfl),(ξ4M q3).mono (by simp),λk hk=>.inr ?_⟩;exact(q2.lt k hk).1
theorem ξ55{ops:Array Oper}{o:Oper}{a:Act}{K:Act->World->Prop}{Q:Exit->Act->World->Prop}{E:Prop}(hgd:o.guard=none)(s x:Operand)
 (ho:o.op=.call { callee:=.builtin .append,args:=#[s,x],argTypes:=#[94,94] }) (v:Value) (X:List (Fl×Value)) (hs:a.eval s=v) (hF:A13 w v X) (B:Nat) (y:Fl×Value) (hB:w.heap[B]?=some (.cells (fcs y).toArray 167 (0,0))) (hy:∃a m c,y.2=.slice a m c) (hx:a.eval x=.slice (some ⟨B,0,none⟩) 1 1) (hl:X.length<=1000000) (nn:Nat) (hnn:X.length+1=nn)
 (h:∀va vc w',A13 w' (.slice va nn vc) (X++[y])->Only v.ownBlock.toList w w'->(∀k,(Value.slice va nn vc).ownBlock=some k->v.ownBlock=some k∨w.heap.size<=k)->K (a.put o.dst (.slice va nn vc)) w') :
 if Region.wanted o (yielded ops a.tmps)=true then Oper.wp prog o a w K Q else E:=by
 have hw:Region.wanted o (yielded ops a.tmps)=true:=by simp[Region.wanted,hgd]
 rw[if_pos hw];obtain⟨v',w',hr,h2,h3,h4⟩:=ξ64 hF o.type B y hB hy hl;unfold Oper.wp execOp;simp only[ho,resolve,invoke,builtin,Sem.run_bind,Sem.run_pure,Result.andThen_ok,List.map_toArray,List.map_cons,List.map_nil,hs,hx,hr];obtain⟨va,vc,e⟩:=h2.form;rw[Ξh,show X.length+[y].length=nn from hnn]at e;subst e;exact h va vc w' h2 h3 h4
def A4d(g:Tg):Prop:=g=⟨1000,0,0⟩∨g=⟨1000,4,0⟩
theorem ξ28(h:Chg o A4d w w'):Chg o A1f w w':=h.mono (by rintro t (rfl|rfl)<;>exact⟨by decide,by decide⟩)
theorem ξ3C(h:A4d g):g.n=1000:=by rcases h with rfl|rfl<;>rfl
theorem MAt.A9j(h:MAt w o b P M)(hc:Chg o A4d w w')(he:Ext w o o')(hb:∃cs,w'.heap[b]?=some (.cells cs 96 (0,0))/\A2t cs { P with fv:=v } { M with fl:=F })(hf:A5i w' o' v F)(ht:Own o' ⟨1000,4,0⟩ v.ownBlock.toList):MAt w' o' b { P with fv:=v } { M with fl:=F }:=by
 have h0:∀g,A4d g->g.n≠0:=λg hg=>by rw[ξ3C hg];decide
 refine⟨h.n16,hb,(he _ h.lt).trans h.tag,ξK h.nrow hc h.nrt (by simp[A4d]),h.nrt.ext he (λk hk=>ξB h.nrow (by simpa using hk)),?_,ξ1A h.edg hc h.edt (by simp[A4d]),h.edc,?_,ξK h.srow hc h.srt (by simp[A4d]),h.srt.ext he (λk hk=>ξB h.srow (by simpa using hk)),hf,ht⟩
 ·intro i hi;have:=h.n16;have ae:i<M.n:=hi;exact(h.nds i hi).chg hc (λg hg=>⟨h0 g hg,by rw[ξ3C hg];omega⟩) he
 ·intro ad e hm;rw[he _ (ξ2e h.edg e hm)];exact h.edt ad e hm
theorem A2t.A9j{cs:Array Value}(h:A2t cs P M)(v:Value)(F:List Fl):A2t (cs.setIfInBounds 12 v) { P with fv:=v } { M with fl:=F }:=by
 have hs:=h.sz;refine⟨by simpa using h.sz,?_,?_,?_,?_,?_,?_⟩
 ·rw[Ξc (by omega)];exact h.c0
 ·rw[Ξc (by omega)];exact h.c1
 ·rw[Ξc (by omega)];exact h.c2
 ·intro i hi;rw[Ξc (by omega)];exact h.cr i hi
 ·rw[Ξc (by omega)];exact h.c11
 ·rw[Array.getElem?_setIfInBounds_self_of_lt (by omega)]
theorem MAt.A9k(h:MAt w o b P M):A5d w b:=by
 obtain⟨cs,h1,_⟩:=h.box;exact ξi h1 (by decide)
theorem A13.nob(h:A13 w v X):Nob w v.ownBlock.toList:=by
 intro k hk;rcases h with⟨rfl,rfl⟩|⟨g,off,cap,cur,rfl,hg,_⟩
 ·simp[Value.ownBlock]at hk
 ·simp[Value.ownBlock]at hk;subst hk;exact ξi hg (by decide)
theorem A13.ne(h:A13 w v X)(hm:MAt w o b P M):∀k∈v.ownBlock.toList,k≠b:=by
 intro k hk e;obtain⟨cs,h1,_⟩:=hm.box;rcases h with⟨rfl,rfl⟩|⟨g,off,cap,cur,rfl,hg,_⟩
 ·simp[Value.ownBlock]at hk
 ·simp[Value.ownBlock]at hk;subst hk;rw[e,h1]at hg;simp at hg
theorem ξI(a:Option Addr)(n cap:Nat)(x:Int)(w:World)(hn:n<=9223372036854775807):Calls prog 114 #[.slice a n cap,.int .i64 x] w λe w'=>e=.returned (.bool (decide (0<=x/\x<(n:Int))))/\w'=w:=by
 by_cases h0:0<=x
 ·by_cases h1:x<(n:Int)
  ·have e:decide (0<=x/\x<(n:Int))=true:=by simp[h0,h1]
   rw[e];clear e;go_enter func114,ntmps114;go_wp2_with fail
   go_ret;exact⟨rfl,rfl⟩
  ·have e:decide (0<=x/\x<(n:Int))=false:=by simp[h1]
   rw[e];clear e;go_enter func114,ntmps114;go_wp2_with fail
   go_ret;exact⟨rfl,rfl⟩
 ·have e:decide (0<=x/\x<(n:Int))=false:=by simp[h0]
  rw[e];clear e;go_enter func114,ntmps114;go_wp2_with fail
  go_ret;exact⟨rfl,rfl⟩
def A8b(w w':World)(o:Nat->Tg)(b:Nat)(P:MP)(M:Ms)(F:List Fl):Prop:=∃o' v,MAt w' o' b { P with fv:=v } { M with fl:=F }/\Ext w o o'/\Chg o A4d w w'
theorem ξdK(h:MAt w o b P M)(hX1:X.map Prod.fst=M.fl)(hX2:A13 w P.fv X)(hX3:∀y∈X,ξo w o y.2 y.1.B/\Cap y.2)(hb:Below w.heap.size w w1)(hr:A13 w2 v' (X++[x]))(ho:Only P.fv.ownBlock.toList w1 w2)(hv:∀k,v'.ownBlock=some k->P.fv.ownBlock=some k∨w1.heap.size<=k)(hx:ξo w o x.2 x.1.B/\Cap x.2) :
 w2.cell? ⟨b,12,none⟩=some P.fv/\w2.frozen? ⟨b,12,none⟩=false/\A8b w (w2.setCell ⟨b,12,none⟩ v') o b P M (M.fl++[x.1]):=by
 obtain⟨cs,h1,h2⟩:=h.box;have ah:=hX2.ne h;have ae:w2.heap[b]?=some (.cells cs 96 (0,0)):=ho.block ((hb.block b (lt_of_block h1)).trans h1) (λhm=>ah b hm rfl);have hO:Only (b::P.fv.ownBlock.toList) w (w2.setCell ⟨b,12,none⟩ v'):=((Only.of_below hb _).trans (ho.mono (λk hk=>List.mem_cons_of_mem _ hk))).setCell (by simp) _;have hc:Chg o A4d w (w2.setCell ⟨b,12,none⟩ v'):=by
  refine Chg.A1j hO ?_ ?_
  ·intro k hk;rcases Ξf.1 hk with rfl|hk
   ·exact .inl h.tag
   ·exact .inr (h.flt k hk)
  ·intro k hk;rcases Ξf.1 hk with rfl|hk
   ·exact h.A9k
   ·exact hX2.nob k hk
 have aj:w.heap.size<=w2.heap.size:=Nat.le_trans hb.size ho.2.2.2.1;obtain⟨o',ai⟩:=nm (grow o w ⟨1000,4,0⟩);have he:Ext w o o':=by rw[<-ai];exact ξ3 _ _ _
 have h0:∀g,A4d g->g.n≠0:=λg hg=>by rw[ξ3C hg];decide
 refine⟨by simp[World.cell?,ae,h2.c12],by simp[World.frozen?,ae],o',v',h.A9j hc he ⟨_,heap_setCell_same w2 b 12 cs _ v' ae,h2.A9j v' _⟩ ⟨X++[x],by rw[List.map_append,hX1];rfl,?_,?_⟩ ?_,he,hc⟩
 ·refine hr.only (Only.setCell (bs:=[b]) (Only.refl _ _) (by simp) _) ?_;intro k hk;simp only[Ξg];intro e;subst e;rcases hv k (by simpa using hk)with e|e
  ·exact ah k (by simp[e]) rfl
  ·have:=lt_of_block h1;have:=hb.size;omega
 ·intro y hy;rcases Ξe.1 hy with hy|hy
  ·exact⟨(hX3 y hy).1.chg hc h0 he,(hX3 y hy).2⟩
  ·rw[Ξg]at hy;rw[hy];exact⟨hx.1.chg hc h0 he,hx.2⟩
 ·intro k hk;rcases hv k (by simpa using hk)with e|e
  ·rw[he k (hX2.lt k (by simp[e]))];exact h.flt k (by simp[e])
  ·rw[<-ai,ξg (by have:=hb.size;omega)]
theorem ξ61(b:Nat)(o:Nat->Tg)(P:MP)(M:Ms)(f:Fl)(a:Option Addr)(m c:Nat)(w:World)(h:MAt w o b P M)(hb:ξo w o (.slice a m c) f.B)(hcp:Cap (.slice a m c))(hl:M.fl.length<=1000000) :
 Calls prog 95 #[.pointer (some ⟨b,12,none⟩),.agg #[.int .i64 f.fr,.int .i64 f.tw,.slice a m c]] w λe w'=>e=.returned (.tuple #[])/\A8b w w' o b P M (M.fl++[f]):=by
 obtain⟨X,aA,aw,aD⟩:=h.fly;have aE:X.length<=1000000:=by rw[<-aA,Ξm]at hl;exact hl
 obtain⟨W0,ai⟩:=nm (w.alloc (.cells #[.int .i64 f.fr,.int .i64 f.tw,.slice a m c] 167));have ae:Below w.heap.size w W0:=by rw[<-ai];exact(Ξp _ _).alloc (Ξo _) _
 have ax:W0.heap[w.heap.size]?=some (.cells #[.int .i64 f.fr,.int .i64 f.tw,.slice a m c] 167 (0,0)):=by rw[<-ai];exact heap_alloc_new w _
 have y0:W0.cell? ⟨w.heap.size,0,none⟩=some (.int .i64 f.fr):=by simp[World.cell?,ax]
 have y1:W0.cell? ⟨w.heap.size,1,none⟩=some (.int .i64 f.tw):=by simp[World.cell?,ax]
 have y2:W0.cell? ⟨w.heap.size,2,none⟩=some (.slice a m c):=by simp[World.cell?,ax]
 have c12:=(h.below ae).cells.2.2.2.2;obtain⟨fa,ah,aj⟩:=aw.form;obtain⟨fn,aC⟩:=nm X.length;rw[aC]at aj aE;have am:Hid (A13 (W0.alloc (.cells #[.int .i64 f.fr,.int .i64 f.tw,.slice a m c] 167)).drew (.slice fa fn ah) X):=by
  rw[<-aj];exact ξ0 (aw.only (bs:=[]) (Only.of_below ((ae.alloc ae.size _).drew) _) (by simp))
 have aq:Hid (∀w2 v',A13 w2 v' (X++[(f,.slice a m c)])->Only (Value.slice fa fn ah).ownBlock.toList (W0.alloc (.cells #[.int .i64 f.fr,.int .i64 f.tw,.slice a m c] 167)).drew w2->(∀k,v'.ownBlock=some k->(Value.slice fa fn ah).ownBlock=some k∨(W0.alloc (.cells #[.int .i64 f.fr,.int .i64 f.tw,.slice a m c] 167)).drew.heap.size<=k)->w2.cell? ⟨b,12,none⟩=some (.slice fa fn ah)/\w2.frozen? ⟨b,12,none⟩=false/\A8b w (w2.setCell ⟨b,12,none⟩ v') o b P M (M.fl++[f])):=by
  refine ξ0 ?_;intro w2 v' g1 g2 g3;rw[<-aj]at g2 g3 ⊢;exact ξdK (x:=(f,.slice a m c)) h aA aw aD ((ae.alloc ae.size _).drew) g1 g2 g3 ⟨hb,hcp⟩
 rw[aj]at c12;have aG:Hid (X.length<=1000000):=by rw[aC];exact ξ0 aE
 obtain⟨fr,ay⟩:=nm f.fr;obtain⟨tw,az⟩:=nm f.tw;have HY:Hid ((fcs (f,.slice a m c)).toArray=#[.int .i64 fr,.int .i64 tw,.slice a m c]):=by rw[<-ay,<-az];rfl
 rw[ay]at y0;rw[az]at y1;rw[ay,az]at am aq ai ⊢;have aI:(W0.alloc (.cells #[.int .i64 fr,.int .i64 tw,.slice a m c] 167)).cell? ⟨b,12,none⟩=some (.slice fa fn ah):=ξc ((Ξp _ _).alloc (Ξo _) _) c12;obtain⟨nn,aF⟩:=nm (X.length+1);have aH:=ξ0 aF;have HW:=ξ0 ai;clear aF h hb hcp hl aA aw aD ae ax ai aj aC ay az;go_enter func95,ntmps95;go_upto_region 1 with fail
 rw[HW.out];go_region_law (refine ξ55 (by rfl) _ _ (by rfl) (.slice fa fn ah) X (by rfl) am.out W0.heap.size (f,.slice a m c) (by rw[HY.out];exact heap_alloc_new W0 _) ⟨_,_,_,rfl⟩ (by rfl) aG.out nn aH.out ?_;intro va vc w6 g1 g2 g3;obtain⟨e5,f5,au⟩:=aq.out w6 _ g1 g2 g3;have HF:=ξ0 au;clear g1 g2 g3 au)
 all_goals
  go_wp2_with fail
  go_end0
  exact⟨rfl,HF.out⟩
def zf:List Value:=[.int .i64 0,.int .i64 0,.slice none 0 0]
theorem ξ6B(w:World)(ty:TypeId)(b o c:Nat)(hc:∀j,j<3->(w.cell? ⟨b,o+j,none⟩).isSome=true)(hf:∀j,j<3->w.frozen? ⟨b,o+j,none⟩=false) :
 (Builtin.clear_ #[94] ty #[.slice (some ⟨b,o,none⟩) 1 c]).run prog w=.ok (.tuple #[]) (w.setCells b o zf):=by
 have ae:=run_storeCells_cells (P:=prog) b o zf 0 w (by simpa[zf]using hc) (by simpa[zf]using hf) (by intro v hv;simp only[zf,Ξf,List.not_mem_nil,or_false]at hv;rcases hv with rfl|rfl|rfl<;>rfl);simp only[Nat.add_zero]at ae;have hz:(Builtin.zeroCells (Value.agg #[.int .i64 0,.int .i64 0,.slice none 0 0]).cells 1).toList=zf:=by kernel_rfl
 simp[Builtin.clear_,run_underlying underlying94,hz,ae]
theorem ξ7X(hi:i<X.length):X.eraseIdx i=X.take i++X.drop (i+1):=List.eraseIdx_eq_take_drop_succ X i
theorem ξd3{cs:List Nat}(h:Only bs w w')(hs:∀k∈bs,k<w.heap.size->k∈cs):Only cs w w':=⟨h.1,h.2.1,h.2.2.1,h.2.2.2.1,λk hk hn=>h.2.2.2.2 k hk (λhb=>hn (hs k hb hk))⟩
theorem ξc2(g off n cap i:Nat)(X:List (Fl×Value))(cur:Array Value)(w:World)(hX:X.length=n)(hg:w.heap[g]?=some (.cells cur 167 (0,0)))(h1:n<=cap)(h2:cap<=maxLen)(h3:off+cap*3<=cur.size)(h4:∀j u,(fc X)[j]?=some u->cur[off+j]?=some u)(hs:∀x∈X,∃a m c,x.2=.slice a m c)(hi:i<n) :
 Calls prog 115 #[.slice (some ⟨g,off,none⟩) n cap,.int .i64 (i:Int),.int .i64 ((i:Int)+1)] w λe w'=>e=.returned (.slice (some ⟨g,off,none⟩) (n-1) cap)/\A13 w' (.slice (some ⟨g,off,none⟩) (n-1) cap) (X.eraseIdx i)/\Only [g] w w':=by
 obtain⟨i0,ay,aE,az,aF⟩:=info_parts A9i;have au:cap<=9223372036854775807:=by unfold maxLen at h2;omega
 obtain⟨news,ae⟩:∃news,news=fc (X.drop (i+1)):=⟨_,rfl⟩;have ah:news.length=(n-(i+1))*3:=by rw[ae,ξ2j,List.length_drop,hX]
 have ai:∀k,k<cap*3->(w.cell? ⟨g,off+k,none⟩).isSome=true:=by
  intro k hk;simp only[World.cell?,hg];rw[Array.getElem?_eq_getElem (by omega)];rfl
 have aw:∀k,w.frozen? ⟨g,k,none⟩=false:=λk=>by simp[World.frozen?,hg]
 obtain⟨A,hA,aj⟩:∃A:Addr,(if cap=i+1 then some (⟨g,off,none⟩:Addr)else some ⟨g,off+(i+1)*3,none⟩)=some A/\Hid (∀t u,news[t]?=some u->w.drew.cell? (A.add t)=some u):=by
  by_cases h:cap=i+1
  ·refine⟨⟨g,off,none⟩,by simp[h],λt u hu=>?_⟩;have h0:news.length=0:=by rw[ah];omega
   rw[List.length_eq_zero_iff.1 h0]at hu;simp at hu
  ·refine⟨⟨g,off+(i+1)*3,none⟩,by simp[h],λt u hu=>?_⟩;rw[Addr.add_lit];show w.cell? _=_;simp only[World.cell?,hg];rw[ae,ξ8U,List.getElem?_drop]at hu;rw[show off+(i+1)*3+t=off+((i+1)*3+t)by omega];exact h4 _ u hu
 have s1:Hid (news.length=(n-(i+1))*3):=ah;have s2:Hid (∀u∈news,u.oneCell'=true):=by
  rw[ae];exact ξ0 (ξ8V _ (λx hx=>hs x (List.mem_of_mem_drop hx)))
 have s3:Hid (∀t,t<news.length->(w.drew.cell? ⟨g,off+i*3+t,none⟩).isSome=true/\w.drew.frozen? ⟨g,off+i*3+t,none⟩=false):=by
  intro t ht;rw[ah]at ht;rw[Nat.add_assoc];exact⟨ai (i*3+t) (by omega),aw _⟩
 obtain⟨W1,am⟩:∃W1,W1=w.drew.setCells g (off+i*3) news:=⟨_,rfl⟩;obtain⟨⟨c1,k1,k2,k3,k4,k5⟩,k6⟩:=ξ10 (t:=167) g news (off+i*3) w.drew cur hg (by rw[ah];omega);rw[<-am]at k1 k6;have aA:∀ty,(Builtin.clear_ #[94] ty #[.slice (some ⟨g,off+(n-1)*3,none⟩) 1 (cap-(n-1))]).run prog W1=.ok (.tuple #[]) (W1.setCells g (off+(n-1)*3) zf):=by
  intro ty;refine ξ6B W1 ty g _ _ (λj hj=>?_) (λj hj=>by simp[World.frozen?,k1]);simp only[World.cell?,k1];rw[Array.getElem?_eq_getElem (by omega)];rfl
 obtain⟨⟨c2,l1,l2,l3,l4,l5⟩,l6⟩:=ξ10 (t:=167) g zf (off+(n-1)*3) W1 c1 k1 (by show off+(n-1)*3+3<=_;omega);obtain⟨W2,ax⟩:=nm (W1.setCells g (off+(n-1)*3) zf);rw[ax]at aA l1 l6;have aq:Hid (A13 W2 (.slice (some ⟨g,off,none⟩) (n-1) cap) (X.eraseIdx i)/\Only [g] w W2):=by
  refine ξ0 ⟨.inr ⟨g,off,cap,c2,?_,l1,?_,h2,by omega,?_⟩,?_⟩
  ·rw[List.length_eraseIdx,if_pos (by omega),hX]
  ·rw[List.length_eraseIdx,if_pos (by omega)];omega
  ·intro j u hu;have hj:j<(n-1)*3:=by
    have:=(List.getElem?_eq_some_iff.1 hu).1;rw[ξ2j,List.length_eraseIdx,if_pos (by omega),hX]at this;exact this
   rw[l3 _ (by omega)];rw[ξ7X (by omega),ξ7o,ξfn,<-ae]at hu;have aC:((fc X).take (i*3)).length=i*3:=by rw[List.length_take,ξ2j];omega
   by_cases hji:j<i*3
   ·rw[Ξt (by omega),List.getElem?_take_of_lt hji]at hu;rw[k3 _ (by omega)];exact h4 j u hu
   ·rw[List.getElem?_append_right (by omega),aC]at hu;have:=k5 (j-i*3) (by rw[ah];omega);rw[show off+j=off+i*3+(j-i*3)by omega,this];exact hu
  ·exact(show Only [g] w W1 from k6).trans l6
 have hW:Hid (W1=w.drew.setCells g (off+i*3) news):=am;have aG:i<=cap:=by omega
 have aH:i+1<=cap:=by omega
 have aI:i<=n:=by omega
 have aD:i+1<=n:=by omega
 have aJ:i+(n-(i+1))=n-1:=by omega
 have aL:n-1<=n:=by omega
 have aM:¬cap=n-1:=by omega
 have aO:n-(n-1)=1:=by omega
 have aP:(n:Int)<=cap:=by omega
 have aQ:0<=(i:Int)+1/\(i:Int)+1<=(n:Int):=by omega
 clear am ax hg h2 h3 h4 hs hX ah ae ai aw k1 k2 k3 k4 k5 k6 l1 l2 l3 l4 l5 l6;go_enter func115,ntmps115;go_wp2_with fail
 go_region_law (refine step_append_room rfl (.tmp 22) (.tmp 25) 94 rfl 167 i0 3 underlying94 ay az g off i cap (by simp[Act.eval,Act.put]) A (n-(i+1)) (cap-(i+1)) news (by simp[Act.eval,Act.put]) s1.out aj.out s2.out (by omega) s3.out ?_;rw[<-hW.out])
 go_wp2_with fail
 go_ret;exact⟨rfl,aq.out⟩
def A08(w:World)(g:Nat)(fr tw:Int)(v:Value):Prop:=w.heap[g]?=some (.cells #[.int .i64 fr,.int .i64 tw,v] 167 (0,0))
theorem A08.cells{g:Nat}(h:A08 w g fr tw v):w.cell? ⟨g,0,none⟩=some (.int .i64 fr)/\w.cell? ⟨g,1,none⟩=some (.int .i64 tw)/\w.cell? ⟨g,2,none⟩=some v:=by
 unfold A08 at h;simp[World.cell?,h]
theorem A08.free{g:Nat}(h:A08 w g fr tw v)(j:Nat):w.frozen? ⟨g,j,none⟩=false:=by
 unfold A08 at h;simp[World.frozen?,h]
theorem A08.put{g:Nat}(h:A08 w g fr tw v)(fr' tw':Int)(v':Value):A08 (((w.setCell ⟨g,0,none⟩ (.int .i64 fr')).setCell ⟨g,1,none⟩ (.int .i64 tw')).setCell ⟨g,2,none⟩ v') g fr' tw' v':=by
 have h0:=heap_setCell_same _ _ 0 _ _ (.int .i64 fr') h;have h1:=heap_setCell_same _ _ 1 _ _ (.int .i64 tw') h0;exact heap_setCell_same _ _ 2 _ _ v' h1
theorem ξ6I{fn:Func}{tmps:Array Value}{g:Nat}(hf:fn.results=#[.cell i 167,.tmp j])(hi:tmps.getD i undef=.pointer (some ⟨g,0,none⟩))(hb:A08 w g fr tw v)(hs:∃a n c,v=.slice a n c) :
 (results fn tmps).run prog w=.ok (.tuple #[.agg #[.int .i64 fr,.int .i64 tw,v],tmps.getD j undef]) w:=by
 obtain⟨c0,c1,c2⟩:=hb.cells;obtain⟨a,n,c,rfl⟩:=hs;have ae:tmps[i]?.getD undef=.pointer (some ⟨g,0,none⟩):=by simpa using hi
 simp[results,hf,ae,go_sem,c0,c1,c2]
def Taken(w w':World)(o:Nat->Tg)(b:Nat)(P:MP)(M:Ms)(i:Nat)(f:Fl)(bv:Value):Prop:=∃o' v,MAt w' o' b { P with fv:=v } { M with fl:=M.fl.eraseIdx i }/\ξo w' o' bv f.B/\Cap bv/\Ext w o o'/\Chg o A4d w w'
theorem ξdJ{w5:World}{n0:Nat}(h:MAt w o b P M)(hX1:X.map Prod.fst=M.fl)(hX2:A13 w P.fv X)(hX3:∀y∈X,ξo w o y.2 y.1.B/\Cap y.2)(hx:X[i]?=some x)(hn0:w.heap.size<=n0)(ho:Only (b::n0::P.fv.ownBlock.toList) w w5)
 (hb:∃cs,w.heap[b]?=some (.cells cs 96 (0,0))/\w5.heap[b]?=some (.cells (cs.setIfInBounds 12 v') 96 (0,0))) (hr:A13 w5 v' (X.eraseIdx i)) (hv:v'.ownBlock=P.fv.ownBlock):Taken w w5 o b P M i x.1 x.2:=by
 have hm:x∈X:=List.mem_of_getElem? hx;have hO:Only (b::P.fv.ownBlock.toList) w w5:=ξd3 ho (by
  intro k hk hl;rcases Ξf.1 hk with rfl|hk
  ·simp
  ·rcases Ξf.1 hk with rfl|hk
   ·omega
   ·simp[hk])
 have hc:Chg o A4d w w5:=by
  refine Chg.A1j hO ?_ ?_
  ·intro k hk;rcases Ξf.1 hk with rfl|hk
   ·exact .inl h.tag
   ·exact .inr (h.flt k hk)
  ·intro k hk;rcases Ξf.1 hk with rfl|hk
   ·exact h.A9k
   ·exact hX2.nob k hk
 have he:=Ext.refl w o;have h0:∀g,A4d g->g.n≠0:=λg hg=>by rw[ξ3C hg];decide
 obtain⟨cs,b1,b2⟩:=hb;obtain⟨ah,b3,b4⟩:=h.box;rw[b1]at b3;cases b3;refine⟨o,v',h.A9j hc he ⟨_,b2,b4.A9j v' _⟩ ⟨X.eraseIdx i,?_,hr,λy hy=>?_⟩ (by rw[hv];exact h.flt),(hX3 x hm).1.chg hc h0 he,(hX3 x hm).2,he,hc⟩
 ·rw[<-hX1,List.eraseIdx_eq_take_drop_succ,List.eraseIdx_eq_take_drop_succ,List.map_append,List.map_take,List.map_drop]
 ·have ae:=List.mem_of_mem_eraseIdx hy;exact⟨(hX3 y ae).1.chg hc h0 he,(hX3 y ae).2⟩
theorem ξ8j(b:Nat)(o:Nat->Tg)(P:MP)(M:Ms)(i:Int)(w:World)(h:MAt w o b P M)(hi:i<0∨(M.fl.length:Int)<=i) :
 Calls prog 88 #[.pointer (some ⟨b,12,none⟩),.int .i64 i] w λe w'=>e=.returned (.tuple #[.agg #[.int .i64 0,.int .i64 0,.slice none 0 0],A0a 1])/\Below w.heap.size w w':=by
 obtain⟨X,aq,ai,ax⟩:=h.fly;have au:X.length=M.fl.length:=by rw[<-aq,Ξm]
 obtain⟨fa,ay,aw⟩:=ai.form;obtain⟨W0,ae⟩:=nm (w.alloc (.cells #[.int .i64 0,.int .i64 0,.slice none 0 0] 167));have aj:Below w.heap.size w W0:=by rw[<-ae];exact(Ξp _ _).alloc (Ξo _) _
 have HB:Hid (A08 W0 w.heap.size 0 0 (.slice none 0 0)):=by rw[<-ae];exact ξ0 (heap_alloc_new w _)
 have c12:=(h.below aj).cells.2.2.2.2;rw[aw]at c12;obtain⟨fn,ah⟩:=nm X.length;rw[ah]at c12 au;have am:fn<=9223372036854775807:=by
  rcases ai with⟨_,e⟩|⟨g,off,cap,cur,_,_,g1,g2,_⟩
  ·rw[e]at ah;simp at ah;omega
  ·unfold maxLen at g2;omega
 have CH:=ξ0 (ξI fa fn ay i W0 am);rw[show decide (0<=i/\i<(fn:Int))=false by simp;omega]at CH;obtain⟨d0,d1,d2⟩:=HB.out.cells;have f0:=HB.out.free 0;have f1:=HB.out.free 1;have f2:=HB.out.free 2;have az:=ξ0 aj;have HW:=ξ0 ae;clear h aq ai ax aw ah hi ae aj au;go_enter func88,ntmps88;go_upto_region 1 with fail
 rw[HW.out];go_wp2_with fail;refine CH.out.mono ?_;rintro e w1 ⟨rfl,aA⟩;obtain rfl:W0=w1:=aA.symm;go_wp2_with fail;refine bodyPost_ret (ξ6I (g:=w.heap.size) rfl rfl (HB.out.put 0 0 (.slice none 0 0)) ⟨_,_,_,rfl⟩) rfl ?_;exact⟨rfl,((az.out.setCell (Ξo _) _).setCell (Ξo _) _).setCell (Ξo _) _⟩
theorem ξ4O(h:A13 w v X):X.length<=9223372036854775807:=by
 rcases h with⟨_,e⟩|⟨g,off,cap,cur,_,_,g1,g2,_⟩
 ·rw[e];simp
 ·unfold maxLen at g2;omega
theorem ξR(b:Nat)(o:Nat->Tg)(P:MP)(M:Ms)(i:Nat)(f:Fl)(w:World)(h:MAt w o b P M)(hf:M.fl[i]?=some f) :
 Calls prog 88 #[.pointer (some ⟨b,12,none⟩),.int .i64 (i:Int)] w λe w'=>∃a m c,e=.returned (.tuple #[.agg #[.int .i64 f.fr,.int .i64 f.tw,.slice a m c],.nilIface])/\Taken w w' o b P M i f (.slice a m c):=by
 obtain⟨X,aL,aM,aO⟩:=h.fly;have bD:X.length=M.fl.length:=by rw[<-aL,Ξm]
 have bE:i<M.fl.length:=(List.getElem?_eq_some_iff.1 hf).1;have aE:i<X.length:=by omega
 obtain⟨x,hx⟩:∃x,X[i]?=some x:=⟨_,Ξd aE⟩;have aP:x.1=f:=by
  have:(X.map Prod.fst)[i]?=some x.1:=by rw[List.getElem?_map,hx];rfl
  rw[aL,hf]at this;exact(Option.some.inj this).symm
 have bH:∃a m c,x.2=.slice a m c:=by
  obtain⟨a,m,c,e,_⟩:=(aO x (List.mem_of_getElem? hx)).1;exact⟨a,m,c,e⟩
 obtain⟨a,m,c,aQ⟩:=bH;have bq:=aM;rcases bq with⟨_,e⟩|⟨g,off,cap,cur,hfv,hg,h1,h2,h3,h4⟩
 ·rw[e]at aE;simp at aE
 have am:=ξ4O aM;obtain⟨fn,aS⟩:=nm X.length;rw[aS]at hfv h1 aE am;obtain⟨q0,q1,q2⟩:=ξbQ X i x hx;obtain⟨cs,ai,aX⟩:=h.box;have bF:g≠b:=λe=>by rw[e,ai]at hg;simp at hg
 have aq:=lt_of_block hg;have aF:=lt_of_block ai
 -- the two new blocks
 obtain⟨W0,aG⟩:=nm (w.alloc (.cells #[.int .i64 0,.int .i64 0,.slice none 0 0] 167));have aT:Below w.heap.size w W0:=by rw[<-aG];exact(Ξp _ _).alloc (Ξo _) _
 have bG:W0.heap.size=w.heap.size+1:=by rw[<-aG];simp
 have aH:A08 W0 w.heap.size 0 0 (.slice none 0 0):=by rw[<-aG];exact heap_alloc_new w _
 obtain⟨W1,ay⟩:=nm (W0.alloc (.cells #[.int .i64 f.fr,.int .i64 f.tw,.slice a m c] 167));have aY:Below W0.heap.size W0 W1:=by rw[<-ay];exact(Ξp _ _).alloc (Ξo _) _
 have hB:Below w.heap.size w W1:=aT.trans (aY.mono (by omega));have au:A08 W1 W0.heap.size f.fr f.tw (.slice a m c):=by rw[<-ay];exact heap_alloc_new W0 _
 have ae:A08 W1 w.heap.size 0 0 (.slice none 0 0):=(aY.block _ (by omega)).trans aH;have az:W1.heap[g]?=some (.cells cur 167 (0,0)):=(hB.block g aq).trans hg;have aZ:W1.heap[b]?=some (.cells cs 96 (0,0)):=(hB.block b aF).trans ai;have ah:∀(W:World),W.heap[g]?=some (.cells cur 167 (0,0))->W.cell? ⟨g,off+i*3,none⟩=some (.int .i64 f.fr)/\W.cell? ⟨g,off+i*3+1,none⟩=some (.int .i64 f.tw)/\W.cell? ⟨g,off+i*3+2,none⟩=some (.slice a m c):=by
  intro W hW;rw[<-aP,<-aQ];refine⟨?_,?_,?_⟩
  ·simp only[World.cell?,hW];exact h4 _ _ q0
  ·simp only[World.cell?,hW];rw[Nat.add_assoc];exact h4 _ _ q1
  ·simp only[World.cell?,hW];rw[Nat.add_assoc];exact h4 _ _ q2
 have bu:W0.heap[g]?=some (.cells cur 167 (0,0)):=(aT.block g aq).trans hg;obtain⟨e0,e1,e2⟩:=ah W0 bu;have c12:W0.cell? ⟨b,12,none⟩=some (.slice (some ⟨g,off,none⟩) fn cap):=by rw[<-hfv];exact(h.below aT).cells.2.2.2.2
 have CH:=ξ0 (ξI (some ⟨g,off,none⟩) fn cap (i:Int) W0 am);rw[show decide (0<=(i:Int)/\(i:Int)<(fn:Int))=true by simp;omega]at CH;have bz:W1.cell? ⟨b,12,none⟩=some (.slice (some ⟨g,off,none⟩) fn cap):=by rw[<-hfv];exact(h.below hB).cells.2.2.2.2
 have bI:W1.frozen? ⟨b,12,none⟩=false:=(h.below hB).free 12
 -- the end: the new box is filled
 have aw:Hid (∀w3 v',Only (b::w.heap.size::P.fv.ownBlock.toList) w w3->w3.heap[b]?=some (.cells (cs.setIfInBounds 12 v') 96 (0,0))->A08 w3 w.heap.size 0 0 (.slice none 0 0)->A13 w3 v' (X.eraseIdx i)->v'.ownBlock=some g->A08 (((w3.setCell ⟨w.heap.size,0,none⟩ (.int .i64 f.fr)).setCell ⟨w.heap.size,1,none⟩ (.int .i64 f.tw)).setCell ⟨w.heap.size,2,none⟩ (.slice a m c)) w.heap.size f.fr f.tw (.slice a m c)/\Taken w (((w3.setCell ⟨w.heap.size,0,none⟩ (.int .i64 f.fr)).setCell ⟨w.heap.size,1,none⟩ (.int .i64 f.tw)).setCell ⟨w.heap.size,2,none⟩ (.slice a m c)) o b P M i f (.slice a m c)):=by
  refine ξ0 ?_;intro w3 v' g1 g2 g3 g4 g5;have bJ:v'.ownBlock=P.fv.ownBlock:=by rw[g5,hfv];rfl
  have ho:Only [w.heap.size] w3 (((w3.setCell ⟨w.heap.size,0,none⟩ (.int .i64 f.fr)).setCell ⟨w.heap.size,1,none⟩ (.int .i64 f.tw)).setCell ⟨w.heap.size,2,none⟩ (.slice a m c)):=(((Only.refl _ _).setCell (by simp) _).setCell (by simp) _).setCell (by simp) _;refine⟨g3.put _ _ _,?_⟩;rw[<-aP,<-aQ];rw[<-aP,<-aQ]at ho;refine ξdJ h aL aM aO hx (Ξo _) (g1.trans (ho.mono (by simp))) ⟨cs,ai,ho.block g2 (by simp;omega)⟩ (g4.only ho (by intro k hk;rw[g5]at hk;simp at hk;subst hk;simp;omega)) bJ
 obtain⟨n0,bh⟩:=nm w.heap.size;obtain⟨fr,aA⟩:=nm f.fr;obtain⟨tw,aC⟩:=nm f.tw;by_cases hi0:0<i
 ·-- from the midst
  have CD:Hid (Calls prog 115 #[.slice (some ⟨g,off,none⟩) fn cap,.int .i64 (i:Int),.int .i64 ((i:Int)+1)] W1 λe w2=>e=.returned (.slice (some ⟨g,off,none⟩) (fn-1) cap)/\(w2.cell? ⟨b,12,none⟩=some (.slice (some ⟨g,off,none⟩) fn cap)/\w2.frozen? ⟨b,12,none⟩=false)/\Hid (∃w3,w2.setCell ⟨b,12,none⟩ (.slice (some ⟨g,off,none⟩) (fn-1) cap)=w3/\(w3.cell? ⟨W0.heap.size,0,none⟩=some (.int .i64 f.fr)/\w3.cell? ⟨W0.heap.size,1,none⟩=some (.int .i64 f.tw)/\w3.cell? ⟨W0.heap.size,2,none⟩=some (.slice a m c))/\A08 w3 w.heap.size 0 0 (.slice none 0 0)/\A08 (((w3.setCell ⟨w.heap.size,0,none⟩ (.int .i64 f.fr)).setCell ⟨w.heap.size,1,none⟩ (.int .i64 f.tw)).setCell ⟨w.heap.size,2,none⟩ (.slice a m c)) w.heap.size f.fr f.tw (.slice a m c)/\Taken w (((w3.setCell ⟨w.heap.size,0,none⟩ (.int .i64 f.fr)).setCell ⟨w.heap.size,1,none⟩ (.int .i64 f.tw)).setCell ⟨w.heap.size,2,none⟩ (.slice a m c)) o b P M i f (.slice a m c))):=by
   refine ξ0 ((ξc2 g off fn cap i X cur W1 aS az h1 h2 h3 h4 (λy hy=>by obtain⟨a,m,c,e,_⟩:=(aO y hy).1;exact⟨a,m,c,e⟩) aE).mono ?_);rintro e w2 ⟨rfl,d1,d2⟩;have aD:w2.heap[b]?=some (.cells cs 96 (0,0)):=d2.block aZ (by simp;omega);have ax:cs[12]?=some (.slice (some ⟨g,off,none⟩) fn cap):=by rw[<-hfv];exact aX.c12
   refine⟨rfl,⟨by simp[World.cell?,aD,ax],by simp[World.frozen?,aD]⟩,ξ0 ⟨_,rfl,?_⟩⟩;have o3:Only [b] w2 (w2.setCell ⟨b,12,none⟩ (.slice (some ⟨g,off,none⟩) (fn-1) cap)):=(Only.refl _ _).setCell (by simp) _;have x1:A08 (w2.setCell ⟨b,12,none⟩ (.slice (some ⟨g,off,none⟩) (fn-1) cap)) W0.heap.size f.fr f.tw (.slice a m c):=o3.block (d2.block au (by simp;omega)) (by simp;omega);have x0:A08 (w2.setCell ⟨b,12,none⟩ (.slice (some ⟨g,off,none⟩) (fn-1) cap)) w.heap.size 0 0 (.slice none 0 0):=o3.block (d2.block ae (by simp;omega)) (by simp;omega);refine⟨x1.cells,x0,aw.out _ (.slice (some ⟨g,off,none⟩) (fn-1) cap) ?_ (heap_setCell_same w2 b 12 cs _ _ aD) x0 (d1.only o3 (by simp[Value.ownBlock];omega)) rfl⟩;refine(((Only.of_below hB _).trans (d2.mono ?_)).trans (o3.mono ?_))
   ·intro k hk;simp at hk;subst hk;rw[hfv];simp[Value.ownBlock]
   ·intro k hk;simp at hk;subst hk;simp
  have bR:(0:Int)<(i:Int):=by omega
  have bS:IntKind.i64.wrap ((i:Int)+1)=(i:Int)+1:=by rw[IntKind.wrap_i64];omega
  obtain⟨n1,bi⟩:=nm W0.heap.size;rw[bh,aA,aC,bi]at CD;rw[aA,aC]at ay ⊢;rw[aA]at e0;rw[aC]at e1;have HW:=ξ0 aG;have b9:=ξ0 ay;have bT:=ξ0 bi;have bU:=ξ0 bh;have bK:(i:Int)<(fn:Int):=by omega
  clear h aL aM aO hx aP aQ hfv hg h1 h2 h3 h4 aS q0 q1 q2 ai aX bF aq aF aT bG aH aY hB au ae az aZ ah bu aw bD bE am hf aG ay aA aC aE;go_enter func88,ntmps88;go_upto_region 1 with fail
  rw[HW.out];go_wp2_with fail;refine CH.out.mono ?_;rintro e w1 ⟨rfl,aI⟩;obtain rfl:W0=w1:=aI.symm;go_upto_region 4 with fail;rw[b9.out];clear e0 e1 e2 c12 CH;go_wp2_with fail;refine CD.out.mono ?_;rintro e w2 ⟨rfl,⟨d1,d2⟩,HD⟩;obtain⟨w3,aJ,⟨y0,y1,y2⟩,aU,aV⟩:=HD.out;have bA:=ξ0 aJ;have aj:=ξ0 aV;obtain⟨z0,z1,z2⟩:=aU.cells;have k0:=aU.free 0;have k1:=aU.free 1;have k2:=aU.free 2;clear HD aJ aV aU CD;go_upto_region 6 with fail;rw[bA.out];go_wp2_with fail;refine bodyPost_ret (ξ6I (g:=n0) rfl rfl aj.out.1 ⟨_,_,_,rfl⟩) rfl ?_;exact⟨a,m,c,rfl,aj.out.2⟩
 ·-- from the front
  obtain rfl:i=0:=by omega
  obtain⟨w2,bj⟩:=nm (((W1.setCell ⟨g,off,none⟩ (.int .i64 0)).setCell ⟨g,off+1,none⟩ (.int .i64 0)).setCell ⟨g,off+2,none⟩ (.slice none 0 0));have o2:Only [g] W1 w2:=by rw[<-bj];exact(((Only.refl _ _).setCell (by simp) _).setCell (by simp) _).setCell (by simp) _
  have k1:=heap_setCell_same W1 g off _ _ (.int .i64 0) az;have k2:=heap_setCell_same _ g (off+1) _ _ (.int .i64 0) k1;have k3:=heap_setCell_same _ g (off+2) _ _ (.slice none 0 0) k2;rw[bj]at k3;have aD:w2.heap[b]?=some (.cells cs 96 (0,0)):=o2.block aZ (by simp;omega);have ax:cs[12]?=some (.slice (some ⟨g,off,none⟩) fn cap):=by rw[<-hfv];exact aX.c12
  obtain⟨A,hA,bB⟩:∃A:Addr,(if cap=1 then some (⟨g,off,none⟩:Addr)else some ⟨g,off+3,none⟩)=some A/\Hid (A.block=g/\∀w3,Only [b] w2 w3->A13 w3 (.slice (some A) (fn-1) (cap-1)) (X.eraseIdx 0)):=by
   have aW:(X.eraseIdx 0).length=fn-1:=by rw[List.length_eraseIdx,if_pos (by omega),aS]
   by_cases hc:cap=1
   ·refine⟨⟨g,off,none⟩,by simp[hc],rfl,?_⟩;intro w3 o3;have bM:(X.eraseIdx 0)=[]:=Ξk (by omega);refine .inr ⟨g,off,cap-1,_,by rw[aW],o3.block k3 (by simp;omega),by omega,by omega,by simp;omega,?_⟩;intro j u hu;rw[bM]at hu;simp[fc]at hu
   ·refine⟨⟨g,off+3,none⟩,by simp[hc],rfl,?_⟩;intro w3 o3;refine .inr ⟨g,off+3,cap-1,_,by rw[aW],o3.block k3 (by simp;omega),by omega,by omega,by simp;omega,?_⟩;intro j u hu;rw[Ξc (by omega),Ξc (by omega),Ξc (by omega)];have e:X.eraseIdx 0=X.drop 1:=by cases X with
     | nil=>rfl
     | cons y X=>rfl
    rw[e,ξ8U,List.getElem?_drop]at hu;rw[show off+3+j=off+(1*3+j)by omega];exact h4 _ u hu
  obtain⟨w3,aJ⟩:=nm (w2.setCell ⟨b,12,none⟩ (.slice (some A) (fn-1) (cap-1)));have o3:Only [b] w2 w3:=by rw[<-aJ];exact(Only.refl _ _).setCell (by simp) _
  have x1:A08 w3 W0.heap.size f.fr f.tw (.slice a m c):=o3.block (o2.block au (by simp;omega)) (by simp;omega);have x0:A08 w3 w.heap.size 0 0 (.slice none 0 0):=o3.block (o2.block ae (by simp;omega)) (by simp;omega);have aj:=ξ0 (aw.out w3 (.slice (some A) (fn-1) (cap-1)) (by
   refine(((Only.of_below hB _).trans (o2.mono ?_)).trans (o3.mono ?_))
   ·intro k hk;simp at hk;subst hk;rw[hfv];simp[Value.ownBlock]
   ·intro k hk;simp at hk;subst hk;simp) (by rw[<-aJ];exact heap_setCell_same w2 b 12 cs _ _ aD) x0 (bB.out.2 w3 o3) (by show some A.block=_;rw[bB.out.1]))
  obtain⟨y0,y1,y2⟩:=x1.cells;obtain⟨z0,z1,z2⟩:=x0.cells;have l0:=x0.free 0;have l1:=x0.free 1;have l2:=x0.free 2;have bN:w2.cell? ⟨b,12,none⟩=some (.slice (some ⟨g,off,none⟩) fn cap):=by simp[World.cell?,aD,ax]
  have bC:w2.frozen? ⟨b,12,none⟩=false:=by simp[World.frozen?,aD]
  obtain⟨t0,t1,t2⟩:=ah W1 az;rw[Nat.zero_mul,Nat.add_zero]at t0 t1 t2 e0 e1 e2;have u0:W1.frozen? ⟨g,off,none⟩=false:=by simp[World.frozen?,az]
  have u1:W1.frozen? ⟨g,off+1,none⟩=false:=by simp[World.frozen?,az]
  have u2:W1.frozen? ⟨g,off+2,none⟩=false:=by simp[World.frozen?,az]
  obtain⟨n1,bi⟩:=nm W0.heap.size;rw[bh,aA,aC]at aj;rw[bh]at z0 z1 z2 l0 l1 l2;rw[bi]at y0 y1 y2;rw[aA]at e0 y0 t0;rw[aC]at e1 y1 t1;rw[aA,aC]at ay ⊢;have HW:=ξ0 aG;have b9:=ξ0 ay;have bO:=ξ0 bj;have bA:=ξ0 aJ;have bK:(0:Int)<(fn:Int):=by omega
  have bP:(1:Int)<=(fn:Int):=by omega
  have bQ:1<=cap:=by omega
  clear h aL aM aO hx aP aQ hfv hg h1 h2 h3 h4 aS q0 q1 q2 ai aX bF aq aF aT bG aH aY hB au ae az aZ ah bu aw bD bE am hf aG ay aA aC aE hi0 bj aJ o2 o3 k1 k2 k3 aD ax bB x1 x0;go_enter func88,ntmps88;go_upto_region 1 with fail
  rw[HW.out];go_wp2_with fail;refine CH.out.mono ?_;rintro e w1 ⟨rfl,aI⟩;obtain rfl:W0=w1:=aI.symm;go_upto_region 4 with fail;rw[b9.out];clear e0 e1 e2 c12 CH;go_upto_region 8 with fail;rw[bO.out];clear t0 t1 t2 u0 u1 u2 bz bI;go_upto_region 9 with fail;rw[bA.out];clear bN bC;go_wp2_with fail;refine bodyPost_ret (ξ6I (g:=n0) rfl rfl aj.out.1 ⟨_,_,_,rfl⟩) rfl ?_;exact⟨a,m,c,rfl,aj.out.2⟩
theorem ξag(x:Int)(w:World):Calls prog 93 #[.agg #[.int .i64 x]] w λe w'=>e=.returned (.int .i64 x)/\Below w.heap.size w w':=by
 go_enter func93,ntmps93;go_wp2_with fail
 go_ret;exact⟨rfl,(Ξp _ _).alloc (Ξo _) _⟩
theorem ξ20(b:Nat)(o:Nat->Tg)(P:MP)(M:Ms)(w:World)(h:MAt w o b P M):Calls prog 46 #[.pointer (some ⟨b,0,none⟩)] w λe w'=>e=.returned (.int .i64 M.nw)/\Below w.heap.size w w':=by
 have c0:=h.cells.1;obtain⟨x,hx⟩:=nm M.nw;rw[hx]at c0 ⊢;have C:=ξ0 (ξag x);clear h hx;go_enter func46,ntmps46;go_wp2_with fail
 refine(C.out _).mono ?_;rintro e w1 ⟨rfl,hb⟩;have HB:=ξ0 hb;clear hb;go_wp2_with fail;go_ret;exact⟨rfl,HB.out⟩
theorem ξ7l(b:Nat)(o:Nat->Tg)(P:MP)(M:Ms)(w:World)(h:MAt w o b P M):Calls prog 60 #[.pointer (some ⟨b,0,none⟩)] w λe w'=>e=.returned (.int .i64 (M.fl.length:Int))/\w'=w:=by
 have c12:=h.cells.2.2.2.2;obtain⟨X,ae,ah,_⟩:=h.fly;obtain⟨a,c,hv⟩:=ah.form;rw[hv]at c12;have e:X.length=M.fl.length:=by rw[<-ae,Ξm]
 rw[e]at c12;obtain⟨n,hn⟩:=nm M.fl.length;rw[hn]at c12 ⊢;clear h ae ah hv e hn;go_enter func60,ntmps60;go_wp2_with fail
 go_ret;exact⟨rfl,rfl⟩
theorem ξeS(f:Nat->Nat)(n i:Nat)(h:i<n):(npt f n)[i]?=some (.pointer (some ⟨f i,0,none⟩)):=by
 unfold npt;rw[List.getElem?_map,List.getElem?_range h];rfl
theorem MAt.A5j(h:MAt w o b P M)(hi:i<M.n):∃rb c,P.nv=.slice (some ⟨rb,0,none⟩) M.n c/\∀j,j<M.n->w.cell? ⟨rb,j,none⟩=some (.pointer (some ⟨P.nb j,0,none⟩)):=by
 have hr:=h.nrow;rcases hr.2 with⟨_,h0⟩|⟨g,cap,cur,e,_,hg,_,_,_,ht⟩
 ·omega
 ·refine⟨g,cap,e,λj hj=>?_⟩;have:=hr.cells (g:=g) (by rw[e];rfl) j _ (ξeS P.nb M.n j hj);rwa [Addr.add_lit,Nat.zero_add]at this
def Ms.out(M:Ms)(i:Nat):Ms:={ M with nd:=A0h M.nd i { M.nd i with lt:=[] },fl:=M.fl++(M.nd i).lt.map λl=>⟨(i:Int),l.1,l.2⟩ }
def A6u(w w':World)(o:Nat->Tg)(b:Nat)(P:MP)(M:Ms):Prop:=∃o' P',MAt w' o' b P' M/\A0u w o o'/\Chg o A1f w w'/\P'.nv=P.nv/\P'.nb=P.nb
theorem A6u.done(h:A6u w w' o b P M):A0j w w' o b M:=by
 obtain⟨o',P',h1,h2,h3,_⟩:=h;exact⟨o',P',h1,h2,h3⟩
def LSt(w wr:World)(o:Nat->Tg)(b:Nat)(P:MP)(M:Ms)(i:Nat)(lv:Value)(j:Nat):Prop:=∃oj Pj,MAt wr oj b Pj { M with nd:=A0h M.nd i { M.nd i with lt:=[] },fl:=M.fl++((M.nd i).lt.take j).map λl=>⟨(i:Int),l.1,l.2⟩ }/\A0u w o oj/\Chg o A1f w wr/\ξN wr oj lv (M.nd i).lt/\Own oj ξ2 lv.ownBlock.toList/\Pj.nv=P.nv/\Pj.nb=P.nb
theorem ξbx{lv:Value}(h:ξN w o lv G)(hj:j<G.length):∃lb c,lv=.slice (some ⟨lb,0,none⟩) G.length c/\∃a m cc,w.cell? ⟨lb,j*2,none⟩=some (.int .i64 G[j].1)/\w.cell? ⟨lb,j*2+1,none⟩=some (.slice a m cc)/\ξo w o (.slice a m cc) G[j].2/\Cap (.slice a m cc):=by
 obtain⟨X,h1,h2,h3⟩:=h;have hl:X.length=G.length:=by rw[<-h1,Ξm]
 have ae:j<X.length:=by omega
 rcases h2.2 with⟨_,h0⟩|⟨g,cap,cur,e,_,hg,_,_,_,ht⟩
 ·omega
 ·have hx:X[j].1=G[j]:=by
   have:(X.map Prod.fst)[j]?=some X[j].1:=by rw[List.getElem?_map,Ξd ae];rfl
   rw[h1,Ξd hj]at this;exact(Option.some.inj this).symm
  obtain⟨q1,q2⟩:=h3 X[j] (List.getElem_mem ae);have ai:=q1;obtain⟨a,m,cc,ev,_⟩:=ai;have hc:=h2.cells (g:=g) (by rw[e];rfl);have ah:∀(Y:List ((Int×List Nat)×Value)) (k:Nat) (y:(Int×List Nat)×Value),Y[k]?=some y->(Y.flatMap λx=>[Value.int .i64 x.1.1,x.2])[k*2]?=some (.int .i64 y.1.1)/\(Y.flatMap λx=>[Value.int .i64 x.1.1,x.2])[k*2+1]?=some y.2:=by
   intro Y
   induction Y with
   | nil=>intro k y hy;simp at hy
   | cons z Y ih=>
     intro k y hy;cases k with
     | zero=>
       rw[List.getElem?_cons_zero]at hy;cases hy;exact⟨rfl,rfl⟩
     | succ k=>
       have:=ih k y (by simpa using hy);rw[List.flatMap_cons,show(k+1)*2=k*2+1+1 by omega];simpa using this
  obtain⟨g1,g2⟩:=ah X j X[j] (Ξd ae);have k1:=hc _ _ g1;have k2:=hc _ _ g2;rw[Addr.add_lit,Nat.zero_add]at k1 k2;rw[hx]at k1 q1;rw[ev]at k2 q1 q2;exact⟨g,cap,by rw[e,hl],a,m,cc,k1,k2,q1,q2⟩
theorem ξ3v(b i:Nat)(o:Nat->Tg)(P:MP)(M:Ms)(w:World)(h:MAt w o b P M)(hi:i<M.n)(hl:M.fl.length+(M.nd i).lt.length<=1000000) :
 Calls prog 47 #[.pointer (some ⟨b,0,none⟩),.int .i64 (i:Int)] w λe w'=>e=.returned (.tuple #[])/\A6u w w' o b P (M.out i):=by
 have aI:=h.n16;obtain⟨rb,rc,az,ah⟩:=h.A5j hi;have c1:=h.cells.2.1;rw[az]at c1;have c2:=ah i hi;obtain⟨G,hG⟩:=nm ((M.nd i).lt);obtain⟨gl,aj⟩:=nm G.length;have CO:Hid (Calls prog 94 #[.pointer (some ⟨P.nb i,0,none⟩)] w λe w'=>∃a c,e=.returned (.slice a gl c)/\Hid (LSt w w' o b P M i (.slice a gl c) 0)):=by
  refine ξ0 ((ξ9A (i+1) (P.nb i) o (P.np i) (M.nd i) w (by omega) (h.nds i hi)).mono ?_);rintro e w' ⟨lv,o',Q,rfl,g1,g2,g3,g4,g5⟩;have ax:∃a c,lv=.slice a gl c:=by
   obtain⟨X,x1,x2,_⟩:=g2;have aA:X.length=gl:=by rw[<-aj,<-hG,<-x1,Ξm]
   rcases x2.2 with⟨e,h0⟩|⟨g,cap,cur,e,_⟩
   ·exact⟨none,0,by rw[e,<-aA,h0]⟩
   ·exact⟨_,cap,by rw[e,aA]⟩
  obtain⟨a,c,rfl⟩:=ax;refine⟨a,c,rfl,ξ0 ⟨o',{ P with np:=A0h P.np i Q },?_,Ret.keep (n:=i+1) g4 (by omega) (by omega),ξ1a g5 (by omega) (by omega),g2,g3,rfl,rfl⟩⟩;have:=h.B0s hi g1 g4 g5;rw[List.take_zero,List.map_nil,Ξu];exact this
 have ai:Hid (∀wr lv j,LSt w wr o b P M i lv j->j<gl->∃lb c,lv=.slice (some ⟨lb,0,none⟩) gl c/\∃(t:Int) (a:Option Addr) (m cc:Nat),wr.cell? ⟨lb,j*2,none⟩=some (.int .i64 t)/\wr.cell? ⟨lb,j*2+1,none⟩=some (.slice a m cc)/\∀W,Below wr.heap.size wr W->Calls prog 95 #[.pointer (some ⟨b,12,none⟩),.agg #[.int .i64 (i:Int),.int .i64 t,.slice a m cc]] W λe w'=>e=.returned (.tuple #[])/\Hid (LSt w w' o b P M i lv (j+1))/\∀k x,wr.heap.size<=k->W.heap[k]?=some x->w'.heap[k]?=some x):=by
  refine ξ0 ?_;rintro wr lv j ⟨oj,Pj,q1,q2,q3,q4,q5,q6,q7⟩ hj;have aC:j<(M.nd i).lt.length:=by rw[hG,aj];exact hj
  obtain⟨lb,c,e,a,m,cc,k1,k2,k3,k4⟩:=ξbx q4 aC;refine⟨lb,c,by rw[e,hG,aj],(M.nd i).lt[j].1,a,m,cc,k1,k2,?_⟩;intro W am;have qW:=q1.grow am ξ2;have kW:ξo W (grow oj wr ξ2) (.slice a m cc) (M.nd i).lt[j].2:=k3.chg (S:=λ_=>False) (Chg.of_below am _ _) (λg hg=>hg.elim) (ξ3 _ _ _);have lW:ξN W (grow oj wr ξ2) lv (M.nd i).lt:=q4.chg (S:=λ_=>False) (g:=ξ2) (Chg.of_below am _ _) q5 (by simp) (λg hg=>hg.elim) (ξ3 _ _ _);have oW:Own (grow oj wr ξ2) ξ2 lv.ownBlock.toList:=q5.ext (ξ3 _ _ _) q4.lt;refine(ξ61 b (grow oj wr ξ2) Pj _ ⟨(i:Int),(M.nd i).lt[j].1,(M.nd i).lt[j].2⟩ a m cc W qW kW k4 (by
   show(M.fl++((M.nd i).lt.take j).map _).length<=_;rw[Ξh,Ξm,List.length_take];omega)).mono ?_
  rintro e' w' ⟨rfl,o2,v2,r1,r2,r3⟩;have h0:∀g,A4d g->g.n≠0:=λg hg=>by rw[ξ3C hg];decide
  have kp:A0u wr oj o2:=A0u.A16 ((ξ3 oj wr ξ2).trans r2 am.size);have ch:Chg oj A1f wr w':=(Chg.of_below am oj A1f).trans (ξ28 r3) (ξ3 _ _ _);refine⟨rfl,ξ0 ⟨o2,{ Pj with fv:=v2 },?_,q2.trans kp q3.size,Chg.keep q3 ch q2,lW.chg r3 oW (by simp[A4d]) h0 r2,oW.ext r2 lW.lt,q6,q7⟩,?_⟩
  ·rw[<-List.take_append_getElem aC,List.map_append,<-List.append_assoc];exact r1
  ·intro k x hk hx;exact r3.block hx (by rw[ξg hk];simp[A4d])
 have ae:Hid (∀wr lv,LSt w wr o b P M i lv gl->A6u w wr o b P (M.out i)):=by
  refine ξ0 ?_;rintro wr lv ⟨oj,Pj,q1,q2,q3,q4,q5,q6,q7⟩;rw[<-aj,<-hG,List.take_length]at q1;exact⟨oj,Pj,q1,q2,q3,q6,q7⟩
 obtain⟨R,aq⟩:=nm (M.out i);rw[aq]at ae ⊢;obtain⟨LS,aD⟩:∃LS:World->Value->Nat->Prop,(λW lv j=>LSt w W o b P M i lv j)=LS:=⟨_,rfl⟩;have au:∀W lv j,LSt w W o b P M i lv j=LS W lv j:=λW lv j=>by rw[<-aD]
 simp only[au]at CO ai ae;obtain⟨nb,aE⟩:=nm (P.nb i);rw[aE]at c2 CO;obtain⟨nn,aF⟩:=nm M.n;rw[aF]at c1;have aP:(i:Int)<(nn:Int):=by omega
 have aJ:gl<=1000000:=by rw[<-aj,<-hG];omega
 clear h aI az ah hG aj hl aq aD au aE hi aF;go_enter func47,ntmps47;go_wp2_with fail
 refine CO.out.mono ?_;rintro e w1 ⟨la,lc,rfl,aL⟩;clear CO c1 c2;go_wp2_with fail;go_loopg [15] gl (λgh x wr=>∃j:Nat,j+gh=gl/\x=.int .i64 (j:Int)/\Hid (LS wr (.slice la gl lc) j))
 case atStart=>exact⟨0,by omega,rfl,aL⟩
 case round=>
  obtain⟨j,aQ,rfl,HS⟩:=hrel;by_cases hj:j<gl
  ·have aM:(j:Int)<(gl:Int):=by omega
   obtain⟨lb,c,e,t,a,m,cc,k1,k2,CA⟩:=ai.out wr _ j HS.out hj;cases e;obtain⟨W1,aw⟩:=nm (wr.alloc (.cells #[.int .i64 t,.slice a m cc] 165));have aG:Below wr.heap.size wr W1:=by rw[<-aw];exact(Ξp _ _).alloc (Ξo _) _
   have ay:W1.heap[wr.heap.size]?=some (.cells #[.int .i64 t,.slice a m cc] 165 (0,0)):=by rw[<-aw];exact heap_alloc_new wr _
   have S0:W1.drew.cell? ⟨wr.heap.size,0,none⟩=some (.int .i64 t)/\W1.drew.cell? ⟨wr.heap.size,1,none⟩=some (.slice a m cc):=by
    have:W1.drew.heap[wr.heap.size]?=_:=ay;constructor<;>simp[World.cell?,this]
   have C:Hid (Calls prog 95 #[.pointer (some ⟨b,12,none⟩),.agg #[.int .i64 (i:Int),.int .i64 t,.slice a m cc]] W1.drew λe w'=>e=.returned (.tuple #[])/\(w'.cell? ⟨wr.heap.size,0,none⟩=some (.int .i64 t)/\w'.cell? ⟨wr.heap.size,1,none⟩=some (.slice a m cc))/\Hid (LS w' (.slice (some ⟨lb,0,none⟩) gl lc) (j+1))):=by
    refine ξ0 ((CA W1.drew aG.drew).mono ?_);rintro e w' ⟨rfl,g1,g2⟩;have:=g2 wr.heap.size _ (Ξo _) (show W1.drew.heap[wr.heap.size]?=_ from ay);exact⟨rfl,by constructor<;>simp[World.cell?,this],g1⟩
   have aO:=ξ0 aw;clear CA aw aG ay HS;obtain⟨pb,aH⟩:=nm wr.heap.size;rw[aH]at S0 C;go_upto_region 3 with fail
   first|rw[aO.out]|skip
   clear aH k1 k2;go_region_held3 (λw'=>w'.cell? ⟨pb,0,none⟩=some (.int .i64 t)/\w'.cell? ⟨pb,1,none⟩=some (.slice a m cc)) (with_reducible assumption) (first|(go_at_call 95;refine C.out.mono ?_;rintro e w4 ⟨rfl,aS,HD⟩));go_wp2_with fail
   go_roundg (gl-(j+1))
   case measure=>omega
   case rel=>exact⟨j+1,by omega,by go_num,HD⟩
  ·have aM:¬(j:Int)<(gl:Int):=by omega
   obtain rfl:gl=j:=by omega
   have HD:=ξ0 (ae.out wr _ HS.out);clear HS ai ae;go_wp2_with fail
   go_end0
   exact⟨rfl,HD.out⟩
theorem ξ3w(b i:Nat)(o:Nat->Tg)(P:MP)(M:Ms)(w:World)(h:MAt w o b P M)(hi:i<M.n)(hl:M.fl.length+(M.nd i).lt.length<=1000000) :
 Calls prog 47 #[.pointer (some ⟨b,0,none⟩),.int .i64 (i:Int)] w λe w'=>e=.returned (.tuple #[])/\A0j w w' o b (M.out i):=by
 refine(ξ3v b i o P M w h hi hl).mono ?_;rintro e w' ⟨rfl,hd⟩;exact⟨rfl,hd.done⟩
theorem ξf2(b:Nat)(o:Nat->Tg)(P:MP)(M:Ms)(i:Int)(w:World)(h:MAt w o b P M)(hi:i<0∨(M.fl.length:Int)<=i) :
 Calls prog 42 #[.pointer (some ⟨b,0,none⟩),.int .i64 i] w λe w'=>e=.returned (A0a 1)/\Below w.heap.size w w':=by
 have C:=ξ0 (ξ8j b o P M i w h hi);obtain⟨ev,ae⟩:=nm (A0a 1);rw[ae]at C ⊢;clear h hi ae;go_enter func42,ntmps42;go_wp2_with fail
 refine C.out.mono ?_;rintro e w1 ⟨rfl,hb⟩;have HB:=ξ0 hb;clear hb C;go_wp2_with fail;go_ret;exact⟨rfl,HB.out.alloc HB.out.size _⟩
def Ms.A9l(M:Ms)(i:Nat):Ms:={ M with fl:=M.fl.eraseIdx i }
theorem ξ9K(b:Nat)(o:Nat->Tg)(P:MP)(M:Ms)(i:Nat)(w:World)(h:MAt w o b P M)(hi:i<M.fl.length) :
 Calls prog 42 #[.pointer (some ⟨b,0,none⟩),.int .i64 (i:Int)] w λe w'=>e=.returned .nilIface/\A0j w w' o b (M.A9l i):=by
 have C:=ξ0 (ξR b o P M i M.fl[i] w h (Ξd hi));obtain⟨fr,ae⟩:=nm (M.fl[i].fr);obtain⟨tw,ah⟩:=nm (M.fl[i].tw);rw[ae,ah]at C;clear h ae ah;go_enter func42,ntmps42;go_wp2_with fail
 refine C.out.mono ?_;rintro e w1 ⟨a,m,c,rfl,hT⟩;have HT:=ξ0 hT;clear hT C;go_wp2_with fail;go_ret;obtain⟨o',v,g1,g2,g3,g4,g5⟩:=HT.out;have hb:Below w1.heap.size w1 (w1.alloc (.cells #[.int .i64 fr,.int .i64 tw,.slice a m c] 167)):=(Ξp _ _).alloc (Ξo _) _;exact⟨rfl,o',_,g1.below hb,A0u.A16 g4,(ξ28 g5).trans' (Chg.of_below hb _ _)⟩
def Ms.twice(M:Ms)(f:Fl):Ms:={ M with fl:=M.fl++[f] }
theorem ξbY(b:Nat)(o:Nat->Tg)(P:MP)(M:Ms)(i:Int)(w:World)(h:MAt w o b P M)(hi:i<0∨(M.fl.length:Int)<=i) :
 Calls prog 90 #[.pointer (some ⟨b,12,none⟩),.int .i64 i] w λe w'=>e=.returned (A0a 1)/\w'=w:=by
 obtain⟨X,ai,ah,au⟩:=h.fly;have aj:X.length=M.fl.length:=by rw[<-ai,Ξm]
 obtain⟨fa,aw,am⟩:=ah.form;have c12:=h.cells.2.2.2.2;rw[am]at c12;have ae:=ξ4O ah;obtain⟨fn,aq⟩:=nm X.length;rw[aq]at c12 aj ae;have CH:=ξ0 (ξI fa fn aw i w ae);rw[show decide (0<=i/\i<(fn:Int))=false by simp;omega]at CH;clear h ai ah au am aq hi aj;go_enter func90,ntmps90;go_wp2_with fail
 refine CH.out.mono ?_;rintro e w1 ⟨rfl,rfl⟩;go_wp2_with fail;go_ret;exact⟨rfl,rfl⟩
theorem ξ7q(b:Nat)(o:Nat->Tg)(P:MP)(M:Ms)(i:Nat)(f:Fl)(w:World)(h:MAt w o b P M)(hf:M.fl[i]?=some f)(hl:M.fl.length<1000) :
 Calls prog 90 #[.pointer (some ⟨b,12,none⟩),.int .i64 (i:Int)] w λe w'=>e=.returned .nilIface/\A8b w w' o b P M (M.fl++[f]):=by
 obtain⟨X,aq,au,aC⟩:=h.fly;have aD:X.length=M.fl.length:=by rw[<-aq,Ξm]
 have aF:i<M.fl.length:=(List.getElem?_eq_some_iff.1 hf).1;have ah:i<X.length:=by omega
 obtain⟨x,hx⟩:∃x,X[i]?=some x:=⟨_,Ξd ah⟩;have ai:x.1=f:=by
  have:(X.map Prod.fst)[i]?=some x.1:=by rw[List.getElem?_map,hx];rfl
  rw[aq,hf]at this;exact(Option.some.inj this).symm
 obtain⟨aj,aw⟩:=aC x (List.mem_of_getElem? hx);have ax:=aj;obtain⟨a,m,c,am,_⟩:=ax;rw[ai,am]at aj;rw[am]at aw;have ay:=au;rcases ay with⟨_,e⟩|⟨g,off,cap,cur,hfv,hg,h1,h2,h3,h4⟩
 ·rw[e]at ah;simp at ah
 have ae:=ξ4O au;obtain⟨q0,q1,q2⟩:=ξbQ X i x hx;have e0:w.cell? ⟨g,off+i*3,none⟩=some (.int .i64 f.fr):=by rw[<-ai];simp only[World.cell?,hg];exact h4 _ _ q0
 have e1:w.cell? ⟨g,off+i*3+1,none⟩=some (.int .i64 f.tw):=by rw[<-ai];simp only[World.cell?,hg];rw[Nat.add_assoc];exact h4 _ _ q1
 have e2:w.cell? ⟨g,off+i*3+2,none⟩=some (.slice a m c):=by rw[<-am];simp only[World.cell?,hg];rw[Nat.add_assoc];exact h4 _ _ q2
 have c12:=h.cells.2.2.2.2;rw[hfv]at c12;have CA:=ξ0 (ξ61 b o P M f a m c w h aj aw (by omega));obtain⟨fn,aE⟩:=nm X.length;rw[aE]at c12 ae aD ah;have CH:=ξ0 (ξI (some ⟨g,off,none⟩) fn cap (i:Int) w ae);rw[show decide (0<=(i:Int)/\(i:Int)<(fn:Int))=true by simp;omega]at CH;have aH:(i:Int)<(fn:Int):=by omega
 have aI:¬(1000:Int)<=(fn:Int):=by omega
 obtain⟨fr,az⟩:=nm f.fr;obtain⟨tw,aA⟩:=nm f.tw;rw[az]at e0;rw[aA]at e1;rw[az,aA]at CA;clear h aq au aC hx ai am aj aw hfv hg h1 h2 h3 h4 aE q0 q1 q2 aD aF ae hf hl az aA ah;go_enter func90,ntmps90;go_wp2_with fail
 refine CH.out.mono ?_;rintro e w1 ⟨rfl,aG⟩;obtain rfl:w=w1:=aG.symm;go_wp2_with fail;refine CA.out.mono ?_;rintro e w2 ⟨rfl,hD⟩;have HD:=ξ0 hD;clear hD CA CH e0 e1 e2 c12;go_wp2_with fail;go_ret;exact⟨rfl,HD.out⟩
theorem ξcu(b:Nat)(o:Nat->Tg)(P:MP)(M:Ms)(i:Int)(w:World)(h:MAt w o b P M)(hi:i<0∨(M.fl.length:Int)<=i) :
 Calls prog 43 #[.pointer (some ⟨b,0,none⟩),.int .i64 i] w λe w'=>e=.returned (A0a 1)/\w'=w:=by
 have C:=ξ0 (ξbY b o P M i w h hi);obtain⟨ev,ae⟩:=nm (A0a 1);rw[ae]at C ⊢;clear h hi ae;go_enter func43,ntmps43;go_wp2_with fail
 refine C.out.mono ?_;rintro e w1 ⟨rfl,rfl⟩;go_wp2_with fail;go_ret;exact⟨rfl,rfl⟩
theorem ξ1R(b:Nat)(o:Nat->Tg)(P:MP)(M:Ms)(i:Nat)(f:Fl)(w:World)(h:MAt w o b P M)(hf:M.fl[i]?=some f)(hl:M.fl.length<1000) :
 Calls prog 43 #[.pointer (some ⟨b,0,none⟩),.int .i64 (i:Int)] w λe w'=>e=.returned .nilIface/\A0j w w' o b (M.twice f):=by
 have C:=ξ0 (ξ7q b o P M i f w h hf hl);clear h hf hl;go_enter func43,ntmps43;go_wp2_with fail
 refine C.out.mono ?_;rintro e w1 ⟨rfl,hD⟩;have HD:=ξ0 hD;clear hD C;go_wp2_with fail;go_ret;obtain⟨o',v,g1,g2,g3⟩:=HD.out;exact⟨rfl,o',_,g1,A0u.A16 g2,ξ28 g3⟩
end Go.Proofs.YtpiamlgmadnepaaGreat.MS
