/-
 MeshM, MeshF, MeshG, MeshH, MeshI in one text.
-/
import Derived.Test.YtpiamlgmadnepaaGreatGenEnd
import Derived.Test.YtpiamlgmadnepaaGreatTreeAll
import Derived.Test.YtpiamlgmadnepaaGreatMathAll
import Derived.Deep.RegionLaw
import Derived.Deep.AppendLies
import Derived.ArgAppend
import Derived.Lib.SliceRun
import Derived.Deep.LoopGhost
import Derived.Deep.RegionHeld3
open Go.Proofs.Tryz
set_option linter.unusedVariables false
set_option maxHeartbeats 4000000
set_option maxRecDepth 1000000
namespace Go.Proofs.YtpiamlgmadnepaaGreat.MS
open Go.ChangeShapes Go.WideShapes Go.ChangeAt Go.RowKit Go.Maps Mem NO ND
structure Fl where
 fr:Int
 tw:Int
 B:List Nat
structure Ms where
 nw:Int
 n:Nat
 nd:Nat->Nd
 E:List TM.Ed
 rt:Nat->Int
 sb:List (Int×Int)
 fl:List Fl
structure MP where
 nb:Nat->Nat
 np:Nat->NP
 nv:Value
 ea:Option Addr
 ec:Nat
 sv:Value
 fv:Value
def fcs (x:Fl×Value):List Value:=[.int .i64 x.1.fr,.int .i64 x.1.tw,x.2]
def fc (X:List (Fl×Value)):List Value:=X.flatMap fcs
theorem ξ2c (X:List (Fl×Value)):(fc X).length=X.length*3:=by
 induction X with
 | nil=>rfl
 | cons x X ih=>
   show (fcs x++fc X).length=_
   rw [Ξh,ih,List.length_cons];simp [fcs]
   omega
theorem ξ71 (X Y:List (Fl×Value)):fc (X++Y)=fc X++fc Y:=by simp [fc]
theorem ξbh (X:List (Fl×Value)):∀ (i:Nat) (x:Fl×Value),X[i]?=some x->(fc X)[i*3]?=some (.int .i64 x.1.fr)/\(fc X)[i*3+1]?=some (.int .i64 x.1.tw)/\(fc X)[i*3+2]?=some x.2:=by
 induction X with
 | nil=>intro i x h;simp at h
 | cons y X ih=>
   intro i x h;have e:fc (y::X)=.int .i64 y.1.fr::.int .i64 y.1.tw::y.2::fc X:=rfl
   cases i with
   | zero=>
     rw [List.getElem?_cons_zero] at h;cases h
     exact ⟨rfl,rfl,rfl⟩
   | succ i=>
     have:=ih i x (by simpa using h)
     rw [e,show (i+1)*3=i*3+1+1+1 by omega]
     simpa using this
theorem ξ8j (X:List (Fl×Value)):∀ k,fc (X.drop k)=(fc X).drop (k*3):=by
 induction X with
 | nil=>intro k;simp [fc]
 | cons y X ih=>
   intro k;cases k with
   | zero=>simp
   | succ k=>
     rw [List.drop_succ_cons,ih k];show _=(fcs y++fc X).drop _
     rw [List.drop_append_of_le_length' y X k]
 where
 List.drop_append_of_le_length' (y:Fl×Value) (X:List (Fl×Value)) (k:Nat):(fcs y++fc X).drop ((k+1)*3)=(fc X).drop (k*3):=by
  rw [List.drop_append,List.drop_of_length_le (by simp [fcs];omega),show (k+1)*3 - (fcs y).length=k*3 by simp [fcs];omega]
  rfl
theorem ξen (X:List (Fl×Value)) (k:Nat):fc (X.take k)=(fc X).take (k*3):=by
 have h:=ξ71 (X.take k) (X.drop k)
 rw [List.take_append_drop] at h;by_cases hk:k<=X.length
 ·have e:(fc (X.take k)).length=k*3:=by rw [ξ2c,List.length_take];omega
  rw [h,<- e,List.take_left'];rfl
 ·rw [Ξl (l:=X) (by omega),Ξl (l:=fc X) (by rw [ξ2c];omega)]
theorem ξ8k (X:List (Fl×Value)) (h:∀ x∈X,∃ a m c,x.2=.slice a m c):∀ u∈fc X,u.oneCell'=true:=by
 intro u hu;obtain ⟨x,hx,hu⟩:=List.mem_flatMap.1 hu;obtain ⟨a,m,c,e⟩:=h x hx;simp only [fcs,Ξf,List.not_mem_nil,or_false] at hu
 rcases hu with rfl | rfl | rfl
 ·rfl
 ·rfl
 ·rw [e];rfl
def FRow (w:World) (v:Value) (X:List (Fl×Value)):Prop:=(v=.slice none 0 0/\X=[]) ∨
 ∃ g off cap cur,v=.slice (some ⟨g,off,none⟩) X.length cap/\w.heap[g]?=some (.cells cur 167 (0,0))/\X.length<=cap/\cap<=maxLen/\off+cap*3<=cur.size/\∀ j u,(fc X)[j]?=some u->cur[off+j]?=some u
theorem FRow.nil (w:World):FRow w (.slice none 0 0) []:=.inl ⟨rfl,rfl⟩
theorem FRow.form {w:World} {v:Value} {X:List (Fl×Value)} (h:FRow w v X):∃ a c,v=.slice a X.length c:=by
 rcases h with ⟨rfl,rfl⟩ | ⟨g,off,cap,cur,rfl,_⟩
 ·exact ⟨none,0,rfl⟩
 ·exact ⟨_,_,rfl⟩
theorem FRow.lt {w:World} {v:Value} {X:List (Fl×Value)} (h:FRow w v X):∀ k∈v.ownBlock.toList,k<w.heap.size:=by
 intro k hk;rcases h with ⟨rfl,rfl⟩ | ⟨g,off,cap,cur,rfl,hg,_⟩
 ·simp [Value.ownBlock] at hk
 ·simp [Value.ownBlock] at hk
  subst hk;exact lt_of_block hg
theorem FRow.only {w w':World} {v:Value} {X:List (Fl×Value)} {bs:List Nat} (h:FRow w v X) (ho:Only bs w w') (hb:∀ k∈v.ownBlock.toList,k∉bs):FRow w' v X:=by
 rcases h with ⟨rfl,rfl⟩ | ⟨g,off,cap,cur,rfl,hg,h1,h2,h3,h4⟩
 ·exact .inl ⟨rfl,rfl⟩
 ·exact .inr ⟨g,off,cap,cur,rfl,ho.block hg (hb g (by simp [Value.ownBlock])),h1,h2,h3,h4⟩
def FlAt (w:World) (o:Nat->Tg) (v:Value) (F:List Fl):Prop:=∃ X:List (Fl×Value),X.map Prod.fst=F/\FRow w v X/\∀ x∈X,ξm w o x.2 x.1.B/\Cap x.2
theorem FlAt.nil (w:World) (o:Nat->Tg):FlAt w o (.slice none 0 0) []:=⟨[],rfl,FRow.nil w,by simp⟩
theorem FlAt.chg {w w':World} {o o':Nat->Tg} {S:Tg->Prop} {g:Tg} {v:Value} {F:List Fl} (h:FlAt w o v F) (hc:Chg o S w w') (ho:Own o g v.ownBlock.toList) (hs:¬ S g) (h0:∀ g,S g->g.n≠0) (he:Ext w o o'):FlAt w' o' v F:=by
 obtain ⟨X,h1,h2,h3⟩:=h;refine ⟨X,h1,?_,fun x hx=>⟨(h3 x hx).1.chg hc h0 he,(h3 x hx).2⟩⟩
 obtain ⟨bs,q1,q2,q3⟩:=hc;exact h2.only q1 (fun k hk hb=>hs (by rw [<- ho k hk];exact q2 k hb))
theorem FlAt.lt {w:World} {o:Nat->Tg} {v:Value} {F:List Fl} (h:FlAt w o v F):∀ k∈v.ownBlock.toList,k<w.heap.size:=by
 obtain ⟨X,_,h2,_⟩:=h;exact h2.lt
def Ret (n:Nat) (o o':Nat->Tg):Prop:=∀ k,o' k=o k∨((o k).n=n/\o' k=ξ2)
theorem Ret.own {n:Nat} {o o':Nat->Tg} (h:Ret n o o') {g:Tg} (hg:g.n≠n) {bs:List Nat} (ho:Own o g bs):Own o' g bs:=by
 intro k hk;rcases h k with e | ⟨e,_⟩
 ·exact e.trans (ho k hk)
 ·rw [ho k hk] at e;exact absurd e hg
theorem Ret.one {n:Nat} {o o':Nat->Tg} (h:Ret n o o') {g:Tg} (hg:g.n≠n) {k:Nat} (ho:o k=g):o' k=g:=by
 rcases h k with e | ⟨e,_⟩
 ·exact e.trans ho
 ·rw [ho] at e;exact absurd e hg
theorem Ret.zero {n:Nat} {o o':Nat->Tg} (h:Ret n o o') {k:Nat} (ho:(o k).n=0):(o' k).n=0:=by
 rcases h k with e | ⟨_,e⟩
 ·rw [e];exact ho
 ·rw [e]
theorem Ret.body {n:Nat} {o o':Nat->Tg} (h:Ret n o o') {w:World} {v:Value} {L:List Nat} (hb:ξm w o v L):ξm w o' v L:=by
 obtain ⟨a,m,c,rfl,hA,hF⟩:=hb;exact ⟨a,m,c,rfl,hA,fun hm ad e=>h.zero (hF hm ad e)⟩
theorem Ret.got {n:Nat} {o o':Nat->Tg} (h:Ret n o o') {w:World} {v:Value} {G:List Pk} (hb:ξM w o v G):ξM w o' v G:=by
 obtain ⟨X,r1,r2,r3⟩:=hb;exact ⟨X,r1,r2,fun y hy=>h.body (r3 y hy)⟩
theorem Ret.let {n:Nat} {o o':Nat->Tg} (h:Ret n o o') {w:World} {v:Value} {G:List (Int×List Nat)} (hb:ξI w o v G):ξI w o' v G:=by
 obtain ⟨X,r1,r2,r3⟩:=hb;exact ⟨X,r1,r2,fun y hy=>⟨h.body (r3 y hy).1,(r3 y hy).2⟩⟩
theorem Ret.fly {n:Nat} {o o':Nat->Tg} (h:Ret n o o') {w:World} {v:Value} {G:List Fl} (hb:FlAt w o v G):FlAt w o' v G:=by
 obtain ⟨X,r1,r2,r3⟩:=hb;exact ⟨X,r1,r2,fun y hy=>⟨h.body (r3 y hy).1,(r3 y hy).2⟩⟩
theorem NAt.ret {w:World} {o o':Nat->Tg} {n m b:Nat} {P:NP} {N:Nd} (h:NAt w o m b P N) (hr:Ret n o o') (hm:m≠n):NAt w o' m b P N:=by
 refine ⟨h.box,hr.one (g:=⟨m,0,0⟩) hm h.tag,?_,h.sbm,hr.one (g:=⟨m,0,1⟩) hm h.smt,?_,h.pul,hr.own (g:=⟨m,2,0⟩) hm h.put,hr.let h.ltr,hr.own (g:=⟨m,1,0⟩) hm h.ltt⟩
 ·intro i hi t ht;obtain ⟨k1,k2⟩:=h.trs i hi t ht;exact ⟨k1,hr.own (g:=⟨m,3,i⟩) hm k2⟩
 ·intro x hx;obtain ⟨k1,k2⟩:=h.sbs x hx;exact ⟨⟨k1.box,k1.ord,k1.lay,k1.out,hr.got k1.got⟩,hr.own (g:=⟨m,4,x.1⟩) hm k2⟩
def npt (f:Nat->Nat) (n:Nat):List Value:=(List.range n).map fun i=>Value.pointer (some ⟨f i,0,none⟩)
def sbc (l:List (Int×Int)):List Value:=l.flatMap fun x=>[.int .i64 x.1,.int .i64 x.2]
structure MCells (cs:Array Value) (P:MP) (M:Ms):Prop where
 sz:cs.size=13
 c0:cs[0]?=some (.int .i64 M.nw)
 c1:cs[1]?=some P.nv
 c2:cs[2]?=some (.slice P.ea M.E.length P.ec)
 cr:∀ i,i<8->cs[3+i]?=some (.int .i64 (M.rt i))
 c11:cs[11]?=some P.sv
 c12:cs[12]?=some P.fv
structure MAt (w:World) (o:Nat->Tg) (b:Nat) (P:MP) (M:Ms):Prop where
 n16:M.n<=16
 box:∃ cs,w.heap[b]?=some (.cells cs 96 (0,0))/\MCells cs P M
 tag:o b=⟨1000,0,0⟩
 nrow:w.ownsRow 0 97 1 P.nv M.n (npt P.nb M.n)
 nrt:Own o ⟨1000,1,0⟩ P.nv.ownBlock.toList
 nds:∀ i,i<M.n->NAt w o (i+1) (P.nb i) (P.np i) (M.nd i)
 edg:Tree.EArg w P.ea M.E.length M.E
 edc:M.E.length<=P.ec
 edt:∀ ad,P.ea=some ad->0<M.E.length->o ad.block=⟨1000,2,0⟩
 srow:w.ownsRow 0 104 2 P.sv M.sb.length (sbc M.sb)
 srt:Own o ⟨1000,3,0⟩ P.sv.ownBlock.toList
 fly:FlAt w o P.fv M.fl
 flt:Own o ⟨1000,4,0⟩ P.fv.ownBlock.toList
theorem MAt.cells {w:World} {o:Nat->Tg} {b:Nat} {P:MP} {M:Ms} (h:MAt w o b P M):w.cell? ⟨b,0,none⟩=some (.int .i64 M.nw)/\w.cell? ⟨b,1,none⟩=some P.nv/\w.cell? ⟨b,2,none⟩=some (.slice P.ea M.E.length P.ec)/\w.cell? ⟨b,11,none⟩=some P.sv/\w.cell? ⟨b,12,none⟩=some P.fv:=by
 obtain ⟨cs,h1,h2⟩:=h.box;simp [World.cell?,h1,h2.c0,h2.c1,h2.c2,h2.c11,h2.c12]
theorem MAt.root {w:World} {o:Nat->Tg} {b:Nat} {P:MP} {M:Ms} (h:MAt w o b P M) {i:Nat} (hi:i<8):w.cell? ⟨b,3+i,none⟩=some (.int .i64 (M.rt i)):=by
 obtain ⟨cs,h1,h2⟩:=h.box;simp [World.cell?,h1,h2.cr i hi]
theorem MAt.free {w:World} {o:Nat->Tg} {b:Nat} {P:MP} {M:Ms} (h:MAt w o b P M) (j:Nat):w.frozen? ⟨b,j,none⟩=false:=by
 obtain ⟨cs,h1,h2⟩:=h.box;simp [World.frozen?,h1]
theorem MAt.lt {w:World} {o:Nat->Tg} {b:Nat} {P:MP} {M:Ms} (h:MAt w o b P M):b<w.heap.size:=by
 obtain ⟨cs,h1,h2⟩:=h.box;exact lt_of_block h1
theorem ξ1z {w w':World} {o:Nat->Tg} {S:Tg->Prop} {a:Option Addr} {m:Nat} {L:List TM.Ed} {g:Tg} (h:Tree.EArg w a m L) (hc:Chg o S w w') (ht:∀ ad,a=some ad->0<m->o ad.block=g) (hg:¬ S g):Tree.EArg w' a m L:=by
 obtain ⟨bs,q1,q2,q3⟩:=hc;refine ⟨fun j hj=>?_,h.2⟩
 obtain ⟨b',o',e,h0,h1,h2⟩:=h.1 j hj;have hnb:b'∉bs:=fun hx=>hg (by rw [<- ht _ e (by have:=h.2.1;omega)];exact q2 _ hx)
 have hl:=Ξq w ⟨b',o'+j*3,none⟩ h0
 have hs:=q1.2.2.2.2 b' hl hnb
 exact ⟨b',o',e,(ξn hs _).trans h0,(ξn hs _).trans h1,(ξn hs _).trans h2⟩
theorem ξ28 {w:World} {a:Option Addr} {m:Nat} {L:List TM.Ed} (h:Tree.EArg w a m L) {ad:Addr} (e:a=some ad) (hm:0<m):ad.block<w.heap.size:=by
 obtain ⟨b',o',e',h0,_,_⟩:=h.1 0 (by have:=h.2.1;omega)
 rw [e] at e';cases e'
 exact Ξq w ⟨b',o'+0*3,none⟩ h0
theorem MAt.chg {w w':World} {o o':Nat->Tg} {b:Nat} {P:MP} {M:Ms} {S:Tg->Prop} (h:MAt w o b P M) (hc:Chg o S w w') (hs:∀ g,S g->g.n≠0/\g.n≠1000/\16<g.n) (he:Ext w o o'):MAt w' o' b P M:=by
 have h0:∀ g,S g->g.n≠0:=fun g hg=>(hs g hg).1
 have no:∀ c j,¬ S ⟨1000,c,j⟩:=fun c j hg=>(hs _ hg).2.1 rfl
 obtain ⟨cs,h1,h2⟩:=h.box;refine ⟨h.n16,⟨cs,hc.block h1 (by rw [h.tag];exact no _ _),h2⟩,(he _ (lt_of_block h1)).trans h.tag,ξG h.nrow hc h.nrt (no _ _),h.nrt.ext he (fun k hk=>ξB h.nrow (by simpa using hk)),?_,ξ1z h.edg hc h.edt (no _ _),h.edc,?_,ξG h.srow hc h.srt (no _ _),h.srt.ext he (fun k hk=>ξB h.srow (by simpa using hk)),h.fly.chg hc h.flt (no _ _) h0 he,h.flt.ext he h.fly.lt⟩
 ·intro i hi;exact (h.nds i hi).chg hc (fun g hg=>⟨h0 g hg,by have:=(hs g hg).2.2;have:=h.n16;omega⟩) he
 ·intro ad e hm;rw [he _ (ξ28 h.edg e hm)];exact h.edt ad e hm
theorem MAt.below {w w':World} {o:Nat->Tg} {b:Nat} {P:MP} {M:Ms} (h:MAt w o b P M) (hb:Below w.heap.size w w'):MAt w' o b P M:=
 h.chg (S:=fun _=>False) (Chg.of_below hb _ _) (fun g hg=>hg.elim) (Ext.refl _ _)
theorem MAt.grow {w w':World} {o:Nat->Tg} {b:Nat} {P:MP} {M:Ms} (h:MAt w o b P M) (hb:Below w.heap.size w w') (t:Tg):MAt w' (grow o w t) b P M:=
 h.chg (S:=fun _=>False) (Chg.of_below hb _ _) (fun g hg=>hg.elim) (ξ3 o w t)
def updN {α:Type} (f:Nat->α) (i:Nat) (x:α):Nat->α:=fun k=>if k=i then x else f k
theorem ξ9 {α:Type} (f:Nat->α) (i:Nat) (x:α):updN f i x i=x:=if_pos rfl
theorem ξf {α:Type} (f:Nat->α) {i k:Nat} (x:α) (h:k≠i):updN f i x k=f k:=if_neg h
def meshy (g:Tg):Prop:=g.n≠0/\g.n≠2000
def Keep (w:World) (o o':Nat->Tg):Prop:=∀ k,k<w.heap.size->o' k=o k∨(meshy (o k)/\o' k=ξ2)
theorem Keep.of_ext {w:World} {o o':Nat->Tg} (h:Ext w o o'):Keep w o o':=fun k hk=>.inl (h k hk)
theorem Keep.trans {w w1:World} {o o1 o2:Nat->Tg} (h:Keep w o o1) (h':Keep w1 o1 o2) (hs:w.heap.size<=w1.heap.size):Keep w o o2:=by
 intro k hk;rcases h k hk with e | ⟨e1,e2⟩
 ·rcases h' k (by omega) with e' | ⟨e1',e2'⟩
  ·exact .inl (e'.trans e)
  ·exact .inr ⟨by rw [e] at e1';exact e1',e2'⟩
 ·rcases h' k (by omega) with e' | ⟨e1',e2'⟩
  ·exact .inr ⟨e1,e'.trans e2⟩
  ·exact .inr ⟨e1,e2'⟩
theorem Chg.keep {w w1 w2:World} {o o1:Nat->Tg} (h:Chg o meshy w w1) (h':Chg o1 meshy w1 w2) (hk:Keep w o o1):Chg o meshy w w2:=by
 obtain ⟨bs,a1,a2,a3⟩:=h;obtain ⟨cs,b1,b2,b3⟩:=h';refine ⟨bs++cs.filter fun k=>decide (k<w.heap.size),?_,?_,a3.app (Nob.back a1 a3 b3)⟩
 ·refine ⟨b1.1.trans a1.1,b1.2.1.trans a1.2.1,b1.2.2.1.trans a1.2.2.1,Nat.le_trans a1.2.2.2.1 b1.2.2.2.1,?_⟩
  intro k hk hn;have n1:k∉bs:=fun hc=>hn (Ξe.2 (.inl hc))
  have n2:k∉cs:=fun hc=>hn (Ξe.2 (.inr (Ξj.2 ⟨hc,by simpa using hk⟩)))
  exact (b1.2.2.2.2 k (Ξn hk a1.2.2.2.1) n2).trans (a1.2.2.2.2 k hk n1)
 ·intro k hk';rcases Ξe.1 hk' with hk' | hk'
  ·exact a2 k hk'
  ·obtain ⟨hk1,hl⟩:=Ξj.1 hk';have hl:k<w.heap.size:=by simpa using hl
   rcases hk k hl with e | ⟨e1,_⟩
   ·rw [<- e];exact b2 k hk1
   ·exact e1
def MDone (w w':World) (o:Nat->Tg) (b:Nat) (M:Ms):Prop:=∃ o' P,MAt w' o' b P M/\Keep w o o'/\Chg o meshy w w'
theorem MDone.refl {w w':World} {o:Nat->Tg} {b:Nat} {P:MP} {M:Ms} (h:MAt w o b P M) (hb:Below w.heap.size w w'):MDone w w' o b M:=⟨o,P,h.below hb,Keep.of_ext (Ext.refl _ _),Chg.of_below hb _ _⟩
theorem ξ16 {o:Nat->Tg} {n:Nat} {w w':World} (h:Chg o (mine n) w w') (h0:n≠0) (h1:n≠2000):Chg o meshy w w':=h.mono (fun t ht=>by unfold mine at ht;unfold meshy;omega)
theorem NAt.far {w w':World} {o o':Nat->Tg} {n m b:Nat} {P:NP} {N:Nd} (h:NAt w o m b P N) (hc:Chg o (mine n) w w') (hn:n≠0) (hm:m≠n) (he:Ext w o o'):NAt w' o' m b P N:=h.chg hc (fun g hg=>by unfold mine at hg;exact ⟨by omega,by omega⟩) he
theorem MAt.node {w w':World} {o:Nat->Tg} {b:Nat} {P:MP} {M:Ms} (h:MAt w o b P M) {i:Nat} (hi:i<M.n) {N:Nd} (hd:Done w w' o (i+1) (P.nb i) N) :
 ∃ o' P',MAt w' o' b P' { M with nd:=updN M.nd i N }/\P'.nb=P.nb/\P'.nv=P.nv/\P'.fv=P.fv/\P'.sv=P.sv/\Ext w o o'/\Chg o (mine (i+1)) w w':=by
 obtain ⟨o',Q,h1,he,hc⟩:=hd;have h16:=h.n16
 have h0:∀ g,mine (i+1) g->g.n≠0:=fun g hg=>by unfold mine at hg;omega
 have no:∀ c j,¬ mine (i+1) ⟨1000,c,j⟩:=fun c j hg=>by unfold mine at hg;simp only at hg;omega
 obtain ⟨cs,k1,k2⟩:=h.box;refine ⟨o',{ P with np:=updN P.np i Q },⟨h16,⟨cs,hc.block k1 (by rw [h.tag];exact no _ _),⟨k2.sz,k2.c0,k2.c1,k2.c2,k2.cr,k2.c11,k2.c12⟩⟩,(he _ (lt_of_block k1)).trans h.tag,ξG h.nrow hc h.nrt (no _ _),h.nrt.ext he (fun k hk=>ξB h.nrow (by simpa using hk)),?_,ξ1z h.edg hc h.edt (no _ _),h.edc,?_,ξG h.srow hc h.srt (no _ _),h.srt.ext he (fun k hk=>ξB h.srow (by simpa using hk)),h.fly.chg hc h.flt (no _ _) h0 he,h.flt.ext he h.fly.lt⟩,rfl,rfl,rfl,rfl,he,hc⟩
 ·intro j hj;by_cases c:j=i
  ·subst c;show NAt w' o' (j+1) (P.nb j) (updN P.np j Q j) (updN M.nd j N j)
   rw [ξ9,ξ9];exact h1
  ·show NAt w' o' (j+1) (P.nb j) (updN P.np i Q j) (updN M.nd i N j)
   rw [ξf _ _ c,ξf _ _ c];exact NAt.far (h.nds j hj) hc (by omega) (by omega) he
 ·intro ad e hm;rw [he _ (ξ28 h.edg e hm)];exact h.edt ad e hm
theorem MAt.nodeR {w w':World} {o o':Nat->Tg} {b:Nat} {P:MP} {M:Ms} (h:MAt w o b P M) {i:Nat} (hi:i<M.n) {N:Nd} {Q:NP} (h1:NAt w' o' (i+1) (P.nb i) Q N) (hr:Ret (i+1) o o') (hc:Chg o (mine (i+1)) w w') :
 MAt w' o' b { P with np:=updN P.np i Q } { M with nd:=updN M.nd i N }:=by
 have h16:=h.n16
 have h0:∀ g,mine (i+1) g->g.n≠0:=fun g hg=>by unfold mine at hg;omega
 have no:∀ c j,¬ mine (i+1) ⟨1000,c,j⟩:=fun c j hg=>by unfold mine at hg;simp only at hg;omega
 have hne:∀ c j,(⟨1000,c,j⟩:Tg).n≠i+1:=fun c j=>by show 1000≠i+1;omega
 have he:=Ext.refl w o
 obtain ⟨cs,k1,k2⟩:=h.box;refine ⟨h16,⟨cs,hc.block k1 (by rw [h.tag];exact no _ _),⟨k2.sz,k2.c0,k2.c1,k2.c2,k2.cr,k2.c11,k2.c12⟩⟩,hr.one (hne _ _) h.tag,ξG h.nrow hc h.nrt (no _ _),hr.own (hne _ _) h.nrt,?_,ξ1z h.edg hc h.edt (no _ _),h.edc,fun ad e hm=>hr.one (hne _ _) (h.edt ad e hm),ξG h.srow hc h.srt (no _ _),hr.own (hne _ _) h.srt,hr.fly (h.fly.chg hc h.flt (no _ _) h0 he),hr.own (hne _ _) h.flt⟩
 intro j hj;by_cases c:j=i
 ·subst c;show NAt w' o' (j+1) (P.nb j) (updN P.np j Q j) (updN M.nd j N j)
  rw [ξ9,ξ9];exact h1
 ·show NAt w' o' (j+1) (P.nb j) (updN P.np i Q j) (updN M.nd i N j)
  rw [ξf _ _ c,ξf _ _ c];exact NAt.ret (NAt.far (h.nds j hj) hc (by omega) (by omega) he) hr (by omega)
theorem Ret.keep {w:World} {o o':Nat->Tg} {n:Nat} (h:Ret n o o') (h0:n≠0) (h1:n≠2000):Keep w o o':=by
 intro k _;rcases h k with e | ⟨e1,e2⟩
 ·exact .inl e
 ·exact .inr ⟨by unfold meshy;omega,e2⟩
theorem infoFT:(prog.info? 167).map (fun i=>(i.zero,i.size,i.bytes))=some (some (.agg #[.int .i64 0,.int .i64 0,.slice none 0 0]),3,40):=by kernel_rfl
theorem ξ6A {w:World} {base n:Nat} {v:Value} {X:List (Fl×Value)} (h:w.ownsRow base 167 3 v n (fc X)) (hn:X.length=n):FRow w v X:=by
 rcases h.2 with ⟨rfl,h0⟩ | ⟨g,cap,cur,rfl,hb,hg,h1,h2,h3,h4⟩
 ·exact .inl ⟨rfl,Ξk (by omega)⟩
 ·refine .inr ⟨g,0,cap,cur,by rw [hn],hg,by omega,h2,by omega,?_⟩
  intro j u hu;rw [<- h4,List.getElem?_take] at hu;split at hu
  ·rw [Nat.zero_add];simpa using hu
  ·cases hu
theorem FRow.cells {w:World} {g off n cap:Nat} {X:List (Fl×Value)} (h:FRow w (.slice (some ⟨g,off,none⟩) n cap) X):∀ j u,(fc X)[j]?=some u->w.cell? ((⟨g,off,none⟩:Addr).add j)=some u:=by
 intro j u hu;rcases h with ⟨e,_⟩ | ⟨g',off',cap',cur,e,hg,h1,h2,h3,h4⟩
 ·cases e
 ·cases e
  rw [Addr.add_lit];simp only [World.cell?,hg]
  exact h4 j u hu
theorem ξ4z {w w':World} {row:Option Nat} (h:w.grownBy w' row):Only row.toList w w':=⟨h.os,h.tape,h.output,h.size,fun k hk hn=>h.block k hk (fun e=>hn (by rw [<- e];simp))⟩
theorem ξ5P {w:World} {v:Value} {X:List (Fl×Value)} (h:FRow w v X) (ty:TypeId) (B:Nat) (x:Fl×Value) (hB:w.heap[B]?=some (.cells (fcs x).toArray 167 (0,0))) (hx:∃ a m c,x.2=.slice a m c) (hl:X.length<=1000000) :
 ∃ v' w',(Builtin.append_ #[94,94] ty #[v,.slice (some ⟨B,0,none⟩) 1 1]).run prog w=.ok v' w'/\FRow w' v' (X++[x])/\Only v.ownBlock.toList w w'/\(∀ k,v'.ownBlock=some k->v.ownBlock=some k∨w.heap.size<=k):=by
 obtain ⟨i0,hii,hz0,hz1,hz2⟩:=info_parts infoFT;have hnews:∀ j u,(fcs x)[j]?=some u->w.cell? ((⟨B,0,none⟩:Addr).add j)=some u:=by
  have:=World.news_of_block hB
  simpa using this
 have hone:∀ u∈fcs x,u.oneCell'=true:=by
  have:=ξ8k [x] (by intro y hy;rw [Ξg] at hy;rw [hy];exact hx)
  simpa [fc] using this
 have e1:fc (X++[x])=fc X++fcs x:=by rw [ξ71];simp [fc]
 rcases h with ⟨rfl,rfl⟩ | ⟨g,off,cap,cur,rfl,hg,h1,h2,h3,h4⟩
 ·obtain ⟨v',w',q1,q2,q3,_⟩:=run_append_own (P:=prog) w w.heap.size 94 ty 167 i0 _ 3 40 underlying94 hii hz0 hz1 hz2 rfl (by omega) (.slice none 0 0) 0 [] (Ξr w _ _ _) ⟨B,0,none⟩ 1 1 (fcs x) (by rfl) hnews hone (by unfold maxLen;omega) (by omega) (Ξo _)
  refine ⟨v',w',q1,ξ6A (base:=w.heap.size) (n:=0+1) (by rw [e1];exact q2) rfl,ξ4z q3,fun k hk=>.inr ?_⟩
  exact (q2.lt k hk).1
 ·by_cases hr:X.length+1<=cap
  ·have hl3:=ξ2c X
   obtain ⟨⟨c',k1,k2,k3,k4,k5⟩,k6⟩:=ξW (t:=167) g (fcs x) (off+X.length*3) w cur hg (by show off+X.length*3+3<=_;omega)
   have hs:∀ j,j<(fcs x).length->(w.cell? ⟨g,off+X.length*i0.size+j,none⟩).isSome=true:=by
    intro j hj;have hj3:j<3:=hj
    rw [hz1];simp only [World.cell?,hg]
    rw [Array.getElem?_eq_getElem (by omega)]
    rfl
   have hrun:=run_append_room_cells (P:=prog) w 94 ty 167 i0 underlying94 hii g off X.length cap ⟨B,0,none⟩ 1 1 (fcs x) (by rw [hz1];rfl) hnews hone hr hs (fun j hj=>by simp [World.frozen?,hg])
   rw [hz1] at hrun;refine ⟨_,_,hrun,.inr ⟨g,off,cap,c',by rw [Ξh];rfl,k1,by rw [Ξh];exact hr,h2,by omega,?_⟩,by simpa [Value.ownBlock] using k6,fun k hk=>.inl hk⟩
   intro j u hu;rw [e1] at hu;by_cases hj:j<(fc X).length
   ·rw [Ξt hj] at hu;rw [k3 _ (by omega)]
    exact h4 j u hu
   ·rw [List.getElem?_append_right (by omega)] at hu
    have hlt:=(List.getElem?_eq_some_iff.1 hu).1
    have:=k5 (j - (fc X).length) hlt
    rw [hl3] at this hu;rw [show off+j=off+X.length*3+(j - X.length*3) by omega,this]
    exact hu
  ·have hcells:∀ j u,(fc X)[j]?=some u->w.cell? ((⟨g,off,none⟩:Addr).add j)=some u:=FRow.cells (n:=X.length) (cap:=cap) (.inr ⟨g,off,cap,cur,rfl,hg,h1,h2,h3,h4⟩)
   obtain ⟨v',w',q1,q2,q3⟩:=run_append_arg_grows (P:=prog) w 94 ty 167 i0 _ 3 40 underlying94 hii hz0 hz1 hz2 rfl (by omega) ⟨g,off,none⟩ X.length cap (fc X) (ξ2c X) hcells ⟨B,0,none⟩ 1 1 (fcs x) (by rfl) hnews (by omega) (by unfold maxLen;omega) (by omega)
   refine ⟨v',w',q1,ξ6A (base:=w.heap.size) (n:=X.length+1) (by rw [e1];exact q2) (by rw [Ξh];rfl),(ξ4z q3).mono (by simp),fun k hk=>.inr ?_⟩
   exact (q2.lt k hk).1
theorem ξ4R {w:World} {ops:Array Oper} {o:Oper} {a:Act} {K:Act->World->Prop} {Q:Exit->Act->World->Prop} {E:Prop} (hgd:o.guard=none) (s x:Operand)
 (ho:o.op=.call { callee:=.builtin .append,args:=#[s,x],argTypes:=#[94,94] }) (v:Value) (X:List (Fl×Value)) (hs:a.eval s=v) (hF:FRow w v X) (B:Nat) (y:Fl×Value) (hB:w.heap[B]?=some (.cells (fcs y).toArray 167 (0,0))) (hy:∃ a m c,y.2=.slice a m c) (hx:a.eval x=.slice (some ⟨B,0,none⟩) 1 1) (hl:X.length<=1000000) (nn:Nat) (hnn:X.length+1=nn)
 (h:∀ va vc w',FRow w' (.slice va nn vc) (X++[y])->Only v.ownBlock.toList w w'->(∀ k,(Value.slice va nn vc).ownBlock=some k->v.ownBlock=some k∨w.heap.size<=k)->K (a.put o.dst (.slice va nn vc)) w') :
 if Region.wanted o (yielded ops a.tmps)=true then Oper.wp prog o a w K Q else E:=by
 have hw:Region.wanted o (yielded ops a.tmps)=true:=by simp [Region.wanted,hgd]
 rw [if_pos hw];obtain ⟨v',w',hr,h2,h3,h4⟩:=ξ5P hF o.type B y hB hy hl;unfold Oper.wp execOp;simp only [ho,resolve,invoke,builtin,Sem.run_bind,Sem.run_pure,Result.andThen_ok,List.map_toArray,List.map_cons,List.map_nil,hs,hx,hr]
 obtain ⟨va,vc,e⟩:=h2.form;rw [Ξh,show X.length+[y].length=nn from hnn] at e;subst e;exact h va vc w' h2 h3 h4
def ftag (g:Tg):Prop:=g=⟨1000,0,0⟩∨g=⟨1000,4,0⟩
theorem ξ23 {o:Nat->Tg} {w w':World} (h:Chg o ftag w w'):Chg o meshy w w':=h.mono (by rintro t (rfl | rfl)<;>exact ⟨by decide,by decide⟩)
theorem ξ3s {g:Tg} (h:ftag g):g.n=1000:=by rcases h with rfl | rfl<;>rfl
theorem MAt.setF {w w':World} {o o':Nat->Tg} {b:Nat} {P:MP} {M:Ms} (h:MAt w o b P M) (hc:Chg o ftag w w') (he:Ext w o o') {v:Value} {F:List Fl} (hb:∃ cs,w'.heap[b]?=some (.cells cs 96 (0,0))/\MCells cs { P with fv:=v } { M with fl:=F }) (hf:FlAt w' o' v F) (ht:Own o' ⟨1000,4,0⟩ v.ownBlock.toList):MAt w' o' b { P with fv:=v } { M with fl:=F }:=by
 have h0:∀ g,ftag g->g.n≠0:=fun g hg=>by rw [ξ3s hg];decide
 refine ⟨h.n16,hb,(he _ h.lt).trans h.tag,ξG h.nrow hc h.nrt (by simp [ftag]),h.nrt.ext he (fun k hk=>ξB h.nrow (by simpa using hk)),?_,ξ1z h.edg hc h.edt (by simp [ftag]),h.edc,?_,ξG h.srow hc h.srt (by simp [ftag]),h.srt.ext he (fun k hk=>ξB h.srow (by simpa using hk)),hf,ht⟩
 ·intro i hi;have:=h.n16
  have hi':i<M.n:=hi
  exact (h.nds i hi).chg hc (fun g hg=>⟨h0 g hg,by rw [ξ3s hg];omega⟩) he
 ·intro ad e hm;rw [he _ (ξ28 h.edg e hm)];exact h.edt ad e hm
theorem MCells.setF {cs:Array Value} {P:MP} {M:Ms} (h:MCells cs P M) (v:Value) (F:List Fl):MCells (cs.setIfInBounds 12 v) { P with fv:=v } { M with fl:=F }:=by
 have hs:=h.sz
 refine ⟨by simpa using h.sz,?_,?_,?_,?_,?_,?_⟩
 ·rw [Ξc (by omega)];exact h.c0
 ·rw [Ξc (by omega)];exact h.c1
 ·rw [Ξc (by omega)];exact h.c2
 ·intro i hi;rw [Ξc (by omega)]
  exact h.cr i hi
 ·rw [Ξc (by omega)];exact h.c11
 ·rw [Array.getElem?_setIfInBounds_self_of_lt (by omega)]
theorem MAt.nobB {w:World} {o:Nat->Tg} {b:Nat} {P:MP} {M:Ms} (h:MAt w o b P M):NobAt w b:=by
 obtain ⟨cs,h1,_⟩:=h.box;exact ξj h1 (by decide)
theorem FRow.nob {w:World} {v:Value} {X:List (Fl×Value)} (h:FRow w v X):Nob w v.ownBlock.toList:=by
 intro k hk;rcases h with ⟨rfl,rfl⟩ | ⟨g,off,cap,cur,rfl,hg,_⟩
 ·simp [Value.ownBlock] at hk
 ·simp [Value.ownBlock] at hk
  subst hk;exact ξj hg (by decide)
theorem FRow.ne {w:World} {v:Value} {X:List (Fl×Value)} {o:Nat->Tg} {b:Nat} {P:MP} {M:Ms} (h:FRow w v X) (hm:MAt w o b P M):∀ k∈v.ownBlock.toList,k≠b:=by
 intro k hk e;obtain ⟨cs,h1,_⟩:=hm.box;rcases h with ⟨rfl,rfl⟩ | ⟨g,off,cap,cur,rfl,hg,_⟩
 ·simp [Value.ownBlock] at hk
 ·simp [Value.ownBlock] at hk
  subst hk;rw [e,h1] at hg;simp at hg
theorem ξN (a:Option Addr) (n cap:Nat) (x:Int) (w:World) (hn:n<=9223372036854775807):Calls prog 114 #[.slice a n cap,.int .i64 x] w fun e w'=>e=.returned (.bool (decide (0<=x/\x<(n:Int))))/\w'=w:=by
 by_cases h0:0<=x
 ·by_cases h1:x<(n:Int)
  ·have e:decide (0<=x/\x<(n:Int))=true:=by simp [h0,h1]
   rw [e];clear e;go_enter func114,ntmps114
   go_wp2_with fail
   go_ret
   exact ⟨rfl,rfl⟩
  ·have e:decide (0<=x/\x<(n:Int))=false:=by simp [h1]
   rw [e];clear e;go_enter func114,ntmps114
   go_wp2_with fail
   go_ret
   exact ⟨rfl,rfl⟩
 ·have e:decide (0<=x/\x<(n:Int))=false:=by simp [h0]
  rw [e];clear e;go_enter func114,ntmps114
  go_wp2_with fail
  go_ret
  exact ⟨rfl,rfl⟩
def FDone (w w':World) (o:Nat->Tg) (b:Nat) (P:MP) (M:Ms) (F:List Fl):Prop:=∃ o' v,MAt w' o' b { P with fv:=v } { M with fl:=F }/\Ext w o o'/\Chg o ftag w w'
theorem ξcX {w w1 w2:World} {o:Nat->Tg} {b:Nat} {P:MP} {M:Ms} {X:List (Fl×Value)} {x:Fl×Value} {v':Value} (h:MAt w o b P M) (hX1:X.map Prod.fst=M.fl) (hX2:FRow w P.fv X) (hX3:∀ y∈X,ξm w o y.2 y.1.B/\Cap y.2) (hb:Below w.heap.size w w1) (hr:FRow w2 v' (X++[x])) (ho:Only P.fv.ownBlock.toList w1 w2) (hv:∀ k,v'.ownBlock=some k->P.fv.ownBlock=some k∨w1.heap.size<=k) (hx:ξm w o x.2 x.1.B/\Cap x.2) :
 w2.cell? ⟨b,12,none⟩=some P.fv/\w2.frozen? ⟨b,12,none⟩=false/\FDone w (w2.setCell ⟨b,12,none⟩ v') o b P M (M.fl++[x.1]):=by
 obtain ⟨cs,h1,h2⟩:=h.box;have hne:=hX2.ne h
 have hb2:w2.heap[b]?=some (.cells cs 96 (0,0)):=ho.block ((hb.block b (lt_of_block h1)).trans h1) (fun hm=>hne b hm rfl)
 have hO:Only (b::P.fv.ownBlock.toList) w (w2.setCell ⟨b,12,none⟩ v'):=((Only.of_below hb _).trans (ho.mono (fun k hk=>List.mem_cons_of_mem _ hk))).setCell (by simp) _
 have hc:Chg o ftag w (w2.setCell ⟨b,12,none⟩ v'):=by
  refine Chg.of_only hO ?_ ?_
  ·intro k hk;rcases Ξf.1 hk with rfl | hk
   ·exact .inl h.tag
   ·exact .inr (h.flt k hk)
  ·intro k hk;rcases Ξf.1 hk with rfl | hk
   ·exact h.nobB
   ·exact hX2.nob k hk
 have hsz:w.heap.size<=w2.heap.size:=Nat.le_trans hb.size ho.2.2.2.1
 obtain ⟨o',ho'⟩:∃ o',grow o w ⟨1000,4,0⟩=o':=⟨_,rfl⟩;have he:Ext w o o':=by rw [<- ho'];exact ξ3 _ _ _
 have h0:∀ g,ftag g->g.n≠0:=fun g hg=>by rw [ξ3s hg];decide
 refine ⟨by simp [World.cell?,hb2,h2.c12],by simp [World.frozen?,hb2],o',v',h.setF hc he ⟨_,heap_setCell_same w2 b 12 cs _ v' hb2,h2.setF v' _⟩ ⟨X++[x],by rw [List.map_append,hX1];rfl,?_,?_⟩ ?_,he,hc⟩
 ·refine hr.only (Only.setCell (bs:=[b]) (Only.refl _ _) (by simp) _) ?_
  intro k hk;simp only [Ξg]
  intro e;subst e;rcases hv k (by simpa using hk) with e | e
  ·exact hne k (by simp [e]) rfl
  ·have:=lt_of_block h1
   have:=hb.size
   omega
 ·intro y hy;rcases Ξe.1 hy with hy | hy
  ·exact ⟨(hX3 y hy).1.chg hc h0 he,(hX3 y hy).2⟩
  ·rw [Ξg] at hy;rw [hy];exact ⟨hx.1.chg hc h0 he,hx.2⟩
 ·intro k hk;rcases hv k (by simpa using hk) with e | e
  ·rw [he k (hX2.lt k (by simp [e]))]
   exact h.flt k (by simp [e])
  ·rw [<- ho',ξh (by have:=hb.size;omega)]
theorem ξ5M (b:Nat) (o:Nat->Tg) (P:MP) (M:Ms) (f:Fl) (a:Option Addr) (m c:Nat) (w:World) (h:MAt w o b P M) (hb:ξm w o (.slice a m c) f.B) (hcp:Cap (.slice a m c)) (hl:M.fl.length<=1000000) :
 Calls prog 95 #[.pointer (some ⟨b,12,none⟩),.agg #[.int .i64 f.fr,.int .i64 f.tw,.slice a m c]] w fun e w'=>e=.returned (.tuple #[])/\FDone w w' o b P M (M.fl++[f]):=by
 obtain ⟨X,hX1,hX2,hX3⟩:=h.fly;have hXl:X.length<=1000000:=by rw [<- hX1,Ξm] at hl;exact hl
 obtain ⟨W0,hW0⟩:∃ W0,w.alloc (.cells #[.int .i64 f.fr,.int .i64 f.tw,.slice a m c] 167)=W0:=⟨_,rfl⟩;have hB0:Below w.heap.size w W0:=by rw [<- hW0];exact (Ξp _ _).alloc (Ξo _) _
 have hbx:W0.heap[w.heap.size]?=some (.cells #[.int .i64 f.fr,.int .i64 f.tw,.slice a m c] 167 (0,0)):=by rw [<- hW0];exact heap_alloc_new w _
 have y0:W0.cell? ⟨w.heap.size,0,none⟩=some (.int .i64 f.fr):=by simp [World.cell?,hbx]
 have y1:W0.cell? ⟨w.heap.size,1,none⟩=some (.int .i64 f.tw):=by simp [World.cell?,hbx]
 have y2:W0.cell? ⟨w.heap.size,2,none⟩=some (.slice a m c):=by simp [World.cell?,hbx]
 have c12:=(h.below hB0).cells.2.2.2.2
 obtain ⟨fa,fcp,hfv⟩:=hX2.form;obtain ⟨fn,hfn⟩:∃ fn,X.length=fn:=⟨_,rfl⟩;rw [hfn] at hfv hXl;have HRow:Hid (FRow (W0.alloc (.cells #[.int .i64 f.fr,.int .i64 f.tw,.slice a m c] 167)).drew (.slice fa fn fcp) X):=by
  rw [<- hfv];exact ξ0 (hX2.only (bs:=[]) (Only.of_below ((hB0.alloc hB0.size _).drew) _) (by simp))
 have HFin:Hid (∀ w2 v',FRow w2 v' (X++[(f,.slice a m c)])->Only (Value.slice fa fn fcp).ownBlock.toList (W0.alloc (.cells #[.int .i64 f.fr,.int .i64 f.tw,.slice a m c] 167)).drew w2->(∀ k,v'.ownBlock=some k->(Value.slice fa fn fcp).ownBlock=some k∨(W0.alloc (.cells #[.int .i64 f.fr,.int .i64 f.tw,.slice a m c] 167)).drew.heap.size<=k)->w2.cell? ⟨b,12,none⟩=some (.slice fa fn fcp)/\w2.frozen? ⟨b,12,none⟩=false/\FDone w (w2.setCell ⟨b,12,none⟩ v') o b P M (M.fl++[f])):=by
  refine ξ0 ?_
  intro w2 v' g1 g2 g3;rw [<- hfv] at g2 g3 ⊢;exact ξcX (x:=(f,.slice a m c)) h hX1 hX2 hX3 ((hB0.alloc hB0.size _).drew) g1 g2 g3 ⟨hb,hcp⟩
 rw [hfv] at c12;have HFl:Hid (X.length<=1000000):=by rw [hfn];exact ξ0 hXl
 obtain ⟨fr,hfr⟩:∃ z,f.fr=z:=⟨_,rfl⟩;obtain ⟨tw,htw⟩:∃ z,f.tw=z:=⟨_,rfl⟩;have HY:Hid ((fcs (f,.slice a m c)).toArray=#[.int .i64 fr,.int .i64 tw,.slice a m c]):=by rw [<- hfr,<- htw];rfl
 rw [hfr] at y0;rw [htw] at y1;rw [hfr,htw] at HRow HFin hW0 ⊢;have cgA:(W0.alloc (.cells #[.int .i64 fr,.int .i64 tw,.slice a m c] 167)).cell? ⟨b,12,none⟩=some (.slice fa fn fcp):=ξb ((Ξp _ _).alloc (Ξo _) _) c12
 obtain ⟨nn,hnn⟩:∃ nn,X.length+1=nn:=⟨_,rfl⟩;have HNN:=ξ0 hnn
 have HW:=ξ0 hW0
 clear hnn h hb hcp hl hX1 hX2 hX3 hB0 hbx hW0 hfv hfn hfr htw;go_enter func95,ntmps95
 go_upto_region 1 with fail
 rw [HW.out];go_region_law (refine ξ4R (by rfl) _ _ (by rfl) (.slice fa fn fcp) X (by rfl) HRow.out W0.heap.size (f,.slice a m c) (by rw [HY.out];exact heap_alloc_new W0 _) ⟨_,_,_,rfl⟩ (by rfl) HFl.out nn HNN.out ?_;intro va vc w6 g1 g2 g3;obtain ⟨e5,f5,hfin⟩:=HFin.out w6 _ g1 g2 g3;have HF:=ξ0 hfin;clear g1 g2 g3 hfin)
 all_goals
  go_wp2_with fail
  go_end0
  exact ⟨rfl,HF.out⟩
def zf:List Value:=[.int .i64 0,.int .i64 0,.slice none 0 0]
theorem ξ6h (w:World) (ty:TypeId) (b o c:Nat) (hc:∀ j,j<3->(w.cell? ⟨b,o+j,none⟩).isSome=true) (hf:∀ j,j<3->w.frozen? ⟨b,o+j,none⟩=false) :
 (Builtin.clear_ #[94] ty #[.slice (some ⟨b,o,none⟩) 1 c]).run prog w=.ok (.tuple #[]) (w.setCells b o zf):=by
 have hst:=run_storeCells_cells (P:=prog) b o zf 0 w (by simpa [zf] using hc) (by simpa [zf] using hf) (by intro v hv;simp only [zf,Ξf,List.not_mem_nil,or_false] at hv;rcases hv with rfl | rfl | rfl<;>rfl)
 simp only [Nat.add_zero] at hst
 have hz:(Builtin.zeroCells (Value.agg #[.int .i64 0,.int .i64 0,.slice none 0 0]).cells 1).toList=zf:=by kernel_rfl
 simp [Builtin.clear_,run_underlying underlying94,hz,hst]
theorem ξ7y {X:List (Fl×Value)} {i:Nat} (hi:i<X.length):X.eraseIdx i=X.take i++X.drop (i+1):=List.eraseIdx_eq_take_drop_succ X i
theorem ξcp {bs cs:List Nat} {w w':World} (h:Only bs w w') (hs:∀ k∈bs,k<w.heap.size->k∈cs):Only cs w w':=⟨h.1,h.2.1,h.2.2.1,h.2.2.2.1,fun k hk hn=>h.2.2.2.2 k hk (fun hb=>hn (hs k hb hk))⟩
theorem ξbt (g off n cap i:Nat) (X:List (Fl×Value)) (cur:Array Value) (w:World) (hX:X.length=n) (hg:w.heap[g]?=some (.cells cur 167 (0,0))) (h1:n<=cap) (h2:cap<=maxLen) (h3:off+cap*3<=cur.size) (h4:∀ j u,(fc X)[j]?=some u->cur[off+j]?=some u) (hs:∀ x∈X,∃ a m c,x.2=.slice a m c) (hi:i<n) :
 Calls prog 115 #[.slice (some ⟨g,off,none⟩) n cap,.int .i64 (i:Int),.int .i64 ((i:Int)+1)] w fun e w'=>e=.returned (.slice (some ⟨g,off,none⟩) (n - 1) cap)/\FRow w' (.slice (some ⟨g,off,none⟩) (n - 1) cap) (X.eraseIdx i)/\Only [g] w w':=by
 obtain ⟨i0,hii,hz0,hz1,hz2⟩:=info_parts infoFT;have hcapm:cap<=9223372036854775807:=by unfold maxLen at h2;omega
 obtain ⟨news,hnews⟩:∃ news,news=fc (X.drop (i+1)):=⟨_,rfl⟩;have hlen:news.length=(n - (i+1))*3:=by rw [hnews,ξ2c,List.length_drop,hX]
 have hcell:∀ k,k<cap*3->(w.cell? ⟨g,off+k,none⟩).isSome=true:=by
  intro k hk;simp only [World.cell?,hg]
  rw [Array.getElem?_eq_getElem (by omega)]
  rfl
 have hfz:∀ k,w.frozen? ⟨g,k,none⟩=false:=fun k=>by simp [World.frozen?,hg]
 obtain ⟨A,hA,hsrc⟩:∃ A:Addr,(if cap=i+1 then some (⟨g,off,none⟩:Addr) else some ⟨g,off+(i+1)*3,none⟩)=some A/\Hid (∀ t u,news[t]?=some u->w.drew.cell? (A.add t)=some u):=by
  by_cases h:cap=i+1
  ·refine ⟨⟨g,off,none⟩,by simp [h],fun t u hu=>?_⟩
   have h0:news.length=0:=by rw [hlen];omega
   rw [List.length_eq_zero_iff.1 h0] at hu;simp at hu
  ·refine ⟨⟨g,off+(i+1)*3,none⟩,by simp [h],fun t u hu=>?_⟩
   rw [Addr.add_lit];show w.cell? _=_
   simp only [World.cell?,hg]
   rw [hnews,ξ8j,List.getElem?_drop] at hu;rw [show off+(i+1)*3+t=off+((i+1)*3+t) by omega]
   exact h4 _ u hu
 have s1:Hid (news.length=(n - (i+1))*3):=hlen
 have s2:Hid (∀ u∈news,u.oneCell'=true):=by
  rw [hnews];exact ξ0 (ξ8k _ (fun x hx=>hs x (List.mem_of_mem_drop hx)))
 have s3:Hid (∀ t,t<news.length->(w.drew.cell? ⟨g,off+i*3+t,none⟩).isSome=true/\w.drew.frozen? ⟨g,off+i*3+t,none⟩=false):=by
  intro t ht;rw [hlen] at ht;rw [Nat.add_assoc];exact ⟨hcell (i*3+t) (by omega),hfz _⟩
 obtain ⟨W1,hW1⟩:∃ W1,W1=w.drew.setCells g (off+i*3) news:=⟨_,rfl⟩;obtain ⟨⟨c1,k1,k2,k3,k4,k5⟩,k6⟩:=ξW (t:=167) g news (off+i*3) w.drew cur hg (by rw [hlen];omega)
 rw [<- hW1] at k1 k6;have hcl:∀ ty,(Builtin.clear_ #[94] ty #[.slice (some ⟨g,off+(n - 1)*3,none⟩) 1 (cap - (n - 1))]).run prog W1=.ok (.tuple #[]) (W1.setCells g (off+(n - 1)*3) zf):=by
  intro ty;refine ξ6h W1 ty g _ _ (fun j hj=>?_) (fun j hj=>by simp [World.frozen?,k1])
  simp only [World.cell?,k1]
  rw [Array.getElem?_eq_getElem (by omega)]
  rfl
 obtain ⟨⟨c2,l1,l2,l3,l4,l5⟩,l6⟩:=ξW (t:=167) g zf (off+(n - 1)*3) W1 c1 k1 (by show off+(n - 1)*3+3<=_;omega)
 obtain ⟨W2,hW2⟩:∃ W2,W1.setCells g (off+(n - 1)*3) zf=W2:=⟨_,rfl⟩;rw [hW2] at hcl l1 l6;have HFin:Hid (FRow W2 (.slice (some ⟨g,off,none⟩) (n - 1) cap) (X.eraseIdx i)/\Only [g] w W2):=by
  refine ξ0 ⟨.inr ⟨g,off,cap,c2,?_,l1,?_,h2,by omega,?_⟩,?_⟩
  ·rw [List.length_eraseIdx,if_pos (by omega),hX]
  ·rw [List.length_eraseIdx,if_pos (by omega)];omega
  ·intro j u hu;have hj:j<(n - 1)*3:=by
    have:=(List.getElem?_eq_some_iff.1 hu).1
    rw [ξ2c,List.length_eraseIdx,if_pos (by omega),hX] at this
    exact this
   rw [l3 _ (by omega)]
   rw [ξ7y (by omega),ξ71,ξen,<- hnews] at hu
   have hlt:((fc X).take (i*3)).length=i*3:=by rw [List.length_take,ξ2c];omega
   by_cases hji:j<i*3
   ·rw [Ξt (by omega),List.getElem?_take_of_lt hji] at hu
    rw [k3 _ (by omega)]
    exact h4 j u hu
   ·rw [List.getElem?_append_right (by omega),hlt] at hu
    have:=k5 (j - i*3) (by rw [hlen];omega)
    rw [show off+j=off+i*3+(j - i*3) by omega,this]
    exact hu
  ·exact (show Only [g] w W1 from k6).trans l6
 have hW:Hid (W1=w.drew.setCells g (off+i*3) news):=hW1
 have hic:i<=cap:=by omega
 have hjc:i+1<=cap:=by omega
 have hin:i<=n:=by omega
 have hin1:i+1<=n:=by omega
 have hnn:i+(n - (i+1))=n - 1:=by omega
 have hn1:n - 1<=n:=by omega
 have hn2:¬ cap=n - 1:=by omega
 have hn3:n - (n - 1)=1:=by omega
 have hn4:(n:Int)<=cap:=by omega
 have hn5:0<=(i:Int)+1/\(i:Int)+1<=(n:Int):=by omega
 clear hW1 hW2 hg h2 h3 h4 hs hX hlen hnews hcell hfz k1 k2 k3 k4 k5 k6 l1 l2 l3 l4 l5 l6;go_enter func115,ntmps115
 go_wp2_with fail
 go_region_law (refine step_append_room rfl (.tmp 22) (.tmp 25) 94 rfl 167 i0 3 underlying94 hii hz1 g off i cap (by simp [Act.eval,Act.put]) A (n - (i+1)) (cap - (i+1)) news (by simp [Act.eval,Act.put]) s1.out hsrc.out s2.out (by omega) s3.out ?_;rw [<- hW.out])
 go_wp2_with fail
 go_ret
 exact ⟨rfl,HFin.out⟩
def FBox (w:World) (g:Nat) (fr tw:Int) (v:Value):Prop:=w.heap[g]?=some (.cells #[.int .i64 fr,.int .i64 tw,v] 167 (0,0))
theorem FBox.cells {w:World} {g:Nat} {fr tw:Int} {v:Value} (h:FBox w g fr tw v):w.cell? ⟨g,0,none⟩=some (.int .i64 fr)/\w.cell? ⟨g,1,none⟩=some (.int .i64 tw)/\w.cell? ⟨g,2,none⟩=some v:=by
 unfold FBox at h;simp [World.cell?,h]
theorem FBox.free {w:World} {g:Nat} {fr tw:Int} {v:Value} (h:FBox w g fr tw v) (j:Nat):w.frozen? ⟨g,j,none⟩=false:=by
 unfold FBox at h;simp [World.frozen?,h]
theorem FBox.put {w:World} {g:Nat} {fr tw:Int} {v:Value} (h:FBox w g fr tw v) (fr' tw':Int) (v':Value):FBox (((w.setCell ⟨g,0,none⟩ (.int .i64 fr')).setCell ⟨g,1,none⟩ (.int .i64 tw')).setCell ⟨g,2,none⟩ v') g fr' tw' v':=by
 have h0:=heap_setCell_same _ _ 0 _ _ (.int .i64 fr') h
 have h1:=heap_setCell_same _ _ 1 _ _ (.int .i64 tw') h0
 exact heap_setCell_same _ _ 2 _ _ v' h1
theorem ξ6n {fn:Func} {tmps:Array Value} {w:World} {g i j:Nat} {fr tw:Int} {v:Value} (hf:fn.results=#[.cell i 167,.tmp j]) (hi:tmps.getD i undef=.pointer (some ⟨g,0,none⟩)) (hb:FBox w g fr tw v) (hs:∃ a n c,v=.slice a n c) :
 (results fn tmps).run prog w=.ok (.tuple #[.agg #[.int .i64 fr,.int .i64 tw,v],tmps.getD j undef]) w:=by
 obtain ⟨c0,c1,c2⟩:=hb.cells;obtain ⟨a,n,c,rfl⟩:=hs;have hi':tmps[i]?.getD undef=.pointer (some ⟨g,0,none⟩):=by simpa using hi
 simp [results,hf,hi',go_sem,c0,c1,c2]
def Taken (w w':World) (o:Nat->Tg) (b:Nat) (P:MP) (M:Ms) (i:Nat) (f:Fl) (bv:Value):Prop:=∃ o' v,MAt w' o' b { P with fv:=v } { M with fl:=M.fl.eraseIdx i }/\ξm w' o' bv f.B/\Cap bv/\Ext w o o'/\Chg o ftag w w'
theorem ξcW {w w5:World} {o:Nat->Tg} {b n0:Nat} {P:MP} {M:Ms} {X:List (Fl×Value)} {i:Nat} {x:Fl×Value} {v':Value} (h:MAt w o b P M) (hX1:X.map Prod.fst=M.fl) (hX2:FRow w P.fv X) (hX3:∀ y∈X,ξm w o y.2 y.1.B/\Cap y.2) (hx:X[i]?=some x) (hn0:w.heap.size<=n0) (ho:Only (b::n0::P.fv.ownBlock.toList) w w5)
 (hb:∃ cs,w.heap[b]?=some (.cells cs 96 (0,0))/\w5.heap[b]?=some (.cells (cs.setIfInBounds 12 v') 96 (0,0))) (hr:FRow w5 v' (X.eraseIdx i)) (hv:v'.ownBlock=P.fv.ownBlock):Taken w w5 o b P M i x.1 x.2:=by
 have hm:x∈X:=List.mem_of_getElem? hx
 have hO:Only (b::P.fv.ownBlock.toList) w w5:=ξcp ho (by
  intro k hk hl;rcases Ξf.1 hk with rfl | hk
  ·simp
  ·rcases Ξf.1 hk with rfl | hk
   ·omega
   ·simp [hk])
 have hc:Chg o ftag w w5:=by
  refine Chg.of_only hO ?_ ?_
  ·intro k hk;rcases Ξf.1 hk with rfl | hk
   ·exact .inl h.tag
   ·exact .inr (h.flt k hk)
  ·intro k hk;rcases Ξf.1 hk with rfl | hk
   ·exact h.nobB
   ·exact hX2.nob k hk
 have he:=Ext.refl w o
 have h0:∀ g,ftag g->g.n≠0:=fun g hg=>by rw [ξ3s hg];decide
 obtain ⟨cs,b1,b2⟩:=hb;obtain ⟨cs',b3,b4⟩:=h.box;rw [b1] at b3;cases b3
 refine ⟨o,v',h.setF hc he ⟨_,b2,b4.setF v' _⟩ ⟨X.eraseIdx i,?_,hr,fun y hy=>?_⟩ (by rw [hv];exact h.flt),(hX3 x hm).1.chg hc h0 he,(hX3 x hm).2,he,hc⟩
 ·rw [<- hX1,List.eraseIdx_eq_take_drop_succ,List.eraseIdx_eq_take_drop_succ,List.map_append,List.map_take,List.map_drop]
 ·have hy':=List.mem_of_mem_eraseIdx hy
  exact ⟨(hX3 y hy').1.chg hc h0 he,(hX3 y hy').2⟩
theorem ξ7R (b:Nat) (o:Nat->Tg) (P:MP) (M:Ms) (i:Int) (w:World) (h:MAt w o b P M) (hi:i<0∨(M.fl.length:Int)<=i) :
 Calls prog 88 #[.pointer (some ⟨b,12,none⟩),.int .i64 i] w fun e w'=>e=.returned (.tuple #[.agg #[.int .i64 0,.int .i64 0,.slice none 0 0],errv 1])/\Below w.heap.size w w':=by
 obtain ⟨X,hX1,hX2,hX3⟩:=h.fly;have hXl:X.length=M.fl.length:=by rw [<- hX1,Ξm]
 obtain ⟨fa,fcp,hfv⟩:=hX2.form;obtain ⟨W0,hW0⟩:∃ W0,w.alloc (.cells #[.int .i64 0,.int .i64 0,.slice none 0 0] 167)=W0:=⟨_,rfl⟩;have hB0:Below w.heap.size w W0:=by rw [<- hW0];exact (Ξp _ _).alloc (Ξo _) _
 have HB:Hid (FBox W0 w.heap.size 0 0 (.slice none 0 0)):=by rw [<- hW0];exact ξ0 (heap_alloc_new w _)
 have c12:=(h.below hB0).cells.2.2.2.2
 rw [hfv] at c12;obtain ⟨fn,hfn⟩:∃ fn,X.length=fn:=⟨_,rfl⟩;rw [hfn] at c12 hXl;have hmax:fn<=9223372036854775807:=by
  rcases hX2 with ⟨_,e⟩ | ⟨g,off,cap,cur,_,_,g1,g2,_⟩
  ·rw [e] at hfn;simp at hfn;omega
  ·unfold maxLen at g2;omega
 have CH:=ξ0 (ξN fa fn fcp i W0 hmax)
 rw [show decide (0<=i/\i<(fn:Int))=false by simp;omega] at CH
 obtain ⟨d0,d1,d2⟩:=HB.out.cells;have f0:=HB.out.free 0
 have f1:=HB.out.free 1
 have f2:=HB.out.free 2
 have HBl:=ξ0 hB0
 have HW:=ξ0 hW0
 clear h hX1 hX2 hX3 hfv hfn hi hW0 hB0 hXl;go_enter func88,ntmps88
 go_upto_region 1 with fail
 rw [HW.out];go_wp2_with fail
 refine CH.out.mono ?_
 rintro e w1 ⟨rfl,hw1⟩;obtain rfl:W0=w1:=hw1.symm;go_wp2_with fail
 refine bodyPost_ret (ξ6n (g:=w.heap.size) rfl rfl (HB.out.put 0 0 (.slice none 0 0)) ⟨_,_,_,rfl⟩) rfl ?_
 exact ⟨rfl,((HBl.out.setCell (Ξo _) _).setCell (Ξo _) _).setCell (Ξo _) _⟩
theorem ξ6Y {w:World} {v:Value} {X:List (Fl×Value)} (h:FRow w v X):X.length<=9223372036854775807:=by
 rcases h with ⟨_,e⟩ | ⟨g,off,cap,cur,_,_,g1,g2,_⟩
 ·rw [e];simp
 ·unfold maxLen at g2;omega
theorem ξ1p (b:Nat) (o:Nat->Tg) (P:MP) (M:Ms) (i:Nat) (f:Fl) (w:World) (h:MAt w o b P M) (hf:M.fl[i]?=some f) :
 Calls prog 88 #[.pointer (some ⟨b,12,none⟩),.int .i64 (i:Int)] w fun e w'=>∃ a m c,e=.returned (.tuple #[.agg #[.int .i64 f.fr,.int .i64 f.tw,.slice a m c],.nilIface])/\Taken w w' o b P M i f (.slice a m c):=by
 obtain ⟨X,hX1,hX2,hX3⟩:=h.fly;have hXl:X.length=M.fl.length:=by rw [<- hX1,Ξm]
 have hiM:i<M.fl.length:=(List.getElem?_eq_some_iff.1 hf).1
 have hiX:i<X.length:=by omega
 obtain ⟨x,hx⟩:∃ x,X[i]?=some x:=⟨_,Ξd hiX⟩;have hxf:x.1=f:=by
  have:(X.map Prod.fst)[i]?=some x.1:=by rw [List.getElem?_map,hx];rfl
  rw [hX1,hf] at this;exact (Option.some.inj this).symm
 have hxs:∃ a m c,x.2=.slice a m c:=by
  obtain ⟨a,m,c,e,_⟩:=(hX3 x (List.mem_of_getElem? hx)).1;exact ⟨a,m,c,e⟩
 obtain ⟨a,m,c,hxv⟩:=hxs;have hX2':=hX2
 rcases hX2' with ⟨_,e⟩ | ⟨g,off,cap,cur,hfv,hg,h1,h2,h3,h4⟩
 ·rw [e] at hiX;simp at hiX
 have hmax:=ξ6Y hX2
 obtain ⟨fn,hfn⟩:∃ fn,X.length=fn:=⟨_,rfl⟩;rw [hfn] at hfv h1 hiX hmax;obtain ⟨q0,q1,q2⟩:=ξbh X i x hx;obtain ⟨cs,hbox,hcs⟩:=h.box;have hgb:g≠b:=fun e=>by rw [e,hbox] at hg;simp at hg
 have hglt:=lt_of_block hg
 have hblt:=lt_of_block hbox
 -- the two new blocks
 obtain ⟨W0,hW0⟩:∃ W0,w.alloc (.cells #[.int .i64 0,.int .i64 0,.slice none 0 0] 167)=W0:=⟨_,rfl⟩;have hB0:Below w.heap.size w W0:=by rw [<- hW0];exact (Ξp _ _).alloc (Ξo _) _
 have hs0:W0.heap.size=w.heap.size+1:=by rw [<- hW0];simp
 have hbx0:FBox W0 w.heap.size 0 0 (.slice none 0 0):=by rw [<- hW0];exact heap_alloc_new w _
 obtain ⟨W1,hW1⟩:∃ W1,W0.alloc (.cells #[.int .i64 f.fr,.int .i64 f.tw,.slice a m c] 167)=W1:=⟨_,rfl⟩;have hB1:Below W0.heap.size W0 W1:=by rw [<- hW1];exact (Ξp _ _).alloc (Ξo _) _
 have hB:Below w.heap.size w W1:=hB0.trans (hB1.mono (by omega))
 have hbx1:FBox W1 W0.heap.size f.fr f.tw (.slice a m c):=by rw [<- hW1];exact heap_alloc_new W0 _
 have hbx0':FBox W1 w.heap.size 0 0 (.slice none 0 0):=(hB1.block _ (by omega)).trans hbx0
 have hg1:W1.heap[g]?=some (.cells cur 167 (0,0)):=(hB.block g hglt).trans hg
 have hb1:W1.heap[b]?=some (.cells cs 96 (0,0)):=(hB.block b hblt).trans hbox
 have cell0:∀ (W:World),W.heap[g]?=some (.cells cur 167 (0,0))->W.cell? ⟨g,off+i*3,none⟩=some (.int .i64 f.fr)/\W.cell? ⟨g,off+i*3+1,none⟩=some (.int .i64 f.tw)/\W.cell? ⟨g,off+i*3+2,none⟩=some (.slice a m c):=by
  intro W hW;rw [<- hxf,<- hxv];refine ⟨?_,?_,?_⟩
  ·simp only [World.cell?,hW];exact h4 _ _ q0
  ·simp only [World.cell?,hW];rw [Nat.add_assoc];exact h4 _ _ q1
  ·simp only [World.cell?,hW];rw [Nat.add_assoc];exact h4 _ _ q2
 have hg0:W0.heap[g]?=some (.cells cur 167 (0,0)):=(hB0.block g hglt).trans hg
 obtain ⟨e0,e1,e2⟩:=cell0 W0 hg0;have c12:W0.cell? ⟨b,12,none⟩=some (.slice (some ⟨g,off,none⟩) fn cap):=by rw [<- hfv];exact (h.below hB0).cells.2.2.2.2
 have CH:=ξ0 (ξN (some ⟨g,off,none⟩) fn cap (i:Int) W0 hmax)
 rw [show decide (0<=(i:Int)/\(i:Int)<(fn:Int))=true by simp;omega] at CH
 have c12':W1.cell? ⟨b,12,none⟩=some (.slice (some ⟨g,off,none⟩) fn cap):=by rw [<- hfv];exact (h.below hB).cells.2.2.2.2
 have f12:W1.frozen? ⟨b,12,none⟩=false:=(h.below hB).free 12
 -- the end: the new box is filled
 have HEnd:Hid (∀ w3 v',Only (b::w.heap.size::P.fv.ownBlock.toList) w w3->w3.heap[b]?=some (.cells (cs.setIfInBounds 12 v') 96 (0,0))->FBox w3 w.heap.size 0 0 (.slice none 0 0)->FRow w3 v' (X.eraseIdx i)->v'.ownBlock=some g->FBox (((w3.setCell ⟨w.heap.size,0,none⟩ (.int .i64 f.fr)).setCell ⟨w.heap.size,1,none⟩ (.int .i64 f.tw)).setCell ⟨w.heap.size,2,none⟩ (.slice a m c)) w.heap.size f.fr f.tw (.slice a m c)/\Taken w (((w3.setCell ⟨w.heap.size,0,none⟩ (.int .i64 f.fr)).setCell ⟨w.heap.size,1,none⟩ (.int .i64 f.tw)).setCell ⟨w.heap.size,2,none⟩ (.slice a m c)) o b P M i f (.slice a m c)):=by
  refine ξ0 ?_
  intro w3 v' g1 g2 g3 g4 g5;have hvb:v'.ownBlock=P.fv.ownBlock:=by rw [g5,hfv];rfl
  have ho:Only [w.heap.size] w3 (((w3.setCell ⟨w.heap.size,0,none⟩ (.int .i64 f.fr)).setCell ⟨w.heap.size,1,none⟩ (.int .i64 f.tw)).setCell ⟨w.heap.size,2,none⟩ (.slice a m c)):=(((Only.refl _ _).setCell (by simp) _).setCell (by simp) _).setCell (by simp) _
  refine ⟨g3.put _ _ _,?_⟩
  rw [<- hxf,<- hxv];rw [<- hxf,<- hxv] at ho;refine ξcW h hX1 hX2 hX3 hx (Ξo _) (g1.trans (ho.mono (by simp))) ⟨cs,hbox,ho.block g2 (by simp;omega)⟩ (g4.only ho (by intro k hk;rw [g5] at hk;simp at hk;subst hk;simp;omega)) hvb
 obtain ⟨n0,hn0⟩:∃ n0,w.heap.size=n0:=⟨_,rfl⟩;obtain ⟨fr,hfr⟩:∃ z,f.fr=z:=⟨_,rfl⟩;obtain ⟨tw,htw⟩:∃ z,f.tw=z:=⟨_,rfl⟩;by_cases hi0:0<i
 ·-- from the midst
  have CD:Hid (Calls prog 115 #[.slice (some ⟨g,off,none⟩) fn cap,.int .i64 (i:Int),.int .i64 ((i:Int)+1)] W1 fun e w2=>e=.returned (.slice (some ⟨g,off,none⟩) (fn - 1) cap)/\(w2.cell? ⟨b,12,none⟩=some (.slice (some ⟨g,off,none⟩) fn cap)/\w2.frozen? ⟨b,12,none⟩=false)/\Hid (∃ w3,w2.setCell ⟨b,12,none⟩ (.slice (some ⟨g,off,none⟩) (fn - 1) cap)=w3/\(w3.cell? ⟨W0.heap.size,0,none⟩=some (.int .i64 f.fr)/\w3.cell? ⟨W0.heap.size,1,none⟩=some (.int .i64 f.tw)/\w3.cell? ⟨W0.heap.size,2,none⟩=some (.slice a m c))/\FBox w3 w.heap.size 0 0 (.slice none 0 0)/\FBox (((w3.setCell ⟨w.heap.size,0,none⟩ (.int .i64 f.fr)).setCell ⟨w.heap.size,1,none⟩ (.int .i64 f.tw)).setCell ⟨w.heap.size,2,none⟩ (.slice a m c)) w.heap.size f.fr f.tw (.slice a m c)/\Taken w (((w3.setCell ⟨w.heap.size,0,none⟩ (.int .i64 f.fr)).setCell ⟨w.heap.size,1,none⟩ (.int .i64 f.tw)).setCell ⟨w.heap.size,2,none⟩ (.slice a m c)) o b P M i f (.slice a m c))):=by
   refine ξ0 ((ξbt g off fn cap i X cur W1 hfn hg1 h1 h2 h3 h4 (fun y hy=>by obtain ⟨a,m,c,e,_⟩:=(hX3 y hy).1;exact ⟨a,m,c,e⟩) hiX).mono ?_)
   rintro e w2 ⟨rfl,d1,d2⟩;have hb2:w2.heap[b]?=some (.cells cs 96 (0,0)):=d2.block hb1 (by simp;omega)
   have hc12:cs[12]?=some (.slice (some ⟨g,off,none⟩) fn cap):=by rw [<- hfv];exact hcs.c12
   refine ⟨rfl,⟨by simp [World.cell?,hb2,hc12],by simp [World.frozen?,hb2]⟩,ξ0 ⟨_,rfl,?_⟩⟩
   have o3:Only [b] w2 (w2.setCell ⟨b,12,none⟩ (.slice (some ⟨g,off,none⟩) (fn - 1) cap)):=(Only.refl _ _).setCell (by simp) _
   have x1:FBox (w2.setCell ⟨b,12,none⟩ (.slice (some ⟨g,off,none⟩) (fn - 1) cap)) W0.heap.size f.fr f.tw (.slice a m c):=o3.block (d2.block hbx1 (by simp;omega)) (by simp;omega)
   have x0:FBox (w2.setCell ⟨b,12,none⟩ (.slice (some ⟨g,off,none⟩) (fn - 1) cap)) w.heap.size 0 0 (.slice none 0 0):=o3.block (d2.block hbx0' (by simp;omega)) (by simp;omega)
   refine ⟨x1.cells,x0,HEnd.out _ (.slice (some ⟨g,off,none⟩) (fn - 1) cap) ?_ (heap_setCell_same w2 b 12 cs _ _ hb2) x0 (d1.only o3 (by simp [Value.ownBlock];omega)) rfl⟩
   refine (((Only.of_below hB _).trans (d2.mono ?_)).trans (o3.mono ?_))
   ·intro k hk;simp at hk;subst hk;rw [hfv];simp [Value.ownBlock]
   ·intro k hk;simp at hk;subst hk;simp
  have hiz:(0:Int)<(i:Int):=by omega
  have hw1:IntKind.i64.wrap ((i:Int)+1)=(i:Int)+1:=by rw [IntKind.wrap_i64];omega
  obtain ⟨n1,hn1⟩:∃ n1,W0.heap.size=n1:=⟨_,rfl⟩;rw [hn0,hfr,htw,hn1] at CD;rw [hfr,htw] at hW1 ⊢;rw [hfr] at e0;rw [htw] at e1;have HW:=ξ0 hW0
  have HW1:=ξ0 hW1
  have HN1:=ξ0 hn1
  have HN0:=ξ0 hn0
  have hin:(i:Int)<(fn:Int):=by omega
  clear h hX1 hX2 hX3 hx hxf hxv hfv hg h1 h2 h3 h4 hfn q0 q1 q2 hbox hcs hgb hglt hblt hB0 hs0 hbx0 hB1 hB hbx1 hbx0' hg1 hb1 cell0 hg0 HEnd hXl hiM hmax hf hW0 hW1 hfr htw hiX;go_enter func88,ntmps88
  go_upto_region 1 with fail
  rw [HW.out];go_wp2_with fail
  refine CH.out.mono ?_
  rintro e w1 ⟨rfl,hw1'⟩;obtain rfl:W0=w1:=hw1'.symm;go_upto_region 4 with fail
  rw [HW1.out];clear e0 e1 e2 c12 CH;go_wp2_with fail
  refine CD.out.mono ?_
  rintro e w2 ⟨rfl,⟨d1,d2⟩,HD⟩;obtain ⟨w3,hw3,⟨y0,y1,y2⟩,hb3,hfin⟩:=HD.out;have HW3:=ξ0 hw3
  have HFin:=ξ0 hfin
  obtain ⟨z0,z1,z2⟩:=hb3.cells;have k0:=hb3.free 0
  have k1:=hb3.free 1
  have k2:=hb3.free 2
  clear HD hw3 hfin hb3 CD;go_upto_region 6 with fail
  rw [HW3.out];go_wp2_with fail
  refine bodyPost_ret (ξ6n (g:=n0) rfl rfl HFin.out.1 ⟨_,_,_,rfl⟩) rfl ?_
  exact ⟨a,m,c,rfl,HFin.out.2⟩
 ·-- from the front
  obtain rfl:i=0:=by omega
  obtain ⟨w2,hw2⟩:∃ w2,((W1.setCell ⟨g,off,none⟩ (.int .i64 0)).setCell ⟨g,off+1,none⟩ (.int .i64 0)).setCell ⟨g,off+2,none⟩ (.slice none 0 0)=w2:=⟨_,rfl⟩;have o2:Only [g] W1 w2:=by rw [<- hw2];exact (((Only.refl _ _).setCell (by simp) _).setCell (by simp) _).setCell (by simp) _
  have k1:=heap_setCell_same W1 g off _ _ (.int .i64 0) hg1
  have k2:=heap_setCell_same _ g (off+1) _ _ (.int .i64 0) k1
  have k3:=heap_setCell_same _ g (off+2) _ _ (.slice none 0 0) k2
  rw [hw2] at k3;have hb2:w2.heap[b]?=some (.cells cs 96 (0,0)):=o2.block hb1 (by simp;omega)
  have hc12:cs[12]?=some (.slice (some ⟨g,off,none⟩) fn cap):=by rw [<- hfv];exact hcs.c12
  obtain ⟨A,hA,hAr⟩:∃ A:Addr,(if cap=1 then some (⟨g,off,none⟩:Addr) else some ⟨g,off+3,none⟩)=some A/\Hid (A.block=g/\∀ w3,Only [b] w2 w3->FRow w3 (.slice (some A) (fn - 1) (cap - 1)) (X.eraseIdx 0)):=by
   have hlen:(X.eraseIdx 0).length=fn - 1:=by rw [List.length_eraseIdx,if_pos (by omega),hfn]
   by_cases hc:cap=1
   ·refine ⟨⟨g,off,none⟩,by simp [hc],rfl,?_⟩
    intro w3 o3;have hl0:(X.eraseIdx 0)=[]:=Ξk (by omega)
    refine .inr ⟨g,off,cap - 1,_,by rw [hlen],o3.block k3 (by simp;omega),by omega,by omega,by simp;omega,?_⟩
    intro j u hu;rw [hl0] at hu;simp [fc] at hu
   ·refine ⟨⟨g,off+3,none⟩,by simp [hc],rfl,?_⟩
    intro w3 o3;refine .inr ⟨g,off+3,cap - 1,_,by rw [hlen],o3.block k3 (by simp;omega),by omega,by omega,by simp;omega,?_⟩
    intro j u hu;rw [Ξc (by omega),Ξc (by omega),Ξc (by omega)]
    have e:X.eraseIdx 0=X.drop 1:=by cases X with
     | nil=>rfl
     | cons y X=>rfl
    rw [e,ξ8j,List.getElem?_drop] at hu;rw [show off+3+j=off+(1*3+j) by omega]
    exact h4 _ u hu
  obtain ⟨w3,hw3⟩:∃ w3,w2.setCell ⟨b,12,none⟩ (.slice (some A) (fn - 1) (cap - 1))=w3:=⟨_,rfl⟩;have o3:Only [b] w2 w3:=by rw [<- hw3];exact (Only.refl _ _).setCell (by simp) _
  have x1:FBox w3 W0.heap.size f.fr f.tw (.slice a m c):=o3.block (o2.block hbx1 (by simp;omega)) (by simp;omega)
  have x0:FBox w3 w.heap.size 0 0 (.slice none 0 0):=o3.block (o2.block hbx0' (by simp;omega)) (by simp;omega)
  have HFin:=ξ0 (HEnd.out w3 (.slice (some A) (fn - 1) (cap - 1)) (by
   refine (((Only.of_below hB _).trans (o2.mono ?_)).trans (o3.mono ?_))
   ·intro k hk;simp at hk;subst hk;rw [hfv];simp [Value.ownBlock]
   ·intro k hk;simp at hk;subst hk;simp) (by rw [<- hw3];exact heap_setCell_same w2 b 12 cs _ _ hb2) x0 (hAr.out.2 w3 o3) (by show some A.block=_;rw [hAr.out.1]))
  obtain ⟨y0,y1,y2⟩:=x1.cells;obtain ⟨z0,z1,z2⟩:=x0.cells;have l0:=x0.free 0
  have l1:=x0.free 1
  have l2:=x0.free 2
  have b12:w2.cell? ⟨b,12,none⟩=some (.slice (some ⟨g,off,none⟩) fn cap):=by simp [World.cell?,hb2,hc12]
  have bf12:w2.frozen? ⟨b,12,none⟩=false:=by simp [World.frozen?,hb2]
  obtain ⟨t0,t1,t2⟩:=cell0 W1 hg1;rw [Nat.zero_mul,Nat.add_zero] at t0 t1 t2 e0 e1 e2;have u0:W1.frozen? ⟨g,off,none⟩=false:=by simp [World.frozen?,hg1]
  have u1:W1.frozen? ⟨g,off+1,none⟩=false:=by simp [World.frozen?,hg1]
  have u2:W1.frozen? ⟨g,off+2,none⟩=false:=by simp [World.frozen?,hg1]
  obtain ⟨n1,hn1⟩:∃ n1,W0.heap.size=n1:=⟨_,rfl⟩;rw [hn0,hfr,htw] at HFin;rw [hn0] at z0 z1 z2 l0 l1 l2;rw [hn1] at y0 y1 y2;rw [hfr] at e0 y0 t0;rw [htw] at e1 y1 t1;rw [hfr,htw] at hW1 ⊢;have HW:=ξ0 hW0
  have HW1:=ξ0 hW1
  have HW2:=ξ0 hw2
  have HW3:=ξ0 hw3
  have hin:(0:Int)<(fn:Int):=by omega
  have hin1:(1:Int)<=(fn:Int):=by omega
  have hcp1:1<=cap:=by omega
  clear h hX1 hX2 hX3 hx hxf hxv hfv hg h1 h2 h3 h4 hfn q0 q1 q2 hbox hcs hgb hglt hblt hB0 hs0 hbx0 hB1 hB hbx1 hbx0' hg1 hb1 cell0 hg0 HEnd hXl hiM hmax hf hW0 hW1 hfr htw hiX hi0 hw2 hw3 o2 o3 k1 k2 k3 hb2 hc12 hAr x1 x0;go_enter func88,ntmps88
  go_upto_region 1 with fail
  rw [HW.out];go_wp2_with fail
  refine CH.out.mono ?_
  rintro e w1 ⟨rfl,hw1'⟩;obtain rfl:W0=w1:=hw1'.symm;go_upto_region 4 with fail
  rw [HW1.out];clear e0 e1 e2 c12 CH;go_upto_region 8 with fail
  rw [HW2.out];clear t0 t1 t2 u0 u1 u2 c12' f12;go_upto_region 9 with fail
  rw [HW3.out];clear b12 bf12;go_wp2_with fail
  refine bodyPost_ret (ξ6n (g:=n0) rfl rfl HFin.out.1 ⟨_,_,_,rfl⟩) rfl ?_
  exact ⟨a,m,c,rfl,HFin.out.2⟩
theorem ξ9C (x:Int) (w:World):Calls prog 93 #[.agg #[.int .i64 x]] w fun e w'=>e=.returned (.int .i64 x)/\Below w.heap.size w w':=by
 go_enter func93,ntmps93
 go_wp2_with fail
 go_ret
 exact ⟨rfl,(Ξp _ _).alloc (Ξo _) _⟩
theorem ξ1V (b:Nat) (o:Nat->Tg) (P:MP) (M:Ms) (w:World) (h:MAt w o b P M):Calls prog 46 #[.pointer (some ⟨b,0,none⟩)] w fun e w'=>e=.returned (.int .i64 M.nw)/\Below w.heap.size w w':=by
 have c0:=h.cells.1
 obtain ⟨x,hx⟩:∃ x,M.nw=x:=⟨_,rfl⟩;rw [hx] at c0 ⊢;have C:=ξ0 (ξ9C x)
 clear h hx;go_enter func46,ntmps46
 go_wp2_with fail
 refine (C.out _).mono ?_
 rintro e w1 ⟨rfl,hb⟩;have HB:=ξ0 hb
 clear hb;go_wp2_with fail
 go_ret
 exact ⟨rfl,HB.out⟩
theorem ξ6X (b:Nat) (o:Nat->Tg) (P:MP) (M:Ms) (w:World) (h:MAt w o b P M):Calls prog 60 #[.pointer (some ⟨b,0,none⟩)] w fun e w'=>e=.returned (.int .i64 (M.fl.length:Int))/\w'=w:=by
 have c12:=h.cells.2.2.2.2
 obtain ⟨X,hX1,hX2,_⟩:=h.fly;obtain ⟨a,c,hv⟩:=hX2.form;rw [hv] at c12;have e:X.length=M.fl.length:=by rw [<- hX1,Ξm]
 rw [e] at c12;obtain ⟨n,hn⟩:∃ n,M.fl.length=n:=⟨_,rfl⟩;rw [hn] at c12 ⊢;clear h hX1 hX2 hv e hn;go_enter func60,ntmps60
 go_wp2_with fail
 go_ret
 exact ⟨rfl,rfl⟩
theorem ξdV (f:Nat->Nat) (n i:Nat) (h:i<n):(npt f n)[i]?=some (.pointer (some ⟨f i,0,none⟩)):=by
 unfold npt;rw [List.getElem?_map,List.getElem?_range h];rfl
theorem MAt.nptr {w:World} {o:Nat->Tg} {b:Nat} {P:MP} {M:Ms} (h:MAt w o b P M) {i:Nat} (hi:i<M.n):∃ rb c,P.nv=.slice (some ⟨rb,0,none⟩) M.n c/\∀ j,j<M.n->w.cell? ⟨rb,j,none⟩=some (.pointer (some ⟨P.nb j,0,none⟩)):=by
 have hr:=h.nrow
 rcases hr.2 with ⟨_,h0⟩ | ⟨g,cap,cur,e,_,hg,_,_,_,ht⟩
 ·omega
 ·refine ⟨g,cap,e,fun j hj=>?_⟩
  have:=hr.cells (g:=g) (by rw [e];rfl) j _ (ξdV P.nb M.n j hj)
  rwa [Addr.add_lit,Nat.zero_add] at this
def Ms.out (M:Ms) (i:Nat):Ms:={ M with nd:=updN M.nd i { M.nd i with lt:=[] },fl:=M.fl++(M.nd i).lt.map fun l=>⟨(i:Int),l.1,l.2⟩ }
def MDoneP (w w':World) (o:Nat->Tg) (b:Nat) (P:MP) (M:Ms):Prop:=∃ o' P',MAt w' o' b P' M/\Keep w o o'/\Chg o meshy w w'/\P'.nv=P.nv/\P'.nb=P.nb
theorem MDoneP.done {w w':World} {o:Nat->Tg} {b:Nat} {P:MP} {M:Ms} (h:MDoneP w w' o b P M):MDone w w' o b M:=by
 obtain ⟨o',P',h1,h2,h3,_⟩:=h;exact ⟨o',P',h1,h2,h3⟩
def LSt (w wr:World) (o:Nat->Tg) (b:Nat) (P:MP) (M:Ms) (i:Nat) (lv:Value) (j:Nat):Prop:=∃ oj Pj,MAt wr oj b Pj { M with nd:=updN M.nd i { M.nd i with lt:=[] },fl:=M.fl++((M.nd i).lt.take j).map fun l=>⟨(i:Int),l.1,l.2⟩ }/\Keep w o oj/\Chg o meshy w wr/\ξI wr oj lv (M.nd i).lt/\Own oj ξ2 lv.ownBlock.toList/\Pj.nv=P.nv/\Pj.nb=P.nb
theorem ξaX {w:World} {o:Nat->Tg} {lv:Value} {G:List (Int×List Nat)} (h:ξI w o lv G) {j:Nat} (hj:j<G.length):∃ lb c,lv=.slice (some ⟨lb,0,none⟩) G.length c/\∃ a m cc,w.cell? ⟨lb,j*2,none⟩=some (.int .i64 G[j].1)/\w.cell? ⟨lb,j*2+1,none⟩=some (.slice a m cc)/\ξm w o (.slice a m cc) G[j].2/\Cap (.slice a m cc):=by
 obtain ⟨X,h1,h2,h3⟩:=h;have hl:X.length=G.length:=by rw [<- h1,Ξm]
 have hjX:j<X.length:=by omega
 rcases h2.2 with ⟨_,h0⟩ | ⟨g,cap,cur,e,_,hg,_,_,_,ht⟩
 ·omega
 ·have hx:X[j].1=G[j]:=by
   have:(X.map Prod.fst)[j]?=some X[j].1:=by rw [List.getElem?_map,Ξd hjX];rfl
   rw [h1,Ξd hj] at this;exact (Option.some.inj this).symm
  obtain ⟨q1,q2⟩:=h3 X[j] (List.getElem_mem hjX);have q1':=q1
  obtain ⟨a,m,cc,ev,_⟩:=q1';have hc:=h2.cells (g:=g) (by rw [e];rfl)
  have hget:∀ (Y:List ((Int×List Nat)×Value)) (k:Nat) (y:(Int×List Nat)×Value),Y[k]?=some y->(Y.flatMap fun x=>[Value.int .i64 x.1.1,x.2])[k*2]?=some (.int .i64 y.1.1)/\(Y.flatMap fun x=>[Value.int .i64 x.1.1,x.2])[k*2+1]?=some y.2:=by
   intro Y
   induction Y with
   | nil=>intro k y hy;simp at hy
   | cons z Y ih=>
     intro k y hy;cases k with
     | zero=>
       rw [List.getElem?_cons_zero] at hy;cases hy
       exact ⟨rfl,rfl⟩
     | succ k=>
       have:=ih k y (by simpa using hy)
       rw [List.flatMap_cons,show (k+1)*2=k*2+1+1 by omega]
       simpa using this
  obtain ⟨g1,g2⟩:=hget X j X[j] (Ξd hjX);have k1:=hc _ _ g1
  have k2:=hc _ _ g2
  rw [Addr.add_lit,Nat.zero_add] at k1 k2;rw [hx] at k1 q1;rw [ev] at k2 q1 q2;exact ⟨g,cap,by rw [e,hl],a,m,cc,k1,k2,q1,q2⟩
theorem ξ3l (b i:Nat) (o:Nat->Tg) (P:MP) (M:Ms) (w:World) (h:MAt w o b P M) (hi:i<M.n) (hl:M.fl.length+(M.nd i).lt.length<=1000000) :
 Calls prog 47 #[.pointer (some ⟨b,0,none⟩),.int .i64 (i:Int)] w fun e w'=>e=.returned (.tuple #[])/\MDoneP w w' o b P (M.out i):=by
 have h16:=h.n16
 obtain ⟨rb,rc,hnv,hcell⟩:=h.nptr hi;have c1:=h.cells.2.1
 rw [hnv] at c1;have c2:=hcell i hi
 obtain ⟨G,hG⟩:∃ G,(M.nd i).lt=G:=⟨_,rfl⟩;obtain ⟨gl,hgl⟩:∃ gl,G.length=gl:=⟨_,rfl⟩;have CO:Hid (Calls prog 94 #[.pointer (some ⟨P.nb i,0,none⟩)] w fun e w'=>∃ a c,e=.returned (.slice a gl c)/\Hid (LSt w w' o b P M i (.slice a gl c) 0)):=by
  refine ξ0 ((ξ90 (i+1) (P.nb i) o (P.np i) (M.nd i) w (by omega) (h.nds i hi)).mono ?_)
  rintro e w' ⟨lv,o',Q,rfl,g1,g2,g3,g4,g5⟩;have hlen:∃ a c,lv=.slice a gl c:=by
   obtain ⟨X,x1,x2,_⟩:=g2;have hXl:X.length=gl:=by rw [<- hgl,<- hG,<- x1,Ξm]
   rcases x2.2 with ⟨e,h0⟩ | ⟨g,cap,cur,e,_⟩
   ·exact ⟨none,0,by rw [e,<- hXl,h0]⟩
   ·exact ⟨_,cap,by rw [e,hXl]⟩
  obtain ⟨a,c,rfl⟩:=hlen;refine ⟨a,c,rfl,ξ0 ⟨o',{ P with np:=updN P.np i Q },?_,Ret.keep (n:=i+1) g4 (by omega) (by omega),ξ16 g5 (by omega) (by omega),g2,g3,rfl,rfl⟩⟩
  have:=h.nodeR hi g1 g4 g5
  rw [List.take_zero,List.map_nil,Ξu];exact this
 have HLet:Hid (∀ wr lv j,LSt w wr o b P M i lv j->j<gl->∃ lb c,lv=.slice (some ⟨lb,0,none⟩) gl c/\∃ (t:Int) (a:Option Addr) (m cc:Nat),wr.cell? ⟨lb,j*2,none⟩=some (.int .i64 t)/\wr.cell? ⟨lb,j*2+1,none⟩=some (.slice a m cc)/\∀ W,Below wr.heap.size wr W->Calls prog 95 #[.pointer (some ⟨b,12,none⟩),.agg #[.int .i64 (i:Int),.int .i64 t,.slice a m cc]] W fun e w'=>e=.returned (.tuple #[])/\Hid (LSt w w' o b P M i lv (j+1))/\∀ k x,wr.heap.size<=k->W.heap[k]?=some x->w'.heap[k]?=some x):=by
  refine ξ0 ?_
  rintro wr lv j ⟨oj,Pj,q1,q2,q3,q4,q5,q6,q7⟩ hj;have hjG:j<(M.nd i).lt.length:=by rw [hG,hgl];exact hj
  obtain ⟨lb,c,e,a,m,cc,k1,k2,k3,k4⟩:=ξaX q4 hjG;refine ⟨lb,c,by rw [e,hG,hgl],(M.nd i).lt[j].1,a,m,cc,k1,k2,?_⟩
  intro W hBW;have qW:=q1.grow hBW ξ2
  have kW:ξm W (grow oj wr ξ2) (.slice a m cc) (M.nd i).lt[j].2:=k3.chg (S:=fun _=>False) (Chg.of_below hBW _ _) (fun g hg=>hg.elim) (ξ3 _ _ _)
  have lW:ξI W (grow oj wr ξ2) lv (M.nd i).lt:=q4.chg (S:=fun _=>False) (g:=ξ2) (Chg.of_below hBW _ _) q5 (by simp) (fun g hg=>hg.elim) (ξ3 _ _ _)
  have oW:Own (grow oj wr ξ2) ξ2 lv.ownBlock.toList:=q5.ext (ξ3 _ _ _) q4.lt
  refine (ξ5M b (grow oj wr ξ2) Pj _ ⟨(i:Int),(M.nd i).lt[j].1,(M.nd i).lt[j].2⟩ a m cc W qW kW k4 (by
   show (M.fl++((M.nd i).lt.take j).map _).length<=_
   rw [Ξh,Ξm,List.length_take];omega)).mono ?_
  rintro e' w' ⟨rfl,o2,v2,r1,r2,r3⟩;have h0:∀ g,ftag g->g.n≠0:=fun g hg=>by rw [ξ3s hg];decide
  have kp:Keep wr oj o2:=Keep.of_ext ((ξ3 oj wr ξ2).trans r2 hBW.size)
  have ch:Chg oj meshy wr w':=(Chg.of_below hBW oj meshy).trans (ξ23 r3) (ξ3 _ _ _)
  refine ⟨rfl,ξ0 ⟨o2,{ Pj with fv:=v2 },?_,q2.trans kp q3.size,Chg.keep q3 ch q2,lW.chg r3 oW (by simp [ftag]) h0 r2,oW.ext r2 lW.lt,q6,q7⟩,?_⟩
  ·rw [<- List.take_append_getElem hjG,List.map_append,<- List.append_assoc];exact r1
  ·intro k x hk hx;exact r3.block hx (by rw [ξh hk];simp [ftag])
 have HFin:Hid (∀ wr lv,LSt w wr o b P M i lv gl->MDoneP w wr o b P (M.out i)):=by
  refine ξ0 ?_
  rintro wr lv ⟨oj,Pj,q1,q2,q3,q4,q5,q6,q7⟩;rw [<- hgl,<- hG,List.take_length] at q1;exact ⟨oj,Pj,q1,q2,q3,q6,q7⟩
 obtain ⟨R,hRes⟩:∃ R,M.out i=R:=⟨_,rfl⟩;rw [hRes] at HFin ⊢;obtain ⟨LS,hLS⟩:∃ LS:World->Value->Nat->Prop,(fun W lv j=>LSt w W o b P M i lv j)=LS:=⟨_,rfl⟩
 have hLSe:∀ W lv j,LSt w W o b P M i lv j=LS W lv j:=fun W lv j=>by rw [<- hLS]
 simp only [hLSe] at CO HLet HFin
 obtain ⟨nb,hnb⟩:∃ nb,P.nb i=nb:=⟨_,rfl⟩;rw [hnb] at c2 CO;obtain ⟨nn,hnn⟩:∃ nn,M.n=nn:=⟨_,rfl⟩;rw [hnn] at c1;have hin:(i:Int)<(nn:Int):=by omega
 have hglb:gl<=1000000:=by rw [<- hgl,<- hG];omega
 clear h h16 hnv hcell hG hgl hl hRes hLS hLSe hnb hi hnn;go_enter func47,ntmps47
 go_wp2_with fail
 refine CO.out.mono ?_
 rintro e w1 ⟨la,lc,rfl,HL0⟩;clear CO c1 c2;go_wp2_with fail
 go_loopg [15] gl (fun gh x wr=>∃ j:Nat,j+gh=gl/\x=.int .i64 (j:Int)/\Hid (LS wr (.slice la gl lc) j))
 case atStart=>exact ⟨0,by omega,rfl,HL0⟩
 case round=>
  obtain ⟨j,hjg,rfl,HS⟩:=hrel;by_cases hj:j<gl
  ·have hjz:(j:Int)<(gl:Int):=by omega
   obtain ⟨lb,c,e,t,a,m,cc,k1,k2,CA⟩:=HLet.out wr _ j HS.out hj;cases e
   obtain ⟨W1,hW1⟩:∃ W1,wr.alloc (.cells #[.int .i64 t,.slice a m cc] 165)=W1:=⟨_,rfl⟩;have hB1:Below wr.heap.size wr W1:=by rw [<- hW1];exact (Ξp _ _).alloc (Ξo _) _
   have hbx:W1.heap[wr.heap.size]?=some (.cells #[.int .i64 t,.slice a m cc] 165 (0,0)):=by rw [<- hW1];exact heap_alloc_new wr _
   have S0:W1.drew.cell? ⟨wr.heap.size,0,none⟩=some (.int .i64 t)/\W1.drew.cell? ⟨wr.heap.size,1,none⟩=some (.slice a m cc):=by
    have:W1.drew.heap[wr.heap.size]?=_:=hbx
    constructor<;>simp [World.cell?,this]
   have C:Hid (Calls prog 95 #[.pointer (some ⟨b,12,none⟩),.agg #[.int .i64 (i:Int),.int .i64 t,.slice a m cc]] W1.drew fun e w'=>e=.returned (.tuple #[])/\(w'.cell? ⟨wr.heap.size,0,none⟩=some (.int .i64 t)/\w'.cell? ⟨wr.heap.size,1,none⟩=some (.slice a m cc))/\Hid (LS w' (.slice (some ⟨lb,0,none⟩) gl lc) (j+1))):=by
    refine ξ0 ((CA W1.drew hB1.drew).mono ?_)
    rintro e w' ⟨rfl,g1,g2⟩;have:=g2 wr.heap.size _ (Ξo _) (show W1.drew.heap[wr.heap.size]?=_ from hbx)
    exact ⟨rfl,by constructor<;>simp [World.cell?,this],g1⟩
   have HW1:=ξ0 hW1
   clear CA hW1 hB1 hbx HS;obtain ⟨pb,hpb⟩:∃ pb,wr.heap.size=pb:=⟨_,rfl⟩;rw [hpb] at S0 C;go_upto_region 3 with fail
   first | rw [HW1.out] | skip
   clear hpb k1 k2;go_region_held3 (fun w'=>w'.cell? ⟨pb,0,none⟩=some (.int .i64 t)/\w'.cell? ⟨pb,1,none⟩=some (.slice a m cc)) (with_reducible assumption) (first | (go_at_call 95;refine C.out.mono ?_;rintro e w4 ⟨rfl,hS4,HD⟩))
   go_wp2_with fail
   go_roundg (gl - (j+1))
   case measure=>omega
   case rel=>exact ⟨j+1,by omega,by go_num,HD⟩
  ·have hjz:¬ (j:Int)<(gl:Int):=by omega
   obtain rfl:gl=j:=by omega
   have HD:=ξ0 (HFin.out wr _ HS.out)
   clear HS HLet HFin;go_wp2_with fail
   go_end0
   exact ⟨rfl,HD.out⟩
theorem ξ3m (b i:Nat) (o:Nat->Tg) (P:MP) (M:Ms) (w:World) (h:MAt w o b P M) (hi:i<M.n) (hl:M.fl.length+(M.nd i).lt.length<=1000000) :
 Calls prog 47 #[.pointer (some ⟨b,0,none⟩),.int .i64 (i:Int)] w fun e w'=>e=.returned (.tuple #[])/\MDone w w' o b (M.out i):=by
 refine (ξ3l b i o P M w h hi hl).mono ?_
 rintro e w' ⟨rfl,hd⟩;exact ⟨rfl,hd.done⟩
theorem ξe3 (b:Nat) (o:Nat->Tg) (P:MP) (M:Ms) (i:Int) (w:World) (h:MAt w o b P M) (hi:i<0∨(M.fl.length:Int)<=i) :
 Calls prog 42 #[.pointer (some ⟨b,0,none⟩),.int .i64 i] w fun e w'=>e=.returned (errv 1)/\Below w.heap.size w w':=by
 have C:=ξ0 (ξ7R b o P M i w h hi)
 obtain ⟨ev,hev⟩:∃ ev,errv 1=ev:=⟨_,rfl⟩;rw [hev] at C ⊢;clear h hi hev;go_enter func42,ntmps42
 go_wp2_with fail
 refine C.out.mono ?_
 rintro e w1 ⟨rfl,hb⟩;have HB:=ξ0 hb
 clear hb C;go_wp2_with fail
 go_ret
 exact ⟨rfl,HB.out.alloc HB.out.size _⟩
def Ms.lose (M:Ms) (i:Nat):Ms:={ M with fl:=M.fl.eraseIdx i }
theorem ξ99 (b:Nat) (o:Nat->Tg) (P:MP) (M:Ms) (i:Nat) (w:World) (h:MAt w o b P M) (hi:i<M.fl.length) :
 Calls prog 42 #[.pointer (some ⟨b,0,none⟩),.int .i64 (i:Int)] w fun e w'=>e=.returned .nilIface/\MDone w w' o b (M.lose i):=by
 have C:=ξ0 (ξ1p b o P M i M.fl[i] w h (Ξd hi))
 obtain ⟨fr,hfr⟩:∃ z,M.fl[i].fr=z:=⟨_,rfl⟩;obtain ⟨tw,htw⟩:∃ z,M.fl[i].tw=z:=⟨_,rfl⟩;rw [hfr,htw] at C;clear h hfr htw;go_enter func42,ntmps42
 go_wp2_with fail
 refine C.out.mono ?_
 rintro e w1 ⟨a,m,c,rfl,hT⟩;have HT:=ξ0 hT
 clear hT C;go_wp2_with fail
 go_ret
 obtain ⟨o',v,g1,g2,g3,g4,g5⟩:=HT.out;have hb:Below w1.heap.size w1 (w1.alloc (.cells #[.int .i64 fr,.int .i64 tw,.slice a m c] 167)):=(Ξp _ _).alloc (Ξo _) _
 exact ⟨rfl,o',_,g1.below hb,Keep.of_ext g4,(ξ23 g5).trans' (Chg.of_below hb _ _)⟩
def Ms.twice (M:Ms) (f:Fl):Ms:={ M with fl:=M.fl++[f] }
theorem ξbp (b:Nat) (o:Nat->Tg) (P:MP) (M:Ms) (i:Int) (w:World) (h:MAt w o b P M) (hi:i<0∨(M.fl.length:Int)<=i) :
 Calls prog 90 #[.pointer (some ⟨b,12,none⟩),.int .i64 i] w fun e w'=>e=.returned (errv 1)/\w'=w:=by
 obtain ⟨X,hX1,hX2,hX3⟩:=h.fly;have hXl:X.length=M.fl.length:=by rw [<- hX1,Ξm]
 obtain ⟨fa,fcp,hfv⟩:=hX2.form;have c12:=h.cells.2.2.2.2
 rw [hfv] at c12;have hmax:=ξ6Y hX2
 obtain ⟨fn,hfn⟩:∃ fn,X.length=fn:=⟨_,rfl⟩;rw [hfn] at c12 hXl hmax;have CH:=ξ0 (ξN fa fn fcp i w hmax)
 rw [show decide (0<=i/\i<(fn:Int))=false by simp;omega] at CH
 clear h hX1 hX2 hX3 hfv hfn hi hXl;go_enter func90,ntmps90
 go_wp2_with fail
 refine CH.out.mono ?_
 rintro e w1 ⟨rfl,rfl⟩;go_wp2_with fail
 go_ret
 exact ⟨rfl,rfl⟩
theorem ξ73 (b:Nat) (o:Nat->Tg) (P:MP) (M:Ms) (i:Nat) (f:Fl) (w:World) (h:MAt w o b P M) (hf:M.fl[i]?=some f) (hl:M.fl.length<1000) :
 Calls prog 90 #[.pointer (some ⟨b,12,none⟩),.int .i64 (i:Int)] w fun e w'=>e=.returned .nilIface/\FDone w w' o b P M (M.fl++[f]):=by
 obtain ⟨X,hX1,hX2,hX3⟩:=h.fly;have hXl:X.length=M.fl.length:=by rw [<- hX1,Ξm]
 have hiM:i<M.fl.length:=(List.getElem?_eq_some_iff.1 hf).1
 have hiX:i<X.length:=by omega
 obtain ⟨x,hx⟩:∃ x,X[i]?=some x:=⟨_,Ξd hiX⟩;have hxf:x.1=f:=by
  have:(X.map Prod.fst)[i]?=some x.1:=by rw [List.getElem?_map,hx];rfl
  rw [hX1,hf] at this;exact (Option.some.inj this).symm
 obtain ⟨hb1,hb2⟩:=hX3 x (List.mem_of_getElem? hx);have hb1':=hb1
 obtain ⟨a,m,c,hxv,_⟩:=hb1';rw [hxf,hxv] at hb1;rw [hxv] at hb2;have hX2':=hX2
 rcases hX2' with ⟨_,e⟩ | ⟨g,off,cap,cur,hfv,hg,h1,h2,h3,h4⟩
 ·rw [e] at hiX;simp at hiX
 have hmax:=ξ6Y hX2
 obtain ⟨q0,q1,q2⟩:=ξbh X i x hx;have e0:w.cell? ⟨g,off+i*3,none⟩=some (.int .i64 f.fr):=by rw [<- hxf];simp only [World.cell?,hg];exact h4 _ _ q0
 have e1:w.cell? ⟨g,off+i*3+1,none⟩=some (.int .i64 f.tw):=by rw [<- hxf];simp only [World.cell?,hg];rw [Nat.add_assoc];exact h4 _ _ q1
 have e2:w.cell? ⟨g,off+i*3+2,none⟩=some (.slice a m c):=by rw [<- hxv];simp only [World.cell?,hg];rw [Nat.add_assoc];exact h4 _ _ q2
 have c12:=h.cells.2.2.2.2
 rw [hfv] at c12;have CA:=ξ0 (ξ5M b o P M f a m c w h hb1 hb2 (by omega))
 obtain ⟨fn,hfn⟩:∃ fn,X.length=fn:=⟨_,rfl⟩;rw [hfn] at c12 hmax hXl hiX;have CH:=ξ0 (ξN (some ⟨g,off,none⟩) fn cap (i:Int) w hmax)
 rw [show decide (0<=(i:Int)/\(i:Int)<(fn:Int))=true by simp;omega] at CH
 have hin:(i:Int)<(fn:Int):=by omega
 have hge:¬ (1000:Int)<=(fn:Int):=by omega
 obtain ⟨fr,hfr⟩:∃ z,f.fr=z:=⟨_,rfl⟩;obtain ⟨tw,htw⟩:∃ z,f.tw=z:=⟨_,rfl⟩;rw [hfr] at e0;rw [htw] at e1;rw [hfr,htw] at CA;clear h hX1 hX2 hX3 hx hxf hxv hb1 hb2 hfv hg h1 h2 h3 h4 hfn q0 q1 q2 hXl hiM hmax hf hl hfr htw hiX;go_enter func90,ntmps90
 go_wp2_with fail
 refine CH.out.mono ?_
 rintro e w1 ⟨rfl,hw1⟩;obtain rfl:w=w1:=hw1.symm;go_wp2_with fail
 refine CA.out.mono ?_
 rintro e w2 ⟨rfl,hD⟩;have HD:=ξ0 hD
 clear hD CA CH e0 e1 e2 c12;go_wp2_with fail
 go_ret
 exact ⟨rfl,HD.out⟩
theorem ξbT (b:Nat) (o:Nat->Tg) (P:MP) (M:Ms) (i:Int) (w:World) (h:MAt w o b P M) (hi:i<0∨(M.fl.length:Int)<=i) :
 Calls prog 43 #[.pointer (some ⟨b,0,none⟩),.int .i64 i] w fun e w'=>e=.returned (errv 1)/\w'=w:=by
 have C:=ξ0 (ξbp b o P M i w h hi)
 obtain ⟨ev,hev⟩:∃ ev,errv 1=ev:=⟨_,rfl⟩;rw [hev] at C ⊢;clear h hi hev;go_enter func43,ntmps43
 go_wp2_with fail
 refine C.out.mono ?_
 rintro e w1 ⟨rfl,rfl⟩;go_wp2_with fail
 go_ret
 exact ⟨rfl,rfl⟩
theorem ξ1O (b:Nat) (o:Nat->Tg) (P:MP) (M:Ms) (i:Nat) (f:Fl) (w:World) (h:MAt w o b P M) (hf:M.fl[i]?=some f) (hl:M.fl.length<1000) :
 Calls prog 43 #[.pointer (some ⟨b,0,none⟩),.int .i64 (i:Int)] w fun e w'=>e=.returned .nilIface/\MDone w w' o b (M.twice f):=by
 have C:=ξ0 (ξ73 b o P M i f w h hf hl)
 clear h hf hl;go_enter func43,ntmps43
 go_wp2_with fail
 refine C.out.mono ?_
 rintro e w1 ⟨rfl,hD⟩;have HD:=ξ0 hD
 clear hD C;go_wp2_with fail
 go_ret
 obtain ⟨o',v,g1,g2,g3⟩:=HD.out;exact ⟨rfl,o',_,g1,Keep.of_ext g2,ξ23 g3⟩
end Go.Proofs.YtpiamlgmadnepaaGreat.MS
