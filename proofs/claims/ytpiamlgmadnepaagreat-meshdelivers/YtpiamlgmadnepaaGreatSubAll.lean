/-
 What the proof needs.
-/
import Derived.Test.YtpiamlgmadnepaaGreatLayAll
import Derived.Test.YtpiamlgmadnepaaGreatNodeEnd
import Derived.Deep.RegionLaw
open Go.Proofs.Tryz
set_option linter.unusedVariables false
set_option maxHeartbeats 4000000
set_option maxRecDepth 100000
namespace Go.Proofs.YtpiamlgmadnepaaGreat.ND
open ChangeShapes WideShapes ChangeAt RowKit Maps Mem NO
variable {wt now nw nx x v0 v2 v3 v4 v5 y:Int}{M I:OM.Its}{K b c n g e m k ib j xb sb ub:Nat}{w w' wr:World}{a:Option Addr}{t:TypeId}{f:Nat×Nat}{s:Sb}{v iv:Value}{xs:List Value}{o o' oj:Nat->Tg}{P Q:SP}{L bs:List Nat}{i:OM.Kp}{v1 v6:Bool}{p:Pk}
def ifl(i:OM.Kp):Nat:=PM.fault i.p.s i.p.t i.p.l i.p.q i.p.L.length
def Sb.A3s(s:Sb)(i:OM.Kp):Bool:=LM.tkx s.mo s.ln s.la i.n s.br i.g (ifl i) i.p.l i.p.st
def Sb.laid(s:Sb)(i:OM.Kp):Sb:={ s with ln:=LM.tkN s.mo s.ln s.la i.n s.br i.g (ifl i) i.p.l i.p.st,la:=LM.tkL s.la i.n i.g (ifl i),br:=LM.tkB s.mo s.ln s.la i.n s.br i.g (ifl i) i.p.l i.p.st }
def Sb.A2s(s:Sb)(i:OM.Kp):Pk:=⟨UM.sq 0 s.uk,UM.nt s.uk s.uT s.uy s.uo i.p.l i.p.t,i.p.l,i.p.q,i.p.st,i.p.L⟩
def Sb.next(s:Sb)(i:OM.Kp):Sb:={ s with uk:=s.uk+1,uT:=UM.nt s.uk s.uT s.uy s.uo i.p.l i.p.t,uy:=i.p.l,uo:=i.p.t }
def Sb.item(s:Sb)(i:OM.Kp):Sb:=if s.A3s i then { (s.laid i).next i with got:=s.got++[s.A2s i] }else s.laid i
def Sb.popped(s:Sb)(now:Int)(K:Nat):Sb:={ s with on:=Order.qW s.on now,ox:=s.ox+(K:Int),oM:=OM.rest s.oM (s.ox+(K:Int)) }
def Sb.pop(s:Sb)(now:Int)(K:Nat):Sb:=(OM.takes s.oM s.ox K).foldl Sb.item (s.popped now K)
def Sb.pushed(s:Sb)(y now:Int)(p:Pk):Sb:=
 { s with on:=OM.pW s.on s.ox y now (PM.fault p.s p.t p.l p.q p.L.length),ox:=OM.pX s.on s.ox y now (PM.fault p.s p.t p.l p.q p.L.length),oM:=OM.pM s.on s.ox y now s.oM (PM.fault p.s p.t p.l p.q p.L.length) ⟨p.s,p.t,p.l,p.q,p.st,p.L,.slice none 0 0⟩ }
theorem ξ7f(M:OM.Its)(y:Int):OM.has (M.map sk) y=OM.has M y:=by
 unfold OM.has;rw[List.any_map];rfl
theorem ξg7(M:OM.Its)(y:Int):OM.itm (M.map sk) y=sk (OM.itm M y):=by
 unfold OM.itm;rw[List.find?_map];have e:((λi:OM.Kp=>i.n==y)∘sk)=λi:OM.Kp=>i.n==y:=rfl;rw[e];cases M.find? λi=>i.n==y<;>rfl
theorem ξcx(M:OM.Its)(x:Int)(K:Nat):OM.takes (M.map sk) x K=(OM.takes M x K).map sk:=by
 unfold OM.takes;rw[List.map_map];refine List.map_congr_left λj _=>?_;exact ξg7 M _
theorem ξey(M:OM.Its)(x:Int):OM.rest (M.map sk) x=(OM.rest M x).map sk:=by
 unfold OM.rest;rw[List.filter_map];rfl
theorem ξ8Q(M:OM.Its)(od x:Int):OM.goes (M.map sk) od x=OM.goes M od x:=by unfold OM.goes;rw[ξ7f]
theorem ξgs{od:Int}(h:OM.Od wt now (M.map sk) od):OM.Od wt now M od:=by
 refine⟨h.low,λi hi hl=>h.all (sk i) (Ξi.2 ⟨i,hi,rfl⟩) hl,?_⟩;rcases h.one with e|⟨i,hi,hl,e⟩
 ·exact .inl e
 ·obtain⟨j,hj,rfl⟩:=Ξi.1 hi;exact .inr ⟨j,hj,hl,e⟩
theorem ξf0(h:Order.A65 wt nw nx now (M.map sk) K):Order.A65 wt nw nx now M K:=by
 refine⟨h.le,λht=>?_,h.no⟩;obtain⟨od,h1,h2⟩:=h.yes ht;exact⟨od,ξgs h1,λj hj=>by rw[<-ξ8Q];exact h2.all j hj,by rw[<-ξ8Q];exact h2.stop⟩
theorem ξ7b(h:OM.Inv nw nx (M.map sk)):OM.Inv nw nx M:=by
 refine⟨h.c1,h.c2,h.x1,h.x2,λi hi=>h.mem (sk i) (Ξi.2 ⟨i,hi,rfl⟩),?_,λe=>?_⟩
 ·have:=h.one;unfold OM.Apart at this;rw[List.pairwise_map]at this;exact this
 ·have:=h.non e;exact List.map_eq_nil_iff.1 this
theorem ξgr(nw nx y now:Int)(M:OM.Its)(f:Nat)(p:OM.Pk):(OM.pM nw nx y now M f p).map sk=OM.pM nw nx y now (M.map sk) f ⟨p.s,p.t,p.l,p.q,p.st,p.L,.slice none 0 0⟩:=by
 unfold OM.pM OM.px OM.kx;rw[ξ7f];split
 ·rw[List.map_append];rfl
 ·rfl
structure SbI(s:Sb):Prop where
 oi:OM.Inv s.on s.ox s.oM
 ui:UM.Inv 0 s.uk s.uT s.uo
theorem ξ1i{a:Nat}{c d:Array Value}{u:TypeId}{g:Nat×Nat}(h:w.heap[a]?=some (.cells c t f))(k:w.heap[b]?=some (.cells d u g))(hne:t≠u):a≠b:=by
 intro e;rw[e,k]at h;simp only[Option.some.injEq,Obj.cells.injEq]at h;exact hne h.2.1.symm
theorem ξ3t{a:Nat}{c:Array Value}(h:w.heap[a]?=some (.cells c t f))(k:∃es n,w.heap[b]?=some (.map es n)):a≠b:=by
 obtain⟨es,n,k⟩:=k;intro e;rw[e,k]at h;simp at h
theorem ξ5Q{base s:Nat}(h:w.ownsRow base e s v n xs)(hg:v.ownBlock=some g):∃cs,w.heap[g]?=some (.cells cs e (0,0)):=by
 rcases h.2 with⟨rfl,_⟩|⟨g',cap,cur,rfl,_,hb,_⟩
 ·simp[Value.ownBlock]at hg
 ·simp[Value.ownBlock]at hg;subst hg;exact⟨_,hb⟩
structure SbSep(P:SP):Prop where
 so:P.s≠P.ob
 sm:P.s≠P.om
 sl:P.s≠P.lb
 su:P.s≠P.ub
 om:P.ob≠P.om
 ol:P.ob≠P.lb
 ou:P.ob≠P.ub
 ml:P.om≠P.lb
 mu:P.om≠P.ub
 lu:P.lb≠P.ub
 gv:∀k,P.gv.ownBlock=some k->k≠P.s/\k≠P.ob/\k≠P.om/\k≠P.lb/\k≠P.ub
theorem A1q.sep(h:A1q w o P s):SbSep P:=by
 obtain⟨M',_,hO⟩:=h.ord;obtain⟨D,hm,_,_⟩:=hO.map;have hM:=RM.ξd hm;refine⟨ξ1i h.box hO.box (by decide),ξ3t h.box hM,ξ1i h.box h.lay (by decide),ξ1i h.box h.out (by decide),ξ3t hO.box hM,ξ1i hO.box h.lay (by decide),ξ1i hO.box h.out (by decide),λe=>ξ3t h.lay hM e.symm,λe=>ξ3t h.out hM e.symm,ξ1i h.lay h.out (by decide),λk hk=>?_⟩;obtain⟨X,_,h2,_⟩:=h.got;obtain⟨cs,hc⟩:=ξ5Q h2 hk;exact⟨ξ1i hc h.box (by decide),ξ1i hc hO.box (by decide),ξ3t hc hM,ξ1i hc h.lay (by decide),ξ1i hc h.out (by decide)⟩
theorem A1q.nob(h:A1q w o P s):Nob w (ξ6 P):=by
 obtain⟨M',_,hO⟩:=h.ord;obtain⟨D,hm,_,_⟩:=hO.map;intro k hk;simp only[ξ6,Ξf,Option.mem_toList]at hk;rcases hk with rfl|rfl|rfl|rfl|rfl|hk
 ·exact ξi h.box (by decide)
 ·exact ξi hO.box (by decide)
 ·exact ξ14 (RM.ξd hm)
 ·exact ξi h.lay (by decide)
 ·exact ξi h.out (by decide)
 ·obtain⟨X,_,h2,_⟩:=h.got;obtain⟨cs,hc⟩:=ξ5Q h2 hk;exact ξi hc (by decide)
theorem ξo.own(h:ξo w o v L)(ho:Only bs w w')(ht:∀k∈bs,(o k).n≠0)(he:Ext w o o'):ξo w' o' v L:=by
 obtain⟨a,m,c,e,hA,hF⟩:=h;refine⟨a,m,c,e,⟨⟨hA.1.1,λj hj=>?_⟩,hA.2⟩,λh0 ad e'=>?_⟩
 ·obtain⟨b',o',e',hc⟩:=hA.1.2 j hj;have hl:=Ξq w ⟨b',o'+j,none⟩ hc;refine⟨b',o',e',(ξr (ho.2.2.2.2 b' hl (λhk=>ht b' hk ?_)) _).trans hc⟩;exact hF (by have:=hA.2.1;omega) _ e'
 ·have:=hF h0 ad e';obtain⟨b',o1,e2,ae⟩:=hA.1.2 0 (by have:=hA.2.1;omega);rw[e']at e2;cases e2;rw[he _ (Ξq w ⟨b',o1+0,none⟩ ae)];exact this
theorem ξO.own{gv:Value}{G:List Pk}(h:ξO w o gv G)(ho:Only bs w w')(hb:∀k,gv.ownBlock=some k->k∉bs)(ht:∀k∈bs,(o k).n≠0)(he:Ext w o o'):ξO w' o' gv G:=by
 obtain⟨X,h1,h2,h3⟩:=h;exact⟨X,h1,ho.owns h2 hb,λx hx=>(h3 x hx).own ho ht he⟩
theorem ξ1g{cs:List Nat}(h:Own o ⟨n,4,x⟩ bs)(hn:n≠0)(hs:∀k∈cs,k∈bs):∀k∈cs,(o k).n≠0:=λk hk=>by rw[h k (hs k hk)];exact hn
theorem ξ1C(ho:Only bs w w')(h:A1q w o P s)(hO:Own o ⟨n,4,x⟩ (ξ6 P))(hs:∀k∈bs,k∈ξ6 P):Chg o (λg=>g=⟨n,4,x⟩) w w':=Chg.A1j ho (λk hk=>hO k (hs k hk)) (h.nob.sub hs)
theorem A1q.lay'{ln la:Int}{br:Bool}(h:A1q w o P s)(hn:n≠0)(hO:Own o ⟨n,4,x⟩ (ξ6 P))(hl:Layer.ξ5 w' P.lb s.mo ln la br)(ho:Only [P.lb] w w'):A1q w' o P { s with ln:=ln,la:=la,br:=br }:=by
 have q:=h.sep;have nb:=(h.nob.sub (a:=[P.lb]) (by simp[ξ6])).old;obtain⟨M',e,hM⟩:=h.ord;exact⟨ho.block h.box (by simp;exact q.sl),⟨M',e,hM.only ho (by simp;exact q.ol) (by simp;exact q.ml) nb⟩,hl,h.out.only ho (by simp;exact λe=>q.lu e.symm),h.got.own ho (λk hk=>by simp;exact(q.gv k hk).2.2.2.1) (ξ1g hO hn (by simp[ξ6])) (Ext.refl _ _)⟩
theorem A1q.out'{uT uy uo:Int}{uk:Nat}(h:A1q w o P s)(hn:n≠0)(hO:Own o ⟨n,4,x⟩ (ξ6 P))(hl:Out.A0p w' P.ub 0 uk uT uy uo)(ho:Only [P.ub] w w'):A1q w' o P { s with uk:=uk,uT:=uT,uy:=uy,uo:=uo }:=by
 have q:=h.sep;have nb:=(h.nob.sub (a:=[P.ub]) (by simp[ξ6])).old;obtain⟨M',e,hM⟩:=h.ord;exact⟨ho.block h.box (by simp;exact q.su),⟨M',e,hM.only ho (by simp;exact q.ou) (by simp;exact q.mu) nb⟩,h.lay.only ho (by simp;exact q.lu),hl,h.got.own ho (λk hk=>by simp;exact(q.gv k hk).2.2.2.2) (ξ1g hO hn (by simp[ξ6])) (Ext.refl _ _)⟩
theorem A1q.ord'(h:A1q w o P s)(hn:n≠0)(hO:Own o ⟨n,4,x⟩ (ξ6 P))(hl:Order.ξ1 w' P.ob P.om 10 nw nx M)(ho:Only [P.ob,P.om] w w'):A1q w' o P { s with on:=nw,ox:=nx,oM:=M.map sk }:=by
 have q:=h.sep;exact⟨ho.block h.box (by simp;exact⟨q.so,q.sm⟩),⟨M,rfl,hl⟩,h.lay.only ho (by simp;exact⟨λe=>q.ol e.symm,λe=>q.ml e.symm⟩),h.out.only ho (by simp;exact⟨λe=>q.ou e.symm,λe=>q.mu e.symm⟩),h.got.own ho (λk hk=>by simp;exact⟨(q.gv k hk).2.1,(q.gv k hk).2.2.1⟩) (ξ1g hO hn (by simp[ξ6])) (Ext.refl _ _)⟩
theorem A1q.below(h:A1q w o P s)(hb:Below w.heap.size w w')(he:Ext w o o'):A1q w' o' P s:=by
 have ho:=Only.of_below hb [];obtain⟨M',e,hM⟩:=h.ord;exact⟨ho.block h.box (by simp),⟨M',e,hM.only ho (by simp) (by simp) (by simp)⟩,h.lay.only ho (by simp),h.out.only ho (by simp),h.got.own ho (by simp) (by simp) he⟩
structure A4m(w wr:World)(o oj:Nat->Tg)(n:Nat)(x:Int)(P Q:SP)(iv:Value)(I:OM.Its)(s:Sb):Prop where
 at':A1q wr oj Q s
 same:Q.s=P.s/\Q.ob=P.ob/\Q.om=P.om/\Q.lb=P.lb/\Q.ub=P.ub
 own:Own oj ⟨n,4,x⟩ (ξ6 Q)
 ext:Ext w o oj
 chg:Chg o (λg=>g=⟨n,4,x⟩) w wr
 row:wr.ownsRow 0 82 8 iv I.length (OM.flat OM.c8 I)
 bod:OM.Bodies wr I
 nob:∀k,iv.ownBlock=some k->(oj k).n=0
theorem ξ8p{s:Nat}(h:w.ownsRow 0 e s iv m xs)(hz:∀k,iv.ownBlock=some k->(o k).n=0)(ho:Only bs w w')(ht:∀k∈bs,(o k).n≠0):w'.ownsRow 0 e s iv m xs:=ho.owns h (λk hk hb=>ht k hb (hz k hk))
theorem A4m.below(h:A4m w wr o oj n x P Q iv I s)(hb:Below wr.heap.size wr w'):A4m w w' o (grow oj wr ξ2) n x P Q iv I s:=by
 have ho:=Only.of_below hb [];have hs:=h.chg.size;refine⟨h.at'.below hb (ξ3 _ _ _),h.same,h.own.ext (ξ3 _ _ _) h.at'.lt,h.ext.trans (ξ3 _ _ _) hs,h.chg.trans (Chg.of_below hb _ _) h.ext,ho.owns h.row (by simp),h.bod.only ho (by simp),λk hk=>?_⟩;rw[ξt (ξB h.row hk)];exact h.nob k hk
theorem ξ1G(h:wr.heap.size<=k):(grow oj wr ξ2 k).n=0:=by rw[ξg h]
theorem A4m.step{s':Sb}(h:A4m w wr o oj n x P Q iv I s)(hn:n≠0)(ho:Only bs wr w')(hb:∀k∈bs,k∈ξ6 Q)(ha:A1q w' oj Q s'):A4m w w' o oj n x P Q iv I s':=by
 have ht:=ξ1g h.own hn hb;have nb:=h.at'.nob.sub hb;exact⟨ha,h.same,h.own,h.ext,h.chg.trans (ξ1C ho h.at' h.own hb) h.ext,ξ8p h.row h.nob ho ht,h.bod.only ho nb.old,h.nob⟩
theorem A4m.keep(h:A4m w wr o oj n x P Q iv I s)(hn:n≠0)(ho:Only bs wr w')(hb:∀k∈bs,k∈ξ6 Q){y:Obj}(hk:wr.heap[k]?=some y)(hz:(oj k).n=0):w'.heap[k]?=some y:=ho.block hk (λhm=>(ξ1g h.own hn hb) k hm hz)
theorem ξ4l{p:OM.Pk}(h:OM.Body w p):∃a m c,p.bv=.slice a m c/\Arg w a m p.L/\(a=none->m=0/\c=0)/\m=p.L.length:=by
 obtain⟨a,m,c,e,ho,hL,hm⟩:=h;obtain⟨a',c',e',hA,ae,_⟩:=ξy ho hL (by omega);simp only[Value.slice.injEq,true_and]at e';obtain⟨rfl,rfl⟩:=e';exact⟨a,m,c,e,hA,ae,hA.2.1.symm⟩
def IB(w:World)(ib:Nat)(i:OM.Kp)(a:Option Addr)(m c:Nat):Prop:=w.heap[ib]?=some (.cells #[.int .i64 i.n,.bool i.g,.int .i64 i.p.s,.int .i64 i.p.t,.int .i64 i.p.l,.int .i64 i.p.q,.bool i.p.st,.slice a m c] 82 (0,0))
def I8(w:World)(ib:Nat)(i:OM.Kp)(a:Option Addr)(m c:Nat):Prop:=w.cell? ⟨ib,0,none⟩=some (.int .i64 i.n)/\w.cell? ⟨ib,1,none⟩=some (.bool i.g)/\w.cell? ⟨ib,2,none⟩=some (.int .i64 i.p.s)/\w.cell? ⟨ib,3,none⟩=some (.int .i64 i.p.t)/\w.cell? ⟨ib,4,none⟩=some (.int .i64 i.p.l)/\w.cell? ⟨ib,5,none⟩=some (.int .i64 i.p.q)/\w.cell? ⟨ib,6,none⟩=some (.bool i.p.st)/\w.cell? ⟨ib,7,none⟩=some (.slice a m c)
theorem IB.cells(h:IB w ib i a m c):I8 w ib i a m c:=by
 unfold IB at h;refine⟨?_,?_,?_,?_,?_,?_,?_,?_⟩<;>simp[World.cell?,h]
theorem A1q.cells(h:A1q w o P s):w.cell? ⟨P.s,2,none⟩=some (.pointer (some ⟨P.ob,0,none⟩))/\w.cell? ⟨P.s,3,none⟩=some (.pointer (some ⟨P.lb,0,none⟩))/\w.cell? ⟨P.s,4,none⟩=some (.pointer (some ⟨P.ub,0,none⟩))/\w.cell? ⟨P.s,5,none⟩=some P.gv:=by
 refine⟨?_,?_,?_,?_⟩<;>simp[World.cell?,h.box]
def PSt(w wr:World)(o:Nat->Tg)(n:Nat)(x:Int)(P:SP)(iv:Value)(I:OM.Its)(s:Sb):Prop:=∃oj Q,A4m w wr o oj n x P Q iv I s
def A3a(w wr:World)(o:Nat->Tg)(n:Nat)(x:Int)(P:SP)(iv:Value)(I:OM.Its)(s:Sb)(ib:Nat)(i:OM.Kp)(a:Option Addr)(m c:Nat):Prop:=∃oj Q,A4m w wr o oj n x P Q iv I s/\IB wr ib i a m c/\(oj ib).n=0
theorem PSt.load(h:PSt w wr o n x P iv I s):A3a w (wr.alloc (.cells #[.int .i64 i.n,.bool i.g,.int .i64 i.p.s,.int .i64 i.p.t,.int .i64 i.p.l,.int .i64 i.p.q,.bool i.p.st,.slice a m c] 82)) o n x P iv I s wr.heap.size i a m c:=by
 obtain⟨oj,Q,h⟩:=h;exact⟨_,Q,h.below ((Ξp _ _).alloc (Ξo _) _),heap_alloc_new wr _,ξ1G (Ξo _)⟩
theorem A3a.drew(h:A3a w wr o n x P iv I s ib i a m c):A3a w wr.drew o n x P iv I s ib i a m c:=by
 obtain⟨oj,Q,h,h1,h2⟩:=h;refine⟨_,Q,h.below ((Ξp _ _).drew),h1,?_⟩;rw[ξt (lt_of_block h1)];exact h2
theorem A3a.out(h:A3a w wr o n x P iv I s ib i a m c):PSt w wr o n x P iv I s:=by
 obtain⟨oj,Q,h,_⟩:=h;exact⟨oj,Q,h⟩
theorem A3a.cells(h:A3a w wr o n x P iv I s ib i a m c):I8 wr ib i a m c/\wr.cell? ⟨P.s,3,none⟩=some (.pointer (some ⟨P.lb,0,none⟩))/\wr.cell? ⟨P.s,4,none⟩=some (.pointer (some ⟨P.ub,0,none⟩)):=by
 obtain⟨oj,Q,h,h1,_⟩:=h;obtain⟨c2,c3,c4,c5⟩:=h.at'.cells;obtain⟨e1,e2,e3,e4,e5⟩:=h.same;rw[e1,e4]at c3;rw[e1,e5]at c4;exact⟨h1.cells,c3,c4⟩
theorem A3a.take(hn:n≠0)(h:A3a w wr o n x P iv I s ib i a m c)(hm:m=i.p.L.length) :
 Calls prog 33 #[.pointer (some ⟨P.lb,0,none⟩),.agg #[.int .i64 i.n,.bool i.g,.int .i64 i.p.s,.int .i64 i.p.t,.int .i64 i.p.l,.int .i64 i.p.q,.bool i.p.st,.slice a m c]] wr λe w'=>e=.returned (.tuple #[.bool (s.A3s i),A0a (LM.tkf s.la i.n i.g (ifl i))])/\(I8 w' ib i a m c/\w'.cell? ⟨P.s,3,none⟩=some (.pointer (some ⟨P.lb,0,none⟩)))/\Hid (A3a w w' o n x P iv I (s.laid i) ib i a m c):=by
 obtain⟨oj,Q,h,h1,h2⟩:=h;have ae:Q.lb=P.lb:=h.same.2.2.2.1;have C:=Layer.ξR Q.lb s.mo s.ln s.la i.n s.br i.g i.p.s i.p.t i.p.l i.p.q i.p.st a m c wr h.at'.lay;rw[ae,hm]at C;rw[hm];refine C.mono ?_;rintro e w' ⟨rfl,hl,ho⟩;rw[<-ae]at hl ho;have hq:A3a w w' o n x P iv I (s.laid i) ib i a i.p.L.length c:=⟨oj,Q,h.step hn ho (by simp[ξ6]) (h.at'.lay' hn h.own hl ho),by have:=h.keep hn ho (by simp[ξ6]) h1 h2;rw[hm]at this;exact this,h2⟩;have hc:=hq.cells;exact⟨rfl,⟨hc.1,hc.2.1⟩,ξ0 hq⟩
def A54(w wr:World)(o:Nat->Tg)(n:Nat)(x:Int)(P:SP)(iv:Value)(I:OM.Its)(s:Sb)(v:Value)(L:List Nat):Prop:=∃oj Q,A4m w wr o oj n x P Q iv I s/\ξo wr oj v L
theorem A3a.next(hn:n≠0)(h:A3a w wr o n x P iv I s ib i a m c)(hi:i∈I)(hb:i.p.bv=.slice a m c)(hf:ifl i=0)(hu:UM.Inv 0 s.uk s.uT s.uo)(hk:s.uk<2199023255552) :
 Calls prog 34 #[.pointer (some ⟨P.ub,0,none⟩),.agg #[.int .i64 i.p.s,.int .i64 i.p.t,.int .i64 i.p.l,.int .i64 i.p.q,.bool i.p.st,.slice a m c]] wr λe w'=>∃a' c',e=.returned (.tuple #[.agg #[.int .i64 (s.A2s i).s,.int .i64 (s.A2s i).t,.int .i64 i.p.l,.int .i64 i.p.q,.bool i.p.st,.slice a' m c'],.nilIface])/\(I8 w' ib i a m c/\w'.cell? ⟨P.s,4,none⟩=some (.pointer (some ⟨P.ub,0,none⟩)))/\Hid (A54 w w' o n x P iv I (s.next i) (.slice a' m c') i.p.L):=by
 obtain⟨oj,Q,h,h1,h2⟩:=h;have ae:Q.ub=P.ub:=h.same.2.2.2.2;obtain⟨a2,m2,c2,e2,hA,ah,hm⟩:=ξ4l (h.bod i hi);rw[hb]at e2;cases e2;have C:=Out.ξ8A Q.ub 0 s.uk s.uT s.uy s.uo i.p.s i.p.t i.p.l i.p.q i.p.st a m c i.p.L wr h.at'.out hu hk (by rw[hm];exact hf) hA ah;rw[ae]at C;refine C.mono ?_;rintro e w' ⟨a',c',rfl,hl,ai,aj,ho,am⟩;rw[<-ae]at hl ho;have hq:=h.step hn ho (by simp[ξ6]) (h.at'.out' hn h.own hl ho);have aq:=h.keep hn ho (by simp[ξ6]) h1 h2;have au:A3a w w' o n x P iv I (s.next i) ib i a m c:=⟨oj,Q,hq,aq,h2⟩;have hc:=au.cells;refine⟨a',c',rfl,⟨hc.1,hc.2.2⟩,ξ0 ?_⟩
 -- the new blocks are nobody's
 have he:Ext wr oj (grow oj wr ξ2):=ξ3 _ _ _;have aw:=h.chg.size;refine⟨grow oj wr ξ2,Q,⟨?_,hq.same,h.own.ext he h.at'.lt,h.ext.trans he aw,hq.chg,hq.row,hq.bod,λk hk=>by rw[he k (ξB h.row hk)];exact h.nob k hk⟩,a',m,c',rfl,ai,λ_ ad e=>ξ1G (am ad e)⟩;have ha:=hq.at';refine⟨ha.box,ha.ord,ha.lay,ha.out,?_⟩;exact h.at'.got.own ho (λk hk=>by simp;exact(h.at'.sep.gv k hk).2.2.2.2) (ξ1g h.own hn (by simp[ξ6])) he
theorem A54.below(h:A54 w wr o n x P iv I s v L)(hb:Below wr.heap.size wr w'):A54 w w' o n x P iv I s v L:=by
 obtain⟨oj,Q,h,hB⟩:=h;exact⟨_,Q,h.below hb,hB.own (Only.of_below hb []) (by simp) (ξ3 _ _ _)⟩
def Apd(w W:World)(o:Nat->Tg)(n:Nat)(x:Int)(P:SP)(iv:Value)(I:OM.Its)(s:Sb)(v:Value)(p:Pk):Prop:=∃gv:Value,∃xs:List Value,W.cell? ⟨P.s,5,none⟩=some gv/\W.frozen? ⟨P.s,5,none⟩=false/\(∃ga gc,gv=.slice ga s.got.length gc)/\W.ownsRow 0 38 6 gv s.got.length xs /\
 ∀g cap w2,w2.ownsRow 0 38 6 (.slice (some ⟨g,0,none⟩) (s.got.length+1) cap) (s.got.length+1) (xs++pc p v)->((W.alloc (.cells (pc p v).toArray 38)).drew).grownBy w2 gv.ownBlock->(gv.ownBlock=some g∨g=W.heap.size+1)->w2.cell? ⟨P.s,5,none⟩=some gv/\w2.frozen? ⟨P.s,5,none⟩=false/\PSt w (w2.setCell ⟨P.s,5,none⟩ (.slice (some ⟨g,0,none⟩) (s.got.length+1) cap)) o n x P iv I { s with got:=s.got++[p] }
theorem A54.app{W:World}(hn:n≠0)(p:Pk)(h:A54 w W o n x P iv I s v p.L):Apd w W o n x P iv I s v p:=by
 obtain⟨oj,Q,h,hB⟩:=h;obtain⟨e1,e2,e3,e4,e5⟩:=h.same;obtain⟨c2,c3,c4,c5⟩:=h.at'.cells;obtain⟨X,x1,x2,x3⟩:=h.at'.got;have hX:s.got.length=X.length:=by rw[<-x1,Ξm]
 have q:=h.at'.sep;have ai:=h.at'.box;rw[e1]at c5 ai;refine⟨Q.gv,X.flatMap λz=>pc z.1 z.2,c5,by simp[World.frozen?,ai],?_,by rw[hX];exact x2,?_⟩
 ·rcases x2.2 with⟨e,h0⟩|⟨g,cap,cur,e,_⟩
  ·exact⟨none,0,by rw[e,hX,h0]⟩
  ·exact⟨_,cap,by rw[e,hX]⟩
 intro g cap w2 aw au aA;have ax:Only Q.gv.ownBlock.toList W w2:=(((Only.refl _ W).alloc _).drew).grown au (by intro k hk;simp[hk]);have aC:∀k∈Q.gv.ownBlock.toList,k∈ξ6 Q:=by intro k hk;simp only[ξ6,Ξf];simp[hk]
 have ay:w2.heap[P.s]?=W.heap[P.s]?:=ax.2.2.2.2 _ (lt_of_block ai) (λhk=>by have:=(q.gv P.s (by simpa using hk)).1;exact this e1.symm);have aj:=ay.trans ai;refine⟨(ξr ay 5).trans c5,by simp[World.frozen?,aj],?_⟩;have am:Only (P.s::Q.gv.ownBlock.toList) W (w2.setCell ⟨P.s,5,none⟩ (.slice (some ⟨g,0,none⟩) (s.got.length+1) cap)):=Only.setCell (ax.mono (by intro k hk;simp[hk])) (by simp) _;have aq:∀k∈P.s::Q.gv.ownBlock.toList,k∈ξ6 Q:=by
  intro k hk;rcases Ξf.1 hk with rfl|hk
  ·rw[<-e1];simp[ξ6]
  ·exact aC k hk
 have ht:=ξ1g h.own hn aq;have hC:Chg oj (λg=>g=⟨n,4,x⟩) W (w2.setCell ⟨P.s,5,none⟩ (.slice (some ⟨g,0,none⟩) (s.got.length+1) cap)):=ξ1C am h.at' h.own aq;have he:Ext W oj (grow oj W ⟨n,4,x⟩):=ξ3 _ _ _;have az:Q.gv.ownBlock=some g∨W.heap.size<=g:=by
  rcases aA with h|h
  ·exact .inl h
  ·exact .inr (by omega)
 have aD:g≠P.s:=by
  rcases az with h|h
  ·rw[<-e1];exact(q.gv g h).1
  ·have:=lt_of_block ai;omega
 have ae:∀k,(k=Q.ob∨k=Q.om∨k=Q.lb∨k=Q.ub)->k∉P.s::Q.gv.ownBlock.toList:=by
  intro k hk hm;rw[<-e1]at hm;rcases Ξf.1 hm with hm|hm
  ·rcases hk with rfl|rfl|rfl|rfl
   ·exact q.so hm.symm
   ·exact q.sm hm.symm
   ·exact q.sl hm.symm
   ·exact q.su hm.symm
  ·have:=q.gv k (by simpa using hm);rcases hk with e|e|e|e
   ·exact this.2.1 e
   ·exact this.2.2.1 e
   ·exact this.2.2.2.1 e
   ·exact this.2.2.2.2 e
 have nb:=(h.at'.nob.sub aq).old;refine⟨grow oj W ⟨n,4,x⟩,{ Q with gv:=.slice (some ⟨g,0,none⟩) (s.got.length+1) cap },⟨?_,⟨e1,e2,e3,e4,e5⟩,?_,h.ext.trans he h.chg.size,h.chg.trans hC h.ext,ξ8p h.row h.nob am ht,h.bod.only am nb,λk hk=>by rw[he k (ξB h.row hk)];exact h.nob k hk⟩⟩
 ·obtain⟨M',eM,hM⟩:=h.at'.ord;refine⟨?_,⟨M',eM,hM.only am (ae _ (.inl rfl)) (ae _ (.inr (.inl rfl))) nb⟩,h.at'.lay.only am (ae _ (.inr (.inr (.inl rfl)))),h.at'.out.only am (ae _ (.inr (.inr (.inr rfl)))),?_⟩
  ·show(w2.setCell ⟨P.s,5,none⟩ _).heap[Q.s]?=_;rw[e1];exact heap_setCell_same w2 P.s 5 _ _ _ aj
  ·refine⟨X++[(p,v)],by rw[List.map_append,x1];rfl,?_,?_⟩
   ·have hs:=((Only.refl [P.s] w2).setCell (p:=⟨P.s,5,none⟩) (by simp) (.slice (some ⟨g,0,none⟩) (s.got.length+1) cap)).owns aw (by intro k hk;simp[Value.ownBlock]at hk;subst hk;simp;exact aD);rw[List.flatMap_append,Ξh,<-hX];exact hs
   ·intro z hz;rcases Ξe.1 hz with hz|hz
    ·exact(x3 z hz).own am ht he
    ·simp only[Ξg]at hz;subst hz;exact hB.own am ht he
 ·intro k hk;simp only[ξ6,Ξf,Option.mem_toList,Value.ownBlock]at hk;have ah:∀k,k∈ξ6 Q->grow oj W ⟨n,4,x⟩ k=⟨n,4,x⟩:=λk hk=>(he k (h.at'.lt k hk)).trans (h.own k hk);rcases hk with e|e|e|e|e|e
  ·exact ah k (by simp[ξ6,e])
  ·exact ah k (by simp[ξ6,e])
  ·exact ah k (by simp[ξ6,e])
  ·exact ah k (by simp[ξ6,e])
  ·exact ah k (by simp[ξ6,e])
  ·simp at e;subst e;rcases az with h'|h'
   ·exact ah _ (by simp only[ξ6,Ξf];simp[h'])
   ·exact ξg h'
def Zb(w:World)(g:Nat):Prop:=w.heap[g]?=some (.cells #[.int .i64 0,.int .i64 0,.int .i64 0,.int .i64 0,.bool false,.slice none 0 0] 38 (0,0))
structure PStJ(w wr:World)(o oj:Nat->Tg)(n:Nat)(x:Int)(P Q:SP)(iv:Value)(I:OM.Its)(s:Sb)(g:Nat):Prop where
 st:A4m w wr o oj n x P Q iv I s
 tag:oj g=⟨n,4,x⟩
 apb:∀k∈ξ6 Q,k≠g
 api:∀k,iv.ownBlock=some k->k≠g
 new:w.heap.size<=g
theorem A4m.mine(h:A4m w wr o oj n x P Q iv I s)(hb:Below wr.heap.size wr w'):A4m w w' o (grow oj wr ⟨n,4,x⟩) n x P Q iv I s:=by
 have ho:=Only.of_below hb [];have hs:=h.chg.size;refine⟨h.at'.below hb (ξ3 _ _ _),h.same,h.own.ext (ξ3 _ _ _) h.at'.lt,h.ext.trans (ξ3 _ _ _) hs,h.chg.trans (Chg.of_below hb _ _) h.ext,ho.owns h.row (by simp),h.bod.only ho (by simp),λk hk=>?_⟩;rw[ξt (ξB h.row hk)];exact h.nob k hk
theorem A3a.ahead(h:A3a w wr o n x P iv I s ib i a m c)(hb:Below wr.heap.size wr w')(hz:Zb w' wr.heap.size):∃oj Q,PStJ w w' o oj n x P Q iv I s wr.heap.size/\IB w' ib i a m c/\(oj ib).n=0/\ib≠wr.heap.size:=by
 obtain⟨oj,Q,h,h1,h2⟩:=h;have hl:=lt_of_block h1;refine⟨_,Q,⟨h.mine hb,ξg (Ξo _),λk hk=>by have:=h.at'.lt k hk;omega,λk hk=>by have:=ξB h.row hk;omega,h.chg.size⟩,(hb.block _ hl).trans h1,?_,by omega⟩;rw[ξt hl];exact h2
def A76(w wr:World)(o:Nat->Tg)(n:Nat)(x:Int)(P:SP)(iv:Value)(I:OM.Its)(s:Sb)(v:Value)(L:List Nat)(g:Nat):Prop:=∃oj Q,PStJ w wr o oj n x P Q iv I s g/\ξo wr oj v L/\Zb wr g
theorem A76.write(hn:n≠0)(h:A76 w wr o n x P iv I s v L g)(ho:Only [g] wr w'):A54 w w' o n x P iv I s v L:=by
 obtain⟨oj,Q,h,hB,hz⟩:=h;have ht:∀k∈[g],(oj k).n≠0:=by intro k hk;simp at hk;rw[hk,h.tag];exact hn
 have nb:Nob wr [g]:=by intro k hk;simp at hk;rw[hk];exact ξi hz (by decide)
 have hc:Chg oj (λt=>t=⟨n,4,x⟩) wr w':=Chg.A1j ho (by intro k hk;simp at hk;rw[hk];exact h.tag) nb;have hi:∀k∈ξ6 Q,k∉[g]:=λk hk=>by simp;exact h.apb k hk
 obtain⟨M',e,hM⟩:=h.st.at'.ord;refine⟨oj,Q,⟨⟨ho.block h.st.at'.box (hi _ (by simp[ξ6])),⟨M',e,hM.only ho (hi _ (by simp[ξ6])) (hi _ (by simp[ξ6])) nb.old⟩,h.st.at'.lay.only ho (hi _ (by simp[ξ6])),h.st.at'.out.only ho (hi _ (by simp[ξ6])),h.st.at'.got.own ho (λk hk=>hi k (by simp only[ξ6,Ξf];simp[hk])) ht (Ext.refl _ _)⟩,h.st.same,h.st.own,h.st.ext,h.st.chg.trans hc h.st.ext,ho.owns h.st.row (λk hk=>by simp;exact h.api k hk),h.st.bod.only ho nb.old,h.st.nob⟩,hB.own ho ht (Ext.refl _ _)⟩
theorem A3a.nextJ{w0:World}(hn:n≠0)(h:PStJ w wr o oj n x P Q iv I s g)(h1:IB wr ib i a m c)(h2:(oj ib).n=0)(hz:Zb wr g)(hi:i∈I)(hb:i.p.bv=.slice a m c)(hf:ifl i=0)(hu:UM.Inv 0 s.uk s.uT s.uo)(hk:s.uk<2199023255552) :
 Calls prog 34 #[.pointer (some ⟨P.ub,0,none⟩),.agg #[.int .i64 i.p.s,.int .i64 i.p.t,.int .i64 i.p.l,.int .i64 i.p.q,.bool i.p.st,.slice a m c]] wr λe w'=>∃a' c',e=.returned (.tuple #[.agg #[.int .i64 (s.A2s i).s,.int .i64 (s.A2s i).t,.int .i64 i.p.l,.int .i64 i.p.q,.bool i.p.st,.slice a' m c'],.nilIface])/\(I8 w' ib i a m c/\w'.cell? ⟨P.s,4,none⟩=some (.pointer (some ⟨P.ub,0,none⟩)))/\Zb w' g/\Hid (A76 w w' o n x P iv I (s.next i) (.slice a' m c') i.p.L g):=by
 have hh:=h.st;have ae:Q.ub=P.ub:=hh.same.2.2.2.2;obtain⟨a2,m2,c2,e2,hA,ai,hm⟩:=ξ4l (hh.bod i hi);rw[hb]at e2;cases e2;have C:=Out.ξ8A Q.ub 0 s.uk s.uT s.uy s.uo i.p.s i.p.t i.p.l i.p.q i.p.st a m c i.p.L wr hh.at'.out hu hk (by rw[hm];exact hf) hA ai;rw[ae]at C;refine C.mono ?_;rintro e w' ⟨a',c',rfl,hl,aj,am,ho,aq⟩;rw[<-ae]at hl ho;have hq:=hh.step hn ho (by simp[ξ6]) (hh.at'.out' hn hh.own hl ho);have au:=hh.keep hn ho (by simp[ξ6]) h1 h2;have aw:A3a w w' o n x P iv I (s.next i) ib i a m c:=⟨oj,Q,hq,au,h2⟩;have hc:=aw.cells;have ah:Zb w' g:=ho.block hz (by simp;exact λe=>h.apb Q.ub (by simp[ξ6]) e.symm);refine⟨a',c',rfl,⟨hc.1,hc.2.2⟩,ah,ξ0 ?_⟩;have he:Ext wr oj (grow oj wr ξ2):=ξ3 _ _ _;have ax:=hh.chg.size;have ay:=lt_of_block hz;refine⟨grow oj wr ξ2,Q,⟨⟨?_,hq.same,hh.own.ext he hh.at'.lt,hh.ext.trans he ax,hq.chg,hq.row,hq.bod,λk hk=>by rw[he k (ξB hh.row hk)];exact hh.nob k hk⟩,(he g ay).trans h.tag,h.apb,h.api,h.new⟩,⟨a',m,c',rfl,aj,λ_ ad e=>ξ1G (aq ad e)⟩,ah⟩;have ha:=hq.at';exact⟨ha.box,ha.ord,ha.lay,ha.out,hh.at'.got.own ho (λk hk=>by simp;exact(hh.at'.sep.gv k hk).2.2.2.2) (ξ1g hh.own hn (by simp[ξ6])) he⟩
theorem Zb.cells(h:Zb w g):w.cell? ⟨g,0,none⟩=some (.int .i64 0)/\w.cell? ⟨g,1,none⟩=some (.int .i64 0)/\w.cell? ⟨g,2,none⟩=some (.int .i64 0)/\w.cell? ⟨g,3,none⟩=some (.int .i64 0)/\w.cell? ⟨g,4,none⟩=some (.bool false)/\w.cell? ⟨g,5,none⟩=some (.slice none 0 0)/\w.frozen? ⟨g,0,none⟩=false/\w.frozen? ⟨g,1,none⟩=false/\w.frozen? ⟨g,2,none⟩=false/\w.frozen? ⟨g,3,none⟩=false/\w.frozen? ⟨g,4,none⟩=false/\w.frozen? ⟨g,5,none⟩=false:=by
 unfold Zb at h;refine⟨?_,?_,?_,?_,?_,?_,?_,?_,?_,?_,?_,?_⟩<;>simp[World.cell?,World.frozen?,h]
theorem A6k:(prog.info? 38).map (λi=>(i.zero,i.size,i.bytes))=some (some (.agg #[.int .i64 0,.int .i64 0,.int .i64 0,.int .i64 0,.bool false,.slice none 0 0]),6,64):=by kernel_rfl
theorem ξgc(i:OM.Kp):(OM.c8 i).length=8:=rfl
theorem PSt.item{av:Option Addr}{cv:Nat}(h:PSt w wr o n x P (.slice av K cv) I s)(hI:I.length=K)(hj:j<K) :
 ∃ib i a m c,av=some ⟨ib,0,none⟩/\K<=cv/\I[j]?=some i/\i.p.bv=.slice a m c/\m=i.p.L.length/\wr.cell? ⟨ib,j*8,none⟩=some (.int .i64 i.n)/\wr.cell? ⟨ib,j*8+1,none⟩=some (.bool i.g)/\wr.cell? ⟨ib,j*8+2,none⟩=some (.int .i64 i.p.s)/\wr.cell? ⟨ib,j*8+3,none⟩=some (.int .i64 i.p.t)/\wr.cell? ⟨ib,j*8+4,none⟩=some (.int .i64 i.p.l)/\wr.cell? ⟨ib,j*8+5,none⟩=some (.int .i64 i.p.q)/\wr.cell? ⟨ib,j*8+6,none⟩=some (.bool i.p.st)/\wr.cell? ⟨ib,j*8+7,none⟩=some (.slice a m c):=by
 obtain⟨oj,Q,h⟩:=h;subst hI;have hi:I[j]?=some I[j]:=Ξd hj;have ae:=h.row;rcases ae.2 with⟨e,h0⟩|⟨g,cap,cur,e,_,_,hc,_⟩
 ·omega
 ·cases e;obtain⟨a,m,c,eb,_,_,hm⟩:=ξ4l (h.bod I[j] (List.getElem_mem hj));have k:∀t,t<8->wr.cell? ⟨g,j*8+t,none⟩=(OM.c8 I[j])[t]?:=λt ht=>OM.ξcM ξgc ae hi t ht;refine⟨g,I[j],a,m,c,rfl,hc,hi,eb,hm,k 0 (by omega),k 1 (by omega),k 2 (by omega),k 3 (by omega),k 4 (by omega),k 5 (by omega),k 6 (by omega),?_⟩;rw[k 7 (by omega)];show some (I[j]).p.bv=_;rw[eb]
theorem ξbO(h:I[j]?=some i)(s:Sb):(I.take (j+1)).foldl Sb.item s=((I.take j).foldl Sb.item s).item i:=by
 rw[List.take_add_one,h,List.foldl_append];rfl
theorem ξ8R(I:OM.Its):∀(s:Sb),s.uk<=(I.foldl Sb.item s).uk/\(I.foldl Sb.item s).uk<=s.uk+I.length/\(I.foldl Sb.item s).got.length<=s.got.length+I.length:=by
 induction I with
 | nil=>intro s;simp
 | cons i I ih=>
   intro s;obtain⟨h1,h2,h3⟩:=ih (s.item i);have e:(s.item i).uk=s.uk∨(s.item i).uk=s.uk+1:=by
    unfold Sb.item;split
    ·exact .inr rfl
    ·exact .inl rfl
   have e2:(s.item i).got.length<=s.got.length+1:=by
    unfold Sb.item;split
    ·simp
    ·show s.got.length<=_;omega
   simp only[List.foldl_cons,List.length_cons];omega
theorem ξ6A(hb:Below w.heap.size w w')(h:(w.cell? ⟨xb,0,none⟩=some (.int .i64 v0)/\w.cell? ⟨xb,1,none⟩=some (.bool v1)/\w.cell? ⟨xb,2,none⟩=some (.int .i64 v2)/\w.cell? ⟨xb,3,none⟩=some (.int .i64 v3)/\w.cell? ⟨xb,4,none⟩=some (.int .i64 v4)/\w.cell? ⟨xb,5,none⟩=some (.int .i64 v5)/\w.cell? ⟨xb,6,none⟩=some (.bool v6)/\w.cell? ⟨xb,7,none⟩=some (.slice a m c))/\w.cell? ⟨sb,4,none⟩=some (.pointer (some ⟨ub,0,none⟩))):(w'.cell? ⟨xb,0,none⟩=some (.int .i64 v0)/\w'.cell? ⟨xb,1,none⟩=some (.bool v1)/\w'.cell? ⟨xb,2,none⟩=some (.int .i64 v2)/\w'.cell? ⟨xb,3,none⟩=some (.int .i64 v3)/\w'.cell? ⟨xb,4,none⟩=some (.int .i64 v4)/\w'.cell? ⟨xb,5,none⟩=some (.int .i64 v5)/\w'.cell? ⟨xb,6,none⟩=some (.bool v6)/\w'.cell? ⟨xb,7,none⟩=some (.slice a m c))/\w'.cell? ⟨sb,4,none⟩=some (.pointer (some ⟨ub,0,none⟩)):=by
 obtain⟨⟨k0,k1,k2,k3,k4,k5,k6,k7⟩,k8⟩:=h;exact⟨⟨ξc hb k0,ξc hb k1,ξc hb k2,ξc hb k3,ξc hb k4,ξc hb k5,ξc hb k6,ξc hb k7⟩,ξc hb k8⟩
theorem ξcJ(O:Obj)(h:(w.cell? ⟨xb,0,none⟩=some (.int .i64 v0)/\w.cell? ⟨xb,1,none⟩=some (.bool v1)/\w.cell? ⟨xb,2,none⟩=some (.int .i64 v2)/\w.cell? ⟨xb,3,none⟩=some (.int .i64 v3)/\w.cell? ⟨xb,4,none⟩=some (.int .i64 v4)/\w.cell? ⟨xb,5,none⟩=some (.int .i64 v5)/\w.cell? ⟨xb,6,none⟩=some (.bool v6)/\w.cell? ⟨xb,7,none⟩=some (.slice a m c))/\w.cell? ⟨sb,4,none⟩=some (.pointer (some ⟨ub,0,none⟩))):((w.alloc O).cell? ⟨xb,0,none⟩=some (.int .i64 v0)/\(w.alloc O).cell? ⟨xb,1,none⟩=some (.bool v1)/\(w.alloc O).cell? ⟨xb,2,none⟩=some (.int .i64 v2)/\(w.alloc O).cell? ⟨xb,3,none⟩=some (.int .i64 v3)/\(w.alloc O).cell? ⟨xb,4,none⟩=some (.int .i64 v4)/\(w.alloc O).cell? ⟨xb,5,none⟩=some (.int .i64 v5)/\(w.alloc O).cell? ⟨xb,6,none⟩=some (.bool v6)/\(w.alloc O).cell? ⟨xb,7,none⟩=some (.slice a m c))/\(w.alloc O).cell? ⟨sb,4,none⟩=some (.pointer (some ⟨ub,0,none⟩)):=ξ6A ((Ξp _ _).alloc (Ξo _) _) h
theorem ξU(hg:k≠g)(z0 z1 z2 z3 z4 z5:Value){t:Nat}(h:w.cell? ⟨k,t,none⟩=some v):((((((w.setCell ⟨g,0,none⟩ z0).setCell ⟨g,1,none⟩ z1).setCell ⟨g,2,none⟩ z2).setCell ⟨g,3,none⟩ z3).setCell ⟨g,4,none⟩ z4).setCell ⟨g,5,none⟩ z5).cell? ⟨k,t,none⟩=some v:=by
 have hl:=Ξq w ⟨k,t,none⟩ h;have ho:Only [g] w ((((((w.setCell ⟨g,0,none⟩ z0).setCell ⟨g,1,none⟩ z1).setCell ⟨g,2,none⟩ z2).setCell ⟨g,3,none⟩ z3).setCell ⟨g,4,none⟩ z4).setCell ⟨g,5,none⟩ z5):=by
  iterate 6 refine Only.setCell ?_ (by simp) _
  exact Only.refl _ _
 exact(ξr (ho.2.2.2.2 k hl (by simp;exact hg)) t).trans h
theorem ξcI(hx:xb≠g)(hs:sb≠g)(z0 z1 z2 z3 z4 z5:Value)(h:(w.cell? ⟨xb,0,none⟩=some (.int .i64 v0)/\w.cell? ⟨xb,1,none⟩=some (.bool v1)/\w.cell? ⟨xb,2,none⟩=some (.int .i64 v2)/\w.cell? ⟨xb,3,none⟩=some (.int .i64 v3)/\w.cell? ⟨xb,4,none⟩=some (.int .i64 v4)/\w.cell? ⟨xb,5,none⟩=some (.int .i64 v5)/\w.cell? ⟨xb,6,none⟩=some (.bool v6)/\w.cell? ⟨xb,7,none⟩=some (.slice a m c))/\w.cell? ⟨sb,4,none⟩=some (.pointer (some ⟨ub,0,none⟩))):(((((((w.setCell ⟨g,0,none⟩ z0).setCell ⟨g,1,none⟩ z1).setCell ⟨g,2,none⟩ z2).setCell ⟨g,3,none⟩ z3).setCell ⟨g,4,none⟩ z4).setCell ⟨g,5,none⟩ z5).cell? ⟨xb,0,none⟩=some (.int .i64 v0)/\((((((w.setCell ⟨g,0,none⟩ z0).setCell ⟨g,1,none⟩ z1).setCell ⟨g,2,none⟩ z2).setCell ⟨g,3,none⟩ z3).setCell ⟨g,4,none⟩ z4).setCell ⟨g,5,none⟩ z5).cell? ⟨xb,1,none⟩=some (.bool v1)/\((((((w.setCell ⟨g,0,none⟩ z0).setCell ⟨g,1,none⟩ z1).setCell ⟨g,2,none⟩ z2).setCell ⟨g,3,none⟩ z3).setCell ⟨g,4,none⟩ z4).setCell ⟨g,5,none⟩ z5).cell? ⟨xb,2,none⟩=some (.int .i64 v2)/\((((((w.setCell ⟨g,0,none⟩ z0).setCell ⟨g,1,none⟩ z1).setCell ⟨g,2,none⟩ z2).setCell ⟨g,3,none⟩ z3).setCell ⟨g,4,none⟩ z4).setCell ⟨g,5,none⟩ z5).cell? ⟨xb,3,none⟩=some (.int .i64 v3)/\((((((w.setCell ⟨g,0,none⟩ z0).setCell ⟨g,1,none⟩ z1).setCell ⟨g,2,none⟩ z2).setCell ⟨g,3,none⟩ z3).setCell ⟨g,4,none⟩ z4).setCell ⟨g,5,none⟩ z5).cell? ⟨xb,4,none⟩=some (.int .i64 v4)/\((((((w.setCell ⟨g,0,none⟩ z0).setCell ⟨g,1,none⟩ z1).setCell ⟨g,2,none⟩ z2).setCell ⟨g,3,none⟩ z3).setCell ⟨g,4,none⟩ z4).setCell ⟨g,5,none⟩ z5).cell? ⟨xb,5,none⟩=some (.int .i64 v5)/\((((((w.setCell ⟨g,0,none⟩ z0).setCell ⟨g,1,none⟩ z1).setCell ⟨g,2,none⟩ z2).setCell ⟨g,3,none⟩ z3).setCell ⟨g,4,none⟩ z4).setCell ⟨g,5,none⟩ z5).cell? ⟨xb,6,none⟩=some (.bool v6)/\((((((w.setCell ⟨g,0,none⟩ z0).setCell ⟨g,1,none⟩ z1).setCell ⟨g,2,none⟩ z2).setCell ⟨g,3,none⟩ z3).setCell ⟨g,4,none⟩ z4).setCell ⟨g,5,none⟩ z5).cell? ⟨xb,7,none⟩=some (.slice a m c))/\((((((w.setCell ⟨g,0,none⟩ z0).setCell ⟨g,1,none⟩ z1).setCell ⟨g,2,none⟩ z2).setCell ⟨g,3,none⟩ z3).setCell ⟨g,4,none⟩ z4).setCell ⟨g,5,none⟩ z5).cell? ⟨sb,4,none⟩=some (.pointer (some ⟨ub,0,none⟩)):=by
 obtain⟨⟨k0,k1,k2,k3,k4,k5,k6,k7⟩,k8⟩:=h;exact⟨⟨ξU hx _ _ _ _ _ _ k0,ξU hx _ _ _ _ _ _ k1,ξU hx _ _ _ _ _ _ k2,ξU hx _ _ _ _ _ _ k3,ξU hx _ _ _ _ _ _ k4,ξU hx _ _ _ _ _ _ k5,ξU hx _ _ _ _ _ _ k6,ξU hx _ _ _ _ _ _ k7⟩,ξU hs _ _ _ _ _ _ k8⟩
theorem ξaO(O:Obj)(z0 z1 z2 z3 z4 z5:Value)(h:(w.cell? ⟨xb,0,none⟩=some (.int .i64 v0)/\w.cell? ⟨xb,1,none⟩=some (.bool v1)/\w.cell? ⟨xb,2,none⟩=some (.int .i64 v2)/\w.cell? ⟨xb,3,none⟩=some (.int .i64 v3)/\w.cell? ⟨xb,4,none⟩=some (.int .i64 v4)/\w.cell? ⟨xb,5,none⟩=some (.int .i64 v5)/\w.cell? ⟨xb,6,none⟩=some (.bool v6)/\w.cell? ⟨xb,7,none⟩=some (.slice a m c))/\w.cell? ⟨sb,4,none⟩=some (.pointer (some ⟨ub,0,none⟩))):((((((((w.alloc O).setCell ⟨w.heap.size,0,none⟩ z0).setCell ⟨w.heap.size,1,none⟩ z1).setCell ⟨w.heap.size,2,none⟩ z2).setCell ⟨w.heap.size,3,none⟩ z3).setCell ⟨w.heap.size,4,none⟩ z4).setCell ⟨w.heap.size,5,none⟩ z5).cell? ⟨xb,0,none⟩=some (.int .i64 v0)/\(((((((w.alloc O).setCell ⟨w.heap.size,0,none⟩ z0).setCell ⟨w.heap.size,1,none⟩ z1).setCell ⟨w.heap.size,2,none⟩ z2).setCell ⟨w.heap.size,3,none⟩ z3).setCell ⟨w.heap.size,4,none⟩ z4).setCell ⟨w.heap.size,5,none⟩ z5).cell? ⟨xb,1,none⟩=some (.bool v1)/\(((((((w.alloc O).setCell ⟨w.heap.size,0,none⟩ z0).setCell ⟨w.heap.size,1,none⟩ z1).setCell ⟨w.heap.size,2,none⟩ z2).setCell ⟨w.heap.size,3,none⟩ z3).setCell ⟨w.heap.size,4,none⟩ z4).setCell ⟨w.heap.size,5,none⟩ z5).cell? ⟨xb,2,none⟩=some (.int .i64 v2)/\(((((((w.alloc O).setCell ⟨w.heap.size,0,none⟩ z0).setCell ⟨w.heap.size,1,none⟩ z1).setCell ⟨w.heap.size,2,none⟩ z2).setCell ⟨w.heap.size,3,none⟩ z3).setCell ⟨w.heap.size,4,none⟩ z4).setCell ⟨w.heap.size,5,none⟩ z5).cell? ⟨xb,3,none⟩=some (.int .i64 v3)/\(((((((w.alloc O).setCell ⟨w.heap.size,0,none⟩ z0).setCell ⟨w.heap.size,1,none⟩ z1).setCell ⟨w.heap.size,2,none⟩ z2).setCell ⟨w.heap.size,3,none⟩ z3).setCell ⟨w.heap.size,4,none⟩ z4).setCell ⟨w.heap.size,5,none⟩ z5).cell? ⟨xb,4,none⟩=some (.int .i64 v4)/\(((((((w.alloc O).setCell ⟨w.heap.size,0,none⟩ z0).setCell ⟨w.heap.size,1,none⟩ z1).setCell ⟨w.heap.size,2,none⟩ z2).setCell ⟨w.heap.size,3,none⟩ z3).setCell ⟨w.heap.size,4,none⟩ z4).setCell ⟨w.heap.size,5,none⟩ z5).cell? ⟨xb,5,none⟩=some (.int .i64 v5)/\(((((((w.alloc O).setCell ⟨w.heap.size,0,none⟩ z0).setCell ⟨w.heap.size,1,none⟩ z1).setCell ⟨w.heap.size,2,none⟩ z2).setCell ⟨w.heap.size,3,none⟩ z3).setCell ⟨w.heap.size,4,none⟩ z4).setCell ⟨w.heap.size,5,none⟩ z5).cell? ⟨xb,6,none⟩=some (.bool v6)/\(((((((w.alloc O).setCell ⟨w.heap.size,0,none⟩ z0).setCell ⟨w.heap.size,1,none⟩ z1).setCell ⟨w.heap.size,2,none⟩ z2).setCell ⟨w.heap.size,3,none⟩ z3).setCell ⟨w.heap.size,4,none⟩ z4).setCell ⟨w.heap.size,5,none⟩ z5).cell? ⟨xb,7,none⟩=some (.slice a m c))/\(((((((w.alloc O).setCell ⟨w.heap.size,0,none⟩ z0).setCell ⟨w.heap.size,1,none⟩ z1).setCell ⟨w.heap.size,2,none⟩ z2).setCell ⟨w.heap.size,3,none⟩ z3).setCell ⟨w.heap.size,4,none⟩ z4).setCell ⟨w.heap.size,5,none⟩ z5).cell? ⟨sb,4,none⟩=some (.pointer (some ⟨ub,0,none⟩)):=ξ6A ((((((((Ξp _ _).alloc (Ξo _) _).setCell (Ξo _) _).setCell (Ξo _) _).setCell (Ξo _) _).setCell (Ξo _) _).setCell (Ξo _) _).setCell (Ξo _) _) h
theorem ξ6m(h:Zb w g)(z0 z1 z2 z3 z4 z5:Value):((((((w.setCell ⟨g,0,none⟩ z0).setCell ⟨g,1,none⟩ z1).setCell ⟨g,2,none⟩ z2).setCell ⟨g,3,none⟩ z3).setCell ⟨g,4,none⟩ z4).setCell ⟨g,5,none⟩ z5).heap[g]?=some (.cells #[z0,z1,z2,z3,z4,z5] 38 (0,0))/\Only [g] w ((((((w.setCell ⟨g,0,none⟩ z0).setCell ⟨g,1,none⟩ z1).setCell ⟨g,2,none⟩ z2).setCell ⟨g,3,none⟩ z3).setCell ⟨g,4,none⟩ z4).setCell ⟨g,5,none⟩ z5):=by
 refine⟨?_,?_⟩
 ·have k0:=heap_setCell_same w g 0 _ _ z0 h;have k1:=heap_setCell_same _ g 1 _ _ z1 k0;have k2:=heap_setCell_same _ g 2 _ _ z2 k1;have k3:=heap_setCell_same _ g 3 _ _ z3 k2;have k4:=heap_setCell_same _ g 4 _ _ z4 k3;have k5:=heap_setCell_same _ g 5 _ _ z5 k4;exact k5
 ·iterate 6 refine Only.setCell ?_ (by simp) _
  exact Only.refl _ _
theorem ξ3K(h:s.A3s i=true):LM.tkf s.la i.n i.g (ifl i)=0/\ifl i=0:=by
 unfold Sb.A3s LM.tkx at h;simp only[Bool.and_eq_true,decide_eq_true_eq,Bool.not_eq_true']at h;obtain⟨⟨h1,h2⟩,_⟩:=h;exact⟨h1,(LM.ξ6q h1).2.2.2 h2⟩
theorem ξdr(h:UM.Inv 0 s.uk s.uT s.uo)(hk:s.uk<2199023255552):UM.Inv 0 (s.item i).uk (s.item i).uT (s.item i).uo:=by
 unfold Sb.item;split
 ·rename_i ht;obtain⟨_,hf⟩:=ξ3K ht;have ae:0<=i.p.t/\i.p.t<=4294967295:=by
   obtain⟨_,t',_,_,_,e,_,_,_,h1,_⟩:=PM.ξs hf;omega
  exact h.next hk ae.1 ae.2
 ·exact h
theorem ξ7j:∀{s:Sb},UM.Inv 0 s.uk s.uT s.uo->s.uk+I.length<=2199023255551->UM.Inv 0 (I.foldl Sb.item s).uk (I.foldl Sb.item s).uT (I.foldl Sb.item s).uo:=by
 induction I with
 | nil=>intro s h _;exact h
 | cons i I ih=>
   intro s h hk;simp only[List.length_cons]at hk;have e:=(ξ8R [i] s).2.1;simp only[List.foldl_cons,List.foldl_nil,List.length_singleton]at e;exact ih (ξdr h (by omega)) (by omega)
theorem ξ4s(n:Nat)(x:Int)(o:Nat->Tg)(P:SP)(s:Sb)(now:Int)(K:Nat)(w:World)(hn:n≠0)(h:A1q w o P s)(hO:Own o ⟨n,4,x⟩ (ξ6 P))(hI:SbI s)(ht:OM.tf s.on now=0)(hK:Order.A65 10 s.on s.ox now s.oM K)(hk:s.uk+K<=2199023255551)(hg:s.got.length+K<=2199023255551) :
 Calls prog 120 #[.pointer (some ⟨P.s,0,none⟩),.int .i64 now] w λe w'=>e=.returned (.tuple #[])/\∃o' Q,A1q w' o' Q (s.pop now K)/\Q.s=P.s/\Own o' ⟨n,4,x⟩ (ξ6 Q)/\Ext w o o'/\Chg o (λg=>g=⟨n,4,x⟩) w w':=by
 obtain⟨M',eM,hM⟩:=h.ord;have bI:OM.Inv s.on s.ox M':=ξ7b (by rw[eM];exact hI.oi);have bJ:Order.A65 10 s.on s.ox now M' K:=ξf0 (by rw[eM];exact hK);have C0:=Order.ξb4 P.ob P.om 10 s.on s.ox now M' K w hM bI bJ;rw[ht]at C0;obtain⟨I,aW⟩:=nm (OM.takes M' s.ox K);rw[aW]at C0;have bi:I.length=K:=by rw[<-aW];exact OM.ξ5o _ _ _
 obtain⟨s0,aA⟩:=nm (s.popped now K);have aH:s.pop now K=I.foldl Sb.item s0:=by
  unfold Sb.pop;rw[aA,<-eM,ξcx,aW,List.foldl_map];rfl
 rw[aH];have HP:Hid (Calls prog 32 #[.pointer (some ⟨P.ob,0,none⟩),.int .i64 now] w λe w1=>∃av cv,e=.returned (.tuple #[.slice av K cv,.nilIface])/\Hid (PSt w w1 o n x P (.slice av K cv) I s0)):=by
  refine ξ0 (C0.mono ?_);rintro e w1 ⟨av,cv,rfl,q1,q2,q3,q4⟩;refine⟨av,cv,rfl,ξ0 ?_⟩;have he:=ξ3 o w ξ2;have ha:=h.ord' hn hO q3 q4;have bK:∀k∈[P.ob,P.om],k∈ξ6 P:=by intro k hk;simp at hk;rcases hk with e|e<;>simp[ξ6,e]
  have bj:=h.got.own (o':=grow o w ξ2) q4 (λk hk=>by simp;exact⟨(h.sep.gv k hk).2.1,(h.sep.gv k hk).2.2.1⟩) (ξ1g hO hn bK) he;refine⟨grow o w ξ2,P,⟨?_,⟨rfl,rfl,rfl,rfl,rfl⟩,hO.ext he h.lt,he,ξ1C q4 h hO bK,by rw[bi];exact RM.ξv q1 (Nat.zero_le _),q2,λk hk=>ξ1G (q1.lt k hk).1⟩⟩;rw[<-aA];unfold Sb.popped;rw[<-eM,ξey];exact⟨ha.box,ha.ord,ha.lay,ha.out,bj⟩
 have c2:=h.cells.1;have bM:s0.uk+K<=2199023255551:=by rw[<-aA];exact hk
 have bN:s0.got.length+K<=2199023255551:=by rw[<-aA];exact hg
 have aC:UM.Inv 0 s0.uk s0.uT s0.uo:=by rw[<-aA];exact hI.ui
 have HU:=ξ0 aC;have bq:=ξ0 bi;have cy:=ξ0 (And.intro bM bN);have cU:=hK.le;have aI:Hid (∀wr iv,PSt w wr o n x P iv I (I.foldl Sb.item s0)->∃o' Q,A1q wr o' Q (I.foldl Sb.item s0)/\Q.s=P.s/\Own o' ⟨n,4,x⟩ (ξ6 Q)/\Ext w o o'/\Chg o (λg=>g=⟨n,4,x⟩) w wr):=by
  refine ξ0 ?_;rintro wr iv ⟨oj,Q,hq⟩;exact⟨oj,Q,hq.at',hq.same.1,hq.own,hq.ext,hq.chg⟩
 obtain⟨i0,cz,c9,cA,cB⟩:=info_parts A6k;obtain⟨sb,aX⟩:=nm P.s;obtain⟨lb,bO⟩:=nm P.lb;obtain⟨ub,bP⟩:=nm P.ub;rw[aX]at c2 aI;rw[aX];have ai:=ξ0 (And.intro aX (And.intro bO bP));clear h hO hI ht hK hk hg hM bI bJ C0 aW bi aA aH bM bN aC eM aX bO bP;go_enter func120,ntmps120;go_wp2_with fail
 refine HP.out.mono ?_;rintro e w1 ⟨av,cv,rfl,cC⟩;clear HP c2;go_wp2_with fail;go_loopg [25] K (λg y wr=>∃j:Nat,j+g=K/\y=.int .i64 (j:Int)/\Hid (PSt w wr o n x P (.slice av K cv) I ((I.take j).foldl Sb.item s0)))
 case atStart=>exact⟨0,by omega,rfl,cC⟩
 case round=>
  obtain⟨j,cV,rfl,HS⟩:=hrel;by_cases hj:j<K
  ·have cD:(j:Int)<(K:Int):=by omega
   obtain⟨ib,i,a,m,c,rfl,cW,bu,bz,hm,d0,d1,d2,d3,d4,d5,d6,d7⟩:=HS.out.item bq.out hj;obtain⟨sj,aJ⟩:=nm ((I.take j).foldl Sb.item s0);have bQ:=ξ8R (I.take j) s0;have aL:(I.take j).length=j:=by rw[List.length_take,bq.out];omega
   rw[aL,aJ]at bQ;have cE:=cy.out;have b9:UM.Inv 0 sj.uk sj.uT sj.uo:=by rw[<-aJ];exact ξ7j HU.out (by rw[aL];omega)
   have am:sj.uk<2199023255552:=by omega
   have aM:sj.got.length<2199023255551:=by omega
   have aq:i∈I:=List.mem_of_getElem? bu;have bR:Hid ((I.take (j+1)).foldl Sb.item s0=sj.item i):=by rw[ξbO bu,aJ];exact ξ0 rfl
   obtain⟨W1,aY⟩:=nm (wr.alloc (.cells #[.int .i64 i.n,.bool i.g,.int .i64 i.p.s,.int .i64 i.p.t,.int .i64 i.p.l,.int .i64 i.p.q,.bool i.p.st,.slice a m c] 82));have bS:A3a w W1 o n x P (.slice (some ⟨ib,0,none⟩) K cv) I sj wr.heap.size i a m c:=by rw[<-aY,<-aJ];exact HS.out.load
   have hL:=bS.drew;obtain⟨S8,c3,c4⟩:=hL.cells;have CT:=hL.take hn hm;obtain⟨xb,bT⟩:=nm wr.heap.size;rw[ai.out.1,ai.out.2.1]at c3 CT;rw[bT]at S8 CT;have aZ:=And.intro S8 c3;have au:Hid (∀w2,A3a w w2 o n x P (.slice (some ⟨ib,0,none⟩) K cv) I (sj.laid i) xb i a m c->sj.A3s i=true->(I8 w2 xb i a m c/\w2.cell? ⟨sb,4,none⟩=some (.pointer (some ⟨ub,0,none⟩)))/\Calls prog 34 #[.pointer (some ⟨ub,0,none⟩),.agg #[.int .i64 i.p.s,.int .i64 i.p.t,.int .i64 i.p.l,.int .i64 i.p.q,.bool i.p.st,.slice a m c]] w2 λe w'=>∃a' c',e=.returned (.tuple #[.agg #[.int .i64 (sj.A2s i).s,.int .i64 (sj.A2s i).t,.int .i64 i.p.l,.int .i64 i.p.q,.bool i.p.st,.slice a' m c'],.nilIface])/\(I8 w' xb i a m c/\w'.cell? ⟨sb,4,none⟩=some (.pointer (some ⟨ub,0,none⟩)))/\Hid (A54 w w' o n x P (.slice (some ⟨ib,0,none⟩) K cv) I ((sj.laid i).next i) (.slice a' m c') i.p.L)):=by
    refine ξ0 ?_;intro w2 h2 aD;have aw:=h2.cells;rw[ai.out.1,ai.out.2.2]at aw;refine⟨⟨aw.1,aw.2.2⟩,?_⟩;have C:=h2.next hn aq bz (ξ3K aD).2 b9 am;rw[ai.out.2.2,ai.out.1]at C;exact C
   have ax:Hid (∀w2,A3a w w2 o n x P (.slice (some ⟨ib,0,none⟩) K cv) I (sj.laid i) xb i a m c->sj.A3s i=true->xb≠w2.heap.size/\sb≠w2.heap.size/\(I8 (w2.alloc (.cells #[.int .i64 0,.int .i64 0,.int .i64 0,.int .i64 0,.bool false,.slice none 0 0] 38)).drew xb i a m c/\(w2.alloc (.cells #[.int .i64 0,.int .i64 0,.int .i64 0,.int .i64 0,.bool false,.slice none 0 0] 38)).drew.cell? ⟨sb,4,none⟩=some (.pointer (some ⟨ub,0,none⟩)))/\Calls prog 34 #[.pointer (some ⟨ub,0,none⟩),.agg #[.int .i64 i.p.s,.int .i64 i.p.t,.int .i64 i.p.l,.int .i64 i.p.q,.bool i.p.st,.slice a m c]] (w2.alloc (.cells #[.int .i64 0,.int .i64 0,.int .i64 0,.int .i64 0,.bool false,.slice none 0 0] 38)).drew λe w'=>∃a' c',e=.returned (.tuple #[.agg #[.int .i64 (sj.A2s i).s,.int .i64 (sj.A2s i).t,.int .i64 i.p.l,.int .i64 i.p.q,.bool i.p.st,.slice a' m c'],.nilIface])/\(I8 w' xb i a m c/\w'.cell? ⟨sb,4,none⟩=some (.pointer (some ⟨ub,0,none⟩)))/\Zb w' w2.heap.size/\Hid (A76 w w' o n x P (.slice (some ⟨ib,0,none⟩) K cv) I ((sj.laid i).next i) (.slice a' m c') i.p.L w2.heap.size)):=by
    refine ξ0 ?_;intro w2 h2 aD;have aw:=h2.cells;rw[ai.out.1,ai.out.2.2]at aw;have bU:Below w2.heap.size w2 (w2.alloc (.cells #[.int .i64 0,.int .i64 0,.int .i64 0,.int .i64 0,.bool false,.slice none 0 0] 38)).drew:=((Ξp _ _).alloc (Ξo _) _).drew;have bV:Zb (w2.alloc (.cells #[.int .i64 0,.int .i64 0,.int .i64 0,.int .i64 0,.bool false,.slice none 0 0] 38)).drew w2.heap.size:=heap_alloc_new w2 _;obtain⟨oj,Q,hJ,bW,h0,cF⟩:=h2.ahead bU bV;have cG:=Ξq w2 ⟨sb,4,none⟩ aw.2.2;refine⟨cF,by simp only at cG;omega,⟨bW.cells,ξc bU aw.2.2⟩,?_⟩;have C:=A3a.nextJ (w0:=w2) hn hJ bW h0 bV aq bz (ξ3K aD).2 b9 am;rw[ai.out.2.2,ai.out.1]at C;exact C
   have bA:Hid (∀W v,A54 w W o n x P (.slice (some ⟨ib,0,none⟩) K cv) I ((sj.laid i).next i) v i.p.L->Apd w W o n x P (.slice (some ⟨ib,0,none⟩) K cv) I ((sj.laid i).next i) v (sj.A2s i)):=ξ0 (λW v hB=>hB.app hn (sj.A2s i));have aO:Hid (sj.A3s i=true->LM.tkf sj.la i.n i.g (ifl i)=0):=ξ0 (λh=>(ξ3K h).1);have bh:Hid (sj.A3s i=false->sj.item i=sj.laid i):=ξ0 (λh=>by unfold Sb.item;rw[if_neg (by simp[h])]);have bB:Hid (sj.A3s i=true->sj.item i={ (sj.laid i).next i with got:=((sj.laid i).next i).got++[sj.A2s i] }):=ξ0 (λh=>by unfold Sb.item;rw[if_pos h];rfl);have bX:Hid (((sj.laid i).next i).got.length<2199023255551):=ξ0 aM;obtain⟨th,aD⟩:=nm (sj.A3s i);obtain⟨f,hf⟩:=nm (LM.tkf sj.la i.n i.g (ifl i));rw[aD]at CT au ax aO bh bB;rw[hf]at CT aO;obtain⟨v0,aP⟩:=nm i.n;obtain⟨v1,aQ⟩:=nm i.g;obtain⟨v2,aS⟩:=nm i.p.s;obtain⟨v3,aT⟩:=nm i.p.t;obtain⟨v4,aE⟩:=nm i.p.l;obtain⟨v5,aF⟩:=nm i.p.q;obtain⟨v6,aG⟩:=nm i.p.st;obtain⟨u0,aC⟩:=nm ((sj.A2s i).s);obtain⟨u1,bC⟩:=nm ((sj.A2s i).t);have cH:Hid (∀v,pc (sj.A2s i) v=[.int .i64 u0,.int .i64 u1,.int .i64 v4,.int .i64 v5,.bool v6,v]):=ξ0 (λv=>by unfold pc;rw[aC,bC];show[Value.int .i64 u0,.int .i64 u1,.int .i64 i.p.l,.int .i64 i.p.q,.bool i.p.st,v]=_;rw[aE,aF,aG]);unfold I8 at aZ CT au ax;rw[aP,aQ,aS,aT,aE,aF,aG]at aZ CT;rw[aC,bC]at au ax;rw[aP,aQ,aS,aT,aE,aF,aG]at au ax;rw[aP]at d0;rw[aQ]at d1;rw[aS]at d2;rw[aT]at d3;rw[aE]at d4;rw[aF]at d5;rw[aG]at d6;rw[aP,aQ,aS,aT,aE,aF,aG]at aY;have cI:=ξ0 CT;have cJ:=ξ0 aY;clear aJ bQ aL cE b9 am aM aq aY bS hL S8 c3 c4 CT HS bu bz hm aD hf aP aQ aS aT aE aF aG aC bC;go_upto_region 5 with fail
   first|rw[cJ.out]|skip
   clear bT;go_region_held3 (λw'=>(w'.cell? ⟨xb,0,none⟩=some (.int .i64 v0)/\w'.cell? ⟨xb,1,none⟩=some (.bool v1)/\w'.cell? ⟨xb,2,none⟩=some (.int .i64 v2)/\w'.cell? ⟨xb,3,none⟩=some (.int .i64 v3)/\w'.cell? ⟨xb,4,none⟩=some (.int .i64 v4)/\w'.cell? ⟨xb,5,none⟩=some (.int .i64 v5)/\w'.cell? ⟨xb,6,none⟩=some (.bool v6)/\w'.cell? ⟨xb,7,none⟩=some (.slice a m c))/\w'.cell? ⟨sb,3,none⟩=some (.pointer (some ⟨lb,0,none⟩))) (with_reducible assumption) (first|(go_at_call 33;refine cI.out.mono ?_;rintro e w2 ⟨rfl,bY,aU⟩));have q1:=ξq f;have q2:=ξp f;cases th with
   | false=>
     have bZ:Hid (PSt w w2 o n x P (.slice (some ⟨ib,0,none⟩) K cv) I ((I.take (j+1)).foldl Sb.item s0)):=by
      rw[bR.out,bh.out rfl];exact ξ0 aU.out.out
     clear aU bY aZ au ax bA bh bB aO d0 d1 d2 d3 d4 d5 d6 d7;by_cases hf0:f=0
     ·have e0:decide (f=0)=true:=by simpa using hf0
      clear hf0;go_wp2_with fail;go_roundg (K-(j+1))
      case measure=>omega
      case rel=>exact⟨j+1,by omega,by go_num,bZ⟩
     ·have e0:decide (f=0)=false:=by simpa using hf0
      clear hf0;go_wp2_with fail;go_roundg (K-(j+1))
      case measure=>omega
      case rel=>exact⟨j+1,by omega,by go_num,bZ⟩
   | true=>
     have e0:decide (f=0)=true:=by simpa using aO.out rfl
     obtain⟨cL,C3⟩:=au.out w2.drew aU.out.drew rfl;obtain⟨cf,cj,cM,C5⟩:=ax.out w2 aU.out rfl;have cN:=ξ0 C3;have cO:=ξ0 C5;clear aU bY aZ au ax bh aO d0 d1 d2 d3 d4 d5 d6 d7 C3 C5;go_upto_region 7 with fail;go_cut [10,11]from 44 to 66 (λp e wx=>∃g a' c',p=.pointer (some ⟨g,0,none⟩)/\e=.nilIface/\Hid (wx.heap[g]?=some (.cells #[.int .i64 u0,.int .i64 u1,.int .i64 v4,.int .i64 v5,.bool v6,.slice a' m c'] 38 (0,0))/\A54 w wx o n x P (.slice (some ⟨ib,0,none⟩) K cv) I ((sj.laid i).next i) (.slice a' m c') i.p.L))
     case first=>
      go_region_held3 (λw'=>(w'.cell? ⟨xb,0,none⟩=some (.int .i64 v0)/\w'.cell? ⟨xb,1,none⟩=some (.bool v1)/\w'.cell? ⟨xb,2,none⟩=some (.int .i64 v2)/\w'.cell? ⟨xb,3,none⟩=some (.int .i64 v3)/\w'.cell? ⟨xb,4,none⟩=some (.int .i64 v4)/\w'.cell? ⟨xb,5,none⟩=some (.int .i64 v5)/\w'.cell? ⟨xb,6,none⟩=some (.bool v6)/\w'.cell? ⟨xb,7,none⟩=some (.slice a m c))/\w'.cell? ⟨sb,4,none⟩=some (.pointer (some ⟨ub,0,none⟩))) (first|with_reducible assumption|with_reducible exact ξaO _ _ _ _ _ _ _ (by with_reducible assumption)|with_reducible exact ξcI cf cj _ _ _ _ _ _ (by with_reducible assumption)|with_reducible exact ξcJ _ (by with_reducible assumption)) (first|(go_at_call 34;with_reducible refine cN.out.mono ?_;rintro e w3 ⟨a3,bD,rfl,cP,bE⟩)|(go_at_call 34;with_reducible refine cO.out.mono ?_;rintro e w3 ⟨a3,bD,rfl,cP,bF,bE⟩;obtain⟨z0,z1,z2,z3,z4,z5,f0,f1,f2,f3,f4,f5⟩:=bF.cells))
      ·go_wp2_with fail
       go_meet;exact⟨w3.heap.size,a3,bD,rfl,rfl,ξ0 ⟨heap_alloc_new w3 _,bE.out.below ((Ξp _ _).alloc (Ξo _) _)⟩⟩
      ·go_wp2_with fail
       go_meet;exact⟨w2.heap.size,a3,bD,rfl,rfl,ξ0 ⟨(ξ6m bF _ _ _ _ _ _).1,bE.out.write hn (ξ6m bF _ _ _ _ _ _).2⟩⟩
     case rest=>
      obtain⟨g,a',c',rfl,rfl,HB⟩:=hcut;obtain⟨gv,xs,cg,fg,⟨ga,gc,rfl⟩,ay,ae⟩:=bA.out wc _ HB.out.2;have az:=HB.out.1;rw[ai.out.1]at cg fg ae;rw[cH.out]at ae;have y0:wc.cell? ⟨g,0,none⟩=some (.int .i64 u0):=by simp[World.cell?,az]
      have y1:wc.cell? ⟨g,1,none⟩=some (.int .i64 u1):=by simp[World.cell?,az]
      have y2:wc.cell? ⟨g,2,none⟩=some (.int .i64 v4):=by simp[World.cell?,az]
      have y3:wc.cell? ⟨g,3,none⟩=some (.int .i64 v5):=by simp[World.cell?,az]
      have y4:wc.cell? ⟨g,4,none⟩=some (.bool v6):=by simp[World.cell?,az]
      have y5:wc.cell? ⟨g,5,none⟩=some (.slice a' m c'):=by simp[World.cell?,az]
      obtain⟨gl,cu⟩:=nm (((sj.laid i).next i).got.length);rw[cu]at cg ay ae bX;have cQ:=bX.out;have HR:=ξ0 ay;have bG:=ξ0 ae;have cX:(wc.alloc (.cells #[.int .i64 u0,.int .i64 u1,.int .i64 v4,.int .i64 v5,.bool v6,.slice a' m c'] 38)).cell? ⟨sb,5,none⟩=some (.slice ga gl gc):=ξc ((Ξp _ _).alloc (Ξo _) _) cg;clear bA ay ae az cu cf cj cL cM;go_upto_region 9 with fail
      go_region_law (refine step_append_lies _ (by rfl) _ _ _ (by rfl) 0 38 i0 _ 6 64 underlying33 cz c9 cA cB rfl (by omega) _ gl xs (by rfl) ((HR.out.alloc _).drew) ⟨wc.heap.size,0,none⟩ 1 1 [.int .i64 u0,.int .i64 u1,.int .i64 v4,.int .i64 v5,.bool v6,.slice a' m c'] (by rfl) (by rfl) (World.news_of_block (cs:=#[.int .i64 u0,.int .i64 u1,.int .i64 v4,.int .i64 v5,.bool v6,.slice a' m c']) (t:=38) (fr:=(0,0)) (heap_alloc_new wc _)) (by simp[Value.oneCell']) (by omega) (by unfold maxLen;omega) (by omega) (Nat.zero_le _) (wc.heap.size+1) (by simp) ?_;intro gg c6 w6 aV aj cw aL;obtain⟨e5,f5,ah⟩:=bG.out gg c6 w6 aV aj cw;have HF:=ξ0 ah;clear aV aj cw aL ah)
      all_goals
       obtain⟨w7,bH⟩:=nm (w6.setCell ⟨sb,5,none⟩ (.slice (some ⟨gg,0,none⟩) (gl+1) c6));have cT:Hid (PSt w w7 o n x P (.slice (some ⟨ib,0,none⟩) K cv) I ((I.take (j+1)).foldl Sb.item s0)):=by
        rw[bR.out,bB.out rfl,<-bH];exact ξ0 HF.out
       rw[bH];clear bH HF e5 f5;go_wp2_with fail;go_roundg (K-(j+1))
       case measure=>omega
       case rel=>exact⟨j+1,by omega,by go_num,cT⟩
  ·have cD:¬(j:Int)<(K:Int):=by omega
   obtain rfl:j=K:=by omega
   have ah:=HS.out;rw[Ξl (by rw[bq.out];exact Ξo _)]at ah;have HF:=ξ0 (aI.out wr _ ah);clear ah HS;go_wp2_with fail
   go_end0
   exact⟨rfl,HF.out⟩
def SbS(w w':World)(o:Nat->Tg)(n:Nat)(x:Int)(P:SP)(s:Sb):Prop:=∃o' Q,A1q w' o' Q s/\Q.s=P.s/\Own o' ⟨n,4,x⟩ (ξ6 Q)/\Ext w o o'/\Chg o (λg=>g=⟨n,4,x⟩) w w'
theorem ξ9k(h:SbI s):SbI (s.pushed y now p):=⟨OM.ξ7c h.oi _ _,h.ui⟩
theorem ξ5A(h:OM.tf s.on now=0):OM.tf (s.pushed y now p).on now=0:=by
 obtain⟨h1,h2,h3⟩:=OM.ξG h;show OM.tf (OM.pW s.on s.ox y now _) now=0;unfold OM.pW;split
 ·exact OM.ξgl h1 h2 (by omega)
 ·exact h
theorem ξ7D(n:Nat)(x:Int)(o:Nat->Tg)(P:SP)(s:Sb)(y now ps pt pl pq:Int)(pst:Bool)(a:Option Addr)(m cap:Nat)(L:List Nat)(K:Nat)(w:World)(hn:n≠0)(h:A1q w o P s)(hO:Own o ⟨n,4,x⟩ (ξ6 P))(hI:SbI s)(hA:Arg w a m L)(hno:a=none->m=0/\cap=0)(ht:OM.tf s.on now=0)(hK:Order.A65 10 (s.pushed y now ⟨ps,pt,pl,pq,pst,L⟩).on (s.pushed y now ⟨ps,pt,pl,pq,pst,L⟩).ox now (s.pushed y now ⟨ps,pt,pl,pq,pst,L⟩).oM K)(hk:s.uk+K<=2199023255551)(hg:s.got.length+K<=2199023255551) :
 Calls prog 126 #[.pointer (some ⟨P.s,0,none⟩),.int .i64 y,.agg #[.int .i64 ps,.int .i64 pt,.int .i64 pl,.int .i64 pq,.bool pst,.slice a m cap],.int .i64 now] w λe w'=>e=.returned (.tuple #[])/\SbS w w' o n x P ((s.pushed y now ⟨ps,pt,pl,pq,pst,L⟩).pop now K):=by
 obtain⟨W0,am⟩:=nm (w.alloc (.cells #[.int .i64 ps,.int .i64 pt,.int .i64 pl,.int .i64 pq,.bool pst,.slice a m cap] 38));have ah:Below w.heap.size w W0.drew:=by rw[<-am];exact((Ξp _ _).alloc (Ξo _) _).drew
 have au:W0.heap[w.heap.size]?=some (.cells #[.int .i64 ps,.int .i64 pt,.int .i64 pl,.int .i64 pq,.bool pst,.slice a m cap] 38 (0,0)):=by rw[<-am];exact heap_alloc_new w _
 obtain⟨o0,ay⟩:=nm (grow o w ξ2);have ai:Ext w o o0:=by rw[<-ay];exact ξ3 o w ξ2
 have aj:A1q W0.drew o0 P s:=h.below ah ai;have aq:Own o0 ⟨n,4,x⟩ (ξ6 P):=hO.ext ai h.lt;obtain⟨M',eM,hM⟩:=aj.ord;have az:OM.Inv s.on s.ox M':=ξ7b (by rw[eM];exact hI.oi);have hm:=hA.2.1;obtain⟨R,ae⟩:=nm ((s.pushed y now ⟨ps,pt,pl,pq,pst,L⟩).pop now K);rw[ae];have aw:∀k∈[P.ob,P.om],k∈ξ6 P:=by intro k hk;simp at hk;rcases hk with e|e<;>simp[ξ6,e]
 have HC:Hid (Calls prog 28 #[.pointer (some ⟨P.ob,0,none⟩),.int .i64 y,.agg #[.int .i64 ps,.int .i64 pt,.int .i64 pl,.int .i64 pq,.bool pst,.slice a m cap],.int .i64 now] W0.drew λe w1=>∃b f,e=.returned (.tuple #[.bool b,A0a f])/\(w1.cell? ⟨w.heap.size,0,none⟩=some (.int .i64 ps)/\w1.cell? ⟨w.heap.size,1,none⟩=some (.int .i64 pt)/\w1.cell? ⟨w.heap.size,2,none⟩=some (.int .i64 pl)/\w1.cell? ⟨w.heap.size,3,none⟩=some (.int .i64 pq)/\w1.cell? ⟨w.heap.size,4,none⟩=some (.bool pst)/\w1.cell? ⟨w.heap.size,5,none⟩=some (.slice a m cap)/\w1.cell? ⟨P.s,2,none⟩=some (.pointer (some ⟨P.ob,0,none⟩)))/\Hid (Calls prog 120 #[.pointer (some ⟨P.s,0,none⟩),.int .i64 now] w1 λe w'=>e=.returned (.tuple #[])/\Hid (SbS w w' o n x P R))):=by
  refine ξ0 ((Order.ξ9m P.ob P.om 10 s.on s.ox y now ps pt pl pq pst a m cap L M' W0.drew hM az (hA.below ah) hno).mono ?_);rintro e w1 ⟨rfl,bv,q1,q2⟩;have ha:=aj.ord' hn aq q1 q2;have hs:({ s with on:=OM.pW s.on s.ox y now (PM.fault ps pt pl pq m),ox:=OM.pX s.on s.ox y now (PM.fault ps pt pl pq m),oM:=(OM.pM s.on s.ox y now M' (PM.fault ps pt pl pq m) ⟨ps,pt,pl,pq,pst,L,bv⟩).map sk }:Sb)=s.pushed y now ⟨ps,pt,pl,pq,pst,L⟩:=by
   unfold Sb.pushed;rw[ξgr,eM,<-hm]
  rw[hs]at ha;have aE:w1.heap[w.heap.size]?=some (.cells #[.int .i64 ps,.int .i64 pt,.int .i64 pl,.int .i64 pq,.bool pst,.slice a m cap] 38 (0,0)):=q2.block (show W0.drew.heap[w.heap.size]?=_ from au) (λhk=>by have:=h.lt _ (aw _ hk);omega);refine⟨_,_,rfl,⟨?_,?_,?_,?_,?_,?_,ha.cells.1⟩,ξ0 ?_⟩
  any_goals (simp[World.cell?,aE];done)
  refine(ξ4s n x o0 P _ now K w1 hn ha aq (ξ9k hI) (ξ5A ht) hK hk hg).mono ?_;rintro e w' ⟨rfl,o',Q,r1,r2,r3,r4,r5⟩;rw[ae]at r1;have aF:Chg o0 (λg=>g=⟨n,4,x⟩) W0.drew w1:=ξ1C q2 aj aq aw;have aG:W0.drew.heap.size<=w1.heap.size:=q2.2.2.2.1;exact⟨rfl,ξ0 ⟨o',Q,r1,r2,r3,λk hk=>by rw[r4 k (by have:=ah.size;omega)];exact ai k hk,(Chg.of_below ah _ _).trans (aF.trans' r5) ai⟩⟩
 have aA:W0.drew.cell? ⟨w.heap.size,0,none⟩=some (.int .i64 ps)/\W0.drew.cell? ⟨w.heap.size,1,none⟩=some (.int .i64 pt)/\W0.drew.cell? ⟨w.heap.size,2,none⟩=some (.int .i64 pl)/\W0.drew.cell? ⟨w.heap.size,3,none⟩=some (.int .i64 pq)/\W0.drew.cell? ⟨w.heap.size,4,none⟩=some (.bool pst)/\W0.drew.cell? ⟨w.heap.size,5,none⟩=some (.slice a m cap)/\W0.drew.cell? ⟨P.s,2,none⟩=some (.pointer (some ⟨P.ob,0,none⟩)):=by
  refine⟨?_,?_,?_,?_,?_,?_,aj.cells.1⟩
  any_goals (show W0.cell? _=_;simp[World.cell?,au];done)
 have HW:=ξ0 am;obtain⟨pb,aC⟩:=nm w.heap.size;rw[aC]at HC aA;obtain⟨sb,ax⟩:=nm P.s;obtain⟨ob,aD⟩:=nm P.ob;rw[ax,aD]at HC aA;rw[ax];clear hn h hO hI hA hno ht hK hk hg am ah au ay ai aj aq eM hM az hm ae aw ax aD;go_enter func126,ntmps126;go_upto_region 1 with fail
 rw[HW.out];clear aC;go_region_held3 (λw'=>w'.cell? ⟨pb,0,none⟩=some (.int .i64 ps)/\w'.cell? ⟨pb,1,none⟩=some (.int .i64 pt)/\w'.cell? ⟨pb,2,none⟩=some (.int .i64 pl)/\w'.cell? ⟨pb,3,none⟩=some (.int .i64 pq)/\w'.cell? ⟨pb,4,none⟩=some (.bool pst)/\w'.cell? ⟨pb,5,none⟩=some (.slice a m cap)/\w'.cell? ⟨sb,2,none⟩=some (.pointer (some ⟨ob,0,none⟩))) (with_reducible assumption) (first|(go_at_call 28;with_reducible refine HC.out.mono ?_;rintro e w1 ⟨b1,f1,rfl,aH,HP⟩));go_wp2_with fail
 refine HP.out.mono ?_;rintro e w2 ⟨rfl,HD⟩;go_wp2_with fail
 go_end0
 exact⟨rfl,HD.out⟩
end Go.Proofs.YtpiamlgmadnepaaGreat.ND
