/-
 What the proof needs.
-/
import Derived.Test.YtpiamlgmadnepaaGreatNodeOP
import Derived.Test.YtpiamlgmadnepaaGreatGapsAll
import Derived.Test.YtpiamlgmadnepaaGreatRingAll
import Derived.Test.YtpiamlgmadnepaaGreatOrderAll
import Derived.Test.YtpiamlgmadnepaaGreatLayerAP
import Derived.Test.YtpiamlgmadnepaaGreatOutAP
import Derived.Test.YtpiamlgmadnepaaGreatPullAll
open Go.Proofs.Tryz
set_option linter.unusedVariables false
namespace Go.Proofs.YtpiamlgmadnepaaGreat.ND
open ChangeShapes WideShapes ChangeAt RowKit Maps Mem NO
variable {w w':World}{k b n base e s:Nat}{bs:List Nat}{a:Option Addr}{L X:List Int}{o o':Nat->Tg}{S:Tg->Prop}{g:Tg}{v gv lv:Value}{xs:List Value}
structure Pk where
 s:Int
 t:Int
 l:Int
 q:Int
 st:Bool
 L:List Nat
variable {G:List Pk}
structure Tr where
 tk:Int
 ep:Int
 pa:Int
 kids:List Int
 gn:Int
 gT:Int
 gM:GM.Its
 gG:List Int
 rT:Int
 rM:RM.Its
 wy:Int->Int×Int
variable {t:Tr}
structure TP where
 p:Nat
 ka:Option Addr
 kc:Nat
 g:Nat
 gm:Nat
 gv:Value
 r:Nat
 rm:Nat
 wm:Nat
structure Sb where
 tk:Int
 mo:Int
 on:Int
 ox:Int
 oM:OM.Its
 ln:Int
 la:Int
 br:Bool
 uk:Nat
 uT:Int
 uy:Int
 uo:Int
 got:List Pk
structure SP where
 s:Nat
 ob:Nat
 om:Nat
 lb:Nat
 ub:Nat
 gv:Value
structure Nd where
 nw:Int
 id:Int
 tr:Nat->Option Tr
 sb:List (Int×Sb)
 ls:Int
 pn:Int
 ak:Nat->Int
 pL:PU.Wts
 lt:List (Int×List Nat)
variable {N:Nd}
structure NP where
 tp:Nat->TP
 sm:Nat
 sp:Int->SP
 pb:Nat
 pm:Nat->Nat
 lv:Value
variable {P:NP}
def A0a(e:Nat):Value:=if e=0 then .nilIface else .iface 101 (.int .i64 (e:Int))
def wv(x:Int×Int):Value:=.agg #[.int .i64 x.1,.int .i64 x.2]
def A3l(D:DataW Value)(M:RM.Its)(f:Int->Int×Int):Prop:=∀i∈M,∀zd,D.atKey (RM.key i.1) zd=.held (wv (f i.1))
def A3u(a:Option Addr)(K:List Int):List Nat:=if K.length=0 then[]else(a.map (·.block)).toList
structure A1h(w:World)(P:TP)(t:Tr):Prop where
 box:w.heap[P.p]?=some (.cells #[.int .i64 t.tk,.int .i64 t.ep,.int .i64 t.pa,.slice P.ka t.kids.length P.kc,.pointer (some ⟨P.g,0,none⟩),.pointer (some ⟨P.r,0,none⟩),.map (some P.wm)] 174 (0,0))
 kid:Gaps.A0b w P.ka t.kids.length t.kids
 kno:P.ka=none->t.kids.length=0/\P.kc=0
 gap:Gaps.ξ7 w P.g P.gm 3 3 t.gn t.gT t.gM P.gv t.gG
 rng:Ring.RingAt w P.r P.rm 64 t.rT t.rM
 way:∃D,w.ownsMap prog 3 GM.akR P.wm t.rM.length D/\RM.Keys D t.rM/\A3l D t.rM t.wy
 ap:P.gm≠P.rm/\P.gm≠P.wm/\P.rm≠P.wm
 kap:∀k∈A3u P.ka t.kids,k≠P.p/\k≠P.wm/\k≠P.r/\k≠P.rm/\k∉Gaps.A01 P.g P.gm P.gv
def A0x(P:TP)(t:Tr):List Nat:=P.p::P.wm::P.r::P.rm::(Gaps.A01 P.g P.gm P.gv++A3u P.ka t.kids)
theorem ξP{R:Value->Option (DataW Value×List MemPlace)}{D:DataW Value}(h:w.ownsMap prog k R b n D)(ho:Only bs w w')(hb:b∉bs):w'.ownsMap prog k R b n D:=by
 obtain⟨es,ae,hh,F,hs,rfl⟩:=h;exact⟨es,ae,ho.block hh hb,F,hs,rfl⟩
theorem ξ1F(h:Gaps.A0b w a L.length L)(ho:Only bs w w')(hb:∀k∈A3u a L,k∉bs):Gaps.A0b w' a L.length L:=by
 refine⟨λj hj=>?_,h.2⟩;obtain⟨b,o,e,hc⟩:=h.1 j hj;have hn:b∉bs:=hb b (by unfold A3u;rw[if_neg (by omega),e];simp);exact⟨b,o,e,(ξr (ho.2.2.2.2 b (Ξq w ⟨b,o+j,none⟩ hc) hn) _).trans hc⟩
theorem ξ3M(h:Gaps.A0b w a L.length L):∀k∈A3u a L,k<w.heap.size:=by
 intro k hk;unfold A3u at hk;split at hk
 ·simp at hk
 ·obtain⟨b,o,e,hc⟩:=h.1 0 (by omega);rw[e]at hk;simp at hk;rw[hk];exact Ξq w ⟨b,o+0,none⟩ hc
theorem A1h.only{P:TP}(h:A1h w P t)(ho:Only bs w w')(hn:Nob w bs)(hb:∀k∈A0x P t,k∉bs):A1h w' P t:=by
 have m:∀k,k∈A0x P t->k∉bs:=hb;refine⟨ho.block h.box (m _ (by simp[A0x])),ξ1F h.kid ho (λk hk=>m k (by simp[A0x,hk])),h.kno,h.gap.only ho (λk hk=>m k (by simp[A0x,hk])),h.rng.only ho (m _ (by simp[A0x])) (m _ (by simp[A0x])) hn.old,?_,h.ap,h.kap⟩;obtain⟨D,h1,h2,h3⟩:=h.way;exact⟨D,ξP h1 ho (m _ (by simp[A0x])),h2,h3⟩
theorem A1h.lt{P:TP}(h:A1h w P t):∀k∈A0x P t,k<w.heap.size:=by
 intro k hk;simp only[A0x,Ξf,Ξe]at hk;obtain⟨D,h1,_,_⟩:=h.way;rcases hk with rfl|rfl|rfl|rfl|hk|hk
 ·exact lt_of_block h.box
 ·exact h1.lt
 ·exact h.rng.lt.1
 ·exact h.rng.lt.2
 ·exact h.gap.lt k hk
 ·exact ξ3M h.kid k hk
theorem A1h.chg{P:TP}(h:A1h w P t)(hc:Chg o S w w')(ho:Own o g (A0x P t))(hs:¬S g):A1h w' P t:=by
 obtain⟨bs,h1,h2,h3⟩:=hc;exact h.only h1 h3 (λk hk hb=>hs (by rw[<-ho k hk];exact h2 k hb))
def ξo(w:World)(o:Nat->Tg)(v:Value)(L:List Nat):Prop:=∃a m c,v=.slice a m c/\Arg w a m L/\(0<m->∀ad,a=some ad->(o ad.block).n=0)
theorem ξo.chg{L:List Nat}(h:ξo w o v L)(hc:Chg o S w w')(hs:∀g,S g->g.n≠0)(he:Ext w o o'):ξo w' o' v L:=by
 obtain⟨a,m,c,rfl,hA,hF⟩:=h;refine⟨a,m,c,rfl,hc.arg hA (λh0 ad e hS=>hs _ hS (hF h0 ad e)),?_⟩;intro h0 ad e;have:=hF h0 ad e;obtain⟨b',o1,e',ae⟩:=hA.1.2 0 (by have:=hA.2.1;omega);have hl:=Ξq w ⟨b',o1+0,none⟩ ae;rw[e]at e';cases e';rw[he _ hl];exact this
def pc(p:Pk)(v:Value):List Value:=[.int .i64 p.s,.int .i64 p.t,.int .i64 p.l,.int .i64 p.q,.bool p.st,v]
def ξO(w:World)(o:Nat->Tg)(gv:Value)(G:List Pk):Prop:=
 ∃X:List (Pk×Value),X.map Prod.fst=G/\w.ownsRow 0 38 6 gv X.length (X.flatMap λx=>pc x.1 x.2)/\∀x∈X,ξo w o x.2 x.1.L
def Cap(v:Value):Prop:=∀a m c,v=.slice a m c->m<=c/\m<=2000
def ξN(w:World)(o:Nat->Tg)(lv:Value)(G:List (Int×List Nat)):Prop:=
 ∃X:List ((Int×List Nat)×Value),X.map Prod.fst=G/\w.ownsRow 0 165 2 lv X.length (X.flatMap λx=>[.int .i64 x.1.1,x.2])/\∀x∈X,ξo w o x.2 x.1.2/\Cap x.2
theorem ξB{g:Nat}(h:w.ownsRow base e s v n xs)(hg:v.ownBlock=some g):g<w.heap.size:=by
 rcases h.2 with⟨rfl,_⟩|⟨g',cap,cur,rfl,_,hb,_⟩
 ·simp[Value.ownBlock]at hg
 ·simp[Value.ownBlock]at hg;subst hg;exact lt_of_block hb
theorem ξK(h:w.ownsRow base e s v n xs)(hc:Chg o S w w')(ho:Own o g v.ownBlock.toList)(hs:¬S g):w'.ownsRow base e s v n xs:=by
 obtain⟨bs,h1,h2,h3⟩:=hc;refine h1.owns h (λk hk hb=>hs ?_);rw[<-ho k (by simp[hk])];exact h2 k hb
theorem ξO.chg(h:ξO w o gv G)(hc:Chg o S w w')(ho:Own o g gv.ownBlock.toList)(hs:¬S g)(h0:∀g,S g->g.n≠0)(he:Ext w o o'):ξO w' o' gv G:=by
 obtain⟨X,h1,h2,h3⟩:=h;exact⟨X,h1,ξK h2 hc ho hs,λx hx=>(h3 x hx).chg hc h0 he⟩
theorem ξN.chg{G:List (Int×List Nat)}(h:ξN w o lv G)(hc:Chg o S w w')(ho:Own o g lv.ownBlock.toList)(hs:¬S g)(h0:∀g,S g->g.n≠0)(he:Ext w o o'):ξN w' o' lv G:=by
 obtain⟨X,h1,h2,h3⟩:=h;exact⟨X,h1,ξK h2 hc ho hs,λx hx=>⟨(h3 x hx).1.chg hc h0 he,(h3 x hx).2⟩⟩
theorem ξO.lt(h:ξO w o gv G):∀k∈gv.ownBlock.toList,k<w.heap.size:=by
 obtain⟨X,_,h2,_⟩:=h;intro k hk;exact ξB h2 (by simpa using hk)
theorem ξN.lt{G:List (Int×List Nat)}(h:ξN w o lv G):∀k∈lv.ownBlock.toList,k<w.heap.size:=by
 obtain⟨X,_,h2,_⟩:=h;intro k hk;exact ξB h2 (by simpa using hk)
theorem ξO.nil(w:World)(o:Nat->Tg):ξO w o (.slice none 0 0) []:=⟨[],rfl,Ξr _ _ _ _,by simp⟩
theorem ξN.nil(w:World)(o:Nat->Tg):ξN w o (.slice none 0 0) []:=⟨[],rfl,Ξr _ _ _ _,by simp⟩
def sk(i:OM.Kp):OM.Kp:=⟨i.n,i.g,⟨i.p.s,i.p.t,i.p.l,i.p.q,i.p.st,i.p.L,.slice none 0 0⟩,i.a⟩
def OrdAt(w:World)(b mb:Nat)(nw nx:Int)(M:OM.Its):Prop:=∃M',M'.map sk=M/\Order.ξ1 w b mb 10 nw nx M'
structure A1q(w:World)(o:Nat->Tg)(P:SP)(s:Sb):Prop where
 box:w.heap[P.s]?=some (.cells #[.int .i64 s.tk,.int .i64 s.mo,.pointer (some ⟨P.ob,0,none⟩),.pointer (some ⟨P.lb,0,none⟩),.pointer (some ⟨P.ub,0,none⟩),P.gv] 162 (0,0))
 ord:OrdAt w P.ob P.om s.on s.ox s.oM
 lay:Layer.ξ5 w P.lb s.mo s.ln s.la s.br
 out:Out.A0p w P.ub 0 s.uk s.uT s.uy s.uo
 got:ξO w o P.gv s.got
def ξ6(P:SP):List Nat:=P.s::P.ob::P.om::P.lb::P.ub::P.gv.ownBlock.toList
theorem A1q.lt{P:SP}{s:Sb}(h:A1q w o P s):∀k∈ξ6 P,k<w.heap.size:=by
 intro k hk;simp only[ξ6,Ξf]at hk;obtain⟨M',_,h1⟩:=h.ord;rcases hk with rfl|rfl|rfl|rfl|rfl|hk
 ·exact lt_of_block h.box
 ·exact h1.lt.1
 ·exact h1.lt.2
 ·exact h.lay.lt
 ·exact lt_of_block h.out
 ·exact h.got.lt k hk
theorem A1q.chg{P:SP}{s:Sb}(h:A1q w o P s)(hc:Chg o S w w')(ho:Own o g (ξ6 P))(hs:¬S g)(h0:∀g,S g->g.n≠0)(he:Ext w o o'):A1q w' o' P s:=by
 have ae:=h.got.chg hc (λk hk=>ho k (by simp only[ξ6,Ξf];simp[hk])) hs h0 he;obtain⟨bs,h1,h2,h3⟩:=hc;have m:∀k,k∈ξ6 P->k∉bs:=λk hk hb=>hs (by rw[<-ho k hk];exact h2 k hb);obtain⟨M',e,h4⟩:=h.ord;exact⟨h1.block h.box (m _ (by simp[ξ6])),⟨M',e,h4.only h1 (m _ (by simp[ξ6])) (m _ (by simp[ξ6])) h3.old⟩,h.lay.only h1 (m _ (by simp[ξ6])),h.out.only h1 (m _ (by simp[ξ6])),ae⟩
def ptR:Value->Option (DataW Value×List MemPlace)
 | .pointer a=>some (.held (.pointer a),[])
 | _=>none
theorem ξ6M(a:Option Addr):ptR (.pointer a)=some (.held (.pointer a),[]):=rfl
theorem ξ8q{y:DataW Value×List MemPlace}(h:ptR v=some y):y=(.held v,[]):=by
 unfold ptR at h;split at h
 ·exact(Option.some.inj h).symm
 ·cases h
def lk(x:Int):GM.Lk:=⟨x,0,0⟩
structure SM(D:DataW Value)(X:List Int)(g:Int->Nat):Prop where
 keys:GM.Keys D (X.map lk)
 elems:∀x∈X,∀zd,D.atKey (GM.key x) zd=.held (.pointer (some ⟨g x,0,none⟩))
theorem SM.nil(g:Int->Nat):SM (.map []) [] g:=⟨GM.ξ1b,by simp⟩
theorem SM.ext{D:DataW Value}{g g':Int->Nat}(h:SM D X g)(e:∀x∈X,g x=g' x):SM D X g':=⟨h.keys,λx hx zd=>by rw[<-e x hx];exact h.elems x hx zd⟩
theorem SM.put{D:DataW Value}{g:Int->Nat}{x:Int}(hD:IsMap D)(h:SM D X g)(hx:x∉X)(b:Nat):SM (D.put (GM.key x) (.held (.pointer (some ⟨b,0,none⟩)))) (X++[x]) (λy=>if y=x then b else g y):=by
 refine⟨?_,?_⟩
 ·have:=GM.ξ1z hD h.keys (lk x) (.held (.pointer (some ⟨b,0,none⟩)));simpa[lk]using this
 ·intro y hy zd;rcases Ξe.1 hy with hy|hy
  ·have ae:y≠x:=λe=>hx (e ▸ hy);rw[atKey_put_other (λe=>ae (GM.key_inj e)),h.elems y hy,if_neg ae]
  ·simp only[Ξg]at hy;subst hy;rw[if_pos rfl];exact atKey_put_same hD (GM.A14 y) _ _
def tpv(t:Option Tr)(P:TP):Value:=match t with
 | none=>.pointer none
 | some _=>.pointer (some ⟨P.p,0,none⟩)
structure A12(cs:Array Value)(P:NP)(N:Nd):Prop where
 sz:cs.size=14
 c0:cs[0]?=some (.int .i64 N.nw)
 c1:cs[1]?=some (.int .i64 N.id)
 ct:∀i,i<8->cs[2+i]?=some (tpv (N.tr i) (P.tp i))
 c10:cs[10]?=some (.map (some P.sm))
 c11:cs[11]?=some (.int .i64 N.ls)
 c12:cs[12]?=some (.pointer (some ⟨P.pb,0,none⟩))
 c13:cs[13]?=some P.lv
def ids(l:List (Int×Sb)):List Int:=l.map Prod.fst
structure NAt(w:World)(o:Nat->Tg)(n b:Nat)(P:NP)(N:Nd):Prop where
 box:∃cs,w.heap[b]?=some (.cells cs 157 (0,0))/\A12 cs P N
 tag:o b=⟨n,0,0⟩
 trs:∀i,i<8->∀t,N.tr i=some t->A1h w (P.tp i) t/\Own o ⟨n,3,i⟩ (A0x (P.tp i) t)
 sbm:∃D,w.ownsMap prog 3 ptR P.sm N.sb.length D/\SM D (ids N.sb) λx=>(P.sp x).s
 smt:o P.sm=⟨n,0,1⟩
 sbs:∀x∈N.sb,A1q w o (P.sp x.1) x.2/\Own o ⟨n,4,x.1⟩ (ξ6 (P.sp x.1))
 pul:Pull.ξ8 w P.pb P.pm 10 N.pn (λ_=>-1) N.ak N.pL
 put:Own o ⟨n,2,0⟩ (Pull.A2m P.pb P.pm)
 ltr:ξN w o P.lv N.lt
 ltt:Own o ⟨n,1,0⟩ P.lv.ownBlock.toList
theorem ξ6L{mb:Nat->Nat}{th nw:Int}{td ak:Nat->Int}{L:PU.Wts}(h:Pull.ξ8 w b mb th nw td ak L)(hc:Chg o S w w')(ho:Own o g (Pull.A2m b mb))(hs:¬S g):Pull.ξ8 w' b mb th nw td ak L:=by
 obtain⟨bs,h1,h2,h3⟩:=hc;exact h.only h1 (λk hk hb=>hs (by rw[<-ho k hk];exact h2 k hb))
theorem ξ8E{R:Value->Option (DataW Value×List MemPlace)}{D:DataW Value}(h:w.ownsMap prog k R b n D)(hc:Chg o S w w')(hs:¬S (o b)):w'.ownsMap prog k R b n D:=by
 obtain⟨bs,h1,h2,h3⟩:=hc;exact ξP h h1 (λhb=>hs (h2 b hb))
theorem NAt.cells(h:NAt w o n b P N):w.cell? ⟨b,0,none⟩=some (.int .i64 N.nw)/\w.cell? ⟨b,1,none⟩=some (.int .i64 N.id)/\w.cell? ⟨b,10,none⟩=some (.map (some P.sm))/\w.cell? ⟨b,11,none⟩=some (.int .i64 N.ls)/\w.cell? ⟨b,12,none⟩=some (.pointer (some ⟨P.pb,0,none⟩))/\w.cell? ⟨b,13,none⟩=some P.lv:=by
 obtain⟨cs,h1,h2⟩:=h.box;simp[World.cell?,h1,h2.c0,h2.c1,h2.c10,h2.c11,h2.c12,h2.c13]
theorem NAt.A2l(h:NAt w o n b P N){i:Nat}(hi:i<8):w.cell? ⟨b,2+i,none⟩=some (tpv (N.tr i) (P.tp i)):=by
 obtain⟨cs,h1,h2⟩:=h.box;simp[World.cell?,h1,h2.ct i hi]
theorem NAt.free(h:NAt w o n b P N)(j:Nat):w.frozen? ⟨b,j,none⟩=false:=by
 obtain⟨cs,h1,h2⟩:=h.box;simp[World.frozen?,h1]
theorem NAt.lt(h:NAt w o n b P N):b<w.heap.size:=by
 obtain⟨cs,h1,h2⟩:=h.box;exact lt_of_block h1
theorem NAt.chg(h:NAt w o n b P N)(hc:Chg o S w w')(hs:∀g,S g->g.n≠0/\g.n≠n)(he:Ext w o o'):NAt w' o' n b P N:=by
 have h0:∀g,S g->g.n≠0:=λg hg=>(hs g hg).1;have no:∀c j,¬S ⟨n,c,j⟩:=λc j hg=>(hs _ hg).2 rfl;obtain⟨cs,h1,h2⟩:=h.box;obtain⟨D,h3,h4⟩:=h.sbm;refine⟨⟨cs,hc.block h1 (by rw[h.tag];exact no _ _),h2⟩,(he _ (lt_of_block h1)).trans h.tag,?_,⟨D,ξ8E h3 hc (by rw[h.smt];exact no _ _),h4⟩,(he _ h3.lt).trans h.smt,?_,ξ6L h.pul hc h.put (no _ _),h.put.ext he h.pul.blt,h.ltr.chg hc h.ltt (no _ _) h0 he,h.ltt.ext he h.ltr.lt⟩
 ·intro i hi t ht;obtain⟨k1,k2⟩:=h.trs i hi t ht;exact⟨k1.chg hc k2 (no _ _),k2.ext he k1.lt⟩
 ·intro x hx;obtain⟨k1,k2⟩:=h.sbs x hx;exact⟨k1.chg hc k2 (no _ _) h0 he,k2.ext he k1.lt⟩
theorem NAt.below(h:NAt w o n b P N)(hb:Below w.heap.size w w'):NAt w' o n b P N:=
 h.chg (S:=λ_=>False) (Chg.of_below hb _ _) (λg hg=>hg.elim) (Ext.refl _ _)
end Go.Proofs.YtpiamlgmadnepaaGreat.ND
