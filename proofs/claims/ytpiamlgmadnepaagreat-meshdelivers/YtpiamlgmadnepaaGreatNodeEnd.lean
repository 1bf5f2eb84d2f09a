/-
 What the proof needs.
-/
import Derived.Test.YtpiamlgmadnepaaGreatNodeQR
import Derived.Test.YtpiamlgmadnepaaGreatFrameAll
import Derived.Deep.CutBlock
open Go.Proofs.Tryz
set_option linter.unusedVariables false
set_option maxHeartbeats 1000000
set_option maxRecDepth 100000
namespace Go.Proofs.YtpiamlgmadnepaaGreat.ND
open ChangeShapes WideShapes ChangeAt RowKit Maps Mem NO
variable {cs:Array Value}{P:NP}{N:Nd}{w w':World}{o:Nat->Tg}{n b f j:Nat}{lv:Value}{t t':Tr}{K:List Int}{F L:List Nat}{s l q:Int}{st:Bool}
def pby(s t l q:Int)(st:Bool)(L:List Nat):List Nat:=PM.head s.toNat t.toNat l.toNat q.toNat st++L
abbrev fby (tk o ep h:Int) (B:List Nat):List Nat:=Frame.A8o tk o ep h B
theorem ξ7V(t o e p:Int)(a:Option Addr)(n cap:Nat)(B:List Nat)(w:World)(h:Arg w a n B)(hn:a=none->n=0/\cap=0)(hc:n<=cap) :
 Calls prog 195 #[.agg #[.int .i64 t,.int .i64 o,.int .i64 e,.int .i64 p,.slice a n cap]] w λev w'=>∃a' m c',ev=.returned (.tuple #[.slice a' m c',A0a (FM.A0k t o e p B)])/\Below w.heap.size w w'/\Arg w' a' m (fby t o e p B)/\m<=c'/\m<=2000/\∀ad,a'=some ad->w.heap.size<=ad.block:=by
 by_cases hf:FM.A0k t o e p B=0
 ·obtain⟨t',o',e',p',rfl,rfl,rfl,rfl,h1,h2,h3,h4,h5,h6⟩:=FM.ξ1V hf;refine(Frame.ξ7n t' o' e' p' a n cap B w h hn hc h1 h2 h3 h4 h5 h6).mono ?_;rintro ev w' ⟨g,rfl,ah,hR,hB⟩;have hl:=(FM.ξ2X h6).2;have ae:=h.2.1;refine⟨_,_,_,by rw[hf];rfl,hB,?_,Ξo _,by omega,λad e=>by cases e;exact ah⟩;show Arg w' _ _ (Frame.A8o _ _ _ _ _);rw[Frame.ξ3E hf];exact⟨hR.bys (FM.ξaM (FM.ξ4f h2 h3 h4 h5 h.1.1)),by rw[FM.ξ4P,ae],by omega⟩
 ·refine(Frame.ξ7W t o e p a n cap B w h hc hf).mono ?_;rintro ev w' ⟨rfl,hb⟩;refine⟨none,0,0,rfl,hb,?_,Ξo _,by omega,λad e=>by cases e⟩;show Arg w' _ _ (Frame.A8o _ _ _ _ _);unfold Frame.A8o;rw[if_neg hf];exact⟨Bys.nil _ _,rfl,by omega⟩
theorem ξ9q(s t l q:Int)(st:Bool)(a:Option Addr)(n cap:Nat)(L:List Nat)(w:World)(h:Arg w a n L)(hn:a=none->n=0/\cap=0)(hf:PM.fault s t l q n=0) :
 Calls prog 24 #[.agg #[.int .i64 s,.int .i64 t,.int .i64 l,.int .i64 q,.bool st,.slice a n cap]] w λe w'=>∃g,e=.returned (.tuple #[.slice (some ⟨g,0,none⟩) (8+n) (8+n),.nilIface])/\w.heap.size<=g/\Arg w' (some ⟨g,0,none⟩) (8+n) (pby s t l q st L)/\Below w.heap.size w w':=by
 obtain⟨s',t',l',q',rfl,rfl,rfl,rfl,h1,h2,h3,h4,h5⟩:=PM.ξs hf;refine(Pack.ξ1W s' t' l' q' st a n cap L w h hn h1 h2 h3 h4 h5).mono ?_;rintro e w' ⟨g,rfl,hg,hR,hB⟩;refine⟨g,rfl,hg,?_,hB⟩;have e:pby s' t' l' q' st L=PM.head s' t' l' q' st++L:=by unfold pby;simp
 rw[e];refine⟨hR.bys ?_,?_,by omega⟩
 ·intro c hc;rcases Ξe.1 hc with hc|hc
  ·exact PM.ξ8P st h1 h2 h3 h4 c hc
  ·exact h.1.1 c hc
 ·rw[Ξh,h.2.1];simp[PM.head]
theorem ξ6g(pp:Nat)(tk ep s t l q o h:Int)(st:Bool)(a:Option Addr)(m cap:Nat)(L:List Nat)(w:World)(c0:w.cell? ⟨pp,0,none⟩=some (.int .i64 tk))(c1:w.cell? ⟨pp,1,none⟩=some (.int .i64 ep))(hA:Arg w a m L)(hN:a=none->m=0/\cap=0)(hf:PM.fault s t l q m=0) :
 Calls prog 163 #[.pointer (some ⟨pp,0,none⟩),.agg #[.int .i64 s,.int .i64 t,.int .i64 l,.int .i64 q,.bool st,.slice a m cap],.agg #[.int .i64 o,.int .i64 h]] w λe w'=>
  ∃a' m' c',e=.returned (.tuple #[.slice a' m' c',A0a (FM.A0k tk o ep h (pby s t l q st L))])/\Below w.heap.size w w'/\Arg w' a' m' (fby tk o ep h (pby s t l q st L))/\m'<=c'/\m'<=2000/\∀ad,a'=some ad->w.heap.size<=ad.block:=by
 obtain⟨W0,aj⟩:=nm ((w.alloc (.cells #[.int .i64 s,.int .i64 t,.int .i64 l,.int .i64 q,.bool st,.slice a m cap] 38)).alloc (.cells #[.int .i64 o,.int .i64 h] 177));have am:Below w.heap.size w W0:=by rw[<-aj];exact A4k w _ _
 have au:W0.heap[w.heap.size+1]?=some (.cells #[.int .i64 o,.int .i64 h] 177 (0,0)):=by
  rw[<-aj];have:=heap_alloc_new (w.alloc (.cells #[.int .i64 s,.int .i64 t,.int .i64 l,.int .i64 q,.bool st,.slice a m cap] 38)) (.cells #[.int .i64 o,.int .i64 h] 177);simpa using this
 have ah:W0.heap[w.heap.size]?=some (.cells #[.int .i64 s,.int .i64 t,.int .i64 l,.int .i64 q,.bool st,.slice a m cap] 38 (0,0)):=by
  rw[<-aj];exact(Below.heap_alloc _ _ _ (by simp)).trans (heap_alloc_new w _)
 have d0:W0.cell? ⟨w.heap.size,0,none⟩=some (.int .i64 s):=by simp[World.cell?,ah]
 have d1:W0.cell? ⟨w.heap.size,1,none⟩=some (.int .i64 t):=by simp[World.cell?,ah]
 have d2:W0.cell? ⟨w.heap.size,2,none⟩=some (.int .i64 l):=by simp[World.cell?,ah]
 have d3:W0.cell? ⟨w.heap.size,3,none⟩=some (.int .i64 q):=by simp[World.cell?,ah]
 have d4:W0.cell? ⟨w.heap.size,4,none⟩=some (.bool st):=by simp[World.cell?,ah]
 have d5:W0.cell? ⟨w.heap.size,5,none⟩=some (.slice a m cap):=by simp[World.cell?,ah]
 have y0:W0.cell? ⟨w.heap.size+1,0,none⟩=some (.int .i64 o):=by simp[World.cell?,au]
 have y1:W0.cell? ⟨w.heap.size+1,1,none⟩=some (.int .i64 h):=by simp[World.cell?,au]
 have CE:=ξ0 (ξ9q s t l q st a m cap L W0 (hA.below am) hN hf);have e0:=ξc am c0;have e1:=ξc am c1;obtain⟨B,hB⟩:=nm (pby s t l q st L);rw[hB]at CE;rw[hB];obtain⟨pb,ax⟩:=nm w.heap.size;rw[ax]at d0 d1 d2 d3 d4 d5 y0 y1;have HY:=ξ0 (And.intro e0 (And.intro e1 (And.intro y0 y1)));have ay:=ξ0 am;have HW:=ξ0 aj;have hm:m<=1000:=by obtain⟨_,_,_,_,_,_,_,_,_,_,_,_,h5⟩:=PM.ξs hf;exact h5
 clear hA hN hf am aj ah au hB c0 c1 e0 e1 y0 y1;go_enter func163,ntmps163;go_upto_region 1 with fail
 rw[HW.out];go_wp2_with fail;refine CE.out.mono ?_;rintro e w1 ⟨g,rfl,hg,az,ae⟩;have ai:=ay.out.trans (ae.mono ay.out.size);have CF:Hid (Calls prog 195 #[.agg #[.int .i64 tk,.int .i64 o,.int .i64 ep,.int .i64 h,.slice (some ⟨g,0,none⟩) (8+m) (8+m)]] w1.drew λev w'=>∃a' m' c',ev=.returned (.tuple #[.slice a' m' c',A0a (FM.A0k tk o ep h B)]) /\
  (w'.cell? ⟨pp,0,none⟩=some (.int .i64 tk)/\w'.cell? ⟨pp,1,none⟩=some (.int .i64 ep)/\w'.cell? ⟨pb+1,0,none⟩=some (.int .i64 o)/\w'.cell? ⟨pb+1,1,none⟩=some (.int .i64 h)) /\
  Hid (Below w.heap.size w w'/\Arg w' a' m' (fby tk o ep h B)/\m'<=c'/\m'<=2000/\∀ad,a'=some ad->w.heap.size<=ad.block)):=by
  refine ξ0 ((ξ7V tk o ep h (some ⟨g,0,none⟩) (8+m) (8+m) B w1.drew (az.below ((Ξp _ _).drew)) (λe=>by cases e) (Ξo _)).mono ?_);rintro ev w' ⟨a',m',c',rfl,q1,q2,q3,q4,q5⟩;have aq:Below w1.heap.size w1 w':=((Ξp _ w1).drew).trans q1;obtain⟨r1,r2,r3,r4⟩:=HY.out;have hs:=ai.size;exact⟨a',m',c',rfl,⟨ξc aq (ξc ae r1),ξc aq (ξc ae r2),ξc aq (ξc ae r3),ξc aq (ξc ae r4)⟩,ai.trans (aq.mono hs),q2,q3,q4,λad e=>by have:=q5 ad e;have:w1.drew.heap.size=w1.heap.size:=rfl;omega⟩
 have aC:w1.drew.cell? ⟨pp,0,none⟩=some (.int .i64 tk)/\w1.drew.cell? ⟨pp,1,none⟩=some (.int .i64 ep)/\w1.drew.cell? ⟨pb+1,0,none⟩=some (.int .i64 o)/\w1.drew.cell? ⟨pb+1,1,none⟩=some (.int .i64 h):=by
  obtain⟨r1,r2,r3,r4⟩:=HY.out;exact⟨ξc ae r1,ξc ae r2,ξc ae r3,ξc ae r4⟩
 clear ae ai az hg d0 d1 d2 d3 d4 d5 ax CE;obtain⟨m8,aw⟩:∃m8,8+m=m8:=⟨_,rfl⟩;rw[aw]at CF;rw[aw];clear aw;go_upto_region 4 with fail
 go_region_held3 (λw'=>w'.cell? ⟨pp,0,none⟩=some (.int .i64 tk)/\w'.cell? ⟨pp,1,none⟩=some (.int .i64 ep)/\w'.cell? ⟨pb+1,0,none⟩=some (.int .i64 o)/\w'.cell? ⟨pb+1,1,none⟩=some (.int .i64 h)) (with_reducible assumption) (first|(go_at_call 195;refine CF.out.mono ?_;rintro e w3 ⟨a',m',c',rfl,aD,aA⟩))
 go_wp2_with fail
 go_ret2;exact⟨a',m',c',rfl,aA.out⟩
theorem A12.A5f(h:A12 cs P N)(v:Value)(L:List (Int×List Nat)):A12 (cs.setIfInBounds 13 v) { P with lv:=v } { N with lt:=L }:=by
 have hz:=h.sz;refine⟨by simpa using hz,?_,?_,?_,?_,?_,?_,by rw[Ξb,if_pos rfl,if_pos (by omega)]⟩
 ·rw[Ξb,if_neg (by omega)];exact h.c0
 ·rw[Ξb,if_neg (by omega)];exact h.c1
 ·intro i hi;rw[Ξb,if_neg (by omega)];exact h.ct i hi
 ·rw[Ξb,if_neg (by omega)];exact h.c10
 ·rw[Ξb,if_neg (by omega)];exact h.c11
 ·rw[Ξb,if_neg (by omega)];exact h.c12
def lets(n:Nat)(g:Tg):Prop:=g=⟨n,0,0⟩∨g=⟨n,1,0⟩
theorem NAt.lets{o':Nat->Tg}(h:NAt w o n b P N)(hn:n≠0)(hc:Chg o (lets n) w w')(he:Ext w o o'){L:List (Int×List Nat)}(h1:w'.heap[b]?=some (.cells cs 157 (0,0)))(h2:A12 cs { P with lv:=lv } { N with lt:=L })(h3:ξN w' o' lv L)(h4:Own o' ⟨n,1,0⟩ lv.ownBlock.toList) :
 NAt w' o' n b { P with lv:=lv } { N with lt:=L }:=by
 have h0:∀g,ND.lets n g->g.n≠0:=by rintro g (rfl|rfl)<;>exact hn
 exact⟨⟨cs,h1,h2⟩,h.tag' he,λi hi=>h.A66 hc he hi (by simp[ND.lets]),h.A7m hc (by simp[ND.lets]),h.smt' he,λx hx=>h.A67 hc he h0 hx (by simp[ND.lets]),h.A7n hc (by simp[ND.lets]),h.put' he,h3,h4⟩
theorem ξ16(h:Chg o (lets n) w w'):Chg o (mine n) w w':=h.mono (by rintro t (rfl|rfl)<;>rfl)
theorem infoLT:(prog.info? 165).map (λi=>(i.zero,i.size,i.bytes))=some (some (.agg #[.int .i64 0,.slice none 0 0]),2,32):=by kernel_rfl
def Wrote(w w':World)(o:Nat->Tg)(n b:Nat)(P:NP)(N:Nd):Prop:=∃o' lv,NAt w' o' n b { P with lv:=lv } N/\Ext w o o'/\Chg o (lets n) w w'
theorem ξ3Q(n b:Nat)(o:Nat->Tg)(P:NP)(N:Nd)(kd:Int)(a:Option Addr)(m c:Nat)(B:List Nat)(w:World)(hn:n≠0)(hN:NAt w o n b P N)(hA:Arg w a m B)(hF:0<m->∀ad,a=some ad->(o ad.block).n=0)(hcp:m<=c/\m<=2000)(hl:N.lt.length<=1000000) :
 Calls prog 164 #[.pointer (some ⟨b,0,none⟩),.int .i64 kd,.slice a m c] w λe w'=>e=.returned (.tuple #[])/\Wrote w w' o n b P { N with lt:=N.lt++[(kd,B)] }:=by
 obtain⟨X,x1,x2,x3⟩:=hN.ltr;have c13:=hN.cells.2.2.2.2.2;have aQ:X.length<=1000000:=by rw[<-x1,Ξm]at hl;exact hl
 obtain⟨lv,au⟩:=nm P.lv;rw[au]at c13 x2;have aw:=hN.lt;have HT:Hid (∀g cap w2,w2.ownsRow 0 165 2 (.slice (some ⟨g,0,none⟩) (X.length+1) cap) (X.length+1) ((X.flatMap λx=>[.int .i64 x.1.1,x.2])++[.int .i64 kd,.slice a m c])->(w.alloc (.cells #[.int .i64 kd,.slice a m c] 165)).grownBy w2 lv.ownBlock->(lv.ownBlock=some g∨g=w.heap.size+1)->w2.heap[b]?=w.heap[b]?/\w.heap.size<=w2.heap.size/\Wrote w (w2.setCell ⟨b,13,none⟩ (.slice (some ⟨g,0,none⟩) (X.length+1) cap)) o n b P { N with lt:=N.lt++[(kd,B)] }):=by
  refine ξ0 ?_;intro g cap w2 ah ae am;have ax:Only lv.ownBlock.toList w w2:=((Only.refl _ w).alloc _).grown ae (by intro k hk;simp[hk]);have ai:Own o ⟨n,1,0⟩ lv.ownBlock.toList:=by rw[<-au];exact hN.ltt
  have ay:Nob w lv.ownBlock.toList:=by
   intro k hk;rcases x2.2 with⟨e,_⟩|⟨g',cap',cur,e,_,hb,_⟩
   ·rw[e]at hk;simp[Value.ownBlock]at hk
   ·rw[e]at hk;simp[Value.ownBlock]at hk;subst hk;exact ξi hb (by decide)
  have aE:Chg o (lets n) w w2:=Chg.A1j ax (λk hk=>.inr (ai k hk)) ay;obtain⟨cs,h1,h2⟩:=hN.box;have aj:w2.heap[b]?=w.heap[b]?:=ax.2.2.2.2 b aw (λhk=>by have:=ai b hk;rw[hN.tag]at this;simp at this);have hs:w.heap.size<=w2.heap.size:=ax.2.2.2.1;have aA:=aj.trans h1;have aF:Chg o (lets n) w2 (w2.setCell ⟨b,13,none⟩ (.slice (some ⟨g,0,none⟩) (X.length+1) cap)):=Chg.A1j (bs:=[b]) ((Only.refl _ _).setCell (by simp) _) (by intro k hk;simp at hk;rw[hk];exact .inl hN.tag) (by intro k hk;simp at hk;rw[hk];exact ξi aA (by decide));have hC:=aE.trans' aF;have he:=ξ3 o w ⟨n,1,0⟩;refine⟨aj,hs,grow o w ⟨n,1,0⟩,_,hN.lets hn hC he (heap_setCell_same w2 b 13 _ _ _ aA) (h2.A5f _ _) ?_ ?_,he,hC⟩
  ·refine⟨X++[((kd,B),.slice a m c)],by rw[List.map_append,x1];rfl,?_,?_⟩
   ·have aG:∀k,(Value.slice (some ⟨g,0,none⟩) (X.length+1) cap).ownBlock=some k->k∉[b]:=by
     intro k hk;simp[Value.ownBlock]at hk;subst hk;simp;rcases am with h|h
     ·intro e;have:=ai g (by simp[h]);rw[e,hN.tag]at this;simp at this
     ·omega
    have:=((Only.refl [b] w2).setCell (p:=⟨b,13,none⟩) (by simp) (.slice (some ⟨g,0,none⟩) (X.length+1) cap)).owns ah aG;rw[List.flatMap_append,Ξh];exact this
   ·intro y hy;rcases Ξe.1 hy with hy|hy
    ·exact⟨(x3 y hy).1.chg hC (by rintro g (rfl|rfl)<;>exact hn) he,(x3 y hy).2⟩
    ·simp only[Ξg]at hy;subst hy;exact⟨(show ξo w o (.slice a m c) B from⟨a,m,c,rfl,hA,hF⟩).chg hC (by rintro g (rfl|rfl)<;>exact hn) he,λa' m' c' e=>by cases e;exact hcp⟩
  ·intro k hk;simp[Value.ownBlock]at hk;subst hk;rcases am with h|h
   ·have hg:=ξB x2 h;rw[ξt hg];exact ai _ (by simp[h])
   ·exact ξg (by omega)
 obtain⟨la,ln,lc,hls⟩:∃a m c,lv=.slice a m c:=by
  rcases x2.2 with⟨e,_⟩|⟨g,cap,cur,e,_⟩
  ·exact⟨_,_,_,e⟩
  ·exact⟨_,_,_,e⟩
 have aC:=hN.free 13;have aH:=ξ0 x2;have az:=ξ0 hls;have aq:w.cell? ⟨b,13,none⟩=some (.slice la ln lc):=by rw[c13,hls]
 have HC:=ξ0 aq;have aI:=ξ0 aC;clear hN hA hF x1 x2 x3 au hls hl;obtain⟨i0,aJ,aL,aM,aO⟩:=info_parts infoLT;clear c13;go_enter func164,ntmps164;go_wp2_with (at_builtin;refine wpList_append_lies _ rfl _ _ 155 rfl 0 165 i0 _ 2 32 underlying155 aJ aL aM aO rfl (by decide) _ X.length (X.flatMap λx=>[.int .i64 x.1.1,x.2]) rfl (by rw[<-az.out];exact aH.out.alloc _) ⟨w.heap.size,0,none⟩ 1 1 [.int .i64 kd,.slice a m c] rfl rfl (World.news_of_block (cs:=#[.int .i64 kd,.slice a m c]) (t:=165) (fr:=(0,0)) (heap_alloc_new w _)) ?c2 (by omega) ?b1 ?b2 ?b3 (w.heap.size+1) (by simp) ?next)
 case c2=>intro u aD;simp at aD;rcases aD with rfl|rfl<;>rfl
 case b1=>unfold maxLen;omega
 case b2=>omega
 case b3=>omega
 case next=>
 intro g cap w2 ah ae am aS;obtain⟨aj,aT,hW⟩:=HT.out g cap w2 ah (by rw[az.out];exact ae) (by rw[az.out];exact am);have aU:w2.cell? ⟨b,13,none⟩=some (.slice la ln lc):=(ξr aj 13).trans HC.out;have aV:w2.frozen? ⟨b,13,none⟩=false:=by have:=aI.out;simp only[World.frozen?,aj]at this ⊢;exact this
 have aP:=ξ0 hW;clear ah ae am aj hW HT aC aq;go_wp2_with fail
 go_end0
 exact⟨rfl,aP.out⟩
theorem ξ2B(n b i:Nat)(o:Nat->Tg)(P:NP)(N:Nd)(tr:Tr)(kd s t l q og h:Int)(st:Bool)(a:Option Addr)(m cap:Nat)(L:List Nat)(w:World)(hn:n≠0)(hN:NAt w o n b P N)(hi:i<8)(ht:N.tr i=some tr)(hA:Arg w a m L)(hno:a=none->m=0/\cap=0)(hf:PM.fault s t l q m=0)(hl:N.lt.length<=1000000) :
 Calls prog 124 #[.pointer (some ⟨b,0,none⟩),.int .i64 kd,.pointer (some ⟨(P.tp i).p,0,none⟩),.agg #[.int .i64 s,.int .i64 t,.int .i64 l,.int .i64 q,.bool st,.slice a m cap],.agg #[.int .i64 og,.int .i64 h]] w λe w'=>e=.returned (.tuple #[]) /\
  Wrote w w' o n b P { N with lt:=if FM.A0k tr.tk og tr.ep h (pby s t l q st L)=0 then N.lt++[(kd,fby tr.tk og tr.ep h (pby s t l q st L))]else N.lt }:=by
 obtain⟨W0,aq⟩:=nm ((w.alloc (.cells #[.int .i64 s,.int .i64 t,.int .i64 l,.int .i64 q,.bool st,.slice a m cap] 38)).alloc (.cells #[.int .i64 og,.int .i64 h] 177));have au:Below w.heap.size w W0:=by rw[<-aq];exact A4k w _ _
 have ax:W0.heap[w.heap.size+1]?=some (.cells #[.int .i64 og,.int .i64 h] 177 (0,0)):=by
  rw[<-aq];have:=heap_alloc_new (w.alloc (.cells #[.int .i64 s,.int .i64 t,.int .i64 l,.int .i64 q,.bool st,.slice a m cap] 38)) (.cells #[.int .i64 og,.int .i64 h] 177);simpa using this
 have ah:W0.heap[w.heap.size]?=some (.cells #[.int .i64 s,.int .i64 t,.int .i64 l,.int .i64 q,.bool st,.slice a m cap] 38 (0,0)):=by
  rw[<-aq];exact(Below.heap_alloc _ _ _ (by simp)).trans (heap_alloc_new w _)
 have d0:W0.cell? ⟨w.heap.size,0,none⟩=some (.int .i64 s):=by simp[World.cell?,ah]
 have d1:W0.cell? ⟨w.heap.size,1,none⟩=some (.int .i64 t):=by simp[World.cell?,ah]
 have d2:W0.cell? ⟨w.heap.size,2,none⟩=some (.int .i64 l):=by simp[World.cell?,ah]
 have d3:W0.cell? ⟨w.heap.size,3,none⟩=some (.int .i64 q):=by simp[World.cell?,ah]
 have d4:W0.cell? ⟨w.heap.size,4,none⟩=some (.bool st):=by simp[World.cell?,ah]
 have d5:W0.cell? ⟨w.heap.size,5,none⟩=some (.slice a m cap):=by simp[World.cell?,ah]
 have y0:W0.cell? ⟨w.heap.size+1,0,none⟩=some (.int .i64 og):=by simp[World.cell?,ax]
 have y1:W0.cell? ⟨w.heap.size+1,1,none⟩=some (.int .i64 h):=by simp[World.cell?,ax]
 have hT:=(hN.trs i hi tr ht).1;have ay:=(au.block (P.tp i).p (lt_of_block hT.box)).trans hT.box;have t0:W0.cell? ⟨(P.tp i).p,0,none⟩=some (.int .i64 tr.tk):=by simp[World.cell?,ay]
 have t1:W0.cell? ⟨(P.tp i).p,1,none⟩=some (.int .i64 tr.ep):=by simp[World.cell?,ay]
 have CE:=ξ0 (ξ6g (P.tp i).p tr.tk tr.ep s t l q og h st a m cap L W0 t0 t1 (hA.below au) hno hf);obtain⟨f,az⟩:=nm (FM.A0k tr.tk og tr.ep h (pby s t l q st L));obtain⟨F,aA⟩:=nm (fby tr.tk og tr.ep h (pby s t l q st L));rw[az,aA]at CE;rw[az,aA];obtain⟨pp,aC⟩:=nm ((P.tp i).p);rw[aC]at CE;rw[aC];obtain⟨pb,aL⟩:=nm w.heap.size;rw[aL]at d0 d1 d2 d3 d4 d5 y0 y1;have aD:=ξ0 au;have HW:=ξ0 aq;have HN:=ξ0 hN;have q1:=cmp_eq f;have q2:=ξ3z f;clear hA hno hf au aq ah ax az aA aC hN hT ay t0 t1 ht;have HL:=ξ0 hl;clear hl;obtain⟨NF,aE⟩:∃NF:Nd,{ N with lt:=if f=0 then N.lt++[(kd,F)]else N.lt }=NF:=⟨_,rfl⟩;rw[aE];have aw:=ξ0 aE;clear aE;go_enter func124,ntmps124;go_upto_region 1 with fail
 rw[HW.out];go_wp2_with fail;refine CE.out.mono ?_;rintro e w1 ⟨a',m',c',rfl,aF,aG,ai,aj,aH⟩;have ae:=aD.out.trans (aF.mono aD.out.size);by_cases hf0:f=0
 ·have am:=aw.out;rw[if_pos hf0]at am;have CW:=ξ0 (ξ3Q n b (grow o w ξ2) P N kd a' m' c' F w1 hn (HN.out.chg (S:=λ_=>False) (Chg.of_below ae _ _) (λg hg=>hg.elim) (ξ3 o w ξ2)) aG (λ_ ad e=>by rw[ξg (by have:=aH ad e;have:=aD.out.size;omega)]) ⟨ai,aj⟩ HL.out);have d:decide (f=0)=true:=by simpa using hf0
  have aJ:=ξ0 ae;have aI:=ξ0 am;clear aF ae aG aH hf0 am aw ai aj;go_wp2_with fail;refine CW.out.mono ?_;rintro e w2 ⟨rfl,o2,P2,r1,r2,r3⟩;have HD:Hid (Wrote w w2 o n b P NF):=by
   rw[<-aI.out];exact ξ0 ⟨o2,P2,r1,(ξ3 o w ξ2).trans r2 aJ.out.size,(Chg.of_below aJ.out _ _).trans r3 (ξ3 o w ξ2)⟩
  clear r1 r2 r3;go_wp2_with fail
  go_end0
  exact⟨rfl,HD.out⟩
 ·have am:=aw.out;rw[if_neg hf0]at am;have d:decide (f=0)=false:=by simpa using hf0
  have HD:Hid (Wrote w w1 o n b P NF):=by
   rw[<-am];exact ξ0 ⟨o,P.lv,HN.out.below ae,Ext.refl _ _,Chg.of_below ae _ _⟩
  clear aF ae aG aH hf0 am aw ai aj;go_wp2_with fail
  go_end0
  exact⟨rfl,HD.out⟩
def Tr.heard(t:Tr)(y now:Int):Tr:={ t with gn:=GM.hN t.gn t.gT t.gM y now,gT:=GM.hU t.gn t.gT t.gM y now,gM:=GM.hL t.gn t.gT t.gM y now }
theorem A1h.heard{P:TP}{nn uu:Int}{ll:GM.Its}(h:A1h w P t)(hG:Gaps.ξ7 w' P.g P.gm 3 3 nn uu ll P.gv t.gG)(ho:Only [P.g,P.gm] w w'):A1h w' P { t with gn:=nn,gT:=uu,gM:=ll }:=by
 have s:=h.sepG;have m:∀k,k∈P.p::P.wm::P.r::P.rm::A3u P.ka t.kids->k∉[P.g,P.gm]:=λk hk hm=>s k hk (by simp only[Gaps.A01];simp at hm;rcases hm with hm|hm<;>simp[hm]);have nb:∀k∈[P.g,P.gm],∀cs fr,w.heap[k]?≠some (.cells cs 5 fr):=by
  intro k hk cs fr;simp only[Ξf,List.not_mem_nil,or_false]at hk;rcases hk with rfl|rfl
  ·rw[h.gap.box];simp
  ·obtain⟨D,h1,_,_⟩:=h.gap.map;obtain⟨es,c,hm⟩:=RM.ξd h1;rw[hm];simp
 obtain⟨D,h1,h2,h3⟩:=h.way;exact⟨(ho.2.2.2.2 _ (lt_of_block h.box) (m _ (by simp))).trans h.box,ξ1F h.kid ho (λk hk=>m k (by simp[hk])),h.kno,hG,h.rng.only ho (m _ (by simp)) (m _ (by simp)) nb,⟨D,ξP h1 ho (m _ (by simp)),h2,h3⟩,h.ap,h.kap⟩
theorem nobT{P:TP}(h:A1h w P t):Nob w [P.g,P.gm]:=by
 obtain⟨D,h1,_,_⟩:=h.gap.map;intro k hk;simp only[Ξf,List.not_mem_nil,or_false]at hk;rcases hk with rfl|rfl
 ·exact ξi h.gap.box (by decide)
 ·exact ξ14 (RM.ξd h1)
theorem ξ9a{P:TP}(h:t'.kids=t.kids):A0x P t'=A0x P t:=by unfold A0x;rw[h]
theorem ξan(f:Nat->TP)(i:Nat):A26 f i (f i)=f:=by
 funext k
 unfold A26;split
 ·rename_i e;rw[e]
 ·rfl
theorem ξ95(f:Nat->Option Tr)(i:Nat)(a b:Tr):A0f (A0f f i a) i b=A0f f i b:=by
 funext k
 unfold A0f;split<;>rfl
theorem ξF(f:Nat->Option Tr)(i:Nat)(a:Tr):A0f f i a i=some a:=by simp[A0f]
theorem NAt.A4l(h:NAt w o n b P N)(hn:n≠0){i:Nat}(hi:i<8)(ht:N.tr i=some t){bs:List Nat}(ho:Only bs w w')(hb:∀k∈bs,k∈A0x (P.tp i) t)(hnb:Nob w bs)(hl:A1h w' (P.tp i) t')(hk:t'.kids=t.kids) :
 NAt w' o n b P { N with tr:=A0f N.tr i t' }/\Chg o (λg=>g=⟨n,3,i⟩) w w':=by
 obtain⟨k1,k2⟩:=h.trs i hi t ht;have hc:Chg o (λg=>g=⟨n,3,i⟩) w w':=Chg.A1j ho (λk hkk=>k2 k (hb k hkk)) hnb;have:=h.trk hn hi hc (Ext.refl _ _) ht (Q:=P.tp i) rfl hl (by rw[ξ9a hk];exact k2);rw[ξan]at this;exact⟨this,hc⟩
def A2o(K:List Int)(f:Nat)(F:List Nat):List (Int×List Nat):=if f=0 then K.map λk=>(k,F)else[]
def Nd.took(N:Nd)(i:Nat)(t:Tr)(p:RM.Pk)(og h now:Int):Nd:=
 if GM.hB t.gn t.gT t.gM (num t.rT p.s) now then
  { N with tr:=A0f N.tr i ((t.heard (num t.rT p.s) now).keep (num t.rT p.s) p (og,h)),lt:=N.lt++A2o t.kids (FM.A0k t.tk og t.ep h (pby p.s p.t p.l p.q p.st p.L)) (fby t.tk og t.ep h (pby p.s p.t p.l p.q p.st p.L)) }
 else { N with tr:=A0f N.tr i (t.heard (num t.rT p.s) now) }
def KSt(w1 wr:World)(o1:Nat->Tg)(n b:Nat)(P:NP)(N:Nd)(K:List Int)(f:Nat)(F:List Nat)(j:Nat):Prop:=
 Wrote w1 wr o1 n b P { N with lt:=N.lt++A2o (K.take j) f F }
theorem ξbX(f:Nat)(F:List Nat):A2o [] f F=[]:=by unfold A2o;split<;>rfl
theorem ξ5W(K:List Int)(f:Nat)(F:List Nat):(A2o K f F).length<=K.length:=by unfold A2o;split<;>simp
theorem ξaa(hj:j<K.length):A2o (K.take (j+1)) f F=A2o (K.take j) f F++(if f=0 then[(K.getD j 0,F)]else[]):=by
 unfold A2o;split
 ·rw[List.take_add_one,Ξd hj,List.map_append,Ξa,Ξd hj];rfl
 ·rfl
theorem ξ1E(hn:n≠0)(hc:Chg o (mine n) w w'){k:Nat}{x:Obj}(hx:w.heap[k]?=some x)(hk:(o k).n=0):w'.heap[k]?=some x:=
 hc.block hx (λhm=>hn (by unfold mine at hm;rw[hk]at hm;exact hm.symm))
theorem ξ8I(t:Tr)(y:Int)(p:RM.Pk)(wy:Int×Int):(t.keep y p wy).tk=t.tk/\(t.keep y p wy).ep=t.ep/\(t.keep y p wy).pa=t.pa/\(t.keep y p wy).kids=t.kids:=by
 unfold Tr.keep;split<;>exact⟨rfl,rfl,rfl,rfl⟩
theorem ξdj{w1 wr w2:World}{o1 oj:Nat->Tg}(hj:j<K.length)(h2:Ext w1 o1 oj)(h3:Chg o1 (lets n) w1 wr)(hw:Wrote wr w2 oj n b { P with lv:=lv } { N with lt:=if f=0 then(N.lt++A2o (K.take j) f F)++[(K.getD j 0,F)]else N.lt++A2o (K.take j) f F }):KSt w1 w2 o1 n b P N K f F (j+1):=by
 obtain⟨o',ae,g1,g2,g3⟩:=hw;have e:N.lt++A2o (K.take (j+1)) f F=if f=0 then(N.lt++A2o (K.take j) f F)++[(K.getD j 0,F)]else N.lt++A2o (K.take j) f F:=by
  rw[ξaa hj];split
  ·rw[List.append_assoc]
  ·simp
 refine⟨o',ae,?_,h2.trans g2 h3.size,h3.trans g3 h2⟩;rw[e];exact g1
theorem ξ5C{t:Int}(hf:PM.fault s t l q L.length=0):∃x0 x1 x2 x3 x4 x5 x6 x7:Nat,pby s t l q st L=x0::x1::x2::x3::x4::x5::x6::x7::L/\(PM.good x0&&decide (x1<=127))=true/\((x2*256+x3:Nat):Int)=s/\((((x4*256+x5)*256+x6)*256+x7:Nat):Int)=t/\((x0%4:Nat):Int)=l/\(x1:Int)=q/\decide (160<=x0)=st:=by
 obtain⟨s',t',l',q',rfl,rfl,rfl,rfl,h1,h2,h3,h4,h5⟩:=PM.ξs hf;obtain⟨x0,x1,x2,x3,x4,x5,x6,x7,e,e1,e2,e3,e4,e5,e6⟩:=PM.ξaW s' t' l' q' st h1 h2 h3;refine⟨x0,x1,x2,x3,x4,x5,x6,x7,?_,?_,by rw[e5],by rw[e6],by rw[e1],by rw[e4],e2⟩
 ·unfold pby;simp only[Int.toNat_natCast];rw[e];rfl
 ·rw[e3,e4];simpa using h4
theorem ξ9r{t:Int}(hf:PM.fault s t l q L.length=0):PM.A0y (pby s t l q st L)=0:=by
 obtain⟨x0,x1,x2,x3,x4,x5,x6,x7,e,e1,_⟩:=ξ5C (st:=st) hf;obtain⟨_,_,_,_,_,_,_,_,_,_,_,_,h5⟩:=PM.ξs hf;rw[e,PM.ξ3n,if_pos e1,if_pos h5]
theorem ξ9n(s t l q:Int)(st:Bool)(a:Option Addr)(n cap:Nat)(L:List Nat)(w:World)(hA:Arg w a n (pby s t l q st L))(hc:n<=cap)(hf:PM.fault s t l q L.length=0) :
 Calls prog 25 #[.slice a n cap] w λe w'=>∃a' c',e=.returned (.tuple #[.agg #[.int .i64 s,.int .i64 t,.int .i64 l,.int .i64 q,.bool st,.slice a' L.length c'],.nilIface])/\Below w.heap.size w w'/\Arg w' a' L.length L/\(a'=none->L.length=0/\c'=0)/\∀ad,a'=some ad->w.heap.size<=ad.block:=by
 obtain⟨x0,x1,x2,x3,x4,x5,x6,x7,e,e1,e2,e3,e4,e5,e6⟩:=ξ5C (st:=st) hf;obtain⟨_,_,_,_,_,_,_,_,_,_,_,_,h5⟩:=PM.ξs hf;have hL:∀c∈L,c<256:=λc hcc=>hA.1.1 c (by rw[e];simp[hcc]);rw[e]at hA;have hn:=hA.2.1;simp at hn;obtain⟨b,o,rfl⟩:=Pack.ξ1q hA (by omega);refine(Pack.ξ5y b o n cap x0 x1 x2 x3 x4 x5 x6 x7 L w hA hc e1 h5).mono ?_;rintro ev w' ⟨a',c',rfl,ho,hb⟩;rw[e2,e3,e4,e5,e6];obtain⟨a2,c2,hv,q1,q2,q3,q4⟩:=ξy ho hL (by omega);cases hv;exact⟨a',c',rfl,hb,q1,q2,λad e=>by obtain⟨g,rfl,hg⟩:=q4 ad e;exact hg⟩
theorem ξa4(tk og ep h:Int)(a:Option Addr)(n cap:Nat)(B:List Nat)(w:World)(hA:Arg w a n (fby tk og ep h B))(hc:n<=cap)(hB:∀c∈B,c<256)(hf:FM.A0k tk og ep h B=0) :
 Calls prog 148 #[.slice a n cap] w λe w'=>∃a' m' c',e=.returned (.tuple #[.agg #[.int .i64 tk,.int .i64 og,.int .i64 ep,.int .i64 h,.slice a' m' c'],.nilIface])/\Below w.heap.size w w'/\Arg w' a' m' B/\m'<=c'/\∀ad,a'=some ad->w.heap.size<=ad.block:=by
 obtain⟨t',o',e',p',rfl,rfl,rfl,rfl,h1,h2,h3,h4,h5,h6⟩:=FM.ξ1V hf;obtain⟨r1,r2⟩:=FM.ξaY h1 h2 h3 h4 h5 h6 hB;have ae:=hA;rw[show fby _ _ _ _ _=FM.A3m t' o' e' p' B from Frame.ξ3E hf]at ae;have ah:=ae.2.1;rw[FM.ξ4P]at ah;have:=(FM.ξ2X h6).2;refine(Frame.ξbN a n cap _ w ae hc (by omega)).mono ?_;rintro ev w' ⟨a',m',c',rfl,q1,q2,q3,q4,q5⟩;rw[r1,r2];rw[r2]at q2;exact⟨a',m',c',rfl,q1,q2,q3,q5⟩
theorem ξbR{tk og ep h:Int}{B:List Nat}(hf:FM.A0k tk og ep h B=0):∃R,fby tk og ep h B=70::R:=by
 obtain⟨t',o',e',p',rfl,rfl,rfl,rfl,_⟩:=FM.ξ1V hf;rw[show fby _ _ _ _ _=FM.A3m t' o' e' p' B from Frame.ξ3E hf];exact⟨_,rfl⟩
def hrF(tr:Tr)(fr ep:Int):Nat:=if tr.pa=-1∨fr≠tr.pa∨ep≠tr.ep then 6 else 0
def A4x(w w':World)(o:Nat->Tg)(n b:Nat)(N:Nd)(k:Nat)(tr:Tr)(s t l q:Int)(st:Bool)(L:List Nat)(og h now:Int)(f:Nat):Prop:=
 (f=0->∃bv,Done w w' o n b (N.took k tr ⟨s,t,l,q,st,L,bv⟩ og h now))/\(f≠0->Below w.heap.size w w')
end Go.Proofs.YtpiamlgmadnepaaGreat.ND
