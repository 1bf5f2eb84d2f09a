/-
 NodeS, NodeT, NodeU, NodeV, NodeW in one text.
-/
import Derived.Test.YtpiamlgmadnepaaGreatNodeRP
import Derived.Test.YtpiamlgmadnepaaGreatFrameAll
import Derived.Deep.AppendLies
import Derived.Test.YtpiamlgmadnepaaGreatGapsAll
import Derived.Deep.CutBlock
open Go.Proofs.Tryz
set_option linter.unusedVariables false
set_option maxHeartbeats 1000000
set_option maxRecDepth 100000
namespace Go.Proofs.YtpiamlgmadnepaaGreat.ND
open Go.ChangeShapes Go.WideShapes Go.ChangeAt Go.RowKit Go.Maps Mem NO
def pby (s t l q:Int) (st:Bool) (L:List Nat):List Nat:=PM.head s.toNat t.toNat l.toNat q.toNat st++L
abbrev fby (tk o ep h:Int) (B:List Nat):List Nat:=Frame.fenc tk o ep h B
theorem ξ7w (t o e p:Int) (a:Option Addr) (n cap:Nat) (B:List Nat) (w:World) (h:Arg w a n B) (hn:a=none->n=0/\cap=0) (hc:n<=cap) :
 Calls prog 195 #[.agg #[.int .i64 t,.int .i64 o,.int .i64 e,.int .i64 p,.slice a n cap]] w fun ev w'=>∃ a' m c',ev=.returned (.tuple #[.slice a' m c',errv (FM.ffault t o e p B)])/\Below w.heap.size w w'/\Arg w' a' m (fby t o e p B)/\m<=c'/\m<=2000/\∀ ad,a'=some ad->w.heap.size<=ad.block:=by
 by_cases hf:FM.ffault t o e p B=0
 ·obtain ⟨t',o',e',p',rfl,rfl,rfl,rfl,h1,h2,h3,h4,h5,h6⟩:=FM.ξ1R hf;refine (Frame.ξ70 t' o' e' p' a n cap B w h hn hc h1 h2 h3 h4 h5 h6).mono ?_
  rintro ev w' ⟨g,rfl,hgf,hR,hB⟩;have hl:=(FM.ξ2P h6).2
  have hlen:=h.2.1
  refine ⟨_,_,_,by rw [hf];rfl,hB,?_,Ξo _,by omega,fun ad e=>by cases e;exact hgf⟩
  show Arg w' _ _ (Frame.fenc _ _ _ _ _)
  rw [Frame.ξ3u hf];exact ⟨hR.bys (FM.ξa4 (FM.ξ45 h2 h3 h4 h5 h.1.1)),by rw [FM.ξ4C,hlen],by omega⟩
 ·refine (Frame.ξ7x t o e p a n cap B w h hc hf).mono ?_
  rintro ev w' ⟨rfl,hb⟩;refine ⟨none,0,0,rfl,hb,?_,Ξo _,by omega,fun ad e=>by cases e⟩
  show Arg w' _ _ (Frame.fenc _ _ _ _ _)
  unfold Frame.fenc;rw [if_neg hf];exact ⟨Bys.nil _ _,rfl,by omega⟩
theorem ξ8R (s t l q:Int) (st:Bool) (a:Option Addr) (n cap:Nat) (L:List Nat) (w:World) (h:Arg w a n L) (hn:a=none->n=0/\cap=0) (hf:PM.fault s t l q n=0) :
 Calls prog 24 #[.agg #[.int .i64 s,.int .i64 t,.int .i64 l,.int .i64 q,.bool st,.slice a n cap]] w fun e w'=>∃ g,e=.returned (.tuple #[.slice (some ⟨g,0,none⟩) (8+n) (8+n),.nilIface])/\w.heap.size<=g/\Arg w' (some ⟨g,0,none⟩) (8+n) (pby s t l q st L)/\Below w.heap.size w w':=by
 obtain ⟨s',t',l',q',rfl,rfl,rfl,rfl,h1,h2,h3,h4,h5⟩:=PM.ξt hf;refine (Pack.ξ1S s' t' l' q' st a n cap L w h hn h1 h2 h3 h4 h5).mono ?_
 rintro e w' ⟨g,rfl,hg,hR,hB⟩;refine ⟨g,rfl,hg,?_,hB⟩
 have e:pby s' t' l' q' st L=PM.head s' t' l' q' st++L:=by unfold pby;simp
 rw [e];refine ⟨hR.bys ?_,?_,by omega⟩
 ·intro c hc;rcases Ξe.1 hc with hc | hc
  ·exact PM.ξ8e st h1 h2 h3 h4 c hc
  ·exact h.1.1 c hc
 ·rw [Ξh,h.2.1];simp [PM.head]
theorem ξ60 (pp:Nat) (tk ep s t l q o h:Int) (st:Bool) (a:Option Addr) (m cap:Nat) (L:List Nat) (w:World) (c0:w.cell? ⟨pp,0,none⟩=some (.int .i64 tk)) (c1:w.cell? ⟨pp,1,none⟩=some (.int .i64 ep)) (hA:Arg w a m L) (hN:a=none->m=0/\cap=0) (hf:PM.fault s t l q m=0) :
 Calls prog 163 #[.pointer (some ⟨pp,0,none⟩),.agg #[.int .i64 s,.int .i64 t,.int .i64 l,.int .i64 q,.bool st,.slice a m cap],.agg #[.int .i64 o,.int .i64 h]] w fun e w'=>
  ∃ a' m' c',e=.returned (.tuple #[.slice a' m' c',errv (FM.ffault tk o ep h (pby s t l q st L))])/\Below w.heap.size w w'/\Arg w' a' m' (fby tk o ep h (pby s t l q st L))/\m'<=c'/\m'<=2000/\∀ ad,a'=some ad->w.heap.size<=ad.block:=by
 obtain ⟨W0,hW0⟩:∃ W0,(w.alloc (.cells #[.int .i64 s,.int .i64 t,.int .i64 l,.int .i64 q,.bool st,.slice a m cap] 38)).alloc (.cells #[.int .i64 o,.int .i64 h] 177)=W0:=⟨_,rfl⟩;have hB0:Below w.heap.size w W0:=by rw [<- hW0];exact below2 w _ _
 have hby:W0.heap[w.heap.size+1]?=some (.cells #[.int .i64 o,.int .i64 h] 177 (0,0)):=by
  rw [<- hW0];have:=heap_alloc_new (w.alloc (.cells #[.int .i64 s,.int .i64 t,.int .i64 l,.int .i64 q,.bool st,.slice a m cap] 38)) (.cells #[.int .i64 o,.int .i64 h] 177)
  simpa using this
 have hbx:W0.heap[w.heap.size]?=some (.cells #[.int .i64 s,.int .i64 t,.int .i64 l,.int .i64 q,.bool st,.slice a m cap] 38 (0,0)):=by
  rw [<- hW0];exact (Below.heap_alloc _ _ _ (by simp)).trans (heap_alloc_new w _)
 have d0:W0.cell? ⟨w.heap.size,0,none⟩=some (.int .i64 s):=by simp [World.cell?,hbx]
 have d1:W0.cell? ⟨w.heap.size,1,none⟩=some (.int .i64 t):=by simp [World.cell?,hbx]
 have d2:W0.cell? ⟨w.heap.size,2,none⟩=some (.int .i64 l):=by simp [World.cell?,hbx]
 have d3:W0.cell? ⟨w.heap.size,3,none⟩=some (.int .i64 q):=by simp [World.cell?,hbx]
 have d4:W0.cell? ⟨w.heap.size,4,none⟩=some (.bool st):=by simp [World.cell?,hbx]
 have d5:W0.cell? ⟨w.heap.size,5,none⟩=some (.slice a m cap):=by simp [World.cell?,hbx]
 have y0:W0.cell? ⟨w.heap.size+1,0,none⟩=some (.int .i64 o):=by simp [World.cell?,hby]
 have y1:W0.cell? ⟨w.heap.size+1,1,none⟩=some (.int .i64 h):=by simp [World.cell?,hby]
 have CE:=ξ0 (ξ8R s t l q st a m cap L W0 (hA.below hB0) hN hf)
 have e0:=ξb hB0 c0
 have e1:=ξb hB0 c1
 obtain ⟨B,hB⟩:∃ B,pby s t l q st L=B:=⟨_,rfl⟩;rw [hB] at CE;rw [hB];obtain ⟨pb,hpb⟩:∃ pb,w.heap.size=pb:=⟨_,rfl⟩;rw [hpb] at d0 d1 d2 d3 d4 d5 y0 y1;have HY:=ξ0 (And.intro e0 (And.intro e1 (And.intro y0 y1)))
 have HB0:=ξ0 hB0
 have HW:=ξ0 hW0
 have hm:m<=1000:=by obtain ⟨_,_,_,_,_,_,_,_,_,_,_,_,h5⟩:=PM.ξt hf;exact h5
 clear hA hN hf hB0 hW0 hbx hby hB c0 c1 e0 e1 y0 y1;go_enter func163,ntmps163
 go_upto_region 1 with fail
 rw [HW.out];go_wp2_with fail
 refine CE.out.mono ?_
 rintro e w1 ⟨g,rfl,hg,hA1,hb1⟩;have hb01:=HB0.out.trans (hb1.mono HB0.out.size)
 have CF:Hid (Calls prog 195 #[.agg #[.int .i64 tk,.int .i64 o,.int .i64 ep,.int .i64 h,.slice (some ⟨g,0,none⟩) (8+m) (8+m)]] w1.drew fun ev w'=>∃ a' m' c',ev=.returned (.tuple #[.slice a' m' c',errv (FM.ffault tk o ep h B)]) /\
  (w'.cell? ⟨pp,0,none⟩=some (.int .i64 tk)/\w'.cell? ⟨pp,1,none⟩=some (.int .i64 ep)/\w'.cell? ⟨pb+1,0,none⟩=some (.int .i64 o)/\w'.cell? ⟨pb+1,1,none⟩=some (.int .i64 h)) /\
  Hid (Below w.heap.size w w'/\Arg w' a' m' (fby tk o ep h B)/\m'<=c'/\m'<=2000/\∀ ad,a'=some ad->w.heap.size<=ad.block)):=by
  refine ξ0 ((ξ7w tk o ep h (some ⟨g,0,none⟩) (8+m) (8+m) B w1.drew (hA1.below ((Ξp _ _).drew)) (fun e=>by cases e) (Ξo _)).mono ?_)
  rintro ev w' ⟨a',m',c',rfl,q1,q2,q3,q4,q5⟩;have q1':Below w1.heap.size w1 w':=((Ξp _ w1).drew).trans q1
  obtain ⟨r1,r2,r3,r4⟩:=HY.out;have hs:=hb01.size
  exact ⟨a',m',c',rfl,⟨ξb q1' (ξb hb1 r1),ξb q1' (ξb hb1 r2),ξb q1' (ξb hb1 r3),ξb q1' (ξb hb1 r4)⟩,hb01.trans (q1'.mono hs),q2,q3,q4,fun ad e=>by have:=q5 ad e;have:w1.drew.heap.size=w1.heap.size:=rfl;omega⟩
 have hS0:w1.drew.cell? ⟨pp,0,none⟩=some (.int .i64 tk)/\w1.drew.cell? ⟨pp,1,none⟩=some (.int .i64 ep)/\w1.drew.cell? ⟨pb+1,0,none⟩=some (.int .i64 o)/\w1.drew.cell? ⟨pb+1,1,none⟩=some (.int .i64 h):=by
  obtain ⟨r1,r2,r3,r4⟩:=HY.out;exact ⟨ξb hb1 r1,ξb hb1 r2,ξb hb1 r3,ξb hb1 r4⟩
 clear hb1 hb01 hA1 hg d0 d1 d2 d3 d4 d5 hpb CE;obtain ⟨m8,hm8⟩:∃ m8,8+m=m8:=⟨_,rfl⟩;rw [hm8] at CF;rw [hm8];clear hm8;go_upto_region 4 with fail
 go_region_held3 (fun w'=>w'.cell? ⟨pp,0,none⟩=some (.int .i64 tk)/\w'.cell? ⟨pp,1,none⟩=some (.int .i64 ep)/\w'.cell? ⟨pb+1,0,none⟩=some (.int .i64 o)/\w'.cell? ⟨pb+1,1,none⟩=some (.int .i64 h)) (with_reducible assumption) (first | (go_at_call 195;refine CF.out.mono ?_;rintro e w3 ⟨a',m',c',rfl,hS3,HR3⟩))
 go_wp2_with fail
 go_ret2
 exact ⟨a',m',c',rfl,HR3.out⟩
theorem NCells.setL {cs:Array Value} {P:NP} {N:Nd} (h:NCells cs P N) (v:Value) (L:List (Int×List Nat)):NCells (cs.setIfInBounds 13 v) { P with lv:=v } { N with lt:=L }:=by
 have hz:=h.sz
 refine ⟨by simpa using hz,?_,?_,?_,?_,?_,?_,by rw [Ξb,if_pos rfl,if_pos (by omega)]⟩
 ·rw [Ξb,if_neg (by omega)];exact h.c0
 ·rw [Ξb,if_neg (by omega)];exact h.c1
 ·intro i hi;rw [Ξb,if_neg (by omega)];exact h.ct i hi
 ·rw [Ξb,if_neg (by omega)];exact h.c10
 ·rw [Ξb,if_neg (by omega)];exact h.c11
 ·rw [Ξb,if_neg (by omega)];exact h.c12
def lets (n:Nat) (g:Tg):Prop:=g=⟨n,0,0⟩∨g=⟨n,1,0⟩
theorem NAt.lets {w w':World} {o o':Nat->Tg} {n b:Nat} {P:NP} {N:Nd} (h:NAt w o n b P N) (hn:n≠0) (hc:Chg o (lets n) w w') (he:Ext w o o') {cs:Array Value} {lv:Value} {L:List (Int×List Nat)} (h1:w'.heap[b]?=some (.cells cs 157 (0,0))) (h2:NCells cs { P with lv:=lv } { N with lt:=L }) (h3:ξI w' o' lv L) (h4:Own o' ⟨n,1,0⟩ lv.ownBlock.toList) :
 NAt w' o' n b { P with lv:=lv } { N with lt:=L }:=by
 have h0:∀ g,ND.lets n g->g.n≠0:=by rintro g (rfl | rfl)<;>exact hn
 exact ⟨⟨cs,h1,h2⟩,h.tag' he,fun i hi=>h.trs' hc he hi (by simp [ND.lets]),h.sbm' hc (by simp [ND.lets]),h.smt' he,fun x hx=>h.sbs' hc he h0 hx (by simp [ND.lets]),h.pul' hc (by simp [ND.lets]),h.put' he,h3,h4⟩
theorem ξ1h {o:Nat->Tg} {n:Nat} {w w':World} (h:Chg o (lets n) w w'):Chg o (mine n) w w':=h.mono (by rintro t (rfl | rfl)<;>rfl)
theorem infoLT:(prog.info? 165).map (fun i=>(i.zero,i.size,i.bytes))=some (some (.agg #[.int .i64 0,.slice none 0 0]),2,32):=by kernel_rfl
def Wrote (w w':World) (o:Nat->Tg) (n b:Nat) (P:NP) (N:Nd):Prop:=∃ o' lv,NAt w' o' n b { P with lv:=lv } N/\Ext w o o'/\Chg o (lets n) w w'
theorem ξ3L (n b:Nat) (o:Nat->Tg) (P:NP) (N:Nd) (kd:Int) (a:Option Addr) (m c:Nat) (B:List Nat) (w:World) (hn:n≠0) (hN:NAt w o n b P N) (hA:Arg w a m B) (hF:0<m->∀ ad,a=some ad->(o ad.block).n=0) (hcp:m<=c/\m<=2000) (hl:N.lt.length<=1000000) :
 Calls prog 164 #[.pointer (some ⟨b,0,none⟩),.int .i64 kd,.slice a m c] w fun e w'=>e=.returned (.tuple #[])/\Wrote w w' o n b P { N with lt:=N.lt++[(kd,B)] }:=by
 obtain ⟨X,x1,x2,x3⟩:=hN.ltr;have c13:=hN.cells.2.2.2.2.2
 have hXl:X.length<=1000000:=by rw [<- x1,Ξm] at hl;exact hl
 obtain ⟨lv,hlv⟩:∃ lv,P.lv=lv:=⟨_,rfl⟩;rw [hlv] at c13 x2;have hblt:=hN.lt
 have HT:Hid (∀ g cap w2,w2.ownsRow 0 165 2 (.slice (some ⟨g,0,none⟩) (X.length+1) cap) (X.length+1) ((X.flatMap fun x=>[.int .i64 x.1.1,x.2])++[.int .i64 kd,.slice a m c])->(w.alloc (.cells #[.int .i64 kd,.slice a m c] 165)).grownBy w2 lv.ownBlock->(lv.ownBlock=some g∨g=w.heap.size+1)->w2.heap[b]?=w.heap[b]?/\w.heap.size<=w2.heap.size/\Wrote w (w2.setCell ⟨b,13,none⟩ (.slice (some ⟨g,0,none⟩) (X.length+1) cap)) o n b P { N with lt:=N.lt++[(kd,B)] }):=by
  refine ξ0 ?_
  intro g cap w2 hown hgrow hat;have hO2:Only lv.ownBlock.toList w w2:=((Only.refl _ w).alloc _).grown hgrow (by intro k hk;simp [hk])
  have hltt:Own o ⟨n,1,0⟩ lv.ownBlock.toList:=by rw [<- hlv];exact hN.ltt
  have hnob:Nob w lv.ownBlock.toList:=by
   intro k hk;rcases x2.2 with ⟨e,_⟩ | ⟨g',cap',cur,e,_,hb,_⟩
   ·rw [e] at hk;simp [Value.ownBlock] at hk
   ·rw [e] at hk;simp [Value.ownBlock] at hk
    subst hk;exact ξj hb (by decide)
  have hC2:Chg o (lets n) w w2:=Chg.of_only hO2 (fun k hk=>.inr (hltt k hk)) hnob
  obtain ⟨cs,h1,h2⟩:=hN.box;have hb2:w2.heap[b]?=w.heap[b]?:=hO2.2.2.2.2 b hblt (fun hk=>by have:=hltt b hk;rw [hN.tag] at this;simp at this)
  have hs:w.heap.size<=w2.heap.size:=hO2.2.2.2.1
  have h1':=hb2.trans h1
  have hC3:Chg o (lets n) w2 (w2.setCell ⟨b,13,none⟩ (.slice (some ⟨g,0,none⟩) (X.length+1) cap)):=Chg.of_only (bs:=[b]) ((Only.refl _ _).setCell (by simp) _) (by intro k hk;simp at hk;rw [hk];exact .inl hN.tag) (by intro k hk;simp at hk;rw [hk];exact ξj h1' (by decide))
  have hC:=hC2.trans' hC3
  have he:=ξ3 o w ⟨n,1,0⟩
  refine ⟨hb2,hs,grow o w ⟨n,1,0⟩,_,hN.lets hn hC he (heap_setCell_same w2 b 13 _ _ _ h1') (h2.setL _ _) ?_ ?_,he,hC⟩
  ·refine ⟨X++[((kd,B),.slice a m c)],by rw [List.map_append,x1];rfl,?_,?_⟩
   ·have hne:∀ k,(Value.slice (some ⟨g,0,none⟩) (X.length+1) cap).ownBlock=some k->k∉[b]:=by
     intro k hk;simp [Value.ownBlock] at hk
     subst hk;simp
     rcases hat with h | h
     ·intro e;have:=hltt g (by simp [h])
      rw [e,hN.tag] at this;simp at this
     ·omega
    have:=((Only.refl [b] w2).setCell (p:=⟨b,13,none⟩) (by simp) (.slice (some ⟨g,0,none⟩) (X.length+1) cap)).owns hown hne
    rw [List.flatMap_append,Ξh];exact this
   ·intro y hy;rcases Ξe.1 hy with hy | hy
    ·exact ⟨(x3 y hy).1.chg hC (by rintro g (rfl | rfl)<;>exact hn) he,(x3 y hy).2⟩
    ·simp only [Ξg] at hy
     subst hy;exact ⟨(show ξm w o (.slice a m c) B from ⟨a,m,c,rfl,hA,hF⟩).chg hC (by rintro g (rfl | rfl)<;>exact hn) he,fun a' m' c' e=>by cases e;exact hcp⟩
  ·intro k hk;simp [Value.ownBlock] at hk
   subst hk;rcases hat with h | h
   ·have hg:=ξB x2 h
    rw [ξw hg];exact hltt _ (by simp [h])
   ·exact ξh (by omega)
 obtain ⟨la,ln,lc,hls⟩:∃ a m c,lv=.slice a m c:=by
  rcases x2.2 with ⟨e,_⟩ | ⟨g,cap,cur,e,_⟩
  ·exact ⟨_,_,_,e⟩
  ·exact ⟨_,_,_,e⟩
 have f13:=hN.free 13
 have HX2:=ξ0 x2
 have HLS:=ξ0 hls
 have c13':w.cell? ⟨b,13,none⟩=some (.slice la ln lc):=by rw [c13,hls]
 have HC:=ξ0 c13'
 have HFr:=ξ0 f13
 clear hN hA hF x1 x2 x3 hlv hls hl;obtain ⟨i0,hii,hz0,hz1,hz2⟩:=info_parts infoLT;clear c13;go_enter func164,ntmps164
 go_wp2_with (at_builtin;refine wpList_append_lies _ rfl _ _ 155 rfl 0 165 i0 _ 2 32 underlying155 hii hz0 hz1 hz2 rfl (by decide) _ X.length (X.flatMap fun x=>[.int .i64 x.1.1,x.2]) rfl (by rw [<- HLS.out];exact HX2.out.alloc _) ⟨w.heap.size,0,none⟩ 1 1 [.int .i64 kd,.slice a m c] rfl rfl (World.news_of_block (cs:=#[.int .i64 kd,.slice a m c]) (t:=165) (fr:=(0,0)) (heap_alloc_new w _)) ?c2 (by omega) ?b1 ?b2 ?b3 (w.heap.size+1) (by simp) ?next)
 case c2=>intro u hu';simp at hu';rcases hu' with rfl | rfl<;>rfl
 case b1=>unfold maxLen;omega
 case b2=>omega
 case b3=>omega
 case next=>
 intro g cap w2 hown hgrow hat hlt;obtain ⟨hb2,hs2,hW⟩:=HT.out g cap w2 hown (by rw [HLS.out];exact hgrow) (by rw [HLS.out];exact hat)
 have d13:w2.cell? ⟨b,13,none⟩=some (.slice la ln lc):=(ξn hb2 13).trans HC.out
 have g13:w2.frozen? ⟨b,13,none⟩=false:=by have:=HFr.out;simp only [World.frozen?,hb2] at this ⊢;exact this
 have HWr:=ξ0 hW
 clear hown hgrow hat hb2 hW HT f13 c13';go_wp2_with fail
 go_end0
 exact ⟨rfl,HWr.out⟩
theorem ξ2x (n b i:Nat) (o:Nat->Tg) (P:NP) (N:Nd) (tr:Tr) (kd s t l q og h:Int) (st:Bool) (a:Option Addr) (m cap:Nat) (L:List Nat) (w:World) (hn:n≠0) (hN:NAt w o n b P N) (hi:i<8) (ht:N.tr i=some tr) (hA:Arg w a m L) (hno:a=none->m=0/\cap=0) (hf:PM.fault s t l q m=0) (hl:N.lt.length<=1000000) :
 Calls prog 124 #[.pointer (some ⟨b,0,none⟩),.int .i64 kd,.pointer (some ⟨(P.tp i).p,0,none⟩),.agg #[.int .i64 s,.int .i64 t,.int .i64 l,.int .i64 q,.bool st,.slice a m cap],.agg #[.int .i64 og,.int .i64 h]] w fun e w'=>e=.returned (.tuple #[]) /\
  Wrote w w' o n b P { N with lt:=if FM.ffault tr.tk og tr.ep h (pby s t l q st L)=0 then N.lt++[(kd,fby tr.tk og tr.ep h (pby s t l q st L))] else N.lt }:=by
 obtain ⟨W0,hW0⟩:∃ W0,(w.alloc (.cells #[.int .i64 s,.int .i64 t,.int .i64 l,.int .i64 q,.bool st,.slice a m cap] 38)).alloc (.cells #[.int .i64 og,.int .i64 h] 177)=W0:=⟨_,rfl⟩;have hB0:Below w.heap.size w W0:=by rw [<- hW0];exact below2 w _ _
 have hby:W0.heap[w.heap.size+1]?=some (.cells #[.int .i64 og,.int .i64 h] 177 (0,0)):=by
  rw [<- hW0];have:=heap_alloc_new (w.alloc (.cells #[.int .i64 s,.int .i64 t,.int .i64 l,.int .i64 q,.bool st,.slice a m cap] 38)) (.cells #[.int .i64 og,.int .i64 h] 177)
  simpa using this
 have hbx:W0.heap[w.heap.size]?=some (.cells #[.int .i64 s,.int .i64 t,.int .i64 l,.int .i64 q,.bool st,.slice a m cap] 38 (0,0)):=by
  rw [<- hW0];exact (Below.heap_alloc _ _ _ (by simp)).trans (heap_alloc_new w _)
 have d0:W0.cell? ⟨w.heap.size,0,none⟩=some (.int .i64 s):=by simp [World.cell?,hbx]
 have d1:W0.cell? ⟨w.heap.size,1,none⟩=some (.int .i64 t):=by simp [World.cell?,hbx]
 have d2:W0.cell? ⟨w.heap.size,2,none⟩=some (.int .i64 l):=by simp [World.cell?,hbx]
 have d3:W0.cell? ⟨w.heap.size,3,none⟩=some (.int .i64 q):=by simp [World.cell?,hbx]
 have d4:W0.cell? ⟨w.heap.size,4,none⟩=some (.bool st):=by simp [World.cell?,hbx]
 have d5:W0.cell? ⟨w.heap.size,5,none⟩=some (.slice a m cap):=by simp [World.cell?,hbx]
 have y0:W0.cell? ⟨w.heap.size+1,0,none⟩=some (.int .i64 og):=by simp [World.cell?,hby]
 have y1:W0.cell? ⟨w.heap.size+1,1,none⟩=some (.int .i64 h):=by simp [World.cell?,hby]
 have hT:=(hN.trs i hi tr ht).1
 have hbt:=(hB0.block (P.tp i).p (lt_of_block hT.box)).trans hT.box
 have t0:W0.cell? ⟨(P.tp i).p,0,none⟩=some (.int .i64 tr.tk):=by simp [World.cell?,hbt]
 have t1:W0.cell? ⟨(P.tp i).p,1,none⟩=some (.int .i64 tr.ep):=by simp [World.cell?,hbt]
 have CE:=ξ0 (ξ60 (P.tp i).p tr.tk tr.ep s t l q og h st a m cap L W0 t0 t1 (hA.below hB0) hno hf)
 obtain ⟨f,hff⟩:∃ f,FM.ffault tr.tk og tr.ep h (pby s t l q st L)=f:=⟨_,rfl⟩;obtain ⟨F,hFF⟩:∃ F,fby tr.tk og tr.ep h (pby s t l q st L)=F:=⟨_,rfl⟩;rw [hff,hFF] at CE;rw [hff,hFF];obtain ⟨pp,hpp⟩:∃ pp,(P.tp i).p=pp:=⟨_,rfl⟩;rw [hpp] at CE;rw [hpp];obtain ⟨pb,hpb⟩:∃ pb,w.heap.size=pb:=⟨_,rfl⟩;rw [hpb] at d0 d1 d2 d3 d4 d5 y0 y1;have HB0:=ξ0 hB0
 have HW:=ξ0 hW0
 have HN:=ξ0 hN
 have q1:=cmp_eq f
 have q2:=ξ3q f
 clear hA hno hf hB0 hW0 hbx hby hff hFF hpp hN hT hbt t0 t1 ht;have HL:=ξ0 hl
 clear hl;obtain ⟨NF,hNF⟩:∃ NF:Nd,{ N with lt:=if f=0 then N.lt++[(kd,F)] else N.lt }=NF:=⟨_,rfl⟩;rw [hNF];have HNF:=ξ0 hNF
 clear hNF;go_enter func124,ntmps124
 go_upto_region 1 with fail
 rw [HW.out];go_wp2_with fail
 refine CE.out.mono ?_
 rintro e w1 ⟨a',m',c',rfl,hb1,hA1,hcp1,hcp2,hfr⟩;have hb01:=HB0.out.trans (hb1.mono HB0.out.size)
 by_cases hf0:f=0
 ·have hnf:=HNF.out
  rw [if_pos hf0] at hnf;have CW:=ξ0 (ξ3L n b (grow o w ξ2) P N kd a' m' c' F w1 hn (HN.out.chg (S:=fun _=>False) (Chg.of_below hb01 _ _) (fun g hg=>hg.elim) (ξ3 o w ξ2)) hA1 (fun _ ad e=>by rw [ξh (by have:=hfr ad e;have:=HB0.out.size;omega)]) ⟨hcp1,hcp2⟩ HL.out)
  have d:decide (f=0)=true:=by simpa using hf0
  have HB1:=ξ0 hb01
  have HNF2:=ξ0 hnf
  clear hb1 hb01 hA1 hfr hf0 hnf HNF hcp1 hcp2;go_wp2_with fail
  refine CW.out.mono ?_
  rintro e w2 ⟨rfl,o2,P2,r1,r2,r3⟩;have HD:Hid (Wrote w w2 o n b P NF):=by
   rw [<- HNF2.out];exact ξ0 ⟨o2,P2,r1,(ξ3 o w ξ2).trans r2 HB1.out.size,(Chg.of_below HB1.out _ _).trans r3 (ξ3 o w ξ2)⟩
  clear r1 r2 r3;go_wp2_with fail
  go_end0
  exact ⟨rfl,HD.out⟩
 ·have hnf:=HNF.out
  rw [if_neg hf0] at hnf;have d:decide (f=0)=false:=by simpa using hf0
  have HD:Hid (Wrote w w1 o n b P NF):=by
   rw [<- hnf];exact ξ0 ⟨o,P.lv,HN.out.below hb01,Ext.refl _ _,Chg.of_below hb01 _ _⟩
  clear hb1 hb01 hA1 hfr hf0 hnf HNF hcp1 hcp2;go_wp2_with fail
  go_end0
  exact ⟨rfl,HD.out⟩
def Tr.heard (t:Tr) (y now:Int):Tr:={ t with gn:=GM.hN t.gn t.gT t.gM y now,gT:=GM.hU t.gn t.gT t.gM y now,gM:=GM.hL t.gn t.gT t.gM y now }
theorem TrAt.heard {w w':World} {P:TP} {t:Tr} {nn uu:Int} {ll:GM.Its} (h:TrAt w P t) (hG:Gaps.ξ7 w' P.g P.gm 3 3 nn uu ll P.gv t.gG) (ho:Only [P.g,P.gm] w w'):TrAt w' P { t with gn:=nn,gT:=uu,gM:=ll }:=by
 have s:=h.sepG
 have m:∀ k,k∈P.p::P.wm::P.r::P.rm::kblk P.ka t.kids->k∉[P.g,P.gm]:=fun k hk hm=>s k hk (by simp only [Gaps.blks];simp at hm;rcases hm with hm | hm<;>simp [hm])
 have nb:∀ k∈[P.g,P.gm],∀ cs fr,w.heap[k]?≠some (.cells cs 5 fr):=by
  intro k hk cs fr;simp only [Ξf,List.not_mem_nil,or_false] at hk
  rcases hk with rfl | rfl
  ·rw [h.gap.box];simp
  ·obtain ⟨D,h1,_,_⟩:=h.gap.map;obtain ⟨es,c,hm⟩:=RM.ξc h1;rw [hm];simp
 obtain ⟨D,h1,h2,h3⟩:=h.way;exact ⟨(ho.2.2.2.2 _ (lt_of_block h.box) (m _ (by simp))).trans h.box,ξ1E h.kid ho (fun k hk=>m k (by simp [hk])),h.kno,hG,h.rng.only ho (m _ (by simp)) (m _ (by simp)) nb,⟨D,ξJ h1 ho (m _ (by simp)),h2,h3⟩,h.ap,h.kap⟩
theorem nobT {w:World} {P:TP} {t:Tr} (h:TrAt w P t):Nob w [P.g,P.gm]:=by
 obtain ⟨D,h1,_,_⟩:=h.gap.map;intro k hk;simp only [Ξf,List.not_mem_nil,or_false] at hk
 rcases hk with rfl | rfl
 ·exact ξj h.gap.box (by decide)
 ·exact ξ13 (RM.ξc h1)
theorem ξ8B {P:TP} {t t':Tr} (h:t'.kids=t.kids):tblks P t'=tblks P t:=by unfold tblks;rw [h]
theorem ξ9K (f:Nat->TP) (i:Nat):updT f i (f i)=f:=by
 funext k
 unfold updT;split
 ·rename_i e;rw [e]
 ·rfl
theorem ξ8v (f:Nat->Option Tr) (i:Nat) (a b:Tr):updR (updR f i a) i b=updR f i b:=by
 funext k
 unfold updR;split<;>rfl
theorem ξO (f:Nat->Option Tr) (i:Nat) (a:Tr):updR f i a i=some a:=by simp [updR]
theorem NAt.trk1 {w w':World} {o:Nat->Tg} {n b:Nat} {P:NP} {N:Nd} (h:NAt w o n b P N) (hn:n≠0) {i:Nat} (hi:i<8) {t t':Tr} (ht:N.tr i=some t) {bs:List Nat} (ho:Only bs w w') (hb:∀ k∈bs,k∈tblks (P.tp i) t) (hnb:Nob w bs) (hl:TrAt w' (P.tp i) t') (hk:t'.kids=t.kids) :
 NAt w' o n b P { N with tr:=updR N.tr i t' }/\Chg o (fun g=>g=⟨n,3,i⟩) w w':=by
 obtain ⟨k1,k2⟩:=h.trs i hi t ht;have hc:Chg o (fun g=>g=⟨n,3,i⟩) w w':=Chg.of_only ho (fun k hkk=>k2 k (hb k hkk)) hnb
 have:=h.trk hn hi hc (Ext.refl _ _) ht (Q:=P.tp i) rfl hl (by rw [ξ8B hk];exact k2)
 rw [ξ9K] at this;exact ⟨this,hc⟩
def downs (K:List Int) (f:Nat) (F:List Nat):List (Int×List Nat):=if f=0 then K.map fun k=>(k,F) else []
def KSt (w1 wr:World) (o1:Nat->Tg) (n b:Nat) (P:NP) (N:Nd) (K:List Int) (f:Nat) (F:List Nat) (j:Nat):Prop:=
 Wrote w1 wr o1 n b P { N with lt:=N.lt++downs (K.take j) f F }
theorem ξbo (f:Nat) (F:List Nat):downs [] f F=[]:=by unfold downs;split<;>rfl
theorem ξ5F (K:List Int) (f:Nat) (F:List Nat):(downs K f F).length<=K.length:=by unfold downs;split<;>simp
theorem ξ9x {K:List Int} {f:Nat} {F:List Nat} {j:Nat} (hj:j<K.length):downs (K.take (j+1)) f F=downs (K.take j) f F++(if f=0 then [(K.getD j 0,F)] else []):=by
 unfold downs;split
 ·rw [List.take_add_one,Ξd hj,List.map_append,Ξa,Ξd hj];rfl
 ·rfl
theorem ξ1D {w w':World} {o:Nat->Tg} {n:Nat} (hn:n≠0) (hc:Chg o (mine n) w w') {k:Nat} {x:Obj} (hx:w.heap[k]?=some x) (hk:(o k).n=0):w'.heap[k]?=some x:=
 hc.block hx (fun hm=>hn (by unfold mine at hm;rw [hk] at hm;exact hm.symm))
theorem ξ8a (t:Tr) (y:Int) (p:RM.Pk) (wy:Int×Int):(t.keep y p wy).tk=t.tk/\(t.keep y p wy).ep=t.ep/\(t.keep y p wy).pa=t.pa/\(t.keep y p wy).kids=t.kids:=by
 unfold Tr.keep;split<;>exact ⟨rfl,rfl,rfl,rfl⟩
theorem ξcz {w1 wr w2:World} {o1 oj:Nat->Tg} {n b:Nat} {P:NP} {lv:Value} {N:Nd} {K:List Int} {f:Nat} {F:List Nat} {j:Nat} (hj:j<K.length) (h2:Ext w1 o1 oj) (h3:Chg o1 (lets n) w1 wr) (hw:Wrote wr w2 oj n b { P with lv:=lv } { N with lt:=if f=0 then (N.lt++downs (K.take j) f F)++[(K.getD j 0,F)] else N.lt++downs (K.take j) f F }):KSt w1 w2 o1 n b P N K f F (j+1):=by
 obtain ⟨o',lv',g1,g2,g3⟩:=hw;have e:N.lt++downs (K.take (j+1)) f F=if f=0 then (N.lt++downs (K.take j) f F)++[(K.getD j 0,F)] else N.lt++downs (K.take j) f F:=by
  rw [ξ9x hj];split
  ·rw [List.append_assoc]
  ·simp
 refine ⟨o',lv',?_,h2.trans g2 h3.size,h3.trans g3 h2⟩
 rw [e];exact g1
theorem ξ5n {s t l q:Int} {st:Bool} {L:List Nat} (hf:PM.fault s t l q L.length=0):∃ x0 x1 x2 x3 x4 x5 x6 x7:Nat,pby s t l q st L=x0::x1::x2::x3::x4::x5::x6::x7::L/\(PM.good x0&&decide (x1<=127))=true/\((x2*256+x3:Nat):Int)=s/\((((x4*256+x5)*256+x6)*256+x7:Nat):Int)=t/\((x0%4:Nat):Int)=l/\(x1:Int)=q/\decide (160<=x0)=st:=by
 obtain ⟨s',t',l',q',rfl,rfl,rfl,rfl,h1,h2,h3,h4,h5⟩:=PM.ξt hf;obtain ⟨x0,x1,x2,x3,x4,x5,x6,x7,e,e1,e2,e3,e4,e5,e6⟩:=PM.ξab s' t' l' q' st h1 h2 h3;refine ⟨x0,x1,x2,x3,x4,x5,x6,x7,?_,?_,by rw [e5],by rw [e6],by rw [e1],by rw [e4],e2⟩
 ·unfold pby;simp only [Int.toNat_natCast]
  rw [e];rfl
 ·rw [e3,e4];simpa using h4
theorem ξ8S {s t l q:Int} {st:Bool} {L:List Nat} (hf:PM.fault s t l q L.length=0):PM.rfault (pby s t l q st L)=0:=by
 obtain ⟨x0,x1,x2,x3,x4,x5,x6,x7,e,e1,_⟩:=ξ5n (st:=st) hf;obtain ⟨_,_,_,_,_,_,_,_,_,_,_,_,h5⟩:=PM.ξt hf;rw [e,PM.ξ3a,if_pos e1,if_pos h5]
theorem ξ8P (s t l q:Int) (st:Bool) (a:Option Addr) (n cap:Nat) (L:List Nat) (w:World) (hA:Arg w a n (pby s t l q st L)) (hc:n<=cap) (hf:PM.fault s t l q L.length=0) :
 Calls prog 25 #[.slice a n cap] w fun e w'=>∃ a' c',e=.returned (.tuple #[.agg #[.int .i64 s,.int .i64 t,.int .i64 l,.int .i64 q,.bool st,.slice a' L.length c'],.nilIface])/\Below w.heap.size w w'/\Arg w' a' L.length L/\(a'=none->L.length=0/\c'=0)/\∀ ad,a'=some ad->w.heap.size<=ad.block:=by
 obtain ⟨x0,x1,x2,x3,x4,x5,x6,x7,e,e1,e2,e3,e4,e5,e6⟩:=ξ5n (st:=st) hf;obtain ⟨_,_,_,_,_,_,_,_,_,_,_,_,h5⟩:=PM.ξt hf;have hL:∀ c∈L,c<256:=fun c hcc=>hA.1.1 c (by rw [e];simp [hcc])
 rw [e] at hA;have hn:=hA.2.1
 simp at hn
 obtain ⟨b,o,rfl⟩:=Pack.ξ1n hA (by omega)
 refine (Pack.ξ5i b o n cap x0 x1 x2 x3 x4 x5 x6 x7 L w hA hc e1 h5).mono ?_
 rintro ev w' ⟨a',c',rfl,ho,hb⟩;rw [e2,e3,e4,e5,e6];obtain ⟨a2,c2,hv,q1,q2,q3,q4⟩:=ξy ho hL (by omega)
 cases hv
 exact ⟨a',c',rfl,hb,q1,q2,fun ad e=>by obtain ⟨g,rfl,hg⟩:=q4 ad e;exact hg⟩
theorem ξ9r (tk og ep h:Int) (a:Option Addr) (n cap:Nat) (B:List Nat) (w:World) (hA:Arg w a n (fby tk og ep h B)) (hc:n<=cap) (hB:∀ c∈B,c<256) (hf:FM.ffault tk og ep h B=0) :
 Calls prog 148 #[.slice a n cap] w fun e w'=>∃ a' m' c',e=.returned (.tuple #[.agg #[.int .i64 tk,.int .i64 og,.int .i64 ep,.int .i64 h,.slice a' m' c'],.nilIface])/\Below w.heap.size w w'/\Arg w' a' m' B/\m'<=c'/\∀ ad,a'=some ad->w.heap.size<=ad.block:=by
 obtain ⟨t',o',e',p',rfl,rfl,rfl,rfl,h1,h2,h3,h4,h5,h6⟩:=FM.ξ1R hf;obtain ⟨r1,r2⟩:=FM.ξad h1 h2 h3 h4 h5 h6 hB;have hA':=hA
 rw [show fby _ _ _ _ _=FM.fbytes t' o' e' p' B from Frame.ξ3u hf] at hA';have hlen:=hA'.2.1
 rw [FM.ξ4C] at hlen;have:=(FM.ξ2P h6).2
 refine (Frame.ξbd a n cap _ w hA' hc (by omega)).mono ?_
 rintro ev w' ⟨a',m',c',rfl,q1,q2,q3,q4,q5⟩;rw [r1,r2];rw [r2] at q2;exact ⟨a',m',c',rfl,q1,q2,q3,q5⟩
theorem ξbi {tk og ep h:Int} {B:List Nat} (hf:FM.ffault tk og ep h B=0):∃ R,fby tk og ep h B=70::R:=by
 obtain ⟨t',o',e',p',rfl,rfl,rfl,rfl,_⟩:=FM.ξ1R hf;rw [show fby _ _ _ _ _=FM.fbytes t' o' e' p' B from Frame.ξ3u hf];exact ⟨_,rfl⟩
def hrF (tr:Tr) (fr ep:Int):Nat:=if tr.pa=-1∨fr≠tr.pa∨ep≠tr.ep then 6 else 0
end Go.Proofs.YtpiamlgmadnepaaGreat.ND
