/-
 What the proof needs.
-/
import Derived.Test.YtpiamlgmadnepaaGreatNodeEnd
import Derived.Test.YtpiamlgmadnepaaGreatBackEnd
open Go.Proofs.Tryz
set_option linter.unusedVariables false
set_option maxHeartbeats 1000000
set_option maxRecDepth 100000
namespace Go.Proofs.YtpiamlgmadnepaaGreat.ND
open ChangeShapes WideShapes ChangeAt RowKit Maps Go.Lib Mem NO
variable {w w':World}{P:TP}{t:Tr}{o:Nat->Tg}{n b i:Nat}{N:Nd}{nn uu:Int}{ll:GM.Its}{gv2:Value}{G2:List Int}
def sq(L:List Int):List Int:=L.map λy=>y%65536
structure QSt(w wr:World)(K:List Int)(v:Value):Prop where
 below:Below w.heap.size w wr
 own:wr.ownsRow w.heap.size 3 1 v K.length (Back.ic K)
theorem ξ4u(a:Option Addr)(n cap:Nat)(L:List Int)(w:World)(h:Back.A0b w a n L)(hL:∀y∈L,0<=y/\y<=1099511627776)(hn:n<=1000) :
 Calls prog 153 #[.slice a n cap] w λe w'=>∃v',e=.returned v'/\w'.ownsRow w.heap.size 3 1 v' (BM.norm (sq L)).length (Back.ic (BM.norm (sq L)))/\Below w.heap.size w w':=by
 have hl:=h.2.1;obtain⟨i0,aA,aC,aD,aE⟩:=info_parts Back.info3;have HH:=ξ0 h;have HL:=ξ0 hL;have HE:Hid (BM.norm (sq L)=compact ((sq (L.take n)).mergeSort λx y=>decide (x<=y))):=by
  rw[Ξl (by omega)];exact rfl
 have hT:∀j,(sq (L.take j)).length<=1000:=λj=>by simp[sq,List.length_take];omega
 have HT:=ξ0 hT;generalize BM.norm (sq L)=R at *;have aF:Hid (QSt w w (sq (L.take 0)) (.slice none 0 0)):=⟨Ξp _ _,Ξr _ _ _ _⟩;clear h hL hT;go_enter func153,ntmps153;go_wp2_with fail
 go_loopg [3,8] n (λg x y wr=>∃(j:Nat) (v:Value),j+g=n/\x=v/\y=.int .i64 (j:Int)/\Hid (QSt w wr (sq (L.take j)) v))
 case atStart=>exact⟨0,_,by omega,rfl,rfl,aF⟩
 case round=>
  obtain⟨j,v,aP,rfl,rfl,HS⟩:=hrel;have hk:=HT.out j;by_cases hj:j<n
  ·have aG:(j:Int)<(n:Int):=by omega
   obtain⟨b,o,rfl,am⟩:=HH.out.at (by omega);have c0:=am j hj;have aj:=Ξq w ⟨b,o+j,none⟩ c0;have aH:=(HS.out.below.cell (p:=⟨b,o+j,none⟩) aj).trans c0;obtain⟨y,hy⟩:=nm (L.getD j 0);rw[hy]at aH;have ah:y∈L:=by rw[<-hy,Ξa,Ξd (by omega)];exact List.getElem_mem _
   obtain⟨y0,y1⟩:=HL.out y ah;have aI:Hid (sq (L.take (j+1))=sq (L.take j)++[y%65536]):=by
    have e:L.take (j+1)=L.take j++[y]:=by
     rw[<-hy,Ξa,Ξd (by omega),Option.getD_some,List.take_append_getElem (by omega)]
    show _=_;rw[e,sq,List.map_append];rfl
   have aJ:y.tmod 65536=y%65536:=Int.tmod_eq_emod_of_nonneg y0;clear c0 am aj hy ah;generalize sq (L.take j)=T at *;go_wp2_with (at_builtin;refine wpList_append_own _ rfl _ _ 35 rfl w.heap.size 3 i0 _ 1 8 underlying35 aA aC aD aE rfl (by decide) _ T.length (Back.ic T) rfl (HS.out.own.alloc _) ⟨wr.heap.size,0,none⟩ 1 1 [.int .i64 (y%65536)] rfl rfl ?cc ?one ?b1 ?b2 ?b3 ?next)
   case cc=>exact Back.A50 _
   case one=>simp[Value.oneCell']
   case b1=>unfold maxLen;omega
   case b2=>omega
   case b3=>have:=HS.out.below.size;simp;omega
   case next=>
   intro v3 w' ai ae _;have aL:Hid (QSt w w' (T++[y%65536]) v3):=by
    refine⟨(HS.out.below.alloc HS.out.below.size _).grown ae (by have:=HS.out.below.size;simp;omega) (λj hj=>(HS.out.own.lt j hj).1),?_⟩;have e:Back.ic (T++[y%65536])=Back.ic T++[.int .i64 (y%65536)]:=by simp[Back.ic]
    rw[e,Ξh];exact ai
   clear ai ae;go_wp2_with fail;go_roundg (n-(j+1))
   case measure=>omega
   case rel=>exact⟨j+1,v3,by omega,rfl,by go_num,by rw[aI.out];exact aL⟩
  ·have aG:¬(j:Int)<(n:Int):=by omega
   have ej:j=n:=by omega
   subst ej;go_wp2_with fail;refine(Back.ξ1J _ _ _ _ _ HS.out.own (by omega)).mono ?_;rintro e w3 ⟨rfl,aq,au⟩;have aw:=ξ0 aq;have ax:=ξ0 (HS.out.below.grown au HS.out.below.size (λj hj=>(HS.out.own.lt j hj).1));clear aq au;go_wp2_with fail;refine(Back.ξ25 _ _ _ _ w3 aw.out (by omega)).mono ?_;rintro e w4 ⟨v4,rfl,aj,ay,az⟩;have aM:=ξ0 ay;have aO:=ξ0 (ax.out.grown az ax.out.size (λj hj=>(aw.out.lt j hj).1));clear ay az aj;go_wp2_with fail;go_ret;refine⟨v4,rfl,?_,aO.out⟩;have ho:=aM.out;rw[<-HE.out]at ho;exact ho
theorem ξfo(k t:Int)(a:Option Addr)(n cap:Nat)(u:Int)(L:List Int)(w:World)(h:Back.A0b w a n L)(hn:a=none->n=0/\cap=0)(hf:Back.A0o k t L u=0)(hlen:(Back.A0c k t L u).length<=2000) :
 Calls prog 184 #[.agg #[.int .i64 k,.int .i64 t,.slice a n cap,.int .i64 u]] w λe w'=>∃a' m c',e=.returned (.tuple #[.slice a' m c',.nilIface])/\Arg w' a' m (Back.A0c k t L u)/\m<=c'/\m<=2000/\Below w.heap.size w w'/\∀ad,a'=some ad->w.heap.size<=ad.block:=by
 obtain⟨hc,hp⟩:=Back.ξY hf;obtain⟨hk,t1,t8,u0,um,_⟩:=Back.ξ1k hc;obtain⟨k',rfl⟩:∃x:Nat,k=x:=⟨k.toNat,by omega⟩;obtain⟨t',rfl⟩:∃x:Nat,t=x:=⟨t.toNat,by omega⟩;obtain⟨u',rfl⟩:∃x:Nat,u=x:=⟨u.toNat,by omega⟩;refine(Back.ξ1W k' t' a n cap u' L w h hn hf).mono ?_;rintro e w' ⟨v',rfl,ho,hb⟩;obtain⟨a',c',rfl,hA,h0,h1,h2⟩:=ξy ho (Back.ξ5U (by omega) (by omega)) (by omega);exact⟨a',_,c',rfl,hA,h1,hlen,hb,λad e=>by obtain⟨g,rfl,hg⟩:=h2 ad e;exact hg⟩
theorem ξ1S(n b i:Nat)(o:Nat->Tg)(P:NP)(N:Nd)(tr:Tr)(k t u:Int)(a:Option Addr)(m cap:Nat)(L:List Int)(w:World)(hn:n≠0)(hN:NAt w o n b P N)(hi:i<8)(ht:N.tr i=some tr)(hpa:tr.pa≠-1)(hA:Back.A0b w a m L)(hno:a=none->m=0/\cap=0)(hf:Back.A0o k t L u=0)(hlen:(Back.A0c k t L u).length<=2000)(hl:N.lt.length<=1000000) :
 Calls prog 152 #[.pointer (some ⟨b,0,none⟩),.pointer (some ⟨(P.tp i).p,0,none⟩),.agg #[.int .i64 k,.int .i64 t,.slice a m cap,.int .i64 u]] w λe w'=>e=.returned (.tuple #[])/\Wrote w w' o n b P { N with lt:=N.lt++[(tr.pa,Back.A0c k t L u)] }:=by
 obtain⟨W0,aq⟩:=nm (w.alloc (.cells #[.int .i64 k,.int .i64 t,.slice a m cap,.int .i64 u] 242));have au:Below w.heap.size w W0:=by rw[<-aq];exact(Ξp _ _).alloc (Ξo _) _
 have ai:W0.heap[w.heap.size]?=some (.cells #[.int .i64 k,.int .i64 t,.slice a m cap,.int .i64 u] 242 (0,0)):=by rw[<-aq];exact heap_alloc_new w _
 have d0:W0.cell? ⟨w.heap.size,0,none⟩=some (.int .i64 k):=by simp[World.cell?,ai]
 have d1:W0.cell? ⟨w.heap.size,1,none⟩=some (.int .i64 t):=by simp[World.cell?,ai]
 have d2:W0.cell? ⟨w.heap.size,2,none⟩=some (.slice a m cap):=by simp[World.cell?,ai]
 have d3:W0.cell? ⟨w.heap.size,3,none⟩=some (.int .i64 u):=by simp[World.cell?,ai]
 have hT:=(hN.trs i hi tr ht).1;have aw:=(au.block (P.tp i).p (lt_of_block hT.box)).trans hT.box;have t2:W0.cell? ⟨(P.tp i).p,2,none⟩=some (.int .i64 tr.pa):=by simp[World.cell?,aw]
 have CE:=ξ0 (ξfo k t a m cap u L W0 (hA.below au) hno hf hlen);obtain⟨F,ax⟩:=nm (Back.A0c k t L u);rw[ax]at CE;rw[ax];obtain⟨pp,ay⟩:=nm ((P.tp i).p);rw[ay]at t2 aw;rw[ay];obtain⟨pa,ae⟩:=nm tr.pa;rw[ae]at t2 hpa;rw[ae];have e1:(pa==-1)=false:=by simpa using hpa
 obtain⟨pb,aF⟩:=nm w.heap.size;rw[aF]at d0 d1 d2 d3;have az:=ξ0 au;have HW:=ξ0 aq;have HN:=ξ0 hN;have aG:=ξ0 aw;have HL:=ξ0 hl;clear hA hno hf hlen au aq ai ax ay hN hT aw ht hpa ae hl;go_enter func152,ntmps152;go_upto_region 1 with fail
 rw[HW.out];go_wp2_with fail;refine CE.out.mono ?_;rintro e w1 ⟨a',m',c',rfl,aC,aj,am,aA,aD⟩;have ah:=az.out.trans (aA.mono az.out.size);have CW:=ξ0 (ξ3Q n b (grow o w ξ2) P N pa a' m' c' F w1 hn (HN.out.chg (S:=λ_=>False) (Chg.of_below ah _ _) (λg hg=>hg.elim) (ξ3 o w ξ2)) aC (λ_ ad e=>by rw[ξg (by have:=aD ad e;have:=az.out.size;omega)]) ⟨aj,am⟩ HL.out);have t3:=ξc aA t2;have aE:=ξ0 ah;clear aA ah aC aD aj am t2 d0 d1 d2 d3;go_wp2_with fail;refine CW.out.mono ?_;rintro e w2 ⟨rfl,o2,P2,r1,r2,r3⟩;have HD:Hid (Wrote w w2 o n b P { N with lt:=N.lt++[(pa,F)] }):=ξ0 ⟨o2,P2,r1,(ξ3 o w ξ2).trans r2 aE.out.size,(Chg.of_below aE.out _ _).trans r3 (ξ3 o w ξ2)⟩;clear r1 r2 r3;go_wp2_with fail
 go_end0
 exact⟨rfl,HD.out⟩
theorem ξ7O(a:Option Addr)(n cap:Nat)(L:List Int)(x:Int)(w:World)(h:Gaps.A0b w a n L) :
 Calls prog 185 #[.slice a n cap,.int .i64 x] w λe w'=>∃j:Int,e=.returned (.int .i64 j)/\(0<=j↔x∈L)/\w'=w:=by
 have hl:=h.2.1;have aq:=h.2.2;have HH:=ξ0 h;clear h;go_enter func185,ntmps185;go_wp2_with fail
 go_loopg [8] n (λg y wr=>∃j:Nat,j+g=n/\y=.int .i64 (j:Int)/\x∉L.take j/\w=wr)
 case atStart=>exact⟨0,by omega,rfl,by simp,rfl⟩
 case round=>
  obtain⟨j,ax,rfl,ae,rfl⟩:=hrel;by_cases hj:j<n
  ·have au:(j:Int)<(n:Int):=by omega
   obtain⟨b,o,rfl,aj⟩:=HH.out.at (by omega);have c0:=aj j hj;clear aj;have aw:j<L.length:=by omega
   obtain⟨y,hy⟩:=nm (L.getD j 0);rw[hy]at c0;have ai:L[j]?=some y:=by rw[<-hy,Ξa,Ξd aw];rfl
   by_cases hxy:x=y
   ·have e1:(x==y)=true:=by simpa using hxy
    have am:x∈L:=by rw[hxy];exact List.mem_of_getElem? ai
    have HI:=ξ0 am;clear hxy hy ai ae am;go_wp2_with fail;go_ret;exact⟨_,rfl,⟨λ_=>HI.out,λ_=>by omega⟩,rfl⟩
   ·have e1:(x==y)=false:=by simpa using hxy
    have ah:x∉L.take (j+1):=by
     rw[List.take_add_one,ai];simp[ae,hxy]
    have HX:=ξ0 ah;clear hxy hy ai ae ah;go_wp2_with fail;go_roundg (n-(j+1))
    case measure=>omega
    case rel=>exact⟨j+1,by omega,by go_num,HX.out,rfl⟩
  ·have au:¬(j:Int)<(n:Int):=by omega
   have ah:x∉L:=by rwa [Ξl (by omega)]at ae
   have HX:=ξ0 ah;clear ae ah;go_wp2_with fail;go_ret;exact⟨_,rfl,⟨λh=>absurd h (by omega),λh=>absurd h HX.out⟩,rfl⟩
theorem ξ2O(a:Option Addr)(n cap:Nat)(L:List Int)(x:Int)(w:World)(h:Gaps.A0b w a n L) :
 Calls prog 150 #[.slice a n cap,.int .i64 x] w λe w'=>e=.returned (.bool (decide (x∈L)))/\w'=w:=by
 have C:=ξ0 (ξ7O a n cap L x w h);clear h;go_enter func150,ntmps150;go_wp2_with fail
 refine C.out.mono ?_;rintro e w1 ⟨j,rfl,hj,rfl⟩;have ae:decide (0<=j)=decide (x∈L):=by simp only[hj]
 clear hj;go_wp2_with fail;go_ret;exact⟨rfl,rfl⟩
theorem ξdg(h:A1h w P t){i:Int×RM.Pk}(hi:i∈t.rM)(hw:(Lit.int .i64 i.1).wf=true) :
 (Instr.lookup 172 (.map (some P.wm)) (.int .i64 i.1) false).run prog w=.ok (.agg #[.int .i64 (t.wy i.1).1,.int .i64 (t.wy i.1).2]) w:=by
 obtain⟨D,ae,hK,hE⟩:=h.way;obtain⟨v',ps,ah,hr⟩:=ae.lookup Gaps.A09 underlying172 (zeroWY w) (GM.ξ2Q 0 0) (Gaps.A05 hw);have he:D.atKey (GM.key i.1) (.held (.agg #[.int .i64 0,.int .i64 0]))=.held (wv (t.wy i.1)):=hE i hi _;rw[he]at hr;have e:=(GM.ξ3P hr).2;simp only[Prod.mk.injEq,DataW.held.injEq]at e;rw[ah,<-e.1];rfl
def AgS(w':World)(pb pp wm:Nat)(p:RM.Pk)(a:Option Addr)(m c:Nat)(y og h:Int):Prop:=
 (w'.cell? ⟨pb,0,none⟩=some (.int .i64 p.s)/\w'.cell? ⟨pb,1,none⟩=some (.int .i64 p.t)/\w'.cell? ⟨pb,2,none⟩=some (.int .i64 p.l)/\w'.cell? ⟨pb,3,none⟩=some (.int .i64 p.q)/\w'.cell? ⟨pb,4,none⟩=some (.bool p.st)/\w'.cell? ⟨pb,5,none⟩=some (.slice a m c))/\w'.cell? ⟨pp,6,none⟩=some (.map (some wm))/\(Instr.lookup 172 (.map (some wm)) (.int .i64 y) false).run prog w'=.ok (.agg #[.int .i64 og,.int .i64 h]) w'
theorem ags{W:World}{P:NP}{tr:Tr}{pb:Nat}{p:RM.Pk}{a:Option Addr}{m c:Nat}{y og h:Int}(hN:NAt W o n b P N)(hi:i<8)(ht:N.tr i=some tr)(hbx:W.heap[pb]?=some (.cells #[.int .i64 p.s,.int .i64 p.t,.int .i64 p.l,.int .i64 p.q,.bool p.st,.slice a m c] 38 (0,0)))(hp:(y,p)∈tr.rM)(hw:tr.wy y=(og,h))(hwf:(Lit.int .i64 y).wf=true):AgS W pb (P.tp i).p (P.tp i).wm p a m c y og h:=by
 have hT:=(hN.trs i hi tr ht).1;have hl:=ξdg hT hp hwf;rw[hw]at hl;refine⟨⟨?_,?_,?_,?_,?_,?_⟩,?_,hl⟩
 any_goals (simp[World.cell?,hbx];done)
 simp[World.cell?,hT.box]
theorem ξ2I(hi:i<8):wrap64 ((i:Int)+1-1)=(i:Int)/\wrap64 (i:Int)=(i:Int)/\(i:Int)<8:=by
 unfold wrap64;omega
theorem nobG(h:A1h w P t):Nob w (Gaps.A01 P.g P.gm P.gv):=by
 obtain⟨D,h1,_,_⟩:=h.gap.map;intro k hk;simp only[Gaps.A01,Ξf,Option.mem_toList]at hk;rcases hk with rfl|rfl|hk
 ·exact ξi h.gap.box (by decide)
 ·exact ξ14 (RM.ξd h1)
 ·obtain⟨cs,hc⟩:=Gaps.ξD h.gap.row hk;exact ξi hc (by decide)
theorem A1h.gaps(h:A1h w P t)(hG:Gaps.ξ7 w' P.g P.gm 3 3 nn uu ll gv2 G2)(ho:Only (Gaps.A01 P.g P.gm P.gv) w w')(hfr:∀j,gv2.ownBlock=some j->P.gv.ownBlock=some j∨w.heap.size<=j):A1h w' { P with gv:=gv2 } { t with gn:=nn,gT:=uu,gM:=ll,gG:=G2 }:=by
 have m:=h.sepG;obtain⟨D,h1,h2,h3⟩:=h.way;refine⟨(ho.2.2.2.2 _ (lt_of_block h.box) (m _ (by simp))).trans h.box,ξ1F h.kid ho (λk hk=>m k (by simp[hk])),h.kno,hG,h.rng.only ho (m _ (by simp)) (m _ (by simp)) (nobG h),⟨D,ξP h1 ho (m _ (by simp)),h2,h3⟩,h.ap,?_⟩;intro k hk;obtain⟨k1,k2,k3,k4,k5⟩:=h.kap k hk;refine⟨k1,k2,k3,k4,?_⟩;intro hm;simp only[Gaps.A01,Ξf,Option.mem_toList]at hm k5;rcases hm with e|e|e
 ·exact k5 (.inl e)
 ·exact k5 (.inr (.inl e))
 ·rcases hfr k e with e|e
  ·exact k5 (.inr (.inr e))
  ·have:=ξ3M h.kid k hk;omega
theorem NAt.gaps{P:NP}(h:NAt w o n b P N)(hn:n≠0)(hi:i<8)(ht:N.tr i=some t)(hG:Gaps.ξ7 w' (P.tp i).g (P.tp i).gm 3 3 nn uu ll gv2 G2)(ho:Only (Gaps.A01 (P.tp i).g (P.tp i).gm (P.tp i).gv) w w')(hfr:∀j,gv2.ownBlock=some j->(P.tp i).gv.ownBlock=some j∨w.heap.size<=j) :
 NAt w' (grow o w ⟨n,3,i⟩) n b { P with tp:=A26 P.tp i { P.tp i with gv:=gv2 } } { N with tr:=A0f N.tr i { t with gn:=nn,gT:=uu,gM:=ll,gG:=G2 } }/\Chg o (mine n) w w':=by
 obtain⟨k1,k2⟩:=h.trs i hi t ht;have hc:Chg o (λg=>g=⟨n,3,i⟩) w w':=Chg.A1j ho (λk hk=>k2 k (by simp only[A0x,Ξf,Ξe];simp[hk])) (nobG k1);refine⟨h.trk hn hi hc (ξ3 o w _) ht rfl (k1.gaps hG ho hfr) ?_,ξx hc⟩;intro k hk;have ae:∀k,k∈A0x (P.tp i) t->grow o w ⟨n,3,i⟩ k=⟨n,3,i⟩:=λk hk=>(ξ3 o w _ k (k1.lt k hk)).trans (k2 k hk);simp only[A0x,Gaps.A01,Ξf,Ξe,Option.mem_toList]at hk;have ah:∀k,(k=(P.tp i).p∨k=(P.tp i).wm∨k=(P.tp i).r∨k=(P.tp i).rm∨(k=(P.tp i).g∨k=(P.tp i).gm∨(P.tp i).gv.ownBlock=some k)∨k∈A3u (P.tp i).ka t.kids)->k∈A0x (P.tp i) t:=by
  intro k hk;simp only[A0x,Gaps.A01,Ξf,Ξe,Option.mem_toList];exact hk
 rcases hk with e|e|e|e|(e|e|e)|e
 ·exact ae k (ah k (.inl e))
 ·exact ae k (ah k (.inr (.inl e)))
 ·exact ae k (ah k (.inr (.inr (.inl e))))
 ·exact ae k (ah k (.inr (.inr (.inr (.inl e)))))
 ·exact ae k (ah k (.inr (.inr (.inr (.inr (.inl (.inl e)))))))
 ·exact ae k (ah k (.inr (.inr (.inr (.inr (.inl (.inr (.inl e))))))))
 ·rcases hfr k e with e|e
  ·exact ae k (ah k (.inr (.inr (.inr (.inr (.inl (.inr (.inr e))))))))
  ·exact ξg e
 ·exact ae k (ah k (.inr (.inr (.inr (.inr (.inr e))))))
def Nd.asked(N:Nd)(i:Nat)(t:Tr)(now:Int):Nd:=
 { N with tr:=A0f N.tr i { t with gn:=now,gM:=GM.dM 3 3 now t.gM,gG:=[] },lt:=N.lt++(if GM.A07 3 3 now t.gM=[]then[]else[(t.pa,Back.A0c 1 t.tk (BM.norm (sq (GM.A07 3 3 now t.gM))) 0)]) }
end Go.Proofs.YtpiamlgmadnepaaGreat.ND
