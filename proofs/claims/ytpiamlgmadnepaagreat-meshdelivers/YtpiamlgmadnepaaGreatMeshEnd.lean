/-
 What the proof needs.
-/
import Derived.Test.YtpiamlgmadnepaaGreatMeshMid
open Go.Proofs.Tryz
set_option linter.unusedVariables false
set_option maxHeartbeats 2000000
set_option maxRecDepth 100000
namespace Go.Proofs.YtpiamlgmadnepaaGreat.MS
open ChangeShapes WideShapes ChangeAt RowKit Maps Mem NO ND
variable {w w1 W:World}{a:Option Addr}{n b j i k m r:Nat}{L E:List TM.Ed}{o:Nat->Tg}{P:MP}{M:Ms}{N:Nd}{nw:Int}{p d:List Int}
theorem ξbV(h:Tree.A1t w a n L):∀ad,a=some ad->∀j u,(Tree.mc L)[j]?=some u->w.cell? (ad.add j)=some u:=by
 intro ad e j u hu;have hj:j<L.length*3:=by
  rcases Nat.lt_or_ge j (Tree.mc L).length with hl|hl
  ·rwa [Tree.ξ4H]at hl
  ·rw[List.getElem?_eq_none hl]at hu;cases hu
 obtain⟨b,o,e',h0,h1,h2⟩:=h.1 (j/3) (by omega);rw[e]at e';cases e';obtain⟨g0,g1,g2⟩:=Tree.ξ3u L (j/3) (by omega);have hc:j=j/3*3∨j=j/3*3+1∨j=j/3*3+2:=by omega
 have ea:(⟨b,o,none⟩:Addr).add j=⟨b,o+j,none⟩:=Addr.add_lit _ _ _;rw[ea];obtain⟨m,hm⟩:=nm (j/3);rw[hm]at h0 h1 h2 g0 g1 g2 hc;rcases hc with rfl|rfl|rfl
 ·rw[g0]at hu;cases hu;exact h0
 ·rw[g1]at hu;cases hu;exact h1
 ·rw[g2]at hu;cases hu;exact h2
theorem ξ1u(a:Option Addr)(n cap:Nat)(L:List TM.Ed)(w:World)(h:Tree.A1t w a n L)(hn:a=none->n=0/\cap=0)(hb:n<=1000) :
 Calls prog 35 #[.slice a n cap] w λe w'=>∃a' c',e=.returned (.slice a' n c')/\Tree.A1t w' a' n L/\n<=c'/\(∀ad,a'=some ad->w.heap.size<=ad.block)/\Below w.heap.size w w':=by
 have aq:∀(w:World) (a:Option Addr) (n c n' c':Nat),(binOp .eql 28 (.slice a n c) (.slice none n' c')).run prog w=.ok (.bool a.isNone) w:=λw a n c n' c'=>Lib.run_eql_slice_nil w _ _ a n c n' c' underlying28;cases a with
 | none=>
   obtain⟨rfl,rfl⟩:=hn rfl;have HA:=ξ0 h;clear h hn;go_enter func35,ntmps35;go_wp2_with fail
   go_ret;have:=HA.out.2.1;exact⟨none,0,rfl,HA.out,Ξo _,(λad e=>by cases e),Ξp _ _⟩
 | some ad=>
   obtain⟨i0,ae,ah,ai,aj⟩:∃i0,prog.info? 87=some i0/\i0.zero=some (.agg #[.int .i64 0,.int .i64 0,.int .i64 0])/\i0.size=3/\i0.bytes=24:=⟨_,rfl,rfl,rfl,rfl⟩;have hl:=h.2.1;have HC:=ξ0 (ξbV (h.below ((Ξp _ _).alloc (Ξo _) (.cells #[] 87))));have HO:Hid ((w.alloc (.cells #[] 87)).ownsRow w.heap.size 87 3 (.slice (some ⟨w.heap.size,0,none⟩) 0 0) 0 []):=ξ0 ⟨rfl,.inr ⟨w.heap.size,0,#[],rfl,Ξo _,heap_alloc_new w _,by omega,by unfold maxLen;omega,rfl,by simp⟩⟩;have HB:Hid (Below w.heap.size w (w.alloc (.cells #[] 87))):=ξ0 ((Ξp _ _).alloc (Ξo _) _);clear h hn;go_enter func35,ntmps35;go_wp2_with (at_builtin;refine ξ1N rfl _ _ 28 rfl w.heap.size 87 i0 _ 3 24 underlying28 ae ah ai aj rfl (by decide) (.slice (some ⟨w.heap.size,0,none⟩) 0 0) 0 [] rfl HO.out (some ad) n cap (Tree.mc L) rfl (by rw[Tree.ξ4H,hl]) (λe=>by cases e) HC.out (Tree.ξeY L) (by unfold maxLen;omega) (by omega) (by simp) ?_)
   intro v' w' ho hg;have ho:w'.ownsRow w.heap.size 87 3 v' n (Tree.mc L):=by first|exact ho|(rw[Nat.zero_add]at ho;exact ho)
   have am:Hid (Below w.heap.size w w'):=HB.out.grown hg HB.out.size (λj hj=>by simp[Value.ownBlock]at hj;omega);obtain⟨a',c',rfl,k1,k2,k3,k4⟩:=Tree.ξ8v ho (by omega);have HK:=ξ0 k1;have HG:Hid (∀ad,a'=some ad->w.heap.size<=ad.block):=ξ0 (λad e=>by
    obtain⟨g,rfl,q,_⟩:=k4 ad e;exact q)
   have HN:=ξ0 k3;clear ho hg HB HO HC k1 k2 k3 k4;go_wp2_with fail;go_ret;exact⟨a',c',rfl,HK.out,HN.out,HG.out,am.out⟩
def A2r(n:Nat)(E:List TM.Ed):Ms:=⟨0,n,λi=>nd0 (i:Int),E,λ_=>-1,[],[]⟩
def A5e(j:Nat)(E:List TM.Ed):Ms:=⟨0,0,λi=>nd0 (i:Int),E,λi=>if i<j then -1 else 0,[],[]⟩
def A3i(w w':World)(o:Nat->Tg)(b:Nat)(M:Ms):Prop:=∃o' P,MAt w' o' b P M/\Ext w o o'/\Below w.heap.size w w'/\w.heap.size<=b
theorem ξ9J{c:Nat}(h:Tree.A1t w1 a n L)(hc:n<=c)(hg:∀ad,a=some ad->w.heap.size<=ad.block)(hb:Below w.heap.size w w1) :
 A3i w (w1.alloc (.cells #[.int .i64 0,.slice none 0 0,.slice a n c,.int .i64 0,.int .i64 0,.int .i64 0,.int .i64 0,.int .i64 0,.int .i64 0,.int .i64 0,.int .i64 0,.slice none 0 0,.slice none 0 0] 96)) o w1.heap.size (A5e 0 L):=by
 obtain⟨O,hO⟩:=nm (Obj.cells #[.int .i64 0,.slice none 0 0,.slice a n c,.int .i64 0,.int .i64 0,.int .i64 0,.int .i64 0,.int .i64 0,.int .i64 0,.int .i64 0,.int .i64 0,.slice none 0 0,.slice none 0 0] 96 (0,0));have hs:=hb.size;have ae:=heap_alloc_new w1 O;rw[hO];have hB:Below w1.heap.size w1 (w1.alloc O):=(Ξp _ _).alloc (Ξo _) _;have hl:=h.2.1;refine⟨λk=>if k<w.heap.size then o k else if k=w1.heap.size then⟨1000,0,0⟩else⟨1000,2,0⟩,⟨λ_=>0,λ_=>⟨λ_=>⟨0,none,0,0,0,.slice none 0 0,0,0,0⟩,0,λ_=>⟨0,0,0,0,0,.slice none 0 0⟩,0,λ_=>0,.slice none 0 0⟩,.slice none 0 0,a,c,.slice none 0 0,.slice none 0 0⟩,?_,λk hk=>if_pos hk,hb.trans (hB.mono hs),hs⟩;refine⟨by show 0<=16;omega,⟨_,ae.trans (by rw[<-hO]),?_⟩,?_,Ξr _ _ _ _,?_,λi hi=>absurd hi (by show ¬i<0;omega),?_,?_,?_,Ξr _ _ _ _,?_,A5i.nil _ _,?_⟩
 ·refine⟨rfl,rfl,rfl,by show _=some (Value.slice a L.length c);rw[hl];rfl,?_,rfl,rfl⟩;intro i hi;rcases A9d hi with rfl|rfl|rfl|rfl|rfl|rfl|rfl|rfl<;>rfl
 ·show(if w1.heap.size<w.heap.size then _ else if w1.heap.size=w1.heap.size then _ else _)=_;rw[if_neg (by omega),if_pos rfl]
 ·intro k hk;simp[Value.ownBlock]at hk
 ·show Tree.A1t _ a L.length L;rw[hl];exact h.below hB
 ·show L.length<=c;omega
 ·intro ad e hm;have hm:0<L.length:=hm;have q1:=hg ad e;have q2:=ξ2e h e (by omega);show(if ad.block<w.heap.size then _ else if ad.block=w1.heap.size then _ else _)=_;rw[if_neg (by omega),if_neg (by omega)]
 ·intro k hk;simp[Value.ownBlock]at hk
 ·intro k hk;simp[Value.ownBlock]at hk
theorem ξbr(h:A3i w W o b (A5e j L))(hj:j<8) :
 W.cell? ⟨b,3+j,none⟩=some (.int .i64 0)/\W.frozen? ⟨b,3+j,none⟩=false/\A3i w (W.setCell ⟨b,3+j,none⟩ (.int .i64 (-1))) o b (A5e (j+1) L):=by
 obtain⟨o',P,h1,h2,h3,h4⟩:=h;have c:=h1.root hj;have e:(A5e j L).rt j=0:=if_neg (Nat.lt_irrefl j);rw[e]at c;obtain⟨g1,g2⟩:=h1.A7p (3+j) (.int .i64 (-1)) (A5e (j+1) L) (by
  intro cs h2;have hs:=h2.sz;refine⟨by simpa using hs,?_,?_,?_,?_,?_,?_⟩
  ·rw[Ξc (by omega)];exact h2.c0
  ·rw[Ξc (by omega)];exact h2.c1
  ·rw[Ξc (by omega)];exact h2.c2
  ·intro i hi;show _=some (Value.int .i64 (if i<j+1 then -1 else 0));by_cases q:i=j
   ·subst q;rw[Array.getElem?_setIfInBounds_self_of_lt (by omega),if_pos (by omega)]
   ·rw[Ξc (by omega),h2.cr i hi];show some (Value.int .i64 (if i<j then -1 else 0))=_;by_cases q2:i<j
    ·rw[if_pos q2,if_pos (by omega)]
    ·rw[if_neg q2,if_neg (by omega)]
  ·rw[Ξc (by omega)];exact h2.c11
  ·rw[Ξc (by omega)];exact h2.c12) rfl rfl rfl rfl rfl
 exact⟨c,h1.free _,o',P,g1,h2,h3.setCell h4 _,h4⟩
theorem ξbs(h:A3i w W o b (A5e 8 L)):A3i w W o b (A2r 0 L):=by
 obtain⟨o',P,h1,h2,h3,h4⟩:=h;refine⟨o',P,⟨h1.n16,?_,h1.tag,h1.nrow,h1.nrt,h1.nds,h1.edg,h1.edc,h1.edt,h1.srow,h1.srt,h1.fly,h1.flt⟩,h2,h3,h4⟩;obtain⟨cs,k1,k2⟩:=h1.box;refine⟨cs,k1,k2.sz,k2.c0,k2.c1,k2.c2,?_,k2.c11,k2.c12⟩;intro i hi;have:=k2.cr i hi;rw[this];show some (Value.int .i64 (if i<8 then -1 else 0))=_;rw[if_pos hi];rfl
def A8p(g:Tg):Prop:=g=⟨1000,0,0⟩∨g=⟨1000,1,0⟩
theorem ξ70{g:Tg}(h:A8p g):g.n=1000:=by rcases h with rfl|rfl<;>rfl
theorem A2t.A4u{cs:Array Value}(h:A2t cs P M)(v:Value)(nb:Nat->Nat)(np:Nat->NP)(n:Nat)(nd:Nat->Nd):A2t (cs.setIfInBounds 1 v) { P with nv:=v,nb:=nb,np:=np } { M with n:=n,nd:=nd }:=by
 have hs:=h.sz;refine⟨by simpa using h.sz,?_,?_,?_,?_,?_,?_⟩
 ·rw[Ξc (by omega)];exact h.c0
 ·rw[Array.getElem?_setIfInBounds_self_of_lt (by omega)]
 ·rw[Ξc (by omega)];exact h.c2
 ·intro i hi;rw[Ξc (by omega)];exact h.cr i hi
 ·rw[Ξc (by omega)];exact h.c11
 ·rw[Ξc (by omega)];exact h.c12
theorem MAt.nne(h:MAt w o b P M):∀k,P.nv.ownBlock=some k->k≠b:=by
 intro k hk e;have:=h.nrt k (by simp[hk]);rw[e,h.tag]at this;cases this
theorem ξda(f:Nat->Nat)(n x:Nat):npt (A0h f n x) (n+1)=npt f n++[.pointer (some ⟨x,0,none⟩)]:=by
 unfold npt;rw[List.range_succ,List.map_append]
 congr 1
 ·refine List.map_congr_left ?_;intro i hi;have:i<n:=by simpa using hi
  rw[ξh _ _ (by omega)]
 ·simp[ξe]
theorem ξ9D{w2:World}{nb:Nat}{Q:NP}{g cap:Nat}(h:MAt W o b P M)(hN:NAt W o (M.n+1) nb Q N)(h15:M.n<16)(hb:Below W.heap.size W w1)(hown:w2.ownsRow 0 97 1 (.slice (some ⟨g,0,none⟩) (M.n+1) cap) (M.n+1) (npt P.nb M.n++[.pointer (some ⟨nb,0,none⟩)]))(hgrow:w1.grownBy w2 P.nv.ownBlock)(hat:P.nv.ownBlock=some g∨W.heap.size<=g) :
 w2.cell? ⟨b,1,none⟩=some P.nv/\w2.frozen? ⟨b,1,none⟩=false/\∃o',MAt (w2.setCell ⟨b,1,none⟩ (.slice (some ⟨g,0,none⟩) (M.n+1) cap)) o' b { P with nv:=.slice (some ⟨g,0,none⟩) (M.n+1) cap,nb:=A0h P.nb M.n nb,np:=A0h P.np M.n Q } { M with n:=M.n+1,nd:=A0h M.nd M.n N }/\Ext W o o':=by
 obtain⟨cs,h1,h2⟩:=h.box;obtain⟨v',ah⟩:=nm (Value.slice (some ⟨g,0,none⟩) (M.n+1) cap);have ai:v'.ownBlock=some g:=by rw[<-ah];rfl
 rw[ah]at hown ⊢;have aj:=h.nne;have ho:Only P.nv.ownBlock.toList W w2:=(Only.of_below hb _).grown hgrow (by intro k hk;simp[hk]);have ae:w2.heap[b]?=some (.cells cs 96 (0,0)):=ho.block h1 (λhm=>aj b (by simpa using hm) rfl);have hO:Only (b::P.nv.ownBlock.toList) W (w2.setCell ⟨b,1,none⟩ v'):=(ho.mono (λk hk=>List.mem_cons_of_mem _ hk)).setCell (by simp) _;have hc:Chg o A8p W (w2.setCell ⟨b,1,none⟩ v'):=by
  refine Chg.A1j hO ?_ ?_
  ·intro k hk;rcases Ξf.1 hk with rfl|hk
   ·exact .inl h.tag
   ·exact .inr (h.nrt k hk)
  ·intro k hk;rcases Ξf.1 hk with rfl|hk
   ·exact h.A9k
   ·rcases h.nrow.2 with⟨e,_⟩|⟨g',cap',cur,e,_,hg,_⟩
    ·rw[e]at hk;simp[Value.ownBlock]at hk
    ·rw[e]at hk;simp[Value.ownBlock]at hk;subst hk;exact ξi hg (by decide)
 obtain⟨o',am⟩:=nm (grow o W ⟨1000,1,0⟩);have he:Ext W o o':=by rw[<-am];exact ξ3 _ _ _
 have h0:∀g,A8p g->g.n≠0:=λg hg=>by rw[ξ70 hg];decide
 have aq:(w2.setCell ⟨b,1,none⟩ v').heap[b]?=some (.cells (cs.setIfInBounds 1 v') 96 (0,0)):=heap_setCell_same w2 b 1 cs _ v' ae;refine⟨by simp[World.cell?,ae,h2.c1],by simp[World.frozen?,ae],o',⟨by show M.n+1<=16;omega,⟨_,aq,h2.A4u v' _ _ _ _⟩,(he _ h.lt).trans h.tag,?_,?_,?_,ξ1A h.edg hc h.edt (by simp[A8p]),h.edc,?_,ξK h.srow hc h.srt (by simp[A8p]),h.srt.ext he (λk hk=>ξB h.srow (by simpa using hk)),h.fly.chg hc h.flt (by simp[A8p]) h0 he,h.flt.ext he h.fly.lt⟩,he⟩
 ·show World.ownsRow _ 0 97 1 v' (M.n+1) (npt (A0h P.nb M.n nb) (M.n+1));rw[ξda];refine(Only.setCell (bs:=[b]) (Only.refl _ w2) (by simp) _).owns hown ?_;intro k hk;rw[ai]at hk;cases hk;simp only[Ξg];rcases hat with e|e
  ·exact aj g e
  ·have:=lt_of_block h1;omega
 ·intro k hk;have hk:k∈v'.ownBlock.toList:=hk;rw[ai]at hk;simp at hk;subst hk;rcases hat with e|e
  ·exact(he _ (ξB h.nrow e)).trans (h.nrt k (by simp[e]))
  ·rw[<-am];exact ξg e
 ·intro i hi;have hi:i<M.n+1:=hi;show NAt _ o' (i+1) (A0h P.nb M.n nb i) (A0h P.np M.n Q i) (A0h M.nd M.n N i);by_cases q:i=M.n
  ·subst q;rw[ξe,ξe,ξe];exact hN.chg hc (λg hg=>⟨h0 g hg,by rw[ξ70 hg];omega⟩) he
  ·rw[ξh _ _ q,ξh _ _ q,ξh _ _ q];exact(h.nds i (by omega)).chg hc (λg hg=>⟨h0 g hg,by rw[ξ70 hg];omega⟩) he
 ·intro ad e hm;rw[he _ (ξ2e h.edg e hm)];exact h.edt ad e hm
theorem ξeV(N:Int)(a:Option Addr)(n cap:Nat)(L:List TM.Ed)(w:World)(h:Tree.A1t w a n L)(hnc:n<=cap)(hf:TM.ef N L≠0) :
 Calls prog 6 #[.int .i64 N,.slice a n cap] w λe w'=>e=.returned (.tuple #[.pointer none,A0a (TM.ef N L)])/\Below w.heap.size w w':=by
 have CC:=ξ0 (Tree.ξa N a n cap L w h hnc);rw[show Tree.A0a (TM.ef N L)=A0a (TM.ef N L)from rfl]at CC;obtain⟨f,ae⟩:=nm (TM.ef N L);rw[ae]at CC hf ⊢;have q1:=ξq f;have q2:=ξp f;have d0:decide (f=0)=false:=by simpa using hf
 clear h hnc hf ae;go_enter func6,ntmps6;go_wp2_with fail
 refine CC.out.mono ?_;rintro e w1 ⟨rfl,hb⟩;have HB:=ξ0 hb;clear hb CC;go_wp2_with fail;go_ret2;exact⟨rfl,HB.out⟩
theorem ξ9I(j:Nat)(E:List TM.Ed):({ A2r j E with n:=j+1,nd:=A0h (A2r j E).nd j (nd0 (j:Int)) }:Ms)=A2r (j+1) E:=by
 have e:A0h (λi:Nat=>nd0 (i:Int)) j (nd0 (j:Int))=λi:Nat=>nd0 (i:Int):=by
  funext i
  by_cases q:i=j
  ·subst q;rw[ξe]
  ·rw[ξh _ _ q]
 show(⟨0,j+1,A0h (λi:Nat=>nd0 (i:Int)) j (nd0 (j:Int)),E,λ_=>-1,[],[]⟩:Ms)=_;rw[e];rfl
theorem ξbl(o:Nat->Tg)(ho:∀k,(o k).n≠1000)(nn:Nat)(a:Option Addr)(n cap:Nat)(L:List TM.Ed)(w:World)(h:Tree.A1t w a n L)(hn0:a=none->n=0/\cap=0)(hnc:n<=cap)(hf:TM.ef (nn:Int) L=0) :
 Calls prog 6 #[.int .i64 (nn:Int),.slice a n cap] w λe w'=>∃b,e=.returned (.tuple #[.pointer (some ⟨b,0,none⟩),.nilIface])/\A3i w w' o b (A2r nn L):=by
 obtain⟨_,ai⟩:=TM.ξ2d.1 hf;have aq:=ai.lo;have au:=ai.hi;have aD:=ai.len;have hl:=h.2.1;rw[Int.toNat_natCast]at aq au;have CC:=Tree.ξa (nn:Int) a n cap L w h hnc;rw[hf,show Tree.A0a 0=Value.nilIface from rfl]at CC;have CC:=ξ0 CC;obtain⟨D0,aG⟩:∃D0:World->Nat->Nat->Prop,(λW b j=>A3i w W o b (A5e j L))=D0:=⟨_,rfl⟩;have ah:∀W b j,D0 W b j↔A3i w W o b (A5e j L):=λW b j=>by rw[<-aG]
 obtain⟨D,hD⟩:∃D:World->Nat->Nat->Prop,(λW b j=>A3i w W o b (A2r j L))=D:=⟨_,rfl⟩;have aw:∀W b j,D W b j↔A3i w W o b (A2r j L):=λW b j=>by rw[<-hD]
 have aH:Hid (∀W,Below w.heap.size w W->Calls prog 35 #[.slice a n cap] W λe w'=>∃a' c',e=.returned (.slice a' n c')/\Hid (D0 (w'.alloc (.cells #[.int .i64 0,.slice none 0 0,.slice a' n c',.int .i64 0,.int .i64 0,.int .i64 0,.int .i64 0,.int .i64 0,.int .i64 0,.int .i64 0,.int .i64 0,.slice none 0 0,.slice none 0 0] 96)) w'.heap.size 0)):=by
  refine ξ0 ?_;intro W hB;refine(ξ1u a n cap L W (h.below hB) hn0 (by omega)).mono ?_;rintro e w' ⟨a',c',rfl,k1,k2,k3,k4⟩;exact⟨a',c',rfl,ξ0 ((ah _ _ _).2 (ξ9J k1 k2 (λad e=>Nat.le_trans hB.size (k3 ad e)) (hB.trans (k4.mono hB.size))))⟩
 have aI:Hid (∀W b j,D0 W b j->j<8->W.cell? ⟨b,3+j,none⟩=some (.int .i64 0)/\W.frozen? ⟨b,3+j,none⟩=false/\Hid (D0 (W.setCell ⟨b,3+j,none⟩ (.int .i64 (-1))) b (j+1))):=by
  refine ξ0 ?_;intro W b j hA hj;obtain⟨g1,g2,g3⟩:=ξbr ((ah _ _ _).1 hA) hj;exact⟨g1,g2,ξ0 ((ah _ _ _).2 g3)⟩
 have ax:Hid (∀W b,D0 W b 8->D W b 0):=ξ0 (λW b hA=>(aw _ _ _).2 (ξbs ((ah _ _ _).1 hA)));have ay:Hid (∀W b j,D W b j->j<nn->Calls prog 36 #[.int .i64 (j:Int)] W λe w'=>∃nb na nc xs,e=.returned (.tuple #[.pointer (some ⟨nb,0,none⟩),.nilIface])/\w'.cell? ⟨b,1,none⟩=some (.slice na j nc)/\Hid (w'.ownsRow 0 97 1 (.slice na j nc) j xs)/\Hid (∀g cap w2,w2.ownsRow 0 97 1 (.slice (some ⟨g,0,none⟩) (j+1) cap) (j+1) (xs++[.pointer (some ⟨nb,0,none⟩)])->(w'.alloc (.cells #[.pointer (some ⟨nb,0,none⟩)] 97)).grownBy w2 (Value.slice na j nc).ownBlock->((Value.slice na j nc).ownBlock=some g∨g=w'.heap.size+1)->w2.cell? ⟨b,1,none⟩=some (.slice na j nc)/\w2.frozen? ⟨b,1,none⟩=false/\Hid (D (w2.setCell ⟨b,1,none⟩ (.slice (some ⟨g,0,none⟩) (j+1) cap)) b (j+1)))):=by
  refine ξ0 ?_;intro W b j hA hj;obtain⟨o1,P1,g1,g2,g3,g4⟩:=(aw _ _ _).1 hA;refine(ND.ξ12 (j:Int) o1 (j+1) W (by simp[okN];omega)).mono ?_;rintro e w' ⟨nb,rfl,o2,Q,k1,k2,k3⟩;have hm:MAt w' o2 b P1 (A2r j L):=g1.chg (S:=λ_=>False) (Chg.of_below k3 _ _) (λg hg=>hg.elim) k2;obtain⟨na,nc,az⟩:∃na nc,P1.nv=.slice na j nc:=by
   rcases hm.nrow.2 with⟨e,h0⟩|⟨g,cap,cur,e,_⟩
   ·exact⟨none,0,by rw[e];show _=Value.slice none (A2r j L).n 0;rw[h0]⟩
   ·exact⟨_,_,e⟩
  have c1:=hm.cells.2.1;have row:=hm.nrow;rw[az]at c1 row;refine⟨nb,na,nc,npt P1.nb j,rfl,c1,ξ0 row,ξ0 ?_⟩;intro g aS w2 aj ae aC;have hB:Below w.heap.size w w':=g3.trans (k3.mono g3.size);obtain⟨s1,s2,o3,s3,s4⟩:=ξ9D hm (nb:=nb) (Q:=Q) (N:=nd0 (j:Int)) k1 (show j<16 by omega) ((Ξp _ _).alloc (Ξo _) (.cells #[.pointer (some ⟨nb,0,none⟩)] 97)) aj (by rw[az];exact ae) (by
   rw[az];rcases aC with e|e
   ·exact .inl e
   ·exact .inr (by omega))
  rw[az]at s1;have s3:MAt _ o3 b _ _:=s3;rw[show({ A2r j L with n:=(A2r j L).n+1,nd:=A0h (A2r j L).nd (A2r j L).n (nd0 (j:Int)) }:Ms)=A2r (j+1) L from ξ9I j L]at s3;refine⟨s1,s2,ξ0 ((aw _ _ _).2 ⟨o3,_,s3,(g2.trans k2 g3.size).trans s4 hB.size,?_,g4⟩)⟩;refine Below.setCell ?_ g4 _;refine(hB.alloc hB.size (.cells #[.pointer (some ⟨nb,0,none⟩)] 97)).grown ae (by have:=hB.size;simp;omega) ?_;intro k hk;have aJ:=hm.nrt k (by rw[az];simp[hk]);rcases Nat.lt_or_ge k w.heap.size with hlt|hge
  ·exfalso;rw[(g2.trans k2 g3.size) k hlt]at aJ;exact ho k (by rw[aJ])
  ·exact hge
 have am:Hid (∀W b,D W b nn->A3i w W o b (A2r nn L)):=ξ0 (λW b hA=>(aw _ _ _).1 hA);obtain⟨R,hR⟩:∃R:World->Nat->Prop,(λW b=>A3i w W o b (A2r nn L))=R:=⟨_,rfl⟩;have aL:∀W b,A3i w W o b (A2r nn L)=R W b:=λW b=>by rw[<-hR]
 simp only[aL]at am ⊢;obtain⟨i0,aT,aU,aV,aW⟩:∃i0,prog.info? 97=some i0/\i0.zero=some (.pointer none)/\i0.size=1/\i0.bytes=8:=⟨_,rfl,rfl,rfl,rfl⟩;clear h hn0 hnc hf ai aD hl aG ah hD aw hR aL ho aq;go_enter func6,ntmps6;go_wp2_with fail
 refine CC.out.mono ?_;rintro e w1 ⟨rfl,hb⟩;have C2:=ξ0 (aH.out w1 hb);clear hb CC aH;go_wp2_with fail;refine C2.out.mono ?_;rintro e w2 ⟨a',c',rfl,aM⟩;clear C2;obtain⟨b,aE⟩:=nm w2.heap.size;obtain⟨W3,aF⟩:=nm (w2.alloc (.cells #[.int .i64 0,.slice none 0 0,.slice a' n c',.int .i64 0,.int .i64 0,.int .i64 0,.int .i64 0,.int .i64 0,.int .i64 0,.int .i64 0,.int .i64 0,.slice none 0 0,.slice none 0 0] 96));rw[aF,aE]at aM;have aO:=ξ0 aF;have aP:=ξ0 aE;clear aF aE;go_upto_region 5 with fail;rw[aO.out,aP.out];clear aO aP;go_wp2_with fail;go_loopg [22] 8 (λg x wx=>∃j:Nat,j+g=8/\x=.int .i64 (j:Int)/\Hid (D0 wx b j))
 case atStart=>exact⟨0,by omega,rfl,aM⟩
 case round=>
  obtain⟨j,aZ,rfl,HD⟩:=hrel;by_cases hj:j<8
  ·have aQ:(j:Int)<8:=by omega
   obtain⟨k1,k2,HE⟩:=aI.out wr b j HD.out hj;clear HD;go_wp2_with fail;go_roundg (8-(j+1))
   case measure=>omega
   case rel=>exact⟨j+1,by omega,by go_num,HE⟩
  ·obtain rfl:j=8:=by omega
   have HE:=ξ0 (ax.out wr b HD.out);clear HD aI ax;go_wp2_with fail;go_loopg [32] nn (λg x wx=>∃j:Nat,j+g=nn/\x=.int .i64 (j:Int)/\Hid (D wx b j))
   case atStart=>exact⟨0,by omega,rfl,HE⟩
   case round=>
    obtain⟨j,aX,rfl,HD⟩:=hrel;by_cases hj2:j<nn
    ·have aQ:(j:Int)<(nn:Int):=by omega
     have CN:=ξ0 (ay.out wr b j HD.out hj2);clear HD;go_wp2_with fail;refine CN.out.mono ?_;rintro e w5 ⟨nb,na,nc,xs,rfl,c1,aA,HSt⟩;clear CN;go_wp2_with (at_builtin;refine wpList_append_lies _ rfl _ _ 90 rfl 0 97 i0 _ 1 8 underlying90 aT aU aV aW rfl (by decide) _ j xs rfl (aA.out.alloc _) ⟨w5.heap.size,0,none⟩ 1 1 [.pointer (some ⟨nb,0,none⟩)] rfl rfl (World.news_of_block (cs:=#[.pointer (some ⟨nb,0,none⟩)]) (t:=97) (fr:=(0,0)) (heap_alloc_new w5 _)) ?c2 (by omega) ?b1 ?b2 (Nat.zero_le _) (w5.heap.size+1) (by simp) ?next)
     case c2=>intro u hu;simp at hu;rw[hu];rfl
     case b1=>unfold maxLen;omega
     case b2=>omega
     case next=>
      intro g cap w6 aj ae aC _;obtain⟨k1,k2,aY⟩:=HSt.out g cap w6 aj ae aC;clear aj ae aC HSt aA c1;go_wp2_with fail;go_roundg (nn-(j+1))
      case measure=>omega
      case rel=>exact⟨j+1,by omega,by go_num,aY⟩
    ·have aQ:¬(j:Int)<(nn:Int):=by omega
     obtain rfl:nn=j:=by omega
     have HR:=ξ0 (am.out wr b HD.out);clear HD am ay;go_wp2_with fail;go_ret2;exact⟨b,rfl,HR.out⟩
theorem ξg4(hi:i<16):A0v n (nd0 (i:Int)):=
 ⟨⟨by show(0:Int)<=0;omega,by show(0:Int)<=1000000;omega⟩,⟨by show(0:Int)<=(i:Int);omega,by show(i:Int)<=15;omega⟩,λk _ t ht=>by simp[nd0]at ht,⟨List.Pairwise.nil,by simp[nd0],by simp[nd0],by show(0:Int)<=0;omega,by show(0:Int)<=1000000;omega⟩,λx hx=>by simp[nd0]at hx,⟨by show(0:Int)<=0;omega,by show(0:Int)<=0;omega⟩,PU.ξf9,λx hx=>by simp[nd0]at hx,PU.ξak (by omega) (by omega)⟩
theorem ξdd(h1:1<=n)(h16:n<=16):MOk (A2r n E):=
 ⟨h1,h16,⟨by show(0:Int)<=0;omega,by show(0:Int)<=1000000;omega⟩,λi hi=>⟨ξg4 (Ξn hi h16),rfl,by show(0:Int)<=0;omega,rfl⟩⟩
theorem ξfL{pa:Int}{K:List Int}(h0:0<=nw)(hp:pa=-1∨(0<=pa/\pa<n))(hk:∀x∈K,0<=x/\x<n)(hl:K.length<=16):A3h n nw k ((tr0 ((k:Int)+1) 1).to pa K):=
 ⟨rfl,⟨by show(0:Int)<=1;omega,by show(1:Int)<=65535;omega⟩,hp,hk,hl,GM.ξ1n (by omega) (by omega) (by omega) (by omega),h0,rfl,RM.ξ1n (by omega) (by omega),λx hx=>by simp[tr0,Tr.to]at hx⟩
theorem ξ4g{w':World}{S:Tg->Prop}{L:List Int}(h:Tree.A0b w a m L)(hc:Chg o S w w')(ht:∀ad,a=some ad->0<m->¬S (o ad.block)):Tree.A0b w' a m L:=by
 obtain⟨bs,q1,q2,q3⟩:=hc;refine⟨λj hj=>?_,h.2⟩;obtain⟨b',o',e,h0⟩:=h.1 j hj;have ae:b'∉bs:=λhx=>ht _ e (by have:=h.2.1;omega) (q2 _ hx);have hl:=Ξq w ⟨b',o'+j,none⟩ h0;exact⟨b',o',e,(ξr (q1.2.2.2.2 b' hl ae) _).trans h0⟩
theorem ξ3M{L:List Int}(h:Tree.A0b w a m L){ad:Addr}(e:a=some ad)(hm:0<m):ad.block<w.heap.size:=by
 obtain⟨b',o',e',h0⟩:=h.1 0 (by have:=h.2.1;omega);rw[e]at e';cases e';exact Ξq w ⟨b',o'+0,none⟩ h0
theorem ξga{L:List Int}(h:Tree.A0b w a m L):Gaps.A0b w a m L:=by
 refine⟨λj hj=>?_,h.2⟩;obtain⟨b,o,e,hc⟩:=h.1 j hj;refine⟨b,o,e,hc.trans ?_⟩;unfold TM.dg;simp[List.getD_eq_getElem?_getD,List.getElem?_eq_getElem hj]
theorem ξdq(P:List Int)(x:Int)(j:Nat):(TM.kd P x j).Nodup:=by
 unfold TM.kd;unfold List.Nodup;rw[List.pairwise_map];exact(List.Pairwise.filter _ List.nodup_range).imp (λhne e=>hne (Int.ofNat.inj e))
theorem ξed{P:List Int}{x:Int}{y:Int}(h:y∈TM.kd P x j):∃i:Nat,y=(i:Int)/\i<j/\TM.dg P i=x:=by
 unfold TM.kd at h;obtain⟨i,hi,rfl⟩:=Ξi.1 h;obtain⟨h1,h2⟩:=Ξj.1 hi;exact⟨i,rfl,by simpa using h1,by simpa using h2⟩
structure Trees(n r:Nat)(E:List TM.Ed)(p d:List Int):Prop where
 fit:TM.Fit n E
 rn:r<n
 dist:TM.A0z E n r d
 pars:TM.A15 E d n p
theorem Trees.A9q(h:Trees n r E p d):p.length=n:=h.pars.len
theorem Trees.lend(h:Trees n r E p d):d.length=n:=h.dist.len
theorem Trees.ok(h:Trees n r E p d):TM.Ok p:=TM.ξeM h.fit h.dist h.rn h.pars
theorem Trees.bf(h:Trees n r E p d)(hi:i<n):TM.bf p (i:Int)=0:=TM.ξgD h.ok (by rw[h.A9q];exact hi)
theorem Trees.kl(h:Trees n r E p d)(hi:i<n):Tree.kl p (i:Int)=TM.kd p (i:Int) n:=by
 unfold Tree.kl;rw[if_pos (h.bf hi),h.A9q]
theorem Trees.pa(h:Trees n r E p d)(hi:i<n):TM.dg p i=-1∨∃k:Nat,TM.dg p i=(k:Int)/\k<n/\k≠i/\TM.dg d k<TM.dg d i/\0<=TM.dg d k:=by
 have:=h.pars.range hi;by_cases c:0<=TM.dg p i
 ·obtain⟨k,e,h1,h2,h3,h4,h5,h6⟩:=TM.ξ2p h.dist h.rn h.pars hi c;refine .inr ⟨k,e,h1,?_,by omega,h4⟩;rintro rfl;omega
 ·exact .inl (by omega)
theorem Trees.pF(h:Trees n r E p d)(hi:i<n)(hk:k<8)(hid:N.id=(i:Int))(ht:N.tr k=none):ND.pF N ((k:Int)+1) (TM.dg p i) (TM.kd p (i:Int) n) 1=0:=by
 have ae:=h.fit.hi;unfold ND.pF;rw[if_neg (by simp[okT];omega),if_neg,if_neg (by omega),if_neg,if_neg,if_neg]
 ·unfold Nd.at
  rw[show(((k:Int)+1)-1).toNat=k by omega,ht];simp[old]
 ·unfold twc;simp[ξdq]
 ·rw[List.any_eq_true];rintro⟨y,hy,hb⟩;obtain⟨j,rfl,hj,hp⟩:=ξed hy;rcases h.pa hj with e|⟨m,e,m1,m2,m3,m4⟩
  ·omega
  ·have hm:m=i:=by omega
   subst hm;unfold A3z oth at hb;rw[hid]at hb;have e1:okN (j:Int)=true:=by simp[okN];omega
   have e2:decide ((j:Int)≠(m:Int))=true:=by simp;omega
   have e3:decide ((j:Int)=TM.dg p m)=false:=by
    rcases h.pa hi with q|⟨l,q,q1,q2,q3,q4⟩
    ·rw[q];simp
    ·rw[q];simp only[decide_eq_false_iff_not];intro hc;have:j=l:=by omega
     subst this;omega
   rw[e1,e2,e3]at hb;simp at hb
 ·rintro⟨h1,h2⟩;rcases h.pa hi with q|⟨l,q,q1,q2,q3,q4⟩
  ·exact h1 q
  ·unfold oth at h2;rw[hid,q]at h2;have e1:okN (l:Int)=true:=by simp[okN];omega
   have e2:decide ((l:Int)≠(i:Int))=true:=by simp;omega
   rw[e1,e2]at h2;cases h2
def trk(k:Nat)(p:List Int)(n i:Nat):Tr:=(tr0 ((k:Int)+1) 1).to (TM.dg p i) (TM.kd p (i:Int) n)
theorem Trees.trOk(h:Trees n r E p d)(hi:i<n)(h0:0<=nw):A3h n nw k (trk k p n i):=by
 refine ξfL h0 ?_ ?_ ?_
 ·rcases h.pa hi with q|⟨l,q,q1,_⟩
  ·exact .inl q
  ·exact .inr ⟨by omega,by omega⟩
 ·intro x hx;obtain⟨j,rfl,hj,_⟩:=ξed hx;omega
 ·have:=TM.ξ76 p (i:Int) n;have:=h.fit.hi;omega
def Ms.plan(M:Ms)(k i:Nat)(p:List Int):Ms:={ M with nd:=A0h M.nd i { M.nd i with tr:=A0f (M.nd i).tr k (trk k p M.n i) } }
theorem ξ7G(b k i r:Nat)(o:Nat->Tg)(P:MP)(M:Ms)(p d:List Int)(a:Option Addr)(cap:Nat)(w:World)(h:MAt w o b P M)(hK:MOk M)(hT:Trees M.n r M.E p d)(hk:k<8)(hi:i<M.n)(ht:(M.nd i).tr k=none)(hA:Tree.A0b w a M.n p)(ha:∀ad,a=some ad->0<M.n->(o ad.block).n=0) :
 Calls prog 39 #[.pointer (some ⟨b,0,none⟩),.int .i64 ((k:Int)+1),.slice a M.n cap,.int .i64 (i:Int)] w λe w'=>e=.returned .nilIface/\A0j w w' o b (M.plan k i p):=by
 have aE:=h.n16;obtain⟨kN,kL,kW,kI⟩:=hK.nd i hi;obtain⟨rb,rc,au,_⟩:=h.A5j hi;obtain⟨pb,po,rfl,aj⟩:=hA.at (by omega);have aw:=Tree.ξ9L (some ⟨pb,po,none⟩) M.n cap p (i:Int) w hA;rw[hT.bf hi,hT.kl hi]at aw;have ah:∀x∈(M.nd i).sb,x.2.tk≠(k:Int)+1:=by
  intro x hx e;obtain⟨_,k',q1,q2,q3⟩:=kN.sb x hx;have:k'=k:=by omega
  subst this;rw[ht]at q3;cases q3
 have ay:=hT.pF hi hk kI ht;obtain⟨A1,az⟩:∃A1:World->Prop,(λW=>A0j w W o b (M.plan k i p))=A1:=⟨_,rfl⟩;have ae:∀W,A1 W↔A0j w W o b (M.plan k i p):=λW=>by rw[<-az]
 have CK:Hid (Calls prog 84 #[.slice (some ⟨pb,po,none⟩) M.n cap,.int .i64 (i:Int)] w λe w'=>∃ka km kc,e=.returned (.tuple #[.slice ka km kc,.nilIface])/\(w'.drew.cell? ⟨b,1,none⟩=some (.slice (some ⟨rb,0,none⟩) M.n rc)/\w'.drew.cell? ⟨rb,i,none⟩=some (.pointer (some ⟨P.nb i,0,none⟩))/\w'.drew.cell? ⟨pb,po+i,none⟩=some (.int .i64 (TM.dg p i)))/\Hid (Calls prog 85 #[.pointer (some ⟨P.nb i,0,none⟩),.int .i64 ((k:Int)+1),.int .i64 (TM.dg p i),.slice ka km kc,.int .i64 1] w'.drew λe w2=>e=.returned .nilIface/\(w2.cell? ⟨b,1,none⟩=some (.slice (some ⟨rb,0,none⟩) M.n rc)/\w2.cell? ⟨rb,i,none⟩=some (.pointer (some ⟨P.nb i,0,none⟩))/\w2.cell? ⟨pb,po+i,none⟩=some (.int .i64 (TM.dg p i)))/\Hid (A1 w2))):=by
  refine ξ0 (aw.mono ?_);rintro e w' ⟨v,rfl,ax,hb⟩;obtain⟨ka,kc,rfl,k1,k2,k3,k4⟩:=Tree.ξl ax (by have:=TM.ξ76 p (i:Int) M.n;omega);have am:=hb.drew;have hM:=h.grow am ξ2;have aA:w'.drew.cell? ⟨pb,po+i,none⟩=some (.int .i64 (TM.dg p i)):=(hb.cell (p:=⟨pb,po+i,none⟩) (Ξq w _ (aj i hi))).trans (aj i hi);obtain⟨c1,c2⟩:=ξQ hM hi au;refine⟨ka,_,kc,rfl,⟨c1,c2,aA⟩,ξ0 ?_⟩;refine(ξcU (i+1) (P.nb i) (grow o w ξ2) (P.np i) (M.nd i) ((k:Int)+1) (TM.dg p i) 1 ka (TM.kd p (i:Int) M.n).length kc (TM.kd p (i:Int) M.n) w'.drew (by omega) (hM.nds i hi) kN.si (by rw[show((k:Int)+1-1).toNat=k by omega];exact ht) ah (ξga (k1.below ((Ξp _ _).drew))) k2 (by
   intro ad e hm;obtain⟨g,rfl,q1,q2⟩:=k4 ad e;rw[ξg q1];show 0≠i+1;omega) ay).mono ?_
  rintro e w2 ⟨rfl,hd⟩;obtain⟨o2,P2,r1,r2,r3,r4,r5,r6,r7⟩:=hM.node (i:=i) hi hd;obtain⟨d1,d2⟩:=ξQ r1 (show i<M.n from hi) (show P2.nv=.slice (some ⟨rb,0,none⟩) M.n rc by rw[r3];exact au);rw[r2]at d2;have aC:pb<w.heap.size:=Ξq w ⟨pb,po+i,none⟩ (aj i hi);have aF:w2.cell? ⟨pb,po+i,none⟩=some (.int .i64 (TM.dg p i)):=by
   obtain⟨bs,q1,q2,q3⟩:=r7;have aq:pb∉bs:=λhx=>by
    have:=q2 _ hx;rw[ξt aC]at this;unfold mine at this;have:=ha _ rfl (by omega);simp only at this;omega
   exact(ξr (q1.2.2.2.2 pb (Ξn aC am.size) aq) _).trans aA
  refine⟨rfl,⟨d1,d2,aF⟩,ξ0 ((ae _).2 ⟨o2,P2,?_,A0u.A16 ((ξ3 o w ξ2).trans r6 am.size),(Chg.of_below am o A1f).trans (ξ1a r7 (by omega) (by omega)) (ξ3 _ _ _)⟩)⟩;rw[show((k:Int)+1-1).toNat=k by omega]at r1;exact r1
 have ai:Hid (∀W,A1 W->A0j w W o b (M.plan k i p)):=ξ0 (λW hA=>(ae _).1 hA);obtain⟨R,hR⟩:=nm (M.plan k i p);rw[hR]at ai ⊢;obtain⟨nb,aq⟩:=nm (P.nb i);obtain⟨nn,aD⟩:=nm M.n;obtain⟨x,hx⟩:=nm (TM.dg p i);rw[aq,hx]at CK;rw[aD]at hi CK ⊢;have aH:(i:Int)<(nn:Int):=Int.ofNat_lt.2 hi;clear h hK hT hk ht hA ha aE kN kL kW kI au aj aw ah ay az ae hR aq aD hx;go_enter func39,ntmps39;go_wp2_with fail
 refine CK.out.mono ?_;rintro e w1 ⟨ka,km,kc,rfl,S0,CP⟩;clear CK;go_upto_region 4 with fail
 go_region_held3 (λw'=>w'.cell? ⟨b,1,none⟩=some (.slice (some ⟨rb,0,none⟩) nn rc)/\w'.cell? ⟨rb,i,none⟩=some (.pointer (some ⟨nb,0,none⟩))/\w'.cell? ⟨pb,po+i,none⟩=some (.int .i64 x)) (with_reducible assumption) (first|(go_at_call 85;refine CP.out.mono ?_;rintro e w4 ⟨rfl,aI,aG⟩))
 go_wp2_with fail
 go_ret;exact⟨rfl,ai.out _ aG.out⟩
def Ms.A1e(M:Ms)(k:Nat)(p d:List Int)(j:Nat):Ms:={ M with nd:=λi=>if i<j/\0<=TM.dg d i then { M.nd i with tr:=A0f (M.nd i).tr k (trk k p M.n i) }else M.nd i }
def Ms.A0g(M:Ms)(k r:Nat)(p d:List Int):Ms:={ M.A1e k p d M.n with rt:=A0h M.rt k (r:Int) }
theorem ξ4A(M:Ms)(k:Nat)(p d:List Int)(j:Nat):(M.A1e k p d j).nd j=M.nd j:=if_neg (λh=>Nat.lt_irrefl j h.1)
theorem ξ6P(M:Ms)(k:Nat)(p d:List Int):M.A1e k p d 0=M:=by
 have e:(λi=>if i<0/\0<=TM.dg d i then({ M.nd i with tr:=A0f (M.nd i).tr k (trk k p M.n i) }:Nd)else M.nd i)=M.nd:=by
  funext i
  rw[if_neg (λh=>by omega)]
 unfold Ms.A1e;rw[e]
theorem ξ6R(M:Ms)(k:Nat)(p d:List Int)(h:¬0<=TM.dg d j):M.A1e k p d (j+1)=M.A1e k p d j:=by
 have e:(λi=>if i<j+1/\0<=TM.dg d i then({ M.nd i with tr:=A0f (M.nd i).tr k (trk k p M.n i) }:Nd)else M.nd i)=(λi=>if i<j/\0<=TM.dg d i then({ M.nd i with tr:=A0f (M.nd i).tr k (trk k p M.n i) }:Nd)else M.nd i):=by
  funext i
  by_cases q:i=j
  ·subst q;rw[if_neg (λx=>h x.2),if_neg (λx=>h x.2)]
  ·by_cases q2:i<j/\0<=TM.dg d i
   ·rw[if_pos q2,if_pos ⟨by omega,q2.2⟩]
   ·rw[if_neg q2,if_neg (λx=>q2 ⟨by omega,x.2⟩)]
 unfold Ms.A1e;rw[e]
theorem ξ6Q(M:Ms)(k:Nat)(p d:List Int)(h:0<=TM.dg d j):(M.A1e k p d j).plan k j p=M.A1e k p d (j+1):=by
 have e:A0h (M.A1e k p d j).nd j { M.nd j with tr:=A0f (M.nd j).tr k (trk k p M.n j) }=(λi=>if i<j+1/\0<=TM.dg d i then({ M.nd i with tr:=A0f (M.nd i).tr k (trk k p M.n i) }:Nd)else M.nd i):=by
  funext i
  by_cases q:i=j
  ·subst q;rw[ξe,if_pos ⟨by omega,h⟩]
  ·rw[ξh _ _ q];show(if i<j/\0<=TM.dg d i then({ M.nd i with tr:=A0f (M.nd i).tr k (trk k p M.n i) }:Nd)else M.nd i)=_;by_cases q2:i<j/\0<=TM.dg d i
   ·rw[if_pos q2,if_pos ⟨by omega,q2.2⟩]
   ·rw[if_neg q2,if_neg (λx=>q2 ⟨by omega,x.2⟩)]
 unfold Ms.plan;rw[ξ4A];show({ M with nd:=A0h (M.A1e k p d j).nd j { M.nd j with tr:=A0f (M.nd j).tr k (trk k p M.n j) } }:Ms)={ M with nd:=_ };rw[e]
theorem MOk.A1e(h:MOk M)(hT:Trees M.n r M.E p d)(j:Nat):MOk (M.A1e k p d j):=by
 refine⟨h.n1,h.n16,h.nw,?_⟩;intro i hi;obtain⟨k1,k2,k3,k4⟩:=h.nd i hi;show A0v M.n (if i<j/\0<=TM.dg d i then({ M.nd i with tr:=A0f (M.nd i).tr k (trk k p M.n i) }:Nd)else M.nd i)/\(if i<j/\0<=TM.dg d i then({ M.nd i with tr:=A0f (M.nd i).tr k (trk k p M.n i) }:Nd)else M.nd i).lt=[]/\(if i<j/\0<=TM.dg d i then({ M.nd i with tr:=A0f (M.nd i).tr k (trk k p M.n i) }:Nd)else M.nd i).nw<=M.nw/\(if i<j/\0<=TM.dg d i then({ M.nd i with tr:=A0f (M.nd i).tr k (trk k p M.n i) }:Nd)else M.nd i).id=_;split
 ·exact⟨k1.A52 (hT.trOk hi k1.nw.1),k2,k3,k4⟩
 ·exact⟨k1,k2,k3,k4⟩
theorem MOk.A0g(h:MOk M)(hT:Trees M.n r M.E p d):MOk (M.A0g k r p d):=by
 have:=h.A1e (k:=k) hT M.n;exact⟨this.n1,this.n16,this.nw,this.nd⟩
theorem ξ65(b:Nat)(o:Nat->Tg)(P:MP)(M:Ms)(tk at':Int)(w:World)(h:MAt w o b P M)(hr:okT tk=false∨¬(0<=at'/\at'<(M.n:Int))) :
 Calls prog 8 #[.pointer (some ⟨b,0,none⟩),.int .i64 tk,.int .i64 at'] w λe w'=>e=.returned (A0a 1)/\w'=w:=by
 have CT:=ξ0 (ξk tk);have CI:=ξ0 (ξm b o P M at' w h);clear h;cases hT:okT tk with
 | false=>
   rw[hT]at CT;clear hr CI;go_enter func8,ntmps8;go_wp2_with fail
   refine(CT.out _).mono ?_;rintro e w1 ⟨rfl,rfl⟩;go_wp2_with fail;go_ret;exact⟨rfl,rfl⟩
 | true=>
   rw[hT]at CT hr;rw[decide_eq_false (hr.resolve_left (by simp))]at CI;clear hr;go_enter func8,ntmps8;go_wp2_with fail
   refine(CT.out _).mono ?_;rintro e w1 ⟨rfl,ae⟩;obtain rfl:w=w1:=ae.symm;go_wp2_with fail;refine CI.out.mono ?_;rintro e w1 ⟨rfl,ae⟩;obtain rfl:w=w1:=ae.symm;go_wp2_with fail;go_ret;exact⟨rfl,rfl⟩
theorem ξfG(b k r:Nat)(o:Nat->Tg)(P:MP)(M:Ms)(w:World)(h:MAt w o b P M)(hk:k<8)(hr:r<M.n)(hrt:M.rt k≠-1) :
 Calls prog 8 #[.pointer (some ⟨b,0,none⟩),.int .i64 ((k:Int)+1),.int .i64 (r:Int)] w λe w'=>e=.returned (A0a 7)/\w'=w:=by
 have CT:=ξ0 (ξk ((k:Int)+1));rw[show okT ((k:Int)+1)=true from by simp[okT];omega]at CT;have CI:=ξ0 (ξm b o P M (r:Int) w h);rw[decide_eq_true ⟨Int.natCast_nonneg r,Int.ofNat_lt.2 hr⟩]at CI;have cr:=h.root hk;obtain⟨x,hx⟩:=nm (M.rt k);rw[hx]at cr hrt;have e1:(x==-1)=false:=by simpa using hrt
 have e2:(x != -1)=true:=by simpa using hrt
 obtain⟨ah,ai,aj⟩:=ξ2I hk;clear h hr hrt hx hk;go_enter func8,ntmps8;go_wp2_with fail
 refine(CT.out _).mono ?_;rintro e w1 ⟨rfl,ae⟩;obtain rfl:w=w1:=ae.symm;go_wp2_with fail;refine CI.out.mono ?_;rintro e w1 ⟨rfl,ae⟩;obtain rfl:w=w1:=ae.symm;go_wp2_with fail;go_ret;exact⟨rfl,rfl⟩
theorem ξ66(b k r:Nat)(o:Nat->Tg)(P:MP)(M:Ms)(w:World)(h:MAt w o b P M)(hK:MOk M)(hE:TM.ef (M.n:Int) M.E=0)(hk:k<8)(hr:r<M.n)(hrt:M.rt k=-1)(htr:∀i,i<M.n->(M.nd i).tr k=none) :
 Calls prog 8 #[.pointer (some ⟨b,0,none⟩),.int .i64 ((k:Int)+1),.int .i64 (r:Int)] w λe w'=>e=.returned .nilIface/\∃p d,Trees M.n r M.E p d/\A0j w w' o b (M.A0g k r p d):=by
 have aH:=h.n16;have aI:=hK.n1;have CT:=ξ0 (ξk ((k:Int)+1));rw[show okT ((k:Int)+1)=true from by simp[okT];omega]at CT;have CI:=ξ0 (ξm b o P M (r:Int) w h);rw[decide_eq_true ⟨Int.natCast_nonneg r,Int.ofNat_lt.2 hr⟩]at CI;have cr:=h.root hk;rw[hrt]at cr;obtain⟨rb,rc,az,_⟩:=h.A5j hr;have am:Below w.heap.size w w.drew:=(Ξp _ _).drew;have au:∀W,Below w.heap.size w W->W.cell? ⟨b,1,none⟩=some (.slice (some ⟨rb,0,none⟩) M.n rc)/\W.cell? ⟨b,2,none⟩=some (.slice P.ea M.E.length P.ec):=by
  intro W hB;obtain⟨_,c1,c2,_⟩:=(h.below hB).cells;rw[az]at c1;exact⟨c1,c2⟩
 have aw:TM.lf (M.n:Int) M.E (r:Int)=0:=by
  unfold TM.lf;rw[if_neg (by simp[hE]),if_neg (by simp[TM.isn];omega)]
 obtain⟨D,hD⟩:∃D:World->Option Addr->Option Addr->List Int->List Int->Nat->Prop,(λW pa da p d j=>Trees M.n r M.E p d/\∃o' P',MAt W o' b P' (M.A1e k p d j)/\A0u w o o'/\Chg o A1f w W/\Tree.A0b W pa M.n p/\Tree.A0b W da M.n d/\(∀ad,pa=some ad->0<M.n->(o' ad.block).n=0)/\∀ad,da=some ad->0<M.n->(o' ad.block).n=0)=D:=⟨_,rfl⟩;have ai:∀W pa da p d j,D W pa da p d j↔Trees M.n r M.E p d/\∃o' P',MAt W o' b P' (M.A1e k p d j)/\A0u w o o'/\Chg o A1f w W/\Tree.A0b W pa M.n p/\Tree.A0b W da M.n d/\(∀ad,pa=some ad->0<M.n->(o' ad.block).n=0)/\∀ad,da=some ad->0<M.n->(o' ad.block).n=0:=λW pa da p d j=>by rw[<-hD]
 have HB:Hid (Calls prog 16 #[.int .i64 (M.n:Int),.slice P.ea M.E.length P.ec,.int .i64 (r:Int)] w.drew λe w'=>∃pa pc da dc p d,e=.returned (.tuple #[.slice pa M.n pc,.slice da M.n dc,.nilIface])/\(w'.cell? ⟨b,1,none⟩=some (.slice (some ⟨rb,0,none⟩) M.n rc)/\w'.cell? ⟨b,2,none⟩=some (.slice P.ea M.E.length P.ec))/\Hid (D w' pa da p d 0)):=by
  refine ξ0 ((Tree.ξ47 (M.n:Int) (r:Int) P.ea M.E.length P.ec M.E w.drew (h.below am).edg h.edc).mono ?_);rintro e w' ⟨vp,vd,p,d,rfl,hq⟩;obtain⟨q1,q2,q3⟩:=hq.bp.2 aw;rw[Int.toNat_natCast,Int.toNat_natCast]at q1;rw[Int.toNat_natCast]at q2;have ax:TM.Fit M.n M.E:=by have:=(TM.ξ2d.1 hE).2;rwa [Int.toNat_natCast]at this
  have hT:Trees M.n r M.E p d:=⟨ax,hr,q1,q2⟩;have hB:Below w.heap.size w w':=am.trans (hq.bel.mono am.size);have o1:=hq.own1;have o2:=hq.own2;rw[hT.A9q]at o1;rw[hT.lend]at o2;obtain⟨pa,pc,rfl,x1,x2,x3,x4⟩:=Tree.ξl o1 (by omega);obtain⟨da,dc,rfl,y1,y2,y3,y4⟩:=Tree.ξl o2 (by omega);rw[aw];refine⟨pa,pc,da,dc,p,d,rfl,au w' hB,ξ0 ((ai _ _ _ _ _ _).2 ⟨hT,grow o w ξ2,P,?_,A0u.A16 (ξ3 _ _ _),Chg.of_below hB _ _,x1,y1,?_,?_⟩)⟩
  ·rw[ξ6P];exact h.grow hB ξ2
  ·intro ad e _;obtain⟨g,rfl,q,_⟩:=x4 ad e;rw[ξg (show w.heap.size<=g from q)]
  ·intro ad e _;obtain⟨g,rfl,q,_⟩:=y4 ad e;rw[ξg (show w.heap.size<=g from q)]
 have ae:Hid (∀W pa da p d j,D W pa da p d j->j<M.n->∃db dO,da=some ⟨db,dO,none⟩/\W.cell? ⟨db,dO+j,none⟩=some (.int .i64 (TM.dg d j))):=by
  refine ξ0 ?_;intro W pa da p d j hA hj;obtain⟨hT,o',P',g1,g2,g3,g4,g5,g6,g7⟩:=(ai _ _ _ _ _ _).1 hA;obtain⟨db,dO,e,hc⟩:=g5.at (by omega);exact⟨db,dO,e,hc j hj⟩
 have aj:Hid (∀W pa da p d j,D W pa da p d j->TM.dg d j=-1->D W pa da p d (j+1)):=by
  refine ξ0 ?_;intro W pa da p d j hA hj;obtain⟨hT,o',P',g1,g2,g3,g4,g5,g6,g7⟩:=(ai _ _ _ _ _ _).1 hA;refine(ai _ _ _ _ _ _).2 ⟨hT,o',P',?_,g2,g3,g4,g5,g6,g7⟩;rw[ξ6R M k p d (by omega)];exact g1
 have ah:Hid (∀W pa pc da p d j,D W pa da p d j->j<M.n->TM.dg d j≠-1->Calls prog 39 #[.pointer (some ⟨b,0,none⟩),.int .i64 ((k:Int)+1),.slice pa M.n pc,.int .i64 (j:Int)] W λe w'=>e=.returned .nilIface/\Hid (D w' pa da p d (j+1))):=by
  refine ξ0 ?_;intro W pa pc da p d j hA hj hd;obtain⟨hT,o',P',g1,g2,g3,g4,g5,g6,g7⟩:=(ai _ _ _ _ _ _).1 hA;have aJ:=hT.dist.low j;refine(ξ7G b k j r o' P' (M.A1e k p d j) p d pa pc W g1 (hK.A1e hT j) hT hk hj (by rw[ξ4A];exact htr j hj) g4 g6).mono ?_;rintro e w' ⟨rfl,o2,P2,r1,r2,r3⟩;rw[ξ6Q M k p d (by omega)]at r1;have hz:∀(a:Option Addr) (L:List Int),Tree.A0b W a M.n L->(∀ad,a=some ad->0<M.n->(o' ad.block).n=0)->Tree.A0b w' a M.n L/\∀ad,a=some ad->0<M.n->(o2 ad.block).n=0:=by
   intro a L q1 q2;refine⟨ξ4g q1 r3 (λad e hm hs=>hs.1 (q2 ad e hm)),λad e hm=>?_⟩;rcases r2 ad.block (ξ3M q1 e hm)with e'|⟨_,e'⟩
   ·rw[e'];exact q2 ad e hm
   ·rw[e']
  exact⟨rfl,ξ0 ((ai _ _ _ _ _ _).2 ⟨hT,o2,P2,r1,g2.trans r2 g3.size,Chg.keep g3 r3 g2,(hz pa p g4 g6).1,(hz da d g5 g7).1,(hz pa p g4 g6).2,(hz da d g5 g7).2⟩)⟩
 have aq:Hid (∀W pa da p d,D W pa da p d M.n->W.cell? ⟨b,3+k,none⟩=some (.int .i64 (-1))/\W.frozen? ⟨b,3+k,none⟩=false/\∃p d,Trees M.n r M.E p d/\A0j w (W.setCell ⟨b,3+k,none⟩ (.int .i64 (r:Int))) o b (M.A0g k r p d)):=by
  refine ξ0 ?_;intro W pa da p d hA;obtain⟨hT,o',P',g1,g2,g3,g4,g5,g6,g7⟩:=(ai _ _ _ _ _ _).1 hA;have c:=g1.root hk;rw[show(M.A1e k p d M.n).rt k=-1 from hrt]at c;obtain⟨s1,s2⟩:=g1.A7p (3+k) (.int .i64 (r:Int)) (M.A0g k r p d) (by
   intro cs h2;have hs:=h2.sz;refine⟨by simpa using hs,?_,?_,?_,?_,?_,?_⟩
   ·rw[Ξc (by omega)];exact h2.c0
   ·rw[Ξc (by omega)];exact h2.c1
   ·rw[Ξc (by omega)];exact h2.c2
   ·intro i hi;show _=some (Value.int .i64 (A0h M.rt k (r:Int) i));by_cases q:i=k
    ·subst q;rw[Array.getElem?_setIfInBounds_self_of_lt (by omega),ξe]
    ·rw[Ξc (by omega),h2.cr i hi,ξh _ _ q];rfl
   ·rw[Ξc (by omega)];exact h2.c11
   ·rw[Ξc (by omega)];exact h2.c12) rfl rfl rfl rfl rfl
  exact⟨c,g1.free _,p,d,hT,o',P',s1,g2,Chg.keep g3 s2 g2⟩
 obtain⟨R,hR⟩:∃R:World->Prop,(λW=>∃p d,Trees M.n r M.E p d/\A0j w W o b (M.A0g k r p d))=R:=⟨_,rfl⟩;have aA:∀W,(∃p d,Trees M.n r M.E p d/\A0j w W o b (M.A0g k r p d))=R W:=λW=>by rw[<-hR]
 simp only[aA]at aq ⊢;have S0:=au w.drew am;obtain⟨nn,aC⟩:=nm M.n;obtain⟨el,aD⟩:=nm M.E.length;rw[aC]at S0 HB ae ah aq hr aH;rw[aD]at S0 HB;obtain⟨aP,aQ,aS⟩:=ξ2I hk;obtain⟨ea,aE⟩:=nm P.ea;obtain⟨ec,aF⟩:=nm P.ec;rw[aE,aF]at S0 HB;clear h hK hE hk hr hrt htr aI az am au aw hD ai hR aA aC aD aE aF;go_enter func8,ntmps8;go_wp2_with fail
 refine(CT.out _).mono ?_;rintro e w1 ⟨rfl,ay⟩;obtain rfl:w=w1:=ay.symm;go_wp2_with fail;refine CI.out.mono ?_;rintro e w1 ⟨rfl,ay⟩;obtain rfl:w=w1:=ay.symm;go_upto_region 5 with fail;clear cr CT CI;go_region_held3 (λw'=>w'.cell? ⟨b,1,none⟩=some (.slice (some ⟨rb,0,none⟩) nn rc)/\w'.cell? ⟨b,2,none⟩=some (.slice ea el ec)) (with_reducible assumption) (first|(go_at_call 16;refine HB.out.mono ?_;rintro e w4 ⟨pa,pc,da,dc,p,d,rfl,aL,aM⟩));clear aL HB S0;go_wp2_with fail;go_loopg [52] nn (λg x wx=>∃j:Nat,j+g=nn/\x=.int .i64 (j:Int)/\Hid (D wx pa da p d j))
 case atStart=>exact⟨0,by omega,rfl,aM⟩
 case round=>
  obtain⟨j,aT,rfl,HD⟩:=hrel;by_cases hj:j<nn
  ·have aO:(j:Int)<(nn:Int):=by omega
   obtain⟨db,dO,rfl,cd⟩:=ae.out wr pa da p d j HD.out hj;by_cases hd:TM.dg d j=-1
   ·rw[hd]at cd;have HE:=ξ0 (aj.out wr pa _ p d j HD.out hd);clear HD hd;go_wp2_with fail;go_roundg (nn-(j+1))
    case measure=>omega
    case rel=>exact⟨j+1,by omega,by go_num,HE⟩
   ·have CP:=ξ0 (ah.out wr pa pc _ p d j HD.out hj hd);obtain⟨x,hx⟩:=nm (TM.dg d j);rw[hx]at cd hd;have e1:(x==-1)=false:=by simpa using hd
    clear HD hd hx;go_wp2_with fail;refine CP.out.mono ?_;rintro e w5 ⟨rfl,HE⟩;go_wp2_with fail;go_roundg (nn-(j+1))
    case measure=>omega
    case rel=>exact⟨j+1,by omega,by go_num,HE⟩
  ·have aO:¬(j:Int)<(nn:Int):=by omega
   obtain rfl:nn=j:=by omega
   obtain⟨c1,c2,aG⟩:=aq.out wr pa da p d HD.out;have HR:=ξ0 aG;clear HD aq ae aj ah aG;go_wp2_with fail;go_ret;exact⟨rfl,HR.out⟩
end Go.Proofs.YtpiamlgmadnepaaGreat.MS
