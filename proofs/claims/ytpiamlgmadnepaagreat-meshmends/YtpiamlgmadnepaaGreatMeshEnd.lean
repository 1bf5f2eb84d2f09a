/-
 MeshQ, MeshR, MeshS in one text.
-/
import Derived.Test.YtpiamlgmadnepaaGreatMeshMid
open Go.Proofs.Tryz
set_option linter.unusedVariables false
set_option maxHeartbeats 2000000
set_option maxRecDepth 100000
namespace Go.Proofs.YtpiamlgmadnepaaGreat.MS
open Go.ChangeShapes Go.WideShapes Go.ChangeAt Go.RowKit Go.Maps Mem NO ND
theorem ξbm {w:World} {a:Option Addr} {n:Nat} {L:List TM.Ed} (h:Tree.EArg w a n L):∀ ad,a=some ad->∀ j u,(Tree.mc L)[j]?=some u->w.cell? (ad.add j)=some u:=by
 intro ad e j u hu;have hj:j<L.length*3:=by
  rcases Nat.lt_or_ge j (Tree.mc L).length with hl | hl
  ·rwa [Tree.ξ4v] at hl
  ·rw [List.getElem?_eq_none hl] at hu;cases hu
 obtain ⟨b,o,e',h0,h1,h2⟩:=h.1 (j / 3) (by omega)
 rw [e] at e';cases e'
 obtain ⟨g0,g1,g2⟩:=Tree.ξ3k L (j / 3) (by omega)
 have hc:j=j / 3*3∨j=j / 3*3+1∨j=j / 3*3+2:=by omega
 have ea:(⟨b,o,none⟩:Addr).add j=⟨b,o+j,none⟩:=Addr.add_lit _ _ _
 rw [ea];obtain ⟨m,hm⟩:∃ m,j / 3=m:=⟨_,rfl⟩;rw [hm] at h0 h1 h2 g0 g1 g2 hc;rcases hc with rfl | rfl | rfl
 ·rw [g0] at hu;cases hu;exact h0
 ·rw [g1] at hu;cases hu;exact h1
 ·rw [g2] at hu;cases hu;exact h2
theorem ξ1t (a:Option Addr) (n cap:Nat) (L:List TM.Ed) (w:World) (h:Tree.EArg w a n L) (hn:a=none->n=0/\cap=0) (hb:n<=1000) :
 Calls prog 35 #[.slice a n cap] w fun e w'=>∃ a' c',e=.returned (.slice a' n c')/\Tree.EArg w' a' n L/\n<=c'/\(∀ ad,a'=some ad->w.heap.size<=ad.block)/\Below w.heap.size w w':=by
 have q22:∀ (w:World) (a:Option Addr) (n c n' c':Nat),(binOp .eql 28 (.slice a n c) (.slice none n' c')).run prog w=.ok (.bool a.isNone) w:=fun w a n c n' c'=>Lib.run_eql_slice_nil w _ _ a n c n' c' underlying28
 cases a with
 | none=>
   obtain ⟨rfl,rfl⟩:=hn rfl;have HA:=ξ0 h
   clear h hn;go_enter func35,ntmps35
   go_wp2_with fail
   go_ret
   have:=HA.out.2.1
   exact ⟨none,0,rfl,HA.out,Ξo _,(fun ad e=>by cases e),Ξp _ _⟩
 | some ad=>
   obtain ⟨i0,hii,hz0,hz1,hz2⟩:∃ i0,prog.info? 87=some i0/\i0.zero=some (.agg #[.int .i64 0,.int .i64 0,.int .i64 0])/\i0.size=3/\i0.bytes=24:=⟨_,rfl,rfl,rfl,rfl⟩;have hl:=h.2.1
   have HC:=ξ0 (ξbm (h.below ((Ξp _ _).alloc (Ξo _) (.cells #[] 87))))
   have HO:Hid ((w.alloc (.cells #[] 87)).ownsRow w.heap.size 87 3 (.slice (some ⟨w.heap.size,0,none⟩) 0 0) 0 []):=ξ0 ⟨rfl,.inr ⟨w.heap.size,0,#[],rfl,Ξo _,heap_alloc_new w _,by omega,by unfold maxLen;omega,rfl,by simp⟩⟩
   have HB:Hid (Below w.heap.size w (w.alloc (.cells #[] 87))):=ξ0 ((Ξp _ _).alloc (Ξo _) _)
   clear h hn;go_enter func35,ntmps35
   go_wp2_with (at_builtin;refine ξ1K rfl _ _ 28 rfl w.heap.size 87 i0 _ 3 24 underlying28 hii hz0 hz1 hz2 rfl (by decide) (.slice (some ⟨w.heap.size,0,none⟩) 0 0) 0 [] rfl HO.out (some ad) n cap (Tree.mc L) rfl (by rw [Tree.ξ4v,hl]) (fun e=>by cases e) HC.out (Tree.ξdZ L) (by unfold maxLen;omega) (by omega) (by simp) ?_)
   intro v' w' ho hg;have ho:w'.ownsRow w.heap.size 87 3 v' n (Tree.mc L):=by first | exact ho | (rw [Nat.zero_add] at ho;exact ho)
   have HB':Hid (Below w.heap.size w w'):=HB.out.grown hg HB.out.size (fun j hj=>by simp [Value.ownBlock] at hj;omega)
   obtain ⟨a',c',rfl,k1,k2,k3,k4⟩:=Tree.ξ7Z ho (by omega)
   have HK:=ξ0 k1
   have HG:Hid (∀ ad,a'=some ad->w.heap.size<=ad.block):=ξ0 (fun ad e=>by
    obtain ⟨g,rfl,q,_⟩:=k4 ad e;exact q)
   have HN:=ξ0 k3
   clear ho hg HB HO HC k1 k2 k3 k4;go_wp2_with fail
   go_ret
   exact ⟨a',c',rfl,HK.out,HN.out,HG.out,HB'.out⟩
def mesh0 (n:Nat) (E:List TM.Ed):Ms:=⟨0,n,fun i=>nd0 (i:Int),E,fun _=>-1,[],[]⟩
def mesh1 (j:Nat) (E:List TM.Ed):Ms:=⟨0,0,fun i=>nd0 (i:Int),E,fun i=>if i<j then -1 else 0,[],[]⟩
def MMade (w w':World) (o:Nat->Tg) (b:Nat) (M:Ms):Prop:=∃ o' P,MAt w' o' b P M/\Ext w o o'/\Below w.heap.size w w'/\w.heap.size<=b
theorem ξ98 {w w1:World} {o:Nat->Tg} {a:Option Addr} {n c:Nat} {L:List TM.Ed} (h:Tree.EArg w1 a n L) (hc:n<=c) (hg:∀ ad,a=some ad->w.heap.size<=ad.block) (hb:Below w.heap.size w w1) :
 MMade w (w1.alloc (.cells #[.int .i64 0,.slice none 0 0,.slice a n c,.int .i64 0,.int .i64 0,.int .i64 0,.int .i64 0,.int .i64 0,.int .i64 0,.int .i64 0,.int .i64 0,.slice none 0 0,.slice none 0 0] 96)) o w1.heap.size (mesh1 0 L):=by
 obtain ⟨O,hO⟩:∃ O,Obj.cells #[.int .i64 0,.slice none 0 0,.slice a n c,.int .i64 0,.int .i64 0,.int .i64 0,.int .i64 0,.int .i64 0,.int .i64 0,.int .i64 0,.int .i64 0,.slice none 0 0,.slice none 0 0] 96 (0,0)=O:=⟨_,rfl⟩;have hs:=hb.size
 have hbx:=heap_alloc_new w1 O
 rw [hO];have hB:Below w1.heap.size w1 (w1.alloc O):=(Ξp _ _).alloc (Ξo _) _
 have hl:=h.2.1
 refine ⟨fun k=>if k<w.heap.size then o k else if k=w1.heap.size then ⟨1000,0,0⟩ else ⟨1000,2,0⟩,⟨fun _=>0,fun _=>⟨fun _=>⟨0,none,0,0,0,.slice none 0 0,0,0,0⟩,0,fun _=>⟨0,0,0,0,0,.slice none 0 0⟩,0,fun _=>0,.slice none 0 0⟩,.slice none 0 0,a,c,.slice none 0 0,.slice none 0 0⟩,?_,fun k hk=>if_pos hk,hb.trans (hB.mono hs),hs⟩
 refine ⟨by show 0<=16;omega,⟨_,hbx.trans (by rw [<- hO]),?_⟩,?_,Ξr _ _ _ _,?_,fun i hi=>absurd hi (by show ¬ i<0;omega),?_,?_,?_,Ξr _ _ _ _,?_,FlAt.nil _ _,?_⟩
 ·refine ⟨rfl,rfl,rfl,by show _=some (Value.slice a L.length c);rw [hl];rfl,?_,rfl,rfl⟩
  intro i hi;rcases upto8 hi with rfl | rfl | rfl | rfl | rfl | rfl | rfl | rfl<;>rfl
 ·show (if w1.heap.size<w.heap.size then _ else if w1.heap.size=w1.heap.size then _ else _)=_
  rw [if_neg (by omega),if_pos rfl]
 ·intro k hk;simp [Value.ownBlock] at hk
 ·show Tree.EArg _ a L.length L
  rw [hl];exact h.below hB
 ·show L.length<=c
  omega
 ·intro ad e hm;have hm:0<L.length:=hm
  have q1:=hg ad e
  have q2:=ξ28 h e (by omega)
  show (if ad.block<w.heap.size then _ else if ad.block=w1.heap.size then _ else _)=_
  rw [if_neg (by omega),if_neg (by omega)]
 ·intro k hk;simp [Value.ownBlock] at hk
 ·intro k hk;simp [Value.ownBlock] at hk
theorem ξaR {w W:World} {o:Nat->Tg} {b j:Nat} {L:List TM.Ed} (h:MMade w W o b (mesh1 j L)) (hj:j<8) :
 W.cell? ⟨b,3+j,none⟩=some (.int .i64 0)/\W.frozen? ⟨b,3+j,none⟩=false/\MMade w (W.setCell ⟨b,3+j,none⟩ (.int .i64 (-1))) o b (mesh1 (j+1) L):=by
 obtain ⟨o',P,h1,h2,h3,h4⟩:=h;have c:=h1.root hj
 have e:(mesh1 j L).rt j=0:=if_neg (Nat.lt_irrefl j)
 rw [e] at c;obtain ⟨g1,g2⟩:=h1.setBox (3+j) (.int .i64 (-1)) (mesh1 (j+1) L) (by
  intro cs h2;have hs:=h2.sz
  refine ⟨by simpa using hs,?_,?_,?_,?_,?_,?_⟩
  ·rw [Ξc (by omega)];exact h2.c0
  ·rw [Ξc (by omega)];exact h2.c1
  ·rw [Ξc (by omega)];exact h2.c2
  ·intro i hi;show _=some (Value.int .i64 (if i<j+1 then -1 else 0))
   by_cases q:i=j
   ·subst q;rw [Array.getElem?_setIfInBounds_self_of_lt (by omega),if_pos (by omega)]
   ·rw [Ξc (by omega),h2.cr i hi]
    show some (Value.int .i64 (if i<j then -1 else 0))=_
    by_cases q2:i<j
    ·rw [if_pos q2,if_pos (by omega)]
    ·rw [if_neg q2,if_neg (by omega)]
  ·rw [Ξc (by omega)];exact h2.c11
  ·rw [Ξc (by omega)];exact h2.c12) rfl rfl rfl rfl rfl
 exact ⟨c,h1.free _,o',P,g1,h2,h3.setCell h4 _,h4⟩
theorem ξaS {w W:World} {o:Nat->Tg} {b:Nat} {L:List TM.Ed} (h:MMade w W o b (mesh1 8 L)):MMade w W o b (mesh0 0 L):=by
 obtain ⟨o',P,h1,h2,h3,h4⟩:=h;refine ⟨o',P,⟨h1.n16,?_,h1.tag,h1.nrow,h1.nrt,h1.nds,h1.edg,h1.edc,h1.edt,h1.srow,h1.srt,h1.fly,h1.flt⟩,h2,h3,h4⟩
 obtain ⟨cs,k1,k2⟩:=h1.box;refine ⟨cs,k1,k2.sz,k2.c0,k2.c1,k2.c2,?_,k2.c11,k2.c12⟩
 intro i hi;have:=k2.cr i hi
 rw [this];show some (Value.int .i64 (if i<8 then -1 else 0))=_
 rw [if_pos hi];rfl
def ntag (g:Tg):Prop:=g=⟨1000,0,0⟩∨g=⟨1000,1,0⟩
theorem ξ6F {g:Tg} (h:ntag g):g.n=1000:=by rcases h with rfl | rfl<;>rfl
theorem MCells.setN {cs:Array Value} {P:MP} {M:Ms} (h:MCells cs P M) (v:Value) (nb:Nat->Nat) (np:Nat->NP) (n:Nat) (nd:Nat->Nd):MCells (cs.setIfInBounds 1 v) { P with nv:=v,nb:=nb,np:=np } { M with n:=n,nd:=nd }:=by
 have hs:=h.sz
 refine ⟨by simpa using h.sz,?_,?_,?_,?_,?_,?_⟩
 ·rw [Ξc (by omega)];exact h.c0
 ·rw [Array.getElem?_setIfInBounds_self_of_lt (by omega)]
 ·rw [Ξc (by omega)];exact h.c2
 ·intro i hi;rw [Ξc (by omega)]
  exact h.cr i hi
 ·rw [Ξc (by omega)];exact h.c11
 ·rw [Ξc (by omega)];exact h.c12
theorem MAt.nne {w:World} {o:Nat->Tg} {b:Nat} {P:MP} {M:Ms} (h:MAt w o b P M):∀ k,P.nv.ownBlock=some k->k≠b:=by
 intro k hk e;have:=h.nrt k (by simp [hk])
 rw [e,h.tag] at this;cases this
theorem ξcs (f:Nat->Nat) (n x:Nat):npt (updN f n x) (n+1)=npt f n++[.pointer (some ⟨x,0,none⟩)]:=by
 unfold npt;rw [List.range_succ,List.map_append]
 congr 1
 ·refine List.map_congr_left ?_
  intro i hi;have:i<n:=by simpa using hi
  rw [ξf _ _ (by omega)]
 ·simp [ξ9]
theorem ξ92 {W w1 w2:World} {o:Nat->Tg} {b nb:Nat} {P:MP} {M:Ms} {Q:NP} {N:Nd} {g cap:Nat} (h:MAt W o b P M) (hN:NAt W o (M.n+1) nb Q N) (h15:M.n<16) (hb:Below W.heap.size W w1) (hown:w2.ownsRow 0 97 1 (.slice (some ⟨g,0,none⟩) (M.n+1) cap) (M.n+1) (npt P.nb M.n++[.pointer (some ⟨nb,0,none⟩)])) (hgrow:w1.grownBy w2 P.nv.ownBlock) (hat:P.nv.ownBlock=some g∨W.heap.size<=g) :
 w2.cell? ⟨b,1,none⟩=some P.nv/\w2.frozen? ⟨b,1,none⟩=false/\∃ o',MAt (w2.setCell ⟨b,1,none⟩ (.slice (some ⟨g,0,none⟩) (M.n+1) cap)) o' b { P with nv:=.slice (some ⟨g,0,none⟩) (M.n+1) cap,nb:=updN P.nb M.n nb,np:=updN P.np M.n Q } { M with n:=M.n+1,nd:=updN M.nd M.n N }/\Ext W o o':=by
 obtain ⟨cs,h1,h2⟩:=h.box;obtain ⟨v',hv'⟩:∃ v',Value.slice (some ⟨g,0,none⟩) (M.n+1) cap=v':=⟨_,rfl⟩;have hvo:v'.ownBlock=some g:=by rw [<- hv'];rfl
 rw [hv'] at hown ⊢;have hne:=h.nne
 have ho:Only P.nv.ownBlock.toList W w2:=(Only.of_below hb _).grown hgrow (by intro k hk;simp [hk])
 have hb2:w2.heap[b]?=some (.cells cs 96 (0,0)):=ho.block h1 (fun hm=>hne b (by simpa using hm) rfl)
 have hO:Only (b::P.nv.ownBlock.toList) W (w2.setCell ⟨b,1,none⟩ v'):=(ho.mono (fun k hk=>List.mem_cons_of_mem _ hk)).setCell (by simp) _
 have hc:Chg o ntag W (w2.setCell ⟨b,1,none⟩ v'):=by
  refine Chg.of_only hO ?_ ?_
  ·intro k hk;rcases Ξf.1 hk with rfl | hk
   ·exact .inl h.tag
   ·exact .inr (h.nrt k hk)
  ·intro k hk;rcases Ξf.1 hk with rfl | hk
   ·exact h.nobB
   ·rcases h.nrow.2 with ⟨e,_⟩ | ⟨g',cap',cur,e,_,hg,_⟩
    ·rw [e] at hk;simp [Value.ownBlock] at hk
    ·rw [e] at hk;simp [Value.ownBlock] at hk
     subst hk;exact ξj hg (by decide)
 obtain ⟨o',ho'⟩:∃ o',grow o W ⟨1000,1,0⟩=o':=⟨_,rfl⟩;have he:Ext W o o':=by rw [<- ho'];exact ξ3 _ _ _
 have h0:∀ g,ntag g->g.n≠0:=fun g hg=>by rw [ξ6F hg];decide
 have hbs:(w2.setCell ⟨b,1,none⟩ v').heap[b]?=some (.cells (cs.setIfInBounds 1 v') 96 (0,0)):=heap_setCell_same w2 b 1 cs _ v' hb2
 refine ⟨by simp [World.cell?,hb2,h2.c1],by simp [World.frozen?,hb2],o',⟨by show M.n+1<=16;omega,⟨_,hbs,h2.setN v' _ _ _ _⟩,(he _ h.lt).trans h.tag,?_,?_,?_,ξ1z h.edg hc h.edt (by simp [ntag]),h.edc,?_,ξG h.srow hc h.srt (by simp [ntag]),h.srt.ext he (fun k hk=>ξB h.srow (by simpa using hk)),h.fly.chg hc h.flt (by simp [ntag]) h0 he,h.flt.ext he h.fly.lt⟩,he⟩
 ·show World.ownsRow _ 0 97 1 v' (M.n+1) (npt (updN P.nb M.n nb) (M.n+1))
  rw [ξcs];refine (Only.setCell (bs:=[b]) (Only.refl _ w2) (by simp) _).owns hown ?_
  intro k hk;rw [hvo] at hk;cases hk
  simp only [Ξg]
  rcases hat with e | e
  ·exact hne g e
  ·have:=lt_of_block h1;omega
 ·intro k hk;have hk:k∈v'.ownBlock.toList:=hk
  rw [hvo] at hk;simp at hk
  subst hk;rcases hat with e | e
  ·exact (he _ (ξB h.nrow e)).trans (h.nrt k (by simp [e]))
  ·rw [<- ho'];exact ξh e
 ·intro i hi;have hi:i<M.n+1:=hi
  show NAt _ o' (i+1) (updN P.nb M.n nb i) (updN P.np M.n Q i) (updN M.nd M.n N i)
  by_cases q:i=M.n
  ·subst q;rw [ξ9,ξ9,ξ9];exact hN.chg hc (fun g hg=>⟨h0 g hg,by rw [ξ6F hg];omega⟩) he
  ·rw [ξf _ _ q,ξf _ _ q,ξf _ _ q];exact (h.nds i (by omega)).chg hc (fun g hg=>⟨h0 g hg,by rw [ξ6F hg];omega⟩) he
 ·intro ad e hm;rw [he _ (ξ28 h.edg e hm)];exact h.edt ad e hm
theorem ξ97 (j:Nat) (E:List TM.Ed):({ mesh0 j E with n:=j+1,nd:=updN (mesh0 j E).nd j (nd0 (j:Int)) }:Ms)=mesh0 (j+1) E:=by
 have e:updN (fun i:Nat=>nd0 (i:Int)) j (nd0 (j:Int))=fun i:Nat=>nd0 (i:Int):=by
  funext i
  by_cases q:i=j
  ·subst q;rw [ξ9]
  ·rw [ξf _ _ q]
 show (⟨0,j+1,updN (fun i:Nat=>nd0 (i:Int)) j (nd0 (j:Int)),E,fun _=>-1,[],[]⟩:Ms)=_
 rw [e];rfl
theorem ξaE (o:Nat->Tg) (ho:∀ k,(o k).n≠1000) (nn:Nat) (a:Option Addr) (n cap:Nat) (L:List TM.Ed) (w:World) (h:Tree.EArg w a n L) (hn0:a=none->n=0/\cap=0) (hnc:n<=cap) (hf:TM.ef (nn:Int) L=0) :
 Calls prog 6 #[.int .i64 (nn:Int),.slice a n cap] w fun e w'=>∃ b,e=.returned (.tuple #[.pointer (some ⟨b,0,none⟩),.nilIface])/\MMade w w' o b (mesh0 nn L):=by
 obtain ⟨_,hfit⟩:=TM.ξ3H.1 hf;have hnn1:=hfit.lo
 have hnn16:=hfit.hi
 have hlen:=hfit.len
 have hl:=h.2.1
 rw [Int.toNat_natCast] at hnn1 hnn16;have CC:=Tree.ξe (nn:Int) a n cap L w h hnc
 rw [hf,show Tree.errv 0=Value.nilIface from rfl] at CC;have CC:=ξ0 CC
 obtain ⟨D0,hD0⟩:∃ D0:World->Nat->Nat->Prop,(fun W b j=>MMade w W o b (mesh1 j L))=D0:=⟨_,rfl⟩
 have hD0e:∀ W b j,D0 W b j↔MMade w W o b (mesh1 j L):=fun W b j=>by rw [<- hD0]
 obtain ⟨D,hD⟩:∃ D:World->Nat->Nat->Prop,(fun W b j=>MMade w W o b (mesh0 j L))=D:=⟨_,rfl⟩
 have hDe:∀ W b j,D W b j↔MMade w W o b (mesh0 j L):=fun W b j=>by rw [<- hD]
 have HCl:Hid (∀ W,Below w.heap.size w W->Calls prog 35 #[.slice a n cap] W fun e w'=>∃ a' c',e=.returned (.slice a' n c')/\Hid (D0 (w'.alloc (.cells #[.int .i64 0,.slice none 0 0,.slice a' n c',.int .i64 0,.int .i64 0,.int .i64 0,.int .i64 0,.int .i64 0,.int .i64 0,.int .i64 0,.int .i64 0,.slice none 0 0,.slice none 0 0] 96)) w'.heap.size 0)):=by
  refine ξ0 ?_
  intro W hB;refine (ξ1t a n cap L W (h.below hB) hn0 (by omega)).mono ?_
  rintro e w' ⟨a',c',rfl,k1,k2,k3,k4⟩;exact ⟨a',c',rfl,ξ0 ((hD0e _ _ _).2 (ξ98 k1 k2 (fun ad e=>Nat.le_trans hB.size (k3 ad e)) (hB.trans (k4.mono hB.size))))⟩
 have HRt:Hid (∀ W b j,D0 W b j->j<8->W.cell? ⟨b,3+j,none⟩=some (.int .i64 0)/\W.frozen? ⟨b,3+j,none⟩=false/\Hid (D0 (W.setCell ⟨b,3+j,none⟩ (.int .i64 (-1))) b (j+1))):=by
  refine ξ0 ?_
  intro W b j hA hj;obtain ⟨g1,g2,g3⟩:=ξaR ((hD0e _ _ _).1 hA) hj;exact ⟨g1,g2,ξ0 ((hD0e _ _ _).2 g3)⟩
 have HMid:Hid (∀ W b,D0 W b 8->D W b 0):=ξ0 (fun W b hA=>(hDe _ _ _).2 (ξaS ((hD0e _ _ _).1 hA)))
 have HNew:Hid (∀ W b j,D W b j->j<nn->Calls prog 36 #[.int .i64 (j:Int)] W fun e w'=>∃ nb na nc xs,e=.returned (.tuple #[.pointer (some ⟨nb,0,none⟩),.nilIface])/\w'.cell? ⟨b,1,none⟩=some (.slice na j nc)/\Hid (w'.ownsRow 0 97 1 (.slice na j nc) j xs)/\Hid (∀ g cap w2,w2.ownsRow 0 97 1 (.slice (some ⟨g,0,none⟩) (j+1) cap) (j+1) (xs++[.pointer (some ⟨nb,0,none⟩)])->(w'.alloc (.cells #[.pointer (some ⟨nb,0,none⟩)] 97)).grownBy w2 (Value.slice na j nc).ownBlock->((Value.slice na j nc).ownBlock=some g∨g=w'.heap.size+1)->w2.cell? ⟨b,1,none⟩=some (.slice na j nc)/\w2.frozen? ⟨b,1,none⟩=false/\Hid (D (w2.setCell ⟨b,1,none⟩ (.slice (some ⟨g,0,none⟩) (j+1) cap)) b (j+1)))):=by
  refine ξ0 ?_
  intro W b j hA hj;obtain ⟨o1,P1,g1,g2,g3,g4⟩:=(hDe _ _ _).1 hA;refine (ND.ξZ (j:Int) o1 (j+1) W (by simp [okN];omega)).mono ?_
  rintro e w' ⟨nb,rfl,o2,Q,k1,k2,k3⟩;have hm:MAt w' o2 b P1 (mesh0 j L):=g1.chg (S:=fun _=>False) (Chg.of_below k3 _ _) (fun g hg=>hg.elim) k2
  obtain ⟨na,nc,hnv⟩:∃ na nc,P1.nv=.slice na j nc:=by
   rcases hm.nrow.2 with ⟨e,h0⟩ | ⟨g,cap,cur,e,_⟩
   ·exact ⟨none,0,by rw [e];show _=Value.slice none (mesh0 j L).n 0;rw [h0]⟩
   ·exact ⟨_,_,e⟩
  have c1:=hm.cells.2.1
  have row:=hm.nrow
  rw [hnv] at c1 row;refine ⟨nb,na,nc,npt P1.nb j,rfl,c1,ξ0 row,ξ0 ?_⟩
  intro g cap' w2 hown hgrow hat;have hB:Below w.heap.size w w':=g3.trans (k3.mono g3.size)
  obtain ⟨s1,s2,o3,s3,s4⟩:=ξ92 hm (nb:=nb) (Q:=Q) (N:=nd0 (j:Int)) k1 (show j<16 by omega) ((Ξp _ _).alloc (Ξo _) (.cells #[.pointer (some ⟨nb,0,none⟩)] 97)) hown (by rw [hnv];exact hgrow) (by
   rw [hnv];rcases hat with e | e
   ·exact .inl e
   ·exact .inr (by omega))
  rw [hnv] at s1;have s3:MAt _ o3 b _ _:=s3
  rw [show ({ mesh0 j L with n:=(mesh0 j L).n+1,nd:=updN (mesh0 j L).nd (mesh0 j L).n (nd0 (j:Int)) }:Ms)=mesh0 (j+1) L from ξ97 j L] at s3;refine ⟨s1,s2,ξ0 ((hDe _ _ _).2 ⟨o3,_,s3,(g2.trans k2 g3.size).trans s4 hB.size,?_,g4⟩)⟩
  refine Below.setCell ?_ g4 _
  refine (hB.alloc hB.size (.cells #[.pointer (some ⟨nb,0,none⟩)] 97)).grown hgrow (by have:=hB.size;simp;omega) ?_
  intro k hk;have hkt:=hm.nrt k (by rw [hnv];simp [hk])
  rcases Nat.lt_or_ge k w.heap.size with hlt | hge
  ·exfalso
   rw [(g2.trans k2 g3.size) k hlt] at hkt;exact ho k (by rw [hkt])
  ·exact hge
 have HFin:Hid (∀ W b,D W b nn->MMade w W o b (mesh0 nn L)):=ξ0 (fun W b hA=>(hDe _ _ _).1 hA)
 obtain ⟨R,hR⟩:∃ R:World->Nat->Prop,(fun W b=>MMade w W o b (mesh0 nn L))=R:=⟨_,rfl⟩
 have hRe:∀ W b,MMade w W o b (mesh0 nn L)=R W b:=fun W b=>by rw [<- hR]
 simp only [hRe] at HFin ⊢
 obtain ⟨i0,hii,hz0,hz1,hz2⟩:∃ i0,prog.info? 97=some i0/\i0.zero=some (.pointer none)/\i0.size=1/\i0.bytes=8:=⟨_,rfl,rfl,rfl,rfl⟩;clear h hn0 hnc hf hfit hlen hl hD0 hD0e hD hDe hR hRe ho hnn1;go_enter func6,ntmps6
 go_wp2_with fail
 refine CC.out.mono ?_
 rintro e w1 ⟨rfl,hb⟩;have C2:=ξ0 (HCl.out w1 hb)
 clear hb CC HCl;go_wp2_with fail
 refine C2.out.mono ?_
 rintro e w2 ⟨a',c',rfl,HD0⟩;clear C2;obtain ⟨b,hbw⟩:∃ b,w2.heap.size=b:=⟨_,rfl⟩;obtain ⟨W3,hW3⟩:∃ W3,w2.alloc (.cells #[.int .i64 0,.slice none 0 0,.slice a' n c',.int .i64 0,.int .i64 0,.int .i64 0,.int .i64 0,.int .i64 0,.int .i64 0,.int .i64 0,.int .i64 0,.slice none 0 0,.slice none 0 0] 96)=W3:=⟨_,rfl⟩;rw [hW3,hbw] at HD0;have HW3:=ξ0 hW3
 have HBW:=ξ0 hbw
 clear hW3 hbw;go_upto_region 5 with fail
 rw [HW3.out,HBW.out];clear HW3 HBW;go_wp2_with fail
 go_loopg [22] 8 (fun g x wx=>∃ j:Nat,j+g=8/\x=.int .i64 (j:Int)/\Hid (D0 wx b j))
 case atStart=>exact ⟨0,by omega,rfl,HD0⟩
 case round=>
  obtain ⟨j,hjg,rfl,HD⟩:=hrel;by_cases hj:j<8
  ·have hjz:(j:Int)<8:=by omega
   obtain ⟨k1,k2,HE⟩:=HRt.out wr b j HD.out hj;clear HD;go_wp2_with fail
   go_roundg (8 - (j+1))
   case measure=>omega
   case rel=>exact ⟨j+1,by omega,by go_num,HE⟩
  ·obtain rfl:j=8:=by omega
   have HE:=ξ0 (HMid.out wr b HD.out)
   clear HD HRt HMid;go_wp2_with fail
   go_loopg [32] nn (fun g x wx=>∃ j:Nat,j+g=nn/\x=.int .i64 (j:Int)/\Hid (D wx b j))
   case atStart=>exact ⟨0,by omega,rfl,HE⟩
   case round=>
    obtain ⟨j,hjg2,rfl,HD⟩:=hrel;by_cases hj2:j<nn
    ·have hjz:(j:Int)<(nn:Int):=by omega
     have CN:=ξ0 (HNew.out wr b j HD.out hj2)
     clear HD;go_wp2_with fail
     refine CN.out.mono ?_
     rintro e w5 ⟨nb,na,nc,xs,rfl,c1,HRow,HSt⟩;clear CN;go_wp2_with (at_builtin;refine wpList_append_lies _ rfl _ _ 90 rfl 0 97 i0 _ 1 8 underlying90 hii hz0 hz1 hz2 rfl (by decide) _ j xs rfl (HRow.out.alloc _) ⟨w5.heap.size,0,none⟩ 1 1 [.pointer (some ⟨nb,0,none⟩)] rfl rfl (World.news_of_block (cs:=#[.pointer (some ⟨nb,0,none⟩)]) (t:=97) (fr:=(0,0)) (heap_alloc_new w5 _)) ?c2 (by omega) ?b1 ?b2 (Nat.zero_le _) (w5.heap.size+1) (by simp) ?next)
     case c2=>intro u hu;simp at hu;rw [hu];rfl
     case b1=>unfold maxLen;omega
     case b2=>omega
     case next=>
      intro g cap w6 hown hgrow hat _;obtain ⟨k1,k2,HE6⟩:=HSt.out g cap w6 hown hgrow hat;clear hown hgrow hat HSt HRow c1;go_wp2_with fail
      go_roundg (nn - (j+1))
      case measure=>omega
      case rel=>exact ⟨j+1,by omega,by go_num,HE6⟩
    ·have hjz:¬ (j:Int)<(nn:Int):=by omega
     obtain rfl:nn=j:=by omega
     have HR:=ξ0 (HFin.out wr b HD.out)
     clear HD HFin HNew;go_wp2_with fail
     go_ret2
     exact ⟨b,rfl,HR.out⟩
theorem ξeZ {n i:Nat} (hi:i<16):NdOk n (nd0 (i:Int)):=
 ⟨⟨by show (0:Int)<=0;omega,by show (0:Int)<=1000000;omega⟩,⟨by show (0:Int)<=(i:Int);omega,by show (i:Int)<=15;omega⟩,fun k _ t ht=>by simp [nd0] at ht,⟨List.Pairwise.nil,by simp [nd0],by simp [nd0],by show (0:Int)<=0;omega,by show (0:Int)<=1000000;omega⟩,fun x hx=>by simp [nd0] at hx,⟨by show (0:Int)<=0;omega,by show (0:Int)<=0;omega⟩,PU.ξe9,fun x hx=>by simp [nd0] at hx,PU.ξ9H (by omega) (by omega)⟩
theorem ξcv {n:Nat} {E:List TM.Ed} (h1:1<=n) (h16:n<=16):MOk (mesh0 n E):=
 ⟨h1,h16,⟨by show (0:Int)<=0;omega,by show (0:Int)<=1000000;omega⟩,fun i hi=>⟨ξeZ (Ξn hi h16),rfl,by show (0:Int)<=0;omega,rfl⟩⟩
theorem ξeK {n:Nat} {nw:Int} {k:Nat} {pa:Int} {K:List Int} (h0:0<=nw) (hp:pa=-1∨(0<=pa/\pa<n)) (hk:∀ x∈K,0<=x/\x<n) (hl:K.length<=16):TrOk n nw k ((tr0 ((k:Int)+1) 1).to pa K):=
 ⟨rfl,⟨by show (0:Int)<=1;omega,by show (1:Int)<=65535;omega⟩,hp,hk,hl,GM.ξ1j (by omega) (by omega) (by omega) (by omega),h0,rfl,RM.ξ1j (by omega) (by omega),fun x hx=>by simp [tr0,Tr.to] at hx⟩
theorem ξ46 {w w':World} {o:Nat->Tg} {S:Tg->Prop} {a:Option Addr} {m:Nat} {L:List Int} (h:Tree.IArg w a m L) (hc:Chg o S w w') (ht:∀ ad,a=some ad->0<m->¬ S (o ad.block)):Tree.IArg w' a m L:=by
 obtain ⟨bs,q1,q2,q3⟩:=hc;refine ⟨fun j hj=>?_,h.2⟩
 obtain ⟨b',o',e,h0⟩:=h.1 j hj;have hnb:b'∉bs:=fun hx=>ht _ e (by have:=h.2.1;omega) (q2 _ hx)
 have hl:=Ξq w ⟨b',o'+j,none⟩ h0
 exact ⟨b',o',e,(ξn (q1.2.2.2.2 b' hl hnb) _).trans h0⟩
theorem ξ3G {w:World} {a:Option Addr} {m:Nat} {L:List Int} (h:Tree.IArg w a m L) {ad:Addr} (e:a=some ad) (hm:0<m):ad.block<w.heap.size:=by
 obtain ⟨b',o',e',h0⟩:=h.1 0 (by have:=h.2.1;omega)
 rw [e] at e';cases e'
 exact Ξq w ⟨b',o'+0,none⟩ h0
theorem ξf9 {w:World} {a:Option Addr} {m:Nat} {L:List Int} (h:Tree.IArg w a m L):Gaps.IArg w a m L:=by
 refine ⟨fun j hj=>?_,h.2⟩
 obtain ⟨b,o,e,hc⟩:=h.1 j hj;refine ⟨b,o,e,hc.trans ?_⟩
 unfold TM.dg;simp [List.getD_eq_getElem?_getD,List.getElem?_eq_getElem hj]
theorem ξcF (P:List Int) (x:Int) (j:Nat):(TM.kd P x j).Nodup:=by
 unfold TM.kd;unfold List.Nodup;rw [List.pairwise_map];exact (List.Pairwise.filter _ List.nodup_range).imp (fun hne e=>hne (Int.ofNat.inj e))
theorem ξdp {P:List Int} {x:Int} {j:Nat} {y:Int} (h:y∈TM.kd P x j):∃ i:Nat,y=(i:Int)/\i<j/\TM.dg P i=x:=by
 unfold TM.kd at h;obtain ⟨i,hi,rfl⟩:=Ξi.1 h;obtain ⟨h1,h2⟩:=Ξj.1 hi;exact ⟨i,rfl,by simpa using h1,by simpa using h2⟩
structure Trees (n r:Nat) (E:List TM.Ed) (p d:List Int):Prop where
 fit:TM.Fit n E
 rn:r<n
 dist:TM.IsDist E n r d
 pars:TM.IsPars E d n p
theorem Trees.lenp {n r:Nat} {E:List TM.Ed} {p d:List Int} (h:Trees n r E p d):p.length=n:=h.pars.len
theorem Trees.lend {n r:Nat} {E:List TM.Ed} {p d:List Int} (h:Trees n r E p d):d.length=n:=h.dist.len
theorem Trees.ok {n r:Nat} {E:List TM.Ed} {p d:List Int} (h:Trees n r E p d):TM.Ok p:=TM.ξdR h.fit h.dist h.rn h.pars
theorem Trees.bf {n r:Nat} {E:List TM.Ed} {p d:List Int} (h:Trees n r E p d) {i:Nat} (hi:i<n):TM.bf p (i:Int)=0:=TM.ξfw h.ok (by rw [h.lenp];exact hi)
theorem Trees.kl {n r:Nat} {E:List TM.Ed} {p d:List Int} (h:Trees n r E p d) {i:Nat} (hi:i<n):Tree.kl p (i:Int)=TM.kd p (i:Int) n:=by
 unfold Tree.kl;rw [if_pos (h.bf hi),h.lenp]
theorem Trees.pa {n r:Nat} {E:List TM.Ed} {p d:List Int} (h:Trees n r E p d) {i:Nat} (hi:i<n):TM.dg p i=-1∨∃ k:Nat,TM.dg p i=(k:Int)/\k<n/\k≠i/\TM.dg d k<TM.dg d i/\0<=TM.dg d k:=by
 have:=h.pars.range hi
 by_cases c:0<=TM.dg p i
 ·obtain ⟨k,e,h1,h2,h3,h4,h5,h6⟩:=TM.ξ2i h.dist h.rn h.pars hi c;refine .inr ⟨k,e,h1,?_,by omega,h4⟩
  rintro rfl;omega
 ·exact .inl (by omega)
theorem Trees.pF {n r:Nat} {E:List TM.Ed} {p d:List Int} (h:Trees n r E p d) {i k:Nat} (hi:i<n) (hk:k<8) {N:Nd} (hid:N.id=(i:Int)) (ht:N.tr k=none):ND.pF N ((k:Int)+1) (TM.dg p i) (TM.kd p (i:Int) n) 1=0:=by
 have h16:=h.fit.hi
 unfold ND.pF;rw [if_neg (by simp [okT];omega),if_neg,if_neg (by omega),if_neg,if_neg,if_neg]
 ·unfold Nd.at
  rw [show (((k:Int)+1) - 1).toNat=k by omega,ht]
  simp [old]
 ·unfold twc;simp [ξcF]
 ·rw [List.any_eq_true];rintro ⟨y,hy,hb⟩;obtain ⟨j,rfl,hj,hp⟩:=ξdp hy;rcases h.pa hj with e | ⟨m,e,m1,m2,m3,m4⟩
  ·omega
  ·have hm:m=i:=by omega
   subst hm;unfold badk oth at hb;rw [hid] at hb;have e1:okN (j:Int)=true:=by simp [okN];omega
   have e2:decide ((j:Int)≠(m:Int))=true:=by simp;omega
   have e3:decide ((j:Int)=TM.dg p m)=false:=by
    rcases h.pa hi with q | ⟨l,q,q1,q2,q3,q4⟩
    ·rw [q];simp
    ·rw [q];simp only [decide_eq_false_iff_not]
     intro hc;have:j=l:=by omega
     subst this;omega
   rw [e1,e2,e3] at hb;simp at hb
 ·rintro ⟨h1,h2⟩;rcases h.pa hi with q | ⟨l,q,q1,q2,q3,q4⟩
  ·exact h1 q
  ·unfold oth at h2;rw [hid,q] at h2;have e1:okN (l:Int)=true:=by simp [okN];omega
   have e2:decide ((l:Int)≠(i:Int))=true:=by simp;omega
   rw [e1,e2] at h2;cases h2
def trk (k:Nat) (p:List Int) (n i:Nat):Tr:=(tr0 ((k:Int)+1) 1).to (TM.dg p i) (TM.kd p (i:Int) n)
theorem Trees.trOk {n r:Nat} {E:List TM.Ed} {p d:List Int} (h:Trees n r E p d) {i k:Nat} (hi:i<n) {nw:Int} (h0:0<=nw):TrOk n nw k (trk k p n i):=by
 refine ξeK h0 ?_ ?_ ?_
 ·rcases h.pa hi with q | ⟨l,q,q1,_⟩
  ·exact .inl q
  ·exact .inr ⟨by omega,by omega⟩
 ·intro x hx;obtain ⟨j,rfl,hj,_⟩:=ξdp hx;omega
 ·have:=TM.ξ6M p (i:Int) n
  have:=h.fit.hi
  omega
def Ms.plan (M:Ms) (k i:Nat) (p:List Int):Ms:={ M with nd:=updN M.nd i { M.nd i with tr:=updR (M.nd i).tr k (trk k p M.n i) } }
theorem ξ7j (b k i r:Nat) (o:Nat->Tg) (P:MP) (M:Ms) (p d:List Int) (a:Option Addr) (cap:Nat) (w:World) (h:MAt w o b P M) (hK:MOk M) (hT:Trees M.n r M.E p d) (hk:k<8) (hi:i<M.n) (ht:(M.nd i).tr k=none) (hA:Tree.IArg w a M.n p) (ha:∀ ad,a=some ad->0<M.n->(o ad.block).n=0) :
 Calls prog 39 #[.pointer (some ⟨b,0,none⟩),.int .i64 ((k:Int)+1),.slice a M.n cap,.int .i64 (i:Int)] w fun e w'=>e=.returned .nilIface/\MDone w w' o b (M.plan k i p):=by
 have h16:=h.n16
 obtain ⟨kN,kL,kW,kI⟩:=hK.nd i hi;obtain ⟨rb,rc,hnv,_⟩:=h.nptr hi;obtain ⟨pb,po,rfl,hpc⟩:=hA.at (by omega)
 have CKd:=Tree.ξ9a (some ⟨pb,po,none⟩) M.n cap p (i:Int) w hA
 rw [hT.bf hi,hT.kl hi] at CKd;have hall:∀ x∈(M.nd i).sb,x.2.tk≠(k:Int)+1:=by
  intro x hx e;obtain ⟨_,k',q1,q2,q3⟩:=kN.sb x hx;have:k'=k:=by omega
  subst this;rw [ht] at q3;cases q3
 have hpF:=hT.pF hi hk kI ht
 obtain ⟨A1,hA1⟩:∃ A1:World->Prop,(fun W=>MDone w W o b (M.plan k i p))=A1:=⟨_,rfl⟩
 have hA1e:∀ W,A1 W↔MDone w W o b (M.plan k i p):=fun W=>by rw [<- hA1]
 have CK:Hid (Calls prog 84 #[.slice (some ⟨pb,po,none⟩) M.n cap,.int .i64 (i:Int)] w fun e w'=>∃ ka km kc,e=.returned (.tuple #[.slice ka km kc,.nilIface])/\(w'.drew.cell? ⟨b,1,none⟩=some (.slice (some ⟨rb,0,none⟩) M.n rc)/\w'.drew.cell? ⟨rb,i,none⟩=some (.pointer (some ⟨P.nb i,0,none⟩))/\w'.drew.cell? ⟨pb,po+i,none⟩=some (.int .i64 (TM.dg p i)))/\Hid (Calls prog 85 #[.pointer (some ⟨P.nb i,0,none⟩),.int .i64 ((k:Int)+1),.int .i64 (TM.dg p i),.slice ka km kc,.int .i64 1] w'.drew fun e w2=>e=.returned .nilIface/\(w2.cell? ⟨b,1,none⟩=some (.slice (some ⟨rb,0,none⟩) M.n rc)/\w2.cell? ⟨rb,i,none⟩=some (.pointer (some ⟨P.nb i,0,none⟩))/\w2.cell? ⟨pb,po+i,none⟩=some (.int .i64 (TM.dg p i)))/\Hid (A1 w2))):=by
  refine ξ0 (CKd.mono ?_)
  rintro e w' ⟨v,rfl,hown,hb⟩;obtain ⟨ka,kc,rfl,k1,k2,k3,k4⟩:=Tree.ξo hown (by have:=TM.ξ6M p (i:Int) M.n;omega)
  have hbd:=hb.drew
  have hM:=h.grow hbd ξ2
  have hpd:w'.drew.cell? ⟨pb,po+i,none⟩=some (.int .i64 (TM.dg p i)):=(hb.cell (p:=⟨pb,po+i,none⟩) (Ξq w _ (hpc i hi))).trans (hpc i hi)
  obtain ⟨c1,c2⟩:=ξP hM hi hnv;refine ⟨ka,_,kc,rfl,⟨c1,c2,hpd⟩,ξ0 ?_⟩
  refine (ξcj (i+1) (P.nb i) (grow o w ξ2) (P.np i) (M.nd i) ((k:Int)+1) (TM.dg p i) 1 ka (TM.kd p (i:Int) M.n).length kc (TM.kd p (i:Int) M.n) w'.drew (by omega) (hM.nds i hi) kN.si (by rw [show ((k:Int)+1 - 1).toNat=k by omega];exact ht) hall (ξf9 (k1.below ((Ξp _ _).drew))) k2 (by
   intro ad e hm;obtain ⟨g,rfl,q1,q2⟩:=k4 ad e;rw [ξh q1];show 0≠i+1
   omega) hpF).mono ?_
  rintro e w2 ⟨rfl,hd⟩;obtain ⟨o2,P2,r1,r2,r3,r4,r5,r6,r7⟩:=hM.node (i:=i) hi hd;obtain ⟨d1,d2⟩:=ξP r1 (show i<M.n from hi) (show P2.nv=.slice (some ⟨rb,0,none⟩) M.n rc by rw [r3];exact hnv)
  rw [r2] at d2;have hpl:pb<w.heap.size:=Ξq w ⟨pb,po+i,none⟩ (hpc i hi)
  have hpw:w2.cell? ⟨pb,po+i,none⟩=some (.int .i64 (TM.dg p i)):=by
   obtain ⟨bs,q1,q2,q3⟩:=r7;have hnb:pb∉bs:=fun hx=>by
    have:=q2 _ hx
    rw [ξw hpl] at this;unfold mine at this;have:=ha _ rfl (by omega)
    simp only at this
    omega
   exact (ξn (q1.2.2.2.2 pb (Ξn hpl hbd.size) hnb) _).trans hpd
  refine ⟨rfl,⟨d1,d2,hpw⟩,ξ0 ((hA1e _).2 ⟨o2,P2,?_,Keep.of_ext ((ξ3 o w ξ2).trans r6 hbd.size),(Chg.of_below hbd o meshy).trans (ξ16 r7 (by omega) (by omega)) (ξ3 _ _ _)⟩)⟩
  rw [show ((k:Int)+1 - 1).toNat=k by omega] at r1
  exact r1
 have HFin:Hid (∀ W,A1 W->MDone w W o b (M.plan k i p)):=ξ0 (fun W hA=>(hA1e _).1 hA)
 obtain ⟨R,hR⟩:∃ R,M.plan k i p=R:=⟨_,rfl⟩;rw [hR] at HFin ⊢;obtain ⟨nb,hnb⟩:∃ nb,P.nb i=nb:=⟨_,rfl⟩;obtain ⟨nn,hnn⟩:∃ nn,M.n=nn:=⟨_,rfl⟩;obtain ⟨x,hx⟩:∃ x,TM.dg p i=x:=⟨_,rfl⟩;rw [hnb,hx] at CK;rw [hnn] at hi CK ⊢;have hiz:(i:Int)<(nn:Int):=Int.ofNat_lt.2 hi
 clear h hK hT hk ht hA ha h16 kN kL kW kI hnv hpc CKd hall hpF hA1 hA1e hR hnb hnn hx;go_enter func39,ntmps39
 go_wp2_with fail
 refine CK.out.mono ?_
 rintro e w1 ⟨ka,km,kc,rfl,S0,CP⟩;clear CK;go_upto_region 4 with fail
 go_region_held3 (fun w'=>w'.cell? ⟨b,1,none⟩=some (.slice (some ⟨rb,0,none⟩) nn rc)/\w'.cell? ⟨rb,i,none⟩=some (.pointer (some ⟨nb,0,none⟩))/\w'.cell? ⟨pb,po+i,none⟩=some (.int .i64 x)) (with_reducible assumption) (first | (go_at_call 85;refine CP.out.mono ?_;rintro e w4 ⟨rfl,hS4,HD4⟩))
 go_wp2_with fail
 go_ret
 exact ⟨rfl,HFin.out _ HD4.out⟩
def Ms.planned (M:Ms) (k:Nat) (p d:List Int) (j:Nat):Ms:={ M with nd:=fun i=>if i<j/\0<=TM.dg d i then { M.nd i with tr:=updR (M.nd i).tr k (trk k p M.n i) } else M.nd i }
def Ms.publish (M:Ms) (k r:Nat) (p d:List Int):Ms:={ M.planned k p d M.n with rt:=updN M.rt k (r:Int) }
theorem ξ4p (M:Ms) (k:Nat) (p d:List Int) (j:Nat):(M.planned k p d j).nd j=M.nd j:=if_neg (fun h=>Nat.lt_irrefl j h.1)
theorem ξ6s (M:Ms) (k:Nat) (p d:List Int):M.planned k p d 0=M:=by
 have e:(fun i=>if i<0/\0<=TM.dg d i then ({ M.nd i with tr:=updR (M.nd i).tr k (trk k p M.n i) }:Nd) else M.nd i)=M.nd:=by
  funext i
  rw [if_neg (fun h=>by omega)]
 unfold Ms.planned;rw [e]
theorem ξ6u (M:Ms) (k:Nat) (p d:List Int) {j:Nat} (h:¬ 0<=TM.dg d j):M.planned k p d (j+1)=M.planned k p d j:=by
 have e:(fun i=>if i<j+1/\0<=TM.dg d i then ({ M.nd i with tr:=updR (M.nd i).tr k (trk k p M.n i) }:Nd) else M.nd i)=(fun i=>if i<j/\0<=TM.dg d i then ({ M.nd i with tr:=updR (M.nd i).tr k (trk k p M.n i) }:Nd) else M.nd i):=by
  funext i
  by_cases q:i=j
  ·subst q;rw [if_neg (fun x=>h x.2),if_neg (fun x=>h x.2)]
  ·by_cases q2:i<j/\0<=TM.dg d i
   ·rw [if_pos q2,if_pos ⟨by omega,q2.2⟩]
   ·rw [if_neg q2,if_neg (fun x=>q2 ⟨by omega,x.2⟩)]
 unfold Ms.planned;rw [e]
theorem ξ6t (M:Ms) (k:Nat) (p d:List Int) {j:Nat} (h:0<=TM.dg d j):(M.planned k p d j).plan k j p=M.planned k p d (j+1):=by
 have e:updN (M.planned k p d j).nd j { M.nd j with tr:=updR (M.nd j).tr k (trk k p M.n j) }=(fun i=>if i<j+1/\0<=TM.dg d i then ({ M.nd i with tr:=updR (M.nd i).tr k (trk k p M.n i) }:Nd) else M.nd i):=by
  funext i
  by_cases q:i=j
  ·subst q;rw [ξ9,if_pos ⟨by omega,h⟩]
  ·rw [ξf _ _ q];show (if i<j/\0<=TM.dg d i then ({ M.nd i with tr:=updR (M.nd i).tr k (trk k p M.n i) }:Nd) else M.nd i)=_
   by_cases q2:i<j/\0<=TM.dg d i
   ·rw [if_pos q2,if_pos ⟨by omega,q2.2⟩]
   ·rw [if_neg q2,if_neg (fun x=>q2 ⟨by omega,x.2⟩)]
 unfold Ms.plan;rw [ξ4p];show ({ M with nd:=updN (M.planned k p d j).nd j { M.nd j with tr:=updR (M.nd j).tr k (trk k p M.n j) } }:Ms)={ M with nd:=_ }
 rw [e]
theorem MOk.planned {M:Ms} (h:MOk M) {k r:Nat} {p d:List Int} (hT:Trees M.n r M.E p d) (j:Nat):MOk (M.planned k p d j):=by
 refine ⟨h.n1,h.n16,h.nw,?_⟩
 intro i hi;obtain ⟨k1,k2,k3,k4⟩:=h.nd i hi;show NdOk M.n (if i<j/\0<=TM.dg d i then ({ M.nd i with tr:=updR (M.nd i).tr k (trk k p M.n i) }:Nd) else M.nd i)/\(if i<j/\0<=TM.dg d i then ({ M.nd i with tr:=updR (M.nd i).tr k (trk k p M.n i) }:Nd) else M.nd i).lt=[]/\(if i<j/\0<=TM.dg d i then ({ M.nd i with tr:=updR (M.nd i).tr k (trk k p M.n i) }:Nd) else M.nd i).nw<=M.nw/\(if i<j/\0<=TM.dg d i then ({ M.nd i with tr:=updR (M.nd i).tr k (trk k p M.n i) }:Nd) else M.nd i).id=_
 split
 ·exact ⟨k1.setT (hT.trOk hi k1.nw.1),k2,k3,k4⟩
 ·exact ⟨k1,k2,k3,k4⟩
theorem MOk.publish {M:Ms} (h:MOk M) {k r:Nat} {p d:List Int} (hT:Trees M.n r M.E p d):MOk (M.publish k r p d):=by
 have:=h.planned (k:=k) hT M.n
 exact ⟨this.n1,this.n16,this.nw,this.nd⟩
theorem ξeF (b k r:Nat) (o:Nat->Tg) (P:MP) (M:Ms) (w:World) (h:MAt w o b P M) (hk:k<8) (hr:r<M.n) (hrt:M.rt k≠-1) :
 Calls prog 8 #[.pointer (some ⟨b,0,none⟩),.int .i64 ((k:Int)+1),.int .i64 (r:Int)] w fun e w'=>e=.returned (errv 7)/\w'=w:=by
 have CT:=ξ0 (ξl ((k:Int)+1))
 rw [show okT ((k:Int)+1)=true from by simp [okT];omega] at CT
 have CI:=ξ0 (ξp b o P M (r:Int) w h)
 rw [decide_eq_true ⟨Int.natCast_nonneg r,Int.ofNat_lt.2 hr⟩] at CI;have cr:=h.root hk
 obtain ⟨x,hx⟩:∃ x,M.rt k=x:=⟨_,rfl⟩;rw [hx] at cr hrt;have e1:(x==-1)=false:=by simpa using hrt
 have e2:(x != -1)=true:=by simpa using hrt
 obtain ⟨hk3,hk5,hk4⟩:=ξ2B hk;clear h hr hrt hx hk;go_enter func8,ntmps8
 go_wp2_with fail
 refine (CT.out _).mono ?_
 rintro e w1 ⟨rfl,hw1⟩;obtain rfl:w=w1:=hw1.symm;go_wp2_with fail
 refine CI.out.mono ?_
 rintro e w1 ⟨rfl,hw1⟩;obtain rfl:w=w1:=hw1.symm;go_wp2_with fail
 go_ret
 exact ⟨rfl,rfl⟩
theorem ξ5Q (b k r:Nat) (o:Nat->Tg) (P:MP) (M:Ms) (w:World) (h:MAt w o b P M) (hK:MOk M) (hE:TM.ef (M.n:Int) M.E=0) (hk:k<8) (hr:r<M.n) (hrt:M.rt k=-1) (htr:∀ i,i<M.n->(M.nd i).tr k=none) :
 Calls prog 8 #[.pointer (some ⟨b,0,none⟩),.int .i64 ((k:Int)+1),.int .i64 (r:Int)] w fun e w'=>e=.returned .nilIface/\∃ p d,Trees M.n r M.E p d/\MDone w w' o b (M.publish k r p d):=by
 have h16:=h.n16
 have hn1:=hK.n1
 have CT:=ξ0 (ξl ((k:Int)+1))
 rw [show okT ((k:Int)+1)=true from by simp [okT];omega] at CT
 have CI:=ξ0 (ξp b o P M (r:Int) w h)
 rw [decide_eq_true ⟨Int.natCast_nonneg r,Int.ofNat_lt.2 hr⟩] at CI;have cr:=h.root hk
 rw [hrt] at cr;obtain ⟨rb,rc,hnv,_⟩:=h.nptr hr;have hb0:Below w.heap.size w w.drew:=(Ξp _ _).drew
 have hcs:∀ W,Below w.heap.size w W->W.cell? ⟨b,1,none⟩=some (.slice (some ⟨rb,0,none⟩) M.n rc)/\W.cell? ⟨b,2,none⟩=some (.slice P.ea M.E.length P.ec):=by
  intro W hB;obtain ⟨_,c1,c2,_⟩:=(h.below hB).cells;rw [hnv] at c1;exact ⟨c1,c2⟩
 have hlf:TM.lf (M.n:Int) M.E (r:Int)=0:=by
  unfold TM.lf;rw [if_neg (by simp [hE]),if_neg (by simp [TM.isn];omega)]
 obtain ⟨D,hD⟩:∃ D:World->Option Addr->Option Addr->List Int->List Int->Nat->Prop,(fun W pa da p d j=>Trees M.n r M.E p d/\∃ o' P',MAt W o' b P' (M.planned k p d j)/\Keep w o o'/\Chg o meshy w W/\Tree.IArg W pa M.n p/\Tree.IArg W da M.n d/\(∀ ad,pa=some ad->0<M.n->(o' ad.block).n=0)/\∀ ad,da=some ad->0<M.n->(o' ad.block).n=0)=D:=⟨_,rfl⟩
 have hDe:∀ W pa da p d j,D W pa da p d j↔Trees M.n r M.E p d/\∃ o' P',MAt W o' b P' (M.planned k p d j)/\Keep w o o'/\Chg o meshy w W/\Tree.IArg W pa M.n p/\Tree.IArg W da M.n d/\(∀ ad,pa=some ad->0<M.n->(o' ad.block).n=0)/\∀ ad,da=some ad->0<M.n->(o' ad.block).n=0:=fun W pa da p d j=>by rw [<- hD]
 have HB:Hid (Calls prog 16 #[.int .i64 (M.n:Int),.slice P.ea M.E.length P.ec,.int .i64 (r:Int)] w.drew fun e w'=>∃ pa pc da dc p d,e=.returned (.tuple #[.slice pa M.n pc,.slice da M.n dc,.nilIface])/\(w'.cell? ⟨b,1,none⟩=some (.slice (some ⟨rb,0,none⟩) M.n rc)/\w'.cell? ⟨b,2,none⟩=some (.slice P.ea M.E.length P.ec))/\Hid (D w' pa da p d 0)):=by
  refine ξ0 ((Tree.ξ7G (M.n:Int) (r:Int) P.ea M.E.length P.ec M.E w.drew (h.below hb0).edg h.edc).mono ?_)
  rintro e w' ⟨vp,vd,p,d,rfl,hq⟩;obtain ⟨q1,q2,q3⟩:=hq.bp.2 hlf;rw [Int.toNat_natCast,Int.toNat_natCast] at q1;rw [Int.toNat_natCast] at q2;have hfit:TM.Fit M.n M.E:=by have:=(TM.ξ3H.1 hE).2;rwa [Int.toNat_natCast] at this
  have hT:Trees M.n r M.E p d:=⟨hfit,hr,q1,q2⟩
  have hB:Below w.heap.size w w':=hb0.trans (hq.bel.mono hb0.size)
  have o1:=hq.own1
  have o2:=hq.own2
  rw [hT.lenp] at o1;rw [hT.lend] at o2;obtain ⟨pa,pc,rfl,x1,x2,x3,x4⟩:=Tree.ξo o1 (by omega)
  obtain ⟨da,dc,rfl,y1,y2,y3,y4⟩:=Tree.ξo o2 (by omega)
  rw [hlf];refine ⟨pa,pc,da,dc,p,d,rfl,hcs w' hB,ξ0 ((hDe _ _ _ _ _ _).2 ⟨hT,grow o w ξ2,P,?_,Keep.of_ext (ξ3 _ _ _),Chg.of_below hB _ _,x1,y1,?_,?_⟩)⟩
  ·rw [ξ6s];exact h.grow hB ξ2
  ·intro ad e _;obtain ⟨g,rfl,q,_⟩:=x4 ad e;rw [ξh (show w.heap.size<=g from q)]
  ·intro ad e _;obtain ⟨g,rfl,q,_⟩:=y4 ad e;rw [ξh (show w.heap.size<=g from q)]
 have HDist:Hid (∀ W pa da p d j,D W pa da p d j->j<M.n->∃ db dO,da=some ⟨db,dO,none⟩/\W.cell? ⟨db,dO+j,none⟩=some (.int .i64 (TM.dg d j))):=by
  refine ξ0 ?_
  intro W pa da p d j hA hj;obtain ⟨hT,o',P',g1,g2,g3,g4,g5,g6,g7⟩:=(hDe _ _ _ _ _ _).1 hA;obtain ⟨db,dO,e,hc⟩:=g5.at (by omega)
  exact ⟨db,dO,e,hc j hj⟩
 have HSkip:Hid (∀ W pa da p d j,D W pa da p d j->TM.dg d j=-1->D W pa da p d (j+1)):=by
  refine ξ0 ?_
  intro W pa da p d j hA hj;obtain ⟨hT,o',P',g1,g2,g3,g4,g5,g6,g7⟩:=(hDe _ _ _ _ _ _).1 hA;refine (hDe _ _ _ _ _ _).2 ⟨hT,o',P',?_,g2,g3,g4,g5,g6,g7⟩
  rw [ξ6u M k p d (by omega)]
  exact g1
 have HPlan:Hid (∀ W pa pc da p d j,D W pa da p d j->j<M.n->TM.dg d j≠-1->Calls prog 39 #[.pointer (some ⟨b,0,none⟩),.int .i64 ((k:Int)+1),.slice pa M.n pc,.int .i64 (j:Int)] W fun e w'=>e=.returned .nilIface/\Hid (D w' pa da p d (j+1))):=by
  refine ξ0 ?_
  intro W pa pc da p d j hA hj hd;obtain ⟨hT,o',P',g1,g2,g3,g4,g5,g6,g7⟩:=(hDe _ _ _ _ _ _).1 hA;have hlow:=hT.dist.low j
  refine (ξ7j b k j r o' P' (M.planned k p d j) p d pa pc W g1 (hK.planned hT j) hT hk hj (by rw [ξ4p];exact htr j hj) g4 g6).mono ?_
  rintro e w' ⟨rfl,o2,P2,r1,r2,r3⟩;rw [ξ6t M k p d (by omega)] at r1
  have hz:∀ (a:Option Addr) (L:List Int),Tree.IArg W a M.n L->(∀ ad,a=some ad->0<M.n->(o' ad.block).n=0)->Tree.IArg w' a M.n L/\∀ ad,a=some ad->0<M.n->(o2 ad.block).n=0:=by
   intro a L q1 q2;refine ⟨ξ46 q1 r3 (fun ad e hm hs=>hs.1 (q2 ad e hm)),fun ad e hm=>?_⟩
   rcases r2 ad.block (ξ3G q1 e hm) with e' | ⟨_,e'⟩
   ·rw [e'];exact q2 ad e hm
   ·rw [e']
  exact ⟨rfl,ξ0 ((hDe _ _ _ _ _ _).2 ⟨hT,o2,P2,r1,g2.trans r2 g3.size,Chg.keep g3 r3 g2,(hz pa p g4 g6).1,(hz da d g5 g7).1,(hz pa p g4 g6).2,(hz da d g5 g7).2⟩)⟩
 have HRt:Hid (∀ W pa da p d,D W pa da p d M.n->W.cell? ⟨b,3+k,none⟩=some (.int .i64 (-1))/\W.frozen? ⟨b,3+k,none⟩=false/\∃ p d,Trees M.n r M.E p d/\MDone w (W.setCell ⟨b,3+k,none⟩ (.int .i64 (r:Int))) o b (M.publish k r p d)):=by
  refine ξ0 ?_
  intro W pa da p d hA;obtain ⟨hT,o',P',g1,g2,g3,g4,g5,g6,g7⟩:=(hDe _ _ _ _ _ _).1 hA;have c:=g1.root hk
  rw [show (M.planned k p d M.n).rt k=-1 from hrt] at c;obtain ⟨s1,s2⟩:=g1.setBox (3+k) (.int .i64 (r:Int)) (M.publish k r p d) (by
   intro cs h2;have hs:=h2.sz
   refine ⟨by simpa using hs,?_,?_,?_,?_,?_,?_⟩
   ·rw [Ξc (by omega)];exact h2.c0
   ·rw [Ξc (by omega)];exact h2.c1
   ·rw [Ξc (by omega)];exact h2.c2
   ·intro i hi;show _=some (Value.int .i64 (updN M.rt k (r:Int) i))
    by_cases q:i=k
    ·subst q;rw [Array.getElem?_setIfInBounds_self_of_lt (by omega),ξ9]
    ·rw [Ξc (by omega),h2.cr i hi,ξf _ _ q]
     rfl
   ·rw [Ξc (by omega)];exact h2.c11
   ·rw [Ξc (by omega)];exact h2.c12) rfl rfl rfl rfl rfl
  exact ⟨c,g1.free _,p,d,hT,o',P',s1,g2,Chg.keep g3 s2 g2⟩
 obtain ⟨R,hR⟩:∃ R:World->Prop,(fun W=>∃ p d,Trees M.n r M.E p d/\MDone w W o b (M.publish k r p d))=R:=⟨_,rfl⟩
 have hRe:∀ W,(∃ p d,Trees M.n r M.E p d/\MDone w W o b (M.publish k r p d))=R W:=fun W=>by rw [<- hR]
 simp only [hRe] at HRt ⊢
 have S0:=hcs w.drew hb0
 obtain ⟨nn,hnn⟩:∃ nn,M.n=nn:=⟨_,rfl⟩;obtain ⟨el,hel⟩:∃ el,M.E.length=el:=⟨_,rfl⟩;rw [hnn] at S0 HB HDist HPlan HRt hr h16;rw [hel] at S0 HB;obtain ⟨hk3,hk5,hk4⟩:=ξ2B hk;obtain ⟨ea,hea⟩:∃ ea,P.ea=ea:=⟨_,rfl⟩;obtain ⟨ec,hec⟩:∃ ec,P.ec=ec:=⟨_,rfl⟩;rw [hea,hec] at S0 HB;clear h hK hE hk hr hrt htr hn1 hnv hb0 hcs hlf hD hDe hR hRe hnn hel hea hec;go_enter func8,ntmps8
 go_wp2_with fail
 refine (CT.out _).mono ?_
 rintro e w1 ⟨rfl,hw1⟩;obtain rfl:w=w1:=hw1.symm;go_wp2_with fail
 refine CI.out.mono ?_
 rintro e w1 ⟨rfl,hw1⟩;obtain rfl:w=w1:=hw1.symm;go_upto_region 5 with fail
 clear cr CT CI;go_region_held3 (fun w'=>w'.cell? ⟨b,1,none⟩=some (.slice (some ⟨rb,0,none⟩) nn rc)/\w'.cell? ⟨b,2,none⟩=some (.slice ea el ec)) (with_reducible assumption) (first | (go_at_call 16;refine HB.out.mono ?_;rintro e w4 ⟨pa,pc,da,dc,p,d,rfl,hS4,HD0⟩))
 clear hS4 HB S0;go_wp2_with fail
 go_loopg [52] nn (fun g x wx=>∃ j:Nat,j+g=nn/\x=.int .i64 (j:Int)/\Hid (D wx pa da p d j))
 case atStart=>exact ⟨0,by omega,rfl,HD0⟩
 case round=>
  obtain ⟨j,hjg,rfl,HD⟩:=hrel;by_cases hj:j<nn
  ·have hjz:(j:Int)<(nn:Int):=by omega
   obtain ⟨db,dO,rfl,cd⟩:=HDist.out wr pa da p d j HD.out hj;by_cases hd:TM.dg d j=-1
   ·rw [hd] at cd;have HE:=ξ0 (HSkip.out wr pa _ p d j HD.out hd)
    clear HD hd;go_wp2_with fail
    go_roundg (nn - (j+1))
    case measure=>omega
    case rel=>exact ⟨j+1,by omega,by go_num,HE⟩
   ·have CP:=ξ0 (HPlan.out wr pa pc _ p d j HD.out hj hd)
    obtain ⟨x,hx⟩:∃ x,TM.dg d j=x:=⟨_,rfl⟩;rw [hx] at cd hd;have e1:(x==-1)=false:=by simpa using hd
    clear HD hd hx;go_wp2_with fail
    refine CP.out.mono ?_
    rintro e w5 ⟨rfl,HE⟩;go_wp2_with fail
    go_roundg (nn - (j+1))
    case measure=>omega
    case rel=>exact ⟨j+1,by omega,by go_num,HE⟩
  ·have hjz:¬ (j:Int)<(nn:Int):=by omega
   obtain rfl:nn=j:=by omega
   obtain ⟨c1,c2,hRR⟩:=HRt.out wr pa da p d HD.out;have HR:=ξ0 hRR
   clear HD HRt HDist HSkip HPlan hRR;go_wp2_with fail
   go_ret
   exact ⟨rfl,HR.out⟩
end Go.Proofs.YtpiamlgmadnepaaGreat.MS
