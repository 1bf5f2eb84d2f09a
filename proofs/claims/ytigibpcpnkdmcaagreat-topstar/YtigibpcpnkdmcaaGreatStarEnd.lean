/-
 StarD, StarE, StarF, StarW in one text.
-/
import Derived.Test.YtigibpcpnkdmcaaGreatStarAll
import Derived.Test.YtigibpcpnkdmcaaGreatTopAP
import Derived.LoopTactic
import Derived.Deep.CutRange
import Derived.Deep.LoopGhost
import Derived.Deep.AppendLies
set_option linter.unusedVariables false
set_option maxHeartbeats 16000000
set_option maxRecDepth 100000
namespace Go.Proofs.YtigibpcpnkdmcaaGreat.MS
open Go.ChangeShapes Go.WideShapes Go.ChangeAt Go.RowKit Go.Maps Mem NO ND
def starE (m:Nat):List TM.Ed:=(List.range m).map fun (i:Nat)=>⟨0,(i:Int)+1,(i:Int)+1⟩
theorem ξ8q (m:Nat):starE (m+1)=starE m++[⟨0,(m:Int)+1,(m:Int)+1⟩]:=by simp [starE,List.range_succ]
theorem ξ5Y {n:Nat} (h2:2<=n) (h10:n<=10):TM.ef (n:Int) (starE (n - 1))=0:=by
 have:n=2∨n=3∨n=4∨n=5∨n=6∨n=7∨n=8∨n=9∨n=10:=by omega
 rcases this with rfl | rfl | rfl | rfl | rfl | rfl | rfl | rfl | rfl<;>decide
theorem ξ5Z {n v:Nat} (hF:TM.Fit n (starE (n - 1))) (h0:0<v) (hv:v<n):TM.cst (starE (n - 1)) 0 (v:Int)=(v:Int):=by
 have hm:(⟨0,(v:Int),(v:Int)⟩:TM.Ed)∈starE (n - 1):=by
  unfold starE;rw [List.mem_map];refine ⟨v - 1,by rw [List.mem_range];omega,?_⟩
  have:((v - 1:Nat):Int)+1=(v:Int):=by omega
  rw [this]
 exact TM.ξem hF hm (TM.ξ39.2 (.inl ⟨rfl,rfl⟩))
theorem ξ8p {n r:Nat} {p d:List Int} (hT:Trees n r (starE (n - 1)) p d) {v:Nat} (hv:v<n):0<=TM.dg d v:=by
 have hr:=hT.rn
 have w0:=TM.Way.here (starE (n - 1)) n r
 have up:∃ s,TM.Way (starE (n - 1)) n r 0 s:=by
  by_cases c:r=0
  ·subst c;exact ⟨0,w0⟩
  ·have e:TM.cst (starE (n - 1)) (r:Int) ((0:Nat):Int)=(r:Int):=by
    rw [TM.ξ6S];exact ξ5Z hT.fit (by omega) hr
   exact ⟨_,w0.step hr (by rw [e];omega)⟩
 obtain ⟨s,hs⟩:=up;by_cases c:v=0
 ·subst c;exact (hT.dist.le hv hs).1
 ·have e:TM.cst (starE (n - 1)) ((0:Nat):Int) (v:Int)=(v:Int):=ξ5Z hT.fit (by omega) hv
  exact (hT.dist.le hv (hs.step (by omega) (by rw [e];omega))).1
def spk (k i:Nat):Pk:=⟨(i:Int),0,((k%4:Nat):Int),0,decide (i%3=0),[k,i]⟩
theorem ξ55 {k i:Nat} (hi:i<=1000):PM.fault (spk k i).s (spk k i).t (spk k i).l (spk k i).q (spk k i).L.length=0:=by
 show PM.fault (i:Int) 0 ((k%4:Nat):Int) 0 2=0
 unfold PM.fault;rw [if_pos (by omega),if_pos (by omega)]
def sp0 (n:Nat) (T:List Int) (m:Nat):Plan:=⟨n,0,starE (n - 1),fun _=>false,fun k=>(T.getD k 0).toNat,fun _=>[],fun _=>[],fun _=>0,spk,fun k=>if k<T.length then m else 0,fun _=>[]⟩
theorem ξeN {n:Nat} {T:List Int} {m:Nat} (hm:m<=20):(sp0 n T m).Ok:=by
 refine ⟨(fun k hk ho=>by cases ho),?_,?_⟩
 ·intro k hk i hi;have hi:i<(if k<T.length then m else 0):=hi
  have hi2:i<20:=by split at hi<;>omega
  refine ⟨by show (i:Int)=((0+i:Nat):Int);omega,by show 0+i<=65535;omega,ξ55 (by omega),?_⟩
  show ∀ c∈[k,i],c<256
  intro c hc;simp only [List.mem_cons,List.not_mem_nil,or_false] at hc
  omega
 ·intro k;show (if k<T.length then m else 0)<=1000
  split<;>omega
def subl (u:Nat):List (Int×Sb):=(List.range u).map fun (k:Nat)=>((k:Int)+1,s0 ((k:Int)+1) 3)
theorem ξ9J (u:Nat):subl (u+1)=subl u++[((u:Int)+1,s0 ((u:Int)+1) 3)]:=by simp [subl,List.range_succ]
theorem ξ5W (u:Nat):(subl u).length=u:=by simp [subl]
def sbl (n q:Nat):List (Int×Int):=(List.range q).map fun (j:Nat)=>(((j%n:Nat):Int),((j / n:Nat):Int)+1)
theorem ξbQ (n q:Nat):sbl n (q+1)=sbl n q++[(((q%n:Nat):Int),((q / n:Nat):Int)+1)]:=by simp [sbl,List.range_succ]
theorem ξ4I (n q:Nat):(sbl n q).length=q:=by simp [sbl]
theorem ξdx {n q j:Nat} (h:j<q):(sbl n q)[j]?=some (((j%n:Nat):Int),((j / n:Nat):Int)+1):=by simp [sbl,h]
def rtl (T:List Int) (a:Nat):Nat->Int:=fun k=>if k<a then T.getD k 0 else -1
theorem ξbT {T:List Int} {a:Nat} (h:0<=T.getD a 0):updN (rtl T a) a ((T.getD a 0).toNat:Int)=rtl T (a+1):=by
 funext k
 unfold updN rtl;by_cases c:k=a
 ·subst c;rw [if_pos rfl,if_pos (by omega)]
  omega
 ·rw [if_neg c];by_cases c2:k<a
  ·rw [if_pos c2,if_pos (by omega)]
  ·rw [if_neg c2,if_neg (by omega)]
structure SQ (nn:Nat) (T:List Int) (m a u i:Nat) (Q:Plan):Prop where
 ok:Q.Ok
 n:Q.n=nn
 now:Q.now=0
 E:Q.E=starE (nn - 1)
 on:∀ k,Q.on k=decide (k<a)
 rt:∀ k,Q.rt k=(T.getD k 0).toNat
 sq:∀ k,Q.sq k=0
 pk:∀ k i,Q.pk k i=spk k i
 mx:∀ k,Q.mx k=if k<T.length then m else 0
 B:∀ v,v<nn->Q.B v=subl (if v<i then u+1 else u)
theorem ξbK {n:Nat} {T:List Int} {m:Nat} (hm:m<=20):SQ n T m 0 0 0 (sp0 n T m):=
 ⟨ξeN hm,rfl,rfl,rfl,fun k=>by simp [sp0],fun _=>rfl,fun _=>rfl,fun _ _=>rfl,fun _=>rfl,fun v _=>by simp [sp0,subl]⟩
theorem SQ.publish {n:Nat} {T:List Int} {m u:Nat} {Q:Plan} (h:SQ n T m u u 0 Q) {p d:List Int} (hT:Trees Q.n (Q.rt u) Q.E p d):SQ n T m (u+1) u 0 (Q.publish u p d):=by
 refine ⟨h.ok.publish hT,h.n,h.now,h.E,?_,h.rt,h.sq,h.pk,h.mx,h.B⟩
 intro k;show (if k=u then true else Q.on k)=_
 by_cases c:k=u
 ·subst c;rw [if_pos rfl];simp
 ·rw [if_neg c,h.on]
  congr 1
  simp only [eq_iff_iff]
  omega
theorem SQ.sub {n:Nat} {T:List Int} {m a u i:Nat} {Q:Plan} (h:SQ n T m a u i Q) (hi:i<n):SQ n T m a u (i+1) (Q.addS i (((Q.B i).length:Int)+1,s0 ((u:Int)+1) 3)):=by
 refine ⟨h.ok.addS _ _,h.n,h.now,h.E,h.on,h.rt,h.sq,h.pk,h.mx,?_⟩
 intro v hv;show updN Q.B i (Q.B i++[_]) v=_
 by_cases c:v=i
 ·subst c;rw [ξe,h.B v hv,if_neg (by omega),if_pos (by omega),ξ9J,ξ5W]
 ·rw [ξg _ _ c,h.B v hv];by_cases c2:v<i
  ·rw [if_pos c2,if_pos (by omega)]
  ·rw [if_neg c2,if_neg (by omega)]
theorem SQ.next {n:Nat} {T:List Int} {m u:Nat} {Q:Plan} (h:SQ n T m (u+1) u n Q):SQ n T m (u+1) (u+1) 0 Q:=
 ⟨h.ok,h.n,h.now,h.E,h.on,h.rt,h.sq,h.pk,h.mx,fun v hv=>by rw [h.B v hv,if_pos hv,if_neg (by omega)]⟩
theorem SQ.at {n:Nat} {T:List Int} {m a u i:Nat} {Q:Plan} (h:SQ n T m a u i Q) {k v:Nat} (hk:k<a) (hk8:k<8) (hv:v<n):Q.at k v=true:=by
 have hon:Q.on k=true:=by rw [h.on];exact decide_eq_true hk
 refine Plan.at_iff.2 ⟨hon,?_⟩
 have hT:=h.ok.tr k hk8 hon
 rw [h.n,h.E] at hT;exact ξ8p hT hv
def Good (m k:Nat) (g:List Pk):Prop:=g.length=m/\∀ j,j<m->∃ p,g[j]?=some p/\p.s=(j:Int)/\p.L=[k,j]
theorem ξcA (k:Nat):Good 0 k []:=⟨rfl,fun j hj=>absurd hj (by omega)⟩
theorem ξ7C {k m:Nat} (hm:m<=20) (tk:Int):Run ((k%4:Nat):Int) (spk k) m (65535+((0:Nat):Int)+(m:Int)) (rowsN (s0 tk 3) 0 0 (spk k) m):=
 (ξ58 (l:=((k%4:Nat):Int)) (S:=spk k) (s:=0) (now:=0) (by omega) (by omega) (by omega) (by omega) tk m (by omega) (fun j hj=>⟨ξ55 (by omega),rfl⟩) (fun _=>rfl)).1
theorem ξbL {k m:Nat} (hm:m<=20) (tk:Int):Good m k (rowsN (s0 tk 3) 0 0 (spk k) m).got:=by
 have hR:=ξ7C (k:=k) hm tk
 refine ⟨hR.len,fun j hj=>?_⟩
 obtain ⟨g,g1,g2,_,g4⟩:=hR.got j hj;exact ⟨g,g1,g2,g4⟩
theorem ξ9L {n:Nat} {T:List Int} {m a u i:Nat} {Q:Plan} (h:SQ n T m a u i Q) (h':Nat->Nat->Nat) (v k:Nat):(Q.sub h' v ((k:Int)+1,s0 ((k:Int)+1) 3)).2=rowsN (s0 ((k:Int)+1) 3) 0 0 (spk k) (h' k v):=by
 have e:trk1 ((k:Int)+1)=k:=by unfold trk1;omega
 show rowsN (s0 ((k:Int)+1) 3) Q.now (Q.sq (trk1 ((k:Int)+1))) (Q.pk (trk1 ((k:Int)+1))) (h' (trk1 ((k:Int)+1)) v)=_
 rw [e,h.now,h.sq]
 congr 1
 funext j
 exact h.pk k j
theorem SQ.full {n:Nat} {T:List Int} {m:Nat} {Q:Plan} (h:SQ n T m T.length T.length 0 Q) (hT4:T.length<=8) (hm0:0<m) (hm:m<=20):∀ h',Heard Q (fun k=>if k<T.length then m else 0) h'->Full Q h':=by
 intro h' hH v hv x hx;rw [h.n] at hv;rw [h.B v hv,if_neg (by omega)] at hx
 obtain ⟨k,hk,rfl⟩:=List.mem_map.1 hx;rw [List.mem_range] at hk;rw [ξ9L h];have:=hH k (by omega) v (by rw [h.n];exact hv) (h.at hk (by omega) hv)
 rw [this];show (rowsN (s0 ((k:Int)+1) 3) 0 0 (spk k) (if k<T.length then m else 0)).wants=false
 rw [if_pos hk,(ξ7C hm _).wants (by omega) (by omega)]
 simp
 omega
def GI (n u m:Nat) (asked:Nat->Nat->Prop) (G:Nat->List (Int×List Pk)):Prop:=∀ v,v<n->∃ gs:Nat->List Pk,G v=(List.range u).map (fun (k:Nat)=>((k:Int)+1,gs k))/\∀ k,k<u->¬ asked k v->Good m k (gs k)
theorem ξed {n:Nat} {T:List Int} {m:Nat} {Q:Plan} (h:SQ n T m T.length T.length 0 Q) (hT4:T.length<=8) (hm:m<=20) {h':Nat->Nat->Nat} (hH:Heard Q (fun k=>if k<T.length then m else 0) h'):GI n T.length m (fun _ _=>False) (fun v=>(Q.B v).map fun x=>(x.1,(Q.sub h' v x).2.got)):=by
 intro v hv;refine ⟨fun k=>(rowsN (s0 ((k:Int)+1) 3) 0 0 (spk k) (h' k v)).got,?_,?_⟩
 ·simp only [h.B v hv,if_neg (show ¬ v<0 by omega)]
  unfold subl;rw [List.map_map];refine List.map_congr_left ?_
  intro k hk;show ((k:Int)+1,(Q.sub h' v ((k:Int)+1,s0 ((k:Int)+1) 3)).2.got)=_
  rw [ξ9L h]
 ·intro k hk _;have:=hH k (by omega) v (by rw [h.n];exact hv) (h.at hk (by omega) hv)
  simp only [this,if_pos hk]
  exact ξbL hm _
theorem ξee {n:Nat} {T:List Int} {Q:Plan} (h:SQ n T 0 T.length T.length 0 Q):GI n T.length 0 (fun _ _=>False) (fun v=>(Q.B v).map fun x=>(x.1,x.2.got)):=by
 intro v hv;refine ⟨fun _=>[],?_,fun k _ _=>ξcA k⟩
 simp only [h.B v hv,if_neg (show ¬ v<0 by omega)]
 unfold subl;rw [List.map_map];rfl
theorem range_split {u t:Nat} (h:t<u) (F:Nat->Int×List Pk):(List.range u).map F=(List.range t).map F++F t::((List.range (u - (t+1))).map fun j=>F (t+1+j)):=by
 have e:u=t+1+(u - (t+1)):=by omega
 conv=>lhs;rw [e]
 rw [List.range_add,List.map_append,List.range_succ,List.map_append,List.append_assoc,List.map_map];rfl
theorem GI.ask {n u m t i:Nat} {G:Nat->List (Int×List Pk)} {asked:Nat->Nat->Prop} (h:GI n u m asked G) (ht:t<u) (hi:i<n) (hn:¬ asked t i):∃ A C g,G i=A++((t:Int)+1,g)::C/\Good m t g/\GI n u m (fun k v=>asked k v∨(k=t/\v=i)) (updN G i (A++((t:Int)+1,[])::C)):=by
 obtain ⟨gs,e,hg⟩:=h i hi;refine ⟨_,_,gs t,by rw [e];exact range_split ht _,hg t ht hn,?_⟩
 intro v hv;by_cases c:v=i
 ·subst c;refine ⟨fun k=>if k=t then [] else gs k,?_,?_⟩
  ·rw [ξe,range_split ht]
   congr 1
   ·refine List.map_congr_left ?_
    intro k hk;rw [List.mem_range] at hk;simp only [if_neg (show k≠t by omega)]
   ·simp only [if_pos]
    congr 1
    refine List.map_congr_left ?_
    intro j hj;simp only [if_neg (show t+1+j≠t by omega)]
  ·intro k hk ha;simp only [if_neg (show k≠t from fun q=>ha (.inr ⟨q,rfl⟩))]
   exact hg k hk (fun q=>ha (.inl q))
 ·obtain ⟨gs',e',hg'⟩:=h v hv;exact ⟨gs',by rw [ξg _ _ c];exact e',fun k hk ha=>hg' k hk (fun q=>ha (.inl q))⟩
end Go.Proofs.YtigibpcpnkdmcaaGreat.MS
namespace Go.Proofs.YtigibpcpnkdmcaaGreat.MS
open Go.ChangeShapes Go.WideShapes Go.ChangeAt Go.RowKit PM Mem Pack NO
theorem infoIS:(Tryz.prog.info? 35).map (fun i=>(i.zero,i.size,i.bytes))=some (some (.slice none 0 0),1,24):=by kernel_rfl
theorem ξ3L {W:World} {base e size n g:Nat} {v:Value} {xs:List Value} (h:W.ownsRow base e size v n xs) (hg:v.ownBlock=some g):∃ cs,W.heap[g]?=some (.cells cs e (0,0)):=by
 rcases h.2 with ⟨rfl,_⟩ | ⟨g',cap,cur,rfl,_,hb,_⟩
 ·simp [Value.ownBlock] at hg
 ·simp [Value.ownBlock] at hg
  subst hg;exact ⟨cur,hb⟩
theorem ξ6m {W W':World} {base e size n:Nat} {v:Value} {xs:List Value} (h:W.ownsRow base e size v n xs) (hs:∀ g,v.ownBlock=some g->W'.heap[g]?=W.heap[g]?):W'.ownsRow base e size v n xs:=by
 refine ⟨h.1,?_⟩
 rcases h.2 with hl | ⟨g,cap,cur,rfl,hg,hbl,rest⟩
 ·exact .inl hl
 ·exact .inr ⟨g,cap,cur,rfl,hg,(hs g rfl).trans hbl,rest⟩
def nr (n k i:Nat):Int:=((k*n+i:Nat):Int)+1
def Rs (W:World) (bs:List Nat) (n t:Nat) (sv:Value):Prop:=
 (∃ L:List Value,W.ownsRow 0 35 1 sv t L/\∀ k,k<t->∃ g c cs,L[k]?=some (.slice (some ⟨g,0,none⟩) n c)/\g∈bs/\W.heap[g]?=some (.cells cs 3 (0,0))/\∀ i,i<n->cs[i]?=some (.int .i64 (nr n k i))) /\
 ∀ g,sv.ownBlock=some g->g∈bs
theorem Rs.nil (W:World) (n:Nat):Rs W [] n 0 (.slice none 0 0):=⟨⟨[],World.ownsRow_nil _ _ _ _,fun k hk=>by omega⟩,by simp [Value.ownBlock]⟩
theorem Rs.stay {W W':World} {bs bs':List Nat} {n t:Nat} {sv:Value} (h:Rs W bs n t sv) (hs:Stay bs W W') (hb:∀ k∈bs,k∈bs'):Rs W' bs' n t sv:=by
 obtain ⟨⟨L,h1,h2⟩,h3⟩:=h;refine ⟨⟨L,ξ6m h1 (fun g e=>hs g (h3 g e)),fun k hk=>?_⟩,fun g e=>hb g (h3 g e)⟩
 obtain ⟨g,c,cs,e1,e2,e3,e4⟩:=h2 k hk;exact ⟨g,c,cs,e1,hb g e2,(hs g e2).trans e3,e4⟩
theorem Rs.read {W:World} {bs:List Nat} {n t:Nat} {sv:Value} (h:Rs W bs n t sv) {k i:Nat} (hk:k<t) (hi:i<n):∃ gs c g c',sv=.slice (some ⟨gs,0,none⟩) t c/\W.cell? ⟨gs,k,none⟩=some (.slice (some ⟨g,0,none⟩) n c')/\W.cell? ⟨g,i,none⟩=some (.int .i64 (nr n k i)):=by
 obtain ⟨⟨L,h1,h2⟩,h3⟩:=h;obtain ⟨g,c,cs,e1,e2,e3,e4⟩:=h2 k hk;rcases h1.2 with ⟨_,h0⟩ | ⟨g',cap,cur,rfl,_⟩
 ·omega
 ·refine ⟨g',cap,g,c,rfl,?_,?_⟩
  ·rw [h1.cellAt k (by omega),e1]
  ·simp [World.cell?,e3,e4 i hi]
def Rw (W:World) (bs:List Nat) (B n t i:Nat) (v:Value):Prop:=
 W.ownsRow B 3 1 v i (Tree.ic ((List.range i).map (nr n t)))/\∀ g,v.ownBlock=some g->g∈bs
theorem Rw.nil (W:World) (B n t:Nat):Rw W [] B n t 0 (.slice none 0 0):=⟨World.ownsRow_nil _ _ _ _,by simp [Value.ownBlock]⟩
theorem Rw.stay {W W':World} {bs bs':List Nat} {B n t i:Nat} {v:Value} (h:Rw W bs B n t i v) (hs:Stay bs W W') (hb:∀ k∈bs,k∈bs'):Rw W' bs' B n t i v:=
 ⟨ξ6m h.1 (fun g e=>hs g (h.2 g e)),fun g e=>hb g (h.2 g e)⟩
theorem PS.lt {w W:World} {b:Nat} {Q:Plan} {h:Nat->Nat->Nat} {X:List Fy} {rt:Nat->Int} {sb:List (Int×Int)} {bs:List Nat} (hz:PS w W b Q h X rt sb bs):∀ k∈bs,k<W.heap.size:=by
 obtain ⟨M,⟨o,P,_,_,_,h4⟩,_⟩:=hz;exact fun k hk=>(h4 k hk).2
structure T2 (w W:World) (b n:Nat) (T:List Int) (m t:Nat) (sv:Value) (Q:Plan) (bs:List Nat):Prop where
 ps:PS w W b Q zeroH [] (rtl T t) (sbl n (t*n)) bs
 sq:SQ n T m t t 0 Q
 rs:Rs W bs n t sv
 ok:∀ k,k<t->0<=T.getD k 0
def Nw (W:World) (bs cs:List Nat) (n t i:Nat) (v:Value):Prop:=∃ B,(∀ k∈bs,k<B)/\B<=W.heap.size/\Rw W cs B n t i v
theorem Nw.stay {W W':World} {bs cs:List Nat} {n t i:Nat} {v:Value} (h:Nw W bs cs n t i v) (hs:Stay cs W W') (hl:∀ k∈bs,k<W'.heap.size):Nw W' bs cs n t i v:=by
 obtain ⟨B,h1,h2,h3⟩:=h;have h4:=h3.stay hs (fun k hk=>hk)
 cases hv:v.ownBlock with
 | some g=>
   have:=h4.1.lt g hv
   exact ⟨B,h1,by omega,h4⟩
 | none=>
   refine ⟨W'.heap.size,hl,Nat.le_refl _,?_,h4.2⟩
   refine ⟨h4.1.1,?_⟩
   rcases h4.1.2 with h5 | ⟨g,cap,cur,rfl,_⟩
   ·exact .inl h5
   ·simp [Value.ownBlock] at hv
structure T3 (w W:World) (b n:Nat) (T:List Int) (m t i:Nat) (sv v:Value) (Q:Plan) (bs cs:List Nat):Prop where
 ps:PS w W b Q zeroH [] (rtl T (t+1)) (sbl n (t*n+i)) (bs++cs)
 sq:SQ n T m (t+1) t i Q
 rs:Rs W bs n t sv
 rw:Nw W bs cs n t i v
 ok:∀ k,k<t+1->0<=T.getD k 0
structure T4 (w W:World) (b n:Nat) (T:List Int) (m t i:Nat) (sv v:Value) (Q:Plan) (bs cs:List Nat):Prop where
 ps:PS w W b Q zeroH [] (rtl T (t+1)) (sbl n (t*n+(i+1))) (bs++cs)
 sq:SQ n T m (t+1) t (i+1) Q
 rs:Rs W bs n t sv
 rw:Nw W bs cs n t i v
 ok:∀ k,k<t+1->0<=T.getD k 0
theorem T2.publish {w W:World} {b n:Nat} {T:List Int} {m t:Nat} {sv:Value} {Q:Plan} {bs:List Nat} (h:T2 w W b n T m t sv Q bs) (h2:2<=n) (h10:n<=10) (ht:t<T.length) (h8:t<8) (h0:0<=T.getD t 0) (hn:T.getD t 0<(n:Int)) :
 Calls Tryz.prog 9 #[.pointer (some ⟨b,0,none⟩),.int .i64 ((t:Int)+1),.int .i64 (T.getD t 0)] W fun e w'=>e=.returned .nilIface/\∃ Q',T3 w w' b n T m t 0 sv (.slice none 0 0) Q' bs []:=by
 have hrt:(Q.rt t:Int)=T.getD t 0:=by rw [h.sq.rt];omega
 have hc:=ξ8D h.ps (k:=t) h8 (by rw [h.sq.on];simp) (by unfold rtl;rw [if_neg (by omega)]) (by rw [h.sq.n];omega) (by rw [h.sq.n,h.sq.E];exact ξ5Y h2 h10)
 rw [hrt] at hc;refine hc.mono ?_
 rintro e w' ⟨rfl,hs,p,d,hT,hp⟩;refine ⟨rfl,Q.publish t p d,?_,h.sq.publish hT,h.rs.stay hs (fun k hk=>hk),⟨w'.heap.size,hp.lt,Nat.le_refl _,Rw.nil _ _ _ _⟩,fun k hk=>?_⟩
 rotate_left
 ·by_cases hkt:k<t
  ·exact h.ok k hkt
  ·obtain rfl:k=t:=by omega
   exact h0
 rw [List.append_nil,Nat.add_zero,<- ξbT (a:=t) h0];have e:((T.getD t 0).toNat:Int)=T.getD t 0:=by omega
 rw [e];exact hp
theorem T3.sub {w W:World} {b n:Nat} {T:List Int} {m t i:Nat} {sv v:Value} {Q:Plan} {bs cs:List Nat} (h:T3 w W b n T m t i sv v Q bs cs) (h10:n<=10) (ht:t<4) (hi:i<n) :
 Calls Tryz.prog 10 #[.pointer (some ⟨b,0,none⟩),.int .i64 ((t:Int)+1),.int .i64 (i:Int),.int .i64 3] W fun e w'=>e=.returned (.tuple #[.int .i64 (nr n t i),.nilIface])/\∃ Q',T4 w w' b n T m t i sv v Q' bs cs:=by
 have hB:(Q.B i).length=t:=by rw [h.sq.B i hi,if_neg (by omega),ξ5W]
 have hsl:t*n+i<=40:=by
  have:t*n<=3*n:=Nat.mul_le_mul_right n (by omega)
  omega
 have hc:=ξeT h.ps (k:=t) (v:=i) (by omega) (by rw [h.sq.n];exact hi) (h.sq.at (by omega) (by omega) hi) (mo:=3) (by omega) (by omega) (by omega) (by rw [ξ4I];omega)
 refine hc.mono ?_
 rintro e w' ⟨rfl,hs,hp⟩;have e1:(t*n+i)%n=i:=by rw [Nat.mul_comm,Nat.mul_add_mod];exact Nat.mod_eq_of_lt hi
 have e2:(t*n+i) / n=t:=by rw [Nat.mul_comm,Nat.mul_add_div (by omega),Nat.div_eq_of_lt hi];omega
 have e3:sbl n (t*n+(i+1))=sbl n (t*n+i)++[((i:Int),((Q.B i).length:Int)+1)]:=by rw [<- Nat.add_assoc,ξbQ,e1,e2,hB]
 refine ⟨by rw [ξ4I];rfl,_,?_,h.sq.sub hi,h.rs.stay (hs.sub (fun k hk=>by simp [hk])) (fun k hk=>hk),h.rw.stay (hs.sub (fun k hk=>by simp [hk])) (fun k hk=>hp.lt k (by simp [hk])),h.ok⟩
 rw [e3];exact hp
theorem T4.add {w W W1:World} {b n:Nat} {T:List Int} {m t i:Nat} {sv v:Value} {Q:Plan} {bs cs:List Nat} (h:T4 w W b n T m t i sv v Q bs cs) {B:Nat} (hB:∀ k∈bs,k<B) (hBs:B<=W.heap.size) (hw:Rw W cs B n t i v) {O:Obj} {g cap:Nat}
 (hown:W1.ownsRow B 3 1 (.slice (some ⟨g,0,none⟩) (i+1) cap) (i+1) (Tree.ic ((List.range i).map (nr n t))++[.int .i64 (nr n t i)])) (hg:(W.alloc O).grownBy W1 v.ownBlock) (hl:v.ownBlock=some g∨g=W.heap.size+1) (hlt:g<W1.heap.size) :
 ∃ cs',T3 w W1 b n T m t (i+1) sv (.slice (some ⟨g,0,none⟩) (i+1) cap) Q bs cs':=by
 have ho:Only v.ownBlock.toList W W1:=((Only.refl _ W).alloc O).grown hg (fun k e=>by simp [e])
 have hn:Nob W v.ownBlock.toList:=fun k hk=>by
  obtain ⟨cs,e⟩:=ξ3L hw.1 (g:=k) (by simpa using hk)
  exact ξi e (by decide)
 have hst:Stay bs W W1:=fun k hk=>ho.2.2.2.2 k (h.ps.lt k (by simp [hk])) (fun hc=>by
  have:=(hw.1.lt k (by simpa using hc)).1
  have:=hB k hk
  omega)
 have hrow:W1.ownsRow B 3 1 (.slice (some ⟨g,0,none⟩) (i+1) cap) (i+1) (Tree.ic ((List.range (i+1)).map (nr n t))):=by
  rw [List.range_succ,List.map_append,Tree.ξ25];exact hown
 have hsz:W.heap.size<=W1.heap.size:=ho.2.2.2.1
 rcases hl with h1 | h1
 ·refine ⟨cs,?_,h.sq,h.rs.stay hst (fun k hk=>hk),⟨B,hB,by omega,hrow,fun g' e=>?_⟩,h.ok⟩
  ·have:=h.ps.own ho (fun k hk=>by simp;exact .inr (hw.2 k (by simpa using hk))) hn [] (by simp)
   rw [List.append_nil] at this;exact this
  ·have e':some g=some g':=e
   simp only [Option.some.injEq] at e'
   subst e';exact hw.2 g h1
 ·refine ⟨cs++[g],?_,h.sq,h.rs.stay hst (fun k hk=>hk),⟨B,hB,by omega,hrow,fun g' e=>?_⟩,h.ok⟩
  ·have:=h.ps.own ho (fun k hk=>by simp;exact .inr (hw.2 k (by simpa using hk))) hn [g] (by simp;omega)
   rw [<- List.append_assoc];exact this
  ·have e':some g=some g':=e
   simp only [Option.some.injEq] at e'
   subst e';simp
theorem T3.done {w W W1:World} {b n:Nat} {T:List Int} {m t:Nat} {sv:Value} {Q:Plan} {bs cs:List Nat} {gr cr:Nat} (h:T3 w W b n T m t n sv (.slice (some ⟨gr,0,none⟩) n cr) Q bs cs) {O:Obj} {L:List Value} (hL:W.ownsRow 0 35 1 sv t L)
 (hLs:∀ k,k<t->∃ g c cs,L[k]?=some (.slice (some ⟨g,0,none⟩) n c)/\g∈bs/\W.heap[g]?=some (.cells cs 3 (0,0))/\∀ i,i<n->cs[i]?=some (.int .i64 (nr n k i))) {g cap:Nat}
 (hown:W1.ownsRow 0 35 1 (.slice (some ⟨g,0,none⟩) (t+1) cap) (t+1) (L++[.slice (some ⟨gr,0,none⟩) n cr])) (hg:(W.alloc O).grownBy W1 sv.ownBlock) (hl:sv.ownBlock=some g∨g=W.heap.size+1) (hlt:g<W1.heap.size) :
 ∃ bs',T2 w W1 b n T m (t+1) (.slice (some ⟨g,0,none⟩) (t+1) cap) Q bs':=by
 have ho:Only sv.ownBlock.toList W W1:=((Only.refl _ W).alloc O).grown hg (fun k e=>by simp [e])
 have hty:∀ k∈sv.ownBlock.toList,∃ cs,W.heap[k]?=some (.cells cs 35 (0,0)):=fun k hk=>ξ3L hL (by simpa using hk)
 have hn:Nob W sv.ownBlock.toList:=fun k hk=>by
  obtain ⟨cs,e⟩:=hty k hk;exact ξi e (by decide)
 have h3:∀ (k:Nat) (cs:Array Value),W.heap[k]?=some (.cells cs 3 (0,0))->W1.heap[k]?=some (.cells cs 3 (0,0)):=fun k cs e=>ho.block e (fun hc=>by
  obtain ⟨cs',e'⟩:=hty k hc;rw [e] at e';simp at e')
 obtain ⟨B,hB,hBs,hrow,hblk⟩:=h.rw;have hlen:L.length=t:=by have:=hL.1;omega
 obtain ⟨crr,hcr⟩:=ξ3L hrow (g:=gr) rfl;have hcells:∀ i,i<n->crr[i]?=some (.int .i64 (nr n t i)):=by
  intro i hi;have h1:=hrow.cellAt i (by omega)
  rw [Tree.ξ24 _ i (by simp;exact hi)] at h1
  have h2:crr[i]?=some (.int .i64 (TM.dg ((List.range n).map (nr n t)) i)):=by rw [<- h1];simp [World.cell?,hcr]
  rw [h2];simp [TM.dg,hi]
 have hmul:t*n+n=(t+1)*n:=by rw [Nat.succ_mul]
 have hps:=h.ps
 rw [hmul] at hps;have hrs:∀ bs',(∀ k∈bs++cs,k∈bs')->g∈bs'->Rs W1 bs' n (t+1) (.slice (some ⟨g,0,none⟩) (t+1) cap):=by
  intro bs' hb hgb;refine ⟨⟨_,hown,fun k hk=>?_⟩,fun g' e=>?_⟩
  ·by_cases hkt:k<t
   ·obtain ⟨g',c',cs',e1,e2,e3,e4⟩:=hLs k hkt;exact ⟨g',c',cs',by rw [List.getElem?_append_left (by omega)];exact e1,hb g' (by simp [e2]),h3 _ _ e3,e4⟩
   ·obtain rfl:k=t:=by omega
    exact ⟨gr,cr,crr,by rw [List.getElem?_append_right (by omega),hlen];simp,hb gr (by simp;exact .inr (hblk gr rfl)),h3 _ _ hcr,hcells⟩
  ·have e':some g=some g':=e
   simp only [Option.some.injEq] at e'
   subst e';exact hgb
 have hsn:SQ n T m (t+1) (t+1) 0 Q:=h.sq.next
 rcases hl with h1 | h1
 ·have hgb:g∈bs:=h.rs.2 g h1
  refine ⟨bs++cs,?_,hsn,hrs _ (fun k hk=>hk) (by simp [hgb]),h.ok⟩
  have:=hps.own ho (fun k hk=>by simp;exact .inl (h.rs.2 k (by simpa using hk))) hn [] (by simp)
  rw [List.append_nil] at this;exact this
 ·refine ⟨bs++cs++[g],?_,hsn,hrs _ (fun k hk=>List.mem_append_left _ hk) (by simp),h.ok⟩
  exact hps.own ho (fun k hk=>by simp;exact .inl (h.rs.2 k (by simpa using hk))) hn [g] (by simp;have:=ho.2.2.2.1;omega)
end Go.Proofs.YtigibpcpnkdmcaaGreat.MS
namespace Go.Proofs.YtigibpcpnkdmcaaGreat.MS
open Go.ChangeShapes Go.WideShapes Go.ChangeAt Go.RowKit PM Mem Pack NO ND
theorem ξeK {w W:World} {n:Nat} {T:List Int} {m:Nat} (hw:Below w.heap.size w W) (h2:2<=n) (h10:n<=10) (hm:m<=20) (a:Option Addr) (k cap:Nat) (hA:Tree.EArg W a k (starE (n - 1))) (hn0:a=none->k=0/\cap=0) (hnc:k<=cap) :
 Calls Tryz.prog 7 #[.int .i64 (n:Int),.slice a k cap] W fun e w'=>∃ b,e=.returned (.tuple #[.pointer (some ⟨b,0,none⟩),.nilIface])/\T2 w w' b n T m 0 (.slice none 0 0) (sp0 n T m) []:=by
 refine (ξa4 (Q:=sp0 n T m) hw a k cap hA hn0 hnc (ξ5Y h2 h10) rfl (fun _=>rfl) (fun _=>rfl)).mono ?_
 rintro e w' ⟨b,rfl,hz⟩;refine ⟨b,rfl,?_,ξbK hm,Rs.nil _ _,fun k hk=>by omega⟩
 have:=hz.ps
 have e1:rtl T 0=fun _=>-1:=by funext k;simp [rtl]
 have e2:sbl n (0*n)=[]:=by rw [Nat.zero_mul];rfl
 rw [e1,e2];exact this
structure T5 (w W:World) (b n:Nat) (T:List Int) (m t i:Nat) (sv:Value) (Q:Plan) (h:Nat->Nat->Nat) (X:List Fy) (bs:List Nat):Prop where
 ps:PS w W b Q h X (rtl T T.length) (sbl n (T.length*n)) bs
 sq:SQ n T m T.length T.length 0 Q
 rs:Rs W bs n T.length sv
 ok:∀ k,k<T.length->0<=T.getD k 0
 hh:∀ k,k<8->h k (Q.rt k)=if k<T.length then (if k<t then i+1 else i) else 0
 z:i=0->t=0->h=zeroH/\X=[]
theorem T2.all {w W:World} {b n:Nat} {T:List Int} {m:Nat} {sv:Value} {Q:Plan} {bs:List Nat} (h:T2 w W b n T m T.length sv Q bs):T5 w W b n T m 0 0 sv Q zeroH [] bs:=
 ⟨h.ps,h.sq,h.rs,h.ok,fun k hk=>by simp [zeroH],fun _ _=>⟨rfl,rfl⟩⟩
theorem T5.round {w W:World} {b n:Nat} {T:List Int} {m i:Nat} {sv:Value} {Q:Plan} {h:Nat->Nat->Nat} {X:List Fy} {bs:List Nat} (hT:T5 w W b n T m T.length i sv Q h X bs):T5 w W b n T m 0 (i+1) sv Q h X bs:=
 ⟨hT.ps,hT.sq,hT.rs,hT.ok,fun k hk=>by
  rw [hT.hh k hk];by_cases h:k<T.length
  ·rw [if_pos h,if_pos h,if_pos h,if_neg (by omega)]
  ·rw [if_neg h,if_neg h],fun h=>by omega⟩
theorem T5.send {w W:World} {b n:Nat} {T:List Int} {m t i:Nat} {sv:Value} {Q:Plan} {h:Nat->Nat->Nat} {X:List Fy} {bs:List Nat} (hT:T5 w W b n T m t i sv Q h X bs) (h4:T.length<=4) (hm:m<=20) (ht:t<T.length) (hi:i<m) :
 Calls Tryz.prog 13 #[.pointer (some ⟨b,0,none⟩),.int .i64 ((t:Int)+1),.agg #[.int .i64 (i:Int),.int .i64 0,.int .i64 ((t%4:Nat):Int),.int .i64 0,.bool (decide (i%3=0)),.slice (some ⟨W.heap.size,0,none⟩) 2 2]] (W.alloc (.cells #[.int .u8 (t:Int),.int .u8 (i:Int)] 5))
  fun e w'=>e=.returned .nilIface/\∃ h' X',T5 w w' b n T m (t+1) i sv Q h' X' bs:=by
 have hb:Below W.heap.size W (W.alloc (.cells #[.int .u8 (t:Int),.int .u8 (i:Int)] 5)):=(Below.refl _ _).alloc (Nat.le_refl _) _
 have hhi:h t (Q.rt t)=i:=by rw [hT.hh t (by omega),if_pos ht,if_neg (by omega)]
 have hR:Row (W.alloc (.cells #[.int .u8 (t:Int),.int .u8 (i:Int)] 5)) W.heap.size [t,i]:=Row.new W [t,i]
 have hA:Arg (W.alloc (.cells #[.int .u8 (t:Int),.int .u8 (i:Int)] 5)) (some ⟨W.heap.size,0,none⟩) (spk t i).L.length (spk t i).L:=⟨hR.bys (by intro c hc;simp at hc;omega),rfl,by show (2:Nat)<=_;omega⟩
 have hrt:rtl T T.length t=(Q.rt t:Int):=by
  unfold rtl;rw [if_pos ht,hT.sq.rt];have:=hT.ok t ht
  omega
 refine (ξdJ hT.sq.ok hT.ps hb (k:=t) (by omega) (by rw [hT.sq.on];simpa using ht) hrt (by rw [hhi,hT.sq.mx,if_pos ht];exact hi) (some ⟨W.heap.size,0,none⟩) 2 (p:=spk t i) (by rw [hT.sq.pk,hhi]) hA (fun e=>by simp at e) (fun _ ad e=>.inr (by rw [<- Option.some.inj e];exact Nat.le_refl _))).mono ?_
 rintro e w' ⟨rfl,hs,hp⟩;refine ⟨rfl,_,_,hp,hT.sq,hT.rs.stay hs (fun k hk=>hk),hT.ok,fun k hk=>?_,fun _ h=>by omega⟩
 by_cases hkt:k=t
 ·subst hkt;rw [if_pos ht,if_pos (by omega)]
  have e1:upH h k (Q.rt k) k (Q.rt k)=h k (Q.rt k)+1:=by simp [upH]
  rw [e1,hhi]
 ·have e1:upH h t (Q.rt t) k (Q.rt k)=h k (Q.rt k):=by
   simp only [upH]
   rw [if_neg (fun hc=>hkt hc.1)]
  rw [e1,hT.hh k hk];by_cases h5:k<T.length
  ·rw [if_pos h5,if_pos h5];by_cases h6:k<t
   ·rw [if_pos h6,if_pos (by omega)]
   ·rw [if_neg h6,if_neg (by omega)]
  ·rw [if_neg h5,if_neg h5]
structure T6 (w W:World) (b n:Nat) (T:List Int) (m t i:Nat) (sv:Value) (G:Nat->List (Int×List Pk)) (fl:Nat) (bs:List Nat):Prop where
 gz:GZ w W b n (sbl n (T.length*n)) G fl bs
 gi:GI n T.length m (fun k v=>k<t∨(k=t/\v<i)) G
 rs:Rs W bs n T.length sv
 fl:m≠0->fl=0
theorem GI.weak {n u m:Nat} {a a':Nat->Nat->Prop} {G:Nat->List (Int×List Pk)} (h:GI n u m a G) (ha:∀ k v,a k v->a' k v):GI n u m a' G:=by
 intro v hv;obtain ⟨gs,e,hg⟩:=h v hv;exact ⟨gs,e,fun k hk hn=>hg k hk (fun hc=>hn (ha k v hc))⟩
theorem T5.calm {w W:World} {b n:Nat} {T:List Int} {m:Nat} {sv:Value} {Q:Plan} {h:Nat->Nat->Nat} {X:List Fy} {bs:List Nat} (hT:T5 w W b n T m 0 m sv Q h X bs) (h4:T.length<=4) (hm:m<=20) :
 Calls Tryz.prog 14 #[.pointer (some ⟨b,0,none⟩)] W fun e w'=>∃ r:Int,e=.returned (.int .i64 r)/\∃ G fl,T6 w w' b n T m 0 0 sv G fl bs:=by
 by_cases h0:m=0
 ·subst h0;obtain ⟨rfl,rfl⟩:=hT.z rfl rfl;refine (ξ8E hT.sq.ok hT.sq.now hT.ps).mono ?_
  rintro e w' ⟨r,rfl,hs,fl,hg⟩;rw [hT.sq.n] at hg;exact ⟨r,rfl,_,fl,hg,(ξee hT.sq).weak (fun k v hc=>hc.elim),hT.rs.stay hs (fun k hk=>hk),fun h=>absurd rfl h⟩
 ·refine (ξdK hT.sq.ok (c:=fun k=>if k<T.length then m else 0) (hT.sq.full (by omega) (by omega) hm) hT.sq.now hT.ps (fun k hk=>by rw [hT.hh k hk];by_cases h5:k<T.length<;>simp [h5])).mono ?_
  rintro e w' ⟨r,rfl,hs,h',hh,hg⟩;rw [hT.sq.n] at hg;exact ⟨r,rfl,_,0,hg,(ξed hT.sq (by omega) hm hh).weak (fun k v hc=>hc.elim),hT.rs.stay hs (fun k hk=>hk),fun _=>rfl⟩
theorem T6.got {w W:World} {b n:Nat} {T:List Int} {m t i:Nat} {sv:Value} {G:Nat->List (Int×List Pk)} {fl:Nat} {bs:List Nat} (h:T6 w W b n T m t i sv G fl bs) (h4:T.length<=4) (h10:n<=10) (ht:t<T.length) (hi:i<n) :
 Calls Tryz.prog 15 #[.pointer (some ⟨b,0,none⟩),.int .i64 (nr n t i)] W fun e w'=>∃ a c g,e=.returned (.tuple #[.slice a m c,.nilIface])/\(∃ o,ξG w' o (.slice a m c) g)/\Good m t g/\∃ G',T6 w w' b n T m t (i+1) sv G' fl bs:=by
 obtain ⟨A,C,g,e1,hg,hi2⟩:=h.gi.ask ht hi (by omega)
 have e2:(t*n+i)%n=i:=by rw [Nat.mul_comm,Nat.mul_add_mod];exact Nat.mod_eq_of_lt hi
 have e3:(t*n+i) / n=t:=by rw [Nat.mul_comm,Nat.mul_add_div (by omega),Nat.div_eq_of_lt hi];omega
 have hj:t*n+i<T.length*n:=by
  have:(t+1)*n<=T.length*n:=Nat.mul_le_mul_right n ht
  rw [Nat.succ_mul] at this;omega
 have hl:T.length*n<=4*10:=Nat.mul_le_mul h4 h10
 refine (ξf6 h.gz (j:=t*n+i) (v:=i) (id:=(t:Int)+1) (by rw [ξdx hj,e2,e3]) hi e1 (by rw [ξ4I];omega)).mono ?_
 rintro e w' ⟨a,c,rfl,ho,hs,hz⟩;rw [hg.1] at ho;refine ⟨a,c,g,by rw [hg.1],ho,hg,_,hz,hi2.weak (fun k v hc=>?_),h.rs.stay hs (fun k hk=>hk),h.fl⟩
 rcases hc with (h1 | h1) | h1
 ·exact .inl h1
 ·exact .inr ⟨h1.1,by omega⟩
 ·exact .inr ⟨h1.1,by omega⟩
theorem T6.row {w W:World} {b n:Nat} {T:List Int} {m t:Nat} {sv:Value} {G:Nat->List (Int×List Pk)} {fl:Nat} {bs:List Nat} (h:T6 w W b n T m t n sv G fl bs):T6 w W b n T m (t+1) 0 sv G fl bs:=
 ⟨h.gz,h.gi.weak (fun k v hc=>by rcases hc with h1 | h1<;>exact .inl (by omega)),h.rs,h.fl⟩
theorem T6.flying {w W:World} {b n:Nat} {T:List Int} {m t i:Nat} {sv:Value} {G:Nat->List (Int×List Pk)} {fl:Nat} {bs:List Nat} (h:T6 w W b n T m t i sv G fl bs) (hm:m≠0) :
 Calls Tryz.prog 17 #[.pointer (some ⟨b,0,none⟩)] W fun e w'=>e=.returned (.int .i64 0)/\w'=W:=by
 have:=ξaT h.gz
 rw [h.fl hm] at this;exact this
theorem T6.bel {w W:World} {b n:Nat} {T:List Int} {m t i:Nat} {sv:Value} {G:Nat->List (Int×List Pk)} {fl:Nat} {bs:List Nat} (h:T6 w W b n T m t i sv G fl bs):Below w.heap.size w W:=h.gz.bel
theorem ξdw (n m:Int) (va:Option Addr) (ln cn:Nat) (w:World) (h0:n<2) :
 Calls Tryz.prog 4 #[.int .i64 n,.slice va ln cn,.int .i64 m] w fun e w'=>e=.returned (.bool true)/\Below w.heap.size w w':=by
 have HO:=ξ0 (ξ1v w)
 have d0:decide (n<2)=true:=decide_eq_true h0
 go_enter Tryz.func4,Tryz.ntmps4
 go_wp2_with fail
 refine HO.out.mono ?_
 rintro e w1 ⟨rfl,hb⟩;have HB:=ξ0 hb
 clear hb HO;go_wp2_with fail
 go_ret
 exact ⟨rfl,HB.out⟩
theorem ξdv (n m:Int) (va:Option Addr) (ln cn:Nat) (w:World) (h0:¬ n<2) (h1:10<n) :
 Calls Tryz.prog 4 #[.int .i64 n,.slice va ln cn,.int .i64 m] w fun e w'=>e=.returned (.bool true)/\Below w.heap.size w w':=by
 have HO:=ξ0 (ξ1v w)
 have d0:decide (n<2)=false:=decide_eq_false h0
 have d1:decide (10<n)=true:=decide_eq_true h1
 go_enter Tryz.func4,Tryz.ntmps4
 go_wp2_with fail
 refine HO.out.mono ?_
 rintro e w1 ⟨rfl,hb⟩;have HB:=ξ0 hb
 clear hb HO;go_wp2_with fail
 go_ret
 exact ⟨rfl,HB.out⟩
theorem ξdu (n m:Int) (va:Option Addr) (ln cn:Nat) (w:World) (h0:¬ n<2) (h1:¬ 10<n) (h2:m<0) :
 Calls Tryz.prog 4 #[.int .i64 n,.slice va ln cn,.int .i64 m] w fun e w'=>e=.returned (.bool true)/\Below w.heap.size w w':=by
 have HO:=ξ0 (ξ1v w)
 have d0:decide (n<2)=false:=decide_eq_false h0
 have d1:decide (10<n)=false:=decide_eq_false h1
 have d2:decide (m<0)=true:=decide_eq_true h2
 go_enter Tryz.func4,Tryz.ntmps4
 go_wp2_with fail
 refine HO.out.mono ?_
 rintro e w1 ⟨rfl,hb⟩;have HB:=ξ0 hb
 clear hb HO;go_wp2_with fail
 go_ret
 exact ⟨rfl,HB.out⟩
theorem ξdt (n m:Int) (va:Option Addr) (ln cn:Nat) (w:World) (h0:¬ n<2) (h1:¬ 10<n) (h2:¬ m<0) (h3:20<m) :
 Calls Tryz.prog 4 #[.int .i64 n,.slice va ln cn,.int .i64 m] w fun e w'=>e=.returned (.bool true)/\Below w.heap.size w w':=by
 have HO:=ξ0 (ξ1v w)
 have d0:decide (n<2)=false:=decide_eq_false h0
 have d1:decide (10<n)=false:=decide_eq_false h1
 have d2:decide (m<0)=false:=decide_eq_false h2
 have d3:decide (20<m)=true:=decide_eq_true h3
 go_enter Tryz.func4,Tryz.ntmps4
 go_wp2_with fail
 refine HO.out.mono ?_
 rintro e w1 ⟨rfl,hb⟩;have HB:=ξ0 hb
 clear hb HO;go_wp2_with fail
 go_ret
 exact ⟨rfl,HB.out⟩
theorem ξds (n m:Int) (va:Option Addr) (ln cn:Nat) (w:World) (h0:¬ n<2) (h1:¬ 10<n) (h2:¬ m<0) (h3:¬ 20<m) (h4:4<(ln:Int)) :
 Calls Tryz.prog 4 #[.int .i64 n,.slice va ln cn,.int .i64 m] w fun e w'=>e=.returned (.bool true)/\Below w.heap.size w w':=by
 have HO:=ξ0 (ξ1v w)
 have d0:decide (n<2)=false:=decide_eq_false h0
 have d1:decide (10<n)=false:=decide_eq_false h1
 have d2:decide (m<0)=false:=decide_eq_false h2
 have d3:decide (20<m)=false:=decide_eq_false h3
 have d4:decide (4<(ln:Int))=true:=decide_eq_true h4
 go_enter Tryz.func4,Tryz.ntmps4
 go_wp2_with fail
 refine HO.out.mono ?_
 rintro e w1 ⟨rfl,hb⟩;have HB:=ξ0 hb
 clear hb HO;go_wp2_with fail
 go_ret
 exact ⟨rfl,HB.out⟩
theorem ξf9 {T:List Int} {j:Nat} (h:j<T.length):TM.dg T j=T.getD j 0:=by simp [TM.dg,List.getD_eq_getElem?_getD,List.getElem?_eq_getElem h]
structure ESt (w W:World) (j:Nat) (v:Value):Prop where
 below:Below w.heap.size w W
 own:W.ownsRow w.heap.size 48 3 v j (Tree.mc (starE j))
theorem ξbW {W:World} {B n t i:Nat} {cs:List Nat} {v:Value} (h:Rw W cs B n t i v) (hi:0<i):∃ g c,v=.slice (some ⟨g,0,none⟩) i c:=by
 rcases h.1.2 with ⟨_,h0⟩ | ⟨g,cap,cur,rfl,_⟩
 ·omega
 ·exact ⟨g,cap,rfl⟩
theorem lit1 {w:World} {T:TypeId} (c0:Value):∀ j u,[c0][j]?=some u->(w.alloc (.cells #[c0] T)).cell? ((⟨w.heap.size,0,none⟩:Addr).add j)=some u:=by
 intro j u hu;rw [Addr.add_lit,World.cell?_alloc_mark,Nat.zero_add,<- hu];exact List.getElem?_toArray
theorem lit3 {w:World} {T:TypeId} (c0 c1 c2:Value):∀ j u,[c0,c1,c2][j]?=some u->(w.alloc (.cells #[c0,c1,c2] T)).cell? ((⟨w.heap.size,0,none⟩:Addr).add j)=some u:=by
 intro j u hu;rw [Addr.add_lit,World.cell?_alloc_mark,Nat.zero_add,<- hu];exact List.getElem?_toArray
theorem ξdr (N m:Nat) (va:Option Addr) (ln cn:Nat) (T:List Int) (w:World) (hA:Tree.IArg w va ln T) (h2:2<=N) (h10:N<=10) (hm:m<=20) (hln:ln<=4) :
 Calls Tryz.prog 4 #[.int .i64 (N:Int),.slice va ln cn,.int .i64 (m:Int)] w fun e w'=>e=.returned (.bool true)/\Below w.heap.size w w':=by
 have hTl:T.length=ln:=hA.2.1
 have HA:=ξ0 hA
 have HO:=ξ0 (ξ1v w)
 have d0:decide ((N:Int)<2)=false:=by simp;omega
 have d1:decide (10<(N:Int))=false:=by simp;omega
 have d2:decide ((m:Int)<0)=false:=decide_eq_false (by omega)
 have d3:decide (20<(m:Int))=false:=by simp;omega
 have d4:decide (4<(ln:Int))=false:=by simp;omega
 obtain ⟨ie,hie,he0,he1,he2⟩:=info_parts Tree.infoED;obtain ⟨i3,hi3,hz0,hz1,hz2⟩:=info_parts Tree.info3;obtain ⟨js,hjs,hy0,hy1,hy2⟩:=info_parts infoIS;clear hA;go_enter Tryz.func4,Tryz.ntmps4
 go_wp2_with fail
 refine HO.out.mono ?_
 rintro e w1 ⟨rfl,hb⟩;have HB1:=ξ0 hb
 have HE0:Hid (ESt w1 w1 0 (.slice none 0 0)):=⟨Below.refl _ _,World.ownsRow_nil _ _ _ _⟩
 clear hb HO;go_wp2_with fail
 go_loopg [8,9] (N - 1) (fun g u8 u9 wr=>∃ (j:Nat) (v:Value),j+1+g=N/\v=u8/\u9=.int .i64 ((j:Int)+1)/\Hid (ESt w1 wr j v))
 case atStart=>exact ⟨0,_,by omega,rfl,rfl,HE0⟩
 case round=>
 obtain ⟨j,v,hjg,rfl,rfl,HE⟩:=hrel;clear HE0;by_cases hj:j+1<N
 case pos=>
  have hjz:(j:Int)+1<(N:Int):=by omega
  go_wp2_with (at_builtin;refine wpList_append_own _ rfl _ _ 28 rfl w1.heap.size 48 ie _ 3 24 Tryz.underlying28 hie he0 he1 he2 rfl (by decide) v j (Tree.mc (starE j)) rfl (HE.out.own.alloc _) ⟨wr.heap.size,0,none⟩ 1 1 [.int .i64 0,.int .i64 ((j:Int)+1),.int .i64 ((j:Int)+1)] rfl rfl ?cc ?one ?b1 ?b2 ?b3 ?next)
  case cc=>exact lit3 _ _ _
  case one=>simp [Value.oneCell']
  case b1=>unfold maxLen;omega
  case b2=>omega
  case b3=>have:=HE.out.below.size;simp;omega
  case next=>
  intro v3 w' hown hgrow _;have HEn:Hid (ESt w1 w' (j+1) v3):=by
   have hs:=HE.out.below.size
   refine ⟨(HE.out.below.alloc hs _).grown hgrow (by simp;omega) (fun k hk=>(HE.out.own.lt k hk).1),?_⟩
   rw [ξ8q,Tree.ξeZ];exact hown
  clear hown hgrow;go_wp2_with fail
  go_roundg (N - (j+2))
  case measure=>omega
  case rel=>exact ⟨j+1,v3,by omega,rfl,by go_num,HEn⟩
 case neg=>
 have hjz:¬ (j:Int)+1<(N:Int):=by omega
 have hj1:j=N - 1:=by omega
 have HBr:Hid (Below w.heap.size w wr):=HB1.out.trans (HE.out.below.mono HB1.out.size)
 obtain ⟨ea,ec,hev,hEA,hen,hec,-⟩:=Tree.ξ7L HE.out.own (by omega)
 subst hev;have CN:Hid (Calls Tryz.prog 7 #[.int .i64 (N:Int),.slice ea j ec] wr fun e w'=>∃ b,e=.returned (.tuple #[.pointer (some ⟨b,0,none⟩),.nilIface])/\T2 w w' b N T m 0 (.slice none 0 0) (sp0 N T m) []):=ξeK HBr.out h2 h10 hm ea j ec (by rw [<- hj1];exact hEA) hen hec
 clear hEA hen hec HE hj1 HB1 HBr;go_wp2_with fail
 refine CN.out.mono ?_
 rintro e w2 ⟨b,rfl,h2t⟩;have HT0:=ξ0 h2t
 clear h2t CN;go_wp2_with fail
 go_loopg [12,13] ln (fun g u12 u13 wr=>∃ (t:Nat) (sv:Value) (Q:Plan) (bs:List Nat),t+g=ln/\sv=u12/\u13=.int .i64 (t:Int)/\Hid (T2 w wr b N T m t sv Q bs))
 case atStart=>exact ⟨0,_,_,_,by omega,rfl,rfl,HT0⟩
 case round=>
 obtain ⟨t,sv,Q,bs,htg,rfl,rfl,HT2⟩:=hrel;clear HT0;by_cases ht:t<ln
 case pos=>
  have htz:(t:Int)<(ln:Int):=by omega
  have ht4:t<4:=by omega
  obtain ⟨tb,tO,rfl,hcs⟩:=(HA.out.below HT2.out.ps.bel).at (by omega)
  have c0:=hcs t ht
  have HDg:Hid (TM.dg T t=T.getD t 0):=ξf9 (by omega)
  rw [HDg.out] at c0;obtain ⟨at_,hat⟩:∃ at_,T.getD t 0=at_:=⟨_,rfl⟩;rw [hat] at c0;have HAt:=ξ0 hat
  clear hcs hat;by_cases ha0:at_<0
  ·have e0:decide (at_<0)=true:=decide_eq_true ha0
   go_wp2_with fail
   go_ret
   exact ⟨rfl,HT2.out.ps.bel⟩
  have e0:decide (at_<0)=false:=decide_eq_false ha0
  by_cases ha1:(N:Int)<=at_
  ·have e1:decide ((N:Int)<=at_)=true:=decide_eq_true ha1
   go_wp2_with fail
   go_ret
   exact ⟨rfl,HT2.out.ps.bel⟩
  have e1:decide ((N:Int)<=at_)=false:=decide_eq_false ha1
  have CP:=HT2.out.publish h2 h10 (by omega) (by omega) (by rw [HAt.out];omega) (by rw [HAt.out];omega)
  rw [HAt.out] at CP;have CP:=ξ0 CP
  go_wp2_with fail
  refine CP.out.mono ?_
  rintro e w3 ⟨rfl,Q3,h3⟩;have HT30:=ξ0 h3
  clear h3 CP HT2 c0;go_wp2_with fail
  go_loopg [15,16] N (fun g u15 u16 wr=>∃ (i:Nat) (v:Value) (Q:Plan) (cs:List Nat),i+g=N/\v=u15/\u16=.int .i64 (i:Int)/\Hid (T3 w wr b N T m t i sv v Q bs cs))
  case atStart=>exact ⟨0,_,Q3,[],by omega,rfl,rfl,HT30⟩
  case round=>
  obtain ⟨i,v,Q4,cs,hig,rfl,rfl,HT3⟩:=hrel;clear HT30;by_cases hi:i<N
  case pos=>
   have hiz:(i:Int)<(N:Int):=by omega
   have CS:=ξ0 (HT3.out.sub h10 ht4 hi)
   go_wp2_with fail
   refine CS.out.mono ?_
   rintro e w4 ⟨rfl,Q5,h4⟩;have HT4:=ξ0 h4
   obtain ⟨B,hB,hBs,hRw⟩:=h4.rw;have HBk:=ξ0 hB
   have HRw:=ξ0 hRw
   clear h4 CS HT3 hB hRw;go_wp2_with (at_builtin;refine wpList_append_lies _ rfl _ _ 35 rfl B 3 i3 _ 1 8 Tryz.underlying35 hi3 hz0 hz1 hz2 rfl (by decide) v i (Tree.ic ((List.range i).map (nr N t))) rfl (HRw.out.1.alloc _) ⟨w4.heap.size,0,none⟩ 1 1 [.int .i64 (nr N t i)] rfl rfl (lit1 _) ?one (by decide) ?b1 ?b2 ?b3 (w4.heap.size+1) (by simp) ?next)
   case one=>simp [Value.oneCell']
   case b1=>unfold maxLen;omega
   case b2=>omega
   case b3=>simp;omega
   case next=>
   intro g5 cap5 w5 hown hgrow hlies hlt;obtain ⟨cs',h5⟩:=HT4.out.add HBk.out hBs HRw.out hown hgrow hlies hlt;have HT5:=ξ0 h5
   clear hown hgrow hlies hlt h5 HT4 HRw HBk;go_wp2_with fail
   go_roundg (N - (i+1))
   case measure=>omega
   case rel=>exact ⟨i+1,_,Q5,cs',by omega,rfl,by go_num,HT5⟩
  case neg=>
  have hiz:¬ (i:Int)<(N:Int):=by omega
  obtain rfl:N=i:=by omega
  obtain ⟨B,hB,hBs,hRw⟩:=HT3.out.rw;obtain ⟨gr,cr,hv⟩:=ξbW hRw (by omega)
  subst hv;obtain ⟨⟨L,hL,hLs⟩,hLb⟩:=HT3.out.rs;have HL:=ξ0 hL
  have HLs:=ξ0 hLs
  clear hB hBs hRw hL hLs hLb;go_wp2_with (at_builtin;refine wpList_append_lies _ rfl _ _ 22 rfl 0 35 js _ 1 24 Tryz.underlying22 hjs hy0 hy1 hy2 rfl (by decide) sv t L rfl (HL.out.alloc _) ⟨wr.heap.size,0,none⟩ 1 1 [.slice (some ⟨gr,0,none⟩) N cr] rfl rfl (lit1 _) ?one (by decide) ?b1 ?b2 (Nat.zero_le _) (wr.heap.size+1) (by simp) ?next)
  case one=>simp [Value.oneCell']
  case b1=>unfold maxLen;omega
  case b2=>omega
  case next=>
  intro g6 cap6 w6 hown hgrow hlies hlt;obtain ⟨bs',h6⟩:=HT3.out.done HL.out HLs.out hown hgrow hlies hlt;have HT6:=ξ0 h6
  clear hown hgrow hlies hlt h6 HT3 HL HLs;go_wp2_with fail
  go_roundg (ln - (t+1))
  case measure=>omega
  case rel=>exact ⟨t+1,_,Q4,bs',by omega,rfl,by go_num,HT6⟩
 case neg=>
 have htz:¬ (t:Int)<(ln:Int):=by omega
 have htl:t=T.length:=by omega
 have HS0:Hid (T5 w wr b N T m 0 0 sv Q zeroH [] bs):=by have h:=HT2.out;rw [htl] at h;exact h.all
 clear htl HT2;go_wp2_with fail
 go_loopg [19] m (fun g u19 wr=>∃ (i:Nat) (Q:Plan) (h:Nat->Nat->Nat) (X:List Fy),i+g=m/\u19=.int .i64 (i:Int)/\Hid (T5 w wr b N T m 0 i sv Q h X bs))
 case atStart=>exact ⟨0,Q,zeroH,[],by omega,rfl,HS0⟩
 case round=>
 obtain ⟨i,Qs,hs,Xs,himg,rfl,HT5⟩:=hrel;clear HS0;by_cases him:i<m
 case pos=>
  have himz:(i:Int)<(m:Int):=by omega
  go_wp2_with fail
  go_loopg [20] ln (fun g u20 wr=>∃ (t:Nat) (h:Nat->Nat->Nat) (X:List Fy),t+g=ln/\u20=.int .i64 (t:Int)/\Hid (T5 w wr b N T m t i sv Qs h X bs))
  case atStart=>exact ⟨0,hs,Xs,by omega,rfl,HT5⟩
  case round=>
  obtain ⟨t,h7,X7,htg7,rfl,HT7⟩:=hrel;clear HT5;by_cases ht7:t<ln
  case pos=>
   have htz7:(t:Int)<(ln:Int):=by omega
   have CS:=HT7.out.send (by omega) hm (by omega) him
   rw [show ((t%4:Nat):Int)=(t:Int)%4 by omega,show decide (i%3=0)=((i:Int)%3==0) by by_cases h:i%3=0<;>simp [h]<;>omega] at CS
   have CS:=ξ0 CS
   have cv1:IntKind.u8.wrap (t:Int)=(t:Int):=by rw [IntKind.wrap_u8];omega
   have cv2:IntKind.u8.wrap (i:Int)=(i:Int):=by rw [IntKind.wrap_u8];omega
   go_wp2_with fail
   refine CS.out.mono ?_
   rintro e w8 ⟨rfl,h',X',h8⟩;have HT8:=ξ0 h8
   clear h8 CS HT7 cv1 cv2;go_wp2_with fail
   go_roundg (ln - (t+1))
   case measure=>omega
   case rel=>exact ⟨t+1,h',X',by omega,by go_num,HT8⟩
  case neg=>
  have htz7:¬ (t:Int)<(ln:Int):=by omega
  have htl:t=T.length:=by omega
  have HT8:Hid (T5 w wr b N T m 0 (i+1) sv Qs h7 X7 bs):=by have h:=HT7.out;rw [htl] at h;exact h.round
  clear htl HT7;go_wp2_with fail
  go_roundg (m - (i+1))
  case measure=>omega
  case rel=>exact ⟨i+1,Qs,h7,X7,by omega,by go_num,HT8⟩
 case neg=>
 have himz:¬ (i:Int)<(m:Int):=by omega
 obtain rfl:m=i:=by omega
 have CC:=ξ0 (HT5.out.calm (by omega) hm)
 clear HT5;go_wp2_with fail
 refine CC.out.mono ?_
 rintro e w9 ⟨r,rfl,G,fl,h9⟩;have HG0:=ξ0 h9
 clear h9 CC;go_wp2_with fail
 go_loopg [21] ln (fun g u21 wr=>∃ (t:Nat) (G:Nat->List (Int×List Pk)),t+g=ln/\u21=.int .i64 (t:Int)/\Hid (T6 w wr b N T m t 0 sv G fl bs))
 case atStart=>exact ⟨0,G,by omega,rfl,HG0⟩
 case round=>
 obtain ⟨t,G1,htg1,rfl,HG1⟩:=hrel;clear HG0;by_cases ht1:t<ln
 case neg=>
  have htz1:¬ (t:Int)<(ln:Int):=by omega
  by_cases hm0:m=0
  ·have z0:((m:Int)==0)=true:=by simp;omega
   have HB9:=ξ0 HG1.out.bel
   clear hm0;go_wp2_with fail
   go_ret
   exact ⟨rfl,HB9.out⟩
  ·have z0:((m:Int)==0)=false:=by simp;omega
   have CF:=ξ0 (HG1.out.flying hm0)
   have HB9:=ξ0 HG1.out.bel
   clear hm0;go_wp2_with fail
   refine CF.out.mono ?_
   rintro e w10 ⟨rfl,rfl⟩;go_wp2_with fail
   go_ret
   exact ⟨rfl,HB9.out⟩
 case pos=>
 have htz1:(t:Int)<(ln:Int):=by omega
 go_wp2_with fail
 go_loopg [22] N (fun g u22 wr=>∃ (k:Nat) (G:Nat->List (Int×List Pk)),k+g=N/\u22=.int .i64 (k:Int)/\Hid (T6 w wr b N T m t k sv G fl bs))
 case atStart=>exact ⟨0,G1,by omega,rfl,HG1⟩
 case round=>
 obtain ⟨k,G2,hkg,rfl,HG2⟩:=hrel;clear HG1;by_cases hk:k<N
 case neg=>
  have hkz:¬ (k:Int)<(N:Int):=by omega
  have hkn:k=N:=by omega
  have HG3:Hid (T6 w wr b N T m (t+1) 0 sv G2 fl bs):=by have h:=HG2.out;rw [hkn] at h;exact h.row
  clear hkn HG2;go_wp2_with fail
  go_roundg (ln - (t+1))
  case measure=>omega
  case rel=>exact ⟨t+1,G2,by omega,by go_num,HG3⟩
 case pos=>
 have hkz:(k:Int)<(N:Int):=by omega
 obtain ⟨gs,cs9,gi,ci,hsv,q0,q1⟩:=HG2.out.rs.read (k:=t) (i:=k) (by omega) hk
 have CG:=ξ0 (HG2.out.got (by omega) h10 (by omega) hk)
 rw [hTl] at hsv;subst hsv;generalize nr N t k=nn at *
 have dmm:((m:Int) != (m:Int))=false:=by simp
 go_wp2_with fail
 refine CG.out.mono ?_
 rintro e w11 ⟨ga,gc,gl,rfl,⟨o,hgot⟩,hgood,G3,h12⟩;have HGt:=ξ0 hgot
 have HGd:=ξ0 hgood
 have HG4:=ξ0 h12
 clear hgot hgood h12 CG HG2 q0 q1;go_wp2_with fail
 go_loopg [25] m (fun g u25 wr=>∃ jj:Nat,jj+g=m/\u25=.int .i64 (jj:Int)/\w11=wr)
 case atStart=>exact ⟨0,by omega,rfl,rfl⟩
 case round=>
 obtain ⟨jj,hjg2,rfl,rfl⟩:=hrel;by_cases hjj:jj<m
 case neg=>
  have hjz2:¬ (jj:Int)<(m:Int):=by omega
  go_wp2_with fail
  go_roundg (N - (k+1))
  case measure=>omega
  case rel=>exact ⟨k+1,G3,by omega,by go_num,HG4⟩
 case pos=>
 have hjz2:(jj:Int)<(m:Int):=by omega
 obtain ⟨gb,ba,bm,bc,hga,hcl,hArg⟩:=ξaV HGt.out (j:=jj) (by rw [HGd.out.1];exact hjj)
 obtain ⟨p,hp1,hp2,hp3⟩:=HGd.out.2 jj hjj;have hpe:gl[jj]'(by rw [HGd.out.1];exact hjj)=p:=by
  rw [List.getElem?_eq_getElem (by rw [HGd.out.1];exact hjj)] at hp1
  exact Option.some.inj hp1
 rw [hpe] at hcl hArg;rw [hp2] at hcl;rw [hp3] at hArg;subst hga;have hbm:bm=2:=hArg.2.1.symm
 subst hbm;obtain ⟨bb,oo,hba,y0⟩:=hArg.1.2 0 (by simp)
 obtain ⟨bb',oo',hba',y1⟩:=hArg.1.2 1 (by simp)
 subst hba;simp only [Option.some.injEq,Addr.mk.injEq,and_true] at hba'
 obtain ⟨rfl,rfl⟩:=hba';simp only [Nat.add_zero,List.getD_cons_zero,List.getD_cons_succ] at y0 y1
 obtain ⟨c0,-,-,-,-,c5⟩:=hcl;have cv1:IntKind.u8.wrap (t:Int)=(t:Int):=by rw [IntKind.wrap_u8];omega
 have cv2:IntKind.u8.wrap (jj:Int)=(jj:Int):=by rw [IntKind.wrap_u8];omega
 have q2:((jj:Int) != (jj:Int))=false:=by simp
 have q3:((t:Int) != (t:Int))=false:=by simp
 clear hp1 hp2 hp3 hpe hArg;go_wp2_with fail
 go_roundg (m - (jj+1))
 case measure=>omega
 case rel=>exact ⟨jj+1,by omega,by go_num,rfl⟩
theorem ξ9P (n m:Int) (va:Option Addr) (ln cn:Nat) (T:List Int) (w:World) (hA:Tree.IArg w va ln T) :
 Calls Tryz.prog 4 #[.int .i64 n,.slice va ln cn,.int .i64 m] w fun e w'=>e=.returned (.bool true)/\Below w.heap.size w w':=by
 by_cases h0:n<2
 ·exact ξdw n m va ln cn w h0
 by_cases h1:10<n
 ·exact ξdv n m va ln cn w h0 h1
 by_cases h2:m<0
 ·exact ξdu n m va ln cn w h0 h1 h2
 by_cases h3:20<m
 ·exact ξdt n m va ln cn w h0 h1 h2 h3
 by_cases h4:4<(ln:Int)
 ·exact ξds n m va ln cn w h0 h1 h2 h3 h4
 obtain ⟨N,rfl⟩:∃ N:Nat,n=(N:Int):=⟨n.toNat,by omega⟩
 obtain ⟨M,rfl⟩:∃ M:Nat,m=(M:Int):=⟨m.toNat,by omega⟩
 exact ξdr N M va ln cn T w hA (by omega) (by omega) (by omega) (by omega)
end Go.Proofs.YtigibpcpnkdmcaaGreat.MS
