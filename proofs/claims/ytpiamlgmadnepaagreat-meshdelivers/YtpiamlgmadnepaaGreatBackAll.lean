/-
 What the proof needs.
-/
import Derived.Test.YtpiamlgmadnepaaGreatMathAll
import Derived.Test.YtpiamlgmadnepaaGreatShelfAll
import Derived.Test.YtpiamlgmadnepaaGreatRows
import Derived.ProofKit
import Derived.OpenShut
import Derived.ChangeOld
import Derived.BigQuiet
import Derived.Sort.OwnSortedInts
import Derived.WalkSmall
import Derived.WalkSpells
import Derived.LoopTactic
import Derived.Laws.BitsAllLaws
import Derived.Deep.LoopGhost
import Derived.Deep.CutRange
open Go.Proofs.Tryz
set_option linter.unusedVariables false
set_option maxHeartbeats 4000000
set_option maxRecDepth 100000
namespace Go.Proofs.YtpiamlgmadnepaaGreat.Back
open ChangeShapes WideShapes ChangeAt RowKit Go.Sort Go.Lib BM Mem
variable {e n base m B i:Nat}{w w' wr:World}{a:Option Addr}{L:List Int}{v v':Value}{l:List (Int×Int)}{K:List (Int×Nat)}{b k t u:Int}{O:Obj}{T:TypeId}
def A0a(e:Nat):Value:=if e=0 then .nilIface else .iface 101 (.int .i64 (e:Int))
theorem ξ4:A0a 0=.nilIface:=rfl
theorem ξb(h:e≠0):A0a e=.iface 101 (.int .i64 (e:Int)):=by simp[A0a,h]
theorem info3:(prog.info? 3).map (λi=>(i.zero,i.size,i.bytes))=some (some (.int .i64 0),1,8):=by kernel_rfl
theorem A9b:(prog.info? 297).map (λi=>(i.zero,i.size,i.bytes))=some (some (.agg #[.int .i64 0,.int .i64 0]),2,16):=by kernel_rfl
def ic(L:List Int):List Value:=L.map (Value.int .i64)
theorem ξE(L:List Int):(ic L).length=L.length:=by simp[ic]
theorem ξ22(L:List Int)(j:Nat)(h:j<L.length):(ic L)[j]?=some (.int .i64 (L.getD j 0)):=by
 simp[ic,List.getD_eq_getElem?_getD,List.getElem?_eq_getElem h]
def Ints(w:World)(a:Option Addr)(L:List Int):Prop:=∀j,j<L.length->∃b o,a=some ⟨b,o,none⟩/\w.cell? ⟨b,o+j,none⟩=some (.int .i64 (L.getD j 0))
def A0b(w:World)(a:Option Addr)(n:Nat)(L:List Int):Prop:=Ints w a L/\L.length=n/\n<=9223372036854775807
theorem A0b.below(h:A0b w a n L)(hb:Below w.heap.size w w'):A0b w' a n L:=by
 refine⟨λj hj=>?_,h.2⟩;obtain⟨b,o,e,hc⟩:=h.1 j hj;exact⟨b,o,e,(hb.cell (p:=⟨b,o+j,none⟩) (Ξq w ⟨b,o+j,none⟩ hc)).trans hc⟩
theorem A0b.nil(w:World)(a:Option Addr):A0b w a 0 []:=⟨λj h=>absurd h (by simp),rfl,by omega⟩
theorem A0b.at(h:A0b w a n L)(hn:0<n):∃b o,a=some ⟨b,o,none⟩/\∀j,j<n->w.cell? ⟨b,o+j,none⟩=some (.int .i64 (L.getD j 0)):=by
 obtain⟨b,o,e,_⟩:=h.1 0 (by have:=h.2.1;omega);refine⟨b,o,e,λj hj=>?_⟩;obtain⟨b',o',e',hc⟩:=h.1 j (by have:=h.2.1;omega);rw[e,Option.some.injEq,Addr.mk.injEq]at e';obtain⟨rfl,rfl,_⟩:=e';exact hc
theorem ξl(h:w.ownsRow base 3 1 v n (ic L))(hn:n<=9223372036854775807) :
 ∃a cap,v=.slice a n cap/\A0b w a n L/\(a=none->n=0/\cap=0)/\n<=cap/\∀ad,a=some ad->∃g,ad=⟨g,0,none⟩/\base<=g/\g<w.heap.size:=by
 have hl:L.length=n:=by have:=h.1;rw[ξE]at this;omega
 rcases h.2 with⟨rfl,rfl⟩|⟨g,cap,cur,rfl,hg,hb,hc,hm,hs,ht⟩
 ·have:L=[]:=Ξk hl;subst this;exact⟨none,0,rfl,A0b.nil _ _,λ_=>⟨rfl,rfl⟩,Ξo _,λad e=>by simp at e⟩
 ·refine⟨_,cap,rfl,⟨λj hj=>⟨g,0,rfl,?_⟩,hl,hn⟩,λe=>by simp at e,hc,λad e=>⟨g,by simpa using e.symm,hg,lt_of_block hb⟩⟩;rw[Nat.zero_add,h.cellAt j (by omega),ξ22 L j hj]
def pc(l:List (Int×Int)):List Value:=l.flatMap λp=>[.int .i64 p.1,.int .i64 p.2]
theorem ξ1e:∀l:List (Int×Int),(pc l).length=l.length*2
 | []=>rfl
 | p::l=>by have:=ξ1e l;simp[pc]at this ⊢;omega
theorem ξ3q(l k:List (Int×Int)):pc (l++k)=pc l++pc k:=by simp[pc]
theorem ξ4C(p:Int×Int):pc [p]=[.int .i64 p.1,.int .i64 p.2]:=rfl
theorem ξ6U:∀(l:List (Int×Int)) (j:Nat),j<l.length->(pc l)[j*2]?=some (.int .i64 (l.getD j (0,0)).1)/\(pc l)[j*2+1]?=some (.int .i64 (l.getD j (0,0)).2)
 | [],j,h=>absurd h (by simp)
 | p::l,0,_=>⟨rfl,rfl⟩
 | p::l,j+1,h=>by
   have:=ξ6U l j (by simpa using h);have e:pc (p::l)=.int .i64 p.1::.int .i64 p.2::pc l:=rfl;rw[e,show(j+1)*2=j*2+1+1 by omega];simpa using this
def Prs(w:World)(a:Option Addr)(l:List (Int×Int)):Prop:=∀j,j<l.length->∃b o,a=some ⟨b,o,none⟩/\w.cell? ⟨b,o+j*2,none⟩=some (.int .i64 (l.getD j (0,0)).1)/\w.cell? ⟨b,o+j*2+1,none⟩=some (.int .i64 (l.getD j (0,0)).2)
def A04(w:World)(a:Option Addr)(n:Nat)(l:List (Int×Int)):Prop:=Prs w a l/\l.length=n/\n<=9223372036854775807
theorem A04.below(h:A04 w a n l)(hb:Below w.heap.size w w'):A04 w' a n l:=by
 refine⟨λj hj=>?_,h.2⟩;obtain⟨b,o,e,hc,hd⟩:=h.1 j hj;exact⟨b,o,e,(hb.cell (p:=⟨b,o+j*2,none⟩) (Ξq w _ hc)).trans hc,(hb.cell (p:=⟨b,o+j*2+1,none⟩) (Ξq w _ hd)).trans hd⟩
theorem A04.nil(w:World)(a:Option Addr):A04 w a 0 []:=⟨λj h=>absurd h (by simp),rfl,by omega⟩
theorem A04.at(h:A04 w a n l)(hn:0<n):∃b o,a=some ⟨b,o,none⟩/\b<w.heap.size/\∀j,j<n->w.cell? ⟨b,o+j*2,none⟩=some (.int .i64 (l.getD j (0,0)).1)/\w.cell? ⟨b,o+j*2+1,none⟩=some (.int .i64 (l.getD j (0,0)).2):=by
 obtain⟨b,o,e,h0,_⟩:=h.1 0 (by have:=h.2.1;omega);refine⟨b,o,e,Ξq w _ h0,λj hj=>?_⟩;obtain⟨b',o',e',hc⟩:=h.1 j (by have:=h.2.1;omega);rw[e,Option.some.injEq,Addr.mk.injEq]at e';obtain⟨rfl,rfl,_⟩:=e';exact hc
theorem ξ5d(h:w.ownsRow base 297 2 v n (pc l))(hn:n<=9223372036854775807) :
 ∃a cap,v=.slice a n cap/\A04 w a n l/\(a=none->n=0/\cap=0)/\n<=cap/\∀ad,a=some ad->∃g,ad=⟨g,0,none⟩/\base<=g/\g<w.heap.size:=by
 have hl:l.length=n:=by have:=h.1;rw[ξ1e]at this;omega
 rcases h.2 with⟨rfl,rfl⟩|⟨g,cap,cur,rfl,hg,hb,hc,hm,hs,ht⟩
 ·have:l=[]:=Ξk hl;subst this;exact⟨none,0,rfl,A04.nil _ _,λ_=>⟨rfl,rfl⟩,Ξo _,λad e=>by simp at e⟩
 ·refine⟨_,cap,rfl,⟨λj hj=>⟨g,0,rfl,?_,?_⟩,hl,hn⟩,λe=>by simp at e,hc,λad e=>⟨g,by simpa using e.symm,hg,lt_of_block hb⟩⟩
  ·rw[Nat.zero_add,h.cellAt (j*2) (by omega),(ξ6U l j hj).1]
  ·rw[Nat.zero_add,h.cellAt (j*2+1) (by omega),(ξ6U l j hj).2]
def inR(x:Int):Bool:=decide (0<=x/\x<=65535)
theorem ξA(x m:Int)(w:World):Calls prog 212 #[.int .i64 x,.int .i64 m] w λe w'=>e=.returned (.bool (decide (0<=x/\x<=m)))/\w'=w:=by
 by_cases h:0<=x
 ·have d:decide (0<=x)=true:=by simpa using h
  go_enter func212,ntmps212;go_wp2_with fail
  go_ret;exact⟨by simp[h],rfl⟩
 ·have d:decide (0<=x)=false:=by simpa using h
  go_enter func212,ntmps212;go_wp2_with fail
  go_ret;exact⟨by simp,rfl⟩
theorem ξ6a(x:Int)(w:World):Calls prog 215 #[.int .i64 x] w λe w'=>e=.returned (.bool (!inR x))/\w'=w:=by
 have C:=ξ0 (λw=>ξA x 65535 w);have hb:decide (0<=x/\x<=65535)=inR x:=rfl;rw[hb]at C;clear hb;generalize inR x=b at *;go_enter func215,ntmps215;go_wp2_with fail
 refine(C.out _).mono ?_;rintro e w' ⟨rfl,rfl⟩;go_wp2_with fail;go_ret;exact⟨rfl,rfl⟩
theorem ξ6N(w:World):PredAt prog 215 #[] (Value.int .i64) (λx=>!inR x) w:=λW x _=>by
 unfold FnGives;refine(ξ6a x W).mono ?_;rintro e w' ⟨rfl,rfl⟩;exact⟨rfl,0,rfl⟩
theorem ξ4U(a:Option Addr)(n cap:Nat)(L:List Int)(w:World)(h:A0b w a n L) :
 Calls prog 144 #[.slice a n cap,.func (.func 215) #[] #[]] w λe w'=>e=.returned (.bool (L.any λx=>!inR x))/\∃q,w'=w.drewN q:=by
 rcases Nat.eq_zero_or_pos n with rfl|hn
 ·have:L=[]:=Ξk h.2.1;subst this;refine(Tryz.slices_ContainsFunc_empty (α:=Int) a cap _ w).mono ?_;rintro e w' ⟨rfl,rfl⟩;exact⟨rfl,0,rfl⟩
 ·obtain⟨b,o,rfl,hc⟩:=h.at hn;have hl:=h.2.1;have:=Tryz.slices_ContainsFunc (Value.int .i64) (λx=>!inR x) 215 #[] (enters_of func215 (by kernel_rfl) rfl) b o n cap L w (ξ6N w) (by omega) h.2.2 (λj hj=>by
   rw[hc j (by omega)]
   congr 2
   rw[Ξa,getElem!_pos L j hj,Ξd hj];rfl)
  rw[Ξl (by omega)]at this;exact this
theorem ξ1u(a:Option Addr)(n cap:Nat)(L:List Int)(w:World)(h:A0b w a n L)(hn:a=none->n=0/\cap=0)(hb:n<=1000000) :
 Calls prog 113 #[.slice a n cap] w λe w'=>∃v',e=.returned v'/\w'.ownsRow w.heap.size 3 1 v' n (ic L)/\Below w.heap.size w w':=by
 cases a with
 | none=>
   obtain⟨rfl,rfl⟩:=hn rfl;have:L=[]:=Ξk h.2.1;subst this;refine(Tryz.slices_Clone_int_nil 0 0 w).mono ?_;rintro e w' ⟨rfl,rfl⟩;exact⟨_,rfl,Ξr _ _ _ _,Ξp _ _⟩
 | some ad=>
   rcases Nat.eq_zero_or_pos n with rfl|h0
   ·have:L=[]:=Ξk h.2.1;subst this;refine(Tryz.slices_Clone_int_zero ad cap w).mono ?_;rintro e w' ⟨v',rfl,ho,_,hb⟩;exact⟨v',rfl,ho,hb⟩
   ·obtain⟨b,o,e,hc⟩:=h.at h0;rw[Option.some.injEq]at e;subst e;have hl:=h.2.1;refine(Tryz.slices_Clone_int b o n cap L w (by omega) (by omega) (λj hj=>hc j (by omega))).mono ?_;rintro e w' ⟨v',rfl,ho,_,hb⟩;rw[Ξl (by omega)]at ho;exact⟨v',rfl,ho,hb⟩
theorem ξ1J(v:Value)(base n:Nat)(L:List Int)(w:World)(h:w.ownsRow base 3 1 v n (ic L))(hb:n<=1000000) :
 Calls prog 74 #[v] w λe w'=>e=.returned (.tuple #[])/\w'.ownsRow base 3 1 v n (ic (L.mergeSort λx y=>decide (x<=y)))/\w.grownBy w' v.ownBlock:=by
 have hl:L.length=n:=by have:=h.1;rw[ξE]at this;omega
 rcases h.2 with⟨rfl,rfl⟩|⟨g,cap,cur,rfl,hg,hbl,hc,hm,hs,ht⟩
 ·have:L=[]:=Ξk hl;subst this;refine(Tryz.slices_Sort_int_none none 0 w).mono ?_;rintro e w' ⟨rfl,rfl⟩;exact⟨rfl,by simpa[ic]using Ξr _ _ _ _,World.grownBy.refl _ _⟩
 ·subst hl;refine(Tryz.slices_Sort_int g 0 cap L w (holds_of_blockI hbl (by simpa[ic]using ht)) (lt_of_block hbl) (by omega)).mono ?_;rintro e w' ⟨rfl,n,os,rfl⟩;exact⟨rfl,ownsRow_sortedI (by simp) hg hbl hc hm hs,grownBy_sortedI _⟩
theorem ξfb{cur:Array Value}{K:List Int}(h:L.length<=cur.size)(hk:K.length<=L.length)(x:List Int)(hx:L=K++x):((putCells (Value.int .i64) 0 L.toArray cur).toList.take K.length)=ic K:=by
 have:=take_putCellsI cur L h;have e:(putCells (Value.int .i64) 0 L.toArray cur).toList.take K.length=((putCells (Value.int .i64) 0 L.toArray cur).toList.take L.length).take K.length:=by rw[List.take_take,Nat.min_eq_left hk]
 rw[e,this,hx,ic,List.map_append,List.take_left' (by simp)]
theorem ξ25(v:Value)(base n:Nat)(L:List Int)(w:World)(h:w.ownsRow base 3 1 v n (ic L))(hb:n<=1000000) :
 Calls prog 187 #[v] w λe w'=>∃v',e=.returned v'/\v'.ownBlock=v.ownBlock/\w'.ownsRow base 3 1 v' (compact L).length (ic (compact L))/\w.grownBy w' v.ownBlock:=by
 have hl:L.length=n:=by have:=h.1;rw[ξE]at this;omega
 rcases h.2 with⟨rfl,rfl⟩|⟨g,cap,cur,rfl,hg,hbl,hc,hm,hs,ht⟩
 ·have:L=[]:=Ξk hl;subst this;refine(Tryz.slices_Compact_int_empty none 0 w).mono ?_;rintro e w' ⟨rfl,rfl⟩;exact⟨_,rfl,rfl,Ξr _ _ _ _,World.grownBy.refl _ _⟩
 ·subst hl;refine(Tryz.slices_Compact_int g 0 cap L w (holds_of_blockI hbl (by simpa[ic]using ht)) (by omega) (by omega)).mono ?_;rintro e w' ⟨rfl,n,rfl⟩;have ae:=ξ43 L;generalize compact L=K at *;have hp:putRow (Value.int .i64) (Sort.ahead w n) g 0 (K++List.replicate (L.length-K.length) 0).toArray=grow (putRow (Value.int .i64) (Sort.ahead w n) g 0 (K++List.replicate (L.length-K.length) 0).toArray) #[]:=by simp
  rw[hp];refine⟨_,rfl,rfl,⟨by rw[ξE];omega,.inr ⟨g,cap,_,rfl,hg,heap_sortedI _ hbl,by omega,hm,by simp[putCells,hs],?_⟩⟩,grownBy_sortedI _⟩;rw[Nat.mul_one];exact ξfb (by simp;omega) (by simp) _ rfl
theorem ξ2q(a:Nat)(ha:a<9223372036854775808):(BitVec.ofInt 64 (a:Int)).toNat=a:=by
 rw[BitVec.ofInt_natCast,BitVec.toNat_ofNat];exact Nat.mod_eq_of_lt (by omega)
theorem ξ1s(a b:Nat)(ha:a<9223372036854775808)(hb:b<9223372036854775808):bits .or .i64 (a:Int) (b:Int)=((a|||b:Nat):Int):=by
 have hx:a|||b<2^63:=Nat.or_lt_two_pow (by omega) (by omega);show IntKind.i64.wrap ((BitVec.ofInt 64 (a:Int)|||BitVec.ofInt 64 (b:Int)).toNat:Int)=_;rw[BitVec.toNat_or,ξ2q a ha,ξ2q b hb,IntKind.wrap_i64];omega
theorem ξbq(m d:Nat)(hm:m<65536)(hd:d<16):bits .or .i64 (m:Int) (2^d)=((m|||2^d:Nat):Int):=by
 have ae:(2:Nat)^d<65536:=show(2:Nat)^d<2^16 from Nat.pow_lt_pow_right (by decide) hd;have e2:(2:Int)^d=((2^d:Nat):Int):=by rw[Int.natCast_pow];rfl
 rw[e2,ξ1s _ _ (by omega) (by omega)]
def A1n(L:List Int):Nat:=if 200<L.length then 4 else if L.any (λx=>!inR x)then 1 else 0
def A1p(L:List Int):List (Int×Nat):=if A1n L=0 then pairs (norm L)else[]
def pr(l:List (Int×Nat)):List (Int×Int):=l.map λp=>(p.1,(p.2:Int))
theorem ξ2g(l:List (Int×Nat)):(pr l).length=l.length:=by simp[pr]
theorem ξ4z(l k:List (Int×Nat)):pr (l++k)=pr l++pr k:=by simp[pr]
theorem ξg0(K:List (Int×Int))(b m m':Int):(pc (K++[(b,m)])).set (K.length*2+1) (.int .i64 m')=pc (K++[(b,m')]):=by
 rw[ξ3q,ξ3q,ξ4C,ξ4C,List.set_append_right _ _ (by rw[ξ1e];omega),ξ1e,show K.length*2+1-K.length*2=1 by omega];rfl
theorem ξ7d(h:L.any (λx=>!inR x)=false):∀x∈L,0<=x/\x<=65535:=by
 intro x hx;have:=List.any_eq_false.1 h x hx;simpa[inR]using this
structure PSt(w wr:World)(l:List (Int×Nat))(v:Value):Prop where
 below:Below w.heap.size w wr
 own:wr.ownsRow w.heap.size 297 2 v l.length (pc (pr l))
theorem PSt.shape(h:PSt w wr (K++[(b,m)]) v) :
 ∃g cap,v=.slice (some ⟨g,0,none⟩) (K.length+1) cap/\wr.cell? ⟨g,K.length*2,none⟩=some (.int .i64 b)/\wr.cell? ⟨g,K.length*2+1,none⟩=some (.int .i64 (m:Int))/\wr.frozen? ⟨g,K.length*2+1,none⟩=false /\
  PSt w wr (K++[(b,m)]) (.slice (some ⟨g,0,none⟩) (K.length+1) cap):=by
 have ho:=h.own;rw[Ξh,List.length_singleton]at ho;rcases ho.2 with⟨_,h0⟩|⟨g,cap,cur,rfl,rest⟩
 ·omega
 ·have e:pc (pr (K++[(b,m)]))=pc (pr K)++[.int .i64 b,.int .i64 (m:Int)]:=by rw[ξ4z,ξ3q];rfl
  refine⟨g,cap,rfl,?_,?_,ho.frozenAt _,h⟩
  ·rw[ho.cellAt _ (by omega),e,List.getElem?_append_right (by rw[ξ1e,ξ2g];omega),ξ1e,ξ2g,Nat.sub_self];rfl
  ·rw[ho.cellAt _ (by omega),e,List.getElem?_append_right (by rw[ξ1e,ξ2g];omega),ξ1e,ξ2g,show K.length*2+1-K.length*2=1 by omega];rfl
theorem PSt.near{m':Nat}{g cap:Nat}(h:PSt w wr (K++[(b,m)]) (.slice (some ⟨g,0,none⟩) (K.length+1) cap)) :
 PSt w (wr.setCell ⟨g,K.length*2+1,none⟩ (.int .i64 (m':Int))) (K++[(b,m')]) (.slice (some ⟨g,0,none⟩) (K.length+1) cap):=by
 have ho:=h.own;rw[Ξh,List.length_singleton]at ho;have hg:=(ho.lt g rfl).1;obtain⟨h1,h2⟩:=ho.stored (K.length*2+1) (.int .i64 (m':Int));refine⟨h.below.setCell hg _,?_⟩;rw[Ξh,List.length_singleton];have e:(pc (pr (K++[(b,m)]))).set (K.length*2+1) (.int .i64 (m':Int))=pc (pr (K++[(b,m')])):=by
  have:=ξg0 (pr K) b (m:Int) (m':Int);rw[ξ2g]at this;rw[ξ4z,ξ4z];exact this
 rw[<-e];exact h1
theorem PSt.far{l:List (Int×Nat)}(h:PSt w wr l v){n:Int}(ho:w'.ownsRow w.heap.size 297 2 v' (l.length+1) (pc (pr l)++[.int .i64 n,.int .i64 0]))(hg:(wr.alloc O).grownBy w' v.ownBlock):PSt w w' (l++[(n,0)]) v':=by
 refine⟨(h.below.alloc h.below.size _).grown hg (by have:=h.below.size;simp;omega) (λj hj=>(h.own.lt j hj).1),?_⟩;rw[Ξh,List.length_singleton,ξ4z,ξ3q];exact ho
theorem lit2(c0 c1:Value):∀j u,[c0,c1][j]?=some u->(w.alloc (.cells #[c0,c1] T)).cell? ((⟨w.heap.size,0,none⟩:Addr).add j)=some u:=by
 intro j u hu;rw[Addr.add_lit,World.cell?_alloc_mark,Nat.zero_add,<-hu];exact List.getElem?_toArray
theorem ξbc(a:Option Addr)(n cap:Nat)(L:List Int)(w:World)(h:A0b w a n L)(hf:A1n L≠0) :
 Calls prog 204 #[.slice a n cap] w λe w'=>e=.returned (.tuple #[.slice none 0 0,A0a (A1n L)])/\Below w.heap.size w w':=by
 have hl:=h.2.1;have hb:=h.2.2;by_cases p:200<n
 ·have e:A1n L=4:=by unfold A1n;rw[if_pos (by omega)]
  rw[e];clear h hf e;have d:decide (200<(n:Int))=true:=by simp;omega
  go_enter func204,ntmps204;go_wp2_with fail
  go_ret2;exact⟨rfl,Ξp _ _⟩
 ·have C:=ξ4U a n cap L w h;have d:decide (200<(n:Int))=false:=by simp;omega
  have e:L.any (λx=>!inR x)=true/\A1n L=1:=by
   unfold A1n at hf ⊢;rw[if_neg (by omega)]at hf ⊢;by_cases q:L.any (λx=>!inR x)=true
   ·exact⟨q,if_pos q⟩
   ·rw[if_neg q]at hf;exact absurd rfl hf
  rw[e.1]at C;rw[e.2];have HC:=ξ0 C;clear C h hf e;go_enter func204,ntmps204;go_wp2_with fail
  refine HC.out.mono ?_;rintro e w' ⟨rfl,q,rfl⟩;go_wp2_with fail;go_ret2;exact⟨rfl,below_drewN' (Ξp _ _) q⟩
theorem ξcm(d:Nat)(h:d<16):wrap64 (2^d)=2^d:=by
 have ae:(2:Nat)^d<65536:=show(2:Nat)^d<2^16 from Nat.pow_lt_pow_right (by decide) h;have e2:(2:Int)^d=((2^d:Nat):Int):=by rw[Int.natCast_pow];rfl
 rw[e2];generalize (2:Nat)^d=x at *;unfold wrap64;omega
theorem PSt.drew{l:List (Int×Nat)}(h:PSt w wr l v):PSt w wr.drew l v:=⟨h.below.drew,h.own.drew⟩
theorem ξ9y(a:Option Addr)(n cap:Nat)(L:List Int)(w:World)(h:A0b w a n L)(hn:a=none->n=0/\cap=0)(hf:A1n L=0) :
 Calls prog 204 #[.slice a n cap] w λe w'=>∃v',e=.returned (.tuple #[v',.nilIface])/\w'.ownsRow w.heap.size 297 2 v' (pairs (norm L)).length (pc (pr (pairs (norm L))))/\Below w.heap.size w w':=by
 have hl:=h.2.1;have hb:=h.2.2;obtain⟨p,au⟩:n<=200/\L.any (λx=>!inR x)=false:=by
  unfold A1n at hf;by_cases q:200<L.length
  ·rw[if_pos q]at hf;omega
  ·rw[if_neg q]at hf;by_cases q2:L.any (λx=>!inR x)=true
   ·rw[if_pos q2]at hf;omega
   ·exact⟨by omega,by simpa using q2⟩
 have d:decide (200<(n:Int))=false:=by simp;omega
 have C:=ξ4U a n cap L w h;rw[au]at C;have HC:=ξ0 C;have aP:Hid (∀W,Below w.heap.size w W->Calls prog _ #[.slice a n cap] W _):=λW hW=>ξ1u a n cap L W (h.below hW) hn (by omega);have aw:=ξ7d au;have aQ:∀x∈norm L,0<=x/\x<=65535:=λx hx=>aw x (((ξ1h L).2 x).1 hx);have ax:=(ξ1h L).1;have bF:(norm L).length<=200:=by have:=ξ1y L;omega
 have aq:compact (L.mergeSort λx y=>decide (x<=y))=norm L:=rfl;obtain⟨i0,aS,aT,aU,aV⟩:=info_parts A9b;clear C h hn hf au aw;generalize norm L=S at *;go_enter func204,ntmps204;go_wp2_with fail
 refine HC.out.mono ?_;rintro e w1 ⟨rfl,q,rfl⟩;go_wp2_with fail;refine(aP.out _ (below_drewN' (Ξp _ _) q)).mono ?_;rintro e w2 ⟨v2,rfl,aW,aX⟩;have aF:=ξ0 aW;have aG:=ξ0 ((below_drewN' (Ξp w.heap.size w) q).trans aX);clear aW aX;go_wp2_with fail;refine(ξ1J v2 _ n L w2 aF.out (by omega)).mono ?_;rintro e w3 ⟨rfl,aY,aZ⟩;have aH:=ξ0 aY;have aI:=ξ0 (aG.out.grown aZ aG.out.size (λj hj=>(aF.out.lt j hj).1));clear aY aZ;go_wp2_with fail;refine(ξ25 v2 _ n _ w3 aH.out (by omega)).mono ?_;rintro e w4 ⟨v4,rfl,bz,aJ,bh⟩;rw[aq]at aJ;have aL:=ξ0 (aI.out.grown bh aI.out.size (λj hj=>(aH.out.lt j hj).1));clear bh bz aq aF aH aG aI HC aP;obtain⟨aR,cR,rfl,hR,_,_,b9⟩:=ξl aJ (by omega);have HR:=ξ0 hR;clear aJ hR hl hb p d b9;have ay:=ξ0 ax;have bi:=ξ0 aQ;clear ax aQ;have bA:Hid (PSt w4 w4 (pairs (S.take 0)) (.slice none 0 0)):=⟨Ξp _ _,Ξr _ _ _ _⟩;go_wp2_with fail
 go_loopg [5,23] S.length (λg x y wr=>∃(j:Nat) (v:Value),j+g=S.length/\x=v/\y=.int .i64 (j:Int)/\Hid (PSt w4 wr (pairs (S.take j)) v))
 case atStart=>exact⟨0,_,by omega,rfl,rfl,bA⟩
 case round=>
  obtain⟨j,v,bG,rfl,rfl,HP⟩:=hrel;by_cases hj:j<S.length
  ·have bB:(j:Int)<(S.length:Int):=by omega
   obtain⟨b,o,rfl,aM⟩:=HR.out.at (by omega);have az:=(HP.out.below.cell (p:=⟨b,o+j,none⟩) (Ξq _ _ (aM j hj))).trans (aM j hj);obtain⟨y,hy⟩:=nm (S.getD j 0);rw[hy]at az;have bj:S.take (j+1)=S.take j++[y]:=by
    rw[<-hy,Ξa,Ξd hj,Option.getD_some,List.take_append_getElem hj]
   have aA:y∈S:=by rw[<-hy,Ξa,Ξd hj];exact List.getElem_mem _
   have bH:=bi.out y aA;have ah:=ξ3D (S.take j) (List.Pairwise.sublist (List.take_sublist _ _) ay.out);have bq:∀x∈S.take j,x<y:=by
    have h1:=ay.out;have h2:S=S.take j++S.drop j:=(List.take_append_drop j S).symm;unfold A1w at h1;rw[h2]at h1;intro x hx;refine(List.pairwise_append.1 h1).2.2 x hx y ?_;rw[List.drop_eq_getElem_cons hj,<-hy,Ξa,Ξd hj];exact List.mem_cons_self ..
   have aj:=ξ4D (S.take j) y;rw[<-bj]at aj;have aC:(pairs (S.take j)).length<=200:=by
    have h1:=(ξ1P (pairs (S.take j))).1;rw[ah.told,List.length_take]at h1;omega
   have aD:∀x∈S.take j,x∈S:=λx hx=>List.mem_of_mem_take hx;clear aM hy bj aA;generalize pairs (S.take j)=l at *;rcases List.eq_nil_or_concat l with rfl|⟨K,pp,rfl⟩
   ·rw[step_nil]at aj;have aE:=ξ0 aj;clear aj;obtain⟨a1,c1,rfl,_⟩:=ξ5d HP.out.own (by simp);go_wp2_with (at_builtin;refine wpList_append_own _ rfl _ _ 290 rfl w4.heap.size 297 i0 _ 2 16 underlying290 aS aT aU aV rfl (by decide) _ 0 [] rfl (HP.out.own.alloc _) ⟨wr.heap.size,0,none⟩ 1 1 [.int .i64 y,.int .i64 0] rfl rfl ?cc ?one ?b1 ?b2 ?b3 ?next)
    case cc=>exact lit2 _ _
    case one=>simp[Value.oneCell']
    case b1=>unfold maxLen;omega
    case b2=>omega
    case b3=>have:=HP.out.below.size;simp;omega
    case next=>
    intro v1 w' ai ae _;have aO:=ξ0 (HP.out.far ai ae);clear ai ae;go_wp2_with fail;go_roundg (S.length-(j+1))
    case measure=>omega
    case rel=>exact⟨j+1,v1,by omega,rfl,by go_num,by rw[aE.out];exact aO⟩
   ·rw[List.concat_eq_append]at *;obtain⟨bs,mk⟩:=pp;obtain⟨g,c1,rfl,bI,bJ,bK,bu⟩:=HP.out.shape;have HP:=ξ0 bu;clear bu;have bM:=bi.out bs (aD bs (ah.base (bs,mk) (by simp)));have bC:=ah.mask (bs,mk) (by simp);have bN:=bq bs (ah.base (bs,mk) (by simp));have bO:K.length<=200:=by simp at aC;omega
    clear ah bq aD aC;by_cases hfar:16<y-bs
    ·rw[ξ6v (p:=(bs,mk)) hfar]at aj;have aE:=ξ0 aj;clear aj;have bD:decide (16<y-bs)=true:=by simpa using hfar
     have am:=HP.out.own;rw[Ξh,List.length_singleton]at am
     replace am:=ξ0 am
     go_wp2_with (at_builtin;refine wpList_append_own _ rfl _ _ 290 rfl w4.heap.size 297 i0 _ 2 16 underlying290 aS aT aU aV rfl (by decide) _ (K.length+1) (pc (pr (K++[(bs,mk)]))) rfl (am.out.alloc _) ⟨wr.heap.size,0,none⟩ 1 1 [.int .i64 y,.int .i64 0] rfl rfl ?cc ?one ?b1 ?b2 ?b3 ?next)
     case one=>simp[Value.oneCell']
     case b1=>unfold maxLen;omega
     case b2=>omega
     case b3=>have:=HP.out.below.size;simp;omega
     case next=>
     intro v1 w' ai ae _;have aO:=ξ0 (HP.out.far (by rw[Ξh];exact ai) ae);clear ai ae;go_wp2_with fail;go_roundg (S.length-(j+1))
     case measure=>omega
     case rel=>exact⟨j+1,v1,by omega,rfl,by go_num,by rw[aE.out];exact aO⟩
    ·rw[ξ5s (p:=(bs,mk)) (by show y-bs<=16;omega)]at aj;have aE:=ξ0 aj;clear aj;have bD:decide (16<y-bs)=false:=by simpa using hfar
     have bE:Hid (bits .or .i64 (mk:Int) (wrap64 (2^((y-bs).toNat-1)))=((mk|||2^(y-bs-1).toNat:Nat):Int)):=ξ0 (by
      rw[<-ξbq mk (y-bs-1).toNat bC (by omega),show(y-bs).toNat-1=(y-bs-1).toNat by omega,ξcm _ (by omega)])
     go_wp2_with fail
     go_region
     go_wp2_with fail
     go_roundg (S.length-(j+1))
     case measure=>omega
     case rel=>exact⟨j+1,_,by omega,rfl,by go_num,by
      rw[aE.out];have:=(HP.out.near (m':=mk|||2^(y-bs-1).toNat)).drew;rw[<-bE.out]at this;exact this⟩
  ·have bB:¬(j:Int)<(S.length:Int):=by omega
   have ej:j=S.length:=by omega
   subst ej;go_wp2_with fail;go_ret2;have hh:=HP.out;rw[List.take_length]at hh;refine⟨_,rfl,?_,aL.out.trans (hh.below.mono aL.out.size)⟩;have ho:=hh.own;refine⟨ho.1,?_⟩;rcases ho.2 with h0|⟨g,cap,cur,e,hg,rest⟩
   ·exact .inl h0
   ·exact .inr ⟨g,cap,cur,e,by have:=aL.out.size;omega,rest⟩
theorem ξ5D(a:Option Addr)(n cap:Nat)(L:List Int)(w:World)(h:A0b w a n L)(hn:a=none->n=0/\cap=0) :
 Calls prog 204 #[.slice a n cap] w λe w'=>∃a' m c',e=.returned (.tuple #[.slice a' m c',A0a (A1n L)])/\A04 w' a' m (pr (A1p L))/\(a'=none->m=0/\c'=0)/\m<=c'/\Below w.heap.size w w':=by
 by_cases hf:A1n L=0
 ·refine(ξ9y a n cap L w h hn hf).mono ?_;rintro e w' ⟨v',rfl,ho,hb⟩;have ae:(pairs (norm L)).length<=9223372036854775807:=by
   have h1:=(ξ1P (pairs (norm L))).1;rw[(ξ3D _ (ξ1h L).1).told]at h1;have h2:=ξ1y L;have h3:=h.2.1;have h4:=h.2.2;omega
  obtain⟨a',c',rfl,hP,h0,h1,_⟩:=ξ5d ho ae;refine⟨a',_,c',by rw[hf];rfl,?_,h0,h1,hb⟩;rw[A1p,if_pos hf];exact hP
 ·refine(ξbc a n cap L w h hf).mono ?_;rintro e w' ⟨rfl,hb⟩;refine⟨none,0,0,rfl,?_,λ_=>⟨rfl,rfl⟩,Ξo _,hb⟩;rw[A1p,if_neg hf];exact A04.nil _ _
theorem bitLen_le:∀(k x:Nat),x<2^64->(Lib.bitLen x<=k↔x<2^k)
 | 0,x,hx=>by
   by_cases h0:x=0
   ·subst h0;simp[Lib.bitLen,Lib.bitLenAux]
   ·rw[Lib.bitLen_half x h0 hx];simp;omega
 | k+1,x,hx=>by
   by_cases h0:x=0
   ·subst h0;have:Lib.bitLen 0=0:=by decide
    rw[this];simp[Nat.pow_pos]
   ·have:=bitLen_le k (x/2) (by omega);rw[Lib.bitLen_half x h0 hx,Nat.pow_succ];omega
theorem ξ86(hm:m<65536)(c:Int)(hc:c<=65535):c+(Lib.bitLen m:Int)<=65535↔∀i:Nat,m.testBit i=true->c+(i:Int)+1<=65535:=by
 have hx:m<2^64:=by omega
 constructor
 ·intro h i hi;have h1:=Nat.ge_two_pow_of_testBit hi;have h2:=bitLen_le i m hx;omega
 ·intro h;rcases Nat.eq_zero_or_pos (Lib.bitLen m)with h0|h0
  ·rw[h0];simpa using hc
  ·have h1:=(bitLen_le (Lib.bitLen m) m hx).1 (Ξo _);have h2:=bitLen_le (Lib.bitLen m-1) m hx;have hb:m.testBit (Lib.bitLen m-1)=true:=by
    by_cases hb:m.testBit (Lib.bitLen m-1)=true
    ·exact hb
    ·have:m<2^(Lib.bitLen m-1):=by
      apply Nat.lt_pow_two_of_testBit;intro i hi;by_cases e:i=Lib.bitLen m-1
      ·subst e;simpa using hb
      ·exact Nat.testBit_lt_two_pow (Ξn h1 (Nat.pow_le_pow_right (by decide) (by omega)))
     have:=h2.2 this;omega
   have:=h _ hb;omega
def isP(p:Int×Int):Bool:=inR p.1&&inR p.2&&decide (p.1+(Lib.bitLen p.2.toNat:Int)<=65535)
theorem ξ78(b m:Int)(w:World):Calls prog 210 #[.agg #[.int .i64 b,.int .i64 m]] w λe w'=>e=.returned (.bool (isP (b,m)))/\Below w.heap.size w w':=by
 have C1:=λw=>ξA b 65535 w;have C2:=λw=>ξA m 65535 w;have e1:decide (0<=b/\b<=65535)=inR b:=rfl;have e2:decide (0<=m/\m<=65535)=inR m:=rfl;rw[e1]at C1;rw[e2]at C2;have H1:=ξ0 C1;have H2:=ξ0 C2;have HE:Hid (isP (b,m)=(inR b&&inR m&&decide (b+(Lib.bitLen m.toNat:Int)<=65535))):=rfl;have ae:Hid (inR b=true->0<=b/\b<=65535):=λh=>by simpa[inR]using h
 have ah:Hid (inR m=true->0<=m/\m<=65535):=λh=>by simpa[inR]using h
 have hB:Below w.heap.size w (w.alloc (.cells #[.int .i64 b,.int .i64 m] 297)):=(Ξp _ _).alloc (Ξo _) _;have HB:=ξ0 hB;clear C1 C2 e1 e2 hB;generalize isP (b,m)=r at *;generalize inR b=b1 at *;generalize inR m=b2 at *;cases b1 with
 | false=>
   have hr:r=false:=by simpa using HE.out
   subst hr;go_enter func210,ntmps210;go_wp2_with fail
   refine(H1.out _).mono ?_;rintro e w ⟨rfl,rfl⟩;go_wp2_with fail;go_ret;exact⟨rfl,HB.out⟩
 | true=>
 cases b2 with
 | false=>
   have hr:r=false:=by simpa using HE.out
   subst hr;go_enter func210,ntmps210;go_wp2_with fail
   refine(H1.out _).mono ?_;rintro e w ⟨rfl,rfl⟩;go_wp2_with fail;refine(H2.out _).mono ?_;rintro e w ⟨rfl,rfl⟩;go_wp2_with fail;go_ret;exact⟨rfl,HB.out⟩
 | true=>
   obtain⟨b0,b1⟩:=ae.out rfl;obtain⟨m0,m1⟩:=ah.out rfl;have hr:r=decide (b+(Lib.bitLen m.toNat:Int)<=65535):=by simpa using HE.out
   have HL:Hid (∀w,Calls prog 107 #[.int .u64 m] w λe w'=>e=.returned (.int .i64 (Lib.bitLen m.toNat))/\w'=w):=λw=>Tryz.bits_Len m w m0 (by omega);have ai:Lib.bitLen m.toNat<=16:=(bitLen_le 16 m.toNat (by omega)).2 (by omega);clear HE;generalize Lib.bitLen m.toNat=bl at *;subst hr;go_enter func210,ntmps210;go_wp2_with fail
   refine(H1.out _).mono ?_;rintro e w ⟨rfl,rfl⟩;go_wp2_with fail;refine(H2.out _).mono ?_;rintro e w ⟨rfl,rfl⟩;go_wp2_with fail;go_quiet ((go_at_call 107;exact Calls.quiet_of_same (HL.out _)))
   go_wp2_with fail
   go_ret;exact⟨rfl,below_drewN' HB.out _⟩
theorem ξ7A(b m:Int)(w:World):Calls prog 209 #[.agg #[.int .i64 b,.int .i64 m]] w λe w'=>e=.returned (.bool (!isP (b,m)))/\Below w.heap.size w w':=by
 have C:=ξ0 (λw=>ξ78 b m w);have hb:Below w.heap.size w (w.alloc (.cells #[.int .i64 b,.int .i64 m] 297)):=(Ξp _ _).alloc (Ξo _) _;have HB:=ξ0 hb;clear hb;generalize isP (b,m)=r at *;go_enter func209,ntmps209;go_wp2_with fail
 refine(C.out _).mono ?_;rintro e w' ⟨rfl,ae⟩;go_wp2_with fail;go_ret;exact⟨rfl,HB.out.trans (ae.mono HB.out.size)⟩
theorem ξe9:∀w,(isAgg 297).run prog w=.ok true w:=Tryz.isAgg297
theorem ξaJ:∀w,(Go.sizeOf 297).run prog w=.ok 2 w:=Tryz.sizeOf297
theorem ξ9O(a:Option Addr)(cap:Nat)(fv:Value)(w:World):Calls prog 216 #[.slice a 0 cap,fv] w λe w'=>e=.returned (.int .i64 (-1))/\w'=w:=by
 go_enter func216,ntmps216;go_wp2_with fail
 go_loopg [5,8] 0 (λ_ _ s8 wr=>s8=.int .i64 0/\wr=w)
 case atStart=>exact⟨rfl,rfl⟩
 case round=>
  obtain⟨rfl,rfl⟩:=hrel;go_wp2_with fail;go_ret;exact⟨rfl,rfl⟩
theorem ξ42(a:Option Addr)(n cap:Nat)(l:List (Int×Int))(w:World)(h:A04 w a n l) :
 Calls prog 208 #[.slice a n cap,.func (.func 209) #[] #[]] w λe w'=>e=.returned (.bool (l.any λp=>!isP p))/\Below w.heap.size w w':=by
 rcases Nat.eq_zero_or_pos n with rfl|hn
 ·have:l=[]:=Ξk h.2.1;subst this;have HI:=ξ0 (λw=>ξ9O a cap (.func (.func 209) #[] #[]) w);clear h;go_enter func208,ntmps208;go_wp2_with fail
  refine(HI.out _).mono ?_;rintro e w' ⟨rfl,rfl⟩;go_wp2_with fail;go_ret;exact⟨rfl,Ξp _ _⟩
 ·obtain⟨b,o,rfl,hb,hc⟩:=h.at hn;have hl:=h.2.1;have:=AnyQ.slices_ContainsFunc (α:=Int×Int) Tryz.A8v 2 ξe9 ξaJ (λp=>[.int .i64 p.1,.int .i64 p.2]) (λ_=>rfl) (λp=>!isP p) 209 #[] (enters_of func209 (by kernel_rfl) rfl) b o n cap l w
   (λW x hW=>(ξ7A x.1 x.2 W).mono λe w' ⟨he,hb'⟩=>⟨he,hW.trans (hb'.mono hW.size)⟩) (by omega) h.2.2 hb (λj hj i v hv=>by
     have ae:=hc j (by omega);have e:l[j]! = l.getD j (0,0):=by rw[Ξa,getElem!_pos l j hj,Ξd hj];rfl
     rw[e]at hv
     match i,hv with
     | 0,hv=>rw[Nat.add_zero,ae.1];simpa using hv
     | 1,hv=>rw[ae.2];simpa using hv
     | i+2,hv=>simp at hv)
  rw[Ξl (by omega)]at this;exact this
def A17(w:World)(B:Nat)(b m:Int):Prop:=w.heap[B]?=some (.cells #[.int .i64 b,.int .i64 m] 297 (0,0))
theorem A17.new(w:World)(b m:Int):A17 (w.alloc (.cells #[.int .i64 b,.int .i64 m] 297)) w.heap.size b m:=heap_alloc_new w _
theorem A17.cells{m:Int}(h:A17 w B b m):w.cell? ⟨B,0,none⟩=some (.int .i64 b)/\w.cell? ⟨B,1,none⟩=some (.int .i64 m):=by
 unfold A17 at h;constructor<;>simp[World.cell?,h]
theorem A17.ne{m:Int}(h:A17 w B b m){sz:Nat}{xs:List Value}(ho:w.ownsRow base e sz v n xs)(he:297≠e:=by decide):some B≠v.ownBlock:=by
 intro e;rcases ho.2 with⟨rfl,_⟩|⟨g,cap,cur,rfl,_,hb,_⟩
 ·simp[Value.ownBlock]at e
 ·simp only[Value.ownBlock,Option.some.injEq]at e;subst e;unfold A17 at h;rw[h]at hb;simp only[Option.some.injEq,Obj.cells.injEq]at hb;exact absurd hb.2.1 he
theorem A17.alloc{m:Int}(h:A17 w B b m)(O:Obj):A17 (w.alloc O) B b m:=by
 unfold A17;rw[Below.heap_alloc _ _ _ (lt_of_block h)];exact h
theorem A17.grown{m:Int}(h:A17 w B b m)(hg:w.grownBy w' v.ownBlock)(hne:some B≠v.ownBlock):A17 w' B b m:=by
 unfold A17;rw[hg.block B (lt_of_block h) hne];exact h
theorem A50(c0:Value):∀j u,[c0][j]?=some u->(w.alloc (.cells #[c0] T)).cell? ((⟨w.heap.size,0,none⟩:Addr).add j)=some u:=by
 intro j u hu;rw[Addr.add_lit,World.cell?_alloc_mark,Nat.zero_add,<-hu];exact List.getElem?_toArray
def tl(b:Int)(m i:Nat):List Int:=b::((List.range i).filter λi=>m.testBit i).map λ(i:Nat)=>b+(i:Int)+1
theorem ξfO(h:m.testBit i=true):tl b m (i+1)=tl b m i++[b+(i:Int)+1]:=by simp[tl,List.range_succ,h]
theorem ξgk(h:m.testBit i=false):tl b m (i+1)=tl b m i:=by simp[tl,List.range_succ,h]
theorem ξfP(b:Int)(m i:Nat):(tl b m i).length<=i+1:=by
 have:=List.length_filter_le (λi=>m.testBit i) (List.range i);simp[tl]at this ⊢;exact this
theorem ξ7P(a b:Nat)(ha:a<9223372036854775808)(hb:b<9223372036854775808):bits .and .i64 (a:Int) (b:Int)=((a&&&b:Nat):Int):=by
 have hx:a&&&b<2^63:=Nat.and_lt_two_pow _ (by omega);show IntKind.i64.wrap ((BitVec.ofInt 64 (a:Int)&&&BitVec.ofInt 64 (b:Int)).toNat:Int)=_;rw[BitVec.toNat_and,ξ2q a ha,ξ2q b hb,IntKind.wrap_i64];omega
theorem ξge(m k:Nat)(hm:m<65536):(bits .and .i64 ((m:Int)/2^k) 1==1)=m.testBit k:=by
 have e:((m:Int)/2^k)=((m/2^k:Nat):Int):=by simp
 have h2:m/2^k<65536:=Nat.lt_of_le_of_lt (Nat.div_le_self _ _) hm;rw[e,show(1:Int)=((1:Nat):Int)from rfl,ξ7P _ _ (by omega) (by decide),Nat.and_one_is_mod,Nat.testBit_eq_decide_div_mod_eq];rw[Bool.eq_iff_iff,beq_iff_eq,decide_eq_true_eq];omega
structure ASt(w wr:World)(base k:Nat)(L:List Int)(b:Int)(m i:Nat)(v:Value):Prop where
 below:Below base w wr
 box:A17 wr w.heap.size b m
 own:wr.ownsRow base 3 1 v (k+(tl b m i).length) (ic (L++tl b m i))
theorem ASt.no{k:Nat}(h:ASt w wr base k L b m i v)(hb:m.testBit i=false):ASt w wr base k L b m (i+1) v:=
 ⟨h.below,h.box,by rw[ξgk hb];exact h.own⟩
theorem ASt.yes{k:Nat}(h:ASt w wr base k L b m i v)(hb:m.testBit i=true)(hbase:base<=w.heap.size)
 (ho:w'.ownsRow base 3 1 v' (k+(tl b m i).length+1) (ic (L++tl b m i)++[.int .i64 (b+(i:Int)+1)])) (hg:(wr.alloc O).grownBy w' v.ownBlock):ASt w w' base k L b m (i+1) v':=by
 have hs:=h.below.size;refine⟨(h.below.alloc (by omega) _).grown hg (by simp;omega) (λj hj=>(h.own.lt j hj).1),(h.box.alloc _).grown hg (h.box.ne h.own),?_⟩;rw[ξfO hb,Ξh,<-List.append_assoc];have e:ic (L++tl b m i++[b+(i:Int)+1])=ic (L++tl b m i)++[.int .i64 (b+(i:Int)+1)]:=by simp[ic]
 rw[e];exact ho
theorem ξcf(v:Value)(base k:Nat)(L:List Int)(b:Int)(m:Nat)(w:World)(ho:w.ownsRow base 3 1 v k (ic L))(hbase:base<=w.heap.size)(hk:k<=10000)(hb0:0<=b)(hb1:b<=65535)(hm:m<65536) :
 Calls prog 211 #[v,.agg #[.int .i64 b,.int .i64 (m:Int)]] w λe w'=>∃v',e=.returned v'/\w'.ownsRow base 3 1 v' (k+(tells (b,m)).length) (ic (L++tells (b,m)))/\Below base w w':=by
 obtain⟨i0,am,aq,au,aw⟩:=info_parts info3;have HO:=ξ0 ho;have ai:=ξ0 (A17.new w b m);have hc:=ai.out.cells.1;have ax:Hid (∀i,(bits .and .i64 ((m:Int)/2^i) 1==1)=m.testBit i):=λi=>ξge m i hm;clear ho;go_enter func211,ntmps211;go_wp2_with (at_builtin;refine wpList_append_own _ rfl _ _ 35 rfl base 3 i0 _ 1 8 underlying35 am aq au aw rfl (by decide) _ k (ic L) rfl ((HO.out.alloc _).alloc _) ⟨w.heap.size+1,0,none⟩ 1 1 [.int .i64 b] rfl rfl ?cc ?one ?b1 ?b2 ?b3 ?next)
 case cc=>rw[show w.heap.size+1=(w.alloc (.cells #[.int .i64 b,.int .i64 (m:Int)] 297)).heap.size by simp];exact A50 (w:=w.alloc (.cells #[.int .i64 b,.int .i64 (m:Int)] 297)) _
 case one=>simp[Value.oneCell']
 case b1=>unfold maxLen;omega
 case b2=>omega
 case b3=>simp;omega
 case next=>
 intro v1 w1 ah ae _;have ay:Hid (ASt w w1 base k L b m 0 v1):=by
  have h0:=((Ξp base w).alloc hbase (.cells #[.int .i64 b,.int .i64 (m:Int)] 297));refine⟨(h0.alloc (by simp;omega) _).grown ae (by simp;omega) (λj hj=>(HO.out.lt j hj).1),(ai.out.alloc _).grown ae (ai.out.ne (HO.out.alloc _)),?_⟩;have e:ic (L++tl b m 0)=ic L++[.int .i64 b]:=by simp[ic,tl]
  rw[e];exact ah
 clear ah ae hc;go_wp2_with fail;go_loopg [0,11] 16 (λg x y wr=>∃(i:Nat) (v:Value),i+g=16/\x=v/\y=.int .i64 (i:Int)/\Hid (ASt w wr base k L b m i v))
 case atStart=>exact⟨0,_,by omega,rfl,rfl,ay⟩
 case round=>
  obtain⟨i,v2,aD,rfl,rfl,HS⟩:=hrel;obtain⟨aE,aF⟩:=HS.out.box.cells;by_cases hi:i<16
  ·have az:(i:Int)<16:=by omega
   have aA:=ax.out i;obtain⟨tb,aj⟩:=nm (m.testBit i);rw[aj]at aA;have HT:=ξ0 aj;clear aj;have aG:=ξfP b m i;cases tb with
   | true=>
     go_wp2_with (at_builtin;refine wpList_append_own _ rfl _ _ 35 rfl base 3 i0 _ 1 8 underlying35 am aq au aw rfl (by decide) _ (k+(tl b m i).length) (ic (L++tl b m i)) rfl (HS.out.own.alloc _) ⟨wr.heap.size,0,none⟩ 1 1 [.int .i64 (b+(i:Int)+1)] rfl rfl ?cc ?one ?b1 ?b2 ?b3 ?next)
     case cc=>exact A50 _
     case one=>simp[Value.oneCell']
     case b1=>unfold maxLen;omega
     case b2=>omega
     case b3=>have:=HS.out.below.size;simp;omega
     case next=>
     intro v3 w' ah ae _;have aC:=ξ0 (HS.out.yes HT.out hbase ah ae);clear ah ae;go_wp2_with fail;go_roundg (16-(i+1))
     case measure=>omega
     case rel=>exact⟨i+1,v3,by omega,rfl,by go_num,aC⟩
   | false=>
     go_wp2_with fail
     go_roundg (16-(i+1))
     case measure=>omega
     case rel=>exact⟨i+1,_,by omega,rfl,by go_num,HS.out.no HT.out⟩
  ·have az:¬(i:Int)<16:=by omega
   have ei:i=16:=by omega
   subst ei;go_wp2_with fail;go_ret;exact⟨_,rfl,HS.out.own,HS.out.below⟩
def A1l(l:List (Int×Int)):Nat:=if 200<l.length then 4 else if l.any (λp=>!isP p)then 1 else 0
def np(p:Int×Int):Int×Nat:=(p.1,p.2.toNat)
def numsOf(l:List (Int×Int)):List Int:=if A1l l=0 then norm (told (l.map np))else[]
theorem ξ3Y(h:A1l l=0):l.length<=200/\l.any (λp=>!isP p)=false:=by
 unfold A1l at h;by_cases q:200<l.length
 ·rw[if_pos q]at h;omega
 ·rw[if_neg q]at h;by_cases q2:l.any (λp=>!isP p)=true
  ·rw[if_pos q2]at h;omega
  ·exact⟨by omega,by simpa using q2⟩
theorem ξg8(h:l.any (λp=>!isP p)=false):∀p∈l,0<=p.1/\p.1<=65535/\0<=p.2/\p.2<=65535:=by
 intro p hp;have:=List.any_eq_false.1 h p hp;simp only[isP,inR,Bool.not_eq_true',Bool.not_eq_false,Bool.and_eq_true,decide_eq_true_eq]at this;omega
theorem ξ7K(a:Option Addr)(n cap:Nat)(l:List (Int×Int))(w:World)(h:A04 w a n l)(hf:A1l l≠0) :
 Calls prog 200 #[.slice a n cap] w λe w'=>e=.returned (.tuple #[.slice none 0 0,A0a (A1l l)])/\Below w.heap.size w w':=by
 have hl:=h.2.1;have hb:=h.2.2;by_cases p:200<n
 ·have e:A1l l=4:=by unfold A1l;rw[if_pos (by omega)]
  rw[e];clear h hf e;have d:decide (200<(n:Int))=true:=by simp;omega
  go_enter func200,ntmps200;go_wp2_with fail
  go_ret2;exact⟨rfl,Ξp _ _⟩
 ·have C:=ξ42 a n cap l w h;have d:decide (200<(n:Int))=false:=by simp;omega
  have e:l.any (λp=>!isP p)=true/\A1l l=1:=by
   unfold A1l at hf ⊢;rw[if_neg (by omega)]at hf ⊢;by_cases q:l.any (λp=>!isP p)=true
   ·exact⟨q,if_pos q⟩
   ·rw[if_neg q]at hf;exact absurd rfl hf
  rw[e.1]at C;rw[e.2];have HC:=ξ0 C;clear C h hf e;go_enter func200,ntmps200;go_wp2_with fail
  refine HC.out.mono ?_;rintro e w' ⟨rfl,ae⟩;go_wp2_with fail;go_ret2;exact⟨rfl,ae⟩
structure NSt(w wr:World)(K:List Int)(v:Value):Prop where
 below:Below w.heap.size w wr
 own:wr.ownsRow w.heap.size 3 1 v K.length (ic K)
theorem ξ6Z(a:Option Addr)(n cap:Nat)(l:List (Int×Int))(w:World)(h:A04 w a n l)(hf:A1l l=0) :
 Calls prog 200 #[.slice a n cap] w λe w'=>∃v',e=.returned (.tuple #[v',.nilIface])/\w'.ownsRow w.heap.size 3 1 v' (norm (told (l.map np))).length (ic (norm (told (l.map np))))/\Below w.heap.size w w':=by
 have hl:=h.2.1;have hb:=h.2.2;obtain⟨p,ae⟩:=ξ3Y hf;have ai:=ξg8 ae;have C:=ξ42 a n cap l w h;rw[ae]at C;have HC:=ξ0 C;have HH:=ξ0 h;have aq:=ξ0 ai;have d:decide (200<(n:Int))=false:=by simp;omega
 have hT:∀j,(told ((l.take j).map np)).length<=3400:=λj=>by
  have:=(ξ1P ((l.take j).map np)).2;simp only[Ξm,List.length_take]at this;omega
 have HT:=ξ0 hT;have HE:Hid (norm (told (l.map np))=compact ((told ((l.take n).map np)).mergeSort λx y=>decide (x<=y))):=by
  rw[Ξl (by omega)];exact rfl
 generalize norm (told (l.map np))=R at *;clear C h hf ae ai hT;go_enter func200,ntmps200;go_wp2_with fail
 refine HC.out.mono ?_;rintro e w1 ⟨rfl,ah⟩;have au:=ξ0 ah;have HP:=ξ0 (HH.out.below ah);clear ah HH HC;have aM:Hid (NSt w1 w1 (told ((l.take 0).map np)) (.slice none 0 0)):=⟨Ξp _ _,Ξr _ _ _ _⟩;go_wp2_with fail
 go_loopg [4,16] n (λg x y wr=>∃(j:Nat) (v:Value),j+g=n/\x=v/\y=.int .i64 (j:Int)/\Hid (NSt w1 wr (told ((l.take j).map np)) v))
 case atStart=>exact⟨0,_,by omega,rfl,rfl,aM⟩
 case round=>
  obtain⟨j,v,aX,rfl,rfl,HS⟩:=hrel;by_cases hj:j<n
  ·have aO:(j:Int)<(n:Int):=by omega
   obtain⟨b,o,rfl,am,aw⟩:=HP.out.at (by omega);obtain⟨c0,c1⟩:=aw j hj;have ax:=(HS.out.below.cell (p:=⟨b,o+j*2,none⟩) am).trans c0;have ay:=(HS.out.below.cell (p:=⟨b,o+j*2+1,none⟩) am).trans c1;clear c0 c1 aw;obtain⟨⟨bs,mi⟩,hp⟩:∃p,l.getD j (0,0)=p:=⟨_,rfl⟩;rw[hp]at ax ay;have aj:(bs,mi)∈l:=by rw[<-hp,Ξa,Ξd (by omega)];exact List.getElem_mem _
   obtain⟨az,ah,aA,aC⟩:=aq.out _ aj;obtain⟨mk,aP⟩:∃m:Nat,mi=(m:Int):=⟨mi.toNat,by simp only at aA;omega⟩;have aQ:mk<65536:=by simp only at aC;omega
   subst aP;simp only at ax ay az ah;have aS:Hid (told ((l.take (j+1)).map np)=told ((l.take j).map np)++tells (bs,mk)):=by
    have e:l.take (j+1)=l.take j++[(bs,(mk:Int))]:=by
     rw[<-hp,Ξa,Ξd (by omega),Option.getD_some,List.take_append_getElem (by omega)]
    show _=_;rw[e,List.map_append,ξ2f];simp[ξ1O,np]
   have hk:=HT.out j;clear hp aj aA aC;generalize told ((l.take j).map np)=T at *;have aT:Hid (∀W v,W.ownsRow w1.heap.size 3 1 v T.length (ic T)->w1.heap.size<=W.heap.size->Calls prog 211 #[v,.agg #[.int .i64 bs,.int .i64 (mk:Int)]] W _):=λW v hW hs=>ξcf v _ T.length T bs mk W hW hs (by omega) az ah aQ;go_wp2_with fail
   refine(aT.out _ _ (HS.out.own.alloc _) (by have:=HS.out.below.size;simp;omega)).mono ?_;rintro e w2 ⟨v2,rfl,aD,aE⟩;have aU:Hid (NSt w1 w2 (T++tells (bs,mk)) v2):=⟨(HS.out.below.alloc HS.out.below.size _).trans aE,by rw[Ξh];exact aD⟩;clear aD aE;go_wp2_with fail;go_roundg (n-(j+1))
   case measure=>omega
   case rel=>exact⟨j+1,v2,by omega,rfl,by go_num,by rw[aS.out];exact aU⟩
  ·have aO:¬(j:Int)<(n:Int):=by omega
   have ej:j=n:=by omega
   subst ej;have hk:=HT.out j;go_wp2_with fail
   refine(ξ1J _ _ _ _ _ HS.out.own (by omega)).mono ?_;rintro e w3 ⟨rfl,aF,aG⟩;have aH:=ξ0 aF;have aI:=ξ0 (HS.out.below.grown aG HS.out.below.size (λj hj=>(HS.out.own.lt j hj).1));clear aF aG;go_wp2_with fail;refine(ξ25 _ _ _ _ w3 aH.out (by omega)).mono ?_;rintro e w4 ⟨v4,rfl,am,aJ,aL⟩;have aV:=ξ0 aJ;have aW:=ξ0 (aI.out.grown aL aI.out.size (λj hj=>(aH.out.lt j hj).1));clear aJ aL am;go_wp2_with fail;go_ret2;refine⟨v4,rfl,?_,au.out.trans (aW.out.mono au.out.size)⟩;have ho:=aV.out;rw[<-HE.out]at ho;refine⟨ho.1,?_⟩;rcases ho.2 with h0|⟨g,cap,cur,e,hg,rest⟩
   ·exact .inl h0
   ·exact .inr ⟨g,cap,cur,e,by have:=au.out.size;omega,rest⟩
theorem ξX(h:A1n L=0):L.length<=200/\∀x∈L,0<=x/\x<=65535:=by
 unfold A1n at h;by_cases q:200<L.length
 ·rw[if_pos q]at h;omega
 ·rw[if_neg q]at h;by_cases q2:L.any (λx=>!inR x)=true
  ·rw[if_pos q2]at h;omega
  ·exact⟨by omega,ξ7d (by simpa using q2)⟩
theorem ξgw(l:List (Int×Nat)):(pr l).map np=l:=by
 simp only[pr,List.map_map]
 conv=>rhs;rw[<-List.map_id l]
 apply List.map_congr_left;intro p _;simp[np]
theorem ξfl{l:List (Int×Nat)}{S:List Int}(h:Fit l S)(hS:∀x∈S,0<=x/\x<=65535):(pr l).any (λp=>!isP p)=false:=by
 rw[List.any_eq_false];intro q hq;simp only[pr,Ξi]at hq;obtain⟨p,hp,rfl⟩:=hq;have hm:=h.mask p hp;have hb:=hS p.1 (h.base p hp);have ae:=(ξ86 hm p.1 hb.2).2 (λi hi=>by
  have:p.1+(i:Int)+1∈S:=by
   rw[<-h.told];exact List.mem_flatMap.2 ⟨p,hp,(ξ5M hm).2 (.inr ⟨i,hi,rfl⟩)⟩
  exact(hS _ this).2)
 simp only[isP,inR,Bool.not_eq_true',Bool.not_eq_false,Bool.and_eq_true,decide_eq_true_eq,Int.toNat_natCast];omega
theorem ξ1M(h:A1n L=0):A1l (pr (A1p L))=0/\numsOf (pr (A1p L))=norm L/\(A1p L).length<=(norm L).length/\(norm L).length<=17*(A1p L).length/\(A1p L).length<=L.length/\Fit (A1p L) (norm L):=by
 obtain⟨h1,h2⟩:=ξX h;have ae:=ξ3D _ (ξ1h L).1;have hS:∀x∈norm L,0<=x/\x<=65535:=λx hx=>h2 x (((ξ1h L).2 x).1 hx);have e:A1p L=pairs (norm L):=by rw[A1p,if_pos h]
 have hl:=ξ1P (pairs (norm L));rw[ae.told]at hl;have hn:=ξ1y L;have hz:A1l (pr (A1p L))=0:=by
  unfold A1l;rw[e,if_neg (by rw[ξ2g];omega),ξfl ae hS];rfl
 refine⟨hz,?_,by rw[e];exact hl.1,by rw[e];exact hl.2,by rw[e];omega,by rw[e];exact ae⟩;rw[numsOf,if_pos hz,ξgw,e,ae.told,ξ3s (ξ1h L).1]
theorem cmp_eq(f:Nat)(w:World):(binOp .eql 25 (A0a f) .nilIface).run prog w=.ok (.bool (decide (f=0))) w:=by
 by_cases p:f=0
 ·rw[p,ξ4];simp[go_sem]
 ·rw[ξb p];simp[go_sem,p]
theorem ξq(f:Nat)(w:World):(binOp .neq 25 (A0a f) .nilIface).run prog w=.ok (.bool (!decide (f=0))) w:=by
 by_cases p:f=0
 ·rw[p,ξ4];simp[go_sem]
 ·rw[ξb p];simp[go_sem,p]
theorem ξ3z(f:Nat)(o1:Operand)(w:World):(eqGuard .eql 25 o1 (.const .nilIface) (A0a f) .nilIface).run prog w=.ok () w:=by
 by_cases p:f=0
 ·rw[p,ξ4];unfold eqGuard;simp
 ·rw[ξb p];simp[go_sem]
theorem ξp(f:Nat)(o1:Operand)(w:World):(eqGuard .neq 25 o1 (.const .nilIface) (A0a f) .nilIface).run prog w=.ok () w:=by
 by_cases p:f=0
 ·rw[p,ξ4];unfold eqGuard;simp
 ·rw[ξb p];simp[go_sem]
def be:Nat->Nat->List Nat
 | 0,_=>[]
 | s+1,n=>(n/256^s%256)::be s n
theorem ξ1f:∀s n,(be s n).length=s
 | 0,_=>rfl
 | s+1,n=>by simp[be,ξ1f s n]
theorem ξ4V:∀s n,∀c∈be s n,c<256
 | 0,n,c,h=>by simp[be]at h
 | s+1,n,c,h=>by
   rcases Ξf.1 h with rfl|h
   ·exact Nat.mod_lt _ (by decide)
   ·exact ξ4V s n c h
def val(B:List Nat):Nat:=B.foldl (λn c=>n*256+c) 0
theorem ξek(n:Nat)(h:n<256):val (be 1 n)=n:=by simp[val,be];omega
theorem ξ8c(n:Nat)(h:n<65536):val (be 2 n)=n:=by simp[val,be];omega
theorem ξcr(n:Nat)(h:n<4294967296):val (be 4 n)=n:=by simp[val,be];omega
def most(k:Int):Int:=if k=1 then 0 else if k=2 then 3 else if k=3 then 1000000 else -1
def A0s(k t:Int)(L:List Int)(u:Int):Nat:=
 if t<1∨8<t∨¬(0<=u/\u<=most k)then 1 else if (decide (k=1)==decide (L.length=0))||!decide (A1w L)then 3 else 0
def A0o(k t:Int)(L:List Int)(u:Int):Nat:=if A0s k t L u=0 then A1n L else A0s k t L u
def A06(l:List (Int×Nat)):List Nat:=l.flatMap λp=>be 2 p.1.toNat++be 2 p.2
def tail(k:Int)(L:List Int)(u:Int):List Nat:=(if k=2 then be 1 u.toNat else if k=3 then be 4 u.toNat else[])++A06 (A1p L)
def A0c(k t:Int)(L:List Int)(u:Int):List Nat:=k.toNat::t.toNat::tail k L u
theorem ξ1k(h:A0s k t L u=0):(k=1∨k=2∨k=3)/\1<=t/\t<=8/\0<=u/\u<=most k/\(k=1↔L.length≠0)/\A1w L:=by
 unfold A0s at h;split at h
 ·omega
 ·rename_i h1;split at h
  ·omega
  ·rename_i h2;simp only[Bool.or_eq_true,beq_iff_eq,decide_eq_decide,Bool.not_eq_true',decide_eq_false_iff_not,not_or,Decidable.not_not]at h2;have hm:0<=most k:=by omega
   refine⟨?_,by omega,by omega,by omega,by omega,?_,h2.2⟩
   ·unfold most at hm;split at hm
    ·omega
    ·split at hm
     ·omega
     ·split at hm<;>omega
   ·have:=h2.1;constructor
    ·intro hk h0;exact this ⟨λ_=>h0,λ_=>hk⟩
    ·intro hl;by_cases hk:k=1
     ·exact hk
     ·exact absurd ⟨λh=>absurd h hk,λh=>absurd h hl⟩ this
theorem ξY(h:A0o k t L u=0):A0s k t L u=0/\A1n L=0:=by
 unfold A0o at h;split at h
 ·rename_i h0;exact⟨h0,h⟩
 ·rename_i h0;exact absurd h h0
theorem ξ8B(k:Int):most k<=1000000:=by
 unfold most;split
 ·omega
 ·split
  ·omega
  ·split<;>omega
def A19:List Nat->List (Int×Int)
 | a::b::c::d::r=>((val [a,b]:Int),(val [c,d]:Int))::A19 r
 | _=>[]
theorem ξ30(a b c d:Nat)(r:List Nat):A19 (a::b::c::d::r)=((val [a,b]:Int),(val [c,d]:Int))::A19 r:=rfl
theorem ξ3X:∀l:List (Int×Nat),(∀p∈l,0<=p.1/\p.1<=65535/\p.2<65536)->A19 (A06 l)=pr l
 | [],_=>rfl
 | p::l,h=>by
   have ih:=ξ3X l (λq hq=>h q (List.mem_cons_of_mem _ hq));obtain⟨h1,h2,h3⟩:=h p (List.mem_cons_self ..);have e1:=ξ8c p.1.toNat (by omega);have e2:=ξ8c p.2 h3;have e:A06 (p::l)=(p.1.toNat/256^1%256)::(p.1.toNat/256^0%256)::(p.2/256^1%256)::(p.2/256^0%256)::A06 l:=rfl;rw[e,ξ30,ih];have ae:val [p.1.toNat/256^1%256,p.1.toNat/256^0%256]=p.1.toNat:=e1;have ah:val [p.2/256^1%256,p.2/256^0%256]=p.2:=e2;rw[ae,ah];show(((p.1.toNat:Nat):Int),(p.2:Int))::pr l=(p.1,(p.2:Int))::pr l;rw[Int.toNat_of_nonneg h1]
theorem ξ31:∀l:List (Int×Nat),(A06 l).length=l.length*4
 | []=>rfl
 | p::l=>by
   have:=ξ31 l;have e:A06 (p::l)=be 2 p.1.toNat++be 2 p.2++A06 l:=rfl;rw[e,Ξh,Ξh,ξ1f,ξ1f,this,List.length_cons];omega
theorem ξb7(l:List (Int×Nat)):∀c∈A06 l,c<256:=by
 intro c hc;obtain⟨p,_,hp⟩:=List.mem_flatMap.1 hc;rcases Ξe.1 hp with h|h
 ·exact ξ4V _ _ c h
 ·exact ξ4V _ _ c h
theorem ξ7H(l:List (Int×Nat))(p:Int×Nat):A06 (l++[p])=A06 l++be 2 p.1.toNat++be 2 p.2:=by simp[A06]
def A1m:List Nat->Bool
 | k::_::r=>if k=1 then decide (r.length<4)||decide (r.length%4≠0)else if k=2 then decide (r.length<1)else if k=3 then decide (r.length<4)else false
 | _=>true
def A2f(k:Nat)(r:List Nat):List Int:=if k=1 then numsOf (A19 r)else[]
def A2g(k:Nat)(r:List Nat):Nat:=if k=2 then val (r.take 1)else if k=3 then val (r.take 4)else 0
def A2b(k:Nat)(r:List Nat):Bool:=decide (k=1)&&(decide (800<r.length)||decide (A1l (A19 r)≠0))
def A3k(k t:Nat)(r:List Nat):Nat:=
 if A2b k r then 2 else if A0o k t (A2f k r) (A2g k r)≠0∨A0c k t (A2f k r) (A2g k r)≠k::t::r then 2 else 0
def A0y(B:List Nat):Nat:=if A1m B then 8 else match B with
 | k::t::r=>A3k k t r
 | _=>8
theorem ξ2W(k t:Nat)(r:List Nat)(h:A1m (k::t::r)=false):A0y (k::t::r)=A3k k t r:=by
 unfold A0y;rw[if_neg (by rw[h];decide)]
theorem ξ5B:A1p []=[]:=by
 unfold A1p;rw[ξ3s (show A1w []from List.Pairwise.nil)];split<;>rfl
theorem again(h:A0o k t L u=0):∃(k' t':Nat) (r:List Nat),k=k'/\t=t'/\A0c k t L u=k'::t'::r/\A1m (k'::t'::r)=false/\A3k k' t' r=0/\A2f k' r=L/\(A2g k' r:Int)=u:=by
 obtain⟨hc,hp⟩:=ξY h;obtain⟨hk,t1,t8,u0,um,aj,am⟩:=ξ1k hc;have ax:=ξ8B k;obtain⟨b1,b2,b3,b4,b5,ae⟩:=ξ1M hp;rw[ξ3s am]at b2 b3 b4 ae;have hL:=(ξX hp).2;have aq:A19 (A06 (A1p L))=pr (A1p L):=ξ3X _ (λp hp=>⟨(hL _ (ae.base p hp)).1,(hL _ (ae.base p hp)).2,ae.mask p hp⟩);have ai:=ξ31 (A1p L);have au:=(ξX hp).1;obtain⟨k',rfl⟩:∃k':Nat,k=k':=⟨k.toNat,by omega⟩;obtain⟨t',rfl⟩:∃t':Nat,t=t':=⟨t.toNat,by omega⟩;refine⟨k',t',tail k' L u,rfl,rfl,by simp[A0c],?_⟩;have key:A1m (k'::t'::tail k' L u)=false/\A2b k' (tail k' L u)=false/\A2f k' (tail k' L u)=L/\(A2g k' (tail k' L u):Int)=u:=by
  rcases hk with hk|hk|hk
  ·have hk:k'=1:=by omega
   subst hk;have ay:L.length≠0:=aj.1 rfl;have hu:u=0:=by simp[most]at um;omega
   have et:tail (1:Nat) L u=A06 (A1p L):=by simp[tail]
   have aw:0<(A1p L).length:=by omega
   refine⟨?_,?_,?_,?_⟩
   ·simp only[A1m,et,ai];simp;omega
   ·simp only[A2b,et,ai,aq,b1];simp;omega
   ·rw[A2f,if_pos rfl,et,aq,b2]
   ·simp[A2g,hu]
  ·have hk:k'=2:=by omega
   subst hk;have ah:L=[]:=by
    by_cases h0:L.length=0
    ·exact Ξk h0
    ·have:=aj.2 h0;omega
   subst ah;have hu:u<=3:=by simpa[most]using um
   have et:tail (2:Nat) [] u=be 1 u.toNat:=by simp[tail,ξ5B,A06]
   rw[et];refine⟨by simp[A1m,ξ1f],by simp[A2b],by simp[A2f],?_⟩
   have:(be 1 u.toNat).take 1=be 1 u.toNat:=Ξl (by rw[ξ1f];exact Ξo _);simp only[A2g,this,ξek u.toNat (by omega)];simp;omega
  ·have hk:k'=3:=by omega
   subst hk;have ah:L=[]:=by
    by_cases h0:L.length=0
    ·exact Ξk h0
    ·have:=aj.2 h0;omega
   subst ah;have et:tail (3:Nat) [] u=be 4 u.toNat:=by simp[tail,ξ5B,A06]
   rw[et];refine⟨by simp[A1m,ξ1f],by simp[A2b],by simp[A2f],?_⟩
   have:(be 4 u.toNat).take 4=be 4 u.toNat:=Ξl (by rw[ξ1f];exact Ξo _);simp only[A2g,this,ξcr u.toNat (by omega)];simp;omega
 obtain⟨c1,c2,c3,c4⟩:=key;refine⟨c1,?_,c3,c4⟩;unfold A3k;rw[if_neg (by rw[c2];decide),c3,c4,if_neg];rw[not_or,Decidable.not_not,Decidable.not_not];exact⟨h,by simp[A0c]⟩
end Go.Proofs.YtpiamlgmadnepaaGreat.Back
