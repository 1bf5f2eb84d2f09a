/-
 What the proof needs.
-/
import Derived.Test.YtpiamlgmadnepaaGreatMathAll
import Derived.Test.YtpiamlgmadnepaaGreatRows
import Derived.ProofKit
import Derived.OpenShut
import Derived.ChangeOld
import Derived.BigQuiet
import Derived.WalkSmall
import Derived.WalkSpells
import Derived.LoopTactic
import Derived.Deep.AppendLies
import Derived.Deep.LoopGhost
import Derived.Deep.CutRange
import Derived.Deep.RegionLaw
import Derived.Laws.NewBlocks
import Derived.Deep.WholeRow
open Go.Proofs.Tryz
set_option linter.unusedVariables false
set_option maxHeartbeats 8000000
set_option maxRecDepth 100000
namespace Go.Proofs.YtpiamlgmadnepaaGreat.Tree
open ChangeShapes WideShapes ChangeAt RowKit Mem TM
variable {e base n B j g c k cap b y p q g1 gd gb gp i:Nat}{w wr w':World}{v:Value}{xs:List Value}{a:Option Addr}{L l:List Ed}{m:Ed}{C:Array Value}{F G:Nat->Nat->Int}{bs:List Nat}{d:List Int}{S:Nat->Bool}
def A0a(e:Nat):Value:=if e=0 then .nilIface else .iface 101 (.int .i64 (e:Int))
theorem ξ4:A0a 0=.nilIface:=rfl
theorem ξb(h:e≠0):A0a e=.iface 101 (.int .i64 (e:Int)):=by simp[A0a,h]
theorem info3:(prog.info? 3).map (λi=>(i.zero,i.size,i.bytes))=some (some (.int .i64 0),1,8):=by kernel_rfl
theorem infoED:(prog.info? 87).map (λi=>(i.zero,i.size,i.bytes))=some (some (.agg #[.int .i64 0,.int .i64 0,.int .i64 0]),3,24):=by kernel_rfl
theorem ξ9(h:Below w.heap.size w wr)(o:Obj):Below w.heap.size w (wr.alloc o):=h.alloc h.size o
theorem ξv{base' size:Nat}(h:w.ownsRow base e size v n xs)(hb:base'<=base):w.ownsRow base' e size v n xs:=by
 refine⟨h.1,?_⟩;rcases h.2 with h|⟨g,cap,cur,e,hg,r⟩
 ·exact .inl h
 ·exact .inr ⟨g,cap,cur,e,Nat.le_trans hb hg,r⟩
theorem own_below{sz:Nat}(h:w.ownsRow base e sz v n xs)(hb:Below w.heap.size w w'):w'.ownsRow base e sz v n xs:=by
 refine⟨h.1,?_⟩;rcases h.2 with hl|⟨g,cap,cur,rfl,hg,hbl,rest⟩
 ·exact .inl hl
 ·exact .inr ⟨g,cap,cur,rfl,hg,(hb.block g (lt_of_block hbl)).trans hbl,rest⟩
def ic(L:List Int):List Value:=L.map (Value.int .i64)
theorem ξE(L:List Int):(ic L).length=L.length:=by simp[ic]
theorem ξ2M(L K:List Int):ic (L++K)=ic L++ic K:=by simp[ic]
theorem ξ22(L:List Int)(j:Nat)(h:j<L.length):(ic L)[j]?=some (.int .i64 (dg L j)):=by
 simp[ic,dg,List.getD_eq_getElem?_getD,List.getElem?_eq_getElem h]
def Ints(w:World)(a:Option Addr)(L:List Int):Prop:=∀j,j<L.length->∃b o,a=some ⟨b,o,none⟩/\w.cell? ⟨b,o+j,none⟩=some (.int .i64 (dg L j))
def A0b(w:World)(a:Option Addr)(n:Nat)(L:List Int):Prop:=Ints w a L/\L.length=n/\n<=9223372036854775807
theorem A0b.below{L:List Int}(h:A0b w a n L)(hb:Below w.heap.size w w'):A0b w' a n L:=by
 refine⟨λj hj=>?_,h.2⟩;obtain⟨b,o,e,hc⟩:=h.1 j hj;exact⟨b,o,e,(hb.cell (p:=⟨b,o+j,none⟩) (Ξq w ⟨b,o+j,none⟩ hc)).trans hc⟩
theorem A0b.nil(w:World)(a:Option Addr):A0b w a 0 []:=⟨λj h=>absurd h (by simp),rfl,by omega⟩
theorem A0b.at{L:List Int}(h:A0b w a n L)(hn:0<n):∃b o,a=some ⟨b,o,none⟩/\∀j,j<n->w.cell? ⟨b,o+j,none⟩=some (.int .i64 (dg L j)):=by
 obtain⟨b,o,e,_⟩:=h.1 0 (by have:=h.2.1;omega);refine⟨b,o,e,λj hj=>?_⟩;obtain⟨b',o',e',hc⟩:=h.1 j (by have:=h.2.1;omega);rw[e,Option.some.injEq,Addr.mk.injEq]at e';obtain⟨rfl,rfl,_⟩:=e';exact hc
theorem ξl{L:List Int}(h:w.ownsRow base 3 1 v n (ic L))(hn:n<=9223372036854775807) :
 ∃a cap,v=.slice a n cap/\A0b w a n L/\(a=none->n=0/\cap=0)/\n<=cap/\∀ad,a=some ad->∃g,ad=⟨g,0,none⟩/\base<=g/\g<w.heap.size:=by
 have hl:L.length=n:=by have:=h.1;rw[ξE]at this;omega
 rcases h.2 with⟨rfl,rfl⟩|⟨g,cap,cur,rfl,hg,hb,hc,hm,hs,ht⟩
 ·have:L=[]:=Ξk hl;subst this;exact⟨none,0,rfl,A0b.nil _ _,λ_=>⟨rfl,rfl⟩,Ξo _,λad e=>by simp at e⟩
 ·refine⟨_,cap,rfl,⟨λj hj=>⟨g,0,rfl,?_⟩,hl,hn⟩,λe=>by simp at e,hc,λad e=>⟨g,by simpa using e.symm,hg,lt_of_block hb⟩⟩;rw[Nat.zero_add,h.cellAt j (by omega),ξ22 L j hj]
def mv(m:Ed):Value:=.agg #[.int .i64 m.a,.int .i64 m.b,.int .i64 m.c]
def mc(l:List Ed):List Value:=l.flatMap λm=>[.int .i64 m.a,.int .i64 m.b,.int .i64 m.c]
theorem ξ4H:∀l:List Ed,(mc l).length=l.length*3
 | []=>rfl
 | p::l=>by have:=ξ4H l;simp[mc]at this ⊢;omega
theorem ξg5(l k:List Ed):mc (l++k)=mc l++mc k:=by simp[mc]
theorem ξeY(l:List Ed):∀u∈mc l,u.oneCell'=true:=by
 intro u hu;simp only[mc,List.mem_flatMap]at hu;obtain⟨m,_,hu⟩:=hu;simp at hu;rcases hu with rfl|rfl|rfl<;>rfl
theorem ξ3u:∀(l:List Ed) (j:Nat),j<l.length->(mc l)[j*3]?=some (.int .i64 (l.getD j zz).a)/\(mc l)[j*3+1]?=some (.int .i64 (l.getD j zz).b)/\(mc l)[j*3+2]?=some (.int .i64 (l.getD j zz).c)
 | [],j,h=>absurd h (by simp)
 | p::l,0,_=>⟨rfl,rfl,rfl⟩
 | p::l,j+1,h=>by
   have:=ξ3u l j (by simpa using h);have e:mc (p::l)=.int .i64 p.a::.int .i64 p.b::.int .i64 p.c::mc l:=rfl;rw[e,show(j+1)*3=j*3+1+1+1 by omega];simpa using this
def Eds(w:World)(a:Option Addr)(l:List Ed):Prop:=∀j,j<l.length->∃b o,a=some ⟨b,o,none⟩/\w.cell? ⟨b,o+j*3,none⟩=some (.int .i64 (l.getD j zz).a)/\w.cell? ⟨b,o+j*3+1,none⟩=some (.int .i64 (l.getD j zz).b)/\w.cell? ⟨b,o+j*3+2,none⟩=some (.int .i64 (l.getD j zz).c)
def A1t(w:World)(a:Option Addr)(n:Nat)(l:List Ed):Prop:=Eds w a l/\l.length=n/\n<=9223372036854775807
theorem A1t.below(h:A1t w a n l)(hb:Below w.heap.size w w'):A1t w' a n l:=by
 refine⟨λj hj=>?_,h.2⟩;obtain⟨b,o,e,hc,hd,he⟩:=h.1 j hj;exact⟨b,o,e,(hb.cell (p:=⟨b,o+j*3,none⟩) (Ξq w _ hc)).trans hc,(hb.cell (p:=⟨b,o+j*3+1,none⟩) (Ξq w _ hd)).trans hd,(hb.cell (p:=⟨b,o+j*3+2,none⟩) (Ξq w _ he)).trans he⟩
theorem A1t.nil(w:World)(a:Option Addr):A1t w a 0 []:=⟨λj h=>absurd h (by simp),rfl,by omega⟩
theorem A1t.at(h:A1t w a n l)(hn:0<n):∃b o,a=some ⟨b,o,none⟩/\b<w.heap.size/\∀j,j<n->w.cell? ⟨b,o+j*3,none⟩=some (.int .i64 (l.getD j zz).a)/\w.cell? ⟨b,o+j*3+1,none⟩=some (.int .i64 (l.getD j zz).b)/\w.cell? ⟨b,o+j*3+2,none⟩=some (.int .i64 (l.getD j zz).c):=by
 obtain⟨b,o,e,h0,_⟩:=h.1 0 (by have:=h.2.1;omega);refine⟨b,o,e,Ξq w _ h0,λj hj=>?_⟩;obtain⟨b',o',e',hc⟩:=h.1 j (by have:=h.2.1;omega);rw[e,Option.some.injEq,Addr.mk.injEq]at e';obtain⟨rfl,rfl,_⟩:=e';exact hc
theorem ξ8v(h:w.ownsRow base 87 3 v n (mc l))(hn:n<=9223372036854775807) :
 ∃a cap,v=.slice a n cap/\A1t w a n l/\(a=none->n=0/\cap=0)/\n<=cap/\∀ad,a=some ad->∃g,ad=⟨g,0,none⟩/\base<=g/\g<w.heap.size:=by
 have hl:l.length=n:=by have:=h.1;rw[ξ4H]at this;omega
 rcases h.2 with⟨rfl,rfl⟩|⟨g,cap,cur,rfl,hg,hb,hc,hm,hs,ht⟩
 ·have:l=[]:=Ξk hl;subst this;exact⟨none,0,rfl,A1t.nil _ _,λ_=>⟨rfl,rfl⟩,Ξo _,λad e=>by simp at e⟩
 ·refine⟨_,cap,rfl,⟨λj hj=>⟨g,0,rfl,?_,?_,?_⟩,hl,hn⟩,λe=>by simp at e,hc,λad e=>⟨g,by simpa using e.symm,hg,lt_of_block hb⟩⟩
  ·rw[Nat.zero_add,h.cellAt (j*3) (by omega),(ξ3u l j hj).1]
  ·rw[Nat.zero_add,h.cellAt (j*3+1) (by omega),(ξ3u l j hj).2.1]
  ·rw[Nat.zero_add,h.cellAt (j*3+2) (by omega),(ξ3u l j hj).2.2]
def A3t(w:World)(B:Nat)(m:Ed):Prop:=w.heap[B]?=some (.cells #[.int .i64 m.a,.int .i64 m.b,.int .i64 m.c] 87 (0,0))
theorem A3t.new(w:World)(m:Ed):A3t (w.alloc (.cells #[.int .i64 m.a,.int .i64 m.b,.int .i64 m.c] 87)) w.heap.size m:=heap_alloc_new w _
theorem A3t.lt(h:A3t w B m):B<w.heap.size:=lt_of_block h
theorem A3t.cells(h:A3t w B m):w.cell? ⟨B,0,none⟩=some (.int .i64 m.a)/\w.cell? ⟨B,1,none⟩=some (.int .i64 m.b)/\w.cell? ⟨B,2,none⟩=some (.int .i64 m.c):=by
 unfold A3t at h;refine⟨?_,?_,?_⟩<;>simp[World.cell?,h]
theorem A3t.below{C:Nat}(h:A3t w B m)(hb:Below C w w')(hB:B<C):A3t w' B m:=(hb.block B hB).trans h
theorem ξm(n x:Int)(w:World):Calls prog 54 #[.int .i64 n,.int .i64 x] w λe w'=>e=.returned (.bool (isn n x))/\w'=w:=by
 by_cases h:0<=x
 ·have d:decide (0<=x)=true:=by simpa using h
  by_cases h2:x<n
  ·have d2:decide (x<n)=true:=by simpa using h2
   have HE:Hid (isn n x=true):=decide_eq_true ⟨h,h2⟩;generalize isn n x=r at *;go_enter func54,ntmps54;go_wp2_with fail
   go_ret;exact⟨by rw[HE.out];rfl,rfl⟩
  ·have d2:decide (x<n)=false:=by simpa using h2
   have HE:Hid (isn n x=false):=decide_eq_false (by omega);generalize isn n x=r at *;go_enter func54,ntmps54;go_wp2_with fail
   go_ret;exact⟨by rw[HE.out];rfl,rfl⟩
 ·have d:decide (0<=x)=false:=by simpa using h
  have HE:Hid (isn n x=false):=decide_eq_false (by omega);generalize isn n x=r at *;go_enter func54,ntmps54;go_wp2_with fail
  go_ret;exact⟨by rw[HE.out];rfl,rfl⟩
theorem ξ7a(n:Int)(m:Ed)(w:World):Calls prog 50 #[.int .i64 n,mv m] w λe w'=>e=.returned (.bool (okE n m))/\Below w.heap.size w w':=by
 obtain⟨a,b,c⟩:=m;have HB:Hid (∀O,Below w.heap.size w (w.alloc O)):=λO=>ξ9 (Ξp _ _) _;have C1:=ξ0 (λw=>ξm n a w);have C2:=ξ0 (λw=>ξm n b w);by_cases h1:0<=a/\a<n
 ·rw[show isn n a=true from decide_eq_true h1]at C1;by_cases h2:0<=b/\b<n
  ·rw[show isn n b=true from decide_eq_true h2]at C2;by_cases h3:a=b
   ·subst h3;have HE:Hid (okE n ⟨a,a,c⟩=false):=by unfold Hid;simp[okE]
    generalize okE n ⟨a,a,c⟩=r at *;unfold mv;go_enter func50,ntmps50;go_wp2_with fail
    refine(C1.out _).mono ?_;rintro e w1 ⟨rfl,rfl⟩;go_wp2_with fail;refine(C2.out _).mono ?_;rintro e w1 ⟨rfl,rfl⟩;go_wp2_with fail;go_ret;exact⟨by rw[HE.out];rfl,HB.out _⟩
   ·have d3:(a != b)=true:=by simpa using h3
    by_cases h4:1<=c
    ·have d4:decide (1<=c)=true:=by simpa using h4
     by_cases h5:c<=1000000
     ·have d5:decide (c<=1000000)=true:=by simpa using h5
      have HE:Hid (okE n ⟨a,b,c⟩=true):=by unfold Hid;simp[okE];omega
      generalize okE n ⟨a,b,c⟩=r at *;unfold mv;go_enter func50,ntmps50;go_wp2_with fail
      refine(C1.out _).mono ?_;rintro e w1 ⟨rfl,rfl⟩;go_wp2_with fail;refine(C2.out _).mono ?_;rintro e w1 ⟨rfl,rfl⟩;go_wp2_with fail;go_ret;exact⟨by rw[HE.out];rfl,HB.out _⟩
     ·have d5:decide (c<=1000000)=false:=by simpa using h5
      have HE:Hid (okE n ⟨a,b,c⟩=false):=by unfold Hid;simp[okE];omega
      generalize okE n ⟨a,b,c⟩=r at *;unfold mv;go_enter func50,ntmps50;go_wp2_with fail
      refine(C1.out _).mono ?_;rintro e w1 ⟨rfl,rfl⟩;go_wp2_with fail;refine(C2.out _).mono ?_;rintro e w1 ⟨rfl,rfl⟩;go_wp2_with fail;go_ret;exact⟨by rw[HE.out];rfl,HB.out _⟩
    ·have d4:decide (1<=c)=false:=by simpa using h4
     have HE:Hid (okE n ⟨a,b,c⟩=false):=by unfold Hid;simp[okE];omega
     generalize okE n ⟨a,b,c⟩=r at *;unfold mv;go_enter func50,ntmps50;go_wp2_with fail
     refine(C1.out _).mono ?_;rintro e w1 ⟨rfl,rfl⟩;go_wp2_with fail;refine(C2.out _).mono ?_;rintro e w1 ⟨rfl,rfl⟩;go_wp2_with fail;go_ret;exact⟨by rw[HE.out];rfl,HB.out _⟩
  ·rw[show isn n b=false from decide_eq_false h2]at C2;have HE:Hid (okE n ⟨a,b,c⟩=false):=by unfold Hid;simp[okE];omega
   generalize okE n ⟨a,b,c⟩=r at *;unfold mv;go_enter func50,ntmps50;go_wp2_with fail
   refine(C1.out _).mono ?_;rintro e w1 ⟨rfl,rfl⟩;go_wp2_with fail;refine(C2.out _).mono ?_;rintro e w1 ⟨rfl,rfl⟩;go_wp2_with fail;go_ret;exact⟨by rw[HE.out];rfl,HB.out _⟩
 ·rw[show isn n a=false from decide_eq_false h1]at C1;have HE:Hid (okE n ⟨a,b,c⟩=false):=by unfold Hid;simp[okE];omega
  generalize okE n ⟨a,b,c⟩=r at *;unfold mv;go_enter func50,ntmps50;go_wp2_with fail
  refine(C1.out _).mono ?_;rintro e w1 ⟨rfl,rfl⟩;go_wp2_with fail;go_ret;exact⟨by rw[HE.out];rfl,HB.out _⟩
theorem ξ63(m x:Ed)(w:World):Calls prog 53 #[mv m,mv x] w λe w'=>e=.returned (.bool (two m x))/\Below w.heap.size w w':=by
 obtain⟨a,b,c⟩:=m;obtain⟨d,e,f⟩:=x;have HB:Hid (∀O1 O2,Below w.heap.size w ((w.alloc O1).alloc O2)):=λO1 O2=>ξ9 (ξ9 (Ξp _ _) _) _;have HE:Hid (two ⟨a,b,c⟩ ⟨d,e,f⟩=((a==d&&b==e)||(a==e&&b==d))):=by
  unfold Hid two;rw[Bool.eq_iff_iff];simp
 generalize two ⟨a,b,c⟩ ⟨d,e,f⟩=r at *;by_cases h1:a=d
 ·subst h1;by_cases h2:b=e
  ·subst h2;unfold mv;go_enter func53,ntmps53;go_wp2_with fail
   go_ret;exact⟨by rw[HE.out];simp,HB.out _ _⟩
  ·have ah:(b==e)=false:=by simpa using h2
   by_cases h3:a=e
   ·subst h3;unfold mv;go_enter func53,ntmps53;go_wp2_with fail
    go_ret;exact⟨by rw[HE.out];simp[h2],HB.out _ _⟩
   ·have ae:(a==e)=false:=by simpa using h3
    unfold mv;go_enter func53,ntmps53;go_wp2_with fail
    go_ret;exact⟨by rw[HE.out];simp[h2,h3],HB.out _ _⟩
 ·have ai:(a==d)=false:=by simpa using h1
  by_cases h3:a=e
  ·subst h3;unfold mv;go_enter func53,ntmps53;go_wp2_with fail
   go_ret;exact⟨by rw[HE.out];simp[h1],HB.out _ _⟩
  ·have ae:(a==e)=false:=by simpa using h3
   unfold mv;go_enter func53,ntmps53;go_wp2_with fail
   go_ret;exact⟨by rw[HE.out];simp[h1,h3],HB.out _ _⟩
theorem ξ4k(m e:Ed)(B:Nat)(w:World)(hb:A3t w B e):Calls prog 52 #[mv m,.pointer (some ⟨B,0,none⟩)] w λr w'=>r=.returned (.bool (two m e))/\Below w.heap.size w w':=by
 have C:=ξ0 (λw=>ξ63 m e w);have HB:Hid (∀O,Below w.heap.size w (w.alloc O)):=λO=>ξ9 (Ξp _ _) _;have ah:=hb.lt;obtain⟨c0,c1,c2⟩:=hb.cells;clear hb;obtain⟨a,b,c⟩:=m;obtain⟨d,e,f⟩:=e;unfold mv at C ⊢;generalize two ⟨a,b,c⟩ ⟨d,e,f⟩=r at *;go_enter func52,ntmps52;go_wp2_with fail
 refine(C.out _).mono ?_;rintro e w1 ⟨rfl,ae⟩;have HW:Hid (Below w.heap.size w w1):=by
  have h1:=HB.out (.cells #[.int .i64 a,.int .i64 b,.int .i64 c] 87);exact h1.trans (ae.mono (by simp))
 clear ae;go_wp2_with fail;go_ret;exact⟨rfl,HW.out⟩
theorem ξ9Q(a:Option Addr)(n cap:Nat)(L:List Ed)(B:Nat)(e:Ed)(w:World)(h:A1t w a n L)(hb:A3t w B e) :
 Calls prog 96 #[.slice a n cap,.func (.func 52) #[] #[.pointer (some ⟨B,0,none⟩)]] w λr w'=>∃i:Int,r=.returned (.int .i64 i)/\decide (0<=i)=L.any (λf=>two f e)/\Below w.heap.size w w':=by
 have hl:=h.2.1;have hn:=h.2.2;have HA:=ξ0 h;have HX:=ξ0 hb;clear h hb;obtain⟨q,hq⟩:=nm (L.any (λf=>two f e));have HQ:Hid ((L.drop 0).any (λf=>two f e)=q):=by unfold Hid;rw[List.drop_zero];exact hq
 rw[hq];clear hq;go_enter func96,ntmps96;go_wp2_with fail
 go_loopg [8] n (λg x wr=>∃j:Nat,j+g=n/\x=.int .i64 (j:Int)/\Hid ((L.drop j).any (λf=>two f e)=q)/\Hid (Below w.heap.size w wr))
 case atStart=>exact⟨0,by omega,rfl,HQ,Ξp _ _⟩
 case round=>
  obtain⟨j,am,rfl,HK,HW⟩:=hrel;by_cases hj:j<n
  ·have aj:(j:Int)<(n:Int):=by omega
   obtain⟨b,o,rfl,aq,ai⟩:=(HA.out.below HW.out).at (by omega);obtain⟨c0,c1,c2⟩:=ai j hj;have hk:=HK.out;rw[ξ2s (by omega),List.any_cons]at hk;have C:=ξ0 (λm=>ξ4k m e B wr (HX.out.below HW.out HX.out.lt));obtain⟨m,hm⟩:=nm (L.getD j zz);rw[hm]at c0 c1 c2 hk;have C:=ξ0 (C.out m);clear hm ai HK;obtain⟨x,y,u⟩:=m;simp only[mv]at c0 c1 c2 C;cases ht:two ⟨x,y,u⟩ e with
   | true=>
     rw[ht]at C hk;simp only[Bool.true_or]at hk;have HK:=ξ0 hk;clear hk ht;go_wp2_with fail;refine C.out.mono ?_;rintro r w1 ⟨rfl,ae⟩;have ah:Hid (Below w.heap.size w w1):=HW.out.trans (ae.mono HW.out.size);clear ae;go_wp2_with fail;go_ret;exact⟨(j:Int),rfl,by rw[<-HK.out];simp,ah.out⟩
   | false=>
     rw[ht]at C hk;simp only[Bool.false_or]at hk;have HK:=ξ0 hk;clear hk ht;go_wp2_with fail;refine C.out.mono ?_;rintro r w1 ⟨rfl,ae⟩;have ah:Hid (Below w.heap.size w w1):=HW.out.trans (ae.mono HW.out.size);clear ae;go_wp2_with fail;go_roundg (n-(j+1))
     case measure=>omega
     case rel=>exact⟨j+1,by omega,by go_num,HK,ah⟩
  ·have aj:¬(j:Int)<(n:Int):=by omega
   have hk:=HK.out;rw[List.drop_eq_nil_of_le (by omega),List.any_nil]at hk;have HK:=ξ0 hk;clear hk;go_wp2_with fail;go_ret;exact⟨-1,rfl,by rw[<-HK.out];simp,HW.out⟩
theorem ξ81(a:Option Addr)(n cap:Nat)(L:List Ed)(B:Nat)(e:Ed)(w:World)(h:A1t w a n L)(hb:A3t w B e) :
 Calls prog 51 #[.slice a n cap,.func (.func 52) #[] #[.pointer (some ⟨B,0,none⟩)]] w λr w'=>r=.returned (.bool (L.any (λf=>two f e)))/\Below w.heap.size w w':=by
 have C:=ξ0 (ξ9Q a n cap L B e w h hb);obtain⟨q,hq⟩:=nm (L.any (λf=>two f e));rw[hq]at C ⊢;clear hq h hb;go_enter func51,ntmps51;go_wp2_with fail
 refine C.out.mono ?_;rintro r w1 ⟨i,rfl,hi,ae⟩;have HW:=ξ0 ae;clear ae;cases q with
 | true=>
   go_wp2_with fail
   go_ret;exact⟨rfl,HW.out⟩
 | false=>
   go_wp2_with fail
   go_ret;exact⟨rfl,HW.out⟩
theorem A1t.take(h:A1t w a n L)(hj:j<=n):A1t w a j (L.take j):=by
 have hl:=h.2.1;refine⟨λi hi=>?_,by rw[List.length_take];omega,by have:=h.2.2;omega⟩;rw[List.length_take]at hi;have e:(L.take j).getD i zz=L.getD i zz:=by
  rw[Ξa,Ξa,List.getElem?_take,if_pos (by omega)]
 rw[e];exact h.1 i (by omega)
theorem ξa(N:Int)(a:Option Addr)(n cap:Nat)(L:List Ed)(w:World)(h:A1t w a n L)(hnc:n<=cap) :
 Calls prog 15 #[.int .i64 N,.slice a n cap] w λe w'=>e=.returned (A0a (ef N L))/\Below w.heap.size w w':=by
 have hl:=h.2.1;have hn:=h.2.2;have HA:=ξ0 h;clear h;by_cases h0:N<1
 ·have HE:Hid (ef N L=1):=by unfold Hid ef;rw[if_pos (by omega)]
  generalize ef N L=f at *;have d:decide (N<1)=true:=by simpa using h0
  go_enter func15,ntmps15;go_wp2_with fail
  go_ret;exact⟨by rw[HE.out];rfl,Ξp _ _⟩
 have d0:decide (N<1)=false:=by simpa using h0
 by_cases h00:16<N
 ·have HE:Hid (ef N L=1):=by unfold Hid ef;rw[if_pos (by omega)]
  generalize ef N L=f at *;have d:decide (16<N)=true:=by simpa using h00
  go_enter func15,ntmps15;go_wp2_with fail
  go_ret;exact⟨by rw[HE.out];rfl,Ξp _ _⟩
 have ay:decide (16<N)=false:=by simpa using h00
 by_cases h16:200<n
 ·have HE:Hid (ef N L=4):=by unfold Hid ef;rw[if_neg (by omega),if_pos (by omega)]
  generalize ef N L=f at *;have d:decide (200<(n:Int))=true:=by simp;omega
  go_enter func15,ntmps15;go_wp2_with fail
  go_ret;exact⟨by rw[HE.out];rfl,Ξp _ _⟩
 ·have HE:Hid (ck N (L.take 0) (L.drop 0)=ef N L):=by unfold Hid ef;rw[if_neg (by omega),if_neg (by omega),List.drop_zero,List.take_zero]
  generalize ef N L=f at *;have d:decide (200<(n:Int))=false:=by simp;omega
  go_enter func15,ntmps15;go_wp2_with fail
  go_loopg [20] n (λg x wr=>∃j:Nat,j+g=n/\x=.int .i64 (j:Int)/\Hid (ck N (L.take j) (L.drop j)=f)/\Hid (Below w.heap.size w wr))
  case atStart=>exact⟨0,by omega,rfl,HE,Ξp _ _⟩
  case round=>
   obtain⟨j,az,rfl,HK,HW⟩:=hrel;by_cases hj:j<n
   ·have au:(j:Int)<(n:Int):=by omega
    obtain⟨b,o,rfl,aA,aq⟩:=(HA.out.below HW.out).at (by omega);obtain⟨c0,c1,c2⟩:=aq j hj;have hk:=HK.out;have aj:=ξ5p (L:=L) (j:=j) (by omega);rw[ξ2s (by omega),ck]at hk;obtain⟨m,hm⟩:=nm (L.getD j zz);rw[hm]at c0 c1 c2 hk aj;clear hm aq HK;have C:=ξ0 (λw=>ξ7a N m w);have HB:Hid (∀O,Below w.heap.size w (wr.alloc O)):=λO=>ξ9 HW.out O;have HX:Hid (A3t (wr.alloc (.cells #[.int .i64 m.a,.int .i64 m.b,.int .i64 m.c] 87)) wr.heap.size m):=A3t.new wr m;have HT:=ξ0 aj;clear aj;obtain⟨x,y,u⟩:=m;simp only[mv]at c0 c1 c2 C HX;cases hok:okE N ⟨x,y,u⟩with
    | false=>
      rw[hok]at C hk;simp only[if_true]at hk;have HK:=ξ0 hk;clear hk hok;go_wp2_with fail;refine(C.out _).mono ?_;rintro e w1 ⟨rfl,ah⟩;have ae:Hid (Below w.heap.size w w1):=(HB.out _).trans (ah.mono (HB.out (.cells #[.int .i64 x,.int .i64 y,.int .i64 u] 87)).size);clear ah;go_wp2_with fail;go_ret;exact⟨by rw[<-HK.out];rfl,ae.out⟩
    | true=>
      rw[hok]at C hk;rw[if_neg (by simp)]at hk;go_wp2_with fail
      refine(C.out _).mono ?_;rintro e w1 ⟨rfl,ah⟩;have ae:Hid (Below w.heap.size w w1):=(HB.out _).trans (ah.mono (HB.out (.cells #[.int .i64 x,.int .i64 y,.int .i64 u] 87)).size);have aw:Hid (A3t w1 wr.heap.size ⟨x,y,u⟩):=HX.out.below ah HX.out.lt;have ax:=ξ0 ((HA.out.below ae.out).take (j:=j) (by omega));have C2:=ξ0 (ξ81 (some ⟨b,o,none⟩) j cap (L.take j) wr.heap.size ⟨x,y,u⟩ w1 ax.out aw.out);clear ah;cases ht:(L.take j).any (λf=>two f ⟨x,y,u⟩)with
      | true=>
        rw[ht]at C2 hk;simp only[if_true]at hk;have HK:=ξ0 hk;clear hk ht hok;go_wp2_with fail;refine C2.out.mono ?_;rintro e w2 ⟨rfl,ai⟩;have am:Hid (Below w.heap.size w w2):=ae.out.trans (ai.mono ae.out.size);clear ai;go_wp2_with fail;go_ret;exact⟨by rw[<-HK.out];rfl,am.out⟩
      | false=>
        rw[ht]at C2 hk;rw[if_neg (by simp),<-HT.out]at hk;have HK:=ξ0 hk;clear hk ht hok;go_wp2_with fail;refine C2.out.mono ?_;rintro e w2 ⟨rfl,ai⟩;have am:Hid (Below w.heap.size w w2):=ae.out.trans (ai.mono ae.out.size);clear ai;go_wp2_with fail;go_roundg (n-(j+1))
        case measure=>omega
        case rel=>exact⟨j+1,by omega,by go_num,HK,am⟩
   ·have au:¬(j:Int)<(n:Int):=by omega
    have hk:=HK.out;rw[List.drop_eq_nil_of_le (by omega),ck]at hk;have HK:=ξ0 hk;clear hk;go_wp2_with fail;go_ret;exact⟨by rw[<-HK.out];rfl,HW.out⟩
def A51(w:World)(B:Nat)(v:Value):Prop:=w.heap[B]?=some (.cells #[v] 35 (0,0))
theorem A51.new(w:World)(v:Value):A51 (w.alloc (.cells #[v] 35)) w.heap.size v:=heap_alloc_new w _
theorem A51.cell(h:A51 w B v):w.cell? ⟨B,0,none⟩=some v:=by
 unfold A51 at h;simp[World.cell?,h]
theorem A50{T:TypeId}(c0:Value):∀j u,[c0][j]?=some u->(w.alloc (.cells #[c0] T)).cell? ((⟨w.heap.size,0,none⟩:Addr).add j)=some u:=by
 intro j u hu;have:=World.news_of_block (w:=w.alloc (.cells #[c0] T)) (cs:=#[c0]) (t:=T) (fr:=(0,0)) (heap_alloc_new w _);exact this j u hu
theorem ξ3F(p:Int)(B n cap:Nat)(a:Option Addr)(P:List Int)(w:World)(hb:A51 w B (.slice a n cap))(hl:P.length=n):Calls prog 176 #[.int .i64 p,.pointer (some ⟨B,0,none⟩)] w λr w'=>r=.returned (.bool (bad P p))/\w'=w:=by
 have C:=ξ0 (λw=>ξm n p w);have hc:=hb.cell;clear hb;have HE:Hid (bad P p=(!decide (p=-1)&&!isn n p)):=by unfold Hid bad;rw[hl]
 generalize bad P p=r at *;clear hl;by_cases h1:p=-1
 ·subst h1;have ae:Hid (r=false):=by rw[HE.out];exact ξ0 (by simp)
  clear HE;go_enter func176,ntmps176;go_wp2_with fail
  go_ret;exact⟨by rw[ae.out];rfl,rfl⟩
 ·have ai:(p != -1)=true:=by simpa using h1
  obtain⟨b,ah⟩:=nm (isn (n:Int) p);rw[ah]at C;have ae:Hid (r=!b):=by rw[HE.out];exact ξ0 (by simp[h1,ah])
  clear HE ah;go_enter func176,ntmps176;go_wp2_with fail
  refine(C.out _).mono ?_;rintro e w1 ⟨rfl,rfl⟩;go_wp2_with fail;go_ret;exact⟨by rw[ae.out];rfl,rfl⟩
theorem ξdR{L:List Int}(h:j<L.length):L.drop j=dg L j::L.drop (j+1):=by
 rw[List.drop_eq_getElem_cons h];simp[dg,List.getD_eq_getElem?_getD,List.getElem?_eq_getElem h]
theorem ξ9P(a:Option Addr)(n cap:Nat)(P:List Int)(B:Nat)(w:World)(h:A0b w a n P)(hb:A51 w B (.slice a n cap)) :
 Calls prog 178 #[.slice a n cap,.func (.func 176) #[] #[.pointer (some ⟨B,0,none⟩)]] w λr w'=>∃i:Int,r=.returned (.int .i64 i)/\decide (0<=i)=P.any (bad P)/\w'=w:=by
 have hl:=h.2.1;have hn:=h.2.2;have HA:=ξ0 h;have HX:=ξ0 hb;clear h hb;obtain⟨q,hq⟩:=nm (P.any (bad P));have HQ:Hid ((P.drop 0).any (bad P)=q):=by unfold Hid;rw[List.drop_zero];exact hq
 rw[hq];clear hq;go_enter func178,ntmps178;go_wp2_with fail
 go_loopg [8] n (λg x wr=>∃j:Nat,j+g=n/\x=.int .i64 (j:Int)/\Hid ((P.drop j).any (bad P)=q)/\w=wr)
 case atStart=>exact⟨0,by omega,rfl,HQ,rfl⟩
 case round=>
  obtain⟨j,ai,rfl,HK,rfl⟩:=hrel;by_cases hj:j<n
  ·have ah:(j:Int)<(n:Int):=by omega
   obtain⟨b,o,rfl,ae⟩:=HA.out.at (by omega);have c0:=ae j hj;have hk:=HK.out;rw[ξdR (by omega),List.any_cons]at hk;have C:=ξ0 (ξ3F (dg P j) B n cap _ P w HX.out hl);obtain⟨m,hm⟩:=nm (dg P j);rw[hm]at c0 C hk;clear hm ae HK;cases ht:bad P m with
   | true=>
     rw[ht]at C hk;simp only[Bool.true_or]at hk;have HK:=ξ0 hk;clear hk ht;go_wp2_with fail;refine C.out.mono ?_;rintro r w1 ⟨rfl,rfl⟩;go_wp2_with fail;go_ret;exact⟨(j:Int),rfl,by rw[<-HK.out];simp,rfl⟩
   | false=>
     rw[ht]at C hk;simp only[Bool.false_or]at hk;have HK:=ξ0 hk;clear hk ht;go_wp2_with fail;refine C.out.mono ?_;rintro r w1 ⟨rfl,rfl⟩;go_wp2_with fail;go_roundg (n-(j+1))
     case measure=>omega
     case rel=>exact⟨j+1,by omega,by go_num,HK,rfl⟩
  ·have ah:¬(j:Int)<(n:Int):=by omega
   have hk:=HK.out;rw[List.drop_eq_nil_of_le (by omega),List.any_nil]at hk;have HK:=ξ0 hk;clear hk;go_wp2_with fail;go_ret;exact⟨-1,rfl,by rw[<-HK.out];simp,rfl⟩
theorem ξ80(a:Option Addr)(n cap:Nat)(P:List Int)(B:Nat)(w:World)(h:A0b w a n P)(hb:A51 w B (.slice a n cap)) :
 Calls prog 144 #[.slice a n cap,.func (.func 176) #[] #[.pointer (some ⟨B,0,none⟩)]] w λr w'=>r=.returned (.bool (P.any (bad P)))/\w'=w:=by
 have C:=ξ0 (ξ9P a n cap P B w h hb);obtain⟨q,hq⟩:=nm (P.any (bad P));rw[hq]at C ⊢;clear hq h hb;go_enter func144,ntmps144;go_wp2_with fail
 refine C.out.mono ?_;rintro r w1 ⟨i,rfl,hi,rfl⟩;cases q with
 | true=>
   go_wp2_with fail
   go_ret;exact⟨rfl,rfl⟩
 | false=>
   go_wp2_with fail
   go_ret;exact⟨rfl,rfl⟩
theorem ξa7(a:Option Addr)(n cap:Nat)(P:List Int)(x:Nat)(w:World)(h:A0b w a n P)(hR:Rng P)(hx:x<n) :
 Calls prog 177 #[.slice a n cap,.int .i64 (x:Int)] w λr w'=>r=.returned (.bool (en P x))/\w'=w:=by
 have hl:=h.2.1;have hn:=h.2.2;have HA:=ξ0 h;have HR:=ξ0 hR;clear h hR;have HQ:Hid (decide (anc P n (x:Int)=-1)=en P x):=by unfold Hid en;rw[hl]
 generalize en P x=q at *;go_enter func177,ntmps177;go_wp2_with fail
 go_loopg [1,7] n (λg u v wr=>∃j y k:Nat,j+g=n/\j+k=n/\y<n/\u=.int .i64 (y:Int)/\v=.int .i64 (j:Int)/\Hid (decide (anc P k (y:Int)=-1)=q)/\w=wr)
 case atStart=>exact⟨0,x,n,by omega,by omega,hx,rfl,rfl,HQ,rfl⟩
 case round=>
  obtain⟨j,y,k,ai,aj,hy,rfl,rfl,HK,rfl⟩:=hrel;by_cases hj:j<n
  ·have ah:(j:Int)<(n:Int):=by omega
   obtain⟨b,o,rfl,ae⟩:=HA.out.at (by omega);have c0:=ae y hy;have hk:=HK.out;obtain⟨g',rfl⟩:∃g',k=g'+1:=⟨k-1,by omega⟩;rw[anc,ξ2D]at hk;have hr:=HR.out y (by omega);obtain⟨m,hm⟩:=nm (dg P y);rw[hm]at c0 hk hr;clear hm ae HK;by_cases hm:m=-1
   ·subst hm;rw[ξ5m]at hk;have HK:Hid (q=true):=ξ0 (hk.symm.trans (by simp));clear hk hr;go_wp2_with fail;go_ret;exact⟨by rw[HK.out];rfl,rfl⟩
   ·obtain⟨z,rfl⟩:∃z:Nat,m=(z:Int):=⟨m.toNat,by omega⟩;have hz:z<n:=by omega
    have am:((z:Int)==-1)=false:=beq_eq_false_iff_ne.2 (by omega);have HK:=ξ0 hk;clear hk hr;go_wp2_with fail;go_roundg g'
    case measure=>omega
    case rel=>exact⟨j+1,z,g',by omega,by omega,hz,rfl,by go_num,HK,rfl⟩
  ·have ah:¬(j:Int)<(n:Int):=by omega
   have hk:=HK.out;obtain rfl:k=0:=by omega
   rw[anc]at hk;have HK:Hid (q=false):=ξ0 (hk.symm.trans (decide_eq_false (by omega)));clear hk;go_wp2_with fail;go_ret;exact⟨by rw[HK.out];rfl,rfl⟩
theorem ξ9j(h:j<n):(List.range n).drop j=j::(List.range n).drop (j+1):=by
 rw[List.drop_eq_getElem_cons (by simpa using h)];simp
theorem ξ67(a:Option Addr)(n cap:Nat)(P:List Int)(w:World)(h:A0b w a n P) :
 Calls prog 142 #[.slice a n cap] w λe w'=>e=.returned (A0a (pf P))/\Below w.heap.size w w':=by
 have hl:=h.2.1;have hn:=h.2.2;have HB:Hid (∀O,Below w.heap.size w (w.alloc O)):=λO=>ξ9 (Ξp _ _) O;obtain⟨w1,ah⟩:=nm (w.alloc (.cells #[.slice a n cap] 35));have ae:Hid (Below w.heap.size w w1):=by rw[<-ah];exact ξ0 (HB.out _)
 have hX:A51 w1 w.heap.size (.slice a n cap):=by rw[<-ah];exact A51.new _ _
 have HA:=ξ0 (h.below ae.out);have HX:=ξ0 hX;have hc:=hX.cell;have HC:=ξ0 (ξ80 a n cap P w.heap.size w1 HA.out hX);have ai:=ξ0 ah;clear h ah hX;by_cases h16:16<n
 ·have HE:Hid (pf P=4):=by unfold Hid pf;rw[if_pos (by omega)]
  generalize pf P=f at *;have d:decide (16<(n:Int))=true:=by simp;omega
  go_enter func142,ntmps142;go_upto_region 1 with fail
  rw[ai.out];go_wp2_with fail;go_ret;exact⟨by rw[HE.out];rfl,ae.out⟩
 ·have d:decide (16<(n:Int))=false:=by simp;omega
  cases hb:P.any (bad P)with
  | true=>
    have HE:Hid (pf P=1):=by unfold Hid pf;rw[if_neg (by omega),if_pos hb]
    rw[hb]at HC;generalize pf P=f at *;clear hb;go_enter func142,ntmps142;go_upto_region 1 with fail
    rw[ai.out];go_wp2_with fail;refine HC.out.mono ?_;rintro e w2 ⟨rfl,rfl⟩;go_wp2_with fail;go_ret;exact⟨by rw[HE.out];rfl,ae.out⟩
  | false=>
    have HR:=ξ0 (ξ5l.1 hb);have HE:Hid ((if ((List.range n).drop 0).any (λx=>!en P x)=true then 3 else 0)=pf P):=ξ0 (Eq.symm (by unfold pf;rw[if_neg (by omega),hb,if_neg (by simp),List.drop_zero,hl]));rw[hb]at HC;generalize pf P=f at *;clear hb;go_enter func142,ntmps142;go_upto_region 1 with fail
    rw[ai.out];go_wp2_with fail;refine HC.out.mono ?_;rintro e w2 ⟨rfl,rfl⟩;go_wp2_with fail;go_loopg [14] n (λg x wr=>∃j:Nat,j+g=n/\x=.int .i64 (j:Int)/\Hid ((if ((List.range n).drop j).any (λx=>!en P x)=true then 3 else 0)=f)/\w2=wr)
    case atStart=>exact⟨0,by omega,rfl,HE,rfl⟩
    case round=>
     obtain⟨j,am,rfl,HK,rfl⟩:=hrel;by_cases hj:j<n
     ·have aj:(j:Int)<(n:Int):=by omega
      have hk:=HK.out;rw[ξ9j hj,List.any_cons]at hk;have C:=ξ0 (ξa7 a n cap P j w2 HA.out HR.out hj);cases ht:en P j with
      | true=>
        rw[ht]at C hk;simp only[Bool.not_true,Bool.false_or]at hk;have HK:=ξ0 hk;clear hk ht;go_wp2_with fail;refine C.out.mono ?_;rintro r w1 ⟨rfl,rfl⟩;go_wp2_with fail;go_roundg (n-(j+1))
        case measure=>omega
        case rel=>exact⟨j+1,by omega,by go_num,HK,rfl⟩
      | false=>
        rw[ht]at C hk;simp only[Bool.not_false,Bool.true_or,if_true]at hk;have HK:=ξ0 hk;clear hk ht;go_wp2_with fail;refine C.out.mono ?_;rintro r w1 ⟨rfl,rfl⟩;go_wp2_with fail;go_ret;exact⟨by rw[<-HK.out];rfl,ae.out⟩
     ·have aj:¬(j:Int)<(n:Int):=by omega
      have hk:=HK.out;rw[List.drop_eq_nil_of_le (by simp;omega),List.any_nil,if_neg (by simp)]at hk;have HK:=ξ0 hk;clear hk;go_wp2_with fail;go_ret;exact⟨by rw[<-HK.out];rfl,ae.out⟩
theorem ξ7x(a:Option Addr)(n cap:Nat)(P:List Int)(x:Int)(w:World)(h:A0b w a n P) :
 Calls prog 109 #[.slice a n cap,.int .i64 x] w λe w'=>e=.returned (A0a (bf P x))/\Below w.heap.size w w':=by
 have hl:=h.2.1;have C:=ξ0 (ξ67 a n cap P w h);have C2:=ξ0 (λw=>ξm n x w);have HE:Hid (bf P x=if pf P≠0 then pf P else if isn n x=false then 1 else 0):=by unfold Hid bf;rw[hl]
 generalize bf P x=r at *;clear h hl;by_cases h0:pf P=0
 ·rw[h0,ξ4]at C;rw[if_neg (by simpa using h0)]at HE;clear h0;cases hi:isn (n:Int) x with
  | true=>
    rw[hi]at C2;rw[hi,if_neg (by simp)]at HE;clear hi;go_enter func109,ntmps109;go_wp2_with fail
    refine C.out.mono ?_;rintro e w1 ⟨rfl,ae⟩;have HW:=ξ0 ae;clear ae;go_wp2_with fail;refine(C2.out _).mono ?_;rintro e w2 ⟨rfl,rfl⟩;go_wp2_with fail;go_ret;exact⟨by rw[HE.out];rfl,HW.out⟩
  | false=>
    rw[hi]at C2;rw[hi,if_pos rfl]at HE;clear hi;go_enter func109,ntmps109;go_wp2_with fail
    refine C.out.mono ?_;rintro e w1 ⟨rfl,ae⟩;have HW:=ξ0 ae;clear ae;go_wp2_with fail;refine(C2.out _).mono ?_;rintro e w2 ⟨rfl,rfl⟩;go_wp2_with fail;go_ret;exact⟨by rw[HE.out];rfl,HW.out⟩
 ·rw[if_pos (by simpa using h0)]at HE;rw[ξb h0]at C;have ah:Hid (A0a r=.iface 101 (.int .i64 (pf P:Int))):=by rw[HE.out];exact ξ0 (ξb h0)
  generalize pf P=f at *;clear HE h0;go_enter func109,ntmps109;go_wp2_with fail
  refine C.out.mono ?_;rintro e w1 ⟨rfl,ae⟩;have HW:=ξ0 ae;clear ae;go_wp2_with fail;go_ret;exact⟨by rw[ah.out];rfl,HW.out⟩
structure NSt(w wr:World)(K:List Int)(v:Value):Prop where
 below:Below w.heap.size w wr
 own:wr.ownsRow w.heap.size 3 1 v K.length (ic K)
def kl(P:List Int)(x:Int):List Int:=if bf P x=0 then kd P x P.length else[]
theorem ξ9L(a:Option Addr)(n cap:Nat)(P:List Int)(x:Int)(w:World)(h:A0b w a n P) :
 Calls prog 84 #[.slice a n cap,.int .i64 x] w λe w'=>∃v,e=.returned (.tuple #[v,A0a (bf P x)])/\w'.ownsRow w.heap.size 3 1 v (kl P x).length (ic (kl P x))/\Below w.heap.size w w':=by
 have hl:=h.2.1;have C:=ξ0 (ξ7x a n cap P x w h);have HA:=ξ0 h;clear h;by_cases h0:bf P x=0
 ·have aH:n<=16:=by have:=(ξfx h0).1.len;omega
  have aj:kl P x=kd P x n:=by unfold kl;rw[if_pos h0,hl]
  rw[aj,h0];rw[h0]at C;clear aj h0;rw[ξ4]at C ⊢;obtain⟨i0,ax,ay,az,aA⟩:=info_parts info3;go_enter func84,ntmps84;go_wp2_with fail
  refine C.out.mono ?_;rintro e w1 ⟨rfl,ai⟩;have HW:=ξ0 ai;have aC:=ξ0 (HA.out.below ai);clear ai;have aD:Hid (NSt w w1 (kd P x 0) (.slice none 0 0)):=⟨HW.out,Ξr _ _ _ _⟩;go_wp2_with fail
  go_loopg [7,18] n (λg u y wr=>∃(i:Nat) (v:Value),i+g=n/\v=u/\y=.int .i64 (i:Int)/\Hid (NSt w wr (kd P x i) v)/\Hid (A0b wr a n P))
  case atStart=>exact⟨0,_,by omega,rfl,rfl,aD,aC⟩
  case round=>
   obtain⟨i,v,aI,rfl,rfl,HS,au⟩:=hrel;by_cases hi:i<n
   ·have aE:(i:Int)<(n:Int):=by omega
    obtain⟨b,o,rfl,aw⟩:=au.out.at (by omega);have c0:=aw i hi;have ah:=ξ8J P x i;obtain⟨m,hm⟩:=nm (dg P i);rw[hm]at c0 ah;clear hm aw;by_cases he:m=x
    ·subst he;rw[if_pos rfl]at ah;have HT:=ξ0 ah;clear ah;have aF:=ξ76 P m i;go_wp2_with (at_builtin;refine wpList_append_own _ rfl _ _ 35 rfl w.heap.size 3 i0 _ 1 8 underlying35 ax ay az aA rfl (by decide) _ (kd P m i).length (ic (kd P m i)) rfl (HS.out.own.alloc _) ⟨wr.heap.size,0,none⟩ 1 1 [.int .i64 (i:Int)] rfl rfl ?cc ?one ?b1 ?b2 ?b3 ?next)
     case cc=>exact A50 _
     case one=>simp[Value.oneCell']
     case b1=>unfold maxLen;omega
     case b2=>omega
     case b3=>have:=HS.out.below.size;simp;omega
     case next=>
     intro v3 w' am ae _;have aG:Hid (A0b w' (some ⟨b,o,none⟩) n P):=by
      have hs:=HS.out.below.size;exact HA.out.below ((HS.out.below.alloc hs _).grown ae (by simp;omega) (λj hj=>(HS.out.own.lt j hj).1))
     have aq:Hid (NSt w w' (kd P m (i+1)) v3):=by
      have hs:=HS.out.below.size;refine⟨(HS.out.below.alloc hs _).grown ae (by simp;omega) (λj hj=>(HS.out.own.lt j hj).1),?_⟩;rw[HT.out,Ξh];have e:ic (kd P m i++[(i:Int)])=ic (kd P m i)++[.int .i64 (i:Int)]:=by simp[ic]
      rw[e];exact am
     clear am ae;go_wp2_with fail;go_roundg (n-(i+1))
     case measure=>omega
     case rel=>exact⟨i+1,v3,by omega,rfl,by go_num,aq,aG⟩
    ·rw[if_neg he]at ah;have aJ:(m==x)=false:=by simpa using he
     have aq:Hid (NSt w wr (kd P x (i+1)) v):=by rw[ah];exact HS
     clear ah;go_wp2_with fail;go_roundg (n-(i+1))
     case measure=>omega
     case rel=>exact⟨i+1,v,by omega,rfl,by go_num,aq,au⟩
   ·have aE:¬(i:Int)<(n:Int):=by omega
    obtain rfl:i=n:=by omega
    go_wp2_with fail
    go_ret2;exact⟨v,rfl,HS.out.own,HS.out.below⟩
 ·have aj:kl P x=[]:=by unfold kl;rw[if_neg h0]
  rw[aj];clear aj;rw[ξb h0]at C ⊢;generalize bf P x=f at *;go_enter func84,ntmps84;go_wp2_with fail
  refine C.out.mono ?_;rintro e w1 ⟨rfl,ai⟩;have HW:=ξ0 ai;clear ai;go_wp2_with fail;go_ret2;exact⟨_,rfl,Ξr _ _ _ _,HW.out⟩
theorem A81(hn:n<=16):n=0∨n=1∨n=2∨n=3∨n=4∨n=5∨n=6∨n=7∨n=8∨n=9∨n=10∨n=11∨n=12∨n=13∨n=14∨n=15∨n=16:=by omega
theorem ξ7M(n:Nat)(hn:n<=16)(w:World):Calls prog 168 #[.int .u64 1,.int .u64 (n:Int)] w λe w'=>e=.returned (.tuple #[.int .u64 0,.int .u64 (n:Int)])/\w'=w:=by
 have h1:bits .and .u64 (n:Int) 4294967295=(n:Int):=by
  rcases A81 hn with rfl|rfl|rfl|rfl|rfl|rfl|rfl|rfl|rfl|rfl|rfl|rfl|rfl|rfl|rfl|rfl|rfl<;>rfl
 go_enter func168,ntmps168;go_wp2_with fail
 go_ret2;clear h1;refine⟨?_,rfl⟩;rcases A81 hn with rfl|rfl|rfl|rfl|rfl|rfl|rfl|rfl|rfl|rfl|rfl|rfl|rfl|rfl|rfl|rfl|rfl<;>rfl
theorem ξbo(n:Nat)(hn:n<=16)(w:World):Calls prog 127 #[.int .u64 1,.int .u64 (n:Int)] w λe w'=>e=.returned (.tuple #[.int .u64 0,.int .u64 (n:Int)])/\w'=w:=by
 have C:=ξ0 (ξ7M n hn w);go_enter func127,ntmps127;go_wp2_with fail
 refine C.out.mono ?_;rintro e w1 ⟨rfl,rfl⟩;go_wp2_with fail;go_ret2;exact⟨rfl,rfl⟩
def A63(w:World)(g:Nat)(L:List Int):Prop:=w.heap[g]?=some (.cells (ic L).toArray 3 (0,0))
theorem A63.own{L:List Int}(h:A63 w g L)(hb:base<=g)(hn:L.length<=1000):w.ownsRow base 3 1 (.slice (some ⟨g,0,none⟩) L.length L.length) L.length (ic L):=
 ⟨by rw[ξE,Nat.mul_one],.inr ⟨g,L.length,_,rfl,hb,h,Ξo _,by unfold maxLen;omega,by simp[ξE],by show(ic L).take _=_;rw[Ξl (by rw[ξE];omega)]⟩⟩
theorem ξ4T{P:Program}(w:World)(dT sT ty elem:TypeId)(g o dLen dCap:Nat)(a:Addr)(sLen sCap sz k:Nat)(cur:Array Value)(t:TypeId)(cs:List Value)
 (hu:P.underlying dT=some (.slice elem)) (hs:(P.info? elem).map (·.size)=some sz)
 (hg:w.heap[g]?=some (.cells cur t (0,0))) (hk:Nat.min sLen dLen=k) (hn:cs.length=k*sz)
 (hsrc:∀j v,cs[j]?=some v->w.cell? (a.add j)=some v) (hfit:o+cs.length<=cur.size) (h1:∀v∈cs,v.oneCell'=true) :
 (Builtin.copy_ #[dT,sT] ty #[.slice (some ⟨g,o,none⟩) dLen dCap,.slice (some a) sLen sCap]).run P w =
  .ok (goInt k) (w.setRow g (cur.toList.take o++cs++cur.toList.drop (o+cs.length)).toArray):=by
 have hl:=run_loadCells_list (P:=P) w a cs hsrc;have ae:=run_storeCells_at P g o t cs 0 cur w hg (by simpa using hfit) h1;cases hq:P.info? elem with
 | none=>simp[hq]at hs
 | some i=>
   have hi:i.size=sz:=by simpa[hq]using hs
   simp[Builtin.copy_,run_underlying hu,Builtin.lenOf,Builtin.firstCells,sizeOf,typeInfo,hq,hi,hk,<-hn,hl,ae]
def rz(c n:Nat):List Int:=List.replicate c (-1)++List.replicate (n-c) 0
theorem ξ4x(h:c<=n):(rz c n).length=n:=by simp[rz];omega
theorem ξfW(n:Nat):rz n n=List.replicate n (-1):=by simp[rz]
theorem ξ2L(n:Nat)(x:Int):ic (List.replicate n x)=List.replicate n (.int .i64 x):=by simp[ic]
theorem ξ8o(h:c+k<=n):(ic (rz c n)).take c++List.replicate k (.int .i64 (-1))++(ic (rz c n)).drop (c+k)=ic (rz (c+k) n):=by
 unfold rz;rw[ξ2M,ξ2M,ξ2L,ξ2L,ξ2L,ξ2L,List.take_left' (by simp),<-List.drop_drop,List.drop_left' (by simp),List.drop_replicate,List.replicate_append_replicate]
 congr 2
 omega
theorem B0n:(prog.info? 3).map (·.size)=some 1:=by kernel_rfl
theorem ξf1(n:Nat):madeCells #[Value.int .i64 0] n=(ic (rz 0 n)).toArray:=by
 apply Array.toList_inj.1;rw[toList_madeCells_one];simp[rz,ξ2L]
theorem ξ3W{L K:List Int}(h:A63 w g L):A63 (w.setRow g (ic K).toArray) g K:=setRow_heap _ g _ _ 3 _ h
theorem below_setRow(h:Below w.heap.size w wr)(hg:w.heap.size<=g)(c:Array Value):Below w.heap.size w (wr.setRow g c):=
 ⟨h.os,h.tape,h.output,by have:=h.size;simpa using this,λk hk=>(setRow_other _ g k _ (by omega)).trans (h.block k hk)⟩
theorem ξ5x(g0 n:Nat)(w:World)(h0:w.heap[g0]?=some (.cells #[.int .i64 (-1)] 3 (0,0)))(h1:1<=n)(hn:n<=16) :
 Calls prog 97 #[.slice (some ⟨g0,0,none⟩) 1 1,.int .i64 (n:Int)] w λe w'=>∃g,e=.returned (.slice (some ⟨g,0,none⟩) n n)/\w'.ownsRow w.heap.size 3 1 (.slice (some ⟨g,0,none⟩) n n) n (ic (List.replicate n (-1)))/\Below w.heap.size w w':=by
 have C:=ξ0 (ξbo n hn w);obtain⟨w1,ah⟩:=nm (w.alloc (.cells (madeCells #[.int .i64 0] n) 3));obtain⟨i0,ax,ay,az,aA⟩:=info_parts info3;have aH:(Instr.makeSlice 35 (.int .i64 (n:Int)) (.int .i64 (n:Int))).run prog w=.ok (.slice (some ⟨w.heap.size,0,none⟩) n n) w1:=by
  have:=run_make (P:=prog) w 35 3 i0 _ underlying35 ax ay .i64 .i64 (n:Int) (n:Int) (by omega) (by omega) (by rw[aA];omega) (by omega);rw[Int.toNat_natCast,az,Nat.mul_one]at this;rw[<-ah];exact this
 clear ax ay az aA;have aq:Below w.heap.size w w1:=by rw[<-ah];exact ξ9 (Ξp _ _) _
 have au:A63 w1 w.heap.size (rz 0 n):=by rw[<-ah,ξf1];exact heap_alloc_new w _
 have aC:w1.heap[g0]?=some (.cells #[.int .i64 (-1)] 3 (0,0)):=(aq.block g0 (lt_of_block h0)).trans h0;have aw:∀ty,(Builtin.copy_ #[35,35] ty #[.slice (some ⟨w.heap.size,0,none⟩) n n,.slice (some ⟨g0,0,none⟩) 1 1]).run prog w1=.ok (goInt ((1:Nat):Int)) (w1.setRow w.heap.size (ic (rz 1 n)).toArray):=λty=>by
  have:=ξ4T (P:=prog) w1 35 35 ty 3 w.heap.size 0 n n ⟨g0,0,none⟩ 1 1 1 1 _ 3 [.int .i64 (-1)] underlying35 B0n au (by simp only[Nat.min_def];split<;>omega) rfl (World.news_of_block aC) (by simp[ξE,ξ4x];omega) (by simp[Value.oneCell']);have e:=ξ8o (c:=0) (k:=1) (n:=n) (by omega);rw[this]
  congr 2
  rw[<-e];rfl
 obtain⟨w2,ai⟩:=nm (w1.setRow w.heap.size (ic (rz 1 n)).toArray);have aj:Hid (Below w.heap.size w w2):=by rw[<-ai];exact ξ0 (below_setRow aq (Ξo _) _)
 have am:Hid (A63 w2 w.heap.size (rz 1 n)):=by rw[<-ai];exact ξ0 (ξ3W au)
 rw[ai]at aw;clear ah ai au aC aq h0;have dn:decide ((n:Int)<0)=false:=by simp
 go_enter func97,ntmps97;go_wp2_with fail
 refine C.out.mono ?_;rintro e w' ⟨rfl,rfl⟩;go_wp2_with fail;go_loopg [8] n (λg x wr=>∃c:Nat,n-c<=g/\c<=n/\1<=c/\x=.int .i64 (c:Int)/\Hid (A63 wr w'.heap.size (rz c n))/\Hid (Below w'.heap.size w' wr))
 case atStart=>exact⟨1,by omega,by omega,by omega,rfl,am,aj⟩
 case round=>
  obtain⟨c,aI,aJ,aL,rfl,HR,HB⟩:=hrel;by_cases hc:c<n
  ·have aD:(c:Int)<(n:Int):=by omega
   have aM:¬n=c:=by omega
   obtain⟨k,hk,aO,aE⟩:∃k,Nat.min c (n-c)=k/\1<=k/\c+k<=n:=⟨_,rfl,by simp only[Nat.min_def];split<;>omega,by simp only[Nat.min_def];split<;>omega⟩;have aP:k<=c:=by rw[<-hk];exact Nat.min_le_left _ _
   have aF:∀ty dc sc,(Builtin.copy_ #[35,35] ty #[.slice (some ⟨w'.heap.size,c,none⟩) (n-c) dc,.slice (some ⟨w'.heap.size,0,none⟩) c sc]).run prog wr.drew=.ok (goInt (k:Int)) (wr.drew.setRow w'.heap.size (ic (rz (c+k) n)).toArray):=λty dc sc=>by
    have:=ξ4T (P:=prog) wr.drew 35 35 ty 3 w'.heap.size c (n-c) dc ⟨w'.heap.size,0,none⟩ c sc 1 k _ 3 (List.replicate k (.int .i64 (-1))) underlying35 B0n HR.out hk (by simp) (λj v hj=>?_) (by simp[ξE,ξ4x (Nat.le_of_lt hc)];omega) (by simp[Value.oneCell'])
    ·have e:=ξ8o (c:=c) (k:=k) (n:=n) aE;rw[this]
     congr 2
     rw[<-e,List.length_replicate]
    ·have aG:j<k:=by
      rcases Nat.lt_or_ge j k with h|h
      ·exact h
      ·rw[List.getElem?_eq_none (by simpa using h)]at hj;simp at hj
     rw[add_plain,Nat.zero_add];show wr.cell? _=_;have ae:=cell_of_row wr w'.heap.size j _ 3 (0,0) HR.out;rw[ae,<-hj];simp only[List.getElem?_toArray];unfold rz;rw[ξ2M,ξ2L,Ξt (by simp;omega),List.getElem?_replicate,List.getElem?_replicate,if_pos (by omega),if_pos aG]
   have am:Hid (A63 (wr.drew.setRow w'.heap.size (ic (rz (c+k) n)).toArray) w'.heap.size (rz (c+k) n)):=ξ3W (w:=wr.drew) HR.out;have aj:Hid (Below w'.heap.size w' (wr.drew.setRow w'.heap.size (ic (rz (c+k) n)).toArray)):=below_setRow (HB.out.drew) (Ξo _) _;obtain⟨W,hW⟩:=nm (wr.drew.setRow w'.heap.size (ic (rz (c+k) n)).toArray);rw[hW]at aF am aj;clear hW hk;go_wp2_with fail;go_region
   go_wp2_with fail
   go_roundg (n-(c+k))
   case measure=>omega
   case rel=>exact⟨c+k,by omega,by omega,by omega,by go_num,am,aj⟩
  ·have aD:¬(c:Int)<(n:Int):=by omega
   obtain rfl:c=n:=by omega
   have ho:=HR.out.own (base:=w'.heap.size) (Ξo _) (by rw[ξ4x (Ξo _)];omega);rw[ξ4x (Ξo _),ξfW]at ho;have HO:=ξ0 ho;clear ho;go_wp2_with fail;go_ret;exact⟨w'.heap.size,rfl,HO.out,HB.out⟩
theorem ξ4F{L:List Int}(h:w.ownsRow base 3 1 (.slice (some ⟨g,0,none⟩) n cap) n (ic L))(hj:j<n):w.cell? ⟨g,j,none⟩=some (.int .i64 (dg L j)):=by
 have hl:L.length=n:=by have:=h.1;rw[ξE]at this;omega
 rw[h.cellAt j (by omega),ξ22 L j (by omega)]
theorem ξ5b{L:List Int}(h:w.ownsRow base 3 1 (.slice (some ⟨g,0,none⟩) n cap) n (ic L))(j:Nat)(x:Int):(w.setCell ⟨g,j,none⟩ (.int .i64 x)).ownsRow base 3 1 (.slice (some ⟨g,0,none⟩) n cap) n (ic (L.set j x)):=by
 have:=(h.stored j (.int .i64 x)).1;rwa [show(ic L).set j (.int .i64 x)=ic (L.set j x)by simp[ic]]at this
theorem ξ4E{L:List Int}(h:w.ownsRow base 3 1 v n (ic L)):L.length=n:=by have:=h.1;rw[ξE]at this;omega
def Mat(C:Array Value)(F:Nat->Nat->Int):Prop:=C.size=256/\∀x y,x<16->y<16->C[x*16+y]?=some (.int .i64 (F x y))
theorem Mat.one(h:Mat C F):C.all (·.oneCell')=true:=by
 rw[Array.all_eq_true];intro i hi;have h1:=h.2 (i/16) (i%16) (by have:=h.1;omega) (Nat.mod_lt _ (by omega));rw[show i/16*16+i%16=i by omega,Array.getElem?_eq_getElem hi,Option.some.injEq]at h1;rw[h1];rfl
theorem Mat.ext(h:Mat C F)(e:∀x y,x<16->y<16->F x y=G x y):Mat C G:=
 ⟨h.1,λx y hx hy=>by rw[<-e x y hx hy];exact h.2 x y hx hy⟩
theorem Mat.set(h:Mat C F){a:Nat}(ha:a<16)(hb:b<16)(v:Int):Mat (C.setIfInBounds (a*16+b) (.int .i64 v)) (λx y=>if x=a/\y=b then v else F x y):=by
 refine⟨by simpa using h.1,λx y hx hy=>?_⟩;rw[Ξb];show _=some (Value.int .i64 (if x=a/\y=b then v else F x y));by_cases e:a*16+b=x*16+y
 ·rw[if_pos e,if_pos (by have:=h.1;omega),if_pos (by omega)]
 ·rw[if_neg e,h.2 x y hx hy,if_neg (by omega)]
def zs:Array Value:=Array.replicate 256 (.int .i64 0)
theorem ξ73:Mat zs (λ_ _=>0):=by
 refine⟨by simp[zs],λx y hx hy=>?_⟩;unfold zs;rw[Array.getElem?_replicate,if_pos (by omega)]
theorem B0o(w:World):(zeroValue 115).run prog w=.ok (.agg zs) w:=by kernel_rfl
theorem B0q:(prog.info? 115).map (·.size)=some 256:=by kernel_rfl
def MB(w:World)(g:Nat)(F:Nat->Nat->Int):Prop:=∃C,w.heap[g]?=some (.cells C 115 (0,0))/\Mat C F
theorem MB.lt(h:MB w g F):g<w.heap.size:=by
 obtain⟨C,h,_⟩:=h;exact lt_of_block h
theorem MB.cell(h:MB w g F){x:Nat}(hx:x<16)(hy:y<16):w.cell? ⟨g,x*16+y,none⟩=some (.int .i64 (F x y)):=by
 obtain⟨C,h,hm⟩:=h;rw[cell_of_row w g _ C 115 (0,0) h,hm.2 x y hx hy]
theorem MB.free(h:MB w g F)(j:Nat):w.frozen? ⟨g,j,none⟩=false:=by
 obtain⟨C,h,_⟩:=h;exact frozen_of_row w g j C 115 h
theorem MB.set(h:MB w g F){a:Nat}(ha:a<16)(hb:b<16)(v:Int):MB (w.setCell ⟨g,a*16+b,none⟩ (.int .i64 v)) g (λx y=>if x=a/\y=b then v else F x y):=by
 obtain⟨C,h,hm⟩:=h;exact⟨_,heap_setCell_same w g (a*16+b) C 115 (.int .i64 v) h,hm.set ha hb v⟩
theorem MB.only(h:MB w g F)(ho:Only bs w w')(hg:g∉bs):MB w' g F:=by
 obtain⟨C,h,hm⟩:=h;exact⟨C,ho.block h hg,hm⟩
theorem MB.below(h:MB w g F)(hb:Below B w w')(hg:g<B):MB w' g F:=by
 obtain⟨C,h,hm⟩:=h;exact⟨C,(hb.block g hg).trans h,hm⟩
theorem MB.ext(h:MB w g F)(e:∀x y,x<16->y<16->F x y=G x y):MB w g G:=by
 obtain⟨C,h,hm⟩:=h;exact⟨C,h,hm.ext e⟩
theorem MB.new(h:Mat C F):MB (w.alloc (.cells C 115)) w.heap.size F:=⟨C,heap_alloc_new w _,h⟩
def fc(L:List Ed):Nat->Nat->Int:=λx y=>cst L x y
structure CSt(w wr:World)(L:List Ed)(j:Nat):Prop where
 bel:Below w.heap.size w wr
 sz:w.heap.size+2<=wr.heap.size
 res:MB wr w.heap.size (λ_ _=>0)
 bet:MB wr (w.heap.size+1) (fc (L.take j))
theorem CSt.start(w:World)(L:List Ed):CSt w ((w.alloc (.cells zs 115)).alloc (.cells zs 115)) L 0:=by
 have h1:MB (w.alloc (.cells zs 115)) w.heap.size (λ_ _=>0):=MB.new ξ73;have h2:MB ((w.alloc (.cells zs 115)).alloc (.cells zs 115)) (w.alloc (.cells zs 115)).heap.size (λ_ _=>0):=MB.new ξ73;refine⟨ξ9 (ξ9 (Ξp _ _) _) _,by simp,h1.below (ξ9 (Ξp _ _) _) h1.lt,?_⟩;rw[show(w.alloc (.cells zs 115)).heap.size=w.heap.size+1 by simp]at h2;exact h2.ext λx y _ _=>by simp[fc,ξfq]
theorem CSt.alloc(h:CSt w wr L j)(O:Obj):CSt w (wr.alloc O) L j:=
 ⟨ξ9 h.bel O,by have:=h.sz;simp;omega,h.res.below (ξ9 (Ξp _ _) O) h.res.lt,h.bet.below (ξ9 (Ξp _ _) O) h.bet.lt⟩
structure HSt(w wr:World)(L:List Ed)(j p q:Nat)(c:Int):Prop where
 bel:Below w.heap.size w wr
 sz:w.heap.size+2<=wr.heap.size
 res:MB wr w.heap.size (λ_ _=>0)
 bet:MB wr (w.heap.size+1) (λx y=>if x=p/\y=q then c else fc (L.take j) x y)
theorem CSt.half{c:Int}(h:CSt w wr L j)(hp:p<16)(hq:q<16):HSt w (wr.setCell ⟨w.heap.size+1,p*16+q,none⟩ (.int .i64 c)).drew L j p q c:=by
 have hs:=h.sz;have o:Only [w.heap.size+1] wr (wr.setCell ⟨w.heap.size+1,p*16+q,none⟩ (.int .i64 c)).drew:=(((Only.refl _ _).setCell (by simp) _)).drew;exact⟨(h.bel.setCell (by simp) _).drew,by show _<=(wr.setCell _ _).heap.size;simp;omega,h.res.only o (by simp),h.bet.set hp hq c⟩
theorem HSt.step{c:Int}(h:HSt w wr L j p q c)(hj:j<L.length)(he:L.getD j zz=⟨p,q,c⟩)(hp:p<16)(hq:q<16) :
 CSt w (wr.setCell ⟨w.heap.size+1,q*16+p,none⟩ (.int .i64 c)).drew L (j+1):=by
 have hs:=h.sz;have o:Only [w.heap.size+1] wr (wr.setCell ⟨w.heap.size+1,q*16+p,none⟩ (.int .i64 c)).drew:=(((Only.refl _ _).setCell (by simp) _)).drew;refine⟨(h.bel.setCell (by simp) _).drew,by show _<=(wr.setCell _ _).heap.size;simp;omega,h.res.only o (by simp),?_⟩;have hm:MB (wr.setCell ⟨w.heap.size+1,q*16+p,none⟩ (.int .i64 c)).drew (w.heap.size+1) _:=h.bet.set hq hp c;refine hm.ext λx y hx hy=>?_;unfold fc;rw[ξdU hj,he];by_cases e:((p:Int)=x/\(q:Int)=y)∨((q:Int)=x/\(p:Int)=y)
 ·rw[if_pos (ξ77.2 e)];show _=c;by_cases e2:x=q/\y=p
  ·rw[if_pos e2]
  ·rw[if_neg e2,if_pos (by omega)]
 ·rw[if_neg (λk=>e (ξ77.1 k)),if_neg (by omega),if_neg (by omega)]
theorem ξ6h(a:Option Addr)(n cap:Nat)(L:List Ed)(N:Nat)(w:World)(h:A1t w a n L)(hN:N<=16)(hF:∀e∈L,okE N e=true) :
 Calls prog 55 #[.slice a n cap] w λe w'=>∃C,e=.returned (.agg C)/\Mat C (fc L)/\Below w.heap.size w w':=by
 have hl:=h.2.1;have hn:=h.2.2;have HA:=ξ0 h;have HF:=ξ0 hF;clear h hF;have hz:=B0o;have aF:=ξ0 (CSt.start w L);go_enter func55,ntmps55;go_wp2_with fail
 go_loopg [8] n (λg x wr=>∃j:Nat,j+g=n/\x=.int .i64 (j:Int)/\Hid (CSt w wr L j))
 case atStart=>exact⟨0,by omega,rfl,aF⟩
 case round=>
  obtain⟨j,aO,rfl,HS⟩:=hrel;by_cases hj:j<n
  ·have aG:(j:Int)<(n:Int):=by omega
   obtain⟨b,o,rfl,aP,ax⟩:=(HA.out.below HS.out.bel).at (by omega);obtain⟨c0,c1,c2⟩:=ax j hj;have aq:=ξ8y.1 (HF.out _ (ξdG (L:=L) (j:=j) (by omega)));obtain⟨m,hm⟩:=nm (L.getD j zz);rw[hm]at c0 c1 c2 aq;clear ax;obtain⟨x,y,u⟩:=m;simp only at c0 c1 c2 aq;obtain⟨p,rfl⟩:∃p:Nat,x=(p:Int):=⟨x.toNat,by omega⟩;obtain⟨q,rfl⟩:∃q:Nat,y=(q:Int):=⟨y.toNat,by omega⟩;have hp:p<16:=by omega
   have hq:q<16:=by omega
   have aQ:(p:Int)<16:=by omega
   have aS:(q:Int)<16:=by omega
   have HM:=ξ0 hm;clear hm aq;obtain⟨w1,ah⟩:=nm (wr.alloc (.cells #[.int .i64 (p:Int),.int .i64 (q:Int),.int .i64 u] 87));have ai:Hid (CSt w w1 L j):=by rw[<-ah];exact ξ0 (HS.out.alloc _)
   have au:Hid (A3t w1 wr.heap.size ⟨p,q,u⟩):=by rw[<-ah];exact ξ0 (A3t.new wr ⟨p,q,u⟩)
   have ay:=ξ0 ah;have az:wr.heap.size≠w.heap.size+1:=by have:=HS.out.sz;omega
   have aH:=ξ0 az;clear az ah;go_upto_region 5 with fail;rw[ay.out];clear ay c0 c1 c2 HS;obtain⟨x0,x1,x2⟩:=au.out.cells;have f1:=ai.out.bet.free (p*16+q);have f2:=ai.out.bet.cell hp hq;go_wp2_with fail
   go_region
   obtain⟨w2,aj⟩:=nm ((w1.setCell ⟨w.heap.size+1,p*16+q,none⟩ (.int .i64 u)).drew);have am:Hid (HSt w w2 L j p q u):=by rw[<-aj];exact ξ0 (ai.out.half hp hq)
   have aA:Hid (A3t w2 wr.heap.size ⟨p,q,u⟩):=by
    rw[<-aj];have o:Only [w.heap.size+1] w1 (w1.setCell ⟨w.heap.size+1,p*16+q,none⟩ (.int .i64 u)).drew:=(((Only.refl _ _).setCell (by simp) _)).drew;exact ξ0 (o.block au.out (by simpa using aH.out))
   rw[aj];clear aj f1 f2 x0 x1 x2 au ai;obtain⟨x0,x1,x2⟩:=aA.out.cells;have f1:=am.out.bet.free (q*16+p);have f2:=am.out.bet.cell hq hp;go_wp2_with fail
   go_region
   have aI:Hid (CSt w (w2.setCell ⟨w.heap.size+1,q*16+p,none⟩ (.int .i64 u)).drew L (j+1)):=am.out.step (by omega) HM.out hp hq;clear f1 f2 x0 x1 x2 aA am;go_wp2_with fail;go_roundg (n-(j+1))
   case measure=>omega
   case rel=>exact⟨j+1,by omega,by go_num,aI⟩
  ·have aG:¬(j:Int)<(n:Int):=by omega
   obtain rfl:j=n:=by omega
   obtain⟨C,hC,hM⟩:=HS.out.bet;obtain⟨D,hD,aC⟩:=HS.out.res;rw[<-hl,List.take_length]at hM;have aJ:=ξ0 hM;have h1:=ξ0 hM.one;have aD:=hM.1;have aL:=aC.1;have aE:(prog.info? 115).map (·.size)=some C.size:=by rw[aD];exact B0q
   have ae:(wr.setRow w.heap.size C).heap[w.heap.size]?=some (.cells C 115 (0,0)):=setRow_heap _ _ _ _ _ _ hD;have HB:Hid (Below w.heap.size w (wr.setRow w.heap.size C)):=below_setRow HS.out.bel (Ξo _) _;have aw:=ξ0 ae;have HC:=ξ0 hC;have HD:=ξ0 hD;have HZ:=ξ0 aE;have aM:Hid (D.size=C.size):=ξ0 (by omega);clear hC hD hM aC aD aL ae aE;go_wp2_with (first|refine wpList_load_row rfl 115 _ rfl (w.heap.size+1) rfl 115 C (0,0) _ HC.out underlying115 rfl HZ.out ?_|refine wpList_store_row rfl 115 _ _ rfl w.heap.size C rfl rfl 115 D HD.out HZ.out aM.out h1.out ?_);refine bodyPost_ret (results_cell_row rfl _ _ w.heap.size 115 C (0,0) _ rfl aw.out underlying115 rfl HZ.out) rfl ?_;exact⟨C,rfl,aJ.out,HB.out⟩
def A4a(w:World)(g:Nat)(F:Nat->Bool):Prop:=∃cs:Array Value,w.heap[g]?=some (.cells cs 183 (0,0))/\cs.size=16/\∀j,j<16->cs[j]?=some (.bool (F j))
theorem A4a.cell{F:Nat->Bool}(h:A4a w g F)(hj:j<16):w.cell? ⟨g,j,none⟩=some (.bool (F j)):=by
 obtain⟨cs,h1,_,h3⟩:=h;simp[World.cell?,h1,h3 j hj]
theorem A4a.free{F:Nat->Bool}(h:A4a w g F)(j:Nat):w.frozen? ⟨g,j,none⟩=false:=by
 obtain⟨cs,h1,_⟩:=h;simp[World.frozen?,h1]
theorem A4a.only{F:Nat->Bool}(h:A4a w g F)(ho:Only bs w w')(hg:g∉bs):A4a w' g F:=by
 obtain⟨cs,h1,h2⟩:=h;exact⟨cs,ho.block h1 hg,h2⟩
theorem A4a.set{F:Nat->Bool}(h:A4a w g F)(hy:y<16)(v:Bool):A4a (w.setCell ⟨g,y,none⟩ (.bool v)) g (upd F y v):=by
 obtain⟨cs,h1,h2,h3⟩:=h;refine⟨_,heap_setCell_same w g y cs 183 (.bool v) h1,by simpa using h2,λj hj=>?_⟩;rw[Ξb];by_cases e:y=j
 ·subst e;rw[if_pos rfl,if_pos (by omega)];simp[upd]
 ·rw[if_neg e,h3 j hj];have:¬j=y:=λq=>e q.symm;simp[upd,this]
def zb:Array Value:=Array.replicate 16 (.bool false)
theorem A4a.new(w:World):A4a (w.alloc (.cells zb 183)) w.heap.size (λ_=>false):=by
 refine⟨_,heap_alloc_new w _,by simp[zb],λj hj=>?_⟩;unfold zb;rw[Array.getElem?_replicate,if_pos hj]
theorem ξbp(g x:Nat)(F:Nat->Bool)(w:World)(h:A4a w g F)(hx:x<16):Calls prog 99 #[.int .i64 (x:Int),.pointer (some ⟨g,0,none⟩)] w λe w'=>e=.returned (.bool (!F x))/\w'=w:=by
 have hc:=h.cell hx;have ae:(x:Int)<16:=by omega
 clear h;generalize F x=b at *;go_enter func99,ntmps99;go_wp2_with fail
 go_ret;exact⟨rfl,rfl⟩
theorem ξ6d(a:Option Addr)(n cap g:Nat)(d:List Int)(F:Nat->Bool)(w:World)(h:A0b w a n d)(hg:A4a w g F)(hn:n<=16) :
 Calls prog 98 #[.slice a n cap,.func (.func 99) #[] #[.pointer (some ⟨g,0,none⟩)]] w λe w'=>∃f,e=.returned (.int .i64 f)/\A2k d F n f/\w'=w:=by
 have hl:=h.2.1;have HA:=ξ0 h;have HG:=ξ0 hg;clear h hg;go_enter func98,ntmps98;go_wp2_with fail
 go_loopg [5,10] n (λk u v wr=>∃(j:Nat) (f:Int),j+k=n/\u=.int .i64 f/\v=.int .i64 (j:Int)/\Hid (A2k d F j f)/\w=wr)
 case atStart=>exact⟨0,-1,by omega,rfl,rfl,ξ9F _ _,rfl⟩
 case round=>
  obtain⟨j,f,aj,rfl,rfl,HN,rfl⟩:=hrel;by_cases hj:j<n
  ·have ai:(j:Int)<(n:Int):=by omega
   obtain⟨b,o,rfl,ah⟩:=HA.out.at (by omega);have c0:=ah j hj;have C:=ξ0 (ξbp g j F w HG.out (by omega));by_cases h1:dg d j=-1
   ·rw[h1]at c0;have ae:=ξ0 (ξ5L HN.out (.inl h1));clear h1 ah;go_wp2_with fail;go_roundg (n-(j+1))
    case measure=>omega
    case rel=>exact⟨j+1,f,by omega,rfl,by go_num,ae,rfl⟩
   ·have d1:(dg d j != -1)=true:=bne_iff_ne.2 h1;cases h2:F j with
    | true=>
      rw[h2]at C;have ae:=ξ0 (ξ5L HN.out (.inr h2));clear h2 ah h1;generalize dg d j=x at *;go_wp2_with fail
      refine C.out.mono ?_;rintro e w1 ⟨rfl,rfl⟩;go_wp2_with fail;go_roundg (n-(j+1))
      case measure=>omega
      case rel=>exact⟨j+1,f,by omega,rfl,by go_num,ae,rfl⟩
    | false=>
      rw[h2]at C;rcases ξ4G HN.out with rfl|⟨k,rfl,hk⟩
      ·have ae:=ξ0 (ξ9G HN.out h1 h2);clear h2 ah h1;generalize dg d j=x at *;go_wp2_with fail
       refine C.out.mono ?_;rintro e w1 ⟨rfl,rfl⟩;go_wp2_with fail;go_roundg (n-(j+1))
       case measure=>omega
       case rel=>exact⟨j+1,j,by omega,rfl,by go_num,ae,rfl⟩
      ·have c1:=ah k (by omega);have am:((k:Int)==-1)=false:=beq_eq_false_iff_ne.2 (by omega);have aq:(k:Int)<(n:Int):=by omega
       by_cases h3:dg d j<dg d k
       ·have d3:decide (dg d j<dg d k)=true:=by simpa using h3
        have ae:=ξ0 (ξbn HN.out h1 h2 h3);clear h2 ah h1 h3;generalize dg d j=x at *;generalize dg d k=y at *;go_wp2_with fail
        refine C.out.mono ?_;rintro e w1 ⟨rfl,rfl⟩;go_wp2_with fail;go_roundg (n-(j+1))
        case measure=>omega
        case rel=>exact⟨j+1,j,by omega,rfl,by go_num,ae,rfl⟩
       ·have d3:decide (dg d j<dg d k)=false:=by simpa using h3
        have ae:=ξ0 (ξbm HN.out h3);clear h2 ah h1 h3;generalize dg d j=x at *;generalize dg d k=y at *;go_wp2_with fail
        refine C.out.mono ?_;rintro e w1 ⟨rfl,rfl⟩;go_wp2_with fail;go_roundg (n-(j+1))
        case measure=>omega
        case rel=>exact⟨j+1,k,by omega,rfl,by go_num,ae,rfl⟩
  ·have ai:¬(j:Int)<(n:Int):=by omega
   obtain rfl:j=n:=by omega
   go_wp2_with fail
   go_ret;exact⟨f,rfl,HN.out,rfl⟩
structure LSt(w wr:World)(g1 gd gb n:Nat)(L:List Ed)(d:List Int)(S:Nat->Bool):Prop where
 bel:Below w.heap.size w wr
 lo:w.heap.size<=gb
 mat:MB wr g1 (fc L)
 own:wr.ownsRow w.heap.size 3 1 (.slice (some ⟨gd,0,none⟩) n n) n (ic d)
 don:A4a wr gb S
theorem ξD{L:List Int}(h:w.ownsRow base 3 1 (.slice (some ⟨g,0,none⟩) n cap) n (ic L)):base<=g/\∃cur,w.heap[g]?=some (.cells cur 3 (0,0)):=by
 rcases h.2 with⟨h,_⟩|⟨g',cap',cur,e,hg,hb,_⟩
 ·simp at h
 ·simp only[Value.slice.injEq,Option.some.injEq,Addr.mk.injEq,and_true]at e;obtain⟨rfl,_⟩:=e;exact⟨hg,cur,hb⟩
theorem LSt.ne(h:LSt w wr g1 gd gb n L d S):gd≠g1/\gd≠gb/\gb≠g1:=by
 obtain⟨_,cur,h1⟩:=ξD h.own;obtain⟨C,h2,_⟩:=h.mat;obtain⟨cs,h3,_⟩:=h.don;refine⟨?_,?_,?_⟩
 ·rintro rfl;rw[h1]at h2;simp at h2
 ·rintro rfl;rw[h1]at h3;simp at h3
 ·rintro rfl;rw[h2]at h3;simp at h3
theorem LSt.store(h:LSt w wr g1 gd gb n L d S)(j:Nat)(v:Int):LSt w (wr.setCell ⟨gd,j,none⟩ (.int .i64 v)) g1 gd gb n L (d.set j v) S:=by
 obtain⟨n1,n2,n3⟩:=h.ne;have o:Only [gd] wr (wr.setCell ⟨gd,j,none⟩ (.int .i64 v)):=(Only.refl _ _).setCell (by simp) _;exact⟨h.bel.setCell (ξD h.own).1 _,h.lo,h.mat.only o (by simpa using λe=>n1 e.symm),ξ5b h.own j v,h.don.only o (by simpa using λe=>n2 e.symm)⟩
theorem LSt.mark(h:LSt w wr g1 gd gb n L d S)(hk:k<16):LSt w (wr.setCell ⟨gb,k,none⟩ (.bool true)) g1 gd gb n L d (upd S k true):=by
 obtain⟨n1,n2,n3⟩:=h.ne;have o:Only [gb] wr (wr.setCell ⟨gb,k,none⟩ (.bool true)):=(Only.refl _ _).setCell (by simp) _;exact⟨h.bel.setCell h.lo _,h.lo,h.mat.only o (by simpa using λe=>n3 e.symm),o.owns h.own (by intro q hq;simp[Value.ownBlock]at hq;subst hq;simpa using n2),h.don.set hk true⟩
theorem LSt.arg(h:LSt w wr g1 gd gb n L d S)(hn:n<=16):A0b wr (some ⟨gd,0,none⟩) n d:=by
 obtain⟨a,cap,e,h1,_⟩:=ξl h.own (by omega);simp only[Value.slice.injEq]at e;rw[e.1];exact h1
def At(L:List Ed)(d c:List Int)(k n j:Nat):Prop:=∀x,x<n->dg c x=if x<j then nv L d k x else dg d x
theorem ξ8Y{c:List Int}(h:At L d c k n j)(hv:nv L d k j=dg d j):At L d c k n (j+1):=λx hx=>by
 rw[h x hx];by_cases e:x=j
 ·subst e;rw[if_neg (by omega),if_pos (by omega),hv]
 ·by_cases q:x<j
  ·rw[if_pos q,if_pos (by omega)]
  ·rw[if_neg q,if_neg (by omega)]
theorem at_set{c:List Int}{v:Int}(h:At L d c k n j)(hl:c.length=n)(hj:j<n)(hv:nv L d k j=v):At L d (c.set j v) k n (j+1):=λx hx=>by
 rw[ξ4Q (by omega)];by_cases e:x=j
 ·rw[if_pos e,if_pos (by omega),e,hv]
 ·rw[if_neg e,h x hx];by_cases q:x<j
  ·rw[if_pos q,if_pos (by omega)]
  ·rw[if_neg q,if_neg (by omega)]
theorem ξ3J{x:Int}(h1:-9223372036854775808<=x)(h2:x<=9223372036854775807):IntKind.i64.wrap x=x:=by rw[IntKind.wrap_i64];omega
theorem ξ4I(C:Array Value)(n root:Nat)(L:List Ed)(w:World)(hC:Mat C (fc L))(hF:Fit n L)(hr:root<n) :
 Calls prog 56 #[.agg C,.int .i64 (n:Int),.int .i64 (root:Int)] w λe w'=>∃gd d,e=.returned (.slice (some ⟨gd,0,none⟩) n n)/\w'.ownsRow w.heap.size 3 1 (.slice (some ⟨gd,0,none⟩) n n) n (ic d)/\A0z L n root d/\(∀x,dg d x<=16000000)/\Below w.heap.size w w':=by
 have hn:=hF.hi;have aS:=hF.lo;have HF:=ξ0 hF;have HC:=ξ0 hC;clear hF hC;have bz:(root:Int)<(n:Int):=by omega
 obtain⟨w1,aj⟩:=nm ((w.alloc (.cells C 115)).alloc (.cells #[.int .i64 (-1)] 3));have aq:Hid (Below w.heap.size w w1):=by rw[<-aj];exact ξ0 (ξ9 (ξ9 (Ξp _ _) _) _)
 have aw:Hid (MB w1 w.heap.size (fc L)):=by
  rw[<-aj];have h1:MB (w.alloc (.cells C 115)) w.heap.size (fc L):=MB.new HC.out;exact ξ0 (h1.below (ξ9 (Ξp _ _) _) h1.lt)
 have aF:Hid (w1.heap[w.heap.size+1]?=some (.cells #[.int .i64 (-1)] 3 (0,0))):=by
  have:=heap_alloc_new (w.alloc (.cells C 115)) (.cells #[.int .i64 (-1)] 3);rw[show(w.alloc (.cells C 115)).heap.size=w.heap.size+1 by simp,aj]at this;exact ξ0 this
 have HR:=ξ0 (ξ5x (w.heap.size+1) n w1 aF.out aS hn);have aG:=ξ0 aj;have aT:Hid (w.heap.size<w1.heap.size):=aw.out.lt;clear aj;go_enter func56,ntmps56;go_wp2_with fail
 rw[aG.out];refine HR.out.mono ?_;rintro e w2 ⟨gd,rfl,aH,ax⟩;have aI:Hid (Below w.heap.size w w2):=aq.out.trans (ax.mono aq.out.size);have ay:Hid (MB w2 w.heap.size (fc L)):=aw.out.below ax aT.out;have ai:Hid (w2.ownsRow w.heap.size 3 1 (.slice (some ⟨gd,0,none⟩) n n) n (ic (List.replicate n (-1)))):=ξv aH aq.out.size;have hc:=ξ4F ai.out (j:=root) (by omega);have hf:=ai.out.frozenAt root;clear aH ax;go_upto_region 3 with fail;obtain⟨w3,am⟩:=nm (w2.setCell ⟨gd,root,none⟩ (.int .i64 0));have az:Hid (Below w.heap.size w w3):=by rw[<-am];exact ξ0 (aI.out.setCell (ξD ai.out).1 _)
 have aA:Hid (MB w3 w.heap.size (fc L)):=by
  rw[<-am];have o:Only [gd] w2 (w2.setCell ⟨gd,root,none⟩ (.int .i64 0)):=(Only.refl _ _).setCell (by simp) _;refine ξ0 (ay.out.only o ?_);obtain⟨C',h2,_⟩:=ay.out;obtain⟨_,cur,h1⟩:=ξD ai.out;simp;rintro rfl;rw[h1]at h2;simp at h2
 have aJ:Hid (w3.ownsRow w.heap.size 3 1 (.slice (some ⟨gd,0,none⟩) n n) n (ic ((List.replicate n (-1)).set root 0))):=by rw[<-am];exact ξ0 (ξ5b ai.out _ _)
 rw[am];clear am hc hf ay aI ai HR aF aw aq aG;obtain⟨w4,aC⟩:=nm (w3.alloc (.cells zb 183));have aL:Hid (LSt w w4 w.heap.size gd w3.heap.size n L ((List.replicate n (-1)).set root 0) (λ_=>false)):=by
  rw[<-aC];exact ξ0 ⟨ξ9 az.out _,az.out.size,aA.out.below (ξ9 (Ξp _ _) _) aA.out.lt,aJ.out.alloc _,A4a.new w3⟩
 have aM:Hid (w3.alloc (.cells #[.bool false,.bool false,.bool false,.bool false,.bool false,.bool false,.bool false,.bool false,.bool false,.bool false,.bool false,.bool false,.bool false,.bool false,.bool false,.bool false] 183)=w4):=aC;clear aC aA az aJ;have aO:=ξ0 (ξac L hr);go_upto_region 4 with fail
 rw[aM.out];clear aM;generalize w3.heap.size=gb at *;go_loopg [9] n (λg u wr=>∃(d:List Int) (S:Nat->Bool),n-cn S n<=g/\Hid (LSt w wr w.heap.size gd gb n L d S)/\Hid (A7i L n root d S))
 case atStart=>exact⟨_,_,by omega,aL,aO⟩
 case round=>
  obtain⟨d,S,b9,HS,HD⟩:=hrel;clear aL aO;have C1:=ξ0 (ξ6d (some ⟨gd,0,none⟩) n n gb d S wr (HS.out.arg hn) HS.out.don hn);go_wp2_with fail
  refine C1.out.mono ?_;rintro e aU ⟨f,rfl,hN,rfl⟩;have HN:=ξ0 hN;clear C1;rcases ξ4G hN with rfl|⟨k,rfl,hk⟩
  ·clear hN;have HE:=ξ0 (ξdS HD.out hr HN.out);go_wp2_with fail
   go_ret;exact⟨gd,d,rfl,HS.out.own,HE.out.1,λx=>by have:=HE.out.2 x;omega,HS.out.bel⟩
  ·have aV:S k=false:=by
    rcases hN with⟨h3,_⟩|⟨k',h3,_,_,h6,_⟩
    ·omega
    ·obtain rfl:k'=k:=by omega
     exact h6
   have bA:0<=dg d k:=by
    have h5:dg d k≠-1:=by
     rcases hN with⟨h3,_⟩|⟨k',h3,_,h5,_⟩
     ·omega
     ·obtain rfl:k'=k:=by omega
      exact h5
    rcases HD.out.low hk with q|q<;>omega
   have bB:dg d k<=16000000:=by
    have:=HD.out.bd k hk;have:=ξ6l S n;omega
   have bC:cn S n<n:=ξeh hk aV;clear hN;have bD:((k:Int)==-1)=false:=beq_eq_false_iff_ne.2 (by omega);have aW:(k:Int)<16:=by omega
   have bE:(k:Int)<(n:Int):=by omega
   have hc:=HS.out.don.cell (j:=k) (by omega);have hf:=HS.out.don.free k;go_upto_region 8 with fail
   obtain⟨w5,aD⟩:=nm (aU.setCell ⟨gb,k,none⟩ (.bool true));have aX:Hid (LSt w w5 w.heap.size gd gb n L d (upd S k true)):=by rw[<-aD];exact ξ0 (HS.out.mark (by omega))
   rw[aD];clear aD hc hf HS;have aP:=ξ8z HF.out.ok d k;have aY:=ξ0 aP;clear aP;have aZ:Hid (At L d d k n 0):=λx _=>by rw[if_neg (by omega)]
   go_wp2_with fail
   go_loopg [29] n (λg v wq=>∃(j:Nat) (c:List Int),j+g=n/\v=.int .i64 (j:Int)/\Hid (LSt w wq w.heap.size gd gb n L c (upd S k true))/\Hid (At L d c k n j))
   case atStart=>exact⟨0,d,by omega,rfl,aX,aZ⟩
   case round=>
    obtain⟨j,c,bF,rfl,HQ,HA⟩:=hrel;by_cases hj:j<n
    ·have bh:(j:Int)<(n:Int):=by omega
     have bi:(j:Int)<16:=by omega
     have au:=ξ4E HQ.out.own;have m0:=HQ.out.mat.cell (x:=k) (y:=j) (by omega) (by omega);have c1:=ξ4F HQ.out.own (j:=k) hk;have c2:=ξ4F HQ.out.own (j:=j) hj;have f2:=HQ.out.own.frozenAt j;have e1:dg c k=dg d k:=by
      rw[HA.out k hk];split
      ·exact aY.out
      ·rfl
     have e2:dg c j=dg d j:=by rw[HA.out j hj,if_neg (by omega)]
     rw[e1]at c1;rw[e2]at c2;have bj:=ξ2u HF.out.ok (k:Int) (j:Int);have ae:nv L d k j=if 0<cst L k j/\(dg d j=-1∨dg d k+cst L k j<dg d j)then dg d k+cst L k j else dg d j:=rfl
     unfold fc at m0;have aQ:=ξ0 (λv=>HQ.out.store j v);obtain⟨h1,h2,_⟩:=bj;clear e1 e2;generalize dg d k=x at *;generalize cst L (k:Int) (j:Int)=co at *;by_cases hz:co=0
     ·subst hz;have ah:=ξ0 (ξ8Y HA.out (by rw[ae,if_neg (by omega)]));clear ae;generalize dg d j=y at *;have bq:IntKind.i64.wrap (x+0)=x+0:=ξ3J (by omega) (by omega);go_wp2_with fail
      go_roundg (n-(j+1))
      case measure=>omega
      case rel=>exact⟨j+1,c,by omega,by go_num,HQ,ah⟩
     ·have hp:0<co:=by omega
      have dp:decide (0<co)=true:=by simpa using hp
      have bq:IntKind.i64.wrap (x+co)=x+co:=ξ3J (by omega) (by omega);by_cases hy:dg d j=-1
      ·have ah:=ξ0 (at_set (v:=x+co) HA.out au hj (by rw[ae,if_pos ⟨hp,.inl hy⟩]));rw[hy]at c2;clear ae hy hz;go_wp2_with fail;go_roundg (n-(j+1))
       case measure=>omega
       case rel=>exact⟨j+1,c.set j (x+co),by omega,by go_num,ξ0 (aQ.out _),ah⟩
      ·have dy:(dg d j==-1)=false:=beq_eq_false_iff_ne.2 hy;by_cases hl:x+co<dg d j
       ·have dl:decide (x+co<dg d j)=true:=by simpa using hl
        have ah:=ξ0 (at_set (v:=x+co) HA.out au hj (by rw[ae,if_pos ⟨hp,.inr hl⟩]));clear ae hy hz hl;generalize dg d j=y at *;go_wp2_with fail
        go_roundg (n-(j+1))
        case measure=>omega
        case rel=>exact⟨j+1,c.set j (x+co),by omega,by go_num,ξ0 (aQ.out _),ah⟩
       ·have dl:decide (x+co<dg d j)=false:=by simpa using hl
        have ah:=ξ0 (ξ8Y HA.out (by rw[ae,if_neg (by omega)]));clear ae hy hz hl;generalize dg d j=y at *;go_wp2_with fail
        go_roundg (n-(j+1))
        case measure=>omega
        case rel=>exact⟨j+1,c,by omega,by go_num,HQ,ah⟩
    ·have bh:¬(j:Int)<(n:Int):=by omega
     obtain rfl:j=n:=by omega
     have au:=ξ4E HQ.out.own;have aE:=ξbZ HF.out.ok HD.out hk hr HN.out au (λx hx=>by rw[HA.out x hx,if_pos hx]);have bu:=ξ0 aE.1;have bG:=aE.2;have bH:=ξ6l (upd S k true) j;clear aE;go_wp2_with fail;go_roundg (j-cn (upd S k true) j)
     case measure=>omega
     case rel=>exact⟨c,_,by omega,HQ,bu⟩
structure QSt(w wr:World)(g1 gp n:Nat)(L:List Ed)(d p:List Int)(i:Nat):Prop where
 bel:Below w.heap.size w wr
 mat:MB wr g1 (fc L)
 own:wr.ownsRow w.heap.size 3 1 (.slice (some ⟨gp,0,none⟩) n n) n (ic p)
 old:∀x,x<i->A61 L d n x (dg p x)
 new:∀x,i<=x->dg p x=-1
theorem QSt.no{p:List Int}(h:QSt w wr g1 gp n L d p i)(hn:∀f,f<n->¬good L d i f):QSt w wr g1 gp n L d p (i+1):=
 ⟨h.bel,h.mat,h.own,λx hx=>by
  by_cases e:x=i
  ·subst e;rw[h.new x (by omega)];exact .inl ⟨rfl,hn⟩
  ·exact h.old x (by omega),λx hx=>h.new x (by omega)⟩
theorem QSt.yes{p:List Int}(h:QSt w wr g1 gp n L d p i)(hi:i<n)(hj:j<n)(hg:good L d i j)(hn:∀f,f<j->¬good L d i f):QSt w (wr.setCell ⟨gp,i,none⟩ (.int .i64 (j:Int))) g1 gp n L d (p.set i (j:Int)) (i+1):=by
 have hl:=ξ4E h.own;have o:Only [gp] wr (wr.setCell ⟨gp,i,none⟩ (.int .i64 (j:Int))):=(Only.refl _ _).setCell (by simp) _;refine⟨h.bel.setCell (ξD h.own).1 _,h.mat.only o ?_,ξ5b h.own _ _,λx hx=>?_,λx hx=>?_⟩
 ·obtain⟨C,h2,_⟩:=h.mat;obtain⟨_,cur,h1⟩:=ξD h.own;simp;rintro rfl;rw[h1]at h2;simp at h2
 ·rw[ξ4Q (by omega)];by_cases e:x=i
  ·rw[if_pos e,e];exact .inr ⟨j,rfl,hj,hg,hn⟩
  ·rw[if_neg e];exact h.old x (by omega)
 ·rw[ξ4Q (by omega),if_neg (by omega)];exact h.new x (by omega)
theorem ξ3x(C:Array Value)(a:Option Addr)(n cap:Nat)(L:List Ed)(d:List Int)(w:World)(hC:Mat C (fc L))(hF:Fit n L)(hd:A0b w a n d)(hlo:∀x,-1<=dg d x)(hhi:∀x,dg d x<=16000000) :
 Calls prog 57 #[.agg C,.slice a n cap] w λe w'=>∃gp p,e=.returned (.slice (some ⟨gp,0,none⟩) n n)/\w'.ownsRow w.heap.size 3 1 (.slice (some ⟨gp,0,none⟩) n n) n (ic p)/\A15 L d n p/\Below w.heap.size w w':=by
 have hn:=hF.hi;have aD:=hF.lo;have HF:=ξ0 hF;have HC:=ξ0 hC;have HA:=ξ0 hd;have aE:=ξ0 hlo;have aF:=ξ0 hhi;clear hF hC hd hlo hhi;obtain⟨w1,ah⟩:=nm ((w.alloc (.cells C 115)).alloc (.cells #[.int .i64 (-1)] 3));have aj:Hid (Below w.heap.size w w1):=by rw[<-ah];exact ξ0 (ξ9 (ξ9 (Ξp _ _) _) _)
 have am:Hid (MB w1 w.heap.size (fc L)):=by
  rw[<-ah];have h1:MB (w.alloc (.cells C 115)) w.heap.size (fc L):=MB.new HC.out;exact ξ0 (h1.below (ξ9 (Ξp _ _) _) h1.lt)
 have ax:Hid (w1.heap[w.heap.size+1]?=some (.cells #[.int .i64 (-1)] 3 (0,0))):=by
  have:=heap_alloc_new (w.alloc (.cells C 115)) (.cells #[.int .i64 (-1)] 3);rw[show(w.alloc (.cells C 115)).heap.size=w.heap.size+1 by simp,ah]at this;exact ξ0 this
 have HR:=ξ0 (ξ5x (w.heap.size+1) n w1 ax.out aD hn);have ay:=ξ0 ah;have aG:Hid (w.heap.size<w1.heap.size):=am.out.lt;clear ah;go_enter func57,ntmps57;go_wp2_with fail
 rw[ay.out];refine HR.out.mono ?_;rintro e w2 ⟨gp,rfl,az,aq⟩;have aA:Hid (QSt w w2 w.heap.size gp n L d (List.replicate n (-1)) 0):=⟨aj.out.trans (aq.mono aj.out.size),am.out.below aq aG.out,ξv az aj.out.size,λx hx=>absurd hx (by omega),λx _=>ξc0 n x⟩;clear az aq HR ax am aj ay;go_wp2_with fail;go_loopg [16] n (λg v wr=>∃(i:Nat) (p:List Int),i+g=n/\v=.int .i64 (i:Int)/\Hid (QSt w wr w.heap.size gp n L d p i))
 case atStart=>exact⟨0,_,by omega,rfl,aA⟩
 case round=>
  obtain⟨i,p,aT,rfl,HQ⟩:=hrel;clear aA;by_cases hi:i<n
  ·have aH:(i:Int)<(n:Int):=by omega
   obtain⟨b,o,rfl,au⟩:=(HA.out.below HQ.out.bel).at (by omega);have c0:=au i hi;have aI:=ξ0 au;clear au;have aJ:Hid (∀f,f<0->¬good L d i f):=λf hf=>absurd hf (by omega);obtain⟨way,ae⟩:=nm (dg d i);rw[ae]at c0;have ai:=ξ0 ae;clear ae;obtain⟨wo,aL⟩:∃wo,wo=wr:=⟨_,rfl⟩;subst aL;go_wp2_with fail;go_loopg [23] n (λg v wq=>∃j:Nat,j+g=n/\v=.int .i64 (j:Int)/\Hid (∀f,f<j->¬good L d i f)/\wo=wq)
   case atStart=>exact⟨0,by omega,rfl,aJ,rfl⟩
   case round=>
    obtain⟨j,aU,rfl,HG,rfl⟩:=hrel;by_cases hj:j<n
    ·have aM:(j:Int)<(n:Int):=by omega
     have aO:(j:Int)<16:=by omega
     have aP:(i:Int)<16:=by omega
     have m0:=HQ.out.mat.cell (x:=j) (y:=i) (by omega) (by omega);have c1:=aI.out j hj;have c2:=ξ4F HQ.out.own (j:=i) hi;have f2:=HQ.out.own.frozenAt i;have aQ:=ξ2u HF.out.ok (j:Int) (i:Int);have l1:=aE.out j;have l2:=aF.out j;unfold fc at m0;obtain⟨h1,h2,_⟩:=aQ;by_cases hg:0<cst L (j:Int) (i:Int)/\dg d j+cst L (j:Int) (i:Int)=way
     ·have aw:=ξ0 (HQ.out.yes hi hj (by unfold good;rw[ai.out];exact hg) HG.out);obtain⟨hp,he⟩:=hg;have dp:decide (0<cst L (j:Int) (i:Int))=true:=by simpa using hp
      have aS:IntKind.i64.wrap (dg d j+cst L (j:Int) (i:Int))=way:=by rw[ξ3J (by omega) (by omega)];exact he
      clear he;generalize dg d j=x at *;generalize dg p i=y at *;generalize cst L (j:Int) (i:Int)=co at *;go_wp2_with fail
      go_roundg (n-(i+1))
      case measure=>omega
      case rel=>exact⟨i+1,_,by omega,by go_num,aw⟩
     ·have aC:Hid (∀f,f<j+1->¬good L d i f):=λf hf hgd=>by
       by_cases e:f=j
       ·subst e;unfold good at hgd;rw[ai.out]at hgd;exact hg hgd
       ·exact HG.out f (by omega) hgd
      by_cases hp:0<cst L (j:Int) (i:Int)
      ·have dp:decide (0<cst L (j:Int) (i:Int))=true:=by simpa using hp
       have aS:IntKind.i64.wrap (dg d j+cst L (j:Int) (i:Int))=dg d j+cst L (j:Int) (i:Int):=ξ3J (by omega) (by omega);have de:(dg d j+cst L (j:Int) (i:Int)==way)=false:=beq_eq_false_iff_ne.2 λq=>hg ⟨hp,q⟩;clear hg;generalize dg d j=x at *;generalize dg p i=y at *;generalize cst L (j:Int) (i:Int)=co at *;go_wp2_with fail
       go_roundg (n-(j+1))
       case measure=>omega
       case rel=>exact⟨j+1,by omega,by go_num,aC,rfl⟩
      ·have hz:cst L (j:Int) (i:Int)=0:=by omega
       rw[hz]at m0;clear hg hp h1 h2 hz;generalize dg d j=x at *;generalize dg p i=y at *;go_wp2_with fail
       go_roundg (n-(j+1))
       case measure=>omega
       case rel=>exact⟨j+1,by omega,by go_num,aC,rfl⟩
    ·have aM:¬(j:Int)<(n:Int):=by omega
     obtain rfl:j=n:=by omega
     have aw:=ξ0 (HQ.out.no HG.out);go_wp2_with fail
     go_roundg (j-(i+1))
     case measure=>omega
     case rel=>exact⟨i+1,p,by omega,by go_num,aw⟩
  ·have aH:¬(i:Int)<(n:Int):=by omega
   obtain rfl:i=n:=by omega
   go_wp2_with fail
   go_ret;exact⟨gp,rfl,p,HQ.out.own,⟨ξ4E HQ.out.own,HQ.out.old⟩,HQ.out.bel⟩
def BP(N r:Int)(L:List Ed)(p d:List Int):Prop:=(lf N L r≠0->p=[]/\d=[])/\(lf N L r=0->A0z L N.toNat r.toNat d/\A15 L d N.toNat p/\∀x,dg d x<=16000000)
structure BQ(w w':World)(N r:Int)(L:List Ed)(vp vd:Value)(p d:List Int):Prop where
 bp:BP N r L p d
 bel:Below w.heap.size w w'
 own1:w'.ownsRow w.heap.size 3 1 vp p.length (ic p)
 own2:w'.ownsRow w.heap.size 3 1 vd d.length (ic d)
theorem ξ47(N r:Int)(a:Option Addr)(n cap:Nat)(L:List Ed)(w:World)(h:A1t w a n L)(hnc:n<=cap) :
 Calls prog 16 #[.int .i64 N,.slice a n cap,.int .i64 r] w λe w'=>∃vp vd p d,e=.returned (.tuple #[vp,vd,A0a (lf N L r)])/\BQ w w' N r L vp vd p d:=by
 have C:=ξ0 (ξa N a n cap L w h hnc);have HA:=ξ0 h;clear h;by_cases h0:ef N L=0
 ·rw[h0,ξ4]at C;have C2:=ξ0 (λw=>ξm N r w);cases hi:isn N r with
  | false=>
    have hl:lf N L r=1:=by unfold lf;rw[if_neg (by simpa using h0),if_pos hi]
    have HP:Hid (BP N r L [] []):=⟨λ_=>⟨rfl,rfl⟩,λq=>by omega⟩;rw[hl];rw[hi]at C2;clear hl hi h0;go_enter func16,ntmps16;go_wp2_with fail
    refine C.out.mono ?_;rintro e w1 ⟨rfl,ae⟩;have HW:=ξ0 ae;clear ae;go_wp2_with fail;refine(C2.out _).mono ?_;rintro e w2 ⟨rfl,rfl⟩;go_wp2_with fail
    go_ret3
    exact⟨_,_,[],[],rfl,HP.out,HW.out,Ξr _ _ _ _,Ξr _ _ _ _⟩
  | true=>
    have hl:lf N L r=0:=by unfold lf;rw[if_neg (by simpa using h0),if_neg (by simp[hi])]
    obtain⟨m,k,rfl,rfl,hk,hF⟩:=ξ8F hl;have HP:Hid (∀p d,A0z L m k d->A15 L d m p->(∀x,dg d x<=16000000)->BP (m:Int) (k:Int) L p d):=λp d h1 h2 h3=>⟨λq=>absurd hl q,λ_=>⟨by simpa using h1,by simpa using h2,h3⟩⟩;have HF:=ξ0 hF;have HL:=ξ0 hl;rw[hl];rw[hi]at C2;rw[ξ4];clear hl hi h0 hF;have hz:=B0o;go_enter func16,ntmps16;go_wp2_with fail
    refine C.out.mono ?_;rintro e w1 ⟨rfl,ae⟩;have am:=ξ0 ae;have az:=ξ0 (HA.out.below ae);clear ae;go_wp2_with fail;refine(C2.out _).mono ?_;rintro e aE ⟨rfl,rfl⟩;have C3:=ξ0 (ξ6h a n cap L m aE az.out HF.out.hi HF.out.ok);go_wp2_with fail
    refine C3.out.mono ?_;rintro e w2 ⟨M,rfl,hM,aA⟩;have aF:Hid (Below w.heap.size w w2):=am.out.trans (aA.mono am.out.size);have HM:=ξ0 hM;have HZ:Hid ((prog.info? 115).map (·.size)=some M.size):=ξ0 (by rw[hM.1];exact B0q)
    have HD:Hid (zs.size=M.size):=ξ0 (by rw[hM.1];simp[zs]);clear aA hM C C2 C3 am az;go_upto_region 7 with(refine wpList_store_row rfl 115 _ _ rfl w2.heap.size M rfl rfl 115 zs (heap_alloc_new w2 _) HZ.out HD.out HM.out.one ?_);rw[World.setRow_alloc_new];obtain⟨w3,ah⟩:=nm (w2.alloc (.cells M 115));have ai:Hid (Below w.heap.size w w3):=by rw[<-ah];exact ξ0 (ξ9 aF.out _)
    have aj:Hid (w3.heap[w2.heap.size]?=some (.cells M 115 (0,0))):=by rw[<-ah];exact ξ0 (heap_alloc_new w2 _)
    rw[ah];clear ah;have C4:=ξ0 (ξ4I M m k L w3 HM.out HF.out hk);go_wp2_with (refine wpList_load_row rfl 115 _ rfl w2.heap.size rfl 115 M (0,0) _ aj.out underlying115 rfl HZ.out ?_)
    refine C4.out.mono ?_;rintro e w4 ⟨gd,d,rfl,aq,hD,au,aw⟩;have ax:Hid (Below w.heap.size w w4):=ai.out.trans (aw.mono ai.out.size);have aG:Hid (w4.heap[w2.heap.size]?=some (.cells M 115 (0,0))):=(aw.block _ (lt_of_block aj.out)).trans aj.out;have aH:Hid (w4.ownsRow w.heap.size 3 1 (.slice (some ⟨gd,0,none⟩) m m) m (ic d)):=ξv aq ai.out.size;have hI:A0b w4 (some ⟨gd,0,none⟩) m d:=by
     obtain⟨a,cap,e,h1,_⟩:=ξl aq (by have:=HF.out.hi;omega);simp only[Value.slice.injEq]at e;rw[e.1];exact h1
    have aC:=ξ0 hD;have aI:=ξ0 au;have C5:=ξ0 (ξ3x M (some ⟨gd,0,none⟩) m m L d w4 HM.out HF.out hI hD.low au);clear aq hD au aw hI C4 ai aj;go_wp2_with (refine wpList_load_row rfl 115 _ rfl w2.heap.size rfl 115 M (0,0) _ aG.out underlying115 rfl HZ.out ?_);refine C5.out.mono ?_;rintro e w5 ⟨gp,p,rfl,aD,hP,ay⟩;have HQ:Hid (BQ w w5 (m:Int) (k:Int) L (.slice (some ⟨gp,0,none⟩) m m) (.slice (some ⟨gd,0,none⟩) m m) p d):=by
     refine⟨HP.out p d aC.out hP aI.out,ax.out.trans (ay.mono ax.out.size),?_,?_⟩
     ·rw[hP.len];exact ξv aD ax.out.size
     ·rw[aC.out.len];exact own_below aH.out ay
    clear aD hP ay;go_wp2_with fail
    go_ret3
    exact⟨_,_,p,d,rfl,HQ.out⟩
 ·have hl:lf N L r=ef N L:=by unfold lf;rw[if_pos (by simpa using h0)]
  have HP:Hid (BP N r L [] []):=⟨λ_=>⟨rfl,rfl⟩,λq=>absurd (hl.symm.trans q) h0⟩;rw[hl];rw[ξb h0]at C ⊢;generalize ef N L=f at *;clear hl;go_enter func16,ntmps16;go_wp2_with fail
  refine C.out.mono ?_;rintro e w1 ⟨rfl,ae⟩;have HW:=ξ0 ae;clear ae;go_wp2_with fail
  go_ret3
  exact⟨_,_,[],[],rfl,HP.out,HW.out,Ξr _ _ _ _,Ξr _ _ _ _⟩
end Go.Proofs.YtpiamlgmadnepaaGreat.Tree
