/-
 What the proof needs.
-/
import Derived.Test.YtpiamlgmadnepaaGreatMathAll
import Derived.Test.YtpiamlgmadnepaaGreatShelfAll
import Derived.Test.YtpiamlgmadnepaaGreatRows
import Derived.ProofKit
import Derived.OpenShut
import Derived.ChangeOld
import Derived.BigQuiet
import Derived.Sort.OwnSortedInts
import Derived.WalkSmall
import Derived.WalkSpells
import Derived.LoopTactic
import Derived.Deep.AppendLies
import Derived.Deep.LoopGhost
import Derived.Shelf.AbstractIn
import Derived.Outline
import Derived.RegionTactic
import Derived.Deep.CutRange
open Go.Proofs.Tryz
set_option linter.unusedVariables false
set_option maxHeartbeats 4000000
set_option maxRecDepth 100000
namespace Go.Proofs.YtpiamlgmadnepaaGreat.Gaps
open ChangeShapes WideShapes ChangeAt RowKit Go.Sort Go.Shelf Mem GM
variable {e base n g b mb B k cap:Nat}{y ag tr nw T now:Int}{w w' w2 wr w4 w6:World}{v v0 v1 gv kv dv gv2:Value}{bs:List Nat}{xs:List Value}{a:Option Addr}{L G:List Int}{t:TypeId}{cs:Array Value}{M A:Its}{x:Lk}{O:Obj}
def A0a(e:Nat):Value:=if e=0 then .nilIface else .iface 101 (.int .i64 (e:Int))
theorem ξ4:A0a 0=.nilIface:=rfl
theorem ξb(h:e≠0):A0a e=.iface 101 (.int .i64 (e:Int)):=by simp[A0a,h]
theorem ξq(f:Nat)(w:World):(binOp .neq 25 (A0a f) .nilIface).run prog w=.ok (.bool (!decide (f=0))) w:=by
 by_cases p:f=0
 ·rw[p,ξ4];simp[go_sem]
 ·rw[ξb p];simp[go_sem,p]
theorem ξp(f:Nat)(o1:Operand)(w:World):(eqGuard .neq 25 o1 (.const .nilIface) (A0a f) .nilIface).run prog w=.ok () w:=by
 by_cases p:f=0
 ·rw[p,ξ4];unfold eqGuard;simp
 ·rw[ξb p];simp[go_sem]
theorem info3:(prog.info? 3).map (λi=>(i.zero,i.size,i.bytes))=some (some (.int .i64 0),1,8):=by kernel_rfl
theorem ξJ(h0:-9223372036854775808<=y)(h1:y<=9223372036854775807):(Lit.int .i64 y).wf=true:=WalkArith.wf_i64 (by omega)
theorem ξj{p:Addr}(h:w.cell? p=some v)(o:Obj):(w.alloc o).cell? p=some v:=(((Ξp _ _).alloc (Ξo _) o).cell (Ξq w p h)).trans h
theorem past{cs:List Nat}{a b c:World}(h:Only bs a b)(k:Only cs b c)(hc:∀j∈cs,j∈bs∨a.heap.size<=j):Only bs a c:=
 ⟨k.1.trans h.1,k.2.1.trans h.2.1,k.2.2.1.trans h.2.2.1,Nat.le_trans h.2.2.2.1 k.2.2.2.1,λi hi hb=>(k.2.2.2.2 i (Ξn hi h.2.2.2.1) (λhh=>by
  rcases hc i hh with h1|h1
  ·exact hb h1
  ·omega)).trans (h.2.2.2.2 i hi hb)⟩
theorem ξv{base' size:Nat}(h:w.ownsRow base e size v n xs)(hb:base'<=base):w.ownsRow base' e size v n xs:=by
 refine⟨h.1,?_⟩;rcases h.2 with h|⟨g,cap,cur,e,hg,r⟩
 ·exact .inl h
 ·exact .inr ⟨g,cap,cur,e,Nat.le_trans hb hg,r⟩
def ic(L:List Int):List Value:=L.map (Value.int .i64)
theorem ξE(L:List Int):(ic L).length=L.length:=by simp[ic]
theorem ξ2M(L K:List Int):ic (L++K)=ic L++ic K:=by simp[ic]
theorem ξ22(L:List Int)(j:Nat)(h:j<L.length):(ic L)[j]?=some (.int .i64 (L.getD j 0)):=by
 simp[ic,List.getD_eq_getElem?_getD,List.getElem?_eq_getElem h]
def Ints(w:World)(a:Option Addr)(L:List Int):Prop:=∀j,j<L.length->∃b o,a=some ⟨b,o,none⟩/\w.cell? ⟨b,o+j,none⟩=some (.int .i64 (L.getD j 0))
def A0b(w:World)(a:Option Addr)(n:Nat)(L:List Int):Prop:=Ints w a L/\L.length=n/\n<=9223372036854775807
theorem A0b.below(h:A0b w a n L)(hb:Below w.heap.size w w'):A0b w' a n L:=by
 refine⟨λj hj=>?_,h.2⟩;obtain⟨b,o,e,hc⟩:=h.1 j hj;exact⟨b,o,e,(hb.cell (p:=⟨b,o+j,none⟩) (Ξq w ⟨b,o+j,none⟩ hc)).trans hc⟩
theorem A0b.nil(w:World)(a:Option Addr):A0b w a 0 []:=⟨λj h=>absurd h (by simp),rfl,by omega⟩
theorem A0b.at(h:A0b w a n L)(hn:0<n):∃b o,a=some ⟨b,o,none⟩/\∀j,j<n->w.cell? ⟨b,o+j,none⟩=some (.int .i64 (L.getD j 0)):=by
 obtain⟨b,o,e,_⟩:=h.1 0 (by have:=h.2.1;omega);refine⟨b,o,e,λj hj=>?_⟩;obtain⟨b',o',e',hc⟩:=h.1 j (by have:=h.2.1;omega);rw[e,Option.some.injEq,Addr.mk.injEq]at e';obtain⟨rfl,rfl,_⟩:=e';exact hc
theorem ξl(h:w.ownsRow base 3 1 v n (ic L))(hn:n<=9223372036854775807) :
 ∃a cap,v=.slice a n cap/\A0b w a n L/\(a=none->n=0/\cap=0)/\n<=cap/\∀ad,a=some ad->∃g,ad=⟨g,0,none⟩/\base<=g/\g<w.heap.size:=by
 have hl:L.length=n:=by have:=h.1;rw[ξE]at this;omega
 rcases h.2 with⟨rfl,rfl⟩|⟨g,cap,cur,rfl,hg,hb,hc,hm,hs,ht⟩
 ·have:L=[]:=Ξk hl;subst this;exact⟨none,0,rfl,A0b.nil _ _,λ_=>⟨rfl,rfl⟩,Ξo _,λad e=>by simp at e⟩
 ·refine⟨_,cap,rfl,⟨λj hj=>⟨g,0,rfl,?_⟩,hl,hn⟩,λe=>by simp at e,hc,λad e=>⟨g,by simpa using e.symm,hg,lt_of_block hb⟩⟩;rw[Nat.zero_add,h.cellAt j (by omega),ξ22 L j hj]
theorem ξD(h:w.ownsRow base 3 1 v n xs)(hg:v.ownBlock=some g):∃cs,w.heap[g]?=some (.cells cs 3 (0,0)):=by
 rcases h.2 with⟨rfl,_⟩|⟨g',cap,cur,rfl,_,hb,_⟩
 ·simp[Value.ownBlock]at hg
 ·simp[Value.ownBlock]at hg;subst hg;exact⟨cur,hb⟩
theorem ξ1J(v:Value)(base n:Nat)(L:List Int)(w:World)(h:w.ownsRow base 3 1 v n (ic L))(hb:n<=1000000) :
 Calls prog 74 #[v] w λe w'=>e=.returned (.tuple #[])/\w'.ownsRow base 3 1 v n (ic (L.mergeSort λx y=>decide (x<=y)))/\w.grownBy w' v.ownBlock:=by
 have hl:L.length=n:=by have:=h.1;rw[ξE]at this;omega
 rcases h.2 with⟨rfl,rfl⟩|⟨g,cap,cur,rfl,hg,hbl,hc,hm,hs,ht⟩
 ·have:L=[]:=Ξk hl;subst this;refine(AnyM.slices_Sort_int_none Tryz.A7x none 0 w).mono ?_;rintro e w' ⟨rfl,rfl⟩;exact⟨rfl,by simpa[ic]using Ξr _ _ _ _,World.grownBy.refl _ _⟩
 ·subst hl;refine(AnyM.slices_Sort_int Tryz.A7x g 0 cap L w (holds_of_blockI hbl (by simpa[ic]using ht)) (lt_of_block hbl) (by omega)).mono ?_;rintro e w' ⟨rfl,n,os,rfl⟩;exact⟨rfl,ownsRow_sortedI (by simp) hg hbl hc hm hs,grownBy_sortedI _⟩
open Maps
theorem A09:Keyed prog 3:=int_keyed underlying3
theorem A05(h:(Lit.int .i64 y).wf=true):keyOf prog 3 (.int .i64 y)=some (key y):=keyOf_int_mk underlying3 h
theorem A89(w:World):(zeroValue 139).run prog w=.ok (.agg #[.int .i64 0,.int .i64 0]) w:=by kernel_rfl
structure ξ7(w:World)(b mb:Nat)(ag tr nw T:Int)(M:Its)(gv:Value)(G:List Int):Prop where
 box:w.heap[b]?=some (.cells #[.int .i64 nw,.int .i64 ag,.int .i64 tr,.int .i64 T,.map (some mb),gv] 123 (0,0))
 map:∃D,w.ownsMap prog 3 akR mb M.length D/\Keys D M/\A1g D M
 row:w.ownsRow 0 3 1 gv G.length (ic G)
theorem A7k{v2 v3 v4 v5:Value}(h:w.heap[b]?=some (.cells #[v0,v1,v2,v3,v4,v5] t (0,0))) :
 w.cell? ⟨b,0,none⟩=some v0/\w.cell? ⟨b,1,none⟩=some v1/\w.cell? ⟨b,2,none⟩=some v2/\w.cell? ⟨b,3,none⟩=some v3/\w.cell? ⟨b,4,none⟩=some v4/\w.cell? ⟨b,5,none⟩=some v5:=by
 refine⟨?_,?_,?_,?_,?_,?_⟩<;>simp[World.cell?,h]
theorem A46(h:w.heap[b]?=some (.cells cs t (0,0)))(j:Nat)(u:Value) :
 (w.setCell ⟨b,j,none⟩ u).heap[b]?=some (.cells (cs.setIfInBounds j u) t (0,0)):=by
 exact heap_setCell_same w b j cs t u h
theorem A5m(h:w.heap[b]?=some (.cells cs t (0,0)))(j:Nat):w.frozen? ⟨b,j,none⟩=false:=by
 simp[World.frozen?,h]
theorem ξ7.cells(h:ξ7 w b mb ag tr nw T M gv G) :
 w.cell? ⟨b,0,none⟩=some (.int .i64 nw)/\w.cell? ⟨b,1,none⟩=some (.int .i64 ag)/\w.cell? ⟨b,2,none⟩=some (.int .i64 tr)/\w.cell? ⟨b,3,none⟩=some (.int .i64 T)/\w.cell? ⟨b,4,none⟩=some (.map (some mb))/\w.cell? ⟨b,5,none⟩=some gv:=A7k h.box
def A01(b mb:Nat)(gv:Value):List Nat:=b::mb::gv.ownBlock.toList
theorem ξ7.only(h:ξ7 w b mb ag tr nw T M gv G)(ho:Only bs w w')(hb:∀k∈A01 b mb gv,k∉bs):ξ7 w' b mb ag tr nw T M gv G:=by
 obtain⟨h1,⟨D,⟨es,ae,h4,h5⟩,h6,h7⟩,h8⟩:=h;exact⟨ho.block h1 (hb b (by simp[A01])),⟨D,⟨es,ae,ho.block h4 (hb mb (by simp[A01])),h5⟩,h6,h7⟩,ho.owns h8 (λk hk=>hb k (by simp[A01,hk]))⟩
theorem ξ7.below(h:ξ7 w b mb ag tr nw T M gv G)(hb:Below w.heap.size w w'):ξ7 w' b mb ag tr nw T M gv G:=
 h.only (Only.of_below hb []) (by simp)
theorem ξ7.ne(h:ξ7 w b mb ag tr nw T M gv G):b≠mb/\∀k,gv.ownBlock=some k->k≠b/\k≠mb:=by
 obtain⟨h1,⟨D,h2,_⟩,h8⟩:=h;obtain⟨es,c,h3⟩:=ξd h2;refine⟨?_,λk hk=>?_⟩
 ·intro e;rw[e,h3]at h1;simp at h1
 ·obtain⟨cs,hc⟩:=ξD h8 hk;refine⟨?_,?_⟩
  ·intro e;rw[e,h1]at hc;simp at hc
  ·intro e;rw[e,h3]at hc;simp at hc
theorem ξ7.lt(h:ξ7 w b mb ag tr nw T M gv G):∀k∈A01 b mb gv,k<w.heap.size:=by
 obtain⟨h1,⟨D,h2,_⟩,h8⟩:=h;intro k hk;simp only[A01,Ξf,Option.mem_toList]at hk;rcases hk with rfl|rfl|hk
 ·exact lt_of_block h1
 ·exact h2.lt
 ·exact(h8.lt k hk).2
theorem ξ7.set{ag' tr' nw' T':Int}(h:ξ7 w b mb ag tr nw T M gv G)(j:Nat)(u:Value)(he:(#[.int .i64 nw,.int .i64 ag,.int .i64 tr,.int .i64 T,.map (some mb),gv]:Array Value).setIfInBounds j u=#[.int .i64 nw',.int .i64 ag',.int .i64 tr',.int .i64 T',.map (some mb),gv]):ξ7 (w.setCell ⟨b,j,none⟩ u) b mb ag' tr' nw' T' M gv G:=by
 have ah:=h.ne;have ho:Only [b] w (w.setCell ⟨b,j,none⟩ u):=(Only.refl _ _).setCell (by simp) _;refine⟨?_,?_,ho.owns h.row (λk hk=>by simp;exact(ah.2 k hk).1)⟩
 ·have:=A46 h.box j u;rw[he]at this;exact this
 ·obtain⟨D,⟨es,ae,h4,h5⟩,h6⟩:=h.map;exact⟨D,⟨es,ae,ho.block h4 (by simp;exact λe=>ah.1 e.symm),h5⟩,h6⟩
theorem ξS{fn:Func}{tmps:Array Value}{i j:Nat}{x:Int}(hf:fn.results=#[.cell i 89,.tmp j])(hi:tmps.getD i undef=.pointer (some ⟨g,0,none⟩))(hb:w.cell? ⟨g,0,none⟩=some (.int .i64 x)) :
 (results fn tmps).run prog w=.ok (.tuple #[.agg #[.int .i64 x],tmps.getD j undef]) w:=by
 have ae:tmps[i]?.getD undef=.pointer (some ⟨g,0,none⟩):=by simpa using hi
 simp[results,hf,ae,go_sem,hb]
theorem ξM(w:World)(x:Int)(O:Obj):((w.alloc O).alloc (.cells #[.int .i64 x] 89)).cell? ⟨w.heap.size+1,0,none⟩=some (.int .i64 x):=by
 have h:=heap_alloc_new (w.alloc O) (.cells #[.int .i64 x] 89);simp only[World.size_alloc]at h;unfold World.cell?;simp only[h];simp
theorem ξC(w:World)(O1 O2:Obj):Below w.heap.size w ((w.alloc O1).alloc O2):=
 ((Ξp _ _).alloc (Ξo _) _).alloc (by simp) _
theorem ξH(nw now:Int)(w:World) :
 Calls prog 66 #[.agg #[.int .i64 nw],.int .i64 now] w λe w'=>e=.returned (.tuple #[.agg #[.int .i64 (if tf nw now=0 then now else 0)],A0a (tf nw now)])/\Below w.heap.size w w':=by
 by_cases c:now<0
 ·have e:tf nw now=1:=by unfold tf;rw[if_pos (.inl c)]
  rw[e];clear e;go_enter func66,ntmps66;go_wp2_with fail
  refine bodyPost_ret (ξS (g:=w.heap.size+1) rfl rfl (ξM w _ _)) rfl ?_;exact⟨rfl,ξC w _ _⟩
 by_cases c1:1000000<now
 ·have e:tf nw now=1:=by unfold tf;rw[if_pos (.inr c1)]
  rw[e];clear e;go_enter func66,ntmps66;go_wp2_with fail
  refine bodyPost_ret (ξS (g:=w.heap.size+1) rfl rfl (ξM w _ _)) rfl ?_;exact⟨rfl,ξC w _ _⟩
 by_cases c2:now<nw
 ·have e:tf nw now=6:=by unfold tf;rw[if_neg (by omega),if_pos c2]
  rw[e];clear e;go_enter func66,ntmps66;go_wp2_with fail
  refine bodyPost_ret (ξS (g:=w.heap.size+1) rfl rfl (ξM w _ _)) rfl ?_;exact⟨rfl,ξC w _ _⟩
 ·have e:tf nw now=0:=by unfold tf;rw[if_neg (by omega),if_neg c2]
  rw[e];clear e;go_enter func66,ntmps66;go_wp2_with fail
  refine bodyPost_ret (ξS (g:=w.heap.size+1) rfl rfl (ξM w _ _)) rfl ?_;exact⟨rfl,ξC w _ _⟩
theorem ξ12(ag tr:Int)(w:World)(h0:1<=ag)(h1:ag<=1000000)(h2:1<=tr)(h3:tr<=20) :
 Calls prog 20 #[.int .i64 ag,.int .i64 tr] w λe w'=>∃b mb,e=.returned (.tuple #[.pointer (some ⟨b,0,none⟩),.nilIface])/\w.heap.size<=b/\w.heap.size<=mb/\ξ7 w' b mb ag tr 0 (-1) [] (.slice none 0 0) []/\Below w.heap.size w w':=by
 have ae:=@run_makeMap prog;go_enter func20,ntmps20;go_wp2_with fail
 go_ret2;refine⟨_,_,rfl,Nat.le_succ _,Ξo _,⟨?_,⟨.map [],?_,ξ1b,λi hi=>by simp at hi⟩,Ξr _ _ _ _⟩,((Ξp _ _).alloc (Ξo _) _).alloc (by simp) _⟩
 ·have:=heap_alloc_new (w.alloc (.map #[] 0)) (.cells #[.int .i64 0,.int .i64 ag,.int .i64 tr,.int .i64 (-1),.map (some w.heap.size),.slice none 0 0] 123);simpa using this
 ·exact(World.ownsMap_made w _ _ _).alloc _
theorem ξ1w(b:Nat)(T y:Int)(w:World)(h:w.cell? ⟨b,3,none⟩=some (.int .i64 T))(h0:-1<=T)(h1:T<=1099511627776)(h2:0<=y)(h3:y<=1099511627776) :
 Calls prog 67 #[.pointer (some ⟨b,0,none⟩),.int .i64 y] w λe w'=>e=.returned (.int .i64 (lo T y))/\w'=w:=by
 by_cases c:T=-1
 ·have e:lo T y=0:=by unfold lo;rw[if_pos (.inl c)]
  rw[e];subst c;clear e;go_enter func67,ntmps67;go_wp2_with fail
  go_ret;exact⟨rfl,rfl⟩
 by_cases c2:y<=T
 ·have e:lo T y=0:=by unfold lo;rw[if_pos (.inr c2)]
  rw[e];clear e;have d1:(T==-1)=false:=by simpa using c
  clear c;go_enter func67,ntmps67;go_wp2_with fail
  go_ret;exact⟨rfl,rfl⟩
 ·have e:lo T y=y-T-1:=by unfold lo;rw[if_neg (by omega)]
  rw[e];clear e;have d1:(T==-1)=false:=by simpa using c
  clear c;go_enter func67,ntmps67;go_wp2_with fail
  go_ret;exact⟨rfl,rfl⟩
theorem A9a(m:Nat):AnyZI.SortsIn prog Tryz.A5a Fence.wide m:=
 ⟨λblk off cap ss W hH hblk hsz=>callsIn_wide.2 (AnyM.slices_Sort_int Tryz.A7x blk off cap ss W hH hblk hsz),
  λp cap W=>callsIn_wide.2 (AnyM.slices_Sort_int_none Tryz.A7x p cap W)⟩
theorem ξ7N(b mb:Nat)(ag tr nw T:Int)(M:Its)(gv:Value)(G:List Int)(w:World)(h:ξ7 w b mb ag tr nw T M gv G)(hr:Ris M)(hl:M.length<=1000) :
 Calls prog 73 #[.pointer (some ⟨b,0,none⟩)] w λe w'=>∃v,e=.returned v/\w'.ownsRow w.heap.size 3 1 v M.length (ic (nums M))/\Below w.heap.size w w':=by
 obtain⟨c0,c1,c2,c3,c4,c5⟩:=h.cells;obtain⟨D,ae,hK,hE⟩:=h.map;have au:Maps.size D=M.length:=hK.size (ae.entries A09) hr.apart;have ah:=hK.perm ae A09 underlying3 hr;clear hE hK c0 c1 c2 c3 c5;refine(callsIn_wide (n:=6)).1 ?_;have ax:=ae.lt;have ai:SeqGives Fence.wide 2 prog 130 #[.pointer (some ⟨w.heap.size,0,none⟩)] encZ (λss=>ss.Perm (intKeys D)) (Maps.size D) (w.alloc (.cells #[.map (some mb)] 121)):=
  AnyZI.keys_gives (ρ:=Tryz.A57) { Tryz.B0i with } Fence.wide _ trivial rfl (by omega) w.heap.size mb M.length D _ (by simp) (by simp) (by
   obtain⟨es,aj,hb,Ft,hs,hD⟩:=ae;exact⟨es,aj,(Below.heap_alloc _ _ mb ax).trans hb,Ft,hs,hD⟩)
 have cK:∀mb W,CallsIn Fence.wide 5 prog 105 #[.map mb] W λe w'=>e=.returned (.func (.func 130) #[] #[.pointer (some ⟨W.heap.size,0,none⟩)])/\w'=W.alloc (.cells #[.map mb] 121):=λmb W=>AnyZI.keys_in Tryz.B0i Fence.wide 5 trivial rfl mb W;have cS:=AnyZI.sorted_in Tryz.A7w Fence.wide 5 trivial trivial trivial trivial rfl (by omega) (A9a _) (enters_of func74 (by kernel_rfl) rfl) 130 #[.pointer (some ⟨w.heap.size,0,none⟩)] trivial (enters_of func130 (by kernel_rfl) rfl) _ _ (by unfold maxLen;omega) (by omega) _ ai;change CallsIn _ _ prog 104 _ _ _ at cS;have az:Fence.wide.fn 105:=trivial;have aA:Fence.wide.fn 104:=trivial;clear ai ae h;refine callsIn_of_wp func73 rfl trivial ?_ rfl;simp only[ntmps73,List.size_toArray,List.length_cons,List.length_nil,Nat.reduceAdd,Nat.reduceSub,Array.replicate_succ,Array.replicate_zero,List.push_toArray,List.append_toArray,List.nil_append,List.cons_append]
 gi_wp2_with (first
  | (gi_at_call 105;refine(cK _ _).mono ?_;rintro e w' ⟨rfl,rfl⟩)
  | (gi_at_call 104;refine cS.mono ?_;rintro e w' ⟨v,ss,rfl,hS,am,ay,hb⟩))
 go_ret;have aw:ss.Perm (nums M):=hS.trans ah.symm;have aq:ss.length=M.length:=by rw[aw.length_eq,ξd7]
 rw[ξ3V hr aw,aq]at am;exact⟨v,rfl,ξv am (by simp),((Ξp _ w).alloc (Ξo _) _).trans (hb.mono (by simp))⟩
theorem ξ7.turned{M':Its}(h:ξ7 w b mb ag tr nw T M gv G)(ho:Only [mb] w w')(hm:∃D,w'.ownsMap prog 3 akR mb M'.length D/\Keys D M'/\A1g D M'):ξ7 w' b mb ag tr nw T M' gv G:=by
 have ae:=h.ne;exact⟨ho.block h.box (by simp;exact ae.1),hm,ho.owns h.row (λk hk=>by simp;exact(ae.2 k hk).2)⟩
theorem ξ3m(h:ξ7 w b mb ag tr nw T M gv G)(x:Lk)(hx:∀i∈M,i.n≠x.n)(hw:(Lit.int .i64 x.n).wf=true)(hl:M.length<=1000) :
 ∃w2,(Instr.mapUpdate 121 (.map (some mb)) (.int .i64 x.n) (.agg #[.int .i64 x.t,.int .i64 x.a])).run prog w=.ok () w2/\ξ7 w2 b mb ag tr nw T (M++[x]) gv G/\Only [mb] w w2:=by
 obtain⟨D,ae,hK,hE⟩:=h.map;obtain⟨w2,aj,ah,ai⟩:=ae.store A09 underlying121 (by unfold maxLen;omega) (A05 hw) (ξ2Q x.t x.a);have ho:Only [mb] w w2:=(Only.refl _ _).grown ai.grown (by simp);refine⟨w2,aj,h.turned ho ⟨_,?_,ξ1z ae.isMap hK x _,ξ24 ae.isMap hE hx⟩,ho⟩;simpa[lv]using ah
theorem ξ5q{B:Its}(h:ξ7 w b mb ag tr nw T (A++x::B) gv G)(y:Lk)(hy:y.n=x.n)(hr:Ris (A++x::B))(hr2:Ris (A++y::B))(hw:(Lit.int .i64 x.n).wf=true)(hl:(A++x::B).length<=1000) :
 ∃w2,(Instr.mapUpdate 121 (.map (some mb)) (.int .i64 x.n) (.agg #[.int .i64 y.t,.int .i64 y.a])).run prog w=.ok () w2/\ξ7 w2 b mb ag tr nw T (A++y::B) gv G/\Only [mb] w w2:=by
 obtain⟨D,ah,hK,hE⟩:=h.map;obtain⟨w2,aj,ae,ai⟩:=ah.store A09 underlying121 (by unfold maxLen;omega) (A05 hw) (ξ2Q y.t y.a);have ho:Only [mb] w w2:=(Only.refl _ _).grown ai.grown (by simp);have am:=ξdk ah.isMap hK hy (.held (.agg #[.int .i64 y.t,.int .i64 y.a]));refine⟨w2,aj,h.turned ho ⟨_,?_,am,ξbT ah.isMap hE hy (ξ5Z hr)⟩,ho⟩;have ht:=GM.tight ae;rw[am.size (ae.entries A09) hr2.apart]at ht;exact ht
theorem ξ8W{B:Its}{D:DataW Value}(h:ξ7 w b mb ag tr nw T (A++x::B) gv G)(hK:Keys D (A++x::B))(hE:A1g D (A++x::B))(hr:Ris (A++x::B))(hown:w2.ownsMap prog 3 akR mb n (D.del (key x.n)))(ho:Only [mb] w w2):ξ7 w2 b mb ag tr nw T (A++B) gv G:=by
 have ha:=ξ5Z hr;have ae:=ξdl hK ha;refine h.turned ho ⟨_,?_,ae,ξbU hE ha⟩;have ht:=GM.tight hown;have ah:Ris (A++B):=by
  unfold Ris at hr ⊢;rw[List.pairwise_append,List.pairwise_cons]at hr;rw[List.pairwise_append];exact⟨hr.1,hr.2.1.2,λa h1 c h2=>hr.2.2 a h1 c (by simp[h2])⟩
 rw[ae.size (hown.entries A09) ah.apart]at ht;exact ht
theorem ξ3N{D:DataW Value}(h:ξ7 w b mb ag tr nw T M gv G)(hK:Keys D M)(hE:A1g D M)(hr:Ris M)(hown:w2.ownsMap prog 3 akR mb n (D.del (key y)))(ho:Only [mb] w w2):ξ7 w2 b mb ag tr nw T (M.filter λi=>decide (i.n≠y)) gv G:=by
 have ae:=ξ2x hK y;refine h.turned ho ⟨_,?_,ae,ξ2k hE y⟩;have ht:=GM.tight hown;have ah:Ris (M.filter λi=>decide (i.n≠y)):=hr.filter _;rw[ae.size (hown.entries A09) ah.apart]at ht;exact ht
def RSt(w wr:World)(b mb:Nat)(ag tr nw T:Int)(M:Its)(gv:Value)(G:List Int)(k:Nat):Prop:=ξ7 wr b mb ag tr nw T (M++fresh T k) gv G/\Only [b,mb] w wr
theorem ξcK(h:RSt w wr b mb ag tr nw T M gv G k)(hm:∀x∈M,x.n<=T)(h0:-1<=T)(h1:T<=1099511627776)(hl:M.length+k<=1000) :
 ∃w2,(Instr.mapUpdate 121 (.map (some mb)) (.int .i64 (T+1+(k:Int))) (.agg #[.int .i64 0,.int .i64 0])).run prog wr=.ok () w2/\RSt w w2 b mb ag tr nw T M gv G (k+1):=by
 obtain⟨g1,g2⟩:=h;obtain⟨w2,ae,hg,ho⟩:=ξ3m g1 ⟨T+1+(k:Int),0,0⟩ (by
  intro i hi;rcases Ξe.1 hi with hi|hi
  ·have:=hm i hi;simp only;omega
  ·obtain⟨j,hj,rfl⟩:=ξ1D.1 hi;simp only;omega) (ξJ (by simp only;omega) (by simp only;omega)) (by rw[Ξh,ξ5S];omega)
 refine⟨w2,ae,?_,g2.trans (ho.mono (by simp))⟩;rw[ξa1,<-List.append_assoc];exact hg
theorem ξ2V(b mb:Nat)(ag tr nw T y:Int)(M:Its)(gv:Value)(G:List Int)(w:World)(h:ξ7 w b mb ag tr nw T M gv G)(hm:∀x∈M,x.n<=T)(h0:-1<=T)(h1:T<=1099511627776)(h2:0<=y)(h3:y<=1099511627776)(hl:(M.length:Int)+lo T y<=200) :
 Calls prog 68 #[.pointer (some ⟨b,0,none⟩),.int .i64 y] w λe w'=>e=.returned (.tuple #[])/\ξ7 w' b mb ag tr nw y (M++fresh T (lo T y).toNat) gv G/\Only [b,mb] w w':=by
 have HC:=ξ0 (λw h=>ξ1w b T y w h h0 h1 h2 h3);have aj:=@ξ6i T y;obtain⟨K,hK⟩:∃K:Nat,lo T y=(K:Int):=⟨(lo T y).toNat,by omega⟩;rw[hK]at HC hl ⊢;rw[Int.toNat_natCast];clear hK aj;have ae:Hid (RSt w w b mb ag tr nw T M gv G 0):=⟨by simpa[fresh]using h,Only.refl _ _⟩;have HM:=ξ0 hm;have c3:=h.cells.2.2.2.1;clear h hm;go_enter func68,ntmps68;go_wp2_with fail
 refine(HC.out _ (by exact c3)).mono ?_;rintro e w1 ⟨rfl,rfl⟩;clear c3;go_wp2_with fail;go_loopg [4,8] K (λg _ i' wr=>∃(k:Nat),k+g=K/\i'=.int .i64 (k:Int)/\Hid (RSt w1 wr b mb ag tr nw T M gv G k))
 case atStart=>exact⟨0,by omega,rfl,ae⟩
 case round=>
  obtain⟨k,aw,rfl,HS⟩:=hrel;clear ae;obtain⟨c0,c1,c2,c3,c4,c5⟩:=HS.out.1.cells;have f3:=A5m HS.out.1.box 3;clear c0 c1 c2 c5;by_cases hk:k<K
  ·have am:(k:Int)<(K:Int):=by omega
   have ah:Hid (RSt w1 wr.drew b mb ag tr nw T M gv G k):=⟨HS.out.1.below (Ξp _ _).drew,HS.out.2.drew⟩;obtain⟨w2,aq,ai⟩:=ξcK ah.out HM.out h0 h1 (by omega);have au:=ξ0 ai;clear ai ah HS;go_wp2_with fail;go_region
   all_goals go_wp2_with fail
   go_roundg (K-(k+1))
   case measure=>omega
   case rel=>exact⟨k+1,by omega,by go_num,au⟩
  ·have am:¬(k:Int)<(K:Int):=by omega
   obtain rfl:k=K:=by omega
   go_wp2_with fail
   go_end0
   exact⟨rfl,HS.out.1.set 3 _ rfl,HS.out.2.setCell (by simp) _⟩
theorem ξ3A(b mb:Nat)(ag tr nw T:Int)(M:Its)(gv:Value)(G:List Int)(w:World)(h:ξ7 w b mb ag tr nw T M gv G)(hl:G.length<=1000000) :
 Calls prog 30 #[.pointer (some ⟨b,0,none⟩)] w λe w'=>e=.returned gv/\ξ7 w' b mb ag tr nw T M (.slice none 0 0) []/\w'.ownsRow 0 3 1 gv G.length (ic (G.mergeSort λx y=>decide (x<=y)))/\Only (A01 b mb gv) w w':=by
 obtain⟨c0,c1,c2,c3,c4,c5⟩:=h.cells;have f5:=A5m h.box 5;have aj:=h.ne;have HG:Hid (ξ7 (w.setCell ⟨b,5,none⟩ (.slice none 0 0)) b mb ag tr nw T M (.slice none 0 0) []):=by
  have ho:Only [b] w (w.setCell ⟨b,5,none⟩ (.slice none 0 0)):=(Only.refl _ _).setCell (by simp) _;refine⟨A46 h.box 5 _,?_,Ξr _ _ _ _⟩;obtain⟨D,⟨es,ah,h4,h5⟩,h6⟩:=h.map;exact⟨D,⟨es,ah,ho.block h4 (by simp;exact λe=>aj.1 e.symm),h5⟩,h6⟩
 have HO:Hid ((w.setCell ⟨b,5,none⟩ (.slice none 0 0)).ownsRow 0 3 1 gv G.length (ic G)):=
  ((Only.refl [b] w).setCell (p:=⟨b,5,none⟩) (by simp) _).owns h.row (λk hk=>by simp;exact(aj.2 k hk).1)
 have HN:=ξ0 aj;obtain⟨a,cap,rfl,_⟩:=ξl h.row (by omega);clear h aj c0 c1 c2 c3 c4;go_enter func30,ntmps30;go_wp2_with fail
 refine(ξ1J _ 0 G.length G _ HO.out (by omega)).mono ?_;rintro e w1 ⟨rfl,ai,ae⟩;have HR:=ξ0 ai;have am:=ξ0 ae;clear ai ae;go_wp2_with fail;go_ret;refine⟨rfl,HG.out.only ((Only.refl (Value.slice a G.length cap).ownBlock.toList _).grown am.out (by simp)) ?_,HR.out,(((Only.refl _ w).setCell (p:=⟨b,5,none⟩) (by simp[A01]) _).grown am.out (by intro k hk;simp[A01,hk]))⟩;intro k hk hc;simp only[Option.mem_toList]at hc;have:=HN.out.2 k hc;simp[A01,Value.ownBlock]at hk;omega
theorem ξ3H(nw now:Int)(w:World)(h:tf nw now≠0) :
 Calls prog 66 #[.agg #[.int .i64 nw],.int .i64 now] w λe w'=>e=.returned (.tuple #[.agg #[.int .i64 0],A0a (tf nw now)])/\Below w.heap.size w w':=by
 have:=ξH nw now w;rw[if_neg h]at this;exact this
theorem ξV(nw now:Int)(w:World)(h:tf nw now=0) :
 Calls prog 66 #[.agg #[.int .i64 nw],.int .i64 now] w λe w'=>e=.returned (.tuple #[.agg #[.int .i64 now],.nilIface])/\Below w.heap.size w w':=by
 have:=ξH nw now w;rw[if_pos h,h,ξ4]at this;exact this
theorem ξbD(b:Nat)(nw y now:Int)(w:World)(h:w.cell? ⟨b,0,none⟩=some (.int .i64 nw))(ht:tf nw now≠0) :
 Calls prog 27 #[.pointer (some ⟨b,0,none⟩),.int .i64 y,.int .i64 now] w λe w'=>e=.returned (.tuple #[.bool false,A0a (tf nw now)])/\Below w.heap.size w w':=by
 have HC:=ξ0 (λw=>ξ3H nw now w ht);generalize tf nw now=f at *;have hc:=ξq f;have hg:=ξp f;have d:decide (f=0)=false:=by simpa using ht
 clear ht;go_enter func27,ntmps27;go_wp2_with fail
 refine(HC.out _).mono ?_;rintro e w1 ⟨rfl,ae⟩;have HB:=ξ0 ae;clear ae;go_wp2_with fail;go_ret2;exact⟨rfl,HB.out.alloc HB.out.size _⟩
theorem ξ9T(b:Nat)(nw y now:Int)(w:World)(h:w.cell? ⟨b,0,none⟩=some (.int .i64 nw))(ht:tf nw now=0)(hy:y<0∨1099511627776<y) :
 Calls prog 27 #[.pointer (some ⟨b,0,none⟩),.int .i64 y,.int .i64 now] w λe w'=>e=.returned (.tuple #[.bool false,A0a 1])/\Below w.heap.size w w':=by
 have HC:=ξ0 (λw=>ξV nw now w ht);clear ht;by_cases c:y<0
 ·clear hy;go_enter func27,ntmps27;go_wp2_with fail
  refine(HC.out _).mono ?_;rintro e w1 ⟨rfl,ae⟩;have HB:=ξ0 ae;clear ae;go_wp2_with fail;go_ret2;exact⟨rfl,HB.out.alloc HB.out.size _⟩
 ·have c':1099511627776<y:=by omega
  clear hy;go_enter func27,ntmps27;go_wp2_with fail
  refine(HC.out _).mono ?_;rintro e w1 ⟨rfl,ae⟩;have HB:=ξ0 ae;clear ae;go_wp2_with fail;go_ret2;exact⟨rfl,HB.out.alloc HB.out.size _⟩
theorem ξbF(b mb:Nat)(ag tr nw T y now:Int)(M:Its)(gv:Value)(G:List Int)(w:World)(h:ξ7 w b mb ag tr nw T M gv G)(hI:GM.Inv ag tr nw T M)(ht:tf nw now=0)(h0:0<=y)(h1:y<=1099511627776)(hl:200<(M.length:Int)+lo T y) :
 Calls prog 27 #[.pointer (some ⟨b,0,none⟩),.int .i64 y,.int .i64 now] w λe w'=>e=.returned (.tuple #[.bool false,A0a 4])/\Below w.heap.size w w':=by
 have HC:=ξ0 (λw=>ξV nw now w ht);have HL:=ξ0 (λw h=>ξ1w b T y w h hI.t1 hI.t2 h0 h1);have HG:=ξ0 h;have c0:=h.cells.1;have aj:=hI.len;have am:0<=lo T y/\lo T y<=2199023255552:=by
  have:=hI.t1;have:=hI.t2;refine⟨ξ6i,?_⟩;unfold lo;split<;>omega
 have HI:=ξ0 hI;generalize lo T y=k at *;obtain⟨aq,au⟩:=am;clear ht h hI;go_enter func27,ntmps27;go_wp2_with fail
 refine(HC.out _).mono ?_;rintro e w1 ⟨rfl,ah⟩;have HB:=ξ0 ah;clear ah c0;have ai:Hid (ξ7 (w1.alloc (.cells #[.int .i64 now] 89)) b mb ag tr nw T M gv G):=(HG.out.below HB.out).below ((Ξp _ _).alloc (Ξo _) _);obtain⟨c0,c1,c2,c3,c4,c5⟩:=ai.out.cells;obtain⟨D,ae,hK,hE⟩:=ai.out.map;have hs:Maps.size D=M.length:=hK.size (ae.entries A09) HI.out.ris.apart;have HO:=ξ0 ae;have HS:=ξ0 hs;clear ae hs hK hE;go_wp2_with (at_len;refine wpList_len_own _ rfl _ 121 rfl 3 139 underlying121 _ mb M.length D rfl HO.out ?_;rw[HS.out]);refine(HL.out _ (by exact c3)).mono ?_;rintro e w2 ⟨rfl,rfl⟩;go_wp2_with fail;go_ret2;exact⟨rfl,HB.out.alloc HB.out.size _⟩
theorem ξbE(b mb:Nat)(ag tr nw T y now:Int)(M:Its)(gv:Value)(G:List Int)(w:World)(h:ξ7 w b mb ag tr nw T M gv G)(hI:GM.Inv ag tr nw T M)(ht:tf nw now=0)(h0:0<=y)(h1:y<=1099511627776)(hl:(M.length:Int)+lo T y<=200)(hT:T<y) :
 Calls prog 27 #[.pointer (some ⟨b,0,none⟩),.int .i64 y,.int .i64 now] w λe w'=>e=.returned (.tuple #[.bool true,.nilIface])/\ξ7 w' b mb ag tr now y (M++fresh T (lo T y).toNat) gv G/\Only [b,mb] w w':=by
 have HC:=ξ0 (λw=>ξV nw now w ht);have HL:=ξ0 (λw h=>ξ1w b T y w h hI.t1 hI.t2 h0 h1);have ai:=ξ0 (λw h=>ξ2V b mb ag tr now T y M gv G w h (λx hx=>by have:=hI.mem x hx;omega) hI.t1 hI.t2 h0 h1 hl);have HG:=ξ0 h;have c0:=h.cells.1;have ax:=hI.len;have aC:0<=lo T y:=ξ6i;have HI:=ξ0 hI;obtain⟨M2,aj⟩:=nm (M++fresh T (lo T y).toNat);rw[aj]at ai ⊢;clear aj;generalize lo T y=k at *;clear ht h hI;go_enter func27,ntmps27;go_wp2_with fail
 refine(HC.out _).mono ?_;rintro e w1 ⟨rfl,am⟩;have HB:=ξ0 am;clear am c0;have ah:Hid (ξ7 (w1.alloc (.cells #[.int .i64 now] 89)) b mb ag tr nw T M gv G):=(HG.out.below HB.out).below ((Ξp _ _).alloc (Ξo _) _);obtain⟨c0,c1,c2,c3,c4,c5⟩:=ah.out.cells;have f0:=A5m ah.out.box 0;obtain⟨D,ae,hK,hE⟩:=ah.out.map;have hs:Maps.size D=M.length:=hK.size (ae.entries A09) HI.out.ris.apart;have HO:=ξ0 ae;have HS:=ξ0 hs;clear ae hs hK hE;go_wp2_with (at_len;refine wpList_len_own _ rfl _ 121 rfl 3 139 underlying121 _ mb M.length D rfl HO.out ?_;rw[HS.out]);refine(HL.out _ (by exact c3)).mono ?_;rintro e w2 ⟨rfl,rfl⟩;have aD:b<w1.heap.size:=(HG.out.below HB.out).lt b (by simp[A01]);have aq:Hid (ξ7 ((w1.setCell ⟨b,0,none⟩ (.int .i64 now)).alloc (.cells #[.int .i64 now] 89)) b mb ag tr now T M gv G):=((HG.out.below HB.out).set 0 _ rfl).below ((Ξp _ _).alloc (Ξo _) _);have k3:=aq.out.cells.2.2.2.1;have ay:Hid (Only [b,mb] w ((w1.setCell ⟨b,0,none⟩ (.int .i64 now)).alloc (.cells #[.int .i64 now] 89))):=((Only.of_below HB.out _).setCell (by simp) _).alloc _;go_wp2_with fail
 refine(ai.out _ (by exact aq.out)).mono ?_;rintro e w3 ⟨rfl,au,aw⟩;have az:=ξ0 au;have aA:=ξ0 (ay.out.trans aw);clear au aw;go_wp2_with fail;go_ret2;exact⟨rfl,az.out,aA.out⟩
theorem ξdx(b mb:Nat)(ag tr nw T y now:Int)(M:Its)(gv:Value)(G:List Int)(w:World)(h:ξ7 w b mb ag tr nw T M gv G)(hI:GM.Inv ag tr nw T M)(ht:tf nw now=0)(h0:0<=y)(h1:y<=1099511627776)(hT:¬T<y) :
 Calls prog 27 #[.pointer (some ⟨b,0,none⟩),.int .i64 y,.int .i64 now] w λe w'=>e=.returned (.tuple #[.bool (has M y),.nilIface])/\ξ7 w' b mb ag tr now T (M.filter λi=>decide (i.n≠y)) gv G/\Only [b,mb] w w':=by
 have HC:=ξ0 (λw=>ξV nw now w ht);have az:lo T y=0:=by unfold lo;rw[if_pos (.inr (by omega))]
 have hL:=λw h=>ξ1w b T y w h hI.t1 hI.t2 h0 h1;rw[az]at hL;have HL:=ξ0 hL;have HG:=ξ0 h;have c0:=h.cells.1;have aF:=hI.len;have HI:=ξ0 hI;have aA:=ξJ (y:=y) (by omega) (by omega);obtain⟨hb,au⟩:=nm (has M y);rw[au];have aG:=ξ0 au;clear ht h hI az hL au;go_enter func27,ntmps27;go_wp2_with fail
 refine(HC.out _).mono ?_;rintro e w1 ⟨rfl,aC⟩;have HB:=ξ0 aC;clear aC c0;have aq:Hid (ξ7 (w1.alloc (.cells #[.int .i64 now] 89)) b mb ag tr nw T M gv G):=(HG.out.below HB.out).below ((Ξp _ _).alloc (Ξo _) _);obtain⟨c0,c1,c2,c3,c4,c5⟩:=aq.out.cells;have f0:=A5m aq.out.box 0;obtain⟨D,ae,hK,hE⟩:=aq.out.map;have hs:Maps.size D=M.length:=hK.size (ae.entries A09) HI.out.ris.apart;have HO:=ξ0 ae;have HS:=ξ0 hs;have HK:=ξ0 hK;have HE:=ξ0 hE;clear ae hs hK hE;go_wp2_with (at_len;refine wpList_len_own _ rfl _ 121 rfl 3 139 underlying121 _ mb M.length D rfl HO.out ?_;rw[HS.out]);refine(HL.out _ (by exact c3)).mono ?_;rintro e w2 ⟨rfl,rfl⟩;have aL:b<w1.heap.size:=(HG.out.below HB.out).lt b (by simp[A01]);have aw:Hid (ξ7 ((w1.setCell ⟨b,0,none⟩ (.int .i64 now)).alloc (.cells #[.int .i64 now] 89)) b mb ag tr now T M gv G):=((HG.out.below HB.out).set 0 _ rfl).below ((Ξp _ _).alloc (Ξo _) _);have aH:Hid (Only [b,mb] w ((w1.setCell ⟨b,0,none⟩ (.int .i64 now)).alloc (.cells #[.int .i64 now] 89))):=((Only.of_below HB.out _).setCell (by simp) _).alloc _;have ai:Hid (((w1.setCell ⟨b,0,none⟩ (.int .i64 now)).alloc (.cells #[.int .i64 now] 89)).ownsMap prog 3 akR mb M.length D):=by
  have aI:=aq.out.ne.1;have ho:Only [b] w1 (w1.setCell ⟨b,0,none⟩ (.int .i64 now)):=(Only.refl _ _).setCell (by simp) _;obtain⟨es,aj,h4,h5⟩:=HO.out;have aJ:mb<w1.heap.size:=(HG.out.below HB.out).lt mb (by simp[A01]);rw[Below.heap_alloc _ _ _ aJ]at h4;exact World.ownsMap.alloc ⟨es,aj,ho.block h4 (by simp;exact λe=>aI e.symm),h5⟩ _
 obtain⟨v',ps,ax,hr⟩:=ai.out.look_ok A09 underlying121 (A89 _) (ξ2Q 0 0) (A05 aA);obtain⟨⟨t',a',rfl⟩,_⟩:=ξ3P hr;rw[HK.out.at,aG.out]at ax;have ay:Hid (∀O,((((w1.setCell ⟨b,0,none⟩ (.int .i64 now)).alloc (.cells #[.int .i64 now] 89))).alloc O).ownsMap prog 3 akR mb M.length D):=ξ0 (λO=>ai.out.alloc O);have aD:=ξ0 (λO=>aw.out.below ((Ξp _ _).alloc (Ξo _) O));have k3:=aw.out.cells.2.2.2.1;have aM:=aw.out.cells.2.2.2.2.1;have k4:=λO=>(aD.out O).cells.2.2.2.2.1;clear hr;go_wp2_with (at_delete;refine wpList_delete_own _ rfl _ _ 121 3 rfl 139 A09 underlying121 _ mb M.length D rfl (ay.out _) _ _ rfl (A05 aA) ?_;intro w4 am ah);go_wp2_with fail
 go_ret2;have aE:=(Only.refl [mb] _).grown ah.grown (by simp);exact⟨rfl,ξ3N (aD.out _) HK.out HE.out HI.out.ris am aE,(aH.out.alloc _).trans (aE.mono (by simp))⟩
theorem ξf3(h:ξ7 w b mb ag tr nw T M gv G)(hx:x∈M)(hw:(Lit.int .i64 x.n).wf=true) :
 (Instr.lookup 121 (.map (some mb)) (.int .i64 x.n) false).run prog w=.ok (.agg #[.int .i64 x.t,.int .i64 x.a]) w:=by
 obtain⟨D,ae,hK,hE⟩:=h.map;obtain⟨v',ps,ah,hr⟩:=ae.lookup A09 underlying121 (A89 w) (ξ2Q 0 0) (A05 hw);rw[hE x hx]at hr;have e:=(ξ3P hr).2;simp only[Prod.mk.injEq,DataW.held.injEq]at e;rw[ah,<-e.1];rfl
theorem A6o(h:w.heap[b]?=some (.cells #[v0,v1] t (0,0))):w.cell? ⟨b,0,none⟩=some v0/\w.cell? ⟨b,1,none⟩=some v1:=by
 refine⟨?_,?_⟩<;>simp[World.cell?,h]
structure DSt(w wr:World)(B b mb:Nat)(ag tr now T:Int)(M:Its)(gv:Value)(G:List Int)(k:Nat)(kv dv gv2:Value):Prop where
 gaps:ξ7 wr b mb ag tr now T (dM ag tr now (M.take k)++M.drop k) gv2 (G++A0q ag tr now (M.take k))
 keys:wr.ownsRow w.heap.size 3 1 kv M.length (ic (nums M))
 due:wr.ownsRow B 3 1 dv (A07 ag tr now (M.take k)).length (ic (A07 ag tr now (M.take k)))
 kb:∀j,kv.ownBlock=some j->w.heap.size<=j/\j<B
 gb:∀j,gv2.ownBlock=some j->(gv.ownBlock=some j/\j<w.heap.size)∨(B<=j/\dv.ownBlock≠some j)
 s1:w.heap.size<=B
 s2:B<=wr.heap.size
 only:Only (A01 b mb gv) w wr
 bb:b<w.heap.size
 mm:mb<w.heap.size
theorem DSt.below{wy:World}(h:DSt w wr B b mb ag tr now T M gv G k kv dv gv2)(hb:Below wr.heap.size wr wy):DSt w wy B b mb ag tr now T M gv G k kv dv gv2:=
 { h with gaps:=h.gaps.below hb,keys:=(Only.of_below hb []).owns h.keys (by simp),due:=(Only.of_below hb []).owns h.due (by simp),s2:=Nat.le_trans h.s2 hb.size,only:=h.only.trans (Only.of_below hb _) }
theorem ξW(hx:M[k]?=some x):M.take (k+1)=M.take k++[x]/\M.drop k=x::M.drop (k+1):=by
 have hk:k<M.length:=(List.getElem?_eq_some_iff.1 hx).1;have e:M[k]=x:=(List.getElem?_eq_some_iff.1 hx).2;refine⟨?_,?_⟩
 ·rw[List.take_add_one,hx];rfl
 ·rw[List.drop_eq_getElem_cons hk,e]
theorem DSt.stay(h:DSt w wr B b mb ag tr now T M gv G k kv dv gv2)(hx:M[k]?=some x)(hs:stays ag now x=true):DSt w wr B b mb ag tr now T M gv G (k+1) kv dv gv2:=by
 obtain⟨e1,e2⟩:=ξW hx;obtain⟨o1,o2,o3⟩:=ξ5G (tr:=tr) hs;refine { h with gaps:=?_,due:=?_ }
 ·rw[e1,ξ7s,ξ3B,o1,o3,Ξu,List.append_assoc];have:=h.gaps;rw[e2]at this;exact this
 ·rw[e1,ξ1p,o2,Ξu];exact h.due
theorem ξ2a(hI:GM.Inv ag tr nw T M)(hx:M[k]?=some x):Ris (dM ag tr now (M.take k)++x::M.drop (k+1)):=by
 obtain⟨e1,e2⟩:=ξW hx;have hr:=hI.ris;have hM:M=M.take k++M.drop k:=(List.take_append_drop k M).symm;rw[e2]at hM;rw[hM]at hr;unfold Ris at hr ⊢;rw[List.pairwise_append]at hr ⊢;refine⟨?_,hr.2.1,?_⟩
 ·unfold dM;rw[List.pairwise_map];exact(hr.1.filter _).imp λq=>by rw[ξ2G,ξ2G];exact q
 ·intro a ha c hc;obtain⟨y,hy,rfl⟩:=Ξi.1 ha;rw[ξ2G];exact hr.2.2 y (Ξj.1 hy).1 c hc
theorem ξ6E{B:Its}{y:Lk}(h:Ris (A++x::B))(hy:y.n=x.n):Ris (A++y::B):=by
 unfold Ris at h ⊢;rw[List.pairwise_append,List.pairwise_cons]at h ⊢;refine⟨h.1,⟨λa ha=>?_,h.2.1.2⟩,λa ha c hc=>?_⟩
 ·rw[hy];exact h.2.1.1 a ha
 ·rcases Ξf.1 hc with rfl|hc
  ·rw[hy];exact h.2.2 a ha x (by simp)
  ·exact h.2.2 a ha c (by simp[hc])
theorem ξ8C(hx:M[k]?=some x):(dM ag tr now (M.take k)++x::M.drop (k+1)).length<=M.length:=by
 have hk:k<M.length:=(List.getElem?_eq_some_iff.1 hx).1;have:=List.length_filter_le (λx=>!gives ag tr now x) (M.take k);simp[dM]at this ⊢;omega
theorem DSt.give(h:DSt w wr B b mb ag tr now T M gv G k kv dv gv2)(hx:M[k]?=some x)(hs:stays ag now x=false)(ht:x.t=tr)
 (h4:ξ7 w4 b mb ag tr now T (dM ag tr now (M.take k)++M.drop (k+1)) gv2 (G++A0q ag tr now (M.take k))) (ho4:Only [mb] wr w4)
 (hn:n=(G++A0q ag tr now (M.take k)).length) (hown:w6.ownsRow 0 3 1 (.slice (some ⟨g,0,none⟩) (n+1) cap) (n+1) (ic (G++A0q ag tr now (M.take k))++[.int .i64 x.n])) (hgrow:(w4.alloc O).grownBy w6 gv2.ownBlock) (hat:gv2.ownBlock=some g∨g=w4.heap.size+1) :
 DSt w (w6.setCell ⟨b,5,none⟩ (.slice (some ⟨g,0,none⟩) (n+1) cap)) B b mb ag tr now T M gv G (k+1) kv dv (.slice (some ⟨g,0,none⟩) (n+1) cap):=by
 obtain⟨e1,e2⟩:=ξW hx;obtain⟨o1,o2,o3⟩:=ξ3r hs ht;have au:w4.heap.size=w4.heap.size:=rfl;have aw:wr.heap.size<=w4.heap.size:=ho4.2.2.2.1;have oA:Only gv2.ownBlock.toList w4 w6:=((Only.refl _ w4).alloc O).trans ((Only.refl _ _).grown hgrow (by simp));have ah:=h4.ne;have am:=h4.box;have aj:=h4.lt;have s1:=h.s1;have s2:=h.s2;have gb:=h.gb;have kb:=h.kb;have bb:=h.bb;have mm:=h.mm;have ax:g≠b:=by
  rcases hat with hat|hat
  ·exact(ah.2 g hat).1
  ·have:=aj b (by simp[A01]);omega
 have ay:g≠mb:=by
  rcases hat with hat|hat
  ·exact(ah.2 g hat).2
  ·have:=aj mb (by simp[A01]);omega
 have oS:Only (b::gv2.ownBlock.toList) w4 (w6.setCell ⟨b,5,none⟩ (.slice (some ⟨g,0,none⟩) (n+1) cap)):=(oA.mono (by intro k hk;simp at hk;simp[hk])).setCell (by simp) _;have oB:Only [b] w6 (w6.setCell ⟨b,5,none⟩ (.slice (some ⟨g,0,none⟩) (n+1) cap)):=(Only.refl _ _).setCell (by simp) _;have ae:Only (mb::b::gv2.ownBlock.toList) wr (w6.setCell ⟨b,5,none⟩ (.slice (some ⟨g,0,none⟩) (n+1) cap)):=(ho4.mono (by simp)).trans (oS.mono (by intro k hk;exact List.mem_cons_of_mem _ hk));have az:∀j,gv2.ownBlock=some j->j<wr.heap.size:=λj hj=>h.gaps.lt j (by simp[A01,hj]);refine { h with gaps:=⟨?_,?_,?_⟩,keys:=?_,due:=?_,gb:=?_,s2:=Nat.le_trans s2 ae.2.2.2.1,only:=?_ }
 ·have aq:=oA.block am (by intro hc;simp at hc;exact(ah.2 b hc).1 rfl);exact A46 aq 5 _
 ·rw[e1,ξ7s,o1,Ξu];obtain⟨D,⟨es,ai,m4,m5⟩,m6⟩:=h4.map;exact⟨D,⟨es,ai,oS.block m4 (by intro hc;simp at hc;rcases hc with hc|hc;exact ah.1 hc.symm;exact(ah.2 mb hc).2 rfl),m5⟩,m6⟩
 ·rw[e1,ξ3B,o3,<-List.append_assoc,Ξh,List.length_singleton,<-hn,ξ2M];exact oB.owns hown (by intro j hj hc;simp[Value.ownBlock]at hj hc;omega)
 ·refine ae.owns h.keys ?_;intro j hj hc;have:=kb j hj;simp at hc;rcases hc with hc|hc|hc
  ·omega
  ·omega
  ·rcases gb j hc with q|q<;>omega
 ·rw[e1,ξ1p,o2,Ξu];refine ae.owns h.due ?_;intro j hj hc;have:=(h.due.lt j hj).1;simp at hc;rcases hc with hc|hc|hc
  ·omega
  ·omega
  ·rcases gb j hc with q|q
   ·omega
   ·exact q.2 hj
 ·intro j hj;simp[Value.ownBlock]at hj;subst hj;rcases hat with hat|hat
  ·exact gb _ hat
  ·refine .inr ⟨by omega,λhd=>?_⟩;have:=(h.due.lt _ hd).2;omega
 ·refine past h.only ae ?_;intro j hj;simp at hj;rcases hj with rfl|rfl|hj
  ·exact .inl (by simp[A01])
  ·exact .inl (by simp[A01])
  ·rcases gb j hj with q|q
   ·exact .inl (by simp[A01,q.1])
   ·exact .inr (by omega)
theorem DSt.ask(h:DSt w wr B b mb ag tr now T M gv G k kv dv gv2)(hx:M[k]?=some x)(hs:stays ag now x=false)(ht:x.t≠tr)
 (h4:ξ7 w4 b mb ag tr now T (dM ag tr now (M.take k)++⟨x.n,x.t+1,now⟩::M.drop (k+1)) gv2 (G++A0q ag tr now (M.take k))) (ho4:Only [mb] wr w4)
 (hn:n=(A07 ag tr now (M.take k)).length) (hown:w6.ownsRow B 3 1 (.slice (some ⟨g,0,none⟩) (n+1) cap) (n+1) (ic (A07 ag tr now (M.take k))++[.int .i64 x.n])) (hgrow:(w4.alloc O).grownBy w6 dv.ownBlock) (hat:dv.ownBlock=some g∨g=w4.heap.size+1) :
 DSt w w6 B b mb ag tr now T M gv G (k+1) kv (.slice (some ⟨g,0,none⟩) (n+1) cap) gv2:=by
 obtain⟨e1,e2⟩:=ξW hx;obtain⟨o1,o2,o3⟩:=ξ4d hs ht;have ah:wr.heap.size<=w4.heap.size:=ho4.2.2.2.1;have oA:Only dv.ownBlock.toList w4 w6:=((Only.refl _ w4).alloc O).trans ((Only.refl _ _).grown hgrow (by simp));have s1:=h.s1;have s2:=h.s2;have gb:=h.gb;have kb:=h.kb;have bb:=h.bb;have mm:=h.mm;have db:∀j,dv.ownBlock=some j->B<=j/\j<wr.heap.size:=λj hj=>h.due.lt j hj;have ae:Only (mb::dv.ownBlock.toList) wr w6:=(ho4.mono (by simp)).trans (oA.mono (by intro k hk;simp at hk;simp[hk]));refine { h with gaps:=?_,keys:=?_,due:=?_,gb:=?_,s2:=Nat.le_trans s2 ae.2.2.2.1,only:=?_ }
 ·rw[e1,ξ7s,ξ3B,o1,o3,Ξu,List.append_assoc];refine h4.only oA ?_;intro j hj hc;simp at hc;have:=db j hc;simp only[A01,Ξf,Option.mem_toList]at hj;rcases hj with rfl|rfl|hj
  ·omega
  ·omega
  ·rcases gb j hj with q|q
   ·omega
   ·exact q.2 hc
 ·refine ae.owns h.keys ?_;intro j hj hc;have:=kb j hj;simp at hc;rcases hc with hc|hc
  ·omega
  ·have:=db j hc;omega
 ·rw[e1,ξ1p,o2,Ξh,List.length_singleton,<-hn,ξ2M];exact hown
 ·intro j hj;rcases gb j hj with q|q
  ·exact .inl q
  ·refine .inr ⟨q.1,?_⟩;intro hd;simp[Value.ownBlock]at hd;rcases hat with hat|hat
   ·exact q.2 (by rw[hat,hd])
   ·have:=h.gaps.lt j (by simp[A01,hj]);omega
 ·refine past h.only ae ?_;intro j hj;simp at hj;rcases hj with rfl|hj
  ·exact .inl (by simp[A01])
  ·have:=db j hj;exact .inr (by omega)
theorem ξ2N(b mb:Nat)(ag tr nw T now:Int)(M:Its)(gv:Value)(G:List Int)(w:World)(h:ξ7 w b mb ag tr nw T M gv G)(hI:GM.Inv ag tr nw T M)(ht:tf nw now=0)(hG:G.length+M.length<=1000000) :
 Calls prog 29 #[.pointer (some ⟨b,0,none⟩),.int .i64 now] w λe w'=>∃dv,e=.returned (.tuple #[dv,.nilIface])/\∃aq,ξ7 w' b mb ag tr now T (dM ag tr now M) aq (G++A0q ag tr now M) /\
  w'.ownsRow w.heap.size 3 1 dv (A07 ag tr now M).length (ic (A07 ag tr now M))/\(∀j,aq.ownBlock=some j->(gv.ownBlock=some j∨w.heap.size<=j)/\dv.ownBlock≠some j)/\Only (A01 b mb gv) w w':=by
 obtain⟨i0,bB,bC,bD,bE⟩:=info_parts info3;have HC:=ξ0 (λw=>ξV nw now w ht);obtain⟨cC,cD,cE⟩:=ξG ht;have HG:=ξ0 h;have HI:=ξ0 hI;have c0:=h.cells.1;have cw:=hI.len;have cF:=hI.r1;have cG:=hI.r2;have cH:=hI.a1;have cI:=hI.a2;have bJ:=ξ0 h.lt;clear h hI ht;go_enter func29,ntmps29;go_wp2_with fail
 refine(HC.out _).mono ?_;rintro e w1 ⟨rfl,bW⟩;have HB:=ξ0 bW;clear bW c0;have bK:Hid (ξ7 (w1.alloc (.cells #[.int .i64 now] 89)) b mb ag tr nw T M gv G):=(HG.out.below HB.out).below ((Ξp _ _).alloc (Ξo _) _);have f0:=A5m bK.out.box 0;have cy:=bK.out.cells.1;have cJ:b<w1.heap.size:=(HG.out.below HB.out).lt b (by simp[A01]);have bM:Hid (ξ7 ((w1.setCell ⟨b,0,none⟩ (.int .i64 now)).alloc (.cells #[.int .i64 now] 89)) b mb ag tr now T M gv G):=((HG.out.below HB.out).set 0 _ rfl).below ((Ξp _ _).alloc (Ξo _) _);have bN:Hid (Only (A01 b mb gv) w ((w1.setCell ⟨b,0,none⟩ (.int .i64 now)).alloc (.cells #[.int .i64 now] 89))):=((Only.of_below HB.out _).setCell (by simp[A01]) _).alloc _;go_wp2_with fail
 refine(ξ7N b mb ag tr now T M gv G _ (by exact bM.out) HI.out.ris (by omega)).mono ?_;rintro e w3 ⟨kv,rfl,aV,bF⟩;obtain⟨ka,ai,rfl,bG,_,_,bX⟩:=ξl aV (by omega);have bO:Hid (DSt w w3 w3.heap.size b mb ag tr now T M gv G 0 (.slice ka M.length ai) (.slice none 0 0) gv):=by
  have bY:w.heap.size<=((w1.setCell ⟨b,0,none⟩ (.int .i64 now)).alloc (.cells #[.int .i64 now] 89)).heap.size:=bN.out.2.2.2.1;refine⟨?_,ξv aV bY,?_,?_,?_,Nat.le_trans bY bF.size,Ξo _,bN.out.trans (Only.of_below bF _),bJ.out b (by simp[A01]),bJ.out mb (by simp[A01])⟩
  ·simpa[dM,A0q,nums]using bM.out.below bF
  ·simpa[A07,nums,ic]using Ξr w3 w3.heap.size 3 1
  ·intro j hj;have:=aV.lt j hj;omega
  ·intro j hj;exact .inl ⟨hj,bJ.out j (by simp[A01,hj])⟩
 clear aV bF bG bX bM bN bK HC cy f0;obtain⟨B,hB⟩:=nm w3.heap.size;rw[hB]at bO;clear hB;go_wp2_with fail;go_loopg [8,10,11,31] M.length (λg dv' _ _ i' wr=>∃(k m:Nat) (da:Option Addr) (dc:Nat) (aq:Value),k+g=M.length/\dv'=.slice da m dc/\i'=.int .i64 (k:Int)/\Hid (m=(A07 ag tr now (M.take k)).length/\DSt w wr B b mb ag tr now T M gv G k (.slice ka M.length ai) (.slice da m dc) aq))
 case atStart=>exact⟨0,0,none,0,gv,by omega,rfl,rfl,by simp[A07,nums],bO⟩
 case round=>
  obtain⟨k,m,da,dc,aq,bX,rfl,rfl,HS⟩:=hrel;clear bO;by_cases hk:k<M.length
  ·have cz:(k:Int)<(M.length:Int):=by omega
   have bZ:m<=200:=by have:=HS.out.1;have:=ξ5h ag tr now (M.take k);simp at this;omega
   obtain⟨x,hx⟩:∃x,M[k]?=some x:=⟨_,Ξd hk⟩;have bu:=HI.out.mem x (List.mem_of_getElem? hx);have c9:=HI.out.t2;have bq:=ξJ (y:=x.n) (by omega) (by omega);obtain⟨cL,cf,ek,bG,_,_,_⟩:=ξl HS.out.2.keys (by omega);cases ek;obtain⟨kg,ko,rfl,aX⟩:=bG.at (by omega);have ck:=aX k hk;have ex:(nums M).getD k 0=x.n:=by
    rw[Ξa,nums,List.getElem?_map,hx];rfl
   rw[ex]at ck;have bh:(dM ag tr now (M.take k)++M.drop k)=dM ag tr now (M.take k)++x::M.drop (k+1):=by rw[(ξW hx).2]
   have ax:=ξf3 HS.out.2.gaps (x:=x) (by rw[bh];simp) bq;obtain⟨c0,c1,c2,c3,c4,c5⟩:=HS.out.2.gaps.cells;have HX:=ξ0 hx;have aA:=ξ0 bh;have bP:0<=x.t:=bu.2.2.1;have bQ:x.t<=tr:=bu.2.2.2.1;have bR:0<=x.a:=bu.2.2.2.2.1;have bS:x.a<=nw:=bu.2.2.2.2.2;have cj:G.length+(A0q ag tr now (M.take k)).length<=999999:=by have:=ξdH ag tr now (M.take k);simp at this;omega
   clear aX bG ex bh hx bu c0 c3 c5;have aT:Hid (DSt w (wr.alloc (.cells #[.int .i64 x.t,.int .i64 x.a] 139)) B b mb ag tr now T M gv G k (.slice (some ⟨kg,ko,none⟩) M.length ai) (.slice da m dc) aq):=HS.out.2.below ((Ξp _ _).alloc (Ξo _) _);have e1:=ξj c1 (.cells #[.int .i64 x.t,.int .i64 x.a] 139);have e2:=ξj c2 (.cells #[.int .i64 x.t,.int .i64 x.a] 139);have HM:=ξ0 HS.out.1;clear HS;obtain⟨xn,bT⟩:=nm x.n;obtain⟨xt,bH⟩:=nm x.t;obtain⟨xa,bI⟩:=nm x.a;rw[bH,bI]at aT e1 e2 ax;rw[bT]at ax ck bq;rw[bH]at bP bQ;rw[bI]at bR bS;have aU:=ξ0 bT;have aI:=ξ0 bH;have cu:=ξ0 bI;clear bT bH bI;by_cases hs:0<xt/\now-xa<ag
   ·have d1:decide (0<xt)=true:=by simpa using hs.1
    have d2:decide (now-xa<ag)=true:=by simpa using hs.2
    have aY:Hid (stays ag now x=true):=by unfold stays;rw[aI.out,cu.out,d1,d2];rfl
    clear hs;go_wp2_with fail;go_quiet (fail)
    go_wp2_with fail
    go_roundg (M.length-(k+1))
    case measure=>omega
    case rel=>
     have HF:=ξ0 ((aT.out.below (below_drewN (Ξp _ _) nq)).stay HX.out aY.out);exact⟨k+1,m,da,dc,aq,by omega,rfl,by go_num,by have:=HM.out;rw[(ξW HX.out).1,ξ1p,(ξ5G (tr:=tr) aY.out).2.1,Ξu];exact this,HF.out⟩
   ·have aZ:Hid (stays ag now x=false):=by
     refine ξ0 ?_;unfold stays;rw[aI.out,cu.out];by_cases q:0<xt
     ·have q2:¬now-xa<ag:=λh=>hs ⟨q,h⟩;simp[q2]
     ·simp[q]
    by_cases hp:0<xt
    ·by_cases hxe:xt=tr
     ·have d1:decide (0<xt)=true:=by simpa using hp
      have d2:decide (now-xa<ag)=false:=by simp;omega
      clear hs hp;have dq:(xt==tr)=true:=by simpa using hxe
      have aJ:=ξ0 hxe;clear hxe;go_wp2_with fail;go_quiet (fail)
      obtain⟨wq,ay⟩:=nm ((wr.alloc (.cells #[.int .i64 xt,.int .i64 xa] 139)).drewN nq);have aW:wq.cell? ⟨wr.heap.size,0,none⟩=some (.int .i64 xt):=by rw[<-ay];exact(A6o (heap_alloc_new wr (.cells #[.int .i64 xt,.int .i64 xa] 139))).1
      have aF:Hid (DSt w wq B b mb ag tr now T M gv G k (.slice (some ⟨kg,ko,none⟩) M.length ai) (.slice da m dc) aq):=by rw[<-ay];exact aT.out.below (below_drewN (Ξp _ _) _)
      rw[ay];clear ay aT e1 e2 ax ck;obtain⟨c0,c1,c2,c3,c4,c5⟩:=aF.out.gaps.cells;go_wp2_with fail;go_quiet (fail)
      obtain⟨wp,aC⟩:=nm (wq.drewN nq);have aD:Hid (DSt w wp B b mb ag tr now T M gv G k (.slice (some ⟨kg,ko,none⟩) M.length ai) (.slice da m dc) aq):=by rw[<-aC];exact aF.out.below (below_drewN (Ξp _ _) _)
      rw[aC];clear aC aF c0 c1 c2 c3 c4 c5 aW;obtain⟨c0,c1,c2,c3,c4,c5⟩:=aD.out.gaps.cells;obtain⟨n,hn⟩:∃n,n=(G++A0q ag tr now (M.take k)).length:=⟨_,rfl⟩;have cA:n<=999999:=by rw[hn,Ξh];exact cj
      have HN:=ξ0 hn;have aE:wp.ownsRow 0 3 1 aq n (ic (G++A0q ag tr now (M.take k))):=by rw[hn];exact aD.out.gaps.row
      clear hn;obtain⟨bz,b9,bU,_⟩:=ξl aE (by omega);subst bU;clear aE;obtain⟨D,aL,hK,hE⟩:=aD.out.gaps.map;have HO:=ξ0 aL;have aM:Hid (∀w4,w4.ownsMap prog 3 akR mb (dM ag tr now (M.take k)++M.drop k).length (D.del (key xn))->wp.mapTurned w4 mb->ξ7 w4 b mb ag tr now T (dM ag tr now (M.take k)++M.drop (k+1)) (.slice bz n b9) (G++A0q ag tr now (M.take k))/\Only [mb] wp w4):=by
       refine ξ0 (λw4 aj ah=>?_);have aO:Only [mb] wp w4:=(Only.refl [mb] _).grown ah.grown (by simp);refine⟨ξ8W (x:=x) (D:=D) ?_ ?_ ?_ (ξ2a HI.out HX.out) (by rw[aU.out];exact aj) aO,aO⟩
       ·rw[<-aA.out];exact aD.out.gaps
       ·rw[<-aA.out];exact hK
       ·rw[<-aA.out];exact hE
      clear aL hK hE;go_wp2_with (first
       | (at_delete;refine wpList_delete_own _ rfl _ _ 121 3 rfl 139 A09 underlying121 _ mb _ D rfl HO.out _ _ rfl (A05 bq) ?_;intro w4 aj ah;have az:=ξ0 (aM.out w4 aj ah).1;have aP:=ξ0 (aM.out w4 aj ah).2;have k5:=az.out.cells.2.2.2.2.2;have bi:Hid (w4.ownsRow 0 3 1 (.slice bz n b9) n (ic (G++A0q ag tr now (M.take k)))):=(by rw[HN.out];rw[HN.out]at az;exact az.out.row);clear aj ah)
       | (at_builtin;refine wpList_append_lies _ rfl _ _ 35 rfl 0 3 i0 _ 1 8 underlying35 bB bC bD bE rfl (by decide) _ n (ic (G++A0q ag tr now (M.take k))) rfl (bi.out.alloc _) ⟨w4.heap.size,0,none⟩ 1 1 [.int .i64 xn] rfl rfl (World.news_of_block (cs:=#[.int .i64 xn]) (t:=3) (fr:=(0,0)) (heap_alloc_new w4 _)) ?c2 (by omega) ?b1 ?b2 (Nat.zero_le _) (w4.heap.size+1) (by simp) ?next))
      case c2=>intro u aQ;simp at aQ;subst aQ;rfl
      case b1=>unfold maxLen;omega
      case b2=>omega
      case next=>
       intro gg au w6 am ae aw aG;have bV:b<w4.heap.size:=az.out.lt b (by simp[A01]);have bj:w6.heap[b]?=_:=(ae.block b (by simp;omega) (by intro e;have:=(az.out.ne.2 b e.symm).1;omega)).trans ((Below.heap_alloc _ _ _ bV).trans az.out.box);have k6:=(A7k bj).2.2.2.2.2;have f6:=A5m bj 5;have HF:Hid (DSt w (w6.setCell ⟨b,5,none⟩ (.slice (some ⟨gg,0,none⟩) (n+1) au)) B b mb ag tr now T M gv G (k+1) (.slice (some ⟨kg,ko,none⟩) M.length ai) (.slice da m dc) (.slice (some ⟨gg,0,none⟩) (n+1) au)):=
        aD.out.give HX.out aZ.out (by rw[aI.out];exact aJ.out) az.out aP.out HN.out (by rw[aU.out];exact am) ae aw
       clear am ae aw aG bj;go_wp2_with fail;go_roundg (M.length-(k+1))
       case measure=>omega
       case rel=>exact⟨k+1,m,da,dc,_,by omega,rfl,by go_num,by have:=HM.out;rw[(ξW HX.out).1,ξ1p,(ξ3r aZ.out (aI.out.trans aJ.out)).2.1,Ξu];exact this,HF.out⟩
     ·have d1:decide (0<xt)=true:=by simpa using hp
      have d2:decide (now-xa<ag)=false:=by simp;omega
      clear hs hp;have dq:(xt==tr)=false:=by simpa using hxe
      have aJ:=ξ0 hxe;clear hxe;go_wp2_with fail;go_quiet (fail)
      obtain⟨wq,ay⟩:=nm ((wr.alloc (.cells #[.int .i64 xt,.int .i64 xa] 139)).drewN nq);have aW:wq.cell? ⟨wr.heap.size,0,none⟩=some (.int .i64 xt):=by rw[<-ay];exact(A6o (heap_alloc_new wr (.cells #[.int .i64 xt,.int .i64 xa] 139))).1
      have aF:Hid (DSt w wq B b mb ag tr now T M gv G k (.slice (some ⟨kg,ko,none⟩) M.length ai) (.slice da m dc) aq):=by rw[<-ay];exact aT.out.below (below_drewN (Ξp _ _) _)
      rw[ay];clear ay aT e1 e2 ax ck;obtain⟨c0,c1,c2,c3,c4,c5⟩:=aF.out.gaps.cells;go_wp2_with fail;go_quiet (fail)
      obtain⟨wp,aC⟩:=nm (wq.drewN nq);have aD:Hid (DSt w wp B b mb ag tr now T M gv G k (.slice (some ⟨kg,ko,none⟩) M.length ai) (.slice da m dc) aq):=by rw[<-aC];exact aF.out.below (below_drewN (Ξp _ _) _)
      have cB:wp.cell? ⟨wr.heap.size,0,none⟩=some (.int .i64 xt):=by rw[<-aC];exact aW
      rw[aC];clear aC aF c0 c1 c2 c3 c4 c5 aW;obtain⟨c0,c1,c2,c3,c4,c5⟩:=aD.out.gaps.cells;have aH:Hid (DSt w wp.drew B b mb ag tr now T M gv G k (.slice (some ⟨kg,ko,none⟩) M.length ai) (.slice da m dc) aq):=aD.out.below (Ξp _ _).drew;obtain⟨w4,aS,bA,aO⟩:=ξ5q (A:=dM ag tr now (M.take k)) (B:=M.drop (k+1)) (x:=x) (by rw[<-aA.out];exact aH.out.gaps) ⟨x.n,x.t+1,now⟩ rfl (ξ2a HI.out HX.out) (ξ6E (ξ2a HI.out HX.out) rfl) (by rw[aU.out];exact bq) (by have:=ξ8C (ag:=ag) (tr:=tr) (now:=now) HX.out;omega);rw[aU.out,aI.out]at aS;have az:=ξ0 bA;have aP:=ξ0 aO;clear bA aO;go_wp2_with fail;go_region
      all_goals go_wp2_with (at_builtin;refine wpList_append_lies _ rfl _ _ 35 rfl B 3 i0 _ 1 8 underlying35 bB bC bD bE rfl (by decide) _ m (ic (A07 ag tr now (M.take k))) rfl ?own ⟨w4.heap.size,0,none⟩ 1 1 [.int .i64 xn] rfl rfl (World.news_of_block (cs:=#[.int .i64 xn]) (t:=3) (fr:=(0,0)) (heap_alloc_new w4 _)) ?c2 (by omega) ?b1 ?b2 ?b3 (w4.heap.size+1) (by simp) ?next)
      case own=>
       have hd:=aH.out.due;rw[<-HM.out]at hd;refine(aP.out.owns hd ?_).alloc _;intro j hj hc;have h1:=(hd.lt j hj).1;have h2:=aH.out.mm;have h3:=aH.out.s1;simp at hc;omega
      case c2=>intro u aQ;simp at aQ;subst aQ;rfl
      case b1=>unfold maxLen;omega
      case b2=>omega
      case b3=>have h1:=aH.out.s2;have h2:=aP.out.2.2.2.1;simp;omega
      case next=>
       intro gg au w6 am ae aw aG;have HF:Hid (DSt w w6 B b mb ag tr now T M gv G (k+1) (.slice (some ⟨kg,ko,none⟩) M.length ai) (.slice (some ⟨gg,0,none⟩) (m+1) au) aq):=
        aH.out.ask HX.out aZ.out (by rw[aI.out];exact aJ.out) az.out aP.out HM.out (by rw[aU.out];exact am) ae aw
       clear am ae aw aG;go_wp2_with fail;go_roundg (M.length-(k+1))
       case measure=>omega
       case rel=>exact⟨k+1,m+1,some ⟨gg,0,none⟩,au,aq,by omega,rfl,by go_num,by have:=HM.out;rw[(ξW HX.out).1,ξ1p,(ξ4d aZ.out (by rw[aI.out];exact aJ.out)).2.1,Ξh,List.length_singleton,<-this],HF.out⟩
    ·by_cases hxe:xt=tr
     ·have d1:decide (0<xt)=false:=by simpa using hp
      clear hs hp;have dq:(xt==tr)=true:=by simpa using hxe
      have aJ:=ξ0 hxe;clear hxe;go_wp2_with fail;go_quiet (fail)
      obtain⟨wq,ay⟩:=nm ((wr.alloc (.cells #[.int .i64 xt,.int .i64 xa] 139)).drewN nq);have aW:wq.cell? ⟨wr.heap.size,0,none⟩=some (.int .i64 xt):=by rw[<-ay];exact(A6o (heap_alloc_new wr (.cells #[.int .i64 xt,.int .i64 xa] 139))).1
      have aF:Hid (DSt w wq B b mb ag tr now T M gv G k (.slice (some ⟨kg,ko,none⟩) M.length ai) (.slice da m dc) aq):=by rw[<-ay];exact aT.out.below (below_drewN (Ξp _ _) _)
      rw[ay];clear ay aT e1 e2 ax ck;obtain⟨c0,c1,c2,c3,c4,c5⟩:=aF.out.gaps.cells;go_wp2_with fail;go_quiet (fail)
      obtain⟨wp,aC⟩:=nm (wq.drewN nq);have aD:Hid (DSt w wp B b mb ag tr now T M gv G k (.slice (some ⟨kg,ko,none⟩) M.length ai) (.slice da m dc) aq):=by rw[<-aC];exact aF.out.below (below_drewN (Ξp _ _) _)
      rw[aC];clear aC aF c0 c1 c2 c3 c4 c5 aW;obtain⟨c0,c1,c2,c3,c4,c5⟩:=aD.out.gaps.cells;obtain⟨n,hn⟩:∃n,n=(G++A0q ag tr now (M.take k)).length:=⟨_,rfl⟩;have cA:n<=999999:=by rw[hn,Ξh];exact cj
      have HN:=ξ0 hn;have aE:wp.ownsRow 0 3 1 aq n (ic (G++A0q ag tr now (M.take k))):=by rw[hn];exact aD.out.gaps.row
      clear hn;obtain⟨bz,b9,bU,_⟩:=ξl aE (by omega);subst bU;clear aE;obtain⟨D,aL,hK,hE⟩:=aD.out.gaps.map;have HO:=ξ0 aL;have aM:Hid (∀w4,w4.ownsMap prog 3 akR mb (dM ag tr now (M.take k)++M.drop k).length (D.del (key xn))->wp.mapTurned w4 mb->ξ7 w4 b mb ag tr now T (dM ag tr now (M.take k)++M.drop (k+1)) (.slice bz n b9) (G++A0q ag tr now (M.take k))/\Only [mb] wp w4):=by
       refine ξ0 (λw4 aj ah=>?_);have aO:Only [mb] wp w4:=(Only.refl [mb] _).grown ah.grown (by simp);refine⟨ξ8W (x:=x) (D:=D) ?_ ?_ ?_ (ξ2a HI.out HX.out) (by rw[aU.out];exact aj) aO,aO⟩
       ·rw[<-aA.out];exact aD.out.gaps
       ·rw[<-aA.out];exact hK
       ·rw[<-aA.out];exact hE
      clear aL hK hE;go_wp2_with (first
       | (at_delete;refine wpList_delete_own _ rfl _ _ 121 3 rfl 139 A09 underlying121 _ mb _ D rfl HO.out _ _ rfl (A05 bq) ?_;intro w4 aj ah;have az:=ξ0 (aM.out w4 aj ah).1;have aP:=ξ0 (aM.out w4 aj ah).2;have k5:=az.out.cells.2.2.2.2.2;have bi:Hid (w4.ownsRow 0 3 1 (.slice bz n b9) n (ic (G++A0q ag tr now (M.take k)))):=(by rw[HN.out];rw[HN.out]at az;exact az.out.row);clear aj ah)
       | (at_builtin;refine wpList_append_lies _ rfl _ _ 35 rfl 0 3 i0 _ 1 8 underlying35 bB bC bD bE rfl (by decide) _ n (ic (G++A0q ag tr now (M.take k))) rfl (bi.out.alloc _) ⟨w4.heap.size,0,none⟩ 1 1 [.int .i64 xn] rfl rfl (World.news_of_block (cs:=#[.int .i64 xn]) (t:=3) (fr:=(0,0)) (heap_alloc_new w4 _)) ?c2 (by omega) ?b1 ?b2 (Nat.zero_le _) (w4.heap.size+1) (by simp) ?next))
      case c2=>intro u aQ;simp at aQ;subst aQ;rfl
      case b1=>unfold maxLen;omega
      case b2=>omega
      case next=>
       intro gg au w6 am ae aw aG;have bV:b<w4.heap.size:=az.out.lt b (by simp[A01]);have bj:w6.heap[b]?=_:=(ae.block b (by simp;omega) (by intro e;have:=(az.out.ne.2 b e.symm).1;omega)).trans ((Below.heap_alloc _ _ _ bV).trans az.out.box);have k6:=(A7k bj).2.2.2.2.2;have f6:=A5m bj 5;have HF:Hid (DSt w (w6.setCell ⟨b,5,none⟩ (.slice (some ⟨gg,0,none⟩) (n+1) au)) B b mb ag tr now T M gv G (k+1) (.slice (some ⟨kg,ko,none⟩) M.length ai) (.slice da m dc) (.slice (some ⟨gg,0,none⟩) (n+1) au)):=
        aD.out.give HX.out aZ.out (by rw[aI.out];exact aJ.out) az.out aP.out HN.out (by rw[aU.out];exact am) ae aw
       clear am ae aw aG bj;go_wp2_with fail;go_roundg (M.length-(k+1))
       case measure=>omega
       case rel=>exact⟨k+1,m,da,dc,_,by omega,rfl,by go_num,by have:=HM.out;rw[(ξW HX.out).1,ξ1p,(ξ3r aZ.out (aI.out.trans aJ.out)).2.1,Ξu];exact this,HF.out⟩
     ·have d1:decide (0<xt)=false:=by simpa using hp
      clear hs hp;have dq:(xt==tr)=false:=by simpa using hxe
      have aJ:=ξ0 hxe;clear hxe;go_wp2_with fail;go_quiet (fail)
      obtain⟨wq,ay⟩:=nm ((wr.alloc (.cells #[.int .i64 xt,.int .i64 xa] 139)).drewN nq);have aW:wq.cell? ⟨wr.heap.size,0,none⟩=some (.int .i64 xt):=by rw[<-ay];exact(A6o (heap_alloc_new wr (.cells #[.int .i64 xt,.int .i64 xa] 139))).1
      have aF:Hid (DSt w wq B b mb ag tr now T M gv G k (.slice (some ⟨kg,ko,none⟩) M.length ai) (.slice da m dc) aq):=by rw[<-ay];exact aT.out.below (below_drewN (Ξp _ _) _)
      rw[ay];clear ay aT e1 e2 ax ck;obtain⟨c0,c1,c2,c3,c4,c5⟩:=aF.out.gaps.cells;go_wp2_with fail;go_quiet (fail)
      obtain⟨wp,aC⟩:=nm (wq.drewN nq);have aD:Hid (DSt w wp B b mb ag tr now T M gv G k (.slice (some ⟨kg,ko,none⟩) M.length ai) (.slice da m dc) aq):=by rw[<-aC];exact aF.out.below (below_drewN (Ξp _ _) _)
      have cB:wp.cell? ⟨wr.heap.size,0,none⟩=some (.int .i64 xt):=by rw[<-aC];exact aW
      rw[aC];clear aC aF c0 c1 c2 c3 c4 c5 aW;obtain⟨c0,c1,c2,c3,c4,c5⟩:=aD.out.gaps.cells;have aH:Hid (DSt w wp.drew B b mb ag tr now T M gv G k (.slice (some ⟨kg,ko,none⟩) M.length ai) (.slice da m dc) aq):=aD.out.below (Ξp _ _).drew;obtain⟨w4,aS,bA,aO⟩:=ξ5q (A:=dM ag tr now (M.take k)) (B:=M.drop (k+1)) (x:=x) (by rw[<-aA.out];exact aH.out.gaps) ⟨x.n,x.t+1,now⟩ rfl (ξ2a HI.out HX.out) (ξ6E (ξ2a HI.out HX.out) rfl) (by rw[aU.out];exact bq) (by have:=ξ8C (ag:=ag) (tr:=tr) (now:=now) HX.out;omega);rw[aU.out,aI.out]at aS;have az:=ξ0 bA;have aP:=ξ0 aO;clear bA aO;go_wp2_with fail;go_region
      all_goals go_wp2_with (at_builtin;refine wpList_append_lies _ rfl _ _ 35 rfl B 3 i0 _ 1 8 underlying35 bB bC bD bE rfl (by decide) _ m (ic (A07 ag tr now (M.take k))) rfl ?own ⟨w4.heap.size,0,none⟩ 1 1 [.int .i64 xn] rfl rfl (World.news_of_block (cs:=#[.int .i64 xn]) (t:=3) (fr:=(0,0)) (heap_alloc_new w4 _)) ?c2 (by omega) ?b1 ?b2 ?b3 (w4.heap.size+1) (by simp) ?next)
      case own=>
       have hd:=aH.out.due;rw[<-HM.out]at hd;refine(aP.out.owns hd ?_).alloc _;intro j hj hc;have h1:=(hd.lt j hj).1;have h2:=aH.out.mm;have h3:=aH.out.s1;simp at hc;omega
      case c2=>intro u aQ;simp at aQ;subst aQ;rfl
      case b1=>unfold maxLen;omega
      case b2=>omega
      case b3=>have h1:=aH.out.s2;have h2:=aP.out.2.2.2.1;simp;omega
      case next=>
       intro gg au w6 am ae aw aG;have HF:Hid (DSt w w6 B b mb ag tr now T M gv G (k+1) (.slice (some ⟨kg,ko,none⟩) M.length ai) (.slice (some ⟨gg,0,none⟩) (m+1) au) aq):=
        aH.out.ask HX.out aZ.out (by rw[aI.out];exact aJ.out) az.out aP.out HM.out (by rw[aU.out];exact am) ae aw
       clear am ae aw aG;go_wp2_with fail;go_roundg (M.length-(k+1))
       case measure=>omega
       case rel=>exact⟨k+1,m+1,some ⟨gg,0,none⟩,au,aq,by omega,rfl,by go_num,by have:=HM.out;rw[(ξW HX.out).1,ξ1p,(ξ4d aZ.out (by rw[aI.out];exact aJ.out)).2.1,Ξh,List.length_singleton,<-this],HF.out⟩
  ·have cz:¬(k:Int)<(M.length:Int):=by omega
   obtain rfl:k=M.length:=by omega
   go_wp2_with fail
   go_ret2;have hf:=HS.out.2;have hm:=HS.out.1;refine⟨_,rfl,aq,?_,?_,?_,hf.only⟩
   ·have:=hf.gaps;rw[List.take_length,List.drop_length,Ξu]at this;exact this
   ·have:=hf.due;rw[List.take_length]at this;exact ξv this hf.s1
   ·intro j hj;rcases hf.gb j hj with q|q
    ·refine⟨.inl q.1,λhd=>?_⟩;have h1:=(hf.due.lt j hd).1;have h2:=hf.s1;omega
    ·exact⟨.inr (by have h2:=hf.s1;omega),q.2⟩
theorem ξ9U(b mb:Nat)(ag tr nw T y now:Int)(M:Its)(gv:Value)(G:List Int)(w:World)(h:ξ7 w b mb ag tr nw T M gv G)(hI:GM.Inv ag tr nw T M) :
 Calls prog 27 #[.pointer (some ⟨b,0,none⟩),.int .i64 y,.int .i64 now] w λe w'=>e=.returned (.tuple #[.bool (hB nw T M y now),A0a (hf nw T M y now)]) /\
  ξ7 w' b mb ag tr (hN nw T M y now) (hU nw T M y now) (hL nw T M y now) gv G/\Only [b,mb] w w':=by
 have same:∀w',hf nw T M y now≠0->Below w.heap.size w w'->hB nw T M y now=false/\ξ7 w' b mb ag tr (hN nw T M y now) (hU nw T M y now) (hL nw T M y now) gv G/\Only [b,mb] w w':=by
  intro w' h0 hb;unfold hB hN hU hL;simp only[h0,decide_false,Bool.false_and,if_false];exact⟨trivial,h.below hb,Only.of_below hb _⟩
 by_cases ht:tf nw now=0
 case neg=>
  have e1:hf nw T M y now=tf nw now:=by unfold hf;rw[if_pos ht]
  refine(ξbD b nw y now w h.cells.1 ht).mono ?_;rintro e w' ⟨rfl,hb⟩;obtain⟨q1,q2⟩:=same w' (by rw[e1];exact ht) hb;exact⟨by rw[q1,e1],q2⟩
 by_cases hy:y<0∨1099511627776<y
 ·have e1:hf nw T M y now=1:=by unfold hf;rw[if_neg (by simp[ht]),if_pos hy]
  refine(ξ9T b nw y now w h.cells.1 ht hy).mono ?_;rintro e w' ⟨rfl,hb⟩;obtain⟨q1,q2⟩:=same w' (by rw[e1];omega) hb;exact⟨by rw[q1,e1],q2⟩
 by_cases hl:200<(M.length:Int)+lo T y
 ·have e1:hf nw T M y now=4:=by unfold hf;rw[if_neg (by simp[ht]),if_neg hy,if_pos hl]
  refine(ξbF b mb ag tr nw T y now M gv G w h hI ht (by omega) (by omega) hl).mono ?_;rintro e w' ⟨rfl,hb⟩;obtain⟨q1,q2⟩:=same w' (by rw[e1];omega) hb;exact⟨by rw[q1,e1],q2⟩
 have e1:hf nw T M y now=0:=by unfold hf;rw[if_neg (by simp[ht]),if_neg hy,if_neg hl]
 have eN:hN nw T M y now=now:=by unfold hN;rw[if_pos e1]
 by_cases hT:T<y
 ·have eB:hB nw T M y now=true:=by unfold hB hx;simp[e1,hT]
  have eU:hU nw T M y now=y:=by unfold hU GM.hT;rw[if_pos e1,if_pos hT]
  have eL:hL nw T M y now=M++fresh T (lo T y).toNat:=by unfold hL hM;rw[if_pos e1,if_pos hT]
  refine(ξbE b mb ag tr nw T y now M gv G w h hI ht (by omega) (by omega) (by omega) hT).mono ?_;rintro e w' ⟨rfl,h1,h2⟩;rw[eB,e1,eN,eU,eL];exact⟨rfl,h1,h2⟩
 ·have eB:hB nw T M y now=has M y:=by unfold hB hx;simp[e1,hT]
  have eU:hU nw T M y now=T:=by unfold hU GM.hT;rw[if_pos e1,if_neg hT]
  have eL:hL nw T M y now=M.filter λi=>decide (i.n≠y):=by unfold hL hM;rw[if_pos e1,if_neg hT]
  refine(ξdx b mb ag tr nw T y now M gv G w h hI ht (by omega) (by omega) hT).mono ?_;rintro e w' ⟨rfl,h1,h2⟩;rw[eB,e1,eN,eU,eL];exact⟨rfl,h1,h2⟩
end Go.Proofs.YtpiamlgmadnepaaGreat.Gaps
