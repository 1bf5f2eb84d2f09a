/-
 What the proof needs.
-/
import Derived.Test.YtpiamlgmadnepaaGreatMathAll
import Derived.Test.YtpiamlgmadnepaaGreatRows
import Derived.ProofKit
import Derived.OpenShut
import Derived.ChangeOld
import Derived.BigQuiet
import Derived.WalkSmall
import Derived.WalkSpells
import Derived.LoopTactic
import Derived.RegionTactic
import Derived.Deep.AppendLies
import Derived.Deep.LoopGhost
import Derived.Outline
open Go.Proofs.Tryz
set_option linter.unusedVariables false
set_option maxHeartbeats 2000000
set_option maxRecDepth 100000
namespace Go.Proofs.YtpiamlgmadnepaaGreat.Pull
open ChangeShapes WideShapes ChangeAt RowKit Maps Mem PU
variable {y th nw x:Int}{w wr w':World}{b i k:Nat}{mb:Nat->Nat}{td ak:Nat->Int}{L K:Wts}{bs:List Nat}
def A0a(e:Nat):Value:=if e=0 then .nilIface else .iface 101 (.int .i64 (e:Int))
theorem ξ4:A0a 0=.nilIface:=rfl
theorem ξb{e:Nat}(h:e≠0):A0a e=.iface 101 (.int .i64 (e:Int)):=by simp[A0a,h]
theorem ξq(f:Nat)(w:World):(binOp .neq 25 (A0a f) .nilIface).run prog w=.ok (.bool (!decide (f=0))) w:=by
 by_cases p:f=0
 ·rw[p,ξ4];simp[go_sem]
 ·rw[ξb p];simp[go_sem,p]
theorem ξp(f:Nat)(o1:Operand)(w:World):(eqGuard .neq 25 o1 (.const .nilIface) (A0a f) .nilIface).run prog w=.ok () w:=by
 by_cases p:f=0
 ·rw[p,ξ4];unfold eqGuard;simp
 ·rw[ξb p];simp[go_sem]
theorem ξJ(h0:-9223372036854775808<=y)(h1:y<=9223372036854775807):(Lit.int .i64 y).wf=true:=WalkArith.wf_i64 (by omega)
theorem ξ9(h:Below w.heap.size w wr)(o:Obj):Below w.heap.size w (wr.alloc o):=h.alloc h.size o
theorem A09:Keyed prog 3:=int_keyed underlying3
theorem A05(h:(Lit.int .i64 y).wf=true):keyOf prog 3 (.int .i64 y)=some (key y):=keyOf_int_mk underlying3 h
structure Cells(cs:Array Value)(mb:Nat->Nat)(th nw:Int)(td ak:Nat->Int):Prop where
 sz:cs.size=26
 c0:cs[0]?=some (.int .i64 nw)
 c1:cs[1]?=some (.int .i64 th)
 cm:∀i,i<8->cs[2+i*3]?=some (.map (some (mb i)))
 ct:∀i,i<8->cs[2+i*3+1]?=some (.int .i64 (td i))
 ca:∀i,i<8->cs[2+i*3+2]?=some (.int .i64 (lst th (ak i)))
structure ξ8(w:World)(b:Nat)(mb:Nat->Nat)(th nw:Int)(td ak:Nat->Int)(L:Wts):Prop where
 box:∃cs,w.heap[b]?=some (.cells cs 201 (0,0))/\Cells cs mb th nw td ak
 map:∀i,i<8->∃D,w.ownsMap prog 3 inR (mb i) (Maps.size D) D/\KM D L ((i:Int)+1)
 ap:∀i j,i<8->j<8->mb i=mb j->i=j
theorem Cells.A62{cs:Array Value}(h:w.heap[b]?=some (.cells cs 201 (0,0)))(j:Nat):w.cell? ⟨b,j,none⟩=cs[j]?:=by
 simp[World.cell?,h]
theorem ξ8.cells(h:ξ8 w b mb th nw td ak L):w.cell? ⟨b,0,none⟩=some (.int .i64 nw)/\w.cell? ⟨b,1,none⟩=some (.int .i64 th):=by
 obtain⟨cs,h1,h2⟩:=h.box;exact⟨(Cells.A62 h1 0).trans h2.c0,(Cells.A62 h1 1).trans h2.c1⟩
theorem ξ8.A2l(h:ξ8 w b mb th nw td ak L)(hi:i<8):w.cell? ⟨b,2+i*3,none⟩=some (.map (some (mb i)))/\w.cell? ⟨b,2+i*3+1,none⟩=some (.int .i64 (td i))/\w.cell? ⟨b,2+i*3+2,none⟩=some (.int .i64 (lst th (ak i))):=by
 obtain⟨cs,h1,h2⟩:=h.box;exact⟨(Cells.A62 h1 _).trans (h2.cm i hi),(Cells.A62 h1 _).trans (h2.ct i hi),(Cells.A62 h1 _).trans (h2.ca i hi)⟩
theorem ξ8.free(h:ξ8 w b mb th nw td ak L)(j:Nat):w.frozen? ⟨b,j,none⟩=false:=by
 obtain⟨cs,h1,h2⟩:=h.box;simp[World.frozen?,h1]
theorem ξ8.lt(h:ξ8 w b mb th nw td ak L):b<w.heap.size:=by
 obtain⟨cs,h1,h2⟩:=h.box;exact lt_of_block h1
theorem ξ8.mlt(h:ξ8 w b mb th nw td ak L)(hi:i<8):mb i<w.heap.size:=by
 obtain⟨D,h1,_⟩:=h.map i hi;exact h1.lt
theorem ξ8.ne(h:ξ8 w b mb th nw td ak L)(hi:i<8):b≠mb i:=by
 obtain⟨cs,h1,h2⟩:=h.box;obtain⟨D,h3,_⟩:=h.map i hi;obtain⟨es,c,h4⟩:=ξd h3;intro e;rw[e,h4]at h1;simp at h1
def A2m(b:Nat)(mb:Nat->Nat):List Nat:=b::(List.range 8).map mb
theorem ξ1l:k∈A2m b mb↔k=b∨∃i,i<8/\k=mb i:=by
 simp only[A2m,Ξf,Ξi,List.mem_range];constructor
 ·rintro(h|⟨i,h1,h2⟩)
  ·exact .inl h
  ·exact .inr ⟨i,h1,h2.symm⟩
 ·rintro(h|⟨i,h1,h2⟩)
  ·exact .inl h
  ·exact .inr ⟨i,h1,h2.symm⟩
theorem ξ8.blt(h:ξ8 w b mb th nw td ak L):∀k∈A2m b mb,k<w.heap.size:=by
 intro k hk;rcases ξ1l.1 hk with rfl|⟨i,hi,rfl⟩
 ·exact h.lt
 ·exact h.mlt hi
theorem ξP{m n:Nat}{D:DataW Value}(h:w.ownsMap prog 3 inR m n D)(ho:Only bs w w')(hm:m∉bs):w'.ownsMap prog 3 inR m n D:=by
 obtain⟨es,ae,h4,h5⟩:=h;exact⟨es,ae,ho.block h4 hm,h5⟩
theorem ξ8.only(h:ξ8 w b mb th nw td ak L)(ho:Only bs w w')(hb:∀k∈A2m b mb,k∉bs):ξ8 w' b mb th nw td ak L:=by
 obtain⟨cs,h1,h2⟩:=h.box;refine⟨⟨cs,ho.block h1 (hb b (ξ1l.2 (.inl rfl))),h2⟩,λi hi=>?_,h.ap⟩;obtain⟨D,h3,h4⟩:=h.map i hi;exact⟨D,ξP h3 ho (hb _ (ξ1l.2 (.inr ⟨i,hi,rfl⟩))),h4⟩
theorem ξ8.below(h:ξ8 w b mb th nw td ak L)(hb:Below w.heap.size w w'):ξ8 w' b mb th nw td ak L:=
 h.only (Only.of_below hb []) (by simp)
theorem ξ8.mem(h:ξ8 w b mb th nw td ak L)(e:∀y,y∈L↔y∈K):ξ8 w b mb th nw td ak K:=
 ⟨h.box,λi hi=>by obtain⟨D,h1,h2⟩:=h.map i hi;exact⟨D,h1,h2.mem λy _=>e y⟩,h.ap⟩
theorem ξ8.A46{nw':Int}{td' ak':Nat->Int}(h:ξ8 w b mb th nw td ak L)(j:Nat)(u:Value)(hc:∀cs:Array Value,Cells cs mb th nw td ak->Cells (cs.setIfInBounds j u) mb th nw' td' ak'):ξ8 (w.setCell ⟨b,j,none⟩ u) b mb th nw' td' ak' L:=by
 obtain⟨cs,h1,h2⟩:=h.box;have ho:Only [b] w (w.setCell ⟨b,j,none⟩ u):=(Only.refl _ _).setCell (by simp) _;refine⟨⟨_,heap_setCell_same w b j cs 201 u h1,hc cs h2⟩,λi hi=>?_,h.ap⟩;obtain⟨D,h3,h4⟩:=h.map i hi;exact⟨D,ξP h3 ho (by simp;exact λe=>h.ne hi e.symm),h4⟩
theorem ξ8.A4u(h:ξ8 w b mb th nw td ak L)(x:Int):ξ8 (w.setCell ⟨b,0,none⟩ (.int .i64 x)) b mb th x td ak L:=by
 refine h.A46 0 _ λcs hc=>⟨by simpa using hc.sz,?_,?_,?_,?_,?_⟩
 ·rw[Ξb,if_pos rfl,if_pos (by have:=hc.sz;omega)]
 ·rw[Ξb,if_neg (by omega)];exact hc.c1
 ·intro i hi;rw[Ξb,if_neg (by omega)];exact hc.cm i hi
 ·intro i hi;rw[Ξb,if_neg (by omega)];exact hc.ct i hi
 ·intro i hi;rw[Ξb,if_neg (by omega)];exact hc.ca i hi
theorem ξ8.setA(h:ξ8 w b mb th nw td ak L)(hk:k<8)(hx:0<=x):ξ8 (w.setCell ⟨b,2+k*3+2,none⟩ (.int .i64 x)) b mb th nw td (upd ak k x) L:=by
 refine h.A46 _ _ λcs hc=>⟨by simpa using hc.sz,?_,?_,?_,?_,?_⟩
 ·rw[Ξb,if_neg (by omega)];exact hc.c0
 ·rw[Ξb,if_neg (by omega)];exact hc.c1
 ·intro i hi;rw[Ξb,if_neg (by omega)];exact hc.cm i hi
 ·intro i hi;rw[Ξb,if_neg (by omega)];exact hc.ct i hi
 ·intro i hi;rw[Ξb];by_cases e:i=k
  ·rw[if_pos (by omega),if_pos (by have:=hc.sz;omega)];simp only[upd,e,if_true,lst];rw[if_neg (by omega)]
  ·rw[if_neg (by omega)];simp only[upd,if_neg e];exact hc.ca i hi
theorem ξ8.turned(h:ξ8 w b mb th nw td ak L)(hk:k<8)(ho:Only [mb k] w w')(hm:∃D n,w'.ownsMap prog 3 inR (mb k) n D/\KM D K ((k:Int)+1))(e:∀y,y.b≠(k:Int)+1->(y∈L↔y∈K)):ξ8 w' b mb th nw td ak K:=by
 obtain⟨cs,h1,h2⟩:=h.box;refine⟨⟨cs,ho.block h1 (by simp;exact h.ne hk),h2⟩,λi hi=>?_,h.ap⟩;by_cases q:i=k
 ·subst q;obtain⟨D,n,h3,h4⟩:=hm;exact⟨D,PU.tight h3,h4⟩
 ·obtain⟨D,h3,h4⟩:=h.map i hi;exact⟨D,ξP h3 ho (by simp;exact λz=>q (h.ap i k hi hk z)),h4.mem λy hy=>e y (by omega)⟩
theorem ξ8.size(h:ξ8 w b mb th nw td ak L)(hI:PU.Inv L)(hi:i<8):∃D,w.ownsMap prog 3 inR (mb i) (Maps.size D) D/\KM D L ((i:Int)+1)/\Maps.size D=(of L ((i:Int)+1)).length:=by
 obtain⟨D,h1,h2⟩:=h.map i hi;exact⟨D,h1,h2,h2.size (h1.entries A09) hI.uq⟩
theorem ξ40(x:Int)(w:World):Calls prog 189 #[.int .i64 x] w λe w'=>e=.returned (.bool (decide (0<=x)&&decide (x<=200)))/\w'=w:=by
 by_cases h:0<=x
 ·have d:decide (0<=x)=true:=by simpa using h
  go_enter func189,ntmps189;go_wp2_with fail
  go_ret;exact⟨by simp[h],rfl⟩
 ·have d:decide (0<=x)=false:=by simpa using h
  go_enter func189,ntmps189;go_wp2_with fail
  go_ret;exact⟨by simp,rfl⟩
theorem ξk(x:Int)(w:World):Calls prog 190 #[.int .i64 x] w λe w'=>e=.returned (.bool (decide (1<=x)&&decide (x<=8)))/\w'=w:=by
 by_cases h:1<=x
 ·have d:decide (1<=x)=true:=by simpa using h
  go_enter func190,ntmps190;go_wp2_with fail
  go_ret;exact⟨by simp[h],rfl⟩
 ·have d:decide (1<=x)=false:=by simpa using h
  go_enter func190,ntmps190;go_wp2_with fail
  go_ret;exact⟨by simp,rfl⟩
theorem ξ6Y(b i:Nat)(w:World)(hi:i<8):Calls prog 191 #[.pointer (some ⟨b,0,none⟩),.int .i64 ((i:Int)+1)] w λe w'=>e=.returned (.pointer (some ⟨b,2+i*3,none⟩))/\w'=w:=by
 have h2:(i:Int)<8:=by omega
 go_enter func191,ntmps191;go_wp2_with fail
 go_ret;exact⟨rfl,rfl⟩
structure NSt(w wr:World)(th:Int)(k:Nat):Prop where
 bel:Below w.heap.size w wr
 sz:wr.heap.size=w.heap.size+1+k
 box:∃cs,wr.heap[w.heap.size]?=some (.cells cs 201 (0,0))/\cs.size=26/\cs[0]?=some (.int .i64 0)/\cs[1]?=some (.int .i64 th)/\∀i,i<k->cs[2+i*3]?=some (.map (some (w.heap.size+1+i)))/\cs[2+i*3+1]?=some (.int .i64 (-1))/\cs[2+i*3+2]?=some (.int .i64 (-th))
 maps:∀i,i<k->wr.ownsMap prog 3 inR (w.heap.size+1+i) 0 (.map [])
theorem NSt.start(w:World)(th:Int):NSt w (w.alloc (.cells #[.int .i64 0,.int .i64 th,.map none,.int .i64 0,.int .i64 0,.map none,.int .i64 0,.int .i64 0,.map none,.int .i64 0,.int .i64 0,.map none,.int .i64 0,.int .i64 0,.map none,.int .i64 0,.int .i64 0,.map none,.int .i64 0,.int .i64 0,.map none,.int .i64 0,.int .i64 0,.map none,.int .i64 0,.int .i64 0] 201)) th 0:=
 ⟨(Ξp _ _).alloc (Ξo _) _,by simp,⟨_,heap_alloc_new w _,rfl,rfl,rfl,λi hi=>absurd hi (by omega)⟩,λi hi=>absurd hi (by omega)⟩
theorem NSt.old(h:NSt w wr th k)(hk:k<8):∃v0 v1 v2,(wr.alloc (.map #[] 0)).cell? ⟨w.heap.size,2+k*3,none⟩=some v0/\(wr.alloc (.map #[] 0)).cell? ⟨w.heap.size,2+k*3+1,none⟩=some v1/\(wr.alloc (.map #[] 0)).cell? ⟨w.heap.size,2+k*3+2,none⟩=some v2:=by
 obtain⟨cs,h1,h2,_⟩:=h.box;have h3:(wr.alloc (.map #[] 0)).heap[w.heap.size]?=some (.cells cs 201 (0,0)):=(Below.heap_alloc _ _ _ (lt_of_block h1)).trans h1;refine⟨cs[2+k*3]'(by omega),cs[2+k*3+1]'(by omega),cs[2+k*3+2]'(by omega),?_,?_,?_⟩
 ·rw[Cells.A62 h3,Array.getElem?_eq_getElem]
 ·rw[Cells.A62 h3,Array.getElem?_eq_getElem]
 ·rw[Cells.A62 h3,Array.getElem?_eq_getElem]
theorem NSt.free(h:NSt w wr th k)(j:Nat):(wr.alloc (.map #[] 0)).frozen? ⟨w.heap.size,j,none⟩=false:=by
 obtain⟨cs,h1,h2,_⟩:=h.box;have h3:(wr.alloc (.map #[] 0)).heap[w.heap.size]?=some (.cells cs 201 (0,0)):=(Below.heap_alloc _ _ _ (lt_of_block h1)).trans h1;simp[World.frozen?,h3]
theorem NSt.step(h:NSt w wr th k)(hk:k<8):NSt w ((((wr.alloc (.map #[] 0)).setCell ⟨w.heap.size,2+k*3,none⟩ (.map (some wr.heap.size))).setCell ⟨w.heap.size,2+k*3+1,none⟩ (.int .i64 (-1))).setCell ⟨w.heap.size,2+k*3+2,none⟩ (.int .i64 (-th))) th (k+1):=by
 obtain⟨cs,h1,h2,h3,h4,h5⟩:=h.box;have hs:=h.sz;have b0:(wr.alloc (.map #[] 0)).heap[w.heap.size]?=some (.cells cs 201 (0,0)):=(Below.heap_alloc _ _ _ (lt_of_block h1)).trans h1;have b1:=heap_setCell_same _ _ (2+k*3) _ _ (.map (some wr.heap.size)) b0;have b2:=heap_setCell_same _ _ (2+k*3+1) _ _ (.int .i64 (-1)) b1;have b3:=heap_setCell_same _ _ (2+k*3+2) _ _ (.int .i64 (-th)) b2;have o:Only [w.heap.size] (wr.alloc (.map #[] 0)) ((((wr.alloc (.map #[] 0)).setCell ⟨w.heap.size,2+k*3,none⟩ (.map (some wr.heap.size))).setCell ⟨w.heap.size,2+k*3+1,none⟩ (.int .i64 (-1))).setCell ⟨w.heap.size,2+k*3+2,none⟩ (.int .i64 (-th))):=by
  iterate 3 refine Only.setCell ?_ (by simp) _
  exact Only.refl _ _
 refine⟨?_,?_,⟨_,b3,by simpa using h2,?_,?_,?_⟩,?_⟩
 ·exact(h.bel.alloc h.bel.size _).trans (o.below (by simp;omega) (by simp))
 ·simp[World.setCell];omega
 ·rw[Ξb,if_neg (by omega),Ξb,if_neg (by omega),Ξb,if_neg (by omega),h3]
 ·rw[Ξb,if_neg (by omega),Ξb,if_neg (by omega),Ξb,if_neg (by omega),h4]
 ·intro i hi;by_cases e:i=k
  ·subst e;refine⟨?_,?_,?_⟩
   ·rw[Ξb,if_neg (by omega),Ξb,if_neg (by omega),Ξb,if_pos rfl,if_pos (by omega),hs]
   ·rw[Ξb,if_neg (by omega),Ξb,if_pos rfl,if_pos (by simp;omega)]
   ·rw[Ξb,if_pos rfl,if_pos (by simp;omega)]
  ·obtain⟨q0,q1,q2⟩:=h5 i (by omega);refine⟨?_,?_,?_⟩
   ·rw[Ξb,if_neg (by omega),Ξb,if_neg (by omega),Ξb,if_neg (by omega),q0]
   ·rw[Ξb,if_neg (by omega),Ξb,if_neg (by omega),Ξb,if_neg (by omega),q1]
   ·rw[Ξb,if_neg (by omega),Ξb,if_neg (by omega),Ξb,if_neg (by omega),q2]
 ·intro i hi;refine ξP ?_ o (by simp;omega);by_cases e:i=k
  ·subst e;rw[<-hs];exact World.ownsMap_made wr _ _ _
  ·exact(h.maps i (by omega)).alloc _
theorem NSt.done(h:NSt w wr th 8):∃mb,(∀k∈A2m w.heap.size mb,w.heap.size<=k)/\ξ8 wr w.heap.size mb th 0 (λ_=>-1) (λ_=>-1) []/\Below w.heap.size w wr:=by
 refine⟨λi=>w.heap.size+1+i,?_,⟨?_,?_,?_⟩,h.bel⟩
 ·intro k hk;rcases ξ1l.1 hk with rfl|⟨i,hi,rfl⟩<;>omega
 ·obtain⟨cs,h1,h2,h3,h4,h5⟩:=h.box;exact⟨cs,h1,h2,h3,h4,λi hi=>(h5 i hi).1,λi hi=>(h5 i hi).2.1,λi hi=>(h5 i hi).2.2⟩
 ·intro i hi;exact⟨.map [],h.maps i hi,KM.nil _⟩
 ·intro i j _ _ e;omega
theorem ξgF(th:Int)(w:World)(h:th<1∨1000000<th) :
 Calls prog 83 #[.int .i64 th] w λe w'=>e=.returned (.tuple #[.pointer none,A0a 1])/\w'=w:=by
 by_cases c:th<1
 ·clear h;go_enter func83,ntmps83;go_wp2_with fail
  go_ret2;exact⟨rfl,rfl⟩
 ·have c1:1000000<th:=by omega
  clear h;go_enter func83,ntmps83;go_wp2_with fail
  go_ret2;exact⟨rfl,rfl⟩
theorem ξ12(th:Int)(w:World)(h0:1<=th)(h1:th<=1000000) :
 Calls prog 83 #[.int .i64 th] w λe w'=>∃b,e=.returned (.tuple #[.pointer (some ⟨b,0,none⟩),.nilIface])/\∃mb,(∀k∈A2m b mb,w.heap.size<=k)/\ξ8 w' b mb th 0 (λ_=>-1) (λ_=>-1) []/\Below w.heap.size w w':=by
 have ai:=@run_makeMap prog;go_enter func83,ntmps83;go_wp2_with fail
 go_loopg [16] 8 (λg x wr=>∃k:Nat,k+g=8/\x=.int .i64 (k:Int)/\Hid (NSt w wr th k))
 case atStart=>exact⟨0,by omega,rfl,NSt.start w th⟩
 case round=>
  obtain⟨k,aj,rfl,HS⟩:=hrel;by_cases hk:k<8
  ·have ae:(k:Int)<8:=by omega
   have ah:=HS.out.sz;obtain⟨v0,v1,v2,e0,e1,e2⟩:=HS.out.old hk;have f0:=HS.out.free (2+k*3);have f1:=HS.out.free (2+k*3+1);have f2:=HS.out.free (2+k*3+2);clear ah;go_wp2_with fail;go_roundg (8-(k+1))
   case measure=>omega
   case rel=>
    refine⟨k+1,by omega,by go_num,?_⟩;exact HS.out.step hk
  ·have ae:¬(k:Int)<8:=by omega
   obtain rfl:k=8:=by omega
   go_wp2_with fail
   go_ret2;obtain⟨mb,q1,q2,q3⟩:=HS.out.done;exact⟨_,rfl,mb,q1,q2,q3⟩
def A91(L:Wts)(x:Wt)(K:Wts):Prop:=∀y,y∈K↔(y∈L/\¬(y.a=x.a/\y.b=x.b))∨y=x
theorem ξcO(L:Wts)(x:Wt):A91 L x (put L x):=λy=>ξ2H
theorem ξ9b(h:ξ8 w b mb th nw td ak L)(hI:PU.Inv L)(hl:L.length<=1000)(hk:k<8){x:Wt}(hx:x.b=(k:Int)+1)(hw:(Lit.int .i64 x.a).wf=true)(hP:A91 L x K) :
 ∃w2,(Instr.mapUpdate 196 (.map (some (mb k))) (.int .i64 x.a) (.int .i64 x.c)).run prog w=.ok () w2/\ξ8 w2 b mb th nw td ak K/\Only (A2m b mb) w w2:=by
 obtain⟨D,ae,hK,hS⟩:=h.size hI hk;have am:=ξbj L ((k:Int)+1);obtain⟨w2,aj,ah,ai⟩:=ae.store A09 underlying196 (by unfold maxLen;omega) (A05 hw) (ξg9 x.c);have ho:Only [mb k] w w2:=(Only.refl _ _).grown ai.grown (by simp);refine⟨w2,aj,h.turned hk ho ⟨_,_,ah,?_⟩ ?_,ho.mono (by intro j hj;simp at hj;exact ξ1l.2 (.inr ⟨k,hk,hj⟩))⟩
 ·rw[<-hx]at hK ⊢;refine hK.put ae.isMap λy hy=>?_;rw[hP y];constructor
  ·rintro(⟨h1,h2⟩|h1)
   ·exact .inl ⟨h1,λe=>h2 ⟨e,hy⟩⟩
   ·exact .inr h1
  ·rintro(⟨h1,h2⟩|h1)
   ·exact .inl ⟨h1,λe=>h2 e.1⟩
   ·exact .inr h1
 ·intro y hy;rw[hP y];constructor
  ·intro h1;exact .inl ⟨h1,λe=>hy (by rw[e.2,hx])⟩
  ·rintro(⟨h1,h2⟩|rfl)
   ·exact h1
   ·exact absurd hx hy
theorem ξcp(p:Value)(a t c:Int)(w:World)(h:wf a t c≠0) :
 Calls prog 156 #[p,.int .i64 a,.int .i64 t,.int .i64 c] w λe w'=>e=.returned (A0a 1)/\w'=w:=by
 have ah:¬(0<=a/\a<=200/\1<=t/\t<=8/\0<=c/\c<=3):=λq=>h (ξ4Z.2 q);clear h;have C1:=ξ40 a w;have C2:=ξk t w;by_cases h1:0<=a/\a<=200
 case neg=>
  have d:(decide (0<=a)&&decide (a<=200))=false:=by
   by_cases q:0<=a
   ·rw[decide_eq_false (show ¬a<=200 by omega),Bool.and_false]
   ·rw[decide_eq_false q,Bool.false_and]
  rw[d]at C1;have ae:=ξ0 C1;clear C1 C2 d h1 ah;go_enter func156,ntmps156;go_wp2_with fail
  refine ae.out.mono ?_;rintro e w1 ⟨rfl,rfl⟩;go_wp2_with fail;go_ret;exact⟨rfl,rfl⟩
 rw[decide_eq_true h1.1,decide_eq_true h1.2]at C1;by_cases h2:1<=t/\t<=8
 case neg=>
  have d:(decide (1<=t)&&decide (t<=8))=false:=by
   by_cases q:1<=t
   ·rw[decide_eq_false (show ¬t<=8 by omega),Bool.and_false]
   ·rw[decide_eq_false q,Bool.false_and]
  rw[d]at C2;have ae:=ξ0 C1;have ai:=ξ0 C2;clear C1 C2 d h1 h2 ah;go_enter func156,ntmps156;go_wp2_with fail
  refine ae.out.mono ?_;rintro e w1 ⟨rfl,rfl⟩;go_wp2_with fail;refine ai.out.mono ?_;rintro e w1 ⟨rfl,rfl⟩;go_wp2_with fail;go_ret;exact⟨rfl,rfl⟩
 rw[decide_eq_true h2.1,decide_eq_true h2.2]at C2;have ae:=ξ0 C1;have ai:=ξ0 C2;clear C1 C2;by_cases h3:c<0
 ·clear h1 h2 ah;go_enter func156,ntmps156;go_wp2_with fail
  refine ae.out.mono ?_;rintro e w1 ⟨rfl,rfl⟩;go_wp2_with fail;refine ai.out.mono ?_;rintro e w1 ⟨rfl,rfl⟩;go_wp2_with fail;go_ret;exact⟨rfl,rfl⟩
 ·have h4:3<c:=by omega
  clear h1 h2 ah;go_enter func156,ntmps156;go_wp2_with fail
  refine ae.out.mono ?_;rintro e w1 ⟨rfl,rfl⟩;go_wp2_with fail;refine ai.out.mono ?_;rintro e w1 ⟨rfl,rfl⟩;go_wp2_with fail;go_ret;exact⟨rfl,rfl⟩
theorem ξej(b:Nat)(mb:Nat->Nat)(th nw a t c:Int)(td ak:Nat->Int)(L K:Wts)(w:World)(h:ξ8 w b mb th nw td ak L)(hI:PU.Inv L)(hl:L.length<=1000)(h0:wf a t c=0)(hP:A91 L ⟨a,t,c⟩ K) :
 Calls prog 156 #[.pointer (some ⟨b,0,none⟩),.int .i64 a,.int .i64 t,.int .i64 c] w λe w'=>e=.returned .nilIface/\ξ8 w' b mb th nw td ak K/\Only (A2m b mb) w w':=by
 obtain⟨g1,g2,g3,g4,g5,g6⟩:=ξ4Z.1 h0;simp only at g1 g2 g3 g4 g5 g6;obtain⟨i,rfl⟩:∃i:Nat,t=(i:Int)+1:=⟨(t-1).toNat,by omega⟩;have hi:i<8:=by omega
 have C1:=ξ40 a w;have C2:=ξk ((i:Int)+1) w;rw[decide_eq_true g1,decide_eq_true g2]at C1;rw[decide_eq_true g3,decide_eq_true g4]at C2;have aj:=ξ0 C1;have am:=ξ0 C2;have aq:=ξ0 (ξ6Y b i w hi);obtain⟨w2,ae,ah,ai⟩:=ξ9b h hI hl hi (x:=⟨a,(i:Int)+1,c⟩) rfl (ξJ (by simp only;omega) (by simp only;omega)) hP;simp only at ae;have au:=ξ0 ah;have aw:=ξ0 ai;have ct:=(h.A2l hi).1;have d5:decide (c<0)=false:=by simp;omega
 have d6:decide (3<c)=false:=by simp;omega
 clear C1 C2 h ah ai hP h0 g5 g6 g1 g2 g3 g4 hI;go_enter func156,ntmps156;go_wp2_with fail
 refine aj.out.mono ?_;rintro e w1 ⟨rfl,rfl⟩;go_wp2_with fail;refine am.out.mono ?_;rintro e w1 ⟨rfl,rfl⟩;go_wp2_with fail;refine aq.out.mono ?_;rintro e w1 ⟨rfl,rfl⟩;go_wp2_with fail;go_ret;exact⟨rfl,au.out,aw.out⟩
def Wanted(L:Wts)(a t c:Int)(K:Wts):Prop:=(wf a t c=0->A91 L ⟨a,t,c⟩ K)/\(wf a t c≠0->∀y,y∈L↔y∈K)
theorem ξ94(b:Nat)(mb:Nat->Nat)(th nw a t c:Int)(td ak:Nat->Int)(L K:Wts)(w:World)(h:ξ8 w b mb th nw td ak L)(hI:PU.Inv L)(hl:L.length<=1000)(hP:Wanted L a t c K) :
 Calls prog 156 #[.pointer (some ⟨b,0,none⟩),.int .i64 a,.int .i64 t,.int .i64 c] w λe w'=>e=.returned (A0a (wf a t c))/\ξ8 w' b mb th nw td ak K/\Only (A2m b mb) w w':=by
 by_cases h0:wf a t c=0
 ·rw[h0];exact ξej b mb th nw a t c td ak L K w h hI hl h0 (hP.1 h0)
 ·have h1:wf a t c=1:=by have:=ξgj a t c;omega
  rw[h1];refine(ξcp _ a t c w h0).mono ?_;rintro e w' ⟨rfl,rfl⟩;exact⟨rfl,h.mem (hP.2 h0),Only.refl _ _⟩
theorem ξS{fn:Func}{tmps:Array Value}{g j:Nat}(hf:fn.results=#[.cell i 89,.tmp j])(hi:tmps.getD i undef=.pointer (some ⟨g,0,none⟩))(hb:w.cell? ⟨g,0,none⟩=some (.int .i64 x)) :
 (results fn tmps).run prog w=.ok (.tuple #[.agg #[.int .i64 x],tmps.getD j undef]) w:=by
 have ae:tmps[i]?.getD undef=.pointer (some ⟨g,0,none⟩):=by simpa using hi
 simp[results,hf,ae,go_sem,hb]
theorem ξM(w:World)(x:Int)(O:Obj):((w.alloc O).alloc (.cells #[.int .i64 x] 89)).cell? ⟨w.heap.size+1,0,none⟩=some (.int .i64 x):=by
 have h:=heap_alloc_new (w.alloc O) (.cells #[.int .i64 x] 89);simp only[World.size_alloc]at h;unfold World.cell?;simp only[h];simp
theorem ξC(w:World)(O1 O2:Obj):Below w.heap.size w ((w.alloc O1).alloc O2):=
 ((Ξp _ _).alloc (Ξo _) _).alloc (by simp) _
theorem ξH(nw now:Int)(w:World) :
 Calls prog 66 #[.agg #[.int .i64 nw],.int .i64 now] w λe w'=>e=.returned (.tuple #[.agg #[.int .i64 (if tf nw now=0 then now else 0)],A0a (tf nw now)])/\Below w.heap.size w w':=by
 by_cases c:now<0
 ·have e:tf nw now=1:=by unfold tf;rw[if_pos (.inl c)]
  rw[e];clear e;go_enter func66,ntmps66;go_wp2_with fail
  refine bodyPost_ret (ξS (g:=w.heap.size+1) rfl rfl (ξM w _ _)) rfl ?_;exact⟨rfl,ξC w _ _⟩
 by_cases c1:1000000<now
 ·have e:tf nw now=1:=by unfold tf;rw[if_pos (.inr c1)]
  rw[e];clear e;go_enter func66,ntmps66;go_wp2_with fail
  refine bodyPost_ret (ξS (g:=w.heap.size+1) rfl rfl (ξM w _ _)) rfl ?_;exact⟨rfl,ξC w _ _⟩
 by_cases c2:now<nw
 ·have e:tf nw now=6:=by unfold tf;rw[if_neg (by omega),if_pos c2]
  rw[e];clear e;go_enter func66,ntmps66;go_wp2_with fail
  refine bodyPost_ret (ξS (g:=w.heap.size+1) rfl rfl (ξM w _ _)) rfl ?_;exact⟨rfl,ξC w _ _⟩
 ·have e:tf nw now=0:=by unfold tf;rw[if_neg (by omega),if_neg c2]
  rw[e];clear e;go_enter func66,ntmps66;go_wp2_with fail
  refine bodyPost_ret (ξS (g:=w.heap.size+1) rfl rfl (ξM w _ _)) rfl ?_;exact⟨rfl,ξC w _ _⟩
theorem ξcb(p:Value)(t now:Int)(w:World)(h:t<1∨8<t) :
 Calls prog 157 #[p,.int .i64 t,.int .i64 now] w λe w'=>e=.returned (.tuple #[.bool false,A0a 1])/\w'=w:=by
 have C1:=ξk t w;have d:(decide (1<=t)&&decide (t<=8))=false:=by
  by_cases q:1<=t
  ·rw[decide_eq_false (show ¬t<=8 by omega),Bool.and_false]
  ·rw[decide_eq_false q,Bool.false_and]
 rw[d]at C1;have ae:=ξ0 C1;clear C1 d h;go_enter func157,ntmps157;go_wp2_with fail
 refine ae.out.mono ?_;rintro e w1 ⟨rfl,rfl⟩;go_wp2_with fail;go_ret2;exact⟨rfl,rfl⟩
theorem ξe3(b:Nat)(nw t now:Int)(w:World)(c0:w.cell? ⟨b,0,none⟩=some (.int .i64 nw))(h1:1<=t)(h2:t<=8)(ht:tf nw now≠0) :
 Calls prog 157 #[.pointer (some ⟨b,0,none⟩),.int .i64 t,.int .i64 now] w λe w'=>e=.returned (.tuple #[.bool false,A0a (tf nw now)])/\Below w.heap.size w w':=by
 have C1:=ξk t w;rw[decide_eq_true h1,decide_eq_true h2]at C1;have ae:=ξ0 C1;have C2:=ξH nw now w;rw[if_neg ht]at C2;have ah:=λw=>ξq (tf nw now) w;have aj:=λo w=>ξp (tf nw now) o w;rw[decide_eq_false ht]at ah;clear C1;generalize A0a (tf nw now)=ev at *;have ai:=ξ0 C2;clear C2 ht h1 h2;go_enter func157,ntmps157;go_wp2_with fail
 refine ae.out.mono ?_;rintro e w1 ⟨rfl,rfl⟩;go_wp2_with fail;refine ai.out.mono ?_;rintro e w2 ⟨rfl,hb⟩;have HB:=ξ0 (ξ9 hb (.cells #[.int .i64 0] 89));clear hb;go_wp2_with fail;go_ret2;exact⟨rfl,HB.out⟩
theorem ξgh(b i:Nat)(mb:Nat->Nat)(th nw now:Int)(td ak:Nat->Int)(L:Wts)(w:World)(h:ξ8 w b mb th nw td ak L)(hI:PU.Inv L)(hA:A8h th nw ak)(hi:i<8)(ht:tf nw now=0)(hl:L.length<=1000) :
 Calls prog 157 #[.pointer (some ⟨b,0,none⟩),.int .i64 ((i:Int)+1),.int .i64 now] w λe w'=>∃r ev,e=.returned (.tuple #[.bool r,ev])/\Hid ((of L ((i:Int)+1)=[]/\r=false/\ev=A0a 5/\ξ8 w' b mb th nw td ak L/\Only (A2m b mb) w w') ∨
  (of L ((i:Int)+1)≠[]/\r=A3s th (ak i) now/\ev=.nilIface/\ξ8 w' b mb th now td (if r=true then upd ak i now else ak) L/\Only (A2m b mb) w w')):=by
 obtain⟨j1,j2,j3⟩:=ξG ht;have C1:=ξk ((i:Int)+1) w;rw[decide_eq_true (show 1<=(i:Int)+1 by omega),decide_eq_true (show(i:Int)+1<=8 by omega)]at C1;have au:=ξ0 C1;have C2:=ξH nw now w;rw[if_pos ht,ht,ξ4]at C2;have aw:=ξ0 C2;have ax:=ξ0 (λw=>ξ6Y b i w hi);have HP:=ξ0 h;have c0:=h.cells.1;have aE:=h.lt;have ha:=hA.a1 i;have aI:=hA.n2;have aJ:=hA.t1;have aL:=hA.t2;obtain⟨q,hq⟩:=nm (A3s th (ak i) now);have aj:=ξcw (th:=th) (a:=ak i) j1;rw[hq]at aj;have HQ:=ξ0 hq;obtain⟨lv,am⟩:=nm (lst th (ak i));rw[am]at aj;have aM:-1000000<=lv/\lv<=1000000:=by rw[<-am];unfold lst;split<;>omega
 have aF:=ξ0 am;have HI:=ξ0 hI;clear C1 C2 h hq am ht hA hI;go_enter func157,ntmps157;go_wp2_with fail
 refine au.out.mono ?_;rintro e w1 ⟨rfl,rfl⟩;go_wp2_with fail;refine aw.out.mono ?_;rintro e w2 ⟨rfl,hb⟩;have ae:Hid (ξ8 (w2.alloc (.cells #[.int .i64 now] 89)) b mb th nw td ak L):=(HP.out.below hb).below (ξ9 (Ξp _ _) _);have ay:Hid (Below w1.heap.size w1 (w2.alloc (.cells #[.int .i64 now] 89))):=ξ9 hb _;have az:Hid (ξ8 w2 b mb th nw td ak L):=HP.out.below hb;have aA:Hid (Below w1.heap.size w1 w2):=hb;have HG:Hid (b<w2.heap.size):=Ξn aE hb.size;clear hb c0;go_wp2_with fail;refine(ax.out _).mono ?_;rintro e w3 ⟨rfl,rfl⟩;have ct:=(ae.out.A2l hi).1;obtain⟨D,ai,hK,hS⟩:=ae.out.size HI.out hi;have HO:=ξ0 ai;have HS:=ξ0 hS;have aG:=ξbj L ((i:Int)+1);clear ai hK hS;obtain⟨m,hm⟩:=nm ((of L ((i:Int)+1)).length);have HM:=ξ0 hm;rw[hm]at aG;clear hm;by_cases hz:m=0
 ·subst hz;go_wp2_with (at_len;refine wpList_len_own _ rfl _ 196 rfl 3 3 underlying196 _ (mb i) (Maps.size D) D rfl HO.out ?_;rw[HS.out,HM.out]);go_ret2;exact⟨_,_,rfl,.inl ⟨Ξk HM.out,rfl,rfl,ae.out,Only.of_below ay.out _⟩⟩
 ·have dz:((m:Int)==0)=false:=by simp;omega
  have aH:(m==0)=false:=by simpa using hz
  have aC:Hid (of L ((i:Int)+1)≠[]):=λe=>hz (by have:=HM.out;rw[e]at this;exact this.symm);have k0:=ae.out.cells.1;have f0:=ae.out.free 0;have hG:=HG.out;have ah:Hid (ξ8 ((w2.setCell ⟨b,0,none⟩ (.int .i64 now)).alloc (.cells #[.int .i64 now] 89)) b mb th now td ak L):=(az.out.A4u now).below (ξ9 (Ξp _ _) _);have aq:Hid (Only (A2m b mb) w1 ((w2.setCell ⟨b,0,none⟩ (.int .i64 now)).alloc (.cells #[.int .i64 now] 89))):=((Only.of_below aA.out _).setCell (ξ1l.2 (.inl rfl)) _).alloc _;go_wp2_with (at_len;refine wpList_len_own _ rfl _ 196 rfl 3 3 underlying196 _ (mb i) (Maps.size D) D rfl HO.out ?_;rw[HS.out,HM.out])
  obtain⟨w5,aD⟩:=nm ((w2.setCell ⟨b,0,none⟩ (.int .i64 now)).alloc (.cells #[.int .i64 now] 89));rw[aD]at ah aq ⊢;clear aD ae ay az aA HG HO HS k0 f0 hG ct dz aH hz au aw ax HP;have r1:=ah.out.cells.2;have r2:=(ah.out.A2l hi).2.2;rw[aF.out]at r2;have f2:=ah.out.free (2+i*3+2);cases q with
  | false=>
    simp only[Bool.not_false]at aj;go_quiet (fail)
    go_wp2_with fail
    go_ret2;refine⟨_,_,rfl,.inr ⟨aC.out,HQ.out.symm,rfl,?_,aq.out.drewN _⟩⟩;exact ah.out.below (below_drewN (Ξp _ _) _)
  | true=>
    simp only[Bool.not_true]at aj;go_quiet (fail)
    go_wp2_with fail
    go_ret2;refine⟨_,_,rfl,.inr ⟨aC.out,HQ.out.symm,rfl,?_,?_⟩⟩
    ·exact(ah.out.below (below_drewN (Ξp _ _) _)).setA hi j1
    ·exact(aq.out.drewN _).setCell (ξ1l.2 (.inl rfl)) _
theorem ξcd(b:Nat)(mb:Nat->Nat)(th nw t now:Int)(td ak:Nat->Int)(L:Wts)(w:World)(h:ξ8 w b mb th nw td ak L)(hI:PU.Inv L)(hA:A8h th nw ak)(hl:L.length<=1000) :
 Calls prog 157 #[.pointer (some ⟨b,0,none⟩),.int .i64 t,.int .i64 now] w λe w'=>e=.returned (.tuple #[.bool (aB L th nw ak t now),A0a (af L nw t now)])/\ξ8 w' b mb th (aN L nw t now) td (aK L th nw ak t now) L/\Only (A2m b mb) w w':=by
 have same:af L nw t now≠0->aB L th nw ak t now=false/\aN L nw t now=nw/\aK L th nw ak t now=ak:=by
  intro h0;have h1:aB L th nw ak t now=false:=by unfold aB;rw[decide_eq_false h0,Bool.false_and]
  refine⟨h1,by unfold aN;rw[if_neg h0],by unfold aK;rw[h1,if_neg (by simp)]⟩
 by_cases h1:t<1∨8<t
 ·have e:af L nw t now=1:=by unfold af;rw[if_pos h1]
  obtain⟨q1,q2,q3⟩:=same (by omega);rw[q1,q2,q3,e];refine(ξcb _ t now w h1).mono ?_;rintro e w' ⟨rfl,rfl⟩;exact⟨rfl,h,Only.refl _ _⟩
 by_cases h2:tf nw now=0
 case neg=>
  have e:af L nw t now=tf nw now:=by unfold af;rw[if_neg h1,if_pos h2]
  obtain⟨q1,q2,q3⟩:=same (by omega);rw[q1,q2,q3,e];refine(ξe3 b nw t now w h.cells.1 (by omega) (by omega) h2).mono ?_;rintro e w' ⟨rfl,hb⟩;exact⟨rfl,h.below hb,Only.of_below hb _⟩
 obtain⟨i,rfl⟩:∃i:Nat,t=(i:Int)+1:=⟨(t-1).toNat,by omega⟩;have hi:i<8:=by omega
 have hx:ix ((i:Int)+1)=i:=by unfold ix;omega
 refine(ξgh b i mb th nw now td ak L w h hI hA hi h2 hl).mono ?_;rintro e w' ⟨r,ev,rfl,hh⟩;rcases hh.out with⟨g1,g2,g3,g4,g5⟩|⟨g1,g2,g3,g4,g5⟩
 ·have e:af L nw ((i:Int)+1) now=5:=by unfold af;rw[if_neg h1,if_neg (by simp[h2]),if_pos ((ξ5K hI).2 g1)]
  obtain⟨q1,q2,q3⟩:=same (by omega);rw[q1,q2,q3,e,g2,g3];exact⟨rfl,g4,g5⟩
 ·have e:af L nw ((i:Int)+1) now=0:=by unfold af;rw[if_neg h1,if_neg (by simp[h2]),if_neg (λq=>g1 ((ξ5K hI).1 q))]
  have e1:aB L th nw ak ((i:Int)+1) now=r:=by unfold aB;rw[decide_eq_true e,Bool.true_and,hx,g2]
  have e2:aN L nw ((i:Int)+1) now=now:=by unfold aN;rw[if_pos e]
  have e3:aK L th nw ak ((i:Int)+1) now=if r=true then upd ak i now else ak:=by unfold aK;rw[e1,hx]
  rw[e1,e2,e3,e,g3];exact⟨rfl,g4,g5⟩
end Go.Proofs.YtpiamlgmadnepaaGreat.Pull
