/-
 What the proof needs.
-/
import Derived.Lib.SmallJoins
import Derived.Test.YtpiamlgmadnepaaGreatTreeAll
import Derived.Deep.Slices
import Derived.Test.YtpiamlgmadnepaaGreatAuditAll
open Go.Proofs.Tryz
set_option linter.unusedVariables false
set_option maxRecDepth 100000
namespace Go.Proofs.YtpiamlgmadnepaaGreat.Open
open ChangeShapes WideShapes ChangeAt RowKit Mem
variable {w W:World}{a:Option Addr}{len cap b0:Nat}{zs:List Int}{v:Value}
def A82(w:World)(a:Option Addr)(len cap:Nat)(zs:List Int):Prop:=
 (a=none/\len=0/\cap=0/\zs=[]) ∨
 ∃x,a=some x/\len<=cap/\cap<=maxLen/\zs.length=cap/\(∀i,i<zs.length->w.cell? (x.add i)=some (.int .u8 (zs.getD i 0)))/\∀n∈zs,(Lit.int .u8 n).wf=true
theorem ξeU(h:A82 w a len cap zs):a=none->len=0/\cap=0:=by
 rcases h with⟨_,h0,h1,_⟩|⟨x,rfl,_⟩
 ·exact λ_=>⟨h0,h1⟩
 ·intro e;simp at e
theorem ξe1(h:A82 w a len cap zs):Arg w a len ((zs.take len).map Int.toNat)/\len<=cap:=by
 rcases h with⟨_,rfl,rfl,rfl⟩|⟨x,rfl,h1,h2,h3,h4,h5⟩
 ·exact⟨⟨Bys.nil _ _,rfl,by omega⟩,Ξo _⟩
 ·have hw:∀n∈zs,0<=n/\n<256:=by
   intro n hn;have:=bounds_u8 (h5 n hn);omega
  refine⟨⟨⟨?_,?_⟩,by simp;omega,by unfold maxLen at h2;omega⟩,h1⟩
  ·intro c hc;obtain⟨n,hn,rfl⟩:=Ξi.1 hc;have:=hw n (List.mem_of_mem_take hn);omega
  ·intro j hj;have ae:j<len:=by simp at hj;omega
   obtain⟨b,o,rfl,hc⟩:=ints_at h4 (by omega);refine⟨b,o,rfl,?_⟩;rw[hc j (by omega)];have hz:=hw (zs.getD j 0) (by rw[Ξa,Ξd (by omega)];exact List.getElem_mem _);have e:((zs.take len).map Int.toNat).getD j 0=(zs.getD j 0).toNat:=by
    simp[List.getD_eq_getElem?_getD,List.getElem?_take_of_lt ae,show j<zs.length by omega]
   rw[e,Int.toNat_of_nonneg hz.1]
theorem A92:prog.cellsOf 38=6:=by kernel_rfl
theorem cells3:prog.cellsOf 3=1:=by kernel_rfl
theorem A6m:prog.cellsOf 4=1:=by kernel_rfl
theorem cells5:prog.cellsOf 5=1:=by kernel_rfl
theorem ξ6y{α:Type}{l:List α}(h:l.length=6):∃z0 z1 z2 z3 z4 z5,l=[z0,z1,z2,z3,z4,z5]:=by
 match l,h with
 | [z0,z1,z2,z3,z4,z5],_=>exact⟨z0,z1,z2,z3,z4,z5,rfl⟩
theorem open_row{H:Type}{enc:TypeId×Value->H}{fuel:Nat}{a:Value}{x:DataW H×List MemPlace}(hf:DataW.trod enc prog W 0 (λ_=>true) true fuel 36 [a]=some x) :
 ∃b len cap zs,a=.slice b len cap/\A82 W b len cap zs:=by
 rcases open_ints underlying36 underlying5 cells5 hf with⟨hcs,_⟩|⟨x,l,c,zs,hcs,_,hl,hm,hz,_,hcell,hwz⟩
 ·simp only[List.cons.injEq,and_true]at hcs;exact⟨none,0,0,[],hcs,.inl ⟨rfl,rfl,rfl,rfl⟩⟩
 ·simp only[List.cons.injEq,and_true]at hcs;exact⟨some x,l,c,zs,hcs,.inr ⟨x,rfl,hl,hm,by simpa using hz,hcell,hwz⟩⟩
open TM Tree
theorem A93:prog.cellsOf 87=3:=by kernel_rfl
theorem ξ4p{α:Type}{l:List α}(h:l.length=3):∃z0 z1 z2,l=[z0,z1,z2]:=by
 match l,h with
 | [z0,z1,z2],_=>exact⟨z0,z1,z2,rfl⟩
theorem ξd1{H:Type}{enc:TypeId×Value->H}{d:DataW H}{p:List MemPlace}(hv:Value.okWide prog W .any b0 28 v)(h:DataW.Trod enc prog W 0 (λ_=>true) true 28 v d p) :
 ∃b len cap l,v=.slice b len cap/\A1t W b len l/\len<=cap/\(b=none->len=0/\cap=0):=by
 obtain⟨a,l,c,rfl⟩:=okWide_slice underlying28 hv;obtain⟨au,hf⟩:=h;rcases Go.Deep.open_slice underlying28 hf with⟨hcs,_⟩|⟨x,len,cap,m,n,D,Pl,hcs,_,hl,hm,hmm,_,hx⟩
 ·simp only[Value.cells,List.cons.injEq,and_true]at hcs;exact⟨none,0,0,[],hcs,A1t.nil _ _,Ξo _,λ_=>⟨rfl,rfl⟩⟩
 ·simp only[Value.cells,List.cons.injEq,and_true]at hcs;have az:m=cap:=by simpa using hmm
  have ai:∀i,i<m->∃q:Ed,W.cell? (x.add (i*3))=some (.int .i64 q.a)/\W.cell? (x.add (i*3+1))=some (.int .i64 q.b)/\W.cell? (x.add (i*3+2))=some (.int .i64 q.c):=by
   intro i hi;obtain⟨aA,h1,h2⟩:=hx i hi;rw[A93]at h1;obtain⟨_,aj,ae⟩:=World.cells?_some h1;obtain⟨xs,k,_,_,_,aw,am⟩:=DataW.trod_struct underlying87 h2;obtain⟨z0,z1,z2,rfl⟩:=ξ4p aj;obtain⟨y0,y1,y2,rfl⟩:=ξ4p aw;have e0:=am 0 _ rfl;have e1:=am 1 _ rfl;have e2:=am 2 _ rfl;obtain⟨s,k0,_,_⟩:=DataW.trod_int underlying3 e0;obtain⟨t,k1,_,_⟩:=DataW.trod_int underlying3 e1;obtain⟨u,k2,_,_⟩:=DataW.trod_int underlying3 e2;simp[cells3]at k0 k1 k2;subst k0 k1 k2;refine⟨⟨s,t,u⟩,?_,?_,?_⟩
   ·have:=ae 0 (by omega);rw[Go.Deep.add_add]at this;simpa using this
   ·have:=ae 1 (by omega);rw[Go.Deep.add_add]at this;simpa using this
   ·have:=ae 2 (by omega);rw[Go.Deep.add_add]at this;simpa using this
  obtain⟨F,hF⟩:=@Go.Deep.choose_lt Ed ⟨zz⟩ _ _ ai;refine⟨some x,len,cap,(List.range len).map F,hcs,⟨λj hj=>?_,by simp,by unfold maxLen at hm;omega⟩,hl,λh=>by cases h⟩;have ax:j<len:=by simpa using hj
  obtain⟨g0,g1,g2⟩:=hF j (by omega);obtain⟨b,ay,aq⟩:=x;have ah:aq=none:=by have g:=(hF 0 (by omega)).1;simpa[Addr.add]using World.cell?_spot g
  subst ah;have e:((List.range len).map F).getD j zz=F j:=by simp[List.getD_eq_getElem?_getD,ax]
  rw[add_plain]at g0 g1 g2;rw[e];exact⟨b,ay,rfl,g0,by rw[Nat.add_assoc];exact g1,by rw[Nat.add_assoc];exact g2⟩
structure Pk where
 s:Int
 t:Int
 l:Int
 q:Int
 st:Bool
 a:Option Addr
 m:Nat
 c:Nat
 L:List Nat
def A6j(w:World)(b o:Nat)(p:Pk):Prop:=
 w.cell? ⟨b,o,none⟩=some (.int .i64 p.s)/\w.cell? ⟨b,o+1,none⟩=some (.int .i64 p.t)/\w.cell? ⟨b,o+2,none⟩=some (.int .i64 p.l)/\w.cell? ⟨b,o+3,none⟩=some (.int .i64 p.q)/\w.cell? ⟨b,o+4,none⟩=some (.bool p.st)/\w.cell? ⟨b,o+5,none⟩=some (.slice p.a p.m p.c)
def A4i(w:World)(p:Pk):Prop:=Arg w p.a p.m p.L/\(p.a=none->p.m=0/\p.c=0)
def Pks(w:World)(a:Option Addr)(len:Nat)(F:Nat->Pk):Prop:=
 len<=9223372036854775807/\∀j,j<len->∃b o,a=some ⟨b,o,none⟩/\b<w.heap.size/\A6j w b (o+j*6) (F j)/\A4i w (F j)
def A0l:Pk:=⟨0,0,0,0,false,none,0,0,[]⟩
theorem ξbg{H:Type}{enc:TypeId×Value->H}{d:DataW H}{p:List MemPlace}(hv:Value.okWide prog W .any b0 33 v)(h:DataW.Trod enc prog W 0 (λ_=>true) true 33 v d p) :
 ∃b len cap F,v=.slice b len cap/\Pks W b len F/\len<=cap/\(b=none->cap=0):=by
 obtain⟨a,l,c,rfl⟩:=okWide_slice underlying33 hv;obtain⟨aw,hf⟩:=h;rcases Go.Deep.open_slice underlying33 hf with⟨hcs,_⟩|⟨x,len,cap,m,n,D,Pl,hcs,_,hl,hm,hmm,_,hx⟩
 ·simp only[Value.cells,List.cons.injEq,and_true]at hcs;exact⟨none,0,0,λ_=>A0l,hcs,⟨by omega,λj hj=>absurd hj (by omega)⟩,Ξo _,λ_=>rfl⟩
 ·simp only[Value.cells,List.cons.injEq,and_true]at hcs;have aA:m=cap:=by simpa using hmm
  have aj:∀i,i<m->∃q:Pk,(W.cell? (x.add (i*6))=some (.int .i64 q.s)/\W.cell? (x.add (i*6+1))=some (.int .i64 q.t)/\W.cell? (x.add (i*6+2))=some (.int .i64 q.l)/\W.cell? (x.add (i*6+3))=some (.int .i64 q.q)/\W.cell? (x.add (i*6+4))=some (.bool q.st)/\W.cell? (x.add (i*6+5))=some (.slice q.a q.m q.c))/\A4i W q:=by
   intro i hi;obtain⟨aC,h1,h2⟩:=hx i hi;rw[A92]at h1;obtain⟨_,am,ae⟩:=World.cells?_some h1;obtain⟨xs,k,_,_,_,ax,ah⟩:=DataW.trod_struct underlying38 h2;obtain⟨z0,z1,z2,z3,z4,z5,rfl⟩:=ξ6y am;obtain⟨y0,y1,y2,y3,y4,y5,rfl⟩:=ξ6y ax;have e0:=ah 0 _ rfl;have e1:=ah 1 _ rfl;have e2:=ah 2 _ rfl;have e3:=ah 3 _ rfl;have e4:=ah 4 _ rfl;have e5:=ah 5 _ rfl;obtain⟨s,k0,_,_⟩:=DataW.trod_int underlying3 e0;obtain⟨t,k1,_,_⟩:=DataW.trod_int underlying3 e1;obtain⟨l,k2,_,_⟩:=DataW.trod_int underlying3 e2;obtain⟨q,k3,_,_⟩:=DataW.trod_int underlying3 e3;obtain⟨st,k4,_⟩:=DataW.trod_bool underlying4 e4;obtain⟨a5,m5,aq,zs,k5,hr⟩:=open_row (a:=z5) e5;simp[cells3,A6m]at k0 k1 k2 k3 k4;subst k0 k1 k2 k3 k4 k5;refine⟨⟨s,t,l,q,st,a5,m5,aq,(zs.take m5).map Int.toNat⟩,⟨?_,?_,?_,?_,?_,?_⟩,(ξe1 hr).1,ξeU hr⟩
   ·have:=ae 0 (by omega);rw[Go.Deep.add_add]at this;simpa using this
   ·have:=ae 1 (by omega);rw[Go.Deep.add_add]at this;simpa using this
   ·have:=ae 2 (by omega);rw[Go.Deep.add_add]at this;simpa using this
   ·have:=ae 3 (by omega);rw[Go.Deep.add_add]at this;simpa using this
   ·have:=ae 4 (by omega);rw[Go.Deep.add_add]at this;simpa using this
   ·have:=ae 5 (by omega);rw[Go.Deep.add_add]at this;simpa using this
  obtain⟨F,hF⟩:=@Go.Deep.choose_lt Pk ⟨A0l⟩ _ _ aj;refine⟨some x,len,cap,F,hcs,⟨by unfold maxLen at hm;omega,λj hj=>?_⟩,by omega,λh=>by simp at h⟩;obtain⟨⟨g0,g1,g2,g3,g4,g5⟩,ay⟩:=hF j (by omega);obtain⟨b,az,au⟩:=x;have ai:au=none:=by have g:=(hF 0 (by omega)).1.1;simpa[Addr.add]using World.cell?_spot g
  subst ai;rw[add_plain]at g0 g1 g2 g3 g4 g5;exact⟨b,az,rfl,Ξq W _ g0,⟨g0,by rw[Nat.add_assoc];exact g1,by rw[Nat.add_assoc];exact g2,by rw[Nat.add_assoc];exact g3,by rw[Nat.add_assoc];exact g4,by rw[Nat.add_assoc];exact g5⟩,ay⟩
open Go.Proofs.YtpiamlgmadnepaaGreat.Audit in
def toP(p:Pk):AU.Pk:=⟨p.s,p.t,p.l,p.q,p.st,p.a,p.m,p.c,p.L⟩
theorem ξdF(F:Nat->Pk)(len j:Nat)(h:j<len):((List.range len).map λj=>toP (F j)).getD j AU.A0l=toP (F j):=by
 simp[List.getD_eq_getElem?_getD,List.getElem?_map,List.getElem?_range h]
theorem ξd0{H:Type}{enc:TypeId×Value->H}{d:DataW H}{p:List MemPlace}(hv:Value.okWide prog W .any b0 33 v)(h:DataW.Trod enc prog W 0 (λ_=>true) true 33 v d p) :
 ∃b len cap X,v=.slice b len cap/\Audit.Came W b len cap X:=by
 obtain⟨b,len,cap,F,e,hp,hc,hn⟩:=ξbg hv h;refine⟨b,len,cap,(List.range len).map λj=>toP (F j),e,⟨by simp,hp.1,λj hj=>?_⟩,hc,hn,?_⟩
 ·obtain⟨bb,o,e1,_,h1,h2⟩:=hp.2 j hj;rw[ξdF F len j hj];exact⟨bb,o,e1,h1,h2.1⟩
 ·intro q hq;simp only[Ξi,List.mem_range]at hq;obtain⟨j,hj,rfl⟩:=hq;obtain⟨bb,o,e1,_,h1,h2⟩:=hp.2 j hj;exact h2.2
end Go.Proofs.YtpiamlgmadnepaaGreat.Open
