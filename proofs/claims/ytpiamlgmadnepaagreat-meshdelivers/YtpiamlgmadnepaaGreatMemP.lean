/-
 What the proof needs.
-/
import Derived.Below
import Derived.OneCell
import Derived.Deep.QuietTactic
import Derived.Laws.OwnMore
import Derived.Laws.BytesArg
import Derived.Laws.AppendOwnNone
import Derived.OwnWalk
import Derived.WalkKit
import Derived.WideShapes
namespace Go.Proofs.YtpiamlgmadnepaaGreat
theorem nm {α:Sort _} (a:α):∃ x,a=x:=⟨a,rfl⟩
end Go.Proofs.YtpiamlgmadnepaaGreat
namespace Go.Proofs.YtpiamlgmadnepaaGreat
open WideShapes RowKit ChangeShapes
variable {i j:Nat}
theorem Ξa{α:Type _}{l:List α}{a:α}:l.getD i a=l[i]?.getD a:=List.getD_eq_getElem?_getD
theorem Ξb{α:Type _}{xs:Array α}{a:α}:(xs.setIfInBounds i a)[j]?=if i=j then if i<xs.size then some a else none else xs[j]?:=Array.getElem?_setIfInBounds
theorem Ξc{α:Type _}{xs:Array α}(h:i≠j){a:α}:(xs.setIfInBounds i a)[j]?=xs[j]?:=Array.getElem?_setIfInBounds_ne h
theorem Ξd{α:Type _}{l:List α}(h:i<l.length):l[i]?=some l[i]:=List.getElem?_eq_getElem h
theorem Ξe{α:Type _}{a:α}{s t:List α}:a∈s++t↔a∈s∨a∈t:=List.mem_append
theorem Ξf{α:Type _}{b:α}{l:List α}{a:α}:a∈b::l↔a=b∨a∈l:=List.mem_cons
theorem Ξg{α:Type _}{a b:α}:a∈[b]↔a=b:=List.mem_singleton
theorem Ξh{α:Type _}{as bs:List α}:(as++bs).length=as.length+bs.length:=List.length_append
theorem Ξi{α:Type _}{β:Type _}{b:β}{f:α→β}{l:List α}:b∈List.map f l↔∃a,a∈l∧f a=b:=List.mem_map
theorem Ξj{α:Type _}{p:α→Bool}{as:List α}{x:α}:x∈List.filter p as↔x∈as∧p x=true:=List.mem_filter
theorem Ξk{α:Type _}{l:List α}(h:l.length=0):l=[]:=List.eq_nil_of_length_eq_zero h
theorem Ξl{α:Type _}{l:List α}(h:l.length≤i):List.take i l=l:=List.take_of_length_le h
theorem Ξm{α:Type _}{β:Type _}{as:List α}(f:α→β):(List.map f as).length=as.length:=List.length_map f
theorem Ξn{n m k:Nat}(a:n<m)(b:m≤k):n<k:=Nat.lt_of_lt_of_le a b
theorem Ξo(n:Nat):n≤n:=Nat.le_refl n
theorem Ξp(B:Nat)(w:World):Below B w w:=Below.refl B w
theorem Ξq(w:World)(a:Addr){u:Value}(h:w.cell? a=some u):a.block<w.heap.size:=World.block_lt_of_cell? w a h
theorem Ξr(w:World)(b:Nat)(e:TypeId)(s:Nat):w.ownsRow b e s (Value.slice none 0 0) 0 []:=World.ownsRow_nil w b e s
theorem Ξs{α:Type _}{l:List α}:l.Nodup↔List.Pairwise (λx y=>x≠y) l:=List.nodup_iff_pairwise_ne
theorem Ξt{α:Type _}{a b:List α}(h:i<a.length):(a++b)[i]?=a[i]?:=List.getElem?_append_left h
theorem Ξu{α:Type _}(a:List α):a++[]=a:=List.append_nil a
end Go.Proofs.YtpiamlgmadnepaaGreat
namespace Go.Proofs.YtpiamlgmadnepaaGreat.Mem
open RowKit WideShapes
variable {bs L:List Nat}{a b c w w':World}{base n len g:Nat}{v:Value}{P:Program}
def Only(bs:List Nat)(w w':World):Prop:=
 w'.os=w.os/\w'.tape=w.tape/\w'.output=w.output/\w.heap.size<=w'.heap.size/\∀k,k<w.heap.size->k∉bs->w'.heap[k]?=w.heap[k]?
theorem Only.refl(bs:List Nat)(w:World):Only bs w w:=⟨rfl,rfl,rfl,Nat.le_refl _,λ_ _ _=>rfl⟩
theorem Only.trans(h:Only bs a b)(k:Only bs b c):Only bs a c:=
 ⟨k.1.trans h.1,k.2.1.trans h.2.1,k.2.2.1.trans h.2.2.1,Nat.le_trans h.2.2.2.1 k.2.2.2.1,λi hi hb=>(k.2.2.2.2 i (Nat.lt_of_lt_of_le hi h.2.2.2.1) hb).trans (h.2.2.2.2 i hi hb)⟩
theorem Only.mono{cs:List Nat}(h:Only bs a b)(hs:∀k,k∈bs->k∈cs):Only cs a b:=
 ⟨h.1,h.2.1,h.2.2.1,h.2.2.2.1,λi hi hb=>h.2.2.2.2 i hi (λhc=>hb (hs i hc))⟩
theorem Only.drewN(h:Only bs a b)(n:Nat):Only bs a (b.drewN n):=h
theorem Only.drew(h:Only bs a b):Only bs a b.drew:=h
theorem Only.alloc(h:Only bs a b)(o:Obj):Only bs a (b.alloc o):=
 h.trans ⟨rfl,rfl,rfl,by simp,λk hk _=>Below.heap_alloc _ _ _ hk⟩
theorem Only.setCell(h:Only bs a b){p:Addr}(hp:p.block∈bs)(u:Value):Only bs a (b.setCell p u):=
 h.trans ⟨rfl,rfl,rfl,by simp[World.setCell],λk _ hb=>Below.heap_setCell _ _ _ _ (λe=>hb (e ▸ hp))⟩
theorem Only.grown{row:Option Nat}(h:Only bs a b)(hg:b.grownBy c row)(hr:∀k,row=some k->k∈bs):Only bs a c:=
 h.trans ⟨hg.os,hg.tape,hg.output,hg.size,λk hk hb=>hg.block k hk (λe=>hb (hr k e.symm))⟩
theorem Only.below{B:Nat}(h:Only bs a b)(hB:B<=a.heap.size)(hb:∀k,k∈bs->B<=k):Below B a b:=
 ⟨h.1,h.2.1,h.2.2.1,h.2.2.2.1,λk hk=>h.2.2.2.2 k (by omega) (λhc=>by have:=hb k hc;omega)⟩
theorem Only.of_below(h:Below a.heap.size a b)(bs:List Nat):Only bs a b:=
 ⟨h.os,h.tape,h.output,h.size,λk hk _=>h.block k hk⟩
theorem Only.block(h:Only bs a b){k:Nat}{o:Obj}(ho:a.heap[k]?=some o)(hk:k∉bs):b.heap[k]?=some o:=
 (h.2.2.2.2 k (lt_of_block ho) hk).trans ho
theorem Only.owns(h:Only bs a b){e:TypeId}{size:Nat}{xs:List Value}(ho:a.ownsRow base e size v n xs)(hk:∀k,v.ownBlock=some k->k∉bs):b.ownsRow base e size v n xs:=by
 refine⟨ho.1,?_⟩;rcases ho.2 with hn|⟨g,cap,cur,rfl,hb,hgg,rest⟩
 ·exact .inl hn
 ·exact .inr ⟨g,cap,cur,rfl,hb,h.block hgg (hk g rfl),rest⟩
theorem ξ0{p:Prop}(h:p):Hid p:=h
def cellsOf(L:List Nat):List Value:=L.map λ(c:Nat)=>Value.int .u8 (c:Int)
theorem ξw(L:List Nat):(cellsOf L).length=L.length:=by simp[cellsOf]
theorem ξ1v(L K:List Nat):cellsOf (L++K)=cellsOf L++cellsOf K:=by simp[cellsOf]
theorem ξ2z(L:List Nat)(j:Nat)(h:j<L.length):(cellsOf L)[j]?=some (.int .u8 (L.getD j 0:Nat)):=by
 simp[cellsOf,List.getD_eq_getElem?_getD,List.getElem?_eq_getElem h]
def Bys(w:World)(a:Option Addr)(L:List Nat):Prop:=
 (∀c∈L,c<256)/\∀j,j<L.length->∃b o,a=some ⟨b,o,none⟩/\w.cell? ⟨b,o+j,none⟩=some (.int .u8 (L.getD j 0:Nat))
theorem Bys.nil(w:World)(a:Option Addr):Bys w a []:=⟨by simp,λj h=>absurd h (by simp)⟩
theorem Bys.below{a:Option Addr}(h:Bys w a L)(hb:Below w.heap.size w w'):Bys w' a L:=by
 refine⟨h.1,λj hj=>?_⟩;obtain⟨b,o,e,hc⟩:=h.2 j hj;exact⟨b,o,e,(hb.cell (p:=⟨b,o+j,none⟩) (World.block_lt_of_cell? w ⟨b,o+j,none⟩ hc)).trans hc⟩
theorem Bys.take{a:Option Addr}(h:Bys w a L)(n:Nat):Bys w a (L.take n):=by
 refine⟨λc hc=>h.1 c (List.mem_of_mem_take hc),λj hj=>?_⟩;simp only[List.length_take]at hj;obtain⟨b,o,e,hc⟩:=h.2 j (by omega);refine⟨b,o,e,?_⟩;rw[hc,List.getD_eq_getElem?_getD,List.getD_eq_getElem?_getD,List.getElem?_take_of_lt (by omega)]
theorem Bys.drop{b o:Nat}(h:Bys w (some ⟨b,o,none⟩) L)(n:Nat):Bys w (some ⟨b,o+n,none⟩) (L.drop n):=by
 refine⟨λc hc=>h.1 c (List.mem_of_mem_drop hc),λj hj=>?_⟩;simp only[List.length_drop]at hj;obtain⟨b',o',e,hc⟩:=h.2 (n+j) (by omega);simp only[Option.some.injEq,Addr.mk.injEq,and_true]at e;obtain⟨rfl,rfl⟩:=e;refine⟨b,o+n,rfl,?_⟩;rw[Nat.add_assoc,hc,List.getD_eq_getElem?_getD,List.getD_eq_getElem?_getD,List.getElem?_drop]
def Arg(w:World)(a:Option Addr)(len:Nat)(L:List Nat):Prop:=Bys w a L/\L.length=len/\len<=9223372036854775807
theorem Arg.below{a:Option Addr}(h:Arg w a len L)(hb:Below w.heap.size w w'):Arg w' a len L:=⟨h.1.below hb,h.2⟩
theorem Arg.take{a:Option Addr}(h:Arg w a len L)(n:Nat)(hn:n<=len):Arg w a n (L.take n):=
 ⟨h.1.take n,by have:=h.2.1;simp;omega,by have:=h.2.2;omega⟩
def Row(w:World)(g:Nat)(L:List Nat):Prop:=w.heap[g]?=some (.cells (cellsOf L).toArray 5 (0,0))
theorem Row.cell(h:Row w g L)(j:Nat)(hj:j<L.length):w.cell? ⟨g,j,none⟩=some (.int .u8 (L.getD j 0:Nat)):=by
 have e:(cellsOf L).toArray[j]?=some (.int .u8 (L.getD j 0:Nat)):=by rw[List.getElem?_toArray];exact ξ2z L j hj
 simp only[Row]at h;simp[World.cell?,h,e]
theorem Row.bys(h:Row w g L)(hL:∀c∈L,c<256):Bys w (some ⟨g,0,none⟩) L:=
 ⟨hL,λj hj=>⟨g,0,rfl,by rw[Nat.zero_add];exact h.cell j hj⟩⟩
theorem Row.new(w:World)(L:List Nat):Row (w.alloc (.cells (cellsOf L).toArray 5)) w.heap.size L:=heap_alloc_new w _
theorem ξ5c(h:w.ownsRow base 5 1 (.slice (some ⟨g,0,none⟩) n n) n (cellsOf L)):Row w g L:=by
 rcases h.2 with⟨h,_⟩|⟨g',cap,cur,e,_,hb,_,_,hs,ht⟩
 ·simp at h
 ·simp only[Value.slice.injEq,Option.some.injEq,Addr.mk.injEq,and_true]at e;obtain⟨rfl,_,rfl⟩:=e;unfold Row;rw[hb,<-ht]
  congr 2
  apply Array.toList_inj.1;simp only[Nat.mul_one]at hs ⊢;rw[List.take_of_length_le (by simp[hs])]
theorem ξz{a:Option Addr}(h:Bys w a L):∀ad,a=some ad->∀j u,(cellsOf L)[j]?=some u->w.cell? (ad.add j)=some u:=by
 intro ad he j u hu;have hj:j<L.length:=by
  rcases Nat.lt_or_ge j L.length with h'|h'
  ·exact h'
  ·rw[List.getElem?_eq_none (by rw[ξw];exact h')]at hu;simp at hu
 obtain⟨b,o,e,hc⟩:=h.2 j hj;rw[he,Option.some.injEq]at e;rw[e,add_plain,hc,<-hu,ξ2z L j hj]
theorem cells_one(L:List Nat):∀u∈cellsOf L,u.oneCell'=true:=by
 intro u hu;simp only[cellsOf,List.mem_map]at hu;obtain⟨c,_,rfl⟩:=hu;rfl
theorem ξ1N{ops:Array Oper}{rest:List Oper}{o:Oper}{a:Act}{Q:Exit->Act->World->Prop}(hgd:o.guard=none)(s x:Operand)(t:TypeId)
 (ho:o.op=.call { callee:=.builtin .append,args:=#[s,x],argTypes:=#[t,t] })
 (base:Nat) (e:TypeId) (i:TypeInfo) (z:Value) (size bytes:Nat) (ht:P.underlying t=some (.slice e)) (hi:P.info? e=some i) (hz:i.zero=some z)
 (hsize:i.size=size) (hby:i.bytes=bytes) (hzs:z.cells.size=size) (hsz:0<size)
 (v:Value) (n:Nat) (xs:List Value) (hs:a.eval s=v) (hown:w.ownsRow base e size v n xs)
 (ao:Option Addr) (m c:Nat) (news:List Value) (hx:a.eval x=.slice ao m c) (hl:news.length=m*size) (hnone:ao=none->m=0/\c=0) (ae:∀ad,ao=some ad->∀j u,news[j]?=some u->w.cell? (ad.add j)=some u) (h1:∀u∈news,u.oneCell'=true)
 (h63:n+m<=maxLen) (hbytes:(n+m)*bytes<=140737488355328) (hbase:base<=w.heap.size)
 (h:∀v' w',w'.ownsRow base e size v' (n+m) (xs++news)->w.grownBy w' v.ownBlock->wpList P ops Q rest (a.put o.dst v') w'):wpList P ops Q (o::rest) a w:=by
 cases ao with
 | some ad=>exact wpList_append_own (P:=P) w hgd s x t ho base e i z size bytes ht hi hz hsize hby hzs hsz v n xs hs hown ad m c news hx hl (ae ad rfl) h1 h63 hbytes hbase λv' w' h2 h3 _=>h v' w' h2 h3
 | none=>
   obtain⟨rfl,rfl⟩:=hnone rfl;have ae:news=[]:=List.eq_nil_of_length_eq_zero (by simpa using hl);subst ae;exact wpList_append_own_none hgd s x t ho base e i size ht hi v n xs hs hown hx (h v w (by simpa using hown) (World.grownBy.refl _ _))
theorem ξy(h:w.ownsRow base 5 1 v n (cellsOf L))(hL:∀c∈L,c<256)(hn:n<=9223372036854775807) :
 ∃a cap,v=.slice a n cap/\Arg w a n L/\(a=none->n=0/\cap=0)/\n<=cap/\∀ad,a=some ad->∃g,ad=⟨g,0,none⟩/\base<=g:=by
 have hl:L.length=n:=by have:=h.1;rw[ξw]at this;omega
 rcases h.2 with⟨rfl,rfl⟩|⟨g,cap,cur,rfl,hg,hb,hc,hm,hs,ht⟩
 ·have:L=[]:=List.eq_nil_of_length_eq_zero hl;subst this;exact⟨none,0,rfl,⟨Bys.nil _ _,rfl,hn⟩,λ_=>⟨rfl,rfl⟩,Nat.le_refl _,λad e=>by simp at e⟩
 ·refine⟨_,cap,rfl,⟨⟨hL,λj hj=>⟨g,0,rfl,?_⟩⟩,hl,hn⟩,λe=>by simp at e,hc,λad e=>⟨g,by simpa using e.symm,hg⟩⟩;rw[Nat.zero_add,h.cellAt j (by omega),ξ2z L j hj]
def str(L:List Nat):ByteArray:=strOfNums (L.map λ(c:Nat)=>(c:Int))
theorem ξ3e{a:Option Addr}{cap src e dst:Nat}(hs:P.underlying src=some (.slice e))(he:P.underlying e=some (.int .u8))(hd:P.underlying dst=some .string)
 (h:Arg w a n L) (hsp:∀ad,a=some ad->∃b o,ad=⟨b,o,none⟩):(convert src dst (.slice a n cap)).run P w=.ok (.string (str L)) w:=by
 cases a with
 | none=>
   have hl:L=[]:=by
    cases L with
    | nil=>rfl
    | cons c L=>obtain⟨_,_,e,_⟩:=h.1.2 0 (by simp);simp at e
   subst hl;rw[run_convert_bytes_nil w src e hs he _ _ dst hd];rfl
 | some ad=>
   obtain⟨b,o,rfl⟩:=hsp ad rfl;refine run_convert_bytes_arg w src e hs he b o n cap (L.map λ(c:Nat)=>(c:Int)) (by simp;exact h.2.1) (λi hi=>?_) dst hd;obtain⟨b',o',e,hc⟩:=h.1.2 i (by have:=h.2.1;omega);simp only[Option.some.injEq,Addr.mk.injEq,and_true]at e;obtain⟨rfl,rfl⟩:=e;rw[hc]
   congr 2
   simp[List.getD_eq_getElem?_getD,List.getElem?_eq_getElem (show i<L.length by have:=h.2.1;omega)]
end Go.Proofs.YtpiamlgmadnepaaGreat.Mem
