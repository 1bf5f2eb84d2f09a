/-
 What the proof needs.
-/
import Derived.Test.YtpiamlgmadnepaaGreatPackAll
import Derived.Deep.CutRange
import Derived.Deep.LoopGhost
import Derived.Outline
import Derived.RegionTactic
import Derived.Laws.BitsLemmas
import Derived.Deep.AppendLies
open Go.Proofs.Tryz
set_option linter.unusedVariables false
set_option maxHeartbeats 4000000
set_option maxRecDepth 100000
namespace Go.Proofs.YtpiamlgmadnepaaGreat.AU
open PM
variable {j i K:Nat}{c:Nat->Nat}
structure Pk where
 s:Int
 t:Int
 l:Int
 q:Int
 st:Bool
 a:Option Addr
 m:Nat
 c:Nat
 L:List Nat
variable {S G X:List Pk}
def A0l:Pk:=⟨0,0,0,0,false,none,0,0,[]⟩
def like(p o:Pk):Bool:=decide (p.l=o.l)&&(decide (p.q=o.q)&&(decide (p.st=o.st)&&decide (p.L=o.L)))
theorem ξdi{p o:Pk}:like p o=true↔p.l=o.l/\p.q=o.q/\p.st=o.st/\p.L=o.L:=by simp[like]
def fi(f:Pk->Bool):List Pk->Nat
 | []=>0
 | x::r=>if f x then 0 else fi f r+1
theorem ξgy(f:Pk->Bool)(L:List Pk):fi f L<=L.length:=by
 induction L with
 | nil=>simp[fi]
 | cons x r ih=>unfold fi;split<;>simp<;>omega
theorem ξgz{f:Pk->Bool}{L:List Pk}(hj:j<L.length)(h:f (L.getD j A0l)=true):fi f L<=j:=by
 induction L generalizing j with
 | nil=>simp at hj
 | cons x r ih=>
   unfold fi;split
   ·omega
   ·rename_i hx;cases j with
    | zero=>exact absurd (by simpa using h) hx
    | succ j=>
      have:=ih (j:=j) (by simpa using hj) (by simpa using h);omega
theorem ξ2s{α:Type}{L:List α}{d:α}(hj:j<L.length):L.drop j=L.getD j d::L.drop (j+1):=by
 rw[List.drop_eq_getElem_cons hj,Ξa,Ξd hj];rfl
theorem ξ5V(L:List Pk)(k j:Nat):(L.drop k).getD j A0l=L.getD (k+j) A0l:=by
 simp only[Ξa,List.getElem?_drop]
def nxt(S G:List Pk):Nat->Nat
 | 0=>0
 | i+1=>nxt S G i+fi (like (G.getD i A0l)) (S.drop (nxt S G i))+1
theorem ξ34(S G:List Pk)(i:Nat):nxt S G (i+1)=nxt S G i+fi (like (G.getD i A0l)) (S.drop (nxt S G i))+1:=rfl
theorem ξbk(S G:List Pk)(i:Nat):nxt S G i<nxt S G (i+1):=by rw[ξ34];omega
theorem ξd6(S G:List Pk)(h:i<=j):nxt S G i<=nxt S G j:=by
 induction h with
 | refl=>exact Ξo _
 | step h ih=>have:=ξbk S G (by assumption:Nat);exact Nat.le_trans ih (Nat.le_of_lt (ξbk S G _))
structure Stop(S G:List Pk)(K:Nat):Prop where
 hk:K<=G.length
 hn:nxt S G K<=S.length
 he:K<G.length->S.length<nxt S G (K+1)
theorem Stop.lt(h:Stop S G K)(hi:i<K):nxt S G (i+1)<=S.length:=Nat.le_trans (ξd6 S G hi) h.hn
theorem ξg2(hc:∀i,i<G.length->c i<S.length/\like (G.getD i A0l) (S.getD (c i) A0l)=true)(hm:∀i,i+1<G.length->c i<c (i+1)) :
 ∀i,i<G.length->nxt S G (i+1)<=c i+1:=by
 have key:∀i,i<G.length->nxt S G i<=c i->nxt S G (i+1)<=c i+1:=by
  intro i hi hn;rw[ξ34];have h2:=ξgz (f:=like (G.getD i A0l)) (L:=S.drop (nxt S G i)) (j:=c i-nxt S G i) (by rw[List.length_drop];have:=(hc i hi).1;omega) (by rw[ξ5V,show nxt S G i+(c i-nxt S G i)=c i by omega];exact(hc i hi).2);omega
 intro i
 induction i with
 | zero=>intro hi;exact key 0 hi (by simp[nxt])
 | succ i ih=>
   intro hi;have h1:=ih (by omega);have h2:=hm i hi;exact key (i+1) hi (by omega)
theorem ξet(hc:∀i,i<G.length->c i<S.length/\like (G.getD i A0l) (S.getD (c i) A0l)=true)(hm:∀i,i+1<G.length->c i<c (i+1)) :
 Stop S G G.length:=by
 refine⟨Ξo _,?_,λh=>absurd h (by omega)⟩;cases h:G.length with
 | zero=>simp[nxt]
 | succ n=>
   have h1:=ξg2 hc hm n (by omega);have h2:=(hc n (by omega)).1;omega
def pl(S G:List Pk)(i:Nat):Nat:=nxt S G (i+1)-1
theorem ξgo(S G:List Pk)(i:Nat):pl S G i=nxt S G i+fi (like (G.getD i A0l)) (S.drop (nxt S G i)):=by unfold pl;rw[ξ34];omega
def pls(S G:List Pk)(k:Nat):List Int:=(List.range k).map λi=>(pl S G i:Int)
theorem ξcT(S G:List Pk)(k:Nat):pls S G (k+1)=pls S G k++[(pl S G k:Int)]:=by simp[pls,List.range_succ]
theorem ξ8s(S G:List Pk)(k:Nat):(pls S G k).length=k:=by simp[pls]
def hl(S G:List Pk)(i:Nat):Int:=(pl S G (i+1):Int)-(pl S G i:Int)-1
def hls(S G:List Pk)(k:Nat):List Int:=(List.range k).map λi=>hl S G i
def A0s(S G:List Pk)(K:Nat):Nat:=if 1000<S.length∨1000<G.length then 4 else if K<G.length then 5 else 0
theorem ξ44(h:1000<S.length∨1000<G.length):A0s S G K=4:=by unfold A0s;rw[if_pos h]
theorem ξ85(h:¬(1000<S.length∨1000<G.length))(hk:K<G.length):A0s S G K=5:=by unfold A0s;rw[if_neg h,if_pos hk]
theorem ξ5Y(h:¬(1000<S.length∨1000<G.length))(hk:¬K<G.length):A0s S G K=0:=by unfold A0s;rw[if_neg h,if_neg hk]
def cat(S G:List Pk)(K:Nat):Nat:=if A0s S G K=5 then K else 0
def pf(p:Pk):Nat:=fault p.s p.t p.l p.q p.m
def rfa(X:List Pk)(i:Nat):Nat:=if pf (X.getD i A0l)≠0 then pf (X.getD i A0l)else if 0<i/\(X.getD i A0l).s≠((X.getD (i-1) A0l).s+1)%65536 then 3 else 0
structure A8z(X:List Pk)(K:Nat):Prop where
 hk:K<=X.length
 hn:∀i,i<K->rfa X i=0
 he:K<X.length->rfa X K≠0
theorem ξaP(h:∀i,i<X.length->rfa X i=0):A8z X X.length:=⟨Ξo _,h,λh=>by omega⟩
def A5z(X:List Pk)(K:Nat):Nat:=if 1000<X.length then 4 else if K<X.length then rfa X K else 0
def rat(X:List Pk)(K:Nat):Nat:=if 1000<X.length then 0 else if K<X.length then K else 0
theorem ξfX(h:rfa X i=0):pf (X.getD i A0l)=0:=by
 unfold rfa at h;split at h
 ·exact h
 ·rename_i h';simpa using h'
end Go.Proofs.YtpiamlgmadnepaaGreat.AU
namespace Go.Proofs.YtpiamlgmadnepaaGreat.Audit
open ChangeShapes WideShapes ChangeAt RowKit PM Mem Pack AU
variable {L K:List Nat}{w w' wr:World}{a:Option Addr}{n b o base:Nat}{p:Pk}{X:List Pk}{v:Value}
theorem ξes(hL:∀c∈L,c<256)(hK:∀c∈K,c<256)(h:str L=str K):L=K:=by
 have e:(L.map λc=>UInt8.ofNat c)=K.map λc=>UInt8.ofNat c:=by
  have:=congrArg (λb:ByteArray=>b.data.toList) h;simpa[str,strOfNums,Function.comp_def]using this
 have back:∀M:List Nat,(∀c∈M,c<256)->(M.map λc=>UInt8.ofNat c).map UInt8.toNat=M:=by
  intro M hM
  induction M with
  | nil=>rfl
  | cons c M ih=>
    have hc:=hM c (by simp);simp only[List.map_cons,List.cons.injEq];exact⟨by simp;omega,ih λx hx=>hM x (by simp[hx])⟩
 rw[<-back L hL,e,back K hK]
theorem str_eq(hL:∀c∈L,c<256)(hK:∀c∈K,c<256):((str L).toList==(str K).toList)=decide (L=K):=by
 by_cases h:L=K
 ·rw[h];simp
 ·rw[decide_eq_false h];have:(str L).toList≠(str K).toList:=λh'=>h (ξes hL hK (by
   rw[ByteArray.toList_eq,ByteArray.toList_eq]at h';exact ByteArray.ext (Array.toList_inj.1 h')))
  simpa using this
theorem ξaH{cap:Nat}(h:Arg w a n L):(convert 36 9 (.slice a n cap)).run prog w=.ok (.string (str L)) w:=by
 cases L with
 | cons c L=>
   obtain⟨b,o,e,_⟩:=h.1.2 0 (by simp);exact ξ3e underlying36 underlying5 underlying9 h (λad h=>by rw[e]at h;exact⟨b,o,(Option.some.inj h).symm⟩)
 | nil=>
   have hn:n=0:=by have:=h.2.1;simpa using this.symm
   subst hn;cases a with
   | none=>exact ξ3e underlying36 underlying5 underlying9 h (λad h=>by simp at h)
   | some ad=>
     rw[run_convert_bytes_string w 36 9 5 _ 0 cap underlying36 underlying5 underlying9];have hl:(loadCells ad 0).run prog w=.ok #[] w:=run_loadCells_list (P:=prog) w ad [] (λj v hj=>by simp at hj);simp[Conv.bytesToString,str,strOfNums,hl];rfl
def pv(p:Pk):Value:=.agg #[.int .i64 p.s,.int .i64 p.t,.int .i64 p.l,.int .i64 p.q,.bool p.st,.slice p.a p.m p.c]
def A6j(w:World)(b o:Nat)(p:Pk):Prop:=
 w.cell? ⟨b,o,none⟩=some (.int .i64 p.s)/\w.cell? ⟨b,o+1,none⟩=some (.int .i64 p.t)/\w.cell? ⟨b,o+2,none⟩=some (.int .i64 p.l)/\w.cell? ⟨b,o+3,none⟩=some (.int .i64 p.q)/\w.cell? ⟨b,o+4,none⟩=some (.bool p.st)/\w.cell? ⟨b,o+5,none⟩=some (.slice p.a p.m p.c)
def A4i(w:World)(p:Pk):Prop:=Arg w p.a p.m p.L
theorem A6j.below(h:A6j w b o p)(hb:Below w.heap.size w w'):A6j w' b o p:=by
 obtain⟨h0,h1,h2,h3,h4,h5⟩:=h;have k:∀j v,w.cell? ⟨b,j,none⟩=some v->w'.cell? ⟨b,j,none⟩=some v:=λj v hc=>(hb.cell (p:=⟨b,j,none⟩) (Ξq w _ hc)).trans hc;exact⟨k _ _ h0,k _ _ h1,k _ _ h2,k _ _ h3,k _ _ h4,k _ _ h5⟩
def A04(w:World)(a:Option Addr)(n:Nat)(X:List Pk):Prop:=
 X.length=n/\n<=9223372036854775807/\∀j,j<n->∃b o,a=some ⟨b,o,none⟩/\A6j w b (o+j*6) (X.getD j A0l)/\A4i w (X.getD j A0l)
theorem A04.below(h:A04 w a n X)(hb:Below w.heap.size w w'):A04 w' a n X:=by
 refine⟨h.1,h.2.1,λj hj=>?_⟩;obtain⟨b,o,e,h1,h2⟩:=h.2.2 j hj;exact⟨b,o,e,h1.below hb,h2.below hb⟩
theorem A04.at(h:A04 w a n X)(hn:0<n):∃b o,a=some ⟨b,o,none⟩/\∀j,j<n->A6j w b (o+j*6) (X.getD j A0l)/\A4i w (X.getD j A0l):=by
 obtain⟨b,o,rfl,_⟩:=h.2.2 0 hn;refine⟨b,o,rfl,λj hj=>?_⟩;obtain⟨b',o',e,h1,h2⟩:=h.2.2 j hj;simp only[Option.some.injEq,Addr.mk.injEq,and_true]at e;obtain⟨rfl,rfl⟩:=e;exact⟨h1,h2⟩
theorem A04.drop(h:A04 w (some ⟨b,o,none⟩) n X)(k:Nat)(hk:k<=n):A04 w (some ⟨b,o+k*6,none⟩) (n-k) (X.drop k):=by
 refine⟨by rw[List.length_drop,h.1],by have:=h.2.1;omega,λj hj=>?_⟩;obtain⟨b',o',e,h1,h2⟩:=h.2.2 (k+j) (by omega);simp only[Option.some.injEq,Addr.mk.injEq,and_true]at e;obtain⟨rfl,rfl⟩:=e;rw[ξ5V];refine⟨b,_,rfl,?_,h2⟩;rw[show o+k*6+j*6=o+(k+j)*6 by omega];exact h1
theorem A04.empty(w:World)(a:Option Addr):A04 w a 0 []:=⟨rfl,by omega,λj hj=>by omega⟩
theorem A6k:(prog.info? 38).map (λi=>(i.zero,i.size,i.bytes))=some (some (.agg #[.int .i64 0,.int .i64 0,.int .i64 0,.int .i64 0,.bool false,.slice none 0 0]),6,64):=by kernel_rfl
theorem A6l:prog.elem 33=38:=by kernel_rfl
theorem A7j(w:World):(sizeOf 38).run prog w=.ok 6 w:=by
 obtain⟨i,hi,_,hs,_⟩:=info_parts A6k;simp[sizeOf,typeInfo,hi,hs]
theorem A80:prog.underlying 33=some (.slice (prog.elem 33)):=by rw[A6l];exact underlying33
theorem ξ3O(w0:World)(a:Option Addr)(n cap k:Nat)(X:List Pk)(h:A04 w0 a n X)(hk:k<=n)(hc:n<=cap)(hN:a=none->cap=0) :
 ∃a' cap',(∀w:World,(Instr.slice 33 (.slice a n cap) (some (.int .i64 (k:Int))) none none).run prog w=.ok (.slice a' (n-k) cap') w)/\A04 w0 a' (n-k) (X.drop k):=by
 have ae:=h.1;by_cases e:cap=k
 ·have ah:n=k:=by omega
  subst e;refine⟨a,0,λw=>?_,?_⟩
  ·rw[run_slice_l w 33 _ n cap A80 .i64 cap (by omega) (by omega),A6l,A7j];subst ah;simp[Result.andThen,sliced]
  ·subst ah;rw[Nat.sub_self,List.drop_eq_nil_of_le (by omega)];exact A04.empty _ _
 ·cases a with
  | none=>have:=hN rfl;omega
  | some ad=>
    by_cases hn:0<n
    ·obtain⟨b,o,e2,_⟩:=h.at hn;simp only[Option.some.injEq]at e2;subst e2;refine⟨some ⟨b,o+k*6,none⟩,cap-k,λw=>?_,h.drop k hk⟩;rw[run_slice_l w 33 _ n cap A80 .i64 k (by omega) (by omega),A6l,A7j];have e2:(⟨b,o,none⟩:Addr).add (k*6)=⟨b,o+k*6,none⟩:=by rw[add_plain]
     simp[Result.andThen,sliced,e,e2]
    ·have h0:n=0:=by omega
     have ai:k=0:=by omega
     subst h0 ai;have hX:X=[]:=Ξk ae;subst hX;refine⟨some (ad.add 0),cap,λw=>?_,A04.empty _ _⟩;rw[run_slice_l w 33 _ 0 cap A80 .i64 ((0:Nat):Int) (by omega) (by omega),A6l,A7j];simp[Result.andThen,sliced,e]
theorem ξ2y(a b:Option Addr)(n m cap cap':Nat)(L K:List Nat)(w:World)(hA:Arg w a n L)(hB:Arg w b m K) :
 Calls prog 128 #[.slice a n cap,.slice b m cap'] w λe w'=>e=.returned (.bool (decide (L=K)))/\w'=w:=by
 have k1:(convert 36 9 (.slice a n cap)).run prog w=.ok (.string (str L)) w:=ξaH hA;have k2:(convert 36 9 (.slice b m cap')).run prog w=.ok (.string (str K)) w:=ξaH hB;have hs:Hid (((str L).toList==(str K).toList)=decide (L=K)):=str_eq hA.1.1 hB.1.1;clear hA hB;generalize str L=S1 at *;generalize str K=S2 at *;go_enter func128,ntmps128;go_wp2_with fail
 go_ret;exact⟨by rw[<-hs.out];rfl,rfl⟩
theorem ξ9g(p o:Pk)(w:World)(hp:A4i w p)(ho:A4i w o) :
 Calls prog 102 #[pv p,pv o] w λe w'=>e=.returned (.bool (like p o))/\Below w.heap.size w w':=by
 obtain⟨s,t,l,q,st,a,m,c,L⟩:=p;obtain⟨s',t',l',q',ae,a',m',c',L'⟩:=o;have hb:∀O1 O2,Below w.heap.size w ((w.alloc O1).alloc O2):=λO1 O2=>((Ξp _ _).alloc (Ξo _) _).alloc (by simp) _;have HC:=ξ0 (λO1 O2=>ξ2y a a' m m' c c' L L' ((w.alloc O1).alloc O2) (hp.below (hb O1 O2)) (ho.below (hb O1 O2)));have HB:=ξ0 hb;have HE:Hid (like ⟨s,t,l,q,st,a,m,c,L⟩ ⟨s',t',l',q',ae,a',m',c',L'⟩=(decide (l=l')&&(decide (q=q')&&(decide (st=ae)&&decide (L=L'))))):=rfl;generalize like ⟨s,t,l,q,st,a,m,c,L⟩ ⟨s',t',l',q',ae,a',m',c',L'⟩=R at *;generalize decide (L=L')=bL at *;clear hb hp ho;simp only[pv];by_cases h1:l=l'
 ·have d1:(l==l')=true:=by simpa using h1
  by_cases h2:q=q'
  ·have d2:(q==q')=true:=by simpa using h2
   by_cases h3:st=ae
   ·have d3:(st==ae)=true:=by simpa using h3
    have HR:Hid (R=bL):=by rw[HE.out];simp[h1,h2,h3,ξ0]
    clear h1 h2 h3 HE;go_enter func102,ntmps102;go_wp2_with fail
    refine(HC.out _ _).mono ?_;rintro e w2 ⟨rfl,rfl⟩;go_wp2_with fail;go_ret;exact⟨by rw[HR.out];rfl,HB.out _ _⟩
   ·have d3:(st==ae)=false:=by simpa using h3
    have HR:Hid (R=false):=by rw[HE.out];simp[h3,ξ0]
    clear h1 h2 h3 HE HC;go_enter func102,ntmps102;go_wp2_with fail
    go_ret;exact⟨by rw[HR.out];rfl,HB.out _ _⟩
  ·have d2:(q==q')=false:=by simpa using h2
   have HR:Hid (R=false):=by rw[HE.out];simp[h2,ξ0]
   clear h1 h2 HE HC;go_enter func102,ntmps102;go_wp2_with fail
   go_ret;exact⟨by rw[HR.out];rfl,HB.out _ _⟩
 ·have d1:(l==l')=false:=by simpa using h1
  have HR:Hid (R=false):=by rw[HE.out];simp[h1,ξ0]
  clear h1 HE HC;go_enter func102,ntmps102;go_wp2_with fail
  go_ret;exact⟨by rw[HR.out];rfl,HB.out _ _⟩
def A17(w:World)(g:Nat)(p:Pk):Prop:=Box w g p.s p.t p.l p.q p.st (.slice p.a p.m p.c)/\A4i w p
theorem A17.below{g:Nat}(h:A17 w g p)(hb:Below w.heap.size w w'):A17 w' g p:=⟨h.1.below hb h.1.lt,h.2.below hb⟩
theorem ξ4k(p o:Pk)(B:Nat)(w:World)(hp:A17 w B p)(ho:A4i w o) :
 Calls prog 101 #[pv o,.pointer (some ⟨B,0,none⟩)] w λe w'=>e=.returned (.bool (like p o))/\Below w.heap.size w w':=by
 have HB:Hid (∀O,Below w.heap.size w (w.alloc O)):=λO=>(Ξp _ _).alloc (Ξo _) _;have HC:Hid (∀O,Calls prog 102 #[pv p,pv o] (w.alloc O) λe w'=>e=.returned (.bool (like p o))/\Below (w.alloc O).heap.size (w.alloc O) w'):=λO=>ξ9g p o (w.alloc O) (hp.2.below (HB.out O)) (ho.below (HB.out O));generalize like p o=R at *;obtain⟨s,t,l,q,st,a,m,c,L⟩:=p;obtain⟨s',t',l',q',ai,a',m',c',L'⟩:=o;have ae:=hp.1;have am:=ae.lt;have hc:∀O,(w.alloc O).cell? ⟨B,0,none⟩=some (.int .i64 s)/\(w.alloc O).cell? ⟨B,1,none⟩=some (.int .i64 t)/\(w.alloc O).cell? ⟨B,2,none⟩=some (.int .i64 l)/\(w.alloc O).cell? ⟨B,3,none⟩=some (.int .i64 q)/\(w.alloc O).cell? ⟨B,4,none⟩=some (.bool st)/\(w.alloc O).cell? ⟨B,5,none⟩=some (.slice a m c):=λO=>(ae.alloc O).cells;obtain⟨c0,c1,c2,c3,c4,c5⟩:=ae.cells;simp only[pv]at HC ⊢;clear hp ho ae hc;go_enter func101,ntmps101;go_wp2_with fail
 refine(HC.out _).mono ?_;rintro e w2 ⟨rfl,ah⟩;have aj:=ξ0 ((HB.out _).trans (ah.mono (HB.out (.cells #[.int .i64 s',.int .i64 t',.int .i64 l',.int .i64 q',.bool ai,.slice a' m' c'] 38)).size));clear ah;go_wp2_with fail;go_ret;exact⟨rfl,aj.out⟩
theorem ξbC(a:Option Addr)(n cap:Nat)(X:List Pk)(B:Nat)(p:Pk)(w:World)(h:A04 w a n X)(hb:A17 w B p) :
 Calls prog 100 #[.slice a n cap,.func (.func 101) #[] #[.pointer (some ⟨B,0,none⟩)]] w λr w'=>r=.returned (.int .i64 (if fi (like p) X<n then(fi (like p) X:Int)else -1))/\Below w.heap.size w w':=by
 have hl:=h.1;have hn:=h.2.1;have HA:=ξ0 h;have HX:=ξ0 hb;clear h hb;obtain⟨q,hq⟩:=nm (fi (like p) X);have HQ:Hid (fi (like p) (X.drop 0)+0=q):=by unfold Hid;rw[List.drop_zero];exact hq
 rw[hq];obtain⟨R,hR⟩:∃R:Int,(if q<n then(q:Int)else -1)=R:=⟨_,rfl⟩;rw[hR];have HR:=ξ0 hR;clear hq hR;go_enter func100,ntmps100;go_wp2_with fail
 go_loopg [8] n (λg x wr=>∃j:Nat,j+g=n/\x=.int .i64 (j:Int)/\Hid (fi (like p) (X.drop j)+j=q)/\Hid (Below w.heap.size w wr))
 case atStart=>exact⟨0,by omega,rfl,HQ,Ξp _ _⟩
 case round=>
  obtain⟨j,aq,rfl,HK,HW⟩:=hrel;by_cases hj:j<n
  ·have am:(j:Int)<(n:Int):=by omega
   obtain⟨b,o,rfl,aj⟩:=(HA.out.below HW.out).at (by omega);obtain⟨⟨c0,c1,c2,c3,c4,c5⟩,ah⟩:=aj j hj;have hk:=HK.out;rw[ξ2s (d:=A0l) (by omega),fi]at hk;obtain⟨m,hm⟩:=nm (X.getD j A0l);rw[hm]at c0 c1 c2 c3 c4 c5 hk ah;have C:=ξ0 (ξ4k p m B wr (HX.out.below HW.out) ah);clear hm aj HK ah;simp only[pv]at C;cases ht:like p m with
   | true=>
     rw[ht]at C hk;have HK:Hid (j=q):=by unfold Hid;rw[if_pos rfl]at hk;omega
     clear hk ht;go_wp2_with fail;refine C.out.mono ?_;rintro r w1 ⟨rfl,ae⟩;have ai:Hid (Below w.heap.size w w1):=HW.out.trans (ae.mono HW.out.size);clear ae;go_wp2_with fail;go_ret;exact⟨by rw[<-HR.out,<-HK.out,if_pos hj];rfl,ai.out⟩
   | false=>
     rw[ht]at C hk;have HK:Hid (fi (like p) (X.drop (j+1))+(j+1)=q):=by unfold Hid;rw[if_neg (by simp)]at hk;omega
     clear hk ht;go_wp2_with fail;refine C.out.mono ?_;rintro r w1 ⟨rfl,ae⟩;have ai:Hid (Below w.heap.size w w1):=HW.out.trans (ae.mono HW.out.size);clear ae;go_wp2_with fail;go_roundg (n-(j+1))
     case measure=>omega
     case rel=>exact⟨j+1,by omega,by go_num,HK,ai⟩
  ·have am:¬(j:Int)<(n:Int):=by omega
   have hk:=HK.out;rw[List.drop_eq_nil_of_le (by omega),fi]at hk;have HK:Hid (¬q<n):=by unfold Hid;omega
   clear hk;go_wp2_with fail;go_ret;exact⟨by rw[<-HR.out,if_neg HK.out];rfl,HW.out⟩
theorem info3:(prog.info? 3).map (λi=>(i.zero,i.size,i.bytes))=some (some (.int .i64 0),1,8):=by kernel_rfl
def ic(L:List Int):List Value:=L.map (Value.int .i64)
theorem ξE(L:List Int):(ic L).length=L.length:=by simp[ic]
theorem ξ22(L:List Int)(j:Nat)(h:j<L.length):(ic L)[j]?=some (.int .i64 (L.getD j 0)):=by
 simp[ic,List.getD_eq_getElem?_getD,List.getElem?_eq_getElem h]
def Ints(w:World)(a:Option Addr)(L:List Int):Prop:=∀j,j<L.length->∃b o,a=some ⟨b,o,none⟩/\w.cell? ⟨b,o+j,none⟩=some (.int .i64 (L.getD j 0))
def A0b(w:World)(a:Option Addr)(n:Nat)(L:List Int):Prop:=Ints w a L/\L.length=n/\n<=9223372036854775807
theorem A0b.nil(w:World)(a:Option Addr):A0b w a 0 []:=⟨λj h=>absurd h (by simp),rfl,by omega⟩
theorem ξl{L:List Int}(h:w.ownsRow base 3 1 v n (ic L))(hn:n<=9223372036854775807) :
 ∃a cap,v=.slice a n cap/\A0b w a n L/\(a=none->n=0/\cap=0)/\n<=cap/\∀ad,a=some ad->∃g,ad=⟨g,0,none⟩/\base<=g/\g<w.heap.size:=by
 have hl:L.length=n:=by have:=h.1;rw[ξE]at this;omega
 rcases h.2 with⟨rfl,rfl⟩|⟨g,cap,cur,rfl,hg,hb,hc,hm,hs,ht⟩
 ·have:L=[]:=Ξk hl;subst this;exact⟨none,0,rfl,A0b.nil _ _,λ_=>⟨rfl,rfl⟩,Ξo _,λad e=>by simp at e⟩
 ·refine⟨_,cap,rfl,⟨λj hj=>⟨g,0,rfl,?_⟩,hl,hn⟩,λe=>by simp at e,hc,λad e=>⟨g,by simpa using e.symm,hg,lt_of_block hb⟩⟩;rw[Nat.zero_add,h.cellAt j (by omega),ξ22 L j hj]
theorem below_drewN'(h:Below w.heap.size w wr)(q:Nat):Below w.heap.size w (wr.drewN q):=⟨h.os,h.tape,h.output,h.size,h.block⟩
theorem ξ9(h:Below w.heap.size w wr)(o:Obj):Below w.heap.size w (wr.alloc o):=h.alloc h.size o
theorem own_below{e sz:Nat}{xs:List Value}(h:w.ownsRow base e sz v n xs)(hb:Below w.heap.size w w'):w'.ownsRow base e sz v n xs:=by
 refine⟨h.1,?_⟩;rcases h.2 with hl|⟨g,cap,cur,rfl,hg,hbl,rest⟩
 ·exact .inl hl
 ·exact .inr ⟨g,cap,cur,rfl,hg,(hb.block g (lt_of_block hbl)).trans hbl,rest⟩
theorem A50{T:TypeId}(c0:Value):∀j u,[c0][j]?=some u->(w.alloc (.cells #[c0] T)).cell? ((⟨w.heap.size,0,none⟩:Addr).add j)=some u:=by
 intro j u hu;rw[Addr.add_lit,World.cell?_alloc_mark,Nat.zero_add,<-hu];exact List.getElem?_toArray
def kk(S G:List Pk)(K:Nat):Nat:=if 1000<S.length∨1000<G.length then 0 else K
structure TSt(w wr:World)(K:List Int)(v:Value):Prop where
 below:Below w.heap.size w wr
 own:wr.ownsRow w.heap.size 3 1 v K.length (ic K)
theorem TSt.go{wr':World}{K:List Int}(h:TSt w wr K v)(hb:Below wr.heap.size wr wr'):TSt w wr' K v:=⟨h.below.trans (hb.mono h.below.size),own_below h.own hb⟩
theorem ξR(a:Option Addr)(n cap:Nat)(S:List Pk)(a2:Option Addr)(m cap2:Nat)(G:List Pk)(K:Nat)(w:World)(hS:A04 w a n S)(hc:n<=cap)(hN:a=none->cap=0)(hG:A04 w a2 m G)(hK:Stop S G K) :
 Calls prog 58 #[.slice a n cap,.slice a2 m cap2] w λe w'=>∃v,e=.returned (.tuple #[v,A0a (A0s S G K)])/\w'.ownsRow w.heap.size 3 1 v (pls S G (kk S G K)).length (ic (pls S G (kk S G K)))/\Below w.heap.size w w':=by
 have hl:=hS.1;have hm:=hG.1;have aQ:=hS.2.1;have aS:=hG.2.1;have HS:=ξ0 hS;have HG:=ξ0 hG;by_cases h1:1000<n
 ·have e1:A0s S G K=4:=ξ44 (by omega);have e2:kk S G K=0:=by unfold kk;rw[if_pos (by omega)]
  rw[e1,e2,ξb (by omega)];have d1:decide (1000<(n:Int))=true:=by simp;omega
  clear hS hG hK e1 e2;go_enter func58,ntmps58;go_wp2_with fail
  go_ret2;exact⟨_,rfl,Ξr _ _ _ _,Ξp _ _⟩
 have d1:decide (1000<(n:Int))=false:=by simp;omega
 by_cases h2:1000<m
 ·have e1:A0s S G K=4:=ξ44 (by omega);have e2:kk S G K=0:=by unfold kk;rw[if_pos (by omega)]
  rw[e1,e2,ξb (by omega)];have d2:decide (1000<(m:Int))=true:=by simp;omega
  clear hS hG hK e1 e2;go_enter func58,ntmps58;go_wp2_with fail
  go_ret2;exact⟨_,rfl,Ξr _ _ _ _,Ξp _ _⟩
 have d2:decide (1000<(m:Int))=false:=by simp;omega
 have e2:kk S G K=K:=by unfold kk;rw[if_neg (by omega)]
 rw[e2];have HK:=ξ0 hK;have aD:Hid (K<m->A0s S G K=5):=λh=>ξ85 (by omega) (by omega);have aE:Hid (¬K<m->A0s S G K=0):=λh=>ξ5Y (by omega) (by omega);generalize A0s S G K=f at *;obtain⟨i0,aF,aG,aH,aI⟩:=info_parts info3;have aJ:Hid (TSt w w (pls S G 0) (.slice none 0 0)):=⟨Ξp _ _,Ξr _ _ _ _⟩;clear hS hG hK e2;go_enter func58,ntmps58;go_wp2_with fail
 go_loopg [4,6,21] m (λg u y x wr=>∃(i nx:Nat) (v:Value),i+g=m/\i<=K/\v=u/\nx<=n/\y=.int .i64 (nx:Int)/\x=.int .i64 (i:Int)/\Hid (nxt S G i=nx)/\Hid (TSt w wr (pls S G i) v))
 case atStart=>exact⟨0,0,_,by omega,by omega,rfl,by omega,rfl,rfl,rfl,aJ⟩
 case round=>
  obtain⟨i,nx,v,aT,aU,rfl,aL,rfl,rfl,HX,HT⟩:=hrel;by_cases hi:i<m
  ·have aM:(i:Int)<(m:Int):=by omega
   obtain⟨b,o,rfl,ay⟩:=(HG.out.below HT.out.below).at (by omega);obtain⟨⟨c0,c1,c2,c3,c4,c5⟩,aq⟩:=ay i hi;have au:=ξ34 S G i;obtain⟨p,hp⟩:=nm (G.getD i A0l);rw[hp]at c0 c1 c2 c3 c4 c5 aq au;have HP:=ξ0 hp;clear hp ay;obtain⟨a',aw,hcut,az⟩:=ξ3O w a n cap nx S HS.out aL hc hN;have aA:=ξgy (like p) (S.drop nx);rw[List.length_drop,hl]at aA;have HSt:Hid (nxt S G (i+1)=nx+fi (like p) (S.drop nx)+1):=by unfold Hid;rw[au,HX.out]
   have aO:Hid (∀O,Below w.heap.size w (wr.alloc O)):=λO=>ξ9 HT.out.below O;have aC:Hid (A17 (wr.alloc (.cells #[.int .i64 p.s,.int .i64 p.t,.int .i64 p.l,.int .i64 p.q,.bool p.st,.slice p.a p.m p.c] 38)) wr.heap.size p):=⟨Box.new wr _ _ _ _ _ _,aq.below ((Ξp _ _).alloc (Ξo _) _)⟩;have HC:=ξ0 (ξbC a' (n-nx) aw (S.drop nx) wr.heap.size p (wr.alloc (.cells #[.int .i64 p.s,.int .i64 p.t,.int .i64 p.l,.int .i64 p.q,.bool p.st,.slice p.a p.m p.c] 38)) (az.below (aO.out _)) aC.out);obtain⟨q,hq⟩:=nm (fi (like p) (S.drop nx));have HQ:Hid (pl S G i=nx+q):=by unfold Hid;rw[ξgo,HX.out,HP.out,hq]
   rw[hq]at HC aA HSt;clear hq au aq az aC;obtain⟨s,t,l,qq,st,aa,mm,cc,LL⟩:=p;simp only at c0 c1 c2 c3 c4 c5 HC;by_cases hF:q<n-nx
   ·rw[if_pos hF]at HC;have aV:i<K:=by
     rcases Nat.lt_or_ge i K with h|h
     ·exact h
     ·have e:K=i:=by omega
      have:=HK.out.he (by omega);rw[e,HSt.out]at this;omega
    have ax:=ξ8s S G i;go_wp2_with fail
    refine HC.out.mono ?_;rintro r w1 ⟨rfl,ai⟩;have ae:Hid (TSt w w1 (pls S G i) v):=(HT.out.go ((Ξp _ _).alloc (Ξo _) _)).go ai;clear ai HT HC;go_wp2_with (at_builtin;refine wpList_append_own _ rfl _ _ 35 rfl w.heap.size 3 i0 _ 1 8 underlying35 aF aG aH aI rfl (by decide) _ (pls S G i).length (ic (pls S G i)) rfl (ae.out.own.alloc _) ⟨w1.heap.size,0,none⟩ 1 1 [.int .i64 ((nx:Int)+(q:Int))] rfl rfl ?cc ?one ?b1 ?b2 ?b3 ?next)
    case cc=>exact A50 _
    case one=>simp[Value.oneCell']
    case b1=>unfold maxLen;omega
    case b2=>omega
    case b3=>have:=ae.out.below.size;simp;omega
    case next=>
    intro v3 w' aj ah _;have aP:Hid (TSt w w' (pls S G (i+1)) v3):=by
     have hs:=ae.out.below.size;refine⟨(ae.out.below.alloc hs _).grown ah (by simp;omega) (λj hj=>(ae.out.own.lt j hj).1),?_⟩;rw[ξcT,Ξh,HQ.out];have e:ic (pls S G i++[((nx+q:Nat):Int)])=ic (pls S G i)++[.int .i64 ((nx:Int)+(q:Int))]:=by simp[ic]
     rw[e,List.length_singleton,ax];exact aj
    clear aj ah;go_wp2_with fail;go_roundg (m-(i+1))
    case measure=>omega
    case rel=>exact⟨i+1,nx+q+1,v3,by omega,by omega,rfl,by omega,by go_num,by go_num,HSt,aP⟩
   ·rw[if_neg hF]at HC;have am:Hid (K=i):=by
     unfold Hid;rcases Nat.lt_or_ge i K with h|h
     ·have:=HK.out.lt h;rw[HSt.out]at this;omega
     ·omega
    have HF:Hid (f=5):=aD.out (by have:=am.out;omega);go_wp2_with fail
    refine HC.out.mono ?_;rintro r w1 ⟨rfl,ai⟩;have ae:Hid (TSt w w1 (pls S G i) v):=(HT.out.go ((Ξp _ _).alloc (Ξo _) _)).go ai;clear ai HT HC;go_wp2_with fail;go_ret2;exact⟨v,by rw[HF.out,ξb (by omega)];rfl,by rw[am.out];exact ae.out.own,ae.out.below⟩
  ·have aM:¬(i:Int)<(m:Int):=by omega
   have am:Hid (K=i):=by unfold Hid;have:=HK.out.hk;omega
   have HF:Hid (f=0):=aE.out (by have:=am.out;omega);go_wp2_with fail
   go_ret2;exact⟨v,by rw[HF.out,ξ4];rfl,by rw[am.out];exact HT.out.own,HT.out.below⟩
theorem ξa(a:Option Addr)(n cap:Nat)(S:List Pk)(a2:Option Addr)(m cap2:Nat)(G:List Pk)(K:Nat)(w:World)(hS:A04 w a n S)(hc:n<=cap)(hN:a=none->cap=0)(hG:A04 w a2 m G)(hK:Stop S G K) :
 Calls prog 17 #[.slice a n cap,.slice a2 m cap2] w λe w'=>e=.returned (.tuple #[.int .i64 (cat S G K:Int),A0a (A0s S G K)])/\Below w.heap.size w w':=by
 have HC:=ξ0 (ξR a n cap S a2 m cap2 G K w hS hc hN hG hK);have aj:A0s S G K≠0->kk S G K=cat S G K:=by
  intro h;unfold kk cat;unfold A0s at h ⊢;split
  ·simp
  ·rename_i h1;rw[if_neg h1]at h;split
   ·simp
   ·rename_i h2;rw[if_neg h2]at h;omega
 have am:A0s S G K=0->cat S G K=0:=by intro h;unfold cat;rw[if_neg (by omega)]
 have ax:kk S G K<=9223372036854775807:=by have:=hK.hk;have:=hG.1;have:=hG.2.1;unfold kk;split<;>omega
 have ai:=ξ8s S G (kk S G K);generalize hL:pls S G (kk S G K)=L at *;generalize cat S G K=ct at *;generalize kk S G K=k at *;have aq:=ξ0 am;have au:=ξ0 aj;clear hS hN hG hK hc am aj hL;obtain⟨f,hf⟩:=nm (A0s S G K);rw[hf]at HC aq au ⊢;clear hf;have ah:=ξq f;have aw:=ξp f;go_enter func17,ntmps17;go_wp2_with fail
 refine HC.out.mono ?_;rintro e w1 ⟨v,rfl,ae,hb⟩;obtain⟨av,cv,rfl,_,_,_,_⟩:=ξl ae (by omega);have HB:=ξ0 hb;rw[ai]at ae ⊢;clear ae hb HC;by_cases h0:f=0
 ·rw[decide_eq_true h0]at ah;have HZ:=ξ0 (aq.out h0);have H0:=ξ0 h0;clear h0;go_wp2_with fail;go_ret2;exact⟨by rw[HZ.out,H0.out];rfl,HB.out⟩
 ·rw[decide_eq_false h0]at ah;have HZ:=ξ0 (au.out h0);clear h0;go_wp2_with fail;go_ret2;exact⟨by rw[<-HZ.out];rfl,HB.out⟩
theorem ξ90(n:Int):bits .and .i64 n 65535=n%65536:=by
 have h:(BitVec.ofInt 64 65535).toNat=2^16-1:=by decide
 have key:(BitVec.ofInt 64 n&&&BitVec.ofInt 64 65535).toNat=(n%((2^64:Nat):Int)).toNat%2^16:=by
  rw[BitVec.toNat_and,BitVec.toNat_ofInt,h,Nat.and_two_pow_sub_one_eq_mod]
 show IntKind.i64.wrap ((BitVec.ofInt 64 n&&&BitVec.ofInt 64 65535).toNat:Nat)=n%65536;rw[key,IntKind.wrap_i64];omega
theorem ξgp(h:pf p=0):0<=p.s/\p.s<=65535:=by
 obtain⟨s,_,_,_,hs,_,_,_,h1,_⟩:=ξs h;omega
theorem ξaR(a:Option Addr)(n cap:Nat)(X:List Pk)(K:Nat)(w:World)(hX:A04 w a n X)(hK:A8z X K) :
 Calls prog 18 #[.slice a n cap] w λe w'=>e=.returned (.tuple #[.int .i64 (rat X K:Int),A0a (A5z X K)])/\Below w.heap.size w w':=by
 have hl:=hX.1;have aL:=hX.2.1;have HX:=ξ0 hX;by_cases h1:1000<n
 ·have e1:A5z X K=4:=by unfold A5z;rw[if_pos (by omega)]
  have e2:rat X K=0:=by unfold rat;rw[if_pos (by omega)]
  rw[e1,e2,ξb (by omega)];have d1:decide (1000<(n:Int))=true:=by simp;omega
  clear hX hK e1 e2;go_enter func18,ntmps18;go_wp2_with fail
  go_ret2;exact⟨rfl,Ξp _ _⟩
 have d1:decide (1000<(n:Int))=false:=by simp;omega
 have HF:Hid (K<n->A5z X K=rfa X K/\rat X K=K):=λh=>by unfold A5z rat;rw[if_neg (by omega),if_pos (by omega),if_neg (by omega),if_pos (by omega)];exact⟨rfl,rfl⟩
 have aA:Hid (¬K<n->A5z X K=0/\rat X K=0):=λh=>by unfold A5z rat;rw[if_neg (by omega),if_neg (by omega),if_neg (by omega),if_neg (by omega)];exact⟨rfl,rfl⟩
 generalize A5z X K=f at *;generalize rat X K=pa at *;have HK:=ξ0 hK;clear hX hK;go_enter func18,ntmps18;go_wp2_with fail
 go_loopg [13] n (λg x wr=>∃i:Nat,i+g=n/\i<=K/\x=.int .i64 (i:Int)/\Hid (Below w.heap.size w wr))
 case atStart=>exact⟨0,by omega,by omega,rfl,Ξp _ _⟩
 case round=>
  obtain⟨i,aM,aO,rfl,HW⟩:=hrel;by_cases hi:i<n
  ·have aC:(i:Int)<(n:Int):=by omega
   obtain⟨b,o,rfl,am⟩:=(HX.out.below HW.out).at (by omega);obtain⟨⟨c0,c1,c2,c3,c4,c5⟩,az⟩:=am i hi;have hr:rfa X i=if pf (X.getD i A0l)≠0 then pf (X.getD i A0l)else if 0<i/\(X.getD i A0l).s≠((X.getD (i-1) A0l).s+1)%65536 then 3 else 0:=rfl
   have aD:Hid (0<i->0<=(X.getD (i-1) A0l).s/\(X.getD (i-1) A0l).s<=65535):=λh=>ξgp (ξfX (HK.out.hn (i-1) (by omega)));have aE:=ξ0 am;obtain⟨p,hp⟩:=nm (X.getD i A0l);rw[hp]at c0 c1 c2 c3 c4 c5 az hr;clear hp am az;have HC:=ξ0 (λW=>Pack.ξa p.s p.t p.l p.q p.st p.a p.m p.c W);have ah:Hid (∀O,Below w.heap.size w (wr.alloc O)):=λO=>ξ9 HW.out O;have ai:Hid (Box (wr.alloc (.cells #[.int .i64 p.s,.int .i64 p.t,.int .i64 p.l,.int .i64 p.q,.bool p.st,.slice p.a p.m p.c] 38)) wr.heap.size p.s p.t p.l p.q p.st (.slice p.a p.m p.c)):=Box.new wr _ _ _ _ _ _;have aq:Hid (∀O j,j<n->A6j (wr.alloc O) b (o+j*6) (X.getD j A0l)):=λO j hj=>(aE.out j hj).1.below ((Ξp _ _).alloc (Ξo _) _);have au:fault p.s p.t p.l p.q p.m=pf p:=rfl;rw[au]at HC;obtain⟨s,t,l,q,st,aa,mm,cc,LL⟩:=p;simp only at c0 c1 c2 c3 c4 c5 HC ai hr;by_cases h0:pf ⟨s,t,l,q,st,aa,mm,cc,LL⟩=0
   ·rw[h0,ξ4]at HC;rw[h0,if_neg (by simp)]at hr;clear au h0;go_wp2_with fail;refine(HC.out _).mono ?_;rintro e w1 ⟨rfl,hb⟩;have aj:Hid (Below w.heap.size w w1):=(ah.out _).trans (hb.mono (ah.out (.cells #[.int .i64 s,.int .i64 t,.int .i64 l,.int .i64 q,.bool st,.slice aa mm cc] 38)).size);obtain⟨x0,x1,x2,x3,x4,x5⟩:=(ai.out.below hb ai.out.lt).cells;have aF:Hid (∀j,j<n->A6j w1 b (o+j*6) (X.getD j A0l)):=λj hj=>(aq.out _ j hj).below hb;clear hb HC ah ai aq x1 x2 x3 x4 x5;by_cases hi0:0<i
    ·have dz:decide ((0:Int)<(i:Int))=true:=by simp;omega
     have dn:decide (0<i)=true:=by simp;omega
     obtain⟨y0,_,_,_,_,_⟩:=aF.out (i-1) (by omega);obtain⟨sp,aw⟩:=nm ((X.getD (i-1) A0l).s);have aG:=aD.out hi0;rw[aw]at y0 hr aG;have aH:(i:Int)-1=((i-1:Nat):Int):=by omega
     obtain⟨k,hk⟩:=nm (i-1);rw[hk]at y0 aH;have aP:k<n:=by omega
     have aQ:IntKind.i64.wrap ((i:Int)-1)=(k:Int):=by rw[IntKind.wrap_i64];omega
     by_cases hs:s=(sp+1)%65536
     ·have HR:Hid (rfa X i=0):=by rw[hr,if_neg (by omega)];rfl
      have ds:(s != bits .and .i64 (sp+1) 65535)=false:=by rw[ξ90];simpa using hs
      have ax:i<K:=by
       rcases Nat.lt_or_ge i K with h|h
       ·exact h
       ·have e:K=i:=by omega
        have:=HK.out.he (by omega);rw[e]at this;exact absurd HR.out this
      clear hs hr aw hk;go_wp2_with fail;go_quiet (fail)
      go_wp2_with fail
      go_roundg (n-(i+1))
      case measure=>omega
      case rel=>exact⟨i+1,by omega,by omega,by go_num,below_drewN' aj.out _⟩
     ·have HR:Hid (rfa X i=3):=by rw[hr,if_pos ⟨hi0,hs⟩];rfl
      have ds:(s != bits .and .i64 (sp+1) 65535)=true:=by rw[ξ90];simpa using hs
      have ae:Hid (K=i):=by
       unfold Hid;rcases Nat.lt_or_ge i K with h|h
       ·have:=HK.out.hn i h;rw[HR.out]at this;omega
       ·omega
      have HE:Hid (f=3/\pa=i):=by
       have h1:=HF.out (by have:=ae.out;omega);rw[ae.out,HR.out]at h1;exact h1
      clear hs hr aw hk;go_wp2_with fail;go_quiet (fail)
      go_wp2_with fail
      go_ret2;exact⟨by rw[HE.out.1,HE.out.2,ξb (by omega)];rfl,below_drewN' aj.out _⟩
    ·have dz:decide ((0:Int)<(i:Int))=false:=by simp;omega
     have dn:decide (0<i)=false:=by simp;omega
     have HR:Hid (rfa X i=0):=by rw[hr,if_neg (by omega)];rfl
     have ax:i<K:=by
      rcases Nat.lt_or_ge i K with h|h
      ·exact h
      ·have e:K=i:=by omega
       have:=HK.out.he (by omega);rw[e]at this;exact absurd HR.out this
     have aI:i=0:=by omega
     clear hr;go_wp2_with fail;go_quiet (fail)
     go_wp2_with fail
     go_roundg (n-(i+1))
     case measure=>omega
     case rel=>exact⟨i+1,by omega,by omega,by go_num,below_drewN' aj.out _⟩
   ·have HR:Hid (rfa X i=pf ⟨s,t,l,q,st,aa,mm,cc,LL⟩):=by rw[hr,if_pos h0];rfl
    have ae:Hid (K=i):=by
     unfold Hid;rcases Nat.lt_or_ge i K with h|h
     ·have:=HK.out.hn i h;rw[HR.out]at this;exact absurd this h0
     ·omega
    have HE:Hid (f=pf ⟨s,t,l,q,st,aa,mm,cc,LL⟩/\pa=i):=by
     have h1:=HF.out (by have:=ae.out;omega);rw[ae.out,HR.out]at h1;exact h1
    generalize pf ⟨s,t,l,q,st,aa,mm,cc,LL⟩=fp at *;have ay:=ξq fp;have aJ:=ξp fp;rw[decide_eq_false h0]at ay;clear hr au h0;go_wp2_with fail;refine(HC.out _).mono ?_;rintro e w1 ⟨rfl,hb⟩;have aj:Hid (Below w.heap.size w w1):=(ah.out _).trans (hb.mono (ah.out (.cells #[.int .i64 s,.int .i64 t,.int .i64 l,.int .i64 q,.bool st,.slice aa mm cc] 38)).size);clear hb HC ah ai aq;go_wp2_with fail;go_ret2;exact⟨by rw[HE.out.1,HE.out.2];rfl,aj.out⟩
  ·have aC:¬(i:Int)<(n:Int):=by omega
   have ae:Hid (K=i):=by unfold Hid;have:=HK.out.hk;omega
   have HE:=ξ0 (aA.out (by have:=ae.out;omega));go_wp2_with fail
   go_ret2;exact⟨by rw[HE.out.1,HE.out.2];rfl,HW.out⟩
def hk(S G:List Pk)(K:Nat):List Int:=if A0s S G K=0 then hls S G (K-1)else[]
def pc(p:Pk):List Value:=[.int .i64 p.s,.int .i64 p.t,.int .i64 p.l,.int .i64 p.q,.bool p.st,.slice p.a p.m p.c]
def flat(X:List Pk):List Value:=X.flatMap pc
theorem ξ1e(p:Pk):(pc p).length=6:=rfl
theorem ξ4i(X Y:List Pk):flat (X++Y)=flat X++flat Y:=by simp[flat]
theorem ξ4h(p:Pk):flat [p]=pc p:=by simp[flat]
theorem flat_get(X:List Pk)(j k:Nat)(hj:j<X.length)(hk:k<6):(flat X)[j*6+k]?=(pc (X.getD j A0l))[k]?:=by
 induction X generalizing j with
 | nil=>simp at hj
 | cons x r ih=>
   have e:flat (x::r)=pc x++flat r:=by simp[flat]
   rw[e];cases j with
   | zero=>rw[Ξt (by rw[ξ1e];omega)];simp
   | succ j=>
     rw[List.getElem?_append_right (by rw[ξ1e];omega),ξ1e,show(j+1)*6+k-6=j*6+k by omega,ih j (by simpa using hj)];simp
theorem ξ4C(p:Pk):∀u∈pc p,u.oneCell'=true:=by simp[pc,Value.oneCell']
def Came(W:World)(a:Option Addr)(n cap:Nat)(X:List Pk):Prop:=A04 W a n X/\n<=cap/\(a=none->cap=0)/\∀p∈X,p.a=none->p.m=0/\p.c=0
theorem ξ8u{W:World}(h:W.ownsRow base 38 6 v n (flat X))(hX:X.length=n)(hn:n<=9223372036854775807)(hb:∀p∈X,A4i W p) :
 ∃a cap,v=.slice a n cap/\A04 W a n X/\n<=cap/\(a=none->cap=0):=by
 rcases h.2 with⟨rfl,rfl⟩|⟨g,cap,cur,rfl,hg,hbl,hc,hm,hs,ht⟩
 ·have:X=[]:=Ξk hX;subst this;exact⟨none,0,rfl,A04.empty _ _,Ξo _,λ_=>rfl⟩
 ·refine⟨_,cap,rfl,⟨hX,hn,λj hj=>⟨g,0,rfl,?_,?_⟩⟩,hc,λe=>by simp at e⟩
  ·have k:∀i,i<6->W.cell? ⟨g,0+j*6+i,none⟩=(pc (X.getD j A0l))[i]?:=by
    intro i hi;rw[Nat.zero_add,h.cellAt (j*6+i) (by omega),flat_get X j i (by omega) hi]
   have k0:=k 0 (by omega);have k1:=k 1 (by omega);have k2:=k 2 (by omega);have k3:=k 3 (by omega);have k4:=k 4 (by omega);have k5:=k 5 (by omega);exact⟨k0,k1,k2,k3,k4,k5⟩
  ·refine hb _ ?_;rw[Ξa,Ξd (by omega)];exact List.getElem_mem _
def fp(b:Nat)(gv sv:Value):List Nat:=b::(gv.ownBlock.toList++sv.ownBlock.toList)
theorem lit6(p:Pk):∀j u,(pc p)[j]?=some u->(w.alloc (.cells #[.int .i64 p.s,.int .i64 p.t,.int .i64 p.l,.int .i64 p.q,.bool p.st,.slice p.a p.m p.c] 38)).cell? ((⟨w.heap.size,0,none⟩:Addr).add j)=some u:=by
 intro j u hu;rw[Addr.add_lit,World.cell?_alloc_mark,Nat.zero_add,<-hu];exact List.getElem?_toArray
end Go.Proofs.YtpiamlgmadnepaaGreat.Audit
