/-
 What the proof needs.
-/
import Derived.Test.YtpiamlgmadnepaaGreatNodeMP
open Go.Proofs.Tryz
set_option linter.unusedVariables false
set_option maxHeartbeats 4000000
set_option maxRecDepth 100000
namespace Go.Proofs.YtpiamlgmadnepaaGreat.ND
open ChangeShapes WideShapes ChangeAt RowKit Maps Mem NO
variable {n k i b:Nat}{w w':World}{id y x:Int}{v:Value}{o o':Nat->Tg}{X:List Int}{g:Int->Nat}{a:Option Addr}{P:NP}{N:Nd}{cs:Array Value}{Q:TP}{t:Tr}
theorem ξ4:A0a 0=.nilIface:=rfl
theorem ξb{e:Nat}(h:e≠0):A0a e=.iface 101 (.int .i64 (e:Int)):=by simp[A0a,h]
theorem ξq(f:Nat)(w:World):(binOp .neq 25 (A0a f) .nilIface).run prog w=.ok (.bool (!decide (f=0))) w:=by
 by_cases p:f=0
 ·rw[p,ξ4];simp[go_sem]
 ·rw[ξb p];simp[go_sem,p]
theorem cmp_eq(f:Nat)(w:World):(binOp .eql 25 (A0a f) .nilIface).run prog w=.ok (.bool (decide (f=0))) w:=by
 by_cases p:f=0
 ·rw[p,ξ4];simp[go_sem]
 ·rw[ξb p];simp[go_sem,p]
theorem ξp(f:Nat)(o1:Operand)(w:World):(eqGuard .neq 25 o1 (.const .nilIface) (A0a f) .nilIface).run prog w=.ok () w:=by
 by_cases p:f=0
 ·rw[p,ξ4];unfold eqGuard;simp
 ·rw[ξb p];simp[go_sem]
theorem ξ3z(f:Nat)(o1:Operand)(w:World):(eqGuard .eql 25 o1 (.const .nilIface) (A0a f) .nilIface).run prog w=.ok () w:=by
 by_cases p:f=0
 ·rw[p,ξ4];unfold eqGuard;simp
 ·rw[ξb p];simp[go_sem]
def okN(x:Int):Bool:=decide (0<=x/\x<=15)
def okT(x:Int):Bool:=decide (1<=x/\x<=8)
def oth(id x:Int):Bool:=okN x&&decide (x≠id)
def A3z(id pa k:Int):Bool:=!oth id k||decide (k=pa)
def twc(K:List Int):Bool:=!decide K.Nodup
def Nd.at(N:Nd)(tk:Int):Option Tr:=N.tr (tk-1).toNat
def old(t:Option Tr)(ep:Int):Bool:=match t with
 | some t=>decide (ep<t.ep)
 | none=>false
def pF(N:Nd)(tk pa:Int)(K:List Int)(ep:Int):Nat:=
 if okT tk=false then 1 else if pa≠-1/\oth N.id pa=false then 1 else if ep<0∨65535<ep then 1 else if K.any (A3z N.id pa)then 1 else if twc K then 7 else if old (N.at tk) ep then 6 else 0
theorem ξm(x:Int)(w:World):Calls prog 82 #[.int .i64 x] w λe w'=>e=.returned (.bool (okN x))/\w'=w:=by
 by_cases c:0<=x
 ·by_cases d:x<16
  ·have e:okN x=true:=by unfold okN;simp;omega
   rw[e];clear e;have d0:decide (0<=x)=true:=by simpa using c
   have d1:decide (x<16)=true:=by simpa using d
   go_enter func82,ntmps82;go_wp2_with fail
   go_ret;exact⟨rfl,rfl⟩
  ·have e:okN x=false:=by unfold okN;simp;omega
   rw[e];clear e;have d0:decide (0<=x)=true:=by simpa using c
   have d1:decide (x<16)=false:=by simpa using d
   go_enter func82,ntmps82;go_wp2_with fail
   go_ret;exact⟨rfl,rfl⟩
 ·have e:okN x=false:=by unfold okN;simp;omega
  rw[e];clear e;have d0:decide (0<=x)=false:=by simpa using c
  go_enter func82,ntmps82;go_wp2_with fail
  go_ret;exact⟨rfl,rfl⟩
theorem ξk(x:Int)(w:World):Calls prog 86 #[.int .i64 x] w λe w'=>e=.returned (.bool (okT x))/\w'=w:=by
 by_cases c:1<=x
 ·by_cases d:x<=8
  ·have e:okT x=true:=by unfold okT;simp;omega
   rw[e];clear e;have d0:decide (1<=x)=true:=by simpa using c
   have d1:decide (x<=8)=true:=by simpa using d
   go_enter func86,ntmps86;go_wp2_with fail
   go_ret;exact⟨rfl,rfl⟩
  ·have e:okT x=false:=by unfold okT;simp;omega
   rw[e];clear e;have d0:decide (1<=x)=true:=by simpa using c
   have d1:decide (x<=8)=false:=by simpa using d
   go_enter func86,ntmps86;go_wp2_with fail
   go_ret;exact⟨rfl,rfl⟩
 ·have e:okT x=false:=by unfold okT;simp;omega
  rw[e];clear e;have d0:decide (1<=x)=false:=by simpa using c
  go_enter func86,ntmps86;go_wp2_with fail
  go_ret;exact⟨rfl,rfl⟩
theorem ξ3h(b:Nat)(id x:Int)(w:World)(h:w.cell? ⟨b,1,none⟩=some (.int .i64 id)):Calls prog 143 #[.pointer (some ⟨b,0,none⟩),.int .i64 x] w λe w'=>e=.returned (.bool (oth id x))/\w'=w:=by
 have C:=ξ0 (ξm x);cases hx:okN x with
 | false=>
   rw[show oth id x=false from by unfold oth;rw[hx];rfl];rw[hx]at C;clear hx;go_enter func143,ntmps143;go_wp2_with fail
   refine(C.out _).mono ?_;rintro e w1 ⟨rfl,rfl⟩;go_wp2_with fail;go_ret;exact⟨rfl,rfl⟩
 | true=>
   rw[show oth id x=decide (x≠id)from by unfold oth;rw[hx];rfl];rw[hx]at C;clear hx;obtain⟨q,hq⟩:=nm (decide (x≠id));have ae:(x != id)=q:=by rw[<-hq];by_cases e:x=id<;>simp[e]
   rw[hq];clear hq;go_enter func143,ntmps143;go_wp2_with fail
   refine(C.out _).mono ?_;rintro e w1 ⟨rfl,rfl⟩;go_wp2_with fail;go_ret;exact⟨rfl,rfl⟩
def Found(n:Nat)(p:Nat->Bool)(I:Nat->World->Prop)(i:Int)(w:World):Prop:=
 (∃j,j<n/\i=(j:Int)/\p j=true/\(∀k,k<j->p k=false)/\I (j+1) w)∨(i=-1/\(∀k,k<n->p k=false)/\I n w)
theorem ξ9S(b1 b2:Nat)(a:Option Addr)(n cap:Nat)(L:List Int)(I:Nat->World->Prop)(p:Nat->Bool)(w:World)(hl:L.length=n)(hn:n<=9223372036854775807)(hI:∀j W,I j W->Gaps.A0b W a n L)(h0:I 0 w)
 (hs:∀j W,j<n->I j W->Calls prog 145 #[.int .i64 (L.getD j 0),.pointer (some ⟨b1,0,none⟩),.pointer (some ⟨b2,0,none⟩)] W λe W'=>e=.returned (.bool (p j))/\I (j+1) W') :
 Calls prog 178 #[.slice a n cap,.func (.func 145) #[] #[.pointer (some ⟨b1,0,none⟩),.pointer (some ⟨b2,0,none⟩)]] w λe w'=>∃i:Int,e=.returned (.int .i64 i)/\Found n p I i w':=by
 have HI:=ξ0 hI;have H0:=ξ0 h0;have HS:=ξ0 hs;clear hI h0 hs;go_enter func178,ntmps178;go_wp2_with fail
 go_loopg [8] n (λg x wr=>∃j:Nat,j+g=n/\x=.int .i64 (j:Int)/\Hid (∀k,k<j->p k=false)/\Hid (I j wr))
 case atStart=>exact⟨0,by omega,rfl,ξ0 (λk hk=>absurd hk (by omega)),H0⟩
 case round=>
  obtain⟨j,am,rfl,HK,HJ⟩:=hrel;by_cases hj:j<n
  ·have aj:(j:Int)<(n:Int):=by omega
   obtain⟨b,o,rfl,ae⟩:=(HI.out j _ HJ.out).at (by omega);have c0:=ae j hj;have C:=ξ0 (HS.out j _ hj HJ.out);obtain⟨m,hm⟩:=nm (L.getD j 0);rw[hm]at c0 C;clear ae hm;go_wp2_with fail;refine C.out.mono ?_;rintro r w1 ⟨rfl,ah⟩;have ai:=ξ0 ah;clear ah;cases ht:p j with
   | true=>
     have HT:=ξ0 ht;clear ht;go_wp2_with fail;go_ret;exact⟨_,rfl,.inl ⟨j,hj,rfl,HT.out,HK.out,ai.out⟩⟩
   | false=>
     have HT:=ξ0 ht;clear ht;go_wp2_with fail;go_roundg (n-(j+1))
     case measure=>omega
     case rel=>
      refine⟨j+1,by omega,by go_num,ξ0 (λk hk=>?_),ai⟩;rcases Nat.lt_or_ge k j with h|h
      ·exact HK.out k h
      ·obtain rfl:k=j:=by omega
       exact HT.out
  ·have aj:¬(j:Int)<(n:Int):=by omega
   obtain rfl:n=j:=by omega
   go_wp2_with fail
   go_ret;exact⟨_,rfl,.inr ⟨rfl,HK.out,HJ.out⟩⟩
theorem ξ9R(b1:Nat)(a:Option Addr)(n cap:Nat)(L:List Int)(I:Nat->World->Prop)(p:Nat->Bool)(w:World)(hl:L.length=n)(hn:n<=9223372036854775807)(hI:∀j W,I j W->Gaps.A0b W a n L)(h0:I 0 w)
 (hs:∀j W,j<n->I j W->Calls prog 179 #[.int .i64 (L.getD j 0),.pointer (some ⟨b1,0,none⟩)] W λe W'=>e=.returned (.bool (p j))/\I (j+1) W') :
 Calls prog 178 #[.slice a n cap,.func (.func 179) #[] #[.pointer (some ⟨b1,0,none⟩)]] w λe w'=>∃i:Int,e=.returned (.int .i64 i)/\Found n p I i w':=by
 have HI:=ξ0 hI;have H0:=ξ0 h0;have HS:=ξ0 hs;clear hI h0 hs;go_enter func178,ntmps178;go_wp2_with fail
 go_loopg [8] n (λg x wr=>∃j:Nat,j+g=n/\x=.int .i64 (j:Int)/\Hid (∀k,k<j->p k=false)/\Hid (I j wr))
 case atStart=>exact⟨0,by omega,rfl,ξ0 (λk hk=>absurd hk (by omega)),H0⟩
 case round=>
  obtain⟨j,am,rfl,HK,HJ⟩:=hrel;by_cases hj:j<n
  ·have aj:(j:Int)<(n:Int):=by omega
   obtain⟨b,o,rfl,ae⟩:=(HI.out j _ HJ.out).at (by omega);have c0:=ae j hj;have C:=ξ0 (HS.out j _ hj HJ.out);obtain⟨m,hm⟩:=nm (L.getD j 0);rw[hm]at c0 C;clear ae hm;go_wp2_with fail;refine C.out.mono ?_;rintro r w1 ⟨rfl,ah⟩;have ai:=ξ0 ah;clear ah;cases ht:p j with
   | true=>
     have HT:=ξ0 ht;clear ht;go_wp2_with fail;go_ret;exact⟨_,rfl,.inl ⟨j,hj,rfl,HT.out,HK.out,ai.out⟩⟩
   | false=>
     have HT:=ξ0 ht;clear ht;go_wp2_with fail;go_roundg (n-(j+1))
     case measure=>omega
     case rel=>
      refine⟨j+1,by omega,by go_num,ξ0 (λk hk=>?_),ai⟩;rcases Nat.lt_or_ge k j with h|h
      ·exact HK.out k h
      ·obtain rfl:k=j:=by omega
       exact HT.out
  ·have aj:¬(j:Int)<(n:Int):=by omega
   obtain rfl:n=j:=by omega
   go_wp2_with fail
   go_ret;exact⟨_,rfl,.inr ⟨rfl,HK.out,HJ.out⟩⟩
theorem ξc4(m id pa:Int)(b b1 b2:Nat)(w:World)(h1:w.cell? ⟨b1,0,none⟩=some (.pointer (some ⟨b,0,none⟩)))(h2:w.cell? ⟨b2,0,none⟩=some (.int .i64 pa))(h:w.cell? ⟨b,1,none⟩=some (.int .i64 id)) :
 Calls prog 145 #[.int .i64 m,.pointer (some ⟨b1,0,none⟩),.pointer (some ⟨b2,0,none⟩)] w λe w'=>e=.returned (.bool (A3z id pa m))/\w'=w:=by
 have C:=ξ0 (ξ3h b id m w h);cases hx:oth id m with
 | false=>
   rw[show A3z id pa m=true from by unfold A3z;rw[hx];rfl];rw[hx]at C;clear hx;go_enter func145,ntmps145;go_wp2_with fail
   refine C.out.mono ?_;rintro e w1 ⟨rfl,rfl⟩;go_wp2_with fail;go_ret;exact⟨rfl,rfl⟩
 | true=>
   rw[show A3z id pa m=decide (m=pa)from by unfold A3z;rw[hx];rfl];rw[hx]at C;clear hx;obtain⟨q,hq⟩:=nm (decide (m=pa));have ae:(m==pa)=q:=by rw[<-hq];by_cases e:m=pa<;>simp[e]
   rw[hq];clear hq;go_enter func145,ntmps145;go_wp2_with fail
   refine C.out.mono ?_;rintro e w1 ⟨rfl,rfl⟩;go_wp2_with fail;go_ret;exact⟨rfl,rfl⟩
theorem ξ5T{p:Nat->Bool}{I:Nat->World->Prop}{i:Int}(h:Found n p I i w):decide (0<=i)=(List.range n).any p:=by
 rcases h with⟨j,hj,rfl,hp,_,_⟩|⟨rfl,hp,_⟩
 ·have:(List.range n).any p=true:=List.any_eq_true.2 ⟨j,by simpa using hj,hp⟩;rw[this];simp
 ·have:(List.range n).any p=false:=by
   rw[List.any_eq_false];intro k hk;simp only[List.mem_range]at hk;simp[hp k hk]
  rw[this];rfl
theorem ξe5(L:List Int)(f:Int->Bool):(List.range L.length).any (λj=>f (L.getD j 0))=L.any f:=by
 rw[Bool.eq_iff_iff,List.any_eq_true,List.any_eq_true];constructor
 ·rintro⟨j,hj,hf⟩;simp only[List.mem_range]at hj;refine⟨L.getD j 0,?_,hf⟩;rw[Ξa,Ξd hj];exact List.getElem_mem hj
 ·rintro⟨x,hx,hf⟩;obtain⟨j,hj,rfl⟩:=List.getElem_of_mem hx;refine⟨j,by simpa using hj,?_⟩;rw[Ξa,Ξd hj];exact hf
theorem ξcg(L:List Int):(List.range L.length).any (λj=>decide (L.getD j 0∈L.take j))=twc L:=by
 rw[Bool.eq_iff_iff,List.any_eq_true];unfold twc;simp only[Bool.not_eq_true',decide_eq_false_iff_not,List.mem_range,decide_eq_true_eq];constructor
 ·rintro⟨j,hj,hm⟩ hn;rw[Ξa,Ξd hj,Option.getD_some]at hm;obtain⟨k,hk,e⟩:=List.getElem_of_mem hm;rw[List.getElem_take]at e;simp only[List.length_take]at hk;rw[Ξs,List.pairwise_iff_getElem]at hn;exact hn k j (by omega) hj (by omega) e
 ·intro hn;rw[Ξs,List.pairwise_iff_getElem]at hn;simp only[Classical.not_forall]at hn;obtain⟨i,j,hi,hj,ae,e⟩:=hn;refine⟨j,hj,?_⟩;rw[Ξa,Ξd hj,Option.getD_some];have e':L[i]=L[j]:=by simpa using e
  rw[<-e',<-List.getElem_take (i:=i) (j:=j) (h:=by simp;omega)];exact List.getElem_mem _
def sn(X:List Int):Array Value:=((List.range 16).map λ(k:Nat)=>Value.bool (decide ((k:Int)∈X))).toArray
theorem ξfV:sn []=#[.bool false,.bool false,.bool false,.bool false,.bool false,.bool false,.bool false,.bool false,.bool false,.bool false,.bool false,.bool false,.bool false,.bool false,.bool false,.bool false]:=by
 simp[sn,List.range,List.range.loop]
theorem ξ4t(X:List Int)(hk:k<16):(sn X)[k]?=some (.bool (decide ((k:Int)∈X))):=by
 unfold sn;rw[List.getElem?_toArray,List.getElem?_map,List.getElem?_range hk];rfl
theorem ξfU(X:List Int)(hk:k<16):(sn X).setIfInBounds k (.bool true)=sn (X++[(k:Int)]):=by
 apply Array.ext_getElem?;intro i;rw[Ξb];by_cases e:k=i
 ·subst e;rw[if_pos rfl,if_pos (by simp[sn];omega),ξ4t _ hk];simp
 ·rw[if_neg e];by_cases hi:i<16
  ·rw[ξ4t _ hi,ξ4t _ hi];have:¬(i:Int)=(k:Int):=by omega
   simp[this]
  ·rw[Array.getElem?_eq_none (by simp[sn];omega),Array.getElem?_eq_none (by simp[sn];omega)]
theorem ξ3F(X:List Int)(g k:Nat)(hk:k<16)(w:World)(h:w.heap[g]?=some (.cells (sn X) 183 (0,0))) :
 Calls prog 179 #[.int .i64 (k:Int),.pointer (some ⟨g,0,none⟩)] w λe w'=>e=.returned (.bool (decide ((k:Int)∈X)))/\w'.heap[g]?=some (.cells (sn (X++[(k:Int)])) 183 (0,0))/\Only [g] w w':=by
 have c0:w.cell? ⟨g,k,none⟩=some (.bool (decide ((k:Int)∈X))):=by simp[World.cell?,h,ξ4t X hk]
 have f0:w.frozen? ⟨g,k,none⟩=false:=by simp[World.frozen?,h]
 have HH:=ξ0 (heap_setCell_same w g k _ _ (.bool true) h);obtain⟨q,hq⟩:=nm (decide ((k:Int)∈X));rw[hq]at c0;rw[hq];clear h hq;have ae:(k:Int)<16:=by omega
 go_enter func179,ntmps179;go_wp2_with fail
 go_ret;refine⟨rfl,?_,(Only.refl _ _).setCell (by simp) _⟩;rw[<-ξfU X hk];exact HH.out
theorem ξ1R(a:Option Addr)(n cap:Nat)(L:List Int)(w:World)(h:Gaps.A0b w a n L)(hL:∀x∈L,0<=x/\x<=15) :
 Calls prog 146 #[.slice a n cap] w λe w'=>e=.returned (.bool (twc L))/\Below w.heap.size w w':=by
 have hl:=h.2.1;have hn:=h.2.2;have C:Hid (∀W:World,W.heap[w.heap.size]?=some (.cells (sn []) 183 (0,0))->Below w.heap.size w W->Calls prog 144 #[.slice a n cap,.func (.func 179) #[] #[.pointer (some ⟨w.heap.size,0,none⟩)]] W λe w'=>e=.returned (.bool (twc L))/\Below w.heap.size w w'):=by
  refine ξ0 ?_;intro W hW hB;have hI:=ξ9R w.heap.size a n cap L (λj W'=>W'.heap[w.heap.size]?=some (.cells (sn (L.take j)) 183 (0,0))/\Below w.heap.size w W') (λj=>decide (L.getD j 0∈L.take j)) W hl hn (λj W' hj=>h.below hj.2) ⟨by simpa using hW,hB⟩ (by
   intro j W' hj hJ;obtain⟨q1,q2⟩:=hL (L.getD j 0) (by rw[Ξa,Ξd (by omega)];exact List.getElem_mem _);obtain⟨k,hk⟩:∃k:Nat,L.getD j 0=(k:Int):=⟨(L.getD j 0).toNat,by omega⟩;have ae:L[j]?=some (k:Int):=by
    rw[Ξa,Ξd (by omega)]at hk;rw[Ξd (by omega)];simpa using hk
   have ht:L.take (j+1)=L.take j++[(k:Int)]:=by
    rw[List.take_add_one,ae];rfl
   rw[ht,hk];refine(ξ3F (L.take j) w.heap.size k (by omega) W' hJ.1).mono ?_;rintro e w1 ⟨rfl,h1,h2⟩;exact⟨rfl,h1,hJ.2.trans (h2.below (by have:=hJ.2.size;omega) (by simp))⟩)
  have HI:=ξ0 hI;clear hI;obtain⟨q,hq⟩:=nm (twc L);rw[hq];have HQ:=ξ0 hq;clear hq;go_enter func144,ntmps144;go_wp2_with fail
  refine HI.out.mono ?_;rintro e w1 ⟨i,rfl,hf⟩;have hb:Below w.heap.size w w1:=by
   rcases hf with⟨j,_,_,_,_,h1⟩|⟨_,_,h1⟩
   ·exact h1.2
   ·exact h1.2
  have hd:=ξ5T hf;rw[<-hl,ξcg,HQ.out]at hd;have HB:=ξ0 hb;clear hf hb;go_wp2_with fail;go_ret;exact⟨rfl,HB.out⟩
 obtain⟨q,hq⟩:=nm (twc L);rw[hq]at C;rw[hq];clear hq h;rw[ξfV]at C;go_enter func146,ntmps146;go_wp2_with fail
 refine(C.out _ (by first|exact heap_alloc_new w _|simp) ((Ξp _ _).alloc (Ξo _) _)).mono ?_;rintro e w1 ⟨rfl,hb⟩;go_wp2_with fail;go_ret;exact⟨rfl,hb⟩
theorem ξ82(b b1 b2:Nat)(id pa:Int)(a:Option Addr)(n cap:Nat)(L:List Int)(w:World)(h:Gaps.A0b w a n L)(h1:w.cell? ⟨b1,0,none⟩=some (.pointer (some ⟨b,0,none⟩)))(h2:w.cell? ⟨b2,0,none⟩=some (.int .i64 pa))(h3:w.cell? ⟨b,1,none⟩=some (.int .i64 id)) :
 Calls prog 144 #[.slice a n cap,.func (.func 145) #[] #[.pointer (some ⟨b1,0,none⟩),.pointer (some ⟨b2,0,none⟩)]] w λe w'=>e=.returned (.bool (L.any (A3z id pa)))/\w'=w:=by
 have hl:=h.2.1;have hn:=h.2.2;have hI:=ξ9S b1 b2 a n cap L (λj W=>W=w) (λj=>A3z id pa (L.getD j 0)) w hl hn (λj W hj=>by rw[hj];exact h) rfl (by
  rintro j W hj rfl;refine(ξc4 (L.getD j 0) id pa b b1 b2 W h1 h2 h3).mono ?_;rintro e w1 ⟨rfl,rfl⟩;exact⟨rfl,rfl⟩)
 have HI:=ξ0 hI;clear hI h h1 h2 h3;obtain⟨q,hq⟩:=nm (L.any (A3z id pa));rw[hq];have HQ:=ξ0 hq;clear hq;go_enter func144,ntmps144;go_wp2_with fail
 refine HI.out.mono ?_;rintro e w1 ⟨i,rfl,hf⟩;have hb:w1=w:=by
  rcases hf with⟨j,_,_,_,_,h1⟩|⟨_,_,h1⟩
  ·exact h1
  ·exact h1
 have hd:=ξ5T hf;rw[<-hl,ξe5 L (A3z id pa),HQ.out]at hd;clear hf;subst hb;go_wp2_with fail;go_ret;exact⟨rfl,rfl⟩
theorem ξ5k{pa:Int}{K:List Int}(h:K.any (A3z id pa)=false):∀x∈K,0<=x/\x<=15:=by
 intro x hx;rw[List.any_eq_false]at h;have:=h x hx;by_cases c:0<=x/\x<=15
 ·exact c
 ·have e:A3z id pa x=true:=by unfold A3z oth okN;rw[decide_eq_false c];rfl
  exact absurd e this
theorem box2(w:World)(v u:Value)(t r:TypeId):((w.alloc (.cells #[v] t)).alloc (.cells #[u] r)).cell? ⟨w.heap.size,0,none⟩=some v/\((w.alloc (.cells #[v] t)).alloc (.cells #[u] r)).cell? ⟨w.heap.size+1,0,none⟩=some u:=by
 have h1:=heap_alloc_new w (.cells #[v] t);have h2:=heap_alloc_new (w.alloc (.cells #[v] t)) (.cells #[u] r);have h3:=(Below.heap_alloc (w.alloc (.cells #[v] t)) (.cells #[u] r) w.heap.size (by simp)).trans h1;simp only[World.size_alloc]at h2;constructor
 ·simp[World.cell?,h3]
 ·unfold World.cell?;simp only[h2];simp
theorem A4k(w:World)(O1 O2:Obj):Below w.heap.size w ((w.alloc O1).alloc O2):=
 ((Ξp _ _).alloc (Ξo _) _).alloc (by simp) _
theorem ξc(hb:Below w.heap.size w w'){p:Addr}(h:w.cell? p=some v):w'.cell? p=some v:=(hb.cell (Ξq w p h)).trans h
theorem ξa(n b:Nat)(o:Nat->Tg)(P:NP)(N:Nd)(tk pa ep:Int)(a:Option Addr)(m cap:Nat)(K:List Int)(w:World)(hN:NAt w o n b P N)(hK:Gaps.A0b w a m K) :
 Calls prog 110 #[.pointer (some ⟨b,0,none⟩),.int .i64 tk,.int .i64 pa,.slice a m cap,.int .i64 ep] w λe w'=>e=.returned (A0a (pF N tk pa K ep))/\Below w.heap.size w w':=by
 have ax:=hN.cells.2.1;have HN:=ξ0 hN;have HK:=ξ0 hK;clear hN hK;obtain⟨id,ay⟩:=nm N.id;rw[ay]at ax;have CT:=ξ0 (ξk tk);obtain⟨f,hf⟩:=nm (pF N tk pa K ep);rw[hf];unfold pF at hf;rw[ay]at hf;have c1:=box2 w (.pointer (some ⟨b,0,none⟩)) (.int .i64 pa) 97 3;have hB:=A4k w (.cells #[.pointer (some ⟨b,0,none⟩)] 97) (.cells #[.int .i64 pa] 3);have aj:=ξc hB ax;have CO:=ξ0 (ξ3h b id pa _ aj);have CC:=ξ0 (ξ82 b w.heap.size (w.heap.size+1) id pa a m cap K _ (HK.out.below hB) c1.1 c1.2 aj);obtain⟨az,aG⟩:=c1;obtain⟨w2,aA⟩:=nm ((w.alloc (.cells #[.pointer (some ⟨b,0,none⟩)] 97)).alloc (.cells #[.int .i64 pa] 3));rw[aA]at az aG CO CC hB aj;have HB:=ξ0 hB;have HW:=ξ0 aA;clear hB aA ay ax;cases hT:okT tk with
 | false=>
   rw[hT]at CT;rw[if_pos hT]at hf;subst hf;clear hT;go_enter func110,ntmps110;go_wp2_with fail
   rw[HW.out];refine(CT.out _).mono ?_;rintro e w1 ⟨rfl,rfl⟩;go_wp2_with fail;go_ret;exact⟨rfl,HB.out⟩
 | true=>
   rw[if_neg (by simp[hT])]at hf;rw[hT]at CT;by_cases hpa:pa≠-1/\oth id pa=false
   ·rw[if_pos hpa]at hf;subst hf;obtain⟨p1,p2⟩:=hpa;rw[p2]at CO;have d1:(pa != -1)=true:=by simpa using p1
    clear p1 p2 hT;go_enter func110,ntmps110;go_wp2_with fail
    rw[HW.out];refine(CT.out _).mono ?_;rintro e w1 ⟨rfl,rfl⟩;go_wp2_with fail;refine CO.out.mono ?_;rintro e w1 ⟨rfl,rfl⟩;go_wp2_with fail;go_ret;exact⟨rfl,HB.out⟩
   ·rw[if_neg hpa]at hf;obtain⟨k,aw,aE,aF⟩:∃k:Nat,k<8/\tk=(k:Int)+1/\(tk-1).toNat=k:=⟨(tk-1).toNat,by simp[okT]at hT;omega,by simp[okT]at hT;omega,rfl⟩;clear hT;have aH:wrap64 (tk-1)=(k:Int):=by unfold wrap64;omega
    have aI:(k:Int)<8:=by omega
    have aJ:=ξ0 aE;clear aE;by_cases p1:pa=-1
    ·have d1:(pa != -1)=false:=by simpa using p1
     clear p1 hpa;by_cases e0:ep<0
     ·rw[if_pos (.inl e0)]at hf;subst hf;have aC:decide (ep<0)=true:=by simpa using e0
      clear e0;go_enter func110,ntmps110;go_wp2_with fail
      rw[HW.out];refine(CT.out _).mono ?_;rintro e w1 ⟨rfl,rfl⟩;go_wp2_with fail;go_ret;exact⟨rfl,HB.out⟩
     have aC:decide (ep<0)=false:=by simpa using e0
     by_cases e1:65535<ep
     ·rw[if_pos (.inr e1)]at hf;subst hf;have aD:decide (65535<ep)=true:=by simpa using e1
      clear e0 e1;go_enter func110,ntmps110;go_wp2_with fail
      rw[HW.out];refine(CT.out _).mono ?_;rintro e w1 ⟨rfl,rfl⟩;go_wp2_with fail;go_ret;exact⟨rfl,HB.out⟩
     have aD:decide (65535<ep)=false:=by simpa using e1
     rw[if_neg (by omega)]at hf;clear e0 e1;cases hA:K.any (A3z id pa)with
     | true=>
       rw[hA]at CC;rw[if_pos hA]at hf;subst hf;clear hA;go_enter func110,ntmps110;go_wp2_with fail
       rw[HW.out];refine(CT.out _).mono ?_;rintro e w1 ⟨rfl,rfl⟩;go_wp2_with fail;refine CC.out.mono ?_;rintro e w1 ⟨rfl,rfl⟩;go_wp2_with fail;go_ret;exact⟨rfl,HB.out⟩
     | false=>
       rw[if_neg (by simp[hA])]at hf;have CW:=ξ0 (ξ1R a m cap K w2 (HK.out.below HB.out) (ξ5k hA));rw[hA]at CC;clear hA;cases hD:twc K with
       | true=>
         rw[hD]at CW;rw[if_pos hD]at hf;subst hf;clear hD;go_enter func110,ntmps110;go_wp2_with fail
         rw[HW.out];refine(CT.out _).mono ?_;rintro e w1 ⟨rfl,rfl⟩;go_wp2_with fail;refine CC.out.mono ?_;rintro e w1 ⟨rfl,rfl⟩;go_wp2_with fail;refine CW.out.mono ?_;rintro e w1 ⟨rfl,ae⟩;have ah:=ξ0 ae;clear ae;go_wp2_with fail;go_ret;exact⟨rfl,HB.out.trans (ah.out.mono HB.out.size)⟩
       | false=>
         rw[hD]at CW;rw[if_neg (by simp[hD])]at hf;clear hD;go_enter func110,ntmps110;go_wp2_with fail
         rw[HW.out];refine(CT.out _).mono ?_;rintro e w1 ⟨rfl,rfl⟩;go_wp2_with fail;refine CC.out.mono ?_;rintro e w1 ⟨rfl,rfl⟩;go_wp2_with fail;refine CW.out.mono ?_;rintro e w1 ⟨rfl,ae⟩;have c1:=ξc ae az;have ah:=ξ0 (HB.out.trans (ae.mono HB.out.size));clear ae;have ai:=HN.out.below ah.out;have ct:=ai.A2l aw;unfold Nd.at at hf;rw[aF]at hf;cases hx:N.tr k with
         | none=>
           rw[hx]at ct hf;simp only[tpv]at ct;rw[if_neg (by simp[old])]at hf;subst hf;clear ai hx;go_wp2_with fail;go_ret;exact⟨rfl,ah.out⟩
         | some t=>
           have bx:=(ai.trs k aw t hx).1.box;rw[hx]at ct hf;simp only[tpv]at ct;have ce:w1.cell? ⟨(P.tp k).p,1,none⟩=some (.int .i64 t.ep):=by simp[World.cell?,bx]
           obtain⟨pp,au⟩:=nm ((P.tp k).p);obtain⟨te,am⟩:=nm t.ep;rw[au]at ct ce;have ho:old (some t) ep=decide (ep<te):=by rw[<-am];rfl
           rw[am]at ce;rw[ho]at hf;clear ho;clear ai hx bx au am;by_cases hlt:ep<te
           ·rw[if_pos (by simpa using hlt)]at hf;subst hf;have aq:decide (ep<te)=true:=by simpa using hlt
            clear hlt;go_wp2_with fail;go_ret;exact⟨rfl,ah.out⟩
           ·rw[if_neg (by simpa using hlt)]at hf;subst hf;have aq:decide (ep<te)=false:=by simpa using hlt
            clear hlt;go_wp2_with fail;go_ret;exact⟨rfl,ah.out⟩
    ·have p2:oth id pa=true:=by
      cases h:oth id pa with
      | true=>rfl
      | false=>exact absurd ⟨p1,h⟩ hpa
     rw[p2]at CO;have d1:(pa != -1)=true:=by simpa using p1
     clear p1 p2 hpa;by_cases e0:ep<0
     ·rw[if_pos (.inl e0)]at hf;subst hf;have aC:decide (ep<0)=true:=by simpa using e0
      clear e0;go_enter func110,ntmps110;go_wp2_with fail
      rw[HW.out];refine(CT.out _).mono ?_;rintro e w1 ⟨rfl,rfl⟩;go_wp2_with fail;refine CO.out.mono ?_;rintro e w1 ⟨rfl,rfl⟩;go_wp2_with fail;go_ret;exact⟨rfl,HB.out⟩
     have aC:decide (ep<0)=false:=by simpa using e0
     by_cases e1:65535<ep
     ·rw[if_pos (.inr e1)]at hf;subst hf;have aD:decide (65535<ep)=true:=by simpa using e1
      clear e0 e1;go_enter func110,ntmps110;go_wp2_with fail
      rw[HW.out];refine(CT.out _).mono ?_;rintro e w1 ⟨rfl,rfl⟩;go_wp2_with fail;refine CO.out.mono ?_;rintro e w1 ⟨rfl,rfl⟩;go_wp2_with fail;go_ret;exact⟨rfl,HB.out⟩
     have aD:decide (65535<ep)=false:=by simpa using e1
     rw[if_neg (by omega)]at hf;clear e0 e1;cases hA:K.any (A3z id pa)with
     | true=>
       rw[hA]at CC;rw[if_pos hA]at hf;subst hf;clear hA;go_enter func110,ntmps110;go_wp2_with fail
       rw[HW.out];refine(CT.out _).mono ?_;rintro e w1 ⟨rfl,rfl⟩;go_wp2_with fail;refine CO.out.mono ?_;rintro e w1 ⟨rfl,rfl⟩;go_wp2_with fail;refine CC.out.mono ?_;rintro e w1 ⟨rfl,rfl⟩;go_wp2_with fail;go_ret;exact⟨rfl,HB.out⟩
     | false=>
       rw[if_neg (by simp[hA])]at hf;have CW:=ξ0 (ξ1R a m cap K w2 (HK.out.below HB.out) (ξ5k hA));rw[hA]at CC;clear hA;cases hD:twc K with
       | true=>
         rw[hD]at CW;rw[if_pos hD]at hf;subst hf;clear hD;go_enter func110,ntmps110;go_wp2_with fail
         rw[HW.out];refine(CT.out _).mono ?_;rintro e w1 ⟨rfl,rfl⟩;go_wp2_with fail;refine CO.out.mono ?_;rintro e w1 ⟨rfl,rfl⟩;go_wp2_with fail;refine CC.out.mono ?_;rintro e w1 ⟨rfl,rfl⟩;go_wp2_with fail;refine CW.out.mono ?_;rintro e w1 ⟨rfl,ae⟩;have ah:=ξ0 ae;clear ae;go_wp2_with fail;go_ret;exact⟨rfl,HB.out.trans (ah.out.mono HB.out.size)⟩
       | false=>
         rw[hD]at CW;rw[if_neg (by simp[hD])]at hf;clear hD;go_enter func110,ntmps110;go_wp2_with fail
         rw[HW.out];refine(CT.out _).mono ?_;rintro e w1 ⟨rfl,rfl⟩;go_wp2_with fail;refine CO.out.mono ?_;rintro e w1 ⟨rfl,rfl⟩;go_wp2_with fail;refine CC.out.mono ?_;rintro e w1 ⟨rfl,rfl⟩;go_wp2_with fail;refine CW.out.mono ?_;rintro e w1 ⟨rfl,ae⟩;have c1:=ξc ae az;have ah:=ξ0 (HB.out.trans (ae.mono HB.out.size));clear ae;have ai:=HN.out.below ah.out;have ct:=ai.A2l aw;unfold Nd.at at hf;rw[aF]at hf;cases hx:N.tr k with
         | none=>
           rw[hx]at ct hf;simp only[tpv]at ct;rw[if_neg (by simp[old])]at hf;subst hf;clear ai hx;go_wp2_with fail;go_ret;exact⟨rfl,ah.out⟩
         | some t=>
           have bx:=(ai.trs k aw t hx).1.box;rw[hx]at ct hf;simp only[tpv]at ct;have ce:w1.cell? ⟨(P.tp k).p,1,none⟩=some (.int .i64 t.ep):=by simp[World.cell?,bx]
           obtain⟨pp,au⟩:=nm ((P.tp k).p);obtain⟨te,am⟩:=nm t.ep;rw[au]at ct ce;have ho:old (some t) ep=decide (ep<te):=by rw[<-am];rfl
           rw[am]at ce;rw[ho]at hf;clear ho;clear ai hx bx au am;by_cases hlt:ep<te
           ·rw[if_pos (by simpa using hlt)]at hf;subst hf;have aq:decide (ep<te)=true:=by simpa using hlt
            clear hlt;go_wp2_with fail;go_ret;exact⟨rfl,ah.out⟩
           ·rw[if_neg (by simpa using hlt)]at hf;subst hf;have aq:decide (ep<te)=false:=by simpa using hlt
            clear hlt;go_wp2_with fail;go_ret;exact⟨rfl,ah.out⟩
theorem A9d(h:i<8):i=0∨i=1∨i=2∨i=3∨i=4∨i=5∨i=6∨i=7:=by omega
def nd0(id:Int):Nd:=⟨0,id,λ_=>none,[],0,0,λ_=>-1,[],[]⟩
def Made(w w':World)(o:Nat->Tg)(n:Nat)(e:Ending)(N:Nd):Prop:=
 ∃b,e=.returned (.tuple #[.pointer (some ⟨b,0,none⟩),.nilIface])/\∃o' P,NAt w' o' n b P N/\Ext w o o'/\Below w.heap.size w w'
theorem made{w1:World}{pb:Nat}{mb:Nat->Nat}(h1:∀k∈Pull.A2m pb mb,w.heap.size<=k)(h2:Pull.ξ8 w1 pb mb 10 0 (λ_=>-1) (λ_=>-1) [])(h3:Below w.heap.size w w1) :
 Made w ((w1.alloc (.map #[] 0)).alloc (.cells #[.int .i64 0,.int .i64 id,.pointer none,.pointer none,.pointer none,.pointer none,.pointer none,.pointer none,.pointer none,.pointer none,.map (some w1.heap.size),.int .i64 0,.pointer (some ⟨pb,0,none⟩),.slice none 0 0] 157)) o n (.returned (.tuple #[.pointer (some ⟨w1.heap.size+1,0,none⟩),.nilIface])) (nd0 id):=by
 have ae:=heap_alloc_new (w1.alloc (.map #[] 0)) (.cells #[.int .i64 0,.int .i64 id,.pointer none,.pointer none,.pointer none,.pointer none,.pointer none,.pointer none,.pointer none,.pointer none,.map (some w1.heap.size),.int .i64 0,.pointer (some ⟨pb,0,none⟩),.slice none 0 0] 157);simp only[World.size_alloc]at ae;have hs:=h3.size;have hB:=A4k w1 (.map #[] 0) (.cells #[.int .i64 0,.int .i64 id,.pointer none,.pointer none,.pointer none,.pointer none,.pointer none,.pointer none,.pointer none,.pointer none,.map (some w1.heap.size),.int .i64 0,.pointer (some ⟨pb,0,none⟩),.slice none 0 0] 157);refine⟨_,rfl,λk=>if k<w.heap.size then o k else if k=w1.heap.size+1 then⟨n,0,0⟩else if k=w1.heap.size then⟨n,0,1⟩else⟨n,2,0⟩,⟨λ_=>⟨0,none,0,0,0,.slice none 0 0,0,0,0⟩,w1.heap.size,λ_=>⟨0,0,0,0,0,.slice none 0 0⟩,pb,mb,.slice none 0 0⟩,?_,λk hk=>if_pos hk,h3.trans (hB.mono hs)⟩;refine⟨⟨_,ae,?_⟩,?_,?_,⟨.map [],?_,SM.nil _⟩,?_,?_,h2.below hB,?_,ξN.nil _ _,?_⟩
 ·refine⟨rfl,rfl,rfl,?_,rfl,rfl,rfl,rfl⟩;intro i hi;rcases A9d hi with rfl|rfl|rfl|rfl|rfl|rfl|rfl|rfl<;>rfl
 ·show(if w1.heap.size+1<w.heap.size then _ else if w1.heap.size+1=w1.heap.size+1 then _ else _)=_;rw[if_neg (by omega),if_pos rfl]
 ·intro i hi t ht;exact absurd ht (by simp[nd0])
 ·exact(World.ownsMap_made w1 _ _ _).alloc _
 ·show(if w1.heap.size<w.heap.size then _ else if w1.heap.size=w1.heap.size+1 then _ else if w1.heap.size=w1.heap.size then _ else _)=_;rw[if_neg (by omega),if_neg (by omega),if_pos rfl]
 ·intro x hx;simp[nd0]at hx
 ·intro k hk;have q1:=h1 k hk;have q2:=h2.blt k hk;show(if k<w.heap.size then _ else if k=w1.heap.size+1 then _ else if k=w1.heap.size then _ else _)=_;rw[if_neg (by omega),if_neg (by omega),if_neg (by omega)]
 ·intro k hk;simp[Value.ownBlock]at hk
theorem ξ12(id:Int)(o:Nat->Tg)(n:Nat)(w:World)(h:okN id=true):Calls prog 36 #[.int .i64 id] w λe w'=>Made w w' o n e (nd0 id):=by
 have C:=ξ0 (ξm id);rw[h]at C;clear h;have CP:=ξ0 (Pull.ξ12 10 w (by omega) (by omega));have ae:=@run_makeMap prog;go_enter func36,ntmps36;go_wp2_with fail
 refine(C.out _).mono ?_;rintro e w1 ⟨rfl,rfl⟩;go_wp2_with fail;refine CP.out.mono ?_;rintro e w2 ⟨pb,rfl,mb,h1,h2,h3⟩;have HM:=ξ0 (made (o:=o) (n:=n) (id:=id) h1 h2 h3);clear h1 h2 h3;go_wp2_with fail;go_ret2;exact HM.out
def tr0(tk ep:Int):Tr:=⟨tk,ep,0,[],0,-1,[],[],-1,[],λ_=>(0,0)⟩
theorem ξ9E(tk ep:Int)(w:World):Calls prog 111 #[.int .i64 tk,.int .i64 ep] w λe w'=>
 ∃P:TP,e=.returned (.tuple #[.pointer (some ⟨P.p,0,none⟩),.nilIface])/\A1h w' P (tr0 tk ep)/\(∀k∈A0x P (tr0 tk ep),w.heap.size<=k)/\Below w.heap.size w w':=by
 have CG:=ξ0 (Gaps.ξ12 3 3 w (by omega) (by omega) (by omega) (by omega));have CR:=ξ0 (λW=>Ring.ξ12 64 W (by omega) (by omega));have ai:=@run_makeMap prog;go_enter func111,ntmps111;go_wp2_with fail
 refine CG.out.mono ?_;rintro e w1 ⟨gb,gm,rfl,g1,g2,g3,g4⟩;go_wp2_with fail;refine(CR.out _).mono ?_;rintro e w2 ⟨rb,rm,rfl,r1,r2,r3,r4⟩;have HG:=ξ0 (And.intro g1 (And.intro g2 (And.intro g3 g4)));have HR:=ξ0 (And.intro r1 (And.intro r2 (And.intro r3 r4)));clear g1 g2 g3 g4 r1 r2 r3 r4;go_wp2_with fail;go_ret2;obtain⟨g1,g2,g3,g4⟩:=HG.out;obtain⟨r1,r2,r3,r4⟩:=HR.out;have ah:=g4.size;have aj:=r4.size;have hB:=A4k w2 (.map #[] 0) (.cells #[.int .i64 tk,.int .i64 ep,.int .i64 0,.slice none 0 0,.pointer (some ⟨gb,0,none⟩),.pointer (some ⟨rb,0,none⟩),.map (some w2.heap.size)] 174);have ae:=heap_alloc_new (w2.alloc (.map #[] 0)) (.cells #[.int .i64 tk,.int .i64 ep,.int .i64 0,.slice none 0 0,.pointer (some ⟨gb,0,none⟩),.pointer (some ⟨rb,0,none⟩),.map (some w2.heap.size)] 174);simp only[World.size_alloc]at ae;refine⟨⟨w2.heap.size+1,none,0,gb,gm,.slice none 0 0,rb,rm,w2.heap.size⟩,rfl,⟨ae,Gaps.A0b.nil _ _,λ_=>⟨rfl,rfl⟩,(g3.below r4).below hB,r3.below hB,⟨.map [],(World.ownsMap_made w2 _ _ _).alloc _,RM.ξ1b,by intro i hi;simp[tr0]at hi⟩,?_,by intro k hk;simp[A3u,tr0]at hk⟩,?_,(g4.trans (r4.mono ah)).trans (hB.mono (by omega))⟩
 ·have q1:=g3.lt gm (by simp[Gaps.A01]);have q2:=r3.lt.2;show gm≠rm/\gm≠w2.heap.size/\rm≠w2.heap.size;omega
 intro k hk;simp[A0x,Gaps.A01,A3u,tr0,Value.ownBlock]at hk;rcases hk with rfl|rfl|rfl|rfl|rfl|rfl<;>omega
structure A9e(w w':World)(sb:Nat)(tk mo:Int)(gv:Value)(ob om lb ub:Nat):Prop where
 box:w'.heap[sb]?=some (.cells #[.int .i64 tk,.int .i64 mo,.pointer (some ⟨ob,0,none⟩),.pointer (some ⟨lb,0,none⟩),.pointer (some ⟨ub,0,none⟩),gv] 162 (0,0))
 ord:Order.ξ1 w' ob om 10 0 (-1) []
 lay:Layer.ξ5 w' lb mo (-1) (-1) false
 out:Out.A0p w' ub 0 0 0 0 0
 new:w.heap.size<=ob/\w.heap.size<=om/\w.heap.size<=lb/\w.heap.size<=ub
 only:Only [sb] w w'
theorem ξ87(sb:Nat)(tk mo:Int)(v2 v3 v4 gv:Value)(w:World)(h:w.heap[sb]?=some (.cells #[.int .i64 tk,.int .i64 mo,v2,v3,v4,gv] 162 (0,0)))(h0:0<=mo)(h1:mo<=3) :
 Calls prog 87 #[.pointer (some ⟨sb,0,none⟩)] w λe w'=>∃ob om lb ub,e=.returned .nilIface/\A9e w w' sb tk mo gv ob om lb ub:=by
 have CO:=ξ0 (Order.ξ12 10 w (by omega) (by omega));have CL:=ξ0 (λW=>Layer.ξ12 mo W h0 h1);have CU:=ξ0 (λW=>Out.ξ12 0 0 W (by omega) (by omega) (by omega) (by omega));have HX:=ξ0 h;clear h h0 h1;go_enter func87,ntmps87;go_wp2_with fail
 refine CO.out.mono ?_;rintro e w1 ⟨ob,om,rfl,o1,o2,o3,o4⟩;have hx:=(o4.block sb (lt_of_block HX.out)).trans HX.out;have c1:w1.cell? ⟨sb,1,none⟩=some (.int .i64 mo):=by simp[World.cell?,hx]
 have HO:=ξ0 (And.intro o1 (And.intro o2 (And.intro o3 o4)));clear o1 o2 o3 o4;have ai:=ξ0 hx;clear hx;go_wp2_with fail;refine(CL.out _).mono ?_;rintro e w2 ⟨lb,rfl,l1,l2,l3⟩;have HL:=ξ0 (And.intro l1 (And.intro l2 l3));clear l1 l2 l3 c1;go_wp2_with fail;refine(CU.out _).mono ?_;rintro e w3 ⟨ub,rfl,u1,u2,u3⟩;have hx:=(u3.block sb (by have:=HL.out.2.2.size;have:=lt_of_block ai.out;omega)).trans ((HL.out.2.2.block sb (lt_of_block ai.out)).trans ai.out);have HU:=ξ0 (And.intro u1 (And.intro u2 u3));clear u1 u2 u3;have c2:w3.cell? ⟨sb,2,none⟩=some v2:=by simp[World.cell?,hx]
 have c3:w3.cell? ⟨sb,3,none⟩=some v3:=by simp[World.cell?,hx]
 have c4:w3.cell? ⟨sb,4,none⟩=some v4:=by simp[World.cell?,hx]
 have f2:w3.frozen? ⟨sb,2,none⟩=false:=by simp[World.frozen?,hx]
 have f3:w3.frozen? ⟨sb,3,none⟩=false:=by simp[World.frozen?,hx]
 have f4:w3.frozen? ⟨sb,4,none⟩=false:=by simp[World.frozen?,hx]
 have k1:=heap_setCell_same w3 sb 2 _ _ (.pointer (some ⟨ob,0,none⟩)) hx;have k2:=heap_setCell_same _ sb 3 _ _ (.pointer (some ⟨lb,0,none⟩)) k1;have k3:=heap_setCell_same _ sb 4 _ _ (.pointer (some ⟨ub,0,none⟩)) k2;have aj:=ξ0 hx;have am:=ξ0 k3;clear hx k1 k2 k3;go_wp2_with fail;go_ret;obtain⟨o1,o2,o3,o4⟩:=HO.out;obtain⟨l1,l2,l3⟩:=HL.out;obtain⟨u1,u2,u3⟩:=HU.out;have s1:=o4.size;have s2:=l3.size;have s3:=u3.size;have ls:=lt_of_block HX.out;have ae:Only [sb] w3 (((w3.setCell ⟨sb,2,none⟩ (.pointer (some ⟨ob,0,none⟩))).setCell ⟨sb,3,none⟩ (.pointer (some ⟨lb,0,none⟩))).setCell ⟨sb,4,none⟩ (.pointer (some ⟨ub,0,none⟩))):=by
  iterate 3 refine Only.setCell ?_ (by simp) _
  exact Only.refl _ _
 have nb:∀k∈[sb],∀cs fr,w3.heap[k]?≠some (.cells cs 5 fr):=by
  intro k hk cs fr;simp only[Ξg]at hk;subst hk;rw[aj.out];simp
 have ah:∀k,w.heap.size<=k->k∉[sb]:=by intro k hk;simp;omega
 refine⟨ob,om,lb,ub,rfl,by simpa using am.out,((o3.below l3).below u3).only ae (ah _ o1) (ah _ o2) nb,(l2.below u3).only ae (ah _ (by omega)),u2.only ae (ah _ (by omega)),⟨o1,o2,by omega,by omega⟩,?_⟩;exact(Only.of_below ((o4.trans (l3.mono s1)).trans (u3.mono (by omega))) _).trans ae
open Go.Sort Go.Shelf
theorem A09:Keyed prog 3:=int_keyed underlying3
theorem A05(h:(Lit.int .i64 y).wf=true):keyOf prog 3 (.int .i64 y)=some (GM.key y):=keyOf_int_mk underlying3 h
theorem A7l(w:World):(zeroValue 160).run prog w=.ok (.pointer none) w:=by kernel_rfl
theorem infoSQ:(prog.info? 160).map (λi=>(i.zero,i.size,i.bytes))=some (some (.pointer none),1,8):=by kernel_rfl
theorem ξJ(h0:-9223372036854775808<=y)(h1:y<=9223372036854775807):(Lit.int .i64 y).wf=true:=WalkArith.wf_i64 (by omega)
theorem ξdh{mb:Nat}{D:DataW Value}(hown:w.ownsMap prog 3 ptR mb n D)(hS:SM D X g)(hx:x∈X)(hw:(Lit.int .i64 x).wf=true) :
 (Instr.lookup 152 (.map (some mb)) (.int .i64 x) false).run prog w=.ok (.pointer (some ⟨g x,0,none⟩)) w:=by
 obtain⟨v',ps,ae,hr⟩:=hown.lookup A09 underlying152 (A7l w) (ξ6M none) (A05 hw);rw[hS.elems x hx]at hr;have e:=ξ8q hr;simp only[Prod.mk.injEq,DataW.held.injEq]at e;rw[ae,<-e.1]
structure A2v(l:List (Int×Sb))(ls:Int):Prop where
 ris:(ids l).Pairwise λa b=>a<b
 mem:∀x∈l,1<=x.1/\x.1<=ls/\0<=x.2.mo/\x.2.mo<=3
 len:l.length<=20
 ls0:0<=ls
 ls1:ls<=1000000
theorem ξL(l:List (Int×Sb)):(ids l).length=l.length:=by simp[ids]
theorem ξ2C(h:X.Pairwise λa b=>a<b):GM.Ris (X.map lk):=by
 unfold GM.Ris;rw[List.pairwise_map];exact h
theorem ξ5e(X:List Int):GM.nums (X.map lk)=X:=by
 unfold GM.nums;rw[List.map_map];exact List.map_id' _
def pts(g:Int->Nat)(X:List Int):List Value:=X.map λx=>Value.pointer (some ⟨g x,0,none⟩)
theorem ξeG(g:Int->Nat)(X:List Int):(pts g X).length=X.length:=by simp[pts]
theorem ξeH(g:Int->Nat)(X Y:List Int):pts g (X++Y)=pts g X++pts g Y:=by simp[pts]
theorem A50{T:TypeId}(c0:Value):∀j u,[c0][j]?=some u->(w.alloc (.cells #[c0] T)).cell? ((⟨w.heap.size,0,none⟩:Addr).add j)=some u:=by
 intro j u hu;have:=World.news_of_block (w:=w.alloc (.cells #[c0] T)) (cs:=#[c0]) (t:=T) (fr:=(0,0)) (heap_alloc_new w _);exact this j u hu
theorem ξ9M(mb:Option Nat)(W:World):Calls prog 155 #[.map mb] W λe w'=>e=.returned (.func (.func 188) #[] #[.pointer (some ⟨W.heap.size,0,none⟩)])/\w'=W.alloc (.cells #[.map mb] 152):=
 (callsIn_wide (n:=5)).1 (AnyZI.keys_in Tryz.B0h Fence.wide 5 trivial rfl mb W)
theorem ξ6x(mb n:Nat)(D:DataW Value)(X:List Int)(w:World)(hown:w.ownsMap prog 3 ptR mb n D)(hK:GM.Keys D (X.map lk))(hr:X.Pairwise λa b=>a<b)(hl:X.length<=1000) :
 Calls prog 104 #[.func (.func 188) #[] #[.pointer (some ⟨w.heap.size,0,none⟩)]] (w.alloc (.cells #[.map (some mb)] 152)) λe w'=>∃v,e=.returned v/\w'.ownsRow w.heap.size 3 1 v X.length (Gaps.ic X)/\Below w.heap.size w w':=by
 have aq:Maps.size D=X.length:=by
  have:=hK.size (hown.entries A09) (ξ2C hr).apart;rwa [Ξm]at this
 have ae:=hK.perm hown A09 underlying3 (ξ2C hr);rw[ξ5e]at ae;have ax:=hown.lt;have aj:SeqGives Fence.wide 2 prog 188 #[.pointer (some ⟨w.heap.size,0,none⟩)] encZ (λss=>ss.Perm (intKeys D)) (Maps.size D) (w.alloc (.cells #[.map (some mb)] 152)):=
  AnyZI.keys_gives (ρ:=Tryz.A56) { Tryz.B0h with } Fence.wide _ trivial rfl (by omega) w.heap.size mb n D _ (by simp) (by simp) (by
   obtain⟨es,ah,hb,Ft,hs,hD⟩:=hown;exact⟨es,ah,(Below.heap_alloc _ _ mb ax).trans hb,Ft,hs,hD⟩)
 have cS:=AnyZI.sorted_in Tryz.A7w Fence.wide 5 trivial trivial trivial trivial rfl (by omega) (Gaps.A9a _) (enters_of func74 (by kernel_rfl) rfl) 188 #[.pointer (some ⟨w.heap.size,0,none⟩)] trivial (enters_of func188 (by kernel_rfl) rfl) _ _ (by unfold maxLen;omega) (by omega) _ aj;change CallsIn _ _ prog 104 _ _ _ at cS;refine((callsIn_wide (n:=5)).1 cS).mono ?_;rintro e w' ⟨v,ss,rfl,hS,ai,ay,hb⟩;have au:ss.Perm X:=hS.trans ae.symm;have am:ss.length=X.length:=au.length_eq;have aw:=GM.ξ3V (ξ2C hr) (ss:=ss) (by rw[ξ5e];exact au);rw[ξ5e]at aw;rw[aw,am]at ai;exact⟨v,rfl,Gaps.ξv ai (by simp),((Ξp _ w).alloc (Ξo _) _).trans (hb.mono (by simp))⟩
structure ASt(w2 wr:World)(g:Int->Nat)(X:List Int)(v:Value):Prop where
 below:Below w2.heap.size w2 wr
 own:wr.ownsRow w2.heap.size 160 1 v X.length (pts g X)
theorem ξ3i(n b:Nat)(o:Nat->Tg)(P:NP)(N:Nd)(w:World)(h:NAt w o n b P N)(hI:A2v N.sb N.ls) :
 Calls prog 119 #[.pointer (some ⟨b,0,none⟩)] w λe w'=>∃v,e=.returned v/\w'.ownsRow w.heap.size 160 1 v N.sb.length (pts (λx=>(P.sp x).s) (ids N.sb))/\Below w.heap.size w w':=by
 obtain⟨D,ah,hS⟩:=h.sbm;have hl:=ξL N.sb;have ae:=hI.len;have c10:=h.cells.2.2.1;have CS:=ξ0 (ξ6x P.sm N.sb.length D (ids N.sb) w ah hS.keys hI.ris (by omega));have HX:Hid (∀x∈ids N.sb,(Lit.int .i64 x).wf=true):=by
  refine ξ0 ?_;intro x hx;obtain⟨y,hy,rfl⟩:=Ξi.1 hx;have:=hI.mem y hy;have:=hI.ls1;exact ξJ (by omega) (by omega)
 obtain⟨g,hg⟩:∃g:Int->Nat,(λx=>(P.sp x).s)=g:=⟨_,rfl⟩;rw[hg]at hS;rw[hg];obtain⟨X,hX⟩:=nm (ids N.sb);rw[hX]at hS CS HX hl;rw[hX,<-hl];obtain⟨sm,aD⟩:=nm P.sm;rw[aD]at ah CS c10;obtain⟨nn,aA⟩:=nm X.length;have aJ:nn<=20:=by omega
 rw[aA]at CS ⊢;have HO:=ξ0 ah;have HS:=ξ0 hS;have HC:=ξ0 c10;have aw:=aA;clear hg hX hl ae aD ah hS h hI aA;have aC:=ξ0 aw;clear aw;obtain⟨i0,aL,aM,aO,aP⟩:=info_parts infoSQ;have CK:=ξ0 ξ9M;have c1:=HC.out;go_enter func119,ntmps119;go_wp2_with fail
 refine(CK.out _ _).mono ?_;rintro e w1 ⟨rfl,rfl⟩;go_wp2_with fail;refine CS.out.mono ?_;rintro e w2 ⟨kv,rfl,ax,aE⟩;obtain⟨ka,kc,rfl,hA,_,_,_⟩:=Gaps.ξl ax (by omega);have HA:=ξ0 hA;have HB:=ξ0 aE;clear ax hA aE c1;have aQ:Hid (ASt w2 w2 g (X.take 0) (.slice none 0 0)):=⟨Ξp _ _,Ξr _ _ _ _⟩;go_wp2_with fail
 go_loopg [3,13] nn (λgh u y wr=>∃(i:Nat) (v:Value),i+gh=nn/\v=u/\y=.int .i64 (i:Int)/\Hid (ASt w2 wr g (X.take i) v))
 case atStart=>exact⟨0,_,by omega,rfl,rfl,aQ⟩
 case round=>
  obtain⟨i,v,aU,rfl,rfl,HT⟩:=hrel;by_cases hi:i<nn
  ·have aS:(i:Int)<(nn:Int):=by omega
   obtain⟨ba,oa,rfl,aF⟩:=(HA.out.below HT.out.below).at (by omega);have c0:=aF i hi;have ae:i<X.length:=by rw[aC.out];exact hi
   obtain⟨x,hx⟩:=nm (X.getD i 0);have am:X[i]=x:=by rw[<-hx,Ξa,Ξd ae];rfl
   have aq:x∈X:=am ▸ List.getElem_mem ae;have aG:X.take (i+1)=X.take i++[x]:=by rw[List.take_add_one,Ξd ae,am];rfl
   have aH:(X.take i).length=i:=by rw[List.length_take];omega
   rw[hx]at c0;have aT:=ξ0 aG;have aI:=ξ0 aH;have au:=HB.out.trans (HT.out.below.mono HB.out.size);have c1:=ξc au HC.out;have ay:wr.ownsMap prog 3 ptR sm N.sb.length D:=by
    obtain⟨es,az,hh,F,hs,hD⟩:=HO.out;exact⟨es,az,(au.block sm (lt_of_block hh)).trans hh,F,hs,hD⟩
   have aV:=ξdh ay HS.out aq (HX.out x aq);clear aF hx am aG aH ae au ay aq;go_wp2_with (at_builtin;refine wpList_append_own _ rfl _ _ 210 rfl w2.heap.size 160 i0 _ 1 8 underlying210 aL aM aO aP rfl (by decide) _ (X.take i).length (pts g (X.take i)) rfl (HT.out.own.alloc _) ⟨wr.heap.size,0,none⟩ 1 1 [.pointer (some ⟨g x,0,none⟩)] rfl rfl ?cc ?one ?b1 ?b2 ?b3 ?next)
   case cc=>exact A50 _
   case one=>simp[Value.oneCell']
   case b1=>rw[aI.out];unfold maxLen;omega
   case b2=>rw[aI.out];omega
   case b3=>have:=HT.out.below.size;simp;omega
   case next=>
   intro v3 w' ai aj _;have HN:Hid (ASt w2 w' g (X.take (i+1)) v3):=by
    have hs:=HT.out.below.size;refine⟨(HT.out.below.alloc hs _).grown aj (by simp;omega) (λj hj=>(HT.out.own.lt j hj).1),?_⟩;rw[aT.out,ξeH,show(X.take i++[x]).length=min i X.length+1 from by simp];exact ai
   clear ai aj;go_wp2_with fail;go_roundg (nn-(i+1))
   case measure=>omega
   case rel=>exact⟨i+1,v3,by omega,rfl,by go_num,HN⟩
  ·have aS:¬(i:Int)<(nn:Int):=by omega
   obtain rfl:nn=i:=by omega
   go_wp2_with fail
   go_ret;have hs:=HT.out.own;have ht:X.take nn=X:=Ξl (by rw[aC.out];exact Ξo _);rw[ht,aC.out]at hs;exact⟨_,rfl,Gaps.ξv hs HB.out.size,HB.out.trans (HT.out.below.mono HB.out.size)⟩
def A04(w:World)(a:Option Addr)(g:Int->Nat)(X:List Int):Prop:=∀j,j<X.length->∃b,a=some ⟨b,0,none⟩/\w.cell? ⟨b,j,none⟩=some (.pointer (some ⟨g (X.getD j 0),0,none⟩))
theorem ξ59(g:Int->Nat)(X:List Int)(j:Nat)(h:j<X.length):(pts g X)[j]?=some (.pointer (some ⟨g (X.getD j 0),0,none⟩)):=by
 simp[pts,List.getD_eq_getElem?_getD,List.getElem?_eq_getElem h]
theorem ξ4c{base:Nat}(h:w.ownsRow base 160 1 v X.length (pts g X)):∃a cap,v=.slice a X.length cap/\A04 w a g X/\(∀ad,a=some ad->base<=ad.block/\ad.block<w.heap.size):=by
 rcases h.2 with⟨rfl,h0⟩|⟨q,cap,cur,rfl,hg,hb,hc,hm,hs,ht⟩
 ·have:X=[]:=Ξk h0;subst this;exact⟨none,0,rfl,λj hj=>absurd hj (by simp),λad e=>by simp at e⟩
 ·refine⟨_,cap,rfl,λj hj=>⟨q,rfl,?_⟩,?_⟩
  ·rw[h.cellAt j (by omega),ξ59 g X j hj]
  ·intro ad e;cases e;exact⟨hg,lt_of_block hb⟩
theorem A04.only{bs:List Nat}(h:A04 w a g X)(ho:Only bs w w')(hn:∀ad,a=some ad->ad.block∉bs):A04 w' a g X:=by
 intro j hj;obtain⟨b,e,hc⟩:=h j hj;exact⟨b,e,(ξr (ho.2.2.2.2 b (Ξq w ⟨b,j,none⟩ hc) (hn _ e)) _).trans hc⟩
theorem A04.at(h:A04 w a g X)(hn:0<X.length):∃b,a=some ⟨b,0,none⟩/\∀j,j<X.length->w.cell? ⟨b,j,none⟩=some (.pointer (some ⟨g (X.getD j 0),0,none⟩)):=by
 obtain⟨b,e,_⟩:=h 0 hn;refine⟨b,e,λj hj=>?_⟩;obtain⟨b',e',hc⟩:=h j hj;rw[e,Option.some.injEq,Addr.mk.injEq]at e';obtain⟨rfl,_⟩:=e';exact hc
theorem below_drewN'{B:Nat}(h:Below B w w'):Below B w (w'.drewN k):=⟨h.os,h.tape,h.output,h.size,h.block⟩
section
variable {w w':World}{o o':Nat->Tg}{n b:Nat}{P:NP}{N:Nd}{S:Tg->Prop}
theorem NAt.A99(h:NAt w o n b P N)(hc:Chg o S w w')(hs:¬S ⟨n,0,0⟩):∃cs,w'.heap[b]?=some (.cells cs 157 (0,0))/\A12 cs P N:=by
 obtain⟨cs,h1,h2⟩:=h.box;exact⟨cs,hc.block h1 (by rw[h.tag];exact hs),h2⟩
theorem NAt.tag'(h:NAt w o n b P N)(he:Ext w o o'):o' b=⟨n,0,0⟩:=(he _ h.lt).trans h.tag
theorem NAt.A66(h:NAt w o n b P N)(hc:Chg o S w w')(he:Ext w o o')(hi:i<8)(hs:¬S ⟨n,3,i⟩):∀t,N.tr i=some t->A1h w' (P.tp i) t/\Own o' ⟨n,3,i⟩ (A0x (P.tp i) t):=by
 intro t ht;obtain⟨k1,k2⟩:=h.trs i hi t ht;exact⟨k1.chg hc k2 hs,k2.ext he k1.lt⟩
theorem NAt.A7m(h:NAt w o n b P N)(hc:Chg o S w w')(hs:¬S ⟨n,0,1⟩):∃D,w'.ownsMap prog 3 ptR P.sm N.sb.length D/\SM D (ids N.sb) λx=>(P.sp x).s:=by
 obtain⟨D,h3,h4⟩:=h.sbm;exact⟨D,ξ8E h3 hc (by rw[h.smt];exact hs),h4⟩
theorem NAt.smt'(h:NAt w o n b P N)(he:Ext w o o'):o' P.sm=⟨n,0,1⟩:=by
 obtain⟨D,h3,h4⟩:=h.sbm;exact(he _ h3.lt).trans h.smt
theorem NAt.A67(h:NAt w o n b P N)(hc:Chg o S w w')(he:Ext w o o')(h0:∀g,S g->g.n≠0){x:Int×Sb}(hx:x∈N.sb)(hs:¬S ⟨n,4,x.1⟩):A1q w' o' (P.sp x.1) x.2/\Own o' ⟨n,4,x.1⟩ (ξ6 (P.sp x.1)):=by
 obtain⟨k1,k2⟩:=h.sbs x hx;exact⟨k1.chg hc k2 hs h0 he,k2.ext he k1.lt⟩
theorem NAt.A7n(h:NAt w o n b P N)(hc:Chg o S w w')(hs:¬S ⟨n,2,0⟩):Pull.ξ8 w' P.pb P.pm 10 N.pn (λ_=>-1) N.ak N.pL:=ξ6L h.pul hc h.put hs
theorem NAt.put'(h:NAt w o n b P N)(he:Ext w o o'):Own o' ⟨n,2,0⟩ (Pull.A2m P.pb P.pm):=h.put.ext he h.pul.blt
theorem NAt.A8n(h:NAt w o n b P N)(hc:Chg o S w w')(he:Ext w o o')(h0:∀g,S g->g.n≠0)(hs:¬S ⟨n,1,0⟩):ξN w' o' P.lv N.lt:=h.ltr.chg hc h.ltt hs h0 he
theorem NAt.ltt'(h:NAt w o n b P N)(he:Ext w o o'):Own o' ⟨n,1,0⟩ P.lv.ownBlock.toList:=h.ltt.ext he h.ltr.lt
end
theorem nobN(h:NAt w o n b P N):A5d w b:=by
 obtain⟨cs,h1,_⟩:=h.box;exact ξi h1 (by decide)
theorem NAt.A53(h:NAt w o n b P N)(j:Nat)(u:Value):Chg o (λg=>g=⟨n,0,0⟩) w (w.setCell ⟨b,j,none⟩ u):=
 Chg.A1j (bs:=[b]) ((Only.refl _ _).setCell (by simp) _) (by intro k hk;simp at hk;rw[hk];exact h.tag) (by intro k hk;simp at hk;rw[hk];exact nobN h)
theorem NAt.A46(h:NAt w o n b P N)(hn:n≠0)(j:Nat)(u:Value){N':Nd}(hc:∀cs:Array Value,A12 cs P N->A12 (cs.setIfInBounds j u) P N')(e1:N'.tr=N.tr)(e2:N'.sb=N.sb)(e3:N'.pn=N.pn)(e4:N'.ak=N.ak)(e5:N'.pL=N.pL)(e6:N'.lt=N.lt):NAt (w.setCell ⟨b,j,none⟩ u) o n b P N':=by
 have hg:=h.A53 j u;have he:=Ext.refl w o;have h0:∀g:Tg,g=⟨n,0,0⟩->g.n≠0:=by rintro g rfl;exact hn
 obtain⟨cs,h1,h2⟩:=h.box;refine⟨⟨_,heap_setCell_same w b j _ _ u h1,hc cs h2⟩,h.tag,?_,?_,h.smt,?_,?_,h.put,?_,h.ltt⟩
 ·rw[e1];intro i hi;exact h.A66 hg he hi (by simp)
 ·rw[e2];exact h.A7m hg (by simp)
 ·rw[e2];intro x hx;exact h.A67 hg he h0 hx (by simp)
 ·rw[e3,e4,e5];exact h.A7n hg (by simp)
 ·rw[e6];exact h.A8n hg he h0 (by simp)
theorem A12.A4u(h:A12 cs P N)(x:Int):A12 (cs.setIfInBounds 0 (.int .i64 x)) P { N with nw:=x }:=by
 have hz:=h.sz;refine⟨by simpa using hz,by rw[Ξb,if_pos rfl,if_pos (by omega)],?_,?_,?_,?_,?_,?_⟩
 ·rw[Ξb,if_neg (by omega)];exact h.c1
 ·intro i hi;rw[Ξb,if_neg (by omega)];exact h.ct i hi
 ·rw[Ξb,if_neg (by omega)];exact h.c10
 ·rw[Ξb,if_neg (by omega)];exact h.c11
 ·rw[Ξb,if_neg (by omega)];exact h.c12
 ·rw[Ξb,if_neg (by omega)];exact h.c13
theorem A12.A47(h:A12 cs P N)(x:Int):A12 (cs.setIfInBounds 11 (.int .i64 x)) P { N with ls:=x }:=by
 have hz:=h.sz;refine⟨by simpa using hz,?_,?_,?_,?_,by rw[Ξb,if_pos rfl,if_pos (by omega)],?_,?_⟩
 ·rw[Ξb,if_neg (by omega)];exact h.c0
 ·rw[Ξb,if_neg (by omega)];exact h.c1
 ·intro i hi;rw[Ξb,if_neg (by omega)];exact h.ct i hi
 ·rw[Ξb,if_neg (by omega)];exact h.c10
 ·rw[Ξb,if_neg (by omega)];exact h.c12
 ·rw[Ξb,if_neg (by omega)];exact h.c13
theorem NAt.A4u(h:NAt w o n b P N)(hn:n≠0)(x:Int):NAt (w.setCell ⟨b,0,none⟩ (.int .i64 x)) o n b P { N with nw:=x }:=
 h.A46 hn 0 _ (λcs hc=>hc.A4u x) rfl rfl rfl rfl rfl rfl
theorem NAt.A47(h:NAt w o n b P N)(hn:n≠0)(x:Int):NAt (w.setCell ⟨b,11,none⟩ (.int .i64 x)) o n b P { N with ls:=x }:=
 h.A46 hn 11 _ (λcs hc=>hc.A47 x) rfl rfl rfl rfl rfl rfl
theorem NAt.A5f(h:NAt w o n b P N)(hn:n≠0){lv:Value}{L:List (Int×List Nat)}(hl:ξN w o lv L)(ht:Own o ⟨n,1,0⟩ lv.ownBlock.toList):NAt (w.setCell ⟨b,13,none⟩ lv) o n b { P with lv:=lv } { N with lt:=L }:=by
 have hg:=h.A53 13 lv;have he:=Ext.refl w o;have h0:∀g:Tg,g=⟨n,0,0⟩->g.n≠0:=by rintro g rfl;exact hn
 obtain⟨cs,h1,h2⟩:=h.box;have hz:=h2.sz;refine⟨⟨_,heap_setCell_same w b 13 _ _ lv h1,?_⟩,h.tag,λi hi=>h.A66 hg he hi (by simp),h.A7m hg (by simp),h.smt,λx hx=>h.A67 hg he h0 hx (by simp),h.A7n hg (by simp),h.put,hl.chg hg ht (by simp) h0 he,ht⟩;refine⟨by simpa using hz,?_,?_,?_,?_,?_,?_,by rw[Ξb,if_pos rfl,if_pos (by omega)]⟩
 ·rw[Ξb,if_neg (by omega)];exact h2.c0
 ·rw[Ξb,if_neg (by omega)];exact h2.c1
 ·intro i hi;rw[Ξb,if_neg (by omega)];exact h2.ct i hi
 ·rw[Ξb,if_neg (by omega)];exact h2.c10
 ·rw[Ξb,if_neg (by omega)];exact h2.c11
 ·rw[Ξb,if_neg (by omega)];exact h2.c12
def A26(f:Nat->TP)(i:Nat)(x:TP):Nat->TP:=λk=>if k=i then x else f k
def A0f(f:Nat->Option Tr)(i:Nat)(x:Tr):Nat->Option Tr:=λk=>if k=i then some x else f k
def A32(f:Int->SP)(i:Int)(x:SP):Int->SP:=λk=>if k=i then x else f k
theorem NAt.A52(h:NAt w o n b P N)(hn:n≠0)(hi:i<8)(hl:A1h w Q t)(ht:Own o ⟨n,3,i⟩ (A0x Q t)):NAt (w.setCell ⟨b,2+i,none⟩ (.pointer (some ⟨Q.p,0,none⟩))) o n b { P with tp:=A26 P.tp i Q } { N with tr:=A0f N.tr i t }:=by
 have hg:=h.A53 (2+i) (.pointer (some ⟨Q.p,0,none⟩));have he:=Ext.refl w o;have h0:∀g:Tg,g=⟨n,0,0⟩->g.n≠0:=by rintro g rfl;exact hn
 obtain⟨cs,h1,h2⟩:=h.box;have hz:=h2.sz;refine⟨⟨_,heap_setCell_same w b (2+i) _ _ _ h1,?_⟩,h.tag,?_,h.A7m hg (by simp),h.smt,λx hx=>h.A67 hg he h0 hx (by simp),h.A7n hg (by simp),h.put,h.A8n hg he h0 (by simp),h.ltt⟩
 ·refine⟨by simpa using hz,?_,?_,?_,?_,?_,?_,?_⟩
  ·rw[Ξb,if_neg (by omega)];exact h2.c0
  ·rw[Ξb,if_neg (by omega)];exact h2.c1
  ·intro j hj;by_cases e:j=i
   ·subst e;rw[Ξb,if_pos rfl,if_pos (by omega)];simp[A0f,A26,tpv]
   ·rw[Ξb,if_neg (by omega),h2.ct j hj];simp[A0f,A26,e]
  ·rw[Ξb,if_neg (by omega)];exact h2.c10
  ·rw[Ξb,if_neg (by omega)];exact h2.c11
  ·rw[Ξb,if_neg (by omega)];exact h2.c12
  ·rw[Ξb,if_neg (by omega)];exact h2.c13
 ·intro j hj u hu;by_cases e:j=i
  ·subst e;simp only[A0f,if_pos]at hu;cases hu;simp only[A26,if_pos];exact⟨hl.chg hg ht (by simp),ht⟩
  ·simp only[A0f,if_neg e]at hu;simp only[A26,if_neg e];exact h.A66 hg he hj (by simp) u hu
theorem NAt.trk(h:NAt w o n b P N)(hn:n≠0)(hi:i<8)(hc:Chg o (λg=>g=⟨n,3,i⟩) w w')(he:Ext w o o'){t':Tr}(ht:N.tr i=some t)(hp:Q.p=(P.tp i).p)(hl:A1h w' Q t')(ho:Own o' ⟨n,3,i⟩ (A0x Q t')) :
 NAt w' o' n b { P with tp:=A26 P.tp i Q } { N with tr:=A0f N.tr i t' }:=by
 have h0:∀g:Tg,g=⟨n,3,i⟩->g.n≠0:=by rintro g rfl;exact hn
 obtain⟨cs,h1,h2⟩:=h.A99 hc (by simp);refine⟨⟨cs,h1,⟨h2.sz,h2.c0,h2.c1,?_,h2.c10,h2.c11,h2.c12,h2.c13⟩⟩,h.tag' he,?_,h.A7m hc (by simp),h.smt' he,λx hx=>h.A67 hc he h0 hx (by simp),h.A7n hc (by simp),h.put' he,h.A8n hc he h0 (by simp),h.ltt' he⟩
 ·intro j hj;rw[h2.ct j hj];by_cases e:j=i
  ·subst e;rw[ht];simp[A0f,A26,tpv,hp]
  ·simp[A0f,A26,e]
 ·intro j hj u hu;by_cases e:j=i
  ·subst e;simp only[A0f,if_pos]at hu;cases hu;simp only[A26,if_pos];exact⟨hl,ho⟩
  ·simp only[A0f,if_neg e]at hu;simp only[A26,if_neg e];exact h.A66 hc he hj (by simp;omega) u hu
theorem NAt.sub(h:NAt w o n b P N)(hn:n≠0){A B:List (Int×Sb)}{s s':Sb}(hs:N.sb=A++(x,s)::B)(hr:(ids N.sb).Pairwise λa b=>a<b)(hc:Chg o (λg=>g=⟨n,4,x⟩) w w')(he:Ext w o o'){Q:SP}(hp:Q.s=(P.sp x).s)(hl:A1q w' o' Q s')(ho:Own o' ⟨n,4,x⟩ (ξ6 Q)) :
 NAt w' o' n b { P with sp:=A32 P.sp x Q } { N with sb:=A++(x,s')::B }:=by
 have h0:∀g:Tg,g=⟨n,4,x⟩->g.n≠0:=by rintro g rfl;exact hn
 obtain⟨cs,h1,h2⟩:=h.A99 hc (by simp);have ae:ids (A++(x,s')::B)=ids N.sb:=by rw[hs];simp[ids]
 have ah:(A++(x,s')::B).length=N.sb.length:=by rw[hs];simp
 have ai:∀y∈A++B,y.1≠x:=by
  intro y hy e;rw[hs]at hr;simp only[ids,List.map_append,List.map_cons,List.pairwise_append,List.pairwise_cons]at hr;obtain⟨_,⟨h4,_⟩,h5⟩:=hr;rcases Ξe.1 hy with hy|hy
  ·have:=h5 y.1 (Ξi.2 ⟨y,hy,rfl⟩) x (by simp);omega
  ·have:=h4 y.1 (Ξi.2 ⟨y,hy,rfl⟩);omega
 refine⟨⟨cs,h1,⟨h2.sz,h2.c0,h2.c1,h2.ct,h2.c10,h2.c11,h2.c12,h2.c13⟩⟩,h.tag' he,λi hi=>h.A66 hc he hi (by simp),?_,h.smt' he,?_,h.A7n hc (by simp),h.put' he,h.A8n hc he h0 (by simp),h.ltt' he⟩
 ·obtain⟨D,k1,k2⟩:=h.A7m hc (by simp);rw[ah,ae];refine⟨D,k1,k2.ext ?_⟩;intro y hy;show _=(A32 P.sp x Q y).s;unfold A32;split
  ·rename_i e;rw[e,hp]
  ·rfl
 ·intro y hy;have aj:y=(x,s')∨y∈A++B:=by
   rcases Ξe.1 hy with hy|hy
   ·exact .inr (Ξe.2 (.inl hy))
   ·rcases Ξf.1 hy with hy|hy
    ·exact .inl hy
    ·exact .inr (Ξe.2 (.inr hy))
  rcases aj with rfl|hy
  ·simp only[A32,if_pos];exact⟨hl,ho⟩
  ·have e:=ai y hy;have am:y∈N.sb:=by
    rw[hs];rcases Ξe.1 hy with hy|hy
    ·exact Ξe.2 (.inl hy)
    ·exact Ξe.2 (.inr (Ξf.2 (.inr hy)))
   simp only[A32,if_neg e];exact h.A67 hc he h0 am (by simp[e])
theorem ξx{c:Nat}{j:Int}(h:Chg o (λg=>g=⟨n,c,j⟩) w w'):Chg o (mine n) w w':=h.mono (by rintro t rfl;rfl)
end Go.Proofs.YtpiamlgmadnepaaGreat.ND
