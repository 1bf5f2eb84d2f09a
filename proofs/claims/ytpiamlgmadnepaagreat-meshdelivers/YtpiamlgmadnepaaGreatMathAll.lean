/-
 What the proof needs.
-/
import Derived.Test.YtpiamlgmadnepaaGreatMemP
import Derived.Maps.RangeWalk
import Derived.Lib.SlKeysI
import Derived.Lib.SlicesCompact
set_option linter.unusedVariables false
namespace Go.Proofs.YtpiamlgmadnepaaGreat.PM
variable {B:List Nat}{l:Nat}
def fault(seq time layer level:Int)(n:Nat):Nat:=
 if 0<=seq/\seq<=65535/\0<=time/\time<=4294967295/\0<=layer/\layer<=3/\0<=level/\level<=127 then(if n<=1000 then 0 else 4)else 1
theorem ξs{seq time layer level:Int}{n:Nat}(h:fault seq time layer level n=0):∃s t l v:Nat,seq=s/\time=t/\layer=l/\level=v/\s<=65535/\t<=4294967295/\l<=3/\v<=127/\n<=1000:=by
 unfold fault at h;split at h
 ·rename_i hh;split at h
  ·exact⟨seq.toNat,time.toNat,layer.toNat,level.toNat,by omega,by omega,by omega,by omega,by omega,by omega,by omega,by omega,by omega⟩
  ·omega
 ·omega
def first(layer:Nat)(start:Bool):Nat:=128+layer+(if start then 32 else 0)
def head(seq time layer level:Nat)(start:Bool):List Nat:=
 [first layer start,level,seq/256,seq%256,time/16777216,time/65536%256,time/256%256,time%256]
theorem ξ8P{seq time layer level:Nat}(start:Bool)(hs:seq<=65535)(ht:time<=4294967295)(hl:layer<=3)(hv:level<=127):∀c∈head seq time layer level start,c<256:=by
 intro c hc;simp only[head,Ξf,List.not_mem_nil,or_false]at hc;rcases hc with rfl|rfl|rfl|rfl|rfl|rfl|rfl|rfl
 ·unfold first;split<;>omega
 all_goals omega
def good(x:Nat):Bool:=(decide (128<=x)&&decide (x<=131))||(decide (160<=x)&&decide (x<=163))
def A0y(B:List Nat):Nat:=
 if B.length<8 then 8 else if good (B.getD 0 0)&&decide (B.getD 1 0<=127)then(if B.length<=1008 then 0 else 4)else 2
theorem eight(h:8<=B.length):∃x0 x1 x2 x3 x4 x5 x6 x7 R,B=x0::x1::x2::x3::x4::x5::x6::x7::R:=by
 match B,h with
 | x0::x1::x2::x3::x4::x5::x6::x7::R,_=>exact⟨x0,x1,x2,x3,x4,x5,x6,x7,R,rfl⟩
theorem ξ6F(h:B.length<8):A0y B=8:=by unfold A0y;rw[if_pos h]
theorem ξ3n(x0 x1 x2 x3 x4 x5 x6 x7:Nat)(R:List Nat) :
 A0y (x0::x1::x2::x3::x4::x5::x6::x7::R)=if good x0&&decide (x1<=127)then(if R.length<=1000 then 0 else 4)else 2:=by
 unfold A0y;simp only[List.length_cons,List.getD_cons_zero,List.getD_cons_succ];rw[if_neg (by omega)];by_cases h:R.length<=1000
 ·rw[if_pos (by omega:R.length+1+1+1+1+1+1+1+1<=1008),if_pos h]
 ·rw[if_neg (by omega:¬R.length+1+1+1+1+1+1+1+1<=1008),if_neg h]
theorem ξ9V(s:Bool)(h:l<=3):good (first l s)=true:=by
 have:∀l:Fin 4,∀s:Bool,good (first l.val s)=true:=by decide
 exact this ⟨l,by omega⟩ s
theorem ξbP(s:Bool)(h:l<=3):first l s%4=l:=by
 have:∀l:Fin 4,∀s:Bool,first l.val s%4=l.val:=by decide
 exact this ⟨l,by omega⟩ s
theorem ξ7U(s:Bool)(h:l<=3):decide (160<=first l s)=s:=by
 have:∀l:Fin 4,∀s:Bool,decide (160<=first l.val s)=s:=by decide
 exact this ⟨l,by omega⟩ s
theorem ξdM(s:Bool)(h:l<=3):first l s<256:=by unfold first;split<;>omega
theorem ξbK{x:Nat}(h:good x=true):first (x%4) (decide (160<=x))=x/\x<256:=by
 have hx:x<164:=by
  simp only[good,Bool.or_eq_true,Bool.and_eq_true,decide_eq_true_eq]at h;omega
 have:∀x:Fin 164,good x.val=true->first (x.val%4) (decide (160<=x.val))=x.val:=by decide +kernel
 exact⟨this ⟨x,hx⟩ h,by omega⟩
theorem ξaW(seq time layer level:Nat)(start:Bool)(hs:seq<=65535)(ht:time<=4294967295)(hl:layer<=3) :
 ∃x0 x1 x2 x3 x4 x5 x6 x7,head seq time layer level start=[x0,x1,x2,x3,x4,x5,x6,x7]/\x0%4=layer/\decide (160<=x0)=start/\good x0=true/\x1=level/\x2*256+x3=seq/\((x4*256+x5)*256+x6)*256+x7=time:=
 ⟨_,_,_,_,_,_,_,_,rfl,ξbP start hl,ξ7U start hl,ξ9V start hl,rfl,by omega,by omega⟩
end Go.Proofs.YtpiamlgmadnepaaGreat.PM
namespace Go.Proofs.YtpiamlgmadnepaaGreat.RM
open Go RowKit Maps Mem
variable {x y n T:Int}{f b:Nat}{w w':World}{v:Value}{bs:List Nat}{kp:Int->Bool}{left:Lit->Bool}{P:Program}{k:TypeId}
structure Pk where
 s:Int
 t:Int
 l:Int
 q:Int
 st:Bool
 L:List Nat
 bv:Value
variable {p:Pk}
abbrev Its:=List (Int×Pk)
variable {M:Its}
def key(y:Int):Lit:=.int .i64 y
theorem key_inj(h:key x=key y):x=y:=by
 unfold key at h;injection h
def top(T y:Int):Int:=if T<y then y else T
def keeps(n T:Int)(M:Its):Its:=M.filter λi=>decide (T-n<i.1)
def has(M:Its)(y:Int):Bool:=M.any λi=>i.1==y
theorem ξn:has M y=true↔∃i∈M,i.1=y:=by
 simp[has]
theorem ξ13(h:has M y=false):∀i∈M,i.1≠y:=by
 intro i hi e;have:=ξn.2 ⟨i,hi,e⟩;rw[h]at this;cases this
structure Inv(n T:Int)(M:Its):Prop where
 n1:1<=n
 n2:n<=64
 t1:-1<=T
 t2:T<=1099511627776
 mem:∀i∈M,0<=i.1/\i.1<=T/\T-n<i.1
 one:M.Pairwise λa b=>a.1≠b.1
 tops:(T=-1/\M=[])∨∃i∈M,i.1=T
theorem ξ1n(h1:1<=n)(h2:n<=64):Inv n (-1) []:=
 ⟨h1,h2,by omega,by omega,by simp,List.Pairwise.nil,.inl ⟨rfl,rfl⟩⟩
theorem Inv.len(h:Inv n T M):(M.length:Int)<=n:=by
 have hn:(M.map λi=>(T-i.1).toNat).Nodup:=by
  rw[Ξs,List.pairwise_map];refine h.one.imp_of_mem ?_;intro a b ha hb ae e;have:=h.mem a ha;have:=h.mem b hb;omega
 have:=List.Nodup.length_le_of_subset (l₂:=List.range n.toNat) hn (by
  intro x hx;obtain⟨i,hi,rfl⟩:=Ξi.1 hx;have:=h.mem i hi;simp only[List.mem_range];omega)
 simp at this;have:=h.n1;omega
theorem ξ2b(h:Inv n T M)(p:Pk)(h0:0<=y)(h1:y<=1099511627776)(ho:T-n<y)(hh:has M y=false):Inv n (top T y) (keeps n (top T y) M++[(y,p)]):=by
 have ae:=ξ13 hh;obtain⟨n1,n2,t1,t2,hm,h5,h6⟩:=h;refine⟨n1,n2,?_,?_,?_,?_,?_⟩
 ·unfold top;split<;>omega
 ·unfold top;split<;>omega
 ·intro i hi;rcases Ξe.1 hi with hi|hi
  ·obtain⟨hi,hk⟩:=Ξj.1 hi;have:=hm i hi;simp only[decide_eq_true_eq]at hk;refine⟨this.1,?_,hk⟩;unfold top;split<;>omega
  ·simp only[Ξg]at hi;subst hi;unfold top;split<;>simp<;>omega
 ·rw[List.pairwise_append];refine⟨h5.filter _,by simp,?_⟩;intro a ha b hb;simp only[Ξg]at hb;subst hb;exact ae a (Ξj.1 ha).1
 ·right
  by_cases hu:T<y
  ·exact⟨(y,p),by simp,by simp[top,hu]⟩
  ·have ht:top T y=T:=by simp[top,hu]
   rcases h6 with⟨h6,_⟩|⟨i,hi,e⟩
   ·omega
   ·exact⟨i,Ξe.2 (.inl (Ξj.2 ⟨hi,by rw[ht];simp;omega⟩)),by rw[ht,e]⟩
theorem ξ9N(h:Inv n T M):keeps n T M=M:=by
 unfold keeps;rw[List.filter_eq_self];intro i hi;have:=h.mem i hi;simp;omega
def pf(n T y:Int)(f:Nat):Nat:=if y<0∨1099511627776<y then 1 else if f≠0 then f else if y<=T-n then 6 else 0
def px(n T y:Int)(M:Its)(f:Nat):Bool:=decide (pf n T y f=0)&&!has M y
def pT(n T y:Int)(M:Its)(f:Nat):Int:=if px n T y M f then top T y else T
def pM(n T y:Int)(M:Its)(f:Nat)(p:Pk):Its:=if px n T y M f then keeps n (top T y) M++[(y,p)]else M
theorem ξ1B(h:pf n T y f=0):0<=y/\y<=1099511627776/\f=0/\T-n<y:=by
 unfold pf at h;split at h
 ·omega
 ·split at h
  ·omega
  ·split at h
   ·omega
   ·rename_i h1 h2 h3;exact⟨by omega,by omega,by omega,by omega⟩
theorem ξ4B(h0:0<=y)(h1:y<=1099511627776)(hf:f=0)(ho:T-n<y):pf n T y f=0:=by
 unfold pf;rw[if_neg (by omega),if_neg (by omega),if_neg (by omega)]
theorem ξ57(h:px n T y M f=true):pf n T y f=0/\has M y=false:=by
 simpa[px]using h
theorem ξds(h:Inv n T M)(f:Nat)(p:Pk):Inv n (pT n T y M f) (pM n T y M f p):=by
 unfold pT pM;by_cases hx:px n T y M f=true
 ·obtain⟨h1,h2⟩:=ξ57 hx;obtain⟨k1,k2,_,k4⟩:=ξ1B h1;simp only[hx,if_true];exact ξ2b h p k1 k2 k4 h2
 ·simp only[hx];exact h
def low(T:Int)(M:Its):Int:=M.foldl (λa i=>min a i.1) T
theorem ξbt(T:Int)(M:Its):low T M<=T/\(∀i∈M,low T M<=i.1)/\(low T M=T∨∃i∈M,low T M=i.1):=by
 induction M generalizing T with
 | nil=>exact⟨Int.le_refl _,by simp,.inl rfl⟩
 | cons a M ih=>
   obtain⟨h1,h2,h3⟩:=ih (min T a.1);have e:low T (a::M)=low (min T a.1) M:=rfl;rw[e];refine⟨by omega,?_,?_⟩
   ·intro i hi;rcases Ξf.1 hi with rfl|hi
    ·omega
    ·exact h2 i hi
   ·rcases h3 with h3|⟨i,hi,h3⟩
    ·rcases Int.le_total T a.1 with hle|hle
     ·left;omega
     ·right;exact⟨a,by simp,by omega⟩
    ·right;exact⟨i,by simp[hi],h3⟩
theorem ξg6{m:Int}(h1:m<=T)(h2:∀i∈M,m<=i.1)(h3:m=T∨∃i∈M,m=i.1):m=low T M:=by
 obtain⟨k1,k2,k3⟩:=ξbt T M;have a:m<=low T M:=by
  rcases k3 with k3|⟨i,hi,k3⟩
  ·omega
  ·have:=h2 i hi;omega
 have b:low T M<=m:=by
  rcases h3 with h3|⟨i,hi,h3⟩
  ·omega
  ·have:=k2 i hi;omega
 omega
def A8w(w:World)(v:Value)(p:Pk):Prop:=
 ∃a m c,v=.agg #[.int .i64 p.s,.int .i64 p.t,.int .i64 p.l,.int .i64 p.q,.bool p.st,.slice a m c]/\w.ownsRow 0 5 1 (.slice a m c) m (cellsOf p.L)/\(∀x∈p.L,x<256)/\m<=1000
theorem ξv{base base' e size n:Nat}{xs:List Value}(h:w.ownsRow base e size v n xs)(hb:base'<=base):w.ownsRow base' e size v n xs:=by
 refine⟨h.1,?_⟩;rcases h.2 with h|⟨g,cap,cur,e,hg,r⟩
 ·exact .inl h
 ·exact .inr ⟨g,cap,cur,e,Nat.le_trans hb hg,r⟩
theorem A8w.only(h:A8w w v p)(ho:Only bs w w')(hb:∀k∈bs,∀cs fr,w.heap[k]?≠some (.cells cs 5 fr)):A8w w' v p:=by
 obtain⟨a,m,c,rfl,hr,hx,hm⟩:=h;refine⟨a,m,c,rfl,ho.owns hr ?_,hx,hm⟩;intro k hk hc;rcases hr.2 with⟨hn,_⟩|⟨g,cap,cur,e,_,hgg,_⟩
 ·rw[hn]at hk;simp[Value.ownBlock]at hk
 ·rw[e]at hk;simp[Value.ownBlock]at hk;subst hk;exact hb _ hc _ _ hgg
def pkR:Value->Option (DataW Value×List MemPlace)
 | .agg cs=>match cs.toList with
   | [.int .i64 _,.int .i64 _,.int .i64 _,.int .i64 _,.bool _,.slice _ _ _]=>some (.held (.agg cs),[])
   | _=>none
 | _=>none
theorem ξ6S(s t l q:Int)(st:Bool)(a:Option Addr)(m c:Nat):pkR (.agg #[.int .i64 s,.int .i64 t,.int .i64 l,.int .i64 q,.bool st,.slice a m c])=some (.held (.agg #[.int .i64 s,.int .i64 t,.int .i64 l,.int .i64 q,.bool st,.slice a m c]),[]):=rfl
theorem ξ8t{y:DataW Value×List MemPlace}(h:pkR v=some y):(∃s t l q st a m c,v=.agg #[.int .i64 s,.int .i64 t,.int .i64 l,.int .i64 q,.bool st,.slice a m c])/\y=(.held v,[]):=by
 unfold pkR at h;split at h
 ·rename_i cs;split at h
  ·rename_i s t l q st a m c hcs;refine⟨⟨s,t,l,q,st,a,m,c,?_⟩,(Option.some.inj h).symm⟩
   congr 1
   exact Array.toList_inj.1 hcs
  ·cases h
 ·cases h
def Keys(D:DataW Value)(M:Its):Prop:=∀k:Lit,Maps.has D k=true↔∃i∈M,k=key i.1
def A1g(w:World)(D:DataW Value)(M:Its):Prop:=∀i∈M,∃v,(∀zd,D.atKey (key i.1) zd=.held v)/\A8w w v i.2
theorem A1g.only{D:DataW Value}(h:A1g w D M)(ho:Only bs w w')(hb:∀k∈bs,∀cs fr,w.heap[k]?≠some (.cells cs 5 fr)):A1g w' D M:=by
 intro i hi;obtain⟨v,h1,h2⟩:=h i hi;exact⟨v,h1,h2.only ho hb⟩
theorem ξ1b:Keys (.map []) []:=by
 intro k;constructor
 ·intro h;simp[Maps.has]at h
 ·rintro⟨i,hi,_⟩;simp at hi
theorem Keys.at{D:DataW Value}(h:Keys D M)(y:Int):Maps.has D (key y)=has M y:=by
 rw[Bool.eq_iff_iff,h (key y),ξn];constructor
 ·rintro⟨i,hi,e⟩;exact⟨i,hi,(key_inj e).symm⟩
 ·rintro⟨i,hi,e⟩;exact⟨i,hi,by rw[e]⟩
theorem A14(y:Int):WideAt.IsKeyLit (key y):=trivial
theorem Keys.size{D:DataW Value}(h:Keys D M)(ht:∃es,D=.map es/\es.Pairwise (λp q=>p.1≠q.1)/\∀p∈es,WideAt.IsKeyLit p.1)(h1:M.Pairwise λa b=>a.1≠b.1):Maps.size D=M.length:=by
 obtain⟨es,rfl,hp,hl⟩:=ht;have n1:(es.map Prod.fst).Nodup:=by rw[Ξs,List.pairwise_map];exact hp
 have n2:(M.map λi=>key i.1).Nodup:=by
  rw[Ξs,List.pairwise_map];exact h1.imp λhab e=>hab (key_inj e)
 have s1:∀x∈es.map Prod.fst,x∈M.map λi=>key i.1:=by
  intro x hx;obtain⟨e,he,rfl⟩:=Ξi.1 hx;obtain⟨i,hi,h⟩:=(h e.1).1 (List.any_eq_true.2 ⟨e,he,WideAt.sameKey_self (hl e he)⟩);exact Ξi.2 ⟨i,hi,h.symm⟩
 have s2:∀x∈M.map (λi=>key i.1),x∈es.map Prod.fst:=by
  intro x hx;obtain⟨i,hi,rfl⟩:=Ξi.1 hx;obtain⟨e,he,hs⟩:=List.any_eq_true.1 ((h (key i.1)).2 ⟨i,hi,rfl⟩);exact Ξi.2 ⟨e,he,WideAt.sameKey_eq hs⟩
 have l1:=List.Nodup.length_le_of_subset n1 s1;have l2:=List.Nodup.length_le_of_subset n2 s2;simp at l1 l2;simp[Maps.size];omega
def cur(M:Its)(kp:Int->Bool)(left:Lit->Bool):Its:=M.filter λi=>kp i.1||left (key i.1)
theorem ξ2t{D:DataW Value}(h:Keys D M)(kp:Int->Bool):cur M kp (Maps.has D)=M:=by
 unfold cur;rw[List.filter_eq_self];intro i hi;simp[(h (key i.1)).2 ⟨i,hi,rfl⟩]
theorem ξ5X(hx:kp x=true):cur M kp (λz=>left z&&!z.sameKey (key x))=cur M kp left:=by
 unfold cur;apply List.filter_congr;intro i hi;by_cases e:i.1=x
 ·simp[e,hx]
 ·have hs:(key i.1).sameKey (key x)=false:=sameKey_ne (λh=>e (key_inj h));simp[hs]
theorem ξ8X(h:∀k,left k=false):cur M kp left=M.filter λi=>kp i.1:=by
 unfold cur;apply List.filter_congr;intro i hi;simp[h]
theorem ξ1K(hx:kp x=false)(i:Int×Pk):i∈cur M kp (λz=>left z&&!z.sameKey (key x))↔i∈cur M kp left/\i.1≠x:=by
 unfold cur;rw[Ξj,Ξj];by_cases e:i.1=x
 ·simp[e,hx,WideAt.sameKey_self (A14 x)]
 ·have hs:(key i.1).sameKey (key x)=false:=sameKey_ne (λh=>e (key_inj h));simp[hs,e]
theorem ξ3Z{D:DataW Value}(hx:kp x=false)(h:Keys D (cur M kp left)):Keys (D.del (key x)) (cur M kp (λz=>left z&&!z.sameKey (key x))):=by
 intro k;by_cases e:k=key x
 ·subst e;rw[has_del_same];constructor
  ·intro h;cases h
  ·rintro⟨i,hi,e⟩;exact absurd (key_inj e).symm ((ξ1K hx i).1 hi).2
 ·rw[has_del_other e,h k];constructor
  ·rintro⟨i,hi,rfl⟩;exact⟨i,(ξ1K hx i).2 ⟨hi,λh=>e (by rw[h])⟩,rfl⟩
  ·rintro⟨i,hi,rfl⟩;exact⟨i,((ξ1K hx i).1 hi).1,rfl⟩
theorem ξ7p{D:DataW Value}(hx:kp x=false)(h:A1g w D (cur M kp left)):A1g w (D.del (key x)) (cur M kp (λz=>left z&&!z.sameKey (key x))):=by
 intro i hi;obtain⟨h1,h2⟩:=(ξ1K hx i).1 hi;obtain⟨v,h3,h4⟩:=h i h1;exact⟨v,λzd=>by rw[atKey_del_other (λe=>h2 (key_inj e)),h3],h4⟩
theorem ξ1z{D:DataW Value}(hD:IsMap D)(h:Keys D M)(d:DataW Value)(p:Pk):Keys (D.put (key y) d) (M++[(y,p)]):=by
 intro k;by_cases e:k=key y
 ·subst e;rw[has_put_same hD (A14 y)];exact⟨λ_=>⟨(y,p),by simp,rfl⟩,λ_=>rfl⟩
 ·rw[has_put_other e,h k];constructor
  ·rintro⟨i,hi,rfl⟩;exact⟨i,by simp[hi],rfl⟩
  ·rintro⟨i,hi,rfl⟩;rcases Ξe.1 hi with hi|hi
   ·exact⟨i,hi,rfl⟩
   ·simp only[Ξg]at hi;subst hi;exact absurd rfl e
theorem ξ24{D:DataW Value}(hD:IsMap D)(h:A1g w D M)(hn:has M y=false)(hv:A8w w v p):A1g w (D.put (key y) (.held v)) (M++[(y,p)]):=by
 intro i hi;rcases Ξe.1 hi with hi|hi
 ·obtain⟨u,h1,h2⟩:=h i hi;exact⟨u,λzd=>by rw[atKey_put_other (λe=>ξ13 hn i hi (key_inj e)),h1],h2⟩
 ·simp only[Ξg]at hi;subst hi;exact⟨v,λzd=>atKey_put_same hD (A14 y) _ _,hv⟩
theorem tight{R:Value->Option (DataW Value×List MemPlace)}{n:Nat}{D:DataW Value}(h:w.ownsMap P k R b n D):w.ownsMap P k R b (Maps.size D) D:=by
 obtain⟨es,ae,hb,F,hs,rfl⟩:=h;refine⟨es,ae,hb,F,?_,rfl⟩;simp[Maps.size,length_sorted]
theorem ξd{R:Value->Option (DataW Value×List MemPlace)}{n:Nat}{D:DataW Value}(h:w.ownsMap P k R b n D):∃es c,w.heap[b]?=some (.map es c):=by
 obtain⟨es,ae,hb,_⟩:=h;exact⟨es,ae,hb⟩
theorem ξbH(h:has M y=false):has (keeps n T M) y=false:=by
 rw[Bool.eq_false_iff];intro hh;obtain⟨i,hi,e⟩:=ξn.1 hh;exact ξ13 h i (Ξj.1 hi).1 e
end Go.Proofs.YtpiamlgmadnepaaGreat.RM
namespace Go.Proofs.YtpiamlgmadnepaaGreat.GM
open Go RowKit Maps Mem
variable {y ag tr nw now T:Int}{P:Program}{k:TypeId}{w:World}{b n:Nat}
structure Lk where
 n:Int
 t:Int
 a:Int
variable {x:Lk}
abbrev Its:=List Lk
variable {M A B:Its}
def nums(M:Its):List Int:=M.map Lk.n
theorem ξd7(M:Its):(nums M).length=M.length:=by simp[nums]
def key(y:Int):Lit:=.int .i64 y
theorem key_inj{x:Int}(h:key x=key y):x=y:=by
 unfold key at h;injection h
def has(M:Its)(y:Int):Bool:=M.any λi=>i.n==y
theorem ξn:has M y=true↔∃i∈M,i.n=y:=by
 simp[has]
theorem ξ13(h:has M y=false):∀i∈M,i.n≠y:=by
 intro i hi e;have:=ξn.2 ⟨i,hi,e⟩;rw[h]at this;cases this
def Ris(M:Its):Prop:=M.Pairwise λa b=>a.n<b.n
theorem Ris.apart(h:Ris M):M.Pairwise λa b=>a.n≠b.n:=h.imp λh=>by omega
structure Inv(ag tr nw T:Int)(M:Its):Prop where
 a1:1<=ag
 a2:ag<=1000000
 r1:1<=tr
 r2:tr<=20
 n1:0<=nw
 n2:nw<=1000000
 t1:-1<=T
 t2:T<=1099511627776
 mem:∀x∈M,0<=x.n/\x.n<T/\0<=x.t/\x.t<=tr/\0<=x.a/\x.a<=nw
 ris:Ris M
 len:M.length<=200
theorem ξ1n(h1:1<=ag)(h2:ag<=1000000)(h3:1<=tr)(h4:tr<=20):Inv ag tr 0 (-1) []:=
 ⟨h1,h2,h3,h4,by omega,by omega,by omega,by omega,by simp,List.Pairwise.nil,by simp⟩
def tf(nw now:Int):Nat:=if now<0∨1000000<now then 1 else if now<nw then 6 else 0
theorem ξG(h:tf nw now=0):0<=now/\now<=1000000/\nw<=now:=by
 unfold tf at h;split at h
 ·omega
 ·split at h<;>omega
def lo(T y:Int):Int:=if T=-1∨y<=T then 0 else y-T-1
theorem ξ6i{T y:Int}:0<=lo T y:=by unfold lo;split<;>omega
def hf(nw T:Int)(M:Its)(y now:Int):Nat:=
 if tf nw now≠0 then tf nw now else if y<0∨1099511627776<y then 1 else if 200<(M.length:Int)+lo T y then 4 else 0
theorem ξfd(h:hf nw T M y now=0):tf nw now=0/\0<=y/\y<=1099511627776/\(M.length:Int)+lo T y<=200:=by
 unfold hf at h;split at h
 ·omega
 ·split at h
  ·omega
  ·split at h<;>omega
def fresh(T:Int)(k:Nat):Its:=(List.range k).map λ(j:Nat)=>⟨T+1+(j:Int),0,0⟩
theorem ξa1(T:Int)(k:Nat):fresh T (k+1)=fresh T k++[⟨T+1+(k:Int),0,0⟩]:=by
 simp[fresh,List.range_succ]
theorem ξ5S(T:Int)(k:Nat):(fresh T k).length=k:=by simp[fresh]
theorem ξ1D{k:Nat}:x∈fresh T k↔∃j:Nat,j<k/\x=⟨T+1+(j:Int),0,0⟩:=by
 simp only[fresh,Ξi,List.mem_range];constructor
 ·rintro⟨j,h,rfl⟩;exact⟨j,h,rfl⟩
 ·rintro⟨j,h,rfl⟩;exact⟨j,h,rfl⟩
def hx(T:Int)(M:Its)(y:Int):Bool:=decide (T<y)||has M y
def hT(T y:Int):Int:=if T<y then y else T
def hM(T:Int)(M:Its)(y:Int):Its:=if T<y then M++fresh T (lo T y).toNat else M.filter λi=>decide (i.n≠y)
theorem ξdu(h:Inv ag tr nw T M)(h0:hf nw T M y now=0):Inv ag tr now (hT T y) (hM T M y):=by
 obtain⟨k0,k1,k2,k3⟩:=ξfd h0;obtain⟨j1,j2,j3⟩:=ξG k0;have ae:=@ξ6i T y;have h1:=h.t1;have h2:=h.t2;have h3:=h.r1;unfold hT hM;by_cases c:T<y
 ·simp only[c,if_true];refine⟨h.a1,h.a2,h.r1,h.r2,j1,j2,by omega,k2,?_,?_,?_⟩
  ·intro x hx;rcases Ξe.1 hx with hx|hx
   ·have:=h.mem x hx;omega
   ·obtain⟨j,hj,rfl⟩:=ξ1D.1 hx;have e:lo T y=y-T-1:=by
     unfold lo at hj ⊢;split at hj
     ·simp at hj
     ·rename_i q;rw[if_neg q]
    simp only;omega
  ·unfold Ris;rw[List.pairwise_append];refine⟨h.ris,?_,?_⟩
   ·unfold fresh;rw[List.pairwise_map];exact List.pairwise_lt_range.imp λq=>by show(_:Int)<_;simp only;omega
   ·intro a ha b hb;have:=h.mem a ha;obtain⟨j,hj,rfl⟩:=ξ1D.1 hb;simp only;omega
  ·rw[Ξh,ξ5S];omega
 ·simp only[c,if_false];refine⟨h.a1,h.a2,h.r1,h.r2,j1,j2,h1,h2,?_,h.ris.filter _,?_⟩
  ·intro x hx;have:=h.mem x (Ξj.1 hx).1;omega
  ·have:=List.length_filter_le (λi:Lk=>decide (i.n≠y)) M;have:=h.len;omega
def stays(ag now:Int)(x:Lk):Bool:=decide (0<x.t)&&decide (now-x.a<ag)
def gives(ag tr now:Int)(x:Lk):Bool:=!stays ag now x&&decide (x.t=tr)
def asks(ag tr now:Int)(x:Lk):Bool:=!stays ag now x&&!decide (x.t=tr)
def A07(ag tr now:Int)(M:Its):List Int:=nums (M.filter (asks ag tr now))
def A0q(ag tr now:Int)(M:Its):List Int:=nums (M.filter (gives ag tr now))
def next(ag tr now:Int)(x:Lk):Lk:=if asks ag tr now x then⟨x.n,x.t+1,now⟩else x
def dM(ag tr now:Int)(M:Its):Its:=(M.filter λx=>!gives ag tr now x).map (next ag tr now)
theorem ξ2G(ag tr now:Int)(x:Lk):(next ag tr now x).n=x.n:=by unfold next;split<;>rfl
theorem ξ7s(ag tr now:Int)(M K:Its):dM ag tr now (M++K)=dM ag tr now M++dM ag tr now K:=by simp[dM]
theorem ξ1p(ag tr now:Int)(M K:Its):A07 ag tr now (M++K)=A07 ag tr now M++A07 ag tr now K:=by simp[A07,nums]
theorem ξ3B(ag tr now:Int)(M K:Its):A0q ag tr now (M++K)=A0q ag tr now M++A0q ag tr now K:=by simp[A0q,nums]
theorem ξ5G(h:stays ag now x=true):dM ag tr now [x]=[x]/\A07 ag tr now [x]=[]/\A0q ag tr now [x]=[]:=by
 simp[dM,A07,A0q,nums,gives,asks,next,h]
theorem ξ3r(h:stays ag now x=false)(h2:x.t=tr):dM ag tr now [x]=[]/\A07 ag tr now [x]=[]/\A0q ag tr now [x]=[x.n]:=by
 simp[dM,A07,A0q,nums,gives,asks,h,h2]
theorem ξ4d(h:stays ag now x=false)(h2:x.t≠tr):dM ag tr now [x]=[⟨x.n,x.t+1,now⟩]/\A07 ag tr now [x]=[x.n]/\A0q ag tr now [x]=[]:=by
 simp[dM,A07,A0q,nums,gives,asks,next,h,h2]
theorem ξfa(h:Inv ag tr nw T M)(h0:tf nw now=0):Inv ag tr now T (dM ag tr now M):=by
 obtain⟨j1,j2,j3⟩:=ξG h0;refine⟨h.a1,h.a2,h.r1,h.r2,j1,j2,h.t1,h.t2,?_,?_,?_⟩
 ·intro x hx;obtain⟨y,hy,rfl⟩:=Ξi.1 hx;obtain⟨hy,hg⟩:=Ξj.1 hy;have:=h.mem y hy;unfold next;split
  ·rename_i ha;simp[asks]at ha;simp only;omega
  ·omega
 ·unfold Ris dM;rw[List.pairwise_map];exact(h.ris.filter _).imp λq=>by rw[ξ2G,ξ2G];exact q
 ·have:=List.length_filter_le (λx=>!gives ag tr now x) M;have:=h.len;simp only[dM,Ξm];omega
theorem ξ5h(ag tr now:Int)(M:Its):(A07 ag tr now M).length<=M.length:=by
 simp only[A07,nums,Ξm];exact List.length_filter_le _ _
theorem ξdH(ag tr now:Int)(M:Its):(A0q ag tr now M).length<=M.length:=by
 simp only[A0q,nums,Ξm];exact List.length_filter_le _ _
def hB(nw T:Int)(M:Its)(y now:Int):Bool:=decide (hf nw T M y now=0)&&hx T M y
def hN(nw T:Int)(M:Its)(y now:Int):Int:=if hf nw T M y now=0 then now else nw
def hU(nw T:Int)(M:Its)(y now:Int):Int:=if hf nw T M y now=0 then hT T y else T
def hL(nw T:Int)(M:Its)(y now:Int):Its:=if hf nw T M y now=0 then hM T M y else M
theorem ξbB(h:Inv ag tr nw T M):Inv ag tr (hN nw T M y now) (hU nw T M y now) (hL nw T M y now):=by
 unfold hN hU hL;by_cases h0:hf nw T M y now=0
 ·simp only[h0,if_true];exact ξdu h h0
 ·simp only[h0,if_false];exact h
def lv(x:Lk):Value:=.agg #[.int .i64 x.t,.int .i64 x.a]
def akR:Value->Option (DataW Value×List MemPlace)
 | .agg cs=>match cs.toList with
   | [.int .i64 _,.int .i64 _]=>some (.held (.agg cs),[])
   | _=>none
 | _=>none
theorem ξ2Q(t a:Int):akR (.agg #[.int .i64 t,.int .i64 a])=some (.held (.agg #[.int .i64 t,.int .i64 a]),[]):=rfl
theorem ξ3P{v:Value}{y:DataW Value×List MemPlace}(h:akR v=some y):(∃t a,v=.agg #[.int .i64 t,.int .i64 a])/\y=(.held v,[]):=by
 unfold akR at h;split at h
 ·rename_i cs;split at h
  ·rename_i t a hcs;refine⟨⟨t,a,?_⟩,(Option.some.inj h).symm⟩
   congr 1
   exact Array.toList_inj.1 hcs
  ·cases h
 ·cases h
def Keys(D:DataW Value)(M:Its):Prop:=∀k:Lit,Maps.has D k=true↔∃i∈M,k=key i.n
def A1g(D:DataW Value)(M:Its):Prop:=∀i∈M,∀zd,D.atKey (key i.n) zd=.held (lv i)
theorem ξ1b:Keys (.map []) []:=by
 intro k;constructor
 ·intro h;simp[Maps.has]at h
 ·rintro⟨i,hi,_⟩;simp at hi
theorem Keys.at{D:DataW Value}(h:Keys D M)(y:Int):Maps.has D (key y)=has M y:=by
 rw[Bool.eq_iff_iff,h (key y),ξn];constructor
 ·rintro⟨i,hi,e⟩;exact⟨i,hi,(key_inj e).symm⟩
 ·rintro⟨i,hi,e⟩;exact⟨i,hi,by rw[e]⟩
theorem A14(y:Int):WideAt.IsKeyLit (key y):=trivial
theorem Keys.size{D:DataW Value}(h:Keys D M)(ht:∃es,D=.map es/\es.Pairwise (λp q=>p.1≠q.1)/\∀p∈es,WideAt.IsKeyLit p.1)(h1:M.Pairwise λa b=>a.n≠b.n):Maps.size D=M.length:=by
 obtain⟨es,rfl,hp,hl⟩:=ht;have n1:(es.map Prod.fst).Nodup:=by rw[Ξs,List.pairwise_map];exact hp
 have n2:(M.map λi=>key i.n).Nodup:=by
  rw[Ξs,List.pairwise_map];exact h1.imp λhab e=>hab (key_inj e)
 have s1:∀x∈es.map Prod.fst,x∈M.map λi=>key i.n:=by
  intro x hx;obtain⟨e,he,rfl⟩:=Ξi.1 hx;obtain⟨i,hi,h⟩:=(h e.1).1 (List.any_eq_true.2 ⟨e,he,WideAt.sameKey_self (hl e he)⟩);exact Ξi.2 ⟨i,hi,h.symm⟩
 have s2:∀x∈M.map (λi=>key i.n),x∈es.map Prod.fst:=by
  intro x hx;obtain⟨i,hi,rfl⟩:=Ξi.1 hx;obtain⟨e,he,hs⟩:=List.any_eq_true.1 ((h (key i.n)).2 ⟨i,hi,rfl⟩);exact Ξi.2 ⟨e,he,WideAt.sameKey_eq hs⟩
 have l1:=List.Nodup.length_le_of_subset n1 s1;have l2:=List.Nodup.length_le_of_subset n2 s2;simp at l1 l2;simp[Maps.size];omega
theorem Keys.perm{R:Value->Option (DataW Value×List MemPlace)}{D:DataW Value}(h:Keys D M)(hown:w.ownsMap P k R b n D)(K:Keyed P k)(hk:P.underlying k=some (.int .i64))(h1:Ris M):(nums M).Perm (intKeys D):=by
 obtain⟨es,hD,ah,_⟩:=hown.entries K;obtain⟨ai,ae,aj⟩:=hown.keysOf;obtain rfl:es=ai:=by rw[hD]at ae;simpa using ae
 subst hD;refine perm_intKeys ah (λp hp=>by obtain⟨v,hv⟩:=aj p hp;obtain⟨x,_,hx,_⟩:=Maps.keyOf_i64 hk hv;exact⟨x,hx⟩) ?_ (λx=>?_)
 ·rw[Ξs,nums,List.pairwise_map];exact h1.apart
 ·rw[show Lit.int .i64 x=key x from rfl,h (key x),nums,Ξi];constructor
  ·rintro⟨i,hi,rfl⟩;exact⟨i,hi,rfl⟩
  ·rintro⟨i,hi,e⟩;exact⟨i,hi,(key_inj e).symm⟩
theorem ξ3V(h:Ris M){ss:List Int}(hp:ss.Perm (nums M)):ss.mergeSort (λx y=>decide (x<=y))=nums M:=by
 have:=mergeSort_of_perm_i hp;refine this.trans (List.mergeSort_of_pairwise ?_);rw[nums,List.pairwise_map];exact h.imp λq=>by simp;omega
theorem ξ5Z(h:Ris (A++x::B)):∀i∈A++B,i.n≠x.n:=by
 unfold Ris at h;rw[List.pairwise_append,List.pairwise_cons]at h;obtain⟨h1,⟨h2,h3⟩,h4⟩:=h;intro i hi;rcases Ξe.1 hi with hi|hi
 ·have:=h4 i hi x (by simp);omega
 ·have:=h2 i hi;omega
theorem ξdl{D:DataW Value}(h:Keys D (A++x::B))(hr:∀i∈A++B,i.n≠x.n):Keys (D.del (key x.n)) (A++B):=by
 intro k;by_cases e:k=key x.n
 ·subst e;rw[has_del_same];constructor
  ·intro h;cases h
  ·rintro⟨i,hi,e⟩;exact absurd (key_inj e).symm (hr i hi)
 ·rw[has_del_other e,h k];constructor
  ·rintro⟨i,hi,rfl⟩;simp only[Ξe,Ξf]at hi;rcases hi with hi|rfl|hi
   ·exact⟨i,by simp[hi],rfl⟩
   ·exact absurd rfl e
   ·exact⟨i,by simp[hi],rfl⟩
  ·rintro⟨i,hi,rfl⟩;refine⟨i,?_,rfl⟩;rcases Ξe.1 hi with hi|hi<;>simp[hi]
theorem ξbU{D:DataW Value}(h:A1g D (A++x::B))(hr:∀i∈A++B,i.n≠x.n):A1g (D.del (key x.n)) (A++B):=by
 intro i hi zd;rw[atKey_del_other (λe=>hr i hi (key_inj e))];refine h i ?_ zd;rcases Ξe.1 hi with hi|hi<;>simp[hi]
theorem ξdk{D:DataW Value}{y:Lk}(hD:IsMap D)(h:Keys D (A++x::B))(hy:y.n=x.n)(d:DataW Value):Keys (D.put (key x.n) d) (A++y::B):=by
 intro k;by_cases e:k=key x.n
 ·subst e;rw[has_put_same hD (A14 _)];exact⟨λ_=>⟨y,by simp,by rw[hy]⟩,λ_=>rfl⟩
 ·rw[has_put_other e,h k];constructor
  ·rintro⟨i,hi,rfl⟩;simp only[Ξe,Ξf]at hi;rcases hi with hi|rfl|hi
   ·exact⟨i,by simp[hi],rfl⟩
   ·exact absurd rfl e
   ·exact⟨i,by simp[hi],rfl⟩
  ·rintro⟨i,hi,rfl⟩;simp only[Ξe,Ξf]at hi;rcases hi with hi|rfl|hi
   ·exact⟨i,by simp[hi],rfl⟩
   ·exact absurd (by rw[hy]) e
   ·exact⟨i,by simp[hi],rfl⟩
theorem ξbT{D:DataW Value}{y:Lk}(hD:IsMap D)(h:A1g D (A++x::B))(hy:y.n=x.n)(hr:∀i∈A++B,i.n≠x.n):A1g (D.put (key x.n) (.held (lv y))) (A++y::B):=by
 intro i hi zd;simp only[Ξe,Ξf]at hi;rcases hi with hi|rfl|hi
 ·rw[atKey_put_other (λe=>hr i (by simp[hi]) (key_inj e))];exact h i (by simp[hi]) zd
 ·rw[hy];exact atKey_put_same hD (A14 _) _ _
 ·rw[atKey_put_other (λe=>hr i (by simp[hi]) (key_inj e))];exact h i (by simp[hi]) zd
theorem ξ1z{D:DataW Value}(hD:IsMap D)(h:Keys D M)(x:Lk)(d:DataW Value):Keys (D.put (key x.n) d) (M++[x]):=by
 intro k;by_cases e:k=key x.n
 ·subst e;rw[has_put_same hD (A14 _)];exact⟨λ_=>⟨x,by simp,rfl⟩,λ_=>rfl⟩
 ·rw[has_put_other e,h k];constructor
  ·rintro⟨i,hi,rfl⟩;exact⟨i,by simp[hi],rfl⟩
  ·rintro⟨i,hi,rfl⟩;rcases Ξe.1 hi with hi|hi
   ·exact⟨i,hi,rfl⟩
   ·simp only[Ξg]at hi;subst hi;exact absurd rfl e
theorem ξ24{D:DataW Value}(hD:IsMap D)(h:A1g D M)(hr:∀i∈M,i.n≠x.n):A1g (D.put (key x.n) (.held (lv x))) (M++[x]):=by
 intro i hi zd;rcases Ξe.1 hi with hi|hi
 ·rw[atKey_put_other (λe=>hr i hi (key_inj e))];exact h i hi zd
 ·simp only[Ξg]at hi;subst hi;exact atKey_put_same hD (A14 _) _ _
theorem ξ2x{D:DataW Value}(h:Keys D M)(y:Int):Keys (D.del (key y)) (M.filter λi=>decide (i.n≠y)):=by
 intro k;by_cases e:k=key y
 ·subst e;rw[has_del_same];constructor
  ·intro h;cases h
  ·rintro⟨i,hi,e⟩;have:=(Ξj.1 hi).2;simp at this;exact absurd (key_inj e).symm this
 ·rw[has_del_other e,h k];constructor
  ·rintro⟨i,hi,rfl⟩;exact⟨i,Ξj.2 ⟨hi,by simp;exact λh=>e (by rw[h])⟩,rfl⟩
  ·rintro⟨i,hi,rfl⟩;exact⟨i,(Ξj.1 hi).1,rfl⟩
theorem ξ2k{D:DataW Value}(h:A1g D M)(y:Int):A1g (D.del (key y)) (M.filter λi=>decide (i.n≠y)):=by
 intro i hi zd;obtain⟨h1,h2⟩:=Ξj.1 hi;simp at h2;rw[atKey_del_other (λe=>h2 (key_inj e))];exact h i h1 zd
theorem tight{R:Value->Option (DataW Value×List MemPlace)}{D:DataW Value}(h:w.ownsMap P k R b n D):w.ownsMap P k R b (Maps.size D) D:=by
 obtain⟨es,ae,hb,F,hs,rfl⟩:=h;refine⟨es,ae,hb,F,?_,rfl⟩;simp[Maps.size,length_sorted]
theorem ξd{R:Value->Option (DataW Value×List MemPlace)}{D:DataW Value}(h:w.ownsMap P k R b n D):∃es c,w.heap[b]?=some (.map es c):=by
 obtain⟨es,ae,hb,_⟩:=h;exact⟨es,ae,hb⟩
end Go.Proofs.YtpiamlgmadnepaaGreat.GM
namespace Go.Proofs.YtpiamlgmadnepaaGreat.OM
open Go RowKit Maps Mem
variable {x y nw nx now od wt:Int}{f base e n b z:Nat}{v:Value}{w w':World}{bs:List Nat}{P:Program}{k:TypeId}
structure Pk where
 s:Int
 t:Int
 l:Int
 q:Int
 st:Bool
 L:List Nat
 bv:Value
structure Kp where
 n:Int
 g:Bool
 p:Pk
 a:Int
abbrev Its:=List Kp
variable {M:Its}
def zpk:Pk:=⟨0,0,0,0,false,[],.slice none 0 0⟩
def gone(y a:Int):Kp:=⟨y,true,zpk,a⟩
def key(y:Int):Lit:=.int .i64 y
theorem key_inj(h:key x=key y):x=y:=by
 unfold key at h;injection h
def has(M:Its)(y:Int):Bool:=M.any λi=>i.n==y
theorem ξn:has M y=true↔∃i∈M,i.n=y:=by
 simp[has]
theorem ξ13(h:has M y=false):∀i∈M,i.n≠y:=by
 intro i hi e;have:=ξn.2 ⟨i,hi,e⟩;rw[h]at this;cases this
theorem ξg3(h:∀i∈M,i.n≠y):has M y=false:=by
 rw[Bool.eq_false_iff];intro hh;obtain⟨i,hi,e⟩:=ξn.1 hh;exact h i hi e
def Apart(M:Its):Prop:=M.Pairwise λa b=>a.n≠b.n
structure Inv(nw nx:Int)(M:Its):Prop where
 c1:0<=nw
 c2:nw<=1000000
 x1:-1<=nx
 x2:nx<=1099511627777
 mem:∀i∈M,0<=i.n/\nx<=i.n/\i.n<nx+200/\i.n<=1099511627776/\0<=i.a/\i.a<=nw
 one:Apart M
 non:nx=-1->M=[]
theorem ξ1n:Inv 0 (-1) []:=⟨by omega,by omega,by omega,by omega,by simp,List.Pairwise.nil,λ_=>rfl⟩
theorem Inv.len(h:Inv nw nx M):M.length<=200:=by
 have hn:(M.map λi=>(i.n-nx).toNat).Nodup:=by
  rw[Ξs,List.pairwise_map];refine h.one.imp_of_mem ?_;intro a b ha hb ae e;have:=h.mem a ha;have:=h.mem b hb;omega
 have:=List.Nodup.length_le_of_subset (l₂:=List.range 200) hn (by
  intro x hx;obtain⟨i,hi,rfl⟩:=Ξi.1 hx;have:=h.mem i hi;simp only[List.mem_range];omega)
 simpa using this
theorem ξ8L(h:Inv nw nx M)(x:Kp)(hw:nw<=now)(h6:now<=1000000)(h0:0<=x.n)(h1:x.n<=1099511627776)(hx:nx<=x.n)(hf:x.n<nx+200)(hn:nx≠-1)(ha:x.a=now)(hh:has M x.n=false):Inv now nx (M++[x]):=by
 have c1:=h.c1;refine⟨by omega,h6,h.x1,h.x2,?_,?_,λe=>absurd e hn⟩
 ·intro i hi;rcases Ξe.1 hi with hi|hi
  ·have:=h.mem i hi;omega
  ·simp only[Ξg]at hi;subst hi;omega
 ·unfold Apart;rw[List.pairwise_append];refine⟨h.one,by simp,?_⟩;intro i hi b hb;simp only[Ξg]at hb;subst hb;exact ξ13 hh i hi
theorem Inv.later(h:Inv nw nx M)(hw:nw<=now)(h6:now<=1000000):Inv now nx M:=by
 have c1:=h.c1;exact⟨by omega,h6,h.x1,h.x2,λi hi=>by have:=h.mem i hi;omega,h.one,h.non⟩
def tf(nw now:Int):Nat:=if now<0∨1000000<now then 1 else if now<nw then 6 else 0
theorem ξG(h:tf nw now=0):0<=now/\now<=1000000/\nw<=now:=by
 unfold tf at h;split at h
 ·omega
 ·split at h<;>omega
theorem ξgl(h0:0<=now)(h1:now<=1000000)(h2:nw<=now):tf nw now=0:=by
 unfold tf;rw[if_neg (by omega),if_neg (by omega)]
def fx(nx y:Int):Int:=if nx=-1 then y else nx
def far(nx y:Int):Bool:=decide (nx≠-1)&&decide (200<=y-nx)
def pf(nw nx y now:Int)(f:Nat):Nat:=
 if tf nw now≠0 then tf nw now else if y<0∨1099511627776<y then 1 else if f≠0 then f else if far nx y then 4 else 0
def kx(nx y:Int)(M:Its):Bool:=decide (nx<=y)&&!has M y
def px(nw nx y now:Int)(M:Its)(f:Nat):Bool:=decide (pf nw nx y now f=0)&&kx (fx nx y) y M
def pW(nw nx y now:Int)(f:Nat):Int:=if pf nw nx y now f=0 then now else nw
def pX(nw nx y now:Int)(f:Nat):Int:=if pf nw nx y now f=0 then fx nx y else nx
def pM(nw nx y now:Int)(M:Its)(f:Nat)(p:Pk):Its:=if px nw nx y now M f then M++[⟨y,false,p,now⟩]else M
theorem ξ1B(h:pf nw nx y now f=0):tf nw now=0/\0<=y/\y<=1099511627776/\f=0/\far nx y=false:=by
 unfold pf at h;split at h
 ·omega
 ·split at h
  ·omega
  ·split at h
   ·omega
   ·split at h
    ·omega
    ·rename_i h1 h2 h3 h4;exact⟨by omega,by omega,by omega,by omega,by simpa using h4⟩
theorem ξ4B(h1:tf nw now=0)(h2:0<=y)(h3:y<=1099511627776)(h4:f=0)(h5:far nx y=false):pf nw nx y now f=0:=by
 unfold pf;rw[if_neg (by omega),if_neg (by omega),if_neg (by omega),h5];rfl
theorem ξbS(h:far nx y=false):nx=-1∨y<nx+200:=by
 simp[far]at h;omega
theorem ξ7c(h:Inv nw nx M)(f:Nat)(p:Pk):Inv (pW nw nx y now f) (pX nw nx y now f) (pM nw nx y now M f p):=by
 unfold pW pX pM px;by_cases h0:pf nw nx y now f=0
 ·obtain⟨k1,k2,k3,k4,k5⟩:=ξ1B h0;obtain⟨j1,j2,j3⟩:=ξG k1;have ae:=h.x1;simp only[h0,if_true,decide_true,Bool.true_and];have hI:Inv nw (fx nx y) M:=by
   unfold fx;split
   ·rename_i e;have hM:=h.non e;subst hM;exact⟨h.c1,h.c2,by omega,by omega,by simp,List.Pairwise.nil,λ_=>rfl⟩
   ·exact h
  by_cases hk:kx (fx nx y) y M=true
  ·simp only[hk,if_true];simp only[kx,Bool.and_eq_true,decide_eq_true_eq,Bool.not_eq_true']at hk;refine ξ8L hI _ j3 j2 k2 k3 hk.1 ?_ ?_ rfl hk.2
   ·have:=ξbS k5;show y<fx nx y+200;unfold fx;split<;>omega
   ·unfold fx;split<;>omega
  ·simp only[hk];exact hI.later j3 j2
 ·simp only[h0,if_false,decide_false,Bool.false_and];exact h
def gf(nw nx y now:Int):Nat:=if tf nw now≠0 then tf nw now else if y<0∨1099511627776<y then 1 else if nx=-1 then 6 else 0
def gx(nw nx y now:Int)(M:Its):Bool:=decide (gf nw nx y now=0)&&(!far nx y&&kx nx y M)
def gW(nw nx y now:Int):Int:=if gf nw nx y now=0 then now else nw
def gM(nw nx y now:Int)(M:Its):Its:=if gx nw nx y now M then M++[gone y now]else M
theorem ξfj(h:gf nw nx y now=0):tf nw now=0/\0<=y/\y<=1099511627776/\nx≠-1:=by
 unfold gf at h;split at h
 ·omega
 ·split at h
  ·omega
  ·split at h
   ·omega
   ·rename_i h1 h2 h3;exact⟨by omega,by omega,by omega,h3⟩
theorem ξdv(h:Inv nw nx M):Inv (gW nw nx y now) nx (gM nw nx y now M):=by
 unfold gW gM gx;by_cases h0:gf nw nx y now=0
 ·obtain⟨k1,k2,k3,k4⟩:=ξfj h0;obtain⟨j1,j2,j3⟩:=ξG k1;simp only[h0,if_true,decide_true,Bool.true_and];by_cases hk:(!far nx y&&kx nx y M)=true
  ·simp only[hk,if_true];simp only[kx,Bool.and_eq_true,decide_eq_true_eq,Bool.not_eq_true']at hk;have:=ξbS hk.1;exact ξ8L h _ j3 j2 k2 k3 hk.2.1 (by show y<nx+200;omega) k4 rfl hk.2.2
  ·simp only[hk];exact h.later j3 j2
 ·simp only[h0,if_false,decide_false,Bool.false_and];exact h
def late(wt now:Int)(i:Kp):Bool:=decide (wt<=now-i.a)
structure Od(wt now:Int)(M:Its)(od:Int):Prop where
 low:-1<=od
 all:∀i∈M,late wt now i=true->i.n<=od
 one:od=-1∨∃i∈M,late wt now i=true/\od=i.n
def goes(M:Its)(od x:Int):Bool:=has M x||decide (x<od)
structure Stop(M:Its)(od nx:Int)(K:Nat):Prop where
 all:∀j:Nat,j<K->goes M od (nx+j)=true
 stop:goes M od (nx+K)=false
theorem ξcD(f:Nat):∀nx:Int,(∀y,nx+f<=y->goes M od y=false)->∃K,K<=f/\Stop M od nx K:=by
 induction f with
 | zero=>
   intro nx h;exact⟨0,Ξo _,λj hj=>by omega,h _ (by simp)⟩
 | succ f ih=>
   intro nx h;by_cases c:goes M od nx=true
   ·obtain⟨K,hK,h1,h2⟩:=ih (nx+1) (λy hy=>h y (by omega));refine⟨K+1,by omega,λj hj=>?_,?_⟩
    ·cases j with
     | zero=>simpa using c
     | succ j=>
       have:=h1 j (by omega);rw[show nx+((j+1:Nat):Int)=nx+1+(j:Int)by omega];exact this
    ·rw[show nx+((K+1:Nat):Int)=nx+1+(K:Int)by omega];exact h2
   ·exact⟨0,by omega,λj hj=>by omega,by simpa using c⟩
theorem ξeu(h:Inv nw nx M)(ho:Od wt now M od):∃K,K<=200/\Stop M od nx K:=by
 refine ξcD 200 nx (λy hy=>?_);have hx:=h.x1;simp only[goes,Bool.or_eq_false_iff,decide_eq_false_iff_not];refine⟨ξg3 λi hi e=>?_,?_⟩
 ·have:=h.mem i hi;omega
 ·rcases ho.one with e|⟨i,hi,_,e⟩
  ·omega
  ·have:=h.mem i hi;omega
def itm(M:Its)(y:Int):Kp:=(M.find? λi=>i.n==y).getD (gone y 0)
theorem ξ2J(h:has M y=false):itm M y=gone y 0:=by
 have:(M.find? λi=>i.n==y)=none:=by
  rw[List.find?_eq_none];intro i hi;have:=ξ13 h i hi;simpa using this
 simp[itm,this]
theorem ξ2K(h:has M y=true):itm M y∈M/\(itm M y).n=y:=by
 obtain⟨i,hi,e⟩:=ξn.1 h;cases hf:M.find? (λi=>i.n==y)with
 | none=>exact absurd (List.find?_eq_none.1 hf i hi) (by simp[e])
 | some j=>
   have:itm M y=j:=by simp[itm,hf]
   rw[this];exact⟨List.mem_of_find?_eq_some hf,by simpa using List.find?_some hf⟩
theorem ξee(M:Its)(y:Int):(itm M y).n=y:=by
 by_cases h:has M y=true
 ·exact(ξ2K h).2
 ·rw[ξ2J (by simpa using h)];rfl
theorem ξ4J(h1:Apart M){i:Kp}(hi:i∈M):itm M i.n=i:=by
 obtain⟨hj,e⟩:=ξ2K (ξn.2 ⟨i,hi,rfl⟩);generalize itm M i.n=j at *
 induction M with
 | nil=>simp at hi
 | cons a M ih=>
   obtain⟨p1,p2⟩:=List.pairwise_cons.1 h1;rcases Ξf.1 hj with rfl|hj'
   ·rcases Ξf.1 hi with rfl|hi'
    ·rfl
    ·exact absurd e (p1 i hi')
   ·rcases Ξf.1 hi with rfl|hi'
    ·exact absurd e.symm (p1 j hj')
    ·exact ih p2 hi' hj'
def takes(M:Its)(nx:Int)(K:Nat):Its:=(List.range K).map λ(j:Nat)=>itm M (nx+(j:Int))
theorem ξ2S(M:Its)(nx:Int)(K:Nat):takes M nx (K+1)=takes M nx K++[itm M (nx+(K:Int))]:=by
 simp[takes,List.range_succ]
theorem ξ5o(M:Its)(nx:Int)(K:Nat):(takes M nx K).length=K:=by simp[takes]
def rest(M:Its)(x:Int):Its:=M.filter λi=>decide (x<=i.n)
theorem ξ4b(h:Inv nw nx M):rest M nx=M:=by
 unfold rest;rw[List.filter_eq_self];intro i hi;have:=h.mem i hi;simp;omega
theorem ξaU(M:Its)(x:Int):rest M (x+1)=(rest M x).filter λi=>decide (i.n≠x):=by
 unfold rest;rw[List.filter_filter];apply List.filter_congr;intro i hi;rw[Bool.eq_iff_iff];simp;omega
theorem ξ6G(M:Its)(x:Int):has (rest M x) x=has M x:=by
 rw[Bool.eq_iff_iff,ξn,ξn];constructor
 ·rintro⟨i,hi,e⟩;exact⟨i,(Ξj.1 hi).1,e⟩
 ·rintro⟨i,hi,e⟩;exact⟨i,Ξj.2 ⟨hi,by simp;omega⟩,e⟩
theorem ξ4a(h:Apart M)(x:Int):itm (rest M x) x=itm M x:=by
 by_cases c:has M x=true
 ·obtain⟨i,hi,rfl⟩:=ξn.1 c;rw[ξ4J h hi];exact ξ4J (h.filter _) (Ξj.2 ⟨hi,by simp⟩)
 ·have c':has M x=false:=by simpa using c
  rw[ξ2J c',ξ2J (by rw[ξ6G];exact c')]
theorem ξ7g(h:Inv nw nx M)(ho:Od wt now M od)(hx:goes M od x=true):x<=1099511627776:=by
 simp only[goes,Bool.or_eq_true,decide_eq_true_eq]at hx;rcases hx with hx|hx
 ·obtain⟨i,hi,rfl⟩:=ξn.1 hx;have:=h.mem i hi;omega
 ·rcases ho.one with e|⟨i,hi,_,e⟩
  ·have:=h.x1;omega
  ·have:=h.mem i hi;omega
theorem ξf8{K:Nat}(h:Inv nw nx M)(ht:tf nw now=0)(ho:Od wt now M od)(hs:∀j:Nat,j<K->goes M od (nx+j)=true):Inv now (nx+(K:Int)) (rest M (nx+(K:Int))):=by
 obtain⟨j1,j2,j3⟩:=ξG ht;have ae:=h.x1;refine⟨j1,j2,by omega,?_,?_,h.one.filter _,?_⟩
 ·cases K with
  | zero=>simpa using h.x2
  | succ K=>
    have:=ξ7g h ho (hs K (by omega));omega
 ·intro i hi;obtain⟨hi,hk⟩:=Ξj.1 hi;have:=h.mem i hi;simp only[decide_eq_true_eq]at hk;omega
 ·intro e;have:M=[]:=h.non (by omega);subst this;rfl
def c8(i:Kp):List Value:=[.int .i64 i.n,.bool i.g,.int .i64 i.p.s,.int .i64 i.p.t,.int .i64 i.p.l,.int .i64 i.p.q,.bool i.p.st,i.p.bv]
def lv(i:Kp):Value:=.agg #[.int .i64 i.n,.bool i.g,.int .i64 i.p.s,.int .i64 i.p.t,.int .i64 i.p.l,.int .i64 i.p.q,.bool i.p.st,i.p.bv,.int .i64 i.a]
def wtR:Value->Option (DataW Value×List MemPlace)
 | .agg cs=>match cs.toList with
   | [.int .i64 _,.bool _,.int .i64 _,.int .i64 _,.int .i64 _,.int .i64 _,.bool _,.slice _ _ _,.int .i64 _]=>some (.held (.agg cs),[])
   | _=>none
 | _=>none
theorem ξam(n:Int)(g:Bool)(s t l q:Int)(st:Bool)(a:Option Addr)(m c:Nat)(z:Int):wtR (.agg #[.int .i64 n,.bool g,.int .i64 s,.int .i64 t,.int .i64 l,.int .i64 q,.bool st,.slice a m c,.int .i64 z])=some (.held (.agg #[.int .i64 n,.bool g,.int .i64 s,.int .i64 t,.int .i64 l,.int .i64 q,.bool st,.slice a m c,.int .i64 z]),[]):=rfl
theorem ξ4Y{y:DataW Value×List MemPlace}(h:wtR v=some y):(∃n g s t l q st a m c z,v=.agg #[.int .i64 n,.bool g,.int .i64 s,.int .i64 t,.int .i64 l,.int .i64 q,.bool st,.slice a m c,.int .i64 z])/\y=(.held v,[]):=by
 unfold wtR at h;split at h
 ·rename_i cs;split at h
  ·rename_i n g s t l q st a m c z hcs;refine⟨⟨n,g,s,t,l,q,st,a,m,c,z,?_⟩,(Option.some.inj h).symm⟩
   congr 1
   exact Array.toList_inj.1 hcs
  ·cases h
 ·cases h
def Body(w:World)(p:Pk):Prop:=∃a m c,p.bv=.slice a m c/\w.ownsRow 0 5 1 (.slice a m c) m (cellsOf p.L)/\(∀x∈p.L,x<256)/\m<=1000
def Bodies(w:World)(M:Its):Prop:=∀i∈M,Body w i.p
theorem ξv{base' size:Nat}{xs:List Value}(h:w.ownsRow base e size v n xs)(hb:base'<=base):w.ownsRow base' e size v n xs:=by
 refine⟨h.1,?_⟩;rcases h.2 with h|⟨g,cap,cur,e,hg,r⟩
 ·exact .inl h
 ·exact .inr ⟨g,cap,cur,e,Nat.le_trans hb hg,r⟩
theorem Body.only{p:Pk}(h:Body w p)(ho:Only bs w w')(hb:∀k∈bs,∀cs fr,w.heap[k]?≠some (.cells cs 5 fr)):Body w' p:=by
 obtain⟨a,m,c,e,hr,hx,hm⟩:=h;refine⟨a,m,c,e,ho.owns hr ?_,hx,hm⟩;intro k hk hc;rcases hr.2 with⟨hn,_⟩|⟨g,cap,cur,e,_,hgg,_⟩
 ·rw[hn]at hk;simp[Value.ownBlock]at hk
 ·rw[e]at hk;simp[Value.ownBlock]at hk;subst hk;exact hb _ hc _ _ hgg
theorem ξc7(w:World):Body w zpk:=⟨none,0,0,rfl,by simpa[zpk,cellsOf]using Ξr w 0 5 1,by simp[zpk],by omega⟩
theorem Bodies.only(h:Bodies w M)(ho:Only bs w w')(hb:∀k∈bs,∀cs fr,w.heap[k]?≠some (.cells cs 5 fr)):Bodies w' M:=λi hi=>(h i hi).only ho hb
theorem Bodies.itm(h:Bodies w M)(y:Int):Body w (itm M y).p:=by
 by_cases c:has M y=true
 ·exact h _ (ξ2K c).1
 ·rw[ξ2J (by simpa using c)];exact ξc7 w
theorem Bodies.app(h:Bodies w M){x:Kp}(hx:Body w x.p):Bodies w (M++[x]):=by
 intro i hi;rcases Ξe.1 hi with hi|hi
 ·exact h i hi
 ·simp only[Ξg]at hi;subst hi;exact hx
theorem Bodies.sub{N:Its}(h:Bodies w M)(hs:∀i∈N,i∈M):Bodies w N:=λi hi=>h i (hs i hi)
def Keys(D:DataW Value)(M:Its):Prop:=∀k:Lit,Maps.has D k=true↔∃i∈M,k=key i.n
def A1g(D:DataW Value)(M:Its):Prop:=∀i∈M,∀zd,D.atKey (key i.n) zd=.held (lv i)
theorem ξ1b:Keys (.map []) []:=by
 intro k;constructor
 ·intro h;simp[Maps.has]at h
 ·rintro⟨i,hi,_⟩;simp at hi
theorem Keys.at{D:DataW Value}(h:Keys D M)(y:Int):Maps.has D (key y)=has M y:=by
 rw[Bool.eq_iff_iff,h (key y),ξn];constructor
 ·rintro⟨i,hi,e⟩;exact⟨i,hi,(key_inj e).symm⟩
 ·rintro⟨i,hi,e⟩;exact⟨i,hi,by rw[e]⟩
theorem A14(y:Int):WideAt.IsKeyLit (key y):=trivial
theorem Keys.size{D:DataW Value}(h:Keys D M)(ht:∃es,D=.map es/\es.Pairwise (λp q=>p.1≠q.1)/\∀p∈es,WideAt.IsKeyLit p.1)(h1:M.Pairwise λa b=>a.n≠b.n):Maps.size D=M.length:=by
 obtain⟨es,rfl,hp,hl⟩:=ht;have n1:(es.map Prod.fst).Nodup:=by rw[Ξs,List.pairwise_map];exact hp
 have n2:(M.map λi=>key i.n).Nodup:=by
  rw[Ξs,List.pairwise_map];exact h1.imp λhab e=>hab (key_inj e)
 have s1:∀x∈es.map Prod.fst,x∈M.map λi=>key i.n:=by
  intro x hx;obtain⟨e,he,rfl⟩:=Ξi.1 hx;obtain⟨i,hi,h⟩:=(h e.1).1 (List.any_eq_true.2 ⟨e,he,WideAt.sameKey_self (hl e he)⟩);exact Ξi.2 ⟨i,hi,h.symm⟩
 have s2:∀x∈M.map (λi=>key i.n),x∈es.map Prod.fst:=by
  intro x hx;obtain⟨i,hi,rfl⟩:=Ξi.1 hx;obtain⟨e,he,hs⟩:=List.any_eq_true.1 ((h (key i.n)).2 ⟨i,hi,rfl⟩);exact Ξi.2 ⟨e,he,WideAt.sameKey_eq hs⟩
 have l1:=List.Nodup.length_le_of_subset n1 s1;have l2:=List.Nodup.length_le_of_subset n2 s2;simp at l1 l2;simp[Maps.size];omega
theorem ξ1z{D:DataW Value}(hD:IsMap D)(h:Keys D M)(x:Kp)(d:DataW Value):Keys (D.put (key x.n) d) (M++[x]):=by
 intro k;by_cases e:k=key x.n
 ·subst e;rw[has_put_same hD (A14 _)];exact⟨λ_=>⟨x,by simp,rfl⟩,λ_=>rfl⟩
 ·rw[has_put_other e,h k];constructor
  ·rintro⟨i,hi,rfl⟩;exact⟨i,by simp[hi],rfl⟩
  ·rintro⟨i,hi,rfl⟩;rcases Ξe.1 hi with hi|hi
   ·exact⟨i,hi,rfl⟩
   ·simp only[Ξg]at hi;subst hi;exact absurd rfl e
theorem ξ24{D:DataW Value}{x:Kp}(hD:IsMap D)(h:A1g D M)(hr:∀i∈M,i.n≠x.n):A1g (D.put (key x.n) (.held (lv x))) (M++[x]):=by
 intro i hi zd;rcases Ξe.1 hi with hi|hi
 ·rw[atKey_put_other (λe=>hr i hi (key_inj e))];exact h i hi zd
 ·simp only[Ξg]at hi;subst hi;exact atKey_put_same hD (A14 _) _ _
theorem ξ2x{D:DataW Value}(h:Keys D M)(y:Int):Keys (D.del (key y)) (M.filter λi=>decide (i.n≠y)):=by
 intro k;by_cases e:k=key y
 ·subst e;rw[has_del_same];constructor
  ·intro h;cases h
  ·rintro⟨i,hi,e⟩;have:=(Ξj.1 hi).2;simp at this;exact absurd (key_inj e).symm this
 ·rw[has_del_other e,h k];constructor
  ·rintro⟨i,hi,rfl⟩;exact⟨i,Ξj.2 ⟨hi,by simp;exact λh=>e (by rw[h])⟩,rfl⟩
  ·rintro⟨i,hi,rfl⟩;exact⟨i,(Ξj.1 hi).1,rfl⟩
theorem ξ2k{D:DataW Value}(h:A1g D M)(y:Int):A1g (D.del (key y)) (M.filter λi=>decide (i.n≠y)):=by
 intro i hi zd;obtain⟨h1,h2⟩:=Ξj.1 hi;simp at h2;rw[atKey_del_other (λe=>h2 (key_inj e))];exact h i h1 zd
theorem tight{R:Value->Option (DataW Value×List MemPlace)}{D:DataW Value}(h:w.ownsMap P k R b n D):w.ownsMap P k R b (Maps.size D) D:=by
 obtain⟨es,ae,hb,F,hs,rfl⟩:=h;refine⟨es,ae,hb,F,?_,rfl⟩;simp[Maps.size,length_sorted]
theorem ξd{R:Value->Option (DataW Value×List MemPlace)}{D:DataW Value}(h:w.ownsMap P k R b n D):∃es c,w.heap[b]?=some (.map es c):=by
 obtain⟨es,ae,hb,_⟩:=h;exact⟨es,ae,hb⟩
def flat(f:Kp->List Value)(M:Its):List Value:=M.flatMap f
theorem ξ4i(f:Kp->List Value)(M N:Its):flat f (M++N)=flat f M++flat f N:=by simp[flat]
theorem ξ4h(f:Kp->List Value)(i:Kp):flat f [i]=f i:=by simp[flat]
theorem flat_get{f:Kp->List Value}(hf:∀i,(f i).length=z)(M:Its)(j:Nat)(i:Kp)(h:M[j]?=some i)(c:Nat)(hc:c<z):(flat f M)[j*z+c]?=(f i)[c]?:=by
 induction M generalizing j with
 | nil=>simp at h
 | cons a M ih=>
   have e:flat f (a::M)=f a++flat f M:=by simp[flat]
   rw[e];cases j with
   | zero=>
     simp only[List.getElem?_cons_zero,Option.some.injEq]at h;subst h;rw[Ξt (by rw[hf];omega)];simp
   | succ j=>
     simp only[List.getElem?_cons_succ]at h;rw[List.getElem?_append_right (by rw[hf,Nat.succ_mul];omega),<-ih j h]
     congr 1
     rw[hf,Nat.succ_mul];omega
theorem ξcM{g c:Nat}{f:Kp->List Value}(hf:∀i,(f i).length=z)(h:w.ownsRow base e z (.slice (some ⟨g,0,none⟩) M.length c) M.length (flat f M)){j:Nat}{i:Kp}(hj:M[j]?=some i)(k:Nat)(hk:k<z):w.cell? ⟨g,j*z+k,none⟩=(f i)[k]?:=by
 have ae:j<M.length:=(List.getElem?_eq_some_iff.1 hj).1
 have:(j+1)*z<=M.length*z:=Nat.mul_le_mul_right z ae;rw[Nat.succ_mul]at this;rw[h.cellAt (j*z+k) (by omega),flat_get hf M j i hj k hk]
theorem past{cs:List Nat}{a b c:World}(h:Only bs a b)(k:Only cs b c)(hc:∀j∈cs,j∈bs∨a.heap.size<=j):Only bs a c:=
 ⟨k.1.trans h.1,k.2.1.trans h.2.1,k.2.2.1.trans h.2.2.1,Nat.le_trans h.2.2.2.1 k.2.2.2.1,λi hi hb=>(k.2.2.2.2 i (Ξn hi h.2.2.2.1) (λhh=>by
  rcases hc i hh with h1|h1
  ·exact hb h1
  ·omega)).trans (h.2.2.2.2 i hi hb)⟩
end Go.Proofs.YtpiamlgmadnepaaGreat.OM
namespace Go.Proofs.YtpiamlgmadnepaaGreat.LM
variable {m la n nw l:Int}{g br st:Bool}{p:Nat}
def lf(m:Int):Nat:=if 0<=m/\m<=3 then 0 else 1
theorem ξ8F(h:lf m=0):0<=m/\m<=3:=by
 unfold lf at h;split at h
 ·assumption
 ·omega
def wants(m nw:Int)(br:Bool):Bool:=decide (nw=-1)||br||decide (m<nw)
def goes(m nw l:Int)(br st:Bool):Bool:=decide (l<=m)&&(if st then decide (nw<=l)||br||decide (m<nw)else decide (l=nw)&&!br)
def tkf(la n:Int)(g:Bool)(p:Nat):Nat:=if n<0∨1099511627776<n then 1 else if n<=la then 6 else if g then 0 else p
def tkx(m nw la n:Int)(br g:Bool)(p:Nat)(l:Int)(st:Bool):Bool:=decide (tkf la n g p=0)&&!g&&goes m nw l br st
def tkL(la n:Int)(g:Bool)(p:Nat):Int:=if tkf la n g p=0 then n else la
def tkN(m nw la n:Int)(br g:Bool)(p:Nat)(l:Int)(st:Bool):Int:=if tkx m nw la n br g p l st&&st then l else nw
def tkB(m nw la n:Int)(br g:Bool)(p:Nat)(l:Int)(st:Bool):Bool:=if decide (tkf la n g p=0)&&g then decide (nw≠-1)else if tkx m nw la n br g p l st&&st then false else br
theorem ξ6q(h:tkf la n g p=0):0<=n/\n<=1099511627776/\la<n/\(g=false->p=0):=by
 unfold tkf at h;split at h
 ·omega
 ·split at h
  ·omega
  ·refine⟨by omega,by omega,by omega,λhg=>?_⟩;rw[hg]at h;simpa using h
theorem ξ5n(h:n<0∨1099511627776<n):tkf la n g p=1:=by unfold tkf;rw[if_pos h]
theorem ξay(h0:0<=n)(h1:n<=1099511627776)(h:n<=la):tkf la n g p=6:=by unfold tkf;rw[if_neg (by omega),if_pos h]
theorem ξ6s(h0:0<=n)(h1:n<=1099511627776)(h:¬n<=la):tkf la n true p=0:=by unfold tkf;rw[if_neg (by omega),if_neg h];rfl
theorem ξ6r(h0:0<=n)(h1:n<=1099511627776)(h:¬n<=la):tkf la n false p=p:=by unfold tkf;rw[if_neg (by omega),if_neg h];rfl
theorem ξfQ(h:tkf la n g p≠0):tkx m nw la n br g p l st=false/\tkL la n g p=la/\tkN m nw la n br g p l st=nw/\tkB m nw la n br g p l st=br:=by
 simp[tkx,tkL,tkN,tkB,h]
theorem ξ8h(h:tkf la n true p=0):tkx m nw la n br true p l st=false/\tkL la n true p=n/\tkN m nw la n br true p l st=nw/\tkB m nw la n br true p l st=decide (nw≠-1):=by
 simp[tkx,tkL,tkN,tkB,h]
theorem ξ8g(h:tkf la n false p=0):tkx m nw la n br false p l st=goes m nw l br st/\tkL la n false p=n/\tkN m nw la n br false p l st=(if goes m nw l br st&&st then l else nw)/\tkB m nw la n br false p l st=(if goes m nw l br st&&st then false else br):=by
 simp[tkx,tkL,tkN,tkB,h]
end Go.Proofs.YtpiamlgmadnepaaGreat.LM
namespace Go.Proofs.YtpiamlgmadnepaaGreat.UM
variable {k:Nat}{T ly ow l t S:Int}
def sq(S:Int)(k:Nat):Int:=(S+(k:Int))%65536
def nt(k:Nat)(T ly ow l t:Int):Int:=if k=0 then T else if l=ly then(T+t-ow)%4294967296 else(T+1)%4294967296
theorem ξeR(T ly ow t:Int)(h:k≠0):nt k T ly ow ly t=(T+t-ow)%4294967296:=by unfold nt;rw[if_neg h,if_pos rfl]
theorem ξd9(T ly ow l t:Int)(h:k≠0)(hl:l≠ly):nt k T ly ow l t=(T+1)%4294967296:=by unfold nt;rw[if_neg h,if_neg hl]
theorem ξ9C(h0:0<=T)(h1:T<=4294967295):0<=nt k T ly ow l t/\nt k T ly ow l t<=4294967295:=by
 unfold nt;split
 ·exact⟨h0,h1⟩
 ·split<;>omega
structure Inv(S:Int)(k:Nat)(T ow:Int):Prop where
 s0:0<=S
 s1:S<=65535
 k1:k<=2199023255552
 t0:0<=T
 t1:T<=4294967295
 o0:0<=ow
 o1:ow<=4294967295
theorem ξ1n(h0:0<=S)(h1:S<=65535)(h2:0<=T)(h3:T<=4294967295):Inv S 0 T 0:=⟨h0,h1,by omega,h2,h3,by omega,by omega⟩
theorem Inv.next(h:Inv S k T ow)(hk:k<2199023255552)(h0:0<=t)(h1:t<=4294967295):Inv S (k+1) (nt k T ly ow l t) t:=
 ⟨h.s0,h.s1,by omega,(ξ9C h.t0 h.t1).1,(ξ9C h.t0 h.t1).2,h0,h1⟩
end Go.Proofs.YtpiamlgmadnepaaGreat.UM
namespace Go.Proofs.YtpiamlgmadnepaaGreat.PU
open Go RowKit Maps Mem
variable {t a b nw now th:Int}{P:Program}{k:TypeId}{w:World}{n:Nat}
structure Wt where
 a:Int
 b:Int
 c:Int
abbrev Wts:=List Wt
variable {L K:Wts}
def Uq(L:Wts):Prop:=L.Pairwise λx y=>¬(x.a=y.a/\x.b=y.b)
def Ok(x:Wt):Prop:=0<=x.a/\x.a<=200/\1<=x.b/\x.b<=8/\0<=x.c/\x.c<=3
structure Inv(L:Wts):Prop where
 mem:∀x∈L,Ok x
 uq:Uq L
theorem ξf9:Inv []:=⟨by simp,List.Pairwise.nil⟩
def of(L:Wts)(t:Int):Wts:=L.filter λx=>decide (x.b=t)
theorem ξ21{x:Wt}:x∈of L t↔x∈L/\x.b=t:=by simp[of]
def A6h(L:Wts)(t:Int):List Int:=(of L t).map Wt.a
theorem ξco(L:Wts)(t:Int):(A6h L t).length=(of L t).length:=by simp[A6h]
theorem ξbj(L:Wts)(t:Int):(of L t).length<=L.length:=List.length_filter_le _ _
theorem ξ71{z:Int}:z∈A6h L t↔∃x∈L,x.b=t/\x.a=z:=by
 simp only[A6h,Ξi,ξ21];constructor
 ·rintro⟨x,⟨h1,h2⟩,h3⟩;exact⟨x,h1,h2,h3⟩
 ·rintro⟨x,h1,h2,h3⟩;exact⟨x,⟨h1,h2⟩,h3⟩
theorem ξ93(h:Uq L)(t:Int):(A6h L t).Nodup:=by
 rw[Ξs,A6h,List.pairwise_map];have hf:(of L t).Pairwise λx y=>¬(x.a=y.a/\x.b=y.b):=h.filter _;exact hf.imp_of_mem fun {x y} hx hy q e=>q ⟨e,by rw[(ξ21.1 hx).2,(ξ21.1 hy).2]⟩
def need(L:Wts)(t:Int):Int:=(of L t).foldl (λm x=>max m x.c) (-1)
theorem ξdI(l:Wts)(m:Int):m<=l.foldl (λm x=>max m x.c) m/\(∀x∈l,x.c<=l.foldl (λm x=>max m x.c) m)/\(l.foldl (λm x=>max m x.c) m=m∨∃x∈l,x.c=l.foldl (λm x=>max m x.c) m):=by
 induction l generalizing m with
 | nil=>exact⟨Int.le_refl _,by simp,.inl rfl⟩
 | cons y l ih=>
   obtain⟨h1,h2,h3⟩:=ih (max m y.c);simp only[List.foldl_cons];refine⟨by omega,?_,?_⟩
   ·intro x hx;rcases Ξf.1 hx with rfl|hx
    ·omega
    ·exact h2 x hx
   ·rcases h3 with h3|⟨x,hx,h3⟩
    ·rw[h3];rcases Int.le_total m y.c with q|q
     ·exact .inr ⟨y,by simp,by omega⟩
     ·exact .inl (by omega)
    ·exact .inr ⟨x,by simp[hx],h3⟩
theorem ξ5J(L:Wts)(t:Int):-1<=need L t/\(∀x∈L,x.b=t->x.c<=need L t)/\(need L t=-1∨∃x∈L,x.b=t/\x.c=need L t):=by
 obtain⟨h1,h2,h3⟩:=ξdI (of L t) (-1);refine⟨h1,λx hx e=>h2 x (ξ21.2 ⟨hx,e⟩),?_⟩;rcases h3 with h3|⟨x,hx,h3⟩
 ·exact .inl h3
 ·exact .inr ⟨x,(ξ21.1 hx).1,(ξ21.1 hx).2,h3⟩
theorem ξ5K(h:Inv L):need L t<0↔of L t=[]:=by
 obtain⟨k1,k2,k3⟩:=ξ5J L t;constructor
 ·intro hn;rw[List.eq_nil_iff_forall_not_mem];intro x hx;have h1:=ξ21.1 hx;have h2:=k2 x h1.1 h1.2;have h3:=h.mem x h1.1;unfold Ok at h3;omega
 ·intro hn;rcases k3 with k3|⟨x,hx,e,k3⟩
  ·omega
  ·have:=ξ21.2 ⟨hx,e⟩;rw[hn]at this;simp at this
def hit(a b:Int)(y:Wt):Bool:=decide (y.a=a)&&decide (y.b=b)
theorem ξfc{y:Wt}:hit a b y=true↔y.a=a/\y.b=b:=by simp[hit]
def has(L:Wts)(a b:Int):Bool:=L.any (hit a b)
def del(L:Wts)(a b:Int):Wts:=L.filter λy=>!hit a b y
def put(L:Wts)(x:Wt):Wts:=del L x.a x.b++[x]
theorem ξ8D{y:Wt}:y∈del L a b↔y∈L/\¬(y.a=a/\y.b=b):=by
 unfold del;rw[Ξj,<-ξfc];simp
theorem ξ2H{x y:Wt}:y∈put L x↔(y∈L/\¬(y.a=x.a/\y.b=x.b))∨y=x:=by
 simp[put,ξ8D]
theorem ξ2b(h:Inv L){x:Wt}(hx:Ok x):Inv (put L x):=by
 refine⟨λy hy=>?_,?_⟩
 ·rcases ξ2H.1 hy with h1|rfl
  ·exact h.mem y h1.1
  ·exact hx
 ·unfold Uq put;rw[List.pairwise_append];refine⟨h.uq.filter _,List.pairwise_singleton _ _,?_⟩;intro p hp q hq e;simp at hq;subst hq;exact(ξ8D.1 hp).2 e
def wf(a b c:Int):Nat:=if 0<=a/\a<=200/\1<=b/\b<=8/\0<=c/\c<=3 then 0 else 1
theorem ξ4Z{c:Int}:wf a b c=0↔Ok ⟨a,b,c⟩:=by
 unfold wf Ok;split
 ·exact⟨λ_=>by assumption,λ_=>rfl⟩
 ·exact⟨λh=>by omega,λh=>absurd h (by assumption)⟩
theorem ξgj(a b c:Int):wf a b c<=1:=by unfold wf;split<;>omega
def tf(nw now:Int):Nat:=if now<0∨1000000<now then 1 else if now<nw then 6 else 0
theorem ξG(h:tf nw now=0):0<=now/\now<=1000000/\nw<=now:=by
 unfold tf at h;split at h
 ·omega
 ·split at h<;>omega
def af(L:Wts)(nw t now:Int):Nat:=if t<1∨8<t then 1 else if tf nw now≠0 then tf nw now else if need L t<0 then 5 else 0
theorem ξfD(h:af L nw t now=0):1<=t/\t<=8/\tf nw now=0/\0<=need L t:=by
 unfold af at h;split at h
 ·omega
 ·split at h
  ·omega
  ·split at h
   ·omega
   ·omega
def lst(th a:Int):Int:=if a<0 then -th else a
def A3s(th a now:Int):Bool:=decide (a<0)||decide (th<=now-a)
theorem ξcw(h:0<=now):(decide (now-lst th a<th))=!A3s th a now:=by
 unfold lst A3s;by_cases c:a<0
 ·rw[if_pos c,decide_eq_true c];simp;omega
 ·rw[if_neg c,decide_eq_false c];simp only[Bool.false_or];rw[<-decide_not]
  congr 1
  rw[eq_iff_iff];omega
def upd{α:Type}(f:Nat->α)(i:Nat)(x:α):Nat->α:=λj=>if j=i then x else f j
def ix(t:Int):Nat:=(t-1).toNat
def aB(L:Wts)(th nw:Int)(ak:Nat->Int)(t now:Int):Bool:=decide (af L nw t now=0)&&A3s th (ak (ix t)) now
def aN(L:Wts)(nw t now:Int):Int:=if af L nw t now=0 then now else nw
def aK(L:Wts)(th nw:Int)(ak:Nat->Int)(t now:Int):Nat->Int:=if aB L th nw ak t now=true then upd ak (ix t) now else ak
structure A8h(th nw:Int)(ak:Nat->Int):Prop where
 t1:1<=th
 t2:th<=1000000
 n1:0<=nw
 n2:nw<=1000000
 a1:∀i,-1<=ak i/\ak i<=nw
theorem ξak(h1:1<=th)(h2:th<=1000000):A8h th 0 (λ_=>-1):=⟨h1,h2,by omega,by omega,λ_=>by constructor<;>omega⟩
theorem ξe8{ak:Nat->Int}(h:A8h th nw ak):A8h th (aN L nw t now) (aK L th nw ak t now):=by
 unfold aN aK aB;by_cases e:af L nw t now=0
 ·obtain⟨k1,k2,k3,k4⟩:=ξfD e;obtain⟨j1,j2,j3⟩:=ξG k3;rw[if_pos e];refine⟨h.t1,h.t2,j1,j2,λi=>?_⟩;have:=h.a1 i;split
  ·unfold upd;split<;>omega
  ·omega
 ·rw[if_neg e,decide_eq_false e,Bool.false_and,if_neg (by simp)];exact h
def key(y:Int):Lit:=.int .i64 y
theorem key_inj{x y:Int}(h:key x=key y):x=y:=by
 unfold key at h;injection h
theorem A14(y:Int):WideAt.IsKeyLit (key y):=trivial
def inR:Value->Option (DataW Value×List MemPlace)
 | .int .i64 x=>some (.held (.int .i64 x),[])
 | _=>none
theorem ξg9(x:Int):inR (.int .i64 x)=some (.held (.int .i64 x),[]):=rfl
structure KM(D:DataW Value)(L:Wts)(t:Int):Prop where
 keys:∀k:Lit,Maps.has D k=true↔∃x∈L,x.b=t/\k=key x.a
 els:∀x∈L,x.b=t->∀zd,D.atKey (key x.a) zd=.held (.int .i64 x.c)
theorem KM.nil(t:Int):KM (.map []) [] t:=by
 refine⟨λk=>?_,by simp⟩;constructor
 ·intro h;simp[Maps.has]at h
 ·rintro⟨i,hi,_⟩;simp at hi
theorem KM.mem{D:DataW Value}(h:KM D L t)(e:∀y,y.b=t->(y∈L↔y∈K)):KM D K t:=by
 refine⟨λk=>?_,λx hx hb=>h.els x ((e x hb).2 hx) hb⟩;rw[h.keys k];constructor
 ·rintro⟨x,h1,h2,h3⟩;exact⟨x,(e x h2).1 h1,h2,h3⟩
 ·rintro⟨x,h1,h2,h3⟩;exact⟨x,(e x h2).2 h1,h2,h3⟩
theorem KM.put{D:DataW Value}{x:Wt}(hD:IsMap D)(h:KM D L x.b)(e:∀y,y.b=x.b->(y∈K↔(y∈L/\y.a≠x.a)∨y=x)):KM (D.put (key x.a) (.held (.int .i64 x.c))) K x.b:=by
 refine⟨λk=>?_,λy hy hb zd=>?_⟩
 ·by_cases q:k=key x.a
  ·subst q;rw[has_put_same hD (A14 _)];exact⟨λ_=>⟨x,(e x rfl).2 (.inr rfl),rfl,rfl⟩,λ_=>rfl⟩
  ·rw[has_put_other q,h.keys k];constructor
   ·rintro⟨y,h1,h2,rfl⟩;exact⟨y,(e y h2).2 (.inl ⟨h1,λz=>q (by rw[z])⟩),h2,rfl⟩
   ·rintro⟨y,h1,h2,rfl⟩;rcases(e y h2).1 h1 with h3|rfl
    ·exact⟨y,h3.1,h2,rfl⟩
    ·exact absurd rfl q
 ·rcases(e y hb).1 hy with h3|rfl
  ·rw[atKey_put_other (λz=>h3.2 (key_inj z))];exact h.els y h3.1 hb zd
  ·exact atKey_put_same hD (A14 _) _ _
theorem KM.size{D:DataW Value}(h:KM D L t)(ht:∃es,D=.map es/\es.Pairwise (λp q=>p.1≠q.1)/\∀p∈es,WideAt.IsKeyLit p.1)(h1:Uq L):Maps.size D=(of L t).length:=by
 obtain⟨es,rfl,hp,hl⟩:=ht;have n1:(es.map Prod.fst).Nodup:=by rw[Ξs,List.pairwise_map];exact hp
 have n2:((A6h L t).map key).Nodup:=by
  rw[Ξs,List.pairwise_map];exact(Ξs.1 (ξ93 h1 t)).imp λhab e=>hab (key_inj e)
 have s1:∀x∈es.map Prod.fst,x∈(A6h L t).map key:=by
  intro x hx;obtain⟨e,he,rfl⟩:=Ξi.1 hx;obtain⟨i,hi,hb,h⟩:=(h.keys e.1).1 (List.any_eq_true.2 ⟨e,he,WideAt.sameKey_self (hl e he)⟩);exact Ξi.2 ⟨i.a,ξ71.2 ⟨i,hi,hb,rfl⟩,h.symm⟩
 have s2:∀x∈(A6h L t).map key,x∈es.map Prod.fst:=by
  intro x hx;obtain⟨z,hz,rfl⟩:=Ξi.1 hx;obtain⟨i,hi,hb,rfl⟩:=ξ71.1 hz;obtain⟨e,he,hs⟩:=List.any_eq_true.1 ((h.keys (key i.a)).2 ⟨i,hi,hb,rfl⟩);exact Ξi.2 ⟨e,he,WideAt.sameKey_eq hs⟩
 have l1:=List.Nodup.length_le_of_subset n1 s1;have l2:=List.Nodup.length_le_of_subset n2 s2;simp[ξco]at l1 l2;simp[Maps.size];omega
theorem tight{R:Value->Option (DataW Value×List MemPlace)}{b:Nat}{D:DataW Value}(h:w.ownsMap P k R b n D):w.ownsMap P k R b (Maps.size D) D:=by
 obtain⟨es,ae,hb,F,hs,rfl⟩:=h;refine⟨es,ae,hb,F,?_,rfl⟩;simp[Maps.size,length_sorted]
theorem ξd{R:Value->Option (DataW Value×List MemPlace)}{b:Nat}{D:DataW Value}(h:w.ownsMap P k R b n D):∃es c,w.heap[b]?=some (.map es c):=by
 obtain⟨es,ae,hb,_⟩:=h;exact⟨es,ae,hb⟩
end Go.Proofs.YtpiamlgmadnepaaGreat.PU
namespace Go.Proofs.YtpiamlgmadnepaaGreat.BM
open Go.Lib
variable {S:List Int}{K:List (Int×Nat)}{p:Int×Nat}{n:Int}
abbrev A1w (l:List Int):Prop:=l.Pairwise (·<·)
theorem ξ5w:∀{a b:List Int},A1w a->A1w b->(∀x,x∈a↔x∈b)->a=b
 | [],[],_,_,_=>rfl
 | [],y::b,_,_,h=>absurd ((h y).2 (List.mem_cons_self ..)) (by simp)
 | x::a,[],_,_,h=>absurd ((h x).1 (List.mem_cons_self ..)) (by simp)
 | x::a,y::b,ha,hb,h=>by
   obtain⟨hx,ae⟩:=List.pairwise_cons.1 ha;obtain⟨hy,ah⟩:=List.pairwise_cons.1 hb;have ai:x=y:=by
    rcases Ξf.1 ((h x).1 (List.mem_cons_self ..))with e|e
    ·exact e
    ·rcases Ξf.1 ((h y).2 (List.mem_cons_self ..))with e'|e'
     ·exact e'.symm
     ·have:=hx y e';have:=hy x e;omega
   subst ai;rw[ξ5w ae ah λz=>?_];constructor
   ·intro hz;rcases Ξf.1 ((h z).1 (List.mem_cons_of_mem _ hz))with e|e
    ·subst e;have:=hx z hz;omega
    ·exact e
   ·intro hz;rcases Ξf.1 ((h z).2 (List.mem_cons_of_mem _ hz))with e|e
    ·subst e;have:=hy z hz;omega
    ·exact e
def norm(zs:List Int):List Int:=compact (zs.mergeSort λx y=>decide (x<=y))
theorem ξ2P(d:Array Int)(hs:∀i j,i<=j->j<d.size->d[i]! <= d[j]!):∀m,m<=d.size->A1w (compactUpTo d m)/\∀x,x∈compactUpTo d m↔∃j,j<m/\d[j]! = x
 | 0,_=>⟨List.Pairwise.nil,λx=>by simp[compactUpTo]⟩
 | m+1,hm=>by
   obtain⟨h1,h2⟩:=ξ2P d hs m (by omega);rw[compactUpTo_succ];by_cases hk:keeps d m=true
   ·rw[if_pos hk];refine⟨List.pairwise_append.2 ⟨h1,List.pairwise_singleton _ _,λa ha b hb=>?_⟩,λx=>?_⟩
    ·obtain⟨j,hj,rfl⟩:=(h2 a).1 ha;obtain rfl:=Ξg.1 hb;simp only[keeps,decide_eq_true_eq]at hk;rcases hk with rfl|hk
     ·omega
     ·have l1:=hs j (m-1) (by omega) (by omega);have l2:=hs (m-1) m (by omega) (by omega);omega
    ·rw[Ξe,Ξg,h2];constructor
     ·rintro(⟨j,hj,rfl⟩|rfl)
      ·exact⟨j,by omega,rfl⟩
      ·exact⟨m,by omega,rfl⟩
     ·rintro⟨j,hj,rfl⟩;by_cases e:j=m
      ·exact .inr (by rw[e])
      ·exact .inl ⟨j,by omega,rfl⟩
   ·have ae:keeps d m=false:=by simpa using hk
    rw[if_neg hk,Ξu];refine⟨h1,λx=>?_⟩;rw[h2];simp only[keeps,decide_eq_false_iff_not,not_or,Decidable.not_not]at ae;constructor
    ·rintro⟨j,hj,rfl⟩;exact⟨j,by omega,rfl⟩
    ·rintro⟨j,hj,rfl⟩;by_cases e:j=m
     ·exact⟨m-1,by omega,by rw[e,ae.2]⟩
     ·exact⟨j,by omega,rfl⟩
theorem ξ1h(zs:List Int):A1w (norm zs)/\∀x,x∈norm zs↔x∈zs:=by
 have hp:=List.pairwise_mergeSort (le:=λx y:Int=>decide (x<=y)) (λa b c h k=>by simp only[decide_eq_true_eq]at *;omega) (λa b=>by simp only[Bool.or_eq_true,decide_eq_true_eq];omega) zs;have hm:∀x,x∈zs.mergeSort (λx y:Int=>decide (x<=y))↔x∈zs:=λx=>List.mem_mergeSort;unfold norm;generalize zs.mergeSort (λx y:Int=>decide (x<=y))=ss at *;have h:=ξ2P ss.toArray (λi j hij hj=>by
  have ae:j<ss.length:=by simpa using hj
  rw[getElem!_pos ss.toArray i (by simp;omega),getElem!_pos ss.toArray j (by simpa using ae)];by_cases e:i=j
  ·subst e;exact Int.le_refl _
  ·have:=List.pairwise_iff_getElem.1 hp i j (by omega) ae (by omega);simpa using this) ss.length (by simp)
 refine⟨h.1,λx=>?_⟩;unfold compact;rw[h.2,<-hm];constructor
 ·rintro⟨j,hj,rfl⟩;rw[getElem!_pos ss.toArray j (by simpa using hj)];simp
 ·intro hx;obtain⟨j,hj,rfl⟩:=List.getElem_of_mem hx;exact⟨j,hj,by rw[getElem!_pos ss.toArray j (by simpa using hj)];simp⟩
theorem ξeT{zs:List Int}(h:A1w S)(hm:∀x,x∈S↔x∈zs):norm zs=S:=ξ5w (ξ1h zs).1 h (λx=>((ξ1h zs).2 x).trans (hm x).symm)
theorem ξ3s(h:A1w S):norm S=S:=ξeT h λ_=>Iff.rfl
theorem ξ43(zs:List Int):(compact zs).length<=zs.length:=by
 unfold compact compactUpTo;rw[Ξm];exact Nat.le_trans (List.length_filter_le _ _) (by simp)
theorem ξ1y(zs:List Int):(norm zs).length<=zs.length:=by
 unfold norm;have:=ξ43 (zs.mergeSort λx y:Int=>decide (x<=y));rwa [List.length_mergeSort]at this
def tells(p:Int×Nat):List Int:=p.1::((List.range 16).filter λi=>p.2.testBit i).map λ(i:Nat)=>p.1+(i:Int)+1
def told(l:List (Int×Nat)):List Int:=l.flatMap tells
def step(l:List (Int×Nat))(n:Int):List (Int×Nat):=
 match l.getLast? with
 | none=>[(n,0)]
 | some p=>if 16<n-p.1 then l++[(n,0)]else l.dropLast++[(p.1,p.2|||2^(n-p.1-1).toNat)]
def pairs(S:List Int):List (Int×Nat):=S.foldl step []
theorem step_nil(n:Int):step [] n=[(n,0)]:=rfl
theorem ξ6v(h:16<n-p.1):step (K++[p]) n=K++[p]++[(n,0)]:=by
 simp[step,h]
theorem ξ5s(h:n-p.1<=16):step (K++[p]) n=K++[(p.1,p.2|||2^(n-p.1-1).toNat)]:=by
 have:¬16<n-p.1:=by omega
 simp[step,this]
theorem ξ4D(S:List Int)(n:Int):pairs (S++[n])=step (pairs S) n:=by simp[pairs]
theorem ξ2f(l k:List (Int×Nat)):told (l++k)=told l++told k:=by simp[told]
theorem ξ1O(p:Int×Nat):told [p]=tells p:=by simp[told]
theorem ξ4q(n:Int):tells (n,0)=[n]:=by simp[tells]
theorem ξa6(m k:Nat)(hm:m<2^k)(hk:k<16):(List.range 16).filter (λi=>(m|||2^k).testBit i)=((List.range 16).filter λi=>m.testBit i)++[k]:=by
 have e:(16:Nat)=k+(1+(15-k)):=by omega
 rw[e,List.range_add,List.range_add,List.map_append,List.filter_append,List.filter_append,List.filter_append,List.filter_append];have hb:∀i,k<=i->m.testBit i=false:=λi hi=>Nat.testBit_lt_two_pow (Ξn hm (Nat.pow_le_pow_right (by decide) hi));have a1:(List.range k).filter (λi=>(m|||2^k).testBit i)=(List.range k).filter λi=>m.testBit i:=by
  apply List.filter_congr;intro i hi;have:=List.mem_range.1 hi;rw[Nat.testBit_or,Nat.testBit_two_pow_of_ne (by omega),Bool.or_false]
 have a2:((List.range 1).map λx=>k+x)=[k]:=by simp
 have a3:(([k]:List Nat).filter λi=>(m|||2^k).testBit i)=[k]:=by simp[Nat.testBit_or]
 have a4:(([k]:List Nat).filter λi=>m.testBit i)=[]:=by simp[hb k (Nat.le_refl _)]
 have a5:((((List.range (15-k)).map λx=>1+x).map λx=>k+x).filter λi=>(m|||2^k).testBit i)=[]:=by
  apply List.filter_eq_nil_iff.2;intro i hi;simp only[Ξi]at hi;obtain⟨_,⟨y,_,rfl⟩,rfl⟩:=hi;rw[Nat.testBit_or,Nat.testBit_two_pow_of_ne (by omega),hb _ (by omega)];simp
 have a6:((((List.range (15-k)).map λx=>1+x).map λx=>k+x).filter λi=>m.testBit i)=[]:=by
  apply List.filter_eq_nil_iff.2;intro i hi;simp only[Ξi]at hi;obtain⟨_,⟨y,_,rfl⟩,rfl⟩:=hi;rw[hb _ (by omega)];simp
 rw[a1,a2,a3,a4,a5,a6];simp
theorem ξ5M(hp:p.2<65536){x:Int}:x∈tells p↔x=p.1∨∃i:Nat,p.2.testBit i=true/\x=p.1+(i:Int)+1:=by
 simp only[tells,Ξf,Ξi,Ξj,List.mem_range];constructor
 ·rintro(h|⟨i,⟨_,h⟩,rfl⟩)
  ·exact .inl h
  ·exact .inr ⟨i,h,rfl⟩
 ·rintro(h|⟨i,h,rfl⟩)
  ·exact .inl h
  ·refine .inr ⟨i,⟨?_,h⟩,rfl⟩;rcases Nat.lt_or_ge i 16 with h'|h'
   ·exact h'
   ·rw[Nat.testBit_lt_two_pow (Ξn hp (Nat.pow_le_pow_right (n:=2) (by decide) h'))]at h;simp at h
theorem ξeZ(hp:p.2<65536)(h:∀x∈tells p,x<n):p.2<2^(n-p.1-1).toNat:=by
 apply Nat.lt_pow_two_of_testBit;intro i hi;by_cases hb:p.2.testBit i=true
 ·have h0:=h p.1 (by simp[tells]);have:=h _ ((ξ5M hp).2 (.inr ⟨i,hb,rfl⟩));omega
 ·simpa using hb
theorem ξ99(hp:p.2<65536)(h:∀x∈tells p,x<n)(hn:n-p.1<=16) :
 tells (p.1,p.2|||2^(n-p.1-1).toNat)=tells p++[n]/\p.2|||2^(n-p.1-1).toNat<65536:=by
 have h0:=h p.1 (by simp[tells]);have hm:=ξeZ hp h;have hk:(n-p.1-1).toNat<16:=by omega
 constructor
 ·simp only[tells];rw[ξa6 _ _ hm hk,List.map_append];simp only[List.map_cons,List.map_nil,List.cons_append]
  congr 2
  simp;omega
 ·exact Nat.or_lt_two_pow (n:=16) hp (Nat.pow_lt_pow_right (by decide) hk)
structure Fit(l:List (Int×Nat))(S:List Int):Prop where
 told:told l=S
 mask:∀p∈l,p.2<65536
 base:∀p∈l,p.1∈S
 apart:∀i p q,l[i]?=some p->l[i+1]?=some q->p.1+16<q.1
theorem Fit.step{l:List (Int×Nat)}(h:Fit l S)(hn:∀x∈S,x<n):Fit (step l n) (S++[n]):=by
 rcases List.eq_nil_or_concat l with rfl|⟨K,p,rfl⟩
 ·have hS:S=[]:=by rw[<-h.told];rfl
  subst hS;rw[step_nil];refine⟨by rw[ξ1O,ξ4q];rfl,by simp,by simp,λi p q _ h2=>?_⟩;simp at h2
 ·rw[List.concat_eq_append]at *;have ae:∀x∈tells p,x<n:=λx hx=>hn x (by rw[<-h.told,ξ2f,ξ1O];exact List.mem_append_right _ hx);by_cases hf:16<n-p.1
  ·rw[ξ6v hf];refine⟨by rw[ξ2f,ξ1O,ξ4q,h.told],?_,?_,?_⟩
   ·intro q hq;rcases Ξe.1 hq with hq|hq
    ·exact h.mask q hq
    ·obtain rfl:=Ξg.1 hq;exact(by decide:(0:Nat)<65536)
   ·intro q hq;rcases Ξe.1 hq with hq|hq
    ·exact List.mem_append_left _ (h.base q hq)
    ·obtain rfl:=Ξg.1 hq;simp
   ·intro i a b ha hb;rcases Nat.lt_trichotomy (i+1) (K++[p]).length with hi|hi|hi
    ·rw[Ξt (by omega)]at ha hb;exact h.apart i a b ha hb
    ·rw[List.getElem?_append_right (by omega),hi,Nat.sub_self]at hb;rw[Ξt (by omega),List.getElem?_append_right (by simp at hi ⊢;omega)]at ha;have e0:i-K.length=0:=by simp at hi;omega
     rw[e0]at ha;simp at ha hb;subst ha hb;show p.1+16<n;omega
    ·rw[List.getElem?_eq_none (by rw[Ξh];simp at hi ⊢;omega)]at hb;simp at hb
  ·rw[ξ5s (by omega)];obtain⟨ht,hm⟩:=ξ99 (h.mask p (by simp)) ae (by omega);refine⟨by rw[ξ2f,ξ1O,ht,<-List.append_assoc];rw[show BM.told K++tells p=S by rw[<-h.told,ξ2f,ξ1O]],?_,?_,?_⟩
   ·intro q hq;rcases Ξe.1 hq with hq|hq
    ·exact h.mask q (List.mem_append_left _ hq)
    ·obtain rfl:=Ξg.1 hq;exact hm
   ·intro q hq;refine List.mem_append_left _ ?_;rcases Ξe.1 hq with hq|hq
    ·exact h.base q (List.mem_append_left _ hq)
    ·obtain rfl:=Ξg.1 hq;exact h.base p (by simp)
   ·intro i a b ha hb;rcases Nat.lt_trichotomy (i+1) K.length with hi|hi|hi
    ·rw[Ξt (by omega)]at ha hb;exact h.apart i a b (by rw[Ξt (by omega)];exact ha) (by rw[Ξt (by omega)];exact hb)
    ·rw[List.getElem?_append_right (by omega),hi,Nat.sub_self]at hb;rw[Ξt (by omega)]at ha;simp at hb;subst hb;exact h.apart i a p (by rw[Ξt (by omega)];exact ha) (by rw[List.getElem?_append_right (by omega),hi,Nat.sub_self];rfl)
    ·rw[List.getElem?_eq_none (by simp;omega)]at hb;simp at hb
theorem ξfk:Fit [] []:=⟨rfl,by simp,by simp,λi p q h=>by simp at h⟩
theorem ξcE{P:List Int->Prop}(h0:P [])(h1:∀l x,P l->P (l++[x]))(l:List Int):P l:=by
 have:∀r:List Int,P r.reverse:=by
  intro r
  induction r with
  | nil=>exact h0
  | cons x r ih=>rw[List.reverse_cons];exact h1 _ _ ih
 have:=this l.reverse;rwa [List.reverse_reverse]at this
theorem ξ3D(S:List Int):A1w S->Fit (pairs S) S:=by
 refine ξcE (P:=λS=>A1w S->Fit (pairs S) S) (λ_=>ξfk) (λl x ih h=>?_) S;obtain⟨h1,_,h2⟩:=List.pairwise_append.1 h;rw[ξ4D];exact(ih h1).step λy hy=>h2 y hy x (by simp)
theorem ξaA(p:Int×Nat):1<=(tells p).length/\(tells p).length<=17:=by
 simp only[tells,List.length_cons,Ξm];have:=List.length_filter_le (λi=>p.2.testBit i) (List.range 16);rw[List.length_range]at this;omega
theorem ξ1P:∀l:List (Int×Nat),l.length<=(told l).length/\(told l).length<=17*l.length
 | []=>by simp[told]
 | p::l=>by
   have h1:=ξ1P l;have h2:=ξaA p;have e:told (p::l)=tells p++told l:=rfl;rw[e,Ξh,List.length_cons];omega
end Go.Proofs.YtpiamlgmadnepaaGreat.BM
namespace Go.Proofs.YtpiamlgmadnepaaGreat.TM
variable {n x j y k m i:Nat}{d P:List Int}{s f:Int}{S T:Nat->Bool}
structure Ed where
 a:Int
 b:Int
 c:Int
variable {e:Ed}{L:List Ed}
def zz:Ed:=⟨0,0,0⟩
def isn(n x:Int):Bool:=decide (0<=x/\x<n)
def okE(n:Int)(e:Ed):Bool:=decide (0<=e.a/\e.a<n/\0<=e.b/\e.b<n/\e.a≠e.b/\1<=e.c/\e.c<=1000000)
theorem ξ8y{n:Int}:okE n e=true↔0<=e.a/\e.a<n/\0<=e.b/\e.b<n/\e.a≠e.b/\1<=e.c/\e.c<=1000000:=by simp[okE]
def two(e f:Ed):Bool:=decide ((e.a=f.a/\e.b=f.b)∨(e.a=f.b/\e.b=f.a))
def ck(n:Int):List Ed->List Ed->Nat
 | _,[]=>0
 | A,e::r=>if okE n e=false then 1 else if A.any (λf=>two f e)=true then 7 else ck n (A++[e]) r
def ef(n:Int)(L:List Ed):Nat:=if n<1∨16<n then 1 else if 200<L.length then 4 else ck n [] L
structure Fit(n:Nat)(L:List Ed):Prop where
 lo:1<=n
 hi:n<=16
 len:L.length<=200
 ok:∀e∈L,okE n e=true
 uq:L.Pairwise λe f=>two e f=false
theorem ξft{n:Int}{A:List Ed}:ck n A L=0↔(∀e∈L,okE n e=true)/\(∀e∈L,∀f∈A,two f e=false)/\L.Pairwise λe f=>two e f=false:=by
 induction L generalizing A with
 | nil=>simp[ck]
 | cons e r ih=>
   rw[ck];cases h:okE n e with
   | false=>
     rw[if_pos rfl];constructor
     ·intro q;omega
     ·intro q;have:=q.1 e (by simp);rw[h]at this;simp at this
   | true=>
     rw[if_neg (by simp)];by_cases h1:A.any (λf=>two f e)=true
     ·rw[if_pos h1];constructor
      ·intro q;omega
      ·intro q;obtain⟨f,hf,h2⟩:=List.any_eq_true.1 h1;have:=q.2.1 e (by simp) f hf;rw[h2]at this;simp at this
     ·rw[if_neg h1,ih];have h3:∀f∈A,two f e=false:=λf hf=>by
       cases q:two f e with
       | false=>rfl
       | true=>exact absurd (List.any_eq_true.2 ⟨f,hf,q⟩) h1
      constructor
      ·rintro⟨p1,p2,p3⟩;refine⟨λx hx=>?_,λx hx f hf=>?_,List.pairwise_cons.2 ⟨λx hx=>p2 x hx e (by simp),p3⟩⟩
       ·rcases Ξf.1 hx with rfl|hx
        ·exact h
        ·exact p1 x hx
       ·rcases Ξf.1 hx with rfl|hx
        ·exact h3 f hf
        ·exact p2 x hx f (by simp[hf])
      ·rintro⟨p1,p2,p3⟩;obtain⟨p4,p5⟩:=List.pairwise_cons.1 p3;refine⟨λx hx=>p1 x (by simp[hx]),λx hx f hf=>?_,p5⟩;rcases Ξe.1 hf with hf|hf
       ·exact p2 x (by simp[hx]) f hf
       ·simp at hf;subst hf;exact p4 x hx
theorem ξ2d{n:Int}:ef n L=0↔0<=n/\Fit n.toNat L:=by
 unfold ef;by_cases h:n<1∨16<n
 ·rw[if_pos h];constructor
  ·intro q;omega
  ·rintro⟨q,q2⟩;have:=q2.lo;have:=q2.hi;omega
 ·rw[if_neg h];by_cases h2:200<L.length
  ·rw[if_pos h2];constructor
   ·intro q;omega
   ·rintro⟨q,q2⟩;have:=q2.len;omega
  ·rw[if_neg h2,ξft];have e:((n.toNat:Nat):Int)=n:=by omega
   constructor
   ·rintro⟨p1,_,p3⟩;exact⟨by omega,by omega,by omega,by omega,by rw[e];exact p1,p3⟩
   ·rintro⟨_,p⟩;exact⟨by have:=p.ok;rwa [e]at this,by simp,p.uq⟩
def jn(e:Ed)(x y:Int):Bool:=decide ((e.a=x/\e.b=y)∨(e.b=x/\e.a=y))
theorem ξ77{x y:Int}:jn e x y=true↔(e.a=x/\e.b=y)∨(e.b=x/\e.a=y):=by simp[jn]
theorem ξf7(e:Ed)(x y:Int):jn e x y=jn e y x:=by
 unfold jn;rw[decide_eq_decide];constructor<;>rintro(⟨h1,h2⟩|⟨h1,h2⟩)
 ·exact .inr ⟨h2,h1⟩
 ·exact .inl ⟨h2,h1⟩
 ·exact .inr ⟨h2,h1⟩
 ·exact .inl ⟨h2,h1⟩
def cst(L:List Ed)(x y:Int):Int:=L.foldl (λc e=>if jn e x y=true then e.c else c) 0
theorem ξfq(x y:Int):cst [] x y=0:=rfl
theorem ξdV(L:List Ed)(e:Ed)(x y:Int):cst (L++[e]) x y=if jn e x y=true then e.c else cst L x y:=by simp[cst,List.foldl_append]
theorem ξ5p(h:j<L.length):L.take (j+1)=L.take j++[L.getD j zz]:=by
 rw[<-List.take_append_getElem h,Ξa,Ξd h];rfl
theorem ξ2s(h:j<L.length):L.drop j=L.getD j zz::L.drop (j+1):=by
 rw[List.drop_eq_getElem_cons h,Ξa,Ξd h];rfl
theorem ξdG(h:j<L.length):L.getD j zz∈L:=by
 rw[Ξa,Ξd h];exact List.getElem_mem h
theorem ξdU(h:j<L.length)(x y:Int):cst (L.take (j+1)) x y=if jn (L.getD j zz) x y=true then(L.getD j zz).c else cst (L.take j) x y:=by
 rw[ξ5p h,ξdV]
theorem ξdX(L:List Ed)(x y:Int):cst L x y=cst L y x:=by
 unfold cst;simp only[ξf7 _ x y]
theorem ξa5(x y:Int)(L:List Ed)(c0:Int):(L.foldl (λc e=>if jn e x y=true then e.c else c) c0=c0/\∀e∈L,jn e x y=false)∨∃e∈L,jn e x y=true/\L.foldl (λc e=>if jn e x y=true then e.c else c) c0=e.c:=by
 induction L generalizing c0 with
 | nil=>simp
 | cons e r ih=>
   rw[List.foldl_cons];cases h:jn e x y with
   | true=>
     rw[if_pos rfl];rcases ih e.c with⟨h1,h2⟩|⟨f,h1,h2,h3⟩
     ·exact .inr ⟨e,by simp,h,h1⟩
     ·exact .inr ⟨f,by simp[h1],h2,h3⟩
   | false=>
     rw[if_neg (by simp)];rcases ih c0 with⟨h1,h2⟩|⟨f,h1,h2,h3⟩
     ·refine .inl ⟨h1,λf hf=>?_⟩;rcases Ξf.1 hf with rfl|hf
      ·exact h
      ·exact h2 f hf
     ·exact .inr ⟨f,by simp[h1],h2,h3⟩
theorem ξc3(L:List Ed)(x y:Int):(cst L x y=0/\∀e∈L,jn e x y=false)∨∃e∈L,jn e x y=true/\cst L x y=e.c:=ξa5 x y L 0
theorem ξ2u(hF:∀e∈L,okE n e=true)(x y:Int):0<=cst L x y/\cst L x y<=1000000/\(0<cst L x y->0<=x/\x<n/\0<=y/\y<n/\x≠y):=by
 rcases ξc3 L x y with⟨h,_⟩|⟨e,he,h1,h2⟩
 ·rw[h];exact⟨by omega,by omega,λq=>absurd q (by omega)⟩
 ·have:=ξ8y.1 (hF e he);rw[ξ77]at h1;rw[h2];refine⟨by omega,by omega,λ_=>?_⟩;rcases h1 with⟨a1,a2⟩|⟨a1,a2⟩<;>(rw[<-a1,<-a2];omega)
theorem ξdW(hF:∀e∈L,okE n e=true)(x:Int):cst L x x=0:=by
 obtain⟨h1,_,h3⟩:=ξ2u hF x x;rcases Int.lt_or_eq_of_le h1 with h|h
 ·exact absurd rfl (h3 h).2.2.2.2
 ·exact h.symm
def dg(d:List Int)(x:Nat):Int:=d.getD x (-1)
theorem ξc1{e:List Int}(hl:d.length=e.length)(h:∀x,x<d.length->dg d x=dg e x):d=e:=by
 apply List.ext_getElem hl;intro i h1 h2;have:=h i h1;simpa[dg,List.getD_eq_getElem?_getD,List.getElem?_eq_getElem h1,List.getElem?_eq_getElem h2]using this
theorem ξ7r(h:d.length<=x):dg d x=-1:=by
 simp[dg,List.getD_eq_getElem?_getD,List.getElem?_eq_none h]
theorem ξ4Q(hy:y<d.length)(v:Int)(x:Nat):dg (d.set y v) x=if x=y then v else dg d x:=by
 unfold dg;rw[Ξa,List.getElem?_set];by_cases h:y=x
 ·subst h;rw[if_pos rfl,if_pos hy,if_pos rfl];rfl
 ·rw[if_neg h,if_neg (λq=>h q.symm),Ξa]
theorem ξc0(n:Nat)(x:Nat):dg (List.replicate n (-1)) x=-1:=by
 unfold dg;rw[Ξa,List.getElem?_replicate];split<;>rfl
def A90(L:List Ed)(n root:Nat):Nat->Nat->Int->Prop
 | 0,x,s=>x=root/\s=0
 | k+1,y,s=>∃x:Nat,x<n/\0<cst L x y/\A90 L n root k x (s-cst L x y)
def Way(L:List Ed)(n root x:Nat)(s:Int):Prop:=∃k,A90 L n root k x s
theorem Way.here(L:List Ed)(n root:Nat):Way L n root root 0:=⟨0,rfl,rfl⟩
theorem Way.step{root:Nat}(h:Way L n root x s)(hx:x<n)(hc:0<cst L x y):Way L n root y (s+cst L x y):=by
 obtain⟨k,hk⟩:=h;refine⟨k+1,x,hx,hc,?_⟩;rw[show s+cst L x y-cst L x y=s by omega];exact hk
theorem ξ3R{root:Nat}:∀(k x:Nat) (s:Int),A90 L n root k x s->0<=s
 | 0,x,s,h=>by have:=h.2;omega
 | k+1,y,s,⟨x,_,hc,h⟩=>by have:=ξ3R k x _ h;omega
theorem Way.A6i{root:Nat}(h:Way L n root x s):0<=s:=by
 obtain⟨k,hk⟩:=h;exact ξ3R k x s hk
structure A0z(L:List Ed)(n root:Nat)(d:List Int):Prop where
 len:d.length=n
 is:∀x,x<n->(dg d x=-1/\∀s,¬Way L n root x s)∨(Way L n root x (dg d x)/\∀s,Way L n root x s->dg d x<=s)
theorem ξ3y{root:Nat}(hl:d.length=n)(hr:root<n)(h0:dg d root=0)(ha:∀x,x<n->dg d x=-1∨Way L n root x (dg d x))
 (hrel:∀x,x<n->0<=dg d x->∀y,y<n->0<cst L x y->0<=dg d y/\dg d y<=dg d x+cst L x y):A0z L n root d:=by
 have key:∀k x s,x<n->A90 L n root k x s->0<=dg d x/\dg d x<=s:=by
  intro k
  induction k with
  | zero=>rintro x s hx ⟨rfl,rfl⟩;omega
  | succ k ih=>
    rintro y s hy ⟨x,hx,hc,hw⟩;obtain⟨h1,h2⟩:=ih x _ hx hw;have:=hrel x hx h1 y hy hc;omega
 refine⟨hl,λx hx=>?_⟩;rcases ha x hx with h|h
 ·refine .inl ⟨h,?_⟩;rintro s ⟨k,hk⟩;have:=key k x s hx hk;omega
 ·refine .inr ⟨h,?_⟩;rintro s ⟨k,hk⟩;exact(key k x s hx hk).2
theorem A0z.uniq{root:Nat}{e:List Int}(h:A0z L n root d)(g:A0z L n root e):d=e:=by
 refine ξc1 (by rw[h.len,g.len]) λx hx=>?_;rw[h.len]at hx;rcases h.is x hx with⟨a1,a2⟩|⟨a1,a2⟩<;>rcases g.is x hx with⟨b1,b2⟩|⟨b1,b2⟩
 ·rw[a1,b1]
 ·exact absurd b1 (a2 _)
 ·exact absurd a1 (b2 _)
 ·have:=a2 _ b1;have:=b2 _ a1;omega
theorem A0z.low{root:Nat}(h:A0z L n root d)(x:Nat):-1<=dg d x:=by
 rcases Nat.lt_or_ge x n with hx|hx
 ·rcases h.is x hx with⟨a1,_⟩|⟨a1,_⟩
  ·omega
  ·have:=a1.A6i;omega
 ·rw[ξ7r (by rw[h.len];exact hx)];omega
theorem A0z.way{root:Nat}(h:A0z L n root d)(hx:x<n)(h0:0<=dg d x):Way L n root x (dg d x):=by
 rcases h.is x hx with⟨a1,_⟩|⟨a1,_⟩
 ·omega
 ·exact a1
theorem A0z.le{root:Nat}(h:A0z L n root d)(hx:x<n)(hw:Way L n root x s):0<=dg d x/\dg d x<=s:=by
 rcases h.is x hx with⟨_,a2⟩|⟨a1,a2⟩
 ·exact absurd hw (a2 s)
 ·exact⟨a1.A6i,a2 s hw⟩
theorem A0z.root{root:Nat}(h:A0z L n root d)(hr:root<n):dg d root=0:=by
 have:=h.le hr (Way.here L n root);omega
theorem A0z.rel{root:Nat}(h:A0z L n root d)(hx:x<n)(hy:y<n)(h0:0<=dg d x)(hc:0<cst L x y):0<=dg d y/\dg d y<=dg d x+cst L x y:=
 h.le hy ((h.way hx h0).step hx hc)
theorem A0z.pred{root:Nat}(h:A0z L n root d)(hy:y<n)(h0:0<=dg d y)(hne:y≠root):∃x,x<n/\0<=dg d x/\0<cst L x y/\dg d x+cst L x y=dg d y:=by
 obtain⟨k,hk⟩:=h.way hy h0;cases k with
 | zero=>exact absurd hk.1 hne
 | succ k=>
   obtain⟨x,hx,hc,hw⟩:=hk;obtain⟨h1,h2⟩:=h.le hx ⟨k,hw⟩;have:=h.rel hx hy h1 hc;exact⟨x,hx,h1,hc,by omega⟩
theorem ξby(p:Int->Prop)(hp:∀s,p s->0<=s)(h:∃s,p s):∃s,p s/\∀t,p t->s<=t:=by
 have key:∀k:Nat,∀s,p s->s<=(k:Int)->∃s,p s/\∀t,p t->s<=t:=by
  intro k
  induction k with
  | zero=>intro s hs hk;exact⟨s,hs,λt ht=>by have:=hp t ht;omega⟩
  | succ k ih=>
    intro s hs hk;by_cases q:∃t,p t/\t<=(k:Int)
    ·obtain⟨t,ht,ae⟩:=q;exact ih t ht ae
    ·refine⟨s,hs,λt ht=>?_⟩;rcases Int.lt_or_le (k:Int) t with h'|h'
     ·omega
     ·exact absurd ⟨t,ht,h'⟩ q
 obtain⟨s,hs⟩:=h;exact key s.toNat s hs (by have:=hp s hs;omega)
theorem ξfH(L:List Ed)(n root:Nat):∃d,A0z L n root d:=by
 have key:∀x,∃v:Int,(v=-1/\∀s,¬Way L n root x s)∨(Way L n root x v/\∀s,Way L n root x s->v<=s):=by
  intro x;by_cases q:∃s,Way L n root x s
  ·obtain⟨s,h1,h2⟩:=ξby _ (λs hs=>Way.A6i hs) q;exact⟨s,.inr ⟨h1,h2⟩⟩
  ·exact⟨-1,.inl ⟨rfl,λs hs=>q ⟨s,hs⟩⟩⟩
 have ae:∀m:Nat,∃d:List Int,d.length=m/\∀x,x<m->(dg d x=-1/\∀s,¬Way L n root x s)∨(Way L n root x (dg d x)/\∀s,Way L n root x s->dg d x<=s):=by
  intro m
  induction m with
  | zero=>exact⟨[],rfl,λx hx=>absurd hx (by omega)⟩
  | succ m ih=>
    obtain⟨d,hl,hd⟩:=ih;obtain⟨v,hv⟩:=key m;refine⟨d++[v],by simp[hl],λx hx=>?_⟩;by_cases e:x<m
    ·have:dg (d++[v]) x=dg d x:=by unfold dg;rw[Ξa,Ξt (by omega),Ξa]
     rw[this];exact hd x e
    ·have e:x=m:=by omega
     subst e;have:dg (d++[v]) x=v:=by unfold dg;rw[Ξa,List.getElem?_append_right (by omega)];simp[hl]
     rw[this];exact hv
 obtain⟨d,hl,hd⟩:=ae n;exact⟨d,hl,hd⟩
def cn(S:Nat->Bool):Nat->Nat
 | 0=>0
 | n+1=>cn S n+(if S n=true then 1 else 0)
theorem ξ6l(S:Nat->Bool)(n:Nat):cn S n<=n:=by
 induction n with
 | zero=>simp[cn]
 | succ n ih=>rw[cn];split<;>omega
theorem ξfs(h:∀x,x<n->S x=true->T x=true):cn S n<=cn T n:=by
 induction n with
 | zero=>simp[cn]
 | succ n ih=>
   have:=ih λx hx=>h x (by omega);rw[cn,cn];by_cases q:S n=true
   ·rw[if_pos q,if_pos (h n (by omega) q)];omega
   ·rw[if_neg q];split<;>omega
theorem ξ5i(h:∀x,x<n->S x=true->T x=true)(hy:y<n)(h1:S y=false)(h2:T y=true):cn S n<cn T n:=by
 induction n with
 | zero=>omega
 | succ n ih=>
   rw[cn,cn];by_cases q:y=n
   ·subst q;have:=ξfs (S:=S) (T:=T) (n:=y) λx hx=>h x (by omega);rw[if_neg (by rw[h1];simp),if_pos h2];omega
   ·have:=ih (λx hx=>h x (by omega)) (by omega);by_cases q:S n=true
    ·rw[if_pos q,if_pos (h n (by omega) q)];omega
    ·rw[if_neg q];split<;>omega
theorem ξeh(hy:y<n)(h1:S y=false):cn S n<n:=
 Ξn (ξ5i (T:=λ_=>true) (λ_ _ _=>rfl) hy h1 rfl) (ξ6l _ _)
def upd{α:Type}(F:Nat->α)(y:Nat)(v:α):Nat->α:=λj=>if j=y then v else F j
def nv(L:List Ed)(d:List Int)(f x:Nat):Int:=if 0<cst L f x/\(dg d x=-1∨dg d f+cst L f x<dg d x)then dg d f+cst L f x else dg d x
structure A7i(L:List Ed)(n root:Nat)(d:List Int)(S:Nat->Bool):Prop where
 len:d.length=n
 rt:dg d root=0
 ach:∀x,x<n->dg d x=-1∨Way L n root x (dg d x)
 pos:∀x,x<n->S x=true->0<=dg d x
 rel:∀x,x<n->S x=true->∀y,y<n->0<cst L x y->0<=dg d y/\dg d y<=dg d x+cst L x y
 ord:∀x,x<n->∀y,y<n->S x=true->S y=false->0<=dg d y->dg d x<=dg d y
 bd:∀x,x<n->dg d x<=1000000*(cn S n:Int)
theorem A7i.low{root:Nat}(h:A7i L n root d S)(hx:x<n):dg d x=-1∨0<=dg d x:=by
 rcases h.ach x hx with q|q
 ·exact .inl q
 ·exact .inr q.A6i
theorem ξac(L:List Ed){root:Nat}(hr:root<n):A7i L n root ((List.replicate n (-1)).set root 0) (λ_=>false):=by
 have e:∀x,dg ((List.replicate n (-1)).set root 0) x=if x=root then 0 else -1:=λx=>by
  rw[ξ4Q (by simpa using hr),ξc0]
 refine⟨by simp,by rw[e,if_pos rfl],λx hx=>?_,λx _ h=>by simp at h,λx _ h=>by simp at h,λx _ y _ h=>by simp at h,λx _=>?_⟩
 ·rw[e];by_cases q:x=root
  ·subst q;rw[if_pos rfl];exact .inr (Way.here _ _ _)
  ·rw[if_neg q];exact .inl rfl
 ·rw[e];split<;>omega
def A2k(d:List Int)(S:Nat->Bool)(j:Nat)(f:Int):Prop:=(f=-1/\∀x,x<j->dg d x≠-1->S x=true)∨∃k:Nat,f=(k:Int)/\k<j/\dg d k≠-1/\S k=false/\∀y,y<j->S y=false->dg d y≠-1->dg d k<=dg d y
theorem ξ9F(d:List Int)(S:Nat->Bool):A2k d S 0 (-1):=.inl ⟨rfl,λx hx=>absurd hx (by omega)⟩
theorem ξ5L(h:A2k d S j f)(hj:dg d j=-1∨S j=true):A2k d S (j+1) f:=by
 rcases h with⟨h1,h2⟩|⟨k,h1,h2,h3,h4,h5⟩
 ·refine .inl ⟨h1,λx hx hn=>?_⟩;by_cases e:x=j
  ·subst e;rcases hj with q|q
   ·exact absurd q hn
   ·exact q
  ·exact h2 x (by omega) hn
 ·refine .inr ⟨k,h1,by omega,h3,h4,λy hy hs hn=>?_⟩;by_cases e:y=j
  ·subst e;rcases hj with q|q
   ·exact absurd q hn
   ·rw[hs]at q;simp at q
  ·exact h5 y (by omega) hs hn
theorem ξ9G(h:A2k d S j (-1))(h1:dg d j≠-1)(h2:S j=false):A2k d S (j+1) (j:Int):=by
 rcases h with⟨_,h3⟩|⟨k,h3,_⟩
 ·refine .inr ⟨j,rfl,by omega,h1,h2,λy hy hs hn=>?_⟩;by_cases e:y=j
  ·subst e;omega
  ·have:=h3 y (by omega) hn;rw[hs]at this;simp at this
 ·omega
theorem ξbn(h:A2k d S j (k:Int))(h1:dg d j≠-1)(h2:S j=false)(hl:dg d j<dg d k):A2k d S (j+1) (j:Int):=by
 rcases h with⟨h3,_⟩|⟨k',h3,h4,h5,h6,h7⟩
 ·omega
 ·have e:k'=k:=by omega
  subst e;refine .inr ⟨j,rfl,by omega,h1,h2,λy hy hs hn=>?_⟩;by_cases e:y=j
  ·subst e;omega
  ·have:=h7 y (by omega) hs hn;omega
theorem ξbm(h:A2k d S j (k:Int))(hl:¬dg d j<dg d k):A2k d S (j+1) (k:Int):=by
 rcases h with⟨h3,_⟩|⟨k',h3,h4,h5,h6,h7⟩
 ·omega
 ·have e:k'=k:=by omega
  subst e;refine .inr ⟨k',rfl,by omega,h5,h6,λy hy hs hn=>?_⟩;by_cases e:y=j
  ·subst e;omega
  ·exact h7 y (by omega) hs hn
theorem ξ4G(h:A2k d S j f):f=-1∨∃k:Nat,f=(k:Int)/\k<j:=by
 rcases h with⟨h,_⟩|⟨k,h,h2,_⟩
 ·exact .inl h
 ·exact .inr ⟨k,h,h2⟩
theorem ξ8z(hF:∀e∈L,okE n e=true)(d:List Int)(f:Nat):nv L d f f=dg d f:=by
 unfold nv;rw[ξdW hF,if_neg (by omega)]
theorem ξbZ{root:Nat}{c:List Int}(hF:∀e∈L,okE n e=true)(h:A7i L n root d S)(hk:k<n)(hr:root<n)(hN:A2k d S n (k:Int))(hl:c.length=n)(hc:∀x,x<n->dg c x=nv L d k x) :
 A7i L n root c (upd S k true)/\cn S n<cn (upd S k true) n:=by
 obtain⟨h5,h6,h7⟩:dg d k≠-1/\S k=false/\∀y,y<n->S y=false->dg d y≠-1->dg d k<=dg d y:=by
  rcases hN with⟨h3,_⟩|⟨k',h3,h4,h5,h6,h7⟩
  ·omega
  ·have e:k'=k:=by omega
   subst e;exact⟨h5,h6,h7⟩
 have aj:0<=dg d k:=by rcases h.low hk with q|q<;>omega
 have ae:∀x,upd S k true x=true↔x=k∨S x=true:=λx=>by
  unfold upd;split
  ·rename_i q;simp[q]
  ·rename_i q;simp[q]
 have ah:∀x,upd S k true x=false↔x≠k/\S x=false:=λx=>by
  unfold upd;split
  ·rename_i q;simp[q]
  ·rename_i q;simp[q]
 have aq:cn S n<cn (upd S k true) n:=ξ5i (λx _ hs=>(ae x).2 (.inr hs)) hk h6 ((ae k).2 (.inl rfl));have old:∀x,x<n->S x=true->nv L d k x=dg d x:=λx hx hs=>by
  have h1:=h.ord x hx k hk hs h6 aj;have h2:=h.pos x hx hs;unfold nv;rw[if_neg];omega
 have ck:nv L d k k=dg d k:=ξ8z hF d k;have au:∀y,y<n->0<=dg d y->0<=nv L d k y/\nv L d k y<=dg d y:=λy hy h0=>by
  unfold nv;split<;>omega
 have am:=λy:Nat=>ξ2u hF (k:Int) (y:Int);refine⟨⟨hl,?_,?_,?_,?_,?_,?_⟩,aq⟩
 ·rw[hc root hr];have:=h.rt;unfold nv;rw[if_neg];· exact this
  omega
 ·intro x hx;rw[hc x hx];unfold nv;split
  ·rename_i q
   right
   rcases h.ach k hk with w|w
   ·omega
   ·exact w.step hk q.1
  ·exact h.ach x hx
 ·intro x hx hs;rw[hc x hx];rcases(ae x).1 hs with e|e
  ·subst e;omega
  ·rw[old x hx e];exact h.pos x hx e
 ·intro x hx hs y hy aw;rw[hc x hx,hc y hy];rcases(ae x).1 hs with e|e
  ·subst e;rw[ck];rcases h.low hy with q|q<;>(unfold nv;split<;>omega)
  ·rw[old x hx e];obtain⟨h1,h2⟩:=h.rel x hx e y hy aw;have:=au y hy h1;omega
 ·intro x hx y hy hs hn h0;rw[hc y hy]at h0 ⊢;rw[hc x hx];obtain⟨n1,n2⟩:=(ah y).1 hn;have ai:dg d k<=nv L d k y:=by
   unfold nv at h0 ⊢;have:=am y;split
   ·omega
   ·rename_i q;rw[if_neg q]at h0;exact h7 y hy n2 (by omega)
  rcases(ae x).1 hs with e|e
  ·subst e;rw[ck];exact ai
  ·rw[old x hx e];have:=h.ord x hx k hk e h6 aj;omega
 ·intro x hx;rw[hc x hx];have h1:=h.bd x hx;have h2:=h.bd k hk;have h3:=am x;have h4:(cn S n:Int)+1<=cn (upd S k true) n:=by omega
  unfold nv;split<;>omega
theorem ξdS{root:Nat}(h:A7i L n root d S)(hr:root<n)(hN:A2k d S n (-1)):A0z L n root d/\∀x,dg d x<=16000000∨16<n:=by
 have ae:∀x,x<n->dg d x≠-1->S x=true:=by
  rcases hN with⟨_,h3⟩|⟨k,h3,_⟩
  ·exact h3
  ·omega
 refine⟨ξ3y h.len hr h.rt h.ach λx hx h0 y hy hc=>h.rel x hx (ae x hx (by omega)) y hy hc,λx=>?_⟩;by_cases q:x<n
 ·have:=h.bd x q;have:=ξ6l S n;omega
 ·rw[ξ7r (by rw[h.len];omega)];omega
def good(L:List Ed)(d:List Int)(i f:Nat):Prop:=0<cst L f i/\dg d f+cst L f i=dg d i
def A61(L:List Ed)(d:List Int)(m i:Nat)(p:Int):Prop:=(p=-1/\∀f,f<m->¬good L d i f)∨∃k:Nat,p=(k:Int)/\k<m/\good L d i k/\∀f,f<k->¬good L d i f
theorem A61.uniq{p q:Int}(h:A61 L d m i p)(g:A61 L d m i q):p=q:=by
 rcases h with⟨a1,a2⟩|⟨k,a1,a2,a3,a4⟩<;>rcases g with⟨b1,b2⟩|⟨k',b1,b2,b3,b4⟩
 ·omega
 ·exact absurd b3 (a2 k' b2)
 ·exact absurd a3 (b2 k a2)
 ·rcases Nat.lt_trichotomy k k' with q|q|q
  ·exact absurd a3 (b4 k q)
  ·omega
  ·exact absurd b3 (a4 k' q)
structure A15(L:List Ed)(d:List Int)(n:Nat)(P:List Int):Prop where
 len:P.length=n
 is:∀i,i<n->A61 L d n i (dg P i)
theorem A15.uniq{Q:List Int}(h:A15 L d n P)(g:A15 L d n Q):P=Q:=
 ξc1 (by rw[h.len,g.len]) λx hx=>(h.is x (by rw[h.len]at hx;exact hx)).uniq (g.is x (by rw[h.len]at hx;exact hx))
theorem A15.range(h:A15 L d n P)(hi:i<n):-1<=dg P i/\dg P i<n:=by
 rcases h.is i hi with⟨a1,a2⟩|⟨k,a1,a2,a3,a4⟩<;>omega
theorem A15.par(h:A15 L d n P)(hi:i<n)(h0:0<=dg P i):∃k:Nat,dg P i=(k:Int)/\k<n/\0<cst L k i/\dg d k+cst L k i=dg d i:=by
 rcases h.is i hi with⟨a1,a2⟩|⟨k,a1,a2,a3,a4⟩
 ·omega
 ·exact⟨k,a1,a2,a3.1,a3.2⟩
theorem ξ9W{root f:Nat}(hD:A0z L n root d)(hr:root<n)(hi:i<n)(hf:f<n)(hg:good L d i f):i≠root/\0<=dg d i/\0<=dg d f:=by
 obtain⟨h1,h2⟩:=hg;have l1:=hD.low i;have l2:=hD.low f;have h3:0<=dg d i:=by omega
 have h4:0<=dg d f:=(hD.rel hi hf h3 (by rw[ξdX];exact h1)).1;refine⟨?_,h3,h4⟩;rintro rfl;have:=hD.root hi;omega
theorem ξcW{root:Nat}(hD:A0z L n root d)(hP:A15 L d n P)(hi:i<n)(h0:0<=dg d i)(hne:i≠root):0<=dg P i:=by
 obtain⟨x,hx,_,h1,h2⟩:=hD.pred hi h0 hne;rcases hP.is i hi with⟨a1,a2⟩|⟨k,a1,_⟩
 ·exact absurd ⟨h1,h2⟩ (a2 x hx)
 ·omega
theorem ξ2p{root:Nat}(hD:A0z L n root d)(hr:root<n)(hP:A15 L d n P)(hi:i<n)(h0:0<=dg P i):∃k:Nat,dg P i=(k:Int)/\k<n/\0<cst L k i/\dg d k+cst L k i=dg d i/\0<=dg d k/\0<=dg d i/\i≠root:=by
 obtain⟨k,h1,h2,h3,h4⟩:=hP.par hi h0;have:=ξ9W hD hr hi h2 ⟨h3,h4⟩;exact⟨k,h1,h2,h3,h4,this.2.2,this.2.1,this.1⟩
def pa(P:List Int)(x:Int):Int:=if x<0 then -1 else dg P x.toNat
def anc(P:List Int):Nat->Int->Int
 | 0,x=>x
 | k+1,x=>anc P k (pa P x)
theorem ξbe(P:List Int):pa P (-1)=-1:=by simp[pa]
theorem ξ2D(P:List Int)(x:Nat):pa P (x:Int)=dg P x:=by
 unfold pa;rw[if_neg (by omega)];rfl
theorem ξ5m(P:List Int)(k:Nat):anc P k (-1)=-1:=by
 induction k with
 | zero=>rfl
 | succ k ih=>rw[anc,ξbe,ih]
theorem ξfB(P:List Int)(k:Nat)(x:Int):anc P (k+1) x=pa P (anc P k x):=by
 induction k generalizing x with
 | zero=>rfl
 | succ k ih=>rw[anc,ih];rfl
theorem ξch(P:List Int){x:Int}(h:anc P k x=-1):anc P (k+1) x=-1:=by rw[ξfB,h,ξbe]
theorem ξe7(P:List Int){x:Int}(h:anc P k x=-1)(hm:k<=m):anc P m x=-1:=by
 induction hm with
 | refl=>exact h
 | step _ ih=>exact ξch P ih
def Rng(P:List Int):Prop:=∀i,i<P.length->-1<=dg P i/\dg P i<P.length
theorem ξbd(h:Rng P)(x:Nat):pa P (x:Int)=-1∨∃y:Nat,pa P (x:Int)=(y:Int)/\y<P.length:=by
 rw[ξ2D];rcases Nat.lt_or_ge x P.length with q|q
 ·have:=h x q;by_cases e:dg P x=-1
  ·exact .inl e
  ·exact .inr ⟨(dg P x).toNat,by omega,by omega⟩
 ·exact .inl (ξ7r q)
theorem ξci(h:Rng P):∀k:Nat,(∃x:Nat,x<P.length/\anc P (k+1) (x:Int)=-1/\anc P k (x:Int)≠-1)->k<=cn (λx=>decide (anc P k (x:Int)=-1)) P.length:=by
 intro k
 induction k with
 | zero=>intro _;omega
 | succ k ih=>
   rintro⟨x,hx,h1,h2⟩;rcases ξbd h x with e|⟨y,e,hy⟩
   ·refine absurd ?_ h2;rw[anc,e,ξ5m]
   ·rw[anc,e]at h1 h2;have h3:=ih ⟨y,hy,h1,h2⟩;have:=ξ5i (S:=λx:Nat=>decide (anc P k (x:Int)=-1)) (T:=λx:Nat=>decide (anc P (k+1) (x:Int)=-1)) (n:=P.length) (y:=y)
     (λz _ hz=>by simp at hz ⊢;exact ξch P hz) hy (by simp;exact h2) (by simp;exact h1)
    omega
theorem ξe6(h:Rng P)(hx:x<P.length)(h1:anc P (P.length+1) (x:Int)=-1):anc P P.length (x:Int)=-1:=by
 by_cases q:anc P P.length (x:Int)=-1
 ·exact q
 ·have h2:=ξci h P.length ⟨x,hx,h1,q⟩;have:=ξeh (S:=λz:Nat=>decide (anc P P.length (z:Int)=-1)) hx (by simp;exact q);omega
theorem ξfC(h:Rng P):∀(k x:Nat),x<P.length->anc P k (x:Int)=-1->anc P P.length (x:Int)=-1:=by
 intro k
 induction k with
 | zero=>intro x hx h1;rw[anc]at h1;omega
 | succ k ih=>
   intro x hx h1;rw[anc]at h1;rcases ξbd h x with e|⟨y,e,hy⟩
   ·refine ξe7 P (k:=1) ?_ (by omega);rw[anc,e];rfl
   ·rw[e]at h1;refine ξe6 h hx ?_;rw[anc,e];exact ih y hy h1
def en(P:List Int)(x:Nat):Bool:=decide (anc P P.length (x:Int)=-1)
def bad(P:List Int)(p:Int):Bool:=!decide (p=-1)&&!isn P.length p
def pf(P:List Int):Nat:=if 16<P.length then 4 else if P.any (bad P)=true then 1 else if (List.range P.length).any (λx=>!en P x)=true then 3 else 0
structure Ok(P:List Int):Prop where
 len:P.length<=16
 rng:Rng P
 ends:∀x,x<P.length->anc P P.length (x:Int)=-1
theorem ξ5l:P.any (bad P)=false↔Rng P:=by
 constructor
 ·intro h i hi;have h1:=(List.any_eq_false.1 h) _ (List.getElem_mem hi);have e:dg P i=P[i]:=by simp[dg,List.getD_eq_getElem?_getD,List.getElem?_eq_getElem hi]
  rw[<-e]at h1;simp[bad,isn]at h1;by_cases q:dg P i=-1
  ·omega
  ·have:=h1 q;omega
 ·intro h;rw[List.any_eq_false];intro p hp;obtain⟨i,hi,e⟩:=List.mem_iff_getElem.1 hp;have e:dg P i=p:=by simp[dg,List.getD_eq_getElem?_getD,List.getElem?_eq_getElem hi,e]
  have:=h i hi;rw[e]at this;simp[bad,isn];omega
theorem ξ1B:pf P=0↔Ok P:=by
 unfold pf;by_cases h1:16<P.length
 ·rw[if_pos h1];constructor
  ·intro q;omega
  ·intro q;have:=q.len;omega
 ·rw[if_neg h1];cases h2:P.any (bad P)with
  | true=>
    rw[if_pos rfl];constructor
    ·intro q;omega
    ·intro q;rw[ξ5l.2 q.rng]at h2;simp at h2
  | false=>
    rw[if_neg (by simp)];cases h3:(List.range P.length).any (λx=>!en P x)with
    | true=>
      rw[if_pos rfl];constructor
      ·intro q;omega
      ·intro q;obtain⟨x,hx,h4⟩:=List.any_eq_true.1 h3;have:=q.ends x (by simpa using hx);simp[en,this]at h4
    | false=>
      rw[if_neg (by simp)];refine⟨λ_=>⟨by omega,ξ5l.1 h2,λx hx=>?_⟩,λ_=>rfl⟩;have:=(List.any_eq_false.1 h3) x (by simpa using hx);simpa[en]using this
def wu(P:List Int):Nat->Int->List Int
 | 0,_=>[]
 | k+1,x=>if x<0 then[]else x::wu P k (pa P x)
theorem ξfI(P:List Int)(k:Nat):wu P k (-1)=[]:=by
 cases k with
 | zero=>rfl
 | succ k=>rw[wu,if_pos (by omega)]
theorem ξgi(P:List Int)(k:Nat)(x:Int):(wu P k x).length<=k:=by
 induction k generalizing x with
 | zero=>simp[wu]
 | succ k ih=>
   rw[wu];split
   ·simp
   ·have:=ih (pa P x);simp;omega
theorem ξ8a{x:Int}(hx:0<=x)(h:anc P k x=-1):∃m,k=m+1/\wu P k x=x::wu P m (pa P x)/\anc P m (pa P x)=-1:=by
 cases k with
 | zero=>rw[anc]at h;omega
 | succ k=>exact⟨k,rfl,by rw[wu,if_neg (by omega)],h⟩
def kd(P:List Int)(x:Int)(j:Nat):List Int:=((List.range j).filter λi=>decide (dg P i=x)).map Int.ofNat
theorem ξ8J(P:List Int)(x:Int)(j:Nat):kd P x (j+1)=if dg P j=x then kd P x j++[(j:Int)]else kd P x j:=by
 unfold kd;rw[List.range_succ,List.filter_append,List.map_append];by_cases h:dg P j=x
 ·rw[if_pos h];simp[h]
 ·rw[if_neg h];simp[h]
theorem ξ76(P:List Int)(x:Int)(j:Nat):(kd P x j).length<=j:=by
 induction j with
 | zero=>simp[kd]
 | succ j ih=>
   rw[ξ8J];split
   ·rw[Ξh,List.length_singleton];omega
   ·omega
def bf(P:List Int)(x:Int):Nat:=if pf P≠0 then pf P else if isn P.length x=false then 1 else 0
def lf(n:Int)(L:List Ed)(r:Int):Nat:=if ef n L≠0 then ef n L else if isn n r=false then 1 else 0
theorem ξfx{x:Int}(h:bf P x=0):Ok P/\∃k:Nat,x=(k:Int)/\k<P.length:=by
 unfold bf at h;split at h
 ·rename_i q;exact absurd h q
 ·rename_i q;split at h
  ·omega
  ·rename_i q2;refine⟨ξ1B.1 (by simpa using q),x.toNat,?_⟩;simp[isn]at q2;omega
theorem ξgD(h:Ok P)(hk:k<P.length):bf P (k:Int)=0:=by
 unfold bf;rw[if_neg (by simpa using ξ1B.2 h),if_neg (by simp[isn,hk])]
theorem ξ8F{n r:Int}(h:lf n L r=0):∃m k:Nat,n=(m:Int)/\r=(k:Int)/\k<m/\Fit m L:=by
 unfold lf at h;split at h
 ·rename_i q;exact absurd h q
 ·rename_i q;split at h
  ·omega
  ·rename_i q2;obtain⟨h0,hF⟩:=ξ2d.1 (by simpa using q);simp[isn]at q2;exact⟨n.toNat,r.toNat,by omega,by omega,by omega,hF⟩
theorem ξeM{root:Nat}(hF:Fit n L)(hD:A0z L n root d)(hr:root<n)(hP:A15 L d n P):Ok P:=by
 have hl:=hP.len;have hR:Rng P:=λi hi=>by have:=hP.range (i:=i) (by omega);omega
 refine⟨by rw[hl];exact hF.hi,hR,λx hx=>?_⟩;have key:∀k x:Nat,x<n->dg d x<(k:Int)->anc P (k+1) (x:Int)=-1:=by
  intro k
  induction k with
  | zero=>
    intro x hx hk;rw[anc,anc,ξ2D];by_cases q:0<=dg P x
    ·obtain⟨_,_,_,_,_,_,h6,_⟩:=ξ2p hD hr hP hx q;omega
    ·have:=hP.range hx;omega
  | succ k ih=>
    intro x hx hk;rw[anc,ξ2D];by_cases q:0<=dg P x
    ·obtain⟨y,e,hy,h3,h4,_,_,_⟩:=ξ2p hD hr hP hx q;rw[e];exact ih y hy (by omega)
    ·have e:dg P x=-1:=by have:=hP.range hx;omega
     rw[e,ξ5m]
 exact ξfC hR _ x hx (key ((dg d x).toNat+1) x (by omega) (by omega))
end Go.Proofs.YtpiamlgmadnepaaGreat.TM
