/-
 TopRM, TopRR, TopRA, TopRB, TopRC, TopRD in one text.
-/
import Derived.Test.YtpiamlgmadnepaaGreatMathAll
import Derived.Test.YtpiamlgmadnepaaGreatAuditAll
import Derived.Test.YtpiamlgmadnepaaGreatGapsAll
import Derived.Test.YtpiamlgmadnepaaGreatOrderAll
import Derived.Test.YtpiamlgmadnepaaGreatLayAll
import Derived.Test.YtpiamlgmadnepaaGreatNodeEnd
import Derived.Deep.AppendLies
import Derived.Lib.OwnKind
import Derived.Test.YtpiamlgmadnepaaGreatTopAP
import Derived.LoopTactic
import Derived.Deep.CutRange
import Derived.Deep.LoopGhost
set_option linter.unusedVariables false
set_option maxHeartbeats 4000000
set_option maxRecDepth 100000
namespace Go.Proofs.YtpiamlgmadnepaaGreat.TR
def GoodP (L:Int) (j:Nat) (p:OM.Pk):Prop:=p.s=(L+(j:Int))%65536/\p.t=0/\p.l=0/\p.q=0/\p.st=true/\p.L=[j]
def GoodI (L:Int) (i:OM.Kp):Prop:=L<=i.n/\i.n<L+64/\(i.g=false->GoodP L (i.n - L).toNat i.p)
structure GI (L nw T:Int) (M:GM.Its) (C:Nat->Bool):Prop where
 inv:GM.Inv 2 2 nw T M
 low:∀ x∈M,L<=x.n
 top:T=-1∨(L<=T/\T<L+64)
 len:M=[]∨(M.length:Int)<=T - L
 non:T=-1->M=[]
 came:∀ i:Nat,C i=true->i<64/\L+(i:Int)<=T/\GM.has M (L+(i:Int))=false
theorem ξc0 {L:Int}:GI L 0 (-1) [] (fun _=>false):=
 ⟨GM.ξA (by omega) (by omega) (by omega) (by omega),by simp,.inl rfl,.inl rfl,fun _=>rfl,fun i h=>by cases h⟩
def setC (C:Nat->Bool) (i:Nat):Nat->Bool:=fun k=>if k=i then true else C k
theorem ξ8P {M:GM.Its} {y:Int} (h:∀ i∈M,i.n≠y):GM.has M y=false:=by
 cases hh:GM.has M y with
 | false=>rfl
 | true=>obtain ⟨i,hi,he⟩:=GM.ξm.1 hh;exact absurd he (h i hi)
theorem ξ7Y {nw now:Int} (h0:0<=now) (h1:now<=1000000) (h2:nw<=now):GM.tf nw now=0:=by unfold GM.tf;rw [if_neg (by omega),if_neg (by omega)]
theorem GI.hear_ok {L nw T now:Int} {M:GM.Its} {C:Nat->Bool} (h:GI L nw T M C) {i:Nat} (hi:i<64) (hL:0<=L) (hL2:L<=2000000000) (h0:0<=now) (h1:now<=1000000) (h2:nw<=now):GM.hf nw T M (L+(i:Int)) now=0:=by
 unfold GM.hf;rw [if_neg (by rw [ξ7Y h0 h1 h2];simp),if_neg (by omega),if_neg ?_]
 have ht:=h.top
 rcases h.len with e | e
 ·rw [e];unfold GM.lo;split<;>simp<;>omega
 ·have:=h.inv.len
  unfold GM.lo;split<;>omega
theorem GI.old {L nw T:Int} {M:GM.Its} {C:Nat->Bool} (h:GI L nw T M C) {i:Nat} (hx:GM.hx T M (L+(i:Int))=true):C i=false:=by
 cases hc:C i with
 | false=>rfl
 | true=>
   obtain ⟨_,h1,h2⟩:=h.came i hc;unfold GM.hx at hx;rw [h2,Bool.or_false,decide_eq_true_eq] at hx;omega
theorem ξev {L T:Int} {i:Nat} (hi:i<64) (h:T=-1∨(L<=T/\T<L+64)):L<=L+(i:Int)/\(GM.hT T (L+(i:Int))=L+(i:Int)∨GM.hT T (L+(i:Int))=T)/\T<=GM.hT T (L+(i:Int))/\L+(i:Int)<=GM.hT T (L+(i:Int)):=by
 unfold GM.hT;split<;>omega
theorem GI.hear {L nw T now:Int} {M:GM.Its} {C:Nat->Bool} (h:GI L nw T M C) {i:Nat} (hi:i<64) (hL:0<=L) (hL2:L<=2000000000) (h0:0<=now) (h1:now<=1000000) (h2:nw<=now) :
 GI L now (GM.hT T (L+(i:Int))) (GM.hM T M (L+(i:Int))) (setC C i)/\GM.hT T (L+(i:Int))≠-1:=by
 have hf:=h.hear_ok hi hL hL2 h0 h1 h2
 have hb:=ξev hi h.top
 have hmem:∀ x∈GM.hM T M (L+(i:Int)),x.n≠L+(i:Int)/\L<=x.n/\(x∈M∨T<x.n):=by
  intro x hx;unfold GM.hM at hx;split at hx
  ·rename_i hlt
   rcases List.mem_append.1 hx with hx | hx
   ·have:=h.inv.mem x hx
    exact ⟨by omega,h.low x hx,.inl hx⟩
   ·obtain ⟨j,hj,rfl⟩:=GM.ξ24.1 hx;unfold GM.lo at hj;have ht:=h.top
    refine ⟨?_,?_,.inr (by show T<T+1+(j:Int);omega)⟩
    ·show T+1+(j:Int)≠_
     split at hj<;>omega
    ·show L<=T+1+(j:Int)
     split at hj<;>omega
  ·rw [List.mem_filter] at hx;exact ⟨by simpa using hx.2,h.low x hx.1,.inl hx.1⟩
 refine ⟨⟨GM.ξ6p h.inv hf,fun x hx=>(hmem x hx).2.1,.inr ?_,?_,?_,?_⟩,by omega⟩
 ·have ht:=h.top
  omega
 ·by_cases hlt:T<L+(i:Int)
  ·unfold GM.hM GM.hT;rw [if_pos hlt,if_pos hlt,List.length_append,GM.ξ39];by_cases ht:T=-1
   ·rw [h.non ht];left
    unfold GM.lo;rw [if_pos (.inl ht)];rfl
   ·right
    have hl0:=@GM.ξ4c T (L+(i:Int))
    have ht2:=h.top
    have hl:GM.lo T (L+(i:Int))=L+(i:Int) - T - 1:=by unfold GM.lo;rw [if_neg (by omega)]
    rw [hl];rcases h.len with e | e
    ·rw [e,List.length_nil];omega
    ·omega
  ·unfold GM.hM GM.hT;rw [if_neg hlt,if_neg hlt];rcases h.len with e | e
   ·left;rw [e];rfl
   ·right
    have:=List.length_filter_le (fun x:GM.Lk=>decide (x.n≠L+(i:Int))) M
    omega
 ·intro e;omega
 ·intro k hk;unfold setC at hk;split at hk
  ·rename_i e
   rw [e];exact ⟨hi,hb.2.2.2,ξ8P fun x hx=>(hmem x hx).1⟩
  ·obtain ⟨hk0,hk1,hk2⟩:=h.came k hk;refine ⟨hk0,by omega,ξ8P fun x hx=>?_⟩
   rcases (hmem x hx).2.2 with hm | hm
   ·exact GM.ξL hk2 x hm
   ·omega
theorem GI.less {L nw T:Int} {M:GM.Its} {C:Nat->Bool} {i:Nat} (h:GI L nw T M (setC C i)):GI L nw T M C:=
 ⟨h.inv,h.low,h.top,h.len,h.non,fun k hk=>h.came k (by unfold setC;split<;>simp [hk])⟩
theorem ξaJ {ag tr now:Int} {M:GM.Its} {x:GM.Lk} (h:x∈GM.dM ag tr now M):∃ y∈M,y.n=x.n:=by
 unfold GM.dM at h;obtain ⟨y,hy,rfl⟩:=List.mem_map.1 h;rw [List.mem_filter] at hy;exact ⟨y,hy.1,(GM.ξ2g _ _ _ _).symm⟩
theorem GI.due {L nw T now:Int} {M:GM.Its} {C:Nat->Bool} (h:GI L nw T M C) (h0:0<=now) (h1:now<=1000000) (h2:nw<=now) :
 GI L now T (GM.dM 2 2 now M) C/\(∀ y∈GM.gaveL 2 2 now M,L<=y/\y<T)/\(M=[]->GM.gaveL 2 2 now M=[])/\(GM.gaveL 2 2 now M).length<=64/\(GM.dueL 2 2 now M).length<=64/\(T=-1->GM.dueL 2 2 now M=[]):=by
 have hl:M.length<=64:=by
  have ht:=h.top
  by_cases hT:T=-1
  ·rw [h.non hT];simp
  rcases h.len with e | e
  ·rw [e];simp
  ·omega
 have hd:(GM.dM 2 2 now M).length<=M.length:=by
  unfold GM.dM;rw [List.length_map];exact List.length_filter_le _ _
 refine ⟨⟨GM.ξdj h.inv (ξ7Y h0 h1 h2),?_,h.top,?_,?_,?_⟩,?_,?_,Nat.le_trans (GM.ξ6v _ _ _ _) hl,Nat.le_trans (GM.ξ7P _ _ _ _) hl,?_⟩
 ·intro x hx;obtain ⟨y,hy,e⟩:=ξaJ hx;rw [<- e];exact h.low y hy
 ·rcases h.len with e | e
  ·left;rw [e];rfl
  ·right;omega
 ·intro e;rw [h.non e];rfl
 ·intro i hi;obtain ⟨a,b,c⟩:=h.came i hi;refine ⟨a,b,ξ8P fun x hx=>?_⟩
  obtain ⟨y,hy,e⟩:=ξaJ hx;rw [<- e];exact GM.ξL c y hy
 ·intro y hy;unfold GM.gaveL GM.nums at hy;obtain ⟨x,hx,rfl⟩:=List.mem_map.1 hy;rw [List.mem_filter] at hx;have:=h.inv.mem x hx.1
  exact ⟨h.low x hx.1,this.2.1⟩
 ·intro e;rw [e];rfl
 ·intro e;rw [h.non e];rfl
theorem ξbC {G:List Int} {y:Int} (h:y∈G.mergeSort fun x y=>decide (x<=y)):y∈G:=(List.mergeSort_perm G _).mem_iff.1 h
structure OI (L nw nx:Int) (M:OM.Its):Prop where
 inv:OM.Inv nw nx M
 it:∀ i∈M,GoodI L i
 nxb:nx=-1∨(L<=nx/\nx<=L+64)
theorem ξbt {L:Int}:OI L 0 (-1) []:=⟨OM.ξA,by simp,.inl rfl⟩
def FI (nx:Int) (M:OM.Its) (k:Nat):Prop:=nx≠-1->0<k∨∃ i∈M,i.n=nx/\i.g=false
theorem OI.push_ok {L nw nx now:Int} {M:OM.Its} (h:OI L nw nx M) {i:Nat} (hi:i<64) (hL:0<=L) (hL2:L<=2000000000) (h0:0<=now) (h1:now<=1000000) (h2:nw<=now):OM.pf nw nx (L+(i:Int)) now 0=0:=by
 refine OM.ξ3i (OM.ξ3T h0 h1 h2) (by omega) (by omega) rfl ?_
 have:=h.nxb
 unfold OM.far;by_cases hx:nx=-1
 ·rw [decide_eq_false (by omega)];rfl
 ·rw [decide_eq_false (p:=200<=_) (by omega)];simp
theorem OI.push {L nw nx now:Int} {M:OM.Its} (h:OI L nw nx M) {i k:Nat} (hi:i<64) (hL:0<=L) (hL2:L<=2000000000) (h0:0<=now) (h1:now<=1000000) (h2:nw<=now) {p:OM.Pk} (hp:GoodP L i p) (hF:FI nx M k) :
 OI L now (OM.pX nw nx (L+(i:Int)) now 0) (OM.pM nw nx (L+(i:Int)) now M 0 p)/\FI (OM.pX nw nx (L+(i:Int)) now 0) (OM.pM nw nx (L+(i:Int)) now M 0 p) k/\OM.pX nw nx (L+(i:Int)) now 0≠-1/\(nx≠-1->OM.pX nw nx (L+(i:Int)) now 0=nx)/\OM.pW nw nx (L+(i:Int)) now 0=now/\nx<=OM.pX nw nx (L+(i:Int)) now 0:=by
 have hf:=h.push_ok hi hL hL2 h0 h1 h2
 have hI:=OM.ξ3J (now:=now) (y:=L+(i:Int)) h.inv 0 p
 have hw:OM.pW nw nx (L+(i:Int)) now 0=now:=by unfold OM.pW;rw [if_pos hf]
 have hX:OM.pX nw nx (L+(i:Int)) now 0=OM.fx nx (L+(i:Int)):=by unfold OM.pX;rw [if_pos hf]
 rw [hw] at hI;have hn:=h.nxb
 refine ⟨⟨hI,?_,?_⟩,?_,?_,?_,hw,?_⟩
 ·intro x hx;unfold OM.pM at hx;split at hx
  ·rcases List.mem_append.1 hx with hx | hx
   ·exact h.it x hx
   ·rw [List.mem_singleton] at hx;rw [hx];exact ⟨by show L<=L+(i:Int);omega,by show L+(i:Int)<_;omega,fun _=>by show GoodP L (L+(i:Int) - L).toNat p;rw [show (L+(i:Int) - L).toNat=i by omega];exact hp⟩
  ·exact h.it x hx
 ·rw [hX];unfold OM.fx;right
  split<;>omega
 ·intro _;by_cases hx:nx=-1
  ·right
   have hM:=h.inv.non hx
   have hpx:OM.px nw nx (L+(i:Int)) now M 0=true:=by
    unfold OM.px OM.kx OM.fx;rw [decide_eq_true hf,if_pos hx,hM];simp [OM.has]
   refine ⟨⟨L+(i:Int),false,p,now⟩,?_,?_,rfl⟩
   ·unfold OM.pM;rw [if_pos hpx];simp
   ·rw [hX];unfold OM.fx;rw [if_pos hx]
  ·rcases hF hx with h1 | ⟨x,hx1,hx2,hx3⟩
   ·exact .inl h1
   ·right
    refine ⟨x,?_,?_,hx3⟩
    ·unfold OM.pM;split
     ·exact List.mem_append_left _ hx1
     ·exact hx1
    ·rw [hX,hx2];unfold OM.fx;rw [if_neg hx]
 ·rw [hX];unfold OM.fx;split<;>omega
 ·intro hx;rw [hX];unfold OM.fx;rw [if_neg hx]
 ·rw [hX];unfold OM.fx;split<;>omega
theorem OI.gone_ok {L nw nx now y:Int} {M:OM.Its} (h:OI L nw nx M) (hL:0<=L) (hL2:L<=2000000000) (h0:0<=now) (h1:now<=1000000) (h2:nw<=now) (hy:L<=y) (hy2:y<L+64) (hn:nx≠-1):OM.gf nw nx y now=0:=by
 unfold OM.gf;rw [if_neg (by rw [OM.ξ3T h0 h1 h2];simp),if_neg (by omega),if_neg hn]
theorem OI.gone {L nw nx now y:Int} {M:OM.Its} (h:OI L nw nx M) (hL:0<=L) (hL2:L<=2000000000) (h0:0<=now) (h1:now<=1000000) (h2:nw<=now) (hy:L<=y) (hy2:y<L+64) (hn:nx≠-1) {k:Nat} (hF:FI nx M k) :
 OI L now nx (OM.gM nw nx y now M)/\FI nx (OM.gM nw nx y now M) k/\OM.gW nw nx y now=now:=by
 have hf:=h.gone_ok hL hL2 h0 h1 h2 hy hy2 hn
 have hI:=OM.ξbS (now:=now) (y:=y) h.inv
 have hw:OM.gW nw nx y now=now:=by unfold OM.gW;rw [if_pos hf]
 rw [hw] at hI;refine ⟨⟨hI,?_,h.nxb⟩,?_,hw⟩
 ·intro x hx;unfold OM.gM at hx;split at hx
  ·rcases List.mem_append.1 hx with hx | hx
   ·exact h.it x hx
   ·rw [List.mem_singleton] at hx;rw [hx];exact ⟨hy,hy2,fun e=>by cases e⟩
  ·exact h.it x hx
 ·intro hx;rcases hF hx with h1 | ⟨x,hx1,hx2,hx3⟩
  ·exact .inl h1
  ·refine .inr ⟨x,?_,hx2,hx3⟩
   unfold OM.gM;split
   ·exact List.mem_append_left _ hx1
   ·exact hx1
theorem OI.pop {L nw nx now:Int} {M:OM.Its} {K:Nat} (h:OI L nw nx M) (hL:0<=L) (h0:0<=now) (h1:now<=1000000) (h2:nw<=now) {od:Int} (hO:OM.Od 8 now M od) (hS:OM.Stop M od nx K) :
 OI L now (nx+(K:Int)) (OM.rest M (nx+(K:Int)))/\(nx=-1->K=0)/\(∀ j:Nat,j<K->GoodI L (OM.itm M (nx+(j:Int))))/\∀ k,FI nx M k->nx≠-1->0<k∨(0<K/\(OM.itm M nx).g=false):=by
 have hK0:nx=-1->K=0:=by
  intro e;have hi:=h.inv
  rw [e] at hi;refine OM.ξ9n hi hO ?_
  rw [<- e];exact hS
 have hgo:∀ j:Nat,j<K->L<=nx+(j:Int)/\nx+(j:Int)<L+64:=by
  intro j hj;have hb:=h.nxb
  have hn:nx≠-1:=fun e=>by have:=hK0 e;omega
  refine ⟨by omega,?_⟩
  have:=hS.all j hj
  unfold OM.goes at this;rcases Bool.or_eq_true _ _ ▸ this with hh | hh
  ·obtain ⟨i,hi,he⟩:=OM.ξm.1 hh;have:=(h.it i hi).2.1
   omega
  ·have hlt:=of_decide_eq_true hh
   rcases hO.one with e | ⟨i,hi,_,he⟩
   ·omega
   ·have:=(h.it i hi).2.1
    omega
 refine ⟨⟨OM.ξ7G h.inv (OM.ξ3T h0 h1 h2) hO hS.all,?_,?_⟩,hK0,?_,?_⟩
 ·intro i hi;unfold OM.rest at hi;exact h.it i (List.mem_filter.1 hi).1
 ·rcases h.nxb with e | e
  ·left;rw [hK0 e];omega
  ·right
   refine ⟨by omega,?_⟩
   rcases Nat.eq_zero_or_pos K with hz | hz
   ·omega
   ·have:=(hgo (K - 1) (by omega)).2
    omega
 ·intro j hj;obtain ⟨a,b⟩:=hgo j hj;cases hh:OM.has M (nx+(j:Int)) with
  | true=>
    exact h.it _ (OM.ξ2j hh).1
  | false=>
    rw [OM.ξ2i hh];exact ⟨a,b,fun e=>by cases e⟩
 ·intro k hF hn;rcases hF hn with e | ⟨i,hi,e1,e2⟩
  ·exact .inl e
  ·right
   have hh:OM.has M nx=true:=OM.ξm.2 ⟨i,hi,e1⟩
   refine ⟨?_,?_⟩
   ·rcases Nat.eq_zero_or_pos K with hz | hz
    ·have:=hS.stop
     rw [hz] at this;unfold OM.goes at this;rw [show nx+((0:Nat):Int)=nx by omega,hh] at this
     simp at this
    ·exact hz
   ·rw [<- e1,OM.ξ33 h.inv.one hi];exact e2
structure LI (nl la:Int) (br:Bool):Prop where
 inv:LM.Inv 3 nl la br
 nl0:nl=-1∨nl=0
theorem ξbG:LI (-1) (-1) false:=⟨LM.ξA (by omega) (by omega),.inl rfl⟩
theorem LI.pack {nl la n:Int} {br:Bool} {p:Nat} (h:LI nl la br) (hn:0<=n) (hn2:n<=1099511627776) (hla:la<n) (hp:p=0) :
 LM.tkf la n false p=0/\LM.tkx 3 nl la n br false p 0 true=true/\LI (LM.tkN 3 nl la n br false p 0 true) (LM.tkL la n false p) (LM.tkB 3 nl la n br false p 0 true)/\LM.tkL la n false p=n:=by
 have hf:LM.tkf la n false p=0:=(LM.ξ5H hn hn2 (by omega)).trans hp
 obtain ⟨e1,e2,e3,e4⟩:=LM.ξ4u (m:=3) (nw:=nl) (br:=br) (l:=0) (st:=true) hf;have hg:LM.goes 3 nl 0 br true=true:=by
  unfold LM.goes;rcases h.nl0 with e | e
  ·rw [e];simp
  ·rw [e];simp
 refine ⟨hf,e1.trans hg,⟨LM.ξbP h.inv (fun _=>⟨by omega,by omega⟩),?_⟩,e2⟩
 right
 rw [e3,hg];rfl
theorem LI.gone {nl la n:Int} {br:Bool} {p:Nat} {l:Int} {st:Bool} (h:LI nl la br) (hn:0<=n) (hn2:n<=1099511627776) (hla:la<n) :
 LM.tkf la n true p=0/\LM.tkx 3 nl la n br true p l st=false/\LI (LM.tkN 3 nl la n br true p l st) (LM.tkL la n true p) (LM.tkB 3 nl la n br true p l st)/\LM.tkL la n true p=n:=by
 have hf:LM.tkf la n true p=0:=LM.ξ5I hn hn2 (by omega)
 obtain ⟨e1,e2,e3,e4⟩:=LM.ξ4v (m:=3) (nw:=nl) (br:=br) (l:=l) (st:=st) hf;refine ⟨hf,e1,⟨?_,?_⟩,e2⟩
 ·rw [e3,e2,e4];have hi:=h.inv
  refine ⟨by omega,by omega,hi.n0,hi.n1,by omega,by omega,fun e=>by rw [e];rfl⟩
 ·rw [e3];exact h.nl0
def Is (j:Nat) (p:AU.Pk):Prop:=p.l=0/\p.q=0/\p.st=true/\p.L=[j]
def hd (p:AU.Pk):Nat:=p.L.headD 0
structure GotI (L nx:Int) (X:List AU.Pk):Prop where
 all:∀ i,i<X.length->Is (hd (X.getD i AU.noPk)) (X.getD i AU.noPk)/\hd (X.getD i AU.noPk)<64/\AU.pf (X.getD i AU.noPk)=0/\(X.getD i AU.noPk).s=UM.sq 0 i/\L+(hd (X.getD i AU.noPk):Int)<nx
 inc:∀ i,i+1<X.length->hd (X.getD i AU.noPk)<hd (X.getD (i+1) AU.noPk)
theorem ξaq {L nx:Int}:GotI L nx []:=⟨fun i h=>absurd h (by simp),fun i h=>absurd h (by simp)⟩
theorem GotI.up {L nx nx':Int} {X:List AU.Pk} (h:GotI L nx X) (hx:nx<=nx'):GotI L nx' X:=
 ⟨fun i hi=>by obtain ⟨a,b,c,d,e⟩:=h.all i hi;exact ⟨a,b,c,d,by omega⟩,h.inc⟩
theorem ξ36 {X:List AU.Pk} {p:AU.Pk} {i:Nat} (h:i<X.length):(X++[p]).getD i AU.noPk=X.getD i AU.noPk:=by
 simp [List.getD_eq_getElem?_getD,List.getElem?_append_left h]
theorem ξ6u {X:List AU.Pk} {p:AU.Pk}:(X++[p]).getD X.length AU.noPk=p:=by
 simp [List.getD_eq_getElem?_getD]
theorem GotI.add {L nx:Int} {X:List AU.Pk} (h:GotI L nx X) {p:AU.Pk} {j:Nat} (hp:Is j p) (hj:j<64) (hf:AU.pf p=0) (hs:p.s=UM.sq 0 X.length) (hn:L+(j:Int)=nx):GotI L (nx+1) (X++[p]):=by
 have hh:hd p=j:=by unfold hd;rw [hp.2.2.2];rfl
 refine ⟨fun i hi=>?_,fun i hi=>?_⟩
 ·rw [List.length_append,List.length_singleton] at hi;by_cases hx:i<X.length
  ·rw [ξ36 hx];obtain ⟨a,b,c,d,e⟩:=h.all i hx;exact ⟨a,b,c,d,by omega⟩
  ·obtain rfl:i=X.length:=by omega
   rw [ξ6u,hh];exact ⟨hp,hj,hf,hs,by omega⟩
 ·rw [List.length_append,List.length_singleton] at hi;by_cases hx:i+1<X.length
  ·rw [ξ36 hx,ξ36 (by omega)]
   exact h.inc i hx
  ·obtain e:i+1=X.length:=by omega
   rw [ξ36 (by omega),e,ξ6u,hh]
   have:=(h.all i (by omega)).2.2.2.2
   omega
theorem GotI.far {L nx:Int} {X:List AU.Pk} (h:GotI L nx X):∀ i,i<X.length->i<=hd (X.getD i AU.noPk)
 | 0,_=>Nat.zero_le _
 | i+1,hi=>by have:=h.far i (by omega);have:=h.inc i hi;omega
theorem GotI.len {L nx:Int} {X:List AU.Pk} (h:GotI L nx X):X.length<=64:=by
 rcases Nat.eq_zero_or_pos X.length with hz | hz
 ·omega
 ·have:=h.far (X.length - 1) (by omega)
  have:=(h.all (X.length - 1) (by omega)).2.1
  omega
structure SentI (L:Int) (Y:List AU.Pk):Prop where
 all:∀ j,j<Y.length->Is j (Y.getD j AU.noPk)/\(Y.getD j AU.noPk).s=(L+(j:Int))%65536/\(Y.getD j AU.noPk).t=0/\(Y.getD j AU.noPk).m=1
theorem ξ85 {L:Int}:SentI L []:=⟨fun i h=>absurd h (by simp)⟩
theorem SentI.add {L:Int} {Y:List AU.Pk} (h:SentI L Y) {p:AU.Pk} (hp:Is Y.length p) (hs:p.s=(L+(Y.length:Int))%65536) (ht:p.t=0) (hm:p.m=1):SentI L (Y++[p]):=by
 refine ⟨fun i hi=>?_⟩
 rw [List.length_append,List.length_singleton] at hi;by_cases hx:i<Y.length
 ·rw [ξ36 hx];exact h.all i hx
 ·obtain rfl:i=Y.length:=by omega
  rw [ξ6u];exact ⟨hp,hs,ht,hm⟩
theorem ξdf {j:Nat} {p q:AU.Pk} (hp:Is j p) (hq:Is j q):AU.like p q=true:=
 AU.ξbF.2 ⟨hp.1.trans hq.1.symm,hp.2.1.trans hq.2.1.symm,hp.2.2.1.trans hq.2.2.1.symm,hp.2.2.2.trans hq.2.2.2.symm⟩
theorem GotI.stop {L nx:Int} {X Y:List AU.Pk} (h:GotI L nx X) (hY:SentI L Y) (hl:Y.length=64):AU.Stop Y X X.length:=by
 refine AU.ξcH (c:=fun i=>hd (X.getD i AU.noPk)) (fun i hi=>?_) (fun i hi=>h.inc i hi)
 obtain ⟨a,b,_⟩:=h.all i hi;exact ⟨by rw [hl];exact b,ξdf a (hY.all _ (by rw [hl];exact b)).1⟩
theorem GotI.row {L nx:Int} {X:List AU.Pk} (h:GotI L nx X):AU.RStop X X.length:=by
 refine AU.ξ9v fun i hi=>?_
 obtain ⟨_,_,h2,h3,_⟩:=h.all i hi;unfold AU.rfa;rw [if_neg (by omega)]
 refine if_neg ?_
 rintro ⟨h0,hne⟩;obtain ⟨_,_,_,h4,_⟩:=h.all (i - 1) (by omega)
 apply hne
 rw [h3,h4];have:=UM.ξcL 0 (i - 1)
 rw [show i - 1+1=i by omega] at this
 exact this
end Go.Proofs.YtpiamlgmadnepaaGreat.TR
namespace Go.Proofs.YtpiamlgmadnepaaGreat.Audit
open Go.ChangeShapes Go.WideShapes Go.ChangeAt Go.RowKit PM Mem Pack AU
def fpF (F:List Nat) (gv sv:Value):List Nat:=F++(gv.ownBlock.toList++sv.ownBlock.toList)
structure RwsF (w W:World) (F:List Nat) (gv sv:Value) (X Y:List Pk):Prop where
 got:W.ownsRow w.heap.size 38 6 gv X.length (flat X)
 snt:W.ownsRow w.heap.size 38 6 sv Y.length (flat Y)
 bx:∀ p∈X,Bd W (fpF F gv sv) p
 byy:∀ p∈Y,Bd W (fpF F gv sv) p
 bel:Below w.heap.size w W
 hb:∀ b∈F,w.heap.size<=b
 hlt:∀ b∈F,b<W.heap.size
 n1:∀ b∈F,gv.ownBlock≠some b
 n2:∀ b∈F,sv.ownBlock≠some b
 n3:∀ g,gv.ownBlock=some g->sv.ownBlock≠some g
theorem ξF {F:List Nat} {x:Nat} {gv sv:Value}:x∈fpF F gv sv↔x∈F∨gv.ownBlock=some x∨sv.ownBlock=some x:=by
 simp [fpF]
theorem RwsF.fpb {w W:World} {F:List Nat} {gv sv:Value} {X Y:List Pk} (h:RwsF w W F gv sv X Y):∀ x∈fpF F gv sv,w.heap.size<=x/\x<W.heap.size:=by
 intro x hx;rcases ξF.1 hx with e | e | e
 ·exact ⟨h.hb _ e,h.hlt _ e⟩
 ·exact h.got.lt x e
 ·exact h.snt.lt x e
theorem RwsF.only {w W W':World} {F:List Nat} {gv sv:Value} {X Y:List Pk} (h:RwsF w W F gv sv X Y) (ho:Only F W W'):RwsF w W' F gv sv X Y:=by
 have hF:Only (fpF F gv sv) W W':=ho.mono (fun k hk=>by simp [fpF,hk])
 exact ⟨ho.owns h.got (fun k e hc=>h.n1 k hc e),ho.owns h.snt (fun k e hc=>h.n2 k hc e),fun p hp=>(h.bx p hp).only hF (fun x hx=>.inl hx),fun p hp=>(h.byy p hp).only hF (fun x hx=>.inl hx),h.bel.trans (ho.below h.bel.size h.hb),h.hb,fun x hx=>Nat.lt_of_lt_of_le (h.hlt x hx) ho.2.2.2.1,h.n1,h.n2,h.n3⟩
theorem RwsF.below {w W W':World} {F:List Nat} {gv sv:Value} {X Y:List Pk} (h:RwsF w W F gv sv X Y) (hb:Below W.heap.size W W'):RwsF w W' F gv sv X Y:=h.only (Only.of_below hb F)
theorem RwsF.start {w W:World} {F:List Nat} (hb:Below w.heap.size w W) (h:∀ b∈F,w.heap.size<=b) (hl:∀ b∈F,b<W.heap.size):RwsF w W F (.slice none 0 0) (.slice none 0 0) [] []:=
 ⟨World.ownsRow_nil _ _ _ _,World.ownsRow_nil _ _ _ _,by simp,by simp,hb,h,hl,by simp [Value.ownBlock],by simp [Value.ownBlock],by simp [Value.ownBlock]⟩
theorem RwsF.swap {w W:World} {F:List Nat} {gv sv:Value} {X Y:List Pk} (h:RwsF w W F gv sv X Y):RwsF w W F sv gv Y X:=by
 have e:∀ p,Bd W (fpF F gv sv) p->Bd W (fpF F sv gv) p:=fun p hp=>⟨hp.1,hp.2.1,fun ad ea hm=>⟨(hp.2.2 ad ea hm).1,fun hc=>(hp.2.2 ad ea hm).2 (by
  rcases ξF.1 hc with h1 | h1 | h1
  ·exact ξF.2 (.inl h1)
  ·exact ξF.2 (.inr (.inr h1))
  ·exact ξF.2 (.inr (.inl h1)))⟩⟩
 exact ⟨h.snt,h.got,fun p hp=>e p (h.byy p hp),fun p hp=>e p (h.bx p hp),h.bel,h.hb,h.hlt,h.n2,h.n1,fun g e1 e2=>h.n3 g e2 e1⟩
theorem RwsF.addG {w W W1:World} {F:List Nat} {gv sv:Value} {X Y:List Pk} (h:RwsF w W F gv sv X Y) {p:Pk} (hp:Bd W (fpF F gv sv) p) {O:Obj} {g cap:Nat}
 (hown:W1.ownsRow w.heap.size 38 6 (.slice (some ⟨g,0,none⟩) (X.length+1) cap) (X.length+1) (flat X++pc p)) (hg:(W.alloc O).grownBy W1 gv.ownBlock) (hl:gv.ownBlock=some g∨g=W.heap.size+1) (hlt:g<W1.heap.size) :
 RwsF w W1 F (.slice (some ⟨g,0,none⟩) (X.length+1) cap) sv (X++[p]) Y:=by
 have hob:(Value.slice (some ⟨g,0,none⟩) (X.length+1) cap).ownBlock=some g:=rfl
 have ho:Only (fpF F gv sv) W W1:=(((Only.refl _ W).alloc O).grown hg (fun k e=>ξF.2 (.inr (.inl e))))
 have hos:∀ k,sv.ownBlock=some k->gv.ownBlock≠some k:=fun k e1 e2=>h.n3 k e2 e1
 have hF:∀ x∈fpF F (.slice (some ⟨g,0,none⟩) (X.length+1) cap) sv,x∈fpF F gv sv∨W.heap.size<=x:=by
  intro x hx;rcases ξF.1 hx with h1 | h1 | h1
  ·exact .inl (ξF.2 (.inl h1))
  ·rw [hob,Option.some.injEq] at h1;subst h1;rcases hl with h2 | h2
   ·exact .inl (ξF.2 (.inr (.inl h2)))
   ·exact .inr (by omega)
  ·exact .inl (ξF.2 (.inr (.inr h1)))
 have hsn:W1.ownsRow w.heap.size 38 6 sv Y.length (flat Y):=by
  have h1:Only gv.ownBlock.toList W W1:=(((Only.refl _ W).alloc O).grown hg (fun k e=>by simp [e]))
  exact h1.owns h.snt (fun k e hc=>hos k e (by simpa using hc))
 refine ⟨?_,hsn,?_,fun q hq=>(h.byy q hq).only ho hF,h.bel.trans (ho.below h.bel.size (fun k hk=>(h.fpb k hk).1)),h.hb,fun x hx=>Nat.lt_of_lt_of_le (h.hlt x hx) ho.2.2.2.1,?_,h.n2,?_⟩
 ·rw [List.length_append,List.length_singleton,ξ3P,ξ3O];exact hown
 ·intro q hq;rw [List.mem_append,List.mem_singleton] at hq;rcases hq with hq | rfl
  ·exact (h.bx q hq).only ho hF
  ·exact hp.only ho hF
 ·rw [hob];intro x hx e;simp only [Option.some.injEq] at e
  subst e;rcases hl with h2 | h2
  ·exact h.n1 _ hx h2
  ·have:=h.hlt _ hx;omega
 ·intro g' e1 e2;rw [hob,Option.some.injEq] at e1;subst e1;rcases hl with h2 | h2
  ·exact h.n3 g h2 e2
  ·have:=(h.snt.lt g e2).2;omega
theorem RwsF.addS {w W W1:World} {F:List Nat} {gv sv:Value} {X Y:List Pk} (h:RwsF w W F gv sv X Y) {p:Pk} (hp:Bd W (fpF F gv sv) p) {O:Obj} {g cap:Nat}
 (hown:W1.ownsRow w.heap.size 38 6 (.slice (some ⟨g,0,none⟩) (Y.length+1) cap) (Y.length+1) (flat Y++pc p)) (hg:(W.alloc O).grownBy W1 sv.ownBlock) (hl:sv.ownBlock=some g∨g=W.heap.size+1) (hlt:g<W1.heap.size) :
 RwsF w W1 F gv (.slice (some ⟨g,0,none⟩) (Y.length+1) cap) X (Y++[p]):=by
 refine (h.swap.addG (p:=p) ?_ hown hg hl hlt).swap
 exact ⟨hp.1,hp.2.1,fun ad ea hm=>⟨(hp.2.2 ad ea hm).1,fun hc=>(hp.2.2 ad ea hm).2 (by
  rcases ξF.1 hc with h1 | h1 | h1
  ·exact ξF.2 (.inl h1)
  ·exact ξF.2 (.inr (.inr h1))
  ·exact ξF.2 (.inr (.inl h1)))⟩⟩
end Go.Proofs.YtpiamlgmadnepaaGreat.Audit
namespace Go.Proofs.YtpiamlgmadnepaaGreat.TR
open Go.ChangeShapes Go.WideShapes Go.ChangeAt Go.RowKit Go.Maps PM Mem Pack
def ArrB (w:World) (g:Nat) (F:Nat->Bool):Prop:=∃ cs:Array Value,w.heap[g]?=some (.cells cs 65 (0,0))/\cs.size=64/\∀ j,j<64->cs[j]?=some (.bool (F j))
theorem ArrB.cell {w:World} {g:Nat} {F:Nat->Bool} (h:ArrB w g F) {j:Nat} (hj:j<64):w.cell? ⟨g,j,none⟩=some (.bool (F j)):=by
 obtain ⟨cs,h1,_,h3⟩:=h;simp [World.cell?,h1,h3 j hj]
theorem ArrB.free {w:World} {g:Nat} {F:Nat->Bool} (h:ArrB w g F) (j:Nat):w.frozen? ⟨g,j,none⟩=false:=by
 obtain ⟨cs,h1,_⟩:=h;simp [World.frozen?,h1]
theorem ArrB.only {w w':World} {g:Nat} {F:Nat->Bool} {bs:List Nat} (h:ArrB w g F) (ho:Only bs w w') (hg:g∉bs):ArrB w' g F:=by
 obtain ⟨cs,h1,h2⟩:=h;exact ⟨cs,ho.block h1 hg,h2⟩
theorem ArrB.set {w:World} {g:Nat} {F:Nat->Bool} (h:ArrB w g F) {y:Nat} (hy:y<64):ArrB (w.setCell ⟨g,y,none⟩ (.bool true)) g (setC F y):=by
 obtain ⟨cs,h1,h2,h3⟩:=h;refine ⟨_,heap_setCell_same w g y cs 65 (.bool true) h1,by simpa using h2,fun j hj=>?_⟩
 rw [Array.getElem?_setIfInBounds];by_cases e:y=j
 ·subst e;rw [if_pos rfl,if_pos (by omega)]
  simp [setC]
 ·rw [if_neg e,h3 j hj];have:¬ j=y:=fun q=>e q.symm
  simp [setC,this]
structure Nm where
 gb:Nat
 mb:Nat
 ob:Nat
 om:Nat
 yb:Nat
 ub:Nat
 cb:Nat
def Nm.F (N:Nm):List Nat:=[N.gb,N.mb,N.ob,N.om,N.yb,N.ub,N.cb]
theorem Nm.ne {N:Nm} (h:N.F.Nodup):N.gb≠N.mb/\N.gb≠N.ob/\N.gb≠N.om/\N.gb≠N.yb/\N.gb≠N.ub/\N.gb≠N.cb/\N.mb≠N.gb/\N.mb≠N.ob/\N.mb≠N.om/\N.mb≠N.yb/\N.mb≠N.ub/\N.mb≠N.cb/\N.ob≠N.gb/\N.ob≠N.mb/\N.ob≠N.om/\N.ob≠N.yb/\N.ob≠N.ub/\N.ob≠N.cb/\N.om≠N.gb/\N.om≠N.mb/\N.om≠N.ob/\N.om≠N.yb/\N.om≠N.ub/\N.om≠N.cb/\N.yb≠N.gb/\N.yb≠N.mb/\N.yb≠N.ob/\N.yb≠N.om/\N.yb≠N.ub/\N.yb≠N.cb/\N.ub≠N.gb/\N.ub≠N.mb/\N.ub≠N.ob/\N.ub≠N.om/\N.ub≠N.yb/\N.ub≠N.cb/\N.cb≠N.gb/\N.cb≠N.mb/\N.cb≠N.ob/\N.cb≠N.om/\N.cb≠N.yb/\N.cb≠N.ub:=by
 simp only [Nm.F,List.nodup_cons,List.mem_cons,List.not_mem_nil,or_false,not_or] at h
 simp only [ne_eq]
 obtain ⟨⟨a1,a2,a3,a4,a5,a6⟩,⟨b2,b3,b4,b5,b6⟩,⟨c3,c4,c5,c6⟩,⟨d4,d5,d6⟩,⟨e5,e6⟩,f6,_⟩:=h;exact ⟨a1,a2,a3,a4,a5,a6,Ne.symm a1,b2,b3,b4,b5,b6,Ne.symm a2,Ne.symm b2,c3,c4,c5,c6,Ne.symm a3,Ne.symm b3,Ne.symm c3,d4,d5,d6,Ne.symm a4,Ne.symm b4,Ne.symm c4,Ne.symm d4,e5,e6,Ne.symm a5,Ne.symm b5,Ne.symm c5,Ne.symm d5,Ne.symm e5,f6,Ne.symm a6,Ne.symm b6,Ne.symm c6,Ne.symm d6,Ne.symm e6,Ne.symm f6⟩
structure Sv where
 gw:Int
 T:Int
 M:GM.Its
 C:Nat->Bool
 ow:Int
 nx:Int
 O:OM.Its
 nl:Int
 la:Int
 br:Bool
 k:Nat
 tt:Int
 ly:Int
 ot:Int
structure MemAt (W:World) (N:Nm) (s:Sv):Prop where
 g:Gaps.ξ6 W N.gb N.mb 2 2 s.gw s.T s.M (.slice none 0 0) []
 o:Order.ξ1 W N.ob N.om 8 s.ow s.nx s.O
 y:Layer.ξ3 W N.yb 3 s.nl s.la s.br
 u:Out.OutAt W N.ub 0 s.k s.tt s.ly s.ot
 c:ArrB W N.cb s.C
theorem MemAt.nob {W:World} {N:Nm} {s:Sv} (h:MemAt W N s):∀ k∈N.F,∀ cs fr,W.heap[k]?≠some (.cells cs 5 fr):=by
 intro k hk cs fr;obtain ⟨D,hm,_⟩:=h.g.map;obtain ⟨es,c,hm'⟩:=GM.ξc hm;have ho:=h.o.nob
 obtain ⟨cc,hc,_⟩:=h.c;have hb:=h.g.box
 have hy:=h.y
 have hu:=h.u
 unfold Layer.ξ3 at hy;unfold Out.OutAt at hu;simp only [Nm.F,List.mem_cons,List.not_mem_nil,or_false] at hk
 rcases hk with rfl | rfl | rfl | rfl | rfl | rfl | rfl
 ·rw [hb];simp
 ·rw [hm'];simp
 ·exact ho _ (by simp) cs fr
 ·exact ho _ (by simp) cs fr
 ·rw [hy];simp
 ·rw [hu];simp
 ·rw [hc];simp
theorem MemAt.below {W W':World} {N:Nm} {s:Sv} (h:MemAt W N s) (hb:Below W.heap.size W W'):MemAt W' N s:=
 ⟨h.g.below hb,h.o.below hb,h.y.below hb,h.u.below hb,h.c.only (Only.of_below hb []) (by simp)⟩
theorem blks0 (b mb:Nat):Gaps.blks b mb (.slice none 0 0)=[b,mb]:=rfl
structure TB (w W:World) (N:Nm) (L t x:Int) (s:Sv) (gv sv:Value) (X Y:List AU.Pk):Prop where
 rws:Audit.RwsF w W N.F gv sv X Y
 nd:N.F.Nodup
 mem:MemAt W N s
 gi:GI L s.gw s.T s.M s.C
 oi:OI L s.ow s.nx s.O
 li:LI s.nl s.la s.br
 ui:UM.Inv 0 s.k s.tt s.ot
 got:GotI L x X
 sent:SentI L Y
 gt:s.gw<=t
 ot:s.ow<=t
 l0:100<=L
 l1:L<=2000000000
 t0:0<=t
 t1:t<=1000000
def Fl (s:Sv) (k:Nat):Prop:=(s.T≠-1->s.nx≠-1)/\FI s.nx s.O s.k/\(s.la=-1∨s.la<s.nx)/\k=s.k
section
variable {w W W':World} {N:Nm} {L t x:Int} {s:Sv} {gv sv:Value} {X Y:List AU.Pk}
theorem TB.below (h:TB w W N L t x s gv sv X Y) (hb:Below W.heap.size W W'):TB w W' N L t x s gv sv X Y:=
 ⟨h.rws.below hb,h.nd,h.mem.below hb,h.gi,h.oi,h.li,h.ui,h.got,h.sent,h.gt,h.ot,h.l0,h.l1,h.t0,h.t1⟩
theorem TB.later (h:TB w W N L t x s gv sv X Y) (h1:t+1<=1000000):TB w W N L (t+1) x s gv sv X Y:=
 ⟨h.rws,h.nd,h.mem,h.gi,h.oi,h.li,h.ui,h.got,h.sent,by have:=h.gt;omega,by have:=h.ot;omega,h.l0,h.l1,by have:=h.t0;omega,h1⟩
theorem TB.setG (h:TB w W N L t x s gv sv X Y) {gw T:Int} {M:GM.Its} (ho:Only [N.gb,N.mb] W W') (hg:Gaps.ξ6 W' N.gb N.mb 2 2 gw T M (.slice none 0 0) []) (hi:GI L gw T M s.C) (hw:gw<=t):TB w W' N L t x { s with gw:=gw,T:=T,M:=M } gv sv X Y:=by
 have q:=N.ne h.nd
 have hn:=h.mem.nob
 have hsub:∀ k∈[N.gb,N.mb],k∈N.F:=by simp [Nm.F]
 have hF:Only N.F W W':=ho.mono (by simp [Nm.F])
 refine ⟨h.rws.only hF,h.nd,⟨hg,h.mem.o.only ho (by simp [q]) (by simp [q]) (fun k hk=>hn k (hsub k hk)),h.mem.y.only ho (by simp [q]),h.mem.u.only ho (by simp [q]),h.mem.c.only ho (by simp [q])⟩,hi,h.oi,h.li,h.ui,h.got,h.sent,hw,h.ot,h.l0,h.l1,h.t0,h.t1⟩
theorem TB.setO (h:TB w W N L t x s gv sv X Y) {ow nx x':Int} {O:OM.Its} (ho:Only [N.ob,N.om] W W') (hg:Order.ξ1 W' N.ob N.om 8 ow nx O) (hi:OI L ow nx O) (hw:ow<=t) (hx:x<=x'):TB w W' N L t x' { s with ow:=ow,nx:=nx,O:=O } gv sv X Y:=by
 have q:=N.ne h.nd
 have hF:Only N.F W W':=ho.mono (by simp [Nm.F])
 refine ⟨h.rws.only hF,h.nd,⟨h.mem.g.only ho (by rw [blks0];simp [q]),hg,h.mem.y.only ho (by simp [q]),h.mem.u.only ho (by simp [q]),h.mem.c.only ho (by simp [q])⟩,h.gi,hi,h.li,h.ui,h.got.up hx,h.sent,h.gt,hw,h.l0,h.l1,h.t0,h.t1⟩
theorem TB.setY (h:TB w W N L t x s gv sv X Y) {nl la x':Int} {br:Bool} (ho:Only [N.yb] W W') (hg:Layer.ξ3 W' N.yb 3 nl la br) (hi:LI nl la br) (hx:x<=x'):TB w W' N L t x' { s with nl:=nl,la:=la,br:=br } gv sv X Y:=by
 have q:=N.ne h.nd
 have hn:=h.mem.nob
 have hsub:∀ k∈[N.yb],k∈N.F:=by simp [Nm.F]
 have hF:Only N.F W W':=ho.mono (by simp [Nm.F])
 exact ⟨h.rws.only hF,h.nd,⟨h.mem.g.only ho (by rw [blks0];simp [q]),h.mem.o.only ho (by simp [q]) (by simp [q]) (fun k hk=>hn k (hsub k hk)),hg,h.mem.u.only ho (by simp [q]),h.mem.c.only ho (by simp [q])⟩,h.gi,h.oi,hi,h.ui,h.got.up hx,h.sent,h.gt,h.ot,h.l0,h.l1,h.t0,h.t1⟩
theorem TB.setU (h:TB w W N L t x s gv sv X Y) {k:Nat} {tt ly ot:Int} (ho:Only [N.ub] W W') (hg:Out.OutAt W' N.ub 0 k tt ly ot) (hi:UM.Inv 0 k tt ot):TB w W' N L t x { s with k:=k,tt:=tt,ly:=ly,ot:=ot } gv sv X Y:=by
 have q:=N.ne h.nd
 have hn:=h.mem.nob
 have hsub:∀ k∈[N.ub],k∈N.F:=by simp [Nm.F]
 have hF:Only N.F W W':=ho.mono (by simp [Nm.F])
 exact ⟨h.rws.only hF,h.nd,⟨h.mem.g.only ho (by rw [blks0];simp [q]),h.mem.o.only ho (by simp [q]) (by simp [q]) (fun k hk=>hn k (hsub k hk)),h.mem.y.only ho (by simp [q]),hg,h.mem.c.only ho (by simp [q])⟩,h.gi,h.oi,h.li,hi,h.got,h.sent,h.gt,h.ot,h.l0,h.l1,h.t0,h.t1⟩
theorem TB.addX (h:TB w W N L t x s gv sv X Y) {p:AU.Pk} {W1:World} {x':Int} (hp:Audit.Bd W (Audit.fpF N.F gv sv) p) {O:Obj} {g cap:Nat}
 (hown:W1.ownsRow w.heap.size 38 6 (.slice (some ⟨g,0,none⟩) (X.length+1) cap) (X.length+1) (Audit.flat X++Audit.pc p)) (hg:(W.alloc O).grownBy W1 gv.ownBlock) (hl:gv.ownBlock=some g∨g=W.heap.size+1) (hlt:g<W1.heap.size) (hgot:GotI L x' (X++[p])) :
 TB w W1 N L t x' s (.slice (some ⟨g,0,none⟩) (X.length+1) cap) sv (X++[p]) Y:=by
 have ho:Only gv.ownBlock.toList W W1:=(((Only.refl _ W).alloc O).grown hg (fun k e=>by simp [e]))
 have hno:∀ b∈N.F,b∉gv.ownBlock.toList:=fun b hb hc=>h.rws.n1 b hb (by simpa using hc)
 have hnb:∀ k∈gv.ownBlock.toList,∀ cs fr,W.heap[k]?≠some (.cells cs 5 fr):=by
  intro k hk cs fr;obtain ⟨c,fz,hc⟩:=Lib.ownsRow_kind h.rws.got k (by simpa using hk)
  rw [hc];simp
 exact ⟨h.rws.addG hp hown hg hl hlt,h.nd,⟨h.mem.g.only ho (fun k hk=>hno k (by rw [blks0] at hk;simp at hk;rcases hk with rfl | rfl<;>simp [Nm.F])),h.mem.o.only ho (hno _ (by simp [Nm.F])) (hno _ (by simp [Nm.F])) hnb,h.mem.y.only ho (hno _ (by simp [Nm.F])),h.mem.u.only ho (hno _ (by simp [Nm.F])),h.mem.c.only ho (hno _ (by simp [Nm.F]))⟩,h.gi,h.oi,h.li,h.ui,hgot,h.sent,h.gt,h.ot,h.l0,h.l1,h.t0,h.t1⟩
theorem TB.addY (h:TB w W N L t x s gv sv X Y) {p:AU.Pk} {W1:World} (hp:Audit.Bd W (Audit.fpF N.F gv sv) p) {O:Obj} {g cap:Nat}
 (hown:W1.ownsRow w.heap.size 38 6 (.slice (some ⟨g,0,none⟩) (Y.length+1) cap) (Y.length+1) (Audit.flat Y++Audit.pc p)) (hg:(W.alloc O).grownBy W1 sv.ownBlock) (hl:sv.ownBlock=some g∨g=W.heap.size+1) (hlt:g<W1.heap.size) (hs:SentI L (Y++[p])) :
 TB w W1 N L t x s gv (.slice (some ⟨g,0,none⟩) (Y.length+1) cap) X (Y++[p]):=by
 have ho:Only sv.ownBlock.toList W W1:=(((Only.refl _ W).alloc O).grown hg (fun k e=>by simp [e]))
 have hno:∀ b∈N.F,b∉sv.ownBlock.toList:=fun b hb hc=>h.rws.n2 b hb (by simpa using hc)
 have hnb:∀ k∈sv.ownBlock.toList,∀ cs fr,W.heap[k]?≠some (.cells cs 5 fr):=by
  intro k hk cs fr;obtain ⟨c,fz,hc⟩:=Lib.ownsRow_kind h.rws.snt k (by simpa using hk)
  rw [hc];simp
 exact ⟨h.rws.addS hp hown hg hl hlt,h.nd,⟨h.mem.g.only ho (fun k hk=>hno k (by rw [blks0] at hk;simp at hk;rcases hk with rfl | rfl<;>simp [Nm.F])),h.mem.o.only ho (hno _ (by simp [Nm.F])) (hno _ (by simp [Nm.F])) hnb,h.mem.y.only ho (hno _ (by simp [Nm.F])),h.mem.u.only ho (hno _ (by simp [Nm.F])),h.mem.c.only ho (hno _ (by simp [Nm.F]))⟩,h.gi,h.oi,h.li,h.ui,h.got,hs,h.gt,h.ot,h.l0,h.l1,h.t0,h.t1⟩
theorem TB.setCame (h:TB w W N L t x s gv sv X Y) {i:Nat} (hi:GI L s.gw s.T s.M (setC s.C i)) (hi64:i<64):TB w (W.setCell ⟨N.cb,i,none⟩ (.bool true)) N L t x { s with C:=setC s.C i } gv sv X Y:=by
 have q:=N.ne h.nd
 have hn:=h.mem.nob
 have hsub:∀ k∈[N.cb],k∈N.F:=by simp [Nm.F]
 have ho:Only [N.cb] W (W.setCell ⟨N.cb,i,none⟩ (.bool true)):=(Only.refl _ W).setCell (by simp) _
 have hF:Only N.F W (W.setCell ⟨N.cb,i,none⟩ (.bool true)):=ho.mono (by simp [Nm.F])
 exact ⟨h.rws.only hF,h.nd,⟨h.mem.g.only ho (by rw [blks0];simp [q]),h.mem.o.only ho (by simp [q]) (by simp [q]) (fun k hk=>hn k (hsub k hk)),h.mem.y.only ho (by simp [q]),h.mem.u.only ho (by simp [q]),h.mem.c.set hi64⟩,hi,h.oi,h.li,h.ui,h.got,h.sent,h.gt,h.ot,h.l0,h.l1,h.t0,h.t1⟩
theorem TB.pk (h:TB w W N L t x s gv sv X Y) (hy:Y.length=64) {i:Nat} (hi:i<64) :
 ∃ g c m cc,sv=.slice (some ⟨g,0,none⟩) 64 c/\W.cell? ⟨g,i*6,none⟩=some (.int .i64 ((L+(i:Int))%65536))/\W.cell? ⟨g,i*6+1,none⟩=some (.int .i64 0)/\W.cell? ⟨g,i*6+2,none⟩=some (.int .i64 0)/\W.cell? ⟨g,i*6+3,none⟩=some (.int .i64 0)/\W.cell? ⟨g,i*6+4,none⟩=some (.bool true)/\W.cell? ⟨g,i*6+5,none⟩=some (.slice m 1 cc)/\Arg W m 1 [i]/\(m=none->(1:Nat)=0/\cc=0):=by
 obtain ⟨a,cap,e,hA,hc,_⟩:=Audit.ξ2e h.rws.snt rfl (by omega) (fun p hp=>(h.rws.byy p hp).1)
 obtain ⟨b,o,rfl,hp⟩:=hA.at (by omega)
 obtain ⟨⟨p0,p1,p2,p3,p4,p5⟩,hok⟩:=hp i (by omega)
 obtain ⟨⟨q1,q2,q3,q4⟩,q5,q6,q7⟩:=h.sent.all i (by omega)
 have hin:Y.getD i AU.noPk∈Y:=by rw [List.getD_eq_getElem?_getD,List.getElem?_eq_getElem (by omega)];exact List.getElem_mem _
 have hnn:=(h.rws.byy _ hin).2.1
 have ho:o=0:=by
  obtain ⟨g,cc,hx,_⟩:=h.rws.snt.form (by omega)
  rw [e] at hx;simp at hx
  exact hx.1.2
 subst ho;unfold Audit.PkOk at hok;rw [q4,q7] at hok;rw [q5] at p0;rw [q6] at p1;rw [q1] at p2;rw [q2] at p3;rw [q3] at p4;rw [q7] at p5 hnn;rw [hy] at e;simp only [Nat.zero_add] at p0 p1 p2 p3 p4 p5
 exact ⟨b,cap,_,_,e,p0,p1,p2,p3,p4,p5,hok,fun hm=>(hnn hm)⟩
end
section
variable {w W W':World} {N:Nm} {L t x:Int} {s:Sv} {gv sv:Value} {X Y:List AU.Pk}
theorem ξco {W W':World} {bs:List Nat} {a:Option Addr} {n:Nat} {K:List Nat} (h:Arg W a n K) (ho:Only bs W W') (hf:∀ ad,a=some ad->ad.block∉bs):Arg W' a n K:=by
 refine ⟨⟨h.1.1,fun j hj=>?_⟩,h.2⟩
 obtain ⟨b,o,e,hc⟩:=h.1.2 j hj;refine ⟨b,o,e,?_⟩
 have hlt:=World.block_lt_of_cell? W ⟨b,o+j,none⟩ hc
 rw [<- hc];exact NO.ξi (ho.2.2.2.2 b hlt (hf _ e)) _
theorem flt0 (L:Int) (i:Nat):PM.fault ((L+(i:Int))%65536) 0 0 0 1=0:=by
 unfold PM.fault;rw [if_pos (by omega),if_pos (by omega)]
theorem TB.enc (h:TB w W N L t x s gv sv X Y) {i cc:Nat} {m:Option Addr} (hA:Arg W m 1 [i]) (hn:m=none->(1:Nat)=0/\cc=0) :
 Calls Tryz.prog 24 #[.agg #[.int .i64 ((L+(i:Int))%65536),.int .i64 0,.int .i64 0,.int .i64 0,.bool true,.slice m 1 cc]] W fun e w'=>∃ g,e=.returned (.tuple #[.slice (some ⟨g,0,none⟩) 9 9,.nilIface])/\Arg w' (some ⟨g,0,none⟩) 9 (ND.pby ((L+(i:Int))%65536) 0 0 0 true [i])/\TB w w' N L t x s gv sv X Y:=by
 refine (ND.ξ46 _ 0 0 0 true m 1 cc [i] W hA hn (flt0 L i)).mono ?_
 rintro e w' ⟨g,rfl,_,h2,h3⟩;exact ⟨g,rfl,h2,h.below h3⟩
theorem TB.read (h:TB w W N L t x s gv sv X Y) {i g:Nat} (hA:Arg W (some ⟨g,0,none⟩) 9 (ND.pby ((L+(i:Int))%65536) 0 0 0 true [i])) :
 Calls Tryz.prog 25 #[.slice (some ⟨g,0,none⟩) 9 9] W fun e w'=>∃ a c,e=.returned (.tuple #[.agg #[.int .i64 ((L+(i:Int))%65536),.int .i64 0,.int .i64 0,.int .i64 0,.bool true,.slice a 1 c],.nilIface])/\Arg w' a 1 [i]/\(a=none->(1:Nat)=0/\c=0)/\(∀ ad,a=some ad->ad.block∉N.F)/\TB w w' N L t x s gv sv X Y:=by
 refine (ND.ξ43 _ 0 0 0 true _ 9 9 [i] W hA (Nat.le_refl _) (flt0 L i)).mono ?_
 rintro e w' ⟨a,c,rfl,h1,h2,h3,h4⟩;exact ⟨a,c,rfl,h2,h3,fun ad e hc=>by have:=h4 ad e;have:=h.rws.hlt _ hc;omega,h.below h1⟩
theorem ξb2 {L tp:Int} {i:Nat} (h0:100<=L) (hi:i<64) (h1:L<=tp) (h2:tp<L+64):Ser.unw tp ((L+(i:Int))%65536)=L+(i:Int):=by
 unfold Ser.unw Ser.bey;split<;>omega
theorem unwraps {L tp:Int} {i:Nat} (h0:100<=L) (hL:L<=2000000000) (hi:i<64) (h1:L<=tp) (h2:tp<L+64) (W:World) :
 Calls Tryz.prog 26 #[.int .i64 tp,.int .i64 ((L+(i:Int))%65536)] W fun e w'=>e=.returned (.tuple #[.int .i64 (L+(i:Int)),.nilIface])/\w'=W:=by
 have:=Ser.ξ4O tp ((L+(i:Int))%65536) W (by omega) (by omega) (by omega) (by omega)
 rw [ξb2 h0 hi h1 h2] at this;exact this
theorem TB.hear (h:TB w W N L t x s gv sv X Y) {k:Nat} (hF:Fl s k) {i:Nat} (hi:i<64) :
 Calls Tryz.prog 27 #[.pointer (some ⟨N.gb,0,none⟩),.int .i64 (L+(i:Int)),.int .i64 t] W fun e w'=>∃ b,e=.returned (.tuple #[.bool b,.nilIface]) /\
  ∃ s1,TB w w' N L t x s1 gv sv X Y/\s1.nx=s.nx/\s1.C=s.C/\FI s1.nx s1.O s1.k/\(s1.la=-1∨s1.la<s1.nx)/\k=s1.k/\(b=false->Fl s1 k)/\(b=true->s.C i=false/\GI L s1.gw s1.T s1.M (setC s1.C i))/\Only N.F W w':=by
 obtain ⟨f1,f2,f3,f4⟩:=hF;have hL0:0<=L:=by have:=h.l0;omega
 refine (Gaps.ξ4g N.gb N.mb 2 2 s.gw s.T (L+(i:Int)) t s.M _ [] W h.mem.g h.gi.inv).mono ?_
 rintro e w' ⟨rfl,h1,h2⟩;have h0:=h.gi.hear_ok hi hL0 h.l1 h.t0 h.t1 h.gt
 obtain ⟨g1,g2⟩:=h.gi.hear hi hL0 h.l1 h.t0 h.t1 h.gt;have e1:GM.hN s.gw s.T s.M (L+(i:Int)) t=t:=by unfold GM.hN;rw [if_pos h0]
 have e2:GM.hU s.gw s.T s.M (L+(i:Int)) t=GM.hT s.T (L+(i:Int)):=by unfold GM.hU;rw [if_pos h0]
 have e3:GM.hL s.gw s.T s.M (L+(i:Int)) t=GM.hM s.T s.M (L+(i:Int)):=by unfold GM.hL;rw [if_pos h0]
 have e4:GM.hB s.gw s.T s.M (L+(i:Int)) t=GM.hx s.T s.M (L+(i:Int)):=by unfold GM.hB;rw [h0];rfl
 rw [e1,e2,e3] at h1;rw [e4,h0];refine ⟨_,rfl,{ s with gw:=t,T:=GM.hT s.T (L+(i:Int)),M:=GM.hM s.T s.M (L+(i:Int)) },h.setG h2 h1 g1.less (Int.le_refl _),rfl,rfl,f2,f3,f4,fun hb=>⟨fun _=>f1 ?_,f2,f3,f4⟩,fun hb=>⟨h.gi.old hb,g1⟩,h2.mono (by simp [Nm.F])⟩
 intro e;unfold GM.hx at hb;rw [e] at hb;rw [decide_eq_true (by omega)] at hb
 simp at hb
theorem TB.push (h:TB w W N L t s.nx s gv sv X Y) {k:Nat} (hF:FI s.nx s.O s.k/\(s.la=-1∨s.la<s.nx)/\k=s.k) {i c:Nat} {a:Option Addr} (hi:i<64) (hA:Arg W a 1 [i]) (hN:a=none->(1:Nat)=0/\c=0) (hg:GI L s.gw s.T s.M (setC s.C i)) :
 Calls Tryz.prog 28 #[.pointer (some ⟨N.ob,0,none⟩),.int .i64 (L+(i:Int)),.agg #[.int .i64 ((L+(i:Int))%65536),.int .i64 0,.int .i64 0,.int .i64 0,.bool true,.slice a 1 c],.int .i64 t] W fun e w'=>∃ b,e=.returned (.tuple #[.bool b,.nilIface]) /\
  ∃ s1,TB w w' N L t s1.nx s1 gv sv X Y/\s1.C=s.C/\Fl s1 k/\GI L s1.gw s1.T s1.M (setC s1.C i)/\s1.nx≠-1:=by
 obtain ⟨f2,f3,f4⟩:=hF;have hL0:0<=L:=by have:=h.l0;omega
 refine (Order.ξ42 N.ob N.om 8 s.ow s.nx (L+(i:Int)) t _ 0 0 0 true a 1 c [i] s.O W h.mem.o h.oi.inv hA hN).mono ?_
 rintro e w' ⟨rfl,bv,h1,h2⟩;have h0:=h.oi.push_ok hi hL0 h.l1 h.t0 h.t1 h.ot
 rw [flt0] at h1;rw [flt0,h0];obtain ⟨q1,q2,q3,q4,q5,q6⟩:=h.oi.push hi hL0 h.l1 h.t0 h.t1 h.ot (p:=⟨(L+(i:Int))%65536,0,0,0,true,[i],bv⟩) ⟨rfl,rfl,rfl,rfl,rfl,rfl⟩ f2;rw [q5] at h1;refine ⟨_,rfl,{ s with ow:=t,nx:=OM.pX s.ow s.nx (L+(i:Int)) t 0,O:=OM.pM s.ow s.nx (L+(i:Int)) t s.O 0 ⟨(L+(i:Int))%65536,0,0,0,true,[i],bv⟩ },h.setO (x':=OM.pX s.ow s.nx (L+(i:Int)) t 0) h2 h1 q1 (Int.le_refl _) q6,rfl,⟨fun _=>q3,q2,?_,f4⟩,hg,q3⟩
 show s.la=-1∨s.la<OM.pX s.ow s.nx (L+(i:Int)) t 0
 omega
structure DB (w W:World) (N:Nm) (L t x:Int) (s:Sv) (gv sv:Value) (X Y:List AU.Pk) (W1:World):Prop where
 tb:TB w W N L t x s gv sv X Y
 gaps:∃ gv2,Gaps.ξ6 W1 N.gb N.mb 2 2 t s.T (GM.dM 2 2 t s.M) gv2 (GM.gaveL 2 2 t s.M)/\(∀ j,gv2.ownBlock=some j->W.heap.size<=j)
 only:Only [N.gb,N.mb] W W1
theorem TB.due (h:TB w W N L t x s gv sv X Y) :
 Calls Tryz.prog 29 #[.pointer (some ⟨N.gb,0,none⟩),.int .i64 t] W fun e w'=>∃ a n c,e=.returned (.tuple #[.slice a n c,.nilIface])/\n<=64/\(s.T=-1->n=0)/\DB w W N L t x s gv sv X Y w':=by
 refine (Gaps.ξaC N.gb N.mb 2 2 s.gw s.T t s.M _ [] W h.mem.g h.gi.inv (by simp)).mono ?_
 rintro e w' ⟨dv,rfl,gv2,h1,h2,h3,h4⟩;have h0:GM.tf s.gw t=0:=ξ7Y h.t0 h.t1 h.gt
 obtain ⟨q1,q2,q3,q4,q5,q6⟩:=h.gi.due h.t0 h.t1 h.gt;have e1:GM.dN s.gw t=t:=by unfold GM.dN;rw [if_pos h0]
 have e2:GM.dL 2 2 s.gw s.M t=GM.dM 2 2 t s.M:=by unfold GM.dL;rw [if_pos h0]
 have e3:GM.dG 2 2 s.gw s.M t=GM.gaveL 2 2 t s.M:=by unfold GM.dG;rw [if_pos h0]
 have e4:GM.dD 2 2 s.gw s.M t=GM.dueL 2 2 t s.M:=by unfold GM.dD;rw [if_pos h0]
 rw [e1,e2,e3,List.nil_append] at h1;rw [e4] at h2;obtain ⟨a,c,rfl,_⟩:=Audit.ξk h2 (by omega)
 rw [h0];refine ⟨a,_,c,rfl,q5,fun e=>by rw [q6 e];rfl,h,⟨gv2,h1,fun j hj=>?_⟩,h4⟩
 rcases (h3 j hj).1 with e | e
 ·cases e
 ·exact e
def Nums (W:World) (N:Nm) (a:Option Addr) (n c:Nat) (G:List Int):Prop:=n<=64/\W.ownsRow 0 3 1 (.slice a n c) n (Audit.ic G)/\∀ j,(Value.slice a n c).ownBlock=some j->j∉N.F
theorem Nums.only {N:Nm} {a:Option Addr} {n c:Nat} {G:List Int} (h:Nums W N a n c G) (ho:Only N.F W W'):Nums W' N a n c G:=⟨h.1,ho.owns h.2.1 h.2.2,h.2.2⟩
theorem Nums.at {N:Nm} {a:Option Addr} {n c:Nat} {G:List Int} (h:Nums W N a n c G) {j:Nat} (hj:j<n):∃ b o,a=some ⟨b,o,none⟩/\W.cell? ⟨b,o+j,none⟩=some (.int .i64 (G.getD j 0)):=by
 have hn:=h.1
 obtain ⟨a',c',e,hA,_⟩:=Audit.ξk h.2.1 (by omega)
 simp only [Value.slice.injEq] at e
 obtain ⟨rfl,_,rfl⟩:=e;obtain ⟨b,o,rfl,hc⟩:=hA.at (by omega)
 exact ⟨b,o,rfl,hc j hj⟩
theorem ξdl (G:List Int):Gaps.ic G=Audit.ic G:=rfl
theorem DB.gave {W1:World} (h:DB w W N L t x s gv sv X Y W1) {k:Nat} (hF:Fl s k) :
 Calls Tryz.prog 30 #[.pointer (some ⟨N.gb,0,none⟩)] W1 fun e w'=>∃ a n c G,e=.returned (.slice a n c)/\Nums w' N a n c G/\(∀ j,j<n->L<=G.getD j 0/\G.getD j 0<L+64) /\
  ∃ s1,TB w w' N L t x s1 gv sv X Y/\Fl s1 k/\s1.nx=s.nx/\(n≠0->s1.nx≠-1):=by
 obtain ⟨h0,⟨gv2,h1,h2⟩,h3⟩:=h;obtain ⟨q1,q2,q3,q4,q5,q6⟩:=h0.gi.due h0.t0 h0.t1 h0.gt;refine (Gaps.ξ6w N.gb N.mb 2 2 t s.T _ gv2 _ W1 h1 (by omega)).mono ?_
 rintro e w' ⟨rfl,k1,k2,k3⟩;have hlF:=h0.rws.hlt
 have ho:Only [N.gb,N.mb] W w':=OM.past h3 k3 (fun j hj=>by
  simp only [Gaps.blks,List.mem_cons,Option.mem_toList] at hj
  rcases hj with rfl | rfl | hj
  ·exact .inl (by simp)
  ·exact .inl (by simp)
  ·exact .inr (h2 j hj))
 rw [ξdl] at k2;obtain ⟨a,c,rfl,_⟩:=Audit.ξk k2 (by omega)
 refine ⟨a,_,c,_,rfl,⟨q4,k2,fun j hj hc=>?_⟩,fun j hj=>?_,{ s with gw:=t,T:=s.T,M:=GM.dM 2 2 t s.M },h0.setG ho k1 q1 (Int.le_refl _),hF,rfl,fun hn=>?_⟩
 ·have:=h2 j hj
  have:=hlF j hc
  omega
 ·have hl:((GM.gaveL 2 2 t s.M).mergeSort fun x y=>decide (x<=y)).length=(GM.gaveL 2 2 t s.M).length:=List.length_mergeSort _
  have hin:((GM.gaveL 2 2 t s.M).mergeSort fun x y=>decide (x<=y)).getD j 0∈(GM.gaveL 2 2 t s.M).mergeSort fun x y=>decide (x<=y):=by
   rw [List.getD_eq_getElem?_getD,List.getElem?_eq_getElem (by omega)]
   exact List.getElem_mem _
  have:=q2 _ (ξbC hin)
  have ht:=h0.gi.top
  have hl0:=h0.l0
  omega
 ·show s.nx≠-1
  refine hF.1 fun e=>hn ?_
  rw [q3 (h0.gi.non e)];rfl
theorem TB.gone (h:TB w W N L t s.nx s gv sv X Y) {k:Nat} (hF:Fl s k) {y:Int} (hy:L<=y) (hy2:y<L+64) (hn:s.nx≠-1) :
 Calls Tryz.prog 31 #[.pointer (some ⟨N.ob,0,none⟩),.int .i64 y,.int .i64 t] W fun e w'=>e=.returned .nilIface/\∃ s1,TB w w' N L t s1.nx s1 gv sv X Y/\Fl s1 k/\s1.nx=s.nx/\Only N.F W w':=by
 obtain ⟨f1,f2,f3,f4⟩:=hF;have hL0:0<=L:=by have:=h.l0;omega
 refine (Order.ξ72 N.ob N.om 8 s.ow s.nx y t s.O W h.mem.o h.oi.inv).mono ?_
 rintro e w' ⟨rfl,h1,h2⟩;obtain ⟨q1,q2,q3⟩:=h.oi.gone hL0 h.l1 h.t0 h.t1 h.ot hy hy2 hn f2;rw [q3] at h1;rw [h.oi.gone_ok hL0 h.l1 h.t0 h.t1 h.ot hy hy2 hn];exact ⟨rfl,{ s with ow:=t,nx:=s.nx,O:=OM.gM s.ow s.nx y t s.O },h.setO h2 h1 q1 (Int.le_refl _) (Int.le_refl _),⟨f1,q2,f3,f4⟩,rfl,h2.mono (fun k hk=>by simp [Nm.F] at hk ⊢;omega)⟩
structure KB (w W:World) (N:Nm) (L t x n:Int) (K:Nat) (I:OM.Its) (v:Value) (s:Sv) (gv sv:Value) (X Y:List AU.Pk):Prop where
 tb:TB w W N L t x s gv sv X Y
 row:W.ownsRow w.heap.size 82 8 v K (OM.flat OM.c8 I)
 bod:OM.Bodies W I
 fr:∀ j,v.ownBlock=some j->j∉N.F/\gv.ownBlock≠some j
 il:I.length=K
 it:∀ j,j<K->∃ i,I[j]?=some i/\GoodI L i/\i.n=n+(j:Int)
 nx:s.nx=n+(K:Int)
 z:n=-1->K=0
 nb:n=-1∨L<=n
 tn:s.T≠-1->s.nx≠-1
structure PB (w W:World) (N:Nm) (L t n:Int) (K:Nat) (I:OM.Its) (v:Value) (j:Nat) (s:Sv) (gv sv:Value) (X Y:List AU.Pk):Prop where
 kb:KB w W N L t (n+(j:Int)) n K I v s gv sv X Y
 lx:s.la=-1∨s.la<n+(j:Int)
 len:X.length=s.k
 fi:n≠-1->0<s.k∨(j=0/\0<K/\∀ i,I[0]?=some i->i.g=false)
theorem TB.pop (h:TB w W N L t s.nx s gv sv X Y) (hF:Fl s X.length) :
 Calls Tryz.prog 32 #[.pointer (some ⟨N.ob,0,none⟩),.int .i64 t] W fun e w'=>∃ a K c I,e=.returned (.tuple #[.slice a K c,.nilIface])/\K<=200/\∃ s1,PB w w' N L t s.nx K I (.slice a K c) 0 s1 gv sv X Y:=by
 obtain ⟨f1,f2,f3,f4⟩:=hF;have hL0:0<=L:=by have:=h.l0;omega
 obtain ⟨K,hK⟩:=Order.ξdc (now:=t) 8 h.oi.inv;refine (Order.ξ53 N.ob N.om 8 s.ow s.nx t s.O K W h.mem.o h.oi.inv hK).mono ?_
 rintro e w' ⟨a,c,rfl,h1,h2,h3,h4⟩;have h0:=OM.ξ3T h.t0 h.t1 h.ot
 obtain ⟨od,hO,hS⟩:=hK.yes h0;obtain ⟨q1,q2,q3,q4⟩:=h.oi.pop hL0 h.t0 h.t1 h.ot hO hS;have e1:Order.qW s.ow t=t:=by unfold Order.qW;rw [if_pos h0]
 rw [e1] at h3;rw [h0];have hx:=h.oi.nxb
 have hlF:=h.rws.hlt
 have hbel:=h.rws.bel.size
 have hT:=h.setO (x':=s.nx) h4 h3 q1 (Int.le_refl _) (Int.le_refl _)
 refine ⟨a,K,c,OM.takes s.O s.nx K,rfl,hK.le,{ s with ow:=t,nx:=s.nx+(K:Int),O:=OM.rest s.O (s.nx+(K:Int)) },⟨⟨by simpa using hT,OM.ξr h1 hbel,h2,fun j hj=>?_,OM.ξ2M _ _ _,fun j hj=>⟨_,OM.ξ4R _ _ _ _ hj,q3 j hj,OM.ξcu _ _⟩,rfl,q2,by omega,fun hT'=>?_⟩,by simpa using f3,f4,fun hn=>?_⟩⟩
 ·have:=h1.lt j hj
  refine ⟨fun hc=>?_,fun hc=>?_⟩
  ·have:=hlF j hc;omega
  ·have:=(h.rws.got.lt j hc).2;omega
 ·show s.nx+(K:Int)≠-1
  have:=f1 hT'
  omega
 ·rcases q4 s.k f2 hn with e | ⟨e,e'⟩
  ·exact .inl e
  ·refine .inr ⟨rfl,e,fun i hi=>?_⟩
   rw [OM.ξ4R _ _ _ _ e] at hi;simp only [Option.some.injEq] at hi
   rw [<- hi];simpa using e'
end
section
variable {w W W':World} {N:Nm} {L t x n:Int} {s:Sv} {gv sv v:Value} {X Y:List AU.Pk} {K:Nat} {I:OM.Its}
theorem ξ1Z {w:World} {p:OM.Pk} (h:OM.Body w p):∃ a m c,p.bv=.slice a m c/\Arg w a m p.L/\(a=none->m=0/\c=0)/\m=p.L.length:=by
 obtain ⟨a,m,c,e,ho,hl,hm⟩:=h;have hlen:m=p.L.length:=by have:=ho.1;rw [ξt] at this;omega
 refine ⟨a,m,c,e,?_,?_,hlen⟩
 ·refine ⟨⟨hl,fun j hj=>?_⟩,hlen.symm,by omega⟩
  obtain ⟨g,cap,hv,_⟩:=ho.form (by omega)
  simp only [Value.slice.injEq] at hv
  obtain ⟨rfl,_⟩:=hv;refine ⟨g,0,rfl,?_⟩
  have h2:=ho.cells (g:=g) rfl j _ (ξ1F p.L j hj)
  rw [Addr.add_lit] at h2;exact h2
 ·intro e';subst e';rcases ho.2 with ⟨hv,h0⟩ | ⟨g,cap,cur,hv,_⟩
  ·simp only [Value.slice.injEq] at hv
   exact ⟨h0,hv.2.2⟩
  ·simp at hv
theorem KB.turn (h:KB w W N L t x n K I v s gv sv X Y) {bs:List Nat} {x':Int} {s':Sv} {gv':Value} {X':List AU.Pk} (ho:Only bs W W') (hb:∀ k∈bs,k∈N.F∨gv.ownBlock=some k) (ht:TB w W' N L t x' s' gv' sv X' Y) (h1:s'.nx=s.nx) (h2:s'.T=s.T) (hg:∀ j,gv'.ownBlock=some j->gv.ownBlock=some j∨W.heap.size<=j):KB w W' N L t x' n K I v s' gv' sv X' Y:=by
 refine ⟨ht,ho.owns h.row (fun k e hc=>?_),h.bod.only ho (fun k hk=>?_),fun j hj=>⟨(h.fr j hj).1,fun hc=>?_⟩,h.il,h.it,h1.trans h.nx,h.z,h.nb,fun hT=>?_⟩
 ·obtain ⟨f1,f2⟩:=h.fr k e;rcases hb k hc with e1 | e1
  ·exact f1 e1
  ·exact f2 e1
 ·rcases hb k hk with e1 | e1
  ·exact h.tb.mem.nob k e1
  ·intro cs fr;obtain ⟨c,fz,hc⟩:=Lib.ownsRow_kind h.tb.rws.got k e1;rw [hc];simp
 ·rcases hg j hc with e1 | e1
  ·exact (h.fr j hj).2 e1
  ·have:=(h.row.lt j hj).2
   omega
 ·rw [h1];rw [h2] at hT;exact h.tn hT
theorem KB.below (h:KB w W N L t x n K I v s gv sv X Y) (hb:Below W.heap.size W W'):KB w W' N L t x n K I v s gv sv X Y:=
 h.turn (Only.of_below hb []) (by simp) (h.tb.below hb) rfl rfl (fun j hj=>.inl hj)
theorem KB.item (h:KB w W N L t x n K I v s gv sv X Y) {j:Nat} (hj:j<K) :
 ∃ g cc i a m c,v=.slice (some ⟨g,0,none⟩) K cc/\I[j]?=some i/\GoodI L i/\i.n=n+(j:Int)/\Arg W a m i.p.L/\(a=none->m=0/\c=0)/\m=i.p.L.length /\
  W.cell? ⟨g,j*8,none⟩=some (.int .i64 i.n)/\W.cell? ⟨g,j*8+1,none⟩=some (.bool i.g)/\W.cell? ⟨g,j*8+2,none⟩=some (.int .i64 i.p.s)/\W.cell? ⟨g,j*8+3,none⟩=some (.int .i64 i.p.t)/\W.cell? ⟨g,j*8+4,none⟩=some (.int .i64 i.p.l)/\W.cell? ⟨g,j*8+5,none⟩=some (.int .i64 i.p.q)/\W.cell? ⟨g,j*8+6,none⟩=some (.bool i.p.st)/\W.cell? ⟨g,j*8+7,none⟩=some (.slice a m c):=by
 obtain ⟨i,hi,hg,hn⟩:=h.it j hj;obtain ⟨g,cc,hv,_⟩:=h.row.form (by omega)
 have hI:i∈I:=List.mem_of_getElem? hi
 obtain ⟨a,m,c,e,hA,hN,hm⟩:=ξ1Z (h.bod i hI);have hr:=h.row
 rw [hv,<- h.il] at hr;have hc:∀ k,k<8->W.cell? ⟨g,j*8+k,none⟩=(OM.c8 i)[k]?:=fun k hk=>OM.ξ5T OM.ξ6H hr hi k hk
 refine ⟨g,cc,i,a,m,c,hv,hi,hg,hn,hA,hN,hm,hc 0 (by omega),hc 1 (by omega),hc 2 (by omega),hc 3 (by omega),hc 4 (by omega),hc 5 (by omega),hc 6 (by omega),?_⟩
 have:=hc 7 (by omega)
 rw [<- e];exact this
structure QB (w W:World) (N:Nm) (L t n:Int) (K:Nat) (I:OM.Its) (v:Value) (j:Nat) (s:Sv) (gv sv:Value) (X Y:List AU.Pk) (q:Int) (a:Option Addr) (c jj:Nat):Prop where
 kb:KB w W N L t (n+(j:Int)) n K I v s gv sv X Y
 lx:s.la<n+(j:Int)+1
 len:X.length=s.k
 hj:L+(jj:Int)=n+(j:Int)
 h64:jj<64
 q0:0<=q
 q1:q<=65535
 arg:Arg W a 1 [jj]
 nn:a=none->(1:Nat)=0/\c=0
theorem PB.take {j:Nat} (h:PB w W N L t n K I v j s gv sv X Y) (hj:j<K) {i:OM.Kp} {a:Option Addr} {m c:Nat} (hi:I[j]?=some i) (hg:GoodI L i) (hn:i.n=n+(j:Int)) (hA:Arg W a m i.p.L) (hN:a=none->m=0/\c=0) (hm:m=i.p.L.length) :
 Calls Tryz.prog 33 #[.pointer (some ⟨N.yb,0,none⟩),.agg #[.int .i64 i.n,.bool i.g,.int .i64 i.p.s,.int .i64 i.p.t,.int .i64 i.p.l,.int .i64 i.p.q,.bool i.p.st,.slice a m c]] W fun e w'=>e=.returned (.tuple #[.bool (!i.g),.nilIface]) /\
  (i.g=true->∃ s1,PB w w' N L t n K I v (j+1) s1 gv sv X Y)/\(i.g=false->m=1/\i.p.t=0/\i.p.l=0/\i.p.q=0/\i.p.st=true/\∃ s1 jj,QB w w' N L t n K I v j s1 gv sv X Y i.p.s a c jj)/\Only [N.yb] W w':=by
 have hL0:=h.kb.tb.l0
 have hL1:=h.kb.tb.l1
 obtain ⟨g1,g2,g3⟩:=hg;have hla:=h.lx
 have hl1:s.la<i.n:=by have:=h.kb.tb.li.inv.l0;omega
 have HC:=Layer.ξK N.yb 3 s.nl s.la i.n s.br i.g i.p.s i.p.t i.p.l i.p.q i.p.st a m c W h.kb.tb.mem.y
 have hF:∀ k∈[N.yb],k∈N.F∨gv.ownBlock=some k:=fun k hk=>.inl (by simp [Nm.F] at hk ⊢;omega)
 cases hgg:i.g with
 | true=>
   obtain ⟨q1,q2,q3,q4⟩:=h.kb.tb.li.gone (p:=PM.fault i.p.s i.p.t i.p.l i.p.q m) (l:=i.p.l) (st:=i.p.st) (n:=i.n) (by omega) (by omega) hl1
   rw [hgg] at HC;refine HC.mono ?_
   rintro e w' ⟨rfl,h1,h2⟩;rw [q2,q1];refine ⟨rfl,fun _=>⟨{ s with nl:=LM.tkN 3 s.nl s.la i.n s.br true (PM.fault i.p.s i.p.t i.p.l i.p.q m) i.p.l i.p.st,la:=LM.tkL s.la i.n true (PM.fault i.p.s i.p.t i.p.l i.p.q m),br:=LM.tkB 3 s.nl s.la i.n s.br true (PM.fault i.p.s i.p.t i.p.l i.p.q m) i.p.l i.p.st },⟨h.kb.turn h2 hF (h.kb.tb.setY (x':=n+((j+1:Nat):Int)) h2 h1 q3 (by omega)) rfl rfl (fun j hj=>.inl hj),.inr ?_,h.len,fun hz=>.inl ?_⟩⟩,fun e=>(by cases e),h2⟩
   ·show LM.tkL s.la i.n true _<n+((j+1:Nat):Int)
    rw [q4];omega
   ·show 0<s.k
    rcases h.fi hz with e | ⟨e1,_,e3⟩
    ·exact e
    ·subst e1;have:=e3 i hi
     rw [hgg] at this;cases this
 | false=>
   obtain ⟨p1,p2,p3,p4,p5,p6⟩:=g3 hgg;have hm1:m=1:=by rw [hm,p6];rfl
   have hf:PM.fault i.p.s i.p.t i.p.l i.p.q m=0:=by rw [p1,p2,p3,p4,hm1];exact flt0 L _
   rw [p3,p5,hgg] at HC;obtain ⟨q1,q2,q3,q4⟩:=h.kb.tb.li.pack (p:=PM.fault i.p.s i.p.t 0 i.p.q m) (n:=i.n) (by omega) (by omega) hl1 (by rw [p3] at hf;exact hf)
   rw [p3,p5];refine HC.mono ?_
   rintro e w' ⟨rfl,h1,h2⟩;rw [q2,q1];subst hm1;rw [p6] at hA;refine ⟨rfl,fun e=>(by cases e),fun _=>⟨rfl,p2,rfl,p4,rfl,{ s with nl:=LM.tkN 3 s.nl s.la i.n s.br false (PM.fault i.p.s i.p.t 0 i.p.q 1) 0 true,la:=LM.tkL s.la i.n false (PM.fault i.p.s i.p.t 0 i.p.q 1),br:=LM.tkB 3 s.nl s.la i.n s.br false (PM.fault i.p.s i.p.t 0 i.p.q 1) 0 true },(i.n - L).toNat,⟨h.kb.turn h2 hF (h.kb.tb.setY (x':=n+(j:Int)) h2 h1 q3 (Int.le_refl _)) rfl rfl (fun j hj=>.inl hj),?_,h.len,by omega,by omega,by rw [p1];omega,by rw [p1];omega,?_,hN⟩⟩,h2⟩
   ·show LM.tkL s.la i.n false _<n+(j:Int)+1
    rw [q4];omega
   ·have hy:=h.kb.tb.mem.y
    unfold Layer.ξ3 at hy;refine ⟨⟨hA.1.1,fun z hz=>?_⟩,hA.2⟩
    obtain ⟨b,o,e,hc⟩:=hA.1.2 z hz;refine ⟨b,o,e,?_⟩
    by_cases hb:b=N.yb
    ·rw [hb] at hc;simp only [World.cell?,hy] at hc
     exfalso
     generalize o+z=oz at hc
     rcases oz with _ | _ | _ | _ | oz<;>simp at hc
    ·have hlt:=World.block_lt_of_cell? W ⟨b,o+z,none⟩ hc
     have:=h2.2.2.2.2 b hlt (by simpa using hb)
     rw [<- hc];exact NO.ξi this _
structure RB (w W:World) (N:Nm) (L t n:Int) (K:Nat) (I:OM.Its) (v:Value) (j:Nat) (s:Sv) (gv sv:Value) (X Y:List AU.Pk) (p:AU.Pk):Prop where
 kb:KB w W N L t (n+(j:Int)) n K I v s gv sv X Y
 lx:s.la<n+(j:Int)+1
 len:X.length+1=s.k
 bd:Audit.Bd W (Audit.fpF N.F gv sv) p
 is:∃ jj,Is jj p/\jj<64/\L+(jj:Int)=n+(j:Int)
 pf:AU.pf p=0
 sq:p.s=UM.sq 0 X.length
theorem RB.below {j:Nat} {p:AU.Pk} (h:RB w W N L t n K I v j s gv sv X Y p) (hb:Below W.heap.size W W'):RB w W' N L t n K I v j s gv sv X Y p:=
 ⟨h.kb.below hb,h.lx,h.len,h.bd.only (Only.of_below hb _) (fun x hx=>.inl hx),h.is,h.pf,h.sq⟩
theorem QB.next {j:Nat} {q:Int} {a:Option Addr} {c jj:Nat} (h:QB w W N L t n K I v j s gv sv X Y q a c jj) :
 Calls Tryz.prog 34 #[.pointer (some ⟨N.ub,0,none⟩),.agg #[.int .i64 q,.int .i64 0,.int .i64 0,.int .i64 0,.bool true,.slice a 1 c]] W fun e w'=>∃ p,e=.returned (.tuple #[Audit.pv p,.nilIface])/\∃ s1,RB w w' N L t n K I v j s1 gv sv X Y p:=by
 have hl:=h.kb.tb.got.len
 have hlen:=h.len
 have hf:PM.fault q 0 0 0 1=0:=by
  have:=h.q0
  have:=h.q1
  unfold PM.fault;rw [if_pos (by omega),if_pos (by omega)]
 refine (Out.ξ4E N.ub 0 s.k s.tt s.ly s.ot q 0 0 0 true a 1 c [jj] W h.kb.tb.mem.u h.kb.tb.ui (by omega) hf h.arg h.nn).mono ?_
 rintro e w' ⟨a',c',rfl,h1,h2,h3,h4,h5⟩;have hlF:=h.kb.tb.rws.fpb
 refine ⟨⟨UM.sq 0 s.k,UM.nt s.k s.tt s.ly s.ot 0 0,0,0,true,a',1,c',[jj]⟩,rfl,{ s with k:=s.k+1,tt:=UM.nt s.k s.tt s.ly s.ot 0 0,ly:=0,ot:=0 },?_⟩
 have hu:=h.kb.tb.ui.next (ly:=s.ly) (l:=0) (t:=0) (by omega) (by omega) (by omega)
 have ht:TB w w' N L t (n+(j:Int)) { s with k:=s.k+1,tt:=UM.nt s.k s.tt s.ly s.ot 0 0,ly:=0,ot:=0 } gv sv X Y:=h.kb.tb.setU h4 h1 hu
 have hnt:=UM.ξ8s (k:=s.k) (ly:=s.ly) (ow:=s.ot) (l:=0) (t:=0) h.kb.tb.ui.t0 h.kb.tb.ui.t1
 have hsq:=UM.ξek 0 s.k
 refine ⟨h.kb.turn h4 (fun k hk=>.inl (by simp [Nm.F] at hk ⊢;omega)) ht rfl rfl (fun j hj=>.inl hj),h.lx,by show X.length+1=s.k+1;omega,⟨h2,h3,fun ad e hm=>⟨Audit.ξer (p:=⟨UM.sq 0 s.k,UM.nt s.k s.tt s.ly s.ot 0 0,0,0,true,a',1,c',[jj]⟩) h2 e hm,fun hc=>?_⟩⟩,⟨jj,⟨rfl,rfl,rfl,rfl⟩,h.h64,h.hj⟩,?_,by rw [h.len]⟩
 ·have:=h5 ad e
  have:=(hlF _ hc).2
  omega
 ·show PM.fault (UM.sq 0 s.k) (UM.nt s.k s.tt s.ly s.ot 0 0) 0 0 1=0
  unfold PM.fault;rw [if_pos (by omega),if_pos (by omega)]
theorem RB.add {j:Nat} {p:AU.Pk} {W1:World} (h:RB w W N L t n K I v j s gv sv X Y p) (hjK:j<K) {O:Obj} {g cap:Nat}
 (hown:W1.ownsRow w.heap.size 38 6 (.slice (some ⟨g,0,none⟩) (X.length+1) cap) (X.length+1) (Audit.flat X++Audit.pc p)) (hg:(W.alloc O).grownBy W1 gv.ownBlock) (hl:gv.ownBlock=some g∨g=W.heap.size+1) (hlt:g<W1.heap.size) :
 PB w W1 N L t n K I v (j+1) s (.slice (some ⟨g,0,none⟩) (X.length+1) cap) sv (X++[p]) Y:=by
 obtain ⟨jj,i1,i2,i3⟩:=h.is;have ho:Only gv.ownBlock.toList W W1:=(((Only.refl _ W).alloc O).grown hg (fun k e=>by simp [e]))
 have hgot:GotI L (n+((j+1:Nat):Int)) (X++[p]):=by
  have:=h.kb.tb.got.add i1 i2 h.pf h.sq i3
  rw [show n+(j:Int)+1=n+((j+1:Nat):Int) by omega] at this
  exact this
 have ht:=h.kb.tb.addX h.bd hown hg hl hlt hgot
 refine ⟨h.kb.turn ho (fun k hk=>.inr (by simpa using hk)) ht rfl rfl (fun k hk=>?_),.inr ?_,by rw [List.length_append,List.length_singleton];exact h.len,fun _=>.inl (by have:=h.len;omega)⟩
 ·simp only [Value.ownBlock,Option.some.injEq] at hk
  subst hk;rcases hl with e | e
  ·exact .inl e
  ·exact .inr (by omega)
 ·have:=h.lx
  omega
theorem PB.done (h:PB w W N L t n K I v K s gv sv X Y):TB w W N L t s.nx s gv sv X Y/\Fl s X.length/\(s.nx≠-1->0<X.length)/\(s.nx=-1->n=-1):=by
 have hn:=h.kb.nx
 have hnb:=h.kb.nb
 have hl0:=h.kb.tb.l0
 have hle:=h.len
 have hgo:s.nx≠-1->0<s.k:=by
  intro hx;by_cases hz:n=-1
  ·have:=h.kb.z hz
   omega
  ·rcases h.fi hz with e | ⟨e1,e2,_⟩
   ·exact e
   ·omega
 have ht:=h.kb.tb
 rw [<- hn] at ht;exact ⟨ht,⟨h.kb.tn,fun hx=>.inl (hgo hx),by rw [hn];exact h.lx,h.len⟩,fun hx=>by have:=hgo hx;omega,fun hx=>by omega⟩
theorem TB.row (h:TB w W N L t x s gv sv X Y) :
 Calls Tryz.prog 18 #[gv] W fun e w'=>e=.returned (.tuple #[.int .i64 0,.nilIface])/\Below W.heap.size W w':=by
 have hk:=h.got.len
 obtain ⟨a,cap,rfl,hA,_,_⟩:=Audit.ξ2e h.rws.got rfl (by omega) (fun p hp=>(h.rws.bx p hp).1)
 refine (Audit.ξ9x a X.length cap X X.length W hA h.got.row).mono ?_
 rintro e w' ⟨rfl,hb⟩;refine ⟨?_,hb⟩
 have e1:AU.rowf X X.length=0:=by unfold AU.rowf;rw [if_neg (by omega),if_neg (by omega)]
 have e2:AU.rat X X.length=0:=by unfold AU.rat;rw [if_neg (by omega),if_neg (by omega)]
 rw [e1,e2];rfl
theorem TB.check (h:TB w W N L t x s gv sv X Y) (hl:Y.length=64) :
 Calls Tryz.prog 17 #[sv,gv] W fun e w'=>e=.returned (.tuple #[.int .i64 0,.nilIface])/\Below W.heap.size W w':=by
 have hk:=h.got.len
 obtain ⟨a,cap,rfl,hA,_,_⟩:=Audit.ξ2e h.rws.got rfl (by omega) (fun p hp=>(h.rws.bx p hp).1)
 obtain ⟨a2,cap2,rfl,hA2,hc2,hn2⟩:=Audit.ξ2e h.rws.snt rfl (by omega) (fun p hp=>(h.rws.byy p hp).1)
 refine (Audit.ξ8 a2 Y.length cap2 Y a X.length cap X X.length W hA2 hc2 hn2 hA (h.got.stop h.sent hl)).mono ?_
 rintro e w' ⟨rfl,hb⟩;refine ⟨?_,hb⟩
 have e1:AU.cfault Y X X.length=0:=AU.ξ5m (by omega) (by omega)
 have e2:AU.cat Y X X.length=0:=by unfold AU.cat;rw [if_neg (by omega)]
 rw [e1,e2];rfl
end
def st0:Sv:=⟨0,-1,[],fun _=>false,0,-1,[],-1,-1,false,0,0,0,0⟩
def zsB:Array Value:=Array.replicate 64 (.bool false)
theorem zeroB (w:World):(zeroValue 65).run Tryz.prog w=.ok (.agg zsB) w:=by kernel_rfl
theorem ξdE (w:World):ArrB (w.alloc (.cells zsB 65)) w.heap.size (fun _=>false):=by
 refine ⟨_,heap_alloc_new w _,by simp [zsB],fun j hj=>?_⟩
 simp [zsB,hj]
structure S1 (w W:World) (gb mb:Nat):Prop where
 bel:Below w.heap.size w W
 g:Gaps.ξ6 W gb mb 2 2 0 (-1) [] (.slice none 0 0) []
 l1:w.heap.size<=gb
 l2:w.heap.size<=mb
structure S2 (w W:World) (gb mb ob om:Nat):Prop where
 s1:S1 w W gb mb
 o:Order.ξ1 W ob om 8 0 (-1) []
 l1:gb<ob/\gb<om/\mb<ob/\mb<om
structure S3 (w W:World) (gb mb ob om yb:Nat):Prop where
 s2:S2 w W gb mb ob om
 y:Layer.ξ3 W yb 3 (-1) (-1) false
 l1:gb<yb/\mb<yb/\ob<yb/\om<yb
structure S4 (w W:World) (gb mb ob om yb ub:Nat):Prop where
 s3:S3 w W gb mb ob om yb
 u:Out.OutAt W ub 0 0 0 0 0
 l1:gb<ub/\mb<ub/\ob<ub/\om<ub/\yb<ub
section
variable {w W W':World} {gb mb ob om yb ub:Nat}
theorem S1.below (h:S1 w W gb mb) (hb:Below W.heap.size W W'):S1 w W' gb mb:=⟨h.bel.trans (hb.mono h.bel.size),h.g.below hb,h.l1,h.l2⟩
theorem S2.below (h:S2 w W gb mb ob om) (hb:Below W.heap.size W W'):S2 w W' gb mb ob om:=⟨h.s1.below hb,h.o.below hb,h.l1⟩
theorem S3.below (h:S3 w W gb mb ob om yb) (hb:Below W.heap.size W W'):S3 w W' gb mb ob om yb:=⟨h.s2.below hb,h.y.below hb,h.l1⟩
theorem S4.below (h:S4 w W gb mb ob om yb ub) (hb:Below W.heap.size W W'):S4 w W' gb mb ob om yb ub:=⟨h.s3.below hb,h.u.below hb,h.l1⟩
theorem ξ3D (hb:Below w.heap.size w W):Calls Tryz.prog 20 #[.int .i64 2,.int .i64 2] W fun e w'=>∃ gb mb,e=.returned (.tuple #[.pointer (some ⟨gb,0,none⟩),.nilIface])/\S1 w w' gb mb:=by
 refine (Gaps.ξD 2 2 W (by omega) (by omega) (by omega) (by omega)).mono ?_
 rintro e w' ⟨b,m,rfl,h1,h2,h3,h4⟩;have:=hb.size
 exact ⟨b,m,rfl,hb.trans (h4.mono hb.size),h3,by omega,by omega⟩
theorem S1.next (h:S1 w W gb mb):Calls Tryz.prog 21 #[.int .i64 8] W fun e w'=>∃ ob om,e=.returned (.tuple #[.pointer (some ⟨ob,0,none⟩),.nilIface])/\S2 w w' gb mb ob om:=by
 refine (Order.ξD 8 W (by omega) (by omega)).mono ?_
 rintro e w' ⟨b,m,rfl,h1,h2,h3,h4⟩;have k1:=h.g.lt gb (by simp [Gaps.blks])
 have k2:=h.g.lt mb (by simp [Gaps.blks])
 exact ⟨b,m,rfl,h.below h4,h3,by omega,by omega,by omega,by omega⟩
theorem S2.next (h:S2 w W gb mb ob om):Calls Tryz.prog 22 #[.int .i64 3] W fun e w'=>∃ yb,e=.returned (.tuple #[.pointer (some ⟨yb,0,none⟩),.nilIface])/\S3 w w' gb mb ob om yb:=by
 refine (Layer.ξD 3 W (by omega) (by omega)).mono ?_
 rintro e w' ⟨b,rfl,h1,h2,h3⟩;have k1:=h.s1.g.lt gb (by simp [Gaps.blks])
 have k2:=h.s1.g.lt mb (by simp [Gaps.blks])
 have k3:=h.o.lt
 exact ⟨b,rfl,h.below h3,h2,by omega,by omega,by omega,by omega⟩
theorem S3.next (h:S3 w W gb mb ob om yb):Calls Tryz.prog 23 #[.int .i64 0,.int .i64 0] W fun e w'=>∃ ub,e=.returned (.tuple #[.pointer (some ⟨ub,0,none⟩),.nilIface])/\S4 w w' gb mb ob om yb ub:=by
 refine (Out.ξD 0 0 W (by omega) (by omega) (by omega) (by omega)).mono ?_
 rintro e w' ⟨b,rfl,h1,h2,h3⟩;have k1:=h.s2.s1.g.lt gb (by simp [Gaps.blks])
 have k2:=h.s2.s1.g.lt mb (by simp [Gaps.blks])
 have k3:=h.s2.o.lt
 have k4:=h.y.lt
 exact ⟨b,rfl,h.below h3,h2,by omega,by omega,by omega,by omega,by omega⟩
theorem S4.start (h:S4 w W gb mb ob om yb ub) {L:Int} (h0:100<=L) (h1:L<=2000000000):TB w (W.alloc (.cells zsB 65)) ⟨gb,mb,ob,om,yb,ub,W.heap.size⟩ L 0 (-1) st0 (.slice none 0 0) (.slice none 0 0) [] []:=by
 have hb:Below W.heap.size W (W.alloc (.cells zsB 65)):=(Below.refl _ _).alloc (Nat.le_refl _) _
 have h':=h.below hb
 have k1:=h.s3.s2.s1.g.lt gb (by simp [Gaps.blks])
 have k2:=h.s3.s2.s1.g.lt mb (by simp [Gaps.blks])
 have k3:=h.s3.s2.o.lt
 have k4:=h.s3.y.lt
 have k5:=h.u.lt
 have n1:=h.s3.s2.s1.g.ne.1
 have n2:=h.s3.s2.o.ne
 obtain ⟨m1,m2,m3,m4⟩:=h.s3.s2.l1;obtain ⟨p1,p2,p3,p4⟩:=h.s3.l1;obtain ⟨q1,q2,q3,q4,q5⟩:=h.l1;have z1:=h.s3.s2.s1.l1
 have z2:=h.s3.s2.s1.l2
 have z3:=h.s3.s2.s1.bel.size
 refine ⟨Audit.RwsF.start h'.s3.s2.s1.bel ?_ ?_,?_,⟨h'.s3.s2.s1.g,h'.s3.s2.o,h'.s3.y,h'.u,ξdE W⟩,ξc0,ξbt,ξbG,UM.ξA (S:=0) (T:=0) (by omega) (by omega) (by omega) (by omega),ξaq,ξ85,Int.le_refl _,Int.le_refl _,h0,h1,Int.le_refl _,by omega⟩
 ·intro b hb;simp only [Nm.F,List.mem_cons,List.not_mem_nil,or_false] at hb
  omega
 ·intro b hb;simp only [Nm.F,List.mem_cons,List.not_mem_nil,or_false] at hb
  simp only [World.size_alloc]
  omega
 ·simp only [Nm.F,List.nodup_cons,List.mem_cons,List.not_mem_nil,or_false,not_or,List.nodup_nil,not_false_eq_true,and_true]
  omega
structure RS (w W:World) (N:Nm) (L:Int) (t:Nat) (tp lk:Int) (s:Sv) (gv sv:Value) (X Y:List AU.Pk):Prop where
 tb:TB w W N L (t:Int) s.nx s gv sv X Y
 fl:Fl s X.length
 go:s.nx≠-1->0<X.length
 p0:L<=tp
 p1:tp<L+64
 k0:0<=lk
 k1:lk<=64*(t:Int)
 kz:s.nx=-1->lk=0
structure AS (w W:World) (N:Nm) (L:Int) (t:Nat) (tp lk:Int) (s:Sv) (gv sv:Value) (X Y:List AU.Pk):Prop where
 tb:TB w W N L (t:Int) s.nx s gv sv X Y
 fl:Fl s X.length
 p0:L<=tp
 p1:tp<L+64
 kz:s.nx=-1->lk=0
theorem ξ1b {W W':World} {bs:List Nat} {g o:Nat} {u:Value} (hc:W.cell? ⟨g,o,none⟩=some u) (ho:Only bs W W') (hg:g∉bs):W'.cell? ⟨g,o,none⟩=some u:=by
 rw [<- hc];exact NO.ξi (ho.2.2.2.2 g (World.block_lt_of_cell? W ⟨g,o,none⟩ hc) hg) _
theorem fl0:Fl st0 0:=⟨fun h=>absurd rfl h,fun h=>absurd rfl h,.inl rfl,rfl⟩
end
theorem TB.sends {w W W1:World} {N:Nm} {L t x:Int} {s:Sv} {gv sv:Value} {X Y:List AU.Pk} (h:TB w W N L t x s gv sv X Y) {i:Nat} (hi:i=Y.length) (h64:i<64) {g cap:Nat}
 (hown:W1.ownsRow w.heap.size 38 6 (.slice (some ⟨g,0,none⟩) (i+1) cap) (i+1) (Audit.flat Y++[.int .i64 ((L+(i:Int))%65536),.int .i64 0,.int .i64 0,.int .i64 0,.bool true,.slice (some ⟨W.heap.size,0,none⟩) 1 1]))
 (hg:((W.alloc (.cells #[.int .u8 (i:Int)] 5)).alloc (.cells #[.int .i64 ((L+(i:Int))%65536),.int .i64 0,.int .i64 0,.int .i64 0,.bool true,.slice (some ⟨W.heap.size,0,none⟩) 1 1] 38)).grownBy W1 sv.ownBlock) (hl:sv.ownBlock=some g∨g=W.heap.size+1+1) (hlt:g<W1.heap.size) :
 TB w W1 N L t x s gv (.slice (some ⟨g,0,none⟩) (i+1) cap) X (Y++[⟨(L+(i:Int))%65536,0,0,0,true,some ⟨W.heap.size,0,none⟩,1,1,[i]⟩]):=by
 subst hi;have hb:Below W.heap.size W (W.alloc (.cells #[.int .u8 (Y.length:Int)] 5)):=(Below.refl _ _).alloc (Nat.le_refl _) _
 have h1:=h.below hb
 have hc:(W.alloc (.cells #[.int .u8 (Y.length:Int)] 5)).cell? ⟨W.heap.size,0,none⟩=some (.int .u8 (Y.length:Int)):=by rw [World.cell?_alloc_mark];rfl
 have hA:Arg (W.alloc (.cells #[.int .u8 (Y.length:Int)] 5)) (some ⟨W.heap.size,0,none⟩) 1 [Y.length]:=by
  refine ⟨⟨by simp;omega,fun j hj=>⟨W.heap.size,0,rfl,?_⟩⟩,rfl,by omega⟩
  obtain rfl:j=0:=by simp at hj;omega
  exact hc
 have hs:(W.alloc (.cells #[.int .u8 (Y.length:Int)] 5)).heap.size=W.heap.size+1:=by simp
 refine h1.addY (p:=⟨(L+(Y.length:Int))%65536,0,0,0,true,some ⟨W.heap.size,0,none⟩,1,1,[Y.length]⟩) ⟨hA,(fun e=>by cases e),fun ad e _=>?_⟩ hown hg (by rw [hs];exact hl) hlt (h.sent.add ⟨rfl,rfl,rfl,rfl⟩ rfl rfl rfl)
 cases e
 refine ⟨by rw [hs];exact Nat.lt_succ_self _,fun hm=>?_⟩
 exact Nat.lt_irrefl _ (h.rws.fpb _ hm).2
theorem ξcD (S:Int) (vl:Value) (w:World) (h0:S<0) :
 Calls Tryz.prog 5 #[vl,.int .i64 S] w fun e w'=>e=.returned (.bool true)/\Below w.heap.size w w':=by
 have HO:=ξ0 (MS.ξ2X w)
 have d0:decide (S<0)=true:=decide_eq_true h0
 go_enter Tryz.func5,Tryz.ntmps5
 go_wp2_with fail
 refine HO.out.mono ?_
 rintro e w1 ⟨rfl,hb⟩;have HB:=ξ0 hb
 clear hb HO;go_wp2_with fail
 refine (ξ3D HB.out).mono ?_
 rintro e w2 ⟨gb,mb,rfl,h2⟩;go_wp2_with fail
 refine h2.next.mono ?_
 rintro e w3 ⟨ob,om,rfl,h3⟩;go_wp2_with fail
 refine h3.next.mono ?_
 rintro e w4 ⟨yb,rfl,h4⟩;go_wp2_with fail
 refine h4.next.mono ?_
 rintro e w5 ⟨ub,rfl,h5⟩;go_wp2_with fail
 go_ret
 exact ⟨rfl,h5.s3.s2.s1.bel⟩
theorem ξcC (S:Int) (vl:Value) (w:World) (h0:¬ S<0) (h1:1000000000<S) :
 Calls Tryz.prog 5 #[vl,.int .i64 S] w fun e w'=>e=.returned (.bool true)/\Below w.heap.size w w':=by
 have HO:=ξ0 (MS.ξ2X w)
 have d0:decide (S<0)=false:=decide_eq_false h0
 have d1:decide (1000000000<S)=true:=decide_eq_true h1
 go_enter Tryz.func5,Tryz.ntmps5
 go_wp2_with fail
 refine HO.out.mono ?_
 rintro e w1 ⟨rfl,hb⟩;have HB:=ξ0 hb
 clear hb HO;go_wp2_with fail
 refine (ξ3D HB.out).mono ?_
 rintro e w2 ⟨gb,mb,rfl,h2⟩;go_wp2_with fail
 refine h2.next.mono ?_
 rintro e w3 ⟨ob,om,rfl,h3⟩;go_wp2_with fail
 refine h3.next.mono ?_
 rintro e w4 ⟨yb,rfl,h4⟩;go_wp2_with fail
 refine h4.next.mono ?_
 rintro e w5 ⟨ub,rfl,h5⟩;go_wp2_with fail
 go_ret
 exact ⟨rfl,h5.s3.s2.s1.bel⟩
end Go.Proofs.YtpiamlgmadnepaaGreat.TR
