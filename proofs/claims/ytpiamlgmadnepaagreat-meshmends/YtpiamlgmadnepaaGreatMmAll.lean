/-
 MmA, MmB, MmC, MmD, MmE in one text.
-/
import Derived.Test.YtpiamlgmadnepaaGreatMeshMath
set_option linter.unusedVariables false
namespace Go.Proofs.YtpiamlgmadnepaaGreat.MS
open Go.ChangeShapes Go.WideShapes Go.ChangeAt Go.RowKit Go.Maps Mem NO ND
theorem ξ4T:∀ (M:GM.Its) (a b:Int),GM.Ris M->(∀ x∈M,a<=x.n/\x.n<b)->M=[]∨(M.length:Int)<=b - a
 | [],_,_,_,_=>.inl rfl
 | x::M,a,b,hr,hb=>by
   right
   have h1:=hb x (List.mem_cons_self ..)
   have hr':=List.pairwise_cons.1 hr
   rcases ξ4T M (x.n+1) b hr'.2 (fun y hy=>⟨by have:=hr'.1 y hy;omega,(hb y (List.mem_cons_of_mem _ hy)).2⟩) with e | e
   ·rw [e];simp;omega
   ·rw [List.length_cons];omega
def setH (H:Nat->Bool) (i:Nat):Nat->Bool:=fun k=>if k=i then true else H k
theorem ξV (H:Nat->Bool) (i:Nat):setH H i i=true:=if_pos rfl
theorem ξ1a (H:Nat->Bool) {i k:Nat} (h:k≠i):setH H i k=H k:=if_neg h
theorem ξ1B {H:Nat->Bool} {i k:Nat} (h:setH H i k=true):k=i∨H k=true:=by
 by_cases e:k=i
 ·exact .inl e
 ·rw [ξ1a H e] at h;exact .inr h
theorem ξ12 {H:Nat->Bool} {i k:Nat} (h:H k=true):setH H i k=true:=by
 by_cases e:k=i
 ·rw [e];exact ξV H i
 ·rw [ξ1a H e];exact h
structure TrM (p:List Int) (n v rt:Nat) (S:Nat->Pk) (H:Nat->Bool) (f:Nat) (T:Int) (t:Tr):Prop where
 tk:t.tk=1
 ep:t.ep=1
 pa:t.pa=TM.dg p v
 kids:t.kids=TM.kd p (v:Int) n
 gT:t.gT=T
 rT:t.rT=T
 tt:(T=-1/\∀ i,H i=false)∨∃ j:Nat,T=65536+(j:Int)/\H j=true/\H f=true
 hb:∀ i,H i=true->i<60/\f<=i/\65536+(i:Int)<=T
 gm:∀ i:Nat,GM.has t.gM (65536+(i:Int))=true↔(f<=i/\65536+(i:Int)<T/\H i=false)
 gn:∀ x∈t.gM,65536<=x.n
 rg:∀ i,H i=true->∃ q,t.rM.find? (fun z=>z.1==65536+(i:Int))=some (65536+(i:Int),q)/\ppk q=S i/\t.wy (65536+(i:Int))=((rt:Int),(dp p n v:Int))
 rn:∀ z∈t.rM,∃ i:Nat,z.1=65536+(i:Int)/\H i=true
section
variable {p:List Int} {n v rt:Nat} {S:Nat->Pk} {H:Nat->Bool} {f:Nat} {T:Int} {t:Tr}
theorem TrM.tlt (h:TrM p n v rt S H f T t):T=-1∨(65536<=T/\T<65596):=by
 rcases h.tt with ⟨e,_⟩ | ⟨j,e,hj,_⟩
 ·exact .inl e
 ·have:=(h.hb j hj).1
  exact .inr (by omega)
theorem TrM.num (h:TrM p n v rt S H f T t) {i:Nat} (hi:i<60):ND.num t.rT (i:Int)=65536+(i:Int):=by
 rw [h.rT];unfold ND.num;rcases h.tlt with e | e
 ·rw [if_pos (by omega)]
 ·rw [if_neg (by omega)]
  unfold Ser.unw Ser.bey;split<;>omega
theorem TrM.hf {nw now:Int} (h:TrM p n v rt S H f T t) (hO:TrOk n nw 0 t) (h0:nw<=now) (h1:now<=1000000) {i:Nat} (hi:i<60):GM.hf t.gn t.gT t.gM (65536+(i:Int)) now=0:=by
 unfold GM.hf;have htf:GM.tf t.gn now=0:=ξ1Y hO.gi.n1 (Int.le_trans hO.gn h0) h1
 rw [if_neg (by rw [htf];simp),if_neg (by omega),if_neg ?_]
 have hT:=h.tlt
 rw [h.gT];have hr:=ξ4T t.gM 65536 65596 hO.gi.ris (fun x hx=>⟨h.gn x hx,by have:=(hO.gi.mem x hx).2.1;rw [h.gT] at this;omega⟩)
 unfold GM.lo;rcases hr with e | e
 ·rw [e];simp;split<;>omega
 ·split<;>omega
theorem TrM.fresh {nw now:Int} (h:TrM p n v rt S H f T t) (hO:TrOk n nw 0 t) (h0:nw<=now) (h1:now<=1000000) {i:Nat} (hi:i<60) :
 GM.hB t.gn t.gT t.gM (65536+(i:Int)) now=decide (H i=false/\(T=-1∨f<=i)):=by
 unfold GM.hB GM.hx;rw [h.hf hO h0 h1 hi,h.gT];have hg:=h.gm i
 cases hg':GM.has t.gM (65536+(i:Int)) with
 | true=>
   obtain ⟨a,b,c⟩:=hg.1 hg';rw [decide_eq_true (p:=H i=false/\_) ⟨c,.inr a⟩];simp
 | false=>
   have hn:¬ (f<=i/\65536+(i:Int)<T/\H i=false):=fun hc=>by rw [hg.2 hc] at hg';cases hg'
   by_cases hlt:T<65536+(i:Int)
   ·rw [decide_eq_true hlt];have hHi:H i=false:=by
     cases hH:H i with
     | false=>rfl
     | true=>have:=(h.hb i hH).2.2;omega
    have hfi:T=-1∨f<=i:=by
     rcases h.tt with ⟨e,_⟩ | ⟨j,e,_,hf⟩
     ·exact .inl e
     ·right;have:=(h.hb f hf).2.2;omega
    rw [decide_eq_true (p:=H i=false/\_) ⟨hHi,hfi⟩];simp
   ·rw [decide_eq_false hlt];have:¬ (H i=false/\(T=-1∨f<=i)):=by
     rintro ⟨a,b⟩;rcases h.tt with ⟨e,_⟩ | ⟨j,e,hj,_⟩
     ·omega
     ·by_cases hij:i=j
      ·rw [hij,hj] at a;cases a
      ·exact hn ⟨by omega,by omega,a⟩
    rw [decide_eq_false this];simp
theorem TrM.dull {nw now:Int} (h:TrM p n v rt S H f T t) (hO:TrOk n nw 0 t) (h0:nw<=now) (h1:now<=1000000) {i:Nat} (hi:i<60) (hd:¬ (H i=false/\(T=-1∨f<=i))) :
 TrM p n v rt S H f T (t.heard (65536+(i:Int)) now)/\(t.heard (65536+(i:Int)) now).gM=t.gM:=by
 have hfz:=h.hf hO h0 h1 hi
 have hfr:=h.fresh hO h0 h1 hi
 rw [decide_eq_false hd] at hfr;unfold GM.hB GM.hx at hfr;rw [hfz,h.gT] at hfr;simp only [decide_true,Bool.true_and,Bool.or_eq_false_iff,decide_eq_false_iff_not] at hfr
 obtain ⟨h2,h3⟩:=hfr;have e1:(t.heard (65536+(i:Int)) now).gM=t.gM:=by
  show GM.hL t.gn t.gT t.gM (65536+(i:Int)) now=_
  unfold GM.hL GM.hM;rw [if_pos hfz,h.gT,if_neg h2];exact List.filter_eq_self.2 (fun x hx=>by simpa using GM.ξ11 h3 x hx)
 have e2:(t.heard (65536+(i:Int)) now).gT=T:=by
  show GM.hU t.gn t.gT t.gM (65536+(i:Int)) now=_
  unfold GM.hU GM.hT;rw [if_pos hfz,h.gT,if_neg h2]
 exact ⟨⟨h.tk,h.ep,h.pa,h.kids,e2,h.rT,h.tt,h.hb,by rw [e1];exact h.gm,by rw [e1];exact h.gn,h.rg,h.rn⟩,e1⟩
theorem TrM.news {nw now:Int} (h:TrM p n v rt S H f T t) (hO:TrOk n nw 0 t) (h0:nw<=now) (h1:now<=1000000) {i:Nat} (hi:i<60) (hd:H i=false/\(T=-1∨f<=i)) (pk:RM.Pk) (hp:ppk pk=S i) :
 ∃ f' T',TrM p n v rt S (setH H i) f' T' ((t.heard (65536+(i:Int)) now).keep (65536+(i:Int)) pk ((rt:Int),(dp p n v:Int)))/\(T≠-1->f'=f)/\(T=-1->f'=i)/\T'≠-1/\T<=T'/\65536+(i:Int)<=T' /\
  ∀ x∈((t.heard (65536+(i:Int)) now).keep (65536+(i:Int)) pk ((rt:Int),(dp p n v:Int))).gM,x∈t.gM∨x.t=0:=by
 obtain ⟨hHi,hfi⟩:=hd;have hfz:=h.hf hO h0 h1 hi
 have hT:=h.tlt
 have hno:RM.has t.rM (65536+(i:Int))=false:=by
  cases hh:RM.has t.rM (65536+(i:Int)) with
  | false=>rfl
  | true=>
    unfold RM.has at hh;obtain ⟨z,hz,he⟩:=List.any_eq_true.1 hh;obtain ⟨k,e1,e2⟩:=h.rn z hz;have:k=i:=by have:=beq_iff_eq.1 he;omega
    rw [this,hHi] at e2;cases e2
 have hx:RM.px 64 (t.heard (65536+(i:Int)) now).rT (65536+(i:Int)) (t.heard (65536+(i:Int)) now).rM 0=true:=by
  show RM.px 64 t.rT (65536+(i:Int)) t.rM 0=true
  unfold RM.px RM.pf;rw [hno,h.rT,if_neg (by omega),if_neg (by simp),if_neg (by omega)]
  rfl
 rw [Tr.keep_yes hx];have hkeep:RM.keeps 64 (RM.top t.rT (65536+(i:Int))) t.rM=t.rM:=by
  unfold RM.keeps;refine List.filter_eq_self.2 (fun z hz=>?_)
  obtain ⟨k,e1,e2⟩:=h.rn z hz;unfold RM.top;rw [h.rT,e1];simp only [decide_eq_true_eq]
  split<;>omega
 have hrM:RM.keeps 64 (RM.top (t.heard (65536+(i:Int)) now).rT (65536+(i:Int))) (t.heard (65536+(i:Int)) now).rM++[(65536+(i:Int),pk)]=t.rM++[(65536+(i:Int),pk)]:=by
  show RM.keeps 64 (RM.top t.rT (65536+(i:Int))) t.rM++_=_
  rw [hkeep]
 -- the ring and the ways
 have hrg:∀ k,setH H i k=true->∃ q,(t.rM++[(65536+(i:Int),pk)]).find? (fun z=>z.1==65536+(k:Int))=some (65536+(k:Int),q)/\ppk q=S k/\(if 65536+(k:Int)=65536+(i:Int) then ((rt:Int),(dp p n v:Int)) else t.wy (65536+(k:Int)))=((rt:Int),(dp p n v:Int)):=by
  intro k hk;by_cases e:k=i
  ·subst e;refine ⟨pk,?_,hp,if_pos rfl⟩
   rw [List.find?_append];have:t.rM.find? (fun z=>z.1==65536+(k:Int))=none:=by
    rw [List.find?_eq_none];intro z hz hc;unfold RM.has at hno;have:=List.any_eq_false.1 hno z hz
    exact this hc
   rw [this];simp
  ·rw [ξ1a H e] at hk;obtain ⟨q,e1,e2,e3⟩:=h.rg k hk;refine ⟨q,?_,e2,?_⟩
   ·rw [List.find?_append,e1];rfl
   ·rw [if_neg (by omega)];exact e3
 have hrn:∀ z∈t.rM++[(65536+(i:Int),pk)],∃ k:Nat,z.1=65536+(k:Int)/\setH H i k=true:=by
  intro z hz;rcases Ξe.1 hz with hz | hz
  ·obtain ⟨k,e1,e2⟩:=h.rn z hz;exact ⟨k,e1,ξ12 e2⟩
  ·rw [Ξg] at hz;rw [hz];exact ⟨i,rfl,ξV H i⟩
 have hU:(t.heard (65536+(i:Int)) now).gT=GM.hT T (65536+(i:Int)):=by
  show GM.hU t.gn t.gT t.gM (65536+(i:Int)) now=_
  unfold GM.hU;rw [if_pos hfz,h.gT]
 have hLM:(t.heard (65536+(i:Int)) now).gM=GM.hM T t.gM (65536+(i:Int)):=by
  show GM.hL t.gn t.gT t.gM (65536+(i:Int)) now=_
  unfold GM.hL;rw [if_pos hfz,h.gT]
 have hR:RM.top (t.heard (65536+(i:Int)) now).rT (65536+(i:Int))=GM.hT T (65536+(i:Int)):=by
  show RM.top t.rT (65536+(i:Int))=_
  rw [h.rT];rfl
 by_cases hlt:T<65536+(i:Int)
 ·-- above all
  have eT:GM.hT T (65536+(i:Int))=65536+(i:Int):=by unfold GM.hT;rw [if_pos hlt]
  have eM:GM.hM T t.gM (65536+(i:Int))=t.gM++GM.fresh T (GM.lo T (65536+(i:Int))).toNat:=by unfold GM.hM;rw [if_pos hlt]
  rcases h.tt with ⟨e,hz⟩ | ⟨j,e,hj,hf⟩
  ·-- the first
   have hM0:t.gM=[]:=by
    rcases List.eq_nil_or_concat t.gM with e' | ⟨L,x,e'⟩
    ·exact e'
    ·exfalso
     have hx:x∈t.gM:=by rw [e'];simp
     have:=(hO.gi.mem x hx).2.1
     rw [h.gT] at this;have:=h.gn x hx
     omega
   have hlo:GM.lo T (65536+(i:Int))=0:=by unfold GM.lo;rw [if_pos (.inl e)]
   refine ⟨i,65536+(i:Int),⟨h.tk,h.ep,h.pa,h.kids,hU.trans eT,?_,.inr ⟨i,rfl,ξV H i,ξV H i⟩,?_,?_,?_,?_,?_⟩,fun hc=>absurd e hc,fun _=>rfl,by omega,by omega,by omega,?_⟩
   ·show RM.top _ _=_;rw [hR,eT]
   ·intro k hk;rcases ξ1B hk with e' | e'
    ·omega
    ·rw [hz k] at e';cases e'
   ·intro k;show GM.has (t.heard (65536+(i:Int)) now).gM _=true↔_
    rw [hLM,eM,hM0,hlo];constructor
    ·intro hc;cases hc
    ·intro hc;omega
   ·intro x hx;have hx':x∈(t.heard (65536+(i:Int)) now).gM:=hx
    rw [hLM,eM,hM0,hlo] at hx';exact absurd hx' (by simp [GM.fresh])
   ·intro k hk;rw [hrM];exact hrg k hk
   ·rw [hrM];exact hrn
   ·intro x hx;have hx':x∈(t.heard (65536+(i:Int)) now).gM:=hx
    rw [hLM,eM,hM0,hlo] at hx';exact absurd hx' (by simp [GM.fresh])
  ·have hlo:GM.lo T (65536+(i:Int))=(i:Int) - (j:Int) - 1:=by unfold GM.lo;rw [if_neg (by omega)];omega
   have hfj:=(h.hb f hf).2.2
   refine ⟨f,65536+(i:Int),⟨h.tk,h.ep,h.pa,h.kids,hU.trans eT,?_,.inr ⟨i,rfl,ξV H i,ξ12 hf⟩,?_,?_,?_,?_,?_⟩,fun _=>rfl,fun hc=>by omega,by omega,by omega,by omega,?_⟩
   ·show RM.top _ _=_;rw [hR,eT]
   ·intro k hk;rcases ξ1B hk with e' | e'
    ·omega
    ·have:=h.hb k e';omega
   ·intro k;show GM.has (t.heard (65536+(i:Int)) now).gM _=true↔_
    rw [hLM,eM];constructor
    ·intro hc;obtain ⟨x,hx,hxn⟩:=GM.ξg.1 hc;rcases Ξe.1 hx with hx | hx
     ·obtain ⟨a,b,c⟩:=(h.gm k).1 (GM.ξg.2 ⟨x,hx,hxn⟩);exact ⟨a,by omega,by rw [ξ1a H (by omega)];exact c⟩
     ·obtain ⟨q,hq,rfl⟩:=GM.ξ1g.1 hx;have hxn':T+1+(q:Int)=65536+(k:Int):=hxn
      refine ⟨by omega,by omega,?_⟩
      rw [ξ1a H (by omega)]
      cases hk:H k with
      | false=>rfl
      | true=>have:=(h.hb k hk).2.2;omega
    ·rintro ⟨a,b,c⟩;have hki:k≠i:=by omega
     rw [ξ1a H hki] at c;by_cases hkj:k<j
     ·obtain ⟨x,hx,hxn⟩:=GM.ξg.1 ((h.gm k).2 ⟨a,by omega,c⟩)
      exact GM.ξg.2 ⟨x,List.mem_append_left _ hx,hxn⟩
     ·have hkj':k≠j:=fun e'=>by rw [e',hj] at c;cases c
      exact GM.ξg.2 ⟨_,List.mem_append_right _ (GM.ξ1g.2 ⟨k - j - 1,by omega,rfl⟩),by show T+1+((k - j - 1:Nat):Int)=_;omega⟩
   ·intro x hx;have hx':x∈(t.heard (65536+(i:Int)) now).gM:=hx
    rw [hLM,eM] at hx';rcases Ξe.1 hx' with hx' | hx'
    ·exact h.gn x hx'
    ·obtain ⟨q,hq,rfl⟩:=GM.ξ1g.1 hx';show 65536<=T+1+(q:Int)
     omega
   ·intro k hk;rw [hrM];exact hrg k hk
   ·rw [hrM];exact hrn
   ·intro x hx;have hx':x∈(t.heard (65536+(i:Int)) now).gM:=hx
    rw [hLM,eM] at hx';rcases Ξe.1 hx' with hx' | hx'
    ·exact .inl hx'
    ·obtain ⟨q,hq,rfl⟩:=GM.ξ1g.1 hx';exact .inr rfl
 ·-- one that was lacking
  have eT:GM.hT T (65536+(i:Int))=T:=by unfold GM.hT;rw [if_neg hlt]
  have eM:GM.hM T t.gM (65536+(i:Int))=t.gM.filter fun x=>decide (x.n≠65536+(i:Int)):=by unfold GM.hM;rw [if_neg hlt]
  rcases h.tt with ⟨e,hz⟩ | ⟨j,e,hj,hf⟩
  ·omega
  have hij:i≠j:=fun e'=>by rw [e',hj] at hHi;cases hHi
  refine ⟨f,T,⟨h.tk,h.ep,h.pa,h.kids,hU.trans eT,?_,.inr ⟨j,e,ξ12 hj,ξ12 hf⟩,?_,?_,?_,?_,?_⟩,fun _=>rfl,fun hc=>by omega,by omega,by omega,by omega,?_⟩
  ·show RM.top _ _=_;rw [hR,eT]
  ·intro k hk;rcases ξ1B hk with e' | e'
   ·omega
   ·have:=h.hb k e';omega
  ·intro k;show GM.has (t.heard (65536+(i:Int)) now).gM _=true↔_
   rw [hLM,eM];constructor
   ·intro hc;obtain ⟨x,hx,hxn⟩:=GM.ξg.1 hc;rw [Ξj] at hx;have hne:x.n≠65536+(i:Int):=by simpa using hx.2
    obtain ⟨a,b,c⟩:=(h.gm k).1 (GM.ξg.2 ⟨x,hx.1,hxn⟩);exact ⟨a,b,by rw [ξ1a H (by omega)];exact c⟩
   ·rintro ⟨a,b,c⟩;have hki:k≠i:=fun e'=>by rw [e',ξV] at c;cases c
    rw [ξ1a H hki] at c;obtain ⟨x,hx,hxn⟩:=GM.ξg.1 ((h.gm k).2 ⟨a,b,c⟩);exact GM.ξg.2 ⟨x,Ξj.2 ⟨hx,by simp;omega⟩,hxn⟩
  ·intro x hx;have hx':x∈(t.heard (65536+(i:Int)) now).gM:=hx
   rw [hLM,eM,Ξj] at hx';exact h.gn x hx'.1
  ·intro k hk;rw [hrM];exact hrg k hk
  ·rw [hrM];exact hrn
  ·intro x hx;have hx':x∈(t.heard (65536+(i:Int)) now).gM:=hx
   rw [hLM,eM,Ξj] at hx';exact .inl hx'.1
end
structure Pks (S:Nat->Pk):Prop where
 ok:∀ i,i<60->PkOk 0 i (S i)
 l:∀ i,(S i).l=0
 st:∀ i,(S i).st=true
def pk0:Pk:=⟨0,0,0,0,false,[]⟩
def Row0 (S:Nat->Pk) (f k:Nat) (G:List Pk):Prop:=G.length=k/\∀ j,j<k->(G.getD j pk0).s=(j:Int)/\(G.getD j pk0).L=(S (f+j)).L
theorem ξcc (S:Nat->Pk) (f:Nat):Row0 S f 0 []:=⟨rfl,fun j h=>by omega⟩
theorem Row0.add {S:Nat->Pk} {f k:Nat} {G:List Pk} (h:Row0 S f k G) {x:Pk} (h1:x.s=(k:Int)) (h2:x.L=(S (f+k)).L):Row0 S f (k+1) (G++[x]):=by
 refine ⟨by rw [Ξh,h.1];rfl,fun j hj=>?_⟩
 by_cases e:j<k
 ·have:(G++[x]).getD j pk0=G.getD j pk0:=by simp [List.getD_eq_getElem?_getD,List.getElem?_append_left (show j<G.length by rw [h.1];exact e)]
  rw [this];exact h.2 j e
 ·obtain rfl:j=k:=by omega
  have:(G++[x]).getD j pk0=x:=by rw [<- h.1];simp [List.getD_eq_getElem?_getD]
  rw [this];exact ⟨h1,h2⟩
structure SameS (s s':Sb):Prop where
 tk:s'.tk=s.tk
 mo:s'.mo=s.mo
 on:s'.on=s.on
 ox:s'.ox=s.ox
 oM:s'.oM=s.oM
theorem ξb2 {S:Nat->Pk} (hS:Pks S) {s:Sb} {i f k:Nat} {a:Int} (hi:i<60) (hfi:i=f+k) (hmo:s.mo=3) (hbr:s.br=false) (hln:s.ln=-1∨s.ln=0) (hla:s.la<65536+(i:Int)) (huk:s.uk=k) (hg:Row0 S f k s.got) :
 SameS s (s.item (kpk (65536+(i:Int)) a (S i)))/\(s.item (kpk (65536+(i:Int)) a (S i))).br=false/\(s.item (kpk (65536+(i:Int)) a (S i))).ln=0/\(s.item (kpk (65536+(i:Int)) a (S i))).la=65536+(i:Int)/\(s.item (kpk (65536+(i:Int)) a (S i))).uk=k+1/\Row0 S f (k+1) (s.item (kpk (65536+(i:Int)) a (S i))).got:=by
 have hp:=hS.ok i hi
 have hl:=hS.l i
 have hst:=hS.st i
 have hfl:ifl (kpk (65536+(i:Int)) a (S i))=0:=hp.f
 have hf:LM.tkf s.la (65536+(i:Int)) false (ifl (kpk (65536+(i:Int)) a (S i)))=0:=(LM.ξ68 (by omega) (by omega) (by omega)).trans hfl
 have hgo:LM.goes s.mo s.ln (S i).l s.br (S i).st=true:=by
  unfold LM.goes;rw [hmo,hl,hbr,hst];rcases hln with e | e<;>(rw [e];decide)
 obtain ⟨e1,e2,e3,e4⟩:=LM.ξ7P (m:=s.mo) (nw:=s.ln) (br:=s.br) (l:=(S i).l) (st:=(S i).st) hf;have hthru:s.thru (kpk (65536+(i:Int)) a (S i))=true:=by
  unfold Sb.thru;exact e1.trans hgo
 have he:s.item (kpk (65536+(i:Int)) a (S i))={ (s.laid (kpk (65536+(i:Int)) a (S i))).next (kpk (65536+(i:Int)) a (S i)) with got:=s.got++[s.outp (kpk (65536+(i:Int)) a (S i))] }:=by
  unfold Sb.item;rw [if_pos hthru]
 rw [he];refine ⟨⟨rfl,rfl,rfl,rfl,rfl⟩,?_,?_,e2,by show s.uk+1=k+1;rw [huk],hg.add ?_ ?_⟩
 ·show LM.tkB s.mo s.ln s.la (65536+(i:Int)) s.br false _ (S i).l (S i).st=false
  rw [e4,hgo,hst];rfl
 ·show LM.tkN s.mo s.ln s.la (65536+(i:Int)) s.br false _ (S i).l (S i).st=0
  rw [e3,hgo,hst,hl];rfl
 ·show UM.sq 0 s.uk=(k:Int)
  rw [huk];unfold UM.sq;omega
 ·show (S i).L=_
  rw [hfi]
structure SbM (S:Nat->Pk) (H:Nat->Bool) (f:Nat) (e:Nat) (s:Sb):Prop where
 tk:s.tk=1
 mo:s.mo=3
 br:s.br=false
 fe:f<e
 ox:s.ox=65536+(e:Int)
 all:∀ i,f<=i->i<e->H i=true
 no:H e=false
 ln:s.ln=0
 la:s.la<65536+(e:Int)
 uk:s.uk=e - f
 got:Row0 S f (e - f) s.got
 om:∀ x∈s.oM,∃ (i:Nat) (a:Int),x=kpk (65536+(i:Int)) a (S i)/\H i=true/\0<=a
 oc:∀ i,H i=true->e<=i->OM.has s.oM (65536+(i:Int))=true
theorem SbM.wants {S:Nat->Pk} {H:Nat->Bool} {f e:Nat} {s:Sb} (h:SbM S H f e s):s.wants=false:=by
 unfold Sb.wants;rw [h.mo,h.br,h.ln];rfl
structure SbP (S:Nat->Pk) (H:Nat->Bool) (f:Nat) (e:Nat) (s:Sb):Prop where
 tk:s.tk=1
 mo:s.mo=3
 br:s.br=false
 fe:f<=e
 ox:s.ox=65536+(e:Int)
 all:∀ i,f<=i->i<e->H i=true
 fH:H f=true
 hb:∀ i,H i=true->i<60
 ln:(s.ln=-1/\e=f)∨s.ln=0
 la:s.la<65536+(e:Int)
 uk:s.uk=e - f
 got:Row0 S f (e - f) s.got
 om:∀ x∈s.oM,∃ (i:Nat) (a:Int),x=kpk (65536+(i:Int)) a (S i)/\H i=true/\0<=a
 oc:∀ i,H i=true->e<=i->OM.has s.oM (65536+(i:Int))=true
theorem ξbf {S:Nat->Pk} (hS:Pks S) {H:Nat->Bool} {f e:Nat} {s s2:Sb} (h:SbP S H f e s) (h1:OM.Apart s.oM) (hs:s2={ s with on:=s2.on,ox:=s2.ox,oM:=s2.oM }):∀ k:Nat,(∀ j:Nat,j<k->OM.has s.oM (s.ox+(j:Int))=true) ->
 SameS s2 ((OM.takes s.oM s.ox k).foldl Sb.item s2)/\((OM.takes s.oM s.ox k).foldl Sb.item s2).br=false/\(((OM.takes s.oM s.ox k).foldl Sb.item s2).ln=0∨(k=0/\((OM.takes s.oM s.ox k).foldl Sb.item s2).ln=s.ln))/\((OM.takes s.oM s.ox k).foldl Sb.item s2).la<65536+((e+k:Nat):Int)/\((OM.takes s.oM s.ox k).foldl Sb.item s2).uk=e+k - f/\Row0 S f (e+k - f) ((OM.takes s.oM s.ox k).foldl Sb.item s2).got:=by
 have q1:s2.tk=s.tk:=by rw [hs]
 have q2:s2.mo=s.mo:=by rw [hs]
 have q3:s2.br=s.br:=by rw [hs]
 have q4:s2.ln=s.ln:=by rw [hs]
 have q5:s2.la=s.la:=by rw [hs]
 have q6:s2.uk=s.uk:=by rw [hs]
 have q7:s2.got=s.got:=by rw [hs]
 have hfe:=h.fe
 intro k
 induction k with
 | zero=>
   intro _;have hz:OM.takes s.oM s.ox 0=[]:=rfl
   rw [hz];refine ⟨⟨rfl,rfl,rfl,rfl,rfl⟩,q3.trans h.br,.inr ⟨rfl,q4⟩,?_,?_,?_⟩
   ·show s2.la<_
    rw [q5];exact h.la
   ·show s2.uk=_
    rw [q6,h.uk];rfl
   ·show Row0 S f (e+0 - f) s2.got
    rw [q7];exact h.got
 | succ k ih=>
   intro hk;obtain ⟨a1,a2,a3,a4,a5,a6⟩:=ih (fun j hj=>hk j (by omega))
   rw [OM.ξ2L,List.foldl_append];have hh:=hk k (by omega)
   have hox:s.ox+(k:Int)=65536+((e+k:Nat):Int):=by rw [h.ox];omega
   rw [hox] at hh;obtain ⟨m1,m2⟩:=OM.ξ2C hh;obtain ⟨i,a,hx,hH,ha⟩:=h.om _ m1;rw [hox];have hie:i=e+k:=by
    rw [hx] at m2;have:(65536+(i:Int))=65536+((e+k:Nat):Int):=m2
    omega
   rw [hx,hie];have hln:((OM.takes s.oM s.ox k).foldl Sb.item s2).ln=-1∨((OM.takes s.oM s.ox k).foldl Sb.item s2).ln=0:=by
    rcases a3 with e' | ⟨_,e'⟩
    ·exact .inr e'
    ·rcases h.ln with ⟨e2,_⟩ | e2
     ·exact .inl (e'.trans e2)
     ·exact .inr (e'.trans e2)
   obtain ⟨b1,b2,b3,b4,b5,b6⟩:=ξb2 hS (s:=(OM.takes s.oM s.ox k).foldl Sb.item s2) (i:=e+k) (f:=f) (k:=e+k - f) (a:=a) (by rw [<- hie];exact h.hb i hH) (by omega) (by rw [a1.mo,q2];exact h.mo) a2 hln a4 a5 a6
   rw [List.foldl_cons,List.foldl_nil];refine ⟨⟨b1.tk.trans a1.tk,b1.mo.trans a1.mo,b1.on.trans a1.on,b1.ox.trans a1.ox,b1.oM.trans a1.oM⟩,b2,.inl b3,?_,?_,?_⟩
   ·rw [b4];omega
   ·rw [b5];omega
   ·rw [show e+(k+1) - f=e+k - f+1 by omega];exact b6
theorem SbP.popd {S:Nat->Pk} (hS:Pks S) {H:Nat->Bool} {f e:Nat} {s:Sb} {now:Int} (h:SbP S H f e s) (hI:OM.Inv s.on s.ox s.oM) (ht:OM.tf s.on now=0) (hn:now<=9) (hst:H e=true∨s.ln=0) :
 ∃ e',e<=e'/\SbM S H f e' (s.popd now):=by
 have hm:=ξ2h hI ht
 obtain ⟨od,hO,hK⟩:=hm.yes ht;have hod:od=-1:=by
  rcases hO.one with e' | ⟨x,hx,hl,_⟩
  ·exact e'
  ·obtain ⟨i,a,hxe,_,ha⟩:=h.om x hx;rw [hxe] at hl;have hl':decide ((10:Int)<=now - a)=true:=hl
   have:=of_decide_eq_true hl'
   omega
 subst hod;obtain ⟨K,hKe⟩:∃ K,s.popK now=K:=⟨_,rfl⟩;rw [hKe] at hK;have hyes:∀ j:Nat,j<K->OM.has s.oM (s.ox+(j:Int))=true:=by
  intro j hj;have:=hK.all j hj
  unfold OM.goes at this;rw [decide_eq_false (by rw [h.ox];omega),Bool.or_false] at this
  exact this
 have hno:OM.has s.oM (s.ox+(K:Int))=false:=by
  have:=hK.stop
  unfold OM.goes at this;rw [Bool.or_eq_false_iff] at this;exact this.1
 have hfe:=h.fe
 have hox:s.ox+(K:Int)=65536+((e+K:Nat):Int):=by rw [h.ox];omega
 have hHno:H (e+K)=false:=by
  cases hh:H (e+K) with
  | false=>rfl
  | true=>
    have:=h.oc (e+K) hh (by omega)
    rw [<- hox,hno] at this;cases this
 have hpos:s.ln=0∨0<K:=by
  rcases hst with c | c
  ·right
   rcases Nat.eq_zero_or_pos K with hz | hz
   ·rw [hz,Nat.add_zero,c] at hHno;cases hHno
   ·exact hz
  ·exact .inl c
 have hall:∀ i,f<=i->i<e+K->H i=true:=by
  intro i h1 h2;by_cases c:i<e
  ·exact h.all i h1 c
  ·have hj:=hyes (i - e) (by omega)
   rw [h.ox,show 65536+(e:Int)+((i - e:Nat):Int)=65536+(i:Int) by omega] at hj
   obtain ⟨x,hx,hxn⟩:=OM.ξg.1 hj;obtain ⟨k,a,hxe,hk,_⟩:=h.om x hx;rw [hxe] at hxn;have hxn':65536+(k:Int)=65536+(i:Int):=hxn
   have:k=i:=by omega
   rw [<- this];exact hk
 obtain ⟨a1,a2,a3,a4,a5,a6⟩:=ξbf hS h hI.one (s2:=s.popped now K) rfl K hyes;have e1:s.popd now=(OM.takes s.oM s.ox K).foldl Sb.item (s.popped now K):=by
  unfold Sb.popd Sb.pop;rw [hKe]
 have hoM:(s.popd now).oM=OM.rest s.oM (s.ox+(K:Int)):=by rw [e1];exact a1.oM
 have hfK:f<e+K:=by
  rcases Nat.lt_or_ge f (e+K) with c | c
  ·exact c
  ·have:f=e+K:=by omega
   rw [<- this,h.fH] at hHno;cases hHno
 refine ⟨e+K,by omega,⟨?_,?_,?_,hfK,?_,hall,hHno,?_,?_,?_,?_,?_,?_⟩⟩
 ·rw [e1];exact a1.tk.trans h.tk
 ·rw [e1];exact a1.mo.trans h.mo
 ·rw [e1];exact a2
 ·rw [e1,a1.ox];exact hox
 ·rw [e1];rcases a3 with c | ⟨c,c'⟩
  ·exact c
  ·rcases hpos with c2 | c2
   ·exact c'.trans c2
   ·omega
 ·rw [e1];exact a4
 ·rw [e1];exact a5
 ·rw [e1];exact a6
 ·intro x hx;rw [hoM] at hx;unfold OM.rest at hx;exact h.om x (Ξj.1 hx).1
 ·intro i hi hei;rw [hoM];obtain ⟨x,hx,hxn⟩:=OM.ξg.1 (h.oc i hi (by omega))
  exact OM.ξg.2 ⟨x,by unfold OM.rest;exact Ξj.2 ⟨hx,by rw [hxn,hox];simp;omega⟩,hxn⟩
theorem SbM.later {S:Nat->Pk} (hS:Pks S) {H:Nat->Bool} {f e:Nat} {s:Sb} {nw now:Int} (h:SbM S H f e s) (hb:∀ i,H i=true->i<60) (hO:SbOk nw s) (h0:nw<=now) (hn:now<=9):∃ e',SbM S H f e' (s.popd now):=by
 have hP:SbP S H f e s:=⟨h.tk,h.mo,h.br,by have:=h.fe;omega,h.ox,h.all,h.all f (Ξo _) h.fe,hb,.inr h.ln,h.la,h.uk,h.got,h.om,h.oc⟩
 obtain ⟨e',_,h'⟩:=hP.popd hS hO.oi (ξ2f hO.oi.c1 (Int.le_trans hO.on h0) (by omega)) hn (.inr h.ln)
 exact ⟨e',h'⟩
theorem ξ5l {s:Sb} {y now:Int} {p:Pk} (hpf:OM.pf s.on s.ox y now (PM.fault p.s p.t p.l p.q p.L.length)=0) (hpx:OM.px s.on s.ox y now s.oM (PM.fault p.s p.t p.l p.q p.L.length)=true) :
 s.pushed y now p={ s with on:=now,ox:=OM.fx s.ox y,oM:=s.oM++[kpk y now p] }:=by
 unfold Sb.pushed OM.pW OM.pX OM.pM;rw [if_pos hpf,if_pos hpf,if_pos hpx];rfl
theorem SbM.push {S:Nat->Pk} (hS:Pks S) {H:Nat->Bool} {f e:Nat} {s:Sb} {nw now:Int} (h:SbM S H f e s) (hb:∀ i,H i=true->i<60) (hO:SbOk nw s) (h0:nw<=now) (h00:0<=now) (hn:now<=9) {i:Nat} (hi:i<60) (hf:f<=i) (hHi:H i=false) :
 ∃ e',SbM S (setH H i) f e' (s.push (65536+(i:Int)) now (S i)):=by
 have htf:=ξ2f hO.oi.c1 (Int.le_trans hO.on h0) (show now<=1000000 by omega)
 have hfe:=h.fe
 have hei:e<=i:=by
  rcases Nat.lt_or_ge i e with c | c
  ·have:=h.all i hf c
   rw [hHi] at this;cases this
  ·exact c
 have he60:e<=60:=by omega
 have hfar:OM.far s.ox (65536+(i:Int))=false:=by
  unfold OM.far;rw [h.ox,decide_eq_false (p:=200<=_) (by omega)]
  simp
 have hpf:OM.pf s.on s.ox (65536+(i:Int)) now (PM.fault (S i).s (S i).t (S i).l (S i).q (S i).L.length)=0:=OM.ξ4q htf (by omega) (by omega) (hS.ok i hi).f hfar
 have hnh:OM.has s.oM (65536+(i:Int))=false:=by
  cases hh:OM.has s.oM (65536+(i:Int)) with
  | false=>rfl
  | true=>
    obtain ⟨x,hx,hxn⟩:=OM.ξg.1 hh;obtain ⟨k,a,hxe,hk,_⟩:=h.om x hx;rw [hxe] at hxn;have hxn':65536+(k:Int)=65536+(i:Int):=hxn
    have:k=i:=by omega
    rw [this,hHi] at hk;cases hk
 have hfx:OM.fx s.ox (65536+(i:Int))=s.ox:=by unfold OM.fx;rw [if_neg (by rw [h.ox];omega)]
 have hpx:OM.px s.on s.ox (65536+(i:Int)) now s.oM (PM.fault (S i).s (S i).t (S i).l (S i).q (S i).L.length)=true:=by
  unfold OM.px OM.kx;rw [hpf,hfx,hnh,decide_eq_true (p:=s.ox<=_) (by rw [h.ox];omega)]
  rfl
 have e1:=ξ5l (s:=s) (now:=now) hpf hpx
 rw [hfx] at e1;obtain ⟨q1,q2⟩:=hO.pushed (y:=65536+(i:Int)) (p:=S i) htf;have hP:SbP S (setH H i) f e (s.pushed (65536+(i:Int)) now (S i)):=by
  rw [e1];refine ⟨h.tk,h.mo,h.br,by omega,h.ox,fun k h1 h2=>ξ12 (h.all k h1 h2),ξ12 (h.all f (Ξo _) hfe),?_,.inr h.ln,h.la,h.uk,h.got,?_,?_⟩
  ·intro k hk;rcases ξ1B hk with c | c
   ·omega
   ·exact hb k c
  ·intro x hx;rcases Ξe.1 hx with hx | hx
   ·obtain ⟨k,a,c1,c2,c3⟩:=h.om x hx;exact ⟨k,a,c1,ξ12 c2,c3⟩
   ·rw [Ξg] at hx;exact ⟨i,now,hx,ξV H i,h00⟩
  ·intro k hk hek;rcases ξ1B hk with c | c
   ·subst c;exact OM.ξg.2 ⟨_,List.mem_append_right _ (Ξg.2 rfl),rfl⟩
   ·obtain ⟨x,hx,hxn⟩:=OM.ξg.1 (h.oc k c hek);exact OM.ξg.2 ⟨x,List.mem_append_left _ hx,hxn⟩
 obtain ⟨e',_,h'⟩:=hP.popd hS (now:=now) q1.oi q2 hn (.inr (by rw [e1];exact h.ln))
 exact ⟨e',h'⟩
theorem SbM.first {S:Nat->Pk} (hS:Pks S) {mo:Int} {nw now:Int} {s:Sb} (hs:s={ s0 1 3 with on:=s.on }) (hO:SbOk nw s) (h0:nw<=now) (h00:0<=now) (hn:now<=9) {i:Nat} (hi:i<60) :
 ∃ e',SbM S (setH (fun _=>false) i) i e' (s.push (65536+(i:Int)) now (S i)):=by
 have htf:=ξ2f hO.oi.c1 (Int.le_trans hO.on h0) (show now<=1000000 by omega)
 have k1:s.tk=1:=by rw [hs];rfl
 have k2:s.mo=3:=by rw [hs];rfl
 have k3:s.ox=-1:=by rw [hs];rfl
 have k4:s.oM=[]:=by rw [hs];rfl
 have k5:s.ln=-1:=by rw [hs];rfl
 have k6:s.la=-1:=by rw [hs];rfl
 have k7:s.br=false:=by rw [hs];rfl
 have k8:s.uk=0:=by rw [hs];rfl
 have k9:s.got=[]:=by rw [hs];rfl
 have hfar:OM.far s.ox (65536+(i:Int))=false:=by unfold OM.far;rw [k3];rfl
 have hpf:OM.pf s.on s.ox (65536+(i:Int)) now (PM.fault (S i).s (S i).t (S i).l (S i).q (S i).L.length)=0:=OM.ξ4q htf (by omega) (by omega) (hS.ok i hi).f hfar
 have hfx:OM.fx s.ox (65536+(i:Int))=65536+(i:Int):=by unfold OM.fx;rw [if_pos k3]
 have hpx:OM.px s.on s.ox (65536+(i:Int)) now s.oM (PM.fault (S i).s (S i).t (S i).l (S i).q (S i).L.length)=true:=by
  unfold OM.px OM.kx;rw [hpf,hfx,k4];simp [OM.has]
 have e1:=ξ5l (s:=s) (now:=now) hpf hpx
 rw [hfx,k4,List.nil_append] at e1;obtain ⟨q1,q2⟩:=hO.pushed (y:=65536+(i:Int)) (p:=S i) htf;have hP:SbP S (setH (fun _=>false) i) i i (s.pushed (65536+(i:Int)) now (S i)):=by
  rw [e1];refine ⟨k1,k2,k7,Ξo _,rfl,fun k h1 h2=>by omega,ξV _ i,?_,.inl ⟨k5,rfl⟩,by show s.la<_;omega,by show s.uk=_;omega,?_,?_,?_⟩
  ·intro k hk;rcases ξ1B hk with c | c
   ·omega
   ·cases c
  ·show Row0 S i (i - i) s.got
   rw [k9,Nat.sub_self];exact ξcc S i
  ·intro x hx;rw [Ξg] at hx;exact ⟨i,now,hx,ξV _ i,h00⟩
  ·intro k hk hek;rcases ξ1B hk with c | c
   ·subst c;exact OM.ξg.2 ⟨_,Ξg.2 rfl,rfl⟩
   ·cases c
 obtain ⟨e',_,h'⟩:=hP.popd hS (now:=now) q1.oi q2 hn (.inl (ξV _ i));exact ⟨e',h'⟩
theorem SbM.full {S:Nat->Pk} {H:Nat->Bool} {f e m:Nat} {s:Sb} (h:SbM S H f e s) (hfm:f<m) (hO:OM.Inv s.on s.ox s.oM) (hH:∀ i,H i=true↔(f<=i/\i<m)):e=m/\s.oM=[]/\Row0 S f (m - f) s.got:=by
 have hfe:=h.fe
 have h1:¬ (f<=e/\e<m):=fun hc=>by have:=(hH e).2 hc;rw [h.no] at this;cases this
 have h2:e - 1<m:=((hH (e - 1)).1 (h.all (e - 1) (by omega) (by omega))).2
 have he:e=m:=by omega
 subst he;refine ⟨rfl,?_,h.got⟩
 rcases List.eq_nil_or_concat s.oM with c | ⟨L,x,c⟩
 ·exact c
 ·exfalso
  have hx:x∈s.oM:=by rw [c];simp
  obtain ⟨i,a,hxe,hi,_⟩:=h.om x hx;have hlt:=((hH i).1 hi).2
  have:=(hO.mem x hx).2.1
  rw [hxe,h.ox] at this;have hk:(kpk (65536+(i:Int)) a (S i)).n=65536+(i:Int):=rfl
  rw [hk] at this;omega
structure Zp where
 n:Nat
 rt:Nat
 at':Nat
 E:List TM.Ed
 p:List Int
 d:List Int
 S:Nat->Pk
structure Zp.Ok (Z:Zp):Prop where
 tr:Trees Z.n Z.rt Z.E Z.p Z.d
 all:∀ v,v<Z.n->0<=TM.dg Z.d v
 pk:Pks Z.S
 at':Z.at'<Z.n
def Zp.Q (Z:Zp):Plan:=⟨Z.n,0,Z.E,fun k=>decide (k=0),fun _=>Z.rt,fun _=>Z.p,fun _=>Z.d,fun _=>0,fun _ i=>Z.S i,fun k=>if k=0 then 60 else 0,fun _=>[]⟩
theorem Zp.Ok.q {Z:Zp} (h:Z.Ok):Z.Q.Ok:=by
 refine ⟨fun k hk ho=>h.tr,fun k hk i hi=>?_,fun k=>?_⟩
 ·have hi':i<(if k=0 then 60 else 0):=hi
  split at hi'
  ·exact h.pk.ok i hi'
  ·omega
 ·show (if k=0 then 60 else 0)<=1000
  split<;>omega
inductive Fm where
 | fr (v i:Nat)
 | lo (v:Nat) (L:List Int)
def Zp.byt (Z:Zp) (u i:Nat):List Nat:=fby 1 (Z.rt:Int) 1 (dp Z.p Z.n u:Int) (pbyP (Z.S i))
def Zp.frm (Z:Zp):Fm->Fl
 | .fr v i=>⟨TM.dg Z.p v,(v:Int),Z.byt (TM.dg Z.p v).toNat i⟩
 | .lo v L=>⟨(v:Int),TM.dg Z.p v,Back.ebytes 1 1 L 0⟩
theorem Zp.Ok.frame {Z:Zp} (h:Z.Ok) {u i:Nat} (hi:i<60):FM.ffault 1 (Z.rt:Int) 1 (dp Z.p Z.n u:Int) (pbyP (Z.S i))=0:=by
 have:=ξcU h.q (k:=0) (u:=u) (i:=i) (by omega) rfl hi
 have e:((0:Nat):Int)+1=1:=rfl
 rw [e] at this;exact this
theorem Zp.Ok.up {Z:Zp} (h:Z.Ok) {v:Nat} (hv:v<Z.n) (hr:v≠Z.rt):∃ u:Nat,TM.dg Z.p v=(u:Int)/\u<Z.n/\u≠v/\dp Z.p Z.n v=dp Z.p Z.n u+1:=by
 obtain ⟨u,h1,h2,h3,h4⟩:=h.tr.up hv (h.all v hv) hr;exact ⟨u,h1,h2,h4,h.tr.dp_step hv h2 h1⟩
def Zp.news (Z:Zp) (v i:Nat):List Fm:=((List.range Z.n).filter fun j=>decide (TM.dg Z.p j=(v:Int))).map fun c=>.fr c i
theorem Zp.news_frm (Z:Zp) (v i:Nat):(Z.news v i).map Z.frm=(TM.kd Z.p (v:Int) Z.n).map fun c=>(⟨(v:Int),c,Z.byt v i⟩:Fl):=by
 unfold Zp.news TM.kd;rw [List.map_map,List.map_map];refine List.map_congr_left ?_
 intro j hj;have hp:TM.dg Z.p j=(v:Int):=by simpa using (Ξj.1 hj).2
 show Z.frm (.fr j i)=_
 unfold Zp.frm;simp only [hp,Int.toNat_natCast]
 rfl
theorem Zp.news_mem {Z:Zp} {v i:Nat} {x:Fm} (h:x∈Z.news v i):∃ c,x=.fr c i/\c<Z.n/\TM.dg Z.p c=(v:Int):=by
 unfold Zp.news at h;obtain ⟨j,hj,rfl⟩:=Ξi.1 h;obtain ⟨h1,h2⟩:=Ξj.1 hj;exact ⟨j,rfl,by simpa using h1,by simpa using h2⟩
theorem Zp.mem_news {Z:Zp} {v i c:Nat} (hc:c<Z.n) (hp:TM.dg Z.p c=(v:Int)):Fm.fr c i∈Z.news v i:=
 Ξi.2 ⟨c,Ξj.2 ⟨by simpa using hc,by simpa using hp⟩,rfl⟩
theorem Zp.news_len (Z:Zp) (v i:Nat):(Z.news v i).length<=Z.n:=by
 unfold Zp.news;rw [Ξm];exact Nat.le_trans (List.length_filter_le _ _) (by simp)
structure Da where
 H:Nat->Nat->Bool
 f:Nat->Nat
 T:Nat->Int
structure Up (D D':Da) (v i:Nat):Prop where
 H:∀ v' j,D'.H v' j=if v'=v then setH (D.H v) i j else D.H v' j
 f:∀ v',v'≠v->D'.f v'=D.f v'
 T:∀ v',v'≠v->D'.T v'=D.T v'
 f1:D.T v≠-1->D'.f v=D.f v
 f2:D.T v=-1->D'.f v=i
 T1:D'.T v≠-1
 T2:D.T v<=D'.T v
 T3:65536+(i:Int)<=D'.T v
theorem Up.mono {D D':Da} {v i:Nat} (h:Up D D' v i) {v' j:Nat} (hj:D.H v' j=true):D'.H v' j=true:=by
 rw [h.H];split
 ·rename_i e;rw [e] at hj;exact ξ12 hj
 ·exact hj
theorem Up.at' {D D':Da} {v i:Nat} (h:Up D D' v i):D'.H v i=true:=by rw [h.H,if_pos rfl];exact ξV _ _
theorem Up.back {D D':Da} {v i:Nat} (h:Up D D' v i) {v' j:Nat} (hj:D'.H v' j=true):(v'=v/\j=i)∨D.H v' j=true:=by
 rw [h.H] at hj;split at hj
 ·rename_i e
  rcases ξ1B hj with c | c
  ·exact .inl ⟨e,c⟩
  ·rw [e];exact .inr c
 ·exact .inr hj
theorem Up.ne {D D':Da} {v i:Nat} (h:Up D D' v i) {v':Nat} (hn:v'≠v):D'.H v'=D.H v':=by
 funext j
 rw [h.H,if_neg hn]
def SubAt (Z:Zp) (D:Da) (s:Sb):Prop:=(D.T Z.at'=-1/\s={ s0 1 3 with on:=s.on })∨(D.T Z.at'≠-1/\∃ e,SbM Z.S (D.H Z.at') (D.f Z.at') e s)
structure WS (Z:Zp) (ph:Bool) (m:Nat) (tm:Int) (D:Da) (X:List Fm) (M:Ms):Prop where
 ok:MOk M
 n:M.n=Z.n
 nw:M.nw=tm
 t0:0<=tm
 t9:tm<=9
 rtt:M.rt 0=(Z.rt:Int)
 sbs:M.sb=[((Z.at':Int),1)]
 tr:∀ v,v<Z.n->∃ t,(M.nd v).tr 0=some t/\TrM Z.p Z.n v Z.rt Z.S (D.H v) (D.f v) (D.T v) t/\(ph=true->∀ x∈t.gM,x.t=0)
 no:∀ v,v<Z.n->∀ k,0<k->k<8->(M.nd v).tr k=none
 sb:∀ v,v<Z.n->v≠Z.at'->(M.nd v).sb=[]
 sa:∃ s,(M.nd Z.at').sb=[(1,s)]/\SubAt Z D s
 fl:M.fl=X.map Z.frm
 xf:∀ v i,Fm.fr v i∈X->v<Z.n/\∃ u:Nat,TM.dg Z.p v=(u:Int)/\u<Z.n/\D.H u i=true
 xl:∀ v L,Fm.lo v L∈X->v<Z.n/\(∃ u:Nat,TM.dg Z.p v=(u:Int)/\u<Z.n)/\L.length<=60/\Back.efault 1 1 L 0=0/\∀ q∈L,∃ i:Nat,q=(i:Int)/\i<60
 sub:∀ v,v<Z.n->∀ u:Nat,TM.dg Z.p v=(u:Int)->∀ i,D.H v i=true->D.H u i=true
 rH:∀ i,D.H Z.rt i=true↔i<m
 hm:∀ v,v<Z.n->∀ i,D.H v i=true->i<m
 m60:m<=60
theorem ξc5 {s:Sb} {g:Sb->Sb} (h:s.tk=1) (x:Int):selS 1 g [(x,s)]=[(x,g s)]:=by
 unfold selS;rw [List.map_cons,List.map_nil,if_pos h]
theorem ξay (v:Nat) (K:List Int) (B:List Nat):outs v (K.map fun c=>(c,B))=K.map fun c=>(⟨(v:Int),c,B⟩:Fl):=by
 unfold outs;rw [List.map_map];rfl
theorem ξbU {N:Nd} {i:Nat} {t:Tr} {p:RM.Pk} {og hp now:Int} (hB:GM.hB t.gn t.gT t.gM (num t.rT p.s) now=false):N.tookG i t p og hp now={ N with tr:=updR N.tr i (t.heard (num t.rT p.s) now) }:=by
 unfold Nd.tookG;rw [hB,if_neg (by simp)]
theorem ξO (f:Nat->Option Tr) (i:Nat) (a:Tr):updR f i a i=some a:=by simp [updR]
theorem ξ4O (f:Nat->Option Tr) {i k:Nat} (a:Tr) (h:k≠i):updR f i a k=f k:=by simp [updR,h]
def setN (N:Nd) (tm:Int) (r:Nat->Option Tr) (l:List (Int×Sb)):Nd:={ nw:=tm,id:=N.id,tr:=r,sb:=l,ls:=N.ls,pn:=N.pn,ak:=N.ak,pL:=N.pL,lt:=[] }
theorem ξ3D (N:Nd) (tm:Int) (r:Nat->Option Tr) (l:List (Int×Sb)):(setN N tm r l).tr=r:=rfl
theorem ξ3E (N:Nd) (tm:Int) (r:Nat->Option Tr) (l:List (Int×Sb)):(setN N tm r l).sb=l:=rfl
theorem WS.took {Z:Zp} (hZ:Z.Ok) {ph:Bool} {m m':Nat} {tm:Int} {D:Da} {X:List Fm} {M:Ms} (h:WS Z ph m tm D X M) {v i:Nat} (hv:v<Z.n) (hi:i<60) (hm1:v=Z.rt->i=m/\m'=m+1) (hm2:v≠Z.rt->m'=m)
 (hu:∀ u:Nat,TM.dg Z.p v=(u:Int)->D.H u i=true) {t:Tr} (ht:(M.nd v).tr 0=some t) {pk:RM.Pk} (hp:ppk pk=Z.S i) {X0:List Fm} (hX0:∀ x∈X0,x∈X) {M2:Ms} (e0:MOk M2) (e1:M2.n=M.n) (e2:M2.nw=M.nw) (er:M2.rt=M.rt) (es:M2.sb=M.sb)
 (e3:M2.nd=updN M.nd v { (M.nd v).tookG 0 t pk (Z.rt:Int) (dp Z.p Z.n v:Int) tm with nw:=tm,lt:=[] }) (e4:M2.fl=X0.map Z.frm++outs v ((M.nd v).tookG 0 t pk (Z.rt:Int) (dp Z.p Z.n v:Int) tm).lt) :
 (D.H v i=false/\(D.T v=-1∨D.f v<=i)->∃ D',Up D D' v i/\WS Z ph m' tm D' (X0++Z.news v i) M2)/\(¬ (D.H v i=false/\(D.T v=-1∨D.f v<=i))->WS Z ph m tm D X0 M2):=by
 have hvn:v<M.n:=by rw [h.n];exact hv
 obtain ⟨kN,kL,kW,kI⟩:=h.ok.nd v hvn;obtain ⟨t',ht',hT,hA⟩:=h.tr v hv;rw [ht] at ht';simp only [Option.some.injEq] at ht'
 subst ht';have hO:TrOk Z.n (M.nd v).nw 0 t:=by rw [<- h.n];exact kN.tr 0 (by omega) t ht
 have hw:(M.nd v).nw<=tm:=by rw [<- h.nw];exact kW
 have h6:tm<=1000000:=by have:=h.t9;omega
 have hs:pk.s=(i:Int):=by
  have:pk.s=(Z.S i).s:=by rw [<- hp]
  rw [this,(hZ.pk.ok i hi).num];simp
 have hnum:num t.rT pk.s=65536+(i:Int):=by rw [hs];exact hT.num hi
 have hB:=hT.fresh hO hw h6 hi
 have hxf:∀ v' j,Fm.fr v' j∈X0->v'<Z.n/\∃ u:Nat,TM.dg Z.p v'=(u:Int)/\u<Z.n/\D.H u j=true:=fun v' j hx=>h.xf v' j (hX0 _ hx)
 have hxl:∀ v' L,Fm.lo v' L∈X0->v'<Z.n/\(∃ u:Nat,TM.dg Z.p v'=(u:Int)/\u<Z.n)/\L.length<=60/\Back.efault 1 1 L 0=0/\∀ q∈L,∃ i:Nat,q=(i:Int)/\i<60:=fun v' L hx=>h.xl v' L (hX0 _ hx)
 constructor
 ·intro hfr;rw [decide_eq_true hfr] at hB;have hF:FM.ffault t.tk (Z.rt:Int) t.ep (dp Z.p Z.n v:Int) (pby pk.s pk.t pk.l pk.q pk.st pk.L)=0:=by
   have:=hZ.frame (u:=v) hi
   rw [<- hp] at this;rw [hT.tk,hT.ep];exact this
  have hT1:=ξ9R (N:=M.nd v) (i:=0) (og:=(Z.rt:Int)) (by rw [hnum];exact hB) hF
  rw [hT.tk,hT.ep,hnum,hT.kids,kL,List.nil_append] at hT1;obtain ⟨f',T',hT2,g1,g2,g3,g4,g5,g6⟩:=hT.news hO hw h6 hi hfr pk hp;rw [hT1] at e3 e4;have hbyt:fby 1 (Z.rt:Int) 1 (dp Z.p Z.n v:Int) (pby pk.s pk.t pk.l pk.q pk.st pk.L)=Z.byt v i:=by
   unfold Zp.byt;rw [<- hp];rfl
  rw [hbyt] at e3 e4;have e3:M2.nd=updN M.nd v (setN (M.nd v) tm (updR (M.nd v).tr 0 ((t.heard (65536+(i:Int)) tm).keep (65536+(i:Int)) pk ((Z.rt:Int),(dp Z.p Z.n v:Int)))) (selS 1 (fun s=>s.push (65536+(i:Int)) tm (ppk pk)) (M.nd v).sb)):=e3
  have hU:Up D ⟨updN D.H v (setH (D.H v) i),updN D.f v f',updN D.T v T'⟩ v i:=by
   refine ⟨fun v' j=>?_,fun v' hn=>ξf _ _ hn,fun v' hn=>ξf _ _ hn,fun hx=>(ξ9 _ _ _).trans (g1 hx),fun hx=>(ξ9 _ _ _).trans (g2 hx),?_,?_,?_⟩
   ·show updN D.H v (setH (D.H v) i) v' j=_
    by_cases c:v'=v
    ·rw [c,ξ9,if_pos rfl]
    ·rw [ξf _ _ c,if_neg c]
   ·show updN D.T v T' v≠-1;rw [ξ9];exact g3
   ·show D.T v<=updN D.T v T' v;rw [ξ9];exact g4
   ·show 65536+(i:Int)<=updN D.T v T' v;rw [ξ9];exact g5
  obtain ⟨D',hD'⟩:∃ D',(⟨updN D.H v (setH (D.H v) i),updN D.f v f',updN D.T v T'⟩:Da)=D':=⟨_,rfl⟩;have d1:D'.H v=setH (D.H v) i:=by rw [<- hD'];exact ξ9 _ _ _
  have d2:D'.f v=f':=by rw [<- hD'];exact ξ9 _ _ _
  have d3:D'.T v=T':=by rw [<- hD'];exact ξ9 _ _ _
  rw [hD'] at hU;refine ⟨D',hU,e0,e1.trans h.n,e2.trans h.nw,h.t0,h.t9,by rw [er];exact h.rtt,by rw [es];exact h.sbs,?_,?_,?_,?_,?_,?_,?_,?_,?_,?_,?_⟩
  ·intro v' hv';by_cases c:v'=v
   ·subst c;refine ⟨_,by rw [e3,ξ9,ξ3D];exact ξO _ _ _,by rw [d1,d2,d3];exact hT2,fun hph x hx=>?_⟩
    rcases g6 x hx with c | c
    ·exact hA hph x c
    ·exact c
   ·obtain ⟨t2,q1,q2,q3⟩:=h.tr v' hv';exact ⟨t2,by rw [e3,ξf _ _ c];exact q1,by rw [hU.ne c,hU.f v' c,hU.T v' c];exact q2,q3⟩
  ·intro v' hv' k hk0 hk;rw [e3];by_cases c:v'=v
   ·subst c;rw [ξ9,ξ3D,ξ4O _ _ (by omega)]
    exact h.no v' hv' k hk0 hk
   ·rw [ξf _ _ c];exact h.no v' hv' k hk0 hk
  ·intro v' hv' hn;rw [e3];by_cases c:v'=v
   ·subst c;rw [ξ9,ξ3E,h.sb v' hv' hn];rfl
   ·rw [ξf _ _ c];exact h.sb v' hv' hn
  ·obtain ⟨s,hs1,hs2⟩:=h.sa;by_cases c:Z.at'=v
   ·have hsO:SbOk (M.nd v).nw s:=(kN.sb (1,s) (by rw [<- c,hs1];exact Ξg.2 rfl)).1
    have hstk:s.tk=1:=by
     rcases hs2 with ⟨_,e⟩ | ⟨_,e,he⟩
     ·rw [e];rfl
     ·exact he.tk
    refine ⟨s.push (65536+(i:Int)) tm (Z.S i),?_,?_⟩
    ·rw [e3,c,ξ9,ξ3E,<- c,hs1,ξc5 hstk,hp]
    ·right
     refine ⟨by rw [c,d3];exact g3,?_⟩
     rw [c,d1,d2];rcases hs2 with ⟨e,e'⟩ | ⟨e,ee,he⟩
     ·rw [c] at e;have hz:D.H v=fun _=>false:=by
       funext j
       rcases hT.tt with ⟨_,hz⟩ | ⟨j',hj',_⟩
       ·exact hz j
       ·omega
      rw [hz,g2 e];exact SbM.first hZ.pk (mo:=3) e' hsO hw h.t0 h.t9 hi
     ·rw [c] at e he;rw [g1 e];have hfi:D.f v<=i:=by
       rcases hfr.2 with q | q
       ·exact absurd q e
       ·exact q
      exact he.push hZ.pk (fun j hj=>(hT.hb j hj).1) hsO hw h.t0 h.t9 hi hfi hfr.1
   ·refine ⟨s,by rw [e3,ξf _ _ c];exact hs1,?_⟩
    unfold SubAt;rw [hU.ne c,hU.f _ c,hU.T _ c];exact hs2
  ·rw [e4,List.map_append,Z.news_frm,ξay]
  ·intro v' j hx;rcases Ξe.1 hx with hx | hx
   ·obtain ⟨q1,u,q2,q3,q4⟩:=hxf v' j hx;exact ⟨q1,u,q2,q3,hU.mono q4⟩
   ·obtain ⟨c,hc,q1,q2⟩:=Zp.news_mem hx;injection hc with hc1 hc2
    rw [hc1,hc2];exact ⟨q1,v,q2,hv,hU.at'⟩
  ·intro v' L hx;rcases Ξe.1 hx with hx | hx
   ·exact hxl v' L hx
   ·obtain ⟨c,hc,_⟩:=Zp.news_mem hx;cases hc
  ·intro v' hv' u' hu' j hj;rcases hU.back hj with ⟨c1,c2⟩ | c
   ·rw [c1] at hu';rw [c2];exact hU.mono (hu u' hu')
   ·exact hU.mono (h.sub v' hv' u' hu' j c)
  ·intro j;by_cases c:v=Z.rt
   ·obtain ⟨q1,q2⟩:=hm1 c;constructor
    ·intro hj;rcases hU.back hj with ⟨_,c2⟩ | c2
     ·omega
     ·have:=(h.rH j).1 c2;omega
    ·intro hj;by_cases c2:j=i
     ·rw [c2,<- c];exact hU.at'
     ·exact hU.mono ((h.rH j).2 (by omega))
   ·rw [hU.ne (fun q=>c q.symm),hm2 c]
    exact h.rH j
  ·intro v' hv' j hj;rcases hU.back hj with ⟨c1,c2⟩ | c2
   ·by_cases c:v=Z.rt
    ·obtain ⟨q1,q2⟩:=hm1 c;omega
    ·obtain ⟨u,q1,q2,_⟩:=hZ.up hv c;have:=h.hm u q2 i (hu u q1)
     rw [hm2 c,c2];exact this
   ·have:=h.hm v' hv' j c2
    by_cases c:v=Z.rt
    ·obtain ⟨q1,q2⟩:=hm1 c;omega
    ·rw [hm2 c];exact this
  ·by_cases c:v=Z.rt
   ·obtain ⟨q1,q2⟩:=hm1 c;omega
   ·rw [hm2 c];exact h.m60
 ·intro hfr;rw [decide_eq_false hfr] at hB;have hT1:=ξbU (N:=M.nd v) (i:=0) (t:=t) (p:=pk) (og:=(Z.rt:Int)) (hp:=(dp Z.p Z.n v:Int)) (now:=tm) (by rw [hnum];exact hB)
  rw [hnum] at hT1;obtain ⟨g1,g2⟩:=hT.dull hO hw h6 hi hfr;rw [hT1] at e3 e4;have e3:M2.nd=updN M.nd v (setN (M.nd v) tm (updR (M.nd v).tr 0 (t.heard (65536+(i:Int)) tm)) (M.nd v).sb):=e3
  have hlt:outs v ({ M.nd v with tr:=updR (M.nd v).tr 0 (t.heard (65536+(i:Int)) tm) }:Nd).lt=[]:=by
   show outs v (M.nd v).lt=[]
   rw [kL];rfl
  rw [hlt,Ξu] at e4;refine ⟨e0,e1.trans h.n,e2.trans h.nw,h.t0,h.t9,by rw [er];exact h.rtt,by rw [es];exact h.sbs,?_,?_,?_,?_,e4,hxf,hxl,h.sub,h.rH,h.hm,h.m60⟩
  ·intro v' hv';by_cases c:v'=v
   ·subst c;exact ⟨_,by rw [e3,ξ9,ξ3D];exact ξO _ _ _,g1,fun hph x hx=>hA hph x (by rw [<- g2];exact hx)⟩
   ·obtain ⟨t2,q1,q2,q3⟩:=h.tr v' hv';exact ⟨t2,by rw [e3,ξf _ _ c];exact q1,q2,q3⟩
  ·intro v' hv' k hk0 hk;rw [e3];by_cases c:v'=v
   ·subst c;rw [ξ9,ξ3D,ξ4O _ _ (by omega)]
    exact h.no v' hv' k hk0 hk
   ·rw [ξf _ _ c];exact h.no v' hv' k hk0 hk
  ·intro v' hv' hn;rw [e3];by_cases c:v'=v
   ·subst c;rw [ξ9,ξ3E];exact h.sb v' hv' hn
   ·rw [ξf _ _ c];exact h.sb v' hv' hn
  ·obtain ⟨s,hs1,hs2⟩:=h.sa;by_cases c:Z.at'=v
   ·exact ⟨s,by rw [e3,c,ξ9,ξ3E,<- c];exact hs1,hs2⟩
   ·exact ⟨s,by rw [e3,ξf _ _ c];exact hs1,hs2⟩
theorem ξ2n {α β:Type} (f:α->β):∀ (l:List α) (j:Nat),(l.map f).eraseIdx j=(l.eraseIdx j).map f
 | [],_=>rfl
 | x::l,0=>rfl
 | x::l,j+1=>by rw [List.map_cons,List.eraseIdx_cons_succ,List.eraseIdx_cons_succ,List.map_cons,ξ2n f l j]
theorem ξf5 {p:List Int} {n v c:Nat} (hc:c<n) (hp:TM.dg p c=(v:Int)):(c:Int)∈TM.kd p (v:Int) n:=by
 unfold TM.kd;exact Ξi.2 ⟨c,Ξj.2 ⟨by simpa using hc,by simpa using hp⟩,rfl⟩
section
variable {Z:Zp} {ph:Bool} {m:Nat} {tm:Int} {D:Da} {X:List Fm} {M:Ms}
theorem WS.landF (hZ:Z.Ok) (h:WS Z ph m tm D X M) {j v i:Nat} (hx:X[j]?=some (.fr v i)) :
 ∃ g,Lands M (Z.frm (.fr v i)) g/\∀ bv,(D.H v i=false/\(D.T v=-1∨D.f v<=i)->∃ D',Up D D' v i/\WS Z ph m tm D' (X.eraseIdx j++Z.news v i) (M.land j (Z.frm (.fr v i)) g bv)) /\
  (¬ (D.H v i=false/\(D.T v=-1∨D.f v<=i))->WS Z ph m tm D (X.eraseIdx j) (M.land j (Z.frm (.fr v i)) g bv)):=by
 obtain ⟨hv,u,hu,hun,hH⟩:=h.xf v i (List.mem_of_getElem? hx);have hi:i<60:=by have:=h.hm u hun i hH;have:=h.m60;omega
 obtain ⟨d1,d2,d3,d4,d5⟩:=hZ.tr.down hv hu;have hdp:=hZ.tr.dp_step hv hun hu
 obtain ⟨t,ht,hT,_⟩:=h.tr v hv;have hvn:v<M.n:=by rw [h.n];exact hv
 obtain ⟨kN,kL,kW,kI⟩:=h.ok.nd v hvn;have hatt:(M.nd v).at 1=some t:=ht
 have hfrm:Z.frm (.fr v i)=⟨(u:Int),(v:Int),Z.byt u i⟩:=by
  unfold Zp.frm;simp only [hu,Int.toNat_natCast]
 have hpk:=hZ.pk.ok i hi
 rw [hfrm];have hL:Lands M ⟨(u:Int),(v:Int),Z.byt u i⟩ (.fr 1 (Z.rt:Int) 1 (dp Z.p Z.n u:Int) (Z.S i)):=by
  refine ⟨?_,?_,rfl,⟨by omega,by omega,hZ.frame hi,hpk.f,hpk.b⟩,?_⟩
  ·show (0:Int)<=(v:Int);omega
  ·show (v:Int)<(M.n:Int);omega
  ·exact ⟨t,by show (M.nd (v:Int).toNat).at _=_;rw [Int.toNat_natCast];exact hatt⟩
 refine ⟨_,hL,fun bv=>?_⟩
 have hmok:=h.ok.land (i:=j) hL bv
 have hr:hrF t (u:Int) 1=0:=by
  unfold hrF;rw [if_neg];rw [hT.pa,hu,hT.ep];omega
 have e:M.land j ⟨(u:Int),(v:Int),Z.byt u i⟩ (.fr 1 (Z.rt:Int) 1 (dp Z.p Z.n u:Int) (Z.S i)) bv={ M with fl:=(X.eraseIdx j).map Z.frm++outs v ((M.nd v).tookG 0 t ((Z.S i).lies bv) (Z.rt:Int) (dp Z.p Z.n v:Int) tm).lt,nd:=updN M.nd v { (M.nd v).tookG 0 t ((Z.S i).lies bv) (Z.rt:Int) (dp Z.p Z.n v:Int) tm with nw:=tm,lt:=[] } }:=by
  unfold Ms.land;simp only [Int.toNat_natCast]
  rw [ξ2H hatt,if_pos hr,ξ6B,h.fl,ξ2n,h.nw];have e1:(dp Z.p Z.n u:Int)+1=(dp Z.p Z.n v:Int):=by omega
  rw [e1];rfl
 rw [e] at hmok ⊢;exact h.took hZ hv hi (fun c=>absurd c d2) (fun _=>rfl) (fun u' hu'=>by
  have:u'=u:=by omega
  rw [this];exact hH) ht rfl (fun x hx'=>List.mem_of_mem_eraseIdx hx') hmok rfl rfl rfl rfl rfl rfl
theorem WS.same (h:WS Z ph m tm D X M) {u:Nat} {X2:List Fm} {M2:Ms} (e0:MOk M2) (e1:M2.n=M.n) (e2:M2.nw=M.nw) (er:M2.rt=M.rt) (es:M2.sb=M.sb) (e3:M2.nd=updN M.nd u (setN (M.nd u) tm (M.nd u).tr (M.nd u).sb)) (e4:M2.fl=X2.map Z.frm)
 (hf:∀ v i,Fm.fr v i∈X2->v<Z.n/\∃ u:Nat,TM.dg Z.p v=(u:Int)/\u<Z.n/\D.H u i=true)
 (hl:∀ v L,Fm.lo v L∈X2->v<Z.n/\(∃ u:Nat,TM.dg Z.p v=(u:Int)/\u<Z.n)/\L.length<=60/\Back.efault 1 1 L 0=0/\∀ q∈L,∃ i:Nat,q=(i:Int)/\i<60):WS Z ph m tm D X2 M2:=by
 have hq:∀ v,(M2.nd v).tr=(M.nd v).tr/\(M2.nd v).sb=(M.nd v).sb:=by
  intro v;rw [e3];by_cases c:v=u
  ·rw [c,ξ9];exact ⟨rfl,rfl⟩
  ·rw [ξf _ _ c];exact ⟨rfl,rfl⟩
 refine ⟨e0,e1.trans h.n,e2.trans h.nw,h.t0,h.t9,by rw [er];exact h.rtt,by rw [es];exact h.sbs,fun v hv=>?_,fun v hv k h0 hk=>?_,fun v hv hn=>?_,?_,e4,hf,hl,h.sub,h.rH,h.hm,h.m60⟩
 ·rw [(hq v).1];exact h.tr v hv
 ·rw [(hq v).1];exact h.no v hv k h0 hk
 ·rw [(hq v).2];exact h.sb v hv hn
 ·rw [(hq Z.at').2];exact h.sa
def gives (D:Da) (u v:Nat) (L:List Int):List Fm:=(L.filter fun q=>D.H u q.toNat).map fun q=>.fr v q.toNat
theorem ξ2l {D:Da} {u v:Nat} {L:List Int} {x:Fm} (h:x∈gives D u v L):∃ q∈L,x=.fr v q.toNat/\D.H u q.toNat=true:=by
 unfold gives at h;obtain ⟨q,hq,rfl⟩:=Ξi.1 h;obtain ⟨h1,h2⟩:=Ξj.1 hq;exact ⟨q,h1,rfl,h2⟩
theorem ξaO {D:Da} {u v i:Nat} {L:List Int} (h:(i:Int)∈L) (hH:D.H u i=true):Fm.fr v i∈gives D u v L:=by
 unfold gives;exact Ξi.2 ⟨(i:Int),Ξj.2 ⟨h,by simpa using hH⟩,by simp⟩
theorem ξ5A (D:Da) (u v:Nat) (L:List Int):(gives D u v L).length<=L.length:=by
 unfold gives;rw [Ξm];exact List.length_filter_le _ _
theorem ξ7d (hZ:Z.Ok) {H:Nat->Bool} {f:Nat} {T:Int} {t:Tr} {u v:Nat} (hD:D.H u=H) (hT:TrM Z.p Z.n u Z.rt Z.S H f T t):∀ L:List Int,(∀ q∈L,∃ i:Nat,q=(i:Int)/\i<60) ->
 L.flatMap (againL t (v:Int))=(L.filter fun q=>D.H u q.toNat).map fun q=>((v:Int),Z.byt u q.toNat)
 | [],_=>rfl
 | q::L,hL=>by
   obtain ⟨i,rfl,hi⟩:=hL q (List.mem_cons_self ..);rw [List.flatMap_cons,ξ7d hZ hD hT L (fun x hx=>hL x (List.mem_cons_of_mem _ hx))]
   have hnum:num t.rT (i:Int)=65536+(i:Int):=hT.num hi
   cases hH:H i with
   | true=>
     have hD':D.H u (i:Int).toNat=true:=by rw [hD,Int.toNat_natCast];exact hH
     rw [List.filter_cons_of_pos (p:=fun q:Int=>D.H u q.toNat) hD',List.map_cons]
     obtain ⟨q,e1,e2,e3⟩:=hT.rg i hH;have:againL t (v:Int) (i:Int)=[((v:Int),Z.byt u i)]:=by
      unfold againL;rw [hnum,e1];simp only [e3]
      have hF:FM.ffault t.tk (Z.rt:Int) t.ep (dp Z.p Z.n u:Int) (pby q.s q.t q.l q.q q.st q.L)=0:=by
       have:=hZ.frame (u:=u) hi
       rw [<- e2] at this;rw [hT.tk,hT.ep];exact this
      rw [if_pos hF,hT.tk,hT.ep];unfold Zp.byt;rw [<- e2];rfl
     rw [this,Int.toNat_natCast];rfl
   | false=>
     have hD':¬ D.H u (i:Int).toNat=true:=by rw [hD,Int.toNat_natCast,hH];simp
     rw [List.filter_cons_of_neg (p:=fun q:Int=>D.H u q.toNat) hD']
     have:againL t (v:Int) (i:Int)=[]:=by
      unfold againL;rw [hnum];have:t.rM.find? (fun z=>z.1==65536+(i:Int))=none:=by
       rw [List.find?_eq_none];intro z hz hc;obtain ⟨k,e1,e2⟩:=hT.rn z hz;have:k=i:=by have:=beq_iff_eq.1 hc;omega
       rw [this,hH] at e2;cases e2
      rw [this]
     rw [this];rfl
theorem WS.landL (hZ:Z.Ok) (h:WS Z ph m tm D X M) {j v:Nat} {L:List Int} (hx:X[j]?=some (.lo v L)) :
 ∃ u:Nat,TM.dg Z.p v=(u:Int)/\u<Z.n/\∃ g,Lands M (Z.frm (.lo v L)) g/\∀ bv,WS Z ph m tm D (X.eraseIdx j++gives D u v L) (M.land j (Z.frm (.lo v L)) g bv):=by
 obtain rfl:M.nw=tm:=h.nw;obtain ⟨hv,⟨u,hu,hun⟩,hll,hef,hq⟩:=h.xl v L (List.mem_of_getElem? hx);refine ⟨u,hu,hun,?_⟩
 obtain ⟨t,ht,hT,_⟩:=h.tr u hun;have hvn:u<M.n:=by rw [h.n];exact hun
 obtain ⟨kN,kL,kW,kI⟩:=h.ok.nd u hvn;have hatt:(M.nd u).at 1=some t:=ht
 have hkd:(v:Int)∈t.kids:=by rw [hT.kids];exact ξf5 hv hu
 have hfrm:Z.frm (.lo v L)=⟨(v:Int),(u:Int),Back.ebytes 1 1 L 0⟩:=by
  show (⟨(v:Int),TM.dg Z.p v,Back.ebytes 1 1 L 0⟩:Fl)=_
  rw [hu]
 rw [hfrm];have hL:Lands M ⟨(v:Int),(u:Int),Back.ebytes 1 1 L 0⟩ (.lost 1 L):=by
  refine ⟨?_,?_,rfl,⟨hef,by omega⟩,?_⟩
  ·show (0:Int)<=(u:Int);omega
  ·show (u:Int)<(M.n:Int);omega
  ·exact ⟨t,by show (M.nd (u:Int).toNat).at _=_;rw [Int.toNat_natCast];exact hatt,hkd⟩
 refine ⟨_,hL,fun bv=>?_⟩
 have hmok:=h.ok.land (i:=j) hL bv
 have hag:=ξ7d (v:=v) hZ rfl hT L hq
 have e:M.land j ⟨(v:Int),(u:Int),Back.ebytes 1 1 L 0⟩ (.lost 1 L) bv={ M with fl:=(X.eraseIdx j++gives D u v L).map Z.frm,nd:=updN M.nd u (setN (M.nd u) M.nw (M.nd u).tr (M.nd u).sb) }:=by
  unfold Ms.land;simp only [Int.toNat_natCast]
  rw [ξ2k hatt hkd,ξ6B,h.fl,ξ2n,List.map_append];have e1:outs u ((M.nd u).lt++L.flatMap (againL t (v:Int)))=(gives D u v L).map Z.frm:=by
   rw [kL,List.nil_append,hag];unfold outs gives;rw [List.map_map,List.map_map];refine List.map_congr_left ?_
   intro q hq';show (⟨(u:Int),(v:Int),Z.byt u q.toNat⟩:Fl)=Z.frm (.fr v q.toNat)
   unfold Zp.frm;simp only [hu,Int.toNat_natCast]
  show ({ M with fl:=(X.eraseIdx j).map Z.frm++outs u ((M.nd u).lt++L.flatMap (againL t (v:Int))),nd:=_ }:Ms)=_
  rw [e1];rfl
 rw [e] at hmok ⊢;refine h.same hmok rfl rfl rfl rfl rfl rfl ?_ ?_
 ·intro v' i hx';rcases Ξe.1 hx' with hx' | hx'
  ·exact h.xf v' i (List.mem_of_mem_eraseIdx hx')
  ·obtain ⟨q,hq1,hq2,hq3⟩:=ξ2l hx';injection hq2 with a b
   rw [a,b];exact ⟨hv,u,hu,hun,hq3⟩
 ·intro v' L' hx';rcases Ξe.1 hx' with hx' | hx'
  ·exact h.xl v' L' (List.mem_of_mem_eraseIdx hx')
  ·obtain ⟨q,_,hq2,_⟩:=ξ2l hx';cases hq2
theorem WS.send (hZ:Z.Ok) (h:WS Z ph m tm D X M) (hm:m<60) {t:Tr} (ht:(M.nd Z.rt).tr 0=some t) {pk:RM.Pk} (hp:ppk pk=Z.S m) :
 t.pa=-1/\∃ D',Up D D' Z.rt m/\WS Z ph (m+1) tm D' (X++Z.news Z.rt m) (M.send 0 Z.rt t pk):=by
 have hr:=hZ.tr.rn
 have hvn:Z.rt<M.n:=by rw [h.n];exact hr
 obtain ⟨kN,kL,kW,kI⟩:=h.ok.nd Z.rt hvn;obtain ⟨t',ht',hT,_⟩:=h.tr Z.rt hr;rw [ht] at ht';simp only [Option.some.injEq] at ht'
 subst ht';have hpa:t.pa=-1:=by rw [hT.pa];exact hZ.tr.root_pa
 refine ⟨hpa,?_⟩
 have hf:PM.fault pk.s pk.t pk.l pk.q pk.L.length=0:=by
  have:=(hZ.pk.ok m hm).f
  rw [<- hp] at this;exact this
 have hmok:=h.ok.send (k:=0) (by omega) hvn ht (p:=pk) hf
 have hdp:dp Z.p Z.n Z.rt=1:=hZ.tr.dp_root hr hZ.tr.root_pa
 have e:M.send 0 Z.rt t pk={ M with fl:=X.map Z.frm++outs Z.rt ((M.nd Z.rt).tookG 0 t pk (Z.rt:Int) (dp Z.p Z.n Z.rt:Int) tm).lt,nd:=updN M.nd Z.rt { (M.nd Z.rt).tookG 0 t pk (Z.rt:Int) (dp Z.p Z.n Z.rt:Int) tm with nw:=tm,lt:=[] } }:=by
  have e1:({ M.nd Z.rt with nw:=M.nw }:Nd).tookG 0 t pk (M.nd Z.rt).id 1 M.nw={ (M.nd Z.rt).tookG 0 t pk (Z.rt:Int) (dp Z.p Z.n Z.rt:Int) tm with nw:=tm }:=by
   rw [kI,hdp,h.nw];unfold Nd.tookG;split<;>rfl
  unfold Ms.send;have e2:=ξ6B M M.fl Z.rt ({ (M.nd Z.rt).tookG 0 t pk (Z.rt:Int) (dp Z.p Z.n Z.rt:Int) tm with nw:=tm }:Nd)
  rw [h.fl] at e2;rw [<- e1] at e2;have e3:({ M with nd:=updN M.nd Z.rt (({ M.nd Z.rt with nw:=M.nw }:Nd).tookG 0 t pk (M.nd Z.rt).id 1 M.nw) }:Ms)={ M with fl:=X.map Z.frm,nd:=updN M.nd Z.rt (({ M.nd Z.rt with nw:=M.nw }:Nd).tookG 0 t pk (M.nd Z.rt).id 1 M.nw) }:=by rw [<- h.fl]
  rw [e3,e2,e1]
 rw [e] at hmok ⊢;have hfr:D.H Z.rt m=false/\(D.T Z.rt=-1∨D.f Z.rt<=m):=by
  refine ⟨?_,?_⟩
  ·cases hh:D.H Z.rt m with
   | false=>rfl
   | true=>have:=(h.rH m).1 hh;omega
  ·rcases hT.tt with ⟨c,_⟩ | ⟨j,_,_,c⟩
   ·exact .inl c
   ·right
    have:=(h.rH _).1 c
    omega
 exact (h.took hZ (m':=m+1) hr hm (fun _=>⟨rfl,rfl⟩) (fun c=>absurd rfl c) (fun u hu=>by rw [hZ.tr.root_pa] at hu;omega) ht hp (fun x hx=>hx) hmok rfl rfl rfl rfl rfl rfl).1 hfr
theorem WS.flying (h:WS Z ph m tm D X M) {X2:List Fm} {M2:Ms} (hM:M2={ M with fl:=X2.map Z.frm }) (hs:∀ x∈X2,x∈X):WS Z ph m tm D X2 M2:=by
 subst hM;exact ⟨⟨h.ok.n1,h.ok.n16,h.ok.nw,h.ok.nd⟩,h.n,h.nw,h.t0,h.t9,h.rtt,h.sbs,h.tr,h.no,h.sb,h.sa,rfl,fun v i hx=>h.xf v i (hs _ hx),fun v L hx=>h.xl v L (hs _ hx),h.sub,h.rH,h.hm,h.m60⟩
theorem WS.lose (h:WS Z ph m tm D X M) (j:Nat):WS Z ph m tm D (X.eraseIdx j) (M.lose j):=
 h.flying (by unfold Ms.lose;rw [h.fl,ξ2n]) (fun x hx=>List.mem_of_mem_eraseIdx hx)
theorem WS.twice (h:WS Z ph m tm D X M) {j:Nat} {x:Fm} (hx:X[j]?=some x):WS Z ph m tm D (X++[x]) (M.twice (Z.frm x)):=
 h.flying (by unfold Ms.twice;rw [h.fl,List.map_append];rfl) (fun y hy=>by
  rcases Ξe.1 hy with hy | hy
  ·exact hy
  ·rw [Ξg] at hy;rw [hy];exact List.mem_of_getElem? hx)
theorem WS.at (h:WS Z ph m tm D X M) {j:Nat} {f:Fl} (hf:M.fl[j]?=some f):∃ x,X[j]?=some x/\f=Z.frm x:=by
 rw [h.fl,List.getElem?_map] at hf;cases hx:X[j]? with
 | none=>rw [hx] at hf;cases hf
 | some x=>rw [hx] at hf;simp at hf;exact ⟨x,rfl,hf.symm⟩
def wt:Fm->Nat
 | .fr _ _=>1
 | .lo _ L=>L.length+1
def wts (X:List Fm):Nat:=X.foldr (fun x s=>wt x+s) 0
theorem ξ1L (x:Fm) (X:List Fm):wts (x::X)=wt x+wts X:=rfl
theorem ξ25:∀ (X Y:List Fm),wts (X++Y)=wts X+wts Y
 | [],Y=>by rw [List.nil_append];exact (Nat.zero_add _).symm
 | x::X,Y=>by rw [List.cons_append,ξ1L,ξ1L,ξ25 X Y,Nat.add_assoc]
theorem ξ3A:∀ (X:List Fm),(∀ x∈X,wt x=1)->wts X=X.length
 | [],_=>rfl
 | x::X,h=>by rw [ξ1L,h x (List.mem_cons_self ..),ξ3A X (fun y hy=>h y (List.mem_cons_of_mem _ hy)),List.length_cons,Nat.add_comm]
theorem ξ89:∀ (X:List Fm),X.length<=wts X
 | []=>Ξo _
 | x::X=>by
   rw [ξ1L,List.length_cons];have:=ξ89 X
   have:1<=wt x:=by cases x<;>simp [wt]
   omega
def cntF (H:Nat->Bool):Nat:=sumN (fun i=>if H i then 0 else 1) 60
def pot (n:Nat) (D:Da):Nat:=16*sumN (fun v=>cntF (D.H v)) n
theorem ξeU {D D':Da} {v i n:Nat} (h:Up D D' v i) (hv:v<n) (hi:i<60) (hH:D.H v i=false):pot n D'+16=pot n D:=by
 have hc:cntF (D.H v)=cntF (D'.H v)+1:=by
  unfold cntF;refine ξ3Y (q0:=i) ?_ 60 hi (fun q hq hn=>?_)
  ·show (if D.H v i then 0 else 1)=(if D'.H v i then 0 else 1)+1
   rw [hH,h.at'];rfl
  ·have:D'.H v q=D.H v q:=by rw [h.H,if_pos rfl,ξ1a _ hn]
   rw [this]
 have:sumN (fun v=>cntF (D.H v)) n=sumN (fun v=>cntF (D'.H v)) n+1:=ξ3Y (q0:=v) hc n hv (fun q hq hn=>by rw [h.ne hn])
 unfold pot;omega
def KOK (K:Nat->Nat->Prop) (Z:Zp) (m:Nat) (D:Da):Prop:=∀ v,v<Z.n->∀ j,K v j->j<m/\(j+1=m∨(D.T v≠-1/\D.f v<=j))
def Cov (K:Nat->Nat->Prop) (Z:Zp) (D:Da) (X:List Fm):Prop:=∀ v,v<Z.n->∀ u:Nat,TM.dg Z.p v=(u:Int)->∀ j,K v j->D.H v j=true∨Fm.fr v j∈X∨(∃ L,Fm.lo v L∈X/\(j:Int)∈L)∨D.H u j=false
theorem KOK.up {K:Nat->Nat->Prop} {D D':Da} {v i:Nat} (h:KOK K Z m D) (hU:Up D D' v i):KOK K Z m D':=by
 intro v' hv' j hj;obtain ⟨h1,h2⟩:=h v' hv' j hj;refine ⟨h1,?_⟩
 rcases h2 with c | ⟨c1,c2⟩
 ·exact .inl c
 ·right
  by_cases e:v'=v
  ·rw [e] at c1 c2 ⊢;rw [hU.f1 c1];exact ⟨hU.T1,c2⟩
  ·rw [hU.T v' e,hU.f v' e];exact ⟨c1,c2⟩
def FIs (Z:Zp) (ph:Bool) (m:Nat) (tm:Int) (K:Nat->Nat->Prop) (R:Da->Prop) (g:Nat) (M:Ms):Prop:=∃ D X,WS Z ph m tm D X M/\KOK K Z m D/\Cov K Z D X/\R D/\wts X+pot Z.n D=g/\g<=400000
theorem ξ6H (hZ:Z.Ok) (K:Nat->Nat->Prop) (R:Da->Prop) (hR:∀ D D' v i,R D->Up D D' v i->R D'):Falls (FIs Z ph m tm K R):=by
 constructor
 ·rintro g M ⟨D,X,h,_,_,_,hg,hb⟩;refine ⟨h.ok,?_⟩
  rw [h.fl,Ξm];have:=ξ89 X
  omega
 ·rintro g M f F ⟨D,X,h,hK,hC,hRD,hg,hb⟩ hfl;have hf0:M.fl[0]?=some f:=by rw [hfl];rfl
  obtain ⟨x,hx,rfl⟩:=h.at hf0;obtain ⟨X',hX'⟩:∃ X',X=x::X':=by
   cases X with
   | nil=>cases hx
   | cons y X'=>simp at hx;exact ⟨X',by rw [hx]⟩
  subst hX';have hn16:=hZ.tr.fit.hi
  cases x with
  | fr v i=>
    obtain ⟨gm,hL,hN⟩:=h.landF hZ (j:=0) rfl;refine ⟨gm,hL,fun bv=>?_⟩
    obtain ⟨h1,h2⟩:=hN bv;obtain ⟨hv,u,hu,hun,hH⟩:=h.xf v i (List.mem_cons_self ..);have hi:i<60:=by have:=h.hm u hun i hH;have:=h.m60;omega
    rw [ξ1L] at hg;have hw1:wt (.fr v i)=1:=rfl
    by_cases hfr:D.H v i=false/\(D.T v=-1∨D.f v<=i)
    ·obtain ⟨D',hU,hW⟩:=h1 hfr;have hp:=ξeU hU hv hi hfr.1
     have hwn:wts (Z.news v i)=(Z.news v i).length:=ξ3A _ (fun x hx=>by obtain ⟨c,rfl,_⟩:=Zp.news_mem hx;rfl)
     have hnl:=Z.news_len v i
     refine ⟨wts (X'++Z.news v i)+pot Z.n D',by rw [ξ25];omega,D',_,hW,hK.up hU,?_,hR _ _ _ _ hRD hU,rfl,by rw [List.eraseIdx_cons_zero] at *;rw [ξ25];omega⟩
     intro v' hv' u' hu' j hj;by_cases c:v'=v/\j=i
     ·left;rw [c.1,c.2];exact hU.at'
     by_cases c2:u'=v/\j=i
     ·right;left
      rw [c2.2];rw [c2.1] at hu';exact List.mem_append_right _ (Zp.mem_news hv' hu')
     rcases hC v' hv' u' hu' j hj with q | q | ⟨L,q1,q2⟩ | q
     ·exact .inl (hU.mono q)
     ·rcases Ξf.1 q with q | q
      ·injection q with q1 q2
       exact absurd ⟨q1,q2⟩ c
      ·exact .inr (.inl (List.mem_append_left _ q))
     ·rcases Ξf.1 q1 with q | q
      ·cases q
      ·exact .inr (.inr (.inl ⟨L,List.mem_append_left _ q,q2⟩))
     ·right;right;right
      rw [hU.H];split
      ·rename_i e
       rw [ξ1a _ (fun e2=>c2 ⟨e,e2⟩),<- e]
       exact q
      ·exact q
    ·have hW:=h2 hfr
     refine ⟨wts X'+pot Z.n D,by omega,D,_,hW,hK,?_,hRD,rfl,by rw [List.eraseIdx_cons_zero] at *;omega⟩
     intro v' hv' u' hu' j hj;rcases hC v' hv' u' hu' j hj with q | q | ⟨L,q1,q2⟩ | q
     ·exact .inl q
     ·rcases Ξf.1 q with q | q
      ·injection q with q1 q2
       subst q1;subst q2;left
       cases hh:D.H v' j with
       | true=>rfl
       | false=>
         exfalso
         apply hfr
         refine ⟨hh,?_⟩
         obtain ⟨t,_,hT,_⟩:=h.tr v' hv';rcases hT.tt with ⟨c,_⟩ | ⟨k,_,_,c⟩
         ·exact .inl c
         ·right
          have hfm:=h.hm v' hv' _ c
          rcases (hK v' hv' j hj).2 with e | ⟨_,e⟩
          ·omega
          ·exact e
      ·exact .inr (.inl q)
     ·rcases Ξf.1 q1 with q | q
      ·cases q
      ·exact .inr (.inr (.inl ⟨L,q,q2⟩))
     ·exact .inr (.inr (.inr q))
  | lo v L=>
    obtain ⟨u,hu,hun,gm,hL,hN⟩:=h.landL hZ (j:=0) rfl;refine ⟨gm,hL,fun bv=>?_⟩
    have hW:=hN bv
    rw [ξ1L] at hg;have hw1:wt (.lo v L)=L.length+1:=rfl
    have hwn:wts (gives D u v L)=(gives D u v L).length:=ξ3A _ (fun x hx=>by obtain ⟨q,_,rfl,_⟩:=ξ2l hx;rfl)
    have hgl:=ξ5A D u v L
    refine ⟨wts (X'++gives D u v L)+pot Z.n D,by rw [ξ25];omega,D,_,hW,hK,?_,hRD,rfl,by rw [List.eraseIdx_cons_zero] at *;rw [ξ25];omega⟩
    intro v' hv' u' hu' j hj;rcases hC v' hv' u' hu' j hj with q | q | ⟨L',q1,q2⟩ | q
    ·exact .inl q
    ·rcases Ξf.1 q with q | q
     ·cases q
     ·exact .inr (.inl (List.mem_append_left _ q))
    ·rcases Ξf.1 q1 with q | q
     ·injection q with e1 e2
      subst e1;subst e2;have:u'=u:=by omega
      subst this;cases hh:D.H u' j with
      | false=>exact .inr (.inr (.inr rfl))
      | true=>exact .inr (.inl (List.mem_append_right _ (ξaO q2 hh)))
     ·exact .inr (.inr (.inl ⟨L',List.mem_append_left _ q,q2⟩))
    ·exact .inr (.inr (.inr q))
theorem ξ8q (hZ:Z.Ok) {K:Nat->Nat->Prop} (h:WS Z ph m tm D [] M) (hK:KOK K Z m D) (hC:Cov K Z D []) (hKc:∀ v,v<Z.n->∀ u:Nat,TM.dg Z.p v=(u:Int)->∀ j,K v j->K u j):∀ (k v:Nat),v<Z.n->dp Z.p Z.n v<=k->∀ j,K v j->D.H v j=true:=by
 intro k
 induction k with
 | zero=>
   intro v hv hd j hj;by_cases c:v=Z.rt
   ·rw [c];exact (h.rH j).2 (hK v hv j hj).1
   ·obtain ⟨u,_,_,_,e⟩:=hZ.up hv c;omega
 | succ k ih=>
   intro v hv hd j hj;by_cases c:v=Z.rt
   ·rw [c];exact (h.rH j).2 (hK v hv j hj).1
   ·obtain ⟨u,hu,hun,_,e⟩:=hZ.up hv c;rcases hC v hv u hu j hj with q | q | ⟨L,q,_⟩ | q
    ·exact q
    ·cases q
    ·cases q
    ·have:=ih u hun (by omega) j (hKc v hv u hu j hj)
     rw [q] at this;cases this
end
theorem ξ8l {now:Int} {M:GM.Its} (h:∀ x∈M,x.t=0):GM.dueL 3 3 now M=GM.nums M/\GM.gaveL 3 3 now M=[]/\GM.dM 3 3 now M=M.map fun x=>⟨x.n,x.t+1,now⟩:=by
 have ha:∀ x∈M,GM.asks 3 3 now x=true:=by
  intro x hx;unfold GM.asks GM.stays;rw [h x hx];simp
 have hg:∀ x∈M,GM.gives 3 3 now x=false:=by
  intro x hx;unfold GM.gives GM.stays;rw [h x hx];simp
 refine ⟨?_,?_,?_⟩
 ·unfold GM.dueL;rw [List.filter_eq_self.2 ha]
 ·unfold GM.gaveL;rw [List.filter_eq_nil_iff.2 (fun x hx=>by rw [hg x hx];simp)]
  rfl
 ·unfold GM.dM;rw [List.filter_eq_self.2 (fun x hx=>by rw [hg x hx];rfl)]
  refine List.map_congr_left (fun x hx=>?_)
  unfold GM.next;rw [if_pos (ha x hx)]
theorem ξeh {M:GM.Its} {now y:Int}:GM.has (M.map fun x=>(⟨x.n,x.t+1,now⟩:GM.Lk)) y=GM.has M y:=by
 unfold GM.has;rw [List.any_map];rfl
theorem asks8 {N:Nd} {now:Int} (h:∀ k,0<k->k<8->N.tr k=none):N.asksG now 8=N.askG 0 now:=by
 rw [ξ14 (j:=7) (.inl (h 7 (by omega) (by omega))),ξ14 (j:=6) (.inl (h 6 (by omega) (by omega))),ξ14 (j:=5) (.inl (h 5 (by omega) (by omega))),ξ14 (j:=4) (.inl (h 4 (by omega) (by omega))),ξ14 (j:=3) (.inl (h 3 (by omega) (by omega))),ξ14 (j:=2) (.inl (h 2 (by omega) (by omega))),ξ14 (j:=1) (.inl (h 1 (by omega) (by omega)))]
 rfl
section
variable {Z:Zp} {ph:Bool} {m:Nat} {tm:Int} {D:Da} {X:List Fm} {M:Ms}
structure Asks (Z:Zp) (m:Nat) (D:Da) (v:Nat) (l:List Fm):Prop where
 is:∀ x∈l,∃ L,x=.lo v L/\(∃ u:Nat,TM.dg Z.p v=(u:Int)/\u<Z.n)/\L.length<=60/\Back.efault 1 1 L 0=0/\∀ q∈L,∃ i:Nat,q=(i:Int)/\i<60
 few:l.length<=1
 all:∀ u:Nat,TM.dg Z.p v=(u:Int)->∀ i:Nat,D.f v<=i->i<m->D.H v i=true∨∃ L,Fm.lo v L∈l/\(i:Int)∈L
theorem WS.ask (hZ:Z.Ok) (h:WS Z true m tm D [] M) {now:Int} (h0:tm<=now) (h9:now<=9) {v:Nat} (hv:v<Z.n) (hT:D.T v=65535+(m:Int)) (hm:0<m) :
 ∃ t2 l,(({ (M.nd v) with nw:=now }:Nd).asksG now 8).tr 0=some t2/\TrM Z.p Z.n v Z.rt Z.S (D.H v) (D.f v) (D.T v) t2/\(({ (M.nd v) with nw:=now }:Nd).asksG now 8).sb=(M.nd v).sb/\(∀ k,0<k->k<8->(({ (M.nd v) with nw:=now }:Nd).asksG now 8).tr k=none) /\
  outs v (({ (M.nd v) with nw:=now }:Nd).asksG now 8).lt=l.map Z.frm/\Asks Z m D v l:=by
 obtain ⟨t,ht,hTr,hA⟩:=h.tr v hv;have hno:=h.no v hv
 have hvn:v<M.n:=by rw [h.n];exact hv
 obtain ⟨kN,kL,kW,kI⟩:=h.ok.nd v hvn;have hO:TrOk M.n (M.nd v).nw 0 t:=kN.tr 0 (by omega) t ht
 rw [asks8 (N:={ (M.nd v) with nw:=now }) hno];obtain ⟨d1,d2,d3⟩:=ξ8l (now:=now) (hA rfl);by_cases hpa:t.pa=-1
 ·have e:({ (M.nd v) with nw:=now }:Nd).askG 0 now={ (M.nd v) with nw:=now }:=by
   unfold Nd.askG;show (match (M.nd v).tr 0 with | none=>_ | some t=>_)=_
   rw [ht];simp only [hpa,if_true]
  rw [e];refine ⟨t,[],ht,hTr,rfl,hno,?_,⟨fun x hx=>(by cases hx),(by simp),fun u hu=>?_⟩⟩
  ·show outs v (M.nd v).lt=_
   rw [kL];rfl
  ·rw [hTr.pa] at hpa;omega
 ·have e:({ (M.nd v) with nw:=now }:Nd).askG 0 now=setN (M.nd v) now (updR (M.nd v).tr 0 { t with gn:=now,gM:=GM.dM 3 3 now t.gM,gG:=[] }) (M.nd v).sb∨True:=.inr trivial
  clear e;obtain ⟨N1,hN1⟩:∃ N1,({ (M.nd v) with nw:=now }:Nd).askG 0 now=N1:=⟨_,rfl⟩;have e:N1={ (M.nd v) with nw:=now,tr:=updR (M.nd v).tr 0 { t with gn:=now,gM:=GM.dM 3 3 now t.gM,gG:=[] },lt:=(M.nd v).lt++(if GM.dueL 3 3 now t.gM=[] then [] else [(t.pa,Back.ebytes 1 t.tk (BM.norm (sq (GM.dueL 3 3 now t.gM))) 0)]),sb:=selS t.tk (fun s=>(GM.gaveL 3 3 now t.gM).foldl (fun s y=>s.gone y now) s) (M.nd v).sb }:=by
   rw [<- hN1];unfold Nd.askG;show (match (M.nd v).tr 0 with | none=>_ | some t=>_)=_
   rw [ht];simp only [hpa,if_false]
  have e_tr:N1.tr=updR (M.nd v).tr 0 { t with gn:=now,gM:=GM.dM 3 3 now t.gM,gG:=[] }:=by rw [e]
  have e_lt:N1.lt=(if GM.nums t.gM=[] then [] else [(t.pa,Back.ebytes 1 t.tk (BM.norm (sq (GM.nums t.gM))) 0)]):=by rw [e,kL,d1];rfl
  have e_sb:N1.sb=(M.nd v).sb:=by
   rw [e,d2];exact ξ4S _ _
  rw [hN1];obtain ⟨u,hu,hun⟩:∃ u:Nat,TM.dg Z.p v=(u:Int)/\u<Z.n:=by
   have hr:v≠Z.rt:=fun c=>hpa (by rw [hTr.pa,c];exact hZ.tr.root_pa)
   obtain ⟨u,q1,q2,_⟩:=hZ.up hv hr;exact ⟨u,q1,q2⟩
  have hmem:∀ x∈t.gM,∃ i:Nat,x.n=65536+(i:Int)/\i<60:=by
   intro x hx;have h1:=hTr.gn x hx
   have h2:=(hO.gi.mem x hx).2.1
   rw [hTr.gT,hT] at h2;have:=h.m60
   exact ⟨(x.n - 65536).toNat,by omega,by omega⟩
  have hsq:∀ q,q∈BM.norm (sq (GM.nums t.gM))↔∃ x∈t.gM,q=x.n%65536:=by
   intro q;rw [(BM.ξY _).2 q];unfold sq GM.nums;rw [List.map_map];constructor
   ·intro hq;obtain ⟨x,hx,rfl⟩:=Ξi.1 hq;exact ⟨x,hx,rfl⟩
   ·rintro ⟨x,hx,rfl⟩;exact Ξi.2 ⟨x,hx,rfl⟩
  have hlen:(BM.norm (sq (GM.nums t.gM))).length<=60:=by
   refine Nat.le_trans (BM.ξ1x _) ?_
   unfold sq GM.nums;rw [Ξm,Ξm];rcases ξ4T t.gM 65536 65596 hO.gi.ris (fun x hx=>by obtain ⟨i,e1,e2⟩:=hmem x hx;omega) with c | c
   ·rw [c];simp
   ·omega
  have hef:GM.nums t.gM≠[]->Back.efault 1 1 (BM.norm (sq (GM.nums t.gM))) 0=0:=by
   intro hne;have:=(ξ3w (now:=now) hO (by omega) (by rw [d1];exact hne)).1
   rw [d1,hTr.tk] at this;exact this
  have hTr2:TrM Z.p Z.n v Z.rt Z.S (D.H v) (D.f v) (D.T v) { t with gn:=now,gM:=GM.dM 3 3 now t.gM,gG:=[] }:=by
   refine ⟨hTr.tk,hTr.ep,hTr.pa,hTr.kids,hTr.gT,hTr.rT,hTr.tt,hTr.hb,fun i=>?_,fun x hx=>?_,hTr.rg,hTr.rn⟩
   ·show GM.has (GM.dM 3 3 now t.gM) _=true↔_
    rw [d3,ξeh];exact hTr.gm i
   ·have hx':x∈GM.dM 3 3 now t.gM:=hx
    rw [d3] at hx';obtain ⟨y,hy,rfl⟩:=Ξi.1 hx';exact hTr.gn y hy
  refine ⟨_,if GM.nums t.gM=[] then [] else [.lo v (BM.norm (sq (GM.nums t.gM)))],by rw [e_tr];exact ξO _ _ _,hTr2,e_sb,fun k h1 h2=>by rw [e_tr,ξ4O _ _ (by omega)];exact hno k h1 h2,?_,⟨?_,?_,?_⟩⟩
  ·rw [e_lt];by_cases c:GM.nums t.gM=[]
   ·rw [if_pos c,if_pos c];rfl
   ·rw [if_neg c,if_neg c,hTr.pa,hTr.tk];rfl
  ·intro x hx;by_cases c:GM.nums t.gM=[]
   ·rw [if_pos c] at hx;cases hx
   ·rw [if_neg c,Ξg] at hx;refine ⟨_,hx,⟨u,hu,hun⟩,hlen,hef c,fun q hq=>?_⟩
    obtain ⟨y,hy,rfl⟩:=(hsq q).1 hq;obtain ⟨i,e1,e2⟩:=hmem y hy;exact ⟨i,by rw [e1];omega,e2⟩
  ·split<;>simp
  ·intro u' hu' i hfi him;cases hh:D.H v i with
   | true=>exact .inl rfl
   | false=>
     right
     have hne:i+1≠m:=by
      intro c;rcases hTr.tt with ⟨c2,_⟩ | ⟨j,c2,c3,_⟩
      ·rw [hT] at c2;omega
      ·have:j=i:=by rw [hT] at c2;omega
       rw [this,hh] at c3;cases c3
     obtain ⟨x,hx,hxn⟩:=GM.ξg.1 ((hTr.gm i).2 ⟨hfi,by rw [hT];omega,hh⟩)
     have hne2:GM.nums t.gM≠[]:=by
      intro c;have:x.n∈GM.nums t.gM:=Ξi.2 ⟨x,hx,rfl⟩
      rw [c] at this;cases this
     rw [if_neg hne2];exact ⟨_,Ξg.2 rfl,(hsq _).2 ⟨x,hx,by rw [hxn];have:=h.m60;omega⟩⟩
theorem ξ8h {α β γ:Type} {f:Nat->List α} {g:Nat->List β} {k:β->α}:∀ (l:List Nat),(∀ v∈l,f v=(g v).map k)->l.flatMap f=(l.flatMap g).map k
 | [],_=>rfl
 | v::l,h=>by
   rw [List.flatMap_cons,List.flatMap_cons,List.map_append,h v (List.mem_cons_self ..),ξ8h (γ:=γ) l (fun y hy=>h y (List.mem_cons_of_mem _ hy))]
theorem ξ65 {g:Nat->List Fm} {b:Nat}:∀ (l:List Nat),(∀ v∈l,wts (g v)<=b)->wts (l.flatMap g)<=l.length*b
 | [],_=>by simp [wts]
 | v::l,h=>by
   rw [List.flatMap_cons,ξ25,List.length_cons,Nat.succ_mul];have:=h v (List.mem_cons_self ..)
   have:=ξ65 l (fun y hy=>h y (List.mem_cons_of_mem _ hy))
   omega
theorem WS.tick (hZ:Z.Ok) (h:WS Z true m tm D [] M) {now:Int} (h0:tm<=now) (h9:now<=9) (hm:0<m) (hT:∀ v,v<Z.n->D.T v=65535+(m:Int)) :
 (∀ i,i<M.n->NoGive (M.nd i) now)/\∃ X',WS Z false m now D X' (M.ticked now M.n)/\wts X'<=1000/\∀ v,v<Z.n->∀ u:Nat,TM.dg Z.p v=(u:Int)->∀ i:Nat,D.f v<=i->i<m->D.H v i=true∨∃ L,Fm.lo v L∈X'/\(i:Int)∈L:=by
 have hn16:=hZ.tr.fit.hi
 constructor
 ·intro i hi k hk t ht hpa;rw [h.n] at hi;by_cases c:k=0
  ·subst c;obtain ⟨t',ht',_,hA⟩:=h.tr i hi;rw [ht] at ht';simp only [Option.some.injEq] at ht'
   subst ht';exact (ξ8l (now:=now) (hA rfl)).2.1
  ·have:=h.no i hi k (by omega) hk
   rw [ht] at this;cases this
 have hall:∀ v,∃ l:List Fm,v<Z.n->∃ t2,(({ (M.nd v) with nw:=now }:Nd).asksG now 8).tr 0=some t2/\TrM Z.p Z.n v Z.rt Z.S (D.H v) (D.f v) (D.T v) t2/\(({ (M.nd v) with nw:=now }:Nd).asksG now 8).sb=(M.nd v).sb/\(∀ k,0<k->k<8->(({ (M.nd v) with nw:=now }:Nd).asksG now 8).tr k=none) /\
  outs v (({ (M.nd v) with nw:=now }:Nd).asksG now 8).lt=l.map Z.frm/\Asks Z m D v l:=by
  intro v;by_cases c:v<Z.n
  ·obtain ⟨t2,l,q⟩:=h.ask hZ h0 h9 c (hT v c) hm;exact ⟨l,fun _=>⟨t2,q⟩⟩
  ·exact ⟨[],fun hc=>absurd hc c⟩
 obtain ⟨lf,hlf⟩:=Classical.skolem.1 hall
 -- a loft behind the tick
 have hsbw:∀ v,v<Z.n->∀ x∈popS now (M.nd v).sb,x.2.wants=false:=by
  intro v hv x hx;by_cases c:v=Z.at'
  ·obtain ⟨s,hs1,hs2⟩:=h.sa;rw [c,hs1] at hx;have hx':x=(1,s.popd now):=by simpa [popS] using hx
   rw [hx'];have hsO:SbOk (M.nd v).nw s:=((h.ok.nd v (by rw [h.n];exact hv)).1.sb (1,s) (by rw [c,hs1];exact Ξg.2 rfl)).1
   have hw:(M.nd v).nw<=tm:=by rw [<- h.nw];exact (h.ok.nd v (by rw [h.n];exact hv)).2.2.1
   rcases hs2 with ⟨e,_⟩ | ⟨e,ee,he⟩
   ·rw [hT _ hZ.at'] at e;omega
   ·obtain ⟨e',he'⟩:=he.later hZ.pk (fun j hj=>by have:=h.hm Z.at' hZ.at' j hj;have:=h.m60;omega) hsO (Int.le_trans hw h0) h9
    exact he'.wants
  ·rw [h.sb v hv c] at hx;cases hx
 have htk:∀ v,v<Z.n->((M.nd v).tick now).tr=(({ (M.nd v) with nw:=now }:Nd).asksG now 8).tr/\((M.nd v).tick now).sb=popS now (M.nd v).sb/\((M.nd v).tick now).lt=(({ (M.nd v) with nw:=now }:Nd).asksG now 8).lt:=by
  intro v hv;obtain ⟨t2,q1,q2,q3,q4,q5,q6⟩:=hlf v hv;have e:(M.nd v).tick now=(({ (M.nd v) with nw:=now }:Nd).asksG now 8).pops now:=by
   unfold Nd.tick;rw [ξ2r];intro x hx;have hx':x∈popS now (({ (M.nd v) with nw:=now }:Nd).asksG now 8).sb:=hx
   rw [q3] at hx';exact hsbw v hv x hx'
  rw [e];refine ⟨rfl,?_,rfl⟩
  show popS now (({ (M.nd v) with nw:=now }:Nd).asksG now 8).sb=_
  rw [q3]
 have hnd:∀ v,v<Z.n->(M.ticked now M.n).nd v={ (M.nd v).tick now with lt:=[] }:=by
  intro v hv;show (if v<M.n then ({ (M.nd v).tick now with lt:=[] }:Nd) else M.nd v)=_
  rw [if_pos (by rw [h.n];exact hv)]
 have hX:∀ x∈(List.range Z.n).flatMap lf,∃ v,v<Z.n/\x∈lf v:=by
  intro x hx;obtain ⟨v,hv,hx⟩:=List.mem_flatMap.1 hx;exact ⟨v,by simpa using hv,hx⟩
 refine ⟨(List.range Z.n).flatMap lf,⟨h.ok.ticked (by rw [h.nw];exact h0) (by omega) _,h.n,rfl,by have:=h.t0;omega,h9,h.rtt,h.sbs,?_,?_,?_,?_,?_,?_,?_,h.sub,h.rH,h.hm,h.m60⟩,?_,?_⟩
 ·intro v hv;obtain ⟨t2,q1,q2,_⟩:=hlf v hv;exact ⟨t2,by rw [hnd v hv];show ((M.nd v).tick now).tr 0=_;rw [(htk v hv).1];exact q1,q2,fun c=>by cases c⟩
 ·intro v hv k h1 h2;obtain ⟨t2,q1,q2,q3,q4,_⟩:=hlf v hv;rw [hnd v hv];show ((M.nd v).tick now).tr k=_
  rw [(htk v hv).1];exact q4 k h1 h2
 ·intro v hv hn;rw [hnd v hv];show ((M.nd v).tick now).sb=_
  rw [(htk v hv).2.1,h.sb v hv hn];rfl
 ·obtain ⟨s,hs1,hs2⟩:=h.sa;refine ⟨s.popd now,?_,?_⟩
  ·rw [hnd _ hZ.at'];show ((M.nd Z.at').tick now).sb=_
   rw [(htk _ hZ.at').2.1,hs1];rfl
  ·have hvn:Z.at'<M.n:=by rw [h.n];exact hZ.at'
   have hsO:SbOk (M.nd Z.at').nw s:=((h.ok.nd _ hvn).1.sb (1,s) (by rw [hs1];exact Ξg.2 rfl)).1
   have hw:(M.nd Z.at').nw<=tm:=by rw [<- h.nw];exact (h.ok.nd _ hvn).2.2.1
   rcases hs2 with ⟨e,_⟩ | ⟨e,ee,he⟩
   ·rw [hT _ hZ.at'] at e;omega
   ·exact .inr ⟨e,he.later hZ.pk (fun j hj=>by have:=h.hm Z.at' hZ.at' j hj;have:=h.m60;omega) hsO (Int.le_trans hw h0) h9⟩
 ·show M.fl++_=_
  rw [h.fl,List.map_nil,List.nil_append,h.n];refine ξ8h (γ:=Nat) _ (fun v hv=>?_)
  have hv':v<Z.n:=by simpa using hv
  obtain ⟨t2,q1,q2,q3,q4,q5,q6⟩:=hlf v hv';rw [(htk v hv').2.2];exact q5
 ·intro v i hx;obtain ⟨v',hv',hx⟩:=hX _ hx;obtain ⟨t2,q1,q2,q3,q4,q5,q6⟩:=hlf v' hv';obtain ⟨L,e,_⟩:=q6.is _ hx;cases e
 ·intro v L hx;obtain ⟨v',hv',hx⟩:=hX _ hx;obtain ⟨t2,q1,q2,q3,q4,q5,q6⟩:=hlf v' hv';obtain ⟨L',e,r1,r2,r3,r4⟩:=q6.is _ hx;injection e with e1 e2
  subst e1;subst e2;exact ⟨hv',r1,r2,r3,r4⟩
 ·have:=ξ65 (g:=lf) (b:=61) (List.range Z.n) (fun v hv=>by
   have hv':v<Z.n:=by simpa using hv
   obtain ⟨t2,q1,q2,q3,q4,q5,q6⟩:=hlf v hv';have hf:=q6.few
   cases hc:lf v with
   | nil=>simp [wts]
   | cons x l=>
     rw [hc] at hf;have:l=[]:=by
      cases l with
      | nil=>rfl
      | cons y l=>simp at hf
     subst this;obtain ⟨L,e,_,r2,_⟩:=q6.is x (by rw [hc];exact List.mem_cons_self ..)
     rw [e];show L.length+1+0<=61
     omega)
  rw [List.length_range] at this;have:Z.n*61<=16*61:=Nat.mul_le_mul_right _ (by omega)
  omega
 ·intro v hv u hu i h1 h2;obtain ⟨t2,q1,q2,q3,q4,q5,q6⟩:=hlf v hv;rcases q6.all u hu i h1 h2 with c | ⟨L,c1,c2⟩
  ·exact .inl c
  ·exact .inr ⟨L,List.mem_flatMap.2 ⟨v,by simpa using hv,c1⟩,c2⟩
structure CSt (Z:Zp) (m f:Nat) (tm:Int) (M:Ms):Prop where
 ok:MOk M
 n:M.n=Z.n
 nw:M.nw=tm
 fl:M.fl=[]
 sbs:M.sb=[((Z.at':Int),1)]
 lk:∀ v,v<Z.n->Lacks0 (M.nd v)
 wn:∀ v,v<Z.n->∀ x∈(M.nd v).sb,x.2.wants=false
 sa:∃ s,(M.nd Z.at').sb=[(1,s)]/\Row0 Z.S f (m - f) s.got
 fm:f<m
 fr:Z.at'=Z.rt->f=0
theorem WS.done (hZ:Z.Ok) (h:WS Z ph m tm D [] M) (hT:∀ v,v<Z.n->D.T v≠-1) (hm:0<m) (hH:∀ v,v<Z.n->∀ j,D.f v<=j->j<m->D.H v j=true):CSt Z m (D.f Z.at') tm M:=by
 have hff:∀ v,v<Z.n->D.H v (D.f v)=true:=by
  intro v hv;obtain ⟨t,_,hTr,_⟩:=h.tr v hv;rcases hTr.tt with ⟨c,_⟩ | ⟨_,_,_,c⟩
  ·exact absurd c (hT v hv)
  ·exact c
 have hgm:∀ v,v<Z.n->∀ t,(M.nd v).tr 0=some t->t.gM=[]:=by
  intro v hv t ht;obtain ⟨t',ht',hTr,_⟩:=h.tr v hv;rw [ht] at ht';simp only [Option.some.injEq] at ht'
  subst ht';rcases List.eq_nil_or_concat t.gM with c | ⟨L,x,c⟩
  ·exact c
  ·exfalso
   have hx:x∈t.gM:=by rw [c];simp
   have h1:=hTr.gn x hx
   obtain ⟨kN,_⟩:=h.ok.nd v (by rw [h.n];exact hv)
   have h2:=((kN.tr 0 (by omega) t ht).gi.mem x hx).2.1
   rw [hTr.gT] at h2;obtain ⟨q1,q2,q3⟩:=(hTr.gm (x.n - 65536).toNat).1 (GM.ξg.2 ⟨x,hx,by omega⟩)
   rcases hTr.tt with ⟨c2,_⟩ | ⟨j,c2,c3,_⟩
   ·exact hT v hv c2
   ·have:=h.hm v hv j c3
    rw [hH v hv _ q1 (by omega)] at q3
    cases q3
 obtain ⟨s,hs1,hs2⟩:=h.sa;have hvn:Z.at'<M.n:=by rw [h.n];exact hZ.at'
 have hsO:SbOk (M.nd Z.at').nw s:=((h.ok.nd _ hvn).1.sb (1,s) (by rw [hs1];exact Ξg.2 rfl)).1
 obtain ⟨ee,he⟩:∃ e,SbM Z.S (D.H Z.at') (D.f Z.at') e s:=by
  rcases hs2 with ⟨c,_⟩ | ⟨_,c⟩
  ·exact absurd c (hT _ hZ.at')
  ·exact c
 have hfm:D.f Z.at'<m:=h.hm _ hZ.at' _ (hff _ hZ.at')
 obtain ⟨f1,f2,f3⟩:=he.full hfm hsO.oi (fun i=>⟨fun hi=>by
  obtain ⟨t,_,hTr,_⟩:=h.tr _ hZ.at';exact ⟨(hTr.hb i hi).2.1,h.hm _ hZ.at' i hi⟩,fun hi=>hH _ hZ.at' i hi.1 hi.2⟩)
 refine ⟨h.ok,h.n,h.nw,h.fl,h.sbs,fun v hv=>⟨fun k hk t ht=>?_,fun x hx=>?_⟩,fun v hv x hx=>?_,⟨s,hs1,f3⟩,hfm,fun c=>?_⟩
 ·by_cases c:k=0
  ·subst c;exact hgm v hv t ht
  ·have:=h.no v hv k (by omega) hk
   rw [ht] at this;cases this
 ·by_cases c:v=Z.at'
  ·rw [c,hs1,Ξg] at hx;rw [hx];exact ⟨f2,by show -1<=s.ox;rw [he.ox];omega⟩
  ·rw [h.sb v hv c] at hx;cases hx
 ·by_cases c:v=Z.at'
  ·rw [c,hs1,Ξg] at hx;rw [hx];exact he.wants
  ·rw [h.sb v hv c] at hx;cases hx
 ·obtain ⟨t,_,hTr,_⟩:=h.tr _ hZ.at';have:=(hTr.hb 0 (by rw [c];exact (h.rH 0).2 hm)).2.1
  omega
theorem CSt.tick {m f:Nat} {tm now:Int} {M:Ms} (hC:CSt Z m f tm M) (hZ:Z.Ok) (h0:tm<=now) (h1:now<=1000000):CSt Z m f now (M.ticked now M.n):=by
 have hq:∀ v,v<Z.n->(M.nd v).tick now=stillN (M.nd v) now:=fun v hv=>ξ8y (hC.lk v hv) (hC.wn v hv)
 have hnd:∀ v,v<Z.n->(M.ticked now M.n).nd v={ stillN (M.nd v) now with lt:=[] }:=by
  intro v hv;show (if v<M.n then ({ (M.nd v).tick now with lt:=[] }:Nd) else M.nd v)=_
  rw [if_pos (by rw [hC.n];exact hv),hq v hv]
 refine ⟨hC.ok.ticked (by rw [hC.nw];exact h0) h1 _,hC.n,rfl,?_,hC.sbs,?_,?_,?_,hC.fm,hC.fr⟩
 ·show M.fl++_=[]
  rw [hC.fl,List.nil_append];have:∀ l:List Nat,(∀ v∈l,v<Z.n)->(l.flatMap fun v=>outs v ((M.nd v).tick now).lt)=[]:=by
   intro l
   induction l with
   | nil=>intro _;rfl
   | cons v l ih=>
     intro hl;have hv:=hl v (List.mem_cons_self ..)
     rw [List.flatMap_cons,ih (fun y hy=>hl y (List.mem_cons_of_mem _ hy)),hq v hv]
     have:(stillN (M.nd v) now).lt=[]:=(hC.ok.nd v (by rw [hC.n];exact hv)).2.1
     rw [this];rfl
  exact this _ (fun v hv=>by rw [<- hC.n];simpa using hv)
 ·intro v hv;refine ⟨fun k hk t ht=>?_,fun x hx=>?_⟩
  ·rw [hnd v hv] at ht;have ht':(if k<8 then ((M.nd v).tr k).map (stillT now) else (M.nd v).tr k)=some t:=ht
   rw [if_pos hk] at ht';cases hc:(M.nd v).tr k with
   | none=>rw [hc] at ht';cases ht'
   | some t0=>
     rw [hc] at ht';simp only [Option.map_some,Option.some.injEq] at ht'
     rw [<- ht'];unfold stillT;split
     ·exact (hC.lk v hv).gm k hk t0 hc
     ·rfl
  ·rw [hnd v hv] at hx;have hx':x∈(M.nd v).sb.map fun x=>(x.1,stillS now x.2):=hx
   obtain ⟨y,hy,rfl⟩:=Ξi.1 hx';exact (hC.lk v hv).om y hy
 ·intro v hv x hx;rw [hnd v hv] at hx;have hx':x∈(M.nd v).sb.map fun x=>(x.1,stillS now x.2):=hx
  obtain ⟨y,hy,rfl⟩:=Ξi.1 hx';exact hC.wn v hv y hy
 ·obtain ⟨s,hs1,hs2⟩:=hC.sa;refine ⟨stillS now s,?_,hs2⟩
  rw [hnd _ hZ.at'];show (M.nd Z.at').sb.map (fun x=>(x.1,stillS now x.2))=_
  rw [hs1];rfl
def KA (m:Nat):Nat->Nat->Prop:=fun v j=>j+1=m
def KB (m:Nat) (f:Nat->Nat):Nat->Nat->Prop:=fun v j=>f v<=j/\j<m
def ASt (Z:Zp) (m:Nat) (M:Ms):Prop:=∃ D X,WS Z true m 0 D X M/\0<m/\Cov (KA m) Z D X/\wts X<=2000
def BSt (Z:Zp) (m:Nat) (M:Ms):Prop:=∃ D X,WS Z false m 3 D X M/\0<m/\(∀ v,v<Z.n->D.T v≠-1)/\Cov (KB m D.f) Z D X/\wts X<=1000
def CalmM (Z:Zp) (m:Nat) (r c:Nat) (M:Ms):Prop:=c<=r/\((r=0/\ASt Z m M)∨(r=1/\BSt Z m M)∨(2<=r/\∃ f,CSt Z m f (3*(r:Int)) M))
theorem ξak {n:Nat} (hn:n<=16) (D:Da):pot n D<=20000:=by
 unfold pot;have h1:sumN (fun v=>cntF (D.H v)) n<=n*60:=ξ4Q n (fun q hq=>by
  show sumN (fun i=>if D.H q i then 0 else 1) 60<=60
  have:=ξ4Q (f:=fun i=>if D.H q i then 0 else 1) (b:=1) 60 (fun i hi=>by show (if D.H q i then 0 else 1)<=1;split<;>omega)
  omega)
 have:n*60<=16*60:=Nat.mul_le_mul_right _ hn
 omega
theorem WS.x0 (h:WS Z ph m tm D X M) (hf:M.fl=[]):X=[]:=by
 rw [h.fl] at hf;exact List.map_eq_nil_iff.1 hf
theorem ξcu (hZ:Z.Ok) (m:Nat):Round (CalmM Z m):=by
 have hn16:=hZ.tr.fit.hi
 constructor
 rintro r c M ⟨hcr,hJ⟩ hr hc;rcases hJ with ⟨rfl,D,X,h,hm,hC,hw⟩ | ⟨rfl,D,X,h,hm,hT,hC,hw⟩ | ⟨hr2,f,h⟩
 ·have hp:=ξak (n:=Z.n) (by omega) D
  refine ⟨FIs Z true m 0 (KA m) (fun _=>True),wts X+pot Z.n D,ξ6H hZ _ _ (fun _ _ _ _ _ _=>trivial),⟨D,X,h,fun v hv j hj=>⟨by unfold KA at hj;omega,.inl hj⟩,hC,trivial,rfl,by omega⟩,?_⟩
  rintro g' M' ⟨D',X',h',hK',hC',_,_,_⟩ hfl;obtain rfl:=h'.x0 hfl;have hH:∀ v,v<Z.n->D'.H v (m - 1)=true:=fun v hv=>ξ8q hZ h' hK' hC' (fun v hv u hu j hj=>hj) (dp Z.p Z.n v) v hv (Ξo _) (m - 1) (by unfold KA;omega)
  have hT':∀ v,v<Z.n->D'.T v=65535+(m:Int):=by
   intro v hv;obtain ⟨t,_,hTr,_⟩:=h'.tr v hv;have h1:=(hTr.hb _ (hH v hv)).2.2
   rcases hTr.tt with ⟨c1,c2⟩ | ⟨j,c1,c2,_⟩
   ·have:=hH v hv
    rw [c2] at this;cases this
   ·have:=h'.hm v hv j c2
    omega
  obtain ⟨g1,X2,g2,g3,g4⟩:=h'.tick hZ (now:=3) (by omega) (by omega) hm hT'
  have hnw:=h'.nw
  rw [hnw,show (0:Int)+3=3 by omega]
  refine ⟨by omega,g1,by split<;>omega,.inr (.inl ⟨rfl,D',X2,g2,hm,fun v hv=>by rw [hT' v hv];omega,?_,g3⟩)⟩
  intro v hv u hu j hj;rcases g4 v hv u hu j hj.1 hj.2 with q | q
  ·exact .inl q
  ·exact .inr (.inr (.inl q))
 ·have hp:=ξak (n:=Z.n) (by omega) D
  refine ⟨FIs Z false m 3 (KB m D.f) (fun D'=>∀ v,v<Z.n->D'.T v≠-1/\D'.f v=D.f v),wts X+pot Z.n D,ξ6H hZ _ _ ?_,⟨D,X,h,fun v hv j hj=>⟨hj.2,.inr ⟨hT v hv,hj.1⟩⟩,hC,fun v hv=>⟨hT v hv,rfl⟩,rfl,by omega⟩,?_⟩
  ·intro D1 D2 v i hR hU v' hv';obtain ⟨q1,q2⟩:=hR v' hv';by_cases e:v'=v
   ·rw [e] at q1 q2 ⊢;exact ⟨hU.T1,(hU.f1 q1).trans q2⟩
   ·rw [hU.T v' e,hU.f v' e];exact ⟨q1,q2⟩
  rintro g' M' ⟨D',X',h',hK',hC',hR',_,_⟩ hfl;obtain rfl:=h'.x0 hfl;have hff:∀ v,v<Z.n->D'.H v (D'.f v)=true:=by
   intro v hv;obtain ⟨t,_,hTr,_⟩:=h'.tr v hv;rcases hTr.tt with ⟨c1,_⟩ | ⟨_,_,_,c1⟩
   ·exact absurd c1 (hR' v hv).1
   ·exact c1
  have hKc:∀ v,v<Z.n->∀ u:Nat,TM.dg Z.p v=(u:Int)->∀ j,KB m D.f v j->KB m D.f u j:=by
   intro v hv u hu j hj;obtain ⟨_,_,hun,_,_⟩:=hZ.tr.down hv hu;have h1:=h'.sub v hv u hu _ (hff v hv)
   obtain ⟨t,_,hTr,_⟩:=h'.tr u hun;have h2:=(hTr.hb _ h1).2.1
   rw [(hR' v hv).2,(hR' u hun).2] at h2;exact ⟨Nat.le_trans h2 hj.1,hj.2⟩
  have hH:∀ v,v<Z.n->∀ j,D'.f v<=j->j<m->D'.H v j=true:=by
   intro v hv j h1 h2;rw [(hR' v hv).2] at h1;exact ξ8q hZ h' hK' hC' hKc (dp Z.p Z.n v) v hv (Ξo _) j ⟨h1,h2⟩
  have hD:=h'.done hZ (fun v hv=>(hR' v hv).1) hm hH
  have hnw:=h'.nw
  rw [hnw];refine ⟨by omega,fun i hi=>ξ3h (hD.lk i (by rw [<- hD.n];exact hi)),by split<;>omega,.inr (.inr ⟨by omega,D'.f Z.at',hD.tick hZ (by omega) (by omega)⟩)⟩
 ·refine ⟨fun g M'=>CSt Z m f (3*(r:Int)) M',0,⟨fun g M' hM'=>⟨hM'.ok,by rw [hM'.fl];simp⟩,fun g M' f' F hM' hfl=>by rw [hM'.fl] at hfl;cases hfl⟩,h,?_⟩
  intro g' M' hM' _;have hnw:=hM'.nw
  rw [hnw];have e:3*(r:Int)+3=3*((r+1:Nat):Int):=by omega
  refine ⟨by omega,fun i hi=>ξ3h (hM'.lk i (by rw [<- hM'.n];exact hi)),by split<;>omega,.inr (.inr ⟨by omega,f,?_⟩)⟩
  rw [e];exact hM'.tick hZ (by omega) (by omega)
theorem ξdY (hZ:Z.Ok) {m:Nat} {b:Nat} {o:Nat->Tg} {P:MP} {M:Ms} {w:World} (h:MAt w o b P M) (hA:ASt Z m M) :
 Calls Tryz.prog 13 #[.pointer (some ⟨b,0,none⟩)] w fun e w'=>∃ r:Int,e=.returned (.int .i64 r)/\∃ f tm M',CSt Z m f tm M'/\MDone w w' o b M':=by
 refine (ξ9E _ (ξcu hZ m) b o P M w h ⟨Ξo _,.inl ⟨rfl,hA⟩⟩).mono ?_
 rintro e w' ⟨r,c,M',rfl,hr,hrc,⟨hcr,hJ⟩,hD⟩;rcases hJ with ⟨e,_⟩ | ⟨e,_⟩ | ⟨_,f,hC⟩
 ·omega
 ·omega
 ·exact ⟨_,rfl,f,_,M',hC,hD⟩
end
end Go.Proofs.YtpiamlgmadnepaaGreat.MS
