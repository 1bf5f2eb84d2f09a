/-
 What the proof needs.
-/
import Derived.Test.YtpiamlgmadnepaaGreatMathAll
import Derived.Test.YtpiamlgmadnepaaGreatCrcMathP
set_option linter.unusedVariables false
namespace Go.Proofs.YtpiamlgmadnepaaGreat.FM
open PM CM
variable {B X:List Nat}{t o e p:Nat}
abbrev nums (tr og ep hp:Int):Prop:=1<=tr/\tr<=8/\0<=og/\og<=15/\0<=ep/\ep<=65535/\0<=hp/\hp<=64
def A0k(tr og ep hp:Int)(B:List Nat):Nat:=if nums tr og ep hp then A0y B else 1
theorem ξ2X(h:A0y B=0):8<=B.length/\B.length<=1008:=by
 unfold A0y at h;split at h
 ·omega
 ·split at h
  ·split at h
   ·omega
   ·omega
  ·omega
theorem ξ1V{tr og ep hp:Int}(h:A0k tr og ep hp B=0) :
 ∃t o e p:Nat,tr=t/\og=o/\ep=e/\hp=p/\1<=t/\t<=8/\o<=15/\e<=65535/\p<=64/\A0y B=0:=by
 unfold A0k at h;by_cases c:nums tr og ep hp
 ·rw[if_pos c]at h;obtain⟨h1,h2,h3,h4,h5,h6,h7,h8⟩:=c;exact⟨tr.toNat,og.toNat,ep.toNat,hp.toNat,by omega,by omega,by omega,by omega,by omega,by omega,by omega,by omega,by omega,h⟩
 ·rw[if_neg c]at h;omega
theorem ξ41(h1:1<=t)(h2:t<=8)(h3:o<=15)(h4:e<=65535)(h5:p<=64):A0k t o e p B=A0y B:=by
 unfold A0k;rw[if_pos (by unfold nums;omega)]
def A3w(t o e p:Nat):List Nat:=[70,t,o,p,e/256,e%256]
theorem ξ7m(h2:t<=8)(h3:o<=15)(h4:e<=65535)(h5:p<=64):∀c∈A3w t o e p,c<256:=by
 intro c hc;simp only[A3w,Ξf,List.not_mem_nil,or_false]at hc;omega
def A34(X:List Nat):List Nat:=X++be4 (go 0 X)
theorem ξ4w(X:List Nat):(A34 X).length=X.length+4:=by simp[A34,be4]
theorem ξaM(h:∀c∈X,c<256):∀c∈A34 X,c<256:=by
 intro c hc;rcases Ξe.1 hc with hc|hc
 ·exact h c hc
 ·exact ξc8 _ c hc
def A3m(t o e p:Nat)(B:List Nat):List Nat:=A34 (A3w t o e p++B)
theorem ξ4P(t o e p:Nat)(B:List Nat):(A3m t o e p B).length=10+B.length:=by
 unfold A3m;rw[ξ4w];simp[A3w];omega
theorem ξ4f(h2:t<=8)(h3:o<=15)(h4:e<=65535)(h5:p<=64)(hB:∀c∈B,c<256):∀c∈A3w t o e p++B,c<256:=by
 intro c hc;rcases Ξe.1 hc with hc|hc
 ·exact ξ7m h2 h3 h4 h5 c hc
 ·exact hB c hc
def A1i(B:List Nat):Nat:=if B.length<4 then 8 else if num 0 (B.drop (B.length-4))=go 0 (B.take (B.length-4))then 0 else 9
def opened(B:List Nat):List Nat:=B.take (B.length-4)
theorem ξbi(h:∀c∈X,c<256):A1i (A34 X)=0/\opened (A34 X)=X:=by
 have hl:=ξ4w X;have e:(A34 X).length-4=X.length:=by omega
 unfold A1i opened;rw[e,if_neg (by omega)];unfold A34;rw[List.drop_left,List.take_left,ξeQ _ (ξef (by decide) h),if_pos rfl];exact⟨rfl,rfl⟩
theorem split4(h:4<=B.length):∃X t0 t1 t2 t3,B=X++[t0,t1,t2,t3]/\X=opened B:=by
 have h4:(B.drop (B.length-4)).length=4:=by simp;omega
 obtain⟨t0,t1,t2,t3,ht⟩:∃t0 t1 t2 t3,B.drop (B.length-4)=[t0,t1,t2,t3]:=by
  match B.drop (B.length-4),h4 with
  | [a,b,c,d],_=>exact⟨a,b,c,d,rfl⟩
 exact⟨opened B,t0,t1,t2,t3,by rw[<-ht];unfold opened;rw[List.take_append_drop],rfl⟩
theorem ξ6X(X:List Nat)(t0 t1 t2 t3:Nat):A1i (X++[t0,t1,t2,t3])=(if num 0 [t0,t1,t2,t3]=go 0 X then 0 else 9)/\opened (X++[t0,t1,t2,t3])=X:=by
 have e:(X++[t0,t1,t2,t3]).length-4=X.length:=by simp
 unfold A1i opened;rw[e,if_neg (by simp),List.drop_left,List.take_left];exact⟨rfl,rfl⟩
structure Fr where
 tr:Nat
 og:Nat
 ep:Nat
 hp:Nat
 body:List Nat
def A29(X:List Nat):Nat:=
 if X.length<6 then 8 else if X.getD 0 0=70 then A0k ((X.getD 1 0:Nat):Int) ((X.getD 2 0:Nat):Int) ((X.getD 4 0*256+X.getD 5 0:Nat):Int) ((X.getD 3 0:Nat):Int) (X.drop 6)else 2
def xfr(X:List Nat):Fr:=if A29 X=0 then⟨X.getD 1 0,X.getD 2 0,X.getD 4 0*256+X.getD 5 0,X.getD 3 0,X.drop 6⟩else⟨0,0,0,0,[]⟩
def A2w(B:List Nat):Nat:=if A1i B=0 then A29 (opened B)else A1i B
def bfr(B:List Nat):Fr:=if A1i B=0 then xfr (opened B)else⟨0,0,0,0,[]⟩
theorem six(h:6<=X.length):∃x0 x1 x2 x3 x4 x5 R,X=x0::x1::x2::x3::x4::x5::R:=by
 match X,h with
 | x0::x1::x2::x3::x4::x5::R,_=>exact⟨x0,x1,x2,x3,x4,x5,R,rfl⟩
theorem ξ4m(x0 x1 x2 x3 x4 x5:Nat)(R:List Nat) :
 A29 (x0::x1::x2::x3::x4::x5::R)=if x0=70 then A0k (x1:Int) (x2:Int) ((x4*256+x5:Nat):Int) (x3:Int) R else 2:=by
 unfold A29;rw[if_neg (by simp)];rfl
theorem ξ89(x0 x1 x2 x3 x4 x5:Nat)(R:List Nat)(h:A29 (x0::x1::x2::x3::x4::x5::R)=0) :
 xfr (x0::x1::x2::x3::x4::x5::R)=⟨x1,x2,x4*256+x5,x3,R⟩:=by
 unfold xfr;rw[if_pos h];rfl
theorem ξei(h:A29 X≠0):xfr X=⟨0,0,0,0,[]⟩:=by unfold xfr;rw[if_neg h]
theorem ξfw(h:A2w B≠0):bfr B=⟨0,0,0,0,[]⟩:=by
 unfold A2w at h;unfold bfr;by_cases c:A1i B=0
 ·rw[if_pos c]at h ⊢;exact ξei h
 ·rw[if_neg c]
theorem ξaY(h1:1<=t)(h2:t<=8)(h3:o<=15)(h4:e<=65535)(h5:p<=64)(h6:A0y B=0)(hB:∀c∈B,c<256) :
 A2w (A3m t o e p B)=0/\bfr (A3m t o e p B)=⟨t,o,e,p,B⟩:=by
 obtain⟨o1,o2⟩:=ξbi (ξ4f h2 h3 h4 h5 hB);have hx:A29 (A3w t o e p++B)=0:=by
  show A29 (70::t::o::p::e/256::e%256::B)=0;rw[ξ4m,if_pos rfl,show e/256*256+e%256=e by omega,ξ41 h1 h2 h3 h4 h5,h6]
 unfold A2w bfr A3m;rw[if_pos o1,if_pos o1,o2];refine⟨hx,?_⟩;have:=ξ89 70 t o p (e/256) (e%256) B hx;rw[show e/256*256+e%256=e by omega]at this;exact this
end Go.Proofs.YtpiamlgmadnepaaGreat.FM
