/-
 Frames as numbers and bytes: which are right, their bytes, what bytes are read as, which are passed on, and that a changed byte is seen. Of numbers and lists alone; no program.
-/
import Derived.Test.YtpiamlgmadnepaaGreatMathAll
import Derived.Test.YtpiamlgmadnepaaGreatCrcMathP
set_option linter.unusedVariables false
namespace Go.Proofs.YtpiamlgmadnepaaGreat.FM
open PM CM
abbrev nums (tr og ep hp:Int):Prop:=1<=tr/\tr<=8/\0<=og/\og<=15/\0<=ep/\ep<=65535/\0<=hp/\hp<=64
def ffault (tr og ep hp:Int) (B:List Nat):Nat:=if nums tr og ep hp then rfault B else 1
theorem ξ2P {B:List Nat} (h:rfault B=0):8<=B.length/\B.length<=1008:=by
 unfold rfault at h;split at h
 ·omega
 ·split at h
  ·split at h
   ·omega
   ·omega
  ·omega
theorem ξ1R {tr og ep hp:Int} {B:List Nat} (h:ffault tr og ep hp B=0) :
 ∃ t o e p:Nat,tr=t/\og=o/\ep=e/\hp=p/\1<=t/\t<=8/\o<=15/\e<=65535/\p<=64/\rfault B=0:=by
 unfold ffault at h;by_cases c:nums tr og ep hp
 ·rw [if_pos c] at h;obtain ⟨h1,h2,h3,h4,h5,h6,h7,h8⟩:=c;exact ⟨tr.toNat,og.toNat,ep.toNat,hp.toNat,by omega,by omega,by omega,by omega,by omega,by omega,by omega,by omega,by omega,h⟩
 ·rw [if_neg c] at h;omega
theorem ξ3U {t o e p:Nat} {B:List Nat} (h1:1<=t) (h2:t<=8) (h3:o<=15) (h4:e<=65535) (h5:p<=64):ffault t o e p B=rfault B:=by
 unfold ffault;rw [if_pos (by unfold nums;omega)]
def fhead (t o e p:Nat):List Nat:=[70,t,o,p,e / 256,e%256]
theorem ξ6Z {t o e p:Nat} (h2:t<=8) (h3:o<=15) (h4:e<=65535) (h5:p<=64):∀ c∈fhead t o e p,c<256:=by
 intro c hc;simp only [fhead,Ξf,List.not_mem_nil,or_false] at hc
 omega
def sealed (X:List Nat):List Nat:=X++be4 (go 0 X)
theorem ξ4k (X:List Nat):(sealed X).length=X.length+4:=by simp [sealed,be4]
theorem ξa4 {X:List Nat} (h:∀ c∈X,c<256):∀ c∈sealed X,c<256:=by
 intro c hc;rcases Ξe.1 hc with hc | hc
 ·exact h c hc
 ·exact ξbw _ c hc
def fbytes (t o e p:Nat) (B:List Nat):List Nat:=sealed (fhead t o e p++B)
theorem ξ4C (t o e p:Nat) (B:List Nat):(fbytes t o e p B).length=10+B.length:=by
 unfold fbytes;rw [ξ4k];simp [fhead]
 omega
theorem ξ45 {t o e p:Nat} {B:List Nat} (h2:t<=8) (h3:o<=15) (h4:e<=65535) (h5:p<=64) (hB:∀ c∈B,c<256):∀ c∈fhead t o e p++B,c<256:=by
 intro c hc;rcases Ξe.1 hc with hc | hc
 ·exact ξ6Z h2 h3 h4 h5 c hc
 ·exact hB c hc
def ofault (B:List Nat):Nat:=if B.length<4 then 8 else if num 0 (B.drop (B.length - 4))=go 0 (B.take (B.length - 4)) then 0 else 9
def opened (B:List Nat):List Nat:=B.take (B.length - 4)
theorem ξaB {X:List Nat} (h:∀ c∈X,c<256):ofault (sealed X)=0/\opened (sealed X)=X:=by
 have hl:=ξ4k X
 have e:(sealed X).length - 4=X.length:=by omega
 unfold ofault opened;rw [e,if_neg (by omega)]
 unfold sealed;rw [List.drop_left,List.take_left,ξdT _ (ξdq (by decide) h),if_pos rfl]
 exact ⟨rfl,rfl⟩
theorem split4 {B:List Nat} (h:4<=B.length):∃ X t0 t1 t2 t3,B=X++[t0,t1,t2,t3]/\X=opened B:=by
 have h4:(B.drop (B.length - 4)).length=4:=by simp;omega
 obtain ⟨t0,t1,t2,t3,ht⟩:∃ t0 t1 t2 t3,B.drop (B.length - 4)=[t0,t1,t2,t3]:=by
  match B.drop (B.length - 4),h4 with
  | [a,b,c,d],_=>exact ⟨a,b,c,d,rfl⟩
 exact ⟨opened B,t0,t1,t2,t3,by rw [<- ht];unfold opened;rw [List.take_append_drop],rfl⟩
theorem ξ6C (X:List Nat) (t0 t1 t2 t3:Nat):ofault (X++[t0,t1,t2,t3])=(if num 0 [t0,t1,t2,t3]=go 0 X then 0 else 9)/\opened (X++[t0,t1,t2,t3])=X:=by
 have e:(X++[t0,t1,t2,t3]).length - 4=X.length:=by simp
 unfold ofault opened;rw [e,if_neg (by simp),List.drop_left,List.take_left]
 exact ⟨rfl,rfl⟩
structure Fr where
 tr:Nat
 og:Nat
 ep:Nat
 hp:Nat
 body:List Nat
def xfault (X:List Nat):Nat:=
 if X.length<6 then 8 else if X.getD 0 0=70 then ffault ((X.getD 1 0:Nat):Int) ((X.getD 2 0:Nat):Int) ((X.getD 4 0*256+X.getD 5 0:Nat):Int) ((X.getD 3 0:Nat):Int) (X.drop 6) else 2
def xfr (X:List Nat):Fr:=if xfault X=0 then ⟨X.getD 1 0,X.getD 2 0,X.getD 4 0*256+X.getD 5 0,X.getD 3 0,X.drop 6⟩ else ⟨0,0,0,0,[]⟩
def bfault (B:List Nat):Nat:=if ofault B=0 then xfault (opened B) else ofault B
def bfr (B:List Nat):Fr:=if ofault B=0 then xfr (opened B) else ⟨0,0,0,0,[]⟩
theorem six {X:List Nat} (h:6<=X.length):∃ x0 x1 x2 x3 x4 x5 R,X=x0::x1::x2::x3::x4::x5::R:=by
 match X,h with
 | x0::x1::x2::x3::x4::x5::R,_=>exact ⟨x0,x1,x2,x3,x4,x5,R,rfl⟩
theorem ξ4d (x0 x1 x2 x3 x4 x5:Nat) (R:List Nat) :
 xfault (x0::x1::x2::x3::x4::x5::R)=if x0=70 then ffault (x1:Int) (x2:Int) ((x4*256+x5:Nat):Int) (x3:Int) R else 2:=by
 unfold xfault;rw [if_neg (by simp)]
 rfl
theorem ξ7J (x0 x1 x2 x3 x4 x5:Nat) (R:List Nat) (h:xfault (x0::x1::x2::x3::x4::x5::R)=0) :
 xfr (x0::x1::x2::x3::x4::x5::R)=⟨x1,x2,x4*256+x5,x3,R⟩:=by
 unfold xfr;rw [if_pos h];rfl
theorem ξds {X:List Nat} (h:xfault X≠0):xfr X=⟨0,0,0,0,[]⟩:=by unfold xfr;rw [if_neg h]
theorem ξeu {B:List Nat} (h:bfault B≠0):bfr B=⟨0,0,0,0,[]⟩:=by
 unfold bfault at h;unfold bfr;by_cases c:ofault B=0
 ·rw [if_pos c] at h ⊢;exact ξds h
 ·rw [if_neg c]
theorem ξad {t o e p:Nat} {B:List Nat} (h1:1<=t) (h2:t<=8) (h3:o<=15) (h4:e<=65535) (h5:p<=64) (h6:rfault B=0) (hB:∀ c∈B,c<256) :
 bfault (fbytes t o e p B)=0/\bfr (fbytes t o e p B)=⟨t,o,e,p,B⟩:=by
 obtain ⟨o1,o2⟩:=ξaB (ξ45 h2 h3 h4 h5 hB);have hx:xfault (fhead t o e p++B)=0:=by
  show xfault (70::t::o::p::e / 256::e%256::B)=0
  rw [ξ4d,if_pos rfl,show e / 256*256+e%256=e by omega,ξ3U h1 h2 h3 h4 h5,h6]
 unfold bfault bfr fbytes;rw [if_pos o1,if_pos o1,o2];refine ⟨hx,?_⟩
 have:=ξ7J 70 t o p (e / 256) (e%256) B hx
 rw [show e / 256*256+e%256=e by omega] at this
 exact this
end Go.Proofs.YtpiamlgmadnepaaGreat.FM
