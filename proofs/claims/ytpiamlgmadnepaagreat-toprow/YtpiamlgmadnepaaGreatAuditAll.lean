/-
 AuditMath, AuditA, AuditI, AuditB, AuditC, AuditR in one text.
-/
import Derived.Test.YtpiamlgmadnepaaGreatMathAll
import Derived.WalkKit
import Derived.Test.YtpiamlgmadnepaaGreatPackCP
import Derived.Deep.CutRange
import Derived.Deep.LoopGhost
import Derived.Outline
import Derived.RegionTactic
import Derived.Laws.BitsLemmas
import Derived.Deep.AppendLies
set_option linter.unusedVariables false
set_option maxHeartbeats 4000000
set_option maxRecDepth 100000
namespace Go.Proofs.YtpiamlgmadnepaaGreat.AU
open PM
structure Pk where
 s:Int
 t:Int
 l:Int
 q:Int
 st:Bool
 a:Option Addr
 m:Nat
 c:Nat
 L:List Nat
def noPk:Pk:=⟨0,0,0,0,false,none,0,0,[]⟩
def like (p o:Pk):Bool:=decide (p.l=o.l)&&(decide (p.q=o.q)&&(decide (p.st=o.st)&&decide (p.L=o.L)))
theorem ξbF {p o:Pk}:like p o=true↔p.l=o.l/\p.q=o.q/\p.st=o.st/\p.L=o.L:=by simp [like]
def fi (f:Pk->Bool):List Pk->Nat
 | []=>0
 | x::r=>if f x then 0 else fi f r+1
theorem ξew (f:Pk->Bool) (L:List Pk):fi f L<=L.length:=by
 induction L with
 | nil=>simp [fi]
 | cons x r ih=>unfold fi;split<;>simp<;>omega
theorem ξex {f:Pk->Bool} {L:List Pk} {j:Nat} (hj:j<L.length) (h:f (L.getD j noPk)=true):fi f L<=j:=by
 induction L generalizing j with
 | nil=>simp at hj
 | cons x r ih=>
   unfold fi;split
   ·omega
   ·rename_i hx
    cases j with
    | zero=>exact absurd (by simpa using h) hx
    | succ j=>
      have:=ih (j:=j) (by simpa using hj) (by simpa using h)
      omega
theorem ξ25 {α:Type} {L:List α} {d:α} {j:Nat} (hj:j<L.length):L.drop j=L.getD j d::L.drop (j+1):=by
 rw [List.drop_eq_getElem_cons hj,List.getD_eq_getElem?_getD,List.getElem?_eq_getElem hj];rfl
theorem ξ5i (L:List Pk) (k j:Nat):(L.drop k).getD j noPk=L.getD (k+j) noPk:=by
 simp only [List.getD_eq_getElem?_getD,List.getElem?_drop]
def nxt (S G:List Pk):Nat->Nat
 | 0=>0
 | i+1=>nxt S G i+fi (like (G.getD i noPk)) (S.drop (nxt S G i))+1
theorem ξ2B (S G:List Pk) (i:Nat):nxt S G (i+1)=nxt S G i+fi (like (G.getD i noPk)) (S.drop (nxt S G i))+1:=rfl
theorem ξ9Y (S G:List Pk) (i:Nat):nxt S G i<nxt S G (i+1):=by rw [ξ2B];omega
theorem ξbu (S G:List Pk) {i j:Nat} (h:i<=j):nxt S G i<=nxt S G j:=by
 induction h with
 | refl=>exact Nat.le_refl _
 | step h ih=>have:=ξ9Y S G (by assumption:Nat);exact Nat.le_trans ih (Nat.le_of_lt (ξ9Y S G _))
structure Stop (S G:List Pk) (K:Nat):Prop where
 hk:K<=G.length
 hn:nxt S G K<=S.length
 he:K<G.length->S.length<nxt S G (K+1)
theorem Stop.lt {S G:List Pk} {K i:Nat} (h:Stop S G K) (hi:i<K):nxt S G (i+1)<=S.length:=Nat.le_trans (ξbu S G hi) h.hn
theorem ξe2 {S G:List Pk} {c:Nat->Nat} (hc:∀ i,i<G.length->c i<S.length/\like (G.getD i noPk) (S.getD (c i) noPk)=true) (hm:∀ i,i+1<G.length->c i<c (i+1)) :
 ∀ i,i<G.length->nxt S G (i+1)<=c i+1:=by
 have key:∀ i,i<G.length->nxt S G i<=c i->nxt S G (i+1)<=c i+1:=by
  intro i hi hn;rw [ξ2B];have h2:=ξex (f:=like (G.getD i noPk)) (L:=S.drop (nxt S G i)) (j:=c i - nxt S G i) (by rw [List.length_drop];have:=(hc i hi).1;omega) (by rw [ξ5i,show nxt S G i+(c i - nxt S G i)=c i by omega];exact (hc i hi).2)
  omega
 intro i
 induction i with
 | zero=>intro hi;exact key 0 hi (by simp [nxt])
 | succ i ih=>
   intro hi;have h1:=ih (by omega)
   have h2:=hm i hi
   exact key (i+1) hi (by omega)
theorem ξcH {S G:List Pk} {c:Nat->Nat} (hc:∀ i,i<G.length->c i<S.length/\like (G.getD i noPk) (S.getD (c i) noPk)=true) (hm:∀ i,i+1<G.length->c i<c (i+1)) :
 Stop S G G.length:=by
 refine ⟨Nat.le_refl _,?_,fun h=>absurd h (by omega)⟩
 cases h:G.length with
 | zero=>simp [nxt]
 | succ n=>
   have h1:=ξe2 hc hm n (by omega)
   have h2:=(hc n (by omega)).1
   omega
def pl (S G:List Pk) (i:Nat):Nat:=nxt S G (i+1) - 1
theorem ξen (S G:List Pk) (i:Nat):pl S G i=nxt S G i+fi (like (G.getD i noPk)) (S.drop (nxt S G i)):=by unfold pl;rw [ξ2B];omega
def pls (S G:List Pk) (k:Nat):List Int:=(List.range k).map fun i=>(pl S G i:Int)
theorem ξbo (S G:List Pk) (k:Nat):pls S G (k+1)=pls S G k++[(pl S G k:Int)]:=by simp [pls,List.range_succ]
theorem ξ7u (S G:List Pk) (k:Nat):(pls S G k).length=k:=by simp [pls]
def hl (S G:List Pk) (i:Nat):Int:=(pl S G (i+1):Int) - (pl S G i:Int) - 1
def hls (S G:List Pk) (k:Nat):List Int:=(List.range k).map fun i=>hl S G i
def cfault (S G:List Pk) (K:Nat):Nat:=if 1000<S.length∨1000<G.length then 4 else if K<G.length then 5 else 0
theorem ξ3A {S G:List Pk} {K:Nat} (h:1000<S.length∨1000<G.length):cfault S G K=4:=by unfold cfault;rw [if_pos h]
theorem ξ7d {S G:List Pk} {K:Nat} (h:¬ (1000<S.length∨1000<G.length)) (hk:K<G.length):cfault S G K=5:=by unfold cfault;rw [if_neg h,if_pos hk]
theorem ξ5m {S G:List Pk} {K:Nat} (h:¬ (1000<S.length∨1000<G.length)) (hk:¬ K<G.length):cfault S G K=0:=by unfold cfault;rw [if_neg h,if_neg hk]
def cat (S G:List Pk) (K:Nat):Nat:=if cfault S G K=5 then K else 0
def pf (p:Pk):Nat:=fault p.s p.t p.l p.q p.m
def rfa (X:List Pk) (i:Nat):Nat:=if pf (X.getD i noPk)≠0 then pf (X.getD i noPk) else if 0<i/\(X.getD i noPk).s≠((X.getD (i - 1) noPk).s+1)%65536 then 3 else 0
structure RStop (X:List Pk) (K:Nat):Prop where
 hk:K<=X.length
 hn:∀ i,i<K->rfa X i=0
 he:K<X.length->rfa X K≠0
theorem ξ9v {X:List Pk} (h:∀ i,i<X.length->rfa X i=0):RStop X X.length:=⟨Nat.le_refl _,h,fun h=>by omega⟩
def rowf (X:List Pk) (K:Nat):Nat:=if 1000<X.length then 4 else if K<X.length then rfa X K else 0
def rat (X:List Pk) (K:Nat):Nat:=if 1000<X.length then 0 else if K<X.length then K else 0
theorem ξdV {X:List Pk} {i:Nat} (h:rfa X i=0):pf (X.getD i noPk)=0:=by
 unfold rfa at h;split at h
 ·exact h
 ·rename_i h';simpa using h'
end Go.Proofs.YtpiamlgmadnepaaGreat.AU
namespace Go.Proofs.YtpiamlgmadnepaaGreat.Audit
open Go.ChangeShapes Go.WideShapes Go.ChangeAt Go.RowKit PM Mem Pack AU
theorem ξcG {L K:List Nat} (hL:∀ c∈L,c<256) (hK:∀ c∈K,c<256) (h:str L=str K):L=K:=by
 have e:(L.map fun c=>UInt8.ofNat c)=K.map fun c=>UInt8.ofNat c:=by
  have:=congrArg (fun b:ByteArray=>b.data.toList) h
  simpa [str,strOfNums,Function.comp_def] using this
 have back:∀ M:List Nat,(∀ c∈M,c<256)->(M.map fun c=>UInt8.ofNat c).map UInt8.toNat=M:=by
  intro M hM
  induction M with
  | nil=>rfl
  | cons c M ih=>
    have hc:=hM c (by simp)
    simp only [List.map_cons,List.cons.injEq]
    exact ⟨by simp;omega,ih fun x hx=>hM x (by simp [hx])⟩
 rw [<- back L hL,e,back K hK]
theorem str_eq {L K:List Nat} (hL:∀ c∈L,c<256) (hK:∀ c∈K,c<256):((str L).toList==(str K).toList)=decide (L=K):=by
 by_cases h:L=K
 ·rw [h];simp
 ·rw [decide_eq_false h];have:(str L).toList≠(str K).toList:=fun h'=>h (ξcG hL hK (by
   rw [ByteArray.toList_eq,ByteArray.toList_eq] at h';exact ByteArray.ext (Array.toList_inj.1 h')))
  simpa using this
theorem ξ9l {w:World} {a:Option Addr} {n cap:Nat} {L:List Nat} (h:Arg w a n L):(convert 36 9 (.slice a n cap)).run Tryz.prog w=.ok (.string (str L)) w:=by
 cases L with
 | cons c L=>
   obtain ⟨b,o,e,_⟩:=h.1.2 0 (by simp)
   exact ξ2I Tryz.underlying36 Tryz.underlying5 Tryz.underlying9 h (fun ad h=>by rw [e] at h;exact ⟨b,o,(Option.some.inj h).symm⟩)
 | nil=>
   have hn:n=0:=by have:=h.2.1;simpa using this.symm
   subst hn;cases a with
   | none=>exact ξ2I Tryz.underlying36 Tryz.underlying5 Tryz.underlying9 h (fun ad h=>by simp at h)
   | some ad=>
     rw [run_convert_bytes_string w 36 9 5 _ 0 cap Tryz.underlying36 Tryz.underlying5 Tryz.underlying9];have hl:(loadCells ad 0).run Tryz.prog w=.ok #[] w:=run_loadCells_list (P:=Tryz.prog) w ad [] (fun j v hj=>by simp at hj)
     simp [Conv.bytesToString,str,strOfNums,hl]
     rfl
def pv (p:Pk):Value:=.agg #[.int .i64 p.s,.int .i64 p.t,.int .i64 p.l,.int .i64 p.q,.bool p.st,.slice p.a p.m p.c]
def PkAt (w:World) (b o:Nat) (p:Pk):Prop:=
 w.cell? ⟨b,o,none⟩=some (.int .i64 p.s)/\w.cell? ⟨b,o+1,none⟩=some (.int .i64 p.t)/\w.cell? ⟨b,o+2,none⟩=some (.int .i64 p.l)/\w.cell? ⟨b,o+3,none⟩=some (.int .i64 p.q)/\w.cell? ⟨b,o+4,none⟩=some (.bool p.st)/\w.cell? ⟨b,o+5,none⟩=some (.slice p.a p.m p.c)
def PkOk (w:World) (p:Pk):Prop:=Arg w p.a p.m p.L
theorem PkAt.below {w w':World} {b o:Nat} {p:Pk} (h:PkAt w b o p) (hb:Below w.heap.size w w'):PkAt w' b o p:=by
 obtain ⟨h0,h1,h2,h3,h4,h5⟩:=h;have k:∀ j v,w.cell? ⟨b,j,none⟩=some v->w'.cell? ⟨b,j,none⟩=some v:=fun j v hc=>(hb.cell (p:=⟨b,j,none⟩) (World.block_lt_of_cell? w _ hc)).trans hc
 exact ⟨k _ _ h0,k _ _ h1,k _ _ h2,k _ _ h3,k _ _ h4,k _ _ h5⟩
def PArg (w:World) (a:Option Addr) (n:Nat) (X:List Pk):Prop:=
 X.length=n/\n<=9223372036854775807/\∀ j,j<n->∃ b o,a=some ⟨b,o,none⟩/\PkAt w b (o+j*6) (X.getD j noPk)/\PkOk w (X.getD j noPk)
theorem PArg.below {w w':World} {a:Option Addr} {n:Nat} {X:List Pk} (h:PArg w a n X) (hb:Below w.heap.size w w'):PArg w' a n X:=by
 refine ⟨h.1,h.2.1,fun j hj=>?_⟩
 obtain ⟨b,o,e,h1,h2⟩:=h.2.2 j hj;exact ⟨b,o,e,h1.below hb,h2.below hb⟩
theorem PArg.at {w:World} {a:Option Addr} {n:Nat} {X:List Pk} (h:PArg w a n X) (hn:0<n):∃ b o,a=some ⟨b,o,none⟩/\∀ j,j<n->PkAt w b (o+j*6) (X.getD j noPk)/\PkOk w (X.getD j noPk):=by
 obtain ⟨b,o,rfl,_⟩:=h.2.2 0 hn;refine ⟨b,o,rfl,fun j hj=>?_⟩
 obtain ⟨b',o',e,h1,h2⟩:=h.2.2 j hj;simp only [Option.some.injEq,Addr.mk.injEq,and_true] at e
 obtain ⟨rfl,rfl⟩:=e;exact ⟨h1,h2⟩
theorem PArg.drop {w:World} {b o n:Nat} {X:List Pk} (h:PArg w (some ⟨b,o,none⟩) n X) (k:Nat) (hk:k<=n):PArg w (some ⟨b,o+k*6,none⟩) (n - k) (X.drop k):=by
 refine ⟨by rw [List.length_drop,h.1],by have:=h.2.1;omega,fun j hj=>?_⟩
 obtain ⟨b',o',e,h1,h2⟩:=h.2.2 (k+j) (by omega)
 simp only [Option.some.injEq,Addr.mk.injEq,and_true] at e
 obtain ⟨rfl,rfl⟩:=e;rw [ξ5i];refine ⟨b,_,rfl,?_,h2⟩
 rw [show o+k*6+j*6=o+(k+j)*6 by omega]
 exact h1
theorem PArg.empty (w:World) (a:Option Addr):PArg w a 0 []:=⟨rfl,by omega,fun j hj=>by omega⟩
theorem infoPK:(Tryz.prog.info? 38).map (fun i=>(i.zero,i.size,i.bytes))=some (some (.agg #[.int .i64 0,.int .i64 0,.int .i64 0,.int .i64 0,.bool false,.slice none 0 0]),6,64):=by kernel_rfl
theorem elemPS:Tryz.prog.elem 33=38:=by kernel_rfl
theorem sizePK (w:World):(sizeOf 38).run Tryz.prog w=.ok 6 w:=by
 obtain ⟨i,hi,_,hs,_⟩:=info_parts infoPK;simp [sizeOf,typeInfo,hi,hs]
theorem undPS:Tryz.prog.underlying 33=some (.slice (Tryz.prog.elem 33)):=by rw [elemPS];exact Tryz.underlying33
theorem ξ3m (w0:World) (a:Option Addr) (n cap k:Nat) (X:List Pk) (h:PArg w0 a n X) (hk:k<=n) (hc:n<=cap) (hN:a=none->cap=0) :
 ∃ a' cap',(∀ w:World,(Instr.slice 33 (.slice a n cap) (some (.int .i64 (k:Int))) none none).run Tryz.prog w=.ok (.slice a' (n - k) cap') w)/\PArg w0 a' (n - k) (X.drop k):=by
 have hlen:=h.1
 by_cases e:cap=k
 ·have hkn:n=k:=by omega
  subst e;refine ⟨a,0,fun w=>?_,?_⟩
  ·rw [run_slice_l w 33 _ n cap undPS .i64 cap (by omega) (by omega),elemPS,sizePK]
   subst hkn;simp [Result.andThen,sliced]
  ·subst hkn;rw [Nat.sub_self,List.drop_eq_nil_of_le (by omega)]
   exact PArg.empty _ _
 ·cases a with
  | none=>have:=hN rfl;omega
  | some ad=>
    by_cases hn:0<n
    ·obtain ⟨b,o,e2,_⟩:=h.at hn;simp only [Option.some.injEq] at e2
     subst e2;refine ⟨some ⟨b,o+k*6,none⟩,cap - k,fun w=>?_,h.drop k hk⟩
     rw [run_slice_l w 33 _ n cap undPS .i64 k (by omega) (by omega),elemPS,sizePK]
     have e2:(⟨b,o,none⟩:Addr).add (k*6)=⟨b,o+k*6,none⟩:=by rw [add_plain]
     simp [Result.andThen,sliced,e,e2]
    ·have h0:n=0:=by omega
     have hk0:k=0:=by omega
     subst h0 hk0;have hX:X=[]:=List.eq_nil_of_length_eq_zero hlen
     subst hX;refine ⟨some (ad.add 0),cap,fun w=>?_,PArg.empty _ _⟩
     rw [run_slice_l w 33 _ 0 cap undPS .i64 ((0:Nat):Int) (by omega) (by omega),elemPS,sizePK]
     simp [Result.andThen,sliced,e]
theorem ξ29 (a b:Option Addr) (n m cap cap':Nat) (L K:List Nat) (w:World) (hA:Arg w a n L) (hB:Arg w b m K) :
 Calls Tryz.prog 128 #[.slice a n cap,.slice b m cap'] w fun e w'=>e=.returned (.bool (decide (L=K)))/\w'=w:=by
 have k1:(convert 36 9 (.slice a n cap)).run Tryz.prog w=.ok (.string (str L)) w:=ξ9l hA
 have k2:(convert 36 9 (.slice b m cap')).run Tryz.prog w=.ok (.string (str K)) w:=ξ9l hB
 have hs:Hid (((str L).toList==(str K).toList)=decide (L=K)):=str_eq hA.1.1 hB.1.1
 clear hA hB;generalize str L=S1 at *
 generalize str K=S2 at *
 go_enter Tryz.func128,Tryz.ntmps128
 go_wp2_with fail
 go_ret
 exact ⟨by rw [<- hs.out];rfl,rfl⟩
theorem ξ89 (p o:Pk) (w:World) (hp:PkOk w p) (ho:PkOk w o) :
 Calls Tryz.prog 102 #[pv p,pv o] w fun e w'=>e=.returned (.bool (like p o))/\Below w.heap.size w w':=by
 obtain ⟨s,t,l,q,st,a,m,c,L⟩:=p;obtain ⟨s',t',l',q',st',a',m',c',L'⟩:=o;have hb:∀ O1 O2,Below w.heap.size w ((w.alloc O1).alloc O2):=fun O1 O2=>((Below.refl _ _).alloc (Nat.le_refl _) _).alloc (by simp) _
 have HC:=ξ0 (fun O1 O2=>ξ29 a a' m m' c c' L L' ((w.alloc O1).alloc O2) (hp.below (hb O1 O2)) (ho.below (hb O1 O2)))
 have HB:=ξ0 hb
 have HE:Hid (like ⟨s,t,l,q,st,a,m,c,L⟩ ⟨s',t',l',q',st',a',m',c',L'⟩=(decide (l=l')&&(decide (q=q')&&(decide (st=st')&&decide (L=L'))))):=rfl
 generalize like ⟨s,t,l,q,st,a,m,c,L⟩ ⟨s',t',l',q',st',a',m',c',L'⟩=R at *
 generalize decide (L=L')=bL at *
 clear hb hp ho;simp only [pv]
 by_cases h1:l=l'
 ·have d1:(l==l')=true:=by simpa using h1
  by_cases h2:q=q'
  ·have d2:(q==q')=true:=by simpa using h2
   by_cases h3:st=st'
   ·have d3:(st==st')=true:=by simpa using h3
    have HR:Hid (R=bL):=by rw [HE.out];simp [h1,h2,h3,ξ0]
    clear h1 h2 h3 HE;go_enter Tryz.func102,Tryz.ntmps102
    go_wp2_with fail
    refine (HC.out _ _).mono ?_
    rintro e w2 ⟨rfl,rfl⟩;go_wp2_with fail
    go_ret
    exact ⟨by rw [HR.out];rfl,HB.out _ _⟩
   ·have d3:(st==st')=false:=by simpa using h3
    have HR:Hid (R=false):=by rw [HE.out];simp [h3,ξ0]
    clear h1 h2 h3 HE HC;go_enter Tryz.func102,Tryz.ntmps102
    go_wp2_with fail
    go_ret
    exact ⟨by rw [HR.out];rfl,HB.out _ _⟩
  ·have d2:(q==q')=false:=by simpa using h2
   have HR:Hid (R=false):=by rw [HE.out];simp [h2,ξ0]
   clear h1 h2 HE HC;go_enter Tryz.func102,Tryz.ntmps102
   go_wp2_with fail
   go_ret
   exact ⟨by rw [HR.out];rfl,HB.out _ _⟩
 ·have d1:(l==l')=false:=by simpa using h1
  have HR:Hid (R=false):=by rw [HE.out];simp [h1,ξ0]
  clear h1 HE HC;go_enter Tryz.func102,Tryz.ntmps102
  go_wp2_with fail
  go_ret
  exact ⟨by rw [HR.out];rfl,HB.out _ _⟩
def PBox (w:World) (g:Nat) (p:Pk):Prop:=Box w g p.s p.t p.l p.q p.st (.slice p.a p.m p.c)/\PkOk w p
theorem PBox.below {w w':World} {g:Nat} {p:Pk} (h:PBox w g p) (hb:Below w.heap.size w w'):PBox w' g p:=⟨h.1.below hb h.1.lt,h.2.below hb⟩
theorem ξ3R (p o:Pk) (B:Nat) (w:World) (hp:PBox w B p) (ho:PkOk w o) :
 Calls Tryz.prog 101 #[pv o,.pointer (some ⟨B,0,none⟩)] w fun e w'=>e=.returned (.bool (like p o))/\Below w.heap.size w w':=by
 have HB:Hid (∀ O,Below w.heap.size w (w.alloc O)):=fun O=>(Below.refl _ _).alloc (Nat.le_refl _) _
 have HC:Hid (∀ O,Calls Tryz.prog 102 #[pv p,pv o] (w.alloc O) fun e w'=>e=.returned (.bool (like p o))/\Below (w.alloc O).heap.size (w.alloc O) w'):=fun O=>ξ89 p o (w.alloc O) (hp.2.below (HB.out O)) (ho.below (HB.out O))
 generalize like p o=R at *
 obtain ⟨s,t,l,q,st,a,m,c,L⟩:=p;obtain ⟨s',t',l',q',st',a',m',c',L'⟩:=o;have hbox:=hp.1
 have hlt:=hbox.lt
 have hc:∀ O,(w.alloc O).cell? ⟨B,0,none⟩=some (.int .i64 s)/\(w.alloc O).cell? ⟨B,1,none⟩=some (.int .i64 t)/\(w.alloc O).cell? ⟨B,2,none⟩=some (.int .i64 l)/\(w.alloc O).cell? ⟨B,3,none⟩=some (.int .i64 q)/\(w.alloc O).cell? ⟨B,4,none⟩=some (.bool st)/\(w.alloc O).cell? ⟨B,5,none⟩=some (.slice a m c):=fun O=>(hbox.alloc O).cells
 obtain ⟨c0,c1,c2,c3,c4,c5⟩:=hbox.cells;simp only [pv] at HC ⊢
 clear hp ho hbox hc;go_enter Tryz.func101,Tryz.ntmps101
 go_wp2_with fail
 refine (HC.out _).mono ?_
 rintro e w2 ⟨rfl,hb2⟩;have HB2:=ξ0 ((HB.out _).trans (hb2.mono (HB.out (.cells #[.int .i64 s',.int .i64 t',.int .i64 l',.int .i64 q',.bool st',.slice a' m' c'] 38)).size))
 clear hb2;go_wp2_with fail
 go_ret
 exact ⟨rfl,HB2.out⟩
theorem ξaj (a:Option Addr) (n cap:Nat) (X:List Pk) (B:Nat) (p:Pk) (w:World) (h:PArg w a n X) (hb:PBox w B p) :
 Calls Tryz.prog 100 #[.slice a n cap,.func (.func 101) #[] #[.pointer (some ⟨B,0,none⟩)]] w fun r w'=>r=.returned (.int .i64 (if fi (like p) X<n then (fi (like p) X:Int) else -1))/\Below w.heap.size w w':=by
 have hl:=h.1
 have hn:=h.2.1
 have HA:=ξ0 h
 have HX:=ξ0 hb
 clear h hb;obtain ⟨q,hq⟩:∃ q,fi (like p) X=q:=⟨_,rfl⟩;have HQ:Hid (fi (like p) (X.drop 0)+0=q):=by unfold Hid;rw [List.drop_zero];exact hq
 rw [hq];obtain ⟨R,hR⟩:∃ R:Int,(if q<n then (q:Int) else -1)=R:=⟨_,rfl⟩;rw [hR];have HR:=ξ0 hR
 clear hq hR;go_enter Tryz.func100,Tryz.ntmps100
 go_wp2_with fail
 go_loopg [8] n (fun g x wr=>∃ j:Nat,j+g=n/\x=.int .i64 (j:Int)/\Hid (fi (like p) (X.drop j)+j=q)/\Hid (Below w.heap.size w wr))
 case atStart=>exact ⟨0,by omega,rfl,HQ,Below.refl _ _⟩
 case round=>
  obtain ⟨j,hjg,rfl,HK,HW⟩:=hrel;by_cases hj:j<n
  ·have hjz:(j:Int)<(n:Int):=by omega
   obtain ⟨b,o,rfl,hcs⟩:=(HA.out.below HW.out).at (by omega)
   obtain ⟨⟨c0,c1,c2,c3,c4,c5⟩,hok⟩:=hcs j hj;have hk:=HK.out
   rw [ξ25 (d:=noPk) (by omega),fi] at hk
   obtain ⟨m,hm⟩:∃ m,X.getD j noPk=m:=⟨_,rfl⟩;rw [hm] at c0 c1 c2 c3 c4 c5 hk hok;have C:=ξ0 (ξ3R p m B wr (HX.out.below HW.out) hok)
   clear hm hcs HK hok;simp only [pv] at C
   cases ht:like p m with
   | true=>
     rw [ht] at C hk;have HK:Hid (j=q):=by unfold Hid;rw [if_pos rfl] at hk;omega
     clear hk ht;go_wp2_with fail
     refine C.out.mono ?_
     rintro r w1 ⟨rfl,hw1⟩;have HW1:Hid (Below w.heap.size w w1):=HW.out.trans (hw1.mono HW.out.size)
     clear hw1;go_wp2_with fail
     go_ret
     exact ⟨by rw [<- HR.out,<- HK.out,if_pos hj];rfl,HW1.out⟩
   | false=>
     rw [ht] at C hk;have HK:Hid (fi (like p) (X.drop (j+1))+(j+1)=q):=by unfold Hid;rw [if_neg (by simp)] at hk;omega
     clear hk ht;go_wp2_with fail
     refine C.out.mono ?_
     rintro r w1 ⟨rfl,hw1⟩;have HW1:Hid (Below w.heap.size w w1):=HW.out.trans (hw1.mono HW.out.size)
     clear hw1;go_wp2_with fail
     go_roundg (n - (j+1))
     case measure=>omega
     case rel=>exact ⟨j+1,by omega,by go_num,HK,HW1⟩
  ·have hjz:¬ (j:Int)<(n:Int):=by omega
   have hk:=HK.out
   rw [List.drop_eq_nil_of_le (by omega),fi] at hk
   have HK:Hid (¬ q<n):=by unfold Hid;omega
   clear hk;go_wp2_with fail
   go_ret
   exact ⟨by rw [<- HR.out,if_neg HK.out];rfl,HW.out⟩
theorem info3:(Tryz.prog.info? 3).map (fun i=>(i.zero,i.size,i.bytes))=some (some (.int .i64 0),1,8):=by kernel_rfl
def ic (L:List Int):List Value:=L.map (Value.int .i64)
theorem ξB (L:List Int):(ic L).length=L.length:=by simp [ic]
theorem ξ1J (L:List Int) (j:Nat) (h:j<L.length):(ic L)[j]?=some (.int .i64 (L.getD j 0)):=by
 simp [ic,List.getD_eq_getElem?_getD,List.getElem?_eq_getElem h]
def Ints (w:World) (a:Option Addr) (L:List Int):Prop:=∀ j,j<L.length->∃ b o,a=some ⟨b,o,none⟩/\w.cell? ⟨b,o+j,none⟩=some (.int .i64 (L.getD j 0))
def IArg (w:World) (a:Option Addr) (n:Nat) (L:List Int):Prop:=Ints w a L/\L.length=n/\n<=9223372036854775807
theorem IArg.nil (w:World) (a:Option Addr):IArg w a 0 []:=⟨fun j h=>absurd h (by simp),rfl,by omega⟩
theorem IArg.at {w:World} {a:Option Addr} {n:Nat} {L:List Int} (h:IArg w a n L) (hn:0<n):∃ b o,a=some ⟨b,o,none⟩/\∀ j,j<n->w.cell? ⟨b,o+j,none⟩=some (.int .i64 (L.getD j 0)):=by
 obtain ⟨b,o,e,_⟩:=h.1 0 (by have:=h.2.1;omega)
 refine ⟨b,o,e,fun j hj=>?_⟩
 obtain ⟨b',o',e',hc⟩:=h.1 j (by have:=h.2.1;omega)
 rw [e,Option.some.injEq,Addr.mk.injEq] at e';obtain ⟨rfl,rfl,_⟩:=e';exact hc
theorem ξk {w:World} {base n:Nat} {v:Value} {L:List Int} (h:w.ownsRow base 3 1 v n (ic L)) (hn:n<=9223372036854775807) :
 ∃ a cap,v=.slice a n cap/\IArg w a n L/\(a=none->n=0/\cap=0)/\n<=cap/\∀ ad,a=some ad->∃ g,ad=⟨g,0,none⟩/\base<=g/\g<w.heap.size:=by
 have hl:L.length=n:=by have:=h.1;rw [ξB] at this;omega
 rcases h.2 with ⟨rfl,rfl⟩ | ⟨g,cap,cur,rfl,hg,hb,hc,hm,hs,ht⟩
 ·have:L=[]:=List.eq_nil_of_length_eq_zero hl
  subst this;exact ⟨none,0,rfl,IArg.nil _ _,fun _=>⟨rfl,rfl⟩,Nat.le_refl _,fun ad e=>by simp at e⟩
 ·refine ⟨_,cap,rfl,⟨fun j hj=>⟨g,0,rfl,?_⟩,hl,hn⟩,fun e=>by simp at e,hc,fun ad e=>⟨g,by simpa using e.symm,hg,lt_of_block hb⟩⟩
  rw [Nat.zero_add,h.cellAt j (by omega),ξ1J L j hj]
theorem below_drewN' {w wr:World} (h:Below w.heap.size w wr) (q:Nat):Below w.heap.size w (wr.drewN q):=⟨h.os,h.tape,h.output,h.size,h.block⟩
theorem ξa {w wr:World} (h:Below w.heap.size w wr) (o:Obj):Below w.heap.size w (wr.alloc o):=h.alloc h.size o
theorem own_below {w w':World} {base e sz n:Nat} {v:Value} {xs:List Value} (h:w.ownsRow base e sz v n xs) (hb:Below w.heap.size w w'):w'.ownsRow base e sz v n xs:=by
 refine ⟨h.1,?_⟩
 rcases h.2 with hl | ⟨g,cap,cur,rfl,hg,hbl,rest⟩
 ·exact .inl hl
 ·exact .inr ⟨g,cap,cur,rfl,hg,(hb.block g (lt_of_block hbl)).trans hbl,rest⟩
theorem lit1 {w:World} {T:TypeId} (c0:Value):∀ j u,[c0][j]?=some u->(w.alloc (.cells #[c0] T)).cell? ((⟨w.heap.size,0,none⟩:Addr).add j)=some u:=by
 intro j u hu;rw [Addr.add_lit,World.cell?_alloc_mark,Nat.zero_add,<- hu];exact List.getElem?_toArray
def kk (S G:List Pk) (K:Nat):Nat:=if 1000<S.length∨1000<G.length then 0 else K
structure TSt (w wr:World) (K:List Int) (v:Value):Prop where
 below:Below w.heap.size w wr
 own:wr.ownsRow w.heap.size 3 1 v K.length (ic K)
theorem TSt.go {w wr wr':World} {K:List Int} {v:Value} (h:TSt w wr K v) (hb:Below wr.heap.size wr wr'):TSt w wr' K v:=⟨h.below.trans (hb.mono h.below.size),own_below h.own hb⟩
theorem ξK (a:Option Addr) (n cap:Nat) (S:List Pk) (a2:Option Addr) (m cap2:Nat) (G:List Pk) (K:Nat) (w:World) (hS:PArg w a n S) (hc:n<=cap) (hN:a=none->cap=0) (hG:PArg w a2 m G) (hK:Stop S G K) :
 Calls Tryz.prog 58 #[.slice a n cap,.slice a2 m cap2] w fun e w'=>∃ v,e=.returned (.tuple #[v,errv (cfault S G K)])/\w'.ownsRow w.heap.size 3 1 v (pls S G (kk S G K)).length (ic (pls S G (kk S G K)))/\Below w.heap.size w w':=by
 have hl:=hS.1
 have hm:=hG.1
 have hn2:=hS.2.1
 have hm2:=hG.2.1
 have HS:=ξ0 hS
 have HG:=ξ0 hG
 by_cases h1:1000<n
 ·have e1:cfault S G K=4:=ξ3A (by omega)
  have e2:kk S G K=0:=by unfold kk;rw [if_pos (by omega)]
  rw [e1,e2,ξd (by omega)]
  have d1:decide (1000<(n:Int))=true:=by simp;omega
  clear hS hG hK e1 e2;go_enter Tryz.func58,Tryz.ntmps58
  go_wp2_with fail
  go_ret2
  exact ⟨_,rfl,World.ownsRow_nil _ _ _ _,Below.refl _ _⟩
 have d1:decide (1000<(n:Int))=false:=by simp;omega
 by_cases h2:1000<m
 ·have e1:cfault S G K=4:=ξ3A (by omega)
  have e2:kk S G K=0:=by unfold kk;rw [if_pos (by omega)]
  rw [e1,e2,ξd (by omega)]
  have d2:decide (1000<(m:Int))=true:=by simp;omega
  clear hS hG hK e1 e2;go_enter Tryz.func58,Tryz.ntmps58
  go_wp2_with fail
  go_ret2
  exact ⟨_,rfl,World.ownsRow_nil _ _ _ _,Below.refl _ _⟩
 have d2:decide (1000<(m:Int))=false:=by simp;omega
 have e2:kk S G K=K:=by unfold kk;rw [if_neg (by omega)]
 rw [e2];have HK:=ξ0 hK
 have HF4:Hid (K<m->cfault S G K=5):=fun h=>ξ7d (by omega) (by omega)
 have HF0:Hid (¬ K<m->cfault S G K=0):=fun h=>ξ5m (by omega) (by omega)
 generalize cfault S G K=f at *
 obtain ⟨i0,hii,hz0,hz1,hz2⟩:=info_parts info3;have HT0:Hid (TSt w w (pls S G 0) (.slice none 0 0)):=⟨Below.refl _ _,World.ownsRow_nil _ _ _ _⟩
 clear hS hG hK e2;go_enter Tryz.func58,Tryz.ntmps58
 go_wp2_with fail
 go_loopg [4,6,21] m (fun g u y x wr=>∃ (i nx:Nat) (v:Value),i+g=m/\i<=K/\v=u/\nx<=n/\y=.int .i64 (nx:Int)/\x=.int .i64 (i:Int)/\Hid (nxt S G i=nx)/\Hid (TSt w wr (pls S G i) v))
 case atStart=>exact ⟨0,0,_,by omega,by omega,rfl,by omega,rfl,rfl,rfl,HT0⟩
 case round=>
  obtain ⟨i,nx,v,hig,hiK,rfl,hnx,rfl,rfl,HX,HT⟩:=hrel;by_cases hi:i<m
  ·have hiz:(i:Int)<(m:Int):=by omega
   obtain ⟨b,o,rfl,hcs⟩:=(HG.out.below HT.out.below).at (by omega)
   obtain ⟨⟨c0,c1,c2,c3,c4,c5⟩,hok⟩:=hcs i hi;have hst:=ξ2B S G i
   obtain ⟨p,hp⟩:∃ p,G.getD i noPk=p:=⟨_,rfl⟩;rw [hp] at c0 c1 c2 c3 c4 c5 hok hst;have HP:=ξ0 hp
   clear hp hcs;obtain ⟨a',cap',hcut,hS'⟩:=ξ3m w a n cap nx S HS.out hnx hc hN;have hfl:=ξew (like p) (S.drop nx)
   rw [List.length_drop,hl] at hfl;have HSt:Hid (nxt S G (i+1)=nx+fi (like p) (S.drop nx)+1):=by unfold Hid;rw [hst,HX.out]
   have HB1:Hid (∀ O,Below w.heap.size w (wr.alloc O)):=fun O=>ξa HT.out.below O
   have HBx:Hid (PBox (wr.alloc (.cells #[.int .i64 p.s,.int .i64 p.t,.int .i64 p.l,.int .i64 p.q,.bool p.st,.slice p.a p.m p.c] 38)) wr.heap.size p):=⟨Box.new wr _ _ _ _ _ _,hok.below ((Below.refl _ _).alloc (Nat.le_refl _) _)⟩
   have HC:=ξ0 (ξaj a' (n - nx) cap' (S.drop nx) wr.heap.size p (wr.alloc (.cells #[.int .i64 p.s,.int .i64 p.t,.int .i64 p.l,.int .i64 p.q,.bool p.st,.slice p.a p.m p.c] 38)) (hS'.below (HB1.out _)) HBx.out)
   obtain ⟨q,hq⟩:∃ q,fi (like p) (S.drop nx)=q:=⟨_,rfl⟩;have HQ:Hid (pl S G i=nx+q):=by unfold Hid;rw [ξen,HX.out,HP.out,hq]
   rw [hq] at HC hfl HSt;clear hq hst hok hS' HBx;obtain ⟨s,t,l,qq,st,aa,mm,cc,LL⟩:=p;simp only at c0 c1 c2 c3 c4 c5 HC
   by_cases hF:q<n - nx
   ·rw [if_pos hF] at HC;have hKi:i<K:=by
     rcases Nat.lt_or_ge i K with h | h
     ·exact h
     ·have e:K=i:=by omega
      have:=HK.out.he (by omega)
      rw [e,HSt.out] at this;omega
    have hlen:=ξ7u S G i
    go_wp2_with fail
    refine HC.out.mono ?_
    rintro r w1 ⟨rfl,hw1⟩;have HT1:Hid (TSt w w1 (pls S G i) v):=(HT.out.go ((Below.refl _ _).alloc (Nat.le_refl _) _)).go hw1
    clear hw1 HT HC;go_wp2_with (at_builtin;refine wpList_append_own _ rfl _ _ 35 rfl w.heap.size 3 i0 _ 1 8 Tryz.underlying35 hii hz0 hz1 hz2 rfl (by decide) _ (pls S G i).length (ic (pls S G i)) rfl (HT1.out.own.alloc _) ⟨w1.heap.size,0,none⟩ 1 1 [.int .i64 ((nx:Int)+(q:Int))] rfl rfl ?cc ?one ?b1 ?b2 ?b3 ?next)
    case cc=>exact lit1 _
    case one=>simp [Value.oneCell']
    case b1=>unfold maxLen;omega
    case b2=>omega
    case b3=>have:=HT1.out.below.size;simp;omega
    case next=>
    intro v3 w' hown hgrow _;have HTn:Hid (TSt w w' (pls S G (i+1)) v3):=by
     have hs:=HT1.out.below.size
     refine ⟨(HT1.out.below.alloc hs _).grown hgrow (by simp;omega) (fun j hj=>(HT1.out.own.lt j hj).1),?_⟩
     rw [ξbo,List.length_append,HQ.out];have e:ic (pls S G i++[((nx+q:Nat):Int)])=ic (pls S G i)++[.int .i64 ((nx:Int)+(q:Int))]:=by simp [ic]
     rw [e,List.length_singleton,hlen];exact hown
    clear hown hgrow;go_wp2_with fail
    go_roundg (m - (i+1))
    case measure=>omega
    case rel=>exact ⟨i+1,nx+q+1,v3,by omega,by omega,rfl,by omega,by go_num,by go_num,HSt,HTn⟩
   ·rw [if_neg hF] at HC;have HKi:Hid (K=i):=by
     unfold Hid;rcases Nat.lt_or_ge i K with h | h
     ·have:=HK.out.lt h
      rw [HSt.out] at this;omega
     ·omega
    have HF:Hid (f=5):=HF4.out (by have:=HKi.out;omega)
    go_wp2_with fail
    refine HC.out.mono ?_
    rintro r w1 ⟨rfl,hw1⟩;have HT1:Hid (TSt w w1 (pls S G i) v):=(HT.out.go ((Below.refl _ _).alloc (Nat.le_refl _) _)).go hw1
    clear hw1 HT HC;go_wp2_with fail
    go_ret2
    exact ⟨v,by rw [HF.out,ξd (by omega)];rfl,by rw [HKi.out];exact HT1.out.own,HT1.out.below⟩
  ·have hiz:¬ (i:Int)<(m:Int):=by omega
   have HKi:Hid (K=i):=by unfold Hid;have:=HK.out.hk;omega
   have HF:Hid (f=0):=HF0.out (by have:=HKi.out;omega)
   go_wp2_with fail
   go_ret2
   exact ⟨v,by rw [HF.out,ξ4];rfl,by rw [HKi.out];exact HT.out.own,HT.out.below⟩
theorem ξ8 (a:Option Addr) (n cap:Nat) (S:List Pk) (a2:Option Addr) (m cap2:Nat) (G:List Pk) (K:Nat) (w:World) (hS:PArg w a n S) (hc:n<=cap) (hN:a=none->cap=0) (hG:PArg w a2 m G) (hK:Stop S G K) :
 Calls Tryz.prog 17 #[.slice a n cap,.slice a2 m cap2] w fun e w'=>e=.returned (.tuple #[.int .i64 (cat S G K:Int),errv (cfault S G K)])/\Below w.heap.size w w':=by
 have HC:=ξ0 (ξK a n cap S a2 m cap2 G K w hS hc hN hG hK)
 have hkk:cfault S G K≠0->kk S G K=cat S G K:=by
  intro h;unfold kk cat;unfold cfault at h ⊢;split
  ·simp
  ·rename_i h1
   rw [if_neg h1] at h;split
   ·simp
   ·rename_i h2;rw [if_neg h2] at h;omega
 have hcz:cfault S G K=0->cat S G K=0:=by intro h;unfold cat;rw [if_neg (by omega)]
 have hKl:kk S G K<=9223372036854775807:=by have:=hK.hk;have:=hG.1;have:=hG.2.1;unfold kk;split<;>omega
 have hlen:=ξ7u S G (kk S G K)
 generalize hL:pls S G (kk S G K)=L at *
 generalize cat S G K=ct at *
 generalize kk S G K=k at *
 have HCZ:=ξ0 hcz
 have HKK:=ξ0 hkk
 clear hS hN hG hK hc hcz hkk hL;obtain ⟨f,hf⟩:∃ f,cfault S G K=f:=⟨_,rfl⟩;rw [hf] at HC HCZ HKK ⊢;clear hf;have hcmp:=ξq f
 have hgrd:=ξo f
 go_enter Tryz.func17,Tryz.ntmps17
 go_wp2_with fail
 refine HC.out.mono ?_
 rintro e w1 ⟨v,rfl,hown,hb⟩;obtain ⟨av,cv,rfl,_,_,_,_⟩:=ξk hown (by omega)
 have HB:=ξ0 hb
 rw [hlen] at hown ⊢;clear hown hb HC;by_cases h0:f=0
 ·rw [decide_eq_true h0] at hcmp;have HZ:=ξ0 (HCZ.out h0)
  have H0:=ξ0 h0
  clear h0;go_wp2_with fail
  go_ret2
  exact ⟨by rw [HZ.out,H0.out];rfl,HB.out⟩
 ·rw [decide_eq_false h0] at hcmp;have HZ:=ξ0 (HKK.out h0)
  clear h0;go_wp2_with fail
  go_ret2
  exact ⟨by rw [<- HZ.out];rfl,HB.out⟩
theorem ξ7T (n:Int):bits .and .i64 n 65535=n%65536:=by
 have h:(BitVec.ofInt 64 65535).toNat=2 ^ 16 - 1:=by decide
 have key:(BitVec.ofInt 64 n &&& BitVec.ofInt 64 65535).toNat=(n%((2 ^ 64:Nat):Int)).toNat%2 ^ 16:=by
  rw [BitVec.toNat_and,BitVec.toNat_ofInt,h,Nat.and_two_pow_sub_one_eq_mod]
 show IntKind.i64.wrap ((BitVec.ofInt 64 n &&& BitVec.ofInt 64 65535).toNat:Nat)=n%65536
 rw [key,IntKind.wrap_i64];omega
theorem ξeo {p:Pk} (h:pf p=0):0<=p.s/\p.s<=65535:=by
 obtain ⟨s,_,_,_,hs,_,_,_,h1,_⟩:=ξp h;omega
theorem ξ9x (a:Option Addr) (n cap:Nat) (X:List Pk) (K:Nat) (w:World) (hX:PArg w a n X) (hK:RStop X K) :
 Calls Tryz.prog 18 #[.slice a n cap] w fun e w'=>e=.returned (.tuple #[.int .i64 (rat X K:Int),errv (rowf X K)])/\Below w.heap.size w w':=by
 have hl:=hX.1
 have hn2:=hX.2.1
 have HX:=ξ0 hX
 by_cases h1:1000<n
 ·have e1:rowf X K=4:=by unfold rowf;rw [if_pos (by omega)]
  have e2:rat X K=0:=by unfold rat;rw [if_pos (by omega)]
  rw [e1,e2,ξd (by omega)]
  have d1:decide (1000<(n:Int))=true:=by simp;omega
  clear hX hK e1 e2;go_enter Tryz.func18,Tryz.ntmps18
  go_wp2_with fail
  go_ret2
  exact ⟨rfl,Below.refl _ _⟩
 have d1:decide (1000<(n:Int))=false:=by simp;omega
 have HF:Hid (K<n->rowf X K=rfa X K/\rat X K=K):=fun h=>by unfold rowf rat;rw [if_neg (by omega),if_pos (by omega),if_neg (by omega),if_pos (by omega)];exact ⟨rfl,rfl⟩
 have HF0:Hid (¬ K<n->rowf X K=0/\rat X K=0):=fun h=>by unfold rowf rat;rw [if_neg (by omega),if_neg (by omega),if_neg (by omega),if_neg (by omega)];exact ⟨rfl,rfl⟩
 generalize rowf X K=f at *
 generalize rat X K=pa at *
 have HK:=ξ0 hK
 clear hX hK;go_enter Tryz.func18,Tryz.ntmps18
 go_wp2_with fail
 go_loopg [13] n (fun g x wr=>∃ i:Nat,i+g=n/\i<=K/\x=.int .i64 (i:Int)/\Hid (Below w.heap.size w wr))
 case atStart=>exact ⟨0,by omega,by omega,rfl,Below.refl _ _⟩
 case round=>
  obtain ⟨i,hig,hiK,rfl,HW⟩:=hrel;by_cases hi:i<n
  ·have hiz:(i:Int)<(n:Int):=by omega
   obtain ⟨b,o,rfl,hcs⟩:=(HX.out.below HW.out).at (by omega)
   obtain ⟨⟨c0,c1,c2,c3,c4,c5⟩,hok⟩:=hcs i hi;have hr:rfa X i=if pf (X.getD i noPk)≠0 then pf (X.getD i noPk) else if 0<i/\(X.getD i noPk).s≠((X.getD (i - 1) noPk).s+1)%65536 then 3 else 0:=rfl
   have HPr:Hid (0<i->0<=(X.getD (i - 1) noPk).s/\(X.getD (i - 1) noPk).s<=65535):=fun h=>ξeo (ξdV (HK.out.hn (i - 1) (by omega)))
   have HCs:=ξ0 hcs
   obtain ⟨p,hp⟩:∃ p,X.getD i noPk=p:=⟨_,rfl⟩;rw [hp] at c0 c1 c2 c3 c4 c5 hok hr;clear hp hcs hok;have HC:=ξ0 (fun W=>Pack.ξ8 p.s p.t p.l p.q p.st p.a p.m p.c W)
   have HB1:Hid (∀ O,Below w.heap.size w (wr.alloc O)):=fun O=>ξa HW.out O
   have HBx:Hid (Box (wr.alloc (.cells #[.int .i64 p.s,.int .i64 p.t,.int .i64 p.l,.int .i64 p.q,.bool p.st,.slice p.a p.m p.c] 38)) wr.heap.size p.s p.t p.l p.q p.st (.slice p.a p.m p.c)):=Box.new wr _ _ _ _ _ _
   have HCa:Hid (∀ O j,j<n->PkAt (wr.alloc O) b (o+j*6) (X.getD j noPk)):=fun O j hj=>(HCs.out j hj).1.below ((Below.refl _ _).alloc (Nat.le_refl _) _)
   have hpf:fault p.s p.t p.l p.q p.m=pf p:=rfl
   rw [hpf] at HC;obtain ⟨s,t,l,q,st,aa,mm,cc,LL⟩:=p;simp only at c0 c1 c2 c3 c4 c5 HC HBx hr
   by_cases h0:pf ⟨s,t,l,q,st,aa,mm,cc,LL⟩=0
   ·rw [h0,ξ4] at HC;rw [h0,if_neg (by simp)] at hr
    clear hpf h0;go_wp2_with fail
    refine (HC.out _).mono ?_
    rintro e w1 ⟨rfl,hb⟩;have HB2:Hid (Below w.heap.size w w1):=(HB1.out _).trans (hb.mono (HB1.out (.cells #[.int .i64 s,.int .i64 t,.int .i64 l,.int .i64 q,.bool st,.slice aa mm cc] 38)).size)
    obtain ⟨x0,x1,x2,x3,x4,x5⟩:=(HBx.out.below hb HBx.out.lt).cells;have HCb:Hid (∀ j,j<n->PkAt w1 b (o+j*6) (X.getD j noPk)):=fun j hj=>(HCa.out _ j hj).below hb
    clear hb HC HB1 HBx HCa x1 x2 x3 x4 x5;by_cases hi0:0<i
    ·have dz:decide ((0:Int)<(i:Int))=true:=by simp;omega
     have dn:decide (0<i)=true:=by simp;omega
     obtain ⟨y0,_,_,_,_,_⟩:=HCb.out (i - 1) (by omega)
     obtain ⟨sp,hsp⟩:∃ sp,(X.getD (i - 1) noPk).s=sp:=⟨_,rfl⟩;have hbd:=HPr.out hi0
     rw [hsp] at y0 hr hbd;have hix:(i:Int) - 1=((i - 1:Nat):Int):=by omega
     obtain ⟨k,hk⟩:∃ k,i - 1=k:=⟨_,rfl⟩;rw [hk] at y0 hix;have hkn:k<n:=by omega
     have hwr:IntKind.i64.wrap ((i:Int) - 1)=(k:Int):=by rw [IntKind.wrap_i64];omega
     by_cases hs:s=(sp+1)%65536
     ·have HR:Hid (rfa X i=0):=by rw [hr,if_neg (by omega)];rfl
      have ds:(s != bits .and .i64 (sp+1) 65535)=false:=by rw [ξ7T];simpa using hs
      have hiK':i<K:=by
       rcases Nat.lt_or_ge i K with h | h
       ·exact h
       ·have e:K=i:=by omega
        have:=HK.out.he (by omega)
        rw [e] at this;exact absurd HR.out this
      clear hs hr hsp hk;go_wp2_with fail
      go_quiet (fail)
      go_wp2_with fail
      go_roundg (n - (i+1))
      case measure=>omega
      case rel=>exact ⟨i+1,by omega,by omega,by go_num,below_drewN' HB2.out _⟩
     ·have HR:Hid (rfa X i=3):=by rw [hr,if_pos ⟨hi0,hs⟩];rfl
      have ds:(s != bits .and .i64 (sp+1) 65535)=true:=by rw [ξ7T];simpa using hs
      have HKi:Hid (K=i):=by
       unfold Hid;rcases Nat.lt_or_ge i K with h | h
       ·have:=HK.out.hn i h
        rw [HR.out] at this;omega
       ·omega
      have HE:Hid (f=3/\pa=i):=by
       have h1:=HF.out (by have:=HKi.out;omega)
       rw [HKi.out,HR.out] at h1;exact h1
      clear hs hr hsp hk;go_wp2_with fail
      go_quiet (fail)
      go_wp2_with fail
      go_ret2
      exact ⟨by rw [HE.out.1,HE.out.2,ξd (by omega)];rfl,below_drewN' HB2.out _⟩
    ·have dz:decide ((0:Int)<(i:Int))=false:=by simp;omega
     have dn:decide (0<i)=false:=by simp;omega
     have HR:Hid (rfa X i=0):=by rw [hr,if_neg (by omega)];rfl
     have hiK':i<K:=by
      rcases Nat.lt_or_ge i K with h | h
      ·exact h
      ·have e:K=i:=by omega
       have:=HK.out.he (by omega)
       rw [e] at this;exact absurd HR.out this
     have hi00:i=0:=by omega
     clear hr;go_wp2_with fail
     go_quiet (fail)
     go_wp2_with fail
     go_roundg (n - (i+1))
     case measure=>omega
     case rel=>exact ⟨i+1,by omega,by omega,by go_num,below_drewN' HB2.out _⟩
   ·have HR:Hid (rfa X i=pf ⟨s,t,l,q,st,aa,mm,cc,LL⟩):=by rw [hr,if_pos h0];rfl
    have HKi:Hid (K=i):=by
     unfold Hid;rcases Nat.lt_or_ge i K with h | h
     ·have:=HK.out.hn i h
      rw [HR.out] at this;exact absurd this h0
     ·omega
    have HE:Hid (f=pf ⟨s,t,l,q,st,aa,mm,cc,LL⟩/\pa=i):=by
     have h1:=HF.out (by have:=HKi.out;omega)
     rw [HKi.out,HR.out] at h1;exact h1
    generalize pf ⟨s,t,l,q,st,aa,mm,cc,LL⟩=fp at *
    have hcmp:=ξq fp
    have hgrd:=ξo fp
    rw [decide_eq_false h0] at hcmp;clear hr hpf h0;go_wp2_with fail
    refine (HC.out _).mono ?_
    rintro e w1 ⟨rfl,hb⟩;have HB2:Hid (Below w.heap.size w w1):=(HB1.out _).trans (hb.mono (HB1.out (.cells #[.int .i64 s,.int .i64 t,.int .i64 l,.int .i64 q,.bool st,.slice aa mm cc] 38)).size)
    clear hb HC HB1 HBx HCa;go_wp2_with fail
    go_ret2
    exact ⟨by rw [HE.out.1,HE.out.2];rfl,HB2.out⟩
  ·have hiz:¬ (i:Int)<(n:Int):=by omega
   have HKi:Hid (K=i):=by unfold Hid;have:=HK.out.hk;omega
   have HE:=ξ0 (HF0.out (by have:=HKi.out;omega))
   go_wp2_with fail
   go_ret2
   exact ⟨by rw [HE.out.1,HE.out.2];rfl,HW.out⟩
def hk (S G:List Pk) (K:Nat):List Int:=if cfault S G K=0 then hls S G (K - 1) else []
def pc (p:Pk):List Value:=[.int .i64 p.s,.int .i64 p.t,.int .i64 p.l,.int .i64 p.q,.bool p.st,.slice p.a p.m p.c]
def flat (X:List Pk):List Value:=X.flatMap pc
theorem ξ11 (p:Pk):(pc p).length=6:=rfl
theorem ξ3P (X Y:List Pk):flat (X++Y)=flat X++flat Y:=by simp [flat]
theorem ξ3O (p:Pk):flat [p]=pc p:=by simp [flat]
theorem flat_get (X:List Pk) (j k:Nat) (hj:j<X.length) (hk:k<6):(flat X)[j*6+k]?=(pc (X.getD j noPk))[k]?:=by
 induction X generalizing j with
 | nil=>simp at hj
 | cons x r ih=>
   have e:flat (x::r)=pc x++flat r:=by simp [flat]
   rw [e];cases j with
   | zero=>rw [List.getElem?_append_left (by rw [ξ11];omega)];simp
   | succ j=>
     rw [List.getElem?_append_right (by rw [ξ11];omega),ξ11,show (j+1)*6+k - 6=j*6+k by omega,ih j (by simpa using hj)]
     simp
theorem ξ2U (p:Pk):∀ u∈pc p,u.oneCell'=true:=by simp [pc,Value.oneCell']
def Bd (W:World) (F:List Nat) (p:Pk):Prop:=PkOk W p/\(p.a=none->p.m=0/\p.c=0)/\∀ ad,p.a=some ad->0<p.m->ad.block<W.heap.size/\ad.block∉F
theorem ξer {W:World} {p:Pk} (h:PkOk W p) {ad:Addr} (e:p.a=some ad) (hm:0<p.m):ad.block<W.heap.size:=by
 obtain ⟨b,o,e2,hc⟩:=h.1.2 0 (by have:=h.2.1;omega)
 rw [e,Option.some.injEq] at e2;subst e2;exact World.block_lt_of_cell? W _ hc
theorem ξd4 {W W':World} {F:List Nat} {p:Pk} (h:PkOk W p) (ho:Only F W W') (hf:∀ ad,p.a=some ad->0<p.m->ad.block∉F):PkOk W' p:=by
 refine ⟨⟨h.1.1,fun j hj=>?_⟩,h.2⟩
 obtain ⟨b,o,e,hc⟩:=h.1.2 j hj;refine ⟨b,o,e,?_⟩
 have hb:=ho.2.2.2.2 b (World.block_lt_of_cell? W ⟨b,o+j,none⟩ hc) (hf _ e (by have:=h.2.1;omega))
 rw [<- hc];simp [World.cell?,hb]
theorem Bd.only {W W':World} {F F':List Nat} {p:Pk} (h:Bd W F p) (ho:Only F W W') (hF:∀ x∈F',x∈F∨W.heap.size<=x):Bd W' F' p:=by
 refine ⟨ξd4 h.1 ho fun ad e hm=>(h.2.2 ad e hm).2,h.2.1,fun ad e hm=>?_⟩
 obtain ⟨h1,h2⟩:=h.2.2 ad e hm;refine ⟨Nat.lt_of_lt_of_le h1 ho.2.2.2.1,fun hc=>?_⟩
 rcases hF _ hc with h3 | h3
 ·exact h2 h3
 ·omega
theorem ξ2e {W:World} {base n:Nat} {v:Value} {X:List Pk} (h:W.ownsRow base 38 6 v n (flat X)) (hX:X.length=n) (hn:n<=9223372036854775807) (hb:∀ p∈X,PkOk W p) :
 ∃ a cap,v=.slice a n cap/\PArg W a n X/\n<=cap/\(a=none->cap=0):=by
 rcases h.2 with ⟨rfl,rfl⟩ | ⟨g,cap,cur,rfl,hg,hbl,hc,hm,hs,ht⟩
 ·have:X=[]:=List.eq_nil_of_length_eq_zero hX
  subst this;exact ⟨none,0,rfl,PArg.empty _ _,Nat.le_refl _,fun _=>rfl⟩
 ·refine ⟨_,cap,rfl,⟨hX,hn,fun j hj=>⟨g,0,rfl,?_,?_⟩⟩,hc,fun e=>by simp at e⟩
  ·have k:∀ i,i<6->W.cell? ⟨g,0+j*6+i,none⟩=(pc (X.getD j noPk))[i]?:=by
    intro i hi;rw [Nat.zero_add,h.cellAt (j*6+i) (by omega),flat_get X j i (by omega) hi]
   have k0:=k 0 (by omega)
   have k1:=k 1 (by omega)
   have k2:=k 2 (by omega)
   have k3:=k 3 (by omega)
   have k4:=k 4 (by omega)
   have k5:=k 5 (by omega)
   exact ⟨k0,k1,k2,k3,k4,k5⟩
  ·refine hb _ ?_
   rw [List.getD_eq_getElem?_getD,List.getElem?_eq_getElem (by omega)]
   exact List.getElem_mem _
def fp (b:Nat) (gv sv:Value):List Nat:=b::(gv.ownBlock.toList++sv.ownBlock.toList)
theorem lit6 {w:World} (p:Pk):∀ j u,(pc p)[j]?=some u->(w.alloc (.cells #[.int .i64 p.s,.int .i64 p.t,.int .i64 p.l,.int .i64 p.q,.bool p.st,.slice p.a p.m p.c] 38)).cell? ((⟨w.heap.size,0,none⟩:Addr).add j)=some u:=by
 intro j u hu;rw [Addr.add_lit,World.cell?_alloc_mark,Nat.zero_add,<- hu];exact List.getElem?_toArray
end Go.Proofs.YtpiamlgmadnepaaGreat.Audit
