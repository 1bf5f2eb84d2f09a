/-
  What package audit tells, as numbers and lists: which packets are alike, the place of each that was got in what was sent, what lies between, whether numbers go on, how late it was. No program.
-/
import Derived.Test.YtigibpcpnkdmcaaGreatDoorMathAll
import Derived.WalkKit
set_option linter.unusedVariables false
namespace Go.Proofs.YtigibpcpnkdmcaaGreatDoor.AU
open Go.Proofs.YtigibpcpnkdmcaaGreatDoor.PM
structure Pk where
  s:Int
  t:Int
  l:Int
  q:Int
  st:Bool
  a:Option Addr
  m:Nat
  c:Nat
  L:List Nat
def noPk:Pk:=⟨0,0,0,0,false,none,0,0,[]⟩
def like (p o:Pk):Bool:=decide (p.l=o.l)&&(decide (p.q=o.q)&&(decide (p.st=o.st)&&decide (p.L=o.L)))
theorem like_iff {p o:Pk}:like p o=true↔p.l=o.l∧p.q=o.q∧p.st=o.st∧p.L=o.L:=by simp [like]
def fi (f:Pk→Bool):List Pk→Nat
  | []=>0
  | x::r=>if f x then 0 else fi f r+1
theorem fi_le (f:Pk→Bool) (L:List Pk):fi f L≤L.length:=by
  induction L with
  | nil=>simp [fi]
  | cons x r ih=>unfold fi;split<;>simp<;>omega
theorem fi_at {f:Pk→Bool} {L:List Pk} {j:Nat} (hj:j<L.length) (h:f (L.getD j noPk)=true):fi f L≤j:=by
  induction L generalizing j with
  | nil=>simp at hj
  | cons x r ih=>
    unfold fi
    split
    · omega
    · rename_i hx
      cases j with
      | zero=>exact absurd (by simpa using h) hx
      | succ j=>
        have:=ih (j:=j) (by simpa using hj) (by simpa using h)
        omega
theorem drop_cons {α:Type} {L:List α} {d:α} {j:Nat} (hj:j<L.length):L.drop j=L.getD j d::L.drop (j+1):=by
  rw [List.drop_eq_getElem_cons hj,List.getD_eq_getElem?_getD,List.getElem?_eq_getElem hj];rfl
theorem drop_getD (L:List Pk) (k j:Nat):(L.drop k).getD j noPk=L.getD (k+j) noPk:=by
  simp only [List.getD_eq_getElem?_getD,List.getElem?_drop]
def nxt (S G:List Pk):Nat→Nat
  | 0=>0
  | i+1=>nxt S G i+fi (like (G.getD i noPk)) (S.drop (nxt S G i))+1
theorem nxt_succ (S G:List Pk) (i:Nat):nxt S G (i+1)=nxt S G i+fi (like (G.getD i noPk)) (S.drop (nxt S G i))+1:=rfl
theorem nxt_lt (S G:List Pk) (i:Nat):nxt S G i<nxt S G (i+1):=by rw [nxt_succ];omega
theorem nxt_mono (S G:List Pk) {i j:Nat} (h:i≤j):nxt S G i≤nxt S G j:=by
  induction h with
  | refl=>exact Nat.le_refl _
  | step h ih=>have:=nxt_lt S G (by assumption:Nat);exact Nat.le_trans ih (Nat.le_of_lt (nxt_lt S G _))
structure Stop (S G:List Pk) (K:Nat):Prop where
  hk:K≤G.length
  hn:nxt S G K≤S.length
  he:K<G.length→S.length<nxt S G (K+1)
theorem Stop.lt {S G:List Pk} {K i:Nat} (h:Stop S G K) (hi:i<K):nxt S G (i+1)≤S.length:=Nat.le_trans (nxt_mono S G hi) h.hn
theorem nxt_of {S G:List Pk} {c:Nat→Nat} (hc:∀ i,i<G.length→c i<S.length∧like (G.getD i noPk) (S.getD (c i) noPk)=true) (hm:∀ i,i+1<G.length→c i<c (i+1)) :
    ∀ i,i<G.length→nxt S G (i+1)≤c i+1:=by
  have key:∀ i,i<G.length→nxt S G i≤c i→nxt S G (i+1)≤c i+1:=by
    intro i hi hn
    rw [nxt_succ]
    have h2:=fi_at (f:=like (G.getD i noPk)) (L:=S.drop (nxt S G i)) (j:=c i - nxt S G i) (by rw [List.length_drop];have:=(hc i hi).1;omega) (by rw [drop_getD,show nxt S G i+(c i - nxt S G i)=c i by omega];exact (hc i hi).2)
    omega
  intro i
  induction i with
  | zero=>intro hi;exact key 0 hi (by simp [nxt])
  | succ i ih=>
    intro hi
    have h1:=ih (by omega)
    have h2:=hm i hi
    exact key (i+1) hi (by omega)
theorem stop_of {S G:List Pk} {c:Nat→Nat} (hc:∀ i,i<G.length→c i<S.length∧like (G.getD i noPk) (S.getD (c i) noPk)=true) (hm:∀ i,i+1<G.length→c i<c (i+1)) :
    Stop S G G.length:=by
  refine ⟨Nat.le_refl _,?_,fun h=>absurd h (by omega)⟩
  cases h:G.length with
  | zero=>simp [nxt]
  | succ n=>
    have h1:=nxt_of hc hm n (by omega)
    have h2:=(hc n (by omega)).1
    omega
def pl (S G:List Pk) (i:Nat):Nat:=nxt S G (i+1) - 1
theorem pl_eq (S G:List Pk) (i:Nat):pl S G i=nxt S G i+fi (like (G.getD i noPk)) (S.drop (nxt S G i)):=by unfold pl;rw [nxt_succ];omega
def pls (S G:List Pk) (k:Nat):List Int:=(List.range k).map fun i=>(pl S G i:Int)
theorem pls_succ (S G:List Pk) (k:Nat):pls S G (k+1)=pls S G k++[(pl S G k:Int)]:=by simp [pls,List.range_succ]
theorem pls_len (S G:List Pk) (k:Nat):(pls S G k).length=k:=by simp [pls]
def hl (S G:List Pk) (i:Nat):Int:=(pl S G (i+1):Int) - (pl S G i:Int) - 1
def hls (S G:List Pk) (k:Nat):List Int:=(List.range k).map fun i=>hl S G i
def cfault (S G:List Pk) (K:Nat):Nat:=if 1000<S.length∨1000<G.length then 4 else if K<G.length then 5 else 0
theorem cfault_full {S G:List Pk} {K:Nat} (h:1000<S.length∨1000<G.length):cfault S G K=4:=by unfold cfault;rw [if_pos h]
theorem cfault_none {S G:List Pk} {K:Nat} (h:¬ (1000<S.length∨1000<G.length)) (hk:K<G.length):cfault S G K=5:=by unfold cfault;rw [if_neg h,if_pos hk]
theorem cfault_ok {S G:List Pk} {K:Nat} (h:¬ (1000<S.length∨1000<G.length)) (hk:¬ K<G.length):cfault S G K=0:=by unfold cfault;rw [if_neg h,if_neg hk]
def cat (S G:List Pk) (K:Nat):Nat:=if cfault S G K=5 then K else 0
def pf (p:Pk):Nat:=fault p.s p.t p.l p.q p.m
def rfa (X:List Pk) (i:Nat):Nat:=if pf (X.getD i noPk)≠0 then pf (X.getD i noPk) else if 0<i∧(X.getD i noPk).s≠((X.getD (i - 1) noPk).s+1)%65536 then 3 else 0
structure RStop (X:List Pk) (K:Nat):Prop where
  hk:K≤X.length
  hn:∀ i,i<K→rfa X i=0
  he:K<X.length→rfa X K≠0
theorem rstop_all {X:List Pk} (h:∀ i,i<X.length→rfa X i=0):RStop X X.length:=⟨Nat.le_refl _,h,fun h=>by omega⟩
def rowf (X:List Pk) (K:Nat):Nat:=if 1000<X.length then 4 else if K<X.length then rfa X K else 0
def rat (X:List Pk) (K:Nat):Nat:=if 1000<X.length then 0 else if K<X.length then K else 0
theorem rfa_pf {X:List Pk} {i:Nat} (h:rfa X i=0):pf (X.getD i noPk)=0:=by
  unfold rfa at h
  split at h
  · exact h
  · rename_i h';simpa using h'
end Go.Proofs.YtigibpcpnkdmcaaGreatDoor.AU
