/-
  What package run answers, as functions of bytes, numbers and lists: the words of a line, read one by one; what each line is answered; what goes on from line to line. No program in this text.
-/
import Derived.Lib.AtoiAll
import Derived.Lib.ItoaNum
import Derived.Lib.Join
import Derived.Lib.Split
import Derived.Lib.Bytealg
import Derived.Test.YtlppdppddiecnaaGreatDoorMathAll
import Derived.Test.YtlppdppddiecnaaGreatDoorTreeM
namespace Go.Proofs.YtlppdppddiecnaaGreatDoor.RN
open Go.Lib Go.Proofs.YtlppdppddiecnaaGreatDoor.RC

def bs (l:List UInt8):ByteArray:=⟨l.toArray⟩
theorem bs_data (l:List UInt8):(bs l).data.toList=l:=by simp [bs]
theorem bs_of (x:ByteArray):bs x.data.toList=x:=by cases x;simp [bs]
theorem bs_inj {l k:List UInt8} (h:bs l=bs k):l=k:=by rw [← bs_data l,h,bs_data]
theorem cut_bs (c:UInt8) (l:List UInt8):splitB ⟨#[c]⟩ 0 (countB (bs l) ⟨#[c]⟩) (bs l)=(cutL c l).map bs:=by
  have h:=splitB_data ⟨#[c]⟩ 0 (countB (bs l) ⟨#[c]⟩) (bs l)
  rw [bs_data] at h
  have e:countB (bs l) ⟨#[c]⟩=count l [c]:=by unfold countB;rw [bs_data]
  rw [e] at h ⊢
  rw [show (⟨#[c]⟩:ByteArray).data.toList=[c] from rfl,splitK_cut c l.length l (Nat.le_refl _)] at h
  rw [← h,List.map_map]
  have:bs∘(fun x:ByteArray=>x.data.toList)=id:=funext fun x=>bs_of x
  rw [this,List.map_id]

structure Ws where
  rest:List (List UInt8)
  bad:Bool
def Ws.ill (W:Ws):Ws:=⟨W.rest,true⟩
def Ws.next (W:Ws):List UInt8×Ws:=
  match W.rest with
  | []=>([],W.ill)
  | x::r=>(x,⟨r,W.bad⟩)
def Ws.left (W:Ws):Bool:=W.bad||decide (0<W.rest.length)
def Ws.numberOf (W:Ws) (x:List UInt8):Int×Ws:=
  match numL x with
  | some v=>(v,W)
  | none=>(0,W.ill)
def Ws.number (W:Ws):Int×Ws:=W.next.2.numberOf W.next.1
def Ws.flag (W:Ws):Bool×Ws:=(decide (W.number.1=1),if W.number.1≠0∧W.number.1≠1 then W.number.2.ill else W.number.2)
def ws0 (x:List UInt8):Ws:=⟨cutL 32 x,false⟩
def Ws.nums (W:Ws):List (List UInt8)→List Int×Ws
  | []=>([],W)
  | x::r=>((W.numberOf x).1::((W.numberOf x).2.nums r).1,((W.numberOf x).2.nums r).2)
theorem Ws.nums_snoc (x:List UInt8):∀ (l:List (List UInt8)) (W:Ws),(W.nums (l++[x]))=((W.nums l).1++[((W.nums l).2.numberOf x).1],((W.nums l).2.numberOf x).2)
  | [],W=>rfl
  | y::r,W=>by
    have ih:=Ws.nums_snoc x r (W.numberOf y).2
    simp only [List.cons_append,Ws.nums,ih]
theorem Ws.nums_len:∀ (l:List (List UInt8)) (W:Ws),(W.nums l).1.length=l.length
  | [],W=>rfl
  | y::r,W=>by simp [Ws.nums,Ws.nums_len r]
def Ws.list (W:Ws):List Int×Ws:=if W.next.1=[] then ([],W.next.2) else W.next.2.nums (cutL 44 W.next.1)
def threes:List Int→List TM.Ed
  | a::b::c::r=>⟨a,b,c⟩::threes r
  | _=>[]
def Ws.edges (W:Ws):List TM.Ed×Ws:=if W.list.1.length%3≠0 then ([],W.list.2.ill) else (threes W.list.1,W.list.2)
def hexs:List UInt8:=[48,49,50,51,52,53,54,55,56,57,97,98,99,100,101,102]
def unhex:List UInt8→Option (List Nat)
  | a::b::r=>if indexByte hexs a<0∨indexByte hexs b<0 then none else (unhex r).map ((indexByte hexs a*16+indexByte hexs b).toNat::·)
  | _=>some []
def Ws.bytes (W:Ws):List Nat×Ws:=
  if W.next.1.length%2≠0 then ([],W.next.2.ill)
  else match unhex W.next.1 with
  | some L=>(L,W.next.2)
  | none=>([],W.next.2.ill)
def hexOf (L:List Nat):List UInt8:=L.flatMap fun c=>[hexs.getD (c / 16) 0,hexs.getD (c%16) 0]
def joined (xs:List (List UInt8)) (sep:UInt8):List UInt8:=if xs=[] then [45] else join xs [sep]
def pairText (p:Int×Int):List UInt8:=itoa p.1++[58]++itoa p.2
def yesNo (b:Bool):List UInt8:=if b then [121,101,115] else [110,111]

inductive An where
  | bad
  | err (n:Nat)
  | ok (s:List UInt8)
def An.of (e:Nat) (s:List UInt8):An:=if e=0 then .ok s else .err e
theorem An.of_ok {e:Nat} (h:e=0) (s:List UInt8):An.of e s=.ok s:=if_pos h
theorem An.of_err {e:Nat} (h:e≠0) (s:List UInt8):An.of e s=.err e:=if_neg h
def names:List (List UInt8):=[[79,75],[69,114,114,82,97,110,103,101],[69,114,114,83,121,110,116,97,120],[69,114,114,83,104,97,112,101],[69,114,114,70,117,108,108],[69,114,114,78,111,110,101],[69,114,114,83,116,97,116,101],[69,114,114,67,108,97,115,104],[69,114,114,83,104,111,114,116],[69,114,114,83,117,109]]
def An.tell:An→List UInt8
  | .bad=>[98,97,100]
  | .err n=>names.getD n [69,114,114,110,111]
  | .ok s=>s

end Go.Proofs.YtlppdppddiecnaaGreatDoor.RN

