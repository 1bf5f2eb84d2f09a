/-
  What each line of a session is answered, and what goes on from line to line. No program in this text.
-/
import Derived.Test.YtlppdppddiecnaaGreatDoorRunMathP
import Derived.Test.YtlppdppddiecnaaGreatDoorSerialP
import Derived.Test.YtlppdppddiecnaaGreatDoorMathAll
import Derived.Test.YtlppdppddiecnaaGreatDoorCrcAll
import Derived.Test.YtlppdppddiecnaaGreatDoorBackAll
import Derived.Test.YtlppdppddiecnaaGreatDoorRateAll
import Derived.Test.YtlppdppddiecnaaGreatDoorPackAll
import Derived.Test.YtlppdppddiecnaaGreatDoorTreeM
namespace Go.Proofs.YtlppdppddiecnaaGreatDoor.RN
open Go.Lib Go.Proofs.YtlppdppddiecnaaGreatDoor.RC

structure Ss where
  top:Int
  seen:Nat
  sp:Int
  f:VO.Sc
  nw:Int
  la:Int
  br:Bool
def ss0:Ss:=⟨-1,0,-1,fun _=>0,-1,-1,false⟩
structure Ss.Ok (S:Ss):Prop where
  t0:-1≤S.top
  t1:S.top≤1099511627776
  s1:S.seen<18446744073709551616
  vo:VO.Inv S.f S.sp
  ly:LM.Inv 1 S.nw S.la S.br

def uF (a b:Int):Nat:=if a<0∨1099511627776<a∨b<0∨65535<b then 1 else 0
def aUnwrap (W:Ws):An:=
  if W.number.2.number.2.left then .bad else An.of (uF W.number.1 W.number.2.number.1) (itoa (Ser.unw W.number.1 W.number.2.number.1))
def wF (T y:Int):Nat:=if y<0∨1099511627776<y then 1 else if 8≤T - y then 6 else 0
def wIs (T y:Int) (s:Nat):Bool:=decide (wF T y=0)&&(decide (T<y)||!Win.hasW 8 T s y)
def wT (T y:Int):Int:=if wF T y=0∧T<y then y else T
def wS (T y:Int) (s:Nat):Nat:=if wF T y=0 then (if T<y then Win.riseS s (y - T).toNat else s ||| 2 ^ (T - y).toNat) else s
def aSeen (S:Ss) (W:Ws):An×Ss:=
  if W.number.2.left then (.bad,S) else (An.of (wF S.top W.number.1) (yesNo (wIs S.top W.number.1 S.seen)),{ S with top:=wT S.top W.number.1,seen:=wS S.top W.number.1 S.seen })
def aSum (W:Ws):An:=if W.bytes.2.left then .bad else .ok (itoa (CM.go 0 W.bytes.1:Nat))
def oF (L:List Nat):Nat:=if L.length<4 then 8 else if CM.num 0 (L.drop (L.length - 4))=CM.go 0 (L.take (L.length - 4)) then 0 else 9
def aOpen (W:Ws):An:=if W.bytes.2.left then .bad else An.of (oF W.bytes.1) (hexOf (W.bytes.1.take (W.bytes.1.length - 4)))
def aPairs (W:Ws):An:=if W.list.2.left then .bad else An.of (Back.pfault W.list.1) (joined ((Back.pr (Back.prsOf W.list.1)).map pairText) 32)
def aFair (W:Ws):An:=
  if W.number.2.list.2.left then .bad else An.of (RT.rf W.number.1 W.number.2.list.1 200) (joined ((Rate.shr W.number.1 W.number.2.list.1).map itoa) 44)
def voices (L:List Int):VO.Vs:=L.zipIdx.map fun p=>((p.2:Int),p.1)
def aHear (S:Ss) (W:Ws):An×Ss:=
  if W.list.2.left then (.bad,S) else (An.of (VO.hf S.f (voices W.list.1)) (itoa (VO.stS S.f S.sp (voices W.list.1))),{ S with sp:=VO.stS S.f S.sp (voices W.list.1),f:=VO.stF S.f (voices W.list.1) })
def take1 (S:Ss) (n:Int) (g:Bool) (p:Nat) (l:Int) (st:Bool):An×Ss:=
  (An.of (LM.tkf S.la n g p) (yesNo (LM.tkx 1 S.nw S.la n S.br g p l st)),{ S with nw:=LM.tkN 1 S.nw S.la n S.br g p l st,la:=LM.tkL S.la n g p,br:=LM.tkB 1 S.nw S.la n S.br g p l st })
def aTake (S:Ss) (W:Ws):An×Ss:=
  if W.number.2.number.2.flag.2.left then (.bad,S)
  else take1 S W.number.1 false (PM.fault (W.number.1%65536) 0 W.number.2.number.1 0 0) W.number.2.number.1 W.number.2.number.2.flag.1
def aGone (S:Ss) (W:Ws):An×Ss:=if W.number.2.left then (.bad,S) else take1 S W.number.1 true 0 0 false
abbrev Far:=Int→List TM.Ed→List Int
def Far.Ok (D:Far):Prop:=∀ N L,TM.lf N L 0=0→TM.IsDist L N.toNat 0 (D N L)
def aWay (D:Far) (W:Ws):An:=
  if W.number.2.edges.2.left then .bad else An.of (TM.lf W.number.1 W.number.2.edges.1 0) (joined ((D W.number.1 W.number.2.edges.1).map itoa) 44)
def aDo (D:Far) (S:Ss) (x:List UInt8) (W:Ws):An×Ss:=
  if x=[117,110,119,114,97,112] then (aUnwrap W,S)
  else if x=[115,101,101,110] then aSeen S W
  else if x=[99,114,99] then (aSum W,S)
  else if x=[111,112,101,110] then (aOpen W,S)
  else if x=[112,97,105,114,115] then (aPairs W,S)
  else if x=[102,97,105,114] then (aFair W,S)
  else if x=[104,101,97,114] then aHear S W
  else if x=[116,97,107,101] then aTake S W
  else if x=[103,111,110,101] then aGone S W
  else if x=[119,97,121] then (aWay D W,S)
  else (.bad,S)
def line (D:Far) (S:Ss) (x:List UInt8):An×Ss:=aDo D S (ws0 x).next.1 (ws0 x).next.2
def answers (D:Far):Ss→List (List UInt8)→List UInt8
  | _,[]=>[]
  | S,x::r=>(line D S x).1.tell++[10]++answers D (line D S x).2 r
def after (D:Far):Ss→List (List UInt8)→Ss
  | S,[]=>S
  | S,x::r=>after D (line D S x).2 r
theorem answers_app (D:Far) (S:Ss) (l k:List (List UInt8)):answers D S (l++k)=answers D S l++answers D (after D S l) k:=by
  induction l generalizing S with
  | nil=>rfl
  | cons x r ih=>simp [answers,after,ih,List.append_assoc]
theorem after_app (D:Far) (S:Ss) (l k:List (List UInt8)):after D S (l++k)=after D (after D S l) k:=by
  induction l generalizing S with
  | nil=>rfl
  | cons x r ih=>simp [after,ih]
end Go.Proofs.YtlppdppddiecnaaGreatDoor.RN

