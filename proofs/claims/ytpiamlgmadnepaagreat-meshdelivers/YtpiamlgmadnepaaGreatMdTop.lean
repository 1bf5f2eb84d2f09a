/-
 What the proof needs.
-/
import Derived.Test.YtpiamlgmadnepaaGreatMdEnd
open Go.Proofs.Tryz
set_option linter.unusedVariables false
set_option maxHeartbeats 4000000
set_option maxRecDepth 100000
namespace Go.Proofs.YtpiamlgmadnepaaGreat.MS
open ChangeShapes WideShapes ChangeAt RowKit Maps PM Mem Pack NO ND
def chainE(m:Nat):List TM.Ed:=(List.range m).map λ(i:Nat)=>⟨(i:Int),(i:Int)+1,1⟩
theorem ξ84(m:Nat):chainE (m+1)=chainE m++[⟨(m:Int),(m:Int)+1,1⟩]:=by simp[chainE,List.range_succ]
theorem lit3c{w:World}{T:TypeId}(c0 c1 c2:Value):∀j u,[c0,c1,c2][j]?=some u->(w.alloc (.cells #[c0,c1,c2] T)).cell? ((⟨w.heap.size,0,none⟩:Addr).add j)=some u:=by
 intro j u hu;rw[Addr.add_lit,World.cell?_alloc_mark,Nat.zero_add,<-hu];exact List.getElem?_toArray
structure ChSt(w W:World)(j:Nat)(v:Value):Prop where
 below:Below w.heap.size w W
 own:W.ownsRow w.heap.size 87 3 v j (Tree.mc (chainE j))
theorem ξ83(n:Nat)(h1:1<=n)(h10:n<=10)(w:World) :
 Calls prog 7 #[.int .i64 (n:Int)] w λe w'=>∃a c,e=.returned (.slice a (n-1) c)/\Tree.A1t w' a (n-1) (chainE (n-1))/\(a=none->n-1=0/\c=0)/\n-1<=c/\Below w.heap.size w w':=by
 have ai:Hid (ChSt w w 0 (.slice none 0 0)):=⟨Ξp _ _,Ξr _ _ _ _⟩;obtain⟨ie,au,aw,ax,ay⟩:=info_parts Tree.infoED;go_enter func7,ntmps7;go_wp2_with fail
 go_loopg [3,4] (n-1) (λg u3 u4 wr=>∃(j:Nat) (v:Value),j+1+g=n/\v=u3/\u4=.int .i64 ((j:Int)+1)/\Hid (ChSt w wr j v))
 case atStart=>exact⟨0,_,by omega,rfl,rfl,ai⟩
 case round=>
 obtain⟨j,v,aE,rfl,rfl,HE⟩:=hrel;clear ai;by_cases hj:j+1<n
 case pos=>
  have az:(j:Int)+1<(n:Int):=by omega
  go_wp2_with (at_builtin;refine wpList_append_own _ rfl _ _ 28 rfl w.heap.size 87 ie _ 3 24 underlying28 au aw ax ay rfl (by decide) v j (Tree.mc (chainE j)) rfl (HE.out.own.alloc _) ⟨wr.heap.size,0,none⟩ 1 1 [.int .i64 (j:Int),.int .i64 ((j:Int)+1),.int .i64 1] rfl rfl ?cc ?one ?b1 ?b2 ?b3 ?next)
  case cc=>exact lit3c _ _ _
  case one=>simp[Value.oneCell']
  case b1=>unfold maxLen;omega
  case b2=>omega
  case b3=>have:=HE.out.below.size;simp;omega
  case next=>
  intro v3 w' ah ae _;have aA:Hid (ChSt w w' (j+1) v3):=by
   have hs:=HE.out.below.size;refine⟨(HE.out.below.alloc hs _).grown ae (by simp;omega) (λk hk=>(HE.out.own.lt k hk).1),?_⟩;rw[ξ84,Tree.ξg5];exact ah
  clear ah ae;go_wp2_with fail;go_roundg (n-(j+2))
  case measure=>omega
  case rel=>exact⟨j+1,v3,by omega,rfl,by go_num,aA⟩
 case neg=>
 have az:¬(j:Int)+1<(n:Int):=by omega
 have aC:j=n-1:=by omega
 subst aC;obtain⟨ea,ec,aD,aj,am,aq,-⟩:=Tree.ξ8v HE.out.own (by omega);subst aD;have HR:=ξ0 (And.intro aj (And.intro am aq));clear aj am aq;go_wp2_with fail;go_ret;exact⟨ea,ec,rfl,HR.out.1,HR.out.2.1,by have:=HR.out.2.2;omega,HE.out.below⟩
theorem ξ7u(w:World) :
 Calls prog 7 #[.int .i64 2] w λe w'=>∃a c,e=.returned (.slice a 1 c)/\Tree.A1t w' a 1 D1/\(a=none->(1:Nat)=0/\c=0)/\1<=c/\Below w.heap.size w w':=ξ83 2 (by omega) (by omega) w
theorem A9v(w:World) :
 Calls prog 10 #[.int .i64 5,.int .i64 2] w λe w'=>∃g,e=.returned (.agg #[.int .i64 5,.int .i64 5,.int .i64 2,.int .i64 0,.bool true,.slice (some ⟨g,0,none⟩) 2 2])/\Arg w' (some ⟨g,0,none⟩) 2 (LP.pL 5)/\w.heap.size<=g/\Below w.heap.size w w':=ξ3g 5 (by omega) 2 w
def A7v(P:List AU.Pk)(j:Nat):Int:=if P.length=0 then 0 else if 0<=(P.getD (j%P.length) AU.A0l).l/\(P.getD (j%P.length) AU.A0l).l<=3 then(P.getD (j%P.length) AU.A0l).l else 0
def stP(P:List AU.Pk)(j:Nat):Bool:=if P.length=0 then true else(P.getD (j%P.length) AU.A0l).st
def SP(P:List AU.Pk)(j:Nat):Pk:=⟨(j:Int),(j:Int),A7v P j,0,stP P j,LP.pL j⟩
theorem ξ8H(P:List AU.Pk)(j:Nat):0<=A7v P j/\A7v P j<=3:=by
 unfold A7v;split
 ·omega
 ·split
  ·rename_i h;exact h
  ·omega
theorem ξgn(P:List AU.Pk):A7b (SP P):=by
 refine⟨λi hi=>⟨?_,by omega,?_,LP.ξec i⟩,λi=>ξ8H P i⟩
 ·show(i:Int)=((0+i:Nat):Int);omega
 ·have h:=ξ8H P i;show PM.fault (i:Int) (i:Int) (A7v P i) 0 2=0;unfold PM.fault;rw[if_pos (by omega),if_pos (by omega)]
def qd(n r:Nat)(E:List TM.Ed)(S:Nat->Pk):A0r:=⟨n,0,E,λ_=>false,λ_=>r,λ_=>[],λ_=>[],λ_=>0,λ_ i=>S i,λk=>if k=0 then 90 else 0,λ_=>[]⟩
def rt1:Nat->Int:=λ_=>-1
def Zq(n r v:Nat)(mo:Int)(E:List TM.Ed)(p d:List Int)(P:List AU.Pk):Zd:=⟨n,r,v,mo,E,p,d,SP P⟩
theorem ξea{n r v:Nat}{mo:Int}{E:List TM.Ed}{p d:List Int}{P:List AU.Pk}(hT:Trees n r E p d)(hv:v<n)(hd:0<=TM.dg d v):(Zq n r v mo E p d P).Ok:=⟨hT,ξgn P,hv,hd⟩
section
variable {w W W':World}{b n r v:Nat}{E:List TM.Ed}{P:List AU.Pk}{p d:List Int}{mo at':Int}
def OA1(w W:World)(b n r:Nat)(E:List TM.Ed)(P:List AU.Pk):Prop:=PZ w W b (qd n r E (SP P)) A1y [] rt1 []
def OA2(w W:World)(b n r:Nat)(E:List TM.Ed)(P:List AU.Pk)(p d:List Int):Prop:=PZ w W b ((qd n r E (SP P)).A0g 0 p d) A1y [] (A0h rt1 0 (r:Int)) []
theorem ξgv(r:Nat)(P:List AU.Pk)(hb:Below w.heap.size w W)(a:Option Addr)(ln c:Nat)(hA:Tree.A1t W a ln E)(hn:a=none->ln=0/\c=0)(hc:ln<=c)(hf:TM.ef (n:Int) E=0) :
 Calls prog 6 #[.int .i64 (n:Int),.slice a ln c] W λe w'=>∃b,e=.returned (.tuple #[.pointer (some ⟨b,0,none⟩),.nilIface])/\OA1 w w' b n r E P:=
 ξ6K (Q:=qd n r E (SP P)) hb a ln c hA hn hc hf rfl (λ_=>rfl) (λ_=>rfl)
theorem ξgu(h:OA1 w W b n r E P)(hr:r<n)(hf:TM.ef (n:Int) E=0) :
 Calls prog 8 #[.pointer (some ⟨b,0,none⟩),.int .i64 1,.int .i64 (r:Int)] W λe w'=>e=.returned .nilIface/\∃p d,Trees n r E p d/\OA2 w w' b n r E P p d:=
 ξ2Z h (k:=0) (by omega) rfl rfl hr hf
theorem ξd5(h:OA1 w W b n r E P)(x:Int)(hx:¬(0<=x/\x<(n:Int))) :
 Calls prog 8 #[.pointer (some ⟨b,0,none⟩),.int .i64 1,.int .i64 x] W λe w'=>e=.returned (ND.A0a 1)/\w'=W:=by
 obtain⟨M,⟨o,Q,h1,h2,hb⟩,hP,e1,e2,e3⟩:=h;exact ξ65 b o Q M 1 x W h1 (by rw[hP.n];exact .inr hx)
theorem OA1.bel(h:OA1 w W b n r E P):Below w.heap.size w W:=PZ.bel h
theorem OA2.bel(h:OA2 w W b n r E P p d):Below w.heap.size w W:=PZ.bel h
def B05(n:Nat)(d:List Int)(x mo:Int):Prop:=(0<=x/\x<(n:Int))/\(0<=mo/\mo<=3)/\0<=TM.dg d x.toNat
theorem ξd4(h:OA2 w W b n r E P p d)(x mo:Int)(hx:¬B05 n d x mo) :
 Calls prog 9 #[.pointer (some ⟨b,0,none⟩),.int .i64 1,.int .i64 x,.int .i64 mo] W λe w'=>∃f:Nat,f≠0/\e=.returned (.tuple #[.int .i64 0,ND.A0a f])/\Below W.heap.size W w':=by
 obtain⟨M,⟨o,Q,h1,h2,hb⟩,hP,e1,e2,e3⟩:=h;by_cases c1:0<=x/\x<(n:Int)
 ·obtain⟨v,rfl⟩:∃v:Nat,x=(v:Int):=⟨x.toNat,by omega⟩;have hv:v<n:=by omega
  have ae:=(hP.ok.nd v (by rw[hP.n];exact hv)).1;have key:sF (M.nd v) 1 mo≠0:=by
   have ah:¬okT 1=false:=by decide
   unfold sF;rw[if_neg ah];by_cases c3:mo<0∨3<mo
   ·rw[if_pos c3];omega
   ·rw[if_neg c3];have c4:TM.dg d v<0:=by
     rcases Int.lt_or_le (TM.dg d v) 0 with c|c
     ·exact c
     ·exact absurd ⟨c1,by omega,by rw[Int.toNat_natCast];exact c⟩ hx
    have:(M.nd v).tr 0=none:=hP.no v hv 0 (by omega) (by
     cases ha:((qd n r E (SP P)).A0g 0 p d).at 0 v with
     | false=>rfl
     | true=>
       have:=(A0r.A3c.1 ha).2;rw[(ξT (qd n r E (SP P)) 0 p d).2.2]at this;omega)
    rw[if_pos (by show((M.nd v).tr 0).isNone=true;rw[this];rfl)];omega
  refine(ξcB b v o Q M 1 mo W h1 (by rw[hP.n];exact hv) key ae.si).mono ?_;rintro e w' ⟨rfl,ai⟩;exact⟨_,key,rfl,ai⟩
 ·refine(ξaE b o Q M 1 x mo W h1 (by rw[hP.n];exact c1)).mono ?_;rintro e w' ⟨rfl,rfl⟩;exact⟨1,by omega,rfl,Ξp _ _⟩
theorem ξgt(hT:Trees n r E p d)(h:OA2 w W b n r E P p d)(hv:v<n)(hd:0<=TM.dg d v)(hmo:0<=mo/\mo<=3) :
 Calls prog 9 #[.pointer (some ⟨b,0,none⟩),.int .i64 1,.int .i64 (v:Int),.int .i64 mo] W λe w'=>e=.returned (.tuple #[.int .i64 1,.nilIface])/\DL w w' b (Zq n r v mo E p d P) 0 0 (.slice none 0 0) []:=by
 have hZ:=ξea (mo:=mo) (P:=P) hT hv hd;obtain⟨q1,q2,q3⟩:=ξT (qd n r E (SP P)) 0 p d;have aq:((qd n r E (SP P)).A0g 0 p d).at 0 v=true:=A0r.A3c.2 ⟨q1,by rw[q3];exact hd⟩;refine(ξ6J h (k:=0) (v:=v) (by omega) hv aq (mo:=mo) hmo.1 hmo.2 (by show([]:List (Int×Sb)).length<20;simp) (by simp)).mono ?_;rintro e w' ⟨rfl,M,hz,hP,e1,e2,e3⟩;refine⟨rfl,[],[],⟨M,[],hz.zn,?_,Nat.zero_le _,?_⟩,RD.nil⟩
 ·have hB:∀u,u<n->(M.nd u).sb=if u=v then[(1,s0 1 mo)]else[]:=by
   intro u hu;have hs:=hP.sb u hu;have ai:(M.nd u).sb=(A0h (λ_=>([]:List (Int×Sb))) v ([]++[((([]:List (Int×Sb)).length:Int)+1,s0 (((0:Nat):Int)+1) mo)]) u).map (A0r.sub (((qd n r E (SP P)).A0g 0 p d).A5g v ((([]:List (Int×Sb)).length:Int)+1,s0 (((0:Nat):Int)+1) mo)) A1y u):=hs;by_cases c:u=v
   ·rw[if_pos c,ai,c,ξe];rfl
   ·rw[if_neg c,ai,ξh _ _ c];rfl
  refine⟨hP.ok,hP.n,?_,?_,λu hu hr=>?_,λu hu hr=>?_,λu hu k h0 hk=>?_,λu hu hn=>?_,⟨s0 1 mo,?_,SD.start _ _ _⟩,hP.fl,λu i hx=>(by cases hx),λu L hx=>(by cases hx),λu k hx=>(by cases hx),by omega⟩
  ·rw[e1];exact ξe _ _ _
  ·rw[e2];rfl
  ·have ae:0<=TM.dg d u:=hr;have ah:(((qd n r E (SP P)).A0g 0 p d).A5g v ((([]:List (Int×Sb)).length:Int)+1,s0 (((0:Nat):Int)+1) mo)).at 0 u=true:=A0r.A3c.2 ⟨q1,by show 0<=TM.dg (((qd n r E (SP P)).A0g 0 p d).d 0) u;rw[q3];exact ae⟩;obtain⟨t,ht,hH⟩:=hP.tr u hu 0 (by omega) ah;have hO:A3h M.n (M.nd u).nw 0 t:=(hP.ok.nd u (by rw[hP.n];exact hu)).1.tr 0 (by omega) t ht;have au:t.rM=[]:=by
    rcases hO.ri.tops with⟨_,e⟩|⟨i,hi,e⟩
    ·exact e
    ·have:=(hO.ri.mem i hi).1;have e4:t.rT=-1:=hH.rT;omega
   have aj:t.pa=TM.dg (((qd n r E (SP P)).A0g 0 p d).p 0) u:=hH.pa;have am:t.kids=TM.kd (((qd n r E (SP P)).A0g 0 p d).p 0) (u:Int) n:=hH.kids;rw[q2]at aj am;exact⟨t,ht,⟨hH.tk,hH.ep,aj,am,.inl hH.gT,.inl hH.rT,λx hx=>(by rw[hH.gM]at hx;cases hx),λx hx=>(by rw[au]at hx;cases hx)⟩⟩
  ·have ae:¬0<=TM.dg d u:=hr;refine hP.no u hu 0 (by omega) ?_;cases ha:(((qd n r E (SP P)).A0g 0 p d).A5g v ((([]:List (Int×Sb)).length:Int)+1,s0 (((0:Nat):Int)+1) mo)).at 0 u with
   | false=>exact ha
   | true=>
     have h2:=(A0r.A3c.1 ha).2;have h3:0<=TM.dg (((qd n r E (SP P)).A0g 0 p d).d 0) u:=h2;rw[q3]at h3;exact absurd h3 ae
  ·refine hP.no u hu k hk ?_;have h2:=(ξ18 (qd n r E (SP P)) 0 p d (j:=k) (by omega)).2.2.2 u;have h3:((qd n r E (SP P)).A0g 0 p d).at k u=false:=by rw[h2];rfl
   exact h3
  ·have aw:u≠v:=hn;rw[hB u hu,if_neg aw]
  ·show(M.nd v).sb=_;rw[hB v hv,if_pos rfl]
 ·have e:M.nw=0:=hP.nw;rw[e];omega
theorem ξeP(hT:Trees n r E p d)(a:Option Addr)(ln c:Nat)(hA:Tree.A1t W a ln E)(hc:ln<=c)(hf:TM.ef (n:Int) E=0) :
 Calls prog 16 #[.int .i64 (n:Int),.slice a ln c,.int .i64 (r:Int)] W λe w'=>∃vp da dc,e=.returned (.tuple #[vp,.slice da n dc,.nilIface])/\Below W.heap.size W w'/\Tree.A0b w' da n d:=by
 have hr:=hT.rn;have ae:TM.lf (n:Int) E (r:Int)=0:=by
  unfold TM.lf;rw[if_neg (by simp[hf]),if_neg (by simp[TM.isn];omega)]
 have ah:=hT.fit.hi;refine(Tree.ξ47 (n:Int) (r:Int) a ln c E W hA hc).mono ?_;rintro e w' ⟨vp,vd,p',d',rfl,hq⟩;obtain⟨q1,q2,q3⟩:=hq.bp.2 ae;rw[Int.toNat_natCast,Int.toNat_natCast]at q1;have e1:=q1.uniq hT.dist;subst e1;have o2:=hq.own2;rw[q1.len]at o2;obtain⟨da,dc,rfl,x2,_⟩:=Tree.ξl o2 (by omega);rw[ae];exact⟨vp,da,dc,rfl,hq.bel,x2⟩
end
end Go.Proofs.YtpiamlgmadnepaaGreat.MS
