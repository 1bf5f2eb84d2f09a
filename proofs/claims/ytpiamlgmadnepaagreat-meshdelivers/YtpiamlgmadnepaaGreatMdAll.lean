/-
 What the proof needs.
-/
import Derived.Test.YtpiamlgmadnepaaGreatMeshMath
import Derived.Lib.SlBytesConst
open Go.Proofs.Tryz
set_option linter.unusedVariables false
set_option maxRecDepth 100000
namespace Go.Proofs.YtpiamlgmadnepaaGreat.MS
open ChangeShapes WideShapes ChangeAt RowKit Maps Mem NO ND
variable {w W:World}{a:Option Addr}{n b:Nat}
def E1:List TM.Ed:=[⟨0,1,1⟩,⟨1,2,1⟩]
theorem A7a{x:Nat}(h:x<3):x=0∨x=1∨x=2:=by omega
theorem ξcl:TM.ef 3 E1=0:=by decide
theorem ξfF:TM.A0z E1 3 0 [0,1,2]:=by
 have w0:TM.Way E1 3 0 0 0:=TM.Way.here E1 3 0;have w1:TM.Way E1 3 0 1 1:=w0.step (y:=1) (by omega) (by decide);have w2:TM.Way E1 3 0 2 2:=w1.step (y:=2) (by omega) (by decide);refine TM.ξ3y rfl (by omega) rfl ?_ ?_
 ·intro x hx;rcases A7a hx with rfl|rfl|rfl
  ·exact .inr w0
  ·exact .inr w1
  ·exact .inr w2
 ·intro x hx _ y hy;rcases A7a hx with rfl|rfl|rfl<;>rcases A7a hy with rfl|rfl|rfl<;>decide
theorem ξfE:TM.A15 E1 [0,1,2] 3 [-1,0,1]:=by
 refine⟨rfl,?_⟩;intro i hi;rcases A7a hi with rfl|rfl|rfl
 ·refine .inl ⟨rfl,?_⟩;intro f hf;rcases A7a hf with rfl|rfl|rfl<;>(unfold TM.good;decide)
 ·refine .inr ⟨0,rfl,by omega,by unfold TM.good;decide,λf hf=>by omega⟩
 ·refine .inr ⟨1,rfl,by omega,by unfold TM.good;decide,?_⟩;intro f hf;have:f=0:=by omega
  subst this;unfold TM.good;decide
theorem ξau{p d:List Int}(h:Trees 3 0 E1 p d):p=[-1,0,1]/\d=[0,1,2]:=by
 have e:=h.dist.uniq ξfF;subst e;exact⟨h.pars.uniq ξfE,rfl⟩
def la:Pk:=⟨65535,0,0,0,true,[108,97]⟩
def q1:A0r:=⟨3,0,E1,λ_=>false,λ_=>0,λ_=>[],λ_=>[],λ_=>65535,λ_ _=>la,λk=>if k=3 then 1 else 0,λ_=>[]⟩
def q2:A0r:=q1.A0g 3 [-1,0,1] [0,1,2]
def q3:A0r:=q2.A5g 2 (1,s0 4 0)
def h3:Nat->Nat->Nat:=upH (upH (upH A1y 3 0) 3 1) 3 2
theorem ξeO:∃t,(q3.sub h3 2 (1,s0 4 0)).2.got=[⟨0,t,0,0,true,[108,97]⟩]:=by
 have hO:A1k 0 (s0 4 0):=A1k.start 4 0;have e:=((SbR.start 65535 4 0).push hO (Int.le_refl 0) (by omega) (by omega) la (by decide)).1;have e2:(q3.sub h3 2 (1,s0 4 0)).2=(s0 4 0).push (65536+((65535:Nat):Int)+((0:Nat):Int)) 0 la:=rfl;rw[e2,e];exact⟨_,rfl⟩
theorem B0y:∀(X:List (Pk×Value)) (j:Nat) (h:j<X.length),∀t,t<6->(X.flatMap λz=>pc z.1 z.2)[j*6+t]?=(pc X[j].1 X[j].2)[t]?
 | [],j,h=>absurd h (by simp)
 | x::X,0,h=>λt ht=>by
   simp only[List.flatMap_cons,List.getElem_cons_zero];rw[Ξt (by simp[pc];omega)];simp
 | x::X,j+1,h=>λt ht=>by
   have:=B0y X j (by simpa using h) t ht;simp only[List.flatMap_cons,List.getElem_cons_succ];rw[List.getElem?_append_right (by simp[pc];omega),<-this]
   congr 1
   simp[pc];omega
theorem ξbJ{o:Nat->Tg}{c:Nat}{G:List Pk}(h:ξO w o (.slice a n c) G){j:Nat}(hj:j<G.length):∃g a' m c',a=some ⟨g,0,none⟩/\(w.cell? ⟨g,j*6,none⟩=some (.int .i64 G[j].s)/\w.cell? ⟨g,j*6+1,none⟩=some (.int .i64 G[j].t)/\w.cell? ⟨g,j*6+2,none⟩=some (.int .i64 G[j].l)/\w.cell? ⟨g,j*6+3,none⟩=some (.int .i64 G[j].q)/\w.cell? ⟨g,j*6+4,none⟩=some (.bool G[j].st)/\w.cell? ⟨g,j*6+5,none⟩=some (.slice a' m c'))/\Arg w a' m G[j].L:=by
 obtain⟨X,r1,r2,r3⟩:=h;have ah:G.length=X.length:=by rw[<-r1,Ξm]
 have ae:j<X.length:=by omega
 have hG:G[j]=X[j].1:=by simp[<-r1]
 rcases r2.2 with⟨e,h0⟩|⟨g,cap,cur,e,_⟩
 ·omega
 ·cases e;obtain⟨a',m,c',eb,hA,_⟩:=r3 X[j] (List.getElem_mem ae);have hl:(X.flatMap λz=>pc z.1 z.2).length=X.length*6:=r2.1;have k:∀t,t<6->w.cell? ⟨g,j*6+t,none⟩=(pc X[j].1 X[j].2)[t]?:=λt ht=>by rw[r2.cellAt (j*6+t) (by omega),B0y X j ae t ht]
  rw[hG];refine⟨g,a',m,c',rfl,⟨k 0 (by omega),k 1 (by omega),k 2 (by omega),k 3 (by omega),k 4 (by omega),?_⟩,hA⟩;rw[k 5 (by omega),eb];rfl
theorem ξcC{cap:Nat}{L:List Nat}(h:Arg w a n L):(convert 36 9 (.slice a n cap)).run prog w=.ok (.string (str L)) w:=by
 cases L with
 | cons c L=>
   obtain⟨b,o,e,_⟩:=h.1.2 0 (by simp);exact ξ3e underlying36 underlying5 underlying9 h (λad h=>by rw[e]at h;exact⟨b,o,(Option.some.inj h).symm⟩)
 | nil=>
   have hn:n=0:=by have:=h.2.1;simpa using this.symm
   subst hn;cases a with
   | none=>exact ξ3e underlying36 underlying5 underlying9 h (λad h=>by simp at h)
   | some ad=>
     rw[run_convert_bytes_string w 36 9 5 _ 0 cap underlying36 underlying5 underlying9];have hl:(loadCells ad 0).run prog w=.ok #[] w:=run_loadCells_list (P:=prog) w ad [] (λj v hj=>by simp at hj);simp[Conv.bytesToString,str,strOfNums,hl];rfl
def O2(w W:World)(b:Nat):Prop:=PZ w W b q2 A1y [] (A0h (λ_=>-1) 3 0) []
def O3(w W:World)(b:Nat):Prop:=PZ w W b q3 A1y [] (A0h (λ_=>-1) 3 0) [(2,1)]
def O6(w W:World)(b:Nat):Prop:=PZ w W b q3 h3 [] (A0h (λ_=>-1) 3 0) [(2,1)]
theorem o1(w:World)(a:Nat)(W:World)(hw:Below w.heap.size w W)(hc:W.heap[a]?=some (.cells #[.int .i64 0,.int .i64 1,.int .i64 1,.int .i64 1,.int .i64 2,.int .i64 1] 87 (0,0))) :
 Calls prog 6 #[.int .i64 3,.slice (some ⟨a,0,none⟩) 2 2] W λe w'=>∃b,e=.returned (.tuple #[.pointer (some ⟨b,0,none⟩),.nilIface])/\Hid (PZ w w' b q1 A1y [] (λ_=>-1) []):=by
 have hA:Tree.A1t W (some ⟨a,0,none⟩) 2 q1.E:=by
  refine⟨?_,rfl,by omega⟩;intro j hj;have hj:j<2:=hj;refine⟨a,0,rfl,?_⟩
  have:j=0∨j=1:=by omega
  rcases this with rfl|rfl<;>(refine⟨?_,?_,?_⟩<;>(simp only[World.cell?,hc];rfl))
 refine(ξ6K (Q:=q1) hw (some ⟨a,0,none⟩) 2 2 hA (λe=>by cases e) (by omega) ξcl rfl (λ_=>rfl) (λ_=>rfl)).mono ?_;rintro e w' ⟨b,rfl,h⟩;exact⟨b,rfl,ξ0 h⟩
theorem o2(h:PZ w W b q1 A1y [] (λ_=>-1) []) :
 Calls prog 8 #[.pointer (some ⟨b,0,none⟩),.int .i64 4,.int .i64 0] W λe w'=>e=.returned .nilIface/\Hid (O2 w w' b):=by
 refine(ξ2Z h (k:=3) (by omega) rfl rfl (by show 0<3;omega) ξcl).mono ?_;rintro e w' ⟨rfl,p,d,hT,hz⟩;obtain⟨rfl,rfl⟩:=ξau hT;exact⟨rfl,ξ0 hz⟩
theorem o3(h:O2 w W b) :
 Calls prog 9 #[.pointer (some ⟨b,0,none⟩),.int .i64 4,.int .i64 2,.int .i64 0] W λe w'=>e=.returned (.tuple #[.int .i64 1,.nilIface])/\Hid (O3 w w' b):=by
 refine(ξ6J h (k:=3) (v:=2) (by omega) (by show 2<3;omega) rfl (mo:=0) (by omega) (by omega) (by show 0<20;omega) (by simp)).mono ?_;rintro e w' ⟨rfl,hz⟩;exact⟨rfl,ξ0 hz⟩
theorem o8(h:O6 w W b) :
 Calls prog 14 #[.pointer (some ⟨b,0,none⟩),.int .i64 1] W λe w'=>∃g c a' m c',e=.returned (.tuple #[.slice (some ⟨g,0,none⟩) 1 c,.nilIface])/\w'.cell? ⟨g,0,none⟩=some (.int .i64 0)/\w'.cell? ⟨g,5,none⟩=some (.slice a' m c')/\(∀W,W.heap=w'.heap->(convert 36 9 (.slice a' m c')).run prog W=.ok (.string (str [108,97])) W)/\Hid (Below w.heap.size w w'):=by
 refine(ξfY h (j:=0) (v:=2) (A:=[]) (C:=[]) (x:=(1,s0 4 0)) rfl (by show 2<3;omega) rfl (by simp)).mono ?_;rintro e w' ⟨a,c,o,rfl,hg,hb⟩;obtain⟨t,ht⟩:=ξeO;rw[ht]at hg ⊢;obtain⟨g,a',m,c',rfl,⟨k0,k1,k2,k3,k4,k5⟩,hA⟩:=ξbJ hg (j:=0) (by simp);refine⟨g,c,a',m,c',rfl,k0,k5,?_,ξ0 hb⟩;intro W hW;have hA:Arg w' a' m [108,97]:=hA;have ae:Arg W a' m [108,97]:=by
  refine⟨⟨hA.1.1,?_⟩,hA.2⟩;intro j hj;obtain⟨b',o',e',hc⟩:=hA.1.2 j hj;exact⟨b',o',e',by simp only[World.cell?,hW];simpa only[World.cell?]using hc⟩
 exact ξcC ae
def PC(w W:World)(b:Nat)(Q:A0r)(c:Nat->Nat)(now:Int)(rt:Nat->Int)(sb:List (Int×Int)):Prop:=∃M h,Zt w W b M/\A3e Q h M/\A4x Q c h/\M.nw=now/\M.rt=rt/\M.sb=sb/\M.E=Q.E
theorem ξeA{Q:A0r}(hQ:Q.Ok){c:Nat->Nat}(hF:∀h,A4x Q c h->Full Q h)(hnow:0<=Q.now/\Q.now<=900000){h:Nat->Nat->Nat}{X:List Fy}{rt:Nat->Int}{sb:List (Int×Int)}(hz:PZ w W b Q h X rt sb)(hc:∀k,k<8->h k (Q.rt k)=c k) :
 Calls prog 13 #[.pointer (some ⟨b,0,none⟩)] W λe w'=>e=.returned (.int .i64 (if X=[]then 2 else 3))/\PC w w' b Q c (Q.now+(if X=[]then 6 else 9)) rt sb:=by
 obtain⟨M,⟨o,P,h1,h2,hb⟩,hP,e1,e2,e3⟩:=hz;refine(ξc6 hQ hF hnow b o P M h X W h1 hP hc).mono ?_;rintro e w' ⟨rfl,h',M',hC,hH,hS,ae,hd⟩;exact⟨rfl,M',h',Zt.next (M:=M) hb h2 hd,hC,hH,ae,hS.rt.trans e1,hS.sb.trans e2,hS.E.trans e3⟩
end Go.Proofs.YtpiamlgmadnepaaGreat.MS
namespace Go.Proofs.YtpiamlgmadnepaaGreat.LP
open ChangeShapes WideShapes ChangeAt RowKit Maps Go.Lib Mem NO
def pL(n:Nat):List Nat:=[n%256,n/256%256]
theorem ξec(n:Nat):∀c∈pL n,c<256:=by
 intro c hc;unfold pL at hc;simp only[Ξf,List.not_mem_nil,or_false]at hc;omega
end Go.Proofs.YtpiamlgmadnepaaGreat.LP
namespace Go.Proofs.YtpiamlgmadnepaaGreat.MS
open ChangeShapes WideShapes ChangeAt RowKit Maps Mem NO ND
variable {w W:World}{b i m':Nat}{x:OM.Kp}{c:List Nat}{s2:Sb}{now:Int}
def D1:List TM.Ed:=[⟨0,1,1⟩]
theorem A6f{x:Nat}(h:x<2):x=0∨x=1:=by omega
theorem ξ7z:TM.ef 2 D1=0:=by decide
theorem ξ92:TM.A0z D1 2 0 [0,1]:=by
 have w0:TM.Way D1 2 0 0 0:=TM.Way.here D1 2 0;have w1:TM.Way D1 2 0 1 1:=w0.step (y:=1) (by omega) (by decide);refine TM.ξ3y rfl (by omega) rfl ?_ ?_
 ·intro x hx;rcases A6f hx with rfl|rfl
  ·exact .inr w0
  ·exact .inr w1
 ·intro x hx _ y hy;rcases A6f hx with rfl|rfl<;>rcases A6f hy with rfl|rfl<;>decide
theorem ξ91:TM.A15 D1 [0,1] 2 [-1,0]:=by
 refine⟨rfl,?_⟩;intro i hi;rcases A6f hi with rfl|rfl
 ·refine .inl ⟨rfl,?_⟩;intro f hf;rcases A6f hf with rfl|rfl<;>(unfold TM.good;decide)
 ·exact .inr ⟨0,rfl,by omega,by unfold TM.good;decide,λf hf=>by omega⟩
theorem ξat{p d:List Int}(h:Trees 2 0 D1 p d):p=[-1,0]/\d=[0,1]:=by
 have e:=h.dist.uniq ξ92;subst e;exact⟨h.pars.uniq ξ91,rfl⟩
def lb:Pk:=⟨5,5,2,0,true,[5,0]⟩
def d1:A0r:=⟨2,0,D1,λ_=>false,λ_=>0,λ_=>[],λ_=>[],λ_=>5,λ_ _=>lb,λk=>if k=0 then 1 else 0,λ_=>[]⟩
def d2:A0r:=d1.A0g 0 [-1,0] [0,1]
def d3:A0r:=d2.A5g 1 (1,s0 1 2)
theorem ξgC:d1.Ok:=by
 refine⟨(λk hk ho=>by cases ho),?_,?_⟩
 ·intro k hk i hi;have hi:i<(if k=0 then 1 else 0):=hi;split at hi
  ·have:i=0:=by omega
   subst this;exact⟨rfl,by show 5+0<=65535;omega,by show PM.fault lb.s lb.t lb.l lb.q lb.L.length=0;decide,by show ∀c∈lb.L,c<256;decide⟩
  ·omega
 ·intro k;show(if k=0 then 1 else 0)<=1000;split<;>omega
theorem ξas:Trees 2 0 D1 [-1,0] [0,1]:=⟨by have:=(TM.ξ2d.1 ξ7z).2;exact this,by omega,ξ92,ξ91⟩
theorem ξgB:d2.Ok:=ξgC.A0g ξas
theorem ξeg:d3.Ok:=ξgB.A5g _ _
theorem ξ8d(h:Nat->Nat->Nat)(hh:h 0 1=1):∃t,(d3.sub h 1 (1,s0 1 2)).2.got=[⟨0,t,2,0,true,[5,0]⟩]/\(d3.sub h 1 (1,s0 1 2)).2.wants=false:=by
 have hO:A1k 0 (s0 1 2):=A1k.start 1 2;have e:=((SbR.start 5 1 2).push hO (Int.le_refl 0) (by omega) (by omega) lb (by decide)).1;have e2:(d3.sub h 1 (1,s0 1 2)).2=(s0 1 2).push (65536+((5:Nat):Int)+((0:Nat):Int)) 0 lb:=by
  have:d3.sub h 1 (1,s0 1 2)=d3.sub (λ_ _=>1) 1 (1,s0 1 2):=by
   show((1:Int),A5p (s0 1 2) d3.now (d3.sq 0) (d3.pk 0) (h 0 1))=((1:Int),A5p (s0 1 2) d3.now (d3.sq 0) (d3.pk 0) 1);rw[hh]
  rw[this];rfl
 rw[e2,e];exact⟨_,rfl,rfl⟩
theorem ξ3g(n:Nat)(hn:n<=1000)(l:Int)(w:World) :
 Calls prog 10 #[.int .i64 (n:Int),.int .i64 l] w λe w'=>∃g,e=.returned (.agg #[.int .i64 (n:Int),.int .i64 (n:Int),.int .i64 l,.int .i64 0,.bool true,.slice (some ⟨g,0,none⟩) 2 2])/\Arg w' (some ⟨g,0,none⟩) 2 (LP.pL n)/\w.heap.size<=g/\Below w.heap.size w w':=by
 have e1:(n:Int).tmod 65536=(n:Int):=by rw[Int.tmod_eq_emod_of_nonneg (by omega)];omega
 go_enter func10,ntmps10;go_wp2_with fail
 have hc:=heap_alloc_new (w.alloc (.cells #[.int .i64 (n:Int),.int .i64 (n:Int),.int .i64 l,.int .i64 0,.bool true,.slice (some ⟨w.heap.size+1,0,none⟩) 2 2] 38)) (.cells #[.int .u8 ((n:Int)%256),.int .u8 ((n:Int)/256%256)] 5);simp only[World.size_alloc]at hc;have ae:=(Pack.Box.new w (n:Int) (n:Int) l 0 true (.slice (some ⟨w.heap.size+1,0,none⟩) 2 2)).alloc (.cells #[.int .u8 ((n:Int)%256),.int .u8 ((n:Int)/256%256)] 5);have ah:Below w.heap.size w ((w.alloc (.cells #[.int .i64 (n:Int),.int .i64 (n:Int),.int .i64 l,.int .i64 0,.bool true,.slice (some ⟨w.heap.size+1,0,none⟩) 2 2] 38)).alloc (.cells #[.int .u8 ((n:Int)%256),.int .u8 ((n:Int)/256%256)] 5)):=((Ξp _ _).alloc (Ξo _) _).alloc (by simp) _;obtain⟨W2,ai⟩:=nm ((w.alloc (.cells #[.int .i64 (n:Int),.int .i64 (n:Int),.int .i64 l,.int .i64 0,.bool true,.slice (some ⟨w.heap.size+1,0,none⟩) 2 2] 38)).alloc (.cells #[.int .u8 ((n:Int)%256),.int .u8 ((n:Int)/256%256)] 5));rw[ai]at hc ah ae;rw[ai];refine bodyPost_ret (Pack.ξ56 (g:=w.heap.size) rfl rfl ae) rfl ?_;refine⟨w.heap.size+1,rfl,⟨⟨LP.ξec n,λj hj=>⟨w.heap.size+1,0,rfl,?_⟩⟩,rfl,by omega⟩,by omega,ah⟩;have aj:j<2:=hj;rcases(by omega:j=0∨j=1)with rfl|rfl
 ·simp[World.cell?,hc,LP.pL]
 ·simp[World.cell?,hc,LP.pL]
def F2(w W:World)(b:Nat):Prop:=PZ w W b d2 A1y [] (A0h (λ_=>-1) 0 0) []
def F3(w W:World)(b:Nat):Prop:=PZ w W b d3 A1y [] (A0h (λ_=>-1) 0 0) [(1,1)]
def F4(w W:World)(b:Nat):Prop:=PZ w W b d3 (upH A1y 0 0) [⟨0,1,0⟩] (A0h (λ_=>-1) 0 0) [(1,1)]
def c1:Nat->Nat:=λk=>if k=0 then 1 else 0
def F5(w W:World)(b:Nat):Prop:=PC w W b d3 c1 9 (A0h (λ_=>-1) 0 0) [(1,1)]
theorem f1(hw:Below w.heap.size w W)(a:Option Addr)(c:Nat)(hA:Tree.A1t W a 1 D1)(hn:a=none->(1:Nat)=0/\c=0)(hc:1<=c) :
 Calls prog 6 #[.int .i64 2,.slice a 1 c] W λe w'=>∃b,e=.returned (.tuple #[.pointer (some ⟨b,0,none⟩),.nilIface])/\Hid (PZ w w' b d1 A1y [] (λ_=>-1) []):=by
 refine(ξ6K (Q:=d1) hw a 1 c hA hn hc ξ7z rfl (λ_=>rfl) (λ_=>rfl)).mono ?_;rintro e w' ⟨b,rfl,h⟩;exact⟨b,rfl,ξ0 h⟩
theorem f2(h:PZ w W b d1 A1y [] (λ_=>-1) []) :
 Calls prog 8 #[.pointer (some ⟨b,0,none⟩),.int .i64 1,.int .i64 0] W λe w'=>e=.returned .nilIface/\Hid (F2 w w' b):=by
 refine(ξ2Z h (k:=0) (by omega) rfl rfl (by show 0<2;omega) ξ7z).mono ?_;rintro e w' ⟨rfl,p,d,hT,hz⟩;obtain⟨rfl,rfl⟩:=ξat hT;exact⟨rfl,ξ0 hz⟩
theorem f3(h:F2 w W b) :
 Calls prog 9 #[.pointer (some ⟨b,0,none⟩),.int .i64 1,.int .i64 1,.int .i64 2] W λe w'=>e=.returned (.tuple #[.int .i64 1,.nilIface])/\Hid (F3 w w' b):=by
 refine(ξ6J h (k:=0) (v:=1) (by omega) (by show 1<2;omega) rfl (mo:=2) (by omega) (by omega) (by show 0<20;omega) (by simp)).mono ?_;rintro e w' ⟨rfl,hz⟩;exact⟨rfl,ξ0 hz⟩
theorem f4{W0:World}{g:Nat}(h:F3 w W0 b)(hb:Below W0.heap.size W0 W)(hg:W0.heap.size<=g)(hA:Arg W (some ⟨g,0,none⟩) 2 (LP.pL 5)) :
 Calls prog 12 #[.pointer (some ⟨b,0,none⟩),.int .i64 1,.agg #[.int .i64 5,.int .i64 5,.int .i64 2,.int .i64 0,.bool true,.slice (some ⟨g,0,none⟩) 2 2]] W λe w'=>e=.returned .nilIface/\Hid (F4 w w' b):=by
 refine(ξez ξeg h hb (k:=0) (by omega) rfl rfl (by decide) (some ⟨g,0,none⟩) 2 (p:=lb) rfl hA (λe=>by cases e) (λ_ ad e=>by cases e;exact .inr hg)).mono ?_;rintro e w' ⟨rfl,hz⟩;exact⟨rfl,ξ0 hz⟩
theorem ξfp:∀h,A4x d3 c1 h->Full d3 h:=by
 intro h hh v hv x hx;have hv:v<2:=hv;rcases A6f hv with rfl|rfl
 ·have hx:x∈([]:List (Int×Sb)):=hx;cases hx
 ·have hx:x∈[((1:Int),s0 1 2)]:=hx;rw[Ξg]at hx;subst hx;obtain⟨t,_,e⟩:=ξ8d h (hh 0 (by omega) 1 (by show 1<2;omega) rfl);exact e
theorem f5(h:F4 w W b) :
 Calls prog 13 #[.pointer (some ⟨b,0,none⟩)] W λe w'=>e=.returned (.int .i64 3)/\Hid (F5 w w' b):=by
 refine(ξeA ξeg ξfp ⟨by show(0:Int)<=0;omega,by show(0:Int)<=900000;omega⟩ h (c:=c1) ?_).mono ?_
 ·intro k hk;show upH A1y 0 0 k 0=_;unfold c1;by_cases q:k=0
  ·subst q;rw[ξ1Y];rfl
  ·rw[ξ1d _ (λx=>q x.1),if_neg q];rfl
 ·rintro e w' ⟨rfl,hz⟩;refine⟨?_,ξ0 hz⟩;rfl
theorem f6(h:F5 w W b) :
 Calls prog 14 #[.pointer (some ⟨b,0,none⟩),.int .i64 1] W λe w'=>∃g c g' o' m c',e=.returned (.tuple #[.slice (some ⟨g,0,none⟩) 1 c,.nilIface])/\w'.cell? ⟨g,5,none⟩=some (.slice (some ⟨g',o',none⟩) m c')/\0<m/\w'.cell? ⟨g',o',none⟩=some (.int .u8 5)/\Hid (Below w.heap.size w w'):=by
 obtain⟨M,hh,⟨o,P,h1,h2,hb⟩,hC,hH,aj,e1,e2,e3⟩:=h;have hn:M.n=2:=hC.n;have ae:=hC.sb 1 (by show 1<2;omega);have hB:d3.B 1=[((1:Int),s0 1 2)]:=rfl;rw[hB]at ae;obtain⟨t,ah,_⟩:=ξ8d hh (hH 0 (by omega) 1 (by show 1<2;omega) rfl);obtain⟨x,hx,ai⟩:∃x,(M.nd 1).sb=[x]/\core x=core (d3.sub hh 1 (1,s0 1 2)):=by
  cases hl:(M.nd 1).sb with
  | nil=>rw[hl]at ae;cases ae
  | cons x r=>
    rw[hl]at ae;simp only[List.map_cons,List.map_nil,List.cons.injEq,List.map_eq_nil_iff]at ae;exact⟨x,by rw[ae.2],ae.1⟩
 obtain⟨id,s⟩:=x;simp only[core,Core.mk.injEq]at ai;obtain⟨i1,i2,i3,i4,i5,i6⟩:=ai;have i1:id=1:=i1;subst i1;rw[ah]at i6;refine(ξ39 b 0 1 1 o P M s [] [] W h1 (by rw[e2];rfl) (by omega) (by rw[hx];rfl) (hC.ok.nd 1 (by omega)).1.si (by rw[e2];simp)).mono ?_;rintro e w' ⟨a,c,rfl,o',P',g1,g2,g3,g4,g5⟩;rw[i6]at g2 ⊢;obtain⟨g,a',m,c',rfl,⟨k0,k1,k2,k3,k4,k5⟩,hA⟩:=ξbJ g2 (j:=0) (by simp);have hA:Arg w' a' m [5,0]:=hA;obtain⟨g',o2,e',hc⟩:=hA.1.2 0 (by simp);subst e';refine⟨g,c,g',o2,m,c',rfl,k5,by have:=hA.2.1;simp at this;omega,?_,ξ0 (ξ2v hb h2 g5)⟩;simpa using hc
structure A7b(S:Nat->Pk):Prop where
 ok:∀i,i<90->A4i 0 i (S i)
 l:∀i,0<=(S i).l/\(S i).l<=3
def pkZ:Pk:=⟨0,0,0,0,false,[]⟩
structure A36(s s':Sb):Prop where
 tk:s'.tk=s.tk
 mo:s'.mo=s.mo
 on:s'.on=s.on
 ox:s'.ox=s.ox
 oM:s'.oM=s.oM
theorem A36.refl(s:Sb):A36 s s:=⟨rfl,rfl,rfl,rfl,rfl⟩
theorem A36.trans{a b c:Sb}(h:A36 a b)(k:A36 b c):A36 a c:=⟨k.tk.trans h.tk,k.mo.trans h.mo,k.on.trans h.on,k.ox.trans h.ox,k.oM.trans h.oM⟩
structure GD(S:Nat->Pk)(s:Sb)(c:List Nat):Prop where
 uk:s.uk=c.length
 len:s.got.length=c.length
 el:∀j,j<c.length->(s.got.getD j pkZ).s=(j:Int)/\(s.got.getD j pkZ).l=(S (c.getD j 0)).l/\(s.got.getD j pkZ).q=(S (c.getD j 0)).q/\(s.got.getD j pkZ).st=(S (c.getD j 0)).st/\(s.got.getD j pkZ).L=(S (c.getD j 0)).L
 inc:c.Pairwise λa b=>a<b
 lt:∀i∈c,65536+(i:Int)<=s.la
 few:c.length<=1000
 lay:∀j,j<c.length->(S (c.getD j 0)).l<=s.mo/\((S (c.getD j 0)).st=true∨(0<j/\(S (c.getD (j-1) 0)).l=(S (c.getD j 0)).l))
 ln:(c=[]/\s.ln=-1)∨∃c0 i,c=c0++[i]/\s.ln=(S i).l
 tt:(0<=s.uT/\s.uT<=4294967295)/\∀j,j<c.length->0<=(s.got.getD j pkZ).t/\(s.got.getD j pkZ).t<=4294967295
theorem GD.start(S:Nat->Pk)(tk mo:Int):GD S (s0 tk mo) []:=
 ⟨rfl,rfl,λj h=>absurd h (Nat.not_lt_zero j),List.Pairwise.nil,λi h=>(by cases h),by simp,λj h=>absurd h (Nat.not_lt_zero j),.inl ⟨rfl,rfl⟩,⟨by show(0:Int)<=0;omega,by show(0:Int)<=4294967295;omega⟩,λj h=>absurd h (Nat.not_lt_zero j)⟩
theorem ξ1Q{α:Type}{l:List α}{x d:α}{j:Nat}(h:j<l.length):(l++[x]).getD j d=l.getD j d:=by
 rw[Ξa,Ξa,Ξt h]
theorem ξ2h{α:Type}{l:List α}{x d:α}:(l++[x]).getD l.length d=x:=by
 rw[Ξa,List.getElem?_append_right (Ξo _),Nat.sub_self];rfl
variable {S:Nat->Pk}{s:Sb}{c:List Nat}
theorem GD.gone(h:GD S s c)(hi:i<90)(hg:x.g=true)(hx:x.n=65536+(i:Int))(hla:s.la<65536+(i:Int)) :
 GD S (s.item x) c/\A36 s (s.item x)/\(s.item x).la=65536+(i:Int):=by
 have hf:LM.tkf s.la x.n x.g (ifl x)=0:=by rw[hg];exact LM.ξ6s (by omega) (by omega) (by omega)
 rw[hg]at hf;obtain⟨e1,e2,e3,e4⟩:=LM.ξ8h (m:=s.mo) (nw:=s.ln) (br:=s.br) (l:=x.p.l) (st:=x.p.st) hf;have ht:s.A3s x=false:=by unfold Sb.A3s;rw[hg];exact e1
 have he:s.item x=s.laid x:=by unfold Sb.item;rw[if_neg (by rw[ht];simp)]
 have q1:(s.laid x).la=65536+(i:Int):=by show LM.tkL _ _ _ _=_;rw[hg,e2,hx]
 have q2:(s.laid x).ln=s.ln:=by show LM.tkN _ _ _ _ _ _ _ _ _=_;rw[hg,e3]
 rw[he];refine⟨⟨h.uk,h.len,h.el,h.inc,λk hk=>?_,h.few,h.lay,?_,h.tt⟩,⟨rfl,rfl,rfl,rfl,rfl⟩,q1⟩
 ·have:=h.lt k hk;rw[q1];omega
 ·rw[q2];exact h.ln
theorem GD.item(hS:A7b S)(h:GD S s c){a:Int}(hi:i<90)(hla:s.la<65536+(i:Int))(hc:c.length<1000) :
 (GD S (s.item (kpk (65536+(i:Int)) a (S i))) c∨GD S (s.item (kpk (65536+(i:Int)) a (S i))) (c++[i]))/\A36 s (s.item (kpk (65536+(i:Int)) a (S i)))/\(s.item (kpk (65536+(i:Int)) a (S i))).la=65536+(i:Int):=by
 have hp:=hS.ok i hi;have hl:=hS.l i;have aj:ifl (kpk (65536+(i:Int)) a (S i))=0:=hp.f;have hf:LM.tkf s.la (65536+(i:Int)) false (ifl (kpk (65536+(i:Int)) a (S i)))=0:=(LM.ξ6r (by omega) (by omega) (by omega)).trans aj;obtain⟨e1,e2,e3,e4⟩:=LM.ξ8g (m:=s.mo) (nw:=s.ln) (br:=s.br) (l:=(S i).l) (st:=(S i).st) hf;have q1:(s.laid (kpk (65536+(i:Int)) a (S i))).la=65536+(i:Int):=e2;have q2:(s.laid (kpk (65536+(i:Int)) a (S i))).ln=if LM.goes s.mo s.ln (S i).l s.br (S i).st&&(S i).st then(S i).l else s.ln:=e3
 have ht:s.A3s (kpk (65536+(i:Int)) a (S i))=LM.goes s.mo s.ln (S i).l s.br (S i).st:=e1;cases hgo:LM.goes s.mo s.ln (S i).l s.br (S i).st with
 | false=>
   rw[hgo]at ht q2;have he:s.item (kpk (65536+(i:Int)) a (S i))=s.laid (kpk (65536+(i:Int)) a (S i)):=by unfold Sb.item;rw[if_neg (by rw[ht];simp)]
   rw[he];refine⟨.inl ⟨h.uk,h.len,h.el,h.inc,λk hk=>?_,h.few,h.lay,?_,h.tt⟩,⟨rfl,rfl,rfl,rfl,rfl⟩,q1⟩
   ·have:=h.lt k hk;rw[q1];omega
   ·rw[q2];exact h.ln
 | true=>
   rw[hgo]at ht q2;have he:s.item (kpk (65536+(i:Int)) a (S i))={ (s.laid (kpk (65536+(i:Int)) a (S i))).next (kpk (65536+(i:Int)) a (S i))with got:=s.got++[s.A2s (kpk (65536+(i:Int)) a (S i))] }:=by
    unfold Sb.item;rw[if_pos ht]
   have ah:(S i).l<=s.mo/\((S i).st=true∨(S i).l=s.ln):=by
    unfold LM.goes at hgo;rw[Bool.and_eq_true,decide_eq_true_eq]at hgo;refine⟨hgo.1,?_⟩;cases hst:(S i).st with
    | true=>exact .inl rfl
    | false=>
      have h2:=hgo.2;rw[hst]at h2;simp only[Bool.false_eq_true,if_false,Bool.and_eq_true,decide_eq_true_eq]at h2;exact .inr h2.1
   have am:(s.laid (kpk (65536+(i:Int)) a (S i))).ln=(S i).l:=by
    rw[q2];rcases ah.2 with e|e
    ·rw[e];rfl
    ·split
     ·rfl
     ·exact e.symm
   have ae:s.got.length=c.length:=h.len;rw[he];refine⟨.inr ⟨?_,?_,?_,?_,?_,?_,?_,.inr ⟨c,i,rfl,am⟩,?_⟩,⟨rfl,rfl,rfl,rfl,rfl⟩,q1⟩
   ·show s.uk+1=_;rw[Ξh,List.length_singleton,h.uk]
   ·show(s.got++[_]).length=_;rw[Ξh,Ξh,List.length_singleton,List.length_singleton,ae]
   ·intro j hj;rw[Ξh,List.length_singleton]at hj;show((s.got++[s.A2s (kpk (65536+(i:Int)) a (S i))]).getD j pkZ).s=_/\((s.got++[s.A2s (kpk (65536+(i:Int)) a (S i))]).getD j pkZ).l=_/\((s.got++[s.A2s (kpk (65536+(i:Int)) a (S i))]).getD j pkZ).q=_/\((s.got++[s.A2s (kpk (65536+(i:Int)) a (S i))]).getD j pkZ).st=_/\((s.got++[s.A2s (kpk (65536+(i:Int)) a (S i))]).getD j pkZ).L=_;by_cases e:j<c.length
    ·rw[ξ1Q (by omega),ξ1Q e];exact h.el j e
    ·have ej:j=c.length:=by omega
     subst ej;have e5:(s.got++[s.A2s (kpk (65536+(i:Int)) a (S i))]).getD c.length pkZ=s.A2s (kpk (65536+(i:Int)) a (S i)):=by rw[<-ae];exact ξ2h
     rw[e5,ξ2h];refine⟨?_,rfl,rfl,rfl,rfl⟩;show UM.sq 0 s.uk=_;rw[h.uk];unfold UM.sq;omega
   ·rw[List.pairwise_append];refine⟨h.inc,List.pairwise_singleton _ _,λx hx y hy=>?_⟩;rw[Ξg]at hy;have:=h.lt x hx;omega
   ·intro k hk;show 65536+(k:Int)<=(s.laid (kpk (65536+(i:Int)) a (S i))).la;rw[q1];rcases Ξe.1 hk with hk|hk
    ·have:=h.lt k hk;omega
    ·rw[Ξg]at hk;omega
   ·rw[Ξh,List.length_singleton];omega
   ·intro j hj;rw[Ξh,List.length_singleton]at hj;show(S ((c++[i]).getD j 0)).l<=s.mo/\_;by_cases e:j<c.length
    ·rw[ξ1Q e,ξ1Q (show j-1<c.length by omega)];exact h.lay j e
    ·have ej:j=c.length:=by omega
     subst ej;rw[ξ2h];refine⟨ah.1,?_⟩;rcases ah.2 with e'|e'
     ·exact .inl e'
     ·right
      rcases h.ln with⟨_,e2⟩|⟨c0,k,rfl,e2⟩
      ·omega
      ·refine⟨by rw[Ξh,List.length_singleton];omega,?_⟩;have e3:(c0++[k]).length-1=c0.length:=by rw[Ξh,List.length_singleton];omega
       rw[e3,ξ1Q (by rw[Ξh,List.length_singleton];omega),ξ2h];omega
   ·have ai:=UM.ξ9C (k:=s.uk) (ly:=s.uy) (ow:=s.uo) (l:=(S i).l) (t:=(S i).t) h.tt.1.1 h.tt.1.2;refine⟨ai,λj hj=>?_⟩;rw[Ξh,List.length_singleton]at hj;show 0<=((s.got++[s.A2s (kpk (65536+(i:Int)) a (S i))]).getD j pkZ).t/\((s.got++[s.A2s (kpk (65536+(i:Int)) a (S i))]).getD j pkZ).t<=4294967295;by_cases e:j<c.length
    ·rw[ξ1Q (by omega)];exact h.tt.2 j e
    ·have ej:j=c.length:=by omega
     subst ej;have e5:(s.got++[s.A2s (kpk (65536+(i:Int)) a (S i))]).getD c.length pkZ=s.A2s (kpk (65536+(i:Int)) a (S i)):=by rw[<-ae];exact ξ2h
     rw[e5];exact ai
structure SD(S:Nat->Pk)(m:Nat)(mo:Int)(s:Sb):Prop where
 tk:s.tk=1
 mo:s.mo=mo
 ox:(s.ox=-1/\s.la=-1)∨∃e:Nat,s.ox=65536+(e:Int)/\e<=m/\s.la<s.ox
 om:∀x∈s.oM,∃i:Nat,i<m/\x.n=65536+(i:Int)/\(x.g=true∨∃a,x=kpk (65536+(i:Int)) a (S i))
 gd:∃c,GD S s c/\∀i∈c,i<m
theorem ξ8N:∀(c:List Nat) (a m:Nat),(c.Pairwise λx y=>x<y)->(∀i∈c,a<=i/\i<m)->c=[]∨c.length+a<=m
 | [],a,m,_,_=>.inl rfl
 | x::c,a,m,h,hb=>by
   right
   have h':=List.pairwise_cons.1 h;have hx:=hb x (List.mem_cons_self ..);rcases ξ8N c (x+1) m h'.2 (λi hi=>⟨h'.1 i hi,(hb i (List.mem_cons_of_mem _ hi)).2⟩)with e|e
   ·rw[e];simp;omega
   ·rw[List.length_cons];omega
theorem ξ8M{m:Nat}(h:c.Pairwise λx y=>x<y)(hb:∀i∈c,i<m):c.length<=m:=by
 rcases ξ8N c 0 m h (λi hi=>⟨Nat.zero_le _,hb i hi⟩)with e|e
 ·rw[e];simp
 ·omega
variable {S:Nat->Pk}{m:Nat}{mo:Int}{s:Sb}
theorem SD.start(S:Nat->Pk)(m:Nat)(mo:Int):SD S m mo (s0 1 mo):=⟨rfl,rfl,.inl ⟨rfl,rfl⟩,λx hx=>(by cases hx),[],GD.start S 1 mo,λi hi=>(by cases hi)⟩
theorem SD.more(h:SD S m mo s)(hm:m<=m'):SD S m' mo s:=by
 refine⟨h.tk,h.mo,?_,λx hx=>?_,?_⟩
 ·rcases h.ox with e|⟨e,e1,e2,e3⟩
  ·exact .inl e
  ·exact .inr ⟨e,e1,by omega,e3⟩
 ·obtain⟨i,q1,q2⟩:=h.om x hx;exact⟨i,by omega,q2⟩
 ·obtain⟨c,q1,q2⟩:=h.gd;exact⟨c,q1,λi hi=>by have:=q2 i hi;omega⟩
theorem SD.one(hS:A7b S)(hm:m<=80){b:Sb}(hG:GD S b c)(hc:∀i∈c,i<m)(hi:i<m)(hn:x.n=65536+(i:Int))(hx:x.g=true∨∃a,x=kpk (65536+(i:Int)) a (S i))(hla:b.la<65536+(i:Int)) :
 ∃c',GD S (b.item x) c'/\(∀k∈c',k<m)/\A36 b (b.item x)/\(b.item x).la=65536+(i:Int):=by
 rcases hx with hx|⟨a,rfl⟩
 ·obtain⟨q1,q2,q3⟩:=hG.gone (by omega:i<90) hx hn hla;exact⟨c,q1,hc,q2,q3⟩
 ·obtain⟨q1,q2,q3⟩:=hG.item hS (a:=a) (by omega:i<90) hla (by have:=ξ8M hG.inc hc;omega);rcases q1 with q1|q1
  ·exact⟨c,q1,hc,q2,q3⟩
  ·refine⟨c++[i],q1,λk hk=>?_,q2,q3⟩;rcases Ξe.1 hk with hk|hk
   ·exact hc k hk
   ·rw[Ξg]at hk;omega
theorem ξ6j{s:Sb}(h:GD S s c)(e1:s2.uk=s.uk)(e2:s2.got=s.got)(e3:s2.la=s.la)(e4:s2.mo=s.mo)(e5:s2.ln=s.ln)(e6:s2.uT=s.uT):GD S s2 c:=
 ⟨by rw[e1];exact h.uk,by rw[e2];exact h.len,by rw[e2];exact h.el,h.inc,by rw[e3];exact h.lt,h.few,by rw[e4];exact h.lay,by rw[e5];exact h.ln,by rw[e6,e2];exact h.tt⟩
theorem SD.folds(hS:A7b S)(hm:m<=80)(h:SD S m mo s){e:Nat}(he:s.ox=65536+(e:Int))(hs:s2={ s with on:=s2.on,ox:=s2.ox,oM:=s2.oM }):∀k:Nat,e+k<=m ->
 (∃c,GD S ((OM.takes s.oM s.ox k).foldl Sb.item s2) c/\∀i∈c,i<m)/\A36 s2 ((OM.takes s.oM s.ox k).foldl Sb.item s2)/\((OM.takes s.oM s.ox k).foldl Sb.item s2).la<65536+((e+k:Nat):Int):=by
 have k1:s2.uk=s.uk:=by rw[hs]
 have k2:s2.got=s.got:=by rw[hs]
 have k3:s2.la=s.la:=by rw[hs]
 have k4:s2.mo=s.mo:=by rw[hs]
 have k5:s2.ln=s.ln:=by rw[hs]
 have k6:s2.uT=s.uT:=by rw[hs]
 intro k
 induction k with
 | zero=>
   intro _;have hz:OM.takes s.oM s.ox 0=[]:=rfl;rw[hz];obtain⟨c,q1,q2⟩:=h.gd;refine⟨⟨c,ξ6j q1 k1 k2 k3 k4 k5 k6,q2⟩,A36.refl _,?_⟩;show s2.la<_;rw[k3];rcases h.ox with⟨e1,_⟩|⟨e',e1,_,e3⟩
   ·omega
   ·omega
 | succ k ih=>
   intro hk;obtain⟨⟨c,q1,q2⟩,q3,q4⟩:=ih (by omega);rw[OM.ξ2S,List.foldl_append,List.foldl_cons,List.foldl_nil];have ae:s.ox+(k:Int)=65536+((e+k:Nat):Int):=by rw[he];omega
   have hn:=OM.ξee s.oM (s.ox+(k:Int));have hx:(OM.itm s.oM (s.ox+(k:Int))).g=true∨∃a,OM.itm s.oM (s.ox+(k:Int))=kpk (65536+((e+k:Nat):Int)) a (S (e+k)):=by
    cases hh:OM.has s.oM (s.ox+(k:Int))with
    | false=>rw[OM.ξ2J hh];exact .inl rfl
    | true=>
      obtain⟨m1,m2⟩:=OM.ξ2K hh;obtain⟨i,w1,w2,w3⟩:=h.om _ m1;have:i=e+k:=by omega
      rw[<-this];exact w3
   rw[ae]at hn hx ⊢;obtain⟨c',r1,r2,r3,r4⟩:=SD.one hS hm q1 q2 (i:=e+k) (by omega) hn hx q4;exact⟨⟨c',r1,r2⟩,q3.trans r3,by rw[r4];omega⟩
theorem SD.A1r(hS:A7b S)(hm:m<=80)(h:SD S m mo s)(hI:OM.Inv s.on s.ox s.oM)(ht:OM.tf s.on now=0):SD S m mo (s.A1r now):=by
 have hM:=ξ2o hI ht;obtain⟨od,hO,hK⟩:=hM.yes ht;obtain⟨K,ae⟩:=nm (s.A3n now);rw[ae]at hK;have ah:∀j:Nat,j<K->s.ox+(j:Int)<65536+(m:Int)/\s.oM≠[]:=by
  intro j hj;have hg:=hK.all j hj;unfold OM.goes at hg;rw[Bool.or_eq_true,decide_eq_true_eq]at hg;rcases hg with hg|hg
  ·obtain⟨x,hx,aq⟩:=OM.ξn.1 hg;obtain⟨i,q1,q2,_⟩:=h.om x hx;exact⟨by omega,λe=>by rw[e]at hx;cases hx⟩
  ·rcases hO.one with e'|⟨x,hx,hl,hn⟩
   ·have:=hI.x1;omega
   ·obtain⟨i,q1,q2,_⟩:=h.om x hx;exact⟨by omega,λe=>by rw[e]at hx;cases hx⟩
 have e1:s.A1r now=(OM.takes s.oM s.ox K).foldl Sb.item (s.popped now K):=by
  unfold Sb.A1r Sb.pop;rw[ae]
 rcases h.ox with⟨ho,hla⟩|⟨e,ho,hem,hla⟩
 ·have ai:=hI.non ho;have am:K=0:=by
   rcases Nat.eq_zero_or_pos K with c|c
   ·exact c
   ·exact absurd ai (ah 0 c).2
  subst am;have e2:s.A1r now=s.popped now 0:=e1;rw[e2];obtain⟨c,q1,q2⟩:=h.gd;refine⟨h.tk,h.mo,.inl ⟨by show s.ox+((0:Nat):Int)=-1;omega,hla⟩,λx hx=>?_,c,ξ6j q1 rfl rfl rfl rfl rfl rfl,q2⟩;have hx:x∈OM.rest s.oM (s.ox+((0:Nat):Int)):=hx;rw[ai]at hx;cases hx
 ·have aj:e+K<=m:=by
   rcases Nat.eq_zero_or_pos K with c|c
   ·omega
   ·have:=(ah (K-1) (by omega)).1;omega
  obtain⟨q1,q2,q3⟩:=h.folds hS hm ho (s2:=s.popped now K) rfl K aj;rw[<-e1]at q1 q2 q3;refine⟨q2.tk.trans h.tk,q2.mo.trans h.mo,.inr ⟨e+K,?_,aj,?_⟩,λx hx=>?_,q1⟩
  ·rw[q2.ox];show s.ox+(K:Int)=_;rw[ho];omega
  ·rw[q2.ox];show _<s.ox+(K:Int);rw[ho];omega
  ·rw[q2.oM]at hx;have hx:x∈OM.rest s.oM (s.ox+(K:Int)):=hx;unfold OM.rest at hx;exact h.om x (Ξj.1 hx).1
theorem SD.pushed(h:SD S m mo s)(hi:i<m)(now:Int):SD S m mo (s.pushed (65536+(i:Int)) now (S i)):=by
 obtain⟨c,q1,q2⟩:=h.gd;refine⟨h.tk,h.mo,?_,λx hx=>?_,c,ξ6j q1 rfl rfl rfl rfl rfl rfl,q2⟩
 ·show(OM.pX s.on s.ox (65536+(i:Int)) now _=-1/\s.la=-1)∨∃e:Nat,OM.pX s.on s.ox (65536+(i:Int)) now _=65536+(e:Int)/\e<=m/\s.la<OM.pX s.on s.ox (65536+(i:Int)) now _;unfold OM.pX;split
  ·unfold OM.fx;rcases h.ox with⟨e1,e2⟩|⟨e,e1,e2,e3⟩
   ·rw[if_pos e1];exact .inr ⟨i,rfl,by omega,by omega⟩
   ·rw[if_neg (by omega)];exact .inr ⟨e,e1,e2,e3⟩
  ·exact h.ox
 ·have hx:x∈OM.pM s.on s.ox (65536+(i:Int)) now s.oM _ _:=hx;unfold OM.pM at hx;split at hx
  ·rcases Ξe.1 hx with hx|hx
   ·exact h.om x hx
   ·rw[Ξg]at hx;exact⟨i,hi,by rw[hx],.inr ⟨now,hx⟩⟩
  ·exact h.om x hx
theorem SD.push(hS:A7b S)(hm:m<=80)(h:SD S m mo s){nw:Int}(hO:A1k nw s)(ht:OM.tf s.on now=0)(hi:i<m):SD S m mo (s.push (65536+(i:Int)) now (S i)):=by
 obtain⟨q1,q2⟩:=hO.pushed (y:=65536+(i:Int)) (p:=S i) ht;exact(h.pushed hi now).A1r hS hm q1.oi q2
theorem SD.gone(h:SD S m mo s)(hi:i<m)(now:Int):SD S m mo (s.gone (65536+(i:Int)) now):=by
 obtain⟨c,q1,q2⟩:=h.gd;refine⟨h.tk,h.mo,h.ox,λx hx=>?_,c,ξ6j q1 rfl rfl rfl rfl rfl rfl,q2⟩;have hx:x∈OM.gM s.on s.ox (65536+(i:Int)) now s.oM:=hx;unfold OM.gM at hx;split at hx
 ·rcases Ξe.1 hx with hx|hx
  ·exact h.om x hx
  ·rw[Ξg]at hx;exact⟨i,hi,by rw[hx];rfl,.inl (by rw[hx];rfl)⟩
 ·exact h.om x hx
theorem SD.A6c:∀(G:List Int) (now:Int) {s:Sb},SD S m mo s->(∀y∈G,∃i:Nat,i<m/\y=65536+(i:Int))->SD S m mo (G.foldl (λs y=>s.gone y now) s)
 | [],now,s,h,_=>h
 | y::G,now,s,h,hG=>by
   obtain⟨i,hi,rfl⟩:=hG y (List.mem_cons_self ..);exact SD.A6c G now (h.gone hi now) (λz hz=>hG z (List.mem_cons_of_mem _ hz))
structure TD(p:List Int)(n v rt:Nat)(S:Nat->Pk)(m:Nat)(t:Tr):Prop where
 tk:t.tk=1
 ep:t.ep=1
 pa:t.pa=TM.dg p v
 kids:t.kids=TM.kd p (v:Int) n
 gT:t.gT=-1∨∃i:Nat,i<m/\t.gT=65536+(i:Int)
 rT:t.rT=-1∨∃i:Nat,i<m/\t.rT=65536+(i:Int)
 gm:∀x∈t.gM,∃i:Nat,i<m/\x.n=65536+(i:Int)
 rn:∀z∈t.rM,∃i:Nat,i<m/\z.1=65536+(i:Int)/\ppk z.2=S i/\t.wy z.1=((rt:Int),(dp p n v:Int))
variable {p:List Int}{n v rt:Nat}{S:Nat->Pk}{m:Nat}{t:Tr}
theorem TD.more(h:TD p n v rt S m t)(hm:m<=m'):TD p n v rt S m' t:=by
 refine⟨h.tk,h.ep,h.pa,h.kids,?_,?_,λx hx=>?_,λz hz=>?_⟩
 ·rcases h.gT with e|⟨i,e1,e2⟩
  ·exact .inl e
  ·exact .inr ⟨i,by omega,e2⟩
 ·rcases h.rT with e|⟨i,e1,e2⟩
  ·exact .inl e
  ·exact .inr ⟨i,by omega,e2⟩
 ·obtain⟨i,e1,e2⟩:=h.gm x hx;exact⟨i,by omega,e2⟩
 ·obtain⟨i,e1,e2⟩:=h.rn z hz;exact⟨i,by omega,e2⟩
theorem TD.num(h:TD p n v rt S m t)(hm:m<=80)(hi:i<90):ND.num t.rT (i:Int)=65536+(i:Int):=by
 unfold ND.num;rcases h.rT with e|⟨j,hj,e⟩
 ·rw[e,if_pos (by omega)]
 ·rw[e,if_neg (by omega)];unfold Ser.unw Ser.bey;split<;>omega
theorem TD.heard(h:TD p n v rt S m t)(hi:i<m)(now:Int):TD p n v rt S m (t.heard (65536+(i:Int)) now):=by
 have hg:(t.heard (65536+(i:Int)) now).gT=t.gT∨(t.heard (65536+(i:Int)) now).gT=65536+(i:Int):=by
  show GM.hU t.gn t.gT t.gM (65536+(i:Int)) now=_∨GM.hU t.gn t.gT t.gM (65536+(i:Int)) now=_;unfold GM.hU GM.hT;split
  ·split
   ·exact .inr rfl
   ·exact .inl rfl
  ·exact .inl rfl
 have hM:∀x∈(t.heard (65536+(i:Int)) now).gM,∃k:Nat,k<m/\x.n=65536+(k:Int):=by
  intro x hx;have hx:x∈GM.hL t.gn t.gT t.gM (65536+(i:Int)) now:=hx;unfold GM.hL GM.hM at hx;split at hx
  ·split at hx
   ·rcases Ξe.1 hx with hx|hx
    ·exact h.gm x hx
    ·obtain⟨q,hq,rfl⟩:=GM.ξ1D.1 hx;rename_i hlt;unfold GM.lo at hq;split at hq
     ·omega
     ·rcases h.gT with e|⟨j,hj,e⟩
      ·omega
      ·exact⟨j+1+q,by omega,by show t.gT+1+(q:Int)=_;omega⟩
   ·exact h.gm x (Ξj.1 hx).1
  ·exact h.gm x hx
 refine⟨h.tk,h.ep,h.pa,h.kids,?_,h.rT,hM,h.rn⟩;rcases hg with e|e
 ·rw[e];exact h.gT
 ·exact .inr ⟨i,hi,e⟩
theorem TD.keep(h:TD p n v rt S m t)(hi:i<m){pk:RM.Pk}(hp:ppk pk=S i):TD p n v rt S m (t.keep (65536+(i:Int)) pk ((rt:Int),(dp p n v:Int))):=by
 by_cases hx:RM.px 64 t.rT (65536+(i:Int)) t.rM 0=true
 ·rw[Tr.A4w hx];refine⟨h.tk,h.ep,h.pa,h.kids,h.gT,?_,h.gm,λz hz=>?_⟩
  ·show RM.top t.rT (65536+(i:Int))=-1∨∃k:Nat,k<m/\RM.top t.rT (65536+(i:Int))=65536+(k:Int);unfold RM.top;split
   ·exact .inr ⟨i,hi,rfl⟩
   ·exact h.rT
  ·rcases Ξe.1 hz with hz|hz
   ·unfold RM.keeps at hz;obtain⟨k,q1,q2,q3,q4⟩:=h.rn z (Ξj.1 hz).1;refine⟨k,q1,q2,q3,?_⟩;show(if z.1=65536+(i:Int)then((rt:Int),(dp p n v:Int))else t.wy z.1)=_;split
    ·rfl
    ·exact q4
   ·rw[Ξg]at hz;subst hz;exact⟨i,hi,rfl,hp,if_pos rfl⟩
 ·have:t.keep (65536+(i:Int)) pk ((rt:Int),(dp p n v:Int))=t:=by
   unfold Tr.keep;simp[hx]
  rw[this];exact h
theorem TD.ask(h:TD p n v rt S m t)(now:Int):TD p n v rt S m { t with gn:=now,gM:=GM.dM 3 3 now t.gM,gG:=[] }:=by
 refine⟨h.tk,h.ep,h.pa,h.kids,h.gT,h.rT,λx hx=>?_,h.rn⟩;have hx:x∈GM.dM 3 3 now t.gM:=hx;unfold GM.dM at hx;obtain⟨y,hy,rfl⟩:=Ξi.1 hx;obtain⟨i,q1,q2⟩:=h.gm y (Ξj.1 hy).1;exact⟨i,q1,by rw[GM.ξ2G];exact q2⟩
theorem TD.gave(h:TD p n v rt S m t)(now:Int):∀y∈GM.A0q 3 3 now t.gM,∃i:Nat,i<m/\y=65536+(i:Int):=by
 intro y hy;unfold GM.A0q GM.nums at hy;obtain⟨x,hx,rfl⟩:=Ξi.1 hy;exact h.gm x (Ξj.1 hx).1
end Go.Proofs.YtpiamlgmadnepaaGreat.MS
