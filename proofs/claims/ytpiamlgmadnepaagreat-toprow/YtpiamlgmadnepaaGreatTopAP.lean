/-
 A packet that goes over two hops: what choirtop's one returns. The numbers first.
-/
import Derived.Test.YtpiamlgmadnepaaGreatMeshMath
import Derived.Lib.SlBytesConst
set_option linter.unusedVariables false
set_option maxHeartbeats 4000000
set_option maxRecDepth 100000
namespace Go.Proofs.YtpiamlgmadnepaaGreat.MS
open Go.ChangeShapes Go.WideShapes Go.ChangeAt Go.RowKit Go.Maps Mem NO ND
def E1:List TM.Ed:=[⟨0,1,1⟩,⟨1,2,1⟩]
theorem upto3 {x:Nat} (h:x<3):x=0∨x=1∨x=2:=by omega
theorem ξ6M:TM.ef 3 E1=0:=by decide
theorem ξ7V:TM.IsDist E1 3 0 [0,1,2]:=by
 have w0:TM.Way E1 3 0 0 0:=TM.Way.here E1 3 0
 have w1:TM.Way E1 3 0 1 1:=w0.step (y:=1) (by omega) (by decide)
 have w2:TM.Way E1 3 0 2 2:=w1.step (y:=2) (by omega) (by decide)
 refine TM.ξ5e rfl (by omega) rfl ?_ ?_
 ·intro x hx;rcases upto3 hx with rfl | rfl | rfl
  ·exact .inr w0
  ·exact .inr w1
  ·exact .inr w2
 ·intro x hx _ y hy;rcases upto3 hx with rfl | rfl | rfl<;>rcases upto3 hy with rfl | rfl | rfl<;>decide
theorem ξ7U:TM.IsPars E1 [0,1,2] 3 [-1,0,1]:=by
 refine ⟨rfl,?_⟩
 intro i hi;rcases upto3 hi with rfl | rfl | rfl
 ·refine .inl ⟨rfl,?_⟩
  intro f hf;rcases upto3 hf with rfl | rfl | rfl<;>(unfold TM.good;decide)
 ·refine .inr ⟨0,rfl,by omega,by unfold TM.good;decide,fun f hf=>by omega⟩
 ·refine .inr ⟨1,rfl,by omega,by unfold TM.good;decide,?_⟩
  intro f hf;have:f=0:=by omega
  subst this;unfold TM.good;decide
theorem ξ9b {p d:List Int} (h:Trees 3 0 E1 p d):p=[-1,0,1]/\d=[0,1,2]:=by
 have e:=h.dist.uniq ξ7V
 subst e;exact ⟨h.pars.uniq ξ7U,rfl⟩
def la:Pk:=⟨65535,0,0,0,true,[108,97]⟩
def q1:Plan:=⟨3,0,E1,fun _=>false,fun _=>0,fun _=>[],fun _=>[],fun _=>65535,fun _ _=>la,fun k=>if k=3 then 1 else 0,fun _=>[]⟩
def q2:Plan:=q1.publish 3 [-1,0,1] [0,1,2]
def q3:Plan:=q2.addS 2 (1,s0 4 0)
theorem ξem:q1.Ok:=by
 refine ⟨(fun k hk ho=>by cases ho),?_,?_⟩
 ·intro k hk i hi;have hi:i<(if k=3 then 1 else 0):=hi
  split at hi
  ·have:i=0:=by omega
   subst this;exact ⟨rfl,by show 65535+0<=65535;omega,by show PM.fault la.s la.t la.l la.q la.L.length=0;decide,by show ∀ c∈la.L,c<256;decide⟩
  ·omega
 ·intro k;show (if k=3 then 1 else 0)<=1000
  split<;>omega
theorem ξ9W:Trees 3 0 E1 [-1,0,1] [0,1,2]:=⟨by have:=(TM.ξ2n.1 ξ6M).2;exact this,by omega,ξ7V,ξ7U⟩
theorem ξel:q2.Ok:=ξem.publish ξ9W
theorem ξ8d:q3.Ok:=ξel.addS _ _
def h3:Nat->Nat->Nat:=upH (upH (upH zeroH 3 0) 3 1) 3 2
theorem ξd3:∃ t,(q3.sub h3 2 (1,s0 4 0)).2.got=[⟨0,t,0,0,true,[108,97]⟩]:=by
 have hO:SbOk 0 (s0 4 0):=SbOk.start 4 0
 have e:=((SbR.start 65535 4 0).push hO (Int.le_refl 0) (by omega) (by omega) la (by decide)).1
 have e2:(q3.sub h3 2 (1,s0 4 0)).2=(s0 4 0).push (65536+((65535:Nat):Int)+((0:Nat):Int)) 0 la:=rfl
 rw [e2,e];exact ⟨_,rfl⟩
theorem flat6:∀ (X:List (Pk×Value)) (j:Nat) (h:j<X.length),∀ t,t<6->(X.flatMap fun z=>pc z.1 z.2)[j*6+t]?=(pc X[j].1 X[j].2)[t]?
 | [],j,h=>absurd h (by simp)
 | x::X,0,h=>fun t ht=>by
   simp only [List.flatMap_cons,List.getElem_cons_zero]
   rw [List.getElem?_append_left (by simp [pc];omega)]
   simp
 | x::X,j+1,h=>fun t ht=>by
   have:=flat6 X j (by simpa using h) t ht
   simp only [List.flatMap_cons,List.getElem_cons_succ]
   rw [List.getElem?_append_right (by simp [pc];omega),<- this]
   congr 1
   simp [pc]
   omega
theorem ξe9 {w:World} {o:Nat->Tg} {a:Option Addr} {n c:Nat} {G:List Pk} (h:ξH w o (.slice a n c) G) {j:Nat} (hj:j<G.length):∃ g a' m c',a=some ⟨g,0,none⟩/\(w.cell? ⟨g,j*6,none⟩=some (.int .i64 G[j].s)/\w.cell? ⟨g,j*6+1,none⟩=some (.int .i64 G[j].t)/\w.cell? ⟨g,j*6+2,none⟩=some (.int .i64 G[j].l)/\w.cell? ⟨g,j*6+3,none⟩=some (.int .i64 G[j].q)/\w.cell? ⟨g,j*6+4,none⟩=some (.bool G[j].st)/\w.cell? ⟨g,j*6+5,none⟩=some (.slice a' m c'))/\Arg w a' m G[j].L:=by
 obtain ⟨X,r1,r2,r3⟩:=h;have hlen:G.length=X.length:=by rw [<- r1,List.length_map]
 have hjx:j<X.length:=by omega
 have hG:G[j]=X[j].1:=by simp [<- r1]
 rcases r2.2 with ⟨e,h0⟩ | ⟨g,cap,cur,e,_⟩
 ·omega
 ·cases e
  obtain ⟨a',m,c',eb,hA,_⟩:=r3 X[j] (List.getElem_mem hjx);have hl:(X.flatMap fun z=>pc z.1 z.2).length=X.length*6:=r2.1
  have k:∀ t,t<6->w.cell? ⟨g,j*6+t,none⟩=(pc X[j].1 X[j].2)[t]?:=fun t ht=>by rw [r2.cellAt (j*6+t) (by omega),flat6 X j hjx t ht]
  rw [hG];refine ⟨g,a',m,c',rfl,⟨k 0 (by omega),k 1 (by omega),k 2 (by omega),k 3 (by omega),k 4 (by omega),?_⟩,hA⟩
  rw [k 5 (by omega),eb]
  rfl
theorem ξb9 {w:World} {a:Option Addr} {n cap:Nat} {L:List Nat} (h:Arg w a n L):(convert 36 9 (.slice a n cap)).run Tryz.prog w=.ok (.string (str L)) w:=by
 cases L with
 | cons c L=>
   obtain ⟨b,o,e,_⟩:=h.1.2 0 (by simp)
   exact ξ2I Tryz.underlying36 Tryz.underlying5 Tryz.underlying9 h (fun ad h=>by rw [e] at h;exact ⟨b,o,(Option.some.inj h).symm⟩)
 | nil=>
   have hn:n=0:=by have:=h.2.1;simpa using this.symm
   subst hn;cases a with
   | none=>exact ξ2I Tryz.underlying36 Tryz.underlying5 Tryz.underlying9 h (fun ad h=>by simp at h)
   | some ad=>
     rw [run_convert_bytes_string w 36 9 5 _ 0 cap Tryz.underlying36 Tryz.underlying5 Tryz.underlying9];have hl:(loadCells ad 0).run Tryz.prog w=.ok #[] w:=run_loadCells_list (P:=Tryz.prog) w ad [] (fun j v hj=>by simp at hj)
     simp [Conv.bytesToString,str,strOfNums,hl]
     rfl
def O2 (w W:World) (b:Nat):Prop:=PZ w W b q2 zeroH [] (updN (fun _=>-1) 3 0) []
def O3 (w W:World) (b:Nat):Prop:=PZ w W b q3 zeroH [] (updN (fun _=>-1) 3 0) [(2,1)]
def O4 (w W:World) (b:Nat):Prop:=PZ w W b q3 (upH zeroH 3 0) [⟨3,1,0⟩] (updN (fun _=>-1) 3 0) [(2,1)]
def O5 (w W:World) (b:Nat):Prop:=PZ w W b q3 (upH (upH zeroH 3 0) 3 1) [⟨3,2,0⟩] (updN (fun _=>-1) 3 0) [(2,1)]
def O6 (w W:World) (b:Nat):Prop:=PZ w W b q3 h3 [] (updN (fun _=>-1) 3 0) [(2,1)]
theorem o1 (w:World) (a:Nat) (W:World) (hw:Below w.heap.size w W) (hc:W.heap[a]?=some (.cells #[.int .i64 0,.int .i64 1,.int .i64 1,.int .i64 1,.int .i64 2,.int .i64 1] 87 (0,0))) :
 Calls Tryz.prog 6 #[.int .i64 3,.slice (some ⟨a,0,none⟩) 2 2] W fun e w'=>∃ b,e=.returned (.tuple #[.pointer (some ⟨b,0,none⟩),.nilIface])/\Hid (PZ w w' b q1 zeroH [] (fun _=>-1) []):=by
 have hA:Tree.EArg W (some ⟨a,0,none⟩) 2 q1.E:=by
  refine ⟨?_,rfl,by omega⟩
  intro j hj;have hj:j<2:=hj
  refine ⟨a,0,rfl,?_⟩
  have:j=0∨j=1:=by omega
  rcases this with rfl | rfl<;>(refine ⟨?_,?_,?_⟩<;>(simp only [World.cell?,hc];rfl))
 refine (ξdX (Q:=q1) hw (some ⟨a,0,none⟩) 2 2 hA (fun e=>by cases e) (by omega) ξ6M rfl (fun _=>rfl) (fun _=>rfl)).mono ?_
 rintro e w' ⟨b,rfl,h⟩;exact ⟨b,rfl,ξ0 h⟩
theorem o2 {w W:World} {b:Nat} (h:PZ w W b q1 zeroH [] (fun _=>-1) []) :
 Calls Tryz.prog 8 #[.pointer (some ⟨b,0,none⟩),.int .i64 4,.int .i64 0] W fun e w'=>e=.returned .nilIface/\Hid (O2 w w' b):=by
 refine (ξ8e h (k:=3) (by omega) rfl rfl (by show 0<3;omega) ξ6M).mono ?_
 rintro e w' ⟨rfl,p,d,hT,hz⟩;obtain ⟨rfl,rfl⟩:=ξ9b hT;exact ⟨rfl,ξ0 hz⟩
theorem o3 {w W:World} {b:Nat} (h:O2 w W b) :
 Calls Tryz.prog 9 #[.pointer (some ⟨b,0,none⟩),.int .i64 4,.int .i64 2,.int .i64 0] W fun e w'=>e=.returned (.tuple #[.int .i64 1,.nilIface])/\Hid (O3 w w' b):=by
 refine (ξdW h (k:=3) (v:=2) (by omega) (by show 2<3;omega) rfl (mo:=0) (by omega) (by omega) (by show 0<20;omega) (by simp)).mono ?_
 rintro e w' ⟨rfl,hz⟩;exact ⟨rfl,ξ0 hz⟩
theorem o4 {w W0 W:World} {b a:Nat} (h:O3 w W0 b) (hb:Below W0.heap.size W0 W) (ha:W0.heap.size<=a) (hc:W.heap[a]?=some (.cells #[.int .u8 108,.int .u8 97] 5 (2,3))) :
 Calls Tryz.prog 12 #[.pointer (some ⟨b,0,none⟩),.int .i64 4,.agg #[.int .i64 65535,.int .i64 0,.int .i64 0,.int .i64 0,.bool true,.slice (some ⟨a,0,none⟩) 2 2]] W fun e w'=>e=.returned .nilIface/\Hid (O4 w w' b):=by
 have hA:Arg W (some ⟨a,0,none⟩) 2 [108,97]:=by
  refine ⟨⟨by decide,?_⟩,rfl,by omega⟩
  intro j hj;have hj:j<2:=hj
  refine ⟨a,0,rfl,?_⟩
  have:j=0∨j=1:=by omega
  rcases this with rfl | rfl<;>(simp only [World.cell?,hc];rfl)
 refine (ξcP ξ8d h hb (k:=3) (by omega) rfl rfl (by decide) (some ⟨a,0,none⟩) 2 (p:=la) rfl hA (fun e=>by cases e) (fun _ ad e=>by cases e;exact .inr ha)).mono ?_
 rintro e w' ⟨rfl,hz⟩;exact ⟨rfl,ξ0 hz⟩
theorem o5 {w W:World} {b:Nat} (h:O4 w W b) :
 Calls Tryz.prog 60 #[.pointer (some ⟨b,0,none⟩)] W fun e w'=>e=.returned (.int .i64 1)/\w'=W:=ξ9F h
theorem o6 {w W:World} {b:Nat} (h:O4 w W b) :
 Calls Tryz.prog 41 #[.pointer (some ⟨b,0,none⟩),.int .i64 0] W fun e w'=>e=.returned .nilIface/\Hid (O5 w w' b):=by
 refine (ξ7s ξ8d h).mono ?_
 rintro e w' ⟨rfl,hz⟩;exact ⟨rfl,ξ0 hz⟩
theorem o7 {w W:World} {b:Nat} (h:O5 w W b) :
 Calls Tryz.prog 41 #[.pointer (some ⟨b,0,none⟩),.int .i64 0] W fun e w'=>e=.returned .nilIface/\Hid (O6 w w' b):=by
 refine (ξ7s ξ8d h).mono ?_
 rintro e w' ⟨rfl,hz⟩;exact ⟨rfl,ξ0 hz⟩
theorem o8 {w W:World} {b:Nat} (h:O6 w W b) :
 Calls Tryz.prog 14 #[.pointer (some ⟨b,0,none⟩),.int .i64 1] W fun e w'=>∃ g c a' m c',e=.returned (.tuple #[.slice (some ⟨g,0,none⟩) 1 c,.nilIface])/\w'.cell? ⟨g,0,none⟩=some (.int .i64 0)/\w'.cell? ⟨g,5,none⟩=some (.slice a' m c')/\(∀ W,W.heap=w'.heap->(convert 36 9 (.slice a' m c')).run Tryz.prog W=.ok (.string (str [108,97])) W)/\Hid (Below w.heap.size w w'):=by
 refine (ξdY h (j:=0) (v:=2) (A:=[]) (C:=[]) (x:=(1,s0 4 0)) rfl (by show 2<3;omega) rfl (by simp)).mono ?_
 rintro e w' ⟨a,c,o,rfl,hg,hb⟩;obtain ⟨t,ht⟩:=ξd3;rw [ht] at hg ⊢;obtain ⟨g,a',m,c',rfl,⟨k0,k1,k2,k3,k4,k5⟩,hA⟩:=ξe9 hg (j:=0) (by simp)
 refine ⟨g,c,a',m,c',rfl,k0,k5,?_,ξ0 hb⟩
 intro W hW;have hA:Arg w' a' m [108,97]:=hA
 have hA':Arg W a' m [108,97]:=by
  refine ⟨⟨hA.1.1,?_⟩,hA.2⟩
  intro j hj;obtain ⟨b',o',e',hc⟩:=hA.1.2 j hj;exact ⟨b',o',e',by simp only [World.cell?,hW];simpa only [World.cell?] using hc⟩
 exact ξb9 hA'
theorem ξ2X (w:World):Calls Tryz.prog 19 #[] w fun e w'=>e=.returned (.bool true)/\Below w.heap.size w w':=by
 obtain ⟨W1,hW1⟩:∃ W1,w.alloc (.cells #[.int .i64 0,.int .i64 1,.int .i64 1,.int .i64 1,.int .i64 2,.int .i64 1] 87)=W1:=⟨_,rfl⟩;have C1:Hid (Calls Tryz.prog 6 #[.int .i64 3,.slice (some ⟨w.heap.size,0,none⟩) 2 2] W1 fun e w'=>∃ b,e=.returned (.tuple #[.pointer (some ⟨b,0,none⟩),.nilIface])/\Hid (PZ w w' b q1 zeroH [] (fun _=>-1) [])):=ξ0 (o1 w w.heap.size W1 (by rw [<- hW1];exact (Below.refl _ _).alloc (Nat.le_refl _) _) (by rw [<- hW1];exact heap_alloc_new w _))
 have HW1:=ξ0 hW1
 have hstr:str [108,97]={ data:=#[108,97] }:=rfl
 clear hW1;go_enter Tryz.func19,Tryz.ntmps19
 go_wp2_with fail
 rw [HW1.out];clear HW1;refine C1.out.mono ?_
 rintro e w1 ⟨b,rfl,H1⟩;have C2:=ξ0 (o2 H1.out)
 clear C1 H1;go_wp2_with fail
 refine C2.out.mono ?_
 rintro e w2 ⟨rfl,H2⟩;have C3:=ξ0 (o3 H2.out)
 clear C2 H2;go_wp2_with fail
 refine C3.out.mono ?_
 rintro e w3 ⟨rfl,H3⟩;obtain ⟨W4,hW4⟩:∃ W4,w3.alloc (.cells #[.int .u8 108,.int .u8 97] 5 (2,3))=W4:=⟨_,rfl⟩;have C4:=ξ0 (o4 (W:=W4) (a:=w3.heap.size) H3.out (by rw [<- hW4];exact (Below.refl _ _).alloc (Nat.le_refl _) _) (Nat.le_refl _) (by rw [<- hW4];exact heap_alloc_new w3 _))
 have HW4:=ξ0 hW4
 have kc:(convert 36 36 (.slice (some ⟨w3.heap.size,0,none⟩) 2 2)).run Tryz.prog (w3.alloc (.cells #[.int .u8 108,.int .u8 97] 5))=.ok (.slice (some ⟨w3.heap.size,0,none⟩) 2 2) (w3.alloc (.cells #[.int .u8 108,.int .u8 97] 5 (2,3))):=Lib.run_convert_bytes_const (P:=Tryz.prog) w3 36 5 #[.int .u8 108,.int .u8 97] 2 2 Tryz.underlying36 Tryz.underlying5
 rw [hW4] at kc;clear C3 H3 hW4;go_wp2_with fail
 clear HW4 kc;refine C4.out.mono ?_
 rintro e w4 ⟨rfl,H4⟩;have C5:=ξ0 (o5 H4.out)
 have C6:=ξ0 (o6 H4.out)
 clear C4 H4;go_wp2_with fail
 refine C5.out.mono ?_
 rintro e w5 ⟨rfl,hw5⟩;obtain rfl:w4=w5:=hw5.symm;clear C5;go_wp2_with fail
 refine C6.out.mono ?_
 rintro e w6 ⟨rfl,H6⟩;have C7:=ξ0 (o7 H6.out)
 clear C6 H6;go_wp2_with fail
 refine C7.out.mono ?_
 rintro e w7 ⟨rfl,H7⟩;have C8:=ξ0 (o8 H7.out)
 clear C7 H7;go_wp2_with fail
 refine C8.out.mono ?_
 rintro e w8 ⟨g,c,a',m,c',rfl,k0,k5,hcv,HB⟩;have cv:=hcv w8 rfl
 have cvd:=hcv w8.drew rfl
 clear C8 hcv;go_wp2_with fail
 go_ret
 exact ⟨rfl,HB.out⟩
end Go.Proofs.YtpiamlgmadnepaaGreat.MS
