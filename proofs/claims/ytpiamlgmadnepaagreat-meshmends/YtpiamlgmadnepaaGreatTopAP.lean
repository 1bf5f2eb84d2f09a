/-
 A packet that goes over two hops: what choirtop's one returns. The numbers first.
-/
import Derived.Test.YtpiamlgmadnepaaGreatMeshMath
import Derived.Lib.SlBytesConst
open Go.Proofs.Tryz
set_option linter.unusedVariables false
namespace Go.Proofs.YtpiamlgmadnepaaGreat.MS
open Go.ChangeShapes Go.WideShapes Go.ChangeAt Go.RowKit Go.Maps Mem NO ND
def E1:List TM.Ed:=[⟨0,1,1⟩,⟨1,2,1⟩]
theorem upto3 {x:Nat} (h:x<3):x=0∨x=1∨x=2:=by omega
theorem ξbK:TM.ef 3 E1=0:=by decide
theorem ξeE:TM.IsDist E1 3 0 [0,1,2]:=by
 have w0:TM.Way E1 3 0 0 0:=TM.Way.here E1 3 0
 have w1:TM.Way E1 3 0 1 1:=w0.step (y:=1) (by omega) (by decide)
 have w2:TM.Way E1 3 0 2 2:=w1.step (y:=2) (by omega) (by decide)
 refine TM.ξ5y rfl (by omega) rfl ?_ ?_
 ·intro x hx;rcases upto3 hx with rfl | rfl | rfl
  ·exact .inr w0
  ·exact .inr w1
  ·exact .inr w2
 ·intro x hx _ y hy;rcases upto3 hx with rfl | rfl | rfl<;>rcases upto3 hy with rfl | rfl | rfl<;>decide
theorem ξeD:TM.IsPars E1 [0,1,2] 3 [-1,0,1]:=by
 refine ⟨rfl,?_⟩
 intro i hi;rcases upto3 hi with rfl | rfl | rfl
 ·refine .inl ⟨rfl,?_⟩
  intro f hf;rcases upto3 hf with rfl | rfl | rfl<;>(unfold TM.good;decide)
 ·refine .inr ⟨0,rfl,by omega,by unfold TM.good;decide,fun f hf=>by omega⟩
 ·refine .inr ⟨1,rfl,by omega,by unfold TM.good;decide,?_⟩
  intro f hf;have:f=0:=by omega
  subst this;unfold TM.good;decide
theorem ξ9P {p d:List Int} (h:Trees 3 0 E1 p d):p=[-1,0,1]/\d=[0,1,2]:=by
 have e:=h.dist.uniq ξeE
 subst e;exact ⟨h.pars.uniq ξeD,rfl⟩
def la:Pk:=⟨65535,0,0,0,true,[108,97]⟩
def q1:Plan:=⟨3,0,E1,fun _=>false,fun _=>0,fun _=>[],fun _=>[],fun _=>65535,fun _ _=>la,fun k=>if k=3 then 1 else 0,fun _=>[]⟩
def q2:Plan:=q1.publish 3 [-1,0,1] [0,1,2]
def q3:Plan:=q2.addS 2 (1,s0 4 0)
def h3:Nat->Nat->Nat:=upH (upH (upH zeroH 3 0) 3 1) 3 2
theorem flat6:∀ (X:List (Pk×Value)) (j:Nat) (h:j<X.length),∀ t,t<6->(X.flatMap fun z=>pc z.1 z.2)[j*6+t]?=(pc X[j].1 X[j].2)[t]?
 | [],j,h=>absurd h (by simp)
 | x::X,0,h=>fun t ht=>by
   simp only [List.flatMap_cons,List.getElem_cons_zero]
   rw [Ξt (by simp [pc];omega)]
   simp
 | x::X,j+1,h=>fun t ht=>by
   have:=flat6 X j (by simpa using h) t ht
   simp only [List.flatMap_cons,List.getElem_cons_succ]
   rw [List.getElem?_append_right (by simp [pc];omega),<- this]
   congr 1
   simp [pc]
   omega
theorem ξfa {w:World} {o:Nat->Tg} {a:Option Addr} {n c:Nat} {G:List Pk} (h:ξM w o (.slice a n c) G) {j:Nat} (hj:j<G.length):∃ g a' m c',a=some ⟨g,0,none⟩/\(w.cell? ⟨g,j*6,none⟩=some (.int .i64 G[j].s)/\w.cell? ⟨g,j*6+1,none⟩=some (.int .i64 G[j].t)/\w.cell? ⟨g,j*6+2,none⟩=some (.int .i64 G[j].l)/\w.cell? ⟨g,j*6+3,none⟩=some (.int .i64 G[j].q)/\w.cell? ⟨g,j*6+4,none⟩=some (.bool G[j].st)/\w.cell? ⟨g,j*6+5,none⟩=some (.slice a' m c'))/\Arg w a' m G[j].L:=by
 obtain ⟨X,r1,r2,r3⟩:=h;have hlen:G.length=X.length:=by rw [<- r1,Ξm]
 have hjx:j<X.length:=by omega
 have hG:G[j]=X[j].1:=by simp [<- r1]
 rcases r2.2 with ⟨e,h0⟩ | ⟨g,cap,cur,e,_⟩
 ·omega
 ·cases e
  obtain ⟨a',m,c',eb,hA,_⟩:=r3 X[j] (List.getElem_mem hjx);have hl:(X.flatMap fun z=>pc z.1 z.2).length=X.length*6:=r2.1
  have k:∀ t,t<6->w.cell? ⟨g,j*6+t,none⟩=(pc X[j].1 X[j].2)[t]?:=fun t ht=>by rw [r2.cellAt (j*6+t) (by omega),flat6 X j hjx t ht]
  rw [hG];refine ⟨g,a',m,c',rfl,⟨k 0 (by omega),k 1 (by omega),k 2 (by omega),k 3 (by omega),k 4 (by omega),?_⟩,hA⟩
  rw [k 5 (by omega),eb]
  rfl
theorem ξ3Z {w:World} {a:Option Addr} {n cap:Nat} {L:List Nat} (h:Arg w a n L):(convert 36 9 (.slice a n cap)).run prog w=.ok (.string (str L)) w:=by
 cases L with
 | cons c L=>
   obtain ⟨b,o,e,_⟩:=h.1.2 0 (by simp)
   exact ξ31 underlying36 underlying5 underlying9 h (fun ad h=>by rw [e] at h;exact ⟨b,o,(Option.some.inj h).symm⟩)
 | nil=>
   have hn:n=0:=by have:=h.2.1;simpa using this.symm
   subst hn;cases a with
   | none=>exact ξ31 underlying36 underlying5 underlying9 h (fun ad h=>by simp at h)
   | some ad=>
     rw [run_convert_bytes_string w 36 9 5 _ 0 cap underlying36 underlying5 underlying9];have hl:(loadCells ad 0).run prog w=.ok #[] w:=run_loadCells_list (P:=prog) w ad [] (fun j v hj=>by simp at hj)
     simp [Conv.bytesToString,str,strOfNums,hl]
     rfl
def O2 (w W:World) (b:Nat):Prop:=PZ w W b q2 zeroH [] (updN (fun _=>-1) 3 0) []
def O3 (w W:World) (b:Nat):Prop:=PZ w W b q3 zeroH [] (updN (fun _=>-1) 3 0) [(2,1)]
theorem o1 (w:World) (a:Nat) (W:World) (hw:Below w.heap.size w W) (hc:W.heap[a]?=some (.cells #[.int .i64 0,.int .i64 1,.int .i64 1,.int .i64 1,.int .i64 2,.int .i64 1] 87 (0,0))) :
 Calls prog 6 #[.int .i64 3,.slice (some ⟨a,0,none⟩) 2 2] W fun e w'=>∃ b,e=.returned (.tuple #[.pointer (some ⟨b,0,none⟩),.nilIface])/\Hid (PZ w w' b q1 zeroH [] (fun _=>-1) []):=by
 have hA:Tree.EArg W (some ⟨a,0,none⟩) 2 q1.E:=by
  refine ⟨?_,rfl,by omega⟩
  intro j hj;have hj:j<2:=hj
  refine ⟨a,0,rfl,?_⟩
  have:j=0∨j=1:=by omega
  rcases this with rfl | rfl<;>(refine ⟨?_,?_,?_⟩<;>(simp only [World.cell?,hc];rfl))
 refine (ξaf (Q:=q1) hw (some ⟨a,0,none⟩) 2 2 hA (fun e=>by cases e) (by omega) ξbK rfl (fun _=>rfl) (fun _=>rfl)).mono ?_
 rintro e w' ⟨b,rfl,h⟩;exact ⟨b,rfl,ξ0 h⟩
theorem o2 {w W:World} {b:Nat} (h:PZ w W b q1 zeroH [] (fun _=>-1) []) :
 Calls prog 8 #[.pointer (some ⟨b,0,none⟩),.int .i64 4,.int .i64 0] W fun e w'=>e=.returned .nilIface/\Hid (O2 w w' b):=by
 refine (ξ4n h (k:=3) (by omega) rfl rfl (by show 0<3;omega) ξbK).mono ?_
 rintro e w' ⟨rfl,p,d,hT,hz⟩;obtain ⟨rfl,rfl⟩:=ξ9P hT;exact ⟨rfl,ξ0 hz⟩
theorem o3 {w W:World} {b:Nat} (h:O2 w W b) :
 Calls prog 9 #[.pointer (some ⟨b,0,none⟩),.int .i64 4,.int .i64 2,.int .i64 0] W fun e w'=>e=.returned (.tuple #[.int .i64 1,.nilIface])/\Hid (O3 w w' b):=by
 refine (ξae h (k:=3) (v:=2) (by omega) (by show 2<3;omega) rfl (mo:=0) (by omega) (by omega) (by show 0<20;omega) (by simp)).mono ?_
 rintro e w' ⟨rfl,hz⟩;exact ⟨rfl,ξ0 hz⟩
end Go.Proofs.YtpiamlgmadnepaaGreat.MS
