/-
  VoiceI, VoiceA, VoiceB in one text.
-/
import Derived.Test.YtlppdppddiecnaaGreatDoorMathAll
import Derived.Test.YtlppdppddiecnaaGreatDoorMemP
import Derived.Test.YtlppdppddiecnaaGreatDoorRows
import Derived.WalkKit
import Derived.ProofKit
import Derived.OpenShut
import Derived.ChangeOld
import Derived.Below
import Derived.Deep.QuietTactic
import Derived.BigQuiet
import Derived.Laws.AppendOwnNone
import Derived.WalkSmall
import Derived.WalkSpells
import Derived.LoopTactic
import Derived.RegionTactic
import Derived.Deep.AppendLies
import Derived.Deep.LoopGhost
import Derived.Outline
import Derived.Maps.Ext
import Derived.Maps.RangeWalk
import Derived.Laws.IdiomRangeMap
import Derived.Lib.SlMapFilter

namespace Go.Proofs.YtlppdppddiecnaaGreatDoor.Voice
open Go.ChangeShapes Go.WideShapes Go.ChangeAt Go.RowKit Go.Maps Go.Proofs.YtlppdppddiecnaaGreatDoor.Mem Go.Proofs.YtlppdppddiecnaaGreatDoor.VO
set_option linter.unusedVariables false

def errv (e:Nat):Value:=if e=0 then .nilIface else .iface 107 (.int .i64 (e:Int))
theorem errv_zero:errv 0=.nilIface:=rfl
theorem errv_pos {e:Nat} (h:e≠0):errv e=.iface 107 (.int .i64 (e:Int)):=by simp [errv,h]
theorem cmp_eq (f:Nat) (w:World):(binOp .eql 38 (errv f) .nilIface).run Tryz.prog w=.ok (.bool (decide (f=0))) w:=by
  by_cases p:f=0
  · rw [p,errv_zero];simp [go_sem]
  · rw [errv_pos p];simp [go_sem,p]
theorem cmp_ne (f:Nat) (w:World):(binOp .neq 38 (errv f) .nilIface).run Tryz.prog w=.ok (.bool (!decide (f=0))) w:=by
  by_cases p:f=0
  · rw [p,errv_zero];simp [go_sem]
  · rw [errv_pos p];simp [go_sem,p]
theorem grd_eq (f:Nat) (o1:Operand) (w:World):(eqGuard .eql 38 o1 (.const .nilIface) (errv f) .nilIface).run Tryz.prog w=.ok () w:=by
  by_cases p:f=0
  · rw [p,errv_zero];unfold eqGuard;simp
  · rw [errv_pos p];simp [go_sem]
theorem grd_ne (f:Nat) (o1:Operand) (w:World):(eqGuard .neq 38 o1 (.const .nilIface) (errv f) .nilIface).run Tryz.prog w=.ok () w:=by
  by_cases p:f=0
  · rw [p,errv_zero];unfold eqGuard;simp
  · rw [errv_pos p];simp [go_sem]
theorem info3:(Tryz.prog.info? 3).map (fun i=>(i.zero,i.size,i.bytes))=some (some (.int .i64 0),1,8):=by kernel_rfl
theorem wf_of {y:Int} (h0:-9223372036854775808≤y) (h1:y≤9223372036854775807):(Lit.int .i64 y).wf=true:=WalkArith.wf_i64 (by omega)
theorem cell_alloc {w:World} {p:Addr} {v:Value} (h:w.cell? p=some v) (o:Obj):(w.alloc o).cell? p=some v:=(((Below.refl _ _).alloc (Nat.le_refl _) o).cell (World.block_lt_of_cell? w p h)).trans h
theorem below_old {w w':World} {o:Obj} (h:Below (w.alloc o).heap.size (w.alloc o) w'):Below w.heap.size w w':=
  ((Below.refl _ _).alloc (Nat.le_refl _) _).trans (h.mono (by simp))
theorem past {bs cs:List Nat} {a b c:World} (h:Only bs a b) (k:Only cs b c) (hc:∀ j∈cs,j∈bs∨a.heap.size≤j):Only bs a c:=
  ⟨k.1.trans h.1,k.2.1.trans h.2.1,k.2.2.1.trans h.2.2.1,Nat.le_trans h.2.2.2.1 k.2.2.2.1,fun i hi hb=>(k.2.2.2.2 i (Nat.lt_of_lt_of_le hi h.2.2.2.1) (fun hh=>by
    rcases hc i hh with h1 | h1
    · exact hb h1
    · omega)).trans (h.2.2.2.2 i hi hb)⟩
theorem own_base {w:World} {base base' e size n:Nat} {v:Value} {xs:List Value} (h:w.ownsRow base e size v n xs) (hb:base'≤base):w.ownsRow base' e size v n xs:=by
  refine ⟨h.1,?_⟩
  rcases h.2 with h | ⟨g,cap,cur,e,hg,r⟩
  · exact .inl h
  · exact .inr ⟨g,cap,cur,e,Nat.le_trans hb hg,r⟩

def ic (L:List Int):List Value:=L.map (Value.int .i64)
theorem ic_len (L:List Int):(ic L).length=L.length:=by simp [ic]
theorem ic_app (L K:List Int):ic (L++K)=ic L++ic K:=by simp [ic]
theorem ic_get (L:List Int) (j:Nat) (h:j<L.length):(ic L)[j]?=some (.int .i64 (L.getD j 0)):=by
  simp [ic,List.getD_eq_getElem?_getD,List.getElem?_eq_getElem h]
def Ints (w:World) (a:Option Addr) (L:List Int):Prop:=∀ j,j<L.length→∃ b o,a=some ⟨b,o,none⟩∧w.cell? ⟨b,o+j,none⟩=some (.int .i64 (L.getD j 0))
def IArg (w:World) (a:Option Addr) (n:Nat) (L:List Int):Prop:=Ints w a L∧L.length=n∧n≤9223372036854775807
theorem IArg.below {w w':World} {a:Option Addr} {n:Nat} {L:List Int} (h:IArg w a n L) (hb:Below w.heap.size w w'):IArg w' a n L:=by
  refine ⟨fun j hj=>?_,h.2⟩
  obtain ⟨b,o,e,hc⟩:=h.1 j hj
  exact ⟨b,o,e,(hb.cell (p:=⟨b,o+j,none⟩) (World.block_lt_of_cell? w ⟨b,o+j,none⟩ hc)).trans hc⟩
theorem IArg.nil (w:World) (a:Option Addr):IArg w a 0 []:=⟨fun j h=>absurd h (by simp),rfl,by omega⟩
theorem IArg.at {w:World} {a:Option Addr} {n:Nat} {L:List Int} (h:IArg w a n L) (hn:0<n):∃ b o,a=some ⟨b,o,none⟩∧∀ j,j<n→w.cell? ⟨b,o+j,none⟩=some (.int .i64 (L.getD j 0)):=by
  obtain ⟨b,o,e,_⟩:=h.1 0 (by have:=h.2.1;omega)
  refine ⟨b,o,e,fun j hj=>?_⟩
  obtain ⟨b',o',e',hc⟩:=h.1 j (by have:=h.2.1;omega)
  rw [e,Option.some.injEq,Addr.mk.injEq] at e'
  obtain ⟨rfl,rfl,_⟩:=e'
  exact hc
theorem own_ints {w:World} {base n:Nat} {v:Value} {L:List Int} (h:w.ownsRow base 3 1 v n (ic L)) (hn:n≤9223372036854775807) :
    ∃ a cap,v=.slice a n cap∧IArg w a n L∧(a=none→n=0∧cap=0)∧n≤cap∧∀ ad,a=some ad→∃ g,ad=⟨g,0,none⟩∧base≤g∧g<w.heap.size:=by
  have hl:L.length=n:=by have:=h.1;rw [ic_len] at this;omega
  rcases h.2 with ⟨rfl,rfl⟩ | ⟨g,cap,cur,rfl,hg,hb,hc,hm,hs,ht⟩
  · have:L=[]:=List.eq_nil_of_length_eq_zero hl
    subst this
    exact ⟨none,0,rfl,IArg.nil _ _,fun _=>⟨rfl,rfl⟩,Nat.le_refl _,fun ad e=>by simp at e⟩
  · refine ⟨_,cap,rfl,⟨fun j hj=>⟨g,0,rfl,?_⟩,hl,hn⟩,fun e=>by simp at e,hc,fun ad e=>⟨g,by simpa using e.symm,hg,lt_of_block hb⟩⟩
    rw [Nat.zero_add,h.cellAt j (by omega),ic_get L j hj]
theorem own_block {w:World} {base n g:Nat} {v:Value} {xs:List Value} (h:w.ownsRow base 3 1 v n xs) (hg:v.ownBlock=some g):∃ cs,w.heap[g]?=some (.cells cs 3 (0,0)):=by
  rcases h.2 with ⟨rfl,_⟩ | ⟨g',cap,cur,rfl,_,hb,_⟩
  · simp [Value.ownBlock] at hg
  · simp [Value.ownBlock] at hg
    subst hg
    exact ⟨cur,hb⟩

theorem below_drewN' {w wr:World} (h:Below w.heap.size w wr) (q:Nat):Below w.heap.size w (wr.drewN q):=⟨h.os,h.tape,h.output,h.size,h.block⟩
theorem below_alloc {w wr:World} (h:Below w.heap.size w wr) (o:Obj):Below w.heap.size w (wr.alloc o):=h.alloc h.size o
theorem own_below {w w':World} {base e sz n:Nat} {v:Value} {xs:List Value} (h:w.ownsRow base e sz v n xs) (hb:Below w.heap.size w w'):w'.ownsRow base e sz v n xs:=by
  refine ⟨h.1,?_⟩
  rcases h.2 with hl | ⟨g,cap,cur,rfl,hg,hbl,rest⟩
  · exact .inl hl
  · exact .inr ⟨g,cap,cur,rfl,hg,(hb.block g (lt_of_block hbl)).trans hbl,rest⟩

def vc (l:Vs):List Value:=l.flatMap fun m=>[.int .i64 m.1,.int .i64 m.2]
theorem vc_len:∀ l:Vs,(vc l).length=l.length*2
  | []=>rfl
  | p::l=>by have:=vc_len l;simp [vc] at this ⊢;omega
theorem vc_app (l k:Vs):vc (l++k)=vc l++vc k:=by simp [vc]
theorem vc_cons (m:Int×Int) (l:Vs):vc (m::l)=[.int .i64 m.1,.int .i64 m.2]++vc l:=rfl
theorem vc_one (m:Int×Int):vc [m]=[.int .i64 m.1,.int .i64 m.2]:=rfl
theorem vc_cell (l:Vs):∀ u∈vc l,u.oneCell'=true:=by
  intro u hu
  simp only [vc,List.mem_flatMap] at hu
  obtain ⟨m,_,hu⟩:=hu
  simp at hu
  rcases hu with rfl | rfl<;>rfl
theorem vc_take:∀ (l:Vs) (i:Nat),(vc l).take (i*2)=vc (l.take i)
  | [],i=>by simp [vc]
  | p::l,0=>by simp [vc]
  | p::l,i+1=>by
    rw [List.take_succ_cons,vc_cons,vc_cons,show (i+1)*2=i*2+1+1 by omega,← vc_take l i]
    rfl
theorem vc_drop:∀ (l:Vs) (i:Nat),(vc l).drop (i*2)=vc (l.drop i)
  | [],i=>by simp [vc]
  | p::l,0=>by simp [vc]
  | p::l,i+1=>by
    rw [List.drop_succ_cons,vc_cons,show (i+1)*2=i*2+1+1 by omega,← vc_drop l i]
    rfl
theorem vc_get:∀ (l:Vs) (j:Nat),j<l.length→(vc l)[j*2]?=some (.int .i64 (l.getD j (0,0)).1)∧(vc l)[j*2+1]?=some (.int .i64 (l.getD j (0,0)).2)
  | [],j,h=>absurd h (by simp)
  | p::l,0,_=>⟨rfl,rfl⟩
  | p::l,j+1,h=>by
    have:=vc_get l j (by simpa using h)
    have e:vc (p::l)=.int .i64 p.1::.int .i64 p.2::vc l:=rfl
    rw [e,show (j+1)*2=j*2+1+1 by omega]
    simpa using this
theorem infoVO:(Tryz.prog.info? 83).map (fun i=>(i.zero,i.size,i.bytes))=some (some (.agg #[.int .i64 0,.int .i64 0]),2,16):=by kernel_rfl
def Vcs (w:World) (a:Option Addr) (l:Vs):Prop:=∀ j,j<l.length→∃ b o,a=some ⟨b,o,none⟩∧w.cell? ⟨b,o+j*2,none⟩=some (.int .i64 (l.getD j (0,0)).1)∧w.cell? ⟨b,o+j*2+1,none⟩=some (.int .i64 (l.getD j (0,0)).2)
def VArg (w:World) (a:Option Addr) (n:Nat) (l:Vs):Prop:=Vcs w a l∧l.length=n∧n≤9223372036854775807
theorem VArg.below {w w':World} {a:Option Addr} {n:Nat} {l:Vs} (h:VArg w a n l) (hb:Below w.heap.size w w'):VArg w' a n l:=by
  refine ⟨fun j hj=>?_,h.2⟩
  obtain ⟨b,o,e,hc,hd⟩:=h.1 j hj
  exact ⟨b,o,e,(hb.cell (p:=⟨b,o+j*2,none⟩) (World.block_lt_of_cell? w _ hc)).trans hc,(hb.cell (p:=⟨b,o+j*2+1,none⟩) (World.block_lt_of_cell? w _ hd)).trans hd⟩
theorem VArg.nil (w:World) (a:Option Addr):VArg w a 0 []:=⟨fun j h=>absurd h (by simp),rfl,by omega⟩
theorem VArg.at {w:World} {a:Option Addr} {n:Nat} {l:Vs} (h:VArg w a n l) (hn:0<n):∃ b o,a=some ⟨b,o,none⟩∧b<w.heap.size∧∀ j,j<n→w.cell? ⟨b,o+j*2,none⟩=some (.int .i64 (l.getD j (0,0)).1)∧w.cell? ⟨b,o+j*2+1,none⟩=some (.int .i64 (l.getD j (0,0)).2):=by
  obtain ⟨b,o,e,h0,_⟩:=h.1 0 (by have:=h.2.1;omega)
  refine ⟨b,o,e,World.block_lt_of_cell? w _ h0,fun j hj=>?_⟩
  obtain ⟨b',o',e',hc⟩:=h.1 j (by have:=h.2.1;omega)
  rw [e,Option.some.injEq,Addr.mk.injEq] at e'
  obtain ⟨rfl,rfl,_⟩:=e'
  exact hc
theorem own_vs {w:World} {base n:Nat} {v:Value} {l:Vs} (h:w.ownsRow base 83 2 v n (vc l)) (hn:n≤9223372036854775807) :
    ∃ a cap,v=.slice a n cap∧VArg w a n l∧(a=none→n=0∧cap=0)∧n≤cap∧∀ ad,a=some ad→∃ g,ad=⟨g,0,none⟩∧base≤g∧g<w.heap.size:=by
  have hl:l.length=n:=by have:=h.1;rw [vc_len] at this;omega
  rcases h.2 with ⟨rfl,rfl⟩ | ⟨g,cap,cur,rfl,hg,hb,hc,hm,hs,ht⟩
  · have:l=[]:=List.eq_nil_of_length_eq_zero hl
    subst this
    exact ⟨none,0,rfl,VArg.nil _ _,fun _=>⟨rfl,rfl⟩,Nat.le_refl _,fun ad e=>by simp at e⟩
  · refine ⟨_,cap,rfl,⟨fun j hj=>⟨g,0,rfl,?_,?_⟩,hl,hn⟩,fun e=>by simp at e,hc,fun ad e=>⟨g,by simpa using e.symm,hg,lt_of_block hb⟩⟩
    · rw [Nat.zero_add,h.cellAt (j*2) (by omega),(vc_get l j hj).1]
    · rw [Nat.zero_add,h.cellAt (j*2+1) (by omega),(vc_get l j hj).2]
theorem own_vlen {w:World} {base n:Nat} {v:Value} {l:Vs} (h:w.ownsRow base 83 2 v n (vc l)):l.length=n:=by have:=h.1;rw [vc_len] at this;omega
theorem vs_cells {w:World} {a:Option Addr} {n:Nat} {l:Vs} (h:VArg w a n l):∀ ad,a=some ad→∀ j u,(vc l)[j]?=some u→w.cell? (ad.add j)=some u:=by
  intro ad he j u hu
  have hj:j<l.length*2:=by
    rcases Nat.lt_or_ge j (l.length*2) with h' | h'
    · exact h'
    · rw [List.getElem?_eq_none (by rw [vc_len];exact h')] at hu;simp at hu
  obtain ⟨b,o,e,h0,h1⟩:=h.1 (j / 2) (by omega)
  obtain ⟨g0,g1⟩:=vc_get l (j / 2) (by omega)
  rw [he,Option.some.injEq] at e
  rw [e,add_plain]
  rcases (show j=j / 2*2∨j=j / 2*2+1 by omega) with q | q
  · rw [q,h0,← g0,← hu,← q]
  · rw [q,← Nat.add_assoc,h1,← g1,← hu,← q]
theorem VArg.take {w:World} {a:Option Addr} {n:Nat} {l:Vs} (h:VArg w a n l) {k:Nat} (hk:k≤n):VArg w a k (l.take k):=by
  have hl:=h.2.1
  refine ⟨fun j hj=>?_,by rw [List.length_take];omega,by have:=h.2.2;omega⟩
  rw [List.length_take] at hj
  obtain ⟨b,o,e,h1,h2⟩:=h.1 j (by omega)
  have e1:(l.take k).getD j (0,0)=l.getD j (0,0):=by
    rw [List.getD_eq_getElem?_getD,List.getD_eq_getElem?_getD,List.getElem?_take_of_lt (by omega)]
  rw [e1]
  exact ⟨b,o,e,h1,h2⟩
def VBox (w:World) (B:Nat) (m:Int×Int):Prop:=w.heap[B]?=some (.cells #[.int .i64 m.1,.int .i64 m.2] 83 (0,0))
theorem VBox.new (w:World) (m:Int×Int):VBox (w.alloc (.cells #[.int .i64 m.1,.int .i64 m.2] 83)) w.heap.size m:=heap_alloc_new w _
theorem VBox.lt {w:World} {B:Nat} {m:Int×Int} (h:VBox w B m):B<w.heap.size:=lt_of_block h
theorem VBox.cells {w:World} {B:Nat} {m:Int×Int} (h:VBox w B m):w.cell? ⟨B,0,none⟩=some (.int .i64 m.1)∧w.cell? ⟨B,1,none⟩=some (.int .i64 m.2):=by
  unfold VBox at h
  refine ⟨?_,?_⟩<;>simp [World.cell?,h]
theorem VBox.free {w:World} {B:Nat} {m:Int×Int} (h:VBox w B m) (j:Nat):w.frozen? ⟨B,j,none⟩=false:=by
  unfold VBox at h
  simp [World.frozen?,h]
theorem VBox.below {w w':World} {B C:Nat} {m:Int×Int} (h:VBox w B m) (hb:Below C w w') (hB:B<C):VBox w' B m:=(hb.block B hB).trans h
theorem VBox.alloc {w:World} {B:Nat} {m:Int×Int} (h:VBox w B m) (O:Obj):VBox (w.alloc O) B m:=(Below.heap_alloc _ _ _ h.lt).trans h
theorem VBox.news {w:World} {B:Nat} {m:Int×Int} (h:VBox w B m):∀ j u,(vc [m])[j]?=some u→w.cell? ((⟨B,0,none⟩:Addr).add j)=some u:=by
  intro j u hu
  unfold VBox at h
  exact World.news_of_block (cs:=#[.int .i64 m.1,.int .i64 m.2]) h j u hu

theorem law3:Keyed Tryz.prog 3:=int_keyed Tryz.underlying3
theorem keyOf3 {y:Int} (h:(Lit.int .i64 y).wf=true):keyOf Tryz.prog 3 (.int .i64 y)=some (Lit.int .i64 y):=keyOf_int_mk Tryz.underlying3 h
def key (y:Int):Lit:=.int .i64 y
theorem key_inj {x y:Int} (h:key x=key y):x=y:=by
  unfold key at h
  injection h
theorem keyLit (y:Int):WideAt.IsKeyLit (key y):=trivial
def inR:Value→Option (DataW Value×List MemPlace)
  | .int .i64 x=>some (.held (.int .i64 x),[])
  | _=>none
theorem inR_mk (x:Int):inR (.int .i64 x)=some (.held (.int .i64 x),[]):=rfl
theorem inR_inv {v:Value} {y:DataW Value×List MemPlace} (h:inR v=some y):(∃ x,v=.int .i64 x)∧y=(.held v,[]):=by
  unfold inR at h
  split at h
  · rename_i x
    exact ⟨⟨x,rfl⟩,(Option.some.inj h).symm⟩
  · cases h
structure KM (D:DataW Value) (S:Int→Prop) (g:Int→Int):Prop where
  keys:∀ k:Lit,Maps.has D k=true↔∃ x,S x∧k=key x
  els:∀ x,S x→∀ zd,D.atKey (key x) zd=.held (.int .i64 (g x))
theorem KM.nil (g:Int→Int):KM (.map []) (fun _=>False) g:=by
  refine ⟨fun k=>?_,fun x h=>h.elim⟩
  constructor
  · intro h;simp [Maps.has] at h
  · rintro ⟨i,hi,_⟩;exact hi.elim
theorem KM.ext {D:DataW Value} {S T:Int→Prop} {g h:Int→Int} (k:KM D S g) (e1:∀ x,S x↔T x) (e2:∀ x,T x→g x=h x):KM D T h:=by
  refine ⟨fun l=>?_,fun x hx zd=>?_⟩
  · rw [k.keys l]
    constructor
    · rintro ⟨x,h1,h2⟩;exact ⟨x,(e1 x).1 h1,h2⟩
    · rintro ⟨x,h1,h2⟩;exact ⟨x,(e1 x).2 h1,h2⟩
  · rw [← e2 x hx];exact k.els x ((e1 x).2 hx) zd
theorem KM.put {D:DataW Value} {S:Int→Prop} {g:Int→Int} (hD:IsMap D) (h:KM D S g) (a c:Int):KM (D.put (key a) (.held (.int .i64 c))) (fun x=>S x∨x=a) (fun x=>if x=a then c else g x):=by
  refine ⟨fun k=>?_,fun y hy zd=>?_⟩
  · by_cases q:k=key a
    · subst q
      rw [has_put_same hD (keyLit _)]
      exact ⟨fun _=>⟨a,.inr rfl,rfl⟩,fun _=>rfl⟩
    · rw [has_put_other q,h.keys k]
      constructor
      · rintro ⟨y,h1,rfl⟩;exact ⟨y,.inl h1,rfl⟩
      · rintro ⟨y,h1 | rfl,rfl⟩
        · exact ⟨y,h1,rfl⟩
        · exact absurd rfl q
  · by_cases e:y=a
    · subst e
      rw [if_pos rfl]
      exact atKey_put_same hD (keyLit _) _ _
    · rw [if_neg e,atKey_put_other (fun z=>e (key_inj z))]
      exact h.els y (hy.resolve_right e) zd
def zeroD (_:Lit):DataW Value→Bool
  | .held (.int .i64 v)=>v==0
  | _=>false
theorem KM.strike {D:DataW Value} {S:Int→Prop} {g:Int→Int} (h:KM D S g) (ht:∃ es,D=.map es∧es.Pairwise (fun p q=>p.1≠q.1)∧∀ p∈es,WideAt.IsKeyLit p.1):KM (Lib.deleteFuncD zeroD D) (fun x=>S x∧g x≠0) g:=by
  obtain ⟨es,rfl,hp,hl⟩:=ht
  have mem:∀ x d,(key x,d)∈es→S x∧d=.held (.int .i64 (g x)):=by
    intro x d hm
    obtain ⟨y,h1,h2⟩:=(h.keys (key x)).1 (List.any_eq_true.2 ⟨_,hm,WideAt.sameKey_self (keyLit x)⟩)
    obtain rfl:=key_inj h2
    exact ⟨h1,(WideAt.atKey_mem .nil (keyLit _) hp hm).symm.trans (h.els _ h1 .nil)⟩
  have con:∀ x,S x→(key x,DataW.held (Value.int .i64 (g x)))∈es:=by
    intro x hx
    obtain ⟨e,he,hs⟩:=List.any_eq_true.1 ((h.keys (key x)).2 ⟨x,hx,rfl⟩)
    have e1:e.1=key x:=WideAt.sameKey_eq hs
    have e2:=(mem x e.2 (by rw [← e1];exact he)).2
    rw [← e1,← e2]
    exact he
  have pw:(es.filter fun p=>!zeroD p.1 p.2).Pairwise (fun p q=>p.1≠q.1):=hp.filter _
  refine ⟨fun k=>?_,fun x hx zd=>?_⟩
  · show (es.filter fun p=>!zeroD p.1 p.2).any _=true↔_
    constructor
    · intro hk
      obtain ⟨e,he,hs⟩:=List.any_eq_true.1 hk
      obtain ⟨he1,he2⟩:=List.mem_filter.1 he
      have ek:e.1=k:=WideAt.sameKey_eq hs
      obtain ⟨x,hx,e3⟩:=(h.keys k).1 (List.any_eq_true.2 ⟨e,he1,hs⟩)
      have e4:=(mem x e.2 (by rw [← e3,← ek];exact he1)).2
      refine ⟨x,⟨hx,fun z=>?_⟩,e3⟩
      rw [e4,z] at he2
      simp [zeroD] at he2
    · rintro ⟨x,⟨hx,hz⟩,rfl⟩
      refine List.any_eq_true.2 ⟨_,List.mem_filter.2 ⟨con x hx,?_⟩,WideAt.sameKey_self (keyLit x)⟩
      simp [zeroD,hz]
  · exact WideAt.atKey_mem zd (keyLit x) pw (List.mem_filter.2 ⟨con x hx.1,by simp [zeroD,hx.2]⟩)
theorem tight {P:Program} {k:TypeId} {R:Value→Option (DataW Value×List MemPlace)} {w:World} {b n:Nat} {D:DataW Value} (h:w.ownsMap P k R b n D):w.ownsMap P k R b (Maps.size D) D:=by
  obtain ⟨es,clock,hb,F,hs,rfl⟩:=h
  refine ⟨es,clock,hb,F,?_,rfl⟩
  simp [Maps.size,length_sorted]
theorem map_block {P:Program} {k:TypeId} {R:Value→Option (DataW Value×List MemPlace)} {w:World} {b n:Nat} {D:DataW Value} (h:w.ownsMap P k R b n D):∃ es c,w.heap[b]?=some (.map es c):=by
  obtain ⟨es,clock,hb,_⟩:=h
  exact ⟨es,clock,hb⟩
theorem map_only {w w':World} {bs:List Nat} {m n:Nat} {D:DataW Value} (h:w.ownsMap Tryz.prog 3 inR m n D) (ho:Only bs w w') (hm:m∉bs):w'.ownsMap Tryz.prog 3 inR m n D:=by
  obtain ⟨es,clock,h4,h5⟩:=h
  exact ⟨es,clock,ho.block h4 hm,h5⟩
theorem KM.size {D:DataW Value} {f:Sc} (h:KM D (fun x=>f x≠0) f) (ht:∃ es,D=.map es∧es.Pairwise (fun p q=>p.1≠q.1)∧∀ p∈es,WideAt.IsKeyLit p.1) (hf:Ok f):Maps.size D=(lst f).length:=by
  obtain ⟨es,rfl,hp,hl⟩:=ht
  have n1:(es.map Prod.fst).Nodup:=by rw [List.nodup_iff_pairwise_ne,List.pairwise_map];exact hp
  have n2:((lst f).map fun p=>key p.1).Nodup:=by
    rw [List.nodup_iff_pairwise_ne,List.pairwise_map]
    exact (lst_rises f).imp fun hab e=>by have:=key_inj e;omega
  have s1:∀ x∈es.map Prod.fst,x∈(lst f).map fun p=>key p.1:=by
    intro x hx
    obtain ⟨e,he,rfl⟩:=List.mem_map.1 hx
    obtain ⟨i,hi,h⟩:=(h.keys e.1).1 (List.any_eq_true.2 ⟨e,he,WideAt.sameKey_self (hl e he)⟩)
    exact List.mem_map.2 ⟨(i,f i),(mem_lst hf _).2 ⟨rfl,hi⟩,h.symm⟩
  have s2:∀ x∈(lst f).map fun p=>key p.1,x∈es.map Prod.fst:=by
    intro x hx
    obtain ⟨z,hz,rfl⟩:=List.mem_map.1 hx
    have hz:=(mem_lst hf z).1 hz
    obtain ⟨e,he,hs⟩:=List.any_eq_true.1 ((h.keys (key z.1)).2 ⟨z.1,by rw [hz.1];exact hz.2,rfl⟩)
    exact List.mem_map.2 ⟨e,he,WideAt.sameKey_eq hs⟩
  have l1:=List.Nodup.length_le_of_subset n1 s1
  have l2:=List.Nodup.length_le_of_subset n2 s2
  simp at l1 l2
  simp [Maps.size]
  omega

def SMap (w:World) (mo:Option Nat) (f:Sc):Prop:=(mo=none∧∀ x,f x=0)∨∃ m D,mo=some m∧w.ownsMap Tryz.prog 3 inR m (Maps.size D) D∧KM D (fun x=>f x≠0) f
theorem SMap.only {w w':World} {mo:Option Nat} {f:Sc} {bs:List Nat} (h:SMap w mo f) (ho:Only bs w w') (hm:∀ m,mo=some m→m∉bs):SMap w' mo f:=by
  rcases h with h | ⟨m,D,rfl,h1,h2⟩
  · exact .inl h
  · exact .inr ⟨m,D,rfl,map_only h1 ho (hm m rfl),h2⟩
theorem SMap.lt {w:World} {m:Nat} {f:Sc} (h:SMap w (some m) f):m<w.heap.size:=by
  rcases h with ⟨h,_⟩ | ⟨m',D,h0,h1,h2⟩
  · cases h
  · cases h0;exact h1.lt
structure VAt (w:World) (b:Nat) (mo:Option Nat) (many sp:Int) (f:Sc):Prop where
  box:w.heap[b]?=some (.cells #[.int .i64 many,.int .i64 sp,.map mo] 129 (0,0))
  map:SMap w mo f
theorem VAt.cells {w:World} {b:Nat} {mo:Option Nat} {many sp:Int} {f:Sc} (h:VAt w b mo many sp f):w.cell? ⟨b,0,none⟩=some (.int .i64 many)∧w.cell? ⟨b,1,none⟩=some (.int .i64 sp)∧w.cell? ⟨b,2,none⟩=some (.map mo):=by
  have:=h.box
  refine ⟨?_,?_,?_⟩<;>simp [World.cell?,this]
theorem VAt.free {w:World} {b:Nat} {mo:Option Nat} {many sp:Int} {f:Sc} (h:VAt w b mo many sp f) (j:Nat):w.frozen? ⟨b,j,none⟩=false:=by
  have:=h.box
  simp [World.frozen?,this]
theorem VAt.lt {w:World} {b:Nat} {mo:Option Nat} {many sp:Int} {f:Sc} (h:VAt w b mo many sp f):b<w.heap.size:=lt_of_block h.box
theorem VAt.ne {w:World} {b m:Nat} {many sp:Int} {f:Sc} (h:VAt w b (some m) many sp f):b≠m:=by
  rcases h.map with ⟨h0,_⟩ | ⟨m',D,h0,h1,h2⟩
  · cases h0
  · cases h0
    obtain ⟨es,c,h4⟩:=map_block h1
    intro e
    have:=h.box
    rw [e,h4] at this
    simp at this
theorem VAt.only {w w':World} {b:Nat} {mo:Option Nat} {many sp:Int} {f:Sc} {bs:List Nat} (h:VAt w b mo many sp f) (ho:Only bs w w') (hb:b∉bs) (hm:∀ m,mo=some m→m∉bs):VAt w' b mo many sp f:=
  ⟨ho.block h.box hb,h.map.only ho hm⟩
theorem VAt.below {w w':World} {b:Nat} {mo:Option Nat} {many sp:Int} {f:Sc} (h:VAt w b mo many sp f) (hb:Below w.heap.size w w'):VAt w' b mo many sp f:=
  h.only (Only.of_below hb []) (by simp) (by simp)
theorem VAt.setS {w:World} {b:Nat} {mo:Option Nat} {many sp:Int} {f:Sc} (h:VAt w b mo many sp f) (x:Int):VAt (w.setCell ⟨b,1,none⟩ (.int .i64 x)) b mo many x f:=by
  have ho:Only [b] w (w.setCell ⟨b,1,none⟩ (.int .i64 x)):=(Only.refl _ _).setCell (by simp) _
  refine ⟨heap_setCell_same w b 1 _ _ _ h.box,h.map.only ho fun m hm=>?_⟩
  subst hm
  simp
  exact fun e=>h.ne e.symm
theorem VAt.setM {w:World} {b m:Nat} {mo:Option Nat} {many sp:Int} {f g:Sc} {D:DataW Value} (h:VAt w b mo many sp f) (hw:w.ownsMap Tryz.prog 3 inR m (Maps.size D) D) (hk:KM D (fun x=>g x≠0) g):VAt (w.setCell ⟨b,2,none⟩ (.map (some m))) b (some m) many sp g:=by
  have ho:Only [b] w (w.setCell ⟨b,2,none⟩ (.map (some m))):=(Only.refl _ _).setCell (by simp) _
  have hne:m≠b:=by
    obtain ⟨es,c,h4⟩:=map_block hw
    intro e
    have:=h.box
    rw [← e,h4] at this
    simp at this
  exact ⟨heap_setCell_same w b 2 _ _ _ h.box,.inr ⟨m,D,rfl,map_only hw ho (by simpa using hne),hk⟩⟩

def nf (many:Int):Nat:=if many<1∨20<many then 1 else 0
theorem new_err (many:Int) (w:World) (h:many<1∨20<many) :
    Calls Tryz.prog 39 #[.int .i64 many] w fun e w'=>e=.returned (.tuple #[.pointer none,errv 1])∧w'=w:=by
  by_cases c:many<1
  · clear h
    go_enter Tryz.func39,Tryz.ntmps39
    go_wp2_with fail
    go_ret2
    exact ⟨rfl,rfl⟩
  · have c1:20<many:=by omega
    clear h
    go_enter Tryz.func39,Tryz.ntmps39
    go_wp2_with fail
    go_ret2
    exact ⟨rfl,rfl⟩
theorem new_ok (many:Int) (w:World) (h0:1≤many) (h1:many≤20) :
    Calls Tryz.prog 39 #[.int .i64 many] w fun e w'=>e=.returned (.tuple #[.pointer (some ⟨w.heap.size,0,none⟩),.nilIface])∧VAt w' w.heap.size none many (-1) (fun _=>0)∧Below w.heap.size w w':=by
  go_enter Tryz.func39,Tryz.ntmps39
  go_wp2_with fail
  go_ret2
  exact ⟨rfl,⟨heap_alloc_new w _,.inl ⟨rfl,fun _=>rfl⟩⟩,(Below.refl _ _).alloc (Nat.le_refl _) _⟩
theorem speaker_calls (b:Nat) (sp:Int) (w:World) (c1:w.cell? ⟨b,1,none⟩=some (.int .i64 sp)) :
    Calls Tryz.prog 93 #[.pointer (some ⟨b,0,none⟩)] w fun e w'=>e=.returned (.int .i64 sp)∧w'=w:=by
  go_enter Tryz.func93,Tryz.ntmps93
  go_wp2_with fail
  go_ret
  exact ⟨rfl,rfl⟩

theorem zero3 (w:World):(zeroValue 3).run Tryz.prog w=.ok (.int .i64 0) w:=by kernel_rfl
theorem KM.bound {D:DataW Value} {S:Int→Prop} {g:Int→Int} (h:KM D S g) (ht:∃ es,D=.map es∧es.Pairwise (fun p q=>p.1≠q.1)∧∀ p∈es,WideAt.IsKeyLit p.1) (hS:∀ x,S x→0≤x∧x≤200):Maps.size D≤201:=by
  obtain ⟨es,rfl,hp,hl⟩:=ht
  have n1:(es.map Prod.fst).Nodup:=by rw [List.nodup_iff_pairwise_ne,List.pairwise_map];exact hp
  have s1:∀ x∈es.map Prod.fst,x∈(List.range 201).map fun i:Nat=>key (i:Int):=by
    intro x hx
    obtain ⟨e,he,rfl⟩:=List.mem_map.1 hx
    obtain ⟨i,hi,h⟩:=(h.keys e.1).1 (List.any_eq_true.2 ⟨e,he,WideAt.sameKey_self (hl e he)⟩)
    have:=hS i hi
    exact List.mem_map.2 ⟨i.toNat,List.mem_range.2 (by omega),by rw [h,show ((i.toNat:Nat):Int)=i by omega]⟩
  have l1:=List.Nodup.length_le_of_subset n1 s1
  simp at l1
  simp [Maps.size]
  omega
theorem KM.not {D:DataW Value} {S:Int→Prop} {g:Int→Int} (h:KM D S g) {y:Int} (hn:¬ S y):Maps.has D (key y)=false:=by
  cases q:Maps.has D (key y) with
  | false=>rfl
  | true=>
    obtain ⟨x,h1,h2⟩:=(h.keys _).1 q
    rw [key_inj h2] at hn
    exact absurd h1 hn
theorem look_in {w:World} {m:Nat} {D:DataW Value} {S:Int→Prop} {g:Int→Int} (hown:w.ownsMap Tryz.prog 3 inR m (Maps.size D) D) (hK:KM D S g) {y:Int} (hw:(Lit.int .i64 y).wf=true) (hs:S y) :
    (Instr.lookup 127 (.map (some m)) (.int .i64 y) true).run Tryz.prog w=.ok (.tuple #[.int .i64 (g y),.bool true]) w:=by
  obtain ⟨v',ps,hrun,hr⟩:=hown.look_ok law3 Tryz.underlying127 (zero3 _) (inR_mk 0) (keyOf3 hw)
  obtain ⟨⟨x,rfl⟩,e⟩:=inR_inv hr
  have e1:Maps.has D (key y)=true:=(hK.keys _).2 ⟨y,hs,rfl⟩
  have e2:=hK.els y hs (.held (.int .i64 0))
  unfold key at e1 e2
  rw [e1] at hrun
  rw [e2] at e
  simp at e
  rw [← e.1] at hrun
  exact hrun
theorem look_out {w:World} {m:Nat} {D:DataW Value} {S:Int→Prop} {g:Int→Int} (hown:w.ownsMap Tryz.prog 3 inR m (Maps.size D) D) (hK:KM D S g) {y:Int} (hw:(Lit.int .i64 y).wf=true) (hs:¬ S y) :
    (Instr.lookup 127 (.map (some m)) (.int .i64 y) true).run Tryz.prog w=.ok (.tuple #[.int .i64 0,.bool false]) w:=by
  obtain ⟨v',ps,hrun,hr⟩:=hown.look_ok law3 Tryz.underlying127 (zero3 _) (inR_mk 0) (keyOf3 hw)
  obtain ⟨⟨x,rfl⟩,e⟩:=inR_inv hr
  have e1:=hK.not hs
  have e2:=atKey_of_not_has e1 (.held (.int .i64 0))
  unfold key at e1 e2
  rw [e1] at hrun
  rw [e2] at e
  simp at e
  rw [← e.1] at hrun
  exact hrun
theorem look_any {w:World} {m:Nat} {D:DataW Value} {S:Int→Prop} {g:Int→Int} (hown:w.ownsMap Tryz.prog 3 inR m (Maps.size D) D) (hK:KM D S g) {y:Int} (hw:(Lit.int .i64 y).wf=true) (h0:¬ S y→g y=0) :
    (Instr.lookup 127 (.map (some m)) (.int .i64 y) false).run Tryz.prog w=.ok (.int .i64 (g y)) w:=by
  obtain ⟨v',ps,hrun,hr⟩:=hown.lookup law3 Tryz.underlying127 (zero3 _) (inR_mk 0) (keyOf3 hw)
  obtain ⟨⟨x,rfl⟩,e⟩:=inR_inv hr
  by_cases hs:S y
  · have e2:=hK.els y hs (.held (.int .i64 0))
    unfold key at e2
    rw [e2] at e
    simp at e
    rw [← e.1] at hrun
    exact hrun
  · have e2:=atKey_of_not_has (hK.not hs) (.held (.int .i64 0))
    unfold key at e2
    rw [e2] at e
    simp at e
    rw [h0 hs]
    rw [← e.1] at hrun
    exact hrun
theorem store_in {w:World} {m:Nat} {D:DataW Value} {S:Int→Prop} {g:Int→Int} (hown:w.ownsMap Tryz.prog 3 inR m (Maps.size D) D) (hK:KM D S g) (hS:∀ x,S x→0≤x∧x≤200) {y:Int} (hw:(Lit.int .i64 y).wf=true) (c:Int) :
    ∃ w2 D2,(Instr.mapUpdate 127 (.map (some m)) (.int .i64 y) (.int .i64 c)).run Tryz.prog w=.ok () w2∧w2.ownsMap Tryz.prog 3 inR m (Maps.size D2) D2∧KM D2 (fun x=>S x∨x=y) (fun x=>if x=y then c else g x)∧w.grownBy w2 (some m):=by
  have hsz:=hK.bound (hown.entries law3) hS
  obtain ⟨w2,hrun,hown2,hturn⟩:=hown.store law3 Tryz.underlying127 (by unfold maxLen;omega) (keyOf3 hw) (inR_mk c)
  exact ⟨w2,_,hrun,tight hown2,hK.put hown.isMap y c,hturn.grown⟩

structure GSt (w wr:World) (m i:Nat) (l:Vs):Prop where
  bel:Below w.heap.size w wr
  lo:w.heap.size≤m
  map:∃ D,wr.ownsMap Tryz.prog 3 inR m (Maps.size D) D∧KM D (fun x=>∃ p∈l.take i,p.1=x) (fun x=>16*lev (l.take i) x)
  ok:Oks (l.take i)
theorem GSt.alloc {w wr:World} {m i:Nat} {l:Vs} (h:GSt w wr m i l) (O:Obj):GSt w (wr.alloc O) m i l:=by
  obtain ⟨D,h1,h2⟩:=h.map
  exact ⟨below_alloc h.bel O,h.lo,⟨D,h1.alloc O,h2⟩,h.ok⟩
theorem GSt.start (w:World) (l:Vs):GSt w (w.alloc (.map #[] 0)) w.heap.size 0 l:=by
  refine ⟨(Below.refl _ _).alloc (Nat.le_refl _) _,Nat.le_refl _,⟨.map [],World.ownsMap_made w _ _ _,?_⟩,oks_nil⟩
  refine (KM.nil _).ext (fun x=>?_) (fun x hx=>rfl)
  simp
theorem GSt.who {l:Vs} {i:Nat} (h:Oks (l.take i)):∀ x,(∃ p∈l.take i,p.1=x)→0≤x∧x≤200:=by
  rintro x ⟨p,hp,rfl⟩
  have:=(okv_iff p).1 (h.1 p hp)
  omega
theorem GSt.step {w wr:World} {m i:Nat} {l:Vs} (h:GSt w wr m i l) (hi:i<l.length) {x y:Int} (hp:l.getD i (0,0)=(x,y)) (hk:okv (x,y)=true) (hn:¬ ∃ p∈l.take i,p.1=x) :
    (Instr.lookup 127 (.map (some m)) (.int .i64 x) true).run Tryz.prog wr=.ok (.tuple #[.int .i64 0,.bool false]) wr∧∃ w2,(Instr.mapUpdate 127 (.map (some m)) (.int .i64 x) (.int .i64 (16*y))).run Tryz.prog wr=.ok () w2∧GSt w w2 m (i+1) l:=by
  obtain ⟨D,h1,h2⟩:=h.map
  have hb:=(okv_iff _).1 hk
  simp only at hb
  have hw:=wf_of (y:=x) (by omega) (by omega)
  refine ⟨look_out h1 h2 hw hn,?_⟩
  obtain ⟨w2,D2,hrun,g1,g2,g3⟩:=store_in h1 h2 (GSt.who h.ok) hw (16*y)
  refine ⟨w2,hrun,⟨h.bel.grown g3 h.bel.size (by have:=h.lo;intro k hk;simp at hk;omega),h.lo,⟨D2,g1,?_⟩,oks_next hi h.ok (by rw [hp];exact hk) (by rw [hp];exact hn)⟩⟩
  refine g2.ext (fun z=>?_) (fun z hz=>?_)
  · rw [take_succ' hi,hp]
    constructor
    · rintro (⟨p,hp1,hp2⟩ | rfl)
      · exact ⟨p,List.mem_append_left _ hp1,hp2⟩
      · exact ⟨(z,y),by simp,rfl⟩
    · rintro ⟨p,hp1,rfl⟩
      rcases List.mem_append.1 hp1 with hp1 | hp1
      · exact .inl ⟨p,hp1,rfl⟩
      · rw [List.mem_singleton.1 hp1];exact .inr rfl
  · rw [take_succ' hi,hp,lev_app,lev_one]
    by_cases e:z=x
    · subst e
      rw [if_pos rfl,if_pos rfl,lev_out _ _ (fun p hp1 e=>hn ⟨p,hp1,e⟩)]
      omega
    · rw [if_neg e,if_neg (fun c=>e c.symm)]
      omega
theorem GSt.clash {w wr:World} {m i:Nat} {l:Vs} (h:GSt w wr m i l) {x:Int} (hn:∃ p∈l.take i,p.1=x) :
    ∃ c,(Instr.lookup 127 (.map (some m)) (.int .i64 x) true).run Tryz.prog wr=.ok (.tuple #[.int .i64 c,.bool true]) wr:=by
  obtain ⟨D,h1,h2⟩:=h.map
  have hb:=GSt.who h.ok x hn
  exact ⟨_,look_in h1 h2 (wf_of (by omega) (by omega)) hn⟩

set_option maxHeartbeats 1000000 in
set_option maxRecDepth 100000 in
theorem gains_calls (a:Option Addr) (n cap:Nat) (l:Vs) (w:World) (h:VArg w a n l) :
    Calls Tryz.prog 121 #[.slice a n cap] w fun e w'=>(vf l=0∧e=.returned (.tuple #[.map (some w.heap.size),.nilIface])∧GSt w w' w.heap.size n l)∨(vf l≠0∧e=.returned (.tuple #[.map none,errv (vf l)])∧Below w.heap.size w w'):=by
  have hl:=h.2.1
  have hn:=h.2.2
  have HA:=hidden h
  clear h
  have hmm:=@run_makeMap Tryz.prog
  obtain ⟨f,hf⟩:∃ f,vf l=f:=⟨_,rfl⟩
  rw [hf]
  have HF:=hidden hf
  clear hf
  go_enter Tryz.func121,Tryz.ntmps121
  go_wp2_with fail
  go_loopg [12] n (fun g y wr=>∃ (j:Nat),j+g=n∧y=.int .i64 (j:Int)∧Hid (GSt w wr w.heap.size j l))
  case atStart=>exact ⟨0,by omega,rfl,GSt.start w l⟩
  case round=>
    obtain ⟨j,hjg,rfl,HS⟩:=hrel
    by_cases hj:j<n
    · have hjz:(j:Int)<(n:Int):=by omega
      obtain ⟨b,o,rfl,hbl,hcs⟩:=(HA.out.below HS.out.bel).at (by omega)
      obtain ⟨c0,c1⟩:=hcs j hj
      obtain ⟨p,hp⟩:∃ p,l.getD j (0,0)=p:=⟨_,rfl⟩
      have hp':=hp
      rw [hp] at c0 c1
      obtain ⟨x,y⟩:=p
      simp only at c0 c1
      have HB:Hid (∀ O,Below w.heap.size w (wr.alloc O)):=fun O=>below_alloc HS.out.bel O
      clear hcs hp'
      by_cases hk:okv (x,y)=true
      · have hb:=(okv_iff _).1 hk
        simp only at hb
        obtain ⟨q1,q2,q3,q4⟩:=hb
        have d1:decide (x<0)=false:=by simp;omega
        have d2:decide (200<x)=false:=by simp;omega
        have d3:decide (y<0)=false:=by simp;omega
        have d4:decide (127<y)=false:=by simp;omega
        by_cases hc:∃ p∈l.take j,p.1=x
        · have HE:Hid (f=7):=by unfold Hid;rw [← HF.out];exact vf_clash (by omega) HS.out.ok (by rw [hp];exact hk) (by rw [hp];exact hc)
          have hlk:=fun O=>(HS.out.alloc O).clash hc
          obtain ⟨c,hlk⟩:=hlk (.cells #[.int .i64 x,.int .i64 y] 83)
          clear hc hp hk q1 q2 q3 q4
          go_wp2_with fail
          go_ret2
          exact .inr ⟨by rw [HE.out];decide,by rw [HE.out];rfl,HB.out _⟩
        · obtain ⟨hlk,w2,hrun,HS2⟩:=(HS.out.alloc (.cells #[.int .i64 x,.int .i64 y] 83)).step (by omega) hp hk hc
          have HS3:=hidden HS2
          clear HS2 hc hp hk
          go_wp2_with fail
          go_roundg (n - (j+1))
          case measure=>omega
          case rel=>exact ⟨j+1,by omega,by go_num,HS3⟩
      · have HE:Hid (f=1):=by unfold Hid;rw [← HF.out];exact vf_bad (by omega) HS.out.ok (by rw [hp];exact hk)
        have hb:¬ (0≤x∧x≤200∧0≤y∧y≤127):=fun q=>hk ((okv_iff _).2 q)
        clear hp hk
        by_cases h1:x<0
        · have d1:decide (x<0)=true:=by simpa using h1
          go_wp2_with fail
          go_ret2
          exact .inr ⟨by rw [HE.out];decide,by rw [HE.out];rfl,HB.out _⟩
        · have d1:decide (x<0)=false:=by simpa using h1
          by_cases h2:200<x
          · have d2:decide (200<x)=true:=by simpa using h2
            go_wp2_with fail
            go_ret2
            exact .inr ⟨by rw [HE.out];decide,by rw [HE.out];rfl,HB.out _⟩
          · have d2:decide (200<x)=false:=by simpa using h2
            by_cases h3:y<0
            · have d3:decide (y<0)=true:=by simpa using h3
              go_wp2_with fail
              go_ret2
              exact .inr ⟨by rw [HE.out];decide,by rw [HE.out];rfl,HB.out _⟩
            · have d3:decide (y<0)=false:=by simpa using h3
              have h4:127<y:=by omega
              have d4:decide (127<y)=true:=by simpa using h4
              go_wp2_with fail
              go_ret2
              exact .inr ⟨by rw [HE.out];decide,by rw [HE.out];rfl,HB.out _⟩
    · have hjz:¬ (j:Int)<(n:Int):=by omega
      obtain rfl:j=n:=by omega
      go_wp2_with fail
      go_ret2
      refine .inl ⟨?_,rfl,HS.out⟩
      have h1:=HS.out.ok
      rw [List.take_of_length_le (by omega)] at h1
      rw [← HF.out]
      exact (vf_ok _).2 h1
end Go.Proofs.YtlppdppddiecnaaGreatDoor.Voice
