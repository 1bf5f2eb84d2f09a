/-
  TreeA, TreeB, TreeC in one text.
-/
import Derived.Test.YtlppdppddiecnaaGreatDoorTreeM
import Derived.Test.YtlppdppddiecnaaGreatDoorMemP
import Derived.Test.YtlppdppddiecnaaGreatDoorRows
import Derived.WalkKit
import Derived.ProofKit
import Derived.OpenShut
import Derived.ChangeOld
import Derived.Below
import Derived.Deep.QuietTactic
import Derived.BigQuiet
import Derived.Laws.AppendOwnNone
import Derived.WalkSmall
import Derived.WalkSpells
import Derived.LoopTactic
import Derived.Deep.AppendLies
import Derived.Deep.LoopGhost
import Derived.Deep.CutRange

namespace Go.Proofs.YtlppdppddiecnaaGreatDoor.Tree
open Go.ChangeShapes Go.WideShapes Go.ChangeAt Go.RowKit Go.Proofs.YtlppdppddiecnaaGreatDoor.Mem Go.Proofs.YtlppdppddiecnaaGreatDoor.TM
set_option linter.unusedVariables false

def errv (e:Nat):Value:=if e=0 then .nilIface else .iface 107 (.int .i64 (e:Int))
theorem errv_zero:errv 0=.nilIface:=rfl
theorem errv_pos {e:Nat} (h:e≠0):errv e=.iface 107 (.int .i64 (e:Int)):=by simp [errv,h]
theorem cmp_eq (f:Nat) (w:World):(binOp .eql 38 (errv f) .nilIface).run Tryz.prog w=.ok (.bool (decide (f=0))) w:=by
  by_cases p:f=0
  · rw [p,errv_zero];simp [go_sem]
  · rw [errv_pos p];simp [go_sem,p]
theorem cmp_ne (f:Nat) (w:World):(binOp .neq 38 (errv f) .nilIface).run Tryz.prog w=.ok (.bool (!decide (f=0))) w:=by
  by_cases p:f=0
  · rw [p,errv_zero];simp [go_sem]
  · rw [errv_pos p];simp [go_sem,p]
theorem grd_eq (f:Nat) (o1:Operand) (w:World):(eqGuard .eql 38 o1 (.const .nilIface) (errv f) .nilIface).run Tryz.prog w=.ok () w:=by
  by_cases p:f=0
  · rw [p,errv_zero];unfold eqGuard;simp
  · rw [errv_pos p];simp [go_sem]
theorem grd_ne (f:Nat) (o1:Operand) (w:World):(eqGuard .neq 38 o1 (.const .nilIface) (errv f) .nilIface).run Tryz.prog w=.ok () w:=by
  by_cases p:f=0
  · rw [p,errv_zero];unfold eqGuard;simp
  · rw [errv_pos p];simp [go_sem]
theorem info3:(Tryz.prog.info? 3).map (fun i=>(i.zero,i.size,i.bytes))=some (some (.int .i64 0),1,8):=by kernel_rfl
theorem infoED:(Tryz.prog.info? 92).map (fun i=>(i.zero,i.size,i.bytes))=some (some (.agg #[.int .i64 0,.int .i64 0,.int .i64 0]),3,24):=by kernel_rfl
theorem below_drewN' {w wr:World} (h:Below w.heap.size w wr) (q:Nat):Below w.heap.size w (wr.drewN q):=⟨h.os,h.tape,h.output,h.size,h.block⟩
theorem below_alloc {w wr:World} (h:Below w.heap.size w wr) (o:Obj):Below w.heap.size w (wr.alloc o):=h.alloc h.size o
theorem own_base {w:World} {base base' e size n:Nat} {v:Value} {xs:List Value} (h:w.ownsRow base e size v n xs) (hb:base'≤base):w.ownsRow base' e size v n xs:=by
  refine ⟨h.1,?_⟩
  rcases h.2 with h | ⟨g,cap,cur,e,hg,r⟩
  · exact .inl h
  · exact .inr ⟨g,cap,cur,e,Nat.le_trans hb hg,r⟩
theorem own_below {w w':World} {base e sz n:Nat} {v:Value} {xs:List Value} (h:w.ownsRow base e sz v n xs) (hb:Below w.heap.size w w'):w'.ownsRow base e sz v n xs:=by
  refine ⟨h.1,?_⟩
  rcases h.2 with hl | ⟨g,cap,cur,rfl,hg,hbl,rest⟩
  · exact .inl hl
  · exact .inr ⟨g,cap,cur,rfl,hg,(hb.block g (lt_of_block hbl)).trans hbl,rest⟩

def ic (L:List Int):List Value:=L.map (Value.int .i64)
theorem ic_len (L:List Int):(ic L).length=L.length:=by simp [ic]
theorem ic_app (L K:List Int):ic (L++K)=ic L++ic K:=by simp [ic]
theorem ic_get (L:List Int) (j:Nat) (h:j<L.length):(ic L)[j]?=some (.int .i64 (dg L j)):=by
  simp [ic,dg,List.getD_eq_getElem?_getD,List.getElem?_eq_getElem h]
def Ints (w:World) (a:Option Addr) (L:List Int):Prop:=∀ j,j<L.length→∃ b o,a=some ⟨b,o,none⟩∧w.cell? ⟨b,o+j,none⟩=some (.int .i64 (dg L j))
def IArg (w:World) (a:Option Addr) (n:Nat) (L:List Int):Prop:=Ints w a L∧L.length=n∧n≤9223372036854775807
theorem IArg.below {w w':World} {a:Option Addr} {n:Nat} {L:List Int} (h:IArg w a n L) (hb:Below w.heap.size w w'):IArg w' a n L:=by
  refine ⟨fun j hj=>?_,h.2⟩
  obtain ⟨b,o,e,hc⟩:=h.1 j hj
  exact ⟨b,o,e,(hb.cell (p:=⟨b,o+j,none⟩) (World.block_lt_of_cell? w ⟨b,o+j,none⟩ hc)).trans hc⟩
theorem IArg.nil (w:World) (a:Option Addr):IArg w a 0 []:=⟨fun j h=>absurd h (by simp),rfl,by omega⟩
theorem IArg.at {w:World} {a:Option Addr} {n:Nat} {L:List Int} (h:IArg w a n L) (hn:0<n):∃ b o,a=some ⟨b,o,none⟩∧∀ j,j<n→w.cell? ⟨b,o+j,none⟩=some (.int .i64 (dg L j)):=by
  obtain ⟨b,o,e,_⟩:=h.1 0 (by have:=h.2.1;omega)
  refine ⟨b,o,e,fun j hj=>?_⟩
  obtain ⟨b',o',e',hc⟩:=h.1 j (by have:=h.2.1;omega)
  rw [e,Option.some.injEq,Addr.mk.injEq] at e'
  obtain ⟨rfl,rfl,_⟩:=e'
  exact hc
theorem own_ints {w:World} {base n:Nat} {v:Value} {L:List Int} (h:w.ownsRow base 3 1 v n (ic L)) (hn:n≤9223372036854775807) :
    ∃ a cap,v=.slice a n cap∧IArg w a n L∧(a=none→n=0∧cap=0)∧n≤cap∧∀ ad,a=some ad→∃ g,ad=⟨g,0,none⟩∧base≤g∧g<w.heap.size:=by
  have hl:L.length=n:=by have:=h.1;rw [ic_len] at this;omega
  rcases h.2 with ⟨rfl,rfl⟩ | ⟨g,cap,cur,rfl,hg,hb,hc,hm,hs,ht⟩
  · have:L=[]:=List.eq_nil_of_length_eq_zero hl
    subst this
    exact ⟨none,0,rfl,IArg.nil _ _,fun _=>⟨rfl,rfl⟩,Nat.le_refl _,fun ad e=>by simp at e⟩
  · refine ⟨_,cap,rfl,⟨fun j hj=>⟨g,0,rfl,?_⟩,hl,hn⟩,fun e=>by simp at e,hc,fun ad e=>⟨g,by simpa using e.symm,hg,lt_of_block hb⟩⟩
    rw [Nat.zero_add,h.cellAt j (by omega),ic_get L j hj]

def mv (m:Ed):Value:=.agg #[.int .i64 m.a,.int .i64 m.b,.int .i64 m.c]
def mc (l:List Ed):List Value:=l.flatMap fun m=>[.int .i64 m.a,.int .i64 m.b,.int .i64 m.c]
theorem mc_len:∀ l:List Ed,(mc l).length=l.length*3
  | []=>rfl
  | p::l=>by have:=mc_len l;simp [mc] at this ⊢;omega
theorem mc_app (l k:List Ed):mc (l++k)=mc l++mc k:=by simp [mc]
theorem mc_cons (m:Ed) (l:List Ed):mc (m::l)=[.int .i64 m.a,.int .i64 m.b,.int .i64 m.c]++mc l:=rfl
theorem mc_one (m:Ed):mc [m]=[.int .i64 m.a,.int .i64 m.b,.int .i64 m.c]:=rfl
theorem mc_cell (l:List Ed):∀ u∈mc l,u.oneCell'=true:=by
  intro u hu
  simp only [mc,List.mem_flatMap] at hu
  obtain ⟨m,_,hu⟩:=hu
  simp at hu
  rcases hu with rfl | rfl | rfl<;>rfl
theorem mc_take:∀ (l:List Ed) (i:Nat),(mc l).take (i*3)=mc (l.take i)
  | [],i=>by simp [mc]
  | p::l,0=>by simp [mc]
  | p::l,i+1=>by
    rw [List.take_succ_cons,mc_cons,mc_cons,show (i+1)*3=i*3+1+1+1 by omega,← mc_take l i]
    rfl
theorem mc_drop:∀ (l:List Ed) (i:Nat),(mc l).drop (i*3)=mc (l.drop i)
  | [],i=>by simp [mc]
  | p::l,0=>by simp [mc]
  | p::l,i+1=>by
    rw [List.drop_succ_cons,mc_cons,show (i+1)*3=i*3+1+1+1 by omega,← mc_drop l i]
    rfl
theorem mc_get:∀ (l:List Ed) (j:Nat),j<l.length→(mc l)[j*3]?=some (.int .i64 (l.getD j zz).a)∧(mc l)[j*3+1]?=some (.int .i64 (l.getD j zz).b)∧(mc l)[j*3+2]?=some (.int .i64 (l.getD j zz).c)
  | [],j,h=>absurd h (by simp)
  | p::l,0,_=>⟨rfl,rfl,rfl⟩
  | p::l,j+1,h=>by
    have:=mc_get l j (by simpa using h)
    have e:mc (p::l)=.int .i64 p.a::.int .i64 p.b::.int .i64 p.c::mc l:=rfl
    rw [e,show (j+1)*3=j*3+1+1+1 by omega]
    simpa using this
def Eds (w:World) (a:Option Addr) (l:List Ed):Prop:=∀ j,j<l.length→∃ b o,a=some ⟨b,o,none⟩∧w.cell? ⟨b,o+j*3,none⟩=some (.int .i64 (l.getD j zz).a)∧w.cell? ⟨b,o+j*3+1,none⟩=some (.int .i64 (l.getD j zz).b)∧w.cell? ⟨b,o+j*3+2,none⟩=some (.int .i64 (l.getD j zz).c)
def EArg (w:World) (a:Option Addr) (n:Nat) (l:List Ed):Prop:=Eds w a l∧l.length=n∧n≤9223372036854775807
theorem EArg.below {w w':World} {a:Option Addr} {n:Nat} {l:List Ed} (h:EArg w a n l) (hb:Below w.heap.size w w'):EArg w' a n l:=by
  refine ⟨fun j hj=>?_,h.2⟩
  obtain ⟨b,o,e,hc,hd,he⟩:=h.1 j hj
  exact ⟨b,o,e,(hb.cell (p:=⟨b,o+j*3,none⟩) (World.block_lt_of_cell? w _ hc)).trans hc,(hb.cell (p:=⟨b,o+j*3+1,none⟩) (World.block_lt_of_cell? w _ hd)).trans hd,(hb.cell (p:=⟨b,o+j*3+2,none⟩) (World.block_lt_of_cell? w _ he)).trans he⟩
theorem EArg.nil (w:World) (a:Option Addr):EArg w a 0 []:=⟨fun j h=>absurd h (by simp),rfl,by omega⟩
theorem EArg.at {w:World} {a:Option Addr} {n:Nat} {l:List Ed} (h:EArg w a n l) (hn:0<n):∃ b o,a=some ⟨b,o,none⟩∧b<w.heap.size∧∀ j,j<n→w.cell? ⟨b,o+j*3,none⟩=some (.int .i64 (l.getD j zz).a)∧w.cell? ⟨b,o+j*3+1,none⟩=some (.int .i64 (l.getD j zz).b)∧w.cell? ⟨b,o+j*3+2,none⟩=some (.int .i64 (l.getD j zz).c):=by
  obtain ⟨b,o,e,h0,_⟩:=h.1 0 (by have:=h.2.1;omega)
  refine ⟨b,o,e,World.block_lt_of_cell? w _ h0,fun j hj=>?_⟩
  obtain ⟨b',o',e',hc⟩:=h.1 j (by have:=h.2.1;omega)
  rw [e,Option.some.injEq,Addr.mk.injEq] at e'
  obtain ⟨rfl,rfl,_⟩:=e'
  exact hc
theorem own_eds {w:World} {base n:Nat} {v:Value} {l:List Ed} (h:w.ownsRow base 92 3 v n (mc l)) (hn:n≤9223372036854775807) :
    ∃ a cap,v=.slice a n cap∧EArg w a n l∧(a=none→n=0∧cap=0)∧n≤cap∧∀ ad,a=some ad→∃ g,ad=⟨g,0,none⟩∧base≤g∧g<w.heap.size:=by
  have hl:l.length=n:=by have:=h.1;rw [mc_len] at this;omega
  rcases h.2 with ⟨rfl,rfl⟩ | ⟨g,cap,cur,rfl,hg,hb,hc,hm,hs,ht⟩
  · have:l=[]:=List.eq_nil_of_length_eq_zero hl
    subst this
    exact ⟨none,0,rfl,EArg.nil _ _,fun _=>⟨rfl,rfl⟩,Nat.le_refl _,fun ad e=>by simp at e⟩
  · refine ⟨_,cap,rfl,⟨fun j hj=>⟨g,0,rfl,?_,?_,?_⟩,hl,hn⟩,fun e=>by simp at e,hc,fun ad e=>⟨g,by simpa using e.symm,hg,lt_of_block hb⟩⟩
    · rw [Nat.zero_add,h.cellAt (j*3) (by omega),(mc_get l j hj).1]
    · rw [Nat.zero_add,h.cellAt (j*3+1) (by omega),(mc_get l j hj).2.1]
    · rw [Nat.zero_add,h.cellAt (j*3+2) (by omega),(mc_get l j hj).2.2]
theorem own_len {w:World} {base n:Nat} {v:Value} {l:List Ed} (h:w.ownsRow base 92 3 v n (mc l)):l.length=n:=by have:=h.1;rw [mc_len] at this;omega
theorem eds_cells {w:World} {a:Option Addr} {n:Nat} {l:List Ed} (h:EArg w a n l):∀ ad,a=some ad→∀ j u,(mc l)[j]?=some u→w.cell? (ad.add j)=some u:=by
  intro ad he j u hu
  have hj:j<l.length*3:=by
    rcases Nat.lt_or_ge j (l.length*3) with h' | h'
    · exact h'
    · rw [List.getElem?_eq_none (by rw [mc_len];exact h')] at hu;simp at hu
  obtain ⟨b,o,e,h0,h1,h2⟩:=h.1 (j / 3) (by omega)
  obtain ⟨g0,g1,g2⟩:=mc_get l (j / 3) (by omega)
  rw [he,Option.some.injEq] at e
  rw [e,add_plain]
  rcases (show j=j / 3*3∨j=j / 3*3+1∨j=j / 3*3+2 by omega) with q | q | q
  · rw [q,h0,← g0,← hu,← q]
  · rw [q,← Nat.add_assoc,h1,← g1,← hu,← q]
  · rw [q,← Nat.add_assoc,h2,← g2,← hu,← q]
def EBox (w:World) (B:Nat) (m:Ed):Prop:=w.heap[B]?=some (.cells #[.int .i64 m.a,.int .i64 m.b,.int .i64 m.c] 92 (0,0))
theorem EBox.new (w:World) (m:Ed):EBox (w.alloc (.cells #[.int .i64 m.a,.int .i64 m.b,.int .i64 m.c] 92)) w.heap.size m:=heap_alloc_new w _
theorem EBox.lt {w:World} {B:Nat} {m:Ed} (h:EBox w B m):B<w.heap.size:=lt_of_block h
theorem EBox.cells {w:World} {B:Nat} {m:Ed} (h:EBox w B m):w.cell? ⟨B,0,none⟩=some (.int .i64 m.a)∧w.cell? ⟨B,1,none⟩=some (.int .i64 m.b)∧w.cell? ⟨B,2,none⟩=some (.int .i64 m.c):=by
  unfold EBox at h
  refine ⟨?_,?_,?_⟩<;>simp [World.cell?,h]
theorem EBox.free {w:World} {B:Nat} {m:Ed} (h:EBox w B m) (j:Nat):w.frozen? ⟨B,j,none⟩=false:=by
  unfold EBox at h
  simp [World.frozen?,h]
theorem EBox.below {w w':World} {B C:Nat} {m:Ed} (h:EBox w B m) (hb:Below C w w') (hB:B<C):EBox w' B m:=(hb.block B hB).trans h
theorem EBox.alloc {w:World} {B:Nat} {m:Ed} (h:EBox w B m) (O:Obj):EBox (w.alloc O) B m:=(Below.heap_alloc _ _ _ h.lt).trans h

theorem isNode_calls (n x:Int) (w:World):Calls Tryz.prog 128 #[.int .i64 n,.int .i64 x] w fun e w'=>e=.returned (.bool (isn n x))∧w'=w:=by
  by_cases h:0≤x
  · have d:decide (0≤x)=true:=by simpa using h
    by_cases h2:x<n
    · have d2:decide (x<n)=true:=by simpa using h2
      have HE:Hid (isn n x=true):=decide_eq_true ⟨h,h2⟩
      generalize isn n x=r at *
      go_enter Tryz.func128,Tryz.ntmps128
      go_wp2_with fail
      go_ret
      exact ⟨by rw [HE.out];rfl,rfl⟩
    · have d2:decide (x<n)=false:=by simpa using h2
      have HE:Hid (isn n x=false):=decide_eq_false (by omega)
      generalize isn n x=r at *
      go_enter Tryz.func128,Tryz.ntmps128
      go_wp2_with fail
      go_ret
      exact ⟨by rw [HE.out];rfl,rfl⟩
  · have d:decide (0≤x)=false:=by simpa using h
    have HE:Hid (isn n x=false):=decide_eq_false (by omega)
    generalize isn n x=r at *
    go_enter Tryz.func128,Tryz.ntmps128
    go_wp2_with fail
    go_ret
    exact ⟨by rw [HE.out];rfl,rfl⟩
set_option maxHeartbeats 2000000 in
set_option maxRecDepth 100000 in
theorem isEdge_calls (n:Int) (m:Ed) (w:World):Calls Tryz.prog 148 #[.int .i64 n,mv m] w fun e w'=>e=.returned (.bool (okE n m))∧Below w.heap.size w w':=by
  obtain ⟨a,b,c⟩:=m
  have HB:Hid (∀ O,Below w.heap.size w (w.alloc O)):=fun O=>below_alloc (Below.refl _ _) _
  have C1:=hidden (fun w=>isNode_calls n a w)
  have C2:=hidden (fun w=>isNode_calls n b w)
  by_cases h1:0≤a∧a<n
  · rw [show isn n a=true from decide_eq_true h1] at C1
    by_cases h2:0≤b∧b<n
    · rw [show isn n b=true from decide_eq_true h2] at C2
      by_cases h3:a=b
      · subst h3
        have HE:Hid (okE n ⟨a,a,c⟩=false):=by unfold Hid;simp [okE]
        generalize okE n ⟨a,a,c⟩=r at *
        unfold mv
        go_enter Tryz.func148,Tryz.ntmps148
        go_wp2_with fail
        refine (C1.out _).mono ?_
        rintro e w1 ⟨rfl,rfl⟩
        go_wp2_with fail
        refine (C2.out _).mono ?_
        rintro e w1 ⟨rfl,rfl⟩
        go_wp2_with fail
        go_ret
        exact ⟨by rw [HE.out];rfl,HB.out _⟩
      · have d3:(a != b)=true:=by simpa using h3
        by_cases h4:1≤c
        · have d4:decide (1≤c)=true:=by simpa using h4
          by_cases h5:c≤1000000
          · have d5:decide (c≤1000000)=true:=by simpa using h5
            have HE:Hid (okE n ⟨a,b,c⟩=true):=by unfold Hid;simp [okE];omega
            generalize okE n ⟨a,b,c⟩=r at *
            unfold mv
            go_enter Tryz.func148,Tryz.ntmps148
            go_wp2_with fail
            refine (C1.out _).mono ?_
            rintro e w1 ⟨rfl,rfl⟩
            go_wp2_with fail
            refine (C2.out _).mono ?_
            rintro e w1 ⟨rfl,rfl⟩
            go_wp2_with fail
            go_ret
            exact ⟨by rw [HE.out];rfl,HB.out _⟩
          · have d5:decide (c≤1000000)=false:=by simpa using h5
            have HE:Hid (okE n ⟨a,b,c⟩=false):=by unfold Hid;simp [okE];omega
            generalize okE n ⟨a,b,c⟩=r at *
            unfold mv
            go_enter Tryz.func148,Tryz.ntmps148
            go_wp2_with fail
            refine (C1.out _).mono ?_
            rintro e w1 ⟨rfl,rfl⟩
            go_wp2_with fail
            refine (C2.out _).mono ?_
            rintro e w1 ⟨rfl,rfl⟩
            go_wp2_with fail
            go_ret
            exact ⟨by rw [HE.out];rfl,HB.out _⟩
        · have d4:decide (1≤c)=false:=by simpa using h4
          have HE:Hid (okE n ⟨a,b,c⟩=false):=by unfold Hid;simp [okE];omega
          generalize okE n ⟨a,b,c⟩=r at *
          unfold mv
          go_enter Tryz.func148,Tryz.ntmps148
          go_wp2_with fail
          refine (C1.out _).mono ?_
          rintro e w1 ⟨rfl,rfl⟩
          go_wp2_with fail
          refine (C2.out _).mono ?_
          rintro e w1 ⟨rfl,rfl⟩
          go_wp2_with fail
          go_ret
          exact ⟨by rw [HE.out];rfl,HB.out _⟩
    · rw [show isn n b=false from decide_eq_false h2] at C2
      have HE:Hid (okE n ⟨a,b,c⟩=false):=by unfold Hid;simp [okE];omega
      generalize okE n ⟨a,b,c⟩=r at *
      unfold mv
      go_enter Tryz.func148,Tryz.ntmps148
      go_wp2_with fail
      refine (C1.out _).mono ?_
      rintro e w1 ⟨rfl,rfl⟩
      go_wp2_with fail
      refine (C2.out _).mono ?_
      rintro e w1 ⟨rfl,rfl⟩
      go_wp2_with fail
      go_ret
      exact ⟨by rw [HE.out];rfl,HB.out _⟩
  · rw [show isn n a=false from decide_eq_false h1] at C1
    have HE:Hid (okE n ⟨a,b,c⟩=false):=by unfold Hid;simp [okE];omega
    generalize okE n ⟨a,b,c⟩=r at *
    unfold mv
    go_enter Tryz.func148,Tryz.ntmps148
    go_wp2_with fail
    refine (C1.out _).mono ?_
    rintro e w1 ⟨rfl,rfl⟩
    go_wp2_with fail
    go_ret
    exact ⟨by rw [HE.out];rfl,HB.out _⟩
set_option maxHeartbeats 2000000 in
set_option maxRecDepth 100000 in
theorem sameTwo_calls (m x:Ed) (w:World):Calls Tryz.prog 151 #[mv m,mv x] w fun e w'=>e=.returned (.bool (two m x))∧Below w.heap.size w w':=by
  obtain ⟨a,b,c⟩:=m
  obtain ⟨d,e,f⟩:=x
  have HB:Hid (∀ O1 O2,Below w.heap.size w ((w.alloc O1).alloc O2)):=fun O1 O2=>below_alloc (below_alloc (Below.refl _ _) _) _
  have HE:Hid (two ⟨a,b,c⟩ ⟨d,e,f⟩=((a==d&&b==e)||(a==e&&b==d))):=by
    unfold Hid two
    rw [Bool.eq_iff_iff];simp
  generalize two ⟨a,b,c⟩ ⟨d,e,f⟩=r at *
  by_cases h1:a=d
  · subst h1
    by_cases h2:b=e
    · subst h2
      unfold mv
      go_enter Tryz.func151,Tryz.ntmps151
      go_wp2_with fail
      go_ret
      exact ⟨by rw [HE.out];simp,HB.out _ _⟩
    · have h2':(b==e)=false:=by simpa using h2
      by_cases h3:a=e
      · subst h3
        unfold mv
        go_enter Tryz.func151,Tryz.ntmps151
        go_wp2_with fail
        go_ret
        exact ⟨by rw [HE.out];simp [h2],HB.out _ _⟩
      · have h3':(a==e)=false:=by simpa using h3
        unfold mv
        go_enter Tryz.func151,Tryz.ntmps151
        go_wp2_with fail
        go_ret
        exact ⟨by rw [HE.out];simp [h2,h3],HB.out _ _⟩
  · have h1':(a==d)=false:=by simpa using h1
    by_cases h3:a=e
    · subst h3
      unfold mv
      go_enter Tryz.func151,Tryz.ntmps151
      go_wp2_with fail
      go_ret
      exact ⟨by rw [HE.out];simp [h1],HB.out _ _⟩
    · have h3':(a==e)=false:=by simpa using h3
      unfold mv
      go_enter Tryz.func151,Tryz.ntmps151
      go_wp2_with fail
      go_ret
      exact ⟨by rw [HE.out];simp [h1,h3],HB.out _ _⟩
set_option maxHeartbeats 2000000 in
set_option maxRecDepth 100000 in
theorem cl_calls (m e:Ed) (B:Nat) (w:World) (hb:EBox w B e):Calls Tryz.prog 150 #[mv m,.pointer (some ⟨B,0,none⟩)] w fun r w'=>r=.returned (.bool (two m e))∧Below w.heap.size w w':=by
  have C:=hidden (fun w=>sameTwo_calls m e w)
  have HB:Hid (∀ O,Below w.heap.size w (w.alloc O)):=fun O=>below_alloc (Below.refl _ _) _
  have hlt:=hb.lt
  obtain ⟨c0,c1,c2⟩:=hb.cells
  clear hb
  obtain ⟨a,b,c⟩:=m
  obtain ⟨d,e,f⟩:=e
  unfold mv at C ⊢
  generalize two ⟨a,b,c⟩ ⟨d,e,f⟩=r at *
  go_enter Tryz.func150,Tryz.ntmps150
  go_wp2_with fail
  refine (C.out _).mono ?_
  rintro e w1 ⟨rfl,hw1⟩
  have HW:Hid (Below w.heap.size w w1):=by
    have h1:=HB.out (.cells #[.int .i64 a,.int .i64 b,.int .i64 c] 92)
    exact h1.trans (hw1.mono (by simp))
  clear hw1
  go_wp2_with fail
  go_ret
  exact ⟨rfl,HW.out⟩

set_option maxHeartbeats 2000000 in
set_option maxRecDepth 100000 in
theorem idxE_calls (a:Option Addr) (n cap:Nat) (L:List Ed) (B:Nat) (e:Ed) (w:World) (h:EArg w a n L) (hb:EBox w B e) :
    Calls Tryz.prog 184 #[.slice a n cap,.func (.func 150) #[] #[.pointer (some ⟨B,0,none⟩)]] w fun r w'=>∃ i:Int,r=.returned (.int .i64 i)∧decide (0≤i)=L.any (fun f=>two f e)∧Below w.heap.size w w':=by
  have hl:=h.2.1
  have hn:=h.2.2
  have HA:=hidden h
  have HX:=hidden hb
  clear h hb
  obtain ⟨q,hq⟩:∃ q,L.any (fun f=>two f e)=q:=⟨_,rfl⟩
  have HQ:Hid ((L.drop 0).any (fun f=>two f e)=q):=by unfold Hid;rw [List.drop_zero];exact hq
  rw [hq]
  clear hq
  go_enter Tryz.func184,Tryz.ntmps184
  go_wp2_with fail
  go_loopg [8] n (fun g x wr=>∃ j:Nat,j+g=n∧x=.int .i64 (j:Int)∧Hid ((L.drop j).any (fun f=>two f e)=q)∧Hid (Below w.heap.size w wr))
  case atStart=>exact ⟨0,by omega,rfl,HQ,Below.refl _ _⟩
  case round=>
    obtain ⟨j,hjg,rfl,HK,HW⟩:=hrel
    by_cases hj:j<n
    · have hjz:(j:Int)<(n:Int):=by omega
      obtain ⟨b,o,rfl,hbl,hcs⟩:=(HA.out.below HW.out).at (by omega)
      obtain ⟨c0,c1,c2⟩:=hcs j hj
      have hk:=HK.out
      rw [drop_cons (by omega),List.any_cons] at hk
      have C:=hidden (fun m=>cl_calls m e B wr (HX.out.below HW.out HX.out.lt))
      obtain ⟨m,hm⟩:∃ m,L.getD j zz=m:=⟨_,rfl⟩
      rw [hm] at c0 c1 c2 hk
      have C:=hidden (C.out m)
      clear hm hcs HK
      obtain ⟨x,y,u⟩:=m
      simp only [mv] at c0 c1 c2 C
      cases ht:two ⟨x,y,u⟩ e with
      | true=>
        rw [ht] at C hk
        simp only [Bool.true_or] at hk
        have HK:=hidden hk
        clear hk ht
        go_wp2_with fail
        refine C.out.mono ?_
        rintro r w1 ⟨rfl,hw1⟩
        have HW1:Hid (Below w.heap.size w w1):=HW.out.trans (hw1.mono HW.out.size)
        clear hw1
        go_wp2_with fail
        go_ret
        exact ⟨(j:Int),rfl,by rw [← HK.out];simp,HW1.out⟩
      | false=>
        rw [ht] at C hk
        simp only [Bool.false_or] at hk
        have HK:=hidden hk
        clear hk ht
        go_wp2_with fail
        refine C.out.mono ?_
        rintro r w1 ⟨rfl,hw1⟩
        have HW1:Hid (Below w.heap.size w w1):=HW.out.trans (hw1.mono HW.out.size)
        clear hw1
        go_wp2_with fail
        go_roundg (n - (j+1))
        case measure=>omega
        case rel=>exact ⟨j+1,by omega,by go_num,HK,HW1⟩
    · have hjz:¬ (j:Int)<(n:Int):=by omega
      have hk:=HK.out
      rw [List.drop_eq_nil_of_le (by omega),List.any_nil] at hk
      have HK:=hidden hk
      clear hk
      go_wp2_with fail
      go_ret
      exact ⟨-1,rfl,by rw [← HK.out];simp,HW.out⟩
set_option maxHeartbeats 2000000 in
theorem contE_calls (a:Option Addr) (n cap:Nat) (L:List Ed) (B:Nat) (e:Ed) (w:World) (h:EArg w a n L) (hb:EBox w B e) :
    Calls Tryz.prog 149 #[.slice a n cap,.func (.func 150) #[] #[.pointer (some ⟨B,0,none⟩)]] w fun r w'=>r=.returned (.bool (L.any (fun f=>two f e)))∧Below w.heap.size w w':=by
  have C:=hidden (idxE_calls a n cap L B e w h hb)
  obtain ⟨q,hq⟩:∃ q,L.any (fun f=>two f e)=q:=⟨_,rfl⟩
  rw [hq] at C ⊢
  clear hq h hb
  go_enter Tryz.func149,Tryz.ntmps149
  go_wp2_with fail
  refine C.out.mono ?_
  rintro r w1 ⟨i,rfl,hi,hw1⟩
  have HW:=hidden hw1
  clear hw1
  cases q with
  | true=>
    go_wp2_with fail
    go_ret
    exact ⟨rfl,HW.out⟩
  | false=>
    go_wp2_with fail
    go_ret
    exact ⟨rfl,HW.out⟩
theorem EArg.take {w:World} {a:Option Addr} {n j:Nat} {L:List Ed} (h:EArg w a n L) (hj:j≤n):EArg w a j (L.take j):=by
  have hl:=h.2.1
  refine ⟨fun i hi=>?_,by rw [List.length_take];omega,by have:=h.2.2;omega⟩
  rw [List.length_take] at hi
  have e:(L.take j).getD i zz=L.getD i zz:=by
    rw [List.getD_eq_getElem?_getD,List.getD_eq_getElem?_getD,List.getElem?_take,if_pos (by omega)]
  rw [e]
  exact h.1 i (by omega)
set_option maxHeartbeats 4000000 in
set_option maxRecDepth 100000 in
theorem check_calls (N:Int) (a:Option Addr) (n cap:Nat) (L:List Ed) (w:World) (h:EArg w a n L) (hnc:n≤cap) :
    Calls Tryz.prog 127 #[.int .i64 N,.slice a n cap] w fun e w'=>e=.returned (errv (ef N L))∧Below w.heap.size w w':=by
  have hl:=h.2.1
  have hn:=h.2.2
  have HA:=hidden h
  clear h
  by_cases h0:N<1
  · have HE:Hid (ef N L=1):=by unfold Hid ef;rw [if_pos (by omega)]
    generalize ef N L=f at *
    have d:decide (N<1)=true:=by simpa using h0
    go_enter Tryz.func127,Tryz.ntmps127
    go_wp2_with fail
    go_ret
    exact ⟨by rw [HE.out];rfl,Below.refl _ _⟩
  have d0:decide (N<1)=false:=by simpa using h0
  by_cases h00:16<N
  · have HE:Hid (ef N L=1):=by unfold Hid ef;rw [if_pos (by omega)]
    generalize ef N L=f at *
    have d:decide (16<N)=true:=by simpa using h00
    go_enter Tryz.func127,Tryz.ntmps127
    go_wp2_with fail
    go_ret
    exact ⟨by rw [HE.out];rfl,Below.refl _ _⟩
  have d00:decide (16<N)=false:=by simpa using h00
  by_cases h16:200<n
  · have HE:Hid (ef N L=4):=by unfold Hid ef;rw [if_neg (by omega),if_pos (by omega)]
    generalize ef N L=f at *
    have d:decide (200<(n:Int))=true:=by simp;omega
    go_enter Tryz.func127,Tryz.ntmps127
    go_wp2_with fail
    go_ret
    exact ⟨by rw [HE.out];rfl,Below.refl _ _⟩
  · have HE:Hid (ck N (L.take 0) (L.drop 0)=ef N L):=by unfold Hid ef;rw [if_neg (by omega),if_neg (by omega),List.drop_zero,List.take_zero]
    generalize ef N L=f at *
    have d:decide (200<(n:Int))=false:=by simp;omega
    go_enter Tryz.func127,Tryz.ntmps127
    go_wp2_with fail
    go_loopg [20] n (fun g x wr=>∃ j:Nat,j+g=n∧x=.int .i64 (j:Int)∧Hid (ck N (L.take j) (L.drop j)=f)∧Hid (Below w.heap.size w wr))
    case atStart=>exact ⟨0,by omega,rfl,HE,Below.refl _ _⟩
    case round=>
      obtain ⟨j,hjg,rfl,HK,HW⟩:=hrel
      by_cases hj:j<n
      · have hjz:(j:Int)<(n:Int):=by omega
        obtain ⟨b,o,rfl,hbl,hcs⟩:=(HA.out.below HW.out).at (by omega)
        obtain ⟨c0,c1,c2⟩:=hcs j hj
        have hk:=HK.out
        have hts:=take_succ (L:=L) (j:=j) (by omega)
        rw [drop_cons (by omega),ck] at hk
        obtain ⟨m,hm⟩:∃ m,L.getD j zz=m:=⟨_,rfl⟩
        rw [hm] at c0 c1 c2 hk hts
        clear hm hcs HK
        have C:=hidden (fun w=>isEdge_calls N m w)
        have HB:Hid (∀ O,Below w.heap.size w (wr.alloc O)):=fun O=>below_alloc HW.out O
        have HX:Hid (EBox (wr.alloc (.cells #[.int .i64 m.a,.int .i64 m.b,.int .i64 m.c] 92)) wr.heap.size m):=EBox.new wr m
        have HT:=hidden hts
        clear hts
        obtain ⟨x,y,u⟩:=m
        simp only [mv] at c0 c1 c2 C HX
        cases hok:okE N ⟨x,y,u⟩ with
        | false=>
          rw [hok] at C hk
          simp only [if_true] at hk
          have HK:=hidden hk
          clear hk hok
          go_wp2_with fail
          refine (C.out _).mono ?_
          rintro e w1 ⟨rfl,hw1⟩
          have HW1:Hid (Below w.heap.size w w1):=(HB.out _).trans (hw1.mono (HB.out (.cells #[.int .i64 x,.int .i64 y,.int .i64 u] 92)).size)
          clear hw1
          go_wp2_with fail
          go_ret
          exact ⟨by rw [← HK.out];rfl,HW1.out⟩
        | true=>
          rw [hok] at C hk
          rw [if_neg (by simp)] at hk
          go_wp2_with fail
          refine (C.out _).mono ?_
          rintro e w1 ⟨rfl,hw1⟩
          have HW1:Hid (Below w.heap.size w w1):=(HB.out _).trans (hw1.mono (HB.out (.cells #[.int .i64 x,.int .i64 y,.int .i64 u] 92)).size)
          have HX1:Hid (EBox w1 wr.heap.size ⟨x,y,u⟩):=HX.out.below hw1 HX.out.lt
          have HA1:=hidden ((HA.out.below HW1.out).take (j:=j) (by omega))
          have C2:=hidden (contE_calls (some ⟨b,o,none⟩) j cap (L.take j) wr.heap.size ⟨x,y,u⟩ w1 HA1.out HX1.out)
          clear hw1
          cases ht:(L.take j).any (fun f=>two f ⟨x,y,u⟩) with
          | true=>
            rw [ht] at C2 hk
            simp only [if_true] at hk
            have HK:=hidden hk
            clear hk ht hok
            go_wp2_with fail
            refine C2.out.mono ?_
            rintro e w2 ⟨rfl,hw2⟩
            have HW2:Hid (Below w.heap.size w w2):=HW1.out.trans (hw2.mono HW1.out.size)
            clear hw2
            go_wp2_with fail
            go_ret
            exact ⟨by rw [← HK.out];rfl,HW2.out⟩
          | false=>
            rw [ht] at C2 hk
            rw [if_neg (by simp),← HT.out] at hk
            have HK:=hidden hk
            clear hk ht hok
            go_wp2_with fail
            refine C2.out.mono ?_
            rintro e w2 ⟨rfl,hw2⟩
            have HW2:Hid (Below w.heap.size w w2):=HW1.out.trans (hw2.mono HW1.out.size)
            clear hw2
            go_wp2_with fail
            go_roundg (n - (j+1))
            case measure=>omega
            case rel=>exact ⟨j+1,by omega,by go_num,HK,HW2⟩
      · have hjz:¬ (j:Int)<(n:Int):=by omega
        have hk:=HK.out
        rw [List.drop_eq_nil_of_le (by omega),ck] at hk
        have HK:=hidden hk
        clear hk
        go_wp2_with fail
        go_ret
        exact ⟨by rw [← HK.out];rfl,HW.out⟩

def SBox (w:World) (B:Nat) (v:Value):Prop:=w.heap[B]?=some (.cells #[v] 47 (0,0))
theorem SBox.new (w:World) (v:Value):SBox (w.alloc (.cells #[v] 47)) w.heap.size v:=heap_alloc_new w _
theorem SBox.lt {w:World} {B:Nat} {v:Value} (h:SBox w B v):B<w.heap.size:=lt_of_block h
theorem SBox.cell {w:World} {B:Nat} {v:Value} (h:SBox w B v):w.cell? ⟨B,0,none⟩=some v:=by
  unfold SBox at h
  simp [World.cell?,h]
theorem SBox.below {w w':World} {B C:Nat} {v:Value} (h:SBox w B v) (hb:Below C w w') (hB:B<C):SBox w' B v:=(hb.block B hB).trans h
theorem lit1 {w:World} {T:TypeId} (c0:Value):∀ j u,[c0][j]?=some u→(w.alloc (.cells #[c0] T)).cell? ((⟨w.heap.size,0,none⟩:Addr).add j)=some u:=by
  intro j u hu
  have:=World.news_of_block (w:=w.alloc (.cells #[c0] T)) (cs:=#[c0]) (t:=T) (fr:=(0,0)) (heap_alloc_new w _)
  exact this j u hu

theorem drop_int {L:List Int} {j:Nat} (h:j<L.length):L.drop j=dg L j::L.drop (j+1):=by
  rw [List.drop_eq_getElem_cons h]
  simp [dg,List.getD_eq_getElem?_getD,List.getElem?_eq_getElem h]
theorem range_drop {n j:Nat} (h:j<n):(List.range n).drop j=j::(List.range n).drop (j+1):=by
  rw [List.drop_eq_getElem_cons (by simpa using h)]
  simp
structure NSt (w wr:World) (K:List Int) (v:Value):Prop where
  below:Below w.heap.size w wr
  own:wr.ownsRow w.heap.size 3 1 v K.length (ic K)
def kl (P:List Int) (x:Int):List Int:=if bf P x=0 then kd P x P.length else []
theorem kl_len (P:List Int) (x:Int):(kl P x).length≤16:=by
  unfold kl
  split
  · rename_i h
    have:=(bf_zero h).1.len
    have:=kd_len P x P.length
    omega
  · simp
end Go.Proofs.YtlppdppddiecnaaGreatDoor.Tree
