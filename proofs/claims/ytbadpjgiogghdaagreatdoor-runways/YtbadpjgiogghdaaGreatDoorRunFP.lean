/-
  A range over a function whose iterator writes blocks of its own between two rounds (its rest of a text), and whose body may make whatever it likes (maps too): the rounds are counted, the body goes on each time. The caller's invariant bears whatever is not changed but in those blocks.
-/
import Derived.Test.YtbadpjgiogghdaaGreatDoorMemP
import Derived.RangeFuncWrites
import Derived.RangeFuncLeaves
namespace Go.Proofs.YtbadpjgiogghdaaGreatDoor.Run
open Go.RowKit Go.Proofs.YtbadpjgiogghdaaGreatDoor.Mem

def Lie (bs:List Nat) (w w':World):Prop:=∀ b∈bs,w'.heap[b]?=w.heap[b]?
theorem Lie.trans {bs:List Nat} {a b c:World} (h:Lie bs a b) (k:Lie bs b c):Lie bs a c:=fun x hx=>(k x hx).trans (h x hx)
theorem only_put {W:World} {l:Nat} (o:Obj) {bs:List Nat} (h:l∈bs):Only bs W (W.putObj l o):=
  ⟨rfl,rfl,rfl,by simp,fun k _ hk=>World.putObj_heap_other (fun e=>hk (e ▸ h))⟩

def Counts (F:Fence) (n:Nat) (P:Program) (gf:Nat) (lb:Array Value) (encs:Nat→Array Value) (N:Nat) (own:List Nat) (Bx:World→Prop) (W:World):Prop:=
  ∀ (l:Nat) (J:Nat→World→Prop),(∀ k A B,J k A→Only own A B→Bx B→J k B) →
    (∀ k W1,k<N→J k W1→YieldAt F (n - 1) P l (encs k) W1 fun e W'=>e=.returned (.bool true)∧J (k+1) W'∧Lie own W1 W')→J 0 W →
    CallsIn F n P gf (#[.func (.yield l) #[] #[]]++lb) W fun e W'=>(∃ v,e=.returned v)∧J N W'

variable {F:Fence} {n:Nat} {P:Program}

theorem wpIn_rangeFunc_counts {g:Operand} {ps:Array Tmp} {assign body:Code} {Q:Exit→Act→World→Prop} {a:Act} {w:World}
    (hro:F.round=none) (h1:1≤n) {gf:Nat} {lb:Array Value} (hg:a.eval g=.func (.func gf) #[] lb) (hFg:F.fn gf) (eg:∀ args w,(callFunc gf args).run P w=.ok (.enter gf args) w)
    {encs:Nat→Array Value} {N:Nat} {own:List Nat} {Bx:World→Prop} (hx0:Bx w) (hxL:∀ A B,Bx A→Lie own A B→Bx B) (hown:∀ b∈own,b<w.heap.size)
    (hseq:∀ W,Only [] w W→Counts F (n - 1) P gf lb encs N own Bx W) (hps:∀ k,(encs k).size=ps.size)
    (I:Nat→World→Prop) (hI:∀ k A B,I k A→Only (w.heap.size::(w.heap.size+1)::own) A B→I k B) (h0:I 0 w) (a₁:Nat→Act)
    (hassign:∀ (l k:Nat) (W:World) (K:Act→World→Prop),K (a₁ k) W →
      assign.wpIn (F.inRound l) (n - 1 - 1) P (Exit.then K (fun _ _ _=>False)) { tmps:=(ps.zip (encs k)).foldl (fun t (p,v)=>t.setIfInBounds p v) a.tmps,defers:=[] } W)
    (hbody:∀ (l k:Nat) (W:World),I k W→Bx W→(∃ r,W.heap[w.heap.size+1]?=some (.loop r))→(∃ d,W.heap[w.heap.size]?=some (.deferred d))→k<N→w.heap.size+2≤W.heap.size →
      body.wpIn (F.inRound l) (n - 1 - 1) P (fun e _ W'=>e=.normal∧Lie (w.heap.size::(w.heap.size+1)::own) W W'∧I (k+1) W') (a₁ k) W)
    (hdone:∀ (D:Nat) (W:World),w.heap.size≤D→I N W→W.heap[D]?=some (.deferred (some []))→Q .normal { a with defers:={ target:=.collected D,args:=#[] }::a.defers } W) :
    (Code.rangeFunc g ps assign body).wpIn F n P Q a w:=by
  refine wpIn_rangeFunc ?_
  intro fn hfn
  rw [hro]
  obtain ⟨D,hD⟩:∃ D,w.heap.size=D:=⟨_,rfl⟩
  obtain ⟨rc,hrc⟩:∃ rc:LoopState→Option Code→Loop,rc=fun st pe=>{ state:=st,pending:=pe,fn,tmps:=a.tmps,params:=ps,assign,body,defers:=D }:=⟨_,rfl⟩
  obtain ⟨V,hV⟩:∃ V,(w.alloc (.deferred (some []))).alloc (.loop (rc .ready none))=V:=⟨_,rfl⟩
  have oV:Only [] w V:=by rw [← hV];exact ((Only.refl [] w).alloc _).alloc _
  have rl:V.heap[D+1]?=some (.loop (rc .ready none)):=by
    rw [← hV,← hD];have:=World.alloc_heap_new (w.alloc (.deferred (some []))) (.loop (rc .ready none));rwa [World.size_alloc] at this
  have rd:V.heap[D]?=some (.deferred (some [])):=by
    rw [← hV,← hD];exact (Below.heap_alloc _ _ _ (by simp)).trans (World.alloc_heap_new w _)
  rw [hD] at hI hbody hown
  have nD:∀ b∈own,b≠D∧b≠D+1:=fun b hb=>by have:=hown b hb;omega
  have nD0:D∉own:=fun h=>(nD D h).1 rfl
  have nD1:D+1∉own:=fun h=>(nD _ h).2 rfl
  refine ⟨D+1,[{ target:=.collected D,args:=#[] }],V,{ target:=.fn (.func gf) lb,args:=#[.func (.yield (D+1)) #[] #[]] },V,gf,
    #[.func (.yield (D+1)) #[] #[]]++lb,V,?_,?_,?_,?_,fun _=>h1,?_⟩
  · rw [← hV,hrc,← hD];exact run_enterLoop_outer _ _ _ _ _
  · simp only [resolve,hg]
    simp [go_sem]
  · intro f' hf';simp [Target.leads] at hf';subst hf';exact hFg
  · simp [invoke,go_sem,eg]
  · refine (hseq V oV (D+1) (fun k W=>I k W∧Bx W∧W.heap[D+1]?=some (.loop (rc .ready none))∧W.heap[D]?=some (.deferred (some []))) ?_ ?_ ⟨hI 0 w V h0 (oV.mono (by simp)),hxL w V hx0 (fun b hb=>oV.2.2.2.2 b (by rw [hD];exact hown b hb) (by simp)),rl,rd⟩).mono ?_
    · rintro k A B ⟨hi,_,hl,hd⟩ ho hxB
      exact ⟨hI k A B hi (ho.mono (fun x hx=>by simp [hx])),hxB,ho.block hl nD1,ho.block hd nD0⟩
    · rintro k W hk ⟨hi,hx,hl,hd⟩
      have hlt:D+1<W.heap.size:=(Array.getElem?_eq_some_iff.1 hl).1
      have hy:=run_yield (P:=P) (args:=encs k) hl (by rw [hrc];exact hps k)
      rw [hrc] at hy
      refine ⟨fn,_,assign,body,hy,roundIn_of_wpIn hfn (hassign _ k W _ ⟨_,run_beginRound hl (by rw [hrc]),?_⟩)⟩
      obtain ⟨W2,hW2⟩:∃ W2,W.putObj (D+1) (.loop { rc .ready none with state:=.busy })=W2:=⟨_,rfl⟩
      rw [hW2]
      have o2:Only [D+1] W W2:=by rw [← hW2];exact only_put _ (by simp)
      have l2:W2.heap[D+1]?=some (.loop { rc .ready none with state:=.busy }):=by rw [← hW2];exact World.putObj_heap_same hlt
      have d2:W2.heap[D]?=some (.deferred (some [])):=o2.block hd (by simp)
      have s2:W2.heap.size=W.heap.size:=by rw [← hW2];simp
      have x2:Bx W2:=hxL W W2 hx (fun b hb=>by rw [← hW2];exact World.putObj_heap_other (nD b hb).2)
      refine wpIn_mono (hbody _ k W2 (hI k W W2 hi (o2.mono (by simp))) x2 ⟨_,l2⟩ ⟨_,d2⟩ hk (by omega)) ?_
      rintro e a3 W3 ⟨rfl,ly,hi3⟩
      have l3:W3.heap[D+1]?=some (.loop { rc .ready none with state:=.busy }):=(ly (D+1) (by simp)).trans l2
      have d3:W3.heap[D]?=some (.deferred (some [])):=(ly D (by simp)).trans d2
      have hr:=run_endRound (P:=P) none l3
      rw [hrc] at hr
      have o3:Only [D+1] W3 (W3.putObj (D+1) (.loop (rc .ready none))):=only_put _ (by simp)
      refine ⟨_,_,hr,?_⟩
      have hlt3:D+1<W3.heap.size:=(Array.getElem?_eq_some_iff.1 l3).1
      have e3:(W3.putObj (D+1) (.loop (rc .ready none))).heap[D+1]?=some (.loop (rc .ready none)):=World.putObj_heap_same hlt3
      have f3:(W3.putObj (D+1) (.loop (rc .ready none))).heap[D]?=some (.deferred (some [])):=o3.block d3 (by simp)
      have key:I (k+1) (W3.putObj (D+1) (.loop (rc .ready none)))∧Lie own W (W3.putObj (D+1) (.loop (rc .ready none))):=by
        refine ⟨hI _ _ _ hi3 (o3.mono (by simp)),fun b hb=>?_⟩
        have a1:(W3.putObj (D+1) (.loop (rc .ready none))).heap[b]?=W3.heap[b]?:=World.putObj_heap_other (nD b hb).2
        have a2:=ly b (by simp [hb])
        have a3:W2.heap[b]?=W.heap[b]?:=by rw [← hW2];exact World.putObj_heap_other (nD b hb).2
        rw [a1,a2,a3]
      have x3:Bx (W3.putObj (D+1) (.loop (rc .ready none))):=hxL W _ hx key.2
      rw [hrc] at key e3 f3 x3
      rw [hrc]
      exact ⟨rfl,⟨key.1,x3,e3,f3⟩,key.2⟩
    · rintro e W2 ⟨⟨v,rfl⟩,hi,-,hl,hd⟩
      have hr:(Instr.endLoop (D+1)).run P W2=.ok none (W2.putObj (D+1) (.loop (rc .exhausted none))):=by
        have:=run_endLoop (P:=P) hl (by rw [hrc];simp)
        rw [hrc] at this ⊢
        exact this
      refine ⟨none,_,hr,?_⟩
      have o2:Only [D+1] W2 (W2.putObj (D+1) (.loop (rc .exhausted none))):=only_put _ (by simp)
      exact hdone D _ (by omega) (hI _ _ _ hi (o2.mono (by simp))) (o2.block hd (by simp))
end Go.Proofs.YtbadpjgiogghdaaGreatDoor.Run

