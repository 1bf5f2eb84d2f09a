/-
  RunF, RunG in one text.
-/
import Derived.Test.YtlppdppddiecnaaGreatDoorMemP
import Derived.RangeFuncWrites
import Derived.RangeFuncLeaves
import Derived.Test.YtlppdppddiecnaaGreatDoorWordsAll
import Derived.OwnWalkIn
import Derived.TacticsInMore
import Derived.LoopNIn
import Derived.LoopIn
import Derived.BigRegionIn

namespace Go.Proofs.YtlppdppddiecnaaGreatDoor.Run
open Go.RowKit Go.Proofs.YtlppdppddiecnaaGreatDoor.Mem

def Lie (bs:List Nat) (w w':World):Prop:=∀ b∈bs,w'.heap[b]?=w.heap[b]?
theorem Lie.trans {bs:List Nat} {a b c:World} (h:Lie bs a b) (k:Lie bs b c):Lie bs a c:=fun x hx=>(k x hx).trans (h x hx)
theorem only_put {W:World} {l:Nat} (o:Obj) {bs:List Nat} (h:l∈bs):Only bs W (W.putObj l o):=
  ⟨rfl,rfl,rfl,by simp,fun k _ hk=>World.putObj_heap_other (fun e=>hk (e ▸ h))⟩

def Counts (F:Fence) (n:Nat) (P:Program) (gf:Nat) (lb:Array Value) (encs:Nat→Array Value) (N:Nat) (own:List Nat) (Bx:World→Prop) (W:World):Prop:=
  ∀ (l:Nat) (J:Nat→World→Prop),(∀ k A B,J k A→Only own A B→Bx B→J k B) →
    (∀ k W1,k<N→J k W1→YieldAt F (n - 1) P l (encs k) W1 fun e W'=>e=.returned (.bool true)∧J (k+1) W'∧Lie own W1 W')→J 0 W →
    CallsIn F n P gf (#[.func (.yield l) #[] #[]]++lb) W fun e W'=>(∃ v,e=.returned v)∧J N W'

variable {F:Fence} {n:Nat} {P:Program}

theorem wpIn_rangeFunc_counts {g:Operand} {ps:Array Tmp} {assign body:Code} {Q:Exit→Act→World→Prop} {a:Act} {w:World}
    (hro:F.round=none) (h1:1≤n) {gf:Nat} {lb:Array Value} (hg:a.eval g=.func (.func gf) #[] lb) (hFg:F.fn gf) (eg:∀ args w,(callFunc gf args).run P w=.ok (.enter gf args) w)
    {encs:Nat→Array Value} {N:Nat} {own:List Nat} {Bx:World→Prop} (hx0:Bx w) (hxL:∀ A B,Bx A→Lie own A B→Bx B) (hown:∀ b∈own,b<w.heap.size)
    (hseq:∀ W,Only [] w W→Counts F (n - 1) P gf lb encs N own Bx W) (hps:∀ k,(encs k).size=ps.size)
    (I:Nat→World→Prop) (hI:∀ k A B,I k A→Only (w.heap.size::(w.heap.size+1)::own) A B→I k B) (h0:I 0 w) (a₁:Nat→Act)
    (hassign:∀ (l k:Nat) (W:World) (K:Act→World→Prop),K (a₁ k) W →
      assign.wpIn (F.inRound l) (n - 1 - 1) P (Exit.then K (fun _ _ _=>False)) { tmps:=(ps.zip (encs k)).foldl (fun t (p,v)=>t.setIfInBounds p v) a.tmps,defers:=[] } W)
    (hbody:∀ (l k:Nat) (W:World),I k W→Bx W→(∃ r,W.heap[w.heap.size+1]?=some (.loop r))→(∃ d,W.heap[w.heap.size]?=some (.deferred d))→k<N→w.heap.size+2≤W.heap.size →
      body.wpIn (F.inRound l) (n - 1 - 1) P (fun e _ W'=>e=.normal∧Lie (w.heap.size::(w.heap.size+1)::own) W W'∧I (k+1) W') (a₁ k) W)
    (hdone:∀ (D:Nat) (W:World),w.heap.size≤D→I N W→W.heap[D]?=some (.deferred (some []))→Q .normal { a with defers:={ target:=.collected D,args:=#[] }::a.defers } W) :
    (Code.rangeFunc g ps assign body).wpIn F n P Q a w:=by
  refine wpIn_rangeFunc ?_
  intro fn hfn
  rw [hro]
  obtain ⟨D,hD⟩:∃ D,w.heap.size=D:=⟨_,rfl⟩
  obtain ⟨rc,hrc⟩:∃ rc:LoopState→Option Code→Loop,rc=fun st pe=>{ state:=st,pending:=pe,fn,tmps:=a.tmps,params:=ps,assign,body,defers:=D }:=⟨_,rfl⟩
  obtain ⟨V,hV⟩:∃ V,(w.alloc (.deferred (some []))).alloc (.loop (rc .ready none))=V:=⟨_,rfl⟩
  have oV:Only [] w V:=by rw [← hV];exact ((Only.refl [] w).alloc _).alloc _
  have rl:V.heap[D+1]?=some (.loop (rc .ready none)):=by
    rw [← hV,← hD];have:=World.alloc_heap_new (w.alloc (.deferred (some []))) (.loop (rc .ready none));rwa [World.size_alloc] at this
  have rd:V.heap[D]?=some (.deferred (some [])):=by
    rw [← hV,← hD];exact (Below.heap_alloc _ _ _ (by simp)).trans (World.alloc_heap_new w _)
  rw [hD] at hI hbody hown
  have nD:∀ b∈own,b≠D∧b≠D+1:=fun b hb=>by have:=hown b hb;omega
  have nD0:D∉own:=fun h=>(nD D h).1 rfl
  have nD1:D+1∉own:=fun h=>(nD _ h).2 rfl
  refine ⟨D+1,[{ target:=.collected D,args:=#[] }],V,{ target:=.fn (.func gf) lb,args:=#[.func (.yield (D+1)) #[] #[]] },V,gf,
    #[.func (.yield (D+1)) #[] #[]]++lb,V,?_,?_,?_,?_,fun _=>h1,?_⟩
  · rw [← hV,hrc,← hD];exact run_enterLoop_outer _ _ _ _ _
  · simp only [resolve,hg]
    simp [go_sem]
  · intro f' hf';simp [Target.leads] at hf';subst hf';exact hFg
  · simp [invoke,go_sem,eg]
  · refine (hseq V oV (D+1) (fun k W=>I k W∧Bx W∧W.heap[D+1]?=some (.loop (rc .ready none))∧W.heap[D]?=some (.deferred (some []))) ?_ ?_ ⟨hI 0 w V h0 (oV.mono (by simp)),hxL w V hx0 (fun b hb=>oV.2.2.2.2 b (by rw [hD];exact hown b hb) (by simp)),rl,rd⟩).mono ?_
    · rintro k A B ⟨hi,_,hl,hd⟩ ho hxB
      exact ⟨hI k A B hi (ho.mono (fun x hx=>by simp [hx])),hxB,ho.block hl nD1,ho.block hd nD0⟩
    · rintro k W hk ⟨hi,hx,hl,hd⟩
      have hlt:D+1<W.heap.size:=(Array.getElem?_eq_some_iff.1 hl).1
      have hy:=run_yield (P:=P) (args:=encs k) hl (by rw [hrc];exact hps k)
      rw [hrc] at hy
      refine ⟨fn,_,assign,body,hy,roundIn_of_wpIn hfn (hassign _ k W _ ⟨_,run_beginRound hl (by rw [hrc]),?_⟩)⟩
      obtain ⟨W2,hW2⟩:∃ W2,W.putObj (D+1) (.loop { rc .ready none with state:=.busy })=W2:=⟨_,rfl⟩
      rw [hW2]
      have o2:Only [D+1] W W2:=by rw [← hW2];exact only_put _ (by simp)
      have l2:W2.heap[D+1]?=some (.loop { rc .ready none with state:=.busy }):=by rw [← hW2];exact World.putObj_heap_same hlt
      have d2:W2.heap[D]?=some (.deferred (some [])):=o2.block hd (by simp)
      have s2:W2.heap.size=W.heap.size:=by rw [← hW2];simp
      have x2:Bx W2:=hxL W W2 hx (fun b hb=>by rw [← hW2];exact World.putObj_heap_other (nD b hb).2)
      refine wpIn_mono (hbody _ k W2 (hI k W W2 hi (o2.mono (by simp))) x2 ⟨_,l2⟩ ⟨_,d2⟩ hk (by omega)) ?_
      rintro e a3 W3 ⟨rfl,ly,hi3⟩
      have l3:W3.heap[D+1]?=some (.loop { rc .ready none with state:=.busy }):=(ly (D+1) (by simp)).trans l2
      have d3:W3.heap[D]?=some (.deferred (some [])):=(ly D (by simp)).trans d2
      have hr:=run_endRound (P:=P) none l3
      rw [hrc] at hr
      have o3:Only [D+1] W3 (W3.putObj (D+1) (.loop (rc .ready none))):=only_put _ (by simp)
      refine ⟨_,_,hr,?_⟩
      have hlt3:D+1<W3.heap.size:=(Array.getElem?_eq_some_iff.1 l3).1
      have e3:(W3.putObj (D+1) (.loop (rc .ready none))).heap[D+1]?=some (.loop (rc .ready none)):=World.putObj_heap_same hlt3
      have f3:(W3.putObj (D+1) (.loop (rc .ready none))).heap[D]?=some (.deferred (some [])):=o3.block d3 (by simp)
      have key:I (k+1) (W3.putObj (D+1) (.loop (rc .ready none)))∧Lie own W (W3.putObj (D+1) (.loop (rc .ready none))):=by
        refine ⟨hI _ _ _ hi3 (o3.mono (by simp)),fun b hb=>?_⟩
        have a1:(W3.putObj (D+1) (.loop (rc .ready none))).heap[b]?=W3.heap[b]?:=World.putObj_heap_other (nD b hb).2
        have a2:=ly b (by simp [hb])
        have a3:W2.heap[b]?=W.heap[b]?:=by rw [← hW2];exact World.putObj_heap_other (nD b hb).2
        rw [a1,a2,a3]
      have x3:Bx (W3.putObj (D+1) (.loop (rc .ready none))):=hxL W _ hx key.2
      rw [hrc] at key e3 f3 x3
      rw [hrc]
      exact ⟨rfl,⟨key.1,x3,e3,f3⟩,key.2⟩
    · rintro e W2 ⟨⟨v,rfl⟩,hi,-,hl,hd⟩
      have hr:(Instr.endLoop (D+1)).run P W2=.ok none (W2.putObj (D+1) (.loop (rc .exhausted none))):=by
        have:=run_endLoop (P:=P) hl (by rw [hrc];simp)
        rw [hrc] at this ⊢
        exact this
      refine ⟨none,_,hr,?_⟩
      have o2:Only [D+1] W2 (W2.putObj (D+1) (.loop (rc .exhausted none))):=only_put _ (by simp)
      exact hdone D _ (by omega) (hI _ _ _ hi (o2.mono (by simp))) (o2.block hd (by simp))
end Go.Proofs.YtlppdppddiecnaaGreatDoor.Run
namespace Go.Proofs.YtlppdppddiecnaaGreatDoor.Run
open Go.ChangeShapes Go.WideShapes Go.ChangeAt Go.RowKit Go.Proofs.YtlppdppddiecnaaGreatDoor.Mem Go.Proofs.YtlppdppddiecnaaGreatDoor.RN Go.Proofs.YtlppdppddiecnaaGreatDoor.RC
set_option linter.unusedVariables false
attribute [local go_sem] Oper.semAt_some

def TBox (w:World) (b:Nat) (l:List UInt8):Prop:=w.heap[b]?=some (.cells #[.string (bs l)] 9 (0,0))
theorem TBox.cell {w:World} {b:Nat} {l:List UInt8} (h:TBox w b l):w.cell? ⟨b,0,none⟩=some (.string (bs l)):=by
  simp only [TBox] at h
  simp [World.cell?,h]
theorem TBox.free {w:World} {b:Nat} {l:List UInt8} (h:TBox w b l):w.frozen? ⟨b,0,none⟩=false:=by
  simp only [TBox] at h
  simp [World.frozen?,h]
theorem TBox.set {w:World} {b:Nat} {l:List UInt8} (h:TBox w b l) (k:List UInt8):TBox (w.setCell ⟨b,0,none⟩ (.string (bs k))) b k:=heap_setCell_same w b 0 _ _ _ h
theorem lines_calls (l:List UInt8) (w:World) :
    Calls Tryz.prog 9 #[.string (bs l)] w fun e w'=>e=.returned (.func (.func 41) #[] #[.pointer (some ⟨w.heap.size,0,none⟩)])∧w'=w.alloc (.cells #[.string (bs l)] 9):=by
  go_enter Tryz.func9,Tryz.ntmps9
  go_wp2_with fail
  go_ret
  exact ⟨rfl,rfl⟩
theorem indexNl_calls (l:List UInt8) (w:World):Calls Tryz.prog 42 #[.string (bs l),.int .u8 10] w fun e w'=>e=.returned (.int .i64 (Lib.indexByte l 10))∧w'=w:=by
  have h:=Tryz.strings_IndexByte (bs l) 10 w
  rw [bs_data] at h
  exact h
theorem cutTo_str (l:List UInt8) (i:Nat) (h:i≤l.length) (W:World):(Instr.slice 9 (.string (bs l)) none (some (.int .i64 (i:Int))) none).run Tryz.prog W=.ok (.string (bs (l.take i))) W:=by
  rw [run_slice_string_to_if W 9 (bs l) .i64 i (by kernel_rfl),if_pos ⟨by omega,by rw [bs_size];omega⟩]
  congr 2
  rw [← bs_of ((bs l).extract _ _),Lib.extract_from_zero,bs_data]
  rfl
def rawAt (text:List UInt8) (k:Nat):List UInt8:=(rawL text).getD k []
def tlen (b:Nat) (w:World):Nat:=match w.cell? ⟨b,0,none⟩ with
  | some (.string s)=>s.size
  | _=>0
theorem TBox.len {w:World} {b:Nat} {l:List UInt8} (h:TBox w b l):tlen b w=l.length:=by
  unfold tlen
  rw [h.cell]
  exact bs_size l
set_option maxRecDepth 100000 in
set_option maxHeartbeats 4000000 in
theorem lines_counts (n:Nat) (hn:1≤n) (B:Nat) (text:List UInt8) (ht:text.length≤3000) (W:World) (hB:TBox W B text) :
    Counts Fence.wide n Tryz.prog 41 #[.pointer (some ⟨B,0,none⟩)] (fun k=>#[.string (bs ((rawL text).getD k []))]) (rawL text).length [B] (fun W=>∃ R,TBox W B R) W:=by
  intro l J hJ hY h0
  have HY:Hid (∀ k W1,k<(rawL text).length→J k W1→YieldAt Fence.wide (n - 1) Tryz.prog l #[.string (bs ((rawL text).getD k []))] W1 fun e W'=>e=.returned (.bool true)∧J (k+1) W'∧Lie [B] W1 W'):=hY
  have HJ:Hid (∀ k A C,J k A→Only [B] A C→(∃ R,TBox C B R)→J k C):=hJ
  have H0:Hid (J 0 W):=h0
  have HB:=hidden hB
  clear hY hJ h0 hB
  refine callsIn_of_wp Tryz.func41 rfl trivial ?_ rfl
  simp only [Tryz.ntmps41,List.size_toArray,List.length_cons,List.length_nil,Nat.reduceAdd,Nat.reduceSub,Array.replicate_succ,Array.replicate_zero,List.push_toArray,List.append_toArray,List.nil_append,List.cons_append]
  gi_wp2
  gi_loopw [3,4] (fun u v wr=>∃ (k:Nat) (R:List UInt8),R.length≤3000∧Hid ((rawL text).drop k=rawL R∧k≤(rawL text).length)∧Hid (J k wr)∧TBox wr B R) (fun u v wr=>tlen B wr)
  case atStart=>exact ⟨0,text,ht,⟨rfl,Nat.zero_le _⟩,H0,HB.out⟩
  case round=>
    obtain ⟨k,R,hR,HR,HJk,hb⟩:=hrel
    have c0:=hb.cell
    have f0:=hb.free
    have HBx:=hidden hb
    have hlen:=hb.len
    have HSz:Hid (∀ x:List UInt8,(bs x).size=x.length):=bs_size
    by_cases hne:R=[]
    · subst hne
      have hz:(bs ([]:List UInt8)).size=0:=rfl
      have hk:k=(rawL text).length:=by
        have h1:=HR.out.1
        have h2:=HR.out.2
        have:=congrArg List.length h1
        simp [rawL] at this
        omega
      have HK:=hidden hk
      clear hk hlen
      gi_wp2
      go_end0
      exact ⟨⟨_,rfl⟩,by rw [← HK.out];exact HJk.out⟩
    · have hpos:0<R.length:=by
        cases R with
        | nil=>exact absurd rfl hne
        | cons _ _=>simp
      obtain ⟨m,hm⟩:∃ m,R.length=m:=⟨_,rfl⟩
      have hsz:(bs R).size=m:=by rw [bs_size];exact hm
      have hkN:Hid (k<(rawL text).length):=by
        have h1:=congrArg List.length HR.out.1
        rw [List.length_drop] at h1
        have h3:0<(rawL R).length:=by
          cases hq:rawL R with
          | nil=>
            have:=rawL_join R.length R (Nat.le_refl _)
            rw [hq] at this
            exact absurd this.symm hne
          | cons _ _=>simp
        show k<_
        omega
      have I:=hidden (fun w=>callsIn_wide (n:=n - 1) |>.2 (indexNl_calls R w))
      rw [hm] at hlen hpos hR
      have HM:=hidden hm
      have HNE:=hidden hne
      rcases indexByte_one 10 R with ⟨h1,h2⟩ | ⟨i,h1,h2,h3,h4⟩
      · rw [h1] at I
        have HN2:=hidden h2
        clear h1 h2 hm hne
        have hraw:rawL R=[R]:=rawL_none HNE.out HN2.out
        have hkl:(rawL text).getD k []=R:=by
          have h5:=HR.out.1
          rw [hraw] at h5
          have:=congrArg (fun L=>L.getD 0 []) h5
          simpa [List.getD_eq_getElem?_getD] using this
        have hdn:Hid ((rawL text).drop (k+1)=rawL []∧k+1≤(rawL text).length):=by
          have h5:=HR.out.1
          rw [hraw] at h5
          refine ⟨?_,hkN.out⟩
          have:=congrArg List.tail h5
          rw [List.tail_drop] at this
          simpa [rawL] using this
        have ho:Only [B] wr (wr.setCell ⟨B,0,none⟩ (.string ⟨#[]⟩)):=(Only.refl _ _).setCell (by simp) _
        have hbn:TBox (wr.setCell ⟨B,0,none⟩ (.string ⟨#[]⟩)) B []:=HBx.out.set []
        obtain ⟨fn,tmps,assign,body,hy,hRd⟩:=HY.out k _ hkN.out (HJ.out k _ _ HJk.out ho ⟨_,hbn⟩)
        rw [hkl] at hy
        have HBn:=hidden hbn
        clear hraw hkl ho hbn
        gi_wp2_with fail
        refine ⟨trivial,(I.out _).mono ?_⟩
        rintro e w' ⟨rfl,hw⟩
        rw [hw]
        clear hw
        gi_wp2_with fail
        refine hRd.mono ?_
        rintro e W3 ⟨rfl,hJ3,hl3⟩
        have hb3:TBox W3 B []:=(hl3 B (by simp)).trans HBn.out
        have HJ3:=hidden hJ3
        have hlen3:=hb3.len
        have HB3:=hidden hb3
        clear hJ3 hl3 hb3
        gi_wp2_with fail
        go_roundw
        case rel=>exact ⟨k+1,[],by simp,hdn,HJ3,HB3.out⟩
        case measure=>
          rw [hlen3,hlen];simpa using hpos
      · rw [h1] at I
        have hraw:rawL R=(R.take (i+1))::rawL (R.drop (i+1)):=by
          have e1:R.take i++[10]=R.take (i+1):=by
            conv=>rhs;rw [h3]
            have hl:(R.take i).length=i:=by rw [List.length_take];omega
            rw [List.take_append,hl]
            simp [List.take_of_length_le,hl]
          conv=>lhs;rw [h3,rawL_at _ h4,e1]
        have hkl:(rawL text).getD k []=R.take (i+1):=by
          have h5:=HR.out.1
          rw [hraw] at h5
          have:=congrArg (fun L=>L.getD 0 []) h5
          simpa [List.getD_eq_getElem?_getD] using this
        have hdn:Hid ((rawL text).drop (k+1)=rawL (R.drop (i+1))∧k+1≤(rawL text).length):=by
          have h5:=HR.out.1
          rw [hraw] at h5
          refine ⟨?_,hkN.out⟩
          have:=congrArg List.tail h5
          rw [List.tail_drop] at this
          simpa using this
        have him:i<m:=by omega
        have e1:∀ W,(Instr.slice 9 (.string (bs R)) none (some (.int .i64 ((i+1:Nat):Int))) none).run Tryz.prog W=.ok (.string (bs (R.take (i+1)))) W:=cutTo_str R (i+1) (by omega)
        have e2:∀ W,(Instr.slice 9 (.string (bs R)) (some (.int .i64 ((i+1:Nat):Int))) none none).run Tryz.prog W=.ok (.string (bs (R.drop (i+1)))) W:=cut_str R (i+1) (by omega)
        simp only [Int.natCast_add,Int.cast_ofNat_Int] at e1 e2
        have hdl:(R.drop (i+1)).length<m:=by rw [List.length_drop];omega
        obtain ⟨x,hx⟩:∃ x,R.take (i+1)=x:=⟨_,rfl⟩
        obtain ⟨y,hy0⟩:∃ y,R.drop (i+1)=y:=⟨_,rfl⟩
        rw [hx] at e1 hkl
        rw [hy0] at e2 hdn hdl
        have hwr:IntKind.i64.wrap ((i:Int)+1)=(i:Int)+1:=by rw [IntKind.wrap_i64];omega
        have HDL:=hidden hdl
        have HKL:=hidden hkl
        have hi0:decide ((0:Int)≤(i:Int))=true:=by simp
        clear hraw h1 h2 h3 h4 hx hy0 hdl hkl hm hne
        gi_wp2_with fail
        refine ⟨trivial,(I.out _).mono ?_⟩
        rintro e w' ⟨rfl,hw⟩
        rw [hw]
        clear hw
        gi_wp2_with fail
        gi_region
        obtain ⟨V,hV⟩:∃ V,(wr.setCell ⟨B,0,none⟩ (.string (bs y))).drew=V:=⟨_,rfl⟩
        rw [hV]
        have ho:Only [B] wr V:=by rw [← hV];exact ((Only.refl [B] wr).setCell (by simp) _).drew
        have hbn:TBox V B y:=by rw [← hV];exact HBx.out.set y
        obtain ⟨fn,tmps,assign,body,hy,hRd⟩:=HY.out k _ hkN.out (HJ.out k _ _ HJk.out ho ⟨_,hbn⟩)
        rw [HKL.out] at hy
        have HBn:=hidden hbn
        clear ho hbn hV
        gi_wp2_with fail
        refine hRd.mono ?_
        rintro e W3 ⟨rfl,hJ3,hl3⟩
        have hb3:TBox W3 B y:=(hl3 B (by simp)).trans HBn.out
        have HJ3:=hidden hJ3
        have hlen3:=hb3.len
        have HB3:=hidden hb3
        clear hJ3 hl3 hb3
        gi_wp2_with fail
        go_roundw
        case rel=>exact ⟨k+1,y,by have:=HDL.out;omega,hdn,HJ3,HB3.out⟩
        case measure=>
          rw [hlen3,hlen];exact HDL.out
end Go.Proofs.YtlppdppddiecnaaGreatDoor.Run
