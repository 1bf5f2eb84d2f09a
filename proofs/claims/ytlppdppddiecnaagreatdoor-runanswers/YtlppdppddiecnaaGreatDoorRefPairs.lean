/-
  BackG, RSorted, RPairs, RPairs2 in one text.
-/
import Derived.Test.YtlppdppddiecnaaGreatDoorBackAll
namespace Go.Proofs.YtlppdppddiecnaaGreatDoor.Back
open Go.ChangeShapes Go.WideShapes Go.ChangeAt Go.RowKit Go.Sort Go.Lib Go.Proofs.YtlppdppddiecnaaGreatDoor.BM Go.Proofs.YtlppdppddiecnaaGreatDoor.Mem
set_option linter.unusedVariables false

def PBox (w:World) (B:Nat) (b m:Int):Prop:=w.heap[B]?=some (.cells #[.int .i64 b,.int .i64 m] 78 (0,0))
theorem PBox.new (w:World) (b m:Int):PBox (w.alloc (.cells #[.int .i64 b,.int .i64 m] 78)) w.heap.size b m:=heap_alloc_new w _
theorem PBox.cells {w:World} {B:Nat} {b m:Int} (h:PBox w B b m):w.cell? ⟨B,0,none⟩=some (.int .i64 b)∧w.cell? ⟨B,1,none⟩=some (.int .i64 m):=by
  unfold PBox at h
  constructor<;>simp [World.cell?,h]
theorem PBox.ne {w:World} {B:Nat} {b m:Int} (h:PBox w B b m) {base n sz e:Nat} {v:Value} {xs:List Value} (ho:w.ownsRow base e sz v n xs) (he:78≠e:=by decide):some B≠v.ownBlock:=by
  intro e
  rcases ho.2 with ⟨rfl,_⟩ | ⟨g,cap,cur,rfl,_,hb,_⟩
  · simp [Value.ownBlock] at e
  · simp only [Value.ownBlock,Option.some.injEq] at e
    subst e
    unfold PBox at h
    rw [h] at hb
    simp only [Option.some.injEq,Obj.cells.injEq] at hb
    exact absurd hb.2.1 he
theorem PBox.alloc {w:World} {B:Nat} {b m:Int} (h:PBox w B b m) (O:Obj):PBox (w.alloc O) B b m:=by
  unfold PBox
  rw [Below.heap_alloc _ _ _ (lt_of_block h)]
  exact h
theorem PBox.grown {w w':World} {B:Nat} {b m:Int} {v:Value} (h:PBox w B b m) (hg:w.grownBy w' v.ownBlock) (hne:some B≠v.ownBlock):PBox w' B b m:=by
  unfold PBox
  rw [hg.block B (lt_of_block h) hne]
  exact h
theorem lit1 {w:World} {T:TypeId} (c0:Value):∀ j u,[c0][j]?=some u→(w.alloc (.cells #[c0] T)).cell? ((⟨w.heap.size,0,none⟩:Addr).add j)=some u:=by
  intro j u hu
  rw [Addr.add_lit,World.cell?_alloc_mark,Nat.zero_add,← hu]
  exact List.getElem?_toArray

structure NSt (w wr:World) (K:List Int) (v:Value):Prop where
  below:Below w.heap.size w wr
  own:wr.ownsRow w.heap.size 3 1 v K.length (ic K)

def put (S:List Int) (k:Nat) (x:Int):List Int:=S.take k++[x]++S.drop k
theorem put_len (S:List Int) (k:Nat) (x:Int) (h:k≤S.length):(put S k x).length=S.length+1:=by simp [put];omega
theorem put_set (S:List Int) (k:Nat) (x y:Int) (h:k≤S.length):(put S k x).set k y=put S k y:=by
  unfold put
  rw [List.append_assoc,List.append_assoc,List.set_append_right _ _ (by simp;omega)]
  simp [Nat.min_eq_left h]
theorem put_end (S:List Int) (x:Int):S++[x]=put S S.length x:=by simp [put]
theorem put_back (S:List Int) (j:Nat) (h:j<S.length):put S (j+1) (S.getD j 0)=put S j (S.getD j 0):=by
  unfold put
  have e1:S.take (j+1)=S.take j++[S.getD j 0]:=by
    rw [List.getD_eq_getElem?_getD,List.getElem?_eq_getElem h,Option.getD_some,List.take_append_getElem h]
  have e2:S.drop j=S.getD j 0::S.drop (j+1):=by
    rw [List.drop_eq_getElem_cons h,List.getD_eq_getElem?_getD,List.getElem?_eq_getElem h,Option.getD_some]
  rw [e1,e2]
  simp
theorem put_low (S:List Int) (k j:Nat) (x:Int) (hj:j<k) (hk:k≤S.length):(put S k x).getD j 0=S.getD j 0:=by
  unfold put
  rw [List.getD_eq_getElem?_getD,List.getD_eq_getElem?_getD,List.append_assoc,List.getElem?_append_left (by simp;omega),List.getElem?_take_of_lt hj]
theorem getD_mem {S:List Int} {j:Nat} (h:j<S.length):S.getD j 0∈S:=by
  rw [List.getD_eq_getElem?_getD,List.getElem?_eq_getElem h];exact List.getElem_mem _
theorem mem_getD {S:List Int} {x:Int} (h:x∈S):∃ j,j<S.length∧S.getD j 0=x:=by
  obtain ⟨j,hj,rfl⟩:=List.getElem_of_mem h
  exact ⟨j,hj,by rw [List.getD_eq_getElem?_getD,List.getElem?_eq_getElem hj];rfl⟩
theorem rises_get {S:List Int} (h:Rises S) {i j:Nat} (hij:i<j) (hj:j<S.length):S.getD i 0<S.getD j 0:=by
  have:=List.pairwise_iff_getElem.1 h i j (by omega) hj hij
  rw [List.getD_eq_getElem?_getD,List.getD_eq_getElem?_getD,List.getElem?_eq_getElem hj,List.getElem?_eq_getElem (by omega)]
  exact this
theorem norm_old {K:List Int} {x:Int} (h:x∈norm K):norm (K++[x])=norm K:=
  norm_eq (norm_of K).1 fun y=>by
    rw [(norm_of K).2,List.mem_append,List.mem_singleton]
    constructor
    · exact .inl
    · rintro (h' | rfl)
      · exact h'
      · exact ((norm_of K).2 y).1 h
theorem norm_new {K:List Int} {x:Int} {k:Nat} (hk:k≤(norm K).length) (hi:∀ j,k≤j→j<(norm K).length→x<(norm K).getD j 0) (hlo:0<k→(norm K).getD (k - 1) 0<x):norm (K++[x])=put (norm K) k x:=by
  obtain ⟨hr,hm⟩:=norm_of K
  generalize norm K=S at *
  refine norm_eq ?_ fun y=>?_
  · have h1:∀ y∈S.take k,y<x:=by
      intro y hy
      obtain ⟨j,hj,rfl⟩:=mem_getD hy
      have hj':j<k:=by simp at hj;omega
      have e:(S.take k).getD j 0=S.getD j 0:=by rw [List.getD_eq_getElem?_getD,List.getD_eq_getElem?_getD,List.getElem?_take_of_lt hj']
      rw [e]
      have hl:=hlo (by omega)
      by_cases ej:j=k - 1
      · rw [ej];exact hl
      · have:=rises_get hr (i:=j) (j:=k - 1) (by omega) (by omega);omega
    have h2:∀ y∈S.drop k,x<y:=by
      intro y hy
      obtain ⟨j,hj,rfl⟩:=mem_getD hy
      have e:(S.drop k).getD j 0=S.getD (k+j) 0:=by rw [List.getD_eq_getElem?_getD,List.getD_eq_getElem?_getD,List.getElem?_drop]
      rw [e]
      exact hi (k+j) (by omega) (by simp at hj;omega)
    have h3:=hr
    unfold Rises at h3
    rw [← List.take_append_drop k S] at h3
    obtain ⟨a1,a2,a3⟩:=List.pairwise_append.1 h3
    unfold put Rises
    refine List.pairwise_append.2 ⟨List.pairwise_append.2 ⟨a1,List.pairwise_singleton _ _,fun y hy z hz=>?_⟩,a2,fun y hy z hz=>?_⟩
    · obtain rfl:=List.mem_singleton.1 hz;exact h1 y hy
    · rcases List.mem_append.1 hy with hy | hy
      · exact a3 y hy z hz
      · obtain rfl:=List.mem_singleton.1 hy;exact h2 z hz
  · unfold put
    rw [List.mem_append,List.mem_append,List.mem_append,List.mem_singleton,← hm]
    have:y∈S↔y∈S.take k∨y∈S.drop k:=by rw [← List.mem_append,List.take_append_drop]
    rw [this]
    constructor
    · rintro ((h | h) | h)
      · exact .inl (.inl h)
      · exact .inr h
      · exact .inl (.inr h)
    · rintro ((h | h) | h)
      · exact .inl (.inl h)
      · exact .inr h
      · exact .inl (.inr h)
theorem NSt.drew {w wr:World} {K:List Int} {v:Value} (h:NSt w wr K v) (q:Nat):NSt w (wr.drewN q) K v:=⟨below_drewN' h.below q,h.own⟩
theorem NSt.cell {w wr:World} {K:List Int} {g cap m:Nat} (h:NSt w wr K (.slice (some ⟨g,0,none⟩) m cap)) (hm:m=K.length) {j:Nat} (hj:j<m):wr.cell? ⟨g,j,none⟩=some (.int .i64 (K.getD j 0)):=by
  subst hm
  rw [h.own.cellAt j (by omega),ic_get K j hj]
theorem NSt.free {w wr:World} {K:List Int} {g cap m:Nat} (h:NSt w wr K (.slice (some ⟨g,0,none⟩) m cap)) (hm:m=K.length) (j:Nat):wr.frozen? ⟨g,j,none⟩=false:=by
  subst hm
  exact h.own.frozenAt j
theorem NSt.set {w wr:World} {K:List Int} {g cap m:Nat} (h:NSt w wr K (.slice (some ⟨g,0,none⟩) m cap)) (hm:m=K.length) (j:Nat) (y:Int):NSt w (wr.setCell ⟨g,j,none⟩ (.int .i64 y)) (K.set j y) (.slice (some ⟨g,0,none⟩) m cap):=by
  subst hm
  have hg:=(h.own.lt g rfl).1
  obtain ⟨h1,_⟩:=h.own.stored j (.int .i64 y)
  refine ⟨h.below.setCell hg _,?_⟩
  rw [List.length_set]
  have e:ic (K.set j y)=(ic K).set j (.int .i64 y):=by simp [ic,List.map_set]
  rw [e]
  exact h1
theorem NSt.shape {w wr:World} {K:List Int} {v:Value} (h:NSt w wr K v) (hK:0<K.length):∃ g cap,v=.slice (some ⟨g,0,none⟩) K.length cap:=by
  rcases h.own.2 with ⟨_,h0⟩ | ⟨g,cap,cur,rfl,_⟩
  · omega
  · exact ⟨g,cap,rfl⟩


theorem rseq_calls (x:Int) (w:World):Calls Tryz.prog 19 #[.int .i64 x] w fun e w'=>e=.returned (.bool (inR x))∧w'=w:=by
  by_cases h:0≤x
  · have d:decide (0≤x)=true:=by simpa using h
    go_enter Tryz.func19,Tryz.ntmps19
    go_wp2_with fail
    go_ret
    exact ⟨by simp [inR,h],rfl⟩
  · have d:decide (0≤x)=false:=by simpa using h
    go_enter Tryz.func19,Tryz.ntmps19
    go_wp2_with fail
    go_ret
    exact ⟨by simp [inR];omega,rfl⟩

def mr (P:Nat→Bool):Nat→Nat
  | 0=>0
  | i+1=>if P i then mr P i+2 ^ i else mr P i
theorem mr_lt (P:Nat→Bool):∀ i,mr P i<2 ^ i
  | 0=>by simp [mr]
  | i+1=>by
    have:=mr_lt P i
    rw [mr,Nat.pow_succ]
    split<;>omega
theorem mr_or (P:Nat→Bool) (i:Nat):mr P i+2 ^ i=mr P i ||| 2 ^ i:=by
  have:=Nat.two_pow_add_eq_or_of_lt (mr_lt P i) 1
  rw [Nat.mul_one] at this
  rw [Nat.add_comm,this,Nat.or_comm]
theorem mr_bit (P:Nat→Bool):∀ i j,(mr P i).testBit j=(decide (j<i)&&P j)
  | 0,j=>by simp [mr]
  | i+1,j=>by
    have ih:=mr_bit P i j
    rw [mr]
    by_cases hp:P i=true
    · rw [if_pos hp,mr_or,Nat.testBit_or,ih,Nat.testBit_two_pow]
      by_cases e:i=j
      · subst e;simp [hp]
      · have:decide (i=j)=false:=by simpa using e
        rw [this,Bool.or_false]
        congr 1
        rw [decide_eq_decide]
        omega
    · rw [if_neg hp,ih]
      by_cases e:i=j
      · subst e;simp [hp]
      · congr 1
        rw [decide_eq_decide]
        omega
theorem fold_near (K:List (Int×Nat)) (n:Int):∀ (T:List Int) (m:Nat),(∀ x∈T,x - n≤16)→T.foldl BM.step (K++[(n,m)])=K++[(n,T.foldl (fun m x=>m ||| 2 ^ (x - n - 1).toNat) m)]
  | [],m,_=>rfl
  | x::T,m,h=>by
    rw [List.foldl_cons,step_near (p:=(n,m)) (h x (List.mem_cons_self ..))]
    exact fold_near K n T _ (fun y hy=>h y (List.mem_cons_of_mem _ hy))
theorem fold_bit (n:Int):∀ (T:List Int) (m j:Nat),(∀ x∈T,n<x)→((T.foldl (fun m x=>m ||| 2 ^ (x - n - 1).toNat) m).testBit j=true↔m.testBit j=true∨n+1+(j:Int)∈T)
  | [],m,j,_=>by simp
  | x::T,m,j,h=>by
    have hx:=h x (List.mem_cons_self ..)
    rw [List.foldl_cons,fold_bit n T _ j (fun y hy=>h y (List.mem_cons_of_mem _ hy)),Nat.testBit_or,Nat.testBit_two_pow,List.mem_cons,Bool.or_eq_true,decide_eq_true_eq]
    constructor
    · rintro ((h' | h') | h')
      · exact .inl h'
      · exact .inr (.inl (by omega))
      · exact .inr (.inr h')
    · rintro (h' | h' | h')
      · exact .inl (.inl h')
      · exact .inl (.inr (by omega))
      · exact .inr h'
def low (S:List Int) (n:Int):List Int:=S.filter fun x=>decide (x<n)
theorem low_no {S:List Int} {n:Int} (h:n∉S):low S (n+1)=low S n:=by
  apply List.filter_congr
  intro x hx
  rw [decide_eq_decide]
  have:x≠n:=fun e=>h (e ▸ hx)
  omega
theorem low_yes {S:List Int} (hr:Rises S) {n:Int} (h:n∈S):∃ T,low S (n+17)=low S n++n::T∧(∀ x,x∈T↔x∈S∧n<x∧x<n+17):=by
  refine ⟨S.filter fun x=>decide (n<x∧x<n+17),?_,fun x=>by simp⟩
  refine rises_ext (List.Pairwise.filter _ hr) ?_ fun x=>?_
  · refine List.pairwise_append.2 ⟨List.Pairwise.filter _ hr,List.pairwise_cons.2 ⟨fun y hy=>?_,List.Pairwise.filter _ hr⟩,fun y hy z hz=>?_⟩
    · simp at hy;omega
    · simp [low] at hy
      rcases List.mem_cons.1 hz with rfl | hz
      · exact hy.2
      · simp at hz;omega
  · simp only [low,List.mem_filter,List.mem_append,List.mem_cons,decide_eq_true_eq]
    constructor
    · rintro ⟨h1,h2⟩
      by_cases e:x=n
      · exact .inr (.inl e)
      · by_cases e2:x<n
        · exact .inl ⟨h1,e2⟩
        · exact .inr (.inr ⟨h1,by omega⟩)
    · rintro (⟨h1,h2⟩ | rfl | ⟨h1,h2⟩)
      · exact ⟨h1,by omega⟩
      · exact ⟨h,by omega⟩
      · exact ⟨h1,by omega⟩
def Shut (l:List (Int×Nat)) (n:Int):Prop:=∀ K p,l=K++[p]→16<n - p.1
theorem pairs_low {S:List Int} (hr:Rises S) {n:Int} (h:n∈S) (hs:Shut (pairs (low S n)) n) :
    pairs (low S (n+17))=pairs (low S n)++[(n,mr (fun i=>decide (n+1+(i:Int)∈S)) 16)]∧Shut (pairs (low S (n+17))) (n+17):=by
  obtain ⟨T,hT,hm⟩:=low_yes hr h
  have e1:BM.step (pairs (low S n)) n=pairs (low S n)++[(n,0)]:=by
    rcases List.eq_nil_or_concat (pairs (low S n)) with e | ⟨K,p,e⟩
    · rw [e];rfl
    · rw [List.concat_eq_append] at e
      rw [e,step_far (hs K p e)]
  have e2:pairs (low S (n+17))=pairs (low S n)++[(n,T.foldl (fun m x=>m ||| 2 ^ (x - n - 1).toNat) 0)]:=by
    rw [hT]
    unfold pairs
    rw [List.foldl_append,List.foldl_cons]
    show T.foldl BM.step (BM.step (pairs (low S n)) n)=_
    rw [e1,fold_near _ n T 0 (fun x hx=>by have:=(hm x).1 hx;omega)]
    rfl
  have e3:T.foldl (fun m x=>m ||| 2 ^ (x - n - 1).toNat) 0=mr (fun i=>decide (n+1+(i:Int)∈S)) 16:=by
    apply Nat.eq_of_testBit_eq
    intro j
    rw [mr_bit,Bool.eq_iff_iff,fold_bit n T 0 j (fun x hx=>((hm x).1 hx).2.1),hm]
    simp only [Nat.zero_testBit,Bool.false_eq_true,false_or,Bool.and_eq_true,decide_eq_true_eq]
    constructor
    · rintro ⟨h1,_,h3⟩;exact ⟨by omega,h1⟩
    · rintro ⟨h1,h2⟩;exact ⟨h2,by omega,by omega⟩
  rw [e3] at e2
  refine ⟨e2,fun K p e=>?_⟩
  rw [e2] at e
  obtain ⟨_,e4⟩:=List.append_inj' e rfl
  simp only [List.cons.injEq,and_true] at e4
  rw [← e4]
  show 16<n+17 - n
  omega
theorem shut_next {l:List (Int×Nat)} {n:Int} (h:Shut l n):Shut l (n+1):=fun K p e=>by have:=h K p e;omega
theorem low_zero {S:List Int} (h:∀ x∈S,0≤x):low S 0=[]:=by
  apply List.filter_eq_nil_iff.2
  intro x hx
  have:=h x hx
  simp
  omega
theorem low_all {S:List Int} {n:Int} (h:∀ x∈S,x<n):low S n=S:=by
  apply List.filter_eq_self.2
  intro x hx
  simpa using h x hx

set_option maxRecDepth 1000000 in
theorem zeros:Tryz.zeroCells119=Array.replicate 65536 (.bool false):=by kernel_rfl
def HasB (w:World) (g:Nat) (K:List Int):Prop:=∃ cs:Array Value,w.heap[g]?=some (.cells cs 119 (0,0))∧cs.size=65536∧∀ j,j<65536→cs[j]?=some (.bool (decide ((j:Int)∈K)))
theorem HasB.new (w:World):HasB (w.alloc (.cells Tryz.zeroCells119 119)) w.heap.size []:=by
  refine ⟨_,heap_alloc_new w _,by rw [zeros];simp,fun j hj=>?_⟩
  rw [zeros]
  simp [hj]
theorem HasB.cell {w:World} {g:Nat} {K:List Int} (h:HasB w g K) {j:Nat} (hj:j<65536):w.cell? ⟨g,j,none⟩=some (.bool (decide ((j:Int)∈K))):=by
  obtain ⟨cs,h1,_,h3⟩:=h
  simp [World.cell?,h1,h3 j hj]
theorem HasB.free {w:World} {g:Nat} {K:List Int} (h:HasB w g K) (j:Nat):w.frozen? ⟨g,j,none⟩=false:=by
  obtain ⟨cs,h1,_⟩:=h
  simp [World.frozen?,h1]
theorem HasB.lt {w:World} {g:Nat} {K:List Int} (h:HasB w g K):g<w.heap.size:=by
  obtain ⟨cs,h1,_⟩:=h
  exact lt_of_block h1
theorem HasB.set {w:World} {g:Nat} {K:List Int} (h:HasB w g K) {x:Nat} (hx:x<65536):HasB (w.setCell ⟨g,x,none⟩ (.bool true)) g (K++[(x:Int)]):=by
  obtain ⟨cs,h1,h2,h3⟩:=h
  refine ⟨_,heap_setCell_same w g x cs 119 (.bool true) h1,by simpa using h2,fun j hj=>?_⟩
  rw [Array.getElem?_setIfInBounds]
  by_cases e:x=j
  · subst e
    rw [if_pos rfl,if_pos (by omega)]
    simp
  · rw [if_neg e,h3 j hj]
    congr 2
    rw [decide_eq_decide,List.mem_append,List.mem_singleton]
    constructor
    · exact .inl
    · rintro (h | h)
      · exact h
      · omega
theorem HasB.below {w w':World} {g B:Nat} {K:List Int} (h:HasB w g K) (hb:Below B w w') (hg:g<B):HasB w' g K:=by
  obtain ⟨cs,h1,h2⟩:=h
  exact ⟨cs,(hb.block g hg).trans h1,h2⟩
theorem HasB.alloc {w:World} {g:Nat} {K:List Int} (h:HasB w g K) (O:Obj):HasB (w.alloc O) g K:=by
  have hl:=h.lt
  obtain ⟨cs,h1,h2⟩:=h
  exact ⟨cs,(Below.heap_alloc _ _ _ hl).trans h1,h2⟩
theorem HasB.grown {w w':World} {g base n sz e:Nat} {v:Value} {xs:List Value} {K:List Int} (h:HasB w g K) (ho:w.ownsRow base e sz v n xs) (hg:w.grownBy w' v.ownBlock) (he:119≠e:=by decide):HasB w' g K:=by
  have hl:=h.lt
  obtain ⟨cs,h1,h2⟩:=h
  refine ⟨cs,(hg.block g hl ?_).trans h1,h2⟩
  intro e1
  rcases ho.2 with ⟨rfl,_⟩ | ⟨g',cap,cur,rfl,_,hb,_⟩
  · simp [Value.ownBlock] at e1
  · simp only [Value.ownBlock,Option.some.injEq] at e1
    subst e1
    rw [h1] at hb
    simp only [Option.some.injEq,Obj.cells.injEq] at hb
    exact absurd hb.2.1 he
theorem HasB.same {w:World} {g:Nat} {K K':List Int} (h:HasB w g K) (e:∀ x,x∈K↔x∈K'):HasB w g K':=by
  obtain ⟨cs,h1,h2,h3⟩:=h
  exact ⟨cs,h1,h2,fun j hj=>by rw [h3 j hj];congr 2;rw [decide_eq_decide];exact e _⟩
theorem own_below {w w':World} {base e sz n:Nat} {v:Value} {xs:List Value} (h:w.ownsRow base e sz v n xs) (hb:Below w.heap.size w w'):w'.ownsRow base e sz v n xs:=by
  refine ⟨h.1,?_⟩
  rcases h.2 with hl | ⟨g,cap,cur,rfl,hg,hbl,rest⟩
  · exact .inl hl
  · exact .inr ⟨g,cap,cur,rfl,hg,(hb.block g (lt_of_block hbl)).trans hbl,rest⟩

theorem PBox.set1 {w:World} {B:Nat} {b m m':Int} (h:PBox w B b m):PBox (w.setCell ⟨B,1,none⟩ (.int .i64 m')) B b m':=heap_setCell_same _ _ 1 _ _ (.int .i64 m') h
theorem PBox.free {w:World} {B:Nat} {b m:Int} (h:PBox w B b m) (j:Nat):w.frozen? ⟨B,j,none⟩=false:=by
  unfold PBox at h
  simp [World.frozen?,h]
structure RSt (w wr:World) (S:List Int) (l:List (Int×Nat)) (v:Value) (j:Nat):Prop where
  below:Below w.heap.size w wr
  has:HasB wr w.heap.size S
  own:wr.ownsRow w.heap.size 78 2 v l.length (pc (pr l))
  is:l=pairs (low S j)
  shut:Shut l j

set_option maxHeartbeats 8000000 in
set_option maxRecDepth 100000 in
theorem rpairs_good (a:Option Addr) (n cap:Nat) (L:List Int) (w:World) (h:IArg w a n L) (hn:n≤200) :
    Calls Tryz.prog 30 #[.slice a n cap] w fun e w'=>∃ a' m c',e=.returned (.tuple #[.slice a' m c',.int .i64 (pfault L:Int)])∧PArg w' a' m (pr (prsOf L))∧(a'=none→m=0∧c'=0)∧Below w.heap.size w w':=by
  obtain ⟨i0,hii,hz0,hz1,hz2⟩:=info_parts infoPR
  have hl:=h.2.1
  have HA:=hidden h
  have d:decide (200<(n:Int))=false:=by simp;omega
  have HBAD:Hid ((∃ x,x∈L∧inR x=false)→pfault L=1∧prsOf L=[]):=fun ⟨x,hx,hb⟩=>by
    have e:pfault L=1:=by
      unfold pfault
      rw [if_neg (by omega),if_pos]
      rw [List.any_eq_true]
      exact ⟨x,hx,by rw [hb];rfl⟩
    exact ⟨e,by rw [prsOf,if_neg (by rw [e];decide)]⟩
  have HGOOD:Hid ((∀ x∈L,inR x=true)→pfault L=0∧prsOf L=pairs (norm L)):=fun hg=>by
    have e:pfault L=0:=by
      unfold pfault
      rw [if_neg (by omega),if_neg]
      rw [Bool.not_eq_true,List.any_eq_false]
      intro x hx
      rw [hg x hx]
      decide
    exact ⟨e,by rw [prsOf,if_pos e]⟩
  obtain ⟨hris,hmem⟩:=norm_of L
  have HRIS:=hidden hris
  have HMEM:=hidden hmem
  have HNLEN:=hidden (norm_len L)
  clear h hris hmem
  generalize norm L=S at *
  generalize pfault L=F at *
  generalize prsOf L=PL at *
  have HH0:=hidden (HasB.new w)
  have HB0:Hid (Below w.heap.size w (w.alloc (.cells Tryz.zeroCells119 119))):=(Below.refl _ _).alloc (Nat.le_refl _) _
  go_enter Tryz.func30,Tryz.ntmps30
  go_wp2_with fail
  go_loopg [5] n (fun g y wr=>∃ (i:Nat),i+g=n∧y=.int .i64 (i:Int)∧Hid (Below w.heap.size w wr∧HasB wr w.heap.size (L.take i)∧∀ x∈L.take i,inR x=true))
  case atStart=>exact ⟨0,by omega,rfl,HB0.out,HH0.out,fun x hx=>by simp at hx⟩
  case round=>
    obtain ⟨i,hig,rfl,HS⟩:=hrel
    by_cases hi:i<n
    · have hiz:(i:Int)<(n:Int):=by omega
      obtain ⟨b,o,rfl,hcs⟩:=(HA.out.below HS.out.1).at (by omega)
      have hc:=hcs i hi
      obtain ⟨x,hx⟩:∃ x,L.getD i 0=x:=⟨_,rfl⟩
      rw [hx] at hc
      have HTK:Hid (L.take (i+1)=L.take i++[x]):=by
        show _=_
        rw [← hx,List.getD_eq_getElem?_getD,List.getElem?_eq_getElem (by omega),Option.getD_some,List.take_append_getElem (by omega)]
      have HXM:Hid (x∈L):=by rw [← hx];exact getD_mem (by omega)
      have HSQ:=hidden (fun W=>rseq_calls x W)
      clear hcs hx
      obtain ⟨q,hq⟩:∃ q,inR x=q:=⟨_,rfl⟩
      rw [hq] at HSQ
      have HQ:=hidden hq
      cases q with
      | false=>
        obtain ⟨e1,e2⟩:=HBAD.out ⟨x,HXM.out,HQ.out⟩
        subst e1 e2
        clear hq
        go_wp2_with fail
        refine (HSQ.out _).mono ?_
        rintro e w1 ⟨rfl,rfl⟩
        go_wp2_with fail
        go_ret2
        exact ⟨none,0,0,rfl,PArg.nil _ _,fun _=>⟨rfl,rfl⟩,HS.out.1⟩
      | true=>
        have hxr:0≤x∧x≤65535:=by simpa [inR] using hq
        obtain ⟨y,rfl⟩:∃ y:Nat,x=y:=⟨x.toNat,by omega⟩
        have hy0:(0:Int)≤(y:Int):=by omega
        have hy1:(y:Int)<65536:=by omega
        have hcy:=HS.out.2.1.cell (j:=y) (by omega)
        have hfy:=HS.out.2.1.free y
        have HSn:Hid (Below w.heap.size w (wr.setCell ⟨w.heap.size,y,none⟩ (.bool true))∧HasB (wr.setCell ⟨w.heap.size,y,none⟩ (.bool true)) w.heap.size (L.take (i+1))∧∀ x∈L.take (i+1),inR x=true):=by
          refine ⟨HS.out.1.setCell (Nat.le_refl _) _,by rw [HTK.out];exact HS.out.2.1.set (by omega),fun x hx=>?_⟩
          rw [HTK.out] at hx
          rcases List.mem_append.1 hx with hx | hx
          · exact HS.out.2.2 x hx
          · obtain rfl:=List.mem_singleton.1 hx;exact HQ.out
        obtain ⟨hh,hhe⟩:∃ z,decide ((y:Int)∈L.take i)=z:=⟨_,rfl⟩
        rw [hhe] at hcy
        clear hhe hq
        go_wp2_with fail
        refine (HSQ.out _).mono ?_
        rintro e w1 ⟨rfl,rfl⟩
        go_wp2_with fail
        go_roundg (n - (i+1))
        case measure=>omega
        case rel=>exact ⟨i+1,by omega,by go_num,HSn⟩
    · have hiz:¬ (i:Int)<(n:Int):=by omega
      have hall:∀ x∈L,inR x=true:=by
        have:=HS.out.2.2
        rw [List.take_of_length_le (by omega)] at this
        exact this
      obtain ⟨e1,e2⟩:=HGOOD.out hall
      have HL:=HS.out.2.1
      rw [List.take_of_length_le (by omega)] at HL
      have HSR:Hid (∀ x∈S,0≤x∧x≤65535):=fun x hx=>by
        have:=hall x ((HMEM.out x).1 hx)
        simpa [inR] using this
      have HR0:Hid (RSt w wr S [] (.slice none 0 0) 0):=by
        refine ⟨HS.out.1,HL.same (fun x=>(HMEM.out x).symm),World.ownsRow_nil _ _ _ _,?_,fun K p e=>by simp at e⟩
        have:=low_zero (S:=S) (fun x hx=>(HSR.out x hx).1)
        rw [show ((0:Nat):Int)=0 from rfl,this]
        rfl
      subst e1 e2
      clear hall HL HBAD HGOOD
      go_wp2_with fail
      go_loopg [7,8] 65536 (fun g x y wz=>∃ (j:Nat) (v:Value) (l:List (Int×Nat)),65536 - j≤g∧j≤65552∧x=v∧y=.int .i64 (j:Int)∧Hid (RSt w wz S l v j))
      case atStart=>exact ⟨0,_,[],by omega,by omega,rfl,rfl,HR0⟩
      case round=>
        obtain ⟨j,v,l,hjg,hjm,rfl,rfl,HR⟩:=hrel
        by_cases hj:j<65536
        · have hjz:(j:Int)<65536:=by omega
          have hj0:(0:Int)≤(j:Int):=by omega
          have hcj:=HR.out.has.cell hj
          obtain ⟨q,hq⟩:∃ q,decide ((j:Int)∈S)=q:=⟨_,rfl⟩
          rw [hq] at hcj
          have HQ:=hidden hq
          clear hq
          cases q with
          | false=>
            have HRn:Hid (RSt w wr S l _ (j+1)):=⟨HR.out.below,HR.out.has,HR.out.own,by
              have:=HR.out.is
              rw [show ((j+1:Nat):Int)=(j:Int)+1 by omega,low_no (of_decide_eq_false HQ.out)]
              exact this,by
              have:=shut_next HR.out.shut
              rw [show ((j+1:Nat):Int)=(j:Int)+1 by omega]
              exact this⟩
            go_wp2_with fail
            go_roundg (65536 - (j+1))
            case measure=>omega
            case rel=>exact ⟨j+1,_,l,by omega,by omega,rfl,by go_num,HRn⟩
          | true=>
            have hjs:(j:Int)∈S:=of_decide_eq_true HQ.out
            have HPL:Hid (pairs (low S (j+17))=l++[((j:Int),mr (fun i=>decide ((j:Int)+1+(i:Int)∈S)) 16)]∧Shut (pairs (low S (j+17))) (j+17)):=by
              have h1:=HR.out.is
              have h2:=pairs_low HRIS.out hjs (by rw [← h1];exact HR.out.shut)
              rw [← h1] at h2
              exact h2
            have HPR:Hid (∀ q:Nat,¬ ((j:Int)+((q:Int)+1)<65536)→(decide ((j:Int)+1+(q:Int)∈S))=false):=fun q hq=>by
              rw [decide_eq_false_iff_not]
              intro hm
              have:=HSR.out _ hm
              omega
            have hll:l.length≤200:=by
              have h1:=(told_len l).1
              have hf:=fit_pairs (low S j) (List.Pairwise.filter _ HRIS.out)
              rw [← HR.out.is] at hf
              rw [hf.told] at h1
              have h2:=List.length_filter_le (fun x=>decide (x<(j:Int))) S
              have h3:=HNLEN.out
              unfold low at h1
              omega
            obtain ⟨P,hP⟩:∃ P:Nat→Bool,P=fun (i:Nat)=>decide ((j:Int)+1+(i:Int)∈S):=⟨_,rfl⟩
            rw [← hP] at HPL
            have HPE:Hid (∀ q,P q=decide ((j:Int)+1+(q:Int)∈S)):=fun q=>by rw [hP]
            clear hP hjs
            obtain ⟨wo,rfl⟩:∃ x,x=wr:=⟨_,rfl⟩
            have HX0:=hidden (PBox.new wo j 0)
            have HB1:Hid (Below wo.heap.size wo (wo.alloc (.cells #[.int .i64 (j:Int),.int .i64 0] 78))):=(Below.refl _ _).alloc (Nat.le_refl _) _
            have hgo:=HR.out.has.lt
            go_wp2_with fail
            go_loopg [10,11] 16 (fun g x y wz=>∃ (q:Nat),q+g=16∧x=.int .i64 ((2 ^ q:Nat):Int)∧y=.int .i64 ((q:Int)+1)∧Hid (Below wo.heap.size wo wz∧PBox wz wo.heap.size j (mr P q)))
            case atStart=>exact ⟨0,by omega,rfl,rfl,HB1.out,HX0.out⟩
            case round=>
              obtain ⟨q,hqg,rfl,rfl,HW⟩:=hrel
              have HXw:=hidden HW.out.2
              obtain ⟨cb,cm⟩:=HXw.out.cells
              have fm:=HXw.out.free 1
              by_cases hq:q<16
              · have hqz:(q:Int)+1≤16:=by omega
                obtain ⟨by',hby⟩:∃ x,2 ^ q=x:=⟨_,rfl⟩
                have hbl:by'≤32768:=by rw [← hby];exact Nat.pow_le_pow_right (n:=2) (j:=15) (by decide) (by omega)
                have HBY:Hid (2 ^ (q+1)=by'*2):=hidden (by rw [← hby,Nat.pow_succ])
                obtain ⟨mq,hmq⟩:∃ x,mr P q=x:=⟨_,rfl⟩
                have hml:mq<65536:=by
                  rw [← hmq]
                  exact Nat.lt_of_lt_of_le (mr_lt P q) (Nat.pow_le_pow_right (n:=2) (j:=16) (by decide) (by omega))
                have HMY:Hid (P q=true→mr P (q+1)=mq+by'):=fun hp=>by rw [mr,if_pos hp,hmq,hby]
                have HMN:Hid (P q=false→mr P (q+1)=mq):=fun hp=>by rw [mr,if_neg (by rw [hp];decide),hmq]
                rw [hmq] at cm
                rw [hby]
                have HMQ:=hidden hmq
                clear hmq hby
                by_cases hg:(j:Int)+((q:Int)+1)<65536
                · have hcq:=(HR.out.has.below HW.out.1 hgo).cell (j:=j+(q+1)) (by omega)
                  have eP:decide (((j+(q+1):Nat):Int)∈S)=P q:=by
                    rw [HPE.out q]
                    congr 2
                    omega
                  rw [eP] at hcq
                  obtain ⟨pq,hpq⟩:∃ x,P q=x:=⟨_,rfl⟩
                  rw [hpq] at hcq
                  have HPQ:=hidden hpq
                  clear hpq eP
                  have hg0:(0:Int)≤(j:Int)+((q:Int)+1):=by omega
                  cases pq with
                  | true=>
                    have HWn:Hid (Below wo.heap.size wo (wr.setCell ⟨wo.heap.size,1,none⟩ (.int .i64 ((mq:Int)+(by':Int))))∧PBox (wr.setCell ⟨wo.heap.size,1,none⟩ (.int .i64 ((mq:Int)+(by':Int)))) wo.heap.size j (mr P (q+1))):=by
                      refine ⟨HW.out.1.setCell (Nat.le_refl _) _,?_⟩
                      rw [HMY.out HPQ.out,show ((mq+by':Nat):Int)=(mq:Int)+(by':Int) by omega]
                      exact HXw.out.set1
                    go_wp2_with fail
                    go_roundg (16 - (q+1))
                    case measure=>omega
                    case rel=>exact ⟨q+1,by omega,by rw [HBY.out];go_num,by go_num,HWn⟩
                  | false=>
                    have HWn:Hid (Below wo.heap.size wo wr∧PBox wr wo.heap.size j (mr P (q+1))):=⟨HW.out.1,by rw [HMN.out HPQ.out,← HMQ.out];exact HXw.out⟩
                    go_wp2_with fail
                    go_roundg (16 - (q+1))
                    case measure=>omega
                    case rel=>exact ⟨q+1,by omega,by rw [HBY.out];go_num,by go_num,HWn⟩
                · have hpq:P q=false:=by rw [HPE.out q];exact HPR.out q (by omega)
                  have HWn:Hid (Below wo.heap.size wo wr∧PBox wr wo.heap.size j (mr P (q+1))):=⟨HW.out.1,by rw [HMN.out hpq,← HMQ.out];exact HXw.out⟩
                  clear hpq
                  go_wp2_with fail
                  go_roundg (16 - (q+1))
                  case measure=>omega
                  case rel=>exact ⟨q+1,by omega,by rw [HBY.out];go_num,by go_num,HWn⟩
              · have hqz:¬ ((q:Int)+1≤16):=by omega
                have eq16:q=16:=by omega
                subst eq16
                have HOW:=hidden (own_below HR.out.own HW.out.1)
                have HHW:=hidden (HR.out.has.below HW.out.1 hgo)
                have HBW:=hidden (HR.out.below.trans (HW.out.1.mono HR.out.below.size))
                obtain ⟨mm,hmm⟩:∃ x,mr P 16=x:=⟨_,rfl⟩
                rw [hmm] at cm
                have HMM:=hidden hmm
                clear hmm
                go_wp2_with (at_builtin;refine wpList_append_own _ rfl _ _ 74 rfl w.heap.size 78 i0 _ 2 16 Tryz.underlying74 hii hz0 hz1 hz2 rfl (by decide) _ l.length (pc (pr l)) rfl (HOW.out.alloc _) ⟨wr.heap.size,0,none⟩ 1 1 [.int .i64 (j:Int),.int .i64 (mm:Int)] rfl rfl ?cc ?one ?b1 ?b2 ?b3 ?next)
                case one=>simp [Value.oneCell']
                case b1=>unfold maxLen;omega
                case b2=>omega
                case b3=>have:=HBW.out.size;simp;omega
                case next=>
                intro v3 w' hown hgrow _
                have HRn:Hid (RSt w w' S (l++[((j:Int),mr P 16)]) v3 (j+17)):=by
                  refine ⟨(HBW.out.alloc HBW.out.size _).grown hgrow (by have:=HBW.out.size;simp;omega) (fun x hx=>(HOW.out.lt x hx).1),(HHW.out.alloc _).grown (HOW.out.alloc _) hgrow,?_,?_,?_⟩
                  · rw [List.length_append,pr_app,pc_app,HMM.out]
                    exact hown
                  · rw [← HPL.out.1];rfl
                  · rw [← HPL.out.1];exact HPL.out.2
                clear hown hgrow
                go_wp2_with fail
                go_roundg (65536 - (j+17))
                case measure=>omega
                case rel=>exact ⟨j+17,_,_,by omega,by omega,rfl,by go_num,HRn⟩
        · have hjz:¬ (j:Int)<65536:=by omega
          have hll:l.length≤9223372036854775807:=by
            have h1:=(told_len l).1
            have hf:=fit_pairs (low S j) (List.Pairwise.filter _ HRIS.out)
            rw [← HR.out.is] at hf
            rw [hf.told] at h1
            have h2:=List.length_filter_le (fun x=>decide (x<(j:Int))) S
            have h3:=HNLEN.out
            unfold low at h1
            omega
          obtain ⟨a',c',rfl,hP,hn0,_⟩:=own_prs HR.out.own hll
          have HN0:=hidden hn0
          have HPP:=hidden hP
          clear hn0 hP
          have his:=HR.out.is
          rw [low_all (fun x hx=>by have:=HSR.out x hx;omega)] at his
          have HIS:=hidden his
          clear his
          go_wp2_with fail
          go_ret2
          exact ⟨a',l.length,c',rfl,by rw [← HIS.out];exact HPP.out,HN0.out,HR.out.below⟩
end Go.Proofs.YtlppdppddiecnaaGreatDoor.Back
