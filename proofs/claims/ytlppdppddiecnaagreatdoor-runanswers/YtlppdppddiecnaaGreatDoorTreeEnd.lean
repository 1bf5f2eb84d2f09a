/-
  TreeD, TreeE, TreeF, TreeG, TreeH, TreeI, TreeJ in one text.
-/
import Derived.Test.YtlppdppddiecnaaGreatDoorTreeAll
import Derived.Deep.RegionLaw
import Derived.Laws.NewBlocks
import Derived.Deep.WholeRow

namespace Go.Proofs.YtlppdppddiecnaaGreatDoor.Tree
open Go.ChangeShapes Go.WideShapes Go.ChangeAt Go.RowKit Go.Proofs.YtlppdppddiecnaaGreatDoor.Mem Go.Proofs.YtlppdppddiecnaaGreatDoor.TM
set_option linter.unusedVariables false

theorem upto16 {n:Nat} (hn:n≤16):n=0∨n=1∨n=2∨n=3∨n=4∨n=5∨n=6∨n=7∨n=8∨n=9∨n=10∨n=11∨n=12∨n=13∨n=14∨n=15∨n=16:=by omega
set_option maxHeartbeats 2000000 in
set_option maxRecDepth 100000 in
theorem mul64_calls (n:Nat) (hn:n≤16) (w:World):Calls Tryz.prog 209 #[.int .u64 1,.int .u64 (n:Int)] w fun e w'=>e=.returned (.tuple #[.int .u64 0,.int .u64 (n:Int)])∧w'=w:=by
  have h1:bits .and .u64 (n:Int) 4294967295=(n:Int):=by
    rcases upto16 hn with rfl | rfl | rfl | rfl | rfl | rfl | rfl | rfl | rfl | rfl | rfl | rfl | rfl | rfl | rfl | rfl | rfl<;>rfl
  go_enter Tryz.func209,Tryz.ntmps209
  go_wp2_with fail
  go_ret2
  clear h1
  refine ⟨?_,rfl⟩
  rcases upto16 hn with rfl | rfl | rfl | rfl | rfl | rfl | rfl | rfl | rfl | rfl | rfl | rfl | rfl | rfl | rfl | rfl | rfl<;>rfl
set_option maxHeartbeats 2000000 in
set_option maxRecDepth 100000 in
theorem mul_calls (n:Nat) (hn:n≤16) (w:World):Calls Tryz.prog 185 #[.int .u64 1,.int .u64 (n:Int)] w fun e w'=>e=.returned (.tuple #[.int .u64 0,.int .u64 (n:Int)])∧w'=w:=by
  have C:=hidden (mul64_calls n hn w)
  go_enter Tryz.func185,Tryz.ntmps185
  go_wp2_with fail
  refine C.out.mono ?_
  rintro e w1 ⟨rfl,rfl⟩
  go_wp2_with fail
  go_ret2
  exact ⟨rfl,rfl⟩

def RowI (w:World) (g:Nat) (L:List Int):Prop:=w.heap[g]?=some (.cells (ic L).toArray 3 (0,0))
theorem RowI.lt {w:World} {g:Nat} {L:List Int} (h:RowI w g L):g<w.heap.size:=lt_of_block h
theorem RowI.own {w:World} {g base:Nat} {L:List Int} (h:RowI w g L) (hb:base≤g) (hn:L.length≤1000):w.ownsRow base 3 1 (.slice (some ⟨g,0,none⟩) L.length L.length) L.length (ic L):=
  ⟨by rw [ic_len,Nat.mul_one],.inr ⟨g,L.length,_,rfl,hb,h,Nat.le_refl _,by unfold maxLen;omega,by simp [ic_len],by show (ic L).take _=_;rw [List.take_of_length_le (by rw [ic_len];omega)]⟩⟩
theorem copy_cells {P:Program} (w:World) (dT sT ty elem:TypeId) (g o dLen dCap:Nat) (a:Addr) (sLen sCap sz k:Nat) (cur:Array Value) (t:TypeId) (cs:List Value)
    (hu:P.underlying dT=some (.slice elem)) (hs:(P.info? elem).map (·.size)=some sz)
    (hg:w.heap[g]?=some (.cells cur t (0,0))) (hk:Nat.min sLen dLen=k) (hn:cs.length=k*sz)
    (hsrc:∀ j v,cs[j]?=some v→w.cell? (a.add j)=some v) (hfit:o+cs.length≤cur.size) (h1:∀ v∈cs,v.oneCell'=true) :
    (Builtin.copy_ #[dT,sT] ty #[.slice (some ⟨g,o,none⟩) dLen dCap,.slice (some a) sLen sCap]).run P w =
      .ok (goInt k) (w.setRow g (cur.toList.take o++cs++cur.toList.drop (o+cs.length)).toArray):=by
  have hl:=run_loadCells_list (P:=P) w a cs hsrc
  have hst:=run_storeCells_at P g o t cs 0 cur w hg (by simpa using hfit) h1
  cases hq:P.info? elem with
  | none=>simp [hq] at hs
  | some i=>
    have hi:i.size=sz:=by simpa [hq] using hs
    simp [Builtin.copy_,run_underlying hu,Builtin.lenOf,Builtin.firstCells,sizeOf,typeInfo,hq,hi,hk,← hn,hl,hst]
def rz (c n:Nat):List Int:=List.replicate c (-1)++List.replicate (n - c) 0
theorem rz_len {c n:Nat} (h:c≤n):(rz c n).length=n:=by simp [rz];omega
theorem rz_all (n:Nat):rz n n=List.replicate n (-1):=by simp [rz]
theorem ic_rep (n:Nat) (x:Int):ic (List.replicate n x)=List.replicate n (.int .i64 x):=by simp [ic]
theorem rz_more {c k n:Nat} (h:c+k≤n):(ic (rz c n)).take c++List.replicate k (.int .i64 (-1))++(ic (rz c n)).drop (c+k)=ic (rz (c+k) n):=by
  unfold rz
  rw [ic_app,ic_app,ic_rep,ic_rep,ic_rep,ic_rep,List.take_left' (by simp),← List.drop_drop,List.drop_left' (by simp),List.drop_replicate,List.replicate_append_replicate]
  congr 2
  omega
theorem size3:(Tryz.prog.info? 3).map (·.size)=some 1:=by kernel_rfl
theorem made_rz (n:Nat):madeCells #[Value.int .i64 0] n=(ic (rz 0 n)).toArray:=by
  apply Array.toList_inj.1
  rw [toList_madeCells_one]
  simp [rz,ic_rep]
theorem setRow_rowI {w:World} {g:Nat} {L K:List Int} (h:RowI w g L):RowI (w.setRow g (ic K).toArray) g K:=setRow_heap _ g _ _ 3 _ h
theorem below_setRow {w wr:World} {g:Nat} (h:Below w.heap.size w wr) (hg:w.heap.size≤g) (c:Array Value):Below w.heap.size w (wr.setRow g c):=
  ⟨h.os,h.tape,h.output,by have:=h.size;simpa using this,fun k hk=>(setRow_other _ g k _ (by omega)).trans (h.block k hk)⟩
set_option maxHeartbeats 4000000 in
set_option maxRecDepth 100000 in
theorem rep_calls (g0 n:Nat) (w:World) (h0:w.heap[g0]?=some (.cells #[.int .i64 (-1)] 3 (0,0))) (h1:1≤n) (hn:n≤16) :
    Calls Tryz.prog 152 #[.slice (some ⟨g0,0,none⟩) 1 1,.int .i64 (n:Int)] w fun e w'=>∃ g,e=.returned (.slice (some ⟨g,0,none⟩) n n)∧w'.ownsRow w.heap.size 3 1 (.slice (some ⟨g,0,none⟩) n n) n (ic (List.replicate n (-1)))∧Below w.heap.size w w':=by
  have C:=hidden (mul_calls n hn w)
  obtain ⟨w1,hw1⟩:∃ w1,w.alloc (.cells (madeCells #[.int .i64 0] n) 3)=w1:=⟨_,rfl⟩
  obtain ⟨i0,hii,hz0,hz1,hz2⟩:=info_parts info3
  have hmk:(Instr.makeSlice 47 (.int .i64 (n:Int)) (.int .i64 (n:Int))).run Tryz.prog w=.ok (.slice (some ⟨w.heap.size,0,none⟩) n n) w1:=by
    have:=run_make (P:=Tryz.prog) w 47 3 i0 _ Tryz.underlying47 hii hz0 .i64 .i64 (n:Int) (n:Int) (by omega) (by omega) (by rw [hz2];omega) (by omega)
    rw [Int.toNat_natCast,hz1,Nat.mul_one] at this
    rw [← hw1]
    exact this
  clear hii hz0 hz1 hz2
  have hB1:Below w.heap.size w w1:=by rw [← hw1];exact below_alloc (Below.refl _ _) _
  have hR1:RowI w1 w.heap.size (rz 0 n):=by rw [← hw1,made_rz];exact heap_alloc_new w _
  have hs0:w1.heap[g0]?=some (.cells #[.int .i64 (-1)] 3 (0,0)):=(hB1.block g0 (lt_of_block h0)).trans h0
  have hcp1:∀ ty,(Builtin.copy_ #[47,47] ty #[.slice (some ⟨w.heap.size,0,none⟩) n n,.slice (some ⟨g0,0,none⟩) 1 1]).run Tryz.prog w1=.ok (goInt ((1:Nat):Int)) (w1.setRow w.heap.size (ic (rz 1 n)).toArray):=fun ty=>by
    have:=copy_cells (P:=Tryz.prog) w1 47 47 ty 3 w.heap.size 0 n n ⟨g0,0,none⟩ 1 1 1 1 _ 3 [.int .i64 (-1)] Tryz.underlying47 size3 hR1 (by simp only [Nat.min_def];split<;>omega) rfl (World.news_of_block hs0) (by simp [ic_len,rz_len];omega) (by simp [Value.oneCell'])
    have e:=rz_more (c:=0) (k:=1) (n:=n) (by omega)
    rw [this]
    congr 2
    rw [← e]
    rfl
  obtain ⟨w2,hw2⟩:∃ w2,w1.setRow w.heap.size (ic (rz 1 n)).toArray=w2:=⟨_,rfl⟩
  have HB2:Hid (Below w.heap.size w w2):=by rw [← hw2];exact hidden (below_setRow hB1 (Nat.le_refl _) _)
  have HR2:Hid (RowI w2 w.heap.size (rz 1 n)):=by rw [← hw2];exact hidden (setRow_rowI hR1)
  rw [hw2] at hcp1
  clear hw1 hw2 hR1 hs0 hB1 h0
  have dn:decide ((n:Int)<0)=false:=by simp
  go_enter Tryz.func152,Tryz.ntmps152
  go_wp2_with fail
  refine C.out.mono ?_
  rintro e w' ⟨rfl,rfl⟩
  go_wp2_with fail
  go_loopg [8] n (fun g x wr=>∃ c:Nat,n - c≤g∧c≤n∧1≤c∧x=.int .i64 (c:Int)∧Hid (RowI wr w'.heap.size (rz c n))∧Hid (Below w'.heap.size w' wr))
  case atStart=>exact ⟨1,by omega,by omega,by omega,rfl,HR2,HB2⟩
  case round=>
    obtain ⟨c,hcg,hcn,hc1,rfl,HR,HB⟩:=hrel
    by_cases hc:c<n
    · have hcz:(c:Int)<(n:Int):=by omega
      have hne:¬ n=c:=by omega
      obtain ⟨k,hk,hk1,hkn⟩:∃ k,Nat.min c (n - c)=k∧1≤k∧c+k≤n:=⟨_,rfl,by simp only [Nat.min_def];split<;>omega,by simp only [Nat.min_def];split<;>omega⟩
      have hkc:k≤c:=by rw [← hk];exact Nat.min_le_left _ _
      have hcp:∀ ty dc sc,(Builtin.copy_ #[47,47] ty #[.slice (some ⟨w'.heap.size,c,none⟩) (n - c) dc,.slice (some ⟨w'.heap.size,0,none⟩) c sc]).run Tryz.prog wr.drew=.ok (goInt (k:Int)) (wr.drew.setRow w'.heap.size (ic (rz (c+k) n)).toArray):=fun ty dc sc=>by
        have:=copy_cells (P:=Tryz.prog) wr.drew 47 47 ty 3 w'.heap.size c (n - c) dc ⟨w'.heap.size,0,none⟩ c sc 1 k _ 3 (List.replicate k (.int .i64 (-1))) Tryz.underlying47 size3 HR.out hk (by simp) (fun j v hj=>?_) (by simp [ic_len,rz_len (Nat.le_of_lt hc)];omega) (by simp [Value.oneCell'])
        · have e:=rz_more (c:=c) (k:=k) (n:=n) hkn
          rw [this]
          congr 2
          rw [← e,List.length_replicate]
        · have hjl:j<k:=by
            rcases Nat.lt_or_ge j k with h | h
            · exact h
            · rw [List.getElem?_eq_none (by simpa using h)] at hj;simp at hj
          rw [add_plain,Nat.zero_add]
          show wr.cell? _=_
          have hcell:=cell_of_row wr w'.heap.size j _ 3 (0,0) HR.out
          rw [hcell,← hj]
          simp only [List.getElem?_toArray]
          unfold rz
          rw [ic_app,ic_rep,List.getElem?_append_left (by simp;omega),List.getElem?_replicate,List.getElem?_replicate,if_pos (by omega),if_pos hjl]
      have HR2:Hid (RowI (wr.drew.setRow w'.heap.size (ic (rz (c+k) n)).toArray) w'.heap.size (rz (c+k) n)):=setRow_rowI (w:=wr.drew) HR.out
      have HB2:Hid (Below w'.heap.size w' (wr.drew.setRow w'.heap.size (ic (rz (c+k) n)).toArray)):=below_setRow (HB.out.drew) (Nat.le_refl _) _
      obtain ⟨W,hW⟩:∃ W,wr.drew.setRow w'.heap.size (ic (rz (c+k) n)).toArray=W:=⟨_,rfl⟩
      rw [hW] at hcp HR2 HB2
      clear hW hk
      go_wp2_with fail
      go_region
      go_wp2_with fail
      go_roundg (n - (c+k))
      case measure=>omega
      case rel=>exact ⟨c+k,by omega,by omega,by omega,by go_num,HR2,HB2⟩
    · have hcz:¬ (c:Int)<(n:Int):=by omega
      obtain rfl:c=n:=by omega
      have ho:=HR.out.own (base:=w'.heap.size) (Nat.le_refl _) (by rw [rz_len (Nat.le_refl _)];omega)
      rw [rz_len (Nat.le_refl _),rz_all] at ho
      have HO:=hidden ho
      clear ho
      go_wp2_with fail
      go_ret
      exact ⟨w'.heap.size,rfl,HO.out,HB.out⟩

structure RSt (w wr:World) (base g n cap:Nat) (L K:List Int) (i:Nat):Prop where
  only:Only [g] w wr
  own:wr.ownsRow base 3 1 (.slice (some ⟨g,0,none⟩) n cap) n (ic K)
  at_:∀ x,x<n→dg K x=if x<i∨n≤x+i then dg L (n - 1 - x) else dg L x
theorem own_dg {w:World} {base g n cap:Nat} {L:List Int} (h:w.ownsRow base 3 1 (.slice (some ⟨g,0,none⟩) n cap) n (ic L)) {j:Nat} (hj:j<n):w.cell? ⟨g,j,none⟩=some (.int .i64 (dg L j)):=by
  have hl:L.length=n:=by have:=h.1;rw [ic_len] at this;omega
  rw [h.cellAt j (by omega),ic_get L j (by omega)]
theorem own_set {w:World} {base g n cap:Nat} {L:List Int} (h:w.ownsRow base 3 1 (.slice (some ⟨g,0,none⟩) n cap) n (ic L)) (j:Nat) (x:Int):(w.setCell ⟨g,j,none⟩ (.int .i64 x)).ownsRow base 3 1 (.slice (some ⟨g,0,none⟩) n cap) n (ic (L.set j x)):=by
  have:=(h.stored j (.int .i64 x)).1
  rwa [show (ic L).set j (.int .i64 x)=ic (L.set j x) by simp [ic]] at this
theorem own_ln {w:World} {base n:Nat} {v:Value} {L:List Int} (h:w.ownsRow base 3 1 v n (ic L)):L.length=n:=by have:=h.1;rw [ic_len] at this;omega
theorem RSt.swap {w wr:World} {base g n cap i:Nat} {L K:List Int} (h:RSt w wr base g n cap L K i) (hi:i<n - 1 - i) :
    RSt w ((wr.setCell ⟨g,i,none⟩ (.int .i64 (dg K (n - 1 - i)))).setCell ⟨g,n - 1 - i,none⟩ (.int .i64 (dg K i))) base g n cap L ((K.set i (dg K (n - 1 - i))).set (n - 1 - i) (dg K i)) (i+1):=by
  have hl:=own_ln h.own
  refine ⟨(h.only.setCell (by simp) _).setCell (by simp) _,own_set (own_set h.own _ _) _ _,fun x hx=>?_⟩
  rw [dg_set (by rw [List.length_set];omega),dg_set (by omega),h.at_ i (by omega),h.at_ (n - 1 - i) (by omega),h.at_ x hx]
  by_cases e1:x=n - 1 - i
  · rw [if_pos e1,if_neg (by omega),if_pos (by omega),show n - 1 - x=i by omega]
  · rw [if_neg e1]
    by_cases e2:x=i
    · rw [if_pos e2,if_neg (by omega),if_pos (by omega),e2]
    · rw [if_neg e2]
      by_cases e3:x<i∨n≤x+i
      · rw [if_pos e3,if_pos (by omega)]
      · rw [if_neg e3,if_neg (by omega)]
theorem dg_reverse {L:List Int} {x:Nat} (h:x<L.length):dg L.reverse x=dg L (L.length - 1 - x):=by
  simp [dg,List.getD_eq_getElem?_getD,List.getElem?_reverse h]
theorem RSt.done {w wr:World} {base g n cap i:Nat} {L K:List Int} (h:RSt w wr base g n cap L K i) (hL:L.length=n) (hi:¬ i<n - 1 - i):K=L.reverse:=by
  have hl:=own_ln h.own
  refine dg_ext (by simp;omega) fun x hx=>?_
  rw [dg_reverse (by omega),hL,h.at_ x (by omega)]
  split
  · rfl
  · congr 1;omega

def pl (P:List Int) (x:Int):List Int:=if bf P x=0 then (wu P P.length x).reverse else []
theorem pl_len (P:List Int) (x:Int):(pl P x).length≤16:=by
  unfold pl
  split
  · rename_i h
    have:=(bf_zero h).1.len
    have:=wu_le P P.length x
    simp
    omega
  · simp

def Mat (C:Array Value) (F:Nat→Nat→Int):Prop:=C.size=256∧∀ x y,x<16→y<16→C[x*16+y]?=some (.int .i64 (F x y))
theorem Mat.one {C:Array Value} {F:Nat→Nat→Int} (h:Mat C F):C.all (·.oneCell')=true:=by
  rw [Array.all_eq_true]
  intro i hi
  have h1:=h.2 (i / 16) (i%16) (by have:=h.1;omega) (Nat.mod_lt _ (by omega))
  rw [show i / 16*16+i%16=i by omega,Array.getElem?_eq_getElem hi,Option.some.injEq] at h1
  rw [h1];rfl
theorem Mat.ext {C:Array Value} {F G:Nat→Nat→Int} (h:Mat C F) (e:∀ x y,x<16→y<16→F x y=G x y):Mat C G:=
  ⟨h.1,fun x y hx hy=>by rw [← e x y hx hy];exact h.2 x y hx hy⟩
theorem Mat.set {C:Array Value} {F:Nat→Nat→Int} (h:Mat C F) {a b:Nat} (ha:a<16) (hb:b<16) (v:Int):Mat (C.setIfInBounds (a*16+b) (.int .i64 v)) (fun x y=>if x=a∧y=b then v else F x y):=by
  refine ⟨by simpa using h.1,fun x y hx hy=>?_⟩
  rw [Array.getElem?_setIfInBounds]
  show _=some (Value.int .i64 (if x=a∧y=b then v else F x y))
  by_cases e:a*16+b=x*16+y
  · rw [if_pos e,if_pos (by have:=h.1;omega),if_pos (by omega)]
  · rw [if_neg e,h.2 x y hx hy,if_neg (by omega)]
def zs:Array Value:=Array.replicate 256 (.int .i64 0)
theorem mat_zero:Mat zs (fun _ _=>0):=by
  refine ⟨by simp [zs],fun x y hx hy=>?_⟩
  unfold zs
  rw [Array.getElem?_replicate,if_pos (by omega)]
theorem zeroM (w:World):(zeroValue 209).run Tryz.prog w=.ok (.agg zs) w:=by kernel_rfl
theorem sizeM:(Tryz.prog.info? 209).map (·.size)=some 256:=by kernel_rfl
def MB (w:World) (g:Nat) (F:Nat→Nat→Int):Prop:=∃ C,w.heap[g]?=some (.cells C 209 (0,0))∧Mat C F
theorem MB.lt {w:World} {g:Nat} {F:Nat→Nat→Int} (h:MB w g F):g<w.heap.size:=by
  obtain ⟨C,h,_⟩:=h
  exact lt_of_block h
theorem MB.cell {w:World} {g:Nat} {F:Nat→Nat→Int} (h:MB w g F) {x y:Nat} (hx:x<16) (hy:y<16):w.cell? ⟨g,x*16+y,none⟩=some (.int .i64 (F x y)):=by
  obtain ⟨C,h,hm⟩:=h
  rw [cell_of_row w g _ C 209 (0,0) h,hm.2 x y hx hy]
theorem MB.free {w:World} {g:Nat} {F:Nat→Nat→Int} (h:MB w g F) (j:Nat):w.frozen? ⟨g,j,none⟩=false:=by
  obtain ⟨C,h,_⟩:=h
  exact frozen_of_row w g j C 209 h
theorem MB.set {w:World} {g:Nat} {F:Nat→Nat→Int} (h:MB w g F) {a b:Nat} (ha:a<16) (hb:b<16) (v:Int):MB (w.setCell ⟨g,a*16+b,none⟩ (.int .i64 v)) g (fun x y=>if x=a∧y=b then v else F x y):=by
  obtain ⟨C,h,hm⟩:=h
  exact ⟨_,heap_setCell_same w g (a*16+b) C 209 (.int .i64 v) h,hm.set ha hb v⟩
theorem MB.only {bs:List Nat} {w w':World} {g:Nat} {F:Nat→Nat→Int} (h:MB w g F) (ho:Only bs w w') (hg:g∉bs):MB w' g F:=by
  obtain ⟨C,h,hm⟩:=h
  exact ⟨C,ho.block h hg,hm⟩
theorem MB.below {w w':World} {g B:Nat} {F:Nat→Nat→Int} (h:MB w g F) (hb:Below B w w') (hg:g<B):MB w' g F:=by
  obtain ⟨C,h,hm⟩:=h
  exact ⟨C,(hb.block g hg).trans h,hm⟩
theorem MB.ext {w:World} {g:Nat} {F G:Nat→Nat→Int} (h:MB w g F) (e:∀ x y,x<16→y<16→F x y=G x y):MB w g G:=by
  obtain ⟨C,h,hm⟩:=h
  exact ⟨C,h,hm.ext e⟩
theorem MB.new {w:World} {C:Array Value} {F:Nat→Nat→Int} (h:Mat C F):MB (w.alloc (.cells C 209)) w.heap.size F:=⟨C,heap_alloc_new w _,h⟩
def fc (L:List Ed):Nat→Nat→Int:=fun x y=>cst L x y
structure CSt (w wr:World) (L:List Ed) (j:Nat):Prop where
  bel:Below w.heap.size w wr
  sz:w.heap.size+2≤wr.heap.size
  res:MB wr w.heap.size (fun _ _=>0)
  bet:MB wr (w.heap.size+1) (fc (L.take j))
theorem CSt.start (w:World) (L:List Ed):CSt w ((w.alloc (.cells zs 209)).alloc (.cells zs 209)) L 0:=by
  have h1:MB (w.alloc (.cells zs 209)) w.heap.size (fun _ _=>0):=MB.new mat_zero
  have h2:MB ((w.alloc (.cells zs 209)).alloc (.cells zs 209)) (w.alloc (.cells zs 209)).heap.size (fun _ _=>0):=MB.new mat_zero
  refine ⟨below_alloc (below_alloc (Below.refl _ _) _) _,by simp,h1.below (below_alloc (Below.refl _ _) _) h1.lt,?_⟩
  rw [show (w.alloc (.cells zs 209)).heap.size=w.heap.size+1 by simp] at h2
  exact h2.ext fun x y _ _=>by simp [fc,cst_nil]
theorem CSt.alloc {w wr:World} {L:List Ed} {j:Nat} (h:CSt w wr L j) (O:Obj):CSt w (wr.alloc O) L j:=
  ⟨below_alloc h.bel O,by have:=h.sz;simp;omega,h.res.below (below_alloc (Below.refl _ _) O) h.res.lt,h.bet.below (below_alloc (Below.refl _ _) O) h.bet.lt⟩
structure HSt (w wr:World) (L:List Ed) (j p q:Nat) (c:Int):Prop where
  bel:Below w.heap.size w wr
  sz:w.heap.size+2≤wr.heap.size
  res:MB wr w.heap.size (fun _ _=>0)
  bet:MB wr (w.heap.size+1) (fun x y=>if x=p∧y=q then c else fc (L.take j) x y)
theorem CSt.half {w wr:World} {L:List Ed} {j p q:Nat} {c:Int} (h:CSt w wr L j) (hp:p<16) (hq:q<16):HSt w (wr.setCell ⟨w.heap.size+1,p*16+q,none⟩ (.int .i64 c)).drew L j p q c:=by
  have hs:=h.sz
  have o:Only [w.heap.size+1] wr (wr.setCell ⟨w.heap.size+1,p*16+q,none⟩ (.int .i64 c)).drew:=(((Only.refl _ _).setCell (by simp) _)).drew
  exact ⟨(h.bel.setCell (by simp) _).drew,by show _≤(wr.setCell _ _).heap.size;simp;omega,h.res.only o (by simp),h.bet.set hp hq c⟩
theorem HSt.step {w wr:World} {L:List Ed} {j p q:Nat} {c:Int} (h:HSt w wr L j p q c) (hj:j<L.length) (he:L.getD j zz=⟨p,q,c⟩) (hp:p<16) (hq:q<16) :
    CSt w (wr.setCell ⟨w.heap.size+1,q*16+p,none⟩ (.int .i64 c)).drew L (j+1):=by
  have hs:=h.sz
  have o:Only [w.heap.size+1] wr (wr.setCell ⟨w.heap.size+1,q*16+p,none⟩ (.int .i64 c)).drew:=(((Only.refl _ _).setCell (by simp) _)).drew
  refine ⟨(h.bel.setCell (by simp) _).drew,by show _≤(wr.setCell _ _).heap.size;simp;omega,h.res.only o (by simp),?_⟩
  have hm:MB (wr.setCell ⟨w.heap.size+1,q*16+p,none⟩ (.int .i64 c)).drew (w.heap.size+1) _:=h.bet.set hq hp c
  refine hm.ext fun x y hx hy=>?_
  unfold fc
  rw [cst_take hj,he]
  by_cases e:((p:Int)=x∧(q:Int)=y)∨((q:Int)=x∧(p:Int)=y)
  · rw [if_pos (jn_iff.2 e)]
    show _=c
    by_cases e2:x=q∧y=p
    · rw [if_pos e2]
    · rw [if_neg e2,if_pos (by omega)]
  · rw [if_neg (fun k=>e (jn_iff.1 k)),if_neg (by omega),if_neg (by omega)]
set_option maxHeartbeats 4000000 in
set_option maxRecDepth 100000 in
theorem costsOf_calls (a:Option Addr) (n cap:Nat) (L:List Ed) (N:Nat) (w:World) (h:EArg w a n L) (hN:N≤16) (hF:∀ e∈L,okE N e=true) :
    Calls Tryz.prog 129 #[.slice a n cap] w fun e w'=>∃ C,e=.returned (.agg C)∧Mat C (fc L)∧Below w.heap.size w w':=by
  have hl:=h.2.1
  have hn:=h.2.2
  have HA:=hidden h
  have HF:=hidden hF
  clear h hF
  have hz:=zeroM
  have HS0:=hidden (CSt.start w L)
  go_enter Tryz.func129,Tryz.ntmps129
  go_wp2_with fail
  go_loopg [8] n (fun g x wr=>∃ j:Nat,j+g=n∧x=.int .i64 (j:Int)∧Hid (CSt w wr L j))
  case atStart=>exact ⟨0,by omega,rfl,HS0⟩
  case round=>
    obtain ⟨j,hjg,rfl,HS⟩:=hrel
    by_cases hj:j<n
    · have hjz:(j:Int)<(n:Int):=by omega
      obtain ⟨b,o,rfl,hbl,hcs⟩:=(HA.out.below HS.out.bel).at (by omega)
      obtain ⟨c0,c1,c2⟩:=hcs j hj
      have hok:=okE_iff.1 (HF.out _ (getD_mem (L:=L) (j:=j) (by omega)))
      obtain ⟨m,hm⟩:∃ m,L.getD j zz=m:=⟨_,rfl⟩
      rw [hm] at c0 c1 c2 hok
      clear hcs
      obtain ⟨x,y,u⟩:=m
      simp only at c0 c1 c2 hok
      obtain ⟨p,rfl⟩:∃ p:Nat,x=(p:Int):=⟨x.toNat,by omega⟩
      obtain ⟨q,rfl⟩:∃ q:Nat,y=(q:Int):=⟨y.toNat,by omega⟩
      have hp:p<16:=by omega
      have hq:q<16:=by omega
      have hp':(p:Int)<16:=by omega
      have hq':(q:Int)<16:=by omega
      have HM:=hidden hm
      clear hm hok
      obtain ⟨w1,hw1⟩:∃ w1,wr.alloc (.cells #[.int .i64 (p:Int),.int .i64 (q:Int),.int .i64 u] 92)=w1:=⟨_,rfl⟩
      have HS1:Hid (CSt w w1 L j):=by rw [← hw1];exact hidden (HS.out.alloc _)
      have HX1:Hid (EBox w1 wr.heap.size ⟨p,q,u⟩):=by rw [← hw1];exact hidden (EBox.new wr ⟨p,q,u⟩)
      have HW1:=hidden hw1
      have hne:wr.heap.size≠w.heap.size+1:=by have:=HS.out.sz;omega
      have HNE:=hidden hne
      clear hne hw1
      go_upto_region 5 with fail
      rw [HW1.out]
      clear HW1 c0 c1 c2 HS
      obtain ⟨x0,x1,x2⟩:=HX1.out.cells
      have f1:=HS1.out.bet.free (p*16+q)
      have f2:=HS1.out.bet.cell hp hq
      go_wp2_with fail
      go_region
      obtain ⟨w2,hw2⟩:∃ w2,(w1.setCell ⟨w.heap.size+1,p*16+q,none⟩ (.int .i64 u)).drew=w2:=⟨_,rfl⟩
      have HS2:Hid (HSt w w2 L j p q u):=by rw [← hw2];exact hidden (HS1.out.half hp hq)
      have HX2:Hid (EBox w2 wr.heap.size ⟨p,q,u⟩):=by
        rw [← hw2]
        have o:Only [w.heap.size+1] w1 (w1.setCell ⟨w.heap.size+1,p*16+q,none⟩ (.int .i64 u)).drew:=(((Only.refl _ _).setCell (by simp) _)).drew
        exact hidden (o.block HX1.out (by simpa using HNE.out))
      rw [hw2]
      clear hw2 f1 f2 x0 x1 x2 HX1 HS1
      obtain ⟨x0,x1,x2⟩:=HX2.out.cells
      have f1:=HS2.out.bet.free (q*16+p)
      have f2:=HS2.out.bet.cell hq hp
      go_wp2_with fail
      go_region
      have HS3:Hid (CSt w (w2.setCell ⟨w.heap.size+1,q*16+p,none⟩ (.int .i64 u)).drew L (j+1)):=HS2.out.step (by omega) HM.out hp hq
      clear f1 f2 x0 x1 x2 HX2 HS2
      go_wp2_with fail
      go_roundg (n - (j+1))
      case measure=>omega
      case rel=>exact ⟨j+1,by omega,by go_num,HS3⟩
    · have hjz:¬ (j:Int)<(n:Int):=by omega
      obtain rfl:j=n:=by omega
      obtain ⟨C,hC,hM⟩:=HS.out.bet
      obtain ⟨D,hD,hM0⟩:=HS.out.res
      rw [← hl,List.take_length] at hM
      have HMM:=hidden hM
      have h1:=hidden hM.one
      have hs1:=hM.1
      have hs2:=hM0.1
      have hsz:(Tryz.prog.info? 209).map (·.size)=some C.size:=by rw [hs1];exact sizeM
      have hrow:(wr.setRow w.heap.size C).heap[w.heap.size]?=some (.cells C 209 (0,0)):=setRow_heap _ _ _ _ _ _ hD
      have HB:Hid (Below w.heap.size w (wr.setRow w.heap.size C)):=below_setRow HS.out.bel (Nat.le_refl _) _
      have HRow:=hidden hrow
      have HC:=hidden hC
      have HD:=hidden hD
      have HZ:=hidden hsz
      have HDC:Hid (D.size=C.size):=hidden (by omega)
      clear hC hD hM hM0 hs1 hs2 hrow hsz
      go_wp2_with (first | refine wpList_load_row rfl 209 _ rfl (w.heap.size+1) rfl 209 C (0,0) _ HC.out Tryz.underlying209 rfl HZ.out ?_ | refine wpList_store_row rfl 209 _ _ rfl w.heap.size C rfl rfl 209 D HD.out HZ.out HDC.out h1.out ?_)
      refine bodyPost_ret (results_cell_row rfl _ _ w.heap.size 209 C (0,0) _ rfl HRow.out Tryz.underlying209 rfl HZ.out) rfl ?_
      exact ⟨C,rfl,HMM.out,HB.out⟩

def ArrB (w:World) (g:Nat) (F:Nat→Bool):Prop:=∃ cs:Array Value,w.heap[g]?=some (.cells cs 231 (0,0))∧cs.size=16∧∀ j,j<16→cs[j]?=some (.bool (F j))
theorem ArrB.cell {w:World} {g:Nat} {F:Nat→Bool} (h:ArrB w g F) {j:Nat} (hj:j<16):w.cell? ⟨g,j,none⟩=some (.bool (F j)):=by
  obtain ⟨cs,h1,_,h3⟩:=h
  simp [World.cell?,h1,h3 j hj]
theorem ArrB.free {w:World} {g:Nat} {F:Nat→Bool} (h:ArrB w g F) (j:Nat):w.frozen? ⟨g,j,none⟩=false:=by
  obtain ⟨cs,h1,_⟩:=h
  simp [World.frozen?,h1]
theorem ArrB.only {w w':World} {g:Nat} {F:Nat→Bool} {bs:List Nat} (h:ArrB w g F) (ho:Only bs w w') (hg:g∉bs):ArrB w' g F:=by
  obtain ⟨cs,h1,h2⟩:=h
  exact ⟨cs,ho.block h1 hg,h2⟩
theorem ArrB.lt {w:World} {g:Nat} {F:Nat→Bool} (h:ArrB w g F):g<w.heap.size:=by
  obtain ⟨cs,h1,_⟩:=h
  exact lt_of_block h1
theorem ArrB.set {w:World} {g:Nat} {F:Nat→Bool} (h:ArrB w g F) {y:Nat} (hy:y<16) (v:Bool):ArrB (w.setCell ⟨g,y,none⟩ (.bool v)) g (upd F y v):=by
  obtain ⟨cs,h1,h2,h3⟩:=h
  refine ⟨_,heap_setCell_same w g y cs 231 (.bool v) h1,by simpa using h2,fun j hj=>?_⟩
  rw [Array.getElem?_setIfInBounds]
  by_cases e:y=j
  · subst e
    rw [if_pos rfl,if_pos (by omega)]
    simp [upd]
  · rw [if_neg e,h3 j hj]
    have:¬ j=y:=fun q=>e q.symm
    simp [upd,this]
def zb:Array Value:=Array.replicate 16 (.bool false)
theorem ArrB.new (w:World):ArrB (w.alloc (.cells zb 231)) w.heap.size (fun _=>false):=by
  refine ⟨_,heap_alloc_new w _,by simp [zb],fun j hj=>?_⟩
  unfold zb
  rw [Array.getElem?_replicate,if_pos hj]

set_option maxHeartbeats 2000000 in
theorem may_calls (g x:Nat) (F:Nat→Bool) (w:World) (h:ArrB w g F) (hx:x<16):Calls Tryz.prog 154 #[.int .i64 (x:Int),.pointer (some ⟨g,0,none⟩)] w fun e w'=>e=.returned (.bool (!F x))∧w'=w:=by
  have hc:=h.cell hx
  have hx':(x:Int)<16:=by omega
  clear h
  generalize F x=b at *
  go_enter Tryz.func154,Tryz.ntmps154
  go_wp2_with fail
  go_ret
  exact ⟨rfl,rfl⟩
set_option maxHeartbeats 4000000 in
set_option maxRecDepth 100000 in
theorem nearest_calls (a:Option Addr) (n cap g:Nat) (d:List Int) (F:Nat→Bool) (w:World) (h:IArg w a n d) (hg:ArrB w g F) (hn:n≤16) :
    Calls Tryz.prog 153 #[.slice a n cap,.func (.func 154) #[] #[.pointer (some ⟨g,0,none⟩)]] w fun e w'=>∃ f,e=.returned (.int .i64 f)∧NearTo d F n f∧w'=w:=by
  have hl:=h.2.1
  have HA:=hidden h
  have HG:=hidden hg
  clear h hg
  go_enter Tryz.func153,Tryz.ntmps153
  go_wp2_with fail
  go_loopg [5,10] n (fun k u v wr=>∃ (j:Nat) (f:Int),j+k=n∧u=.int .i64 f∧v=.int .i64 (j:Int)∧Hid (NearTo d F j f)∧w=wr)
  case atStart=>exact ⟨0,-1,by omega,rfl,rfl,near_start _ _,rfl⟩
  case round=>
    obtain ⟨j,f,hjk,rfl,rfl,HN,rfl⟩:=hrel
    by_cases hj:j<n
    · have hjz:(j:Int)<(n:Int):=by omega
      obtain ⟨b,o,rfl,hcs⟩:=HA.out.at (by omega)
      have c0:=hcs j hj
      have C:=hidden (may_calls g j F w HG.out (by omega))
      by_cases h1:dg d j=-1
      · rw [h1] at c0
        have HN1:=hidden (near_skip HN.out (.inl h1))
        clear h1 hcs
        go_wp2_with fail
        go_roundg (n - (j+1))
        case measure=>omega
        case rel=>exact ⟨j+1,f,by omega,rfl,by go_num,HN1,rfl⟩
      · have d1:(dg d j != -1)=true:=bne_iff_ne.2 h1
        cases h2:F j with
        | true=>
          rw [h2] at C
          have HN1:=hidden (near_skip HN.out (.inr h2))
          clear h2 hcs h1
          generalize dg d j=x at *
          go_wp2_with fail
          refine C.out.mono ?_
          rintro e w1 ⟨rfl,rfl⟩
          go_wp2_with fail
          go_roundg (n - (j+1))
          case measure=>omega
          case rel=>exact ⟨j+1,f,by omega,rfl,by go_num,HN1,rfl⟩
        | false=>
          rw [h2] at C
          rcases near_cases HN.out with rfl | ⟨k,rfl,hk⟩
          · have HN1:=hidden (near_first HN.out h1 h2)
            clear h2 hcs h1
            generalize dg d j=x at *
            go_wp2_with fail
            refine C.out.mono ?_
            rintro e w1 ⟨rfl,rfl⟩
            go_wp2_with fail
            go_roundg (n - (j+1))
            case measure=>omega
            case rel=>exact ⟨j+1,j,by omega,rfl,by go_num,HN1,rfl⟩
          · have c1:=hcs k (by omega)
            have hk1:((k:Int)==-1)=false:=beq_eq_false_iff_ne.2 (by omega)
            have hkz:(k:Int)<(n:Int):=by omega
            by_cases h3:dg d j<dg d k
            · have d3:decide (dg d j<dg d k)=true:=by simpa using h3
              have HN1:=hidden (near_less HN.out h1 h2 h3)
              clear h2 hcs h1 h3
              generalize dg d j=x at *
              generalize dg d k=y at *
              go_wp2_with fail
              refine C.out.mono ?_
              rintro e w1 ⟨rfl,rfl⟩
              go_wp2_with fail
              go_roundg (n - (j+1))
              case measure=>omega
              case rel=>exact ⟨j+1,j,by omega,rfl,by go_num,HN1,rfl⟩
            · have d3:decide (dg d j<dg d k)=false:=by simpa using h3
              have HN1:=hidden (near_stay HN.out h3)
              clear h2 hcs h1 h3
              generalize dg d j=x at *
              generalize dg d k=y at *
              go_wp2_with fail
              refine C.out.mono ?_
              rintro e w1 ⟨rfl,rfl⟩
              go_wp2_with fail
              go_roundg (n - (j+1))
              case measure=>omega
              case rel=>exact ⟨j+1,k,by omega,rfl,by go_num,HN1,rfl⟩
    · have hjz:¬ (j:Int)<(n:Int):=by omega
      obtain rfl:j=n:=by omega
      go_wp2_with fail
      go_ret
      exact ⟨f,rfl,HN.out,rfl⟩

structure LSt (w wr:World) (g1 gd gb n:Nat) (L:List Ed) (d:List Int) (S:Nat→Bool):Prop where
  bel:Below w.heap.size w wr
  lo:w.heap.size≤gb
  mat:MB wr g1 (fc L)
  own:wr.ownsRow w.heap.size 3 1 (.slice (some ⟨gd,0,none⟩) n n) n (ic d)
  don:ArrB wr gb S
theorem own_block {w:World} {base g n cap:Nat} {L:List Int} (h:w.ownsRow base 3 1 (.slice (some ⟨g,0,none⟩) n cap) n (ic L)):base≤g∧∃ cur,w.heap[g]?=some (.cells cur 3 (0,0)):=by
  rcases h.2 with ⟨h,_⟩ | ⟨g',cap',cur,e,hg,hb,_⟩
  · simp at h
  · simp only [Value.slice.injEq,Option.some.injEq,Addr.mk.injEq,and_true] at e
    obtain ⟨rfl,_⟩:=e
    exact ⟨hg,cur,hb⟩
theorem LSt.ne {w wr:World} {g1 gd gb n:Nat} {L:List Ed} {d:List Int} {S:Nat→Bool} (h:LSt w wr g1 gd gb n L d S):gd≠g1∧gd≠gb∧gb≠g1:=by
  obtain ⟨_,cur,h1⟩:=own_block h.own
  obtain ⟨C,h2,_⟩:=h.mat
  obtain ⟨cs,h3,_⟩:=h.don
  refine ⟨?_,?_,?_⟩
  · rintro rfl;rw [h1] at h2;simp at h2
  · rintro rfl;rw [h1] at h3;simp at h3
  · rintro rfl;rw [h2] at h3;simp at h3
theorem LSt.store {w wr:World} {g1 gd gb n:Nat} {L:List Ed} {d:List Int} {S:Nat→Bool} (h:LSt w wr g1 gd gb n L d S) (j:Nat) (v:Int):LSt w (wr.setCell ⟨gd,j,none⟩ (.int .i64 v)) g1 gd gb n L (d.set j v) S:=by
  obtain ⟨n1,n2,n3⟩:=h.ne
  have o:Only [gd] wr (wr.setCell ⟨gd,j,none⟩ (.int .i64 v)):=(Only.refl _ _).setCell (by simp) _
  exact ⟨h.bel.setCell (own_block h.own).1 _,h.lo,h.mat.only o (by simpa using fun e=>n1 e.symm),own_set h.own j v,h.don.only o (by simpa using fun e=>n2 e.symm)⟩
theorem LSt.mark {w wr:World} {g1 gd gb n k:Nat} {L:List Ed} {d:List Int} {S:Nat→Bool} (h:LSt w wr g1 gd gb n L d S) (hk:k<16):LSt w (wr.setCell ⟨gb,k,none⟩ (.bool true)) g1 gd gb n L d (upd S k true):=by
  obtain ⟨n1,n2,n3⟩:=h.ne
  have o:Only [gb] wr (wr.setCell ⟨gb,k,none⟩ (.bool true)):=(Only.refl _ _).setCell (by simp) _
  exact ⟨h.bel.setCell h.lo _,h.lo,h.mat.only o (by simpa using fun e=>n3 e.symm),o.owns h.own (by intro q hq;simp [Value.ownBlock] at hq;subst hq;simpa using n2),h.don.set hk true⟩
theorem LSt.arg {w wr:World} {g1 gd gb n:Nat} {L:List Ed} {d:List Int} {S:Nat→Bool} (h:LSt w wr g1 gd gb n L d S) (hn:n≤16):IArg wr (some ⟨gd,0,none⟩) n d:=by
  obtain ⟨a,cap,e,h1,_⟩:=own_ints h.own (by omega)
  simp only [Value.slice.injEq] at e
  rw [e.1];exact h1
def At (L:List Ed) (d c:List Int) (k n j:Nat):Prop:=∀ x,x<n→dg c x=if x<j then nv L d k x else dg d x
theorem at_stay {L:List Ed} {d c:List Int} {k n j:Nat} (h:At L d c k n j) (hv:nv L d k j=dg d j):At L d c k n (j+1):=fun x hx=>by
  rw [h x hx]
  by_cases e:x=j
  · subst e;rw [if_neg (by omega),if_pos (by omega),hv]
  · by_cases q:x<j
    · rw [if_pos q,if_pos (by omega)]
    · rw [if_neg q,if_neg (by omega)]
theorem at_set {L:List Ed} {d c:List Int} {k n j:Nat} {v:Int} (h:At L d c k n j) (hl:c.length=n) (hj:j<n) (hv:nv L d k j=v):At L d (c.set j v) k n (j+1):=fun x hx=>by
  rw [dg_set (by omega)]
  by_cases e:x=j
  · rw [if_pos e,if_pos (by omega),e,hv]
  · rw [if_neg e,h x hx]
    by_cases q:x<j
    · rw [if_pos q,if_pos (by omega)]
    · rw [if_neg q,if_neg (by omega)]
theorem wrap_id {x:Int} (h1:-9223372036854775808≤x) (h2:x≤9223372036854775807):IntKind.i64.wrap x=x:=by rw [IntKind.wrap_i64];omega

set_option maxHeartbeats 8000000 in
set_option maxRecDepth 100000 in
theorem leastWays_calls (C:Array Value) (n root:Nat) (L:List Ed) (w:World) (hC:Mat C (fc L)) (hF:Fit n L) (hr:root<n) :
    Calls Tryz.prog 130 #[.agg C,.int .i64 (n:Int),.int .i64 (root:Int)] w fun e w'=>∃ gd d,e=.returned (.slice (some ⟨gd,0,none⟩) n n)∧w'.ownsRow w.heap.size 3 1 (.slice (some ⟨gd,0,none⟩) n n) n (ic d)∧IsDist L n root d∧(∀ x,dg d x≤16000000)∧Below w.heap.size w w':=by
  have hn:=hF.hi
  have hn1:=hF.lo
  have HF:=hidden hF
  have HC:=hidden hC
  clear hF hC
  have hrz:(root:Int)<(n:Int):=by omega
  obtain ⟨w1,hw1⟩:∃ w1,(w.alloc (.cells C 209)).alloc (.cells #[.int .i64 (-1)] 3)=w1:=⟨_,rfl⟩
  have HB1:Hid (Below w.heap.size w w1):=by rw [← hw1];exact hidden (below_alloc (below_alloc (Below.refl _ _) _) _)
  have HM1:Hid (MB w1 w.heap.size (fc L)):=by
    rw [← hw1]
    have h1:MB (w.alloc (.cells C 209)) w.heap.size (fc L):=MB.new HC.out
    exact hidden (h1.below (below_alloc (Below.refl _ _) _) h1.lt)
  have HL1:Hid (w1.heap[w.heap.size+1]?=some (.cells #[.int .i64 (-1)] 3 (0,0))):=by
    have:=heap_alloc_new (w.alloc (.cells C 209)) (.cells #[.int .i64 (-1)] 3)
    rw [show (w.alloc (.cells C 209)).heap.size=w.heap.size+1 by simp,hw1] at this
    exact hidden this
  have HR:=hidden (rep_calls (w.heap.size+1) n w1 HL1.out hn1 hn)
  have HW1:=hidden hw1
  have HS1:Hid (w.heap.size<w1.heap.size):=HM1.out.lt
  clear hw1
  go_enter Tryz.func130,Tryz.ntmps130
  go_wp2_with fail
  rw [HW1.out]
  refine HR.out.mono ?_
  rintro e w2 ⟨gd,rfl,ho2,hb2⟩
  have HB2:Hid (Below w.heap.size w w2):=HB1.out.trans (hb2.mono HB1.out.size)
  have HM2:Hid (MB w2 w.heap.size (fc L)):=HM1.out.below hb2 HS1.out
  have HO2:Hid (w2.ownsRow w.heap.size 3 1 (.slice (some ⟨gd,0,none⟩) n n) n (ic (List.replicate n (-1)))):=own_base ho2 HB1.out.size
  have hc:=own_dg HO2.out (j:=root) (by omega)
  have hf:=HO2.out.frozenAt root
  clear ho2 hb2
  go_upto_region 3 with fail
  obtain ⟨w3,hw3⟩:∃ w3,w2.setCell ⟨gd,root,none⟩ (.int .i64 0)=w3:=⟨_,rfl⟩
  have HB3:Hid (Below w.heap.size w w3):=by rw [← hw3];exact hidden (HB2.out.setCell (own_block HO2.out).1 _)
  have HM3:Hid (MB w3 w.heap.size (fc L)):=by
    rw [← hw3]
    have o:Only [gd] w2 (w2.setCell ⟨gd,root,none⟩ (.int .i64 0)):=(Only.refl _ _).setCell (by simp) _
    refine hidden (HM2.out.only o ?_)
    obtain ⟨C',h2,_⟩:=HM2.out
    obtain ⟨_,cur,h1⟩:=own_block HO2.out
    simp
    rintro rfl
    rw [h1] at h2;simp at h2
  have HO3:Hid (w3.ownsRow w.heap.size 3 1 (.slice (some ⟨gd,0,none⟩) n n) n (ic ((List.replicate n (-1)).set root 0))):=by rw [← hw3];exact hidden (own_set HO2.out _ _)
  rw [hw3]
  clear hw3 hc hf HM2 HB2 HO2 HR HL1 HM1 HB1 HW1
  obtain ⟨w4,hw4⟩:∃ w4,w3.alloc (.cells zb 231)=w4:=⟨_,rfl⟩
  have HS4:Hid (LSt w w4 w.heap.size gd w3.heap.size n L ((List.replicate n (-1)).set root 0) (fun _=>false)):=by
    rw [← hw4]
    exact hidden ⟨below_alloc HB3.out _,HB3.out.size,HM3.out.below (below_alloc (Below.refl _ _) _) HM3.out.lt,HO3.out.alloc _,ArrB.new w3⟩
  have HW4:Hid (w3.alloc (.cells #[.bool false,.bool false,.bool false,.bool false,.bool false,.bool false,.bool false,.bool false,.bool false,.bool false,.bool false,.bool false,.bool false,.bool false,.bool false,.bool false] 231)=w4):=hw4
  clear hw4 HM3 HB3 HO3
  have HD0:=hidden (dinv_start L hr)
  go_upto_region 4 with fail
  rw [HW4.out]
  clear HW4
  generalize w3.heap.size=gb at *
  go_loopg [9] n (fun g u wr=>∃ (d:List Int) (S:Nat→Bool),n - cn S n≤g∧Hid (LSt w wr w.heap.size gd gb n L d S)∧Hid (DInv L n root d S))
  case atStart=>exact ⟨_,_,by omega,HS4,HD0⟩
  case round=>
    obtain ⟨d,S,hgm,HS,HD⟩:=hrel
    clear HS4 HD0
    have C1:=hidden (nearest_calls (some ⟨gd,0,none⟩) n n gb d S wr (HS.out.arg hn) HS.out.don hn)
    go_wp2_with fail
    refine C1.out.mono ?_
    rintro e wr' ⟨f,rfl,hN,rfl⟩
    have HN:=hidden hN
    clear C1
    rcases near_cases hN with rfl | ⟨k,rfl,hk⟩
    · clear hN
      have HE:=hidden (dinv_end HD.out hr HN.out)
      go_wp2_with fail
      go_ret
      exact ⟨gd,d,rfl,HS.out.own,HE.out.1,fun x=>by have:=HE.out.2 x;omega,HS.out.bel⟩
    · have hSk:S k=false:=by
        rcases hN with ⟨h3,_⟩ | ⟨k',h3,_,_,h6,_⟩
        · omega
        · obtain rfl:k'=k:=by omega
          exact h6
      have hdk:0≤dg d k:=by
        have h5:dg d k≠-1:=by
          rcases hN with ⟨h3,_⟩ | ⟨k',h3,_,h5,_⟩
          · omega
          · obtain rfl:k'=k:=by omega
            exact h5
        rcases HD.out.low hk with q | q<;>omega
      have hbd:dg d k≤16000000:=by
        have:=HD.out.bd k hk
        have:=cn_le S n
        omega
      have hcn:cn S n<n:=cn_lt hk hSk
      clear hN
      have hk1:((k:Int)==-1)=false:=beq_eq_false_iff_ne.2 (by omega)
      have hk16:(k:Int)<16:=by omega
      have hkn:(k:Int)<(n:Int):=by omega
      have hc:=HS.out.don.cell (j:=k) (by omega)
      have hf:=HS.out.don.free k
      go_upto_region 8 with fail
      obtain ⟨w5,hw5⟩:∃ w5,wr'.setCell ⟨gb,k,none⟩ (.bool true)=w5:=⟨_,rfl⟩
      have HS5:Hid (LSt w w5 w.heap.size gd gb n L d (upd S k true)):=by rw [← hw5];exact hidden (HS.out.mark (by omega))
      rw [hw5]
      clear hw5 hc hf HS
      have hnk:=nv_self HF.out.ok d k
      have HNK:=hidden hnk
      clear hnk
      have HA0:Hid (At L d d k n 0):=fun x _=>by rw [if_neg (by omega)]
      go_wp2_with fail
      go_loopg [29] n (fun g v wq=>∃ (j:Nat) (c:List Int),j+g=n∧v=.int .i64 (j:Int)∧Hid (LSt w wq w.heap.size gd gb n L c (upd S k true))∧Hid (At L d c k n j))
      case atStart=>exact ⟨0,d,by omega,rfl,HS5,HA0⟩
      case round=>
        obtain ⟨j,c,hjg,rfl,HQ,HA⟩:=hrel
        by_cases hj:j<n
        · have hjz:(j:Int)<(n:Int):=by omega
          have hj16:(j:Int)<16:=by omega
          have hcl:=own_ln HQ.out.own
          have m0:=HQ.out.mat.cell (x:=k) (y:=j) (by omega) (by omega)
          have c1:=own_dg HQ.out.own (j:=k) hk
          have c2:=own_dg HQ.out.own (j:=j) hj
          have f2:=HQ.out.own.frozenAt j
          have e1:dg c k=dg d k:=by
            rw [HA.out k hk];split
            · exact HNK.out
            · rfl
          have e2:dg c j=dg d j:=by rw [HA.out j hj,if_neg (by omega)]
          rw [e1] at c1
          rw [e2] at c2
          have hco:=cst_range HF.out.ok (k:Int) (j:Int)
          have hnv:nv L d k j=if 0<cst L k j∧(dg d j=-1∨dg d k+cst L k j<dg d j) then dg d k+cst L k j else dg d j:=rfl
          unfold fc at m0
          have HST:=hidden (fun v=>HQ.out.store j v)
          obtain ⟨h1,h2,_⟩:=hco
          clear e1 e2
          generalize dg d k=x at *
          generalize cst L (k:Int) (j:Int)=co at *
          by_cases hz:co=0
          · subst hz
            have HA1:=hidden (at_stay HA.out (by rw [hnv,if_neg (by omega)]))
            clear hnv
            generalize dg d j=y at *
            have hwr:IntKind.i64.wrap (x+0)=x+0:=wrap_id (by omega) (by omega)
            go_wp2_with fail
            go_roundg (n - (j+1))
            case measure=>omega
            case rel=>exact ⟨j+1,c,by omega,by go_num,HQ,HA1⟩
          · have hp:0<co:=by omega
            have dp:decide (0<co)=true:=by simpa using hp
            have hwr:IntKind.i64.wrap (x+co)=x+co:=wrap_id (by omega) (by omega)
            by_cases hy:dg d j=-1
            · have HA1:=hidden (at_set (v:=x+co) HA.out hcl hj (by rw [hnv,if_pos ⟨hp,.inl hy⟩]))
              rw [hy] at c2
              clear hnv hy hz
              go_wp2_with fail
              go_roundg (n - (j+1))
              case measure=>omega
              case rel=>exact ⟨j+1,c.set j (x+co),by omega,by go_num,hidden (HST.out _),HA1⟩
            · have dy:(dg d j==-1)=false:=beq_eq_false_iff_ne.2 hy
              by_cases hl:x+co<dg d j
              · have dl:decide (x+co<dg d j)=true:=by simpa using hl
                have HA1:=hidden (at_set (v:=x+co) HA.out hcl hj (by rw [hnv,if_pos ⟨hp,.inr hl⟩]))
                clear hnv hy hz hl
                generalize dg d j=y at *
                go_wp2_with fail
                go_roundg (n - (j+1))
                case measure=>omega
                case rel=>exact ⟨j+1,c.set j (x+co),by omega,by go_num,hidden (HST.out _),HA1⟩
              · have dl:decide (x+co<dg d j)=false:=by simpa using hl
                have HA1:=hidden (at_stay HA.out (by rw [hnv,if_neg (by omega)]))
                clear hnv hy hz hl
                generalize dg d j=y at *
                go_wp2_with fail
                go_roundg (n - (j+1))
                case measure=>omega
                case rel=>exact ⟨j+1,c,by omega,by go_num,HQ,HA1⟩
        · have hjz:¬ (j:Int)<(n:Int):=by omega
          obtain rfl:j=n:=by omega
          have hcl:=own_ln HQ.out.own
          have hnx:=dinv_next HF.out.ok HD.out hk hr HN.out hcl (fun x hx=>by rw [HA.out x hx,if_pos hx])
          have HD1:=hidden hnx.1
          have hc2:=hnx.2
          have hc3:=cn_le (upd S k true) j
          clear hnx
          go_wp2_with fail
          go_roundg (j - cn (upd S k true) j)
          case measure=>omega
          case rel=>exact ⟨c,_,by omega,HQ,HD1⟩

structure QSt (w wr:World) (g1 gp n:Nat) (L:List Ed) (d p:List Int) (i:Nat):Prop where
  bel:Below w.heap.size w wr
  mat:MB wr g1 (fc L)
  own:wr.ownsRow w.heap.size 3 1 (.slice (some ⟨gp,0,none⟩) n n) n (ic p)
  old:∀ x,x<i→IsPar L d n x (dg p x)
  new:∀ x,i≤x→dg p x=-1
theorem QSt.no {w wr:World} {g1 gp n:Nat} {L:List Ed} {d p:List Int} {i:Nat} (h:QSt w wr g1 gp n L d p i) (hn:∀ f,f<n→¬ good L d i f):QSt w wr g1 gp n L d p (i+1):=
  ⟨h.bel,h.mat,h.own,fun x hx=>by
    by_cases e:x=i
    · subst e;rw [h.new x (by omega)];exact .inl ⟨rfl,hn⟩
    · exact h.old x (by omega),fun x hx=>h.new x (by omega)⟩
theorem QSt.yes {w wr:World} {g1 gp n:Nat} {L:List Ed} {d p:List Int} {i j:Nat} (h:QSt w wr g1 gp n L d p i) (hi:i<n) (hj:j<n) (hg:good L d i j) (hn:∀ f,f<j→¬ good L d i f):QSt w (wr.setCell ⟨gp,i,none⟩ (.int .i64 (j:Int))) g1 gp n L d (p.set i (j:Int)) (i+1):=by
  have hl:=own_ln h.own
  have o:Only [gp] wr (wr.setCell ⟨gp,i,none⟩ (.int .i64 (j:Int))):=(Only.refl _ _).setCell (by simp) _
  refine ⟨h.bel.setCell (own_block h.own).1 _,h.mat.only o ?_,own_set h.own _ _,fun x hx=>?_,fun x hx=>?_⟩
  · obtain ⟨C,h2,_⟩:=h.mat
    obtain ⟨_,cur,h1⟩:=own_block h.own
    simp
    rintro rfl
    rw [h1] at h2;simp at h2
  · rw [dg_set (by omega)]
    by_cases e:x=i
    · rw [if_pos e,e];exact .inr ⟨j,rfl,hj,hg,hn⟩
    · rw [if_neg e];exact h.old x (by omega)
  · rw [dg_set (by omega),if_neg (by omega)];exact h.new x (by omega)
set_option maxHeartbeats 8000000 in
set_option maxRecDepth 100000 in
theorem leastParents_calls (C:Array Value) (a:Option Addr) (n cap:Nat) (L:List Ed) (d:List Int) (w:World) (hC:Mat C (fc L)) (hF:Fit n L) (hd:IArg w a n d) (hlo:∀ x,-1≤dg d x) (hhi:∀ x,dg d x≤16000000) :
    Calls Tryz.prog 131 #[.agg C,.slice a n cap] w fun e w'=>∃ gp p,e=.returned (.slice (some ⟨gp,0,none⟩) n n)∧w'.ownsRow w.heap.size 3 1 (.slice (some ⟨gp,0,none⟩) n n) n (ic p)∧IsPars L d n p∧Below w.heap.size w w':=by
  have hn:=hF.hi
  have hn1:=hF.lo
  have HF:=hidden hF
  have HC:=hidden hC
  have HA:=hidden hd
  have HLO:=hidden hlo
  have HHI:=hidden hhi
  clear hF hC hd hlo hhi
  obtain ⟨w1,hw1⟩:∃ w1,(w.alloc (.cells C 209)).alloc (.cells #[.int .i64 (-1)] 3)=w1:=⟨_,rfl⟩
  have HB1:Hid (Below w.heap.size w w1):=by rw [← hw1];exact hidden (below_alloc (below_alloc (Below.refl _ _) _) _)
  have HM1:Hid (MB w1 w.heap.size (fc L)):=by
    rw [← hw1]
    have h1:MB (w.alloc (.cells C 209)) w.heap.size (fc L):=MB.new HC.out
    exact hidden (h1.below (below_alloc (Below.refl _ _) _) h1.lt)
  have HL1:Hid (w1.heap[w.heap.size+1]?=some (.cells #[.int .i64 (-1)] 3 (0,0))):=by
    have:=heap_alloc_new (w.alloc (.cells C 209)) (.cells #[.int .i64 (-1)] 3)
    rw [show (w.alloc (.cells C 209)).heap.size=w.heap.size+1 by simp,hw1] at this
    exact hidden this
  have HR:=hidden (rep_calls (w.heap.size+1) n w1 HL1.out hn1 hn)
  have HW1:=hidden hw1
  have HS1:Hid (w.heap.size<w1.heap.size):=HM1.out.lt
  clear hw1
  go_enter Tryz.func131,Tryz.ntmps131
  go_wp2_with fail
  rw [HW1.out]
  refine HR.out.mono ?_
  rintro e w2 ⟨gp,rfl,ho2,hb2⟩
  have HQ0:Hid (QSt w w2 w.heap.size gp n L d (List.replicate n (-1)) 0):=⟨HB1.out.trans (hb2.mono HB1.out.size),HM1.out.below hb2 HS1.out,own_base ho2 HB1.out.size,fun x hx=>absurd hx (by omega),fun x _=>dg_rep n x⟩
  clear ho2 hb2 HR HL1 HM1 HB1 HW1
  go_wp2_with fail
  go_loopg [16] n (fun g v wr=>∃ (i:Nat) (p:List Int),i+g=n∧v=.int .i64 (i:Int)∧Hid (QSt w wr w.heap.size gp n L d p i))
  case atStart=>exact ⟨0,_,by omega,rfl,HQ0⟩
  case round=>
    obtain ⟨i,p,hig,rfl,HQ⟩:=hrel
    clear HQ0
    by_cases hi:i<n
    · have hiz:(i:Int)<(n:Int):=by omega
      obtain ⟨b,o,rfl,hcs⟩:=(HA.out.below HQ.out.bel).at (by omega)
      have c0:=hcs i hi
      have HCS:=hidden hcs
      clear hcs
      have HG0:Hid (∀ f,f<0→¬ good L d i f):=fun f hf=>absurd hf (by omega)
      obtain ⟨way,hway⟩:∃ way,dg d i=way:=⟨_,rfl⟩
      rw [hway] at c0
      have HWAY:=hidden hway
      clear hway
      obtain ⟨wo,hwo⟩:∃ wo,wo=wr:=⟨_,rfl⟩
      subst hwo
      go_wp2_with fail
      go_loopg [23] n (fun g v wq=>∃ j:Nat,j+g=n∧v=.int .i64 (j:Int)∧Hid (∀ f,f<j→¬ good L d i f)∧wo=wq)
      case atStart=>exact ⟨0,by omega,rfl,HG0,rfl⟩
      case round=>
        obtain ⟨j,hjg,rfl,HG,rfl⟩:=hrel
        by_cases hj:j<n
        · have hjz:(j:Int)<(n:Int):=by omega
          have hj16:(j:Int)<16:=by omega
          have hi16:(i:Int)<16:=by omega
          have m0:=HQ.out.mat.cell (x:=j) (y:=i) (by omega) (by omega)
          have c1:=HCS.out j hj
          have c2:=own_dg HQ.out.own (j:=i) hi
          have f2:=HQ.out.own.frozenAt i
          have hco:=cst_range HF.out.ok (j:Int) (i:Int)
          have l1:=HLO.out j
          have l2:=HHI.out j
          unfold fc at m0
          obtain ⟨h1,h2,_⟩:=hco
          by_cases hg:0<cst L (j:Int) (i:Int)∧dg d j+cst L (j:Int) (i:Int)=way
          · have HQ1:=hidden (HQ.out.yes hi hj (by unfold good;rw [HWAY.out];exact hg) HG.out)
            obtain ⟨hp,he⟩:=hg
            have dp:decide (0<cst L (j:Int) (i:Int))=true:=by simpa using hp
            have hwr:IntKind.i64.wrap (dg d j+cst L (j:Int) (i:Int))=way:=by rw [wrap_id (by omega) (by omega)];exact he
            clear he
            generalize dg d j=x at *
            generalize dg p i=y at *
            generalize cst L (j:Int) (i:Int)=co at *
            go_wp2_with fail
            go_roundg (n - (i+1))
            case measure=>omega
            case rel=>exact ⟨i+1,_,by omega,by go_num,HQ1⟩
          · have HG1:Hid (∀ f,f<j+1→¬ good L d i f):=fun f hf hgd=>by
              by_cases e:f=j
              · subst e;unfold good at hgd;rw [HWAY.out] at hgd;exact hg hgd
              · exact HG.out f (by omega) hgd
            by_cases hp:0<cst L (j:Int) (i:Int)
            · have dp:decide (0<cst L (j:Int) (i:Int))=true:=by simpa using hp
              have hwr:IntKind.i64.wrap (dg d j+cst L (j:Int) (i:Int))=dg d j+cst L (j:Int) (i:Int):=wrap_id (by omega) (by omega)
              have de:(dg d j+cst L (j:Int) (i:Int)==way)=false:=beq_eq_false_iff_ne.2 fun q=>hg ⟨hp,q⟩
              clear hg
              generalize dg d j=x at *
              generalize dg p i=y at *
              generalize cst L (j:Int) (i:Int)=co at *
              go_wp2_with fail
              go_roundg (n - (j+1))
              case measure=>omega
              case rel=>exact ⟨j+1,by omega,by go_num,HG1,rfl⟩
            · have hz:cst L (j:Int) (i:Int)=0:=by omega
              rw [hz] at m0
              clear hg hp h1 h2 hz
              generalize dg d j=x at *
              generalize dg p i=y at *
              go_wp2_with fail
              go_roundg (n - (j+1))
              case measure=>omega
              case rel=>exact ⟨j+1,by omega,by go_num,HG1,rfl⟩
        · have hjz:¬ (j:Int)<(n:Int):=by omega
          obtain rfl:j=n:=by omega
          have HQ1:=hidden (HQ.out.no HG.out)
          go_wp2_with fail
          go_roundg (j - (i+1))
          case measure=>omega
          case rel=>exact ⟨i+1,p,by omega,by go_num,HQ1⟩
    · have hiz:¬ (i:Int)<(n:Int):=by omega
      obtain rfl:i=n:=by omega
      go_wp2_with fail
      go_ret
      exact ⟨gp,rfl,p,HQ.out.own,⟨own_ln HQ.out.own,HQ.out.old⟩,HQ.out.bel⟩

def BP (N r:Int) (L:List Ed) (p d:List Int):Prop:=(lf N L r≠0→p=[]∧d=[])∧(lf N L r=0→IsDist L N.toNat r.toNat d∧IsPars L d N.toNat p∧∀ x,dg d x≤16000000)
theorem BP.len {N r:Int} {L:List Ed} {p d:List Int} (h:BP N r L p d):p.length≤16∧d.length≤16:=by
  by_cases h0:lf N L r=0
  · obtain ⟨m,k,rfl,rfl,hk,hF⟩:=lf_zero h0
    obtain ⟨h1,h2,_⟩:=h.2 h0
    have e1:=h1.len
    have e2:=h2.len
    have:=hF.hi
    rw [e1,e2]
    simp only [Int.toNat_natCast]
    exact ⟨this,this⟩
  · obtain ⟨rfl,rfl⟩:=h.1 h0
    simp
structure BQ (w w':World) (N r:Int) (L:List Ed) (vp vd:Value) (p d:List Int):Prop where
  bp:BP N r L p d
  bel:Below w.heap.size w w'
  own1:w'.ownsRow w.heap.size 3 1 vp p.length (ic p)
  own2:w'.ownsRow w.heap.size 3 1 vd d.length (ic d)
set_option maxHeartbeats 8000000 in
set_option maxRecDepth 100000 in
theorem build_calls (N r:Int) (a:Option Addr) (n cap:Nat) (L:List Ed) (w:World) (h:EArg w a n L) (hnc:n≤cap) :
    Calls Tryz.prog 97 #[.int .i64 N,.slice a n cap,.int .i64 r] w fun e w'=>∃ vp vd p d,e=.returned (.tuple #[vp,vd,errv (lf N L r)])∧BQ w w' N r L vp vd p d:=by
  have C:=hidden (check_calls N a n cap L w h hnc)
  have HA:=hidden h
  clear h
  by_cases h0:ef N L=0
  · rw [h0,errv_zero] at C
    have C2:=hidden (fun w=>isNode_calls N r w)
    cases hi:isn N r with
    | false=>
      have hl:lf N L r=1:=by unfold lf;rw [if_neg (by simpa using h0),if_pos hi]
      have HP:Hid (BP N r L [] []):=⟨fun _=>⟨rfl,rfl⟩,fun q=>by omega⟩
      rw [hl]
      rw [hi] at C2
      clear hl hi h0
      go_enter Tryz.func97,Tryz.ntmps97
      go_wp2_with fail
      refine C.out.mono ?_
      rintro e w1 ⟨rfl,hw1⟩
      have HW:=hidden hw1
      clear hw1
      go_wp2_with fail
      refine (C2.out _).mono ?_
      rintro e w2 ⟨rfl,rfl⟩
      go_wp2_with fail
      go_ret3
      exact ⟨_,_,[],[],rfl,HP.out,HW.out,World.ownsRow_nil _ _ _ _,World.ownsRow_nil _ _ _ _⟩
    | true=>
      have hl:lf N L r=0:=by unfold lf;rw [if_neg (by simpa using h0),if_neg (by simp [hi])]
      obtain ⟨m,k,rfl,rfl,hk,hF⟩:=lf_zero hl
      have HP:Hid (∀ p d,IsDist L m k d→IsPars L d m p→(∀ x,dg d x≤16000000)→BP (m:Int) (k:Int) L p d):=fun p d h1 h2 h3=>⟨fun q=>absurd hl q,fun _=>⟨by simpa using h1,by simpa using h2,h3⟩⟩
      have HF:=hidden hF
      have HL:=hidden hl
      rw [hl]
      rw [hi] at C2
      rw [errv_zero]
      clear hl hi h0 hF
      have hz:=zeroM
      go_enter Tryz.func97,Tryz.ntmps97
      go_wp2_with fail
      refine C.out.mono ?_
      rintro e w1 ⟨rfl,hw1⟩
      have HW1:=hidden hw1
      have HA1:=hidden (HA.out.below hw1)
      clear hw1
      go_wp2_with fail
      refine (C2.out _).mono ?_
      rintro e w1' ⟨rfl,rfl⟩
      have C3:=hidden (costsOf_calls a n cap L m w1' HA1.out HF.out.hi HF.out.ok)
      go_wp2_with fail
      refine C3.out.mono ?_
      rintro e w2 ⟨M,rfl,hM,hw2⟩
      have HW2:Hid (Below w.heap.size w w2):=HW1.out.trans (hw2.mono HW1.out.size)
      have HM:=hidden hM
      have HZ:Hid ((Tryz.prog.info? 209).map (·.size)=some M.size):=hidden (by rw [hM.1];exact sizeM)
      have HD:Hid (zs.size=M.size):=hidden (by rw [hM.1];simp [zs])
      clear hw2 hM C C2 C3 HW1 HA1
      go_upto_region 7 with (refine wpList_store_row rfl 209 _ _ rfl w2.heap.size M rfl rfl 209 zs (heap_alloc_new w2 _) HZ.out HD.out HM.out.one ?_)
      rw [World.setRow_alloc_new]
      obtain ⟨w3,hw3⟩:∃ w3,w2.alloc (.cells M 209)=w3:=⟨_,rfl⟩
      have HW3:Hid (Below w.heap.size w w3):=by rw [← hw3];exact hidden (below_alloc HW2.out _)
      have HB3:Hid (w3.heap[w2.heap.size]?=some (.cells M 209 (0,0))):=by rw [← hw3];exact hidden (heap_alloc_new w2 _)
      rw [hw3]
      clear hw3
      have C4:=hidden (leastWays_calls M m k L w3 HM.out HF.out hk)
      go_wp2_with (refine wpList_load_row rfl 209 _ rfl w2.heap.size rfl 209 M (0,0) _ HB3.out Tryz.underlying209 rfl HZ.out ?_)
      refine C4.out.mono ?_
      rintro e w4 ⟨gd,d,rfl,ho4,hD,hbd,hb4⟩
      have HW4:Hid (Below w.heap.size w w4):=HW3.out.trans (hb4.mono HW3.out.size)
      have HB4:Hid (w4.heap[w2.heap.size]?=some (.cells M 209 (0,0))):=(hb4.block _ (lt_of_block HB3.out)).trans HB3.out
      have HO4:Hid (w4.ownsRow w.heap.size 3 1 (.slice (some ⟨gd,0,none⟩) m m) m (ic d)):=own_base ho4 HW3.out.size
      have hI:IArg w4 (some ⟨gd,0,none⟩) m d:=by
        obtain ⟨a,cap,e,h1,_⟩:=own_ints ho4 (by have:=HF.out.hi;omega)
        simp only [Value.slice.injEq] at e
        rw [e.1];exact h1
      have HDD:=hidden hD
      have HBD:=hidden hbd
      have C5:=hidden (leastParents_calls M (some ⟨gd,0,none⟩) m m L d w4 HM.out HF.out hI hD.low hbd)
      clear ho4 hD hbd hb4 hI C4 HW3 HB3
      go_wp2_with (refine wpList_load_row rfl 209 _ rfl w2.heap.size rfl 209 M (0,0) _ HB4.out Tryz.underlying209 rfl HZ.out ?_)
      refine C5.out.mono ?_
      rintro e w5 ⟨gp,p,rfl,ho5,hP,hb5⟩
      have HQ:Hid (BQ w w5 (m:Int) (k:Int) L (.slice (some ⟨gp,0,none⟩) m m) (.slice (some ⟨gd,0,none⟩) m m) p d):=by
        refine ⟨HP.out p d HDD.out hP HBD.out,HW4.out.trans (hb5.mono HW4.out.size),?_,?_⟩
        · rw [hP.len];exact own_base ho5 HW4.out.size
        · rw [HDD.out.len];exact own_below HO4.out hb5
      clear ho5 hP hb5
      go_wp2_with fail
      go_ret3
      exact ⟨_,_,p,d,rfl,HQ.out⟩
  · have hl:lf N L r=ef N L:=by unfold lf;rw [if_pos (by simpa using h0)]
    have HP:Hid (BP N r L [] []):=⟨fun _=>⟨rfl,rfl⟩,fun q=>absurd (hl.symm.trans q) h0⟩
    rw [hl]
    rw [errv_pos h0] at C ⊢
    generalize ef N L=f at *
    clear hl
    go_enter Tryz.func97,Tryz.ntmps97
    go_wp2_with fail
    refine C.out.mono ?_
    rintro e w1 ⟨rfl,hw1⟩
    have HW:=hidden hw1
    clear hw1
    go_wp2_with fail
    go_ret3
    exact ⟨_,_,[],[],rfl,HP.out,HW.out,World.ownsRow_nil _ _ _ _,World.ownsRow_nil _ _ _ _⟩
end Go.Proofs.YtlppdppddiecnaaGreatDoor.Tree
