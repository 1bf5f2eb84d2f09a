/-
  LayerA, LayerB, LayerC in one text.
-/
import Derived.Test.YtlppdppddiecnaaGreatDoorMathAll
import Derived.Test.YtlppdppddiecnaaGreatDoorPackAll
import Derived.Outline
import Derived.RegionTactic
import Derived.Deep.RegionHeld3

namespace Go.Proofs.YtlppdppddiecnaaGreatDoor.Layer
open Go.ChangeShapes Go.WideShapes Go.ChangeAt Go.RowKit Go.Proofs.YtlppdppddiecnaaGreatDoor.PM Go.Proofs.YtlppdppddiecnaaGreatDoor.Mem Go.Proofs.YtlppdppddiecnaaGreatDoor.Pack Go.Proofs.YtlppdppddiecnaaGreatDoor.LM
set_option linter.unusedVariables false

def LayerAt (w:World) (b:Nat) (m nw la:Int) (br:Bool):Prop:=w.heap[b]?=some (.cells #[.int .i64 m,.int .i64 nw,.int .i64 la,.bool br] 131 (0,0))
theorem LayerAt.cells {w:World} {b:Nat} {m nw la:Int} {br:Bool} (h:LayerAt w b m nw la br) :
    w.cell? ⟨b,0,none⟩=some (.int .i64 m)∧w.cell? ⟨b,1,none⟩=some (.int .i64 nw)∧w.cell? ⟨b,2,none⟩=some (.int .i64 la)∧w.cell? ⟨b,3,none⟩=some (.bool br):=by
  simp only [LayerAt] at h
  refine ⟨?_,?_,?_,?_⟩<;>simp [World.cell?,h]
theorem LayerAt.free {w:World} {b:Nat} {m nw la:Int} {br:Bool} (h:LayerAt w b m nw la br) (j:Nat):w.frozen? ⟨b,j,none⟩=false:=by
  simp only [LayerAt] at h
  simp [World.frozen?,h]
theorem LayerAt.lt {w:World} {b:Nat} {m nw la:Int} {br:Bool} (h:LayerAt w b m nw la br):b<w.heap.size:=lt_of_block h
theorem LayerAt.only {w w':World} {b:Nat} {m nw la:Int} {br:Bool} {bs:List Nat} (h:LayerAt w b m nw la br) (ho:Only bs w w') (hb:b∉bs):LayerAt w' b m nw la br:=ho.block h hb
theorem LayerAt.below {w w':World} {b:Nat} {m nw la:Int} {br:Bool} (h:LayerAt w b m nw la br) (hb:Below w.heap.size w w'):LayerAt w' b m nw la br:=h.only (Only.of_below hb []) (by simp)
theorem LayerAt.alloc {w:World} {b:Nat} {m nw la:Int} {br:Bool} (h:LayerAt w b m nw la br) (O:Obj):LayerAt (w.alloc O) b m nw la br:=h.below ((Below.refl _ _).alloc (Nat.le_refl _) O)
theorem LayerAt.setM {w:World} {b:Nat} {m nw la:Int} {br:Bool} (h:LayerAt w b m nw la br) (x:Int):LayerAt (w.setCell ⟨b,0,none⟩ (.int .i64 x)) b x nw la br:=heap_setCell_same w b 0 _ _ _ h
theorem LayerAt.setN {w:World} {b:Nat} {m nw la:Int} {br:Bool} (h:LayerAt w b m nw la br) (x:Int):LayerAt (w.setCell ⟨b,1,none⟩ (.int .i64 x)) b m x la br:=heap_setCell_same w b 1 _ _ _ h
theorem LayerAt.setL {w:World} {b:Nat} {m nw la:Int} {br:Bool} (h:LayerAt w b m nw la br) (x:Int):LayerAt (w.setCell ⟨b,2,none⟩ (.int .i64 x)) b m nw x br:=heap_setCell_same w b 2 _ _ _ h
theorem LayerAt.setB {w:World} {b:Nat} {m nw la:Int} {br:Bool} (h:LayerAt w b m nw la br) (x:Bool):LayerAt (w.setCell ⟨b,3,none⟩ (.bool x)) b m nw la x:=heap_setCell_same w b 3 _ _ _ h

theorem mayBe_calls (y:Int) (w:World) :
    Calls Tryz.prog 66 #[.int .i64 y] w fun e w'=>e=.returned (.bool (decide (0≤y∧y≤3)))∧w'=w:=by
  by_cases h:0≤y
  · have d:decide (0≤y)=true:=by simpa using h
    go_enter Tryz.func66,Tryz.ntmps66
    go_wp2_with fail
    go_ret
    exact ⟨by simp [h],rfl⟩
  · have d:decide (0≤y)=false:=by simpa using h
    go_enter Tryz.func66,Tryz.ntmps66
    go_wp2_with fail
    go_ret
    exact ⟨by simp,rfl⟩
theorem mayBe_yes (y:Int) (w:World) (h0:0≤y) (h1:y≤3) :
    Calls Tryz.prog 66 #[.int .i64 y] w fun e w'=>e=.returned (.bool true)∧w'=w:=by
  have:=mayBe_calls y w
  rw [show decide (0≤y∧y≤3)=true by simp [h0,h1]] at this
  exact this
theorem mayBe_no (y:Int) (w:World) (h:y<0∨3<y) :
    Calls Tryz.prog 66 #[.int .i64 y] w fun e w'=>e=.returned (.bool false)∧w'=w:=by
  have:=mayBe_calls y w
  rw [show decide (0≤y∧y≤3)=false by simp;omega] at this
  exact this

theorem new_ok (m:Int) (w:World) (h0:0≤m) (h1:m≤3) :
    Calls Tryz.prog 40 #[.int .i64 m] w fun e w'=>∃ b,e=.returned (.tuple #[.pointer (some ⟨b,0,none⟩),.nilIface])∧w.heap.size≤b∧LayerAt w' b m (-1) (-1) false∧Below w.heap.size w w':=by
  have H:=hidden (fun W=>mayBe_yes m W h0 h1)
  go_enter Tryz.func40,Tryz.ntmps40
  go_wp2_with fail
  refine (H.out _).mono ?_
  rintro e w1 ⟨rfl,rfl⟩
  go_wp2_with fail
  go_ret2
  exact ⟨_,rfl,Nat.le_refl _,heap_alloc_new _ _,(Below.refl _ _).alloc (Nat.le_refl _) _⟩
theorem new_err (m:Int) (w:World) (h:m<0∨3<m) :
    Calls Tryz.prog 40 #[.int .i64 m] w fun e w'=>e=.returned (.tuple #[.pointer none,errv 1])∧w'=w:=by
  have H:=hidden (fun W=>mayBe_no m W h)
  clear h
  go_enter Tryz.func40,Tryz.ntmps40
  go_wp2_with fail
  refine (H.out _).mono ?_
  rintro e w1 ⟨rfl,rfl⟩
  go_wp2_with fail
  go_ret2
  exact ⟨rfl,rfl⟩
set_option maxHeartbeats 1000000 in
theorem wants_calls (b:Nat) (m nw la:Int) (br:Bool) (w:World) (h:LayerAt w b m nw la br) :
    Calls Tryz.prog 147 #[.pointer (some ⟨b,0,none⟩)] w fun e w'=>e=.returned (.bool (wants m nw br))∧∃ k,w'=w.drewN k:=by
  obtain ⟨c0,c1,c2,c3⟩:=h.cells
  clear h c2
  by_cases p:nw=-1
  · have e:wants m nw br=true:=by simp [wants,p]
    rw [e]
    subst p
    clear e
    go_enter Tryz.func147,Tryz.ntmps147
    go_wp2_with fail
    go_quiet (fail)
    go_wp2_with fail
    go_ret
    exact ⟨rfl,_,rfl⟩
  · have e:wants m nw br=(br||decide (m<nw)):=by simp [wants,p]
    rw [e]
    clear e
    have d1:(nw==-1)=false:=by simpa using p
    have d2:decide (nw=-1)=false:=by simpa using p
    clear p
    cases br with
    | true=>
      go_enter Tryz.func147,Tryz.ntmps147
      go_wp2_with fail
      go_quiet (fail)
      go_wp2_with fail
      go_ret
      exact ⟨rfl,_,rfl⟩
    | false=>
      go_enter Tryz.func147,Tryz.ntmps147
      go_wp2_with fail
      go_quiet (fail)
      go_wp2_with fail
      go_ret
      exact ⟨rfl,_,rfl⟩

def IBox (w:World) (h:Nat) (n:Int) (g:Bool) (s t l q:Int) (st:Bool) (bv:Value):Prop:=w.heap[h]?=some (.cells #[.int .i64 n,.bool g,.int .i64 s,.int .i64 t,.int .i64 l,.int .i64 q,.bool st,bv] 89 (0,0))
theorem IBox.new (w:World) (n:Int) (g:Bool) (s t l q:Int) (st:Bool) (bv:Value):IBox (w.alloc (.cells #[.int .i64 n,.bool g,.int .i64 s,.int .i64 t,.int .i64 l,.int .i64 q,.bool st,bv] 89)) w.heap.size n g s t l q st bv:=heap_alloc_new w _
theorem IBox.lt {w:World} {h:Nat} {n:Int} {g:Bool} {s t l q:Int} {st:Bool} {bv:Value} (hx:IBox w h n g s t l q st bv):h<w.heap.size:=lt_of_block hx
theorem IBox.below {w w':World} {h B:Nat} {n:Int} {g:Bool} {s t l q:Int} {st:Bool} {bv:Value} (hx:IBox w h n g s t l q st bv) (hb:Below B w w') (hB:h<B):IBox w' h n g s t l q st bv:=(hb.block h hB).trans hx
theorem IBox.cells {w:World} {h:Nat} {n:Int} {g:Bool} {s t l q:Int} {st:Bool} {bv:Value} (hx:IBox w h n g s t l q st bv) :
    w.cell? ⟨h,0,none⟩=some (.int .i64 n)∧w.cell? ⟨h,1,none⟩=some (.bool g)∧w.cell? ⟨h,2,none⟩=some (.int .i64 s)∧w.cell? ⟨h,3,none⟩=some (.int .i64 t)∧w.cell? ⟨h,4,none⟩=some (.int .i64 l)∧w.cell? ⟨h,5,none⟩=some (.int .i64 q)∧w.cell? ⟨h,6,none⟩=some (.bool st)∧w.cell? ⟨h,7,none⟩=some bv:=by
  simp only [IBox] at hx
  simp [World.cell?,hx]

set_option maxHeartbeats 2000000 in
set_option maxRecDepth 100000 in
theorem check_calls (b:Nat) (m nw la n:Int) (br g:Bool) (s t l q:Int) (st:Bool) (a:Option Addr) (k c:Nat) (w:World) (h:LayerAt w b m nw la br) :
    Calls Tryz.prog 125 #[.pointer (some ⟨b,0,none⟩),.agg #[.int .i64 n,.bool g,.int .i64 s,.int .i64 t,.int .i64 l,.int .i64 q,.bool st,.slice a k c]] w fun e w'=>e=.returned (errv (tkf la n g (fault s t l q k)))∧Below w.heap.size w w':=by
  have HL:=hidden (h.alloc (.cells #[.int .i64 n,.bool g,.int .i64 s,.int .i64 t,.int .i64 l,.int .i64 q,.bool st,.slice a k c] 89))
  have HX:=hidden (IBox.new w n g s t l q st (.slice a k c))
  clear h
  by_cases p0:n<0
  · have d0:decide (n<0)=true:=by simpa using p0
    rw [tkf_range (.inl p0)]
    go_enter Tryz.func125,Tryz.ntmps125
    go_wp2_with fail
    go_ret
    exact ⟨rfl,(Below.refl _ _).alloc (Nat.le_refl _) _⟩
  have d0:decide (n<0)=false:=by simpa using p0
  by_cases p1:1099511627776<n
  · have d1:decide (1099511627776<n)=true:=by simpa using p1
    rw [tkf_range (.inr p1)]
    go_enter Tryz.func125,Tryz.ntmps125
    go_wp2_with fail
    go_ret
    exact ⟨rfl,(Below.refl _ _).alloc (Nat.le_refl _) _⟩
  have d1:decide (1099511627776<n)=false:=by simpa using p1
  obtain ⟨c0,c1,c2,c3⟩:=HL.out.cells
  obtain ⟨x0,x1,x2,x3,x4,x5,x6,x7⟩:=HX.out.cells
  clear c0 c1 c3
  by_cases p2:n≤la
  · have d2:decide (n≤la)=true:=by simpa using p2
    rw [tkf_state (by omega) (by omega) p2]
    go_enter Tryz.func125,Tryz.ntmps125
    go_wp2_with fail
    go_quiet (fail)
    go_wp2_with fail
    go_ret
    exact ⟨rfl,below_drewN ((Below.refl _ _).alloc (Nat.le_refl _) _) _⟩
  have d2:decide (n≤la)=false:=by simpa using p2
  cases g with
  | true=>
    rw [tkf_gone (by omega) (by omega) p2]
    clear p0 p1 p2
    go_enter Tryz.func125,Tryz.ntmps125
    go_wp2_with fail
    go_quiet (fail)
    go_wp2_with fail
    go_ret
    exact ⟨rfl,below_drewN ((Below.refl _ _).alloc (Nat.le_refl _) _) _⟩
  | false=>
    rw [tkf_pack (by omega) (by omega) p2]
    clear p0 p1 p2
    have HC:=hidden (fun W=>Pack.check_calls s t l q st a k c W)
    generalize fault s t l q k=ft at *
    go_enter Tryz.func125,Tryz.ntmps125
    go_wp2_with fail
    go_quiet (fail)
    go_wp2_with fail
    refine (HC.out _).mono ?_
    rintro e w2 ⟨rfl,hb⟩
    go_wp2_with fail
    go_ret
    have hb0:Below w.heap.size w ((w.alloc (.cells #[.int .i64 n,.bool false,.int .i64 s,.int .i64 t,.int .i64 l,.int .i64 q,.bool st,.slice a k c] 89)).drewN nq):=below_drewN ((Below.refl _ _).alloc (Nat.le_refl _) _) _
    exact ⟨rfl,hb0.trans (hb.mono hb0.size)⟩

set_option maxHeartbeats 2000000 in
set_option maxRecDepth 100000 in
theorem pass_above (b:Nat) (m nw la:Int) (br:Bool) (s t l q:Int) (st:Bool) (bv:Value) (w:World) (h:LayerAt w b m nw la br) (hl:m<l) :
    Calls Tryz.prog 126 #[.pointer (some ⟨b,0,none⟩),.agg #[.int .i64 s,.int .i64 t,.int .i64 l,.int .i64 q,.bool st,bv]] w fun e w'=>e=.returned (.bool false)∧Below w.heap.size w w':=by
  have HL:=hidden (h.alloc (.cells #[.int .i64 s,.int .i64 t,.int .i64 l,.int .i64 q,.bool st,bv] 87))
  have HX:=hidden (Box.new w s t l q st bv)
  have hlt:=h.lt
  clear h
  obtain ⟨c0,c1,c2,c3⟩:=HL.out.cells
  obtain ⟨x0,x1,x2,x3,x4,x5⟩:=HX.out.cells
  clear x0 x1 x3 x5 c1 c2 c3
  have d:decide (m<l)=true:=by simpa using hl
  clear x4
  go_enter Tryz.func126,Tryz.ntmps126
  go_wp2_with fail
  go_quiet (fail)
  go_wp2_with fail
  go_ret
  exact ⟨rfl,below_drewN ((Below.refl _ _).alloc (Nat.le_refl _) _) _⟩
set_option maxHeartbeats 2000000 in
set_option maxRecDepth 100000 in
theorem pass_same (b:Nat) (m nw la:Int) (br:Bool) (s t l q:Int) (bv:Value) (w:World) (h:LayerAt w b m nw la br) (hl:¬ m<l) (hn:l=nw) :
    Calls Tryz.prog 126 #[.pointer (some ⟨b,0,none⟩),.agg #[.int .i64 s,.int .i64 t,.int .i64 l,.int .i64 q,.bool false,bv]] w fun e w'=>e=.returned (.bool (!br))∧Below w.heap.size w w':=by
  have HL:=hidden (h.alloc (.cells #[.int .i64 s,.int .i64 t,.int .i64 l,.int .i64 q,.bool false,bv] 87))
  have HX:=hidden (Box.new w s t l q false bv)
  have hlt:=h.lt
  clear h
  obtain ⟨c0,c1,c2,c3⟩:=HL.out.cells
  obtain ⟨x0,x1,x2,x3,x4,x5⟩:=HX.out.cells
  clear x0 x1 x3 x5 c1 c2 c3
  have d:decide (m<l)=false:=by simpa using hl
  subst hn
  have d1:(l==l)=true:=by simp
  go_enter Tryz.func126,Tryz.ntmps126
  go_wp2_with fail
  go_quiet (fail)
  obtain ⟨wq,hwq⟩:∃ wq,(w.alloc (.cells #[.int .i64 s,.int .i64 t,.int .i64 l,.int .i64 q,.bool false,bv] 87)).drewN nq=wq:=⟨_,rfl⟩
  have HLq:Hid (LayerAt wq b m l la br):=by rw [← hwq];exact HL.out.below (below_drewN (Below.refl _ _) _)
  have HXq:Hid (Box wq w.heap.size s t l q false bv):=by rw [← hwq];exact HX.out.below (below_drewN (Below.refl _ _) _) HX.out.lt
  have HBq:Hid (Below w.heap.size w wq):=by rw [← hwq];exact below_drewN ((Below.refl _ _).alloc (Nat.le_refl _) _) _
  rw [hwq]
  clear hwq HL HX c0 x2 x4
  obtain ⟨c0,c1,c2,c3⟩:=HLq.out.cells
  obtain ⟨x0,x1,x2,x3,x4,x5⟩:=HXq.out.cells
  clear x0 x1 x3 x5 c2
  go_wp2_with fail
  go_quiet (fail)
  go_wp2_with fail
  go_ret
  exact ⟨rfl,below_drewN HBq.out _⟩
set_option maxHeartbeats 2000000 in
set_option maxRecDepth 100000 in
theorem pass_other (b:Nat) (m nw la:Int) (br:Bool) (s t l q:Int) (bv:Value) (w:World) (h:LayerAt w b m nw la br) (hl:¬ m<l) (hn:¬ l=nw) :
    Calls Tryz.prog 126 #[.pointer (some ⟨b,0,none⟩),.agg #[.int .i64 s,.int .i64 t,.int .i64 l,.int .i64 q,.bool false,bv]] w fun e w'=>e=.returned (.bool (false))∧Below w.heap.size w w':=by
  have HL:=hidden (h.alloc (.cells #[.int .i64 s,.int .i64 t,.int .i64 l,.int .i64 q,.bool false,bv] 87))
  have HX:=hidden (Box.new w s t l q false bv)
  have hlt:=h.lt
  clear h
  obtain ⟨c0,c1,c2,c3⟩:=HL.out.cells
  obtain ⟨x0,x1,x2,x3,x4,x5⟩:=HX.out.cells
  clear x0 x1 x3 x5 c1 c2 c3
  have d:decide (m<l)=false:=by simpa using hl
  have d1:(l==nw)=false:=by simpa using hn
  have d2:decide (l=nw)=false:=by simpa using hn
  clear hn
  go_enter Tryz.func126,Tryz.ntmps126
  go_wp2_with fail
  go_quiet (fail)
  obtain ⟨wq,hwq⟩:∃ wq,(w.alloc (.cells #[.int .i64 s,.int .i64 t,.int .i64 l,.int .i64 q,.bool false,bv] 87)).drewN nq=wq:=⟨_,rfl⟩
  have HLq:Hid (LayerAt wq b m nw la br):=by rw [← hwq];exact HL.out.below (below_drewN (Below.refl _ _) _)
  have HXq:Hid (Box wq w.heap.size s t l q false bv):=by rw [← hwq];exact HX.out.below (below_drewN (Below.refl _ _) _) HX.out.lt
  have HBq:Hid (Below w.heap.size w wq):=by rw [← hwq];exact below_drewN ((Below.refl _ _).alloc (Nat.le_refl _) _) _
  rw [hwq]
  clear hwq HL HX c0 x2 x4
  obtain ⟨c0,c1,c2,c3⟩:=HLq.out.cells
  obtain ⟨x0,x1,x2,x3,x4,x5⟩:=HXq.out.cells
  clear x0 x1 x3 x5 c2
  go_wp2_with fail
  go_quiet (fail)
  go_wp2_with fail
  go_ret
  exact ⟨rfl,below_drewN HBq.out _⟩
set_option maxHeartbeats 2000000 in
set_option maxRecDepth 100000 in
theorem pass_no (b:Nat) (m nw la:Int) (br:Bool) (s t l q:Int) (bv:Value) (w:World) (h:LayerAt w b m nw la br) (hl:¬ m<l) (hn:l<nw) (hw:wants m nw br=false) :
    Calls Tryz.prog 126 #[.pointer (some ⟨b,0,none⟩),.agg #[.int .i64 s,.int .i64 t,.int .i64 l,.int .i64 q,.bool true,bv]] w fun e w'=>e=.returned (.bool false)∧Below w.heap.size w w':=by
  have HL:=hidden (h.alloc (.cells #[.int .i64 s,.int .i64 t,.int .i64 l,.int .i64 q,.bool true,bv] 87))
  have HX:=hidden (Box.new w s t l q true bv)
  have hlt:=h.lt
  clear h
  obtain ⟨c0,c1,c2,c3⟩:=HL.out.cells
  obtain ⟨x0,x1,x2,x3,x4,x5⟩:=HX.out.cells
  clear x0 x1 x3 x5 c1 c2 c3
  have d:decide (m<l)=false:=by simpa using hl
  have d1:decide (l<nw)=true:=by simpa using hn
  have HW:Hid (∀ W,LayerAt W b m nw la br→Calls Tryz.prog 147 #[.pointer (some ⟨b,0,none⟩)] W fun e w'=>e=.returned (.bool false)∧∃ k,w'=W.drewN k):=hidden (fun W hW=>by have:=wants_calls b m nw la br W hW;rw [hw] at this;exact this)
  clear hw
  go_enter Tryz.func126,Tryz.ntmps126
  go_wp2_with fail
  go_quiet (fail)
  obtain ⟨wq,hwq⟩:∃ wq,(w.alloc (.cells #[.int .i64 s,.int .i64 t,.int .i64 l,.int .i64 q,.bool true,bv] 87)).drewN nq=wq:=⟨_,rfl⟩
  have HLq:Hid (LayerAt wq b m nw la br):=by rw [← hwq];exact HL.out.below (below_drewN (Below.refl _ _) _)
  have HXq:Hid (Box wq w.heap.size s t l q true bv):=by rw [← hwq];exact HX.out.below (below_drewN (Below.refl _ _) _) HX.out.lt
  have HBq:Hid (Below w.heap.size w wq):=by rw [← hwq];exact below_drewN ((Below.refl _ _).alloc (Nat.le_refl _) _) _
  rw [hwq]
  clear hwq HL HX c0 x2 x4
  obtain ⟨c0,c1,c2,c3⟩:=HLq.out.cells
  obtain ⟨x0,x1,x2,x3,x4,x5⟩:=HXq.out.cells
  clear x0 x1 x3 x5 c2
  go_wp2_with fail
  go_quiet ((go_at_call 147;exact Calls.quiet_of (HW.out _ (by exact HLq.out))))
  go_wp2_with fail
  go_ret
  exact ⟨rfl,below_drewN HBq.out _⟩
set_option maxHeartbeats 2000000 in
set_option maxRecDepth 100000 in
theorem pass_down (b:Nat) (m nw la:Int) (br:Bool) (s t l q:Int) (bv:Value) (w:World) (h:LayerAt w b m nw la br) (hl:¬ m<l) (hn:l<nw) (hw:wants m nw br=true) :
    Calls Tryz.prog 126 #[.pointer (some ⟨b,0,none⟩),.agg #[.int .i64 s,.int .i64 t,.int .i64 l,.int .i64 q,.bool true,bv]] w fun e w'=>e=.returned (.bool true)∧LayerAt w' b m l la false∧Only [b] w w':=by
  have HL:=hidden (h.alloc (.cells #[.int .i64 s,.int .i64 t,.int .i64 l,.int .i64 q,.bool true,bv] 87))
  have HX:=hidden (Box.new w s t l q true bv)
  have hlt:=h.lt
  clear h
  obtain ⟨c0,c1,c2,c3⟩:=HL.out.cells
  obtain ⟨x0,x1,x2,x3,x4,x5⟩:=HX.out.cells
  clear x0 x1 x3 x5 c1 c2 c3
  have d:decide (m<l)=false:=by simpa using hl
  have d1:decide (l<nw)=true:=by simpa using hn
  have HW:Hid (∀ W,LayerAt W b m nw la br→Calls Tryz.prog 147 #[.pointer (some ⟨b,0,none⟩)] W fun e w'=>e=.returned (.bool true)∧∃ k,w'=W.drewN k):=hidden (fun W hW=>by have:=wants_calls b m nw la br W hW;rw [hw] at this;exact this)
  clear hw
  go_enter Tryz.func126,Tryz.ntmps126
  go_wp2_with fail
  go_quiet (fail)
  obtain ⟨wq,hwq⟩:∃ wq,(w.alloc (.cells #[.int .i64 s,.int .i64 t,.int .i64 l,.int .i64 q,.bool true,bv] 87)).drewN nq=wq:=⟨_,rfl⟩
  have HLq:Hid (LayerAt wq b m nw la br):=by rw [← hwq];exact HL.out.below (below_drewN (Below.refl _ _) _)
  have HXq:Hid (Box wq w.heap.size s t l q true bv):=by rw [← hwq];exact HX.out.below (below_drewN (Below.refl _ _) _) HX.out.lt
  have HBq:Hid (Below w.heap.size w wq):=by rw [← hwq];exact below_drewN ((Below.refl _ _).alloc (Nat.le_refl _) _) _
  rw [hwq]
  clear hwq HL HX c0 x2 x4
  obtain ⟨c0,c1,c2,c3⟩:=HLq.out.cells
  obtain ⟨x0,x1,x2,x3,x4,x5⟩:=HXq.out.cells
  clear x0 x1 x3 x5 c2
  go_wp2_with fail
  go_quiet ((go_at_call 147;exact Calls.quiet_of (HW.out _ (by exact HLq.out))))
  obtain ⟨wp,hwp⟩:∃ wp,wq.drewN nq=wp:=⟨_,rfl⟩
  have HLp:Hid (LayerAt wp b m nw la br):=by rw [← hwp];exact HLq.out.below (below_drewN (Below.refl _ _) _)
  have HXp:Hid (Box wp w.heap.size s t l q true bv):=by rw [← hwp];exact HXq.out.below (below_drewN (Below.refl _ _) _) HXq.out.lt
  have HBp:Hid (Below w.heap.size w wp):=by rw [← hwp];exact below_drewN HBq.out _
  rw [hwp]
  clear hwp HLq HXq HBq c0 c1 c3 x2 x4
  obtain ⟨c0,c1,c2,c3⟩:=HLp.out.cells
  obtain ⟨x0,x1,x2,x3,x4,x5⟩:=HXp.out.cells
  have f1:=HLp.out.free 1
  have f3:=HLp.out.free 3
  clear x0 x1 x3 x4 x5 c0 c2
  go_wp2_with fail
  go_ret
  exact ⟨rfl,(HLp.out.setN l).setB false,((Only.of_below HBp.out [b]).setCell (by simp) _).setCell (by simp) _⟩
set_option maxHeartbeats 2000000 in
set_option maxRecDepth 100000 in
theorem pass_up (b:Nat) (m nw la:Int) (br:Bool) (s t l q:Int) (bv:Value) (w:World) (h:LayerAt w b m nw la br) (hl:¬ m<l) (hn:¬ l<nw) :
    Calls Tryz.prog 126 #[.pointer (some ⟨b,0,none⟩),.agg #[.int .i64 s,.int .i64 t,.int .i64 l,.int .i64 q,.bool true,bv]] w fun e w'=>e=.returned (.bool true)∧LayerAt w' b m l la false∧Only [b] w w':=by
  have HL:=hidden (h.alloc (.cells #[.int .i64 s,.int .i64 t,.int .i64 l,.int .i64 q,.bool true,bv] 87))
  have HX:=hidden (Box.new w s t l q true bv)
  have hlt:=h.lt
  clear h
  obtain ⟨c0,c1,c2,c3⟩:=HL.out.cells
  obtain ⟨x0,x1,x2,x3,x4,x5⟩:=HX.out.cells
  clear x0 x1 x3 x5 c1 c2 c3
  have d:decide (m<l)=false:=by simpa using hl
  have d1:decide (l<nw)=false:=by simpa using hn
  go_enter Tryz.func126,Tryz.ntmps126
  go_wp2_with fail
  go_quiet (fail)
  obtain ⟨wq,hwq⟩:∃ wq,(w.alloc (.cells #[.int .i64 s,.int .i64 t,.int .i64 l,.int .i64 q,.bool true,bv] 87)).drewN nq=wq:=⟨_,rfl⟩
  have HLq:Hid (LayerAt wq b m nw la br):=by rw [← hwq];exact HL.out.below (below_drewN (Below.refl _ _) _)
  have HXq:Hid (Box wq w.heap.size s t l q true bv):=by rw [← hwq];exact HX.out.below (below_drewN (Below.refl _ _) _) HX.out.lt
  have HBq:Hid (Below w.heap.size w wq):=by rw [← hwq];exact below_drewN ((Below.refl _ _).alloc (Nat.le_refl _) _) _
  rw [hwq]
  clear hwq HL HX c0 x2 x4
  obtain ⟨c0,c1,c2,c3⟩:=HLq.out.cells
  obtain ⟨x0,x1,x2,x3,x4,x5⟩:=HXq.out.cells
  clear x0 x1 x3 x5 c2
  go_wp2_with fail
  go_quiet (fail)
  obtain ⟨wp,hwp⟩:∃ wp,wq.drewN nq=wp:=⟨_,rfl⟩
  have HLp:Hid (LayerAt wp b m nw la br):=by rw [← hwp];exact HLq.out.below (below_drewN (Below.refl _ _) _)
  have HXp:Hid (Box wp w.heap.size s t l q true bv):=by rw [← hwp];exact HXq.out.below (below_drewN (Below.refl _ _) _) HXq.out.lt
  have HBp:Hid (Below w.heap.size w wp):=by rw [← hwp];exact below_drewN HBq.out _
  rw [hwp]
  clear hwp HLq HXq HBq c0 c1 c3 x2 x4
  obtain ⟨c0,c1,c2,c3⟩:=HLp.out.cells
  obtain ⟨x0,x1,x2,x3,x4,x5⟩:=HXp.out.cells
  have f1:=HLp.out.free 1
  have f3:=HLp.out.free 3
  clear x0 x1 x3 x4 x5 c0 c2
  go_wp2_with fail
  go_ret
  exact ⟨rfl,(HLp.out.setN l).setB false,((Only.of_below HBp.out [b]).setCell (by simp) _).setCell (by simp) _⟩
theorem pass_calls (b:Nat) (m nw la:Int) (br:Bool) (s t l q:Int) (st:Bool) (bv:Value) (w:World) (h:LayerAt w b m nw la br) (hl:0≤l) :
    Calls Tryz.prog 126 #[.pointer (some ⟨b,0,none⟩),.agg #[.int .i64 s,.int .i64 t,.int .i64 l,.int .i64 q,.bool st,bv]] w fun e w'=>e=.returned (.bool (goes m nw l br st))∧LayerAt w' b m (if goes m nw l br st&&st then l else nw) la (if goes m nw l br st&&st then false else br)∧Only [b] w w':=by
  by_cases p0:m<l
  · have e:goes m nw l br st=false:=by simp [goes];omega
    rw [e]
    refine (pass_above b m nw la br s t l q st bv w h p0).mono ?_
    rintro e w' ⟨rfl,hb⟩
    exact ⟨rfl,h.below hb,Only.of_below hb _⟩
  have p0':l≤m:=by omega
  cases st with
  | false=>
    have e:goes m nw l br false=(decide (l=nw)&&!br):=by simp [goes,p0']
    rw [e]
    by_cases p1:l=nw
    · refine (pass_same b m nw la br s t l q bv w h p0 p1).mono ?_
      rintro e w' ⟨rfl,hb⟩
      refine ⟨by simp [p1],?_,Only.of_below hb _⟩
      simpa using h.below hb
    · refine (pass_other b m nw la br s t l q bv w h p0 p1).mono ?_
      rintro e w' ⟨rfl,hb⟩
      refine ⟨by simp [p1],?_,Only.of_below hb _⟩
      simpa using h.below hb
  | true=>
    by_cases p1:l<nw
    · have e:goes m nw l br true=wants m nw br:=by
        have h1:¬ nw≤l:=by omega
        have h2:¬ nw=-1:=by omega
        simp [goes,wants,p0',h1,h2]
      rw [e]
      cases hw:wants m nw br with
      | false=>
        refine (pass_no b m nw la br s t l q bv w h p0 p1 hw).mono ?_
        rintro e w' ⟨rfl,hb⟩
        exact ⟨rfl,h.below hb,Only.of_below hb _⟩
      | true=>
        refine (pass_down b m nw la br s t l q bv w h p0 p1 hw).mono ?_
        rintro e w' ⟨rfl,hb,ho⟩
        exact ⟨rfl,hb,ho⟩
    · have e:goes m nw l br true=true:=by
        have h1:nw≤l:=by omega
        simp [goes,p0',h1]
      rw [e]
      refine (pass_up b m nw la br s t l q bv w h p0 p1).mono ?_
      rintro e w' ⟨rfl,hb,ho⟩
      exact ⟨rfl,hb,ho⟩

set_option maxHeartbeats 2000000 in
set_option maxRecDepth 100000 in
theorem take_err (b:Nat) (m nw la n:Int) (br g:Bool) (s t l q:Int) (st:Bool) (a:Option Addr) (k c:Nat) (w:World) (h:LayerAt w b m nw la br) (hf:tkf la n g (fault s t l q k)≠0) :
    Calls Tryz.prog 95 #[.pointer (some ⟨b,0,none⟩),.agg #[.int .i64 n,.bool g,.int .i64 s,.int .i64 t,.int .i64 l,.int .i64 q,.bool st,.slice a k c]] w fun e w'=>e=.returned (.tuple #[.bool false,errv (tkf la n g (fault s t l q k))])∧Below w.heap.size w w':=by
  have HL:=hidden (h.alloc (.cells #[.int .i64 n,.bool g,.int .i64 s,.int .i64 t,.int .i64 l,.int .i64 q,.bool st,.slice a k c] 89))
  have HX:=hidden (IBox.new w n g s t l q st (.slice a k c))
  have hlt:=h.lt
  have HC:Hid (∀ W,LayerAt W b m nw la br→Calls Tryz.prog 125 #[.pointer (some ⟨b,0,none⟩),.agg #[.int .i64 n,.bool g,.int .i64 s,.int .i64 t,.int .i64 l,.int .i64 q,.bool st,.slice a k c]] W fun e w'=>e=.returned (errv (tkf la n g (fault s t l q k)))∧Below W.heap.size W w'):=hidden (fun W hW=>check_calls b m nw la n br g s t l q st a k c W hW)
  clear h
  generalize tkf la n g (fault s t l q k)=f at *
  rw [errv_pos hf] at *
  clear hf
  obtain ⟨x0,x1,x2,x3,x4,x5,x6,x7⟩:=HX.out.cells
  go_enter Tryz.func95,Tryz.ntmps95
  go_wp2_with fail
  refine (HC.out _ HL.out).mono ?_
  rintro e w1 ⟨rfl,hb⟩
  have HB1:Hid (Below w.heap.size w w1):=hidden (((Below.refl _ _).alloc (Nat.le_refl _) _).trans (hb.mono (by simp)))
  have HX1:=hidden (HX.out.below hb HX.out.lt)
  have HL1:=hidden (HL.out.below hb)
  clear hb HC HL HX x0 x1 x2 x3 x4 x5 x6 x7
  go_wp2_with fail
  go_ret2
  exact ⟨rfl,HB1.out⟩
set_option maxHeartbeats 2000000 in
set_option maxRecDepth 100000 in
theorem take_gone (b:Nat) (m nw la n:Int) (br:Bool) (s t l q:Int) (st:Bool) (a:Option Addr) (k c:Nat) (w:World) (h:LayerAt w b m nw la br) (hf:tkf la n true (fault s t l q k)=0) :
    Calls Tryz.prog 95 #[.pointer (some ⟨b,0,none⟩),.agg #[.int .i64 n,.bool true,.int .i64 s,.int .i64 t,.int .i64 l,.int .i64 q,.bool st,.slice a k c]] w fun e w'=>e=.returned (.tuple #[.bool false,.nilIface])∧LayerAt w' b m nw n (decide (nw≠-1))∧Only [b] w w':=by
  have HL:=hidden (h.alloc (.cells #[.int .i64 n,.bool true,.int .i64 s,.int .i64 t,.int .i64 l,.int .i64 q,.bool st,.slice a k c] 89))
  have HX:=hidden (IBox.new w n true s t l q st (.slice a k c))
  have hlt:=h.lt
  have HC:Hid (∀ W,LayerAt W b m nw la br→Calls Tryz.prog 125 #[.pointer (some ⟨b,0,none⟩),.agg #[.int .i64 n,.bool true,.int .i64 s,.int .i64 t,.int .i64 l,.int .i64 q,.bool st,.slice a k c]] W fun e w'=>e=.returned (errv (tkf la n true (fault s t l q k)))∧Below W.heap.size W w'):=hidden (fun W hW=>check_calls b m nw la n br true s t l q st a k c W hW)
  clear h
  rw [hf,errv_zero] at HC
  clear hf
  obtain ⟨x0,x1,x2,x3,x4,x5,x6,x7⟩:=HX.out.cells
  go_enter Tryz.func95,Tryz.ntmps95
  go_wp2_with fail
  refine (HC.out _ HL.out).mono ?_
  rintro e w1 ⟨rfl,hb⟩
  have HB1:Hid (Below w.heap.size w w1):=hidden (((Below.refl _ _).alloc (Nat.le_refl _) _).trans (hb.mono (by simp)))
  have HX1:=hidden (HX.out.below hb HX.out.lt)
  have HL1:=hidden (HL.out.below hb)
  clear hb HC HL HX x0 x1 x2 x3 x4 x5 x6 x7
  obtain ⟨x0,x1,x2,x3,x4,x5,x6,x7⟩:=HX1.out.cells
  obtain ⟨c0,c1,c2,c3⟩:=HL1.out.cells
  have f2:=HL1.out.free 2
  have f3:=HL1.out.free 3
  have hne:¬ w.heap.size=b:=by omega
  have hne':¬ b=w.heap.size:=by omega
  clear c0 x2 x3 x4 x5 x6 x7
  go_wp2_with fail
  go_ret2
  have h1:=(HL1.out.setL n).setB (decide (nw≠-1))
  refine ⟨rfl,?_,((Only.of_below HB1.out [b]).setCell (by simp) _).setCell (by simp) _⟩
  have e:(nw != -1)=decide (nw≠-1):=by by_cases p:nw=-1<;>simp [p]
  first | exact h1 | (rw [e];exact h1) | (rw [← e] at h1 ⊢;exact h1)
set_option maxHeartbeats 2000000 in
set_option maxRecDepth 100000 in
theorem take_pack (b:Nat) (m nw la n:Int) (br:Bool) (s t l q:Int) (st:Bool) (a:Option Addr) (k c:Nat) (w:World) (h:LayerAt w b m nw la br) (hf:tkf la n false (fault s t l q k)=0) (hl:0≤l) :
    Calls Tryz.prog 95 #[.pointer (some ⟨b,0,none⟩),.agg #[.int .i64 n,.bool false,.int .i64 s,.int .i64 t,.int .i64 l,.int .i64 q,.bool st,.slice a k c]] w fun e w'=>e=.returned (.tuple #[.bool (goes m nw l br st),.nilIface])∧LayerAt w' b m (if goes m nw l br st&&st then l else nw) n (if goes m nw l br st&&st then false else br)∧Only [b] w w':=by
  have HL:=hidden (h.alloc (.cells #[.int .i64 n,.bool false,.int .i64 s,.int .i64 t,.int .i64 l,.int .i64 q,.bool st,.slice a k c] 89))
  have HX:=hidden (IBox.new w n false s t l q st (.slice a k c))
  have hlt:=h.lt
  have HC:Hid (∀ W,LayerAt W b m nw la br→Calls Tryz.prog 125 #[.pointer (some ⟨b,0,none⟩),.agg #[.int .i64 n,.bool false,.int .i64 s,.int .i64 t,.int .i64 l,.int .i64 q,.bool st,.slice a k c]] W fun e w'=>e=.returned (errv (tkf la n false (fault s t l q k)))∧Below W.heap.size W w'):=hidden (fun W hW=>check_calls b m nw la n br false s t l q st a k c W hW)
  clear h
  rw [hf,errv_zero] at HC
  clear hf
  have HP:Hid (∀ W,LayerAt W b m nw n br→Calls Tryz.prog 126 #[.pointer (some ⟨b,0,none⟩),.agg #[.int .i64 s,.int .i64 t,.int .i64 l,.int .i64 q,.bool st,.slice a k c]] W fun e w'=>e=.returned (.bool (goes m nw l br st))∧LayerAt w' b m (if goes m nw l br st&&st then l else nw) n (if goes m nw l br st&&st then false else br)∧Only [b] W w'):=hidden (fun W hW=>pass_calls b m nw n br s t l q st (.slice a k c) W hW hl)
  generalize (if goes m nw l br st&&st then l else nw)=nw2 at *
  generalize (if goes m nw l br st&&st then false else br)=br2 at *
  generalize goes m nw l br st=x at *
  obtain ⟨x0,x1,x2,x3,x4,x5,x6,x7⟩:=HX.out.cells
  go_enter Tryz.func95,Tryz.ntmps95
  go_wp2_with fail
  refine (HC.out _ HL.out).mono ?_
  rintro e w1 ⟨rfl,hb⟩
  have HB1:Hid (Below w.heap.size w w1):=hidden (((Below.refl _ _).alloc (Nat.le_refl _) _).trans (hb.mono (by simp)))
  have HX1:=hidden (HX.out.below hb HX.out.lt)
  have HL1:=hidden (HL.out.below hb)
  clear hb HC HL HX x0 x1 x2 x3 x4 x5 x6 x7
  obtain ⟨x0,x1,x2,x3,x4,x5,x6,x7⟩:=HX1.out.cells
  obtain ⟨c0,c1,c2,c3⟩:=HL1.out.cells
  have f2:=HL1.out.free 2
  have hne:¬ w.heap.size=b:=by omega
  have hne':¬ b=w.heap.size:=by omega
  clear c0 c1 c3
  go_wp2_with fail
  refine (HP.out _ (HL1.out.setL n)).mono ?_
  rintro e w2 ⟨rfl,h2,ho⟩
  have HL2:=hidden h2
  have HO2:=hidden (((Only.of_below HB1.out [b]).setCell (p:=⟨b,2,none⟩) (by simp) (.int .i64 n)).trans ho)
  clear h2 ho
  go_wp2_with fail
  go_ret2
  exact ⟨rfl,HL2.out,HO2.out⟩
theorem take_calls (b:Nat) (m nw la n:Int) (br g:Bool) (s t l q:Int) (st:Bool) (a:Option Addr) (k c:Nat) (w:World) (h:LayerAt w b m nw la br) :
    Calls Tryz.prog 95 #[.pointer (some ⟨b,0,none⟩),.agg #[.int .i64 n,.bool g,.int .i64 s,.int .i64 t,.int .i64 l,.int .i64 q,.bool st,.slice a k c]] w fun e w'=>e=.returned (.tuple #[.bool (tkx m nw la n br g (fault s t l q k) l st),errv (tkf la n g (fault s t l q k))])∧LayerAt w' b m (tkN m nw la n br g (fault s t l q k) l st) (tkL la n g (fault s t l q k)) (tkB m nw la n br g (fault s t l q k) l st)∧Only [b] w w':=by
  by_cases hf:tkf la n g (fault s t l q k)=0
  · cases g with
    | true=>
      obtain ⟨e0,e1,e2,e3⟩:=tk_gone (m:=m) (nw:=nw) (br:=br) (l:=l) (st:=st) hf
      rw [e0,e1,e2,e3,hf,errv_zero]
      exact take_gone b m nw la n br s t l q st a k c w h hf
    | false=>
      obtain ⟨e0,e1,e2,e3⟩:=tk_pack (m:=m) (nw:=nw) (br:=br) (l:=l) (st:=st) hf
      rw [e0,e1,e2,e3,hf,errv_zero]
      obtain ⟨_,_,z,_,_,_,hz,_⟩:=fault_zero ((tkf_zero hf).2.2.2 rfl)
      exact take_pack b m nw la n br s t l q st a k c w h hf (by omega)
  · obtain ⟨e0,e1,e2,e3⟩:=tk_bad (m:=m) (nw:=nw) (br:=br) (l:=l) (st:=st) hf
    rw [e0,e1,e2,e3]
    refine (take_err b m nw la n br g s t l q st a k c w h hf).mono ?_
    rintro e w' ⟨rfl,hb⟩
    exact ⟨rfl,h.below hb,Only.of_below hb _⟩
end Go.Proofs.YtlppdppddiecnaaGreatDoor.Layer
