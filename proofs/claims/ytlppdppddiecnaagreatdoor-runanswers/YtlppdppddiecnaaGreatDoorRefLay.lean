/-
  RPack, RdL in one text.
-/
import Derived.Test.YtlppdppddiecnaaGreatDoorPackAll
import Derived.LoopN
import Derived.Test.YtlppdppddiecnaaGreatDoorLayerAll
namespace Go.Proofs.YtlppdppddiecnaaGreatDoor.RPack
open Go.ChangeShapes Go.WideShapes Go.ChangeAt Go.RowKit Go.Proofs.YtlppdppddiecnaaGreatDoor.PM Go.Proofs.YtlppdppddiecnaaGreatDoor.Mem Go.Proofs.YtlppdppddiecnaaGreatDoor.Pack
set_option linter.unusedVariables false

theorem ret_bool {a b:Bool} (h:a=b):Ending.returned (.bool a)=.returned (.bool b):=by rw [h]
theorem rlong_yes (n:Int) (w:World) (h:0≤n) (h':n≤1099511627776) :
    Calls Tryz.prog 18 #[.int .i64 n] w fun e w'=>e=.returned (.bool true)∧w'=w:=by
  go_enter Tryz.func18,Tryz.ntmps18
  go_wp2
  go_ret
  exact ⟨rfl,rfl⟩
theorem rlong_no (n:Int) (w:World) (h:n<0∨1099511627776<n) :
    Calls Tryz.prog 18 #[.int .i64 n] w fun e w'=>e=.returned (.bool false)∧w'=w:=by
  by_cases c:n<0
  · clear h
    go_enter Tryz.func18,Tryz.ntmps18
    go_wp2
    go_ret
    exact ⟨rfl,rfl⟩
  · have c':1099511627776<n:=by omega
    clear h
    go_enter Tryz.func18,Tryz.ntmps18
    go_wp2
    go_ret
    exact ⟨ret_bool (by simp<;>omega),rfl⟩
theorem rseq_calls (x:Int) (w:World):Calls Tryz.prog 19 #[.int .i64 x] w fun e w'=>e=.returned (.bool (decide (0≤x∧x≤65535)))∧w'=w:=by
  by_cases h:0≤x
  · have d:decide (0≤x)=true:=by simpa using h
    go_enter Tryz.func19,Tryz.ntmps19
    go_wp2_with fail
    go_ret
    exact ⟨by simp [h],rfl⟩
  · have d:decide (0≤x)=false:=by simpa using h
    go_enter Tryz.func19,Tryz.ntmps19
    go_wp2_with fail
    go_ret
    exact ⟨by simp,rfl⟩
theorem rword_calls (x:Int) (w:World):Calls Tryz.prog 99 #[.int .i64 x] w fun e w'=>e=.returned (.bool (decide (0≤x∧x≤4294967295)))∧w'=w:=by
  by_cases h:0≤x
  · have d:decide (0≤x)=true:=by simpa using h
    go_enter Tryz.func99,Tryz.ntmps99
    go_wp2_with fail
    go_ret
    exact ⟨by simp [h],rfl⟩
  · have d:decide (0≤x)=false:=by simpa using h
    go_enter Tryz.func99,Tryz.ntmps99
    go_wp2_with fail
    go_ret
    exact ⟨by simp,rfl⟩
theorem fault_bad {s t l v:Int} {n:Nat} (h:¬ (0≤s∧s≤65535∧0≤t∧t≤4294967295∧0≤l∧l≤3∧0≤v∧v≤127)):fault s t l v n=1:=by unfold fault;rw [if_neg h]
theorem fault_good {s t l v:Int} {n:Nat} (h:0≤s∧s≤65535∧0≤t∧t≤4294967295∧0≤l∧l≤3∧0≤v∧v≤127):fault s t l v n=if n≤1000 then 0 else 4:=by unfold fault;rw [if_pos h]

set_option maxHeartbeats 1000000 in
set_option maxRecDepth 100000 in
theorem rpacket_calls (s t l v:Int) (st:Bool) (a:Option Addr) (n cap:Nat) (w:World) :
    Calls Tryz.prog 65 #[.agg #[.int .i64 s,.int .i64 t,.int .i64 l,.int .i64 v,.bool st,.slice a n cap]] w fun e w'=>e=.returned (.int .i64 (fault s t l v n:Nat))∧Below w.heap.size w w':=by
  have H1:=hidden (fun w=>rseq_calls s w)
  have H2:=hidden (fun w=>rword_calls t w)
  by_cases p1:0≤s∧s≤65535
  case neg=>
    rw [fault_bad (by omega)]
    rw [decide_eq_false p1] at H1
    clear p1
    go_enter Tryz.func65,Tryz.ntmps65
    go_wp2_with fail
    refine (H1.out _).mono ?_
    rintro e w ⟨rfl,rfl⟩
    go_wp2_with fail
    refine (H2.out _).mono ?_
    rintro e w ⟨rfl,rfl⟩
    go_wp2_with fail
    go_ret
    exact ⟨rfl,(Below.refl _ _).alloc (Nat.le_refl _) _⟩
  rw [decide_eq_true p1] at H1
  by_cases p2:0≤t∧t≤4294967295
  case neg=>
    rw [fault_bad (by omega)]
    rw [decide_eq_false p2] at H2
    clear p1 p2
    go_enter Tryz.func65,Tryz.ntmps65
    go_wp2_with fail
    refine (H1.out _).mono ?_
    rintro e w ⟨rfl,rfl⟩
    go_wp2_with fail
    refine (H2.out _).mono ?_
    rintro e w ⟨rfl,rfl⟩
    go_wp2_with fail
    go_ret
    exact ⟨rfl,(Below.refl _ _).alloc (Nat.le_refl _) _⟩
  rw [decide_eq_true p2] at H2
  by_cases p3:l<0
  case pos=>
    rw [fault_bad (by omega)]
    have d3:decide (l<0)=true:=by simpa using p3
    clear p1 p2
    go_enter Tryz.func65,Tryz.ntmps65
    go_wp2_with fail
    refine (H1.out _).mono ?_
    rintro e w ⟨rfl,rfl⟩
    go_wp2_with fail
    refine (H2.out _).mono ?_
    rintro e w ⟨rfl,rfl⟩
    go_wp2_with fail
    go_ret
    exact ⟨rfl,(Below.refl _ _).alloc (Nat.le_refl _) _⟩
  have d3:decide (l<0)=false:=by simpa using p3
  by_cases p4:3<l
  case pos=>
    rw [fault_bad (by omega)]
    have d4:decide (3<l)=true:=by simpa using p4
    clear p1 p2
    go_enter Tryz.func65,Tryz.ntmps65
    go_wp2_with fail
    refine (H1.out _).mono ?_
    rintro e w ⟨rfl,rfl⟩
    go_wp2_with fail
    refine (H2.out _).mono ?_
    rintro e w ⟨rfl,rfl⟩
    go_wp2_with fail
    go_ret
    exact ⟨rfl,(Below.refl _ _).alloc (Nat.le_refl _) _⟩
  have d4:decide (3<l)=false:=by simpa using p4
  by_cases p5:v<0
  case pos=>
    rw [fault_bad (by omega)]
    have d5:decide (v<0)=true:=by simpa using p5
    clear p1 p2
    go_enter Tryz.func65,Tryz.ntmps65
    go_wp2_with fail
    refine (H1.out _).mono ?_
    rintro e w ⟨rfl,rfl⟩
    go_wp2_with fail
    refine (H2.out _).mono ?_
    rintro e w ⟨rfl,rfl⟩
    go_wp2_with fail
    go_ret
    exact ⟨rfl,(Below.refl _ _).alloc (Nat.le_refl _) _⟩
  have d5:decide (v<0)=false:=by simpa using p5
  by_cases p6:127<v
  case pos=>
    rw [fault_bad (by omega)]
    have d6:decide (127<v)=true:=by simpa using p6
    clear p1 p2
    go_enter Tryz.func65,Tryz.ntmps65
    go_wp2_with fail
    refine (H1.out _).mono ?_
    rintro e w ⟨rfl,rfl⟩
    go_wp2_with fail
    refine (H2.out _).mono ?_
    rintro e w ⟨rfl,rfl⟩
    go_wp2_with fail
    go_ret
    exact ⟨rfl,(Below.refl _ _).alloc (Nat.le_refl _) _⟩
  have d6:decide (127<v)=false:=by simpa using p6
  rw [fault_good (by omega)]
  clear p1 p2
  by_cases p7:n≤1000
  case pos=>
    rw [if_pos p7]
    go_enter Tryz.func65,Tryz.ntmps65
    go_wp2_with fail
    refine (H1.out _).mono ?_
    rintro e w ⟨rfl,rfl⟩
    go_wp2_with fail
    refine (H2.out _).mono ?_
    rintro e w ⟨rfl,rfl⟩
    go_wp2_with fail
    go_ret
    exact ⟨rfl,(Below.refl _ _).alloc (Nat.le_refl _) _⟩
  case neg=>
    rw [if_neg p7]
    go_enter Tryz.func65,Tryz.ntmps65
    go_wp2_with fail
    refine (H1.out _).mono ?_
    rintro e w ⟨rfl,rfl⟩
    go_wp2_with fail
    refine (H2.out _).mono ?_
    rintro e w ⟨rfl,rfl⟩
    go_wp2_with fail
    go_ret
    exact ⟨rfl,(Below.refl _ _).alloc (Nat.le_refl _) _⟩

end Go.Proofs.YtlppdppddiecnaaGreatDoor.RPack
namespace Go.Proofs.YtlppdppddiecnaaGreatDoor.RLayer
open Go.ChangeShapes Go.WideShapes Go.ChangeAt Go.RowKit Go.Proofs.YtlppdppddiecnaaGreatDoor.PM Go.Proofs.YtlppdppddiecnaaGreatDoor.Mem Go.Proofs.YtlppdppddiecnaaGreatDoor.Pack Go.Proofs.YtlppdppddiecnaaGreatDoor.LM Go.Proofs.YtlppdppddiecnaaGreatDoor.Layer Go.Proofs.YtlppdppddiecnaaGreatDoor.RPack
set_option linter.unusedVariables false

structure Kl where
  n:Int
  T:Int
  v:Value
  many:Int
  sp:Int
  u:Value
def RefAt (K:Kl) (w:World) (b:Nat) (m nw la:Int) (br:Bool):Prop:=w.heap[b]?=some (.cells #[.int .i64 K.n,.int .i64 K.T,K.v,.int .i64 K.many,.int .i64 K.sp,K.u,.int .i64 m,.int .i64 nw,.int .i64 la,.bool br] 56 (0,0))
theorem RefAt.cells {K:Kl} {w:World} {b:Nat} {m nw la:Int} {br:Bool} (h:RefAt K w b m nw la br) :
    w.cell? ⟨b,6,none⟩=some (.int .i64 m)∧w.cell? ⟨b,7,none⟩=some (.int .i64 nw)∧w.cell? ⟨b,8,none⟩=some (.int .i64 la)∧w.cell? ⟨b,9,none⟩=some (.bool br):=by
  simp only [RefAt] at h
  refine ⟨?_,?_,?_,?_⟩<;>simp [World.cell?,h]
theorem RefAt.free {K:Kl} {w:World} {b:Nat} {m nw la:Int} {br:Bool} (h:RefAt K w b m nw la br) (j:Nat):w.frozen? ⟨b,j,none⟩=false:=by
  simp only [RefAt] at h
  simp [World.frozen?,h]
theorem RefAt.lt {K:Kl} {w:World} {b:Nat} {m nw la:Int} {br:Bool} (h:RefAt K w b m nw la br):b<w.heap.size:=lt_of_block h
theorem RefAt.only {K:Kl} {w w':World} {b:Nat} {m nw la:Int} {br:Bool} {bs:List Nat} (h:RefAt K w b m nw la br) (ho:Only bs w w') (hb:b∉bs):RefAt K w' b m nw la br:=ho.block h hb
theorem RefAt.below {K:Kl} {w w':World} {b:Nat} {m nw la:Int} {br:Bool} (h:RefAt K w b m nw la br) (hb:Below w.heap.size w w'):RefAt K w' b m nw la br:=h.only (Only.of_below hb []) (by simp)
theorem RefAt.alloc {K:Kl} {w:World} {b:Nat} {m nw la:Int} {br:Bool} (h:RefAt K w b m nw la br) (O:Obj):RefAt K (w.alloc O) b m nw la br:=h.below ((Below.refl _ _).alloc (Nat.le_refl _) O)
theorem RefAt.setM {K:Kl} {w:World} {b:Nat} {m nw la:Int} {br:Bool} (h:RefAt K w b m nw la br) (x:Int):RefAt K (w.setCell ⟨b,6,none⟩ (.int .i64 x)) b x nw la br:=heap_setCell_same w b 6 _ _ _ h
theorem RefAt.setN {K:Kl} {w:World} {b:Nat} {m nw la:Int} {br:Bool} (h:RefAt K w b m nw la br) (x:Int):RefAt K (w.setCell ⟨b,7,none⟩ (.int .i64 x)) b m x la br:=heap_setCell_same w b 7 _ _ _ h
theorem RefAt.setL {K:Kl} {w:World} {b:Nat} {m nw la:Int} {br:Bool} (h:RefAt K w b m nw la br) (x:Int):RefAt K (w.setCell ⟨b,8,none⟩ (.int .i64 x)) b m nw x br:=heap_setCell_same w b 8 _ _ _ h
theorem RefAt.setB {K:Kl} {w:World} {b:Nat} {m nw la:Int} {br:Bool} (h:RefAt K w b m nw la br) (x:Bool):RefAt K (w.setCell ⟨b,9,none⟩ (.bool x)) b m nw la x:=heap_setCell_same w b 9 _ _ _ h

set_option maxHeartbeats 2000000 in
set_option maxRecDepth 100000 in
theorem rtake_range (K:Kl) (b:Nat) (m nw la n:Int) (br g:Bool) (s t l q:Int) (st:Bool) (a:Option Addr) (k c:Nat) (w:World) (h:RefAt K w b m nw la br) (hn:n<0∨1099511627776<n) :
    Calls Tryz.prog 35 #[.pointer (some ⟨b,6,none⟩),.agg #[.int .i64 n,.bool g,.int .i64 s,.int .i64 t,.int .i64 l,.int .i64 q,.bool st,.slice a k c]] w fun e w'=>e=.returned (.tuple #[.bool false,.int .i64 1])∧Below w.heap.size w w':=by
  have HL:=hidden (h.alloc (.cells #[.int .i64 n,.bool g,.int .i64 s,.int .i64 t,.int .i64 l,.int .i64 q,.bool st,.slice a k c] 89))
  have HX:=hidden (IBox.new w n g s t l q st (.slice a k c))
  have hlt:=h.lt
  have hne:¬ w.heap.size=b:=by omega
  have hne':¬ b=w.heap.size:=by omega
  clear h
  obtain ⟨x0,x1,x2,x3,x4,x5,x6,x7⟩:=HX.out.cells
  obtain ⟨c0,c1,c2,c3⟩:=HL.out.cells
  have HR:=hidden (fun W=>rlong_no n W hn)
  clear hn c0 c1 c2 c3
  go_enter Tryz.func35,Tryz.ntmps35
  go_wp2_with fail
  refine (HR.out _).mono ?_
  rintro e w1 ⟨rfl,rfl⟩
  go_wp2_with fail
  go_ret2
  exact ⟨rfl,(Below.refl _ _).alloc (Nat.le_refl _) _⟩
set_option maxHeartbeats 2000000 in
set_option maxRecDepth 100000 in
theorem rtake_state (K:Kl) (b:Nat) (m nw la n:Int) (br g:Bool) (s t l q:Int) (st:Bool) (a:Option Addr) (k c:Nat) (w:World) (h:RefAt K w b m nw la br) (h0:0≤n) (h1:n≤1099511627776) (hn:n≤la) :
    Calls Tryz.prog 35 #[.pointer (some ⟨b,6,none⟩),.agg #[.int .i64 n,.bool g,.int .i64 s,.int .i64 t,.int .i64 l,.int .i64 q,.bool st,.slice a k c]] w fun e w'=>e=.returned (.tuple #[.bool false,.int .i64 6])∧Below w.heap.size w w':=by
  have HL:=hidden (h.alloc (.cells #[.int .i64 n,.bool g,.int .i64 s,.int .i64 t,.int .i64 l,.int .i64 q,.bool st,.slice a k c] 89))
  have HX:=hidden (IBox.new w n g s t l q st (.slice a k c))
  have hlt:=h.lt
  have hne:¬ w.heap.size=b:=by omega
  have hne':¬ b=w.heap.size:=by omega
  clear h
  obtain ⟨x0,x1,x2,x3,x4,x5,x6,x7⟩:=HX.out.cells
  obtain ⟨c0,c1,c2,c3⟩:=HL.out.cells
  have HR:=hidden (fun W=>rlong_yes n W h0 h1)
  have d:decide (n≤la)=true:=by simpa using hn
  go_enter Tryz.func35,Tryz.ntmps35
  go_wp2_with fail
  refine (HR.out _).mono ?_
  rintro e w1 ⟨rfl,rfl⟩
  go_wp2_with fail
  go_quiet (fail)
  go_wp2_with fail
  go_ret2
  exact ⟨rfl,below_drewN ((Below.refl _ _).alloc (Nat.le_refl _) _) _⟩
set_option maxHeartbeats 2000000 in
set_option maxRecDepth 100000 in
theorem rtake_gone0 (K:Kl) (b:Nat) (m nw la n:Int) (br:Bool) (s t l q:Int) (st:Bool) (a:Option Addr) (k c:Nat) (w:World) (h:RefAt K w b m nw la br) (h0:0≤n) (h1:n≤1099511627776) (hn:¬ n≤la) (he:nw=-1) :
    Calls Tryz.prog 35 #[.pointer (some ⟨b,6,none⟩),.agg #[.int .i64 n,.bool true,.int .i64 s,.int .i64 t,.int .i64 l,.int .i64 q,.bool st,.slice a k c]] w fun e w'=>e=.returned (.tuple #[.bool false,.int .i64 0])∧RefAt K w' b m nw n br∧Only [b] w w':=by
  have HL:=hidden (h.alloc (.cells #[.int .i64 n,.bool true,.int .i64 s,.int .i64 t,.int .i64 l,.int .i64 q,.bool st,.slice a k c] 89))
  have HX:=hidden (IBox.new w n true s t l q st (.slice a k c))
  have hlt:=h.lt
  have hne:¬ w.heap.size=b:=by omega
  have hne':¬ b=w.heap.size:=by omega
  clear h
  obtain ⟨x0,x1,x2,x3,x4,x5,x6,x7⟩:=HX.out.cells
  obtain ⟨c0,c1,c2,c3⟩:=HL.out.cells
  have HR:=hidden (fun W=>rlong_yes n W h0 h1)
  have d:decide (n≤la)=false:=by simpa using hn
  subst he
  go_enter Tryz.func35,Tryz.ntmps35
  go_wp2_with fail
  refine (HR.out _).mono ?_
  rintro e w1 ⟨rfl,rfl⟩
  go_wp2_with fail
  go_quiet (fail)
  obtain ⟨wq,hwq⟩:∃ wq,(w.alloc (.cells #[.int .i64 n,.bool true,.int .i64 s,.int .i64 t,.int .i64 l,.int .i64 q,.bool st,.slice a k c] 89)).drewN nq=wq:=⟨_,rfl⟩
  have HLq:Hid (RefAt K wq b m (-1) la br):=by rw [← hwq];exact hidden (HL.out.below (below_drewN (Below.refl _ _) _))
  have HXq:Hid (IBox wq w.heap.size n true s t l q st (.slice a k c)):=by rw [← hwq];exact hidden (HX.out.below (below_drewN (Below.refl _ _) _) HX.out.lt)
  have HBq:Hid (Below w.heap.size w wq):=by rw [← hwq];exact hidden (below_drewN ((Below.refl _ _).alloc (Nat.le_refl _) _) _)
  rw [hwq]
  clear hwq HL HX x0 x1 x2 x3 x4 x5 x6 x7 c0 c1 c2 c3
  obtain ⟨x0,x1,x2,x3,x4,x5,x6,x7⟩:=HXq.out.cells
  obtain ⟨c0,c1,c2,c3⟩:=HLq.out.cells
  have f2:=HLq.out.free 8
  have f3:=HLq.out.free 9
  go_wp2_with fail
  go_ret2
  exact ⟨rfl,HLq.out.setL n,(Only.of_below HBq.out [b]).setCell (by simp) _⟩
set_option maxHeartbeats 2000000 in
set_option maxRecDepth 100000 in
theorem rtake_gone1 (K:Kl) (b:Nat) (m nw la n:Int) (br:Bool) (s t l q:Int) (st:Bool) (a:Option Addr) (k c:Nat) (w:World) (h:RefAt K w b m nw la br) (h0:0≤n) (h1:n≤1099511627776) (hn:¬ n≤la) (he:¬ nw=-1) :
    Calls Tryz.prog 35 #[.pointer (some ⟨b,6,none⟩),.agg #[.int .i64 n,.bool true,.int .i64 s,.int .i64 t,.int .i64 l,.int .i64 q,.bool st,.slice a k c]] w fun e w'=>e=.returned (.tuple #[.bool false,.int .i64 0])∧RefAt K w' b m nw n true∧Only [b] w w':=by
  have HL:=hidden (h.alloc (.cells #[.int .i64 n,.bool true,.int .i64 s,.int .i64 t,.int .i64 l,.int .i64 q,.bool st,.slice a k c] 89))
  have HX:=hidden (IBox.new w n true s t l q st (.slice a k c))
  have hlt:=h.lt
  have hne:¬ w.heap.size=b:=by omega
  have hne':¬ b=w.heap.size:=by omega
  clear h
  obtain ⟨x0,x1,x2,x3,x4,x5,x6,x7⟩:=HX.out.cells
  obtain ⟨c0,c1,c2,c3⟩:=HL.out.cells
  have HR:=hidden (fun W=>rlong_yes n W h0 h1)
  have d:decide (n≤la)=false:=by simpa using hn
  have d1:(nw != -1)=true:=by simpa using he
  go_enter Tryz.func35,Tryz.ntmps35
  go_wp2_with fail
  refine (HR.out _).mono ?_
  rintro e w1 ⟨rfl,rfl⟩
  go_wp2_with fail
  go_quiet (fail)
  obtain ⟨wq,hwq⟩:∃ wq,(w.alloc (.cells #[.int .i64 n,.bool true,.int .i64 s,.int .i64 t,.int .i64 l,.int .i64 q,.bool st,.slice a k c] 89)).drewN nq=wq:=⟨_,rfl⟩
  have HLq:Hid (RefAt K wq b m nw la br):=by rw [← hwq];exact hidden (HL.out.below (below_drewN (Below.refl _ _) _))
  have HXq:Hid (IBox wq w.heap.size n true s t l q st (.slice a k c)):=by rw [← hwq];exact hidden (HX.out.below (below_drewN (Below.refl _ _) _) HX.out.lt)
  have HBq:Hid (Below w.heap.size w wq):=by rw [← hwq];exact hidden (below_drewN ((Below.refl _ _).alloc (Nat.le_refl _) _) _)
  rw [hwq]
  clear hwq HL HX x0 x1 x2 x3 x4 x5 x6 x7 c0 c1 c2 c3
  obtain ⟨x0,x1,x2,x3,x4,x5,x6,x7⟩:=HXq.out.cells
  obtain ⟨c0,c1,c2,c3⟩:=HLq.out.cells
  have f2:=HLq.out.free 8
  have f3:=HLq.out.free 9
  go_wp2_with fail
  go_ret2
  exact ⟨rfl,(HLq.out.setL n).setB true,((Only.of_below HBq.out [b]).setCell (by simp) _).setCell (by simp) _⟩
set_option maxHeartbeats 2000000 in
set_option maxRecDepth 100000 in
theorem rtake_bad (K:Kl) (b:Nat) (m nw la n:Int) (br:Bool) (s t l q:Int) (st:Bool) (a:Option Addr) (k c:Nat) (w:World) (h:RefAt K w b m nw la br) (h0:0≤n) (h1:n≤1099511627776) (hn:¬ n≤la) (hf:fault s t l q k≠0) :
    Calls Tryz.prog 35 #[.pointer (some ⟨b,6,none⟩),.agg #[.int .i64 n,.bool false,.int .i64 s,.int .i64 t,.int .i64 l,.int .i64 q,.bool st,.slice a k c]] w fun e w'=>e=.returned (.tuple #[.bool false,.int .i64 (fault s t l q k:Nat)])∧Below w.heap.size w w':=by
  have HL:=hidden (h.alloc (.cells #[.int .i64 n,.bool false,.int .i64 s,.int .i64 t,.int .i64 l,.int .i64 q,.bool st,.slice a k c] 89))
  have HX:=hidden (IBox.new w n false s t l q st (.slice a k c))
  have hlt:=h.lt
  have hne:¬ w.heap.size=b:=by omega
  have hne':¬ b=w.heap.size:=by omega
  clear h
  obtain ⟨x0,x1,x2,x3,x4,x5,x6,x7⟩:=HX.out.cells
  obtain ⟨c0,c1,c2,c3⟩:=HL.out.cells
  have HR:=hidden (fun W=>rlong_yes n W h0 h1)
  have d:decide (n≤la)=false:=by simpa using hn
  have HP:=hidden (fun W=>rpacket_calls s t l q st a k c W)
  generalize fault s t l q k=f at *
  have df:((f:Int) != 0)=true:=by simp;omega
  clear hf
  go_enter Tryz.func35,Tryz.ntmps35
  go_wp2_with fail
  refine (HR.out _).mono ?_
  rintro e w1 ⟨rfl,rfl⟩
  go_wp2_with fail
  go_quiet (fail)
  obtain ⟨wq,hwq⟩:∃ wq,(w.alloc (.cells #[.int .i64 n,.bool false,.int .i64 s,.int .i64 t,.int .i64 l,.int .i64 q,.bool st,.slice a k c] 89)).drewN nq=wq:=⟨_,rfl⟩
  have HLq:Hid (RefAt K wq b m nw la br):=by rw [← hwq];exact hidden (HL.out.below (below_drewN (Below.refl _ _) _))
  have HXq:Hid (IBox wq w.heap.size n false s t l q st (.slice a k c)):=by rw [← hwq];exact hidden (HX.out.below (below_drewN (Below.refl _ _) _) HX.out.lt)
  have HBq:Hid (Below w.heap.size w wq):=by rw [← hwq];exact hidden (below_drewN ((Below.refl _ _).alloc (Nat.le_refl _) _) _)
  rw [hwq]
  clear hwq HL HX x0 x1 x2 x3 x4 x5 x6 x7 c0 c1 c2 c3
  obtain ⟨x0,x1,x2,x3,x4,x5,x6,x7⟩:=HXq.out.cells
  obtain ⟨c0,c1,c2,c3⟩:=HLq.out.cells
  have f2:=HLq.out.free 8
  go_wp2_with fail
  refine (HP.out _).mono ?_
  rintro e w2 ⟨rfl,hb⟩
  have HB2:Hid (Below w.heap.size w w2):=hidden (HBq.out.trans (hb.mono HBq.out.size))
  clear hb
  go_wp2_with fail
  go_ret2
  exact ⟨rfl,HB2.out⟩
set_option maxHeartbeats 2000000 in
set_option maxRecDepth 100000 in
theorem rtake_above (K:Kl) (b:Nat) (m nw la n:Int) (br:Bool) (s t l q:Int) (st:Bool) (a:Option Addr) (k c:Nat) (w:World) (h:RefAt K w b m nw la br) (h0:0≤n) (h1:n≤1099511627776) (hn:¬ n≤la) (hf:fault s t l q k=0) (hl:m<l) :
    Calls Tryz.prog 35 #[.pointer (some ⟨b,6,none⟩),.agg #[.int .i64 n,.bool false,.int .i64 s,.int .i64 t,.int .i64 l,.int .i64 q,.bool st,.slice a k c]] w fun e w'=>e=.returned (.tuple #[.bool false,.int .i64 0])∧RefAt K w' b m nw n br∧Only [b] w w':=by
  have HL:=hidden (h.alloc (.cells #[.int .i64 n,.bool false,.int .i64 s,.int .i64 t,.int .i64 l,.int .i64 q,.bool st,.slice a k c] 89))
  have HX:=hidden (IBox.new w n false s t l q st (.slice a k c))
  have hlt:=h.lt
  have hne:¬ w.heap.size=b:=by omega
  have hne':¬ b=w.heap.size:=by omega
  clear h
  obtain ⟨x0,x1,x2,x3,x4,x5,x6,x7⟩:=HX.out.cells
  obtain ⟨c0,c1,c2,c3⟩:=HL.out.cells
  have HR:=hidden (fun W=>rlong_yes n W h0 h1)
  have d:decide (n≤la)=false:=by simpa using hn
  have HP:Hid (∀ W,Calls Tryz.prog 65 #[.agg #[.int .i64 s,.int .i64 t,.int .i64 l,.int .i64 q,.bool st,.slice a k c]] W fun e w'=>e=.returned (.int .i64 0)∧Below W.heap.size W w'):=hidden (fun W=>by have:=rpacket_calls s t l q st a k c W;rw [hf] at this;exact this)
  clear hf
  have dl:decide (m<l)=true:=by simpa using hl
  go_enter Tryz.func35,Tryz.ntmps35
  go_wp2_with fail
  refine (HR.out _).mono ?_
  rintro e w1 ⟨rfl,rfl⟩
  go_wp2_with fail
  go_quiet (fail)
  obtain ⟨wq,hwq⟩:∃ wq,(w.alloc (.cells #[.int .i64 n,.bool false,.int .i64 s,.int .i64 t,.int .i64 l,.int .i64 q,.bool st,.slice a k c] 89)).drewN nq=wq:=⟨_,rfl⟩
  have HLq:Hid (RefAt K wq b m nw la br):=by rw [← hwq];exact hidden (HL.out.below (below_drewN (Below.refl _ _) _))
  have HXq:Hid (IBox wq w.heap.size n false s t l q st (.slice a k c)):=by rw [← hwq];exact hidden (HX.out.below (below_drewN (Below.refl _ _) _) HX.out.lt)
  have HBq:Hid (Below w.heap.size w wq):=by rw [← hwq];exact hidden (below_drewN ((Below.refl _ _).alloc (Nat.le_refl _) _) _)
  rw [hwq]
  clear hwq HL HX x0 x1 x2 x3 x4 x5 x6 x7 c0 c1 c2 c3
  obtain ⟨x0,x1,x2,x3,x4,x5,x6,x7⟩:=HXq.out.cells
  obtain ⟨c0,c1,c2,c3⟩:=HLq.out.cells
  have f2:=HLq.out.free 8
  go_wp2_with fail
  refine (HP.out _).mono ?_
  rintro e w2 ⟨rfl,hb⟩
  have HB2:Hid (Below w.heap.size w w2):=hidden (HBq.out.trans (hb.mono HBq.out.size))
  have HL2:=hidden (HLq.out.below hb)
  have HX2:=hidden (HXq.out.below hb HXq.out.lt)
  clear hb HLq HXq HBq HP x0 x1 x2 x3 x4 x5 x6 x7 c0 c1 c2 c3 f2
  obtain ⟨x0,x1,x2,x3,x4,x5,x6,x7⟩:=HX2.out.cells
  obtain ⟨c0,c1,c2,c3⟩:=HL2.out.cells
  have f2:=HL2.out.free 8
  go_wp2_with fail
  obtain ⟨wz,hwz⟩:∃ wz,(w2.setCell ⟨b,8,none⟩ (.int .i64 n)).alloc (.cells #[.int .i64 s,.int .i64 t,.int .i64 l,.int .i64 q,.bool st,.slice a k c] 87)=wz:=⟨_,rfl⟩
  have HLz:Hid (RefAt K wz b m nw n br):=by rw [← hwz];exact hidden ((HL2.out.setL n).alloc _)
  have HXz:Hid (Box wz w2.heap.size s t l q st (.slice a k c)):=by
    rw [← hwz]
    have:=Box.new (w2.setCell ⟨b,8,none⟩ (.int .i64 n)) s t l q st (.slice a k c)
    simpa using hidden this
  have HOz:Hid (Only [b] w wz):=by rw [← hwz];exact hidden (((Only.of_below HB2.out [b]).setCell (by simp) _).alloc _)
  have hbz:¬ b=w2.heap.size:=by have:=HL2.out.lt;omega
  have hzb:¬ w2.heap.size=b:=by omega
  rw [hwz]
  obtain ⟨xb,hxb⟩:∃ xb,w2.heap.size=xb:=⟨_,rfl⟩
  rw [hxb] at HXz hbz hzb
  try rw [hxb]
  clear hwz hxb HL2 HX2 HB2 x0 x1 x2 x3 x4 x5 x6 x7 c0 c1 c2 c3 f2
  obtain ⟨y0,y1,y2,y3,y4,y5⟩:=HXz.out.cells
  obtain ⟨c0,c1,c2,c3⟩:=HLz.out.cells
  clear y0 y1 y3 y5
  go_quiet (fail)
  go_wp2_with fail
  go_ret2
  exact ⟨rfl,HLz.out.below (below_drewN (Below.refl _ _) _),HOz.out.drewN _⟩
set_option maxHeartbeats 2000000 in
set_option maxRecDepth 100000 in
theorem rtake_same (K:Kl) (b:Nat) (m nw la n:Int) (br:Bool) (s t l q:Int) (a:Option Addr) (k c:Nat) (w:World) (h:RefAt K w b m nw la br) (h0:0≤n) (h1:n≤1099511627776) (hn:¬ n≤la) (hf:fault s t l q k=0) (hl:¬ m<l) (he:l=nw) :
    Calls Tryz.prog 35 #[.pointer (some ⟨b,6,none⟩),.agg #[.int .i64 n,.bool false,.int .i64 s,.int .i64 t,.int .i64 l,.int .i64 q,.bool false,.slice a k c]] w fun e w'=>e=.returned (.tuple #[.bool (!br),.int .i64 0])∧RefAt K w' b m nw n br∧Only [b] w w':=by
  have HL:=hidden (h.alloc (.cells #[.int .i64 n,.bool false,.int .i64 s,.int .i64 t,.int .i64 l,.int .i64 q,.bool false,.slice a k c] 89))
  have HX:=hidden (IBox.new w n false s t l q false (.slice a k c))
  have hlt:=h.lt
  have hne:¬ w.heap.size=b:=by omega
  have hne':¬ b=w.heap.size:=by omega
  clear h
  obtain ⟨x0,x1,x2,x3,x4,x5,x6,x7⟩:=HX.out.cells
  obtain ⟨c0,c1,c2,c3⟩:=HL.out.cells
  have HR:=hidden (fun W=>rlong_yes n W h0 h1)
  have d:decide (n≤la)=false:=by simpa using hn
  have HP:Hid (∀ W,Calls Tryz.prog 65 #[.agg #[.int .i64 s,.int .i64 t,.int .i64 l,.int .i64 q,.bool false,.slice a k c]] W fun e w'=>e=.returned (.int .i64 0)∧Below W.heap.size W w'):=hidden (fun W=>by have:=rpacket_calls s t l q false a k c W;rw [hf] at this;exact this)
  clear hf
  have dl:decide (m<l)=false:=by simpa using hl
  subst he
  have de:(l==l)=true:=by simp
  go_enter Tryz.func35,Tryz.ntmps35
  go_wp2_with fail
  refine (HR.out _).mono ?_
  rintro e w1 ⟨rfl,rfl⟩
  go_wp2_with fail
  go_quiet (fail)
  obtain ⟨wq,hwq⟩:∃ wq,(w.alloc (.cells #[.int .i64 n,.bool false,.int .i64 s,.int .i64 t,.int .i64 l,.int .i64 q,.bool false,.slice a k c] 89)).drewN nq=wq:=⟨_,rfl⟩
  have HLq:Hid (RefAt K wq b m l la br):=by rw [← hwq];exact hidden (HL.out.below (below_drewN (Below.refl _ _) _))
  have HXq:Hid (IBox wq w.heap.size n false s t l q false (.slice a k c)):=by rw [← hwq];exact hidden (HX.out.below (below_drewN (Below.refl _ _) _) HX.out.lt)
  have HBq:Hid (Below w.heap.size w wq):=by rw [← hwq];exact hidden (below_drewN ((Below.refl _ _).alloc (Nat.le_refl _) _) _)
  rw [hwq]
  clear hwq HL HX x0 x1 x2 x3 x4 x5 x6 x7 c0 c1 c2 c3
  obtain ⟨x0,x1,x2,x3,x4,x5,x6,x7⟩:=HXq.out.cells
  obtain ⟨c0,c1,c2,c3⟩:=HLq.out.cells
  have f2:=HLq.out.free 8
  go_wp2_with fail
  refine (HP.out _).mono ?_
  rintro e w2 ⟨rfl,hb⟩
  have HB2:Hid (Below w.heap.size w w2):=hidden (HBq.out.trans (hb.mono HBq.out.size))
  have HL2:=hidden (HLq.out.below hb)
  have HX2:=hidden (HXq.out.below hb HXq.out.lt)
  clear hb HLq HXq HBq HP x0 x1 x2 x3 x4 x5 x6 x7 c0 c1 c2 c3 f2
  obtain ⟨x0,x1,x2,x3,x4,x5,x6,x7⟩:=HX2.out.cells
  obtain ⟨c0,c1,c2,c3⟩:=HL2.out.cells
  have f2:=HL2.out.free 8
  go_wp2_with fail
  obtain ⟨wz,hwz⟩:∃ wz,(w2.setCell ⟨b,8,none⟩ (.int .i64 n)).alloc (.cells #[.int .i64 s,.int .i64 t,.int .i64 l,.int .i64 q,.bool false,.slice a k c] 87)=wz:=⟨_,rfl⟩
  have HLz:Hid (RefAt K wz b m l n br):=by rw [← hwz];exact hidden ((HL2.out.setL n).alloc _)
  have HXz:Hid (Box wz w2.heap.size s t l q false (.slice a k c)):=by
    rw [← hwz]
    have:=Box.new (w2.setCell ⟨b,8,none⟩ (.int .i64 n)) s t l q false (.slice a k c)
    simpa using hidden this
  have HOz:Hid (Only [b] w wz):=by rw [← hwz];exact hidden (((Only.of_below HB2.out [b]).setCell (by simp) _).alloc _)
  have hbz:¬ b=w2.heap.size:=by have:=HL2.out.lt;omega
  have hzb:¬ w2.heap.size=b:=by omega
  rw [hwz]
  obtain ⟨xb,hxb⟩:∃ xb,w2.heap.size=xb:=⟨_,rfl⟩
  rw [hxb] at HXz hbz hzb
  try rw [hxb]
  clear hwz hxb HL2 HX2 HB2 x0 x1 x2 x3 x4 x5 x6 x7 c0 c1 c2 c3 f2
  obtain ⟨y0,y1,y2,y3,y4,y5⟩:=HXz.out.cells
  obtain ⟨c0,c1,c2,c3⟩:=HLz.out.cells
  clear y0 y1 y3 y5
  go_quiet (fail)
  obtain ⟨wp,hwp⟩:∃ wp,wz.drewN nq=wp:=⟨_,rfl⟩
  have HLp:Hid (RefAt K wp b m l n br):=by rw [← hwp];exact hidden (HLz.out.below (below_drewN (Below.refl _ _) _))
  have HXp:Hid (Box wp xb s t l q false (.slice a k c)):=by rw [← hwp];exact hidden (HXz.out.below (below_drewN (Below.refl _ _) _) HXz.out.lt)
  have HOp:Hid (Only [b] w wp):=by rw [← hwp];exact hidden (HOz.out.drewN _)
  rw [hwp]
  clear hwp HLz HXz HOz y2 y4 c0 c1 c2 c3
  obtain ⟨y0,y1,y2,y3,y4,y5⟩:=HXp.out.cells
  obtain ⟨c0,c1,c2,c3⟩:=HLp.out.cells
  clear y0 y1 y3 y5 c2
  go_wp2_with fail
  go_quiet (fail)
  obtain ⟨wr,hwr⟩:∃ wr,wp.drewN nq=wr:=⟨_,rfl⟩
  have HLr:Hid (RefAt K wr b m l n br):=by rw [← hwr];exact hidden (HLp.out.below (below_drewN (Below.refl _ _) _))
  have HXr:Hid (Box wr xb s t l q false (.slice a k c)):=by rw [← hwr];exact hidden (HXp.out.below (below_drewN (Below.refl _ _) _) HXp.out.lt)
  have HOr:Hid (Only [b] w wr):=by rw [← hwr];exact hidden (HOp.out.drewN _)
  rw [hwr]
  clear hwr HLp HXp HOp y2 y4 c0 c1 c3
  obtain ⟨y0,y1,y2,y3,y4,y5⟩:=HXr.out.cells
  obtain ⟨c0,c1,c2,c3⟩:=HLr.out.cells
  clear y0 y1 y3 y5 c2
  go_wp2_with fail
  go_quiet (fail)
  go_wp2_with fail
  go_ret2
  exact ⟨rfl,HLr.out.below (below_drewN (Below.refl _ _) _),HOr.out.drewN _⟩
set_option maxHeartbeats 2000000 in
set_option maxRecDepth 100000 in
theorem rtake_other (K:Kl) (b:Nat) (m nw la n:Int) (br:Bool) (s t l q:Int) (a:Option Addr) (k c:Nat) (w:World) (h:RefAt K w b m nw la br) (h0:0≤n) (h1:n≤1099511627776) (hn:¬ n≤la) (hf:fault s t l q k=0) (hl:¬ m<l) (he:¬ l=nw) :
    Calls Tryz.prog 35 #[.pointer (some ⟨b,6,none⟩),.agg #[.int .i64 n,.bool false,.int .i64 s,.int .i64 t,.int .i64 l,.int .i64 q,.bool false,.slice a k c]] w fun e w'=>e=.returned (.tuple #[.bool (false),.int .i64 0])∧RefAt K w' b m nw n br∧Only [b] w w':=by
  have HL:=hidden (h.alloc (.cells #[.int .i64 n,.bool false,.int .i64 s,.int .i64 t,.int .i64 l,.int .i64 q,.bool false,.slice a k c] 89))
  have HX:=hidden (IBox.new w n false s t l q false (.slice a k c))
  have hlt:=h.lt
  have hne:¬ w.heap.size=b:=by omega
  have hne':¬ b=w.heap.size:=by omega
  clear h
  obtain ⟨x0,x1,x2,x3,x4,x5,x6,x7⟩:=HX.out.cells
  obtain ⟨c0,c1,c2,c3⟩:=HL.out.cells
  have HR:=hidden (fun W=>rlong_yes n W h0 h1)
  have d:decide (n≤la)=false:=by simpa using hn
  have HP:Hid (∀ W,Calls Tryz.prog 65 #[.agg #[.int .i64 s,.int .i64 t,.int .i64 l,.int .i64 q,.bool false,.slice a k c]] W fun e w'=>e=.returned (.int .i64 0)∧Below W.heap.size W w'):=hidden (fun W=>by have:=rpacket_calls s t l q false a k c W;rw [hf] at this;exact this)
  clear hf
  have dl:decide (m<l)=false:=by simpa using hl
  have de:(l==nw)=false:=by simpa using he
  have de':decide (l=nw)=false:=by simpa using he
  clear he
  go_enter Tryz.func35,Tryz.ntmps35
  go_wp2_with fail
  refine (HR.out _).mono ?_
  rintro e w1 ⟨rfl,rfl⟩
  go_wp2_with fail
  go_quiet (fail)
  obtain ⟨wq,hwq⟩:∃ wq,(w.alloc (.cells #[.int .i64 n,.bool false,.int .i64 s,.int .i64 t,.int .i64 l,.int .i64 q,.bool false,.slice a k c] 89)).drewN nq=wq:=⟨_,rfl⟩
  have HLq:Hid (RefAt K wq b m nw la br):=by rw [← hwq];exact hidden (HL.out.below (below_drewN (Below.refl _ _) _))
  have HXq:Hid (IBox wq w.heap.size n false s t l q false (.slice a k c)):=by rw [← hwq];exact hidden (HX.out.below (below_drewN (Below.refl _ _) _) HX.out.lt)
  have HBq:Hid (Below w.heap.size w wq):=by rw [← hwq];exact hidden (below_drewN ((Below.refl _ _).alloc (Nat.le_refl _) _) _)
  rw [hwq]
  clear hwq HL HX x0 x1 x2 x3 x4 x5 x6 x7 c0 c1 c2 c3
  obtain ⟨x0,x1,x2,x3,x4,x5,x6,x7⟩:=HXq.out.cells
  obtain ⟨c0,c1,c2,c3⟩:=HLq.out.cells
  have f2:=HLq.out.free 8
  go_wp2_with fail
  refine (HP.out _).mono ?_
  rintro e w2 ⟨rfl,hb⟩
  have HB2:Hid (Below w.heap.size w w2):=hidden (HBq.out.trans (hb.mono HBq.out.size))
  have HL2:=hidden (HLq.out.below hb)
  have HX2:=hidden (HXq.out.below hb HXq.out.lt)
  clear hb HLq HXq HBq HP x0 x1 x2 x3 x4 x5 x6 x7 c0 c1 c2 c3 f2
  obtain ⟨x0,x1,x2,x3,x4,x5,x6,x7⟩:=HX2.out.cells
  obtain ⟨c0,c1,c2,c3⟩:=HL2.out.cells
  have f2:=HL2.out.free 8
  go_wp2_with fail
  obtain ⟨wz,hwz⟩:∃ wz,(w2.setCell ⟨b,8,none⟩ (.int .i64 n)).alloc (.cells #[.int .i64 s,.int .i64 t,.int .i64 l,.int .i64 q,.bool false,.slice a k c] 87)=wz:=⟨_,rfl⟩
  have HLz:Hid (RefAt K wz b m nw n br):=by rw [← hwz];exact hidden ((HL2.out.setL n).alloc _)
  have HXz:Hid (Box wz w2.heap.size s t l q false (.slice a k c)):=by
    rw [← hwz]
    have:=Box.new (w2.setCell ⟨b,8,none⟩ (.int .i64 n)) s t l q false (.slice a k c)
    simpa using hidden this
  have HOz:Hid (Only [b] w wz):=by rw [← hwz];exact hidden (((Only.of_below HB2.out [b]).setCell (by simp) _).alloc _)
  have hbz:¬ b=w2.heap.size:=by have:=HL2.out.lt;omega
  have hzb:¬ w2.heap.size=b:=by omega
  rw [hwz]
  obtain ⟨xb,hxb⟩:∃ xb,w2.heap.size=xb:=⟨_,rfl⟩
  rw [hxb] at HXz hbz hzb
  try rw [hxb]
  clear hwz hxb HL2 HX2 HB2 x0 x1 x2 x3 x4 x5 x6 x7 c0 c1 c2 c3 f2
  obtain ⟨y0,y1,y2,y3,y4,y5⟩:=HXz.out.cells
  obtain ⟨c0,c1,c2,c3⟩:=HLz.out.cells
  clear y0 y1 y3 y5
  go_quiet (fail)
  obtain ⟨wp,hwp⟩:∃ wp,wz.drewN nq=wp:=⟨_,rfl⟩
  have HLp:Hid (RefAt K wp b m nw n br):=by rw [← hwp];exact hidden (HLz.out.below (below_drewN (Below.refl _ _) _))
  have HXp:Hid (Box wp xb s t l q false (.slice a k c)):=by rw [← hwp];exact hidden (HXz.out.below (below_drewN (Below.refl _ _) _) HXz.out.lt)
  have HOp:Hid (Only [b] w wp):=by rw [← hwp];exact hidden (HOz.out.drewN _)
  rw [hwp]
  clear hwp HLz HXz HOz y2 y4 c0 c1 c2 c3
  obtain ⟨y0,y1,y2,y3,y4,y5⟩:=HXp.out.cells
  obtain ⟨c0,c1,c2,c3⟩:=HLp.out.cells
  clear y0 y1 y3 y5 c2
  go_wp2_with fail
  go_quiet (fail)
  obtain ⟨wr,hwr⟩:∃ wr,wp.drewN nq=wr:=⟨_,rfl⟩
  have HLr:Hid (RefAt K wr b m nw n br):=by rw [← hwr];exact hidden (HLp.out.below (below_drewN (Below.refl _ _) _))
  have HXr:Hid (Box wr xb s t l q false (.slice a k c)):=by rw [← hwr];exact hidden (HXp.out.below (below_drewN (Below.refl _ _) _) HXp.out.lt)
  have HOr:Hid (Only [b] w wr):=by rw [← hwr];exact hidden (HOp.out.drewN _)
  rw [hwr]
  clear hwr HLp HXp HOp y2 y4 c0 c1 c3
  obtain ⟨y0,y1,y2,y3,y4,y5⟩:=HXr.out.cells
  obtain ⟨c0,c1,c2,c3⟩:=HLr.out.cells
  clear y0 y1 y3 y5 c2
  go_wp2_with fail
  go_quiet (fail)
  go_wp2_with fail
  go_ret2
  exact ⟨rfl,HLr.out.below (below_drewN (Below.refl _ _) _),HOr.out.drewN _⟩
set_option maxHeartbeats 2000000 in
set_option maxRecDepth 100000 in
theorem rtake_up (K:Kl) (b:Nat) (m nw la n:Int) (br:Bool) (s t l q:Int) (a:Option Addr) (k c:Nat) (w:World) (h:RefAt K w b m nw la br) (h0:0≤n) (h1:n≤1099511627776) (hn:¬ n≤la) (hf:fault s t l q k=0) (hl:¬ m<l) (h2:nw≤l) :
    Calls Tryz.prog 35 #[.pointer (some ⟨b,6,none⟩),.agg #[.int .i64 n,.bool false,.int .i64 s,.int .i64 t,.int .i64 l,.int .i64 q,.bool true,.slice a k c]] w fun e w'=>e=.returned (.tuple #[.bool true,.int .i64 0])∧RefAt K w' b m l n false∧Only [b] w w':=by
  have HL:=hidden (h.alloc (.cells #[.int .i64 n,.bool false,.int .i64 s,.int .i64 t,.int .i64 l,.int .i64 q,.bool true,.slice a k c] 89))
  have HX:=hidden (IBox.new w n false s t l q true (.slice a k c))
  have hlt:=h.lt
  have hne:¬ w.heap.size=b:=by omega
  have hne':¬ b=w.heap.size:=by omega
  clear h
  obtain ⟨x0,x1,x2,x3,x4,x5,x6,x7⟩:=HX.out.cells
  obtain ⟨c0,c1,c2,c3⟩:=HL.out.cells
  have HR:=hidden (fun W=>rlong_yes n W h0 h1)
  have d:decide (n≤la)=false:=by simpa using hn
  have HP:Hid (∀ W,Calls Tryz.prog 65 #[.agg #[.int .i64 s,.int .i64 t,.int .i64 l,.int .i64 q,.bool true,.slice a k c]] W fun e w'=>e=.returned (.int .i64 0)∧Below W.heap.size W w'):=hidden (fun W=>by have:=rpacket_calls s t l q true a k c W;rw [hf] at this;exact this)
  clear hf
  have dl:decide (m<l)=false:=by simpa using hl
  have d2:decide (nw≤l)=true:=by simpa using h2
  go_enter Tryz.func35,Tryz.ntmps35
  go_wp2_with fail
  refine (HR.out _).mono ?_
  rintro e w1 ⟨rfl,rfl⟩
  go_wp2_with fail
  go_quiet (fail)
  obtain ⟨wq,hwq⟩:∃ wq,(w.alloc (.cells #[.int .i64 n,.bool false,.int .i64 s,.int .i64 t,.int .i64 l,.int .i64 q,.bool true,.slice a k c] 89)).drewN nq=wq:=⟨_,rfl⟩
  have HLq:Hid (RefAt K wq b m nw la br):=by rw [← hwq];exact hidden (HL.out.below (below_drewN (Below.refl _ _) _))
  have HXq:Hid (IBox wq w.heap.size n false s t l q true (.slice a k c)):=by rw [← hwq];exact hidden (HX.out.below (below_drewN (Below.refl _ _) _) HX.out.lt)
  have HBq:Hid (Below w.heap.size w wq):=by rw [← hwq];exact hidden (below_drewN ((Below.refl _ _).alloc (Nat.le_refl _) _) _)
  rw [hwq]
  clear hwq HL HX x0 x1 x2 x3 x4 x5 x6 x7 c0 c1 c2 c3
  obtain ⟨x0,x1,x2,x3,x4,x5,x6,x7⟩:=HXq.out.cells
  obtain ⟨c0,c1,c2,c3⟩:=HLq.out.cells
  have f2:=HLq.out.free 8
  go_wp2_with fail
  refine (HP.out _).mono ?_
  rintro e w2 ⟨rfl,hb⟩
  have HB2:Hid (Below w.heap.size w w2):=hidden (HBq.out.trans (hb.mono HBq.out.size))
  have HL2:=hidden (HLq.out.below hb)
  have HX2:=hidden (HXq.out.below hb HXq.out.lt)
  clear hb HLq HXq HBq HP x0 x1 x2 x3 x4 x5 x6 x7 c0 c1 c2 c3 f2
  obtain ⟨x0,x1,x2,x3,x4,x5,x6,x7⟩:=HX2.out.cells
  obtain ⟨c0,c1,c2,c3⟩:=HL2.out.cells
  have f2:=HL2.out.free 8
  go_wp2_with fail
  obtain ⟨wz,hwz⟩:∃ wz,(w2.setCell ⟨b,8,none⟩ (.int .i64 n)).alloc (.cells #[.int .i64 s,.int .i64 t,.int .i64 l,.int .i64 q,.bool true,.slice a k c] 87)=wz:=⟨_,rfl⟩
  have HLz:Hid (RefAt K wz b m nw n br):=by rw [← hwz];exact hidden ((HL2.out.setL n).alloc _)
  have HXz:Hid (Box wz w2.heap.size s t l q true (.slice a k c)):=by
    rw [← hwz]
    have:=Box.new (w2.setCell ⟨b,8,none⟩ (.int .i64 n)) s t l q true (.slice a k c)
    simpa using hidden this
  have HOz:Hid (Only [b] w wz):=by rw [← hwz];exact hidden (((Only.of_below HB2.out [b]).setCell (by simp) _).alloc _)
  have hbz:¬ b=w2.heap.size:=by have:=HL2.out.lt;omega
  have hzb:¬ w2.heap.size=b:=by omega
  rw [hwz]
  obtain ⟨xb,hxb⟩:∃ xb,w2.heap.size=xb:=⟨_,rfl⟩
  rw [hxb] at HXz hbz hzb
  try rw [hxb]
  clear hwz hxb HL2 HX2 HB2 x0 x1 x2 x3 x4 x5 x6 x7 c0 c1 c2 c3 f2
  obtain ⟨y0,y1,y2,y3,y4,y5⟩:=HXz.out.cells
  obtain ⟨c0,c1,c2,c3⟩:=HLz.out.cells
  clear y0 y1 y3 y5
  go_quiet (fail)
  obtain ⟨wp,hwp⟩:∃ wp,wz.drewN nq=wp:=⟨_,rfl⟩
  have HLp:Hid (RefAt K wp b m nw n br):=by rw [← hwp];exact hidden (HLz.out.below (below_drewN (Below.refl _ _) _))
  have HXp:Hid (Box wp xb s t l q true (.slice a k c)):=by rw [← hwp];exact hidden (HXz.out.below (below_drewN (Below.refl _ _) _) HXz.out.lt)
  have HOp:Hid (Only [b] w wp):=by rw [← hwp];exact hidden (HOz.out.drewN _)
  rw [hwp]
  clear hwp HLz HXz HOz y2 y4 c0 c1 c2 c3
  obtain ⟨y0,y1,y2,y3,y4,y5⟩:=HXp.out.cells
  obtain ⟨c0,c1,c2,c3⟩:=HLp.out.cells
  clear y0 y1 y3 y5 c2
  go_wp2_with fail
  go_quiet (fail)
  obtain ⟨wr,hwr⟩:∃ wr,wp.drewN nq=wr:=⟨_,rfl⟩
  have HLr:Hid (RefAt K wr b m nw n br):=by rw [← hwr];exact hidden (HLp.out.below (below_drewN (Below.refl _ _) _))
  have HXr:Hid (Box wr xb s t l q true (.slice a k c)):=by rw [← hwr];exact hidden (HXp.out.below (below_drewN (Below.refl _ _) _) HXp.out.lt)
  have HOr:Hid (Only [b] w wr):=by rw [← hwr];exact hidden (HOp.out.drewN _)
  rw [hwr]
  clear hwr HLp HXp HOp y2 y4 c0 c1 c3
  obtain ⟨y0,y1,y2,y3,y4,y5⟩:=HXr.out.cells
  obtain ⟨c0,c1,c2,c3⟩:=HLr.out.cells
  have f1:=HLr.out.free 7
  have f3:=HLr.out.free 9
  clear y0 y1 y3 y5 c2 c0
  go_wp2_with fail
  go_ret2
  exact ⟨rfl,(HLr.out.setN l).setB false,(HOr.out.setCell (by simp) _).setCell (by simp) _⟩
set_option maxHeartbeats 2000000 in
set_option maxRecDepth 100000 in
theorem rtake_broken (K:Kl) (b:Nat) (m nw la n:Int) (br:Bool) (s t l q:Int) (a:Option Addr) (k c:Nat) (w:World) (h:RefAt K w b m nw la br) (h0:0≤n) (h1:n≤1099511627776) (hn:¬ n≤la) (hf:fault s t l q k=0) (hl:¬ m<l) (h2:¬ nw≤l) (h3:br=true) :
    Calls Tryz.prog 35 #[.pointer (some ⟨b,6,none⟩),.agg #[.int .i64 n,.bool false,.int .i64 s,.int .i64 t,.int .i64 l,.int .i64 q,.bool true,.slice a k c]] w fun e w'=>e=.returned (.tuple #[.bool true,.int .i64 0])∧RefAt K w' b m l n false∧Only [b] w w':=by
  have HL:=hidden (h.alloc (.cells #[.int .i64 n,.bool false,.int .i64 s,.int .i64 t,.int .i64 l,.int .i64 q,.bool true,.slice a k c] 89))
  have HX:=hidden (IBox.new w n false s t l q true (.slice a k c))
  have hlt:=h.lt
  have hne:¬ w.heap.size=b:=by omega
  have hne':¬ b=w.heap.size:=by omega
  clear h
  obtain ⟨x0,x1,x2,x3,x4,x5,x6,x7⟩:=HX.out.cells
  obtain ⟨c0,c1,c2,c3⟩:=HL.out.cells
  have HR:=hidden (fun W=>rlong_yes n W h0 h1)
  have d:decide (n≤la)=false:=by simpa using hn
  have HP:Hid (∀ W,Calls Tryz.prog 65 #[.agg #[.int .i64 s,.int .i64 t,.int .i64 l,.int .i64 q,.bool true,.slice a k c]] W fun e w'=>e=.returned (.int .i64 0)∧Below W.heap.size W w'):=hidden (fun W=>by have:=rpacket_calls s t l q true a k c W;rw [hf] at this;exact this)
  clear hf
  have dl:decide (m<l)=false:=by simpa using hl
  have d2:decide (nw≤l)=false:=by simpa using h2
  subst h3
  go_enter Tryz.func35,Tryz.ntmps35
  go_wp2_with fail
  refine (HR.out _).mono ?_
  rintro e w1 ⟨rfl,rfl⟩
  go_wp2_with fail
  go_quiet (fail)
  obtain ⟨wq,hwq⟩:∃ wq,(w.alloc (.cells #[.int .i64 n,.bool false,.int .i64 s,.int .i64 t,.int .i64 l,.int .i64 q,.bool true,.slice a k c] 89)).drewN nq=wq:=⟨_,rfl⟩
  have HLq:Hid (RefAt K wq b m nw la true):=by rw [← hwq];exact hidden (HL.out.below (below_drewN (Below.refl _ _) _))
  have HXq:Hid (IBox wq w.heap.size n false s t l q true (.slice a k c)):=by rw [← hwq];exact hidden (HX.out.below (below_drewN (Below.refl _ _) _) HX.out.lt)
  have HBq:Hid (Below w.heap.size w wq):=by rw [← hwq];exact hidden (below_drewN ((Below.refl _ _).alloc (Nat.le_refl _) _) _)
  rw [hwq]
  clear hwq HL HX x0 x1 x2 x3 x4 x5 x6 x7 c0 c1 c2 c3
  obtain ⟨x0,x1,x2,x3,x4,x5,x6,x7⟩:=HXq.out.cells
  obtain ⟨c0,c1,c2,c3⟩:=HLq.out.cells
  have f2:=HLq.out.free 8
  go_wp2_with fail
  refine (HP.out _).mono ?_
  rintro e w2 ⟨rfl,hb⟩
  have HB2:Hid (Below w.heap.size w w2):=hidden (HBq.out.trans (hb.mono HBq.out.size))
  have HL2:=hidden (HLq.out.below hb)
  have HX2:=hidden (HXq.out.below hb HXq.out.lt)
  clear hb HLq HXq HBq HP x0 x1 x2 x3 x4 x5 x6 x7 c0 c1 c2 c3 f2
  obtain ⟨x0,x1,x2,x3,x4,x5,x6,x7⟩:=HX2.out.cells
  obtain ⟨c0,c1,c2,c3⟩:=HL2.out.cells
  have f2:=HL2.out.free 8
  go_wp2_with fail
  obtain ⟨wz,hwz⟩:∃ wz,(w2.setCell ⟨b,8,none⟩ (.int .i64 n)).alloc (.cells #[.int .i64 s,.int .i64 t,.int .i64 l,.int .i64 q,.bool true,.slice a k c] 87)=wz:=⟨_,rfl⟩
  have HLz:Hid (RefAt K wz b m nw n true):=by rw [← hwz];exact hidden ((HL2.out.setL n).alloc _)
  have HXz:Hid (Box wz w2.heap.size s t l q true (.slice a k c)):=by
    rw [← hwz]
    have:=Box.new (w2.setCell ⟨b,8,none⟩ (.int .i64 n)) s t l q true (.slice a k c)
    simpa using hidden this
  have HOz:Hid (Only [b] w wz):=by rw [← hwz];exact hidden (((Only.of_below HB2.out [b]).setCell (by simp) _).alloc _)
  have hbz:¬ b=w2.heap.size:=by have:=HL2.out.lt;omega
  have hzb:¬ w2.heap.size=b:=by omega
  rw [hwz]
  obtain ⟨xb,hxb⟩:∃ xb,w2.heap.size=xb:=⟨_,rfl⟩
  rw [hxb] at HXz hbz hzb
  try rw [hxb]
  clear hwz hxb HL2 HX2 HB2 x0 x1 x2 x3 x4 x5 x6 x7 c0 c1 c2 c3 f2
  obtain ⟨y0,y1,y2,y3,y4,y5⟩:=HXz.out.cells
  obtain ⟨c0,c1,c2,c3⟩:=HLz.out.cells
  clear y0 y1 y3 y5
  go_quiet (fail)
  obtain ⟨wp,hwp⟩:∃ wp,wz.drewN nq=wp:=⟨_,rfl⟩
  have HLp:Hid (RefAt K wp b m nw n true):=by rw [← hwp];exact hidden (HLz.out.below (below_drewN (Below.refl _ _) _))
  have HXp:Hid (Box wp xb s t l q true (.slice a k c)):=by rw [← hwp];exact hidden (HXz.out.below (below_drewN (Below.refl _ _) _) HXz.out.lt)
  have HOp:Hid (Only [b] w wp):=by rw [← hwp];exact hidden (HOz.out.drewN _)
  rw [hwp]
  clear hwp HLz HXz HOz y2 y4 c0 c1 c2 c3
  obtain ⟨y0,y1,y2,y3,y4,y5⟩:=HXp.out.cells
  obtain ⟨c0,c1,c2,c3⟩:=HLp.out.cells
  clear y0 y1 y3 y5 c2
  go_wp2_with fail
  go_quiet (fail)
  obtain ⟨wr,hwr⟩:∃ wr,wp.drewN nq=wr:=⟨_,rfl⟩
  have HLr:Hid (RefAt K wr b m nw n true):=by rw [← hwr];exact hidden (HLp.out.below (below_drewN (Below.refl _ _) _))
  have HXr:Hid (Box wr xb s t l q true (.slice a k c)):=by rw [← hwr];exact hidden (HXp.out.below (below_drewN (Below.refl _ _) _) HXp.out.lt)
  have HOr:Hid (Only [b] w wr):=by rw [← hwr];exact hidden (HOp.out.drewN _)
  rw [hwr]
  clear hwr HLp HXp HOp y2 y4 c0 c1 c3
  obtain ⟨y0,y1,y2,y3,y4,y5⟩:=HXr.out.cells
  obtain ⟨c0,c1,c2,c3⟩:=HLr.out.cells
  have f1:=HLr.out.free 7
  have f3:=HLr.out.free 9
  clear y0 y1 y3 y5 c2 c0
  go_wp2_with fail
  go_ret2
  exact ⟨rfl,(HLr.out.setN l).setB false,(HOr.out.setCell (by simp) _).setCell (by simp) _⟩
set_option maxHeartbeats 2000000 in
set_option maxRecDepth 100000 in
theorem rtake_down (K:Kl) (b:Nat) (m nw la n:Int) (br:Bool) (s t l q:Int) (a:Option Addr) (k c:Nat) (w:World) (h:RefAt K w b m nw la br) (h0:0≤n) (h1:n≤1099511627776) (hn:¬ n≤la) (hf:fault s t l q k=0) (hl:¬ m<l) (h2:¬ nw≤l) (h3:br=false) (h4:m<nw) :
    Calls Tryz.prog 35 #[.pointer (some ⟨b,6,none⟩),.agg #[.int .i64 n,.bool false,.int .i64 s,.int .i64 t,.int .i64 l,.int .i64 q,.bool true,.slice a k c]] w fun e w'=>e=.returned (.tuple #[.bool true,.int .i64 0])∧RefAt K w' b m l n false∧Only [b] w w':=by
  have HL:=hidden (h.alloc (.cells #[.int .i64 n,.bool false,.int .i64 s,.int .i64 t,.int .i64 l,.int .i64 q,.bool true,.slice a k c] 89))
  have HX:=hidden (IBox.new w n false s t l q true (.slice a k c))
  have hlt:=h.lt
  have hne:¬ w.heap.size=b:=by omega
  have hne':¬ b=w.heap.size:=by omega
  clear h
  obtain ⟨x0,x1,x2,x3,x4,x5,x6,x7⟩:=HX.out.cells
  obtain ⟨c0,c1,c2,c3⟩:=HL.out.cells
  have HR:=hidden (fun W=>rlong_yes n W h0 h1)
  have d:decide (n≤la)=false:=by simpa using hn
  have HP:Hid (∀ W,Calls Tryz.prog 65 #[.agg #[.int .i64 s,.int .i64 t,.int .i64 l,.int .i64 q,.bool true,.slice a k c]] W fun e w'=>e=.returned (.int .i64 0)∧Below W.heap.size W w'):=hidden (fun W=>by have:=rpacket_calls s t l q true a k c W;rw [hf] at this;exact this)
  clear hf
  have dl:decide (m<l)=false:=by simpa using hl
  have d2:decide (nw≤l)=false:=by simpa using h2
  subst h3
  have d4:decide (m<nw)=true:=by simpa using h4
  go_enter Tryz.func35,Tryz.ntmps35
  go_wp2_with fail
  refine (HR.out _).mono ?_
  rintro e w1 ⟨rfl,rfl⟩
  go_wp2_with fail
  go_quiet (fail)
  obtain ⟨wq,hwq⟩:∃ wq,(w.alloc (.cells #[.int .i64 n,.bool false,.int .i64 s,.int .i64 t,.int .i64 l,.int .i64 q,.bool true,.slice a k c] 89)).drewN nq=wq:=⟨_,rfl⟩
  have HLq:Hid (RefAt K wq b m nw la false):=by rw [← hwq];exact hidden (HL.out.below (below_drewN (Below.refl _ _) _))
  have HXq:Hid (IBox wq w.heap.size n false s t l q true (.slice a k c)):=by rw [← hwq];exact hidden (HX.out.below (below_drewN (Below.refl _ _) _) HX.out.lt)
  have HBq:Hid (Below w.heap.size w wq):=by rw [← hwq];exact hidden (below_drewN ((Below.refl _ _).alloc (Nat.le_refl _) _) _)
  rw [hwq]
  clear hwq HL HX x0 x1 x2 x3 x4 x5 x6 x7 c0 c1 c2 c3
  obtain ⟨x0,x1,x2,x3,x4,x5,x6,x7⟩:=HXq.out.cells
  obtain ⟨c0,c1,c2,c3⟩:=HLq.out.cells
  have f2:=HLq.out.free 8
  go_wp2_with fail
  refine (HP.out _).mono ?_
  rintro e w2 ⟨rfl,hb⟩
  have HB2:Hid (Below w.heap.size w w2):=hidden (HBq.out.trans (hb.mono HBq.out.size))
  have HL2:=hidden (HLq.out.below hb)
  have HX2:=hidden (HXq.out.below hb HXq.out.lt)
  clear hb HLq HXq HBq HP x0 x1 x2 x3 x4 x5 x6 x7 c0 c1 c2 c3 f2
  obtain ⟨x0,x1,x2,x3,x4,x5,x6,x7⟩:=HX2.out.cells
  obtain ⟨c0,c1,c2,c3⟩:=HL2.out.cells
  have f2:=HL2.out.free 8
  go_wp2_with fail
  obtain ⟨wz,hwz⟩:∃ wz,(w2.setCell ⟨b,8,none⟩ (.int .i64 n)).alloc (.cells #[.int .i64 s,.int .i64 t,.int .i64 l,.int .i64 q,.bool true,.slice a k c] 87)=wz:=⟨_,rfl⟩
  have HLz:Hid (RefAt K wz b m nw n false):=by rw [← hwz];exact hidden ((HL2.out.setL n).alloc _)
  have HXz:Hid (Box wz w2.heap.size s t l q true (.slice a k c)):=by
    rw [← hwz]
    have:=Box.new (w2.setCell ⟨b,8,none⟩ (.int .i64 n)) s t l q true (.slice a k c)
    simpa using hidden this
  have HOz:Hid (Only [b] w wz):=by rw [← hwz];exact hidden (((Only.of_below HB2.out [b]).setCell (by simp) _).alloc _)
  have hbz:¬ b=w2.heap.size:=by have:=HL2.out.lt;omega
  have hzb:¬ w2.heap.size=b:=by omega
  rw [hwz]
  obtain ⟨xb,hxb⟩:∃ xb,w2.heap.size=xb:=⟨_,rfl⟩
  rw [hxb] at HXz hbz hzb
  try rw [hxb]
  clear hwz hxb HL2 HX2 HB2 x0 x1 x2 x3 x4 x5 x6 x7 c0 c1 c2 c3 f2
  obtain ⟨y0,y1,y2,y3,y4,y5⟩:=HXz.out.cells
  obtain ⟨c0,c1,c2,c3⟩:=HLz.out.cells
  clear y0 y1 y3 y5
  go_quiet (fail)
  obtain ⟨wp,hwp⟩:∃ wp,wz.drewN nq=wp:=⟨_,rfl⟩
  have HLp:Hid (RefAt K wp b m nw n false):=by rw [← hwp];exact hidden (HLz.out.below (below_drewN (Below.refl _ _) _))
  have HXp:Hid (Box wp xb s t l q true (.slice a k c)):=by rw [← hwp];exact hidden (HXz.out.below (below_drewN (Below.refl _ _) _) HXz.out.lt)
  have HOp:Hid (Only [b] w wp):=by rw [← hwp];exact hidden (HOz.out.drewN _)
  rw [hwp]
  clear hwp HLz HXz HOz y2 y4 c0 c1 c2 c3
  obtain ⟨y0,y1,y2,y3,y4,y5⟩:=HXp.out.cells
  obtain ⟨c0,c1,c2,c3⟩:=HLp.out.cells
  clear y0 y1 y3 y5 c2
  go_wp2_with fail
  go_quiet (fail)
  obtain ⟨wr,hwr⟩:∃ wr,wp.drewN nq=wr:=⟨_,rfl⟩
  have HLr:Hid (RefAt K wr b m nw n false):=by rw [← hwr];exact hidden (HLp.out.below (below_drewN (Below.refl _ _) _))
  have HXr:Hid (Box wr xb s t l q true (.slice a k c)):=by rw [← hwr];exact hidden (HXp.out.below (below_drewN (Below.refl _ _) _) HXp.out.lt)
  have HOr:Hid (Only [b] w wr):=by rw [← hwr];exact hidden (HOp.out.drewN _)
  rw [hwr]
  clear hwr HLp HXp HOp y2 y4 c0 c1 c3
  obtain ⟨y0,y1,y2,y3,y4,y5⟩:=HXr.out.cells
  obtain ⟨c0,c1,c2,c3⟩:=HLr.out.cells
  have f1:=HLr.out.free 7
  have f3:=HLr.out.free 9
  clear y0 y1 y3 y5 c2 c0
  go_wp2_with fail
  go_ret2
  exact ⟨rfl,(HLr.out.setN l).setB false,(HOr.out.setCell (by simp) _).setCell (by simp) _⟩
set_option maxHeartbeats 2000000 in
set_option maxRecDepth 100000 in
theorem rtake_no (K:Kl) (b:Nat) (m nw la n:Int) (br:Bool) (s t l q:Int) (a:Option Addr) (k c:Nat) (w:World) (h:RefAt K w b m nw la br) (h0:0≤n) (h1:n≤1099511627776) (hn:¬ n≤la) (hf:fault s t l q k=0) (hl:¬ m<l) (h2:¬ nw≤l) (h3:br=false) (h4:¬ m<nw) :
    Calls Tryz.prog 35 #[.pointer (some ⟨b,6,none⟩),.agg #[.int .i64 n,.bool false,.int .i64 s,.int .i64 t,.int .i64 l,.int .i64 q,.bool true,.slice a k c]] w fun e w'=>e=.returned (.tuple #[.bool false,.int .i64 0])∧RefAt K w' b m nw n br∧Only [b] w w':=by
  have HL:=hidden (h.alloc (.cells #[.int .i64 n,.bool false,.int .i64 s,.int .i64 t,.int .i64 l,.int .i64 q,.bool true,.slice a k c] 89))
  have HX:=hidden (IBox.new w n false s t l q true (.slice a k c))
  have hlt:=h.lt
  have hne:¬ w.heap.size=b:=by omega
  have hne':¬ b=w.heap.size:=by omega
  clear h
  obtain ⟨x0,x1,x2,x3,x4,x5,x6,x7⟩:=HX.out.cells
  obtain ⟨c0,c1,c2,c3⟩:=HL.out.cells
  have HR:=hidden (fun W=>rlong_yes n W h0 h1)
  have d:decide (n≤la)=false:=by simpa using hn
  have HP:Hid (∀ W,Calls Tryz.prog 65 #[.agg #[.int .i64 s,.int .i64 t,.int .i64 l,.int .i64 q,.bool true,.slice a k c]] W fun e w'=>e=.returned (.int .i64 0)∧Below W.heap.size W w'):=hidden (fun W=>by have:=rpacket_calls s t l q true a k c W;rw [hf] at this;exact this)
  clear hf
  have dl:decide (m<l)=false:=by simpa using hl
  have d2:decide (nw≤l)=false:=by simpa using h2
  subst h3
  have d4:decide (m<nw)=false:=by simpa using h4
  go_enter Tryz.func35,Tryz.ntmps35
  go_wp2_with fail
  refine (HR.out _).mono ?_
  rintro e w1 ⟨rfl,rfl⟩
  go_wp2_with fail
  go_quiet (fail)
  obtain ⟨wq,hwq⟩:∃ wq,(w.alloc (.cells #[.int .i64 n,.bool false,.int .i64 s,.int .i64 t,.int .i64 l,.int .i64 q,.bool true,.slice a k c] 89)).drewN nq=wq:=⟨_,rfl⟩
  have HLq:Hid (RefAt K wq b m nw la false):=by rw [← hwq];exact hidden (HL.out.below (below_drewN (Below.refl _ _) _))
  have HXq:Hid (IBox wq w.heap.size n false s t l q true (.slice a k c)):=by rw [← hwq];exact hidden (HX.out.below (below_drewN (Below.refl _ _) _) HX.out.lt)
  have HBq:Hid (Below w.heap.size w wq):=by rw [← hwq];exact hidden (below_drewN ((Below.refl _ _).alloc (Nat.le_refl _) _) _)
  rw [hwq]
  clear hwq HL HX x0 x1 x2 x3 x4 x5 x6 x7 c0 c1 c2 c3
  obtain ⟨x0,x1,x2,x3,x4,x5,x6,x7⟩:=HXq.out.cells
  obtain ⟨c0,c1,c2,c3⟩:=HLq.out.cells
  have f2:=HLq.out.free 8
  go_wp2_with fail
  refine (HP.out _).mono ?_
  rintro e w2 ⟨rfl,hb⟩
  have HB2:Hid (Below w.heap.size w w2):=hidden (HBq.out.trans (hb.mono HBq.out.size))
  have HL2:=hidden (HLq.out.below hb)
  have HX2:=hidden (HXq.out.below hb HXq.out.lt)
  clear hb HLq HXq HBq HP x0 x1 x2 x3 x4 x5 x6 x7 c0 c1 c2 c3 f2
  obtain ⟨x0,x1,x2,x3,x4,x5,x6,x7⟩:=HX2.out.cells
  obtain ⟨c0,c1,c2,c3⟩:=HL2.out.cells
  have f2:=HL2.out.free 8
  go_wp2_with fail
  obtain ⟨wz,hwz⟩:∃ wz,(w2.setCell ⟨b,8,none⟩ (.int .i64 n)).alloc (.cells #[.int .i64 s,.int .i64 t,.int .i64 l,.int .i64 q,.bool true,.slice a k c] 87)=wz:=⟨_,rfl⟩
  have HLz:Hid (RefAt K wz b m nw n false):=by rw [← hwz];exact hidden ((HL2.out.setL n).alloc _)
  have HXz:Hid (Box wz w2.heap.size s t l q true (.slice a k c)):=by
    rw [← hwz]
    have:=Box.new (w2.setCell ⟨b,8,none⟩ (.int .i64 n)) s t l q true (.slice a k c)
    simpa using hidden this
  have HOz:Hid (Only [b] w wz):=by rw [← hwz];exact hidden (((Only.of_below HB2.out [b]).setCell (by simp) _).alloc _)
  have hbz:¬ b=w2.heap.size:=by have:=HL2.out.lt;omega
  have hzb:¬ w2.heap.size=b:=by omega
  rw [hwz]
  obtain ⟨xb,hxb⟩:∃ xb,w2.heap.size=xb:=⟨_,rfl⟩
  rw [hxb] at HXz hbz hzb
  try rw [hxb]
  clear hwz hxb HL2 HX2 HB2 x0 x1 x2 x3 x4 x5 x6 x7 c0 c1 c2 c3 f2
  obtain ⟨y0,y1,y2,y3,y4,y5⟩:=HXz.out.cells
  obtain ⟨c0,c1,c2,c3⟩:=HLz.out.cells
  clear y0 y1 y3 y5
  go_quiet (fail)
  obtain ⟨wp,hwp⟩:∃ wp,wz.drewN nq=wp:=⟨_,rfl⟩
  have HLp:Hid (RefAt K wp b m nw n false):=by rw [← hwp];exact hidden (HLz.out.below (below_drewN (Below.refl _ _) _))
  have HXp:Hid (Box wp xb s t l q true (.slice a k c)):=by rw [← hwp];exact hidden (HXz.out.below (below_drewN (Below.refl _ _) _) HXz.out.lt)
  have HOp:Hid (Only [b] w wp):=by rw [← hwp];exact hidden (HOz.out.drewN _)
  rw [hwp]
  clear hwp HLz HXz HOz y2 y4 c0 c1 c2 c3
  obtain ⟨y0,y1,y2,y3,y4,y5⟩:=HXp.out.cells
  obtain ⟨c0,c1,c2,c3⟩:=HLp.out.cells
  clear y0 y1 y3 y5 c2
  go_wp2_with fail
  go_quiet (fail)
  obtain ⟨wr,hwr⟩:∃ wr,wp.drewN nq=wr:=⟨_,rfl⟩
  have HLr:Hid (RefAt K wr b m nw n false):=by rw [← hwr];exact hidden (HLp.out.below (below_drewN (Below.refl _ _) _))
  have HXr:Hid (Box wr xb s t l q true (.slice a k c)):=by rw [← hwr];exact hidden (HXp.out.below (below_drewN (Below.refl _ _) _) HXp.out.lt)
  have HOr:Hid (Only [b] w wr):=by rw [← hwr];exact hidden (HOp.out.drewN _)
  rw [hwr]
  clear hwr HLp HXp HOp y2 y4 c0 c1 c3
  obtain ⟨y0,y1,y2,y3,y4,y5⟩:=HXr.out.cells
  obtain ⟨c0,c1,c2,c3⟩:=HLr.out.cells
  clear y0 y1 y3 y5 c2
  go_wp2_with fail
  go_quiet (fail)
  go_wp2_with fail
  go_ret2
  exact ⟨rfl,HLr.out.below (below_drewN (Below.refl _ _) _),HOr.out.drewN _⟩
theorem rtake_calls (K:Kl) (b:Nat) (m nw la n:Int) (br g:Bool) (s t l q:Int) (st:Bool) (a:Option Addr) (k c:Nat) (w:World) (h:RefAt K w b m nw la br) (hI:LM.Inv m nw la br) :
    Calls Tryz.prog 35 #[.pointer (some ⟨b,6,none⟩),.agg #[.int .i64 n,.bool g,.int .i64 s,.int .i64 t,.int .i64 l,.int .i64 q,.bool st,.slice a k c]] w fun e w'=>e=.returned (.tuple #[.bool (tkx m nw la n br g (fault s t l q k) l st),.int .i64 (tkf la n g (fault s t l q k):Nat)])∧RefAt K w' b m (tkN m nw la n br g (fault s t l q k) l st) (tkL la n g (fault s t l q k)) (tkB m nw la n br g (fault s t l q k) l st)∧Only [b] w w':=by
  by_cases p0:n<0∨1099511627776<n
  · have hf:tkf la n g (fault s t l q k)=1:=tkf_range p0
    obtain ⟨e0,e1,e2,e3⟩:=tk_bad (m:=m) (nw:=nw) (br:=br) (l:=l) (st:=st) (g:=g) (la:=la) (n:=n) (p:=fault s t l q k) (by rw [hf];decide)
    rw [e0,e1,e2,e3,hf]
    refine (rtake_range K b m nw la n br g s t l q st a k c w h p0).mono ?_
    rintro e w' ⟨rfl,hb⟩
    exact ⟨rfl,h.below hb,Only.of_below hb _⟩
  by_cases p1:n≤la
  · have hf:tkf la n g (fault s t l q k)=6:=tkf_state (by omega) (by omega) p1
    obtain ⟨e0,e1,e2,e3⟩:=tk_bad (m:=m) (nw:=nw) (br:=br) (l:=l) (st:=st) (g:=g) (la:=la) (n:=n) (p:=fault s t l q k) (by rw [hf];decide)
    rw [e0,e1,e2,e3,hf]
    refine (rtake_state K b m nw la n br g s t l q st a k c w h (by omega) (by omega) p1).mono ?_
    rintro e w' ⟨rfl,hb⟩
    exact ⟨rfl,h.below hb,Only.of_below hb _⟩
  cases g with
  | true=>
    have hf:tkf la n true (fault s t l q k)=0:=tkf_gone (by omega) (by omega) p1
    obtain ⟨e0,e1,e2,e3⟩:=tk_gone (m:=m) (nw:=nw) (br:=br) (l:=l) (st:=st) hf
    rw [e0,e1,e2,e3,hf]
    by_cases p2:nw=-1
    · have e:decide (nw≠-1)=br:=by rw [hI.bk p2];simp [p2]
      rw [e]
      exact rtake_gone0 K b m nw la n br s t l q st a k c w h (by omega) (by omega) p1 p2
    · have e:decide (nw≠-1)=true:=by simp [p2]
      rw [e]
      exact rtake_gone1 K b m nw la n br s t l q st a k c w h (by omega) (by omega) p1 p2
  | false=>
    have hf:tkf la n false (fault s t l q k)=fault s t l q k:=tkf_pack (by omega) (by omega) p1
    by_cases p2:fault s t l q k=0
    · rw [p2] at hf
      have hf':tkf la n false (fault s t l q k)=0:=by rw [p2,hf]
      obtain ⟨e0,e1,e2,e3⟩:=tk_pack (m:=m) (nw:=nw) (br:=br) (l:=l) (st:=st) hf'
      rw [e0,e1,e2,e3,hf']
      by_cases p3:m<l
      · have e:goes m nw l br st=false:=by simp [goes];omega
        rw [e]
        exact rtake_above K b m nw la n br s t l q st a k c w h (by omega) (by omega) p1 p2 p3
      have p3':l≤m:=by omega
      cases st with
      | false=>
        by_cases p4:l=nw
        · have e:goes m nw l br false=!br:=by
            subst p4
            simp [goes,p3']
          rw [e]
          simp only [Bool.and_false,Bool.false_eq_true,if_false]
          exact rtake_same K b m nw la n br s t l q a k c w h (by omega) (by omega) p1 p2 p3 p4
        · have e:goes m nw l br false=false:=by simp [goes,p4]
          rw [e]
          exact rtake_other K b m nw la n br s t l q a k c w h (by omega) (by omega) p1 p2 p3 p4
      | true=>
        by_cases p4:nw≤l
        · have e:goes m nw l br true=true:=by simp [goes,p3',p4]
          rw [e]
          exact rtake_up K b m nw la n br s t l q a k c w h (by omega) (by omega) p1 p2 p3 p4
        cases hbr:br with
        | true=>
          have e:goes m nw l true true=true:=by simp [goes,p3']
          rw [e]
          rw [hbr] at h
          exact rtake_broken K b m nw la n true s t l q a k c w h (by omega) (by omega) p1 p2 p3 p4 rfl
        | false=>
          rw [hbr] at h
          by_cases p5:m<nw
          · have e:goes m nw l false true=true:=by simp [goes,p3',p5]
            rw [e]
            exact rtake_down K b m nw la n false s t l q a k c w h (by omega) (by omega) p1 p2 p3 p4 rfl p5
          · have e:goes m nw l false true=false:=by simp [goes];omega
            rw [e]
            exact rtake_no K b m nw la n false s t l q a k c w h (by omega) (by omega) p1 p2 p3 p4 rfl p5
    · obtain ⟨e0,e1,e2,e3⟩:=tk_bad (m:=m) (nw:=nw) (br:=br) (l:=l) (st:=st) (g:=false) (la:=la) (n:=n) (p:=fault s t l q k) (by rw [hf];exact p2)
      rw [e0,e1,e2,e3,hf]
      refine (rtake_bad K b m nw la n br s t l q st a k c w h (by omega) (by omega) p1 p2).mono ?_
      rintro e w' ⟨rfl,hb⟩
      exact ⟨rfl,h.below hb,Only.of_below hb _⟩
end Go.Proofs.YtlppdppddiecnaaGreatDoor.RLayer
