/-
  Ref, RdW in one text.
-/
import Derived.Test.YtlppdppddiecnaaGreatDoorSerialP
import Derived.Test.YtlppdppddiecnaaGreatDoorMathAll
import Derived.Deep.QuietTactic
import Derived.BigQuiet
import Derived.LoopTactic
import Derived.OwnWalk
import Derived.Outline

namespace Go.Proofs.YtlppdppddiecnaaGreatDoor.Ref
open Go.ChangeShapes Go.WideShapes Go.ChangeAt Go.RowKit
set_option linter.unusedVariables false

theorem ret_int {k:IntKind} {a b:Int} (h:a=b):Ending.returned (.int k a)=.returned (.int k b):=by rw [h]
theorem ret_bool {a b:Bool} (h:a=b):Ending.returned (.bool a)=.returned (.bool b):=by rw [h]
theorem far_lt (a b:Int) (w:World) (h:a<b) (h0:-1000000000000000≤a) (h1:b≤1000000000000000) :
    Calls Tryz.prog 60 #[.int .i64 a,.int .i64 b] w fun e w'=>e=.returned (.int .i64 (b - a))∧w'=w:=by
  go_enter Tryz.func60,Tryz.ntmps60
  go_wp2
  go_ret
  exact ⟨rfl,rfl⟩
theorem far_ge (a b:Int) (w:World) (h:b≤a) (h0:-1000000000000000≤b) (h1:a≤1000000000000000) :
    Calls Tryz.prog 60 #[.int .i64 a,.int .i64 b] w fun e w'=>e=.returned (.int .i64 (a - b))∧w'=w:=by
  go_enter Tryz.func60,Tryz.ntmps60
  go_wp2
  go_ret
  exact ⟨rfl,rfl⟩
set_option maxHeartbeats 800000 in
theorem runw_A1 (last seq:Int) (w:World) (h0:0≤last) (ha:last<65536) (h4:32768≤seq - last%65536) (h1:last≤1099511627776) (h2:0≤seq) (h3:seq≤65535) :
    Calls Tryz.prog 22 #[.int .i64 last,.int .i64 seq] w fun e w'=>e=.returned (.int .i64 (Ser.unw last seq))∧w'=w:=by
  have hm0:0≤last%65536:=by omega
  have hm1:last%65536≤65535:=by omega
  have hm2:last - last%65536=0:=by omega
  have hm3:last=last%65536:=by omega
  have HU:Hid (last - last%65536=0):=hm2
  clear hm2 hm3
  go_enter Tryz.func22,Tryz.ntmps22
  go_wp2_with fail
  refine wp_loop_rounds 4 ?_
  rw [rounds_succ]
  go_wp2_with fail
  rw [rounds_succ]
  go_wp2_with fail
  rw [rounds_succ]
  go_wp2_with fail
  refine (far_ge _ _ _ (by omega) (by omega) (by omega)).mono ?_
  rintro e w' ⟨rfl,rfl⟩
  go_wp2_with fail
  refine (far_ge _ _ _ (by omega) (by omega) (by omega)).mono ?_
  rintro e w' ⟨rfl,rfl⟩
  go_wp2_with fail
  rw [rounds_succ]
  go_wp2_with fail
  go_ret
  exact ⟨ret_int (by unfold Ser.unw Ser.bey;split<;>omega),rfl⟩

set_option maxHeartbeats 800000 in
theorem runw_A2 (last seq:Int) (w:World) (h0:0≤last) (ha:last<65536) (h4:last%65536≤seq) (h5:seq - last%65536<32768) (h1:last≤1099511627776) (h2:0≤seq) (h3:seq≤65535) :
    Calls Tryz.prog 22 #[.int .i64 last,.int .i64 seq] w fun e w'=>e=.returned (.int .i64 (Ser.unw last seq))∧w'=w:=by
  have hm0:0≤last%65536:=by omega
  have hm1:last%65536≤65535:=by omega
  have hm2:last - last%65536=0:=by omega
  have hm3:last=last%65536:=by omega
  have HU:Hid (last - last%65536=0):=hm2
  clear hm2 hm3
  go_enter Tryz.func22,Tryz.ntmps22
  go_wp2_with fail
  refine wp_loop_rounds 4 ?_
  rw [rounds_succ]
  go_wp2_with fail
  rw [rounds_succ]
  go_wp2_with fail
  rw [rounds_succ]
  go_wp2_with fail
  refine (far_ge _ _ _ (by omega) (by omega) (by omega)).mono ?_
  rintro e w' ⟨rfl,rfl⟩
  go_wp2_with fail
  refine (far_ge _ _ _ (by omega) (by omega) (by omega)).mono ?_
  rintro e w' ⟨rfl,rfl⟩
  go_wp2_with fail
  rw [rounds_succ]
  go_wp2_with fail
  go_ret
  exact ⟨ret_int (by unfold Ser.unw Ser.bey;split<;>omega),rfl⟩

set_option maxHeartbeats 800000 in
theorem runw_A3 (last seq:Int) (w:World) (h0:0≤last) (ha:last<65536) (h4:seq<last%65536) (h5:last%65536 - seq≤32768) (h1:last≤1099511627776) (h2:0≤seq) (h3:seq≤65535) :
    Calls Tryz.prog 22 #[.int .i64 last,.int .i64 seq] w fun e w'=>e=.returned (.int .i64 (Ser.unw last seq))∧w'=w:=by
  have hm0:0≤last%65536:=by omega
  have hm1:last%65536≤65535:=by omega
  have hm2:last - last%65536=0:=by omega
  have hm3:last=last%65536:=by omega
  have HU:Hid (last - last%65536=0):=hm2
  clear hm2 hm3
  go_enter Tryz.func22,Tryz.ntmps22
  go_wp2_with fail
  refine wp_loop_rounds 4 ?_
  rw [rounds_succ]
  go_wp2_with fail
  rw [rounds_succ]
  go_wp2_with fail
  rw [rounds_succ]
  go_wp2_with fail
  refine (far_ge _ _ _ (by omega) (by omega) (by omega)).mono ?_
  rintro e w' ⟨rfl,rfl⟩
  go_wp2_with fail
  refine (far_lt _ _ _ (by omega) (by omega) (by omega)).mono ?_
  rintro e w' ⟨rfl,rfl⟩
  go_wp2_with fail
  rw [rounds_succ]
  go_wp2_with fail
  go_ret
  exact ⟨ret_int (by unfold Ser.unw Ser.bey;split<;>omega),rfl⟩

set_option maxHeartbeats 800000 in
theorem runw_A4 (last seq:Int) (w:World) (h0:0≤last) (ha:last<65536) (h4:32768<last%65536 - seq) (h1:last≤1099511627776) (h2:0≤seq) (h3:seq≤65535) :
    Calls Tryz.prog 22 #[.int .i64 last,.int .i64 seq] w fun e w'=>e=.returned (.int .i64 (Ser.unw last seq))∧w'=w:=by
  have hm0:0≤last%65536:=by omega
  have hm1:last%65536≤65535:=by omega
  have hm2:last - last%65536=0:=by omega
  have hm3:last=last%65536:=by omega
  have HU:Hid (last - last%65536=0):=hm2
  clear hm2 hm3
  go_enter Tryz.func22,Tryz.ntmps22
  go_wp2_with fail
  refine wp_loop_rounds 4 ?_
  rw [rounds_succ]
  go_wp2_with fail
  rw [rounds_succ]
  go_wp2_with fail
  rw [rounds_succ]
  go_wp2_with fail
  refine (far_ge _ _ _ (by omega) (by omega) (by omega)).mono ?_
  rintro e w' ⟨rfl,rfl⟩
  go_wp2_with fail
  refine (far_lt _ _ _ (by omega) (by omega) (by omega)).mono ?_
  rintro e w' ⟨rfl,rfl⟩
  go_wp2_with fail
  rw [rounds_succ]
  go_wp2_with fail
  go_ret
  exact ⟨ret_int (by unfold Ser.unw Ser.bey;split<;>omega),rfl⟩

set_option maxHeartbeats 800000 in
theorem runw_B1 (last seq:Int) (w:World) (h0:65536≤last) (h4:32768≤seq - last%65536) (h1:last≤1099511627776) (h2:0≤seq) (h3:seq≤65535) :
    Calls Tryz.prog 22 #[.int .i64 last,.int .i64 seq] w fun e w'=>e=.returned (.int .i64 (Ser.unw last seq))∧w'=w:=by
  have hm0:0≤last%65536:=by omega
  have hm1:last%65536≤65535:=by omega
  have hm2:65536≤last - last%65536:=by omega
  go_enter Tryz.func22,Tryz.ntmps22
  go_wp2_with fail
  refine wp_loop_rounds 4 ?_
  rw [rounds_succ]
  go_wp2_with fail
  rw [rounds_succ]
  go_wp2_with fail
  refine (far_ge _ _ _ (by omega) (by omega) (by omega)).mono ?_
  rintro e w' ⟨rfl,rfl⟩
  go_wp2_with fail
  refine (far_lt _ _ _ (by omega) (by omega) (by omega)).mono ?_
  rintro e w' ⟨rfl,rfl⟩
  go_wp2_with fail
  rw [rounds_succ]
  go_wp2_with fail
  refine (far_ge _ _ _ (by omega) (by omega) (by omega)).mono ?_
  rintro e w' ⟨rfl,rfl⟩
  go_wp2_with fail
  refine (far_lt _ _ _ (by omega) (by omega) (by omega)).mono ?_
  rintro e w' ⟨rfl,rfl⟩
  go_wp2_with fail
  rw [rounds_succ]
  go_wp2_with fail
  go_ret
  exact ⟨ret_int (by unfold Ser.unw Ser.bey;split<;>omega),rfl⟩

set_option maxHeartbeats 800000 in
theorem runw_B2 (last seq:Int) (w:World) (h0:65536≤last) (h4:last%65536≤seq) (h5:seq - last%65536<32768) (h1:last≤1099511627776) (h2:0≤seq) (h3:seq≤65535) :
    Calls Tryz.prog 22 #[.int .i64 last,.int .i64 seq] w fun e w'=>e=.returned (.int .i64 (Ser.unw last seq))∧w'=w:=by
  have hm0:0≤last%65536:=by omega
  have hm1:last%65536≤65535:=by omega
  have hm2:65536≤last - last%65536:=by omega
  go_enter Tryz.func22,Tryz.ntmps22
  go_wp2_with fail
  refine wp_loop_rounds 4 ?_
  rw [rounds_succ]
  go_wp2_with fail
  rw [rounds_succ]
  go_wp2_with fail
  refine (far_ge _ _ _ (by omega) (by omega) (by omega)).mono ?_
  rintro e w' ⟨rfl,rfl⟩
  go_wp2_with fail
  refine (far_lt _ _ _ (by omega) (by omega) (by omega)).mono ?_
  rintro e w' ⟨rfl,rfl⟩
  go_wp2_with fail
  rw [rounds_succ]
  go_wp2_with fail
  refine (far_ge _ _ _ (by omega) (by omega) (by omega)).mono ?_
  rintro e w' ⟨rfl,rfl⟩
  go_wp2_with fail
  refine (far_ge _ _ _ (by omega) (by omega) (by omega)).mono ?_
  rintro e w' ⟨rfl,rfl⟩
  go_wp2_with fail
  rw [rounds_succ]
  go_wp2_with fail
  go_ret
  exact ⟨ret_int (by unfold Ser.unw Ser.bey;split<;>omega),rfl⟩

set_option maxHeartbeats 800000 in
theorem runw_B3 (last seq:Int) (w:World) (h0:65536≤last) (h4:seq<last%65536) (h5:last%65536 - seq≤32768) (h1:last≤1099511627776) (h2:0≤seq) (h3:seq≤65535) :
    Calls Tryz.prog 22 #[.int .i64 last,.int .i64 seq] w fun e w'=>e=.returned (.int .i64 (Ser.unw last seq))∧w'=w:=by
  have hm0:0≤last%65536:=by omega
  have hm1:last%65536≤65535:=by omega
  have hm2:65536≤last - last%65536:=by omega
  go_enter Tryz.func22,Tryz.ntmps22
  go_wp2_with fail
  refine wp_loop_rounds 4 ?_
  rw [rounds_succ]
  go_wp2_with fail
  rw [rounds_succ]
  go_wp2_with fail
  refine (far_lt _ _ _ (by omega) (by omega) (by omega)).mono ?_
  rintro e w' ⟨rfl,rfl⟩
  go_wp2_with fail
  refine (far_lt _ _ _ (by omega) (by omega) (by omega)).mono ?_
  rintro e w' ⟨rfl,rfl⟩
  go_wp2_with fail
  rw [rounds_succ]
  go_wp2_with fail
  refine (far_ge _ _ _ (by omega) (by omega) (by omega)).mono ?_
  rintro e w' ⟨rfl,rfl⟩
  go_wp2_with fail
  refine (far_lt _ _ _ (by omega) (by omega) (by omega)).mono ?_
  rintro e w' ⟨rfl,rfl⟩
  go_wp2_with fail
  rw [rounds_succ]
  go_wp2_with fail
  go_ret
  exact ⟨ret_int (by unfold Ser.unw Ser.bey;split<;>omega),rfl⟩

set_option maxHeartbeats 800000 in
theorem runw_B4 (last seq:Int) (w:World) (h0:65536≤last) (h4:32768<last%65536 - seq) (h1:last≤1099511627776) (h2:0≤seq) (h3:seq≤65535) :
    Calls Tryz.prog 22 #[.int .i64 last,.int .i64 seq] w fun e w'=>e=.returned (.int .i64 (Ser.unw last seq))∧w'=w:=by
  have hm0:0≤last%65536:=by omega
  have hm1:last%65536≤65535:=by omega
  have hm2:65536≤last - last%65536:=by omega
  go_enter Tryz.func22,Tryz.ntmps22
  go_wp2_with fail
  refine wp_loop_rounds 4 ?_
  rw [rounds_succ]
  go_wp2_with fail
  rw [rounds_succ]
  go_wp2_with fail
  refine (far_lt _ _ _ (by omega) (by omega) (by omega)).mono ?_
  rintro e w' ⟨rfl,rfl⟩
  go_wp2_with fail
  refine (far_lt _ _ _ (by omega) (by omega) (by omega)).mono ?_
  rintro e w' ⟨rfl,rfl⟩
  go_wp2_with fail
  rw [rounds_succ]
  go_wp2_with fail
  refine (far_ge _ _ _ (by omega) (by omega) (by omega)).mono ?_
  rintro e w' ⟨rfl,rfl⟩
  go_wp2_with fail
  refine (far_lt _ _ _ (by omega) (by omega) (by omega)).mono ?_
  rintro e w' ⟨rfl,rfl⟩
  go_wp2_with fail
  rw [rounds_succ]
  go_wp2_with fail
  go_ret
  exact ⟨ret_int (by unfold Ser.unw Ser.bey;split<;>omega),rfl⟩

theorem runwrap (last seq:Int) (w:World) (h0:0≤last) (h1:last≤1099511627776) (h2:0≤seq) (h3:seq≤65535) :
    Calls Tryz.prog 22 #[.int .i64 last,.int .i64 seq] w fun e w'=>e=.returned (.int .i64 (Ser.unw last seq))∧w'=w:=by
  by_cases ha:last<65536
  · by_cases c1:last%65536≤seq
    · by_cases c2:seq - last%65536<32768
      · exact runw_A2 last seq w h0 ha c1 c2 h1 h2 h3
      · exact runw_A1 last seq w h0 ha (by omega) h1 h2 h3
    · by_cases c2:last%65536 - seq≤32768
      · exact runw_A3 last seq w h0 ha (by omega) c2 h1 h2 h3
      · exact runw_A4 last seq w h0 ha (by omega) h1 h2 h3
  · by_cases c1:last%65536≤seq
    · by_cases c2:seq - last%65536<32768
      · exact runw_B2 last seq w (by omega) c1 c2 h1 h2 h3
      · exact runw_B1 last seq w (by omega) (by omega) h1 h2 h3
    · by_cases c2:last%65536 - seq≤32768
      · exact runw_B3 last seq w (by omega) (by omega) c2 h1 h2 h3
      · exact runw_B4 last seq w (by omega) (by omega) h1 h2 h3

theorem rlong_yes (n:Int) (w:World) (h:0≤n) (h':n≤1099511627776) :
    Calls Tryz.prog 18 #[.int .i64 n] w fun e w'=>e=.returned (.bool true)∧w'=w:=by
  go_enter Tryz.func18,Tryz.ntmps18
  go_wp2
  go_ret
  exact ⟨rfl,rfl⟩
theorem rlong_no (n:Int) (w:World) (h:n<0∨1099511627776<n) :
    Calls Tryz.prog 18 #[.int .i64 n] w fun e w'=>e=.returned (.bool false)∧w'=w:=by
  by_cases c:n<0
  · clear h
    go_enter Tryz.func18,Tryz.ntmps18
    go_wp2
    go_ret
    exact ⟨rfl,rfl⟩
  · have c':1099511627776<n:=by omega
    clear h
    go_enter Tryz.func18,Tryz.ntmps18
    go_wp2
    go_ret
    exact ⟨ret_bool (by simp<;>omega),rfl⟩
theorem rseq_yes (n:Int) (w:World) (h:0≤n) (h':n≤65535) :
    Calls Tryz.prog 19 #[.int .i64 n] w fun e w'=>e=.returned (.bool true)∧w'=w:=by
  go_enter Tryz.func19,Tryz.ntmps19
  go_wp2
  go_ret
  exact ⟨rfl,rfl⟩
theorem rseq_no (n:Int) (w:World) (h:n<0∨65535<n) :
    Calls Tryz.prog 19 #[.int .i64 n] w fun e w'=>e=.returned (.bool false)∧w'=w:=by
  by_cases c:n<0
  · clear h
    go_enter Tryz.func19,Tryz.ntmps19
    go_wp2
    go_ret
    exact ⟨rfl,rfl⟩
  · have c':65535<n:=by omega
    clear h
    go_enter Tryz.func19,Tryz.ntmps19
    go_wp2
    go_ret
    exact ⟨ret_bool (by simp<;>omega),rfl⟩
theorem tmod_bd (a:Int):a.tmod 65536%65536=a%65536∧-65536<a.tmod 65536∧a.tmod 65536<65536:=by
  rw [Int.tmod_eq_emod]
  split<;>simp<;>omega
theorem round_d (a b:Int):(wrap64 (wrap64 (a.tmod 65536 - b.tmod 65536)+131072)).tmod 65536=Ser.bey a b:=by
  obtain ⟨h1,h2,h3⟩:=tmod_bd a
  obtain ⟨h4,h5,h6⟩:=tmod_bd b
  generalize a.tmod 65536=x at *
  generalize b.tmod 65536=y at *
  have e1:wrap64 (x - y)=x - y:=by unfold wrap64;omega
  rw [e1]
  have e2:wrap64 (x - y+131072)=x - y+131072:=by unfold wrap64;omega
  rw [e2,Int.tmod_eq_emod_of_nonneg (by omega)]
  unfold Ser.bey
  omega
end Go.Proofs.YtlppdppddiecnaaGreatDoor.Ref
namespace Go.Proofs.YtlppdppddiecnaaGreatDoor.RWin
open Go.ChangeShapes Go.WideShapes Go.ChangeAt Go.RowKit Go.Proofs.YtlppdppddiecnaaGreatDoor.Win
set_option linter.unusedVariables false

theorem hasR_none {n T y:Int} {L:List Int} (h:∀ j:Nat,j<L.length→¬ (L.getD j 0=y∧T - n<y)):hasR n T L y=false:=by
  unfold hasR
  rw [Bool.and_eq_false_iff]
  by_cases hy:T - n<y
  · left
    simp only [decide_eq_false_iff_not]
    intro hm
    obtain ⟨j,hj,e⟩:=List.mem_iff_getElem.1 hm
    exact h j hj ⟨by simp [List.getD,hj,e],hy⟩
  · right
    simpa using hy
theorem hasR_some {n T y:Int} {L:List Int} (j:Nat) (hj:j<L.length) (h:L.getD j 0=y) (hy:T - n<y):hasR n T L y=true:=by
  unfold hasR
  have hm:y∈L:=by
    rw [← h]
    simp [List.getD,hj]
  simp [hm,hy]

structure Kw where
  many:Int
  sp:Int
  u:Value
  m:Int
  nw:Int
  la:Int
  br:Bool
theorem cellsW {w:World} {b:Nat} {n T:Int} {v:Value} {K:Kw} (h:w.heap[b]?=some (.cells #[.int .i64 n,.int .i64 T,v,.int .i64 K.many,.int .i64 K.sp,K.u,.int .i64 K.m,.int .i64 K.nw,.int .i64 K.la,.bool K.br] 56 (0,0))) :
    w.cell? ⟨b,0,none⟩=some (.int .i64 n)∧w.cell? ⟨b,1,none⟩=some (.int .i64 T)∧w.cell? ⟨b,2,none⟩=some v:=by
  refine ⟨?_,?_,?_⟩<;>simp [World.cell?,h]
theorem freeW {w:World} {b:Nat} {cs:Array Value} {t:TypeId} (h:w.heap[b]?=some (.cells cs t (0,0))) (j:Nat):w.frozen? ⟨b,j,none⟩=false:=by
  simp [World.frozen?,h]
set_option maxHeartbeats 400000 in
theorem rhas_nil (b:Nat) (y:Int) (w:World) (h2:w.cell? ⟨b,2,none⟩=some (.slice none 0 0)) :
    Calls Tryz.prog 61 #[.pointer (some ⟨b,0,none⟩),.int .i64 y] w fun e w'=>e=.returned (.bool false)∧∃ k,w'=w.drewN k:=by
  go_enter Tryz.func61,Tryz.ntmps61
  go_wp2_with fail
  refine wp_loop_rounds 1 ?_
  rw [rounds_succ]
  go_wp2_with fail
  go_ret
  exact ⟨rfl,0,rfl⟩

set_option maxHeartbeats 1000000 in
theorem rhas_some (b g cap:Nat) (n T y:Int) (L:List Int) (w:World) (h0:w.cell? ⟨b,0,none⟩=some (.int .i64 n)) (h1:w.cell? ⟨b,1,none⟩=some (.int .i64 T)) (h2:w.cell? ⟨b,2,none⟩=some (.slice (some ⟨g,0,none⟩) L.length cap))
    (hc:∀ j,j<L.length→w.cell? ⟨g,j,none⟩=some (.int .i64 (L.getD j 0)))
    (hL:L.length≤100000) (hn0:1≤n) (hn1:n≤64) (hT0:-1≤T) (hT1:T≤1099511627776) :
    Calls Tryz.prog 61 #[.pointer (some ⟨b,0,none⟩),.int .i64 y] w fun e w'=>e=.returned (.bool (hasR n T L y))∧∃ k,w'=w.drewN k:=by
  go_enter Tryz.func61,Tryz.ntmps61
  go_wp2_with fail
  go_loopw [5] (fun i wr=>∃ k m:Nat,k≤L.length∧i=.int .i64 k∧wr=w.drewN m∧Hid (∀ j:Nat,j<k→¬ (L.getD j 0=y∧T - n<y))) (fun i _=>L.length - (intOf i).toNat)
  case atStart=>exact ⟨0,0,Nat.zero_le _,rfl,rfl,fun j hj=>by omega⟩
  case round=>
    obtain ⟨k,m,hk,rfl,rfl,HN⟩:=hrel
    by_cases hlt:k<L.length
    · have hck:=hc k hlt
      have HC:Hid (∀ j,j<L.length→w.cell? ⟨g,j,none⟩=some (.int .i64 (L.getD j 0))):=hc
      clear hc
      generalize hx:L.getD k 0=x at hck
      have HX:Hid (L.getD k 0=x):=hx
      clear hx
      by_cases hxy:x=y
      · by_cases hty:T - n<y
        · have d0:(x==y)=true:=by simpa using hxy
          have HXY:Hid (x=y):=hxy
          clear hxy
          go_wp2_with fail
          go_quiet (fail)
          go_wp2_with fail
          go_ret
          exact ⟨by rw [hasR_some k hlt (HX.out.trans HXY.out) hty];rfl,_,World.drewN_drewN _ _ _⟩
        · have d0:(x==y)=true:=by simpa using hxy
          have HXY:Hid (x=y):=hxy
          clear hxy
          go_wp2_with fail
          go_quiet (fail)
          go_wp2_with fail
          go_roundw
          case rel=>
            refine ⟨k+1,_,by omega,by go_num,rfl,fun j hj=>?_⟩
            by_cases e:j=k
            · rw [e];rintro ⟨_,h⟩;omega
            · exact HN.out j (by omega)
          case measure=>simp [intOf];omega
      · have d0:(x==y)=false:=by simpa using hxy
        have HXY:Hid (¬ x=y):=hxy
        clear hxy
        go_wp2_with fail
        go_quiet (fail)
        go_wp2_with fail
        go_roundw
        case rel=>
          refine ⟨k+1,_,by omega,by go_num,rfl,fun j hj=>?_⟩
          by_cases e:j=k
          · rw [e];rintro ⟨h,_⟩;exact HXY.out (HX.out.symm.trans h)
          · exact HN.out j (by omega)
        case measure=>simp [intOf];omega
    · have HC:Hid (∀ j,j<L.length→w.cell? ⟨g,j,none⟩=some (.int .i64 (L.getD j 0))):=hc
      clear hc
      go_wp2_with fail
      go_ret
      exact ⟨by rw [hasR_none (fun j hj=>HN.out j (by omega))];rfl,_,rfl⟩

theorem getD_map (L:List Int) (j:Nat) (hj:j<L.length):(L.map (Value.int .i64))[j]?=some (.int .i64 (L.getD j 0)):=by
  simp [List.getD,hj]

theorem rhas_calls (b base:Nat) (n T y:Int) (v:Value) (L:List Int) (w:World) (h0:w.cell? ⟨b,0,none⟩=some (.int .i64 n)) (h1:w.cell? ⟨b,1,none⟩=some (.int .i64 T)) (h2:w.cell? ⟨b,2,none⟩=some v)
    (ho:w.ownsRow base 3 1 v L.length (L.map (Value.int .i64)))
    (hL:L.length≤100000) (hn0:1≤n) (hn1:n≤64) (hT0:-1≤T) (hT1:T≤1099511627776) :
    Calls Tryz.prog 61 #[.pointer (some ⟨b,0,none⟩),.int .i64 y] w fun e w'=>e=.returned (.bool (hasR n T L y))∧∃ k,w'=w.drewN k:=by
  rcases ho.2 with ⟨rfl,hz⟩ | ⟨g,cap,cur,rfl,_⟩
  · have e:hasR n T L y=false:=hasR_none (fun j hj=>by omega)
    rw [e]
    exact rhas_nil b y w h2
  · refine rhas_some b g cap n T y L w h0 h1 h2 (fun j hj=>?_) hL hn0 hn1 hT0 hT1
    rw [ho.cellAt j (by omega),getD_map L j hj]

theorem info3:(Tryz.prog.info? 3).map (fun i=>(i.zero,i.size,i.bytes))=some (some (.int .i64 0),1,8):=by kernel_rfl

theorem radd_long (b:Nat) (y:Int) (w:World) (h:y<0∨1099511627776<y) :
    Calls Tryz.prog 24 #[.pointer (some ⟨b,0,none⟩),.int .i64 y] w fun e w'=>e=.returned (.tuple #[.bool false,.int .i64 1])∧w'=w:=by
  have H:Hid (y<0∨1099511627776<y):=h
  clear h
  go_enter Tryz.func24,Tryz.ntmps24
  go_wp2_with fail
  refine (Ref.rlong_no _ _ H.out).mono ?_
  rintro e w' ⟨rfl,rfl⟩
  go_wp2_with fail
  go_ret2
  exact ⟨rfl,rfl⟩

set_option maxHeartbeats 400000 in
theorem radd_old (b:Nat) (n T y:Int) (w:World) (h0:w.cell? ⟨b,0,none⟩=some (.int .i64 n)) (h1:w.cell? ⟨b,1,none⟩=some (.int .i64 T))
    (hn0:1≤n) (hn1:n≤64) (hT0:-1≤T) (hT1:T≤1099511627776) (hy0:0≤y) (hy1:y≤1099511627776) (ho:y≤T - n) :
    Calls Tryz.prog 24 #[.pointer (some ⟨b,0,none⟩),.int .i64 y] w fun e w'=>e=.returned (.tuple #[.bool false,.int .i64 6])∧∃ k,w'=w.drewN k:=by
  go_enter Tryz.func24,Tryz.ntmps24
  go_wp2_with fail
  refine (Ref.rlong_yes _ _ hy0 hy1).mono ?_
  rintro e w' ⟨rfl,rfl⟩
  go_wp2_with fail
  go_quiet (fail)
  go_wp2_with fail
  go_ret2
  exact ⟨rfl,_,rfl⟩

set_option maxHeartbeats 400000 in
theorem radd_has (b base:Nat) (n T y:Int) (v:Value) (L:List Int) (w:World) (h0:w.cell? ⟨b,0,none⟩=some (.int .i64 n)) (h1:w.cell? ⟨b,1,none⟩=some (.int .i64 T)) (h2:w.cell? ⟨b,2,none⟩=some v)
    (ho:w.ownsRow base 3 1 v L.length (L.map (Value.int .i64)))
    (hL:L.length≤100000) (hn0:1≤n) (hn1:n≤64) (hT0:-1≤T) (hT1:T≤1099511627776) (hy0:0≤y) (hyT:y≤T) (hi:T - n<y) (hh:hasR n T L y=true) :
    Calls Tryz.prog 24 #[.pointer (some ⟨b,0,none⟩),.int .i64 y] w fun e w'=>e=.returned (.tuple #[.bool false,.int .i64 0])∧∃ k,w'=w.drewN k:=by
  have hy1:y≤1099511627776:=by omega
  have HO:Hid (w.ownsRow base 3 1 v L.length (L.map (Value.int .i64))):=ho
  clear ho
  go_enter Tryz.func24,Tryz.ntmps24
  go_wp2_with fail
  refine (Ref.rlong_yes _ _ hy0 hy1).mono ?_
  rintro e w' ⟨rfl,rfl⟩
  go_wp2_with fail
  go_quiet (fail)
  go_wp2_with fail
  refine (rhas_calls b base n T y v L _ (by exact h0) (by exact h1) (by exact h2) (by exact HO.out) hL hn0 hn1 hT0 hT1).mono ?_
  rintro e w' ⟨rfl,k,rfl⟩
  rw [hh]
  go_wp2_with fail
  go_ret2
  exact ⟨rfl,nq+k,rfl⟩

theorem own_ne {w:World} {b base:Nat} {v:Value} {m:Nat} {xs:List Value} {cs:Array Value} (ho:w.ownsRow base 3 1 v m xs) (hB:w.heap[b]?=some (.cells cs 56 (0,0))):∀ k,v.ownBlock=some k→k≠b:=by
  intro k hk e
  rcases ho.2 with ⟨rfl,_⟩ | ⟨g,cap,cur,rfl,_,hcur,_⟩
  · simp [Value.ownBlock] at hk
  · simp [Value.ownBlock] at hk
    rw [hk,e,hB] at hcur
    simp at hcur

theorem list_snoc (L:List Int) (y:Int):L.length+1=(L++[y]).length∧L.map (Value.int .i64)++[.int .i64 y]=(L++[y]).map (Value.int .i64):=by simp
theorem hidden {p:Prop} (h:p):Hid p:=h
theorem after_append {K:Kw} {w w2:World} {b base k:Nat} {n T:Int} {v:Value} {m:Nat} {xs:List Value} {o:Obj} (ho:w.ownsRow base 3 1 v m xs) (hB:w.heap[b]?=some (.cells #[.int .i64 n,.int .i64 T,v,.int .i64 K.many,.int .i64 K.sp,K.u,.int .i64 K.m,.int .i64 K.nw,.int .i64 K.la,.bool K.br] 56 (0,0)))
    (hg:((w.drewN k).alloc o).grownBy w2 v.ownBlock):w2.heap[b]?=some (.cells #[.int .i64 n,.int .i64 T,v,.int .i64 K.many,.int .i64 K.sp,K.u,.int .i64 K.m,.int .i64 K.nw,.int .i64 K.la,.bool K.br] 56 (0,0))∧Only (b::v.ownBlock.toList) w w2:=by
  have hne:=own_ne ho hB
  refine ⟨(hg.block b (by have:=lt_of_block hB;simp;omega) (fun e=>hne b e.symm rfl)).trans ((Below.heap_alloc _ _ _ (lt_of_block hB)).trans hB),?_⟩
  exact (((Only.refl _ w).drewN k).alloc o).grown hg (fun j hj=>by simp [hj])

section
variable {K:Kw} {w w2:World} {b g' c' base:Nat} {n T y:Int} {v:Value} {L:List Int} {bs:List Nat}
theorem fin1 (hB:w2.heap[b]?=some (.cells #[.int .i64 n,.int .i64 T,v,.int .i64 K.many,.int .i64 K.sp,K.u,.int .i64 K.m,.int .i64 K.nw,.int .i64 K.la,.bool K.br] 56 (0,0)))
    (hW:w2.ownsRow base 3 1 (.slice (some ⟨g',0,none⟩) (L.length+1) c') (L.length+1) (L.map (Value.int .i64)++[.int .i64 y]))
    (hG:Only (b::bs) w w2) (hgb:g'≠b) :
    (w2.setCell ⟨b,2,none⟩ (.slice (some ⟨g',0,none⟩) (L.length+1) c')).heap[b]?=some (.cells #[.int .i64 n,.int .i64 T,.slice (some ⟨g',0,none⟩) (L.length+1) c',.int .i64 K.many,.int .i64 K.sp,K.u,.int .i64 K.m,.int .i64 K.nw,.int .i64 K.la,.bool K.br] 56 (0,0)) ∧
    (w2.setCell ⟨b,2,none⟩ (.slice (some ⟨g',0,none⟩) (L.length+1) c')).ownsRow base 3 1 (.slice (some ⟨g',0,none⟩) (L.length+1) c') (L.length+1) (L.map (Value.int .i64)++[.int .i64 y]) ∧
    Only (b::bs) w (w2.setCell ⟨b,2,none⟩ (.slice (some ⟨g',0,none⟩) (L.length+1) c')):=by
  refine ⟨set3 hB 2 _,?_,hG.setCell (by simp) _⟩
  exact ownsRow_setCell_other hW (a:=⟨b,2,none⟩) (by simpa [Value.ownBlock] using hgb) _
theorem fin2 (hB:w2.heap[b]?=some (.cells #[.int .i64 n,.int .i64 T,v,.int .i64 K.many,.int .i64 K.sp,K.u,.int .i64 K.m,.int .i64 K.nw,.int .i64 K.la,.bool K.br] 56 (0,0)))
    (hW:w2.ownsRow base 3 1 (.slice (some ⟨g',0,none⟩) (L.length+1) c') (L.length+1) (L.map (Value.int .i64)++[.int .i64 y]))
    (hG:Only (b::bs) w w2) (hgb:g'≠b) :
    ((w2.setCell ⟨b,2,none⟩ (.slice (some ⟨g',0,none⟩) (L.length+1) c')).setCell ⟨b,1,none⟩ (.int .i64 y)).heap[b]?=some (.cells #[.int .i64 n,.int .i64 y,.slice (some ⟨g',0,none⟩) (L.length+1) c',.int .i64 K.many,.int .i64 K.sp,K.u,.int .i64 K.m,.int .i64 K.nw,.int .i64 K.la,.bool K.br] 56 (0,0)) ∧
    ((w2.setCell ⟨b,2,none⟩ (.slice (some ⟨g',0,none⟩) (L.length+1) c')).setCell ⟨b,1,none⟩ (.int .i64 y)).ownsRow base 3 1 (.slice (some ⟨g',0,none⟩) (L.length+1) c') (L.length+1) (L.map (Value.int .i64)++[.int .i64 y]) ∧
    Only (b::bs) w ((w2.setCell ⟨b,2,none⟩ (.slice (some ⟨g',0,none⟩) (L.length+1) c')).setCell ⟨b,1,none⟩ (.int .i64 y)):=by
  obtain ⟨h1,h2,h3⟩:=fin1 hB hW hG hgb
  exact ⟨set3 h1 1 _,ownsRow_setCell_other h2 (a:=⟨b,1,none⟩) (by simpa [Value.ownBlock] using hgb) _,h3.setCell (by simp) _⟩
end

set_option maxRecDepth 100000 in
set_option maxHeartbeats 2000000 in
theorem radd_new (K:Kw) (b base:Nat) (n T y:Int) (v:Value) (L:List Int) (w:World) (hB:w.heap[b]?=some (.cells #[.int .i64 n,.int .i64 T,v,.int .i64 K.many,.int .i64 K.sp,K.u,.int .i64 K.m,.int .i64 K.nw,.int .i64 K.la,.bool K.br] 56 (0,0)))
    (ho:w.ownsRow base 3 1 v L.length (L.map (Value.int .i64))) (hbase:base≤w.heap.size)
    (hL:L.length≤100000) (hn0:1≤n) (hn1:n≤64) (hT0:-1≤T) (hT1:T≤1099511627776) (hy0:0≤y) (hy1:y≤1099511627776) (hi:T - n<y) (hh:hasR n T L y=false) (M:Int) (HM:Hid (M=if T<y then y else T)) :
    Calls Tryz.prog 24 #[.pointer (some ⟨b,0,none⟩),.int .i64 y] w fun e w'=>e=.returned (.tuple #[.bool true,.int .i64 0]) ∧
      ∃ v',w'.heap[b]?=some (.cells #[.int .i64 n,.int .i64 M,v',.int .i64 K.many,.int .i64 K.sp,K.u,.int .i64 K.m,.int .i64 K.nw,.int .i64 K.la,.bool K.br] 56 (0,0))∧w'.ownsRow base 3 1 v' (L.length+1) (L.map (Value.int .i64)++[.int .i64 y])∧Only (b::v.ownBlock.toList) w w':=by
  obtain ⟨h0,h1,h2⟩:=cellsW hB
  obtain ⟨i0,hii,hz0,hz1,hz2⟩:=info_parts info3
  have HO:Hid (w.ownsRow base 3 1 v L.length (L.map (Value.int .i64))):=ho
  have HB:Hid (w.heap[b]?=some (.cells #[.int .i64 n,.int .i64 T,v,.int .i64 K.many,.int .i64 K.sp,K.u,.int .i64 K.m,.int .i64 K.nw,.int .i64 K.la,.bool K.br] 56 (0,0))):=hB
  clear hB
  have hvs:v=.slice none 0 0∨∃ g c,v=.slice (some ⟨g,0,none⟩) L.length c:=by
    rcases ho.2 with ⟨h,_⟩ | ⟨g,cap,cur,h,_⟩
    · exact Or.inl h
    · exact Or.inr ⟨g,cap,h⟩
  clear ho
  go_enter Tryz.func24,Tryz.ntmps24
  go_wp2_with fail
  refine (Ref.rlong_yes _ _ hy0 hy1).mono ?_
  rintro e w' ⟨rfl,rfl⟩
  go_wp2_with fail
  go_quiet (fail)
  go_wp2_with fail
  refine (rhas_calls b base n T y v L _ (by exact h0) (by exact h1) (by exact h2) (by exact HO.out) hL hn0 hn1 hT0 hT1).mono ?_
  rintro e w1 ⟨rfl,k,rfl⟩
  rw [hh]
  clear hh
  rcases hvs with rfl | ⟨g,c,rfl⟩
  all_goals
    go_wp2_with (at_builtin;refine wpList_append_own _ rfl (.tmp 32) (.tmp 34) 47 rfl base 3 i0 (.int .i64 0) 1 8 Tryz.underlying47 hii hz0 hz1 hz2 rfl (by decide) _ L.length (L.map (Value.int .i64)) rfl ?own ⟨w'.heap.size,0,none⟩ 1 1 [.int .i64 y] rfl rfl ?c1 ?c2 ?b1 ?b2 ?b3 ?next)
    case own=>exact HO.out.alloc _
    case c1=>intro j u hj;match j,hj with | 0,hj=>simp at hj;subst hj;exact World.cell?_alloc_at _ _ _ _ rfl
    case c2=>intro u hu;simp at hu;subst hu;rfl
    case b1=>unfold maxLen;omega
    case b2=>omega
    case b3=>simp;omega
    case next=>
      intro v' w2 hown hgrow _
      obtain ⟨g',c',rfl⟩:∃ g' c',v'=.slice (some ⟨g',0,none⟩) (L.length+1) c':=by
        rcases hown.2 with ⟨_,h⟩ | ⟨g',c',_,h,_⟩
        · omega
        · exact ⟨g',c',h⟩
      obtain ⟨hB2,hG⟩:=after_append HO.out HB.out hgrow
      obtain ⟨k0,k1,k2⟩:=cellsW hB2
      have q1:=freeW hB2 1
      have q2:=freeW hB2 2
      have HB2:=hidden hB2
      have HW:=hidden hown
      have HG:=hidden hG
      clear hown hgrow hB2 hG h0 h1 h2
      have hgb:g'≠b:=own_ne HW.out HB2.out g' rfl
      by_cases hTy:T<y
      · have HM':Hid (M=y):=by show M=y;rw [HM.out,if_pos hTy]
        go_wp2_with fail
        go_ret2
        exact ⟨rfl,_,by rw [HM'.out];exact fin2 HB2.out HW.out HG.out hgb⟩
      · have HM':Hid (M=T):=by show M=T;rw [HM.out,if_neg hTy]
        go_wp2_with fail
        go_ret2
        exact ⟨rfl,_,by rw [HM'.out];exact fin1 HB2.out HW.out HG.out hgb⟩
end Go.Proofs.YtlppdppddiecnaaGreatDoor.RWin
