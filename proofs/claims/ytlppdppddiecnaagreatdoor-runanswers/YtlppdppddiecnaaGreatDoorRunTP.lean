/-
  What a line's answer is told as: its text, or the name of what is wrong.
-/
import Derived.Test.YtlppdppddiecnaaGreatDoorLinesAll
import Derived.Test.YtlppdppddiecnaaGreatDoorToldAll
namespace Go.Proofs.YtlppdppddiecnaaGreatDoor.Run
open Go.ChangeShapes Go.WideShapes Go.ChangeAt Go.RowKit Go.Proofs.YtlppdppddiecnaaGreatDoor.Mem Go.Proofs.YtlppdppddiecnaaGreatDoor.RN Go.Proofs.YtlppdppddiecnaaGreatDoor.RC
set_option linter.unusedVariables false

set_option maxRecDepth 100000 in
theorem name_small (n:Fin 10) (w:World) :
    Calls Tryz.prog 46 #[.int .i64 (n.val:Int)] w fun e w'=>e=.returned (.string (bs (names.getD n.val [69,114,114,110,111])))∧w'=w:=by
  match n with
  | ⟨0,_⟩ | ⟨1,_⟩ | ⟨2,_⟩ | ⟨3,_⟩ | ⟨4,_⟩ | ⟨5,_⟩ | ⟨6,_⟩ | ⟨7,_⟩ | ⟨8,_⟩ | ⟨9,_⟩=>
    go_enter Tryz.func46,Tryz.ntmps46
    go_wp2_with fail
    go_ret
    exact ⟨rfl,rfl⟩
set_option maxRecDepth 100000 in
theorem name_big (n:Nat) (h:10≤n) (w:World) :
    Calls Tryz.prog 46 #[.int .i64 (n:Int)] w fun e w'=>e=.returned (.string (bs (names.getD n [69,114,114,110,111])))∧w'=w:=by
  have e:names.getD n [69,114,114,110,111]=[69,114,114,110,111]:=by
    rw [List.getD_eq_getElem?_getD,List.getElem?_eq_none (by simp [names];omega)];rfl
  rw [e]
  have b0:((n:Int)==0)=false:=by simp;omega
  have b1:((n:Int)==1)=false:=by simp;omega
  have b2:((n:Int)==2)=false:=by simp;omega
  have b3:((n:Int)==3)=false:=by simp;omega
  have b4:((n:Int)==4)=false:=by simp;omega
  have b5:((n:Int)==5)=false:=by simp;omega
  have b6:((n:Int)==6)=false:=by simp;omega
  have b7:((n:Int)==7)=false:=by simp;omega
  have b8:((n:Int)==8)=false:=by simp;omega
  have b9:((n:Int)==9)=false:=by simp;omega
  have n0:¬ (n:Int)=0:=by omega
  have n1:¬ (n:Int)=1:=by omega
  have n2:¬ (n:Int)=2:=by omega
  have n3:¬ (n:Int)=3:=by omega
  have n4:¬ (n:Int)=4:=by omega
  have n5:¬ (n:Int)=5:=by omega
  have n6:¬ (n:Int)=6:=by omega
  have n7:¬ (n:Int)=7:=by omega
  have n8:¬ (n:Int)=8:=by omega
  have n9:¬ (n:Int)=9:=by omega
  have m0:¬ n=0:=by omega
  have m1:¬ n=1:=by omega
  have m2:¬ n=2:=by omega
  have m3:¬ n=3:=by omega
  have m4:¬ n=4:=by omega
  have m5:¬ n=5:=by omega
  have m6:¬ n=6:=by omega
  have m7:¬ n=7:=by omega
  have m8:¬ n=8:=by omega
  have m9:¬ n=9:=by omega
  clear e h
  go_enter Tryz.func46,Tryz.ntmps46
  go_wp2_with fail
  go_ret
  exact ⟨rfl,rfl⟩
theorem name_calls (n:Nat) (w:World) :
    Calls Tryz.prog 46 #[.int .i64 (n:Int)] w fun e w'=>e=.returned (.string (bs (names.getD n [69,114,114,110,111])))∧w'=w:=by
  by_cases h:n<10
  · exact name_small ⟨n,h⟩ w
  · exact name_big n (by omega) w
theorem tell_len (r:An) (h:∀ t,r=.ok t→t.length≤1000000):r.tell.length≤1000000:=by
  cases r with
  | bad=>simp [An.tell]
  | ok s=>exact h s rfl
  | err n=>
    show (names.getD n [69,114,114,110,111]).length≤1000000
    by_cases hn:n<10
    · have:∀ i:Fin 10,(names.getD i.val [69,114,114,110,111]).length≤1000000:=by decide
      exact this ⟨n,hn⟩
    · rw [List.getD_eq_getElem?_getD,List.getElem?_eq_none (by simp [names];omega)]
      simp
theorem cell_one_free (w:World) (v:Value) (T:TypeId):(w.alloc (.cells #[v] T)).frozen? ⟨w.heap.size,0,none⟩=false:=by
  have h:=heap_alloc_new w (.cells #[v] T)
  exact free2 h 0
theorem block_alloc {w:World} {k:Nat} {x:Obj} (h:w.heap[k]?=some x) (O:Obj):(w.alloc O).heap[k]?=some x:=(Below.heap_alloc w O k (Array.getElem?_eq_some_iff.1 h).1).trans h
set_option maxHeartbeats 1000000 in
theorem told_ok (ea:Addr) (s:List UInt8) (w:World) (g:GW ea w) :
    Calls Tryz.prog 11 #[.string (bs s),.nilIface] w fun e w'=>e=.returned (.string (bs s))∧Below w.heap.size w w':=by
  have hb:=g.bad
  have hlt:0<w.heap.size:=by have:=g.size;omega
  have c0:∀ O,(w.alloc O).cell? ⟨0,0,none⟩=some (.iface 295 (.pointer (some ea))):=fun O=>by rw [World.cell?_alloc_lt _ _ ⟨0,0,none⟩ hlt];exact hb
  have I:=hidden (fun W=>Told.is_nil (.pointer (some ea)) W)
  have A:=hidden (fun t W=>Told.as_nil t W)
  clear g hb hlt
  go_enter Tryz.func11,Tryz.ntmps11
  go_wp2_with fail
  refine (I.out _).mono ?_
  rintro e w1 ⟨rfl,rfl⟩
  go_wp2_with fail
  refine (A.out _ _).mono ?_
  rintro e w2 ⟨rfl,rfl⟩
  go_wp2_with fail
  go_ret
  exact ⟨rfl,(Below.refl _ _).alloc (Nat.le_refl _) _⟩
set_option maxHeartbeats 1000000 in
theorem told_bad (ea:Addr) (s:List UInt8) (w:World) (g:GW ea w) :
    Calls Tryz.prog 11 #[.string (bs s),badV ea] w fun e w'=>e=.returned (.string (bs [98,97,100]))∧Below w.heap.size w w':=by
  have hb:=g.bad
  have hlt:0<w.heap.size:=by have:=g.size;omega
  have c0:∀ O,(w.alloc O).cell? ⟨0,0,none⟩=some (.iface 295 (.pointer (some ea))):=fun O=>by rw [World.cell?_alloc_lt _ _ ⟨0,0,none⟩ hlt];exact hb
  have I:=hidden (fun W=>Told.is_bad ea W)
  rw [badV_eq]
  clear g hb hlt
  go_enter Tryz.func11,Tryz.ntmps11
  go_wp2_with fail
  refine (I.out _).mono ?_
  rintro e w1 ⟨rfl,rfl⟩
  go_wp2_with fail
  go_ret
  exact ⟨rfl,(Below.refl _ _).alloc (Nat.le_refl _) _⟩
set_option maxHeartbeats 1000000 in
theorem told_err (ea:Addr) (s:List UInt8) (n:Nat) (w:World) (g:GW ea w) :
    Calls Tryz.prog 11 #[.string (bs s),.iface 107 (.int .i64 (n:Int))] w fun e w'=>e=.returned (.string (bs (names.getD n [69,114,114,110,111])))∧Below w.heap.size w w':=by
  have hb:=g.bad
  have hlt:0<w.heap.size:=by have:=g.size;omega
  have c0:∀ O,(w.alloc O).cell? ⟨0,0,none⟩=some (.iface 295 (.pointer (some ea))):=fun O=>by rw [World.cell?_alloc_lt _ _ ⟨0,0,none⟩ hlt];exact hb
  have I:=hidden (fun W=>Told.is_err (n:Int) (.pointer (some ea)) W)
  have ga:=g.below (((Below.refl _ _).alloc (Nat.le_refl _) (.cells #[.int .i64 0] 107)))
  have A:=hidden (Told.as_hit (n:Int) ⟨w.heap.size,0,none⟩ (.int .i64 0) (w.alloc (.cells #[.int .i64 0] 107)) ga.et (by simp) (cell_one_free w _ _))
  have N:=hidden (fun W=>name_calls n W)
  clear g hb hlt ga
  go_enter Tryz.func11,Tryz.ntmps11
  go_wp2_with fail
  refine (I.out _).mono ?_
  rintro e w1 ⟨rfl,rfl⟩
  go_wp2_with fail
  refine A.out.mono ?_
  rintro e w2 ⟨rfl,h2⟩
  have ho:Only [w.heap.size] w w2:=by
    rw [h2]
    exact ((((((Only.refl [w.heap.size] w).alloc _).alloc _).alloc _).alloc _).alloc _).setCell (by simp) _
  have hc:w2.cell? ⟨w.heap.size,0,none⟩=some (.int .i64 (n:Int)):=by
    have h0:=block_alloc (block_alloc (block_alloc (block_alloc (heap_alloc_new w (.cells #[.int .i64 0] 107)) (.cells #[.pointer (some ⟨w.heap.size,0,none⟩)] 110)) (.cells #[.pointer (some ⟨10,110,none⟩),.pointer (some ⟨(w.alloc (.cells #[.int .i64 0] 107)).heap.size,0,none⟩),.int .u64 150] 141)) (.cells #[.pointer (some ⟨10,110,none⟩),.pointer (some ⟨(w.alloc (.cells #[.int .i64 0] 107)).heap.size,0,none⟩),.int .u64 150] 141)) (.cells #[.int .i64 (n:Int)] 107)
    have h1:=heap_setCell_same _ w.heap.size 0 _ _ (.int .i64 (n:Int)) h0
    rw [h2]
    simp only [World.cell?,h1]
    rfl
  have HO:=hidden ho
  clear h2 ho
  go_wp2_with fail
  refine (N.out _).mono ?_
  rintro e w3 ⟨rfl,rfl⟩
  go_wp2_with fail
  go_ret
  exact ⟨rfl,HO.out.below (Nat.le_refl _) (by simp)⟩
theorem told_calls (ea:Addr) (r:An) (s:List UInt8) (w:World) (g:GW ea w) (h:∀ t,r=.ok t→s=t) :
    Calls Tryz.prog 11 #[.string (bs s),anV ea r] w fun e w'=>e=.returned (.string (bs r.tell))∧Below w.heap.size w w':=by
  cases r with
  | bad=>exact told_bad ea s w g
  | err n=>exact told_err ea s n w g
  | ok t=>
    obtain rfl:=h t rfl
    exact told_ok ea s w g
end Go.Proofs.YtlppdppddiecnaaGreatDoor.Run

