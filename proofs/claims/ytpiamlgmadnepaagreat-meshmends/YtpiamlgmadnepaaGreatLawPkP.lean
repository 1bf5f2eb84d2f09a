/-
 The packet of a number that the laws of lofts send.
-/
import Derived.Test.YtpiamlgmadnepaaGreatMeshMath
set_option linter.unusedVariables false
set_option maxRecDepth 100000
namespace Go.Proofs.YtpiamlgmadnepaaGreat.LP
open Go.ChangeShapes Go.WideShapes Go.ChangeAt Go.RowKit Go.Maps Go.Lib Mem NO
def pL (n:Nat):List Nat:=[n%256,n / 256%256]
theorem ξdn (n:Nat):∀ c∈pL n,c<256:=by
 intro c hc;unfold pL at hc;simp only [Ξf,List.not_mem_nil,or_false] at hc
 omega
def pkN (n:Nat):ND.Pk:=⟨(n:Int),(n:Int),0,0,true,pL n⟩
theorem ξap {n:Nat} (h:n<=1000):PM.fault (pkN n).s (pkN n).t (pkN n).l (pkN n).q (pkN n).L.length=0:=by
 show PM.fault (n:Int) (n:Int) 0 0 2=0
 unfold PM.fault;rw [if_pos (by omega),if_pos (by omega)]
theorem ξ3e (n:Nat) (hn:n<=1000) (w:World) :
 Calls Tryz.prog 10 #[.int .i64 (n:Int),.int .i64 0] w fun e w'=>∃ g,e=.returned (.agg #[.int .i64 (n:Int),.int .i64 (n:Int),.int .i64 0,.int .i64 0,.bool true,.slice (some ⟨g,0,none⟩) 2 2])/\Arg w' (some ⟨g,0,none⟩) 2 (pL n)/\w.heap.size<=g/\Below w.heap.size w w':=by
 have e1:(n:Int).tmod 65536=(n:Int):=by rw [Int.tmod_eq_emod_of_nonneg (by omega)];omega
 go_enter Tryz.func10,Tryz.ntmps10
 go_wp2_with fail
 have hc:=heap_alloc_new (w.alloc (.cells #[.int .i64 (n:Int),.int .i64 (n:Int),.int .i64 0,.int .i64 0,.bool true,.slice (some ⟨w.heap.size+1,0,none⟩) 2 2] 38)) (.cells #[.int .u8 ((n:Int)%256),.int .u8 ((n:Int) / 256%256)] 5)
 simp only [World.size_alloc] at hc
 have hbx:=(Pack.Box.new w (n:Int) (n:Int) 0 0 true (.slice (some ⟨w.heap.size+1,0,none⟩) 2 2)).alloc (.cells #[.int .u8 ((n:Int)%256),.int .u8 ((n:Int) / 256%256)] 5)
 have hbl:Below w.heap.size w ((w.alloc (.cells #[.int .i64 (n:Int),.int .i64 (n:Int),.int .i64 0,.int .i64 0,.bool true,.slice (some ⟨w.heap.size+1,0,none⟩) 2 2] 38)).alloc (.cells #[.int .u8 ((n:Int)%256),.int .u8 ((n:Int) / 256%256)] 5)):=((Ξp _ _).alloc (Ξo _) _).alloc (by simp) _
 obtain ⟨W2,hW2⟩:∃ W2,(w.alloc (.cells #[.int .i64 (n:Int),.int .i64 (n:Int),.int .i64 0,.int .i64 0,.bool true,.slice (some ⟨w.heap.size+1,0,none⟩) 2 2] 38)).alloc (.cells #[.int .u8 ((n:Int)%256),.int .u8 ((n:Int) / 256%256)] 5)=W2:=⟨_,rfl⟩;rw [hW2] at hc hbl hbx;rw [hW2];refine bodyPost_ret (Pack.ξ4U (g:=w.heap.size) rfl rfl hbx) rfl ?_
 refine ⟨w.heap.size+1,rfl,⟨⟨ξdn n,fun j hj=>⟨w.heap.size+1,0,rfl,?_⟩⟩,rfl,by omega⟩,by omega,hbl⟩
 have hj2:j<2:=hj
 rcases (by omega:j=0∨j=1) with rfl | rfl
 ·simp [World.cell?,hc,pL]
 ·simp [World.cell?,hc,pL]
end Go.Proofs.YtpiamlgmadnepaaGreat.LP
