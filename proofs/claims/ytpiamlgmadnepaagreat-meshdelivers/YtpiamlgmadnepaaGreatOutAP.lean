/-
 What the proof needs.
-/
import Derived.Test.YtpiamlgmadnepaaGreatPackAll
import Derived.Outline
import Derived.RegionTactic
import Derived.Laws.BitsLemmas
open Go.Proofs.Tryz
set_option linter.unusedVariables false
set_option maxHeartbeats 2000000
set_option maxRecDepth 100000
namespace Go.Proofs.YtpiamlgmadnepaaGreat.Out
open ChangeShapes WideShapes ChangeAt RowKit PM Mem Pack UM
variable {w w':World}{b k:Nat}{S T ly ow:Int}
theorem ξ3I(n:Int):bits .and .i64 n 65535=n%65536:=by
 have h:(BitVec.ofInt 64 65535).toNat=2^16-1:=by decide
 have key:(BitVec.ofInt 64 n&&&BitVec.ofInt 64 65535).toNat=(n%((2^64:Nat):Int)).toNat%2^16:=by
  rw[BitVec.toNat_and,BitVec.toNat_ofInt,h,Nat.and_two_pow_sub_one_eq_mod]
 show IntKind.i64.wrap ((BitVec.ofInt 64 n&&&BitVec.ofInt 64 65535).toNat:Nat)=n%65536;rw[key,IntKind.wrap_i64];omega
theorem ξ7y(n:Int):bits .and .i64 n 4294967295=n%4294967296:=by
 have h:(BitVec.ofInt 64 4294967295).toNat=2^32-1:=by decide
 have key:(BitVec.ofInt 64 n&&&BitVec.ofInt 64 4294967295).toNat=(n%((2^64:Nat):Int)).toNat%2^32:=by
  rw[BitVec.toNat_and,BitVec.toNat_ofInt,h,Nat.and_two_pow_sub_one_eq_mod]
 show IntKind.i64.wrap ((BitVec.ofInt 64 n&&&BitVec.ofInt 64 4294967295).toNat:Nat)=n%4294967296;rw[key,IntKind.wrap_i64];omega
theorem ξ11{k:IntKind}{a b:Int}(h:a=b):Ending.returned (.int k a)=.returned (.int k b):=by rw[h]
def A0p(w:World)(b:Nat)(S:Int)(k:Nat)(T ly ow:Int):Prop:=w.heap[b]?=some (.cells #[.int .i64 S,.int .i64 (k:Int),.int .i64 T,.int .i64 ly,.int .i64 ow] 130 (0,0))
theorem A0p.cells(h:A0p w b S k T ly ow) :
 w.cell? ⟨b,0,none⟩=some (.int .i64 S)/\w.cell? ⟨b,1,none⟩=some (.int .i64 (k:Int))/\w.cell? ⟨b,2,none⟩=some (.int .i64 T)/\w.cell? ⟨b,3,none⟩=some (.int .i64 ly)/\w.cell? ⟨b,4,none⟩=some (.int .i64 ow):=by
 simp only[A0p]at h;refine⟨?_,?_,?_,?_,?_⟩<;>simp[World.cell?,h]
theorem A0p.free(h:A0p w b S k T ly ow)(j:Nat):w.frozen? ⟨b,j,none⟩=false:=by
 simp only[A0p]at h;simp[World.frozen?,h]
theorem A0p.lt(h:A0p w b S k T ly ow):b<w.heap.size:=lt_of_block h
theorem A0p.only{bs:List Nat}(h:A0p w b S k T ly ow)(ho:Only bs w w')(hb:b∉bs):A0p w' b S k T ly ow:=ho.block h hb
theorem A0p.below(h:A0p w b S k T ly ow)(hb:Below w.heap.size w w'):A0p w' b S k T ly ow:=h.only (Only.of_below hb []) (by simp)
theorem A0p.alloc(h:A0p w b S k T ly ow)(O:Obj):A0p (w.alloc O) b S k T ly ow:=h.below ((Ξp _ _).alloc (Ξo _) O)
theorem A0p.setK(h:A0p w b S k T ly ow):A0p (w.setCell ⟨b,1,none⟩ (.int .i64 ((k:Int)+1))) b S (k+1) T ly ow:=heap_setCell_same w b 1 _ _ _ h
theorem A0p.A52(h:A0p w b S k T ly ow)(x:Int):A0p (w.setCell ⟨b,2,none⟩ (.int .i64 x)) b S k x ly ow:=heap_setCell_same w b 2 _ _ _ h
theorem A0p.A5f(h:A0p w b S k T ly ow)(x:Int):A0p (w.setCell ⟨b,3,none⟩ (.int .i64 x)) b S k T x ow:=heap_setCell_same w b 3 _ _ _ h
theorem A0p.setO(h:A0p w b S k T ly ow)(x:Int):A0p (w.setCell ⟨b,4,none⟩ (.int .i64 x)) b S k T ly x:=heap_setCell_same w b 4 _ _ _ h
theorem A0p.nob(h:A0p w b S k T ly ow)(j:Nat)(c:Int):w.cell? ⟨b,j,none⟩≠some (.int .u8 c):=by
 simp only[A0p]at h;rcases Nat.lt_or_ge j 5 with hj|hj
 ·rcases j with _|_|_|_|_|j
  ·simp[World.cell?,h]
  ·simp[World.cell?,h]
  ·simp[World.cell?,h]
  ·simp[World.cell?,h]
  ·simp[World.cell?,h]
  ·omega
 ·simp[World.cell?,h,show ¬j<5 by omega]
theorem A0p.arg(h:A0p w b S k T ly ow)(ho:Only [b] w w'){a:Option Addr}{n:Nat}{L:List Nat}(hA:Arg w a n L):Arg w' a n L:=by
 refine⟨⟨hA.1.1,λj hj=>?_⟩,hA.2⟩;obtain⟨bb,o,e,hc⟩:=hA.1.2 j hj;refine⟨bb,o,e,?_⟩;have ae:bb≠b:=λe=>by rw[e]at hc;exact h.nob _ _ hc
 have hb:=ho.2.2.2.2 bb (Ξq w ⟨bb,o+j,none⟩ hc) (by simp;exact ae);rw[<-hc];simp[World.cell?,hb]
theorem ξ12(S T:Int)(w:World)(h0:0<=S)(h1:S<=65535)(h2:0<=T)(h3:T<=4294967295) :
 Calls prog 23 #[.int .i64 S,.int .i64 T] w λe w'=>∃b,e=.returned (.tuple #[.pointer (some ⟨b,0,none⟩),.nilIface])/\w.heap.size<=b/\A0p w' b S 0 T 0 0/\Below w.heap.size w w':=by
 go_enter func23,ntmps23;go_wp2_with fail
 go_ret2;exact⟨_,rfl,Ξo _,heap_alloc_new w _,(Ξp _ _).alloc (Ξo _) _⟩
theorem ξ6t(b:Nat)(S:Int)(k:Nat)(T ly ow:Int)(s t l q:Int)(st:Bool)(bv:Value)(w:World)(h:A0p w b S k T ly ow)(hI:UM.Inv S k T ow)(ht0:0<=t)(ht1:t<=4294967295) :
 Calls prog 81 #[.pointer (some ⟨b,0,none⟩),.agg #[.int .i64 s,.int .i64 t,.int .i64 l,.int .i64 q,.bool st,bv]] w λe w'=>e=.returned (.int .i64 (nt k T ly ow l t))/\Below w.heap.size w w':=by
 have HL:=ξ0 (h.alloc (.cells #[.int .i64 s,.int .i64 t,.int .i64 l,.int .i64 q,.bool st,bv] 38));have HX:=ξ0 (Box.new w s t l q st bv);obtain⟨i1,i2,i3,i4,i5,i6,i7⟩:=hI;clear h;obtain⟨c0,c1,c2,c3,c4⟩:=HL.out.cells;obtain⟨x0,x1,x2,x3,x4,x5⟩:=HX.out.cells;clear x0 x3 x4 x5 c0;by_cases p:k=0
 ·subst p;have e0:nt 0 T ly ow l t=T:=rfl;rw[e0];go_enter func81,ntmps81;go_wp2_with fail
  go_ret;exact⟨rfl,(Ξp _ _).alloc (Ξo _) _⟩
 have hk:¬(k:Int)=0:=by omega
 have dk:((k:Int)==0)=false:=by simpa using hk
 by_cases p1:l=ly
 ·subst p1;rw[ξeR T l ow t p];have d1:(l != l)=false:=by simp
  go_enter func81,ntmps81;go_wp2_with fail
  go_quiet (fail)
  obtain⟨wq,ae⟩:=nm ((w.alloc (.cells #[.int .i64 s,.int .i64 t,.int .i64 l,.int .i64 q,.bool st,bv] 38)).drewN nq);have ah:Hid (A0p wq b S k T l ow):=by rw[<-ae];exact HL.out.below (below_drewN (Ξp _ _) _)
  have aj:Hid (Box wq w.heap.size s t l q st bv):=by rw[<-ae];exact HX.out.below (below_drewN (Ξp _ _) _) HX.out.lt
  have ai:Hid (Below w.heap.size w wq):=by rw[<-ae];exact below_drewN ((Ξp _ _).alloc (Ξo _) _) _
  rw[ae];clear ae HL HX c1 c2 c3 c4 x1 x2;obtain⟨c0,c1,c2,c3,c4⟩:=ah.out.cells;obtain⟨x0,x1,x2,x3,x4,x5⟩:=aj.out.cells;clear x0 x2 x3 x4 x5 c0 c1 c3;go_wp2_with fail;go_quiet (fail)
  go_wp2_with fail
  go_ret;exact⟨ξ11 (by rw[ξ7y]),below_drewN ai.out _⟩
 ·rw[ξd9 T ly ow l t p p1];have d1:(l != ly)=true:=by simpa using p1
  go_enter func81,ntmps81;go_wp2_with fail
  go_quiet (fail)
  obtain⟨wq,ae⟩:=nm ((w.alloc (.cells #[.int .i64 s,.int .i64 t,.int .i64 l,.int .i64 q,.bool st,bv] 38)).drewN nq);have ah:Hid (A0p wq b S k T ly ow):=by rw[<-ae];exact HL.out.below (below_drewN (Ξp _ _) _)
  have ai:Hid (Below w.heap.size w wq):=by rw[<-ae];exact below_drewN ((Ξp _ _).alloc (Ξo _) _) _
  rw[ae];clear ae HL HX c1 c2 c3 c4 x1 x2;obtain⟨c0,c1,c2,c3,c4⟩:=ah.out.cells;clear c0 c1 c3 c4;go_wp2_with fail;go_ret;exact⟨ξ11 (by rw[ξ7y]),ai.out⟩
end Go.Proofs.YtpiamlgmadnepaaGreat.Out
