/-
 What the functions Read, fresh and number of package pack return, whatever bytes they are given, and what they make. They change nothing that was there.
-/
import Derived.Test.YtpiamlgmadnepaaGreatMathAll
import Derived.Test.YtpiamlgmadnepaaGreatMemP
import Derived.Test.YtpiamlgmadnepaaGreatRows
import Derived.WalkKit
import Derived.ProofKit
import Derived.OpenShut
import Derived.ChangeOld
import Derived.Below
import Derived.Deep.QuietTactic
import Derived.BigQuiet
import Derived.Laws.AppendOwnNone
import Derived.WalkSmall
import Derived.WalkSpells
import Derived.LoopTactic
import Derived.Laws.BitsAllLaws
import Derived.Deep.Cut
import Derived.Deep.RegionHeld3
open Go.Proofs.Tryz
set_option linter.unusedVariables false
set_option maxHeartbeats 4000000
set_option maxRecDepth 100000
namespace Go.Proofs.YtpiamlgmadnepaaGreat.Pack
open Go.ChangeShapes Go.WideShapes Go.ChangeAt Go.RowKit PM Mem
theorem info5:(prog.info? 5).map (fun i=>(i.zero,i.size,i.bytes))=some (some (.int .u8 0),1,1):=by kernel_rfl
def errv (e:Nat):Value:=if e=0 then .nilIface else .iface 101 (.int .i64 (e:Int))
theorem ξ7t (a:Option Addr) (n cap:Nat) (L:List Nat) (w:World) (h:Arg w a n L) (hn:a=none->n=0/\cap=0) (hr:n<=1000000) :
 Calls prog 63 #[.slice a n cap] w fun e w'=>∃ v',e=.returned v'/\w'.ownsRow w.heap.size 5 1 v' n (cellsOf L)/\Below w.heap.size w w':=by
 obtain ⟨i0,hii,hz0,hz1,hz2⟩:=info_parts info5;have HA:=ξ0 h
 have HN:=ξ0 hn
 clear h hn;go_enter func63,ntmps63
 go_wp2_with (at_builtin;refine ξ1K rfl _ _ 36 rfl w.heap.size 5 i0 (.int .u8 0) 1 1 underlying36 hii hz0 hz1 hz2 rfl (by decide) _ 0 [] rfl (Ξr _ _ _ _) a n cap (cellsOf L) rfl ?al HN.out ?ac (cells_one L) ?b1 ?b2 ?b3 ?next)
 case al=>rw [ξv,HA.out.2.1];omega
 case ac=>exact ξz HA.out.1
 case b1=>unfold maxLen;omega
 case b2=>omega
 case b3=>exact Ξo _
 case next=>
  intro v1 w1 hown hgrow;have HB1:Hid (Below w.heap.size w w1):=(Ξp _ _).grown hgrow (Ξo _) (by simp [Value.ownBlock])
  have HO1:Hid (w1.ownsRow w.heap.size 5 1 v1 n (cellsOf L)):=hown
  clear hown hgrow;go_wp2_with fail
  go_ret
  exact ⟨v1,rfl,HO1.out,HB1.out⟩
theorem ξX {k:IntKind} {a b:Int} (h:a=b):Ending.returned (.int k a)=.returned (.int k b):=by rw [h]
theorem ξ1k {n:Int} (h0:0<=n) (h1:n<9223372036854775808):IntKind.i64.wrap n=n:=by
 simp [IntKind.wrap,IntKind.bits,IntKind.signed];omega
theorem ξ1q (a b:Nat) (ha:a<9223372036854775808) (hb:b<9223372036854775808):bits .or .i64 (a:Int) (b:Int)=((a ||| b:Nat):Int):=by
 have hx:a ||| b<2 ^ 63:=Nat.or_lt_two_pow (by omega) (by omega)
 show IntKind.i64.wrap ((BitVec.ofInt 64 (a:Int) ||| BitVec.ofInt 64 (b:Int)).toNat:Int)=_
 rw [BitVec.toNat_or,ofInt_u64 a (by omega),ofInt_u64 b (by omega)]
 exact ξ1k (by omega) (by omega)
theorem ξ3F (n c:Nat) (hn:n<16777216) (hc:c<256):bits .or .i64 (wrap64 ((n:Int)*256)) (c:Int)=((n*256+c:Nat):Int):=by
 have e:wrap64 ((n:Int)*256)=((n*256:Nat):Int):=by unfold wrap64;omega
 rw [e,ξ1q _ _ (by omega) (by omega),nat_join 8 _ c (by omega) (by omega)]
theorem ξ80 (c:Nat) (hc:c<256):bits .or .i64 0 (c:Int)=(c:Int):=by
 have:=ξ1q 0 c (by omega) (by omega)
 rw [Nat.zero_or] at this;exact this
theorem ξ5W (b o cap:Nat) (t0 t1:Nat) (w:World) (h0:t0<256) (h1:t1<256) (c0:w.cell? ⟨b,o,none⟩=some (.int .u8 (t0:Int))) (c1:w.cell? ⟨b,o+1,none⟩=some (.int .u8 (t1:Int))) :
 Calls prog 62 #[.slice (some ⟨b,o,none⟩) 2 cap] w fun e w'=>e=.returned (.int .i64 ((t0*256+t1:Nat):Int))/\w'=w:=by
 go_enter func62,ntmps62
 go_wp2_with fail
 refine wp_loop_rounds 3 ?_
 rw [rounds_succ];go_wp2_with fail
 rw [rounds_succ];go_wp2_with fail
 rw [rounds_succ];go_wp2_with fail
 go_ret
 exact ⟨ξX (by rw [ξ80 t0 h0,ξ3F t0 t1 (by omega) h1]),rfl⟩
theorem ξ5V (b o cap:Nat) (t0 t1 t2 t3:Nat) (w:World) (h0:t0<256) (h1:t1<256) (h2:t2<256) (h3:t3<256) (c0:w.cell? ⟨b,o,none⟩=some (.int .u8 (t0:Int))) (c1:w.cell? ⟨b,o+1,none⟩=some (.int .u8 (t1:Int)))
 (c2:w.cell? ⟨b,o+2,none⟩=some (.int .u8 (t2:Int))) (c3:w.cell? ⟨b,o+3,none⟩=some (.int .u8 (t3:Int))) :
 Calls prog 62 #[.slice (some ⟨b,o,none⟩) 4 cap] w fun e w'=>e=.returned (.int .i64 ((((t0*256+t1)*256+t2)*256+t3:Nat):Int))/\w'=w:=by
 go_enter func62,ntmps62
 go_wp2_with fail
 refine wp_loop_rounds 5 ?_
 rw [rounds_succ];go_wp2_with fail
 rw [rounds_succ];go_wp2_with fail
 rw [rounds_succ];go_wp2_with fail
 rw [rounds_succ];go_wp2_with fail
 rw [rounds_succ];go_wp2_with fail
 go_ret
 exact ⟨ξX (by rw [ξ80 t0 h0,ξ3F t0 t1 (by omega) h1,ξ3F _ t2 (by omega) h2,ξ3F _ t3 (by omega) h3]),rfl⟩
theorem ξ6K {x:Nat} (hx:x<256):good x=(!(bits .and .u8 (x:Int) 128==0)&&!decide (3<bits .andNot .i64 (x:Int) 160)):=by
 have:∀ x:Fin 256,good x.val=(!(bits .and .u8 (x.val:Int) 128==0)&&!decide (3<bits .andNot .i64 (x.val:Int) 160)):=by decide +kernel
 exact this ⟨x,hx⟩
theorem ξe5 {x:Nat} (h:good x=true):bits .andNot .i64 (x:Int) 160=((x%4:Nat):Int)/\(bits .and .u8 (x:Int) 32==0)=!decide (160<=x):=by
 have hx:=(ξbc h).2
 have:∀ x:Fin 256,good x.val=true->bits .andNot .i64 (x.val:Int) 160=((x.val%4:Nat):Int)/\(bits .and .u8 (x.val:Int) 32==0)=!decide (160<=x.val):=by decide +kernel
 exact this ⟨x,hx⟩ h
theorem ξcY {l:Nat} (h:l<=3):bits .or .i64 128 (l:Int)=((128+l:Nat):Int)/\bits .or .i64 ((128+l:Nat):Int) 32=((128+l+32:Nat):Int):=by
 have:∀ l:Fin 4,bits .or .i64 128 (l.val:Int)=((128+l.val:Nat):Int)/\bits .or .i64 ((128+l.val:Nat):Int) 32=((128+l.val+32:Nat):Int):=by decide +kernel
 exact this ⟨l,by omega⟩
theorem ξ4:errv 0=.nilIface:=rfl
theorem ξi {e:Nat} (h:e≠0):errv e=.iface 101 (.int .i64 (e:Int)):=by unfold errv;rw [if_neg h]
def Box (w:World) (g:Nat) (s t l v:Int) (st:Bool) (bv:Value):Prop:=w.heap[g]?=some (.cells #[.int .i64 s,.int .i64 t,.int .i64 l,.int .i64 v,.bool st,bv] 38 (0,0))
theorem Box.new (w:World) (s t l v:Int) (st:Bool) (bv:Value):Box (w.alloc (.cells #[.int .i64 s,.int .i64 t,.int .i64 l,.int .i64 v,.bool st,bv] 38)) w.heap.size s t l v st bv:=heap_alloc_new w _
theorem Box.below {w w':World} {g B:Nat} {s t l v:Int} {st:Bool} {bv:Value} (h:Box w g s t l v st bv) (hb:Below B w w') (hg:g<B):Box w' g s t l v st bv:=(hb.block g hg).trans h
theorem Box.lt {w:World} {g:Nat} {s t l v:Int} {st:Bool} {bv:Value} (h:Box w g s t l v st bv):g<w.heap.size:=lt_of_block h
theorem Box.grown {w w':World} {g:Nat} {s t l v:Int} {st:Bool} {bv:Value} {row:Option Nat} (h:Box w g s t l v st bv) (hg:w.grownBy w' row) (hr:row≠some g):Box w' g s t l v st bv:=
 (hg.block g h.lt (fun e=>hr e.symm)).trans h
theorem Box.alloc {w:World} {g:Nat} {s t l v:Int} {st:Bool} {bv:Value} (h:Box w g s t l v st bv) (o:Obj):Box (w.alloc o) g s t l v st bv:=(Below.heap_alloc _ _ _ h.lt).trans h
theorem Box.cells {w:World} {g:Nat} {s t l v:Int} {st:Bool} {bv:Value} (h:Box w g s t l v st bv) :
 w.cell? ⟨g,0,none⟩=some (.int .i64 s)/\w.cell? ⟨g,1,none⟩=some (.int .i64 t)/\w.cell? ⟨g,2,none⟩=some (.int .i64 l)/\w.cell? ⟨g,3,none⟩=some (.int .i64 v)/\w.cell? ⟨g,4,none⟩=some (.bool st)/\w.cell? ⟨g,5,none⟩=some bv:=by
 simp only [Box] at h
 simp [World.cell?,h]
theorem ξs {w w':World} {o:Obj} (h:Below (w.alloc o).heap.size (w.alloc o) w'):Below w.heap.size w w':=
 ((Ξp _ _).alloc (Ξo _) o).trans (h.mono (by simp))
theorem ξ2T {w:World} {base m k:Nat} {v:Value} {L K R:List Nat} (h:w.ownsRow base 5 1 v m (cellsOf L++cellsOf K)) (hm:m=k) (hR:L++K=R):w.ownsRow base 5 1 v k (cellsOf R):=by
 rw [<- ξ1u] at h;rw [<- hm,<- hR];exact h
theorem blk2 {x y:Int} {a b:Nat} (hx:x=(a:Int)) (hy:y=(b:Int)):(#[Value.int .u8 x,.int .u8 y]:Array Value)=(cellsOf [a,b]).toArray:=by rw [hx,hy];rfl
theorem blk4 {x y z u:Int} {a b c d:Nat} (hx:x=(a:Int)) (hy:y=(b:Int)) (hz:z=(c:Int)) (hu:u=(d:Int)):(#[Value.int .u8 x,.int .u8 y,.int .u8 z,.int .u8 u]:Array Value)=(cellsOf [a,b,c,d]).toArray:=by rw [hx,hy,hz,hu];rfl
theorem ξ1n {w:World} {a:Option Addr} {n:Nat} {L:List Nat} (h:Arg w a n L) (hn:0<n):∃ b o,a=some ⟨b,o,none⟩:=by
 obtain ⟨b,o,e,_⟩:=h.1.2 0 (by have:=h.2.1;omega)
 exact ⟨b,o,e⟩
theorem ξd {w:World} {b o n:Nat} {L:List Nat} (h:Arg w (some ⟨b,o,none⟩) n L) (j:Nat) (hj:j<n):w.cell? ⟨b,o+j,none⟩=some (.int .u8 (L.getD j 0:Nat)):=by
 obtain ⟨b',o',e,hc⟩:=h.1.2 j (by have:=h.2.1;omega)
 simp only [Option.some.injEq,Addr.mk.injEq,and_true] at e
 obtain ⟨rfl,rfl⟩:=e;exact hc
theorem ξ2Q (a:Option Addr) (n cap:Nat) (w:World) (h:n<8) :
 Calls prog 25 #[.slice a n cap] w fun e w'=>e=.returned (.tuple #[.agg #[.int .i64 0,.int .i64 0,.int .i64 0,.int .i64 0,.bool false,.slice none 0 0],.iface 101 (.int .i64 8)])/\Below w.heap.size w w':=by
 go_enter func25,ntmps25
 go_wp2_with fail
 refine bodyPost_ret (v:=.tuple #[.agg #[.int .i64 0,.int .i64 0,.int .i64 0,.int .i64 0,.bool false,.slice none 0 0],.iface 101 (.int .i64 8)]) (by simp [results,Tryz.results25,go_sem]) rfl ?_
 exact ⟨rfl,(Ξp _ _).alloc (Ξo _) _⟩
theorem ξk {w:World} {p:Addr} {v:Value} (h:w.cell? p=some v) (o:Obj):(w.alloc o).cell? p=some v:=(((Ξp _ _).alloc (Ξo _) o).cell (Ξq w p h)).trans h
theorem ξ7i (b o n cap x0 x1:Nat) (w:World) (hn:8<=n) (hx0:x0<256) (hx1:x1<256) (c0:w.cell? ⟨b,o,none⟩=some (.int .u8 (x0:Int))) (c1:w.cell? ⟨b,o+1,none⟩=some (.int .u8 (x1:Int))) (hbad:(good x0&&decide (x1<=127))=false) :
 Calls prog 25 #[.slice (some ⟨b,o,none⟩) n cap] w fun e w'=>e=.returned (.tuple #[.agg #[.int .i64 0,.int .i64 0,.int .i64 0,.int .i64 0,.bool false,.slice none 0 0],.iface 101 (.int .i64 2)])/\Below w.heap.size w w':=by
 rw [ξ6K hx0] at hbad;have d0:=fun O=>ξk c0 O
 have d1:=fun O=>ξk c1 O
 have n1:(1:Int)<(n:Int):=by omega
 have n0:(0:Int)<(n:Int):=by omega
 have n8:decide ((n:Int)<8)=false:=by simp;omega
 clear c0 c1;by_cases p1:bits .and .u8 (x0:Int) 128=0
 ·clear hbad;go_enter func25,ntmps25
  go_wp2_with fail
  refine bodyPost_ret (v:=.tuple #[.agg #[.int .i64 0,.int .i64 0,.int .i64 0,.int .i64 0,.bool false,.slice none 0 0],.iface 101 (.int .i64 2)]) (by simp [results,Tryz.results25,go_sem]) rfl ?_
  exact ⟨rfl,(Ξp _ _).alloc (Ξo _) _⟩
 by_cases p2:3<bits .andNot .i64 (x0:Int) 160
 ·clear hbad;go_enter func25,ntmps25
  go_wp2_with fail
  refine bodyPost_ret (v:=.tuple #[.agg #[.int .i64 0,.int .i64 0,.int .i64 0,.int .i64 0,.bool false,.slice none 0 0],.iface 101 (.int .i64 2)]) (by simp [results,Tryz.results25,go_sem]) rfl ?_
  exact ⟨rfl,(Ξp _ _).alloc (Ξo _) _⟩
 have p3:(127:Int)<(x1:Int):=by
  simp [p1,p2] at hbad
  omega
 clear hbad;have q1:(bits .and .u8 (x0:Int) 128==0)=false:=by simpa using p1
 have q2:decide (3<bits .andNot .i64 (x0:Int) 160)=false:=by simpa using p2
 go_enter func25,ntmps25
 go_wp2_with fail
 refine bodyPost_ret (v:=.tuple #[.agg #[.int .i64 0,.int .i64 0,.int .i64 0,.int .i64 0,.bool false,.slice none 0 0],.iface 101 (.int .i64 2)]) (by simp [results,Tryz.results25,go_sem]) rfl ?_
 exact ⟨rfl,(Ξp _ _).alloc (Ξo _) _⟩
theorem ξac (b o n cap x0 x1:Nat) (w:World) (hn:1008<n) (hx0:x0<256) (hx1:x1<256) (c0:w.cell? ⟨b,o,none⟩=some (.int .u8 (x0:Int))) (c1:w.cell? ⟨b,o+1,none⟩=some (.int .u8 (x1:Int))) (hok:(good x0&&decide (x1<=127))=true) (hmax:n<=9223372036854775807) :
 Calls prog 25 #[.slice (some ⟨b,o,none⟩) n cap] w fun e w'=>e=.returned (.tuple #[.agg #[.int .i64 0,.int .i64 0,.int .i64 0,.int .i64 0,.bool false,.slice none 0 0],.iface 101 (.int .i64 4)])/\Below w.heap.size w w':=by
 rw [ξ6K hx0] at hok;simp only [Bool.and_eq_true,Bool.not_eq_true',decide_eq_true_eq] at hok
 obtain ⟨⟨q1,q2⟩,q3⟩:=hok;have d0:=fun O=>ξk c0 O
 have d1:=fun O=>ξk c1 O
 have n1:(1:Int)<(n:Int):=by omega
 have n0:(0:Int)<(n:Int):=by omega
 have n8:decide ((n:Int)<8)=false:=by simp;omega
 have q4:decide ((127:Int)<(x1:Int))=false:=by simp;omega
 clear c0 c1;go_enter func25,ntmps25
 go_wp2_with fail
 refine bodyPost_ret (v:=.tuple #[.agg #[.int .i64 0,.int .i64 0,.int .i64 0,.int .i64 0,.bool false,.slice none 0 0],.iface 101 (.int .i64 4)]) (by simp [results,Tryz.results25,go_sem]) rfl ?_
 exact ⟨rfl,(Ξp _ _).alloc (Ξo _) _⟩
theorem undBS:prog.underlying 36=some (.slice (prog.elem 36)):=by kernel_rfl
theorem elemBS:prog.elem 36=5:=by kernel_rfl
theorem size5 (w:World):(sizeOf 5).run prog w=.ok 1 w:=by
 obtain ⟨i0,hii,hz0,hz1,hz2⟩:=info_parts info5;simp [sizeOf,typeInfo,hii,hz1]
def cutAt (a:Option Addr) (cap l:Nat):Option Addr:=if cap=l then a else a.map (·.add l)
theorem ξ4F {a:Option Addr} {cap l:Nat} (h:cutAt a cap l=none):a=none:=by
 unfold cutAt at h;split at h
 ·exact h
 ·simpa using h
theorem ξ1d {w:World} {a:Option Addr} {len cap l h:Nat} {L:List Nat} (hA:Arg w a len L) (hlh:l<=h) (hh:h<=len) (hc:len<=cap):Arg w (cutAt a cap l) (h - l) ((L.drop l).take (h - l)):=by
 have hl:=hA.2.1
 refine ⟨⟨fun c hc=>hA.1.1 c (List.mem_of_mem_drop (List.mem_of_mem_take hc)),fun j hj=>?_⟩,by simp;omega,by have:=hA.2.2;omega⟩
 simp only [List.length_take,List.length_drop] at hj
 obtain ⟨b,o,e,hcell⟩:=hA.1.2 (l+j) (by omega)
 subst e;refine ⟨b,o+l,?_,?_⟩
 ·unfold cutAt;rw [if_neg (by omega)]
  simp only [Option.map_some,Option.some.injEq]
  unfold Addr.add;split<;>simp_all
 ·rw [Nat.add_assoc,hcell,Ξa,Ξa,List.getElem?_take_of_lt (by omega),List.getElem?_drop]
theorem ξ4E (a:Option Addr) (len cap l h:Nat) (hlh:l<=h) (hh:h<=cap) (w:World) :
 (Instr.slice 36 (.slice a len cap) (some (.int .i64 (l:Int))) (some (.int .i64 (h:Int))) none).run prog w=.ok (.slice (cutAt a cap l) (h - l) (cap - l)) w:=by
 rw [run_slice_lh w 36 a len cap undBS .i64 .i64 l h (by omega) (by omega) (by omega),elemBS,size5]
 simp [Result.andThen,sliced,cutAt]
theorem ξ24 (a:Option Addr) (len cap l:Nat) (hl:l<=len) (w:World) :
 (Instr.slice 36 (.slice a len cap) (some (.int .i64 (l:Int))) none none).run prog w=.ok (.slice (cutAt a cap l) (len - l) (cap - l)) w:=by
 rw [run_slice_l w 36 a len cap undBS .i64 l (by omega) (by omega),elemBS,size5]
 simp [Result.andThen,sliced,cutAt]
def Keep (w w':World):Prop:=Below w.heap.size w w'/\∃ cs:Array Value,cs.size=6/\w'.heap[w.heap.size]?=some (.cells cs 38 (0,0))
theorem Keep.new (w:World) (cs:Array Value) (h:cs.size=6):Keep w (w.alloc (.cells cs 38)):=⟨(Ξp _ _).alloc (Ξo _) _,cs,h,heap_alloc_new w _⟩
theorem Keep.set {w W:World} (h:Keep w W) (k:Nat) (v:Value):Keep w (W.setCell ⟨w.heap.size,k,none⟩ v):=by
 obtain ⟨hb,cs,hs,hh⟩:=h;exact ⟨hb.setCell (Ξo _) v,cs.setIfInBounds k v,by simpa using hs,heap_setCell_same _ _ _ _ _ _ hh⟩
theorem Keep.drew {w W:World} (h:Keep w W):Keep w W.drew:=⟨h.1.drew,h.2⟩
theorem Keep.size {w W:World} (h:Keep w W):w.heap.size<W.heap.size:=by
 obtain ⟨_,cs,_,hh⟩:=h;exact lt_of_block hh
theorem Keep.below {w W W':World} {B:Nat} (h:Keep w W) (hb:Below B W W') (hB:w.heap.size<B):Keep w W':=by
 obtain ⟨hb0,cs,hs,hh⟩:=h;exact ⟨hb0.trans (hb.mono (by omega)),cs,hs,(hb.block _ hB).trans hh⟩
def Open (w:World) (g:Nat) (z0 z1 z2 z3 z4 z5:Value):Prop:=
 (w.cell? ⟨g,0,none⟩=some z0/\w.cell? ⟨g,1,none⟩=some z1/\w.cell? ⟨g,2,none⟩=some z2/\w.cell? ⟨g,3,none⟩=some z3/\w.cell? ⟨g,4,none⟩=some z4/\w.cell? ⟨g,5,none⟩=some z5) /\
 w.frozen? ⟨g,0,none⟩=false/\w.frozen? ⟨g,1,none⟩=false/\w.frozen? ⟨g,2,none⟩=false/\w.frozen? ⟨g,3,none⟩=false/\w.frozen? ⟨g,4,none⟩=false/\w.frozen? ⟨g,5,none⟩=false
theorem six {cs:Array Value} (h:cs.size=6):∃ z0 z1 z2 z3 z4 z5,cs=#[z0,z1,z2,z3,z4,z5]:=by
 obtain ⟨l⟩:=cs
 match l,h with
 | [z0,z1,z2,z3,z4,z5],_=>exact ⟨z0,z1,z2,z3,z4,z5,rfl⟩
theorem Keep.opens {w W:World} (h:Keep w W):∃ z0 z1 z2 z3 z4 z5,Open W w.heap.size z0 z1 z2 z3 z4 z5:=by
 obtain ⟨_,cs,hs,hh⟩:=h;obtain ⟨z0,z1,z2,z3,z4,z5,rfl⟩:=six hs;exact ⟨z0,z1,z2,z3,z4,z5,by simp [Open,World.cell?,World.frozen?,hh]⟩
theorem Keep.set6 {w W:World} (h:Keep w W) (s t l v:Int) (st:Bool) (bv:Value) :
 Box ((((((W.setCell ⟨w.heap.size,0,none⟩ (.int .i64 s)).setCell ⟨w.heap.size,1,none⟩ (.int .i64 t)).setCell ⟨w.heap.size,2,none⟩ (.int .i64 l)).setCell ⟨w.heap.size,3,none⟩ (.int .i64 v)).setCell ⟨w.heap.size,4,none⟩ (.bool st)).setCell ⟨w.heap.size,5,none⟩ bv) w.heap.size s t l v st bv:=by
 obtain ⟨_,cs,hs,hh⟩:=h;obtain ⟨z0,z1,z2,z3,z4,z5,rfl⟩:=six hs;have h0:=heap_setCell_same _ _ 0 _ _ (.int .i64 s) hh
 have h1:=heap_setCell_same _ _ 1 _ _ (.int .i64 t) h0
 have h2:=heap_setCell_same _ _ 2 _ _ (.int .i64 l) h1
 have h3:=heap_setCell_same _ _ 3 _ _ (.int .i64 v) h2
 have h4:=heap_setCell_same _ _ 4 _ _ (.bool st) h3
 have h5:=heap_setCell_same _ _ 5 _ _ bv h4
 exact h5
theorem ξ4m {fn:Func} {tmps:Array Value} {w:World} {g i j:Nat} {s t l v:Int} {st:Bool} {a:Option Addr} {n cap:Nat} (hf:fn.results=#[.cell i 38,.tmp j]) (hi:tmps.getD i undef=.pointer (some ⟨g,0,none⟩)) (hb:Box w g s t l v st (.slice a n cap)) :
 (results fn tmps).run prog w=.ok (.tuple #[.agg #[.int .i64 s,.int .i64 t,.int .i64 l,.int .i64 v,.bool st,.slice a n cap],tmps.getD j undef]) w:=by
 obtain ⟨c0,c1,c2,c3,c4,c5⟩:=hb.cells;have hi':tmps[i]?.getD undef=.pointer (some ⟨g,0,none⟩):=by simpa using hi
 simp [results,hf,hi',go_sem,c0,c1,c2,c3,c4,c5]
theorem ownsRow_le {w:World} {base base' size n:Nat} {e:TypeId} {v:Value} {xs:List Value} (h:w.ownsRow base e size v n xs) (hb:base'<=base):w.ownsRow base' e size v n xs:=by
 refine ⟨h.1,?_⟩
 rcases h.2 with hl | ⟨g,c,cur,e1,e2,rest⟩
 ·exact .inl hl
 ·exact .inr ⟨g,c,cur,e1,by omega,rest⟩
theorem ξ5i (b o n cap x0 x1 x2 x3 x4 x5 x6 x7:Nat) (R:List Nat) (w:World) (h:Arg w (some ⟨b,o,none⟩) n (x0::x1::x2::x3::x4::x5::x6::x7::R)) (hc:n<=cap) (hok:(good x0&&decide (x1<=127))=true) (hR:R.length<=1000) :
 Calls prog 25 #[.slice (some ⟨b,o,none⟩) n cap] w fun e w'=>∃ a' c',e=.returned (.tuple #[.agg #[.int .i64 ((x2*256+x3:Nat):Int),.int .i64 ((((x4*256+x5)*256+x6)*256+x7:Nat):Int),.int .i64 ((x0%4:Nat):Int),.int .i64 (x1:Int),.bool (decide (160<=x0)),.slice a' R.length c'],.nilIface]) /\
  w'.ownsRow w.heap.size 5 1 (.slice a' R.length c') R.length (cellsOf R)/\Below w.heap.size w w':=by
 have hn:n=R.length+8:=by have:=h.2.1;simp at this;omega
 have hx:∀ c∈x0::x1::x2::x3::x4::x5::x6::x7::R,c<256:=h.1.1
 obtain ⟨g0,g1⟩:=Bool.and_eq_true_iff.1 hok;obtain ⟨m0,m1⟩:=ξe5 g0;have hq:=hok
 rw [ξ6K (hx x0 (by simp))] at hq
 simp only [Bool.and_eq_true,Bool.not_eq_true',decide_eq_true_eq] at hq
 obtain ⟨⟨q1,q2⟩,q3⟩:=hq;rw [m0] at q2;have c0:=ξd h 0 (by omega)
 have c1:=ξd h 1 (by omega)
 have d0:∀ O,(w.alloc O).cell? ⟨b,o,none⟩=some (.int .u8 (x0:Int)):=fun O=>ξk c0 O
 have d1:∀ O,(w.alloc O).cell? ⟨b,o+1,none⟩=some (.int .u8 (x1:Int)):=fun O=>ξk c1 O
 have e2:∀ w,(Instr.slice 36 (.slice (some ⟨b,o,none⟩) n cap) (some (.int .i64 2)) (some (.int .i64 4)) none).run prog w=.ok (.slice (some ⟨b,o+2,none⟩) 2 (cap - 2)) w:=fun w=>by
  have:=ξ4E (some ⟨b,o,none⟩) n cap 2 4 (by omega) (by omega) w
  rw [show cutAt (some ⟨b,o,none⟩) cap 2=some ⟨b,o+2,none⟩ by unfold cutAt;rw [if_neg (by omega)];rfl] at this
  exact this
 have e4:∀ w,(Instr.slice 36 (.slice (some ⟨b,o,none⟩) n cap) (some (.int .i64 4)) (some (.int .i64 8)) none).run prog w=.ok (.slice (some ⟨b,o+4,none⟩) 4 (cap - 4)) w:=fun w=>by
  have:=ξ4E (some ⟨b,o,none⟩) n cap 4 8 (by omega) (by omega) w
  rw [show cutAt (some ⟨b,o,none⟩) cap 4=some ⟨b,o+4,none⟩ by unfold cutAt;rw [if_neg (by omega)];rfl] at this
  exact this
 have e8:∀ w,(Instr.slice 36 (.slice (some ⟨b,o,none⟩) n cap) (some (.int .i64 8)) none none).run prog w=.ok (.slice (cutAt (some ⟨b,o,none⟩) cap 8) (n - 8) (cap - 8)) w:=fun w=>ξ24 (some ⟨b,o,none⟩) n cap 8 (by omega) w
 have hA8:∀ W,Below w.heap.size w W->Arg W (cutAt (some ⟨b,o,none⟩) cap 8) (n - 8) R:=fun W hb=>by
  have:=ξ1d (l:=8) (h:=n) (h.below hb) (by omega) (Ξo _) hc
  rw [show (x0::x1::x2::x3::x4::x5::x6::x7::R).drop 8=R from rfl,Ξl (by omega)] at this
  exact this
 have hA8n:cutAt (some ⟨b,o,none⟩) cap 8=none->n - 8=0/\cap - 8=0:=fun h=>by have:=ξ4F h;simp at this
 have hK:∀ W,Keep w W->Below w.heap.size w W:=fun W hb=>hb.1
 have HN2:Hid (∀ W,(W.cell? ⟨b,o,none⟩=some (.int .u8 (x0:Int))/\W.cell? ⟨b,o+1,none⟩=some (.int .u8 (x1:Int))/\Hid (Keep w W))->Calls prog 62 #[.slice (some ⟨b,o+2,none⟩) 2 (cap - 2)] W fun e w'=>e=.returned (.int .i64 ((x2*256+x3:Nat):Int))/\w'=W):=fun W ⟨_,_,hb⟩=>
  ξ5W b (o+2) (cap - 2) x2 x3 W (hx _ (by simp)) (hx _ (by simp)) (ξd (h.below (hK W hb)) 2 (by omega)) (ξd (h.below (hK W hb)) 3 (by omega))
 have HN4:Hid (∀ W,(W.cell? ⟨b,o,none⟩=some (.int .u8 (x0:Int))/\W.cell? ⟨b,o+1,none⟩=some (.int .u8 (x1:Int))/\Hid (Keep w W))->Calls prog 62 #[.slice (some ⟨b,o+4,none⟩) 4 (cap - 4)] W fun e w'=>e=.returned (.int .i64 ((((x4*256+x5)*256+x6)*256+x7:Nat):Int))/\w'=W):=fun W ⟨_,_,hb⟩=>
  ξ5V b (o+4) (cap - 4) x4 x5 x6 x7 W (hx _ (by simp)) (hx _ (by simp)) (hx _ (by simp)) (hx _ (by simp)) (ξd (h.below (hK W hb)) 4 (by omega)) (ξd (h.below (hK W hb)) 5 (by omega)) (ξd (h.below (hK W hb)) 6 (by omega)) (ξd (h.below (hK W hb)) 7 (by omega))
 have HF:Hid (∀ W,(W.cell? ⟨b,o,none⟩=some (.int .u8 (x0:Int))/\W.cell? ⟨b,o+1,none⟩=some (.int .u8 (x1:Int))/\Hid (Keep w W))->Calls prog 63 #[.slice (cutAt (some ⟨b,o,none⟩) cap 8) (n - 8) (cap - 8)] W fun e w'=>∃ a' c' z0 z1 z2 z3 z4 z5,e=.returned (.slice a' R.length c')/\Open w' w.heap.size z0 z1 z2 z3 z4 z5/\Hid (w'.ownsRow (w.heap.size+1) 5 1 (.slice a' R.length c') R.length (cellsOf R)) /\
  (w'.cell? ⟨b,o,none⟩=some (.int .u8 (x0:Int))/\w'.cell? ⟨b,o+1,none⟩=some (.int .u8 (x1:Int))/\Hid (Keep w w'))):=fun W ⟨_,_,hb'⟩=>by
  have hb:=hb'.out
  clear hb';refine (ξ7t _ _ _ R W (hA8 W (hK W hb)) hA8n (by omega)).mono ?_
  rintro e w' ⟨v',rfl,ho,hb'⟩;have hs:w.heap.size+1<=W.heap.size:=hb.size
  have hb2:=hb.below hb' hs
  obtain ⟨z0,z1,z2,z3,z4,z5,hop⟩:=hb2.opens;have ho':w'.ownsRow W.heap.size 5 1 v' R.length (cellsOf R):=by rw [show n - 8=R.length by omega] at ho;exact ho
  obtain ⟨a',c',rfl,_⟩:=ξy ho' (fun c hc=>hx c (by simp [hc])) (by omega)
  refine ⟨a',c',z0,z1,z2,z3,z4,z5,rfl,hop,?_,ξd (h.below (hK w' hb2)) 0 (by omega),ξd (h.below (hK w' hb2)) 1 (by omega),hb2⟩
  exact ownsRow_le ho' (by omega)
 have HS1:∀ W k v,(W.cell? ⟨b,o,none⟩=some (.int .u8 (x0:Int))/\W.cell? ⟨b,o+1,none⟩=some (.int .u8 (x1:Int))/\Hid (Keep w W))->((W.setCell ⟨w.heap.size,k,none⟩ v).cell? ⟨b,o,none⟩=some (.int .u8 (x0:Int))/\(W.setCell ⟨w.heap.size,k,none⟩ v).cell? ⟨b,o+1,none⟩=some (.int .u8 (x1:Int))/\Hid (Keep w (W.setCell ⟨w.heap.size,k,none⟩ v))):=fun W k v ⟨h0,h1,h2⟩=>
  have hbw:b≠w.heap.size:=by have:=Ξq w ⟨b,o+0,none⟩ c0;simp at this;omega
  ⟨(World.cell?_of_block (Below.heap_setCell W ⟨w.heap.size,k,none⟩ v b hbw)).trans h0,(World.cell?_of_block (Below.heap_setCell W ⟨w.heap.size,k,none⟩ v b hbw)).trans h1,h2.out.set k v⟩
 have HS:Hid (∀ W v0 v1 v2 v3 v4 v5,(W.cell? ⟨b,o,none⟩=some (.int .u8 (x0:Int))/\W.cell? ⟨b,o+1,none⟩=some (.int .u8 (x1:Int))/\Hid (Keep w W))->(((((((W.setCell ⟨w.heap.size,0,none⟩ v0).setCell ⟨w.heap.size,1,none⟩ v1).setCell ⟨w.heap.size,2,none⟩ v2).setCell ⟨w.heap.size,3,none⟩ v3).setCell ⟨w.heap.size,4,none⟩ v4).setCell ⟨w.heap.size,5,none⟩ v5).cell? ⟨b,o,none⟩=some (.int .u8 (x0:Int))/\((((((W.setCell ⟨w.heap.size,0,none⟩ v0).setCell ⟨w.heap.size,1,none⟩ v1).setCell ⟨w.heap.size,2,none⟩ v2).setCell ⟨w.heap.size,3,none⟩ v3).setCell ⟨w.heap.size,4,none⟩ v4).setCell ⟨w.heap.size,5,none⟩ v5).cell? ⟨b,o+1,none⟩=some (.int .u8 (x1:Int))/\Hid (Keep w ((((((W.setCell ⟨w.heap.size,0,none⟩ v0).setCell ⟨w.heap.size,1,none⟩ v1).setCell ⟨w.heap.size,2,none⟩ v2).setCell ⟨w.heap.size,3,none⟩ v3).setCell ⟨w.heap.size,4,none⟩ v4).setCell ⟨w.heap.size,5,none⟩ v5)))):=fun W v0 v1 v2 v3 v4 v5 h=>HS1 _ _ _ (HS1 _ _ _ (HS1 _ _ _ (HS1 _ _ _ (HS1 _ _ _ (HS1 _ _ _ h)))))
 have hw1:IntKind.i64.wrap (x1:Int)=(x1:Int):=ξ1k (by omega) (by have:=hx x1 (by simp);omega)
 have hst:(bits .and .u8 (x0:Int) 32 != 0)=decide (160<=x0):=by rw [bne,m1,Bool.not_not]
 clear HS1;have n1:(1:Int)<(n:Int):=by omega
 have n0:(0:Int)<(n:Int):=by omega
 have n8:decide ((n:Int)<8)=false:=by simp;omega
 have q4:decide ((127:Int)<(x1:Int))=false:=by simp;omega
 have hx0:x0<256:=hx _ (by simp)
 have hx1:x1<256:=hx _ (by simp)
 have n9:n<=1008:=by omega
 have n10:0<n:=by omega
 have n7:8<=n:=by omega
 clear c0 c1 hA8 hA8n hK hok q3 h hx g0 g1 hn hR;generalize ((x2*256+x3:Nat):Int)=SE at *
 generalize ((((x4*256+x5)*256+x6)*256+x7:Nat):Int)=TI at *
 generalize ((x0%4:Nat):Int)=LA at *
 generalize decide (160<=x0)=ST at *
 generalize cutAt (some ⟨b,o,none⟩) cap 8=a8 at *
 generalize cap - 2=k2 at *
 generalize cap - 4=k4 at *
 go_enter func25,ntmps25
 go_wp2_with fail
 have hS0:((w.alloc (.cells #[.int .i64 0,.int .i64 0,.int .i64 0,.int .i64 0,.bool false,.slice none 0 0] 38)).drew.cell? ⟨b,o,none⟩=some (.int .u8 (x0:Int))/\(w.alloc (.cells #[.int .i64 0,.int .i64 0,.int .i64 0,.int .i64 0,.bool false,.slice none 0 0] 38)).drew.cell? ⟨b,o+1,none⟩=some (.int .u8 (x1:Int))/\Hid (Keep w (w.alloc (.cells #[.int .i64 0,.int .i64 0,.int .i64 0,.int .i64 0,.bool false,.slice none 0 0] 38)).drew)):=⟨d0 (.cells #[.int .i64 0,.int .i64 0,.int .i64 0,.int .i64 0,.bool false,.slice none 0 0] 38),d1 (.cells #[.int .i64 0,.int .i64 0,.int .i64 0,.int .i64 0,.bool false,.slice none 0 0] 38),(Keep.new w _ rfl).drew⟩
 go_region_held3 (fun w'=>(w'.cell? ⟨b,o,none⟩=some (.int .u8 (x0:Int))/\w'.cell? ⟨b,o+1,none⟩=some (.int .u8 (x1:Int))/\Hid (Keep w w'))) (first | with_reducible assumption | exact HS.out _ _ _ _ _ _ _ (by with_reducible assumption))
  (first
    | (go_at_call_of 62 k2;refine (HN2.out _ ?_).mono ?_;assumption;rintro e w' ⟨rfl,rfl⟩)
    | (go_at_call_of 62 k4;refine (HN4.out _ ?_).mono ?_;assumption;rintro e w' ⟨rfl,rfl⟩)
    | (go_at_call 63;refine (HF.out _ ?_).mono ?_;assumption;rintro e w' ⟨a6,c6,z0,z1,z2,z3,z4,z5,rfl,⟨⟨k0,k1,k2,k3,k4,k5⟩,f0,f1,f2,f3,f4,f5⟩,ho,hS⟩))
 go_wp2_with fail
 refine bodyPost_ret (ξ4m (g:=w.heap.size) rfl rfl (hS.2.2.out.set6 SE TI LA x1 ST (.slice a6 R.length c6))) rfl ?_
 refine ⟨a6,c6,rfl,?_,?_⟩
 ·exact ownsRow_le (ownsRow_setCell_below (ownsRow_setCell_below (ownsRow_setCell_below (ownsRow_setCell_below (ownsRow_setCell_below (ownsRow_setCell_below ho.out (Nat.lt_succ_self _) _) (Nat.lt_succ_self _) _) (Nat.lt_succ_self _) _) (Nat.lt_succ_self _) _) (Nat.lt_succ_self _) _) (Nat.lt_succ_self _) _) (by omega)
 ·exact (((((hS.2.2.out.set 0 _).set 1 _).set 2 _).set 3 _).set 4 _).set 5 _ |>.1
theorem ξ3Z {w:World} {a:Option Addr} {n cap:Nat} {L:List Nat} (h:Arg w a n L):(convert 36 9 (.slice a n cap)).run prog w=.ok (.string (str L)) w:=by
 cases L with
 | cons c L=>
   obtain ⟨b,o,e,_⟩:=h.1.2 0 (by simp)
   exact ξ31 underlying36 underlying5 underlying9 h (fun ad h=>by rw [e] at h;exact ⟨b,o,(Option.some.inj h).symm⟩)
 | nil=>
   have hn:n=0:=by have:=h.2.1;simpa using this.symm
   subst hn;cases a with
   | none=>exact ξ31 underlying36 underlying5 underlying9 h (fun ad h=>by simp at h)
   | some ad=>
     rw [run_convert_bytes_string w 36 9 5 _ 0 cap underlying36 underlying5 underlying9];have hl:(loadCells ad 0).run prog w=.ok #[] w:=run_loadCells_list (P:=prog) w ad [] (fun j v hj=>by simp at hj)
     simp [Conv.bytesToString,str,strOfNums,hl]
     rfl
theorem cmp_eq (f:Nat) (w:World):(binOp .eql 25 (errv f) .nilIface).run prog w=.ok (.bool (decide (f=0))) w:=by
 by_cases p:f=0
 ·rw [p,ξ4];simp [go_sem]
 ·rw [ξi p];simp [go_sem,p]
theorem ξr (f:Nat) (w:World):(binOp .neq 25 (errv f) .nilIface).run prog w=.ok (.bool (!decide (f=0))) w:=by
 by_cases p:f=0
 ·rw [p,ξ4];simp [go_sem]
 ·rw [ξi p];simp [go_sem,p]
theorem ξ3q (f:Nat) (o1:Operand) (w:World):(eqGuard .eql 25 o1 (.const .nilIface) (errv f) .nilIface).run prog w=.ok () w:=by
 by_cases p:f=0
 ·rw [p,ξ4];unfold eqGuard;simp
 ·rw [ξi p];simp [go_sem]
theorem ξq (f:Nat) (o1:Operand) (w:World):(eqGuard .neq 25 o1 (.const .nilIface) (errv f) .nilIface).run prog w=.ok () w:=by
 by_cases p:f=0
 ·rw [p,ξ4];unfold eqGuard;simp
 ·rw [ξi p];simp [go_sem]
theorem ξcd (a:Option Addr) (n cap:Nat) (B:List Nat) (w:World) (h:Arg w a n B) (hc:n<=cap) :
 Calls prog 25 #[.slice a n cap] w fun e w'=>∃ (s t l v:Int) (st:Bool) (a':Option Addr) (m c':Nat),e=.returned (.tuple #[.agg #[.int .i64 s,.int .i64 t,.int .i64 l,.int .i64 v,.bool st,.slice a' m c'],errv (rfault B)])/\Below w.heap.size w w' /\
  (a'=none->m=0/\c'=0)/\(∀ ad,a'=some ad->∃ b o,ad=⟨b,o,none⟩) /\
  ((rfault B≠0/\s=0/\t=0/\l=0/\v=0/\st=false/\Arg w' a' m []) ∨
   (rfault B=0/\∃ x0 x1 x2 x3 x4 x5 x6 x7 R,B=x0::x1::x2::x3::x4::x5::x6::x7::R/\good x0=true/\x1<=127/\R.length<=1000/\s=((x2*256+x3:Nat):Int)/\t=((((x4*256+x5)*256+x6)*256+x7:Nat):Int)/\l=((x0%4:Nat):Int)/\v=(x1:Int)/\st=decide (160<=x0)/\Arg w' a' m R)):=by
 have hlen:=h.2.1
 by_cases h8:n<8
 ·have hr:rfault B=8:=ξ6k (by omega)
  refine (ξ2Q a n cap w h8).mono ?_
  rintro e w' ⟨rfl,hb⟩;exact ⟨0,0,0,0,false,none,0,0,by rw [hr];rfl,hb,fun _=>⟨rfl,rfl⟩,fun ad e=>by simp at e,.inl ⟨by omega,rfl,rfl,rfl,rfl,rfl,Bys.nil _ _,rfl,by omega⟩⟩
 ·obtain ⟨b,o,rfl⟩:=ξ1n h (by omega)
  obtain ⟨x0,x1,x2,x3,x4,x5,x6,x7,R,rfl⟩:=eight (B:=B) (by omega)
  have hx:∀ c∈x0::x1::x2::x3::x4::x5::x6::x7::R,c<256:=h.1.1
  have c0:w.cell? ⟨b,o,none⟩=some (.int .u8 (x0:Int)):=ξd h 0 (by omega)
  have c1:w.cell? ⟨b,o+1,none⟩=some (.int .u8 (x1:Int)):=ξd h 1 (by omega)
  have hR:R.length+8=n:=by simp at hlen;omega
  rw [ξ3a];by_cases hg:(good x0&&decide (x1<=127))=true
  ·rw [if_pos hg];by_cases hl:R.length<=1000
   ·rw [if_pos hl];refine (ξ5i b o n cap x0 x1 x2 x3 x4 x5 x6 x7 R w h hc hg hl).mono ?_
    rintro e w' ⟨a',c',rfl,ho,hb⟩;obtain ⟨a2,c2,e2,hA,hN,hC,hB⟩:=ξy ho (fun c hc=>hx c (by simp [hc])) (by omega)
    simp only [Value.slice.injEq,true_and] at e2
    obtain ⟨rfl,rfl⟩:=e2;obtain ⟨g1,g2⟩:=Bool.and_eq_true_iff.1 hg;refine ⟨_,_,_,_,_,a',_,c',rfl,hb,hN,fun ad e=>?_,.inr ⟨rfl,x0,x1,x2,x3,x4,x5,x6,x7,R,rfl,g1,of_decide_eq_true g2,hl,rfl,rfl,rfl,rfl,rfl,hA⟩⟩
    obtain ⟨g,e1,_⟩:=hB ad e;exact ⟨g,0,e1⟩
   ·rw [if_neg hl];refine (ξac b o n cap x0 x1 w (by omega) (hx _ (by simp)) (hx _ (by simp)) c0 c1 hg h.2.2).mono ?_
    rintro e w' ⟨rfl,hb⟩;exact ⟨0,0,0,0,false,none,0,0,rfl,hb,fun _=>⟨rfl,rfl⟩,fun ad e=>by simp at e,.inl ⟨by omega,rfl,rfl,rfl,rfl,rfl,Bys.nil _ _,rfl,by omega⟩⟩
  ·rw [if_neg hg];refine (ξ7i b o n cap x0 x1 w (by omega) (hx _ (by simp)) (hx _ (by simp)) c0 c1 (by simpa using hg)).mono ?_
   rintro e w' ⟨rfl,hb⟩;exact ⟨0,0,0,0,false,none,0,0,rfl,hb,fun _=>⟨rfl,rfl⟩,fun ad e=>by simp at e,.inl ⟨by omega,rfl,rfl,rfl,rfl,rfl,Bys.nil _ _,rfl,by omega⟩⟩
end Go.Proofs.YtpiamlgmadnepaaGreat.Pack
