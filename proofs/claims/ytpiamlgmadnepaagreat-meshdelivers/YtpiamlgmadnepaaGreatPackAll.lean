/-
 What the proof needs.
-/
import Derived.Test.YtpiamlgmadnepaaGreatMathAll
import Derived.Test.YtpiamlgmadnepaaGreatRows
import Derived.ProofKit
import Derived.OpenShut
import Derived.ChangeOld
import Derived.BigQuiet
import Derived.WalkSmall
import Derived.WalkSpells
import Derived.LoopTactic
import Derived.Laws.BitsAllLaws
import Derived.Deep.Cut
import Derived.Deep.RegionHeld3
open Go.Proofs.Tryz
set_option linter.unusedVariables false
set_option maxHeartbeats 4000000
set_option maxRecDepth 100000
namespace Go.Proofs.YtpiamlgmadnepaaGreat.Pack
open ChangeShapes WideShapes ChangeAt RowKit PM Mem
variable {x g B base b n cap i:Nat}{l s t v y:Int}{w w' W:World}{st:Bool}{bv:Value}{L:List Nat}{a:Option Addr}{tmps:Array Value}
theorem info5:(prog.info? 5).map (λi=>(i.zero,i.size,i.bytes))=some (some (.int .u8 0),1,1):=by kernel_rfl
def A0a(e:Nat):Value:=if e=0 then .nilIface else .iface 101 (.int .i64 (e:Int))
theorem ξ7S(a:Option Addr)(n cap:Nat)(L:List Nat)(w:World)(h:Arg w a n L)(hn:a=none->n=0/\cap=0)(hr:n<=1000000) :
 Calls prog 63 #[.slice a n cap] w λe w'=>∃v',e=.returned v'/\w'.ownsRow w.heap.size 5 1 v' n (cellsOf L)/\Below w.heap.size w w':=by
 obtain⟨i0,ai,aj,am,aq⟩:=info_parts info5;have HA:=ξ0 h;have HN:=ξ0 hn;clear h hn;go_enter func63,ntmps63;go_wp2_with (at_builtin;refine ξ1N rfl _ _ 36 rfl w.heap.size 5 i0 (.int .u8 0) 1 1 underlying36 ai aj am aq rfl (by decide) _ 0 [] rfl (Ξr _ _ _ _) a n cap (cellsOf L) rfl ?al HN.out ?ac (cells_one L) ?b1 ?b2 ?b3 ?next)
 case al=>rw[ξw,HA.out.2.1];omega
 case ac=>exact ξz HA.out.1
 case b1=>unfold maxLen;omega
 case b2=>omega
 case b3=>exact Ξo _
 case next=>
  intro v1 w1 ah ae;have au:Hid (Below w.heap.size w w1):=(Ξp _ _).grown ae (Ξo _) (by simp[Value.ownBlock]);have aw:Hid (w1.ownsRow w.heap.size 5 1 v1 n (cellsOf L)):=ah;clear ah ae;go_wp2_with fail;go_ret;exact⟨v1,rfl,aw.out,au.out⟩
theorem ξ11{k:IntKind}{a b:Int}(h:a=b):Ending.returned (.int k a)=.returned (.int k b):=by rw[h]
theorem ξ1o{n:Int}(h0:0<=n)(h1:n<9223372036854775808):IntKind.i64.wrap n=n:=by
 simp[IntKind.wrap,IntKind.bits,IntKind.signed];omega
theorem ξ1s(a b:Nat)(ha:a<9223372036854775808)(hb:b<9223372036854775808):bits .or .i64 (a:Int) (b:Int)=((a|||b:Nat):Int):=by
 have hx:a|||b<2^63:=Nat.or_lt_two_pow (by omega) (by omega);show IntKind.i64.wrap ((BitVec.ofInt 64 (a:Int)|||BitVec.ofInt 64 (b:Int)).toNat:Int)=_;rw[BitVec.toNat_or,ofInt_u64 a (by omega),ofInt_u64 b (by omega)];exact ξ1o (by omega) (by omega)
theorem ξ3L(n c:Nat)(hn:n<16777216)(hc:c<256):bits .or .i64 (wrap64 ((n:Int)*256)) (c:Int)=((n*256+c:Nat):Int):=by
 have e:wrap64 ((n:Int)*256)=((n*256:Nat):Int):=by unfold wrap64;omega
 rw[e,ξ1s _ _ (by omega) (by omega),nat_join 8 _ c (by omega) (by omega)]
theorem ξ8x(c:Nat)(hc:c<256):bits .or .i64 0 (c:Int)=(c:Int):=by
 have:=ξ1s 0 c (by omega) (by omega);rw[Nat.zero_or]at this;exact this
theorem ξ6c(b o cap:Nat)(t0 t1:Nat)(w:World)(h0:t0<256)(h1:t1<256)(c0:w.cell? ⟨b,o,none⟩=some (.int .u8 (t0:Int)))(c1:w.cell? ⟨b,o+1,none⟩=some (.int .u8 (t1:Int))) :
 Calls prog 62 #[.slice (some ⟨b,o,none⟩) 2 cap] w λe w'=>e=.returned (.int .i64 ((t0*256+t1:Nat):Int))/\w'=w:=by
 go_enter func62,ntmps62;go_wp2_with fail
 refine wp_loop_rounds 3 ?_;rw[rounds_succ];go_wp2_with fail;rw[rounds_succ];go_wp2_with fail;rw[rounds_succ];go_wp2_with fail;go_ret;exact⟨ξ11 (by rw[ξ8x t0 h0,ξ3L t0 t1 (by omega) h1]),rfl⟩
theorem ξ6b(b o cap:Nat)(t0 t1 t2 t3:Nat)(w:World)(h0:t0<256)(h1:t1<256)(h2:t2<256)(h3:t3<256)(c0:w.cell? ⟨b,o,none⟩=some (.int .u8 (t0:Int)))(c1:w.cell? ⟨b,o+1,none⟩=some (.int .u8 (t1:Int)))
 (c2:w.cell? ⟨b,o+2,none⟩=some (.int .u8 (t2:Int))) (c3:w.cell? ⟨b,o+3,none⟩=some (.int .u8 (t3:Int))) :
 Calls prog 62 #[.slice (some ⟨b,o,none⟩) 4 cap] w λe w'=>e=.returned (.int .i64 ((((t0*256+t1)*256+t2)*256+t3:Nat):Int))/\w'=w:=by
 go_enter func62,ntmps62;go_wp2_with fail
 refine wp_loop_rounds 5 ?_;rw[rounds_succ];go_wp2_with fail;rw[rounds_succ];go_wp2_with fail;rw[rounds_succ];go_wp2_with fail;rw[rounds_succ];go_wp2_with fail;rw[rounds_succ];go_wp2_with fail;go_ret;exact⟨ξ11 (by rw[ξ8x t0 h0,ξ3L t0 t1 (by omega) h1,ξ3L _ t2 (by omega) h2,ξ3L _ t3 (by omega) h3]),rfl⟩
theorem ξ74(hx:x<256):good x=(!(bits .and .u8 (x:Int) 128==0)&&!decide (3<bits .andNot .i64 (x:Int) 160)):=by
 have:∀x:Fin 256,good x.val=(!(bits .and .u8 (x.val:Int) 128==0)&&!decide (3<bits .andNot .i64 (x.val:Int) 160)):=by decide +kernel
 exact this ⟨x,hx⟩
theorem ξf5(h:good x=true):bits .andNot .i64 (x:Int) 160=((x%4:Nat):Int)/\(bits .and .u8 (x:Int) 32==0)=!decide (160<=x):=by
 have hx:=(ξbK h).2
 have:∀x:Fin 256,good x.val=true->bits .andNot .i64 (x.val:Int) 160=((x.val%4:Nat):Int)/\(bits .and .u8 (x.val:Int) 32==0)=!decide (160<=x.val):=by decide +kernel
 exact this ⟨x,hx⟩ h
theorem ξdL{l:Nat}(h:l<=3):bits .or .i64 128 (l:Int)=((128+l:Nat):Int)/\bits .or .i64 ((128+l:Nat):Int) 32=((128+l+32:Nat):Int):=by
 have:∀l:Fin 4,bits .or .i64 128 (l.val:Int)=((128+l.val:Nat):Int)/\bits .or .i64 ((128+l.val:Nat):Int) 32=((128+l.val+32:Nat):Int):=by decide +kernel
 exact this ⟨l,by omega⟩
theorem ξ4:A0a 0=.nilIface:=rfl
theorem ξb{e:Nat}(h:e≠0):A0a e=.iface 101 (.int .i64 (e:Int)):=by unfold A0a;rw[if_neg h]
def Box(w:World)(g:Nat)(s t l v:Int)(st:Bool)(bv:Value):Prop:=w.heap[g]?=some (.cells #[.int .i64 s,.int .i64 t,.int .i64 l,.int .i64 v,.bool st,bv] 38 (0,0))
theorem Box.new(w:World)(s t l v:Int)(st:Bool)(bv:Value):Box (w.alloc (.cells #[.int .i64 s,.int .i64 t,.int .i64 l,.int .i64 v,.bool st,bv] 38)) w.heap.size s t l v st bv:=heap_alloc_new w _
theorem Box.below(h:Box w g s t l v st bv)(hb:Below B w w')(hg:g<B):Box w' g s t l v st bv:=(hb.block g hg).trans h
theorem Box.lt(h:Box w g s t l v st bv):g<w.heap.size:=lt_of_block h
theorem Box.grown{row:Option Nat}(h:Box w g s t l v st bv)(hg:w.grownBy w' row)(hr:row≠some g):Box w' g s t l v st bv:=
 (hg.block g h.lt (λe=>hr e.symm)).trans h
theorem Box.alloc(h:Box w g s t l v st bv)(o:Obj):Box (w.alloc o) g s t l v st bv:=(Below.heap_alloc _ _ _ h.lt).trans h
theorem Box.cells(h:Box w g s t l v st bv) :
 w.cell? ⟨g,0,none⟩=some (.int .i64 s)/\w.cell? ⟨g,1,none⟩=some (.int .i64 t)/\w.cell? ⟨g,2,none⟩=some (.int .i64 l)/\w.cell? ⟨g,3,none⟩=some (.int .i64 v)/\w.cell? ⟨g,4,none⟩=some (.bool st)/\w.cell? ⟨g,5,none⟩=some bv:=by
 simp only[Box]at h;simp[World.cell?,h]
theorem ξu{o:Obj}(h:Below (w.alloc o).heap.size (w.alloc o) w'):Below w.heap.size w w':=
 ((Ξp _ _).alloc (Ξo _) o).trans (h.mono (by simp))
theorem ξ32{m k:Nat}{v:Value}{K R:List Nat}(h:w.ownsRow base 5 1 v m (cellsOf L++cellsOf K))(hm:m=k)(hR:L++K=R):w.ownsRow base 5 1 v k (cellsOf R):=by
 rw[<-ξ1v]at h;rw[<-hm,<-hR];exact h
theorem blk2{x:Int}{a:Nat}(hx:x=(a:Int))(hy:y=(b:Int)):(#[Value.int .u8 x,.int .u8 y]:Array Value)=(cellsOf [a,b]).toArray:=by rw[hx,hy];rfl
theorem blk4{x z u:Int}{a c d:Nat}(hx:x=(a:Int))(hy:y=(b:Int))(hz:z=(c:Int))(hu:u=(d:Int)):(#[Value.int .u8 x,.int .u8 y,.int .u8 z,.int .u8 u]:Array Value)=(cellsOf [a,b,c,d]).toArray:=by rw[hx,hy,hz,hu];rfl
theorem ξ1q(h:Arg w a n L)(hn:0<n):∃b o,a=some ⟨b,o,none⟩:=by
 obtain⟨b,o,e,_⟩:=h.1.2 0 (by have:=h.2.1;omega);exact⟨b,o,e⟩
theorem ξf{o:Nat}(h:Arg w (some ⟨b,o,none⟩) n L)(j:Nat)(hj:j<n):w.cell? ⟨b,o+j,none⟩=some (.int .u8 (L.getD j 0:Nat)):=by
 obtain⟨b',o',e,hc⟩:=h.1.2 j (by have:=h.2.1;omega);simp only[Option.some.injEq,Addr.mk.injEq,and_true]at e;obtain⟨rfl,rfl⟩:=e;exact hc
theorem ξ2Y(a:Option Addr)(n cap:Nat)(w:World)(h:n<8) :
 Calls prog 25 #[.slice a n cap] w λe w'=>e=.returned (.tuple #[.agg #[.int .i64 0,.int .i64 0,.int .i64 0,.int .i64 0,.bool false,.slice none 0 0],.iface 101 (.int .i64 8)])/\Below w.heap.size w w':=by
 go_enter func25,ntmps25;go_wp2_with fail
 refine bodyPost_ret (v:=.tuple #[.agg #[.int .i64 0,.int .i64 0,.int .i64 0,.int .i64 0,.bool false,.slice none 0 0],.iface 101 (.int .i64 8)]) (by simp[results,Tryz.results25,go_sem]) rfl ?_;exact⟨rfl,(Ξp _ _).alloc (Ξo _) _⟩
theorem ξj{p:Addr}{v:Value}(h:w.cell? p=some v)(o:Obj):(w.alloc o).cell? p=some v:=(((Ξp _ _).alloc (Ξo _) o).cell (Ξq w p h)).trans h
theorem ξ7F(b o n cap x0 x1:Nat)(w:World)(hn:8<=n)(hx0:x0<256)(hx1:x1<256)(c0:w.cell? ⟨b,o,none⟩=some (.int .u8 (x0:Int)))(c1:w.cell? ⟨b,o+1,none⟩=some (.int .u8 (x1:Int)))(hbad:(good x0&&decide (x1<=127))=false) :
 Calls prog 25 #[.slice (some ⟨b,o,none⟩) n cap] w λe w'=>e=.returned (.tuple #[.agg #[.int .i64 0,.int .i64 0,.int .i64 0,.int .i64 0,.bool false,.slice none 0 0],.iface 101 (.int .i64 2)])/\Below w.heap.size w w':=by
 rw[ξ74 hx0]at hbad;have d0:=λO=>ξj c0 O;have d1:=λO=>ξj c1 O;have n1:(1:Int)<(n:Int):=by omega
 have n0:(0:Int)<(n:Int):=by omega
 have n8:decide ((n:Int)<8)=false:=by simp;omega
 clear c0 c1;by_cases p1:bits .and .u8 (x0:Int) 128=0
 ·clear hbad;go_enter func25,ntmps25;go_wp2_with fail
  refine bodyPost_ret (v:=.tuple #[.agg #[.int .i64 0,.int .i64 0,.int .i64 0,.int .i64 0,.bool false,.slice none 0 0],.iface 101 (.int .i64 2)]) (by simp[results,Tryz.results25,go_sem]) rfl ?_;exact⟨rfl,(Ξp _ _).alloc (Ξo _) _⟩
 by_cases p2:3<bits .andNot .i64 (x0:Int) 160
 ·clear hbad;go_enter func25,ntmps25;go_wp2_with fail
  refine bodyPost_ret (v:=.tuple #[.agg #[.int .i64 0,.int .i64 0,.int .i64 0,.int .i64 0,.bool false,.slice none 0 0],.iface 101 (.int .i64 2)]) (by simp[results,Tryz.results25,go_sem]) rfl ?_;exact⟨rfl,(Ξp _ _).alloc (Ξo _) _⟩
 have p3:(127:Int)<(x1:Int):=by
  simp[p1,p2]at hbad;omega
 clear hbad;have q1:(bits .and .u8 (x0:Int) 128==0)=false:=by simpa using p1
 have q2:decide (3<bits .andNot .i64 (x0:Int) 160)=false:=by simpa using p2
 go_enter func25,ntmps25;go_wp2_with fail
 refine bodyPost_ret (v:=.tuple #[.agg #[.int .i64 0,.int .i64 0,.int .i64 0,.int .i64 0,.bool false,.slice none 0 0],.iface 101 (.int .i64 2)]) (by simp[results,Tryz.results25,go_sem]) rfl ?_;exact⟨rfl,(Ξp _ _).alloc (Ξo _) _⟩
theorem ξaX(b o n cap x0 x1:Nat)(w:World)(hn:1008<n)(hx0:x0<256)(hx1:x1<256)(c0:w.cell? ⟨b,o,none⟩=some (.int .u8 (x0:Int)))(c1:w.cell? ⟨b,o+1,none⟩=some (.int .u8 (x1:Int)))(hok:(good x0&&decide (x1<=127))=true)(hmax:n<=9223372036854775807) :
 Calls prog 25 #[.slice (some ⟨b,o,none⟩) n cap] w λe w'=>e=.returned (.tuple #[.agg #[.int .i64 0,.int .i64 0,.int .i64 0,.int .i64 0,.bool false,.slice none 0 0],.iface 101 (.int .i64 4)])/\Below w.heap.size w w':=by
 rw[ξ74 hx0]at hok;simp only[Bool.and_eq_true,Bool.not_eq_true',decide_eq_true_eq]at hok;obtain⟨⟨q1,q2⟩,q3⟩:=hok;have d0:=λO=>ξj c0 O;have d1:=λO=>ξj c1 O;have n1:(1:Int)<(n:Int):=by omega
 have n0:(0:Int)<(n:Int):=by omega
 have n8:decide ((n:Int)<8)=false:=by simp;omega
 have q4:decide ((127:Int)<(x1:Int))=false:=by simp;omega
 clear c0 c1;go_enter func25,ntmps25;go_wp2_with fail
 refine bodyPost_ret (v:=.tuple #[.agg #[.int .i64 0,.int .i64 0,.int .i64 0,.int .i64 0,.bool false,.slice none 0 0],.iface 101 (.int .i64 4)]) (by simp[results,Tryz.results25,go_sem]) rfl ?_;exact⟨rfl,(Ξp _ _).alloc (Ξo _) _⟩
theorem A4s:prog.underlying 36=some (.slice (prog.elem 36)):=by kernel_rfl
theorem A3j:prog.elem 36=5:=by kernel_rfl
theorem A4t(w:World):(sizeOf 5).run prog w=.ok 1 w:=by
 obtain⟨i0,ae,ai,ah,aj⟩:=info_parts info5;simp[sizeOf,typeInfo,ae,ah]
def cutAt(a:Option Addr)(cap l:Nat):Option Addr:=if cap=l then a else a.map (·.add l)
theorem ξ4S{l:Nat}(h:cutAt a cap l=none):a=none:=by
 unfold cutAt at h;split at h
 ·exact h
 ·simpa using h
theorem ξ1j{len l h:Nat}(hA:Arg w a len L)(hlh:l<=h)(hh:h<=len)(hc:len<=cap):Arg w (cutAt a cap l) (h-l) ((L.drop l).take (h-l)):=by
 have hl:=hA.2.1;refine⟨⟨λc hc=>hA.1.1 c (List.mem_of_mem_drop (List.mem_of_mem_take hc)),λj hj=>?_⟩,by simp;omega,by have:=hA.2.2;omega⟩;simp only[List.length_take,List.length_drop]at hj;obtain⟨b,o,e,ae⟩:=hA.1.2 (l+j) (by omega);subst e;refine⟨b,o+l,?_,?_⟩
 ·unfold cutAt;rw[if_neg (by omega)];simp only[Option.map_some,Option.some.injEq];unfold Addr.add;split<;>simp_all
 ·rw[Nat.add_assoc,ae,Ξa,Ξa,List.getElem?_take_of_lt (by omega),List.getElem?_drop]
theorem ξ4R(a:Option Addr)(len cap l h:Nat)(hlh:l<=h)(hh:h<=cap)(w:World) :
 (Instr.slice 36 (.slice a len cap) (some (.int .i64 (l:Int))) (some (.int .i64 (h:Int))) none).run prog w=.ok (.slice (cutAt a cap l) (h-l) (cap-l)) w:=by
 rw[run_slice_lh w 36 a len cap A4s .i64 .i64 l h (by omega) (by omega) (by omega),A3j,A4t];simp[Result.andThen,sliced,cutAt]
theorem ξ29(a:Option Addr)(len cap l:Nat)(hl:l<=len)(w:World) :
 (Instr.slice 36 (.slice a len cap) (some (.int .i64 (l:Int))) none none).run prog w=.ok (.slice (cutAt a cap l) (len-l) (cap-l)) w:=by
 rw[run_slice_l w 36 a len cap A4s .i64 l (by omega) (by omega),A3j,A4t];simp[Result.andThen,sliced,cutAt]
def A0u(w w':World):Prop:=Below w.heap.size w w'/\∃cs:Array Value,cs.size=6/\w'.heap[w.heap.size]?=some (.cells cs 38 (0,0))
theorem A0u.new(w:World)(cs:Array Value)(h:cs.size=6):A0u w (w.alloc (.cells cs 38)):=⟨(Ξp _ _).alloc (Ξo _) _,cs,h,heap_alloc_new w _⟩
theorem A0u.set(h:A0u w W)(k:Nat)(v:Value):A0u w (W.setCell ⟨w.heap.size,k,none⟩ v):=by
 obtain⟨hb,cs,hs,hh⟩:=h;exact⟨hb.setCell (Ξo _) v,cs.setIfInBounds k v,by simpa using hs,heap_setCell_same _ _ _ _ _ _ hh⟩
theorem A0u.drew(h:A0u w W):A0u w W.drew:=⟨h.1.drew,h.2⟩
theorem A0u.size(h:A0u w W):w.heap.size<W.heap.size:=by
 obtain⟨_,cs,_,hh⟩:=h;exact lt_of_block hh
theorem A0u.below{W':World}(h:A0u w W)(hb:Below B W W')(hB:w.heap.size<B):A0u w W':=by
 obtain⟨ae,cs,hs,hh⟩:=h;exact⟨ae.trans (hb.mono (by omega)),cs,hs,(hb.block _ hB).trans hh⟩
def Open(w:World)(g:Nat)(z0 z1 z2 z3 z4 z5:Value):Prop:=
 (w.cell? ⟨g,0,none⟩=some z0/\w.cell? ⟨g,1,none⟩=some z1/\w.cell? ⟨g,2,none⟩=some z2/\w.cell? ⟨g,3,none⟩=some z3/\w.cell? ⟨g,4,none⟩=some z4/\w.cell? ⟨g,5,none⟩=some z5) /\
 w.frozen? ⟨g,0,none⟩=false/\w.frozen? ⟨g,1,none⟩=false/\w.frozen? ⟨g,2,none⟩=false/\w.frozen? ⟨g,3,none⟩=false/\w.frozen? ⟨g,4,none⟩=false/\w.frozen? ⟨g,5,none⟩=false
theorem six{cs:Array Value}(h:cs.size=6):∃z0 z1 z2 z3 z4 z5,cs=#[z0,z1,z2,z3,z4,z5]:=by
 obtain⟨l⟩:=cs
 match l,h with
 | [z0,z1,z2,z3,z4,z5],_=>exact⟨z0,z1,z2,z3,z4,z5,rfl⟩
theorem A0u.opens(h:A0u w W):∃z0 z1 z2 z3 z4 z5,Open W w.heap.size z0 z1 z2 z3 z4 z5:=by
 obtain⟨_,cs,hs,hh⟩:=h;obtain⟨z0,z1,z2,z3,z4,z5,rfl⟩:=six hs;exact⟨z0,z1,z2,z3,z4,z5,by simp[Open,World.cell?,World.frozen?,hh]⟩
theorem A0u.set6(h:A0u w W)(s t l v:Int)(st:Bool)(bv:Value) :
 Box ((((((W.setCell ⟨w.heap.size,0,none⟩ (.int .i64 s)).setCell ⟨w.heap.size,1,none⟩ (.int .i64 t)).setCell ⟨w.heap.size,2,none⟩ (.int .i64 l)).setCell ⟨w.heap.size,3,none⟩ (.int .i64 v)).setCell ⟨w.heap.size,4,none⟩ (.bool st)).setCell ⟨w.heap.size,5,none⟩ bv) w.heap.size s t l v st bv:=by
 obtain⟨_,cs,hs,hh⟩:=h;obtain⟨z0,z1,z2,z3,z4,z5,rfl⟩:=six hs;have h0:=heap_setCell_same _ _ 0 _ _ (.int .i64 s) hh;have h1:=heap_setCell_same _ _ 1 _ _ (.int .i64 t) h0;have h2:=heap_setCell_same _ _ 2 _ _ (.int .i64 l) h1;have h3:=heap_setCell_same _ _ 3 _ _ (.int .i64 v) h2;have h4:=heap_setCell_same _ _ 4 _ _ (.bool st) h3;have h5:=heap_setCell_same _ _ 5 _ _ bv h4;exact h5
theorem ξ4y{fn:Func}{j:Nat}(hf:fn.results=#[.cell i 38,.tmp j])(hi:tmps.getD i undef=.pointer (some ⟨g,0,none⟩))(hb:Box w g s t l v st (.slice a n cap)) :
 (results fn tmps).run prog w=.ok (.tuple #[.agg #[.int .i64 s,.int .i64 t,.int .i64 l,.int .i64 v,.bool st,.slice a n cap],tmps.getD j undef]) w:=by
 obtain⟨c0,c1,c2,c3,c4,c5⟩:=hb.cells;have ae:tmps[i]?.getD undef=.pointer (some ⟨g,0,none⟩):=by simpa using hi
 simp[results,hf,ae,go_sem,c0,c1,c2,c3,c4,c5]
theorem ownsRow_le{base' size:Nat}{e:TypeId}{v:Value}{xs:List Value}(h:w.ownsRow base e size v n xs)(hb:base'<=base):w.ownsRow base' e size v n xs:=by
 refine⟨h.1,?_⟩;rcases h.2 with hl|⟨g,c,cur,e1,e2,rest⟩
 ·exact .inl hl
 ·exact .inr ⟨g,c,cur,e1,by omega,rest⟩
theorem ξ5y(b o n cap x0 x1 x2 x3 x4 x5 x6 x7:Nat)(R:List Nat)(w:World)(h:Arg w (some ⟨b,o,none⟩) n (x0::x1::x2::x3::x4::x5::x6::x7::R))(hc:n<=cap)(hok:(good x0&&decide (x1<=127))=true)(hR:R.length<=1000) :
 Calls prog 25 #[.slice (some ⟨b,o,none⟩) n cap] w λe w'=>∃a' c',e=.returned (.tuple #[.agg #[.int .i64 ((x2*256+x3:Nat):Int),.int .i64 ((((x4*256+x5)*256+x6)*256+x7:Nat):Int),.int .i64 ((x0%4:Nat):Int),.int .i64 (x1:Int),.bool (decide (160<=x0)),.slice a' R.length c'],.nilIface]) /\
  w'.ownsRow w.heap.size 5 1 (.slice a' R.length c') R.length (cellsOf R)/\Below w.heap.size w w':=by
 have hn:n=R.length+8:=by have:=h.2.1;simp at this;omega
 have hx:∀c∈x0::x1::x2::x3::x4::x5::x6::x7::R,c<256:=h.1.1;obtain⟨g0,g1⟩:=Bool.and_eq_true_iff.1 hok;obtain⟨m0,m1⟩:=ξf5 g0;have hq:=hok;rw[ξ74 (hx x0 (by simp))]at hq;simp only[Bool.and_eq_true,Bool.not_eq_true',decide_eq_true_eq]at hq;obtain⟨⟨q1,q2⟩,q3⟩:=hq;rw[m0]at q2;have c0:=ξf h 0 (by omega);have c1:=ξf h 1 (by omega);have d0:∀O,(w.alloc O).cell? ⟨b,o,none⟩=some (.int .u8 (x0:Int)):=λO=>ξj c0 O;have d1:∀O,(w.alloc O).cell? ⟨b,o+1,none⟩=some (.int .u8 (x1:Int)):=λO=>ξj c1 O;have e2:∀w,(Instr.slice 36 (.slice (some ⟨b,o,none⟩) n cap) (some (.int .i64 2)) (some (.int .i64 4)) none).run prog w=.ok (.slice (some ⟨b,o+2,none⟩) 2 (cap-2)) w:=λw=>by
  have:=ξ4R (some ⟨b,o,none⟩) n cap 2 4 (by omega) (by omega) w;rw[show cutAt (some ⟨b,o,none⟩) cap 2=some ⟨b,o+2,none⟩by unfold cutAt;rw[if_neg (by omega)];rfl]at this;exact this
 have e4:∀w,(Instr.slice 36 (.slice (some ⟨b,o,none⟩) n cap) (some (.int .i64 4)) (some (.int .i64 8)) none).run prog w=.ok (.slice (some ⟨b,o+4,none⟩) 4 (cap-4)) w:=λw=>by
  have:=ξ4R (some ⟨b,o,none⟩) n cap 4 8 (by omega) (by omega) w;rw[show cutAt (some ⟨b,o,none⟩) cap 4=some ⟨b,o+4,none⟩by unfold cutAt;rw[if_neg (by omega)];rfl]at this;exact this
 have e8:∀w,(Instr.slice 36 (.slice (some ⟨b,o,none⟩) n cap) (some (.int .i64 8)) none none).run prog w=.ok (.slice (cutAt (some ⟨b,o,none⟩) cap 8) (n-8) (cap-8)) w:=λw=>ξ29 (some ⟨b,o,none⟩) n cap 8 (by omega) w;have am:∀W,Below w.heap.size w W->Arg W (cutAt (some ⟨b,o,none⟩) cap 8) (n-8) R:=λW hb=>by
  have:=ξ1j (l:=8) (h:=n) (h.below hb) (by omega) (Ξo _) hc;rw[show(x0::x1::x2::x3::x4::x5::x6::x7::R).drop 8=R from rfl,Ξl (by omega)]at this;exact this
 have ah:cutAt (some ⟨b,o,none⟩) cap 8=none->n-8=0/\cap-8=0:=λh=>by have:=ξ4S h;simp at this
 have hK:∀W,A0u w W->Below w.heap.size w W:=λW hb=>hb.1;have aw:Hid (∀W,(W.cell? ⟨b,o,none⟩=some (.int .u8 (x0:Int))/\W.cell? ⟨b,o+1,none⟩=some (.int .u8 (x1:Int))/\Hid (A0u w W))->Calls prog 62 #[.slice (some ⟨b,o+2,none⟩) 2 (cap-2)] W λe w'=>e=.returned (.int .i64 ((x2*256+x3:Nat):Int))/\w'=W):=λW ⟨_,_,hb⟩=>
  ξ6c b (o+2) (cap-2) x2 x3 W (hx _ (by simp)) (hx _ (by simp)) (ξf (h.below (hK W hb)) 2 (by omega)) (ξf (h.below (hK W hb)) 3 (by omega))
 have ax:Hid (∀W,(W.cell? ⟨b,o,none⟩=some (.int .u8 (x0:Int))/\W.cell? ⟨b,o+1,none⟩=some (.int .u8 (x1:Int))/\Hid (A0u w W))->Calls prog 62 #[.slice (some ⟨b,o+4,none⟩) 4 (cap-4)] W λe w'=>e=.returned (.int .i64 ((((x4*256+x5)*256+x6)*256+x7:Nat):Int))/\w'=W):=λW ⟨_,_,hb⟩=>
  ξ6b b (o+4) (cap-4) x4 x5 x6 x7 W (hx _ (by simp)) (hx _ (by simp)) (hx _ (by simp)) (hx _ (by simp)) (ξf (h.below (hK W hb)) 4 (by omega)) (ξf (h.below (hK W hb)) 5 (by omega)) (ξf (h.below (hK W hb)) 6 (by omega)) (ξf (h.below (hK W hb)) 7 (by omega))
 have HF:Hid (∀W,(W.cell? ⟨b,o,none⟩=some (.int .u8 (x0:Int))/\W.cell? ⟨b,o+1,none⟩=some (.int .u8 (x1:Int))/\Hid (A0u w W))->Calls prog 63 #[.slice (cutAt (some ⟨b,o,none⟩) cap 8) (n-8) (cap-8)] W λe w'=>∃a' c' z0 z1 z2 z3 z4 z5,e=.returned (.slice a' R.length c')/\Open w' w.heap.size z0 z1 z2 z3 z4 z5/\Hid (w'.ownsRow (w.heap.size+1) 5 1 (.slice a' R.length c') R.length (cellsOf R)) /\
  (w'.cell? ⟨b,o,none⟩=some (.int .u8 (x0:Int))/\w'.cell? ⟨b,o+1,none⟩=some (.int .u8 (x1:Int))/\Hid (A0u w w'))):=λW ⟨_,_,ai⟩=>by
  have hb:=ai.out;clear ai;refine(ξ7S _ _ _ R W (am W (hK W hb)) ah (by omega)).mono ?_;rintro e w' ⟨v',rfl,ho,ai⟩;have hs:w.heap.size+1<=W.heap.size:=hb.size;have aj:=hb.below ai hs;obtain⟨z0,z1,z2,z3,z4,z5,ay⟩:=aj.opens;have aq:w'.ownsRow W.heap.size 5 1 v' R.length (cellsOf R):=by rw[show n-8=R.length by omega]at ho;exact ho
  obtain⟨a',c',rfl,_⟩:=ξy aq (λc hc=>hx c (by simp[hc])) (by omega);refine⟨a',c',z0,z1,z2,z3,z4,z5,rfl,ay,?_,ξf (h.below (hK w' aj)) 0 (by omega),ξf (h.below (hK w' aj)) 1 (by omega),aj⟩;exact ownsRow_le aq (by omega)
 have ae:∀W k v,(W.cell? ⟨b,o,none⟩=some (.int .u8 (x0:Int))/\W.cell? ⟨b,o+1,none⟩=some (.int .u8 (x1:Int))/\Hid (A0u w W))->((W.setCell ⟨w.heap.size,k,none⟩ v).cell? ⟨b,o,none⟩=some (.int .u8 (x0:Int))/\(W.setCell ⟨w.heap.size,k,none⟩ v).cell? ⟨b,o+1,none⟩=some (.int .u8 (x1:Int))/\Hid (A0u w (W.setCell ⟨w.heap.size,k,none⟩ v))):=λW k v ⟨h0,h1,h2⟩=>
  have au:b≠w.heap.size:=by have:=Ξq w ⟨b,o+0,none⟩ c0;simp at this;omega
  ⟨(World.cell?_of_block (Below.heap_setCell W ⟨w.heap.size,k,none⟩ v b au)).trans h0,(World.cell?_of_block (Below.heap_setCell W ⟨w.heap.size,k,none⟩ v b au)).trans h1,h2.out.set k v⟩
 have HS:Hid (∀W v0 v1 v2 v3 v4 v5,(W.cell? ⟨b,o,none⟩=some (.int .u8 (x0:Int))/\W.cell? ⟨b,o+1,none⟩=some (.int .u8 (x1:Int))/\Hid (A0u w W))->(((((((W.setCell ⟨w.heap.size,0,none⟩ v0).setCell ⟨w.heap.size,1,none⟩ v1).setCell ⟨w.heap.size,2,none⟩ v2).setCell ⟨w.heap.size,3,none⟩ v3).setCell ⟨w.heap.size,4,none⟩ v4).setCell ⟨w.heap.size,5,none⟩ v5).cell? ⟨b,o,none⟩=some (.int .u8 (x0:Int))/\((((((W.setCell ⟨w.heap.size,0,none⟩ v0).setCell ⟨w.heap.size,1,none⟩ v1).setCell ⟨w.heap.size,2,none⟩ v2).setCell ⟨w.heap.size,3,none⟩ v3).setCell ⟨w.heap.size,4,none⟩ v4).setCell ⟨w.heap.size,5,none⟩ v5).cell? ⟨b,o+1,none⟩=some (.int .u8 (x1:Int))/\Hid (A0u w ((((((W.setCell ⟨w.heap.size,0,none⟩ v0).setCell ⟨w.heap.size,1,none⟩ v1).setCell ⟨w.heap.size,2,none⟩ v2).setCell ⟨w.heap.size,3,none⟩ v3).setCell ⟨w.heap.size,4,none⟩ v4).setCell ⟨w.heap.size,5,none⟩ v5)))):=λW v0 v1 v2 v3 v4 v5 h=>ae _ _ _ (ae _ _ _ (ae _ _ _ (ae _ _ _ (ae _ _ _ (ae _ _ _ h)))));have az:IntKind.i64.wrap (x1:Int)=(x1:Int):=ξ1o (by omega) (by have:=hx x1 (by simp);omega);have aA:(bits .and .u8 (x0:Int) 32 != 0)=decide (160<=x0):=by rw[bne,m1,Bool.not_not]
 clear ae;have n1:(1:Int)<(n:Int):=by omega
 have n0:(0:Int)<(n:Int):=by omega
 have n8:decide ((n:Int)<8)=false:=by simp;omega
 have q4:decide ((127:Int)<(x1:Int))=false:=by simp;omega
 have aC:x0<256:=hx _ (by simp);have aD:x1<256:=hx _ (by simp);have n9:n<=1008:=by omega
 have aE:0<n:=by omega
 have n7:8<=n:=by omega
 clear c0 c1 am ah hK hok q3 h hx g0 g1 hn hR;generalize ((x2*256+x3:Nat):Int)=SE at *;generalize ((((x4*256+x5)*256+x6)*256+x7:Nat):Int)=TI at *;generalize ((x0%4:Nat):Int)=LA at *;generalize decide (160<=x0)=ST at *;generalize cutAt (some ⟨b,o,none⟩) cap 8=a8 at *;generalize cap-2=k2 at *;generalize cap-4=k4 at *;go_enter func25,ntmps25;go_wp2_with fail
 have aF:((w.alloc (.cells #[.int .i64 0,.int .i64 0,.int .i64 0,.int .i64 0,.bool false,.slice none 0 0] 38)).drew.cell? ⟨b,o,none⟩=some (.int .u8 (x0:Int))/\(w.alloc (.cells #[.int .i64 0,.int .i64 0,.int .i64 0,.int .i64 0,.bool false,.slice none 0 0] 38)).drew.cell? ⟨b,o+1,none⟩=some (.int .u8 (x1:Int))/\Hid (A0u w (w.alloc (.cells #[.int .i64 0,.int .i64 0,.int .i64 0,.int .i64 0,.bool false,.slice none 0 0] 38)).drew)):=⟨d0 (.cells #[.int .i64 0,.int .i64 0,.int .i64 0,.int .i64 0,.bool false,.slice none 0 0] 38),d1 (.cells #[.int .i64 0,.int .i64 0,.int .i64 0,.int .i64 0,.bool false,.slice none 0 0] 38),(A0u.new w _ rfl).drew⟩
 go_region_held3 (λw'=>(w'.cell? ⟨b,o,none⟩=some (.int .u8 (x0:Int))/\w'.cell? ⟨b,o+1,none⟩=some (.int .u8 (x1:Int))/\Hid (A0u w w'))) (first|with_reducible assumption|exact HS.out _ _ _ _ _ _ _ (by with_reducible assumption))
  (first
    | (go_at_call_of 62 k2;refine(aw.out _ ?_).mono ?_;assumption;rintro e w' ⟨rfl,rfl⟩)
    | (go_at_call_of 62 k4;refine(ax.out _ ?_).mono ?_;assumption;rintro e w' ⟨rfl,rfl⟩)
    | (go_at_call 63;refine(HF.out _ ?_).mono ?_;assumption;rintro e w' ⟨a6,c6,z0,z1,z2,z3,z4,z5,rfl,⟨⟨k0,k1,k2,k3,k4,k5⟩,f0,f1,f2,f3,f4,f5⟩,ho,hS⟩))
 go_wp2_with fail
 refine bodyPost_ret (ξ4y (g:=w.heap.size) rfl rfl (hS.2.2.out.set6 SE TI LA x1 ST (.slice a6 R.length c6))) rfl ?_;refine⟨a6,c6,rfl,?_,?_⟩
 ·exact ownsRow_le (ownsRow_setCell_below (ownsRow_setCell_below (ownsRow_setCell_below (ownsRow_setCell_below (ownsRow_setCell_below (ownsRow_setCell_below ho.out (Nat.lt_succ_self _) _) (Nat.lt_succ_self _) _) (Nat.lt_succ_self _) _) (Nat.lt_succ_self _) _) (Nat.lt_succ_self _) _) (Nat.lt_succ_self _) _) (by omega)
 ·exact(((((hS.2.2.out.set 0 _).set 1 _).set 2 _).set 3 _).set 4 _).set 5 _ |>.1
theorem cmp_eq(f:Nat)(w:World):(binOp .eql 25 (A0a f) .nilIface).run prog w=.ok (.bool (decide (f=0))) w:=by
 by_cases p:f=0
 ·rw[p,ξ4];simp[go_sem]
 ·rw[ξb p];simp[go_sem,p]
theorem ξq(f:Nat)(w:World):(binOp .neq 25 (A0a f) .nilIface).run prog w=.ok (.bool (!decide (f=0))) w:=by
 by_cases p:f=0
 ·rw[p,ξ4];simp[go_sem]
 ·rw[ξb p];simp[go_sem,p]
theorem ξ3z(f:Nat)(o1:Operand)(w:World):(eqGuard .eql 25 o1 (.const .nilIface) (A0a f) .nilIface).run prog w=.ok () w:=by
 by_cases p:f=0
 ·rw[p,ξ4];unfold eqGuard;simp
 ·rw[ξb p];simp[go_sem]
theorem ξp(f:Nat)(o1:Operand)(w:World):(eqGuard .neq 25 o1 (.const .nilIface) (A0a f) .nilIface).run prog w=.ok () w:=by
 by_cases p:f=0
 ·rw[p,ξ4];unfold eqGuard;simp
 ·rw[ξb p];simp[go_sem]
theorem ξcN(a:Option Addr)(n cap:Nat)(B:List Nat)(w:World)(h:Arg w a n B)(hc:n<=cap) :
 Calls prog 25 #[.slice a n cap] w λe w'=>∃(s t l v:Int) (st:Bool) (a':Option Addr) (m c':Nat),e=.returned (.tuple #[.agg #[.int .i64 s,.int .i64 t,.int .i64 l,.int .i64 v,.bool st,.slice a' m c'],A0a (A0y B)])/\Below w.heap.size w w' /\
  (a'=none->m=0/\c'=0)/\(∀ad,a'=some ad->∃b o,ad=⟨b,o,none⟩) /\
  ((A0y B≠0/\s=0/\t=0/\l=0/\v=0/\st=false/\Arg w' a' m []) ∨
   (A0y B=0/\∃x0 x1 x2 x3 x4 x5 x6 x7 R,B=x0::x1::x2::x3::x4::x5::x6::x7::R/\good x0=true/\x1<=127/\R.length<=1000/\s=((x2*256+x3:Nat):Int)/\t=((((x4*256+x5)*256+x6)*256+x7:Nat):Int)/\l=((x0%4:Nat):Int)/\v=(x1:Int)/\st=decide (160<=x0)/\Arg w' a' m R)):=by
 have ae:=h.2.1;by_cases h8:n<8
 ·have hr:A0y B=8:=ξ6F (by omega);refine(ξ2Y a n cap w h8).mono ?_;rintro e w' ⟨rfl,hb⟩;exact⟨0,0,0,0,false,none,0,0,by rw[hr];rfl,hb,λ_=>⟨rfl,rfl⟩,λad e=>by simp at e,.inl ⟨by omega,rfl,rfl,rfl,rfl,rfl,Bys.nil _ _,rfl,by omega⟩⟩
 ·obtain⟨b,o,rfl⟩:=ξ1q h (by omega);obtain⟨x0,x1,x2,x3,x4,x5,x6,x7,R,rfl⟩:=eight (B:=B) (by omega);have hx:∀c∈x0::x1::x2::x3::x4::x5::x6::x7::R,c<256:=h.1.1;have c0:w.cell? ⟨b,o,none⟩=some (.int .u8 (x0:Int)):=ξf h 0 (by omega);have c1:w.cell? ⟨b,o+1,none⟩=some (.int .u8 (x1:Int)):=ξf h 1 (by omega);have hR:R.length+8=n:=by simp at ae;omega
  rw[ξ3n];by_cases hg:(good x0&&decide (x1<=127))=true
  ·rw[if_pos hg];by_cases hl:R.length<=1000
   ·rw[if_pos hl];refine(ξ5y b o n cap x0 x1 x2 x3 x4 x5 x6 x7 R w h hc hg hl).mono ?_;rintro e w' ⟨a',c',rfl,ho,hb⟩;obtain⟨a2,c2,e2,hA,hN,hC,hB⟩:=ξy ho (λc hc=>hx c (by simp[hc])) (by omega);simp only[Value.slice.injEq,true_and]at e2;obtain⟨rfl,rfl⟩:=e2;obtain⟨g1,g2⟩:=Bool.and_eq_true_iff.1 hg;refine⟨_,_,_,_,_,a',_,c',rfl,hb,hN,λad e=>?_,.inr ⟨rfl,x0,x1,x2,x3,x4,x5,x6,x7,R,rfl,g1,of_decide_eq_true g2,hl,rfl,rfl,rfl,rfl,rfl,hA⟩⟩;obtain⟨g,e1,_⟩:=hB ad e;exact⟨g,0,e1⟩
   ·rw[if_neg hl];refine(ξaX b o n cap x0 x1 w (by omega) (hx _ (by simp)) (hx _ (by simp)) c0 c1 hg h.2.2).mono ?_;rintro e w' ⟨rfl,hb⟩;exact⟨0,0,0,0,false,none,0,0,rfl,hb,λ_=>⟨rfl,rfl⟩,λad e=>by simp at e,.inl ⟨by omega,rfl,rfl,rfl,rfl,rfl,Bys.nil _ _,rfl,by omega⟩⟩
  ·rw[if_neg hg];refine(ξ7F b o n cap x0 x1 w (by omega) (hx _ (by simp)) (hx _ (by simp)) c0 c1 (by simpa using hg)).mono ?_;rintro e w' ⟨rfl,hb⟩;exact⟨0,0,0,0,false,none,0,0,rfl,hb,λ_=>⟨rfl,rfl⟩,λad e=>by simp at e,.inl ⟨by omega,rfl,rfl,rfl,rfl,rfl,Bys.nil _ _,rfl,by omega⟩⟩
theorem ξA(x m:Int)(w:World):Calls prog 103 #[.int .i64 x,.int .i64 m] w λe w'=>e=.returned (.bool (decide (0<=x/\x<=m)))/\w'=w:=by
 by_cases h:0<=x
 ·have d:decide (0<=x)=true:=by simpa using h
  go_enter func103,ntmps103;go_wp2_with fail
  go_ret;exact⟨by simp[h],rfl⟩
 ·have d:decide (0<=x)=false:=by simpa using h
  go_enter func103,ntmps103;go_wp2_with fail
  go_ret;exact⟨by simp,rfl⟩
theorem ξa(s t l v:Int)(st:Bool)(a:Option Addr)(n cap:Nat)(w:World) :
 Calls prog 59 #[.agg #[.int .i64 s,.int .i64 t,.int .i64 l,.int .i64 v,.bool st,.slice a n cap]] w λe w'=>e=.returned (A0a (fault s t l v n))/\Below w.heap.size w w':=by
 have C1:=λw=>ξA s 65535 w;have C2:=λw=>ξA t 4294967295 w;have C3:=λw=>ξA l 3 w;have C4:=λw=>ξA v 127 w;have hf:fault s t l v n=if decide (0<=s/\s<=65535)&&decide (0<=t/\t<=4294967295)&&decide (0<=l/\l<=3)&&decide (0<=v/\v<=127)then(if n<=1000 then 0 else 4)else 1:=by
  unfold fault;simp only[Bool.and_eq_true,decide_eq_true_eq,and_assoc]
 generalize decide (0<=s/\s<=65535)=b1 at *;generalize decide (0<=t/\t<=4294967295)=b2 at *;generalize decide (0<=l/\l<=3)=b3 at *;generalize decide (0<=v/\v<=127)=b4 at *;rw[hf];have H1:=ξ0 C1;have H2:=ξ0 C2;have H3:=ξ0 C3;have H4:=ξ0 C4;clear C1 C2 C3 C4 hf;cases b1 with
 | false=>
   go_enter func59,ntmps59;go_wp2_with fail
   refine(H1.out _).mono ?_;rintro e w ⟨rfl,rfl⟩;go_wp2_with fail;go_ret;exact⟨rfl,(Ξp _ _).alloc (Ξo _) _⟩
 | true=>
 cases b2 with
 | false=>
   go_enter func59,ntmps59;go_wp2_with fail
   refine(H1.out _).mono ?_;rintro e w ⟨rfl,rfl⟩;go_wp2_with fail;refine(H2.out _).mono ?_;rintro e w ⟨rfl,rfl⟩;go_wp2_with fail;go_ret;exact⟨rfl,(Ξp _ _).alloc (Ξo _) _⟩
 | true=>
 cases b3 with
 | false=>
   go_enter func59,ntmps59;go_wp2_with fail
   refine(H1.out _).mono ?_;rintro e w ⟨rfl,rfl⟩;go_wp2_with fail;refine(H2.out _).mono ?_;rintro e w ⟨rfl,rfl⟩;go_wp2_with fail;refine(H3.out _).mono ?_;rintro e w ⟨rfl,rfl⟩;go_wp2_with fail;go_ret;exact⟨rfl,(Ξp _ _).alloc (Ξo _) _⟩
 | true=>
 cases b4 with
 | false=>
   go_enter func59,ntmps59;go_wp2_with fail
   refine(H1.out _).mono ?_;rintro e w ⟨rfl,rfl⟩;go_wp2_with fail;refine(H2.out _).mono ?_;rintro e w ⟨rfl,rfl⟩;go_wp2_with fail;refine(H3.out _).mono ?_;rintro e w ⟨rfl,rfl⟩;go_wp2_with fail;refine(H4.out _).mono ?_;rintro e w ⟨rfl,rfl⟩;go_wp2_with fail;go_ret;exact⟨rfl,(Ξp _ _).alloc (Ξo _) _⟩
 | true=>
 by_cases p:n<=1000
 ·go_enter func59,ntmps59;go_wp2_with fail
  refine(H1.out _).mono ?_;rintro e w ⟨rfl,rfl⟩;go_wp2_with fail;refine(H2.out _).mono ?_;rintro e w ⟨rfl,rfl⟩;go_wp2_with fail;refine(H3.out _).mono ?_;rintro e w ⟨rfl,rfl⟩;go_wp2_with fail;refine(H4.out _).mono ?_;rintro e w ⟨rfl,rfl⟩;go_wp2_with fail;go_ret;exact⟨by simp[A0a],(Ξp _ _).alloc (Ξo _) _⟩
 ·go_enter func59,ntmps59;go_wp2_with fail
  refine(H1.out _).mono ?_;rintro e w ⟨rfl,rfl⟩;go_wp2_with fail;refine(H2.out _).mono ?_;rintro e w ⟨rfl,rfl⟩;go_wp2_with fail;refine(H3.out _).mono ?_;rintro e w ⟨rfl,rfl⟩;go_wp2_with fail;refine(H4.out _).mono ?_;rintro e w ⟨rfl,rfl⟩;go_wp2_with fail;go_ret;exact⟨by simp[A0a],(Ξp _ _).alloc (Ξo _) _⟩
theorem ξ1W(s t l v:Nat)(st:Bool)(a:Option Addr)(n cap:Nat)(L:List Nat)(w:World)(h:Arg w a n L)(hn:a=none->n=0/\cap=0)(hs:s<=65535)(ht:t<=4294967295)(hl:l<=3)(hv:v<=127)(hb:n<=1000) :
 Calls prog 24 #[.agg #[.int .i64 (s:Int),.int .i64 (t:Int),.int .i64 (l:Int),.int .i64 (v:Int),.bool st,.slice a n cap]] w λe w'=>∃g,e=.returned (.tuple #[.slice (some ⟨g,0,none⟩) (8+n) (8+n),.nilIface])/\w.heap.size<=g/\Row w' g (head s t l v st++L)/\Below w.heap.size w w':=by
 have C:=λw=>ξa s t l v st a n cap w;have hf:fault s t l v n=0:=by
  unfold fault;rw[if_pos (by omega),if_pos hb]
 rw[hf,ξ4]at C;have HC:=ξ0 C;have HA:=ξ0 h;have HN:=ξ0 hn;obtain⟨i0,ai,aF,aj,aG⟩:=info_parts info5;obtain⟨o1,aC⟩:=ξdL hl;have o2:bits .or .i64 (128+(l:Int)) 32=160+(l:Int):=by
  rw[show(128+(l:Int))=((128+l:Nat):Int)by omega,aC];omega
 clear aC;clear C h hn hf;go_enter func24,ntmps24;go_wp2_with fail
 refine(HC.out _).mono ?_;rintro e w1 ⟨rfl,aw⟩;have HX:=ξ0 ((Box.new w s t l v st (.slice a n cap)).below aw (by simp));have HB:=ξ0 (ξu aw);have aO:w.heap.size<w1.heap.size:=HX.out.lt;clear aw;obtain⟨c0,c1,c2,c3,c4,c5⟩:=HX.out.cells;go_upto_if 16 with fail;go_cut [5]from 17 (λx wx=>x=.int .i64 ((first l st:Nat):Int)/\wx=w1)
 case first=>
  cases st with
  | true=>
    go_wp2_with fail
    go_meet;exact⟨congrArg (Value.int .i64) (by simp[first];omega),rfl⟩
  | false=>
    go_wp2_with fail
    go_meet;exact⟨congrArg (Value.int .i64) (by simp[first]),rfl⟩
 case rest=>
 obtain⟨rfl,rfl⟩:=hcut;have aP:first l st<256:=ξdM st hl
 generalize aH:first l st=f at *
 go_wp2_with (at_make;refine wpList_make_own _ rfl _ _ 36 rfl w.heap.size 5 i0 (.int .u8 0) 1 underlying36 ai aF aj _ _ _ (8+n) rfl rfl ?mC ?mb ?mm ?mbase ?mnext)
 case mC=>simp
 case mb=>rw[aG];omega
 case mm=>unfold maxLen;omega
 case mbase=>exact HB.out.size
 case mnext=>
 intro w2 ah ae;have am:=ξ0 (HB.out.grown ae HB.out.size (by simp));have ax:=ξ0 (HX.out.grown ae (by simp));have HO:=ξ0 ah;have aI:wc.heap.size<=w2.heap.size:=ae.size;clear ah ae HX c0 c1 c2 c3 c4 c5 o1 o2;obtain⟨c0,c1,c2,c3,c4,c5⟩:=ax.out.cells;go_wp2_with (at_builtin;refine wpList_append_fits_any _ rfl _ _ 36 rfl w.heap.size 5 i0 1 underlying36 ai aj wc.heap.size 0 (8+n) [] ?bs ?bo (some ⟨w2.heap.size,0,none⟩) 2 2 (cellsOf [f,v]) rfl rfl ?bn ?bc (cells_one _) ?b1 ?bnext)
 case bs=>simp[Act.eval]
 case bo=>exact HO.out.alloc _
 case bn=>intro h;simp at h
 case bc=>rw[blk2 (a:=f) (b:=v) (by omega) (by omega)];exact ξz ((Row.new w2 [f,v]).bys (by simp;omega))
 case b1=>omega
 case bnext=>
 intro w3 ah ae;have aq:=ξ0 ((am.out.alloc am.out.size _).grown ae (by have:=am.out.size;simp;omega) (by intro k hk;simp at hk;omega));have ay:=ξ0 ((ax.out.alloc _).grown ae (by simp;omega));have aD:Hid (w3.ownsRow w.heap.size 5 1 (.slice (some ⟨wc.heap.size,0,none⟩) 2 (8+n)) 2 (cellsOf [f,v])):=ξ32 (L:=[]) ah rfl rfl;clear ah ae ax am HO c0 c1 c2 c3 c4 c5;obtain⟨c0,c1,c2,c3,c4,c5⟩:=ay.out.cells;go_wp2_with (at_builtin;refine wpList_append_fits_any _ rfl _ _ 36 rfl w.heap.size 5 i0 1 underlying36 ai aj wc.heap.size 2 (8+n) (cellsOf [f,v]) ?bs ?bo (some ⟨w3.heap.size,0,none⟩) 2 2 (cellsOf [s/256,s%256]) rfl rfl ?bn ?bc (cells_one _) ?b1 ?bnext)
 case bs=>simp[Act.eval]
 case bo=>exact aD.out.alloc _
 case bn=>intro h;simp at h
 case bc=>rw[blk2 (a:=s/256) (b:=s%256) (by omega) (by omega)];exact ξz ((Row.new w3 [s/256,s%256]).bys (by simp;omega))
 case b1=>omega
 case bnext=>
 intro w4 ah ae;have au:=ξ0 ((aq.out.alloc aq.out.size _).grown ae (by have:=aq.out.size;simp;omega) (by intro k hk;simp at hk;omega));have az:=ξ0 ((ay.out.alloc _).grown ae (by simp;omega));have aE:Hid (w4.ownsRow w.heap.size 5 1 (.slice (some ⟨wc.heap.size,0,none⟩) 4 (8+n)) 4 (cellsOf [f,v,s/256,s%256])):=ξ32 (L:=[f,v]) ah rfl rfl;clear ah ae ay aq aD c0 c1 c2 c3 c4 c5;obtain⟨c0,c1,c2,c3,c4,c5⟩:=az.out.cells;go_wp2_with (at_builtin;refine wpList_append_fits_any _ rfl _ _ 36 rfl w.heap.size 5 i0 1 underlying36 ai aj wc.heap.size 4 (8+n) (cellsOf [f,v,s/256,s%256]) ?bs ?bo (some ⟨w4.heap.size,0,none⟩) 4 4 (cellsOf [t/16777216,t/65536%256,t/256%256,t%256]) rfl rfl ?bn ?bc (cells_one _) ?b1 ?bnext)
 case bs=>simp[Act.eval]
 case bo=>exact aE.out.alloc _
 case bn=>intro h;simp at h
 case bc=>rw[blk4 (a:=t/16777216) (b:=t/65536%256) (c:=t/256%256) (d:=t%256) (by omega) (by omega) (by omega) (by omega)];exact ξz ((Row.new w4 [t/16777216,t/65536%256,t/256%256,t%256]).bys (by simp;omega))
 case b1=>omega
 case bnext=>
 intro w5 ah ae;have aA:=ξ0 ((au.out.alloc au.out.size _).grown ae (by have:=au.out.size;simp;omega) (by intro k hk;simp at hk;omega));have aJ:=ξ0 ((az.out.alloc _).grown ae (by simp;omega));have aL:Hid (w5.ownsRow w.heap.size 5 1 (.slice (some ⟨wc.heap.size,0,none⟩) 8 (8+n)) 8 (cellsOf (head s t l v st))):=ξ32 (L:=[f,v,s/256,s%256]) ah rfl (by unfold head;rw[aH];rfl);clear ah ae az au aE c0 c1 c2 c3 c4 c5;obtain⟨c0,c1,c2,c3,c4,c5⟩:=aJ.out.cells;go_wp2_with (at_builtin;refine wpList_append_fits_any _ rfl _ _ 36 rfl w.heap.size 5 i0 1 underlying36 ai aj wc.heap.size 8 (8+n) (cellsOf (head s t l v st)) ?bs aL.out a n cap (cellsOf L) rfl ?al HN.out ?bc (cells_one _) (Ξo _) ?bnext)
 case bs=>simp[Act.eval]
 case al=>rw[ξw,HA.out.2.1];omega
 case bc=>exact ξz (HA.out.1.below aA.out)
 case bnext=>
 intro w6 ah ae;have aM:=ξ0 (aA.out.grown ae aA.out.size (by intro k hk;simp at hk;omega));rw[<-ξ1v]at ah;have HR:=ξ0 (ξ5c ah);clear ah ae;go_wp2_with fail;go_ret2;exact⟨_,rfl,by omega,HR.out,aM.out⟩
theorem ξ56{fn:Func}(hf:fn.results=#[.cell i 38])(hi:tmps.getD i undef=.pointer (some ⟨g,0,none⟩))(hb:Box w g s t l v st (.slice a n cap)) :
 (results fn tmps).run prog w=.ok (.agg #[.int .i64 s,.int .i64 t,.int .i64 l,.int .i64 v,.bool st,.slice a n cap]) w:=by
 obtain⟨c0,c1,c2,c3,c4,c5⟩:=hb.cells;have ae:tmps[i]?.getD undef=.pointer (some ⟨g,0,none⟩):=by simpa using hi
 simp[results,hf,ae,go_sem,c0,c1,c2,c3,c4,c5]
end Go.Proofs.YtpiamlgmadnepaaGreat.Pack
