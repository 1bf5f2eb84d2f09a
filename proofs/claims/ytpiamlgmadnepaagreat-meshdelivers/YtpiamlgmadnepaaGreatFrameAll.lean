/-
 What the proof needs.
-/
import Derived.Test.YtpiamlgmadnepaaGreatPackAll
import Derived.Test.YtpiamlgmadnepaaGreatFMP
import Derived.Test.YtpiamlgmadnepaaGreatCrcSP
open Go.Proofs.Tryz
set_option linter.unusedVariables false
set_option maxHeartbeats 2000000
set_option maxRecDepth 100000
namespace Go.Proofs.YtpiamlgmadnepaaGreat.Frame
open ChangeShapes WideShapes ChangeAt RowKit PM Mem Pack FM
variable {w w':World}{g:Nat}{tr og ep hp:Int}{bv:Value}
def A08(w:World)(g:Nat)(tr og ep hp:Int)(bv:Value):Prop:=w.heap[g]?=some (.cells #[.int .i64 tr,.int .i64 og,.int .i64 ep,.int .i64 hp,bv] 238 (0,0))
theorem A08.new(w:World)(tr og ep hp:Int)(bv:Value):A08 (w.alloc (.cells #[.int .i64 tr,.int .i64 og,.int .i64 ep,.int .i64 hp,bv] 238)) w.heap.size tr og ep hp bv:=heap_alloc_new w _
theorem A08.below{B:Nat}(h:A08 w g tr og ep hp bv)(hb:Below B w w')(hg:g<B):A08 w' g tr og ep hp bv:=(hb.block g hg).trans h
theorem A08.lt(h:A08 w g tr og ep hp bv):g<w.heap.size:=lt_of_block h
theorem A08.grown{row:Option Nat}(h:A08 w g tr og ep hp bv)(hg:w.grownBy w' row)(hr:row≠some g):A08 w' g tr og ep hp bv:=
 (hg.block g h.lt (λe=>hr e.symm)).trans h
theorem A08.alloc(h:A08 w g tr og ep hp bv)(o:Obj):A08 (w.alloc o) g tr og ep hp bv:=(Below.heap_alloc _ _ _ h.lt).trans h
theorem A08.cells(h:A08 w g tr og ep hp bv) :
 w.cell? ⟨g,0,none⟩=some (.int .i64 tr)/\w.cell? ⟨g,1,none⟩=some (.int .i64 og)/\w.cell? ⟨g,2,none⟩=some (.int .i64 ep)/\w.cell? ⟨g,3,none⟩=some (.int .i64 hp)/\w.cell? ⟨g,4,none⟩=some bv:=by
 simp only[A08]at h;simp[World.cell?,h]
theorem ξ1x(x l m:Int)(w:World):Calls prog 199 #[.int .i64 x,.int .i64 l,.int .i64 m] w λe w'=>e=.returned (.bool (decide (l<=x/\x<=m)))/\w'=w:=by
 by_cases h:l<=x
 ·have d:decide (l<=x)=true:=by simpa using h
  go_enter func199,ntmps199;go_wp2_with fail
  go_ret;exact⟨by simp[h],rfl⟩
 ·have d:decide (l<=x)=false:=by simpa using h
  go_enter func199,ntmps199;go_wp2_with fail
  go_ret;exact⟨by simp,rfl⟩
theorem ξ2i(tr og ep hp:Int)(a:Option Addr)(n cap:Nat)(B:List Nat)(w:World)(h:Arg w a n B)(hc:n<=cap) :
 Calls prog 181 #[.agg #[.int .i64 tr,.int .i64 og,.int .i64 ep,.int .i64 hp,.slice a n cap]] w λe w'=>e=.returned (A0a (A0k tr og ep hp B))/\Below w.heap.size w w':=by
 have C1:=λw=>ξ1x tr 1 8 w;have C2:=λw=>ξ1x og 0 15 w;have C3:=λw=>ξ1x ep 0 65535 w;have C4:=λw=>ξ1x hp 0 64 w;have hf:A0k tr og ep hp B=if decide (1<=tr/\tr<=8)&&decide (0<=og/\og<=15)&&decide (0<=ep/\ep<=65535)&&decide (0<=hp/\hp<=64)then A0y B else 1:=by
  unfold A0k nums;simp only[Bool.and_eq_true,decide_eq_true_eq,and_assoc]
 have C5:∀W,Below w.heap.size w W->Calls prog 25 #[.slice a n cap] W _:=λW hW=>ξcN a n cap B W (h.below hW) hc;generalize decide (1<=tr/\tr<=8)=b1 at *;generalize decide (0<=og/\og<=15)=b2 at *;generalize decide (0<=ep/\ep<=65535)=b3 at *;generalize decide (0<=hp/\hp<=64)=b4 at *;rw[hf];have H1:=ξ0 C1;have H2:=ξ0 C2;have H3:=ξ0 C3;have H4:=ξ0 C4;have H5:=ξ0 C5;clear C1 C2 C3 C4 C5 hf h;cases b1 with
 | false=>
   go_enter func181,ntmps181;go_wp2_with fail
   refine(H1.out _).mono ?_;rintro e w ⟨rfl,rfl⟩;go_wp2_with fail;go_ret;exact⟨rfl,(Ξp _ _).alloc (Ξo _) _⟩
 | true=>
 cases b2 with
 | false=>
   go_enter func181,ntmps181;go_wp2_with fail
   refine(H1.out _).mono ?_;rintro e w ⟨rfl,rfl⟩;go_wp2_with fail;refine(H2.out _).mono ?_;rintro e w ⟨rfl,rfl⟩;go_wp2_with fail;go_ret;exact⟨rfl,(Ξp _ _).alloc (Ξo _) _⟩
 | true=>
 cases b3 with
 | false=>
   go_enter func181,ntmps181;go_wp2_with fail
   refine(H1.out _).mono ?_;rintro e w ⟨rfl,rfl⟩;go_wp2_with fail;refine(H2.out _).mono ?_;rintro e w ⟨rfl,rfl⟩;go_wp2_with fail;refine(H3.out _).mono ?_;rintro e w ⟨rfl,rfl⟩;go_wp2_with fail;go_ret;exact⟨rfl,(Ξp _ _).alloc (Ξo _) _⟩
 | true=>
 cases b4 with
 | false=>
   go_enter func181,ntmps181;go_wp2_with fail
   refine(H1.out _).mono ?_;rintro e w ⟨rfl,rfl⟩;go_wp2_with fail;refine(H2.out _).mono ?_;rintro e w ⟨rfl,rfl⟩;go_wp2_with fail;refine(H3.out _).mono ?_;rintro e w ⟨rfl,rfl⟩;go_wp2_with fail;refine(H4.out _).mono ?_;rintro e w ⟨rfl,rfl⟩;go_wp2_with fail;go_ret;exact⟨rfl,(Ξp _ _).alloc (Ξo _) _⟩
 | true=>
   generalize A0y B=f at *;go_enter func181,ntmps181;go_wp2_with fail
   refine(H1.out _).mono ?_;rintro e w ⟨rfl,rfl⟩;go_wp2_with fail;refine(H2.out _).mono ?_;rintro e w ⟨rfl,rfl⟩;go_wp2_with fail;refine(H3.out _).mono ?_;rintro e w ⟨rfl,rfl⟩;go_wp2_with fail;refine(H4.out _).mono ?_;rintro e w ⟨rfl,rfl⟩;go_wp2_with fail;refine(H5.out _ ((Ξp _ _).alloc (Ξo _) _)).mono ?_;rintro e w2 ⟨_,_,_,_,_,_,_,_,rfl,hb,_⟩;have HB:=ξ0 (ξu hb);clear hb;go_wp2_with fail;go_ret;exact⟨by simp,HB.out.alloc HB.out.size _⟩
theorem ξ7W(tr og ep hp:Int)(a:Option Addr)(n cap:Nat)(B:List Nat)(w:World)(h:Arg w a n B)(hc:n<=cap)(hf:A0k tr og ep hp B≠0) :
 Calls prog 195 #[.agg #[.int .i64 tr,.int .i64 og,.int .i64 ep,.int .i64 hp,.slice a n cap]] w λe w'=>e=.returned (.tuple #[.slice none 0 0,A0a (A0k tr og ep hp B)])/\Below w.heap.size w w':=by
 have C:=λw h=>ξ2i tr og ep hp a n cap B w h hc;generalize A0k tr og ep hp B=f at *;rw[ξb hf]at C ⊢;have HC:=ξ0 C;have HA:=ξ0 h;clear C h;go_enter func195,ntmps195;go_wp2_with fail
 refine(HC.out _ (HA.out.below ((Ξp _ _).alloc (Ξo _) _))).mono ?_;rintro e w1 ⟨rfl,hb⟩;have HB:=ξ0 (ξu hb);clear hb;go_wp2_with fail;go_ret2;exact⟨rfl,HB.out⟩
theorem blk6{x y z u v:Int}{a b c d e:Nat}(hx:x=(a:Int))(hy:y=(b:Int))(hz:z=(c:Int))(hu:u=(d:Int))(hv:v=(e:Int)) :
 (#[Value.int .u8 70,.int .u8 x,.int .u8 y,.int .u8 z,.int .u8 u,.int .u8 v]:Array Value)=(cellsOf [70,a,b,c,d,e]).toArray:=by rw[hx,hy,hz,hu,hv];rfl
theorem ξ7n(t o e p:Nat)(a:Option Addr)(n cap:Nat)(B:List Nat)(w:World)(h:Arg w a n B)(hn:a=none->n=0/\cap=0)(hc:n<=cap)(h1:1<=t)(h2:t<=8)(h3:o<=15)(h4:e<=65535)(h5:p<=64)(h6:A0y B=0) :
 Calls prog 195 #[.agg #[.int .i64 (t:Int),.int .i64 (o:Int),.int .i64 (e:Int),.int .i64 (p:Int),.slice a n cap]] w λev w'=>∃g,ev=.returned (.tuple #[.slice (some ⟨g,0,none⟩) (10+n) (10+n),.nilIface])/\w.heap.size<=g/\Row w' g (A3m t o e p B)/\Below w.heap.size w w':=by
 have C:=λw h=>ξ2i t o e p a n cap B w h hc;rw[ξ41 h1 h2 h3 h4 h5,h6,ξ4]at C;have hb:=(ξ2X h6).2;rw[h.2.1]at hb;have HC:=ξ0 C;have HA:=ξ0 h;have HN:=ξ0 hn;have HL:=ξ0 (ξ4f h2 h3 h4 h5 h.1.1);obtain⟨i0,aj,aA,am,aC⟩:=info_parts info5;clear C h hn h6;go_enter func195,ntmps195;go_wp2_with fail
 refine(HC.out _ (HA.out.below ((Ξp _ _).alloc (Ξo _) _))).mono ?_;rintro ev w1 ⟨rfl,aq⟩;have HX:=ξ0 ((A08.new w t o e p (.slice a n cap)).below aq (by simp));have HB:=ξ0 (ξu aq);have aI:w.heap.size<w1.heap.size:=HX.out.lt;clear aq;obtain⟨c0,c1,c2,c3,c4⟩:=HX.out.cells;go_wp2_with (at_make;refine wpList_make_own _ rfl _ _ 36 rfl w.heap.size 5 i0 (.int .u8 0) 1 underlying36 aj aA am _ _ _ (6+n) rfl rfl ?mC ?mb ?mm ?mbase ?mnext)
 case mC=>simp
 case mb=>rw[aC];omega
 case mm=>unfold maxLen;omega
 case mbase=>exact HB.out.size
 case mnext=>
 intro w2 ah ae;have ai:=ξ0 (HB.out.grown ae HB.out.size (by simp));have au:=ξ0 (HX.out.grown ae (by simp));have HO:=ξ0 ah;have aD:w1.heap.size<=w2.heap.size:=ae.size;clear ah ae HX c0 c1 c2 c3 c4;obtain⟨c0,c1,c2,c3,c4⟩:=au.out.cells;go_wp2_with (at_builtin;refine wpList_append_fits_any _ rfl _ _ 36 rfl w.heap.size 5 i0 1 underlying36 aj am w1.heap.size 0 (6+n) [] ?bs ?bo (some ⟨w2.heap.size,0,none⟩) 6 6 (cellsOf (A3w t o e p)) rfl rfl ?bn ?bc (cells_one _) ?b1 ?bnext)
 case bs=>simp[Act.eval]
 case bo=>exact HO.out.alloc _
 case bn=>intro h;simp at h
 case bc=>rw[blk6 (a:=t) (b:=o) (c:=p) (d:=e/256) (e:=e%256) (by omega) (by omega) (by omega) (by omega) (by omega)];exact ξz ((Row.new w2 (A3w t o e p)).bys (ξ7m h2 h3 h4 h5))
 case b1=>omega
 case bnext=>
 intro w3 ah ae;have aw:=ξ0 ((ai.out.alloc ai.out.size _).grown ae (by have:=ai.out.size;simp;omega) (by intro k hk;simp at hk;omega));have aE:=ξ0 ((au.out.alloc _).grown ae (by simp;omega));have aF:Hid (w3.ownsRow w.heap.size 5 1 (.slice (some ⟨w1.heap.size,0,none⟩) 6 (6+n)) 6 (cellsOf (A3w t o e p))):=ξ32 (L:=[]) ah rfl rfl;clear ah ae au ai HO c0 c1 c2 c3 c4;obtain⟨c0,c1,c2,c3,c4⟩:=aE.out.cells;go_wp2_with (at_builtin;refine wpList_append_fits_any _ rfl _ _ 36 rfl w.heap.size 5 i0 1 underlying36 aj am w1.heap.size 6 (6+n) (cellsOf (A3w t o e p)) ?bs aF.out a n cap (cellsOf B) rfl ?al HN.out ?bc (cells_one _) (Ξo _) ?bnext)
 case bs=>simp[Act.eval]
 case al=>rw[ξw,HA.out.2.1];omega
 case bc=>exact ξz (HA.out.1.below aw.out)
 case bnext=>
 intro w4 ah ae;have ax:=ξ0 (aw.out.grown ae aw.out.size (by intro k hk;simp at hk;omega));rw[<-ξ1v]at ah;have HR:=ξ0 (ξ5c ah);clear ah ae;have HS:=ξ0 (Crc.ξ9e (some ⟨w1.heap.size,0,none⟩) (6+n) (6+n) (A3w t o e p++B) w4 ⟨HR.out.bys HL.out,by simp[A3w,HA.out.2.1];omega,by omega⟩ (by simp) (by omega));go_wp2_with fail
 refine HS.out.mono ?_;rintro ev w5 ⟨rfl,ay,az⟩;have aG:=ξ0 ay;have aH:=ξ0 (ax.out.trans (az.mono ax.out.size));clear ay az;go_wp2_with fail;go_ret2;exact⟨w4.heap.size,by rw[show 6+n+4=10+n by omega];rfl,ax.out.size,aG.out,aH.out⟩
end Go.Proofs.YtpiamlgmadnepaaGreat.Frame
namespace Go.Proofs.YtpiamlgmadnepaaGreat.Crc
open ChangeShapes WideShapes ChangeAt RowKit CM Mem
theorem ξ9B(a:Option Addr)(len cap:Nat)(w:World)(h:len<4) :
 Calls prog 180 #[.slice a len cap] w λe w'=>e=.returned (.tuple #[.slice none 0 0,.iface 101 (.int .i64 8)])/\w'=w:=by
 go_enter func180,ntmps180;go_wp2_with fail
 go_ret2;exact⟨rfl,rfl⟩
theorem ξ4r{w:World}{b o m:Nat}{B:List Nat}{t0 t1 t2 t3:Nat}(h:Bys w (some ⟨b,o,none⟩) (B++[t0,t1,t2,t3]))(hm:B.length=m) :
 w.cell? ⟨b,o+m,none⟩=some (.int .u8 (t0:Int))/\w.cell? ⟨b,o+m+1,none⟩=some (.int .u8 (t1:Int))/\w.cell? ⟨b,o+m+2,none⟩=some (.int .u8 (t2:Int))/\w.cell? ⟨b,o+m+3,none⟩=some (.int .u8 (t3:Int)):=by
 have hd:=h.drop m;rw[<-hm,List.drop_left]at hd;rw[hm]at hd;have f:∀j (hj:j<4),w.cell? ⟨b,o+m+j,none⟩=some (.int .u8 ([t0,t1,t2,t3].getD j 0:Nat)):=by
  intro j hj;obtain⟨b',o',e,hc⟩:=hd.2 j hj;simp only[Option.some.injEq,Addr.mk.injEq,and_true]at e;obtain⟨rfl,rfl⟩:=e;exact hc
 exact⟨f 0 (by decide),f 1 (by decide),f 2 (by decide),f 3 (by decide)⟩
theorem ξ8f(t0 t1 t2 t3:Nat)(h0:t0<256)(h1:t1<256)(h2:t2<256)(h3:t3<256) :
 bits .or .u32 (bits .or .u32 (bits .or .u32 ((t0:Int)%4294967296*16777216%4294967296) ((t1:Int)%4294967296*65536%4294967296)) ((t2:Int)%4294967296*256%4294967296)) ((t3:Int)%4294967296)=((num 0 [t0,t1,t2,t3]:Nat):Int):=by
 rw[show(t0:Int)%4294967296*16777216%4294967296=((t0*16777216:Nat):Int)by omega,show(t1:Int)%4294967296*65536%4294967296=((t1*65536:Nat):Int)by omega,
  show(t2:Int)%4294967296*256%4294967296=((t2*256:Nat):Int)by omega,show(t3:Int)%4294967296=((t3:Nat):Int)by omega]
 have l1:t0*16777216|||t1*65536<4294967296:=Nat.or_lt_two_pow (n:=32) (by omega) (by omega);have l2:t0*16777216|||t1*65536|||t2*256<4294967296:=Nat.or_lt_two_pow (n:=32) l1 (by omega);rw[u32_or_nat _ _ (by omega) (by omega),u32_or_nat _ _ l1 (by omega),u32_or_nat _ _ l2 (by omega),or4 t0 t1 t2 t3 h1 h2 h3];simp[num]
theorem ξd2(b o cap m:Nat)(B:List Nat)(t0 t1 t2 t3:Nat)(w:World)(hm:B.length=m)(h:Arg w (some ⟨b,o,none⟩) (m+4) (B++[t0,t1,t2,t3]))(hc:m+4<=cap)(hne:num 0 [t0,t1,t2,t3]≠go 0 B) :
 Calls prog 180 #[.slice (some ⟨b,o,none⟩) (m+4) cap] w λe w'=>e=.returned (.tuple #[.slice none 0 0,.iface 101 (.int .i64 9)])/\∃k,w'=w.drewN k:=by
 have HA:=ξ0 h;have hl:=h.2.2;obtain⟨c0,c1,c2,c3⟩:=ξ4r h.1 hm;have s0:=ξ7t (some ⟨b,o,none⟩) (m+4) cap m (by omega);have s1:=ξ3O b o (m+4) cap m (by omega) (by omega);rw[show m+4-m=4 by omega]at s1;have HE:=ξ0 (ξ8f t0 t1 t2 t3 (h.1.1 t0 (by simp)) (h.1.1 t1 (by simp)) (h.1.1 t2 (by simp)) (h.1.1 t3 (by simp)));have HB:Hid (Bys w (some ⟨b,o,none⟩) B):=by
  have:=h.1.take m;rw[<-hm,List.take_left]at this;exact this
 have CG:=λw h=>ξ3c 0 (some ⟨b,o,none⟩) m cap B w (by decide) hm (by omega) h;generalize go 0 B=g at *;have HG:=ξ0 CG;generalize num 0 [t0,t1,t2,t3]=q at *;have d0:((q:Int)==(g:Int))=false:=by simp;omega
 clear h hne CG hm;go_enter func180,ntmps180;go_wp2_with fail
 go_quiet (fail)
 go_wp2_with fail
 go_quiet (fail)
 rw[HE.out];go_wp2_with fail;refine(HG.out _ (by exact HB.out)).mono ?_;rintro e w1 ⟨rfl,rfl⟩;go_wp2_with fail;go_ret2;exact⟨rfl,_,rfl⟩
theorem ξbh(b o cap m:Nat)(B:List Nat)(t0 t1 t2 t3:Nat)(w:World)(hm:B.length=m)(h:Arg w (some ⟨b,o,none⟩) (m+4) (B++[t0,t1,t2,t3]))(hc:m+4<=cap)(he:num 0 [t0,t1,t2,t3]=go 0 B)(hr:m<=140737488355328) :
 Calls prog 180 #[.slice (some ⟨b,o,none⟩) (m+4) cap] w λe w'=>∃v,e=.returned (.tuple #[v,.nilIface])/\w'.ownsRow w.heap.size 5 1 v m (cellsOf B)/\Below w.heap.size w w':=by
 have HA:=ξ0 h;have hl:=h.2.2;obtain⟨c0,c1,c2,c3⟩:=ξ4r h.1 hm;have s0:=ξ7t (some ⟨b,o,none⟩) (m+4) cap m (by omega);have s1:=ξ3O b o (m+4) cap m (by omega) (by omega);rw[show m+4-m=4 by omega]at s1;have HE:=ξ0 (ξ8f t0 t1 t2 t3 (h.1.1 t0 (by simp)) (h.1.1 t1 (by simp)) (h.1.1 t2 (by simp)) (h.1.1 t3 (by simp)));have HB:Hid (Bys w (some ⟨b,o,none⟩) B):=by
  have:=h.1.take m;rw[<-hm,List.take_left]at this;exact this
 have CG:=λw h=>ξ3c 0 (some ⟨b,o,none⟩) m cap B w (by decide) hm (by omega) h;generalize go 0 B=g at *;have HG:=ξ0 CG;generalize num 0 [t0,t1,t2,t3]=q at *;have d0:((q:Int)==(g:Int))=true:=by simp;omega
 have HM:=ξ0 hm;obtain⟨i0,ai,aj,am,aq⟩:=info_parts info5;clear h he CG hm;go_enter func180,ntmps180;go_wp2_with fail
 go_quiet (fail)
 go_wp2_with fail
 go_quiet (fail)
 rw[HE.out];go_wp2_with fail;refine(HG.out _ (by exact HB.out)).mono ?_;rintro e w1 ⟨rfl,rfl⟩;go_wp2_with (at_builtin;refine wpList_append_own _ rfl _ _ 36 rfl w.heap.size 5 i0 (.int .u8 0) 1 1 underlying36 ai aj am aq rfl (by decide) _ 0 [] rfl (Ξr _ _ _ _) ⟨b,o,none⟩ m cap (cellsOf B) rfl ?al ?ac (cells_one B) ?b1 ?b2 ?b3 ?next)
 case al=>rw[ξw,HM.out];omega
 case ac=>exact ξz (by exact HB.out) _ rfl
 case b1=>unfold maxLen;omega
 case b2=>omega
 case b3=>exact Ξo _
 case next=>
  intro v' w2 ah ae _;have HO:=ξ0 ah;have HW:Hid (Below w.heap.size w w2):=(below_drewN (Ξp _ _) _).grown ae (Ξo _) (by simp[Value.ownBlock]);clear ah ae;go_wp2_with fail;go_ret2;exact⟨v',rfl,HO.out,HW.out⟩
end Go.Proofs.YtpiamlgmadnepaaGreat.Crc
namespace Go.Proofs.YtpiamlgmadnepaaGreat.Frame
open ChangeShapes WideShapes ChangeAt RowKit PM CM Mem Pack FM
variable {w wx wy:World}{g n cap:Nat}{t o e p:Int}{a:Option Addr}{bv:Value}{B L:List Nat}
theorem ξ33(a:Option Addr)(n cap:Nat)(B:List Nat)(w:World)(h:Arg w a n B)(hc:n<=cap)(hr:n<=140737488355328) :
 Calls prog 180 #[.slice a n cap] w λe w'=>∃a' m c',e=.returned (.tuple #[.slice a' m c',A0a (A1i B)])/\Below w.heap.size w w'/\(A1i B=0->Arg w' a' m (opened B)/\m<=c'/\(∀ad,a'=some ad->w.heap.size<=ad.block)):=by
 have hl:=h.2.1;by_cases h4:n<4
 ·have ho:A1i B=8:=by unfold A1i;rw[if_pos (by omega)]
  refine(Crc.ξ9B a n cap w h4).mono ?_;rintro e w' ⟨rfl,rfl⟩;exact⟨none,0,0,by rw[ho];rfl,Ξp _ _,λh=>by omega⟩
 ·obtain⟨X,t0,t1,t2,t3,rfl,_⟩:=split4 (B:=B) (by omega);obtain⟨e1,e2⟩:=ξ6X X t0 t1 t2 t3;obtain⟨b,o,rfl⟩:=ξ1q h (by omega);obtain⟨m,rfl⟩:∃m,n=m+4:=⟨n-4,by omega⟩;have hm:X.length=m:=by simp at hl;omega
  rw[e1,e2];by_cases q:num 0 [t0,t1,t2,t3]=go 0 X
  ·rw[if_pos q];refine(Crc.ξbh b o cap m X t0 t1 t2 t3 w hm h hc q (by omega)).mono ?_;rintro e w' ⟨v,rfl,ho,hb⟩;obtain⟨a',c',rfl,hA,hN,hC,hP⟩:=ξy ho (λc hc=>h.1.1 c (by simp[hc])) (by omega);exact⟨a',m,c',rfl,hb,λ_=>⟨hA,hC,λad e=>by obtain⟨g,rfl,hg⟩:=hP ad e;exact hg⟩⟩
  ·rw[if_neg q];refine(Crc.ξd2 b o cap m X t0 t1 t2 t3 w hm h hc q).mono ?_;rintro e w' ⟨rfl,k,rfl⟩;exact⟨none,0,0,rfl,below_drewN (Ξp _ _) _,λh=>by omega⟩
theorem ξ3o{fn:Func}{tmps:Array Value}{i j:Nat}(hf:fn.results=#[.cell i 238,.tmp j])(hi:tmps.getD i undef=.pointer (some ⟨g,0,none⟩))(hb:A08 w g t o e p (.slice a n cap)) :
 (results fn tmps).run prog w=.ok (.tuple #[.agg #[.int .i64 t,.int .i64 o,.int .i64 e,.int .i64 p,.slice a n cap],tmps.getD j undef]) w:=by
 obtain⟨c0,c1,c2,c3,c4⟩:=hb.cells;have ae:tmps[i]?.getD undef=.pointer (some ⟨g,0,none⟩):=by simpa using hi
 simp[results,hf,ae,go_sem,c0,c1,c2,c3,c4]
theorem A08.A6r(h:A08 w g t o e p bv)(t' o' e' p':Int)(bv':Value) :
 A08 (((((w.setCell ⟨g,0,none⟩ (.int .i64 t')).setCell ⟨g,1,none⟩ (.int .i64 o')).setCell ⟨g,2,none⟩ (.int .i64 e')).setCell ⟨g,3,none⟩ (.int .i64 p')).setCell ⟨g,4,none⟩ bv') g t' o' e' p' bv':=by
 have h0:=heap_setCell_same _ _ 0 _ _ (.int .i64 t') h;have h1:=heap_setCell_same _ _ 1 _ _ (.int .i64 o') h0;have h2:=heap_setCell_same _ _ 2 _ _ (.int .i64 e') h1;have h3:=heap_setCell_same _ _ 3 _ _ (.int .i64 p') h2;exact heap_setCell_same _ _ 4 _ _ bv' h3
theorem A08.free(h:A08 w g t o e p bv)(k:Nat):w.frozen? ⟨g,k,none⟩=false:=by
 simp only[A08]at h;simp[World.frozen?,h]
def Res(w wx:World):Prop:=Below w.heap.size w wx/\A08 wx w.heap.size 0 0 0 0 (.slice none 0 0)
theorem Res.new(w:World):Res w (w.alloc (.cells #[.int .i64 0,.int .i64 0,.int .i64 0,.int .i64 0,.slice none 0 0] 238)):=⟨(Ξp _ _).alloc (Ξo _) _,A08.new w _ _ _ _ _⟩
theorem Res.next(h:Res w wx)(hb:Below wx.heap.size wx wy):Res w wy:=⟨h.1.trans (hb.mono h.1.size),h.2.below hb h.2.lt⟩
theorem Res.A5n(h:Res w wx)(v0 v1 v2 v3 v4:Value):Below w.heap.size w (((((wx.setCell ⟨w.heap.size,0,none⟩ v0).setCell ⟨w.heap.size,1,none⟩ v1).setCell ⟨w.heap.size,2,none⟩ v2).setCell ⟨w.heap.size,3,none⟩ v3).setCell ⟨w.heap.size,4,none⟩ v4):=
 ((((h.1.setCell (Ξo _) _).setCell (Ξo _) _).setCell (Ξo _) _).setCell (Ξo _) _).setCell (Ξo _) _
theorem ξa3(a:Option Addr)(n cap:Nat)(B:List Nat)(w:World)(h:Arg w a n B)(hc:n<=cap)(hr:n<=140737488355328)(hf:A1i B≠0) :
 Calls prog 148 #[.slice a n cap] w λe w'=>e=.returned (.tuple #[.agg #[.int .i64 0,.int .i64 0,.int .i64 0,.int .i64 0,.slice none 0 0],A0a (A1i B)])/\Below w.heap.size w w':=by
 have HO:=ξ0 (λW h=>ξ33 a n cap B W h hc hr);have HA:=ξ0 h;generalize A1i B=f at *;simp only[ξb hf]at HO ⊢;clear h;go_enter func148,ntmps148;go_wp2_with fail
 refine(HO.out _ (HA.out.below (Res.new w).1)).mono ?_;rintro e w1 ⟨a1,m1,c1,rfl,ae,_⟩;have HX:=ξ0 ((Res.new w).next ae);clear ae;obtain⟨x0,x1,x2,x3,x4⟩:=HX.out.2.cells;have f0:=HX.out.2.free;go_wp2_with fail
 refine bodyPost_ret (ξ3o (g:=w.heap.size) rfl rfl (HX.out.2.A6r 0 0 0 0 (.slice none 0 0))) rfl ?_;exact⟨rfl,HX.out.A5n _ _ _ _ _⟩
theorem ξ5F(h:∀c∈B,c<256):∀c∈opened B,c<256:=λc hc=>h c (List.mem_of_mem_take hc)
theorem ξ7T(a:Option Addr)(n cap:Nat)(B:List Nat)(w:World)(h:Arg w a n B)(hc:n<=cap)(hr:n<=140737488355328)(hf:A1i B=0)(hs:(opened B).length<6) :
 Calls prog 148 #[.slice a n cap] w λe w'=>e=.returned (.tuple #[.agg #[.int .i64 0,.int .i64 0,.int .i64 0,.int .i64 0,.slice none 0 0],.iface 101 (.int .i64 8)])/\Below w.heap.size w w':=by
 have HO:=ξ0 (λW h=>ξ33 a n cap B W h hc hr);have HA:=ξ0 h;generalize A1i B=f at *;subst hf;simp only[ξ4]at HO;clear h;go_enter func148,ntmps148;go_wp2_with fail
 refine(HO.out _ (HA.out.below (Res.new w).1)).mono ?_;rintro e w1 ⟨a1,m1,c1,rfl,ae,hx⟩;obtain⟨ah,_,_⟩:=hx (by trivial);have hm:m1<6:=by have:=ah.2.1;omega
 have HX:=ξ0 ((Res.new w).next ae);clear ae hx ah;obtain⟨x0,x1,x2,x3,x4⟩:=HX.out.2.cells;have f0:=HX.out.2.free;go_wp2_with fail
 refine bodyPost_ret (ξ3o (g:=w.heap.size) rfl rfl (HX.out.2.A6r 0 0 0 0 (.slice none 0 0))) rfl ?_;exact⟨rfl,HX.out.A5n _ _ _ _ _⟩
theorem ξ7i(a:Option Addr)(n cap:Nat)(B:List Nat)(w:World)(h:Arg w a n B)(hc:n<=cap)(hr:n<=140737488355328)(hf:A1i B=0)(y0:Nat)(R:List Nat)(hX:opened B=y0::R)(hs:5<=R.length)(h7:y0≠70) :
 Calls prog 148 #[.slice a n cap] w λe w'=>e=.returned (.tuple #[.agg #[.int .i64 0,.int .i64 0,.int .i64 0,.int .i64 0,.slice none 0 0],.iface 101 (.int .i64 2)])/\Below w.heap.size w w':=by
 have HO:=ξ0 (λW h=>ξ33 a n cap B W h hc hr);have ai:y0<256:=ξ5F h.1.1 y0 (by rw[hX];simp);have HA:=ξ0 h;generalize A1i B=f at *;subst hf;simp only[ξ4,hX]at HO;have d7:((y0:Int)==70)=false:=by rw[beq_eq_false_iff_ne];omega
 clear h hX h7;go_enter func148,ntmps148;go_wp2_with fail
 refine(HO.out _ (HA.out.below (Res.new w).1)).mono ?_;rintro e w1 ⟨a1,m1,c1,rfl,ah,hx⟩;obtain⟨ae,_,_⟩:=hx (by trivial);have hm:R.length+1=m1:=by have:=ae.2.1;simpa using this
 obtain⟨b,o,rfl⟩:=ξ1q ae (by omega);have c0:w1.cell? ⟨b,o,none⟩=some (.int .u8 (y0:Int)):=ξf ae 0 (by omega);have HX:=ξ0 ((Res.new w).next ah);have n0:(0:Int)<(m1:Int):=by omega
 have n6:decide ((m1:Int)<6)=false:=by simp;omega
 clear ah hx ae hm;obtain⟨x0,x1,x2,x3,x4⟩:=HX.out.2.cells;have f0:=HX.out.2.free;go_wp2_with fail
 refine bodyPost_ret (ξ3o (g:=w.heap.size) rfl rfl (HX.out.2.A6r 0 0 0 0 (.slice none 0 0))) rfl ?_;exact⟨rfl,HX.out.A5n _ _ _ _ _⟩
theorem ξgA(x4 x5:Nat)(h4:x4<256)(h5:x5<256):bits .or .i64 ((x4:Int)*256) (x5:Int)=((x4*256+x5:Nat):Int):=by
 rw[show(x4:Int)*256=((x4*256:Nat):Int)by omega,ξ1s _ _ (by omega) (by omega),nat_join 8 (x4*256) x5 (by omega) (by omega)]
def Two(w wx:World)(g:Nat)(t o e p:Int)(bv:Value):Prop:=Res w wx/\A08 wx g t o e p bv/\w.heap.size<g
theorem Two.next(h:Two w wx g t o e p bv)(hb:Below wx.heap.size wx wy):Two w wy g t o e p bv:=⟨h.1.next hb,h.2.1.below hb h.2.1.lt,h.2.2⟩
theorem Two.drew(h:Two w wx g t o e p bv):Two w wx.drew g t o e p bv:=h.next (Ξp _ _).drew
theorem Res.two(h:Res w wx)(t o e p:Int)(bv:Value):Two w (wx.alloc (.cells #[.int .i64 t,.int .i64 o,.int .i64 e,.int .i64 p,bv] 238)) wx.heap.size t o e p bv:=
 ⟨h.next ((Ξp _ _).alloc (Ξo _) _),A08.new _ _ _ _ _ _,h.2.lt⟩
theorem Arg.set(h:Arg w a n L){p:Addr}(hp:∀ad,a=some ad->ad.block≠p.block)(v:Value):Arg (w.setCell p v) a n L:=by
 refine⟨⟨h.1.1,λj hj=>?_⟩,h.2⟩;obtain⟨b,o,e,hc⟩:=h.1.2 j hj;exact⟨b,o,e,(World.cell?_of_block (Below.heap_setCell w p v b (hp _ e))).trans hc⟩
theorem Arg.A6r(h:Arg w a n L)(hp:∀ad,a=some ad->ad.block≠g)(v0 v1 v2 v3 v4:Value) :
 Arg (((((w.setCell ⟨g,0,none⟩ v0).setCell ⟨g,1,none⟩ v1).setCell ⟨g,2,none⟩ v2).setCell ⟨g,3,none⟩ v3).setCell ⟨g,4,none⟩ v4) a n L:=
 Arg.set (Arg.set (Arg.set (Arg.set (Arg.set h hp v0) hp v1) hp v2) hp v3) hp v4
theorem ξ7Z{b o l:Nat}:∀ad,cutAt (some ⟨b,o,none⟩) cap l=some ad->ad.block=b:=by
 intro ad h;unfold cutAt at h;split at h
 ·rw[<-Option.some.inj h]
 ·rw[Option.map_some]at h;rw[<-Option.some.inj h];unfold Addr.add;split<;>simp_all
def RPost(w w':World)(q:Nat)(t o e p:Int)(R:List Nat)(ev:Ending):Prop:=
 ∃a' m c',Below w.heap.size w w'/\((q≠0/\ev=.returned (.tuple #[.agg #[.int .i64 0,.int .i64 0,.int .i64 0,.int .i64 0,.slice none 0 0],A0a q])) ∨
  (q=0/\ev=.returned (.tuple #[.agg #[.int .i64 t,.int .i64 o,.int .i64 e,.int .i64 p,.slice a' m c'],.nilIface])/\Arg w' a' m R/\m<=c'/\(a'=none->m=0/\c'=0)/\∀ad,a'=some ad->w.heap.size<=ad.block))
theorem ξa2(a:Option Addr)(n cap:Nat)(B:List Nat)(w:World)(h:Arg w a n B)(hc:n<=cap)(hr:n<=140737488355328)(hf:A1i B=0)(y1 y2 y3 y4 y5:Nat)(R:List Nat)(hX:opened B=70::y1::y2::y3::y4::y5::R) :
 Calls prog 148 #[.slice a n cap] w λe w'=>RPost w w' (A0k y1 y2 ((y4*256+y5:Nat):Int) y3 R) y1 y2 ((y4*256+y5:Nat):Int) y3 R e:=by
 have HO:=ξ0 (λW h=>ξ33 a n cap B W h hc hr);have ah:∀c∈opened B,c<256:=ξ5F h.1.1;rw[hX]at ah;have l1:=ah y1 (by simp);have l2:=ah y2 (by simp);have l3:=ah y3 (by simp);have l4:=ah y4 (by simp);have l5:=ah y5 (by simp);have HA:=ξ0 h;have ax:=ξgA y4 y5 l4 l5;have ay:IntKind.i64.wrap (y1:Int)=(y1:Int):=ξ1o (by omega) (by omega);have az:IntKind.i64.wrap (y2:Int)=(y2:Int):=ξ1o (by omega) (by omega);have aA:IntKind.i64.wrap (y3:Int)=(y3:Int):=ξ1o (by omega) (by omega);have aC:IntKind.i64.wrap (y4:Int)=(y4:Int):=ξ1o (by omega) (by omega);have aD:IntKind.i64.wrap (y5:Int)=(y5:Int):=ξ1o (by omega) (by omega);have aE:IntKind.i64.wrap ((y4:Int)*256)=(y4:Int)*256:=ξ1o (by omega) (by omega);have HC:=ξ0 (λW a' m c' h hc=>ξ2i y1 y2 ((y4*256+y5:Nat):Int) y3 a' m c' R W h hc);generalize A0k y1 y2 ((y4*256+y5:Nat):Int) y3 R=q at *;generalize ((y4*256+y5:Nat):Int)=EP at *;generalize A1i B=f at *;subst hf;simp only[ξ4,hX]at HO;clear h hX ah;go_enter func148,ntmps148;go_wp2_with fail
 refine(HO.out _ (HA.out.below (Res.new w).1)).mono ?_;rintro e w1 ⟨a1,m1,k1,rfl,aq,hx⟩;obtain⟨ae,aF,au⟩:=hx (by trivial);have hm:R.length+6=m1:=by have:=ae.2.1;simpa using this
 obtain⟨b,o,rfl⟩:=ξ1q ae (by omega);have aH:=ae.2.2;have c0:w1.cell? ⟨b,o,none⟩=some (.int .u8 70):=ξf ae 0 (by omega);have c1:w1.cell? ⟨b,o+1,none⟩=some (.int .u8 (y1:Int)):=ξf ae 1 (by omega);have c2:w1.cell? ⟨b,o+2,none⟩=some (.int .u8 (y2:Int)):=ξf ae 2 (by omega);have c3:w1.cell? ⟨b,o+3,none⟩=some (.int .u8 (y3:Int)):=ξf ae 3 (by omega);have c4:w1.cell? ⟨b,o+4,none⟩=some (.int .u8 (y4:Int)):=ξf ae 4 (by omega);have c5:w1.cell? ⟨b,o+5,none⟩=some (.int .u8 (y5:Int)):=ξf ae 5 (by omega);have d1:=λO=>ξj c1 O;have d2:=λO=>ξj c2 O;have d3:=λO=>ξj c3 O;have d4:=λO=>ξj c4 O;have d5:=λO=>ξj c5 O;have e6:∀w,(Instr.slice 36 (.slice (some ⟨b,o,none⟩) m1 k1) (some (.int .i64 6)) none none).run prog w=.ok (.slice (cutAt (some ⟨b,o,none⟩) k1 6) (m1-6) (k1-6)) w:=λw=>ξ29 (some ⟨b,o,none⟩) m1 k1 6 (by omega) w;have HR:Hid (Arg w1 (cutAt (some ⟨b,o,none⟩) k1 6) (m1-6) R):=by
  have:=ξ1j (l:=6) (h:=m1) ae (by omega) (Ξo _) aF;rw[show(70::y1::y2::y3::y4::y5::R).drop 6=R from rfl,Ξl (by omega)]at this;exact this
 have aw:m1-6<=k1-6:=by omega
 have HP:Hid (∀ad,cutAt (some ⟨b,o,none⟩) k1 6=some ad->w.heap.size<ad.block):=λad h=>by have h1:=ξ7Z ad h;have h2:=au _ rfl;simp at h2;omega
 have HN:Hid (cutAt (some ⟨b,o,none⟩) k1 6=none->m1-6=0/\k1-6=0):=λh=>by have:=ξ4S h;simp at this
 generalize cutAt (some ⟨b,o,none⟩) k1 6=aR at *;have HX:=ξ0 ((Res.new w).next aq);have n0:(0:Int)<(m1:Int):=by omega
 have n1:(1:Int)<(m1:Int):=by omega
 have n2:(2:Int)<(m1:Int):=by omega
 have n3:(3:Int)<(m1:Int):=by omega
 have n4:(4:Int)<(m1:Int):=by omega
 have n5:(5:Int)<(m1:Int):=by omega
 have n6:decide ((m1:Int)<6)=false:=by simp;omega
 clear aq hx ae hm au;go_wp2_with fail;go_region
 have HT:=ξ0 (HX.out.two y1 y2 EP y3 (.slice aR (m1-6) (k1-6))).drew;have aj:=ξ0 (HR.out.below (((Ξp w1.heap.size w1).alloc (Ξo _) (.cells #[.int .i64 (y1:Int),.int .i64 (y2:Int),.int .i64 EP,.int .i64 (y3:Int),.slice aR (m1-6) (k1-6)] 238)).drew));clear c0 c1 c2 c3 c4 c5 d1 d2 d3 d4 d5 e6 n0 n1 n2 n3 n4 n5 n6 ay az aA aC aD aE ax HX HR HO;obtain⟨x0,x1,x2,x3,x4⟩:=HT.out.2.1.cells;go_wp2_with fail;refine(HC.out _ aR (m1-6) (k1-6) aj.out aw).mono ?_;rintro e w2 ⟨rfl,am⟩;have ai:=ξ0 (HT.out.next am);have aG:=ξ0 (aj.out.below am);clear am x0 x1 x2 x3 x4 HT aj HC;obtain⟨x0,x1,x2,x3,x4⟩:=ai.out.2.1.cells;obtain⟨u0,u1,u2,u3,u4⟩:=ai.out.1.2.cells;have f0:=ai.out.1.2.free;by_cases hq:q=0
 ·subst hq;rw[ξ4];go_wp2_with fail;refine bodyPost_ret (ξ3o (g:=w.heap.size) rfl rfl (ai.out.1.2.A6r y1 y2 EP y3 (.slice aR (m1-6) (k1-6)))) rfl ?_;exact⟨aR,m1-6,k1-6,ai.out.1.A5n _ _ _ _ _,.inr ⟨rfl,rfl,Arg.A6r aG.out (λad h=>by have:=HP.out ad h;omega) _ _ _ _ _,aw,HN.out,λad h=>Nat.le_of_lt (HP.out ad h)⟩⟩
 ·rw[ξb hq];go_wp2_with fail;refine bodyPost_ret (ξ3o (g:=w.heap.size) rfl rfl (ai.out.1.2.A6r 0 0 0 0 (.slice none 0 0))) rfl ?_;exact⟨none,0,0,ai.out.1.A5n _ _ _ _ _,.inl ⟨hq,by rw[ξb hq];rfl⟩⟩
def A8o(t o e p:Int)(B:List Nat):List Nat:=if A0k t o e p B=0 then A3m t.toNat o.toNat e.toNat p.toNat B else[]
theorem ξ3E{t o e p:Nat}(h:A0k t o e p B=0):A8o t o e p B=A3m t o e p B:=by
 unfold A8o;rw[if_pos h];simp only[Int.toNat_natCast]
theorem ξbN(a:Option Addr)(n cap:Nat)(B:List Nat)(w:World)(h:Arg w a n B)(hc:n<=cap)(hr:n<=140737488355328) :
 Calls prog 148 #[.slice a n cap] w λe w'=>∃a' m c',e=.returned (.tuple #[.agg #[.int .i64 ((bfr B).tr:Int),.int .i64 ((bfr B).og:Int),.int .i64 ((bfr B).ep:Int),.int .i64 ((bfr B).hp:Int),.slice a' m c'],A0a (A2w B)])/\Below w.heap.size w w'/\Arg w' a' m (bfr B).body/\m<=c'/\(a'=none->m=0/\c'=0)/\∀ad,a'=some ad->w.heap.size<=ad.block:=by
 have ae:∀(w':World) (k:Nat),A2w B=k->k≠0->Below w.heap.size w w'->∃a' m c',Ending.returned (.tuple #[.agg #[.int .i64 0,.int .i64 0,.int .i64 0,.int .i64 0,.slice none 0 0],A0a k])=.returned (.tuple #[.agg #[.int .i64 ((bfr B).tr:Int),.int .i64 ((bfr B).og:Int),.int .i64 ((bfr B).ep:Int),.int .i64 ((bfr B).hp:Int),.slice a' m c'],A0a (A2w B)])/\Below w.heap.size w w'/\Arg w' a' m (bfr B).body/\m<=c'/\(a'=none->m=0/\c'=0)/\∀ad,a'=some ad->w.heap.size<=ad.block:=by
  intro w' k hk h0 hb;rw[ξfw (by omega),hk];exact⟨none,0,0,rfl,hb,⟨Bys.nil _ _,rfl,by omega⟩,Ξo _,λ_=>⟨rfl,rfl⟩,λad h=>by simp at h⟩
 by_cases hf:A1i B=0
 ·have ah:A2w B=A29 (opened B):=by unfold A2w;rw[if_pos hf]
  by_cases hs:(opened B).length<6
  ·have hx:A29 (opened B)=8:=by unfold A29;rw[if_pos hs]
   refine(ξ7T a n cap B w h hc hr hf hs).mono ?_;rintro e w' ⟨rfl,hb⟩;exact ae w' 8 (by rw[ah,hx]) (by omega) hb
  ·obtain⟨y0,y1,y2,y3,y4,y5,R,hX⟩:=six (X:=opened B) (by omega);have hx:=ξ4m y0 y1 y2 y3 y4 y5 R;by_cases h7:y0=70
   ·subst h7;rw[if_pos rfl]at hx;refine(ξa2 a n cap B w h hc hr hf y1 y2 y3 y4 y5 R hX).mono ?_;rintro e w' ⟨a',m,c',hb,⟨hq,rfl⟩|⟨hq,rfl,hA,hm,hn,hp⟩⟩
    ·exact ae w' _ (by rw[ah,hX,hx]) hq hb
    ·have hz:A2w B=0:=by rw[ah,hX,hx,hq]
     have ai:bfr B=⟨y1,y2,y4*256+y5,y3,R⟩:=by
      unfold bfr;rw[if_pos hf,hX];exact ξ89 70 y1 y2 y3 y4 y5 R (by rw[hx,hq])
     rw[ai,hz];exact⟨a',m,c',rfl,hb,hA,hm,hn,hp⟩
   ·rw[if_neg h7]at hx;refine(ξ7i a n cap B w h hc hr hf y0 (y1::y2::y3::y4::y5::R) hX (by simp) h7).mono ?_;rintro e w' ⟨rfl,hb⟩;exact ae w' 2 (by rw[ah,hX,hx]) (by omega) hb
 ·have ah:A2w B=A1i B:=by unfold A2w;rw[if_neg hf]
  refine(ξa3 a n cap B w h hc hr hf).mono ?_;rintro e w' ⟨rfl,hb⟩;exact ae w' _ ah hf hb
end Go.Proofs.YtpiamlgmadnepaaGreat.Frame
