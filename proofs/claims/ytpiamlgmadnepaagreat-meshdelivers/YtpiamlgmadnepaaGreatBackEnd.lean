/-
 What the proof needs.
-/
import Derived.Test.YtpiamlgmadnepaaGreatBackAll
import Derived.Deep.RegionHeld3
import Derived.Deep.AppendLies
open Go.Proofs.Tryz
set_option linter.unusedVariables false
set_option maxHeartbeats 4000000
set_option maxRecDepth 100000
namespace Go.Proofs.YtpiamlgmadnepaaGreat.Back
open ChangeShapes WideShapes ChangeAt RowKit Go.Sort Go.Lib BM Mem
variable {L:List Int}{i g base n:Nat}{w w':World}{k t u:Int}{sv v:Value}{B r:List Nat}{a:Option Addr}{p:Addr}
theorem ξ9H(k:Int)(w:World):Calls prog 213 #[.int .i64 k] w λe w'=>e=.returned (.int .i64 (most k))/\w'=w:=by
 by_cases h1:k=1
 ·subst h1;go_enter func213,ntmps213;go_wp2_with fail
  go_ret;exact⟨rfl,rfl⟩
 by_cases h2:k=2
 ·subst h2;go_enter func213,ntmps213;go_wp2_with fail
  go_ret;exact⟨rfl,rfl⟩
 by_cases h3:k=3
 ·subst h3;go_enter func213,ntmps213;go_wp2_with fail
  go_ret;exact⟨rfl,rfl⟩
 have hm:most k=-1:=by simp[most,h1,h2,h3]
 rw[hm];go_enter func213,ntmps213;go_wp2_with fail
 go_ret;exact⟨rfl,rfl⟩
theorem ξ9i{K:List Int}{y z:Int}(h:A1w (K++[y]))(hz:y<z):A1w (K++[y]++[z]):=by
 refine List.pairwise_append.2 ⟨h,List.pairwise_singleton _ _,λa ha b hb=>?_⟩;obtain rfl:=Ξg.1 hb;rcases Ξe.1 ha with ha|ha
 ·have:=(List.pairwise_append.1 h).2.2 a ha y (by simp);omega
 ·obtain rfl:=Ξg.1 ha;exact hz
theorem ξ9h(hi:1<=i)(hl:i<L.length)(h:A1w (L.take i))(hx:L.getD (i-1) 0<L.getD i 0):A1w (L.take (i+1)):=by
 have e1:L.take (i+1)=L.take i++[L.getD i 0]:=by
  rw[Ξa,Ξd hl,Option.getD_some,List.take_append_getElem hl]
 have e2:L.take i=L.take (i-1)++[L.getD (i-1) 0]:=by
  have:=List.take_append_getElem (l:=L) (i:=i-1) (by omega);rw[show i-1+1=i by omega]at this;rw[Ξa,Ξd (by omega),Option.getD_some,this]
 rw[e1];rw[e2]at h ⊢;exact ξ9i h hx
theorem ξaT(hi:1<=i)(hl:i<L.length)(hx:L.getD i 0<=L.getD (i-1) 0):¬A1w L:=by
 intro h;have:=List.pairwise_iff_getElem.1 h (i-1) i (by omega) hl (by omega);rw[Ξa,Ξa,Ξd hl,Ξd (by omega)]at hx;simp only[Option.getD_some]at hx;omega
theorem ξ6D(a:Option Addr)(n cap:Nat)(L:List Int)(w:World)(h:A0b w a n L) :
 Calls prog 214 #[.slice a n cap] w λe w'=>e=.returned (.bool (decide (A1w L)))/\Below w.heap.size w w':=by
 have hl:=h.2.1;have hn:=h.2.2;have HA:=ξ0 h;clear h;have H0:Hid (A1w (L.take 1)):=by
  match L with
  | []=>exact List.Pairwise.nil
  | x::r=>exact List.pairwise_singleton _ _
 go_enter func214,ntmps214;go_wp2_with fail
 go_loopg [3] n (λg y wr=>∃(i:Nat),1<=i/\n-i<=g/\(i<=n∨i=1)/\y=.int .i64 (i:Int)/\Hid (Below w.heap.size w wr/\A1w (L.take i)))
 case atStart=>exact⟨1,Ξo _,by omega,.inr rfl,rfl,Ξp _ _,H0⟩
 case round=>
  obtain⟨i,ae,ai,aj,rfl,HW⟩:=hrel;by_cases hi:i<n
  ·have ah:(i:Int)<(n:Int):=by omega
   obtain⟨b1,o1,rfl,h1⟩:=(HA.out.below HW.out.1).at (by omega);have c1:=h1 i hi;have c2:=h1 (i-1) (by omega);clear h1;have e1:((i:Int)-1)=((i-1:Nat):Int):=by omega
   have HN:Hid (L.getD i 0<=L.getD (i-1) 0->¬A1w L):=λhx=>ξaT ae (by omega) hx;have HY:Hid (L.getD (i-1) 0<L.getD i 0->A1w (L.take (i+1))):=λhx=>ξ9h ae (by omega) HW.out.2 hx;generalize L.getD i 0=x at *;generalize L.getD (i-1) 0=y at *;generalize i-1=j at *;by_cases hxy:x<=y
   ·go_wp2_with fail
    go_quiet (fail)
    go_wp2_with fail
    go_ret;exact⟨congrArg (λb=>Ending.returned (Value.bool b)) (decide_eq_false (HN.out hxy)).symm,below_drewN' HW.out.1 _⟩
   ·go_wp2_with fail
    go_quiet (fail)
    go_wp2_with fail
    go_roundg (n-(i+1))
    case measure=>omega
    case rel=>exact⟨i+1,by omega,by omega,by omega,by go_num,below_drewN' HW.out.1 _,HY.out (by omega)⟩
  ·have ah:¬(i:Int)<(n:Int):=by omega
   go_wp2_with fail
   go_ret;have h2:=HW.out.2;rw[Ξl (by omega)]at h2;exact⟨congrArg (λb=>Ending.returned (Value.bool b)) (decide_eq_true h2).symm,HW.out.1⟩
def A02(w:World)(g:Nat)(k t:Int)(sv:Value)(u:Int):Prop:=w.heap[g]?=some (.cells #[.int .i64 k,.int .i64 t,sv,.int .i64 u] 242 (0,0))
theorem A02.new(w:World)(k t:Int)(sv:Value)(u:Int):A02 (w.alloc (.cells #[.int .i64 k,.int .i64 t,sv,.int .i64 u] 242)) w.heap.size k t sv u:=heap_alloc_new w _
theorem A02.lt(h:A02 w g k t sv u):g<w.heap.size:=lt_of_block h
theorem A02.below{B:Nat}(h:A02 w g k t sv u)(hb:Below B w w')(hg:g<B):A02 w' g k t sv u:=(hb.block g hg).trans h
theorem A02.cells(h:A02 w g k t sv u):w.cell? ⟨g,0,none⟩=some (.int .i64 k)/\w.cell? ⟨g,1,none⟩=some (.int .i64 t)/\w.cell? ⟨g,2,none⟩=some sv/\w.cell? ⟨g,3,none⟩=some (.int .i64 u):=by
 unfold A02 at h;refine⟨?_,?_,?_,?_⟩<;>simp[World.cell?,h]
theorem ξa(k t:Int)(a:Option Addr)(n cap:Nat)(u:Int)(L:List Int)(w:World)(h:A0b w a n L) :
 Calls prog 203 #[.agg #[.int .i64 k,.int .i64 t,.slice a n cap,.int .i64 u]] w λe w'=>e=.returned (A0a (A0s k t L u))/\Below w.heap.size w w':=by
 have hl:=h.2.1;have HB:Hid (Below w.heap.size w (w.alloc (.cells #[.int .i64 k,.int .i64 t,.slice a n cap,.int .i64 u] 242))):=(Ξp _ _).alloc (Ξo _) _;have ah:=ξ0 (A02.new w k t (.slice a n cap) u);have HR:=ξ0 (λW hb=>ξ6D a n cap L W (A0b.below h hb));have HM:=ξ0 (λw=>ξ9H k w);have HW:=ξ0 (λw=>ξA u (most k) w);have hf:A0s k t L u=if decide (t<1)||decide (8<t)||!decide (0<=u/\u<=most k)then 1 else if (decide (k=1)==decide (n=0))||!decide (A1w L)then 3 else 0:=by
  unfold A0s;rw[hl];simp only[Bool.or_eq_true,decide_eq_true_eq,Bool.not_eq_true',decide_eq_false_iff_not,or_assoc]
 generalize A0s k t L u=F at *;generalize decide (0<=u/\u<=most k)=bw at *;generalize decide (A1w L)=br at *;generalize most k=mk at *;have HF:=ξ0 hf;have c1:=ah.out.cells.2.1;clear h hf hl;by_cases p1:t<1
 ·have d1:decide (t<1)=true:=by simpa using p1
  obtain rfl:F=1:=by rw[HF.out,d1];rfl
  go_enter func203,ntmps203;go_wp2_with fail
  go_quiet (fail)
  go_wp2_with fail
  go_ret;exact⟨rfl,below_drewN' HB.out _⟩
 have d1:decide (t<1)=false:=by simpa using p1
 by_cases p2:8<t
 ·have d2:decide (8<t)=true:=by simpa using p2
  obtain rfl:F=1:=by rw[HF.out,d1,d2];rfl
  go_enter func203,ntmps203;go_wp2_with fail
  go_quiet (fail)
  go_wp2_with fail
  go_ret;exact⟨rfl,below_drewN' HB.out _⟩
 have d2:decide (8<t)=false:=by simpa using p2
 cases bw with
 | false=>
   obtain rfl:F=1:=by rw[HF.out,d1,d2];rfl
   go_enter func203,ntmps203;go_wp2_with fail
   go_quiet (first|(go_at_call 213;exact Calls.quiet_of_same (HM.out _))|(go_at_call 212;exact Calls.quiet_of_same (HW.out _)))
   go_wp2_with fail
   go_ret;exact⟨rfl,below_drewN' HB.out _⟩
 | true=>
   obtain⟨bk,ai⟩:=nm (((k:Int)==1));obtain⟨bn,aj⟩:=nm (((n:Int)==0));have hF:F=if (bk==bn)||!br then 3 else 0:=by
    have e1:decide (k=1)=bk:=by rw[<-ai];rfl
    have e2:decide (n=0)=bn:=by rw[<-aj,Bool.eq_iff_iff,decide_eq_true_eq,beq_iff_eq];omega
    rw[HF.out,d1,d2,e1,e2];rfl
   obtain⟨am,aq⟩:=nm ((bk==bn));rw[aq]at hF;cases am with
   | true=>
     obtain rfl:F=3:=by rw[hF];rfl
     clear HF hF;go_enter func203,ntmps203;go_wp2_with fail
     go_quiet (first|(go_at_call 213;exact Calls.quiet_of_same (HM.out _))|(go_at_call 212;exact Calls.quiet_of_same (HW.out _)))
     go_wp2_with fail
     go_ret;exact⟨rfl,below_drewN' HB.out _⟩
   | false=>
     cases br with
     | false=>
       obtain rfl:F=3:=by rw[hF];rfl
       clear HF hF;go_enter func203,ntmps203;go_wp2_with fail
       go_quiet (first|(go_at_call 213;exact Calls.quiet_of_same (HM.out _))|(go_at_call 212;exact Calls.quiet_of_same (HW.out _)))
       go_wp2_with fail
       refine(HR.out _ (below_drewN' HB.out _)).mono ?_;rintro e w2 ⟨rfl,ae⟩;go_wp2_with fail;go_ret;exact⟨rfl,(below_drewN' HB.out nq).trans (ae.mono (below_drewN' HB.out nq).size)⟩
     | true=>
       obtain rfl:F=0:=by rw[hF];rfl
       clear HF hF;go_enter func203,ntmps203;go_wp2_with fail
       go_quiet (first|(go_at_call 213;exact Calls.quiet_of_same (HM.out _))|(go_at_call 212;exact Calls.quiet_of_same (HW.out _)))
       go_wp2_with fail
       refine(HR.out _ (below_drewN' HB.out _)).mono ?_;rintro e w2 ⟨rfl,ae⟩;go_wp2_with fail;go_ret;exact⟨rfl,(below_drewN' HB.out nq).trans (ae.mono (below_drewN' HB.out nq).size)⟩
theorem info5:(prog.info? 5).map (λi=>(i.zero,i.size,i.bytes))=some (some (.int .u8 0),1,1):=by kernel_rfl
structure DSt(w wr:World)(base k:Nat)(B:List Nat)(v:Value):Prop where
 below:Below base w wr
 own:wr.ownsRow base 5 1 v k (cellsOf B)
 box:∀g b m,A17 w g b m->A17 wr g b m
theorem DSt.next{wr:World}{k:Nat}{v':Value}{c:Nat}{O:Obj}(h:DSt w wr base k B v)(hbase:base<=w.heap.size)(ho:w'.ownsRow base 5 1 v' (k+1) (cellsOf B++[.int .u8 (c:Int)]))(hg:(wr.alloc O).grownBy w' v.ownBlock):DSt w w' base (k+1) (B++[c]) v':=by
 have hs:=h.below.size;refine⟨(h.below.alloc (by omega) _).grown hg (by simp;omega) (λj hj=>(h.own.lt j hj).1),?_,λg b m hb=>((h.box g b m hb).alloc _).grown hg ((h.box g b m hb).ne h.own)⟩;rw[ξ1v];exact ho
theorem byte_of(num g:Nat):IntKind.u8.wrap ((num:Int)/2^(8*g))=((num/256^g%256:Nat):Int):=by
 rw[IntKind.wrap_u8',show(256:Nat)^g=2^(8*g)by rw[Nat.pow_mul]];simp
theorem ξ3f(v:Value)(base k:Nat)(B:List Nat)(num size:Nat)(w:World)(ho:w.ownsRow base 5 1 v k (cellsOf B))(hbase:base<=w.heap.size)(hk:k<=100000)(hs:size<=8)(hnum:num<4294967296) :
 Calls prog 205 #[v,.int .i64 (num:Int),.int .i64 (size:Int)] w λe w'=>∃v',e=.returned v'/\w'.ownsRow base 5 1 v' (k+size) (cellsOf (B++be size num))/\Below base w w'/\∀g b m,A17 w g b m->A17 w' g b m:=by
 obtain⟨i0,ai,aj,am,aq⟩:=info_parts info5;have au:Hid (DSt w w base k B v):=⟨Ξp _ _,ho,λ_ _ _ h=>h⟩;clear ho;obtain⟨E,hE⟩:=nm (B++be size num);rw[hE];have HE:=ξ0 hE;clear hE;go_enter func205,ntmps205;go_wp2_with fail
 go_loopg [0,7] size (λg x y wr=>∃(v':Value) (B':List Nat) (k':Nat),k'+g=k+size/\x=v'/\y=.int .i64 ((g:Int)-1)/\g<=size/\Hid (DSt w wr base k' B' v'/\B'++be g num=E))
 case atStart=>exact⟨v,B,k,rfl,rfl,rfl,Ξo _,au.out,HE.out⟩
 case round=>
  obtain⟨v1,B1,k1,ay,rfl,rfl,az,HS⟩:=hrel;cases gk with
  | succ g=>
    have e1:(((g+1:Nat):Int)-1)=(g:Int):=by omega
    rw[e1];have d:decide (0<=(g:Int))=true:=by simp
    have aw:=byte_of num g;obtain⟨c,hc⟩:=nm (num/256^g%256);rw[hc]at aw;have HC:=ξ0 hc;clear hc;go_wp2_with (at_builtin;refine wpList_append_own _ rfl _ _ 36 rfl base 5 i0 _ 1 1 underlying36 ai aj am aq rfl (by decide) _ k1 (cellsOf B1) rfl (HS.out.1.own.alloc _) ⟨wr.heap.size,0,none⟩ 1 1 [.int .u8 (c:Int)] rfl rfl ?cc ?one ?b1 ?b2 ?b3 ?next)
    case cc=>exact A50 _
    case one=>simp[Value.oneCell']
    case b1=>unfold maxLen;omega
    case b2=>omega
    case b3=>have:=HS.out.1.below.size;simp;omega
    case next=>
    intro v3 w' ah ae _;have ax:Hid (DSt w w' base (k1+1) (B1++[c]) v3/\B1++[c]++be g num=E):=by
     refine⟨HS.out.1.next hbase ah ae,?_⟩;rw[<-HS.out.2,be,HC.out];simp
    clear ah ae;go_wp2_with fail;go_roundg g
    case measure=>omega
    case rel=>exact⟨v3,B1++[c],k1+1,by omega,rfl,by go_num,by omega,ax⟩
  | zero=>
    go_wp2_with fail
    go_ret;have h1:=HS.out.1.own;have h2:=HS.out.2;rw[be,Ξu]at h2;rw[h2,show k1=k+size by omega]at h1;exact⟨_,rfl,h1,HS.out.1.below,HS.out.1.box⟩
theorem ξ3L(n c:Nat)(hn:n<16777216)(hc:c<256):bits .or .i64 ((n:Int)*256) (c:Int)=((n*256+c:Nat):Int):=by
 have e:(n:Int)*256=((n*256:Nat):Int):=by omega
 rw[e,ξ1s _ _ (by omega) (by omega),nat_join 8 _ c (by omega) (by omega)]
theorem ξcq(K:List Nat)(c:Nat):val (K++[c])=val K*256+c:=by simp[val]
theorem ξfJ:∀(K:List Nat) (m:Nat),(∀c∈K,c<256)->m<1->K.foldl (λn c=>n*256+c) m<256^K.length:=by
 have h:∀(K:List Nat) (m s:Nat),(∀c∈K,c<256)->m<256^s->K.foldl (λn c=>n*256+c) m<256^(s+K.length):=by
  intro K
  induction K with
  | nil=>intro m s _ h;simpa using h
  | cons c K ih=>
    intro m s hK hm;have:=ih (m*256+c) (s+1) (λx hx=>hK x (List.mem_cons_of_mem _ hx)) (by
     have:=hK c (List.mem_cons_self ..);rw[Nat.pow_succ];omega)
    simpa[Nat.add_assoc,Nat.add_comm 1]using this
 intro K m hK hm;have:=h K m 0 hK (by simpa using hm);simpa using this
theorem ξ1T(a:Option Addr)(n cap:Nat)(B:List Nat)(w:World)(h:Arg w a n B)(hn:n<=4) :
 Calls prog 202 #[.slice a n cap] w λe w'=>e=.returned (.int .i64 (val B:Int))/\w'=w:=by
 have hl:=h.2.1;have HA:=ξ0 h;clear h;go_enter func202,ntmps202;go_wp2_with fail
 go_loopg [3,8] n (λg x y wr=>∃(i:Nat),i+g=n/\x=.int .i64 (val (B.take i):Int)/\y=.int .i64 (i:Int)/\wr=w)
 case atStart=>exact⟨0,by omega,rfl,rfl,rfl⟩
 case round=>
  obtain⟨i,aq,rfl,rfl,rfl⟩:=hrel;by_cases hi:i<n
  ·have ah:(i:Int)<(n:Int):=by omega
   obtain⟨b,o,rfl,hc⟩:=HA.out.1.2 i (by omega);have ai:B.getD i 0<256:=HA.out.1.1 _ (by rw[Ξa,Ξd (by omega)];exact List.getElem_mem _);have ae:val (B.take i)<16777216:=by
    have h1:=ξfJ (B.take i) 0 (λc hc=>HA.out.1.1 c (List.mem_of_mem_take hc)) (by decide);have h2:(256:Nat)^(B.take i).length<=256^3:=Nat.pow_le_pow_right (by decide) (by simp;omega);exact Ξn h1 h2
   have aj:Hid (val (B.take (i+1))=val (B.take i)*256+B.getD i 0):=by
    have e:B.take (i+1)=B.take i++[B.getD i 0]:=by
     rw[Ξa,Ξd (by omega),Option.getD_some,List.take_append_getElem (by omega)]
    show _=_;rw[e,ξcq]
   generalize val (B.take i)=m at *;generalize B.getD i 0=c at *;have am:=ξ0 (ξ3L m c ae ai);go_wp2_with fail
   go_roundg (n-(i+1))
   case measure=>omega
   case rel=>exact⟨i+1,by omega,by rw[am.out,aj.out],by go_num,rfl⟩
  ·have ah:¬(i:Int)<(n:Int):=by omega
   go_wp2_with fail
   go_ret;exact⟨by rw[Ξl (by omega)];rfl,rfl⟩
theorem ξa9(k t:Int)(a:Option Addr)(n cap:Nat)(u:Int)(L:List Int)(w:World)(h:A0b w a n L)(hn:a=none->n=0/\cap=0)(hf:A0o k t L u≠0) :
 Calls prog 184 #[.agg #[.int .i64 k,.int .i64 t,.slice a n cap,.int .i64 u]] w λe w'=>e=.returned (.tuple #[.slice none 0 0,A0a (A0o k t L u)])/\Below w.heap.size w w':=by
 have HC:=ξ0 (λW hb=>ξa k t a n cap u L W (A0b.below h hb));have HP:=ξ0 (λW hb=>ξ5D a n cap L W (A0b.below h hb) hn);have hB:Below w.heap.size w (w.alloc (.cells #[.int .i64 k,.int .i64 t,.slice a n cap,.int .i64 u] 242)):=(Ξp _ _).alloc (Ξo _) _;have HB:=ξ0 hB;have aj:=ξ0 (A02.new w k t (.slice a n cap) u);have HE:Hid (A0o k t L u=if A0s k t L u=0 then A1n L else A0s k t L u):=rfl;generalize A0o k t L u=F at *;generalize A0s k t L u=f1 at *;generalize A1n L=f2 at *;clear h hn hB;by_cases p:f1=0
 ·obtain rfl:F=f2:=by rw[HE.out,if_pos p]
  subst p;have ai:=ξq F;have aq:=ξp F;have dF:decide (F=0)=false:=by simpa using hf
  rw[dF]at ai;clear HE dF;have HF:=ξ0 hf;clear hf;go_enter func184,ntmps184;go_wp2_with fail
  refine(HC.out _ HB.out).mono ?_;rintro e w1 ⟨rfl,ae⟩;have ah:=ξ0 (HB.out.trans (ae.mono HB.out.size));have au:=ξ0 (aj.out.below ae aj.out.lt);clear ae;obtain⟨c0,c1,c2,c3⟩:=au.out.cells;rw[ξ4];go_wp2_with fail;refine(HP.out _ ah.out).mono ?_;rintro e w2 ⟨a2,m2,q2,rfl,_,_,_,am⟩;have aw:=ξ0 (ah.out.trans (am.mono ah.out.size));clear am;go_wp2_with fail;go_ret2;exact⟨rfl,aw.out⟩
 ·obtain rfl:F=f1:=by rw[HE.out,if_neg p]
  have ai:=ξq F;have aq:=ξp F;have dF:decide (F=0)=false:=by simpa using hf
  rw[dF]at ai;clear HE dF p;have HF:=ξ0 hf;clear hf;go_enter func184,ntmps184;go_wp2_with fail
  refine(HC.out _ HB.out).mono ?_;rintro e w1 ⟨rfl,ae⟩;have ah:=ξ0 (HB.out.trans (ae.mono HB.out.size));clear ae;go_wp2_with fail;go_ret2;exact⟨rfl,ah.out⟩
theorem ξ50(w:World)(x y:Nat):(w.alloc (.cells #[.int .u8 (x:Int),.int .u8 (y:Int)] 5)).ownsRow w.heap.size 5 1 (.slice (some ⟨w.heap.size,0,none⟩) 2 2) 2 (cellsOf [x,y]):=
 World.ownsRow_lit w #[.int .u8 (x:Int),.int .u8 (y:Int)] 2 (Ξo _) (by unfold maxLen;omega) rfl
theorem ownsRow_le{base' size:Nat}{e:TypeId}{xs:List Value}(h:w.ownsRow base e size v n xs)(hb:base'<=base):w.ownsRow base' e size v n xs:=by
 refine⟨h.1,?_⟩;rcases h.2 with hl|⟨g,c,cur,e1,e2,rest⟩
 ·exact .inl hl
 ·exact .inr ⟨g,c,cur,e1,by omega,rest⟩
theorem ξ6V{C:List Nat}(h:w.ownsRow base 5 1 v n (cellsOf B))(e:B=C):w.ownsRow base 5 1 v C.length (cellsOf C):=by
 subst e;have:=h.1;rw[ξw]at this;rw[show B.length=n by omega];exact h
theorem ξ1W(k t:Nat)(a:Option Addr)(n cap:Nat)(u:Nat)(L:List Int)(w:World)(h:A0b w a n L)(hn:a=none->n=0/\cap=0)(hf:A0o k t L u=0) :
 Calls prog 184 #[.agg #[.int .i64 (k:Int),.int .i64 (t:Int),.slice a n cap,.int .i64 (u:Int)]] w λe w'=>∃v',e=.returned (.tuple #[v',.nilIface])/\w'.ownsRow w.heap.size 5 1 v' (A0c k t L u).length (cellsOf (A0c k t L u))/\Below w.heap.size w w':=by
 obtain⟨hc,hp⟩:=ξY hf;obtain⟨hk,t1,t8,u0,um,aT,aO⟩:=ξ1k hc;have bi:=ξ8B k;obtain⟨b1,b2,b3,b4,b5,ay⟩:=ξ1M hp;have hL:=(ξX hp).2;have aD:=(ξX hp).1;have HC:=ξ0 (λW hb=>ξa (k:Int) t a n cap u L W (A0b.below h hb));rw[hc]at HC;have HP:=ξ0 (λW hb=>ξ5D a n cap L W (A0b.below h hb) hn);rw[hp]at HP;have hB:Below w.heap.size w (w.alloc (.cells #[.int .i64 (k:Int),.int .i64 (t:Int),.slice a n cap,.int .i64 (u:Int)] 242)):=(Ξp _ _).alloc (Ξo _) _;have HB:=ξ0 hB;have aA:=ξ0 (A02.new w k t (.slice a n cap) u);have HG:Hid (∀p∈A1p L,∃b:Nat,p.1=b/\b<65536/\p.2<65536):=λp hp=>by
  have hb:=hL p.1 (((ξ1h L).2 _).1 (ay.base p hp));exact⟨p.1.toNat,by omega,by omega,ay.mask p hp⟩
 have bC:(A1p L).length<=200:=by omega
 have aE:k≠1->A1p L=[]:=λh1=>by
  have h0:L.length=0:=by
   by_cases h0:L.length=0
   ·exact h0
   ·have:=aT.2 h0;omega
  exact Ξk (by omega)
 have aP:Hid (A0c k t L u=k::t::((if (k:Int)=2 then be 1 u else if (k:Int)=3 then be 4 u else[])++A06 (A1p L))):=by
  show _=_;simp[A0c,tail]
 have bj:k=1∨k=2∨k=3:=by omega
 have hu:u<4294967296:=by omega
 generalize A0c k t L u=EB at *;generalize A1p L=l at *;have ht:t<256:=by omega
 have bD:IntKind.u8.wrap (t:Int)=(t:Int):=by rw[IntKind.wrap_u8'];omega
 have aF:=ξ0 aE;clear h hn hB hc hp hf b1 b2 b3 b4 b5 ay hL aO aT aD aE hk um bi t1 t8;rcases bj with rfl|rfl|rfl
 ·have HA:Hid (∀W v (base k':Nat) (B:List Nat) (x:Nat),x<65536->k'<=100000->W.ownsRow base 5 1 v k' (cellsOf B)->base<=W.heap.size->Calls prog 205 #[v,.int .i64 (x:Int),.int .i64 2] W _):=λW v base k' B x hx hk ho hb=>ξ3f v base k' B x 2 W ho hb hk (by omega) (by omega);go_enter func184,ntmps184;go_wp2_with fail
  refine(HC.out _ HB.out).mono ?_;rintro e w1 ⟨rfl,ae⟩;have ai:=ξ0 (HB.out.trans (ae.mono HB.out.size));have aj:=ξ0 (aA.out.below ae aA.out.lt);have am:=aj.out.lt;clear ae;obtain⟨c0,c1,c2,c3⟩:=aj.out.cells;rw[ξ4];go_wp2_with fail;refine(HP.out _ ai.out).mono ?_;rintro e w2 ⟨a2,m2,q2,rfl,au,_,_,ah⟩;have aG:m2=l.length:=by have:=au.2.1;rw[ξ2g]at this;exact this.symm
  subst aG;have aq:=ξ0 (ai.out.trans (ah.mono ai.out.size));have aw:=ξ0 (aj.out.below ah am);have bq:=ξ0 au;clear ah au c0 c1 c2 c3;obtain⟨c0,c1,c2,c3⟩:=aw.out.cells;have aH:=aw.out.lt;rw[ξ4];have bu:Hid (DSt w2 (w2.alloc (.cells #[.int .u8 (1:Int),.int .u8 (t:Int)] 5)) w2.heap.size 2 ([1,t]++A06 (l.take 0)) (.slice (some ⟨w2.heap.size,0,none⟩) 2 2)):=⟨(Ξp _ _).alloc (Ξo _) _,ξ50 w2 1 t,λg b m hb=>hb.alloc _⟩;go_wp2_with fail
  clear c0 c1 c2 c3 HC HP;go_loopg [7,47] l.length (λg x y wr=>∃(j:Nat) (v:Value),j+g=l.length/\x=v/\y=.int .i64 (j:Int)/\Hid (DSt w2 wr w2.heap.size (2+j*4) ([1,t]++A06 (l.take j)) v))
  case atStart=>exact⟨0,_,by omega,rfl,rfl,bu⟩
  case round=>
   obtain⟨j,v,bE,rfl,rfl,HS⟩:=hrel;by_cases hj:j<l.length
   ·have bz:(j:Int)<(l.length:Int):=by omega
    obtain⟨b,o,rfl,aU,aV⟩:=bq.out.at (by omega);obtain⟨d0,d1⟩:=aV j hj;have aW:=(HS.out.below.cell (p:=⟨b,o+j*2,none⟩) aU).trans d0;have aX:=(HS.out.below.cell (p:=⟨b,o+j*2+1,none⟩) aU).trans d1;clear d0 d1 aV;have aI:l[j]?=some (l[j]'hj):=Ξd hj;obtain⟨bn,ae,ah,az⟩:=HG.out (l[j]'hj) (List.getElem_mem hj);have aY:(pr l).getD j (0,0)=((bn:Int),((l[j]'hj).2:Int)):=by
     rw[Ξa,pr,List.getElem?_map,aI];simp[ae]
    rw[aY]at aW aX;have b9:Hid (A06 (l.take (j+1))=A06 (l.take j)++be 2 bn++be 2 (l[j]'hj).2):=by
     show _=_;rw[<-List.take_append_getElem hj,ξ7H,ae];rfl
    generalize (l[j]'hj).2=mk at *;clear aY aI ae;simp only at aW aX;have bF:=λO=>HS.out.own.alloc O;go_wp2_with fail
    refine(HA.out _ _ w2.heap.size (2+j*4) _ bn ah (by omega) (HS.out.own.alloc _) (by have:=HS.out.below.size;simp;omega)).mono ?_;rintro e w3 ⟨v3,rfl,ax,aJ,aQ⟩;have aS:=ξ0 (aQ _ _ _ (A17.new wr bn mk));have aL:=ξ0 ax;have aC:=ξ0 ((HS.out.below.alloc HS.out.below.size _).trans aJ);have bA:Hid (∀g b m,A17 w2 g b m->A17 w3 g b m):=λg b m hb=>aQ g b m ((HS.out.box g b m hb).alloc _);clear ax aJ aQ;obtain⟨k0,k1⟩:=aS.out.cells;go_wp2_with fail;refine(HA.out _ _ w2.heap.size (2+j*4+2) _ mk az (by omega) aL.out (by have:=aC.out.size;omega)).mono ?_;rintro e w4 ⟨v4,rfl,aZ,aM,bh⟩;have bB:Hid (DSt w2 w4 w2.heap.size (2+(j+1)*4) ([1,t]++A06 (l.take (j+1))) v4):=by
     refine⟨aC.out.trans aM,?_,λg b m hb=>bh g b m (bA.out g b m hb)⟩;rw[b9.out,show 2+(j+1)*4=2+j*4+2+2 by omega,<-List.append_assoc,<-List.append_assoc];exact aZ
    clear aZ aM bh k0 k1;go_wp2_with fail;go_roundg (l.length-(j+1))
    case measure=>omega
    case rel=>exact⟨j+1,v4,by omega,rfl,by go_num,bB⟩
   ·have bz:¬(j:Int)<(l.length:Int):=by omega
    have ej:j=l.length:=by omega
    subst ej;go_wp2_with fail;go_ret2;refine⟨_,rfl,ownsRow_le (ξ6V HS.out.own (by rw[aP.out,List.take_length];simp)) aq.out.size,aq.out.trans (HS.out.below.mono aq.out.size)⟩
 ·have e0:=aF.out (by decide);subst e0;have HA:Hid (∀W v (base:Nat),W.ownsRow base 5 1 v 2 (cellsOf [2,t])->base<=W.heap.size->Calls prog 205 #[v,.int .i64 (u:Int),.int .i64 1] W _):=λW v base ho hb=>ξ3f v base 2 [2,t] u 1 W ho hb (by omega) (by omega) hu;go_enter func184,ntmps184;go_wp2_with fail
  refine(HC.out _ HB.out).mono ?_;rintro e w1 ⟨rfl,ae⟩;have ai:=ξ0 (HB.out.trans (ae.mono HB.out.size));have aj:=ξ0 (aA.out.below ae aA.out.lt);have am:=aj.out.lt;clear ae;obtain⟨c0,c1,c2,c3⟩:=aj.out.cells;rw[ξ4];go_wp2_with fail;refine(HP.out _ ai.out).mono ?_;rintro e w2 ⟨a2,m2,q2,rfl,au,_,_,ah⟩;have aG:m2=0:=by have:=au.2.1;simpa[pr]using this.symm
  subst aG;have aq:=ξ0 (ai.out.trans (ah.mono ai.out.size));have aw:=ξ0 (aj.out.below ah am);clear ah au c0 c1 c2 c3;obtain⟨c0,c1,c2,c3⟩:=aw.out.cells;have aH:=aw.out.lt;rw[ξ4];go_wp2_with fail;refine(HA.out _ _ _ (ξ50 w2 2 t) (by simp)).mono ?_;rintro e w3 ⟨v3,rfl,ax,az,_⟩;have aL:=ξ0 ax;have aC:=ξ0 (aq.out.trans ((((Ξp w2.heap.size w2).alloc (Ξo _) _).trans az).mono aq.out.size));clear ax az c0 c1 c2 c3;go_wp2_with fail;go_loopg [7,47] 0 (λ_ x y wr=>x=v3/\y=.int .i64 0/\wr=w3)
  case atStart=>exact⟨rfl,rfl,rfl⟩
  case round=>
   obtain⟨rfl,rfl,rfl⟩:=hrel;go_wp2_with fail;go_ret2;exact⟨_,rfl,ownsRow_le (ξ6V aL.out (by rw[aP.out];simp[A06])) aq.out.size,aC.out⟩
 ·have e0:=aF.out (by decide);subst e0;have HA:Hid (∀W v (base:Nat),W.ownsRow base 5 1 v 2 (cellsOf [3,t])->base<=W.heap.size->Calls prog 205 #[v,.int .i64 (u:Int),.int .i64 4] W _):=λW v base ho hb=>ξ3f v base 2 [3,t] u 4 W ho hb (by omega) (by omega) hu;go_enter func184,ntmps184;go_wp2_with fail
  refine(HC.out _ HB.out).mono ?_;rintro e w1 ⟨rfl,ae⟩;have ai:=ξ0 (HB.out.trans (ae.mono HB.out.size));have aj:=ξ0 (aA.out.below ae aA.out.lt);have am:=aj.out.lt;clear ae;obtain⟨c0,c1,c2,c3⟩:=aj.out.cells;rw[ξ4];go_wp2_with fail;refine(HP.out _ ai.out).mono ?_;rintro e w2 ⟨a2,m2,q2,rfl,au,_,_,ah⟩;have aG:m2=0:=by have:=au.2.1;simpa[pr]using this.symm
  subst aG;have aq:=ξ0 (ai.out.trans (ah.mono ai.out.size));have aw:=ξ0 (aj.out.below ah am);clear ah au c0 c1 c2 c3;obtain⟨c0,c1,c2,c3⟩:=aw.out.cells;have aH:=aw.out.lt;rw[ξ4];go_wp2_with fail;refine(HA.out _ _ _ (ξ50 w2 3 t) (by simp)).mono ?_;rintro e w3 ⟨v3,rfl,ax,az,_⟩;have aL:=ξ0 ax;have aC:=ξ0 (aq.out.trans ((((Ξp w2.heap.size w2).alloc (Ξo _) _).trans az).mono aq.out.size));clear ax az c0 c1 c2 c3;go_wp2_with fail;go_loopg [7,47] 0 (λ_ x y wr=>x=v3/\y=.int .i64 0/\wr=w3)
  case atStart=>exact⟨rfl,rfl,rfl⟩
  case round=>
   obtain⟨rfl,rfl,rfl⟩:=hrel;go_wp2_with fail;go_ret2;exact⟨_,rfl,ownsRow_le (ξ6V aL.out (by rw[aP.out];simp[A06])) aq.out.size,aC.out⟩
theorem ξ5U(hk:k<256)(ht:t<256):∀c∈A0c k t L u,c<256:=by
 intro c hc;simp only[A0c,tail,Ξf,Ξe]at hc;rcases hc with rfl|rfl|hc|hc
 ·omega
 ·omega
 ·split at hc
  ·exact ξ4V _ _ c hc
  ·split at hc
   ·exact ξ4V _ _ c hc
   ·simp at hc
 ·exact ξb7 _ c hc
def A8l(k t:Int)(L:List Int)(u:Int):List Nat:=if A0o k t L u=0 then A0c k t L u else[]
theorem ξa8(k t:Int)(a:Option Addr)(n cap:Nat)(u:Int)(L:List Int)(w:World)(h:A0b w a n L)(hn:a=none->n=0/\cap=0) :
 Calls prog 184 #[.agg #[.int .i64 k,.int .i64 t,.slice a n cap,.int .i64 u]] w λe w'=>∃a' m c',e=.returned (.tuple #[.slice a' m c',A0a (A0o k t L u)])/\Arg w' a' m (A8l k t L u)/\(a'=none->m=0/\c'=0)/\m<=c'/\Below w.heap.size w w':=by
 by_cases hf:A0o k t L u=0
 ·obtain⟨hc,hp⟩:=ξY hf;obtain⟨hk,t1,t8,u0,um,_⟩:=ξ1k hc;obtain⟨k',rfl⟩:∃x:Nat,k=x:=⟨k.toNat,by omega⟩;obtain⟨t',rfl⟩:∃x:Nat,t=x:=⟨t.toNat,by omega⟩;obtain⟨u',rfl⟩:∃x:Nat,u=x:=⟨u.toNat,by omega⟩;refine(ξ1W k' t' a n cap u' L w h hn hf).mono ?_;rintro e w' ⟨v',rfl,ho,hb⟩;have ae:(A0c k' t' L u').length<=9223372036854775807:=by
   have h1:=(ξ1M hp).2.2.2.2.1;have h2:=(ξX hp).1;have h3:(tail k' L u').length<=4+(A06 (A1p L)).length:=by
    unfold tail;split
    ·simp[ξ1f]
    ·split
     ·simp[ξ1f]
     ·simp
   rw[ξ31]at h3;simp only[A0c,List.length_cons];omega
  obtain⟨a',c',rfl,hA,h0,h1,_⟩:=ξy ho (ξ5U (by omega) (by omega)) ae;refine⟨a',_,c',by rw[hf];rfl,?_,h0,h1,hb⟩;rw[A8l,if_pos hf];exact hA
 ·refine(ξa9 k t a n cap u L w h hn hf).mono ?_;rintro e w' ⟨rfl,hb⟩;refine⟨none,0,0,rfl,?_,λ_=>⟨rfl,rfl⟩,Ξo _,hb⟩;rw[A8l,if_neg hf];exact⟨Bys.nil _ _,rfl,by omega⟩
theorem A4s:prog.underlying 36=some (.slice (prog.elem 36)):=by kernel_rfl
theorem A3j:prog.elem 36=5:=by kernel_rfl
theorem A4t(w:World):(sizeOf 5).run prog w=.ok 1 w:=by
 obtain⟨i0,ae,ai,ah,aj⟩:=info_parts info5;simp[sizeOf,typeInfo,ae,ah]
def cutAt(a:Option Addr)(cap l:Nat):Option Addr:=if cap=l then a else a.map (·.add l)
theorem ξ1j{len cap l h:Nat}{L:List Nat}(hA:Arg w a len L)(hlh:l<=h)(hh:h<=len)(hc:len<=cap):Arg w (cutAt a cap l) (h-l) ((L.drop l).take (h-l)):=by
 have hl:=hA.2.1;refine⟨⟨λc hc=>hA.1.1 c (List.mem_of_mem_drop (List.mem_of_mem_take hc)),λj hj=>?_⟩,by simp;omega,by have:=hA.2.2;omega⟩;simp only[List.length_take,List.length_drop]at hj;obtain⟨b,o,e,ae⟩:=hA.1.2 (l+j) (by omega);subst e;refine⟨b,o+l,?_,?_⟩
 ·unfold cutAt;rw[if_neg (by omega)];simp only[Option.map_some,Option.some.injEq];unfold Addr.add;split<;>simp_all
 ·rw[Nat.add_assoc,ae,Ξa,Ξa,List.getElem?_take_of_lt (by omega),List.getElem?_drop]
theorem ξ4R(a:Option Addr)(len cap l h:Nat)(hlh:l<=h)(hh:h<=cap)(w:World) :
 (Instr.slice 36 (.slice a len cap) (some (.int .i64 (l:Int))) (some (.int .i64 (h:Int))) none).run prog w=.ok (.slice (cutAt a cap l) (h-l) (cap-l)) w:=by
 rw[run_slice_lh w 36 a len cap A4s .i64 .i64 l h (by omega) (by omega) (by omega),A3j,A4t];simp[Result.andThen,sliced,cutAt]
theorem ξ29(a:Option Addr)(len cap l:Nat)(hl:l<=len)(w:World) :
 (Instr.slice 36 (.slice a len cap) (some (.int .i64 (l:Int))) none none).run prog w=.ok (.slice (cutAt a cap l) (len-l) (cap-l)) w:=by
 rw[run_slice_l w 36 a len cap A4s .i64 l (by omega) (by omega),A3j,A4t];simp[Result.andThen,sliced,cutAt]
theorem ξae(a:Option Addr)(len cap h:Nat)(hh:h<=cap)(w:World) :
 (Instr.slice 36 (.slice a len cap) none (some (.int .i64 (h:Int))) none).run prog w=.ok (.slice a h cap) w:=by
 rw[run_slice_h w 36 a len cap A4s .i64 h (by omega) (by omega),A3j,A4t];simp[Result.andThen,sliced,Addr.add_zero']
theorem ξ1q{L:List Nat}(h:Arg w a n L)(hn:0<n):∃b o,a=some ⟨b,o,none⟩:=by
 obtain⟨b,o,e,_⟩:=h.1.2 0 (by have:=h.2.1;omega);exact⟨b,o,e⟩
theorem ξf{b o:Nat}{L:List Nat}(h:Arg w (some ⟨b,o,none⟩) n L)(j:Nat)(hj:j<n):w.cell? ⟨b,o+j,none⟩=some (.int .u8 (L.getD j 0:Nat)):=by
 obtain⟨b',o',e,hc⟩:=h.1.2 j (by have:=h.2.1;omega);simp only[Option.some.injEq,Addr.mk.injEq,and_true]at e;obtain⟨rfl,rfl⟩:=e;exact hc
theorem ξ5t(a:Option Addr)(n cap:Nat)(w:World)(h:n<2):Calls prog 182 #[.slice a n cap] w λe w'=>e=.returned (.bool true)/\w'=w:=by
 have d:decide ((n:Int)<2)=true:=by simp;omega
 go_enter func182,ntmps182;go_wp2_with fail
 go_ret;exact⟨rfl,rfl⟩
theorem ξaK(b o cap k t:Nat)(r:List Nat)(w:World)(hk:k<256)(hmax:r.length+2<=9223372036854775807)(c0:w.cell? ⟨b,o,none⟩=some (.int .u8 (k:Int))) :
 Calls prog 182 #[.slice (some ⟨b,o,none⟩) (r.length+2) cap] w λe w'=>e=.returned (.bool (A1m (k::t::r)))/\w'=w:=by
 obtain⟨R,hR⟩:=nm (A1m (k::t::r));rw[hR];have hw:IntKind.i64.wrap (k:Int)=(k:Int):=by rw[IntKind.wrap_i64];omega
 have ae:((r.length:Int)).tmod 4=((r.length%4:Nat):Int):=rfl;simp only[A1m]at hR;have HR:=ξ0 hR;clear hR;generalize r.length=m at *;by_cases k1:k=1
 ·subst k1;by_cases p:m<4
  ·have d:decide ((m:Int)<4)=true:=by simp;omega
   obtain rfl:R=true:=by rw[<-HR.out];simp[p]
   go_enter func182,ntmps182;go_wp2_with fail
   go_ret;exact⟨rfl,rfl⟩
  ·have d:decide ((m:Int)<4)=false:=by simp;omega
   have hR:R=!(((m%4:Nat):Int)==0):=by
    rw[<-HR.out,Bool.eq_iff_iff];simp only[if_pos,decide_eq_false p,Bool.false_or,decide_eq_true_eq,Bool.not_eq_true',beq_eq_false_iff_ne];omega
   subst hR;generalize m%4=x at *;go_enter func182,ntmps182;go_wp2_with fail
   go_ret;exact⟨rfl,rfl⟩
 by_cases k2:k=2
 ·subst k2;have hR:R=decide ((m:Int)<1):=by rw[<-HR.out,Bool.eq_iff_iff];simp;omega
  subst hR;go_enter func182,ntmps182;go_wp2_with fail
  go_ret;exact⟨rfl,rfl⟩
 by_cases k3:k=3
 ·subst k3;have hR:R=decide ((m:Int)<4):=by rw[<-HR.out,Bool.eq_iff_iff];simp;omega
  subst hR;go_enter func182,ntmps182;go_wp2_with fail
  go_ret;exact⟨rfl,rfl⟩
 have e1:((k:Int)==1)=false:=by rw[beq_eq_false_iff_ne];omega
 have e2:((k:Int)==2)=false:=by rw[beq_eq_false_iff_ne];omega
 have e3:((k:Int)==3)=false:=by rw[beq_eq_false_iff_ne];omega
 obtain rfl:R=false:=by rw[<-HR.out];simp[k1,k2,k3]
 go_enter func182,ntmps182;go_wp2_with fail
 go_ret;exact⟨rfl,rfl⟩
structure QSt(w wr:World)(B:List Nat)(aR:Option Addr)(nR cR:Nat)(r:List Nat)(l:List (Int×Int))(v:Value):Prop where
 below:Below w.heap.size w wr
 own:wr.ownsRow w.heap.size 297 2 v l.length (pc l)
 rest:Arg w aR nR r
 le:nR<=cR
 is:l++A19 r=A19 B
theorem four(h:4<=r.length):∃x0 x1 x2 x3 R,r=x0::x1::x2::x3::R:=by
 match r,h with
 | x0::x1::x2::x3::R,_=>exact⟨x0,x1,x2,x3,R,rfl⟩
theorem few(h:r.length<4):A19 r=[]:=by
 match r,h with
 | [],_=>rfl
 | [_],_=>rfl
 | [_,_],_=>rfl
 | [_,_,_],_=>rfl
theorem ξ68(a:Option Addr)(n cap:Nat)(B:List Nat)(w:World)(h:Arg w a n B)(hc:n<=cap)(hn:n<=1000000) :
 Calls prog 201 #[.slice a n cap] w λe w'=>∃v',e=.returned v'/\w'.ownsRow w.heap.size 297 2 v' (A19 B).length (pc (A19 B))/\Below w.heap.size w w':=by
 obtain⟨i0,aj,am,aq,au⟩:=info_parts A9b;have aw:Hid (QSt w w B a n cap B [] (.slice none 0 0)):=⟨Ξp _ _,Ξr _ _ _ _,h,hc,rfl⟩;have HL:Hid (∀l r,l++A19 r=A19 B->l.length<=1000000):=λl r he=>by
  have h1:∀(s:Nat) (r:List Nat),r.length<=s->(A19 r).length<=s:=by
   intro s
   induction s with
   | zero=>intro r hr;rw[few (by omega)];simp
   | succ s ih=>
     intro r hr;by_cases h4:4<=r.length
     ·obtain⟨x0,x1,x2,x3,R,rfl⟩:=four h4;have:=ih R (by simp at hr;omega);rw[ξ30,List.length_cons];omega
     ·rw[few (by omega)];simp
  have h2:=h1 n B (by rw[h.2.1];exact Ξo _);have h3:(l++A19 r).length=(A19 B).length:=by rw[he]
  rw[Ξh]at h3;omega
 clear h hc;go_enter func201,ntmps201;go_wp2_with fail
 go_loopg [0,3] n (λg x y wr=>∃(aR:Option Addr) (cR:Nat) (r:List Nat) (l:List (Int×Int)) (v:Value),g<=n/\x=.slice aR g cR/\y=v/\Hid (QSt w wr B aR g cR r l v))
 case atStart=>exact⟨a,cap,B,[],_,Ξo _,rfl,rfl,aw⟩
 case round=>
  obtain⟨aR,cR,r,l,v,aI,rfl,rfl,HS⟩:=hrel;by_cases h4:4<=gk
  ·have d:decide ((4:Int)<=(gk:Int))=true:=by simp;omega
   have ax:=HS.out.rest.2.1;obtain⟨x0,x1,x2,x3,R,rfl⟩:=four (r:=r) (by omega);have ai:=HS.out.le;have hl:=HL.out _ _ HS.out.is;have aJ:∀w,(Instr.slice 36 (.slice aR gk cR) none (some (.int .i64 2)) none).run prog w=.ok (.slice aR 2 cR) w:=λw=>ξae aR gk cR 2 (by omega) w;have aL:∀w,(Instr.slice 36 (.slice aR gk cR) (some (.int .i64 2)) (some (.int .i64 4)) none).run prog w=.ok (.slice (cutAt aR cR 2) 2 (cR-2)) w:=λw=>ξ4R aR gk cR 2 4 (by omega) (by omega) w;have aM:∀w,(Instr.slice 36 (.slice aR gk cR) (some (.int .i64 4)) none none).run prog w=.ok (.slice (cutAt aR cR 4) (gk-4) (cR-4)) w:=λw=>ξ29 aR gk cR 4 (by omega) w;have ay:Hid (∀W,Hid (Below w.heap.size w W)->Calls prog 202 #[.slice aR 2 cR] W λe w'=>e=.returned (.int .i64 (val [x0,x1]:Int))/\w'=W):=λW hW=>ξ1T aR 2 cR [x0,x1] W ((HS.out.rest.take 2 (by omega)).below hW.out) (by omega);have az:Hid (∀W,Hid (Below w.heap.size w W)->Calls prog 202 #[.slice (cutAt aR cR 2) 2 (cR-2)] W λe w'=>e=.returned (.int .i64 (val [x2,x3]:Int))/\w'=W):=λW hW=>by
    have:=ξ1j (l:=2) (h:=4) HS.out.rest (by omega) (by omega) ai;exact ξ1T _ 2 _ [x2,x3] W (this.below hW.out) (by omega)
   have aA:Hid (Arg w (cutAt aR cR 4) (gk-4) R):=by
    have:=ξ1j (l:=4) (h:=gk) HS.out.rest (by omega) (Ξo _) ai;rw[show(x0::x1::x2::x3::R).drop 4=R from rfl,Ξl (by simp at ax;omega)]at this;exact this
   have HI:Hid ((l++[((val [x0,x1]:Int),(val [x2,x3]:Int))])++A19 R=A19 B):=by
    have:=HS.out.is;rw[ξ30]at this;show _=_;rw[List.append_assoc];exact this
   generalize ((val [x0,x1]:Nat):Int)=y0 at *;generalize ((val [x2,x3]:Nat):Int)=y1 at *;generalize aC:cutAt aR cR 2=a2 at *;generalize aD:cR-2=k2 at *;generalize cutAt aR cR 4=a4 at *;clear aC aD;have aO:Hid (Below w.heap.size w wr.drew):=HS.out.below.drew;have aE:Hid (∀W O,Hid (Below w.heap.size w W)->Hid (Below w.heap.size w (W.alloc O))):=λW O hW=>hW.out.alloc hW.out.size _;go_wp2_with fail
   go_region_held3 (λw'=>Hid (Below w.heap.size w w')) (first|with_reducible assumption|exact aE.out _ _ (by with_reducible assumption)|exact ξ0 (((HS.out.below.alloc HS.out.below.size _).drew).grown ae (by have:=HS.out.below.size;simp;omega) (λj hj=>(HS.out.own.lt j hj).1)))
    (first
      | (go_at_call_of 202 k2;refine(az.out _ ?_).mono ?_;assumption;rintro e w' ⟨rfl,rfl⟩)
      | (go_at_call_of 202 cR;refine(ay.out _ ?_).mono ?_;assumption;rintro e w' ⟨rfl,rfl⟩)
      | (refine step_append_lies _ (by rfl) _ _ _ (by rfl) w.heap.size 297 i0 _ 2 16 underlying290 aj am aq au rfl (by omega) _ l.length (pc l) (by rfl) ((HS.out.own.alloc _).drew)
          ⟨wr.heap.size,0,none⟩ 1 1 [.int .i64 y0,.int .i64 y1] (by rfl) (by rfl) (World.news_of_block (cs:=#[.int .i64 y0,.int .i64 y1]) (t:=297) (fr:=(0,0)) (heap_alloc_new wr _)) (by simp[Value.oneCell'])
          (by omega) (by unfold maxLen;omega) (by omega) (by have:=HS.out.below.size;simp;omega) (wr.heap.size+1) (by simp) ?_;intro gg c3 w3 ah ae aF aG))
   have aH:Hid (QSt w w3 B a4 (gk-4) (cR-4) R (l++[(y0,y1)]) (.slice (some ⟨gg,0,none⟩) (l.length+1) c3)):=by
    refine⟨((HS.out.below.alloc HS.out.below.size _).drew).grown ae (by have:=HS.out.below.size;simp;omega) (λj hj=>(HS.out.own.lt j hj).1),?_,aA.out,by omega,HI.out⟩;rw[Ξh,ξ3q];exact ah
   clear ah ae aF aG;go_wp2_with fail;go_roundg (gk-4)
   case measure=>omega
   case rel=>exact⟨a4,cR-4,R,_,_,by omega,rfl,rfl,aH⟩
  ·have d:decide ((4:Int)<=(gk:Int))=false:=by simp;omega
   go_wp2_with fail
   go_ret;have h1:=HS.out.own;have h2:=HS.out.is;rw[few (by have:=HS.out.rest.2.1;omega),Ξu]at h2;rw[h2]at h1;exact⟨_,rfl,h1,HS.out.below⟩
theorem A02.free(h:A02 w g k t sv u)(j:Nat):w.frozen? ⟨g,j,none⟩=false:=by
 unfold A02 at h;simp[World.frozen?,h]
theorem A02.alloc(h:A02 w g k t sv u)(o:Obj):A02 (w.alloc o) g k t sv u:=(Below.heap_alloc _ _ _ h.lt).trans h
theorem A02.drewN(h:A02 w g k t sv u)(q:Nat):A02 (w.drewN q) g k t sv u:=h
theorem A02.set2{sv':Value}(h:A02 w g k t sv u):A02 (w.setCell ⟨g,2,none⟩ sv') g k t sv' u:=heap_setCell_same _ _ 2 _ _ sv' h
theorem A02.other(h:A02 w g k t sv u)(hp:g≠p.block)(v:Value):A02 (w.setCell p v) g k t sv u:=by
 unfold A02;rw[Below.heap_setCell _ _ _ _ hp];exact h
theorem A02.put(h:A02 w g k t sv u)(k' t':Int)(sv':Value)(u':Int) :
 A02 ((((w.setCell ⟨g,0,none⟩ (.int .i64 k')).setCell ⟨g,1,none⟩ (.int .i64 t')).setCell ⟨g,2,none⟩ sv').setCell ⟨g,3,none⟩ (.int .i64 u')) g k' t' sv' u':=by
 have h0:=heap_setCell_same _ _ 0 _ _ (.int .i64 k') h;have h1:=heap_setCell_same _ _ 1 _ _ (.int .i64 t') h0;have h2:=heap_setCell_same _ _ 2 _ _ sv' h1;exact heap_setCell_same _ _ 3 _ _ (.int .i64 u') h2
theorem A0b.set(h:A0b w a n L)(hp:∀ad,a=some ad->ad.block≠p.block)(v:Value):A0b (w.setCell p v) a n L:=by
 refine⟨λj hj=>?_,h.2⟩;obtain⟨b,o,e,hc⟩:=h.1 j hj;exact⟨b,o,e,(World.cell?_of_block (Below.heap_setCell w p v b (hp _ e))).trans hc⟩
theorem ξ7J(a:Option Addr)(n cap:Nat)(l:List (Int×Int))(w:World)(h:A04 w a n l) :
 Calls prog 200 #[.slice a n cap] w λe w'=>∃a' m c',e=.returned (.tuple #[.slice a' m c',A0a (A1l l)])/\A0b w' a' m (numsOf l)/\(a'=none->m=0/\c'=0)/\(∀ad,a'=some ad->w.heap.size<=ad.block)/\Below w.heap.size w w':=by
 by_cases hf:A1l l=0
 ·refine(ξ6Z a n cap l w h hf).mono ?_;rintro e w' ⟨v',rfl,ho,hb⟩;have ae:(norm (told (l.map np))).length<=9223372036854775807:=by
   have h1:=(ξ1P (l.map np)).2;have h2:=ξ1y (told (l.map np));have h3:=(ξ3Y hf).1;rw[Ξm]at h1;omega
  obtain⟨a',c',rfl,hP,h0,h1,h2⟩:=ξl ho ae;refine⟨a',_,c',by rw[hf];rfl,?_,h0,λad e=>?_,hb⟩
  ·rw[numsOf,if_pos hf];exact hP
  ·obtain⟨g,rfl,hg,_⟩:=h2 ad e;exact hg
 ·refine(ξ7K a n cap l w h hf).mono ?_;rintro e w' ⟨rfl,hb⟩;refine⟨none,0,0,rfl,?_,λ_=>⟨rfl,rfl⟩,λad e=>by simp at e,hb⟩;rw[numsOf,if_neg hf];exact A0b.nil _ _
theorem ξ1t{fn:Func}{tmps:Array Value}{j:Nat}(hf:fn.results=#[.cell i 242,.tmp j])(hi:tmps.getD i undef=.pointer (some ⟨g,0,none⟩))(hb:A02 w g k t sv u)(hs:∃a n c,sv=.slice a n c) :
 (results fn tmps).run prog w=.ok (.tuple #[.agg #[.int .i64 k,.int .i64 t,sv,.int .i64 u],tmps.getD j undef]) w:=by
 obtain⟨c0,c1,c2,c3⟩:=hb.cells;obtain⟨a,n,c,rfl⟩:=hs;have ae:tmps[i]?.getD undef=.pointer (some ⟨g,0,none⟩):=by simpa using hi
 simp[results,hf,ae,go_sem,c0,c1,c2,c3]
theorem ξ7I(b o n cap k t:Nat)(r:List Nat)(w:World)(h:Arg w (some ⟨b,o,none⟩) n (k::t::r))(hc:n<=cap)(h1:k≠1)(h2:k≠2)(h3:k≠3) :
 Calls prog 183 #[.slice (some ⟨b,o,none⟩) n cap] w λe w'=>e=.returned (.tuple #[.agg #[.int .i64 (k:Int),.int .i64 (t:Int),.slice none 0 0,.int .i64 0],.bool true])/\Below w.heap.size w w':=by
 have hn:n=r.length+2:=by have:=h.2.1;simpa using this.symm
 have ah:=h.2.2;have hk:=h.1.1 k (by simp);have ht:=h.1.1 t (by simp);have c0:=ξf h 0 (by omega);have c1:=ξf h 1 (by omega);have ae:=Ξq w _ c0;simp only[List.getD_cons_zero,List.getD_cons_succ,Nat.add_zero]at c0 c1;have d0:∀O,(w.alloc O).cell? ⟨b,o,none⟩=some (.int .u8 (k:Nat)):=λO=>(((Ξp _ _).alloc (Ξo _) O).cell (p:=⟨b,o,none⟩) ae).trans c0;have d1:∀O,(w.alloc O).cell? ⟨b,o+1,none⟩=some (.int .u8 (t:Int)):=λO=>(((Ξp _ _).alloc (Ξo _) O).cell (p:=⟨b,o+1,none⟩) ae).trans c1;have ai:IntKind.i64.wrap (t:Int)=(t:Int):=by rw[IntKind.wrap_i64];omega
 have es:∀w,(Instr.slice 36 (.slice (some ⟨b,o,none⟩) n cap) (some (.int .i64 2)) none none).run prog w=.ok (.slice (cutAt (some ⟨b,o,none⟩) cap 2) (n-2) (cap-2)) w:=λw=>ξ29 (some ⟨b,o,none⟩) n cap 2 (by omega) w;have HR:Hid (Arg w (cutAt (some ⟨b,o,none⟩) cap 2) (n-2) r):=by
  have:=ξ1j (l:=2) (h:=n) h (by omega) (Ξo _) hc;rw[show(k::t::r).drop 2=r from rfl,Ξl (by omega)]at this;exact this
 have n1:(1:Int)<(n:Int):=by omega
 have n0:(0:Int)<(n:Int):=by omega
 have aj:IntKind.i64.wrap (k:Int)=(k:Int):=by rw[IntKind.wrap_i64];omega
 have e1:((k:Int)==1)=false:=by rw[beq_eq_false_iff_ne];omega
 have e2:((k:Int)==2)=false:=by rw[beq_eq_false_iff_ne];omega
 have e3:((k:Int)==3)=false:=by rw[beq_eq_false_iff_ne];omega
 generalize cutAt (some ⟨b,o,none⟩) cap 2=aR at *;clear h hc hn h1 h2 h3 c0 c1 HR;go_enter func183,ntmps183;go_wp2_with fail
 go_region
 go_wp2_with fail
 refine bodyPost_ret (ξ1t (g:=w.heap.size) rfl rfl ((A02.new w k t (.slice none 0 0) 0).alloc _) ⟨_,_,_,rfl⟩) rfl ?_;exact⟨rfl,(((Ξp w.heap.size w).alloc (Ξo _) _).alloc (by simp) _).drew⟩
theorem ξba(b o n cap t:Nat)(r:List Nat)(w:World)(h:Arg w (some ⟨b,o,none⟩) n (2::t::r))(hc:n<=cap)(hr:1<=r.length) :
 Calls prog 183 #[.slice (some ⟨b,o,none⟩) n cap] w λe w'=>e=.returned (.tuple #[.agg #[.int .i64 2,.int .i64 (t:Int),.slice none 0 0,.int .i64 (val (r.take 1):Int)],.bool true])/\Below w.heap.size w w':=by
 have hn:n=r.length+2:=by have:=h.2.1;simpa using this.symm
 have ah:=h.2.2;have hk:=h.1.1 2 (by simp);have ht:=h.1.1 t (by simp);have c0:=ξf h 0 (by omega);have c1:=ξf h 1 (by omega);have ae:=Ξq w _ c0;simp only[List.getD_cons_zero,List.getD_cons_succ,Nat.add_zero]at c0 c1;have d0:∀O,(w.alloc O).cell? ⟨b,o,none⟩=some (.int .u8 (2:Nat)):=λO=>(((Ξp _ _).alloc (Ξo _) O).cell (p:=⟨b,o,none⟩) ae).trans c0;have d1:∀O,(w.alloc O).cell? ⟨b,o+1,none⟩=some (.int .u8 (t:Int)):=λO=>(((Ξp _ _).alloc (Ξo _) O).cell (p:=⟨b,o+1,none⟩) ae).trans c1;have ai:IntKind.i64.wrap (t:Int)=(t:Int):=by rw[IntKind.wrap_i64];omega
 have es:∀w,(Instr.slice 36 (.slice (some ⟨b,o,none⟩) n cap) (some (.int .i64 2)) none none).run prog w=.ok (.slice (cutAt (some ⟨b,o,none⟩) cap 2) (n-2) (cap-2)) w:=λw=>ξ29 (some ⟨b,o,none⟩) n cap 2 (by omega) w;have HR:Hid (Arg w (cutAt (some ⟨b,o,none⟩) cap 2) (n-2) r):=by
  have:=ξ1j (l:=2) (h:=n) h (by omega) (Ξo _) hc;rw[show(2::t::r).drop 2=r from rfl,Ξl (by omega)]at this;exact this
 have n1:(1:Int)<(n:Int):=by omega
 have n0:(0:Int)<(n:Int):=by omega
 have aj:∀w a,(Instr.slice 36 (.slice a (n-2) (cap-2)) none (some (.int .i64 1)) none).run prog w=.ok (.slice a 1 (cap-2)) w:=λw a=>ξae a (n-2) (cap-2) 1 (by omega) w;have HN:Hid (∀W,Below w.heap.size w W->Calls prog 202 #[.slice (cutAt (some ⟨b,o,none⟩) cap 2) 1 (cap-2)] W _):=λW hW=>ξ1T _ 1 (cap-2) (r.take 1) W ((HR.out.take 1 (by omega)).below hW) (by omega);generalize val (r.take 1)=u at *;generalize cutAt (some ⟨b,o,none⟩) cap 2=aR at *;clear h hc hn c0 c1 HR hr;go_enter func183,ntmps183;go_wp2_with fail
 go_region
 go_wp2_with fail
 refine(HN.out _ ((((Ξp w.heap.size w).alloc (Ξo _) _).alloc (by simp) _).drew)).mono ?_;rintro e w1 ⟨rfl,rfl⟩;go_wp2_with fail;refine bodyPost_ret (ξ1t (g:=w.heap.size) rfl rfl ((A02.new w 2 t (.slice none 0 0) u).alloc _) ⟨_,_,_,rfl⟩) rfl ?_;exact⟨rfl,(((Ξp w.heap.size w).alloc (Ξo _) _).alloc (by simp) _).drew⟩
theorem ξ9v(b o n cap t:Nat)(r:List Nat)(w:World)(h:Arg w (some ⟨b,o,none⟩) n (3::t::r))(hc:n<=cap)(hr:4<=r.length) :
 Calls prog 183 #[.slice (some ⟨b,o,none⟩) n cap] w λe w'=>e=.returned (.tuple #[.agg #[.int .i64 3,.int .i64 (t:Int),.slice none 0 0,.int .i64 (val (r.take 4):Int)],.bool true])/\Below w.heap.size w w':=by
 have hn:n=r.length+2:=by have:=h.2.1;simpa using this.symm
 have ah:=h.2.2;have hk:=h.1.1 3 (by simp);have ht:=h.1.1 t (by simp);have c0:=ξf h 0 (by omega);have c1:=ξf h 1 (by omega);have ae:=Ξq w _ c0;simp only[List.getD_cons_zero,List.getD_cons_succ,Nat.add_zero]at c0 c1;have d0:∀O,(w.alloc O).cell? ⟨b,o,none⟩=some (.int .u8 (3:Nat)):=λO=>(((Ξp _ _).alloc (Ξo _) O).cell (p:=⟨b,o,none⟩) ae).trans c0;have d1:∀O,(w.alloc O).cell? ⟨b,o+1,none⟩=some (.int .u8 (t:Int)):=λO=>(((Ξp _ _).alloc (Ξo _) O).cell (p:=⟨b,o+1,none⟩) ae).trans c1;have ai:IntKind.i64.wrap (t:Int)=(t:Int):=by rw[IntKind.wrap_i64];omega
 have es:∀w,(Instr.slice 36 (.slice (some ⟨b,o,none⟩) n cap) (some (.int .i64 2)) none none).run prog w=.ok (.slice (cutAt (some ⟨b,o,none⟩) cap 2) (n-2) (cap-2)) w:=λw=>ξ29 (some ⟨b,o,none⟩) n cap 2 (by omega) w;have HR:Hid (Arg w (cutAt (some ⟨b,o,none⟩) cap 2) (n-2) r):=by
  have:=ξ1j (l:=2) (h:=n) h (by omega) (Ξo _) hc;rw[show(3::t::r).drop 2=r from rfl,Ξl (by omega)]at this;exact this
 have n1:(1:Int)<(n:Int):=by omega
 have n0:(0:Int)<(n:Int):=by omega
 have aj:∀w a,(Instr.slice 36 (.slice a (n-2) (cap-2)) none (some (.int .i64 4)) none).run prog w=.ok (.slice a 4 (cap-2)) w:=λw a=>ξae a (n-2) (cap-2) 4 (by omega) w;have HN:Hid (∀W,Below w.heap.size w W->Calls prog 202 #[.slice (cutAt (some ⟨b,o,none⟩) cap 2) 4 (cap-2)] W _):=λW hW=>ξ1T _ 4 (cap-2) (r.take 4) W ((HR.out.take 4 (by omega)).below hW) (by omega);generalize val (r.take 4)=u at *;generalize cutAt (some ⟨b,o,none⟩) cap 2=aR at *;clear h hc hn c0 c1 HR hr;go_enter func183,ntmps183;go_wp2_with fail
 go_region
 go_wp2_with fail
 refine(HN.out _ ((((Ξp w.heap.size w).alloc (Ξo _) _).alloc (by simp) _).drew)).mono ?_;rintro e w1 ⟨rfl,rfl⟩;go_wp2_with fail;refine bodyPost_ret (ξ1t (g:=w.heap.size) rfl rfl ((A02.new w 3 t (.slice none 0 0) u).alloc _) ⟨_,_,_,rfl⟩) rfl ?_;exact⟨rfl,(((Ξp w.heap.size w).alloc (Ξo _) _).alloc (by simp) _).drew⟩
theorem ξ9x(b o n cap t:Nat)(r:List Nat)(w:World)(h:Arg w (some ⟨b,o,none⟩) n (1::t::r))(hc:n<=cap)(hr:800<r.length) :
 Calls prog 183 #[.slice (some ⟨b,o,none⟩) n cap] w λe w'=>e=.returned (.tuple #[.agg #[.int .i64 0,.int .i64 0,.slice none 0 0,.int .i64 0],.bool false])/\Below w.heap.size w w':=by
 have hn:n=r.length+2:=by have:=h.2.1;simpa using this.symm
 have ah:=h.2.2;have hk:=h.1.1 1 (by simp);have ht:=h.1.1 t (by simp);have c0:=ξf h 0 (by omega);have c1:=ξf h 1 (by omega);have ae:=Ξq w _ c0;simp only[List.getD_cons_zero,List.getD_cons_succ,Nat.add_zero]at c0 c1;have d0:∀O,(w.alloc O).cell? ⟨b,o,none⟩=some (.int .u8 (1:Nat)):=λO=>(((Ξp _ _).alloc (Ξo _) O).cell (p:=⟨b,o,none⟩) ae).trans c0;have d1:∀O,(w.alloc O).cell? ⟨b,o+1,none⟩=some (.int .u8 (t:Int)):=λO=>(((Ξp _ _).alloc (Ξo _) O).cell (p:=⟨b,o+1,none⟩) ae).trans c1;have ai:IntKind.i64.wrap (t:Int)=(t:Int):=by rw[IntKind.wrap_i64];omega
 have es:∀w,(Instr.slice 36 (.slice (some ⟨b,o,none⟩) n cap) (some (.int .i64 2)) none none).run prog w=.ok (.slice (cutAt (some ⟨b,o,none⟩) cap 2) (n-2) (cap-2)) w:=λw=>ξ29 (some ⟨b,o,none⟩) n cap 2 (by omega) w;have HR:Hid (Arg w (cutAt (some ⟨b,o,none⟩) cap 2) (n-2) r):=by
  have:=ξ1j (l:=2) (h:=n) h (by omega) (Ξo _) hc;rw[show(1::t::r).drop 2=r from rfl,Ξl (by omega)]at this;exact this
 have n1:(1:Int)<(n:Int):=by omega
 have n0:(0:Int)<(n:Int):=by omega
 have dl:decide (800<((n-2:Nat):Int))=true:=by simp;omega
 generalize n-2=m at *;generalize cutAt (some ⟨b,o,none⟩) cap 2=aR at *;clear h hc hn c0 c1 HR hr;go_enter func183,ntmps183;go_wp2_with fail
 go_region
 go_wp2_with fail
 refine bodyPost_ret (ξ1t (g:=w.heap.size) rfl rfl ((A02.new w 0 0 (.slice none 0 0) 0).alloc _) ⟨_,_,_,rfl⟩) rfl ?_;exact⟨rfl,(((Ξp w.heap.size w).alloc (Ξo _) _).alloc (by simp) _).drew⟩
theorem ξ9w(b o n cap t:Nat)(r:List Nat)(w:World)(h:Arg w (some ⟨b,o,none⟩) n (1::t::r))(hc:n<=cap)(hr:r.length<=800) :
 Calls prog 183 #[.slice (some ⟨b,o,none⟩) n cap] w λe w'=>∃a' m c',e=.returned (.tuple #[.agg #[.int .i64 1,.int .i64 (t:Int),.slice a' m c',.int .i64 0],.bool (decide (A1l (A19 r)=0))])/\A0b w' a' m (numsOf (A19 r))/\(a'=none->m=0/\c'=0)/\(∀ad,a'=some ad->w.heap.size<=ad.block)/\Below w.heap.size w w':=by
 have hn:n=r.length+2:=by have:=h.2.1;simpa using this.symm
 have aI:=h.2.2;have hk:=h.1.1 1 (by simp);have ht:=h.1.1 t (by simp);have c0:=ξf h 0 (by omega);have c1:=ξf h 1 (by omega);have aw:=Ξq w _ c0;simp only[List.getD_cons_zero,List.getD_cons_succ,Nat.add_zero]at c0 c1;have d0:∀O,(w.alloc O).cell? ⟨b,o,none⟩=some (.int .u8 (1:Nat)):=λO=>(((Ξp _ _).alloc (Ξo _) O).cell (p:=⟨b,o,none⟩) aw).trans c0;have d1:∀O,(w.alloc O).cell? ⟨b,o+1,none⟩=some (.int .u8 (t:Int)):=λO=>(((Ξp _ _).alloc (Ξo _) O).cell (p:=⟨b,o+1,none⟩) aw).trans c1;have aU:IntKind.i64.wrap (t:Int)=(t:Int):=by rw[IntKind.wrap_i64];omega
 have es:∀w,(Instr.slice 36 (.slice (some ⟨b,o,none⟩) n cap) (some (.int .i64 2)) none none).run prog w=.ok (.slice (cutAt (some ⟨b,o,none⟩) cap 2) (n-2) (cap-2)) w:=λw=>ξ29 (some ⟨b,o,none⟩) n cap 2 (by omega) w;have HR:Hid (Arg w (cutAt (some ⟨b,o,none⟩) cap 2) (n-2) r):=by
  have:=ξ1j (l:=2) (h:=n) h (by omega) (Ξo _) hc;rw[show(1::t::r).drop 2=r from rfl,Ξl (by omega)]at this;exact this
 have n1:(1:Int)<(n:Int):=by omega
 have n0:(0:Int)<(n:Int):=by omega
 have dl:decide (800<((n-2:Nat):Int))=false:=by simp;omega
 have aJ:Hid (∀W,Below w.heap.size w W->Calls prog 201 #[.slice (cutAt (some ⟨b,o,none⟩) cap 2) (n-2) (cap-2)] W _):=λW hW=>ξ68 _ (n-2) (cap-2) r W (HR.out.below hW) (by omega) (by omega);have aL:Hid (∀W a m c,A04 W a m (A19 r)->Calls prog 200 #[.slice a m c] W _):=λW a m c hW=>ξ7J a m c (A19 r) W hW;have aM:(A19 r).length<=9223372036854775807:=by
  have h1:∀(s:Nat) (r:List Nat),r.length<=s->(A19 r).length<=s:=by
   intro s
   induction s with
   | zero=>intro r hr;rw[few (by omega)];simp
   | succ s ih=>
     intro r hr;by_cases h4:4<=r.length
     ·obtain⟨x0,x1,x2,x3,R,rfl⟩:=four h4;have:=ih R (by simp at hr;omega);rw[ξ30,List.length_cons];omega
     ·rw[few (by omega)];simp
  have:=h1 _ r (Ξo _);omega
 have aV:=cmp_eq (A1l (A19 r));have aW:=ξ3z (A1l (A19 r));generalize A1l (A19 r)=f at *;generalize numsOf (A19 r)=N at *;generalize decide (f=0)=z at *;generalize A19 r=l at *;generalize n-2=m at *;generalize cutAt (some ⟨b,o,none⟩) cap 2=aR at *;clear h hc hn c0 c1 HR hr;go_enter func183,ntmps183;go_wp2_with fail
 go_region
 go_wp2_with fail
 refine(aJ.out _ ((((Ξp w.heap.size w).alloc (Ξo _) _).alloc (by simp) _).drew)).mono ?_;rintro e w2 ⟨v2,rfl,ax,ay⟩;have ai:Hid (Below (w.heap.size+2) _ w2):=ay.mono (by simp);obtain⟨a2,c2,rfl,az,_⟩:=ξ5d ax aM;have aA:=ξ0 az;clear ax ay az;go_wp2_with fail;refine(aL.out _ _ _ _ aA.out).mono ?_;rintro e w3 ⟨a3,m3,c3,rfl,aC,aD,aE,aj⟩;have aO:w.heap.size+2<=w2.heap.size:=by have:=ai.out.size;simp at this;omega
 have aF:Hid (A02 w3 w.heap.size 0 0 (.slice none 0 0) 0):=((((A02.new w 0 0 (.slice none 0 0) 0).alloc _).drewN 1).below ai.out (by omega)).below aj (by omega);have am:Hid (A02 w3 (w.heap.size+1) 1 t (.slice none 0 0) 0):=by
  have h0:A02 ((w.alloc (.cells #[.int .i64 0,.int .i64 0,.slice none 0 0,.int .i64 0] 242)).alloc (.cells #[.int .i64 1,.int .i64 (t:Int),.slice none 0 0,.int .i64 0] 242)) (w.heap.size+1) 1 t (.slice none 0 0) 0:=by
   have:=A02.new (w.alloc (.cells #[.int .i64 0,.int .i64 0,.slice none 0 0,.int .i64 0] 242)) 1 t (.slice none 0 0) 0;simpa using this
  exact((h0.drewN 1).below ai.out (by omega)).below aj (by omega)
 have aG:Hid (Below w.heap.size w w3):=by
  have h0:=(((Ξp w.heap.size w).alloc (Ξo _) (.cells #[.int .i64 0,.int .i64 0,.slice none 0 0,.int .i64 0] 242)).alloc (by simp) (.cells #[.int .i64 1,.int .i64 (t:Int),.slice none 0 0,.int .i64 0] 242)).drew;exact(h0.trans (ai.out.mono (by omega))).trans (aj.mono (by omega))
 have aH:=ξ0 aC;have au:=ξ0 aE;have aP:=ξ0 aD;clear aj aC aD aE ai aA;obtain⟨k0,k1,k2,k3⟩:=am.out.cells;have kf:=am.out.free 2;go_wp2_with fail
 obtain⟨w4,ae⟩:=nm (w3.setCell ⟨w.heap.size+1,2,none⟩ (.slice a3 m3 c3));rw[ae];have ah:Hid (A02 w4 w.heap.size 0 0 (.slice none 0 0) 0):=ae ▸ aF.out.other (by simp) _;have aQ:Hid (A02 w4 (w.heap.size+1) 1 t (.slice a3 m3 c3) 0):=ae ▸ am.out.set2;have aS:Hid (Below w.heap.size w w4):=ae ▸ aG.out.setCell (by simp) _;have aT:Hid (A0b w4 a3 m3 N):=ae ▸ aH.out.set (λad e=>by have:=au.out ad e;simp;omega) _;clear k0 k1 k2 k3 kf ae aF am aG aH;obtain⟨k0,k1,k2,k3⟩:=aQ.out.cells;obtain⟨j0,j1,j2,j3⟩:=ah.out.cells;have f0:=ah.out.free 0;have f1:=ah.out.free 1;have f2:=ah.out.free 2;have f3:=ah.out.free 3;go_region
 go_wp2_with fail
 have aq:∀ad,a3=some ad->ad.block≠w.heap.size:=λad e=>by have:=au.out ad e;omega
 refine bodyPost_ret (ξ1t (g:=w.heap.size) rfl rfl (A02.drewN (ah.out.put 1 t (.slice a3 m3 c3) 0) 1) ⟨_,_,_,rfl⟩) rfl ?_;exact⟨a3,m3,c3,rfl,(((aT.out.set aq _).set aq _).set aq _).set aq _,aP.out,λad e=>by have:=au.out ad e;omega,((((aS.out.setCell (Ξo _) _).setCell (Ξo _) _).setCell (Ξo _) _).setCell (Ξo _) _).drew⟩
theorem ξbb(b o n cap k t:Nat)(r:List Nat)(w:World)(h:Arg w (some ⟨b,o,none⟩) n (k::t::r))(hc:n<=cap)(hs:A1m (k::t::r)=false) :
 Calls prog 183 #[.slice (some ⟨b,o,none⟩) n cap] w λe w'=>∃(k' t':Int) (a':Option Addr) (m c':Nat) (u':Int),e=.returned (.tuple #[.agg #[.int .i64 k',.int .i64 t',.slice a' m c',.int .i64 u'],.bool (!A2b k r)]) /\
  (A2b k r=false->k'=k/\t'=t/\u'=A2g k r/\A0b w' a' m (A2f k r))/\(a'=none->m=0/\c'=0)/\(∀ad,a'=some ad->w.heap.size<=ad.block)/\Below w.heap.size w w':=by
 by_cases h1:k=1
 ·subst h1;by_cases hr:r.length<=800
  ·refine(ξ9w b o n cap t r w h hc hr).mono ?_;rintro e w' ⟨a',m,c',rfl,hI,hn,ae,hb⟩;have hg:A2b 1 r=decide (A1l (A19 r)≠0):=by simp[A2b];intro h';omega
   refine⟨1,t,a',m,c',0,?_,λ_=>⟨rfl,rfl,by simp[A2g],by simpa[A2f]using hI⟩,hn,ae,hb⟩;rw[hg];simp
  ·refine(ξ9x b o n cap t r w h hc (by omega)).mono ?_;rintro e w' ⟨rfl,hb⟩;have hg:A2b 1 r=true:=by simp[A2b];omega
   exact⟨0,0,none,0,0,0,by rw[hg];rfl,λh'=>by rw[hg]at h';simp at h',λ_=>⟨rfl,rfl⟩,λad e=>by simp at e,hb⟩
 have hg:A2b k r=false:=by simp[A2b,h1]
 by_cases h2:k=2
 ·subst h2;refine(ξba b o n cap t r w h hc (by simp[A1m]at hs;exact Nat.pos_of_ne_zero (by simpa using hs))).mono ?_;rintro e w' ⟨rfl,hb⟩;exact⟨2,t,none,0,0,_,by rw[hg];rfl,λ_=>⟨rfl,rfl,by simp[A2g],by simp[A2f];exact A0b.nil _ _⟩,λ_=>⟨rfl,rfl⟩,λad e=>by simp at e,hb⟩
 by_cases h3:k=3
 ·subst h3;refine(ξ9v b o n cap t r w h hc (by simp[A1m]at hs;omega)).mono ?_;rintro e w' ⟨rfl,hb⟩;exact⟨3,t,none,0,0,_,by rw[hg];rfl,λ_=>⟨rfl,rfl,by simp[A2g],by simp[A2f];exact A0b.nil _ _⟩,λ_=>⟨rfl,rfl⟩,λad e=>by simp at e,hb⟩
 refine(ξ7I b o n cap k t r w h hc h1 h2 h3).mono ?_;rintro e w' ⟨rfl,hb⟩;exact⟨k,t,none,0,0,0,by rw[hg];rfl,λ_=>⟨rfl,rfl,by simp[A2g,h2,h3],by simp[A2f,h1];exact A0b.nil _ _⟩,λ_=>⟨rfl,rfl⟩,λad e=>by simp at e,hb⟩
theorem ξ5u(a:Option Addr)(n cap:Nat)(B:List Nat)(w:World)(h:Arg w a n B):Calls prog 182 #[.slice a n cap] w λe w'=>e=.returned (.bool (A1m B))/\w'=w:=by
 have hl:=h.2.1
 match B,h,hl with
 | [],h,hl=>exact ξ5t a n cap w (by simp at hl;omega)
 | [_],h,hl=>exact ξ5t a n cap w (by simp at hl;omega)
 | k::t::r,h,hl=>
   obtain⟨b,o,rfl⟩:=ξ1q h (by simp at hl;omega);have c0:=ξf h 0 (by simp at hl;omega);obtain rfl:n=r.length+2:=by simpa using hl.symm
   exact ξaK b o cap k t r w (h.1.1 k (by simp)) h.2.2 (by simpa using c0)
def A4b(A:List Nat):List Int:=A.map λ(c:Nat)=>(c:Int)
theorem ξdc(A:List Nat)(i:Nat):(A4b A).getD i 0=(A.getD i 0:Nat):=by
 simp only[A4b,Ξa,List.getElem?_map];cases A[i]?<;>simp
theorem ξ46:∀{A B:List Nat},(∀c∈A,c<256)->(∀c∈B,c<256)->bytesOf (A4b A)=bytesOf (A4b B)->A=B
 | [],[],_,_,_=>rfl
 | [],_::_,_,_,h=>by simp[bytesOf,A4b]at h
 | _::_,[],_,_,h=>by simp[bytesOf,A4b]at h
 | a::A,b::B,hA,hB,h=>by
   have h':UInt8.ofNat a=UInt8.ofNat b/\bytesOf (A4b A)=bytesOf (A4b B):=by simpa[bytesOf,A4b]using h
   have ha:=hA a (List.mem_cons_self ..);have hb:=hB b (List.mem_cons_self ..);have e:a=b:=by
    have:=congrArg UInt8.toNat h'.1;simpa[UInt8.toNat_ofNat',Nat.mod_eq_of_lt ha,Nat.mod_eq_of_lt hb]using this
   rw[e,ξ46 (λc hc=>hA c (List.mem_cons_of_mem _ hc)) (λc hc=>hB c (List.mem_cons_of_mem _ hc)) h'.2]
theorem ξ7v{A:List Nat}(h:Arg w a n A):BytesIn w a n (A4b A):=λhn=>by
 obtain⟨b,o,e⟩:=ξ1q h hn;subst e;exact⟨b,o,rfl,λi hi=>by rw[ξdc];exact ξf h i hi⟩
theorem ξ2y(a b:Option Addr)(n c m d:Nat)(A B:List Nat)(w:World)(hA:Arg w a n A)(hB:Arg w b m B) :
 Calls prog 128 #[.slice a n c,.slice b m d] w λe w'=>e=.returned (.bool (decide (A=B)))/\w'=w:=by
 have:=Tryz.bytes_Equal_all a b n c m d (A4b A) (A4b B) w (by simp[A4b,hA.2.1]) (by simp[A4b,hB.2.1]) (ξ7v hA) (ξ7v hB);have e:(bytesOf (A4b A)==bytesOf (A4b B))=decide (A=B):=by
  rw[Bool.eq_iff_iff,beq_iff_eq,decide_eq_true_eq];exact⟨λh=>ξ46 hA.1.1 hB.1.1 h,λh=>by rw[h]⟩
 rw[e]at this;exact this
def Reads(w w':World)(B:List Nat)(k' t':Int)(a':Option Addr)(m c':Nat)(u':Int):Prop:=
 (a'=none->m=0/\c'=0)/\Below w.heap.size w w'/\(A0y B≠0->k'=0/\t'=0/\u'=0/\A0b w' a' m []) /\
   (A0y B=0->∃k t r,B=k::t::r/\A1m B=false/\A3k k t r=0/\k'=(k:Nat)/\t'=(t:Nat)/\u'=A2g k r/\A0b w' a' m (A2f k r))
theorem ξ2Y(a:Option Addr)(n cap:Nat)(B:List Nat)(w:World)(h:Arg w a n B)(hs:A1m B=true) :
 Calls prog 149 #[.slice a n cap] w λe w'=>e=.returned (.tuple #[.agg #[.int .i64 0,.int .i64 0,.slice none 0 0,.int .i64 0],A0a 8])/\Below w.heap.size w w':=by
 have HS:Hid (∀W,Below w.heap.size w W->Calls prog 182 #[.slice a n cap] W λe w'=>e=.returned (.bool true)/\w'=W):=λW hW=>by
  have:=ξ5u a n cap B W (h.below hW);rw[hs]at this;exact this
 clear h hs;go_enter func149,ntmps149;go_wp2_with fail
 refine(HS.out _ ((Ξp _ _).alloc (Ξo _) _)).mono ?_;rintro e w1 ⟨rfl,rfl⟩;go_wp2_with fail;refine bodyPost_ret (ξ1t (g:=w.heap.size) rfl rfl (A02.new w 0 0 (.slice none 0 0) 0) ⟨_,_,_,rfl⟩) rfl ?_;exact⟨rfl,(Ξp _ _).alloc (Ξo _) _⟩
end Go.Proofs.YtpiamlgmadnepaaGreat.Back
