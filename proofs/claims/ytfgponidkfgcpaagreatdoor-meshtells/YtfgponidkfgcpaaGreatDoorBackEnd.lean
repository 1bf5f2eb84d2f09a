/-
  BackH, BackI, BackJ in one text.
-/
import Derived.Test.YtfgponidkfgcpaaGreatDoorBackAll
namespace Go.Proofs.YtfgponidkfgcpaaGreatDoor.Back
open Go.ChangeShapes Go.WideShapes Go.ChangeAt Go.RowKit Go.Sort Go.Lib Go.Proofs.YtfgponidkfgcpaaGreatDoor.BM Go.Proofs.YtfgponidkfgcpaaGreatDoor.Mem
set_option linter.unusedVariables false
theorem most_calls (k:Int) (w:World):Calls Tryz.prog 191 #[.int .i64 k] w fun e w'=>e=.returned (.int .i64 (most k))∧w'=w:=by
  by_cases h1:k=1
  · subst h1
    go_enter Tryz.func191,Tryz.ntmps191
    go_wp2_with fail
    go_ret
    exact ⟨rfl,rfl⟩
  by_cases h2:k=2
  · subst h2
    go_enter Tryz.func191,Tryz.ntmps191
    go_wp2_with fail
    go_ret
    exact ⟨rfl,rfl⟩
  by_cases h3:k=3
  · subst h3
    go_enter Tryz.func191,Tryz.ntmps191
    go_wp2_with fail
    go_ret
    exact ⟨rfl,rfl⟩
  have hm:most k=-1:=by simp [most,h1,h2,h3]
  rw [hm]
  go_enter Tryz.func191,Tryz.ntmps191
  go_wp2_with fail
  go_ret
  exact ⟨rfl,rfl⟩
theorem rises_snoc {K:List Int} {y z:Int} (h:Rises (K++[y])) (hz:y<z):Rises (K++[y]++[z]):=by
  refine List.pairwise_append.2 ⟨h,List.pairwise_singleton _ _,fun a ha b hb=>?_⟩
  obtain rfl:=List.mem_singleton.1 hb
  rcases List.mem_append.1 ha with ha | ha
  · have:=(List.pairwise_append.1 h).2.2 a ha y (by simp);omega
  · obtain rfl:=List.mem_singleton.1 ha;exact hz
theorem rises_take {L:List Int} {i:Nat} (hi:1≤i) (hl:i<L.length) (h:Rises (L.take i)) (hx:L.getD (i - 1) 0<L.getD i 0):Rises (L.take (i+1)):=by
  have e1:L.take (i+1)=L.take i++[L.getD i 0]:=by
    rw [List.getD_eq_getElem?_getD,List.getElem?_eq_getElem hl,Option.getD_some,List.take_append_getElem hl]
  have e2:L.take i=L.take (i - 1)++[L.getD (i - 1) 0]:=by
    have:=List.take_append_getElem (l:=L) (i:=i - 1) (by omega)
    rw [show i - 1+1=i by omega] at this
    rw [List.getD_eq_getElem?_getD,List.getElem?_eq_getElem (by omega),Option.getD_some,this]
  rw [e1]
  rw [e2] at h ⊢
  exact rises_snoc h hx
theorem rises_not {L:List Int} {i:Nat} (hi:1≤i) (hl:i<L.length) (hx:L.getD i 0≤L.getD (i - 1) 0):¬ Rises L:=by
  intro h
  have:=List.pairwise_iff_getElem.1 h (i - 1) i (by omega) hl (by omega)
  rw [List.getD_eq_getElem?_getD,List.getD_eq_getElem?_getD,List.getElem?_eq_getElem hl,List.getElem?_eq_getElem (by omega)] at hx
  simp only [Option.getD_some] at hx
  omega
set_option maxHeartbeats 1000000 in
set_option maxRecDepth 100000 in
theorem rising_calls (a:Option Addr) (n cap:Nat) (L:List Int) (w:World) (h:IArg w a n L) :
    Calls Tryz.prog 192 #[.slice a n cap] w fun e w'=>e=.returned (.bool (decide (Rises L)))∧Below w.heap.size w w':=by
  have hl:=h.2.1
  have hn:=h.2.2
  have HA:=hidden h
  clear h
  have H0:Hid (Rises (L.take 1)):=by
    match L with
    | []=>exact List.Pairwise.nil
    | x::r=>exact List.pairwise_singleton _ _
  go_enter Tryz.func192,Tryz.ntmps192
  go_wp2_with fail
  go_loopg [3] n (fun g y wr=>∃ (i:Nat),1≤i∧n - i≤g∧(i≤n∨i=1)∧y=.int .i64 (i:Int)∧Hid (Below w.heap.size w wr∧Rises (L.take i)))
  case atStart=>exact ⟨1,Nat.le_refl _,by omega,.inr rfl,rfl,Below.refl _ _,H0⟩
  case round=>
    obtain ⟨i,hi1,hig,hin,rfl,HW⟩:=hrel
    by_cases hi:i<n
    · have hiz:(i:Int)<(n:Int):=by omega
      obtain ⟨b1,o1,rfl,h1⟩:=(HA.out.below HW.out.1).at (by omega)
      have c1:=h1 i hi
      have c2:=h1 (i - 1) (by omega)
      clear h1
      have e1:((i:Int) - 1)=((i - 1:Nat):Int):=by omega
      have HN:Hid (L.getD i 0≤L.getD (i - 1) 0→¬ Rises L):=fun hx=>rises_not hi1 (by omega) hx
      have HY:Hid (L.getD (i - 1) 0<L.getD i 0→Rises (L.take (i+1))):=fun hx=>rises_take hi1 (by omega) HW.out.2 hx
      generalize L.getD i 0=x at *
      generalize L.getD (i - 1) 0=y at *
      generalize i - 1=j at *
      by_cases hxy:x≤y
      · go_wp2_with fail
        go_quiet (fail)
        go_wp2_with fail
        go_ret
        exact ⟨congrArg (fun b=>Ending.returned (Value.bool b)) (decide_eq_false (HN.out hxy)).symm,below_drewN' HW.out.1 _⟩
      · go_wp2_with fail
        go_quiet (fail)
        go_wp2_with fail
        go_roundg (n - (i+1))
        case measure=>omega
        case rel=>exact ⟨i+1,by omega,by omega,by omega,by go_num,below_drewN' HW.out.1 _,HY.out (by omega)⟩
    · have hiz:¬ (i:Int)<(n:Int):=by omega
      go_wp2_with fail
      go_ret
      have h2:=HW.out.2
      rw [List.take_of_length_le (by omega)] at h2
      exact ⟨congrArg (fun b=>Ending.returned (Value.bool b)) (decide_eq_true h2).symm,HW.out.1⟩
def BBox (w:World) (g:Nat) (k t:Int) (sv:Value) (u:Int):Prop:=w.heap[g]?=some (.cells #[.int .i64 k,.int .i64 t,sv,.int .i64 u] 181 (0,0))
theorem BBox.new (w:World) (k t:Int) (sv:Value) (u:Int):BBox (w.alloc (.cells #[.int .i64 k,.int .i64 t,sv,.int .i64 u] 181)) w.heap.size k t sv u:=heap_alloc_new w _
theorem BBox.lt {w:World} {g:Nat} {k t:Int} {sv:Value} {u:Int} (h:BBox w g k t sv u):g<w.heap.size:=lt_of_block h
theorem BBox.below {w w':World} {g B:Nat} {k t:Int} {sv:Value} {u:Int} (h:BBox w g k t sv u) (hb:Below B w w') (hg:g<B):BBox w' g k t sv u:=(hb.block g hg).trans h
theorem BBox.cells {w:World} {g:Nat} {k t:Int} {sv:Value} {u:Int} (h:BBox w g k t sv u):w.cell? ⟨g,0,none⟩=some (.int .i64 k)∧w.cell? ⟨g,1,none⟩=some (.int .i64 t)∧w.cell? ⟨g,2,none⟩=some sv∧w.cell? ⟨g,3,none⟩=some (.int .i64 u):=by
  unfold BBox at h
  refine ⟨?_,?_,?_,?_⟩<;>simp [World.cell?,h]
set_option maxHeartbeats 1000000 in
set_option maxRecDepth 100000 in
theorem check_calls (k t:Int) (a:Option Addr) (n cap:Nat) (u:Int) (L:List Int) (w:World) (h:IArg w a n L) :
    Calls Tryz.prog 176 #[.agg #[.int .i64 k,.int .i64 t,.slice a n cap,.int .i64 u]] w fun e w'=>e=.returned (errv (cfault k t L u))∧Below w.heap.size w w':=by
  have hl:=h.2.1
  have HB:Hid (Below w.heap.size w (w.alloc (.cells #[.int .i64 k,.int .i64 t,.slice a n cap,.int .i64 u] 181))):=(Below.refl _ _).alloc (Nat.le_refl _) _
  have HBX:=hidden (BBox.new w k t (.slice a n cap) u)
  have HR:=hidden (fun W hb=>rising_calls a n cap L W (IArg.below h hb))
  have HM:=hidden (fun w=>most_calls k w)
  have HW:=hidden (fun w=>within_calls u (most k) w)
  have hf:cfault k t L u=if decide (t<1)||decide (8<t)||!decide (0≤u∧u≤most k) then 1 else if (decide (k=1)==decide (n=0))||!decide (Rises L) then 3 else 0:=by
    unfold cfault
    rw [hl]
    simp only [Bool.or_eq_true,decide_eq_true_eq,Bool.not_eq_true',decide_eq_false_iff_not,or_assoc]
  generalize cfault k t L u=F at *
  generalize decide (0≤u∧u≤most k)=bw at *
  generalize decide (Rises L)=br at *
  generalize most k=mk at *
  have HF:=hidden hf
  have c1:=HBX.out.cells.2.1
  clear h hf hl
  by_cases p1:t<1
  · have d1:decide (t<1)=true:=by simpa using p1
    obtain rfl:F=1:=by rw [HF.out,d1];rfl
    go_enter Tryz.func176,Tryz.ntmps176
    go_wp2_with fail
    go_quiet (fail)
    go_wp2_with fail
    go_ret
    exact ⟨rfl,below_drewN' HB.out _⟩
  have d1:decide (t<1)=false:=by simpa using p1
  by_cases p2:8<t
  · have d2:decide (8<t)=true:=by simpa using p2
    obtain rfl:F=1:=by rw [HF.out,d1,d2];rfl
    go_enter Tryz.func176,Tryz.ntmps176
    go_wp2_with fail
    go_quiet (fail)
    go_wp2_with fail
    go_ret
    exact ⟨rfl,below_drewN' HB.out _⟩
  have d2:decide (8<t)=false:=by simpa using p2
  cases bw with
  | false=>
    obtain rfl:F=1:=by rw [HF.out,d1,d2];rfl
    go_enter Tryz.func176,Tryz.ntmps176
    go_wp2_with fail
    go_quiet (first | (go_at_call 191;exact Calls.quiet_of_same (HM.out _)) | (go_at_call 190;exact Calls.quiet_of_same (HW.out _)))
    go_wp2_with fail
    go_ret
    exact ⟨rfl,below_drewN' HB.out _⟩
  | true=>
    obtain ⟨bk,hbk⟩:∃ b,((k:Int)==1)=b:=⟨_,rfl⟩
    obtain ⟨bn,hbn⟩:∃ b,((n:Int)==0)=b:=⟨_,rfl⟩
    have hF:F=if (bk==bn)||!br then 3 else 0:=by
      have e1:decide (k=1)=bk:=by rw [← hbk];rfl
      have e2:decide (n=0)=bn:=by rw [← hbn,Bool.eq_iff_iff,decide_eq_true_eq,beq_iff_eq];omega
      rw [HF.out,d1,d2,e1,e2]
      rfl
    obtain ⟨be',hbe⟩:∃ b,(bk==bn)=b:=⟨_,rfl⟩
    rw [hbe] at hF
    cases be' with
    | true=>
      obtain rfl:F=3:=by rw [hF];rfl
      clear HF hF
      go_enter Tryz.func176,Tryz.ntmps176
      go_wp2_with fail
      go_quiet (first | (go_at_call 191;exact Calls.quiet_of_same (HM.out _)) | (go_at_call 190;exact Calls.quiet_of_same (HW.out _)))
      go_wp2_with fail
      go_ret
      exact ⟨rfl,below_drewN' HB.out _⟩
    | false=>
      cases br with
      | false=>
        obtain rfl:F=3:=by rw [hF];rfl
        clear HF hF
        go_enter Tryz.func176,Tryz.ntmps176
        go_wp2_with fail
        go_quiet (first | (go_at_call 191;exact Calls.quiet_of_same (HM.out _)) | (go_at_call 190;exact Calls.quiet_of_same (HW.out _)))
        go_wp2_with fail
        refine (HR.out _ (below_drewN' HB.out _)).mono ?_
        rintro e w2 ⟨rfl,hb2⟩
        go_wp2_with fail
        go_ret
        exact ⟨rfl,(below_drewN' HB.out nq).trans (hb2.mono (below_drewN' HB.out nq).size)⟩
      | true=>
        obtain rfl:F=0:=by rw [hF];rfl
        clear HF hF
        go_enter Tryz.func176,Tryz.ntmps176
        go_wp2_with fail
        go_quiet (first | (go_at_call 191;exact Calls.quiet_of_same (HM.out _)) | (go_at_call 190;exact Calls.quiet_of_same (HW.out _)))
        go_wp2_with fail
        refine (HR.out _ (below_drewN' HB.out _)).mono ?_
        rintro e w2 ⟨rfl,hb2⟩
        go_wp2_with fail
        go_ret
        exact ⟨rfl,(below_drewN' HB.out nq).trans (hb2.mono (below_drewN' HB.out nq).size)⟩
theorem info5:(Tryz.prog.info? 5).map (fun i=>(i.zero,i.size,i.bytes))=some (some (.int .u8 0),1,1):=by kernel_rfl
structure DSt (w wr:World) (base k:Nat) (B:List Nat) (v:Value):Prop where
  below:Below base w wr
  own:wr.ownsRow base 5 1 v k (cellsOf B)
  box:∀ g b m,PBox w g b m→PBox wr g b m
theorem DSt.next {w wr w':World} {base k:Nat} {B:List Nat} {v v':Value} {c:Nat} {O:Obj} (h:DSt w wr base k B v) (hbase:base≤w.heap.size) (ho:w'.ownsRow base 5 1 v' (k+1) (cellsOf B++[.int .u8 (c:Int)])) (hg:(wr.alloc O).grownBy w' v.ownBlock):DSt w w' base (k+1) (B++[c]) v':=by
  have hs:=h.below.size
  refine ⟨(h.below.alloc (by omega) _).grown hg (by simp;omega) (fun j hj=>(h.own.lt j hj).1),?_,fun g b m hb=>((h.box g b m hb).alloc _).grown hg ((h.box g b m hb).ne h.own)⟩
  rw [cellsOf_app]
  exact ho
theorem byte_of (num g:Nat):IntKind.u8.wrap ((num:Int) / 2 ^ (8*g))=((num / 256 ^ g%256:Nat):Int):=by
  rw [IntKind.wrap_u8',show (256:Nat) ^ g=2 ^ (8*g) by rw [Nat.pow_mul]]
  simp
set_option maxHeartbeats 2000000 in
set_option maxRecDepth 100000 in
theorem appn_calls (v:Value) (base k:Nat) (B:List Nat) (num size:Nat) (w:World) (ho:w.ownsRow base 5 1 v k (cellsOf B)) (hbase:base≤w.heap.size) (hk:k≤100000) (hs:size≤8) (hnum:num<4294967296) :
    Calls Tryz.prog 178 #[v,.int .i64 (num:Int),.int .i64 (size:Int)] w fun e w'=>∃ v',e=.returned v'∧w'.ownsRow base 5 1 v' (k+size) (cellsOf (B++be size num))∧Below base w w'∧∀ g b m,PBox w g b m→PBox w' g b m:=by
  obtain ⟨i0,hii,hz0,hz1,hz2⟩:=info_parts info5
  have HD0:Hid (DSt w w base k B v):=⟨Below.refl _ _,ho,fun _ _ _ h=>h⟩
  clear ho
  obtain ⟨E,hE⟩:∃ E,B++be size num=E:=⟨_,rfl⟩
  rw [hE]
  have HE:=hidden hE
  clear hE
  go_enter Tryz.func178,Tryz.ntmps178
  go_wp2_with fail
  go_loopg [0,7] size (fun g x y wr=>∃ (v':Value) (B':List Nat) (k':Nat),k'+g=k+size∧x=v'∧y=.int .i64 ((g:Int) - 1)∧g≤size∧Hid (DSt w wr base k' B' v'∧B'++be g num=E))
  case atStart=>exact ⟨v,B,k,rfl,rfl,rfl,Nat.le_refl _,HD0.out,HE.out⟩
  case round=>
    obtain ⟨v1,B1,k1,hk1,rfl,rfl,hgs,HS⟩:=hrel
    cases gk with
    | succ g=>
      have e1:(((g+1:Nat):Int) - 1)=(g:Int):=by omega
      rw [e1]
      have d:decide (0≤(g:Int))=true:=by simp
      have hby:=byte_of num g
      obtain ⟨c,hc⟩:∃ c,num / 256 ^ g%256=c:=⟨_,rfl⟩
      rw [hc] at hby
      have HC:=hidden hc
      clear hc
      go_wp2_with (at_builtin;refine wpList_append_own _ rfl _ _ 31 rfl base 5 i0 _ 1 1 Tryz.underlying31 hii hz0 hz1 hz2 rfl (by decide) _ k1 (cellsOf B1) rfl (HS.out.1.own.alloc _) ⟨wr.heap.size,0,none⟩ 1 1 [.int .u8 (c:Int)] rfl rfl ?cc ?one ?b1 ?b2 ?b3 ?next)
      case cc=>exact lit1 _
      case one=>simp [Value.oneCell']
      case b1=>unfold maxLen;omega
      case b2=>omega
      case b3=>have:=HS.out.1.below.size;simp;omega
      case next=>
      intro v3 w' hown hgrow _
      have HSn:Hid (DSt w w' base (k1+1) (B1++[c]) v3∧B1++[c]++be g num=E):=by
        refine ⟨HS.out.1.next hbase hown hgrow,?_⟩
        rw [← HS.out.2,be,HC.out]
        simp
      clear hown hgrow
      go_wp2_with fail
      go_roundg g
      case measure=>omega
      case rel=>exact ⟨v3,B1++[c],k1+1,by omega,rfl,by go_num,by omega,HSn⟩
    | zero=>
      go_wp2_with fail
      go_ret
      have h1:=HS.out.1.own
      have h2:=HS.out.2
      rw [be,List.append_nil] at h2
      rw [h2,show k1=k+size by omega] at h1
      exact ⟨_,rfl,h1,HS.out.1.below,HS.out.1.box⟩
theorem two_own (w:World) (x y:Nat):(w.alloc (.cells #[.int .u8 (x:Int),.int .u8 (y:Int)] 5)).ownsRow w.heap.size 5 1 (.slice (some ⟨w.heap.size,0,none⟩) 2 2) 2 (cellsOf [x,y]):=
  World.ownsRow_lit w #[.int .u8 (x:Int),.int .u8 (y:Int)] 2 (Nat.le_refl _) (by unfold maxLen;omega) rfl
theorem ownsRow_le {w:World} {base base' size n:Nat} {e:TypeId} {v:Value} {xs:List Value} (h:w.ownsRow base e size v n xs) (hb:base'≤base):w.ownsRow base' e size v n xs:=by
  refine ⟨h.1,?_⟩
  rcases h.2 with hl | ⟨g,c,cur,e1,e2,rest⟩
  · exact .inl hl
  · exact .inr ⟨g,c,cur,e1,by omega,rest⟩
theorem own_is {w:World} {base n:Nat} {v:Value} {B C:List Nat} (h:w.ownsRow base 5 1 v n (cellsOf B)) (e:B=C):w.ownsRow base 5 1 v C.length (cellsOf C):=by
  subst e
  have:=h.1
  rw [cellsOf_len] at this
  rw [show B.length=n by omega]
  exact h
set_option maxHeartbeats 4000000 in
set_option maxRecDepth 100000 in
theorem encode_good (k t:Nat) (a:Option Addr) (n cap:Nat) (u:Nat) (L:List Int) (w:World) (h:IArg w a n L) (hn:a=none→n=0∧cap=0) (hf:efault k t L u=0) :
    Calls Tryz.prog 136 #[.agg #[.int .i64 (k:Int),.int .i64 (t:Int),.slice a n cap,.int .i64 (u:Int)]] w fun e w'=>∃ v',e=.returned (.tuple #[v',.nilIface])∧w'.ownsRow w.heap.size 5 1 v' (ebytes k t L u).length (cellsOf (ebytes k t L u))∧Below w.heap.size w w':=by
  obtain ⟨hc,hp⟩:=efault_zero hf
  obtain ⟨hk,t1,t8,u0,um,hkl,hris⟩:=cfault_zero hc
  have hme:=most_le k
  obtain ⟨b1,b2,b3,b4,b5,hfit⟩:=back_again hp
  have hL:=(pfault_zero hp).2
  have hl200:=(pfault_zero hp).1
  have HC:=hidden (fun W hb=>check_calls (k:Int) t a n cap u L W (IArg.below h hb))
  rw [hc] at HC
  have HP:=hidden (fun W hb=>pairs_gen a n cap L W (IArg.below h hb) hn)
  rw [hp] at HP
  have hB:Below w.heap.size w (w.alloc (.cells #[.int .i64 (k:Int),.int .i64 (t:Int),.slice a n cap,.int .i64 (u:Int)] 181)):=(Below.refl _ _).alloc (Nat.le_refl _) _
  have HB:=hidden hB
  have HBX:=hidden (BBox.new w k t (.slice a n cap) u)
  have HG:Hid (∀ p∈prsOf L,∃ b:Nat,p.1=b∧b<65536∧p.2<65536):=fun p hp=>by
    have hb:=hL p.1 (((norm_of L).2 _).1 (hfit.base p hp))
    exact ⟨p.1.toNat,by omega,by omega,hfit.mask p hp⟩
  have hll:(prsOf L).length≤200:=by omega
  have hnil:k≠1→prsOf L=[]:=fun h1=>by
    have h0:L.length=0:=by
      by_cases h0:L.length=0
      · exact h0
      · have:=hkl.2 h0;omega
    exact List.eq_nil_of_length_eq_zero (by omega)
  have HEB:Hid (ebytes k t L u=k::t::((if (k:Int)=2 then be 1 u else if (k:Int)=3 then be 4 u else [])++pbytes (prsOf L))):=by
    show _=_
    simp [ebytes,tail]
  have hk':k=1∨k=2∨k=3:=by omega
  have hu:u<4294967296:=by omega
  generalize ebytes k t L u=EB at *
  generalize prsOf L=l at *
  have ht:t<256:=by omega
  have hw1:IntKind.u8.wrap (t:Int)=(t:Int):=by rw [IntKind.wrap_u8'];omega
  have HNIL:=hidden hnil
  clear h hn hB hc hp hf b1 b2 b3 b4 b5 hfit hL hris hkl hl200 hnil hk um hme t1 t8
  rcases hk' with rfl | rfl | rfl
  · have HA:Hid (∀ W v (base k':Nat) (B:List Nat) (x:Nat),x<65536→k'≤100000→W.ownsRow base 5 1 v k' (cellsOf B)→base≤W.heap.size→Calls Tryz.prog 178 #[v,.int .i64 (x:Int),.int .i64 2] W _):=fun W v base k' B x hx hk ho hb=>appn_calls v base k' B x 2 W ho hb hk (by omega) (by omega)
    go_enter Tryz.func136,Tryz.ntmps136
    go_wp2_with fail
    refine (HC.out _ HB.out).mono ?_
    rintro e w1 ⟨rfl,hb1⟩
    have HB1:=hidden (HB.out.trans (hb1.mono HB.out.size))
    have HX1:=hidden (HBX.out.below hb1 HBX.out.lt)
    have hlt1:=HX1.out.lt
    clear hb1
    obtain ⟨c0,c1,c2,c3⟩:=HX1.out.cells
    rw [errv_zero]
    go_wp2_with fail
    refine (HP.out _ HB1.out).mono ?_
    rintro e w2 ⟨a2,m2,q2,rfl,hP2,_,_,hb2⟩
    have hm2:m2=l.length:=by have:=hP2.2.1;rw [pr_len] at this;exact this.symm
    subst hm2
    have HB2:=hidden (HB1.out.trans (hb2.mono HB1.out.size))
    have HX2:=hidden (HX1.out.below hb2 hlt1)
    have HP2:=hidden hP2
    clear hb2 hP2 c0 c1 c2 c3
    obtain ⟨c0,c1,c2,c3⟩:=HX2.out.cells
    have hlt2:=HX2.out.lt
    rw [errv_zero]
    have HD0:Hid (DSt w2 (w2.alloc (.cells #[.int .u8 (1:Int),.int .u8 (t:Int)] 5)) w2.heap.size 2 ([1,t]++pbytes (l.take 0)) (.slice (some ⟨w2.heap.size,0,none⟩) 2 2)):=⟨(Below.refl _ _).alloc (Nat.le_refl _) _,two_own w2 1 t,fun g b m hb=>hb.alloc _⟩
    go_wp2_with fail
    clear c0 c1 c2 c3 HC HP
    go_loopg [7,47] l.length (fun g x y wr=>∃ (j:Nat) (v:Value),j+g=l.length∧x=v∧y=.int .i64 (j:Int)∧Hid (DSt w2 wr w2.heap.size (2+j*4) ([1,t]++pbytes (l.take j)) v))
    case atStart=>exact ⟨0,_,by omega,rfl,rfl,HD0⟩
    case round=>
      obtain ⟨j,v,hjg,rfl,rfl,HS⟩:=hrel
      by_cases hj:j<l.length
      · have hjz:(j:Int)<(l.length:Int):=by omega
        obtain ⟨b,o,rfl,hbl,hcs⟩:=HP2.out.at (by omega)
        obtain ⟨d0,d1⟩:=hcs j hj
        have hc0:=(HS.out.below.cell (p:=⟨b,o+j*2,none⟩) hbl).trans d0
        have hc1:=(HS.out.below.cell (p:=⟨b,o+j*2+1,none⟩) hbl).trans d1
        clear d0 d1 hcs
        have hget:l[j]?=some (l[j]'hj):=List.getElem?_eq_getElem hj
        obtain ⟨bn,hb1,hb2,hb3⟩:=HG.out (l[j]'hj) (List.getElem_mem hj)
        have hpr:(pr l).getD j (0,0)=((bn:Int),((l[j]'hj).2:Int)):=by
          rw [List.getD_eq_getElem?_getD,pr,List.getElem?_map,hget]
          simp [hb1]
        rw [hpr] at hc0 hc1
        have HNX:Hid (pbytes (l.take (j+1))=pbytes (l.take j)++be 2 bn++be 2 (l[j]'hj).2):=by
          show _=_
          rw [← List.take_append_getElem hj,pbytes_snoc,hb1]
          rfl
        generalize (l[j]'hj).2=mk at *
        clear hpr hget hb1
        simp only at hc0 hc1
        have hbx:=fun O=>HS.out.own.alloc O
        go_wp2_with fail
        refine (HA.out _ _ w2.heap.size (2+j*4) _ bn hb2 (by omega) (HS.out.own.alloc _) (by have:=HS.out.below.size;simp;omega)).mono ?_
        rintro e w3 ⟨v3,rfl,ho3,hbb3,hx3⟩
        have HBX3:=hidden (hx3 _ _ _ (PBox.new wr bn mk))
        have HO3:=hidden ho3
        have HB3:=hidden ((HS.out.below.alloc HS.out.below.size _).trans hbb3)
        have HX3:Hid (∀ g b m,PBox w2 g b m→PBox w3 g b m):=fun g b m hb=>hx3 g b m ((HS.out.box g b m hb).alloc _)
        clear ho3 hbb3 hx3
        obtain ⟨k0,k1⟩:=HBX3.out.cells
        go_wp2_with fail
        refine (HA.out _ _ w2.heap.size (2+j*4+2) _ mk hb3 (by omega) HO3.out (by have:=HB3.out.size;omega)).mono ?_
        rintro e w4 ⟨v4,rfl,ho4,hbb4,hx4⟩
        have HS4:Hid (DSt w2 w4 w2.heap.size (2+(j+1)*4) ([1,t]++pbytes (l.take (j+1))) v4):=by
          refine ⟨HB3.out.trans hbb4,?_,fun g b m hb=>hx4 g b m (HX3.out g b m hb)⟩
          rw [HNX.out,show 2+(j+1)*4=2+j*4+2+2 by omega,← List.append_assoc,← List.append_assoc]
          exact ho4
        clear ho4 hbb4 hx4 k0 k1
        go_wp2_with fail
        go_roundg (l.length - (j+1))
        case measure=>omega
        case rel=>exact ⟨j+1,v4,by omega,rfl,by go_num,HS4⟩
      · have hjz:¬ (j:Int)<(l.length:Int):=by omega
        have ej:j=l.length:=by omega
        subst ej
        go_wp2_with fail
        go_ret2
        refine ⟨_,rfl,ownsRow_le (own_is HS.out.own (by rw [HEB.out,List.take_length];simp)) HB2.out.size,HB2.out.trans (HS.out.below.mono HB2.out.size)⟩
  · have e0:=HNIL.out (by decide)
    subst e0
    have HA:Hid (∀ W v (base:Nat),W.ownsRow base 5 1 v 2 (cellsOf [2,t])→base≤W.heap.size→Calls Tryz.prog 178 #[v,.int .i64 (u:Int),.int .i64 1] W _):=fun W v base ho hb=>appn_calls v base 2 [2,t] u 1 W ho hb (by omega) (by omega) hu
    go_enter Tryz.func136,Tryz.ntmps136
    go_wp2_with fail
    refine (HC.out _ HB.out).mono ?_
    rintro e w1 ⟨rfl,hb1⟩
    have HB1:=hidden (HB.out.trans (hb1.mono HB.out.size))
    have HX1:=hidden (HBX.out.below hb1 HBX.out.lt)
    have hlt1:=HX1.out.lt
    clear hb1
    obtain ⟨c0,c1,c2,c3⟩:=HX1.out.cells
    rw [errv_zero]
    go_wp2_with fail
    refine (HP.out _ HB1.out).mono ?_
    rintro e w2 ⟨a2,m2,q2,rfl,hP2,_,_,hb2⟩
    have hm2:m2=0:=by have:=hP2.2.1;simpa [pr] using this.symm
    subst hm2
    have HB2:=hidden (HB1.out.trans (hb2.mono HB1.out.size))
    have HX2:=hidden (HX1.out.below hb2 hlt1)
    clear hb2 hP2 c0 c1 c2 c3
    obtain ⟨c0,c1,c2,c3⟩:=HX2.out.cells
    have hlt2:=HX2.out.lt
    rw [errv_zero]
    go_wp2_with fail
    refine (HA.out _ _ _ (two_own w2 2 t) (by simp)).mono ?_
    rintro e w3 ⟨v3,rfl,ho3,hb3,_⟩
    have HO3:=hidden ho3
    have HB3:=hidden (HB2.out.trans ((((Below.refl w2.heap.size w2).alloc (Nat.le_refl _) _).trans hb3).mono HB2.out.size))
    clear ho3 hb3 c0 c1 c2 c3
    go_wp2_with fail
    go_loopg [7,47] 0 (fun _ x y wr=>x=v3∧y=.int .i64 0∧wr=w3)
    case atStart=>exact ⟨rfl,rfl,rfl⟩
    case round=>
      obtain ⟨rfl,rfl,rfl⟩:=hrel
      go_wp2_with fail
      go_ret2
      exact ⟨_,rfl,ownsRow_le (own_is HO3.out (by rw [HEB.out];simp [pbytes])) HB2.out.size,HB3.out⟩
  · have e0:=HNIL.out (by decide)
    subst e0
    have HA:Hid (∀ W v (base:Nat),W.ownsRow base 5 1 v 2 (cellsOf [3,t])→base≤W.heap.size→Calls Tryz.prog 178 #[v,.int .i64 (u:Int),.int .i64 4] W _):=fun W v base ho hb=>appn_calls v base 2 [3,t] u 4 W ho hb (by omega) (by omega) hu
    go_enter Tryz.func136,Tryz.ntmps136
    go_wp2_with fail
    refine (HC.out _ HB.out).mono ?_
    rintro e w1 ⟨rfl,hb1⟩
    have HB1:=hidden (HB.out.trans (hb1.mono HB.out.size))
    have HX1:=hidden (HBX.out.below hb1 HBX.out.lt)
    have hlt1:=HX1.out.lt
    clear hb1
    obtain ⟨c0,c1,c2,c3⟩:=HX1.out.cells
    rw [errv_zero]
    go_wp2_with fail
    refine (HP.out _ HB1.out).mono ?_
    rintro e w2 ⟨a2,m2,q2,rfl,hP2,_,_,hb2⟩
    have hm2:m2=0:=by have:=hP2.2.1;simpa [pr] using this.symm
    subst hm2
    have HB2:=hidden (HB1.out.trans (hb2.mono HB1.out.size))
    have HX2:=hidden (HX1.out.below hb2 hlt1)
    clear hb2 hP2 c0 c1 c2 c3
    obtain ⟨c0,c1,c2,c3⟩:=HX2.out.cells
    have hlt2:=HX2.out.lt
    rw [errv_zero]
    go_wp2_with fail
    refine (HA.out _ _ _ (two_own w2 3 t) (by simp)).mono ?_
    rintro e w3 ⟨v3,rfl,ho3,hb3,_⟩
    have HO3:=hidden ho3
    have HB3:=hidden (HB2.out.trans ((((Below.refl w2.heap.size w2).alloc (Nat.le_refl _) _).trans hb3).mono HB2.out.size))
    clear ho3 hb3 c0 c1 c2 c3
    go_wp2_with fail
    go_loopg [7,47] 0 (fun _ x y wr=>x=v3∧y=.int .i64 0∧wr=w3)
    case atStart=>exact ⟨rfl,rfl,rfl⟩
    case round=>
      obtain ⟨rfl,rfl,rfl⟩:=hrel
      go_wp2_with fail
      go_ret2
      exact ⟨_,rfl,ownsRow_le (own_is HO3.out (by rw [HEB.out];simp [pbytes])) HB2.out.size,HB3.out⟩
theorem ebytes_lt {k t:Int} {L:List Int} {u:Int} (hk:k<256) (ht:t<256):∀ c∈ebytes k t L u,c<256:=by
  intro c hc
  simp only [ebytes,tail,List.mem_cons,List.mem_append] at hc
  rcases hc with rfl | rfl | hc | hc
  · omega
  · omega
  · split at hc
    · exact be_lt _ _ c hc
    · split at hc
      · exact be_lt _ _ c hc
      · simp at hc
  · exact pbytes_lt _ c hc
end Go.Proofs.YtfgponidkfgcpaaGreatDoor.Back
