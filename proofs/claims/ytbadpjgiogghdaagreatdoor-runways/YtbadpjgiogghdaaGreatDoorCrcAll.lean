/-
  CrcA, CrcC in one text.
-/
import Derived.Test.YtbadpjgiogghdaaGreatDoorRows
import Derived.Test.YtbadpjgiogghdaaGreatDoorCrcMathP
import Derived.Test.YtbadpjgiogghdaaGreatDoorMemP
import Derived.WalkKit
import Derived.ProofKit
import Derived.OpenShut
import Derived.WalkSpells
import Derived.LoopTactic
import Derived.OwnWalk
import Derived.Laws.BitsAllLaws
import Derived.Deep.QuietTactic
import Derived.BigQuiet
import Derived.Laws.AppendOwnNone
import Derived.WalkSmall

namespace Go.Proofs.YtbadpjgiogghdaaGreatDoor.Crc
open Go.ChangeShapes Go.WideShapes Go.ChangeAt Go.RowKit Go.Proofs.YtbadpjgiogghdaaGreatDoor.CM Go.Proofs.YtbadpjgiogghdaaGreatDoor.Mem

theorem ret_int {k:IntKind} {a b:Int} (h:a=b):Ending.returned (.int k a)=.returned (.int k b):=by rw [h]

theorem u32_and1 (n:Nat) (h:n<4294967296):bits .and .u32 (n:Int) 1=((n%2:Nat):Int):=by
  have:=u32_and_nat n 1 h (by decide)
  rw [nat_mask1] at this
  exact this

theorem info5:(Tryz.prog.info? 5).map (fun i=>(i.zero,i.size,i.bytes))=some (some (.int .u8 0),1,1):=by kernel_rfl
theorem elemBS:Tryz.prog.elem 32=5:=by kernel_rfl
theorem size5 (w:World):(sizeOf 5).run Tryz.prog w=.ok 1 w:=by
  obtain ⟨i,hi,_,hs,_⟩:=info_parts info5
  simp [sizeOf,typeInfo,hi,hs]
theorem undBS:Tryz.prog.underlying 32=some (.slice (Tryz.prog.elem 32)):=by rw [elemBS];exact Tryz.underlying32
theorem cut_high (a:Option Addr) (len cap n:Nat) (h:n≤cap) (w:World) :
    (Instr.slice 32 (.slice a len cap) none (some (.int .i64 (n:Int))) none).run Tryz.prog w=.ok (.slice a n cap) w:=by
  rw [run_slice_h w 32 a len cap undBS .i64 n (by omega) (by omega),elemBS,size5]
  simp [Result.andThen,sliced,Addr.add_zero']
theorem cut_low (b o len cap n:Nat) (h:n≤len) (hn:n<cap) (w:World) :
    (Instr.slice 32 (.slice (some ⟨b,o,none⟩) len cap) (some (.int .i64 (n:Int))) none none).run Tryz.prog w=.ok (.slice (some ⟨b,o+n,none⟩) (len - n) (cap - n)) w:=by
  rw [run_slice_l w 32 _ len cap undBS .i64 n (by omega) (by omega),elemBS,size5]
  have e:(⟨b,o,none⟩:Addr).add n=⟨b,o+n,none⟩:=by unfold Addr.add;split<;>simp_all
  simp [Result.andThen,sliced,e,show ¬ cap=n by omega]

set_option maxHeartbeats 400000 in
theorem step_calls (n:Nat) (w:World) (h:n<4294967296) :
    Calls Tryz.prog 73 #[.int .u32 (n:Int)] w fun e w'=>e=.returned (.int .u32 (st n:Nat))∧w'=w:=by
  have h1:=u32_and1 n h
  by_cases c:n%2=1
  · have d0:(bits .and .u32 (n:Int) 1==1)=true:=by rw [h1,c];rfl
    have e:st n=(n / 2) ^^^ T:=by unfold st;rw [if_pos c]
    have H:Hid (bits .xor .u32 ((n / 2:Nat):Int) 3988292384=((st n:Nat):Int)):=by
      rw [e];exact u32_xor_nat (n / 2) T (by omega) T_lt
    clear h1 c e
    go_enter Tryz.func73,Tryz.ntmps73
    go_wp2_with fail
    go_ret
    exact ⟨ret_int (by simpa using H.out),rfl⟩
  · have d0:(bits .and .u32 (n:Int) 1==1)=false:=by rw [h1];simp;omega
    have e:st n=n / 2:=by unfold st;rw [if_neg c]
    have H:Hid (st n=n / 2):=e
    clear h1 c e
    go_enter Tryz.func73,Tryz.ntmps73
    go_wp2_with fail
    go_ret
    exact ⟨ret_int (by rw [H.out];simp),rfl⟩

theorem u32_turn (n:Nat) (h:n<4294967296):bits .xor .u32 4294967295 (n:Int)=((n ^^^ M:Nat):Int):=by
  rw [Nat.xor_comm];exact u32_xor_nat M n M_lt h
theorem u32_x8 (n c:Nat) (h:n<4294967296) (hc:c<256):bits .xor .u32 (n:Int) (c:Int)=((n ^^^ c:Nat):Int):=u32_xor_nat n c h (by omega)
theorem bys_take (u:Nat) (L:List Nat) (k:Nat) (h:k<L.length):bys u (L.take (k+1))=by1 (bys u (L.take k)) (L.getD k 0):=by
  have e:L.take (k+1)=L.take k++[L.getD k 0]:=by
    rw [List.take_add_one,List.getD_eq_getElem?_getD,List.getElem?_eq_getElem h];rfl
  rw [e,bys_app];rfl
theorem getD_lt (L:List Nat) (hL:∀ c∈L,c<256) (k:Nat) (h:k<L.length):L.getD k 0<256:=by
  rw [List.getD_eq_getElem?_getD,List.getElem?_eq_getElem h]
  exact hL _ (List.getElem_mem h)
theorem take_lt (L:List Nat) (hL:∀ c∈L,c<256) (k:Nat):∀ c∈L.take k,c<256:=fun c hc=>hL c (List.mem_of_mem_take hc)

set_option maxHeartbeats 1000000 in
set_option maxRecDepth 100000 in
theorem goOn_calls (s:Nat) (a:Option Addr) (len cap:Nat) (L:List Nat) (w:World) (hs:s<4294967296) (hlen:L.length=len) (hl:L.length≤9223372036854775807) (hB:Bys w a L) :
    Calls Tryz.prog 44 #[.int .u32 (s:Int),.slice a len cap] w fun e w'=>e=.returned (.int .u32 (go s L:Nat))∧w'=w:=by
  subst hlen
  have HB:Hid (Bys w a L):=hB
  have HU:Hid (bits .xor .u32 4294967295 (s:Int)=((s ^^^ M:Nat):Int)):=u32_turn s hs
  have hu:s ^^^ M<4294967296:=xor_lt hs M_lt
  clear hB
  go_enter Tryz.func44,Tryz.ntmps44
  go_wp2_with fail
  go_loopw [5,12] (fun x i wr=>∃ k:Nat,k≤L.length∧i=.int .i64 k∧x=.int .u32 (bys (s ^^^ M) (L.take k):Nat)∧wr=w) (fun _ i _=>L.length - (intOf i).toNat)
  case atStart=>exact ⟨0,Nat.zero_le _,rfl,congrArg (Value.int .u32) HU.out,rfl⟩
  case round=>
    obtain ⟨k,hk,rfl,rfl,rfl⟩:=hrel
    by_cases h:k<L.length
    · obtain ⟨b,o,rfl,hc⟩:=HB.out.2 k h
      have hcl:=getD_lt L HB.out.1 k h
      have HT:=hidden (bys_take (s ^^^ M) L k h)
      have hlt:bys (s ^^^ M) (L.take k)<4294967296:=bys_lt hu (take_lt L HB.out.1 k)
      generalize L.getD k 0=c at *
      generalize hz:bys (s ^^^ M) (L.take k)=z at *
      have HX:=hidden (u32_x8 z c hlt hcl)
      have hzc:z ^^^ c<4294967296:=xor_lt hlt (by omega)
      have HZ:=hidden hz
      clear hz
      go_wp2_with fail
      go_loopw [5,20] (fun x i wq=>∃ m:Nat,m≤8∧i=.int .i64 m∧x=.int .u32 (sts m (z ^^^ c):Nat)∧wq=wr) (fun _ i _=>8 - (intOf i).toNat)
      case atStart=>exact ⟨0,Nat.zero_le _,rfl,congrArg (Value.int .u32) HX.out,rfl⟩
      case round=>
        obtain ⟨m,hm,rfl,rfl,rfl⟩:=hrel
        by_cases h8:m<8
        · go_wp2_with fail
          refine (step_calls _ _ (sts_lt hzc)).mono ?_
          rintro e w1 ⟨rfl,rfl⟩
          go_wp2_with fail
          go_roundw
          case rel=>exact ⟨m+1,by omega,by go_num,by rw [← sts_st];rfl,trivial⟩
          case measure=>simp [intOf];omega
        · have e8:m=8:=by omega
          subst e8
          go_wp2_with fail
          go_roundw
          case rel=>exact ⟨k+1,by omega,by go_num,by rw [HT.out];rfl,trivial⟩
          case measure=>simp [intOf];omega
    · have ek:k=L.length:=by omega
      subst ek
      rw [List.take_length]
      have hlt:bys (s ^^^ M) L<4294967296:=bys_lt hu HB.out.1
      have HR:=hidden (u32_turn _ hlt)
      clear hlt
      go_wp2_with fail
      go_ret
      exact ⟨ret_int HR.out,rfl⟩

set_option maxHeartbeats 400000 in
theorem sum_calls (a:Option Addr) (len cap:Nat) (L:List Nat) (w:World) (hlen:L.length=len) (hl:L.length≤9223372036854775807) (hB:Bys w a L) :
    Calls Tryz.prog 14 #[.slice a len cap] w fun e w'=>e=.returned (.int .i64 (go 0 L:Nat))∧w'=w:=by
  have hlt:go 0 L<4294967296:=go_lt (by decide) hB.1
  go_enter Tryz.func14,Tryz.ntmps14
  go_wp2_with fail
  refine (goOn_calls 0 a len cap L _ (by decide) hlen hl hB).mono ?_
  rintro e w1 ⟨rfl,rfl⟩
  go_wp2_with fail
  go_ret
  exact ⟨rfl,rfl⟩

theorem sum_arg {a:Option Addr} {len cap:Nat} {L:List Nat} {w:World} (h:Arg w a len L) :
    Calls Tryz.prog 14 #[.slice a len cap] w fun e w'=>e=.returned (.int .i64 (go 0 L:Nat))∧w'=w:=
  sum_calls a len cap L w h.2.1 (by have:=h.2;omega) h.1

end Go.Proofs.YtbadpjgiogghdaaGreatDoor.Crc
namespace Go.Proofs.YtbadpjgiogghdaaGreatDoor.Crc
open Go.ChangeShapes Go.WideShapes Go.ChangeAt Go.RowKit Go.Proofs.YtbadpjgiogghdaaGreatDoor.CM Go.Proofs.YtbadpjgiogghdaaGreatDoor.Mem
set_option linter.unusedVariables false

theorem be4_block (s:Nat) (h:s<4294967296):(#[Value.int .u8 ((s:Int) / 16777216),.int .u8 ((s:Int) / 65536%256),.int .u8 ((s:Int) / 256%256),.int .u8 ((s:Int)%256)]:Array Value)=(cellsOf (be4 s)).toArray:=by
  have e:(s:Int) / 16777216=((s / 16777216%256:Nat):Int):=by omega
  rw [e]
  simp [cellsOf,be4]

set_option maxHeartbeats 1000000 in
set_option maxRecDepth 100000 in
theorem seal_calls (a:Option Addr) (len cap:Nat) (L:List Nat) (w:World) (h:Arg w a len L) (hn:a=none→len=0∧cap=0) (hr:len≤140737488355320) :
    Calls Tryz.prog 12 #[.slice a len cap] w fun e w'=>e=.returned (.slice (some ⟨w.heap.size,0,none⟩) (len+4) (len+4))∧Row w' w.heap.size (L++be4 (go 0 L))∧Below w.heap.size w w':=by
  have HA:=hidden h
  have HN:=hidden hn
  have hs:go 0 L<4294967296:=go_lt (by decide) h.1.1
  have CG:=fun w h=>goOn_calls 0 a len cap L w (by decide) HA.out.2.1 (by have:=HA.out.2;omega) h
  generalize hgo:go 0 L=s at *
  obtain ⟨i0,hii,hz0,hz1,hz2⟩:=info_parts info5
  have HG:=hidden CG
  have HGO:=hidden hgo
  clear CG h hn hgo
  go_enter Tryz.func12,Tryz.ntmps12
  go_wp2_with fail
  refine (HG.out _ HA.out.1).mono ?_
  rintro e w ⟨rfl,rfl⟩
  go_wp2_with (at_make;refine wpList_make_own _ rfl _ _ 32 rfl w.heap.size 5 i0 (.int .u8 0) 1 Tryz.underlying32 hii hz0 hz1 _ _ _ (len+4) rfl rfl ?mC ?mb ?mm ?mbase ?mnext)
  case mC=>simp
  case mb=>rw [hz2];omega
  case mm=>unfold maxLen;omega
  case mbase=>exact Nat.le_refl _
  case mnext=>
    intro w1 hown hgrow
    have HB1:Hid (Below w.heap.size w w1):=(Below.refl _ _).grown hgrow (Nat.le_refl _) (by simp)
    have HO1:=hidden hown
    clear hown hgrow
    go_wp2_with (at_builtin;refine wpList_append_fits_any _ rfl _ _ 32 rfl w.heap.size 5 i0 1 Tryz.underlying32 hii hz1 w.heap.size 0 (len+4) [] rfl HO1.out a len cap (cellsOf L) rfl ?al ?an ?ac ?ao ?ab ?anext)
    case al=>rw [cellsOf_len,HA.out.2.1];omega
    case an=>exact HN.out
    case ac=>exact bys_cells (HA.out.1.below HB1.out)
    case ao=>exact cells_one L
    case ab=>omega
    case anext=>
      intro w2 hown hgrow
      have HB2:Hid (Below w.heap.size w w2):=HB1.out.grown hgrow HB1.out.size (by simp)
      have HO2:=hidden hown
      clear hown hgrow
      go_wp2_with (at_builtin;refine wpList_append_fits_any _ rfl _ _ 32 rfl w.heap.size 5 i0 1 Tryz.underlying32 hii hz1 w.heap.size len (len+4) (cellsOf L) ?bs ?bo (some ⟨w2.heap.size,0,none⟩) 4 4 (cellsOf (be4 s)) rfl rfl ?bn ?bc (cells_one _) (Nat.le_refl _) ?bnext)
      case bs=>simp [Act.eval]
      case bo=>exact HO2.out.alloc _
      case bn=>intro h;simp at h
      case bc=>rw [be4_block s hs];exact bys_cells ((Row.new w2 (be4 s)).bys (be4_lt s))
      case bnext=>
        intro w3 hown hgrow
        have HB3:Hid (Below w.heap.size w w3):=(HB2.out.alloc HB2.out.size _).grown hgrow (by have:=HB2.out.size;simp;omega) (by simp)
        rw [← cellsOf_app] at hown
        have HR:=hidden (own_row hown)
        clear hown hgrow
        go_wp2_with fail
        go_ret
        exact ⟨rfl,HR.out,HB3.out⟩

set_option maxHeartbeats 400000 in
theorem open_short (a:Option Addr) (len cap:Nat) (w:World) (h:len<4) :
    Calls Tryz.prog 91 #[.slice a len cap] w fun e w'=>e=.returned (.tuple #[.slice none 0 0,.iface 115 (.int .i64 8)])∧w'=w:=by
  go_enter Tryz.func91,Tryz.ntmps91
  go_wp2_with fail
  go_ret2
  exact ⟨rfl,rfl⟩

theorem tail_cells {w:World} {b o m:Nat} {B:List Nat} {t0 t1 t2 t3:Nat} (h:Bys w (some ⟨b,o,none⟩) (B++[t0,t1,t2,t3])) (hm:B.length=m) :
    w.cell? ⟨b,o+m,none⟩=some (.int .u8 (t0:Int))∧w.cell? ⟨b,o+m+1,none⟩=some (.int .u8 (t1:Int))∧w.cell? ⟨b,o+m+2,none⟩=some (.int .u8 (t2:Int))∧w.cell? ⟨b,o+m+3,none⟩=some (.int .u8 (t3:Int)):=by
  have hd:=h.drop m
  rw [← hm,List.drop_left] at hd
  rw [hm] at hd
  have f:∀ j (hj:j<4),w.cell? ⟨b,o+m+j,none⟩=some (.int .u8 ([t0,t1,t2,t3].getD j 0:Nat)):=by
    intro j hj
    obtain ⟨b',o',e,hc⟩:=hd.2 j hj
    simp only [Option.some.injEq,Addr.mk.injEq,and_true] at e
    obtain ⟨rfl,rfl⟩:=e
    exact hc
  exact ⟨f 0 (by decide),f 1 (by decide),f 2 (by decide),f 3 (by decide)⟩

theorem told_eq (t0 t1 t2 t3:Nat) (h0:t0<256) (h1:t1<256) (h2:t2<256) (h3:t3<256) :
    bits .or .u32 (bits .or .u32 (bits .or .u32 ((t0:Int)%4294967296*16777216%4294967296) ((t1:Int)%4294967296*65536%4294967296)) ((t2:Int)%4294967296*256%4294967296)) ((t3:Int)%4294967296)=((num 0 [t0,t1,t2,t3]:Nat):Int):=by
  rw [show (t0:Int)%4294967296*16777216%4294967296=((t0*16777216:Nat):Int) by omega,show (t1:Int)%4294967296*65536%4294967296=((t1*65536:Nat):Int) by omega,
    show (t2:Int)%4294967296*256%4294967296=((t2*256:Nat):Int) by omega,show (t3:Int)%4294967296=((t3:Nat):Int) by omega]
  have l1:t0*16777216 ||| t1*65536<4294967296:=Nat.or_lt_two_pow (n:=32) (by omega) (by omega)
  have l2:t0*16777216 ||| t1*65536 ||| t2*256<4294967296:=Nat.or_lt_two_pow (n:=32) l1 (by omega)
  rw [u32_or_nat _ _ (by omega) (by omega),u32_or_nat _ _ l1 (by omega),u32_or_nat _ _ l2 (by omega),or4 t0 t1 t2 t3 h1 h2 h3]
  simp [num]

set_option maxHeartbeats 1000000 in
set_option maxRecDepth 100000 in
theorem open_bad (b o cap m:Nat) (B:List Nat) (t0 t1 t2 t3:Nat) (w:World) (hm:B.length=m) (h:Arg w (some ⟨b,o,none⟩) (m+4) (B++[t0,t1,t2,t3])) (hc:m+4≤cap) (hne:num 0 [t0,t1,t2,t3]≠go 0 B) :
    Calls Tryz.prog 91 #[.slice (some ⟨b,o,none⟩) (m+4) cap] w fun e w'=>e=.returned (.tuple #[.slice none 0 0,.iface 115 (.int .i64 9)])∧∃ k,w'=w.drewN k:=by
  have HA:=hidden h
  have hl:=h.2.2
  obtain ⟨c0,c1,c2,c3⟩:=tail_cells h.1 hm
  have s0:=cut_high (some ⟨b,o,none⟩) (m+4) cap m (by omega)
  have s1:=cut_low b o (m+4) cap m (by omega) (by omega)
  rw [show m+4 - m=4 by omega] at s1
  have HE:=hidden (told_eq t0 t1 t2 t3 (h.1.1 t0 (by simp)) (h.1.1 t1 (by simp)) (h.1.1 t2 (by simp)) (h.1.1 t3 (by simp)))
  have HB:Hid (Bys w (some ⟨b,o,none⟩) B):=by
    have:=h.1.take m
    rw [← hm,List.take_left] at this
    exact this
  have CG:=fun w h=>goOn_calls 0 (some ⟨b,o,none⟩) m cap B w (by decide) hm (by omega) h
  generalize go 0 B=g at *
  have HG:=hidden CG
  generalize num 0 [t0,t1,t2,t3]=q at *
  have d0:((q:Int)==(g:Int))=false:=by simp;omega
  clear h hne CG hm
  go_enter Tryz.func91,Tryz.ntmps91
  go_wp2_with fail
  go_quiet (fail)
  go_wp2_with fail
  go_quiet (fail)
  rw [HE.out]
  go_wp2_with fail
  refine (HG.out _ (by exact HB.out)).mono ?_
  rintro e w1 ⟨rfl,rfl⟩
  go_wp2_with fail
  go_ret2
  exact ⟨rfl,_,rfl⟩

set_option maxHeartbeats 1000000 in
set_option maxRecDepth 100000 in
theorem open_good (b o cap m:Nat) (B:List Nat) (t0 t1 t2 t3:Nat) (w:World) (hm:B.length=m) (h:Arg w (some ⟨b,o,none⟩) (m+4) (B++[t0,t1,t2,t3])) (hc:m+4≤cap) (he:num 0 [t0,t1,t2,t3]=go 0 B) (hr:m≤140737488355328) :
    Calls Tryz.prog 91 #[.slice (some ⟨b,o,none⟩) (m+4) cap] w fun e w'=>∃ v,e=.returned (.tuple #[v,.nilIface])∧w'.ownsRow w.heap.size 5 1 v m (cellsOf B)∧Below w.heap.size w w':=by
  have HA:=hidden h
  have hl:=h.2.2
  obtain ⟨c0,c1,c2,c3⟩:=tail_cells h.1 hm
  have s0:=cut_high (some ⟨b,o,none⟩) (m+4) cap m (by omega)
  have s1:=cut_low b o (m+4) cap m (by omega) (by omega)
  rw [show m+4 - m=4 by omega] at s1
  have HE:=hidden (told_eq t0 t1 t2 t3 (h.1.1 t0 (by simp)) (h.1.1 t1 (by simp)) (h.1.1 t2 (by simp)) (h.1.1 t3 (by simp)))
  have HB:Hid (Bys w (some ⟨b,o,none⟩) B):=by
    have:=h.1.take m
    rw [← hm,List.take_left] at this
    exact this
  have CG:=fun w h=>goOn_calls 0 (some ⟨b,o,none⟩) m cap B w (by decide) hm (by omega) h
  generalize go 0 B=g at *
  have HG:=hidden CG
  generalize num 0 [t0,t1,t2,t3]=q at *
  have d0:((q:Int)==(g:Int))=true:=by simp;omega
  have HM:=hidden hm
  obtain ⟨i0,hii,hz0,hz1,hz2⟩:=info_parts info5
  clear h he CG hm
  go_enter Tryz.func91,Tryz.ntmps91
  go_wp2_with fail
  go_quiet (fail)
  go_wp2_with fail
  go_quiet (fail)
  rw [HE.out]
  go_wp2_with fail
  refine (HG.out _ (by exact HB.out)).mono ?_
  rintro e w1 ⟨rfl,rfl⟩
  go_wp2_with (at_builtin;refine wpList_append_own _ rfl _ _ 32 rfl w.heap.size 5 i0 (.int .u8 0) 1 1 Tryz.underlying32 hii hz0 hz1 hz2 rfl (by decide) _ 0 [] rfl (World.ownsRow_nil _ _ _ _) ⟨b,o,none⟩ m cap (cellsOf B) rfl ?al ?ac (cells_one B) ?b1 ?b2 ?b3 ?next)
  case al=>rw [cellsOf_len,HM.out];omega
  case ac=>exact bys_cells (by exact HB.out) _ rfl
  case b1=>unfold maxLen;omega
  case b2=>omega
  case b3=>exact Nat.le_refl _
  case next=>
    intro v' w2 hown hgrow _
    have HO:=hidden hown
    have HW:Hid (Below w.heap.size w w2):=(below_drewN (Below.refl _ _) _).grown hgrow (Nat.le_refl _) (by simp [Value.ownBlock])
    clear hown hgrow
    go_wp2_with fail
    go_ret2
    exact ⟨v',rfl,HO.out,HW.out⟩
end Go.Proofs.YtbadpjgiogghdaaGreatDoor.Crc
