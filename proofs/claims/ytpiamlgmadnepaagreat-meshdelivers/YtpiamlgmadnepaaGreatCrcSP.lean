/-
 What the proof needs.
-/
import Derived.Test.YtpiamlgmadnepaaGreatRows
import Derived.Test.YtpiamlgmadnepaaGreatCrcMathP
import Derived.Test.YtpiamlgmadnepaaGreatMemP
import Derived.ProofKit
import Derived.OpenShut
import Derived.WalkSpells
import Derived.LoopTactic
import Derived.BigQuiet
import Derived.WalkSmall
open Go.Proofs.Tryz
set_option linter.unusedVariables false
set_option maxHeartbeats 1000000
set_option maxRecDepth 100000
namespace Go.Proofs.YtpiamlgmadnepaaGreat.Crc
open ChangeShapes WideShapes ChangeAt RowKit CM Mem
theorem ξ11{k:IntKind}{a b:Int}(h:a=b):Ending.returned (.int k a)=.returned (.int k b):=by rw[h]
theorem ξct(n:Nat)(h:n<4294967296):bits .and .u32 (n:Int) 1=((n%2:Nat):Int):=by
 have:=u32_and_nat n 1 h (by decide);rw[nat_mask1]at this;exact this
theorem info5:(prog.info? 5).map (λi=>(i.zero,i.size,i.bytes))=some (some (.int .u8 0),1,1):=by kernel_rfl
theorem A3j:prog.elem 36=5:=by kernel_rfl
theorem A4t(w:World):(sizeOf 5).run prog w=.ok 1 w:=by
 obtain⟨i,hi,_,hs,_⟩:=info_parts info5;simp[sizeOf,typeInfo,hi,hs]
theorem A4s:prog.underlying 36=some (.slice (prog.elem 36)):=by rw[A3j];exact underlying36
theorem ξ7t(a:Option Addr)(len cap n:Nat)(h:n<=cap)(w:World) :
 (Instr.slice 36 (.slice a len cap) none (some (.int .i64 (n:Int))) none).run prog w=.ok (.slice a n cap) w:=by
 rw[run_slice_h w 36 a len cap A4s .i64 n (by omega) (by omega),A3j,A4t];simp[Result.andThen,sliced,Addr.add_zero']
theorem ξ3O(b o len cap n:Nat)(h:n<=len)(hn:n<cap)(w:World) :
 (Instr.slice 36 (.slice (some ⟨b,o,none⟩) len cap) (some (.int .i64 (n:Int))) none none).run prog w=.ok (.slice (some ⟨b,o+n,none⟩) (len-n) (cap-n)) w:=by
 rw[run_slice_l w 36 _ len cap A4s .i64 n (by omega) (by omega),A3j,A4t];have e:(⟨b,o,none⟩:Addr).add n=⟨b,o+n,none⟩:=by unfold Addr.add;split<;>simp_all
 simp[Result.andThen,sliced,e,show ¬cap=n by omega]
theorem ξ9c(n:Nat)(w:World)(h:n<4294967296) :
 Calls prog 207 #[.int .u32 (n:Int)] w λe w'=>e=.returned (.int .u32 (st n:Nat))/\w'=w:=by
 have h1:=ξct n h;by_cases c:n%2=1
 ·have d0:(bits .and .u32 (n:Int) 1==1)=true:=by rw[h1,c];rfl
  have e:st n=(n/2)^^^T:=by unfold st;rw[if_pos c]
  have H:Hid (bits .xor .u32 ((n/2:Nat):Int) 3988292384=((st n:Nat):Int)):=by
   rw[e];exact u32_xor_nat (n/2) T (by omega) T_lt
  clear h1 c e;go_enter func207,ntmps207;go_wp2_with fail
  go_ret;exact⟨ξ11 (by simpa using H.out),rfl⟩
 ·have d0:(bits .and .u32 (n:Int) 1==1)=false:=by rw[h1];simp;omega
  have e:st n=n/2:=by unfold st;rw[if_neg c]
  have H:Hid (st n=n/2):=e;clear h1 c e;go_enter func207,ntmps207;go_wp2_with fail
  go_ret;exact⟨ξ11 (by rw[H.out];simp),rfl⟩
theorem ξ6o(n:Nat)(h:n<4294967296):bits .xor .u32 4294967295 (n:Int)=((n^^^M:Nat):Int):=by
 rw[Nat.xor_comm];exact u32_xor_nat M n A94 h
theorem ξfK(n c:Nat)(h:n<4294967296)(hc:c<256):bits .xor .u32 (n:Int) (c:Int)=((n^^^c:Nat):Int):=u32_xor_nat n c h (by omega)
theorem ξe2(u:Nat)(L:List Nat)(k:Nat)(h:k<L.length):bys u (L.take (k+1))=by1 (bys u (L.take k)) (L.getD k 0):=by
 have e:L.take (k+1)=L.take k++[L.getD k 0]:=by
  rw[List.take_add_one,Ξa,Ξd h];rfl
 rw[e,ξfv];rfl
theorem getD_lt(L:List Nat)(hL:∀c∈L,c<256)(k:Nat)(h:k<L.length):L.getD k 0<256:=by
 rw[Ξa,Ξd h];exact hL _ (List.getElem_mem h)
theorem ξep(L:List Nat)(hL:∀c∈L,c<256)(k:Nat):∀c∈L.take k,c<256:=λc hc=>hL c (List.mem_of_mem_take hc)
theorem ξ3c(s:Nat)(a:Option Addr)(len cap:Nat)(L:List Nat)(w:World)(hs:s<4294967296)(hlen:L.length=len)(hl:L.length<=9223372036854775807)(hB:Bys w a L) :
 Calls prog 198 #[.int .u32 (s:Int),.slice a len cap] w λe w'=>e=.returned (.int .u32 (go s L:Nat))/\w'=w:=by
 subst hlen;have HB:Hid (Bys w a L):=hB;have HU:Hid (bits .xor .u32 4294967295 (s:Int)=((s^^^M:Nat):Int)):=ξ6o s hs;have hu:s^^^M<4294967296:=ξ2A hs A94;clear hB;go_enter func198,ntmps198;go_wp2_with fail
 go_loopw [5,12] (λx i wr=>∃k:Nat,k<=L.length/\i=.int .i64 k/\x=.int .u32 (bys (s^^^M) (L.take k):Nat)/\wr=w) (λ_ i _=>L.length-(intOf i).toNat)
 case atStart=>exact⟨0,Nat.zero_le _,rfl,congrArg (Value.int .u32) HU.out,rfl⟩
 case round=>
  obtain⟨k,hk,rfl,rfl,rfl⟩:=hrel;by_cases h:k<L.length
  ·obtain⟨b,o,rfl,hc⟩:=HB.out.2 k h;have ah:=getD_lt L HB.out.1 k h;have HT:=ξ0 (ξe2 (s^^^M) L k h);have ae:bys (s^^^M) (L.take k)<4294967296:=ξ7w hu (ξep L HB.out.1 k);generalize L.getD k 0=c at *;generalize hz:bys (s^^^M) (L.take k)=z at *;have HX:=ξ0 (ξfK z c ae ah);have ai:z^^^c<4294967296:=ξ2A ae (by omega);have HZ:=ξ0 hz;clear hz;go_wp2_with fail
   go_loopw [5,20] (λx i wq=>∃m:Nat,m<=8/\i=.int .i64 m/\x=.int .u32 (sts m (z^^^c):Nat)/\wq=wr) (λ_ i _=>8-(intOf i).toNat)
   case atStart=>exact⟨0,Nat.zero_le _,rfl,congrArg (Value.int .u32) HX.out,rfl⟩
   case round=>
    obtain⟨m,hm,rfl,rfl,rfl⟩:=hrel;by_cases h8:m<8
    ·go_wp2_with fail
     refine(ξ9c _ _ (ξaG ai)).mono ?_;rintro e w1 ⟨rfl,rfl⟩;go_wp2_with fail
     go_roundw
     case rel=>exact⟨m+1,by omega,by go_num,by rw[<-ξfT];rfl,trivial⟩
     case measure=>simp[intOf];omega
    ·have e8:m=8:=by omega
     subst e8;go_wp2_with fail
     go_roundw
     case rel=>exact⟨k+1,by omega,by go_num,by rw[HT.out];rfl,trivial⟩
     case measure=>simp[intOf];omega
  ·have ek:k=L.length:=by omega
   subst ek;rw[List.take_length];have ae:bys (s^^^M) L<4294967296:=ξ7w hu HB.out.1;have HR:=ξ0 (ξ6o _ ae);clear ae;go_wp2_with fail;go_ret;exact⟨ξ11 HR.out,rfl⟩
theorem ξc9(s:Nat)(h:s<4294967296):(#[Value.int .u8 ((s:Int)/16777216),.int .u8 ((s:Int)/65536%256),.int .u8 ((s:Int)/256%256),.int .u8 ((s:Int)%256)]:Array Value)=(cellsOf (be4 s)).toArray:=by
 have e:(s:Int)/16777216=((s/16777216%256:Nat):Int):=by omega
 rw[e];simp[cellsOf,be4]
theorem ξ9e(a:Option Addr)(len cap:Nat)(L:List Nat)(w:World)(h:Arg w a len L)(hn:a=none->len=0/\cap=0)(hr:len<=140737488355320) :
 Calls prog 206 #[.slice a len cap] w λe w'=>e=.returned (.slice (some ⟨w.heap.size,0,none⟩) (len+4) (len+4))/\Row w' w.heap.size (L++be4 (go 0 L))/\Below w.heap.size w w':=by
 have HA:=ξ0 h;have HN:=ξ0 hn;have hs:go 0 L<4294967296:=ξef (by decide) h.1.1;have CG:=λw h=>ξ3c 0 a len cap L w (by decide) HA.out.2.1 (by have:=HA.out.2;omega) h;generalize au:go 0 L=s at *;obtain⟨i0,ai,aw,aj,ax⟩:=info_parts info5;have HG:=ξ0 CG;have aC:=ξ0 au;clear CG h hn au;go_enter func206,ntmps206;go_wp2_with fail
 refine(HG.out _ HA.out.1).mono ?_;rintro e w ⟨rfl,rfl⟩;go_wp2_with (at_make;refine wpList_make_own _ rfl _ _ 36 rfl w.heap.size 5 i0 (.int .u8 0) 1 underlying36 ai aw aj _ _ _ (len+4) rfl rfl ?mC ?mb ?mm ?mbase ?mnext)
 case mC=>simp
 case mb=>rw[ax];omega
 case mm=>unfold maxLen;omega
 case mbase=>exact Ξo _
 case mnext=>
  intro w1 ah ae;have am:Hid (Below w.heap.size w w1):=(Ξp _ _).grown ae (Ξo _) (by simp);have ay:=ξ0 ah;clear ah ae;go_wp2_with (at_builtin;refine wpList_append_fits_any _ rfl _ _ 36 rfl w.heap.size 5 i0 1 underlying36 ai aj w.heap.size 0 (len+4) [] rfl ay.out a len cap (cellsOf L) rfl ?al ?an ?ac ?ao ?ab ?anext)
  case al=>rw[ξw,HA.out.2.1];omega
  case an=>exact HN.out
  case ac=>exact ξz (HA.out.1.below am.out)
  case ao=>exact cells_one L
  case ab=>omega
  case anext=>
   intro w2 ah ae;have aq:Hid (Below w.heap.size w w2):=am.out.grown ae am.out.size (by simp);have az:=ξ0 ah;clear ah ae;go_wp2_with (at_builtin;refine wpList_append_fits_any _ rfl _ _ 36 rfl w.heap.size 5 i0 1 underlying36 ai aj w.heap.size len (len+4) (cellsOf L) ?bs ?bo (some ⟨w2.heap.size,0,none⟩) 4 4 (cellsOf (be4 s)) rfl rfl ?bn ?bc (cells_one _) (Ξo _) ?bnext)
   case bs=>simp[Act.eval]
   case bo=>exact az.out.alloc _
   case bn=>intro h;simp at h
   case bc=>rw[ξc9 s hs];exact ξz ((Row.new w2 (be4 s)).bys (ξc8 s))
   case bnext=>
    intro w3 ah ae;have aA:Hid (Below w.heap.size w w3):=(aq.out.alloc aq.out.size _).grown ae (by have:=aq.out.size;simp;omega) (by simp);rw[<-ξ1v]at ah;have HR:=ξ0 (ξ5c ah);clear ah ae;go_wp2_with fail;go_ret;exact⟨rfl,HR.out,aA.out⟩
end Go.Proofs.YtpiamlgmadnepaaGreat.Crc
