/-
  RCrc, RCrc2, RRate, RRate2 in one text.
-/
import Derived.Test.YtlppdppddiecnaaGreatDoorCrcAll
import Derived.Deep.QuietTactic
import Derived.BigQuiet
import Derived.LoopN
import Derived.WalkSmall
import Derived.Test.YtlppdppddiecnaaGreatDoorRateAll
import Derived.Deep.LoopGhost

namespace Go.Proofs.YtlppdppddiecnaaGreatDoor.RCrc
open Go.ChangeShapes Go.WideShapes Go.ChangeAt Go.RowKit Go.Proofs.YtlppdppddiecnaaGreatDoor.CM Go.Proofs.YtlppdppddiecnaaGreatDoor.Mem Go.Proofs.YtlppdppddiecnaaGreatDoor.Crc

def wordB (n:Int):Bool:=decide (0≤n∧n≤4294967295)
theorem word_calls (n:Int) (w:World):Calls Tryz.prog 99 #[.int .i64 n] w fun e w'=>e=.returned (.bool (wordB n))∧w'=w:=by
  by_cases h0:0≤n
  · by_cases h1:n≤4294967295
    · have hf:wordB n=true:=by simp [wordB,h0,h1]
      rw [hf];clear hf
      go_enter Tryz.func99,Tryz.ntmps99
      go_wp2
      go_ret
      exact ⟨rfl,rfl⟩
    · have hf:wordB n=false:=by simp [wordB,h1]
      have d:decide (n≤4294967295)=false:=by simpa using h1
      rw [hf];clear hf h1
      go_enter Tryz.func99,Tryz.ntmps99
      go_wp2
      go_ret
      exact ⟨rfl,rfl⟩
  · have hf:wordB n=false:=by simp [wordB,h0]
    rw [hf];clear hf
    go_enter Tryz.func99,Tryz.ntmps99
    go_wp2
    go_ret
    exact ⟨rfl,rfl⟩

theorem st_half (a:Nat):st a=if a%2=1 then a / 2 ^^^ T else a / 2:=rfl
theorem sts_next (k w:Nat):sts (k+1) w=st (sts k w):=sts_st k w

set_option maxHeartbeats 1000000 in
set_option maxRecDepth 100000 in
theorem on_calls (s c:Nat) (w:World) (hs:s<4294967296) (hc:c<256) :
    Calls Tryz.prog 62 #[.int .u32 (s:Int),.int .u8 (c:Int)] w fun e w'=>e=.returned (.int .u32 (by1 s c:Nat))∧w'=w:=by
  have HX:=hidden (u32_x8 s c hs hc)
  have hzc:s ^^^ c<4294967296:=xor_lt hs (by omega)
  go_enter Tryz.func62,Tryz.ntmps62
  go_wp2_with fail
  go_loopw [0,5] (fun x i wr=>∃ k:Nat,k≤8∧i=.int .i64 k∧x=.int .u32 (sts k (s ^^^ c):Nat)∧wr=w) (fun _ i _=>8 - (intOf i).toNat)
  case atStart=>exact ⟨0,Nat.zero_le _,rfl,congrArg (Value.int .u32) HX.out,rfl⟩
  case round=>
    obtain ⟨k,hk,rfl,rfl,rfl⟩:=hrel
    have hlt:sts k (s ^^^ c)<4294967296:=sts_lt hzc
    have HN:=hidden (sts_next k (s ^^^ c))
    by_cases h8:k<8
    · generalize sts k (s ^^^ c)=a at *
      by_cases h2:a%2=1
      · have d:((a:Int)%2==1)=true:=by simp;omega
        have HV:Hid (bits .xor .u32 ((a:Int) / 2) 3988292384=((sts (k+1) (s ^^^ c):Nat):Int)):=by
          show bits .xor .u32 ((a:Int) / 2) 3988292384=_
          rw [HN.out,st_half,if_pos h2,← u32_xor_nat (a / 2) T (by omega) T_lt];rfl
        clear h2
        go_wp2_with fail
        go_roundw
        case rel=>exact ⟨k+1,by omega,by go_num,congrArg (Value.int .u32) HV.out,trivial⟩
        case measure=>simp [intOf];omega
      · have d:((a:Int)%2==1)=false:=by simp;omega
        have HV:Hid ((a:Int) / 2=((sts (k+1) (s ^^^ c):Nat):Int)):=by
          show (a:Int) / 2=_
          rw [HN.out,st_half,if_neg h2];rfl
        clear h2
        go_wp2_with fail
        go_roundw
        case rel=>exact ⟨k+1,by omega,by go_num,congrArg (Value.int .u32) HV.out,trivial⟩
        case measure=>simp [intOf];omega
    · have e8:k=8:=by omega
      subst e8
      go_wp2_with fail
      go_ret
      exact ⟨rfl,rfl⟩

theorem turn (x:Nat) (h:x<4294967296):x ^^^ M=M - x:=by
  have h1:=congrArg BitVec.toNat (BitVec.xor_allOnes (x:=BitVec.ofNat 32 x))
  rw [BitVec.toNat_xor,BitVec.toNat_not,BitVec.toNat_ofNat,BitVec.toNat_allOnes,Nat.mod_eq_of_lt (by omega)] at h1
  exact h1
theorem turn_int (x:Nat) (h:x<4294967296):(4294967295:Int) - (x:Int)=((x ^^^ M:Nat):Int):=by
  rw [turn x h];unfold M;omega

set_option maxHeartbeats 1000000 in
set_option maxRecDepth 100000 in
theorem rmore_calls (s:Nat) (a:Option Addr) (len cap:Nat) (L:List Nat) (w:World) (hs:s<4294967296) (h:Arg w a len L) :
    Calls Tryz.prog 26 #[.int .i64 (s:Int),.slice a len cap] w fun e w'=>e=.returned (.int .i64 (go s L:Nat))∧w'=w:=by
  have HA:=hidden h
  obtain ⟨_,hlen,hl⟩:=h
  subst hlen
  have hu:s ^^^ M<4294967296:=xor_lt hs M_lt
  have HU:=hidden (turn_int s hs)
  go_enter Tryz.func26,Tryz.ntmps26
  go_wp2_with fail
  go_loopw [5,6] (fun x i wr=>∃ k:Nat,k≤L.length∧i=.int .i64 k∧x=.int .u32 (bys (s ^^^ M) (L.take k):Nat)∧wr=w) (fun _ i _=>L.length - (intOf i).toNat)
  case atStart=>exact ⟨0,Nat.zero_le _,rfl,congrArg (Value.int .u32) HU.out,rfl⟩
  case round=>
    obtain ⟨k,hk,rfl,rfl,rfl⟩:=hrel
    by_cases h:k<L.length
    · obtain ⟨b,o,rfl,hc⟩:=HA.out.1.2 k h
      have hcl:=getD_lt L HA.out.1.1 k h
      have HT:=hidden (bys_take (s ^^^ M) L k h)
      have hlt:bys (s ^^^ M) (L.take k)<4294967296:=bys_lt hu (take_lt L HA.out.1.1 k)
      generalize L.getD k 0=c at *
      generalize hz:bys (s ^^^ M) (L.take k)=z at *
      have HZ:=hidden hz
      clear hz
      go_wp2_with fail
      refine (on_calls z c _ hlt hcl).mono ?_
      rintro e w ⟨rfl,rfl⟩
      go_wp2_with fail
      go_roundw
      case rel=>exact ⟨k+1,by omega,by go_num,by rw [HT.out],trivial⟩
      case measure=>simp [intOf];omega
    · have ek:k=L.length:=by omega
      subst ek
      rw [List.take_length]
      have hlt:bys (s ^^^ M) L<4294967296:=bys_lt hu HA.out.1.1
      have HR:=hidden (turn_int _ hlt)
      go_wp2_with fail
      go_ret
      exact ⟨ret_int HR.out,rfl⟩

theorem by1_zero (z:Nat):by1 z 0=sts 8 z:=by unfold by1;rw [Nat.xor_zero]
theorem sts_more (k a:Nat):by1 (sts (8*k) a) 0=sts (8*(k+1)) a:=by
  rw [by1_zero,show 8*(k+1)=8*k+8 by omega,sts_add]

set_option maxHeartbeats 1000000 in
set_option maxRecDepth 100000 in
theorem number_calls (b o cap:Nat) (t0 t1 t2 t3:Nat) (w:World) (h0:t0<256) (h1:t1<256) (h2:t2<256) (h3:t3<256)
    (c0:w.cell? ⟨b,o,none⟩=some (.int .u8 (t0:Int))) (c1:w.cell? ⟨b,o+1,none⟩=some (.int .u8 (t1:Int))) (c2:w.cell? ⟨b,o+2,none⟩=some (.int .u8 (t2:Int))) (c3:w.cell? ⟨b,o+3,none⟩=some (.int .u8 (t3:Int))) :
    Calls Tryz.prog 63 #[.slice (some ⟨b,o,none⟩) 4 cap] w fun e w'=>e=.returned (.int .i64 (num 0 [t0,t1,t2,t3]:Nat))∧w'=w:=by
  go_enter Tryz.func63,Tryz.ntmps63
  go_wp2_with fail
  refine wp_loop_rounds 5 ?_
  rw [rounds_succ]
  go_wp2_with fail
  rw [rounds_succ]
  go_wp2_with fail
  rw [rounds_succ]
  go_wp2_with fail
  rw [rounds_succ]
  go_wp2_with fail
  rw [rounds_succ]
  go_wp2_with fail
  go_ret
  exact ⟨ret_int (by simp [num]),rfl⟩

end Go.Proofs.YtlppdppddiecnaaGreatDoor.RCrc
namespace Go.Proofs.YtlppdppddiecnaaGreatDoor.RCrc
open Go.ChangeShapes Go.WideShapes Go.ChangeAt Go.RowKit Go.Proofs.YtlppdppddiecnaaGreatDoor.CM Go.Proofs.YtlppdppddiecnaaGreatDoor.Mem Go.Proofs.YtlppdppddiecnaaGreatDoor.Crc
set_option linter.unusedVariables false

theorem one_block {x:Int} {n:Nat} (h:x=(n:Int)):(#[Value.int .u8 x]:Array Value)=(cellsOf [n]).toArray:=by rw [h];rfl
theorem own_next {w:World} {base m k:Nat} {v:Value} {L K R:List Nat} (h:w.ownsRow base 5 1 v m (cellsOf L++cellsOf K)) (hm:m=k) (hR:L++K=R):w.ownsRow base 5 1 v k (cellsOf R):=by
  rw [← cellsOf_app] at h
  rw [← hm,← hR];exact h

set_option maxHeartbeats 400000 in
theorem ropen_short (a:Option Addr) (len cap:Nat) (w:World) (h:len<4) :
    Calls Tryz.prog 27 #[.slice a len cap] w fun e w'=>e=.returned (.tuple #[.slice none 0 0,.int .i64 8])∧w'=w:=by
  go_enter Tryz.func27,Tryz.ntmps27
  go_wp2_with fail
  go_ret2
  exact ⟨rfl,rfl⟩

set_option maxHeartbeats 1000000 in
set_option maxRecDepth 100000 in
theorem ropen_bad (b o cap m:Nat) (B:List Nat) (t0 t1 t2 t3:Nat) (w:World) (hm:B.length=m) (h:Arg w (some ⟨b,o,none⟩) (m+4) (B++[t0,t1,t2,t3])) (hcc:m+4≤cap) (hne:num 0 [t0,t1,t2,t3]≠go 0 B) :
    Calls Tryz.prog 27 #[.slice (some ⟨b,o,none⟩) (m+4) cap] w fun e w'=>e=.returned (.tuple #[.slice none 0 0,.int .i64 9])∧∃ k,w'=w.drewN k:=by
  have HA:=hidden h
  have hl:=h.2.2
  have hc:=tail_cells h.1 hm
  have s0:=cut_high (some ⟨b,o,none⟩) (m+4) cap m (by omega)
  have s1:=cut_low b o (m+4) cap m (by omega) (by omega)
  rw [show m+4 - m=4 by omega] at s1
  have HB:Hid (Arg w (some ⟨b,o,none⟩) m B):=by
    have:=h.1.take m
    rw [← hm,List.take_left] at this
    exact ⟨this,hm,by omega⟩
  have CN:=hidden (fun (w:World) c0 c1 c2 c3=>number_calls b (o+m) (cap - m) t0 t1 t2 t3 w (h.1.1 t0 (by simp)) (h.1.1 t1 (by simp)) (h.1.1 t2 (by simp)) (h.1.1 t3 (by simp)) c0 c1 c2 c3)
  have CM:=hidden (fun w h=>rmore_calls 0 (some ⟨b,o,none⟩) m cap B w (by decide) h)
  generalize go 0 B=g at *
  generalize num 0 [t0,t1,t2,t3]=q at *
  have HC:=hidden hc
  have d0:((q:Int)==(g:Int))=false:=by simp;omega
  clear h hne hm hc
  go_enter Tryz.func27,Tryz.ntmps27
  go_wp2_with fail
  go_quiet ((first | (go_at_call 63;exact Calls.quiet_of_same (CN.out _ (by exact HC.out.1) (by exact HC.out.2.1) (by exact HC.out.2.2.1) (by exact HC.out.2.2.2))) | (go_at_call 26;exact Calls.quiet_of_same (CM.out _ (by exact HB.out)))))
  go_wp2_with fail
  go_ret2
  exact ⟨rfl,_,rfl⟩

set_option maxHeartbeats 1000000 in
set_option maxRecDepth 100000 in
theorem ropen_good (b o cap m:Nat) (B:List Nat) (t0 t1 t2 t3:Nat) (w:World) (hm:B.length=m) (h:Arg w (some ⟨b,o,none⟩) (m+4) (B++[t0,t1,t2,t3])) (hcc:m+4≤cap) (hne:num 0 [t0,t1,t2,t3]=go 0 B) :
    Calls Tryz.prog 27 #[.slice (some ⟨b,o,none⟩) (m+4) cap] w fun e w'=>e=.returned (.tuple #[.slice (some ⟨b,o,none⟩) m cap,.int .i64 0])∧∃ k,w'=w.drewN k:=by
  have HA:=hidden h
  have hl:=h.2.2
  have hc:=tail_cells h.1 hm
  have s0:=cut_high (some ⟨b,o,none⟩) (m+4) cap m (by omega)
  have s1:=cut_low b o (m+4) cap m (by omega) (by omega)
  rw [show m+4 - m=4 by omega] at s1
  have HB:Hid (Arg w (some ⟨b,o,none⟩) m B):=by
    have:=h.1.take m
    rw [← hm,List.take_left] at this
    exact ⟨this,hm,by omega⟩
  have CN:=hidden (fun (w:World) c0 c1 c2 c3=>number_calls b (o+m) (cap - m) t0 t1 t2 t3 w (h.1.1 t0 (by simp)) (h.1.1 t1 (by simp)) (h.1.1 t2 (by simp)) (h.1.1 t3 (by simp)) c0 c1 c2 c3)
  have CM:=hidden (fun w h=>rmore_calls 0 (some ⟨b,o,none⟩) m cap B w (by decide) h)
  generalize go 0 B=g at *
  generalize num 0 [t0,t1,t2,t3]=q at *
  have HC:=hidden hc
  have d0:((q:Int)==(g:Int))=true:=by simp;omega
  clear h hne hm hc
  go_enter Tryz.func27,Tryz.ntmps27
  go_wp2_with fail
  go_quiet ((first | (go_at_call 63;exact Calls.quiet_of_same (CN.out _ (by exact HC.out.1) (by exact HC.out.2.1) (by exact HC.out.2.2.1) (by exact HC.out.2.2.2))) | (go_at_call 26;exact Calls.quiet_of_same (CM.out _ (by exact HB.out)))))
  go_wp2_with fail
  go_ret2
  exact ⟨rfl,_,rfl⟩

end Go.Proofs.YtlppdppddiecnaaGreatDoor.RCrc
namespace Go.Proofs.YtlppdppddiecnaaGreatDoor.Rate
open Go.ChangeShapes Go.WideShapes Go.ChangeAt Go.RowKit Go.Proofs.YtlppdppddiecnaaGreatDoor.Mem Go.Proofs.YtlppdppddiecnaaGreatDoor.RT
set_option linter.unusedVariables false

set_option maxHeartbeats 2000000 in
set_option maxRecDepth 100000 in
theorem rates_calls (A:Int) (a:Option Addr) (n cap k:Nat) (L:List Int) (w:World) (h:IArg w a n L) (hk:k≤1000) :
    Calls Tryz.prog 31 #[.int .i64 A,.slice a n cap,.int .i64 (k:Int)] w fun e w'=>e=.returned (.int .i64 (rf A L k:Int))∧w'=w:=by
  have hl:=h.2.1
  have hn:=h.2.2
  have HA:=hidden h
  clear h
  by_cases hb:k<n
  · have e:rf A L k=4:=rf_big (by omega)
    have hz:(k:Int)<(n:Int):=by omega
    rw [e]
    clear e
    go_enter Tryz.func31,Tryz.ntmps31
    go_wp2_with fail
    go_ret
    exact ⟨rfl,rfl⟩
  have hz:¬ (k:Int)<(n:Int):=by omega
  have H0:=hidden (fun p q=>rf_none (A:=A) (L:=L) (k:=k) (by omega) p q)
  have H1:=hidden (fun p=>rf_all (A:=A) (L:=L) (k:=k) (by omega) p)
  have H2:=hidden (fun p=>rf_any (A:=A) (L:=L) (k:=k) (by omega) p)
  obtain ⟨q,hq⟩:∃ q,L.any bad=q:=⟨_,rfl⟩
  have HQ:Hid ((L.drop 0).any bad=q):=by unfold Hid;rw [List.drop_zero];exact hq
  rw [hq] at H0 H2
  generalize rf A L k=f at *
  clear hq
  go_enter Tryz.func31,Tryz.ntmps31
  go_wp2_with fail
  go_loopg [7] n (fun g x wr=>∃ j:Nat,j+g=n∧x=.int .i64 (j:Int)∧Hid ((L.drop j).any bad=q)∧w=wr)
  case atStart=>exact ⟨0,by omega,rfl,HQ,rfl⟩
  case round=>
    clear HQ
    obtain ⟨j,hjg,rfl,HK,rfl⟩:=hrel
    by_cases hj:j<n
    · have hjz:(j:Int)<(n:Int):=by omega
      obtain ⟨b,o,rfl,hcs⟩:=HA.out.at (by omega)
      have c0:=hcs j hj
      have hk':=HK.out
      rw [drop_int (by omega),List.any_cons] at hk'
      obtain ⟨x,hx⟩:∃ x,L.getD j 0=x:=⟨_,rfl⟩
      rw [hx] at c0 hk'
      clear hx hcs HK
      by_cases p:x<0
      · have d:decide (x<0)=true:=by simpa using p
        have hf:f=1:=H2.out (by rw [← hk'];unfold bad;rw [d];rfl)
        have HF:=hidden hf
        clear hk' hf
        go_wp2_with fail
        go_ret
        exact ⟨by rw [HF.out];rfl,rfl⟩
      have d:decide (x<0)=false:=by simpa using p
      by_cases p1:1000000<x
      · have d1:decide (1000000<x)=true:=by simpa using p1
        have hf:f=1:=H2.out (by rw [← hk'];unfold bad;rw [d,d1];rfl)
        have HF:=hidden hf
        clear hk' hf
        go_wp2_with fail
        go_ret
        exact ⟨by rw [HF.out];rfl,rfl⟩
      have d1:decide (1000000<x)=false:=by simpa using p1
      have HK:Hid ((L.drop (j+1)).any bad=q):=by unfold Hid;rw [← hk'];unfold bad;rw [d,d1];rfl
      clear hk'
      go_wp2_with fail
      go_roundg (n - (j+1))
      case measure=>omega
      case rel=>exact ⟨j+1,by omega,by go_num,HK,rfl⟩
    · have hjz:¬ (j:Int)<(n:Int):=by omega
      have hk':=HK.out
      rw [List.drop_eq_nil_of_le (by omega),List.any_nil] at hk'
      by_cases p:A<0
      · have d:decide (A<0)=true:=by simpa using p
        have HF:Hid (f=1):=H1.out (by unfold bad;rw [d];rfl)
        clear hk'
        go_wp2_with fail
        go_ret
        exact ⟨by rw [HF.out];rfl,rfl⟩
      have d:decide (A<0)=false:=by simpa using p
      by_cases p1:1000000<A
      · have d1:decide (1000000<A)=true:=by simpa using p1
        have HF:Hid (f=1):=H1.out (by unfold bad;rw [d,d1];rfl)
        clear hk'
        go_wp2_with fail
        go_ret
        exact ⟨by rw [HF.out];rfl,rfl⟩
      have d1:decide (1000000<A)=false:=by simpa using p1
      have HF:Hid (f=0):=H0.out (by unfold bad;rw [d,d1];rfl) hk'.symm
      clear hk'
      go_wp2_with fail
      go_ret
      exact ⟨by rw [HF.out];rfl,rfl⟩
theorem gv_get:∀ (L:List Int) (j:Nat) (m:Int),j<L.length→gv (L.take (j+1)) m=gv (L.take j) m+(if L.getD j 0<m then L.getD j 0 else m)
  | [],j,m,h=>absurd h (by simp)
  | x::L,0,m,_=>by simp [gv]
  | x::L,j+1,m,h=>by
    have:=gv_get L j m (by simpa using h)
    simp only [List.take_succ_cons,gv,List.getD_cons_succ] at this ⊢
    omega
theorem gv_take_bounds {m:Int} (h0:0≤m) (h1:m≤1000000):∀ (L:List Int) (j:Nat),Rts L→0≤gv (L.take j) m∧gv (L.take j) m≤1000000*(j:Int)
  | [],j,_=>by simp [gv];omega
  | x::L,0,_=>by simp [gv]
  | x::L,j+1,h=>by
    have:=gv_take_bounds h0 h1 L j h.tail
    have:=h.head
    simp only [List.take_succ_cons,gv]
    split<;>omega
set_option maxHeartbeats 2000000 in
set_option maxRecDepth 100000 in
theorem given_calls (a:Option Addr) (n cap:Nat) (L:List Int) (m:Int) (w:World) (h:IArg w a n L) (hr:Rts L) (hn:n≤200) (h0:0≤m) (h1:m≤1000000) :
    Calls Tryz.prog 64 #[.slice a n cap,.int .i64 m] w fun e w'=>e=.returned (.int .i64 (gv L m))∧w'=w:=by
  have hl:=h.2.1
  have HA:=hidden h
  have HR:Hid (∀ j,j<n→0≤L.getD j 0∧L.getD j 0≤1000000):=fun j hj=>by
    refine hr _ ?_
    rw [List.getD_eq_getElem?_getD,List.getElem?_eq_getElem (by omega)]
    exact List.getElem_mem _
  have HG:=hidden (fun j=>gv_take_bounds h0 h1 L j hr)
  clear h hr
  obtain ⟨z,hz⟩:∃ z,gv L m=z:=⟨_,rfl⟩
  have HZ:=hidden hz
  rw [hz]
  clear hz
  go_enter Tryz.func64,Tryz.ntmps64
  go_wp2_with fail
  go_loopg [5,6] n (fun g u x wr=>∃ (j:Nat) (s:Int),j+g=n∧u=.int .i64 s∧x=.int .i64 (j:Int)∧Hid (s=gv (L.take j) m)∧w=wr)
  case atStart=>exact ⟨0,0,by omega,rfl,rfl,by unfold Hid;simp [gv],rfl⟩
  case round=>
    obtain ⟨j,s,hjg,rfl,rfl,HS,rfl⟩:=hrel
    by_cases hj:j<n
    · have hjz:(j:Int)<(n:Int):=by omega
      obtain ⟨b,o,rfl,hcs⟩:=HA.out.at (by omega)
      have c0:=hcs j hj
      have hx:=HR.out j hj
      have hs:=HG.out j
      rw [← HS.out] at hs
      have hg:=gv_get L j m (by omega)
      rw [← HS.out] at hg
      obtain ⟨x,hxx⟩:∃ x,L.getD j 0=x:=⟨_,rfl⟩
      rw [hxx] at c0 hx hg
      clear hxx hcs HS
      by_cases p:x<m
      · have d:decide (x<m)=true:=by simpa using p
        rw [if_pos p] at hg
        have HS:=hidden hg.symm
        clear hg
        go_wp2_with fail
        go_roundg (n - (j+1))
        case measure=>omega
        case rel=>exact ⟨j+1,s+x,by omega,by go_num,by go_num,HS,rfl⟩
      · have d:decide (x<m)=false:=by simpa using p
        rw [if_neg p] at hg
        have HS:=hidden hg.symm
        clear hg
        go_wp2_with fail
        go_roundg (n - (j+1))
        case measure=>omega
        case rel=>exact ⟨j+1,s+m,by omega,by go_num,by go_num,HS,rfl⟩
    · have hjz:¬ (j:Int)<(n:Int):=by omega
      have HS':Hid (s=z):=by unfold Hid;rw [HS.out,List.take_of_length_le (by omega),HZ.out]
      clear HS
      go_wp2_with fail
      go_ret
      exact ⟨by rw [← HS'.out];rfl,rfl⟩

structure Bits (A:Int) (L:List Int) (x by':Int) (k:Nat):Prop where
  eq:by'=((2 ^ k / 2:Nat):Int)
  x0:0≤x
  x1:x≤1000000
  ok:gv L x≤A
  up:1000000<x+((2 ^ k:Nat):Int)∨A<gv L (x+((2 ^ k:Nat):Int))
theorem gv_zero:∀ L:List Int,Rts L→gv L 0=0
  | [],_=>rfl
  | x::L,h=>by
    have:=h.head
    simp only [gv,gv_zero L h.tail]
    rw [if_neg (by omega)]
    rfl
theorem Bits.first {A:Int} {L:List Int} (hr:Rts L) (hA:0≤A):Bits A L 0 1048576 21:=
  ⟨by decide,by omega,by omega,by rw [gv_zero L hr];exact hA,.inl (by decide)⟩
theorem Bits.pos {A x y:Int} {L:List Int} {k:Nat} (h:Bits A L x y (k+1)):y=((2 ^ k:Nat):Int):=by
  rw [h.eq]
  congr 1
  rw [Nat.pow_succ]
  omega
theorem half (k:Nat):((2 ^ (k+1):Nat):Int)=((2 ^ k:Nat):Int)+((2 ^ k:Nat):Int):=by rw [Nat.pow_succ];omega
theorem Bits.yes {A x y:Int} {L:List Int} {k:Nat} (h:Bits A L x y (k+1)) (h1:x+y≤1000000) (h2:gv L (x+y)≤A):Bits A L (x+y) (y / 2) k:=by
  have e:=h.pos
  have u:=h.up
  rw [half,← e,← Int.add_assoc] at u
  refine ⟨by rw [e];omega,?_,h1,h2,by rw [← e];exact u⟩
  have:=h.x0
  have:0≤y:=by rw [e];exact Int.natCast_nonneg _
  omega
theorem Bits.no {A x y:Int} {L:List Int} {k:Nat} (h:Bits A L x y (k+1)) (h1:1000000<x+y∨A<gv L (x+y)):Bits A L x (y / 2) k:=by
  have e:=h.pos
  exact ⟨by rw [e];omega,h.x0,h.x1,h.ok,by rw [← e];exact h1⟩
theorem Bits.last {A x y:Int} {L:List Int} (hr:Rts L) (h:Bits A L x y 0):y=0∧Lev A L x (A - gv L x):=by
  have u:=h.up
  refine ⟨by rw [h.eq];rfl,lev_greatest hr h.x0 h.x1 h.ok ?_⟩
  have hx:=h.x1
  rcases u with u | u
  · left;simp at u;omega
  · right;simpa using u
theorem Bits.bound {A x y:Int} {L:List Int} {k:Nat} (h:Bits A L x y (k+1)) (hk:k+1≤21):0<y∧y≤1048576:=by
  have e:=h.pos
  have h1:2 ^ k≤2 ^ 20:=Nat.pow_le_pow_right (by omega) (by omega)
  have h2:0<2 ^ k:=Nat.pow_pos (by omega)
  have h3:(2:Nat) ^ 20=1048576:=by decide
  rw [e]
  omega
structure OSt (w wr:World) (v:Value) (S:List Int) (j:Nat):Prop where
  own:wr.ownsRow w.heap.size 3 1 v j (ic (S.take j))
  bel:Below w.heap.size w wr
theorem own_form {w:World} {base n:Nat} {v:Value} {xs:List Value} (h:w.ownsRow base 3 1 v n xs):∃ a cap,v=.slice a n cap:=by
  rcases h.2 with ⟨rfl,rfl⟩ | ⟨g,cap,_,rfl,_⟩
  · exact ⟨none,0,rfl⟩
  · exact ⟨_,cap,rfl⟩
set_option maxHeartbeats 4000000 in
set_option maxRecDepth 100000 in
theorem rfair_calls (A:Int) (a:Option Addr) (n cap:Nat) (L:List Int) (w:World) (h:IArg w a n L) (hr:Rts L) (hn:n≤200) (hA:0≤A) (hA1:A≤1000000) :
    Calls Tryz.prog 33 #[.int .i64 A,.slice a n cap] w fun e w'=>∃ v,e=.returned v∧w'.ownsRow w.heap.size 3 1 v n (ic (shr A L))∧Below w.heap.size w w':=by
  have hl:=h.2.1
  obtain ⟨i0,hii,hz0,hz1,hz2⟩:=info_parts info3
  have HA:=hidden h
  have HR:=hidden hr
  have HX:Hid (∀ j,j<n→0≤L.getD j 0∧L.getD j 0≤1000000):=fun j hj=>by
    refine hr _ ?_
    rw [List.getD_eq_getElem?_getD,List.getElem?_eq_getElem (by omega)]
    exact List.getElem_mem _
  have HC:=hidden (fun m h0 h1 W hW=>given_calls a n cap L m W (h.below hW) hr hn h0 h1)
  have HB0:=hidden (Bits.first hr hA)
  have HL:=hidden (shr_lev hr hA)
  have HSh:Hid (∀ {m lf:Int},Lev A L m lf→sh m lf L=shr A L):=fun k=>lev_same hr k (shr_lev hr hA)
  have HG:=hidden (fun m (h0:0≤m)=>gv_bounds h0 L hr)
  clear h hr
  generalize shr A L=S at *
  go_enter Tryz.func33,Tryz.ntmps33
  go_wp2_with fail
  go_loopg [5,6] 21 (fun g u v wr=>∃ (x y:Int),u=.int .i64 x∧v=.int .i64 y∧g≤21∧Hid (Bits A L x y g)∧w=wr)
  case atStart=>exact ⟨0,1048576,rfl,rfl,by omega,HB0,rfl⟩
  case round=>
    clear HB0
    obtain ⟨x,y,rfl,rfl,hg,HB,rfl⟩:=hrel
    have hx0:=HB.out.x0
    have hx1:=HB.out.x1
    cases gk with
    | succ k=>
      obtain ⟨y0,y1⟩:=HB.out.bound hg
      by_cases p:x+y≤1000000
      · have d:decide (x+y≤1000000)=true:=by simpa using p
        have C:=hidden (HC.out (x+y) (by omega) p w (Below.refl _ _))
        have HY:=hidden (fun q=>HB.out.yes p q)
        have HN:=hidden (fun q=>HB.out.no (.inr q))
        obtain ⟨z,hz⟩:∃ z,gv L (x+y)=z:=⟨_,rfl⟩
        rw [hz] at C HY HN
        clear hz
        by_cases q:z≤A
        · have d1:decide (z≤A)=true:=by simpa using q
          have HB1:=hidden (HY.out q)
          clear HY HN HB
          go_wp2_with fail
          refine C.out.mono ?_
          rintro e w' ⟨rfl,hw⟩
          obtain rfl:=hw.symm
          go_wp2_with fail
          go_roundg k
          case measure=>omega
          case rel=>exact ⟨x+y,y / 2,by go_num,by go_num,by omega,HB1,rfl⟩
        · have d1:decide (z≤A)=false:=by simpa using q
          have HB1:=hidden (HN.out (by omega))
          clear HY HN HB
          go_wp2_with fail
          refine C.out.mono ?_
          rintro e w' ⟨rfl,hw⟩
          obtain rfl:=hw.symm
          go_wp2_with fail
          go_roundg k
          case measure=>omega
          case rel=>exact ⟨x,y / 2,by go_num,by go_num,by omega,HB1,rfl⟩
      · have d:decide (x+y≤1000000)=false:=by simpa using p
        have HB1:=hidden (HB.out.no (.inl (by omega)))
        clear HB
        go_wp2_with fail
        go_roundg k
        case measure=>omega
        case rel=>exact ⟨x,y / 2,by go_num,by go_num,by omega,HB1,rfl⟩
    | zero=>
      obtain ⟨hy,hlev⟩:=HB.out.last HR.out
      subst hy
      have hgx:=HG.out x hx0
      have hok:=HB.out.ok
      have hS:=HSh.out hlev
      have C:=hidden (HC.out x hx0 hx1 w (Below.refl _ _))
      clear hlev HB
      obtain ⟨z,hz⟩:∃ z,gv L x=z:=⟨_,rfl⟩
      rw [hz] at C hgx hok hS
      clear hz
      have HK0:Hid (sh x (A - z) (L.drop 0)=S.drop 0):=by unfold Hid;rw [List.drop_zero,List.drop_zero];exact hS
      have hsl:S.length=n:=by rw [← hS,sh_len,hl]
      clear hS
      go_wp2_with fail
      refine C.out.mono ?_
      rintro e w' ⟨rfl,hw⟩
      obtain rfl:=hw.symm
      clear C
      have HO:Hid (OSt w w (.slice none 0 0) S 0):=⟨World.ownsRow_nil _ _ _ _,Below.refl _ _⟩
      go_wp2_with fail
      go_loopg [7,8,9] n (fun g u o y wr=>∃ (j:Nat) (q:Int) (va:Option Addr) (vc:Nat),j+g=n∧u=.int .i64 q∧o=.slice va j vc∧y=.int .i64 (j:Int)∧0≤q∧q≤1000000∧Hid (sh x q (L.drop j)=S.drop j)∧Hid (OSt w wr (.slice va j vc) S j))
      case atStart=>exact ⟨0,A - z,none,0,by omega,by go_num,rfl,rfl,by omega,by omega,HK0,HO⟩
      case round=>
        clear HK0 HO
        obtain ⟨j,q,va,vc,hjg,rfl,rfl,rfl,q0,q1,HK,HO⟩:=hrel
        by_cases hj:j<n
        · have hjz:(j:Int)<(n:Int):=by omega
          obtain ⟨b,o,rfl,hcs⟩:=(HA.out.below HO.out.bel).at (by omega)
          have c0:=hcs j hj
          have hk:=HK.out
          have hxx:=HX.out j hj
          have hsz:=HO.out.bel.size
          rw [drop_int (show j<L.length by omega),drop_int (show j<S.length by omega)] at hk
          have ht:=take_next S (show j<S.length by omega)
          obtain ⟨t,htt⟩:∃ t,L.getD j 0=t:=⟨_,rfl⟩
          obtain ⟨s,hss⟩:∃ s,S.getD j 0=s:=⟨_,rfl⟩
          rw [htt] at c0 hk hxx
          rw [hss] at hk ht
          have HT:=hidden ht
          clear htt hss ht hcs HK
          simp only [sh] at hk
          by_cases p:x<t
          · have d:decide (x<t)=true:=by simpa using p
            rw [if_pos p] at hk
            by_cases p1:0<q
            · have d1:decide (0<q)=true:=by simpa using p1
              rw [if_pos p1] at hk
              rw [List.cons.injEq] at hk
              obtain ⟨he,hk⟩:=hk
              subst he
              have HK:=hidden hk
              clear hk
              go_wp2_with (at_builtin;refine wpList_append_own _ rfl _ _ 47 rfl w.heap.size 3 i0 _ 1 8 Tryz.underlying47 hii hz0 hz1 hz2 rfl (by decide) _ j (ic (S.take j)) rfl (HO.out.own.alloc _) ⟨wr.heap.size,0,none⟩ 1 1 [.int .i64 (x+1)] rfl rfl (World.news_of_block (cs:=#[.int .i64 (x+1)]) (t:=3) (fr:=(0,0)) (heap_alloc_new wr _)) ?c2x ?b1x ?b2x ?b3x ?nextx)
              case c2x=>first | (intro u hu';simp at hu';subst hu';rfl) | rfl
              case b1x=>unfold maxLen;omega
              case b2x=>omega
              case b3x=>first | (simp;omega) | omega
              case nextx=>
                intro v' w5 hown hgrow _
                obtain ⟨a5,c5,rfl⟩:=own_form hown
                have HO5:Hid (OSt w w5 (.slice a5 (j+1) c5) S (j+1)):=by
                  refine ⟨?_,(below_alloc HO.out.bel _).grown hgrow (by simp;omega) (fun i hi=>(HO.out.own.lt i hi).1)⟩
                  rw [HT.out,ic_app]
                  exact hown
                clear hown hgrow
                go_wp2_with fail
                go_roundg (n - (j+1))
                case measure=>omega
                case rel=>exact ⟨j+1,q - 1,a5,c5,by omega,by go_num,rfl,by go_num,by omega,by omega,HK,HO5⟩
            · have d1:decide (0<q)=false:=by simpa using p1
              rw [if_neg p1] at hk
              rw [List.cons.injEq] at hk
              obtain ⟨he,hk⟩:=hk
              subst he
              have HK:=hidden hk
              clear hk
              go_wp2_with (at_builtin;refine wpList_append_own _ rfl _ _ 47 rfl w.heap.size 3 i0 _ 1 8 Tryz.underlying47 hii hz0 hz1 hz2 rfl (by decide) _ j (ic (S.take j)) rfl (HO.out.own.alloc _) ⟨wr.heap.size,0,none⟩ 1 1 [.int .i64 x] rfl rfl (World.news_of_block (cs:=#[.int .i64 x]) (t:=3) (fr:=(0,0)) (heap_alloc_new wr _)) ?c2y ?b1y ?b2y ?b3y ?nexty)
              case c2y=>first | (intro u hu';simp at hu';subst hu';rfl) | rfl
              case b1y=>unfold maxLen;omega
              case b2y=>omega
              case b3y=>first | (simp;omega) | omega
              case nexty=>
                intro v' w5 hown hgrow _
                obtain ⟨a5,c5,rfl⟩:=own_form hown
                have HO5:Hid (OSt w w5 (.slice a5 (j+1) c5) S (j+1)):=by
                  refine ⟨?_,(below_alloc HO.out.bel _).grown hgrow (by simp;omega) (fun i hi=>(HO.out.own.lt i hi).1)⟩
                  rw [HT.out,ic_app]
                  exact hown
                clear hown hgrow
                go_wp2_with fail
                go_roundg (n - (j+1))
                case measure=>omega
                case rel=>exact ⟨j+1,q,a5,c5,by omega,by go_num,rfl,by go_num,by omega,by omega,HK,HO5⟩
          · have d:decide (x<t)=false:=by simpa using p
            rw [if_neg p] at hk
            rw [List.cons.injEq] at hk
            obtain ⟨he,hk⟩:=hk
            subst he
            have HK:=hidden hk
            clear hk
            go_wp2_with (at_builtin;refine wpList_append_own _ rfl _ _ 47 rfl w.heap.size 3 i0 _ 1 8 Tryz.underlying47 hii hz0 hz1 hz2 rfl (by decide) _ j (ic (S.take j)) rfl (HO.out.own.alloc _) ⟨wr.heap.size,0,none⟩ 1 1 [.int .i64 t] rfl rfl (World.news_of_block (cs:=#[.int .i64 t]) (t:=3) (fr:=(0,0)) (heap_alloc_new wr _)) ?c2z ?b1z ?b2z ?b3z ?nextz)
            case c2z=>first | (intro u hu';simp at hu';subst hu';rfl) | rfl
            case b1z=>unfold maxLen;omega
            case b2z=>omega
            case b3z=>first | (simp;omega) | omega
            case nextz=>
              intro v' w5 hown hgrow _
              obtain ⟨a5,c5,rfl⟩:=own_form hown
              have HO5:Hid (OSt w w5 (.slice a5 (j+1) c5) S (j+1)):=by
                refine ⟨?_,(below_alloc HO.out.bel _).grown hgrow (by simp;omega) (fun i hi=>(HO.out.own.lt i hi).1)⟩
                rw [HT.out,ic_app]
                exact hown
              clear hown hgrow
              go_wp2_with fail
              go_roundg (n - (j+1))
              case measure=>omega
              case rel=>exact ⟨j+1,q,a5,c5,by omega,by go_num,rfl,by go_num,by omega,by omega,HK,HO5⟩
        · have hjz:¬ (j:Int)<(n:Int):=by omega
          obtain rfl:j=n:=by omega
          have ho:=HO.out.own
          rw [List.take_of_length_le (by omega)] at ho
          have H1:=hidden ho
          have H2:=hidden HO.out.bel
          clear ho HO HK
          go_wp2_with fail
          go_ret
          exact ⟨_,rfl,H1.out,H2.out⟩
end Go.Proofs.YtlppdppddiecnaaGreatDoor.Rate
