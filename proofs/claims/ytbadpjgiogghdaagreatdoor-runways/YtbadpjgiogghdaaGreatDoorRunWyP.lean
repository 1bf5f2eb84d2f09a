/-
  RunWays: a session knows the way along a chain of nodes.
-/
import Derived.Test.YtbadpjgiogghdaaGreatDoorRunZP
import Derived.Test.YtbadpjgiogghdaaGreatDoorRunDgP
import Derived.Test.YtbadpjgiogghdaaGreatDoorRunWmP
import Derived.Test.YtbadpjgiogghdaaGreatDoorRateIP
import Derived.LoopTactic
import Derived.RegionTactic
namespace Go.Proofs.YtbadpjgiogghdaaGreatDoor.Run
open Go.ChangeShapes Go.WideShapes Go.ChangeAt Go.RowKit Go.Proofs.YtbadpjgiogghdaaGreatDoor.Mem Go.Proofs.YtbadpjgiogghdaaGreatDoor.RN Go.Proofs.YtbadpjgiogghdaaGreatDoor.RC
set_option linter.unusedVariables false
theorem tx_len {C:Nat→Int} {n:Nat} (h:∀ i,i<n→1≤C i∧C i≤10000) (hn:n≤15):∀ k,k≤n→(tx C k).length≤70*k
  | 0,_=>by simp [tx]
  | k+1,hk=>by
    have ih:=tx_len h hn k (by omega)
    have h1:=Lib.itoa_length_le ((k:Int)+1) (by omega) (by omega)
    have h2:=Lib.itoa_length_le (k:Int) (by omega) (by omega)
    have hc:=h k (by omega)
    have h3:=Lib.itoa_length_le (C k) (by omega) (by omega)
    rw [tx]
    split
    · simp only [List.length_append,List.length_cons,List.length_nil];omega
    · simp only [List.length_append,List.length_cons,List.length_nil];omega
theorem wt_len {C:Nat→Int} {n:Nat} (h:∀ i,i<n→1≤C i∧C i≤10000) (hn:n≤15):∀ k,k≤n→(wt C k).length≤1+22*k
  | 0,_=>by simp [wt]
  | k+1,hk=>by
    have ih:=wt_len h hn k (by omega)
    have hs:=sums_nonneg h (k+1) hk
    have h1:=Lib.itoa_length_le (sums C (k+1)) (by omega) (by omega)
    rw [wt]
    simp only [List.length_append,List.length_cons,List.length_nil]
    omega
theorem run_way (D:Far) (hD:D.Ok) (ea:Addr) {C:Nat→Int} {n:Nat} (h:Chain C n) (W:World) (g:GW ea W) :
    Calls Tryz.prog 7 #[.string (⟨#[119,97,121,32]⟩++bs (Lib.itoa ((n:Int)+1))++⟨#[32]⟩++bs (tx C n)++⟨#[10]⟩)] W fun e w'=>e=.returned (.string (bs (wt C n)++⟨#[10]⟩))∧Below W.heap.size W w':=by
  have h1:=tx_len h.c h.hi n (Nat.le_refl _)
  have hi:=h.hi
  have h2:=Lib.itoa_length_le ((n:Int)+1) (by omega) (by omega)
  have hle:([119,97,121,32]++Lib.itoa ((n:Int)+1)++[32]++tx C n++[10]).length≤3000:=by
    simp only [List.length_append,List.length_cons,List.length_nil]
    omega
  have hr:=run_calls D hD ea _ (Nat.le_trans hle (by decide)) W g
  rw [runOf,if_neg (by omega),answers_way D hD h] at hr
  have e1:(⟨#[119,97,121,32]⟩++bs (Lib.itoa ((n:Int)+1))++⟨#[32]⟩++bs (tx C n)++⟨#[10]⟩:ByteArray)=bs ([119,97,121,32]++Lib.itoa ((n:Int)+1)++[32]++tx C n++[10]):=by
    rw [← bs_app,← bs_app,← bs_app,← bs_app];rfl
  have e2:(bs (wt C n)++⟨#[10]⟩:ByteArray)=bs (wt C n++[10]):=by rw [← bs_app];rfl
  rw [e1,e2]
  exact hr
theorem tx_first (C:Nat→Int) {i:Nat} (h:i=0):bs (tx C (i+1))=bs (tx C i)++bs (Lib.itoa ((i:Int)+1))++⟨#[44]⟩++bs (Lib.itoa (i:Int))++⟨#[44]⟩++bs (Lib.itoa (C i)):=by
  have e:tx C (i+1)=tx C i++Lib.itoa ((i:Int)+1)++[44]++Lib.itoa (i:Int)++[44]++Lib.itoa (C i):=by
    rw [tx,if_pos h,List.append_nil]
  rw [e,← bs_app,← bs_app,← bs_app,← bs_app,← bs_app];rfl
theorem tx_more (C:Nat→Int) {i:Nat} (h:i≠0):bs (tx C (i+1))=bs (tx C i)++⟨#[44]⟩++bs (Lib.itoa ((i:Int)+1))++⟨#[44]⟩++bs (Lib.itoa (i:Int))++⟨#[44]⟩++bs (Lib.itoa (C i)):=by
  rw [tx,if_neg h,← bs_app,← bs_app,← bs_app,← bs_app,← bs_app,← bs_app];rfl
theorem wt_more (C:Nat→Int) (i:Nat):bs (wt C (i+1))=bs (wt C i)++⟨#[44]⟩++bs (Lib.itoa (sums C i+C i)):=by
  rw [wt,← bs_app,← bs_app,sums];rfl
set_option maxHeartbeats 4000000 in
set_option maxRecDepth 100000 in
theorem ways_calls (D:Far) (hD:D.Ok) (ea:Addr) (a:Option Addr) (n cap:Nat) (L:List Int) (w:World) (g:GW ea w) (hA:Rate.IArg w a n L) :
    Calls Tryz.prog 5 #[.slice a n cap] w fun e w'=>e=.returned (.bool true)∧Below w.heap.size w w':=by
  by_cases h1:n<1
  · have d0:decide ((n:Int)<1)=true:=by simp;omega
    go_enter Tryz.func5,Tryz.ntmps5
    go_loud (go_wp2_with fail)
    go_loud (go_ret)
    exact ⟨rfl,Below.refl _ _⟩
  have d0:decide ((n:Int)<1)=false:=by simp;omega
  by_cases h2:15<n
  · have d1:decide ((15:Int)<(n:Int))=true:=by simp;omega
    go_enter Tryz.func5,Tryz.ntmps5
    go_loud (go_wp2_with fail)
    go_loud (go_ret)
    exact ⟨rfl,Below.refl _ _⟩
  have d1:decide ((15:Int)<(n:Int))=false:=by simp;omega
  have HA:=hidden hA
  have HG:=hidden g
  have HN:Hid (1≤n∧n≤15):=hidden (by omega)
  have HDg:Hid (∀ (x:Int) (W:World),-9223372036854775807≤x→x≤9223372036854775807→_):=hidden (fun x W h0 h1=>digits_calls x h0 h1 W)
  obtain ⟨C,hC⟩:∃ C:Nat→Int,C=fun i=>L.getD i 0:=⟨_,rfl⟩
  have HC:=hidden hC
  clear hA g h1 h2 hC
  go_enter Tryz.func5,Tryz.ntmps5
  go_wp2_with fail
  go_loopg [4,5,6,7] n (fun g u4 u5 u6 u7 wr=>∃ i:Nat,i+g=n∧u4=.string (bs (tx C i))∧u5=.string (bs (wt C i))∧u6=.int .i64 (sums C i)∧u7=.int .i64 (i:Int)∧Hid (Below w.heap.size w wr)∧Hid (∀ j,j<i→1≤C j∧C j≤10000))
  case atStart=>exact ⟨0,by omega,rfl,rfl,rfl,rfl,hidden (Below.refl _ _),hidden (fun j hj=>absurd hj (by omega))⟩
  case round=>
    obtain ⟨i,hig,rfl,rfl,rfl,rfl,HB,HJ⟩:=hrel
    by_cases hi:i<n
    · have hiz:decide ((i:Int)<(n:Int))=true:=by simp;omega
      obtain ⟨bb,o,rfl,c0⟩:=(HA.out.below HB.out).1 i (by have:=HA.out.2.1;omega)
      have hci:L.getD i 0=C i:=by rw [HC.out]
      rw [hci] at c0
      have hi16:i≤15:=by have:=HN.out;omega
      by_cases hc1:C i<1
      · obtain ⟨c,hc⟩:∃ c,C i=c:=⟨_,rfl⟩
        rw [hc] at c0 hc1
        have e1:decide (c<1)=true:=by simpa using hc1
        go_loud (go_wp2_with fail)
        go_loud (go_ret)
        exact ⟨rfl,HB.out⟩
      · by_cases hc2:10000<C i
        · obtain ⟨c,hc⟩:∃ c,C i=c:=⟨_,rfl⟩
          rw [hc] at c0 hc1 hc2
          have e1:decide (c<1)=false:=by simpa using hc1
          have e2:decide (10000<c)=true:=by simpa using hc2
          go_loud (go_wp2_with fail)
          go_loud (go_ret)
          exact ⟨rfl,HB.out⟩
        · have hJn:∀ j,j<i+1→1≤C j∧C j≤10000:=by
            intro j hj
            by_cases h:j=i
            · subst h;omega
            · exact HJ.out j (by omega)
          have HJn:=hidden hJn
          have hs:=sums_nonneg (n:=i+1) hJn i (by omega)
          have ht:=tx_len (n:=i+1) hJn
          have hT:(bs (tx C i)).size≤1200:=by
            rw [bs_size]
            have:∀ k,k≤i→(tx C k).length≤70*k:=tx_len (fun j hj=>HJ.out j hj) hi16
            have:=this i (Nat.le_refl _)
            omega
          have hWl:(bs (wt C i)).size≤400:=by
            rw [bs_size]
            have:=wt_len (n:=i) (fun j hj=>HJ.out j hj) hi16 i (Nat.le_refl _)
            omega
          have C1:=hidden (HDg.out (i:Int) wr (by omega) (by omega))
          have C2:=hidden (HDg.out ((i:Int)+1) wr (by omega) (by omega))
          have C3:=hidden (HDg.out (C i) wr (by omega) (by omega))
          have C4:=hidden (HDg.out (sums C i+C i) wr (by omega) (by omega))
          have k1:=Lib.itoa_length_le (i:Int) (by omega) (by omega)
          have k2:=Lib.itoa_length_le ((i:Int)+1) (by omega) (by omega)
          have k3:=Lib.itoa_length_le (C i) (by omega) (by omega)
          have k4:=Lib.itoa_length_le (sums C i+C i) (by omega) (by omega)
          rw [← bs_size] at k1 k2 k3 k4
          have HT1:Hid (i≠0→_):=hidden (fun h=>tx_more C h)
          have HW1:=hidden (wt_more C i)
          have hsn:sums C (i+1)=sums C i+C i:=rfl
          obtain ⟨c,hc⟩:∃ c,C i=c:=⟨_,rfl⟩
          obtain ⟨s,hsv⟩:∃ s,sums C i=s:=⟨_,rfl⟩
          rw [hc] at c0 hc1 hc2 C3 k3 hsn
          rw [hc,hsv] at C4 k4 HW1
          rw [hsv] at hs hsn ⊢
          rw [hc] at HT1
          have hwc:wrap64 (s+c)=s+c:=by unfold wrap64;omega
          have e1:decide (c<1)=false:=by simpa using hc1
          have e2:decide (10000<c)=false:=by simpa using hc2
          have HT0:Hid (i=0→_):=hidden (fun h=>tx_first C h)
          rw [hc] at HT0
          generalize bs (tx C i)=T' at *
          generalize bs (wt C i)=W' at *
          generalize bs (Lib.itoa ((i:Int)+1))=B' at *
          generalize bs (Lib.itoa (i:Int))=A' at *
          generalize bs (Lib.itoa c)=C' at *
          generalize bs (Lib.itoa (s+c))=S' at *
          have v1:¬ 9223372036854775807<W'.size+1:=by omega
          have v2:¬ 9223372036854775807<W'.size+1+S'.size:=by omega
          clear ht hJn hsv hc hci
          by_cases h0:i=0
          · have e3:decide ((0:Int)<(i:Int))=false:=by simp;omega
            have e5:decide (0<i)=false:=by simp;omega
            have u1:¬ 9223372036854775807<T'.size+B'.size:=by omega
            have u2:¬ 9223372036854775807<T'.size+B'.size+1:=by omega
            have u3:¬ 9223372036854775807<T'.size+B'.size+1+A'.size:=by omega
            have u4:¬ 9223372036854775807<T'.size+B'.size+1+A'.size+1:=by omega
            have u5:¬ 9223372036854775807<T'.size+B'.size+1+A'.size+1+C'.size:=by omega
            have HT:=hidden (HT0.out h0)
            clear HT0 HT1 h0
            go_wp2_with fail
            refine C1.out.mono ?_
            rintro e w1 ⟨rfl,hw1⟩
            obtain rfl:=hw1.symm
            go_wp2_with fail
            go_loud (refine C2.out.mono ?_)
            rintro e w1 ⟨rfl,hw1⟩
            obtain rfl:=hw1.symm
            go_wp2_with fail
            refine C3.out.mono ?_
            rintro e w1 ⟨rfl,hw1⟩
            obtain rfl:=hw1.symm
            go_loud (go_wp2_with fail)
            go_loud (refine C4.out.mono ?_)
            rintro e w1 ⟨rfl,hw1⟩
            obtain rfl:=hw1.symm
            go_wp2_with fail
            go_roundg (n - (i+1))
            case measure=>omega
            case rel=>exact ⟨i+1,by omega,by rw [HT.out],by rw [HW1.out],by rw [hsn],by go_num,HB,HJn⟩
          · have e3:decide ((0:Int)<(i:Int))=true:=by simp;omega
            have e4:0<i:=by omega
            have u0:¬ 9223372036854775807<T'.size+1:=by omega
            have u1:¬ 9223372036854775807<T'.size+1+B'.size:=by omega
            have u2:¬ 9223372036854775807<T'.size+1+B'.size+1:=by omega
            have u3:¬ 9223372036854775807<T'.size+1+B'.size+1+A'.size:=by omega
            have u4:¬ 9223372036854775807<T'.size+1+B'.size+1+A'.size+1:=by omega
            have u5:¬ 9223372036854775807<T'.size+1+B'.size+1+A'.size+1+C'.size:=by omega
            have HT:=hidden (HT1.out h0)
            clear HT0 HT1
            go_wp2_with fail
            refine C1.out.mono ?_
            rintro e w1 ⟨rfl,hw1⟩
            obtain rfl:=hw1.symm
            go_wp2_with fail
            go_loud (refine C2.out.mono ?_)
            rintro e w1 ⟨rfl,hw1⟩
            obtain rfl:=hw1.symm
            go_wp2_with fail
            refine C3.out.mono ?_
            rintro e w1 ⟨rfl,hw1⟩
            obtain rfl:=hw1.symm
            go_loud (go_wp2_with fail)
            go_loud (refine C4.out.mono ?_)
            rintro e w1 ⟨rfl,hw1⟩
            obtain rfl:=hw1.symm
            go_wp2_with fail
            go_roundg (n - (i+1))
            case measure=>omega
            case rel=>exact ⟨i+1,by omega,by rw [HT.out],by rw [HW1.out],by rw [hsn],by go_num,HB,HJn⟩
    · have hiz:decide ((i:Int)<(n:Int))=false:=by simp;omega
      obtain rfl:i=n:=by omega
      have hch:Chain C i:=⟨HN.out.1,HN.out.2,HJ.out⟩
      have C1:=hidden (HDg.out ((i:Int)+1) wr (by have:=HN.out;omega) (by have:=HN.out;omega))
      have HR:Hid (∀ W,Below w.heap.size w W→_):=hidden (fun W hb=>run_way D hD ea hch W (HG.out.below hb))
      have k2:=Lib.itoa_length_le ((i:Int)+1) (by have:=HN.out;omega) (by have:=HN.out;omega)
      rw [← bs_size] at k2
      have hT:(bs (tx C i)).size≤1200:=by
        rw [bs_size]
        have:∀ k,k≤i→(tx C k).length≤70*k:=tx_len (fun j hj=>HJ.out j hj) HN.out.2
        have:=this i (Nat.le_refl _)
        have:=HN.out
        omega
      have hWl:(bs (wt C i)).size≤400:=by
        rw [bs_size]
        have:=wt_len (n:=i) (fun j hj=>HJ.out j hj) HN.out.2 i (Nat.le_refl _)
        have:=HN.out
        omega
      have hi16:i≤15:=HN.out.2
      generalize bs (tx C i)=T' at *
      generalize bs (wt C i)=W' at *
      generalize bs (Lib.itoa ((i:Int)+1))=B' at *
      have u1:¬ 9223372036854775807<4+B'.size:=by omega
      have u2:¬ 9223372036854775807<4+B'.size+1:=by omega
      have u3:¬ 9223372036854775807<4+B'.size+1+T'.size:=by omega
      have u4:¬ 9223372036854775807<4+B'.size+1+T'.size+1:=by omega
      have v1:¬ 9223372036854775807<W'.size+1:=by omega
      have qq:((W'++⟨#[10]⟩:ByteArray).toList==(W'++⟨#[10]⟩:ByteArray).toList)=true:=by simp
      clear hch
      go_loud (go_wp2_with fail)
      go_loud (refine C1.out.mono ?_)
      rintro e w1 ⟨rfl,hw1⟩
      obtain rfl:=hw1.symm
      go_loud (go_wp2_with fail)
      go_loud (refine (HR.out _ HB.out).mono ?_)
      rintro e w2 ⟨rfl,hb2⟩
      have HB2:=hidden (HB.out.trans (hb2.mono HB.out.size))
      clear hb2
      go_loud (go_wp2_with fail)
      go_loud (go_ret)
      exact ⟨rfl,HB2.out⟩
end Go.Proofs.YtbadpjgiogghdaaGreatDoor.Run

