/-
  RunDg, RunHr in one text.
-/
import Derived.Test.YtlppdppddiecnaaGreatDoorWholeAll
import Derived.Lib.ItoaMem
import Derived.Test.YtlppdppddiecnaaGreatDoorTellAll
namespace Go.Proofs.YtlppdppddiecnaaGreatDoor.Run
open Go.ChangeShapes Go.WideShapes Go.ChangeAt Go.RowKit Go.Proofs.YtlppdppddiecnaaGreatDoor.Mem Go.Proofs.YtlppdppddiecnaaGreatDoor.RN Go.Proofs.YtlppdppddiecnaaGreatDoor.RC
set_option linter.unusedVariables false
theorem sub_str (l:List UInt8) (i j:Nat) (h1:i≤j) (h2:j≤l.length) (W:World):(Instr.slice 9 (.string (bs l)) (some (.int .i64 (i:Int))) (some (.int .i64 (j:Int))) none).run Tryz.prog W=.ok (.string (bs ((l.take j).drop i))) W:=by
  rw [run_slice_string W 9 (bs l) .i64 .i64 i j (by kernel_rfl) (by omega) (by omega) (by rw [bs_size];omega)]
  congr 2
  rw [← bs_of ((bs l).extract _ _)]
  congr 1
  simp [bs,ByteArray.data_extract]
  exact List.drop_take.symm
theorem dig_str (c:Nat) (h:c<10) (W:World):(Instr.slice 9 (.string ⟨#[48,49,50,51,52,53,54,55,56,57]⟩) (some (.int .i64 (c:Int))) (some (.int .i64 ((c:Int)+1))) none).run Tryz.prog W=.ok (.string (bs [UInt8.ofNat (48+c)])) W:=by
  have h1:=sub_str [48,49,50,51,52,53,54,55,56,57] c (c+1) (by omega) (by simp;omega) W
  have e:(([48,49,50,51,52,53,54,55,56,57]:List UInt8).take (c+1)).drop c=[UInt8.ofNat (48+c)]:=by
    have:∀ i:Fin 10,(([48,49,50,51,52,53,54,55,56,57]:List UInt8).take (i.val+1)).drop i.val=[UInt8.ofNat (48+i.val)]:=by decide
    exact this ⟨c,h⟩
  rw [e] at h1
  simp only [Int.natCast_add,Int.cast_ofNat_Int] at h1
  exact h1
theorem itoa_step {u:Nat} (h:¬ u<10):Lib.itoa (u:Int)=Lib.itoa ((u / 10:Nat):Int)++[UInt8.ofNat (48+u%10)]:=by
  rw [Lib.itoa_nonneg,Lib.itoa_nonneg,Lib.decDigits,dif_neg h]
theorem itoa_less {u:Nat} (h:u<10):Lib.itoa (u:Int)=[UInt8.ofNat (48+u)]:=by
  rw [Lib.itoa_nonneg,Lib.decDigits,dif_pos h]
theorem itoa_minus {u:Nat} (h:1≤u):Lib.itoa (-(u:Int))=[45]++Lib.itoa (u:Int):=by
  rw [Lib.itoa_nonneg,Lib.itoa_neg u h];rfl
set_option maxHeartbeats 1000000 in
set_option maxRecDepth 100000 in
theorem digits_nat:∀ (u:Nat),u≤9223372036854775807→∀ w:World,Calls Tryz.prog 21 #[.int .i64 (u:Int)] w fun e w'=>e=.returned (.string (bs (Lib.itoa (u:Int))))∧w'=w:=by
  intro u
  induction u using Nat.strongRecOn with
  | _ u ih=>
  intro hu w
  have d0:decide ((u:Int)<0)=false:=by simp
  by_cases h:u<10
  · have d1:decide ((u:Int)<10)=true:=by simp;omega
    have e1:=dig_str u h
    have hr:=itoa_less h
    obtain ⟨d,hd⟩:∃ d,UInt8.ofNat (48+u)=d:=⟨_,rfl⟩
    rw [hd] at e1 hr
    rw [hr]
    clear hr hd ih
    go_enter Tryz.func21,Tryz.ntmps21
    go_wp2_with fail
    go_ret
    exact ⟨rfl,rfl⟩
  · have d1:decide ((u:Int)<10)=false:=by simp;omega
    have C:=ih (u / 10) (by omega) (by omega) w
    have hr:=itoa_step h
    have hlen:=Lib.itoa_length_le ((u / 10:Nat):Int) (by omega) (by omega)
    have e1:=dig_str (u%10) (by omega)
    have hq:(u:Int).tdiv 10=((u / 10:Nat):Int):=by rw [Int.tdiv_eq_ediv_of_nonneg (by omega)];rfl
    have hm:(u:Int).tmod 10=((u%10:Nat):Int):=by rw [Int.tmod_eq_emod_of_nonneg (by omega)];rfl
    obtain ⟨p,hp⟩:∃ p,u / 10=p:=⟨_,rfl⟩
    have hwp:wrap64 (p:Int)=(p:Int):=by unfold wrap64;omega
    obtain ⟨q,hq'⟩:∃ q,u%10=q:=⟨_,rfl⟩
    have hq10:q<10:=by omega
    rw [hp] at C hr hlen hq
    rw [hq'] at hr e1 hm
    obtain ⟨L,hL⟩:∃ L,Lib.itoa (p:Int)=L:=⟨_,rfl⟩
    rw [hL] at C hr hlen
    obtain ⟨d,hd⟩:∃ d,UInt8.ofNat (48+q)=d:=⟨_,rfl⟩
    rw [hd] at e1 hr
    have n1:¬ 9223372036854775807<(bs L).size+(bs [d]).size:=by rw [bs_size,bs_size,List.length_singleton];omega
    have n2:(bs L).size+(bs [d]).size≤9223372036854775807:=by omega
    clear hd
    have CC:=hidden C
    rw [hr]
    clear hr hL hp hq' ih C
    go_enter Tryz.func21,Tryz.ntmps21
    go_wp2_with fail
    refine CC.out.mono ?_
    rintro e w1 ⟨rfl,hw1⟩
    rw [hw1]
    clear hw1
    go_wp2_with fail
    go_ret
    exact ⟨by rw [bs_app];rfl,rfl⟩
theorem digits_neg (u:Nat) (h:1≤u) (hu:u≤9223372036854775807) (w:World):Calls Tryz.prog 21 #[.int .i64 (-(u:Int))] w fun e w'=>e=.returned (.string (bs (Lib.itoa (-(u:Int)))))∧w'=w:=by
  have C:=hidden (digits_nat u hu w)
  have hr:=itoa_minus h
  have d0:decide (-(u:Int)<0)=true:=by simp;omega
  have hn:-(-(u:Int))=(u:Int):=by omega
  have hwp:wrap64 (u:Int)=(u:Int):=by unfold wrap64;omega
  have hlen:=Lib.itoa_length_le (u:Int) (by omega) (by omega)
  obtain ⟨L,hL⟩:∃ L,Lib.itoa (u:Int)=L:=⟨_,rfl⟩
  rw [hL] at C hr hlen
  have n0:(⟨#[45]⟩:ByteArray).size=1:=rfl
  have n1:¬ 9223372036854775807<(⟨#[45]⟩:ByteArray).size+(bs L).size:=by rw [n0,bs_size];omega
  have n2:¬ 9223372036854775807<1+(bs L).size:=by rw [bs_size];omega
  rw [hr,← bs_app]
  clear hr hL hlen h
  obtain ⟨x,hx⟩:∃ x,-(u:Int)=x:=⟨_,rfl⟩
  rw [hx] at d0 hn ⊢
  clear hx
  go_enter Tryz.func21,Tryz.ntmps21
  go_wp2_with fail
  refine C.out.mono ?_
  rintro e w1 ⟨rfl,hw1⟩
  rw [hw1]
  clear hw1
  go_wp2_with fail
  go_ret
  exact ⟨rfl,rfl⟩
theorem digits_calls (n:Int) (h0:-9223372036854775807≤n) (h1:n≤9223372036854775807) (w:World):Calls Tryz.prog 21 #[.int .i64 n] w fun e w'=>e=.returned (.string (bs (Lib.itoa n)))∧w'=w:=by
  by_cases h:0≤n
  · obtain ⟨u,rfl⟩:=Int.eq_ofNat_of_zero_le h
    exact digits_nat u (by omega) w
  · obtain ⟨u,hu⟩:=Int.eq_ofNat_of_zero_le (show 0≤-n by omega)
    obtain rfl:n=-(u:Int):=by omega
    exact digits_neg u (by omega) (by omega) w
theorem nib_str (c:Nat) (h:c<16) (W:World):(Instr.slice 9 (.string ⟨#[48,49,50,51,52,53,54,55,56,57,97,98,99,100,101,102]⟩) (some (.int .i64 (c:Int))) (some (.int .i64 ((c:Int)+1))) none).run Tryz.prog W=.ok (.string (bs [hexs.getD c 0])) W:=by
  have h1:=sub_str hexs c (c+1) (by omega) (by simp [hexs];omega) W
  have e:(hexs.take (c+1)).drop c=[hexs.getD c 0]:=by
    have:∀ i:Fin 16,(hexs.take (i.val+1)).drop i.val=[hexs.getD i.val 0]:=by decide
    exact this ⟨c,h⟩
  rw [e] at h1
  simp only [Int.natCast_add,Int.cast_ofNat_Int] at h1
  exact h1
theorem hexOf_take (L:List Nat) {i:Nat} (h:i<L.length):hexOf (L.take (i+1))=hexOf (L.take i)++[hexs.getD (L.getD i 0 / 16) 0]++[hexs.getD (L.getD i 0%16) 0]:=by
  rw [take_snoc L h]
  simp [hexOf]
theorem wrap_few (p:Nat) (h:p<1000000):wrap64 (p:Int)=(p:Int):=by unfold wrap64;omega
set_option maxHeartbeats 2000000 in
set_option maxRecDepth 100000 in
theorem hex_calls (a:Option Addr) (len cap:Nat) (L:List Nat) (w:World) (hA:Arg w a len L) (hl:len≤100000) :
    Calls Tryz.prog 28 #[.slice a len cap] w fun e w'=>e=.returned (.string (bs (hexOf L)))∧Below w.heap.size w w':=by
  have HA:=hidden hA
  have HN:Hid (L.length=len):=hidden hA.2.1
  clear hA
  go_enter Tryz.func28,Tryz.ntmps28
  go_wp2_with fail
  go_loopg [3,4] len (fun g u y wr=>∃ i:Nat,i+g=len∧y=.int .i64 (i:Int)∧u=.string (bs (hexOf (L.take i)))∧Hid (Below w.heap.size w wr))
  case atStart=>exact ⟨0,by omega,rfl,rfl,hidden (Below.refl _ _)⟩
  case round=>
    obtain ⟨i,hig,rfl,rfl,HB⟩:=hrel
    by_cases hi:i<len
    · have hiz:decide ((i:Int)<(len:Int))=true:=by simp;omega
      obtain ⟨bb,o,rfl,c0⟩:=(HA.out.below HB.out).1.2 i (by have:=HN.out;omega)
      have hc:=(HA.out.1.1 (L.getD i 0) (by have:=HN.out;rw [List.getD_eq_getElem?_getD,List.getElem?_eq_getElem (by omega)];exact List.getElem_mem _))
      have hst:=hexOf_take L (i:=i) (by have:=HN.out;omega)
      obtain ⟨c,hcc⟩:∃ c,L.getD i 0=c:=⟨_,rfl⟩
      rw [hcc] at c0 hc hst
      have hle:(hexOf (L.take i)).length≤2*100000:=by rw [hexOf_len,List.length_take];omega
      obtain ⟨l,hll⟩:∃ l,hexOf (L.take i)=l:=⟨_,rfl⟩
      rw [hll] at hst hle ⊢
      have f1:=nib_str (c / 16) (by omega)
      have f2:=nib_str (c%16) (by omega)
      obtain ⟨x,hx⟩:∃ x,hexs.getD (c / 16) 0=x:=⟨_,rfl⟩
      obtain ⟨y,hy⟩:∃ y,hexs.getD (c%16) 0=y:=⟨_,rfl⟩
      rw [hx] at f1 hst
      rw [hy] at f2 hst
      have hq:(c:Int).tdiv 16=((c / 16:Nat):Int):=by rw [Int.tdiv_eq_ediv_of_nonneg (by omega)];rfl
      have hm:(c:Int).tmod 16=((c%16:Nat):Int):=by rw [Int.tmod_eq_emod_of_nonneg (by omega)];rfl
      obtain ⟨p,hp⟩:∃ p,c / 16=p:=⟨_,rfl⟩
      obtain ⟨q,hq'⟩:∃ q,c%16=q:=⟨_,rfl⟩
      have p16:p<16:=by omega
      have q16:q<16:=by omega
      rw [hp] at f1 hq
      rw [hq'] at f2 hm
      have hwp:wrap64 (p:Int)=(p:Int):=wrap_few p (Nat.lt_trans p16 (by decide))
      have hwc:wrap64 (c:Int)=(c:Int):=wrap_few c (Nat.lt_trans hc (by decide))
      have n1:¬ 9223372036854775807<(bs l).size+(bs [x]).size:=by rw [bs_size,bs_size,List.length_singleton];omega
      have n2:¬ 9223372036854775807<(bs l++bs [x]).size+(bs [y]).size:=by rw [ByteArray.size_append,bs_size,bs_size,bs_size,List.length_singleton,List.length_singleton];omega
      have n3:¬ 9223372036854775807<(bs l).size+(bs [x]).size+(bs [y]).size:=by rw [bs_size,bs_size,bs_size,List.length_singleton,List.length_singleton];omega
      have HST:=hidden hst
      clear hst hx hy hp hq' hcc hll
      go_wp2_with fail
      go_region
      go_wp2_with fail
      go_roundg (len - (i+1))
      case measure=>omega
      case rel=>exact ⟨i+1,by omega,by go_num,by rw [HST.out,bs_app,bs_app],HB.out.drew⟩
    · have hiz:decide ((i:Int)<(len:Int))=false:=by simp;omega
      have hfin:hexOf (L.take i)=hexOf L:=by rw [List.take_of_length_le (by have:=HN.out;omega)]
      rw [hfin]
      go_wp2_with fail
      go_ret
      exact ⟨rfl,HB.out⟩
end Go.Proofs.YtlppdppddiecnaaGreatDoor.Run
