/-
  The reference's Digits: a number in ten's digits, as strconv.Itoa's.
-/
import Derived.Test.YtbadpjgiogghdaaGreatDoorRunYP
import Derived.Lib.ItoaMem
namespace Go.Proofs.YtbadpjgiogghdaaGreatDoor.Run
open Go.ChangeShapes Go.WideShapes Go.ChangeAt Go.RowKit Go.Proofs.YtbadpjgiogghdaaGreatDoor.Mem Go.Proofs.YtbadpjgiogghdaaGreatDoor.RN Go.Proofs.YtbadpjgiogghdaaGreatDoor.RC
set_option linter.unusedVariables false
theorem sub_str (l:List UInt8) (i j:Nat) (h1:i≤j) (h2:j≤l.length) (W:World):(Instr.slice 9 (.string (bs l)) (some (.int .i64 (i:Int))) (some (.int .i64 (j:Int))) none).run Tryz.prog W=.ok (.string (bs ((l.take j).drop i))) W:=by
  rw [run_slice_string W 9 (bs l) .i64 .i64 i j (by kernel_rfl) (by omega) (by omega) (by rw [bs_size];omega)]
  congr 2
  rw [← bs_of ((bs l).extract _ _)]
  congr 1
  simp [bs,ByteArray.data_extract]
  exact List.drop_take.symm
theorem dig_str (c:Nat) (h:c<10) (W:World):(Instr.slice 9 (.string ⟨#[48,49,50,51,52,53,54,55,56,57]⟩) (some (.int .i64 (c:Int))) (some (.int .i64 ((c:Int)+1))) none).run Tryz.prog W=.ok (.string (bs [UInt8.ofNat (48+c)])) W:=by
  have h1:=sub_str [48,49,50,51,52,53,54,55,56,57] c (c+1) (by omega) (by simp;omega) W
  have e:(([48,49,50,51,52,53,54,55,56,57]:List UInt8).take (c+1)).drop c=[UInt8.ofNat (48+c)]:=by
    have:∀ i:Fin 10,(([48,49,50,51,52,53,54,55,56,57]:List UInt8).take (i.val+1)).drop i.val=[UInt8.ofNat (48+i.val)]:=by decide
    exact this ⟨c,h⟩
  rw [e] at h1
  simp only [Int.natCast_add,Int.cast_ofNat_Int] at h1
  exact h1
theorem itoa_step {u:Nat} (h:¬ u<10):Lib.itoa (u:Int)=Lib.itoa ((u / 10:Nat):Int)++[UInt8.ofNat (48+u%10)]:=by
  rw [Lib.itoa_nonneg,Lib.itoa_nonneg,Lib.decDigits,dif_neg h]
theorem itoa_less {u:Nat} (h:u<10):Lib.itoa (u:Int)=[UInt8.ofNat (48+u)]:=by
  rw [Lib.itoa_nonneg,Lib.decDigits,dif_pos h]
theorem itoa_minus {u:Nat} (h:1≤u):Lib.itoa (-(u:Int))=[45]++Lib.itoa (u:Int):=by
  rw [Lib.itoa_nonneg,Lib.itoa_neg u h];rfl
set_option maxHeartbeats 1000000 in
set_option maxRecDepth 100000 in
theorem digits_nat:∀ (u:Nat),u≤9223372036854775807→∀ w:World,Calls Tryz.prog 11 #[.int .i64 (u:Int)] w fun e w'=>e=.returned (.string (bs (Lib.itoa (u:Int))))∧w'=w:=by
  intro u
  induction u using Nat.strongRecOn with
  | _ u ih=>
  intro hu w
  have d0:decide ((u:Int)<0)=false:=by simp
  by_cases h:u<10
  · have d1:decide ((u:Int)<10)=true:=by simp;omega
    have e1:=dig_str u h
    have hr:=itoa_less h
    obtain ⟨d,hd⟩:∃ d,UInt8.ofNat (48+u)=d:=⟨_,rfl⟩
    rw [hd] at e1 hr
    rw [hr]
    clear hr hd ih
    go_enter Tryz.func11,Tryz.ntmps11
    go_wp2_with fail
    go_ret
    exact ⟨rfl,rfl⟩
  · have d1:decide ((u:Int)<10)=false:=by simp;omega
    have C:=ih (u / 10) (by omega) (by omega) w
    have hr:=itoa_step h
    have hlen:=Lib.itoa_length_le ((u / 10:Nat):Int) (by omega) (by omega)
    have e1:=dig_str (u%10) (by omega)
    have hq:(u:Int).tdiv 10=((u / 10:Nat):Int):=by rw [Int.tdiv_eq_ediv_of_nonneg (by omega)];rfl
    have hm:(u:Int).tmod 10=((u%10:Nat):Int):=by rw [Int.tmod_eq_emod_of_nonneg (by omega)];rfl
    obtain ⟨p,hp⟩:∃ p,u / 10=p:=⟨_,rfl⟩
    have hwp:wrap64 (p:Int)=(p:Int):=by unfold wrap64;omega
    obtain ⟨q,hq'⟩:∃ q,u%10=q:=⟨_,rfl⟩
    have hq10:q<10:=by omega
    rw [hp] at C hr hlen hq
    rw [hq'] at hr e1 hm
    obtain ⟨L,hL⟩:∃ L,Lib.itoa (p:Int)=L:=⟨_,rfl⟩
    rw [hL] at C hr hlen
    obtain ⟨d,hd⟩:∃ d,UInt8.ofNat (48+q)=d:=⟨_,rfl⟩
    rw [hd] at e1 hr
    have n1:¬ 9223372036854775807<(bs L).size+(bs [d]).size:=by rw [bs_size,bs_size,List.length_singleton];omega
    have n2:(bs L).size+(bs [d]).size≤9223372036854775807:=by omega
    clear hd
    have CC:=hidden C
    rw [hr]
    clear hr hL hp hq' ih C
    go_enter Tryz.func11,Tryz.ntmps11
    go_wp2_with fail
    refine CC.out.mono ?_
    rintro e w1 ⟨rfl,hw1⟩
    rw [hw1]
    clear hw1
    go_wp2_with fail
    go_ret
    exact ⟨by rw [bs_app];rfl,rfl⟩
theorem digits_neg (u:Nat) (h:1≤u) (hu:u≤9223372036854775807) (w:World):Calls Tryz.prog 11 #[.int .i64 (-(u:Int))] w fun e w'=>e=.returned (.string (bs (Lib.itoa (-(u:Int)))))∧w'=w:=by
  have C:=hidden (digits_nat u hu w)
  have hr:=itoa_minus h
  have d0:decide (-(u:Int)<0)=true:=by simp;omega
  have hn:-(-(u:Int))=(u:Int):=by omega
  have hwp:wrap64 (u:Int)=(u:Int):=by unfold wrap64;omega
  have hlen:=Lib.itoa_length_le (u:Int) (by omega) (by omega)
  obtain ⟨L,hL⟩:∃ L,Lib.itoa (u:Int)=L:=⟨_,rfl⟩
  rw [hL] at C hr hlen
  have n0:(⟨#[45]⟩:ByteArray).size=1:=rfl
  have n1:¬ 9223372036854775807<(⟨#[45]⟩:ByteArray).size+(bs L).size:=by rw [n0,bs_size];omega
  have n2:¬ 9223372036854775807<1+(bs L).size:=by rw [bs_size];omega
  rw [hr,← bs_app]
  clear hr hL hlen h
  obtain ⟨x,hx⟩:∃ x,-(u:Int)=x:=⟨_,rfl⟩
  rw [hx] at d0 hn ⊢
  clear hx
  go_enter Tryz.func11,Tryz.ntmps11
  go_wp2_with fail
  refine C.out.mono ?_
  rintro e w1 ⟨rfl,hw1⟩
  rw [hw1]
  clear hw1
  go_wp2_with fail
  go_ret
  exact ⟨rfl,rfl⟩
theorem digits_calls (n:Int) (h0:-9223372036854775807≤n) (h1:n≤9223372036854775807) (w:World):Calls Tryz.prog 11 #[.int .i64 n] w fun e w'=>e=.returned (.string (bs (Lib.itoa n)))∧w'=w:=by
  by_cases h:0≤n
  · obtain ⟨u,rfl⟩:=Int.eq_ofNat_of_zero_le h
    exact digits_nat u (by omega) w
  · obtain ⟨u,hu⟩:=Int.eq_ofNat_of_zero_le (show 0≤-n by omega)
    obtain rfl:n=-(u:Int):=by omega
    exact digits_neg u (by omega) (by omega) w
end Go.Proofs.YtbadpjgiogghdaaGreatDoor.Run

