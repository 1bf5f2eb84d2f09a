/-
  The law's hex: bytes as digits by twos.
-/
import Derived.Test.YtbadpjgiogghdaaGreatDoorRunDgP
import Derived.Test.YtbadpjgiogghdaaGreatDoorRunSmP
namespace Go.Proofs.YtbadpjgiogghdaaGreatDoor.Run
open Go.ChangeShapes Go.WideShapes Go.ChangeAt Go.RowKit Go.Proofs.YtbadpjgiogghdaaGreatDoor.Mem Go.Proofs.YtbadpjgiogghdaaGreatDoor.RN Go.Proofs.YtbadpjgiogghdaaGreatDoor.RC
set_option linter.unusedVariables false
theorem nib_str (c:Nat) (h:c<16) (W:World):(Instr.slice 9 (.string ⟨#[48,49,50,51,52,53,54,55,56,57,97,98,99,100,101,102]⟩) (some (.int .i64 (c:Int))) (some (.int .i64 ((c:Int)+1))) none).run Tryz.prog W=.ok (.string (bs [hexs.getD c 0])) W:=by
  have h1:=sub_str hexs c (c+1) (by omega) (by simp [hexs];omega) W
  have e:(hexs.take (c+1)).drop c=[hexs.getD c 0]:=by
    have:∀ i:Fin 16,(hexs.take (i.val+1)).drop i.val=[hexs.getD i.val 0]:=by decide
    exact this ⟨c,h⟩
  rw [e] at h1
  simp only [Int.natCast_add,Int.cast_ofNat_Int] at h1
  exact h1
theorem hexOf_take (L:List Nat) {i:Nat} (h:i<L.length):hexOf (L.take (i+1))=hexOf (L.take i)++[hexs.getD (L.getD i 0 / 16) 0]++[hexs.getD (L.getD i 0%16) 0]:=by
  rw [take_snoc L h]
  simp [hexOf]
theorem wrap_few (p:Nat) (h:p<1000000):wrap64 (p:Int)=(p:Int):=by unfold wrap64;omega
set_option maxHeartbeats 2000000 in
set_option maxRecDepth 100000 in
theorem hex_calls (a:Option Addr) (len cap:Nat) (L:List Nat) (w:World) (hA:Arg w a len L) (hl:len≤100000) :
    Calls Tryz.prog 13 #[.slice a len cap] w fun e w'=>e=.returned (.string (bs (hexOf L)))∧Below w.heap.size w w':=by
  have HA:=hidden hA
  have HN:Hid (L.length=len):=hidden hA.2.1
  clear hA
  go_enter Tryz.func13,Tryz.ntmps13
  go_wp2_with fail
  go_loopg [3,4] len (fun g u y wr=>∃ i:Nat,i+g=len∧y=.int .i64 (i:Int)∧u=.string (bs (hexOf (L.take i)))∧Hid (Below w.heap.size w wr))
  case atStart=>exact ⟨0,by omega,rfl,rfl,hidden (Below.refl _ _)⟩
  case round=>
    obtain ⟨i,hig,rfl,rfl,HB⟩:=hrel
    by_cases hi:i<len
    · have hiz:decide ((i:Int)<(len:Int))=true:=by simp;omega
      obtain ⟨bb,o,rfl,c0⟩:=(HA.out.below HB.out).1.2 i (by have:=HN.out;omega)
      have hc:=(HA.out.1.1 (L.getD i 0) (by have:=HN.out;rw [List.getD_eq_getElem?_getD,List.getElem?_eq_getElem (by omega)];exact List.getElem_mem _))
      have hst:=hexOf_take L (i:=i) (by have:=HN.out;omega)
      obtain ⟨c,hcc⟩:∃ c,L.getD i 0=c:=⟨_,rfl⟩
      rw [hcc] at c0 hc hst
      have hle:(hexOf (L.take i)).length≤2*100000:=by rw [hexOf_len,List.length_take];omega
      obtain ⟨l,hll⟩:∃ l,hexOf (L.take i)=l:=⟨_,rfl⟩
      rw [hll] at hst hle ⊢
      have f1:=nib_str (c / 16) (by omega)
      have f2:=nib_str (c%16) (by omega)
      obtain ⟨x,hx⟩:∃ x,hexs.getD (c / 16) 0=x:=⟨_,rfl⟩
      obtain ⟨y,hy⟩:∃ y,hexs.getD (c%16) 0=y:=⟨_,rfl⟩
      rw [hx] at f1 hst
      rw [hy] at f2 hst
      have hq:(c:Int).tdiv 16=((c / 16:Nat):Int):=by rw [Int.tdiv_eq_ediv_of_nonneg (by omega)];rfl
      have hm:(c:Int).tmod 16=((c%16:Nat):Int):=by rw [Int.tmod_eq_emod_of_nonneg (by omega)];rfl
      obtain ⟨p,hp⟩:∃ p,c / 16=p:=⟨_,rfl⟩
      obtain ⟨q,hq'⟩:∃ q,c%16=q:=⟨_,rfl⟩
      have p16:p<16:=by omega
      have q16:q<16:=by omega
      rw [hp] at f1 hq
      rw [hq'] at f2 hm
      have hwp:wrap64 (p:Int)=(p:Int):=wrap_few p (Nat.lt_trans p16 (by decide))
      have hwc:wrap64 (c:Int)=(c:Int):=wrap_few c (Nat.lt_trans hc (by decide))
      have n1:¬ 9223372036854775807<(bs l).size+(bs [x]).size:=by rw [bs_size,bs_size,List.length_singleton];omega
      have n2:¬ 9223372036854775807<(bs l++bs [x]).size+(bs [y]).size:=by rw [ByteArray.size_append,bs_size,bs_size,bs_size,List.length_singleton,List.length_singleton];omega
      have n3:¬ 9223372036854775807<(bs l).size+(bs [x]).size+(bs [y]).size:=by rw [bs_size,bs_size,bs_size,List.length_singleton,List.length_singleton];omega
      have HST:=hidden hst
      clear hst hx hy hp hq' hcc hll
      go_wp2_with fail
      go_region
      go_wp2_with fail
      go_roundg (len - (i+1))
      case measure=>omega
      case rel=>exact ⟨i+1,by omega,by go_num,by rw [HST.out,bs_app,bs_app],HB.out.drew⟩
    · have hiz:decide ((i:Int)<(len:Int))=false:=by simp;omega
      have hfin:hexOf (L.take i)=hexOf L:=by rw [List.take_of_length_le (by have:=HN.out;omega)]
      rw [hfin]
      go_wp2_with fail
      go_ret
      exact ⟨rfl,HB.out⟩
end Go.Proofs.YtbadpjgiogghdaaGreatDoor.Run

