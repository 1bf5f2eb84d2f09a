/-
  What a session answers to bytes that are sealed, summed up and opened again. No program in this text.
-/
import Derived.Test.YtbadpjgiogghdaaGreatDoorRunMath2P
namespace Go.Proofs.YtbadpjgiogghdaaGreatDoor.RN
open Go.Lib Go.Proofs.YtbadpjgiogghdaaGreatDoor.RC Go.Proofs.YtbadpjgiogghdaaGreatDoor.CM
set_option linter.unusedVariables false

theorem hexs_index (i:Nat) (h:i<16):indexByte hexs (hexs.getD i 0)=i:=by
  have:∀ j:Fin 16,indexByte hexs (hexs.getD j.val 0)=(j.val:Int):=by decide +kernel
  exact this ⟨i,h⟩
theorem hexs_no (i:Nat) (h:i<16):hexs.getD i 0≠32∧hexs.getD i 0≠10:=by
  have:∀ j:Fin 16,hexs.getD j.val 0≠32∧hexs.getD j.val 0≠10:=by decide
  exact this ⟨i,h⟩
theorem hexOf_cons (c:Nat) (L:List Nat):hexOf (c::L)=hexs.getD (c / 16) 0::hexs.getD (c%16) 0::hexOf L:=rfl
theorem hexOf_no:∀ (L:List Nat),(∀ c∈L,c<256)→(32:UInt8)∉hexOf L∧(10:UInt8)∉hexOf L
  | [],_=>by simp [hexOf]
  | c::L,h=>by
    have ih:=hexOf_no L (fun x hx=>h x (List.mem_cons_of_mem _ hx))
    have hc:=h c (List.mem_cons_self ..)
    have a:=hexs_no (c / 16) (by omega)
    have b:=hexs_no (c%16) (by omega)
    rw [hexOf_cons]
    simp only [List.mem_cons,not_or]
    exact ⟨⟨fun e=>a.1 e.symm,fun e=>b.1 e.symm,ih.1⟩,fun e=>a.2 e.symm,fun e=>b.2 e.symm,ih.2⟩
theorem unhex_hexOf:∀ (L:List Nat),(∀ c∈L,c<256)→unhex (hexOf L)=some L
  | [],_=>rfl
  | c::L,h=>by
    have ih:=unhex_hexOf L (fun x hx=>h x (List.mem_cons_of_mem _ hx))
    have hc:=h c (List.mem_cons_self ..)
    rw [hexOf_cons,unhex,hexs_index _ (by omega),hexs_index _ (by omega),if_neg (by omega),ih]
    simp only [Option.map_some,Option.some.injEq,List.cons.injEq,and_true]
    omega
theorem hexOf_even:∀ L:List Nat,(hexOf L).length%2=0
  | []=>rfl
  | c::L=>by
    have:=hexOf_even L
    rw [hexOf_cons]
    simp only [List.length_cons]
    omega
theorem bytes_some {W:Ws} {L:List Nat} (h1:W.next.1.length%2=0) (h2:unhex W.next.1=some L):W.bytes=(L,W.next.2):=by
  unfold Ws.bytes
  rw [if_neg (by omega),h2]
theorem words_hex (a:List UInt8) (ha:(32:UInt8)∉a) (L:List Nat) (hL:∀ c∈L,c<256) :
    (ws0 (a++32::hexOf L)).next.1=a∧(ws0 (a++32::hexOf L)).next.2.bytes=(L,⟨[],false⟩):=by
  have h1:cutL 32 (a++32::hexOf L)=[a,hexOf L]:=by rw [cutL_at _ ha,cutL_none (hexOf_no L hL).1]
  unfold ws0
  rw [h1]
  refine ⟨rfl,?_⟩
  exact bytes_some (W:=⟨[hexOf L],false⟩) (hexOf_even L) (unhex_hexOf L hL)
theorem line_crc (D:Far) (S:Ss) (L:List Nat) (hL:∀ c∈L,c<256):line D S ([99,114,99]++32::hexOf L)=(.ok (itoa (go 0 L:Nat)),S):=by
  obtain ⟨h1,h2⟩:=words_hex [99,114,99] (by decide) L hL
  unfold line aDo
  rw [h1,if_neg (by decide),if_neg (by decide),if_pos rfl]
  unfold aSum
  rw [h2]
  rfl
theorem line_open (D:Far) (S:Ss) (L:List Nat) (hL:∀ c∈L,c<256):line D S ([111,112,101,110]++32::hexOf L)=(An.of (oF L) (hexOf (L.take (L.length - 4))),S):=by
  obtain ⟨h1,h2⟩:=words_hex [111,112,101,110] (by decide) L hL
  unfold line aDo
  rw [h1,if_neg (by decide),if_neg (by decide),if_neg (by decide),if_pos rfl]
  unfold aOpen
  rw [h2]
  rfl
theorem sealed_lt {L:List Nat} (hL:∀ c∈L,c<256):∀ c∈L++be4 (go 0 L),c<256:=by
  intro c hc
  rcases List.mem_append.1 hc with h | h
  · exact hL c h
  · exact be4_lt _ c h
theorem open_sealed (L:List Nat) (hL:∀ c∈L,c<256):oF (L++be4 (go 0 L))=0∧(L++be4 (go 0 L)).take ((L++be4 (go 0 L)).length - 4)=L:=by
  have h4:(be4 (go 0 L)).length=4:=rfl
  have e:(L++be4 (go 0 L)).length - 4=L.length:=by rw [List.length_append,h4];omega
  have hl:go 0 L<4294967296:=go_lt (by decide) hL
  refine ⟨?_,by rw [e,List.take_left]⟩
  unfold oF
  rw [if_neg (by rw [List.length_append,h4];omega),e,List.drop_left,List.take_left,num_be4 _ hl,if_pos rfl]
theorem open_changed (L:List Nat) (hL:∀ c∈L,c<256) (i t:Nat) (hi:i<(L++be4 (go 0 L)).length) (ht:t<256) (hne:(L++be4 (go 0 L)).getD i 0≠t):oF ((L++be4 (go 0 L)).set i t)=9:=by
  have h4:(be4 (go 0 L)).length=4:=rfl
  have hlen:(L++be4 (go 0 L)).length=L.length+4:=by rw [List.length_append,h4]
  have e:((L++be4 (go 0 L)).set i t).length - 4=L.length:=by rw [List.length_set,hlen];omega
  have hS:=sealed_lt hL
  unfold oF
  rw [if_neg (by rw [List.length_set,hlen];omega),e]
  rw [if_neg]
  -- the byte and a neighbour of it
  generalize hV:L++be4 (go 0 L)=V at *
  have key:∀ (P Q:List Nat) (x y m n:Nat),P++x::y::Q=V→V.set i t=P++(x ^^^ m)::(y ^^^ n)::Q→m<256→n<256→¬ (m=0∧n=0)→x<256→y<256→num 0 ((V.set i t).drop L.length)≠go 0 ((V.set i t).take L.length):=by
    intro P Q x y m n hs hv hm hn hmn hx hy
    rw [hv]
    exact sees P Q L x y m n hx hy hm hn hL (by rw [hs,← hV]) hmn
  have hx:V.getD i 0<256:=hS _ (by rw [List.getD_eq_getElem?_getD,List.getElem?_eq_getElem hi];exact List.getElem_mem _)
  have hxt:V.getD i 0 ^^^ (V.getD i 0 ^^^ t)=t:=by rw [← Nat.xor_assoc,Nat.xor_self,Nat.zero_xor]
  have hm0:V.getD i 0 ^^^ t≠0:=fun h=>hne (eq_of_xor h)
  by_cases h:i+1<V.length
  · have e1:V=V.take i++V.getD i 0::V.getD (i+1) 0::V.drop (i+2):=by
      conv=>lhs;rw [← List.take_append_drop i V]
      rw [List.drop_eq_getElem_cons hi,List.drop_eq_getElem_cons h]
      simp [List.getD_eq_getElem?_getD,List.getElem?_eq_getElem hi,List.getElem?_eq_getElem h]
    have hy:V.getD (i+1) 0<256:=hS _ (by rw [List.getD_eq_getElem?_getD,List.getElem?_eq_getElem h];exact List.getElem_mem _)
    refine key (V.take i) (V.drop (i+2)) (V.getD i 0) (V.getD (i+1) 0) (V.getD i 0 ^^^ t) 0 e1.symm ?_ (xor_lt8 hx ht) (by omega) (fun hh=>hm0 hh.1) hx hy
    rw [hxt,Nat.xor_zero]
    have hti:(V.take i).length=i:=by rw [List.length_take];omega
    conv=>lhs;rw [e1]
    rw [List.set_append_right _ _ (by omega),hti,Nat.sub_self]
    rfl
  · obtain ⟨j,rfl⟩:∃ j,i=j+1:=⟨i - 1,by omega⟩
    have hj:j<V.length:=by omega
    have e1:V=V.take j++V.getD j 0::V.getD (j+1) 0::[]:=by
      conv=>lhs;rw [← List.take_append_drop j V]
      rw [List.drop_eq_getElem_cons hj,List.drop_eq_getElem_cons hi,List.drop_eq_nil_of_le (by omega)]
      simp [List.getD_eq_getElem?_getD,List.getElem?_eq_getElem hi,List.getElem?_eq_getElem hj]
    have hy:V.getD j 0<256:=hS _ (by rw [List.getD_eq_getElem?_getD,List.getElem?_eq_getElem hj];exact List.getElem_mem _)
    refine key (V.take j) [] (V.getD j 0) (V.getD (j+1) 0) 0 (V.getD (j+1) 0 ^^^ t) e1.symm ?_ (by omega) (xor_lt8 hx ht) (fun hh=>hm0 hh.2) hy hx
    rw [hxt,Nat.xor_zero]
    have hti:(V.take j).length=j:=by rw [List.length_take];omega
    conv=>lhs;rw [e1]
    rw [List.set_append_right _ _ (by omega),hti,Nat.add_sub_cancel_left]
    rfl
theorem answers_sums (D:Far) (L:List Nat) (hL:∀ c∈L,c<256) :
    answers D ss0 (linesL ([99,114,99,32]++hexOf L++[10,111,112,101,110,32]++hexOf (L++be4 (go 0 L))++[10]))=itoa (go 0 L:Nat)++[10]++hexOf L++[10]:=by
  have hS:=sealed_lt hL
  have e1:[99,114,99,32]++hexOf L++[10,111,112,101,110,32]++hexOf (L++be4 (go 0 L))++[10]=([99,114,99]++32::hexOf L)++10::(([111,112,101,110]++32::hexOf (L++be4 (go 0 L)))++10::[]):=by simp
  have n1:(10:UInt8)∉[99,114,99]++32::hexOf L:=by have:=(hexOf_no L hL).2;simp [this]
  have n2:(10:UInt8)∉[111,112,101,110]++32::hexOf (L++be4 (go 0 L)):=by have:=(hexOf_no _ hS).2;simp [this]
  rw [e1,linesL_at _ n1,linesL_at _ n2]
  simp only [linesL,answers,line_crc D _ L hL,line_open D _ _ hS,(open_sealed L hL).1,(open_sealed L hL).2,An.of,if_pos,An.tell]
  simp
theorem answers_changed (D:Far) (V:List Nat) (hV:∀ c∈V,c<256) (h9:oF V=9):answers D ss0 (linesL ([111,112,101,110,32]++hexOf V++[10]))=[69,114,114,83,117,109,10]:=by
  have e1:[111,112,101,110,32]++hexOf V++[10]=([111,112,101,110]++32::hexOf V)++10::[]:=by simp
  have n2:(10:UInt8)∉[111,112,101,110]++32::hexOf V:=by have:=(hexOf_no _ hV).2;simp [this]
  rw [e1,linesL_at _ n2]
  simp only [linesL,answers,line_open D _ _ hV,h9]
  rfl
end Go.Proofs.YtbadpjgiogghdaaGreatDoor.RN

