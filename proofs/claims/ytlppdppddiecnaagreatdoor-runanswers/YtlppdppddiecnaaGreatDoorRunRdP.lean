/-
  The reference's row and list: numbers told as one text, a text read as numbers.
-/
import Derived.Test.YtlppdppddiecnaaGreatDoorNineAll
import Derived.Test.YtlppdppddiecnaaGreatDoorAmAll
import Derived.Test.YtlppdppddiecnaaGreatDoorDigAll
namespace Go.Proofs.YtlppdppddiecnaaGreatDoor.Run
open Go.ChangeShapes Go.WideShapes Go.ChangeAt Go.RowKit Go.Proofs.YtlppdppddiecnaaGreatDoor.Mem Go.Proofs.YtlppdppddiecnaaGreatDoor.RN Go.Proofs.YtlppdppddiecnaaGreatDoor.RC
set_option linter.unusedVariables false
theorem join_snoc (x sep:List UInt8):∀ xs:List (List UInt8),xs≠[]→Lib.join (xs++[x]) sep=Lib.join xs sep++sep++x
  | [],h=>absurd rfl h
  | y::r,_=>by
    rw [List.cons_append,Lib.join_cons,Lib.join_cons]
    simp [Lib.joinTail]
theorem lens_le (m:Nat):∀ xs:List (List UInt8),(∀ x∈xs,x.length≤m)→Lib.lens xs≤m*xs.length
  | [],_=>by simp [Lib.lens]
  | x::r,h=>by
    have i:=lens_le m r (fun y hy=>h y (List.mem_cons_of_mem _ hy))
    have hx:=h x (List.mem_cons_self ..)
    rw [List.length_cons,Nat.mul_add,Nat.mul_one]
    simp only [Lib.lens,List.map_cons,List.sum_cons] at i ⊢
    omega
theorem join_le (c:UInt8) (m:Nat) (xs:List (List UInt8)) (h:∀ x∈xs,x.length≤m):(Lib.join xs [c]).length≤(m+1)*xs.length:=by
  have i:=lens_le m xs h
  cases xs with
  | nil=>simp [Lib.join_nil]
  | cons x r=>
    have e:([c]:List UInt8).length=1:=rfl
    rw [Lib.join_length,e,Nat.one_mul,Nat.add_mul,Nat.one_mul]
    rw [List.length_cons] at i ⊢
    omega
theorem cut_mem (c:UInt8):∀ (l:List UInt8),(cutL c l).length≤l.length+1∧∀ y∈cutL c l,y.length≤l.length
  | []=>by simp [cutL]
  | x::r=>by
    obtain ⟨i1,i2⟩:=cut_mem c r
    have hne:=cutL_ne c r
    unfold cutL
    split
    · refine ⟨by simp;omega,fun y hy=>?_⟩
      rcases List.mem_cons.1 hy with rfl | hy
      · simp
      · have:=i2 y hy
        simp
        omega
    · cases hc:cutL c r with
      | nil=>exact absurd hc hne
      | cons z t=>
        rw [hc] at i1 i2
        refine ⟨by simp at i1 ⊢;omega,fun y hy=>?_⟩
        rcases List.mem_cons.1 hy with rfl | hy
        · have:=i2 z (List.mem_cons_self ..)
          simp
          omega
        · have:=i2 y (List.mem_cons_of_mem _ hy)
          simp
          omega
theorem take_map (L:List Int) (i:Nat) (h:i<L.length):(L.map Lib.itoa).take (i+1)=(L.map Lib.itoa).take i++[Lib.itoa (TM.dg L i)]:=by
  have e:TM.dg L i=L[i]:=by unfold TM.dg;rw [List.getD_eq_getElem?_getD,List.getElem?_eq_getElem h];rfl
  rw [List.take_add_one,List.getElem?_map,List.getElem?_eq_getElem h,e]
  rfl
theorem dg_mem {L:List Int} {i:Nat} (h:i<L.length):TM.dg L i∈L:=by
  have e:TM.dg L i=L[i]:=by unfold TM.dg;rw [List.getD_eq_getElem?_getD,List.getElem?_eq_getElem h];rfl
  rw [e]
  exact List.getElem_mem h
set_option maxRecDepth 100000 in
set_option maxHeartbeats 2000000 in
theorem rrow_some (a:Option Addr) (n cap:Nat) (L:List Int) (w:World) (h:Tree.IArg w a n L) (h0:0<n) (hn:n≤5000) (hL:∀ x∈L,-9223372036854775807≤x∧x≤9223372036854775807) :
    Calls Tryz.prog 32 #[.slice a n cap] w fun e w'=>e=.returned (.string (bs (joined (L.map Lib.itoa) 44)))∧w'=w:=by
  obtain ⟨b,o,rfl,hat⟩:=h.at h0
  have hll:=h.2.1
  have HA:=hidden hat
  have HLL:=hidden hll
  have HLB:=hidden hL
  have hj:joined (L.map Lib.itoa) 44=Lib.join (L.map Lib.itoa) [44]:=by
    unfold joined
    rw [if_neg (by intro e;have:=congrArg List.length e;rw [List.length_map,hll] at this;simp at this;omega)]
  rw [hj]
  have hle:∀ i,(Lib.join ((L.map Lib.itoa).take i) [44]).length≤22*5000:=by
    intro i
    have:=join_le 44 21 ((L.map Lib.itoa).take i) (fun x hx=>by
      obtain ⟨y,hy,rfl⟩:=List.mem_map.1 (List.mem_of_mem_take hx)
      have:=hL y hy
      exact Lib.itoa_length_le y (by omega) (by omega))
    rw [List.length_take,List.length_map,hll] at this
    have h2:22*min i n≤22*5000:=Nat.mul_le_mul_left _ (by omega)
    omega
  have HLE:=hidden hle
  have d0:decide ((n:Int)=0)=false:=by simp;omega
  have d1:((n:Int)==0)=false:=by simp;omega
  have d2:(n==0)=false:=by simp;omega
  clear h hat hll hL hj hle
  go_enter Tryz.func32,Tryz.ntmps32
  go_wp2_with fail
  go_loopg [3,4] n (fun g u y wr=>∃ (i:Nat),i+g=n∧y=.int .i64 (i:Int)∧u=.string (bs (Lib.join ((L.map Lib.itoa).take i) [44]))∧wr=w)
  case atStart=>exact ⟨0,by omega,rfl,by rw [List.take_zero,Lib.join_nil];rfl,rfl⟩
  case round=>
    obtain ⟨i,hig,rfl,rfl,hwr⟩:=hrel
    rw [hwr]
    clear hwr
    by_cases hi:i<n
    · have hiz:(i:Int)<(n:Int):=by omega
      have c0:=HA.out i hi
      have hst:=take_map L i (by have:=HLL.out;omega)
      have hb:=HLB.out _ (dg_mem (L:=L) (i:=i) (by have:=HLL.out;omega))
      have hl1:=HLE.out i
      have hl2:=Lib.itoa_length_le (TM.dg L i) (by omega) (by omega)
      have C:=hidden (digits_calls (TM.dg L i) hb.1 hb.2)
      obtain ⟨x,hx⟩:∃ x,TM.dg L i=x:=⟨_,rfl⟩
      rw [hx] at c0 hst hl2 C
      obtain ⟨y,hy⟩:∃ y,Lib.itoa x=y:=⟨_,rfl⟩
      rw [hy] at hst hl2 C
      obtain ⟨T,hT⟩:∃ T,(L.map Lib.itoa).take i=T:=⟨_,rfl⟩
      rw [hT] at hst hl1 ⊢
      have sx:=bs_size (Lib.join T [44])
      have sy:=bs_size y
      by_cases hi0:i=0
      · subst hi0
        simp only [Nat.add_zero] at c0
        have hTn:T=[]:=by rw [← hT];rfl
        have HF:Hid (bs (Lib.join ((L.map Lib.itoa).take (0+1)) [44])=bs (Lib.join T [44])++bs y):=hidden (by rw [hst,hTn,List.nil_append,Lib.join_one,Lib.join_nil,bs_app];rfl)
        clear hx hy hT hst hb hTn
        generalize bs (Lib.join T [44])=X at *
        generalize bs y=Y at *
        have n1:¬ 9223372036854775807<X.size+Y.size:=by omega
        have n2:X.size+Y.size≤9223372036854775807:=by omega
        clear sx sy hl1 hl2
        go_wp2_with fail
        refine (C.out w).mono ?_
        rintro e w1 ⟨rfl,hw1⟩
        rw [hw1]
        clear hw1
        go_wp2_with fail
        go_roundg (n - 1)
        case measure=>omega
        case rel=>exact ⟨0+1,by omega,by go_num,by rw [HF.out],rfl⟩
      · have hiz0:(0:Int)<(i:Int):=by omega
        have hin:0<i:=by omega
        have dz:decide ((0:Int)<(i:Int))=true:=by simp;omega
        have dn:decide (0<i)=true:=by simp;omega
        have hTn:T≠[]:=by
          rw [← hT]
          intro e
          have:=congrArg List.length e
          rw [List.length_take,List.length_map,HLL.out] at this
          simp at this
          omega
        have HF:Hid (bs (Lib.join ((L.map Lib.itoa).take (i+1)) [44])=bs (Lib.join T [44])++⟨#[44]⟩++bs y):=hidden (by rw [hst,join_snoc _ _ _ hTn,show (⟨#[44]⟩:ByteArray)=bs [44] from rfl,bs_app,bs_app])
        clear hx hy hT hst hb hTn
        generalize bs (Lib.join T [44])=X at *
        generalize bs y=Y at *
        have n1:¬ 9223372036854775807<X.size+1:=by omega
        have n2:¬ 9223372036854775807<X.size+1+Y.size:=by omega
        have n3:X.size+1≤9223372036854775807:=by omega
        have n4:X.size+1+Y.size≤9223372036854775807:=by omega
        have n5:(X++⟨#[44]⟩).size+Y.size≤9223372036854775807:=by rw [ByteArray.size_append];exact n4
        have n6:¬ 9223372036854775807<(X++⟨#[44]⟩).size+Y.size:=by omega
        clear sx sy hl1 hl2
        go_wp2_with fail
        refine (C.out w).mono ?_
        rintro e w1 ⟨rfl,hw1⟩
        rw [hw1]
        clear hw1
        go_wp2_with fail
        go_roundg (n - (i+1))
        case measure=>omega
        case rel=>exact ⟨i+1,by omega,by go_num,by rw [HF.out],rfl⟩
    · have hiz:¬ (i:Int)<(n:Int):=by omega
      have he:(L.map Lib.itoa).take i=L.map Lib.itoa:=List.take_of_length_le (by rw [List.length_map,HLL.out];omega)
      rw [he]
      go_wp2_with fail
      go_ret
      exact ⟨rfl,rfl⟩
set_option maxHeartbeats 1000000 in
theorem rrow_none (a:Option Addr) (cap:Nat) (w:World):Calls Tryz.prog 32 #[.slice a 0 cap] w fun e w'=>e=.returned (.string (bs (joined [] 44)))∧w'=w:=by
  go_enter Tryz.func32,Tryz.ntmps32
  go_wp2_with fail
  go_ret
  exact ⟨rfl,rfl⟩
theorem rrow_calls (a:Option Addr) (n cap:Nat) (L:List Int) (w:World) (h:Tree.IArg w a n L) (hn:n≤5000) (hL:∀ x∈L,-9223372036854775807≤x∧x≤9223372036854775807) :
    Calls Tryz.prog 32 #[.slice a n cap] w fun e w'=>e=.returned (.string (bs (joined (L.map Lib.itoa) 44)))∧w'=w:=by
  by_cases h0:n=0
  · subst h0
    obtain rfl:L=[]:=List.eq_nil_of_length_eq_zero h.2.1
    exact rrow_none a cap w
  · exact rrow_some a n cap L w h (by omega) hn hL
theorem numsR_app:∀ (a b:List (List UInt8)),numsR (a++b)=match numsR a with
    | none=>none
    | some L=>(numsR b).map (L++·)
  | [],b=>by
    show numsR b=(numsR b).map fun x=>[]++x
    cases numsR b<;>rfl
  | x::r,b=>by
    rw [List.cons_append,numsR,numsR,numsR_app r b]
    cases numL x with
    | none=>rfl
    | some v=>
      cases numsR r with
      | none=>rfl
      | some L=>
        cases numsR b with
        | none=>rfl
        | some K=>rfl
theorem numsR_len:∀ (a:List (List UInt8)) {L:List Int},numsR a=some L→L.length=a.length
  | [],L,h=>by simp [numsR] at h;subst h;rfl
  | x::r,L,h=>by
    unfold numsR at h
    cases hx:numL x with
    | none=>rw [hx] at h;cases h
    | some v=>
      rw [hx] at h
      cases hr:numsR r with
      | none=>rw [hr] at h;cases h
      | some K=>
        rw [hr] at h
        simp only [Option.map_some,Option.some.injEq] at h
        rw [← h,List.length_cons,List.length_cons,numsR_len r hr]
theorem numsR_one {x:List UInt8} {v:Int} (h:numL x=some v):numsR [x]=some [v]:=by
  simp [numsR,h]
theorem numsR_head {x:List UInt8} {r:List (List UInt8)} (h:numL x=none):numsR (x::r)=none:=by
  simp [numsR,h]
theorem numsR_bad {T:List (List UInt8)} {i:Nat} (hi:i<T.length) (h:numL (T.getD i [])=none):numsR T=none:=by
  have e:T=T.take i++T.getD i []::T.drop (i+1):=by
    conv=>lhs;rw [← List.take_append_drop i T,List.drop_eq_getElem_cons hi]
    rw [List.getD_eq_getElem?_getD,List.getElem?_eq_getElem hi]
    rfl
  rw [e,numsR_app,numsR_head h]
  cases numsR (T.take i) with
  | none=>rfl
  | some L=>rfl
theorem numsR_next {T:List (List UInt8)} {i:Nat} (hi:i<T.length) {L:List Int} {v:Int} (h0:numsR (T.take i)=some L) (h:numL (T.getD i [])=some v):numsR (T.take (i+1))=some (L++[v]):=by
  rw [take_snoc0 T hi,numsR_app,h0,numsR_one h]
  rfl
def ListO (w:World) (o:Option (List Int)) (e:Ending) (w':World):Prop:=
  Below w.heap.size w w'∧match o with
  | none=>e=.returned (.tuple #[.slice none 0 0,.bool false])
  | some L=>∃ v,e=.returned (.tuple #[v,.bool true])∧w'.ownsRow w.heap.size 3 1 v L.length (Tree.ic L)
def ListE (w:World) (x:List UInt8) (e:Ending) (w':World):Prop:=ListO w (listR x) e w'
theorem own_loR {W:World} {base e sz n g:Nat} {v:Value} {xs:List Value} (h:W.ownsRow base e sz v n xs) (hg:v.ownBlock=some g):base≤g:=by
  rcases h.2 with ⟨rfl,_⟩ | ⟨g',cap,cur,rfl,h1,h2,_⟩
  · simp [Value.ownBlock] at hg
  · simp [Value.ownBlock] at hg
    subst hg
    exact h1
set_option maxRecDepth 100000 in
set_option maxHeartbeats 1000000 in
theorem rlist_nil (w:World):Calls Tryz.prog 29 #[.string (bs [])] w fun e w'=>ListE w [] e w':=by
  have hq:((bs []).toList==[])=true:=by rw [bs_toList];rfl
  have HX:ListE w [] (.returned (.tuple #[.slice none 0 0,.bool true])) w:=⟨Below.refl _ _,_,rfl,World.ownsRow_nil _ _ _ _⟩
  go_enter Tryz.func29,Tryz.ntmps29
  go_wp2_with fail
  go_ret2
  exact HX
theorem info3D:(Tryz.prog.info? 3).map (fun i=>(i.zero,i.size,i.bytes))=some (some (.int .i64 0),1,8):=by kernel_rfl
set_option maxRecDepth 100000 in
set_option maxHeartbeats 4000000 in
theorem rlist_some (x:List UInt8) (hx:x≠[]) (hl:x.length≤3000) (w:World):Calls Tryz.prog 29 #[.string (bs x)] w fun e w'=>ListE w x e w':=by
  obtain ⟨i0,hii,hz0,hz1,hz2⟩:=info_parts info3D
  have hne:((bs x).toList==[])=false:=eq_no hx
  have C:=hidden (cut_calls 44 x (by omega))
  have hR:listR x=numsR (cutL 44 x):=if_neg hx
  have hlc:(cutL 44 x).length≤3001:=by have:=(cut_mem 44 x).1;omega
  have hle:∀ y∈cutL 44 x,y.length≤100000:=fun y hy=>by have:=(cut_mem 44 x).2 y hy;omega
  show Calls Tryz.prog 29 #[.string (bs x)] w fun e w'=>ListO w (listR x) e w'
  rw [hR]
  clear hR hx
  obtain ⟨T,hT⟩:∃ T,cutL 44 x=T:=⟨_,rfl⟩
  rw [hT] at C hlc hle ⊢
  obtain ⟨ov,hov⟩:∃ ov,numsR T=ov:=⟨_,rfl⟩
  have HO:=hidden hov
  rw [hov]
  have HLE:=hidden hle
  obtain ⟨n,hn⟩:∃ n,T.length=n:=⟨_,rfl⟩
  have HN:=hidden hn
  rw [hn] at hlc
  clear hT hle hn hov
  go_enter Tryz.func29,Tryz.ntmps29
  go_wp2_with fail
  refine (C.out w).mono ?_
  rintro e w1 ⟨v1,rfl,hJ⟩
  have HJ:=hidden hJ
  obtain ⟨a1,c1,rfl⟩:∃ a c,v1=.slice a n c:=by
    have:=hJ.own
    rw [HN.out] at this
    rcases this.2 with ⟨rfl,h0⟩ | ⟨g,cap,cur,rfl,_⟩
    · subst h0
      exact ⟨none,0,rfl⟩
    · exact ⟨_,_,rfl⟩
  clear hJ C
  have H0:Hid (Below w1.heap.size w1 w1∧w1.ownsRow w1.heap.size 3 1 (.slice none 0 0) 0 (Tree.ic [])):=hidden ⟨Below.refl _ _,World.ownsRow_nil _ _ _ _⟩
  go_wp2_with fail
  go_loopg [4,6] n (fun g u y wr=>∃ (i:Nat) (L:List Int) (v:Value),i+g=n∧v=u∧y=.int .i64 (i:Int)∧Hid (numsR (T.take i)=some L∧L.length=i)∧Hid (Below w1.heap.size w1 wr∧wr.ownsRow w1.heap.size 3 1 v i (Tree.ic L)))
  case atStart=>exact ⟨0,[],_,by omega,rfl,rfl,hidden ⟨rfl,rfl⟩,H0⟩
  case round=>
    obtain ⟨i,L,v,hig,rfl,rfl,HL,HS⟩:=hrel
    clear H0
    have hbs:=HS.out.1.size
    by_cases hi:i<n
    · have hiz:(i:Int)<(n:Int):=by omega
      have hiT:i<T.length:=by have:=HN.out;omega
      have hcell:∃ b o,a1=some ⟨b,o,none⟩∧wr.cell? ⟨b,o+i,none⟩=some (.string (bs (T.getD i []))):=by
        have ho:=HJ.out.own
        rcases ho.2 with ⟨e,h0⟩ | ⟨g,cap,cur,e,_⟩
        · omega
        · cases e
          refine ⟨g,0,rfl,?_⟩
          have hc:=ho.cellAt i (by omega)
          rw [Nat.zero_add]
          have:(sc T)[i]?=some (.string (bs (T.getD i []))):=by
            unfold sc
            rw [List.getElem?_map,List.getElem?_eq_getElem hiT,List.getD_eq_getElem?_getD,List.getElem?_eq_getElem hiT]
            rfl
          rw [this] at hc
          exact (HS.out.1.cell (p:=⟨g,i,none⟩) (World.block_lt_of_cell? _ _ hc)).trans hc
      obtain ⟨bb,oo,rfl,hc⟩:=hcell
      have hbd:=HLE.out (T.getD i []) (by rw [List.getD_eq_getElem?_getD,List.getElem?_eq_getElem hiT];exact List.getElem_mem hiT)
      have CN:=hidden (nine_calls (T.getD i []) hbd)
      have HBAD:=hidden (fun h=>numsR_bad (T:=T) (i:=i) hiT h)
      have HNX:=hidden (fun (v':Int) h=>numsR_next (T:=T) (i:=i) (v:=v') hiT HL.out.1 h)
      obtain ⟨t,ht⟩:∃ t,T.getD i []=t:=⟨_,rfl⟩
      rw [ht] at hc CN HBAD HNX
      clear ht hbd hiT
      cases hnum:numL t with
      | none=>
        have hbad:=HBAD.out hnum
        rw [hnum,nineE_none] at CN
        have HF:Hid (ListO w ov (.returned (.tuple #[.slice none 0 0,.bool false])) wr):=hidden ⟨HJ.out.bel.trans (HS.out.1.mono HJ.out.bel.size),by rw [← HO.out,hbad]⟩
        clear hbad hnum
        go_wp2_with fail
        refine (CN.out wr).mono ?_
        rintro e w2 ⟨rfl,hw2⟩
        rw [hw2]
        clear hw2
        go_wp2_with fail
        go_ret2
        exact HF.out
      | some z=>
        have hnx:=HNX.out z hnum
        rw [hnum,nineE_some] at CN
        have HLn:Hid (numsR (T.take (i+1))=some (L++[z])∧(L++[z]).length=i+1):=hidden ⟨hnx,by rw [List.length_append,List.length_singleton,HL.out.2]⟩
        have HOW:=hidden HS.out.2
        have hwlt:=HJ.out.bel.size
        clear hnx hnum
        go_wp2_with fail
        refine (CN.out wr).mono ?_
        rintro e w2 ⟨rfl,hw2⟩
        obtain rfl:wr=w2:=hw2.symm
        go_wp2_with (at_builtin;refine wpList_append_own _ rfl _ _ 47 rfl w1.heap.size 3 i0 _ 1 8 Tryz.underlying47 hii hz0 hz1 hz2 rfl (by decide) _ i (Tree.ic L) rfl (HOW.out.alloc _) ⟨wr.heap.size,0,none⟩ 1 1 [.int .i64 z] rfl rfl ?cc ?one ?b1 ?b2 ?b3 ?next)
        case cc=>exact Tree.lit1 _
        case one=>simp [Value.oneCell']
        case b1=>unfold maxLen;omega
        case b2=>omega
        case b3=>simp;omega
        case next=>
        intro v3 w4 hown hgrow _
        have HSn:Hid (Below w1.heap.size w1 w4∧w4.ownsRow w1.heap.size 3 1 v3 (i+1) (Tree.ic (L++[z]))):=hidden ⟨((HS.out.1.alloc hbs _).grown hgrow (by simp;omega) (fun k hk=>own_loR HOW.out hk)),by rw [Tree.ic_app];exact hown⟩
        clear hown hgrow hbs
        go_wp2_with fail
        go_roundg (n - (i+1))
        case measure=>omega
        case rel=>exact ⟨i+1,_,v3,by omega,rfl,by go_num,HLn,HSn⟩
    · have hiz:¬ (i:Int)<(n:Int):=by omega
      have he:T.take i=T:=List.take_of_length_le (by have:=HN.out;omega)
      have HF:Hid (ListO w ov (.returned (.tuple #[v,.bool true])) wr):=hidden ⟨HJ.out.bel.trans (HS.out.1.mono HJ.out.bel.size),by
        have h1:=HL.out
        rw [he,HO.out] at h1
        rw [h1.1]
        refine ⟨v,rfl,?_⟩
        rw [h1.2]
        exact Tree.own_base HS.out.2 HJ.out.bel.size⟩
      go_wp2_with fail
      go_ret2
      exact HF.out
theorem rlist_calls (x:List UInt8) (hl:x.length≤3000) (w:World):Calls Tryz.prog 29 #[.string (bs x)] w fun e w'=>ListE w x e w':=by
  by_cases h:x=[]
  · subst h;exact rlist_nil w
  · exact rlist_some x h hl w
end Go.Proofs.YtlppdppddiecnaaGreatDoor.Run

