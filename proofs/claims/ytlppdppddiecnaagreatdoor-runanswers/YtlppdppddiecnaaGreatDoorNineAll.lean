/-
  RunRa, RunRb in one text.
-/
import Derived.Test.YtlppdppddiecnaaGreatDoorTellAll
import Derived.Test.YtlppdppddiecnaaGreatDoorDigAll
import Derived.Test.YtlppdppddiecnaaGreatDoorAmAll
namespace Go.Proofs.YtlppdppddiecnaaGreatDoor.Run
open Go.ChangeShapes Go.WideShapes Go.ChangeAt Go.RowKit Go.Proofs.YtlppdppddiecnaaGreatDoor.Mem Go.Proofs.YtlppdppddiecnaaGreatDoor.RN Go.Proofs.YtlppdppddiecnaaGreatDoor.RC
set_option linter.unusedVariables false
structure CutI (c:UInt8) (l:List UInt8) (T:List (List UInt8)) (f i:Nat):Prop where
  eq:cutL c l=T++cutL c (l.drop f)
  no:c∉(l.take i).drop f
  le:f≤i
  len:T.length≤i
theorem CutI.start (c:UInt8) (l:List UInt8):CutI c l [] 0 0:=⟨by simp,by simp,Nat.le_refl _,by simp⟩
theorem snoc9 (l:List UInt8) {i:Nat} (h:i<l.length):l.take (i+1)=l.take i++[l.getD i 0]:=by
  rw [List.take_add_one,List.getElem?_eq_getElem h,List.getD_eq_getElem?_getD,List.getElem?_eq_getElem h]
  rfl
theorem drop_snoc (l:List UInt8) {f i:Nat} (hf:f≤i) (hi:i<l.length):(l.take (i+1)).drop f=(l.take i).drop f++[l.getD i 0]:=by
  rw [snoc9 l hi,List.drop_append_of_le_length (by rw [List.length_take];omega)]
theorem CutI.skip {c:UInt8} {l:List UInt8} {T:List (List UInt8)} {f i:Nat} (h:CutI c l T f i) (hi:i<l.length) (hne:l.getD i 0≠c):CutI c l T f (i+1):=by
  refine ⟨h.eq,?_,by have:=h.le;omega,by have:=h.len;omega⟩
  rw [drop_snoc l h.le hi]
  intro hm
  rcases List.mem_append.1 hm with hm | hm
  · exact h.no hm
  · exact hne (List.mem_singleton.1 hm).symm
theorem CutI.cut {c:UInt8} {l:List UInt8} {T:List (List UInt8)} {f i:Nat} (h:CutI c l T f i) (hi:i<l.length) (he:l.getD i 0=c):CutI c l (T++[(l.take i).drop f]) (i+1) (i+1):=by
  have e:l.drop f=(l.take i).drop f++c::l.drop (i+1):=by
    have h1:l=l.take i++c::l.drop (i+1):=by
      conv=>lhs;rw [← List.take_append_drop i l,List.drop_eq_getElem_cons hi]
      rw [List.getD_eq_getElem?_getD,List.getElem?_eq_getElem hi] at he
      simp only [Option.getD_some] at he
      rw [he]
    conv=>lhs;rw [h1]
    rw [List.drop_append_of_le_length (by have:=h.le;rw [List.length_take];omega)]
  refine ⟨?_,by simp,Nat.le_refl _,by have:=h.len;simp;omega⟩
  rw [h.eq,e,cutL_at _ h.no]
  simp
theorem CutI.done {c:UInt8} {l:List UInt8} {T:List (List UInt8)} {f i:Nat} (h:CutI c l T f i) (hi:l.length≤i):cutL c l=T++[l.drop f]:=by
  have hn:=h.no
  rw [List.take_of_length_le hi] at hn
  rw [h.eq,cutL_none hn]
set_option maxRecDepth 100000 in
set_option maxHeartbeats 2000000 in
theorem cut_calls (c:UInt8) (l:List UInt8) (hl:l.length≤100000) (w:World) :
    Calls Tryz.prog 5 #[.string (bs l),.int .u8 (c.toNat:Int)] w fun e w'=>∃ v,e=.returned v∧JSt w w' (cutL c l) v:=by
  obtain ⟨n,hn⟩:∃ n,l.length=n:=⟨_,rfl⟩
  have hsz:(bs l).size=n:=by rw [bs_size,hn]
  have HN:=hidden hn
  have H5:Hid (n≤100000):=hidden (by omega)
  clear hn hl
  obtain ⟨i0,hii,hz0,hz1,hz2⟩:=info_parts info9
  have H0:Hid (JSt w w [] (.slice none 0 0)):=⟨Below.refl _ _,World.ownsRow_nil _ _ _ _⟩
  go_enter Tryz.func5,Tryz.ntmps5
  go_wp2_with fail
  go_loopg [5,6,7] n (fun g u y z wr=>∃ (i f:Nat) (T:List (List UInt8)) (v:Value),i+g=n∧v=u∧y=.int .i64 (f:Int)∧z=.int .i64 (i:Int)∧Hid (JSt w wr T v)∧Hid (CutI c l T f i))
  case atStart=>exact ⟨0,0,[],_,by omega,rfl,rfl,rfl,H0,hidden (CutI.start c l)⟩
  case round=>
    obtain ⟨i,f,T,v,hig,rfl,rfl,rfl,HS,HI⟩:=hrel
    have hTl:T.length≤100000:=by have:=HI.out.len;have:=H5.out;omega
    have hbase:=HS.out.bel.size
    have hi1:i≤100000:=by have:=H5.out;omega
    by_cases hi:i<n
    · have hiz:decide ((i:Int)<(n:Int))=true:=by simp;omega
      have ix:∀ W,(Instr.index 9 (.string (bs l)) (.int .i64 (i:Int))).run Tryz.prog W=.ok (.int .u8 ((l.getD i 0).toNat:Int)) W:=fun W=>idx_str l i (by have:=HN.out;omega) W
      have sx:=sub_str l f i HI.out.le (by have:=HN.out;omega)
      obtain ⟨d,hd⟩:∃ d,l.getD i 0=d:=⟨_,rfl⟩
      rw [hd] at ix
      obtain ⟨p,hp⟩:∃ p,(l.take i).drop f=p:=⟨_,rfl⟩
      rw [hp] at sx
      by_cases hc:d=c
      · have HIn:=hidden (HI.out.cut (by have:=HN.out;omega) (by rw [hd,hc]))
        rw [hp] at HIn
        have hq:((d.toNat:Int)==(c.toNat:Int))=true:=by rw [hc];simp
        clear hd hp
        go_wp2_with (at_builtin;refine wpList_append_own _ rfl _ _ 23 rfl w.heap.size 9 i0 _ 1 16 Tryz.underlying23 hii hz0 hz1 hz2 rfl (by decide) _ T.length (sc T) rfl (HS.out.own.alloc _) ⟨wr.heap.size,0,none⟩ 1 1 [.string (bs p)] rfl rfl ?cc ?one ?b1 ?b2 ?b3 ?next)
        case cc=>exact Tree.lit1 _
        case one=>simp [Value.oneCell']
        case b1=>unfold maxLen;omega
        case b2=>omega
        case b3=>simp;omega
        case next=>
        intro v3 w4 hown hgrow _
        have HSn:Hid (JSt w w4 (T++[p]) v3):=HS.out.app hown hgrow
        clear hown hgrow hbase
        go_loud (go_wp2_with fail)
        go_roundg (n - (i+1))
        case measure=>omega
        case rel=>exact ⟨i+1,i+1,_,v3,by omega,rfl,by go_num,by go_num,HSn,HIn⟩
      · have HIn:=hidden (HI.out.skip (by have:=HN.out;omega) (by rw [hd];exact hc))
        have hq:((d.toNat:Int)==(c.toNat:Int))=false:=by
          have:d.toNat≠c.toNat:=fun e=>hc (UInt8.toNat_inj.1 e)
          simp;omega
        clear hd hp
        go_loud (go_wp2_with fail)
        go_roundg (n - (i+1))
        case measure=>omega
        case rel=>exact ⟨i+1,f,T,v,by omega,rfl,rfl,by go_num,HS,HIn⟩
    · have hiz:decide ((i:Int)<(n:Int))=false:=by simp;omega
      have hfin:=HI.out.done (by have:=HN.out;omega)
      have sx:∀ W,(Instr.slice 9 (.string (bs l)) (some (.int .i64 (f:Int))) none none).run Tryz.prog W=.ok (.string (bs (l.drop f))) W:=cut_str l f (by have:=HN.out;have:=HI.out.le;omega)
      obtain ⟨p,hp⟩:∃ p,l.drop f=p:=⟨_,rfl⟩
      rw [hp] at sx hfin
      have HF:=hidden hfin
      clear hp hfin
      go_wp2_with (at_builtin;refine wpList_append_own _ rfl _ _ 23 rfl w.heap.size 9 i0 _ 1 16 Tryz.underlying23 hii hz0 hz1 hz2 rfl (by decide) _ T.length (sc T) rfl (HS.out.own.alloc _) ⟨wr.heap.size,0,none⟩ 1 1 [.string (bs p)] rfl rfl ?cc ?one ?b1 ?b2 ?b3 ?next)
      case cc=>exact Tree.lit1 _
      case one=>simp [Value.oneCell']
      case b1=>unfold maxLen;omega
      case b2=>omega
      case b3=>simp;omega
      case next=>
      intro v3 w4 hown hgrow _
      have HSn:Hid (JSt w w4 (T++[p]) v3):=HS.out.app hown hgrow
      clear hown hgrow hbase
      go_loud (go_wp2_with fail)
      go_loud (go_ret)
      exact ⟨_,rfl,by rw [HF.out];exact HSn.out⟩
def nineE (o:Option Int):Ending:=.returned (.tuple #[.int .i64 (o.getD 0),.bool o.isSome])
theorem nineE_none:nineE none=.returned (.tuple #[.int .i64 0,.bool false]):=rfl
theorem nineE_some (v:Int):nineE (some v)=.returned (.tuple #[.int .i64 v,.bool true]):=rfl
theorem nine_empty (w:World):Calls Tryz.prog 17 #[.string (bs [])] w fun e w'=>e=nineE (numL [])∧w'=w:=by
  rw [← nine_num]
  have e0:nineL []=none:=by simp [nineL]
  rw [e0,nineE_none]
  have hsz:(bs []).size=0:=rfl
  have h0:(bs []).toList=[]:=by decide +kernel
  go_enter Tryz.func17,Tryz.ntmps17
  go_wp2_with fail
  go_ret2
  exact ⟨rfl,rfl⟩
theorem drop_nil {l:List UInt8} {f:Nat} (h:l.length≤f):l.drop f=[]:=List.drop_eq_nil_of_le h
theorem head_drop (l:List UInt8) (f:Nat):(l.drop f).headD 0=l.getD f 0:=by
  rw [List.headD_eq_head?_getD,List.head?_drop,List.getD_eq_getElem?_getD]
theorem nine_eq1 {l:List UInt8} (h:l.getD 0 0=45):nineL l=if l.drop 1=[]∨9<(l.drop 1).length∨(l.getD 1 0=48∧1<l.length) then none else if (l.drop 1).all isD then some (-(dval 0 (l.drop 1):Int)) else none:=by
  have h0:l.headD 0=45:=by rw [← head_drop l 0] at h;exact h
  unfold nineL
  simp only [h0,decide_true,if_true,head_drop]
theorem nine_eq0 {l:List UInt8} (h:l.getD 0 0≠45):nineL l=if l.drop 0=[]∨9<(l.drop 0).length∨(l.getD 0 0=48∧1<l.length) then none else if (l.drop 0).all isD then some ((dval 0 (l.drop 0):Int)) else none:=by
  have h0:l.headD 0≠45:=by rw [← head_drop l 0] at h;exact h
  have h1:l.headD 0=l.getD 0 0:=by rw [← head_drop l 0];rfl
  unfold nineL
  simp only [h1,h,decide_false,Bool.false_eq_true,if_false,List.drop_zero]
structure NineI (l:List UInt8) (f i s:Nat):Prop where
  le:f≤i
  dig:∀ c∈(l.take i).drop f,isD c=true
  val:s=dval 0 ((l.take i).drop f)
theorem NineI.start (l:List UInt8) (f:Nat):NineI l f f 0:=by
  have e:(l.take f).drop f=[]:=drop_nil (by rw [List.length_take];omega)
  exact ⟨Nat.le_refl _,by rw [e];simp,by rw [e];rfl⟩
theorem NineI.step {l:List UInt8} {f i s:Nat} (h:NineI l f i s) (hi:i<l.length) (hd:isD (l.getD i 0)=true):NineI l f (i+1) (s*10+((l.getD i 0).toNat - 48)):=by
  refine ⟨by have:=h.le;omega,?_,?_⟩
  · rw [drop_snoc l h.le hi]
    intro c hc
    rcases List.mem_append.1 hc with hc | hc
    · exact h.dig c hc
    · rw [List.mem_singleton.1 hc];exact hd
  · rw [drop_snoc l h.le hi,val_snoc,h.val]
theorem NineI.small {l:List UInt8} {f i s:Nat} (h:NineI l f i s) (hi:i≤l.length) (h9:l.length≤f+9):s<1000000000:=by
  have:=val_le ((l.take i).drop f) 0 h.dig
  rw [← h.val] at this
  have hl:((l.take i).drop f).length≤9:=by rw [List.length_drop,List.length_take];omega
  have hp:10 ^ ((l.take i).drop f).length≤10 ^ 9:=Nat.pow_le_pow_right (by decide) hl
  have h10:(10:Nat) ^ 9=1000000000:=by decide
  omega
theorem NineI.bad {l:List UInt8} {f i s:Nat} (h:NineI l f i s) (hi:i<l.length) (hd:isD (l.getD i 0)=false):(l.drop f).all isD=false:=by
  rw [Bool.eq_false_iff]
  intro ha
  have:=List.all_eq_true.1 ha (l.getD i 0) (by
    rw [List.getD_eq_getElem?_getD,List.getElem?_eq_getElem hi]
    refine List.mem_iff_getElem.2 ⟨i - f,by rw [List.length_drop];have:=h.le;omega,?_⟩
    have:=h.le
    simp [List.getElem_drop,show f+(i - f)=i by omega])
  rw [hd] at this
  cases this
theorem NineI.done {l:List UInt8} {f i s:Nat} (h:NineI l f i s) (hi:l.length≤i):(l.drop f).all isD=true∧s=dval 0 (l.drop f):=by
  have e:l.take i=l:=List.take_of_length_le hi
  have h1:=h.dig
  have h2:=h.val
  rw [e] at h1 h2
  exact ⟨List.all_eq_true.2 h1,h2⟩
theorem dig_wrap (s d:Nat) (hs:s<1000000000) (hd:d<256):wrap64 ((s:Int)*10)=(s:Int)*10∧wrap64 ((s:Int)*10+(d:Int))=(s:Int)*10+(d:Int)∧wrap64 ((s:Int)*10+(d:Int) - 48)=(s:Int)*10+(d:Int) - 48∧wrap64 (d:Int)=(d:Int)∧wrap64 (-(s:Int))=-(s:Int):=by
  unfold wrap64
  omega
set_option maxRecDepth 100000 in
set_option maxHeartbeats 4000000 in
theorem nine_minus (l:List UInt8) (h45:l.getD 0 0=45) (hl:l.length≤100000) (hpos:0<l.length) (w:World):Calls Tryz.prog 17 #[.string (bs l)] w fun e w'=>e=nineE (numL l)∧w'=w:=by
  obtain ⟨n,hn⟩:∃ n,l.length=n:=⟨_,rfl⟩
  have hsz:(bs l).size=n:=by rw [bs_size,hn]
  have hne:(bs l).toList.isEmpty=false:=by
    rw [bs_toList]
    cases l with
    | nil=>simp at hpos
    | cons _ _=>rfl
  have i0:∀ W,(Instr.index 9 (.string (bs l)) (.int .i64 0)).run Tryz.prog W=.ok (.int .u8 45) W:=fun W=>by
    have:=idx_str l 0 (by omega) W
    rw [h45] at this
    exact this
  rw [← nine_num,nine_eq1 h45]
  by_cases h1:n=1
  · have hd:((n:Int)==1)=true:=by simp;omega
    rw [if_pos (.inl (drop_nil (by omega))),nineE_none]
    clear hn
    go_enter Tryz.func17,Tryz.ntmps17
    go_loud (go_wp2_with fail)
    go_loud (go_ret2)
    exact ⟨rfl,rfl⟩
  have hd:((n:Int)==1)=false:=by simp;omega
  have hdr:l.drop 1≠[]:=fun e=>by
    have:=congrArg List.length e
    rw [List.length_drop] at this
    simp at this
    omega
  have hw0:wrap64 ((n:Int) - 1)=(n:Int) - 1:=by unfold wrap64;omega
  by_cases h9:n<1+10
  case neg=>
    have d9:decide ((9:Int)<(n:Int) - 1)=true:=by simp;omega
    rw [if_pos (.inr (.inl (by rw [List.length_drop];omega))),nineE_none]
    clear hn
    go_enter Tryz.func17,Tryz.ntmps17
    go_loud (go_wp2_with fail)
    go_loud (go_ret2)
    exact ⟨rfl,rfl⟩
  have d9:decide ((9:Int)<(n:Int) - 1)=false:=by simp;omega
  have i1:∀ W,(Instr.index 9 (.string (bs l)) (.int .i64 1)).run Tryz.prog W=.ok (.int .u8 ((l.getD 1 0).toNat:Int)) W:=fun W=>idx_str l 1 (by omega) W
  by_cases h48:l.getD 1 0=48∧1<n
  · have q48:((l.getD 1 0).toNat:Int)=48:=by rw [h48.1];rfl
    rw [q48] at i1
    have d1:decide ((1:Int)<(n:Int))=true:=by simp;omega
    rw [if_pos (.inr (.inr ⟨h48.1,by omega⟩)),nineE_none]
    clear hn
    go_enter Tryz.func17,Tryz.ntmps17
    go_loud (go_wp2_with fail)
    go_loud (go_ret2)
    exact ⟨rfl,rfl⟩
  rw [if_neg (by
    rintro (h | h | h)
    · exact hdr h
    · rw [List.length_drop] at h;omega
    · exact h48 ⟨h.1,by omega⟩)]
  obtain ⟨x,hx⟩:∃ x,(l.getD 1 0).toNat=x:=⟨_,rfl⟩
  rw [hx] at i1
  have hch:((x:Int)==48)=false∨(((x:Int)==48)=true∧decide ((1:Int)<(n:Int))=false):=by
    by_cases hxx:x=48
    · right
      have hc:l.getD 1 0=48:=UInt8.toNat_inj.1 (by rw [hx,hxx];rfl)
      have:¬ 1<n:=fun h=>h48 ⟨hc,h⟩
      exact ⟨by simp;omega,by simp;omega⟩
    · left;simp;omega
  obtain ⟨r,hr⟩:∃ r,(if (l.drop 1).all isD=true then some (-(dval 0 (l.drop 1):Int)) else none)=r:=⟨_,rfl⟩
  rw [hr]
  have HR:=hidden hr
  clear hr
  have HN:=hidden hn
  have HX9:=hidden h9
  have H1:=hidden h1
  clear hn h48 hx hdr h9 h1
  rcases hch with hq | ⟨hq,hq1⟩
  all_goals
    go_enter Tryz.func17,Tryz.ntmps17
    go_wp2_with fail
    go_loopg [5,6] (n - 1) (fun g u y wr=>∃ i s:Nat,i+g=n∧u=.int .i64 (s:Int)∧y=.int .i64 (i:Int)∧wr=w∧Hid (NineI l 1 i s))
    case atStart=>exact ⟨1,0,by have:=H1.out;have:=HN.out;omega,rfl,rfl,rfl,hidden (NineI.start l 1)⟩
    case round=>
      obtain ⟨i,s,hig,rfl,rfl,hwr,HI⟩:=hrel
      rw [hwr]
      clear hwr
      have hib:i≤20:=by have:=HX9.out;omega
      have hs:=HI.out.small (by have:=HN.out;omega) (by have:=HN.out;have:=HX9.out;omega)
      by_cases hi:i<n
      · have hiz:decide ((i:Int)<(n:Int))=true:=by simp;omega
        have ix:∀ W,(Instr.index 9 (.string (bs l)) (.int .i64 (i:Int))).run Tryz.prog W=.ok (.int .u8 ((l.getD i 0).toNat:Int)) W:=fun W=>idx_str l i (by have:=HN.out;omega) W
        have HB:=hidden (fun h=>HI.out.bad (by have:=HN.out;omega) h)
        have HST:=hidden (fun h=>HI.out.step (by have:=HN.out;omega) h)
        have hlt:=UInt8.toNat_lt (l.getD i 0)
        have hisd:isD (l.getD i 0)=decide (48≤(l.getD i 0).toNat∧(l.getD i 0).toNat≤57):=rfl
        rw [hisd] at HB HST
        obtain ⟨d,hd'⟩:∃ d,(l.getD i 0).toNat=d:=⟨_,rfl⟩
        rw [hd'] at ix HB HST hlt
        have hd8:d<256:=hlt
        clear hisd hd'
        by_cases hlo:d<48
        · have e1:decide ((d:Int)<48)=true:=by simp;omega
          have hb:(l.drop 1).all isD=false:=HB.out (decide_eq_false (by omega))
          have hrr:Hid (r=none):=hidden (by rw [← HR.out,hb];rfl)
          clear hb
          go_loud (go_wp2_with fail)
          go_loud (go_ret2)
          exact ⟨by rw [hrr.out];rfl,rfl⟩
        · have e1:decide ((d:Int)<48)=false:=by simp;omega
          by_cases hhi:57<d
          · have e2:decide ((57:Int)<(d:Int))=true:=by simp;omega
            have hb:(l.drop 1).all isD=false:=HB.out (decide_eq_false (by omega))
            have hrr:Hid (r=none):=hidden (by rw [← HR.out,hb];rfl)
            clear hb
            go_loud (go_wp2_with fail)
            go_loud (go_ret2)
            exact ⟨by rw [hrr.out];rfl,rfl⟩
          · have e2:decide ((57:Int)<(d:Int))=false:=by simp;omega
            have HI2:=hidden (HST.out (decide_eq_true (by omega)))
            have hvv:(s:Int)*10+(d:Int) - 48=((s*10+(d - 48):Nat):Int):=by omega
            obtain ⟨t,ht⟩:∃ t,s*10+(d - 48)=t:=⟨_,rfl⟩
            rw [ht] at hvv HI2
            have HVV:=hidden hvv
            clear ht hvv
            go_loud (go_wp2_with fail)
            go_roundg (n - (i+1))
            case measure=>omega
            case rel=>exact ⟨i+1,t,by omega,by rw [HVV.out],by go_num,rfl,HI2⟩
      · have hiz:decide ((i:Int)<(n:Int))=false:=by simp;omega
        obtain ⟨hall,hsv⟩:=HI.out.done (by have:=HN.out;omega)
        have w5:=(dig_wrap s 0 hs (by decide)).2.2.2.2
        have hrr:Hid (r=some (-(s:Int))):=hidden (by rw [← HR.out,hall,← hsv];rfl)
        clear hall hsv
        go_loud (go_wp2_with fail)
        go_loud (go_ret2)
        exact ⟨by rw [hrr.out];rfl,rfl⟩
set_option maxRecDepth 100000 in
set_option maxHeartbeats 4000000 in
theorem nine_plain (l:List UInt8) (h45:l.getD 0 0≠45) (hl:l.length≤100000) (hpos:0<l.length) (w:World):Calls Tryz.prog 17 #[.string (bs l)] w fun e w'=>e=nineE (numL l)∧w'=w:=by
  obtain ⟨n,hn⟩:∃ n,l.length=n:=⟨_,rfl⟩
  have hsz:(bs l).size=n:=by rw [bs_size,hn]
  have hne:(bs l).toList.isEmpty=false:=by
    rw [bs_toList]
    cases l with
    | nil=>simp at hpos
    | cons _ _=>rfl
  obtain ⟨x,hx⟩:∃ x,(l.getD 0 0).toNat=x:=⟨_,rfl⟩
  have i0:∀ W,(Instr.index 9 (.string (bs l)) (.int .i64 0)).run Tryz.prog W=.ok (.int .u8 (x:Int)) W:=fun W=>by rw [← hx];exact idx_str l 0 (by omega) W
  have q45:((x:Int)==45)=false:=by
    have:(l.getD 0 0).toNat≠45:=fun e=>h45 (UInt8.toNat_inj.1 e)
    exact beq_eq_false_iff_ne.2 (by omega)
  have HX:=hidden hx
  have H45:=hidden h45
  clear hx
  rw [← nine_num,nine_eq0 h45]
  clear h45
  have h1:¬ n=0:=by omega
  have hd:((n:Int)==0)=false:=by simp;omega
  have hdr:l.drop 0≠[]:=fun e=>by
    rw [List.drop_zero] at e
    rw [e] at hpos
    simp at hpos
  have hw0:wrap64 (n:Int)=(n:Int):=by unfold wrap64;omega
  by_cases h9:n<0+10
  case neg=>
    have d9:decide ((9:Int)<(n:Int))=true:=by simp;omega
    rw [if_pos (.inr (.inl (by rw [List.length_drop];omega))),nineE_none]
    clear hn
    go_enter Tryz.func17,Tryz.ntmps17
    go_loud (go_wp2_with fail)
    go_loud (go_ret2)
    exact ⟨rfl,rfl⟩
  have d9:decide ((9:Int)<(n:Int))=false:=by simp;omega
  by_cases h48:l.getD 0 0=48∧1<n
  · have hx48:x=48:=by rw [← HX.out,h48.1];rfl
    subst hx48
    simp only [Int.cast_ofNat_Int] at i0 q45
    have d1:decide ((1:Int)<(n:Int))=true:=by simp;omega
    rw [if_pos (.inr (.inr ⟨h48.1,by omega⟩)),nineE_none]
    clear hn
    go_enter Tryz.func17,Tryz.ntmps17
    go_loud (go_wp2_with fail)
    go_loud (go_ret2)
    exact ⟨rfl,rfl⟩
  rw [if_neg (by
    rintro (h | h | h)
    · exact hdr h
    · rw [List.length_drop] at h;omega
    · exact h48 ⟨h.1,by omega⟩)]
  have hch:((x:Int)==48)=false∨(((x:Int)==48)=true∧decide ((1:Int)<(n:Int))=false):=by
    by_cases hxx:x=48
    · right
      have hc:l.getD 0 0=48:=UInt8.toNat_inj.1 (by rw [HX.out,hxx];rfl)
      have:¬ 1<n:=fun h=>h48 ⟨hc,h⟩
      exact ⟨by simp;omega,by simp;omega⟩
    · left;simp;omega
  obtain ⟨r,hr⟩:∃ r,(if (l.drop 0).all isD=true then some ((dval 0 (l.drop 0):Int)) else none)=r:=⟨_,rfl⟩
  rw [hr]
  have HR:=hidden hr
  clear hr
  have HN:=hidden hn
  have HX9:=hidden h9
  have H1:=hidden h1
  clear hn h48 hdr h9 h1
  rcases hch with hq | ⟨hq,hq1⟩
  all_goals
    go_enter Tryz.func17,Tryz.ntmps17
    go_wp2_with fail
    go_loopg [5,6] n (fun g u y wr=>∃ i s:Nat,i+g=n∧u=.int .i64 (s:Int)∧y=.int .i64 (i:Int)∧wr=w∧Hid (NineI l 0 i s))
    case atStart=>exact ⟨0,0,by have:=H1.out;have:=HN.out;omega,rfl,rfl,rfl,hidden (NineI.start l 0)⟩
    case round=>
      obtain ⟨i,s,hig,rfl,rfl,hwr,HI⟩:=hrel
      rw [hwr]
      clear hwr
      have hib:i≤20:=by have:=HX9.out;omega
      have hs:=HI.out.small (by have:=HN.out;omega) (by have:=HN.out;have:=HX9.out;omega)
      by_cases hi:i<n
      · have hiz:decide ((i:Int)<(n:Int))=true:=by simp;omega
        have ix:∀ W,(Instr.index 9 (.string (bs l)) (.int .i64 (i:Int))).run Tryz.prog W=.ok (.int .u8 ((l.getD i 0).toNat:Int)) W:=fun W=>idx_str l i (by have:=HN.out;omega) W
        have HB:=hidden (fun h=>HI.out.bad (by have:=HN.out;omega) h)
        have HST:=hidden (fun h=>HI.out.step (by have:=HN.out;omega) h)
        have hlt:=UInt8.toNat_lt (l.getD i 0)
        have hisd:isD (l.getD i 0)=decide (48≤(l.getD i 0).toNat∧(l.getD i 0).toNat≤57):=rfl
        rw [hisd] at HB HST
        obtain ⟨d,hd'⟩:∃ d,(l.getD i 0).toNat=d:=⟨_,rfl⟩
        rw [hd'] at ix HB HST hlt
        have hd8:d<256:=hlt
        clear hisd hd'
        by_cases hlo:d<48
        · have e1:decide ((d:Int)<48)=true:=by simp;omega
          have hb:(l.drop 0).all isD=false:=HB.out (decide_eq_false (by omega))
          have hrr:Hid (r=none):=hidden (by rw [← HR.out,hb];rfl)
          clear hb
          go_loud (go_wp2_with fail)
          go_loud (go_ret2)
          exact ⟨by rw [hrr.out];rfl,rfl⟩
        · have e1:decide ((d:Int)<48)=false:=by simp;omega
          by_cases hhi:57<d
          · have e2:decide ((57:Int)<(d:Int))=true:=by simp;omega
            have hb:(l.drop 0).all isD=false:=HB.out (decide_eq_false (by omega))
            have hrr:Hid (r=none):=hidden (by rw [← HR.out,hb];rfl)
            clear hb
            go_loud (go_wp2_with fail)
            go_loud (go_ret2)
            exact ⟨by rw [hrr.out];rfl,rfl⟩
          · have e2:decide ((57:Int)<(d:Int))=false:=by simp;omega
            have HI2:=hidden (HST.out (decide_eq_true (by omega)))
            have hvv:(s:Int)*10+(d:Int) - 48=((s*10+(d - 48):Nat):Int):=by omega
            obtain ⟨t,ht⟩:∃ t,s*10+(d - 48)=t:=⟨_,rfl⟩
            rw [ht] at hvv HI2
            have HVV:=hidden hvv
            clear ht hvv
            go_loud (go_wp2_with fail)
            go_roundg (n - (i+1))
            case measure=>omega
            case rel=>exact ⟨i+1,t,by omega,by rw [HVV.out],by go_num,rfl,HI2⟩
      · have hiz:decide ((i:Int)<(n:Int))=false:=by simp;omega
        obtain ⟨hall,hsv⟩:=HI.out.done (by have:=HN.out;omega)
        have w5:=(dig_wrap s 0 hs (by decide)).2.2.2.2
        have hrr:Hid (r=some ((s:Int))):=hidden (by rw [← HR.out,hall,← hsv];rfl)
        clear hall hsv
        go_loud (go_wp2_with fail)
        go_loud (go_ret2)
        exact ⟨by rw [hrr.out];rfl,rfl⟩
theorem nine_calls (l:List UInt8) (hl:l.length≤100000) (w:World):Calls Tryz.prog 17 #[.string (bs l)] w fun e w'=>e=nineE (numL l)∧w'=w:=by
  by_cases h0:l=[]
  · subst h0;exact nine_empty w
  · have hpos:=List.length_pos_iff.2 h0
    by_cases h:l.getD 0 0=45
    · exact nine_minus l h hl hpos w
    · exact nine_plain l h hl hpos w
end Go.Proofs.YtlppdppddiecnaaGreatDoor.Run
