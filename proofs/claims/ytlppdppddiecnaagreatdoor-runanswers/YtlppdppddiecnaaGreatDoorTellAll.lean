/-
  RunJ, RunK, RunL, RunM in one text.
-/
import Derived.Test.YtlppdppddiecnaaGreatDoorWordsAll
import Derived.Deep.RegionHeld3
import Derived.Lib.ItoaLen
import Derived.Test.YtlppdppddiecnaaGreatDoorTreeAll
import Derived.Test.YtlppdppddiecnaaGreatDoorBackAll
namespace Go.Proofs.YtlppdppddiecnaaGreatDoor.Run
open Go.ChangeShapes Go.WideShapes Go.ChangeAt Go.RowKit Go.Proofs.YtlppdppddiecnaaGreatDoor.Mem Go.Proofs.YtlppdppddiecnaaGreatDoor.RN Go.Proofs.YtlppdppddiecnaaGreatDoor.RC
set_option linter.unusedVariables false

theorem yesOrNo_calls (b:Bool) (w:World) :
    Calls Tryz.prog 81 #[.bool b] w fun e w'=>e=.returned (.string (bs (yesNo b)))∧w'=w:=by
  cases b with
  | true=>
    go_enter Tryz.func81,Tryz.ntmps81
    go_wp2_with fail
    go_ret
    exact ⟨rfl,rfl⟩
  | false=>
    go_enter Tryz.func81,Tryz.ntmps81
    go_wp2_with fail
    go_ret
    exact ⟨rfl,rfl⟩
theorem hex_get (i:Nat) (h:i<16) (h':i<(⟨#[48,49,50,51,52,53,54,55,56,57,97,98,99,100,101,102]⟩:ByteArray).size):(⟨#[48,49,50,51,52,53,54,55,56,57,97,98,99,100,101,102]⟩:ByteArray)[i]'h'=hexs.getD i 0:=by
  rw [List.getD_eq_getElem?_getD,List.getElem?_eq_getElem (by simpa [hexs] using h)]
  rfl
theorem and_nib:∀ c:Fin 256,bits BinOp.and IntKind.u8 (c.val:Int) 15=((c.val%16:Nat):Int):=by decide +kernel
theorem hexOf_snoc (L:List Nat) (c:Nat):hexOf (L++[c])=hexOf L++[hexs.getD (c / 16) 0,hexs.getD (c%16) 0]:=by simp [hexOf]
theorem hexOf_len (L:List Nat):(hexOf L).length=2*L.length:=by
  induction L with
  | nil=>rfl
  | cons c r ih=>simp [hexOf] at ih ⊢;omega
theorem cells_snoc (l:List UInt8) (c:UInt8):Lib.byteCells l++[.int .u8 (c.toNat:Int)]=Lib.byteCells (l++[c]):=by simp [Lib.byteCells]
structure HSt (w wr:World) (l:List UInt8):Prop where
  bel:Below w.heap.size w wr
  at':Lib.IsBuilderF 33 5 w.heap.size w.heap.size (Lib.byteCells l) wr
theorem take_snoc (L:List Nat) {i:Nat} (h:i<L.length):L.take (i+1)=L.take i++[L.getD i 0]:=by
  rw [List.getD_eq_getElem?_getD,List.getElem?_eq_getElem h,Option.getD_some,List.take_append_getElem h]
set_option maxRecDepth 100000 in
set_option maxHeartbeats 1000000 in
theorem hexOf_calls (a:Option Addr) (n cap:Nat) (L:List Nat) (w:World) (h:Arg w a n L) (hn:n≤100000) :
    Calls Tryz.prog 85 #[.slice a n cap] w fun e w'=>e=.returned (.string (bs (hexOf L)))∧Below w.heap.size w w':=by
  have HA:=hidden h
  have HL:=hidden h.2.1
  have hlt:Hid (∀ i,i<n→L.getD i 0<256):=hidden (fun i hi=>h.1.1 _ (by rw [List.getD_eq_getElem?_getD,List.getElem?_eq_getElem (by have:=h.2.1;omega)];simp))
  have HN0:Hid (HSt w (w.alloc (.cells #[.pointer none,.slice none 0 0] 33)) (hexOf (L.take 0))):=by
    refine ⟨(Below.refl _ _).alloc (Nat.le_refl _) _,.inl ⟨Nat.le_refl _,.slice none 0 0,heap_alloc_new _ _,⟨by simp [hexOf,Lib.byteCells],.inl ⟨rfl,by simp [hexOf,Lib.byteCells]⟩⟩,by simp [Value.ownBlock]⟩⟩
  clear h
  go_enter Tryz.func85,Tryz.ntmps85
  go_wp2_with fail
  go_loopg [8] n (fun g y wr=>∃ i:Nat,i+g=n∧y=.int .i64 (i:Int)∧Hid (HSt w wr (hexOf (L.take i))))
  case atStart=>exact ⟨0,by omega,rfl,HN0⟩
  case round=>
    obtain ⟨i,hig,rfl,HS⟩:=hrel
    by_cases hi:i<n
    · have hiz:(i:Int)<(n:Int):=by omega
      obtain ⟨bb,o,rfl,c0⟩:=(HA.out.below HS.out.bel).1.2 i (by have:=HL.out;omega)
      have hc:=hlt.out i hi
      have hst:=take_snoc L (i:=i) (by have:=HL.out;omega)
      obtain ⟨c,hcc⟩:∃ c,L.getD i 0=c:=⟨_,rfl⟩
      rw [hcc] at c0 hc hst
      have hst2:=hexOf_snoc (L.take i) c
      rw [← hst] at hst2
      have h1:c / 16<16:=by omega
      have h2:c%16<16:=by omega
      have hl0:=hexOf_len (L.take i)
      have hl1:(hexOf (L.take i)).length≤2*100000:=by rw [hl0,List.length_take];omega
      obtain ⟨l,hll⟩:∃ l,hexOf (L.take i)=l:=⟨_,rfl⟩
      rw [hll] at hst2 HS hl1
      have W1:Hid (∀ x:UInt8,x=hexs.getD (c / 16) 0→_):=hidden (fun x hx=>Tryz.Builder_WriteByte_k w.heap.size w.heap.size (Lib.byteCells l) (x.toNat:Int) wr HS.out.at' (by rw [Lib.byteCells_length];omega) HS.out.bel.size)
      have H1:=hidden (fun h'=>hex_get (c / 16) h1 h')
      have H2:=hidden (fun h'=>hex_get (c%16) h2 h')
      have hand:∀ W,(binOp .and 5 (.int .u8 (c:Int)) (.int .u8 15)).run Tryz.prog W=.ok (.int .u8 ((c%16:Nat):Int)) W:=by
        intro W
        have hb:=and_nib ⟨c,hc⟩
        simp only at hb
        simp [go_sem,hb]
      clear hst hl0 hll hcc
      go_wp2_with fail
      refine (W1.out _ (H1.out _)).mono ?_
      rintro e w1 ⟨rfl,hb,hbl,-⟩
      have hb1:Below w.heap.size w w1:=HS.out.bel.trans hbl
      rw [H1.out,cells_snoc] at hb
      have HB1:=hidden hb1
      have W2:Hid (∀ x:UInt8,x=hexs.getD (c%16) 0→_):=hidden (fun x hx=>Tryz.Builder_WriteByte_k w.heap.size w.heap.size _ (x.toNat:Int) w1 (.inr hb) (by rw [Lib.byteCells_length];simp;omega) hb1.size)
      clear hb hbl hb1
      go_wp2_with fail
      refine (W2.out _ (H2.out _)).mono ?_
      rintro e w2 ⟨rfl,hb,hbl,-⟩
      have hb1:Below w.heap.size w w2:=HB1.out.trans hbl
      rw [H2.out,cells_snoc] at hb
      have HSn:Hid (HSt w w2 (hexOf (L.take (i+1)))):=by
        rw [hst2]
        exact ⟨hb1,.inr (by simpa using hb)⟩
      clear hb hbl hb1
      go_wp2_with fail
      go_roundg (n - (i+1))
      case measure=>omega
      case rel=>exact ⟨i+1,by omega,by go_num,HSn⟩
    · have hiz:¬ (i:Int)<(n:Int):=by omega
      obtain rfl:i=n:=by omega
      have h9:=HS.out
      rw [List.take_of_length_le (by have:=HL.out;omega)] at h9
      have S:=hidden (Tryz.Builder_String_any_k w.heap.size w.heap.size (hexOf L) wr h9.at' h9.bel.size)
      have HB:=hidden h9.bel
      clear h9
      go_wp2_with fail
      refine S.out.mono ?_
      rintro e w1 ⟨rfl,-,hb,-⟩
      have HB1:=hidden hb
      clear hb
      go_wp2_with fail
      go_ret
      exact ⟨rfl,HB.out.trans HB1.out⟩

theorem bs_app (x y:List UInt8):bs x++bs y=bs (x++y):=by
  apply ByteArray.ext
  simp [bs,ByteArray.data_append]
theorem cat_str (x y:List UInt8) (h:x.length+y.length≤1000000) (W:World):(binOp .add 9 (.string (bs x)) (.string (bs y))).run Tryz.prog W=.ok (.string (bs (x++y))) W:=by
  rw [binOp_string_add,run_string_add_sum W _ _ (by rw [bs_size,bs_size];omega),bs_app]
def PTS (ea:Addr) (w:World) (a b:Int) (W:World):Prop:=GW ea W∧Below w.heap.size w W∧W.heap[w.heap.size]?=some (.cells #[.int .i64 a,.int .i64 b] 78 (0,0))
theorem PTS.cells {ea:Addr} {w W:World} {a b:Int} (h:PTS ea w a b W):W.cell? ⟨w.heap.size,0,none⟩=some (.int .i64 a)∧W.cell? ⟨w.heap.size,1,none⟩=some (.int .i64 b):=cells2 h.2.2
theorem PTS.itoa {ea:Addr} {w W:World} {a b n:Int} (h:PTS ea w a b W) (h0:-9223372036854775808≤n) (h1:n≤9223372036854775807) :
    Calls Tryz.prog 79 #[.int .i64 n] W fun e w'=>e=.returned (.string (bs (Lib.itoa n)))∧w'.cell? ⟨w.heap.size,0,none⟩=some (.int .i64 a)∧w'.cell? ⟨w.heap.size,1,none⟩=some (.int .i64 b)∧Hid (PTS ea w a b w'):=by
  refine (itoa_calls ea n W h.1 h0 h1).mono ?_
  rintro e w' ⟨rfl,hb⟩
  have h2:PTS ea w a b w':=⟨h.1.below hb,h.2.1.trans (hb.mono h.2.1.size),(hb.block _ (lt_of_block h.2.2)).trans h.2.2⟩
  exact ⟨rfl,h2.cells.1,h2.cells.2,h2⟩
theorem pts_new (ea:Addr) (a b:Int) (w:World) (g:GW ea w):PTS ea w a b (w.alloc (.cells #[.int .i64 a,.int .i64 b] 78)).drew:=⟨g.below (((Below.refl _ _).alloc (Nat.le_refl _) _).drew),((Below.refl _ _).alloc (Nat.le_refl _) _).drew,heap_alloc_new _ _⟩
set_option maxHeartbeats 1000000 in
set_option maxRecDepth 100000 in
theorem pairText_gen (ea:Addr) (a b:Int) (x y:List UInt8) (w:World) (g:GW ea w) (hx:x.length≤21) (hy:y.length≤21)
    (C1:Hid (∀ W,Hid (PTS ea w a b W)→Calls Tryz.prog 79 #[.int .i64 a] W fun e w'=>e=.returned (.string (bs x))∧w'.cell? ⟨w.heap.size,0,none⟩=some (.int .i64 a)∧w'.cell? ⟨w.heap.size,1,none⟩=some (.int .i64 b)∧Hid (PTS ea w a b w')))
    (C2:Hid (∀ W,Hid (PTS ea w a b W)→Calls Tryz.prog 79 #[.int .i64 b] W fun e w'=>e=.returned (.string (bs y))∧w'.cell? ⟨w.heap.size,0,none⟩=some (.int .i64 a)∧w'.cell? ⟨w.heap.size,1,none⟩=some (.int .i64 b)∧Hid (PTS ea w a b w'))) :
    Calls Tryz.prog 89 #[.agg #[.int .i64 a,.int .i64 b]] w fun e w'=>e=.returned (.string (bs (x++[58]++y)))∧Below w.heap.size w w':=by
  have hP2:=pts_new ea a b w g
  have hS0:(w.alloc (.cells #[.int .i64 a,.int .i64 b] 78)).drew.cell? ⟨w.heap.size,0,none⟩=some (.int .i64 a)∧(w.alloc (.cells #[.int .i64 a,.int .i64 b] 78)).drew.cell? ⟨w.heap.size,1,none⟩=some (.int .i64 b)∧Hid (PTS ea w a b (w.alloc (.cells #[.int .i64 a,.int .i64 b] 78)).drew):=⟨hP2.cells.1,hP2.cells.2,hP2⟩
  have sx:=bs_size x
  have sy:=bs_size y
  have k1:(bs x).size≤21:=by omega
  have k2:(bs y).size≤21:=by omega
  have HF:Hid (bs x++⟨#[58]⟩++bs y=bs (x++[58]++y)):=hidden (by rw [show (⟨#[58]⟩:ByteArray)=bs [58] from rfl,bs_app,bs_app])
  generalize bs (x++[58]++y)=z at HF ⊢
  generalize bs x=X at *
  generalize bs y=Y at *
  have n1:¬ 9223372036854775807<X.size+1:=by omega
  have n2:¬ 9223372036854775807<X.size+1+Y.size:=by omega
  have n3:X.size+1≤9223372036854775807:=by omega
  have n4:X.size+1+Y.size≤9223372036854775807:=by omega
  have n5:(X++⟨#[58]⟩).size+Y.size≤9223372036854775807:=by rw [ByteArray.size_append];exact n4
  have n6:¬ 9223372036854775807<(X++⟨#[58]⟩).size+Y.size:=by omega
  clear sx sy k1 k2
  clear g hP2 hx hy
  go_enter Tryz.func89,Tryz.ntmps89
  go_wp2_with fail
  go_region_held3 (fun w'=>w'.cell? ⟨w.heap.size,0,none⟩=some (.int .i64 a)∧w'.cell? ⟨w.heap.size,1,none⟩=some (.int .i64 b)∧Hid (PTS ea w a b w')) (with_reducible assumption) (first | (go_at_call 79;with_reducible refine (C1.out _ hS0.2.2).mono ?_;rintro e w1 ⟨rfl,hS1⟩) | (go_at_call 79;with_reducible refine (C2.out _ hS1.2.2).mono ?_;rintro e w2 ⟨rfl,hS2⟩))
  have HB:=hidden hS2.2.2.out.2.1
  clear hS1 hS2
  go_wp2_with fail
  go_ret
  exact ⟨by rw [HF.out];rfl,HB.out⟩
theorem pairText_calls (ea:Addr) (a b:Int) (w:World) (g:GW ea w) (ha0:-9223372036854775808≤a) (ha1:a≤9223372036854775807) (hb0:-9223372036854775808≤b) (hb1:b≤9223372036854775807) :
    Calls Tryz.prog 89 #[.agg #[.int .i64 a,.int .i64 b]] w fun e w'=>e=.returned (.string (bs (pairText (a,b))))∧Below w.heap.size w w':=
  pairText_gen ea a b (Lib.itoa a) (Lib.itoa b) w g (Lib.itoa_length_le a ha0 ha1) (Lib.itoa_length_le b hb0 hb1) (hidden fun W h=>h.out.itoa ha0 ha1) (hidden fun W h=>h.out.itoa hb0 hb1)

theorem info9:(Tryz.prog.info? 9).map (fun i=>(i.zero,i.size,i.bytes))=some (some (.string ByteArray.empty),1,16):=by kernel_rfl
theorem take_snoc0 (P:List (List UInt8)) {i:Nat} (h:i<P.length):P.take (i+1)=P.take i++[P.getD i []]:=by
  rw [List.getD_eq_getElem?_getD,List.getElem?_eq_getElem h,Option.getD_some,List.take_append_getElem h]
def sc (T:List (List UInt8)):List Value:=T.map fun x=>Value.string (bs x)
theorem sc_snoc (T:List (List UInt8)) (x:List UInt8):sc (T++[x])=sc T++[.string (bs x)]:=by simp [sc]
theorem sc_len (T:List (List UInt8)):(sc T).length=T.length:=by simp [sc]
structure JSt (w wr:World) (T:List (List UInt8)) (v:Value):Prop where
  bel:Below w.heap.size w wr
  own:wr.ownsRow w.heap.size 9 1 v T.length (sc T)
theorem JSt.below {w wr w':World} {T:List (List UInt8)} {v:Value} (h:JSt w wr T v) (hb:Below wr.heap.size wr w'):JSt w w' T v:=
  ⟨h.bel.trans (hb.mono h.bel.size),Tree.own_below h.own hb⟩
theorem JSt.app {w wr w':World} {T:List (List UInt8)} {x:List UInt8} {v v':Value} {O:Obj} (h:JSt w wr T v) (hown:w'.ownsRow w.heap.size 9 1 v' (T.length+1) (sc T++[.string (bs x)])) (hg:(wr.alloc O).grownBy w' v.ownBlock):JSt w w' (T++[x]) v':=by
  have hs:=h.bel.size
  refine ⟨(h.bel.alloc hs O).grown hg (by simp;omega) (fun j hj=>(h.own.lt j hj).1),?_⟩
  rw [List.length_append,sc_snoc]
  exact hown
theorem join_calls (c:UInt8) (T:List (List UInt8)) (v:Value) (w wr:World) (h:JSt w wr T v) (hne:T≠[]) (hT:T.length≤5000) (hl:∀ x∈T,x.length≤100) :
    Calls Tryz.prog 117 #[v,.string ⟨#[c]⟩] wr fun e w'=>e=.returned (.string (bs (joined T c)))∧Below wr.heap.size wr w':=by
  rcases h.own.2 with ⟨rfl,h0⟩ | ⟨g,cap,cur,rfl,hg,hbl,hc,hm,hs,ht⟩
  · exact absurd (List.eq_nil_of_length_eq_zero h0) hne
  · have hlen:(Lib.join T [c]).length≤1000000:=by
      cases T with
      | nil=>exact absurd rfl hne
      | cons x r=>
        rw [Lib.join_length]
        have:∀ L:List (List UInt8),(∀ y∈L,y.length≤100)→Lib.lens L≤100*L.length:=by
          intro L
          induction L with
          | nil=>intro _;simp [Lib.lens]
          | cons y s ih=>
            intro hy
            have h1:=hy y (by simp)
            have h2:=ih (fun z hz=>hy z (by simp [hz]))
            simp only [Lib.lens,List.map_cons,List.sum_cons,List.length_cons] at h2 ⊢
            omega
        have:=this (x::r) hl
        simp only [List.length_cons,List.length_nil] at *
        omega
    have em:(T.map bs).map (·.data.toList)=T:=by
      rw [List.map_map]
      have:(fun x:ByteArray=>x.data.toList)∘bs=id:=funext fun x=>bs_data x
      rw [this,List.map_id]
    have hj:=Tryz.strings_Join g 0 cap (T.map bs) ⟨#[c]⟩ wr (fun j x hx=>by
      rw [Nat.zero_add,h.own.cellAt j (by rw [Nat.mul_one];have:=(List.getElem?_eq_some_iff.1 hx).1;simpa using this)]
      rw [List.getElem?_map] at hx
      rw [sc,List.getElem?_map]
      cases hq:T[j]? with
      | none=>rw [hq] at hx;cases hx
      | some y=>rw [hq] at hx;cases hx;rfl) (lt_of_block hbl) (by simp;omega) (by simpa using hc) (by rw [em];show (Lib.join T [c]).length≤_;omega)
    rw [em,List.length_map] at hj
    refine hj.mono ?_
    rintro e w' ⟨rfl,hb⟩
    refine ⟨?_,hb⟩
    unfold joined
    rw [if_neg hne]
    rfl
set_option maxRecDepth 100000 in
set_option maxHeartbeats 1000000 in
theorem joinedN_some (ea:Addr) (c:UInt8) (a:Option Addr) (n cap:Nat) (L:List Int) (w:World) (g:GW ea w) (h:Tree.IArg w a n L) (h0:0<n) (hn:n≤5000) (hL:∀ x∈L,-9223372036854775808≤x∧x≤9223372036854775807) :
    Calls Tryz.prog 91 #[.slice a n cap,.string ⟨#[c]⟩,.func (.func 79) #[] #[]] w fun e w'=>e=.returned (.string (bs (joined (L.map Lib.itoa) c)))∧Below w.heap.size w w':=by
  have HA:=hidden h
  have HL:=hidden h.2.1
  have HG:=hidden g
  have I:Hid (∀ x∈L,∀ W,GW ea W→_):=hidden (fun x hx W gW=>itoa_calls ea x W gW (hL x hx).1 (hL x hx).2)
  have HLL:=hidden hL
  have d0:decide ((n:Int)=0)=false:=by simp;omega
  have d1:((n:Int)==0)=false:=by simp;omega
  clear h g hL
  obtain ⟨i0,hii,hz0,hz1,hz2⟩:=info_parts info9
  have H0:Hid (JSt w w ((L.map Lib.itoa).take 0) (.slice none 0 0)):=⟨Below.refl _ _,World.ownsRow_nil _ _ _ _⟩
  go_enter Tryz.func91,Tryz.ntmps91
  go_wp2_with fail
  go_loopg [7,15] n (fun g u y wr=>∃ (i:Nat) (v:Value),i+g=n∧v=u∧y=.int .i64 (i:Int)∧Hid (JSt w wr ((L.map Lib.itoa).take i) v))
  case atStart=>exact ⟨0,_,by omega,rfl,rfl,H0⟩
  case round=>
    obtain ⟨i,v,hig,rfl,rfl,HS⟩:=hrel
    by_cases hi:i<n
    · have hiz:(i:Int)<(n:Int):=by omega
      obtain ⟨bb,oo,rfl,c0⟩:=(HA.out.below HS.out.bel).1 i (by have:=HL.out;omega)
      have hmem:TM.dg L i∈L:=by
        have:=HL.out
        rw [TM.dg,List.getD_eq_getElem?_getD,List.getElem?_eq_getElem (by omega)];simp
      have I1:=hidden (I.out _ hmem wr (HG.out.below HS.out.bel))
      have hst:=take_snoc0 (L.map Lib.itoa) (i:=i) (by have:=HL.out;simp;omega)
      have hge:(L.map Lib.itoa).getD i []=Lib.itoa (TM.dg L i):=by
        have:=HL.out
        rw [TM.dg,List.getD_eq_getElem?_getD,List.getD_eq_getElem?_getD,List.getElem?_map,List.getElem?_eq_getElem (by omega)];rfl
      rw [hge] at hst
      have hlt:((L.map Lib.itoa).take i).length=i:=by have:=HL.out;simp;omega
      obtain ⟨x,hx⟩:∃ x,TM.dg L i=x:=⟨_,rfl⟩
      rw [hx] at c0 I1 hst
      obtain ⟨T,hT⟩:∃ T,(L.map Lib.itoa).take i=T:=⟨_,rfl⟩
      rw [hT] at hst HS hlt
      obtain ⟨t,ht⟩:∃ t,Lib.itoa x=t:=⟨_,rfl⟩
      rw [ht] at I1 hst
      have HT:=hidden hst
      clear hst hge hmem hx hT ht
      go_wp2_with fail
      refine I1.out.mono ?_
      rintro e w3 ⟨rfl,hb3⟩
      have HS3:=hidden (HS.out.below hb3)
      have hbase:=HS3.out.bel.size
      clear hb3
      go_wp2_with (at_builtin;refine wpList_append_own _ rfl _ _ 23 rfl w.heap.size 9 i0 _ 1 16 Tryz.underlying23 hii hz0 hz1 hz2 rfl (by decide) _ T.length (sc T) rfl (HS3.out.own.alloc _) ⟨w3.heap.size,0,none⟩ 1 1 [.string (bs t)] rfl rfl ?cc ?one ?b1 ?b2 ?b3 ?next)
      case cc=>exact Tree.lit1 _
      case one=>simp [Value.oneCell']
      case b1=>unfold maxLen;omega
      case b2=>omega
      case b3=>simp;omega
      case next=>
      intro v3 w4 hown hgrow _
      have HSn:Hid (JSt w w4 ((L.map Lib.itoa).take (i+1)) v3):=by
        rw [HT.out]
        exact HS3.out.app (by rw [hlt];exact hown) hgrow
      clear hown hgrow hbase
      go_wp2_with fail
      go_roundg (n - (i+1))
      case measure=>omega
      case rel=>exact ⟨i+1,v3,by omega,rfl,by go_num,HSn⟩
    · have hiz:¬ (i:Int)<(n:Int):=by omega
      obtain rfl:i=n:=by omega
      have h9:=HS.out
      rw [List.take_of_length_le (by have:=HL.out;simp;omega)] at h9
      have J:=hidden (join_calls c (L.map Lib.itoa) v w wr h9 (by intro e;rw [List.map_eq_nil_iff] at e;have:=HL.out;rw [e] at this;simp at this;omega) (by have:=HL.out;simp;omega) (fun x hx=>by
        obtain ⟨y,hy,rfl⟩:=List.mem_map.1 hx
        have:=Lib.itoa_length_le y (HLL.out y hy).1 (HLL.out y hy).2
        omega))
      have HB:=hidden h9.bel
      clear h9
      go_wp2_with fail
      refine J.out.mono ?_
      rintro e w1 ⟨rfl,hb⟩
      have HB1:=hidden (HB.out.trans (hb.mono HB.out.size))
      clear hb
      go_wp2_with fail
      go_ret
      exact ⟨rfl,HB1.out⟩
theorem joinedN_none (c:UInt8) (a:Option Addr) (cap:Nat) (w:World) :
    Calls Tryz.prog 91 #[.slice a 0 cap,.string ⟨#[c]⟩,.func (.func 79) #[] #[]] w fun e w'=>e=.returned (.string (bs (joined [] c)))∧Below w.heap.size w w':=by
  go_enter Tryz.func91,Tryz.ntmps91
  go_wp2_with fail
  go_ret
  exact ⟨rfl,Below.refl _ _⟩
theorem joinedN_calls (ea:Addr) (c:UInt8) (a:Option Addr) (n cap:Nat) (L:List Int) (w:World) (g:GW ea w) (h:Tree.IArg w a n L) (hn:n≤5000) (hL:∀ x∈L,-9223372036854775808≤x∧x≤9223372036854775807) :
    Calls Tryz.prog 91 #[.slice a n cap,.string ⟨#[c]⟩,.func (.func 79) #[] #[]] w fun e w'=>e=.returned (.string (bs (joined (L.map Lib.itoa) c)))∧Below w.heap.size w w':=by
  rcases Nat.eq_zero_or_pos n with rfl | h0
  · obtain rfl:=List.eq_nil_of_length_eq_zero h.2.1
    exact joinedN_none c a cap w
  · exact joinedN_some ea c a n cap L w g h h0 hn hL

set_option maxRecDepth 100000 in
set_option maxHeartbeats 1000000 in
theorem joinedP_some (ea:Addr) (c:UInt8) (a:Option Addr) (n cap:Nat) (L:List (Int×Int)) (w:World) (g:GW ea w) (h:Back.PArg w a n L) (h0:0<n) (hn:n≤5000) (hL:∀ x∈L,(-9223372036854775808≤x.1∧x.1≤9223372036854775807)∧(-9223372036854775808≤x.2∧x.2≤9223372036854775807)) :
    Calls Tryz.prog 88 #[.slice a n cap,.string ⟨#[c]⟩,.func (.func 89) #[] #[]] w fun e w'=>e=.returned (.string (bs (joined (L.map pairText) c)))∧Below w.heap.size w w':=by
  have HA:=hidden h
  have HL:=hidden h.2.1
  have HG:=hidden g
  have I:Hid (∀ x∈L,∀ W,GW ea W→_):=hidden (fun x hx W gW=>pairText_calls ea x.1 x.2 W gW (hL x hx).1.1 (hL x hx).1.2 (hL x hx).2.1 (hL x hx).2.2)
  have HLL:=hidden hL
  have d0:decide ((n:Int)=0)=false:=by simp;omega
  have d1:((n:Int)==0)=false:=by simp;omega
  clear h g hL
  obtain ⟨i0,hii,hz0,hz1,hz2⟩:=info_parts info9
  have H0:Hid (JSt w w ((L.map pairText).take 0) (.slice none 0 0)):=⟨Below.refl _ _,World.ownsRow_nil _ _ _ _⟩
  go_enter Tryz.func88,Tryz.ntmps88
  go_wp2_with fail
  go_loopg [7,15] n (fun g u y wr=>∃ (i:Nat) (v:Value),i+g=n∧v=u∧y=.int .i64 (i:Int)∧Hid (JSt w wr ((L.map pairText).take i) v))
  case atStart=>exact ⟨0,_,by omega,rfl,rfl,H0⟩
  case round=>
    obtain ⟨i,v,hig,rfl,rfl,HS⟩:=hrel
    by_cases hi:i<n
    · have hiz:(i:Int)<(n:Int):=by omega
      obtain ⟨bb,oo,rfl,c0,c1⟩:=(HA.out.below HS.out.bel).1 i (by have:=HL.out;omega)
      have hmem:L.getD i (0,0)∈L:=by
        have:=HL.out
        rw [List.getD_eq_getElem?_getD,List.getElem?_eq_getElem (by omega)];simp
      have I1:=hidden (fun W (hb:Below w.heap.size w W)=>I.out _ hmem W (HG.out.below hb))
      have hst:=take_snoc0 (L.map pairText) (i:=i) (by have:=HL.out;simp;omega)
      have hge:(L.map pairText).getD i []=pairText (L.getD i (0,0)):=by
        have:=HL.out
        rw [List.getD_eq_getElem?_getD,List.getD_eq_getElem?_getD,List.getElem?_map,List.getElem?_eq_getElem (by omega)];rfl
      rw [hge] at hst
      have hlt:((L.map pairText).take i).length=i:=by have:=HL.out;simp;omega
      obtain ⟨x,hx⟩:∃ x,L.getD i (0,0)=x:=⟨_,rfl⟩
      rw [hx] at c0 c1 I1 hst
      obtain ⟨x1,x2⟩:=x
      simp only at c0 c1 I1
      obtain ⟨T,hT⟩:∃ T,(L.map pairText).take i=T:=⟨_,rfl⟩
      rw [hT] at hst HS hlt
      obtain ⟨t,ht⟩:∃ t,pairText (x1,x2)=t:=⟨_,rfl⟩
      rw [ht] at I1 hst
      have HT:=hidden hst
      clear hst hge hmem hx hT ht
      have HB0:=hidden HS.out.bel
      go_wp2_with fail
      refine (I1.out _ ?_).mono ?_
      · exact HB0.out.alloc HB0.out.size _
      rintro e w3 ⟨rfl,hb3⟩
      have HS3:=hidden (HS.out.below (((Below.refl _ _).alloc (Nat.le_refl _) _).trans (hb3.mono (by simp))))
      have hbase:=HS3.out.bel.size
      clear hb3
      go_wp2_with (at_builtin;refine wpList_append_own _ rfl _ _ 23 rfl w.heap.size 9 i0 _ 1 16 Tryz.underlying23 hii hz0 hz1 hz2 rfl (by decide) _ T.length (sc T) rfl (HS3.out.own.alloc _) ⟨w3.heap.size,0,none⟩ 1 1 [.string (bs t)] rfl rfl ?cc ?one ?b1 ?b2 ?b3 ?next)
      case cc=>exact Tree.lit1 _
      case one=>simp [Value.oneCell']
      case b1=>unfold maxLen;omega
      case b2=>omega
      case b3=>simp;omega
      case next=>
      intro v3 w4 hown hgrow _
      have HSn:Hid (JSt w w4 ((L.map pairText).take (i+1)) v3):=by
        rw [HT.out]
        exact HS3.out.app (by rw [hlt];exact hown) hgrow
      clear hown hgrow hbase
      go_wp2_with fail
      go_roundg (n - (i+1))
      case measure=>omega
      case rel=>exact ⟨i+1,v3,by omega,rfl,by go_num,HSn⟩
    · have hiz:¬ (i:Int)<(n:Int):=by omega
      obtain rfl:i=n:=by omega
      have h9:=HS.out
      rw [List.take_of_length_le (by have:=HL.out;simp;omega)] at h9
      have J:=hidden (join_calls c (L.map pairText) v w wr h9 (by intro e;rw [List.map_eq_nil_iff] at e;have:=HL.out;rw [e] at this;simp at this;omega) (by have:=HL.out;simp;omega) (fun x hx=>by
        obtain ⟨y,hy,rfl⟩:=List.mem_map.1 hx
        have h1:=Lib.itoa_length_le y.1 (HLL.out y hy).1.1 (HLL.out y hy).1.2
        have h2:=Lib.itoa_length_le y.2 (HLL.out y hy).2.1 (HLL.out y hy).2.2
        unfold pairText
        simp
        omega))
      have HB:=hidden h9.bel
      clear h9
      go_wp2_with fail
      refine J.out.mono ?_
      rintro e w1 ⟨rfl,hb⟩
      have HB1:=hidden (HB.out.trans (hb.mono HB.out.size))
      clear hb
      go_wp2_with fail
      go_ret
      exact ⟨rfl,HB1.out⟩
theorem joinedP_none (c:UInt8) (a:Option Addr) (cap:Nat) (w:World) :
    Calls Tryz.prog 88 #[.slice a 0 cap,.string ⟨#[c]⟩,.func (.func 89) #[] #[]] w fun e w'=>e=.returned (.string (bs (joined [] c)))∧Below w.heap.size w w':=by
  go_enter Tryz.func88,Tryz.ntmps88
  go_wp2_with fail
  go_ret
  exact ⟨rfl,Below.refl _ _⟩
theorem joinedP_calls (ea:Addr) (c:UInt8) (a:Option Addr) (n cap:Nat) (L:List (Int×Int)) (w:World) (g:GW ea w) (h:Back.PArg w a n L) (hn:n≤5000) (hL:∀ x∈L,(-9223372036854775808≤x.1∧x.1≤9223372036854775807)∧(-9223372036854775808≤x.2∧x.2≤9223372036854775807)) :
    Calls Tryz.prog 88 #[.slice a n cap,.string ⟨#[c]⟩,.func (.func 89) #[] #[]] w fun e w'=>e=.returned (.string (bs (joined (L.map pairText) c)))∧Below w.heap.size w w':=by
  rcases Nat.eq_zero_or_pos n with rfl | h0
  · obtain rfl:=List.eq_nil_of_length_eq_zero h.2.1
    exact joinedP_none c a cap w
  · exact joinedP_some ea c a n cap L w g h h0 hn hL
end Go.Proofs.YtlppdppddiecnaaGreatDoor.Run
