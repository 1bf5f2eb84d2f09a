/-
  Words that are bytes, two digits each.
-/
import Derived.Test.YtbadpjgiogghdaaGreatDoorRunXP
namespace Go.Proofs.YtbadpjgiogghdaaGreatDoor.Run
open Go.ChangeShapes Go.WideShapes Go.ChangeAt Go.RowKit Go.Proofs.YtbadpjgiogghdaaGreatDoor.Mem Go.Proofs.YtbadpjgiogghdaaGreatDoor.RN Go.Proofs.YtbadpjgiogghdaaGreatDoor.RC
set_option linter.unusedVariables false

theorem index_calls (a:UInt8) (w:World) :
    Calls Tryz.prog 49 #[.string ⟨#[48,49,50,51,52,53,54,55,56,57,97,98,99,100,101,102]⟩,.int .u8 (a.toNat:Int)] w fun e w'=>e=.returned (.int .i64 (Lib.indexByte hexs a))∧w'=w:=by
  have:=Tryz.strings_IndexByte ⟨#[48,49,50,51,52,53,54,55,56,57,97,98,99,100,101,102]⟩ (a.toNat:Int) w
  have e:((a.toNat:Int).toNat).toUInt8=a:=by simp
  rw [e] at this
  exact this
theorem index_lt (a:UInt8):-1≤Lib.indexByte hexs a∧Lib.indexByte hexs a<16:=by
  rcases indexByte_one a hexs with ⟨h,_⟩ | ⟨i,h,h2,_⟩
  · rw [h];decide
  · rw [h];simp [hexs] at h2;omega
theorem idx_str (l:List UInt8) (i:Nat) (h:i<l.length) (W:World):(Instr.index 9 (.string (bs l)) (.int .i64 (i:Int))).run Tryz.prog W=.ok (.int .u8 ((l.getD i 0).toNat:Int)) W:=by
  rw [run_index_string W 9 (bs l) .i64 i (by kernel_rfl),dif_pos ⟨by omega,by rw [bs_size];omega⟩]
  have e:(bs l)[(i:Int).toNat]'(by rw [bs_size];simpa using h)=l.getD i 0:=by
    rw [List.getD_eq_getElem?_getD,List.getElem?_eq_getElem h]
    rfl
  rw [e]
theorem cut_str (l:List UInt8) (i:Nat) (h:i≤l.length) (W:World):(Instr.slice 9 (.string (bs l)) (some (.int .i64 (i:Int))) none none).run Tryz.prog W=.ok (.string (bs (l.drop i))) W:=by
  rw [run_slice_string_from_if W 9 (bs l) .i64 i (by kernel_rfl),if_pos ⟨by omega,by rw [bs_size];omega⟩]
  congr 2
  rw [← bs_of ((bs l).extract _ _),Lib.extract_to_end,bs_data]
  rfl
theorem or_nib:∀ (i j:Fin 16),bits BinOp.or IntKind.i64 ((i.val:Int)*16) (j.val:Int)=((i.val*16+j.val:Nat):Int):=by decide +kernel
theorem two_parts {L:List UInt8} (h:2≤L.length):∃ x y r,L=x::y::r:=by
  match L,h with
  | x::y::r,_=>exact ⟨x,y,r,rfl⟩
theorem info5:(Tryz.prog.info? 5).map (fun i=>(i.zero,i.size,i.bytes))=some (some (.int .u8 0),1,1):=by kernel_rfl
def hexW (o:Option (List Nat)) (V:Ws):List Nat×Ws:=
  match o with
  | some L=>(L,V)
  | none=>([],V.ill)
structure BSt (w wr:World) (b B:Nat) (V:Ws) (E:List Nat) (v:Value):Prop where
  ws:WAt wr b V
  only:Only [b] w wr
  own:wr.ownsRow B 5 1 v E.length (cellsOf E)
  lt:b<w.heap.size∧w.heap.size≤B∧B≤wr.heap.size
theorem BSt.app {w wr w':World} {b B:Nat} {V:Ws} {E:List Nat} {v v':Value} {O:Obj} {y:Nat} (h:BSt w wr b B V E v)
    (hown:w'.ownsRow B 5 1 v' (E.length+1) (cellsOf E++[.int .u8 (y:Int)])) (hg:(wr.alloc O).grownBy w' v.ownBlock):BSt w w' b B V (E++[y]) v':=by
  obtain ⟨l1,l2,l3⟩:=h.lt
  obtain ⟨N,hN,ho⟩:∃ N:List Nat,(∀ k∈N,B≤k)∧Only N wr w':=by
    cases hv:v.ownBlock with
    | none=>exact ⟨[],by simp,((Only.refl [] wr).alloc O).grown hg (fun k e=>by rw [hv] at e;cases e)⟩
    | some k=>exact ⟨[k],by have:=(h.own.lt k hv).1;simp;omega,((Only.refl [k] wr).alloc O).grown hg (fun j e=>by rw [hv] at e;cases e;simp)⟩
  refine ⟨h.ws.over ho (fun k hk=>by have:=hN k hk;omega),?_,?_,l1,l2,Nat.le_trans l3 ho.2.2.2.1⟩
  · have hs:=h.only.2.2.2.1
    refine ⟨ho.1.trans h.only.1,ho.2.1.trans h.only.2.1,ho.2.2.1.trans h.only.2.2.1,Nat.le_trans hs ho.2.2.2.1,fun k hk hm=>?_⟩
    rw [ho.2.2.2.2 k (by omega) (fun hm2=>by have:=hN k hm2;omega)]
    exact h.only.2.2.2.2 k hk hm
  · rw [List.length_append]
    have e:cellsOf (E++[y])=cellsOf E++[.int .u8 (y:Int)]:=by simp [cellsOf]
    rw [e]
    exact hown
set_option maxRecDepth 100000 in
set_option maxHeartbeats 2000000 in
theorem bytes_even (b:Nat) (W:Ws) (w:World) (h:WAt w b W) (h2:W.next.1.length%2=0) :
    Calls Tryz.prog 90 #[.pointer (some ⟨b,0,none⟩)] w fun e w'=>∃ v,e=.returned v∧w'.ownsRow w.heap.size 5 1 v W.bytes.1.length (cellsOf W.bytes.1)∧WAt w' b W.bytes.2∧Only [b] w w':=by
  have C:=hidden (next_calls b W w h)
  have hz:=next_sz h
  have e1:W.bytes=hexW (unhex W.next.1) W.next.2:=by
    unfold Ws.bytes hexW
    rw [if_neg (by omega)]
    cases unhex W.next.1<;>rfl
  rw [e1]
  have HLT:=hidden h.lt
  obtain ⟨XW,hXW⟩:∃ X,W.next=X:=⟨_,rfl⟩
  rw [hXW] at C h2 hz ⊢
  obtain ⟨x,V⟩:=XW
  simp only at C h2 hz ⊢
  clear h e1 hXW
  obtain ⟨i0,hii,hz0,hz1,hz2⟩:=info_parts info5
  obtain ⟨n,hn⟩:∃ n,x.length=n:=⟨_,rfl⟩
  have hbz:(bs x).size=n:=by rw [bs_size];exact hn
  rw [hn] at h2 hz
  have HNN:=hidden hn
  have d0:(n:Int)%2=0:=by omega
  have d1:((n:Int).tmod 2)=0:=by rw [Int.tmod_eq_emod_of_nonneg (by omega)];omega
  clear hn
  go_enter Tryz.func90,Tryz.ntmps90
  go_wp2_with fail
  refine C.out.mono ?_
  rintro e w1 ⟨rfl,h1,h3⟩
  have H0:Hid (BSt w w1 b w1.heap.size V [] (.slice none 0 0)):=hidden ⟨h1,h3,World.ownsRow_nil _ _ _ _,HLT.out,h3.2.2.2.1,Nat.le_refl _⟩
  clear h1 h3
  go_wp2_with fail
  go_loopg [3,4] n (fun g u y wr=>∃ (R:List UInt8) (E:List Nat) (v:Value),R.length=g∧g%2=0∧g≤n∧u=.string (bs R)∧v=y∧Hid (BSt w wr b w1.heap.size V E v)∧Hid (unhex x=(unhex R).map (E++·))∧Hid (E.length≤3000 - g))
  case atStart=>exact ⟨x,[],_,HNN.out,h2,Nat.le_refl _,rfl,rfl,H0,by show _=_;cases unhex x<;>simp,by show 0≤3000 - n;omega⟩
  case round=>
    obtain ⟨R,E,v,hR,hg2,hgn,rfl,rfl,HS,HT,HE⟩:=hrel
    by_cases hi:0<gk
    · obtain ⟨p,q,r,rfl⟩:=two_parts (L:=R) (by omega)
      have HR:=hidden hR
      have hne:=str_ne (x:=p::q::r) (by simp)
      have hsz:(bs (p::q::r)).size=gk:=by rw [bs_size];exact hR
      have I1:=hidden (fun W=>index_calls p W)
      have I2:=hidden (fun W=>index_calls q W)
      have hp:=index_lt p
      have hq:=index_lt q
      have hE:E.length≤3000 - gk:=HE.out
      have e0:∀ W,(Instr.index 9 (.string (bs (p::q::r))) (.int .i64 0)).run Tryz.prog W=.ok (.int .u8 (p.toNat:Int)) W:=fun W=>idx_str (p::q::r) 0 (by simp) W
      have e1:∀ W,(Instr.index 9 (.string (bs (p::q::r))) (.int .i64 1)).run Tryz.prog W=.ok (.int .u8 (q.toNat:Int)) W:=fun W=>idx_str (p::q::r) 1 (by simp) W
      have e2:∀ W,(Instr.slice 9 (.string (bs (p::q::r))) (some (.int .i64 2)) none none).run Tryz.prog W=.ok (.string (bs r)) W:=fun W=>cut_str (p::q::r) 2 (by simp) W
      clear hR
      obtain ⟨hx,hhx⟩:∃ y,Lib.indexByte hexs p=y:=⟨_,rfl⟩
      obtain ⟨hy,hhy⟩:∃ y,Lib.indexByte hexs q=y:=⟨_,rfl⟩
      rw [hhx] at I1 hp
      rw [hhy] at I2 hq
      have hu:unhex (p::q::r)=if hx<0∨hy<0 then none else (unhex r).map ((hx*16+hy).toNat::·):=by rw [unhex,hhx,hhy]
      by_cases k1:hx<0
      · have d1:decide (hx<0)=true:=by simpa using k1
        rw [if_pos (.inl k1)] at hu
        have HU:=hidden hu
        clear hu hhx hhy k1 hE
        go_wp2_with fail
        refine (I1.out _).mono ?_
        rintro e w2 ⟨rfl,hw2⟩
        rw [hw2]
        go_wp2_with fail
        refine (I2.out _).mono ?_
        rintro e w3 ⟨rfl,hw3⟩
        rw [hw3]
        obtain ⟨a2,cap2,hb1,-⟩:=HS.out.ws.ex
        obtain ⟨-,c1⟩:=cells2 hb1
        have f1:=free2 hb1 1
        clear hw2 hw3 hb1
        go_wp2_with fail
        go_ret
        have h5:=HT.out
        rw [HU.out] at h5
        have h6:unhex x=none:=h5
        rw [h6]
        exact ⟨_,rfl,World.ownsRow_nil _ _ _ _,HS.out.ws.ill,HS.out.only.setCell (by simp) _⟩
      · have d1:decide (hx<0)=false:=by simpa using k1
        by_cases k2:hy<0
        · have d2:decide (hy<0)=true:=by simpa using k2
          rw [if_pos (.inr k2)] at hu
          have HU:=hidden hu
          clear hu hhx hhy k1 k2 hE
          go_wp2_with fail
          refine (I1.out _).mono ?_
          rintro e w2 ⟨rfl,hw2⟩
          rw [hw2]
          go_wp2_with fail
          refine (I2.out _).mono ?_
          rintro e w3 ⟨rfl,hw3⟩
          rw [hw3]
          obtain ⟨a2,cap2,hb1,-⟩:=HS.out.ws.ex
          obtain ⟨-,c1⟩:=cells2 hb1
          have f1:=free2 hb1 1
          clear hw2 hw3 hb1
          go_wp2_with fail
          go_ret
          have h5:=HT.out
          rw [HU.out] at h5
          have h6:unhex x=none:=h5
          rw [h6]
          exact ⟨_,rfl,World.ownsRow_nil _ _ _ _,HS.out.ws.ill,HS.out.only.setCell (by simp) _⟩
        · have d2:decide (hy<0)=false:=by simpa using k2
          rw [if_neg (by rintro (k | k);exact k1 k;exact k2 k)] at hu
          have HU:=hidden hu
          obtain ⟨ix,rfl⟩:∃ n:Nat,hx=n:=⟨hx.toNat,by omega⟩
          obtain ⟨iy,rfl⟩:∃ n:Nat,hy=n:=⟨hy.toNat,by omega⟩
          clear hu hhx hhy k1 k2
          go_wp2_with fail
          refine (I1.out _).mono ?_
          rintro e w2 ⟨rfl,hw2⟩
          rw [hw2]
          go_wp2_with fail
          refine (I2.out _).mono ?_
          rintro e w3 ⟨rfl,hw3⟩
          rw [hw3]
          clear hw2 hw3
          obtain ⟨y,hy⟩:∃ y,ix*16+iy=y:=⟨_,rfl⟩
          have hor:bits BinOp.or IntKind.i64 ((ix:Int)*16) (iy:Int)=(y:Int):=by
            rw [← hy]
            exact or_nib ⟨ix,by omega⟩ ⟨iy,by omega⟩
          have hmod:(y:Int)%256=(y:Int):=by omega
          have HY:Hid (((ix:Int)*16+(iy:Int)).toNat=y):=hidden (by omega)
          have hbase:=HS.out.lt.2.2
          obtain ⟨m,hm⟩:∃ m,E.length=m:=⟨_,rfl⟩
          rw [hm] at hE
          have HM:=hidden hm
          have HOW:Hid (wr.ownsRow w1.heap.size 5 1 v m (cellsOf E)):=hidden (by rw [← hm];exact HS.out.own)
          clear hy hm
          go_wp2_with (at_builtin;refine wpList_append_own _ rfl _ _ 32 rfl w1.heap.size 5 i0 _ 1 1 Tryz.underlying32 hii hz0 hz1 hz2 rfl (by decide) _ m (cellsOf E) rfl (HOW.out.alloc _) ⟨wr.heap.size,0,none⟩ 1 1 [.int .u8 (y:Int)] rfl rfl ?cc ?one ?b1 ?b2 ?b3 ?next)
          case cc=>exact Tree.lit1 _
          case one=>simp [Value.oneCell']
          case b1=>unfold maxLen;omega
          case b2=>omega
          case b3=>simp;omega
          case next=>
          intro v3 w4 hown hgrow _
          have HSn:Hid (BSt w w4 b w1.heap.size V (E++[y]) v3):=HS.out.app (by rw [HM.out];exact hown) hgrow
          have HTn:Hid (unhex x=(unhex r).map ((E++[y])++·)):=by
            have h5:=HT.out
            rw [HU.out,HY.out] at h5
            show _=_
            rw [h5,Option.map_map]
            congr 1
            funext z
            simp
          have hrl:r.length=gk - 2:=by have:=HR.out;simp at this;omega
          have hEn:(E++[y]).length≤3000 - (gk - 2):=by rw [List.length_append,HM.out];simp only [List.length_cons,List.length_nil];omega
          clear hown hgrow hbase
          go_wp2_with fail
          go_roundg (gk - 2)
          case measure=>omega
          case rel=>exact ⟨r,_,_,hrl,by omega,by omega,rfl,rfl,HSn,HTn,hEn⟩
    · obtain rfl:gk=0:=by omega
      obtain rfl:=List.eq_nil_of_length_eq_zero hR
      have hx0:(bs []).toList.isEmpty=true:=by rw [bs_toList];rfl
      go_wp2_with fail
      go_ret
      have h5:unhex x=some E:=by have:=HT.out;simpa [unhex] using this
      rw [h5]
      exact ⟨_,rfl,Tree.own_base HS.out.own HS.out.lt.2.1,HS.out.ws,HS.out.only⟩
theorem bytes_odd (b:Nat) (W:Ws) (w:World) (h:WAt w b W) (h2:W.next.1.length%2≠0) :
    Calls Tryz.prog 90 #[.pointer (some ⟨b,0,none⟩)] w fun e w'=>∃ v,e=.returned v∧w'.ownsRow w.heap.size 5 1 v W.bytes.1.length (cellsOf W.bytes.1)∧WAt w' b W.bytes.2∧Only [b] w w':=by
  have C:=hidden (next_calls b W w h)
  have hz:=next_sz h
  have e1:W.bytes=([],W.next.2.ill):=by unfold Ws.bytes;rw [if_pos h2]
  rw [e1]
  obtain ⟨XW,hXW⟩:∃ X,W.next=X:=⟨_,rfl⟩
  rw [hXW] at C h2 hz ⊢
  obtain ⟨x,V⟩:=XW
  simp only at C h2 hz ⊢
  clear h e1 hXW
  obtain ⟨n,hn⟩:∃ n,x.length=n:=⟨_,rfl⟩
  have hbz:(bs x).size=n:=by rw [bs_size];exact hn
  rw [hn] at h2 hz
  have d1:((n:Int).tmod 2)=1:=by rw [Int.tmod_eq_emod_of_nonneg (by omega)];omega
  have d2:(n:Int)%2=1:=by omega
  clear hn h2
  go_enter Tryz.func90,Tryz.ntmps90
  go_wp2_with fail
  refine C.out.mono ?_
  rintro e w1 ⟨rfl,h1,h3⟩
  obtain ⟨a2,cap2,hb1,-⟩:=h1.ex
  obtain ⟨-,c1⟩:=cells2 hb1
  have f1:=free2 hb1 1
  have H1:=hidden h1
  have HO:=hidden h3
  clear h1 h3 hb1
  go_wp2_with fail
  go_ret
  exact ⟨_,rfl,World.ownsRow_nil _ _ _ _,H1.out.ill,HO.out.setCell (by simp) _⟩
theorem bytes_calls (b:Nat) (W:Ws) (w:World) (h:WAt w b W) :
    Calls Tryz.prog 90 #[.pointer (some ⟨b,0,none⟩)] w fun e w'=>∃ v,e=.returned v∧w'.ownsRow w.heap.size 5 1 v W.bytes.1.length (cellsOf W.bytes.1)∧WAt w' b W.bytes.2∧Only [b] w w':=by
  by_cases h2:W.next.1.length%2=0
  · exact bytes_even b W w h h2
  · exact bytes_odd b W w h h2
end Go.Proofs.YtbadpjgiogghdaaGreatDoor.Run

