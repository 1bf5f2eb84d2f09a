/-
  The reference's bytes: digits by twos as bytes.
-/
import Derived.Test.YtlppdppddiecnaaGreatDoorRunRdP
import Derived.Test.YtlppdppddiecnaaGreatDoorLinesAll
namespace Go.Proofs.YtlppdppddiecnaaGreatDoor.Run
open Go.ChangeShapes Go.WideShapes Go.ChangeAt Go.RowKit Go.Proofs.YtlppdppddiecnaaGreatDoor.Mem Go.Proofs.YtlppdppddiecnaaGreatDoor.RN Go.Proofs.YtlppdppddiecnaaGreatDoor.RC
set_option linter.unusedVariables false
def dgt (c:UInt8):Nat:=if 48≤c.toNat∧c.toNat≤57 then c.toNat - 48 else if 97≤c.toNat∧c.toNat≤102 then c.toNat - 87 else 16
theorem dgt_all:∀ i:Fin 256,Lib.indexByte hexs (UInt8.ofNat i.val)=if dgt (UInt8.ofNat i.val)<16 then (dgt (UInt8.ofNat i.val):Int) else -1:=by decide +kernel
theorem dgt_index (c:UInt8):Lib.indexByte hexs c=if dgt c<16 then (dgt c:Int) else -1:=by
  have h:=dgt_all ⟨c.toNat,UInt8.toNat_lt c⟩
  simp only [UInt8.ofNat_toNat] at h
  exact h
theorem dgt_le (c:UInt8):dgt c≤16:=by
  unfold dgt
  split
  · omega
  · split<;>omega
def pre:List UInt8→List Nat
  | a::b::r=>(dgt a*16+dgt b)::pre r
  | [a]=>[dgt a*16]
  | []=>[]
theorem pre_even:∀ (n:Nat) (l:List UInt8) (c:UInt8),l.length≤n→l.length%2=0→pre (l++[c])=pre l++[dgt c*16]
  | _,[],c,_,_=>rfl
  | _,[a],c,_,h=>by simp at h
  | 0,a::b::r,c,h,_=>by simp at h
  | n+1,a::b::r,c,h,he=>by
    have:=pre_even n r c (by simp at h;omega) (by simp at he;omega)
    simp only [List.cons_append,pre,this]
theorem pre_odd:∀ (n:Nat) (l:List UInt8) (c:UInt8),l.length≤n→l.length%2=1→∃ K d,pre l=K++[d*16]∧pre (l++[c])=K++[d*16+dgt c]∧d≤16∧K.length=l.length / 2∧∃ x∈l,d=dgt x
  | _,[],c,_,h=>by simp at h
  | _,[a],c,_,_=>⟨[],dgt a,rfl,rfl,dgt_le a,by simp,a,by simp,rfl⟩
  | 0,a::b::r,c,h,_=>by simp at h
  | n+1,a::b::r,c,h,he=>by
    obtain ⟨K,d,h1,h2,h3,h4,x,h5,h6⟩:=pre_odd n r c (by simp at h;omega) (by simp at he;omega)
    refine ⟨(dgt a*16+dgt b)::K,d,?_,?_,h3,?_,x,by simp [h5],h6⟩
    · simp only [pre,h1,List.cons_append]
    · simp only [List.cons_append,pre,h2]
    · simp only [List.length_cons,h4]
      omega
theorem pre_len:∀ (n:Nat) (l:List UInt8),l.length≤n→(pre l).length=(l.length+1) / 2
  | _,[],_=>rfl
  | _,[a],_=>by simp [pre]
  | 0,a::b::r,h=>by simp at h
  | n+1,a::b::r,h=>by
    have:=pre_len n r (by simp at h;omega)
    simp only [pre,List.length_cons,this]
    omega
theorem unhex_pre:∀ (n:Nat) (l:List UInt8),l.length≤n→l.length%2=0→(∀ c∈l,dgt c<16)→unhex l=some (pre l)
  | _,[],_,_,_=>rfl
  | _,[a],_,h,_=>by simp at h
  | 0,a::b::r,h,_,_=>by simp at h
  | n+1,a::b::r,h,he,hd=>by
    have ih:=unhex_pre n r (by simp at h;omega) (by simp at he;omega) (fun c hc=>hd c (by simp [hc]))
    have ha:=hd a (by simp)
    have hb:=hd b (by simp)
    have e1:=dgt_index a
    have e2:=dgt_index b
    rw [if_pos ha] at e1
    rw [if_pos hb] at e2
    rw [unhex,if_neg (by omega),ih,e1,e2]
    simp only [Option.map_some,pre]
    congr 2
theorem unhex_bad:∀ (n:Nat) (l:List UInt8) (c:UInt8),l.length≤n→l.length%2=0→c∈l→¬ dgt c<16→unhex l=none
  | _,[],c,_,_,hc,_=>by cases hc
  | _,[a],c,_,h,_,_=>by simp at h
  | 0,a::b::r,c,h,_,_,_=>by simp at h
  | n+1,a::b::r,c,h,he,hc,hd=>by
    have e1:=dgt_index a
    have e2:=dgt_index b
    rw [unhex]
    rcases List.mem_cons.1 hc with rfl | hc
    · rw [if_neg hd] at e1
      rw [if_pos (.inl (by omega))]
    · rcases List.mem_cons.1 hc with rfl | hc
      · rw [if_neg hd] at e2
        rw [if_pos (.inr (by omega))]
      · have ih:=unhex_bad n r c (by simp at h;omega) (by simp at he;omega) hc hd
        rw [ih]
        split<;>rfl
def BytesO (w:World) (o:Option (List Nat)) (e:Ending) (w':World):Prop:=
  Below w.heap.size w w'∧match o with
  | none=>e=.returned (.tuple #[.slice none 0 0,.bool false])
  | some L=>∃ v,e=.returned (.tuple #[v,.bool true])∧w'.ownsRow w.heap.size 5 1 v L.length (cellsOf L)
theorem info5D:(Tryz.prog.info? 5).map (fun i=>(i.zero,i.size,i.bytes))=some (some (.int .u8 0),1,1):=by kernel_rfl
theorem take_last (l:List UInt8) {i:Nat} (h:i<l.length):l.take (i+1)=l.take i++[l.getD i 0]:=snoc9 l h
set_option maxRecDepth 100000 in
set_option maxHeartbeats 1000000 in
theorem rbytes_odd (l:List UInt8) (ho:l.length%2=1) (hl:l.length≤3000) (w:World):Calls Tryz.prog 25 #[.string (bs l)] w fun e w'=>BytesO w (bytesR l) e w':=by
  have hR:bytesR l=none:=if_pos (by omega)
  obtain ⟨n,hn⟩:∃ n,l.length=n:=⟨_,rfl⟩
  have hsz:(bs l).size=n:=by rw [bs_size,hn]
  rw [hn] at ho hl
  have hm:(n:Int).tmod 2=1:=by rw [Int.tmod_eq_emod_of_nonneg (by omega)];omega
  have HX:BytesO w (bytesR l) (.returned (.tuple #[.slice none 0 0,.bool false])) w:=by rw [hR];exact ⟨Below.refl _ _,rfl⟩
  clear hR hn
  go_enter Tryz.func25,Tryz.ntmps25
  go_wp2_with fail
  go_ret2
  exact HX
theorem own_setB {w wr:World} {g cap q z:Nat} {K:List Nat} (hb:Below w.heap.size w wr) (h:wr.ownsRow w.heap.size 5 1 (.slice (some ⟨g,0,none⟩) (K.length+1) cap) (K++[q]).length (cellsOf (K++[q]))) :
    (wr.cell? ⟨g,K.length,none⟩=some (.int .u8 (q:Int))∧wr.frozen? ⟨g,K.length,none⟩=false)∧Below w.heap.size w (wr.setCell ⟨g,K.length,none⟩ (.int .u8 (z:Int)))∧(wr.setCell ⟨g,K.length,none⟩ (.int .u8 (z:Int))).ownsRow w.heap.size 5 1 (.slice (some ⟨g,0,none⟩) (K.length+1) cap) (K++[z]).length (cellsOf (K++[z])):=by
  have hl:(K++[q]).length=K.length+1:=by simp
  rw [hl] at h
  refine ⟨⟨?_,h.frozenAt _⟩,hb.setCell (h.lt g rfl).1 _,?_⟩
  · rw [h.cellAt K.length (by omega),cellsOf_get _ _ (by rw [hl];omega)]
    congr 2
    rw [List.getD_eq_getElem?_getD,List.getElem?_append_right (Nat.le_refl _),Nat.sub_self]
    rfl
  · obtain ⟨h1,_⟩:=h.stored K.length (.int .u8 (z:Int))
    have e:cellsOf (K++[z])=(cellsOf (K++[q])).set K.length (.int .u8 (z:Int)):=by
      rw [cellsOf_app,cellsOf_app,List.set_append_right _ _ (by rw [cellsOf_len];omega),cellsOf_len,Nat.sub_self]
      rfl
    have hl2:(K++[z]).length=K.length+1:=by simp
    rw [e,hl2]
    exact h1
set_option maxRecDepth 100000 in
set_option maxHeartbeats 400000 in
theorem rbytes_even (l:List UInt8) (ho:l.length%2=0) (hl:l.length≤3000) (w:World):Calls Tryz.prog 25 #[.string (bs l)] w fun e w'=>BytesO w (bytesR l) e w':=by
  obtain ⟨i0,hii,hz0,hz1,hz2⟩:=info_parts info5D
  have hR:bytesR l=unhex l:=if_neg (by omega)
  rw [hR]
  have HBAD:=hidden (fun c hc hd=>unhex_bad l.length l c (Nat.le_refl _) ho hc hd)
  have HALL:=hidden (fun hd=>unhex_pre l.length l (Nat.le_refl _) ho hd)
  obtain ⟨ov,hov⟩:∃ ov,unhex l=ov:=⟨_,rfl⟩
  rw [hov] at HBAD HALL ⊢
  obtain ⟨n,hn⟩:∃ n,l.length=n:=⟨_,rfl⟩
  have hsz:(bs l).size=n:=by rw [bs_size,hn]
  have HN:=hidden hn
  rw [hn] at ho hl
  have hm:(n:Int).tmod 2=0:=by rw [Int.tmod_eq_emod_of_nonneg (by omega)];omega
  have HL:=hidden hl
  have H0:Hid (Below w.heap.size w w∧w.ownsRow w.heap.size 5 1 (.slice none 0 0) (pre (l.take 0)).length (cellsOf (pre (l.take 0)))):=hidden ⟨Below.refl _ _,World.ownsRow_nil _ _ _ _⟩
  clear hR hov hn ho
  go_enter Tryz.func25,Tryz.ntmps25
  go_wp2_with fail
  go_loopg [4,5] n (fun g u y wr=>∃ (i:Nat) (v:Value),i+g=n∧v=u∧y=.int .i64 (i:Int)∧Hid (∀ c∈l.take i,dgt c<16)∧Hid (Below w.heap.size w wr∧wr.ownsRow w.heap.size 5 1 v (pre (l.take i)).length (cellsOf (pre (l.take i)))))
  case atStart=>exact ⟨0,_,by omega,rfl,rfl,hidden (by simp),H0⟩
  case round=>
    obtain ⟨i,v,hig,rfl,rfl,HD,HS⟩:=hrel
    clear H0
    have hbs:=HS.out.1.size
    by_cases hi:i<n
    case neg=>
      have hiz:¬ (i:Int)<(n:Int):=by omega
      have he:l.take i=l:=List.take_of_length_le (by have:=HN.out;omega)
      have HF:Hid (BytesO w ov (.returned (.tuple #[v,.bool true])) wr):=hidden ⟨HS.out.1,by
        have h1:=HD.out
        have h2:=HS.out.2
        rw [he] at h1 h2
        rw [HALL.out h1]
        exact ⟨v,rfl,h2⟩⟩
      go_wp2_with fail
      go_ret2
      exact HF.out
    case pos=>
    have hiz:(i:Int)<(n:Int):=by omega
    have hiL:i<l.length:=by have:=HN.out;omega
    have ix:∀ W,(Instr.index 9 (.string (bs l)) (.int .i64 (i:Int))).run Tryz.prog W=.ok (.int .u8 ((l.getD i 0).toNat:Int)) W:=fun W=>idx_str l i hiL W
    have htk:=take_last l hiL
    have hmem:l.getD i 0∈l:=by rw [List.getD_eq_getElem?_getD,List.getElem?_eq_getElem hiL];exact List.getElem_mem hiL
    have hlen:(l.take i).length=i:=by rw [List.length_take];omega
    have hdg:dgt (l.getD i 0)=if 48≤(l.getD i 0).toNat∧(l.getD i 0).toNat≤57 then (l.getD i 0).toNat - 48 else if 97≤(l.getD i 0).toNat∧(l.getD i 0).toNat≤102 then (l.getD i 0).toNat - 87 else 16:=rfl
    have hlt:=UInt8.toNat_lt (l.getD i 0)
    obtain ⟨c,hc⟩:∃ c,l.getD i 0=c:=⟨_,rfl⟩
    rw [hc] at ix htk hmem hdg hlt
    obtain ⟨x,hx⟩:∃ x,c.toNat=x:=⟨_,rfl⟩
    rw [hx] at ix hdg hlt
    have hx8:x<256:=hlt
    obtain ⟨d,hd⟩:∃ d,dgt c=d:=⟨_,rfl⟩
    rw [hd] at hdg
    have HDG:=hidden hd
    have HTK:=hidden htk
    have HLEN:=hidden hlen
    have HMEM:=hidden hmem
    clear hc hx hlt hd htk hlen hmem hiL
    by_cases hbad:d=16
    · -- none
      have HF:Hid (BytesO w ov (.returned (.tuple #[.slice none 0 0,.bool false])) wr):=hidden ⟨HS.out.1,by rw [HBAD.out c HMEM.out (by rw [HDG.out];omega)]⟩
      have hr:x<48∨(48≤x∧57<x∧x<97)∨(48≤x∧57<x∧97≤x∧102<x):=by
        split at hdg
        · omega
        · split at hdg
          · omega
          · omega
      clear hdg hbad
      rcases hr with h1 | ⟨h1,h2,h3⟩ | ⟨h1,h2,h3,h4⟩
      · have e1:decide ((48:Int)≤(x:Int))=false:=by simp;omega
        have e3:decide ((97:Int)≤(x:Int))=false:=by simp;omega
        go_wp2_with fail
        go_ret2
        exact HF.out
      · have e1:decide ((48:Int)≤(x:Int))=true:=by simp;omega
        have e2:decide ((x:Int)≤57)=false:=by simp;omega
        have e3:decide ((97:Int)≤(x:Int))=false:=by simp;omega
        go_wp2_with fail
        go_ret2
        exact HF.out
      · have e1:decide ((48:Int)≤(x:Int))=true:=by simp;omega
        have e2:decide ((x:Int)≤57)=false:=by simp;omega
        have e3:decide ((97:Int)≤(x:Int))=true:=by simp;omega
        have e4:decide ((x:Int)≤102)=false:=by simp;omega
        go_wp2_with fail
        go_ret2
        exact HF.out
    · have hd16:d<16∧((48≤x∧x≤57∧x=d+48)∨(48≤x∧57<x∧97≤x∧x≤102∧x=d+87)):=by
        split at hdg
        · omega
        · split at hdg
          · omega
          · omega
      obtain ⟨hd16,hr⟩:=hd16
      have HDn:Hid (∀ y∈l.take (i+1),dgt y<16):=hidden (by
        rw [HTK.out]
        intro y hy
        rcases List.mem_append.1 hy with hy | hy
        · exact HD.out y hy
        · rw [List.mem_singleton.1 hy,HDG.out];exact hd16)
      have hdn:decide ((d:Int)<0)=false:=by simp
      have hp:(i:Int).tmod 2=((i%2:Nat):Int):=by rw [Int.tmod_eq_emod_of_nonneg (by omega)];rfl
      have HPP:=hidden hp
      obtain ⟨p,hpp⟩:∃ p,i%2=p:=⟨_,rfl⟩
      rw [hpp] at HPP
      have HP:=hidden hpp
      clear hdg hbad hp hpp
      rcases hr with ⟨h1,h2,h3⟩ | ⟨h1,h2,h3,h4,h5⟩
      · have e1:decide ((48:Int)≤(x:Int))=true:=by simp;omega
        have e2:decide ((x:Int)≤57)=true:=by simp;omega
        have e3:decide ((97:Int)≤(x:Int))=false:=by simp;omega
        have e5:decide ((x:Int) - 48<0)=false:=by simp;omega
        have HSb:=hidden (show (x:Int) - 48=(d:Int) by omega)
        clear h1 h2 h3
        go_upto_region 14 with fail
        rw [HSb.out]
        clear e1 e2 e3 e5
        by_cases hp0:p=0
        · have hp:(i:Int).tmod 2=0:=by rw [HPP.out,hp0];rfl
          have HNX:Hid (pre (l.take (i+1))=pre (l.take i)++[d*16]):=hidden (by rw [HTK.out,pre_even i (l.take i) c (by rw [HLEN.out];omega) (by rw [HLEN.out];have:=HP.out;omega),HDG.out])
          have HLQ:=hidden (pre_len i (l.take i) (by rw [HLEN.out];omega))
          clear hp0
          obtain ⟨L,hL⟩:∃ L,pre (l.take i)=L:=⟨_,rfl⟩
          rw [hL] at HNX HLQ HS
          have hLl:L.length≤3000:=by have:=HLQ.out;rw [HLEN.out] at this;have:=HL.out;omega
          clear hL
          go_loud (go_wp2_with (at_builtin;refine wpList_append_own _ rfl _ _ 31 rfl w.heap.size 5 i0 _ 1 1 Tryz.underlying31 hii hz0 hz1 hz2 rfl (by decide) _ L.length (cellsOf L) rfl (HS.out.2.alloc _) ⟨wr.heap.size,0,none⟩ 1 1 [.int .u8 ((d:Int)*16)] rfl rfl ?cc ?one ?b1 ?b2 ?b3 ?next))
          case cc=>exact Tree.lit1 _
          case one=>simp [Value.oneCell']
          case b1=>unfold maxLen;omega
          case b2=>omega
          case b3=>simp;omega
          case next=>
          intro v3 w4 hown hgrow _
          have HSn:Hid (Below w.heap.size w w4∧w4.ownsRow w.heap.size 5 1 v3 (pre (l.take (i+1))).length (cellsOf (pre (l.take (i+1))))):=hidden ⟨((HS.out.1.alloc hbs _).grown hgrow (by simp;omega) (fun k hk=>own_loR HS.out.2 hk)),by rw [HNX.out,cellsOf_app,List.length_append];exact hown⟩
          clear hown hgrow hbs
          go_wp2_with fail
          go_roundg (n - (i+1))
          case measure=>omega
          case rel=>exact ⟨i+1,v3,by omega,rfl,by go_num,HDn,HSn⟩
        · have hp:(i:Int).tmod 2=1:=by rw [HPP.out];have:=HP.out;omega
          obtain ⟨K,d0,k1,k2,k3,k4,xx,k5,k6⟩:=pre_odd i (l.take i) c (by rw [HLEN.out];omega) (by rw [HLEN.out];have:=HP.out;omega)
          have hd0:d0<16:=by rw [k6];exact HD.out xx k5
          have HNX:Hid (pre (l.take (i+1))=K++[d0*16+d]):=hidden (by rw [HTK.out,k2,HDG.out])
          rw [k1] at HS
          have hK:K.length≤3000:=by have:=HL.out;rw [HLEN.out] at k4;omega
          clear k1 k2 k3 k4 k5 k6 hp0
          obtain ⟨q,hq⟩:∃ q,d0*16=q:=⟨_,rfl⟩
          rw [hq] at HS HNX
          have hq2:q≤240:=by omega
          clear hq
          obtain ⟨g,cap,rfl⟩:∃ g cap,v=.slice (some ⟨g,0,none⟩) (K.length+1) cap:=by
            have hl:(K++[q]).length=K.length+1:=by simp
            rcases HS.out.2.2 with ⟨_,h0⟩ | ⟨g,cap,cur,e,_⟩
            · rw [hl] at h0;omega
            · exact ⟨g,cap,by rw [e,hl]⟩
          obtain ⟨⟨c0,f0⟩,hb2,ho2⟩:=own_setB (z:=q+d) HS.out.1 HS.out.2
          have HSn:Hid (Below w.heap.size w (wr.setCell ⟨g,K.length,none⟩ (.int .u8 ((q:Int)+(d:Int))))∧(wr.setCell ⟨g,K.length,none⟩ (.int .u8 ((q:Int)+(d:Int)))).ownsRow w.heap.size 5 1 (.slice (some ⟨g,0,none⟩) (K.length+1) cap) (pre (l.take (i+1))).length (cellsOf (pre (l.take (i+1))))):=hidden (by
            rw [HNX.out]
            rw [Int.natCast_add] at hb2 ho2
            exact ⟨hb2,ho2⟩)
          clear hb2 ho2
          obtain ⟨m,hmK⟩:∃ m,K.length=m:=⟨_,rfl⟩
          rw [hmK] at c0 f0 HSn hK ⊢
          clear hmK
          go_wp2_with fail
          go_roundg (n - (i+1))
          case measure=>omega
          case rel=>exact ⟨i+1,_,by omega,rfl,by go_num,HDn,HSn⟩
      · have e1:decide ((48:Int)≤(x:Int))=true:=by simp;omega
        have e2:decide ((x:Int)≤57)=false:=by simp;omega
        have e3:decide ((97:Int)≤(x:Int))=true:=by simp;omega
        have e4:decide ((x:Int)≤102)=true:=by simp;omega
        have e5:decide ((x:Int) - 87<0)=false:=by simp;omega
        have HSb:=hidden (show (x:Int) - 87=(d:Int) by omega)
        clear h1 h2 h3 h4 h5
        go_upto_region 14 with fail
        rw [HSb.out]
        clear e1 e2 e3 e4 e5
        by_cases hp0:p=0
        · have hp:(i:Int).tmod 2=0:=by rw [HPP.out,hp0];rfl
          have HNX:Hid (pre (l.take (i+1))=pre (l.take i)++[d*16]):=hidden (by rw [HTK.out,pre_even i (l.take i) c (by rw [HLEN.out];omega) (by rw [HLEN.out];have:=HP.out;omega),HDG.out])
          have HLQ:=hidden (pre_len i (l.take i) (by rw [HLEN.out];omega))
          clear hp0
          obtain ⟨L,hL⟩:∃ L,pre (l.take i)=L:=⟨_,rfl⟩
          rw [hL] at HNX HLQ HS
          have hLl:L.length≤3000:=by have:=HLQ.out;rw [HLEN.out] at this;have:=HL.out;omega
          clear hL
          go_loud (go_wp2_with (at_builtin;refine wpList_append_own _ rfl _ _ 31 rfl w.heap.size 5 i0 _ 1 1 Tryz.underlying31 hii hz0 hz1 hz2 rfl (by decide) _ L.length (cellsOf L) rfl (HS.out.2.alloc _) ⟨wr.heap.size,0,none⟩ 1 1 [.int .u8 ((d:Int)*16)] rfl rfl ?cc ?one ?b1 ?b2 ?b3 ?next))
          case cc=>exact Tree.lit1 _
          case one=>simp [Value.oneCell']
          case b1=>unfold maxLen;omega
          case b2=>omega
          case b3=>simp;omega
          case next=>
          intro v3 w4 hown hgrow _
          have HSn:Hid (Below w.heap.size w w4∧w4.ownsRow w.heap.size 5 1 v3 (pre (l.take (i+1))).length (cellsOf (pre (l.take (i+1))))):=hidden ⟨((HS.out.1.alloc hbs _).grown hgrow (by simp;omega) (fun k hk=>own_loR HS.out.2 hk)),by rw [HNX.out,cellsOf_app,List.length_append];exact hown⟩
          clear hown hgrow hbs
          go_wp2_with fail
          go_roundg (n - (i+1))
          case measure=>omega
          case rel=>exact ⟨i+1,v3,by omega,rfl,by go_num,HDn,HSn⟩
        · have hp:(i:Int).tmod 2=1:=by rw [HPP.out];have:=HP.out;omega
          obtain ⟨K,d0,k1,k2,k3,k4,xx,k5,k6⟩:=pre_odd i (l.take i) c (by rw [HLEN.out];omega) (by rw [HLEN.out];have:=HP.out;omega)
          have hd0:d0<16:=by rw [k6];exact HD.out xx k5
          have HNX:Hid (pre (l.take (i+1))=K++[d0*16+d]):=hidden (by rw [HTK.out,k2,HDG.out])
          rw [k1] at HS
          have hK:K.length≤3000:=by have:=HL.out;rw [HLEN.out] at k4;omega
          clear k1 k2 k3 k4 k5 k6 hp0
          obtain ⟨q,hq⟩:∃ q,d0*16=q:=⟨_,rfl⟩
          rw [hq] at HS HNX
          have hq2:q≤240:=by omega
          clear hq
          obtain ⟨g,cap,rfl⟩:∃ g cap,v=.slice (some ⟨g,0,none⟩) (K.length+1) cap:=by
            have hl:(K++[q]).length=K.length+1:=by simp
            rcases HS.out.2.2 with ⟨_,h0⟩ | ⟨g,cap,cur,e,_⟩
            · rw [hl] at h0;omega
            · exact ⟨g,cap,by rw [e,hl]⟩
          obtain ⟨⟨c0,f0⟩,hb2,ho2⟩:=own_setB (z:=q+d) HS.out.1 HS.out.2
          have HSn:Hid (Below w.heap.size w (wr.setCell ⟨g,K.length,none⟩ (.int .u8 ((q:Int)+(d:Int))))∧(wr.setCell ⟨g,K.length,none⟩ (.int .u8 ((q:Int)+(d:Int)))).ownsRow w.heap.size 5 1 (.slice (some ⟨g,0,none⟩) (K.length+1) cap) (pre (l.take (i+1))).length (cellsOf (pre (l.take (i+1))))):=hidden (by
            rw [HNX.out]
            rw [Int.natCast_add] at hb2 ho2
            exact ⟨hb2,ho2⟩)
          clear hb2 ho2
          obtain ⟨m,hmK⟩:∃ m,K.length=m:=⟨_,rfl⟩
          rw [hmK] at c0 f0 HSn hK ⊢
          clear hmK
          go_wp2_with fail
          go_roundg (n - (i+1))
          case measure=>omega
          case rel=>exact ⟨i+1,_,by omega,rfl,by go_num,HDn,HSn⟩
theorem rbytes_calls (l:List UInt8) (hl:l.length≤3000) (w:World):Calls Tryz.prog 25 #[.string (bs l)] w fun e w'=>BytesO w (bytesR l) e w':=by
  by_cases h:l.length%2=1
  · exact rbytes_odd l h hl w
  · exact rbytes_even l (by omega) hl w
end Go.Proofs.YtlppdppddiecnaaGreatDoor.Run

