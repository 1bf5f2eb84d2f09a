/-
  The library's Lines: what it hands to a loop's body, line by line, each with its end.
-/
import Derived.Test.YtbadpjgiogghdaaGreatDoorRunFP
import Derived.Test.YtbadpjgiogghdaaGreatDoorRunBP
import Derived.OwnWalkIn
import Derived.TacticsInMore
import Derived.LoopNIn
import Derived.LoopIn
import Derived.BigRegionIn
namespace Go.Proofs.YtbadpjgiogghdaaGreatDoor.Run
open Go.ChangeShapes Go.WideShapes Go.ChangeAt Go.RowKit Go.Proofs.YtbadpjgiogghdaaGreatDoor.Mem Go.Proofs.YtbadpjgiogghdaaGreatDoor.RN Go.Proofs.YtbadpjgiogghdaaGreatDoor.RC
set_option linter.unusedVariables false
attribute [local go_sem] Oper.semAt_some

def TBox (w:World) (b:Nat) (l:List UInt8):Prop:=w.heap[b]?=some (.cells #[.string (bs l)] 9 (0,0))
theorem TBox.cell {w:World} {b:Nat} {l:List UInt8} (h:TBox w b l):w.cell? ⟨b,0,none⟩=some (.string (bs l)):=by
  simp only [TBox] at h
  simp [World.cell?,h]
theorem TBox.free {w:World} {b:Nat} {l:List UInt8} (h:TBox w b l):w.frozen? ⟨b,0,none⟩=false:=by
  simp only [TBox] at h
  simp [World.frozen?,h]
theorem TBox.set {w:World} {b:Nat} {l:List UInt8} (h:TBox w b l) (k:List UInt8):TBox (w.setCell ⟨b,0,none⟩ (.string (bs k))) b k:=heap_setCell_same w b 0 _ _ _ h
theorem lines_calls (l:List UInt8) (w:World) :
    Calls Tryz.prog 16 #[.string (bs l)] w fun e w'=>e=.returned (.func (.func 48) #[] #[.pointer (some ⟨w.heap.size,0,none⟩)])∧w'=w.alloc (.cells #[.string (bs l)] 9):=by
  go_enter Tryz.func16,Tryz.ntmps16
  go_wp2_with fail
  go_ret
  exact ⟨rfl,rfl⟩
theorem indexNl_calls (l:List UInt8) (w:World):Calls Tryz.prog 49 #[.string (bs l),.int .u8 10] w fun e w'=>e=.returned (.int .i64 (Lib.indexByte l 10))∧w'=w:=by
  have h:=Tryz.strings_IndexByte (bs l) 10 w
  rw [bs_data] at h
  exact h
theorem cutTo_str (l:List UInt8) (i:Nat) (h:i≤l.length) (W:World):(Instr.slice 9 (.string (bs l)) none (some (.int .i64 (i:Int))) none).run Tryz.prog W=.ok (.string (bs (l.take i))) W:=by
  rw [run_slice_string_to_if W 9 (bs l) .i64 i (by kernel_rfl),if_pos ⟨by omega,by rw [bs_size];omega⟩]
  congr 2
  rw [← bs_of ((bs l).extract _ _),Lib.extract_from_zero,bs_data]
  rfl
def rawAt (text:List UInt8) (k:Nat):List UInt8:=(rawL text).getD k []
def tlen (b:Nat) (w:World):Nat:=match w.cell? ⟨b,0,none⟩ with
  | some (.string s)=>s.size
  | _=>0
theorem TBox.len {w:World} {b:Nat} {l:List UInt8} (h:TBox w b l):tlen b w=l.length:=by
  unfold tlen
  rw [h.cell]
  exact bs_size l
set_option maxRecDepth 100000 in
set_option maxHeartbeats 4000000 in
theorem lines_counts (n:Nat) (hn:1≤n) (B:Nat) (text:List UInt8) (ht:text.length≤3000) (W:World) (hB:TBox W B text) :
    Counts Fence.wide n Tryz.prog 48 #[.pointer (some ⟨B,0,none⟩)] (fun k=>#[.string (bs ((rawL text).getD k []))]) (rawL text).length [B] (fun W=>∃ R,TBox W B R) W:=by
  intro l J hJ hY h0
  have HY:Hid (∀ k W1,k<(rawL text).length→J k W1→YieldAt Fence.wide (n - 1) Tryz.prog l #[.string (bs ((rawL text).getD k []))] W1 fun e W'=>e=.returned (.bool true)∧J (k+1) W'∧Lie [B] W1 W'):=hY
  have HJ:Hid (∀ k A C,J k A→Only [B] A C→(∃ R,TBox C B R)→J k C):=hJ
  have H0:Hid (J 0 W):=h0
  have HB:=hidden hB
  clear hY hJ h0 hB
  refine callsIn_of_wp Tryz.func48 rfl trivial ?_ rfl
  simp only [Tryz.ntmps48,List.size_toArray,List.length_cons,List.length_nil,Nat.reduceAdd,Nat.reduceSub,Array.replicate_succ,Array.replicate_zero,List.push_toArray,List.append_toArray,List.nil_append,List.cons_append]
  gi_wp2
  gi_loopw [3,4] (fun u v wr=>∃ (k:Nat) (R:List UInt8),R.length≤3000∧Hid ((rawL text).drop k=rawL R∧k≤(rawL text).length)∧Hid (J k wr)∧TBox wr B R) (fun u v wr=>tlen B wr)
  case atStart=>exact ⟨0,text,ht,⟨rfl,Nat.zero_le _⟩,H0,HB.out⟩
  case round=>
    obtain ⟨k,R,hR,HR,HJk,hb⟩:=hrel
    have c0:=hb.cell
    have f0:=hb.free
    have HBx:=hidden hb
    have hlen:=hb.len
    have HSz:Hid (∀ x:List UInt8,(bs x).size=x.length):=bs_size
    by_cases hne:R=[]
    · subst hne
      have hz:(bs ([]:List UInt8)).size=0:=rfl
      have hk:k=(rawL text).length:=by
        have h1:=HR.out.1
        have h2:=HR.out.2
        have:=congrArg List.length h1
        simp [rawL] at this
        omega
      have HK:=hidden hk
      clear hk hlen
      gi_wp2
      go_end0
      exact ⟨⟨_,rfl⟩,by rw [← HK.out];exact HJk.out⟩
    · have hpos:0<R.length:=by
        cases R with
        | nil=>exact absurd rfl hne
        | cons _ _=>simp
      obtain ⟨m,hm⟩:∃ m,R.length=m:=⟨_,rfl⟩
      have hsz:(bs R).size=m:=by rw [bs_size];exact hm
      have hkN:Hid (k<(rawL text).length):=by
        have h1:=congrArg List.length HR.out.1
        rw [List.length_drop] at h1
        have h3:0<(rawL R).length:=by
          cases hq:rawL R with
          | nil=>
            have:=rawL_join R.length R (Nat.le_refl _)
            rw [hq] at this
            exact absurd this.symm hne
          | cons _ _=>simp
        show k<_
        omega
      have I:=hidden (fun w=>callsIn_wide (n:=n - 1) |>.2 (indexNl_calls R w))
      rw [hm] at hlen hpos hR
      have HM:=hidden hm
      have HNE:=hidden hne
      rcases indexByte_one 10 R with ⟨h1,h2⟩ | ⟨i,h1,h2,h3,h4⟩
      · rw [h1] at I
        have HN2:=hidden h2
        clear h1 h2 hm hne
        have hraw:rawL R=[R]:=rawL_none HNE.out HN2.out
        have hkl:(rawL text).getD k []=R:=by
          have h5:=HR.out.1
          rw [hraw] at h5
          have:=congrArg (fun L=>L.getD 0 []) h5
          simpa [List.getD_eq_getElem?_getD] using this
        have hdn:Hid ((rawL text).drop (k+1)=rawL []∧k+1≤(rawL text).length):=by
          have h5:=HR.out.1
          rw [hraw] at h5
          refine ⟨?_,hkN.out⟩
          have:=congrArg List.tail h5
          rw [List.tail_drop] at this
          simpa [rawL] using this
        have ho:Only [B] wr (wr.setCell ⟨B,0,none⟩ (.string ⟨#[]⟩)):=(Only.refl _ _).setCell (by simp) _
        have hbn:TBox (wr.setCell ⟨B,0,none⟩ (.string ⟨#[]⟩)) B []:=HBx.out.set []
        obtain ⟨fn,tmps,assign,body,hy,hRd⟩:=HY.out k _ hkN.out (HJ.out k _ _ HJk.out ho ⟨_,hbn⟩)
        rw [hkl] at hy
        have HBn:=hidden hbn
        clear hraw hkl ho hbn
        gi_wp2_with fail
        refine ⟨trivial,(I.out _).mono ?_⟩
        rintro e w' ⟨rfl,hw⟩
        rw [hw]
        clear hw
        gi_wp2_with fail
        refine hRd.mono ?_
        rintro e W3 ⟨rfl,hJ3,hl3⟩
        have hb3:TBox W3 B []:=(hl3 B (by simp)).trans HBn.out
        have HJ3:=hidden hJ3
        have hlen3:=hb3.len
        have HB3:=hidden hb3
        clear hJ3 hl3 hb3
        gi_wp2_with fail
        go_roundw
        case rel=>exact ⟨k+1,[],by simp,hdn,HJ3,HB3.out⟩
        case measure=>
          rw [hlen3,hlen];simpa using hpos
      · rw [h1] at I
        have hraw:rawL R=(R.take (i+1))::rawL (R.drop (i+1)):=by
          have e1:R.take i++[10]=R.take (i+1):=by
            conv=>rhs;rw [h3]
            have hl:(R.take i).length=i:=by rw [List.length_take];omega
            rw [List.take_append,hl]
            simp [List.take_of_length_le,hl]
          conv=>lhs;rw [h3,rawL_at _ h4,e1]
        have hkl:(rawL text).getD k []=R.take (i+1):=by
          have h5:=HR.out.1
          rw [hraw] at h5
          have:=congrArg (fun L=>L.getD 0 []) h5
          simpa [List.getD_eq_getElem?_getD] using this
        have hdn:Hid ((rawL text).drop (k+1)=rawL (R.drop (i+1))∧k+1≤(rawL text).length):=by
          have h5:=HR.out.1
          rw [hraw] at h5
          refine ⟨?_,hkN.out⟩
          have:=congrArg List.tail h5
          rw [List.tail_drop] at this
          simpa using this
        have him:i<m:=by omega
        have e1:∀ W,(Instr.slice 9 (.string (bs R)) none (some (.int .i64 ((i+1:Nat):Int))) none).run Tryz.prog W=.ok (.string (bs (R.take (i+1)))) W:=cutTo_str R (i+1) (by omega)
        have e2:∀ W,(Instr.slice 9 (.string (bs R)) (some (.int .i64 ((i+1:Nat):Int))) none none).run Tryz.prog W=.ok (.string (bs (R.drop (i+1)))) W:=cut_str R (i+1) (by omega)
        simp only [Int.natCast_add,Int.cast_ofNat_Int] at e1 e2
        have hdl:(R.drop (i+1)).length<m:=by rw [List.length_drop];omega
        obtain ⟨x,hx⟩:∃ x,R.take (i+1)=x:=⟨_,rfl⟩
        obtain ⟨y,hy0⟩:∃ y,R.drop (i+1)=y:=⟨_,rfl⟩
        rw [hx] at e1 hkl
        rw [hy0] at e2 hdn hdl
        have hwr:IntKind.i64.wrap ((i:Int)+1)=(i:Int)+1:=by rw [IntKind.wrap_i64];omega
        have HDL:=hidden hdl
        have HKL:=hidden hkl
        have hi0:decide ((0:Int)≤(i:Int))=true:=by simp
        clear hraw h1 h2 h3 h4 hx hy0 hdl hkl hm hne
        gi_wp2_with fail
        refine ⟨trivial,(I.out _).mono ?_⟩
        rintro e w' ⟨rfl,hw⟩
        rw [hw]
        clear hw
        gi_wp2_with fail
        gi_region
        obtain ⟨V,hV⟩:∃ V,(wr.setCell ⟨B,0,none⟩ (.string (bs y))).drew=V:=⟨_,rfl⟩
        rw [hV]
        have ho:Only [B] wr V:=by rw [← hV];exact ((Only.refl [B] wr).setCell (by simp) _).drew
        have hbn:TBox V B y:=by rw [← hV];exact HBx.out.set y
        obtain ⟨fn,tmps,assign,body,hy,hRd⟩:=HY.out k _ hkN.out (HJ.out k _ _ HJk.out ho ⟨_,hbn⟩)
        rw [HKL.out] at hy
        have HBn:=hidden hbn
        clear ho hbn hV
        gi_wp2_with fail
        refine hRd.mono ?_
        rintro e W3 ⟨rfl,hJ3,hl3⟩
        have hb3:TBox W3 B y:=(hl3 B (by simp)).trans HBn.out
        have HJ3:=hidden hJ3
        have hlen3:=hb3.len
        have HB3:=hidden hb3
        clear hJ3 hl3 hb3
        gi_wp2_with fail
        go_roundw
        case rel=>exact ⟨k+1,y,by have:=HDL.out;omega,hdn,HJ3,HB3.out⟩
        case measure=>
          rw [hlen3,hlen];exact HDL.out
end Go.Proofs.YtbadpjgiogghdaaGreatDoor.Run

