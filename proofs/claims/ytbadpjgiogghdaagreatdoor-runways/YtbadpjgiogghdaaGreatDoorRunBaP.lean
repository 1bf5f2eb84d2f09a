/-
  RunBegins: the answers to a beginning are a beginning of the answers.
-/
import Derived.Test.YtbadpjgiogghdaaGreatDoorRunZP
import Derived.KernelRfl
import Derived.LoopTactic
import Derived.RegionTactic
namespace Go.Proofs.YtbadpjgiogghdaaGreatDoor.Run
open Go.ChangeShapes Go.WideShapes Go.ChangeAt Go.RowKit Go.Proofs.YtbadpjgiogghdaaGreatDoor.Mem Go.Proofs.YtbadpjgiogghdaaGreatDoor.RN Go.Proofs.YtbadpjgiogghdaaGreatDoor.RC
set_option linter.unusedVariables false
theorem far_exists:∃ D:Far,D.Ok:=by
  refine ⟨fun N L=>Classical.choose (TM.isDist_exists L N.toNat 0),fun N L _=>Classical.choose_spec (TM.isDist_exists L N.toNat 0)⟩
theorem fact_run (D:Far):runOf D [115,101,101,110,32,53,10,102,108,121,10]=[121,101,115,10,98,97,100,10]:=by kernel_rfl
theorem snoc8 (l:List UInt8) {i:Nat} (h:i<l.length):l.take (i+1)=l.take i++[l.getD i 0]:=by
  rw [List.take_add_one,List.getElem?_eq_getElem h,List.getD_eq_getElem?_getD,List.getElem?_eq_getElem h]
  rfl
theorem begins (D:Far) (text:List UInt8) (k:Nat) (h:text.length≤3000) (hk:(text.take k=[]∨∃ M,text.take k=M++[10])∨text.length≤k) :
    ∃ r,runOf D text=runOf D (text.take k)++r:=by
  have hl:(text.take k).length≤3000:=by rw [List.length_take];omega
  rw [runOf,if_neg (by omega),runOf,if_neg (by omega)]
  rcases hk with (h0 | ⟨M,h0⟩) | h0
  · rw [h0]
    exact ⟨_,by simp [linesL,answers];rfl⟩
  · have e:text=(M++[10])++text.drop k:=by rw [← h0,List.take_append_drop]
    rw [h0]
    refine ⟨answers D (after D ss0 (linesL (M++[10]))) (linesL (text.drop k)),?_⟩
    conv=>lhs;rw [e,linesL_app,answers_app]
  · rw [List.take_of_length_le h0]
    exact ⟨[],by simp⟩
set_option maxHeartbeats 2000000 in
set_option maxRecDepth 100000 in
theorem begins_calls (D:Far) (hD:D.Ok) (ea:Addr) (text:List UInt8) (many:Int) (h64:text.length≤9223372036854775807) (hm:(Lit.int .i64 many).wf=true) (w:World) (g:GW ea w) :
    Calls Tryz.prog 4 #[.string (bs text),.int .i64 many] w fun e W'=>e=.returned (.bool true)∧Below w.heap.size w W':=by
  have R0:=hidden (run_calls D hD ea [115,101,101,110,32,53,10,102,108,121,10] (by decide) w g)
  rw [fact_run] at R0
  have GG:=hidden g
  have RR:Hid (∀ (t:List UInt8) W,t.length≤9223372036854775807→Below w.heap.size w W→_):=hidden (fun t W ht hb=>run_calls D hD ea t ht W (GG.out.below hb))
  clear g
  go_enter Tryz.func4,Tryz.ntmps4
  go_wp2_with fail
  refine R0.out.mono ?_
  rintro e w1 ⟨rfl,hb1⟩
  have HB1:=hidden hb1
  clear hb1
  have q0:((bs [121,101,115,10,98,97,100,10]).toList==[121,101,115,10,98,97,100,10])=true:=by decide +kernel
  obtain ⟨m,hm0⟩:∃ m,text.length=m:=⟨_,rfl⟩
  have hsz:(bs text).size=m:=by rw [bs_size,hm0]
  by_cases hl:3000<m
  · have R1:=hidden (RR.out text w1 h64 HB1.out)
    have hz:runOf D text=[116,111,111,32,108,111,110,103,10]:=by rw [runOf,if_pos (by omega)]
    rw [hz] at R1
    have d0:decide ((3000:Int)<(m:Int))=true:=by simp;omega
    have q1:((bs [116,111,111,32,108,111,110,103,10]).toList==[116,111,111,32,108,111,110,103,10])=true:=by decide +kernel
    clear hz
    go_wp2_with fail
    refine R1.out.mono ?_
    rintro e w2 ⟨rfl,hb2⟩
    have HB2:=hidden (HB1.out.trans (hb2.mono HB1.out.size))
    clear hb2
    go_wp2
    go_ret
    exact ⟨rfl,HB2.out⟩
  · have d0:decide ((3000:Int)<(m:Int))=false:=by simp;omega
    have HM:=hidden hm0
    have HW:=hidden hm
    have HL:Hid (m≤3000):=hidden (by omega)
    clear hm0 hm hl h64
    go_wp2_with fail
    go_loopg [7,8] m (fun g u y wr=>∃ k n:Nat,k+g=m∧n≤k∧u=.int .i64 (k:Int)∧y=.int .i64 (n:Int)∧Hid (Below w.heap.size w wr)∧Hid ((n:Int)<many∨text.take k=[]∨∃ M,text.take k=M++[10]))
    case atStart=>exact ⟨0,0,by omega,by omega,rfl,rfl,HB1,hidden (.inr (.inl (by simp)))⟩
    case round=>
      obtain ⟨k,n,hkg,hnk,rfl,rfl,HBr,HC⟩:=hrel
      have hk3:k≤3000:=by have:=HL.out;omega
      by_cases hi:k<m
      · have e0:decide ((k:Int)<(m:Int))=true:=by simp;omega
        by_cases hn:(n:Int)<many
        · have e1:decide ((n:Int)<many)=true:=by simpa using hn
          have ix:∀ W,(Instr.index 9 (.string (bs text)) (.int .i64 (k:Int))).run Tryz.prog W=.ok (.int .u8 ((text.getD k 0).toNat:Int)) W:=fun W=>idx_str text k (by have:=HM.out;omega) W
          have hst:=snoc8 text (i:=k) (by have:=HM.out;omega)
          obtain ⟨c,hc⟩:∃ c,text.getD k 0=c:=⟨_,rfl⟩
          rw [hc] at ix hst
          have HST:=hidden hst
          clear hst hc
          by_cases h10:c=10
          · have hqc:((c.toNat:Int)==10)=true:=by rw [h10];rfl
            go_wp2_with fail
            go_roundg (m - (k+1))
            case measure=>omega
            case rel=>exact ⟨k+1,n+1,by omega,by omega,by go_num,by go_num,HBr,hidden (.inr (.inr ⟨_,by rw [HST.out,h10]⟩))⟩
          · have hqc:((c.toNat:Int)==10)=false:=by
              have:c.toNat≠10:=fun e=>h10 (UInt8.toNat_inj.1 e)
              simp;omega
            go_wp2_with fail
            go_roundg (m - (k+1))
            case measure=>omega
            case rel=>exact ⟨k+1,n,by omega,by omega,by go_num,rfl,HBr,hidden (.inl hn)⟩
        · have e1:decide ((n:Int)<many)=false:=by simpa using hn
          have ec:∀ W,(Instr.slice 9 (.string (bs text)) none (some (.int .i64 (k:Int))) none).run Tryz.prog W=.ok (.string (bs (text.take k))) W:=cutTo_str text k (by have:=HM.out;omega)
          obtain ⟨r,hr⟩:=begins D text k (by have:=HM.out;have:=HL.out;omega) (.inl (HC.out.resolve_left hn))
          have RA:=hidden (RR.out (text.take k) wr (by have:=HM.out;have:=HL.out;rw [List.length_take];omega) HBr.out)
          have RB:=hidden (fun W h=>RR.out text W (by have:=HM.out;have:=HL.out;omega) h)
          rw [hr] at RB
          obtain ⟨A,hA⟩:∃ A,runOf D (text.take k)=A:=⟨_,rfl⟩
          rw [hA] at RA RB
          obtain ⟨p,hp⟩:∃ p,A.length=p:=⟨_,rfl⟩
          obtain ⟨q,hq⟩:∃ q,(A++r).length=q:=⟨_,rfl⟩
          have sp:(bs A).size=p:=by rw [bs_size,hp]
          have sq:(bs (A++r)).size=q:=by rw [bs_size,hq]
          have dp:p≤q:=by
            rw [List.length_append] at hq
            omega
          have ea:∀ W,(Instr.slice 9 (.string (bs (A++r))) none (some (.int .i64 (p:Int))) none).run Tryz.prog W=.ok (.string (bs A)) W:=fun W=>by
            have:=cutTo_str (A++r) p (by rw [List.length_append];omega) W
            rwa [List.take_append_of_le_length (by omega),List.take_of_length_le (by omega)] at this
          have ee:((bs A).toList==(bs A).toList)=true:=by simp
          clear hr hA hp hq
          go_wp2_with fail
          refine RA.out.mono ?_
          rintro e w2 ⟨rfl,hb2⟩
          have HB2:=hidden (HBr.out.trans (hb2.mono HBr.out.size))
          clear hb2
          go_wp2_with fail
          refine (RB.out w2 HB2.out).mono ?_
          rintro e w3 ⟨rfl,hb3⟩
          have HB3:=hidden (HB2.out.trans (hb3.mono HB2.out.size))
          clear hb3
          go_wp2_with fail
          go_ret
          exact ⟨rfl,HB3.out⟩
      · have e0:decide ((k:Int)<(m:Int))=false:=by simp;omega
        have ec:∀ W,(Instr.slice 9 (.string (bs text)) none (some (.int .i64 (k:Int))) none).run Tryz.prog W=.ok (.string (bs (text.take k))) W:=cutTo_str text k (by have:=HM.out;omega)
        obtain ⟨r,hr⟩:=begins D text k (by have:=HM.out;have:=HL.out;omega) (.inr (by have:=HM.out;omega))
        have RA:=hidden (RR.out (text.take k) wr (by have:=HM.out;have:=HL.out;rw [List.length_take];omega) HBr.out)
        have RB:=hidden (fun W h=>RR.out text W (by have:=HM.out;have:=HL.out;omega) h)
        rw [hr] at RB
        obtain ⟨A,hA⟩:∃ A,runOf D (text.take k)=A:=⟨_,rfl⟩
        rw [hA] at RA RB
        obtain ⟨p,hp⟩:∃ p,A.length=p:=⟨_,rfl⟩
        obtain ⟨q,hq⟩:∃ q,(A++r).length=q:=⟨_,rfl⟩
        have sp:(bs A).size=p:=by rw [bs_size,hp]
        have sq:(bs (A++r)).size=q:=by rw [bs_size,hq]
        have dp:p≤q:=by
          rw [List.length_append] at hq
          omega
        have ea:∀ W,(Instr.slice 9 (.string (bs (A++r))) none (some (.int .i64 (p:Int))) none).run Tryz.prog W=.ok (.string (bs A)) W:=fun W=>by
          have:=cutTo_str (A++r) p (by rw [List.length_append];omega) W
          rwa [List.take_append_of_le_length (by omega),List.take_of_length_le (by omega)] at this
        have ee:((bs A).toList==(bs A).toList)=true:=by simp
        clear hr hA hp hq
        go_wp2_with fail
        refine RA.out.mono ?_
        rintro e w2 ⟨rfl,hb2⟩
        have HB2:=hidden (HBr.out.trans (hb2.mono HBr.out.size))
        clear hb2
        go_wp2_with fail
        refine (RB.out w2 HB2.out).mono ?_
        rintro e w3 ⟨rfl,hb3⟩
        have HB3:=hidden (HB2.out.trans (hb3.mono HB2.out.size))
        clear hb3
        go_wp2_with fail
        go_ret
        exact ⟨rfl,HB3.out⟩
theorem begins_str (D:Far) (hD:D.Ok) (ea:Addr) (s:ByteArray) (many:Int) (hs:s.size≤maxLen) (hm:(Lit.int .i64 many).wf=true) (w:World) (g:GW ea w) :
    Calls Tryz.prog 4 #[.string s,.int .i64 many] w fun e W'=>e=.returned (.bool true)∧Below w.heap.size w W':=by
  have hl:s.data.toList.length=s.size:=rfl
  have h:=begins_calls D hD ea s.data.toList many (by unfold maxLen at hs;omega) hm w g
  rwa [bs_of] at h
end Go.Proofs.YtbadpjgiogghdaaGreatDoor.Run

