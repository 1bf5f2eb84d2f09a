/-
  RunL0, RunL1, RunL2, RunL3, RunL4, RunL5, RunL6, RunL7, RunL8 in one text.
-/
import Derived.Test.YtlppdppddiecnaaGreatDoorLiAll
namespace Go.Proofs.YtlppdppddiecnaaGreatDoor.Run
open Go.ChangeShapes Go.WideShapes Go.ChangeAt Go.RowKit Go.Proofs.YtlppdppddiecnaaGreatDoor.Mem Go.Proofs.YtlppdppddiecnaaGreatDoor.RN Go.Proofs.YtlppdppddiecnaaGreatDoor.RC
set_option linter.unusedVariables false
set_option maxRecDepth 100000 in
set_option maxHeartbeats 1000000 in
theorem li_unwrap_nn {w W:World} {b k:Nat} {S:Ss} {x:List UInt8} (h:Dk w W b S k) (hO:S.Ok) (hk5:k≤5000) (hx:x.length≤3000) {a1 a2:List UInt8} (hk:cutL 32 x=[kUnwrap,a1,a2]) (h1:numL a1=none) (h2:numL a2=none) :
    Calls Tryz.prog 7 #[.pointer (some ⟨b,0,none⟩),.string (bs x)] W (LineE w b (k+1) (.bad,S)):=by
  have C:=hidden (cut3 (h.more (Nat.le_succ k)) hx (show cutL 32 x=[[117,110,119,114,97,112],a1,a2] from hk))
  have CN:=hidden (fun W=>needs_unwrap W)
  have hl1:=word_len hx hk (y:=a1) (by simp)
  have hl2:=word_len hx hk (y:=a2) (by simp)
  have q0:((bs [117,110,119,114,97,112]).toList==[117,110,119,114,97,112])=true:=eq_yes _
  have N1:=hidden (nine_calls a1 (by omega))
  have N2:=hidden (nine_calls a2 (by omega))
  rw [h1,nineE_none] at N1
  rw [h2,nineE_none] at N2
  clear h hO hx hk h1 h2
  go_enter Tryz.func7,Tryz.ntmps7
  go_wp2_with fail
  refine C.out.mono ?_
  rintro e w1 ⟨g,cap,rfl,⟨c0,c1,c2⟩,hd⟩
  have HD:=hidden hd
  clear hd
  go_wp2_with fail
  refine (CN.out w1).mono ?_
  rintro e w2 ⟨rfl,hw2⟩
  obtain rfl:w1=w2:=hw2.symm
  clear hw2
  go_wp2_with fail
  refine (N1.out w1).mono ?_
  rintro e w2 ⟨rfl,hw2⟩
  obtain rfl:w1=w2:=hw2.symm
  clear hw2
  go_wp2_with fail
  refine (N2.out w1).mono ?_
  rintro e w2 ⟨rfl,hw2⟩
  obtain rfl:w1=w2:=hw2.symm
  clear hw2
  go_wp2_with fail
  go_ret
  exact ⟨rfl,HD.out⟩
set_option maxRecDepth 100000 in
set_option maxHeartbeats 1000000 in
theorem li_unwrap_ns {w W:World} {b k:Nat} {S:Ss} {x:List UInt8} (h:Dk w W b S k) (hO:S.Ok) (hk5:k≤5000) (hx:x.length≤3000) {a1 a2:List UInt8} (hk:cutL 32 x=[kUnwrap,a1,a2]) (h1:numL a1=none) {u2:Int} (h2:numL a2=some u2) :
    Calls Tryz.prog 7 #[.pointer (some ⟨b,0,none⟩),.string (bs x)] W (LineE w b (k+1) (.bad,S)):=by
  have C:=hidden (cut3 (h.more (Nat.le_succ k)) hx (show cutL 32 x=[[117,110,119,114,97,112],a1,a2] from hk))
  have CN:=hidden (fun W=>needs_unwrap W)
  have hl1:=word_len hx hk (y:=a1) (by simp)
  have hl2:=word_len hx hk (y:=a2) (by simp)
  have q0:((bs [117,110,119,114,97,112]).toList==[117,110,119,114,97,112])=true:=eq_yes _
  have N1:=hidden (nine_calls a1 (by omega))
  have N2:=hidden (nine_calls a2 (by omega))
  rw [h1,nineE_none] at N1
  rw [h2,nineE_some] at N2
  clear h hO hx hk h1 h2
  go_enter Tryz.func7,Tryz.ntmps7
  go_wp2_with fail
  refine C.out.mono ?_
  rintro e w1 ⟨g,cap,rfl,⟨c0,c1,c2⟩,hd⟩
  have HD:=hidden hd
  clear hd
  go_wp2_with fail
  refine (CN.out w1).mono ?_
  rintro e w2 ⟨rfl,hw2⟩
  obtain rfl:w1=w2:=hw2.symm
  clear hw2
  go_wp2_with fail
  refine (N1.out w1).mono ?_
  rintro e w2 ⟨rfl,hw2⟩
  obtain rfl:w1=w2:=hw2.symm
  clear hw2
  go_wp2_with fail
  refine (N2.out w1).mono ?_
  rintro e w2 ⟨rfl,hw2⟩
  obtain rfl:w1=w2:=hw2.symm
  clear hw2
  go_wp2_with fail
  go_ret
  exact ⟨rfl,HD.out⟩
set_option maxRecDepth 100000 in
set_option maxHeartbeats 1000000 in
theorem li_unwrap_sn {w W:World} {b k:Nat} {S:Ss} {x:List UInt8} (h:Dk w W b S k) (hO:S.Ok) (hk5:k≤5000) (hx:x.length≤3000) {a1 a2:List UInt8} (hk:cutL 32 x=[kUnwrap,a1,a2]) {u1:Int} (h1:numL a1=some u1) (h2:numL a2=none) :
    Calls Tryz.prog 7 #[.pointer (some ⟨b,0,none⟩),.string (bs x)] W (LineE w b (k+1) (.bad,S)):=by
  have C:=hidden (cut3 (h.more (Nat.le_succ k)) hx (show cutL 32 x=[[117,110,119,114,97,112],a1,a2] from hk))
  have CN:=hidden (fun W=>needs_unwrap W)
  have hl1:=word_len hx hk (y:=a1) (by simp)
  have hl2:=word_len hx hk (y:=a2) (by simp)
  have q0:((bs [117,110,119,114,97,112]).toList==[117,110,119,114,97,112])=true:=eq_yes _
  have N1:=hidden (nine_calls a1 (by omega))
  have N2:=hidden (nine_calls a2 (by omega))
  rw [h1,nineE_some] at N1
  rw [h2,nineE_none] at N2
  clear h hO hx hk h1 h2
  go_enter Tryz.func7,Tryz.ntmps7
  go_wp2_with fail
  refine C.out.mono ?_
  rintro e w1 ⟨g,cap,rfl,⟨c0,c1,c2⟩,hd⟩
  have HD:=hidden hd
  clear hd
  go_wp2_with fail
  refine (CN.out w1).mono ?_
  rintro e w2 ⟨rfl,hw2⟩
  obtain rfl:w1=w2:=hw2.symm
  clear hw2
  go_wp2_with fail
  refine (N1.out w1).mono ?_
  rintro e w2 ⟨rfl,hw2⟩
  obtain rfl:w1=w2:=hw2.symm
  clear hw2
  go_wp2_with fail
  refine (N2.out w1).mono ?_
  rintro e w2 ⟨rfl,hw2⟩
  obtain rfl:w1=w2:=hw2.symm
  clear hw2
  go_wp2_with fail
  go_ret
  exact ⟨rfl,HD.out⟩
set_option maxRecDepth 100000 in
set_option maxHeartbeats 1000000 in
theorem li_unwrap_lo {w W:World} {b k:Nat} {S:Ss} {x:List UInt8} (h:Dk w W b S k) (hO:S.Ok) (hk5:k≤5000) (hx:x.length≤3000) {a1 a2:List UInt8} (hk:cutL 32 x=[kUnwrap,a1,a2]) {u1:Int} (h1:numL a1=some u1) {u2:Int} (h2:numL a2=some u2) (g1:u1<0) (g2:0≤u2∧u2≤65535) :
    Calls Tryz.prog 7 #[.pointer (some ⟨b,0,none⟩),.string (bs x)] W (LineE w b (k+1) (.err 1,S)):=by
  have C:=hidden (cut3 (h.more (Nat.le_succ k)) hx (show cutL 32 x=[[117,110,119,114,97,112],a1,a2] from hk))
  have CN:=hidden (fun W=>needs_unwrap W)
  have hl1:=word_len hx hk (y:=a1) (by simp)
  have hl2:=word_len hx hk (y:=a2) (by simp)
  have q0:((bs [117,110,119,114,97,112]).toList==[117,110,119,114,97,112])=true:=eq_yes _
  have N1:=hidden (nine_calls a1 (by omega))
  have N2:=hidden (nine_calls a2 (by omega))
  rw [h1,nineE_some] at N1
  rw [h2,nineE_some] at N2
  have hb1:=num_bd h1
  have hb2:=num_bd h2
  have L1:=hidden (Ref.rlong_no u1)
  have L2:=hidden (Ref.rseq_yes u2)
  have RN1:=hidden (rname_calls 1 (by omega) (by omega))
  have HG1:Hid (u1<0∨1099511627776<u1):=hidden (.inl g1)
  have HG2:=hidden g2
  have HB:=hidden (And.intro hb1 hb2)
  clear g1 g2 hb1 hb2
  clear h hO hx hk h1 h2
  go_enter Tryz.func7,Tryz.ntmps7
  go_wp2_with fail
  refine C.out.mono ?_
  rintro e w1 ⟨g,cap,rfl,⟨c0,c1,c2⟩,hd⟩
  have HD:=hidden hd
  clear hd
  go_wp2_with fail
  refine (CN.out w1).mono ?_
  rintro e w2 ⟨rfl,hw2⟩
  obtain rfl:w1=w2:=hw2.symm
  clear hw2
  go_wp2_with fail
  refine (N1.out w1).mono ?_
  rintro e w2 ⟨rfl,hw2⟩
  obtain rfl:w1=w2:=hw2.symm
  clear hw2
  go_wp2_with fail
  refine (N2.out w1).mono ?_
  rintro e w2 ⟨rfl,hw2⟩
  obtain rfl:w1=w2:=hw2.symm
  clear hw2
  go_wp2_with fail
  refine (L1.out w1 HG1.out).mono ?_
  rintro e w2 ⟨rfl,hw2⟩
  obtain rfl:w1=w2:=hw2.symm
  clear hw2
  go_wp2_with fail
  refine (L2.out w1 HG2.out.1 HG2.out.2).mono ?_
  rintro e w2 ⟨rfl,hw2⟩
  obtain rfl:w1=w2:=hw2.symm
  clear hw2
  go_wp2_with fail
  refine (RN1.out w1).mono ?_
  rintro e w2 ⟨rfl,hb⟩
  go_wp2_with fail
  go_ret
  exact ⟨rfl,HD.out.below hb⟩
set_option maxRecDepth 100000 in
set_option maxHeartbeats 1000000 in
theorem li_unwrap_ls {w W:World} {b k:Nat} {S:Ss} {x:List UInt8} (h:Dk w W b S k) (hO:S.Ok) (hk5:k≤5000) (hx:x.length≤3000) {a1 a2:List UInt8} (hk:cutL 32 x=[kUnwrap,a1,a2]) {u1:Int} (h1:numL a1=some u1) {u2:Int} (h2:numL a2=some u2) (g1:u1<0) (g2:u2<0∨65535<u2) :
    Calls Tryz.prog 7 #[.pointer (some ⟨b,0,none⟩),.string (bs x)] W (LineE w b (k+1) (.err 1,S)):=by
  have C:=hidden (cut3 (h.more (Nat.le_succ k)) hx (show cutL 32 x=[[117,110,119,114,97,112],a1,a2] from hk))
  have CN:=hidden (fun W=>needs_unwrap W)
  have hl1:=word_len hx hk (y:=a1) (by simp)
  have hl2:=word_len hx hk (y:=a2) (by simp)
  have q0:((bs [117,110,119,114,97,112]).toList==[117,110,119,114,97,112])=true:=eq_yes _
  have N1:=hidden (nine_calls a1 (by omega))
  have N2:=hidden (nine_calls a2 (by omega))
  rw [h1,nineE_some] at N1
  rw [h2,nineE_some] at N2
  have hb1:=num_bd h1
  have hb2:=num_bd h2
  have L1:=hidden (Ref.rlong_no u1)
  have L2:=hidden (Ref.rseq_no u2)
  have RN1:=hidden (rname_calls 1 (by omega) (by omega))
  have HG1:Hid (u1<0∨1099511627776<u1):=hidden (.inl g1)
  have HG2:=hidden g2
  have HB:=hidden (And.intro hb1 hb2)
  clear g1 g2 hb1 hb2
  clear h hO hx hk h1 h2
  go_enter Tryz.func7,Tryz.ntmps7
  go_wp2_with fail
  refine C.out.mono ?_
  rintro e w1 ⟨g,cap,rfl,⟨c0,c1,c2⟩,hd⟩
  have HD:=hidden hd
  clear hd
  go_wp2_with fail
  refine (CN.out w1).mono ?_
  rintro e w2 ⟨rfl,hw2⟩
  obtain rfl:w1=w2:=hw2.symm
  clear hw2
  go_wp2_with fail
  refine (N1.out w1).mono ?_
  rintro e w2 ⟨rfl,hw2⟩
  obtain rfl:w1=w2:=hw2.symm
  clear hw2
  go_wp2_with fail
  refine (N2.out w1).mono ?_
  rintro e w2 ⟨rfl,hw2⟩
  obtain rfl:w1=w2:=hw2.symm
  clear hw2
  go_wp2_with fail
  refine (L1.out w1 HG1.out).mono ?_
  rintro e w2 ⟨rfl,hw2⟩
  obtain rfl:w1=w2:=hw2.symm
  clear hw2
  go_wp2_with fail
  refine (L2.out w1 HG2.out).mono ?_
  rintro e w2 ⟨rfl,hw2⟩
  obtain rfl:w1=w2:=hw2.symm
  clear hw2
  go_wp2_with fail
  refine (RN1.out w1).mono ?_
  rintro e w2 ⟨rfl,hb⟩
  go_wp2_with fail
  go_ret
  exact ⟨rfl,HD.out.below hb⟩
set_option maxRecDepth 100000 in
set_option maxHeartbeats 1000000 in
theorem li_unwrap_so {w W:World} {b k:Nat} {S:Ss} {x:List UInt8} (h:Dk w W b S k) (hO:S.Ok) (hk5:k≤5000) (hx:x.length≤3000) {a1 a2:List UInt8} (hk:cutL 32 x=[kUnwrap,a1,a2]) {u1:Int} (h1:numL a1=some u1) {u2:Int} (h2:numL a2=some u2) (g1:0≤u1) (g2:u2<0∨65535<u2) :
    Calls Tryz.prog 7 #[.pointer (some ⟨b,0,none⟩),.string (bs x)] W (LineE w b (k+1) (.err 1,S)):=by
  have C:=hidden (cut3 (h.more (Nat.le_succ k)) hx (show cutL 32 x=[[117,110,119,114,97,112],a1,a2] from hk))
  have CN:=hidden (fun W=>needs_unwrap W)
  have hl1:=word_len hx hk (y:=a1) (by simp)
  have hl2:=word_len hx hk (y:=a2) (by simp)
  have q0:((bs [117,110,119,114,97,112]).toList==[117,110,119,114,97,112])=true:=eq_yes _
  have N1:=hidden (nine_calls a1 (by omega))
  have N2:=hidden (nine_calls a2 (by omega))
  rw [h1,nineE_some] at N1
  rw [h2,nineE_some] at N2
  have hb1:=num_bd h1
  have hb2:=num_bd h2
  have L1:=hidden (Ref.rlong_yes u1)
  have L2:=hidden (Ref.rseq_no u2)
  have RN1:=hidden (rname_calls 1 (by omega) (by omega))
  have HG1:=hidden g1
  have HG2:=hidden g2
  have HB:=hidden (And.intro hb1 hb2)
  clear g1 g2 hb1 hb2
  clear h hO hx hk h1 h2
  go_enter Tryz.func7,Tryz.ntmps7
  go_wp2_with fail
  refine C.out.mono ?_
  rintro e w1 ⟨g,cap,rfl,⟨c0,c1,c2⟩,hd⟩
  have HD:=hidden hd
  clear hd
  go_wp2_with fail
  refine (CN.out w1).mono ?_
  rintro e w2 ⟨rfl,hw2⟩
  obtain rfl:w1=w2:=hw2.symm
  clear hw2
  go_wp2_with fail
  refine (N1.out w1).mono ?_
  rintro e w2 ⟨rfl,hw2⟩
  obtain rfl:w1=w2:=hw2.symm
  clear hw2
  go_wp2_with fail
  refine (N2.out w1).mono ?_
  rintro e w2 ⟨rfl,hw2⟩
  obtain rfl:w1=w2:=hw2.symm
  clear hw2
  go_wp2_with fail
  refine (L1.out w1 HG1.out (by have:=HB.out;omega)).mono ?_
  rintro e w2 ⟨rfl,hw2⟩
  obtain rfl:w1=w2:=hw2.symm
  clear hw2
  go_wp2_with fail
  refine (L2.out w1 HG2.out).mono ?_
  rintro e w2 ⟨rfl,hw2⟩
  obtain rfl:w1=w2:=hw2.symm
  clear hw2
  go_wp2_with fail
  refine (RN1.out w1).mono ?_
  rintro e w2 ⟨rfl,hb⟩
  go_wp2_with fail
  go_ret
  exact ⟨rfl,HD.out.below hb⟩
set_option maxRecDepth 100000 in
set_option maxHeartbeats 1000000 in
theorem li_unwrap_ok {w W:World} {b k:Nat} {S:Ss} {x:List UInt8} (h:Dk w W b S k) (hO:S.Ok) (hk5:k≤5000) (hx:x.length≤3000) {a1 a2:List UInt8} (hk:cutL 32 x=[kUnwrap,a1,a2]) {u1:Int} (h1:numL a1=some u1) {u2:Int} (h2:numL a2=some u2) (g1:0≤u1) (g2:0≤u2∧u2≤65535) :
    Calls Tryz.prog 7 #[.pointer (some ⟨b,0,none⟩),.string (bs x)] W (LineE w b (k+1) (.ok (Lib.itoa (Ser.unw u1 u2)),S)):=by
  have C:=hidden (cut3 (h.more (Nat.le_succ k)) hx (show cutL 32 x=[[117,110,119,114,97,112],a1,a2] from hk))
  have CN:=hidden (fun W=>needs_unwrap W)
  have hl1:=word_len hx hk (y:=a1) (by simp)
  have hl2:=word_len hx hk (y:=a2) (by simp)
  have q0:((bs [117,110,119,114,97,112]).toList==[117,110,119,114,97,112])=true:=eq_yes _
  have N1:=hidden (nine_calls a1 (by omega))
  have N2:=hidden (nine_calls a2 (by omega))
  rw [h1,nineE_some] at N1
  rw [h2,nineE_some] at N2
  have hb1:=num_bd h1
  have hb2:=num_bd h2
  have L1:=hidden (Ref.rlong_yes u1)
  have L2:=hidden (Ref.rseq_yes u2)
  have HU:=hidden (fun W=>Ref.runwrap u1 u2 W g1 (by omega) g2.1 g2.2)
  have hun:-9223372036854775807≤Ser.unw u1 u2∧Ser.unw u1 u2≤9223372036854775807:=by
    have:=Ser.bey_bd u2 u1
    unfold Ser.unw
    split<;>omega
  have HDI:=hidden (digits_calls (Ser.unw u1 u2) hun.1 hun.2)
  obtain ⟨z,hz⟩:∃ z,Ser.unw u1 u2=z:=⟨_,rfl⟩
  rw [hz] at HU HDI
  rw [hz]
  have HG1:=hidden g1
  have HG2:=hidden g2
  have HB:=hidden (And.intro hb1 hb2)
  clear g1 g2 hb1 hb2 hz hun
  clear h hO hx hk h1 h2
  go_enter Tryz.func7,Tryz.ntmps7
  go_wp2_with fail
  refine C.out.mono ?_
  rintro e w1 ⟨g,cap,rfl,⟨c0,c1,c2⟩,hd⟩
  have HD:=hidden hd
  clear hd
  go_wp2_with fail
  refine (CN.out w1).mono ?_
  rintro e w2 ⟨rfl,hw2⟩
  obtain rfl:w1=w2:=hw2.symm
  clear hw2
  go_wp2_with fail
  refine (N1.out w1).mono ?_
  rintro e w2 ⟨rfl,hw2⟩
  obtain rfl:w1=w2:=hw2.symm
  clear hw2
  go_wp2_with fail
  refine (N2.out w1).mono ?_
  rintro e w2 ⟨rfl,hw2⟩
  obtain rfl:w1=w2:=hw2.symm
  clear hw2
  go_wp2_with fail
  refine (L1.out w1 HG1.out (by have:=HB.out;omega)).mono ?_
  rintro e w2 ⟨rfl,hw2⟩
  obtain rfl:w1=w2:=hw2.symm
  clear hw2
  go_wp2_with fail
  refine (L2.out w1 HG2.out.1 HG2.out.2).mono ?_
  rintro e w2 ⟨rfl,hw2⟩
  obtain rfl:w1=w2:=hw2.symm
  clear hw2
  go_wp2_with fail
  refine (HU.out w1).mono ?_
  rintro e w2 ⟨rfl,hw2⟩
  obtain rfl:w1=w2:=hw2.symm
  clear hw2
  go_wp2_with fail
  refine (HDI.out w1).mono ?_
  rintro e w2 ⟨rfl,hw2⟩
  obtain rfl:w1=w2:=hw2.symm
  clear hw2
  go_wp2_with fail
  go_ret
  exact ⟨rfl,HD.out⟩
theorem line_unwrap {w W:World} {b k:Nat} {S:Ss} {x:List UInt8} (h:Dk w W b S k) (hO:S.Ok) (hk5:k≤5000) (hx:x.length≤3000) {a1 a2:List UInt8} (hk:cutL 32 x=[kUnwrap,a1,a2]) :
    Calls Tryz.prog 7 #[.pointer (some ⟨b,0,none⟩),.string (bs x)] W (LineE w b (k+1) (aUnwrap ⟨[a1,a2],false⟩,S)):=by
  cases h1:numL a1 with
  | none=>
    rw [unwrap_bad (.inl h1)]
    cases h2:numL a2 with
    | none=>exact li_unwrap_nn h hO hk5 hx hk h1 h2
    | some v=>exact li_unwrap_ns h hO hk5 hx hk h1 h2
  | some u=>
    cases h2:numL a2 with
    | none=>
      rw [unwrap_bad (.inr h2)]
      exact li_unwrap_sn h hO hk5 hx hk h1 h2
    | some v=>
      have hb1:=num_bd h1
      have hb2:=num_bd h2
      rw [unwrap_ok h1 h2]
      have hu:uF u v=if u<0∨v<0∨65535<v then 1 else 0:=by
        unfold uF
        by_cases c:u<0∨v<0∨65535<v
        · rw [if_pos c,if_pos (by omega)]
        · rw [if_neg c,if_neg (by omega)]
      by_cases g1:0≤u
      · by_cases g2:0≤v∧v≤65535
        · rw [hu,if_neg (by omega)]
          exact li_unwrap_ok h hO hk5 hx hk h1 h2 g1 g2
        · rw [hu,if_pos (by omega)]
          exact li_unwrap_so h hO hk5 hx hk h1 h2 g1 (by omega)
      · by_cases g2:0≤v∧v≤65535
        · rw [hu,if_pos (by omega)]
          exact li_unwrap_lo h hO hk5 hx hk h1 h2 (by omega) g2
        · rw [hu,if_pos (by omega)]
          exact li_unwrap_ls h hO hk5 hx hk h1 h2 (by omega) (by omega)
set_option maxRecDepth 100000 in
set_option maxHeartbeats 1000000 in
theorem li_seen_n {w W:World} {b k:Nat} {S:Ss} {x:List UInt8} (h:Dk w W b S k) (hO:S.Ok) (hk5:k≤5000) (hx:x.length≤3000) {a1:List UInt8} (hk:cutL 32 x=[kSeen,a1]) (h1:numL a1=none) :
    Calls Tryz.prog 7 #[.pointer (some ⟨b,0,none⟩),.string (bs x)] W (LineE w b (k+1) (.bad,S)):=by
  have C:=hidden (cut2 (h.more (Nat.le_succ k)) hx (show cutL 32 x=[[115,101,101,110],a1] from hk))
  have CN:=hidden (fun W=>needs_seen W)
  have hl1:=word_len hx hk (y:=a1) (by simp)
  have q0:((bs [115,101,101,110]).toList==[117,110,119,114,97,112])=false:=eq_no (by decide)
  have q1:((bs [115,101,101,110]).toList==[115,101,101,110])=true:=eq_yes _
  have N1:=hidden (nine_calls a1 (by omega))
  rw [h1,nineE_none] at N1
  clear h hO hx hk h1
  go_enter Tryz.func7,Tryz.ntmps7
  go_wp2_with fail
  refine C.out.mono ?_
  rintro e w1 ⟨g,cap,rfl,⟨c0,c1⟩,hd⟩
  have HD:=hidden hd
  clear hd
  go_wp2_with fail
  refine (CN.out w1).mono ?_
  rintro e w2 ⟨rfl,hw2⟩
  obtain rfl:w1=w2:=hw2.symm
  clear hw2
  go_wp2_with fail
  refine (N1.out w1).mono ?_
  rintro e w2 ⟨rfl,hw2⟩
  obtain rfl:w1=w2:=hw2.symm
  clear hw2
  go_wp2_with fail
  go_ret
  exact ⟨rfl,HD.out⟩
set_option maxRecDepth 100000 in
set_option maxHeartbeats 1000000 in
theorem li_seen_ok {w W:World} {b k:Nat} {S:Ss} {x:List UInt8} (h:Dk w W b S k) (hO:S.Ok) (hk5:k≤5000) (hx:x.length≤3000) {a1:List UInt8} (hk:cutL 32 x=[kSeen,a1]) {u1:Int} (h1:numL a1=some u1) :
    Calls Tryz.prog 7 #[.pointer (some ⟨b,0,none⟩),.string (bs x)] W (LineE w b (k+1) (An.of (wF S.top u1) (yesNo (wIs S.top u1 S.seen)),{ S with top:=wT S.top u1,seen:=wS S.top u1 S.seen })):=by
  have C:=hidden (cut2 h hx (show cutL 32 x=[[115,101,101,110],a1] from hk))
  have CN:=hidden (fun W=>needs_seen W)
  have hl1:=word_len hx hk (y:=a1) (by simp)
  have q0:((bs [115,101,101,110]).toList==[117,110,119,114,97,112])=false:=eq_no (by decide)
  have q1:((bs [115,101,101,110]).toList==[115,101,101,110])=true:=eq_yes _
  have N1:=hidden (nine_calls a1 (by omega))
  rw [h1,nineE_some] at N1
  have HAD:=hidden (fun (W1:World) (hd:Dk w W1 b S k)=>hd.add hk5 u1)
  have h9:wF S.top u1≤9:=by unfold wF;split;omega;split<;>omega
  have HT:=hidden (rtold_calls (wIs S.top u1 S.seen) (wF S.top u1) h9)
  obtain ⟨S2,hS2⟩:∃ S2,({ S with top:=wT S.top u1,seen:=wS S.top u1 S.seen }:Ss)=S2:=⟨_,rfl⟩
  rw [hS2] at HAD
  rw [hS2]
  generalize wIs S.top u1 S.seen=is at *
  generalize wF S.top u1=f at *
  clear h hO hx hk h1 h9 hS2
  go_enter Tryz.func7,Tryz.ntmps7
  go_wp2_with fail
  refine C.out.mono ?_
  rintro e w1 ⟨g,cap,rfl,⟨c0,c1⟩,hd⟩
  have HD:=hidden hd
  clear hd
  go_wp2_with fail
  refine (CN.out w1).mono ?_
  rintro e w2 ⟨rfl,hw2⟩
  obtain rfl:w1=w2:=hw2.symm
  clear hw2
  go_wp2_with fail
  refine (N1.out w1).mono ?_
  rintro e w2 ⟨rfl,hw2⟩
  obtain rfl:w1=w2:=hw2.symm
  clear hw2
  go_wp2_with fail
  refine (HAD.out w1 HD.out).mono ?_
  rintro e w2 ⟨rfl,hd2⟩
  have HD2:=hidden hd2
  clear hd2
  go_wp2_with fail
  refine (HT.out w2).mono ?_
  rintro e w3 ⟨rfl,hb⟩
  go_wp2_with fail
  go_ret
  exact ⟨rfl,HD2.out.below hb⟩
theorem line_seen {w W:World} {b k:Nat} {S:Ss} {x:List UInt8} (h:Dk w W b S k) (hO:S.Ok) (hk5:k≤5000) (hx:x.length≤3000) {a1:List UInt8} (hk:cutL 32 x=[kSeen,a1]) :
    Calls Tryz.prog 7 #[.pointer (some ⟨b,0,none⟩),.string (bs x)] W (LineE w b (k+1) (aSeen S ⟨[a1],false⟩)):=by
  cases h1:numL a1 with
  | none=>
    rw [seen_bad S h1]
    exact li_seen_n h hO hk5 hx hk h1
  | some u=>
    rw [RN.seen_ok S h1]
    exact li_seen_ok h hO hk5 hx hk h1
set_option maxRecDepth 100000 in
set_option maxHeartbeats 1000000 in
theorem li_crc_n {w W:World} {b k:Nat} {S:Ss} {x:List UInt8} (h:Dk w W b S k) (hO:S.Ok) (hk5:k≤5000) (hx:x.length≤3000) {a1:List UInt8} (hk:cutL 32 x=[kCrc,a1]) (h1:bytesR a1=none) :
    Calls Tryz.prog 7 #[.pointer (some ⟨b,0,none⟩),.string (bs x)] W (LineE w b (k+1) (.bad,S)):=by
  have C:=hidden (cut2 (h.more (Nat.le_succ k)) hx (show cutL 32 x=[[99,114,99],a1] from hk))
  have CN:=hidden (fun W=>needs_crc W)
  have hl1:=word_len hx hk (y:=a1) (by simp)
  have q0:((bs [99,114,99]).toList==[117,110,119,114,97,112])=false:=eq_no (by decide)
  have q1:((bs [99,114,99]).toList==[115,101,101,110])=false:=eq_no (by decide)
  have q2:((bs [99,114,99]).toList==[99,114,99])=true:=eq_yes _
  have B1:=hidden (rb_no h1 (by omega))
  clear h hO hx hk h1
  go_enter Tryz.func7,Tryz.ntmps7
  go_wp2_with fail
  refine C.out.mono ?_
  rintro e w1 ⟨g,cap,rfl,⟨c0,c1⟩,hd⟩
  have HD:=hidden hd
  clear hd
  go_wp2_with fail
  refine (CN.out w1).mono ?_
  rintro e w2 ⟨rfl,hw2⟩
  obtain rfl:w1=w2:=hw2.symm
  clear hw2
  go_wp2_with fail
  refine (B1.out w1).mono ?_
  rintro e w2 ⟨rfl,hb⟩
  have HD2:=hidden (HD.out.below hb)
  clear hb
  go_wp2_with fail
  go_ret
  exact ⟨rfl,HD2.out⟩
set_option maxRecDepth 100000 in
set_option maxHeartbeats 1000000 in
theorem li_crc_ok {w W:World} {b k:Nat} {S:Ss} {x:List UInt8} (h:Dk w W b S k) (hO:S.Ok) (hk5:k≤5000) (hx:x.length≤3000) {a1:List UInt8} (hk:cutL 32 x=[kCrc,a1]) {L:List Nat} (h1:bytesR a1=some L) :
    Calls Tryz.prog 7 #[.pointer (some ⟨b,0,none⟩),.string (bs x)] W (LineE w b (k+1) (.ok (Lib.itoa (CM.go 0 L:Nat)),S)):=by
  have C:=hidden (cut2 (h.more (Nat.le_succ k)) hx (show cutL 32 x=[[99,114,99],a1] from hk))
  have CN:=hidden (fun W=>needs_crc W)
  have hl1:=word_len hx hk (y:=a1) (by simp)
  have q0:((bs [99,114,99]).toList==[117,110,119,114,97,112])=false:=eq_no (by decide)
  have q1:((bs [99,114,99]).toList==[115,101,101,110])=false:=eq_no (by decide)
  have q2:((bs [99,114,99]).toList==[99,114,99])=true:=eq_yes _
  have hlb:=rb_len h1 (by omega)
  have B1:=hidden (rb_yes h1 (by omega))
  have hgo:CM.go 0 L<4294967296:=CM.go_lt (by decide) hlb.2
  have HM:=hidden (fun (W:World) a cap (hA:Arg W a L.length L)=>RCrc.rmore_calls 0 a L.length cap L W (by decide) hA)
  have HDI:=hidden (digits_calls ((CM.go 0 L:Nat):Int) (by omega) (by omega))
  obtain ⟨z,hz⟩:∃ z,CM.go 0 L=z:=⟨_,rfl⟩
  rw [hz] at HM HDI
  rw [hz]
  generalize L.length=n at *
  clear h hO hx hk h1 hlb hgo hz
  go_enter Tryz.func7,Tryz.ntmps7
  go_wp2_with fail
  refine C.out.mono ?_
  rintro e w1 ⟨g,cap,rfl,⟨c0,c1⟩,hd⟩
  have HD:=hidden hd
  clear hd
  go_wp2_with fail
  refine (CN.out w1).mono ?_
  rintro e w2 ⟨rfl,hw2⟩
  obtain rfl:w1=w2:=hw2.symm
  clear hw2
  go_wp2_with fail
  refine (B1.out w1).mono ?_
  rintro e w2 ⟨a,cap,rfl,hA,hcap,hb⟩
  have c0':w2.cell? ⟨g,0,none⟩=some (.string (bs [99,114,99])):=(hb.cell (World.block_lt_of_cell? _ _ c0)).trans c0
  have HD2:=hidden (HD.out.below hb)
  have HM2:=hidden (HM.out w2 a cap hA)
  clear hb hA hcap c0 c1
  go_wp2_with fail
  refine HM2.out.mono ?_
  rintro e w3 ⟨rfl,hw3⟩
  obtain rfl:w2=w3:=hw3.symm
  clear hw3
  go_wp2_with fail
  refine (HDI.out w2).mono ?_
  rintro e w3 ⟨rfl,hw3⟩
  obtain rfl:w2=w3:=hw3.symm
  clear hw3
  go_wp2_with fail
  go_ret
  exact ⟨rfl,HD2.out⟩
theorem line_crc {w W:World} {b k:Nat} {S:Ss} {x:List UInt8} (h:Dk w W b S k) (hO:S.Ok) (hk5:k≤5000) (hx:x.length≤3000) {a1:List UInt8} (hk:cutL 32 x=[kCrc,a1]) :
    Calls Tryz.prog 7 #[.pointer (some ⟨b,0,none⟩),.string (bs x)] W (LineE w b (k+1) (aSum ⟨[a1],false⟩,S)):=by
  cases h1:bytesR a1 with
  | none=>
    rw [crc_bad h1]
    exact li_crc_n h hO hk5 hx hk h1
  | some L=>
    rw [crc_ok h1]
    exact li_crc_ok h hO hk5 hx hk h1
set_option maxRecDepth 100000 in
set_option maxHeartbeats 1000000 in
theorem li_open_n {w W:World} {b k:Nat} {S:Ss} {x:List UInt8} (h:Dk w W b S k) (hO:S.Ok) (hk5:k≤5000) (hx:x.length≤3000) {a1:List UInt8} (hk:cutL 32 x=[kOpen,a1]) (h1:bytesR a1=none) :
    Calls Tryz.prog 7 #[.pointer (some ⟨b,0,none⟩),.string (bs x)] W (LineE w b (k+1) (.bad,S)):=by
  have C:=hidden (cut2 (h.more (Nat.le_succ k)) hx (show cutL 32 x=[[111,112,101,110],a1] from hk))
  have CN:=hidden (fun W=>needs_open W)
  have hl1:=word_len hx hk (y:=a1) (by simp)
  have q0:((bs [111,112,101,110]).toList==[117,110,119,114,97,112])=false:=eq_no (by decide)
  have q1:((bs [111,112,101,110]).toList==[115,101,101,110])=false:=eq_no (by decide)
  have q2:((bs [111,112,101,110]).toList==[99,114,99])=false:=eq_no (by decide)
  have q3:((bs [111,112,101,110]).toList==[111,112,101,110])=true:=eq_yes _
  have B1:=hidden (rb_no h1 (by omega))
  clear h hO hx hk h1
  go_enter Tryz.func7,Tryz.ntmps7
  go_wp2_with fail
  refine C.out.mono ?_
  rintro e w1 ⟨g,cap,rfl,⟨c0,c1⟩,hd⟩
  have HD:=hidden hd
  clear hd
  go_wp2_with fail
  refine (CN.out w1).mono ?_
  rintro e w2 ⟨rfl,hw2⟩
  obtain rfl:w1=w2:=hw2.symm
  clear hw2
  go_wp2_with fail
  refine (B1.out w1).mono ?_
  rintro e w2 ⟨rfl,hb⟩
  have HD2:=hidden (HD.out.below hb)
  clear hb
  go_wp2_with fail
  go_ret
  exact ⟨rfl,HD2.out⟩
set_option maxRecDepth 100000 in
set_option maxHeartbeats 1000000 in
theorem li_open_e {w W:World} {b k:Nat} {S:Ss} {x:List UInt8} (h:Dk w W b S k) (hO:S.Ok) (hk5:k≤5000) (hx:x.length≤3000) {a1:List UInt8} (hk:cutL 32 x=[kOpen,a1]) {L:List Nat} (h1:bytesR a1=some L) (hf:oF L≠0) :
    Calls Tryz.prog 7 #[.pointer (some ⟨b,0,none⟩),.string (bs x)] W (LineE w b (k+1) (.err (oF L),S)):=by
  have C:=hidden (cut2 (h.more (Nat.le_succ k)) hx (show cutL 32 x=[[111,112,101,110],a1] from hk))
  have CN:=hidden (fun W=>needs_open W)
  have hl1:=word_len hx hk (y:=a1) (by simp)
  have q0:((bs [111,112,101,110]).toList==[117,110,119,114,97,112])=false:=eq_no (by decide)
  have q1:((bs [111,112,101,110]).toList==[115,101,101,110])=false:=eq_no (by decide)
  have q2:((bs [111,112,101,110]).toList==[99,114,99])=false:=eq_no (by decide)
  have q3:((bs [111,112,101,110]).toList==[111,112,101,110])=true:=eq_yes _
  have hlb:=rb_len h1 (by omega)
  have B1:=hidden (rb_yes h1 (by omega))
  have HM:=hidden (fun (W:World) a cap (hA:Arg W a L.length L) (hc:L.length≤cap)=>ropen_calls a L.length cap L W hA hc (by omega))
  have h9:oF L≤9:=by unfold oF;split;omega;split<;>omega
  have HN1:=hidden (rname_calls (oF L) (by omega) h9)
  have d0:((oF L:Int)==0)=false:=by simp;omega
  have d1:decide ((oF L:Int)=0)=false:=by simp;omega
  clear h9
  generalize oF L=f at *
  generalize L.length=n at *
  clear h hO hx hk h1 hlb hf
  go_enter Tryz.func7,Tryz.ntmps7
  go_wp2_with fail
  refine C.out.mono ?_
  rintro e w1 ⟨g,cap,rfl,⟨c0,c1⟩,hd⟩
  have HD:=hidden hd
  clear hd
  go_wp2_with fail
  refine (CN.out w1).mono ?_
  rintro e w2 ⟨rfl,hw2⟩
  obtain rfl:w1=w2:=hw2.symm
  clear hw2
  go_wp2_with fail
  refine (B1.out w1).mono ?_
  rintro e w2 ⟨a,cap,rfl,hA,hcap,hb⟩
  have c0':w2.cell? ⟨g,0,none⟩=some (.string (bs [111,112,101,110])):=(hb.cell (World.block_lt_of_cell? _ _ c0)).trans c0
  have HD2:=hidden (HD.out.below hb)
  have HM2:=hidden (HM.out w2 a cap hA hcap)
  clear hb hA hcap c0 c1
  go_wp2_with fail
  refine HM2.out.mono ?_
  rintro e w3 ⟨a',m',cc',rfl,_,hb⟩
  have HD3:=hidden (HD2.out.below hb)
  clear hb
  go_wp2_with fail
  refine (HN1.out w3).mono ?_
  rintro e w4 ⟨rfl,hb⟩
  go_wp2_with fail
  go_ret
  exact ⟨rfl,HD3.out.below hb⟩
set_option maxRecDepth 100000 in
set_option maxHeartbeats 1000000 in
theorem li_open_ok {w W:World} {b k:Nat} {S:Ss} {x:List UInt8} (h:Dk w W b S k) (hO:S.Ok) (hk5:k≤5000) (hx:x.length≤3000) {a1:List UInt8} (hk:cutL 32 x=[kOpen,a1]) {L:List Nat} (h1:bytesR a1=some L) (hf:oF L=0) :
    Calls Tryz.prog 7 #[.pointer (some ⟨b,0,none⟩),.string (bs x)] W (LineE w b (k+1) (.ok (hexOf (L.take (L.length - 4))),S)):=by
  have C:=hidden (cut2 (h.more (Nat.le_succ k)) hx (show cutL 32 x=[[111,112,101,110],a1] from hk))
  have CN:=hidden (fun W=>needs_open W)
  have hl1:=word_len hx hk (y:=a1) (by simp)
  have q0:((bs [111,112,101,110]).toList==[117,110,119,114,97,112])=false:=eq_no (by decide)
  have q1:((bs [111,112,101,110]).toList==[115,101,101,110])=false:=eq_no (by decide)
  have q2:((bs [111,112,101,110]).toList==[99,114,99])=false:=eq_no (by decide)
  have q3:((bs [111,112,101,110]).toList==[111,112,101,110])=true:=eq_yes _
  have hlb:=rb_len h1 (by omega)
  have B1:=hidden (rb_yes h1 (by omega))
  have HM:=hidden (fun (W:World) a cap (hA:Arg W a L.length L) (hc:L.length≤cap)=>ropen_calls a L.length cap L W hA hc (by omega))
  have HZ:Hid (∀ (W:World) a m cap,Arg W a m (L.take (L.length - 4))→m≤100000→_):=hidden (fun W a m cap hA hm=>hex_calls a m cap (L.take (L.length - 4)) W hA hm)
  rw [hf] at HM
  generalize L.take (L.length - 4)=K at *
  generalize L.length=n at *
  clear h hO hx hk h1 hlb hf
  go_enter Tryz.func7,Tryz.ntmps7
  go_wp2_with fail
  refine C.out.mono ?_
  rintro e w1 ⟨g,cap,rfl,⟨c0,c1⟩,hd⟩
  have HD:=hidden hd
  clear hd
  go_wp2_with fail
  refine (CN.out w1).mono ?_
  rintro e w2 ⟨rfl,hw2⟩
  obtain rfl:w1=w2:=hw2.symm
  clear hw2
  go_wp2_with fail
  refine (B1.out w1).mono ?_
  rintro e w2 ⟨a,cap,rfl,hA,hcap,hb⟩
  have c0':w2.cell? ⟨g,0,none⟩=some (.string (bs [111,112,101,110])):=(hb.cell (World.block_lt_of_cell? _ _ c0)).trans c0
  have HD2:=hidden (HD.out.below hb)
  have HM2:=hidden (HM.out w2 a cap hA hcap)
  clear hb hA hcap c0 c1
  go_wp2_with fail
  refine HM2.out.mono ?_
  rintro e w3 ⟨a',m',cc',rfl,hA3,hb⟩
  have HD3:=hidden (HD2.out.below hb)
  have HX:=hidden (HZ.out w3 a' m' cc' (hA3 (by first | rfl | trivial)).1 (hA3 (by first | rfl | trivial)).2)
  clear hb hA3
  go_wp2_with fail
  refine HX.out.mono ?_
  rintro e w4 ⟨rfl,hb⟩
  go_wp2_with fail
  go_ret
  exact ⟨rfl,HD3.out.below hb⟩
theorem line_open {w W:World} {b k:Nat} {S:Ss} {x:List UInt8} (h:Dk w W b S k) (hO:S.Ok) (hk5:k≤5000) (hx:x.length≤3000) {a1:List UInt8} (hk:cutL 32 x=[kOpen,a1]) :
    Calls Tryz.prog 7 #[.pointer (some ⟨b,0,none⟩),.string (bs x)] W (LineE w b (k+1) (aOpen ⟨[a1],false⟩,S)):=by
  cases h1:bytesR a1 with
  | none=>
    rw [open_bad h1]
    exact li_open_n h hO hk5 hx hk h1
  | some L=>
    rw [open_ok h1]
    by_cases hf:oF L=0
    · rw [An.of_ok hf]
      exact li_open_ok h hO hk5 hx hk h1 hf
    · rw [An.of_err hf]
      exact li_open_e h hO hk5 hx hk h1 hf
theorem pairs_fit2 (L:List Int):(Back.pr (Back.prsOf L)).length≤200∧∀ p∈Back.pr (Back.prsOf L),(0≤p.1∧p.1≤9223372036854775807)∧(0≤p.2∧p.2≤9223372036854775807):=by
  unfold Back.prsOf
  split
  · rename_i hf
    have hf2:=hf
    unfold Back.pfault at hf2
    split at hf2
    · omega
    · split at hf2
      · omega
      · rename_i hn hr
        have hr2:=Back.in_range (by simpa using hr)
        have hfit:=BM.fit_pairs _ ((BM.norm_of L).1)
        have h1:=pairs_len (BM.norm L)
        have h2:=BM.norm_len L
        refine ⟨by rw [Back.pr_len];omega,?_⟩
        intro p hp
        unfold Back.pr at hp
        obtain ⟨q,hq,rfl⟩:=List.mem_map.1 hp
        have h3:=hfit.mask q hq
        have h4:=hr2 _ (((BM.norm_of L).2 _).1 (hfit.base q hq))
        simp only
        omega
  · exact ⟨by simp [Back.pr],by simp [Back.pr]⟩
theorem pair_step {P:List (Int×Int)} (hne:P≠[]) (hl:P.length≤200) (hb:∀ p∈P,(0≤p.1∧p.1≤9223372036854775807)∧(0≤p.2∧p.2≤9223372036854775807)) (i:Nat) (hi:i<P.length) :
    (0≤(P.getD i (0,0)).1+9223372036854775807∧(P.getD i (0,0)).1≤9223372036854775807)∧(0≤(P.getD i (0,0)).2+9223372036854775807∧(P.getD i (0,0)).2≤9223372036854775807) ∧
    (i=0→bs (Lib.join ((P.map pairText).take (i+1)) [32])=bs (Lib.join ((P.map pairText).take i) [32])++bs (Lib.itoa (P.getD i (0,0)).1)++⟨#[58]⟩++bs (Lib.itoa (P.getD i (0,0)).2)) ∧
    (i≠0→bs (Lib.join ((P.map pairText).take (i+1)) [32])=bs (Lib.join ((P.map pairText).take i) [32])++⟨#[32]⟩++bs (Lib.itoa (P.getD i (0,0)).1)++⟨#[58]⟩++bs (Lib.itoa (P.getD i (0,0)).2)) ∧
    (Lib.join ((P.map pairText).take i) [32]).length≤1000000:=by
  have hm:P.getD i (0,0)∈P:=by rw [List.getD_eq_getElem?_getD,List.getElem?_eq_getElem hi];exact List.getElem_mem hi
  obtain ⟨b1,b2⟩:=hb _ hm
  have ht:(P.map pairText).take (i+1)=(P.map pairText).take i++[pairText (P.getD i (0,0))]:=by
    rw [List.take_add_one,List.getElem?_map,List.getElem?_eq_getElem hi,List.getD_eq_getElem?_getD,List.getElem?_eq_getElem hi]
    rfl
  have e58:(⟨#[58]⟩:ByteArray)=bs [58]:=rfl
  have e32:(⟨#[32]⟩:ByteArray)=bs [32]:=rfl
  refine ⟨by omega,by omega,fun h0=>?_,fun h0=>?_,?_⟩
  · subst h0
    rw [ht,List.take_zero,List.nil_append,Lib.join_one,Lib.join_nil,e58,bs_app,bs_app,bs_app]
    rfl
  · have hne2:(P.map pairText).take i≠[]:=by
      intro e
      have:=congrArg List.length e
      rw [List.length_take,List.length_map,List.length_nil] at this
      omega
    rw [ht,join_snoc _ _ _ hne2,e58,e32,bs_app,bs_app,bs_app,bs_app]
    unfold pairText
    simp
  · have:=join_le 32 43 ((P.map pairText).take i) (fun y hy=>by
      obtain ⟨q,hq,rfl⟩:=List.mem_map.1 (List.mem_of_mem_take hy)
      obtain ⟨c1,c2⟩:=hb q hq
      have l1:=Lib.itoa_length_le q.1 (by omega) (by omega)
      have l2:=Lib.itoa_length_le q.2 (by omega) (by omega)
      unfold pairText
      simp
      omega)
    rw [List.length_take,List.length_map] at this
    have h2:44*min i P.length≤44*200:=Nat.mul_le_mul_left _ (by omega)
    omega
set_option maxRecDepth 100000 in
set_option maxHeartbeats 1000000 in
theorem li_pairs_n {w W:World} {b k:Nat} {S:Ss} {x:List UInt8} (h:Dk w W b S k) (hO:S.Ok) (hk5:k≤5000) (hx:x.length≤3000) {a1:List UInt8} (hk:cutL 32 x=[kPairs,a1]) (h1:listR a1=none) :
    Calls Tryz.prog 7 #[.pointer (some ⟨b,0,none⟩),.string (bs x)] W (LineE w b (k+1) (.bad,S)):=by
  have C:=hidden (cut2 (h.more (Nat.le_succ k)) hx (show cutL 32 x=[[112,97,105,114,115],a1] from hk))
  have CN:=hidden (fun W=>needs_pairs W)
  have hl1:=word_len hx hk (y:=a1) (by simp)
  have q0:((bs [112,97,105,114,115]).toList==[117,110,119,114,97,112])=false:=eq_no (by decide)
  have q1:((bs [112,97,105,114,115]).toList==[115,101,101,110])=false:=eq_no (by decide)
  have q2:((bs [112,97,105,114,115]).toList==[99,114,99])=false:=eq_no (by decide)
  have q3:((bs [112,97,105,114,115]).toList==[111,112,101,110])=false:=eq_no (by decide)
  have q4:((bs [112,97,105,114,115]).toList==[112,97,105,114,115])=true:=eq_yes _
  have B1:=hidden (rl_no h1 (by omega))
  clear h hO hx hk h1
  go_enter Tryz.func7,Tryz.ntmps7
  go_wp2_with fail
  refine C.out.mono ?_
  rintro e w1 ⟨g,cap,rfl,⟨c0,c1⟩,hd⟩
  have HD:=hidden hd
  clear hd
  go_wp2_with fail
  refine (CN.out w1).mono ?_
  rintro e w2 ⟨rfl,hw2⟩
  obtain rfl:w1=w2:=hw2.symm
  clear hw2
  go_wp2_with fail
  refine (B1.out w1).mono ?_
  rintro e w2 ⟨rfl,hb⟩
  have HD2:=hidden (HD.out.below hb)
  clear hb
  go_wp2_with fail
  go_ret
  exact ⟨rfl,HD2.out⟩
set_option maxRecDepth 100000 in
set_option maxHeartbeats 1000000 in
theorem li_pairs_e {w W:World} {b k:Nat} {S:Ss} {x:List UInt8} (h:Dk w W b S k) (hO:S.Ok) (hk5:k≤5000) (hx:x.length≤3000) {a1:List UInt8} (hk:cutL 32 x=[kPairs,a1]) {L:List Int} (h1:listR a1=some L) (hf:Back.pfault L≠0) :
    Calls Tryz.prog 7 #[.pointer (some ⟨b,0,none⟩),.string (bs x)] W (LineE w b (k+1) (.err (Back.pfault L),S)):=by
  have C:=hidden (cut2 (h.more (Nat.le_succ k)) hx (show cutL 32 x=[[112,97,105,114,115],a1] from hk))
  have CN:=hidden (fun W=>needs_pairs W)
  have hl1:=word_len hx hk (y:=a1) (by simp)
  have q0:((bs [112,97,105,114,115]).toList==[117,110,119,114,97,112])=false:=eq_no (by decide)
  have q1:((bs [112,97,105,114,115]).toList==[115,101,101,110])=false:=eq_no (by decide)
  have q2:((bs [112,97,105,114,115]).toList==[99,114,99])=false:=eq_no (by decide)
  have q3:((bs [112,97,105,114,115]).toList==[111,112,101,110])=false:=eq_no (by decide)
  have q4:((bs [112,97,105,114,115]).toList==[112,97,105,114,115])=true:=eq_yes _
  have hln:=(rl_len h1 (by omega)).1
  have B1:=hidden (rl_yes h1 (by omega))
  have HM:=hidden (fun (W:World) a cap (hA:Back.IArg W a L.length L)=>rpairs_all a L.length cap L W hA)
  have h9:Back.pfault L≤9:=by unfold Back.pfault;split;omega;split<;>omega
  have HN1:=hidden (rname_calls (Back.pfault L) (by omega) h9)
  have d0:((Back.pfault L:Int)==0)=false:=by simp;omega
  have d1:decide ((Back.pfault L:Int)=0)=false:=by simp;omega
  clear h9
  generalize Back.pfault L=f at *
  generalize L.length=n at *
  clear h hO hx hk h1 hf
  go_enter Tryz.func7,Tryz.ntmps7
  go_wp2_with fail
  refine C.out.mono ?_
  rintro e w1 ⟨g,cap,rfl,⟨c0,c1⟩,hd⟩
  have HD:=hidden hd
  clear hd
  go_wp2_with fail
  refine (CN.out w1).mono ?_
  rintro e w2 ⟨rfl,hw2⟩
  obtain rfl:w1=w2:=hw2.symm
  clear hw2
  go_wp2_with fail
  refine (B1.out w1).mono ?_
  rintro e w2 ⟨a,cap,rfl,⟨_,hA,_⟩,hb⟩
  have HD2:=hidden (HD.out.below hb)
  have HM2:=hidden (HM.out w2 a cap hA)
  clear hb hA c0 c1
  go_wp2_with fail
  refine HM2.out.mono ?_
  rintro e w3 ⟨a3,m,c3,rfl,hA3,hb⟩
  have HD3:=hidden (HD2.out.below hb)
  clear hb
  go_wp2_with fail
  refine (HN1.out w3).mono ?_
  rintro e w4 ⟨rfl,hb⟩
  go_wp2_with fail
  go_ret
  exact ⟨rfl,HD3.out.below hb⟩
set_option maxRecDepth 100000 in
set_option maxHeartbeats 1000000 in
theorem li_pairs_z {w W:World} {b k:Nat} {S:Ss} {x:List UInt8} (h:Dk w W b S k) (hO:S.Ok) (hk5:k≤5000) (hx:x.length≤3000) {a1:List UInt8} (hk:cutL 32 x=[kPairs,a1]) {L:List Int} (h1:listR a1=some L) (hf:Back.pfault L=0∧Back.pr (Back.prsOf L)=[]) :
    Calls Tryz.prog 7 #[.pointer (some ⟨b,0,none⟩),.string (bs x)] W (LineE w b (k+1) (.ok (joined ((Back.pr (Back.prsOf L)).map pairText) 32),S)):=by
  have C:=hidden (cut2 (h.more (Nat.le_succ k)) hx (show cutL 32 x=[[112,97,105,114,115],a1] from hk))
  have CN:=hidden (fun W=>needs_pairs W)
  have hl1:=word_len hx hk (y:=a1) (by simp)
  have q0:((bs [112,97,105,114,115]).toList==[117,110,119,114,97,112])=false:=eq_no (by decide)
  have q1:((bs [112,97,105,114,115]).toList==[115,101,101,110])=false:=eq_no (by decide)
  have q2:((bs [112,97,105,114,115]).toList==[99,114,99])=false:=eq_no (by decide)
  have q3:((bs [112,97,105,114,115]).toList==[111,112,101,110])=false:=eq_no (by decide)
  have q4:((bs [112,97,105,114,115]).toList==[112,97,105,114,115])=true:=eq_yes _
  have hln:=(rl_len h1 (by omega)).1
  have B1:=hidden (rl_yes h1 (by omega))
  have HM:=hidden (fun (W:World) a cap (hA:Back.IArg W a L.length L)=>rpairs_all a L.length cap L W hA)
  rw [hf.2]
  rw [hf.1,hf.2] at HM
  generalize L.length=n at *
  clear h hO hx hk h1 hf
  go_enter Tryz.func7,Tryz.ntmps7
  go_wp2_with fail
  refine C.out.mono ?_
  rintro e w1 ⟨g,cap,rfl,⟨c0,c1⟩,hd⟩
  have HD:=hidden hd
  clear hd
  go_wp2_with fail
  refine (CN.out w1).mono ?_
  rintro e w2 ⟨rfl,hw2⟩
  obtain rfl:w1=w2:=hw2.symm
  clear hw2
  go_wp2_with fail
  refine (B1.out w1).mono ?_
  rintro e w2 ⟨a,cap,rfl,⟨_,hA,_⟩,hb⟩
  have HD2:=hidden (HD.out.below hb)
  have HM2:=hidden (HM.out w2 a cap hA)
  clear hb hA c0 c1
  go_wp2_with fail
  refine HM2.out.mono ?_
  rintro e w3 ⟨a3,m,c3,rfl,hA3,hb⟩
  have HD3:=hidden (HD2.out.below hb)
  clear hb
  obtain rfl:m=0:=hA3.2.1.symm
  clear hA3
  go_wp2_with fail
  go_ret
  exact ⟨rfl,HD3.out⟩
set_option maxRecDepth 100000 in
set_option maxHeartbeats 1000000 in
theorem li_pairs_ok {w W:World} {b k:Nat} {S:Ss} {x:List UInt8} (h:Dk w W b S k) (hO:S.Ok) (hk5:k≤5000) (hx:x.length≤3000) {a1:List UInt8} (hk:cutL 32 x=[kPairs,a1]) {L:List Int} (h1:listR a1=some L) (hf:Back.pfault L=0∧Back.pr (Back.prsOf L)≠[]) :
    Calls Tryz.prog 7 #[.pointer (some ⟨b,0,none⟩),.string (bs x)] W (LineE w b (k+1) (.ok (joined ((Back.pr (Back.prsOf L)).map pairText) 32),S)):=by
  have C:=hidden (cut2 (h.more (Nat.le_succ k)) hx (show cutL 32 x=[[112,97,105,114,115],a1] from hk))
  have CN:=hidden (fun W=>needs_pairs W)
  have hl1:=word_len hx hk (y:=a1) (by simp)
  have q0:((bs [112,97,105,114,115]).toList==[117,110,119,114,97,112])=false:=eq_no (by decide)
  have q1:((bs [112,97,105,114,115]).toList==[115,101,101,110])=false:=eq_no (by decide)
  have q2:((bs [112,97,105,114,115]).toList==[99,114,99])=false:=eq_no (by decide)
  have q3:((bs [112,97,105,114,115]).toList==[111,112,101,110])=false:=eq_no (by decide)
  have q4:((bs [112,97,105,114,115]).toList==[112,97,105,114,115])=true:=eq_yes _
  have hln:=(rl_len h1 (by omega)).1
  have B1:=hidden (rl_yes h1 (by omega))
  have HM:=hidden (fun (W:World) a cap (hA:Back.IArg W a L.length L)=>rpairs_all a L.length cap L W hA)
  have hfit:=pairs_fit2 L
  rw [hf.1] at HM
  have hne:=hf.2
  generalize Back.pr (Back.prsOf L)=P at *
  obtain ⟨HPD⟩:Nonempty (Hid (∀ i,i<P.length→_)):=⟨hidden (pair_step hne hfit.1 hfit.2)⟩
  have HLP:=hidden hfit.1
  have HJ:=hidden (show joined (P.map pairText) 32=Lib.join (P.map pairText) [32] from if_neg (by simpa using hne))
  have HJ0:Hid (bs (Lib.join ((P.map pairText).take 0) [32])=⟨#[]⟩):=hidden (by rw [List.take_zero,Lib.join_nil];rfl)
  rw [HJ.out]
  have hP0:=List.length_pos_iff.2 hne
  have hlp:=hfit.1
  clear hfit hne
  generalize L.length=n at *
  clear h hO hx hk h1 hf
  go_enter Tryz.func7,Tryz.ntmps7
  go_wp2_with fail
  refine C.out.mono ?_
  rintro e w1 ⟨g,cap,rfl,⟨c0,c1⟩,hd⟩
  have HD:=hidden hd
  clear hd
  go_wp2_with fail
  refine (CN.out w1).mono ?_
  rintro e w2 ⟨rfl,hw2⟩
  obtain rfl:w1=w2:=hw2.symm
  clear hw2
  go_wp2_with fail
  refine (B1.out w1).mono ?_
  rintro e w2 ⟨a,cap,rfl,⟨_,hA,_⟩,hb⟩
  have HD2:=hidden (HD.out.below hb)
  have HM2:=hidden (HM.out w2 a cap hA)
  clear hb hA c0 c1
  go_wp2_with fail
  refine HM2.out.mono ?_
  rintro e w3 ⟨a3,m,c3,rfl,hA3,hb⟩
  have HD3:=hidden (HD2.out.below hb)
  clear hb
  have hml:=hA3.2.1
  obtain ⟨pb,po,rfl,_,hat⟩:=Back.PArg.at hA3 (by omega)
  have HAT:=hidden hat
  have HML:=hidden hml
  clear hA3 hat
  rw [hml] at hP0 hlp
  have d0:decide ((m:Int)=0)=false:=by simp;omega
  have d1:((m:Int)==0)=false:=by simp;omega
  have d2:(m==0)=false:=by simp;omega
  go_wp2_with fail
  go_loopg [23,24] m (fun gg u y wr=>∃ (i:Nat),i+gg=m∧y=.int .i64 (i:Int)∧u=.string (bs (Lib.join ((P.map pairText).take i) [32]))∧wr=w3)
  case atStart=>exact ⟨0,by omega,rfl,by rw [HJ0.out],rfl⟩
  case round=>
    obtain ⟨i,hig,rfl,rfl,hwr⟩:=hrel
    rw [hwr]
    clear hwr
    by_cases hi:i<m
    · have hiz:(i:Int)<(m:Int):=by omega
      obtain ⟨e0,e1⟩:=HAT.out i hi
      obtain ⟨q1,q2,q3,q4,q5⟩:=HPD.out i (by have:=HML.out;omega)
      obtain ⟨p,hp⟩:∃ p,P.getD i (0,0)=p:=⟨_,rfl⟩
      rw [hp] at e0 e1 q1 q2 q3 q4
      obtain ⟨x1,x2⟩:=p
      simp only at e0 e1 q1 q2 q3 q4
      have C1:=hidden (digits_calls x1 (by omega) (by omega))
      have C2:=hidden (digits_calls x2 (by omega) (by omega))
      have hl1:=Lib.itoa_length_le x1 (by omega) (by omega)
      have hl2:=Lib.itoa_length_le x2 (by omega) (by omega)
      have sx:=bs_size (Lib.join ((P.map pairText).take i) [32])
      have s1:=bs_size (Lib.itoa x1)
      have s2:=bs_size (Lib.itoa x2)
      have HQ3:=hidden q3
      have HQ4:=hidden q4
      clear hp q1 q2 q3 q4
      generalize bs (Lib.join ((P.map pairText).take i) [32])=X at *
      generalize bs (Lib.itoa x1)=Y1 at *
      generalize bs (Lib.itoa x2)=Y2 at *
      by_cases hi0:i=0
      · subst hi0
        have HF:=hidden (HQ3.out rfl)
        simp only [Nat.zero_mul,Nat.add_zero] at e0 e1
        have n1:¬ 9223372036854775807<X.size+Y1.size:=by omega
        have n2:X.size+Y1.size≤9223372036854775807:=by omega
        have n3:¬ 9223372036854775807<X.size+Y1.size+1:=by omega
        have n4:X.size+Y1.size+1≤9223372036854775807:=by omega
        have n5:¬ 9223372036854775807<X.size+Y1.size+1+Y2.size:=by omega
        have n6:X.size+Y1.size+1+Y2.size≤9223372036854775807:=by omega
        have m3:¬ 9223372036854775807<(X++Y1).size+1:=by rw [ByteArray.size_append];exact n3
        have m5:¬ 9223372036854775807<(X++Y1++⟨#[58]⟩).size+Y2.size:=by rw [ByteArray.size_append,ByteArray.size_append];exact n5
        clear sx s1 s2 hl1 hl2 q5
        go_wp2_with fail
        refine (C1.out w3).mono ?_
        rintro e w4 ⟨rfl,hw4⟩
        rw [hw4]
        clear hw4
        go_wp2_with fail
        refine (C2.out w3).mono ?_
        rintro e w4 ⟨rfl,hw4⟩
        rw [hw4]
        clear hw4
        go_wp2_with fail
        go_roundg (m - 1)
        case measure=>omega
        case rel=>exact ⟨0+1,by omega,by go_num,by rw [HF.out],rfl⟩
      · have hiz0:(0:Int)<(i:Int):=by omega
        have hin:0<i:=by omega
        have dz:decide ((0:Int)<(i:Int))=true:=by simp;omega
        have dn:decide (0<i)=true:=by simp;omega
        have HF:=hidden (HQ4.out hi0)
        have n0:¬ 9223372036854775807<X.size+1:=by omega
        have n0':X.size+1≤9223372036854775807:=by omega
        have n1:¬ 9223372036854775807<X.size+1+Y1.size:=by omega
        have n2:X.size+1+Y1.size≤9223372036854775807:=by omega
        have n3:¬ 9223372036854775807<X.size+1+Y1.size+1:=by omega
        have n4:X.size+1+Y1.size+1≤9223372036854775807:=by omega
        have n5:¬ 9223372036854775807<X.size+1+Y1.size+1+Y2.size:=by omega
        have n6:X.size+1+Y1.size+1+Y2.size≤9223372036854775807:=by omega
        have m1:¬ 9223372036854775807<(X++⟨#[32]⟩).size+Y1.size:=by rw [ByteArray.size_append];exact n1
        have m3:¬ 9223372036854775807<(X++⟨#[32]⟩++Y1).size+1:=by rw [ByteArray.size_append,ByteArray.size_append];exact n3
        have m5:¬ 9223372036854775807<(X++⟨#[32]⟩++Y1++⟨#[58]⟩).size+Y2.size:=by rw [ByteArray.size_append,ByteArray.size_append,ByteArray.size_append];exact n5
        clear sx s1 s2 hl1 hl2 q5
        go_wp2_with fail
        refine (C1.out w3).mono ?_
        rintro e w4 ⟨rfl,hw4⟩
        rw [hw4]
        clear hw4
        go_wp2_with fail
        refine (C2.out w3).mono ?_
        rintro e w4 ⟨rfl,hw4⟩
        rw [hw4]
        clear hw4
        go_wp2_with fail
        go_roundg (m - (i+1))
        case measure=>omega
        case rel=>exact ⟨i+1,by omega,by go_num,by rw [HF.out],rfl⟩
    · have hiz:¬ (i:Int)<(m:Int):=by omega
      have he:(P.map pairText).take i=P.map pairText:=List.take_of_length_le (by rw [List.length_map];have:=HML.out;omega)
      rw [he]
      go_wp2_with fail
      go_ret
      exact ⟨rfl,HD3.out⟩
theorem line_pairs {w W:World} {b k:Nat} {S:Ss} {x:List UInt8} (h:Dk w W b S k) (hO:S.Ok) (hk5:k≤5000) (hx:x.length≤3000) {a1:List UInt8} (hk:cutL 32 x=[kPairs,a1]) :
    Calls Tryz.prog 7 #[.pointer (some ⟨b,0,none⟩),.string (bs x)] W (LineE w b (k+1) (aPairs ⟨[a1],false⟩,S)):=by
  cases h1:listR a1 with
  | none=>
    rw [pairs_bad h1]
    exact li_pairs_n h hO hk5 hx hk h1
  | some L=>
    rw [pairs_ok h1]
    by_cases hf:Back.pfault L=0
    · rw [An.of_ok hf]
      by_cases hp:Back.pr (Back.prsOf L)=[]
      · exact li_pairs_z h hO hk5 hx hk h1 ⟨hf,hp⟩
      · exact li_pairs_ok h hO hk5 hx hk h1 ⟨hf,hp⟩
    · rw [An.of_err hf]
      exact li_pairs_e h hO hk5 hx hk h1 hf
set_option maxRecDepth 100000 in
set_option maxHeartbeats 1000000 in
theorem li_fair_nn {w W:World} {b k:Nat} {S:Ss} {x:List UInt8} (h:Dk w W b S k) (hO:S.Ok) (hk5:k≤5000) (hx:x.length≤3000) {a1 a2:List UInt8} (hk:cutL 32 x=[kFair,a1,a2]) (h1:numL a1=none) (h2:listR a2=none) :
    Calls Tryz.prog 7 #[.pointer (some ⟨b,0,none⟩),.string (bs x)] W (LineE w b (k+1) (.bad,S)):=by
  have C:=hidden (cut3 (h.more (Nat.le_succ k)) hx (show cutL 32 x=[[102,97,105,114],a1,a2] from hk))
  have CN:=hidden (fun W=>needs_fair W)
  have hl1:=word_len hx hk (y:=a1) (by simp)
  have hl2:=word_len hx hk (y:=a2) (by simp)
  have q0:((bs [102,97,105,114]).toList==[117,110,119,114,97,112])=false:=eq_no (by decide)
  have q1:((bs [102,97,105,114]).toList==[115,101,101,110])=false:=eq_no (by decide)
  have q2:((bs [102,97,105,114]).toList==[99,114,99])=false:=eq_no (by decide)
  have q3:((bs [102,97,105,114]).toList==[111,112,101,110])=false:=eq_no (by decide)
  have q4:((bs [102,97,105,114]).toList==[112,97,105,114,115])=false:=eq_no (by decide)
  have q5:((bs [102,97,105,114]).toList==[102,97,105,114])=true:=eq_yes _
  have N1:=hidden (nine_calls a1 (by omega))
  rw [h1,nineE_none] at N1
  have B2:=hidden (rl_no h2 (by omega))
  clear h hO hx hk h1 h2
  go_enter Tryz.func7,Tryz.ntmps7
  go_wp2_with fail
  refine C.out.mono ?_
  rintro e w1 ⟨g,cap,rfl,⟨c0,c1,c2⟩,hd⟩
  have HD:=hidden hd
  clear hd
  go_wp2_with fail
  refine (CN.out w1).mono ?_
  rintro e w2 ⟨rfl,hw2⟩
  obtain rfl:w1=w2:=hw2.symm
  clear hw2
  go_wp2_with fail
  refine (N1.out w1).mono ?_
  rintro e w2 ⟨rfl,hw2⟩
  obtain rfl:w1=w2:=hw2.symm
  clear hw2
  go_wp2_with fail
  refine (B2.out w1).mono ?_
  rintro e w2 ⟨rfl,hb⟩
  have HD2:=hidden (HD.out.below hb)
  clear hb
  go_wp2_with fail
  go_ret
  exact ⟨rfl,HD2.out⟩
set_option maxRecDepth 100000 in
set_option maxHeartbeats 1000000 in
theorem li_fair_ns {w W:World} {b k:Nat} {S:Ss} {x:List UInt8} (h:Dk w W b S k) (hO:S.Ok) (hk5:k≤5000) (hx:x.length≤3000) {a1 a2:List UInt8} (hk:cutL 32 x=[kFair,a1,a2]) (h1:numL a1=none) {L:List Int} (h2:listR a2=some L) :
    Calls Tryz.prog 7 #[.pointer (some ⟨b,0,none⟩),.string (bs x)] W (LineE w b (k+1) (.bad,S)):=by
  have C:=hidden (cut3 (h.more (Nat.le_succ k)) hx (show cutL 32 x=[[102,97,105,114],a1,a2] from hk))
  have CN:=hidden (fun W=>needs_fair W)
  have hl1:=word_len hx hk (y:=a1) (by simp)
  have hl2:=word_len hx hk (y:=a2) (by simp)
  have q0:((bs [102,97,105,114]).toList==[117,110,119,114,97,112])=false:=eq_no (by decide)
  have q1:((bs [102,97,105,114]).toList==[115,101,101,110])=false:=eq_no (by decide)
  have q2:((bs [102,97,105,114]).toList==[99,114,99])=false:=eq_no (by decide)
  have q3:((bs [102,97,105,114]).toList==[111,112,101,110])=false:=eq_no (by decide)
  have q4:((bs [102,97,105,114]).toList==[112,97,105,114,115])=false:=eq_no (by decide)
  have q5:((bs [102,97,105,114]).toList==[102,97,105,114])=true:=eq_yes _
  have N1:=hidden (nine_calls a1 (by omega))
  rw [h1,nineE_none] at N1
  have B2:=hidden (rl_yes h2 (by omega))
  have hln:=(rl_len h2 (by omega)).1
  generalize L.length=n at *
  clear h hO hx hk h1 h2
  go_enter Tryz.func7,Tryz.ntmps7
  go_wp2_with fail
  refine C.out.mono ?_
  rintro e w1 ⟨g,cap,rfl,⟨c0,c1,c2⟩,hd⟩
  have HD:=hidden hd
  clear hd
  go_wp2_with fail
  refine (CN.out w1).mono ?_
  rintro e w2 ⟨rfl,hw2⟩
  obtain rfl:w1=w2:=hw2.symm
  clear hw2
  go_wp2_with fail
  refine (N1.out w1).mono ?_
  rintro e w2 ⟨rfl,hw2⟩
  obtain rfl:w1=w2:=hw2.symm
  clear hw2
  go_wp2_with fail
  refine (B2.out w1).mono ?_
  rintro e w2 ⟨a,cap,rfl,_,hb⟩
  have HD2:=hidden (HD.out.below hb)
  clear hb
  go_wp2_with fail
  go_ret
  exact ⟨rfl,HD2.out⟩
set_option maxRecDepth 100000 in
set_option maxHeartbeats 1000000 in
theorem li_fair_sn {w W:World} {b k:Nat} {S:Ss} {x:List UInt8} (h:Dk w W b S k) (hO:S.Ok) (hk5:k≤5000) (hx:x.length≤3000) {a1 a2:List UInt8} (hk:cutL 32 x=[kFair,a1,a2]) {u1:Int} (h1:numL a1=some u1) (h2:listR a2=none) :
    Calls Tryz.prog 7 #[.pointer (some ⟨b,0,none⟩),.string (bs x)] W (LineE w b (k+1) (.bad,S)):=by
  have C:=hidden (cut3 (h.more (Nat.le_succ k)) hx (show cutL 32 x=[[102,97,105,114],a1,a2] from hk))
  have CN:=hidden (fun W=>needs_fair W)
  have hl1:=word_len hx hk (y:=a1) (by simp)
  have hl2:=word_len hx hk (y:=a2) (by simp)
  have q0:((bs [102,97,105,114]).toList==[117,110,119,114,97,112])=false:=eq_no (by decide)
  have q1:((bs [102,97,105,114]).toList==[115,101,101,110])=false:=eq_no (by decide)
  have q2:((bs [102,97,105,114]).toList==[99,114,99])=false:=eq_no (by decide)
  have q3:((bs [102,97,105,114]).toList==[111,112,101,110])=false:=eq_no (by decide)
  have q4:((bs [102,97,105,114]).toList==[112,97,105,114,115])=false:=eq_no (by decide)
  have q5:((bs [102,97,105,114]).toList==[102,97,105,114])=true:=eq_yes _
  have N1:=hidden (nine_calls a1 (by omega))
  rw [h1,nineE_some] at N1
  have B2:=hidden (rl_no h2 (by omega))
  clear h hO hx hk h1 h2
  go_enter Tryz.func7,Tryz.ntmps7
  go_wp2_with fail
  refine C.out.mono ?_
  rintro e w1 ⟨g,cap,rfl,⟨c0,c1,c2⟩,hd⟩
  have HD:=hidden hd
  clear hd
  go_wp2_with fail
  refine (CN.out w1).mono ?_
  rintro e w2 ⟨rfl,hw2⟩
  obtain rfl:w1=w2:=hw2.symm
  clear hw2
  go_wp2_with fail
  refine (N1.out w1).mono ?_
  rintro e w2 ⟨rfl,hw2⟩
  obtain rfl:w1=w2:=hw2.symm
  clear hw2
  go_wp2_with fail
  refine (B2.out w1).mono ?_
  rintro e w2 ⟨rfl,hb⟩
  have HD2:=hidden (HD.out.below hb)
  clear hb
  go_wp2_with fail
  go_ret
  exact ⟨rfl,HD2.out⟩
set_option maxRecDepth 100000 in
set_option maxHeartbeats 1000000 in
theorem li_fair_e {w W:World} {b k:Nat} {S:Ss} {x:List UInt8} (h:Dk w W b S k) (hO:S.Ok) (hk5:k≤5000) (hx:x.length≤3000) {a1 a2:List UInt8} (hk:cutL 32 x=[kFair,a1,a2]) {u1:Int} (h1:numL a1=some u1) {L:List Int} (h2:listR a2=some L) (hf:RT.rf u1 L 200≠0) :
    Calls Tryz.prog 7 #[.pointer (some ⟨b,0,none⟩),.string (bs x)] W (LineE w b (k+1) (.err (RT.rf u1 L 200),S)):=by
  have C:=hidden (cut3 (h.more (Nat.le_succ k)) hx (show cutL 32 x=[[102,97,105,114],a1,a2] from hk))
  have CN:=hidden (fun W=>needs_fair W)
  have hl1:=word_len hx hk (y:=a1) (by simp)
  have hl2:=word_len hx hk (y:=a2) (by simp)
  have q0:((bs [102,97,105,114]).toList==[117,110,119,114,97,112])=false:=eq_no (by decide)
  have q1:((bs [102,97,105,114]).toList==[115,101,101,110])=false:=eq_no (by decide)
  have q2:((bs [102,97,105,114]).toList==[99,114,99])=false:=eq_no (by decide)
  have q3:((bs [102,97,105,114]).toList==[111,112,101,110])=false:=eq_no (by decide)
  have q4:((bs [102,97,105,114]).toList==[112,97,105,114,115])=false:=eq_no (by decide)
  have q5:((bs [102,97,105,114]).toList==[102,97,105,114])=true:=eq_yes _
  have N1:=hidden (nine_calls a1 (by omega))
  rw [h1,nineE_some] at N1
  have hln:=(rl_len h2 (by omega)).1
  have B2:=hidden (rl_yes h2 (by omega))
  have HR:=hidden (fun (W:World) a cap (hA:Rate.IArg W a L.length L)=>Rate.rates_calls u1 a L.length cap 200 L W hA (by omega))
  have h9:RT.rf u1 L 200≤9:=by unfold RT.rf;split<;>(try split)<;>(try split)<;>omega
  have HN1:=hidden (rname_calls (RT.rf u1 L 200) (by omega) h9)
  have d0:((RT.rf u1 L 200:Int)==0)=false:=by simp;omega
  have d1:decide ((RT.rf u1 L 200:Int)=0)=false:=by simp;omega
  clear h9
  generalize RT.rf u1 L 200=f at *
  generalize L.length=n at *
  clear h hO hx hk h1 h2 hf
  go_enter Tryz.func7,Tryz.ntmps7
  go_wp2_with fail
  refine C.out.mono ?_
  rintro e w1 ⟨g,cap,rfl,⟨c0,c1,c2⟩,hd⟩
  have HD:=hidden hd
  clear hd
  go_wp2_with fail
  refine (CN.out w1).mono ?_
  rintro e w2 ⟨rfl,hw2⟩
  obtain rfl:w1=w2:=hw2.symm
  clear hw2
  go_wp2_with fail
  refine (N1.out w1).mono ?_
  rintro e w2 ⟨rfl,hw2⟩
  obtain rfl:w1=w2:=hw2.symm
  clear hw2
  go_wp2_with fail
  refine (B2.out w1).mono ?_
  rintro e w2 ⟨a,cap,rfl,⟨_,_,hA⟩,hb⟩
  have HD2:=hidden (HD.out.below hb)
  have HR2:=hidden (HR.out w2 a cap hA)
  have HA:=hidden hA
  clear hb hA
  go_wp2_with fail
  refine HR2.out.mono ?_
  rintro e w3 ⟨rfl,hw3⟩
  obtain rfl:w2=w3:=hw3.symm
  clear hw3
  go_wp2_with fail
  refine (HN1.out w2).mono ?_
  rintro e w4 ⟨rfl,hb⟩
  go_wp2_with fail
  go_ret
  exact ⟨rfl,HD2.out.below hb⟩
set_option maxRecDepth 100000 in
set_option maxHeartbeats 1000000 in
theorem li_fair_ok {w W:World} {b k:Nat} {S:Ss} {x:List UInt8} (h:Dk w W b S k) (hO:S.Ok) (hk5:k≤5000) (hx:x.length≤3000) {a1 a2:List UInt8} (hk:cutL 32 x=[kFair,a1,a2]) {u1:Int} (h1:numL a1=some u1) {L:List Int} (h2:listR a2=some L) (hf:RT.rf u1 L 200=0) :
    Calls Tryz.prog 7 #[.pointer (some ⟨b,0,none⟩),.string (bs x)] W (LineE w b (k+1) (.ok (joined ((Rate.shr u1 L).map Lib.itoa) 44),S)):=by
  have C:=hidden (cut3 (h.more (Nat.le_succ k)) hx (show cutL 32 x=[[102,97,105,114],a1,a2] from hk))
  have CN:=hidden (fun W=>needs_fair W)
  have hl1:=word_len hx hk (y:=a1) (by simp)
  have hl2:=word_len hx hk (y:=a2) (by simp)
  have q0:((bs [102,97,105,114]).toList==[117,110,119,114,97,112])=false:=eq_no (by decide)
  have q1:((bs [102,97,105,114]).toList==[115,101,101,110])=false:=eq_no (by decide)
  have q2:((bs [102,97,105,114]).toList==[99,114,99])=false:=eq_no (by decide)
  have q3:((bs [102,97,105,114]).toList==[111,112,101,110])=false:=eq_no (by decide)
  have q4:((bs [102,97,105,114]).toList==[112,97,105,114,115])=false:=eq_no (by decide)
  have q5:((bs [102,97,105,114]).toList==[102,97,105,114])=true:=eq_yes _
  have N1:=hidden (nine_calls a1 (by omega))
  rw [h1,nineE_some] at N1
  have hln:=(rl_len h2 (by omega)).1
  have B2:=hidden (rl_yes h2 (by omega))
  have HR:=hidden (fun (W:World) a cap (hA:Rate.IArg W a L.length L)=>Rate.rates_calls u1 a L.length cap 200 L W hA (by omega))
  obtain ⟨z1,z2,z3,z4⟩:=RT.rf_zero hf
  have hfit:=fair_fit u1 L hf
  have HX:=hidden (fun (W:World) a cap (hA:Rate.IArg W a L.length L)=>Rate.rfair_calls u1 a L.length cap L W hA z2 z1 z3 z4)
  have HW:=hidden (fun (W:World) v (ho:W.ownsRow w.heap.size 3 1 v L.length (Rate.ic (Rate.shr u1 L)))=>ho)
  have hsl:(Rate.shr u1 L).length=L.length:=by unfold Rate.shr;rw [RT.sh_len]
  have hbd:∀ y∈Rate.shr u1 L,-9223372036854775807≤y∧y≤9223372036854775807:=by
    have hlev:=Rate.shr_lev z2 z3
    have hm:0≤(RT.lv u1 (Rate.srt L)).1:=hlev.m0
    intro y hy
    have h5:=hfit.2 y hy
    unfold Rate.shr at hy
    obtain ⟨j,hj,rfl⟩:=List.getElem_of_mem hy
    rw [RT.sh_len] at hj
    have h5:=RT.sh_one hm (RT.lv u1 (Rate.srt L)).2 L j z2 hj
    have h6:=z2 (L.getD j 0) (by rw [List.getD_eq_getElem?_getD,List.getElem?_eq_getElem hj];simp)
    rw [List.getD_eq_getElem?_getD,List.getElem?_eq_getElem (by rw [RT.sh_len];exact hj),Option.getD_some] at h5
    omega
  have HRW:=hidden (fun (W:World) a cap (hA:Tree.IArg W a L.length (Rate.shr u1 L))=>rrow_calls a L.length cap (Rate.shr u1 L) W hA (by omega) hbd)
  rw [hf] at HR
  clear HW hsl hbd hfit z1 z2 z3 z4
  generalize Rate.shr u1 L=P at *
  have hn200:L.length≤5000:=by omega
  generalize L.length=n at *
  clear h hO hx hk h1 h2 hf
  go_enter Tryz.func7,Tryz.ntmps7
  go_wp2_with fail
  refine C.out.mono ?_
  rintro e w1 ⟨g,cap,rfl,⟨c0,c1,c2⟩,hd⟩
  have HD:=hidden hd
  clear hd
  go_wp2_with fail
  refine (CN.out w1).mono ?_
  rintro e w2 ⟨rfl,hw2⟩
  obtain rfl:w1=w2:=hw2.symm
  clear hw2
  go_wp2_with fail
  refine (N1.out w1).mono ?_
  rintro e w2 ⟨rfl,hw2⟩
  obtain rfl:w1=w2:=hw2.symm
  clear hw2
  go_wp2_with fail
  refine (B2.out w1).mono ?_
  rintro e w2 ⟨a,cap,rfl,⟨_,_,hA⟩,hb⟩
  have HD2:=hidden (HD.out.below hb)
  have HR2:=hidden (HR.out w2 a cap hA)
  have HA:=hidden hA
  clear hb hA
  go_wp2_with fail
  refine HR2.out.mono ?_
  rintro e w3 ⟨rfl,hw3⟩
  obtain rfl:w2=w3:=hw3.symm
  clear hw3
  go_wp2_with fail
  refine (HX.out w2 a cap HA.out).mono ?_
  rintro e w4 ⟨v,rfl,ho,hb⟩
  obtain ⟨a4,cap4,rfl,hA4,_⟩:=Tree.own_ints ho (by omega)
  have HD3:=hidden (HD2.out.below hb)
  have HRR:=hidden (HRW.out w4 a4 cap4 hA4)
  clear hb ho hA4
  go_wp2_with fail
  refine HRR.out.mono ?_
  rintro e w5 ⟨rfl,hw5⟩
  obtain rfl:w4=w5:=hw5.symm
  go_wp2_with fail
  go_ret
  exact ⟨rfl,HD3.out⟩
theorem line_fair {w W:World} {b k:Nat} {S:Ss} {x:List UInt8} (h:Dk w W b S k) (hO:S.Ok) (hk5:k≤5000) (hx:x.length≤3000) {a1 a2:List UInt8} (hk:cutL 32 x=[kFair,a1,a2]) :
    Calls Tryz.prog 7 #[.pointer (some ⟨b,0,none⟩),.string (bs x)] W (LineE w b (k+1) (aFair ⟨[a1,a2],false⟩,S)):=by
  cases h1:numL a1 with
  | none=>
    rw [fair_bad (.inl h1)]
    cases h2:listR a2 with
    | none=>exact li_fair_nn h hO hk5 hx hk h1 h2
    | some L=>exact li_fair_ns h hO hk5 hx hk h1 h2
  | some u=>
    cases h2:listR a2 with
    | none=>
      rw [fair_bad (.inr h2)]
      exact li_fair_sn h hO hk5 hx hk h1 h2
    | some L=>
      rw [fair_ok h1 h2]
      by_cases hf:RT.rf u L 200=0
      · rw [An.of_ok hf]
        exact li_fair_ok h hO hk5 hx hk h1 h2 hf
      · rw [An.of_err hf]
        exact li_fair_e h hO hk5 hx hk h1 h2 hf
theorem spk_bd {f:VO.Sc} {sp:Int} (h:VO.Inv f sp) (l:VO.Vs):-1≤VO.stS f sp l∧VO.stS f sp l≤200:=by
  rcases (VO.inv_st h l).sp with ⟨_,e⟩ | ⟨a,b,_⟩<;>omega
set_option maxRecDepth 100000 in
set_option maxHeartbeats 1000000 in
theorem li_hear_n {w W:World} {b k:Nat} {S:Ss} {x:List UInt8} (h:Dk w W b S k) (hO:S.Ok) (hk5:k≤5000) (hx:x.length≤3000) {a1:List UInt8} (hk:cutL 32 x=[kHear,a1]) (h1:listR a1=none) :
    Calls Tryz.prog 7 #[.pointer (some ⟨b,0,none⟩),.string (bs x)] W (LineE w b (k+1) (.bad,S)):=by
  have C:=hidden (cut2 (h.more (Nat.le_succ k)) hx (show cutL 32 x=[[104,101,97,114],a1] from hk))
  have CN:=hidden (fun W=>needs_hear W)
  have hl1:=word_len hx hk (y:=a1) (by simp)
  have q0:((bs [104,101,97,114]).toList==[117,110,119,114,97,112])=false:=eq_no (by decide)
  have q1:((bs [104,101,97,114]).toList==[115,101,101,110])=false:=eq_no (by decide)
  have q2:((bs [104,101,97,114]).toList==[99,114,99])=false:=eq_no (by decide)
  have q3:((bs [104,101,97,114]).toList==[111,112,101,110])=false:=eq_no (by decide)
  have q4:((bs [104,101,97,114]).toList==[112,97,105,114,115])=false:=eq_no (by decide)
  have q5:((bs [104,101,97,114]).toList==[102,97,105,114])=false:=eq_no (by decide)
  have q6:((bs [104,101,97,114]).toList==[104,101,97,114])=true:=eq_yes _
  have B1:=hidden (rl_no h1 (by omega))
  clear h hO hx hk h1
  go_enter Tryz.func7,Tryz.ntmps7
  go_wp2_with fail
  refine C.out.mono ?_
  rintro e w1 ⟨g,cap,rfl,⟨c0,c1⟩,hd⟩
  have HD:=hidden hd
  clear hd
  go_wp2_with fail
  refine (CN.out w1).mono ?_
  rintro e w2 ⟨rfl,hw2⟩
  obtain rfl:w1=w2:=hw2.symm
  clear hw2
  go_wp2_with fail
  refine (B1.out w1).mono ?_
  rintro e w2 ⟨rfl,hb⟩
  have HD2:=hidden (HD.out.below hb)
  clear hb
  go_wp2_with fail
  go_ret
  exact ⟨rfl,HD2.out⟩
set_option maxRecDepth 100000 in
set_option maxHeartbeats 1000000 in
theorem li_hear_e {w W:World} {b k:Nat} {S:Ss} {x:List UInt8} (h:Dk w W b S k) (hO:S.Ok) (hk5:k≤5000) (hx:x.length≤3000) {a1:List UInt8} (hk:cutL 32 x=[kHear,a1]) {L:List Int} (h1:listR a1=some L) (hf:VO.hf S.f (voices L)≠0) :
    Calls Tryz.prog 7 #[.pointer (some ⟨b,0,none⟩),.string (bs x)] W (LineE w b (k+1) (.err (VO.hf S.f (voices L)),{ S with sp:=VO.stS S.f S.sp (voices L),f:=VO.stF S.f (voices L) })):=by
  have C:=hidden (cut2 (h.more (Nat.le_succ k)) hx (show cutL 32 x=[[104,101,97,114],a1] from hk))
  have CN:=hidden (fun W=>needs_hear W)
  have hl1:=word_len hx hk (y:=a1) (by simp)
  have q0:((bs [104,101,97,114]).toList==[117,110,119,114,97,112])=false:=eq_no (by decide)
  have q1:((bs [104,101,97,114]).toList==[115,101,101,110])=false:=eq_no (by decide)
  have q2:((bs [104,101,97,114]).toList==[99,114,99])=false:=eq_no (by decide)
  have q3:((bs [104,101,97,114]).toList==[111,112,101,110])=false:=eq_no (by decide)
  have q4:((bs [104,101,97,114]).toList==[112,97,105,114,115])=false:=eq_no (by decide)
  have q5:((bs [104,101,97,114]).toList==[102,97,105,114])=false:=eq_no (by decide)
  have q6:((bs [104,101,97,114]).toList==[104,101,97,114])=true:=eq_yes _
  have hln:=(rl_len h1 (by omega)).1
  have B1:=hidden (rl_yes h1 (by omega))
  have HAD:=hidden (fun (W1:World) (hd:Dk w W1 b S (k+1)) a cap (hA:Voice.VArg W1 a L.length (voices L))=>hd.hear hO a L.length cap (voices L) hA)
  have h9:VO.hf S.f (voices L)≤9:=by have:=VO.hf_le S.f (voices L);omega
  have HN1:=hidden (rname_calls (VO.hf S.f (voices L)) (by omega) h9)
  have d0:((VO.hf S.f (voices L):Int)==0)=false:=by simp;omega
  have d1:decide ((VO.hf S.f (voices L):Int)=0)=false:=by simp;omega
  obtain ⟨S2,hS2⟩:∃ S2,({ S with sp:=VO.stS S.f S.sp (voices L),f:=VO.stF S.f (voices L) }:Ss)=S2:=⟨_,rfl⟩
  rw [hS2] at HAD
  rw [hS2]
  clear h9 hS2
  generalize VO.hf S.f (voices L)=f at *
  obtain ⟨i0,hii,hz0,hz1,hz2⟩:=info_parts Voice.infoVO
  obtain ⟨n,hn⟩:∃ n,L.length=n:=⟨_,rfl⟩
  have HN:=hidden hn
  rw [hn] at hln HAD B1
  clear h hO hx hk h1 hf hn
  go_enter Tryz.func7,Tryz.ntmps7
  go_wp2_with fail
  refine C.out.mono ?_
  rintro e w1 ⟨g,cap,rfl,⟨c0,c1⟩,hd⟩
  have HD:=hidden hd
  clear hd
  go_wp2_with fail
  refine (CN.out w1).mono ?_
  rintro e w2 ⟨rfl,hw2⟩
  obtain rfl:w1=w2:=hw2.symm
  clear hw2
  go_wp2_with fail
  refine (B1.out w1).mono ?_
  rintro e w2 ⟨a,cap,rfl,⟨hA,_,_⟩,hb⟩
  have HD2:=hidden (HD.out.below hb)
  have HA:=hidden hA
  clear hb hA c0 c1
  have H0:Hid (VSt w2 w2 (voices (L.take 0)) (.slice none 0 0)):=⟨Below.refl _ _,World.ownsRow_nil _ _ _ _⟩
  go_wp2_with fail
  go_loopg [34,35] n (fun gg u y wr=>∃ (i:Nat) (v:Value),i+gg=n∧v=u∧y=.int .i64 (i:Int)∧Hid (VSt w2 wr (voices (L.take i)) v))
  case atStart=>exact ⟨0,_,by omega,rfl,rfl,H0⟩
  case round=>
    obtain ⟨i,v,hig,rfl,rfl,HV⟩:=hrel
    clear H0
    by_cases hi:i<n
    · have hiz:(i:Int)<(n:Int):=by omega
      obtain ⟨bb,oo,rfl,c0⟩:=(HA.out.below HV.out.bel).1 i (by have:=HN.out;omega)
      have hst:=int_snoc (L:=L) (i:=i) (by have:=HN.out;omega)
      have hvs:=voices_snoc (L.take i) (TM.dg L i)
      rw [← hst,List.length_take,HN.out,Nat.min_eq_left (by omega)] at hvs
      have hvl:(voices (L.take i)).length=i:=by rw [voices_len,List.length_take,HN.out];omega
      obtain ⟨x,hx⟩:∃ x,TM.dg L i=x:=⟨_,rfl⟩
      rw [hx] at c0 hvs
      obtain ⟨l,hll⟩:∃ l,voices (L.take i)=l:=⟨_,rfl⟩
      rw [hll] at hvs HV hvl
      have HVS:=hidden hvs
      have hbase:=HV.out.bel.size
      clear hst hvs hx hll
      go_wp2_with (at_builtin;refine wpList_append_own _ rfl _ _ 50 rfl w2.heap.size 83 i0 _ 2 16 Tryz.underlying50 hii hz0 hz1 hz2 rfl (by decide) _ l.length (Voice.vc l) rfl (HV.out.own.alloc _) ⟨wr.heap.size,0,none⟩ 1 1 [.int .i64 (i:Int),.int .i64 x] rfl rfl ?cc ?one ?b1 ?b2 ?b3 ?next)
      case cc=>exact lit2 _ _
      case one=>simp [Value.oneCell']
      case b1=>unfold maxLen;omega
      case b2=>omega
      case b3=>simp;omega
      case next=>
      intro v3 w4 hown hgrow _
      have HVn:Hid (VSt w2 w4 (voices (L.take (i+1))) v3):=hidden (by
        rw [HVS.out]
        exact HV.out.app (by rw [hvl];exact hown) hgrow)
      clear hown hgrow hbase hvl
      go_wp2_with fail
      go_roundg (n - (i+1))
      case measure=>omega
      case rel=>exact ⟨i+1,v3,by omega,rfl,by go_num,HVn⟩
    · have hiz:¬ (i:Int)<(n:Int):=by omega
      have he:L.take i=L:=List.take_of_length_le (by have:=HN.out;omega)
      have hown:=HV.out.own
      rw [he,voices_len,HN.out] at hown
      obtain ⟨a4,cap4,rfl,hA4,_⟩:=Voice.own_vs hown (by omega)
      have HDr:=hidden (HD2.out.below HV.out.bel)
      have HAD2:=hidden (HAD.out wr HDr.out a4 cap4 hA4)
      clear hown hA4 he HV
      go_wp2_with fail
      refine HAD2.out.mono ?_
      rintro e w4 ⟨rfl,hd4⟩
      have HD4:=hidden hd4
      have hsp:=hd4.speaker
      clear hd4
      clear hsp
      go_wp2_with fail
      refine (HN1.out w4).mono ?_
      rintro e w5 ⟨rfl,hb⟩
      go_wp2_with fail
      go_ret
      exact ⟨rfl,HD4.out.below hb⟩
set_option maxRecDepth 100000 in
set_option maxHeartbeats 1000000 in
theorem li_hear_ok {w W:World} {b k:Nat} {S:Ss} {x:List UInt8} (h:Dk w W b S k) (hO:S.Ok) (hk5:k≤5000) (hx:x.length≤3000) {a1:List UInt8} (hk:cutL 32 x=[kHear,a1]) {L:List Int} (h1:listR a1=some L) (hf:VO.hf S.f (voices L)=0) :
    Calls Tryz.prog 7 #[.pointer (some ⟨b,0,none⟩),.string (bs x)] W (LineE w b (k+1) (.ok (Lib.itoa (VO.stS S.f S.sp (voices L))),{ S with sp:=VO.stS S.f S.sp (voices L),f:=VO.stF S.f (voices L) })):=by
  have C:=hidden (cut2 (h.more (Nat.le_succ k)) hx (show cutL 32 x=[[104,101,97,114],a1] from hk))
  have CN:=hidden (fun W=>needs_hear W)
  have hl1:=word_len hx hk (y:=a1) (by simp)
  have q0:((bs [104,101,97,114]).toList==[117,110,119,114,97,112])=false:=eq_no (by decide)
  have q1:((bs [104,101,97,114]).toList==[115,101,101,110])=false:=eq_no (by decide)
  have q2:((bs [104,101,97,114]).toList==[99,114,99])=false:=eq_no (by decide)
  have q3:((bs [104,101,97,114]).toList==[111,112,101,110])=false:=eq_no (by decide)
  have q4:((bs [104,101,97,114]).toList==[112,97,105,114,115])=false:=eq_no (by decide)
  have q5:((bs [104,101,97,114]).toList==[102,97,105,114])=false:=eq_no (by decide)
  have q6:((bs [104,101,97,114]).toList==[104,101,97,114])=true:=eq_yes _
  have hln:=(rl_len h1 (by omega)).1
  have B1:=hidden (rl_yes h1 (by omega))
  have HAD:=hidden (fun (W1:World) (hd:Dk w W1 b S (k+1)) a cap (hA:Voice.VArg W1 a L.length (voices L))=>hd.hear hO a L.length cap (voices L) hA)
  rw [hf] at HAD
  have hsb:-1≤VO.stS S.f S.sp (voices L)∧VO.stS S.f S.sp (voices L)≤200:=spk_bd hO.vo _
  have HDI:=hidden (digits_calls (VO.stS S.f S.sp (voices L)) (by omega) (by omega))
  obtain ⟨S2,hS2⟩:∃ S2,({ S with sp:=VO.stS S.f S.sp (voices L),f:=VO.stF S.f (voices L) }:Ss)=S2:=⟨_,rfl⟩
  have hsp0:S2.sp=VO.stS S.f S.sp (voices L):=by rw [← hS2]
  rw [hS2] at HAD
  rw [hS2]
  rw [← hsp0] at HDI
  rw [← hsp0]
  clear hS2 hsb hsp0
  obtain ⟨i0,hii,hz0,hz1,hz2⟩:=info_parts Voice.infoVO
  obtain ⟨n,hn⟩:∃ n,L.length=n:=⟨_,rfl⟩
  have HN:=hidden hn
  rw [hn] at hln HAD B1
  clear h hO hx hk h1 hf hn
  go_enter Tryz.func7,Tryz.ntmps7
  go_wp2_with fail
  refine C.out.mono ?_
  rintro e w1 ⟨g,cap,rfl,⟨c0,c1⟩,hd⟩
  have HD:=hidden hd
  clear hd
  go_wp2_with fail
  refine (CN.out w1).mono ?_
  rintro e w2 ⟨rfl,hw2⟩
  obtain rfl:w1=w2:=hw2.symm
  clear hw2
  go_wp2_with fail
  refine (B1.out w1).mono ?_
  rintro e w2 ⟨a,cap,rfl,⟨hA,_,_⟩,hb⟩
  have HD2:=hidden (HD.out.below hb)
  have HA:=hidden hA
  clear hb hA c0 c1
  have H0:Hid (VSt w2 w2 (voices (L.take 0)) (.slice none 0 0)):=⟨Below.refl _ _,World.ownsRow_nil _ _ _ _⟩
  go_wp2_with fail
  go_loopg [34,35] n (fun gg u y wr=>∃ (i:Nat) (v:Value),i+gg=n∧v=u∧y=.int .i64 (i:Int)∧Hid (VSt w2 wr (voices (L.take i)) v))
  case atStart=>exact ⟨0,_,by omega,rfl,rfl,H0⟩
  case round=>
    obtain ⟨i,v,hig,rfl,rfl,HV⟩:=hrel
    clear H0
    by_cases hi:i<n
    · have hiz:(i:Int)<(n:Int):=by omega
      obtain ⟨bb,oo,rfl,c0⟩:=(HA.out.below HV.out.bel).1 i (by have:=HN.out;omega)
      have hst:=int_snoc (L:=L) (i:=i) (by have:=HN.out;omega)
      have hvs:=voices_snoc (L.take i) (TM.dg L i)
      rw [← hst,List.length_take,HN.out,Nat.min_eq_left (by omega)] at hvs
      have hvl:(voices (L.take i)).length=i:=by rw [voices_len,List.length_take,HN.out];omega
      obtain ⟨x,hx⟩:∃ x,TM.dg L i=x:=⟨_,rfl⟩
      rw [hx] at c0 hvs
      obtain ⟨l,hll⟩:∃ l,voices (L.take i)=l:=⟨_,rfl⟩
      rw [hll] at hvs HV hvl
      have HVS:=hidden hvs
      have hbase:=HV.out.bel.size
      clear hst hvs hx hll
      go_wp2_with (at_builtin;refine wpList_append_own _ rfl _ _ 50 rfl w2.heap.size 83 i0 _ 2 16 Tryz.underlying50 hii hz0 hz1 hz2 rfl (by decide) _ l.length (Voice.vc l) rfl (HV.out.own.alloc _) ⟨wr.heap.size,0,none⟩ 1 1 [.int .i64 (i:Int),.int .i64 x] rfl rfl ?cc ?one ?b1 ?b2 ?b3 ?next)
      case cc=>exact lit2 _ _
      case one=>simp [Value.oneCell']
      case b1=>unfold maxLen;omega
      case b2=>omega
      case b3=>simp;omega
      case next=>
      intro v3 w4 hown hgrow _
      have HVn:Hid (VSt w2 w4 (voices (L.take (i+1))) v3):=hidden (by
        rw [HVS.out]
        exact HV.out.app (by rw [hvl];exact hown) hgrow)
      clear hown hgrow hbase hvl
      go_wp2_with fail
      go_roundg (n - (i+1))
      case measure=>omega
      case rel=>exact ⟨i+1,v3,by omega,rfl,by go_num,HVn⟩
    · have hiz:¬ (i:Int)<(n:Int):=by omega
      have he:L.take i=L:=List.take_of_length_le (by have:=HN.out;omega)
      have hown:=HV.out.own
      rw [he,voices_len,HN.out] at hown
      obtain ⟨a4,cap4,rfl,hA4,_⟩:=Voice.own_vs hown (by omega)
      have HDr:=hidden (HD2.out.below HV.out.bel)
      have HAD2:=hidden (HAD.out wr HDr.out a4 cap4 hA4)
      clear hown hA4 he HV
      go_wp2_with fail
      refine HAD2.out.mono ?_
      rintro e w4 ⟨rfl,hd4⟩
      have HD4:=hidden hd4
      have hsp:=hd4.speaker
      clear hd4
      go_wp2_with fail
      refine (HDI.out w4).mono ?_
      rintro e w5 ⟨rfl,hw5⟩
      obtain rfl:w4=w5:=hw5.symm
      go_wp2_with fail
      go_ret
      exact ⟨rfl,HD4.out⟩
theorem line_hear {w W:World} {b k:Nat} {S:Ss} {x:List UInt8} (h:Dk w W b S k) (hO:S.Ok) (hk5:k≤5000) (hx:x.length≤3000) {a1:List UInt8} (hk:cutL 32 x=[kHear,a1]) :
    Calls Tryz.prog 7 #[.pointer (some ⟨b,0,none⟩),.string (bs x)] W (LineE w b (k+1) (aHear S ⟨[a1],false⟩)):=by
  cases h1:listR a1 with
  | none=>
    rw [hear_bad S h1]
    exact li_hear_n h hO hk5 hx hk h1
  | some L=>
    rw [hear_ok S h1]
    by_cases hf:VO.hf S.f (voices L)=0
    · rw [An.of_ok hf]
      exact li_hear_ok h hO hk5 hx hk h1 hf
    · rw [An.of_err hf]
      exact li_hear_e h hO hk5 hx hk h1 hf
set_option maxRecDepth 100000 in
set_option maxHeartbeats 1000000 in
theorem li_take_nnn {w W:World} {b k:Nat} {S:Ss} {x:List UInt8} (h:Dk w W b S k) (hO:S.Ok) (hk5:k≤5000) (hx:x.length≤3000) {a1 a2 a3:List UInt8} (hk:cutL 32 x=[kTake,a1,a2,a3]) (h1:numL a1=none) (h2:numL a2=none) (h3:numL a3=none) :
    Calls Tryz.prog 7 #[.pointer (some ⟨b,0,none⟩),.string (bs x)] W (LineE w b (k+1) (.bad,S)):=by
  have C:=hidden (cut4 (h.more (Nat.le_succ k)) hx (show cutL 32 x=[[116,97,107,101],a1,a2,a3] from hk))
  have CN:=hidden (fun W=>needs_take W)
  have hl1:=word_len hx hk (y:=a1) (by simp)
  have hl2:=word_len hx hk (y:=a2) (by simp)
  have hl3:=word_len hx hk (y:=a3) (by simp)
  have q0:((bs [116,97,107,101]).toList==[117,110,119,114,97,112])=false:=eq_no (by decide)
  have q1:((bs [116,97,107,101]).toList==[115,101,101,110])=false:=eq_no (by decide)
  have q2:((bs [116,97,107,101]).toList==[99,114,99])=false:=eq_no (by decide)
  have q3:((bs [116,97,107,101]).toList==[111,112,101,110])=false:=eq_no (by decide)
  have q4:((bs [116,97,107,101]).toList==[112,97,105,114,115])=false:=eq_no (by decide)
  have q5:((bs [116,97,107,101]).toList==[102,97,105,114])=false:=eq_no (by decide)
  have q6:((bs [116,97,107,101]).toList==[104,101,97,114])=false:=eq_no (by decide)
  have q7:((bs [116,97,107,101]).toList==[116,97,107,101])=true:=eq_yes _
  have N1:=hidden (nine_calls a1 (by omega))
  have N2:=hidden (nine_calls a2 (by omega))
  have N3:=hidden (nine_calls a3 (by omega))
  rw [h1,nineE_none] at N1
  rw [h2,nineE_none] at N2
  rw [h3,nineE_none] at N3
  clear h hO hx hk h1 h2 h3
  go_enter Tryz.func7,Tryz.ntmps7
  go_wp2_with fail
  refine C.out.mono ?_
  rintro e w1 ⟨g,cap,rfl,⟨c0,c1,c2,c3⟩,hd⟩
  have HD:=hidden hd
  clear hd
  go_wp2_with fail
  refine (CN.out w1).mono ?_
  rintro e w2 ⟨rfl,hw2⟩
  obtain rfl:w1=w2:=hw2.symm
  clear hw2
  go_wp2_with fail
  refine (N1.out w1).mono ?_
  rintro e w2 ⟨rfl,hw2⟩
  obtain rfl:w1=w2:=hw2.symm
  clear hw2
  go_wp2_with fail
  refine (N2.out w1).mono ?_
  rintro e w2 ⟨rfl,hw2⟩
  obtain rfl:w1=w2:=hw2.symm
  clear hw2
  go_wp2_with fail
  refine (N3.out w1).mono ?_
  rintro e w2 ⟨rfl,hw2⟩
  obtain rfl:w1=w2:=hw2.symm
  clear hw2
  go_wp2_with fail
  go_ret
  exact ⟨rfl,HD.out⟩
set_option maxRecDepth 100000 in
set_option maxHeartbeats 1000000 in
theorem li_take_nns {w W:World} {b k:Nat} {S:Ss} {x:List UInt8} (h:Dk w W b S k) (hO:S.Ok) (hk5:k≤5000) (hx:x.length≤3000) {a1 a2 a3:List UInt8} (hk:cutL 32 x=[kTake,a1,a2,a3]) (h1:numL a1=none) (h2:numL a2=none) {u3:Int} (h3:numL a3=some u3) :
    Calls Tryz.prog 7 #[.pointer (some ⟨b,0,none⟩),.string (bs x)] W (LineE w b (k+1) (.bad,S)):=by
  have C:=hidden (cut4 (h.more (Nat.le_succ k)) hx (show cutL 32 x=[[116,97,107,101],a1,a2,a3] from hk))
  have CN:=hidden (fun W=>needs_take W)
  have hl1:=word_len hx hk (y:=a1) (by simp)
  have hl2:=word_len hx hk (y:=a2) (by simp)
  have hl3:=word_len hx hk (y:=a3) (by simp)
  have q0:((bs [116,97,107,101]).toList==[117,110,119,114,97,112])=false:=eq_no (by decide)
  have q1:((bs [116,97,107,101]).toList==[115,101,101,110])=false:=eq_no (by decide)
  have q2:((bs [116,97,107,101]).toList==[99,114,99])=false:=eq_no (by decide)
  have q3:((bs [116,97,107,101]).toList==[111,112,101,110])=false:=eq_no (by decide)
  have q4:((bs [116,97,107,101]).toList==[112,97,105,114,115])=false:=eq_no (by decide)
  have q5:((bs [116,97,107,101]).toList==[102,97,105,114])=false:=eq_no (by decide)
  have q6:((bs [116,97,107,101]).toList==[104,101,97,114])=false:=eq_no (by decide)
  have q7:((bs [116,97,107,101]).toList==[116,97,107,101])=true:=eq_yes _
  have N1:=hidden (nine_calls a1 (by omega))
  have N2:=hidden (nine_calls a2 (by omega))
  have N3:=hidden (nine_calls a3 (by omega))
  rw [h1,nineE_none] at N1
  rw [h2,nineE_none] at N2
  rw [h3,nineE_some] at N3
  clear h hO hx hk h1 h2 h3
  go_enter Tryz.func7,Tryz.ntmps7
  go_wp2_with fail
  refine C.out.mono ?_
  rintro e w1 ⟨g,cap,rfl,⟨c0,c1,c2,c3⟩,hd⟩
  have HD:=hidden hd
  clear hd
  go_wp2_with fail
  refine (CN.out w1).mono ?_
  rintro e w2 ⟨rfl,hw2⟩
  obtain rfl:w1=w2:=hw2.symm
  clear hw2
  go_wp2_with fail
  refine (N1.out w1).mono ?_
  rintro e w2 ⟨rfl,hw2⟩
  obtain rfl:w1=w2:=hw2.symm
  clear hw2
  go_wp2_with fail
  refine (N2.out w1).mono ?_
  rintro e w2 ⟨rfl,hw2⟩
  obtain rfl:w1=w2:=hw2.symm
  clear hw2
  go_wp2_with fail
  refine (N3.out w1).mono ?_
  rintro e w2 ⟨rfl,hw2⟩
  obtain rfl:w1=w2:=hw2.symm
  clear hw2
  go_wp2_with fail
  go_ret
  exact ⟨rfl,HD.out⟩
set_option maxRecDepth 100000 in
set_option maxHeartbeats 1000000 in
theorem li_take_nsn {w W:World} {b k:Nat} {S:Ss} {x:List UInt8} (h:Dk w W b S k) (hO:S.Ok) (hk5:k≤5000) (hx:x.length≤3000) {a1 a2 a3:List UInt8} (hk:cutL 32 x=[kTake,a1,a2,a3]) (h1:numL a1=none) {u2:Int} (h2:numL a2=some u2) (h3:numL a3=none) :
    Calls Tryz.prog 7 #[.pointer (some ⟨b,0,none⟩),.string (bs x)] W (LineE w b (k+1) (.bad,S)):=by
  have C:=hidden (cut4 (h.more (Nat.le_succ k)) hx (show cutL 32 x=[[116,97,107,101],a1,a2,a3] from hk))
  have CN:=hidden (fun W=>needs_take W)
  have hl1:=word_len hx hk (y:=a1) (by simp)
  have hl2:=word_len hx hk (y:=a2) (by simp)
  have hl3:=word_len hx hk (y:=a3) (by simp)
  have q0:((bs [116,97,107,101]).toList==[117,110,119,114,97,112])=false:=eq_no (by decide)
  have q1:((bs [116,97,107,101]).toList==[115,101,101,110])=false:=eq_no (by decide)
  have q2:((bs [116,97,107,101]).toList==[99,114,99])=false:=eq_no (by decide)
  have q3:((bs [116,97,107,101]).toList==[111,112,101,110])=false:=eq_no (by decide)
  have q4:((bs [116,97,107,101]).toList==[112,97,105,114,115])=false:=eq_no (by decide)
  have q5:((bs [116,97,107,101]).toList==[102,97,105,114])=false:=eq_no (by decide)
  have q6:((bs [116,97,107,101]).toList==[104,101,97,114])=false:=eq_no (by decide)
  have q7:((bs [116,97,107,101]).toList==[116,97,107,101])=true:=eq_yes _
  have N1:=hidden (nine_calls a1 (by omega))
  have N2:=hidden (nine_calls a2 (by omega))
  have N3:=hidden (nine_calls a3 (by omega))
  rw [h1,nineE_none] at N1
  rw [h2,nineE_some] at N2
  rw [h3,nineE_none] at N3
  clear h hO hx hk h1 h2 h3
  go_enter Tryz.func7,Tryz.ntmps7
  go_wp2_with fail
  refine C.out.mono ?_
  rintro e w1 ⟨g,cap,rfl,⟨c0,c1,c2,c3⟩,hd⟩
  have HD:=hidden hd
  clear hd
  go_wp2_with fail
  refine (CN.out w1).mono ?_
  rintro e w2 ⟨rfl,hw2⟩
  obtain rfl:w1=w2:=hw2.symm
  clear hw2
  go_wp2_with fail
  refine (N1.out w1).mono ?_
  rintro e w2 ⟨rfl,hw2⟩
  obtain rfl:w1=w2:=hw2.symm
  clear hw2
  go_wp2_with fail
  refine (N2.out w1).mono ?_
  rintro e w2 ⟨rfl,hw2⟩
  obtain rfl:w1=w2:=hw2.symm
  clear hw2
  go_wp2_with fail
  refine (N3.out w1).mono ?_
  rintro e w2 ⟨rfl,hw2⟩
  obtain rfl:w1=w2:=hw2.symm
  clear hw2
  go_wp2_with fail
  go_ret
  exact ⟨rfl,HD.out⟩
set_option maxRecDepth 100000 in
set_option maxHeartbeats 1000000 in
theorem li_take_nss {w W:World} {b k:Nat} {S:Ss} {x:List UInt8} (h:Dk w W b S k) (hO:S.Ok) (hk5:k≤5000) (hx:x.length≤3000) {a1 a2 a3:List UInt8} (hk:cutL 32 x=[kTake,a1,a2,a3]) (h1:numL a1=none) {u2:Int} (h2:numL a2=some u2) {u3:Int} (h3:numL a3=some u3) :
    Calls Tryz.prog 7 #[.pointer (some ⟨b,0,none⟩),.string (bs x)] W (LineE w b (k+1) (.bad,S)):=by
  have C:=hidden (cut4 (h.more (Nat.le_succ k)) hx (show cutL 32 x=[[116,97,107,101],a1,a2,a3] from hk))
  have CN:=hidden (fun W=>needs_take W)
  have hl1:=word_len hx hk (y:=a1) (by simp)
  have hl2:=word_len hx hk (y:=a2) (by simp)
  have hl3:=word_len hx hk (y:=a3) (by simp)
  have q0:((bs [116,97,107,101]).toList==[117,110,119,114,97,112])=false:=eq_no (by decide)
  have q1:((bs [116,97,107,101]).toList==[115,101,101,110])=false:=eq_no (by decide)
  have q2:((bs [116,97,107,101]).toList==[99,114,99])=false:=eq_no (by decide)
  have q3:((bs [116,97,107,101]).toList==[111,112,101,110])=false:=eq_no (by decide)
  have q4:((bs [116,97,107,101]).toList==[112,97,105,114,115])=false:=eq_no (by decide)
  have q5:((bs [116,97,107,101]).toList==[102,97,105,114])=false:=eq_no (by decide)
  have q6:((bs [116,97,107,101]).toList==[104,101,97,114])=false:=eq_no (by decide)
  have q7:((bs [116,97,107,101]).toList==[116,97,107,101])=true:=eq_yes _
  have N1:=hidden (nine_calls a1 (by omega))
  have N2:=hidden (nine_calls a2 (by omega))
  have N3:=hidden (nine_calls a3 (by omega))
  rw [h1,nineE_none] at N1
  rw [h2,nineE_some] at N2
  rw [h3,nineE_some] at N3
  clear h hO hx hk h1 h2 h3
  go_enter Tryz.func7,Tryz.ntmps7
  go_wp2_with fail
  refine C.out.mono ?_
  rintro e w1 ⟨g,cap,rfl,⟨c0,c1,c2,c3⟩,hd⟩
  have HD:=hidden hd
  clear hd
  go_wp2_with fail
  refine (CN.out w1).mono ?_
  rintro e w2 ⟨rfl,hw2⟩
  obtain rfl:w1=w2:=hw2.symm
  clear hw2
  go_wp2_with fail
  refine (N1.out w1).mono ?_
  rintro e w2 ⟨rfl,hw2⟩
  obtain rfl:w1=w2:=hw2.symm
  clear hw2
  go_wp2_with fail
  refine (N2.out w1).mono ?_
  rintro e w2 ⟨rfl,hw2⟩
  obtain rfl:w1=w2:=hw2.symm
  clear hw2
  go_wp2_with fail
  refine (N3.out w1).mono ?_
  rintro e w2 ⟨rfl,hw2⟩
  obtain rfl:w1=w2:=hw2.symm
  clear hw2
  go_wp2_with fail
  go_ret
  exact ⟨rfl,HD.out⟩
set_option maxRecDepth 100000 in
set_option maxHeartbeats 1000000 in
theorem li_take_snn {w W:World} {b k:Nat} {S:Ss} {x:List UInt8} (h:Dk w W b S k) (hO:S.Ok) (hk5:k≤5000) (hx:x.length≤3000) {a1 a2 a3:List UInt8} (hk:cutL 32 x=[kTake,a1,a2,a3]) {u1:Int} (h1:numL a1=some u1) (h2:numL a2=none) (h3:numL a3=none) :
    Calls Tryz.prog 7 #[.pointer (some ⟨b,0,none⟩),.string (bs x)] W (LineE w b (k+1) (.bad,S)):=by
  have C:=hidden (cut4 (h.more (Nat.le_succ k)) hx (show cutL 32 x=[[116,97,107,101],a1,a2,a3] from hk))
  have CN:=hidden (fun W=>needs_take W)
  have hl1:=word_len hx hk (y:=a1) (by simp)
  have hl2:=word_len hx hk (y:=a2) (by simp)
  have hl3:=word_len hx hk (y:=a3) (by simp)
  have q0:((bs [116,97,107,101]).toList==[117,110,119,114,97,112])=false:=eq_no (by decide)
  have q1:((bs [116,97,107,101]).toList==[115,101,101,110])=false:=eq_no (by decide)
  have q2:((bs [116,97,107,101]).toList==[99,114,99])=false:=eq_no (by decide)
  have q3:((bs [116,97,107,101]).toList==[111,112,101,110])=false:=eq_no (by decide)
  have q4:((bs [116,97,107,101]).toList==[112,97,105,114,115])=false:=eq_no (by decide)
  have q5:((bs [116,97,107,101]).toList==[102,97,105,114])=false:=eq_no (by decide)
  have q6:((bs [116,97,107,101]).toList==[104,101,97,114])=false:=eq_no (by decide)
  have q7:((bs [116,97,107,101]).toList==[116,97,107,101])=true:=eq_yes _
  have N1:=hidden (nine_calls a1 (by omega))
  have N2:=hidden (nine_calls a2 (by omega))
  have N3:=hidden (nine_calls a3 (by omega))
  rw [h1,nineE_some] at N1
  rw [h2,nineE_none] at N2
  rw [h3,nineE_none] at N3
  clear h hO hx hk h1 h2 h3
  go_enter Tryz.func7,Tryz.ntmps7
  go_wp2_with fail
  refine C.out.mono ?_
  rintro e w1 ⟨g,cap,rfl,⟨c0,c1,c2,c3⟩,hd⟩
  have HD:=hidden hd
  clear hd
  go_wp2_with fail
  refine (CN.out w1).mono ?_
  rintro e w2 ⟨rfl,hw2⟩
  obtain rfl:w1=w2:=hw2.symm
  clear hw2
  go_wp2_with fail
  refine (N1.out w1).mono ?_
  rintro e w2 ⟨rfl,hw2⟩
  obtain rfl:w1=w2:=hw2.symm
  clear hw2
  go_wp2_with fail
  refine (N2.out w1).mono ?_
  rintro e w2 ⟨rfl,hw2⟩
  obtain rfl:w1=w2:=hw2.symm
  clear hw2
  go_wp2_with fail
  refine (N3.out w1).mono ?_
  rintro e w2 ⟨rfl,hw2⟩
  obtain rfl:w1=w2:=hw2.symm
  clear hw2
  go_wp2_with fail
  go_ret
  exact ⟨rfl,HD.out⟩
set_option maxRecDepth 100000 in
set_option maxHeartbeats 1000000 in
theorem li_take_sns {w W:World} {b k:Nat} {S:Ss} {x:List UInt8} (h:Dk w W b S k) (hO:S.Ok) (hk5:k≤5000) (hx:x.length≤3000) {a1 a2 a3:List UInt8} (hk:cutL 32 x=[kTake,a1,a2,a3]) {u1:Int} (h1:numL a1=some u1) (h2:numL a2=none) {u3:Int} (h3:numL a3=some u3) :
    Calls Tryz.prog 7 #[.pointer (some ⟨b,0,none⟩),.string (bs x)] W (LineE w b (k+1) (.bad,S)):=by
  have C:=hidden (cut4 (h.more (Nat.le_succ k)) hx (show cutL 32 x=[[116,97,107,101],a1,a2,a3] from hk))
  have CN:=hidden (fun W=>needs_take W)
  have hl1:=word_len hx hk (y:=a1) (by simp)
  have hl2:=word_len hx hk (y:=a2) (by simp)
  have hl3:=word_len hx hk (y:=a3) (by simp)
  have q0:((bs [116,97,107,101]).toList==[117,110,119,114,97,112])=false:=eq_no (by decide)
  have q1:((bs [116,97,107,101]).toList==[115,101,101,110])=false:=eq_no (by decide)
  have q2:((bs [116,97,107,101]).toList==[99,114,99])=false:=eq_no (by decide)
  have q3:((bs [116,97,107,101]).toList==[111,112,101,110])=false:=eq_no (by decide)
  have q4:((bs [116,97,107,101]).toList==[112,97,105,114,115])=false:=eq_no (by decide)
  have q5:((bs [116,97,107,101]).toList==[102,97,105,114])=false:=eq_no (by decide)
  have q6:((bs [116,97,107,101]).toList==[104,101,97,114])=false:=eq_no (by decide)
  have q7:((bs [116,97,107,101]).toList==[116,97,107,101])=true:=eq_yes _
  have N1:=hidden (nine_calls a1 (by omega))
  have N2:=hidden (nine_calls a2 (by omega))
  have N3:=hidden (nine_calls a3 (by omega))
  rw [h1,nineE_some] at N1
  rw [h2,nineE_none] at N2
  rw [h3,nineE_some] at N3
  clear h hO hx hk h1 h2 h3
  go_enter Tryz.func7,Tryz.ntmps7
  go_wp2_with fail
  refine C.out.mono ?_
  rintro e w1 ⟨g,cap,rfl,⟨c0,c1,c2,c3⟩,hd⟩
  have HD:=hidden hd
  clear hd
  go_wp2_with fail
  refine (CN.out w1).mono ?_
  rintro e w2 ⟨rfl,hw2⟩
  obtain rfl:w1=w2:=hw2.symm
  clear hw2
  go_wp2_with fail
  refine (N1.out w1).mono ?_
  rintro e w2 ⟨rfl,hw2⟩
  obtain rfl:w1=w2:=hw2.symm
  clear hw2
  go_wp2_with fail
  refine (N2.out w1).mono ?_
  rintro e w2 ⟨rfl,hw2⟩
  obtain rfl:w1=w2:=hw2.symm
  clear hw2
  go_wp2_with fail
  refine (N3.out w1).mono ?_
  rintro e w2 ⟨rfl,hw2⟩
  obtain rfl:w1=w2:=hw2.symm
  clear hw2
  go_wp2_with fail
  go_ret
  exact ⟨rfl,HD.out⟩
set_option maxRecDepth 100000 in
set_option maxHeartbeats 1000000 in
theorem li_take_ssn {w W:World} {b k:Nat} {S:Ss} {x:List UInt8} (h:Dk w W b S k) (hO:S.Ok) (hk5:k≤5000) (hx:x.length≤3000) {a1 a2 a3:List UInt8} (hk:cutL 32 x=[kTake,a1,a2,a3]) {u1:Int} (h1:numL a1=some u1) {u2:Int} (h2:numL a2=some u2) (h3:numL a3=none) :
    Calls Tryz.prog 7 #[.pointer (some ⟨b,0,none⟩),.string (bs x)] W (LineE w b (k+1) (.bad,S)):=by
  have C:=hidden (cut4 (h.more (Nat.le_succ k)) hx (show cutL 32 x=[[116,97,107,101],a1,a2,a3] from hk))
  have CN:=hidden (fun W=>needs_take W)
  have hl1:=word_len hx hk (y:=a1) (by simp)
  have hl2:=word_len hx hk (y:=a2) (by simp)
  have hl3:=word_len hx hk (y:=a3) (by simp)
  have q0:((bs [116,97,107,101]).toList==[117,110,119,114,97,112])=false:=eq_no (by decide)
  have q1:((bs [116,97,107,101]).toList==[115,101,101,110])=false:=eq_no (by decide)
  have q2:((bs [116,97,107,101]).toList==[99,114,99])=false:=eq_no (by decide)
  have q3:((bs [116,97,107,101]).toList==[111,112,101,110])=false:=eq_no (by decide)
  have q4:((bs [116,97,107,101]).toList==[112,97,105,114,115])=false:=eq_no (by decide)
  have q5:((bs [116,97,107,101]).toList==[102,97,105,114])=false:=eq_no (by decide)
  have q6:((bs [116,97,107,101]).toList==[104,101,97,114])=false:=eq_no (by decide)
  have q7:((bs [116,97,107,101]).toList==[116,97,107,101])=true:=eq_yes _
  have N1:=hidden (nine_calls a1 (by omega))
  have N2:=hidden (nine_calls a2 (by omega))
  have N3:=hidden (nine_calls a3 (by omega))
  rw [h1,nineE_some] at N1
  rw [h2,nineE_some] at N2
  rw [h3,nineE_none] at N3
  clear h hO hx hk h1 h2 h3
  go_enter Tryz.func7,Tryz.ntmps7
  go_wp2_with fail
  refine C.out.mono ?_
  rintro e w1 ⟨g,cap,rfl,⟨c0,c1,c2,c3⟩,hd⟩
  have HD:=hidden hd
  clear hd
  go_wp2_with fail
  refine (CN.out w1).mono ?_
  rintro e w2 ⟨rfl,hw2⟩
  obtain rfl:w1=w2:=hw2.symm
  clear hw2
  go_wp2_with fail
  refine (N1.out w1).mono ?_
  rintro e w2 ⟨rfl,hw2⟩
  obtain rfl:w1=w2:=hw2.symm
  clear hw2
  go_wp2_with fail
  refine (N2.out w1).mono ?_
  rintro e w2 ⟨rfl,hw2⟩
  obtain rfl:w1=w2:=hw2.symm
  clear hw2
  go_wp2_with fail
  refine (N3.out w1).mono ?_
  rintro e w2 ⟨rfl,hw2⟩
  obtain rfl:w1=w2:=hw2.symm
  clear hw2
  go_wp2_with fail
  go_ret
  exact ⟨rfl,HD.out⟩
set_option maxRecDepth 100000 in
set_option maxHeartbeats 1000000 in
theorem li_take_f {w W:World} {b k:Nat} {S:Ss} {x:List UInt8} (h:Dk w W b S k) (hO:S.Ok) (hk5:k≤5000) (hx:x.length≤3000) {a1 a2 a3:List UInt8} (hk:cutL 32 x=[kTake,a1,a2,a3]) {u1:Int} (h1:numL a1=some u1) {u2:Int} (h2:numL a2=some u2) {u3:Int} (h3:numL a3=some u3) (g0:¬ u3=0) (g1:¬ u3=1) :
    Calls Tryz.prog 7 #[.pointer (some ⟨b,0,none⟩),.string (bs x)] W (LineE w b (k+1) (.bad,S)):=by
  have C:=hidden (cut4 (h.more (Nat.le_succ k)) hx (show cutL 32 x=[[116,97,107,101],a1,a2,a3] from hk))
  have CN:=hidden (fun W=>needs_take W)
  have hl1:=word_len hx hk (y:=a1) (by simp)
  have hl2:=word_len hx hk (y:=a2) (by simp)
  have hl3:=word_len hx hk (y:=a3) (by simp)
  have q0:((bs [116,97,107,101]).toList==[117,110,119,114,97,112])=false:=eq_no (by decide)
  have q1:((bs [116,97,107,101]).toList==[115,101,101,110])=false:=eq_no (by decide)
  have q2:((bs [116,97,107,101]).toList==[99,114,99])=false:=eq_no (by decide)
  have q3:((bs [116,97,107,101]).toList==[111,112,101,110])=false:=eq_no (by decide)
  have q4:((bs [116,97,107,101]).toList==[112,97,105,114,115])=false:=eq_no (by decide)
  have q5:((bs [116,97,107,101]).toList==[102,97,105,114])=false:=eq_no (by decide)
  have q6:((bs [116,97,107,101]).toList==[104,101,97,114])=false:=eq_no (by decide)
  have q7:((bs [116,97,107,101]).toList==[116,97,107,101])=true:=eq_yes _
  have N1:=hidden (nine_calls a1 (by omega))
  have N2:=hidden (nine_calls a2 (by omega))
  have N3:=hidden (nine_calls a3 (by omega))
  rw [h1,nineE_some] at N1
  rw [h2,nineE_some] at N2
  rw [h3,nineE_some] at N3
  have n0:(u3 != 0)=true:=bne_iff_ne.2 g0
  have n1:(u3 != 1)=true:=bne_iff_ne.2 g1
  clear h hO hx hk h1 h2 h3
  go_enter Tryz.func7,Tryz.ntmps7
  go_wp2_with fail
  refine C.out.mono ?_
  rintro e w1 ⟨g,cap,rfl,⟨c0,c1,c2,c3⟩,hd⟩
  have HD:=hidden hd
  clear hd
  go_wp2_with fail
  refine (CN.out w1).mono ?_
  rintro e w2 ⟨rfl,hw2⟩
  obtain rfl:w1=w2:=hw2.symm
  clear hw2
  go_wp2_with fail
  refine (N1.out w1).mono ?_
  rintro e w2 ⟨rfl,hw2⟩
  obtain rfl:w1=w2:=hw2.symm
  clear hw2
  go_wp2_with fail
  refine (N2.out w1).mono ?_
  rintro e w2 ⟨rfl,hw2⟩
  obtain rfl:w1=w2:=hw2.symm
  clear hw2
  go_wp2_with fail
  refine (N3.out w1).mono ?_
  rintro e w2 ⟨rfl,hw2⟩
  obtain rfl:w1=w2:=hw2.symm
  clear hw2
  go_wp2_with fail
  go_ret
  exact ⟨rfl,HD.out⟩
set_option maxRecDepth 100000 in
set_option maxHeartbeats 1000000 in
theorem li_take_0p {w W:World} {b k:Nat} {S:Ss} {x:List UInt8} (h:Dk w W b S k) (hO:S.Ok) (hk5:k≤5000) (hx:x.length≤3000) {a1 a2 a3:List UInt8} (hk:cutL 32 x=[kTake,a1,a2,a3]) {u1:Int} (h1:numL a1=some u1) {u2:Int} (h2:numL a2=some u2) (h3:numL a3=some 0) (g:0≤u1∨u1%65536=0) :
    Calls Tryz.prog 7 #[.pointer (some ⟨b,0,none⟩),.string (bs x)] W (LineE w b (k+1) (take1 S u1 false (PM.fault (u1%65536) 0 u2 0 0) u2 false)):=by
  have C:=hidden (cut4 (h.more (Nat.le_succ k)) hx (show cutL 32 x=[[116,97,107,101],a1,a2,a3] from hk))
  have CN:=hidden (fun W=>needs_take W)
  have hl1:=word_len hx hk (y:=a1) (by simp)
  have hl2:=word_len hx hk (y:=a2) (by simp)
  have hl3:=word_len hx hk (y:=a3) (by simp)
  have q0:((bs [116,97,107,101]).toList==[117,110,119,114,97,112])=false:=eq_no (by decide)
  have q1:((bs [116,97,107,101]).toList==[115,101,101,110])=false:=eq_no (by decide)
  have q2:((bs [116,97,107,101]).toList==[99,114,99])=false:=eq_no (by decide)
  have q3:((bs [116,97,107,101]).toList==[111,112,101,110])=false:=eq_no (by decide)
  have q4:((bs [116,97,107,101]).toList==[112,97,105,114,115])=false:=eq_no (by decide)
  have q5:((bs [116,97,107,101]).toList==[102,97,105,114])=false:=eq_no (by decide)
  have q6:((bs [116,97,107,101]).toList==[104,101,97,114])=false:=eq_no (by decide)
  have q7:((bs [116,97,107,101]).toList==[116,97,107,101])=true:=eq_yes _
  have N1:=hidden (nine_calls a1 (by omega))
  have N2:=hidden (nine_calls a2 (by omega))
  have N3:=hidden (nine_calls a3 (by omega))
  rw [h1,nineE_some] at N1
  rw [h2,nineE_some] at N2
  rw [h3,nineE_some] at N3
  have hb1:=num_bd h1
  have HAD:=hidden (fun (W1:World) (hd:Dk w W1 b S (k+1))=>hd.take hO u1 false (u1%65536) 0 u2 0 false none 0 0)
  have h9:LM.tkf S.la u1 false (PM.fault (u1%65536) 0 u2 0 0)≤9:=by
    have hfl:PM.fault (u1%65536) 0 u2 0 0≤9:=by
      unfold PM.fault
      split
      · split<;>omega
      · omega
    unfold LM.tkf
    split
    · omega
    · split
      · omega
      · simp;omega
  have HT:=hidden (rtold_calls (LM.tkx 1 S.nw S.la u1 S.br false (PM.fault (u1%65536) 0 u2 0 0) u2 false) (LM.tkf S.la u1 false (PM.fault (u1%65536) 0 u2 0 0)) h9)
  unfold take1 at HAD
  unfold take1
  obtain ⟨S2,hS2⟩:∃ S2,({ S with nw:=LM.tkN 1 S.nw S.la u1 S.br false (PM.fault (u1%65536) 0 u2 0 0) u2 false,la:=LM.tkL S.la u1 false (PM.fault (u1%65536) 0 u2 0 0),br:=LM.tkB 1 S.nw S.la u1 S.br false (PM.fault (u1%65536) 0 u2 0 0) u2 false }:Ss)=S2:=⟨_,rfl⟩
  rw [hS2] at HAD
  rw [hS2]
  generalize LM.tkx 1 S.nw S.la u1 S.br false (PM.fault (u1%65536) 0 u2 0 0) u2 false=is at *
  generalize LM.tkf S.la u1 false (PM.fault (u1%65536) 0 u2 0 0)=fa at *
  obtain ⟨sq,hsq⟩:∃ sq,u1%65536=sq:=⟨_,rfl⟩
  have hm:u1.tmod 65536=sq:=by
    rw [← hsq]
    by_cases hz:0≤u1
    · exact Int.tmod_eq_emod_of_nonneg hz
    · have e:u1.tmod 65536=-((-u1).tmod 65536):=by rw [Int.neg_tmod,Int.neg_neg]
      rw [e,Int.tmod_eq_emod_of_nonneg (by omega)]
      omega
  have d0:decide (sq<0)=false:=by simp;omega
  rw [hsq] at HAD
  clear h hO hx hk h1 h2 h3 h9 hS2 g hb1 hsq
  go_enter Tryz.func7,Tryz.ntmps7
  go_wp2_with fail
  refine C.out.mono ?_
  rintro e w1 ⟨g,cap,rfl,⟨c0,c1,c2,c3⟩,hd⟩
  have HD:=hidden hd
  clear hd
  go_wp2_with fail
  refine (CN.out w1).mono ?_
  rintro e w2 ⟨rfl,hw2⟩
  obtain rfl:w1=w2:=hw2.symm
  clear hw2
  go_wp2_with fail
  refine (N1.out w1).mono ?_
  rintro e w2 ⟨rfl,hw2⟩
  obtain rfl:w1=w2:=hw2.symm
  clear hw2
  go_wp2_with fail
  refine (N2.out w1).mono ?_
  rintro e w2 ⟨rfl,hw2⟩
  obtain rfl:w1=w2:=hw2.symm
  clear hw2
  go_wp2_with fail
  refine (N3.out w1).mono ?_
  rintro e w2 ⟨rfl,hw2⟩
  obtain rfl:w1=w2:=hw2.symm
  clear hw2
  go_wp2_with fail
  refine (HAD.out w1 HD.out).mono ?_
  rintro e w2 ⟨rfl,hd2⟩
  have HD2:=hidden hd2
  clear hd2
  go_wp2_with fail
  refine (HT.out w2).mono ?_
  rintro e w3 ⟨rfl,hb⟩
  go_wp2_with fail
  go_ret
  exact ⟨rfl,HD2.out.below hb⟩
set_option maxRecDepth 100000 in
set_option maxHeartbeats 1000000 in
theorem li_take_0m {w W:World} {b k:Nat} {S:Ss} {x:List UInt8} (h:Dk w W b S k) (hO:S.Ok) (hk5:k≤5000) (hx:x.length≤3000) {a1 a2 a3:List UInt8} (hk:cutL 32 x=[kTake,a1,a2,a3]) {u1:Int} (h1:numL a1=some u1) {u2:Int} (h2:numL a2=some u2) (h3:numL a3=some 0) (g:u1<0∧u1%65536≠0) :
    Calls Tryz.prog 7 #[.pointer (some ⟨b,0,none⟩),.string (bs x)] W (LineE w b (k+1) (take1 S u1 false (PM.fault (u1%65536) 0 u2 0 0) u2 false)):=by
  have C:=hidden (cut4 (h.more (Nat.le_succ k)) hx (show cutL 32 x=[[116,97,107,101],a1,a2,a3] from hk))
  have CN:=hidden (fun W=>needs_take W)
  have hl1:=word_len hx hk (y:=a1) (by simp)
  have hl2:=word_len hx hk (y:=a2) (by simp)
  have hl3:=word_len hx hk (y:=a3) (by simp)
  have q0:((bs [116,97,107,101]).toList==[117,110,119,114,97,112])=false:=eq_no (by decide)
  have q1:((bs [116,97,107,101]).toList==[115,101,101,110])=false:=eq_no (by decide)
  have q2:((bs [116,97,107,101]).toList==[99,114,99])=false:=eq_no (by decide)
  have q3:((bs [116,97,107,101]).toList==[111,112,101,110])=false:=eq_no (by decide)
  have q4:((bs [116,97,107,101]).toList==[112,97,105,114,115])=false:=eq_no (by decide)
  have q5:((bs [116,97,107,101]).toList==[102,97,105,114])=false:=eq_no (by decide)
  have q6:((bs [116,97,107,101]).toList==[104,101,97,114])=false:=eq_no (by decide)
  have q7:((bs [116,97,107,101]).toList==[116,97,107,101])=true:=eq_yes _
  have N1:=hidden (nine_calls a1 (by omega))
  have N2:=hidden (nine_calls a2 (by omega))
  have N3:=hidden (nine_calls a3 (by omega))
  rw [h1,nineE_some] at N1
  rw [h2,nineE_some] at N2
  rw [h3,nineE_some] at N3
  have hb1:=num_bd h1
  have HAD:=hidden (fun (W1:World) (hd:Dk w W1 b S (k+1))=>hd.take hO u1 false (u1%65536) 0 u2 0 false none 0 0)
  have h9:LM.tkf S.la u1 false (PM.fault (u1%65536) 0 u2 0 0)≤9:=by
    have hfl:PM.fault (u1%65536) 0 u2 0 0≤9:=by
      unfold PM.fault
      split
      · split<;>omega
      · omega
    unfold LM.tkf
    split
    · omega
    · split
      · omega
      · simp;omega
  have HT:=hidden (rtold_calls (LM.tkx 1 S.nw S.la u1 S.br false (PM.fault (u1%65536) 0 u2 0 0) u2 false) (LM.tkf S.la u1 false (PM.fault (u1%65536) 0 u2 0 0)) h9)
  unfold take1 at HAD
  unfold take1
  obtain ⟨S2,hS2⟩:∃ S2,({ S with nw:=LM.tkN 1 S.nw S.la u1 S.br false (PM.fault (u1%65536) 0 u2 0 0) u2 false,la:=LM.tkL S.la u1 false (PM.fault (u1%65536) 0 u2 0 0),br:=LM.tkB 1 S.nw S.la u1 S.br false (PM.fault (u1%65536) 0 u2 0 0) u2 false }:Ss)=S2:=⟨_,rfl⟩
  rw [hS2] at HAD
  rw [hS2]
  generalize LM.tkx 1 S.nw S.la u1 S.br false (PM.fault (u1%65536) 0 u2 0 0) u2 false=is at *
  generalize LM.tkf S.la u1 false (PM.fault (u1%65536) 0 u2 0 0)=fa at *
  obtain ⟨sq,hsq⟩:∃ sq,u1%65536=sq:=⟨_,rfl⟩
  have hm:u1.tmod 65536=sq - 65536:=by
    have e:u1.tmod 65536=-((-u1).tmod 65536):=by rw [Int.neg_tmod,Int.neg_neg]
    rw [← hsq,e,Int.tmod_eq_emod_of_nonneg (by omega)]
    omega
  have d0:decide (sq - 65536<0)=true:=by simp;omega
  have hsb:0≤sq∧sq<65536:=by omega
  rw [hsq] at HAD
  clear h hO hx hk h1 h2 h3 h9 hS2 g hb1 hsq
  go_enter Tryz.func7,Tryz.ntmps7
  go_wp2_with fail
  refine C.out.mono ?_
  rintro e w1 ⟨g,cap,rfl,⟨c0,c1,c2,c3⟩,hd⟩
  have HD:=hidden hd
  clear hd
  go_wp2_with fail
  refine (CN.out w1).mono ?_
  rintro e w2 ⟨rfl,hw2⟩
  obtain rfl:w1=w2:=hw2.symm
  clear hw2
  go_wp2_with fail
  refine (N1.out w1).mono ?_
  rintro e w2 ⟨rfl,hw2⟩
  obtain rfl:w1=w2:=hw2.symm
  clear hw2
  go_wp2_with fail
  refine (N2.out w1).mono ?_
  rintro e w2 ⟨rfl,hw2⟩
  obtain rfl:w1=w2:=hw2.symm
  clear hw2
  go_wp2_with fail
  refine (N3.out w1).mono ?_
  rintro e w2 ⟨rfl,hw2⟩
  obtain rfl:w1=w2:=hw2.symm
  clear hw2
  go_wp2_with fail
  refine (HAD.out w1 HD.out).mono ?_
  rintro e w2 ⟨rfl,hd2⟩
  have HD2:=hidden hd2
  clear hd2
  go_wp2_with fail
  refine (HT.out w2).mono ?_
  rintro e w3 ⟨rfl,hb⟩
  go_wp2_with fail
  go_ret
  exact ⟨rfl,HD2.out.below hb⟩
set_option maxRecDepth 100000 in
set_option maxHeartbeats 1000000 in
theorem li_take_1p {w W:World} {b k:Nat} {S:Ss} {x:List UInt8} (h:Dk w W b S k) (hO:S.Ok) (hk5:k≤5000) (hx:x.length≤3000) {a1 a2 a3:List UInt8} (hk:cutL 32 x=[kTake,a1,a2,a3]) {u1:Int} (h1:numL a1=some u1) {u2:Int} (h2:numL a2=some u2) (h3:numL a3=some 1) (g:0≤u1∨u1%65536=0) :
    Calls Tryz.prog 7 #[.pointer (some ⟨b,0,none⟩),.string (bs x)] W (LineE w b (k+1) (take1 S u1 false (PM.fault (u1%65536) 0 u2 0 0) u2 true)):=by
  have C:=hidden (cut4 (h.more (Nat.le_succ k)) hx (show cutL 32 x=[[116,97,107,101],a1,a2,a3] from hk))
  have CN:=hidden (fun W=>needs_take W)
  have hl1:=word_len hx hk (y:=a1) (by simp)
  have hl2:=word_len hx hk (y:=a2) (by simp)
  have hl3:=word_len hx hk (y:=a3) (by simp)
  have q0:((bs [116,97,107,101]).toList==[117,110,119,114,97,112])=false:=eq_no (by decide)
  have q1:((bs [116,97,107,101]).toList==[115,101,101,110])=false:=eq_no (by decide)
  have q2:((bs [116,97,107,101]).toList==[99,114,99])=false:=eq_no (by decide)
  have q3:((bs [116,97,107,101]).toList==[111,112,101,110])=false:=eq_no (by decide)
  have q4:((bs [116,97,107,101]).toList==[112,97,105,114,115])=false:=eq_no (by decide)
  have q5:((bs [116,97,107,101]).toList==[102,97,105,114])=false:=eq_no (by decide)
  have q6:((bs [116,97,107,101]).toList==[104,101,97,114])=false:=eq_no (by decide)
  have q7:((bs [116,97,107,101]).toList==[116,97,107,101])=true:=eq_yes _
  have N1:=hidden (nine_calls a1 (by omega))
  have N2:=hidden (nine_calls a2 (by omega))
  have N3:=hidden (nine_calls a3 (by omega))
  rw [h1,nineE_some] at N1
  rw [h2,nineE_some] at N2
  rw [h3,nineE_some] at N3
  have hb1:=num_bd h1
  have HAD:=hidden (fun (W1:World) (hd:Dk w W1 b S (k+1))=>hd.take hO u1 false (u1%65536) 0 u2 0 true none 0 0)
  have h9:LM.tkf S.la u1 false (PM.fault (u1%65536) 0 u2 0 0)≤9:=by
    have hfl:PM.fault (u1%65536) 0 u2 0 0≤9:=by
      unfold PM.fault
      split
      · split<;>omega
      · omega
    unfold LM.tkf
    split
    · omega
    · split
      · omega
      · simp;omega
  have HT:=hidden (rtold_calls (LM.tkx 1 S.nw S.la u1 S.br false (PM.fault (u1%65536) 0 u2 0 0) u2 true) (LM.tkf S.la u1 false (PM.fault (u1%65536) 0 u2 0 0)) h9)
  unfold take1 at HAD
  unfold take1
  obtain ⟨S2,hS2⟩:∃ S2,({ S with nw:=LM.tkN 1 S.nw S.la u1 S.br false (PM.fault (u1%65536) 0 u2 0 0) u2 true,la:=LM.tkL S.la u1 false (PM.fault (u1%65536) 0 u2 0 0),br:=LM.tkB 1 S.nw S.la u1 S.br false (PM.fault (u1%65536) 0 u2 0 0) u2 true }:Ss)=S2:=⟨_,rfl⟩
  rw [hS2] at HAD
  rw [hS2]
  generalize LM.tkx 1 S.nw S.la u1 S.br false (PM.fault (u1%65536) 0 u2 0 0) u2 true=is at *
  generalize LM.tkf S.la u1 false (PM.fault (u1%65536) 0 u2 0 0)=fa at *
  obtain ⟨sq,hsq⟩:∃ sq,u1%65536=sq:=⟨_,rfl⟩
  have hm:u1.tmod 65536=sq:=by
    rw [← hsq]
    by_cases hz:0≤u1
    · exact Int.tmod_eq_emod_of_nonneg hz
    · have e:u1.tmod 65536=-((-u1).tmod 65536):=by rw [Int.neg_tmod,Int.neg_neg]
      rw [e,Int.tmod_eq_emod_of_nonneg (by omega)]
      omega
  have d0:decide (sq<0)=false:=by simp;omega
  rw [hsq] at HAD
  clear h hO hx hk h1 h2 h3 h9 hS2 g hb1 hsq
  go_enter Tryz.func7,Tryz.ntmps7
  go_wp2_with fail
  refine C.out.mono ?_
  rintro e w1 ⟨g,cap,rfl,⟨c0,c1,c2,c3⟩,hd⟩
  have HD:=hidden hd
  clear hd
  go_wp2_with fail
  refine (CN.out w1).mono ?_
  rintro e w2 ⟨rfl,hw2⟩
  obtain rfl:w1=w2:=hw2.symm
  clear hw2
  go_wp2_with fail
  refine (N1.out w1).mono ?_
  rintro e w2 ⟨rfl,hw2⟩
  obtain rfl:w1=w2:=hw2.symm
  clear hw2
  go_wp2_with fail
  refine (N2.out w1).mono ?_
  rintro e w2 ⟨rfl,hw2⟩
  obtain rfl:w1=w2:=hw2.symm
  clear hw2
  go_wp2_with fail
  refine (N3.out w1).mono ?_
  rintro e w2 ⟨rfl,hw2⟩
  obtain rfl:w1=w2:=hw2.symm
  clear hw2
  go_wp2_with fail
  refine (HAD.out w1 HD.out).mono ?_
  rintro e w2 ⟨rfl,hd2⟩
  have HD2:=hidden hd2
  clear hd2
  go_wp2_with fail
  refine (HT.out w2).mono ?_
  rintro e w3 ⟨rfl,hb⟩
  go_wp2_with fail
  go_ret
  exact ⟨rfl,HD2.out.below hb⟩
set_option maxRecDepth 100000 in
set_option maxHeartbeats 1000000 in
theorem li_take_1m {w W:World} {b k:Nat} {S:Ss} {x:List UInt8} (h:Dk w W b S k) (hO:S.Ok) (hk5:k≤5000) (hx:x.length≤3000) {a1 a2 a3:List UInt8} (hk:cutL 32 x=[kTake,a1,a2,a3]) {u1:Int} (h1:numL a1=some u1) {u2:Int} (h2:numL a2=some u2) (h3:numL a3=some 1) (g:u1<0∧u1%65536≠0) :
    Calls Tryz.prog 7 #[.pointer (some ⟨b,0,none⟩),.string (bs x)] W (LineE w b (k+1) (take1 S u1 false (PM.fault (u1%65536) 0 u2 0 0) u2 true)):=by
  have C:=hidden (cut4 (h.more (Nat.le_succ k)) hx (show cutL 32 x=[[116,97,107,101],a1,a2,a3] from hk))
  have CN:=hidden (fun W=>needs_take W)
  have hl1:=word_len hx hk (y:=a1) (by simp)
  have hl2:=word_len hx hk (y:=a2) (by simp)
  have hl3:=word_len hx hk (y:=a3) (by simp)
  have q0:((bs [116,97,107,101]).toList==[117,110,119,114,97,112])=false:=eq_no (by decide)
  have q1:((bs [116,97,107,101]).toList==[115,101,101,110])=false:=eq_no (by decide)
  have q2:((bs [116,97,107,101]).toList==[99,114,99])=false:=eq_no (by decide)
  have q3:((bs [116,97,107,101]).toList==[111,112,101,110])=false:=eq_no (by decide)
  have q4:((bs [116,97,107,101]).toList==[112,97,105,114,115])=false:=eq_no (by decide)
  have q5:((bs [116,97,107,101]).toList==[102,97,105,114])=false:=eq_no (by decide)
  have q6:((bs [116,97,107,101]).toList==[104,101,97,114])=false:=eq_no (by decide)
  have q7:((bs [116,97,107,101]).toList==[116,97,107,101])=true:=eq_yes _
  have N1:=hidden (nine_calls a1 (by omega))
  have N2:=hidden (nine_calls a2 (by omega))
  have N3:=hidden (nine_calls a3 (by omega))
  rw [h1,nineE_some] at N1
  rw [h2,nineE_some] at N2
  rw [h3,nineE_some] at N3
  have hb1:=num_bd h1
  have HAD:=hidden (fun (W1:World) (hd:Dk w W1 b S (k+1))=>hd.take hO u1 false (u1%65536) 0 u2 0 true none 0 0)
  have h9:LM.tkf S.la u1 false (PM.fault (u1%65536) 0 u2 0 0)≤9:=by
    have hfl:PM.fault (u1%65536) 0 u2 0 0≤9:=by
      unfold PM.fault
      split
      · split<;>omega
      · omega
    unfold LM.tkf
    split
    · omega
    · split
      · omega
      · simp;omega
  have HT:=hidden (rtold_calls (LM.tkx 1 S.nw S.la u1 S.br false (PM.fault (u1%65536) 0 u2 0 0) u2 true) (LM.tkf S.la u1 false (PM.fault (u1%65536) 0 u2 0 0)) h9)
  unfold take1 at HAD
  unfold take1
  obtain ⟨S2,hS2⟩:∃ S2,({ S with nw:=LM.tkN 1 S.nw S.la u1 S.br false (PM.fault (u1%65536) 0 u2 0 0) u2 true,la:=LM.tkL S.la u1 false (PM.fault (u1%65536) 0 u2 0 0),br:=LM.tkB 1 S.nw S.la u1 S.br false (PM.fault (u1%65536) 0 u2 0 0) u2 true }:Ss)=S2:=⟨_,rfl⟩
  rw [hS2] at HAD
  rw [hS2]
  generalize LM.tkx 1 S.nw S.la u1 S.br false (PM.fault (u1%65536) 0 u2 0 0) u2 true=is at *
  generalize LM.tkf S.la u1 false (PM.fault (u1%65536) 0 u2 0 0)=fa at *
  obtain ⟨sq,hsq⟩:∃ sq,u1%65536=sq:=⟨_,rfl⟩
  have hm:u1.tmod 65536=sq - 65536:=by
    have e:u1.tmod 65536=-((-u1).tmod 65536):=by rw [Int.neg_tmod,Int.neg_neg]
    rw [← hsq,e,Int.tmod_eq_emod_of_nonneg (by omega)]
    omega
  have d0:decide (sq - 65536<0)=true:=by simp;omega
  have hsb:0≤sq∧sq<65536:=by omega
  rw [hsq] at HAD
  clear h hO hx hk h1 h2 h3 h9 hS2 g hb1 hsq
  go_enter Tryz.func7,Tryz.ntmps7
  go_wp2_with fail
  refine C.out.mono ?_
  rintro e w1 ⟨g,cap,rfl,⟨c0,c1,c2,c3⟩,hd⟩
  have HD:=hidden hd
  clear hd
  go_wp2_with fail
  refine (CN.out w1).mono ?_
  rintro e w2 ⟨rfl,hw2⟩
  obtain rfl:w1=w2:=hw2.symm
  clear hw2
  go_wp2_with fail
  refine (N1.out w1).mono ?_
  rintro e w2 ⟨rfl,hw2⟩
  obtain rfl:w1=w2:=hw2.symm
  clear hw2
  go_wp2_with fail
  refine (N2.out w1).mono ?_
  rintro e w2 ⟨rfl,hw2⟩
  obtain rfl:w1=w2:=hw2.symm
  clear hw2
  go_wp2_with fail
  refine (N3.out w1).mono ?_
  rintro e w2 ⟨rfl,hw2⟩
  obtain rfl:w1=w2:=hw2.symm
  clear hw2
  go_wp2_with fail
  refine (HAD.out w1 HD.out).mono ?_
  rintro e w2 ⟨rfl,hd2⟩
  have HD2:=hidden hd2
  clear hd2
  go_wp2_with fail
  refine (HT.out w2).mono ?_
  rintro e w3 ⟨rfl,hb⟩
  go_wp2_with fail
  go_ret
  exact ⟨rfl,HD2.out.below hb⟩
theorem line_take {w W:World} {b k:Nat} {S:Ss} {x:List UInt8} (h:Dk w W b S k) (hO:S.Ok) (hk5:k≤5000) (hx:x.length≤3000) {a1 a2 a3:List UInt8} (hk:cutL 32 x=[kTake,a1,a2,a3]) :
    Calls Tryz.prog 7 #[.pointer (some ⟨b,0,none⟩),.string (bs x)] W (LineE w b (k+1) (aTake S ⟨[a1,a2,a3],false⟩)):=by
  cases h1:numL a1 with
  | none=>
    rw [take_bad S (.inl h1)]
    cases h2:numL a2 with
    | none=>
      cases h3:numL a3 with
      | none=>exact li_take_nnn h hO hk5 hx hk h1 h2 h3
      | some _=>exact li_take_nns h hO hk5 hx hk h1 h2 h3
    | some _=>
      cases h3:numL a3 with
      | none=>exact li_take_nsn h hO hk5 hx hk h1 h2 h3
      | some _=>exact li_take_nss h hO hk5 hx hk h1 h2 h3
  | some u=>
    cases h2:numL a2 with
    | none=>
      rw [take_bad S (.inr (.inl h2))]
      cases h3:numL a3 with
      | none=>exact li_take_snn h hO hk5 hx hk h1 h2 h3
      | some _=>exact li_take_sns h hO hk5 hx hk h1 h2 h3
    | some v=>
      cases h3:numL a3 with
      | none=>
        rw [take_bad S (.inr (.inr (.inl h3)))]
        exact li_take_ssn h hO hk5 hx hk h1 h2 h3
      | some f=>
        by_cases g0:f=0
        · subst g0
          rw [take_ok S h1 h2 h3 (.inl rfl)]
          by_cases g:0≤u∨u%65536=0
          · exact li_take_0p h hO hk5 hx hk h1 h2 h3 g
          · exact li_take_0m h hO hk5 hx hk h1 h2 h3 (by omega)
        · by_cases g1:f=1
          · subst g1
            rw [take_ok S h1 h2 h3 (.inr rfl)]
            by_cases g:0≤u∨u%65536=0
            · exact li_take_1p h hO hk5 hx hk h1 h2 h3 g
            · exact li_take_1m h hO hk5 hx hk h1 h2 h3 (by omega)
          · rw [take_bad S (.inr (.inr (.inr ⟨f,h3,g0,g1⟩)))]
            exact li_take_f h hO hk5 hx hk h1 h2 h3 g0 g1
set_option maxRecDepth 100000 in
set_option maxHeartbeats 1000000 in
theorem li_gone_n {w W:World} {b k:Nat} {S:Ss} {x:List UInt8} (h:Dk w W b S k) (hO:S.Ok) (hk5:k≤5000) (hx:x.length≤3000) {a1:List UInt8} (hk:cutL 32 x=[kGone,a1]) (h1:numL a1=none) :
    Calls Tryz.prog 7 #[.pointer (some ⟨b,0,none⟩),.string (bs x)] W (LineE w b (k+1) (.bad,S)):=by
  have C:=hidden (cut2 (h.more (Nat.le_succ k)) hx (show cutL 32 x=[[103,111,110,101],a1] from hk))
  have CN:=hidden (fun W=>needs_gone W)
  have hl1:=word_len hx hk (y:=a1) (by simp)
  have q0:((bs [103,111,110,101]).toList==[117,110,119,114,97,112])=false:=eq_no (by decide)
  have q1:((bs [103,111,110,101]).toList==[115,101,101,110])=false:=eq_no (by decide)
  have q2:((bs [103,111,110,101]).toList==[99,114,99])=false:=eq_no (by decide)
  have q3:((bs [103,111,110,101]).toList==[111,112,101,110])=false:=eq_no (by decide)
  have q4:((bs [103,111,110,101]).toList==[112,97,105,114,115])=false:=eq_no (by decide)
  have q5:((bs [103,111,110,101]).toList==[102,97,105,114])=false:=eq_no (by decide)
  have q6:((bs [103,111,110,101]).toList==[104,101,97,114])=false:=eq_no (by decide)
  have q7:((bs [103,111,110,101]).toList==[116,97,107,101])=false:=eq_no (by decide)
  have q8:((bs [103,111,110,101]).toList==[103,111,110,101])=true:=eq_yes _
  have N1:=hidden (nine_calls a1 (by omega))
  rw [h1,nineE_none] at N1
  clear h hO hx hk h1
  go_enter Tryz.func7,Tryz.ntmps7
  go_wp2_with fail
  refine C.out.mono ?_
  rintro e w1 ⟨g,cap,rfl,⟨c0,c1⟩,hd⟩
  have HD:=hidden hd
  clear hd
  go_wp2_with fail
  refine (CN.out w1).mono ?_
  rintro e w2 ⟨rfl,hw2⟩
  obtain rfl:w1=w2:=hw2.symm
  clear hw2
  go_wp2_with fail
  refine (N1.out w1).mono ?_
  rintro e w2 ⟨rfl,hw2⟩
  obtain rfl:w1=w2:=hw2.symm
  clear hw2
  go_wp2_with fail
  go_ret
  exact ⟨rfl,HD.out⟩
set_option maxRecDepth 100000 in
set_option maxHeartbeats 1000000 in
theorem li_gone_ok {w W:World} {b k:Nat} {S:Ss} {x:List UInt8} (h:Dk w W b S k) (hO:S.Ok) (hk5:k≤5000) (hx:x.length≤3000) {a1:List UInt8} (hk:cutL 32 x=[kGone,a1]) {u1:Int} (h1:numL a1=some u1) :
    Calls Tryz.prog 7 #[.pointer (some ⟨b,0,none⟩),.string (bs x)] W (LineE w b (k+1) (take1 S u1 true 0 0 false)):=by
  have C:=hidden (cut2 (h.more (Nat.le_succ k)) hx (show cutL 32 x=[[103,111,110,101],a1] from hk))
  have CN:=hidden (fun W=>needs_gone W)
  have hl1:=word_len hx hk (y:=a1) (by simp)
  have q0:((bs [103,111,110,101]).toList==[117,110,119,114,97,112])=false:=eq_no (by decide)
  have q1:((bs [103,111,110,101]).toList==[115,101,101,110])=false:=eq_no (by decide)
  have q2:((bs [103,111,110,101]).toList==[99,114,99])=false:=eq_no (by decide)
  have q3:((bs [103,111,110,101]).toList==[111,112,101,110])=false:=eq_no (by decide)
  have q4:((bs [103,111,110,101]).toList==[112,97,105,114,115])=false:=eq_no (by decide)
  have q5:((bs [103,111,110,101]).toList==[102,97,105,114])=false:=eq_no (by decide)
  have q6:((bs [103,111,110,101]).toList==[104,101,97,114])=false:=eq_no (by decide)
  have q7:((bs [103,111,110,101]).toList==[116,97,107,101])=false:=eq_no (by decide)
  have q8:((bs [103,111,110,101]).toList==[103,111,110,101])=true:=eq_yes _
  have N1:=hidden (nine_calls a1 (by omega))
  rw [h1,nineE_some] at N1
  have HAD:=hidden (fun (W1:World) (hd:Dk w W1 b S (k+1))=>hd.take hO u1 true 0 0 0 0 false none 0 0)
  have hf0:PM.fault 0 0 0 0 0=0:=by decide
  rw [hf0] at HAD
  have h9:LM.tkf S.la u1 true 0≤9:=by unfold LM.tkf;split;omega;split;omega;simp
  have HT:=hidden (rtold_calls (LM.tkx 1 S.nw S.la u1 S.br true 0 0 false) (LM.tkf S.la u1 true 0) h9)
  unfold take1 at HAD
  unfold take1
  obtain ⟨S2,hS2⟩:∃ S2,({ S with nw:=LM.tkN 1 S.nw S.la u1 S.br true 0 0 false,la:=LM.tkL S.la u1 true 0,br:=LM.tkB 1 S.nw S.la u1 S.br true 0 0 false }:Ss)=S2:=⟨_,rfl⟩
  rw [hS2] at HAD
  rw [hS2]
  generalize LM.tkx 1 S.nw S.la u1 S.br true 0 0 false=is at *
  generalize LM.tkf S.la u1 true 0=f at *
  clear h hO hx hk h1 h9 hS2 hf0
  go_enter Tryz.func7,Tryz.ntmps7
  go_wp2_with fail
  refine C.out.mono ?_
  rintro e w1 ⟨g,cap,rfl,⟨c0,c1⟩,hd⟩
  have HD:=hidden hd
  clear hd
  go_wp2_with fail
  refine (CN.out w1).mono ?_
  rintro e w2 ⟨rfl,hw2⟩
  obtain rfl:w1=w2:=hw2.symm
  clear hw2
  go_wp2_with fail
  refine (N1.out w1).mono ?_
  rintro e w2 ⟨rfl,hw2⟩
  obtain rfl:w1=w2:=hw2.symm
  clear hw2
  go_wp2_with fail
  refine (HAD.out w1 HD.out).mono ?_
  rintro e w2 ⟨rfl,hd2⟩
  have HD2:=hidden hd2
  clear hd2
  go_wp2_with fail
  refine (HT.out w2).mono ?_
  rintro e w3 ⟨rfl,hb⟩
  go_wp2_with fail
  go_ret
  exact ⟨rfl,HD2.out.below hb⟩
theorem line_gone {w W:World} {b k:Nat} {S:Ss} {x:List UInt8} (h:Dk w W b S k) (hO:S.Ok) (hk5:k≤5000) (hx:x.length≤3000) {a1:List UInt8} (hk:cutL 32 x=[kGone,a1]) :
    Calls Tryz.prog 7 #[.pointer (some ⟨b,0,none⟩),.string (bs x)] W (LineE w b (k+1) (aGone S ⟨[a1],false⟩)):=by
  cases h1:numL a1 with
  | none=>
    rw [gone_bad S h1]
    exact li_gone_n h hO hk5 hx hk h1
  | some u=>
    rw [gone_ok S h1]
    exact li_gone_ok h hO hk5 hx hk h1
end Go.Proofs.YtlppdppddiecnaaGreatDoor.Run
