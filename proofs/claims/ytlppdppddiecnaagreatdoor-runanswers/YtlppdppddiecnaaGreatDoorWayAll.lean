/-
  RunLw, RunL9, RunLo, RunLz in one text.
-/
import Derived.Test.YtlppdppddiecnaaGreatDoorLiAll
import Derived.Deep.AppendLies
import Derived.Deep.RegionHeld3
import Derived.Deep.RegionLaw

namespace Go.Proofs.YtlppdppddiecnaaGreatDoor.Run
open Go.ChangeShapes Go.WideShapes Go.ChangeAt Go.RowKit Go.Proofs.YtlppdppddiecnaaGreatDoor.Mem Go.Proofs.YtlppdppddiecnaaGreatDoor.RN Go.Proofs.YtlppdppddiecnaaGreatDoor.RC
set_option linter.unusedVariables false
theorem infoEDD:(Tryz.prog.info? 92).map (fun i=>(i.zero,i.size,i.bytes))=some (some (.agg #[.int .i64 0,.int .i64 0,.int .i64 0]),3,24):=by kernel_rfl
theorem lit3D {w:World} {T:TypeId} (x0 x1 x2:Value):∀ j u,[x0,x1,x2][j]?=some u→(w.alloc (.cells #[x0,x1,x2] T)).cell? ((⟨w.heap.size,0,none⟩:Addr).add j)=some u:=by
  intro j u hu
  rw [Addr.add_lit,World.cell?_alloc_mark,Nat.zero_add,← hu]
  exact List.getElem?_toArray
theorem threes_app:∀ (i:Nat) (L:List Int) (x0 x1 x2:Int),L.length=i*3→threes (L++[x0,x1,x2])=threes L++[⟨x0,x1,x2⟩]∧(threes L).length=i
  | 0,L,x0,x1,x2,h=>by
    obtain rfl:=List.eq_nil_of_length_eq_zero (by omega:L.length=0)
    exact ⟨rfl,rfl⟩
  | i+1,L,x0,x1,x2,h=>by
    match L,h with
    | a::b::c::r,h=>
      obtain ⟨h1,h2⟩:=threes_app i r x0 x1 x2 (by simp at h;omega)
      exact ⟨by simp only [List.cons_append,threes,h1],by simp only [threes,List.length_cons,h2]⟩
    | [],h=>simp at h
    | [_],h=>simp at h;omega
    | [_,_],h=>simp at h;omega
theorem threes_len (L:List Int) (i:Nat) (h:i*3≤L.length):(threes (L.take (i*3))).length=i:=(threes_app i (L.take (i*3)) 0 0 0 (by rw [List.length_take];omega)).2
theorem threes_more (L:List Int) (i:Nat) (h:i*3+2<L.length):threes (L.take ((i+1)*3))=threes (L.take (i*3))++[⟨TM.dg L (i*3),TM.dg L (i*3+1),TM.dg L (i*3+2)⟩]:=by
  rw [← (threes_app i (L.take (i*3)) (TM.dg L (i*3)) (TM.dg L (i*3+1)) (TM.dg L (i*3+2)) (by rw [List.length_take];omega)).1]
  congr 1
  have e:(i+1)*3=i*3+1+1+1:=by omega
  rw [e,int_snoc (by omega),int_snoc (by omega),int_snoc (by omega)]
  simp
theorem mc_snoc (E:List TM.Ed) (x0 x1 x2:Int):Tree.mc (E++[⟨x0,x1,x2⟩])=Tree.mc E++[.int .i64 x0,.int .i64 x1,.int .i64 x2]:=by
  simp [Tree.mc]
theorem ck_le7 (n:Int):∀ (L A:List TM.Ed),TM.ck n A L≤7
  | [],A=>by simp [TM.ck]
  | e::r,A=>by
    have ih:=ck_le7 n r (A++[e])
    unfold TM.ck
    split
    · omega
    · split
      · omega
      · exact ih
theorem ef_le9 (n:Int) (L:List TM.Ed):TM.ef n L≤9:=by
  have:=ck_le7 n L []
  unfold TM.ef
  split
  · omega
  · split
    · omega
    · omega
theorem fit_pos {m:Nat} {L:List TM.Ed} (h:TM.ef (m:Int) L=0):0<m:=by
  unfold TM.ef at h
  split at h
  · omega
  · omega
theorem lf_zero {m:Nat} {L:List TM.Ed} (h:TM.ef (m:Int) L=0) (hm:0<m):TM.lf (m:Int) L 0=0:=by
  unfold TM.lf
  rw [if_neg (by simp [h]),if_neg (by simp [TM.isn];omega)]
theorem dist_lo {L:List TM.Ed} {m:Nat} {d:List Int} (h:TM.IsDist L m 0 d) (x:Nat):-1≤TM.dg d x:=h.low x
set_option maxRecDepth 100000 in
set_option maxHeartbeats 1000000 in
theorem li_way_nn {w W:World} {b k:Nat} {S:Ss} {x:List UInt8} (h:Dk w W b S k) (hO:S.Ok) (hk5:k≤5000) (hx:x.length≤3000) {a1 a2:List UInt8} (hk:cutL 32 x=[kWay,a1,a2]) (h1:numL a1=none) (h2:listR a2=none) :
    Calls Tryz.prog 7 #[.pointer (some ⟨b,0,none⟩),.string (bs x)] W (LineE w b (k+1) (.bad,S)):=by
  have C:=hidden (cut3 (h.more (Nat.le_succ k)) hx (show cutL 32 x=[[119,97,121],a1,a2] from hk))
  have CN:=hidden (fun W=>needs_way W)
  have hl1:=word_len hx hk (y:=a1) (by simp)
  have hl2:=word_len hx hk (y:=a2) (by simp)
  have q0:((bs [119,97,121]).toList==[117,110,119,114,97,112])=false:=eq_no (by decide)
  have q1:((bs [119,97,121]).toList==[115,101,101,110])=false:=eq_no (by decide)
  have q2:((bs [119,97,121]).toList==[99,114,99])=false:=eq_no (by decide)
  have q3:((bs [119,97,121]).toList==[111,112,101,110])=false:=eq_no (by decide)
  have q4:((bs [119,97,121]).toList==[112,97,105,114,115])=false:=eq_no (by decide)
  have q5:((bs [119,97,121]).toList==[102,97,105,114])=false:=eq_no (by decide)
  have q6:((bs [119,97,121]).toList==[104,101,97,114])=false:=eq_no (by decide)
  have q7:((bs [119,97,121]).toList==[116,97,107,101])=false:=eq_no (by decide)
  have q8:((bs [119,97,121]).toList==[103,111,110,101])=false:=eq_no (by decide)
  have N1:=hidden (nine_calls a1 (by omega))
  rw [h1,nineE_none] at N1
  have B2:=hidden (rl_no h2 (by omega))
  clear h hO hx hk h1 h2
  go_enter Tryz.func7,Tryz.ntmps7
  go_wp2_with fail
  refine C.out.mono ?_
  rintro e w1 ⟨g,cap,rfl,⟨c0,c1,c2⟩,hd⟩
  have HD:=hidden hd
  clear hd
  go_wp2_with fail
  refine (CN.out w1).mono ?_
  rintro e w2 ⟨rfl,hw2⟩
  obtain rfl:w1=w2:=hw2.symm
  clear hw2
  go_wp2_with fail
  refine (N1.out w1).mono ?_
  rintro e w2 ⟨rfl,hw2⟩
  obtain rfl:w1=w2:=hw2.symm
  clear hw2
  go_wp2_with fail
  refine (B2.out w1).mono ?_
  rintro e w2 ⟨rfl,hb⟩
  have HD2:=hidden (HD.out.below hb)
  clear hb
  go_wp2_with fail
  go_ret
  exact ⟨rfl,HD2.out⟩
set_option maxRecDepth 100000 in
set_option maxHeartbeats 1000000 in
theorem li_way_ns {w W:World} {b k:Nat} {S:Ss} {x:List UInt8} (h:Dk w W b S k) (hO:S.Ok) (hk5:k≤5000) (hx:x.length≤3000) {a1 a2:List UInt8} (hk:cutL 32 x=[kWay,a1,a2]) (h1:numL a1=none) {L:List Int} (h2:listR a2=some L) :
    Calls Tryz.prog 7 #[.pointer (some ⟨b,0,none⟩),.string (bs x)] W (LineE w b (k+1) (.bad,S)):=by
  have C:=hidden (cut3 (h.more (Nat.le_succ k)) hx (show cutL 32 x=[[119,97,121],a1,a2] from hk))
  have CN:=hidden (fun W=>needs_way W)
  have hl1:=word_len hx hk (y:=a1) (by simp)
  have hl2:=word_len hx hk (y:=a2) (by simp)
  have q0:((bs [119,97,121]).toList==[117,110,119,114,97,112])=false:=eq_no (by decide)
  have q1:((bs [119,97,121]).toList==[115,101,101,110])=false:=eq_no (by decide)
  have q2:((bs [119,97,121]).toList==[99,114,99])=false:=eq_no (by decide)
  have q3:((bs [119,97,121]).toList==[111,112,101,110])=false:=eq_no (by decide)
  have q4:((bs [119,97,121]).toList==[112,97,105,114,115])=false:=eq_no (by decide)
  have q5:((bs [119,97,121]).toList==[102,97,105,114])=false:=eq_no (by decide)
  have q6:((bs [119,97,121]).toList==[104,101,97,114])=false:=eq_no (by decide)
  have q7:((bs [119,97,121]).toList==[116,97,107,101])=false:=eq_no (by decide)
  have q8:((bs [119,97,121]).toList==[103,111,110,101])=false:=eq_no (by decide)
  have N1:=hidden (nine_calls a1 (by omega))
  rw [h1,nineE_none] at N1
  have B2:=hidden (rl_yes h2 (by omega))
  have hln:=(rl_len h2 (by omega)).1
  generalize L.length=n at *
  clear h hO hx hk h1 h2
  go_enter Tryz.func7,Tryz.ntmps7
  go_wp2_with fail
  refine C.out.mono ?_
  rintro e w1 ⟨g,cap,rfl,⟨c0,c1,c2⟩,hd⟩
  have HD:=hidden hd
  clear hd
  go_wp2_with fail
  refine (CN.out w1).mono ?_
  rintro e w2 ⟨rfl,hw2⟩
  obtain rfl:w1=w2:=hw2.symm
  clear hw2
  go_wp2_with fail
  refine (N1.out w1).mono ?_
  rintro e w2 ⟨rfl,hw2⟩
  obtain rfl:w1=w2:=hw2.symm
  clear hw2
  go_wp2_with fail
  refine (B2.out w1).mono ?_
  rintro e w2 ⟨a,cap,rfl,_,hb⟩
  have HD2:=hidden (HD.out.below hb)
  clear hb
  go_wp2_with fail
  go_ret
  exact ⟨rfl,HD2.out⟩
set_option maxRecDepth 100000 in
set_option maxHeartbeats 1000000 in
theorem li_way_sn {w W:World} {b k:Nat} {S:Ss} {x:List UInt8} (h:Dk w W b S k) (hO:S.Ok) (hk5:k≤5000) (hx:x.length≤3000) {a1 a2:List UInt8} (hk:cutL 32 x=[kWay,a1,a2]) {u1:Int} (h1:numL a1=some u1) (h2:listR a2=none) :
    Calls Tryz.prog 7 #[.pointer (some ⟨b,0,none⟩),.string (bs x)] W (LineE w b (k+1) (.bad,S)):=by
  have C:=hidden (cut3 (h.more (Nat.le_succ k)) hx (show cutL 32 x=[[119,97,121],a1,a2] from hk))
  have CN:=hidden (fun W=>needs_way W)
  have hl1:=word_len hx hk (y:=a1) (by simp)
  have hl2:=word_len hx hk (y:=a2) (by simp)
  have q0:((bs [119,97,121]).toList==[117,110,119,114,97,112])=false:=eq_no (by decide)
  have q1:((bs [119,97,121]).toList==[115,101,101,110])=false:=eq_no (by decide)
  have q2:((bs [119,97,121]).toList==[99,114,99])=false:=eq_no (by decide)
  have q3:((bs [119,97,121]).toList==[111,112,101,110])=false:=eq_no (by decide)
  have q4:((bs [119,97,121]).toList==[112,97,105,114,115])=false:=eq_no (by decide)
  have q5:((bs [119,97,121]).toList==[102,97,105,114])=false:=eq_no (by decide)
  have q6:((bs [119,97,121]).toList==[104,101,97,114])=false:=eq_no (by decide)
  have q7:((bs [119,97,121]).toList==[116,97,107,101])=false:=eq_no (by decide)
  have q8:((bs [119,97,121]).toList==[103,111,110,101])=false:=eq_no (by decide)
  have N1:=hidden (nine_calls a1 (by omega))
  rw [h1,nineE_some] at N1
  have B2:=hidden (rl_no h2 (by omega))
  clear h hO hx hk h1 h2
  go_enter Tryz.func7,Tryz.ntmps7
  go_wp2_with fail
  refine C.out.mono ?_
  rintro e w1 ⟨g,cap,rfl,⟨c0,c1,c2⟩,hd⟩
  have HD:=hidden hd
  clear hd
  go_wp2_with fail
  refine (CN.out w1).mono ?_
  rintro e w2 ⟨rfl,hw2⟩
  obtain rfl:w1=w2:=hw2.symm
  clear hw2
  go_wp2_with fail
  refine (N1.out w1).mono ?_
  rintro e w2 ⟨rfl,hw2⟩
  obtain rfl:w1=w2:=hw2.symm
  clear hw2
  go_wp2_with fail
  refine (B2.out w1).mono ?_
  rintro e w2 ⟨rfl,hb⟩
  have HD2:=hidden (HD.out.below hb)
  clear hb
  go_wp2_with fail
  go_ret
  exact ⟨rfl,HD2.out⟩
set_option maxRecDepth 100000 in
set_option maxHeartbeats 1000000 in
theorem li_way_m (D:Far) (hD:D.Ok) {w W:World} {b k:Nat} {S:Ss} {x:List UInt8} (h:Dk w W b S k) (hO:S.Ok) (hk5:k≤5000) (hx:x.length≤3000) {a1 a2:List UInt8} (hk:cutL 32 x=[kWay,a1,a2]) {u1:Int} (h1:numL a1=some u1) {L:List Int} (h2:listR a2=some L) (hm3:L.length%3≠0) :
    Calls Tryz.prog 7 #[.pointer (some ⟨b,0,none⟩),.string (bs x)] W (LineE w b (k+1) (.bad,S)):=by
  have C:=hidden (cut3 (h.more (Nat.le_succ k)) hx (show cutL 32 x=[[119,97,121],a1,a2] from hk))
  have CN:=hidden (fun W=>needs_way W)
  have hl1:=word_len hx hk (y:=a1) (by simp)
  have hl2:=word_len hx hk (y:=a2) (by simp)
  have q0:((bs [119,97,121]).toList==[117,110,119,114,97,112])=false:=eq_no (by decide)
  have q1:((bs [119,97,121]).toList==[115,101,101,110])=false:=eq_no (by decide)
  have q2:((bs [119,97,121]).toList==[99,114,99])=false:=eq_no (by decide)
  have q3:((bs [119,97,121]).toList==[111,112,101,110])=false:=eq_no (by decide)
  have q4:((bs [119,97,121]).toList==[112,97,105,114,115])=false:=eq_no (by decide)
  have q5:((bs [119,97,121]).toList==[102,97,105,114])=false:=eq_no (by decide)
  have q6:((bs [119,97,121]).toList==[104,101,97,114])=false:=eq_no (by decide)
  have q7:((bs [119,97,121]).toList==[116,97,107,101])=false:=eq_no (by decide)
  have q8:((bs [119,97,121]).toList==[103,111,110,101])=false:=eq_no (by decide)
  have N1:=hidden (nine_calls a1 (by omega))
  rw [h1,nineE_some] at N1
  have hln:=(rl_len h2 (by omega)).1
  have B2:=hidden (rl_yes h2 (by omega))
  have hb1:=num_bd h1
  have hmm:(L.length:Int).tmod 3=((L.length%3:Nat):Int):=by rw [Int.tmod_eq_emod_of_nonneg (by omega)];rfl
  obtain ⟨q,hq⟩:∃ q,L.length%3=q:=⟨_,rfl⟩
  rw [hq] at hmm hm3
  have n0:((q:Int) != 0)=true:=bne_iff_ne.2 (by omega)
  have n2:((q:Int)==0)=false:=beq_eq_false_iff_ne.2 (by omega)
  have n1:decide ((q:Int)=0)=false:=by simp;omega
  clear hq
  generalize L.length=n at *
  clear h hO hx hk h1 h2 hD
  go_enter Tryz.func7,Tryz.ntmps7
  go_wp2_with fail
  refine C.out.mono ?_
  rintro e w1 ⟨g,cap,rfl,⟨c0,c1,c2⟩,hd⟩
  have HD:=hidden hd
  clear hd
  go_wp2_with fail
  refine (CN.out w1).mono ?_
  rintro e w2 ⟨rfl,hw2⟩
  obtain rfl:w1=w2:=hw2.symm
  clear hw2
  go_wp2_with fail
  refine (N1.out w1).mono ?_
  rintro e w2 ⟨rfl,hw2⟩
  obtain rfl:w1=w2:=hw2.symm
  clear hw2
  go_wp2_with fail
  refine (B2.out w1).mono ?_
  rintro e w2 ⟨a,cap,rfl,⟨hA,_,_⟩,hb⟩
  have HD2:=hidden (HD.out.below hb)
  have HA:=hidden hA
  clear hb hA c0 c1 c2
  clear HA
  go_wp2_with fail
  go_ret
  exact ⟨rfl,HD2.out⟩
set_option maxRecDepth 100000 in
set_option maxHeartbeats 32000000 in
theorem li_way_e (D:Far) (hD:D.Ok) {w W:World} {b k:Nat} {S:Ss} {x:List UInt8} (h:Dk w W b S k) (hO:S.Ok) (hk5:k≤5000) (hx:x.length≤3000) {a1 a2:List UInt8} (hk:cutL 32 x=[kWay,a1,a2]) {u1:Int} (h1:numL a1=some u1) {L:List Int} (h2:listR a2=some L) (hm3:L.length%3=0) (hf:TM.ef u1 (threes L)≠0) :
    Calls Tryz.prog 7 #[.pointer (some ⟨b,0,none⟩),.string (bs x)] W (LineE w b (k+1) (.err (TM.ef u1 (threes L)),S)):=by
  have C:=hidden (cut3 (h.more (Nat.le_succ k)) hx (show cutL 32 x=[[119,97,121],a1,a2] from hk))
  have CN:=hidden (fun W=>needs_way W)
  have hl1:=word_len hx hk (y:=a1) (by simp)
  have hl2:=word_len hx hk (y:=a2) (by simp)
  have q0:((bs [119,97,121]).toList==[117,110,119,114,97,112])=false:=eq_no (by decide)
  have q1:((bs [119,97,121]).toList==[115,101,101,110])=false:=eq_no (by decide)
  have q2:((bs [119,97,121]).toList==[99,114,99])=false:=eq_no (by decide)
  have q3:((bs [119,97,121]).toList==[111,112,101,110])=false:=eq_no (by decide)
  have q4:((bs [119,97,121]).toList==[112,97,105,114,115])=false:=eq_no (by decide)
  have q5:((bs [119,97,121]).toList==[102,97,105,114])=false:=eq_no (by decide)
  have q6:((bs [119,97,121]).toList==[104,101,97,114])=false:=eq_no (by decide)
  have q7:((bs [119,97,121]).toList==[116,97,107,101])=false:=eq_no (by decide)
  have q8:((bs [119,97,121]).toList==[103,111,110,101])=false:=eq_no (by decide)
  have N1:=hidden (nine_calls a1 (by omega))
  rw [h1,nineE_some] at N1
  have hln:=(rl_len h2 (by omega)).1
  have B2:=hidden (rl_yes h2 (by omega))
  have hb1:=num_bd h1
  have HEG:=hidden (fun (W:World) a cap (hA:Tree.EArg W a (threes L).length (threes L))=>RTree.redges_calls u1 a (threes L).length cap (threes L) W hA)
  have HLE3:Hid ((threes L).length≤3001):=hidden (by
    obtain ⟨q,hq⟩:∃ q,L.length=q*3:=⟨L.length / 3,by omega⟩
    have:=threes_len L q (by omega)
    rw [← hq,List.take_length] at this
    omega)
  have h9:TM.ef u1 (threes L)≤9:=ef_le9 u1 (threes L)
  have HN1:=hidden (rname_calls (TM.ef u1 (threes L)) (by omega) h9)
  have d0:((TM.ef u1 (threes L):Int)==0)=false:=by simp;omega
  have d1:decide ((TM.ef u1 (threes L):Int)=0)=false:=by simp;omega
  generalize TM.ef u1 (threes L)=f at *
  have hmm:(L.length:Int).tmod 3=0:=by rw [Int.tmod_eq_emod_of_nonneg (by omega)];omega
  have HM3:=hidden hm3
  obtain ⟨i0,hii,hz0,hz1,hz2⟩:=info_parts infoEDD
  obtain ⟨n,hn⟩:∃ n,L.length=n:=⟨_,rfl⟩
  have HN:=hidden hn
  rw [hn] at hln B2 hmm HM3
  clear h hO hx hk h1 h2 hm3 hf hD h9 hn
  go_enter Tryz.func7,Tryz.ntmps7
  go_wp2_with fail
  refine C.out.mono ?_
  rintro e w1 ⟨g,cap,rfl,⟨c0,c1,c2⟩,hd⟩
  have HD:=hidden hd
  clear hd
  go_wp2_with fail
  refine (CN.out w1).mono ?_
  rintro e w2 ⟨rfl,hw2⟩
  obtain rfl:w1=w2:=hw2.symm
  clear hw2
  go_wp2_with fail
  refine (N1.out w1).mono ?_
  rintro e w2 ⟨rfl,hw2⟩
  obtain rfl:w1=w2:=hw2.symm
  clear hw2
  go_wp2_with fail
  refine (B2.out w1).mono ?_
  rintro e w2 ⟨a,cap,rfl,⟨hA,_,_⟩,hb⟩
  have HD2:=hidden (HD.out.below hb)
  have HA:=hidden hA
  clear hb hA c0 c1 c2
  have H0:Hid (Below w2.heap.size w2 w2∧w2.ownsRow w2.heap.size 92 3 (.slice none 0 0) (threes (L.take 0)).length (Tree.mc (threes (L.take 0)))):=hidden ⟨Below.refl _ _,World.ownsRow_nil _ _ _ _⟩
  go_wp2_with fail
  go_loopg [50,51] n (fun gg u y wr=>∃ (i:Nat) (v:Value),i*3+gg=n∧v=u∧y=.int .i64 ((i*3:Nat):Int)∧Hid (Below w2.heap.size w2 wr∧wr.ownsRow w2.heap.size 92 3 v (threes (L.take (i*3))).length (Tree.mc (threes (L.take (i*3))))))
  case atStart=>exact ⟨0,_,by omega,rfl,rfl,H0⟩
  case round=>
    obtain ⟨i,v,hig,rfl,rfl,HV⟩:=hrel
    clear H0
    have hbase:=HV.out.1.size
    obtain ⟨j,hj⟩:∃ j,i*3=j:=⟨_,rfl⟩
    rw [hj] at hig HV ⊢
    have HJ:=hidden hj
    by_cases hi:j<n
    · have hj2:j+2<n:=by have:=HM3.out;omega
      have hiz:(j:Int)<(n:Int):=by omega
      obtain ⟨j1,hj1⟩:∃ j1,j+1=j1:=⟨_,rfl⟩
      obtain ⟨j2,hj22⟩:∃ j2,j+2=j2:=⟨_,rfl⟩
      have hiz1:(j1:Int)<(n:Int):=by omega
      have hiz2:(j2:Int)<(n:Int):=by omega
      have hjb:j≤3001:=by omega
      obtain ⟨bb,oo,rfl,hat⟩:=(HA.out.below HV.out.1).at (by omega)
      have c0:=hat j hi
      have c1:=hat j1 (by omega)
      have c2:=hat j2 (by omega)
      have hw1:IntKind.i64.wrap ((j:Int)+1)=(j1:Int):=by rw [IntKind.wrap_i64];omega
      have hw2:IntKind.i64.wrap ((j:Int)+2)=(j2:Int):=by rw [IntKind.wrap_i64];omega
      have hst:=threes_more L i (by have:=HN.out;omega)
      have e3:(i+1)*3=j+3:=by omega
      rw [e3,hj,hj1,hj22] at hst
      have hlt3:(threes (L.take j)).length≤3001:=by
        rw [← hj,threes_len L i (by have:=HN.out;omega)];omega
      have HST:=hidden hst
      generalize TM.dg L j=x0 at *
      generalize TM.dg L j1=x1 at *
      generalize TM.dg L j2=x2 at *
      clear hst hat hj e3 hj1 hj22
      generalize threes (L.take j)=E at *
      obtain ⟨me,hme⟩:∃ me,E.length=me:=⟨_,rfl⟩
      have HME:=hidden hme
      have HOW:Hid (wr.ownsRow w2.heap.size 92 3 v me (Tree.mc E)):=by rw [← hme];exact hidden HV.out.2
      rw [hme] at hlt3
      clear hme
      go_wp2_with fail
      go_region_law (refine step_append_lies _ (by rfl) _ _ _ (by rfl) w2.heap.size 92 i0 _ 3 24 Tryz.underlying90 hii hz0 hz1 hz2 rfl (by omega) _ me (Tree.mc E) (by rfl) ((HOW.out.alloc _).drew) ⟨wr.heap.size,0,none⟩ 1 1 [.int .i64 x0,.int .i64 x1,.int .i64 x2] (by rfl) (by rfl) (World.news_of_block (cs:=#[.int .i64 x0,.int .i64 x1,.int .i64 x2]) (t:=92) (fr:=(0,0)) (heap_alloc_new wr _)) (by simp [Value.oneCell']) (by omega) (by unfold maxLen;omega) (by omega) (by simp;omega) (wr.heap.size+1) (by simp) ?_;intro gg3 cc3 w4 hown hgrow hat2 hlt2)
      all_goals (
        have HVn:Hid (Below w2.heap.size w2 w4∧w4.ownsRow w2.heap.size 92 3 (.slice (some ⟨gg3,0,none⟩) (me+1) cc3) (threes (L.take (j+3))).length (Tree.mc (threes (L.take (j+3))))):=hidden ⟨((HV.out.1.alloc hbase _).drew.grown hgrow (by simp;omega) (fun k hk=>own_loR HOW.out hk)),by
          rw [HST.out,mc_snoc,List.length_append,HME.out]
          exact hown⟩
        clear hown hgrow hbase hat2 hlt2
        go_wp2_with fail
        go_roundg (n - (j+3))
        case measure=>omega
        case rel=>
          have e3:(i+1)*3=j+3:=by have:=HJ.out;omega
          exact ⟨i+1,_,by omega,rfl,by rw [e3];go_num,by rw [e3];exact HVn⟩)
    · have hiz:¬ (j:Int)<(n:Int):=by omega
      have he:L.take j=L:=List.take_of_length_le (by have:=HN.out;omega)
      have hown:=HV.out.2
      rw [he] at hown
      have hEl:=hown.1
      obtain ⟨a4,cap4,rfl,hA4,_⟩:=own_eds hown (by have:=HLE3.out;omega)
      have HDr:=hidden (HD2.out.below HV.out.1)
      have HEG2:=hidden (HEG.out wr a4 cap4 hA4)
      have HA4:=hidden hA4
      clear hown hA4 he HV hEl
      go_wp2_with fail
      refine HEG2.out.mono ?_
      rintro e w4 ⟨rfl,hb4⟩
      have HDs:=hidden (HDr.out.below hb4)
      have HA5:=hidden (HA4.out.below hb4)
      clear hb4
      clear HA5 HA4
      go_wp2_with fail
      refine (HN1.out w4).mono ?_
      rintro e w5 ⟨rfl,hb⟩
      go_wp2_with fail
      go_ret
      exact ⟨rfl,HDs.out.below hb⟩
set_option maxRecDepth 100000 in
set_option maxHeartbeats 32000000 in
theorem li_way_ok (D:Far) (hD:D.Ok) {w W:World} {b k:Nat} {S:Ss} {x:List UInt8} (h:Dk w W b S k) (hO:S.Ok) (hk5:k≤5000) (hx:x.length≤3000) {a1 a2:List UInt8} (hk:cutL 32 x=[kWay,a1,a2]) {u1:Int} (h1:numL a1=some u1) {L:List Int} (h2:listR a2=some L) (hm3:L.length%3=0) (hf:TM.ef u1 (threes L)=0) :
    Calls Tryz.prog 7 #[.pointer (some ⟨b,0,none⟩),.string (bs x)] W (fun e w'=>(joined ((D u1 (threes L)).map Lib.itoa) 44).length≤1000000∧LineE w b (k+1) (.ok (joined ((D u1 (threes L)).map Lib.itoa) 44),S) e w'):=by
  have C:=hidden (cut3 (h.more (Nat.le_succ k)) hx (show cutL 32 x=[[119,97,121],a1,a2] from hk))
  have CN:=hidden (fun W=>needs_way W)
  have hl1:=word_len hx hk (y:=a1) (by simp)
  have hl2:=word_len hx hk (y:=a2) (by simp)
  have q0:((bs [119,97,121]).toList==[117,110,119,114,97,112])=false:=eq_no (by decide)
  have q1:((bs [119,97,121]).toList==[115,101,101,110])=false:=eq_no (by decide)
  have q2:((bs [119,97,121]).toList==[99,114,99])=false:=eq_no (by decide)
  have q3:((bs [119,97,121]).toList==[111,112,101,110])=false:=eq_no (by decide)
  have q4:((bs [119,97,121]).toList==[112,97,105,114,115])=false:=eq_no (by decide)
  have q5:((bs [119,97,121]).toList==[102,97,105,114])=false:=eq_no (by decide)
  have q6:((bs [119,97,121]).toList==[104,101,97,114])=false:=eq_no (by decide)
  have q7:((bs [119,97,121]).toList==[116,97,107,101])=false:=eq_no (by decide)
  have q8:((bs [119,97,121]).toList==[103,111,110,101])=false:=eq_no (by decide)
  have N1:=hidden (nine_calls a1 (by omega))
  rw [h1,nineE_some] at N1
  have hln:=(rl_len h2 (by omega)).1
  have B2:=hidden (rl_yes h2 (by omega))
  have hb1:=num_bd h1
  have HEG:=hidden (fun (W:World) a cap (hA:Tree.EArg W a (threes L).length (threes L))=>RTree.redges_calls u1 a (threes L).length cap (threes L) W hA)
  have HLE3:Hid ((threes L).length≤3001):=hidden (by
    obtain ⟨q,hq⟩:∃ q,L.length=q*3:=⟨L.length / 3,by omega⟩
    have:=threes_len L q (by omega)
    rw [← hq,List.take_length] at this
    omega)
  have hfit:=TM.ef_zero.1 hf
  obtain ⟨m,rfl⟩:∃ m:Nat,u1=(m:Int):=⟨u1.toNat,by omega⟩
  have hF:TM.Fit m (threes L):=by have:=hfit.2;rwa [Int.toNat_natCast] at this
  have hm1:0<m:=fit_pos hf
  have HDS:=hidden (fun (W:World) a cap (hA:Tree.EArg W a (threes L).length (threes L))=>RTree.rdist_calls a (threes L).length cap (threes L) m 0 W hA hF hm1)
  have hlf:TM.lf (m:Int) (threes L) 0=0:=lf_zero hf hm1
  have hDD:=hD (m:Int) (threes L) hlf
  rw [Int.toNat_natCast] at hDD
  have HUQ:=hidden (fun d (h:TM.IsDist (threes L) m 0 d)=>h.uniq hDD)
  have hm16:m≤16:=hF.hi
  have HDB:=hidden (dist_lo hDD)
  have HDL:=hidden hDD.len
  rw [hf] at HEG
  have hmm:(L.length:Int).tmod 3=0:=by rw [Int.tmod_eq_emod_of_nonneg (by omega)];omega
  have HM3:=hidden hm3
  obtain ⟨i0,hii,hz0,hz1,hz2⟩:=info_parts infoEDD
  obtain ⟨n,hn⟩:∃ n,L.length=n:=⟨_,rfl⟩
  have HN:=hidden hn
  rw [hn] at hln B2 hmm HM3
  clear h hO hx hk h1 h2 hm3 hf hD hn hlf hDD hfit hF
  go_enter Tryz.func7,Tryz.ntmps7
  go_wp2_with fail
  refine C.out.mono ?_
  rintro e w1 ⟨g,cap,rfl,⟨c0,c1,c2⟩,hd⟩
  have HD:=hidden hd
  clear hd
  go_wp2_with fail
  refine (CN.out w1).mono ?_
  rintro e w2 ⟨rfl,hw2⟩
  obtain rfl:w1=w2:=hw2.symm
  clear hw2
  go_wp2_with fail
  refine (N1.out w1).mono ?_
  rintro e w2 ⟨rfl,hw2⟩
  obtain rfl:w1=w2:=hw2.symm
  clear hw2
  go_wp2_with fail
  refine (B2.out w1).mono ?_
  rintro e w2 ⟨a,cap,rfl,⟨hA,_,_⟩,hb⟩
  have HD2:=hidden (HD.out.below hb)
  have HA:=hidden hA
  clear hb hA c0 c1 c2
  have H0:Hid (Below w2.heap.size w2 w2∧w2.ownsRow w2.heap.size 92 3 (.slice none 0 0) (threes (L.take 0)).length (Tree.mc (threes (L.take 0)))):=hidden ⟨Below.refl _ _,World.ownsRow_nil _ _ _ _⟩
  go_wp2_with fail
  go_loopg [50,51] n (fun gg u y wr=>∃ (i:Nat) (v:Value),i*3+gg=n∧v=u∧y=.int .i64 ((i*3:Nat):Int)∧Hid (Below w2.heap.size w2 wr∧wr.ownsRow w2.heap.size 92 3 v (threes (L.take (i*3))).length (Tree.mc (threes (L.take (i*3))))))
  case atStart=>exact ⟨0,_,by omega,rfl,rfl,H0⟩
  case round=>
    obtain ⟨i,v,hig,rfl,rfl,HV⟩:=hrel
    clear H0
    have hbase:=HV.out.1.size
    obtain ⟨j,hj⟩:∃ j,i*3=j:=⟨_,rfl⟩
    rw [hj] at hig HV ⊢
    have HJ:=hidden hj
    by_cases hi:j<n
    · have hj2:j+2<n:=by have:=HM3.out;omega
      have hiz:(j:Int)<(n:Int):=by omega
      obtain ⟨j1,hj1⟩:∃ j1,j+1=j1:=⟨_,rfl⟩
      obtain ⟨j2,hj22⟩:∃ j2,j+2=j2:=⟨_,rfl⟩
      have hiz1:(j1:Int)<(n:Int):=by omega
      have hiz2:(j2:Int)<(n:Int):=by omega
      have hjb:j≤3001:=by omega
      obtain ⟨bb,oo,rfl,hat⟩:=(HA.out.below HV.out.1).at (by omega)
      have c0:=hat j hi
      have c1:=hat j1 (by omega)
      have c2:=hat j2 (by omega)
      have hw1:IntKind.i64.wrap ((j:Int)+1)=(j1:Int):=by rw [IntKind.wrap_i64];omega
      have hw2:IntKind.i64.wrap ((j:Int)+2)=(j2:Int):=by rw [IntKind.wrap_i64];omega
      have hst:=threes_more L i (by have:=HN.out;omega)
      have e3:(i+1)*3=j+3:=by omega
      rw [e3,hj,hj1,hj22] at hst
      have hlt3:(threes (L.take j)).length≤3001:=by
        rw [← hj,threes_len L i (by have:=HN.out;omega)];omega
      have HST:=hidden hst
      generalize TM.dg L j=x0 at *
      generalize TM.dg L j1=x1 at *
      generalize TM.dg L j2=x2 at *
      clear hst hat hj e3 hj1 hj22
      generalize threes (L.take j)=E at *
      obtain ⟨me,hme⟩:∃ me,E.length=me:=⟨_,rfl⟩
      have HME:=hidden hme
      have HOW:Hid (wr.ownsRow w2.heap.size 92 3 v me (Tree.mc E)):=by rw [← hme];exact hidden HV.out.2
      rw [hme] at hlt3
      clear hme
      go_wp2_with fail
      go_region_law (refine step_append_lies _ (by rfl) _ _ _ (by rfl) w2.heap.size 92 i0 _ 3 24 Tryz.underlying90 hii hz0 hz1 hz2 rfl (by omega) _ me (Tree.mc E) (by rfl) ((HOW.out.alloc _).drew) ⟨wr.heap.size,0,none⟩ 1 1 [.int .i64 x0,.int .i64 x1,.int .i64 x2] (by rfl) (by rfl) (World.news_of_block (cs:=#[.int .i64 x0,.int .i64 x1,.int .i64 x2]) (t:=92) (fr:=(0,0)) (heap_alloc_new wr _)) (by simp [Value.oneCell']) (by omega) (by unfold maxLen;omega) (by omega) (by simp;omega) (wr.heap.size+1) (by simp) ?_;intro gg3 cc3 w4 hown hgrow hat2 hlt2)
      all_goals (
        have HVn:Hid (Below w2.heap.size w2 w4∧w4.ownsRow w2.heap.size 92 3 (.slice (some ⟨gg3,0,none⟩) (me+1) cc3) (threes (L.take (j+3))).length (Tree.mc (threes (L.take (j+3))))):=hidden ⟨((HV.out.1.alloc hbase _).drew.grown hgrow (by simp;omega) (fun k hk=>own_loR HOW.out hk)),by
          rw [HST.out,mc_snoc,List.length_append,HME.out]
          exact hown⟩
        clear hown hgrow hbase hat2 hlt2
        go_wp2_with fail
        go_roundg (n - (j+3))
        case measure=>omega
        case rel=>
          have e3:(i+1)*3=j+3:=by have:=HJ.out;omega
          exact ⟨i+1,_,by omega,rfl,by rw [e3];go_num,by rw [e3];exact HVn⟩)
    · have hiz:¬ (j:Int)<(n:Int):=by omega
      have he:L.take j=L:=List.take_of_length_le (by have:=HN.out;omega)
      have hown:=HV.out.2
      rw [he] at hown
      have hEl:=hown.1
      obtain ⟨a4,cap4,rfl,hA4,_⟩:=own_eds hown (by have:=HLE3.out;omega)
      have HDr:=hidden (HD2.out.below HV.out.1)
      have HEG2:=hidden (HEG.out wr a4 cap4 hA4)
      have HA4:=hidden hA4
      clear hown hA4 he HV hEl
      go_wp2_with fail
      refine HEG2.out.mono ?_
      rintro e w4 ⟨rfl,hb4⟩
      have HDs:=hidden (HDr.out.below hb4)
      have HA5:=hidden (HA4.out.below hb4)
      clear hb4
      have HX:=hidden (HDS.out w4 a4 cap4 HA5.out)
      clear HA5 HA4
      go_wp2_with fail
      refine HX.out.mono ?_
      rintro e w5 ⟨gd,cd,d,rfl,hst,hdist,hbd⟩
      have hde:=HUQ.out d hdist
      have ho5:=hst.own
      have hb5:=hst.bel
      rw [hde] at ho5 hbd
      obtain ⟨a6,cap6,e6,hA6,_⟩:=Tree.own_ints ho5 (by omega)
      cases e6
      have HDt:=hidden (HDs.out.below hb5)
      have hall:∀ y∈D (m:Int) (threes L),-9223372036854775807≤y∧y≤9223372036854775807:=fun y hy=>by
        obtain ⟨q,hq,rfl⟩:=List.mem_iff_getElem.1 hy
        have h1:=hbd q
        have h2:=HDB.out q
        have e:TM.dg (D (m:Int) (threes L)) q=(D (m:Int) (threes L))[q]:=by unfold TM.dg;rw [List.getD_eq_getElem?_getD,List.getElem?_eq_getElem hq];rfl
        rw [e] at h1 h2
        omega
      have HRR:=hidden (rrow_calls (some ⟨gd,0,none⟩) m cd (D (m:Int) (threes L)) w5 hA6 (by omega) hall)
      have HLEN:=hidden (join_len 44 ((D (m:Int) (threes L)).map Lib.itoa) (by rw [List.length_map,HDL.out];omega) (fun z hz=>by
        obtain ⟨y,hy,rfl⟩:=List.mem_map.1 hz
        have h3:=hall y hy
        have:=Lib.itoa_length_le y (by omega) (by omega)
        omega))
      clear hst hdist hbd hde ho5 hb5 hA6 hall
      go_wp2_with fail
      refine HRR.out.mono ?_
      rintro e w6 ⟨rfl,hw6⟩
      obtain rfl:w5=w6:=hw6.symm
      go_wp2_with fail
      go_ret
      exact ⟨HLEN.out,rfl,HDt.out⟩
theorem line_way (D:Far) (hD:D.Ok) {w W:World} {b k:Nat} {S:Ss} {x:List UInt8} (h:Dk w W b S k) (hO:S.Ok) (hk5:k≤5000) (hx:x.length≤3000) {a1 a2:List UInt8} (hk:cutL 32 x=[kWay,a1,a2]) :
    Calls Tryz.prog 7 #[.pointer (some ⟨b,0,none⟩),.string (bs x)] W (fun e w'=>(aWay D ⟨[a1,a2],false⟩).tell.length≤1000000∧LineE w b (k+1) (aWay D ⟨[a1,a2],false⟩,S) e w'):=by
  cases h1:numL a1 with
  | none=>
    rw [way_bad D (.inl h1)]
    cases h2:listR a2 with
    | none=>exact (li_way_nn h hO hk5 hx hk h1 h2).mono fun e w' q=>⟨by decide,q⟩
    | some L=>exact (li_way_ns h hO hk5 hx hk h1 h2).mono fun e w' q=>⟨by decide,q⟩
  | some u=>
    cases h2:listR a2 with
    | none=>
      rw [way_bad D (.inr (.inl h2))]
      exact (li_way_sn h hO hk5 hx hk h1 h2).mono fun e w' q=>⟨by decide,q⟩
    | some L=>
      by_cases hm3:L.length%3=0
      · rw [way_ok D h1 h2 hm3]
        by_cases hf:TM.ef u (threes L)=0
        · have hlf:TM.lf u (threes L) 0=0:=by
            have h0:=(TM.ef_zero.1 hf).1
            obtain ⟨m,rfl⟩:∃ m:Nat,u=(m:Int):=⟨u.toNat,by omega⟩
            exact lf_zero hf (fit_pos hf)
          rw [An.of_ok hlf]
          exact li_way_ok D hD h hO hk5 hx hk h1 h2 hm3 hf
        · have hlf:TM.lf u (threes L) 0=TM.ef u (threes L):=by
            unfold TM.lf
            rw [if_pos hf]
          rw [hlf,An.of_err hf]
          exact (li_way_e D hD h hO hk5 hx hk h1 h2 hm3 hf).mono fun e w' q=>⟨tell_len _ (fun t ht=>by cases ht),q⟩
      · rw [way_bad D (.inr (.inr ⟨L,h2,hm3⟩))]
        exact (li_way_m D hD h hO hk5 hx hk h1 h2 hm3).mono fun e w' q=>⟨by decide,q⟩
end Go.Proofs.YtlppdppddiecnaaGreatDoor.Run
