/-
  RunLi, RunLk in one text.
-/
import Derived.Test.YtlppdppddiecnaaGreatDoorRunDkP
import Derived.Test.YtlppdppddiecnaaGreatDoorRunReP
import Derived.Test.YtlppdppddiecnaaGreatDoorDigAll
import Derived.Test.YtlppdppddiecnaaGreatDoorRefWin
import Derived.Test.YtlppdppddiecnaaGreatDoorRefAll
import Derived.Test.YtlppdppddiecnaaGreatDoorRefPairs
import Derived.Test.YtlppdppddiecnaaGreatDoorRefTree
namespace Go.Proofs.YtlppdppddiecnaaGreatDoor.Run
open Go.ChangeShapes Go.WideShapes Go.ChangeAt Go.RowKit Go.Proofs.YtlppdppddiecnaaGreatDoor.Mem Go.Proofs.YtlppdppddiecnaaGreatDoor.RN Go.Proofs.YtlppdppddiecnaaGreatDoor.RC
set_option linter.unusedVariables false
def LineE (w:World) (b k:Nat) (r:An×Ss) (e:Ending) (w':World):Prop:=e=.returned (.string (bs r.1.tell))∧Dk w w' b r.2 k
section
variable {w W w1:World} {b k:Nat} {S:Ss} {x:List UInt8}
theorem words_at {T:List (List UInt8)} {v:Value} (h:JSt W w1 T v) (hT:T≠[]):∃ g cap,v=.slice (some ⟨g,0,none⟩) T.length cap∧∀ i,i<T.length→w1.cell? ⟨g,i,none⟩=some (.string (bs (T.getD i []))):=by
  have ho:=h.own
  rcases ho.2 with ⟨_,h0⟩ | ⟨g,cap,cur,e,_⟩
  · exact absurd (List.eq_nil_of_length_eq_zero h0) hT
  · subst e
    refine ⟨g,cap,rfl,fun i hi=>?_⟩
    rw [ho.cellAt i (by omega)]
    unfold sc
    rw [List.getElem?_map,List.getElem?_eq_getElem hi,List.getD_eq_getElem?_getD,List.getElem?_eq_getElem hi]
    rfl
theorem cut_line (h:Dk w W b S k) (hx:x.length≤3000) {T:List (List UInt8)} (hk:cutL 32 x=T) :
    Calls Tryz.prog 5 #[.string (bs x),.int .u8 32] W fun e w'=>∃ g cap,e=.returned (.slice (some ⟨g,0,none⟩) T.length cap)∧(∀ i,i<T.length→w'.cell? ⟨g,i,none⟩=some (.string (bs (T.getD i []))))∧Dk w w' b S k:=by
  subst hk
  refine (cut_calls 32 x (by omega) W).mono ?_
  rintro e w' ⟨v,rfl,hJ⟩
  obtain ⟨g,cap,rfl,hat⟩:=words_at hJ (cutL_ne 32 x)
  exact ⟨g,cap,rfl,hat,h.below hJ.bel⟩
theorem word_len (hx:x.length≤3000) {T:List (List UInt8)} (hk:cutL 32 x=T) {y:List UInt8} (hy:y∈T):y.length≤3000:=by
  subst hk
  have:=(cut_mem 32 x).2 y hy
  omega
theorem cut2 (h:Dk w W b S k) (hx:x.length≤3000) {y a1:List UInt8} (hk:cutL 32 x=[y,a1]) :
    Calls Tryz.prog 5 #[.string (bs x),.int .u8 32] W fun e w'=>∃ g cap,e=.returned (.slice (some ⟨g,0,none⟩) 2 cap)∧(w'.cell? ⟨g,0,none⟩=some (.string (bs y))∧w'.cell? ⟨g,1,none⟩=some (.string (bs a1)))∧Dk w w' b S k:=by
  refine (cut_line h hx hk).mono ?_
  rintro e w' ⟨g,cap,rfl,hat,hd⟩
  exact ⟨g,cap,rfl,⟨hat 0 (by simp),hat 1 (by simp)⟩,hd⟩
theorem cut3 (h:Dk w W b S k) (hx:x.length≤3000) {y a1 a2:List UInt8} (hk:cutL 32 x=[y,a1,a2]) :
    Calls Tryz.prog 5 #[.string (bs x),.int .u8 32] W fun e w'=>∃ g cap,e=.returned (.slice (some ⟨g,0,none⟩) 3 cap)∧(w'.cell? ⟨g,0,none⟩=some (.string (bs y))∧w'.cell? ⟨g,1,none⟩=some (.string (bs a1))∧w'.cell? ⟨g,2,none⟩=some (.string (bs a2)))∧Dk w w' b S k:=by
  refine (cut_line h hx hk).mono ?_
  rintro e w' ⟨g,cap,rfl,hat,hd⟩
  exact ⟨g,cap,rfl,⟨hat 0 (by simp),hat 1 (by simp),hat 2 (by simp)⟩,hd⟩
theorem cut4 (h:Dk w W b S k) (hx:x.length≤3000) {y a1 a2 a3:List UInt8} (hk:cutL 32 x=[y,a1,a2,a3]) :
    Calls Tryz.prog 5 #[.string (bs x),.int .u8 32] W fun e w'=>∃ g cap,e=.returned (.slice (some ⟨g,0,none⟩) 4 cap)∧(w'.cell? ⟨g,0,none⟩=some (.string (bs y))∧w'.cell? ⟨g,1,none⟩=some (.string (bs a1))∧w'.cell? ⟨g,2,none⟩=some (.string (bs a2))∧w'.cell? ⟨g,3,none⟩=some (.string (bs a3)))∧Dk w w' b S k:=by
  refine (cut_line h hx hk).mono ?_
  rintro e w' ⟨g,cap,rfl,hat,hd⟩
  exact ⟨g,cap,rfl,⟨hat 0 (by simp),hat 1 (by simp),hat 2 (by simp),hat 3 (by simp)⟩,hd⟩
theorem num_bd {y:List UInt8} {v:Int} (h:numL y=some v):-999999999≤v∧v≤999999999:=⟨(numL_some h).1,(numL_some h).2.1⟩
set_option maxRecDepth 100000 in
set_option maxHeartbeats 1000000 in
theorem li_len (h:Dk w W b S k) (hx:x.length≤3000) {y:List UInt8} {r:List (List UInt8)} (hk:cutL 32 x=y::r) (hn:needsL y≠((r.length+1:Nat):Int)) :
    Calls Tryz.prog 7 #[.pointer (some ⟨b,0,none⟩),.string (bs x)] W (LineE w b k (.bad,S)):=by
  have C:=hidden (cut_line h hx hk)
  have CN:=hidden (fun W=>needs_calls y W)
  have hml:r.length≤3001:=by
    have:=(cut_mem 32 x).1
    rw [hk,List.length_cons] at this
    omega
  obtain ⟨m,hm⟩:∃ m,r.length+1=m:=⟨_,rfl⟩
  have hm2:(y::r).length=m:=by rw [List.length_cons,hm]
  rw [hm] at hn
  rw [hm2] at C
  have hmm:m≤3002:=by omega
  have hm0:0<m:=by omega
  obtain ⟨z,hz⟩:∃ z,needsL y=z:=⟨_,rfl⟩
  rw [hz] at CN hn
  have d0:(z==(m:Int))=false:=by simpa using hn
  have d1:decide (z=(m:Int))=false:=decide_eq_false hn
  have hzz:¬ z=(m:Int):=hn
  clear hn hz hm hm2 hk hml h
  go_enter Tryz.func7,Tryz.ntmps7
  go_wp2_with fail
  refine C.out.mono ?_
  rintro e w1 ⟨g,cap,rfl,hat,hd⟩
  have c0:w1.cell? ⟨g,0,none⟩=some (.string (bs y)):=hat 0 hm0
  have HD:=hidden hd
  clear hat hd
  go_wp2_with fail
  refine (CN.out w1).mono ?_
  rintro e w2 ⟨rfl,hw2⟩
  obtain rfl:w1=w2:=hw2.symm
  go_wp2_with fail
  go_ret
  exact ⟨rfl,HD.out⟩
end
theorem bytesR_un {y:List UInt8} {L:List Nat} (h:bytesR y=some L):unhex y=some L:=by
  unfold bytesR at h
  split at h
  · cases h
  · exact h
theorem rb_no {y:List UInt8} (h:bytesR y=none) (hl:y.length≤3000) (w:World):Calls Tryz.prog 25 #[.string (bs y)] w fun e w'=>e=.returned (.tuple #[.slice none 0 0,.bool false])∧Below w.heap.size w w':=by
  refine (rbytes_calls y hl w).mono ?_
  rintro e w' ⟨hb,hm⟩
  rw [h] at hm
  exact ⟨hm,hb⟩
theorem rb_yes {y:List UInt8} {L:List Nat} (h:bytesR y=some L) (hl:y.length≤3000) (w:World):Calls Tryz.prog 25 #[.string (bs y)] w fun e w'=>∃ a cap,e=.returned (.tuple #[.slice a L.length cap,.bool true])∧Arg w' a L.length L∧L.length≤cap∧Below w.heap.size w w':=by
  refine (rbytes_calls y hl w).mono ?_
  rintro e w' ⟨hb,hm⟩
  rw [h] at hm
  obtain ⟨v,rfl,ho⟩:=hm
  have h1:=unhex_len _ y (Nat.le_refl _) L (bytesR_un h)
  obtain ⟨a,cap,rfl,hA,_,hcap,_⟩:=own_slice ho (unhex_lt _ y (Nat.le_refl _) L (bytesR_un h)) (by omega)
  exact ⟨a,cap,rfl,hA,hcap,hb⟩
theorem rb_len {y:List UInt8} {L:List Nat} (h:bytesR y=some L) (hl:y.length≤3000):L.length≤3000∧∀ c∈L,c<256:=by
  have h1:=unhex_len _ y (Nat.le_refl _) L (bytesR_un h)
  exact ⟨by omega,unhex_lt _ y (Nat.le_refl _) L (bytesR_un h)⟩
theorem numsR_bd:∀ (T:List (List UInt8)) {L:List Int},numsR T=some L→∀ v∈L,-999999999≤v∧v≤999999999
  | [],L,h=>by simp [numsR] at h;subst h;simp
  | x::r,L,h=>by
    unfold numsR at h
    cases hx:numL x with
    | none=>rw [hx] at h;cases h
    | some v=>
      rw [hx] at h
      cases hr:numsR r with
      | none=>rw [hr] at h;cases h
      | some K=>
        rw [hr] at h
        simp only [Option.map_some,Option.some.injEq] at h
        subst h
        intro z hz
        rcases List.mem_cons.1 hz with rfl | hz
        · exact num_bd hx
        · exact numsR_bd r hr z hz
theorem rl_len {y:List UInt8} {L:List Int} (h:listR y=some L) (hl:y.length≤3000):L.length≤3001∧∀ v∈L,-999999999≤v∧v≤999999999:=by
  unfold listR at h
  split at h
  · cases h
    simp
  · have h1:=numsR_len _ h
    have h2:=(cut_mem 44 y).1
    exact ⟨by omega,numsR_bd _ h⟩
theorem rl_no {y:List UInt8} (h:listR y=none) (hl:y.length≤3000) (w:World):Calls Tryz.prog 29 #[.string (bs y)] w fun e w'=>e=.returned (.tuple #[.slice none 0 0,.bool false])∧Below w.heap.size w w':=by
  refine (rlist_calls y hl w).mono ?_
  rintro e w' ⟨hb,hm⟩
  rw [h] at hm
  exact ⟨hm,hb⟩
theorem rl_yes {y:List UInt8} {L:List Int} (h:listR y=some L) (hl:y.length≤3000) (w:World):Calls Tryz.prog 29 #[.string (bs y)] w fun e w'=>∃ a cap,e=.returned (.tuple #[.slice a L.length cap,.bool true])∧(Tree.IArg w' a L.length L∧Back.IArg w' a L.length L∧Rate.IArg w' a L.length L)∧Below w.heap.size w w':=by
  refine (rlist_calls y hl w).mono ?_
  rintro e w' ⟨hb,hm⟩
  rw [h] at hm
  obtain ⟨v,rfl,ho⟩:=hm
  have h1:=(rl_len h hl).1
  obtain ⟨a,cap,rfl,hA,_⟩:=Tree.own_ints ho (by omega)
  obtain ⟨a2,cap2,e2,hA2,_⟩:=Back.own_ints ho (by omega)
  obtain ⟨a3,cap3,e3,hA3,_⟩:=Rate.own_ints ho (by omega)
  cases e2
  cases e3
  exact ⟨a,cap,rfl,⟨hA,hA2,hA3⟩,hb⟩
theorem ropen_calls (a:Option Addr) (n cap:Nat) (L:List Nat) (w:World) (h:Arg w a n L) (hc:n≤cap) (hn:n≤100000) :
    Calls Tryz.prog 27 #[.slice a n cap] w fun e w'=>∃ a' m c',e=.returned (.tuple #[.slice a' m c',.int .i64 (oF L:Nat)])∧(oF L=0→Arg w' a' m (L.take (L.length - 4))∧m≤100000)∧Below w.heap.size w w':=by
  have hl:=h.2.1
  by_cases h4:n<4
  · have e:oF L=8:=by unfold oF;rw [if_pos (by omega)]
    rw [e]
    refine (RCrc.ropen_short a n cap w h4).mono ?_
    rintro e w' ⟨rfl,rfl⟩
    exact ⟨_,_,_,rfl,fun h=>by simp at h,Below.refl _ _⟩
  · obtain ⟨m,rfl⟩:∃ m,n=m+4:=⟨n - 4,by omega⟩
    obtain ⟨b,o,rfl,_⟩:=h.1.2 0 (by omega)
    obtain ⟨B,t0,t1,t2,t3,rfl,hB⟩:∃ B t0 t1 t2 t3,L=B++[t0,t1,t2,t3]∧B.length=m:=by
      have hd:(L.drop m).length=4:=by simp;omega
      match hq:L.drop m,hd with
      | [x,y,z,u],_=>exact ⟨L.take m,x,y,z,u,by rw [← hq,List.take_append_drop],by simp;omega⟩
    have hx:(B++[t0,t1,t2,t3]).length - 4=m:=by simp;omega
    have hof:oF (B++[t0,t1,t2,t3])=if CM.num 0 [t0,t1,t2,t3]=CM.go 0 B then 0 else 9:=by
      unfold oF
      rw [if_neg (by omega),hx,List.drop_left' hB,List.take_left' hB]
    have htk:(B++[t0,t1,t2,t3]).take ((B++[t0,t1,t2,t3]).length - 4)=B:=by rw [hx,List.take_left' hB]
    rw [htk]
    by_cases he:CM.num 0 [t0,t1,t2,t3]=CM.go 0 B
    · rw [hof,if_pos he]
      refine (RCrc.ropen_good b o cap m B t0 t1 t2 t3 w hB h hc he).mono ?_
      rintro e w' ⟨rfl,q,rfl⟩
      have hb:=below_drewN (Below.refl w.heap.size w) q
      have hA:Arg w (some ⟨b,o,none⟩) m B:=by
        refine ⟨⟨fun c hc=>h.1.1 c (List.mem_append_left _ hc),fun j hj=>?_⟩,hB,by omega⟩
        obtain ⟨b',o',e',hc'⟩:=h.1.2 j (by simp;omega)
        refine ⟨b',o',e',?_⟩
        rw [hc',List.getD_eq_getElem?_getD,List.getD_eq_getElem?_getD,List.getElem?_append_left hj]
      exact ⟨_,_,_,rfl,fun _=>⟨hA.below hb,by omega⟩,hb⟩
    · rw [hof,if_neg he]
      refine (RCrc.ropen_bad b o cap m B t0 t1 t2 t3 w hB h hc he).mono ?_
      rintro e w' ⟨rfl,q,rfl⟩
      exact ⟨_,_,_,rfl,fun h=>by simp at h,below_drewN (Below.refl w.heap.size w) q⟩
set_option maxRecDepth 100000 in
theorem rpairs_long (a:Option Addr) (n cap:Nat) (w:World) (hn:200<n):Calls Tryz.prog 30 #[.slice a n cap] w fun e w'=>e=.returned (.tuple #[.slice none 0 0,.int .i64 4])∧w'=w:=by
  have d:decide (200<(n:Int))=true:=by simp;omega
  have d2:(200:Int)<(n:Int):=by omega
  go_enter Tryz.func30,Tryz.ntmps30
  go_wp2_with fail
  go_ret2
  exact ⟨rfl,rfl⟩
theorem rpairs_all (a:Option Addr) (n cap:Nat) (L:List Int) (w:World) (h:Back.IArg w a n L):Calls Tryz.prog 30 #[.slice a n cap] w fun e w'=>∃ a' m c',e=.returned (.tuple #[.slice a' m c',.int .i64 (Back.pfault L:Int)])∧Back.PArg w' a' m (Back.pr (Back.prsOf L))∧Below w.heap.size w w':=by
  by_cases hn:200<n
  · have hl:=h.2.1
    have e1:Back.pfault L=4:=by unfold Back.pfault;rw [if_pos (by omega)]
    have e2:Back.prsOf L=[]:=by unfold Back.prsOf;rw [e1];rfl
    rw [e1,e2]
    refine (rpairs_long a n cap w hn).mono ?_
    rintro e w' ⟨rfl,rfl⟩
    exact ⟨none,0,0,rfl,⟨fun j hj=>absurd hj (by simp [Back.pr]),rfl,by omega⟩,Below.refl _ _⟩
  · refine (Back.rpairs_good a n cap L w h (by omega)).mono ?_
    rintro e w' ⟨a',m,c',rfl,h1,_,h2⟩
    exact ⟨a',m,c',rfl,h1,h2⟩
end Go.Proofs.YtlppdppddiecnaaGreatDoor.Run
