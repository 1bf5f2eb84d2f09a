/-
  What Fair of package rate returns. It changes nothing that was there.
-/
import Derived.Test.YtbadpjgiogghdaaGreatDoorRateBP
namespace Go.Proofs.YtbadpjgiogghdaaGreatDoor.Rate
open Go.ChangeShapes Go.WideShapes Go.ChangeAt Go.RowKit Go.Proofs.YtbadpjgiogghdaaGreatDoor.Mem Go.Proofs.YtbadpjgiogghdaaGreatDoor.RT
set_option linter.unusedVariables false

def shr (A:Int) (L:List Int):List Int:=sh (lv A (srt L)).1 (lv A (srt L)).2 L
theorem shr_lev {A:Int} {L:List Int} (hr:Rts L) (hA:0≤A):Lev A L (lv A (srt L)).1 (lv A (srt L)).2:=lv_sorted (srt_perm L) (srt_sorted L) hr hA
theorem rf_big {A:Int} {L:List Int} {k:Nat} (h:k<L.length):rf A L k=4:=by unfold rf;rw [if_pos h]
theorem rf_all {A:Int} {L:List Int} {k:Nat} (h:¬ k<L.length) (hb:bad A=true):rf A L k=1:=by
  unfold rf
  unfold bad at hb
  simp at hb
  rw [if_neg h,if_pos (by omega)]
theorem rf_any {A:Int} {L:List Int} {k:Nat} (h:¬ k<L.length) (hb:L.any bad=true):rf A L k=1:=by
  unfold rf
  rw [if_neg h,if_pos (.inl hb)]
theorem rf_none {A:Int} {L:List Int} {k:Nat} (h:¬ k<L.length) (ha:bad A=false) (hb:L.any bad=false):rf A L k=0:=by
  unfold rf
  unfold bad at ha
  simp at ha
  rw [if_neg h,if_neg ?_]
  rintro (q | q)
  · have:L.any bad=true:=q
    rw [hb] at this;cases this
  · omega
theorem fair_big (A:Int) (a:Option Addr) (n cap:Nat) (w:World) (h:200<n) (hn:n≤9223372036854775807) :
    Calls Tryz.prog 97 #[.int .i64 A,.slice a n cap] w fun e w'=>e=.returned (.tuple #[.slice none 0 0,.iface 115 (.int .i64 4)])∧w'=w:=by
  have d:decide (200<n)=true:=by simpa using h
  have hz:(200:Int)<(n:Int):=by omega
  go_enter Tryz.func97,Tryz.ntmps97
  go_wp2_with fail
  go_ret2
  exact ⟨rfl,rfl⟩
theorem fair_all (A:Int) (a:Option Addr) (n cap:Nat) (w:World) (h:n≤200) (hb:bad A=true) :
    Calls Tryz.prog 97 #[.int .i64 A,.slice a n cap] w fun e w'=>e=.returned (.tuple #[.slice none 0 0,.iface 115 (.int .i64 1)])∧w'=w:=by
  have hz:¬ (200:Int)<(n:Int):=by omega
  have C1:=rate_bad A w
  rw [hb] at C1
  have HC1:=hidden C1
  clear C1 hb
  go_enter Tryz.func97,Tryz.ntmps97
  go_wp2_with fail
  refine HC1.out.mono ?_
  rintro e w1 ⟨rfl,rfl⟩
  go_wp2_with fail
  go_ret2
  exact ⟨rfl,rfl⟩
theorem fair_any (A:Int) (a:Option Addr) (n cap:Nat) (L:List Int) (w:World) (h:n≤200) (hA:IArg w a n L) (hb:bad A=false) (hc:L.any bad=true) :
    Calls Tryz.prog 97 #[.int .i64 A,.slice a n cap] w fun e w'=>e=.returned (.tuple #[.slice none 0 0,.iface 115 (.int .i64 1)])∧w'=w:=by
  have hz:¬ (200:Int)<(n:Int):=by omega
  have C1:=rate_bad A w
  rw [hb] at C1
  have HC1:=hidden C1
  have C2:=areRates_calls a n cap L w hA
  rw [hc] at C2
  have HC2:=hidden C2
  clear C1 C2 hb hc hA
  go_enter Tryz.func97,Tryz.ntmps97
  go_wp2_with fail
  refine HC1.out.mono ?_
  rintro e w1 ⟨rfl,rfl⟩
  go_wp2_with fail
  refine HC2.out.mono ?_
  rintro e w2 ⟨rfl,rfl⟩
  go_wp2_with fail
  go_ret2
  exact ⟨rfl,rfl⟩
def pz (S:List Int) (n j:Nat):List Int:=S.take j++List.replicate (n - j) 0
theorem pz_len {S:List Int} {n j:Nat} (h:S.length=n) (hj:j≤n):(pz S n j).length=n:=by simp [pz];omega
theorem pz_zero (S:List Int) (n:Nat):pz S n 0=List.replicate n 0:=by simp [pz]
theorem pz_all {S:List Int} {n:Nat} (h:S.length=n):pz S n n=S:=by simp [pz,← h]
theorem pz_set {S:List Int} {n j:Nat} (h:S.length=n) (hj:j<n):(pz S n j).set j (S.getD j 0)=pz S n (j+1):=by
  unfold pz
  have e:n - j=n - (j+1)+1:=by omega
  rw [take_next S (by omega),List.set_append_right _ _ (by simp;omega),e,List.replicate_succ]
  simp [Nat.min_eq_left (show j≤S.length by omega)]
theorem own_set {w:World} {base g n cap:Nat} {L:List Int} (h:w.ownsRow base 3 1 (.slice (some ⟨g,0,none⟩) n cap) n (ic L)) (j:Nat) (x:Int):(w.setCell ⟨g,j,none⟩ (.int .i64 x)).ownsRow base 3 1 (.slice (some ⟨g,0,none⟩) n cap) n (ic (L.set j x)):=by
  have:=(h.stored j (.int .i64 x)).1
  rwa [show (ic L).set j (.int .i64 x)=ic (L.set j x) by simp [ic]] at this
theorem own_get {w:World} {base g n cap:Nat} {L:List Int} (h:w.ownsRow base 3 1 (.slice (some ⟨g,0,none⟩) n cap) n (ic L)) {j:Nat} (hj:j<n):w.cell? ⟨g,j,none⟩=some (.int .i64 (L.getD j 0)):=by
  have hl:L.length=n:=by have:=h.1;rw [ic_len] at this;omega
  rw [h.cellAt j (by omega),ic_get L j (by omega)]
theorem made_z (n:Nat):madeCells #[Value.int .i64 0] n=(ic (List.replicate n 0)).toArray:=by
  apply Array.toList_inj.1
  rw [toList_madeCells_one]
  simp [ic]
structure FSt (w wr:World) (g n:Nat) (S:List Int) (j:Nat):Prop where
  own:wr.ownsRow w.heap.size 3 1 (.slice (some ⟨g,0,none⟩) n n) n (ic (pz S n j))
  bel:Below w.heap.size w wr
  hg:w.heap.size≤g
theorem FSt.next {w wr:World} {g n j:Nat} {S:List Int} (h:FSt w wr g n S j) (hS:S.length=n) (hj:j<n) {x:Int} (hx:S.getD j 0=x):FSt w (wr.setCell ⟨g,j,none⟩ (.int .i64 x)) g n S (j+1):=by
  refine ⟨?_,h.bel.setCell (p:=⟨g,j,none⟩) h.hg _,h.hg⟩
  rw [← pz_set hS hj,hx]
  exact own_set h.own j x
theorem FSt.next2 {w wr:World} {g n j:Nat} {S:List Int} (h:FSt w wr g n S j) (hS:S.length=n) (hj:j<n) {x y:Int} (hx:S.getD j 0=x):FSt w ((wr.setCell ⟨g,j,none⟩ (.int .i64 y)).setCell ⟨g,j,none⟩ (.int .i64 x)) g n S (j+1):=by
  refine ⟨?_,(h.bel.setCell (p:=⟨g,j,none⟩) h.hg _).setCell (p:=⟨g,j,none⟩) h.hg _,h.hg⟩
  have e:((pz S n j).set j y).set j x=pz S n (j+1):=by rw [List.set_set,← pz_set hS hj,hx]
  rw [← e]
  exact own_set (own_set h.own j y) j x
set_option maxHeartbeats 4000000 in
set_option maxRecDepth 100000 in
theorem fair_ok (A:Int) (a:Option Addr) (n cap:Nat) (L:List Int) (w:World) (h:n≤200) (hA:IArg w a n L) (hb:bad A=false) (hc:L.any bad=false) :
    Calls Tryz.prog 97 #[.int .i64 A,.slice a n cap] w fun e w'=>∃ v,e=.returned (.tuple #[v,.nilIface])∧w'.ownsRow w.heap.size 3 1 v n (ic (shr A L))∧Below w.heap.size w w':=by
  have hz:¬ (200:Int)<(n:Int):=by omega
  have hl:=hA.2.1
  obtain ⟨_,hr,a0,a1⟩:=rf_zero (rf_none (k:=200) (A:=A) (L:=L) (by omega) hb hc)
  have hv:=shr_lev hr a0
  have hs:=lv_small (srt L) A
  rw [srt_len,hl] at hs
  have C1:=rate_bad A w
  rw [hb] at C1
  have HC1:=hidden C1
  have C2:=areRates_calls a n cap L w hA
  rw [hc] at C2
  have HC2:=hidden C2
  obtain ⟨m,hm⟩:∃ m,(lv A (srt L)).1=m:=⟨_,rfl⟩
  obtain ⟨lf,hlf⟩:∃ lf,(lv A (srt L)).2=lf:=⟨_,rfl⟩
  have HC3:=hidden (level_calls A a n cap L w m lf hA hr h a0 a1 (by rw [← hm,← hlf]))
  have m0:=hv.m0
  have m1:=hv.m1
  have hS:shr A L=sh m lf L:=by unfold shr;rw [hm,hlf]
  rw [hS]
  rw [hlf] at hs
  rw [hm] at m0 m1
  obtain ⟨l0,l1⟩:=hs
  have hsl:(sh m lf L).length=n:=by rw [sh_len,hl]
  have HK0:Hid (sh m lf (L.drop 0)=(sh m lf L).drop 0):=by unfold Hid;rw [List.drop_zero,List.drop_zero]
  have HA:=hidden hA
  have HR:Hid (∀ j,j<n→0≤L.getD j 0∧L.getD j 0≤1000000):=fun j hj=>by
    refine hr _ ?_
    rw [List.getD_eq_getElem?_getD,List.getElem?_eq_getElem (by omega)]
    exact List.getElem_mem _
  generalize sh m lf L=S at *
  clear C1 C2 hb hc hA hv hm hlf hS hr a0 a1
  obtain ⟨i0,hii,hz0,hz1,hz2⟩:=info_parts info3
  have hmk:∀ W:World,(Instr.makeSlice 29 (.int .i64 (n:Int)) (.int .i64 (n:Int))).run Tryz.prog W=.ok (.slice (some ⟨W.heap.size,0,none⟩) n n) (W.alloc (.cells (madeCells #[.int .i64 0] n) 3)):=fun W=>by
    have:=run_make (P:=Tryz.prog) W 29 3 i0 _ Tryz.underlying29 hii hz0 .i64 .i64 (n:Int) (n:Int) (by omega) (by omega) (by rw [hz2];omega) (by omega)
    rw [Int.toNat_natCast,hz1,Nat.mul_one] at this
    exact this
  clear hii hz0 hz1 hz2 i0
  go_enter Tryz.func97,Tryz.ntmps97
  go_wp2_with fail
  refine HC1.out.mono ?_
  rintro e w' ⟨rfl,hw⟩
  obtain rfl:=hw.symm
  go_wp2_with fail
  refine HC2.out.mono ?_
  rintro e w' ⟨rfl,hw⟩
  obtain rfl:=hw.symm
  go_wp2_with fail
  refine HC3.out.mono ?_
  rintro e w1 ⟨rfl,hB1⟩
  have hm1:=hmk w1
  obtain ⟨w2,hw2⟩:∃ w2,w1.alloc (.cells (madeCells #[.int .i64 0] n) 3)=w2:=⟨_,rfl⟩
  rw [hw2] at hm1
  have HF:Hid (FSt w w2 w1.heap.size n S 0):=by
    rw [← hw2,made_z]
    refine ⟨?_,hB1.alloc hB1.size _,hB1.size⟩
    rw [pz_zero]
    exact ⟨by rw [ic_len];simp,.inr ⟨w1.heap.size,n,_,rfl,hB1.size,heap_alloc_new w1 _,Nat.le_refl _,by unfold maxLen;omega,by simp [ic_len],by show (ic _).take _=_;rw [List.take_of_length_le (by rw [ic_len];simp)]⟩⟩
  clear hw2 hB1 HC1 HC2 HC3 hmk
  generalize w1.heap.size=G at *
  go_wp2_with fail
  go_loopg [7,35] n (fun g u x wr=>∃ (j:Nat) (q:Int),j+g=n∧u=.int .i64 q∧x=.int .i64 (j:Int)∧0≤q∧q≤1000∧Hid (sh m q (L.drop j)=S.drop j)∧Hid (FSt w wr G n S j))
  case atStart=>exact ⟨0,lf,by omega,rfl,rfl,l0,by omega,HK0,HF⟩
  case round=>
    clear HK0 HF hm1
    obtain ⟨j,q,hjg,rfl,rfl,q0,q1,HK,HF⟩:=hrel
    by_cases hj:j<n
    · have hjz:(j:Int)<(n:Int):=by omega
      obtain ⟨b,o,rfl,hcs⟩:=(HA.out.below HF.out.bel).at (by omega)
      have c0:=hcs j hj
      have hk:=HK.out
      have hx:=HR.out j hj
      have cj:=own_get HF.out.own hj
      have fj:=HF.out.own.frozenAt j
      rw [drop_int (show j<L.length by omega),drop_int (show j<S.length by omega)] at hk
      obtain ⟨x,hxx⟩:∃ x,L.getD j 0=x:=⟨_,rfl⟩
      rw [hxx] at c0 hk hx
      clear hxx hcs HK
      simp only [sh] at hk
      by_cases p:m<x
      · have d:decide (m<x)=true:=by simpa using p
        rw [if_pos p] at hk
        by_cases p1:0<q
        · have d1:decide (0<q)=true:=by simpa using p1
          rw [if_pos p1,List.cons.injEq] at hk
          have HK:=hidden hk.2
          have HN:=hidden (HF.out.next2 (y:=min x m) hsl hj (show S.getD j 0=min x m+1 by omega))
          clear hk
          go_wp2_with fail
          go_roundg (n - (j+1))
          case measure=>omega
          case rel=>exact ⟨j+1,q - 1,by omega,rfl,by go_num,by omega,by omega,HK,HN⟩
        · have d1:decide (0<q)=false:=by simpa using p1
          rw [if_neg p1,List.cons.injEq] at hk
          have HK:=hidden hk.2
          have HN:=hidden (HF.out.next hsl hj (show S.getD j 0=min x m by omega))
          clear hk
          go_wp2_with fail
          go_roundg (n - (j+1))
          case measure=>omega
          case rel=>exact ⟨j+1,q,by omega,rfl,by go_num,by omega,by omega,HK,HN⟩
      · have d:decide (m<x)=false:=by simpa using p
        rw [if_neg p,List.cons.injEq] at hk
        have HK:=hidden hk.2
        have HN:=hidden (HF.out.next hsl hj (show S.getD j 0=min x m by omega))
        clear hk
        go_wp2_with fail
        go_roundg (n - (j+1))
        case measure=>omega
        case rel=>exact ⟨j+1,q,by omega,rfl,by go_num,by omega,by omega,HK,HN⟩
    · have hjz:¬ (j:Int)<(n:Int):=by omega
      obtain rfl:j=n:=by omega
      have HO:=HF.out.own
      rw [pz_all hsl] at HO
      have HO:=hidden HO
      have HB:=hidden HF.out.bel
      clear HF HK
      go_wp2_with fail
      go_ret2
      exact ⟨_,rfl,HO.out,HB.out⟩
def FPost (w:World) (A:Int) (n:Nat) (L:List Int) (e:Ending) (w':World):Prop:=
  (rf A L 200=0∧∃ v,e=.returned (.tuple #[v,.nilIface])∧w'.ownsRow w.heap.size 3 1 v n (ic (shr A L))∧Below w.heap.size w w') ∨
  (rf A L 200≠0∧e=.returned (.tuple #[.slice none 0 0,errv (rf A L 200)])∧w'=w)
theorem fair_calls (A:Int) (a:Option Addr) (n cap:Nat) (L:List Int) (w:World) (hA:IArg w a n L) :
    Calls Tryz.prog 97 #[.int .i64 A,.slice a n cap] w (FPost w A n L):=by
  have hl:=hA.2.1
  by_cases h:200<n
  · have e:rf A L 200=4:=rf_big (by omega)
    refine (fair_big A a n cap w h hA.2.2).mono ?_
    rintro e' w' ⟨rfl,rfl⟩
    exact .inr ⟨by omega,by rw [e];rfl,rfl⟩
  by_cases hb:bad A=true
  · have e:rf A L 200=1:=rf_all (by omega) hb
    refine (fair_all A a n cap w (by omega) hb).mono ?_
    rintro e' w' ⟨rfl,rfl⟩
    exact .inr ⟨by omega,by rw [e];rfl,rfl⟩
  have hb':bad A=false:=by simpa using hb
  by_cases hc:L.any bad=true
  · have e:rf A L 200=1:=rf_any (by omega) hc
    refine (fair_any A a n cap L w (by omega) hA hb' hc).mono ?_
    rintro e' w' ⟨rfl,rfl⟩
    exact .inr ⟨by omega,by rw [e];rfl,rfl⟩
  have hc':L.any bad=false:=by simpa using hc
  refine (fair_ok A a n cap L w (by omega) hA hb' hc').mono ?_
  intro e' w' q
  exact .inl ⟨rf_none (by omega) hb' hc',q⟩
end Go.Proofs.YtbadpjgiogghdaaGreatDoor.Rate

