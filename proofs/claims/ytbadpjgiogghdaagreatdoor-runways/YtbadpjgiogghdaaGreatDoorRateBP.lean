/-
  What isRate, areRates and level of package rate return (and the library's ContainsFunc at rates). They change nothing that was there.
-/
import Derived.Test.YtbadpjgiogghdaaGreatDoorRateM
import Derived.Test.YtbadpjgiogghdaaGreatDoorRateVP
namespace Go.Proofs.YtbadpjgiogghdaaGreatDoor.Rate
open Go.ChangeShapes Go.WideShapes Go.ChangeAt Go.RowKit Go.Proofs.YtbadpjgiogghdaaGreatDoor.Mem Go.Proofs.YtbadpjgiogghdaaGreatDoor.RT
set_option linter.unusedVariables false

theorem isRate_calls (x:Int) (w:World):Calls Tryz.prog 124 #[.int .i64 x] w fun e w'=>e=.returned (.bool (decide (0≤x)&&decide (x≤1000000)))∧w'=w:=by
  by_cases h:0≤x
  · have d:decide (0≤x)=true:=by simpa using h
    go_enter Tryz.func124,Tryz.ntmps124
    go_wp2_with fail
    go_ret
    exact ⟨by simp [h],rfl⟩
  · have d:decide (0≤x)=false:=by simpa using h
    go_enter Tryz.func124,Tryz.ntmps124
    go_wp2_with fail
    go_ret
    exact ⟨by simp,rfl⟩
def bad (x:Int):Bool:=decide (x<0)||decide (1000000<x)
theorem bad_is (x:Int):(decide (0≤x)&&decide (x≤1000000))=!bad x:=by
  unfold bad
  by_cases h:0≤x<;>by_cases k:x≤1000000
  · rw [decide_eq_true h,decide_eq_true k,decide_eq_false (show ¬ x<0 by omega),decide_eq_false (show ¬ 1000000<x by omega)];rfl
  · rw [decide_eq_true h,decide_eq_false k,decide_eq_false (show ¬ x<0 by omega),decide_eq_true (show 1000000<x by omega)];rfl
  · rw [decide_eq_false h,decide_eq_true (show x<0 by omega)];simp
  · rw [decide_eq_false h,decide_eq_true (show x<0 by omega)];simp
theorem rate_bad (x:Int) (w:World):Calls Tryz.prog 124 #[.int .i64 x] w fun e w'=>e=.returned (.bool (!bad x))∧w'=w:=by
  rw [← bad_is];exact isRate_calls x w
theorem cl_calls (x:Int) (w:World):Calls Tryz.prog 147 #[.int .i64 x] w fun e w'=>e=.returned (.bool (bad x))∧w'=w:=by
  have C:=hidden (rate_bad x w)
  generalize bad x=q at *
  go_enter Tryz.func147,Tryz.ntmps147
  go_wp2_with fail
  refine C.out.mono ?_
  rintro e w1 ⟨rfl,rfl⟩
  go_wp2_with fail
  go_ret
  exact ⟨by simp,rfl⟩
theorem drop_int {L:List Int} {j:Nat} (h:j<L.length):L.drop j=L.getD j 0::L.drop (j+1):=by
  rw [List.drop_eq_getElem_cons h]
  simp [List.getD_eq_getElem?_getD,List.getElem?_eq_getElem h]
set_option maxHeartbeats 2000000 in
set_option maxRecDepth 100000 in
theorem idx_calls (a:Option Addr) (n cap:Nat) (L:List Int) (w:World) (h:IArg w a n L) :
    Calls Tryz.prog 143 #[.slice a n cap,.func (.func 147) #[] #[]] w fun r w'=>∃ i:Int,r=.returned (.int .i64 i)∧decide (0≤i)=L.any bad∧w'=w:=by
  have hl:=h.2.1
  have hn:=h.2.2
  have HA:=hidden h
  clear h
  obtain ⟨q,hq⟩:∃ q,L.any bad=q:=⟨_,rfl⟩
  have HQ:Hid ((L.drop 0).any bad=q):=by unfold Hid;rw [List.drop_zero];exact hq
  rw [hq]
  clear hq
  go_enter Tryz.func143,Tryz.ntmps143
  go_wp2_with fail
  go_loopg [8] n (fun g x wr=>∃ j:Nat,j+g=n∧x=.int .i64 (j:Int)∧Hid ((L.drop j).any bad=q)∧w=wr)
  case atStart=>exact ⟨0,by omega,rfl,HQ,rfl⟩
  case round=>
    obtain ⟨j,hjg,rfl,HK,rfl⟩:=hrel
    by_cases hj:j<n
    · have hjz:(j:Int)<(n:Int):=by omega
      obtain ⟨b,o,rfl,hcs⟩:=HA.out.at (by omega)
      have c0:=hcs j hj
      have hk:=HK.out
      rw [drop_int (by omega),List.any_cons] at hk
      have C:=hidden (cl_calls (L.getD j 0) w)
      obtain ⟨m,hm⟩:∃ m,L.getD j 0=m:=⟨_,rfl⟩
      rw [hm] at c0 C hk
      clear hm hcs HK
      cases ht:bad m with
      | true=>
        rw [ht] at C hk
        simp only [Bool.true_or] at hk
        have HK:=hidden hk
        clear hk ht
        go_wp2_with fail
        refine C.out.mono ?_
        rintro r w1 ⟨rfl,rfl⟩
        go_wp2_with fail
        go_ret
        exact ⟨(j:Int),rfl,by rw [← HK.out];simp,rfl⟩
      | false=>
        rw [ht] at C hk
        simp only [Bool.false_or] at hk
        have HK:=hidden hk
        clear hk ht
        go_wp2_with fail
        refine C.out.mono ?_
        rintro r w1 ⟨rfl,rfl⟩
        go_wp2_with fail
        go_roundg (n - (j+1))
        case measure=>omega
        case rel=>exact ⟨j+1,by omega,by go_num,HK,rfl⟩
    · have hjz:¬ (j:Int)<(n:Int):=by omega
      have hk:=HK.out
      rw [List.drop_eq_nil_of_le (by omega),List.any_nil] at hk
      have HK:=hidden hk
      clear hk
      go_wp2_with fail
      go_ret
      exact ⟨-1,rfl,by rw [← HK.out];simp,rfl⟩
set_option maxHeartbeats 2000000 in
theorem cont_calls (a:Option Addr) (n cap:Nat) (L:List Int) (w:World) (h:IArg w a n L) :
    Calls Tryz.prog 117 #[.slice a n cap,.func (.func 147) #[] #[]] w fun r w'=>r=.returned (.bool (L.any bad))∧w'=w:=by
  have C:=hidden (idx_calls a n cap L w h)
  obtain ⟨q,hq⟩:∃ q,L.any bad=q:=⟨_,rfl⟩
  rw [hq] at C ⊢
  clear hq h
  go_enter Tryz.func117,Tryz.ntmps117
  go_wp2_with fail
  refine C.out.mono ?_
  rintro r w1 ⟨i,rfl,hi,rfl⟩
  cases q with
  | true=>
    go_wp2_with fail
    go_ret
    exact ⟨rfl,rfl⟩
  | false=>
    go_wp2_with fail
    go_ret
    exact ⟨rfl,rfl⟩
set_option maxHeartbeats 2000000 in
theorem areRates_calls (a:Option Addr) (n cap:Nat) (L:List Int) (w:World) (h:IArg w a n L) :
    Calls Tryz.prog 125 #[.slice a n cap] w fun r w'=>r=.returned (.bool (!L.any bad))∧w'=w:=by
  have C:=hidden (cont_calls a n cap L w h)
  obtain ⟨q,hq⟩:∃ q,L.any bad=q:=⟨_,rfl⟩
  rw [hq] at C ⊢
  clear hq h
  go_enter Tryz.func125,Tryz.ntmps125
  go_wp2_with fail
  refine C.out.mono ?_
  rintro r w1 ⟨rfl,rfl⟩
  go_wp2_with fail
  go_ret
  exact ⟨rfl,rfl⟩
def srt (L:List Int):List Int:=L.mergeSort fun x y=>decide (x≤y)
theorem srt_perm (L:List Int):(srt L).Perm L:=List.mergeSort_perm L _
theorem srt_len (L:List Int):(srt L).length=L.length:=(srt_perm L).length_eq
theorem srt_sorted (L:List Int):(srt L).Pairwise (·≤·):=by
  have h:=List.pairwise_mergeSort (le:=fun x y:Int=>decide (x≤y)) (fun a b c h1 h2=>by simp at h1 h2 ⊢;omega) (fun a b=>by simp;omega) L
  exact h.imp (by simp)
theorem lv_small:∀ (R:List Int) (A:Int),0≤(lv A R).2∧(lv A R).2≤(R.length:Int)
  | [],A=>by simp [lv]
  | x::R,A=>by
    have i:=lv_small R (A - x)
    have r0:=Int.emod_nonneg A (show (R.length:Int)+1≠0 by omega)
    have r1:=Int.emod_lt_of_pos A (show 0<(R.length:Int)+1 by omega)
    have hlen:((x::R).length:Int)=(R.length:Int)+1:=by simp
    rw [hlen]
    simp only [lv]
    split
    · exact ⟨r0,by show A%((R.length:Int)+1)≤_;omega⟩
    · exact ⟨i.1,by omega⟩
set_option maxHeartbeats 4000000 in
set_option maxRecDepth 100000 in
theorem level_calls (A:Int) (a:Option Addr) (n cap:Nat) (L:List Int) (w:World) (m lf:Int) (h:IArg w a n L) (hr:Rts L) (hn:n≤200) (hA:0≤A) (hA1:A≤1000000) (hm:lv A (srt L)=(m,lf)) :
    Calls Tryz.prog 126 #[.int .i64 A,.slice a n cap] w fun r w'=>r=.returned (.tuple #[.int .i64 m,.int .i64 lf])∧Below w.heap.size w w':=by
  have hl:=h.2.1
  have hL2:=h.low
  have hsl:=srt_len L
  have hsr:=hr.perm (srt_perm L)
  have C1:=hidden (values_calls a n cap w)
  obtain ⟨w1,hw1⟩:∃ w1,w.alloc (.cells #[.slice a n cap] 29)=w1:=⟨_,rfl⟩
  rw [hw1] at C1
  have hB1:Below w.heap.size w w1:=by rw [← hw1];exact (Below.refl _ _).alloc (Nat.le_refl _) _
  have C2:=hidden (sorted_calls w.heap.size a cap L (by omega) w1 (by rw [← hw1];simp) (by rw [← hw1,hl];exact (Boxed.new w 29 _).cell) (fun j hj=>by
    obtain ⟨b,o,e,hbl,hc⟩:=(hL2.below hB1) j hj
    exact ⟨b,o,e,by have:=hB1.size;omega,hc⟩))
  have HB1:=hidden hB1
  clear h hL2 hw1 hB1
  have HM0:Hid (lv A ((srt L).drop 0)=(m,lf)):=hm
  have hR:Hid (∀ j,j<n→0≤(srt L).getD j 0∧(srt L).getD j 0≤1000000):=fun j hj=>by
    refine hsr _ ?_
    rw [List.getD_eq_getElem?_getD,List.getElem?_eq_getElem (by omega)]
    exact List.getElem_mem _
  have hC2:=C2.out
  change Calls _ _ _ _ fun e W'=>∃ v,e=.returned v∧W'.ownsRow w1.heap.size 3 1 v L.length (ic (srt L))∧_ at hC2
  generalize srt L=R at *
  clear hm hsr hr C2
  have C2:=hidden hC2
  clear hC2
  go_enter Tryz.func126,Tryz.ntmps126
  go_wp2_with fail
  refine C1.out.mono ?_
  rintro e w' ⟨rfl,rfl⟩
  clear C1
  go_wp2_with fail
  refine C2.out.mono ?_
  rintro e w2 ⟨v,rfl,h1,h2⟩
  obtain ⟨ra,rc,rfl,hI,-,-,-⟩:=own_ints h1 (by omega)
  rw [hl] at hI
  have HI:=hidden hI
  have HB2:Hid (Below w.heap.size w w2):=HB1.out.trans (h2.mono HB1.out.size)
  clear h1 h2 hI HB1 C2
  rw [hl]
  go_wp2_with fail
  go_loopg [0,15] n (fun g u x wr=>∃ (j:Nat) (B:Int),j+g=n∧u=.int .i64 B∧x=.int .i64 (j:Int)∧0≤B∧B≤1000000∧Hid (lv B (R.drop j)=(m,lf))∧w2=wr)
  case atStart=>exact ⟨0,A,by omega,rfl,rfl,hA,hA1,HM0,rfl⟩
  case round=>
    clear HM0 hA hA1
    obtain ⟨j,B,hjg,rfl,rfl,b0,b1,HK,rfl⟩:=hrel
    by_cases hj:j<n
    · have hjz:(j:Int)<(n:Int):=by omega
      obtain ⟨b,o,rfl,hcs⟩:=HI.out.at (by omega)
      have c0:=hcs j hj
      have hk:=HK.out
      have hx:=hR.out j hj
      rw [drop_int (by omega)] at hk
      have hdl:((R.drop (j+1)).length:Int)+1=(n:Int) - (j:Int):=by rw [List.length_drop];omega
      simp only [lv] at hk
      rw [hdl] at hk
      obtain ⟨x,hxx⟩:∃ x,R.getD j 0=x:=⟨_,rfl⟩
      rw [hxx] at c0 hk hx
      clear hxx hcs HK hdl
      have q0:0≤B / ((n:Int) - (j:Int)):=Int.ediv_nonneg b0 (by omega)
      have q1:B / ((n:Int) - (j:Int))≤B:=Int.ediv_le_self _ b0
      by_cases p:B / ((n:Int) - (j:Int))<x
      · have d:decide (B / ((n:Int) - (j:Int))<x)=true:=by simpa using p
        rw [if_pos p,Prod.mk.injEq] at hk
        obtain ⟨k1,k2⟩:=hk
        have K1:=hidden k1
        have K2:=hidden k2
        clear k1 k2
        go_wp2_with fail
        go_region
        go_wp2_with fail
        go_ret2
        exact ⟨by rw [← K1.out,← K2.out];rfl,HB2.out.drew⟩
      · have d:decide (B / ((n:Int) - (j:Int))<x)=false:=by simpa using p
        rw [if_neg p] at hk
        have HK:=hidden hk
        clear hk
        go_wp2_with fail
        go_roundg (n - (j+1))
        case measure=>omega
        case rel=>exact ⟨j+1,B - x,by omega,by go_num,by go_num,by omega,by omega,HK,rfl⟩
    · have hjz:¬ (j:Int)<(n:Int):=by omega
      have hk:=HK.out
      rw [List.drop_eq_nil_of_le (by omega)] at hk
      simp only [lv,Prod.mk.injEq] at hk
      obtain ⟨rfl,rfl⟩:=hk
      go_wp2_with fail
      go_ret2
      exact ⟨rfl,HB2.out⟩
end Go.Proofs.YtbadpjgiogghdaaGreatDoor.Rate

