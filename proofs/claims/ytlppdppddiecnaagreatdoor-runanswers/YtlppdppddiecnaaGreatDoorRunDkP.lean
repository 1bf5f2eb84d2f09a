/-
  The reference's desk in memory, and what each of its three parts leaves.
-/
import Derived.Test.YtlppdppddiecnaaGreatDoorRunRcP
import Derived.Test.YtlppdppddiecnaaGreatDoorDoAll
import Derived.Test.YtlppdppddiecnaaGreatDoorRefWin
import Derived.Test.YtlppdppddiecnaaGreatDoorRefLay
import Derived.Test.YtlppdppddiecnaaGreatDoorRdAll
namespace Go.Proofs.YtlppdppddiecnaaGreatDoor.Run
open Go.ChangeShapes Go.WideShapes Go.ChangeAt Go.RowKit Go.Proofs.YtlppdppddiecnaaGreatDoor.Mem Go.Proofs.YtlppdppddiecnaaGreatDoor.RN Go.Proofs.YtlppdppddiecnaaGreatDoor.RC
set_option linter.unusedVariables false
def Dk (w W:World) (b:Nat) (S:Ss) (k:Nat):Prop:=∃ (v u:Value) (L:List Int),
  W.heap[b]?=some (.cells #[.int .i64 8,.int .i64 S.top,v,.int .i64 2,.int .i64 S.sp,u,.int .i64 1,.int .i64 S.nw,.int .i64 S.la,.bool S.br] 56 (0,0)) ∧
  W.ownsRow w.heap.size 3 1 v L.length (L.map (Value.int .i64))∧(∃ base,W.ownsRow base 83 2 u (VO.lst S.f).length (Voice.vc (VO.lst S.f))) ∧
  Win.Inv 8 S.top S.seen L∧L.length≤k∧w.heap.size≤b∧Below w.heap.size w W
section
variable {w W W':World} {b k:Nat} {S:Ss}
theorem own_onlyD {base e sz n:Nat} {v:Value} {xs:List Value} {bs:List Nat} (h:W.ownsRow base e sz v n xs) (ho:Only bs W W') (hv:∀ g,v.ownBlock=some g→g∉bs):W'.ownsRow base e sz v n xs:=by
  refine ⟨h.1,?_⟩
  rcases h.2 with hl | ⟨g,cap,cur,rfl,hg,hbl,rest⟩
  · exact .inl hl
  · exact .inr ⟨g,cap,cur,rfl,hg,ho.block hbl (hv g rfl),rest⟩
theorem own_neD {base e sz n b':Nat} {v:Value} {xs:List Value} {cs:Array Value} {t:TypeId} (h:W.ownsRow base e sz v n xs) (hb:W.heap[b']?=some (.cells cs t (0,0))) (ht:t≠e):v.ownBlock≠some b':=by
  intro q
  rcases h.2 with ⟨rfl,_⟩ | ⟨g,cap,cur,rfl,_,hg,_⟩
  · simp [Value.ownBlock] at q
  · simp [Value.ownBlock] at q
    subst q
    rw [hg] at hb
    simp at hb
    exact ht hb.2.symm
theorem own_lowD {base e sz n g:Nat} {v:Value} {xs:List Value} (h:W.ownsRow base e sz v n xs) (hg:v.ownBlock=some g):base≤g∧∃ cs,W.heap[g]?=some (.cells cs e (0,0)):=by
  rcases h.2 with ⟨rfl,_⟩ | ⟨g',cap,cur,rfl,h1,h2,_⟩
  · simp [Value.ownBlock] at hg
  · simp [Value.ownBlock] at hg
    subst hg
    exact ⟨h1,_,h2⟩
theorem Dk.bel (h:Dk w W b S k):Below w.heap.size w W:=by
  obtain ⟨_,_,_,_,_,_,_,_,_,h⟩:=h
  exact h
theorem Dk.more (h:Dk w W b S k) {k':Nat} (hk:k≤k'):Dk w W b S k':=by
  obtain ⟨v,u,L,h1,h2,h3,h4,h5,h6⟩:=h
  exact ⟨v,u,L,h1,h2,h3,h4,by omega,h6⟩
theorem Dk.only (h:Dk w W b S k) (ho:Only [] W W'):Dk w W' b S k:=by
  obtain ⟨v,u,L,h1,h2,⟨bu,h3⟩,h4,h5,h6,h7⟩:=h
  exact ⟨v,u,L,ho.block h1 (by simp),own_onlyD h2 ho (by simp),⟨bu,own_onlyD h3 ho (by simp)⟩,h4,h5,h6,h7.trans (ho.below h7.size (by simp))⟩
theorem Dk.below (h:Dk w W b S k) (hb:Below W.heap.size W W'):Dk w W' b S k:=h.only (Only.of_below hb [])
theorem Dk.add (h:Dk w W b S k) (hk:k≤5000) (y:Int) :
    Calls Tryz.prog 24 #[.pointer (some ⟨b,0,none⟩),.int .i64 y] W fun e w'=>e=.returned (.tuple #[.bool (wIs S.top y S.seen),.int .i64 (wF S.top y:Int)])∧Dk w w' b { S with top:=wT S.top y,seen:=wS S.top y S.seen } (k+1):=by
  have h0:=h
  obtain ⟨v,u,L,hB,hv,⟨bu,hu⟩,hI,hL,hbw,hbel⟩:=h
  have hI':=hI
  obtain ⟨_,_,hT0,hT1,_,hin,_⟩:=hI'
  have hh:=Win.has_same hI y
  obtain ⟨c0,c1,c2⟩:=RWin.cellsW (K:=⟨2,S.sp,u,1,S.nw,S.la,S.br⟩) hB
  by_cases hf:y<0∨1099511627776<y
  · have e1:wF S.top y=1:=if_pos hf
    have e2:wIs S.top y S.seen=false:=by unfold wIs;rw [e1];rfl
    have e3:wT S.top y=S.top:=by unfold wT;rw [if_neg (by rw [e1];simp)]
    have e4:wS S.top y S.seen=S.seen:=by unfold wS;rw [if_neg (by rw [e1];simp)]
    rw [e1,e2,e3,e4]
    refine (RWin.radd_long b y W hf).mono ?_
    rintro e w' ⟨rfl,rfl⟩
    exact ⟨rfl,h0.more (by omega)⟩
  by_cases ho:8≤S.top - y
  · have e1:wF S.top y=6:=by unfold wF;rw [if_neg hf,if_pos ho]
    have e2:wIs S.top y S.seen=false:=by unfold wIs;rw [e1];rfl
    have e3:wT S.top y=S.top:=by unfold wT;rw [if_neg (by rw [e1];simp)]
    have e4:wS S.top y S.seen=S.seen:=by unfold wS;rw [if_neg (by rw [e1];simp)]
    rw [e1,e2,e3,e4]
    refine (RWin.radd_old b 8 S.top y W c0 c1 (by omega) (by omega) hT0 hT1 (by omega) (by omega) (by omega)).mono ?_
    rintro e w' ⟨rfl,q,rfl⟩
    exact ⟨rfl,(h0.more (by omega)).only ((Only.refl _ _).drewN q)⟩
  have e1:wF S.top y=0:=by unfold wF;rw [if_neg hf,if_neg ho]
  have e4:wS S.top y S.seen=if S.top<y then Win.riseS S.seen (y - S.top).toNat else S.seen ||| 2 ^ (S.top - y).toNat:=by unfold wS;rw [if_pos e1]
  have e2:wIs S.top y S.seen=(decide (S.top<y)||!Win.hasR 8 S.top L y):=by unfold wIs;rw [e1,hh];simp
  by_cases hr:Win.hasR 8 S.top L y=true
  · have hm:y∈L:=by
      unfold Win.hasR at hr
      rw [Bool.and_eq_true] at hr
      exact of_decide_eq_true hr.1
    have hyT:=(hin y hm).2
    have e3:wT S.top y=S.top:=by unfold wT;rw [if_neg (by omega)]
    have hIn:=Win.inv_add hI y hyT (by omega) (by omega)
    rw [if_pos hr] at hIn
    rw [if_neg (by omega)] at e4
    rw [hr,decide_eq_false (by omega)] at e2
    rw [e1,e2,e3,e4]
    refine (RWin.radd_has b w.heap.size 8 S.top y v L W c0 c1 c2 hv (by omega) (by omega) (by omega) hT0 hT1 (by omega) hyT (by omega) hr).mono ?_
    rintro e w' ⟨rfl,q,rfl⟩
    refine ⟨rfl,?_⟩
    have:=(h0.more (show k≤k+1 by omega)).only ((Only.refl _ W).drewN q)
    obtain ⟨v',u',L',g1,g2,g3,g4,g5,g6,g7⟩:=this
    have hb:Only [] W (W.drewN q):=(Only.refl _ W).drewN q
    exact ⟨v,u,L,hb.block hB (by simp),own_onlyD hv hb (by simp),⟨bu,own_onlyD hu hb (by simp)⟩,hIn,by omega,hbw,g7⟩
  · have hr':Win.hasR 8 S.top L y=false:=by simpa using hr
    have e2':wIs S.top y S.seen=true:=by rw [e2,hr'];simp
    have e3:wT S.top y=if S.top<y then y else S.top:=by
      unfold wT
      by_cases c:S.top<y
      · rw [if_pos ⟨e1,c⟩,if_pos c]
      · rw [if_neg (fun h=>c h.2),if_neg c]
    have hIn:Win.Inv 8 (wT S.top y) (wS S.top y S.seen) (L++[y]):=by
      rw [e3,e4]
      by_cases c:S.top<y
      · rw [if_pos c,if_pos c]
        exact Win.inv_rise hI y c (by omega) (by omega)
      · rw [if_neg c,if_neg c]
        have:=Win.inv_add hI y (by omega) (by omega) (by omega)
        rw [if_neg (by rw [hr'];simp)] at this
        exact this
    rw [e1,e2']
    refine (RWin.radd_new ⟨2,S.sp,u,1,S.nw,S.la,S.br⟩ b w.heap.size 8 S.top y v L W hB hv hbel.size (by omega) (by omega) (by omega) hT0 hT1 (by omega) (by omega) (by omega) hr' (wT S.top y) e3).mono ?_
    rintro e w' ⟨rfl,v',g1,g2,g3⟩
    have g3':Only (b::v.ownBlock.toList) W w':=g3
    refine ⟨rfl,v',u,L++[y],g1,?_,⟨bu,own_onlyD hu g3' fun g hg=>?_⟩,hIn,by rw [List.length_append,List.length_singleton];omega,hbw,hbel.trans (g3'.below hbel.size fun x hx=>?_)⟩
    · rw [← (RWin.list_snoc L y).1,← (RWin.list_snoc L y).2]
      exact g2
    · intro hm
      rcases List.mem_cons.1 hm with rfl | hm
      · exact own_neD hu hB (by decide) hg
      · obtain ⟨_,cs,hcs⟩:=own_lowD hv (by simpa using hm)
        exact own_neD hu hcs (by decide) hg
    · rcases List.mem_cons.1 hx with rfl | hx
      · exact hbw
      · exact (own_lowD hv (by simpa using hx)).1
theorem Dk.take (h:Dk w W b S k) (hO:S.Ok) (n:Int) (g:Bool) (s t l q:Int) (st:Bool) (a:Option Addr) (m c:Nat) :
    Calls Tryz.prog 35 #[.pointer (some ⟨b,6,none⟩),.agg #[.int .i64 n,.bool g,.int .i64 s,.int .i64 t,.int .i64 l,.int .i64 q,.bool st,.slice a m c]] W fun e w'=>e=.returned (.tuple #[.bool (LM.tkx 1 S.nw S.la n S.br g (PM.fault s t l q m) l st),.int .i64 (LM.tkf S.la n g (PM.fault s t l q m):Nat)])∧Dk w w' b (take1 S n g (PM.fault s t l q m) l st).2 k:=by
  obtain ⟨v,u,L,hB,hv,⟨bu,hu⟩,hI,hL,hbw,hbel⟩:=h
  refine (RLayer.rtake_calls ⟨8,S.top,v,2,S.sp,u⟩ b 1 S.nw S.la n S.br g s t l q st a m c W hB hO.ly).mono ?_
  rintro e w' ⟨rfl,h1,h2⟩
  have h2':Only [b] W w':=h2
  refine ⟨rfl,v,u,L,h1,own_onlyD hv h2' fun x hx hm=>?_,⟨bu,own_onlyD hu h2' fun x hx hm=>?_⟩,hI,hL,hbw,hbel.trans (h2'.below hbel.size fun x hx=>?_)⟩
  · rw [List.mem_singleton] at hm
    subst hm
    exact own_neD hv hB (by decide) hx
  · rw [List.mem_singleton] at hm
    subst hm
    exact own_neD hu hB (by decide) hx
  · rw [List.mem_singleton] at hx
    subst hx
    exact hbw
theorem Dk.hear (h:Dk w W b S k) (hO:S.Ok) (a:Option Addr) (n cap:Nat) (l:VO.Vs) (hA:Voice.VArg W a n l) :
    Calls Tryz.prog 34 #[.pointer (some ⟨b,3,none⟩),.slice a n cap] W fun e w'=>e=.returned (.int .i64 (VO.hf S.f l:Int))∧Dk w w' b { S with sp:=VO.stS S.f S.sp l,f:=VO.stF S.f l } k:=by
  obtain ⟨v,u,L,hB,hv,⟨bu,hu⟩,hI,hL,hbw,hbel⟩:=h
  refine (RVoice.rhear_calls ⟨8,S.top,v,1,S.nw,S.la,S.br⟩ b n cap u a 2 S.sp S.f l W ⟨hB,bu,hu⟩ hO.vo hA).mono ?_
  rintro e w' ⟨rfl,⟨u',h1,h3⟩,h2⟩
  have h2':Only [b] W w':=h2
  refine ⟨rfl,v,u',L,h1,own_onlyD hv h2' fun x hx hm=>?_,h3,hI,hL,hbw,hbel.trans (h2'.below hbel.size fun x hx=>?_)⟩
  · rw [List.mem_singleton] at hm
    subst hm
    exact own_neD hv hB (by decide) hx
  · rw [List.mem_singleton] at hx
    subst hx
    exact hbw
theorem Dk.speaker (h:Dk w W b S k):W.cell? ⟨b,4,none⟩=some (.int .i64 S.sp):=by
  obtain ⟨v,u,L,hB,_⟩:=h
  simp [World.cell?,hB]
end
theorem lst_zero:VO.lst (fun _=>0)=[]:=by
  unfold VO.lst
  simp
set_option maxHeartbeats 1000000 in
set_option maxRecDepth 100000 in
theorem rnew_calls (w:World):Calls Tryz.prog 6 #[] w fun e w'=>e=.returned (.pointer (some ⟨w.heap.size,0,none⟩))∧Dk w w' w.heap.size ss0 0:=by
  have HX:∀ W:World,W.heap[w.heap.size]?=some (.cells #[.int .i64 8,.int .i64 (-1),.slice none 0 0,.int .i64 2,.int .i64 (-1),.slice none 0 0,.int .i64 1,.int .i64 (-1),.int .i64 (-1),.bool false] 56 (0,0))→Below w.heap.size w W→Dk w W w.heap.size ss0 0:=by
    intro W hB hb
    refine ⟨.slice none 0 0,.slice none 0 0,[],hB,World.ownsRow_nil _ _ _ _,⟨0,?_⟩,Win.inv_start 8 (by omega) (by omega),by simp,Nat.le_refl _,hb⟩
    show W.ownsRow 0 83 2 _ (VO.lst (fun _=>0)).length (Voice.vc (VO.lst fun _=>0))
    rw [lst_zero]
    exact World.ownsRow_nil _ _ _ _
  go_enter Tryz.func6,Tryz.ntmps6
  go_wp2_with fail
  go_ret
  refine ⟨rfl,HX _ ?_ ?_⟩
  · exact heap_alloc_new _ _
  · exact (Below.refl _ _).alloc (Nat.le_refl _) _
end Go.Proofs.YtlppdppddiecnaaGreatDoor.Run

