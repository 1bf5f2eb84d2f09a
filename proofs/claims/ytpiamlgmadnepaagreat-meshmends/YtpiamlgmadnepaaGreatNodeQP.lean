/-
 What numberOf and keep of package node return, and what they leave in memory. Their condition: the track is such as it may be.
-/
import Derived.Test.YtpiamlgmadnepaaGreatNodeMid
import Derived.Test.YtpiamlgmadnepaaGreatRingAll
import Derived.Test.YtpiamlgmadnepaaGreatSerialP
import Derived.Maps.RangeWalk
import Derived.Outline
open Go.Proofs.Tryz
set_option linter.unusedVariables false
set_option maxHeartbeats 1000000
set_option maxRecDepth 100000
namespace Go.Proofs.YtpiamlgmadnepaaGreat.ND
open Go.ChangeShapes Go.WideShapes Go.ChangeAt Go.RowKit Go.Maps Mem NO RM
theorem ξ6L (x low a c:Int) (g:Nat) (w:World) (h:w.cell? ⟨g,0,none⟩=some (.int .i64 low)) :
 Calls prog 162 #[.int .i64 x,.agg #[.int .i64 a,.int .i64 c],.pointer (some ⟨g,0,none⟩)] w fun e w'=>e=.returned (.bool (decide (x<low)))/\w'=w.alloc (.cells #[.int .i64 a,.int .i64 c] 177):=by
 obtain ⟨q,hq⟩:∃ q,decide (x<low)=q:=⟨_,rfl⟩;rw [hq];have c1:=(((Ξp _ w).alloc (Ξo _) (.cells #[.int .i64 a,.int .i64 c] 177)).cell (p:=⟨g,0,none⟩) (Ξq w ⟨g,0,none⟩ h)).trans h
 go_enter func162,ntmps162
 go_wp2_with fail
 go_ret
 exact ⟨rfl,rfl⟩
def DSt (w wr:World) (wm it:Nat) (M:Its) (f:Int->Int×Int) (low:Int) (D:DataW Value) (left:Lit->Bool) (cnt:Nat):Prop:=
 wr.ranges prog 3 GM.akR wm it M.length D left cnt/\Keys D (cur M (fun x=>decide (low<=x)) left)/\WElems D (cur M (fun x=>decide (low<=x)) left) f/\Only [wm] w wr/\w.heap.size<=it/\wm<w.heap.size
theorem ξbn {w wr w1:World} {wm it cnt cnt1:Nat} {low x:Int} {M:Its} {f:Int->Int×Int} {D:DataW Value} {left:Lit->Bool} (h:DSt w wr wm it M f low D left cnt) (hx:low<=x) (ho:Only [it] wr w1)
 (hr:w1.ranges prog 3 GM.akR wm it M.length D (fun z=>left z&&!z.sameKey (key x)) cnt1):DSt w w1 wm it M f low D (fun z=>left z&&!z.sameKey (key x)) cnt1:=by
 obtain ⟨g1,g2,g3,g4,g5,g6⟩:=h;have e:=ξ5G (M:=M) (kp:=fun x=>decide (low<=x)) (left:=left) (x:=x) (by simpa using hx)
 refine ⟨hr,by rw [e];exact g2,by rw [e];exact g3,Ring.past g4 ho (fun j hj=>?_),g5,g6⟩
 simp at hj
 subst hj;exact .inr g5
theorem ξ5N {D:DataW Value} {M:Its} {f:Int->Int×Int} {kp:Int->Bool} {left:Lit->Bool} {x:Int} (hx:kp x=false) (h:WElems D (cur M kp left) f):WElems (D.del (key x)) (cur M kp (fun z=>left z&&!z.sameKey (key x))) f:=by
 intro i hi zd;obtain ⟨h1,h2⟩:=(ξ1I hx i).1 hi;rw [atKey_del_other (fun e=>h2 (key_inj e)),h i h1]
theorem ξd3 {w wr w2:World} {wm it cnt cnt1:Nat} {low x:Int} {M:Its} {f:Int->Int×Int} {D:DataW Value} {left:Lit->Bool} (h:DSt w wr wm it M f low D left cnt) (hx:x<low) (ho:Only [it,wm] wr w2)
 (hr:w2.ranges prog 3 GM.akR wm it M.length (D.del (key x)) (fun z=>left z&&!z.sameKey (key x)) cnt1):DSt w w2 wm it M f low (D.del (key x)) (fun z=>left z&&!z.sameKey (key x)) cnt1:=by
 obtain ⟨g1,g2,g3,g4,g5,g6⟩:=h;have hk:(fun x=>decide (low<=x)) x=false:=by simp;omega
 refine ⟨hr,ξ3S hk g2,ξ5N hk g3,Ring.past g4 ho (fun j hj=>?_),g5,g6⟩
 simp at hj
 rcases hj with rfl | rfl
 ·exact .inr g5
 ·exact .inl (by simp)
theorem ξ9A (wm g:Nat) (M:Its) (f:Int->Int×Int) (low:Int) (D:DataW Value) (w:World) (hown:w.ownsMap prog 3 GM.akR wm M.length D) (hK:Keys D M) (hE:WElems D M f) (h1:M.Pairwise fun a b=>a.1≠b.1) (hg:w.cell? ⟨g,0,none⟩=some (.int .i64 low)) :
 Calls prog 161 #[.map (some wm),.func (.func 162) #[] #[.pointer (some ⟨g,0,none⟩)]] w fun e w'=>e=.returned (.tuple #[]) /\
  (∃ D',w'.ownsMap prog 3 GM.akR wm (M.filter fun i=>decide (low<=i.1)).length D'/\Keys D' (M.filter fun i=>decide (low<=i.1))/\WElems D' (M.filter fun i=>decide (low<=i.1)) f)/\Only [wm] w w':=by
 have HO:=ξ0 hown
 have HK:=ξ0 hK
 have HE:=ξ0 hE
 have H1:=ξ0 h1
 have HG:=ξ0 hg
 have hwl:=hown.lt
 have hgl:=Ξq w ⟨g,0,none⟩ hg
 have hgw:g≠wm:=by
  intro e;obtain ⟨es,c,hm⟩:=ξc hown;subst e;simp [World.cell?,hm] at hg
 simp only at hgl
 clear hown hK hE h1 hg;go_enter func161,ntmps161
 go_wp2_with (at_range;refine wpList_range_own _ rfl _ 172 rfl 3 177 law3 underlying172 _ wm M.length D rfl HO.out ?_;intro w0 hrg0 hg0 hs0)
 go_frame
 have HS0:Hid (DSt w w0 wm w.heap.size M f low D (Maps.has D) (Maps.size D)):=by
  have ho:Only [wm] w w0:=(Only.refl [wm] w).grown hg0 (by simp)
  refine ⟨hrg0,?_,?_,ho,Ξo _,hwl⟩
  ·rw [ξ2o HK.out];exact HK.out
  ·rw [ξ2o HK.out];exact HE.out
 obtain ⟨it,hit⟩:∃ it,w.heap.size=it:=⟨_,rfl⟩;have HIT:=ξ0 hit
 rw [hit] at HS0 hs0;rw [hit];clear hrg0 hg0 hs0 HE hit;go_loopw [4] (fun _ wr=>∃ (Dc:DataW Value) (left:Lit->Bool) (cnt:Nat),Hid (DSt w wr wm it M f low Dc left cnt)) (fun _ wr=>wr.rangeLeft wm it)
 case atStart=>exact ⟨_,_,_,HS0⟩
 case round=>
  obtain ⟨Dc,left,cnt,HS⟩:=hrel;clear HS0;go_wp2_with (at_next;refine wpList_next_ranges _ rfl _ rfl 3 law3 GM.akR (Value.int .i64) (fun v:Value=>v) (fun key kl hkey=>by obtain ⟨x,rfl,_⟩:=Maps.keyOf_int_inv underlying3 hkey;exact ⟨x,rfl⟩) (fun v y hv=>⟨v,rfl⟩) wm it M.length Dc left cnt rfl HS.out.1 ?_ ?_)
  ·intro _ hl0;go_wp2_with fail
   go_end0
   obtain ⟨g1,g2,g3,g4,_⟩:=HS.out;rw [ξ8p hl0] at g2 g3;have ht:=RM.tight g1.owns
   rw [g2.size (g1.owns.entries law3) (H1.out.filter _)] at ht;exact ⟨rfl,⟨Dc,ht,g2,g3⟩,g4⟩
  ·intro x v kl yd yp w1 cnt1 hkey hlk hv hat hrg1 hlt1 hg1 hs1 hen;obtain ⟨x',ex,rfl,hwx⟩:=Maps.keyOf_int_inv underlying3 hkey;cases ex
   obtain ⟨⟨va,vc,rfl⟩,_⟩:=GM.ξ3K hv;have HR1:=ξ0 hrg1
   have HG1:=ξ0 hg1
   have hsz:=HS.out.2.2.2.1.2.2.2.1
   have cg:w1.cell? ⟨g,0,none⟩=some (.int .i64 low):=by
    have e1:wr.heap[g]?=w.heap[g]?:=HS.out.2.2.2.1.2.2.2.2 g hgl (by simpa using hgw)
    have e2:w1.heap[g]?=wr.heap[g]?:=hg1.block g (by omega) (by have:=HIT.out;simp;omega)
    rw [ξn (e2.trans e1)];exact HG.out
   clear hrg1 hg1 hv hat;have C:=ξ0 (fun W h=>ξ6L x low va vc g W h)
   have cg2:=(((Ξp _ w1).alloc (Ξo _) (.cells #[.int .i64 va,.int .i64 vc] 177)).cell (p:=⟨g,0,none⟩) (Ξq w1 ⟨g,0,none⟩ cg)).trans cg
   go_wp2_with fail
   refine (C.out _ cg2).mono ?_
   rintro e w2 ⟨rfl,hw2⟩;have HR2:Hid (w2.ranges prog 3 GM.akR wm it M.length Dc (fun z=>left z&&!z.sameKey (key x)) cnt1):=by rw [hw2];exact ξ0 ((HR1.out.alloc _).alloc _)
   have HO2:Hid (Only [it] wr w2):=by rw [hw2];exact ξ0 ((((Only.refl [it] wr).grown HG1.out (by simp)).alloc _).alloc _)
   clear hw2 cg cg2 C;by_cases hx:x<low
   ·have d:decide (x<low)=true:=by simpa using hx
    rw [d];go_wp2_with (at_delete;refine wpList_delete_ranges _ rfl _ _ 172 3 rfl 177 law3 underlying172 _ wm it M.length Dc _ cnt1 rfl HR2.out _ _ rfl (keyOf3 hwx) ?_;intro w3 cnt2 hrg2 hle hturn;go_frame)
    have hrg3:w3.ranges prog 3 GM.akR wm it M.length (Dc.del (key x)) (fun z=>left z&&!z.sameKey (key x)) cnt2:=by
     have:=hrg2
     rw [show GM.key x=key x from rfl,strike_twice] at this;exact this
    go_roundw
    case rel=>exact ⟨_,_,cnt2,ξd3 HS.out hx ((HO2.out.mono (by simp)).grown hturn.grown (by simp)) hrg3⟩
    case measure=>rw [hrg3.left_eq,HS.out.1.left_eq];omega
   ·have d:decide (x<low)=false:=by simpa using hx
    rw [d];go_wp2_with fail
    go_roundw
    case rel=>exact ⟨_,_,cnt1,ξbn HS.out (by omega) HO2.out HR2.out⟩
    case measure=>rw [HR2.out.left_eq,HS.out.1.left_eq];omega
end Go.Proofs.YtpiamlgmadnepaaGreat.ND
