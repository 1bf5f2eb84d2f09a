/-
  TreeMath4, RTreeA, RTreeB in one text.
-/
import Derived.Test.YtlppdppddiecnaaGreatDoorTreeM
import Derived.Test.YtlppdppddiecnaaGreatDoorTreeEnd
import Derived.Test.YtlppdppddiecnaaGreatDoorToldAll
import Derived.Deep.RegionLaw

set_option linter.unusedVariables false
namespace Go.Proofs.YtlppdppddiecnaaGreatDoor.TM

structure BInv (L:List Ed) (n root:Nat) (d:List Int) (B:Int):Prop where
  len:d.length=n
  rt:dg d root=0
  ach:∀ x,x<n→dg d x=-1∨Way L n root x (dg d x)
  bd:∀ x,x<n→dg d x≤B
theorem BInv.low {L:List Ed} {n root:Nat} {d:List Int} {B:Int} (h:BInv L n root d B) {x:Nat} (hx:x<n):dg d x=-1∨0≤dg d x:=by
  rcases h.ach x hx with q | q
  · exact .inl q
  · exact .inr q.nonneg
theorem binv_start (L:List Ed) {n root:Nat} (hr:root<n):BInv L n root ((List.replicate n (-1)).set root 0) 0:=by
  have e:∀ x,dg ((List.replicate n (-1)).set root 0) x=if x=root then 0 else -1:=fun x=>by
    rw [dg_set (by simpa using hr),dg_rep]
  refine ⟨by simp,by rw [e,if_pos rfl],fun x hx=>?_,fun x _=>?_⟩
  · rw [e]
    by_cases q:x=root
    · subst q;rw [if_pos rfl];exact .inr (Way.here _ _ _)
    · rw [if_neg q];exact .inl rfl
  · rw [e];split<;>omega
def rx (d:List Int) (x y:Nat) (c:Int):List Int:=if 0≤dg d x∧(dg d y<0∨dg d x+c<dg d y) then d.set y (dg d x+c) else d
structure Rx (L:List Ed) (n root:Nat) (d e:List Int) (x y:Nat) (c B:Int):Prop where
  inv:BInv L n root e (B+1000000)
  le:∀ z,z<n→0≤dg d z→0≤dg e z∧dg e z≤dg d z
  rel:0≤dg d x→0≤dg e y∧dg e y≤dg d x+c
theorem rx_is {L:List Ed} {n root x y:Nat} {d:List Int} {c B:Int} (hF:∀ e∈L,okE n e=true) (h:BInv L n root d B) (hx:x<n) (hy:y<n) (hr:root<n) (hB:0≤B) (hc:cst L x y=c) (h0:0<c):Rx L n root d (rx d x y c) x y c B:=by
  have hl:=h.len
  have hcr:=cst_range hF (x:Int) (y:Int)
  rw [hc] at hcr
  have bx:=h.bd x hx
  unfold rx
  split
  · rename_i q
    obtain ⟨q1,q2⟩:=q
    have e:∀ z,dg (d.set y (dg d x+c)) z=if z=y then dg d x+c else dg d z:=fun z=>dg_set (by omega) _ z
    refine ⟨⟨by simp [hl],?_,fun z hz=>?_,fun z hz=>?_⟩,fun z hz h1=>?_,fun _=>?_⟩
    · rw [e]
      by_cases k:root=y
      · subst k;rw [h.rt] at q2;omega
      · rw [if_neg k];exact h.rt
    · rw [e]
      by_cases k:z=y
      · subst k
        rw [if_pos rfl]
        right
        rcases h.ach x hx with w | w
        · omega
        · have:=w.step hx (y:=z) (by rw [hc];exact h0)
          rwa [hc] at this
      · rw [if_neg k];exact h.ach z hz
    · rw [e]
      have:=h.bd z hz
      split<;>omega
    · rw [e]
      by_cases k:z=y
      · subst k;rw [if_pos rfl];omega
      · rw [if_neg k];omega
    · rw [e,if_pos rfl];omega
  · rename_i q
    refine ⟨⟨hl,h.rt,h.ach,fun z hz=>by have:=h.bd z hz;omega⟩,fun z hz h1=>by omega,fun h1=>?_⟩
    rcases h.low hy with k | k<;>omega
def nr (D d:List Int) (z:Nat):Bool:=decide (dg d z=dg D z)
theorem nr_keep {L:List Ed} {n root x y z:Nat} {D d e:List Int} {c B:Int} (hD:IsDist L n root D) (h:Rx L n root d e x y c B) (hz:z<n) (hs:nr D d z=true):nr D e z=true:=by
  simp only [nr,decide_eq_true_eq] at hs ⊢
  rcases hD.is z hz with ⟨k1,k2⟩ | ⟨k1,k2⟩
  · rcases h.inv.ach z hz with q | q
    · rw [q,k1]
    · exact absurd q (k2 _)
  · have h0:=k1.nonneg
    obtain ⟨a1,a2⟩:=h.le z hz (by omega)
    rcases h.inv.ach z hz with q | q
    · omega
    · have:=k2 _ q;omega
theorem nr_win {L:List Ed} {n root x y:Nat} {D d e:List Int} {c B:Int} (hD:IsDist L n root D) (h:Rx L n root d e x y c B) (hy:y<n) (hs:nr D d x=true) (h0:0≤dg D x) (hc:dg D y=dg D x+c):nr D e y=true:=by
  simp only [nr,decide_eq_true_eq] at hs ⊢
  obtain ⟨a1,a2⟩:=h.rel (by omega)
  rcases h.inv.ach y hy with q | q
  · omega
  · have:=(hD.le hy q).2;omega
structure RInv (L:List Ed) (n root:Nat) (D d0 d:List Int) (j:Nat) (B:Int):Prop where
  inv:BInv L n root d B
  keep:∀ z,z<n→nr D d0 z=true→nr D d z=true
  won:∀ e∈L.take j,∀ x y:Nat,x<n→y<n→jn e x y=true→nr D d0 x=true→0≤dg D x→dg D y=dg D x+e.c→nr D d y=true
theorem rinv_start {L:List Ed} {n root:Nat} {D d:List Int} {B:Int} (h:BInv L n root d B):RInv L n root D d d 0 B:=⟨h,fun _ _ q=>q,fun e he=>by simp at he⟩
theorem rinv_step {L:List Ed} {n root j p q:Nat} {D d0 d:List Int} {c B:Int} (hF:Fit n L) (hD:IsDist L n root D) (hr:root<n) (hB:0≤B) (h:RInv L n root D d0 d j B) (hj:j<L.length) (he:L.getD j zz=⟨p,q,c⟩) (hp:p<n) (hq:q<n) :
    RInv L n root D d0 (rx (rx d p q c) q p c) (j+1) (B+2000000):=by
  have hm:=getD_mem hj
  rw [he] at hm
  have hok:=okE_iff.1 (hF.ok _ hm)
  have c1:cst L p q=c:=cst_mem hF hm (jn_iff.2 (.inl ⟨rfl,rfl⟩))
  have c2:cst L q p=c:=by rw [cst_comm];exact c1
  have h1:=rx_is hF.ok h.inv hp hq hr hB c1 (by have:=hok.2.2.2.2.2.1;simp only at this;omega)
  have h2:=rx_is hF.ok h1.inv hq hp hr (by omega) c2 (by have:=hok.2.2.2.2.2.1;simp only at this;omega)
  have k1:∀ z,z<n→nr D d z=true→nr D (rx (rx d p q c) q p c) z=true:=fun z hz hs=>nr_keep hD h2 hz (nr_keep hD h1 hz hs)
  refine ⟨⟨h2.inv.len,h2.inv.rt,h2.inv.ach,fun z hz=>by have:=h2.inv.bd z hz;omega⟩,fun z hz hs=>k1 z hz (h.keep z hz hs),?_⟩
  intro e hme x y hx hy hjn hs h0 hcd
  rw [take_succ hj,he] at hme
  rcases List.mem_append.1 hme with hme | hme
  · exact k1 y hy (h.won e hme x y hx hy hjn hs h0 hcd)
  · simp at hme
    subst hme
    have hs1:=h.keep x hx hs
    rcases jn_iff.1 hjn with ⟨a1,a2⟩ | ⟨a1,a2⟩
    · obtain rfl:p=x:=by simp only at a1;omega
      obtain rfl:q=y:=by simp only at a2;omega
      exact nr_keep hD h2 hy (nr_win hD h1 hy hs1 h0 hcd)
    · obtain rfl:q=x:=by simp only at a1;omega
      obtain rfl:p=y:=by simp only at a2;omega
      exact nr_win hD h2 hy (nr_keep hD h1 hx hs1) h0 hcd
theorem cn_all {S:Nat→Bool} {n:Nat} (h:∀ x,x<n→S x=true):cn S n=n:=by
  induction n with
  | zero=>rfl
  | succ n ih=>rw [cn,ih fun x hx=>h x (by omega),if_pos (h n (by omega))]
theorem round_more {L:List Ed} {n root r:Nat} {D d0 d:List Int} {B:Int} (hD:IsDist L n root D) (hr:root<n) (h0:dg d0 root=0) (h:RInv L n root D d0 d L.length B) (hc:r≤cn (nr D d0) n) (hrn:r<n):r+1≤cn (nr D d) n:=by
  by_cases q:∀ x,x<n→nr D d0 x=true
  · rw [cn_all fun x hx=>h.keep x hx (q x hx)];omega
  · obtain ⟨x0,hx0⟩:∃ x,¬ (x<n→nr D d0 x=true):=by
      by_cases k:∃ x,¬ (x<n→nr D d0 x=true)
      · exact k
      · exact absurd (fun x=>by
          by_cases m:(x<n→nr D d0 x=true)
          · exact m
          · exact absurd ⟨x,m⟩ k) q
    have hx1:x0<n:=by
      by_cases k:x0<n
      · exact k
      · exact absurd (fun m=>absurd m k) hx0
    have hx2:nr D d0 x0=false:=by
      cases k:nr D d0 x0 with
      | false=>rfl
      | true=>exact absurd (fun _=>k) hx0
    have far:∀ y,y<n→nr D d0 y=false→dg D y≠-1→0≤dg D y:=fun y hy _ hne=>by have:=hD.low y;omega
    by_cases un:∀ y,y<n→nr D d0 y=false→dg D y=-1
    · refine Nat.lt_of_le_of_lt hc (cn_more h.keep hx1 hx2 ?_)
      have e:=un x0 hx1 hx2
      simp only [nr,decide_eq_true_eq]
      rcases hD.is x0 hx1 with ⟨k1,k2⟩ | ⟨k1,_⟩
      · rcases h.inv.ach x0 hx1 with w | w
        · rw [w,e]
        · exact absurd w (k2 _)
      · have:=k1.nonneg;omega
    · obtain ⟨y0,hy0⟩:∃ y,¬ (y<n→nr D d0 y=false→dg D y=-1):=by
        by_cases k:∃ y,¬ (y<n→nr D d0 y=false→dg D y=-1)
        · exact k
        · exact absurd (fun y=>by
            by_cases m:(y<n→nr D d0 y=false→dg D y=-1)
            · exact m
            · exact absurd ⟨y,m⟩ k) un
      have hex:∃ s,∃ y,y<n∧nr D d0 y=false∧dg D y=s∧0≤s:=by
        by_cases m1:y0<n
        · by_cases m2:nr D d0 y0=false
          · by_cases m3:dg D y0=-1
            · exact absurd (fun _ _=>m3) hy0
            · exact ⟨_,y0,m1,m2,rfl,far y0 m1 m2 m3⟩
          · exact absurd (fun _ m=>absurd m m2) hy0
        · exact absurd (fun m=>absurd m m1) hy0
      obtain ⟨s,⟨y,hy,hs,hys,hs0⟩,hmin⟩:=least_nat _ (fun s hs=>by obtain ⟨_,_,_,_,k⟩:=hs;exact k) hex
      have hyr:y≠root:=by
        rintro rfl
        simp [nr,h0,hD.root hy] at hs
      obtain ⟨x,hx,hx0',hxc,hxe⟩:=hD.pred hy (by omega) hyr
      have hxs:nr D d0 x=true:=by
        cases k:nr D d0 x with
        | true=>rfl
        | false=>have:=hmin _ ⟨x,hx,k,rfl,hx0'⟩;omega
      rcases cst_cases L x y with ⟨k,_⟩ | ⟨e,hme,k1,k2⟩
      · omega
      · refine Nat.lt_of_le_of_lt hc (cn_more h.keep hy hs ?_)
        exact h.won e (by rw [List.take_length];exact hme) x y hx hy k1 hxs hx0' (by omega)
theorem all_near {L:List Ed} {n root:Nat} {D d:List Int} {B:Int} (hD:IsDist L n root D) (h:BInv L n root d B) (hc:n≤cn (nr D d) n):IsDist L n root d:=by
  have e:d=D:=dg_ext (by rw [h.len,hD.len]) fun x hx=>by
    rw [h.len] at hx
    cases k:nr D d x with
    | true=>simpa [nr] using k
    | false=>have:=cn_lt hx k;omega
  rw [e];exact hD

def gd (d:List Int) (root i:Nat) (e:Ed) (f:Int):Prop:=jn e i f=true∧i≠root∧0≤dg d i∧0≤dg d f.toNat∧dg d f.toNat+e.c=dg d i
def Best (L:List Ed) (d:List Int) (root i j:Nat) (b:Int):Prop:=(b=-1∧∀ e∈L.take j,∀ f,¬ gd d root i e f)∨(0≤b∧(∃ e∈L.take j,gd d root i e b)∧∀ e∈L.take j,∀ f,gd d root i e f→b≤f)
theorem best_start (L:List Ed) (d:List Int) (root i:Nat):Best L d root i 0 (-1):=.inl ⟨rfl,fun e he=>by simp at he⟩
theorem best_skip {L:List Ed} {d:List Int} {root i j:Nat} {b:Int} (hj:j<L.length) (h:Best L d root i j b) (hn:∀ f,gd d root i (L.getD j zz) f→0≤b∧b≤f):Best L d root i (j+1) b:=by
  have key:∀ e∈L.take (j+1),e∈L.take j∨e=L.getD j zz:=fun e he=>by
    rw [take_succ hj] at he
    rcases List.mem_append.1 he with q | q
    · exact .inl q
    · exact .inr (by simpa using q)
  rcases h with ⟨h1,h2⟩ | ⟨h1,⟨e0,he0,h2⟩,h3⟩
  · refine .inl ⟨h1,fun e he f hg=>?_⟩
    rcases key e he with q | q
    · exact h2 e q f hg
    · subst q;have:=hn f hg;omega
  · refine .inr ⟨h1,⟨e0,?_,h2⟩,fun e he f hg=>?_⟩
    · rw [take_succ hj];exact List.mem_append_left _ he0
    · rcases key e he with q | q
      · exact h3 e q f hg
      · subst q;exact (hn f hg).2
theorem best_take {L:List Ed} {d:List Int} {root i j:Nat} {b o:Int} (hj:j<L.length) (h:Best L d root i j b) (ho:0≤o) (hg:gd d root i (L.getD j zz) o) (hu:∀ f,gd d root i (L.getD j zz) f→f=o) (hb:b<0∨o<b):Best L d root i (j+1) o:=by
  refine .inr ⟨ho,⟨L.getD j zz,by rw [take_succ hj];simp,hg⟩,fun e he f hgf=>?_⟩
  rw [take_succ hj] at he
  rcases List.mem_append.1 he with q | q
  · rcases h with ⟨h1,h2⟩ | ⟨h1,_,h3⟩
    · exact absurd hgf (h2 e q f)
    · have:=h3 e q f hgf;omega
  · simp at q
    subst q
    rw [hu f hgf];omega
theorem best_par {L:List Ed} {n root i:Nat} {d:List Int} {b:Int} (hF:Fit n L) (hD:IsDist L n root d) (hr:root<n) (hi:i<n) (h:Best L d root i L.length b):IsPar L d n i b:=by
  have ab:∀ e∈L,∀ f,gd d root i e f→∃ k:Nat,f=(k:Int)∧k<n∧good L d i k:=fun e he f hg=>by
    obtain ⟨g1,g2,g3,g4,g5⟩:=hg
    have hok:=okE_iff.1 (hF.ok e he)
    have hrange:0≤f∧f<n:=by
      rcases jn_iff.1 g1 with ⟨a1,a2⟩ | ⟨a1,a2⟩<;>omega
    refine ⟨f.toNat,by omega,by omega,?_⟩
    have ef:((f.toNat:Nat):Int)=f:=by omega
    have:=cst_mem hF he (x:=f) (y:=i) (by rw [jn_comm];exact g1)
    unfold good
    rw [ef,this]
    exact ⟨by omega,g5⟩
  have ba:∀ k,k<n→good L d i k→∃ e∈L,gd d root i e (k:Int):=fun k hk hg=>by
    obtain ⟨f1,f2,f3⟩:=good_facts hD hr hi hk hg
    obtain ⟨g1,g2⟩:=hg
    rcases cst_cases L k i with ⟨q,_⟩ | ⟨e,he,q1,q2⟩
    · omega
    · exact ⟨e,he,by rw [jn_comm];exact q1,f1,f2,by simpa using f3,by rw [Int.toNat_natCast,← q2];exact g2⟩
  unfold Best at h
  rw [List.take_length] at h
  rcases h with ⟨h1,h2⟩ | ⟨h1,⟨e0,he0,h2⟩,h3⟩
  · refine .inl ⟨h1,fun f hf hg=>?_⟩
    obtain ⟨e,he,q⟩:=ba f hf hg
    exact h2 e he _ q
  · obtain ⟨k,e,hk,hg⟩:=ab e0 he0 b h2
    refine .inr ⟨k,e,hk,hg,fun f hf hgf=>?_⟩
    obtain ⟨e1,he1,q⟩:=ba f (by omega) hgf
    have:=h3 e1 he1 _ q
    omega
end Go.Proofs.YtlppdppddiecnaaGreatDoor.TM
namespace Go.Proofs.YtlppdppddiecnaaGreatDoor.RTree
open Go.ChangeShapes Go.WideShapes Go.ChangeAt Go.RowKit Go.Proofs.YtlppdppddiecnaaGreatDoor.Mem Go.Proofs.YtlppdppddiecnaaGreatDoor.TM Go.Proofs.YtlppdppddiecnaaGreatDoor.Tree
set_option linter.unusedVariables false

set_option maxHeartbeats 8000000 in
set_option maxRecDepth 100000 in
theorem redges_calls (N:Int) (a:Option Addr) (n cap:Nat) (L:List Ed) (w:World) (h:EArg w a n L) :
    Calls Tryz.prog 36 #[.int .i64 N,.slice a n cap] w fun e w'=>e=.returned (.int .i64 (ef N L:Int))∧Below w.heap.size w w':=by
  have hl:=h.2.1
  have hn:=h.2.2
  have HA:=hidden h
  clear h
  by_cases h0:N<1
  · have HE:Hid (ef N L=1):=by unfold Hid ef;rw [if_pos (by omega)]
    generalize ef N L=f at *
    have d:decide (N<1)=true:=by simpa using h0
    go_enter Tryz.func36,Tryz.ntmps36
    go_wp2_with fail
    go_ret
    exact ⟨by rw [HE.out];rfl,Below.refl _ _⟩
  have d0:decide (N<1)=false:=by simpa using h0
  by_cases h00:16<N
  · have HE:Hid (ef N L=1):=by unfold Hid ef;rw [if_pos (by omega)]
    generalize ef N L=f at *
    have d:decide (16<N)=true:=by simpa using h00
    go_enter Tryz.func36,Tryz.ntmps36
    go_wp2_with fail
    go_ret
    exact ⟨by rw [HE.out];rfl,Below.refl _ _⟩
  have d00:decide (16<N)=false:=by simpa using h00
  by_cases h16:200<n
  · have HE:Hid (ef N L=4):=by unfold Hid ef;rw [if_neg (by omega),if_pos (by omega)]
    generalize ef N L=f at *
    have d:decide (200<(n:Int))=true:=by simp;omega
    go_enter Tryz.func36,Tryz.ntmps36
    go_wp2_with fail
    go_ret
    exact ⟨by rw [HE.out];rfl,Below.refl _ _⟩
  · have HE:Hid (ck N (L.take 0) (L.drop 0)=ef N L):=by unfold Hid ef;rw [if_neg (by omega),if_neg (by omega),List.drop_zero,List.take_zero]
    generalize ef N L=f at *
    have d:decide (200<(n:Int))=false:=by simp;omega
    go_enter Tryz.func36,Tryz.ntmps36
    go_wp2_with fail
    go_loopg [5] n (fun g v wr=>∃ j:Nat,j+g=n∧v=.int .i64 (j:Int)∧Hid (ck N (L.take j) (L.drop j)=f)∧Hid (Below w.heap.size w wr))
    case atStart=>exact ⟨0,by omega,rfl,HE,Below.refl _ _⟩
    case round=>
      obtain ⟨j,hjg,rfl,HK,HW⟩:=hrel
      by_cases hj:j<n
      · have hjz:(j:Int)<(n:Int):=by omega
        obtain ⟨b,o,rfl,hbl,hcs⟩:=(HA.out.below HW.out).at (by omega)
        obtain ⟨c0,c1,c2⟩:=hcs j hj
        have hk:=HK.out
        have hts:=take_succ (L:=L) (j:=j) (by omega)
        rw [drop_cons (by omega),ck] at hk
        obtain ⟨m,hm⟩:∃ m,L.getD j zz=m:=⟨_,rfl⟩
        rw [hm] at c0 c1 c2 hk hts
        have HTS:=hidden hts
        clear hm hcs HK hts
        obtain ⟨x,y,u⟩:=m
        simp only at c0 c1 c2
        obtain ⟨w3,hw3⟩:∃ w3,wr.alloc (.cells #[.int .i64 x,.int .i64 y,.int .i64 u] 92)=w3:=⟨_,rfl⟩
        have HB3:Hid (Below w.heap.size w w3):=by rw [← hw3];exact hidden (below_alloc HW.out _)
        have HX3:Hid (EBox w3 wr.heap.size ⟨x,y,u⟩):=by rw [← hw3];exact hidden (EBox.new wr ⟨x,y,u⟩)
        have HW3:=hidden hw3
        clear hw3
        go_upto_region 9 with fail
        rw [HW3.out]
        clear HW3 c0 c1 c2
        obtain ⟨x0,x1,x2⟩:=HX3.out.cells
        simp only at x0 x1 x2
        by_cases g1:x<0
        · have eg1:(decide (x<0))=true:=by simpa using g1
          rw [if_pos (show okE N ⟨x,y,u⟩=false from decide_eq_false (by simp only;omega))] at hk
          have HK:=hidden hk
          clear hk
          go_wp2_with fail
          go_ret
          exact ⟨by rw [← HK.out];rfl,HB3.out⟩
        · have eg1:(decide (x<0))=false:=by simpa using g1
          by_cases g2:N≤x
          · have eg2:(decide (N≤x))=true:=by simpa using g2
            rw [if_pos (show okE N ⟨x,y,u⟩=false from decide_eq_false (by simp only;omega))] at hk
            have HK:=hidden hk
            clear hk
            go_wp2_with fail
            go_ret
            exact ⟨by rw [← HK.out];rfl,HB3.out⟩
          · have eg2:(decide (N≤x))=false:=by simpa using g2
            by_cases g3:y<0
            · have eg3:(decide (y<0))=true:=by simpa using g3
              rw [if_pos (show okE N ⟨x,y,u⟩=false from decide_eq_false (by simp only;omega))] at hk
              have HK:=hidden hk
              clear hk
              go_wp2_with fail
              go_ret
              exact ⟨by rw [← HK.out];rfl,HB3.out⟩
            · have eg3:(decide (y<0))=false:=by simpa using g3
              by_cases g4:N≤y
              · have eg4:(decide (N≤y))=true:=by simpa using g4
                rw [if_pos (show okE N ⟨x,y,u⟩=false from decide_eq_false (by simp only;omega))] at hk
                have HK:=hidden hk
                clear hk
                go_wp2_with fail
                go_ret
                exact ⟨by rw [← HK.out];rfl,HB3.out⟩
              · have eg4:(decide (N≤y))=false:=by simpa using g4
                by_cases g5:x=y
                · have eg5:(x==y)=true:=by simpa using g5
                  subst g5
                  rw [if_pos (show okE N ⟨x,x,u⟩=false from decide_eq_false (by simp only;omega))] at hk
                  have HK:=hidden hk
                  clear hk
                  go_wp2_with fail
                  go_ret
                  exact ⟨by rw [← HK.out];rfl,HB3.out⟩
                · have eg5:(x==y)=false:=by simpa using g5
                  by_cases g6:u<1
                  · have eg6:(decide (u<1))=true:=by simpa using g6
                    rw [if_pos (show okE N ⟨x,y,u⟩=false from decide_eq_false (by simp only;omega))] at hk
                    have HK:=hidden hk
                    clear hk
                    go_wp2_with fail
                    go_ret
                    exact ⟨by rw [← HK.out];rfl,HB3.out⟩
                  · have eg6:(decide (u<1))=false:=by simpa using g6
                    by_cases g7:1000000<u
                    · have eg7:(decide (1000000<u))=true:=by simpa using g7
                      rw [if_pos (show okE N ⟨x,y,u⟩=false from decide_eq_false (by simp only;omega))] at hk
                      have HK:=hidden hk
                      clear hk
                      go_wp2_with fail
                      go_ret
                      exact ⟨by rw [← HK.out];rfl,HB3.out⟩
                    · have eg7:(decide (1000000<u))=false:=by simpa using g7
                      rw [if_neg (by rw [show okE N ⟨x,y,u⟩=true from decide_eq_true (by simp only;omega)];simp)] at hk
                      have HK:=hidden hk
                      have HT0:Hid ((L.take 0).any (fun f=>two f ⟨x,y,u⟩)=false):=hidden rfl
                      clear hk g1 g2 g3 g4 g5 g6 g7
                      obtain ⟨B,hBe⟩:∃ B,wr.heap.size=B:=⟨_,rfl⟩
                      rw [hBe] at HX3
                      have HBE:=hidden hBe
                      rw [hBe]
                      rw [hBe] at x0 x1 x2
                      clear hBe
                      go_wp2_with fail
                      clear x0 x1 x2
                      go_loopg [7] j (fun g v wq=>∃ k:Nat,k+g=j∧v=.int .i64 (k:Int)∧Hid ((L.take k).any (fun f=>two f ⟨x,y,u⟩)=false)∧Hid (Below w.heap.size w wq)∧Hid (EBox wq B ⟨x,y,u⟩))
                      case atStart=>exact ⟨0,by omega,rfl,HT0,HB3,HX3⟩
                      case round=>
                        obtain ⟨k,hkg,rfl,HT,HB4,HX4⟩:=hrel
                        by_cases hk:k<j
                        · have hkz:(k:Int)<(j:Int):=by omega
                          have hkn:(k:Int)<(n:Int):=by omega
                          obtain ⟨b',o',eb,_,hcs⟩:=(HA.out.below HB4.out).at (by omega)
                          simp only [Option.some.injEq,Addr.mk.injEq] at eb
                          obtain ⟨rfl,rfl,_⟩:=eb
                          obtain ⟨c0,c1,c2⟩:=hcs k (by omega)
                          have htk:(L.take (k+1)).any (fun f=>two f ⟨x,y,u⟩)=two (L.getD k zz) ⟨x,y,u⟩:=by
                            rw [take_succ (by omega),List.any_append,HT.out];simp
                          have HMK:Hid (two (L.getD k zz) ⟨x,y,u⟩=true→(L.take j).any (fun f=>two f ⟨x,y,u⟩)=true):=fun q=>by
                            rw [List.any_eq_true]
                            refine ⟨L.getD k zz,?_,q⟩
                            have hkl:k<(L.take j).length:=by rw [List.length_take];omega
                            have e:L.getD k zz=(L.take j)[k]:=by
                              rw [List.getElem_take,List.getD_eq_getElem?_getD,List.getElem?_eq_getElem (by omega)];rfl
                            rw [e];exact List.getElem_mem _
                          obtain ⟨m,hm⟩:∃ m,L.getD k zz=m:=⟨_,rfl⟩
                          rw [hm] at c0 c1 c2 htk HMK
                          clear hcs hm
                          obtain ⟨xa,xb,xc⟩:=m
                          simp only at c0 c1 c2
                          obtain ⟨w5,hw5⟩:∃ w5,wr.alloc (.cells #[.int .i64 xa,.int .i64 xb,.int .i64 xc] 92)=w5:=⟨_,rfl⟩
                          have HB5:Hid (Below w.heap.size w w5):=by rw [← hw5];exact hidden (below_alloc HB4.out _)
                          have HX5:Hid (EBox w5 B ⟨x,y,u⟩):=by rw [← hw5];exact hidden (HX4.out.alloc _)
                          have HY5:Hid (EBox w5 wr.heap.size ⟨xa,xb,xc⟩):=by rw [← hw5];exact hidden (EBox.new wr ⟨xa,xb,xc⟩)
                          have HW5:=hidden hw5
                          clear hw5
                          go_upto_region 15 with fail
                          rw [HW5.out]
                          clear HW5 c0 c1 c2
                          obtain ⟨x0,x1,x2⟩:=HX5.out.cells
                          obtain ⟨y0,y1,y2⟩:=HY5.out.cells
                          simp only at x0 x1 x2 y0 y1 y2
                          by_cases k1:xa=x
                          · have ek1:(xa==x)=true:=by simpa using k1
                            by_cases k2:xb=y
                            · have ek2:(xb==y)=true:=by simpa using k2
                              have ht:two ⟨xa,xb,xc⟩ ⟨x,y,u⟩=true:=by rw [two_iff];exact .inl ⟨k1,k2⟩
                              have hk7:=HK.out
                              rw [HMK.out ht,if_pos rfl] at hk7
                              have HK7:=hidden hk7
                              clear hk7 ht htk k1 k2
                              go_wp2_with fail
                              go_ret
                              exact ⟨by rw [← HK7.out];rfl,HB5.out⟩
                            · have ek2:(xb==y)=false:=by simpa using k2
                              by_cases k3:xa=y
                              · have ek3:(xa==y)=true:=by simpa using k3
                                by_cases k4:xb=x
                                · have ek4:(xb==x)=true:=by simpa using k4
                                  have ht:two ⟨xa,xb,xc⟩ ⟨x,y,u⟩=true:=by rw [two_iff];exact .inr ⟨k3,k4⟩
                                  have hk7:=HK.out
                                  rw [HMK.out ht,if_pos rfl] at hk7
                                  have HK7:=hidden hk7
                                  clear hk7 ht htk k1 k2 k3 k4
                                  go_wp2_with fail
                                  go_ret
                                  exact ⟨by rw [← HK7.out];rfl,HB5.out⟩
                                · have ek4:(xb==x)=false:=by simpa using k4
                                  have ht:two ⟨xa,xb,xc⟩ ⟨x,y,u⟩=false:=by rw [← Bool.not_eq_true,two_iff];rintro (⟨q1,q2⟩ | ⟨q1,q2⟩);(· exact k2 q2);(· exact k4 q2)
                                  rw [ht] at htk
                                  have HT1:=hidden htk
                                  clear ht htk k1 k2 k3 k4
                                  go_wp2_with fail
                                  go_roundg (j - (k+1))
                                  case measure=>omega
                                  case rel=>exact ⟨k+1,by omega,by go_num,HT1,HB5,HX5⟩
                              · have ek3:(xa==y)=false:=by simpa using k3
                                have ht:two ⟨xa,xb,xc⟩ ⟨x,y,u⟩=false:=by rw [← Bool.not_eq_true,two_iff];rintro (⟨q1,q2⟩ | ⟨q1,q2⟩);(· exact k2 q2);(· exact k3 q1)
                                rw [ht] at htk
                                have HT1:=hidden htk
                                clear ht htk k1 k2 k3
                                go_wp2_with fail
                                go_roundg (j - (k+1))
                                case measure=>omega
                                case rel=>exact ⟨k+1,by omega,by go_num,HT1,HB5,HX5⟩
                          · have ek1:(xa==x)=false:=by simpa using k1
                            by_cases k3:xa=y
                            · have ek3:(xa==y)=true:=by simpa using k3
                              by_cases k4:xb=x
                              · have ek4:(xb==x)=true:=by simpa using k4
                                have ht:two ⟨xa,xb,xc⟩ ⟨x,y,u⟩=true:=by rw [two_iff];exact .inr ⟨k3,k4⟩
                                have hk7:=HK.out
                                rw [HMK.out ht,if_pos rfl] at hk7
                                have HK7:=hidden hk7
                                clear hk7 ht htk k1 k3 k4
                                go_wp2_with fail
                                go_ret
                                exact ⟨by rw [← HK7.out];rfl,HB5.out⟩
                              · have ek4:(xb==x)=false:=by simpa using k4
                                have ht:two ⟨xa,xb,xc⟩ ⟨x,y,u⟩=false:=by rw [← Bool.not_eq_true,two_iff];rintro (⟨q1,q2⟩ | ⟨q1,q2⟩);(· exact k1 q1);(· exact k4 q2)
                                rw [ht] at htk
                                have HT1:=hidden htk
                                clear ht htk k1 k3 k4
                                go_wp2_with fail
                                go_roundg (j - (k+1))
                                case measure=>omega
                                case rel=>exact ⟨k+1,by omega,by go_num,HT1,HB5,HX5⟩
                            · have ek3:(xa==y)=false:=by simpa using k3
                              have ht:two ⟨xa,xb,xc⟩ ⟨x,y,u⟩=false:=by rw [← Bool.not_eq_true,two_iff];rintro (⟨q1,q2⟩ | ⟨q1,q2⟩);(· exact k1 q1);(· exact k3 q1)
                              rw [ht] at htk
                              have HT1:=hidden htk
                              clear ht htk k1 k3
                              go_wp2_with fail
                              go_roundg (j - (k+1))
                              case measure=>omega
                              case rel=>exact ⟨k+1,by omega,by go_num,HT1,HB5,HX5⟩
                        · have hkz:¬ (k:Int)<(j:Int):=by omega
                          obtain rfl:j=k:=by omega
                          have hk2:=HK.out
                          rw [HT.out,if_neg (by simp),← HTS.out] at hk2
                          have HK1:=hidden hk2
                          clear hk2
                          go_wp2_with fail
                          go_roundg (n - (j+1))
                          case measure=>omega
                          case rel=>exact ⟨j+1,by omega,by go_num,HK1,HB4⟩
      · have hjz:¬ (j:Int)<(n:Int):=by omega
        have hk:=HK.out
        rw [List.drop_eq_nil_of_le (by omega),ck] at hk
        have HK:=hidden hk
        clear hk
        go_wp2_with fail
        go_ret
        exact ⟨by rw [← HK.out];rfl,HW.out⟩

structure DSt (w wr:World) (gd cd m:Nat) (d:List Int):Prop where
  bel:Below w.heap.size w wr
  own:wr.ownsRow w.heap.size 3 1 (.slice (some ⟨gd,0,none⟩) m cd) m (ic d)
theorem DSt.drewN {w wr:World} {gd cd m:Nat} {d:List Int} (h:DSt w wr gd cd m d) (q:Nat):DSt w (wr.drewN q) gd cd m d:=⟨below_drewN' h.bel q,h.own⟩
theorem DSt.store {w wr:World} {gd cd m:Nat} {d:List Int} (h:DSt w wr gd cd m d) (j:Nat) (v:Int):DSt w (wr.setCell ⟨gd,j,none⟩ (.int .i64 v)).drew gd cd m (d.set j v):=
  ⟨(h.bel.setCell (own_block h.own).1 _).drew,(own_set h.own j v).drew⟩
theorem DSt.box {w wr:World} {gd cd m:Nat} {d:List Int} (h:DSt w wr gd cd m d) {B:Nat} {e:Ed} (hb:EBox wr B e) (j:Nat) (v:Int):EBox (wr.setCell ⟨gd,j,none⟩ (.int .i64 v)).drew B e:=by
  have o:Only [gd] wr (wr.setCell ⟨gd,j,none⟩ (.int .i64 v)).drew:=((Only.refl _ _).setCell (by simp) _).drew
  refine o.block hb ?_
  obtain ⟨_,cur,h1⟩:=own_block h.own
  simp
  rintro rfl
  unfold EBox at hb
  rw [h1] at hb;simp at hb
theorem DSt.alloc {w wr:World} {gd cd m:Nat} {d:List Int} (h:DSt w wr gd cd m d) (O:Obj):DSt w (wr.alloc O) gd cd m d:=⟨below_alloc h.bel O,h.own.alloc O⟩
set_option maxHeartbeats 16000000 in
set_option maxRecDepth 100000 in
theorem rdist_calls (a:Option Addr) (n cap:Nat) (L:List Ed) (m root:Nat) (w:World) (h:EArg w a n L) (hF:Fit m L) (hr:root<m) :
    Calls Tryz.prog 37 #[.int .i64 (m:Int),.slice a n cap,.int .i64 (root:Int)] w fun e w'=>∃ gd cd d,e=.returned (.slice (some ⟨gd,0,none⟩) m cd)∧DSt w w' gd cd m d∧IsDist L m root d∧∀ x,dg d x≤17000000000:=by
  have hl:=h.2.1
  have hn:=h.2.2
  have HA:=hidden h
  have HF:=hidden hF
  have hm16:=hF.hi
  have hn200:n≤200:=by have:=hF.len;omega
  clear h hF
  obtain ⟨D,hD⟩:=isDist_exists L m root
  have HD:=hidden hD
  clear hD
  obtain ⟨i0,hii,hz0,hz1,hz2⟩:=info_parts info3
  have HN0:Hid (NSt w w (List.replicate 0 (-1)) (.slice none 0 0)):=⟨Below.refl _ _,World.ownsRow_nil _ _ _ _⟩
  go_enter Tryz.func37,Tryz.ntmps37
  go_wp2_with fail
  go_loopg [7,8] m (fun g u y wr=>∃ (i:Nat) (v:Value),i+g=m∧v=u∧y=.int .i64 (i:Int)∧Hid (NSt w wr (List.replicate i (-1)) v))
  case atStart=>exact ⟨0,_,by omega,rfl,rfl,HN0⟩
  case round=>
    obtain ⟨i,v,hig,rfl,rfl,HS⟩:=hrel
    by_cases hi:i<m
    · have hiz:(i:Int)<(m:Int):=by omega
      go_wp2_with (at_builtin;refine wpList_append_own _ rfl _ _ 47 rfl w.heap.size 3 i0 _ 1 8 Tryz.underlying47 hii hz0 hz1 hz2 rfl (by decide) _ i (ic (List.replicate i (-1))) rfl ?own ⟨wr.heap.size,0,none⟩ 1 1 [.int .i64 (-1)] rfl rfl ?cc ?one ?b1 ?b2 ?b3 ?next)
      case own=>have:=HS.out.own;rw [List.length_replicate] at this;exact this.alloc _
      case cc=>exact lit1 _
      case one=>simp [Value.oneCell']
      case b1=>unfold maxLen;omega
      case b2=>omega
      case b3=>have:=HS.out.below.size;simp;omega
      case next=>
      intro v3 w' hown hgrow _
      have HSn:Hid (NSt w w' (List.replicate (i+1) (-1)) v3):=by
        have hs:=HS.out.below.size
        refine ⟨(HS.out.below.alloc hs _).grown hgrow (by simp;omega) (fun j hj=>(HS.out.own.lt j hj).1),?_⟩
        rw [List.length_replicate,← List.replicate_append_replicate (m:=1),ic_app]
        exact hown
      clear hown hgrow
      go_wp2_with fail
      go_roundg (m - (i+1))
      case measure=>omega
      case rel=>exact ⟨i+1,v3,by omega,rfl,by go_num,HSn⟩
    · have hiz:¬ (i:Int)<(m:Int):=by omega
      obtain rfl:m=i:=by omega
      have ho:=HS.out.own
      rw [List.length_replicate] at ho
      obtain ⟨gd,cd,rfl⟩:∃ gd cd,v=.slice (some ⟨gd,0,none⟩) m cd:=by
        rcases ho.2 with ⟨_,h⟩ | ⟨g',c',_,h,_⟩
        · omega
        · exact ⟨g',c',h⟩
      have c0:=own_dg ho (j:=root) hr
      have f0:=ho.frozenAt root
      have hrz:(root:Int)<(m:Int):=by omega
      obtain ⟨w1,hw1⟩:∃ w1,wr.setCell ⟨gd,root,none⟩ (.int .i64 0)=w1:=⟨_,rfl⟩
      have HS1:Hid (DSt w w1 gd cd m ((List.replicate m (-1)).set root 0)):=by
        rw [← hw1]
        exact hidden ⟨HS.out.below.setCell (own_block ho).1 _,own_set ho root 0⟩
      have HW1:=hidden hw1
      have HB1:Hid (BInv L m root ((List.replicate m (-1)).set root 0) (1000000000*((0:Nat):Int))):=binv_start L hr
      clear hw1 ho HN0 HS
      go_upto_region 7 with fail
      rw [HW1.out]
      clear HW1 c0 f0
      go_wp2_with fail
      go_loopg [9] m (fun g v wr=>∃ (r:Nat) (d:List Int),r+g=m∧v=.int .i64 (r:Int)∧Hid (DSt w wr gd cd m d)∧Hid (BInv L m root d (1000000000*(r:Int)))∧Hid (r≤cn (nr D d) m))
      case atStart=>exact ⟨0,_,by omega,rfl,HS1,HB1,Nat.zero_le _⟩
      case round=>
        obtain ⟨r,d0,hrg,rfl,HS,HB0,HC0⟩:=hrel
        clear HS1 HB1
        by_cases hrm:r<m
        · have hrmz:(r:Int)<(m:Int):=by omega
          have HR0:Hid (RInv L m root D d0 d0 0 (1000000000*(r:Int)+2000000*((0:Nat):Int))):=by
            have:=rinv_start (D:=D) HB0.out
            rw [show 1000000000*(r:Int)+2000000*((0:Nat):Int)=1000000000*(r:Int) by omega]
            exact this
          go_wp2_with fail
          go_loopg [10] n (fun g v wr=>∃ (j:Nat) (d:List Int),j+g=n∧v=.int .i64 (j:Int)∧Hid (DSt w wr gd cd m d)∧Hid (RInv L m root D d0 d j (1000000000*(r:Int)+2000000*(j:Int))))
          case atStart=>exact ⟨0,d0,by omega,rfl,HS,HR0⟩
          case round=>
            obtain ⟨j,d,hjg,rfl,HS,HR⟩:=hrel
            clear HR0
            by_cases hj:j<n
            · have hjz:(j:Int)<(n:Int):=by omega
              obtain ⟨b,o,rfl,hbl,hcs⟩:=(HA.out.below HS.out.bel).at (by omega)
              obtain ⟨c0,c1,c2⟩:=hcs j hj
              have hok:=okE_iff.1 (HF.out.ok _ (getD_mem (L:=L) (j:=j) (by omega)))
              obtain ⟨me,hme⟩:∃ me,L.getD j zz=me:=⟨_,rfl⟩
              rw [hme] at c0 c1 c2 hok
              obtain ⟨xa,xb,c⟩:=me
              simp only at c0 c1 c2 hok
              obtain ⟨p,rfl⟩:∃ p:Nat,xa=(p:Int):=⟨xa.toNat,by omega⟩
              obtain ⟨q,rfl⟩:∃ q:Nat,xb=(q:Int):=⟨xb.toNat,by omega⟩
              have HM:=hidden hme
              have hp:p<m:=by omega
              have hq:q<m:=by omega
              have hpz:(p:Int)<(m:Int):=by omega
              have hqz:(q:Int)<(m:Int):=by omega
              have hc1:1≤c:=by omega
              have hc2:c≤1000000:=by omega
              clear hme hok hcs
              obtain ⟨B,hB⟩:∃ B,wr.heap.size=B:=⟨_,rfl⟩
              obtain ⟨w3,hw3⟩:∃ w3,wr.alloc (.cells #[.int .i64 (p:Int),.int .i64 (q:Int),.int .i64 c] 92)=w3:=⟨_,rfl⟩
              have HSw3:Hid (DSt w w3 gd cd m d):=by rw [← hw3];exact hidden (HS.out.alloc _)
              have HXw3:Hid (EBox w3 B ⟨p,q,c⟩):=by rw [← hw3,← hB];exact hidden (EBox.new wr ⟨p,q,c⟩)
              have HW3:=hidden hw3
              have HBB:=hidden hB
              have HId:=hidden HR.out.inv
              clear hw3 hB HS
              go_upto_region 14 with fail
              rw [HW3.out,HBB.out]
              clear HW3 HBB c0 c1 c2
              obtain ⟨x0,x1,x2⟩:=HXw3.out.cells
              simp only at x0 x1 x2
              have yp:=own_dg HSw3.out.own (j:=p) hp
              have yq:=own_dg HSw3.out.own (j:=q) hq
              have bp:=HId.out.bd p hp
              have lp:dg d p=-1∨0≤dg d p:=HId.out.low hp
              have hwr:IntKind.i64.wrap (dg d p+c)=dg d p+c:=wrap_id (by omega) (by omega)
              have HRX:Hid (rx d p q c=if 0≤dg d p∧(dg d q<0∨dg d p+c<dg d q) then d.set q (dg d p+c) else d):=hidden rfl
              obtain ⟨va,hva⟩:∃ z,dg d p=z:=⟨_,rfl⟩
              obtain ⟨vb,hvb⟩:∃ z,dg d q=z:=⟨_,rfl⟩
              rw [hva] at yp bp lp hwr HRX
              rw [hvb] at yq HRX
              have HVA:=hidden hva
              clear hva hvb bp lp
              obtain ⟨tb,htb⟩:∃ z,decide (0≤va∧(vb<0∨va+c<vb))=z:=⟨_,rfl⟩
              have HTB:=hidden htb
              clear htb
              go_cut [67] from 38 to 67 (fun s wx=>s=.bool tb∧Hid (∃ q,wx=w3.drewN q))
              case first=>
                by_cases g1:0≤va
                · have eg1:(decide (0≤va))=true:=by simpa using g1
                  by_cases g2:vb<0
                  · have eg2:(decide (vb<0))=true:=by simpa using g2
                    go_quiet (fail)
                    go_wp2_with fail
                    go_meet
                    exact ⟨congrArg Value.bool ((decide_eq_true ⟨g1,.inl g2⟩).symm.trans HTB.out),_,rfl⟩
                  · have eg2:(decide (vb<0))=false:=by simpa using g2
                    by_cases g3:va+c<vb
                    · have eg3:(decide (va+c<vb))=true:=by simpa using g3
                      go_quiet (fail)
                      go_wp2_with fail
                      go_meet
                      exact ⟨congrArg Value.bool ((decide_eq_true ⟨g1,.inr g3⟩).symm.trans HTB.out),_,rfl⟩
                    · have eg3:(decide (va+c<vb))=false:=by simpa using g3
                      go_quiet (fail)
                      go_wp2_with fail
                      go_meet
                      exact ⟨congrArg Value.bool ((decide_eq_false (by omega)).symm.trans HTB.out),_,rfl⟩
                · have eg1:(decide (0≤va))=false:=by simpa using g1
                  go_quiet (fail)
                  go_wp2_with fail
                  go_meet
                  exact ⟨congrArg Value.bool ((decide_eq_false (by omega)).symm.trans HTB.out),_,rfl⟩
              case rest=>
              obtain ⟨rfl,hwc⟩:=hcut
              obtain ⟨wm,hwm⟩:∃ z,z=wc:=⟨_,rfl⟩
              subst hwm
              have HSm:Hid (DSt w wm gd cd m d):=by obtain ⟨q,rfl⟩:=hwc.out;exact hidden (HSw3.out.drewN _)
              have HXm:Hid (EBox wm B ⟨p,q,c⟩):=by obtain ⟨q,rfl⟩:=hwc.out;exact hidden HXw3.out
              clear hwc yp yq x0 x1 x2 HSw3 HXw3
              go_upto_if 67 with fail
              go_cut [] from 68 to 79 (fun wx=>Hid (DSt w wx gd cd m (rx d p q c))∧Hid (EBox wx B ⟨p,q,c⟩))
              case first=>
                cases tb with
                | true=>
                  have hrx:=HRX.out
                  rw [if_pos (of_decide_eq_true HTB.out)] at hrx
                  have HRX2:=hidden hrx
                  obtain ⟨x0,x1,x2⟩:=HXm.out.cells
                  simp only at x0 x1 x2
                  have yp:=own_dg HSm.out.own (j:=p) hp
                  have yq:=own_dg HSm.out.own (j:=q) hq
                  have fq:=HSm.out.own.frozenAt q
                  rw [HVA.out] at yp
                  clear hrx
                  go_wp2_with fail
                  go_region
                  go_wp2_with fail
                  go_meet
                  exact ⟨by rw [HRX2.out];exact hidden (HSm.out.store q (va+c)),hidden (HSm.out.box HXm.out q (va+c))⟩
                | false=>
                  have hrx:=HRX.out
                  rw [if_neg (of_decide_eq_false HTB.out)] at hrx
                  have HRX2:=hidden hrx
                  clear hrx
                  go_wp2_with fail
                  go_meet
                  exact ⟨by rw [HRX2.out];exact HSm,HXm⟩
              case rest=>
              obtain ⟨HSw5,HXw5⟩:=hcut
              obtain ⟨w5,hwo⟩:∃ z,z=wc:=⟨_,rfl⟩
              subst hwo
              obtain ⟨d1,hdn⟩:∃ z,rx d p q c=z:=⟨_,rfl⟩
              rw [hdn] at HSw5
              have HRu:=hidden hdn
              clear hdn hwr HRX HVA HTB HSm HXm
              have HId1:Hid (BInv L m root d1 (1000000000*(r:Int)+2000000*(j:Int)+1000000)):=by
                have hme:=getD_mem (L:=L) (j:=j) (by omega)
                rw [HM.out] at hme
                have:=(rx_is (c:=c) HF.out.ok HR.out.inv hp hq hr (by omega) (cst_mem HF.out hme (jn_iff.2 (.inl ⟨rfl,rfl⟩))) (by omega)).inv
                rw [HRu.out] at this
                exact this
              go_upto_region 16 with fail
              obtain ⟨x0,x1,x2⟩:=HXw5.out.cells
              simp only at x0 x1 x2
              have yp:=own_dg HSw5.out.own (j:=q) hq
              have yq:=own_dg HSw5.out.own (j:=p) hp
              have bp:=HId1.out.bd q hq
              have lp:dg d1 q=-1∨0≤dg d1 q:=HId1.out.low hq
              have hwr:IntKind.i64.wrap (dg d1 q+c)=dg d1 q+c:=wrap_id (by omega) (by omega)
              have HRX:Hid (rx d1 q p c=if 0≤dg d1 q∧(dg d1 p<0∨dg d1 q+c<dg d1 p) then d1.set p (dg d1 q+c) else d1):=hidden rfl
              obtain ⟨va,hva⟩:∃ z,dg d1 q=z:=⟨_,rfl⟩
              obtain ⟨vb,hvb⟩:∃ z,dg d1 p=z:=⟨_,rfl⟩
              rw [hva] at yp bp lp hwr HRX
              rw [hvb] at yq HRX
              have HVA:=hidden hva
              clear hva hvb bp lp
              obtain ⟨tb,htb⟩:∃ z,decide (0≤va∧(vb<0∨va+c<vb))=z:=⟨_,rfl⟩
              have HTB:=hidden htb
              clear htb
              go_cut [109] from 80 to 109 (fun s wx=>s=.bool tb∧Hid (∃ q,wx=w5.drewN q))
              case first=>
                by_cases g1:0≤va
                · have eg1:(decide (0≤va))=true:=by simpa using g1
                  by_cases g2:vb<0
                  · have eg2:(decide (vb<0))=true:=by simpa using g2
                    go_quiet (fail)
                    go_wp2_with fail
                    go_meet
                    exact ⟨congrArg Value.bool ((decide_eq_true ⟨g1,.inl g2⟩).symm.trans HTB.out),_,rfl⟩
                  · have eg2:(decide (vb<0))=false:=by simpa using g2
                    by_cases g3:va+c<vb
                    · have eg3:(decide (va+c<vb))=true:=by simpa using g3
                      go_quiet (fail)
                      go_wp2_with fail
                      go_meet
                      exact ⟨congrArg Value.bool ((decide_eq_true ⟨g1,.inr g3⟩).symm.trans HTB.out),_,rfl⟩
                    · have eg3:(decide (va+c<vb))=false:=by simpa using g3
                      go_quiet (fail)
                      go_wp2_with fail
                      go_meet
                      exact ⟨congrArg Value.bool ((decide_eq_false (by omega)).symm.trans HTB.out),_,rfl⟩
                · have eg1:(decide (0≤va))=false:=by simpa using g1
                  go_quiet (fail)
                  go_wp2_with fail
                  go_meet
                  exact ⟨congrArg Value.bool ((decide_eq_false (by omega)).symm.trans HTB.out),_,rfl⟩
              case rest=>
              obtain ⟨rfl,hwc⟩:=hcut
              obtain ⟨wm,hwm⟩:∃ z,z=wc:=⟨_,rfl⟩
              subst hwm
              have HSm:Hid (DSt w wm gd cd m d1):=by obtain ⟨q,rfl⟩:=hwc.out;exact hidden (HSw5.out.drewN _)
              have HXm:Hid (EBox wm B ⟨p,q,c⟩):=by obtain ⟨q,rfl⟩:=hwc.out;exact hidden HXw5.out
              clear hwc yp yq x0 x1 x2 HSw5 HXw5
              cases tb with
              | true=>
                have hrx:=HRX.out
                rw [if_pos (of_decide_eq_true HTB.out)] at hrx
                have HRv:=hidden hrx
                obtain ⟨x0,x1,x2⟩:=HXm.out.cells
                simp only at x0 x1 x2
                have yp:=own_dg HSm.out.own (j:=q) hq
                have yq:=own_dg HSm.out.own (j:=p) hp
                have fq:=HSm.out.own.frozenAt p
                rw [HVA.out] at yp
                clear hrx
                go_wp2_with fail
                go_region
                have HSw7:=hidden (HSm.out.store p (va+c))
                obtain ⟨d2,hdn⟩:∃ z,d1.set p (va+c)=z:=⟨_,rfl⟩
                rw [hdn] at HSw7 HRv
                clear hdn
                have HJ:Hid (RInv L m root D d0 d2 (j+1) (1000000000*(r:Int)+2000000*((j+1:Nat):Int))):=by
                  have:=rinv_step HF.out HD.out hr (by omega) HR.out (by omega) HM.out hp hq
                  rw [HRu.out,HRv.out] at this
                  rw [show (1000000000*(r:Int)+2000000*((j+1:Nat):Int))=1000000000*(r:Int)+2000000*(j:Int)+2000000 by omega]
                  exact this
                go_wp2_with fail
                go_roundg (n - (j+1))
                case measure=>omega
                case rel=>exact ⟨j+1,d2,by omega,by go_num,HSw7,HJ⟩
              | false=>
                have hrx:=HRX.out
                rw [if_neg (of_decide_eq_false HTB.out)] at hrx
                have HRv:=hidden hrx
                clear hrx
                have HSw7:=HSm
                obtain ⟨d2,hdn⟩:∃ z,d1=z:=⟨_,rfl⟩
                have HRv:Hid (rx d1 q p c=d2):=HRv.out.trans hdn
                rw [hdn] at HSw7
                clear hdn
                have HJ:Hid (RInv L m root D d0 d2 (j+1) (1000000000*(r:Int)+2000000*((j+1:Nat):Int))):=by
                  have:=rinv_step HF.out HD.out hr (by omega) HR.out (by omega) HM.out hp hq
                  rw [HRu.out,HRv.out] at this
                  rw [show (1000000000*(r:Int)+2000000*((j+1:Nat):Int))=1000000000*(r:Int)+2000000*(j:Int)+2000000 by omega]
                  exact this
                go_wp2_with fail
                go_roundg (n - (j+1))
                case measure=>omega
                case rel=>exact ⟨j+1,d2,by omega,by go_num,HSw7,HJ⟩
            · have hjz:¬ (j:Int)<(n:Int):=by omega
              obtain rfl:n=j:=by omega
              have hrr:=HR.out
              rw [← hl] at hrr
              have HC1:=hidden (round_more HD.out hr HB0.out.rt hrr HC0.out hrm)
              have HB1:Hid (BInv L m root d (1000000000*((r+1:Nat):Int))):=⟨HR.out.inv.len,HR.out.inv.rt,HR.out.inv.ach,fun x hx=>by have:=HR.out.inv.bd x hx;omega⟩
              clear hrr
              go_wp2_with fail
              go_roundg (m - (r+1))
              case measure=>omega
              case rel=>exact ⟨r+1,d,by omega,by go_num,HS,HB1,HC1⟩
        · have hrmz:¬ (r:Int)<(m:Int):=by omega
          obtain rfl:m=r:=by omega
          have HE:=hidden (all_near HD.out HB0.out HC0.out)
          go_wp2_with fail
          go_ret
          exact ⟨gd,cd,rfl,d0,HS.out,HE.out,fun x=>by
            by_cases q:x<m
            · have:=HB0.out.bd x q;omega
            · rw [dg_out (by rw [HB0.out.len];omega)];omega⟩
end Go.Proofs.YtlppdppddiecnaaGreatDoor.RTree
