/-
  RateMath, RateMath2 in one text.
-/
import Derived.Test.YtlppdppddiecnaaGreatDoorMemP
namespace Go.Proofs.YtlppdppddiecnaaGreatDoor.RT

def nf (r lo hi:Int):Nat:=
  if r<1∨1000000<r∨lo<1∨1000000<lo∨hi<1∨1000000<hi then 1 else if r<lo∨hi<r then 3 else 0
structure Inv (r lo hi:Int):Prop where
  a:1≤lo
  b:lo≤r
  c:r≤hi
  d:hi≤1000000
theorem nf_zero {r lo hi:Int} (h:nf r lo hi=0):Inv r lo hi:=by
  unfold nf at h
  by_cases p:r<1∨1000000<r∨lo<1∨1000000<lo∨hi<1∨1000000<hi
  · rw [if_pos p] at h;omega
  · rw [if_neg p] at h
    by_cases q:r<lo∨hi<r
    · rw [if_pos q] at h;omega
    · exact ⟨by omega,by omega,by omega,by omega⟩
def rw' (r lost all:Int):Int:=if all<lost*10 then r - r*lost / (2*all) else if lost*50<all then r+(r / 20+1) else r
def cl (x lo hi:Int):Int:=if hi<(if x<lo then lo else x) then hi else (if x<lo then lo else x)
theorem cl_bounds {x lo hi:Int} (h:lo≤hi):lo≤cl x lo hi∧cl x lo hi≤hi:=by
  unfold cl
  split<;>split<;>omega
def pf (lost all:Int):Nat:=if all<1∨1000000<all∨lost<0∨all<lost then 1 else 0
theorem pf_zero {lost all:Int} (h:pf lost all=0):1≤all∧all≤1000000∧0≤lost∧lost≤all:=by
  unfold pf at h
  by_cases p:all<1∨1000000<all∨lost<0∨all<lost
  · rw [if_pos p] at h;omega
  · omega
def rp (r lo hi lost all:Int):Int:=cl (rw' r lost all) lo hi
theorem inv_rp {r lo hi:Int} (h:Inv r lo hi) (lost all:Int):Inv (rp r lo hi lost all) lo hi:=
  ⟨h.a,(cl_bounds (by have:=h.b;have:=h.c;omega)).1,(cl_bounds (by have:=h.b;have:=h.c;omega)).2,h.d⟩

theorem grow_eq (r lo hi:Int) (h:Inv r lo hi):rp r lo hi 0 100=if hi<r+(r / 20+1) then hi else r+(r / 20+1):=by
  obtain ⟨h1,h2,h3,h4⟩:=h
  have e:rw' r 0 100=r+(r / 20+1):=by unfold rw';rw [if_neg (by omega),if_pos (by omega)]
  unfold rp cl
  rw [e,if_neg (show ¬ r+(r / 20+1)<lo by omega)]
theorem fall_eq (r lo hi:Int) (h:Inv r lo hi):rp r lo hi 50 50=if r - r / 2<lo then lo else r - r / 2:=by
  obtain ⟨h1,h2,h3,h4⟩:=h
  have e0:r*50 / (2*50)=r / 2:=by omega
  have e:rw' r 50 50=r - r / 2:=by unfold rw';rw [if_pos (by omega),e0]
  unfold rp cl
  rw [e]
  by_cases p:r - r / 2<lo
  · rw [if_pos p,if_neg (by omega)]
  · rw [if_neg p,if_neg (by omega)]
def up:Nat→Int
  | 0=>1
  | k+1=>up k+(up k / 20+1)
def dn:Nat→Int
  | 0=>1000000
  | k+1=>dn k - dn k / 2
theorem up_last:1000000≤up 400:=by decide +kernel
theorem dn_last:dn 60=1:=by decide +kernel
structure Grows (r lo hi:Int) (k:Nat):Prop where
  inv:Inv r lo hi
  far:up k≤r∨r=hi
structure Falls (r lo hi:Int) (k:Nat):Prop where
  inv:Inv r lo hi
  far:r≤dn k∨r=lo
theorem Grows.first {r lo hi:Int} (h:Inv r lo hi):Grows r lo hi 0:=⟨h,.inl (by have:=h.a;have:=h.b;show 1≤r;omega)⟩
theorem Falls.first {r lo hi:Int} (h:Inv r lo hi):Falls r lo hi 0:=⟨h,.inl (by have:=h.c;have:=h.d;show r≤1000000;omega)⟩
theorem Grows.next {r lo hi:Int} {k:Nat} (h:Grows r lo hi k):Grows (rp r lo hi 0 100) lo hi (k+1)∧r≤rp r lo hi 0 100:=by
  have e:=grow_eq r lo hi h.inv
  have i:=inv_rp h.inv 0 100
  obtain ⟨h1,h2,h3,h4⟩:=h.inv
  have f:=h.far
  refine ⟨⟨i,?_⟩,?_⟩
  · show up k+(up k / 20+1)≤_∨_
    rw [e]
    by_cases p:hi<r+(r / 20+1)
    · rw [if_pos p];exact .inr rfl
    · rw [if_neg p]
      rcases f with f | f
      · left;omega
      · omega
  · rw [e]
    by_cases p:hi<r+(r / 20+1)
    · rw [if_pos p];omega
    · rw [if_neg p];omega
theorem Falls.next {r lo hi:Int} {k:Nat} (h:Falls r lo hi k):Falls (rp r lo hi 50 50) lo hi (k+1)∧rp r lo hi 50 50≤r:=by
  have e:=fall_eq r lo hi h.inv
  have i:=inv_rp h.inv 50 50
  obtain ⟨h1,h2,h3,h4⟩:=h.inv
  have f:=h.far
  refine ⟨⟨i,?_⟩,?_⟩
  · show _≤dn k - dn k / 2∨_
    rw [e]
    by_cases p:r - r / 2<lo
    · rw [if_pos p];exact .inr rfl
    · rw [if_neg p]
      rcases f with f | f
      · left;omega
      · omega
  · rw [e]
    by_cases p:r - r / 2<lo
    · rw [if_pos p];omega
    · rw [if_neg p];omega
theorem Grows.last {r lo hi:Int} (h:Grows r lo hi 400):r=hi:=by
  obtain ⟨h1,h2,h3,h4⟩:=h.inv
  have:=up_last
  rcases h.far with f | f<;>omega
theorem Falls.last {r lo hi:Int} (h:Falls r lo hi 60):r=lo:=by
  obtain ⟨h1,h2,h3,h4⟩:=h.inv
  have:=dn_last
  rcases h.far with f | f<;>omega

def sm:List Int→Int
  | []=>0
  | x::L=>x+sm L
def gv:List Int→Int→Int
  | [],_=>0
  | x::L,m=>(if x<m then x else m)+gv L m
def ct:List Int→Int→Int
  | [],_=>0
  | x::L,m=>(if m<x then 1 else 0)+ct L m
def sh (m:Int):Int→List Int→List Int
  | _,[]=>[]
  | lf,x::L=>if m<x then (if 0<lf then (m+1)::sh m (lf - 1) L else m::sh m lf L) else x::sh m lf L
def Rts (L:List Int):Prop:=∀ x∈L,0≤x∧x≤1000000
theorem Rts.tail {x:Int} {L:List Int} (h:Rts (x::L)):Rts L:=fun y hy=>h y (List.mem_cons_of_mem _ hy)
theorem Rts.head {x:Int} {L:List Int} (h:Rts (x::L)):0≤x∧x≤1000000:=h x (List.mem_cons_self ..)
theorem Rts.perm {L K:List Int} (h:Rts L) (p:K.Perm L):Rts K:=fun x hx=>h x (p.mem_iff.1 hx)
theorem sm_perm {L K:List Int} (p:L.Perm K):sm L=sm K:=by
  induction p with
  | nil=>rfl
  | cons x _ ih=>simp only [sm,ih]
  | swap x y l=>simp only [sm];omega
  | trans _ _ a b=>exact a.trans b
theorem gv_perm {L K:List Int} (p:L.Perm K) (m:Int):gv L m=gv K m:=by
  induction p with
  | nil=>rfl
  | cons x _ ih=>simp only [gv,ih]
  | swap x y l=>simp only [gv];omega
  | trans _ _ a b=>exact a.trans b
theorem ct_perm {L K:List Int} (p:L.Perm K) (m:Int):ct L m=ct K m:=by
  induction p with
  | nil=>rfl
  | cons x _ ih=>simp only [ct,ih]
  | swap x y l=>simp only [ct];omega
  | trans _ _ a b=>exact a.trans b
theorem ct_nonneg (m:Int):∀ L:List Int,0≤ct L m
  | []=>Int.le_refl _
  | x::L=>by have:=ct_nonneg m L;simp only [ct];split<;>omega
theorem gv_bounds {m:Int} (hm:0≤m):∀ L:List Int,Rts L→0≤gv L m∧gv L m≤sm L∧0≤sm L∧sm L≤1000000*(L.length:Int)
  | [],_=>⟨Int.le_refl _,Int.le_refl _,Int.le_refl _,by simp [sm]⟩
  | x::L,h=>by
    have:=gv_bounds hm L h.tail
    have:=h.head
    simp only [gv,sm,List.length_cons]
    split<;>omega
theorem sh_len (m:Int):∀ (lf:Int) (L:List Int),(sh m lf L).length=L.length
  | _,[]=>rfl
  | lf,x::L=>by
    unfold sh
    split
    · split
      · simp [sh_len m (lf - 1) L]
      · simp [sh_len m lf L]
    · simp [sh_len m lf L]
theorem sh_all {m:Int}:∀ (lf:Int) (L:List Int),(∀ x∈L,x≤m)→sh m lf L=L
  | _,[],_=>rfl
  | lf,x::L,h=>by
    have h1:=h x (List.mem_cons_self ..)
    unfold sh
    rw [if_neg (by omega),sh_all lf L fun y hy=>h y (List.mem_cons_of_mem _ hy)]
theorem gv_all {m:Int}:∀ (L:List Int),(∀ x∈L,x≤m)→gv L m=sm L
  | [],_=>rfl
  | x::L,h=>by
    have h1:=h x (List.mem_cons_self ..)
    simp only [gv,sm,gv_all L fun y hy=>h y (List.mem_cons_of_mem _ hy)]
    split<;>omega
theorem ct_all {m:Int}:∀ (L:List Int),(∀ x∈L,x≤m)→ct L m=0
  | [],_=>rfl
  | x::L,h=>by
    have h1:=h x (List.mem_cons_self ..)
    simp only [ct,ct_all L fun y hy=>h y (List.mem_cons_of_mem _ hy)]
    rw [if_neg (by omega)]
    rfl
theorem gv_next (m:Int):∀ L:List Int,gv L (m+1)=gv L m+ct L m
  | []=>rfl
  | x::L=>by
    simp only [gv,ct,gv_next m L]
    split<;>split<;>split<;>omega
theorem gv_mono {m k:Int} (h:m≤k):∀ L:List Int,gv L m≤gv L k
  | []=>Int.le_refl _
  | x::L=>by
    have:=gv_mono h L
    simp only [gv]
    split<;>split<;>omega
theorem sm_sh {m:Int}:∀ (lf:Int) (L:List Int),0≤lf→∃ t,sm (sh m lf L)=gv L m+t∧(lf<ct L m→t=lf)∧(ct L m≤lf→t=ct L m)
  | lf,[],h=>⟨0,rfl,fun p=>by simp only [ct] at p;omega,fun _=>rfl⟩
  | lf,x::L,h=>by
    have c:=ct_nonneg m L
    by_cases p:m<x
    · have e1:ct (x::L) m=1+ct L m:=by simp only [ct];rw [if_pos p]
      have e2:gv (x::L) m=m+gv L m:=by simp only [gv];rw [if_neg (by omega)]
      rw [e1,e2]
      by_cases q:0<lf
      · have e3:sh m lf (x::L)=(m+1)::sh m (lf - 1) L:=by simp only [sh];rw [if_pos p,if_pos q]
        obtain ⟨t,h1,h2,h3⟩:=sm_sh (m:=m) (lf - 1) L (by omega)
        rw [e3]
        exact ⟨t+1,by simp only [sm];omega,fun _=>by omega,fun _=>by omega⟩
      · have e3:sh m lf (x::L)=m::sh m lf L:=by simp only [sh];rw [if_pos p,if_neg q]
        obtain ⟨t,h1,h2,h3⟩:=sm_sh (m:=m) lf L h
        rw [e3]
        exact ⟨t,by simp only [sm];omega,fun _=>by omega,fun _=>by omega⟩
    · have e1:ct (x::L) m=ct L m:=by simp only [ct];rw [if_neg p];omega
      have e2:gv (x::L) m=x+gv L m:=by simp only [gv];split<;>omega
      have e3:sh m lf (x::L)=x::sh m lf L:=by simp only [sh];rw [if_neg p]
      obtain ⟨t,h1,h2,h3⟩:=sm_sh (m:=m) lf L h
      rw [e1,e2,e3]
      exact ⟨t,by simp only [sm];omega,h2,h3⟩
theorem sh_one {m:Int} (hm:0≤m):∀ (lf:Int) (L:List Int) (j:Nat),Rts L→j<L.length →
    0≤(sh m lf L).getD j 0∧(sh m lf L).getD j 0≤L.getD j 0∧(sh m lf L).getD j 0≤m+1∧((sh m lf L).getD j 0≠L.getD j 0→m<L.getD j 0∧m≤(sh m lf L).getD j 0)
  | lf,[],j,_,hj=>absurd hj (by simp)
  | lf,x::L,0,h,_=>by
    have:=h.head
    unfold sh
    split
    · split<;>simp<;>omega
    · simp;omega
  | lf,x::L,j+1,h,hj=>by
    have i1:=sh_one hm (lf - 1) L j h.tail (by simpa using hj)
    have i2:=sh_one hm lf L j h.tail (by simpa using hj)
    unfold sh
    split
    · split
      · simpa using i1
      · simpa using i2
    · simpa using i2
theorem sm_get:∀ (L:List Int) (j:Nat),j<L.length→sm (L.take (j+1))=sm (L.take j)+L.getD j 0
  | [],j,h=>absurd h (by simp)
  | x::L,0,_=>by simp [sm]
  | x::L,j+1,h=>by
    have:=sm_get L j (by simpa using h)
    simp only [List.take_succ_cons,sm,List.getD_cons_succ] at this ⊢
    omega
theorem sm_take_bounds:∀ (L:List Int) (j:Nat),Rts L→0≤sm (L.take j)∧sm (L.take j)≤1000000*(j:Int)
  | [],j,_=>by simp [sm];omega
  | x::L,0,_=>by simp [sm]
  | x::L,j+1,h=>by
    have:=sm_take_bounds L j h.tail
    have:=h.head
    simp only [List.take_succ_cons,sm]
    omega

def lv:Int→List Int→Int×Int
  | _,[]=>(1000000,0)
  | A,x::R=>if A / ((R.length:Int)+1)<x then (A / ((R.length:Int)+1),A%((R.length:Int)+1)) else lv (A - x) R
structure Lev (A:Int) (L:List Int) (m lf:Int):Prop where
  m0:0≤m
  m1:m≤1000000
  l0:0≤lf
  or:(sm L≤A∧m=1000000)∨(gv L m+lf=A∧lf<ct L m)
theorem mul_le_div {b k A:Int} (hk:0<k) (h:b*k≤A):b≤A / k:=(Int.le_ediv_iff_mul_le hk).2 h
theorem div_lt_mul {x k A:Int} (hk:0<k) (h:A / k<x):A<x*k:=by
  rcases Int.lt_or_le A (x*k) with p | p
  · exact p
  · have:=mul_le_div hk p;omega
theorem gv_above {m:Int}:∀ R:List Int,(∀ y∈R,m<y)→gv R m=m*(R.length:Int)∧ct R m=(R.length:Int)
  | [],_=>by simp [gv,ct]
  | x::R,h=>by
    have h1:=h x (List.mem_cons_self ..)
    obtain ⟨a,b⟩:=gv_above R fun y hy=>h y (List.mem_cons_of_mem _ hy)
    simp only [gv,ct,a,b,List.length_cons]
    rw [if_neg (by omega),if_pos h1]
    have:m*((R.length+1:Nat):Int)=m*(R.length:Int)+m:=by rw [Int.natCast_add,Int.mul_add];simp
    omega
theorem lv_lev:∀ (R:List Int) (A b:Int),R.Pairwise (·≤·)→Rts R→0≤A→(∀ y∈R,b≤y)→b≤1000000→b*(R.length:Int)≤A →
    Lev A R (lv A R).1 (lv A R).2∧b≤(lv A R).1
  | [],A,b,_,_,hA,_,hb1,_=>by
    refine ⟨⟨by simp [lv],by simp [lv],by simp [lv],.inl ⟨by simpa [sm] using hA,rfl⟩⟩,by simpa [lv] using hb1⟩
  | x::R,A,b,hs,hr,hA,hb,hb1,hm=>by
    obtain ⟨h1,h2⟩:=List.pairwise_cons.1 hs
    obtain ⟨x0,x1⟩:=hr.head
    have k0:0<(R.length:Int)+1:=by omega
    have hbx:=hb x (List.mem_cons_self ..)
    have hlen:((x::R).length:Int)=(R.length:Int)+1:=by simp
    rw [hlen] at hm
    by_cases p:A / ((R.length:Int)+1)<x
    · have e:lv A (x::R)=(A / ((R.length:Int)+1),A%((R.length:Int)+1)):=by simp only [lv];rw [if_pos p]
      rw [e]
      have d0:0≤A / ((R.length:Int)+1):=Int.ediv_nonneg hA (by omega)
      have r0:=Int.emod_nonneg A (show (R.length:Int)+1≠0 by omega)
      have r1:=Int.emod_lt_of_pos A k0
      have r2:=Int.mul_ediv_add_emod A ((R.length:Int)+1)
      have hab:∀ y∈x::R,A / ((R.length:Int)+1)<y:=by
        intro y hy
        rcases List.mem_cons.1 hy with rfl | hy
        · exact p
        · have:=h1 y hy;omega
      obtain ⟨g1,g2⟩:=gv_above (x::R) hab
      rw [hlen] at g1 g2
      refine ⟨⟨d0,by show A / ((R.length:Int)+1)≤_;omega,r0,.inr ⟨?_,?_⟩⟩,mul_le_div k0 hm⟩
      · show gv (x::R) (A / ((R.length:Int)+1))+A%((R.length:Int)+1)=A
        rw [g1,Int.mul_comm];exact r2
      · show A%((R.length:Int)+1)<ct (x::R) (A / ((R.length:Int)+1))
        rw [g2];exact r1
    · have e:lv A (x::R)=lv (A - x) R:=by simp only [lv];rw [if_neg p]
      rw [e]
      have q:x*((R.length:Int)+1)≤A:=by
        have:=Int.mul_le_of_le_ediv k0 (show x≤A / ((R.length:Int)+1) by omega)
        exact this
      have q':x*(R.length:Int)≤A - x:=by rw [Int.mul_add] at q;omega
      have q0:0≤x*(R.length:Int):=Int.mul_nonneg x0 (by omega)
      obtain ⟨⟨m0,m1,l0,ho⟩,hx⟩:=lv_lev R (A - x) x h2 hr.tail (by omega) h1 x1 q'
      refine ⟨⟨m0,m1,l0,?_⟩,by omega⟩
      rcases ho with ⟨a,c⟩ | ⟨a,c⟩
      · exact .inl ⟨by simp only [sm];omega,c⟩
      · refine .inr ⟨?_,?_⟩
        · simp only [gv];split<;>omega
        · simp only [ct];rw [if_neg (by omega)];omega
theorem Lev.perm {A m lf:Int} {L K:List Int} (h:Lev A K m lf) (p:K.Perm L):Lev A L m lf:=
  ⟨h.m0,h.m1,h.l0,by rw [← sm_perm p,← gv_perm p,← ct_perm p];exact h.or⟩
theorem lv_sorted {A:Int} {L R:List Int} (p:R.Perm L) (hs:R.Pairwise (·≤·)) (hr:Rts L) (hA:0≤A):Lev A L (lv A R).1 (lv A R).2:=
  (lv_lev R A 0 hs (hr.perm p) hA (fun y hy=>(hr.perm p y hy).1) (by omega) (by simpa using hA)).1.perm p
theorem lev_same {A m lf m' lf':Int} {L:List Int} (hr:Rts L) (h:Lev A L m lf) (k:Lev A L m' lf'):sh m lf L=sh m' lf' L:=by
  have i1:∀ x∈L,x≤1000000:=fun x hx=>(hr x hx).2
  have key:∀ {m lf:Int},Lev A L m lf→sm L≤A→sh m lf L=L:=by
    intro m lf h hs
    rcases h.or with ⟨_,rfl⟩ | ⟨a,b⟩
    · exact sh_all lf L i1
    · exfalso
      have g1:=gv_next m L
      have g2:=(gv_bounds (show 0≤m+1 by have:=h.m0;omega) L hr).2.1
      omega
  by_cases hs:sm L≤A
  · rw [key h hs,key k hs]
  · rcases h.or with ⟨a,_⟩ | ⟨a,b⟩
    · exact absurd a hs
    · rcases k.or with ⟨a',_⟩ | ⟨a',b'⟩
      · exact absurd a' hs
      · have l0:=h.l0
        have l0':=k.l0
        have g1:=gv_next m L
        have g2:=gv_next m' L
        rcases (show m<m'∨m'<m∨m=m' by omega) with q | q | q
        · have:=gv_mono (show m+1≤m' by omega) L;omega
        · have:=gv_mono (show m'+1≤m by omega) L;omega
        · subst q
          have:lf=lf':=by omega
          rw [this]
theorem lev_sum {A m lf:Int} {L:List Int} (hr:Rts L) (h:Lev A L m lf):sm (sh m lf L)≤A∧∀ j,j<L.length→(sh m lf L).getD j 0≠L.getD j 0→sm (sh m lf L)=A:=by
  have i1:∀ x∈L,x≤1000000:=fun x hx=>(hr x hx).2
  rcases h.or with ⟨a,rfl⟩ | ⟨a,b⟩
  · rw [sh_all lf L i1]
    exact ⟨a,fun j _ hj=>absurd rfl hj⟩
  · obtain ⟨t,h1,h2,_⟩:=sm_sh (m:=m) lf L h.l0
    have:=h2 b
    exact ⟨by omega,fun _ _ _=>by omega⟩
theorem lev_near {A m lf:Int} {L:List Int} (hr:Rts L) (h:Lev A L m lf) (i k:Nat) (hi:i<L.length) (hk:k<L.length) (hne:(sh m lf L).getD i 0≠L.getD i 0):(sh m lf L).getD k 0≤(sh m lf L).getD i 0+1:=by
  have a:=sh_one h.m0 lf L i hr hi
  have b:=sh_one h.m0 lf L k hr hk
  have:=a.2.2.2 hne
  omega
theorem lev_greatest {A n:Int} {L:List Int} (hr:Rts L) (h0:0≤n) (h1:n≤1000000) (hg:gv L n≤A) (hn:n=1000000∨A<gv L (n+1)):Lev A L n (A - gv L n):=by
  refine ⟨h0,h1,by omega,?_⟩
  rcases hn with rfl | hn
  · left
    rw [gv_all L fun x hx=>(hr x hx).2] at hg
    exact ⟨hg,rfl⟩
  · right
    rw [gv_next] at hn
    omega
def rf (A:Int) (L:List Int) (most:Nat):Nat:=if most<L.length then 4 else if (L.any fun x=>decide (x<0)||decide (1000000<x))=true∨A<0∨1000000<A then 1 else 0
theorem rf_zero {A:Int} {L:List Int} {most:Nat} (h:rf A L most=0):L.length≤most∧Rts L∧0≤A∧A≤1000000:=by
  unfold rf at h
  by_cases p:most<L.length
  · rw [if_pos p] at h;omega
  rw [if_neg p] at h
  by_cases q:(L.any fun x=>decide (x<0)||decide (1000000<x))=true∨A<0∨1000000<A
  · rw [if_pos q] at h;omega
  · refine ⟨by omega,fun x hx=>?_,by omega,by omega⟩
    have q1:¬ (L.any fun x=>decide (x<0)||decide (1000000<x))=true:=fun e=>q (.inl e)
    rw [List.any_eq_true] at q1
    have:¬ ((decide (x<0)||decide (1000000<x))=true):=fun e=>q1 ⟨x,hx,e⟩
    simp at this
    omega
end Go.Proofs.YtlppdppddiecnaaGreatDoor.RT
