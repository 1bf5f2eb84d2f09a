/-
  TreeMath, TreeMath2, TreeMath3 in one text.
-/
import Derived.WalkKit

set_option linter.unusedVariables false
namespace Go.Proofs.YtlppdppddiecnaaGreatDoor.TM

structure Ed where
  a:Int
  b:Int
  c:Int
def zz:Ed:=⟨0,0,0⟩
def isn (n x:Int):Bool:=decide (0≤x∧x<n)
def okE (n:Int) (e:Ed):Bool:=decide (0≤e.a∧e.a<n∧0≤e.b∧e.b<n∧e.a≠e.b∧1≤e.c∧e.c≤1000000)
theorem okE_iff {n:Int} {e:Ed}:okE n e=true↔0≤e.a∧e.a<n∧0≤e.b∧e.b<n∧e.a≠e.b∧1≤e.c∧e.c≤1000000:=by simp [okE]
def two (e f:Ed):Bool:=decide ((e.a=f.a∧e.b=f.b)∨(e.a=f.b∧e.b=f.a))
theorem two_iff {e f:Ed}:two e f=true↔(e.a=f.a∧e.b=f.b)∨(e.a=f.b∧e.b=f.a):=by simp [two]
def ck (n:Int):List Ed→List Ed→Nat
  | _,[]=>0
  | A,e::r=>if okE n e=false then 1 else if A.any (fun f=>two f e)=true then 7 else ck n (A++[e]) r
def ef (n:Int) (L:List Ed):Nat:=if n<1∨16<n then 1 else if 200<L.length then 4 else ck n [] L
theorem ck_le (n:Int) (A L:List Ed):ck n A L≤100:=by
  induction L generalizing A with
  | nil=>simp [ck]
  | cons e r ih=>
    rw [ck]
    repeat' split
    · omega
    · omega
    · exact ih _
theorem ef_le (n:Int) (L:List Ed):ef n L≤100:=by
  unfold ef
  repeat' split
  · omega
  · omega
  · exact ck_le _ _ _
structure Fit (n:Nat) (L:List Ed):Prop where
  lo:1≤n
  hi:n≤16
  len:L.length≤200
  ok:∀ e∈L,okE n e=true
  uq:L.Pairwise fun e f=>two e f=false
theorem ck_zero {n:Int} {A L:List Ed}:ck n A L=0↔(∀ e∈L,okE n e=true)∧(∀ e∈L,∀ f∈A,two f e=false)∧L.Pairwise fun e f=>two e f=false:=by
  induction L generalizing A with
  | nil=>simp [ck]
  | cons e r ih=>
    rw [ck]
    cases h:okE n e with
    | false=>
      rw [if_pos rfl]
      constructor
      · intro q;omega
      · intro q;have:=q.1 e (by simp);rw [h] at this;simp at this
    | true=>
      rw [if_neg (by simp)]
      by_cases h1:A.any (fun f=>two f e)=true
      · rw [if_pos h1]
        constructor
        · intro q;omega
        · intro q
          obtain ⟨f,hf,h2⟩:=List.any_eq_true.1 h1
          have:=q.2.1 e (by simp) f hf
          rw [h2] at this;simp at this
      · rw [if_neg h1,ih]
        have h3:∀ f∈A,two f e=false:=fun f hf=>by
          cases q:two f e with
          | false=>rfl
          | true=>exact absurd (List.any_eq_true.2 ⟨f,hf,q⟩) h1
        constructor
        · rintro ⟨p1,p2,p3⟩
          refine ⟨fun x hx=>?_,fun x hx f hf=>?_,List.pairwise_cons.2 ⟨fun x hx=>p2 x hx e (by simp),p3⟩⟩
          · rcases List.mem_cons.1 hx with rfl | hx
            · exact h
            · exact p1 x hx
          · rcases List.mem_cons.1 hx with rfl | hx
            · exact h3 f hf
            · exact p2 x hx f (by simp [hf])
        · rintro ⟨p1,p2,p3⟩
          obtain ⟨p4,p5⟩:=List.pairwise_cons.1 p3
          refine ⟨fun x hx=>p1 x (by simp [hx]),fun x hx f hf=>?_,p5⟩
          rcases List.mem_append.1 hf with hf | hf
          · exact p2 x (by simp [hx]) f hf
          · simp at hf;subst hf;exact p4 x hx
theorem ef_zero {n:Int} {L:List Ed}:ef n L=0↔0≤n∧Fit n.toNat L:=by
  unfold ef
  by_cases h:n<1∨16<n
  · rw [if_pos h]
    constructor
    · intro q;omega
    · rintro ⟨q,q2⟩;have:=q2.lo;have:=q2.hi;omega
  · rw [if_neg h]
    by_cases h2:200<L.length
    · rw [if_pos h2]
      constructor
      · intro q;omega
      · rintro ⟨q,q2⟩;have:=q2.len;omega
    · rw [if_neg h2,ck_zero]
      have e:((n.toNat:Nat):Int)=n:=by omega
      constructor
      · rintro ⟨p1,_,p3⟩
        exact ⟨by omega,by omega,by omega,by omega,by rw [e];exact p1,p3⟩
      · rintro ⟨_,p⟩
        exact ⟨by have:=p.ok;rwa [e] at this,by simp,p.uq⟩

def jn (e:Ed) (x y:Int):Bool:=decide ((e.a=x∧e.b=y)∨(e.b=x∧e.a=y))
theorem jn_iff {e:Ed} {x y:Int}:jn e x y=true↔(e.a=x∧e.b=y)∨(e.b=x∧e.a=y):=by simp [jn]
theorem jn_comm (e:Ed) (x y:Int):jn e x y=jn e y x:=by
  unfold jn
  rw [decide_eq_decide]
  constructor<;>rintro (⟨h1,h2⟩ | ⟨h1,h2⟩)
  · exact .inr ⟨h2,h1⟩
  · exact .inl ⟨h2,h1⟩
  · exact .inr ⟨h2,h1⟩
  · exact .inl ⟨h2,h1⟩
def cst (L:List Ed) (x y:Int):Int:=L.foldl (fun c e=>if jn e x y=true then e.c else c) 0
theorem cst_nil (x y:Int):cst [] x y=0:=rfl
theorem cst_snoc (L:List Ed) (e:Ed) (x y:Int):cst (L++[e]) x y=if jn e x y=true then e.c else cst L x y:=by simp [cst,List.foldl_append]
theorem take_succ {L:List Ed} {j:Nat} (h:j<L.length):L.take (j+1)=L.take j++[L.getD j zz]:=by
  rw [← List.take_append_getElem h,List.getD_eq_getElem?_getD,List.getElem?_eq_getElem h];rfl
theorem drop_cons {L:List Ed} {j:Nat} (h:j<L.length):L.drop j=L.getD j zz::L.drop (j+1):=by
  rw [List.drop_eq_getElem_cons h,List.getD_eq_getElem?_getD,List.getElem?_eq_getElem h]
  rfl
theorem getD_mem {L:List Ed} {j:Nat} (h:j<L.length):L.getD j zz∈L:=by
  rw [List.getD_eq_getElem?_getD,List.getElem?_eq_getElem h];exact List.getElem_mem h
theorem cst_take {L:List Ed} {j:Nat} (h:j<L.length) (x y:Int):cst (L.take (j+1)) x y=if jn (L.getD j zz) x y=true then (L.getD j zz).c else cst (L.take j) x y:=by
  rw [take_succ h,cst_snoc]
theorem cst_comm (L:List Ed) (x y:Int):cst L x y=cst L y x:=by
  unfold cst
  simp only [jn_comm _ x y]
theorem fold_cases (x y:Int) (L:List Ed) (c0:Int):(L.foldl (fun c e=>if jn e x y=true then e.c else c) c0=c0∧∀ e∈L,jn e x y=false)∨∃ e∈L,jn e x y=true∧L.foldl (fun c e=>if jn e x y=true then e.c else c) c0=e.c:=by
  induction L generalizing c0 with
  | nil=>simp
  | cons e r ih=>
    rw [List.foldl_cons]
    cases h:jn e x y with
    | true=>
      rw [if_pos rfl]
      rcases ih e.c with ⟨h1,h2⟩ | ⟨f,h1,h2,h3⟩
      · exact .inr ⟨e,by simp,h,h1⟩
      · exact .inr ⟨f,by simp [h1],h2,h3⟩
    | false=>
      rw [if_neg (by simp)]
      rcases ih c0 with ⟨h1,h2⟩ | ⟨f,h1,h2,h3⟩
      · refine .inl ⟨h1,fun f hf=>?_⟩
        rcases List.mem_cons.1 hf with rfl | hf
        · exact h
        · exact h2 f hf
      · exact .inr ⟨f,by simp [h1],h2,h3⟩
theorem cst_cases (L:List Ed) (x y:Int):(cst L x y=0∧∀ e∈L,jn e x y=false)∨∃ e∈L,jn e x y=true∧cst L x y=e.c:=fold_cases x y L 0
theorem uq_eq {L:List Ed} (h:L.Pairwise fun e f=>two e f=false) {e f:Ed} (he:e∈L) (hf:f∈L) (ht:two e f=true) (ht':two f e=true):e=f:=by
  induction L with
  | nil=>simp at he
  | cons x r ih=>
    obtain ⟨p1,p2⟩:=List.pairwise_cons.1 h
    rcases List.mem_cons.1 he with e1 | e1
    · rcases List.mem_cons.1 hf with f1 | f1
      · rw [e1,f1]
      · subst e1;have:=p1 f f1;rw [ht] at this;simp at this
    · rcases List.mem_cons.1 hf with f1 | f1
      · subst f1;have:=p1 e e1;rw [ht'] at this;simp at this
      · exact ih p2 e1 f1
theorem jn_two {e f:Ed} {x y:Int} (h1:jn e x y=true) (h2:jn f x y=true):two e f=true:=by
  rw [jn_iff] at h1 h2
  rw [two_iff]
  rcases h1 with ⟨a1,a2⟩ | ⟨a1,a2⟩<;>rcases h2 with ⟨b1,b2⟩ | ⟨b1,b2⟩<;>rw [a1,a2,b1,b2]<;>simp
theorem cst_mem {n:Nat} {L:List Ed} (hF:Fit n L) {e:Ed} (he:e∈L) {x y:Int} (hj:jn e x y=true):cst L x y=e.c:=by
  rcases cst_cases L x y with ⟨_,h⟩ | ⟨f,hf,h1,h2⟩
  · have:=h e he;rw [hj] at this;simp at this
  · rw [h2,uq_eq hF.uq hf he (jn_two h1 hj) (jn_two hj h1)]
theorem cst_range {n:Nat} {L:List Ed} (hF:∀ e∈L,okE n e=true) (x y:Int):0≤cst L x y∧cst L x y≤1000000∧(0<cst L x y→0≤x∧x<n∧0≤y∧y<n∧x≠y):=by
  rcases cst_cases L x y with ⟨h,_⟩ | ⟨e,he,h1,h2⟩
  · rw [h];exact ⟨by omega,by omega,fun q=>absurd q (by omega)⟩
  · have:=okE_iff.1 (hF e he)
    rw [jn_iff] at h1
    rw [h2]
    refine ⟨by omega,by omega,fun _=>?_⟩
    rcases h1 with ⟨a1,a2⟩ | ⟨a1,a2⟩<;>(rw [← a1,← a2];omega)
theorem cst_self {n:Nat} {L:List Ed} (hF:∀ e∈L,okE n e=true) (x:Int):cst L x x=0:=by
  obtain ⟨h1,_,h3⟩:=cst_range hF x x
  rcases Int.lt_or_eq_of_le h1 with h | h
  · exact absurd rfl (h3 h).2.2.2.2
  · exact h.symm

def dg (d:List Int) (x:Nat):Int:=d.getD x (-1)
theorem dg_ext {d e:List Int} (hl:d.length=e.length) (h:∀ x,x<d.length→dg d x=dg e x):d=e:=by
  apply List.ext_getElem hl
  intro i h1 h2
  have:=h i h1
  simpa [dg,List.getD_eq_getElem?_getD,List.getElem?_eq_getElem h1,List.getElem?_eq_getElem h2] using this
theorem dg_out {d:List Int} {x:Nat} (h:d.length≤x):dg d x=-1:=by
  simp [dg,List.getD_eq_getElem?_getD,List.getElem?_eq_none h]
theorem dg_set {d:List Int} {y:Nat} (hy:y<d.length) (v:Int) (x:Nat):dg (d.set y v) x=if x=y then v else dg d x:=by
  unfold dg
  rw [List.getD_eq_getElem?_getD,List.getElem?_set]
  by_cases h:y=x
  · subst h;rw [if_pos rfl,if_pos hy,if_pos rfl];rfl
  · rw [if_neg h,if_neg (fun q=>h q.symm),List.getD_eq_getElem?_getD]
theorem dg_rep (n:Nat) (x:Nat):dg (List.replicate n (-1)) x=-1:=by
  unfold dg
  rw [List.getD_eq_getElem?_getD,List.getElem?_replicate]
  split<;>rfl

def wayN (L:List Ed) (n root:Nat):Nat→Nat→Int→Prop
  | 0,x,s=>x=root∧s=0
  | k+1,y,s=>∃ x:Nat,x<n∧0<cst L x y∧wayN L n root k x (s - cst L x y)
def Way (L:List Ed) (n root x:Nat) (s:Int):Prop:=∃ k,wayN L n root k x s
theorem Way.here (L:List Ed) (n root:Nat):Way L n root root 0:=⟨0,rfl,rfl⟩
theorem Way.step {L:List Ed} {n root x y:Nat} {s:Int} (h:Way L n root x s) (hx:x<n) (hc:0<cst L x y):Way L n root y (s+cst L x y):=by
  obtain ⟨k,hk⟩:=h
  refine ⟨k+1,x,hx,hc,?_⟩
  rw [show s+cst L x y - cst L x y=s by omega]
  exact hk
theorem wayN_nonneg {L:List Ed} {n root:Nat}:∀ (k x:Nat) (s:Int),wayN L n root k x s→0≤s
  | 0,x,s,h=>by have:=h.2;omega
  | k+1,y,s,⟨x,_,hc,h⟩=>by have:=wayN_nonneg k x _ h;omega
theorem Way.nonneg {L:List Ed} {n root x:Nat} {s:Int} (h:Way L n root x s):0≤s:=by
  obtain ⟨k,hk⟩:=h
  exact wayN_nonneg k x s hk
structure IsDist (L:List Ed) (n root:Nat) (d:List Int):Prop where
  len:d.length=n
  is:∀ x,x<n→(dg d x=-1∧∀ s,¬ Way L n root x s)∨(Way L n root x (dg d x)∧∀ s,Way L n root x s→dg d x≤s)
theorem isDist_of {L:List Ed} {n root:Nat} {d:List Int} (hl:d.length=n) (hr:root<n) (h0:dg d root=0) (ha:∀ x,x<n→dg d x=-1∨Way L n root x (dg d x))
    (hrel:∀ x,x<n→0≤dg d x→∀ y,y<n→0<cst L x y→0≤dg d y∧dg d y≤dg d x+cst L x y):IsDist L n root d:=by
  have key:∀ k x s,x<n→wayN L n root k x s→0≤dg d x∧dg d x≤s:=by
    intro k
    induction k with
    | zero=>rintro x s hx ⟨rfl,rfl⟩;omega
    | succ k ih=>
      rintro y s hy ⟨x,hx,hc,hw⟩
      obtain ⟨h1,h2⟩:=ih x _ hx hw
      have:=hrel x hx h1 y hy hc
      omega
  refine ⟨hl,fun x hx=>?_⟩
  rcases ha x hx with h | h
  · refine .inl ⟨h,?_⟩
    rintro s ⟨k,hk⟩
    have:=key k x s hx hk
    omega
  · refine .inr ⟨h,?_⟩
    rintro s ⟨k,hk⟩
    exact (key k x s hx hk).2
theorem IsDist.uniq {L:List Ed} {n root:Nat} {d e:List Int} (h:IsDist L n root d) (g:IsDist L n root e):d=e:=by
  refine dg_ext (by rw [h.len,g.len]) fun x hx=>?_
  rw [h.len] at hx
  rcases h.is x hx with ⟨a1,a2⟩ | ⟨a1,a2⟩<;>rcases g.is x hx with ⟨b1,b2⟩ | ⟨b1,b2⟩
  · rw [a1,b1]
  · exact absurd b1 (a2 _)
  · exact absurd a1 (b2 _)
  · have:=a2 _ b1;have:=b2 _ a1;omega
theorem IsDist.low {L:List Ed} {n root:Nat} {d:List Int} (h:IsDist L n root d) (x:Nat):-1≤dg d x:=by
  rcases Nat.lt_or_ge x n with hx | hx
  · rcases h.is x hx with ⟨a1,_⟩ | ⟨a1,_⟩
    · omega
    · have:=a1.nonneg;omega
  · rw [dg_out (by rw [h.len];exact hx)];omega
theorem IsDist.way {L:List Ed} {n root:Nat} {d:List Int} (h:IsDist L n root d) {x:Nat} (hx:x<n) (h0:0≤dg d x):Way L n root x (dg d x):=by
  rcases h.is x hx with ⟨a1,_⟩ | ⟨a1,_⟩
  · omega
  · exact a1
theorem IsDist.le {L:List Ed} {n root:Nat} {d:List Int} (h:IsDist L n root d) {x:Nat} (hx:x<n) {s:Int} (hw:Way L n root x s):0≤dg d x∧dg d x≤s:=by
  rcases h.is x hx with ⟨_,a2⟩ | ⟨a1,a2⟩
  · exact absurd hw (a2 s)
  · exact ⟨a1.nonneg,a2 s hw⟩
theorem IsDist.root {L:List Ed} {n root:Nat} {d:List Int} (h:IsDist L n root d) (hr:root<n):dg d root=0:=by
  have:=h.le hr (Way.here L n root);omega
theorem IsDist.rel {L:List Ed} {n root:Nat} {d:List Int} (h:IsDist L n root d) {x y:Nat} (hx:x<n) (hy:y<n) (h0:0≤dg d x) (hc:0<cst L x y):0≤dg d y∧dg d y≤dg d x+cst L x y:=
  h.le hy ((h.way hx h0).step hx hc)
theorem IsDist.pred {L:List Ed} {n root:Nat} {d:List Int} (h:IsDist L n root d) {y:Nat} (hy:y<n) (h0:0≤dg d y) (hne:y≠root):∃ x,x<n∧0≤dg d x∧0<cst L x y∧dg d x+cst L x y=dg d y:=by
  obtain ⟨k,hk⟩:=h.way hy h0
  cases k with
  | zero=>exact absurd hk.1 hne
  | succ k=>
    obtain ⟨x,hx,hc,hw⟩:=hk
    obtain ⟨h1,h2⟩:=h.le hx ⟨k,hw⟩
    have:=h.rel hx hy h1 hc
    exact ⟨x,hx,h1,hc,by omega⟩
theorem least_nat (p:Int→Prop) (hp:∀ s,p s→0≤s) (h:∃ s,p s):∃ s,p s∧∀ t,p t→s≤t:=by
  have key:∀ k:Nat,∀ s,p s→s≤(k:Int)→∃ s,p s∧∀ t,p t→s≤t:=by
    intro k
    induction k with
    | zero=>intro s hs hk;exact ⟨s,hs,fun t ht=>by have:=hp t ht;omega⟩
    | succ k ih=>
      intro s hs hk
      by_cases q:∃ t,p t∧t≤(k:Int)
      · obtain ⟨t,ht,hle⟩:=q;exact ih t ht hle
      · refine ⟨s,hs,fun t ht=>?_⟩
        rcases Int.lt_or_le (k:Int) t with h' | h'
        · omega
        · exact absurd ⟨t,ht,h'⟩ q
  obtain ⟨s,hs⟩:=h
  exact key s.toNat s hs (by have:=hp s hs;omega)
theorem isDist_exists (L:List Ed) (n root:Nat):∃ d,IsDist L n root d:=by
  have key:∀ x,∃ v:Int,(v=-1∧∀ s,¬ Way L n root x s)∨(Way L n root x v∧∀ s,Way L n root x s→v≤s):=by
    intro x
    by_cases q:∃ s,Way L n root x s
    · obtain ⟨s,h1,h2⟩:=least_nat _ (fun s hs=>Way.nonneg hs) q
      exact ⟨s,.inr ⟨h1,h2⟩⟩
    · exact ⟨-1,.inl ⟨rfl,fun s hs=>q ⟨s,hs⟩⟩⟩
  have lists:∀ m:Nat,∃ d:List Int,d.length=m∧∀ x,x<m→(dg d x=-1∧∀ s,¬ Way L n root x s)∨(Way L n root x (dg d x)∧∀ s,Way L n root x s→dg d x≤s):=by
    intro m
    induction m with
    | zero=>exact ⟨[],rfl,fun x hx=>absurd hx (by omega)⟩
    | succ m ih=>
      obtain ⟨d,hl,hd⟩:=ih
      obtain ⟨v,hv⟩:=key m
      refine ⟨d++[v],by simp [hl],fun x hx=>?_⟩
      by_cases e:x<m
      · have:dg (d++[v]) x=dg d x:=by unfold dg;rw [List.getD_eq_getElem?_getD,List.getElem?_append_left (by omega),List.getD_eq_getElem?_getD]
        rw [this];exact hd x e
      · have e:x=m:=by omega
        subst e
        have:dg (d++[v]) x=v:=by unfold dg;rw [List.getD_eq_getElem?_getD,List.getElem?_append_right (by omega)];simp [hl]
        rw [this];exact hv
  obtain ⟨d,hl,hd⟩:=lists n
  exact ⟨d,hl,hd⟩

def cn (S:Nat→Bool):Nat→Nat
  | 0=>0
  | n+1=>cn S n+(if S n=true then 1 else 0)
theorem cn_le (S:Nat→Bool) (n:Nat):cn S n≤n:=by
  induction n with
  | zero=>simp [cn]
  | succ n ih=>rw [cn];split<;>omega
theorem cn_mono {S T:Nat→Bool} {n:Nat} (h:∀ x,x<n→S x=true→T x=true):cn S n≤cn T n:=by
  induction n with
  | zero=>simp [cn]
  | succ n ih=>
    have:=ih fun x hx=>h x (by omega)
    rw [cn,cn]
    by_cases q:S n=true
    · rw [if_pos q,if_pos (h n (by omega) q)];omega
    · rw [if_neg q];split<;>omega
theorem cn_more {S T:Nat→Bool} {n y:Nat} (h:∀ x,x<n→S x=true→T x=true) (hy:y<n) (h1:S y=false) (h2:T y=true):cn S n<cn T n:=by
  induction n with
  | zero=>omega
  | succ n ih=>
    rw [cn,cn]
    by_cases q:y=n
    · subst q
      have:=cn_mono (S:=S) (T:=T) (n:=y) fun x hx=>h x (by omega)
      rw [if_neg (by rw [h1];simp),if_pos h2];omega
    · have:=ih (fun x hx=>h x (by omega)) (by omega)
      by_cases q:S n=true
      · rw [if_pos q,if_pos (h n (by omega) q)];omega
      · rw [if_neg q];split<;>omega
theorem cn_lt {S:Nat→Bool} {n y:Nat} (hy:y<n) (h1:S y=false):cn S n<n:=
  Nat.lt_of_lt_of_le (cn_more (T:=fun _=>true) (fun _ _ _=>rfl) hy h1 rfl) (cn_le _ _)
end Go.Proofs.YtlppdppddiecnaaGreatDoor.TM
set_option linter.unusedVariables false
namespace Go.Proofs.YtlppdppddiecnaaGreatDoor.TM

def upd {α:Type} (F:Nat→α) (y:Nat) (v:α):Nat→α:=fun j=>if j=y then v else F j
def nv (L:List Ed) (d:List Int) (f x:Nat):Int:=if 0<cst L f x∧(dg d x=-1∨dg d f+cst L f x<dg d x) then dg d f+cst L f x else dg d x
structure DInv (L:List Ed) (n root:Nat) (d:List Int) (S:Nat→Bool):Prop where
  len:d.length=n
  rt:dg d root=0
  ach:∀ x,x<n→dg d x=-1∨Way L n root x (dg d x)
  pos:∀ x,x<n→S x=true→0≤dg d x
  rel:∀ x,x<n→S x=true→∀ y,y<n→0<cst L x y→0≤dg d y∧dg d y≤dg d x+cst L x y
  ord:∀ x,x<n→∀ y,y<n→S x=true→S y=false→0≤dg d y→dg d x≤dg d y
  bd:∀ x,x<n→dg d x≤1000000*(cn S n:Int)
theorem DInv.low {L:List Ed} {n root:Nat} {d:List Int} {S:Nat→Bool} (h:DInv L n root d S) {x:Nat} (hx:x<n):dg d x=-1∨0≤dg d x:=by
  rcases h.ach x hx with q | q
  · exact .inl q
  · exact .inr q.nonneg
theorem dinv_start (L:List Ed) {n root:Nat} (hr:root<n):DInv L n root ((List.replicate n (-1)).set root 0) (fun _=>false):=by
  have e:∀ x,dg ((List.replicate n (-1)).set root 0) x=if x=root then 0 else -1:=fun x=>by
    rw [dg_set (by simpa using hr),dg_rep]
  refine ⟨by simp,by rw [e,if_pos rfl],fun x hx=>?_,fun x _ h=>by simp at h,fun x _ h=>by simp at h,fun x _ y _ h=>by simp at h,fun x _=>?_⟩
  · rw [e]
    by_cases q:x=root
    · subst q;rw [if_pos rfl];exact .inr (Way.here _ _ _)
    · rw [if_neg q];exact .inl rfl
  · rw [e];split<;>omega
def NearTo (d:List Int) (S:Nat→Bool) (j:Nat) (f:Int):Prop:=(f=-1∧∀ x,x<j→dg d x≠-1→S x=true)∨∃ k:Nat,f=(k:Int)∧k<j∧dg d k≠-1∧S k=false∧∀ y,y<j→S y=false→dg d y≠-1→dg d k≤dg d y
theorem near_start (d:List Int) (S:Nat→Bool):NearTo d S 0 (-1):=.inl ⟨rfl,fun x hx=>absurd hx (by omega)⟩
theorem near_skip {d:List Int} {S:Nat→Bool} {j:Nat} {f:Int} (h:NearTo d S j f) (hj:dg d j=-1∨S j=true):NearTo d S (j+1) f:=by
  rcases h with ⟨h1,h2⟩ | ⟨k,h1,h2,h3,h4,h5⟩
  · refine .inl ⟨h1,fun x hx hn=>?_⟩
    by_cases e:x=j
    · subst e;rcases hj with q | q
      · exact absurd q hn
      · exact q
    · exact h2 x (by omega) hn
  · refine .inr ⟨k,h1,by omega,h3,h4,fun y hy hs hn=>?_⟩
    by_cases e:y=j
    · subst e;rcases hj with q | q
      · exact absurd q hn
      · rw [hs] at q;simp at q
    · exact h5 y (by omega) hs hn
theorem near_first {d:List Int} {S:Nat→Bool} {j:Nat} (h:NearTo d S j (-1)) (h1:dg d j≠-1) (h2:S j=false):NearTo d S (j+1) (j:Int):=by
  rcases h with ⟨_,h3⟩ | ⟨k,h3,_⟩
  · refine .inr ⟨j,rfl,by omega,h1,h2,fun y hy hs hn=>?_⟩
    by_cases e:y=j
    · subst e;omega
    · have:=h3 y (by omega) hn;rw [hs] at this;simp at this
  · omega
theorem near_less {d:List Int} {S:Nat→Bool} {j k:Nat} (h:NearTo d S j (k:Int)) (h1:dg d j≠-1) (h2:S j=false) (hl:dg d j<dg d k):NearTo d S (j+1) (j:Int):=by
  rcases h with ⟨h3,_⟩ | ⟨k',h3,h4,h5,h6,h7⟩
  · omega
  · have e:k'=k:=by omega
    subst e
    refine .inr ⟨j,rfl,by omega,h1,h2,fun y hy hs hn=>?_⟩
    by_cases e:y=j
    · subst e;omega
    · have:=h7 y (by omega) hs hn;omega
theorem near_stay {d:List Int} {S:Nat→Bool} {j k:Nat} (h:NearTo d S j (k:Int)) (hl:¬ dg d j<dg d k):NearTo d S (j+1) (k:Int):=by
  rcases h with ⟨h3,_⟩ | ⟨k',h3,h4,h5,h6,h7⟩
  · omega
  · have e:k'=k:=by omega
    subst e
    refine .inr ⟨k',rfl,by omega,h5,h6,fun y hy hs hn=>?_⟩
    by_cases e:y=j
    · subst e;omega
    · exact h7 y (by omega) hs hn
theorem near_cases {d:List Int} {S:Nat→Bool} {j:Nat} {f:Int} (h:NearTo d S j f):f=-1∨∃ k:Nat,f=(k:Int)∧k<j:=by
  rcases h with ⟨h,_⟩ | ⟨k,h,h2,_⟩
  · exact .inl h
  · exact .inr ⟨k,h,h2⟩
theorem nv_self {n:Nat} {L:List Ed} (hF:∀ e∈L,okE n e=true) (d:List Int) (f:Nat):nv L d f f=dg d f:=by
  unfold nv;rw [cst_self hF,if_neg (by omega)]
theorem dinv_next {L:List Ed} {n root k:Nat} {d c:List Int} {S:Nat→Bool} (hF:∀ e∈L,okE n e=true) (h:DInv L n root d S) (hk:k<n) (hr:root<n) (hN:NearTo d S n (k:Int)) (hl:c.length=n) (hc:∀ x,x<n→dg c x=nv L d k x) :
    DInv L n root c (upd S k true)∧cn S n<cn (upd S k true) n:=by
  obtain ⟨h5,h6,h7⟩:dg d k≠-1∧S k=false∧∀ y,y<n→S y=false→dg d y≠-1→dg d k≤dg d y:=by
    rcases hN with ⟨h3,_⟩ | ⟨k',h3,h4,h5,h6,h7⟩
    · omega
    · have e:k'=k:=by omega
      subst e;exact ⟨h5,h6,h7⟩
  have hk0:0≤dg d k:=by rcases h.low hk with q | q<;>omega
  have hup:∀ x,upd S k true x=true↔x=k∨S x=true:=fun x=>by
    unfold upd;split
    · rename_i q;simp [q]
    · rename_i q;simp [q]
  have hnup:∀ x,upd S k true x=false↔x≠k∧S x=false:=fun x=>by
    unfold upd;split
    · rename_i q;simp [q]
    · rename_i q;simp [q]
  have hcn:cn S n<cn (upd S k true) n:=cn_more (fun x _ hs=>(hup x).2 (.inr hs)) hk h6 ((hup k).2 (.inl rfl))
  have old:∀ x,x<n→S x=true→nv L d k x=dg d x:=fun x hx hs=>by
    have h1:=h.ord x hx k hk hs h6 hk0
    have h2:=h.pos x hx hs
    unfold nv
    rw [if_neg]
    omega
  have ck:nv L d k k=dg d k:=nv_self hF d k
  have hge:∀ y,y<n→0≤dg d y→0≤nv L d k y∧nv L d k y≤dg d y:=fun y hy h0=>by
    unfold nv;split<;>omega
  have hcr:=fun y:Nat=>cst_range hF (k:Int) (y:Int)
  refine ⟨⟨hl,?_,?_,?_,?_,?_,?_⟩,hcn⟩
  · rw [hc root hr]
    have:=h.rt
    unfold nv;rw [if_neg];· exact this
    omega
  · intro x hx
    rw [hc x hx]
    unfold nv
    split
    · rename_i q
      right
      rcases h.ach k hk with w | w
      · omega
      · exact w.step hk q.1
    · exact h.ach x hx
  · intro x hx hs
    rw [hc x hx]
    rcases (hup x).1 hs with e | e
    · subst e;omega
    · rw [old x hx e];exact h.pos x hx e
  · intro x hx hs y hy hxy
    rw [hc x hx,hc y hy]
    rcases (hup x).1 hs with e | e
    · subst e
      rw [ck]
      rcases h.low hy with q | q<;>(unfold nv;split<;>omega)
    · rw [old x hx e]
      obtain ⟨h1,h2⟩:=h.rel x hx e y hy hxy
      have:=hge y hy h1
      omega
  · intro x hx y hy hs hn h0
    rw [hc y hy] at h0 ⊢
    rw [hc x hx]
    obtain ⟨n1,n2⟩:=(hnup y).1 hn
    have hlow:dg d k≤nv L d k y:=by
      unfold nv at h0 ⊢
      have:=hcr y
      split
      · omega
      · rename_i q
        rw [if_neg q] at h0
        exact h7 y hy n2 (by omega)
    rcases (hup x).1 hs with e | e
    · subst e;rw [ck];exact hlow
    · rw [old x hx e]
      have:=h.ord x hx k hk e h6 hk0
      omega
  · intro x hx
    rw [hc x hx]
    have h1:=h.bd x hx
    have h2:=h.bd k hk
    have h3:=hcr x
    have h4:(cn S n:Int)+1≤cn (upd S k true) n:=by omega
    unfold nv
    split<;>omega
theorem dinv_end {L:List Ed} {n root:Nat} {d:List Int} {S:Nat→Bool} (h:DInv L n root d S) (hr:root<n) (hN:NearTo d S n (-1)):IsDist L n root d∧∀ x,dg d x≤16000000∨16<n:=by
  have hall:∀ x,x<n→dg d x≠-1→S x=true:=by
    rcases hN with ⟨_,h3⟩ | ⟨k,h3,_⟩
    · exact h3
    · omega
  refine ⟨isDist_of h.len hr h.rt h.ach fun x hx h0 y hy hc=>h.rel x hx (hall x hx (by omega)) y hy hc,fun x=>?_⟩
  by_cases q:x<n
  · have:=h.bd x q
    have:=cn_le S n
    omega
  · rw [dg_out (by rw [h.len];omega)];omega

def good (L:List Ed) (d:List Int) (i f:Nat):Prop:=0<cst L f i∧dg d f+cst L f i=dg d i
def IsPar (L:List Ed) (d:List Int) (m i:Nat) (p:Int):Prop:=(p=-1∧∀ f,f<m→¬ good L d i f)∨∃ k:Nat,p=(k:Int)∧k<m∧good L d i k∧∀ f,f<k→¬ good L d i f
theorem IsPar.uniq {L:List Ed} {d:List Int} {m i:Nat} {p q:Int} (h:IsPar L d m i p) (g:IsPar L d m i q):p=q:=by
  rcases h with ⟨a1,a2⟩ | ⟨k,a1,a2,a3,a4⟩<;>rcases g with ⟨b1,b2⟩ | ⟨k',b1,b2,b3,b4⟩
  · omega
  · exact absurd b3 (a2 k' b2)
  · exact absurd a3 (b2 k a2)
  · rcases Nat.lt_trichotomy k k' with q | q | q
    · exact absurd a3 (b4 k q)
    · omega
    · exact absurd b3 (a4 k' q)
structure IsPars (L:List Ed) (d:List Int) (n:Nat) (P:List Int):Prop where
  len:P.length=n
  is:∀ i,i<n→IsPar L d n i (dg P i)
theorem IsPars.uniq {L:List Ed} {d:List Int} {n:Nat} {P Q:List Int} (h:IsPars L d n P) (g:IsPars L d n Q):P=Q:=
  dg_ext (by rw [h.len,g.len]) fun x hx=>(h.is x (by rw [h.len] at hx;exact hx)).uniq (g.is x (by rw [h.len] at hx;exact hx))
theorem IsPars.range {L:List Ed} {d:List Int} {n:Nat} {P:List Int} (h:IsPars L d n P) {i:Nat} (hi:i<n):-1≤dg P i∧dg P i<n:=by
  rcases h.is i hi with ⟨a1,a2⟩ | ⟨k,a1,a2,a3,a4⟩<;>omega
theorem IsPars.par {L:List Ed} {d:List Int} {n:Nat} {P:List Int} (h:IsPars L d n P) {i:Nat} (hi:i<n) (h0:0≤dg P i):∃ k:Nat,dg P i=(k:Int)∧k<n∧0<cst L k i∧dg d k+cst L k i=dg d i:=by
  rcases h.is i hi with ⟨a1,a2⟩ | ⟨k,a1,a2,a3,a4⟩
  · omega
  · exact ⟨k,a1,a2,a3.1,a3.2⟩
theorem good_facts {L:List Ed} {n root i f:Nat} {d:List Int} (hD:IsDist L n root d) (hr:root<n) (hi:i<n) (hf:f<n) (hg:good L d i f):i≠root∧0≤dg d i∧0≤dg d f:=by
  obtain ⟨h1,h2⟩:=hg
  have l1:=hD.low i
  have l2:=hD.low f
  have h3:0≤dg d i:=by omega
  have h4:0≤dg d f:=(hD.rel hi hf h3 (by rw [cst_comm];exact h1)).1
  refine ⟨?_,h3,h4⟩
  rintro rfl
  have:=hD.root hi
  omega
theorem par_some {L:List Ed} {n root i:Nat} {d P:List Int} (hD:IsDist L n root d) (hP:IsPars L d n P) (hi:i<n) (h0:0≤dg d i) (hne:i≠root):0≤dg P i:=by
  obtain ⟨x,hx,_,h1,h2⟩:=hD.pred hi h0 hne
  rcases hP.is i hi with ⟨a1,a2⟩ | ⟨k,a1,_⟩
  · exact absurd ⟨h1,h2⟩ (a2 x hx)
  · omega
theorem par_facts {L:List Ed} {n root i:Nat} {d P:List Int} (hD:IsDist L n root d) (hr:root<n) (hP:IsPars L d n P) (hi:i<n) (h0:0≤dg P i):∃ k:Nat,dg P i=(k:Int)∧k<n∧0<cst L k i∧dg d k+cst L k i=dg d i∧0≤dg d k∧0≤dg d i∧i≠root:=by
  obtain ⟨k,h1,h2,h3,h4⟩:=hP.par hi h0
  have:=good_facts hD hr hi h2 ⟨h3,h4⟩
  exact ⟨k,h1,h2,h3,h4,this.2.2,this.2.1,this.1⟩

def pa (P:List Int) (x:Int):Int:=if x<0 then -1 else dg P x.toNat
def anc (P:List Int):Nat→Int→Int
  | 0,x=>x
  | k+1,x=>anc P k (pa P x)
theorem pa_neg (P:List Int):pa P (-1)=-1:=by simp [pa]
theorem pa_nat (P:List Int) (x:Nat):pa P (x:Int)=dg P x:=by
  unfold pa;rw [if_neg (by omega)];rfl
theorem anc_neg (P:List Int) (k:Nat):anc P k (-1)=-1:=by
  induction k with
  | zero=>rfl
  | succ k ih=>rw [anc,pa_neg,ih]
theorem anc_out (P:List Int) (k:Nat) (x:Int):anc P (k+1) x=pa P (anc P k x):=by
  induction k generalizing x with
  | zero=>rfl
  | succ k ih=>rw [anc,ih];rfl
theorem anc_up (P:List Int) {k:Nat} {x:Int} (h:anc P k x=-1):anc P (k+1) x=-1:=by rw [anc_out,h,pa_neg]
theorem anc_mono (P:List Int) {k m:Nat} {x:Int} (h:anc P k x=-1) (hm:k≤m):anc P m x=-1:=by
  induction hm with
  | refl=>exact h
  | step _ ih=>exact anc_up P ih
def Rng (P:List Int):Prop:=∀ i,i<P.length→-1≤dg P i∧dg P i<P.length
theorem pa_rng {P:List Int} (h:Rng P) (x:Nat):pa P (x:Int)=-1∨∃ y:Nat,pa P (x:Int)=(y:Int)∧y<P.length:=by
  rw [pa_nat]
  rcases Nat.lt_or_ge x P.length with q | q
  · have:=h x q
    by_cases e:dg P x=-1
    · exact .inl e
    · exact .inr ⟨(dg P x).toNat,by omega,by omega⟩
  · exact .inl (dg_out q)
theorem anc_rng {P:List Int} (h:Rng P) {x:Nat} (hx:x<P.length) (k:Nat):anc P k (x:Int)=-1∨∃ y:Nat,anc P k (x:Int)=(y:Int)∧y<P.length:=by
  induction k with
  | zero=>exact .inr ⟨x,rfl,hx⟩
  | succ k ih=>
    rw [anc_out]
    rcases ih with q | ⟨y,q,hy⟩
    · rw [q,pa_neg];exact .inl rfl
    · rw [q];exact pa_rng h y
theorem anc_count {P:List Int} (h:Rng P):∀ k:Nat,(∃ x:Nat,x<P.length∧anc P (k+1) (x:Int)=-1∧anc P k (x:Int)≠-1)→k≤cn (fun x=>decide (anc P k (x:Int)=-1)) P.length:=by
  intro k
  induction k with
  | zero=>intro _;omega
  | succ k ih=>
    rintro ⟨x,hx,h1,h2⟩
    rcases pa_rng h x with e | ⟨y,e,hy⟩
    · refine absurd ?_ h2
      rw [anc,e,anc_neg]
    · rw [anc,e] at h1 h2
      have h3:=ih ⟨y,hy,h1,h2⟩
      have:=cn_more (S:=fun x:Nat=>decide (anc P k (x:Int)=-1)) (T:=fun x:Nat=>decide (anc P (k+1) (x:Int)=-1)) (n:=P.length) (y:=y)
        (fun z _ hz=>by simp at hz ⊢;exact anc_up P hz) hy (by simp;exact h2) (by simp;exact h1)
      omega
theorem anc_stop {P:List Int} (h:Rng P) {x:Nat} (hx:x<P.length) (h1:anc P (P.length+1) (x:Int)=-1):anc P P.length (x:Int)=-1:=by
  by_cases q:anc P P.length (x:Int)=-1
  · exact q
  · have h2:=anc_count h P.length ⟨x,hx,h1,q⟩
    have:=cn_lt (S:=fun z:Nat=>decide (anc P P.length (z:Int)=-1)) hx (by simp;exact q)
    omega
theorem anc_all {P:List Int} (h:Rng P):∀ (k x:Nat),x<P.length→anc P k (x:Int)=-1→anc P P.length (x:Int)=-1:=by
  intro k
  induction k with
  | zero=>intro x hx h1;rw [anc] at h1;omega
  | succ k ih=>
    intro x hx h1
    rw [anc] at h1
    rcases pa_rng h x with e | ⟨y,e,hy⟩
    · refine anc_mono P (k:=1) ?_ (by omega)
      rw [anc,e];rfl
    · rw [e] at h1
      refine anc_stop h hx ?_
      rw [anc,e]
      exact ih y hy h1
def en (P:List Int) (x:Nat):Bool:=decide (anc P P.length (x:Int)=-1)
def bad (P:List Int) (p:Int):Bool:=!decide (p=-1)&&!isn P.length p
def pf (P:List Int):Nat:=if 16<P.length then 4 else if P.any (bad P)=true then 1 else if (List.range P.length).any (fun x=>!en P x)=true then 3 else 0
theorem pf_le (P:List Int):pf P≤100:=by
  unfold pf
  repeat' split
  all_goals omega
structure Ok (P:List Int):Prop where
  len:P.length≤16
  rng:Rng P
  ends:∀ x,x<P.length→anc P P.length (x:Int)=-1
theorem bad_rng {P:List Int}:P.any (bad P)=false↔Rng P:=by
  constructor
  · intro h i hi
    have h1:=(List.any_eq_false.1 h) _ (List.getElem_mem hi)
    have e:dg P i=P[i]:=by simp [dg,List.getD_eq_getElem?_getD,List.getElem?_eq_getElem hi]
    rw [← e] at h1
    simp [bad,isn] at h1
    by_cases q:dg P i=-1
    · omega
    · have:=h1 q;omega
  · intro h
    rw [List.any_eq_false]
    intro p hp
    obtain ⟨i,hi,e⟩:=List.mem_iff_getElem.1 hp
    have e:dg P i=p:=by simp [dg,List.getD_eq_getElem?_getD,List.getElem?_eq_getElem hi,e]
    have:=h i hi
    rw [e] at this
    simp [bad,isn]
    omega
theorem pf_zero {P:List Int}:pf P=0↔Ok P:=by
  unfold pf
  by_cases h1:16<P.length
  · rw [if_pos h1]
    constructor
    · intro q;omega
    · intro q;have:=q.len;omega
  · rw [if_neg h1]
    cases h2:P.any (bad P) with
    | true=>
      rw [if_pos rfl]
      constructor
      · intro q;omega
      · intro q;rw [bad_rng.2 q.rng] at h2;simp at h2
    | false=>
      rw [if_neg (by simp)]
      cases h3:(List.range P.length).any (fun x=>!en P x) with
      | true=>
        rw [if_pos rfl]
        constructor
        · intro q;omega
        · intro q
          obtain ⟨x,hx,h4⟩:=List.any_eq_true.1 h3
          have:=q.ends x (by simpa using hx)
          simp [en,this] at h4
      | false=>
        rw [if_neg (by simp)]
        refine ⟨fun _=>⟨by omega,bad_rng.1 h2,fun x hx=>?_⟩,fun _=>rfl⟩
        have:=(List.any_eq_false.1 h3) x (by simpa using hx)
        simpa [en] using this
def wu (P:List Int):Nat→Int→List Int
  | 0,_=>[]
  | k+1,x=>if x<0 then [] else x::wu P k (pa P x)
theorem wu_neg (P:List Int) (k:Nat):wu P k (-1)=[]:=by
  cases k with
  | zero=>rfl
  | succ k=>rw [wu,if_pos (by omega)]
theorem wu_le (P:List Int) (k:Nat) (x:Int):(wu P k x).length≤k:=by
  induction k generalizing x with
  | zero=>simp [wu]
  | succ k ih=>
    rw [wu];split
    · simp
    · have:=ih (pa P x);simp;omega
theorem wu_step {P:List Int} {k:Nat} {x:Int} (hx:0≤x) (h:anc P k x=-1):∃ m,k=m+1∧wu P k x=x::wu P m (pa P x)∧anc P m (pa P x)=-1:=by
  cases k with
  | zero=>rw [anc] at h;omega
  | succ k=>exact ⟨k,rfl,by rw [wu,if_neg (by omega)],h⟩
def kd (P:List Int) (x:Int) (j:Nat):List Int:=((List.range j).filter fun i=>decide (dg P i=x)).map Int.ofNat
theorem kd_zero (P:List Int) (x:Int):kd P x 0=[]:=rfl
theorem kd_step (P:List Int) (x:Int) (j:Nat):kd P x (j+1)=if dg P j=x then kd P x j++[(j:Int)] else kd P x j:=by
  unfold kd
  rw [List.range_succ,List.filter_append,List.map_append]
  by_cases h:dg P j=x
  · rw [if_pos h];simp [h]
  · rw [if_neg h];simp [h]
theorem kd_len (P:List Int) (x:Int) (j:Nat):(kd P x j).length≤j:=by
  induction j with
  | zero=>simp [kd]
  | succ j ih=>
    rw [kd_step];split
    · rw [List.length_append,List.length_singleton];omega
    · omega
theorem kd_mem {P:List Int} {x:Int} {j i:Nat} (hi:i<j) (h:dg P i=x):(i:Int)∈kd P x j:=by
  unfold kd
  simp only [List.mem_map,List.mem_filter,List.mem_range]
  exact ⟨i,⟨hi,by simpa using h⟩,rfl⟩
def sm (L:List Ed) (P:List Int):Nat→Int
  | 0=>0
  | j+1=>sm L P j+(if dg P j<0 then 0 else cst L j (dg P j))
def lk (L:List Ed) (P:List Int):Nat→Bool
  | 0=>false
  | j+1=>lk L P j||(decide (0≤dg P j)&&decide (cst L j (dg P j)=0))
theorem sm_range {n:Nat} {L:List Ed} (hF:∀ e∈L,okE n e=true) (P:List Int) (j:Nat):0≤sm L P j∧sm L P j≤1000000*(j:Int):=by
  induction j with
  | zero=>simp [sm]
  | succ j ih=>
    rw [sm]
    have:=cst_range hF j (dg P j)
    split<;>omega
theorem lk_mono {L:List Ed} {P:List Int} {j m:Nat} (h:lk L P j=true) (hm:j≤m):lk L P m=true:=by
  induction hm with
  | refl=>exact h
  | step _ ih=>rw [lk,ih];rfl
def cf (n:Int) (L:List Ed) (P:List Int):Nat:=if ef n L≠0 then ef n L else if pf P≠0 then pf P else if (P.length:Int)≠n then 3 else if lk L P P.length=true then 5 else 0
def cv (n:Int) (L:List Ed) (P:List Int):Int:=if cf n L P=0 then sm L P P.length else 0
theorem cf_le (n:Int) (L:List Ed) (P:List Int):cf n L P≤100:=by
  have:=ef_le n L
  have:=pf_le P
  unfold cf
  repeat' split
  all_goals omega
def bf (P:List Int) (x:Int):Nat:=if pf P≠0 then pf P else if isn P.length x=false then 1 else 0
def lf (n:Int) (L:List Ed) (r:Int):Nat:=if ef n L≠0 then ef n L else if isn n r=false then 1 else 0
theorem bf_le (P:List Int) (x:Int):bf P x≤100:=by
  have:=pf_le P
  unfold bf
  repeat' split
  all_goals omega
theorem lf_le (n:Int) (L:List Ed) (r:Int):lf n L r≤100:=by
  have:=ef_le n L
  unfold lf
  repeat' split
  all_goals omega
theorem bf_zero {P:List Int} {x:Int} (h:bf P x=0):Ok P∧∃ k:Nat,x=(k:Int)∧k<P.length:=by
  unfold bf at h
  split at h
  · rename_i q;exact absurd h q
  · rename_i q
    split at h
    · omega
    · rename_i q2
      refine ⟨pf_zero.1 (by simpa using q),x.toNat,?_⟩
      simp [isn] at q2
      omega
theorem bf_of {P:List Int} {k:Nat} (h:Ok P) (hk:k<P.length):bf P (k:Int)=0:=by
  unfold bf
  rw [if_neg (by simpa using pf_zero.2 h),if_neg (by simp [isn,hk])]
theorem lf_zero {n r:Int} {L:List Ed} (h:lf n L r=0):∃ m k:Nat,n=(m:Int)∧r=(k:Int)∧k<m∧Fit m L:=by
  unfold lf at h
  split at h
  · rename_i q;exact absurd h q
  · rename_i q
    split at h
    · omega
    · rename_i q2
      obtain ⟨h0,hF⟩:=ef_zero.1 (by simpa using q)
      simp [isn] at q2
      exact ⟨n.toNat,r.toNat,by omega,by omega,by omega,hF⟩
end Go.Proofs.YtlppdppddiecnaaGreatDoor.TM
set_option linter.unusedVariables false
namespace Go.Proofs.YtlppdppddiecnaaGreatDoor.TM

theorem dg_cons_zero (x:Int) (V:List Int):dg (x::V) 0=x:=rfl
theorem dg_cons_succ (x:Int) (V:List Int) (j:Nat):dg (x::V) (j+1)=dg V j:=rfl
structure UpW (P:List Int) (x:Nat) (V:List Int):Prop where
  pos:1≤V.length
  first:dg V 0=(x:Int)
  next:∀ j,j+1<V.length→∃ v u:Nat,v<P.length∧u<P.length∧dg V j=(v:Int)∧dg V (j+1)=(u:Int)∧dg P v=(u:Int)
  last:∃ v:Nat,v<P.length∧dg V (V.length - 1)=(v:Int)∧dg P v=-1
theorem wu_up {P:List Int} (hR:Rng P):∀ (k x:Nat),x<P.length→anc P k (x:Int)=-1→UpW P x (wu P k (x:Int)):=by
  intro k
  induction k with
  | zero=>intro x hx h;rw [anc] at h;omega
  | succ k ih=>
    intro x hx h
    rw [anc] at h
    rw [wu,if_neg (by omega)]
    rcases pa_rng hR x with e | ⟨y,e,hy⟩
    · rw [e,wu_neg]
      rw [pa_nat] at e
      exact ⟨by simp,rfl,fun j hj=>by simp at hj,x,hx,rfl,e⟩
    · rw [e] at h ⊢
      have h1:=ih y hy h
      rw [pa_nat] at e
      refine ⟨by simp,rfl,fun j hj=>?_,?_⟩
      · cases j with
        | zero=>exact ⟨x,y,hx,hy,rfl,by rw [dg_cons_succ];exact h1.first,e⟩
        | succ j=>
          rw [dg_cons_succ,dg_cons_succ]
          exact h1.next j (by simpa using hj)
      · obtain ⟨v,hv,e1,e2⟩:=h1.last
        refine ⟨v,hv,?_,e2⟩
        have:=h1.pos
        rw [List.length_cons,show (wu P k (y:Int)).length+1 - 1=((wu P k (y:Int)).length - 1)+1 by omega,dg_cons_succ]
        exact e1
theorem dg_rev {L:List Int} {x:Nat} (h:x<L.length):dg L.reverse x=dg L (L.length - 1 - x):=by
  simp [dg,List.getD_eq_getElem?_getD,List.getElem?_reverse h]
structure DnW (P:List Int) (x:Nat) (W:List Int):Prop where
  pos:1≤W.length
  last:dg W (W.length - 1)=(x:Int)
  next:∀ i,1≤i→i<W.length→∃ u v:Nat,u<P.length∧v<P.length∧dg W (i - 1)=(u:Int)∧dg W i=(v:Int)∧dg P v=(u:Int)
  top:∃ v:Nat,v<P.length∧dg W 0=(v:Int)∧dg P v=-1
theorem UpW.down {P:List Int} {x:Nat} {V:List Int} (h:UpW P x V):DnW P x V.reverse:=by
  have hp:=h.pos
  refine ⟨by simpa using hp,?_,fun i h1 h2=>?_,?_⟩
  · rw [List.length_reverse,dg_rev (by omega),show V.length - 1 - (V.length - 1)=0 by omega];exact h.first
  · rw [List.length_reverse] at h2
    obtain ⟨v,u,hv,hu,e1,e2,e3⟩:=h.next (V.length - 1 - i) (by omega)
    refine ⟨u,v,hu,hv,?_,?_,e3⟩
    · rw [dg_rev (by omega),show V.length - 1 - (i - 1)=V.length - 1 - i+1 by omega];exact e2
    · rw [dg_rev (by omega)];exact e1
  · obtain ⟨v,hv,e1,e2⟩:=h.last
    exact ⟨v,hv,by rw [dg_rev (by omega)];exact e1,e2⟩
theorem pars_ok {L:List Ed} {n root:Nat} {d P:List Int} (hF:Fit n L) (hD:IsDist L n root d) (hr:root<n) (hP:IsPars L d n P):Ok P:=by
  have hl:=hP.len
  have hR:Rng P:=fun i hi=>by have:=hP.range (i:=i) (by omega);omega
  refine ⟨by rw [hl];exact hF.hi,hR,fun x hx=>?_⟩
  have key:∀ k x:Nat,x<n→dg d x<(k:Int)→anc P (k+1) (x:Int)=-1:=by
    intro k
    induction k with
    | zero=>
      intro x hx hk
      rw [anc,anc,pa_nat]
      by_cases q:0≤dg P x
      · obtain ⟨_,_,_,_,_,_,h6,_⟩:=par_facts hD hr hP hx q
        omega
      · have:=hP.range hx;omega
    | succ k ih=>
      intro x hx hk
      rw [anc,pa_nat]
      by_cases q:0≤dg P x
      · obtain ⟨y,e,hy,h3,h4,_,_,_⟩:=par_facts hD hr hP hx q
        rw [e]
        exact ih y hy (by omega)
      · have e:dg P x=-1:=by have:=hP.range hx;omega
        rw [e,anc_neg]
  exact anc_all hR _ x hx (key ((dg d x).toNat+1) x (by omega) (by omega))
theorem DnW.root {L:List Ed} {n root x:Nat} {d P W:List Int} (hD:IsDist L n root d) (hr:root<n) (hP:IsPars L d n P) (h:DnW P x W) (h0:0≤dg d x):dg W 0=(root:Int):=by
  have hl:=hP.len
  have key:∀ i,i<W.length→∃ v:Nat,v<n∧dg W (W.length - 1 - i)=(v:Int)∧0≤dg d v:=by
    intro i
    induction i with
    | zero=>
      intro _
      rw [Nat.sub_zero]
      rcases Nat.lt_or_ge x n with q | q
      · exact ⟨x,q,h.last,h0⟩
      · rw [dg_out (by rw [hD.len];exact q)] at h0;omega
    | succ i ih=>
      intro hi
      obtain ⟨v,hv,e,h1⟩:=ih (by omega)
      obtain ⟨u,v',hu,hv',e1,e2,e3⟩:=h.next (W.length - 1 - i) (by omega) (by omega)
      rw [e] at e2
      obtain rfl:v=v':=by omega
      obtain ⟨k,q1,q2,_,_,q5,_⟩:=par_facts hD hr hP hv (by omega)
      refine ⟨u,by omega,by rw [show W.length - 1 - (i+1)=W.length - 1 - i - 1 by omega];exact e1,?_⟩
      obtain rfl:k=u:=by omega
      exact q5
  have hp:=h.pos
  obtain ⟨v,hv,e,h1⟩:=key (W.length - 1) (by omega)
  rw [show W.length - 1 - (W.length - 1)=0 by omega] at e
  obtain ⟨v',hv',e1,e2⟩:=h.top
  rw [e] at e1
  obtain rfl:v=v':=by omega
  rw [e]
  by_cases q:v=root
  · rw [q]
  · have:=par_some hD hP hv h1 q
    omega
theorem DnW.one {L:List Ed} {n root x:Nat} {d P W:List Int} (hD:IsDist L n root d) (hr:root<n) (hP:IsPars L d n P) (h:DnW P x W) (h0:dg d x<0):W.length=1:=by
  have hp:=h.pos
  by_cases q:W.length=1
  · exact q
  · obtain ⟨u,v,hu,hv,e1,e2,e3⟩:=h.next (W.length - 1) (by omega) (by omega)
    have:=h.last
    rw [this] at e2
    obtain rfl:x=v:=by omega
    obtain ⟨k,_,_,_,_,_,q6,_⟩:=par_facts hD hr hP (by rw [← hP.len];exact hv) (by omega)
    omega
theorem DnW.step {L:List Ed} {n root x:Nat} {d P W:List Int} (hD:IsDist L n root d) (hr:root<n) (hP:IsPars L d n P) (h:DnW P x W) {i:Nat} (h1:1≤i) (hi:i<W.length) :
    ∃ u v:Nat,u<n∧v<n∧dg W (i - 1)=(u:Int)∧dg W i=(v:Int)∧dg P v=(u:Int)∧0<cst L u v∧dg d u+cst L u v=dg d v∧0≤dg d u:=by
  obtain ⟨u,v,hu,hv,e1,e2,e3⟩:=h.next i h1 hi
  obtain ⟨k,q1,q2,q3,q4,q5,_⟩:=par_facts hD hr hP (by rw [← hP.len];exact hv) (by omega)
  obtain rfl:k=u:=by omega
  exact ⟨k,v,q2,by rw [← hP.len];exact hv,e1,e2,e3,q3,q4,q5⟩
def sd (d P:List Int):Nat→Int
  | 0=>0
  | j+1=>sd d P j+(if dg P j<0 then 0 else dg d j - dg d (dg P j).toNat)
theorem sm_sd {L:List Ed} {n root:Nat} {d P:List Int} (hD:IsDist L n root d) (hr:root<n) (hP:IsPars L d n P):∀ j,j≤n→sm L P j=sd d P j∧lk L P j=false
  | 0,_=>⟨rfl,rfl⟩
  | j+1,hj=>by
    obtain ⟨h1,h2⟩:=sm_sd hD hr hP j (by omega)
    rw [sm,sd,lk,h1,h2]
    by_cases q:0≤dg P j
    · obtain ⟨k,e,_,q3,q4,_⟩:=par_facts hD hr hP (i:=j) (by omega) q
      rw [e]
      have:=cst_comm L j k
      rw [if_neg (by omega),if_neg (by omega),Int.toNat_natCast]
      refine ⟨by omega,?_⟩
      rw [this]
      simp
      omega
    · rw [if_pos (by omega),if_pos (by omega)]
      simp
      omega
theorem cost_built {L:List Ed} {n root:Nat} {d P:List Int} (hF:Fit n L) (hD:IsDist L n root d) (hr:root<n) (hP:IsPars L d n P):cf n L P=0∧cv n L P=sd d P n:=by
  have hO:=pars_ok hF hD hr hP
  have hs:=sm_sd hD hr hP n (by omega)
  have e:cf n L P=0:=by
    unfold cf
    rw [if_neg (by simpa using ef_zero.2 ⟨by omega,by simpa using hF⟩),if_neg (by simpa using pf_zero.2 hO),if_neg (by rw [hP.len];simp),hP.len,hs.2,if_neg (by simp)]
  exact ⟨e,by unfold cv;rw [if_pos e,hP.len,hs.1]⟩
end Go.Proofs.YtlppdppddiecnaaGreatDoor.TM
