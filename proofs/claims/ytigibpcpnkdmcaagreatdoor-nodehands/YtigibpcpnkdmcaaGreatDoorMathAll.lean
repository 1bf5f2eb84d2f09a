/-
  PackMath, RingMath, GapsMath, OrderMath, LayerMath, OutMath, PullMath in one text.
-/
import Derived.WalkKit
import Derived.Test.YtigibpcpnkdmcaaGreatDoorMemP
import Derived.Maps.RangeWalk
import Derived.Lib.SlKeysI

set_option linter.unusedVariables false
namespace Go.Proofs.YtigibpcpnkdmcaaGreatDoor.PM
def fault (seq time layer level:Int) (n:Nat):Nat:=
  if 0≤seq∧seq≤65535∧0≤time∧time≤4294967295∧0≤layer∧layer≤3∧0≤level∧level≤127 then (if n≤1000 then 0 else 4) else 1
theorem fault_zero {seq time layer level:Int} {n:Nat} (h:fault seq time layer level n=0):∃ s t l v:Nat,seq=s∧time=t∧layer=l∧level=v∧s≤65535∧t≤4294967295∧l≤3∧v≤127∧n≤1000:=by
  unfold fault at h
  split at h
  · rename_i hh
    split at h
    · exact ⟨seq.toNat,time.toNat,layer.toNat,level.toNat,by omega,by omega,by omega,by omega,by omega,by omega,by omega,by omega,by omega⟩
    · omega
  · omega
def first (layer:Nat) (start:Bool):Nat:=128+layer+(if start then 32 else 0)
def head (seq time layer level:Nat) (start:Bool):List Nat:=
  [first layer start,level,seq / 256,seq%256,time / 16777216,time / 65536%256,time / 256%256,time%256]
theorem head_lt {seq time layer level:Nat} (start:Bool) (hs:seq≤65535) (ht:time≤4294967295) (hl:layer≤3) (hv:level≤127):∀ c∈head seq time layer level start,c<256:=by
  intro c hc
  simp only [head,List.mem_cons,List.not_mem_nil,or_false] at hc
  rcases hc with rfl | rfl | rfl | rfl | rfl | rfl | rfl | rfl
  · unfold first;split<;>omega
  all_goals omega
def good (x:Nat):Bool:=(decide (128≤x)&&decide (x≤131))||(decide (160≤x)&&decide (x≤163))
def rfault (B:List Nat):Nat:=
  if B.length<8 then 8 else if good (B.getD 0 0)&&decide (B.getD 1 0≤127) then (if B.length≤1008 then 0 else 4) else 2
theorem eight {B:List Nat} (h:8≤B.length):∃ x0 x1 x2 x3 x4 x5 x6 x7 R,B=x0::x1::x2::x3::x4::x5::x6::x7::R:=by
  match B,h with
  | x0::x1::x2::x3::x4::x5::x6::x7::R,_=>exact ⟨x0,x1,x2,x3,x4,x5,x6,x7,R,rfl⟩
theorem rfault_short {B:List Nat} (h:B.length<8):rfault B=8:=by unfold rfault;rw [if_pos h]
theorem rfault_eight (x0 x1 x2 x3 x4 x5 x6 x7:Nat) (R:List Nat) :
    rfault (x0::x1::x2::x3::x4::x5::x6::x7::R)=if good x0&&decide (x1≤127) then (if R.length≤1000 then 0 else 4) else 2:=by
  unfold rfault
  simp only [List.length_cons,List.getD_cons_zero,List.getD_cons_succ]
  rw [if_neg (by omega)]
  by_cases h:R.length≤1000
  · rw [if_pos (by omega:R.length+1+1+1+1+1+1+1+1≤1008),if_pos h]
  · rw [if_neg (by omega:¬ R.length+1+1+1+1+1+1+1+1≤1008),if_neg h]
theorem first_lt {l:Nat} (s:Bool) (h:l≤3):first l s<256:=by unfold first;split<;>omega
theorem good_back {x:Nat} (h:good x=true):first (x%4) (decide (160≤x))=x∧x<256:=by
  have hx:x<164:=by
    simp only [good,Bool.or_eq_true,Bool.and_eq_true,decide_eq_true_eq] at h
    omega
  have:∀ x:Fin 164,good x.val=true→first (x.val%4) (decide (160≤x.val))=x.val:=by decide +kernel
  exact ⟨this ⟨x,hx⟩ h,by omega⟩
end Go.Proofs.YtigibpcpnkdmcaaGreatDoor.PM
namespace Go.Proofs.YtigibpcpnkdmcaaGreatDoor.RM
open Go Go.RowKit Go.Maps Go.Proofs.YtigibpcpnkdmcaaGreatDoor.Mem
set_option linter.unusedVariables false
structure Pk where
  s:Int
  t:Int
  l:Int
  q:Int
  st:Bool
  L:List Nat
  bv:Value
abbrev Its:=List (Int×Pk)
def key (y:Int):Lit:=.int .i64 y
theorem key_inj {x y:Int} (h:key x=key y):x=y:=by
  unfold key at h
  injection h
def top (T y:Int):Int:=if T<y then y else T
def keeps (n T:Int) (M:Its):Its:=M.filter fun i=>decide (T - n<i.1)
def has (M:Its) (y:Int):Bool:=M.any fun i=>i.1==y
theorem has_iff {M:Its} {y:Int}:has M y=true↔∃ i∈M,i.1=y:=by
  simp [has]
theorem has_no {M:Its} {y:Int} (h:has M y=false):∀ i∈M,i.1≠y:=by
  intro i hi e
  have:=has_iff.2 ⟨i,hi,e⟩
  rw [h] at this
  cases this
structure Inv (n T:Int) (M:Its):Prop where
  n1:1≤n
  n2:n≤64
  t1:-1≤T
  t2:T≤1099511627776
  mem:∀ i∈M,0≤i.1∧i.1≤T∧T - n<i.1
  one:M.Pairwise fun a b=>a.1≠b.1
  tops:(T=-1∧M=[])∨∃ i∈M,i.1=T
theorem inv_start {n:Int} (h1:1≤n) (h2:n≤64):Inv n (-1) []:=
  ⟨h1,h2,by omega,by omega,by simp,List.Pairwise.nil,.inl ⟨rfl,rfl⟩⟩
theorem Inv.len {n T:Int} {M:Its} (h:Inv n T M):(M.length:Int)≤n:=by
  have hn:(M.map fun i=>(T - i.1).toNat).Nodup:=by
    rw [List.nodup_iff_pairwise_ne,List.pairwise_map]
    refine h.one.imp_of_mem ?_
    intro a b ha hb hab e
    have:=h.mem a ha
    have:=h.mem b hb
    omega
  have:=List.Nodup.length_le_of_subset (l₂:=List.range n.toNat) hn (by
    intro x hx
    obtain ⟨i,hi,rfl⟩:=List.mem_map.1 hx
    have:=h.mem i hi
    simp only [List.mem_range]
    omega)
  simp at this
  have:=h.n1
  omega
theorem inv_put {n T y:Int} {M:Its} (h:Inv n T M) (p:Pk) (h0:0≤y) (h1:y≤1099511627776) (ho:T - n<y) (hh:has M y=false):Inv n (top T y) (keeps n (top T y) M++[(y,p)]):=by
  have hno:=has_no hh
  obtain ⟨n1,n2,t1,t2,hm,h5,h6⟩:=h
  refine ⟨n1,n2,?_,?_,?_,?_,?_⟩
  · unfold top;split<;>omega
  · unfold top;split<;>omega
  · intro i hi
    rcases List.mem_append.1 hi with hi | hi
    · obtain ⟨hi,hk⟩:=List.mem_filter.1 hi
      have:=hm i hi
      simp only [decide_eq_true_eq] at hk
      refine ⟨this.1,?_,hk⟩
      unfold top;split<;>omega
    · simp only [List.mem_singleton] at hi
      subst hi
      unfold top;split<;>simp<;>omega
  · rw [List.pairwise_append]
    refine ⟨h5.filter _,by simp,?_⟩
    intro a ha b hb
    simp only [List.mem_singleton] at hb
    subst hb
    exact hno a (List.mem_filter.1 ha).1
  · right
    by_cases hu:T<y
    · exact ⟨(y,p),by simp,by simp [top,hu]⟩
    · have ht:top T y=T:=by simp [top,hu]
      rcases h6 with ⟨h6,_⟩ | ⟨i,hi,e⟩
      · omega
      · exact ⟨i,List.mem_append.2 (.inl (List.mem_filter.2 ⟨hi,by rw [ht];simp;omega⟩)),by rw [ht,e]⟩
theorem keeps_same {n T:Int} {M:Its} (h:Inv n T M):keeps n T M=M:=by
  unfold keeps
  rw [List.filter_eq_self]
  intro i hi
  have:=h.mem i hi
  simp;omega
def pf (n T y:Int) (f:Nat):Nat:=if y<0∨1099511627776<y then 1 else if f≠0 then f else if y≤T - n then 6 else 0
def px (n T y:Int) (M:Its) (f:Nat):Bool:=decide (pf n T y f=0)&&!has M y
def pT (n T y:Int) (M:Its) (f:Nat):Int:=if px n T y M f then top T y else T
def pM (n T y:Int) (M:Its) (f:Nat) (p:Pk):Its:=if px n T y M f then keeps n (top T y) M++[(y,p)] else M
theorem pf_zero {n T y:Int} {f:Nat} (h:pf n T y f=0):0≤y∧y≤1099511627776∧f=0∧T - n<y:=by
  unfold pf at h
  split at h
  · omega
  · split at h
    · omega
    · split at h
      · omega
      · rename_i h1 h2 h3
        exact ⟨by omega,by omega,by omega,by omega⟩
theorem pf_mk {n T y:Int} {f:Nat} (h0:0≤y) (h1:y≤1099511627776) (hf:f=0) (ho:T - n<y):pf n T y f=0:=by
  unfold pf
  rw [if_neg (by omega),if_neg (by omega),if_neg (by omega)]
theorem px_true {n T y:Int} {M:Its} {f:Nat} (h:px n T y M f=true):pf n T y f=0∧has M y=false:=by
  simpa [px] using h
theorem inv_step {n T y:Int} {M:Its} (h:Inv n T M) (f:Nat) (p:Pk):Inv n (pT n T y M f) (pM n T y M f p):=by
  unfold pT pM
  by_cases hx:px n T y M f=true
  · obtain ⟨h1,h2⟩:=px_true hx
    obtain ⟨k1,k2,_,k4⟩:=pf_zero h1
    simp only [hx,if_true]
    exact inv_put h p k1 k2 k4 h2
  · simp only [hx]
    exact h
def low (T:Int) (M:Its):Int:=M.foldl (fun a i=>min a i.1) T
theorem low_le (T:Int) (M:Its):low T M≤T∧(∀ i∈M,low T M≤i.1)∧(low T M=T∨∃ i∈M,low T M=i.1):=by
  induction M generalizing T with
  | nil=>exact ⟨Int.le_refl _,by simp,.inl rfl⟩
  | cons a M ih=>
    obtain ⟨h1,h2,h3⟩:=ih (min T a.1)
    have e:low T (a::M)=low (min T a.1) M:=rfl
    rw [e]
    refine ⟨by omega,?_,?_⟩
    · intro i hi
      rcases List.mem_cons.1 hi with rfl | hi
      · omega
      · exact h2 i hi
    · rcases h3 with h3 | ⟨i,hi,h3⟩
      · rcases Int.le_total T a.1 with hle | hle
        · left;omega
        · right;exact ⟨a,by simp,by omega⟩
      · right;exact ⟨i,by simp [hi],h3⟩
theorem low_eq {T m:Int} {M:Its} (h1:m≤T) (h2:∀ i∈M,m≤i.1) (h3:m=T∨∃ i∈M,m=i.1):m=low T M:=by
  obtain ⟨k1,k2,k3⟩:=low_le T M
  have a:m≤low T M:=by
    rcases k3 with k3 | ⟨i,hi,k3⟩
    · omega
    · have:=h2 i hi;omega
  have b:low T M≤m:=by
    rcases h3 with h3 | ⟨i,hi,h3⟩
    · omega
    · have:=k2 i hi;omega
  omega
def PkIs (w:World) (v:Value) (p:Pk):Prop:=
  ∃ a m c,v=.agg #[.int .i64 p.s,.int .i64 p.t,.int .i64 p.l,.int .i64 p.q,.bool p.st,.slice a m c]∧w.ownsRow 0 5 1 (.slice a m c) m (cellsOf p.L)∧(∀ x∈p.L,x<256)∧m≤1000
theorem own_base {w:World} {base base' e size n:Nat} {v:Value} {xs:List Value} (h:w.ownsRow base e size v n xs) (hb:base'≤base):w.ownsRow base' e size v n xs:=by
  refine ⟨h.1,?_⟩
  rcases h.2 with h | ⟨g,cap,cur,e,hg,r⟩
  · exact .inl h
  · exact .inr ⟨g,cap,cur,e,Nat.le_trans hb hg,r⟩
theorem PkIs.only {w w':World} {v:Value} {p:Pk} {bs:List Nat} (h:PkIs w v p) (ho:Only bs w w') (hb:∀ k∈bs,∀ cs fr,w.heap[k]?≠some (.cells cs 5 fr)):PkIs w' v p:=by
  obtain ⟨a,m,c,rfl,hr,hx,hm⟩:=h
  refine ⟨a,m,c,rfl,ho.owns hr ?_,hx,hm⟩
  intro k hk hc
  rcases hr.2 with ⟨hn,_⟩ | ⟨g,cap,cur,e,_,hgg,_⟩
  · rw [hn] at hk;simp [Value.ownBlock] at hk
  · rw [e] at hk
    simp [Value.ownBlock] at hk
    subst hk
    exact hb _ hc _ _ hgg
def pkR:Value→Option (DataW Value×List MemPlace)
  | .agg cs=>match cs.toList with
    | [.int .i64 _,.int .i64 _,.int .i64 _,.int .i64 _,.bool _,.slice _ _ _]=>some (.held (.agg cs),[])
    | _=>none
  | _=>none
theorem pkR_mk (s t l q:Int) (st:Bool) (a:Option Addr) (m c:Nat):pkR (.agg #[.int .i64 s,.int .i64 t,.int .i64 l,.int .i64 q,.bool st,.slice a m c])=some (.held (.agg #[.int .i64 s,.int .i64 t,.int .i64 l,.int .i64 q,.bool st,.slice a m c]),[]):=rfl
theorem pkR_inv {v:Value} {y:DataW Value×List MemPlace} (h:pkR v=some y):(∃ s t l q st a m c,v=.agg #[.int .i64 s,.int .i64 t,.int .i64 l,.int .i64 q,.bool st,.slice a m c])∧y=(.held v,[]):=by
  unfold pkR at h
  split at h
  · rename_i cs
    split at h
    · rename_i s t l q st a m c hcs
      refine ⟨⟨s,t,l,q,st,a,m,c,?_⟩,(Option.some.inj h).symm⟩
      congr 1
      exact Array.toList_inj.1 hcs
    · cases h
  · cases h
def Keys (D:DataW Value) (M:Its):Prop:=∀ k:Lit,Maps.has D k=true↔∃ i∈M,k=key i.1
def Elems (w:World) (D:DataW Value) (M:Its):Prop:=∀ i∈M,∃ v,(∀ zd,D.atKey (key i.1) zd=.held v)∧PkIs w v i.2
theorem Elems.only {w w':World} {D:DataW Value} {M:Its} {bs:List Nat} (h:Elems w D M) (ho:Only bs w w') (hb:∀ k∈bs,∀ cs fr,w.heap[k]?≠some (.cells cs 5 fr)):Elems w' D M:=by
  intro i hi
  obtain ⟨v,h1,h2⟩:=h i hi
  exact ⟨v,h1,h2.only ho hb⟩
theorem keys_empty:Keys (.map []) []:=by
  intro k
  constructor
  · intro h;simp [Maps.has] at h
  · rintro ⟨i,hi,_⟩;simp at hi
theorem Keys.at {D:DataW Value} {M:Its} (h:Keys D M) (y:Int):Maps.has D (key y)=has M y:=by
  rw [Bool.eq_iff_iff,h (key y),has_iff]
  constructor
  · rintro ⟨i,hi,e⟩;exact ⟨i,hi,(key_inj e).symm⟩
  · rintro ⟨i,hi,e⟩;exact ⟨i,hi,by rw [e]⟩
theorem keyLit (y:Int):WideAt.IsKeyLit (key y):=trivial
theorem Keys.size {D:DataW Value} {M:Its} (h:Keys D M) (ht:∃ es,D=.map es∧es.Pairwise (fun p q=>p.1≠q.1)∧∀ p∈es,WideAt.IsKeyLit p.1) (h1:M.Pairwise fun a b=>a.1≠b.1):Maps.size D=M.length:=by
  obtain ⟨es,rfl,hp,hl⟩:=ht
  have n1:(es.map Prod.fst).Nodup:=by rw [List.nodup_iff_pairwise_ne,List.pairwise_map];exact hp
  have n2:(M.map fun i=>key i.1).Nodup:=by
    rw [List.nodup_iff_pairwise_ne,List.pairwise_map]
    exact h1.imp fun hab e=>hab (key_inj e)
  have s1:∀ x∈es.map Prod.fst,x∈M.map fun i=>key i.1:=by
    intro x hx
    obtain ⟨e,he,rfl⟩:=List.mem_map.1 hx
    obtain ⟨i,hi,h⟩:=(h e.1).1 (List.any_eq_true.2 ⟨e,he,WideAt.sameKey_self (hl e he)⟩)
    exact List.mem_map.2 ⟨i,hi,h.symm⟩
  have s2:∀ x∈M.map (fun i=>key i.1),x∈es.map Prod.fst:=by
    intro x hx
    obtain ⟨i,hi,rfl⟩:=List.mem_map.1 hx
    obtain ⟨e,he,hs⟩:=List.any_eq_true.1 ((h (key i.1)).2 ⟨i,hi,rfl⟩)
    exact List.mem_map.2 ⟨e,he,WideAt.sameKey_eq hs⟩
  have l1:=List.Nodup.length_le_of_subset n1 s1
  have l2:=List.Nodup.length_le_of_subset n2 s2
  simp at l1 l2
  simp [Maps.size]
  omega
def cur (M:Its) (kp:Int→Bool) (left:Lit→Bool):Its:=M.filter fun i=>kp i.1||left (key i.1)
theorem cur_start {D:DataW Value} {M:Its} (h:Keys D M) (kp:Int→Bool):cur M kp (Maps.has D)=M:=by
  unfold cur
  rw [List.filter_eq_self]
  intro i hi
  simp [(h (key i.1)).2 ⟨i,hi,rfl⟩]
theorem cur_stays {M:Its} {kp:Int→Bool} {left:Lit→Bool} {x:Int} (hx:kp x=true):cur M kp (fun z=>left z&&!z.sameKey (key x))=cur M kp left:=by
  unfold cur
  apply List.filter_congr
  intro i hi
  by_cases e:i.1=x
  · simp [e,hx]
  · have hs:(key i.1).sameKey (key x)=false:=sameKey_ne (fun h=>e (key_inj h))
    simp [hs]
theorem cur_end {M:Its} {kp:Int→Bool} {left:Lit→Bool} (h:∀ k,left k=false):cur M kp left=M.filter fun i=>kp i.1:=by
  unfold cur
  apply List.filter_congr
  intro i hi
  simp [h]
theorem mem_struck {M:Its} {kp:Int→Bool} {left:Lit→Bool} {x:Int} (hx:kp x=false) (i:Int×Pk):i∈cur M kp (fun z=>left z&&!z.sameKey (key x))↔i∈cur M kp left∧i.1≠x:=by
  unfold cur
  rw [List.mem_filter,List.mem_filter]
  by_cases e:i.1=x
  · simp [e,hx,WideAt.sameKey_self (keyLit x)]
  · have hs:(key i.1).sameKey (key x)=false:=sameKey_ne (fun h=>e (key_inj h))
    simp [hs,e]
theorem keys_struck {D:DataW Value} {M:Its} {kp:Int→Bool} {left:Lit→Bool} {x:Int} (hx:kp x=false) (h:Keys D (cur M kp left)):Keys (D.del (key x)) (cur M kp (fun z=>left z&&!z.sameKey (key x))):=by
  intro k
  by_cases e:k=key x
  · subst e
    rw [has_del_same]
    constructor
    · intro h;cases h
    · rintro ⟨i,hi,e⟩
      exact absurd (key_inj e).symm ((mem_struck hx i).1 hi).2
  · rw [has_del_other e,h k]
    constructor
    · rintro ⟨i,hi,rfl⟩;exact ⟨i,(mem_struck hx i).2 ⟨hi,fun h=>e (by rw [h])⟩,rfl⟩
    · rintro ⟨i,hi,rfl⟩;exact ⟨i,((mem_struck hx i).1 hi).1,rfl⟩
theorem elems_struck {w:World} {D:DataW Value} {M:Its} {kp:Int→Bool} {left:Lit→Bool} {x:Int} (hx:kp x=false) (h:Elems w D (cur M kp left)):Elems w (D.del (key x)) (cur M kp (fun z=>left z&&!z.sameKey (key x))):=by
  intro i hi
  obtain ⟨h1,h2⟩:=(mem_struck hx i).1 hi
  obtain ⟨v,h3,h4⟩:=h i h1
  exact ⟨v,fun zd=>by rw [atKey_del_other (fun e=>h2 (key_inj e)),h3],h4⟩
theorem keys_put {D:DataW Value} {M:Its} {y:Int} (hD:IsMap D) (h:Keys D M) (d:DataW Value) (p:Pk):Keys (D.put (key y) d) (M++[(y,p)]):=by
  intro k
  by_cases e:k=key y
  · subst e
    rw [has_put_same hD (keyLit y)]
    exact ⟨fun _=>⟨(y,p),by simp,rfl⟩,fun _=>rfl⟩
  · rw [has_put_other e,h k]
    constructor
    · rintro ⟨i,hi,rfl⟩;exact ⟨i,by simp [hi],rfl⟩
    · rintro ⟨i,hi,rfl⟩
      rcases List.mem_append.1 hi with hi | hi
      · exact ⟨i,hi,rfl⟩
      · simp only [List.mem_singleton] at hi
        subst hi
        exact absurd rfl e
theorem elems_put {w:World} {D:DataW Value} {M:Its} {y:Int} {v:Value} {p:Pk} (hD:IsMap D) (h:Elems w D M) (hn:has M y=false) (hv:PkIs w v p):Elems w (D.put (key y) (.held v)) (M++[(y,p)]):=by
  intro i hi
  rcases List.mem_append.1 hi with hi | hi
  · obtain ⟨u,h1,h2⟩:=h i hi
    exact ⟨u,fun zd=>by rw [atKey_put_other (fun e=>has_no hn i hi (key_inj e)),h1],h2⟩
  · simp only [List.mem_singleton] at hi
    subst hi
    exact ⟨v,fun zd=>atKey_put_same hD (keyLit y) _ _,hv⟩
theorem tight {P:Program} {k:TypeId} {R:Value→Option (DataW Value×List MemPlace)} {w:World} {b n:Nat} {D:DataW Value} (h:w.ownsMap P k R b n D):w.ownsMap P k R b (Maps.size D) D:=by
  obtain ⟨es,clock,hb,F,hs,rfl⟩:=h
  refine ⟨es,clock,hb,F,?_,rfl⟩
  simp [Maps.size,length_sorted]
theorem map_block {P:Program} {k:TypeId} {R:Value→Option (DataW Value×List MemPlace)} {w:World} {b n:Nat} {D:DataW Value} (h:w.ownsMap P k R b n D):∃ es c,w.heap[b]?=some (.map es c):=by
  obtain ⟨es,clock,hb,_⟩:=h
  exact ⟨es,clock,hb⟩
theorem has_keeps {n T y:Int} {M:Its} (h:has M y=false):has (keeps n T M) y=false:=by
  rw [Bool.eq_false_iff]
  intro hh
  obtain ⟨i,hi,e⟩:=has_iff.1 hh
  exact has_no h i (List.mem_filter.1 hi).1 e
end Go.Proofs.YtigibpcpnkdmcaaGreatDoor.RM
namespace Go.Proofs.YtigibpcpnkdmcaaGreatDoor.GM
open Go Go.RowKit Go.Maps Go.Proofs.YtigibpcpnkdmcaaGreatDoor.Mem
set_option linter.unusedVariables false
structure Lk where
  n:Int
  t:Int
  a:Int
abbrev Its:=List Lk
def nums (M:Its):List Int:=M.map Lk.n
def key (y:Int):Lit:=.int .i64 y
theorem key_inj {x y:Int} (h:key x=key y):x=y:=by
  unfold key at h
  injection h
def has (M:Its) (y:Int):Bool:=M.any fun i=>i.n==y
theorem has_iff {M:Its} {y:Int}:has M y=true↔∃ i∈M,i.n=y:=by
  simp [has]
def Ris (M:Its):Prop:=M.Pairwise fun a b=>a.n<b.n
theorem Ris.apart {M:Its} (h:Ris M):M.Pairwise fun a b=>a.n≠b.n:=h.imp fun h=>by omega
structure Inv (ag tr nw T:Int) (M:Its):Prop where
  a1:1≤ag
  a2:ag≤1000000
  r1:1≤tr
  r2:tr≤20
  n1:0≤nw
  n2:nw≤1000000
  t1:-1≤T
  t2:T≤1099511627776
  mem:∀ x∈M,0≤x.n∧x.n<T∧0≤x.t∧x.t≤tr∧0≤x.a∧x.a≤nw
  ris:Ris M
  len:M.length≤200
theorem inv_start {ag tr:Int} (h1:1≤ag) (h2:ag≤1000000) (h3:1≤tr) (h4:tr≤20):Inv ag tr 0 (-1) []:=
  ⟨h1,h2,h3,h4,by omega,by omega,by omega,by omega,by simp,List.Pairwise.nil,by simp⟩
def tf (nw now:Int):Nat:=if now<0∨1000000<now then 1 else if now<nw then 6 else 0
theorem tf_zero {nw now:Int} (h:tf nw now=0):0≤now∧now≤1000000∧nw≤now:=by
  unfold tf at h
  split at h
  · omega
  · split at h<;>omega
def lo (T y:Int):Int:=if T=-1∨y≤T then 0 else y - T - 1
theorem lo_nn {T y:Int}:0≤lo T y:=by unfold lo;split<;>omega
def hf (nw T:Int) (M:Its) (y now:Int):Nat:=
  if tf nw now≠0 then tf nw now else if y<0∨1099511627776<y then 1 else if 200<(M.length:Int)+lo T y then 4 else 0
theorem hf_zero {nw T y now:Int} {M:Its} (h:hf nw T M y now=0):tf nw now=0∧0≤y∧y≤1099511627776∧(M.length:Int)+lo T y≤200:=by
  unfold hf at h
  split at h
  · omega
  · split at h
    · omega
    · split at h<;>omega
def fresh (T:Int) (k:Nat):Its:=(List.range k).map fun (j:Nat)=>⟨T+1+(j:Int),0,0⟩
theorem fresh_succ (T:Int) (k:Nat):fresh T (k+1)=fresh T k++[⟨T+1+(k:Int),0,0⟩]:=by
  simp [fresh,List.range_succ]
theorem fresh_len (T:Int) (k:Nat):(fresh T k).length=k:=by simp [fresh]
theorem mem_fresh {T:Int} {k:Nat} {x:Lk}:x∈fresh T k↔∃ j:Nat,j<k∧x=⟨T+1+(j:Int),0,0⟩:=by
  simp only [fresh,List.mem_map,List.mem_range]
  constructor
  · rintro ⟨j,h,rfl⟩;exact ⟨j,h,rfl⟩
  · rintro ⟨j,h,rfl⟩;exact ⟨j,h,rfl⟩
def hx (T:Int) (M:Its) (y:Int):Bool:=decide (T<y)||has M y
def hT (T y:Int):Int:=if T<y then y else T
def hM (T:Int) (M:Its) (y:Int):Its:=if T<y then M++fresh T (lo T y).toNat else M.filter fun i=>decide (i.n≠y)
theorem inv_hear {ag tr nw T y now:Int} {M:Its} (h:Inv ag tr nw T M) (h0:hf nw T M y now=0):Inv ag tr now (hT T y) (hM T M y):=by
  obtain ⟨k0,k1,k2,k3⟩:=hf_zero h0
  obtain ⟨j1,j2,j3⟩:=tf_zero k0
  have hlo:=@lo_nn T y
  have h1:=h.t1
  have h2:=h.t2
  have h3:=h.r1
  unfold hT hM
  by_cases c:T<y
  · simp only [c,if_true]
    refine ⟨h.a1,h.a2,h.r1,h.r2,j1,j2,by omega,k2,?_,?_,?_⟩
    · intro x hx
      rcases List.mem_append.1 hx with hx | hx
      · have:=h.mem x hx
        omega
      · obtain ⟨j,hj,rfl⟩:=mem_fresh.1 hx
        have e:lo T y=y - T - 1:=by
          unfold lo at hj ⊢
          split at hj
          · simp at hj
          · rename_i q;rw [if_neg q]
        simp only
        omega
    · unfold Ris
      rw [List.pairwise_append]
      refine ⟨h.ris,?_,?_⟩
      · unfold fresh
        rw [List.pairwise_map]
        exact List.pairwise_lt_range.imp fun q=>by show (_:Int)<_;simp only;omega
      · intro a ha b hb
        have:=h.mem a ha
        obtain ⟨j,hj,rfl⟩:=mem_fresh.1 hb
        simp only
        omega
    · rw [List.length_append,fresh_len];omega
  · simp only [c,if_false]
    refine ⟨h.a1,h.a2,h.r1,h.r2,j1,j2,h1,h2,?_,h.ris.filter _,?_⟩
    · intro x hx
      have:=h.mem x (List.mem_filter.1 hx).1
      omega
    · have:=List.length_filter_le (fun i:Lk=>decide (i.n≠y)) M
      have:=h.len
      omega
def stays (ag now:Int) (x:Lk):Bool:=decide (0<x.t)&&decide (now - x.a<ag)
def asks (ag tr now:Int) (x:Lk):Bool:=!stays ag now x&&!decide (x.t=tr)
def hB (nw T:Int) (M:Its) (y now:Int):Bool:=decide (hf nw T M y now=0)&&hx T M y
def hN (nw T:Int) (M:Its) (y now:Int):Int:=if hf nw T M y now=0 then now else nw
def hU (nw T:Int) (M:Its) (y now:Int):Int:=if hf nw T M y now=0 then hT T y else T
def hL (nw T:Int) (M:Its) (y now:Int):Its:=if hf nw T M y now=0 then hM T M y else M
theorem inv_hear2 {ag tr nw T y now:Int} {M:Its} (h:Inv ag tr nw T M):Inv ag tr (hN nw T M y now) (hU nw T M y now) (hL nw T M y now):=by
  unfold hN hU hL
  by_cases h0:hf nw T M y now=0
  · simp only [h0,if_true]
    exact inv_hear h h0
  · simp only [h0,if_false]
    exact h
def lv (x:Lk):Value:=.agg #[.int .i64 x.t,.int .i64 x.a]
def akR:Value→Option (DataW Value×List MemPlace)
  | .agg cs=>match cs.toList with
    | [.int .i64 _,.int .i64 _]=>some (.held (.agg cs),[])
    | _=>none
  | _=>none
theorem akR_mk (t a:Int):akR (.agg #[.int .i64 t,.int .i64 a])=some (.held (.agg #[.int .i64 t,.int .i64 a]),[]):=rfl
theorem akR_inv {v:Value} {y:DataW Value×List MemPlace} (h:akR v=some y):(∃ t a,v=.agg #[.int .i64 t,.int .i64 a])∧y=(.held v,[]):=by
  unfold akR at h
  split at h
  · rename_i cs
    split at h
    · rename_i t a hcs
      refine ⟨⟨t,a,?_⟩,(Option.some.inj h).symm⟩
      congr 1
      exact Array.toList_inj.1 hcs
    · cases h
  · cases h
def Keys (D:DataW Value) (M:Its):Prop:=∀ k:Lit,Maps.has D k=true↔∃ i∈M,k=key i.n
def Elems (D:DataW Value) (M:Its):Prop:=∀ i∈M,∀ zd,D.atKey (key i.n) zd=.held (lv i)
theorem keys_empty:Keys (.map []) []:=by
  intro k
  constructor
  · intro h;simp [Maps.has] at h
  · rintro ⟨i,hi,_⟩;simp at hi
theorem Keys.at {D:DataW Value} {M:Its} (h:Keys D M) (y:Int):Maps.has D (key y)=has M y:=by
  rw [Bool.eq_iff_iff,h (key y),has_iff]
  constructor
  · rintro ⟨i,hi,e⟩;exact ⟨i,hi,(key_inj e).symm⟩
  · rintro ⟨i,hi,e⟩;exact ⟨i,hi,by rw [e]⟩
theorem keyLit (y:Int):WideAt.IsKeyLit (key y):=trivial
theorem Keys.size {D:DataW Value} {M:Its} (h:Keys D M) (ht:∃ es,D=.map es∧es.Pairwise (fun p q=>p.1≠q.1)∧∀ p∈es,WideAt.IsKeyLit p.1) (h1:M.Pairwise fun a b=>a.n≠b.n):Maps.size D=M.length:=by
  obtain ⟨es,rfl,hp,hl⟩:=ht
  have n1:(es.map Prod.fst).Nodup:=by rw [List.nodup_iff_pairwise_ne,List.pairwise_map];exact hp
  have n2:(M.map fun i=>key i.n).Nodup:=by
    rw [List.nodup_iff_pairwise_ne,List.pairwise_map]
    exact h1.imp fun hab e=>hab (key_inj e)
  have s1:∀ x∈es.map Prod.fst,x∈M.map fun i=>key i.n:=by
    intro x hx
    obtain ⟨e,he,rfl⟩:=List.mem_map.1 hx
    obtain ⟨i,hi,h⟩:=(h e.1).1 (List.any_eq_true.2 ⟨e,he,WideAt.sameKey_self (hl e he)⟩)
    exact List.mem_map.2 ⟨i,hi,h.symm⟩
  have s2:∀ x∈M.map (fun i=>key i.n),x∈es.map Prod.fst:=by
    intro x hx
    obtain ⟨i,hi,rfl⟩:=List.mem_map.1 hx
    obtain ⟨e,he,hs⟩:=List.any_eq_true.1 ((h (key i.n)).2 ⟨i,hi,rfl⟩)
    exact List.mem_map.2 ⟨e,he,WideAt.sameKey_eq hs⟩
  have l1:=List.Nodup.length_le_of_subset n1 s1
  have l2:=List.Nodup.length_le_of_subset n2 s2
  simp at l1 l2
  simp [Maps.size]
  omega
theorem Keys.perm {P:Program} {k:TypeId} {R:Value→Option (DataW Value×List MemPlace)} {w:World} {b n:Nat} {D:DataW Value} {M:Its} (h:Keys D M) (hown:w.ownsMap P k R b n D) (K:Keyed P k) (hk:P.underlying k=some (.int .i64)) (h1:Ris M):(nums M).Perm (intKeys D):=by
  obtain ⟨es,hD,hpw,_⟩:=hown.entries K
  obtain ⟨es',hD',hko⟩:=hown.keysOf
  obtain rfl:es=es':=by rw [hD] at hD';simpa using hD'
  subst hD
  refine perm_intKeys hpw (fun p hp=>by obtain ⟨v,hv⟩:=hko p hp;obtain ⟨x,_,hx,_⟩:=Maps.keyOf_i64 hk hv;exact ⟨x,hx⟩) ?_ (fun x=>?_)
  · rw [List.nodup_iff_pairwise_ne,nums,List.pairwise_map]
    exact h1.apart
  · rw [show Lit.int .i64 x=key x from rfl,h (key x),nums,List.mem_map]
    constructor
    · rintro ⟨i,hi,rfl⟩;exact ⟨i,hi,rfl⟩
    · rintro ⟨i,hi,e⟩;exact ⟨i,hi,(key_inj e).symm⟩
theorem sorted_nums {M:Its} (h:Ris M) {ss:List Int} (hp:ss.Perm (nums M)):ss.mergeSort (fun x y=>decide (x≤y))=nums M:=by
  have:=mergeSort_of_perm_i hp
  refine this.trans (List.mergeSort_of_pairwise ?_)
  rw [nums,List.pairwise_map]
  exact h.imp fun q=>by simp;omega
theorem keys_put {D:DataW Value} {M:Its} (hD:IsMap D) (h:Keys D M) (x:Lk) (d:DataW Value):Keys (D.put (key x.n) d) (M++[x]):=by
  intro k
  by_cases e:k=key x.n
  · subst e
    rw [has_put_same hD (keyLit _)]
    exact ⟨fun _=>⟨x,by simp,rfl⟩,fun _=>rfl⟩
  · rw [has_put_other e,h k]
    constructor
    · rintro ⟨i,hi,rfl⟩;exact ⟨i,by simp [hi],rfl⟩
    · rintro ⟨i,hi,rfl⟩
      rcases List.mem_append.1 hi with hi | hi
      · exact ⟨i,hi,rfl⟩
      · simp only [List.mem_singleton] at hi
        subst hi
        exact absurd rfl e
theorem elems_put {D:DataW Value} {M:Its} {x:Lk} (hD:IsMap D) (h:Elems D M) (hr:∀ i∈M,i.n≠x.n):Elems (D.put (key x.n) (.held (lv x))) (M++[x]):=by
  intro i hi zd
  rcases List.mem_append.1 hi with hi | hi
  · rw [atKey_put_other (fun e=>hr i hi (key_inj e))]
    exact h i hi zd
  · simp only [List.mem_singleton] at hi
    subst hi
    exact atKey_put_same hD (keyLit _) _ _
theorem keys_strike {D:DataW Value} {M:Its} (h:Keys D M) (y:Int):Keys (D.del (key y)) (M.filter fun i=>decide (i.n≠y)):=by
  intro k
  by_cases e:k=key y
  · subst e
    rw [has_del_same]
    constructor
    · intro h;cases h
    · rintro ⟨i,hi,e⟩
      have:=(List.mem_filter.1 hi).2
      simp at this
      exact absurd (key_inj e).symm this
  · rw [has_del_other e,h k]
    constructor
    · rintro ⟨i,hi,rfl⟩;exact ⟨i,List.mem_filter.2 ⟨hi,by simp;exact fun h=>e (by rw [h])⟩,rfl⟩
    · rintro ⟨i,hi,rfl⟩;exact ⟨i,(List.mem_filter.1 hi).1,rfl⟩
theorem elems_strike {D:DataW Value} {M:Its} (h:Elems D M) (y:Int):Elems (D.del (key y)) (M.filter fun i=>decide (i.n≠y)):=by
  intro i hi zd
  obtain ⟨h1,h2⟩:=List.mem_filter.1 hi
  simp at h2
  rw [atKey_del_other (fun e=>h2 (key_inj e))]
  exact h i h1 zd
theorem tight {P:Program} {k:TypeId} {R:Value→Option (DataW Value×List MemPlace)} {w:World} {b n:Nat} {D:DataW Value} (h:w.ownsMap P k R b n D):w.ownsMap P k R b (Maps.size D) D:=by
  obtain ⟨es,clock,hb,F,hs,rfl⟩:=h
  refine ⟨es,clock,hb,F,?_,rfl⟩
  simp [Maps.size,length_sorted]
theorem map_block {P:Program} {k:TypeId} {R:Value→Option (DataW Value×List MemPlace)} {w:World} {b n:Nat} {D:DataW Value} (h:w.ownsMap P k R b n D):∃ es c,w.heap[b]?=some (.map es c):=by
  obtain ⟨es,clock,hb,_⟩:=h
  exact ⟨es,clock,hb⟩
end Go.Proofs.YtigibpcpnkdmcaaGreatDoor.GM
namespace Go.Proofs.YtigibpcpnkdmcaaGreatDoor.OM
open Go Go.RowKit Go.Maps Go.Proofs.YtigibpcpnkdmcaaGreatDoor.Mem
set_option linter.unusedVariables false
structure Pk where
  s:Int
  t:Int
  l:Int
  q:Int
  st:Bool
  L:List Nat
  bv:Value
structure Kp where
  n:Int
  g:Bool
  p:Pk
  a:Int
abbrev Its:=List Kp
def zpk:Pk:=⟨0,0,0,0,false,[],.slice none 0 0⟩
def gone (y a:Int):Kp:=⟨y,true,zpk,a⟩
def key (y:Int):Lit:=.int .i64 y
theorem key_inj {x y:Int} (h:key x=key y):x=y:=by
  unfold key at h
  injection h
def has (M:Its) (y:Int):Bool:=M.any fun i=>i.n==y
theorem has_iff {M:Its} {y:Int}:has M y=true↔∃ i∈M,i.n=y:=by
  simp [has]
theorem has_no {M:Its} {y:Int} (h:has M y=false):∀ i∈M,i.n≠y:=by
  intro i hi e
  have:=has_iff.2 ⟨i,hi,e⟩
  rw [h] at this
  cases this
theorem no_has {M:Its} {y:Int} (h:∀ i∈M,i.n≠y):has M y=false:=by
  rw [Bool.eq_false_iff]
  intro hh
  obtain ⟨i,hi,e⟩:=has_iff.1 hh
  exact h i hi e
def Apart (M:Its):Prop:=M.Pairwise fun a b=>a.n≠b.n
structure Inv (nw nx:Int) (M:Its):Prop where
  c1:0≤nw
  c2:nw≤1000000
  x1:-1≤nx
  x2:nx≤1099511627777
  mem:∀ i∈M,0≤i.n∧nx≤i.n∧i.n<nx+200∧i.n≤1099511627776∧0≤i.a∧i.a≤nw
  one:Apart M
  non:nx=-1→M=[]
theorem inv_start:Inv 0 (-1) []:=⟨by omega,by omega,by omega,by omega,by simp,List.Pairwise.nil,fun _=>rfl⟩
theorem Inv.len {nw nx:Int} {M:Its} (h:Inv nw nx M):M.length≤200:=by
  have hn:(M.map fun i=>(i.n - nx).toNat).Nodup:=by
    rw [List.nodup_iff_pairwise_ne,List.pairwise_map]
    refine h.one.imp_of_mem ?_
    intro a b ha hb hab e
    have:=h.mem a ha
    have:=h.mem b hb
    omega
  have:=List.Nodup.length_le_of_subset (l₂:=List.range 200) hn (by
    intro x hx
    obtain ⟨i,hi,rfl⟩:=List.mem_map.1 hx
    have:=h.mem i hi
    simp only [List.mem_range]
    omega)
  simpa using this
theorem inv_add {nw nx now:Int} {M:Its} (h:Inv nw nx M) (x:Kp) (hw:nw≤now) (h6:now≤1000000) (h0:0≤x.n) (h1:x.n≤1099511627776) (hx:nx≤x.n) (hf:x.n<nx+200) (hn:nx≠-1) (ha:x.a=now) (hh:has M x.n=false):Inv now nx (M++[x]):=by
  have c1:=h.c1
  refine ⟨by omega,h6,h.x1,h.x2,?_,?_,fun e=>absurd e hn⟩
  · intro i hi
    rcases List.mem_append.1 hi with hi | hi
    · have:=h.mem i hi
      omega
    · simp only [List.mem_singleton] at hi
      subst hi
      omega
  · unfold Apart
    rw [List.pairwise_append]
    refine ⟨h.one,by simp,?_⟩
    intro i hi b hb
    simp only [List.mem_singleton] at hb
    subst hb
    exact has_no hh i hi
theorem Inv.later {nw nx now:Int} {M:Its} (h:Inv nw nx M) (hw:nw≤now) (h6:now≤1000000):Inv now nx M:=by
  have c1:=h.c1
  exact ⟨by omega,h6,h.x1,h.x2,fun i hi=>by have:=h.mem i hi;omega,h.one,h.non⟩
def tf (nw now:Int):Nat:=if now<0∨1000000<now then 1 else if now<nw then 6 else 0
theorem tf_zero {nw now:Int} (h:tf nw now=0):0≤now∧now≤1000000∧nw≤now:=by
  unfold tf at h
  split at h
  · omega
  · split at h<;>omega
theorem tf_mk {nw now:Int} (h0:0≤now) (h1:now≤1000000) (h2:nw≤now):tf nw now=0:=by
  unfold tf
  rw [if_neg (by omega),if_neg (by omega)]
def fx (nx y:Int):Int:=if nx=-1 then y else nx
def far (nx y:Int):Bool:=decide (nx≠-1)&&decide (200≤y - nx)
def pf (nw nx y now:Int) (f:Nat):Nat:=
  if tf nw now≠0 then tf nw now else if y<0∨1099511627776<y then 1 else if f≠0 then f else if far nx y then 4 else 0
def kx (nx y:Int) (M:Its):Bool:=decide (nx≤y)&&!has M y
def px (nw nx y now:Int) (M:Its) (f:Nat):Bool:=decide (pf nw nx y now f=0)&&kx (fx nx y) y M
def pW (nw nx y now:Int) (f:Nat):Int:=if pf nw nx y now f=0 then now else nw
def pX (nw nx y now:Int) (f:Nat):Int:=if pf nw nx y now f=0 then fx nx y else nx
def pM (nw nx y now:Int) (M:Its) (f:Nat) (p:Pk):Its:=if px nw nx y now M f then M++[⟨y,false,p,now⟩] else M
theorem pf_zero {nw nx y now:Int} {f:Nat} (h:pf nw nx y now f=0):tf nw now=0∧0≤y∧y≤1099511627776∧f=0∧far nx y=false:=by
  unfold pf at h
  split at h
  · omega
  · split at h
    · omega
    · split at h
      · omega
      · split at h
        · omega
        · rename_i h1 h2 h3 h4
          exact ⟨by omega,by omega,by omega,by omega,by simpa using h4⟩
theorem pf_mk {nw nx y now:Int} {f:Nat} (h1:tf nw now=0) (h2:0≤y) (h3:y≤1099511627776) (h4:f=0) (h5:far nx y=false):pf nw nx y now f=0:=by
  unfold pf
  rw [if_neg (by omega),if_neg (by omega),if_neg (by omega),h5]
  rfl
theorem far_no {nx y:Int} (h:far nx y=false):nx=-1∨y<nx+200:=by
  simp [far] at h
  omega
theorem inv_push {nw nx y now:Int} {M:Its} (h:Inv nw nx M) (f:Nat) (p:Pk):Inv (pW nw nx y now f) (pX nw nx y now f) (pM nw nx y now M f p):=by
  unfold pW pX pM px
  by_cases h0:pf nw nx y now f=0
  · obtain ⟨k1,k2,k3,k4,k5⟩:=pf_zero h0
    obtain ⟨j1,j2,j3⟩:=tf_zero k1
    have hx1:=h.x1
    simp only [h0,if_true,decide_true,Bool.true_and]
    have hI:Inv nw (fx nx y) M:=by
      unfold fx
      split
      · rename_i e
        have hM:=h.non e
        subst hM
        exact ⟨h.c1,h.c2,by omega,by omega,by simp,List.Pairwise.nil,fun _=>rfl⟩
      · exact h
    by_cases hk:kx (fx nx y) y M=true
    · simp only [hk,if_true]
      simp only [kx,Bool.and_eq_true,decide_eq_true_eq,Bool.not_eq_true'] at hk
      refine inv_add hI _ j3 j2 k2 k3 hk.1 ?_ ?_ rfl hk.2
      · have:=far_no k5
        show y<fx nx y+200
        unfold fx
        split<;>omega
      · unfold fx;split<;>omega
    · simp only [hk]
      exact hI.later j3 j2
  · simp only [h0,if_false,decide_false,Bool.false_and]
    exact h
def late (wt now:Int) (i:Kp):Bool:=decide (wt≤now - i.a)
structure Od (wt now:Int) (M:Its) (od:Int):Prop where
  low:-1≤od
  all:∀ i∈M,late wt now i=true→i.n≤od
  one:od=-1∨∃ i∈M,late wt now i=true∧od=i.n
theorem od_ex (wt now:Int) (M:Its) (h:∀ i∈M,0≤i.n):∃ od,Od wt now M od:=by
  induction M with
  | nil=>exact ⟨-1,by omega,by simp,.inl rfl⟩
  | cons a M ih=>
    obtain ⟨od,h1,h2,h3⟩:=ih (fun i hi=>h i (by simp [hi]))
    have ha:=h a (by simp)
    by_cases c:late wt now a=true∧od<a.n
    · refine ⟨a.n,by omega,?_,.inr ⟨a,by simp,c.1,rfl⟩⟩
      intro i hi hl
      rcases List.mem_cons.1 hi with rfl | hi
      · omega
      · have:=h2 i hi hl;omega
    · refine ⟨od,h1,?_,?_⟩
      · intro i hi hl
        rcases List.mem_cons.1 hi with rfl | hi
        · have:¬ od<i.n:=fun h=>c ⟨hl,h⟩
          omega
        · exact h2 i hi hl
      · rcases h3 with h3 | ⟨i,hi,h3⟩
        · exact .inl h3
        · exact .inr ⟨i,by simp [hi],h3⟩
def goes (M:Its) (od x:Int):Bool:=has M x||decide (x<od)
structure Stop (M:Its) (od nx:Int) (K:Nat):Prop where
  all:∀ j:Nat,j<K→goes M od (nx+j)=true
  stop:goes M od (nx+K)=false
theorem stop_any {M:Its} {od:Int} (f:Nat):∀ nx:Int,(∀ y,nx+f≤y→goes M od y=false)→∃ K,K≤f∧Stop M od nx K:=by
  induction f with
  | zero=>
    intro nx h
    exact ⟨0,Nat.le_refl _,fun j hj=>by omega,h _ (by simp)⟩
  | succ f ih=>
    intro nx h
    by_cases c:goes M od nx=true
    · obtain ⟨K,hK,h1,h2⟩:=ih (nx+1) (fun y hy=>h y (by omega))
      refine ⟨K+1,by omega,fun j hj=>?_,?_⟩
      · cases j with
        | zero=>simpa using c
        | succ j=>
          have:=h1 j (by omega)
          rw [show nx+((j+1:Nat):Int)=nx+1+(j:Int) by omega]
          exact this
      · rw [show nx+((K+1:Nat):Int)=nx+1+(K:Int) by omega]
        exact h2
    · exact ⟨0,by omega,fun j hj=>by omega,by simpa using c⟩
theorem stop_ex {wt nw nx now od:Int} {M:Its} (h:Inv nw nx M) (ho:Od wt now M od):∃ K,K≤200∧Stop M od nx K:=by
  refine stop_any 200 nx (fun y hy=>?_)
  have hx:=h.x1
  simp only [goes,Bool.or_eq_false_iff,decide_eq_false_iff_not]
  refine ⟨no_has fun i hi e=>?_,?_⟩
  · have:=h.mem i hi
    omega
  · rcases ho.one with e | ⟨i,hi,_,e⟩
    · omega
    · have:=h.mem i hi
      omega
def itm (M:Its) (y:Int):Kp:=(M.find? fun i=>i.n==y).getD (gone y 0)
theorem itm_no {M:Its} {y:Int} (h:has M y=false):itm M y=gone y 0:=by
  have:(M.find? fun i=>i.n==y)=none:=by
    rw [List.find?_eq_none]
    intro i hi
    have:=has_no h i hi
    simpa using this
  simp [itm,this]
theorem itm_has {M:Its} {y:Int} (h:has M y=true):itm M y∈M∧(itm M y).n=y:=by
  obtain ⟨i,hi,e⟩:=has_iff.1 h
  cases hf:M.find? (fun i=>i.n==y) with
  | none=>exact absurd (List.find?_eq_none.1 hf i hi) (by simp [e])
  | some j=>
    have:itm M y=j:=by simp [itm,hf]
    rw [this]
    exact ⟨List.mem_of_find?_eq_some hf,by simpa using List.find?_some hf⟩
theorem itm_n (M:Its) (y:Int):(itm M y).n=y:=by
  by_cases h:has M y=true
  · exact (itm_has h).2
  · rw [itm_no (by simpa using h)];rfl
theorem itm_eq {M:Its} (h1:Apart M) {i:Kp} (hi:i∈M):itm M i.n=i:=by
  obtain ⟨hj,e⟩:=itm_has (has_iff.2 ⟨i,hi,rfl⟩)
  generalize itm M i.n=j at *
  induction M with
  | nil=>simp at hi
  | cons a M ih=>
    obtain ⟨p1,p2⟩:=List.pairwise_cons.1 h1
    rcases List.mem_cons.1 hj with rfl | hj'
    · rcases List.mem_cons.1 hi with rfl | hi'
      · rfl
      · exact absurd e (p1 i hi')
    · rcases List.mem_cons.1 hi with rfl | hi'
      · exact absurd e.symm (p1 j hj')
      · exact ih p2 hi' hj'
def takes (M:Its) (nx:Int) (K:Nat):Its:=(List.range K).map fun (j:Nat)=>itm M (nx+(j:Int))
theorem takes_succ (M:Its) (nx:Int) (K:Nat):takes M nx (K+1)=takes M nx K++[itm M (nx+(K:Int))]:=by
  simp [takes,List.range_succ]
theorem takes_len (M:Its) (nx:Int) (K:Nat):(takes M nx K).length=K:=by simp [takes]
def rest (M:Its) (x:Int):Its:=M.filter fun i=>decide (x≤i.n)
theorem rest_all {nw nx:Int} {M:Its} (h:Inv nw nx M):rest M nx=M:=by
  unfold rest
  rw [List.filter_eq_self]
  intro i hi
  have:=h.mem i hi
  simp;omega
theorem rest_succ (M:Its) (x:Int):rest M (x+1)=(rest M x).filter fun i=>decide (i.n≠x):=by
  unfold rest
  rw [List.filter_filter]
  apply List.filter_congr
  intro i hi
  rw [Bool.eq_iff_iff]
  simp
  omega
theorem rest_has (M:Its) (x:Int):has (rest M x) x=has M x:=by
  rw [Bool.eq_iff_iff,has_iff,has_iff]
  constructor
  · rintro ⟨i,hi,e⟩;exact ⟨i,(List.mem_filter.1 hi).1,e⟩
  · rintro ⟨i,hi,e⟩;exact ⟨i,List.mem_filter.2 ⟨hi,by simp;omega⟩,e⟩
theorem rest_itm {M:Its} (h:Apart M) (x:Int):itm (rest M x) x=itm M x:=by
  by_cases c:has M x=true
  · obtain ⟨i,hi,rfl⟩:=has_iff.1 c
    rw [itm_eq h hi]
    exact itm_eq (h.filter _) (List.mem_filter.2 ⟨hi,by simp⟩)
  · have c':has M x=false:=by simpa using c
    rw [itm_no c',itm_no (by rw [rest_has];exact c')]
theorem goes_max {nw nx od wt now x:Int} {M:Its} (h:Inv nw nx M) (ho:Od wt now M od) (hx:goes M od x=true):x≤1099511627776:=by
  simp only [goes,Bool.or_eq_true,decide_eq_true_eq] at hx
  rcases hx with hx | hx
  · obtain ⟨i,hi,rfl⟩:=has_iff.1 hx
    have:=h.mem i hi
    omega
  · rcases ho.one with e | ⟨i,hi,_,e⟩
    · have:=h.x1;omega
    · have:=h.mem i hi;omega
theorem inv_pop {wt nw nx now od:Int} {M:Its} {K:Nat} (h:Inv nw nx M) (ht:tf nw now=0) (ho:Od wt now M od) (hs:∀ j:Nat,j<K→goes M od (nx+j)=true):Inv now (nx+(K:Int)) (rest M (nx+(K:Int))):=by
  obtain ⟨j1,j2,j3⟩:=tf_zero ht
  have hx1:=h.x1
  refine ⟨j1,j2,by omega,?_,?_,h.one.filter _,?_⟩
  · cases K with
    | zero=>simpa using h.x2
    | succ K=>
      have:=goes_max h ho (hs K (by omega))
      omega
  · intro i hi
    obtain ⟨hi,hk⟩:=List.mem_filter.1 hi
    have:=h.mem i hi
    simp only [decide_eq_true_eq] at hk
    omega
  · intro e
    have:M=[]:=h.non (by omega)
    subst this
    rfl
def c8 (i:Kp):List Value:=[.int .i64 i.n,.bool i.g,.int .i64 i.p.s,.int .i64 i.p.t,.int .i64 i.p.l,.int .i64 i.p.q,.bool i.p.st,i.p.bv]
def lv (i:Kp):Value:=.agg #[.int .i64 i.n,.bool i.g,.int .i64 i.p.s,.int .i64 i.p.t,.int .i64 i.p.l,.int .i64 i.p.q,.bool i.p.st,i.p.bv,.int .i64 i.a]
def wtR:Value→Option (DataW Value×List MemPlace)
  | .agg cs=>match cs.toList with
    | [.int .i64 _,.bool _,.int .i64 _,.int .i64 _,.int .i64 _,.int .i64 _,.bool _,.slice _ _ _,.int .i64 _]=>some (.held (.agg cs),[])
    | _=>none
  | _=>none
theorem wtR_mk (n:Int) (g:Bool) (s t l q:Int) (st:Bool) (a:Option Addr) (m c:Nat) (z:Int):wtR (.agg #[.int .i64 n,.bool g,.int .i64 s,.int .i64 t,.int .i64 l,.int .i64 q,.bool st,.slice a m c,.int .i64 z])=some (.held (.agg #[.int .i64 n,.bool g,.int .i64 s,.int .i64 t,.int .i64 l,.int .i64 q,.bool st,.slice a m c,.int .i64 z]),[]):=rfl
theorem wtR_inv {v:Value} {y:DataW Value×List MemPlace} (h:wtR v=some y):(∃ n g s t l q st a m c z,v=.agg #[.int .i64 n,.bool g,.int .i64 s,.int .i64 t,.int .i64 l,.int .i64 q,.bool st,.slice a m c,.int .i64 z])∧y=(.held v,[]):=by
  unfold wtR at h
  split at h
  · rename_i cs
    split at h
    · rename_i n g s t l q st a m c z hcs
      refine ⟨⟨n,g,s,t,l,q,st,a,m,c,z,?_⟩,(Option.some.inj h).symm⟩
      congr 1
      exact Array.toList_inj.1 hcs
    · cases h
  · cases h
def Body (w:World) (p:Pk):Prop:=∃ a m c,p.bv=.slice a m c∧w.ownsRow 0 5 1 (.slice a m c) m (cellsOf p.L)∧(∀ x∈p.L,x<256)∧m≤1000
def Bodies (w:World) (M:Its):Prop:=∀ i∈M,Body w i.p
theorem own_base {w:World} {base base' e size n:Nat} {v:Value} {xs:List Value} (h:w.ownsRow base e size v n xs) (hb:base'≤base):w.ownsRow base' e size v n xs:=by
  refine ⟨h.1,?_⟩
  rcases h.2 with h | ⟨g,cap,cur,e,hg,r⟩
  · exact .inl h
  · exact .inr ⟨g,cap,cur,e,Nat.le_trans hb hg,r⟩
theorem Body.only {w w':World} {p:Pk} {bs:List Nat} (h:Body w p) (ho:Only bs w w') (hb:∀ k∈bs,∀ cs fr,w.heap[k]?≠some (.cells cs 5 fr)):Body w' p:=by
  obtain ⟨a,m,c,e,hr,hx,hm⟩:=h
  refine ⟨a,m,c,e,ho.owns hr ?_,hx,hm⟩
  intro k hk hc
  rcases hr.2 with ⟨hn,_⟩ | ⟨g,cap,cur,e,_,hgg,_⟩
  · rw [hn] at hk;simp [Value.ownBlock] at hk
  · rw [e] at hk
    simp [Value.ownBlock] at hk
    subst hk
    exact hb _ hc _ _ hgg
theorem body_z (w:World):Body w zpk:=⟨none,0,0,rfl,by simpa [zpk,cellsOf] using World.ownsRow_nil w 0 5 1,by simp [zpk],by omega⟩
theorem Bodies.only {w w':World} {M:Its} {bs:List Nat} (h:Bodies w M) (ho:Only bs w w') (hb:∀ k∈bs,∀ cs fr,w.heap[k]?≠some (.cells cs 5 fr)):Bodies w' M:=fun i hi=>(h i hi).only ho hb
theorem Bodies.itm {w:World} {M:Its} (h:Bodies w M) (y:Int):Body w (itm M y).p:=by
  by_cases c:has M y=true
  · exact h _ (itm_has c).1
  · rw [itm_no (by simpa using c)]
    exact body_z w
theorem Bodies.app {w:World} {M:Its} (h:Bodies w M) {x:Kp} (hx:Body w x.p):Bodies w (M++[x]):=by
  intro i hi
  rcases List.mem_append.1 hi with hi | hi
  · exact h i hi
  · simp only [List.mem_singleton] at hi
    subst hi
    exact hx
theorem Bodies.sub {w:World} {M N:Its} (h:Bodies w M) (hs:∀ i∈N,i∈M):Bodies w N:=fun i hi=>h i (hs i hi)
def Keys (D:DataW Value) (M:Its):Prop:=∀ k:Lit,Maps.has D k=true↔∃ i∈M,k=key i.n
def Elems (D:DataW Value) (M:Its):Prop:=∀ i∈M,∀ zd,D.atKey (key i.n) zd=.held (lv i)
theorem keys_empty:Keys (.map []) []:=by
  intro k
  constructor
  · intro h;simp [Maps.has] at h
  · rintro ⟨i,hi,_⟩;simp at hi
theorem Keys.at {D:DataW Value} {M:Its} (h:Keys D M) (y:Int):Maps.has D (key y)=has M y:=by
  rw [Bool.eq_iff_iff,h (key y),has_iff]
  constructor
  · rintro ⟨i,hi,e⟩;exact ⟨i,hi,(key_inj e).symm⟩
  · rintro ⟨i,hi,e⟩;exact ⟨i,hi,by rw [e]⟩
theorem keyLit (y:Int):WideAt.IsKeyLit (key y):=trivial
theorem Keys.size {D:DataW Value} {M:Its} (h:Keys D M) (ht:∃ es,D=.map es∧es.Pairwise (fun p q=>p.1≠q.1)∧∀ p∈es,WideAt.IsKeyLit p.1) (h1:M.Pairwise fun a b=>a.n≠b.n):Maps.size D=M.length:=by
  obtain ⟨es,rfl,hp,hl⟩:=ht
  have n1:(es.map Prod.fst).Nodup:=by rw [List.nodup_iff_pairwise_ne,List.pairwise_map];exact hp
  have n2:(M.map fun i=>key i.n).Nodup:=by
    rw [List.nodup_iff_pairwise_ne,List.pairwise_map]
    exact h1.imp fun hab e=>hab (key_inj e)
  have s1:∀ x∈es.map Prod.fst,x∈M.map fun i=>key i.n:=by
    intro x hx
    obtain ⟨e,he,rfl⟩:=List.mem_map.1 hx
    obtain ⟨i,hi,h⟩:=(h e.1).1 (List.any_eq_true.2 ⟨e,he,WideAt.sameKey_self (hl e he)⟩)
    exact List.mem_map.2 ⟨i,hi,h.symm⟩
  have s2:∀ x∈M.map (fun i=>key i.n),x∈es.map Prod.fst:=by
    intro x hx
    obtain ⟨i,hi,rfl⟩:=List.mem_map.1 hx
    obtain ⟨e,he,hs⟩:=List.any_eq_true.1 ((h (key i.n)).2 ⟨i,hi,rfl⟩)
    exact List.mem_map.2 ⟨e,he,WideAt.sameKey_eq hs⟩
  have l1:=List.Nodup.length_le_of_subset n1 s1
  have l2:=List.Nodup.length_le_of_subset n2 s2
  simp at l1 l2
  simp [Maps.size]
  omega
theorem keys_put {D:DataW Value} {M:Its} (hD:IsMap D) (h:Keys D M) (x:Kp) (d:DataW Value):Keys (D.put (key x.n) d) (M++[x]):=by
  intro k
  by_cases e:k=key x.n
  · subst e
    rw [has_put_same hD (keyLit _)]
    exact ⟨fun _=>⟨x,by simp,rfl⟩,fun _=>rfl⟩
  · rw [has_put_other e,h k]
    constructor
    · rintro ⟨i,hi,rfl⟩;exact ⟨i,by simp [hi],rfl⟩
    · rintro ⟨i,hi,rfl⟩
      rcases List.mem_append.1 hi with hi | hi
      · exact ⟨i,hi,rfl⟩
      · simp only [List.mem_singleton] at hi
        subst hi
        exact absurd rfl e
theorem elems_put {D:DataW Value} {M:Its} {x:Kp} (hD:IsMap D) (h:Elems D M) (hr:∀ i∈M,i.n≠x.n):Elems (D.put (key x.n) (.held (lv x))) (M++[x]):=by
  intro i hi zd
  rcases List.mem_append.1 hi with hi | hi
  · rw [atKey_put_other (fun e=>hr i hi (key_inj e))]
    exact h i hi zd
  · simp only [List.mem_singleton] at hi
    subst hi
    exact atKey_put_same hD (keyLit _) _ _
theorem keys_strike {D:DataW Value} {M:Its} (h:Keys D M) (y:Int):Keys (D.del (key y)) (M.filter fun i=>decide (i.n≠y)):=by
  intro k
  by_cases e:k=key y
  · subst e
    rw [has_del_same]
    constructor
    · intro h;cases h
    · rintro ⟨i,hi,e⟩
      have:=(List.mem_filter.1 hi).2
      simp at this
      exact absurd (key_inj e).symm this
  · rw [has_del_other e,h k]
    constructor
    · rintro ⟨i,hi,rfl⟩;exact ⟨i,List.mem_filter.2 ⟨hi,by simp;exact fun h=>e (by rw [h])⟩,rfl⟩
    · rintro ⟨i,hi,rfl⟩;exact ⟨i,(List.mem_filter.1 hi).1,rfl⟩
theorem elems_strike {D:DataW Value} {M:Its} (h:Elems D M) (y:Int):Elems (D.del (key y)) (M.filter fun i=>decide (i.n≠y)):=by
  intro i hi zd
  obtain ⟨h1,h2⟩:=List.mem_filter.1 hi
  simp at h2
  rw [atKey_del_other (fun e=>h2 (key_inj e))]
  exact h i h1 zd
theorem tight {P:Program} {k:TypeId} {R:Value→Option (DataW Value×List MemPlace)} {w:World} {b n:Nat} {D:DataW Value} (h:w.ownsMap P k R b n D):w.ownsMap P k R b (Maps.size D) D:=by
  obtain ⟨es,clock,hb,F,hs,rfl⟩:=h
  refine ⟨es,clock,hb,F,?_,rfl⟩
  simp [Maps.size,length_sorted]
theorem map_block {P:Program} {k:TypeId} {R:Value→Option (DataW Value×List MemPlace)} {w:World} {b n:Nat} {D:DataW Value} (h:w.ownsMap P k R b n D):∃ es c,w.heap[b]?=some (.map es c):=by
  obtain ⟨es,clock,hb,_⟩:=h
  exact ⟨es,clock,hb⟩
def flat (f:Kp→List Value) (M:Its):List Value:=M.flatMap f
theorem flat_app (f:Kp→List Value) (M N:Its):flat f (M++N)=flat f M++flat f N:=by simp [flat]
theorem flat_one (f:Kp→List Value) (i:Kp):flat f [i]=f i:=by simp [flat]
theorem flat_get {f:Kp→List Value} {z:Nat} (hf:∀ i,(f i).length=z) (M:Its) (j:Nat) (i:Kp) (h:M[j]?=some i) (c:Nat) (hc:c<z):(flat f M)[j*z+c]?=(f i)[c]?:=by
  induction M generalizing j with
  | nil=>simp at h
  | cons a M ih=>
    have e:flat f (a::M)=f a++flat f M:=by simp [flat]
    rw [e]
    cases j with
    | zero=>
      simp only [List.getElem?_cons_zero,Option.some.injEq] at h
      subst h
      rw [List.getElem?_append_left (by rw [hf];omega)]
      simp
    | succ j=>
      simp only [List.getElem?_cons_succ] at h
      rw [List.getElem?_append_right (by rw [hf,Nat.succ_mul];omega),← ih j h]
      congr 1
      rw [hf,Nat.succ_mul]
      omega
theorem row_cell {w:World} {base g c e z:Nat} {f:Kp→List Value} (hf:∀ i,(f i).length=z) {M:Its} (h:w.ownsRow base e z (.slice (some ⟨g,0,none⟩) M.length c) M.length (flat f M)) {j:Nat} {i:Kp} (hj:M[j]?=some i) (k:Nat) (hk:k<z):w.cell? ⟨g,j*z+k,none⟩=(f i)[k]?:=by
  have hlt:j<M.length:=(List.getElem?_eq_some_iff.1 hj).1
  have:(j+1)*z≤M.length*z:=Nat.mul_le_mul_right z hlt
  rw [Nat.succ_mul] at this
  rw [h.cellAt (j*z+k) (by omega),flat_get hf M j i hj k hk]
theorem past {bs cs:List Nat} {a b c:World} (h:Only bs a b) (k:Only cs b c) (hc:∀ j∈cs,j∈bs∨a.heap.size≤j):Only bs a c:=
  ⟨k.1.trans h.1,k.2.1.trans h.2.1,k.2.2.1.trans h.2.2.1,Nat.le_trans h.2.2.2.1 k.2.2.2.1,fun i hi hb=>(k.2.2.2.2 i (Nat.lt_of_lt_of_le hi h.2.2.2.1) (fun hh=>by
    rcases hc i hh with h1 | h1
    · exact hb h1
    · omega)).trans (h.2.2.2.2 i hi hb)⟩
end Go.Proofs.YtigibpcpnkdmcaaGreatDoor.OM
set_option linter.unusedVariables false
namespace Go.Proofs.YtigibpcpnkdmcaaGreatDoor.LM
def lf (m:Int):Nat:=if 0≤m∧m≤3 then 0 else 1
theorem lf_zero {m:Int} (h:lf m=0):0≤m∧m≤3:=by
  unfold lf at h
  split at h
  · assumption
  · omega
def wants (m nw:Int) (br:Bool):Bool:=decide (nw=-1)||br||decide (m<nw)
def goes (m nw l:Int) (br st:Bool):Bool:=decide (l≤m)&&(if st then decide (nw≤l)||br||decide (m<nw) else decide (l=nw)&&!br)
def tkf (la n:Int) (g:Bool) (p:Nat):Nat:=if n<0∨1099511627776<n then 1 else if n≤la then 6 else if g then 0 else p
def tkx (m nw la n:Int) (br g:Bool) (p:Nat) (l:Int) (st:Bool):Bool:=decide (tkf la n g p=0)&&!g&&goes m nw l br st
def tkL (la n:Int) (g:Bool) (p:Nat):Int:=if tkf la n g p=0 then n else la
def tkN (m nw la n:Int) (br g:Bool) (p:Nat) (l:Int) (st:Bool):Int:=if tkx m nw la n br g p l st&&st then l else nw
def tkB (m nw la n:Int) (br g:Bool) (p:Nat) (l:Int) (st:Bool):Bool:=if decide (tkf la n g p=0)&&g then decide (nw≠-1) else if tkx m nw la n br g p l st&&st then false else br
theorem tkf_zero {la n:Int} {g:Bool} {p:Nat} (h:tkf la n g p=0):0≤n∧n≤1099511627776∧la<n∧(g=false→p=0):=by
  unfold tkf at h
  split at h
  · omega
  · split at h
    · omega
    · refine ⟨by omega,by omega,by omega,fun hg=>?_⟩
      rw [hg] at h
      simpa using h
theorem tkf_range {la n:Int} {g:Bool} {p:Nat} (h:n<0∨1099511627776<n):tkf la n g p=1:=by unfold tkf;rw [if_pos h]
theorem tkf_state {la n:Int} {g:Bool} {p:Nat} (h0:0≤n) (h1:n≤1099511627776) (h:n≤la):tkf la n g p=6:=by unfold tkf;rw [if_neg (by omega),if_pos h]
theorem tkf_gone {la n:Int} {p:Nat} (h0:0≤n) (h1:n≤1099511627776) (h:¬ n≤la):tkf la n true p=0:=by unfold tkf;rw [if_neg (by omega),if_neg h];rfl
theorem tkf_pack {la n:Int} {p:Nat} (h0:0≤n) (h1:n≤1099511627776) (h:¬ n≤la):tkf la n false p=p:=by unfold tkf;rw [if_neg (by omega),if_neg h];rfl
theorem tk_bad {m nw la n:Int} {br g:Bool} {p:Nat} {l:Int} {st:Bool} (h:tkf la n g p≠0):tkx m nw la n br g p l st=false∧tkL la n g p=la∧tkN m nw la n br g p l st=nw∧tkB m nw la n br g p l st=br:=by
  simp [tkx,tkL,tkN,tkB,h]
theorem tk_gone {m nw la n:Int} {br:Bool} {p:Nat} {l:Int} {st:Bool} (h:tkf la n true p=0):tkx m nw la n br true p l st=false∧tkL la n true p=n∧tkN m nw la n br true p l st=nw∧tkB m nw la n br true p l st=decide (nw≠-1):=by
  simp [tkx,tkL,tkN,tkB,h]
theorem tk_pack {m nw la n:Int} {br:Bool} {p:Nat} {l:Int} {st:Bool} (h:tkf la n false p=0):tkx m nw la n br false p l st=goes m nw l br st∧tkL la n false p=n∧tkN m nw la n br false p l st=(if goes m nw l br st&&st then l else nw)∧tkB m nw la n br false p l st=(if goes m nw l br st&&st then false else br):=by
  simp [tkx,tkL,tkN,tkB,h]
end Go.Proofs.YtigibpcpnkdmcaaGreatDoor.LM
set_option linter.unusedVariables false
namespace Go.Proofs.YtigibpcpnkdmcaaGreatDoor.UM
def sq (S:Int) (k:Nat):Int:=(S+(k:Int))%65536
theorem sq_bd (S:Int) (k:Nat):0≤sq S k∧sq S k≤65535:=by unfold sq;omega
def nt (k:Nat) (T ly ow l t:Int):Int:=if k=0 then T else if l=ly then (T+t - ow)%4294967296 else (T+1)%4294967296
theorem nt_same {k:Nat} (T ly ow t:Int) (h:k≠0):nt k T ly ow ly t=(T+t - ow)%4294967296:=by unfold nt;rw [if_neg h,if_pos rfl]
theorem nt_other {k:Nat} (T ly ow l t:Int) (h:k≠0) (hl:l≠ly):nt k T ly ow l t=(T+1)%4294967296:=by unfold nt;rw [if_neg h,if_neg hl]
theorem nt_bd {k:Nat} {T ly ow l t:Int} (h0:0≤T) (h1:T≤4294967295):0≤nt k T ly ow l t∧nt k T ly ow l t≤4294967295:=by
  unfold nt
  split
  · exact ⟨h0,h1⟩
  · split<;>omega
structure Inv (S:Int) (k:Nat) (T ow:Int):Prop where
  s0:0≤S
  s1:S≤65535
  k1:k≤1000
  t0:0≤T
  t1:T≤4294967295
  o0:0≤ow
  o1:ow≤4294967295
theorem inv_start {S T:Int} (h0:0≤S) (h1:S≤65535) (h2:0≤T) (h3:T≤4294967295):Inv S 0 T 0:=⟨h0,h1,by omega,h2,h3,by omega,by omega⟩
theorem Inv.next {S T ow ly l t:Int} {k:Nat} (h:Inv S k T ow) (hk:k<1000) (h0:0≤t) (h1:t≤4294967295):Inv S (k+1) (nt k T ly ow l t) t:=
  ⟨h.s0,h.s1,by omega,(nt_bd h.t0 h.t1).1,(nt_bd h.t0 h.t1).2,h0,h1⟩
end Go.Proofs.YtigibpcpnkdmcaaGreatDoor.UM
namespace Go.Proofs.YtigibpcpnkdmcaaGreatDoor.PU
open Go Go.RowKit Go.Maps Go.Proofs.YtigibpcpnkdmcaaGreatDoor.Mem
set_option linter.unusedVariables false
structure Wt where
  a:Int
  b:Int
  c:Int
abbrev Wts:=List Wt
def of (L:Wts) (t:Int):Wts:=L.filter fun x=>decide (x.b=t)
def hit (a b:Int) (y:Wt):Bool:=decide (y.a=a)&&decide (y.b=b)
def has (L:Wts) (a b:Int):Bool:=L.any (hit a b)
def lst (th a:Int):Int:=if a<0 then -th else a
def key (y:Int):Lit:=.int .i64 y
def inR:Value→Option (DataW Value×List MemPlace)
  | .int .i64 x=>some (.held (.int .i64 x),[])
  | _=>none
structure KM (D:DataW Value) (L:Wts) (t:Int):Prop where
  keys:∀ k:Lit,Maps.has D k=true↔∃ x∈L,x.b=t∧k=key x.a
  els:∀ x∈L,x.b=t→∀ zd,D.atKey (key x.a) zd=.held (.int .i64 x.c)
theorem KM.nil (t:Int):KM (.map []) [] t:=by
  refine ⟨fun k=>?_,by simp⟩
  constructor
  · intro h;simp [Maps.has] at h
  · rintro ⟨i,hi,_⟩;simp at hi
end Go.Proofs.YtigibpcpnkdmcaaGreatDoor.PU
