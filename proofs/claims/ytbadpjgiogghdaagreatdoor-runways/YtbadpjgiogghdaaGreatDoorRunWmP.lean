/-
  What a session answers to a chain of nodes. No program in this text.
-/
import Derived.Test.YtbadpjgiogghdaaGreatDoorRunMath2P
namespace Go.Proofs.YtbadpjgiogghdaaGreatDoor.RN
open Go.Lib Go.Proofs.YtbadpjgiogghdaaGreatDoor.RC Go.Proofs.YtbadpjgiogghdaaGreatDoor.TM
set_option linter.unusedVariables false

def fl (C:Nat→Int):Nat→List Int
  | 0=>[]
  | i+1=>fl C i++[(i:Int)+1,(i:Int),C i]
def ed (C:Nat→Int):Nat→List Ed
  | 0=>[]
  | i+1=>ed C i++[⟨(i:Int)+1,(i:Int),C i⟩]
def sums (C:Nat→Int):Nat→Int
  | 0=>0
  | i+1=>sums C i+C i
def dl (C:Nat→Int):Nat→List Int
  | 0=>[0]
  | i+1=>dl C i++[sums C (i+1)]
def tx (C:Nat→Int):Nat→List UInt8
  | 0=>[]
  | i+1=>(tx C i++if i=0 then [] else [44])++itoa ((i:Int)+1)++[44]++itoa (i:Int)++[44]++itoa (C i)
def wt (C:Nat→Int):Nat→List UInt8
  | 0=>[48]
  | i+1=>wt C i++[44]++itoa (sums C (i+1))
theorem cutL_app (c:UInt8) (b:List UInt8):∀ a:List UInt8,cutL c (a++c::b)=cutL c a++cutL c b
  | []=>by simp [cutL]
  | x::r=>by
    have ih:=cutL_app c b r
    have hn:=cutL_ne c r
    rw [List.cons_append,cutL,cutL,ih]
    split
    · simp
    · cases hq:cutL c r with
      | nil=>exact absurd hq hn
      | cons y s=>simp
theorem comma_no (n:Int):(44:UInt8)∉itoa n:=itoa_no (by decide)
theorem cut_three (x y z:Int):cutL 44 (itoa x++[44]++itoa y++[44]++itoa z)=[itoa x,itoa y,itoa z]:=by
  have e:itoa x++[44]++itoa y++[44]++itoa z=itoa x++44::(itoa y++44::itoa z):=by simp
  rw [e,cutL_at _ (comma_no x),cutL_at _ (comma_no y),cutL_none (comma_no z)]
theorem cut_tx (C:Nat→Int):∀ i:Nat,cutL 44 (tx C (i+1))=(fl C (i+1)).map itoa
  | 0=>by
    have:=cut_three ((0:Nat)+1) (0:Nat) (C 0)
    simp only [tx,fl,List.nil_append,if_pos] at this ⊢
    rw [this];rfl
  | i+1=>by
    have ih:=cut_tx C i
    have e:tx C (i+1+1)=tx C (i+1)++44::(itoa (((i+1:Nat):Int)+1)++[44]++itoa ((i+1:Nat):Int)++[44]++itoa (C (i+1))):=by
      conv=>lhs;rw [tx]
      rw [if_neg (by omega)]
      simp
    rw [e,cutL_app,ih,cut_three]
    conv=>rhs;rw [fl]
    simp
theorem nums_itoa:∀ (L:List Int) (W:Ws),(∀ x∈L,-999999999≤x∧x≤999999999)→W.nums (L.map itoa)=(L,W)
  | [],W,_=>rfl
  | x::L,W,h=>by
    have hx:=h x (List.mem_cons_self ..)
    have e:W.numberOf (itoa x)=(x,W):=by
      unfold Ws.numberOf
      rw [numL_itoa hx.1 hx.2]
    have ih:=nums_itoa L W (fun y hy=>h y (List.mem_cons_of_mem _ hy))
    simp only [List.map_cons,Ws.nums,e,ih]
theorem threes_snoc (x y z:Int):∀ (L:List Int),L.length%3=0→threes (L++[x,y,z])=threes L++[⟨x,y,z⟩]
  | [],_=>rfl
  | [a],h=>by simp at h
  | [a,b],h=>by simp at h
  | a::b::c::r,h=>by
    have:=threes_snoc x y z r (by simp only [List.length_cons] at h;omega)
    simp only [List.cons_append,threes,this]
theorem fl_len (C:Nat→Int):∀ n,(fl C n).length=3*n
  | 0=>rfl
  | n+1=>by rw [fl,List.length_append,fl_len C n];simp;omega
theorem threes_fl (C:Nat→Int):∀ n,threes (fl C n)=ed C n
  | 0=>rfl
  | n+1=>by rw [fl,threes_snoc _ _ _ _ (by rw [fl_len];omega),threes_fl C n,ed]
theorem mem_fl {C:Nat→Int}:∀ {n:Nat} {x:Int},x∈fl C n→∃ i:Nat,i<n∧(x=(i:Int)+1∨x=(i:Int)∨x=C i)
  | 0,x,h=>by simp [fl] at h
  | n+1,x,h=>by
    rw [fl] at h
    rcases List.mem_append.1 h with h | h
    · obtain ⟨i,hi,hx⟩:=mem_fl h
      exact ⟨i,by omega,hx⟩
    · simp only [List.mem_cons,List.not_mem_nil,or_false] at h
      exact ⟨n,by omega,h⟩
theorem mem_ed {C:Nat→Int}:∀ {n:Nat} {e:Ed},e∈ed C n↔∃ i:Nat,i<n∧e=⟨(i:Int)+1,(i:Int),C i⟩
  | 0,e=>by simp [ed]
  | n+1,e=>by
    rw [ed,List.mem_append,mem_ed]
    constructor
    · rintro (⟨i,hi,rfl⟩ | h)
      · exact ⟨i,by omega,rfl⟩
      · exact ⟨n,by omega,List.mem_singleton.1 h⟩
    · rintro ⟨i,hi,rfl⟩
      by_cases h:i=n
      · subst h;exact .inr (List.mem_singleton.2 rfl)
      · exact .inl ⟨i,by omega,rfl⟩
theorem ed_len (C:Nat→Int):∀ n,(ed C n).length=n
  | 0=>rfl
  | n+1=>by rw [ed,List.length_append,ed_len C n];rfl
theorem ed_pair (C:Nat→Int):∀ n,(ed C n).Pairwise fun e f=>two e f=false
  | 0=>List.Pairwise.nil
  | n+1=>by
    rw [ed,List.pairwise_append]
    refine ⟨ed_pair C n,List.pairwise_singleton _ _,?_⟩
    intro e he f hf
    obtain ⟨i,hi,rfl⟩:=mem_ed.1 he
    obtain rfl:=List.mem_singleton.1 hf
    rw [Bool.eq_false_iff]
    intro h
    have:=two_iff.1 h
    simp only at this
    omega
structure Chain (C:Nat→Int) (n:Nat):Prop where
  lo:1≤n
  hi:n≤15
  c:∀ i,i<n→1≤C i∧C i≤10000
theorem Chain.fit {C:Nat→Int} {n:Nat} (h:Chain C n):Fit (n+1) (ed C n):=by
  refine ⟨by omega,by have:=h.hi;omega,by rw [ed_len];have:=h.hi;omega,?_,ed_pair C n⟩
  intro e he
  obtain ⟨i,hi,rfl⟩:=mem_ed.1 he
  have:=h.c i hi
  rw [okE_iff]
  simp only
  omega
theorem Chain.lf {C:Nat→Int} {n:Nat} (h:Chain C n):TM.lf ((n:Int)+1) (ed C n) 0=0:=by
  have he:ef ((n:Int)+1) (ed C n)=0:=ef_zero.2 ⟨by omega,by
    have e:((n:Int)+1).toNat=n+1:=by omega
    rw [e];exact h.fit⟩
  unfold TM.lf
  rw [if_neg (by rw [he];decide),if_neg]
  simp [isn]
theorem dl_len (C:Nat→Int):∀ n,(dl C n).length=n+1
  | 0=>rfl
  | n+1=>by rw [dl,List.length_append,dl_len C n];rfl
theorem dl_get (C:Nat→Int):∀ n x,x≤n→TM.dg (dl C n) x=sums C x
  | 0,x,h=>by
    obtain rfl:x=0:=by omega
    rfl
  | n+1,x,h=>by
    have hl:=dl_len C n
    unfold TM.dg
    rw [dl,List.getD_eq_getElem?_getD]
    by_cases hx:x≤n
    · have:=dl_get C n x hx
      unfold TM.dg at this
      rw [List.getD_eq_getElem?_getD] at this
      rw [List.getElem?_append_left (by omega),this]
    · obtain rfl:x=n+1:=by omega
      rw [List.getElem?_append_right (by omega),hl]
      simp
theorem Chain.cst {C:Nat→Int} {n:Nat} (h:Chain C n) (x y:Nat):(TM.cst (ed C n) x y=0∧∀ e∈ed C n,jn e x y=false)∨∃ i:Nat,i<n∧TM.cst (ed C n) x y=C i∧((x=i∧y=i+1)∨(x=i+1∧y=i)):=by
  rcases cst_cases (ed C n) x y with h0 | ⟨e,he,hj,hc⟩
  · exact .inl h0
  · obtain ⟨i,hi,rfl⟩:=mem_ed.1 he
    have hj':=jn_iff.1 hj
    simp only at hj'
    exact .inr ⟨i,hi,hc,by omega⟩
theorem Chain.step {C:Nat→Int} {n:Nat} (h:Chain C n) {i:Nat} (hi:i<n):TM.cst (ed C n) i (i+1:Nat)=C i:=by
  rcases h.cst i (i+1) with ⟨_,h0⟩ | ⟨j,hj,hc,hh⟩
  · have:=h0 _ (mem_ed.2 ⟨i,hi,rfl⟩)
    rw [Bool.eq_false_iff] at this
    exact absurd (jn_iff.2 (.inr ⟨rfl,by simp⟩)) this
  · obtain rfl:j=i:=by omega
    exact hc
theorem sums_nonneg {C:Nat→Int} {n:Nat} (h:∀ i,i<n→1≤C i∧C i≤10000):∀ k,k≤n→0≤sums C k∧sums C k≤10000*k
  | 0,_=>by simp [sums]
  | k+1,hk=>by
    have:=sums_nonneg h k (by omega)
    have:=h k (by omega)
    simp only [sums]
    omega
theorem Chain.dist {C:Nat→Int} {n:Nat} (h:Chain C n):IsDist (ed C n) (n+1) 0 (dl C n):=by
  have hs:=sums_nonneg h.c
  refine isDist_of (dl_len C n) (by omega) (dl_get C n 0 (by omega)) ?_ ?_
  · intro x hx
    right
    have:∀ x,x≤n→TM.Way (ed C n) (n+1) 0 x (sums C x):=by
      intro x
      induction x with
      | zero=>intro _;exact TM.Way.here _ _ _
      | succ x ih=>
        intro hx
        have hw:=ih (by omega)
        have hc:=h.step (i:=x) (by omega)
        have:=hw.step (y:=x+1) (by omega) (by rw [hc];have:=h.c x (by omega);omega)
        rw [hc] at this
        exact this
    rw [dl_get C n x (by omega)]
    exact this x (by omega)
  · intro x hx _ y hy hc
    rw [dl_get C n x (by omega),dl_get C n y (by omega)]
    have h1:=hs x (by omega)
    have h2:=hs y (by omega)
    refine ⟨h2.1,?_⟩
    rcases h.cst x y with ⟨h0,_⟩ | ⟨i,hi,hci,hh⟩
    · omega
    · rw [hci]
      have hc1:=h.c i hi
      rcases hh with ⟨rfl,rfl⟩ | ⟨rfl,rfl⟩
      · simp [sums]
      · simp only [sums];omega
theorem join_snoc (sep x y:List UInt8) (r:List (List UInt8)):join ((x::r)++[y]) sep=join (x::r) sep++sep++y:=by
  rw [List.cons_append,join_cons,join_cons]
  simp [joinTail]
theorem join_dl (C:Nat→Int):∀ n,join ((dl C n).map itoa) [44]=wt C n
  | 0=>by
    have e:itoa 0=[48]:=by decide +kernel
    simp [dl,wt,join_one,e]
  | n+1=>by
    have ih:=join_dl C n
    have hne:(dl C n).map itoa≠[]:=by
      intro h0
      have:=congrArg List.length h0
      rw [List.length_map,dl_len] at this
      simp at this
    rw [dl,wt,List.map_append,← ih]
    cases hq:(dl C n).map itoa with
    | nil=>exact absurd hq hne
    | cons x r=>exact join_snoc [44] x _ r
theorem tx_no (C:Nat→Int) (c:UInt8) (h1:c.toNat<45) (h2:c≠44):∀ n,c∉tx C n
  | 0=>by simp [tx]
  | n+1=>by
    have ih:=tx_no C c h1 h2 n
    have n1:c∉itoa ((n:Int)+1):=itoa_no (.inl h1)
    have n2:c∉itoa (n:Int):=itoa_no (.inl h1)
    have n3:c∉itoa (C n):=itoa_no (.inl h1)
    rw [tx]
    split
    · simp [ih,n1,n2,n3,h2]
    · simp [ih,n1,n2,n3,h2]
theorem tx_ne (C:Nat→Int) (n:Nat):tx C (n+1)≠[]:=by
  rw [tx]
  simp
theorem line_way (D:Far) (hD:D.Ok) (S:Ss) {C:Nat→Int} {n:Nat} (h:Chain C n):line D S ([119,97,121]++32::(itoa ((n:Int)+1)++32::tx C n))=(.ok (wt C n),S):=by
  obtain ⟨m,rfl⟩:∃ m,n=m+1:=⟨n - 1,by have:=h.lo;omega⟩
  have n1:(32:UInt8)∉[119,97,121]:=by decide
  have n2:(32:UInt8)∉itoa (((m+1:Nat):Int)+1):=itoa_no (by decide)
  have n3:(32:UInt8)∉tx C (m+1):=tx_no C 32 (by decide) (by decide) _
  have hw:cutL 32 ([119,97,121]++32::(itoa (((m+1:Nat):Int)+1)++32::tx C (m+1)))=[[119,97,121],itoa (((m+1:Nat):Int)+1),tx C (m+1)]:=by
    rw [cutL_at _ n1,cutL_at _ n2,cutL_none n3]
  have hi:=h.hi
  have hnum:(⟨[itoa (((m+1:Nat):Int)+1),tx C (m+1)],false⟩:Ws).number=(((m+1:Nat):Int)+1,⟨[tx C (m+1)],false⟩):=by
    show Ws.numberOf ⟨[tx C (m+1)],false⟩ (itoa (((m+1:Nat):Int)+1))=_
    unfold Ws.numberOf
    rw [numL_itoa (by omega) (by omega)]
  have hlist:(⟨[tx C (m+1)],false⟩:Ws).list=(fl C (m+1),⟨[],false⟩):=by
    have hb:∀ x∈fl C (m+1),-999999999≤x∧x≤999999999:=by
      intro x hx
      obtain ⟨i,hi',hx'⟩:=mem_fl hx
      have:=h.c i hi'
      omega
    have e:=nums_itoa (fl C (m+1)) ⟨[],false⟩ hb
    rw [← cut_tx] at e
    unfold Ws.list
    have hne:(⟨[tx C (m+1)],false⟩:Ws).next.1≠[]:=tx_ne C m
    rw [if_neg hne]
    exact e
  have hedges:(⟨[tx C (m+1)],false⟩:Ws).edges=(ed C (m+1),⟨[],false⟩):=by
    unfold Ws.edges
    rw [hlist]
    rw [if_neg (by simp only [fl_len];omega),threes_fl]
  have hfar:=hD (((m+1:Nat):Int)+1) (ed C (m+1)) h.lf
  have e0:(((m+1:Nat):Int)+1).toNat=m+1+1:=by omega
  rw [e0] at hfar
  have hdl:=hfar.uniq h.dist
  have hj:joined ((dl C (m+1)).map itoa) 44=wt C (m+1):=by
    unfold joined
    rw [if_neg (fun h0=>by
      have:=congrArg List.length h0
      rw [List.length_map,dl_len] at this
      simp at this),join_dl]
  unfold line
  unfold ws0
  rw [hw]
  show aDo D S [119,97,121] ⟨[itoa (((m+1:Nat):Int)+1),tx C (m+1)],false⟩=_
  unfold aDo
  rw [if_neg (by decide),if_neg (by decide),if_neg (by decide),if_neg (by decide),if_neg (by decide),if_neg (by decide),if_neg (by decide),if_neg (by decide),if_neg (by decide),if_pos rfl]
  unfold aWay
  rw [hnum]
  simp only
  rw [hedges]
  simp only
  rw [h.lf,hdl,hj]
  rfl
theorem answers_way (D:Far) (hD:D.Ok) {C:Nat→Int} {n:Nat} (h:Chain C n) :
    answers D ss0 (linesL ([119,97,121,32]++itoa ((n:Int)+1)++[32]++tx C n++[10]))=wt C n++[10]:=by
  have e1:[119,97,121,32]++itoa ((n:Int)+1)++[32]++tx C n++[10]=([119,97,121]++32::(itoa ((n:Int)+1)++32::tx C n))++10::[]:=by simp
  have n1:(10:UInt8)∉itoa ((n:Int)+1):=itoa_no (by decide)
  have n2:(10:UInt8)∉tx C n:=tx_no C 10 (by decide) (by decide) _
  rw [e1,linesL_at _ (by simp [n1,n2])]
  simp only [linesL,answers,line_way D hD _ h,An.tell]
  simp
end Go.Proofs.YtbadpjgiogghdaaGreatDoor.RN

