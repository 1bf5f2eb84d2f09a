/-
  RunNm, RunAm in one text.
-/
import Derived.Test.YtlppdppddiecnaaGreatDoorRunMathP
import Derived.Lib.ItoaMem
import Derived.Test.YtlppdppddiecnaaGreatDoorRunMath2P
namespace Go.Proofs.YtlppdppddiecnaaGreatDoor.RC
open Go.Lib
set_option linter.unusedVariables false

def isD (c:UInt8):Bool:=decide (48≤c.toNat∧c.toNat≤57)
def dstep (a:Nat) (c:UInt8):Nat:=a*10+(c.toNat - 48)
def dval (n:Nat) (l:List UInt8):Nat:=l.foldl dstep n
theorem dval_nil (n:Nat):dval n []=n:=rfl
theorem dval_cons (n:Nat) (c:UInt8) (r:List UInt8):dval n (c::r)=dval (n*10+(c.toNat - 48)) r:=by
  unfold dval
  rw [List.foldl_cons]
  rfl
theorem val_app:∀ (a b:List UInt8) (n:Nat),dval n (a++b)=dval (dval n a) b
  | [],_,_=>rfl
  | c::r,b,n=>by
    rw [List.cons_append,dval_cons,dval_cons]
    exact val_app r b _
theorem val_snoc (a:List UInt8) (c:UInt8):dval 0 (a++[c])=dval 0 a*10+(c.toNat - 48):=by rw [val_app,dval_cons,dval_nil]
theorem val_le:∀ (l:List UInt8) (n:Nat),(∀ c∈l,isD c=true)→dval n l<(n+1)*10 ^ l.length
  | [],n,_=>by simp [dval_nil]
  | c::r,n,h=>by
    have hc:48≤c.toNat∧c.toNat≤57:=of_decide_eq_true (h c (List.mem_cons_self ..))
    have ih:=val_le r (n*10+(c.toNat - 48)) (fun x hx=>h x (List.mem_cons_of_mem _ hx))
    rw [dval_cons,List.length_cons,Nat.pow_succ,Nat.mul_comm (10 ^ r.length),← Nat.mul_assoc]
    refine Nat.lt_of_lt_of_le ih (Nat.mul_le_mul_right _ (by omega))
theorem ofNat_toNat (c:UInt8) (h:48≤c.toNat):UInt8.ofNat (48+(c.toNat - 48))=c:=by
  rw [show 48+(c.toNat - 48)=c.toNat by omega]
  simp
theorem dec_val:∀ (n:Nat) (l:List UInt8),l.length=n→l≠[]→(∀ c∈l,isD c=true)→(l.headD 0=48→l.length=1)→decDigits (dval 0 l)=l∧(l.headD 0≠48→1≤dval 0 l):=by
  intro n
  induction n with
  | zero=>intro l hl h0;exact absurd (List.eq_nil_of_length_eq_zero hl) h0
  | succ n ih=>
    intro l hl h0 hd hh
    obtain ⟨a,c,rfl⟩:∃ a c,l=a++[c]:=⟨l.dropLast,l.getLast h0,(List.dropLast_concat_getLast h0).symm⟩
    have hc:48≤c.toNat∧c.toNat≤57:=of_decide_eq_true (hd c (by simp))
    have ha:∀ x∈a,isD x=true:=fun x hx=>hd x (by simp [hx])
    rw [val_snoc]
    by_cases hn:a=[]
    · subst hn
      simp only [List.nil_append,dval_nil,Nat.zero_mul,Nat.zero_add]
      refine ⟨?_,?_⟩
      · rw [decDigits,dif_pos (by omega),ofNat_toNat c hc.1]
      · intro h
        simp only [List.headD_cons] at h
        have:c.toNat≠48:=fun e=>h (UInt8.toNat_inj.1 e)
        omega
    · have hhead:(a++[c]).headD 0=a.headD 0:=by cases a with
        | nil=>exact absurd rfl hn
        | cons _ _=>rfl
      have hne:a.headD 0≠48:=by
        intro e
        have:=hh (by rw [hhead,e])
        have hp:0<a.length:=List.length_pos_iff.2 hn
        rw [List.length_append] at this
        simp at this
        exact hn this
      obtain ⟨i1,i2⟩:=ih a (by simp at hl;exact hl) hn ha (fun e=>absurd e hne)
      have hv:=i2 hne
      refine ⟨?_,fun _=>by omega⟩
      rw [decDigits,dif_neg (by omega)]
      have e1:(dval 0 a*10+(c.toNat - 48)) / 10=dval 0 a:=by omega
      have e2:(dval 0 a*10+(c.toNat - 48))%10=c.toNat - 48:=by omega
      rw [e1,e2,i1,ofNat_toNat c hc.1]
theorem val_dec:∀ (n u:Nat),u≤n→dval 0 (decDigits u)=u∧(u≠0→(decDigits u).headD 0≠48):=by
  intro n
  induction n with
  | zero=>
    intro u h
    obtain rfl:u=0:=by omega
    rw [decDigits,dif_pos (by omega)]
    exact ⟨rfl,fun h=>absurd rfl h⟩
  | succ n ih=>
    intro u h
    by_cases hu:u<10
    · rw [decDigits,dif_pos hu]
      have e:(UInt8.ofNat (48+u)).toNat=48+u:=by rw [UInt8.toNat_ofNat'];omega
      refine ⟨by simp only [dval_cons,dval_nil,e];omega,fun h0 h1=>?_⟩
      simp only [List.headD_cons] at h1
      rw [h1] at e
      have:(48:UInt8).toNat=48:=rfl
      omega
    · obtain ⟨i1,i2⟩:=ih (u / 10) (by omega)
      rw [decDigits,dif_neg hu,val_snoc,i1]
      have e:(UInt8.ofNat (48+u%10)).toNat=48+u%10:=by rw [UInt8.toNat_ofNat'];omega
      refine ⟨by rw [e];omega,fun _=>?_⟩
      have:=i2 (by omega)
      cases hq:decDigits (u / 10) with
      | nil=>exact absurd hq (digits_ne _)
      | cons x r=>rw [hq] at this;exact this
def nineL (l:List UInt8):Option Int:=
  let m:=decide (l.headD 0=45)
  let b:=if m then l.drop 1 else l
  if b=[]∨9<b.length∨(b.headD 0=48∧1<l.length) then none
  else if b.all isD then some (if m then -(dval 0 b:Int) else (dval 0 b:Int)) else none
theorem dec_len {u:Nat} (h:u≤999999999):(decDigits u).length≤9:=by
  by_cases h9:(decDigits u).length≤9
  · exact h9
  · exfalso
    have hd:∀ c∈decDigits u,isD c=true:=fun c hc=>decide_eq_true (digits_mem u u (Nat.le_refl _) c hc)
    obtain ⟨h1,h2⟩:=val_dec u u (Nat.le_refl _)
    have:∀ (l:List UInt8),(∀ c∈l,isD c=true)→l≠[]→l.headD 0≠48→10 ^ (l.length - 1)≤dval 0 l:=by
      intro l hl hne hh
      have key:∀ (r:List UInt8) (n:Nat),n*10 ^ r.length≤dval n r:=by
        intro r
        induction r with
        | nil=>intro n;simp [dval_nil]
        | cons c r ih=>
          intro n
          have:=ih (n*10+(c.toNat - 48))
          rw [dval_cons,List.length_cons,Nat.pow_succ,Nat.mul_comm (10 ^ r.length),← Nat.mul_assoc]
          refine Nat.le_trans (Nat.mul_le_mul_right _ (by omega)) this
      cases l with
      | nil=>exact absurd rfl hne
      | cons c r=>
        have hc:48≤c.toNat∧c.toNat≤57:=of_decide_eq_true (hl c (List.mem_cons_self ..))
        have hc0:c.toNat≠48:=fun e=>hh (UInt8.toNat_inj.1 e)
        have:=key r (0*10+(c.toNat - 48))
        rw [dval_cons]
        simp only [List.length_cons,Nat.add_sub_cancel]
        refine Nat.le_trans ?_ this
        have:1*10 ^ r.length≤(0*10+(c.toNat - 48))*10 ^ r.length:=Nat.mul_le_mul_right _ (by omega)
        omega
    have hu0:u≠0:=by
      intro e
      subst e
      have e0:decDigits 0=[UInt8.ofNat (48+0)]:=by rw [decDigits,dif_pos (by omega)]
      rw [e0] at h9
      simp at h9
    have:=this _ hd (digits_ne u) (h2 hu0)
    rw [h1] at this
    have h10:10 ^ 9≤10 ^ ((decDigits u).length - 1):=Nat.pow_le_pow_right (by decide) (by omega)
    have:(10:Nat) ^ 9=1000000000:=by decide
    omega
theorem nine_of_num {l:List UInt8} {v:Int} (h:numL l=some v):nineL l=some v:=by
  obtain ⟨h0,h1,rfl⟩:=numL_some h
  by_cases hv:0≤v
  · obtain ⟨u,rfl⟩:=Int.eq_ofNat_of_zero_le hv
    have hd:∀ c∈decDigits u,isD c=true:=fun c hc=>decide_eq_true (digits_mem u u (Nat.le_refl _) c hc)
    obtain ⟨e1,e2⟩:=val_dec u u (Nat.le_refl _)
    have hl:=dec_len (u:=u) (by omega)
    rw [itoa_nonneg]
    have h45:(decDigits u).headD 0≠45:=by
      cases hq:decDigits u with
      | nil=>exact absurd hq (digits_ne u)
      | cons c r=>
        have:48≤c.toNat∧c.toNat≤57:=of_decide_eq_true (hd c (by rw [hq];simp))
        intro e
        simp only [List.headD_cons] at e
        rw [e] at this
        exact absurd this.1 (by decide)
    unfold nineL
    simp only [h45,decide_false,Bool.false_eq_true,if_false]
    rw [if_neg,if_pos (List.all_eq_true.2 hd),e1]
    rintro (h | h | ⟨h,h'⟩)
    · exact digits_ne u h
    · omega
    · by_cases hu0:u=0
      · subst hu0
        have e0:decDigits 0=[UInt8.ofNat (48+0)]:=by rw [decDigits,dif_pos (by omega)]
        rw [e0] at h'
        simp at h'
      · exact e2 hu0 h
  · obtain ⟨u,hu⟩:=Int.eq_ofNat_of_zero_le (show 0≤-v by omega)
    obtain rfl:v=-(u:Int):=by omega
    have hd:∀ c∈decDigits u,isD c=true:=fun c hc=>decide_eq_true (digits_mem u u (Nat.le_refl _) c hc)
    obtain ⟨e1,e2⟩:=val_dec u u (Nat.le_refl _)
    have hl:=dec_len (u:=u) (by omega)
    rw [itoa_neg u (by omega)]
    unfold nineL
    simp only [List.headD_cons,decide_true,if_true,List.drop_succ_cons,List.drop_zero]
    rw [if_neg,if_pos (List.all_eq_true.2 hd),e1]
    rintro (h | h | ⟨h,h'⟩)
    · exact digits_ne u h
    · omega
    · exact e2 (by omega) h
theorem num_of_nine {l:List UInt8} {v:Int} (h:nineL l=some v):numL l=some v:=by
  unfold nineL at h
  by_cases hm:l.headD 0=45
  · simp only [hm,decide_true,if_true] at h
    split at h
    · cases h
    · rename_i hb
      split at h
      · rename_i hall
        cases h
        have hd:∀ c∈l.drop 1,isD c=true:=List.all_eq_true.1 hall
        have hl:l=45::l.drop 1:=by
          cases l with
          | nil=>simp at hm
          | cons c r=>simp only [List.headD_cons] at hm;rw [hm];rfl
        have hne:l.drop 1≠[]:=fun e=>hb (.inl e)
        have h48:(l.drop 1).headD 0≠48:=fun e=>hb (.inr (.inr ⟨e,by
          have:=List.length_pos_iff.2 hne
          rw [hl];simp only [List.length_cons];omega⟩))
        obtain ⟨d1,d2⟩:=dec_val _ (l.drop 1) rfl hne hd (fun e=>absurd e h48)
        have hv:=d2 h48
        have hlt:=val_le (l.drop 1) 0 hd
        have hpow:10 ^ (l.drop 1).length≤10 ^ 9:=Nat.pow_le_pow_right (by decide) (by
          have:¬ 9<(l.drop 1).length:=fun e=>hb (.inr (.inl e))
          omega)
        have h9:(10:Nat) ^ 9=1000000000:=by decide
        have e:l=itoa (-(dval 0 (l.drop 1):Int)):=by rw [itoa_neg _ hv,d1];exact hl
        conv=>lhs;rw [e]
        exact numL_itoa (by omega) (by omega)
      · cases h
  · simp only [hm,decide_false,Bool.false_eq_true,if_false] at h
    split at h
    · cases h
    · rename_i hb
      split at h
      · rename_i hall
        cases h
        have hd:∀ c∈l,isD c=true:=List.all_eq_true.1 hall
        have hne:l≠[]:=fun e=>hb (.inl e)
        have h48:l.headD 0=48→l.length=1:=fun e=>by
          have:¬ 1<l.length:=fun h1=>hb (.inr (.inr ⟨e,h1⟩))
          have:=List.length_pos_iff.2 hne
          omega
        obtain ⟨d1,_⟩:=dec_val _ l rfl hne hd h48
        have hlt:=val_le l 0 hd
        have hpow:10 ^ l.length≤10 ^ 9:=Nat.pow_le_pow_right (by decide) (by
          have:¬ 9<l.length:=fun e=>hb (.inr (.inl e))
          omega)
        have h9:(10:Nat) ^ 9=1000000000:=by decide
        have e:l=itoa ((dval 0 l:Nat):Int):=by rw [itoa_nonneg,d1]
        conv=>lhs;rw [e]
        exact numL_itoa (by omega) (by omega)
      · cases h
theorem nine_num (l:List UInt8):nineL l=numL l:=by
  cases h:numL l with
  | some v=>exact nine_of_num h
  | none=>
    cases h2:nineL l with
    | none=>rfl
    | some v=>rw [num_of_nine h2] at h;cases h
end Go.Proofs.YtlppdppddiecnaaGreatDoor.RC
namespace Go.Proofs.YtlppdppddiecnaaGreatDoor.RN
open Go.Lib Go.Proofs.YtlppdppddiecnaaGreatDoor.RC
set_option linter.unusedVariables false

structure Rd (f:Ws→Ws) (n:Nat):Prop where
  rest:∀ W,(f W).rest=W.rest.drop n
  bad:∀ W,W.bad=true→(f W).bad=true
  short:∀ W,W.rest.length<n→(f W).bad=true
theorem Rd.comp {f g:Ws→Ws} {n m:Nat} (hf:Rd f n) (hg:Rd g m):Rd (fun W=>g (f W)) (n+m):=by
  refine ⟨fun W=>?_,fun W h=>hg.bad _ (hf.bad _ h),fun W h=>?_⟩
  · rw [hg.rest,hf.rest,List.drop_drop]
  · by_cases c:W.rest.length<n
    · exact hg.bad _ (hf.short _ c)
    · refine hg.short _ ?_
      rw [hf.rest,List.length_drop]
      omega
theorem Rd.left {f:Ws→Ws} {n:Nat} (h:Rd f n) {r:List (List UInt8)} (hr:r.length≠n):(f ⟨r,false⟩).left=true:=by
  unfold Ws.left
  by_cases c:r.length<n
  · rw [h.short _ c]
    rfl
  · rw [h.rest,Bool.or_eq_true]
    right
    simp only [List.length_drop,decide_eq_true_eq]
    omega
theorem left_ok (c:Bool):(⟨[],c⟩:Ws).left=c:=by simp [Ws.left]
theorem left_bad {W:Ws} (h:W.bad=true):W.left=true:=by simp [Ws.left,h]
theorem numL_nil:numL []=none:=by
  rw [← nine_num]
  simp [nineL]
theorem num_some {x:List UInt8} {r:List (List UInt8)} {c:Bool} {v:Int} (h:numL x=some v):(⟨x::r,c⟩:Ws).number=(v,⟨r,c⟩):=by simp [Ws.number,Ws.next,Ws.numberOf,h]
theorem num_none {x:List UInt8} {r:List (List UInt8)} {c:Bool} (h:numL x=none):(⟨x::r,c⟩:Ws).number=(0,⟨r,true⟩):=by simp [Ws.number,Ws.next,Ws.numberOf,h,Ws.ill]
theorem num_end (c:Bool):(⟨[],c⟩:Ws).number=(0,⟨[],true⟩):=by simp [Ws.number,Ws.next,Ws.numberOf,numL_nil,Ws.ill]
theorem rd_number:Rd (fun W=>W.number.2) 1:=by
  refine ⟨?_,?_,?_⟩
  · rintro ⟨_ | ⟨x,r⟩,c⟩
    · show (Ws.number _).2.rest=_;rw [num_end];rfl
    · show (Ws.number _).2.rest=_
      cases h:numL x with
      | none=>rw [num_none h];rfl
      | some v=>rw [num_some h];rfl
  · rintro ⟨_ | ⟨x,r⟩,c⟩ hc
    · show (Ws.number _).2.bad=_;rw [num_end]
    · show (Ws.number _).2.bad=_
      cases h:numL x with
      | none=>rw [num_none h]
      | some v=>rw [num_some h];exact hc
  · rintro ⟨_ | ⟨x,r⟩,c⟩ hc
    · show (Ws.number _).2.bad=_;rw [num_end]
    · simp at hc
theorem rd_flag:Rd (fun W=>W.flag.2) 1:=by
  have e:∀ W:Ws,W.flag.2.rest=W.number.2.rest∧(W.number.2.bad=true→W.flag.2.bad=true):=by
    intro W
    unfold Ws.flag Ws.ill
    by_cases c:W.number.1≠0∧W.number.1≠1
    · rw [if_pos c];exact ⟨rfl,fun _=>rfl⟩
    · rw [if_neg c];exact ⟨rfl,id⟩
  exact ⟨fun W=>(e W).1.trans (rd_number.rest W),fun W h=>(e W).2 (rd_number.bad W h),fun W h=>(e W).2 (rd_number.short W h)⟩
theorem flag_some {x:List UInt8} {r:List (List UInt8)} {c:Bool} {v:Int} (h:numL x=some v) (hv:v=0∨v=1):(⟨x::r,c⟩:Ws).flag=(decide (v=1),⟨r,c⟩):=by
  unfold Ws.flag
  rw [num_some h,if_neg (by rcases hv with rfl | rfl<;>simp)]
theorem flag_none {x:List UInt8} {r:List (List UInt8)} {c:Bool} (h:numL x=none∨∃ v,numL x=some v∧v≠0∧v≠1):(⟨x::r,c⟩:Ws).flag.2.bad=true:=by
  unfold Ws.flag Ws.ill
  rcases h with h | ⟨v,h,h0,h1⟩
  · rw [num_none h];simp
  · rw [num_some h,if_pos ⟨h0,h1⟩]
def numsR:List (List UInt8)→Option (List Int)
  | []=>some []
  | x::r=>match numL x with
    | none=>none
    | some v=>(numsR r).map (v::·)
def listR (x:List UInt8):Option (List Int):=if x=[] then some [] else numsR (cutL 44 x)
theorem numberOf_bad {W:Ws} (h:W.bad=true) (x:List UInt8):(W.numberOf x).2.bad=true:=by
  unfold Ws.numberOf
  cases numL x with
  | none=>rfl
  | some v=>exact h
theorem numberOf_rest (W:Ws) (x:List UInt8):(W.numberOf x).2.rest=W.rest:=by
  unfold Ws.numberOf
  cases numL x<;>rfl
theorem nums_bad:∀ (l:List (List UInt8)) (W:Ws),W.bad=true→(W.nums l).2.bad=true
  | [],W,h=>h
  | x::r,W,h=>nums_bad r _ (numberOf_bad h x)
theorem nums_rest:∀ (l:List (List UInt8)) (W:Ws),(W.nums l).2.rest=W.rest
  | [],W=>rfl
  | x::r,W=>(nums_rest r _).trans (numberOf_rest W x)
theorem nums_some:∀ (l:List (List UInt8)) (W:Ws) {L:List Int},numsR l=some L→W.nums l=(L,W)
  | [],W,L,h=>by simp [numsR] at h;subst h;rfl
  | x::r,W,L,h=>by
    unfold numsR at h
    cases hx:numL x with
    | none=>rw [hx] at h;cases h
    | some v=>
      rw [hx] at h
      cases hr:numsR r with
      | none=>rw [hr] at h;cases h
      | some K=>
        rw [hr] at h
        simp only [Option.map_some,Option.some.injEq] at h
        have e:W.numberOf x=(v,W):=by simp [Ws.numberOf,hx]
        unfold Ws.nums
        rw [e,nums_some r W hr,← h]
theorem nums_none:∀ (l:List (List UInt8)) (W:Ws),numsR l=none→(W.nums l).2.bad=true
  | [],W,h=>by simp [numsR] at h
  | x::r,W,h=>by
    unfold numsR at h
    cases hx:numL x with
    | none=>
      have e:(W.numberOf x).2.bad=true:=by simp [Ws.numberOf,hx,Ws.ill]
      exact nums_bad r _ e
    | some v=>
      rw [hx] at h
      cases hr:numsR r with
      | none=>exact nums_none r _ hr
      | some K=>rw [hr] at h;cases h
theorem rd_list:Rd (fun W=>W.list.2) 1:=by
  have e:∀ W:Ws,W.list.2.rest=W.next.2.rest∧(W.next.2.bad=true→W.list.2.bad=true):=by
    intro W
    unfold Ws.list
    split
    · exact ⟨rfl,id⟩
    · exact ⟨nums_rest _ _,nums_bad _ _⟩
  refine ⟨fun W=>(e W).1.trans ?_,fun W h=>(e W).2 ?_,fun W h=>(e W).2 ?_⟩
  · obtain ⟨_ | ⟨x,r⟩,c⟩:=W<;>rfl
  · obtain ⟨_ | ⟨x,r⟩,c⟩:=W
    · rfl
    · exact h
  · obtain ⟨_ | ⟨x,r⟩,c⟩:=W
    · rfl
    · simp at h
theorem list_some {x:List UInt8} {r:List (List UInt8)} {c:Bool} {L:List Int} (h:listR x=some L):(⟨x::r,c⟩:Ws).list=(L,⟨r,c⟩):=by
  unfold listR at h
  show (if x=[] then (([]:List Int),(⟨r,c⟩:Ws)) else (⟨r,c⟩:Ws).nums (cutL 44 x))=(L,⟨r,c⟩)
  by_cases hx:x=[]
  · rw [if_pos hx] at h ⊢
    rw [Option.some.inj h]
  · rw [if_neg hx] at h ⊢
    exact nums_some _ _ h
theorem list_none {x:List UInt8} {r:List (List UInt8)} {c:Bool} (h:listR x=none):(⟨x::r,c⟩:Ws).list.2.bad=true:=by
  unfold listR at h
  show (if x=[] then (([]:List Int),(⟨r,c⟩:Ws)) else (⟨r,c⟩:Ws).nums (cutL 44 x)).2.bad=true
  by_cases hx:x=[]
  · rw [if_pos hx] at h;cases h
  · rw [if_neg hx] at h ⊢
    exact nums_none _ _ h
theorem rd_edges:Rd (fun W=>W.edges.2) 1:=by
  have e:∀ W:Ws,W.edges.2.rest=W.list.2.rest∧(W.list.2.bad=true→W.edges.2.bad=true):=by
    intro W
    unfold Ws.edges
    split
    · exact ⟨rfl,fun _=>rfl⟩
    · exact ⟨rfl,id⟩
  exact ⟨fun W=>(e W).1.trans (rd_list.rest W),fun W h=>(e W).2 (rd_list.bad W h),fun W h=>(e W).2 (rd_list.short W h)⟩
theorem edges_some {x:List UInt8} {r:List (List UInt8)} {c:Bool} {L:List Int} (h:listR x=some L) (h3:L.length%3=0):(⟨x::r,c⟩:Ws).edges=(threes L,⟨r,c⟩):=by
  unfold Ws.edges
  rw [list_some h,if_neg (by simpa using h3)]
theorem edges_none {x:List UInt8} {r:List (List UInt8)} {c:Bool} (h:listR x=none∨∃ L,listR x=some L∧L.length%3≠0):(⟨x::r,c⟩:Ws).edges.2.bad=true:=by
  unfold Ws.edges
  rcases h with h | ⟨L,h,h3⟩
  · split
    · rfl
    · exact list_none h
  · rw [list_some h,if_pos h3]
    rfl
def bytesR (x:List UInt8):Option (List Nat):=if x.length%2≠0 then none else unhex x
theorem rd_bytes:Rd (fun W=>W.bytes.2) 1:=by
  have e:∀ W:Ws,W.bytes.2.rest=W.next.2.rest∧(W.next.2.bad=true→W.bytes.2.bad=true):=by
    intro W
    unfold Ws.bytes
    split
    · exact ⟨rfl,fun _=>rfl⟩
    · cases unhex W.next.1 with
      | none=>exact ⟨rfl,fun _=>rfl⟩
      | some L=>exact ⟨rfl,id⟩
  refine ⟨fun W=>(e W).1.trans ?_,fun W h=>(e W).2 ?_,fun W h=>(e W).2 ?_⟩
  · obtain ⟨_ | ⟨x,r⟩,c⟩:=W<;>rfl
  · obtain ⟨_ | ⟨x,r⟩,c⟩:=W
    · rfl
    · exact h
  · obtain ⟨_ | ⟨x,r⟩,c⟩:=W
    · rfl
    · simp at h
theorem bytes_some {x:List UInt8} {r:List (List UInt8)} {c:Bool} {L:List Nat} (h:bytesR x=some L):(⟨x::r,c⟩:Ws).bytes=(L,⟨r,c⟩):=by
  unfold bytesR at h
  show (if x.length%2≠0 then (([]:List Nat),(⟨r,true⟩:Ws)) else match unhex x with
    | some L=>(L,(⟨r,c⟩:Ws))
    | none=>([],⟨r,true⟩))=(L,⟨r,c⟩)
  by_cases hx:x.length%2≠0
  · rw [if_pos hx] at h;cases h
  · rw [if_neg hx] at h ⊢
    rw [h]
theorem bytes_none {x:List UInt8} {r:List (List UInt8)} {c:Bool} (h:bytesR x=none):(⟨x::r,c⟩:Ws).bytes.2.bad=true:=by
  unfold bytesR at h
  show (if x.length%2≠0 then (([]:List Nat),(⟨r,true⟩:Ws)) else match unhex x with
    | some L=>(L,(⟨r,c⟩:Ws))
    | none=>([],⟨r,true⟩)).2.bad=true
  by_cases hx:x.length%2≠0
  · rw [if_pos hx]
  · rw [if_neg hx] at h ⊢
    rw [h]
def kUnwrap:List UInt8:=[117,110,119,114,97,112]
def kSeen:List UInt8:=[115,101,101,110]
def kCrc:List UInt8:=[99,114,99]
def kOpen:List UInt8:=[111,112,101,110]
def kPairs:List UInt8:=[112,97,105,114,115]
def kFair:List UInt8:=[102,97,105,114]
def kHear:List UInt8:=[104,101,97,114]
def kTake:List UInt8:=[116,97,107,101]
def kGone:List UInt8:=[103,111,110,101]
def kWay:List UInt8:=[119,97,121]
def needsL (x:List UInt8):Int:=
  if x=kTake then 4 else if x=kUnwrap then 3 else if x=kFair then 3 else if x=kWay then 3
  else if x=kSeen then 2 else if x=kCrc then 2 else if x=kOpen then 2 else if x=kPairs then 2 else if x=kHear then 2 else if x=kGone then 2 else -1
section
variable (D:Far) (S:Ss)
theorem do_def (x:List UInt8) (W:Ws):aDo D S x W=if x=kUnwrap then (aUnwrap W,S) else if x=kSeen then aSeen S W else if x=kCrc then (aSum W,S) else if x=kOpen then (aOpen W,S) else if x=kPairs then (aPairs W,S) else if x=kFair then (aFair W,S) else if x=kHear then aHear S W else if x=kTake then aTake S W else if x=kGone then aGone S W else if x=kWay then (aWay D W,S) else (.bad,S):=rfl
theorem do_len {x:List UInt8} {r:List (List UInt8)} (h:needsL x≠((r.length+1:Nat):Int)):aDo D S x ⟨r,false⟩=(.bad,S):=by
  have n1:∀ {f:Ws→Ws} {n:Nat},Rd f n→r.length≠n→(f ⟨r,false⟩).left=true:=fun h hr=>h.left hr
  rw [do_def]
  by_cases c0:x=kUnwrap
  · subst c0
    have:r.length≠2:=fun e=>h (by rw [e];decide)
    rw [if_pos rfl]
    unfold aUnwrap
    rw [if_pos (n1 (rd_number.comp rd_number) this)]
  rw [if_neg c0]
  by_cases c1:x=kSeen
  · subst c1
    have:r.length≠1:=fun e=>h (by rw [e];decide)
    rw [if_pos rfl]
    unfold aSeen
    rw [if_pos (n1 rd_number this)]
  rw [if_neg c1]
  by_cases c2:x=kCrc
  · subst c2
    have:r.length≠1:=fun e=>h (by rw [e];decide)
    rw [if_pos rfl]
    unfold aSum
    rw [if_pos (n1 rd_bytes this)]
  rw [if_neg c2]
  by_cases c3:x=kOpen
  · subst c3
    have:r.length≠1:=fun e=>h (by rw [e];decide)
    rw [if_pos rfl]
    unfold aOpen
    rw [if_pos (n1 rd_bytes this)]
  rw [if_neg c3]
  by_cases c4:x=kPairs
  · subst c4
    have:r.length≠1:=fun e=>h (by rw [e];decide)
    rw [if_pos rfl]
    unfold aPairs
    rw [if_pos (n1 rd_list this)]
  rw [if_neg c4]
  by_cases c5:x=kFair
  · subst c5
    have:r.length≠2:=fun e=>h (by rw [e];decide)
    rw [if_pos rfl]
    unfold aFair
    rw [if_pos (n1 (rd_number.comp rd_list) this)]
  rw [if_neg c5]
  by_cases c6:x=kHear
  · subst c6
    have:r.length≠1:=fun e=>h (by rw [e];decide)
    rw [if_pos rfl]
    unfold aHear
    rw [if_pos (n1 rd_list this)]
  rw [if_neg c6]
  by_cases c7:x=kTake
  · subst c7
    have:r.length≠3:=fun e=>h (by rw [e];decide)
    rw [if_pos rfl]
    unfold aTake
    rw [if_pos (n1 ((rd_number.comp rd_number).comp rd_flag) this)]
  rw [if_neg c7]
  by_cases c8:x=kGone
  · subst c8
    have:r.length≠1:=fun e=>h (by rw [e];decide)
    rw [if_pos rfl]
    unfold aGone
    rw [if_pos (n1 rd_number this)]
  rw [if_neg c8]
  by_cases c9:x=kWay
  · subst c9
    have:r.length≠2:=fun e=>h (by rw [e];decide)
    rw [if_pos rfl]
    unfold aWay
    rw [if_pos (n1 (rd_number.comp rd_edges) this)]
  rw [if_neg c9]
theorem needs_none {x:List UInt8} (h:x≠kTake∧x≠kUnwrap∧x≠kFair∧x≠kWay∧x≠kSeen∧x≠kCrc∧x≠kOpen∧x≠kPairs∧x≠kHear∧x≠kGone):needsL x=-1:=by
  obtain ⟨h0,h1,h2,h3,h4,h5,h6,h7,h8,h9⟩:=h
  unfold needsL
  rw [if_neg h0,if_neg h1,if_neg h2,if_neg h3,if_neg h4,if_neg h5,if_neg h6,if_neg h7,if_neg h8,if_neg h9]
variable {a b c:List UInt8}
theorem do_unwrap (r:Ws):aDo D S kUnwrap r=(aUnwrap r,S):=by
  rw [do_def,if_pos rfl]
theorem do_seen (r:Ws):aDo D S kSeen r=aSeen S r:=by
  rw [do_def,if_neg (by decide),if_pos rfl]
theorem do_crc (r:Ws):aDo D S kCrc r=(aSum r,S):=by
  rw [do_def,if_neg (by decide),if_neg (by decide),if_pos rfl]
theorem do_open (r:Ws):aDo D S kOpen r=(aOpen r,S):=by
  rw [do_def,if_neg (by decide),if_neg (by decide),if_neg (by decide),if_pos rfl]
theorem do_pairs (r:Ws):aDo D S kPairs r=(aPairs r,S):=by
  rw [do_def,if_neg (by decide),if_neg (by decide),if_neg (by decide),if_neg (by decide),if_pos rfl]
theorem do_fair (r:Ws):aDo D S kFair r=(aFair r,S):=by
  rw [do_def,if_neg (by decide),if_neg (by decide),if_neg (by decide),if_neg (by decide),if_neg (by decide),if_pos rfl]
theorem do_hear (r:Ws):aDo D S kHear r=aHear S r:=by
  rw [do_def,if_neg (by decide),if_neg (by decide),if_neg (by decide),if_neg (by decide),if_neg (by decide),if_neg (by decide),if_pos rfl]
theorem do_take (r:Ws):aDo D S kTake r=aTake S r:=by
  rw [do_def,if_neg (by decide),if_neg (by decide),if_neg (by decide),if_neg (by decide),if_neg (by decide),if_neg (by decide),if_neg (by decide),if_pos rfl]
theorem do_gone (r:Ws):aDo D S kGone r=aGone S r:=by
  rw [do_def,if_neg (by decide),if_neg (by decide),if_neg (by decide),if_neg (by decide),if_neg (by decide),if_neg (by decide),if_neg (by decide),if_neg (by decide),if_pos rfl]
theorem do_way (r:Ws):aDo D S kWay r=(aWay D r,S):=by
  rw [do_def,if_neg (by decide),if_neg (by decide),if_neg (by decide),if_neg (by decide),if_neg (by decide),if_neg (by decide),if_neg (by decide),if_neg (by decide),if_neg (by decide),if_pos rfl]
theorem unwrap_bad (h:numL a=none∨numL b=none):aUnwrap ⟨[a,b],false⟩=.bad:=by
  unfold aUnwrap
  rw [if_pos]
  apply left_bad
  rcases h with h | h
  · rw [num_none h]
    exact rd_number.bad ⟨[b],true⟩ rfl
  · cases ha:numL a with
    | none=>rw [num_none ha];exact rd_number.bad ⟨[b],true⟩ rfl
    | some v=>rw [num_some ha];simp only [num_none h]
theorem unwrap_ok {u v:Int} (ha:numL a=some u) (hb:numL b=some v):aUnwrap ⟨[a,b],false⟩=An.of (uF u v) (itoa (Ser.unw u v)):=by
  unfold aUnwrap
  rw [num_some ha]
  simp only [num_some hb]
  rw [if_neg (by rw [left_ok];simp)]
theorem seen_bad (h:numL a=none):aSeen S ⟨[a],false⟩=(.bad,S):=by
  unfold aSeen
  rw [num_none h]
  rfl
theorem seen_ok {u:Int} (ha:numL a=some u):aSeen S ⟨[a],false⟩=(An.of (wF S.top u) (yesNo (wIs S.top u S.seen)),{ S with top:=wT S.top u,seen:=wS S.top u S.seen }):=by
  unfold aSeen
  rw [num_some ha]
  rfl
theorem crc_bad (h:bytesR a=none):aSum ⟨[a],false⟩=.bad:=by
  unfold aSum
  rw [if_pos (left_bad (bytes_none h))]
theorem crc_ok {L:List Nat} (h:bytesR a=some L):aSum ⟨[a],false⟩=.ok (itoa (CM.go 0 L:Nat)):=by
  unfold aSum
  rw [bytes_some h]
  rfl
theorem open_bad (h:bytesR a=none):aOpen ⟨[a],false⟩=.bad:=by
  unfold aOpen
  rw [if_pos (left_bad (bytes_none h))]
theorem open_ok {L:List Nat} (h:bytesR a=some L):aOpen ⟨[a],false⟩=An.of (oF L) (hexOf (L.take (L.length - 4))):=by
  unfold aOpen
  rw [bytes_some h]
  show (if (⟨[],false⟩:Ws).left=true then An.bad else An.of (oF L) (hexOf (L.take (L.length - 4))))=_
  rw [if_neg (by rw [left_ok];simp)]
theorem pairs_bad (h:listR a=none):aPairs ⟨[a],false⟩=.bad:=by
  unfold aPairs
  rw [if_pos (left_bad (list_none h))]
theorem pairs_ok {L:List Int} (h:listR a=some L):aPairs ⟨[a],false⟩=An.of (Back.pfault L) (joined ((Back.pr (Back.prsOf L)).map pairText) 32):=by
  unfold aPairs
  rw [list_some h]
  rfl
theorem fair_bad (h:numL a=none∨listR b=none):aFair ⟨[a,b],false⟩=.bad:=by
  unfold aFair
  rw [if_pos]
  apply left_bad
  rcases h with h | h
  · rw [num_none h]
    exact rd_list.bad ⟨[b],true⟩ rfl
  · cases ha:numL a with
    | none=>rw [num_none ha];exact rd_list.bad ⟨[b],true⟩ rfl
    | some v=>rw [num_some ha];exact list_none h
theorem fair_ok {u:Int} {L:List Int} (ha:numL a=some u) (hb:listR b=some L):aFair ⟨[a,b],false⟩=An.of (RT.rf u L 200) (joined ((Rate.shr u L).map itoa) 44):=by
  unfold aFair
  rw [num_some ha]
  simp only [list_some hb]
  rw [if_neg (by rw [left_ok];simp)]
theorem hear_bad (h:listR a=none):aHear S ⟨[a],false⟩=(.bad,S):=by
  unfold aHear
  rw [if_pos (left_bad (list_none h))]
theorem hear_ok {L:List Int} (h:listR a=some L):aHear S ⟨[a],false⟩=(An.of (VO.hf S.f (voices L)) (itoa (VO.stS S.f S.sp (voices L))),{ S with sp:=VO.stS S.f S.sp (voices L),f:=VO.stF S.f (voices L) }):=by
  unfold aHear
  rw [list_some h]
  rfl
theorem take_bad (h:numL a=none∨numL b=none∨numL c=none∨∃ v,numL c=some v∧v≠0∧v≠1):aTake S ⟨[a,b,c],false⟩=(.bad,S):=by
  unfold aTake
  rw [if_pos]
  apply left_bad
  have k1:∀ W:Ws,W.rest=[c]→(numL c=none∨∃ v,numL c=some v∧v≠0∧v≠1)→W.flag.2.bad=true:=by
    rintro ⟨r,c⟩ rfl h
    exact flag_none h
  rcases h with h | h | h
  · rw [num_none h]
    exact rd_flag.bad _ (rd_number.bad ⟨[b,c],true⟩ rfl)
  · refine rd_flag.bad _ ?_
    cases ha:numL a with
    | none=>rw [num_none ha];exact rd_number.bad ⟨[b,c],true⟩ rfl
    | some v=>rw [num_some ha];simp only [num_none h]
  · refine k1 _ ?_ h
    have e:=(rd_number.comp rd_number).rest ⟨[a,b,c],false⟩
    exact e
theorem take_ok {u v:Int} {f:Int} (ha:numL a=some u) (hb:numL b=some v) (hc:numL c=some f) (hf:f=0∨f=1):aTake S ⟨[a,b,c],false⟩=take1 S u false (PM.fault (u%65536) 0 v 0 0) v (decide (f=1)):=by
  unfold aTake
  rw [num_some ha]
  simp only [num_some hb]
  rw [flag_some hc hf,if_neg (by rw [left_ok];simp)]
theorem gone_bad (h:numL a=none):aGone S ⟨[a],false⟩=(.bad,S):=by
  unfold aGone
  rw [num_none h]
  rfl
theorem gone_ok {u:Int} (ha:numL a=some u):aGone S ⟨[a],false⟩=take1 S u true 0 0 false:=by
  unfold aGone
  rw [num_some ha]
  rfl
theorem way_bad (h:numL a=none∨listR b=none∨∃ L,listR b=some L∧L.length%3≠0):aWay D ⟨[a,b],false⟩=.bad:=by
  unfold aWay
  rw [if_pos]
  apply left_bad
  rcases h with h | h
  · rw [num_none h]
    exact rd_edges.bad ⟨[b],true⟩ rfl
  · cases ha:numL a with
    | none=>rw [num_none ha];exact rd_edges.bad ⟨[b],true⟩ rfl
    | some v=>rw [num_some ha];exact edges_none h
theorem way_ok {u:Int} {L:List Int} (ha:numL a=some u) (hb:listR b=some L) (h3:L.length%3=0):aWay D ⟨[a,b],false⟩=An.of (TM.lf u (threes L) 0) (joined ((D u (threes L)).map itoa) 44):=by
  unfold aWay
  rw [num_some ha]
  simp only [edges_some hb h3]
  rw [if_neg (by rw [left_ok];simp)]
end
theorem line_eq (D:Far) (S:Ss) {x k:List UInt8} {r:List (List UInt8)} (h:cutL 32 x=k::r):line D S x=aDo D S k ⟨r,false⟩:=by
  unfold line ws0
  simp only [Ws.next,h]
end Go.Proofs.YtlppdppddiecnaaGreatDoor.RN
