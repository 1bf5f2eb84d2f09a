/-
  RunCut, WinMath, BackMath, VoiceMath, LayerMath in one text.
-/
import Derived.Lib.AtoiAll
import Derived.Lib.ItoaNum
import Derived.Lib.Join
import Derived.Lib.Split
import Derived.Lib.Bytealg
import Derived.Laws.BitsAllLaws
import Derived.IntWalk
import Derived.WalkKit
import Derived.WalkSmall
import Derived.Deep.Draws
import Derived.Lib.SlicesCompact
import Derived.Sort.LotA
import Derived.Lib.Small

namespace Go.Proofs.YtlppdppddiecnaaGreatDoor.RC
open Go.Lib

def cutL (c:UInt8):List UInt8→List (List UInt8)
  | []=>[[]]
  | x::r=>if x=c then []::cutL c r else (x::(cutL c r).headD [])::(cutL c r).tail
theorem cutL_ne (c:UInt8) (l:List UInt8):cutL c l≠[]:=by
  cases l with
  | nil=>simp [cutL]
  | cons x r=>unfold cutL;split<;>simp
theorem cutL_none {c:UInt8}:∀ {l:List UInt8},c∉l→cutL c l=[l]
  | [],_=>rfl
  | x::r,h=>by
    simp only [List.mem_cons,not_or] at h
    rw [cutL,if_neg (fun e=>h.1 e.symm),cutL_none h.2]
    rfl
theorem cutL_at {c:UInt8} (b:List UInt8):∀ {a:List UInt8},c∉a→cutL c (a++c::b)=a::cutL c b
  | [],_=>by simp [cutL]
  | x::r,h=>by
    simp only [List.mem_cons,not_or] at h
    rw [List.cons_append,cutL,if_neg (fun e=>h.1 e.symm),cutL_at b h.2]
    rfl
theorem index_one (c:UInt8):∀ s:List UInt8,(index s [c]=-1∧c∉s)∨∃ i:Nat,index s [c]=i∧i<s.length∧s=s.take i++c::s.drop (i+1)∧c∉s.take i
  | []=>.inl (by simp [index])
  | b::l=>by
    by_cases hb:c=b
    · subst hb
      exact .inr ⟨0,by simp [index,List.isPrefixOf],by simp,by simp,by simp⟩
    · have hp:[c].isPrefixOf (b::l)=false:=by simp [List.isPrefixOf,hb]
      rcases index_one c l with ⟨h1,h2⟩ | ⟨i,h1,h2,h3,h4⟩
      · refine .inl ⟨?_,by simp [hb,h2]⟩
        unfold index
        rw [hp,h1];rfl
      · refine .inr ⟨i+1,?_,by simp;omega,?_,?_⟩
        · unfold index
          rw [hp,h1]
          have:((i:Int)==-1)=false:=by simp
          simp [this]
        · simpa using h3
        · simp [hb,h4]
theorem indexByte_one (c:UInt8):∀ s:List UInt8,(indexByte s c=-1∧c∉s)∨∃ i:Nat,indexByte s c=i∧i<s.length∧s=s.take i++c::s.drop (i+1)∧c∉s.take i
  | []=>.inl (by simp [indexByte])
  | b::l=>by
    by_cases hb:b=c
    · subst hb
      exact .inr ⟨0,by simp [indexByte],by simp,by simp,by simp⟩
    · have hb':¬ c=b:=fun e=>hb e.symm
      have hp:(b==c)=false:=by simp [hb]
      rcases indexByte_one c l with ⟨h1,h2⟩ | ⟨i,h1,h2,h3,h4⟩
      · refine .inl ⟨?_,by simp [hb',h2]⟩
        unfold indexByte
        rw [hp,h1];rfl
      · refine .inr ⟨i+1,?_,by simp;omega,?_,?_⟩
        · unfold indexByte
          rw [hp,h1]
          have:((i:Int)==-1)=false:=by simp
          simp [this]
        · simpa using h3
        · simp [hb',h4]
theorem splitK_cut (c:UInt8):∀ (n:Nat) (s:List UInt8),s.length≤n→splitK [c] 0 (count s [c]) s=cutL c s:=by
  intro n
  induction n with
  | zero=>
    intro s hs
    have:s=[]:=List.eq_nil_of_length_eq_zero (by omega)
    subst this
    have h:index ([]:List UInt8) [c]=-1:=by simp [index]
    rw [count_miss h];rfl
  | succ n ih=>
    intro s hs
    rcases index_one c s with ⟨h1,h2⟩ | ⟨i,h1,h2,h3,h4⟩
    · rw [count_miss h1,cutL_none h2];rfl
    · have hc:=count_hit (sub:=[c]) (by simp) h1
      rw [hc,Nat.add_comm 1,splitK]
      have hm:¬ (index s [c]==-1)=true:=by rw [h1];simp
      rw [if_neg hm,h1]
      have e:((i:Int).toNat+[c].length)=i+1:=by simp
      rw [e,show i+[c].length=i+1 from rfl,ih _ (by simp;omega)]
      conv=>rhs;rw [h3]
      rw [cutL_at _ h4]
      simp

theorem cutL_len (c:UInt8):∀ (n:Nat) (s:List UInt8),s.length≤n→(cutL c s).length=count s [c]+1:=by
  intro n
  induction n with
  | zero=>
    intro s hs
    have:s=[]:=List.eq_nil_of_length_eq_zero (by omega)
    subst this
    rw [count_miss (by simp [index])];rfl
  | succ n ih=>
    intro s hs
    rcases index_one c s with ⟨h1,h2⟩ | ⟨i,h1,h2,h3,h4⟩
    · rw [count_miss h1,cutL_none h2];rfl
    · have hc:=count_hit (sub:=[c]) (by simp) h1
      rw [hc,show i+[c].length=i+1 from rfl]
      conv=>lhs;rw [h3,cutL_at _ h4,List.length_cons,ih _ (by simp;omega)]
      omega
theorem cutL_sz (c:UInt8):∀ (n:Nat) (s:List UInt8),s.length≤n→∀ x∈cutL c s,x.length≤s.length:=by
  intro n
  induction n with
  | zero=>
    intro s hs x hx
    have:s=[]:=List.eq_nil_of_length_eq_zero (by omega)
    subst this
    simp [cutL] at hx
    simp [hx]
  | succ n ih=>
    intro s hs x hx
    rcases index_one c s with ⟨h1,h2⟩ | ⟨i,h1,h2,h3,h4⟩
    · rw [cutL_none h2,List.mem_singleton] at hx
      rw [hx];exact Nat.le_refl _
    · rw [h3,cutL_at _ h4,List.mem_cons] at hx
      rcases hx with hx | hx
      · rw [hx,List.length_take];omega
      · have:=ih _ (by simp;omega) x hx
        simp at this;omega
theorem cutL_many (c:UInt8) (s:List UInt8):(cutL c s).length≤s.length+1:=by
  induction s with
  | nil=>simp [cutL]
  | cons x r ih=>
    unfold cutL
    split
    · simp;omega
    · simp;omega

def linesL:List UInt8→List (List UInt8)
  | []=>[]
  | x::r=>if x=10 then []::linesL r else (x::(linesL r).headD [])::(linesL r).tail
theorem linesL_none:∀ {l:List UInt8},l≠[]→(10:UInt8)∉l→linesL l=[l]
  | [],h,_=>absurd rfl h
  | [x],_,h=>by
    simp only [List.mem_cons,not_or] at h
    rw [linesL,if_neg (fun e=>h.1 e.symm)];rfl
  | x::y::r,_,h=>by
    simp only [List.mem_cons,not_or] at h
    rw [linesL,if_neg (fun e=>h.1 e.symm),linesL_none (l:=y::r) (by simp) (by simp [h.2])]
    rfl
theorem linesL_at (b:List UInt8):∀ {a:List UInt8},(10:UInt8)∉a→linesL (a++10::b)=a::linesL b
  | [],_=>by simp [linesL]
  | x::r,h=>by
    simp only [List.mem_cons,not_or] at h
    rw [List.cons_append,linesL,if_neg (fun e=>h.1 e.symm),linesL_at b h.2]
    rfl
theorem linesL_cons_ne {l:List UInt8} (h:l≠[]):linesL l≠[]:=by
  cases l with
  | nil=>exact absurd rfl h
  | cons x r=>unfold linesL;split<;>simp
theorem linesL_app (b:List UInt8):∀ a:List UInt8,linesL ((a++[10])++b)=linesL (a++[10])++linesL b
  | []=>by simp [linesL]
  | x::r=>by
    have ih:=linesL_app b r
    show linesL (x::((r++[10])++b))=linesL (x::(r++[10]))++linesL b
    by_cases hx:x=10
    · rw [linesL,if_pos hx,ih,linesL,if_pos hx];rfl
    · rw [linesL,if_neg hx,ih,linesL,if_neg hx]
      obtain ⟨y,t,hy⟩:∃ y t,linesL (r++[10])=y::t:=by
        cases h:linesL (r++[10]) with
        | nil=>exact absurd h (linesL_cons_ne (by simp))
        | cons y t=>exact ⟨y,t,rfl⟩
      rw [hy];rfl
theorem linesL_cut:∀ l:List UInt8,linesL l=if (cutL 10 l).getLastD []=[] then (cutL 10 l).dropLast else cutL 10 l
  | []=>by simp [linesL,cutL]
  | x::r=>by
    have ih:=linesL_cut r
    have hne:=cutL_ne 10 r
    obtain ⟨h,t,e⟩:∃ h t,cutL 10 r=h::t:=by
      cases h:cutL 10 r with
      | nil=>exact absurd h hne
      | cons y t=>exact ⟨y,t,rfl⟩
    by_cases hx:x=10
    · rw [linesL,if_pos hx,ih,cutL,if_pos hx,e]
      by_cases hl:(h::t).getLastD []=[]
      · rw [if_pos hl,if_pos (by simpa using hl)];simp
      · rw [if_neg hl,if_neg (by simpa using hl)]
    · rw [linesL,if_neg hx,ih,cutL,if_neg hx,e]
      cases t with
      | nil=>
        by_cases hh:h=[]
        · subst hh;simp
        · simp [hh]
      | cons y t=>
        by_cases hl:(y::t).getLastD []=[]
        · have hl2:(h::y::t).getLastD []=[]:=by simpa using hl
          rw [if_pos hl2,if_pos (by simpa using hl)]
          simp
        · have hl2:¬ (h::y::t).getLastD []=[]:=by simpa using hl
          rw [if_neg hl2,if_neg (by simpa using hl)]

def rawL:List UInt8→List (List UInt8)
  | []=>[]
  | x::r=>if x=10 then [10]::rawL r else (x::(rawL r).headD [])::(rawL r).tail
theorem rawL_none:∀ {l:List UInt8},l≠[]→(10:UInt8)∉l→rawL l=[l]
  | [],h,_=>absurd rfl h
  | [x],_,h=>by
    simp only [List.mem_cons,not_or] at h
    rw [rawL,if_neg (fun e=>h.1 e.symm)];rfl
  | x::y::r,_,h=>by
    simp only [List.mem_cons,not_or] at h
    rw [rawL,if_neg (fun e=>h.1 e.symm),rawL_none (l:=y::r) (by simp) (by simp [h.2])]
    rfl
theorem rawL_at (b:List UInt8):∀ {a:List UInt8},(10:UInt8)∉a→rawL (a++10::b)=(a++[10])::rawL b
  | [],_=>by simp [rawL]
  | x::r,h=>by
    simp only [List.mem_cons,not_or] at h
    rw [List.cons_append,rawL,if_neg (fun e=>h.1 e.symm),rawL_at b h.2]
    rfl
theorem trim_end (a:List UInt8):trimSuffix (a++[10]) [10]=a:=by
  unfold trimSuffix hasSuffix
  simp
theorem trim_none {a:List UInt8} (h:(10:UInt8)∉a):trimSuffix a [10]=a:=by
  unfold trimSuffix hasSuffix
  rw [if_neg]
  intro e
  obtain ⟨t,ht⟩:=List.isSuffixOf_iff_suffix.1 e
  exact h (by rw [← ht];simp)
theorem raw_lines:∀ (n:Nat) (l:List UInt8),l.length≤n→(rawL l).map (fun x=>trimSuffix x [10])=linesL l:=by
  intro n
  induction n with
  | zero=>
    intro l h
    have:l=[]:=List.eq_nil_of_length_eq_zero (by omega)
    subst this;rfl
  | succ n ih=>
    intro l h
    by_cases hl:l=[]
    · subst hl;rfl
    · rcases indexByte_one 10 l with ⟨_,h2⟩ | ⟨i,h1,h2,h3,h4⟩
      · rw [rawL_none hl h2,linesL_none hl h2,List.map_cons,trim_none h2];rfl
      · rw [h3,rawL_at _ h4,linesL_at _ h4,List.map_cons,trim_end,ih _ (by simp;omega)]
theorem rawL_join:∀ (n:Nat) (l:List UInt8),l.length≤n→(rawL l).flatten=l:=by
  intro n
  induction n with
  | zero=>
    intro l h
    have:l=[]:=List.eq_nil_of_length_eq_zero (by omega)
    subst this;rfl
  | succ n ih=>
    intro l h
    by_cases hl:l=[]
    · subst hl;rfl
    · rcases indexByte_one 10 l with ⟨_,h2⟩ | ⟨i,h1,h2,h3,h4⟩
      · rw [rawL_none hl h2];simp
      · conv=>lhs;rw [h3,rawL_at _ h4,List.flatten_cons,ih _ (by simp;omega)]
        conv=>rhs;rw [h3]
        simp

theorem parse_app:∀ (a b:List UInt8) (acc:Nat),parseUint10 acc (a++b)=match parseUint10 acc a with
    | .ok v=>parseUint10 v b
    | .syntax=>.syntax
    | .range=>.range
  | [],b,acc=>rfl
  | c::r,b,acc=>by
    rw [List.cons_append,parseUint10,parseUint10]
    split
    · split
      · rfl
      · split
        · rfl
        · exact parse_app r b _
    · rfl
theorem parse_digits:∀ (n u:Nat),u≤n→u<18446744073709551616→parseUint10 0 (decDigits u)=.ok u:=by
  intro n
  induction n with
  | zero=>
    intro u h h2
    have:u=0:=by omega
    subst this
    rw [decDigits,dif_pos (by omega)];rfl
  | succ n ih=>
    intro u h h2
    by_cases hu:u<10
    · rw [decDigits,dif_pos hu]
      have e:(UInt8.ofNat (48+u)).toNat=48+u:=by rw [UInt8.toNat_ofNat'];omega
      simp only [parseUint10,e]
      rw [if_pos (by omega),if_neg (by omega),if_neg (by omega)]
      congr 1;omega
    · rw [decDigits,dif_neg hu,parse_app,ih (u / 10) (by omega) (by omega)]
      have e:(UInt8.ofNat (48+u%10)).toNat=48+u%10:=by rw [UInt8.toNat_ofNat'];omega
      simp only [parseUint10,e]
      rw [if_pos (by omega),if_neg (by omega),if_neg (by omega)]
      congr 1;omega
theorem digits_mem:∀ (n u:Nat),u≤n→∀ c∈decDigits u,48≤c.toNat∧c.toNat≤57:=by
  intro n
  induction n with
  | zero=>
    intro u h c hc
    rw [decDigits,dif_pos (by omega),List.mem_singleton] at hc
    subst hc
    rw [UInt8.toNat_ofNat'];omega
  | succ n ih=>
    intro u h c hc
    by_cases hu:u<10
    · rw [decDigits,dif_pos hu,List.mem_singleton] at hc
      subst hc
      rw [UInt8.toNat_ofNat'];omega
    · rw [decDigits,dif_neg hu,List.mem_append,List.mem_singleton] at hc
      rcases hc with hc | hc
      · exact ih (u / 10) (by omega) c hc
      · subst hc
        rw [UInt8.toNat_ofNat'];omega
theorem digits_ne (u:Nat):decDigits u≠[]:=by
  intro h
  have:=decDigits_length u
  rw [h] at this
  have:=nDigits_pos u
  simp at *
  omega
theorem digits_no {u:Nat} {c:UInt8} (h:c.toNat<48∨57<c.toNat):c∉decDigits u:=fun hm=>by
  have:=digits_mem u u (Nat.le_refl _) c hm
  omega
theorem itoa_no {n:Int} {c:UInt8} (h:c.toNat<45∨57<c.toNat∨c.toNat=46∨c.toNat=47):c∉itoa n:=by
  have h2:c.toNat<48∨57<c.toNat:=by omega
  have h3:c≠45:=fun e=>by subst e;simp at h
  unfold itoa
  split
  · simp only [List.mem_cons,not_or];exact ⟨h3,digits_no h2⟩
  · exact digits_no h2
theorem itoa_ne (n:Int):itoa n≠[]:=by
  unfold itoa;split
  · simp
  · exact digits_ne _
theorem atoi_itoa {n:Int} (h0:-9223372036854775808≤n) (h1:n≤9223372036854775807):atoiAll (itoa n)=.ok n:=by
  unfold itoa
  split
  · rename_i hn
    have hp:parseMag (decDigits n.natAbs)=.ok n.natAbs:=by
      unfold parseMag;rw [if_neg (digits_ne _),parse_digits _ _ (Nat.le_refl _) (by omega)]
    simp only [atoiAll]
    rw [if_pos (.inr (by decide)),hp]
    simp only [show (45:UInt8).toNat=45 from rfl]
    rw [if_neg (by simp),if_neg (by omega),if_pos trivial]
    congr 1;omega
  · rename_i hn
    obtain ⟨c,r,e⟩:∃ c r,decDigits n.toNat=c::r:=by
      cases h:decDigits n.toNat with
      | nil=>exact absurd h (digits_ne _)
      | cons c r=>exact ⟨c,r,rfl⟩
    have hc:=digits_mem n.toNat n.toNat (Nat.le_refl _) c (by rw [e];simp)
    have hp:parseMag (decDigits n.toNat)=.ok n.toNat:=by
      unfold parseMag;rw [if_neg (digits_ne _),parse_digits _ _ (Nat.le_refl _) (by omega)]
    rw [e] at hp ⊢
    simp only [atoiAll]
    rw [if_neg (by omega),hp]
    simp only
    rw [if_neg (by omega),if_neg (by omega),if_neg (by omega)]
    congr 1;omega
def numL (l:List UInt8):Option Int:=
  match atoiAll l with
  | .ok v=>if v < -999999999∨999999999<v∨itoa v≠l then none else some v
  | _=>none
theorem numL_itoa {n:Int} (h0:-999999999≤n) (h1:n≤999999999):numL (itoa n)=some n:=by
  unfold numL
  rw [atoi_itoa (by omega) (by omega)]
  simp only
  rw [if_neg (by simp;omega)]
theorem numL_some {l:List UInt8} {v:Int} (h:numL l=some v):-999999999≤v∧v≤999999999∧l=itoa v:=by
  unfold numL at h
  split at h
  · split at h
    · cases h
    · rename_i hv
      cases h
      exact ⟨by omega,by omega,by simp at hv;exact hv.2.2.symm⟩
  · cases h
end Go.Proofs.YtlppdppddiecnaaGreatDoor.RC
namespace Go.Proofs.YtlppdppddiecnaaGreatDoor.Win
open Go

def Inv (n T:Int) (s:Nat) (L:List Int):Prop:=
  1≤n∧n≤64∧-1≤T∧T≤1099511627776∧s<18446744073709551616∧(∀ x,x∈L→0≤x∧x≤T) ∧
  (∀ x:Int,0≤x→x≤T→T - x<n→(s.testBit (T - x).toNat=true↔x∈L))
def hasW (n T:Int) (s:Nat) (y:Int):Bool:=decide (0≤y∧y≤T∧T - y<n)&&s.testBit (T - y).toNat
def hasR (n T:Int) (L:List Int) (y:Int):Bool:=decide (y∈L)&&decide (T - n<y)

theorem has_same {n T:Int} {s:Nat} {L:List Int} (h:Inv n T s L) (y:Int):hasW n T s y=hasR n T L y:=by
  obtain ⟨_,_,_,_,_,hL,hb⟩:=h
  unfold hasW hasR
  rw [Bool.eq_iff_iff]
  simp only [Bool.and_eq_true,decide_eq_true_eq]
  constructor
  · rintro ⟨⟨h1,h2,h3⟩,h4⟩
    exact ⟨(hb y h1 h2 h3).1 h4,by omega⟩
  · rintro ⟨h1,h2⟩
    have:=hL y h1
    exact ⟨⟨this.1,this.2,by omega⟩,(hb y this.1 this.2 (by omega)).2 h1⟩

def riseS (s d:Nat):Nat:=((s*2 ^ min d 64)%18446744073709551616) ||| 1
theorem riseS_lt (s d:Nat):riseS s d<18446744073709551616:=by
  unfold riseS
  exact Nat.or_lt_two_pow (n:=64) (Nat.mod_lt _ (by decide)) (by decide)

theorem inv_start (n:Int) (h1:1≤n) (h2:n≤64):Inv n (-1) 0 []:=
  ⟨h1,h2,by omega,by omega,by decide,by simp,fun x hx hx'=>by omega⟩

theorem inv_rise {n T:Int} {s:Nat} {L:List Int} (h:Inv n T s L) (y:Int) (hy:T<y) (hl:0≤y) (hm:y≤1099511627776):Inv n y (riseS s (y - T).toNat) (L++[y]):=by
  obtain ⟨h1,h2,h3,h4,h5,hL,hb⟩:=h
  refine ⟨h1,h2,by omega,hm,riseS_lt _ _,?_,?_⟩
  · intro x hx
    rcases List.mem_append.1 hx with hx | hx
    · have:=hL x hx;omega
    · have:x=y:=by simpa using hx
      omega
  · intro x hx0 hx1 hx2
    have e18:(18446744073709551616:Nat)=2 ^ 64:=by decide
    unfold riseS
    rw [e18,Nat.testBit_or,Nat.testBit_mod_two_pow,List.mem_append]
    by_cases hxy:x=y
    · subst hxy
      simp
    · have hk:((y - x).toNat<64):=by omega
      have h0:Nat.testBit 1 (y - x).toNat=false:=by
        rw [Bool.eq_false_iff]
        intro hh
        have:=Nat.testBit_one_eq_true_iff_self_eq_zero.1 hh
        omega
      have hmul:s*2 ^ min (y - T).toNat 64=s <<< (min (y - T).toNat 64):=by rw [Nat.shiftLeft_eq]
      rw [h0,hmul,Nat.testBit_shiftLeft,Bool.or_false]
      have hxy':¬ x∈[y]:=by simpa using hxy
      simp only [hxy',or_false,hk,decide_true,Bool.true_and,Bool.and_eq_true,decide_eq_true_eq]
      by_cases hxT:x≤T
      · have e1:min (y - T).toNat 64=(y - T).toNat:=by omega
        rw [e1]
        have e2:(y - x).toNat - (y - T).toNat=(T - x).toNat:=by omega
        rw [e2]
        have hb':=hb x hx0 hxT (by omega)
        constructor
        · rintro ⟨_,h⟩;exact hb'.1 h
        · intro h;exact ⟨by omega,hb'.2 h⟩
      · constructor
        · rintro ⟨h,_⟩;omega
        · intro h;have:=hL x h;omega

theorem inv_add {n T:Int} {s:Nat} {L:List Int} (h:Inv n T s L) (y:Int) (hy:y≤T) (hn:T - n<y) (hl:0≤y) :
    Inv n T (s ||| 2 ^ (T - y).toNat) (if hasR n T L y then L else L++[y]):=by
  have hh:hasR n T L y=decide (y∈L):=by simp [hasR,hn]
  obtain ⟨h1,h2,h3,h4,h5,hL,hb⟩:=h
  have hmem:∀ x,x∈(if hasR n T L y then L else L++[y])↔(x∈L∨x=y):=by
    intro x
    rw [hh]
    by_cases hc:y∈L
    · simp only [hc,decide_true,if_true]
      constructor
      · intro h;exact Or.inl h
      · rintro (h | h)
        · exact h
        · rw [h];exact hc
    · simp [hc]
  refine ⟨h1,h2,h3,h4,?_,?_,?_⟩
  · have h64:(2:Nat) ^ (T - y).toNat<2 ^ 64:=Nat.pow_lt_pow_right (by decide) (by omega)
    exact Nat.or_lt_two_pow (n:=64) h5 h64
  · intro x hx
    rcases (hmem x).1 hx with hx | hx
    · exact hL x hx
    · omega
  · intro x hx0 hx1 hx2
    rw [Nat.testBit_or,Nat.testBit_two_pow,hmem x,Bool.or_eq_true,decide_eq_true_eq,hb x hx0 hx1 hx2]
    constructor
    · rintro (h | h)
      · exact Or.inl h
      · exact Or.inr (by omega)
    · rintro (h | h)
      · exact Or.inl h
      · exact Or.inr (by omega)

theorem and_bit (s k:Nat) (hs:s<18446744073709551616):(bits .and .u64 ((s:Int) / 2 ^ k) 1==1)=s.testBit k:=by
  have e:((s:Int) / 2 ^ k)=((s / 2 ^ k:Nat):Int):=by simp
  rw [e,show (1:Int)=((1:Nat):Int) from rfl,u64_and_nat _ _ (Nat.lt_of_le_of_lt (Nat.div_le_self _ _) hs) (by decide),Nat.and_one_is_mod,Nat.testBit_eq_decide_div_mod_eq]
  rw [Bool.eq_iff_iff,beq_iff_eq,decide_eq_true_eq]
  omega
theorem rise_bits (s d:Nat):bits .or .u64 (IntKind.u64.wrap ((s:Int)*2 ^ min d 64)) 1=(riseS s d:Int):=by
  have e:IntKind.u64.wrap ((s:Int)*2 ^ min d 64)=((s*2 ^ min d 64%18446744073709551616:Nat):Int):=by
    rw [IntKind.wrap_u64];simp
  rw [e,show (1:Int)=((1:Nat):Int) from rfl,u64_or_nat _ _ (Nat.mod_lt _ (by decide)) (by decide)]
  rfl
theorem add_bits (s d:Nat) (hs:s<18446744073709551616) (hd:d<64):bits .or .u64 (s:Int) (IntKind.u64.wrap (1*2 ^ min d 64))=((s ||| 2 ^ d:Nat):Int):=by
  have h64:(2:Nat) ^ d<18446744073709551616:=show (2:Nat) ^ d<2 ^ 64 from Nat.pow_lt_pow_right (by decide) hd
  have e2:(2:Int) ^ d=((2 ^ d:Nat):Int):=by rw [Int.natCast_pow];rfl
  have e:IntKind.u64.wrap (1*2 ^ min d 64)=((2 ^ d:Nat):Int):=by
    rw [IntKind.wrap_u64,show min d 64=d from by omega,Int.one_mul,e2]
    generalize (2 ^ d:Nat)=p at *
    omega
  rw [e,u64_or_nat _ _ hs h64]
end Go.Proofs.YtlppdppddiecnaaGreatDoor.Win
namespace Go.Proofs.YtlppdppddiecnaaGreatDoor.Win
open Go Go.RowKit

def Only (bs:List Nat) (w w':World):Prop:=
  w'.os=w.os∧w'.tape=w.tape∧w'.output=w.output∧w.heap.size≤w'.heap.size∧∀ k,k<w.heap.size→k∉bs→w'.heap[k]?=w.heap[k]?
theorem Only.refl (bs:List Nat) (w:World):Only bs w w:=⟨rfl,rfl,rfl,Nat.le_refl _,fun _ _ _=>rfl⟩
theorem Only.trans {bs:List Nat} {a b c:World} (h:Only bs a b) (k:Only bs b c):Only bs a c:=
  ⟨k.1.trans h.1,k.2.1.trans h.2.1,k.2.2.1.trans h.2.2.1,Nat.le_trans h.2.2.2.1 k.2.2.2.1,fun i hi hb=>(k.2.2.2.2 i (Nat.lt_of_lt_of_le hi h.2.2.2.1) hb).trans (h.2.2.2.2 i hi hb)⟩
theorem Only.mono {bs cs:List Nat} {a b:World} (h:Only bs a b) (hs:∀ k,k∈bs→k∈cs):Only cs a b:=
  ⟨h.1,h.2.1,h.2.2.1,h.2.2.2.1,fun i hi hb=>h.2.2.2.2 i hi (fun hc=>hb (hs i hc))⟩
theorem Only.drewN {bs:List Nat} {a b:World} (h:Only bs a b) (n:Nat):Only bs a (b.drewN n):=h
theorem Only.drew {bs:List Nat} {a b:World} (h:Only bs a b):Only bs a b.drew:=h
theorem Only.alloc {bs:List Nat} {a b:World} (h:Only bs a b) (o:Obj):Only bs a (b.alloc o):=
  h.trans ⟨rfl,rfl,rfl,by simp,fun k hk _=>Below.heap_alloc _ _ _ hk⟩
theorem Only.setCell {bs:List Nat} {a b:World} (h:Only bs a b) {p:Addr} (hp:p.block∈bs) (u:Value):Only bs a (b.setCell p u):=
  h.trans ⟨rfl,rfl,rfl,by simp [World.setCell],fun k _ hb=>Below.heap_setCell _ _ _ _ (fun e=>hb (e ▸ hp))⟩
theorem Only.grown {bs:List Nat} {a b c:World} {row:Option Nat} (h:Only bs a b) (hg:b.grownBy c row) (hr:∀ k,row=some k→k∈bs):Only bs a c:=
  h.trans ⟨hg.os,hg.tape,hg.output,hg.size,fun k hk hb=>hg.block k hk (fun e=>hb (hr k e.symm))⟩
theorem Only.below {bs:List Nat} {a b:World} {B:Nat} (h:Only bs a b) (hB:B≤a.heap.size) (hb:∀ k,k∈bs→B≤k):Below B a b:=
  ⟨h.1,h.2.1,h.2.2.1,h.2.2.2.1,fun k hk=>h.2.2.2.2 k (by omega) (fun hc=>by have:=hb k hc;omega)⟩
theorem Only.of_below {a b:World} (h:Below a.heap.size a b) (bs:List Nat):Only bs a b:=
  ⟨h.os,h.tape,h.output,h.size,fun k hk _=>h.block k hk⟩
theorem Only.block {bs:List Nat} {a b:World} (h:Only bs a b) {k:Nat} {o:Obj} (ho:a.heap[k]?=some o) (hk:k∉bs):b.heap[k]?=some o:=
  (h.2.2.2.2 k (lt_of_block ho) hk).trans ho
theorem Only.owns {bs:List Nat} {a b:World} (h:Only bs a b) {base:Nat} {e:TypeId} {size:Nat} {v:Value} {n:Nat} {xs:List Value} (ho:a.ownsRow base e size v n xs) (hk:∀ k,v.ownBlock=some k→k∉bs):b.ownsRow base e size v n xs:=by
  refine ⟨ho.1,?_⟩
  rcases ho.2 with hn | ⟨g,cap,cur,rfl,hb,hgg,rest⟩
  · exact .inl hn
  · exact .inr ⟨g,cap,cur,rfl,hb,h.block hgg (hk g rfl),rest⟩

theorem cells3 {w:World} {b:Nat} {x y z:Value} {t:TypeId} (h:w.heap[b]?=some (.cells #[x,y,z] t (0,0))) :
    w.cell? ⟨b,0,none⟩=some x∧w.cell? ⟨b,1,none⟩=some y∧w.cell? ⟨b,2,none⟩=some z:=by
  refine ⟨?_,?_,?_⟩<;>simp [World.cell?,h]
theorem free3 {w:World} {b:Nat} {x y z:Value} {t:TypeId} (h:w.heap[b]?=some (.cells #[x,y,z] t (0,0))) (j:Nat) :
    w.frozen? ⟨b,j,none⟩=false:=by
  simp [World.frozen?,h]
theorem set3 {w:World} {b:Nat} {cs:Array Value} {t:TypeId} (h:w.heap[b]?=some (.cells cs t (0,0))) (j:Nat) (u:Value) :
    (w.setCell ⟨b,j,none⟩ u).heap[b]?=some (.cells (cs.setIfInBounds j u) t (0,0)):=by
  exact heap_setCell_same w b j cs t u h
end Go.Proofs.YtlppdppddiecnaaGreatDoor.Win
set_option linter.unusedVariables false
namespace Go.Proofs.YtlppdppddiecnaaGreatDoor.BM
open Go.Lib

abbrev Rises (l:List Int):Prop:=l.Pairwise (·<·)
theorem rises_ext:∀ {a b:List Int},Rises a→Rises b→(∀ x,x∈a↔x∈b)→a=b
  | [],[],_,_,_=>rfl
  | [],y::b,_,_,h=>absurd ((h y).2 (List.mem_cons_self ..)) (by simp)
  | x::a,[],_,_,h=>absurd ((h x).1 (List.mem_cons_self ..)) (by simp)
  | x::a,y::b,ha,hb,h=>by
    obtain ⟨hx,ha'⟩:=List.pairwise_cons.1 ha
    obtain ⟨hy,hb'⟩:=List.pairwise_cons.1 hb
    have hxy:x=y:=by
      rcases List.mem_cons.1 ((h x).1 (List.mem_cons_self ..)) with e | e
      · exact e
      · rcases List.mem_cons.1 ((h y).2 (List.mem_cons_self ..)) with e' | e'
        · exact e'.symm
        · have:=hx y e';have:=hy x e;omega
    subst hxy
    rw [rises_ext ha' hb' fun z=>?_]
    constructor
    · intro hz
      rcases List.mem_cons.1 ((h z).1 (List.mem_cons_of_mem _ hz)) with e | e
      · subst e;have:=hx z hz;omega
      · exact e
    · intro hz
      rcases List.mem_cons.1 ((h z).2 (List.mem_cons_of_mem _ hz)) with e | e
      · subst e;have:=hy z hz;omega
      · exact e

def norm (zs:List Int):List Int:=compact (zs.mergeSort fun x y=>decide (x≤y))
theorem compactUpTo_of (d:Array Int) (hs:∀ i j,i≤j→j<d.size→d[i]! ≤ d[j]!):∀ m,m≤d.size→Rises (compactUpTo d m)∧∀ x,x∈compactUpTo d m↔∃ j,j<m∧d[j]! = x
  | 0,_=>⟨List.Pairwise.nil,fun x=>by simp [compactUpTo]⟩
  | m+1,hm=>by
    obtain ⟨h1,h2⟩:=compactUpTo_of d hs m (by omega)
    rw [compactUpTo_succ]
    by_cases hk:keeps d m=true
    · rw [if_pos hk]
      refine ⟨List.pairwise_append.2 ⟨h1,List.pairwise_singleton _ _,fun a ha b hb=>?_⟩,fun x=>?_⟩
      · obtain ⟨j,hj,rfl⟩:=(h2 a).1 ha
        obtain rfl:=List.mem_singleton.1 hb
        simp only [keeps,decide_eq_true_eq] at hk
        rcases hk with rfl | hk
        · omega
        · have l1:=hs j (m - 1) (by omega) (by omega)
          have l2:=hs (m - 1) m (by omega) (by omega)
          omega
      · rw [List.mem_append,List.mem_singleton,h2]
        constructor
        · rintro (⟨j,hj,rfl⟩ | rfl)
          · exact ⟨j,by omega,rfl⟩
          · exact ⟨m,by omega,rfl⟩
        · rintro ⟨j,hj,rfl⟩
          by_cases e:j=m
          · exact .inr (by rw [e])
          · exact .inl ⟨j,by omega,rfl⟩
    · have hk':keeps d m=false:=by simpa using hk
      rw [if_neg hk,List.append_nil]
      refine ⟨h1,fun x=>?_⟩
      rw [h2]
      simp only [keeps,decide_eq_false_iff_not,not_or,Decidable.not_not] at hk'
      constructor
      · rintro ⟨j,hj,rfl⟩;exact ⟨j,by omega,rfl⟩
      · rintro ⟨j,hj,rfl⟩
        by_cases e:j=m
        · exact ⟨m - 1,by omega,by rw [e,hk'.2]⟩
        · exact ⟨j,by omega,rfl⟩
theorem norm_of (zs:List Int):Rises (norm zs)∧∀ x,x∈norm zs↔x∈zs:=by
  have hp:=List.pairwise_mergeSort (le:=fun x y:Int=>decide (x≤y)) (fun a b c h k=>by simp only [decide_eq_true_eq] at *;omega) (fun a b=>by simp only [Bool.or_eq_true,decide_eq_true_eq];omega) zs
  have hm:∀ x,x∈zs.mergeSort (fun x y:Int=>decide (x≤y))↔x∈zs:=fun x=>List.mem_mergeSort
  unfold norm
  generalize zs.mergeSort (fun x y:Int=>decide (x≤y))=ss at *
  have h:=compactUpTo_of ss.toArray (fun i j hij hj=>by
    have hj':j<ss.length:=by simpa using hj
    rw [getElem!_pos ss.toArray i (by simp;omega),getElem!_pos ss.toArray j (by simpa using hj')]
    by_cases e:i=j
    · subst e;exact Int.le_refl _
    · have:=List.pairwise_iff_getElem.1 hp i j (by omega) hj' (by omega)
      simpa using this) ss.length (by simp)
  refine ⟨h.1,fun x=>?_⟩
  unfold compact
  rw [h.2,← hm]
  constructor
  · rintro ⟨j,hj,rfl⟩
    rw [getElem!_pos ss.toArray j (by simpa using hj)]
    simp
  · intro hx
    obtain ⟨j,hj,rfl⟩:=List.getElem_of_mem hx
    exact ⟨j,hj,by rw [getElem!_pos ss.toArray j (by simpa using hj)];simp⟩
theorem norm_eq {zs S:List Int} (h:Rises S) (hm:∀ x,x∈S↔x∈zs):norm zs=S:=rises_ext (norm_of zs).1 h (fun x=>((norm_of zs).2 x).trans (hm x).symm)
theorem norm_self {S:List Int} (h:Rises S):norm S=S:=norm_eq h fun _=>Iff.rfl
theorem compact_len (zs:List Int):(compact zs).length≤zs.length:=by
  unfold compact compactUpTo
  rw [List.length_map]
  exact Nat.le_trans (List.length_filter_le _ _) (by simp)
theorem norm_len (zs:List Int):(norm zs).length≤zs.length:=by
  unfold norm
  have:=compact_len (zs.mergeSort fun x y:Int=>decide (x≤y))
  rwa [List.length_mergeSort] at this

def tells (p:Int×Nat):List Int:=p.1::((List.range 16).filter fun i=>p.2.testBit i).map fun (i:Nat)=>p.1+(i:Int)+1
def told (l:List (Int×Nat)):List Int:=l.flatMap tells
def step (l:List (Int×Nat)) (n:Int):List (Int×Nat):=
  match l.getLast? with
  | none=>[(n,0)]
  | some p=>if 16<n - p.1 then l++[(n,0)] else l.dropLast++[(p.1,p.2 ||| 2 ^ (n - p.1 - 1).toNat)]
def pairs (S:List Int):List (Int×Nat):=S.foldl step []
theorem step_nil (n:Int):step [] n=[(n,0)]:=rfl
theorem step_far {K:List (Int×Nat)} {p:Int×Nat} {n:Int} (h:16<n - p.1):step (K++[p]) n=K++[p]++[(n,0)]:=by
  simp [step,h]
theorem step_near {K:List (Int×Nat)} {p:Int×Nat} {n:Int} (h:n - p.1≤16):step (K++[p]) n=K++[(p.1,p.2 ||| 2 ^ (n - p.1 - 1).toNat)]:=by
  have:¬ 16<n - p.1:=by omega
  simp [step,this]
theorem pairs_snoc (S:List Int) (n:Int):pairs (S++[n])=step (pairs S) n:=by simp [pairs]
theorem told_app (l k:List (Int×Nat)):told (l++k)=told l++told k:=by simp [told]
theorem told_one (p:Int×Nat):told [p]=tells p:=by simp [told]
theorem tells_zero (n:Int):tells (n,0)=[n]:=by simp [tells]
theorem filter_bit (m k:Nat) (hm:m<2 ^ k) (hk:k<16):(List.range 16).filter (fun i=>(m ||| 2 ^ k).testBit i)=((List.range 16).filter fun i=>m.testBit i)++[k]:=by
  have e:(16:Nat)=k+(1+(15 - k)):=by omega
  rw [e,List.range_add,List.range_add,List.map_append,List.filter_append,List.filter_append,List.filter_append,List.filter_append]
  have hb:∀ i,k≤i→m.testBit i=false:=fun i hi=>Nat.testBit_lt_two_pow (Nat.lt_of_lt_of_le hm (Nat.pow_le_pow_right (by decide) hi))
  have a1:(List.range k).filter (fun i=>(m ||| 2 ^ k).testBit i)=(List.range k).filter fun i=>m.testBit i:=by
    apply List.filter_congr
    intro i hi
    have:=List.mem_range.1 hi
    rw [Nat.testBit_or,Nat.testBit_two_pow_of_ne (by omega),Bool.or_false]
  have a2:((List.range 1).map fun x=>k+x)=[k]:=by simp
  have a3:(([k]:List Nat).filter fun i=>(m ||| 2 ^ k).testBit i)=[k]:=by simp [Nat.testBit_or]
  have a4:(([k]:List Nat).filter fun i=>m.testBit i)=[]:=by simp [hb k (Nat.le_refl _)]
  have a5:((((List.range (15 - k)).map fun x=>1+x).map fun x=>k+x).filter fun i=>(m ||| 2 ^ k).testBit i)=[]:=by
    apply List.filter_eq_nil_iff.2
    intro i hi
    simp only [List.mem_map] at hi
    obtain ⟨_,⟨y,_,rfl⟩,rfl⟩:=hi
    rw [Nat.testBit_or,Nat.testBit_two_pow_of_ne (by omega),hb _ (by omega)]
    simp
  have a6:((((List.range (15 - k)).map fun x=>1+x).map fun x=>k+x).filter fun i=>m.testBit i)=[]:=by
    apply List.filter_eq_nil_iff.2
    intro i hi
    simp only [List.mem_map] at hi
    obtain ⟨_,⟨y,_,rfl⟩,rfl⟩:=hi
    rw [hb _ (by omega)]
    simp
  rw [a1,a2,a3,a4,a5,a6]
  simp
theorem mem_tells {p:Int×Nat} (hp:p.2<65536) {x:Int}:x∈tells p↔x=p.1∨∃ i:Nat,p.2.testBit i=true∧x=p.1+(i:Int)+1:=by
  simp only [tells,List.mem_cons,List.mem_map,List.mem_filter,List.mem_range]
  constructor
  · rintro (h | ⟨i,⟨_,h⟩,rfl⟩)
    · exact .inl h
    · exact .inr ⟨i,h,rfl⟩
  · rintro (h | ⟨i,h,rfl⟩)
    · exact .inl h
    · refine .inr ⟨i,⟨?_,h⟩,rfl⟩
      rcases Nat.lt_or_ge i 16 with h' | h'
      · exact h'
      · rw [Nat.testBit_lt_two_pow (Nat.lt_of_lt_of_le hp (Nat.pow_le_pow_right (n:=2) (by decide) h'))] at h;simp at h
theorem mask_lt {p:Int×Nat} (hp:p.2<65536) {n:Int} (h:∀ x∈tells p,x<n):p.2<2 ^ (n - p.1 - 1).toNat:=by
  apply Nat.lt_pow_two_of_testBit
  intro i hi
  by_cases hb:p.2.testBit i=true
  · have h0:=h p.1 (by simp [tells])
    have:=h _ ((mem_tells hp).2 (.inr ⟨i,hb,rfl⟩))
    omega
  · simpa using hb
theorem tells_more {p:Int×Nat} (hp:p.2<65536) {n:Int} (h:∀ x∈tells p,x<n) (hn:n - p.1≤16) :
    tells (p.1,p.2 ||| 2 ^ (n - p.1 - 1).toNat)=tells p++[n]∧p.2 ||| 2 ^ (n - p.1 - 1).toNat<65536:=by
  have h0:=h p.1 (by simp [tells])
  have hm:=mask_lt hp h
  have hk:(n - p.1 - 1).toNat<16:=by omega
  constructor
  · simp only [tells]
    rw [filter_bit _ _ hm hk,List.map_append]
    simp only [List.map_cons,List.map_nil,List.cons_append]
    congr 2
    simp
    omega
  · exact Nat.or_lt_two_pow (n:=16) hp (Nat.pow_lt_pow_right (by decide) hk)

structure Fit (l:List (Int×Nat)) (S:List Int):Prop where
  told:told l=S
  mask:∀ p∈l,p.2<65536
  base:∀ p∈l,p.1∈S
  apart:∀ i p q,l[i]?=some p→l[i+1]?=some q→p.1+16<q.1
theorem Fit.step {l:List (Int×Nat)} {S:List Int} (h:Fit l S) {n:Int} (hn:∀ x∈S,x<n):Fit (step l n) (S++[n]):=by
  rcases List.eq_nil_or_concat l with rfl | ⟨K,p,rfl⟩
  · have hS:S=[]:=by rw [← h.told];rfl
    subst hS
    rw [step_nil]
    refine ⟨by rw [told_one,tells_zero];rfl,by simp,by simp,fun i p q _ h2=>?_⟩
    simp at h2
  · rw [List.concat_eq_append] at *
    have hpt:∀ x∈tells p,x<n:=fun x hx=>hn x (by rw [← h.told,told_app,told_one];exact List.mem_append_right _ hx)
    by_cases hf:16<n - p.1
    · rw [step_far hf]
      refine ⟨by rw [told_app,told_one,tells_zero,h.told],?_,?_,?_⟩
      · intro q hq
        rcases List.mem_append.1 hq with hq | hq
        · exact h.mask q hq
        · obtain rfl:=List.mem_singleton.1 hq;exact (by decide:(0:Nat)<65536)
      · intro q hq
        rcases List.mem_append.1 hq with hq | hq
        · exact List.mem_append_left _ (h.base q hq)
        · obtain rfl:=List.mem_singleton.1 hq;simp
      · intro i a b ha hb
        rcases Nat.lt_trichotomy (i+1) (K++[p]).length with hi | hi | hi
        · rw [List.getElem?_append_left (by omega)] at ha hb
          exact h.apart i a b ha hb
        · rw [List.getElem?_append_right (by omega),hi,Nat.sub_self] at hb
          rw [List.getElem?_append_left (by omega),List.getElem?_append_right (by simp at hi ⊢;omega)] at ha
          have e0:i - K.length=0:=by simp at hi;omega
          rw [e0] at ha
          simp at ha hb
          subst ha hb
          show p.1+16<n
          omega
        · rw [List.getElem?_eq_none (by rw [List.length_append];simp at hi ⊢;omega)] at hb
          simp at hb
    · rw [step_near (by omega)]
      obtain ⟨ht,hm⟩:=tells_more (h.mask p (by simp)) hpt (by omega)
      refine ⟨by rw [told_app,told_one,ht,← List.append_assoc];rw [show BM.told K++tells p=S by rw [← h.told,told_app,told_one]],?_,?_,?_⟩
      · intro q hq
        rcases List.mem_append.1 hq with hq | hq
        · exact h.mask q (List.mem_append_left _ hq)
        · obtain rfl:=List.mem_singleton.1 hq;exact hm
      · intro q hq
        refine List.mem_append_left _ ?_
        rcases List.mem_append.1 hq with hq | hq
        · exact h.base q (List.mem_append_left _ hq)
        · obtain rfl:=List.mem_singleton.1 hq;exact h.base p (by simp)
      · intro i a b ha hb
        rcases Nat.lt_trichotomy (i+1) K.length with hi | hi | hi
        · rw [List.getElem?_append_left (by omega)] at ha hb
          exact h.apart i a b (by rw [List.getElem?_append_left (by omega)];exact ha) (by rw [List.getElem?_append_left (by omega)];exact hb)
        · rw [List.getElem?_append_right (by omega),hi,Nat.sub_self] at hb
          rw [List.getElem?_append_left (by omega)] at ha
          simp at hb
          subst hb
          exact h.apart i a p (by rw [List.getElem?_append_left (by omega)];exact ha) (by rw [List.getElem?_append_right (by omega),hi,Nat.sub_self];rfl)
        · rw [List.getElem?_eq_none (by simp;omega)] at hb
          simp at hb
theorem fit_nil:Fit [] []:=⟨rfl,by simp,by simp,fun i p q h=>by simp at h⟩
theorem snoc_ind {P:List Int→Prop} (h0:P []) (h1:∀ l x,P l→P (l++[x])) (l:List Int):P l:=by
  have:∀ r:List Int,P r.reverse:=by
    intro r
    induction r with
    | nil=>exact h0
    | cons x r ih=>rw [List.reverse_cons];exact h1 _ _ ih
  have:=this l.reverse
  rwa [List.reverse_reverse] at this
theorem fit_pairs (S:List Int):Rises S→Fit (pairs S) S:=by
  refine snoc_ind (P:=fun S=>Rises S→Fit (pairs S) S) (fun _=>fit_nil) (fun l x ih h=>?_) S
  obtain ⟨h1,_,h2⟩:=List.pairwise_append.1 h
  rw [pairs_snoc]
  exact (ih h1).step fun y hy=>h2 y hy x (by simp)
theorem tells_len (p:Int×Nat):1≤(tells p).length∧(tells p).length≤17:=by
  simp only [tells,List.length_cons,List.length_map]
  have:=List.length_filter_le (fun i=>p.2.testBit i) (List.range 16)
  rw [List.length_range] at this
  omega
theorem told_len:∀ l:List (Int×Nat),l.length≤(told l).length∧(told l).length≤17*l.length
  | []=>by simp [told]
  | p::l=>by
    have h1:=told_len l
    have h2:=tells_len p
    have e:told (p::l)=tells p++told l:=rfl
    rw [e,List.length_append,List.length_cons]
    omega
def row (a:Int) (n:Nat):List Int:=(List.range n).map fun (i:Nat)=>a+(i:Int)
theorem row_len (a:Int) (n:Nat):(row a n).length=n:=by simp [row]
theorem row_succ (a:Int) (n:Nat):row a (n+1)=row a n++[a+(n:Int)]:=by simp [row,List.range_succ]
theorem mem_row {a:Int} {n:Nat} {x:Int}:x∈row a n↔a≤x∧x<a+(n:Int):=by
  simp only [row,List.mem_map,List.mem_range]
  constructor
  · rintro ⟨i,hi,rfl⟩;omega
  · intro h;exact ⟨(x - a).toNat,by omega,by omega⟩
theorem row_rises (a:Int):∀ n,Rises (row a n)
  | 0=>List.Pairwise.nil
  | n+1=>by
    rw [row_succ]
    refine List.pairwise_append.2 ⟨row_rises a n,List.pairwise_singleton _ _,fun x hx y hy=>?_⟩
    obtain rfl:=List.mem_singleton.1 hy
    exact (mem_row.1 hx).2
theorem pairs_row (a:Int):∀ n:Nat,(pairs (row a n)).length=(n+16) / 17∧(0<n→∃ K m,pairs (row a n)=K++[(a+17*(((n - 1) / 17:Nat):Int),m)])
  | 0=>⟨rfl,fun h=>absurd h (by omega)⟩
  | n+1=>by
    obtain ⟨h1,h2⟩:=pairs_row a n
    rw [row_succ,pairs_snoc]
    rcases Nat.eq_zero_or_pos n with rfl | hn
    · have e:pairs (row a 0)=[]:=rfl
      rw [e,step_nil]
      exact ⟨rfl,fun _=>⟨[],0,by simp⟩⟩
    · obtain ⟨K,m,e⟩:=h2 hn
      rw [e] at h1 ⊢
      by_cases hf:(16:Int)<a+(n:Int) - (a+17*(((n - 1) / 17:Nat):Int))
      · rw [step_far hf]
        have hd:n=17*((n - 1) / 17)+17:=by omega
        refine ⟨by simp at h1 ⊢;omega,fun _=>⟨K++[(a+17*(((n - 1) / 17:Nat):Int),m)],0,?_⟩⟩
        congr 3
        omega
      · rw [step_near (by omega)]
        refine ⟨by simp at h1 ⊢;omega,fun _=>⟨K,m ||| 2 ^ (a+(n:Int) - (a+17*(((n - 1) / 17:Nat):Int)) - 1).toNat,?_⟩⟩
        congr 3
        show a+17*(((n - 1) / 17:Nat):Int)=a+17*(((n+1 - 1) / 17:Nat):Int)
        omega
end Go.Proofs.YtlppdppddiecnaaGreatDoor.BM
namespace Go.Proofs.YtlppdppddiecnaaGreatDoor.VO
open Go.Sort
set_option linter.unusedVariables false

abbrev Vs:=List (Int×Int)
def dec (s:Int):Int:=s - (s+7) / 8
def lev:Vs→Int→Int
  | [],_=>0
  | p::l,x=>(if p.1=x then p.2 else 0)+lev l x
theorem lev_app:∀ (l k:Vs) (x:Int),lev (l++k) x=lev l x+lev k x
  | [],k,x=>by simp [lev]
  | p::l,k,x=>by
    show (if p.1=x then p.2 else 0)+lev (l++k) x=((if p.1=x then p.2 else 0)+lev l x)+lev k x
    rw [lev_app l k x,Int.add_assoc]
theorem lev_one (p:Int×Int) (x:Int):lev [p] x=if p.1=x then p.2 else 0:=by simp [lev]
theorem lev_out:∀ (l:Vs) (x:Int),(∀ p∈l,p.1≠x)→lev l x=0
  | [],x,_=>rfl
  | p::l,x,h=>by
    show (if p.1=x then p.2 else 0)+lev l x=0
    rw [if_neg (h p (by simp)),lev_out l x fun q hq=>h q (by simp [hq])]
    rfl
def okv (p:Int×Int):Bool:=decide (0≤p.1∧p.1≤200∧0≤p.2∧p.2≤127)
theorem okv_iff (p:Int×Int):okv p=true↔0≤p.1∧p.1≤200∧0≤p.2∧p.2≤127:=by unfold okv;simp
def Oks (l:Vs):Prop:=(∀ p∈l,okv p)∧l.Pairwise fun p q=>p.1≠q.1
def sf:List Int→Vs→Nat
  | _,[]=>0
  | s,p::l=>if okv p then (if p.1∈s then 7 else sf (s++[p.1]) l) else 1
theorem sf_le:∀ (l:Vs) (s:List Int),sf s l≤7
  | [],s=>by simp [sf]
  | p::l,s=>by
    unfold sf
    split
    · split
      · omega
      · exact sf_le l _
    · omega
theorem sf_app:∀ (l k:Vs) (s:List Int),sf s l=0→sf s (l++k)=sf (s++l.map Prod.fst) k
  | [],k,s,_=>by simp
  | p::l,k,s,h=>by
    unfold sf at h
    split at h
    · split at h
      · omega
      · rename_i h1 h2
        rw [List.cons_append]
        show (if okv p then (if p.1∈s then 7 else sf (s++[p.1]) (l++k)) else 1)=_
        rw [if_pos h1,if_neg h2,sf_app l k _ h]
        simp
    · omega
theorem sf_ok:∀ (l:Vs) (s:List Int),sf s l=0↔(∀ p∈l,okv p∧p.1∉s)∧l.Pairwise fun p q=>p.1≠q.1
  | [],s=>by simp [sf]
  | p::l,s=>by
    unfold sf
    have ih:=sf_ok l (s++[p.1])
    by_cases h1:okv p
    · rw [if_pos h1]
      by_cases h2:p.1∈s
      · rw [if_pos h2]
        constructor
        · intro h;omega
        · intro h;exact absurd h2 (h.1 p (by simp)).2
      · rw [if_neg h2,ih,List.pairwise_cons]
        constructor
        · rintro ⟨a,b⟩
          refine ⟨fun q hq=>?_,fun q hq=>?_,b⟩
          · rcases List.mem_cons.1 hq with rfl | hq
            · exact ⟨h1,h2⟩
            · exact ⟨(a q hq).1,fun c=>(a q hq).2 (by simp [c])⟩
          · have:=(a q hq).2
            simp at this
            exact fun e=>this.2 e.symm
        · rintro ⟨a,b,c⟩
          refine ⟨fun q hq=>⟨(a q (by simp [hq])).1,?_⟩,c⟩
          have h3:=(a q (by simp [hq])).2
          have h4:=b q hq
          simp
          exact ⟨h3,fun e=>h4 e.symm⟩
    · rw [if_neg h1]
      constructor
      · intro h;omega
      · intro h;exact absurd (h.1 p (by simp)).1 h1
def vf (l:Vs):Nat:=sf [] l
theorem vf_ok (l:Vs):vf l=0↔Oks l:=by
  unfold vf
  rw [sf_ok]
  unfold Oks
  simp
theorem oks_take {l:Vs} (h:Oks l) (n:Nat):Oks (l.take n):=⟨fun p hp=>h.1 p (List.mem_of_mem_take hp),h.2.sublist (List.take_sublist _ _)⟩
theorem vf_at {l:Vs} {i:Nat} (hi:i<l.length) (h:Oks (l.take i)):vf l=if okv (l.getD i (0,0)) then (if (l.getD i (0,0)).1∈(l.take i).map Prod.fst then 7 else sf ((l.take i).map Prod.fst++[(l.getD i (0,0)).1]) (l.drop (i+1))) else 1:=by
  have e:l=l.take i++l.getD i (0,0)::l.drop (i+1):=by
    rw [List.getD_eq_getElem?_getD,List.getElem?_eq_getElem hi,Option.getD_some,← List.drop_eq_getElem_cons hi,List.take_append_drop]
  have h1:sf [] (l.take i)=0:=(vf_ok _).2 h
  have h2:=sf_app (l.take i) (l.getD i (0,0)::l.drop (i+1)) [] h1
  rw [← e] at h2
  unfold vf
  rw [h2]
  simp only [List.nil_append]
  rfl
theorem vf_bad {l:Vs} {i:Nat} (hi:i<l.length) (h:Oks (l.take i)) (hb:¬ okv (l.getD i (0,0))):vf l=1:=by rw [vf_at hi h,if_neg hb]
theorem vf_clash {l:Vs} {i:Nat} (hi:i<l.length) (h:Oks (l.take i)) (hb:okv (l.getD i (0,0))) (hc:∃ p∈l.take i,p.1=(l.getD i (0,0)).1):vf l=7:=by
  rw [vf_at hi h,if_pos hb,if_pos]
  obtain ⟨p,hp,e⟩:=hc
  exact List.mem_map.2 ⟨p,hp,e⟩
theorem take_succ' {l:Vs} {i:Nat} (hi:i<l.length):l.take (i+1)=l.take i++[l.getD i (0,0)]:=by
  rw [List.getD_eq_getElem?_getD,List.getElem?_eq_getElem hi,Option.getD_some,List.take_append_getElem hi]
theorem oks_next {l:Vs} {i:Nat} (hi:i<l.length) (h:Oks (l.take i)) (hb:okv (l.getD i (0,0))) (hc:¬ ∃ p∈l.take i,p.1=(l.getD i (0,0)).1):Oks (l.take (i+1)):=by
  rw [take_succ' hi]
  refine ⟨fun p hp=>?_,?_⟩
  · rcases List.mem_append.1 hp with h1 | h1
    · exact h.1 p h1
    · rw [List.mem_singleton.1 h1];exact hb
  · rw [List.pairwise_append]
    refine ⟨h.2,by simp,fun p hp q hq=>?_⟩
    rw [List.mem_singleton.1 hq]
    exact fun e=>hc ⟨p,hp,e⟩
theorem oks_nil:Oks []:=⟨by simp,by simp⟩
theorem lev_at:∀ {l:Vs},(l.Pairwise fun p q=>p.1≠q.1)→∀ p∈l,lev l p.1=p.2
  | [],_,p,h=>by simp at h
  | q::l,h,p,hp=>by
    rw [List.pairwise_cons] at h
    show (if q.1=p.1 then q.2 else 0)+lev l p.1=p.2
    rcases List.mem_cons.1 hp with rfl | hp
    · rw [if_pos rfl,lev_out l p.1 fun r hr e=>h.1 r hr e.symm];omega
    · rw [if_neg (h.1 p hp),lev_at h.2 p hp];omega
theorem lev_pos {l:Vs} {x:Int} (h:lev l x≠0):∃ p∈l,p.1=x:=by
  by_cases q:∃ p∈l,p.1=x
  · exact q
  · exact absurd (lev_out l x fun p hp e=>q ⟨p,hp,e⟩) h
theorem lev_bound {l:Vs} (h:Oks l) (x:Int):0≤lev l x∧lev l x≤127∧(lev l x≠0→0≤x∧x≤200):=by
  by_cases q:∃ p∈l,p.1=x
  · obtain ⟨p,hp,rfl⟩:=q
    have h1:=(okv_iff p).1 (h.1 p hp)
    rw [lev_at h.2 p hp]
    exact ⟨by omega,by omega,fun _=>⟨by omega,by omega⟩⟩
  · rw [lev_out l x fun p hp e=>q ⟨p,hp,e⟩]
    exact ⟨by omega,by omega,fun h=>absurd rfl h⟩

abbrev Sc:=Int→Int
def nx (f:Sc) (l:Vs):Sc:=fun x=>dec (f x)+16*lev l x
structure Ok (f:Sc):Prop where
  lo:∀ x,0≤f x
  hi:∀ x,f x≤16256
  who:∀ x,f x≠0→0≤x∧x≤200
theorem dec_zero:dec 0=0:=by decide
theorem dec_lo {s:Int} (h:0≤s):0≤dec s:=by unfold dec;omega
theorem dec_le {s:Int} (h:0≤s):dec s≤s:=by unfold dec;omega
theorem dec_mono {s t:Int} (h:s≤t):dec s≤dec t:=by unfold dec;omega
theorem dec_hi {s:Int} (h:s≤16256):dec s≤14224:=by unfold dec;omega
theorem ok_nx {f:Sc} {l:Vs} (h:Ok f) (hl:Oks l):Ok (nx f l):=by
  refine ⟨fun x=>?_,fun x=>?_,fun x hx=>?_⟩
  · have:=dec_lo (h.lo x);have:=(lev_bound hl x).1;unfold nx;omega
  · have:=dec_hi (h.hi x);have:=(lev_bound hl x).2.1;unfold nx;omega
  · by_cases q:f x=0
    · by_cases r:lev l x=0
      · exact absurd (by unfold nx;rw [q,r,dec_zero];rfl) hx
      · exact (lev_bound hl x).2.2 r
    · exact h.who x q
theorem ok_zero:Ok (fun _=>0):=⟨fun _=>by decide,fun _=>by decide,fun _ h=>absurd rfl h⟩
def lst (f:Sc):Vs:=((List.range 201).filter fun i:Nat=>decide (f (i:Int)≠0)).map fun i:Nat=>((i:Int),f (i:Int))
theorem mem_lst {f:Sc} (h:Ok f) (p:Int×Int):p∈lst f↔f p.1=p.2∧p.2≠0:=by
  unfold lst
  simp only [List.mem_map,List.mem_filter,List.mem_range,decide_eq_true_eq]
  constructor
  · rintro ⟨i,⟨h1,h2⟩,rfl⟩
    exact ⟨rfl,h2⟩
  · rintro ⟨h1,h2⟩
    have h3:=h.who p.1 (by rw [h1];exact h2)
    refine ⟨p.1.toNat,⟨by omega,?_⟩,?_⟩
    · rw [show ((p.1.toNat:Nat):Int)=p.1 by omega,h1];exact h2
    · rw [show ((p.1.toNat:Nat):Int)=p.1 by omega,h1]
theorem lst_rises (f:Sc):(lst f).Pairwise fun p q=>p.1<q.1:=by
  unfold lst
  rw [List.pairwise_map]
  refine (List.Pairwise.filter _ List.pairwise_lt_range).imp ?_
  intro a b h
  show (a:Int)<(b:Int)
  omega
theorem rises_nodup {l:Vs} (h:l.Pairwise fun p q=>p.1<q.1):l.Nodup:=h.imp fun hp e=>by rw [e] at hp;omega
theorem lst_zero:lst (fun _=>0)=[]:=by
  unfold lst
  simp
theorem lst_nil {f:Sc} (h:Ok f):lst f=[]↔∀ x,f x=0:=by
  constructor
  · intro e x
    by_cases q:f x=0
    · exact q
    · have:=(mem_lst h (x,f x)).2 ⟨rfl,q⟩
      rw [e] at this
      simp at this
  · intro e
    exact List.eq_nil_iff_forall_not_mem.2 fun p hp=>by
      have:=(mem_lst h p).1 hp
      rw [e] at this
      exact this.2 this.1.symm
theorem lst_len (f:Sc):(lst f).length≤201:=by
  unfold lst
  rw [List.length_map]
  exact Nat.le_trans (List.length_filter_le _ _) (by simp)
theorem lst_less {f g:Sc} (h:∀ x,g x≠0→f x≠0):(lst g).length≤(lst f).length:=by
  unfold lst
  rw [List.length_map,List.length_map]
  have e:((List.range 201).filter fun i:Nat=>decide (g (i:Int)≠0))=((List.range 201).filter fun i:Nat=>decide (f (i:Int)≠0)).filter fun i:Nat=>decide (g (i:Int)≠0):=by
    rw [List.filter_filter]
    refine List.filter_congr fun i _=>?_
    by_cases q:g (i:Int)=0
    · simp [q]
    · simp [q,h _ q]
  rw [e]
  exact List.length_filter_le _ _

def cf (x y:Int×Int):Int:=if Lib.compareInt y.2 x.2=0 then Lib.compareInt x.1 y.1 else Lib.compareInt y.2 x.2
def ltc (x y:Int×Int):Bool:=decide (cf x y<0)
def lt (x y:Int×Int):Bool:=ltc x y
theorem lt_iff (x y:Int×Int):lt x y=true↔y.2<x.2∨y.2=x.2∧x.1<y.1:=by
  unfold lt ltc cf Lib.compareInt
  rcases Int.lt_trichotomy y.2 x.2 with h | h | h
  · simp [h]
  · rw [h]
    rcases Int.lt_trichotomy x.1 y.1 with k | k | k
    · simp [k]
    · simp [k]
    · have:¬ x.1<y.1:=by omega
      simp [k,this]
  · have h1:¬ y.2<x.2:=by omega
    have h2:y.2≠x.2:=by omega
    simp [h,h1,h2]
theorem lt_false (x y:Int×Int):lt x y=false↔¬ (y.2<x.2∨y.2=x.2∧x.1<y.1):=by
  rw [← lt_iff];simp
theorem swo:SWO (ltc) where
  irrefl x:=(lt_false x x).2 (by omega)
  trans x y z h1 h2:=by
    have h1:=(lt_iff x y).1 h1
    have h2:=(lt_iff y z).1 h2
    exact (lt_iff x z).2 (by omega)
  ntrans x y z h1 h2:=by
    have h1:=(lt_false _ _).1 h1
    have h2:=(lt_false _ _).1 h2
    exact (lt_false _ _).2 (by omega)
theorem parts (x y:Int×Int) (h1:ltc x y=false) (h2:ltc y x=false):x=y:=by
  have h1:=(lt_false _ _).1 h1
  have h2:=(lt_false _ _).1 h2
  exact Prod.ext (by omega) (by omega)
def rk (f:Sc):Vs:=(lst f).mergeSort fun x y=>!ltc y x
theorem rk_perm (f:Sc):(rk f).Perm (lst f):=List.mergeSort_perm _ _
theorem rk_len (f:Sc):(rk f).length=(lst f).length:=(rk_perm f).length_eq
theorem ms_sorted (l:Vs):(l.mergeSort fun x y=>!ltc y x).Pairwise fun x y=>lt y x=false:=by
  have h:=List.pairwise_mergeSort (le:=fun x y=>!ltc y x) (fun a b c h1 h2=>by
    simp only [Bool.not_eq_true'] at h1 h2 ⊢
    exact swo.ntrans c b a h2 h1) (fun a b=>by
    have:=(lt_iff a b)
    have h2:=(lt_iff b a)
    unfold lt at this h2
    by_cases q:ltc b a=true
    · have:ltc a b=false:=(lt_false a b).2 (by have:=h2.1 q;omega)
      simp [this]
    · simp at q
      simp [q]) l
  exact h.imp fun hh=>by simpa [lt] using hh
theorem sorted_one {l k:Vs} (hp:l.Perm k) (h1:l.Pairwise fun x y=>lt y x=false) (h2:k.Pairwise fun x y=>lt y x=false):l=k:=by
  refine List.Perm.eq_of_pairwise (le:=fun x y=>lt y x=false) (fun a b _ _ ha hb=>parts a b hb ha) h1 h2 hp
theorem rk_one {f:Sc} {l:Vs} (hp:l.Perm (lst f)) (h:l.Pairwise fun x y=>lt y x=false):l=rk f:=
  sorted_one (hp.trans (rk_perm f).symm) h (ms_sorted _)
theorem rk_of {f:Sc} {l:Vs} (hp:l.Perm (lst f)):(l.mergeSort fun x y=>!ltc y x)=rk f:=
  rk_one ((List.mergeSort_perm _ _).trans hp) (ms_sorted _)
theorem rk_mem {f:Sc} (h:Ok f) (p:Int×Int):p∈rk f↔f p.1=p.2∧p.2≠0:=(rk_perm f).mem_iff.trans (mem_lst h p)
theorem rk_nodup (f:Sc):(rk f).Nodup:=(rk_perm f).nodup_iff.2 (rises_nodup (lst_rises f))
theorem rk_strict (f:Sc):(rk f).Pairwise fun x y=>lt x y=true:=by
  have h1:(rk f).Pairwise fun x y=>lt y x=false:=ms_sorted _
  have h2:(rk f).Pairwise fun x y=>x≠y:=rk_nodup f
  refine (h1.and h2).imp ?_
  rintro a b ⟨h1,h2⟩
  cases q:lt a b with
  | true=>rfl
  | false=>exact absurd (parts a b q h1) h2
def Best (f:Sc) (p:Int×Int):Prop:=f p.1=p.2∧p.2≠0∧∀ x,f x<p.2∨f x=p.2∧p.1≤x
theorem best_rk {f:Sc} (h:Ok f) {p:Int×Int} (hb:Best f p):∃ t,rk f=p::t:=by
  have hm:=(rk_mem h p).2 ⟨hb.1,hb.2.1⟩
  cases e:rk f with
  | nil=>rw [e] at hm;simp at hm
  | cons q t=>
    have hs:=rk_strict f
    rw [e] at hm hs
    rcases List.mem_cons.1 hm with h1 | h1
    · exact ⟨t,by rw [h1]⟩
    · have h2:=(lt_iff _ _).1 ((List.pairwise_cons.1 hs).1 p h1)
      have h3:=(rk_mem h q).1 (by rw [e];simp)
      have h4:=hb.2.2 q.1
      rw [h3.1] at h4
      omega
def spk (f:Sc) (sp:Int):Int:=match rk f with
  | []=>-1
  | p::_=>if f sp=0∨p.2 > f sp+200 then p.1 else sp
theorem spk_nil {f:Sc} {sp:Int} (h:rk f=[]):spk f sp=-1:=by unfold spk;rw [h]
theorem spk_cons {f:Sc} {sp:Int} {p:Int×Int} {t:Vs} (h:rk f=p::t):spk f sp=if f sp=0∨p.2 > f sp+200 then p.1 else sp:=by unfold spk;rw [h]
def hf (f:Sc) (l:Vs):Nat:=if 200<l.length then 4 else if vf l≠0 then vf l else if 200<(lst (nx f l)).length then 4 else 0
theorem hf_le (f:Sc) (l:Vs):hf f l≤7:=by
  have:=sf_le l []
  unfold hf vf
  split
  · omega
  · split
    · omega
    · split<;>omega
theorem hf_zero {f:Sc} {l:Vs}:hf f l=0↔l.length≤200∧Oks l∧(lst (nx f l)).length≤200:=by
  rw [← vf_ok]
  unfold hf
  by_cases h1:200<l.length
  · rw [if_pos h1];omega
  · rw [if_neg h1]
    by_cases h2:vf l=0
    · rw [if_neg (by simp [h2])]
      by_cases h3:200<(lst (nx f l)).length
      · rw [if_pos h3];omega
      · rw [if_neg h3];omega
    · rw [if_pos h2];omega
structure Inv (f:Sc) (sp:Int):Prop where
  ok:Ok f
  len:(lst f).length≤200
  sp:(lst f=[]∧sp=-1)∨(0≤sp∧sp≤200∧f sp≠0)
theorem inv_zero:Inv (fun _=>0) (-1):=⟨ok_zero,by rw [lst_zero];simp,.inl ⟨lst_zero,rfl⟩⟩
theorem rk_nil {f:Sc}:rk f=[]↔lst f=[]:=by
  constructor
  · intro h;have:=rk_len f;rw [h] at this;exact List.eq_nil_of_length_eq_zero this.symm
  · intro h;have:=rk_len f;rw [h] at this;exact List.eq_nil_of_length_eq_zero this
theorem spk_inv {f:Sc} (h:Ok f) (hl:(lst f).length≤200) (sp:Int):Inv f (spk f sp):=by
  refine ⟨h,hl,?_⟩
  cases e:rk f with
  | nil=>exact .inl ⟨rk_nil.1 e,spk_nil e⟩
  | cons p t=>
    right
    rw [spk_cons e]
    have hp:=(rk_mem h p).1 (by rw [e];simp)
    split
    · have:=h.who p.1 (by rw [hp.1];exact hp.2)
      exact ⟨this.1,this.2,by rw [hp.1];exact hp.2⟩
    · rename_i q
      have q1:f sp≠0:=fun c=>q (.inl c)
      exact ⟨(h.who sp q1).1,(h.who sp q1).2,q1⟩
theorem inv_nx {f:Sc} {sp:Int} {l:Vs} (h:Inv f sp) (hl:hf f l=0):Inv (nx f l) (spk (nx f l) sp):=by
  obtain ⟨h1,h2,h3⟩:=hf_zero.1 hl
  exact spk_inv (ok_nx h.ok h2) h3 sp
def stF (f:Sc) (l:Vs):Sc:=if hf f l=0 then nx f l else f
def stS (f:Sc) (sp:Int) (l:Vs):Int:=if hf f l=0 then spk (nx f l) sp else sp
theorem inv_st {f:Sc} {sp:Int} (h:Inv f sp) (l:Vs):Inv (stF f l) (stS f sp l):=by
  unfold stF stS
  by_cases q:hf f l=0
  · rw [if_pos q,if_pos q];exact inv_nx h q
  · rw [if_neg q,if_neg q];exact h
end Go.Proofs.YtlppdppddiecnaaGreatDoor.VO
set_option linter.unusedVariables false
namespace Go.Proofs.YtlppdppddiecnaaGreatDoor.LM

def lf (m:Int):Nat:=if 0≤m∧m≤3 then 0 else 1
theorem lf_zero {m:Int} (h:lf m=0):0≤m∧m≤3:=by
  unfold lf at h
  split at h
  · assumption
  · omega
theorem lf_ok {m:Int} (h0:0≤m) (h1:m≤3):lf m=0:=by unfold lf;rw [if_pos ⟨h0,h1⟩]
theorem lf_bad {m:Int} (h:m<0∨3<m):lf m=1:=by unfold lf;rw [if_neg (by omega)]
def wants (m nw:Int) (br:Bool):Bool:=decide (nw=-1)||br||decide (m<nw)
def goes (m nw l:Int) (br st:Bool):Bool:=decide (l≤m)&&(if st then decide (nw≤l)||br||decide (m<nw) else decide (l=nw)&&!br)
def tkf (la n:Int) (g:Bool) (p:Nat):Nat:=if n<0∨1099511627776<n then 1 else if n≤la then 6 else if g then 0 else p
def tkx (m nw la n:Int) (br g:Bool) (p:Nat) (l:Int) (st:Bool):Bool:=decide (tkf la n g p=0)&&!g&&goes m nw l br st
def tkL (la n:Int) (g:Bool) (p:Nat):Int:=if tkf la n g p=0 then n else la
def tkN (m nw la n:Int) (br g:Bool) (p:Nat) (l:Int) (st:Bool):Int:=if tkx m nw la n br g p l st&&st then l else nw
def tkB (m nw la n:Int) (br g:Bool) (p:Nat) (l:Int) (st:Bool):Bool:=if decide (tkf la n g p=0)&&g then decide (nw≠-1) else if tkx m nw la n br g p l st&&st then false else br

structure Inv (m nw la:Int) (br:Bool):Prop where
  m0:0≤m
  m1:m≤3
  n0:-1≤nw
  n1:nw≤3
  l0:-1≤la
  l1:la≤1099511627776
  bk:nw=-1→br=false
theorem inv_start {m:Int} (h0:0≤m) (h1:m≤3):Inv m (-1) (-1) false:=⟨h0,h1,by omega,by omega,by omega,by omega,fun _=>rfl⟩
theorem Inv.limit {m nw la m':Int} {br:Bool} (h:Inv m nw la br) (h0:0≤m') (h1:m'≤3):Inv m' nw la br:=⟨h0,h1,h.n0,h.n1,h.l0,h.l1,h.bk⟩
theorem tkf_zero {la n:Int} {g:Bool} {p:Nat} (h:tkf la n g p=0):0≤n∧n≤1099511627776∧la<n∧(g=false→p=0):=by
  unfold tkf at h
  split at h
  · omega
  · split at h
    · omega
    · refine ⟨by omega,by omega,by omega,fun hg=>?_⟩
      rw [hg] at h
      simpa using h
theorem tkf_range {la n:Int} {g:Bool} {p:Nat} (h:n<0∨1099511627776<n):tkf la n g p=1:=by unfold tkf;rw [if_pos h]
theorem tkf_state {la n:Int} {g:Bool} {p:Nat} (h0:0≤n) (h1:n≤1099511627776) (h:n≤la):tkf la n g p=6:=by unfold tkf;rw [if_neg (by omega),if_pos h]
theorem tkf_gone {la n:Int} {p:Nat} (h0:0≤n) (h1:n≤1099511627776) (h:¬ n≤la):tkf la n true p=0:=by unfold tkf;rw [if_neg (by omega),if_neg h];rfl
theorem tkf_pack {la n:Int} {p:Nat} (h0:0≤n) (h1:n≤1099511627776) (h:¬ n≤la):tkf la n false p=p:=by unfold tkf;rw [if_neg (by omega),if_neg h];rfl
theorem tkf_le {la n:Int} {g:Bool} {p:Nat} (h:p≤100):tkf la n g p≤100:=by
  unfold tkf
  split
  · omega
  · split
    · omega
    · split<;>omega
theorem tk_bad {m nw la n:Int} {br g:Bool} {p:Nat} {l:Int} {st:Bool} (h:tkf la n g p≠0):tkx m nw la n br g p l st=false∧tkL la n g p=la∧tkN m nw la n br g p l st=nw∧tkB m nw la n br g p l st=br:=by
  simp [tkx,tkL,tkN,tkB,h]
theorem tk_gone {m nw la n:Int} {br:Bool} {p:Nat} {l:Int} {st:Bool} (h:tkf la n true p=0):tkx m nw la n br true p l st=false∧tkL la n true p=n∧tkN m nw la n br true p l st=nw∧tkB m nw la n br true p l st=decide (nw≠-1):=by
  simp [tkx,tkL,tkN,tkB,h]
theorem tk_pack {m nw la n:Int} {br:Bool} {p:Nat} {l:Int} {st:Bool} (h:tkf la n false p=0):tkx m nw la n br false p l st=goes m nw l br st∧tkL la n false p=n∧tkN m nw la n br false p l st=(if goes m nw l br st&&st then l else nw)∧tkB m nw la n br false p l st=(if goes m nw l br st&&st then false else br):=by
  simp [tkx,tkL,tkN,tkB,h]
theorem inv_take {m nw la n:Int} {br g:Bool} {p:Nat} {l:Int} {st:Bool} (h:Inv m nw la br) (hl:p=0→0≤l∧l≤3):Inv m (tkN m nw la n br g p l st) (tkL la n g p) (tkB m nw la n br g p l st):=by
  by_cases hf:tkf la n g p=0
  · obtain ⟨k0,k1,k2,k3⟩:=tkf_zero hf
    cases g with
    | true=>
      obtain ⟨_,e1,e2,e3⟩:=tk_gone (m:=m) (nw:=nw) (br:=br) (l:=l) (st:=st) hf
      rw [e1,e2,e3]
      exact ⟨h.m0,h.m1,h.n0,h.n1,by omega,by omega,fun e=>by simp [e]⟩
    | false=>
      obtain ⟨_,e1,e2,e3⟩:=tk_pack (m:=m) (nw:=nw) (br:=br) (l:=l) (st:=st) hf
      rw [e1,e2,e3]
      obtain ⟨q0,q1⟩:=hl (k3 rfl)
      cases hx:goes m nw l br st&&st with
      | true=>exact ⟨h.m0,h.m1,by simp;omega,by simpa using q1,by omega,by omega,fun e=>rfl⟩
      | false=>exact ⟨h.m0,h.m1,by simpa using h.n0,by simpa using h.n1,by omega,by omega,fun e=>by simpa using h.bk (by simpa using e)⟩
  · obtain ⟨_,e1,e2,e3⟩:=tk_bad (m:=m) (nw:=nw) (br:=br) (l:=l) (st:=st) hf
    rw [e1,e2,e3]
    exact h
theorem goes_then {m nw l:Int} {br st:Bool} (h:goes m nw l br st=true) (hl:0≤l):l≤m∧wants m (if goes m nw l br st&&st then l else nw) (if goes m nw l br st&&st then false else br)=false∧(if goes m nw l br st&&st then l else nw)=l∧(st=false→l=nw∧br=false):=by
  unfold goes at h ⊢
  cases st with
  | true=>
    simp only [Bool.and_eq_true,decide_eq_true_eq] at h
    obtain ⟨h1,h2⟩:=h
    refine ⟨h1,?_,?_,fun e=>by cases e⟩
    · simp only [h1,decide_true,Bool.true_and,if_true] at h2 ⊢
      rw [h2]
      simp [wants]
      omega
    · simp only [h1,decide_true,Bool.true_and,if_true] at h2 ⊢
      rw [h2]
      rfl
  | false=>
    simp only [Bool.and_eq_true,decide_eq_true_eq,Bool.false_eq_true,if_false,Bool.not_eq_true'] at h
    obtain ⟨h1,h2,h3⟩:=h
    subst h2
    refine ⟨h1,?_,?_,fun _=>⟨rfl,h3⟩⟩
    · simp [wants,h3]
      omega
    · simp
end Go.Proofs.YtlppdppddiecnaaGreatDoor.LM
