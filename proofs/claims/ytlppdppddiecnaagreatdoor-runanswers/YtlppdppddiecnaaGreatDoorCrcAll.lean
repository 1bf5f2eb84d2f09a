/-
  CrcMath, CrcA, CrcC in one text.
-/
import Derived.Laws.BitsAllLaws
import Derived.Test.YtlppdppddiecnaaGreatDoorRows
import Derived.Test.YtlppdppddiecnaaGreatDoorMemP
import Derived.WalkKit
import Derived.ProofKit
import Derived.OpenShut
import Derived.WalkSpells
import Derived.LoopTactic
import Derived.OwnWalk
import Derived.Deep.QuietTactic
import Derived.BigQuiet
import Derived.Laws.AppendOwnNone
import Derived.WalkSmall

namespace Go.Proofs.YtlppdppddiecnaaGreatDoor.CM

theorem xlc (a b c:Nat):a ^^^ (b ^^^ c)=b ^^^ (a ^^^ c):=by rw [← Nat.xor_assoc,← Nat.xor_assoc,Nat.xor_comm a b]

theorem eq_of_xor {a b:Nat} (h:a ^^^ b=0):a=b:=by
  have e:(a ^^^ b) ^^^ b=a:=by rw [Nat.xor_assoc,Nat.xor_self,Nat.xor_zero]
  rw [h,Nat.zero_xor] at e
  exact e.symm

def T:Nat:=3988292384
def M:Nat:=4294967295

def st (w:Nat):Nat:=if w%2=1 then (w / 2) ^^^ T else w / 2
def sts:Nat→Nat→Nat
  | 0,w=>w
  | n+1,w=>sts n (st w)
def by1 (w c:Nat):Nat:=sts 8 (w ^^^ c)
def bys (w:Nat):List Nat→Nat
  | []=>w
  | c::l=>bys (by1 w c) l
def go (s:Nat) (l:List Nat):Nat:=bys (s ^^^ M) l ^^^ M

theorem xor_lt {a b:Nat} (h1:a<4294967296) (h2:b<4294967296):a ^^^ b<4294967296:=
  Nat.xor_lt_two_pow (n:=32) h1 h2
theorem T_lt:T<4294967296:=by decide
theorem M_lt:M<4294967296:=by decide

theorem st_lt {w:Nat} (h:w<4294967296):st w<4294967296:=by
  unfold st;split
  · exact xor_lt (by omega) T_lt
  · omega
theorem sts_lt {n w:Nat} (h:w<4294967296):sts n w<4294967296:=by
  induction n generalizing w with
  | zero=>exact h
  | succ n ih=>exact ih (st_lt h)

theorem xor_mod2 (a b:Nat):(a ^^^ b)%2=(a%2+b%2)%2:=by
  have:=@Nat.xor_mod_two_pow a b 1
  simp only [Nat.pow_one] at this
  rw [this]
  rcases Nat.mod_two_eq_zero_or_one a with h | h<;>rcases Nat.mod_two_eq_zero_or_one b with h' | h'<;>rw [h,h']<;>rfl

theorem xor_div2 (a b:Nat):(a ^^^ b) / 2=a / 2 ^^^ b / 2:=by
  have:=@Nat.xor_div_two a b
  exact this

theorem st_xor (a b:Nat):st (a ^^^ b)=st a ^^^ st b:=by
  unfold st
  rw [xor_mod2,xor_div2]
  rcases Nat.mod_two_eq_zero_or_one a with h | h<;>rcases Nat.mod_two_eq_zero_or_one b with h' | h'<;>rw [h,h']
  · simp
  · simp [Nat.xor_assoc]
  · simp only [Nat.reduceAdd,Nat.reduceMod]
    simp [Nat.xor_comm,xlc]
  · simp only [Nat.reduceAdd,Nat.reduceMod]
    have e:(a / 2 ^^^ T) ^^^ (b / 2 ^^^ T)=(a / 2 ^^^ b / 2) ^^^ (T ^^^ T):=by
      simp only [Nat.xor_assoc,xlc]
    simp only [if_true,show (0:Nat)=1↔False by decide,if_false]
    rw [e,Nat.xor_self,Nat.xor_zero]
theorem sts_xor (n a b:Nat):sts n (a ^^^ b)=sts n a ^^^ sts n b:=by
  induction n generalizing a b with
  | zero=>rfl
  | succ n ih=>show sts n (st (a ^^^ b))=_;rw [st_xor,ih];rfl
theorem sts_zero (n:Nat):sts n 0=0:=by
  induction n with
  | zero=>rfl
  | succ n ih=>exact ih
theorem sts_add (m n w:Nat):sts (m+n) w=sts n (sts m w):=by
  induction m generalizing w with
  | zero=>simp [sts]
  | succ m ih=>rw [show m+1+n=(m+n)+1 by omega];exact ih (st w)
theorem sts_st (n w:Nat):sts n (st w)=st (sts n w):=by
  have:=sts_add n 1 w
  exact this

theorem st_ne {w:Nat} (h:w<4294967296) (h0:st w=0):w=0:=by
  unfold st at h0
  split at h0
  · have e:w / 2=T:=eq_of_xor h0
    unfold T at e;omega
  · omega
theorem sts_ne {n w:Nat} (h:w<4294967296) (h0:sts n w=0):w=0:=by
  induction n generalizing w with
  | zero=>exact h0
  | succ n ih=>exact st_ne h (ih (st_lt h) h0)

theorem by1_lt {w c:Nat} (h:w<4294967296) (hc:c<256):by1 w c<4294967296:=sts_lt (xor_lt h (by omega))
theorem by1_xor (a b c d:Nat):by1 (a ^^^ b) (c ^^^ d)=by1 a c ^^^ by1 b d:=by
  unfold by1
  rw [← sts_xor]
  congr 1
  simp only [Nat.xor_assoc,xlc]
theorem bys_lt {w:Nat} {l:List Nat} (h:w<4294967296) (hl:∀ c∈l,c<256):bys w l<4294967296:=by
  induction l generalizing w with
  | nil=>exact h
  | cons c l ih=>exact ih (by1_lt h (hl c (by simp))) (fun d hd=>hl d (by simp [hd]))
theorem bys_app (w:Nat) (l m:List Nat):bys w (l++m)=bys (bys w l) m:=by
  induction l generalizing w with
  | nil=>rfl
  | cons c l ih=>exact ih (by1 w c)
theorem go_lt {s:Nat} {l:List Nat} (h:s<4294967296) (hl:∀ c∈l,c<256):go s l<4294967296:=xor_lt (bys_lt (xor_lt h M_lt) hl) M_lt

theorem xor_turn (a b:Nat):(a ^^^ b) ^^^ b=a:=by rw [Nat.xor_assoc,Nat.xor_self,Nat.xor_zero]

theorem go_app (s:Nat) (l m:List Nat):go s (l++m)=go (go s l) m:=by
  unfold go
  rw [bys_app,xor_turn]

theorem bys_on (s t:Nat) (l:List Nat):bys (s ^^^ t) l=sts (8*l.length) s ^^^ bys t l:=by
  induction l generalizing s t with
  | nil=>rfl
  | cons c l ih=>
    have e:=by1_xor s t 0 c
    rw [Nat.zero_xor] at e
    show bys (by1 (s ^^^ t) c) l=_ ^^^ bys (by1 t c) l
    rw [e,ih]
    congr 1
    rw [show 8*(c::l).length=8+8*l.length by simp [Nat.mul_add,Nat.add_comm],sts_add]
    unfold by1
    rw [Nat.xor_zero]

theorem go_join (l m:List Nat):go 0 (l++m)=sts (8*m.length) (go 0 l) ^^^ go 0 m:=by
  rw [go_app]
  show bys (go 0 l ^^^ M) m ^^^ M=_
  rw [bys_on,Nat.xor_assoc]
  unfold go
  rw [Nat.zero_xor]

def zx:List Nat→List Nat→List Nat
  | a::l,b::m=>(a ^^^ b)::zx l m
  | _,_=>[]
theorem bys_zx (s t:Nat) (l m:List Nat) (h:l.length=m.length):bys (s ^^^ t) (zx l m)=bys s l ^^^ bys t m:=by
  induction l generalizing s t m with
  | nil=>cases m with
    | nil=>rfl
    | cons b m=>simp at h
  | cons a l ih=>cases m with
    | nil=>simp at h
    | cons b m=>
      show bys (by1 (s ^^^ t) (a ^^^ b)) (zx l m)=_
      rw [by1_xor]
      exact ih _ _ m (by simpa using h)
theorem zx_len (l m:List Nat) (h:l.length=m.length):(zx l m).length=l.length:=by
  induction l generalizing m with
  | nil=>cases m<;>rfl
  | cons a l ih=>cases m with
    | nil=>simp at h
    | cons b m=>simp [zx,ih m (by simpa using h)]
theorem zx_zero (l:List Nat):zx l (List.replicate l.length 0)=l:=by
  induction l with
  | nil=>rfl
  | cons a l ih=>simp only [List.length_cons,List.replicate_succ,zx,Nat.xor_zero,ih]
theorem go_linear (l m:List Nat) (h:l.length=m.length) :
    go 0 (zx l m) ^^^ go 0 (List.replicate l.length 0)=go 0 l ^^^ go 0 m:=by
  have e1:=bys_zx M M (zx l m) (List.replicate (zx l m).length 0) (by simp)
  rw [zx_zero,zx_len l m h] at e1
  have e2:=bys_zx M M l m h
  unfold go
  rw [Nat.zero_xor]
  have e3:∀ a b:Nat,(a ^^^ M) ^^^ (b ^^^ M)=a ^^^ b:=by
    intro a b
    have:(a ^^^ M) ^^^ (b ^^^ M)=(a ^^^ b) ^^^ (M ^^^ M):=by simp only [Nat.xor_assoc,xlc]
    rw [this,Nat.xor_self,Nat.xor_zero]
  rw [e3,e3,← e1,e2]

def tm:Nat→Nat→Nat→Nat→Nat
  | 0,_,p,_=>p
  | k+1,a,p,b=>tm k (a*2%4294967296) (if 2147483648≤a then p ^^^ b else p) (st b)
def times (a b:Nat):Nat:=tm 32 a 0 b

theorem tm_step (k a p b:Nat):tm k a (st p) (st b)=st (tm k a p b):=by
  induction k generalizing a p b with
  | zero=>rfl
  | succ k ih=>
    show tm k _ (if _ then st p ^^^ st b else st p) (st (st b))=st (tm k _ _ _)
    rw [← ih]
    congr 1
    split
    · rw [st_xor]
    · rfl
theorem times_step (a b:Nat):times a (st b)=st (times a b):=tm_step 32 a 0 b
theorem times_steps (a b n:Nat):times a (sts n b)=sts n (times a b):=by
  induction n generalizing b with
  | zero=>rfl
  | succ n ih=>show times a (sts n (st b))=sts n (st (times a b));rw [ih,times_step]
theorem tm_zero (k p b:Nat):tm k 0 p b=p:=by
  induction k generalizing b with
  | zero=>rfl
  | succ k ih=>exact ih (st b)
theorem tm_one (k a p:Nat) (hk:k≤32) (ha:a<4294967296) (hd:a%2 ^ (32 - k)=0) :
    tm k a p (2 ^ (k - 1))=p ^^^ (a / 2 ^ (32 - k)):=by
  induction k generalizing a p with
  | zero => simp only [tm]; have : a = 0 := by simp at hd; omega
            subst this;simp
  | succ k ih=>
    have hp:2 ^ (32 - k)=2*2 ^ (32 - (k+1)):=by rw [← Nat.pow_succ'];congr 1;omega
    have hm:2 ^ k*2 ^ (32 - (k+1))=2147483648:=by rw [← Nat.pow_add,show k+(32 - (k+1))=31 by omega]
    have hs:st (2 ^ k)=if k=0 then T else 2 ^ (k - 1):=by
      cases k with
      | zero=>rfl
      | succ k=>simp [st,Nat.pow_succ]
    show tm k (a*2%4294967296) (if 2147483648≤a then p ^^^ 2 ^ k else p) (st (2 ^ k))=_
    generalize hq:2 ^ (32 - (k+1))=q at *
    have hq0:0<q:=by rw [← hq];exact Nat.two_pow_pos _
    obtain ⟨c,rfl⟩:∃ c,a=q*c:=⟨a / q,by have:=Nat.div_add_mod a q;omega⟩
    have hdc:q*c / q=c:=Nat.mul_div_cancel_left c hq0
    rw [hdc]
    have hdvd:(q*c*2%4294967296)%2 ^ (32 - k)=0:=by
      rw [hp,Nat.mod_mod_of_dvd _ ⟨2 ^ k,by rw [Nat.mul_comm 2 q,Nat.mul_assoc,Nat.mul_comm q,Nat.mul_assoc,hm]⟩]
      rw [show q*c*2=2*q*c by simp [Nat.mul_comm,Nat.mul_left_comm,Nat.mul_assoc]]
      exact Nat.mul_mod_right _ _
    have key:tm k (q*c*2%4294967296) (if 2147483648≤q*c then p ^^^ 2 ^ k else p) (st (2 ^ k)) =
        (if 2147483648≤q*c then p ^^^ 2 ^ k else p) ^^^ (q*c*2%4294967296 / 2 ^ (32 - k)):=by
      by_cases h0:k=0
      · subst h0
        have:q=2147483648:=by simpa using hm
        subst this
        have hz:2147483648*c*2%4294967296=0:=by omega
        rw [hz];simp [tm]
      · rw [hs,if_neg h0]
        exact ih _ _ (by omega) (Nat.mod_lt _ (by decide)) hdvd
    rw [key]
    by_cases hc:2147483648≤q*c
    · rw [if_pos hc]
      have h1:2 ^ k≤c:=by
        rw [← hm,Nat.mul_comm] at hc
        exact Nat.le_of_mul_le_mul_left hc hq0
      have h2:c<2 ^ k*2:=by
        have:q*c<q*(2 ^ k*2):=by
          rw [show q*(2 ^ k*2)=2 ^ k*q*2 by simp [Nat.mul_comm,Nat.mul_left_comm],hm];omega
        exact Nat.lt_of_mul_lt_mul_left this
      have h3:q*c*2%4294967296=2*q*(c - 2 ^ k):=by
        have:q*c*2=2*q*(c - 2 ^ k)+4294967296:=by
          have:2*q*(2 ^ k)=4294967296:=by rw [Nat.mul_assoc,Nat.mul_comm q,hm]
          rw [← this,← Nat.mul_add,Nat.sub_add_cancel h1]
          simp [Nat.mul_comm,Nat.mul_left_comm,Nat.mul_assoc]
        omega
      rw [h3,hp,Nat.mul_div_cancel_left _ (by omega)]
      rw [Nat.xor_assoc]
      congr 1
      have h4:c - 2 ^ k<2 ^ k:=by omega
      have:=Nat.two_pow_add_eq_or_of_lt h4 1
      have hx:2 ^ k ^^^ (c - 2 ^ k)=2 ^ k+(c - 2 ^ k):=by
        apply Nat.eq_of_testBit_eq
        intro i
        rw [Nat.testBit_xor,Nat.mul_one] at *
        rw [this,Nat.testBit_or,Nat.testBit_two_pow]
        by_cases hi:k=i
        · subst hi
          rw [Nat.testBit_lt_two_pow h4];simp
        · simp [hi]
      omega
    · rw [if_neg hc]
      congr 1
      rw [Nat.mod_eq_of_lt (by omega),hp,show q*c*2=2*q*c by simp [Nat.mul_comm,Nat.mul_left_comm,Nat.mul_assoc]]
      exact Nat.mul_div_cancel_left _ (by omega)
theorem times_one (a:Nat) (h:a<4294967296):times a 2147483648=a:=by
  have:=tm_one 32 a 0 (by decide) h (by simp [Nat.mod_one])
  simp only [Nat.sub_self,Nat.pow_zero,Nat.div_one,Nat.zero_xor] at this
  exact this
theorem times_on (a n:Nat) (h:a<4294967296):times a (sts n 2147483648)=sts n a:=by
  rw [times_steps,times_one a h]
theorem oneByte:sts 8 2147483648=8388608:=by decide
theorem times_lt {a b:Nat} (h:b<4294967296):times a b<4294967296:=by
  have:∀ k a p b,p<4294967296→b<4294967296→tm k a p b<4294967296:=by
    intro k
    induction k with
    | zero=>intro a p b h _;exact h
    | succ k ih => intro a p b h1 h2; refine ih _ _ _ ?_ (st_lt h2); split
                   · exact xor_lt h1 h2
                   · exact h1
  exact this 32 a 0 b (by decide) h

theorem table (c:Nat) (h:c<256) (h0:sts 8 c<256):c=0:=by
  have:∀ c:Fin 256,sts 8 c.val<256→c.val=0:=by decide +kernel
  exact this ⟨c,h⟩ h0
theorem table2 (c:Nat) (h:c<256) (h0:sts 8 c%16777216=0):c=0:=by
  have:∀ c:Fin 256,sts 8 c.val%16777216=0→c.val=0:=by decide +kernel
  exact this ⟨c,h⟩ h0

def be4 (s:Nat):List Nat:=[s / 16777216%256,s / 65536%256,s / 256%256,s%256]
def num (n:Nat):List Nat→Nat
  | []=>n
  | c::l=>num (n*256+c) l
theorem num_be4 (s:Nat) (h:s<4294967296):num 0 (be4 s)=s:=by
  simp only [be4,num];omega
theorem be4_lt (s:Nat):∀ c∈be4 s,c<256:=by
  intro c hc
  simp only [be4,List.mem_cons,List.not_mem_nil,or_false] at hc
  omega
theorem or4 (a b c d:Nat) (hb:b<256) (hc:c<256) (hd:d<256) :
    (a*16777216 ||| b*65536 ||| c*256 ||| d)=((a*256+b)*256+c)*256+d:=by
  rw [nat_join 24 (a*16777216) (b*65536) (by omega) (by omega),nat_join 16 _ (c*256) (by omega) (by omega),nat_join 8 _ d (by omega) (by omega)]
  omega

theorem xor_lt8 {a b:Nat} (h1:a<256) (h2:b<256):a ^^^ b<256:=Nat.xor_lt_two_pow (n:=8) h1 h2
theorem xor_ne {a b:Nat} (h:a ^^^ b=a):b=0:=by
  have e:a ^^^ (a ^^^ b)=b:=by rw [← Nat.xor_assoc,Nat.xor_self,Nat.zero_xor]
  rw [← e,h,Nat.xor_self]

theorem go_sees (P Q:List Nat) (x y m n:Nat) (hm:m<256) (hn:n<256)
    (h:go 0 (P++(x ^^^ m)::(y ^^^ n)::Q)=go 0 (P++x::y::Q)):m=0∧n=0:=by
  have h1:bys M (P++(x ^^^ m)::(y ^^^ n)::Q)=bys M (P++x::y::Q):=by
    have:=congrArg (· ^^^ M) h
    simp only [go,xor_turn,Nat.zero_xor] at this
    exact this
  rw [bys_app,bys_app] at h1
  generalize bys M P=u at h1
  have h2:bys (by1 (by1 u (x ^^^ m)) (y ^^^ n)) Q=bys (by1 (by1 u x) y) Q:=h1
  have e1:=by1_xor 0 u m x
  rw [Nat.zero_xor,Nat.xor_comm m x] at e1
  have e2:=by1_xor (by1 0 m) (by1 u x) n y
  rw [← e1,Nat.xor_comm n y] at e2
  rw [e2,bys_on] at h2
  have h3:sts (8*Q.length) (by1 (by1 0 m) n)=0:=by
    have:=xor_ne (a:=bys (by1 (by1 u x) y) Q) (b:=sts (8*Q.length) (by1 (by1 0 m) n)) (by rw [Nat.xor_comm];exact h2)
    exact this
  have hl:by1 0 m<4294967296:=by1_lt (by decide) hm
  have h4:=sts_ne (by1_lt hl hn) h3
  have h5:by1 0 m ^^^ n=0:=sts_ne (n:=8) (xor_lt hl (by omega)) h4
  have h6:by1 0 m=n:=eq_of_xor h5
  have h7:by1 0 m=sts 8 m:=by unfold by1;rw [Nat.zero_xor]
  have h8:m=0:=table m hm (by omega)
  subst h8
  have h9:sts 8 0=0:=sts_zero 8
  exact ⟨rfl,by omega⟩

theorem go_last (P:List Nat) (x m:Nat):go 0 (P++[x ^^^ m])=go 0 (P++[x]) ^^^ sts 8 m:=by
  have e1:=by1_xor (bys M P) 0 x m
  rw [Nat.xor_zero] at e1
  have e2:by1 0 m=sts 8 m:=by unfold by1;rw [Nat.zero_xor]
  unfold go
  rw [Nat.zero_xor,bys_app,bys_app]
  show by1 (bys M P) (x ^^^ m) ^^^ M=(by1 (bys M P) x ^^^ M) ^^^ sts 8 m
  rw [e1,e2,Nat.xor_assoc,Nat.xor_assoc,Nat.xor_comm (sts 8 m)]

theorem sees (P Q B:List Nat) (x y m n:Nat) (hx:x<256) (hy:y<256) (hm:m<256) (hn:n<256) (hB:∀ c∈B,c<256)
    (hs:P++x::y::Q=B++be4 (go 0 B)) (hne:¬ (m=0∧n=0)) :
    num 0 ((P++(x ^^^ m)::(y ^^^ n)::Q).drop B.length)≠go 0 ((P++(x ^^^ m)::(y ^^^ n)::Q).take B.length):=by
  have hgl:go 0 B<4294967296:=go_lt (by decide) hB
  have hxm:=xor_lt8 hx hm
  have hyn:=xor_lt8 hy hn
  have nx:x ^^^ m=x→m=0:=xor_ne
  have ny:y ^^^ n=y→n=0:=xor_ne
  rcases List.append_eq_append_iff.1 hs with ⟨a,ha,hq⟩ | ⟨c,hc,ht⟩
  · match a,ha,hq with
    | [],ha,hq=>
      subst ha
      rw [List.append_nil] at *
      simp only [List.nil_append,be4,List.cons.injEq] at hq
      obtain ⟨q1,q2,q3⟩:=hq
      rw [List.drop_left,List.take_left,q3]
      simp only [num]
      generalize go 0 P=g at *
      generalize x ^^^ m=x' at *
      generalize y ^^^ n=y' at *
      omega
    | [z],ha,hq=>
      simp only [be4,List.cons_append,List.nil_append,List.cons.injEq] at hq
      obtain ⟨rfl,q2,q3⟩:=hq
      subst ha
      have el:(P++[x]).length=(P++[x ^^^ m]).length:=by simp
      have es:P++(x ^^^ m)::(y ^^^ n)::Q=(P++[x ^^^ m])++(y ^^^ n)::Q:=by simp
      rw [el,es,List.drop_left,List.take_left,go_last,q3]
      simp only [num]
      intro h
      have h1:∀ g e:Nat,(g ^^^ e)%16777216=g%16777216→e%16777216=0:=by
        intro g e he
        have:=@Nat.xor_mod_two_pow g e 24
        rw [show (2:Nat) ^ 24=16777216 by decide] at this
        rw [this] at he
        exact xor_ne he
      have h2:=h1 (go 0 (P++[x])) (sts 8 m) (by
        rw [← h]
        generalize go 0 (P++[x])=g at *
        generalize y ^^^ n=y' at *
        omega)
      have h3:=table2 m hm h2
      subst h3
      rw [sts_zero,Nat.xor_zero] at h
      generalize go 0 (P++[x])=g at *
      generalize y ^^^ n=y' at *
      omega
    | z::z'::a,ha,hq=>
      simp only [List.cons_append,List.cons.injEq] at hq
      obtain ⟨rfl,rfl,rfl⟩:=hq
      have el:B.length=(P++(x ^^^ m)::(y ^^^ n)::a).length:=by rw [ha];simp
      have es:P++(x ^^^ m)::(y ^^^ n)::(a++be4 (go 0 B))=(P++(x ^^^ m)::(y ^^^ n)::a)++be4 (go 0 B):=by simp
      rw [el,es,List.drop_left,List.take_left,num_be4 _ hgl]
      intro h
      apply hne
      refine go_sees P a x y m n hm hn ?_
      rw [← h,ha]
  · subst hc
    have es:(B++c)++(x ^^^ m)::(y ^^^ n)::Q=B++(c++(x ^^^ m)::(y ^^^ n)::Q):=by simp
    rw [es,List.drop_left,List.take_left]
    generalize go 0 B=g at *
    generalize x ^^^ m=x' at *
    generalize y ^^^ n=y' at *
    unfold be4 at ht
    match c,ht with
    | [],ht=>
      simp only [List.nil_append,List.cons.injEq] at ht
      obtain ⟨q1,q2,q3⟩:=ht
      simp only [List.nil_append,← q3,num]
      omega
    | [c1],ht=>
      simp only [List.cons_append,List.nil_append,List.cons.injEq] at ht
      obtain ⟨q0,q1,q2,q3⟩:=ht
      simp only [List.cons_append,List.nil_append,← q3,num]
      omega
    | [c1,c2],ht=>
      simp only [List.cons_append,List.nil_append,List.cons.injEq] at ht
      obtain ⟨q0,q1,q2,q3,q4⟩:=ht
      simp only [List.cons_append,List.nil_append,← q4,num]
      omega
    | c1::c2::c3::c,ht=>
      have:=congrArg List.length ht
      simp at this
      omega
end Go.Proofs.YtlppdppddiecnaaGreatDoor.CM
namespace Go.Proofs.YtlppdppddiecnaaGreatDoor.Crc
open Go.ChangeShapes Go.WideShapes Go.ChangeAt Go.RowKit Go.Proofs.YtlppdppddiecnaaGreatDoor.CM Go.Proofs.YtlppdppddiecnaaGreatDoor.Mem

theorem ret_int {k:IntKind} {a b:Int} (h:a=b):Ending.returned (.int k a)=.returned (.int k b):=by rw [h]

theorem u32_and1 (n:Nat) (h:n<4294967296):bits .and .u32 (n:Int) 1=((n%2:Nat):Int):=by
  have:=u32_and_nat n 1 h (by decide)
  rw [nat_mask1] at this
  exact this

theorem info5:(Tryz.prog.info? 5).map (fun i=>(i.zero,i.size,i.bytes))=some (some (.int .u8 0),1,1):=by kernel_rfl
theorem elemBS:Tryz.prog.elem 31=5:=by kernel_rfl
theorem size5 (w:World):(sizeOf 5).run Tryz.prog w=.ok 1 w:=by
  obtain ⟨i,hi,_,hs,_⟩:=info_parts info5
  simp [sizeOf,typeInfo,hi,hs]
theorem undBS:Tryz.prog.underlying 31=some (.slice (Tryz.prog.elem 31)):=by rw [elemBS];exact Tryz.underlying31
theorem cut_high (a:Option Addr) (len cap n:Nat) (h:n≤cap) (w:World) :
    (Instr.slice 31 (.slice a len cap) none (some (.int .i64 (n:Int))) none).run Tryz.prog w=.ok (.slice a n cap) w:=by
  rw [run_slice_h w 31 a len cap undBS .i64 n (by omega) (by omega),elemBS,size5]
  simp [Result.andThen,sliced,Addr.add_zero']
theorem cut_low (b o len cap n:Nat) (h:n≤len) (hn:n<cap) (w:World) :
    (Instr.slice 31 (.slice (some ⟨b,o,none⟩) len cap) (some (.int .i64 (n:Int))) none none).run Tryz.prog w=.ok (.slice (some ⟨b,o+n,none⟩) (len - n) (cap - n)) w:=by
  rw [run_slice_l w 31 _ len cap undBS .i64 n (by omega) (by omega),elemBS,size5]
  have e:(⟨b,o,none⟩:Addr).add n=⟨b,o+n,none⟩:=by unfold Addr.add;split<;>simp_all
  simp [Result.andThen,sliced,e,show ¬ cap=n by omega]

set_option maxHeartbeats 400000 in
theorem step_calls (n:Nat) (w:World) (h:n<4294967296) :
    Calls Tryz.prog 137 #[.int .u32 (n:Int)] w fun e w'=>e=.returned (.int .u32 (st n:Nat))∧w'=w:=by
  have h1:=u32_and1 n h
  by_cases c:n%2=1
  · have d0:(bits .and .u32 (n:Int) 1==1)=true:=by rw [h1,c];rfl
    have e:st n=(n / 2) ^^^ T:=by unfold st;rw [if_pos c]
    have H:Hid (bits .xor .u32 ((n / 2:Nat):Int) 3988292384=((st n:Nat):Int)):=by
      rw [e];exact u32_xor_nat (n / 2) T (by omega) T_lt
    clear h1 c e
    go_enter Tryz.func137,Tryz.ntmps137
    go_wp2_with fail
    go_ret
    exact ⟨ret_int (by simpa using H.out),rfl⟩
  · have d0:(bits .and .u32 (n:Int) 1==1)=false:=by rw [h1];simp;omega
    have e:st n=n / 2:=by unfold st;rw [if_neg c]
    have H:Hid (st n=n / 2):=e
    clear h1 c e
    go_enter Tryz.func137,Tryz.ntmps137
    go_wp2_with fail
    go_ret
    exact ⟨ret_int (by rw [H.out];simp),rfl⟩

theorem u32_turn (n:Nat) (h:n<4294967296):bits .xor .u32 4294967295 (n:Int)=((n ^^^ M:Nat):Int):=by
  rw [Nat.xor_comm];exact u32_xor_nat M n M_lt h
theorem u32_x8 (n c:Nat) (h:n<4294967296) (hc:c<256):bits .xor .u32 (n:Int) (c:Int)=((n ^^^ c:Nat):Int):=u32_xor_nat n c h (by omega)
theorem bys_take (u:Nat) (L:List Nat) (k:Nat) (h:k<L.length):bys u (L.take (k+1))=by1 (bys u (L.take k)) (L.getD k 0):=by
  have e:L.take (k+1)=L.take k++[L.getD k 0]:=by
    rw [List.take_add_one,List.getD_eq_getElem?_getD,List.getElem?_eq_getElem h];rfl
  rw [e,bys_app];rfl
theorem getD_lt (L:List Nat) (hL:∀ c∈L,c<256) (k:Nat) (h:k<L.length):L.getD k 0<256:=by
  rw [List.getD_eq_getElem?_getD,List.getElem?_eq_getElem h]
  exact hL _ (List.getElem_mem h)
theorem take_lt (L:List Nat) (hL:∀ c∈L,c<256) (k:Nat):∀ c∈L.take k,c<256:=fun c hc=>hL c (List.mem_of_mem_take hc)

set_option maxHeartbeats 1000000 in
set_option maxRecDepth 100000 in
theorem goOn_calls (s:Nat) (a:Option Addr) (len cap:Nat) (L:List Nat) (w:World) (hs:s<4294967296) (hlen:L.length=len) (hl:L.length≤9223372036854775807) (hB:Bys w a L) :
    Calls Tryz.prog 110 #[.int .u32 (s:Int),.slice a len cap] w fun e w'=>e=.returned (.int .u32 (go s L:Nat))∧w'=w:=by
  subst hlen
  have HB:Hid (Bys w a L):=hB
  have HU:Hid (bits .xor .u32 4294967295 (s:Int)=((s ^^^ M:Nat):Int)):=u32_turn s hs
  have hu:s ^^^ M<4294967296:=xor_lt hs M_lt
  clear hB
  go_enter Tryz.func110,Tryz.ntmps110
  go_wp2_with fail
  go_loopw [5,12] (fun x i wr=>∃ k:Nat,k≤L.length∧i=.int .i64 k∧x=.int .u32 (bys (s ^^^ M) (L.take k):Nat)∧wr=w) (fun _ i _=>L.length - (intOf i).toNat)
  case atStart=>exact ⟨0,Nat.zero_le _,rfl,congrArg (Value.int .u32) HU.out,rfl⟩
  case round=>
    obtain ⟨k,hk,rfl,rfl,rfl⟩:=hrel
    by_cases h:k<L.length
    · obtain ⟨b,o,rfl,hc⟩:=HB.out.2 k h
      have hcl:=getD_lt L HB.out.1 k h
      have HT:=hidden (bys_take (s ^^^ M) L k h)
      have hlt:bys (s ^^^ M) (L.take k)<4294967296:=bys_lt hu (take_lt L HB.out.1 k)
      generalize L.getD k 0=c at *
      generalize hz:bys (s ^^^ M) (L.take k)=z at *
      have HX:=hidden (u32_x8 z c hlt hcl)
      have hzc:z ^^^ c<4294967296:=xor_lt hlt (by omega)
      have HZ:=hidden hz
      clear hz
      go_wp2_with fail
      go_loopw [5,20] (fun x i wq=>∃ m:Nat,m≤8∧i=.int .i64 m∧x=.int .u32 (sts m (z ^^^ c):Nat)∧wq=wr) (fun _ i _=>8 - (intOf i).toNat)
      case atStart=>exact ⟨0,Nat.zero_le _,rfl,congrArg (Value.int .u32) HX.out,rfl⟩
      case round=>
        obtain ⟨m,hm,rfl,rfl,rfl⟩:=hrel
        by_cases h8:m<8
        · go_wp2_with fail
          refine (step_calls _ _ (sts_lt hzc)).mono ?_
          rintro e w1 ⟨rfl,rfl⟩
          go_wp2_with fail
          go_roundw
          case rel=>exact ⟨m+1,by omega,by go_num,by rw [← sts_st];rfl,trivial⟩
          case measure=>simp [intOf];omega
        · have e8:m=8:=by omega
          subst e8
          go_wp2_with fail
          go_roundw
          case rel=>exact ⟨k+1,by omega,by go_num,by rw [HT.out];rfl,trivial⟩
          case measure=>simp [intOf];omega
    · have ek:k=L.length:=by omega
      subst ek
      rw [List.take_length]
      have hlt:bys (s ^^^ M) L<4294967296:=bys_lt hu HB.out.1
      have HR:=hidden (u32_turn _ hlt)
      clear hlt
      go_wp2_with fail
      go_ret
      exact ⟨ret_int HR.out,rfl⟩

set_option maxHeartbeats 400000 in
theorem sum_calls (a:Option Addr) (len cap:Nat) (L:List Nat) (w:World) (hlen:L.length=len) (hl:L.length≤9223372036854775807) (hB:Bys w a L) :
    Calls Tryz.prog 83 #[.slice a len cap] w fun e w'=>e=.returned (.int .i64 (go 0 L:Nat))∧w'=w:=by
  have hlt:go 0 L<4294967296:=go_lt (by decide) hB.1
  go_enter Tryz.func83,Tryz.ntmps83
  go_wp2_with fail
  refine (goOn_calls 0 a len cap L _ (by decide) hlen hl hB).mono ?_
  rintro e w1 ⟨rfl,rfl⟩
  go_wp2_with fail
  go_ret
  exact ⟨rfl,rfl⟩

theorem sum_arg {a:Option Addr} {len cap:Nat} {L:List Nat} {w:World} (h:Arg w a len L) :
    Calls Tryz.prog 83 #[.slice a len cap] w fun e w'=>e=.returned (.int .i64 (go 0 L:Nat))∧w'=w:=
  sum_calls a len cap L w h.2.1 (by have:=h.2;omega) h.1

end Go.Proofs.YtlppdppddiecnaaGreatDoor.Crc
namespace Go.Proofs.YtlppdppddiecnaaGreatDoor.Crc
open Go.ChangeShapes Go.WideShapes Go.ChangeAt Go.RowKit Go.Proofs.YtlppdppddiecnaaGreatDoor.CM Go.Proofs.YtlppdppddiecnaaGreatDoor.Mem
set_option linter.unusedVariables false

theorem be4_block (s:Nat) (h:s<4294967296):(#[Value.int .u8 ((s:Int) / 16777216),.int .u8 ((s:Int) / 65536%256),.int .u8 ((s:Int) / 256%256),.int .u8 ((s:Int)%256)]:Array Value)=(cellsOf (be4 s)).toArray:=by
  have e:(s:Int) / 16777216=((s / 16777216%256:Nat):Int):=by omega
  rw [e]
  simp [cellsOf,be4]

set_option maxHeartbeats 400000 in
theorem open_short (a:Option Addr) (len cap:Nat) (w:World) (h:len<4) :
    Calls Tryz.prog 84 #[.slice a len cap] w fun e w'=>e=.returned (.tuple #[.slice none 0 0,.iface 107 (.int .i64 8)])∧w'=w:=by
  go_enter Tryz.func84,Tryz.ntmps84
  go_wp2_with fail
  go_ret2
  exact ⟨rfl,rfl⟩

theorem tail_cells {w:World} {b o m:Nat} {B:List Nat} {t0 t1 t2 t3:Nat} (h:Bys w (some ⟨b,o,none⟩) (B++[t0,t1,t2,t3])) (hm:B.length=m) :
    w.cell? ⟨b,o+m,none⟩=some (.int .u8 (t0:Int))∧w.cell? ⟨b,o+m+1,none⟩=some (.int .u8 (t1:Int))∧w.cell? ⟨b,o+m+2,none⟩=some (.int .u8 (t2:Int))∧w.cell? ⟨b,o+m+3,none⟩=some (.int .u8 (t3:Int)):=by
  have hd:=h.drop m
  rw [← hm,List.drop_left] at hd
  rw [hm] at hd
  have f:∀ j (hj:j<4),w.cell? ⟨b,o+m+j,none⟩=some (.int .u8 ([t0,t1,t2,t3].getD j 0:Nat)):=by
    intro j hj
    obtain ⟨b',o',e,hc⟩:=hd.2 j hj
    simp only [Option.some.injEq,Addr.mk.injEq,and_true] at e
    obtain ⟨rfl,rfl⟩:=e
    exact hc
  exact ⟨f 0 (by decide),f 1 (by decide),f 2 (by decide),f 3 (by decide)⟩

theorem told_eq (t0 t1 t2 t3:Nat) (h0:t0<256) (h1:t1<256) (h2:t2<256) (h3:t3<256) :
    bits .or .u32 (bits .or .u32 (bits .or .u32 ((t0:Int)%4294967296*16777216%4294967296) ((t1:Int)%4294967296*65536%4294967296)) ((t2:Int)%4294967296*256%4294967296)) ((t3:Int)%4294967296)=((num 0 [t0,t1,t2,t3]:Nat):Int):=by
  rw [show (t0:Int)%4294967296*16777216%4294967296=((t0*16777216:Nat):Int) by omega,show (t1:Int)%4294967296*65536%4294967296=((t1*65536:Nat):Int) by omega,
    show (t2:Int)%4294967296*256%4294967296=((t2*256:Nat):Int) by omega,show (t3:Int)%4294967296=((t3:Nat):Int) by omega]
  have l1:t0*16777216 ||| t1*65536<4294967296:=Nat.or_lt_two_pow (n:=32) (by omega) (by omega)
  have l2:t0*16777216 ||| t1*65536 ||| t2*256<4294967296:=Nat.or_lt_two_pow (n:=32) l1 (by omega)
  rw [u32_or_nat _ _ (by omega) (by omega),u32_or_nat _ _ l1 (by omega),u32_or_nat _ _ l2 (by omega),or4 t0 t1 t2 t3 h1 h2 h3]
  simp [num]

set_option maxHeartbeats 1000000 in
set_option maxRecDepth 100000 in
theorem open_bad (b o cap m:Nat) (B:List Nat) (t0 t1 t2 t3:Nat) (w:World) (hm:B.length=m) (h:Arg w (some ⟨b,o,none⟩) (m+4) (B++[t0,t1,t2,t3])) (hc:m+4≤cap) (hne:num 0 [t0,t1,t2,t3]≠go 0 B) :
    Calls Tryz.prog 84 #[.slice (some ⟨b,o,none⟩) (m+4) cap] w fun e w'=>e=.returned (.tuple #[.slice none 0 0,.iface 107 (.int .i64 9)])∧∃ k,w'=w.drewN k:=by
  have HA:=hidden h
  have hl:=h.2.2
  obtain ⟨c0,c1,c2,c3⟩:=tail_cells h.1 hm
  have s0:=cut_high (some ⟨b,o,none⟩) (m+4) cap m (by omega)
  have s1:=cut_low b o (m+4) cap m (by omega) (by omega)
  rw [show m+4 - m=4 by omega] at s1
  have HE:=hidden (told_eq t0 t1 t2 t3 (h.1.1 t0 (by simp)) (h.1.1 t1 (by simp)) (h.1.1 t2 (by simp)) (h.1.1 t3 (by simp)))
  have HB:Hid (Bys w (some ⟨b,o,none⟩) B):=by
    have:=h.1.take m
    rw [← hm,List.take_left] at this
    exact this
  have CG:=fun w h=>goOn_calls 0 (some ⟨b,o,none⟩) m cap B w (by decide) hm (by omega) h
  generalize go 0 B=g at *
  have HG:=hidden CG
  generalize num 0 [t0,t1,t2,t3]=q at *
  have d0:((q:Int)==(g:Int))=false:=by simp;omega
  clear h hne CG hm
  go_enter Tryz.func84,Tryz.ntmps84
  go_wp2_with fail
  go_quiet (fail)
  go_wp2_with fail
  go_quiet (fail)
  rw [HE.out]
  go_wp2_with fail
  refine (HG.out _ (by exact HB.out)).mono ?_
  rintro e w1 ⟨rfl,rfl⟩
  go_wp2_with fail
  go_ret2
  exact ⟨rfl,_,rfl⟩

set_option maxHeartbeats 1000000 in
set_option maxRecDepth 100000 in
theorem open_good (b o cap m:Nat) (B:List Nat) (t0 t1 t2 t3:Nat) (w:World) (hm:B.length=m) (h:Arg w (some ⟨b,o,none⟩) (m+4) (B++[t0,t1,t2,t3])) (hc:m+4≤cap) (he:num 0 [t0,t1,t2,t3]=go 0 B) (hr:m≤140737488355328) :
    Calls Tryz.prog 84 #[.slice (some ⟨b,o,none⟩) (m+4) cap] w fun e w'=>∃ v,e=.returned (.tuple #[v,.nilIface])∧w'.ownsRow w.heap.size 5 1 v m (cellsOf B)∧Below w.heap.size w w':=by
  have HA:=hidden h
  have hl:=h.2.2
  obtain ⟨c0,c1,c2,c3⟩:=tail_cells h.1 hm
  have s0:=cut_high (some ⟨b,o,none⟩) (m+4) cap m (by omega)
  have s1:=cut_low b o (m+4) cap m (by omega) (by omega)
  rw [show m+4 - m=4 by omega] at s1
  have HE:=hidden (told_eq t0 t1 t2 t3 (h.1.1 t0 (by simp)) (h.1.1 t1 (by simp)) (h.1.1 t2 (by simp)) (h.1.1 t3 (by simp)))
  have HB:Hid (Bys w (some ⟨b,o,none⟩) B):=by
    have:=h.1.take m
    rw [← hm,List.take_left] at this
    exact this
  have CG:=fun w h=>goOn_calls 0 (some ⟨b,o,none⟩) m cap B w (by decide) hm (by omega) h
  generalize go 0 B=g at *
  have HG:=hidden CG
  generalize num 0 [t0,t1,t2,t3]=q at *
  have d0:((q:Int)==(g:Int))=true:=by simp;omega
  have HM:=hidden hm
  obtain ⟨i0,hii,hz0,hz1,hz2⟩:=info_parts info5
  clear h he CG hm
  go_enter Tryz.func84,Tryz.ntmps84
  go_wp2_with fail
  go_quiet (fail)
  go_wp2_with fail
  go_quiet (fail)
  rw [HE.out]
  go_wp2_with fail
  refine (HG.out _ (by exact HB.out)).mono ?_
  rintro e w1 ⟨rfl,rfl⟩
  go_wp2_with (at_builtin;refine wpList_append_own _ rfl _ _ 31 rfl w.heap.size 5 i0 (.int .u8 0) 1 1 Tryz.underlying31 hii hz0 hz1 hz2 rfl (by decide) _ 0 [] rfl (World.ownsRow_nil _ _ _ _) ⟨b,o,none⟩ m cap (cellsOf B) rfl ?al ?ac (cells_one B) ?b1 ?b2 ?b3 ?next)
  case al=>rw [cellsOf_len,HM.out];omega
  case ac=>exact bys_cells (by exact HB.out) _ rfl
  case b1=>unfold maxLen;omega
  case b2=>omega
  case b3=>exact Nat.le_refl _
  case next=>
    intro v' w2 hown hgrow _
    have HO:=hidden hown
    have HW:Hid (Below w.heap.size w w2):=(below_drewN (Below.refl _ _) _).grown hgrow (Nat.le_refl _) (by simp [Value.ownBlock])
    clear hown hgrow
    go_wp2_with fail
    go_ret2
    exact ⟨v',rfl,HO.out,HW.out⟩
end Go.Proofs.YtlppdppddiecnaaGreatDoor.Crc
