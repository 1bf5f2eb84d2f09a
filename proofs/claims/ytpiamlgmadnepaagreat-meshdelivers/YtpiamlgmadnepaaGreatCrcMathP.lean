/-
 What the proof needs.
-/
import Derived.Laws.BitsAllLaws
namespace Go.Proofs.YtpiamlgmadnepaaGreat.CM
variable {w:Nat}{l:List Nat}
def T:Nat:=3988292384
def M:Nat:=4294967295
def st(w:Nat):Nat:=if w%2=1 then(w/2)^^^T else w/2
def sts:Nat->Nat->Nat
 | 0,w=>w
 | n+1,w=>sts n (st w)
def by1(w c:Nat):Nat:=sts 8 (w^^^c)
def bys(w:Nat):List Nat->Nat
 | []=>w
 | c::l=>bys (by1 w c) l
def go(s:Nat)(l:List Nat):Nat:=bys (s^^^M) l^^^M
theorem ξ2A{a b:Nat}(h1:a<4294967296)(h2:b<4294967296):a^^^b<4294967296:=
 Nat.xor_lt_two_pow (n:=32) h1 h2
theorem T_lt:T<4294967296:=by decide
theorem A94:M<4294967296:=by decide
theorem ξgm(h:w<4294967296):st w<4294967296:=by
 unfold st;split
 ·exact ξ2A (by omega) T_lt
 ·omega
theorem ξaG{n:Nat}(h:w<4294967296):sts n w<4294967296:=by
 induction n generalizing w with
 | zero=>exact h
 | succ n ih=>exact ih (ξgm h)
theorem ξer(m n w:Nat):sts (m+n) w=sts n (sts m w):=by
 induction m generalizing w with
 | zero=>simp[sts]
 | succ m ih=>rw[show m+1+n=(m+n)+1 by omega];exact ih (st w)
theorem ξfT(n w:Nat):sts n (st w)=st (sts n w):=by
 have:=ξer n 1 w;exact this
theorem ξgd{c:Nat}(h:w<4294967296)(hc:c<256):by1 w c<4294967296:=ξaG (ξ2A h (by omega))
theorem ξ7w(h:w<4294967296)(hl:∀c∈l,c<256):bys w l<4294967296:=by
 induction l generalizing w with
 | nil=>exact h
 | cons c l ih=>exact ih (ξgd h (hl c (by simp))) (λd hd=>hl d (by simp[hd]))
theorem ξfv(w:Nat)(l m:List Nat):bys w (l++m)=bys (bys w l) m:=by
 induction l generalizing w with
 | nil=>rfl
 | cons c l ih=>exact ih (by1 w c)
theorem ξef{s:Nat}(h:s<4294967296)(hl:∀c∈l,c<256):go s l<4294967296:=ξ2A (ξ7w (ξ2A h A94) hl) A94
def be4(s:Nat):List Nat:=[s/16777216%256,s/65536%256,s/256%256,s%256]
def num(n:Nat):List Nat->Nat
 | []=>n
 | c::l=>num (n*256+c) l
theorem ξeQ(s:Nat)(h:s<4294967296):num 0 (be4 s)=s:=by
 simp only[be4,num];omega
theorem ξc8(s:Nat):∀c∈be4 s,c<256:=by
 intro c hc;simp only[be4,List.mem_cons,List.not_mem_nil,or_false]at hc;omega
theorem or4(a b c d:Nat)(hb:b<256)(hc:c<256)(hd:d<256) :
 (a*16777216|||b*65536|||c*256|||d)=((a*256+b)*256+c)*256+d:=by
 rw[nat_join 24 (a*16777216) (b*65536) (by omega) (by omega),nat_join 16 _ (c*256) (by omega) (by omega),nat_join 8 _ d (by omega) (by omega)];omega
end Go.Proofs.YtpiamlgmadnepaaGreat.CM
