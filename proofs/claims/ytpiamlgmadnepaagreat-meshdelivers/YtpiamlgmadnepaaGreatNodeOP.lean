/-
 What the proof needs.
-/
import Derived.Test.YtpiamlgmadnepaaGreatMemP
set_option linter.unusedVariables false
namespace Go.Proofs.YtpiamlgmadnepaaGreat.NO
open RowKit WideShapes Mem
variable {w w' c:World}{k:Nat}{a b bs:List Nat}
structure Tg where
 n:Nat
 c:Nat
 j:Int
variable {o o':Nat->Tg}{S:Tg->Prop}{t:Tg}
abbrev ξ2:Tg:=⟨0,0,0⟩
def A5d(w:World)(k:Nat):Prop:=∀cs fr,w.heap[k]?≠some (.cells cs 5 fr)
theorem ξr(h:w'.heap[k]?=w.heap[k]?)(j:Nat):w'.cell? ⟨k,j,none⟩=w.cell? ⟨k,j,none⟩:=by simp only[World.cell?,h]
theorem A5d.same(h:A5d w k)(e:w'.heap[k]?=w.heap[k]?):A5d w' k:=λcs fr=>by rw[e];exact h cs fr
theorem ξ14(h:∃es c,w.heap[k]?=some (.map es c)):A5d w k:=by
 obtain⟨es,c,h⟩:=h;exact λcs fr=>by rw[h];simp
theorem ξi{cs:Array Value}{t:TypeId}{fr:Nat×Nat}(h:w.heap[k]?=some (.cells cs t fr))(ht:t≠5):A5d w k:=λcs' fr'=>by rw[h];simp[ht]
def Nob(w:World)(bs:List Nat):Prop:=∀k∈bs,A5d w k
theorem Nob.nil(w:World):Nob w []:=by intro k hk;simp at hk
theorem Nob.app(ha:Nob w a)(hb:Nob w b):Nob w (a++b):=by
 intro k hk;rcases Ξe.1 hk with h|h
 ·exact ha k h
 ·exact hb k h
theorem Nob.sub(hb:Nob w b)(h:∀k∈a,k∈b):Nob w a:=λk hk=>hb k (h k hk)
theorem Nob.old(h:Nob w a):∀k∈a,∀cs fr,w.heap[k]?≠some (.cells cs 5 fr):=h
theorem Nob.back(ho:Only a w w')(ha:Nob w a)(hb:Nob w' b):Nob w (b.filter λk=>decide (k<w.heap.size)):=by
 intro k hk;obtain⟨h1,h2⟩:=Ξj.1 hk;by_cases hc:k∈a
 ·exact ha k hc
 ·exact(hb k h1).same (ho.2.2.2.2 k (by simpa using h2) hc).symm
def Chg(o:Nat->Tg)(S:Tg->Prop)(w w':World):Prop:=∃bs,Only bs w w'/\(∀k∈bs,S (o k))/\Nob w bs
theorem Chg.refl(o:Nat->Tg)(S:Tg->Prop)(w:World):Chg o S w w:=⟨[],Only.refl _ _,by simp,Nob.nil _⟩
theorem Chg.of_below(h:Below w.heap.size w w')(o:Nat->Tg)(S:Tg->Prop):Chg o S w w':=⟨[],Only.of_below h _,by simp,Nob.nil _⟩
theorem Chg.A1j(h:Only bs w w')(hs:∀k∈bs,S (o k))(hn:Nob w bs):Chg o S w w':=⟨bs,h,hs,hn⟩
theorem Chg.mono{S':Tg->Prop}(h:Chg o S w w')(hs:∀t,S t->S' t):Chg o S' w w':=by
 obtain⟨bs,h1,h2,h3⟩:=h;exact⟨bs,h1,λk hk=>hs _ (h2 k hk),h3⟩
theorem Chg.size(h:Chg o S w w'):w.heap.size<=w'.heap.size:=by
 obtain⟨bs,h1,_⟩:=h;exact h1.2.2.2.1
def Ext(w:World)(o o':Nat->Tg):Prop:=∀k,k<w.heap.size->o' k=o k
theorem Ext.refl(w:World)(o:Nat->Tg):Ext w o o:=λ_ _=>rfl
theorem Ext.trans{p:Nat->Tg}(h:Ext w o o')(h':Ext w' o' p)(hs:w.heap.size<=w'.heap.size):Ext w o p:=λk hk=>(h' k (by omega)).trans (h k hk)
theorem Chg.trans{a b:World}(h:Chg o S a b)(h':Chg o' S b c)(he:Ext a o o'):Chg o S a c:=by
 obtain⟨bs,h1,h2,h3⟩:=h;obtain⟨cs,k1,k2,k3⟩:=h';refine⟨bs++cs.filter λk=>decide (k<a.heap.size),?_,?_,h3.app (Nob.back h1 h3 k3)⟩
 ·refine⟨k1.1.trans h1.1,k1.2.1.trans h1.2.1,k1.2.2.1.trans h1.2.2.1,Nat.le_trans h1.2.2.2.1 k1.2.2.2.1,?_⟩;intro k hk hn;have n1:k∉bs:=λhc=>hn (Ξe.2 (.inl hc));have n2:k∉cs:=λhc=>hn (Ξe.2 (.inr (Ξj.2 ⟨hc,by simpa using hk⟩)));exact(k1.2.2.2.2 k (Ξn hk h1.2.2.2.1) n2).trans (h1.2.2.2.2 k hk n1)
 ·intro k hk;rcases Ξe.1 hk with hk|hk
  ·exact h2 k hk
  ·obtain⟨hk,hl⟩:=Ξj.1 hk;have hl:k<a.heap.size:=by simpa using hl
   rw[<-he k hl];exact k2 k hk
theorem Chg.trans'{a b:World}(h:Chg o S a b)(h':Chg o S b c):Chg o S a c:=h.trans h' (Ext.refl _ _)
theorem Chg.block(h:Chg o S w w'){x:Obj}(hx:w.heap[k]?=some x)(hk:¬S (o k)):w'.heap[k]?=some x:=by
 obtain⟨bs,h1,h2,_⟩:=h;exact h1.block hx (λhc=>hk (h2 k hc))
def Far(o:Nat->Tg)(S:Tg->Prop)(a:Option Addr)(n:Nat):Prop:=0<n->∀ad,a=some ad->¬S (o ad.block)
theorem Chg.arg(h:Chg o S w w'){a:Option Addr}{n:Nat}{L:List Nat}(hA:Arg w a n L)(hF:Far o S a n):Arg w' a n L:=by
 obtain⟨bs,h1,h2,h3⟩:=h;refine⟨⟨hA.1.1,λj hj=>?_⟩,hA.2⟩;obtain⟨b',o',e,hc⟩:=hA.1.2 j hj;have hl:=Ξq w ⟨b',o'+j,none⟩ hc;have hn:b'∉bs:=λhk=>hF (by have:=hA.2.1;omega) _ e (h2 _ hk);exact⟨b',o',e,(ξr (h1.2.2.2.2 b' hl hn) _).trans hc⟩
def grow(o:Nat->Tg)(w:World)(t:Tg):Nat->Tg:=λk=>if k<w.heap.size then o k else t
theorem ξ3(o:Nat->Tg)(w:World)(t:Tg):Ext w o (grow o w t):=λk hk=>by simp[grow,hk]
theorem ξg(h:w.heap.size<=k):grow o w t k=t:=by
 unfold grow;rw[if_neg (by omega)]
theorem ξt(h:k<w.heap.size):grow o w t k=o k:=by
 unfold grow;rw[if_pos h]
def Own(o:Nat->Tg)(t:Tg)(bs:List Nat):Prop:=∀k∈bs,o k=t
theorem Own.ext(h:Own o t bs)(he:Ext w o o')(hl:∀k∈bs,k<w.heap.size):Own o' t bs:=λk hk=>(he k (hl k hk)).trans (h k hk)
def mine(n:Nat)(t:Tg):Prop:=t.n=n
end Go.Proofs.YtpiamlgmadnepaaGreat.NO
