/-
 The Go function MeshDelivers returns true at any lofts and edges, any loft that publishes, any that subscribes, any most, any steps and any packets: where the edges fit they make a chain of lofts whose errors are as the document says; packets are sent, land in any order, are lost, fly twice; it is calm: what the subscriber then was given is what was sent from its start on, none above its most, none twice, in order, a start ahead of each higher layer. No condition.
-/
import Derived.Test.YtpiamlgmadnepaaGreatMdWP
import Derived.Test.YtpiamlgmadnepaaGreatOpenAll
import Derived.ShutString
open Go.Proofs.Tryz
set_option linter.unusedVariables false
set_option maxRecDepth 100000
namespace Go.Proofs.YtpiamlgmadnepaaGreat.meshDelivers
open ChangeShapes WideShapes ChangeAt RowKit
theorem own:ownKnob prog.godebug=none:=by kernel_rfl
theorem laidOut:laidOutB prog=true:=by kernel_rfl
theorem contract(H:Type)(enc:TypeId×Value->H)(W:World)(base:Nat)(args:Array Value)(ds gs:List (DataW H))(before:List MemPlace)
 (hval0:∀(j:Nat) t v,Tryz.f4.params[j]?=some t->args[j]?=some v->Value.okWide prog W .any base t v)
 (hW:DataW.Whole enc prog Tryz.f4.params.toList Rows.meshDeliversSpec.vars false W args.toList ds gs before) :
 Calls prog 4 args W λe W'=>∃v,e=.returned v/\Rows.meshDeliversSpec.post enc prog Tryz.f4 false true false false W args v W':=by
 have ae:∀(j:Nat) t v,Tryz.f4.params[j]?=some t->args[j]?=some v->Value.okWide prog W .any base t v:=hval0;have aw:=hW;obtain⟨p,q,am,ax,rfl,aA,aC⟩:=hW;have hV:DataW.TrodVars enc prog W (λ_=>true) [] gs q:=ax;have hA:DataW.TrodAll enc prog W 0 (λ_=>true) true Tryz.f4.params.toList args.toList ds p:=am;rw[params4]at hA ae;obtain⟨v0,aD,d0,aE,p0,q0,aq,rfl,rfl,h0,r0⟩:=trodAll_cons hA;obtain⟨v1,aF,d1,aG,p1,q1,rfl,rfl,rfl,h1,r1⟩:=trodAll_cons r0;obtain⟨v2,aH,d2,aI,p2,q2,rfl,rfl,rfl,h2,r2⟩:=trodAll_cons r1;obtain⟨v3,aJ,d3,aL,p3,q3,rfl,rfl,rfl,h3,r3⟩:=trodAll_cons r2;obtain⟨v4,aM,d4,aO,p4,q4,rfl,rfl,rfl,h4,r4⟩:=trodAll_cons r3;obtain⟨v5,aP,d5,aQ,p5,q5,rfl,rfl,rfl,h5,r5⟩:=trodAll_cons r4;obtain⟨v6,aS,d6,aT,p6,q6,rfl,rfl,rfl,h6,r6⟩:=trodAll_cons r5;obtain⟨rfl,rfl,rfl⟩:=trodAll_nil r6;obtain rfl:args=#[v0,v1,v2,v3,v4,v5,v6]:=by cases args;simp_all
 obtain⟨rfl,rfl⟩:gs=[]/\q=[]:=by
  cases gs with
  | nil=>exact⟨rfl,hV⟩
  | cons g r=>exact absurd hV (by intro h;cases h)
 obtain⟨a0,rfl,rfl,rfl,w0⟩:=open_int underlying3 (ae 0 3 v0 rfl rfl) h0;have k1:=h1;have lt1:∀x∈p1,x.block<W.heap.size:=by obtain⟨m,hm⟩:=k1;exact DataW.trod_lt m _ _ _ hm
 obtain⟨a1,n1,ah,z1,rfl,w1,au⟩:=Open.ξd1 (ae 1 28 v1 rfl rfl) h1;obtain⟨a2,rfl,rfl,rfl,w2⟩:=open_int underlying3 (ae 2 3 v2 rfl rfl) h2;obtain⟨a3,rfl,rfl,rfl,w3⟩:=open_int underlying3 (ae 3 3 v3 rfl rfl) h3;obtain⟨a4,rfl,rfl,rfl,w4⟩:=open_int underlying3 (ae 4 3 v4 rfl rfl) h4;have k5:=h5;have ay:∀x∈p5,x.block<W.heap.size:=by obtain⟨m,hm⟩:=k5;exact DataW.trod_lt m _ _ _ hm
 obtain⟨a5,n5,ai,z5,rfl,w5⟩:=Open.ξbf (ae 5 22 v5 rfl rfl) h5;have k6:=h6;have az:∀x∈p6,x.block<W.heap.size:=by obtain⟨m,hm⟩:=k6;exact DataW.trod_lt m _ _ _ hm
 obtain⟨a6,n6,aj,z6,rfl,w6⟩:=Open.ξd0 (ae 6 33 v6 rfl rfl) h6;clear am hval0;refine(MS.ξeW a0 a1 n1 ah z1 a2 a3 a4 a5 n5 ai z5 a6 n6 aj z6 W w1 au.1 au.2 w5 w6).mono λe W' ⟨he,bel⟩=>?_;subst he;exact⟨_,rfl,_,_,_,[],_,[],aw,trodAll_mk1 (shut_bool underlying4 _),(trodAll_cons_mk (shut_int underlying3 w0) (trodAll_cons_mk (Below.trod laidOut (by kernel_rfl) (of_decide_eq_true (by kernel_rfl)) k1 bel lt1) (trodAll_cons_mk (shut_int underlying3 w2) (trodAll_cons_mk (shut_int underlying3 w3) (trodAll_cons_mk (shut_int underlying3 w4) (trodAll_cons_mk (Below.trod laidOut (by kernel_rfl) (of_decide_eq_true (by kernel_rfl)) k5 bel ay) (trodAll_cons_mk (Below.trod laidOut (by kernel_rfl) (of_decide_eq_true (by kernel_rfl)) k6 bel az) trodAll_mk0))))))),rfl,bel.frame _,λh=>by cases h⟩
theorem lifted(os:Os)(started:os.Started)(H:Type)(enc:TypeId×Value->H) :
 ReturnsInHanded {} Tryz.checked os 4 .any (Rows.meshDeliversSpec.pre6 enc prog Tryz.f4 Rows.meshDeliversRow.domain false) (Rows.meshDeliversSpec.post enc prog Tryz.f4 false true false false):=by
 refine returnsInHanded_of_change (C:=Tryz.checked) own started (by kernel_rfl) func4
  (ChangeSpec.witness6 (enc:=enc) (C:=Tryz.checked) false ⟨#[],#[.int .i64 0,.slice none 0 0,.int .i64 0,.int .i64 0,.int .i64 0,.slice none 0 0,.slice none 0 0],[]⟩ 8 (by kernel_rfl) (by kernel_rfl) (by kernel_rfl) (by kernel_rfl)) ?_
 intro W base ai ds gs ae ah hW aj _;exact contract H enc W base ai ds gs ae ah hW
theorem over:Rows.meshDeliversRow.holds Tryz.pinned (OpenSpec.ofChange Rows.meshDeliversSpec):=
 OpenClaim.holds_of_wide 4 Tryz.f4 rfl rfl rfl rfl rfl rfl rfl ⟨rfl,rfl,rfl,rfl,rfl⟩ rfl rfl rfl rfl rfl (by kernel_rfl) func4 (by kernel_rfl)
  (of_decide_eq_true (by kernel_rfl)) (by unfold Func.isWrapper;first|(rw[if_pos (by decide +kernel)];kernel_rfl)|(rw[if_neg (by decide +kernel)];exact⟨rfl,rfl⟩))
  (λos started H enc _=>lifted os started H enc)
end Go.Proofs.YtpiamlgmadnepaaGreat.meshDelivers
namespace Go.Proofs.YtpiamlgmadnepaaGreat
theorem meshDelivers_holds:Rows.MeshDeliversSaid:=meshDelivers.over
#print axioms meshDelivers_holds
end Go.Proofs.YtpiamlgmadnepaaGreat
