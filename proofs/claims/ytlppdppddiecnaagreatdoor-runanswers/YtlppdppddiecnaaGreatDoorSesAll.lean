/-
  RunO, RunQ, RunR in one text.
-/
import Derived.Test.YtlppdppddiecnaaGreatDoorLinesAll
import Derived.Test.YtlppdppddiecnaaGreatDoorWinP
import Derived.Test.YtlppdppddiecnaaGreatDoorVoiceAll
import Derived.Test.YtlppdppddiecnaaGreatDoorLayerAll
namespace Go.Proofs.YtlppdppddiecnaaGreatDoor.Run
open Go.ChangeShapes Go.WideShapes Go.ChangeAt Go.RowKit Go.Proofs.YtlppdppddiecnaaGreatDoor.Mem Go.Proofs.YtlppdppddiecnaaGreatDoor.RN Go.Proofs.YtlppdppddiecnaaGreatDoor.RC
set_option linter.unusedVariables false

def WinAt (w:World) (b:Nat) (T:Int) (s:Nat):Prop:=w.heap[b]?=some (.cells #[.int .i64 8,.int .i64 T,.int .u64 (s:Int)] 126 (0,0))
theorem WinAt.cells {w:World} {b:Nat} {T:Int} {s:Nat} (h:WinAt w b T s):w.cell? ⟨b,0,none⟩=some (.int .i64 8)∧w.cell? ⟨b,1,none⟩=some (.int .i64 T)∧w.cell? ⟨b,2,none⟩=some (.int .u64 (s:Int)):=by
  simp only [WinAt] at h
  refine ⟨?_,?_,?_⟩<;>simp [World.cell?,h]
theorem WinAt.free {w:World} {b:Nat} {T:Int} {s:Nat} (h:WinAt w b T s) (j:Nat):w.frozen? ⟨b,j,none⟩=false:=by
  simp only [WinAt] at h
  simp [World.frozen?,h]
theorem drew_block (w:World) (k b:Nat):(w.drewN k).heap[b]?=w.heap[b]?:=rfl
theorem add_calls (b:Nat) (T y:Int) (s:Nat) (w:World) (h:WinAt w b T s) (hT0:-1≤T) (hT1:T≤1099511627776) (hs:s<18446744073709551616) :
    Calls Tryz.prog 80 #[.pointer (some ⟨b,0,none⟩),.int .i64 y] w fun e w'=>e=.returned (.tuple #[.bool (wIs T y s),Tree.errv (wF T y)])∧WinAt w' b (wT T y) (wS T y s)∧Only [b] w w':=by
  obtain ⟨c0,c1,c2⟩:=h.cells
  have f1:=h.free 1
  have f2:=h.free 2
  by_cases hl:y<0∨1099511627776<y
  · have e:wF T y=1:=by unfold wF;rw [if_pos hl]
    refine (Win.add_long b y w hl).mono ?_
    rintro e' w' ⟨rfl,rfl⟩
    refine ⟨by simp [wIs,e,Tree.errv],?_,Only.refl _ _⟩
    simpa [wT,wS,e] using h
  · by_cases ho:8≤T - y
    · have e:wF T y=6:=by unfold wF;rw [if_neg hl,if_pos ho]
      refine (Win.add_old b 8 T y w c0 c1 (by omega) (by omega) hT0 hT1 (by omega) (by omega) ho).mono ?_
      rintro e' w' ⟨rfl,k,rfl⟩
      refine ⟨by simp [wIs,e,Tree.errv],?_,(Only.refl _ _).drewN k⟩
      have:WinAt (w.drewN k) b T s:=h
      simpa [wT,wS,e] using this
    · have e:wF T y=0:=by unfold wF;rw [if_neg hl,if_neg ho]
      by_cases hr:T<y
      · refine (Win.add_rise b 8 T y s w c0 c1 c2 f1 f2 (by omega) (by omega) hT0 hr (by omega) (by omega)).mono ?_
        rintro e' w' ⟨rfl,k,rfl⟩
        refine ⟨by simp [wIs,e,hr,Tree.errv],?_,(((Only.refl [b] w).setCell (by simp) _).setCell (by simp) _).drewN k⟩
        have h1:WinAt ((w.setCell ⟨b,2,none⟩ (.int .u64 (Win.riseS s (y - T).toNat:Int))).setCell ⟨b,1,none⟩ (.int .i64 y)) b y (Win.riseS s (y - T).toNat):=by
          have h1:=heap_setCell_same w b 2 _ _ (.int .u64 (Win.riseS s (y - T).toNat:Int)) h
          exact heap_setCell_same _ b 1 _ _ (.int .i64 y) h1
        have h2:wT T y=y:=by simp [wT,e,hr]
        have h3:wS T y s=Win.riseS s (y - T).toNat:=by simp [wS,e,hr]
        rw [h2,h3]
        exact h1
      · refine (Win.add_in b 8 T y s w c0 c1 c2 f2 (by omega) (by omega) hT0 (by omega) hT1 (by omega) (by omega) hs).mono ?_
        rintro e' w' ⟨rfl,k,rfl⟩
        refine ⟨by simp [wIs,e,hr,Tree.errv],?_,((Only.refl [b] w).setCell (by simp) _).drewN k⟩
        have h1:WinAt (w.setCell ⟨b,2,none⟩ (.int .u64 ((s ||| 2 ^ (T - y).toNat:Nat):Int))) b T (s ||| 2 ^ (T - y).toNat):=heap_setCell_same w b 2 _ _ _ h
        have h2:wT T y=T:=by simp [wT,hr]
        have h3:wS T y s=s ||| 2 ^ (T - y).toNat:=by simp [wS,e,hr]
        rw [h2,h3]
        exact h1

structure SsAt (w:World) (sb wb vb lb:Nat) (mo:Option Nat) (S:Ss):Prop where
  box:w.heap[sb]?=some (.cells #[.pointer (some ⟨wb,0,none⟩),.pointer (some ⟨vb,0,none⟩),.pointer (some ⟨lb,0,none⟩)] 105 (0,0))
  win:WinAt w wb S.top S.seen
  vo:Voice.VAt w vb mo 2 S.sp S.f
  ly:Layer.LayerAt w lb 1 S.nw S.la S.br
  ne:sb≠wb∧sb≠vb∧sb≠lb∧wb≠vb∧wb≠lb∧vb≠lb
theorem SsAt.map {w:World} {sb wb vb lb m:Nat} {S:Ss} (h:SsAt w sb wb vb lb (some m) S):m≠sb∧m≠wb∧m≠vb∧m≠lb:=by
  rcases h.vo.map with ⟨h0,_⟩ | ⟨m',D,h0,h1,h2⟩
  · cases h0
  · cases h0
    obtain ⟨es,c,h4⟩:=Voice.map_block h1
    refine ⟨fun e=>?_,fun e=>?_,fun e=>?_,fun e=>?_⟩
    · have:=h.box;rw [← e,h4] at this;simp at this
    · have:=h.win;unfold WinAt at this;rw [← e,h4] at this;simp at this
    · have:=h.vo.box;rw [← e,h4] at this;simp at this
    · have:=h.ly;unfold Layer.LayerAt at this;rw [← e,h4] at this;simp at this
theorem SsAt.only {w w':World} {sb wb vb lb:Nat} {mo:Option Nat} {S:Ss} {L:List Nat} (h:SsAt w sb wb vb lb mo S) (ho:Only L w w') (h1:sb∉L) (h2:wb∉L) (h3:vb∉L) (h4:lb∉L) (h5:∀ m,mo=some m→m∉L):SsAt w' sb wb vb lb mo S:=
  ⟨ho.block h.box h1,ho.block h.win h2,h.vo.only ho h3 h5,ho.block h.ly h4,h.ne⟩
structure SLow (sb wb vb lb:Nat) (mo:Option Nat) (b:Nat):Prop where
  s:sb<b
  w:wb<b
  v:vb<b
  l:lb<b
  m:∀ m,mo=some m→m<b
  lo:10≤sb∧10≤wb∧10≤vb∧10≤lb
theorem SsAt.words {w w':World} {sb wb vb lb b:Nat} {mo:Option Nat} {S:Ss} (h:SsAt w sb wb vb lb mo S) (hl:SLow sb wb vb lb mo b) (ho:Only [b] w w'):SsAt w' sb wb vb lb mo S:=
  h.only ho (by have:=hl.s;simp;omega) (by have:=hl.w;simp;omega) (by have:=hl.v;simp;omega) (by have:=hl.l;simp;omega) (fun m e=>by have:=hl.m m e;simp;omega)
theorem SsAt.below {w w':World} {sb wb vb lb:Nat} {mo:Option Nat} {S:Ss} (h:SsAt w sb wb vb lb mo S) (hb:Below w.heap.size w w'):SsAt w' sb wb vb lb mo S:=
  h.only (Only.of_below hb []) (by simp) (by simp) (by simp) (by simp) (by simp)
theorem SsAt.setW {w w':World} {sb wb vb lb:Nat} {mo:Option Nat} {S:Ss} {T:Int} {s:Nat} (h:SsAt w sb wb vb lb mo S) (hw:WinAt w' wb T s) (ho:Only [wb] w w'):SsAt w' sb wb vb lb mo { S with top:=T,seen:=s }:=by
  obtain ⟨n1,n2,n3,n4,n5,n6⟩:=h.ne
  refine ⟨ho.block h.box (by simpa using n1),hw,h.vo.only ho (by simpa using fun e=>n4 e.symm) (fun m e=>?_),ho.block h.ly (by simpa using fun e=>n5 e.symm),h.ne⟩
  subst e
  simpa using h.map.2.1
theorem SsAt.setL {w w':World} {sb wb vb lb:Nat} {mo:Option Nat} {S:Ss} {nw la:Int} {br:Bool} (h:SsAt w sb wb vb lb mo S) (hw:Layer.LayerAt w' lb 1 nw la br) (ho:Only [lb] w w'):SsAt w' sb wb vb lb mo { S with nw:=nw,la:=la,br:=br }:=by
  obtain ⟨n1,n2,n3,n4,n5,n6⟩:=h.ne
  refine ⟨ho.block h.box (by simpa using n3),ho.block h.win (by simpa using n5),h.vo.only ho (by simpa using n6) (fun m e=>?_),hw,h.ne⟩
  subst e
  simpa using h.map.2.2.2
theorem SsAt.setV {w w':World} {sb wb vb lb:Nat} {mo mo':Option Nat} {S:Ss} {sp:Int} {f:VO.Sc} (h:SsAt w sb wb vb lb mo S) (hw:Voice.VAt w' vb mo' 2 sp f) (ho:Only [vb] w w'):SsAt w' sb wb vb lb mo' { S with sp:=sp,f:=f }:=by
  obtain ⟨n1,n2,n3,n4,n5,n6⟩:=h.ne
  exact ⟨ho.block h.box (by simpa using n2),ho.block h.win (by simpa using n4),hw,ho.block h.ly (by simpa using fun e=>n6 e.symm),h.ne⟩
theorem SsAt.cells {w:World} {sb wb vb lb:Nat} {mo:Option Nat} {S:Ss} (h:SsAt w sb wb vb lb mo S) :
    w.cell? ⟨sb,0,none⟩=some (.pointer (some ⟨wb,0,none⟩))∧w.cell? ⟨sb,1,none⟩=some (.pointer (some ⟨vb,0,none⟩))∧w.cell? ⟨sb,2,none⟩=some (.pointer (some ⟨lb,0,none⟩)):=by
  have:=h.box
  refine ⟨?_,?_,?_⟩<;>simp [World.cell?,this]
def LeftE (ea:Addr) (r:An×Ss) (sb wb vb lb b:Nat) (mo:Option Nat) (w:World) (e:Ending) (w':World):Prop:=
  TellsE ea r.1 e∧∃ mo',SsAt w' sb wb vb lb mo' r.2∧Only [b,wb,vb,lb] w w'∧(mo'=mo∨∃ m,mo'=some m∧w.heap.size≤m)
set_option maxHeartbeats 2000000 in
set_option maxRecDepth 100000 in
theorem seen_calls (ea:Addr) (b sb wb vb lb:Nat) (mo:Option Nat) (S:Ss) (W:Ws) (w:World) (h:WAt w b W) (g:GW ea w) (hb:10≤b) (hS:SsAt w sb wb vb lb mo S) (hO:S.Ok) (hl:SLow sb wb vb lb mo b) :
    Calls Tryz.prog 50 #[.pointer (some ⟨sb,0,none⟩),.pointer (some ⟨b,0,none⟩)] w (LeftE ea (aSeen S W) sb wb vb lb b mo w):=by
  have C1:=hidden (number_calls ea b W w h g hb)
  have E:=hidden (fun w1 h1 g1=>end_calls ea b W.number.2 w1 h1 g1)
  have G:=hidden (fun w1 (ho:Only [b] w w1)=>g.only ho (by simpa using hb))
  have HS:=hidden (fun w1 (ho:Only [b] w w1)=>hS.words hl ho)
  have HO:=hidden hO
  obtain ⟨r,hr⟩:∃ r,r=aSeen S W:=⟨_,rfl⟩
  rw [← hr]
  unfold aSeen at hr
  generalize W.number=N1 at C1 E hr
  obtain ⟨y,V⟩:=N1
  simp only at C1 E hr
  have HR:=hidden hr
  clear h g hb hr hS hO hl
  go_enter Tryz.func50,Tryz.ntmps50
  go_wp2_with fail
  refine C1.out.mono ?_
  rintro e w1 ⟨rfl,h1,ho1⟩
  have E':=hidden (E.out w1 h1 (G.out w1 ho1))
  have HO1:=hidden ho1
  have hs1:=HS.out w1 ho1
  obtain ⟨c0,c1,c2⟩:=hs1.cells
  have A:=hidden (add_calls wb S.top y S.seen w1 hs1.win HO.out.t0 HO.out.t1 HO.out.s1)
  have HS1:=hidden hs1
  clear h1 ho1 hs1 c1 c2
  go_wp2_with fail
  refine E'.out.mono ?_
  rintro e w2 ⟨he,rfl⟩
  by_cases hl:V.left
  · rw [if_pos hl,badV_eq] at he
    subst he
    have HL:=hidden hl
    clear hl
    go_wp2_with fail
    go_ret2
    refine ⟨?_,mo,?_,HO1.out.mono (by simp),.inl rfl⟩
    · rw [HR.out,if_pos HL.out]
      exact ⟨[],rfl,by simp,by simp⟩
    · rw [HR.out,if_pos HL.out]
      exact HS1.out
  · rw [if_neg hl] at he
    subst he
    have HL:=hidden hl
    clear hl
    go_wp2_with fail
    refine A.out.mono ?_
    rintro e w3 ⟨rfl,hw3,ho3⟩
    have HS3:=hidden (HS1.out.setW hw3 ho3)
    have HO3:Hid (Only [b,wb,vb,lb] w w3):=hidden ((HO1.out.mono (by simp)).trans (ho3.mono (by simp)))
    have Y:=hidden (fun x W=>yesOrNo_calls x W)
    generalize hf:wF S.top y=f
    generalize hi:wIs S.top y S.seen=is
    rw [hf,hi] at HR
    clear hw3 ho3
    go_wp2_with fail
    refine (Y.out _ _).mono ?_
    rintro e w4 ⟨rfl,rfl⟩
    go_wp2_with fail
    go_ret2
    refine ⟨?_,mo,?_,HO3.out,.inl rfl⟩
    · rw [HR.out,if_neg HL.out]
      by_cases h0:f=0
      · subst h0
        rw [An.of_ok rfl]
        exact ⟨_,rfl,by simp,by cases is<;>simp [yesNo]⟩
      · simp only
        rw [An.of_err h0]
        exact ⟨_,by rw [Tree.errv_pos h0];rfl,by simp,by cases is<;>simp [yesNo]⟩
    · rw [HR.out,if_neg HL.out]
      exact HS3.out

theorem perr_pos {e:Nat} (h:e≠0):Pack.errv e=.iface 107 (.int .i64 (e:Int)):=by simp [Pack.errv,h]
set_option maxHeartbeats 2000000 in
set_option maxRecDepth 100000 in
theorem gone_calls (ea:Addr) (b sb wb vb lb:Nat) (mo:Option Nat) (S:Ss) (W:Ws) (w:World) (h:WAt w b W) (g:GW ea w) (hb:10≤b) (hS:SsAt w sb wb vb lb mo S) (hO:S.Ok) (hl:SLow sb wb vb lb mo b) :
    Calls Tryz.prog 57 #[.pointer (some ⟨sb,0,none⟩),.pointer (some ⟨b,0,none⟩)] w (LeftE ea (aGone S W) sb wb vb lb b mo w):=by
  have C1:=hidden (number_calls ea b W w h g hb)
  have E:=hidden (fun w1 h1 g1=>end_calls ea b W.number.2 w1 h1 g1)
  have G:=hidden (fun w1 (ho:Only [b] w w1)=>g.only ho (by simpa using hb))
  have HS:=hidden (fun w1 (ho:Only [b] w w1)=>hS.words hl ho)
  have HO:=hidden hO
  obtain ⟨r,hr⟩:∃ r,r=aGone S W:=⟨_,rfl⟩
  rw [← hr]
  unfold aGone at hr
  generalize W.number=N1 at C1 E hr
  obtain ⟨y,V⟩:=N1
  simp only at C1 E hr
  have HR:=hidden hr
  clear h g hb hr hS hO hl
  go_enter Tryz.func57,Tryz.ntmps57
  go_wp2_with fail
  refine C1.out.mono ?_
  rintro e w1 ⟨rfl,h1,ho1⟩
  have E':=hidden (E.out w1 h1 (G.out w1 ho1))
  have HO1:=hidden ho1
  have hs1:=HS.out w1 ho1
  obtain ⟨c0,c1,c2⟩:=hs1.cells
  have A:=hidden (Layer.take_calls lb 1 S.nw S.la y S.br true 0 0 0 0 false none 0 0 w1 hs1.ly)
  rw [show PM.fault 0 0 0 0 0=0 by decide] at A
  have HS1:=hidden hs1
  clear h1 ho1 hs1 c0 c1
  go_wp2_with fail
  refine E'.out.mono ?_
  rintro e w2 ⟨he,rfl⟩
  by_cases hl:V.left
  · rw [if_pos hl,badV_eq] at he
    subst he
    have HL:=hidden hl
    clear hl
    go_wp2_with fail
    go_ret2
    refine ⟨?_,mo,?_,HO1.out.mono (by simp),.inl rfl⟩
    · rw [HR.out,if_pos HL.out]
      exact ⟨[],rfl,by simp,by simp⟩
    · rw [HR.out,if_pos HL.out]
      exact HS1.out
  · rw [if_neg hl] at he
    subst he
    have HL:=hidden hl
    clear hl
    go_wp2_with fail
    refine A.out.mono ?_
    rintro e w3 ⟨rfl,hw3,ho3⟩
    have HS3:=hidden (HS1.out.setL hw3 ho3)
    have HO3:Hid (Only [b,wb,vb,lb] w w3):=hidden ((HO1.out.mono (by simp)).trans (ho3.mono (by simp)))
    have Y:=hidden (fun x W=>yesOrNo_calls x W)
    unfold take1 at HR
    generalize hf:LM.tkf S.la y true 0=f
    generalize hi:LM.tkx 1 S.nw S.la y S.br true 0 0 false=is
    rw [hf,hi] at HR
    clear hw3 ho3
    go_wp2_with fail
    refine (Y.out _ _).mono ?_
    rintro e w4 ⟨rfl,rfl⟩
    go_wp2_with fail
    go_ret2
    refine ⟨?_,mo,?_,HO3.out,.inl rfl⟩
    · rw [HR.out,if_neg HL.out]
      simp only
      by_cases h0:f=0
      · subst h0
        rw [An.of_ok rfl]
        exact ⟨_,rfl,by simp,by cases is<;>simp [yesNo]⟩
      · rw [An.of_err h0]
        exact ⟨_,by rw [perr_pos h0];rfl,by simp,by cases is<;>simp [yesNo]⟩
    · rw [HR.out,if_neg HL.out]
      exact HS3.out
theorem and_seq (n:Int):bits .and .i64 n 65535=n%65536:=by
  have h:(BitVec.ofInt 64 65535).toNat=2 ^ 16 - 1:=by decide
  have key:(BitVec.ofInt 64 n &&& BitVec.ofInt 64 65535).toNat=(n%((2 ^ 64:Nat):Int)).toNat%2 ^ 16:=by
    rw [BitVec.toNat_and,BitVec.toNat_ofInt,h,Nat.and_two_pow_sub_one_eq_mod]
  show IntKind.i64.wrap ((BitVec.ofInt 64 n &&& BitVec.ofInt 64 65535).toNat:Nat)=n%65536
  rw [key,IntKind.wrap_i64]
  omega
set_option maxHeartbeats 2000000 in
set_option maxRecDepth 100000 in
theorem take_calls (ea:Addr) (b sb wb vb lb:Nat) (mo:Option Nat) (S:Ss) (W:Ws) (w:World) (h:WAt w b W) (g:GW ea w) (hb:10≤b) (hS:SsAt w sb wb vb lb mo S) (hO:S.Ok) (hl:SLow sb wb vb lb mo b) :
    Calls Tryz.prog 56 #[.pointer (some ⟨sb,0,none⟩),.pointer (some ⟨b,0,none⟩)] w (LeftE ea (aTake S W) sb wb vb lb b mo w):=by
  have C1:=hidden (number_calls ea b W w h g hb)
  have C2:=hidden (fun w1 h1 g1=>number_calls ea b W.number.2 w1 h1 g1 hb)
  have C3:=hidden (fun w1 h1 g1=>flag_calls ea b W.number.2.number.2 w1 h1 g1 hb)
  have E:=hidden (fun w1 h1 g1=>end_calls ea b W.number.2.number.2.flag.2 w1 h1 g1)
  have G:=hidden (fun w1 (ho:Only [b] w w1)=>g.only ho (by simpa using hb))
  have HS:=hidden (fun w1 (ho:Only [b] w w1)=>hS.words hl ho)
  have HO:=hidden hO
  obtain ⟨r,hr⟩:∃ r,r=aTake S W:=⟨_,rfl⟩
  rw [← hr]
  unfold aTake at hr
  generalize W.number.2.number.2.flag=N3 at C3 E hr
  generalize W.number.2.number=N2 at C2 C3 hr
  generalize W.number=N1 at C1 C2 hr
  obtain ⟨y,V1⟩:=N1
  obtain ⟨l,V2⟩:=N2
  obtain ⟨st,V⟩:=N3
  simp only at C1 C2 C3 E hr
  have HR:=hidden hr
  have hand:=and_seq y
  clear h g hb hr hS hO hl
  go_enter Tryz.func56,Tryz.ntmps56
  go_wp2_with fail
  refine C1.out.mono ?_
  rintro e w1 ⟨rfl,h1,ho1⟩
  have C2':=hidden (C2.out w1 h1 (G.out w1 ho1))
  have HO1:=hidden ho1
  clear h1 ho1
  go_wp2_with fail
  refine C2'.out.mono ?_
  rintro e w2 ⟨rfl,h2,ho2⟩
  have HO2:=hidden (HO1.out.trans ho2)
  have C3':=hidden (C3.out w2 h2 (G.out w2 HO2.out))
  clear h2 ho2
  go_wp2_with fail
  refine C3'.out.mono ?_
  rintro e w3 ⟨rfl,h3,ho3⟩
  have HOa:=hidden (HO2.out.trans ho3)
  have E':=hidden (E.out w3 h3 (G.out w3 HOa.out))
  have hs3:=HS.out w3 HOa.out
  obtain ⟨c0,c1,c2⟩:=hs3.cells
  have HSa:=hidden hs3
  clear h3 ho3 hs3 c0 c1
  go_wp2_with fail
  refine E'.out.mono ?_
  rintro e w4 ⟨he,rfl⟩
  by_cases hl:V.left
  · rw [if_pos hl,badV_eq] at he
    subst he
    have HL:=hidden hl
    clear hl
    go_wp2_with fail
    go_ret2
    refine ⟨?_,mo,?_,HOa.out.mono (by simp),.inl rfl⟩
    · rw [HR.out,if_pos HL.out]
      exact ⟨[],rfl,by simp,by simp⟩
    · rw [HR.out,if_pos HL.out]
      exact HSa.out
  · rw [if_neg hl] at he
    subst he
    have HL:=hidden hl
    clear hl
    obtain ⟨q,hq⟩:∃ q,y%65536=q:=⟨_,rfl⟩
    rw [hq] at hand HR
    have A:Hid (∀ W,Layer.LayerAt W lb 1 S.nw S.la S.br→_):=hidden (fun W hW=>Layer.take_calls lb 1 S.nw S.la y S.br false q 0 l 0 st none 0 0 W hW)
    go_wp2_with fail
    obtain ⟨wa,hwa⟩:∃ x,w4.alloc (.cells #[.int .i64 q,.int .i64 0,.int .i64 l,.int .i64 0,.bool st,.slice none 0 0] 87)=x:=⟨_,rfl⟩
    rw [hwa]
    have HSb:Hid (SsAt wa sb wb vb lb mo S):=by rw [← hwa];exact HSa.out.below ((Below.refl _ _).alloc (Nat.le_refl _) _)
    have HOb:Hid (Only [b] w wa):=by rw [← hwa];exact HOa.out.alloc _
    have hbx:wa.heap[w4.heap.size]?=some (.cells #[.int .i64 q,.int .i64 0,.int .i64 l,.int .i64 0,.bool st,.slice none 0 0] 87 (0,0)):=by rw [← hwa];exact heap_alloc_new _ _
    obtain ⟨pb,hpb⟩:∃ x,w4.heap.size=x:=⟨_,rfl⟩
    rw [hpb] at hbx ⊢
    have hpl:lb≠pb:=by have:=HSa.out.ly.lt;rw [hpb] at this;omega
    generalize hf:PM.fault q 0 l 0 0=pf
    have A2:Hid (∀ W,Layer.LayerAt W lb 1 S.nw S.la S.br→Calls Tryz.prog 95 #[.pointer (some ⟨lb,0,none⟩),.agg #[.int .i64 y,.bool false,.int .i64 q,.int .i64 0,.int .i64 l,.int .i64 0,.bool st,.slice none 0 0]] W fun e w'=>e=.returned (.tuple #[.bool (LM.tkx 1 S.nw S.la y S.br false pf l st),Pack.errv (LM.tkf S.la y false pf)])∧Layer.LayerAt w' lb 1 (LM.tkN 1 S.nw S.la y S.br false pf l st) (LM.tkL S.la y false pf) (LM.tkB 1 S.nw S.la y S.br false pf l st)∧Only [lb] W w'):=hidden (fun W hW=>by rw [← hf];exact A.out W hW)
    have HRR:Hid (r=if V.left=true then (An.bad,S) else take1 S y false pf l st):=hidden (by rw [← hf];exact HR.out)
    have hcells:∀ w':World,w'.heap[sb]?=wa.heap[sb]?→w'.heap[pb]?=wa.heap[pb]?→w'.cell? ⟨sb,2,none⟩=some (.pointer (some ⟨lb,0,none⟩))∧w'.cell? ⟨pb,0,none⟩=some (.int .i64 q)∧w'.cell? ⟨pb,1,none⟩=some (.int .i64 0)∧w'.cell? ⟨pb,2,none⟩=some (.int .i64 l)∧w'.cell? ⟨pb,3,none⟩=some (.int .i64 0)∧w'.cell? ⟨pb,4,none⟩=some (.bool st)∧w'.cell? ⟨pb,5,none⟩=some (.slice none 0 0):=fun w' e1 e2=>by
      have hb2:=HSb.out.box
      rw [← e1] at hb2
      have hb3:=hbx
      rw [← e2] at hb3
      refine ⟨?_,?_,?_,?_,?_,?_,?_⟩<;>simp [World.cell?,hb2,hb3]
    have hsl:sb≠lb:=HSb.out.ne.2.2.1
    have hS0:wa.drew.cell? ⟨sb,2,none⟩=some (.pointer (some ⟨lb,0,none⟩))∧wa.drew.cell? ⟨pb,0,none⟩=some (.int .i64 q)∧wa.drew.cell? ⟨pb,1,none⟩=some (.int .i64 0)∧wa.drew.cell? ⟨pb,2,none⟩=some (.int .i64 l)∧wa.drew.cell? ⟨pb,3,none⟩=some (.int .i64 0)∧wa.drew.cell? ⟨pb,4,none⟩=some (.bool st)∧wa.drew.cell? ⟨pb,5,none⟩=some (.slice none 0 0):=hcells wa.drew rfl rfl
    unfold take1 at HRR
    have A':Hid (∀ k,Calls Tryz.prog 95 #[.pointer (some ⟨lb,0,none⟩),.agg #[.int .i64 y,.bool false,.int .i64 q,.int .i64 0,.int .i64 l,.int .i64 0,.bool st,.slice none 0 0]] (wa.drewN k) fun e w'=>e=.returned (.tuple #[.bool (LM.tkx 1 S.nw S.la y S.br false pf l st),Pack.errv (LM.tkf S.la y false pf)])∧(w'.cell? ⟨sb,2,none⟩=some (.pointer (some ⟨lb,0,none⟩))∧w'.cell? ⟨pb,0,none⟩=some (.int .i64 q)∧w'.cell? ⟨pb,1,none⟩=some (.int .i64 0)∧w'.cell? ⟨pb,2,none⟩=some (.int .i64 l)∧w'.cell? ⟨pb,3,none⟩=some (.int .i64 0)∧w'.cell? ⟨pb,4,none⟩=some (.bool st)∧w'.cell? ⟨pb,5,none⟩=some (.slice none 0 0))∧Hid (Layer.LayerAt w' lb 1 (LM.tkN 1 S.nw S.la y S.br false pf l st) (LM.tkL S.la y false pf) (LM.tkB 1 S.nw S.la y S.br false pf l st)∧Only [lb] wa w')):=hidden (fun k=>(A2.out (wa.drewN k) HSb.out.ly).mono (by
      rintro e w' ⟨rfl,h1,h2⟩
      have h3:Only [lb] wa w':=h2
      exact ⟨rfl,hcells w' (h3.2.2.2.2 sb (lt_of_block HSb.out.box) (by simpa using hsl)) (h3.2.2.2.2 pb (lt_of_block hbx) (by simpa using fun e=>hpl e.symm)),hidden ⟨h1,h3⟩⟩))
    generalize hff:LM.tkf S.la y false pf=f at A' HRR
    generalize hii:LM.tkx 1 S.nw S.la y S.br false pf l st=is at A' HRR
    clear hcells hwa hbx hpl hsl hf hff hii hpb
    go_region_held3 (fun w'=>w'.cell? ⟨sb,2,none⟩=some (.pointer (some ⟨lb,0,none⟩))∧w'.cell? ⟨pb,0,none⟩=some (.int .i64 q)∧w'.cell? ⟨pb,1,none⟩=some (.int .i64 0)∧w'.cell? ⟨pb,2,none⟩=some (.int .i64 l)∧w'.cell? ⟨pb,3,none⟩=some (.int .i64 0)∧w'.cell? ⟨pb,4,none⟩=some (.bool st)∧w'.cell? ⟨pb,5,none⟩=some (.slice none 0 0)) (with_reducible assumption) (first | (go_at_call 95;refine (A'.out _).mono ?_;rintro e w5 ⟨rfl,hS5,HL5⟩))
    have Y:=hidden (fun x W=>yesOrNo_calls x W)
    have HS3:=hidden (HSb.out.setL HL5.out.1 HL5.out.2)
    have HO3:Hid (Only [b,wb,vb,lb] w w5):=hidden ((HOb.out.mono (by simp)).trans (HL5.out.2.mono (by simp)))
    clear hS0 hS5
    go_wp2_with fail
    refine (Y.out _ _).mono ?_
    rintro e w6 ⟨rfl,rfl⟩
    go_wp2_with fail
    go_ret2
    refine ⟨?_,mo,?_,HO3.out,.inl rfl⟩
    · rw [HRR.out,if_neg HL.out]
      simp only
      by_cases h0:f=0
      · subst h0
        rw [An.of_ok rfl]
        exact ⟨_,rfl,by simp,by cases is<;>simp [yesNo]⟩
      · rw [An.of_err h0]
        exact ⟨_,by rw [perr_pos h0];rfl,by simp,by cases is<;>simp [yesNo]⟩
    · rw [HRR.out,if_neg HL.out]
      exact HS3.out

theorem voices_snoc (K:List Int) (x:Int):voices (K++[x])=voices K++[((K.length:Int),x)]:=by
  unfold voices
  rw [List.zipIdx_append]
  simp
theorem voices_len (K:List Int):(voices K).length=K.length:=by simp [voices]
structure VSt (w wr:World) (l:VO.Vs) (v:Value):Prop where
  bel:Below w.heap.size w wr
  own:wr.ownsRow w.heap.size 83 2 v l.length (Voice.vc l)
theorem VSt.app {w wr w':World} {l:VO.Vs} {x y:Int} {v v':Value} {O:Obj} (h:VSt w wr l v) (hown:w'.ownsRow w.heap.size 83 2 v' (l.length+1) (Voice.vc l++[.int .i64 x,.int .i64 y])) (hg:(wr.alloc O).grownBy w' v.ownBlock):VSt w w' (l++[(x,y)]) v':=by
  have hs:=h.bel.size
  refine ⟨(h.bel.alloc hs O).grown hg (by simp;omega) (fun j hj=>(h.own.lt j hj).1),?_⟩
  rw [List.length_append,Voice.vc_app]
  exact hown
theorem int_snoc {L:List Int} {i:Nat} (h:i<L.length):L.take (i+1)=L.take i++[TM.dg L i]:=by
  rw [TM.dg,List.getD_eq_getElem?_getD,List.getElem?_eq_getElem h,Option.getD_some,List.take_append_getElem h]
theorem lit2 {w:World} {T:TypeId} (c0 c1:Value):∀ j u,[c0,c1][j]?=some u→(w.alloc (.cells #[c0,c1] T)).cell? ((⟨w.heap.size,0,none⟩:Addr).add j)=some u:=by
  intro j u hu
  rw [add_plain,Nat.zero_add]
  have:=World.cell?_alloc_mark w #[c0,c1] T (0,0) j
  match j,hu with
  | 0,hu=>simp at hu;subst hu;exact this
  | 1,hu=>simp at hu;subst hu;exact this
set_option maxHeartbeats 2000000 in
set_option maxRecDepth 100000 in
theorem hear_calls (ea:Addr) (b sb wb vb lb:Nat) (mo:Option Nat) (S:Ss) (W:Ws) (w:World) (h:WAt w b W) (g:GW ea w) (hb:10≤b) (hS:SsAt w sb wb vb lb mo S) (hO:S.Ok) (hl:SLow sb wb vb lb mo b) :
    Calls Tryz.prog 55 #[.pointer (some ⟨sb,0,none⟩),.pointer (some ⟨b,0,none⟩)] w (LeftE ea (aHear S W) sb wb vb lb b mo w):=by
  have C1:=hidden (list_calls ea b W w h g hb)
  have hln:=list_len h
  have E:=hidden (fun w1 h1 g1=>end_calls ea b W.list.2 w1 h1 g1)
  have G:=hidden (fun w1 (ho:Only [b] w w1)=>g.only ho (by simpa using hb))
  have HS:=hidden (fun w1 (ho:Only [b] w w1)=>hS.words hl ho)
  have HO:=hidden hO
  obtain ⟨r,hr⟩:∃ r,r=aHear S W:=⟨_,rfl⟩
  rw [← hr]
  unfold aHear at hr
  generalize W.list=N1 at C1 hln E hr
  obtain ⟨L,V⟩:=N1
  simp only at C1 hln E hr
  have HR:=hidden hr
  have HLO:=hidden hl.lo
  clear h g hb hr hS hO hl
  obtain ⟨i0,hii,hz0,hz1,hz2⟩:=info_parts Voice.infoVO
  go_enter Tryz.func55,Tryz.ntmps55
  go_wp2_with fail
  refine C1.out.mono ?_
  rintro e w1 ⟨v,rfl,hv,h1,ho1⟩
  obtain ⟨a,cap,rfl,hA,-,hcap,-⟩:=Tree.own_ints hv (by omega)
  have E':=hidden (E.out w1 h1 (G.out w1 ho1))
  have HO1:=hidden ho1
  have HS1:=hidden (HS.out w1 ho1)
  have HA:=hidden hA
  obtain ⟨n,hn⟩:∃ n,L.length=n:=⟨_,rfl⟩
  rw [hn] at hln hA HA ⊢
  have HN:=hidden hn
  clear h1 ho1 hv hA hcap hn
  go_wp2_with fail
  refine E'.out.mono ?_
  rintro e w2 ⟨he,rfl⟩
  by_cases hl:V.left
  · rw [if_pos hl,badV_eq] at he
    subst he
    have HL:=hidden hl
    clear hl
    go_wp2_with fail
    go_ret2
    refine ⟨?_,mo,?_,HO1.out.mono (by simp),.inl rfl⟩
    · rw [HR.out,if_pos HL.out]
      exact ⟨[],rfl,by simp,by simp⟩
    · rw [HR.out,if_pos HL.out]
      exact HS1.out
  · rw [if_neg hl] at he
    subst he
    have HL:=hidden hl
    clear hl
    have H0:Hid (VSt w2 w2 (voices (L.take 0)) (.slice none 0 0)):=⟨Below.refl _ _,World.ownsRow_nil _ _ _ _⟩
    go_wp2_with fail
    go_loopg [8,21] n (fun g u y wr=>∃ (i:Nat) (v:Value),i+g=n∧v=u∧y=.int .i64 (i:Int)∧Hid (VSt w2 wr (voices (L.take i)) v))
    case atStart=>exact ⟨0,_,by omega,rfl,rfl,H0⟩
    case round=>
      obtain ⟨i,v,hig,rfl,rfl,HV⟩:=hrel
      by_cases hi:i<n
      · have hiz:(i:Int)<(n:Int):=by omega
        obtain ⟨bb,oo,rfl,c0⟩:=(HA.out.below HV.out.bel).1 i (by have:=HN.out;omega)
        have hst:=int_snoc (L:=L) (i:=i) (by have:=HN.out;omega)
        have hvs:=voices_snoc (L.take i) (TM.dg L i)
        rw [← hst,List.length_take,HN.out,Nat.min_eq_left (by omega)] at hvs
        have hvl:(voices (L.take i)).length=i:=by rw [voices_len,List.length_take,HN.out];omega
        obtain ⟨x,hx⟩:∃ x,TM.dg L i=x:=⟨_,rfl⟩
        rw [hx] at c0 hvs
        obtain ⟨l,hll⟩:∃ l,voices (L.take i)=l:=⟨_,rfl⟩
        rw [hll] at hvs HV hvl
        have HVS:=hidden hvs
        have hbase:=HV.out.bel.size
        clear hst hvs hx hll
        go_wp2_with (at_builtin;refine wpList_append_own _ rfl _ _ 50 rfl w2.heap.size 83 i0 _ 2 16 Tryz.underlying50 hii hz0 hz1 hz2 rfl (by decide) _ l.length (Voice.vc l) rfl (HV.out.own.alloc _) ⟨wr.heap.size,0,none⟩ 1 1 [.int .i64 (i:Int),.int .i64 x] rfl rfl ?cc ?one ?b1 ?b2 ?b3 ?next)
        case cc=>exact lit2 _ _
        case one=>simp [Value.oneCell']
        case b1=>unfold maxLen;omega
        case b2=>omega
        case b3=>simp;omega
        case next=>
        intro v3 w4 hown hgrow _
        have HVn:Hid (VSt w2 w4 (voices (L.take (i+1))) v3):=by
          rw [HVS.out]
          exact HV.out.app (by rw [hvl];exact hown) hgrow
        clear hown hgrow hbase
        go_wp2_with fail
        go_roundg (n - (i+1))
        case measure=>omega
        case rel=>exact ⟨i+1,v3,by omega,rfl,by go_num,HVn⟩
      · have hiz:¬ (i:Int)<(n:Int):=by omega
        obtain rfl:i=n:=by omega
        have h9:=HV.out
        rw [List.take_of_length_le (by have:=HN.out;omega)] at h9
        have hs9:=HS1.out.below h9.bel
        have hvl:(voices L).length≤3001:=by rw [voices_len,HN.out];exact hln
        obtain ⟨av,cv,rfl,hVA,-,hcv,-⟩:=Voice.own_vs h9.own (by omega)
        have HH:=hidden (Voice.hear_calls vb _ cv mo av 2 S.sp S.f (voices L) wr hs9.vo HO.out.vo hVA)
        have HS9:=hidden hs9
        have HO9:=hidden (HO1.out.trans (Only.of_below h9.bel [b]))
        have c1:=hs9.cells.2.1
        have hsp:=(VO.inv_st HO.out.vo (voices L)).sp
        have hspb:-1≤VO.stS S.f S.sp (voices L)∧VO.stS S.f S.sp (voices L)≤200:=by
          rcases hsp with ⟨_,e⟩ | ⟨e1,e2,_⟩<;>omega
        generalize (voices L).length=nv at HH
        generalize hf:VO.hf S.f (voices L)=f at HH HR
        generalize hsS:VO.stS S.f S.sp (voices L)=sp at HH HR hspb
        generalize hsF:VO.stF S.f (voices L)=sf at HH HR
        have HSPB:=hidden hspb
        clear h9 hs9 hvl hVA hcv hsp hf hsS hsF hspb
        go_wp2_with fail
        refine HH.out.mono ?_
        rintro e w5 ⟨rfl,mo',hv5,ho5,hm5⟩
        have HS5:=hidden (HS9.out.setV hv5 ho5)
        have HO5:Hid (Only [b,wb,vb,lb] w w5):=hidden ((HO9.out.mono (by simp)).trans (ho5.mono (by simp)))
        have c5:=HS5.out.cells.2.1
        have P:=hidden (Voice.speaker_calls vb sp w5 hv5.cells.2.1)
        have g5:GW ea w5:=(G.out wr HO9.out).only ho5 (fun x hx=>by
          have h2:=HLO.out.2.2.1
          simp at hx;omega)
        have I:=hidden (itoa_calls ea sp w5 g5 (by have:=HSPB.out;omega) (by have:=HSPB.out;omega))
        have HM5:Hid (mo'=mo∨∃ m,mo'=some m∧w.heap.size≤m):=hidden (by
          rcases hm5 with h | ⟨m,h1,h2⟩
          · exact .inl h
          · exact .inr ⟨m,h1,Nat.le_trans HO9.out.2.2.2.1 h2⟩)
        clear hv5 ho5 hm5 g5
        go_wp2_with fail
        refine P.out.mono ?_
        rintro e w6 ⟨rfl,rfl⟩
        go_wp2_with fail
        refine I.out.mono ?_
        rintro e w7 ⟨rfl,hb7⟩
        have HS7:=hidden (HS5.out.below hb7)
        have HO7:=hidden (HO5.out.trans (Only.of_below hb7 [b,wb,vb,lb]))
        clear hb7
        go_wp2_with fail
        go_ret2
        refine ⟨?_,mo',?_,HO7.out,HM5.out⟩
        · rw [HR.out,if_neg HL.out]
          have hx:=itoa_len (n:=sp) (by have:=HSPB.out;omega) (by have:=HSPB.out;omega)
          by_cases h0:f=0
          · subst h0
            rw [An.of_ok rfl]
            exact ⟨_,rfl,by simp,hx⟩
          · simp only
            rw [An.of_err h0]
            exact ⟨_,by rw [Voice.errv_pos h0];rfl,by simp,hx⟩
        · rw [HR.out,if_neg HL.out]
          exact HS7.out
end Go.Proofs.YtlppdppddiecnaaGreatDoor.Run
