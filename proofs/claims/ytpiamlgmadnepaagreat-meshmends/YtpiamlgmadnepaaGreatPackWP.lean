/-
 What the functions Check and Encode of package pack return, and what they make. They change nothing that was there.
-/
import Derived.Test.YtpiamlgmadnepaaGreatPackRP
open Go.Proofs.Tryz
set_option linter.unusedVariables false
set_option maxHeartbeats 1000000
set_option maxRecDepth 100000
namespace Go.Proofs.YtpiamlgmadnepaaGreat.Pack
open Go.ChangeShapes Go.WideShapes Go.ChangeAt Go.RowKit PM Mem
theorem ξA (x m:Int) (w:World):Calls prog 103 #[.int .i64 x,.int .i64 m] w fun e w'=>e=.returned (.bool (decide (0<=x/\x<=m)))/\w'=w:=by
 by_cases h:0<=x
 ·have d:decide (0<=x)=true:=by simpa using h
  go_enter func103,ntmps103
  go_wp2_with fail
  go_ret
  exact ⟨by simp [h],rfl⟩
 ·have d:decide (0<=x)=false:=by simpa using h
  go_enter func103,ntmps103
  go_wp2_with fail
  go_ret
  exact ⟨by simp,rfl⟩
theorem ξe (s t l v:Int) (st:Bool) (a:Option Addr) (n cap:Nat) (w:World) :
 Calls prog 59 #[.agg #[.int .i64 s,.int .i64 t,.int .i64 l,.int .i64 v,.bool st,.slice a n cap]] w fun e w'=>e=.returned (errv (fault s t l v n))/\Below w.heap.size w w':=by
 have C1:=fun w=>ξA s 65535 w
 have C2:=fun w=>ξA t 4294967295 w
 have C3:=fun w=>ξA l 3 w
 have C4:=fun w=>ξA v 127 w
 have hf:fault s t l v n=if decide (0<=s/\s<=65535)&&decide (0<=t/\t<=4294967295)&&decide (0<=l/\l<=3)&&decide (0<=v/\v<=127) then (if n<=1000 then 0 else 4) else 1:=by
  unfold fault;simp only [Bool.and_eq_true,decide_eq_true_eq,and_assoc]
 generalize decide (0<=s/\s<=65535)=b1 at *
 generalize decide (0<=t/\t<=4294967295)=b2 at *
 generalize decide (0<=l/\l<=3)=b3 at *
 generalize decide (0<=v/\v<=127)=b4 at *
 rw [hf];have H1:=ξ0 C1
 have H2:=ξ0 C2
 have H3:=ξ0 C3
 have H4:=ξ0 C4
 clear C1 C2 C3 C4 hf;cases b1 with
 | false=>
   go_enter func59,ntmps59
   go_wp2_with fail
   refine (H1.out _).mono ?_
   rintro e w ⟨rfl,rfl⟩;go_wp2_with fail
   go_ret
   exact ⟨rfl,(Ξp _ _).alloc (Ξo _) _⟩
 | true=>
 cases b2 with
 | false=>
   go_enter func59,ntmps59
   go_wp2_with fail
   refine (H1.out _).mono ?_
   rintro e w ⟨rfl,rfl⟩;go_wp2_with fail
   refine (H2.out _).mono ?_
   rintro e w ⟨rfl,rfl⟩;go_wp2_with fail
   go_ret
   exact ⟨rfl,(Ξp _ _).alloc (Ξo _) _⟩
 | true=>
 cases b3 with
 | false=>
   go_enter func59,ntmps59
   go_wp2_with fail
   refine (H1.out _).mono ?_
   rintro e w ⟨rfl,rfl⟩;go_wp2_with fail
   refine (H2.out _).mono ?_
   rintro e w ⟨rfl,rfl⟩;go_wp2_with fail
   refine (H3.out _).mono ?_
   rintro e w ⟨rfl,rfl⟩;go_wp2_with fail
   go_ret
   exact ⟨rfl,(Ξp _ _).alloc (Ξo _) _⟩
 | true=>
 cases b4 with
 | false=>
   go_enter func59,ntmps59
   go_wp2_with fail
   refine (H1.out _).mono ?_
   rintro e w ⟨rfl,rfl⟩;go_wp2_with fail
   refine (H2.out _).mono ?_
   rintro e w ⟨rfl,rfl⟩;go_wp2_with fail
   refine (H3.out _).mono ?_
   rintro e w ⟨rfl,rfl⟩;go_wp2_with fail
   refine (H4.out _).mono ?_
   rintro e w ⟨rfl,rfl⟩;go_wp2_with fail
   go_ret
   exact ⟨rfl,(Ξp _ _).alloc (Ξo _) _⟩
 | true=>
 by_cases p:n<=1000
 ·go_enter func59,ntmps59
  go_wp2_with fail
  refine (H1.out _).mono ?_
  rintro e w ⟨rfl,rfl⟩;go_wp2_with fail
  refine (H2.out _).mono ?_
  rintro e w ⟨rfl,rfl⟩;go_wp2_with fail
  refine (H3.out _).mono ?_
  rintro e w ⟨rfl,rfl⟩;go_wp2_with fail
  refine (H4.out _).mono ?_
  rintro e w ⟨rfl,rfl⟩;go_wp2_with fail
  go_ret
  exact ⟨by simp [errv],(Ξp _ _).alloc (Ξo _) _⟩
 ·go_enter func59,ntmps59
  go_wp2_with fail
  refine (H1.out _).mono ?_
  rintro e w ⟨rfl,rfl⟩;go_wp2_with fail
  refine (H2.out _).mono ?_
  rintro e w ⟨rfl,rfl⟩;go_wp2_with fail
  refine (H3.out _).mono ?_
  rintro e w ⟨rfl,rfl⟩;go_wp2_with fail
  refine (H4.out _).mono ?_
  rintro e w ⟨rfl,rfl⟩;go_wp2_with fail
  go_ret
  exact ⟨by simp [errv],(Ξp _ _).alloc (Ξo _) _⟩
theorem ξ1S (s t l v:Nat) (st:Bool) (a:Option Addr) (n cap:Nat) (L:List Nat) (w:World) (h:Arg w a n L) (hn:a=none->n=0/\cap=0) (hs:s<=65535) (ht:t<=4294967295) (hl:l<=3) (hv:v<=127) (hb:n<=1000) :
 Calls prog 24 #[.agg #[.int .i64 (s:Int),.int .i64 (t:Int),.int .i64 (l:Int),.int .i64 (v:Int),.bool st,.slice a n cap]] w fun e w'=>∃ g,e=.returned (.tuple #[.slice (some ⟨g,0,none⟩) (8+n) (8+n),.nilIface])/\w.heap.size<=g/\Row w' g (head s t l v st++L)/\Below w.heap.size w w':=by
 have C:=fun w=>ξe s t l v st a n cap w
 have hf:fault s t l v n=0:=by
  unfold fault;rw [if_pos (by omega),if_pos hb]
 rw [hf,ξ4] at C;have HC:=ξ0 C
 have HA:=ξ0 h
 have HN:=ξ0 hn
 obtain ⟨i0,hii,hz0,hz1,hz2⟩:=info_parts info5;obtain ⟨o1,o2'⟩:=ξcY hl;have o2:bits .or .i64 (128+(l:Int)) 32=160+(l:Int):=by
  rw [show (128+(l:Int))=((128+l:Nat):Int) by omega,o2'];omega
 clear o2';clear C h hn hf;go_enter func24,ntmps24
 go_wp2_with fail
 refine (HC.out _).mono ?_
 rintro e w1 ⟨rfl,hb1⟩;have HX:=ξ0 ((Box.new w s t l v st (.slice a n cap)).below hb1 (by simp))
 have HB:=ξ0 (ξs hb1)
 have hlt:w.heap.size<w1.heap.size:=HX.out.lt
 clear hb1;obtain ⟨c0,c1,c2,c3,c4,c5⟩:=HX.out.cells;go_upto_if 16 with fail
 go_cut [5] from 17 (fun x wx=>x=.int .i64 ((first l st:Nat):Int)/\wx=w1)
 case first=>
  cases st with
  | true=>
    go_wp2_with fail
    go_meet
    exact ⟨congrArg (Value.int .i64) (by simp [first];omega),rfl⟩
  | false=>
    go_wp2_with fail
    go_meet
    exact ⟨congrArg (Value.int .i64) (by simp [first]),rfl⟩
 case rest=>
 obtain ⟨rfl,rfl⟩:=hcut;have hfl:first l st<256:=ξcZ st hl
 generalize hfe:first l st=f at *
 go_wp2_with (at_make;refine wpList_make_own _ rfl _ _ 36 rfl w.heap.size 5 i0 (.int .u8 0) 1 underlying36 hii hz0 hz1 _ _ _ (8+n) rfl rfl ?mC ?mb ?mm ?mbase ?mnext)
 case mC=>simp
 case mb=>rw [hz2];omega
 case mm=>unfold maxLen;omega
 case mbase=>exact HB.out.size
 case mnext=>
 intro w2 hown hgrow;have HB2:=ξ0 (HB.out.grown hgrow HB.out.size (by simp))
 have HX2:=ξ0 (HX.out.grown hgrow (by simp))
 have HO:=ξ0 hown
 have hlt2:wc.heap.size<=w2.heap.size:=hgrow.size
 clear hown hgrow HX c0 c1 c2 c3 c4 c5 o1 o2;obtain ⟨c0,c1,c2,c3,c4,c5⟩:=HX2.out.cells;go_wp2_with (at_builtin;refine wpList_append_fits_any _ rfl _ _ 36 rfl w.heap.size 5 i0 1 underlying36 hii hz1 wc.heap.size 0 (8+n) [] ?bs ?bo (some ⟨w2.heap.size,0,none⟩) 2 2 (cellsOf [f,v]) rfl rfl ?bn ?bc (cells_one _) ?b1 ?bnext)
 case bs=>simp [Act.eval]
 case bo=>exact HO.out.alloc _
 case bn=>intro h;simp at h
 case bc=>rw [blk2 (a:=f) (b:=v) (by omega) (by omega)];exact ξz ((Row.new w2 [f,v]).bys (by simp;omega))
 case b1=>omega
 case bnext=>
 intro w3 hown hgrow;have HB3:=ξ0 ((HB2.out.alloc HB2.out.size _).grown hgrow (by have:=HB2.out.size;simp;omega) (by intro k hk;simp at hk;omega))
 have HX3:=ξ0 ((HX2.out.alloc _).grown hgrow (by simp;omega))
 have HO3:Hid (w3.ownsRow w.heap.size 5 1 (.slice (some ⟨wc.heap.size,0,none⟩) 2 (8+n)) 2 (cellsOf [f,v])):=ξ2T (L:=[]) hown rfl rfl
 clear hown hgrow HX2 HB2 HO c0 c1 c2 c3 c4 c5;obtain ⟨c0,c1,c2,c3,c4,c5⟩:=HX3.out.cells;go_wp2_with (at_builtin;refine wpList_append_fits_any _ rfl _ _ 36 rfl w.heap.size 5 i0 1 underlying36 hii hz1 wc.heap.size 2 (8+n) (cellsOf [f,v]) ?bs ?bo (some ⟨w3.heap.size,0,none⟩) 2 2 (cellsOf [s / 256,s%256]) rfl rfl ?bn ?bc (cells_one _) ?b1 ?bnext)
 case bs=>simp [Act.eval]
 case bo=>exact HO3.out.alloc _
 case bn=>intro h;simp at h
 case bc=>rw [blk2 (a:=s / 256) (b:=s%256) (by omega) (by omega)];exact ξz ((Row.new w3 [s / 256,s%256]).bys (by simp;omega))
 case b1=>omega
 case bnext=>
 intro w4 hown hgrow;have HB4:=ξ0 ((HB3.out.alloc HB3.out.size _).grown hgrow (by have:=HB3.out.size;simp;omega) (by intro k hk;simp at hk;omega))
 have HX4:=ξ0 ((HX3.out.alloc _).grown hgrow (by simp;omega))
 have HO4:Hid (w4.ownsRow w.heap.size 5 1 (.slice (some ⟨wc.heap.size,0,none⟩) 4 (8+n)) 4 (cellsOf [f,v,s / 256,s%256])):=ξ2T (L:=[f,v]) hown rfl rfl
 clear hown hgrow HX3 HB3 HO3 c0 c1 c2 c3 c4 c5;obtain ⟨c0,c1,c2,c3,c4,c5⟩:=HX4.out.cells;go_wp2_with (at_builtin;refine wpList_append_fits_any _ rfl _ _ 36 rfl w.heap.size 5 i0 1 underlying36 hii hz1 wc.heap.size 4 (8+n) (cellsOf [f,v,s / 256,s%256]) ?bs ?bo (some ⟨w4.heap.size,0,none⟩) 4 4 (cellsOf [t / 16777216,t / 65536%256,t / 256%256,t%256]) rfl rfl ?bn ?bc (cells_one _) ?b1 ?bnext)
 case bs=>simp [Act.eval]
 case bo=>exact HO4.out.alloc _
 case bn=>intro h;simp at h
 case bc=>rw [blk4 (a:=t / 16777216) (b:=t / 65536%256) (c:=t / 256%256) (d:=t%256) (by omega) (by omega) (by omega) (by omega)];exact ξz ((Row.new w4 [t / 16777216,t / 65536%256,t / 256%256,t%256]).bys (by simp;omega))
 case b1=>omega
 case bnext=>
 intro w5 hown hgrow;have HB5:=ξ0 ((HB4.out.alloc HB4.out.size _).grown hgrow (by have:=HB4.out.size;simp;omega) (by intro k hk;simp at hk;omega))
 have HX5:=ξ0 ((HX4.out.alloc _).grown hgrow (by simp;omega))
 have HO5:Hid (w5.ownsRow w.heap.size 5 1 (.slice (some ⟨wc.heap.size,0,none⟩) 8 (8+n)) 8 (cellsOf (head s t l v st))):=ξ2T (L:=[f,v,s / 256,s%256]) hown rfl (by unfold head;rw [hfe];rfl)
 clear hown hgrow HX4 HB4 HO4 c0 c1 c2 c3 c4 c5;obtain ⟨c0,c1,c2,c3,c4,c5⟩:=HX5.out.cells;go_wp2_with (at_builtin;refine wpList_append_fits_any _ rfl _ _ 36 rfl w.heap.size 5 i0 1 underlying36 hii hz1 wc.heap.size 8 (8+n) (cellsOf (head s t l v st)) ?bs HO5.out a n cap (cellsOf L) rfl ?al HN.out ?bc (cells_one _) (Ξo _) ?bnext)
 case bs=>simp [Act.eval]
 case al=>rw [ξv,HA.out.2.1];omega
 case bc=>exact ξz (HA.out.1.below HB5.out)
 case bnext=>
 intro w6 hown hgrow;have HB6:=ξ0 (HB5.out.grown hgrow HB5.out.size (by intro k hk;simp at hk;omega))
 rw [<- ξ1u] at hown;have HR:=ξ0 (ξ4Z hown)
 clear hown hgrow;go_wp2_with fail
 go_ret2
 exact ⟨_,rfl,by omega,HR.out,HB6.out⟩
end Go.Proofs.YtpiamlgmadnepaaGreat.Pack
