/-
  PackMath, PackA, PackB, PackC in one text.
-/
import Derived.WalkKit
import Derived.Test.YtlppdppddiecnaaGreatDoorMemP
import Derived.Test.YtlppdppddiecnaaGreatDoorRows
import Derived.ProofKit
import Derived.OpenShut
import Derived.ChangeOld
import Derived.Below
import Derived.Deep.QuietTactic
import Derived.BigQuiet
import Derived.Laws.AppendOwnNone
import Derived.WalkSmall
import Derived.WalkSpells
import Derived.LoopTactic
import Derived.Laws.BitsAllLaws
import Derived.Deep.Cut
import Derived.Deep.RegionHeld3

set_option linter.unusedVariables false
namespace Go.Proofs.YtlppdppddiecnaaGreatDoor.PM

def fault (seq time layer level:Int) (n:Nat):Nat:=
  if 0≤seq∧seq≤65535∧0≤time∧time≤4294967295∧0≤layer∧layer≤3∧0≤level∧level≤127 then (if n≤1000 then 0 else 4) else 1
theorem fault_zero {seq time layer level:Int} {n:Nat} (h:fault seq time layer level n=0):∃ s t l v:Nat,seq=s∧time=t∧layer=l∧level=v∧s≤65535∧t≤4294967295∧l≤3∧v≤127∧n≤1000:=by
  unfold fault at h
  split at h
  · rename_i hh
    split at h
    · exact ⟨seq.toNat,time.toNat,layer.toNat,level.toNat,by omega,by omega,by omega,by omega,by omega,by omega,by omega,by omega,by omega⟩
    · omega
  · omega
theorem fault_cases (seq time layer level:Int) (n:Nat):fault seq time layer level n=0∨fault seq time layer level n=1∨fault seq time layer level n=4:=by
  unfold fault
  split
  · split<;>simp
  · simp

def first (layer:Nat) (start:Bool):Nat:=128+layer+(if start then 32 else 0)
def head (seq time layer level:Nat) (start:Bool):List Nat:=
  [first layer start,level,seq / 256,seq%256,time / 16777216,time / 65536%256,time / 256%256,time%256]
theorem head_len (seq time layer level:Nat) (start:Bool):(head seq time layer level start).length=8:=rfl
theorem head_lt {seq time layer level:Nat} (start:Bool) (hs:seq≤65535) (ht:time≤4294967295) (hl:layer≤3) (hv:level≤127):∀ c∈head seq time layer level start,c<256:=by
  intro c hc
  simp only [head,List.mem_cons,List.not_mem_nil,or_false] at hc
  rcases hc with rfl | rfl | rfl | rfl | rfl | rfl | rfl | rfl
  · unfold first;split<;>omega
  all_goals omega

def good (x:Nat):Bool:=(decide (128≤x)&&decide (x≤131))||(decide (160≤x)&&decide (x≤163))
def rfault (B:List Nat):Nat:=
  if B.length<8 then 8 else if good (B.getD 0 0)&&decide (B.getD 1 0≤127) then (if B.length≤1008 then 0 else 4) else 2
theorem eight {B:List Nat} (h:8≤B.length):∃ x0 x1 x2 x3 x4 x5 x6 x7 R,B=x0::x1::x2::x3::x4::x5::x6::x7::R:=by
  match B,h with
  | x0::x1::x2::x3::x4::x5::x6::x7::R,_=>exact ⟨x0,x1,x2,x3,x4,x5,x6,x7,R,rfl⟩
theorem rfault_short {B:List Nat} (h:B.length<8):rfault B=8:=by unfold rfault;rw [if_pos h]
theorem rfault_eight (x0 x1 x2 x3 x4 x5 x6 x7:Nat) (R:List Nat) :
    rfault (x0::x1::x2::x3::x4::x5::x6::x7::R)=if good x0&&decide (x1≤127) then (if R.length≤1000 then 0 else 4) else 2:=by
  unfold rfault
  simp only [List.length_cons,List.getD_cons_zero,List.getD_cons_succ]
  rw [if_neg (by omega)]
  by_cases h:R.length≤1000
  · rw [if_pos (by omega:R.length+1+1+1+1+1+1+1+1≤1008),if_pos h]
  · rw [if_neg (by omega:¬ R.length+1+1+1+1+1+1+1+1≤1008),if_neg h]
theorem good_first {l:Nat} (s:Bool) (h:l≤3):good (first l s)=true:=by
  have:∀ l:Fin 4,∀ s:Bool,good (first l.val s)=true:=by decide
  exact this ⟨l,by omega⟩ s
theorem first_mod {l:Nat} (s:Bool) (h:l≤3):first l s%4=l:=by
  have:∀ l:Fin 4,∀ s:Bool,first l.val s%4=l.val:=by decide
  exact this ⟨l,by omega⟩ s
theorem first_start {l:Nat} (s:Bool) (h:l≤3):decide (160≤first l s)=s:=by
  have:∀ l:Fin 4,∀ s:Bool,decide (160≤first l.val s)=s:=by decide
  exact this ⟨l,by omega⟩ s
theorem first_lt {l:Nat} (s:Bool) (h:l≤3):first l s<256:=by unfold first;split<;>omega
theorem good_back {x:Nat} (h:good x=true):first (x%4) (decide (160≤x))=x∧x<256:=by
  have hx:x<164:=by
    simp only [good,Bool.or_eq_true,Bool.and_eq_true,decide_eq_true_eq] at h
    omega
  have:∀ x:Fin 164,good x.val=true→first (x.val%4) (decide (160≤x.val))=x.val:=by decide +kernel
  exact ⟨this ⟨x,hx⟩ h,by omega⟩
theorem read_head (seq time layer level:Nat) (start:Bool) (hs:seq≤65535) (ht:time≤4294967295) (hl:layer≤3) :
    ∃ x0 x1 x2 x3 x4 x5 x6 x7,head seq time layer level start=[x0,x1,x2,x3,x4,x5,x6,x7]∧x0%4=layer∧decide (160≤x0)=start∧good x0=true∧x1=level∧x2*256+x3=seq∧((x4*256+x5)*256+x6)*256+x7=time:=
  ⟨_,_,_,_,_,_,_,_,rfl,first_mod start hl,first_start start hl,good_first start hl,rfl,by omega,by omega⟩
theorem head_read {x0 x1 x2 x3 x4 x5 x6 x7:Nat} (h:good x0=true) (h3:x3<256) (h4:x4<256) (h5:x5<256) (h6:x6<256) (h7:x7<256) :
    head (x2*256+x3) (((x4*256+x5)*256+x6)*256+x7) (x0%4) x1 (decide (160≤x0))=[x0,x1,x2,x3,x4,x5,x6,x7]:=by
  simp only [head,(good_back h).1,List.cons.injEq,and_true,true_and]
  omega

def count (n size:Nat):Nat:=max 1 ((n+size - 1) / size)
theorem count_pos (n size:Nat):1≤count n size:=by unfold count;omega
theorem count_le {n size:Nat} (hs:1≤size) (hn:n≤1000):count n size≤1000:=by
  unfold count
  have:(n+size - 1) / size≤n:=by
    rcases Nat.eq_zero_or_pos n with h | h
    · subst h;rw [Nat.div_eq_of_lt (by omega)];omega
    · apply Nat.le_of_lt_succ;apply (Nat.div_lt_iff_lt_mul (by omega)).2
      have:=Nat.mul_le_mul (show 1≤size from hs) (Nat.le_refl n)
      rw [Nat.succ_mul,Nat.mul_comm n size];have:=Nat.mul_le_mul_right n hs;omega
  omega
theorem from_le {n size i:Nat} (hs:1≤size) (hi:i<count n size):i*size≤n:=by
  unfold count at hi
  rcases Nat.eq_zero_or_pos i with h | h
  · subst h;omega
  · have h2:i<(n+size - 1) / size:=by omega
    have h3:i+1≤(n+size - 1) / size:=h2
    have h4:=(Nat.le_div_iff_mul_le (by omega)).1 h3
    rw [Nat.succ_mul] at h4
    omega
theorem count_ends {n size:Nat} (hs:1≤size):n≤count n size*size:=by
  unfold count
  have h:=Nat.div_add_mod (n+size - 1) size
  have h2:=Nat.mod_lt (n+size - 1) (show 0<size by omega)
  have h3:=Nat.mul_le_mul_right size (Nat.le_max_right 1 ((n+size - 1) / size))
  rw [Nat.mul_comm] at h
  omega
theorem left_of_lt {n size i:Nat} (hs:1≤size) (hi:i<count n size) (h0:0<i):i*size<n:=by
  unfold count at hi
  have h3:i+1≤(n+size - 1) / size:=by omega
  have h4:=(Nat.le_div_iff_mul_le (by omega)).1 h3
  rw [Nat.succ_mul] at h4
  omega
def piece (L:List Nat) (size i:Nat):List Nat:=(L.drop (i*size)).take size
theorem piece_len (L:List Nat) (size i:Nat):(piece L size i).length=min size (L.length - i*size):=by simp [piece]
theorem piece_lt {L:List Nat} (h:∀ c∈L,c<256) (size i:Nat):∀ c∈piece L size i,c<256:=
  fun c hc=>h c (List.mem_of_mem_drop (List.mem_of_mem_take hc))
theorem take_piece (L:List Nat) (size i:Nat):L.take (i*size)++piece L size i=L.take ((i+1)*size):=by
  unfold piece
  rw [Nat.succ_mul,List.take_add]
end Go.Proofs.YtlppdppddiecnaaGreatDoor.PM
namespace Go.Proofs.YtlppdppddiecnaaGreatDoor.Pack
open Go.ChangeShapes Go.WideShapes Go.ChangeAt Go.RowKit Go.Proofs.YtlppdppddiecnaaGreatDoor.PM Go.Proofs.YtlppdppddiecnaaGreatDoor.Mem
set_option linter.unusedVariables false

theorem info5:(Tryz.prog.info? 5).map (fun i=>(i.zero,i.size,i.bytes))=some (some (.int .u8 0),1,1):=by kernel_rfl
def errv (e:Nat):Value:=if e=0 then .nilIface else .iface 107 (.int .i64 (e:Int))

theorem within_calls (x m:Int) (w:World):Calls Tryz.prog 183 #[.int .i64 x,.int .i64 m] w fun e w'=>e=.returned (.bool (decide (0≤x∧x≤m)))∧w'=w:=by
  by_cases h:0≤x
  · have d:decide (0≤x)=true:=by simpa using h
    go_enter Tryz.func183,Tryz.ntmps183
    go_wp2_with fail
    go_ret
    exact ⟨by simp [h],rfl⟩
  · have d:decide (0≤x)=false:=by simpa using h
    go_enter Tryz.func183,Tryz.ntmps183
    go_wp2_with fail
    go_ret
    exact ⟨by simp,rfl⟩

set_option maxHeartbeats 1000000 in
set_option maxRecDepth 100000 in
theorem check_calls (s t l v:Int) (st:Bool) (a:Option Addr) (n cap:Nat) (w:World) :
    Calls Tryz.prog 146 #[.agg #[.int .i64 s,.int .i64 t,.int .i64 l,.int .i64 v,.bool st,.slice a n cap]] w fun e w'=>e=.returned (errv (fault s t l v n))∧Below w.heap.size w w':=by
  have C1:=fun w=>within_calls s 65535 w
  have C2:=fun w=>within_calls t 4294967295 w
  have C3:=fun w=>within_calls l 3 w
  have C4:=fun w=>within_calls v 127 w
  have hf:fault s t l v n=if decide (0≤s∧s≤65535)&&decide (0≤t∧t≤4294967295)&&decide (0≤l∧l≤3)&&decide (0≤v∧v≤127) then (if n≤1000 then 0 else 4) else 1:=by
    unfold fault
    simp only [Bool.and_eq_true,decide_eq_true_eq,and_assoc]
  generalize decide (0≤s∧s≤65535)=b1 at *
  generalize decide (0≤t∧t≤4294967295)=b2 at *
  generalize decide (0≤l∧l≤3)=b3 at *
  generalize decide (0≤v∧v≤127)=b4 at *
  rw [hf]
  have H1:=hidden C1
  have H2:=hidden C2
  have H3:=hidden C3
  have H4:=hidden C4
  clear C1 C2 C3 C4 hf
  cases b1 with
  | false=>
    go_enter Tryz.func146,Tryz.ntmps146
    go_wp2_with fail
    refine (H1.out _).mono ?_
    rintro e w ⟨rfl,rfl⟩
    go_wp2_with fail
    go_ret
    exact ⟨rfl,(Below.refl _ _).alloc (Nat.le_refl _) _⟩
  | true=>
  cases b2 with
  | false=>
    go_enter Tryz.func146,Tryz.ntmps146
    go_wp2_with fail
    refine (H1.out _).mono ?_
    rintro e w ⟨rfl,rfl⟩
    go_wp2_with fail
    refine (H2.out _).mono ?_
    rintro e w ⟨rfl,rfl⟩
    go_wp2_with fail
    go_ret
    exact ⟨rfl,(Below.refl _ _).alloc (Nat.le_refl _) _⟩
  | true=>
  cases b3 with
  | false=>
    go_enter Tryz.func146,Tryz.ntmps146
    go_wp2_with fail
    refine (H1.out _).mono ?_
    rintro e w ⟨rfl,rfl⟩
    go_wp2_with fail
    refine (H2.out _).mono ?_
    rintro e w ⟨rfl,rfl⟩
    go_wp2_with fail
    refine (H3.out _).mono ?_
    rintro e w ⟨rfl,rfl⟩
    go_wp2_with fail
    go_ret
    exact ⟨rfl,(Below.refl _ _).alloc (Nat.le_refl _) _⟩
  | true=>
  cases b4 with
  | false=>
    go_enter Tryz.func146,Tryz.ntmps146
    go_wp2_with fail
    refine (H1.out _).mono ?_
    rintro e w ⟨rfl,rfl⟩
    go_wp2_with fail
    refine (H2.out _).mono ?_
    rintro e w ⟨rfl,rfl⟩
    go_wp2_with fail
    refine (H3.out _).mono ?_
    rintro e w ⟨rfl,rfl⟩
    go_wp2_with fail
    refine (H4.out _).mono ?_
    rintro e w ⟨rfl,rfl⟩
    go_wp2_with fail
    go_ret
    exact ⟨rfl,(Below.refl _ _).alloc (Nat.le_refl _) _⟩
  | true=>
  by_cases p:n≤1000
  · go_enter Tryz.func146,Tryz.ntmps146
    go_wp2_with fail
    refine (H1.out _).mono ?_
    rintro e w ⟨rfl,rfl⟩
    go_wp2_with fail
    refine (H2.out _).mono ?_
    rintro e w ⟨rfl,rfl⟩
    go_wp2_with fail
    refine (H3.out _).mono ?_
    rintro e w ⟨rfl,rfl⟩
    go_wp2_with fail
    refine (H4.out _).mono ?_
    rintro e w ⟨rfl,rfl⟩
    go_wp2_with fail
    go_ret
    exact ⟨by simp [errv],(Below.refl _ _).alloc (Nat.le_refl _) _⟩
  · go_enter Tryz.func146,Tryz.ntmps146
    go_wp2_with fail
    refine (H1.out _).mono ?_
    rintro e w ⟨rfl,rfl⟩
    go_wp2_with fail
    refine (H2.out _).mono ?_
    rintro e w ⟨rfl,rfl⟩
    go_wp2_with fail
    refine (H3.out _).mono ?_
    rintro e w ⟨rfl,rfl⟩
    go_wp2_with fail
    refine (H4.out _).mono ?_
    rintro e w ⟨rfl,rfl⟩
    go_wp2_with fail
    go_ret
    exact ⟨by simp [errv],(Below.refl _ _).alloc (Nat.le_refl _) _⟩

theorem ret_int {k:IntKind} {a b:Int} (h:a=b):Ending.returned (.int k a)=.returned (.int k b):=by rw [h]
theorem i64_wrap {n:Int} (h0:0≤n) (h1:n<9223372036854775808):IntKind.i64.wrap n=n:=by
  simp [IntKind.wrap,IntKind.bits,IntKind.signed];omega
theorem i64_or_nat (a b:Nat) (ha:a<9223372036854775808) (hb:b<9223372036854775808):bits .or .i64 (a:Int) (b:Int)=((a ||| b:Nat):Int):=by
  have hx:a ||| b<2 ^ 63:=Nat.or_lt_two_pow (by omega) (by omega)
  show IntKind.i64.wrap ((BitVec.ofInt 64 (a:Int) ||| BitVec.ofInt 64 (b:Int)).toNat:Int)=_
  rw [BitVec.toNat_or,ofInt_u64 a (by omega),ofInt_u64 b (by omega)]
  exact i64_wrap (by omega) (by omega)
theorem i64_and_nat (a b:Nat) (ha:a<9223372036854775808) (hb:b<9223372036854775808):bits .and .i64 (a:Int) (b:Int)=((a &&& b:Nat):Int):=by
  have hx:a &&& b<2 ^ 63:=Nat.and_lt_two_pow _ (by omega)
  show IntKind.i64.wrap ((BitVec.ofInt 64 (a:Int) &&& BitVec.ofInt 64 (b:Int)).toNat:Int)=_
  rw [BitVec.toNat_and,ofInt_u64 a (by omega),ofInt_u64 b (by omega)]
  exact i64_wrap (by omega) (by omega)
theorem on_eq (n c:Nat) (hn:n<16777216) (hc:c<256):bits .or .i64 (wrap64 ((n:Int)*256)) (c:Int)=((n*256+c:Nat):Int):=by
  have e:wrap64 ((n:Int)*256)=((n*256:Nat):Int):=by unfold wrap64;omega
  rw [e,i64_or_nat _ _ (by omega) (by omega),nat_join 8 _ c (by omega) (by omega)]
theorem on_zero (c:Nat) (hc:c<256):bits .or .i64 0 (c:Int)=(c:Int):=by
  have:=i64_or_nat 0 c (by omega) (by omega)
  rw [Nat.zero_or] at this
  exact this

theorem lay_eq {x:Nat} (hx:x<256):good x=(!(bits .and .u8 (x:Int) 128==0)&&!decide (3<bits .andNot .i64 (x:Int) 160)):=by
  have:∀ x:Fin 256,good x.val=(!(bits .and .u8 (x.val:Int) 128==0)&&!decide (3<bits .andNot .i64 (x.val:Int) 160)):=by decide +kernel
  exact this ⟨x,hx⟩
theorem lay_mod {x:Nat} (h:good x=true):bits .andNot .i64 (x:Int) 160=((x%4:Nat):Int)∧(bits .and .u8 (x:Int) 32==0)=!decide (160≤x):=by
  have hx:=(good_back h).2
  have:∀ x:Fin 256,good x.val=true→bits .andNot .i64 (x.val:Int) 160=((x.val%4:Nat):Int)∧(bits .and .u8 (x.val:Int) 32==0)=!decide (160≤x.val):=by decide +kernel
  exact this ⟨x,hx⟩ h
theorem first_or {l:Nat} (h:l≤3):bits .or .i64 128 (l:Int)=((128+l:Nat):Int)∧bits .or .i64 ((128+l:Nat):Int) 32=((128+l+32:Nat):Int):=by
  have:∀ l:Fin 4,bits .or .i64 128 (l.val:Int)=((128+l.val:Nat):Int)∧bits .or .i64 ((128+l.val:Nat):Int) 32=((128+l.val+32:Nat):Int):=by decide +kernel
  exact this ⟨l,by omega⟩

theorem errv_zero:errv 0=.nilIface:=rfl
theorem errv_pos {e:Nat} (h:e≠0):errv e=.iface 107 (.int .i64 (e:Int)):=by unfold errv;rw [if_neg h]

def Box (w:World) (g:Nat) (s t l v:Int) (st:Bool) (bv:Value):Prop:=w.heap[g]?=some (.cells #[.int .i64 s,.int .i64 t,.int .i64 l,.int .i64 v,.bool st,bv] 87 (0,0))
theorem Box.new (w:World) (s t l v:Int) (st:Bool) (bv:Value):Box (w.alloc (.cells #[.int .i64 s,.int .i64 t,.int .i64 l,.int .i64 v,.bool st,bv] 87)) w.heap.size s t l v st bv:=heap_alloc_new w _
theorem Box.below {w w':World} {g B:Nat} {s t l v:Int} {st:Bool} {bv:Value} (h:Box w g s t l v st bv) (hb:Below B w w') (hg:g<B):Box w' g s t l v st bv:=(hb.block g hg).trans h
theorem Box.lt {w:World} {g:Nat} {s t l v:Int} {st:Bool} {bv:Value} (h:Box w g s t l v st bv):g<w.heap.size:=lt_of_block h
theorem Box.grown {w w':World} {g:Nat} {s t l v:Int} {st:Bool} {bv:Value} {row:Option Nat} (h:Box w g s t l v st bv) (hg:w.grownBy w' row) (hr:row≠some g):Box w' g s t l v st bv:=
  (hg.block g h.lt (fun e=>hr e.symm)).trans h
theorem Box.alloc {w:World} {g:Nat} {s t l v:Int} {st:Bool} {bv:Value} (h:Box w g s t l v st bv) (o:Obj):Box (w.alloc o) g s t l v st bv:=(Below.heap_alloc _ _ _ h.lt).trans h
theorem Box.cells {w:World} {g:Nat} {s t l v:Int} {st:Bool} {bv:Value} (h:Box w g s t l v st bv) :
    w.cell? ⟨g,0,none⟩=some (.int .i64 s)∧w.cell? ⟨g,1,none⟩=some (.int .i64 t)∧w.cell? ⟨g,2,none⟩=some (.int .i64 l)∧w.cell? ⟨g,3,none⟩=some (.int .i64 v)∧w.cell? ⟨g,4,none⟩=some (.bool st)∧w.cell? ⟨g,5,none⟩=some bv:=by
  simp only [Box] at h
  simp [World.cell?,h]

theorem below_old {w w':World} {o:Obj} (h:Below (w.alloc o).heap.size (w.alloc o) w'):Below w.heap.size w w':=
  ((Below.refl _ _).alloc (Nat.le_refl _) o).trans (h.mono (by simp))

theorem own_next {w:World} {base m k:Nat} {v:Value} {L K R:List Nat} (h:w.ownsRow base 5 1 v m (cellsOf L++cellsOf K)) (hm:m=k) (hR:L++K=R):w.ownsRow base 5 1 v k (cellsOf R):=by
  rw [← cellsOf_app] at h
  rw [← hm,← hR];exact h
theorem own_first {w:World} {base g cap:Nat} {L:List Nat} {m:Nat} (h:w.ownsRow base 5 1 (.slice (some ⟨g,0,none⟩) m cap) m (cellsOf L)):w.ownsRow base 5 1 (.slice (some ⟨g,0,none⟩) m cap) m (cellsOf L):=h
theorem blk2 {x y:Int} {a b:Nat} (hx:x=(a:Int)) (hy:y=(b:Int)):(#[Value.int .u8 x,.int .u8 y]:Array Value)=(cellsOf [a,b]).toArray:=by rw [hx,hy];rfl
theorem blk4 {x y z u:Int} {a b c d:Nat} (hx:x=(a:Int)) (hy:y=(b:Int)) (hz:z=(c:Int)) (hu:u=(d:Int)):(#[Value.int .u8 x,.int .u8 y,.int .u8 z,.int .u8 u]:Array Value)=(cellsOf [a,b,c,d]).toArray:=by rw [hx,hy,hz,hu];rfl


theorem arg_at {w:World} {a:Option Addr} {n:Nat} {L:List Nat} (h:Arg w a n L) (hn:0<n):∃ b o,a=some ⟨b,o,none⟩:=by
  obtain ⟨b,o,e,_⟩:=h.1.2 0 (by have:=h.2.1;omega)
  exact ⟨b,o,e⟩
theorem arg_cell {w:World} {b o n:Nat} {L:List Nat} (h:Arg w (some ⟨b,o,none⟩) n L) (j:Nat) (hj:j<n):w.cell? ⟨b,o+j,none⟩=some (.int .u8 (L.getD j 0:Nat)):=by
  obtain ⟨b',o',e,hc⟩:=h.1.2 j (by have:=h.2.1;omega)
  simp only [Option.some.injEq,Addr.mk.injEq,and_true] at e
  obtain ⟨rfl,rfl⟩:=e
  exact hc

theorem cell_alloc {w:World} {p:Addr} {v:Value} (h:w.cell? p=some v) (o:Obj):(w.alloc o).cell? p=some v:=(((Below.refl _ _).alloc (Nat.le_refl _) o).cell (World.block_lt_of_cell? w p h)).trans h

end Go.Proofs.YtlppdppddiecnaaGreatDoor.Pack
