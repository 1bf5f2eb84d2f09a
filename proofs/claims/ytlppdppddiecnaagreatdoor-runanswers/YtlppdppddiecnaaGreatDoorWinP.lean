/-
  What NewWindow and the methods of package serial's Window return, and what they leave in memory. Their condition: the window holds numbers that a window may hold.
-/
import Derived.Test.YtlppdppddiecnaaGreatDoorSerialP
import Derived.Test.YtlppdppddiecnaaGreatDoorMathAll
import Derived.Deep.QuietTactic
import Derived.BigQuiet
import Derived.Laws.Shifts
import Derived.Outline
namespace Go.Proofs.YtlppdppddiecnaaGreatDoor.Win
open Go.ChangeShapes Go.WideShapes Go.ChangeAt Go.RowKit
set_option linter.unusedVariables false

theorem setCell_drewN (w:World) (n:Nat) (a:Addr) (v:Value):(w.drewN n).setCell a v=(w.setCell a v).drewN n:=rfl
theorem ret_bool {a b:Bool} (h:a=b):Ending.returned (.bool a)=.returned (.bool b):=by rw [h]

set_option maxHeartbeats 400000 in
theorem has_calls (b:Nat) (n T y:Int) (s:Nat) (w:World) (h0:w.cell? ⟨b,0,none⟩=some (.int .i64 n)) (h1:w.cell? ⟨b,1,none⟩=some (.int .i64 T)) (h2:w.cell? ⟨b,2,none⟩=some (.int .u64 s))
    (hn0:1≤n) (hn1:n≤64) (hT0:-1≤T) (hT1:T≤1099511627776) (hs:s<18446744073709551616) :
    Calls Tryz.prog 109 #[.pointer (some ⟨b,0,none⟩),.int .i64 y] w fun e w'=>e=.returned (.bool (hasW n T s y))∧∃ k,w'=w.drewN k:=by
  by_cases hy:y<0
  · rw [show hasW n T s y=false by simp [hasW];omega]
    have d0:decide (y<0)=true:=by simpa using hy
    go_enter Tryz.func109,Tryz.ntmps109
    go_wp2_with fail
    go_quiet (fail)
    go_wp2_with fail
    go_ret
    exact ⟨rfl,_,rfl⟩
  · have d0:decide (y<0)=false:=by simpa using hy
    by_cases hT:T<y
    · rw [show hasW n T s y=false by simp [hasW];omega]
      have d1:decide (T<y)=true:=by simpa using hT
      go_enter Tryz.func109,Tryz.ntmps109
      go_wp2_with fail
      go_quiet (fail)
      go_wp2_with fail
      go_ret
      exact ⟨rfl,_,rfl⟩
    · have d1:decide (T<y)=false:=by simpa using hT
      by_cases hn:n≤T - y
      · rw [show hasW n T s y=false by simp [hasW];omega]
        have d2:decide (n≤T - y)=true:=by simpa using hn
        go_enter Tryz.func109,Tryz.ntmps109
        go_wp2_with fail
        go_quiet (fail)
        go_wp2_with fail
        go_ret
        exact ⟨rfl,_,rfl⟩
      · have d2:decide (n≤T - y)=false:=by simpa using hn
        have HF:Hid (hasW n T s y=(bits .and .u64 ((s:Int) / 2 ^ (T - y).toNat) 1==1)):=by
          show _=_
          rw [and_bit s _ hs];simp [hasW];omega
        go_enter Tryz.func109,Tryz.ntmps109
        go_wp2_with fail
        go_quiet (fail)
        go_wp2_with fail
        go_quiet (fail)
        go_wp2_with fail
        go_ret
        exact ⟨ret_bool HF.out.symm,_,World.drewN_drewN _ _ _⟩

set_option maxHeartbeats 400000 in
theorem rise_calls (b:Nat) (n T y:Int) (s:Nat) (w:World) (h0:w.cell? ⟨b,0,none⟩=some (.int .i64 n)) (h1:w.cell? ⟨b,1,none⟩=some (.int .i64 T)) (h2:w.cell? ⟨b,2,none⟩=some (.int .u64 s))
    (f1:w.frozen? ⟨b,1,none⟩=false) (f2:w.frozen? ⟨b,2,none⟩=false)
    (hT0:-1≤T) (hT1:T<y) (hy1:y≤1099511627776) :
    Calls Tryz.prog 108 #[.pointer (some ⟨b,0,none⟩),.int .i64 y] w fun e w'=>e=.returned (.tuple #[])∧∃ k,w'=((w.setCell ⟨b,2,none⟩ (.int .u64 (riseS s (y - T).toNat))).setCell ⟨b,1,none⟩ (.int .i64 y)).drewN k:=by
  obtain ⟨X,hsh,HF⟩:∃ X,Op.shift .shl .u64 (s:Int) .i64 (y - T)=pure (.int .u64 X)∧Hid (bits .or .u64 X 1=(riseS s (y - T).toNat:Int)):=
    ⟨_,shift_shl_any .u64 .i64 (s:Int) (y - T) (by omega),rise_bits s _⟩
  go_enter Tryz.func108,Tryz.ntmps108
  go_wp2_with fail
  go_region
  go_wp2_with fail
  go_end0
  exact ⟨rfl,1,by rw [HF.out];rfl⟩

theorem new_ok (n:Int) (w:World) (h0:1≤n) (h1:n≤64) :
    Calls Tryz.prog 38 #[.int .i64 n] w fun e w'=>e=.returned (.tuple #[.pointer (some ⟨w.heap.size,0,none⟩),.nilIface])∧w'=w.alloc (.cells #[.int .i64 n,.int .i64 (-1),.int .u64 0] 126):=by
  go_enter Tryz.func38,Tryz.ntmps38
  go_wp2_with fail
  go_ret2
  exact ⟨rfl,rfl⟩
theorem new_err (n:Int) (w:World) (h:n<1∨64<n) :
    Calls Tryz.prog 38 #[.int .i64 n] w fun e w'=>e=.returned (.tuple #[.pointer none,.iface 107 (.int .i64 1)])∧w'=w:=by
  by_cases c:n<1
  · clear h
    go_enter Tryz.func38,Tryz.ntmps38
    go_wp2_with fail
    go_ret2
    exact ⟨rfl,rfl⟩
  · have c':64<n:=by omega
    clear h
    go_enter Tryz.func38,Tryz.ntmps38
    go_wp2_with fail
    go_ret2
    exact ⟨rfl,rfl⟩

theorem add_long (b:Nat) (y:Int) (w:World) (h:y<0∨1099511627776<y) :
    Calls Tryz.prog 80 #[.pointer (some ⟨b,0,none⟩),.int .i64 y] w fun e w'=>e=.returned (.tuple #[.bool false,.iface 107 (.int .i64 1)])∧w'=w:=by
  have H:Hid (y<0∨1099511627776<y):=h
  clear h
  go_enter Tryz.func80,Tryz.ntmps80
  go_wp2_with fail
  refine (Ser.isLong_no _ _ H.out).mono ?_
  rintro e w' ⟨rfl,rfl⟩
  go_wp2_with fail
  go_ret2
  exact ⟨rfl,rfl⟩

set_option maxHeartbeats 400000 in
theorem add_old (b:Nat) (n T y:Int) (w:World) (h0:w.cell? ⟨b,0,none⟩=some (.int .i64 n)) (h1:w.cell? ⟨b,1,none⟩=some (.int .i64 T))
    (hn0:1≤n) (hn1:n≤64) (hT0:-1≤T) (hT1:T≤1099511627776) (hy0:0≤y) (hy1:y≤1099511627776) (ho:n≤T - y) :
    Calls Tryz.prog 80 #[.pointer (some ⟨b,0,none⟩),.int .i64 y] w fun e w'=>e=.returned (.tuple #[.bool false,.iface 107 (.int .i64 6)])∧∃ k,w'=w.drewN k:=by
  go_enter Tryz.func80,Tryz.ntmps80
  go_wp2_with fail
  refine (Ser.isLong_yes _ _ hy0 hy1).mono ?_
  rintro e w' ⟨rfl,rfl⟩
  go_wp2_with fail
  go_quiet (fail)
  go_wp2_with fail
  go_ret2
  exact ⟨rfl,_,rfl⟩

set_option maxHeartbeats 400000 in
theorem add_rise (b:Nat) (n T y:Int) (s:Nat) (w:World) (h0:w.cell? ⟨b,0,none⟩=some (.int .i64 n)) (h1:w.cell? ⟨b,1,none⟩=some (.int .i64 T)) (h2:w.cell? ⟨b,2,none⟩=some (.int .u64 s))
    (f1:w.frozen? ⟨b,1,none⟩=false) (f2:w.frozen? ⟨b,2,none⟩=false)
    (hn0:1≤n) (hn1:n≤64) (hT0:-1≤T) (hT1:T<y) (hy0:0≤y) (hy1:y≤1099511627776) :
    Calls Tryz.prog 80 #[.pointer (some ⟨b,0,none⟩),.int .i64 y] w fun e w'=>e=.returned (.tuple #[.bool true,.nilIface]) ∧
      ∃ k,w'=((w.setCell ⟨b,2,none⟩ (.int .u64 (riseS s (y - T).toNat))).setCell ⟨b,1,none⟩ (.int .i64 y)).drewN k:=by
  have hx:¬ n≤T - y:=by omega
  go_enter Tryz.func80,Tryz.ntmps80
  go_wp2_with fail
  refine (Ser.isLong_yes _ _ hy0 hy1).mono ?_
  rintro e w' ⟨rfl,rfl⟩
  go_wp2_with fail
  go_quiet (fail)
  go_wp2_with fail
  refine (rise_calls b n T y s _ (by exact h0) (by exact h1) (by exact h2) (by exact f1) (by exact f2) hT0 hT1 hy1).mono ?_
  rintro e w' ⟨rfl,k,rfl⟩
  go_wp2_with fail
  go_ret2
  exact ⟨rfl,nq+k,by simp only [setCell_drewN,World.drewN_drewN]⟩

set_option maxHeartbeats 400000 in
theorem add_in (b:Nat) (n T y:Int) (s:Nat) (w:World) (h0:w.cell? ⟨b,0,none⟩=some (.int .i64 n)) (h1:w.cell? ⟨b,1,none⟩=some (.int .i64 T)) (h2:w.cell? ⟨b,2,none⟩=some (.int .u64 s))
    (f2:w.frozen? ⟨b,2,none⟩=false)
    (hn0:1≤n) (hn1:n≤64) (hT0:-1≤T) (hT1:y≤T) (hT2:T≤1099511627776) (hi:T - n<y) (hy0:0≤y) (hs:s<18446744073709551616) :
    Calls Tryz.prog 80 #[.pointer (some ⟨b,0,none⟩),.int .i64 y] w fun e w'=>e=.returned (.tuple #[.bool (!hasW n T s y),.nilIface]) ∧
      ∃ k,w'=(w.setCell ⟨b,2,none⟩ (.int .u64 ((s ||| 2 ^ (T - y).toNat:Nat):Int))).drewN k:=by
  have hx:¬ n≤T - y:=by omega
  have hy1:y≤1099511627776:=by omega
  have HF:Hid (bits .or .u64 (s:Int) (IntKind.u64.wrap (2 ^ (T - y).toNat))=((s ||| 2 ^ (T - y).toNat:Nat):Int)):=by
    have h:=add_bits s (T - y).toNat hs (by omega)
    rw [show min (T - y).toNat 64=(T - y).toNat by omega,Int.one_mul] at h
    exact h
  go_enter Tryz.func80,Tryz.ntmps80
  go_wp2_with fail
  refine (Ser.isLong_yes _ _ hy0 hy1).mono ?_
  rintro e w' ⟨rfl,rfl⟩
  go_wp2_with fail
  go_quiet (fail)
  go_wp2_with fail
  refine (has_calls b n T y s _ (by exact h0) (by exact h1) (by exact h2) hn0 hn1 hT0 hT2 hs).mono ?_
  rintro e w' ⟨rfl,k,rfl⟩
  go_wp2_with fail
  go_region
  go_wp2_with fail
  go_ret2
  exact ⟨rfl,nq+k+1,by rw [HF.out];rfl⟩
end Go.Proofs.YtlppdppddiecnaaGreatDoor.Win

