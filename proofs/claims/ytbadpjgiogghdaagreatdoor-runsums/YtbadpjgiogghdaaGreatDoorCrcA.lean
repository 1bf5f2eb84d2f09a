/-
  What the functions step, goOn and Sum of package crc return, of any word of 32 bits and any bytes. They change nothing. No condition but that.
-/
import Derived.Test.YtbadpjgiogghdaaGreatDoorRows
import Derived.Test.YtbadpjgiogghdaaGreatDoorCrcMath
import Derived.Test.YtbadpjgiogghdaaGreatDoorMem
import Derived.WalkKit
import Derived.ProofKit
import Derived.OpenShut
import Derived.WalkSpells
import Derived.LoopTactic
import Derived.OwnWalk
import Derived.Laws.BitsAllLaws
namespace Go.Proofs.YtbadpjgiogghdaaGreatDoor.Crc
open Go.ChangeShapes Go.WideShapes Go.ChangeAt Go.RowKit Go.Proofs.YtbadpjgiogghdaaGreatDoor.CM Go.Proofs.YtbadpjgiogghdaaGreatDoor.Mem

theorem ret_int {k : IntKind} {a b : Int} (h : a = b) : Ending.returned (.int k a) = .returned (.int k b) := by rw [h]

theorem u32_and1 (n : Nat) (h : n < 4294967296) : bits .and .u32 (n : Int) 1 = ((n % 2 : Nat) : Int) := by
  have := u32_and_nat n 1 h (by decide)
  rw [nat_mask1] at this
  exact this

theorem info5 : (Tryz.prog.info? 5).map (fun i => (i.zero, i.size, i.bytes)) = some (some (.int .u8 0), 1, 1) := by kernel_rfl
theorem elemBS : Tryz.prog.elem 32 = 5 := by kernel_rfl
theorem size5 (w : World) : (sizeOf 5).run Tryz.prog w = .ok 1 w := by
  obtain ⟨i, hi, _, hs, _⟩ := info_parts info5
  simp [sizeOf, typeInfo, hi, hs]
theorem undBS : Tryz.prog.underlying 32 = some (.slice (Tryz.prog.elem 32)) := by rw [elemBS]; exact Tryz.underlying32
/-- b[:n] -/
theorem cut_high (a : Option Addr) (len cap n : Nat) (h : n ≤ cap) (w : World) :
    (Instr.slice 32 (.slice a len cap) none (some (.int .i64 (n : Int))) none).run Tryz.prog w = .ok (.slice a n cap) w := by
  rw [run_slice_h w 32 a len cap undBS .i64 n (by omega) (by omega), elemBS, size5]
  simp [Result.andThen, sliced, Addr.add_zero']
/-- b[n:] -/
theorem cut_low (b o len cap n : Nat) (h : n ≤ len) (hn : n < cap) (w : World) :
    (Instr.slice 32 (.slice (some ⟨b, o, none⟩) len cap) (some (.int .i64 (n : Int))) none none).run Tryz.prog w = .ok (.slice (some ⟨b, o + n, none⟩) (len - n) (cap - n)) w := by
  rw [run_slice_l w 32 _ len cap undBS .i64 n (by omega) (by omega), elemBS, size5]
  have e : (⟨b, o, none⟩ : Addr).add n = ⟨b, o + n, none⟩ := by unfold Addr.add; split <;> simp_all
  simp [Result.andThen, sliced, e, show ¬ cap = n by omega]

set_option maxHeartbeats 400000 in
theorem step_calls (n : Nat) (w : World) (h : n < 4294967296) :
    Calls Tryz.prog 73 #[.int .u32 (n : Int)] w fun e w' => e = .returned (.int .u32 (st n : Nat)) ∧ w' = w := by
  have h1 := u32_and1 n h
  by_cases c : n % 2 = 1
  · have d0 : (bits .and .u32 (n : Int) 1 == 1) = true := by rw [h1, c]; rfl
    have e : st n = (n / 2) ^^^ T := by unfold st; rw [if_pos c]
    have H : Hid (bits .xor .u32 ((n / 2 : Nat) : Int) 3988292384 = ((st n : Nat) : Int)) := by
      rw [e]; exact u32_xor_nat (n / 2) T (by omega) T_lt
    clear h1 c e
    go_enter Tryz.func73, Tryz.ntmps73
    go_wp2_with fail
    go_ret
    exact ⟨ret_int (by simpa using H.out), rfl⟩
  · have d0 : (bits .and .u32 (n : Int) 1 == 1) = false := by rw [h1]; simp; omega
    have e : st n = n / 2 := by unfold st; rw [if_neg c]
    have H : Hid (st n = n / 2) := e
    clear h1 c e
    go_enter Tryz.func73, Tryz.ntmps73
    go_wp2_with fail
    go_ret
    exact ⟨ret_int (by rw [H.out]; simp), rfl⟩

theorem u32_turn (n : Nat) (h : n < 4294967296) : bits .xor .u32 4294967295 (n : Int) = ((n ^^^ M : Nat) : Int) := by
  rw [Nat.xor_comm]; exact u32_xor_nat M n M_lt h
theorem u32_x8 (n c : Nat) (h : n < 4294967296) (hc : c < 256) : bits .xor .u32 (n : Int) (c : Int) = ((n ^^^ c : Nat) : Int) := u32_xor_nat n c h (by omega)
theorem bys_take (u : Nat) (L : List Nat) (k : Nat) (h : k < L.length) : bys u (L.take (k + 1)) = by1 (bys u (L.take k)) (L.getD k 0) := by
  have e : L.take (k + 1) = L.take k ++ [L.getD k 0] := by
    rw [List.take_add_one, List.getD_eq_getElem?_getD, List.getElem?_eq_getElem h]; rfl
  rw [e, bys_app]; rfl
theorem getD_lt (L : List Nat) (hL : ∀ c ∈ L, c < 256) (k : Nat) (h : k < L.length) : L.getD k 0 < 256 := by
  rw [List.getD_eq_getElem?_getD, List.getElem?_eq_getElem h]
  exact hL _ (List.getElem_mem h)
theorem take_lt (L : List Nat) (hL : ∀ c ∈ L, c < 256) (k : Nat) : ∀ c ∈ L.take k, c < 256 := fun c hc => hL c (List.mem_of_mem_take hc)

set_option maxHeartbeats 1000000 in
set_option maxRecDepth 100000 in
theorem goOn_calls (s : Nat) (a : Option Addr) (len cap : Nat) (L : List Nat) (w : World) (hs : s < 4294967296) (hlen : L.length = len) (hl : L.length ≤ 9223372036854775807) (hB : Bys w a L) :
    Calls Tryz.prog 44 #[.int .u32 (s : Int), .slice a len cap] w fun e w' => e = .returned (.int .u32 (go s L : Nat)) ∧ w' = w := by
  subst hlen
  have HB : Hid (Bys w a L) := hB
  have HU : Hid (bits .xor .u32 4294967295 (s : Int) = ((s ^^^ M : Nat) : Int)) := u32_turn s hs
  have hu : s ^^^ M < 4294967296 := xor_lt hs M_lt
  clear hB
  go_enter Tryz.func44, Tryz.ntmps44
  go_wp2_with fail
  go_loopw [5, 12] (fun x i wr => ∃ k : Nat, k ≤ L.length ∧ i = .int .i64 k ∧ x = .int .u32 (bys (s ^^^ M) (L.take k) : Nat) ∧ wr = w) (fun _ i _ => L.length - (intOf i).toNat)
  case atStart => exact ⟨0, Nat.zero_le _, rfl, congrArg (Value.int .u32) HU.out, rfl⟩
  case round =>
    obtain ⟨k, hk, rfl, rfl, rfl⟩ := hrel
    by_cases h : k < L.length
    · obtain ⟨b, o, rfl, hc⟩ := HB.out.2 k h
      have hcl := getD_lt L HB.out.1 k h
      have HT := hidden (bys_take (s ^^^ M) L k h)
      have hlt : bys (s ^^^ M) (L.take k) < 4294967296 := bys_lt hu (take_lt L HB.out.1 k)
      generalize L.getD k 0 = c at *
      generalize hz : bys (s ^^^ M) (L.take k) = z at *
      have HX := hidden (u32_x8 z c hlt hcl)
      have hzc : z ^^^ c < 4294967296 := xor_lt hlt (by omega)
      have HZ := hidden hz
      clear hz
      go_wp2_with fail
      go_loopw [5, 20] (fun x i wq => ∃ m : Nat, m ≤ 8 ∧ i = .int .i64 m ∧ x = .int .u32 (sts m (z ^^^ c) : Nat) ∧ wq = wr) (fun _ i _ => 8 - (intOf i).toNat)
      case atStart => exact ⟨0, Nat.zero_le _, rfl, congrArg (Value.int .u32) HX.out, rfl⟩
      case round =>
        obtain ⟨m, hm, rfl, rfl, rfl⟩ := hrel
        by_cases h8 : m < 8
        · go_wp2_with fail
          refine (step_calls _ _ (sts_lt hzc)).mono ?_
          rintro e w1 ⟨rfl, rfl⟩
          go_wp2_with fail
          go_roundw
          case rel => exact ⟨m + 1, by omega, by go_num, by rw [← sts_st]; rfl, trivial⟩
          case measure => simp [intOf]; omega
        · have e8 : m = 8 := by omega
          subst e8
          go_wp2_with fail
          go_roundw
          case rel => exact ⟨k + 1, by omega, by go_num, by rw [HT.out]; rfl, trivial⟩
          case measure => simp [intOf]; omega
    · have ek : k = L.length := by omega
      subst ek
      rw [List.take_length]
      have hlt : bys (s ^^^ M) L < 4294967296 := bys_lt hu HB.out.1
      have HR := hidden (u32_turn _ hlt)
      clear hlt
      go_wp2_with fail
      go_ret
      exact ⟨ret_int HR.out, rfl⟩

set_option maxHeartbeats 400000 in
theorem sum_calls (a : Option Addr) (len cap : Nat) (L : List Nat) (w : World) (hlen : L.length = len) (hl : L.length ≤ 9223372036854775807) (hB : Bys w a L) :
    Calls Tryz.prog 14 #[.slice a len cap] w fun e w' => e = .returned (.int .i64 (go 0 L : Nat)) ∧ w' = w := by
  have hlt : go 0 L < 4294967296 := go_lt (by decide) hB.1
  go_enter Tryz.func14, Tryz.ntmps14
  go_wp2_with fail
  refine (goOn_calls 0 a len cap L _ (by decide) hlen hl hB).mono ?_
  rintro e w1 ⟨rfl, rfl⟩
  go_wp2_with fail
  go_ret
  exact ⟨rfl, rfl⟩

theorem sum_arg {a : Option Addr} {len cap : Nat} {L : List Nat} {w : World} (h : Arg w a len L) :
    Calls Tryz.prog 14 #[.slice a len cap] w fun e w' => e = .returned (.int .i64 (go 0 L : Nat)) ∧ w' = w :=
  sum_calls a len cap L w h.2.1 (by have := h.2; omega) h.1

end Go.Proofs.YtbadpjgiogghdaaGreatDoor.Crc

