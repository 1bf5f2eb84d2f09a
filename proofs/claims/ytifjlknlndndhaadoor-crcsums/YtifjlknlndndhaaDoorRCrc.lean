/-
  What the reference's functions on sums return: Word, on, More, Join. They change nothing. No condition but that bytes are bytes, words of 32 bits.
-/
import Derived.Test.YtifjlknlndndhaaDoorCrcA
import Derived.Deep.QuietTactic
import Derived.BigQuiet
import Derived.LoopN
import Derived.WalkSmall
namespace Go.Proofs.YtifjlknlndndhaaDoor.RCrc
open Go.ChangeShapes Go.WideShapes Go.ChangeAt Go.RowKit Go.Proofs.YtifjlknlndndhaaDoor.CM Go.Proofs.YtifjlknlndndhaaDoor.Mem Go.Proofs.YtifjlknlndndhaaDoor.Crc

def wordB (n : Int) : Bool := decide (0 ≤ n ∧ n ≤ 4294967295)
theorem word_calls (n : Int) (w : World) : Calls Tryd.prog 21 #[.int .i64 n] w fun e w' => e = .returned (.bool (wordB n)) ∧ w' = w := by
  by_cases h0 : 0 ≤ n
  · by_cases h1 : n ≤ 4294967295
    · have hf : wordB n = true := by simp [wordB, h0, h1]
      rw [hf]; clear hf
      go_enter Tryd.func21, Tryd.ntmps21
      go_wp2
      go_ret
      exact ⟨rfl, rfl⟩
    · have hf : wordB n = false := by simp [wordB, h1]
      have d : decide (n ≤ 4294967295) = false := by simpa using h1
      rw [hf]; clear hf h1
      go_enter Tryd.func21, Tryd.ntmps21
      go_wp2
      go_ret
      exact ⟨rfl, rfl⟩
  · have hf : wordB n = false := by simp [wordB, h0]
    rw [hf]; clear hf
    go_enter Tryd.func21, Tryd.ntmps21
    go_wp2
    go_ret
    exact ⟨rfl, rfl⟩

theorem st_half (a : Nat) : st a = if a % 2 = 1 then a / 2 ^^^ T else a / 2 := rfl
theorem sts_next (k w : Nat) : sts (k + 1) w = st (sts k w) := sts_st k w

set_option maxHeartbeats 1000000 in
set_option maxRecDepth 100000 in
theorem on_calls (s c : Nat) (w : World) (hs : s < 4294967296) (hc : c < 256) :
    Calls Tryd.prog 35 #[.int .u32 (s : Int), .int .u8 (c : Int)] w fun e w' => e = .returned (.int .u32 (by1 s c : Nat)) ∧ w' = w := by
  have HX := hidden (u32_x8 s c hs hc)
  have hzc : s ^^^ c < 4294967296 := xor_lt hs (by omega)
  go_enter Tryd.func35, Tryd.ntmps35
  go_wp2_with fail
  go_loopw [0, 5] (fun x i wr => ∃ k : Nat, k ≤ 8 ∧ i = .int .i64 k ∧ x = .int .u32 (sts k (s ^^^ c) : Nat) ∧ wr = w) (fun _ i _ => 8 - (intOf i).toNat)
  case atStart => exact ⟨0, Nat.zero_le _, rfl, congrArg (Value.int .u32) HX.out, rfl⟩
  case round =>
    obtain ⟨k, hk, rfl, rfl, rfl⟩ := hrel
    have hlt : sts k (s ^^^ c) < 4294967296 := sts_lt hzc
    have HN := hidden (sts_next k (s ^^^ c))
    by_cases h8 : k < 8
    · generalize sts k (s ^^^ c) = a at *
      by_cases h2 : a % 2 = 1
      · have d : ((a : Int) % 2 == 1) = true := by simp; omega
        have HV : Hid (bits .xor .u32 ((a : Int) / 2) 3988292384 = ((sts (k + 1) (s ^^^ c) : Nat) : Int)) := by
          show bits .xor .u32 ((a : Int) / 2) 3988292384 = _
          rw [HN.out, st_half, if_pos h2, ← u32_xor_nat (a / 2) T (by omega) T_lt]; rfl
        clear h2
        go_wp2_with fail
        go_roundw
        case rel => exact ⟨k + 1, by omega, by go_num, congrArg (Value.int .u32) HV.out, trivial⟩
        case measure => simp [intOf]; omega
      · have d : ((a : Int) % 2 == 1) = false := by simp; omega
        have HV : Hid ((a : Int) / 2 = ((sts (k + 1) (s ^^^ c) : Nat) : Int)) := by
          show (a : Int) / 2 = _
          rw [HN.out, st_half, if_neg h2]; rfl
        clear h2
        go_wp2_with fail
        go_roundw
        case rel => exact ⟨k + 1, by omega, by go_num, congrArg (Value.int .u32) HV.out, trivial⟩
        case measure => simp [intOf]; omega
    · have e8 : k = 8 := by omega
      subst e8
      go_wp2_with fail
      go_ret
      exact ⟨rfl, rfl⟩

theorem turn (x : Nat) (h : x < 4294967296) : x ^^^ M = M - x := by
  have h1 := congrArg BitVec.toNat (BitVec.xor_allOnes (x := BitVec.ofNat 32 x))
  rw [BitVec.toNat_xor, BitVec.toNat_not, BitVec.toNat_ofNat, BitVec.toNat_allOnes, Nat.mod_eq_of_lt (by omega)] at h1
  exact h1
theorem turn_int (x : Nat) (h : x < 4294967296) : (4294967295 : Int) - (x : Int) = ((x ^^^ M : Nat) : Int) := by
  rw [turn x h]; unfold M; omega

set_option maxHeartbeats 1000000 in
set_option maxRecDepth 100000 in
theorem rmore_calls (s : Nat) (a : Option Addr) (len cap : Nat) (L : List Nat) (w : World) (hs : s < 4294967296) (h : Arg w a len L) :
    Calls Tryd.prog 20 #[.int .i64 (s : Int), .slice a len cap] w fun e w' => e = .returned (.int .i64 (go s L : Nat)) ∧ w' = w := by
  have HA := hidden h
  obtain ⟨_, hlen, hl⟩ := h
  subst hlen
  have hu : s ^^^ M < 4294967296 := xor_lt hs M_lt
  have HU := hidden (turn_int s hs)
  go_enter Tryd.func20, Tryd.ntmps20
  go_wp2_with fail
  go_loopw [5, 6] (fun x i wr => ∃ k : Nat, k ≤ L.length ∧ i = .int .i64 k ∧ x = .int .u32 (bys (s ^^^ M) (L.take k) : Nat) ∧ wr = w) (fun _ i _ => L.length - (intOf i).toNat)
  case atStart => exact ⟨0, Nat.zero_le _, rfl, congrArg (Value.int .u32) HU.out, rfl⟩
  case round =>
    obtain ⟨k, hk, rfl, rfl, rfl⟩ := hrel
    by_cases h : k < L.length
    · obtain ⟨b, o, rfl, hc⟩ := HA.out.1.2 k h
      have hcl := getD_lt L HA.out.1.1 k h
      have HT := hidden (bys_take (s ^^^ M) L k h)
      have hlt : bys (s ^^^ M) (L.take k) < 4294967296 := bys_lt hu (take_lt L HA.out.1.1 k)
      generalize L.getD k 0 = c at *
      generalize hz : bys (s ^^^ M) (L.take k) = z at *
      have HZ := hidden hz
      clear hz
      go_wp2_with fail
      refine (on_calls z c _ hlt hcl).mono ?_
      rintro e w ⟨rfl, rfl⟩
      go_wp2_with fail
      go_roundw
      case rel => exact ⟨k + 1, by omega, by go_num, by rw [HT.out], trivial⟩
      case measure => simp [intOf]; omega
    · have ek : k = L.length := by omega
      subst ek
      rw [List.take_length]
      have hlt : bys (s ^^^ M) L < 4294967296 := bys_lt hu HA.out.1.1
      have HR := hidden (turn_int _ hlt)
      go_wp2_with fail
      go_ret
      exact ⟨ret_int HR.out, rfl⟩

theorem by1_zero (z : Nat) : by1 z 0 = sts 8 z := by unfold by1; rw [Nat.xor_zero]
theorem sts_more (k a : Nat) : by1 (sts (8 * k) a) 0 = sts (8 * (k + 1)) a := by
  rw [by1_zero, show 8 * (k + 1) = 8 * k + 8 by omega, sts_add]

set_option maxHeartbeats 1000000 in
set_option maxRecDepth 100000 in
theorem rjoin_calls (a b n : Nat) (w : World) (ha : a < 4294967296) (hb : b < 4294967296) (hn : n ≤ 1000000) :
    Calls Tryd.prog 23 #[.int .i64 (a : Int), .int .i64 (b : Int), .int .i64 (n : Int)] w fun e w' => e = .returned (.int .i64 (sts (8 * n) a ^^^ b : Nat)) ∧ w' = w := by
  go_enter Tryd.func23, Tryd.ntmps23
  go_wp2_with fail
  go_loopw [7, 8] (fun x i wr => ∃ k z : Nat, k ≤ n ∧ i = .int .i64 k ∧ x = .int .u32 (z : Int) ∧ Hid (z = sts (8 * k) a) ∧ wr = w) (fun _ i _ => n - (intOf i).toNat)
  case atStart => exact ⟨0, a, Nat.zero_le _, rfl, rfl, rfl, rfl⟩
  case round =>
    obtain ⟨k, z, hk, rfl, rfl, HZ, rfl⟩ := hrel
    have hz : z < 4294967296 := by rw [HZ.out]; exact sts_lt ha
    by_cases h : k < n
    · have HS := hidden (sts_more k a)
      rw [← HZ.out] at HS
      go_wp2_with fail
      refine (on_calls z 0 _ hz (by decide)).mono ?_
      rintro e w ⟨rfl, rfl⟩
      go_wp2_with fail
      go_roundw
      case rel => exact ⟨k + 1, _, by omega, by go_num, rfl, HS.out, trivial⟩
      case measure => simp [intOf]; omega
    · have ek : k = n := by omega
      subst ek
      have HX := hidden (u32_xor_nat z b hz hb)
      have hx : z ^^^ b < 4294967296 := xor_lt hz hb
      have HV : Hid (wrap64 (bits .xor .u32 (z : Int) (b : Int)) = ((sts (8 * k) a ^^^ b : Nat) : Int)) := by
        show wrap64 (bits .xor .u32 (z : Int) (b : Int)) = _
        rw [HX.out, ← HZ.out]; unfold wrap64; omega
      clear hx
      go_wp2_with fail
      go_ret
      exact ⟨ret_int HV.out, rfl⟩

set_option maxHeartbeats 1000000 in
set_option maxRecDepth 100000 in
theorem number_calls (b o cap : Nat) (t0 t1 t2 t3 : Nat) (w : World) (h0 : t0 < 256) (h1 : t1 < 256) (h2 : t2 < 256) (h3 : t3 < 256)
    (c0 : w.cell? ⟨b, o, none⟩ = some (.int .u8 (t0 : Int))) (c1 : w.cell? ⟨b, o + 1, none⟩ = some (.int .u8 (t1 : Int))) (c2 : w.cell? ⟨b, o + 2, none⟩ = some (.int .u8 (t2 : Int))) (c3 : w.cell? ⟨b, o + 3, none⟩ = some (.int .u8 (t3 : Int))) :
    Calls Tryd.prog 39 #[.slice (some ⟨b, o, none⟩) 4 cap] w fun e w' => e = .returned (.int .i64 (num 0 [t0, t1, t2, t3] : Nat)) ∧ w' = w := by
  go_enter Tryd.func39, Tryd.ntmps39
  go_wp2_with fail
  refine wp_loop_rounds 5 ?_
  rw [rounds_succ]
  go_wp2_with fail
  rw [rounds_succ]
  go_wp2_with fail
  rw [rounds_succ]
  go_wp2_with fail
  rw [rounds_succ]
  go_wp2_with fail
  rw [rounds_succ]
  go_wp2_with fail
  go_ret
  exact ⟨ret_int (by simp [num]), rfl⟩

end Go.Proofs.YtifjlknlndndhaaDoor.RCrc
