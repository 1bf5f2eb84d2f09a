/-
  What the functions isSum, More, times, bytesOn and Join of package crc return. They change nothing. No condition but that bytes are bytes, words of 32 bits.
-/
import Derived.Test.YtifjlknlndndhaaDoorCrcA
import Derived.Deep.LoopGhost
import Derived.WalkSmall
namespace Go.Proofs.YtifjlknlndndhaaDoor.Crc
open Go.ChangeShapes Go.WideShapes Go.ChangeAt Go.RowKit Go.Proofs.YtifjlknlndndhaaDoor.CM Go.Proofs.YtifjlknlndndhaaDoor.Mem

theorem ret_pair {k : IntKind} {a b : Int} {v : Value} (h : a = b) : Ending.returned (.tuple #[.int k a, v]) = .returned (.tuple #[.int k b, v]) := by rw [h]

theorem isSum_yes (n : Int) (w : World) (h0 : 0 ≤ n) (h1 : n ≤ 4294967295) :
    Calls Tryd.prog 36 #[.int .i64 n] w fun e w' => e = .returned (.bool true) ∧ w' = w := by
  go_enter Tryd.func36, Tryd.ntmps36
  go_wp2
  go_ret
  exact ⟨rfl, rfl⟩
theorem isSum_no (n : Int) (w : World) (h : n < 0 ∨ 4294967295 < n) :
    Calls Tryd.prog 36 #[.int .i64 n] w fun e w' => e = .returned (.bool false) ∧ w' = w := by
  by_cases c : n < 0
  · clear h
    go_enter Tryd.func36, Tryd.ntmps36
    go_wp2
    go_ret
    exact ⟨rfl, rfl⟩
  · have d : decide (n ≤ 4294967295) = false := by simp; omega
    clear h
    go_enter Tryd.func36, Tryd.ntmps36
    go_wp2
    go_ret
    exact ⟨rfl, rfl⟩

set_option maxHeartbeats 400000 in
theorem more_ok (s : Nat) (a : Option Addr) (len cap : Nat) (L : List Nat) (w : World) (hs : s < 4294967296) (h : Arg w a len L) :
    Calls Tryd.prog 22 #[.int .i64 (s : Int), .slice a len cap] w fun e w' => e = .returned (.tuple #[.int .i64 (go s L : Nat), .nilIface]) ∧ w' = w := by
  have hlt : go s L < 4294967296 := go_lt hs h.1.1
  have HA := hidden h
  clear h
  go_enter Tryd.func22, Tryd.ntmps22
  go_wp2_with fail
  refine (isSum_yes _ _ (by omega) (by omega)).mono ?_
  rintro e w ⟨rfl, rfl⟩
  go_wp2_with fail
  refine (goOn_calls s a len cap L _ hs HA.out.2.1 (by have := HA.out.2; omega) HA.out.1).mono ?_
  rintro e w ⟨rfl, rfl⟩
  go_wp2_with fail
  go_ret2
  exact ⟨rfl, rfl⟩
set_option maxHeartbeats 400000 in
theorem more_err (n : Int) (v : Value) (w : World) (h : n < 0 ∨ 4294967295 < n) :
    Calls Tryd.prog 22 #[.int .i64 n, v] w fun e w' => e = .returned (.tuple #[.int .i64 0, .iface 56 (.int .i64 1)]) ∧ w' = w := by
  have H := hidden h
  clear h
  go_enter Tryd.func22, Tryd.ntmps22
  go_wp2_with fail
  refine (isSum_no _ _ H.out).mono ?_
  rintro e w ⟨rfl, rfl⟩
  go_wp2_with fail
  go_ret2
  exact ⟨rfl, rfl⟩

/-- what holds of the words of times when g rounds are left -/
def TSt (a0 b0 g A P B : Nat) : Prop := g ≤ 32 ∧ A < 4294967296 ∧ P < 4294967296 ∧ B < 4294967296 ∧ A % 2 ^ (32 - g) = 0 ∧ tm g A P B = CM.times a0 b0
theorem tst_start {a b : Nat} (ha : a < 4294967296) (hb : b < 4294967296) : TSt a b 32 a 0 b := ⟨by decide, ha, by decide, hb, by simp [Nat.mod_one], rfl⟩
theorem tst_done {a b g P B : Nat} (h : TSt a b g 0 P B) : P = CM.times a b := by
  have := h.2.2.2.2.2
  rwa [tm_zero] at this
theorem tst_left {a b g A P B : Nat} (h : TSt a b g A P B) (hA : A ≠ 0) : 0 < g := by
  rcases Nat.eq_zero_or_pos g with rfl | hg
  · have := h.2.2.2.2.1
    have := h.2.1
    simp only [Nat.sub_zero] at *
    omega
  · exact hg
theorem tst_step {a b g A P B : Nat} (h : TSt a b (g + 1) A P B) : TSt a b g (A * 2 % 4294967296) (if 2147483648 ≤ A then P ^^^ B else P) (st B) := by
  obtain ⟨h1, h2, h3, h4, h5, h6⟩ := h
  refine ⟨by omega, Nat.mod_lt _ (by decide), ?_, st_lt h4, ?_, h6⟩
  · split
    · exact xor_lt h3 h4
    · exact h3
  · have hp : 2 ^ (32 - g) = 2 * 2 ^ (32 - (g + 1)) := by rw [← Nat.pow_succ']; congr 1; omega
    have hm : 2 ^ g * 2 ^ (32 - g) = 4294967296 := by rw [← Nat.pow_add, show g + (32 - g) = 32 by omega]
    rw [Nat.mod_mod_of_dvd _ ⟨2 ^ g, by rw [Nat.mul_comm, hm]⟩, hp]
    generalize 2 ^ (32 - (g + 1)) = q at *
    obtain ⟨c, rfl⟩ := Nat.dvd_of_mod_eq_zero h5
    rw [show q * c * 2 = 2 * q * c by simp [Nat.mul_comm, Nat.mul_left_comm, Nat.mul_assoc]]
    exact Nat.mul_mod_right _ _
theorem u32_top (n : Nat) (h : n < 4294967296) : bits .and .u32 (n : Int) 2147483648 = ((n / 2147483648 % 2 * 2147483648 : Nat) : Int) := by
  have := u32_and_nat n 2147483648 h (by decide)
  rw [show (2147483648 : Nat) = 2 ^ 31 by decide, nat_bit] at this
  exact this
theorem u32_shl1 (n : Nat) : IntKind.u32.wrap ((n : Int) * 2) = ((n * 2 % 4294967296 : Nat) : Int) := by
  rw [IntKind.wrap_u32']; omega

set_option maxHeartbeats 1000000 in
set_option maxRecDepth 100000 in
theorem times_calls (a b : Nat) (w : World) (ha : a < 4294967296) (hb : b < 4294967296) :
    Calls Tryd.prog 37 #[.int .u32 (a : Int), .int .u32 (b : Int)] w fun e w' => e = .returned (.int .u32 (CM.times a b : Nat)) ∧ w' = w := by
  go_enter Tryd.func37, Tryd.ntmps37
  go_wp2_with fail
  go_loopg [0, 1, 5] 32 (fun g x y p wr => ∃ A P B : Nat, x = .int .u32 (A : Int) ∧ y = .int .u32 (B : Int) ∧ p = .int .u32 (P : Int) ∧ Hid (TSt a b g A P B) ∧ wr = w)
  case atStart => exact ⟨a, 0, b, rfl, rfl, rfl, tst_start ha hb, rfl⟩
  case round =>
    obtain ⟨A, P, B, rfl, rfl, rfl, HT, rfl⟩ := hrel
    by_cases h0 : A = 0
    · subst h0
      have HD := hidden (tst_done HT.out)
      go_wp2_with fail
      go_ret
      exact ⟨ret_int (by rw [HD.out]), rfl⟩
    · have d0 : ((A : Int) == 0) = false := by simp; omega
      have hg := tst_left HT.out h0
      obtain ⟨g, rfl⟩ : ∃ g, gk = g + 1 := ⟨gk - 1, by omega⟩
      have HN := hidden (tst_step HT.out)
      have hA := HT.out.2.1
      have hP := HT.out.2.2.1
      have hB := HT.out.2.2.2.1
      have hb1 := u32_top A hA
      have HX := hidden (u32_xor_nat P B hP hB)
      have HW := hidden (u32_shl1 A)
      by_cases c : 2147483648 ≤ A
      · have d1 : (bits .and .u32 (A : Int) 2147483648 == 0) = false := by rw [hb1]; simp; omega
        rw [if_pos c] at HN
        clear hb1 c
        go_wp2_with fail
        refine (step_calls B _ hB).mono ?_
        rintro e w ⟨rfl, rfl⟩
        go_wp2_with fail
        go_roundg g
        case measure => omega
        case rel => exact ⟨_, _, _, congrArg (Value.int .u32) HW.out, rfl, congrArg (Value.int .u32) HX.out, HN.out, rfl⟩
      · have d1 : (bits .and .u32 (A : Int) 2147483648 == 0) = true := by rw [hb1]; simp; omega
        rw [if_neg c] at HN
        clear hb1 c
        go_wp2_with fail
        refine (step_calls B _ hB).mono ?_
        rintro e w ⟨rfl, rfl⟩
        go_wp2_with fail
        go_roundg g
        case measure => omega
        case rel => exact ⟨_, _, _, congrArg (Value.int .u32) HW.out, rfl, rfl, HN.out, rfl⟩

theorem i64_and1 (n : Nat) (h : n < 4294967296) : bits .and .i64 (n : Int) 1 = ((n % 2 : Nat) : Int) := by
  have e : (BitVec.ofInt 64 (n : Int) &&& BitVec.ofInt 64 1).toNat = n % 2 := by
    rw [BitVec.toNat_and, BitVec.ofInt_natCast, BitVec.toNat_ofNat, Nat.mod_eq_of_lt (by omega)]
    exact nat_mask1 n
  show IntKind.i64.wrap ((BitVec.ofInt 64 (n : Int) &&& BitVec.ofInt 64 1).toNat : Nat) = _
  rw [e, IntKind.wrap_i64]
  omega
def ONE : Nat := 2147483648
theorem ONE_lt : ONE < 4294967296 := by decide
theorem times_both (m q : Nat) : CM.times (sts m ONE) (sts q ONE) = sts (m + q) ONE := by
  rw [show ONE = 2147483648 from rfl, times_on _ _ (sts_lt (by decide)), sts_add]

set_option maxHeartbeats 1000000 in
set_option maxRecDepth 100000 in
theorem bytesOn_calls (n : Nat) (w : World) (hn : n ≤ 1000000) :
    Calls Tryd.prog 38 #[.int .i64 (n : Int)] w fun e w' => e = .returned (.int .u32 (sts (8 * n) ONE : Nat)) ∧ w' = w := by
  go_enter Tryd.func38, Tryd.ntmps38
  go_wp2_with fail
  go_loopw [0, 3, 4] (fun i p s wr => ∃ N m q : Nat, i = .int .i64 (N : Int) ∧ N ≤ 1000000 ∧ p = .int .u32 (sts m ONE : Nat) ∧ s = .int .u32 (sts q ONE : Nat) ∧ Hid (m + q * N = 8 * n) ∧ wr = w) (fun i _ _ _ => (intOf i).toNat)
  case atStart => exact ⟨n, 0, 8, rfl, hn, rfl, by rw [show ONE = 2147483648 from rfl, oneByte]; rfl, by show 0 + 8 * n = 8 * n; omega, rfl⟩
  case round =>
    obtain ⟨N, m, q, rfl, hN, rfl, rfl, HQ, rfl⟩ := hrel
    by_cases h0 : 0 < N
    · have hb1 := i64_and1 N (by omega)
      have HM := hidden (times_both m q)
      have HS := hidden (times_both q q)
      have HD : Hid ((N : Int) / 2 = ((N / 2 : Nat) : Int)) := by show (N : Int) / 2 = ((N / 2 : Nat) : Int); omega
      by_cases c : N % 2 = 1
      · have d1 : (bits .and .i64 (N : Int) 1 == 1) = true := by rw [hb1, c]; rfl
        have HE : Hid (m + q + (q + q) * (N / 2) = 8 * n) := by
          show m + q + (q + q) * (N / 2) = 8 * n
          have e : N = 2 * (N / 2) + 1 := by omega
          have := HQ.out
          rw [e, Nat.mul_add] at this
          rw [← Nat.two_mul, Nat.mul_assoc, Nat.mul_left_comm]
          omega
        clear hb1 c
        go_wp2_with fail
        refine (times_calls _ _ _ (sts_lt ONE_lt) (sts_lt ONE_lt)).mono ?_
        rintro e w ⟨rfl, rfl⟩
        go_wp2_with fail
        refine (times_calls _ _ _ (sts_lt ONE_lt) (sts_lt ONE_lt)).mono ?_
        rintro e w ⟨rfl, rfl⟩
        go_wp2_with fail
        go_roundw
        case rel => exact ⟨N / 2, m + q, q + q, by simp, by omega, by rw [HM.out], by rw [HS.out], HE.out, trivial⟩
        case measure => simp [intOf]; omega
      · have d1 : (bits .and .i64 (N : Int) 1 == 1) = false := by rw [hb1]; simp; omega
        have HE : Hid (m + (q + q) * (N / 2) = 8 * n) := by
          show m + (q + q) * (N / 2) = 8 * n
          have e : N = 2 * (N / 2) := by omega
          have := HQ.out
          rw [e] at this
          rw [← Nat.two_mul, Nat.mul_assoc, Nat.mul_left_comm]
          omega
        clear hb1 c
        go_wp2_with fail
        refine (times_calls _ _ _ (sts_lt ONE_lt) (sts_lt ONE_lt)).mono ?_
        rintro e w ⟨rfl, rfl⟩
        go_wp2_with fail
        go_roundw
        case rel => exact ⟨N / 2, m, q + q, by simp, by omega, rfl, by rw [HS.out], HE.out, trivial⟩
        case measure => simp [intOf]; omega
    · have e0 : N = 0 := by omega
      subst e0
      go_wp2_with fail
      go_ret
      exact ⟨ret_int (by have := HQ.out; rw [show 8 * n = m by omega]), rfl⟩

set_option maxHeartbeats 1000000 in
theorem join_ok (a b n : Nat) (w : World) (ha : a < 4294967296) (hb : b < 4294967296) (hn : n ≤ 1000000) :
    Calls Tryd.prog 24 #[.int .i64 (a : Int), .int .i64 (b : Int), .int .i64 (n : Int)] w fun e w' => e = .returned (.tuple #[.int .i64 (sts (8 * n) a ^^^ b : Nat), .nilIface]) ∧ w' = w := by
  have CB := fun w => bytesOn_calls n w hn
  have hy : sts (8 * n) ONE < 4294967296 := sts_lt ONE_lt
  have CT := fun w => times_calls a (sts (8 * n) ONE) w ha hy
  have ej : CM.times a (sts (8 * n) ONE) = sts (8 * n) a := times_on a (8 * n) ha
  have hs : sts (8 * n) a < 4294967296 := sts_lt ha
  rw [ej] at CT
  clear ej
  generalize sts (8 * n) ONE = y at *
  generalize sts (8 * n) a = z at *
  have HX := hidden (u32_xor_nat z b hs hb)
  have hx : z ^^^ b < 4294967296 := xor_lt hs hb
  have HV : Hid (wrap64 (bits .xor .u32 (z : Int) (b : Int)) = ((z ^^^ b : Nat) : Int)) := by
    show wrap64 (bits .xor .u32 (z : Int) (b : Int)) = _
    rw [HX.out]; unfold wrap64; omega
  have HB := hidden CB
  have HT := hidden CT
  clear CB CT
  go_enter Tryd.func24, Tryd.ntmps24
  go_wp2_with fail
  refine (isSum_yes _ _ (by omega) (by omega)).mono ?_
  rintro e w ⟨rfl, rfl⟩
  go_wp2_with fail
  refine (isSum_yes _ _ (by omega) (by omega)).mono ?_
  rintro e w ⟨rfl, rfl⟩
  go_wp2_with fail
  refine (HB.out _).mono ?_
  rintro e w ⟨rfl, rfl⟩
  go_wp2_with fail
  refine (HT.out _).mono ?_
  rintro e w ⟨rfl, rfl⟩
  go_wp2_with fail
  go_ret2
  exact ⟨ret_pair HV.out, rfl⟩

set_option maxHeartbeats 1000000 in
theorem join_err (a b n : Int) (w : World) (h : (a < 0 ∨ 4294967295 < a) ∨ (b < 0 ∨ 4294967295 < b) ∨ (n < 0 ∨ 1000000 < n)) :
    Calls Tryd.prog 24 #[.int .i64 a, .int .i64 b, .int .i64 n] w fun e w' => e = .returned (.tuple #[.int .i64 0, .iface 56 (.int .i64 1)]) ∧ w' = w := by
  by_cases ca : a < 0 ∨ 4294967295 < a
  · have HA := hidden ca
    clear ca h
    go_enter Tryd.func24, Tryd.ntmps24
    go_wp2_with fail
    refine (isSum_no _ _ HA.out).mono ?_
    rintro e w ⟨rfl, rfl⟩
    go_wp2_with fail
    go_ret2
    exact ⟨rfl, rfl⟩
  · have HA : Hid (0 ≤ a ∧ a ≤ 4294967295) := by show 0 ≤ a ∧ a ≤ 4294967295; omega
    by_cases cb : b < 0 ∨ 4294967295 < b
    · have HB := hidden cb
      clear cb ca h
      go_enter Tryd.func24, Tryd.ntmps24
      go_wp2_with fail
      refine (isSum_yes _ _ HA.out.1 HA.out.2).mono ?_
      rintro e w ⟨rfl, rfl⟩
      go_wp2_with fail
      refine (isSum_no _ _ HB.out).mono ?_
      rintro e w ⟨rfl, rfl⟩
      go_wp2_with fail
      go_ret2
      exact ⟨rfl, rfl⟩
    · have HB : Hid (0 ≤ b ∧ b ≤ 4294967295) := by show 0 ≤ b ∧ b ≤ 4294967295; omega
      by_cases cn : n < 0
      · clear cb ca h
        go_enter Tryd.func24, Tryd.ntmps24
        go_wp2_with fail
        refine (isSum_yes _ _ HA.out.1 HA.out.2).mono ?_
        rintro e w ⟨rfl, rfl⟩
        go_wp2_with fail
        refine (isSum_yes _ _ HB.out.1 HB.out.2).mono ?_
        rintro e w ⟨rfl, rfl⟩
        go_wp2_with fail
        go_ret2
        exact ⟨rfl, rfl⟩
      · have cm : 1000000 < n := by omega
        clear cb ca h
        go_enter Tryd.func24, Tryd.ntmps24
        go_wp2_with fail
        refine (isSum_yes _ _ HA.out.1 HA.out.2).mono ?_
        rintro e w ⟨rfl, rfl⟩
        go_wp2_with fail
        refine (isSum_yes _ _ HB.out.1 HB.out.2).mono ?_
        rintro e w ⟨rfl, rfl⟩
        go_wp2_with fail
        go_ret2
        exact ⟨rfl, rfl⟩

end Go.Proofs.YtifjlknlndndhaaDoor.Crc
