/-
  The walk of the Go function CrcLinear: it returns true at any two rows of bytes, each of fewer than 2^47. It changes nothing that was there.
-/
import Derived.Test.YtifjlknlndndhabCrcA
import Derived.BigQuiet
import Derived.Deep.QuietTactic
import Derived.Deep.OwnRows
import Derived.RegionTactic
import Derived.OwnWalk
import Derived.WalkSmall
namespace Go.Proofs.Ytifjlknlndndhab.Lin
open Go.ChangeShapes Go.WideShapes Go.ChangeAt Go.RowKit Go.Proofs.Ytifjlknlndndhab.CM Go.Proofs.Ytifjlknlndndhab.Mem Go.Proofs.Ytifjlknlndndhab.Crc
set_option linter.unusedVariables false

/-- what x holds behind k rounds -/
def xs (A B : List Nat) (n k : Nat) : List Nat := zx (A.take k) (B.take k) ++ List.replicate (n - k) 0

theorem zx_take {A B : List Nat} {k : Nat} (ha : k < A.length) (hb : k < B.length) : zx (A.take (k + 1)) (B.take (k + 1)) = zx (A.take k) (B.take k) ++ [A.getD k 0 ^^^ B.getD k 0] := by
  induction k generalizing A B with
  | zero => cases A with
    | nil => simp at ha
    | cons a A => cases B with
      | nil => simp at hb
      | cons b B => simp [zx]
  | succ k ih => cases A with
    | nil => simp at ha
    | cons a A => cases B with
      | nil => simp at hb
      | cons b B =>
        have := ih (A := A) (B := B) (by simpa using ha) (by simpa using hb)
        simp only [List.take_succ_cons, zx, this, List.cons_append]
        rfl
theorem zx_take_len {A B : List Nat} {k : Nat} (ha : k ≤ A.length) (hb : k ≤ B.length) : (zx (A.take k) (B.take k)).length = k := by
  rw [zx_len _ _ (by simp; omega)]; simp; omega
theorem xs_step {A B : List Nat} {n k : Nat} (hk : k < n) (ha : n ≤ A.length) (hb : n ≤ B.length) : (xs A B n k).set k (A.getD k 0 ^^^ B.getD k 0) = xs A B n (k + 1) := by
  have hl := zx_take_len (A := A) (B := B) (k := k) (by omega) (by omega)
  unfold xs
  rw [zx_take (by omega) (by omega), show n - k = (n - (k + 1)) + 1 by omega, List.replicate_succ, List.append_assoc]
  rw [List.set_append_right _ _ (by omega)]
  congr 1
  rw [hl, Nat.sub_self]; rfl
theorem xs_len {A B : List Nat} {n k : Nat} (hk : k ≤ n) (ha : n ≤ A.length) (hb : n ≤ B.length) : (xs A B n k).length = n := by
  unfold xs
  rw [List.length_append, zx_take_len (by omega) (by omega)]; simp; omega
theorem xs_zero (A B : List Nat) (n : Nat) : xs A B n 0 = List.replicate n 0 := by simp [xs, zx]
theorem xs_all {A B : List Nat} {n : Nat} : xs A B n n = zx (A.take n) (B.take n) := by simp [xs]
theorem zx_lt {A B : List Nat} (ha : ∀ c ∈ A, c < 256) (hb : ∀ c ∈ B, c < 256) : ∀ c ∈ zx A B, c < 256 := by
  induction A generalizing B with
  | nil => simp [zx]
  | cons a A ih => cases B with
    | nil => simp [zx]
    | cons b B =>
      intro c hc
      simp only [zx, List.mem_cons] at hc
      rcases hc with rfl | hc
      · exact xor_lt8 (ha a (by simp)) (hb b (by simp))
      · exact ih (fun c h => ha c (by simp [h])) (fun c h => hb c (by simp [h])) c hc

theorem i64_xor (a b : Nat) (ha : a < 4294967296) (hb : b < 4294967296) : bits .xor .i64 (a : Int) (b : Int) = ((a ^^^ b : Nat) : Int) := by
  have h := xor_lt ha hb
  have ha' : a % 2 ^ 64 = a := Nat.mod_eq_of_lt (by omega)
  have hb' : b % 2 ^ 64 = b := Nat.mod_eq_of_lt (by omega)
  show IntKind.i64.wrap ((BitVec.ofInt 64 a ^^^ BitVec.ofInt 64 b).toNat : Nat) = _
  rw [BitVec.toNat_xor, BitVec.ofInt_natCast, BitVec.ofInt_natCast, BitVec.toNat_ofNat, BitVec.toNat_ofNat, ha', hb', IntKind.wrap_i64]
  omega
theorem fin_eq (A B : List Nat) (n : Nat) (ha : n ≤ A.length) (hb : n ≤ B.length) (hA : ∀ c ∈ A, c < 256) (hB : ∀ c ∈ B, c < 256) :
    (bits .xor .i64 (go 0 (xs A B n n) : Nat) (go 0 (List.replicate n 0) : Nat) == bits .xor .i64 (go 0 (A.take n) : Nat) (go 0 (B.take n) : Nat)) = true := by
  have h := go_linear (A.take n) (B.take n) (by simp; omega)
  rw [show (A.take n).length = n by simp; omega] at h
  rw [xs_all, i64_xor, i64_xor, h]
  · simp
  · exact go_lt (by decide) (fun c hc => hA c (List.mem_of_mem_take hc))
  · exact go_lt (by decide) (fun c hc => hB c (List.mem_of_mem_take hc))
  · exact go_lt (by decide) (zx_lt (fun c hc => hA c (List.mem_of_mem_take hc)) (fun c hc => hB c (List.mem_of_mem_take hc)))
  · exact go_lt (by decide) (fun c hc => by rw [List.eq_of_mem_replicate hc]; decide)

def St (w wr : World) (A B : List Nat) (n k : Nat) : Prop :=
  Below w.heap.size w wr ∧ Row wr (w.heap.size + 1) (xs A B n k) ∧ Row wr (w.heap.size + 2) (List.replicate n 0)
theorem st_start (w : World) (A B : List Nat) (n : Nat) :
    St w (((w.alloc (.cells #[.int .u8 0] 5)).alloc (.cells (madeCells #[.int .u8 0] n) 5)).alloc (.cells (madeCells #[.int .u8 0] n) 5)) A B n 0 := by
  refine ⟨(((Below.refl _ _).alloc (Nat.le_refl _) _).alloc (by simp) _).alloc (by simp; omega) _, ?_, ?_⟩
  · rw [xs_zero]
    have := (Row.made (w.alloc (.cells #[.int .u8 0] 5)) n).alloc (.cells (madeCells #[.int .u8 0] n) 5)
    simpa using this
  · have := Row.made ((w.alloc (.cells #[.int .u8 0] 5)).alloc (.cells (madeCells #[.int .u8 0] n) 5)) n
    simpa using this

theorem st_step {w wr : World} {A B : List Nat} {n k : Nat} (h : St w wr A B n k) (hk : k < n) (ha : n ≤ A.length) (hb : n ≤ B.length) (hA : ∀ c ∈ A, c < 256) (hB : ∀ c ∈ B, c < 256) :
    St w ((wr.setCell ⟨w.heap.size + 1, k, none⟩ (.int .u8 (bits .xor .u8 (A.getD k 0 : Nat) (B.getD k 0 : Nat)))).drew) A B n (k + 1) := by
  obtain ⟨h1, h2, h3⟩ := h
  rw [u8_xor_nat _ _ (getD_lt A hA k (by omega)) (getD_lt B hB k (by omega))]
  refine ⟨(h1.setCell (p := ⟨w.heap.size + 1, k, none⟩) (Nat.le_succ _) _).drew, ?_, h3.other (p := ⟨w.heap.size + 1, k, none⟩) (by simp) _⟩
  have := h2.set k (A.getD k 0 ^^^ B.getD k 0)
  rw [xs_step hk ha hb] at this
  exact this
theorem st_cell {w wr : World} {A B : List Nat} {n k : Nat} (h : St w wr A B n k) (hk : k < n) (ha : n ≤ A.length) (hb : n ≤ B.length) :
    wr.cell? ⟨w.heap.size + 1, k, none⟩ = some (.int .u8 ((xs A B n k).getD k 0 : Nat)) ∧ wr.frozen? ⟨w.heap.size + 1, k, none⟩ = false :=
  ⟨h.2.1.cell k (by rw [xs_len (by omega) ha hb]; exact hk), h.2.1.free k⟩
theorem bys0 (w : World) : Bys (w.alloc (.cells #[.int .u8 0] 5)) (some ⟨w.heap.size, 0, none⟩) [0] := (Row.new w [0]).bys (by simp)
set_option maxRecDepth 100000 in
set_option maxHeartbeats 1000000 in
theorem walk (a0 a1 : Option Addr) (len0 cap0 len1 cap1 n : Nat) (A B : List Nat) (w : World) (hA : A.length = len0) (hB : B.length = len1) (hb0 : Bys w a0 A) (hb1 : Bys w a1 B)
    (hc0 : len0 ≤ cap0) (hc1 : len1 ≤ cap1) (hr0 : len0 ≤ 140737488355328) (hr1 : len1 ≤ 140737488355328) (way : (len1 < len0 ∧ n = len1) ∨ (¬ len1 < len0 ∧ n = len0)) :
    Calls Try.prog 3 #[.slice a0 len0 cap0, .slice a1 len1 cap1] w fun e w' => e = .returned (.bool true) ∧ Below w.heap.size w w' := by
  have H0 := hidden hb0
  have H1 := hidden hb1
  have HA := hidden hA
  have HB := hidden hB
  have hn0 : n ≤ len0 := by omega
  have hn1 : n ≤ len1 := by omega
  have hn : n ≤ 140737488355328 := by omega
  have hmk := run_make_row' (P := Try.prog) 22 5 (.int .u8 0) 1 Try.underlying22 info5 rfl .i64 .i64 n (by omega) (by omega)
  clear hb0 hb1 hA hB
  have e1 : go 0 [] = 0 := by decide
  have e2 : go 0 [0] = 3523407757 := by decide
  rcases way with ⟨c, e⟩ | ⟨c, e⟩
  · subst e
    go_enter Try.func3, Try.ntmps3
    go_wp2_with fail
    refine (sum_calls none 0 0 [] _ rfl (by decide) (Bys.nil _ _)).mono ?_
    rintro e w ⟨rfl, rfl⟩
    rw [e1]
    go_wp2_with fail
    refine (sum_calls (some ⟨w.heap.size, 0, none⟩) 1 1 [0] _ rfl (by decide) (bys0 w)).mono ?_
    rintro e w' ⟨rfl, rfl⟩
    rw [e2]
    go_wp2_with fail
    go_loopw [10] (fun i wr => ∃ k : Nat, k ≤ n ∧ i = .int .i64 k ∧ Hid (St w wr A B n k)) (fun i _ => n - (intOf i).toNat)
    case atStart => exact ⟨0, Nat.zero_le _, rfl, st_start w A B n⟩
    case round =>
      obtain ⟨k, hk, rfl, HS⟩ := hrel
      by_cases h : k < n
      · obtain ⟨b0, o0, rfl, q0⟩ := (H0.out.below HS.out.1).2 k (by have := HA.out; omega)
        obtain ⟨b1, o1, rfl, q1⟩ := (H1.out.below HS.out.1).2 k (by have := HB.out; omega)
        obtain ⟨q2, q3⟩ := st_cell HS.out h (by have := HA.out; omega) (by have := HB.out; omega)
        have HT := hidden (st_step HS.out h (by have := HA.out; omega) (by have := HB.out; omega) H0.out.1 H1.out.1)
        generalize A.getD k 0 = x at *
        generalize B.getD k 0 = y at *
        generalize (xs A B n k).getD k 0 = z at *
        go_wp2_with fail
        go_region
        go_wp2_with fail
        go_roundw
        case rel => exact ⟨k + 1, by omega, by go_num, HT.out⟩
        case measure => simp [intOf]; omega
      · have ek : k = n := by omega
        subst ek
        have B1 : Hid (Arg wr (some ⟨w.heap.size + 1, 0, none⟩) k (xs A B k k)) := ⟨HS.out.2.1.bys (by rw [xs_all]; exact zx_lt (take_lt A H0.out.1 k) (take_lt B H1.out.1 k)), xs_len (Nat.le_refl k) (by have := HA.out; omega) (by have := HB.out; omega), by omega⟩
        have B2 : Hid (Arg wr (some ⟨w.heap.size + 1 + 1, 0, none⟩) k (List.replicate k 0)) := ⟨HS.out.2.2.bys (fun c hc => by rw [List.eq_of_mem_replicate hc]; decide), by simp, by omega⟩
        have B3 : Hid (Arg wr a0 k (A.take k)) := ⟨(H0.out.below HS.out.1).take k, by have := HA.out; simp; omega, by omega⟩
        have B4 : Hid (Arg wr a1 k (B.take k)) := ⟨(H1.out.below HS.out.1).take k, by have := HB.out; simp; omega, by omega⟩
        have s0 := cut_high a0 len0 cap0 k (by omega)
        have s1 := cut_high a1 k cap1 k (by omega)
        have d := fin_eq A B k (by have := HA.out; omega) (by have := HB.out; omega) H0.out.1 H1.out.1
        go_wp2_with fail
        go_quiet ((go_at_call 4; apply Calls.quiet_of_same; apply sum_arg; first | exact B1.out | exact B2.out | exact B3.out | exact B4.out))
        go_wp2_with fail
        go_ret
        exact ⟨rfl, below_drewN HS.out.1 _⟩
  · subst e
    go_enter Try.func3, Try.ntmps3
    go_wp2_with fail
    refine (sum_calls none 0 0 [] _ rfl (by decide) (Bys.nil _ _)).mono ?_
    rintro e w ⟨rfl, rfl⟩
    rw [e1]
    go_wp2_with fail
    refine (sum_calls (some ⟨w.heap.size, 0, none⟩) 1 1 [0] _ rfl (by decide) (bys0 w)).mono ?_
    rintro e w' ⟨rfl, rfl⟩
    rw [e2]
    go_wp2_with fail
    go_loopw [10] (fun i wr => ∃ k : Nat, k ≤ n ∧ i = .int .i64 k ∧ Hid (St w wr A B n k)) (fun i _ => n - (intOf i).toNat)
    case atStart => exact ⟨0, Nat.zero_le _, rfl, st_start w A B n⟩
    case round =>
      obtain ⟨k, hk, rfl, HS⟩ := hrel
      by_cases h : k < n
      · obtain ⟨b0, o0, rfl, q0⟩ := (H0.out.below HS.out.1).2 k (by have := HA.out; omega)
        obtain ⟨b1, o1, rfl, q1⟩ := (H1.out.below HS.out.1).2 k (by have := HB.out; omega)
        obtain ⟨q2, q3⟩ := st_cell HS.out h (by have := HA.out; omega) (by have := HB.out; omega)
        have HT := hidden (st_step HS.out h (by have := HA.out; omega) (by have := HB.out; omega) H0.out.1 H1.out.1)
        generalize A.getD k 0 = x at *
        generalize B.getD k 0 = y at *
        generalize (xs A B n k).getD k 0 = z at *
        go_wp2_with fail
        go_region
        go_wp2_with fail
        go_roundw
        case rel => exact ⟨k + 1, by omega, by go_num, HT.out⟩
        case measure => simp [intOf]; omega
      · have ek : k = n := by omega
        subst ek
        have B1 : Hid (Arg wr (some ⟨w.heap.size + 1, 0, none⟩) k (xs A B k k)) := ⟨HS.out.2.1.bys (by rw [xs_all]; exact zx_lt (take_lt A H0.out.1 k) (take_lt B H1.out.1 k)), xs_len (Nat.le_refl k) (by have := HA.out; omega) (by have := HB.out; omega), by omega⟩
        have B2 : Hid (Arg wr (some ⟨w.heap.size + 1 + 1, 0, none⟩) k (List.replicate k 0)) := ⟨HS.out.2.2.bys (fun c hc => by rw [List.eq_of_mem_replicate hc]; decide), by simp, by omega⟩
        have B3 : Hid (Arg wr a0 k (A.take k)) := ⟨(H0.out.below HS.out.1).take k, by have := HA.out; simp; omega, by omega⟩
        have B4 : Hid (Arg wr a1 k (B.take k)) := ⟨(H1.out.below HS.out.1).take k, by have := HB.out; simp; omega, by omega⟩
        have s0 := cut_high a0 k cap0 k (by omega)
        have s1 := cut_high a1 len1 cap1 k (by omega)
        have d := fin_eq A B k (by have := HA.out; omega) (by have := HB.out; omega) H0.out.1 H1.out.1
        go_wp2_with fail
        go_quiet ((go_at_call 4; apply Calls.quiet_of_same; apply sum_arg; first | exact B1.out | exact B2.out | exact B3.out | exact B4.out))
        go_wp2_with fail
        go_ret
        exact ⟨rfl, below_drewN HS.out.1 _⟩
end Go.Proofs.Ytifjlknlndndhab.Lin
