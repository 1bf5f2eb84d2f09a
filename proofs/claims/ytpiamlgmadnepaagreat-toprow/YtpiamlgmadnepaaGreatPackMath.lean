/-
  Packets as numbers and bytes: which are right, their bytes, what bytes are read as, and their parts. Of numbers and lists alone; no program.
-/
import Derived.WalkKit
set_option linter.unusedVariables false
namespace Go.Proofs.YtpiamlgmadnepaaGreat.PM

/-- the fault of a packet: 1 of a number, 4 of its Body, 0 none -/
def fault (seq time layer level : Int) (n : Nat) : Nat :=
  if 0 ≤ seq ∧ seq ≤ 65535 ∧ 0 ≤ time ∧ time ≤ 4294967295 ∧ 0 ≤ layer ∧ layer ≤ 3 ∧ 0 ≤ level ∧ level ≤ 127 then (if n ≤ 1000 then 0 else 4) else 1
theorem fault_zero {seq time layer level : Int} {n : Nat} (h : fault seq time layer level n = 0) : ∃ s t l v : Nat, seq = s ∧ time = t ∧ layer = l ∧ level = v ∧ s ≤ 65535 ∧ t ≤ 4294967295 ∧ l ≤ 3 ∧ v ≤ 127 ∧ n ≤ 1000 := by
  unfold fault at h
  split at h
  · rename_i hh
    split at h
    · exact ⟨seq.toNat, time.toNat, layer.toNat, level.toNat, by omega, by omega, by omega, by omega, by omega, by omega, by omega, by omega, by omega⟩
    · omega
  · omega
theorem fault_cases (seq time layer level : Int) (n : Nat) : fault seq time layer level n = 0 ∨ fault seq time layer level n = 1 ∨ fault seq time layer level n = 4 := by
  unfold fault
  split
  · split <;> simp
  · simp

/-- the first byte -/
def first (layer : Nat) (start : Bool) : Nat := 128 + layer + (if start then 32 else 0)
/-- the eight bytes ahead of a Body -/
def head (seq time layer level : Nat) (start : Bool) : List Nat :=
  [first layer start, level, seq / 256, seq % 256, time / 16777216, time / 65536 % 256, time / 256 % 256, time % 256]
theorem head_len (seq time layer level : Nat) (start : Bool) : (head seq time layer level start).length = 8 := rfl
theorem head_lt {seq time layer level : Nat} (start : Bool) (hs : seq ≤ 65535) (ht : time ≤ 4294967295) (hl : layer ≤ 3) (hv : level ≤ 127) : ∀ c ∈ head seq time layer level start, c < 256 := by
  intro c hc
  simp only [head, List.mem_cons, List.not_mem_nil, or_false] at hc
  rcases hc with rfl | rfl | rfl | rfl | rfl | rfl | rfl | rfl
  · unfold first; split <;> omega
  all_goals omega

/-- may it be a first byte -/
def good (x : Nat) : Bool := (decide (128 ≤ x) && decide (x ≤ 131)) || (decide (160 ≤ x) && decide (x ≤ 163))
/-- the fault of bytes -/
def rfault (B : List Nat) : Nat :=
  if B.length < 8 then 8 else if good (B.getD 0 0) && decide (B.getD 1 0 ≤ 127) then (if B.length ≤ 1008 then 0 else 4) else 2
/-- eight bytes, and the rest -/
theorem eight {B : List Nat} (h : 8 ≤ B.length) : ∃ x0 x1 x2 x3 x4 x5 x6 x7 R, B = x0 :: x1 :: x2 :: x3 :: x4 :: x5 :: x6 :: x7 :: R := by
  match B, h with
  | x0 :: x1 :: x2 :: x3 :: x4 :: x5 :: x6 :: x7 :: R, _ => exact ⟨x0, x1, x2, x3, x4, x5, x6, x7, R, rfl⟩
theorem rfault_short {B : List Nat} (h : B.length < 8) : rfault B = 8 := by unfold rfault; rw [if_pos h]
theorem rfault_eight (x0 x1 x2 x3 x4 x5 x6 x7 : Nat) (R : List Nat) :
    rfault (x0 :: x1 :: x2 :: x3 :: x4 :: x5 :: x6 :: x7 :: R) = if good x0 && decide (x1 ≤ 127) then (if R.length ≤ 1000 then 0 else 4) else 2 := by
  unfold rfault
  simp only [List.length_cons, List.getD_cons_zero, List.getD_cons_succ]
  rw [if_neg (by omega)]
  by_cases h : R.length ≤ 1000
  · rw [if_pos (by omega : R.length + 1 + 1 + 1 + 1 + 1 + 1 + 1 + 1 ≤ 1008), if_pos h]
  · rw [if_neg (by omega : ¬ R.length + 1 + 1 + 1 + 1 + 1 + 1 + 1 + 1 ≤ 1008), if_neg h]
theorem good_first {l : Nat} (s : Bool) (h : l ≤ 3) : good (first l s) = true := by
  have : ∀ l : Fin 4, ∀ s : Bool, good (first l.val s) = true := by decide
  exact this ⟨l, by omega⟩ s
theorem first_mod {l : Nat} (s : Bool) (h : l ≤ 3) : first l s % 4 = l := by
  have : ∀ l : Fin 4, ∀ s : Bool, first l.val s % 4 = l.val := by decide
  exact this ⟨l, by omega⟩ s
theorem first_start {l : Nat} (s : Bool) (h : l ≤ 3) : decide (160 ≤ first l s) = s := by
  have : ∀ l : Fin 4, ∀ s : Bool, decide (160 ≤ first l.val s) = s := by decide
  exact this ⟨l, by omega⟩ s
theorem first_lt {l : Nat} (s : Bool) (h : l ≤ 3) : first l s < 256 := by unfold first; split <;> omega
theorem good_back {x : Nat} (h : good x = true) : first (x % 4) (decide (160 ≤ x)) = x ∧ x < 256 := by
  have hx : x < 164 := by
    simp only [good, Bool.or_eq_true, Bool.and_eq_true, decide_eq_true_eq] at h
    omega
  have : ∀ x : Fin 164, good x.val = true → first (x.val % 4) (decide (160 ≤ x.val)) = x.val := by decide +kernel
  exact ⟨this ⟨x, hx⟩ h, by omega⟩
/-- what is read of a head is what it was made of -/
theorem read_head (seq time layer level : Nat) (start : Bool) (hs : seq ≤ 65535) (ht : time ≤ 4294967295) (hl : layer ≤ 3) :
    ∃ x0 x1 x2 x3 x4 x5 x6 x7, head seq time layer level start = [x0, x1, x2, x3, x4, x5, x6, x7] ∧ x0 % 4 = layer ∧ decide (160 ≤ x0) = start ∧ good x0 = true ∧ x1 = level ∧ x2 * 256 + x3 = seq ∧ ((x4 * 256 + x5) * 256 + x6) * 256 + x7 = time :=
  ⟨_, _, _, _, _, _, _, _, rfl, first_mod start hl, first_start start hl, good_first start hl, rfl, by omega, by omega⟩
/-- what was read makes the bytes again -/
theorem head_read {x0 x1 x2 x3 x4 x5 x6 x7 : Nat} (h : good x0 = true) (h3 : x3 < 256) (h4 : x4 < 256) (h5 : x5 < 256) (h6 : x6 < 256) (h7 : x7 < 256) :
    head (x2 * 256 + x3) (((x4 * 256 + x5) * 256 + x6) * 256 + x7) (x0 % 4) x1 (decide (160 ≤ x0)) = [x0, x1, x2, x3, x4, x5, x6, x7] := by
  simp only [head, (good_back h).1, List.cons.injEq, and_true, true_and]
  omega

/-- how many parts -/
def count (n size : Nat) : Nat := max 1 ((n + size - 1) / size)
theorem count_pos (n size : Nat) : 1 ≤ count n size := by unfold count; omega
theorem count_le {n size : Nat} (hs : 1 ≤ size) (hn : n ≤ 1000) : count n size ≤ 1000 := by
  unfold count
  have : (n + size - 1) / size ≤ n := by
    rcases Nat.eq_zero_or_pos n with h | h
    · subst h; rw [Nat.div_eq_of_lt (by omega)]; omega
    · apply Nat.le_of_lt_succ; apply (Nat.div_lt_iff_lt_mul (by omega)).2
      have := Nat.mul_le_mul (show 1 ≤ size from hs) (Nat.le_refl n)
      rw [Nat.succ_mul, Nat.mul_comm n size]; have := Nat.mul_le_mul_right n hs; omega
  omega
/-- part i begins within the Body -/
theorem from_le {n size i : Nat} (hs : 1 ≤ size) (hi : i < count n size) : i * size ≤ n := by
  unfold count at hi
  rcases Nat.eq_zero_or_pos i with h | h
  · subst h; omega
  · have h2 : i < (n + size - 1) / size := by omega
    have h3 : i + 1 ≤ (n + size - 1) / size := h2
    have h4 := (Nat.le_div_iff_mul_le (by omega)).1 h3
    rw [Nat.succ_mul] at h4
    omega
/-- where no part is left none of the Body is -/
theorem count_ends {n size : Nat} (hs : 1 ≤ size) : n ≤ count n size * size := by
  unfold count
  have h := Nat.div_add_mod (n + size - 1) size
  have h2 := Nat.mod_lt (n + size - 1) (show 0 < size by omega)
  have h3 := Nat.mul_le_mul_right size (Nat.le_max_right 1 ((n + size - 1) / size))
  rw [Nat.mul_comm] at h
  omega
/-- the number of parts is the first at which nothing is left -/
theorem left_of_lt {n size i : Nat} (hs : 1 ≤ size) (hi : i < count n size) (h0 : 0 < i) : i * size < n := by
  unfold count at hi
  have h3 : i + 1 ≤ (n + size - 1) / size := by omega
  have h4 := (Nat.le_div_iff_mul_le (by omega)).1 h3
  rw [Nat.succ_mul] at h4
  omega
/-- part i of a Body -/
def piece (L : List Nat) (size i : Nat) : List Nat := (L.drop (i * size)).take size
theorem piece_len (L : List Nat) (size i : Nat) : (piece L size i).length = min size (L.length - i * size) := by simp [piece]
theorem piece_lt {L : List Nat} (h : ∀ c ∈ L, c < 256) (size i : Nat) : ∀ c ∈ piece L size i, c < 256 :=
  fun c hc => h c (List.mem_of_mem_drop (List.mem_of_mem_take hc))
/-- parts make the whole -/
theorem take_piece (L : List Nat) (size i : Nat) : L.take (i * size) ++ piece L size i = L.take ((i + 1) * size) := by
  unfold piece
  rw [Nat.succ_mul, List.take_add]
end Go.Proofs.YtpiamlgmadnepaaGreat.PM

