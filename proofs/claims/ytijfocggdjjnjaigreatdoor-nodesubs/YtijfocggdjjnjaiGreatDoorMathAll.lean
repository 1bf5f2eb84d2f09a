/-
  PackMath, RingMath, GapsMath, OrderMath, LayerMath, OutMath, PullMath in one text.
-/
import Derived.WalkKit
import Derived.Test.YtijfocggdjjnjaiGreatDoorMem
import Derived.Maps.RangeWalk
import Derived.Lib.SlKeysI

/-
  Packets as numbers and bytes: which are right, their bytes, what bytes are read as, and their parts. Of numbers and lists alone; no program.
-/
set_option linter.unusedVariables false
namespace Go.Proofs.YtijfocggdjjnjaiGreatDoor.PM

/-- the fault of a packet: 1 of a number, 4 of its Body, 0 none -/
def fault (seq time layer level : Int) (n : Nat) : Nat :=
  if 0 ≤ seq ∧ seq ≤ 65535 ∧ 0 ≤ time ∧ time ≤ 4294967295 ∧ 0 ≤ layer ∧ layer ≤ 3 ∧ 0 ≤ level ∧ level ≤ 127 then (if n ≤ 1000 then 0 else 4) else 1
theorem fault_zero {seq time layer level : Int} {n : Nat} (h : fault seq time layer level n = 0) : ∃ s t l v : Nat, seq = s ∧ time = t ∧ layer = l ∧ level = v ∧ s ≤ 65535 ∧ t ≤ 4294967295 ∧ l ≤ 3 ∧ v ≤ 127 ∧ n ≤ 1000 := by
  unfold fault at h
  split at h
  · rename_i hh
    split at h
    · exact ⟨seq.toNat, time.toNat, layer.toNat, level.toNat, by omega, by omega, by omega, by omega, by omega, by omega, by omega, by omega, by omega⟩
    · omega
  · omega
theorem fault_cases (seq time layer level : Int) (n : Nat) : fault seq time layer level n = 0 ∨ fault seq time layer level n = 1 ∨ fault seq time layer level n = 4 := by
  unfold fault
  split
  · split <;> simp
  · simp

/-- the first byte -/
def first (layer : Nat) (start : Bool) : Nat := 128 + layer + (if start then 32 else 0)
/-- the eight bytes ahead of a Body -/
def head (seq time layer level : Nat) (start : Bool) : List Nat :=
  [first layer start, level, seq / 256, seq % 256, time / 16777216, time / 65536 % 256, time / 256 % 256, time % 256]
theorem head_len (seq time layer level : Nat) (start : Bool) : (head seq time layer level start).length = 8 := rfl
theorem head_lt {seq time layer level : Nat} (start : Bool) (hs : seq ≤ 65535) (ht : time ≤ 4294967295) (hl : layer ≤ 3) (hv : level ≤ 127) : ∀ c ∈ head seq time layer level start, c < 256 := by
  intro c hc
  simp only [head, List.mem_cons, List.not_mem_nil, or_false] at hc
  rcases hc with rfl | rfl | rfl | rfl | rfl | rfl | rfl | rfl
  · unfold first; split <;> omega
  all_goals omega

/-- may it be a first byte -/
def good (x : Nat) : Bool := (decide (128 ≤ x) && decide (x ≤ 131)) || (decide (160 ≤ x) && decide (x ≤ 163))
/-- the fault of bytes -/
def rfault (B : List Nat) : Nat :=
  if B.length < 8 then 8 else if good (B.getD 0 0) && decide (B.getD 1 0 ≤ 127) then (if B.length ≤ 1008 then 0 else 4) else 2
/-- eight bytes, and the rest -/
theorem eight {B : List Nat} (h : 8 ≤ B.length) : ∃ x0 x1 x2 x3 x4 x5 x6 x7 R, B = x0 :: x1 :: x2 :: x3 :: x4 :: x5 :: x6 :: x7 :: R := by
  match B, h with
  | x0 :: x1 :: x2 :: x3 :: x4 :: x5 :: x6 :: x7 :: R, _ => exact ⟨x0, x1, x2, x3, x4, x5, x6, x7, R, rfl⟩
theorem rfault_short {B : List Nat} (h : B.length < 8) : rfault B = 8 := by unfold rfault; rw [if_pos h]
theorem rfault_eight (x0 x1 x2 x3 x4 x5 x6 x7 : Nat) (R : List Nat) :
    rfault (x0 :: x1 :: x2 :: x3 :: x4 :: x5 :: x6 :: x7 :: R) = if good x0 && decide (x1 ≤ 127) then (if R.length ≤ 1000 then 0 else 4) else 2 := by
  unfold rfault
  simp only [List.length_cons, List.getD_cons_zero, List.getD_cons_succ]
  rw [if_neg (by omega)]
  by_cases h : R.length ≤ 1000
  · rw [if_pos (by omega : R.length + 1 + 1 + 1 + 1 + 1 + 1 + 1 + 1 ≤ 1008), if_pos h]
  · rw [if_neg (by omega : ¬ R.length + 1 + 1 + 1 + 1 + 1 + 1 + 1 + 1 ≤ 1008), if_neg h]
theorem good_first {l : Nat} (s : Bool) (h : l ≤ 3) : good (first l s) = true := by
  have : ∀ l : Fin 4, ∀ s : Bool, good (first l.val s) = true := by decide
  exact this ⟨l, by omega⟩ s
theorem first_mod {l : Nat} (s : Bool) (h : l ≤ 3) : first l s % 4 = l := by
  have : ∀ l : Fin 4, ∀ s : Bool, first l.val s % 4 = l.val := by decide
  exact this ⟨l, by omega⟩ s
theorem first_start {l : Nat} (s : Bool) (h : l ≤ 3) : decide (160 ≤ first l s) = s := by
  have : ∀ l : Fin 4, ∀ s : Bool, decide (160 ≤ first l.val s) = s := by decide
  exact this ⟨l, by omega⟩ s
theorem first_lt {l : Nat} (s : Bool) (h : l ≤ 3) : first l s < 256 := by unfold first; split <;> omega
theorem good_back {x : Nat} (h : good x = true) : first (x % 4) (decide (160 ≤ x)) = x ∧ x < 256 := by
  have hx : x < 164 := by
    simp only [good, Bool.or_eq_true, Bool.and_eq_true, decide_eq_true_eq] at h
    omega
  have : ∀ x : Fin 164, good x.val = true → first (x.val % 4) (decide (160 ≤ x.val)) = x.val := by decide +kernel
  exact ⟨this ⟨x, hx⟩ h, by omega⟩
/-- what is read of a head is what it was made of -/
theorem read_head (seq time layer level : Nat) (start : Bool) (hs : seq ≤ 65535) (ht : time ≤ 4294967295) (hl : layer ≤ 3) :
    ∃ x0 x1 x2 x3 x4 x5 x6 x7, head seq time layer level start = [x0, x1, x2, x3, x4, x5, x6, x7] ∧ x0 % 4 = layer ∧ decide (160 ≤ x0) = start ∧ good x0 = true ∧ x1 = level ∧ x2 * 256 + x3 = seq ∧ ((x4 * 256 + x5) * 256 + x6) * 256 + x7 = time :=
  ⟨_, _, _, _, _, _, _, _, rfl, first_mod start hl, first_start start hl, good_first start hl, rfl, by omega, by omega⟩
/-- what was read makes the bytes again -/
theorem head_read {x0 x1 x2 x3 x4 x5 x6 x7 : Nat} (h : good x0 = true) (h3 : x3 < 256) (h4 : x4 < 256) (h5 : x5 < 256) (h6 : x6 < 256) (h7 : x7 < 256) :
    head (x2 * 256 + x3) (((x4 * 256 + x5) * 256 + x6) * 256 + x7) (x0 % 4) x1 (decide (160 ≤ x0)) = [x0, x1, x2, x3, x4, x5, x6, x7] := by
  simp only [head, (good_back h).1, List.cons.injEq, and_true, true_and]
  omega

/-- how many parts -/
def count (n size : Nat) : Nat := max 1 ((n + size - 1) / size)
theorem count_pos (n size : Nat) : 1 ≤ count n size := by unfold count; omega
theorem count_le {n size : Nat} (hs : 1 ≤ size) (hn : n ≤ 1000) : count n size ≤ 1000 := by
  unfold count
  have : (n + size - 1) / size ≤ n := by
    rcases Nat.eq_zero_or_pos n with h | h
    · subst h; rw [Nat.div_eq_of_lt (by omega)]; omega
    · apply Nat.le_of_lt_succ; apply (Nat.div_lt_iff_lt_mul (by omega)).2
      have := Nat.mul_le_mul (show 1 ≤ size from hs) (Nat.le_refl n)
      rw [Nat.succ_mul, Nat.mul_comm n size]; have := Nat.mul_le_mul_right n hs; omega
  omega
/-- part i begins within the Body -/
theorem from_le {n size i : Nat} (hs : 1 ≤ size) (hi : i < count n size) : i * size ≤ n := by
  unfold count at hi
  rcases Nat.eq_zero_or_pos i with h | h
  · subst h; omega
  · have h2 : i < (n + size - 1) / size := by omega
    have h3 : i + 1 ≤ (n + size - 1) / size := h2
    have h4 := (Nat.le_div_iff_mul_le (by omega)).1 h3
    rw [Nat.succ_mul] at h4
    omega
/-- where no part is left none of the Body is -/
theorem count_ends {n size : Nat} (hs : 1 ≤ size) : n ≤ count n size * size := by
  unfold count
  have h := Nat.div_add_mod (n + size - 1) size
  have h2 := Nat.mod_lt (n + size - 1) (show 0 < size by omega)
  have h3 := Nat.mul_le_mul_right size (Nat.le_max_right 1 ((n + size - 1) / size))
  rw [Nat.mul_comm] at h
  omega
/-- the number of parts is the first at which nothing is left -/
theorem left_of_lt {n size i : Nat} (hs : 1 ≤ size) (hi : i < count n size) (h0 : 0 < i) : i * size < n := by
  unfold count at hi
  have h3 : i + 1 ≤ (n + size - 1) / size := by omega
  have h4 := (Nat.le_div_iff_mul_le (by omega)).1 h3
  rw [Nat.succ_mul] at h4
  omega
/-- part i of a Body -/
def piece (L : List Nat) (size i : Nat) : List Nat := (L.drop (i * size)).take size
theorem piece_len (L : List Nat) (size i : Nat) : (piece L size i).length = min size (L.length - i * size) := by simp [piece]
theorem piece_lt {L : List Nat} (h : ∀ c ∈ L, c < 256) (size i : Nat) : ∀ c ∈ piece L size i, c < 256 :=
  fun c hc => h c (List.mem_of_mem_drop (List.mem_of_mem_take hc))
/-- parts make the whole -/
theorem take_piece (L : List Nat) (size i : Nat) : L.take (i * size) ++ piece L size i = L.take ((i + 1) * size) := by
  unfold piece
  rw [Nat.succ_mul, List.take_add]
end Go.Proofs.YtijfocggdjjnjaiGreatDoor.PM

/-
  Packets kept by number: as a list, and as what a map reads as. Of numbers, lists and worlds alone; no program.
-/
namespace Go.Proofs.YtijfocggdjjnjaiGreatDoor.RM
open Go Go.RowKit Go.Maps Go.Proofs.YtijfocggdjjnjaiGreatDoor.Mem
set_option linter.unusedVariables false

/-- a packet: its numbers, its Start, its Body -/
structure Pk where
  s : Int
  t : Int
  l : Int
  q : Int
  st : Bool
  L : List Nat
  bv : Value
/-- packets by number -/
abbrev Its := List (Int × Pk)
def key (y : Int) : Lit := .int .i64 y
theorem key_inj {x y : Int} (h : key x = key y) : x = y := by
  unfold key at h
  injection h

def top (T y : Int) : Int := if T < y then y else T
/-- what is kept of the last n numbers -/
def keeps (n T : Int) (M : Its) : Its := M.filter fun i => decide (T - n < i.1)
def has (M : Its) (y : Int) : Bool := M.any fun i => i.1 == y
theorem has_iff {M : Its} {y : Int} : has M y = true ↔ ∃ i ∈ M, i.1 = y := by
  simp [has]
theorem has_no {M : Its} {y : Int} (h : has M y = false) : ∀ i ∈ M, i.1 ≠ y := by
  intro i hi e
  have := has_iff.2 ⟨i, hi, e⟩
  rw [h] at this
  cases this

structure Inv (n T : Int) (M : Its) : Prop where
  n1 : 1 ≤ n
  n2 : n ≤ 64
  t1 : -1 ≤ T
  t2 : T ≤ 1099511627776
  mem : ∀ i ∈ M, 0 ≤ i.1 ∧ i.1 ≤ T ∧ T - n < i.1
  one : M.Pairwise fun a b => a.1 ≠ b.1
  tops : (T = -1 ∧ M = []) ∨ ∃ i ∈ M, i.1 = T

theorem inv_start {n : Int} (h1 : 1 ≤ n) (h2 : n ≤ 64) : Inv n (-1) [] :=
  ⟨h1, h2, by omega, by omega, by simp, List.Pairwise.nil, .inl ⟨rfl, rfl⟩⟩

/-- no more than n are kept -/
theorem Inv.len {n T : Int} {M : Its} (h : Inv n T M) : (M.length : Int) ≤ n := by
  have hn : (M.map fun i => (T - i.1).toNat).Nodup := by
    rw [List.nodup_iff_pairwise_ne, List.pairwise_map]
    refine h.one.imp_of_mem ?_
    intro a b ha hb hab e
    have := h.mem a ha
    have := h.mem b hb
    omega
  have := List.Nodup.length_le_of_subset (l₂ := List.range n.toNat) hn (by
    intro x hx
    obtain ⟨i, hi, rfl⟩ := List.mem_map.1 hx
    have := h.mem i hi
    simp only [List.mem_range]
    omega)
  simp at this
  have := h.n1
  omega

theorem inv_put {n T y : Int} {M : Its} (h : Inv n T M) (p : Pk) (h0 : 0 ≤ y) (h1 : y ≤ 1099511627776) (ho : T - n < y) (hh : has M y = false) : Inv n (top T y) (keeps n (top T y) M ++ [(y, p)]) := by
  have hno := has_no hh
  obtain ⟨n1, n2, t1, t2, hm, h5, h6⟩ := h
  refine ⟨n1, n2, ?_, ?_, ?_, ?_, ?_⟩
  · unfold top; split <;> omega
  · unfold top; split <;> omega
  · intro i hi
    rcases List.mem_append.1 hi with hi | hi
    · obtain ⟨hi, hk⟩ := List.mem_filter.1 hi
      have := hm i hi
      simp only [decide_eq_true_eq] at hk
      refine ⟨this.1, ?_, hk⟩
      unfold top; split <;> omega
    · simp only [List.mem_singleton] at hi
      subst hi
      unfold top; split <;> simp <;> omega
  · rw [List.pairwise_append]
    refine ⟨h5.filter _, by simp, ?_⟩
    intro a ha b hb
    simp only [List.mem_singleton] at hb
    subst hb
    exact hno a (List.mem_filter.1 ha).1
  · right
    by_cases hu : T < y
    · exact ⟨(y, p), by simp, by simp [top, hu]⟩
    · have ht : top T y = T := by simp [top, hu]
      rcases h6 with ⟨h6, _⟩ | ⟨i, hi, e⟩
      · omega
      · exact ⟨i, List.mem_append.2 (.inl (List.mem_filter.2 ⟨hi, by rw [ht]; simp; omega⟩)), by rw [ht, e]⟩
/-- where nothing rises all is kept -/
theorem keeps_same {n T : Int} {M : Its} (h : Inv n T M) : keeps n T M = M := by
  unfold keeps
  rw [List.filter_eq_self]
  intro i hi
  have := h.mem i hi
  simp; omega

/-- one Put: the fault, whether it is new, the greatest number, what is kept -/
def pf (n T y : Int) (f : Nat) : Nat := if y < 0 ∨ 1099511627776 < y then 1 else if f ≠ 0 then f else if y ≤ T - n then 6 else 0
def px (n T y : Int) (M : Its) (f : Nat) : Bool := decide (pf n T y f = 0) && !has M y
def pT (n T y : Int) (M : Its) (f : Nat) : Int := if px n T y M f then top T y else T
def pM (n T y : Int) (M : Its) (f : Nat) (p : Pk) : Its := if px n T y M f then keeps n (top T y) M ++ [(y, p)] else M
theorem pf_zero {n T y : Int} {f : Nat} (h : pf n T y f = 0) : 0 ≤ y ∧ y ≤ 1099511627776 ∧ f = 0 ∧ T - n < y := by
  unfold pf at h
  split at h
  · omega
  · split at h
    · omega
    · split at h
      · omega
      · rename_i h1 h2 h3
        exact ⟨by omega, by omega, by omega, by omega⟩
theorem pf_mk {n T y : Int} {f : Nat} (h0 : 0 ≤ y) (h1 : y ≤ 1099511627776) (hf : f = 0) (ho : T - n < y) : pf n T y f = 0 := by
  unfold pf
  rw [if_neg (by omega), if_neg (by omega), if_neg (by omega)]
theorem px_true {n T y : Int} {M : Its} {f : Nat} (h : px n T y M f = true) : pf n T y f = 0 ∧ has M y = false := by
  simpa [px] using h
theorem inv_step {n T y : Int} {M : Its} (h : Inv n T M) (f : Nat) (p : Pk) : Inv n (pT n T y M f) (pM n T y M f p) := by
  unfold pT pM
  by_cases hx : px n T y M f = true
  · obtain ⟨h1, h2⟩ := px_true hx
    obtain ⟨k1, k2, _, k4⟩ := pf_zero h1
    simp only [hx, if_true]
    exact inv_put h p k1 k2 k4 h2
  · simp only [hx]
    exact h

/-- the least number -/
def low (T : Int) (M : Its) : Int := M.foldl (fun a i => min a i.1) T
theorem low_le (T : Int) (M : Its) : low T M ≤ T ∧ (∀ i ∈ M, low T M ≤ i.1) ∧ (low T M = T ∨ ∃ i ∈ M, low T M = i.1) := by
  induction M generalizing T with
  | nil => exact ⟨Int.le_refl _, by simp, .inl rfl⟩
  | cons a M ih =>
    obtain ⟨h1, h2, h3⟩ := ih (min T a.1)
    have e : low T (a :: M) = low (min T a.1) M := rfl
    rw [e]
    refine ⟨by omega, ?_, ?_⟩
    · intro i hi
      rcases List.mem_cons.1 hi with rfl | hi
      · omega
      · exact h2 i hi
    · rcases h3 with h3 | ⟨i, hi, h3⟩
      · rcases Int.le_total T a.1 with hle | hle
        · left; omega
        · right; exact ⟨a, by simp, by omega⟩
      · right; exact ⟨i, by simp [hi], h3⟩
theorem low_eq {T m : Int} {M : Its} (h1 : m ≤ T) (h2 : ∀ i ∈ M, m ≤ i.1) (h3 : m = T ∨ ∃ i ∈ M, m = i.1) : m = low T M := by
  obtain ⟨k1, k2, k3⟩ := low_le T M
  have a : m ≤ low T M := by
    rcases k3 with k3 | ⟨i, hi, k3⟩
    · omega
    · have := h2 i hi; omega
  have b : low T M ≤ m := by
    rcases h3 with h3 | ⟨i, hi, h3⟩
    · omega
    · have := k2 i hi; omega
  omega

/-! what a map reads as -/
/-- the value of a packet, its Body in memory of the call's own -/
def PkIs (w : World) (v : Value) (p : Pk) : Prop :=
  ∃ a m c, v = .agg #[.int .i64 p.s, .int .i64 p.t, .int .i64 p.l, .int .i64 p.q, .bool p.st, .slice a m c] ∧ w.ownsRow 0 5 1 (.slice a m c) m (cellsOf p.L) ∧ (∀ x ∈ p.L, x < 256) ∧ m ≤ 1000
theorem own_base {w : World} {base base' e size n : Nat} {v : Value} {xs : List Value} (h : w.ownsRow base e size v n xs) (hb : base' ≤ base) : w.ownsRow base' e size v n xs := by
  refine ⟨h.1, ?_⟩
  rcases h.2 with h | ⟨g, cap, cur, e, hg, r⟩
  · exact .inl h
  · exact .inr ⟨g, cap, cur, e, Nat.le_trans hb hg, r⟩
theorem PkIs.only {w w' : World} {v : Value} {p : Pk} {bs : List Nat} (h : PkIs w v p) (ho : Only bs w w') (hb : ∀ k ∈ bs, ∀ cs fr, w.heap[k]? ≠ some (.cells cs 5 fr)) : PkIs w' v p := by
  obtain ⟨a, m, c, rfl, hr, hx, hm⟩ := h
  refine ⟨a, m, c, rfl, ho.owns hr ?_, hx, hm⟩
  intro k hk hc
  rcases hr.2 with ⟨hn, _⟩ | ⟨g, cap, cur, e, _, hgg, _⟩
  · rw [hn] at hk; simp [Value.ownBlock] at hk
  · rw [e] at hk
    simp [Value.ownBlock] at hk
    subst hk
    exact hb _ hc _ _ hgg
/-- how an element reads: as itself -/
def pkR : Value → Option (DataW Value × List MemPlace)
  | .agg cs => match cs.toList with
    | [.int .i64 _, .int .i64 _, .int .i64 _, .int .i64 _, .bool _, .slice _ _ _] => some (.held (.agg cs), [])
    | _ => none
  | _ => none
theorem pkR_mk (s t l q : Int) (st : Bool) (a : Option Addr) (m c : Nat) : pkR (.agg #[.int .i64 s, .int .i64 t, .int .i64 l, .int .i64 q, .bool st, .slice a m c]) = some (.held (.agg #[.int .i64 s, .int .i64 t, .int .i64 l, .int .i64 q, .bool st, .slice a m c]), []) := rfl
theorem pkR_inv {v : Value} {y : DataW Value × List MemPlace} (h : pkR v = some y) : (∃ s t l q st a m c, v = .agg #[.int .i64 s, .int .i64 t, .int .i64 l, .int .i64 q, .bool st, .slice a m c]) ∧ y = (.held v, []) := by
  unfold pkR at h
  split at h
  · rename_i cs
    split at h
    · rename_i s t l q st a m c hcs
      refine ⟨⟨s, t, l, q, st, a, m, c, ?_⟩, (Option.some.inj h).symm⟩
      congr 1
      exact Array.toList_inj.1 hcs
    · cases h
  · cases h

/-- which keys are there -/
def Keys (D : DataW Value) (M : Its) : Prop := ∀ k : Lit, Maps.has D k = true ↔ ∃ i ∈ M, k = key i.1
/-- what lies at them -/
def Elems (w : World) (D : DataW Value) (M : Its) : Prop := ∀ i ∈ M, ∃ v, (∀ zd, D.atKey (key i.1) zd = .held v) ∧ PkIs w v i.2

theorem Elems.only {w w' : World} {D : DataW Value} {M : Its} {bs : List Nat} (h : Elems w D M) (ho : Only bs w w') (hb : ∀ k ∈ bs, ∀ cs fr, w.heap[k]? ≠ some (.cells cs 5 fr)) : Elems w' D M := by
  intro i hi
  obtain ⟨v, h1, h2⟩ := h i hi
  exact ⟨v, h1, h2.only ho hb⟩
theorem keys_empty : Keys (.map []) [] := by
  intro k
  constructor
  · intro h; simp [Maps.has] at h
  · rintro ⟨i, hi, _⟩; simp at hi
theorem Keys.at {D : DataW Value} {M : Its} (h : Keys D M) (y : Int) : Maps.has D (key y) = has M y := by
  rw [Bool.eq_iff_iff, h (key y), has_iff]
  constructor
  · rintro ⟨i, hi, e⟩; exact ⟨i, hi, (key_inj e).symm⟩
  · rintro ⟨i, hi, e⟩; exact ⟨i, hi, by rw [e]⟩
theorem keyLit (y : Int) : WideAt.IsKeyLit (key y) := trivial
theorem Keys.size {D : DataW Value} {M : Its} (h : Keys D M) (ht : ∃ es, D = .map es ∧ es.Pairwise (fun p q => p.1 ≠ q.1) ∧ ∀ p ∈ es, WideAt.IsKeyLit p.1) (h1 : M.Pairwise fun a b => a.1 ≠ b.1) : Maps.size D = M.length := by
  obtain ⟨es, rfl, hp, hl⟩ := ht
  have n1 : (es.map Prod.fst).Nodup := by rw [List.nodup_iff_pairwise_ne, List.pairwise_map]; exact hp
  have n2 : (M.map fun i => key i.1).Nodup := by
    rw [List.nodup_iff_pairwise_ne, List.pairwise_map]
    exact h1.imp fun hab e => hab (key_inj e)
  have s1 : ∀ x ∈ es.map Prod.fst, x ∈ M.map fun i => key i.1 := by
    intro x hx
    obtain ⟨e, he, rfl⟩ := List.mem_map.1 hx
    obtain ⟨i, hi, h⟩ := (h e.1).1 (List.any_eq_true.2 ⟨e, he, WideAt.sameKey_self (hl e he)⟩)
    exact List.mem_map.2 ⟨i, hi, h.symm⟩
  have s2 : ∀ x ∈ M.map (fun i => key i.1), x ∈ es.map Prod.fst := by
    intro x hx
    obtain ⟨i, hi, rfl⟩ := List.mem_map.1 hx
    obtain ⟨e, he, hs⟩ := List.any_eq_true.1 ((h (key i.1)).2 ⟨i, hi, rfl⟩)
    exact List.mem_map.2 ⟨e, he, WideAt.sameKey_eq hs⟩
  have l1 := List.Nodup.length_le_of_subset n1 s1
  have l2 := List.Nodup.length_le_of_subset n2 s2
  simp at l1 l2
  simp [Maps.size]
  omega
/-- those that are kept, or still to come -/
def cur (M : Its) (kp : Int → Bool) (left : Lit → Bool) : Its := M.filter fun i => kp i.1 || left (key i.1)
theorem cur_start {D : DataW Value} {M : Its} (h : Keys D M) (kp : Int → Bool) : cur M kp (Maps.has D) = M := by
  unfold cur
  rw [List.filter_eq_self]
  intro i hi
  simp [(h (key i.1)).2 ⟨i, hi, rfl⟩]
theorem cur_stays {M : Its} {kp : Int → Bool} {left : Lit → Bool} {x : Int} (hx : kp x = true) : cur M kp (fun z => left z && !z.sameKey (key x)) = cur M kp left := by
  unfold cur
  apply List.filter_congr
  intro i hi
  by_cases e : i.1 = x
  · simp [e, hx]
  · have hs : (key i.1).sameKey (key x) = false := sameKey_ne (fun h => e (key_inj h))
    simp [hs]
theorem cur_end {M : Its} {kp : Int → Bool} {left : Lit → Bool} (h : ∀ k, left k = false) : cur M kp left = M.filter fun i => kp i.1 := by
  unfold cur
  apply List.filter_congr
  intro i hi
  simp [h]
theorem mem_struck {M : Its} {kp : Int → Bool} {left : Lit → Bool} {x : Int} (hx : kp x = false) (i : Int × Pk) : i ∈ cur M kp (fun z => left z && !z.sameKey (key x)) ↔ i ∈ cur M kp left ∧ i.1 ≠ x := by
  unfold cur
  rw [List.mem_filter, List.mem_filter]
  by_cases e : i.1 = x
  · simp [e, hx, WideAt.sameKey_self (keyLit x)]
  · have hs : (key i.1).sameKey (key x) = false := sameKey_ne (fun h => e (key_inj h))
    simp [hs, e]
theorem keys_struck {D : DataW Value} {M : Its} {kp : Int → Bool} {left : Lit → Bool} {x : Int} (hx : kp x = false) (h : Keys D (cur M kp left)) : Keys (D.del (key x)) (cur M kp (fun z => left z && !z.sameKey (key x))) := by
  intro k
  by_cases e : k = key x
  · subst e
    rw [has_del_same]
    constructor
    · intro h; cases h
    · rintro ⟨i, hi, e⟩
      exact absurd (key_inj e).symm ((mem_struck hx i).1 hi).2
  · rw [has_del_other e, h k]
    constructor
    · rintro ⟨i, hi, rfl⟩; exact ⟨i, (mem_struck hx i).2 ⟨hi, fun h => e (by rw [h])⟩, rfl⟩
    · rintro ⟨i, hi, rfl⟩; exact ⟨i, ((mem_struck hx i).1 hi).1, rfl⟩
theorem elems_struck {w : World} {D : DataW Value} {M : Its} {kp : Int → Bool} {left : Lit → Bool} {x : Int} (hx : kp x = false) (h : Elems w D (cur M kp left)) : Elems w (D.del (key x)) (cur M kp (fun z => left z && !z.sameKey (key x))) := by
  intro i hi
  obtain ⟨h1, h2⟩ := (mem_struck hx i).1 hi
  obtain ⟨v, h3, h4⟩ := h i h1
  exact ⟨v, fun zd => by rw [atKey_del_other (fun e => h2 (key_inj e)), h3], h4⟩
theorem keys_put {D : DataW Value} {M : Its} {y : Int} (hD : IsMap D) (h : Keys D M) (d : DataW Value) (p : Pk) : Keys (D.put (key y) d) (M ++ [(y, p)]) := by
  intro k
  by_cases e : k = key y
  · subst e
    rw [has_put_same hD (keyLit y)]
    exact ⟨fun _ => ⟨(y, p), by simp, rfl⟩, fun _ => rfl⟩
  · rw [has_put_other e, h k]
    constructor
    · rintro ⟨i, hi, rfl⟩; exact ⟨i, by simp [hi], rfl⟩
    · rintro ⟨i, hi, rfl⟩
      rcases List.mem_append.1 hi with hi | hi
      · exact ⟨i, hi, rfl⟩
      · simp only [List.mem_singleton] at hi
        subst hi
        exact absurd rfl e
theorem elems_put {w : World} {D : DataW Value} {M : Its} {y : Int} {v : Value} {p : Pk} (hD : IsMap D) (h : Elems w D M) (hn : has M y = false) (hv : PkIs w v p) : Elems w (D.put (key y) (.held v)) (M ++ [(y, p)]) := by
  intro i hi
  rcases List.mem_append.1 hi with hi | hi
  · obtain ⟨u, h1, h2⟩ := h i hi
    exact ⟨u, fun zd => by rw [atKey_put_other (fun e => has_no hn i hi (key_inj e)), h1], h2⟩
  · simp only [List.mem_singleton] at hi
    subst hi
    exact ⟨v, fun zd => atKey_put_same hD (keyLit y) _ _, hv⟩
/-- the bound of a map is as many as it has -/
theorem tight {P : Program} {k : TypeId} {R : Value → Option (DataW Value × List MemPlace)} {w : World} {b n : Nat} {D : DataW Value} (h : w.ownsMap P k R b n D) : w.ownsMap P k R b (Maps.size D) D := by
  obtain ⟨es, clock, hb, F, hs, rfl⟩ := h
  refine ⟨es, clock, hb, F, ?_, rfl⟩
  simp [Maps.size, length_sorted]
theorem map_block {P : Program} {k : TypeId} {R : Value → Option (DataW Value × List MemPlace)} {w : World} {b n : Nat} {D : DataW Value} (h : w.ownsMap P k R b n D) : ∃ es c, w.heap[b]? = some (.map es c) := by
  obtain ⟨es, clock, hb, _⟩ := h
  exact ⟨es, clock, hb⟩
theorem has_keeps {n T y : Int} {M : Its} (h : has M y = false) : has (keeps n T M) y = false := by
  rw [Bool.eq_false_iff]
  intro hh
  obtain ⟨i, hi, e⟩ := has_iff.1 hh
  exact has_no h i (List.mem_filter.1 hi).1 e
end Go.Proofs.YtijfocggdjjnjaiGreatDoor.RM

/-
  Numbers that are lacking, how often each was asked for and when last: as a list that rises, and as what a map reads as. Of numbers and lists alone; no program.
-/
namespace Go.Proofs.YtijfocggdjjnjaiGreatDoor.GM
open Go Go.RowKit Go.Maps Go.Proofs.YtijfocggdjjnjaiGreatDoor.Mem
set_option linter.unusedVariables false

/-- a number that is lacking: how often it was asked for, when last -/
structure Lk where
  n : Int
  t : Int
  a : Int
abbrev Its := List Lk
def nums (M : Its) : List Int := M.map Lk.n
theorem nums_len (M : Its) : (nums M).length = M.length := by simp [nums]
theorem nums_app (M K : Its) : nums (M ++ K) = nums M ++ nums K := by simp [nums]
def key (y : Int) : Lit := .int .i64 y
theorem key_inj {x y : Int} (h : key x = key y) : x = y := by
  unfold key at h
  injection h
def has (M : Its) (y : Int) : Bool := M.any fun i => i.n == y
theorem has_iff {M : Its} {y : Int} : has M y = true ↔ ∃ i ∈ M, i.n = y := by
  simp [has]
theorem has_no {M : Its} {y : Int} (h : has M y = false) : ∀ i ∈ M, i.n ≠ y := by
  intro i hi e
  have := has_iff.2 ⟨i, hi, e⟩
  rw [h] at this
  cases this
def Ris (M : Its) : Prop := M.Pairwise fun a b => a.n < b.n
theorem Ris.apart {M : Its} (h : Ris M) : M.Pairwise fun a b => a.n ≠ b.n := h.imp fun h => by omega

/-- what holds of one that is used: each again, so many tries, the time, the greatest number, what is lacking -/
structure Inv (ag tr nw T : Int) (M : Its) : Prop where
  a1 : 1 ≤ ag
  a2 : ag ≤ 1000000
  r1 : 1 ≤ tr
  r2 : tr ≤ 20
  n1 : 0 ≤ nw
  n2 : nw ≤ 1000000
  t1 : -1 ≤ T
  t2 : T ≤ 1099511627776
  mem : ∀ x ∈ M, 0 ≤ x.n ∧ x.n < T ∧ 0 ≤ x.t ∧ x.t ≤ tr ∧ 0 ≤ x.a ∧ x.a ≤ nw
  ris : Ris M
  len : M.length ≤ 200
theorem inv_start {ag tr : Int} (h1 : 1 ≤ ag) (h2 : ag ≤ 1000000) (h3 : 1 ≤ tr) (h4 : tr ≤ 20) : Inv ag tr 0 (-1) [] :=
  ⟨h1, h2, h3, h4, by omega, by omega, by omega, by omega, by simp, List.Pairwise.nil, by simp⟩

/-- the fault of a time -/
def tf (nw now : Int) : Nat := if now < 0 ∨ 1000000 < now then 1 else if now < nw then 6 else 0
theorem tf_zero {nw now : Int} (h : tf nw now = 0) : 0 ≤ now ∧ now ≤ 1000000 ∧ nw ≤ now := by
  unfold tf at h
  split at h
  · omega
  · split at h <;> omega
/-- how many are left out -/
def lo (T y : Int) : Int := if T = -1 ∨ y ≤ T then 0 else y - T - 1
theorem lo_nn {T y : Int} : 0 ≤ lo T y := by unfold lo; split <;> omega
/-- the fault of a number that comes -/
def hf (nw T : Int) (M : Its) (y now : Int) : Nat :=
  if tf nw now ≠ 0 then tf nw now else if y < 0 ∨ 1099511627776 < y then 1 else if 200 < (M.length : Int) + lo T y then 4 else 0
theorem hf_zero {nw T y now : Int} {M : Its} (h : hf nw T M y now = 0) : tf nw now = 0 ∧ 0 ≤ y ∧ y ≤ 1099511627776 ∧ (M.length : Int) + lo T y ≤ 200 := by
  unfold hf at h
  split at h
  · omega
  · split at h
    · omega
    · split at h <;> omega
/-- those that are left out -/
def fresh (T : Int) (k : Nat) : Its := (List.range k).map fun (j : Nat) => ⟨T + 1 + (j : Int), 0, 0⟩
theorem fresh_succ (T : Int) (k : Nat) : fresh T (k + 1) = fresh T k ++ [⟨T + 1 + (k : Int), 0, 0⟩] := by
  simp [fresh, List.range_succ]
theorem fresh_len (T : Int) (k : Nat) : (fresh T k).length = k := by simp [fresh]
theorem mem_fresh {T : Int} {k : Nat} {x : Lk} : x ∈ fresh T k ↔ ∃ j : Nat, j < k ∧ x = ⟨T + 1 + (j : Int), 0, 0⟩ := by
  simp only [fresh, List.mem_map, List.mem_range]
  constructor
  · rintro ⟨j, h, rfl⟩; exact ⟨j, h, rfl⟩
  · rintro ⟨j, h, rfl⟩; exact ⟨j, h, rfl⟩
/-- is it new; the greatest number; what is lacking then -/
def hx (T : Int) (M : Its) (y : Int) : Bool := decide (T < y) || has M y
def hT (T y : Int) : Int := if T < y then y else T
def hM (T : Int) (M : Its) (y : Int) : Its := if T < y then M ++ fresh T (lo T y).toNat else M.filter fun i => decide (i.n ≠ y)
theorem inv_hear {ag tr nw T y now : Int} {M : Its} (h : Inv ag tr nw T M) (h0 : hf nw T M y now = 0) : Inv ag tr now (hT T y) (hM T M y) := by
  obtain ⟨k0, k1, k2, k3⟩ := hf_zero h0
  obtain ⟨j1, j2, j3⟩ := tf_zero k0
  have hlo := @lo_nn T y
  have h1 := h.t1
  have h2 := h.t2
  have h3 := h.r1
  unfold hT hM
  by_cases c : T < y
  · simp only [c, if_true]
    refine ⟨h.a1, h.a2, h.r1, h.r2, j1, j2, by omega, k2, ?_, ?_, ?_⟩
    · intro x hx
      rcases List.mem_append.1 hx with hx | hx
      · have := h.mem x hx
        omega
      · obtain ⟨j, hj, rfl⟩ := mem_fresh.1 hx
        have e : lo T y = y - T - 1 := by
          unfold lo at hj ⊢
          split at hj
          · simp at hj
          · rename_i q; rw [if_neg q]
        simp only
        omega
    · unfold Ris
      rw [List.pairwise_append]
      refine ⟨h.ris, ?_, ?_⟩
      · unfold fresh
        rw [List.pairwise_map]
        exact List.pairwise_lt_range.imp fun q => by show (_ : Int) < _; simp only; omega
      · intro a ha b hb
        have := h.mem a ha
        obtain ⟨j, hj, rfl⟩ := mem_fresh.1 hb
        simp only
        omega
    · rw [List.length_append, fresh_len]; omega
  · simp only [c, if_false]
    refine ⟨h.a1, h.a2, h.r1, h.r2, j1, j2, h1, h2, ?_, h.ris.filter _, ?_⟩
    · intro x hx
      have := h.mem x (List.mem_filter.1 hx).1
      omega
    · have := List.length_filter_le (fun i : Lk => decide (i.n ≠ y)) M
      have := h.len
      omega

/-- one that was asked for lately; one that is given up; one that is asked for -/
def stays (ag now : Int) (x : Lk) : Bool := decide (0 < x.t) && decide (now - x.a < ag)
def gives (ag tr now : Int) (x : Lk) : Bool := !stays ag now x && decide (x.t = tr)
def asks (ag tr now : Int) (x : Lk) : Bool := !stays ag now x && !decide (x.t = tr)
def dueL (ag tr now : Int) (M : Its) : List Int := nums (M.filter (asks ag tr now))
def gaveL (ag tr now : Int) (M : Its) : List Int := nums (M.filter (gives ag tr now))
def next (ag tr now : Int) (x : Lk) : Lk := if asks ag tr now x then ⟨x.n, x.t + 1, now⟩ else x
def dM (ag tr now : Int) (M : Its) : Its := (M.filter fun x => !gives ag tr now x).map (next ag tr now)
theorem next_n (ag tr now : Int) (x : Lk) : (next ag tr now x).n = x.n := by unfold next; split <;> rfl
theorem dM_app (ag tr now : Int) (M K : Its) : dM ag tr now (M ++ K) = dM ag tr now M ++ dM ag tr now K := by simp [dM]
theorem dueL_app (ag tr now : Int) (M K : Its) : dueL ag tr now (M ++ K) = dueL ag tr now M ++ dueL ag tr now K := by simp [dueL, nums]
theorem gaveL_app (ag tr now : Int) (M K : Its) : gaveL ag tr now (M ++ K) = gaveL ag tr now M ++ gaveL ag tr now K := by simp [gaveL, nums]
theorem one_stays {ag tr now : Int} {x : Lk} (h : stays ag now x = true) : dM ag tr now [x] = [x] ∧ dueL ag tr now [x] = [] ∧ gaveL ag tr now [x] = [] := by
  simp [dM, dueL, gaveL, nums, gives, asks, next, h]
theorem one_gives {ag tr now : Int} {x : Lk} (h : stays ag now x = false) (h2 : x.t = tr) : dM ag tr now [x] = [] ∧ dueL ag tr now [x] = [] ∧ gaveL ag tr now [x] = [x.n] := by
  simp [dM, dueL, gaveL, nums, gives, asks, h, h2]
theorem one_asks {ag tr now : Int} {x : Lk} (h : stays ag now x = false) (h2 : x.t ≠ tr) : dM ag tr now [x] = [⟨x.n, x.t + 1, now⟩] ∧ dueL ag tr now [x] = [x.n] ∧ gaveL ag tr now [x] = [] := by
  simp [dM, dueL, gaveL, nums, gives, asks, next, h, h2]
theorem inv_due {ag tr nw T now : Int} {M : Its} (h : Inv ag tr nw T M) (h0 : tf nw now = 0) : Inv ag tr now T (dM ag tr now M) := by
  obtain ⟨j1, j2, j3⟩ := tf_zero h0
  refine ⟨h.a1, h.a2, h.r1, h.r2, j1, j2, h.t1, h.t2, ?_, ?_, ?_⟩
  · intro x hx
    obtain ⟨y, hy, rfl⟩ := List.mem_map.1 hx
    obtain ⟨hy, hg⟩ := List.mem_filter.1 hy
    have := h.mem y hy
    unfold next
    split
    · rename_i ha
      simp [asks] at ha
      simp only
      omega
    · omega
  · unfold Ris dM
    rw [List.pairwise_map]
    exact (h.ris.filter _).imp fun q => by rw [next_n, next_n]; exact q
  · have := List.length_filter_le (fun x => !gives ag tr now x) M
    have := h.len
    simp only [dM, List.length_map]
    omega
theorem due_len (ag tr now : Int) (M : Its) : (dueL ag tr now M).length ≤ M.length := by
  simp only [dueL, nums, List.length_map]; exact List.length_filter_le _ _
theorem gave_len (ag tr now : Int) (M : Its) : (gaveL ag tr now M).length ≤ M.length := by
  simp only [gaveL, nums, List.length_map]; exact List.length_filter_le _ _

/-! one call of Hear, one of Due: what comes of what there was -/
def hB (nw T : Int) (M : Its) (y now : Int) : Bool := decide (hf nw T M y now = 0) && hx T M y
def hN (nw T : Int) (M : Its) (y now : Int) : Int := if hf nw T M y now = 0 then now else nw
def hU (nw T : Int) (M : Its) (y now : Int) : Int := if hf nw T M y now = 0 then hT T y else T
def hL (nw T : Int) (M : Its) (y now : Int) : Its := if hf nw T M y now = 0 then hM T M y else M
theorem inv_hear2 {ag tr nw T y now : Int} {M : Its} (h : Inv ag tr nw T M) : Inv ag tr (hN nw T M y now) (hU nw T M y now) (hL nw T M y now) := by
  unfold hN hU hL
  by_cases h0 : hf nw T M y now = 0
  · simp only [h0, if_true]
    exact inv_hear h h0
  · simp only [h0, if_false]
    exact h
def dN (nw now : Int) : Int := if tf nw now = 0 then now else nw
def dL (ag tr nw : Int) (M : Its) (now : Int) : Its := if tf nw now = 0 then dM ag tr now M else M
def dD (ag tr nw : Int) (M : Its) (now : Int) : List Int := if tf nw now = 0 then dueL ag tr now M else []
def dG (ag tr nw : Int) (M : Its) (now : Int) : List Int := if tf nw now = 0 then gaveL ag tr now M else []
theorem inv_due2 {ag tr nw T now : Int} {M : Its} (h : Inv ag tr nw T M) : Inv ag tr (dN nw now) T (dL ag tr nw M now) := by
  unfold dN dL
  by_cases h0 : tf nw now = 0
  · simp only [h0, if_true]
    exact inv_due h h0
  · simp only [h0, if_false]
    exact h
theorem dG_len (ag tr nw : Int) (M : Its) (now : Int) : (dG ag tr nw M now).length ≤ M.length := by
  unfold dG
  split
  · exact gave_len _ _ _ _
  · simp
theorem dD_len (ag tr nw : Int) (M : Its) (now : Int) : (dD ag tr nw M now).length ≤ M.length := by
  unfold dD
  split
  · exact due_len _ _ _ _
  · simp
theorem tf_le {nw now : Int} : tf nw now ≤ 6 := by
  unfold tf
  split
  · omega
  · split <;> omega
theorem hf_le {nw T y now : Int} {M : Its} : hf nw T M y now ≤ 6 := by
  unfold hf
  have := @tf_le nw now
  split
  · exact this
  · split
    · omega
    · split <;> omega

/-! what a map reads as -/
/-- the value of what is known of a number -/
def lv (x : Lk) : Value := .agg #[.int .i64 x.t, .int .i64 x.a]
/-- how an element reads: as itself -/
def akR : Value → Option (DataW Value × List MemPlace)
  | .agg cs => match cs.toList with
    | [.int .i64 _, .int .i64 _] => some (.held (.agg cs), [])
    | _ => none
  | _ => none
theorem akR_mk (t a : Int) : akR (.agg #[.int .i64 t, .int .i64 a]) = some (.held (.agg #[.int .i64 t, .int .i64 a]), []) := rfl
theorem akR_inv {v : Value} {y : DataW Value × List MemPlace} (h : akR v = some y) : (∃ t a, v = .agg #[.int .i64 t, .int .i64 a]) ∧ y = (.held v, []) := by
  unfold akR at h
  split at h
  · rename_i cs
    split at h
    · rename_i t a hcs
      refine ⟨⟨t, a, ?_⟩, (Option.some.inj h).symm⟩
      congr 1
      exact Array.toList_inj.1 hcs
    · cases h
  · cases h
/-- which keys are there -/
def Keys (D : DataW Value) (M : Its) : Prop := ∀ k : Lit, Maps.has D k = true ↔ ∃ i ∈ M, k = key i.n
/-- what lies at them -/
def Elems (D : DataW Value) (M : Its) : Prop := ∀ i ∈ M, ∀ zd, D.atKey (key i.n) zd = .held (lv i)
theorem keys_empty : Keys (.map []) [] := by
  intro k
  constructor
  · intro h; simp [Maps.has] at h
  · rintro ⟨i, hi, _⟩; simp at hi
theorem Keys.at {D : DataW Value} {M : Its} (h : Keys D M) (y : Int) : Maps.has D (key y) = has M y := by
  rw [Bool.eq_iff_iff, h (key y), has_iff]
  constructor
  · rintro ⟨i, hi, e⟩; exact ⟨i, hi, (key_inj e).symm⟩
  · rintro ⟨i, hi, e⟩; exact ⟨i, hi, by rw [e]⟩
theorem keyLit (y : Int) : WideAt.IsKeyLit (key y) := trivial
theorem Keys.size {D : DataW Value} {M : Its} (h : Keys D M) (ht : ∃ es, D = .map es ∧ es.Pairwise (fun p q => p.1 ≠ q.1) ∧ ∀ p ∈ es, WideAt.IsKeyLit p.1) (h1 : M.Pairwise fun a b => a.n ≠ b.n) : Maps.size D = M.length := by
  obtain ⟨es, rfl, hp, hl⟩ := ht
  have n1 : (es.map Prod.fst).Nodup := by rw [List.nodup_iff_pairwise_ne, List.pairwise_map]; exact hp
  have n2 : (M.map fun i => key i.n).Nodup := by
    rw [List.nodup_iff_pairwise_ne, List.pairwise_map]
    exact h1.imp fun hab e => hab (key_inj e)
  have s1 : ∀ x ∈ es.map Prod.fst, x ∈ M.map fun i => key i.n := by
    intro x hx
    obtain ⟨e, he, rfl⟩ := List.mem_map.1 hx
    obtain ⟨i, hi, h⟩ := (h e.1).1 (List.any_eq_true.2 ⟨e, he, WideAt.sameKey_self (hl e he)⟩)
    exact List.mem_map.2 ⟨i, hi, h.symm⟩
  have s2 : ∀ x ∈ M.map (fun i => key i.n), x ∈ es.map Prod.fst := by
    intro x hx
    obtain ⟨i, hi, rfl⟩ := List.mem_map.1 hx
    obtain ⟨e, he, hs⟩ := List.any_eq_true.1 ((h (key i.n)).2 ⟨i, hi, rfl⟩)
    exact List.mem_map.2 ⟨e, he, WideAt.sameKey_eq hs⟩
  have l1 := List.Nodup.length_le_of_subset n1 s1
  have l2 := List.Nodup.length_le_of_subset n2 s2
  simp at l1 l2
  simp [Maps.size]
  omega
/-- the keys, as numbers -/
theorem Keys.perm {P : Program} {k : TypeId} {R : Value → Option (DataW Value × List MemPlace)} {w : World} {b n : Nat} {D : DataW Value} {M : Its} (h : Keys D M) (hown : w.ownsMap P k R b n D) (K : Keyed P k) (hk : P.underlying k = some (.int .i64)) (h1 : Ris M) : (nums M).Perm (intKeys D) := by
  obtain ⟨es, hD, hpw, _⟩ := hown.entries K
  obtain ⟨es', hD', hko⟩ := hown.keysOf
  obtain rfl : es = es' := by rw [hD] at hD'; simpa using hD'
  subst hD
  refine perm_intKeys hpw (fun p hp => by obtain ⟨v, hv⟩ := hko p hp; obtain ⟨x, _, hx, _⟩ := Maps.keyOf_i64 hk hv; exact ⟨x, hx⟩) ?_ (fun x => ?_)
  · rw [List.nodup_iff_pairwise_ne, nums, List.pairwise_map]
    exact h1.apart
  · rw [show Lit.int .i64 x = key x from rfl, h (key x), nums, List.mem_map]
    constructor
    · rintro ⟨i, hi, rfl⟩; exact ⟨i, hi, rfl⟩
    · rintro ⟨i, hi, e⟩; exact ⟨i, hi, (key_inj e).symm⟩
theorem sorted_nums {M : Its} (h : Ris M) {ss : List Int} (hp : ss.Perm (nums M)) : ss.mergeSort (fun x y => decide (x ≤ y)) = nums M := by
  have := mergeSort_of_perm_i hp
  refine this.trans (List.mergeSort_of_pairwise ?_)
  rw [nums, List.pairwise_map]
  exact h.imp fun q => by simp; omega

/-- of one list made of two: the keys rise, so none is there twice -/
theorem apart_mid {A B : Its} {x : Lk} (h : Ris (A ++ x :: B)) : ∀ i ∈ A ++ B, i.n ≠ x.n := by
  unfold Ris at h
  rw [List.pairwise_append, List.pairwise_cons] at h
  obtain ⟨h1, ⟨h2, h3⟩, h4⟩ := h
  intro i hi
  rcases List.mem_append.1 hi with hi | hi
  · have := h4 i hi x (by simp); omega
  · have := h2 i hi; omega
theorem keys_del {D : DataW Value} {A B : Its} {x : Lk} (h : Keys D (A ++ x :: B)) (hr : ∀ i ∈ A ++ B, i.n ≠ x.n) : Keys (D.del (key x.n)) (A ++ B) := by
  intro k
  by_cases e : k = key x.n
  · subst e
    rw [has_del_same]
    constructor
    · intro h; cases h
    · rintro ⟨i, hi, e⟩
      exact absurd (key_inj e).symm (hr i hi)
  · rw [has_del_other e, h k]
    constructor
    · rintro ⟨i, hi, rfl⟩
      simp only [List.mem_append, List.mem_cons] at hi
      rcases hi with hi | rfl | hi
      · exact ⟨i, by simp [hi], rfl⟩
      · exact absurd rfl e
      · exact ⟨i, by simp [hi], rfl⟩
    · rintro ⟨i, hi, rfl⟩
      refine ⟨i, ?_, rfl⟩
      rcases List.mem_append.1 hi with hi | hi <;> simp [hi]
theorem elems_del {D : DataW Value} {A B : Its} {x : Lk} (h : Elems D (A ++ x :: B)) (hr : ∀ i ∈ A ++ B, i.n ≠ x.n) : Elems (D.del (key x.n)) (A ++ B) := by
  intro i hi zd
  rw [atKey_del_other (fun e => hr i hi (key_inj e))]
  refine h i ?_ zd
  rcases List.mem_append.1 hi with hi | hi <;> simp [hi]
theorem keys_set {D : DataW Value} {A B : Its} {x y : Lk} (hD : IsMap D) (h : Keys D (A ++ x :: B)) (hy : y.n = x.n) (d : DataW Value) : Keys (D.put (key x.n) d) (A ++ y :: B) := by
  intro k
  by_cases e : k = key x.n
  · subst e
    rw [has_put_same hD (keyLit _)]
    exact ⟨fun _ => ⟨y, by simp, by rw [hy]⟩, fun _ => rfl⟩
  · rw [has_put_other e, h k]
    constructor
    · rintro ⟨i, hi, rfl⟩
      simp only [List.mem_append, List.mem_cons] at hi
      rcases hi with hi | rfl | hi
      · exact ⟨i, by simp [hi], rfl⟩
      · exact absurd rfl e
      · exact ⟨i, by simp [hi], rfl⟩
    · rintro ⟨i, hi, rfl⟩
      simp only [List.mem_append, List.mem_cons] at hi
      rcases hi with hi | rfl | hi
      · exact ⟨i, by simp [hi], rfl⟩
      · exact absurd (by rw [hy]) e
      · exact ⟨i, by simp [hi], rfl⟩
theorem elems_set {D : DataW Value} {A B : Its} {x y : Lk} (hD : IsMap D) (h : Elems D (A ++ x :: B)) (hy : y.n = x.n) (hr : ∀ i ∈ A ++ B, i.n ≠ x.n) : Elems (D.put (key x.n) (.held (lv y))) (A ++ y :: B) := by
  intro i hi zd
  simp only [List.mem_append, List.mem_cons] at hi
  rcases hi with hi | rfl | hi
  · rw [atKey_put_other (fun e => hr i (by simp [hi]) (key_inj e))]
    exact h i (by simp [hi]) zd
  · rw [hy]
    exact atKey_put_same hD (keyLit _) _ _
  · rw [atKey_put_other (fun e => hr i (by simp [hi]) (key_inj e))]
    exact h i (by simp [hi]) zd
theorem keys_put {D : DataW Value} {M : Its} (hD : IsMap D) (h : Keys D M) (x : Lk) (d : DataW Value) : Keys (D.put (key x.n) d) (M ++ [x]) := by
  intro k
  by_cases e : k = key x.n
  · subst e
    rw [has_put_same hD (keyLit _)]
    exact ⟨fun _ => ⟨x, by simp, rfl⟩, fun _ => rfl⟩
  · rw [has_put_other e, h k]
    constructor
    · rintro ⟨i, hi, rfl⟩; exact ⟨i, by simp [hi], rfl⟩
    · rintro ⟨i, hi, rfl⟩
      rcases List.mem_append.1 hi with hi | hi
      · exact ⟨i, hi, rfl⟩
      · simp only [List.mem_singleton] at hi
        subst hi
        exact absurd rfl e
theorem elems_put {D : DataW Value} {M : Its} {x : Lk} (hD : IsMap D) (h : Elems D M) (hr : ∀ i ∈ M, i.n ≠ x.n) : Elems (D.put (key x.n) (.held (lv x))) (M ++ [x]) := by
  intro i hi zd
  rcases List.mem_append.1 hi with hi | hi
  · rw [atKey_put_other (fun e => hr i hi (key_inj e))]
    exact h i hi zd
  · simp only [List.mem_singleton] at hi
    subst hi
    exact atKey_put_same hD (keyLit _) _ _
theorem keys_strike {D : DataW Value} {M : Its} (h : Keys D M) (y : Int) : Keys (D.del (key y)) (M.filter fun i => decide (i.n ≠ y)) := by
  intro k
  by_cases e : k = key y
  · subst e
    rw [has_del_same]
    constructor
    · intro h; cases h
    · rintro ⟨i, hi, e⟩
      have := (List.mem_filter.1 hi).2
      simp at this
      exact absurd (key_inj e).symm this
  · rw [has_del_other e, h k]
    constructor
    · rintro ⟨i, hi, rfl⟩; exact ⟨i, List.mem_filter.2 ⟨hi, by simp; exact fun h => e (by rw [h])⟩, rfl⟩
    · rintro ⟨i, hi, rfl⟩; exact ⟨i, (List.mem_filter.1 hi).1, rfl⟩
theorem elems_strike {D : DataW Value} {M : Its} (h : Elems D M) (y : Int) : Elems (D.del (key y)) (M.filter fun i => decide (i.n ≠ y)) := by
  intro i hi zd
  obtain ⟨h1, h2⟩ := List.mem_filter.1 hi
  simp at h2
  rw [atKey_del_other (fun e => h2 (key_inj e))]
  exact h i h1 zd
/-- the bound of a map is as many as it has -/
theorem tight {P : Program} {k : TypeId} {R : Value → Option (DataW Value × List MemPlace)} {w : World} {b n : Nat} {D : DataW Value} (h : w.ownsMap P k R b n D) : w.ownsMap P k R b (Maps.size D) D := by
  obtain ⟨es, clock, hb, F, hs, rfl⟩ := h
  refine ⟨es, clock, hb, F, ?_, rfl⟩
  simp [Maps.size, length_sorted]
theorem map_block {P : Program} {k : TypeId} {R : Value → Option (DataW Value × List MemPlace)} {w : World} {b n : Nat} {D : DataW Value} (h : w.ownsMap P k R b n D) : ∃ es c, w.heap[b]? = some (.map es c) := by
  obtain ⟨es, clock, hb, _⟩ := h
  exact ⟨es, clock, hb⟩
end Go.Proofs.YtijfocggdjjnjaiGreatDoor.GM

/-
  Items by number, kept since a time, handed out one behind the other: as lists, and as what a map reads as. Of numbers, lists and worlds alone; no program.
-/
namespace Go.Proofs.YtijfocggdjjnjaiGreatDoor.OM
open Go Go.RowKit Go.Maps Go.Proofs.YtijfocggdjjnjaiGreatDoor.Mem
set_option linter.unusedVariables false

/-- a packet: its numbers, its Start, its Body, the Body's value -/
structure Pk where
  s : Int
  t : Int
  l : Int
  q : Int
  st : Bool
  L : List Nat
  bv : Value
/-- an item: its number, whether it is gone, its packet; since when it is kept -/
structure Kp where
  n : Int
  g : Bool
  p : Pk
  a : Int
abbrev Its := List Kp
def zpk : Pk := ⟨0, 0, 0, 0, false, [], .slice none 0 0⟩
/-- what does not come -/
def gone (y a : Int) : Kp := ⟨y, true, zpk, a⟩
def key (y : Int) : Lit := .int .i64 y
theorem key_inj {x y : Int} (h : key x = key y) : x = y := by
  unfold key at h
  injection h
def has (M : Its) (y : Int) : Bool := M.any fun i => i.n == y
theorem has_iff {M : Its} {y : Int} : has M y = true ↔ ∃ i ∈ M, i.n = y := by
  simp [has]
theorem has_no {M : Its} {y : Int} (h : has M y = false) : ∀ i ∈ M, i.n ≠ y := by
  intro i hi e
  have := has_iff.2 ⟨i, hi, e⟩
  rw [h] at this
  cases this
theorem no_has {M : Its} {y : Int} (h : ∀ i ∈ M, i.n ≠ y) : has M y = false := by
  rw [Bool.eq_false_iff]
  intro hh
  obtain ⟨i, hi, e⟩ := has_iff.1 hh
  exact h i hi e
def Apart (M : Its) : Prop := M.Pairwise fun a b => a.n ≠ b.n

/-- what holds of one that is used: the time, what is next, what is kept -/
structure Inv (nw nx : Int) (M : Its) : Prop where
  c1 : 0 ≤ nw
  c2 : nw ≤ 1000000
  x1 : -1 ≤ nx
  x2 : nx ≤ 1099511627777
  mem : ∀ i ∈ M, 0 ≤ i.n ∧ nx ≤ i.n ∧ i.n < nx + 200 ∧ i.n ≤ 1099511627776 ∧ 0 ≤ i.a ∧ i.a ≤ nw
  one : Apart M
  non : nx = -1 → M = []
theorem inv_start : Inv 0 (-1) [] := ⟨by omega, by omega, by omega, by omega, by simp, List.Pairwise.nil, fun _ => rfl⟩
theorem Inv.len {nw nx : Int} {M : Its} (h : Inv nw nx M) : M.length ≤ 200 := by
  have hn : (M.map fun i => (i.n - nx).toNat).Nodup := by
    rw [List.nodup_iff_pairwise_ne, List.pairwise_map]
    refine h.one.imp_of_mem ?_
    intro a b ha hb hab e
    have := h.mem a ha
    have := h.mem b hb
    omega
  have := List.Nodup.length_le_of_subset (l₂ := List.range 200) hn (by
    intro x hx
    obtain ⟨i, hi, rfl⟩ := List.mem_map.1 hx
    have := h.mem i hi
    simp only [List.mem_range]
    omega)
  simpa using this
/-- one more is kept -/
theorem inv_add {nw nx now : Int} {M : Its} (h : Inv nw nx M) (x : Kp) (hw : nw ≤ now) (h6 : now ≤ 1000000) (h0 : 0 ≤ x.n) (h1 : x.n ≤ 1099511627776) (hx : nx ≤ x.n) (hf : x.n < nx + 200) (hn : nx ≠ -1) (ha : x.a = now) (hh : has M x.n = false) : Inv now nx (M ++ [x]) := by
  have c1 := h.c1
  refine ⟨by omega, h6, h.x1, h.x2, ?_, ?_, fun e => absurd e hn⟩
  · intro i hi
    rcases List.mem_append.1 hi with hi | hi
    · have := h.mem i hi
      omega
    · simp only [List.mem_singleton] at hi
      subst hi
      omega
  · unfold Apart
    rw [List.pairwise_append]
    refine ⟨h.one, by simp, ?_⟩
    intro i hi b hb
    simp only [List.mem_singleton] at hb
    subst hb
    exact has_no hh i hi
theorem Inv.later {nw nx now : Int} {M : Its} (h : Inv nw nx M) (hw : nw ≤ now) (h6 : now ≤ 1000000) : Inv now nx M := by
  have c1 := h.c1
  exact ⟨by omega, h6, h.x1, h.x2, fun i hi => by have := h.mem i hi; omega, h.one, h.non⟩

/-- the fault of a time -/
def tf (nw now : Int) : Nat := if now < 0 ∨ 1000000 < now then 1 else if now < nw then 6 else 0
theorem tf_zero {nw now : Int} (h : tf nw now = 0) : 0 ≤ now ∧ now ≤ 1000000 ∧ nw ≤ now := by
  unfold tf at h
  split at h
  · omega
  · split at h <;> omega
theorem tf_mk {nw now : Int} (h0 : 0 ≤ now) (h1 : now ≤ 1000000) (h2 : nw ≤ now) : tf nw now = 0 := by
  unfold tf
  rw [if_neg (by omega), if_neg (by omega)]
theorem tf_le {nw now : Int} : tf nw now ≤ 6 := by
  unfold tf
  split
  · omega
  · split <;> omega

/-! one Push -/
/-- what is next, once one was pushed -/
def fx (nx y : Int) : Int := if nx = -1 then y else nx
/-- too far ahead -/
def far (nx y : Int) : Bool := decide (nx ≠ -1) && decide (200 ≤ y - nx)
def pf (nw nx y now : Int) (f : Nat) : Nat :=
  if tf nw now ≠ 0 then tf nw now else if y < 0 ∨ 1099511627776 < y then 1 else if f ≠ 0 then f else if far nx y then 4 else 0
/-- is it kept -/
def kx (nx y : Int) (M : Its) : Bool := decide (nx ≤ y) && !has M y
def px (nw nx y now : Int) (M : Its) (f : Nat) : Bool := decide (pf nw nx y now f = 0) && kx (fx nx y) y M
def pW (nw nx y now : Int) (f : Nat) : Int := if pf nw nx y now f = 0 then now else nw
def pX (nw nx y now : Int) (f : Nat) : Int := if pf nw nx y now f = 0 then fx nx y else nx
def pM (nw nx y now : Int) (M : Its) (f : Nat) (p : Pk) : Its := if px nw nx y now M f then M ++ [⟨y, false, p, now⟩] else M
theorem pf_zero {nw nx y now : Int} {f : Nat} (h : pf nw nx y now f = 0) : tf nw now = 0 ∧ 0 ≤ y ∧ y ≤ 1099511627776 ∧ f = 0 ∧ far nx y = false := by
  unfold pf at h
  split at h
  · omega
  · split at h
    · omega
    · split at h
      · omega
      · split at h
        · omega
        · rename_i h1 h2 h3 h4
          exact ⟨by omega, by omega, by omega, by omega, by simpa using h4⟩
theorem pf_mk {nw nx y now : Int} {f : Nat} (h1 : tf nw now = 0) (h2 : 0 ≤ y) (h3 : y ≤ 1099511627776) (h4 : f = 0) (h5 : far nx y = false) : pf nw nx y now f = 0 := by
  unfold pf
  rw [if_neg (by omega), if_neg (by omega), if_neg (by omega), h5]
  rfl
theorem pf_le {nw nx y now : Int} {f : Nat} (hf : f ≤ 50) : pf nw nx y now f ≤ 100 := by
  unfold pf
  have := @tf_le nw now
  split
  · omega
  · split
    · omega
    · split
      · omega
      · split <;> omega
theorem far_no {nx y : Int} (h : far nx y = false) : nx = -1 ∨ y < nx + 200 := by
  simp [far] at h
  omega
theorem inv_push {nw nx y now : Int} {M : Its} (h : Inv nw nx M) (f : Nat) (p : Pk) : Inv (pW nw nx y now f) (pX nw nx y now f) (pM nw nx y now M f p) := by
  unfold pW pX pM px
  by_cases h0 : pf nw nx y now f = 0
  · obtain ⟨k1, k2, k3, k4, k5⟩ := pf_zero h0
    obtain ⟨j1, j2, j3⟩ := tf_zero k1
    have hx1 := h.x1
    simp only [h0, if_true, decide_true, Bool.true_and]
    have hI : Inv nw (fx nx y) M := by
      unfold fx
      split
      · rename_i e
        have hM := h.non e
        subst hM
        exact ⟨h.c1, h.c2, by omega, by omega, by simp, List.Pairwise.nil, fun _ => rfl⟩
      · exact h
    by_cases hk : kx (fx nx y) y M = true
    · simp only [hk, if_true]
      simp only [kx, Bool.and_eq_true, decide_eq_true_eq, Bool.not_eq_true'] at hk
      refine inv_add hI _ j3 j2 k2 k3 hk.1 ?_ ?_ rfl hk.2
      · have := far_no k5
        show y < fx nx y + 200
        unfold fx
        split <;> omega
      · unfold fx; split <;> omega
    · simp only [hk]
      exact hI.later j3 j2
  · simp only [h0, if_false, decide_false, Bool.false_and]
    exact h

/-! one Gone -/
def gf (nw nx y now : Int) : Nat := if tf nw now ≠ 0 then tf nw now else if y < 0 ∨ 1099511627776 < y then 1 else if nx = -1 then 6 else 0
def gx (nw nx y now : Int) (M : Its) : Bool := decide (gf nw nx y now = 0) && (!far nx y && kx nx y M)
def gW (nw nx y now : Int) : Int := if gf nw nx y now = 0 then now else nw
def gM (nw nx y now : Int) (M : Its) : Its := if gx nw nx y now M then M ++ [gone y now] else M
theorem gf_zero {nw nx y now : Int} (h : gf nw nx y now = 0) : tf nw now = 0 ∧ 0 ≤ y ∧ y ≤ 1099511627776 ∧ nx ≠ -1 := by
  unfold gf at h
  split at h
  · omega
  · split at h
    · omega
    · split at h
      · omega
      · rename_i h1 h2 h3
        exact ⟨by omega, by omega, by omega, h3⟩
theorem gf_le {nw nx y now : Int} : gf nw nx y now ≤ 100 := by
  unfold gf
  have := @tf_le nw now
  split
  · omega
  · split
    · omega
    · split <;> omega
theorem inv_gone {nw nx y now : Int} {M : Its} (h : Inv nw nx M) : Inv (gW nw nx y now) nx (gM nw nx y now M) := by
  unfold gW gM gx
  by_cases h0 : gf nw nx y now = 0
  · obtain ⟨k1, k2, k3, k4⟩ := gf_zero h0
    obtain ⟨j1, j2, j3⟩ := tf_zero k1
    simp only [h0, if_true, decide_true, Bool.true_and]
    by_cases hk : (!far nx y && kx nx y M) = true
    · simp only [hk, if_true]
      simp only [kx, Bool.and_eq_true, decide_eq_true_eq, Bool.not_eq_true'] at hk
      have := far_no hk.1
      exact inv_add h _ j3 j2 k2 k3 hk.2.1 (by show y < nx + 200; omega) k4 rfl hk.2.2
    · simp only [hk]
      exact h.later j3 j2
  · simp only [h0, if_false, decide_false, Bool.false_and]
    exact h

/-! one Pop -/
/-- it has waited long enough -/
def late (wt now : Int) (i : Kp) : Bool := decide (wt ≤ now - i.a)
/-- od is the greatest number of what has waited long enough, -1: there is none -/
structure Od (wt now : Int) (M : Its) (od : Int) : Prop where
  low : -1 ≤ od
  all : ∀ i ∈ M, late wt now i = true → i.n ≤ od
  one : od = -1 ∨ ∃ i ∈ M, late wt now i = true ∧ od = i.n
theorem od_ex (wt now : Int) (M : Its) (h : ∀ i ∈ M, 0 ≤ i.n) : ∃ od, Od wt now M od := by
  induction M with
  | nil => exact ⟨-1, by omega, by simp, .inl rfl⟩
  | cons a M ih =>
    obtain ⟨od, h1, h2, h3⟩ := ih (fun i hi => h i (by simp [hi]))
    have ha := h a (by simp)
    by_cases c : late wt now a = true ∧ od < a.n
    · refine ⟨a.n, by omega, ?_, .inr ⟨a, by simp, c.1, rfl⟩⟩
      intro i hi hl
      rcases List.mem_cons.1 hi with rfl | hi
      · omega
      · have := h2 i hi hl; omega
    · refine ⟨od, h1, ?_, ?_⟩
      · intro i hi hl
        rcases List.mem_cons.1 hi with rfl | hi
        · have : ¬ od < i.n := fun h => c ⟨hl, h⟩
          omega
        · exact h2 i hi hl
      · rcases h3 with h3 | ⟨i, hi, h3⟩
        · exact .inl h3
        · exact .inr ⟨i, by simp [hi], h3⟩
/-- x is handed out, if it is next -/
def goes (M : Its) (od x : Int) : Bool := has M x || decide (x < od)
/-- so many are handed out -/
structure Stop (M : Its) (od nx : Int) (K : Nat) : Prop where
  all : ∀ j : Nat, j < K → goes M od (nx + j) = true
  stop : goes M od (nx + K) = false
theorem stop_any {M : Its} {od : Int} (f : Nat) : ∀ nx : Int, (∀ y, nx + f ≤ y → goes M od y = false) → ∃ K, K ≤ f ∧ Stop M od nx K := by
  induction f with
  | zero =>
    intro nx h
    exact ⟨0, Nat.le_refl _, fun j hj => by omega, h _ (by simp)⟩
  | succ f ih =>
    intro nx h
    by_cases c : goes M od nx = true
    · obtain ⟨K, hK, h1, h2⟩ := ih (nx + 1) (fun y hy => h y (by omega))
      refine ⟨K + 1, by omega, fun j hj => ?_, ?_⟩
      · cases j with
        | zero => simpa using c
        | succ j =>
          have := h1 j (by omega)
          rw [show nx + ((j + 1 : Nat) : Int) = nx + 1 + (j : Int) by omega]
          exact this
      · rw [show nx + ((K + 1 : Nat) : Int) = nx + 1 + (K : Int) by omega]
        exact h2
    · exact ⟨0, by omega, fun j hj => by omega, by simpa using c⟩
theorem stop_ex {wt nw nx now od : Int} {M : Its} (h : Inv nw nx M) (ho : Od wt now M od) : ∃ K, K ≤ 200 ∧ Stop M od nx K := by
  refine stop_any 200 nx (fun y hy => ?_)
  have hx := h.x1
  simp only [goes, Bool.or_eq_false_iff, decide_eq_false_iff_not]
  refine ⟨no_has fun i hi e => ?_, ?_⟩
  · have := h.mem i hi
    omega
  · rcases ho.one with e | ⟨i, hi, _, e⟩
    · omega
    · have := h.mem i hi
      omega
theorem stop_one {M : Its} {od nx : Int} {K J : Nat} (h : Stop M od nx K) (k : Stop M od nx J) : K = J := by
  rcases Nat.lt_trichotomy K J with c | c | c
  · have := k.all K c
    rw [h.stop] at this
    cases this
  · exact c
  · have := h.all J c
    rw [k.stop] at this
    cases this
/-- the item of a number: what is there, or what is gone -/
def itm (M : Its) (y : Int) : Kp := (M.find? fun i => i.n == y).getD (gone y 0)
theorem itm_no {M : Its} {y : Int} (h : has M y = false) : itm M y = gone y 0 := by
  have : (M.find? fun i => i.n == y) = none := by
    rw [List.find?_eq_none]
    intro i hi
    have := has_no h i hi
    simpa using this
  simp [itm, this]
theorem itm_has {M : Its} {y : Int} (h : has M y = true) : itm M y ∈ M ∧ (itm M y).n = y := by
  obtain ⟨i, hi, e⟩ := has_iff.1 h
  cases hf : M.find? (fun i => i.n == y) with
  | none => exact absurd (List.find?_eq_none.1 hf i hi) (by simp [e])
  | some j =>
    have : itm M y = j := by simp [itm, hf]
    rw [this]
    exact ⟨List.mem_of_find?_eq_some hf, by simpa using List.find?_some hf⟩
theorem itm_n (M : Its) (y : Int) : (itm M y).n = y := by
  by_cases h : has M y = true
  · exact (itm_has h).2
  · rw [itm_no (by simpa using h)]; rfl
theorem itm_eq {M : Its} (h1 : Apart M) {i : Kp} (hi : i ∈ M) : itm M i.n = i := by
  obtain ⟨hj, e⟩ := itm_has (has_iff.2 ⟨i, hi, rfl⟩)
  generalize itm M i.n = j at *
  induction M with
  | nil => simp at hi
  | cons a M ih =>
    obtain ⟨p1, p2⟩ := List.pairwise_cons.1 h1
    rcases List.mem_cons.1 hj with rfl | hj'
    · rcases List.mem_cons.1 hi with rfl | hi'
      · rfl
      · exact absurd e (p1 i hi')
    · rcases List.mem_cons.1 hi with rfl | hi'
      · exact absurd e.symm (p1 j hj')
      · exact ih p2 hi' hj'
/-- what is handed out -/
def takes (M : Its) (nx : Int) (K : Nat) : Its := (List.range K).map fun (j : Nat) => itm M (nx + (j : Int))
theorem takes_succ (M : Its) (nx : Int) (K : Nat) : takes M nx (K + 1) = takes M nx K ++ [itm M (nx + (K : Int))] := by
  simp [takes, List.range_succ]
theorem takes_len (M : Its) (nx : Int) (K : Nat) : (takes M nx K).length = K := by simp [takes]
theorem takes_get (M : Its) (nx : Int) (K j : Nat) (h : j < K) : (takes M nx K)[j]? = some (itm M (nx + (j : Int))) := by
  simp [takes, List.getElem?_range h]
/-- what is left -/
def rest (M : Its) (x : Int) : Its := M.filter fun i => decide (x ≤ i.n)
theorem rest_all {nw nx : Int} {M : Its} (h : Inv nw nx M) : rest M nx = M := by
  unfold rest
  rw [List.filter_eq_self]
  intro i hi
  have := h.mem i hi
  simp; omega
theorem rest_succ (M : Its) (x : Int) : rest M (x + 1) = (rest M x).filter fun i => decide (i.n ≠ x) := by
  unfold rest
  rw [List.filter_filter]
  apply List.filter_congr
  intro i hi
  rw [Bool.eq_iff_iff]
  simp
  omega
theorem rest_has (M : Its) (x : Int) : has (rest M x) x = has M x := by
  rw [Bool.eq_iff_iff, has_iff, has_iff]
  constructor
  · rintro ⟨i, hi, e⟩; exact ⟨i, (List.mem_filter.1 hi).1, e⟩
  · rintro ⟨i, hi, e⟩; exact ⟨i, List.mem_filter.2 ⟨hi, by simp; omega⟩, e⟩
theorem rest_itm {M : Its} (h : Apart M) (x : Int) : itm (rest M x) x = itm M x := by
  by_cases c : has M x = true
  · obtain ⟨i, hi, rfl⟩ := has_iff.1 c
    rw [itm_eq h hi]
    exact itm_eq (h.filter _) (List.mem_filter.2 ⟨hi, by simp⟩)
  · have c' : has M x = false := by simpa using c
    rw [itm_no c', itm_no (by rw [rest_has]; exact c')]
theorem goes_max {nw nx od wt now x : Int} {M : Its} (h : Inv nw nx M) (ho : Od wt now M od) (hx : goes M od x = true) : x ≤ 1099511627776 := by
  simp only [goes, Bool.or_eq_true, decide_eq_true_eq] at hx
  rcases hx with hx | hx
  · obtain ⟨i, hi, rfl⟩ := has_iff.1 hx
    have := h.mem i hi
    omega
  · rcases ho.one with e | ⟨i, hi, _, e⟩
    · have := h.x1; omega
    · have := h.mem i hi; omega
theorem inv_pop {wt nw nx now od : Int} {M : Its} {K : Nat} (h : Inv nw nx M) (ht : tf nw now = 0) (ho : Od wt now M od) (hs : ∀ j : Nat, j < K → goes M od (nx + j) = true) : Inv now (nx + (K : Int)) (rest M (nx + (K : Int))) := by
  obtain ⟨j1, j2, j3⟩ := tf_zero ht
  have hx1 := h.x1
  refine ⟨j1, j2, by omega, ?_, ?_, h.one.filter _, ?_⟩
  · cases K with
    | zero => simpa using h.x2
    | succ K =>
      have := goes_max h ho (hs K (by omega))
      omega
  · intro i hi
    obtain ⟨hi, hk⟩ := List.mem_filter.1 hi
    have := h.mem i hi
    simp only [decide_eq_true_eq] at hk
    omega
  · intro e
    have : M = [] := h.non (by omega)
    subst this
    rfl
/-- none is handed out ahead of the first Push -/
theorem stop_none {wt nw now od : Int} {M : Its} {K : Nat} (h : Inv nw (-1) M) (ho : Od wt now M od) (hs : Stop M od (-1) K) : K = 0 := by
  have hM := h.non rfl
  subst hM
  cases K with
  | zero => rfl
  | succ K =>
    have := hs.all 0 (by omega)
    rcases ho.one with e | ⟨i, hi, _⟩
    · subst e
      simp [goes, has] at this
    · simp at hi

/-! what a map reads as -/
/-- an item's cells; with its time -/
def c8 (i : Kp) : List Value := [.int .i64 i.n, .bool i.g, .int .i64 i.p.s, .int .i64 i.p.t, .int .i64 i.p.l, .int .i64 i.p.q, .bool i.p.st, i.p.bv]
def c9 (i : Kp) : List Value := [.int .i64 i.n, .bool i.g, .int .i64 i.p.s, .int .i64 i.p.t, .int .i64 i.p.l, .int .i64 i.p.q, .bool i.p.st, i.p.bv, .int .i64 i.a]
def lv (i : Kp) : Value := .agg #[.int .i64 i.n, .bool i.g, .int .i64 i.p.s, .int .i64 i.p.t, .int .i64 i.p.l, .int .i64 i.p.q, .bool i.p.st, i.p.bv, .int .i64 i.a]
/-- how an element reads: as itself -/
def wtR : Value → Option (DataW Value × List MemPlace)
  | .agg cs => match cs.toList with
    | [.int .i64 _, .bool _, .int .i64 _, .int .i64 _, .int .i64 _, .int .i64 _, .bool _, .slice _ _ _, .int .i64 _] => some (.held (.agg cs), [])
    | _ => none
  | _ => none
theorem wtR_mk (n : Int) (g : Bool) (s t l q : Int) (st : Bool) (a : Option Addr) (m c : Nat) (z : Int) : wtR (.agg #[.int .i64 n, .bool g, .int .i64 s, .int .i64 t, .int .i64 l, .int .i64 q, .bool st, .slice a m c, .int .i64 z]) = some (.held (.agg #[.int .i64 n, .bool g, .int .i64 s, .int .i64 t, .int .i64 l, .int .i64 q, .bool st, .slice a m c, .int .i64 z]), []) := rfl
theorem wtR_inv {v : Value} {y : DataW Value × List MemPlace} (h : wtR v = some y) : (∃ n g s t l q st a m c z, v = .agg #[.int .i64 n, .bool g, .int .i64 s, .int .i64 t, .int .i64 l, .int .i64 q, .bool st, .slice a m c, .int .i64 z]) ∧ y = (.held v, []) := by
  unfold wtR at h
  split at h
  · rename_i cs
    split at h
    · rename_i n g s t l q st a m c z hcs
      refine ⟨⟨n, g, s, t, l, q, st, a, m, c, z, ?_⟩, (Option.some.inj h).symm⟩
      congr 1
      exact Array.toList_inj.1 hcs
    · cases h
  · cases h
/-- the Bodies lie in memory of the call's own -/
def Body (w : World) (p : Pk) : Prop := ∃ a m c, p.bv = .slice a m c ∧ w.ownsRow 0 5 1 (.slice a m c) m (cellsOf p.L) ∧ (∀ x ∈ p.L, x < 256) ∧ m ≤ 1000
def Bodies (w : World) (M : Its) : Prop := ∀ i ∈ M, Body w i.p
theorem own_base {w : World} {base base' e size n : Nat} {v : Value} {xs : List Value} (h : w.ownsRow base e size v n xs) (hb : base' ≤ base) : w.ownsRow base' e size v n xs := by
  refine ⟨h.1, ?_⟩
  rcases h.2 with h | ⟨g, cap, cur, e, hg, r⟩
  · exact .inl h
  · exact .inr ⟨g, cap, cur, e, Nat.le_trans hb hg, r⟩
theorem Body.only {w w' : World} {p : Pk} {bs : List Nat} (h : Body w p) (ho : Only bs w w') (hb : ∀ k ∈ bs, ∀ cs fr, w.heap[k]? ≠ some (.cells cs 5 fr)) : Body w' p := by
  obtain ⟨a, m, c, e, hr, hx, hm⟩ := h
  refine ⟨a, m, c, e, ho.owns hr ?_, hx, hm⟩
  intro k hk hc
  rcases hr.2 with ⟨hn, _⟩ | ⟨g, cap, cur, e, _, hgg, _⟩
  · rw [hn] at hk; simp [Value.ownBlock] at hk
  · rw [e] at hk
    simp [Value.ownBlock] at hk
    subst hk
    exact hb _ hc _ _ hgg
theorem body_z (w : World) : Body w zpk := ⟨none, 0, 0, rfl, by simpa [zpk, cellsOf] using World.ownsRow_nil w 0 5 1, by simp [zpk], by omega⟩
theorem Bodies.only {w w' : World} {M : Its} {bs : List Nat} (h : Bodies w M) (ho : Only bs w w') (hb : ∀ k ∈ bs, ∀ cs fr, w.heap[k]? ≠ some (.cells cs 5 fr)) : Bodies w' M := fun i hi => (h i hi).only ho hb
theorem Bodies.itm {w : World} {M : Its} (h : Bodies w M) (y : Int) : Body w (itm M y).p := by
  by_cases c : has M y = true
  · exact h _ (itm_has c).1
  · rw [itm_no (by simpa using c)]
    exact body_z w
theorem Bodies.takes {w : World} {M : Its} (h : Bodies w M) (nx : Int) (K : Nat) : Bodies w (takes M nx K) := by
  intro i hi
  obtain ⟨j, _, rfl⟩ := List.mem_map.1 hi
  exact h.itm _
theorem Bodies.app {w : World} {M : Its} (h : Bodies w M) {x : Kp} (hx : Body w x.p) : Bodies w (M ++ [x]) := by
  intro i hi
  rcases List.mem_append.1 hi with hi | hi
  · exact h i hi
  · simp only [List.mem_singleton] at hi
    subst hi
    exact hx
theorem Bodies.sub {w : World} {M N : Its} (h : Bodies w M) (hs : ∀ i ∈ N, i ∈ M) : Bodies w N := fun i hi => h i (hs i hi)
/-- which keys are there -/
def Keys (D : DataW Value) (M : Its) : Prop := ∀ k : Lit, Maps.has D k = true ↔ ∃ i ∈ M, k = key i.n
/-- what lies at them -/
def Elems (D : DataW Value) (M : Its) : Prop := ∀ i ∈ M, ∀ zd, D.atKey (key i.n) zd = .held (lv i)
theorem keys_empty : Keys (.map []) [] := by
  intro k
  constructor
  · intro h; simp [Maps.has] at h
  · rintro ⟨i, hi, _⟩; simp at hi
theorem Keys.at {D : DataW Value} {M : Its} (h : Keys D M) (y : Int) : Maps.has D (key y) = has M y := by
  rw [Bool.eq_iff_iff, h (key y), has_iff]
  constructor
  · rintro ⟨i, hi, e⟩; exact ⟨i, hi, (key_inj e).symm⟩
  · rintro ⟨i, hi, e⟩; exact ⟨i, hi, by rw [e]⟩
theorem keyLit (y : Int) : WideAt.IsKeyLit (key y) := trivial
theorem Keys.size {D : DataW Value} {M : Its} (h : Keys D M) (ht : ∃ es, D = .map es ∧ es.Pairwise (fun p q => p.1 ≠ q.1) ∧ ∀ p ∈ es, WideAt.IsKeyLit p.1) (h1 : M.Pairwise fun a b => a.n ≠ b.n) : Maps.size D = M.length := by
  obtain ⟨es, rfl, hp, hl⟩ := ht
  have n1 : (es.map Prod.fst).Nodup := by rw [List.nodup_iff_pairwise_ne, List.pairwise_map]; exact hp
  have n2 : (M.map fun i => key i.n).Nodup := by
    rw [List.nodup_iff_pairwise_ne, List.pairwise_map]
    exact h1.imp fun hab e => hab (key_inj e)
  have s1 : ∀ x ∈ es.map Prod.fst, x ∈ M.map fun i => key i.n := by
    intro x hx
    obtain ⟨e, he, rfl⟩ := List.mem_map.1 hx
    obtain ⟨i, hi, h⟩ := (h e.1).1 (List.any_eq_true.2 ⟨e, he, WideAt.sameKey_self (hl e he)⟩)
    exact List.mem_map.2 ⟨i, hi, h.symm⟩
  have s2 : ∀ x ∈ M.map (fun i => key i.n), x ∈ es.map Prod.fst := by
    intro x hx
    obtain ⟨i, hi, rfl⟩ := List.mem_map.1 hx
    obtain ⟨e, he, hs⟩ := List.any_eq_true.1 ((h (key i.n)).2 ⟨i, hi, rfl⟩)
    exact List.mem_map.2 ⟨e, he, WideAt.sameKey_eq hs⟩
  have l1 := List.Nodup.length_le_of_subset n1 s1
  have l2 := List.Nodup.length_le_of_subset n2 s2
  simp at l1 l2
  simp [Maps.size]
  omega
theorem keys_put {D : DataW Value} {M : Its} (hD : IsMap D) (h : Keys D M) (x : Kp) (d : DataW Value) : Keys (D.put (key x.n) d) (M ++ [x]) := by
  intro k
  by_cases e : k = key x.n
  · subst e
    rw [has_put_same hD (keyLit _)]
    exact ⟨fun _ => ⟨x, by simp, rfl⟩, fun _ => rfl⟩
  · rw [has_put_other e, h k]
    constructor
    · rintro ⟨i, hi, rfl⟩; exact ⟨i, by simp [hi], rfl⟩
    · rintro ⟨i, hi, rfl⟩
      rcases List.mem_append.1 hi with hi | hi
      · exact ⟨i, hi, rfl⟩
      · simp only [List.mem_singleton] at hi
        subst hi
        exact absurd rfl e
theorem elems_put {D : DataW Value} {M : Its} {x : Kp} (hD : IsMap D) (h : Elems D M) (hr : ∀ i ∈ M, i.n ≠ x.n) : Elems (D.put (key x.n) (.held (lv x))) (M ++ [x]) := by
  intro i hi zd
  rcases List.mem_append.1 hi with hi | hi
  · rw [atKey_put_other (fun e => hr i hi (key_inj e))]
    exact h i hi zd
  · simp only [List.mem_singleton] at hi
    subst hi
    exact atKey_put_same hD (keyLit _) _ _
theorem keys_strike {D : DataW Value} {M : Its} (h : Keys D M) (y : Int) : Keys (D.del (key y)) (M.filter fun i => decide (i.n ≠ y)) := by
  intro k
  by_cases e : k = key y
  · subst e
    rw [has_del_same]
    constructor
    · intro h; cases h
    · rintro ⟨i, hi, e⟩
      have := (List.mem_filter.1 hi).2
      simp at this
      exact absurd (key_inj e).symm this
  · rw [has_del_other e, h k]
    constructor
    · rintro ⟨i, hi, rfl⟩; exact ⟨i, List.mem_filter.2 ⟨hi, by simp; exact fun h => e (by rw [h])⟩, rfl⟩
    · rintro ⟨i, hi, rfl⟩; exact ⟨i, (List.mem_filter.1 hi).1, rfl⟩
theorem elems_strike {D : DataW Value} {M : Its} (h : Elems D M) (y : Int) : Elems (D.del (key y)) (M.filter fun i => decide (i.n ≠ y)) := by
  intro i hi zd
  obtain ⟨h1, h2⟩ := List.mem_filter.1 hi
  simp at h2
  rw [atKey_del_other (fun e => h2 (key_inj e))]
  exact h i h1 zd
theorem tight {P : Program} {k : TypeId} {R : Value → Option (DataW Value × List MemPlace)} {w : World} {b n : Nat} {D : DataW Value} (h : w.ownsMap P k R b n D) : w.ownsMap P k R b (Maps.size D) D := by
  obtain ⟨es, clock, hb, F, hs, rfl⟩ := h
  refine ⟨es, clock, hb, F, ?_, rfl⟩
  simp [Maps.size, length_sorted]
theorem map_block {P : Program} {k : TypeId} {R : Value → Option (DataW Value × List MemPlace)} {w : World} {b n : Nat} {D : DataW Value} (h : w.ownsMap P k R b n D) : ∃ es c, w.heap[b]? = some (.map es c) := by
  obtain ⟨es, clock, hb, _⟩ := h
  exact ⟨es, clock, hb⟩
/-- rows of items in memory -/
def flat (f : Kp → List Value) (M : Its) : List Value := M.flatMap f
theorem c8_len (i : Kp) : (c8 i).length = 8 := rfl
theorem c9_len (i : Kp) : (c9 i).length = 9 := rfl
theorem flat_len {f : Kp → List Value} {z : Nat} (hf : ∀ i, (f i).length = z) (M : Its) : (flat f M).length = M.length * z := by
  induction M with
  | nil => simp [flat]
  | cons i M ih =>
    simp only [flat, List.flatMap_cons, List.length_append, List.length_cons] at ih ⊢
    rw [ih, hf, Nat.succ_mul]
    omega
theorem flat_app (f : Kp → List Value) (M N : Its) : flat f (M ++ N) = flat f M ++ flat f N := by simp [flat]
theorem flat_one (f : Kp → List Value) (i : Kp) : flat f [i] = f i := by simp [flat]
theorem flat_get {f : Kp → List Value} {z : Nat} (hf : ∀ i, (f i).length = z) (M : Its) (j : Nat) (i : Kp) (h : M[j]? = some i) (c : Nat) (hc : c < z) : (flat f M)[j * z + c]? = (f i)[c]? := by
  induction M generalizing j with
  | nil => simp at h
  | cons a M ih =>
    have e : flat f (a :: M) = f a ++ flat f M := by simp [flat]
    rw [e]
    cases j with
    | zero =>
      simp only [List.getElem?_cons_zero, Option.some.injEq] at h
      subst h
      rw [List.getElem?_append_left (by rw [hf]; omega)]
      simp
    | succ j =>
      simp only [List.getElem?_cons_succ] at h
      rw [List.getElem?_append_right (by rw [hf, Nat.succ_mul]; omega), ← ih j h]
      congr 1
      rw [hf, Nat.succ_mul]
      omega
theorem row_cell {w : World} {base g c e z : Nat} {f : Kp → List Value} (hf : ∀ i, (f i).length = z) {M : Its} (h : w.ownsRow base e z (.slice (some ⟨g, 0, none⟩) M.length c) M.length (flat f M)) {j : Nat} {i : Kp} (hj : M[j]? = some i) (k : Nat) (hk : k < z) : w.cell? ⟨g, j * z + k, none⟩ = (f i)[k]? := by
  have hlt : j < M.length := (List.getElem?_eq_some_iff.1 hj).1
  have : (j + 1) * z ≤ M.length * z := Nat.mul_le_mul_right z hlt
  rw [Nat.succ_mul] at this
  rw [h.cellAt (j * z + k) (by omega), flat_get hf M j i hj k hk]
theorem row_form {w : World} {base e z : Nat} {f : Kp → List Value} {M : Its} {v : Value} (h : w.ownsRow base e z v M.length (flat f M)) : (v = .slice none 0 0 ∧ M = []) ∨ ∃ g c, v = .slice (some ⟨g, 0, none⟩) M.length c ∧ base ≤ g := by
  rcases h.2 with ⟨h, h0⟩ | ⟨g, cap, cur, h, hg, _⟩
  · exact .inl ⟨h, List.eq_nil_of_length_eq_zero h0⟩
  · exact .inr ⟨g, cap, h, hg⟩
/-- what lies behind a is of no account -/
theorem past {bs cs : List Nat} {a b c : World} (h : Only bs a b) (k : Only cs b c) (hc : ∀ j ∈ cs, j ∈ bs ∨ a.heap.size ≤ j) : Only bs a c :=
  ⟨k.1.trans h.1, k.2.1.trans h.2.1, k.2.2.1.trans h.2.2.1, Nat.le_trans h.2.2.2.1 k.2.2.2.1, fun i hi hb => (k.2.2.2.2 i (Nat.lt_of_lt_of_le hi h.2.2.2.1) (fun hh => by
    rcases hc i hh with h1 | h1
    · exact hb h1
    · omega)).trans (h.2.2.2.2 i hi hb)⟩
end Go.Proofs.YtijfocggdjjnjaiGreatDoor.OM

/-
  A Layer as numbers: what one Take tells, and what is known behind it. Of numbers alone; no program.
-/
set_option linter.unusedVariables false
namespace Go.Proofs.YtijfocggdjjnjaiGreatDoor.LM

/-- the fault of a limit -/
def lf (m : Int) : Nat := if 0 ≤ m ∧ m ≤ 3 then 0 else 1
theorem lf_zero {m : Int} (h : lf m = 0) : 0 ≤ m ∧ m ≤ 3 := by
  unfold lf at h
  split at h
  · assumption
  · omega
theorem lf_ok {m : Int} (h0 : 0 ≤ m) (h1 : m ≤ 3) : lf m = 0 := by unfold lf; rw [if_pos ⟨h0, h1⟩]
theorem lf_bad {m : Int} (h : m < 0 ∨ 3 < m) : lf m = 1 := by unfold lf; rw [if_neg (by omega)]
/-- is a Start wanted -/
def wants (m nw : Int) (br : Bool) : Bool := decide (nw = -1) || br || decide (m < nw)
/-- does a packet go through -/
def goes (m nw l : Int) (br st : Bool) : Bool := decide (l ≤ m) && (if st then decide (nw ≤ l) || br || decide (m < nw) else decide (l = nw) && !br)
/-- the fault of an item: n its number, g whether it is gone, p its packet's fault -/
def tkf (la n : Int) (g : Bool) (p : Nat) : Nat := if n < 0 ∨ 1099511627776 < n then 1 else if n ≤ la then 6 else if g then 0 else p
/-- whether it goes through -/
def tkx (m nw la n : Int) (br g : Bool) (p : Nat) (l : Int) (st : Bool) : Bool := decide (tkf la n g p = 0) && !g && goes m nw l br st
/-- the greatest number -/
def tkL (la n : Int) (g : Bool) (p : Nat) : Int := if tkf la n g p = 0 then n else la
/-- the layer -/
def tkN (m nw la n : Int) (br g : Bool) (p : Nat) (l : Int) (st : Bool) : Int := if tkx m nw la n br g p l st && st then l else nw
/-- is it broken -/
def tkB (m nw la n : Int) (br g : Bool) (p : Nat) (l : Int) (st : Bool) : Bool := if decide (tkf la n g p = 0) && g then decide (nw ≠ -1) else if tkx m nw la n br g p l st && st then false else br

/-- what a Layer may be -/
structure Inv (m nw la : Int) (br : Bool) : Prop where
  m0 : 0 ≤ m
  m1 : m ≤ 3
  n0 : -1 ≤ nw
  n1 : nw ≤ 3
  l0 : -1 ≤ la
  l1 : la ≤ 1099511627776
  bk : nw = -1 → br = false
theorem inv_start {m : Int} (h0 : 0 ≤ m) (h1 : m ≤ 3) : Inv m (-1) (-1) false := ⟨h0, h1, by omega, by omega, by omega, by omega, fun _ => rfl⟩
theorem Inv.limit {m nw la m' : Int} {br : Bool} (h : Inv m nw la br) (h0 : 0 ≤ m') (h1 : m' ≤ 3) : Inv m' nw la br := ⟨h0, h1, h.n0, h.n1, h.l0, h.l1, h.bk⟩
theorem tkf_zero {la n : Int} {g : Bool} {p : Nat} (h : tkf la n g p = 0) : 0 ≤ n ∧ n ≤ 1099511627776 ∧ la < n ∧ (g = false → p = 0) := by
  unfold tkf at h
  split at h
  · omega
  · split at h
    · omega
    · refine ⟨by omega, by omega, by omega, fun hg => ?_⟩
      rw [hg] at h
      simpa using h
theorem tkf_range {la n : Int} {g : Bool} {p : Nat} (h : n < 0 ∨ 1099511627776 < n) : tkf la n g p = 1 := by unfold tkf; rw [if_pos h]
theorem tkf_state {la n : Int} {g : Bool} {p : Nat} (h0 : 0 ≤ n) (h1 : n ≤ 1099511627776) (h : n ≤ la) : tkf la n g p = 6 := by unfold tkf; rw [if_neg (by omega), if_pos h]
theorem tkf_gone {la n : Int} {p : Nat} (h0 : 0 ≤ n) (h1 : n ≤ 1099511627776) (h : ¬ n ≤ la) : tkf la n true p = 0 := by unfold tkf; rw [if_neg (by omega), if_neg h]; rfl
theorem tkf_pack {la n : Int} {p : Nat} (h0 : 0 ≤ n) (h1 : n ≤ 1099511627776) (h : ¬ n ≤ la) : tkf la n false p = p := by unfold tkf; rw [if_neg (by omega), if_neg h]; rfl
theorem tkf_le {la n : Int} {g : Bool} {p : Nat} (h : p ≤ 100) : tkf la n g p ≤ 100 := by
  unfold tkf
  split
  · omega
  · split
    · omega
    · split <;> omega
/-- of a fault nothing changes -/
theorem tk_bad {m nw la n : Int} {br g : Bool} {p : Nat} {l : Int} {st : Bool} (h : tkf la n g p ≠ 0) : tkx m nw la n br g p l st = false ∧ tkL la n g p = la ∧ tkN m nw la n br g p l st = nw ∧ tkB m nw la n br g p l st = br := by
  simp [tkx, tkL, tkN, tkB, h]
theorem tk_gone {m nw la n : Int} {br : Bool} {p : Nat} {l : Int} {st : Bool} (h : tkf la n true p = 0) : tkx m nw la n br true p l st = false ∧ tkL la n true p = n ∧ tkN m nw la n br true p l st = nw ∧ tkB m nw la n br true p l st = decide (nw ≠ -1) := by
  simp [tkx, tkL, tkN, tkB, h]
theorem tk_pack {m nw la n : Int} {br : Bool} {p : Nat} {l : Int} {st : Bool} (h : tkf la n false p = 0) : tkx m nw la n br false p l st = goes m nw l br st ∧ tkL la n false p = n ∧ tkN m nw la n br false p l st = (if goes m nw l br st && st then l else nw) ∧ tkB m nw la n br false p l st = (if goes m nw l br st && st then false else br) := by
  simp [tkx, tkL, tkN, tkB, h]
theorem inv_take {m nw la n : Int} {br g : Bool} {p : Nat} {l : Int} {st : Bool} (h : Inv m nw la br) (hl : p = 0 → 0 ≤ l ∧ l ≤ 3) : Inv m (tkN m nw la n br g p l st) (tkL la n g p) (tkB m nw la n br g p l st) := by
  by_cases hf : tkf la n g p = 0
  · obtain ⟨k0, k1, k2, k3⟩ := tkf_zero hf
    cases g with
    | true =>
      obtain ⟨_, e1, e2, e3⟩ := tk_gone (m := m) (nw := nw) (br := br) (l := l) (st := st) hf
      rw [e1, e2, e3]
      exact ⟨h.m0, h.m1, h.n0, h.n1, by omega, by omega, fun e => by simp [e]⟩
    | false =>
      obtain ⟨_, e1, e2, e3⟩ := tk_pack (m := m) (nw := nw) (br := br) (l := l) (st := st) hf
      rw [e1, e2, e3]
      obtain ⟨q0, q1⟩ := hl (k3 rfl)
      cases hx : goes m nw l br st && st with
      | true => exact ⟨h.m0, h.m1, by simp; omega, by simpa using q1, by omega, by omega, fun e => rfl⟩
      | false => exact ⟨h.m0, h.m1, by simpa using h.n0, by simpa using h.n1, by omega, by omega, fun e => by simpa using h.bk (by simpa using e)⟩
  · obtain ⟨_, e1, e2, e3⟩ := tk_bad (m := m) (nw := nw) (br := br) (l := l) (st := st) hf
    rw [e1, e2, e3]
    exact h
/-- what goes through: no start is wanted behind it -/
theorem goes_then {m nw l : Int} {br st : Bool} (h : goes m nw l br st = true) (hl : 0 ≤ l) : l ≤ m ∧ wants m (if goes m nw l br st && st then l else nw) (if goes m nw l br st && st then false else br) = false ∧ (if goes m nw l br st && st then l else nw) = l ∧ (st = false → l = nw ∧ br = false) := by
  unfold goes at h ⊢
  cases st with
  | true =>
    simp only [Bool.and_eq_true, decide_eq_true_eq] at h
    obtain ⟨h1, h2⟩ := h
    refine ⟨h1, ?_, ?_, fun e => by cases e⟩
    · simp only [h1, decide_true, Bool.true_and, if_true] at h2 ⊢
      rw [h2]
      simp [wants]
      omega
    · simp only [h1, decide_true, Bool.true_and, if_true] at h2 ⊢
      rw [h2]
      rfl
  | false =>
    simp only [Bool.and_eq_true, decide_eq_true_eq, Bool.false_eq_true, if_false, Bool.not_eq_true'] at h
    obtain ⟨h1, h2, h3⟩ := h
    subst h2
    refine ⟨h1, ?_, ?_, fun _ => ⟨rfl, h3⟩⟩
    · simp [wants, h3]
      omega
    · simp
end Go.Proofs.YtijfocggdjjnjaiGreatDoor.LM

/-
  One row of packets as numbers: which Seq and which Time the next one has. Of numbers alone; no program.
-/
set_option linter.unusedVariables false
namespace Go.Proofs.YtijfocggdjjnjaiGreatDoor.UM

/-- the fault of a beginning -/
def nf (s t : Int) : Nat := if 0 ≤ s ∧ s ≤ 65535 ∧ 0 ≤ t ∧ t ≤ 4294967295 then 0 else 1
theorem nf_ok {s t : Int} (h0 : 0 ≤ s) (h1 : s ≤ 65535) (h2 : 0 ≤ t) (h3 : t ≤ 4294967295) : nf s t = 0 := by unfold nf; rw [if_pos ⟨h0, h1, h2, h3⟩]
theorem nf_bad {s t : Int} (h : s < 0 ∨ 65535 < s ∨ t < 0 ∨ 4294967295 < t) : nf s t = 1 := by unfold nf; rw [if_neg (by omega)]
/-- the Seq of the one that goes out behind k others -/
def sq (S : Int) (k : Nat) : Int := (S + (k : Int)) % 65536
theorem sq_bd (S : Int) (k : Nat) : 0 ≤ sq S k ∧ sq S k ≤ 65535 := by unfold sq; omega
theorem sq_zero {S : Int} (h0 : 0 ≤ S) (h1 : S ≤ 65535) : sq S 0 = S := by unfold sq; omega
theorem sq_next (S : Int) (k : Nat) : sq S (k + 1) = (sq S k + 1) % 65536 := by unfold sq; omega
/-- the Time of the next one: k went out, T is the Time of the last one, ly its Layer, ow the Time it came with; l and t are the next one's own -/
def nt (k : Nat) (T ly ow l t : Int) : Int := if k = 0 then T else if l = ly then (T + t - ow) % 4294967296 else (T + 1) % 4294967296
theorem nt_zero (T ly ow l t : Int) : nt 0 T ly ow l t = T := rfl
theorem nt_same {k : Nat} (T ly ow t : Int) (h : k ≠ 0) : nt k T ly ow ly t = (T + t - ow) % 4294967296 := by unfold nt; rw [if_neg h, if_pos rfl]
theorem nt_other {k : Nat} (T ly ow l t : Int) (h : k ≠ 0) (hl : l ≠ ly) : nt k T ly ow l t = (T + 1) % 4294967296 := by unfold nt; rw [if_neg h, if_neg hl]
theorem nt_bd {k : Nat} {T ly ow l t : Int} (h0 : 0 ≤ T) (h1 : T ≤ 4294967295) : 0 ≤ nt k T ly ow l t ∧ nt k T ly ow l t ≤ 4294967295 := by
  unfold nt
  split
  · exact ⟨h0, h1⟩
  · split <;> omega
/-- what an Out may be -/
structure Inv (S : Int) (k : Nat) (T ow : Int) : Prop where
  s0 : 0 ≤ S
  s1 : S ≤ 65535
  k1 : k ≤ 1000
  t0 : 0 ≤ T
  t1 : T ≤ 4294967295
  o0 : 0 ≤ ow
  o1 : ow ≤ 4294967295
theorem inv_start {S T : Int} (h0 : 0 ≤ S) (h1 : S ≤ 65535) (h2 : 0 ≤ T) (h3 : T ≤ 4294967295) : Inv S 0 T 0 := ⟨h0, h1, by omega, h2, h3, by omega, by omega⟩
theorem Inv.next {S T ow ly l t : Int} {k : Nat} (h : Inv S k T ow) (hk : k < 1000) (h0 : 0 ≤ t) (h1 : t ≤ 4294967295) : Inv S (k + 1) (nt k T ly ow l t) t :=
  ⟨h.s0, h.s1, by omega, (nt_bd h.t0 h.t1).1, (nt_bd h.t0 h.t1).2, h0, h1⟩
/-- two rows that are given the same are as far apart as at first -/
theorem nt_shift {k : Nat} {T U ly ow l t d : Int} (h : U = (T + d) % 4294967296) : nt k U ly ow l t = (nt k T ly ow l t + d) % 4294967296 := by
  unfold nt
  split
  · exact h
  · split <;> (rw [h]; omega)
end Go.Proofs.YtijfocggdjjnjaiGreatDoor.UM

/-
  Who wants what of which track: as a list, and as what a map reads as. Of numbers and lists alone; no program.
-/
namespace Go.Proofs.YtijfocggdjjnjaiGreatDoor.PU
open Go Go.RowKit Go.Maps Go.Proofs.YtijfocggdjjnjaiGreatDoor.Mem
set_option linter.unusedVariables false

/-- who wants a track up to a layer: who, track, layer -/
structure Wt where
  a : Int
  b : Int
  c : Int
abbrev Wts := List Wt
def zz : Wt := ⟨0, 0, 0⟩
/-- no one wants a track twice -/
def Uq (L : Wts) : Prop := L.Pairwise fun x y => ¬ (x.a = y.a ∧ x.b = y.b)
def Ok (x : Wt) : Prop := 0 ≤ x.a ∧ x.a ≤ 200 ∧ 1 ≤ x.b ∧ x.b ≤ 8 ∧ 0 ≤ x.c ∧ x.c ≤ 3
structure Inv (L : Wts) : Prop where
  mem : ∀ x ∈ L, Ok x
  uq : Uq L
theorem inv_nil : Inv [] := ⟨by simp, List.Pairwise.nil⟩
theorem uq_eq {L : Wts} (h : Uq L) {x y : Wt} (hx : x ∈ L) (hy : y ∈ L) (e : x.a = y.a ∧ x.b = y.b) : x = y := by
  induction L with
  | nil => simp at hx
  | cons z L ih =>
    obtain ⟨p1, p2⟩ := List.pairwise_cons.1 h
    rcases List.mem_cons.1 hx with ex | hx1
    · rcases List.mem_cons.1 hy with ey | hy1
      · rw [ex, ey]
      · exact absurd (by rw [← ex]; exact e) (p1 y hy1)
    · rcases List.mem_cons.1 hy with ey | hy1
      · exact absurd (by rw [← ey]; exact ⟨e.1.symm, e.2.symm⟩) (p1 x hx1)
      · exact ih p2 hx1 hy1

/-- those of a track; who they are; what is needed of it -/
def of (L : Wts) (t : Int) : Wts := L.filter fun x => decide (x.b = t)
theorem mem_of {L : Wts} {t : Int} {x : Wt} : x ∈ of L t ↔ x ∈ L ∧ x.b = t := by simp [of]
def whos (L : Wts) (t : Int) : List Int := (of L t).map Wt.a
theorem whos_len (L : Wts) (t : Int) : (whos L t).length = (of L t).length := by simp [whos]
theorem of_len (L : Wts) (t : Int) : (of L t).length ≤ L.length := List.length_filter_le _ _
theorem mem_whos {L : Wts} {t z : Int} : z ∈ whos L t ↔ ∃ x ∈ L, x.b = t ∧ x.a = z := by
  simp only [whos, List.mem_map, mem_of]
  constructor
  · rintro ⟨x, ⟨h1, h2⟩, h3⟩; exact ⟨x, h1, h2, h3⟩
  · rintro ⟨x, h1, h2, h3⟩; exact ⟨x, ⟨h1, h2⟩, h3⟩
theorem whos_nodup {L : Wts} (h : Uq L) (t : Int) : (whos L t).Nodup := by
  rw [List.nodup_iff_pairwise_ne, whos, List.pairwise_map]
  have hf : (of L t).Pairwise fun x y => ¬ (x.a = y.a ∧ x.b = y.b) := h.filter _
  exact hf.imp_of_mem fun {x y} hx hy q e => q ⟨e, by rw [(mem_of.1 hx).2, (mem_of.1 hy).2]⟩
def need (L : Wts) (t : Int) : Int := (of L t).foldl (fun m x => max m x.c) (-1)
theorem fold_max (l : Wts) (m : Int) : m ≤ l.foldl (fun m x => max m x.c) m ∧ (∀ x ∈ l, x.c ≤ l.foldl (fun m x => max m x.c) m) ∧ (l.foldl (fun m x => max m x.c) m = m ∨ ∃ x ∈ l, x.c = l.foldl (fun m x => max m x.c) m) := by
  induction l generalizing m with
  | nil => exact ⟨Int.le_refl _, by simp, .inl rfl⟩
  | cons y l ih =>
    obtain ⟨h1, h2, h3⟩ := ih (max m y.c)
    simp only [List.foldl_cons]
    refine ⟨by omega, ?_, ?_⟩
    · intro x hx
      rcases List.mem_cons.1 hx with rfl | hx
      · omega
      · exact h2 x hx
    · rcases h3 with h3 | ⟨x, hx, h3⟩
      · rw [h3]
        rcases Int.le_total m y.c with q | q
        · exact .inr ⟨y, by simp, by omega⟩
        · exact .inl (by omega)
      · exact .inr ⟨x, by simp [hx], h3⟩
theorem need_spec (L : Wts) (t : Int) : -1 ≤ need L t ∧ (∀ x ∈ L, x.b = t → x.c ≤ need L t) ∧ (need L t = -1 ∨ ∃ x ∈ L, x.b = t ∧ x.c = need L t) := by
  obtain ⟨h1, h2, h3⟩ := fold_max (of L t) (-1)
  refine ⟨h1, fun x hx e => h2 x (mem_of.2 ⟨hx, e⟩), ?_⟩
  rcases h3 with h3 | ⟨x, hx, h3⟩
  · exact .inl h3
  · exact .inr ⟨x, (mem_of.1 hx).1, (mem_of.1 hx).2, h3⟩
theorem need_eq {L : Wts} {t m : Int} (h1 : -1 ≤ m) (h2 : ∀ x ∈ L, x.b = t → x.c ≤ m) (h3 : m = -1 ∨ ∃ x ∈ L, x.b = t ∧ x.c = m) : m = need L t := by
  obtain ⟨k1, k2, k3⟩ := need_spec L t
  have p : m ≤ need L t := by
    rcases h3 with h3 | ⟨x, hx, e, h3⟩
    · omega
    · have := k2 x hx e; omega
  have q : need L t ≤ m := by
    rcases k3 with k3 | ⟨x, hx, e, k3⟩
    · omega
    · have := h2 x hx e; omega
  omega
theorem need_mem {L K : Wts} {t : Int} (h : ∀ y, y.b = t → (y ∈ L ↔ y ∈ K)) : need L t = need K t := by
  obtain ⟨k1, k2, k3⟩ := need_spec L t
  refine need_eq k1 (fun x hx e => k2 x ((h x e).2 hx) e) ?_
  rcases k3 with k3 | ⟨x, hx, e, k3⟩
  · exact .inl k3
  · exact .inr ⟨x, (h x e).1 hx, e, k3⟩
theorem need_top {L : Wts} (h : Inv L) (t : Int) : need L t ≤ 3 := by
  obtain ⟨k1, k2, k3⟩ := need_spec L t
  rcases k3 with k3 | ⟨x, hx, e, k3⟩
  · omega
  · have := h.mem x hx; unfold Ok at this; omega
theorem need_none {L : Wts} (h : Inv L) {t : Int} : need L t < 0 ↔ of L t = [] := by
  obtain ⟨k1, k2, k3⟩ := need_spec L t
  constructor
  · intro hn
    rw [List.eq_nil_iff_forall_not_mem]
    intro x hx
    have h1 := mem_of.1 hx
    have h2 := k2 x h1.1 h1.2
    have h3 := h.mem x h1.1
    unfold Ok at h3
    omega
  · intro hn
    rcases k3 with k3 | ⟨x, hx, e, k3⟩
    · omega
    · have := mem_of.2 ⟨hx, e⟩
      rw [hn] at this
      simp at this
theorem need_nil (t : Int) : need [] t = -1 := rfl
theorem need_out {L : Wts} (h : Inv L) {t : Int} (ht : t < 1 ∨ 8 < t) : need L t = -1 := by
  obtain ⟨k1, k2, k3⟩ := need_spec L t
  rcases k3 with k3 | ⟨x, hx, e, k3⟩
  · exact k3
  · have := h.mem x hx; unfold Ok at this; omega
theorem of_out {L : Wts} (h : Inv L) {t : Int} (ht : t < 1 ∨ 8 < t) : of L t = [] := (need_none h).1 (by rw [need_out h ht]; omega)

/-- one that wants, or drops -/
def hit (a b : Int) (y : Wt) : Bool := decide (y.a = a) && decide (y.b = b)
theorem hit_iff {a b : Int} {y : Wt} : hit a b y = true ↔ y.a = a ∧ y.b = b := by simp [hit]
def has (L : Wts) (a b : Int) : Bool := L.any (hit a b)
theorem has_iff {L : Wts} {a b : Int} : has L a b = true ↔ ∃ y ∈ L, y.a = a ∧ y.b = b := by
  simp [has, hit]
def del (L : Wts) (a b : Int) : Wts := L.filter fun y => !hit a b y
def put (L : Wts) (x : Wt) : Wts := del L x.a x.b ++ [x]
theorem mem_del {L : Wts} {a b : Int} {y : Wt} : y ∈ del L a b ↔ y ∈ L ∧ ¬ (y.a = a ∧ y.b = b) := by
  unfold del
  rw [List.mem_filter, ← hit_iff]
  simp
theorem mem_put {L : Wts} {x y : Wt} : y ∈ put L x ↔ (y ∈ L ∧ ¬ (y.a = x.a ∧ y.b = x.b)) ∨ y = x := by
  simp [put, mem_del]
theorem inv_del {L : Wts} (h : Inv L) (a b : Int) : Inv (del L a b) := ⟨fun x hx => h.mem x (mem_del.1 hx).1, h.uq.filter _⟩
theorem inv_put {L : Wts} (h : Inv L) {x : Wt} (hx : Ok x) : Inv (put L x) := by
  refine ⟨fun y hy => ?_, ?_⟩
  · rcases mem_put.1 hy with h1 | rfl
    · exact h.mem y h1.1
    · exact hx
  · unfold Uq put
    rw [List.pairwise_append]
    refine ⟨h.uq.filter _, List.pairwise_singleton _ _, ?_⟩
    intro p hp q hq e
    simp at hq
    subst hq
    exact (mem_del.1 hp).2 e
theorem del_len (L : Wts) (a b : Int) : (del L a b).length ≤ L.length := List.length_filter_le _ _
theorem put_len (L : Wts) (x : Wt) : (put L x).length ≤ L.length + 1 := by
  have := del_len L x.a x.b
  simp [put]; omega
/-- faults -/
def wf (a b c : Int) : Nat := if 0 ≤ a ∧ a ≤ 200 ∧ 1 ≤ b ∧ b ≤ 8 ∧ 0 ≤ c ∧ c ≤ 3 then 0 else 1
theorem wf_zero {a b c : Int} : wf a b c = 0 ↔ Ok ⟨a, b, c⟩ := by
  unfold wf Ok
  split
  · exact ⟨fun _ => by assumption, fun _ => rfl⟩
  · exact ⟨fun h => by omega, fun h => absurd h (by assumption)⟩
theorem wf_le (a b c : Int) : wf a b c ≤ 1 := by unfold wf; split <;> omega
def df (L : Wts) (a b : Int) : Nat := if 0 ≤ a ∧ a ≤ 200 ∧ 1 ≤ b ∧ b ≤ 8 then (if has L a b = true then 0 else 5) else 1
theorem df_le (L : Wts) (a b : Int) : df L a b ≤ 5 := by unfold df; split; split <;> omega; omega
def tf (nw now : Int) : Nat := if now < 0 ∨ 1000000 < now then 1 else if now < nw then 6 else 0
theorem tf_zero {nw now : Int} (h : tf nw now = 0) : 0 ≤ now ∧ now ≤ 1000000 ∧ nw ≤ now := by
  unfold tf at h
  split at h
  · omega
  · split at h <;> omega
theorem tf_le {nw now : Int} : tf nw now ≤ 6 := by
  unfold tf
  split
  · omega
  · split <;> omega
def af (L : Wts) (nw t now : Int) : Nat := if t < 1 ∨ 8 < t then 1 else if tf nw now ≠ 0 then tf nw now else if need L t < 0 then 5 else 0
theorem af_le {L : Wts} {nw t now : Int} : af L nw t now ≤ 6 := by
  unfold af
  have := @tf_le nw now
  split
  · omega
  · split
    · exact this
    · split <;> omega
theorem af_zero {L : Wts} {nw t now : Int} (h : af L nw t now = 0) : 1 ≤ t ∧ t ≤ 8 ∧ tf nw now = 0 ∧ 0 ≤ need L t := by
  unfold af at h
  split at h
  · omega
  · split at h
    · omega
    · split at h
      · omega
      · omega
/-- since when, as it is kept; whether a start is let through -/
def lst (th a : Int) : Int := if a < 0 then -th else a
def thru (th a now : Int) : Bool := decide (a < 0) || decide (th ≤ now - a)
theorem thru_iff {th a now : Int} (h : 0 ≤ now) : (decide (now - lst th a < th)) = !thru th a now := by
  unfold lst thru
  by_cases c : a < 0
  · rw [if_pos c, decide_eq_true c]
    simp; omega
  · rw [if_neg c, decide_eq_false c]
    simp only [Bool.false_or]
    rw [← decide_not]
    congr 1
    rw [eq_iff_iff]; omega
/-- one of a row of eight set -/
def upd {α : Type} (f : Nat → α) (i : Nat) (x : α) : Nat → α := fun j => if j = i then x else f j
/-- what has changed of the first k tracks -/
def chg (L : Wts) (td : Nat → Int) (k : Nat) : Wts := ((List.range k).filter fun (i : Nat) => !decide (need L ((i : Int) + 1) = td i)).map fun (i : Nat) => ⟨0, (i : Int) + 1, need L ((i : Int) + 1)⟩
theorem chg_zero (L : Wts) (td : Nat → Int) : chg L td 0 = [] := rfl
theorem chg_same {L : Wts} {td : Nat → Int} {k : Nat} (h : need L ((k : Int) + 1) = td k) : chg L td (k + 1) = chg L td k := by
  simp [chg, List.range_succ, h]
theorem chg_more {L : Wts} {td : Nat → Int} {k : Nat} (h : need L ((k : Int) + 1) ≠ td k) : chg L td (k + 1) = chg L td k ++ [⟨0, (k : Int) + 1, need L ((k : Int) + 1)⟩] := by
  simp [chg, List.range_succ, h]
theorem chg_len (L : Wts) (td : Nat → Int) (k : Nat) : (chg L td k).length ≤ k := by
  have := List.length_filter_le (fun (i : Nat) => !decide (need L ((i : Int) + 1) = td i)) (List.range k)
  simp only [List.length_range] at this
  simp only [chg, List.length_map]
  exact this
def tdN (L : Wts) (td : Nat → Int) (k : Nat) : Nat → Int := fun i => if i < k then need L ((i : Int) + 1) else td i

/-! one call of Ask: what comes of what there was -/
def ix (t : Int) : Nat := (t - 1).toNat
def aB (L : Wts) (th nw : Int) (ak : Nat → Int) (t now : Int) : Bool := decide (af L nw t now = 0) && thru th (ak (ix t)) now
def aN (L : Wts) (nw t now : Int) : Int := if af L nw t now = 0 then now else nw
def aK (L : Wts) (th nw : Int) (ak : Nat → Int) (t now : Int) : Nat → Int := if aB L th nw ak t now = true then upd ak (ix t) now else ak
structure AInv (th nw : Int) (ak : Nat → Int) : Prop where
  t1 : 1 ≤ th
  t2 : th ≤ 1000000
  n1 : 0 ≤ nw
  n2 : nw ≤ 1000000
  a1 : ∀ i, -1 ≤ ak i ∧ ak i ≤ nw
theorem ainv_start {th : Int} (h1 : 1 ≤ th) (h2 : th ≤ 1000000) : AInv th 0 (fun _ => -1) := ⟨h1, h2, by omega, by omega, fun _ => by constructor <;> omega⟩
theorem ainv_ask {L : Wts} {th nw t now : Int} {ak : Nat → Int} (h : AInv th nw ak) : AInv th (aN L nw t now) (aK L th nw ak t now) := by
  unfold aN aK aB
  by_cases e : af L nw t now = 0
  · obtain ⟨k1, k2, k3, k4⟩ := af_zero e
    obtain ⟨j1, j2, j3⟩ := tf_zero k3
    rw [if_pos e]
    refine ⟨h.t1, h.t2, j1, j2, fun i => ?_⟩
    have := h.a1 i
    split
    · unfold upd
      split <;> omega
    · omega
  · rw [if_neg e, decide_eq_false e, Bool.false_and, if_neg (by simp)]
    exact h

/-! what a map reads as -/
def key (y : Int) : Lit := .int .i64 y
theorem key_inj {x y : Int} (h : key x = key y) : x = y := by
  unfold key at h
  injection h
theorem keyLit (y : Int) : WideAt.IsKeyLit (key y) := trivial
/-- how an element reads: as itself -/
def inR : Value → Option (DataW Value × List MemPlace)
  | .int .i64 x => some (.held (.int .i64 x), [])
  | _ => none
theorem inR_mk (x : Int) : inR (.int .i64 x) = some (.held (.int .i64 x), []) := rfl
theorem inR_inv {v : Value} {y : DataW Value × List MemPlace} (h : inR v = some y) : (∃ x, v = .int .i64 x) ∧ y = (.held v, []) := by
  unfold inR at h
  split at h
  · rename_i x
    exact ⟨⟨x, rfl⟩, (Option.some.inj h).symm⟩
  · cases h
/-- a map holds those of a track -/
structure KM (D : DataW Value) (L : Wts) (t : Int) : Prop where
  keys : ∀ k : Lit, Maps.has D k = true ↔ ∃ x ∈ L, x.b = t ∧ k = key x.a
  els : ∀ x ∈ L, x.b = t → ∀ zd, D.atKey (key x.a) zd = .held (.int .i64 x.c)
theorem KM.nil (t : Int) : KM (.map []) [] t := by
  refine ⟨fun k => ?_, by simp⟩
  constructor
  · intro h; simp [Maps.has] at h
  · rintro ⟨i, hi, _⟩; simp at hi
theorem KM.mem {D : DataW Value} {L K : Wts} {t : Int} (h : KM D L t) (e : ∀ y, y.b = t → (y ∈ L ↔ y ∈ K)) : KM D K t := by
  refine ⟨fun k => ?_, fun x hx hb => h.els x ((e x hb).2 hx) hb⟩
  rw [h.keys k]
  constructor
  · rintro ⟨x, h1, h2, h3⟩; exact ⟨x, (e x h2).1 h1, h2, h3⟩
  · rintro ⟨x, h1, h2, h3⟩; exact ⟨x, (e x h2).2 h1, h2, h3⟩
theorem KM.at {D : DataW Value} {L : Wts} {t : Int} (h : KM D L t) (y : Int) : Maps.has D (key y) = has L y t := by
  rw [Bool.eq_iff_iff, h.keys (key y), has_iff]
  constructor
  · rintro ⟨i, hi, e, q⟩; exact ⟨i, hi, (key_inj q).symm, e⟩
  · rintro ⟨i, hi, e, q⟩; exact ⟨i, hi, q, by rw [e]⟩
theorem KM.put {D : DataW Value} {L K : Wts} {x : Wt} (hD : IsMap D) (h : KM D L x.b) (e : ∀ y, y.b = x.b → (y ∈ K ↔ (y ∈ L ∧ y.a ≠ x.a) ∨ y = x)) : KM (D.put (key x.a) (.held (.int .i64 x.c))) K x.b := by
  refine ⟨fun k => ?_, fun y hy hb zd => ?_⟩
  · by_cases q : k = key x.a
    · subst q
      rw [has_put_same hD (keyLit _)]
      exact ⟨fun _ => ⟨x, (e x rfl).2 (.inr rfl), rfl, rfl⟩, fun _ => rfl⟩
    · rw [has_put_other q, h.keys k]
      constructor
      · rintro ⟨y, h1, h2, rfl⟩; exact ⟨y, (e y h2).2 (.inl ⟨h1, fun z => q (by rw [z])⟩), h2, rfl⟩
      · rintro ⟨y, h1, h2, rfl⟩
        rcases (e y h2).1 h1 with h3 | rfl
        · exact ⟨y, h3.1, h2, rfl⟩
        · exact absurd rfl q
  · rcases (e y hb).1 hy with h3 | rfl
    · rw [atKey_put_other (fun z => h3.2 (key_inj z))]
      exact h.els y h3.1 hb zd
    · exact atKey_put_same hD (keyLit _) _ _
theorem KM.del {D : DataW Value} {L K : Wts} {a t : Int} (h : KM D L t) (e : ∀ y, y.b = t → (y ∈ K ↔ y ∈ L ∧ y.a ≠ a)) : KM (D.del (key a)) K t := by
  refine ⟨fun k => ?_, fun y hy hb zd => ?_⟩
  · by_cases q : k = key a
    · subst q
      rw [has_del_same]
      constructor
      · intro h; cases h
      · rintro ⟨y, h1, h2, h3⟩
        exact absurd (key_inj h3).symm ((e y h2).1 h1).2
    · rw [has_del_other q, h.keys k]
      constructor
      · rintro ⟨y, h1, h2, rfl⟩; exact ⟨y, (e y h2).2 ⟨h1, fun z => q (by rw [z])⟩, h2, rfl⟩
      · rintro ⟨y, h1, h2, rfl⟩; exact ⟨y, ((e y h2).1 h1).1, h2, rfl⟩
  · obtain ⟨h1, h2⟩ := (e y hb).1 hy
    rw [atKey_del_other (fun z => h2 (key_inj z))]
    exact h.els y h1 hb zd
theorem KM.size {D : DataW Value} {L : Wts} {t : Int} (h : KM D L t) (ht : ∃ es, D = .map es ∧ es.Pairwise (fun p q => p.1 ≠ q.1) ∧ ∀ p ∈ es, WideAt.IsKeyLit p.1) (h1 : Uq L) : Maps.size D = (of L t).length := by
  obtain ⟨es, rfl, hp, hl⟩ := ht
  have n1 : (es.map Prod.fst).Nodup := by rw [List.nodup_iff_pairwise_ne, List.pairwise_map]; exact hp
  have n2 : ((whos L t).map key).Nodup := by
    rw [List.nodup_iff_pairwise_ne, List.pairwise_map]
    exact (List.nodup_iff_pairwise_ne.1 (whos_nodup h1 t)).imp fun hab e => hab (key_inj e)
  have s1 : ∀ x ∈ es.map Prod.fst, x ∈ (whos L t).map key := by
    intro x hx
    obtain ⟨e, he, rfl⟩ := List.mem_map.1 hx
    obtain ⟨i, hi, hb, h⟩ := (h.keys e.1).1 (List.any_eq_true.2 ⟨e, he, WideAt.sameKey_self (hl e he)⟩)
    exact List.mem_map.2 ⟨i.a, mem_whos.2 ⟨i, hi, hb, rfl⟩, h.symm⟩
  have s2 : ∀ x ∈ (whos L t).map key, x ∈ es.map Prod.fst := by
    intro x hx
    obtain ⟨z, hz, rfl⟩ := List.mem_map.1 hx
    obtain ⟨i, hi, hb, rfl⟩ := mem_whos.1 hz
    obtain ⟨e, he, hs⟩ := List.any_eq_true.1 ((h.keys (key i.a)).2 ⟨i, hi, hb, rfl⟩)
    exact List.mem_map.2 ⟨e, he, WideAt.sameKey_eq hs⟩
  have l1 := List.Nodup.length_le_of_subset n1 s1
  have l2 := List.Nodup.length_le_of_subset n2 s2
  simp [whos_len] at l1 l2
  simp [Maps.size]
  omega
/-- the keys, as numbers -/
theorem KM.perm {P : Program} {k : TypeId} {R : Value → Option (DataW Value × List MemPlace)} {w : World} {b n : Nat} {D : DataW Value} {L : Wts} {t : Int} (h : KM D L t) (hown : w.ownsMap P k R b n D) (K : Keyed P k) (hk : P.underlying k = some (.int .i64)) (h1 : Uq L) : (whos L t).Perm (intKeys D) := by
  obtain ⟨es, hD, hpw, _⟩ := hown.entries K
  obtain ⟨es', hD', hko⟩ := hown.keysOf
  obtain rfl : es = es' := by rw [hD] at hD'; simpa using hD'
  subst hD
  refine perm_intKeys hpw (fun p hp => by obtain ⟨v, hv⟩ := hko p hp; obtain ⟨x, _, hx, _⟩ := Maps.keyOf_i64 hk hv; exact ⟨x, hx⟩) (whos_nodup h1 t) (fun x => ?_)
  rw [show Lit.int .i64 x = key x from rfl, h.keys (key x), mem_whos]
  constructor
  · rintro ⟨i, hi, hb, rfl⟩; exact ⟨i, hi, hb, rfl⟩
  · rintro ⟨i, hi, hb, e⟩; exact ⟨i, hi, hb, (key_inj e).symm⟩
theorem tight {P : Program} {k : TypeId} {R : Value → Option (DataW Value × List MemPlace)} {w : World} {b n : Nat} {D : DataW Value} (h : w.ownsMap P k R b n D) : w.ownsMap P k R b (Maps.size D) D := by
  obtain ⟨es, clock, hb, F, hs, rfl⟩ := h
  refine ⟨es, clock, hb, F, ?_, rfl⟩
  simp [Maps.size, length_sorted]
theorem map_block {P : Program} {k : TypeId} {R : Value → Option (DataW Value × List MemPlace)} {w : World} {b n : Nat} {D : DataW Value} (h : w.ownsMap P k R b n D) : ∃ es c, w.heap[b]? = some (.map es c) := by
  obtain ⟨es, clock, hb, _⟩ := h
  exact ⟨es, clock, hb⟩
/-- who wants a track, rising -/
def whoS (L : Wts) (t : Int) : List Int := (whos L t).mergeSort fun x y => decide (x ≤ y)
theorem whoS_len (L : Wts) (t : Int) : (whoS L t).length = (of L t).length := by simp [whoS, whos_len]
theorem mem_whoS {L : Wts} {t z : Int} : z ∈ whoS L t ↔ ∃ x ∈ L, x.b = t ∧ x.a = z := by
  unfold whoS
  rw [(List.mergeSort_perm _ _).mem_iff, mem_whos]
end Go.Proofs.YtijfocggdjjnjaiGreatDoor.PU
