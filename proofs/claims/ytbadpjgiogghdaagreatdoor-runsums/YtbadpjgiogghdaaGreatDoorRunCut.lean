/-
  Texts as lists of bytes: a text cut at each byte of one kind, its lines; numbers of at most nine digits, as they are written and read; bytes as digits by twos. No program in this text.
-/
import Derived.Lib.AtoiAll
import Derived.Lib.ItoaNum
import Derived.Lib.Join
import Derived.Lib.Split
import Derived.Lib.Bytealg
namespace Go.Proofs.YtbadpjgiogghdaaGreatDoor.RC
open Go.Lib

/-- a text cut at each byte c -/
def cutL (c : UInt8) : List UInt8 → List (List UInt8)
  | [] => [[]]
  | x :: r => if x = c then [] :: cutL c r else (x :: (cutL c r).headD []) :: (cutL c r).tail
theorem cutL_ne (c : UInt8) (l : List UInt8) : cutL c l ≠ [] := by
  cases l with
  | nil => simp [cutL]
  | cons x r => unfold cutL; split <;> simp
theorem cutL_none {c : UInt8} : ∀ {l : List UInt8}, c ∉ l → cutL c l = [l]
  | [], _ => rfl
  | x :: r, h => by
    simp only [List.mem_cons, not_or] at h
    rw [cutL, if_neg (fun e => h.1 e.symm), cutL_none h.2]
    rfl
theorem cutL_at {c : UInt8} (b : List UInt8) : ∀ {a : List UInt8}, c ∉ a → cutL c (a ++ c :: b) = a :: cutL c b
  | [], _ => by simp [cutL]
  | x :: r, h => by
    simp only [List.mem_cons, not_or] at h
    rw [List.cons_append, cutL, if_neg (fun e => h.1 e.symm), cutL_at b h.2]
    rfl
/-- the first place of a byte: it parts the text -/
theorem index_one (c : UInt8) : ∀ s : List UInt8, (index s [c] = -1 ∧ c ∉ s) ∨ ∃ i : Nat, index s [c] = i ∧ i < s.length ∧ s = s.take i ++ c :: s.drop (i + 1) ∧ c ∉ s.take i
  | [] => .inl (by simp [index])
  | b :: l => by
    by_cases hb : c = b
    · subst hb
      exact .inr ⟨0, by simp [index, List.isPrefixOf], by simp, by simp, by simp⟩
    · have hp : [c].isPrefixOf (b :: l) = false := by simp [List.isPrefixOf, hb]
      rcases index_one c l with ⟨h1, h2⟩ | ⟨i, h1, h2, h3, h4⟩
      · refine .inl ⟨?_, by simp [hb, h2]⟩
        unfold index
        rw [hp, h1]; rfl
      · refine .inr ⟨i + 1, ?_, by simp; omega, ?_, ?_⟩
        · unfold index
          rw [hp, h1]
          have : ((i : Int) == -1) = false := by simp
          simp [this]
        · simpa using h3
        · simp [hb, h4]
theorem indexByte_one (c : UInt8) : ∀ s : List UInt8, (indexByte s c = -1 ∧ c ∉ s) ∨ ∃ i : Nat, indexByte s c = i ∧ i < s.length ∧ s = s.take i ++ c :: s.drop (i + 1) ∧ c ∉ s.take i
  | [] => .inl (by simp [indexByte])
  | b :: l => by
    by_cases hb : b = c
    · subst hb
      exact .inr ⟨0, by simp [indexByte], by simp, by simp, by simp⟩
    · have hb' : ¬ c = b := fun e => hb e.symm
      have hp : (b == c) = false := by simp [hb]
      rcases indexByte_one c l with ⟨h1, h2⟩ | ⟨i, h1, h2, h3, h4⟩
      · refine .inl ⟨?_, by simp [hb', h2]⟩
        unfold indexByte
        rw [hp, h1]; rfl
      · refine .inr ⟨i + 1, ?_, by simp; omega, ?_, ?_⟩
        · unfold indexByte
          rw [hp, h1]
          have : ((i : Int) == -1) = false := by simp
          simp [this]
        · simpa using h3
        · simp [hb', h4]
theorem splitK_cut (c : UInt8) : ∀ (n : Nat) (s : List UInt8), s.length ≤ n → splitK [c] 0 (count s [c]) s = cutL c s := by
  intro n
  induction n with
  | zero =>
    intro s hs
    have : s = [] := List.eq_nil_of_length_eq_zero (by omega)
    subst this
    have h : index ([] : List UInt8) [c] = -1 := by simp [index]
    rw [count_miss h]; rfl
  | succ n ih =>
    intro s hs
    rcases index_one c s with ⟨h1, h2⟩ | ⟨i, h1, h2, h3, h4⟩
    · rw [count_miss h1, cutL_none h2]; rfl
    · have hc := count_hit (sub := [c]) (by simp) h1
      rw [hc, Nat.add_comm 1, splitK]
      have hm : ¬ (index s [c] == -1) = true := by rw [h1]; simp
      rw [if_neg hm, h1]
      have e : ((i : Int).toNat + [c].length) = i + 1 := by simp
      rw [e, show i + [c].length = i + 1 from rfl, ih _ (by simp; omega)]
      conv => rhs; rw [h3]
      rw [cutL_at _ h4]
      simp

theorem cutL_len (c : UInt8) : ∀ (n : Nat) (s : List UInt8), s.length ≤ n → (cutL c s).length = count s [c] + 1 := by
  intro n
  induction n with
  | zero =>
    intro s hs
    have : s = [] := List.eq_nil_of_length_eq_zero (by omega)
    subst this
    rw [count_miss (by simp [index])]; rfl
  | succ n ih =>
    intro s hs
    rcases index_one c s with ⟨h1, h2⟩ | ⟨i, h1, h2, h3, h4⟩
    · rw [count_miss h1, cutL_none h2]; rfl
    · have hc := count_hit (sub := [c]) (by simp) h1
      rw [hc, show i + [c].length = i + 1 from rfl]
      conv => lhs; rw [h3, cutL_at _ h4, List.length_cons, ih _ (by simp; omega)]
      omega
/-- each piece is no longer than all -/
theorem cutL_sz (c : UInt8) : ∀ (n : Nat) (s : List UInt8), s.length ≤ n → ∀ x ∈ cutL c s, x.length ≤ s.length := by
  intro n
  induction n with
  | zero =>
    intro s hs x hx
    have : s = [] := List.eq_nil_of_length_eq_zero (by omega)
    subst this
    simp [cutL] at hx
    simp [hx]
  | succ n ih =>
    intro s hs x hx
    rcases index_one c s with ⟨h1, h2⟩ | ⟨i, h1, h2, h3, h4⟩
    · rw [cutL_none h2, List.mem_singleton] at hx
      rw [hx]; exact Nat.le_refl _
    · rw [h3, cutL_at _ h4, List.mem_cons] at hx
      rcases hx with hx | hx
      · rw [hx, List.length_take]; omega
      · have := ih _ (by simp; omega) x hx
        simp at this; omega
theorem cutL_many (c : UInt8) (s : List UInt8) : (cutL c s).length ≤ s.length + 1 := by
  induction s with
  | nil => simp [cutL]
  | cons x r ih =>
    unfold cutL
    split
    · simp; omega
    · simp; omega

/-- the lines of a text, each without its end -/
def linesL : List UInt8 → List (List UInt8)
  | [] => []
  | x :: r => if x = 10 then [] :: linesL r else (x :: (linesL r).headD []) :: (linesL r).tail
theorem linesL_none : ∀ {l : List UInt8}, l ≠ [] → (10 : UInt8) ∉ l → linesL l = [l]
  | [], h, _ => absurd rfl h
  | [x], _, h => by
    simp only [List.mem_cons, not_or] at h
    rw [linesL, if_neg (fun e => h.1 e.symm)]; rfl
  | x :: y :: r, _, h => by
    simp only [List.mem_cons, not_or] at h
    rw [linesL, if_neg (fun e => h.1 e.symm), linesL_none (l := y :: r) (by simp) (by simp [h.2])]
    rfl
theorem linesL_at (b : List UInt8) : ∀ {a : List UInt8}, (10 : UInt8) ∉ a → linesL (a ++ 10 :: b) = a :: linesL b
  | [], _ => by simp [linesL]
  | x :: r, h => by
    simp only [List.mem_cons, not_or] at h
    rw [List.cons_append, linesL, if_neg (fun e => h.1 e.symm), linesL_at b h.2]
    rfl
theorem linesL_cons_ne {l : List UInt8} (h : l ≠ []) : linesL l ≠ [] := by
  cases l with
  | nil => exact absurd rfl h
  | cons x r => unfold linesL; split <;> simp
/-- lines of a text whose first part ends with a line's end -/
theorem linesL_app (b : List UInt8) : ∀ a : List UInt8, linesL ((a ++ [10]) ++ b) = linesL (a ++ [10]) ++ linesL b
  | [] => by simp [linesL]
  | x :: r => by
    have ih := linesL_app b r
    show linesL (x :: ((r ++ [10]) ++ b)) = linesL (x :: (r ++ [10])) ++ linesL b
    by_cases hx : x = 10
    · rw [linesL, if_pos hx, ih, linesL, if_pos hx]; rfl
    · rw [linesL, if_neg hx, ih, linesL, if_neg hx]
      obtain ⟨y, t, hy⟩ : ∃ y t, linesL (r ++ [10]) = y :: t := by
        cases h : linesL (r ++ [10]) with
        | nil => exact absurd h (linesL_cons_ne (by simp))
        | cons y t => exact ⟨y, t, rfl⟩
      rw [hy]; rfl
/-- as the document has them: cut at each end, a last piece that is empty left out -/
theorem linesL_cut : ∀ l : List UInt8, linesL l = if (cutL 10 l).getLastD [] = [] then (cutL 10 l).dropLast else cutL 10 l
  | [] => by simp [linesL, cutL]
  | x :: r => by
    have ih := linesL_cut r
    have hne := cutL_ne 10 r
    obtain ⟨h, t, e⟩ : ∃ h t, cutL 10 r = h :: t := by
      cases h : cutL 10 r with
      | nil => exact absurd h hne
      | cons y t => exact ⟨y, t, rfl⟩
    by_cases hx : x = 10
    · rw [linesL, if_pos hx, ih, cutL, if_pos hx, e]
      by_cases hl : (h :: t).getLastD [] = []
      · rw [if_pos hl, if_pos (by simpa using hl)]; simp
      · rw [if_neg hl, if_neg (by simpa using hl)]
    · rw [linesL, if_neg hx, ih, cutL, if_neg hx, e]
      cases t with
      | nil =>
        by_cases hh : h = []
        · subst hh; simp
        · simp [hh]
      | cons y t =>
        by_cases hl : (y :: t).getLastD [] = []
        · have hl2 : (h :: y :: t).getLastD [] = [] := by simpa using hl
          rw [if_pos hl2, if_pos (by simpa using hl)]
          simp
        · have hl2 : ¬ (h :: y :: t).getLastD [] = [] := by simpa using hl
          rw [if_neg hl2, if_neg (by simpa using hl)]

/-- the lines with their ends -/
def rawL : List UInt8 → List (List UInt8)
  | [] => []
  | x :: r => if x = 10 then [10] :: rawL r else (x :: (rawL r).headD []) :: (rawL r).tail
theorem rawL_none : ∀ {l : List UInt8}, l ≠ [] → (10 : UInt8) ∉ l → rawL l = [l]
  | [], h, _ => absurd rfl h
  | [x], _, h => by
    simp only [List.mem_cons, not_or] at h
    rw [rawL, if_neg (fun e => h.1 e.symm)]; rfl
  | x :: y :: r, _, h => by
    simp only [List.mem_cons, not_or] at h
    rw [rawL, if_neg (fun e => h.1 e.symm), rawL_none (l := y :: r) (by simp) (by simp [h.2])]
    rfl
theorem rawL_at (b : List UInt8) : ∀ {a : List UInt8}, (10 : UInt8) ∉ a → rawL (a ++ 10 :: b) = (a ++ [10]) :: rawL b
  | [], _ => by simp [rawL]
  | x :: r, h => by
    simp only [List.mem_cons, not_or] at h
    rw [List.cons_append, rawL, if_neg (fun e => h.1 e.symm), rawL_at b h.2]
    rfl
theorem trim_end (a : List UInt8) : trimSuffix (a ++ [10]) [10] = a := by
  unfold trimSuffix hasSuffix
  simp
theorem trim_none {a : List UInt8} (h : (10 : UInt8) ∉ a) : trimSuffix a [10] = a := by
  unfold trimSuffix hasSuffix
  rw [if_neg]
  intro e
  obtain ⟨t, ht⟩ := List.isSuffixOf_iff_suffix.1 e
  exact h (by rw [← ht]; simp)
theorem raw_lines : ∀ (n : Nat) (l : List UInt8), l.length ≤ n → (rawL l).map (fun x => trimSuffix x [10]) = linesL l := by
  intro n
  induction n with
  | zero =>
    intro l h
    have : l = [] := List.eq_nil_of_length_eq_zero (by omega)
    subst this; rfl
  | succ n ih =>
    intro l h
    by_cases hl : l = []
    · subst hl; rfl
    · rcases indexByte_one 10 l with ⟨_, h2⟩ | ⟨i, h1, h2, h3, h4⟩
      · rw [rawL_none hl h2, linesL_none hl h2, List.map_cons, trim_none h2]; rfl
      · rw [h3, rawL_at _ h4, linesL_at _ h4, List.map_cons, trim_end, ih _ (by simp; omega)]
theorem rawL_join : ∀ (n : Nat) (l : List UInt8), l.length ≤ n → (rawL l).flatten = l := by
  intro n
  induction n with
  | zero =>
    intro l h
    have : l = [] := List.eq_nil_of_length_eq_zero (by omega)
    subst this; rfl
  | succ n ih =>
    intro l h
    by_cases hl : l = []
    · subst hl; rfl
    · rcases indexByte_one 10 l with ⟨_, h2⟩ | ⟨i, h1, h2, h3, h4⟩
      · rw [rawL_none hl h2]; simp
      · conv => lhs; rw [h3, rawL_at _ h4, List.flatten_cons, ih _ (by simp; omega)]
        conv => rhs; rw [h3]
        simp

/-! numbers -/
theorem parse_app : ∀ (a b : List UInt8) (acc : Nat), parseUint10 acc (a ++ b) = match parseUint10 acc a with
    | .ok v => parseUint10 v b
    | .syntax => .syntax
    | .range => .range
  | [], b, acc => rfl
  | c :: r, b, acc => by
    rw [List.cons_append, parseUint10, parseUint10]
    split
    · split
      · rfl
      · split
        · rfl
        · exact parse_app r b _
    · rfl
theorem parse_digits : ∀ (n u : Nat), u ≤ n → u < 18446744073709551616 → parseUint10 0 (decDigits u) = .ok u := by
  intro n
  induction n with
  | zero =>
    intro u h h2
    have : u = 0 := by omega
    subst this
    rw [decDigits, dif_pos (by omega)]; rfl
  | succ n ih =>
    intro u h h2
    by_cases hu : u < 10
    · rw [decDigits, dif_pos hu]
      have e : (UInt8.ofNat (48 + u)).toNat = 48 + u := by rw [UInt8.toNat_ofNat']; omega
      simp only [parseUint10, e]
      rw [if_pos (by omega), if_neg (by omega), if_neg (by omega)]
      congr 1; omega
    · rw [decDigits, dif_neg hu, parse_app, ih (u / 10) (by omega) (by omega)]
      have e : (UInt8.ofNat (48 + u % 10)).toNat = 48 + u % 10 := by rw [UInt8.toNat_ofNat']; omega
      simp only [parseUint10, e]
      rw [if_pos (by omega), if_neg (by omega), if_neg (by omega)]
      congr 1; omega
/-- each digit is one -/
theorem digits_mem : ∀ (n u : Nat), u ≤ n → ∀ c ∈ decDigits u, 48 ≤ c.toNat ∧ c.toNat ≤ 57 := by
  intro n
  induction n with
  | zero =>
    intro u h c hc
    rw [decDigits, dif_pos (by omega), List.mem_singleton] at hc
    subst hc
    rw [UInt8.toNat_ofNat']; omega
  | succ n ih =>
    intro u h c hc
    by_cases hu : u < 10
    · rw [decDigits, dif_pos hu, List.mem_singleton] at hc
      subst hc
      rw [UInt8.toNat_ofNat']; omega
    · rw [decDigits, dif_neg hu, List.mem_append, List.mem_singleton] at hc
      rcases hc with hc | hc
      · exact ih (u / 10) (by omega) c hc
      · subst hc
        rw [UInt8.toNat_ofNat']; omega
theorem digits_ne (u : Nat) : decDigits u ≠ [] := by
  intro h
  have := decDigits_length u
  rw [h] at this
  have := nDigits_pos u
  simp at *
  omega
theorem digits_no {u : Nat} {c : UInt8} (h : c.toNat < 48 ∨ 57 < c.toNat) : c ∉ decDigits u := fun hm => by
  have := digits_mem u u (Nat.le_refl _) c hm
  omega
theorem itoa_no {n : Int} {c : UInt8} (h : c.toNat < 45 ∨ 57 < c.toNat ∨ c.toNat = 46 ∨ c.toNat = 47) : c ∉ itoa n := by
  have h2 : c.toNat < 48 ∨ 57 < c.toNat := by omega
  have h3 : c ≠ 45 := fun e => by subst e; simp at h
  unfold itoa
  split
  · simp only [List.mem_cons, not_or]; exact ⟨h3, digits_no h2⟩
  · exact digits_no h2
theorem itoa_ne (n : Int) : itoa n ≠ [] := by
  unfold itoa; split
  · simp
  · exact digits_ne _
/-- what is written of a number is read as that number -/
theorem atoi_itoa {n : Int} (h0 : -9223372036854775808 ≤ n) (h1 : n ≤ 9223372036854775807) : atoiAll (itoa n) = .ok n := by
  unfold itoa
  split
  · rename_i hn
    have hp : parseMag (decDigits n.natAbs) = .ok n.natAbs := by
      unfold parseMag; rw [if_neg (digits_ne _), parse_digits _ _ (Nat.le_refl _) (by omega)]
    simp only [atoiAll]
    rw [if_pos (.inr (by decide)), hp]
    simp only [show (45 : UInt8).toNat = 45 from rfl]
    rw [if_neg (by simp), if_neg (by omega), if_pos trivial]
    congr 1; omega
  · rename_i hn
    obtain ⟨c, r, e⟩ : ∃ c r, decDigits n.toNat = c :: r := by
      cases h : decDigits n.toNat with
      | nil => exact absurd h (digits_ne _)
      | cons c r => exact ⟨c, r, rfl⟩
    have hc := digits_mem n.toNat n.toNat (Nat.le_refl _) c (by rw [e]; simp)
    have hp : parseMag (decDigits n.toNat) = .ok n.toNat := by
      unfold parseMag; rw [if_neg (digits_ne _), parse_digits _ _ (Nat.le_refl _) (by omega)]
    rw [e] at hp ⊢
    simp only [atoiAll]
    rw [if_neg (by omega), hp]
    simp only
    rw [if_neg (by omega), if_neg (by omega), if_neg (by omega)]
    congr 1; omega
/-- a number of at most nine digits, as it is written -/
def numL (l : List UInt8) : Option Int :=
  match atoiAll l with
  | .ok v => if v < -999999999 ∨ 999999999 < v ∨ itoa v ≠ l then none else some v
  | _ => none
theorem numL_itoa {n : Int} (h0 : -999999999 ≤ n) (h1 : n ≤ 999999999) : numL (itoa n) = some n := by
  unfold numL
  rw [atoi_itoa (by omega) (by omega)]
  simp only
  rw [if_neg (by simp; omega)]
theorem numL_some {l : List UInt8} {v : Int} (h : numL l = some v) : -999999999 ≤ v ∧ v ≤ 999999999 ∧ l = itoa v := by
  unfold numL at h
  split at h
  · split at h
    · cases h
    · rename_i hv
      cases h
      exact ⟨by omega, by omega, by simp at hv; exact hv.2.2.symm⟩
  · cases h
end Go.Proofs.YtbadpjgiogghdaaGreatDoor.RC

