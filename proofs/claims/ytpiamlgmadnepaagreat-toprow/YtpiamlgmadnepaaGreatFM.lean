/-
  Frames as numbers and bytes: which are right, their bytes, what bytes are read as, which are passed on, and that a changed byte is seen. Of numbers and lists alone; no program.
-/
import Derived.Test.YtpiamlgmadnepaaGreatPackMath
import Derived.Test.YtpiamlgmadnepaaGreatCrcMath
set_option linter.unusedVariables false
namespace Go.Proofs.YtpiamlgmadnepaaGreat.FM
open Go.Proofs.YtpiamlgmadnepaaGreat.PM Go.Proofs.YtpiamlgmadnepaaGreat.CM

/-- may these numbers be -/
abbrev nums (tr og ep hp : Int) : Prop := 1 ≤ tr ∧ tr ≤ 8 ∧ 0 ≤ og ∧ og ≤ 15 ∧ 0 ≤ ep ∧ ep ≤ 65535 ∧ 0 ≤ hp ∧ hp ≤ 64
/-- the fault of a frame -/
def ffault (tr og ep hp : Int) (B : List Nat) : Nat := if nums tr og ep hp then rfault B else 1
theorem rfault_len {B : List Nat} (h : rfault B = 0) : 8 ≤ B.length ∧ B.length ≤ 1008 := by
  unfold rfault at h
  split at h
  · omega
  · split at h
    · split at h
      · omega
      · omega
    · omega
theorem rfault_le (B : List Nat) : rfault B ≤ 100 := by
  unfold rfault
  split
  · omega
  · split
    · split <;> omega
    · omega
theorem ffault_le (tr og ep hp : Int) (B : List Nat) : ffault tr og ep hp B ≤ 100 := by
  unfold ffault
  split
  · exact rfault_le B
  · omega
theorem ffault_zero {tr og ep hp : Int} {B : List Nat} (h : ffault tr og ep hp B = 0) :
    ∃ t o e p : Nat, tr = t ∧ og = o ∧ ep = e ∧ hp = p ∧ 1 ≤ t ∧ t ≤ 8 ∧ o ≤ 15 ∧ e ≤ 65535 ∧ p ≤ 64 ∧ rfault B = 0 := by
  unfold ffault at h
  by_cases c : nums tr og ep hp
  · rw [if_pos c] at h
    obtain ⟨h1, h2, h3, h4, h5, h6, h7, h8⟩ := c
    exact ⟨tr.toNat, og.toNat, ep.toNat, hp.toNat, by omega, by omega, by omega, by omega, by omega, by omega, by omega, by omega, by omega, h⟩
  · rw [if_neg c] at h; omega
theorem ffault_good {t o e p : Nat} {B : List Nat} (h1 : 1 ≤ t) (h2 : t ≤ 8) (h3 : o ≤ 15) (h4 : e ≤ 65535) (h5 : p ≤ 64) : ffault t o e p B = rfault B := by
  unfold ffault
  rw [if_pos (by unfold nums; omega)]

/-- the six bytes ahead of a Body -/
def fhead (t o e p : Nat) : List Nat := [70, t, o, p, e / 256, e % 256]
theorem fhead_lt {t o e p : Nat} (h2 : t ≤ 8) (h3 : o ≤ 15) (h4 : e ≤ 65535) (h5 : p ≤ 64) : ∀ c ∈ fhead t o e p, c < 256 := by
  intro c hc
  simp only [fhead, List.mem_cons, List.not_mem_nil, or_false] at hc
  omega
/-- bytes and their sum -/
def sealed (X : List Nat) : List Nat := X ++ be4 (go 0 X)
theorem sealed_len (X : List Nat) : (sealed X).length = X.length + 4 := by simp [sealed, be4]
theorem sealed_lt {X : List Nat} (h : ∀ c ∈ X, c < 256) : ∀ c ∈ sealed X, c < 256 := by
  intro c hc
  rcases List.mem_append.1 hc with hc | hc
  · exact h c hc
  · exact be4_lt _ c hc
/-- the bytes of a frame -/
def fbytes (t o e p : Nat) (B : List Nat) : List Nat := sealed (fhead t o e p ++ B)
theorem fbytes_len (t o e p : Nat) (B : List Nat) : (fbytes t o e p B).length = 10 + B.length := by
  unfold fbytes
  rw [sealed_len]
  simp [fhead]
  omega
theorem inner_lt {t o e p : Nat} {B : List Nat} (h2 : t ≤ 8) (h3 : o ≤ 15) (h4 : e ≤ 65535) (h5 : p ≤ 64) (hB : ∀ c ∈ B, c < 256) : ∀ c ∈ fhead t o e p ++ B, c < 256 := by
  intro c hc
  rcases List.mem_append.1 hc with hc | hc
  · exact fhead_lt h2 h3 h4 h5 c hc
  · exact hB c hc

/-- the fault of bytes that are opened, and the bytes -/
def ofault (B : List Nat) : Nat := if B.length < 4 then 8 else if num 0 (B.drop (B.length - 4)) = go 0 (B.take (B.length - 4)) then 0 else 9
def opened (B : List Nat) : List Nat := B.take (B.length - 4)
theorem ofault_le (B : List Nat) : ofault B ≤ 100 := by
  unfold ofault
  split
  · omega
  · split <;> omega
theorem of_sealed {X : List Nat} (h : ∀ c ∈ X, c < 256) : ofault (sealed X) = 0 ∧ opened (sealed X) = X := by
  have hl := sealed_len X
  have e : (sealed X).length - 4 = X.length := by omega
  unfold ofault opened
  rw [e, if_neg (by omega)]
  unfold sealed
  rw [List.drop_left, List.take_left, num_be4 _ (go_lt (by decide) h), if_pos rfl]
  exact ⟨rfl, rfl⟩
/-- what is opened, sealed, is as it was -/
theorem split4 {B : List Nat} (h : 4 ≤ B.length) : ∃ X t0 t1 t2 t3, B = X ++ [t0, t1, t2, t3] ∧ X = opened B := by
  have h4 : (B.drop (B.length - 4)).length = 4 := by simp; omega
  obtain ⟨t0, t1, t2, t3, ht⟩ : ∃ t0 t1 t2 t3, B.drop (B.length - 4) = [t0, t1, t2, t3] := by
    match B.drop (B.length - 4), h4 with
    | [a, b, c, d], _ => exact ⟨a, b, c, d, rfl⟩
  exact ⟨opened B, t0, t1, t2, t3, by rw [← ht]; unfold opened; rw [List.take_append_drop], rfl⟩
theorem ofault_split (X : List Nat) (t0 t1 t2 t3 : Nat) : ofault (X ++ [t0, t1, t2, t3]) = (if num 0 [t0, t1, t2, t3] = go 0 X then 0 else 9) ∧ opened (X ++ [t0, t1, t2, t3]) = X := by
  have e : (X ++ [t0, t1, t2, t3]).length - 4 = X.length := by simp
  unfold ofault opened
  rw [e, if_neg (by simp), List.drop_left, List.take_left]
  exact ⟨rfl, rfl⟩

/-- a frame that was read -/
structure Fr where
  tr : Nat
  og : Nat
  ep : Nat
  hp : Nat
  body : List Nat
/-- the fault of bytes that were opened -/
def xfault (X : List Nat) : Nat :=
  if X.length < 6 then 8 else if X.getD 0 0 = 70 then ffault ((X.getD 1 0 : Nat) : Int) ((X.getD 2 0 : Nat) : Int) ((X.getD 4 0 * 256 + X.getD 5 0 : Nat) : Int) ((X.getD 3 0 : Nat) : Int) (X.drop 6) else 2
def xfr (X : List Nat) : Fr := if xfault X = 0 then ⟨X.getD 1 0, X.getD 2 0, X.getD 4 0 * 256 + X.getD 5 0, X.getD 3 0, X.drop 6⟩ else ⟨0, 0, 0, 0, []⟩
/-- the fault of bytes -/
def bfault (B : List Nat) : Nat := if ofault B = 0 then xfault (opened B) else ofault B
/-- what they are read as -/
def bfr (B : List Nat) : Fr := if ofault B = 0 then xfr (opened B) else ⟨0, 0, 0, 0, []⟩
theorem six {X : List Nat} (h : 6 ≤ X.length) : ∃ x0 x1 x2 x3 x4 x5 R, X = x0 :: x1 :: x2 :: x3 :: x4 :: x5 :: R := by
  match X, h with
  | x0 :: x1 :: x2 :: x3 :: x4 :: x5 :: R, _ => exact ⟨x0, x1, x2, x3, x4, x5, R, rfl⟩
theorem xfault_six (x0 x1 x2 x3 x4 x5 : Nat) (R : List Nat) :
    xfault (x0 :: x1 :: x2 :: x3 :: x4 :: x5 :: R) = if x0 = 70 then ffault (x1 : Int) (x2 : Int) ((x4 * 256 + x5 : Nat) : Int) (x3 : Int) R else 2 := by
  unfold xfault
  rw [if_neg (by simp)]
  rfl
theorem xfr_six (x0 x1 x2 x3 x4 x5 : Nat) (R : List Nat) (h : xfault (x0 :: x1 :: x2 :: x3 :: x4 :: x5 :: R) = 0) :
    xfr (x0 :: x1 :: x2 :: x3 :: x4 :: x5 :: R) = ⟨x1, x2, x4 * 256 + x5, x3, R⟩ := by
  unfold xfr
  rw [if_pos h]
  rfl
theorem xfr_bad {X : List Nat} (h : xfault X ≠ 0) : xfr X = ⟨0, 0, 0, 0, []⟩ := by unfold xfr; rw [if_neg h]
theorem xfault_le (X : List Nat) : xfault X ≤ 100 := by
  unfold xfault
  split
  · omega
  · split
    · exact ffault_le _ _ _ _ _
    · omega
theorem bfault_le (B : List Nat) : bfault B ≤ 100 := by
  unfold bfault
  split
  · exact xfault_le _
  · exact ofault_le B
theorem bfr_bad {B : List Nat} (h : bfault B ≠ 0) : bfr B = ⟨0, 0, 0, 0, []⟩ := by
  unfold bfault at h
  unfold bfr
  by_cases c : ofault B = 0
  · rw [if_pos c] at h ⊢
    exact xfr_bad h
  · rw [if_neg c]
/-- a frame that was read is right -/
theorem bfr_good {B : List Nat} (h : bfault B = 0) : 1 ≤ (bfr B).tr ∧ (bfr B).tr ≤ 8 ∧ (bfr B).og ≤ 15 ∧ (bfr B).ep ≤ 65535 ∧ (bfr B).hp ≤ 64 ∧ rfault (bfr B).body = 0 := by
  unfold bfault at h
  unfold bfr
  by_cases c : ofault B = 0
  · rw [if_pos c] at h ⊢
    generalize opened B = X at *
    have hx := h
    unfold xfr
    rw [if_pos h]
    unfold xfault at hx
    split at hx
    · omega
    · split at hx
      · obtain ⟨t, o, e, p, e1, e2, e3, e4, h1, h2, h3, h4, h5, h6⟩ := ffault_zero hx
        exact ⟨by simp only; omega, by simp only; omega, by simp only; omega, by simp only; omega, by simp only; omega, h6⟩
      · omega
  · rw [if_neg c] at h; omega
/-- what was written is read as it was -/
theorem read_back {t o e p : Nat} {B : List Nat} (h1 : 1 ≤ t) (h2 : t ≤ 8) (h3 : o ≤ 15) (h4 : e ≤ 65535) (h5 : p ≤ 64) (h6 : rfault B = 0) (hB : ∀ c ∈ B, c < 256) :
    bfault (fbytes t o e p B) = 0 ∧ bfr (fbytes t o e p B) = ⟨t, o, e, p, B⟩ := by
  obtain ⟨o1, o2⟩ := of_sealed (inner_lt h2 h3 h4 h5 hB)
  have hx : xfault (fhead t o e p ++ B) = 0 := by
    show xfault (70 :: t :: o :: p :: e / 256 :: e % 256 :: B) = 0
    rw [xfault_six, if_pos rfl, show e / 256 * 256 + e % 256 = e by omega, ffault_good h1 h2 h3 h4 h5, h6]
  unfold bfault bfr fbytes
  rw [if_pos o1, if_pos o1, o2]
  refine ⟨hx, ?_⟩
  have := xfr_six 70 t o p (e / 256) (e % 256) B hx
  rw [show e / 256 * 256 + e % 256 = e by omega] at this
  exact this
/-- two that differ in anything are other bytes -/
theorem fbytes_inj {t o e p t' o' e' p' : Nat} {B B' : List Nat} (h1 : 1 ≤ t) (h2 : t ≤ 8) (h3 : o ≤ 15) (h4 : e ≤ 65535) (h5 : p ≤ 64) (h6 : rfault B = 0) (hB : ∀ c ∈ B, c < 256)
    (h1' : 1 ≤ t') (h2' : t' ≤ 8) (h3' : o' ≤ 15) (h4' : e' ≤ 65535) (h5' : p' ≤ 64) (h6' : rfault B' = 0) (hB' : ∀ c ∈ B', c < 256) (h : fbytes t o e p B = fbytes t' o' e' p' B') :
    t = t' ∧ o = o' ∧ e = e' ∧ p = p' ∧ B = B' := by
  have r1 := (read_back h1 h2 h3 h4 h5 h6 hB).2
  have r2 := (read_back h1' h2' h3' h4' h5' h6' hB').2
  rw [h, r2, Fr.mk.injEq] at r1
  obtain ⟨a, b, c, d, e⟩ := r1
  exact ⟨a.symm, b.symm, c.symm, d.symm, e.symm⟩

/-- the fault of bytes that are passed on, and what goes on -/
def pfault (B : List Nat) : Nat := if bfault B = 0 then (if (bfr B).hp = 64 then 6 else 0) else bfault B
def pbytes (B : List Nat) : List Nat := if pfault B = 0 then fbytes (bfr B).tr (bfr B).og (bfr B).ep ((bfr B).hp + 1) (bfr B).body else []
theorem pfault_le (B : List Nat) : pfault B ≤ 100 := by
  unfold pfault
  split
  · split <;> omega
  · exact bfault_le B

/-- what was written is passed on with one hop more -/
theorem pass_back {t o e p : Nat} {B : List Nat} (h1 : 1 ≤ t) (h2 : t ≤ 8) (h3 : o ≤ 15) (h4 : e ≤ 65535) (h5 : p ≤ 64) (h6 : rfault B = 0) (hB : ∀ c ∈ B, c < 256) :
    pfault (fbytes t o e p B) = (if p = 64 then 6 else 0) ∧ (p ≠ 64 → pbytes (fbytes t o e p B) = fbytes t o e (p + 1) B) := by
  obtain ⟨r1, r2⟩ := read_back h1 h2 h3 h4 h5 h6 hB
  have hp : pfault (fbytes t o e p B) = if p = 64 then 6 else 0 := by
    unfold pfault
    rw [if_pos r1, r2]
  refine ⟨hp, fun hne => ?_⟩
  unfold pbytes
  rw [hp, if_neg hne, if_pos rfl, r2]
theorem bfault_changed {X : List Nat} {i m : Nat} (hX : ∀ c ∈ X, c < 256) (h1 : 1 ≤ X.length) (hi : i < X.length + 4) (hm : m < 256) (hne : (sealed X).getD i 0 ≠ m) (h : ofault ((sealed X).set i m) = 9) : bfault ((sealed X).set i m) = 9 := by
  unfold bfault
  rw [if_neg (by omega), h]

/-- a byte changed is seen -/
theorem changed1 (X : List Nat) (i m : Nat) (hX : ∀ c ∈ X, c < 256) (h1 : 1 ≤ X.length) (hi : i < X.length + 4) (hm : m < 256) (hne : (sealed X).getD i 0 ≠ m) :
    ofault ((sealed X).set i m) = 9 := by
  have hl := sealed_len X
  have hS := sealed_lt hX
  have hsee := fun P Q x y a b h1 h2 h3 h4 h5 h6 => sees P Q X x y a b h1 h2 h3 h4 hX h5 h6
  change ∀ P Q x y a b, x < 256 → y < 256 → a < 256 → b < 256 → P ++ x :: y :: Q = sealed X → ¬ (a = 0 ∧ b = 0) → num 0 ((P ++ (x ^^^ a) :: (y ^^^ b) :: Q).drop X.length) ≠ go 0 ((P ++ (x ^^^ a) :: (y ^^^ b) :: Q).take X.length) at hsee
  generalize sealed X = S at *
  have key : ∃ P Q x y a b, x < 256 ∧ y < 256 ∧ a < 256 ∧ b < 256 ∧ P ++ x :: y :: Q = S ∧ ¬ (a = 0 ∧ b = 0) ∧ S.set i m = P ++ (x ^^^ a) :: (y ^^^ b) :: Q := by
    have hx : ∀ j (h : j < S.length), S[j] < 256 := fun j h => hS _ (List.getElem_mem h)
    have turn : ∀ x, x ^^^ (x ^^^ m) = m := fun x => by rw [← Nat.xor_assoc, Nat.xor_self, Nat.zero_xor]
    have ne0 : ∀ x, x ≠ m → x ^^^ m ≠ 0 := fun x h h0 => h (eq_of_xor h0)
    rw [List.getD_eq_getElem?_getD, List.getElem?_eq_getElem (show i < S.length by omega)] at hne
    simp only [Option.getD_some] at hne
    by_cases c : i + 1 < S.length
    · refine ⟨S.take i, S.drop (i + 2), S[i], S[i + 1], S[i] ^^^ m, 0, hx _ _, hx _ _, xor_lt8 (hx _ _) hm, by decide, ?_, fun h => ne0 _ hne h.1, ?_⟩
      · rw [List.getElem_cons_drop, List.getElem_cons_drop, List.take_append_drop]
      · rw [turn, Nat.xor_zero, List.getElem_cons_drop, List.set_eq_take_append_cons_drop, if_pos (by omega)]
    · obtain ⟨j, rfl⟩ : ∃ j, i = j + 1 := ⟨i - 1, by omega⟩
      refine ⟨S.take j, S.drop (j + 2), S[j], S[j + 1], 0, S[j + 1] ^^^ m, hx _ _, hx _ _, by decide, xor_lt8 (hx _ _) hm, ?_, fun h => ne0 _ hne h.2, ?_⟩
      · rw [List.getElem_cons_drop, List.getElem_cons_drop, List.take_append_drop]
      · have e : S.take (j + 1) = S.take j ++ [S[j]] := by rw [List.take_add_one, List.getElem?_eq_getElem (by omega)]; rfl
        rw [turn, Nat.xor_zero, List.set_eq_take_append_cons_drop, if_pos (by omega), e, List.append_assoc]
        rfl
  obtain ⟨P, Q, x, y, a, b, hx, hy, ha, hb, hs, hz, he⟩ := key
  have h9 := hsee P Q x y a b hx hy ha hb hs hz
  rw [← he] at h9
  have hlen : (S.set i m).length - 4 = X.length := by simp; omega
  unfold ofault
  rw [hlen, if_neg (by simp; omega), if_neg h9]
end Go.Proofs.YtpiamlgmadnepaaGreat.FM

