/-
  Plain mathematics of a window as a word of bits and as a list; which blocks of memory a call changes. No program is named.
-/
import Derived.Laws.BitsAllLaws
import Derived.IntWalk
import Derived.WalkKit
import Derived.WalkSmall
import Derived.Deep.Draws
namespace Go.Proofs.YtbadpjgiogghdaaGreatDoor.Win
open Go

def Inv (n T : Int) (s : Nat) (L : List Int) : Prop :=
  1 ≤ n ∧ n ≤ 64 ∧ -1 ≤ T ∧ T ≤ 1099511627776 ∧ s < 18446744073709551616 ∧ (∀ x, x ∈ L → 0 ≤ x ∧ x ≤ T) ∧
  (∀ x : Int, 0 ≤ x → x ≤ T → T - x < n → (s.testBit (T - x).toNat = true ↔ x ∈ L))
def hasW (n T : Int) (s : Nat) (y : Int) : Bool := decide (0 ≤ y ∧ y ≤ T ∧ T - y < n) && s.testBit (T - y).toNat
def hasR (n T : Int) (L : List Int) (y : Int) : Bool := decide (y ∈ L) && decide (T - n < y)

theorem has_same {n T : Int} {s : Nat} {L : List Int} (h : Inv n T s L) (y : Int) : hasW n T s y = hasR n T L y := by
  obtain ⟨_, _, _, _, _, hL, hb⟩ := h
  unfold hasW hasR
  rw [Bool.eq_iff_iff]
  simp only [Bool.and_eq_true, decide_eq_true_eq]
  constructor
  · rintro ⟨⟨h1, h2, h3⟩, h4⟩
    exact ⟨(hb y h1 h2 h3).1 h4, by omega⟩
  · rintro ⟨h1, h2⟩
    have := hL y h1
    exact ⟨⟨this.1, this.2, by omega⟩, (hb y this.1 this.2 (by omega)).2 h1⟩

def riseS (s d : Nat) : Nat := ((s * 2 ^ min d 64) % 18446744073709551616) ||| 1
theorem riseS_lt (s d : Nat) : riseS s d < 18446744073709551616 := by
  unfold riseS
  exact Nat.or_lt_two_pow (n := 64) (Nat.mod_lt _ (by decide)) (by decide)

theorem inv_start (n : Int) (h1 : 1 ≤ n) (h2 : n ≤ 64) : Inv n (-1) 0 [] :=
  ⟨h1, h2, by omega, by omega, by decide, by simp, fun x hx hx' => by omega⟩

theorem inv_rise {n T : Int} {s : Nat} {L : List Int} (h : Inv n T s L) (y : Int) (hy : T < y) (hl : 0 ≤ y) (hm : y ≤ 1099511627776) : Inv n y (riseS s (y - T).toNat) (L ++ [y]) := by
  obtain ⟨h1, h2, h3, h4, h5, hL, hb⟩ := h
  refine ⟨h1, h2, by omega, hm, riseS_lt _ _, ?_, ?_⟩
  · intro x hx
    rcases List.mem_append.1 hx with hx | hx
    · have := hL x hx; omega
    · have : x = y := by simpa using hx
      omega
  · intro x hx0 hx1 hx2
    have e18 : (18446744073709551616 : Nat) = 2 ^ 64 := by decide
    unfold riseS
    rw [e18, Nat.testBit_or, Nat.testBit_mod_two_pow, List.mem_append]
    by_cases hxy : x = y
    · subst hxy
      simp
    · have hk : ((y - x).toNat < 64) := by omega
      have h0 : Nat.testBit 1 (y - x).toNat = false := by
        rw [Bool.eq_false_iff]
        intro hh
        have := Nat.testBit_one_eq_true_iff_self_eq_zero.1 hh
        omega
      have hmul : s * 2 ^ min (y - T).toNat 64 = s <<< (min (y - T).toNat 64) := by rw [Nat.shiftLeft_eq]
      rw [h0, hmul, Nat.testBit_shiftLeft, Bool.or_false]
      have hxy' : ¬ x ∈ [y] := by simpa using hxy
      simp only [hxy', or_false, hk, decide_true, Bool.true_and, Bool.and_eq_true, decide_eq_true_eq]
      by_cases hxT : x ≤ T
      · have e1 : min (y - T).toNat 64 = (y - T).toNat := by omega
        rw [e1]
        have e2 : (y - x).toNat - (y - T).toNat = (T - x).toNat := by omega
        rw [e2]
        have hb' := hb x hx0 hxT (by omega)
        constructor
        · rintro ⟨_, h⟩; exact hb'.1 h
        · intro h; exact ⟨by omega, hb'.2 h⟩
      · constructor
        · rintro ⟨h, _⟩; omega
        · intro h; have := hL x h; omega

theorem inv_add {n T : Int} {s : Nat} {L : List Int} (h : Inv n T s L) (y : Int) (hy : y ≤ T) (hn : T - n < y) (hl : 0 ≤ y) :
    Inv n T (s ||| 2 ^ (T - y).toNat) (if hasR n T L y then L else L ++ [y]) := by
  have hh : hasR n T L y = decide (y ∈ L) := by simp [hasR, hn]
  obtain ⟨h1, h2, h3, h4, h5, hL, hb⟩ := h
  have hmem : ∀ x, x ∈ (if hasR n T L y then L else L ++ [y]) ↔ (x ∈ L ∨ x = y) := by
    intro x
    rw [hh]
    by_cases hc : y ∈ L
    · simp only [hc, decide_true, if_true]
      constructor
      · intro h; exact Or.inl h
      · rintro (h | h)
        · exact h
        · rw [h]; exact hc
    · simp [hc]
  refine ⟨h1, h2, h3, h4, ?_, ?_, ?_⟩
  · have h64 : (2 : Nat) ^ (T - y).toNat < 2 ^ 64 := Nat.pow_lt_pow_right (by decide) (by omega)
    exact Nat.or_lt_two_pow (n := 64) h5 h64
  · intro x hx
    rcases (hmem x).1 hx with hx | hx
    · exact hL x hx
    · omega
  · intro x hx0 hx1 hx2
    rw [Nat.testBit_or, Nat.testBit_two_pow, hmem x, Bool.or_eq_true, decide_eq_true_eq, hb x hx0 hx1 hx2]
    constructor
    · rintro (h | h)
      · exact Or.inl h
      · exact Or.inr (by omega)
    · rintro (h | h)
      · exact Or.inl h
      · exact Or.inr (by omega)

theorem and_bit (s k : Nat) (hs : s < 18446744073709551616) : (bits .and .u64 ((s : Int) / 2 ^ k) 1 == 1) = s.testBit k := by
  have e : ((s : Int) / 2 ^ k) = ((s / 2 ^ k : Nat) : Int) := by simp
  rw [e, show (1 : Int) = ((1 : Nat) : Int) from rfl, u64_and_nat _ _ (Nat.lt_of_le_of_lt (Nat.div_le_self _ _) hs) (by decide), Nat.and_one_is_mod, Nat.testBit_eq_decide_div_mod_eq]
  rw [Bool.eq_iff_iff, beq_iff_eq, decide_eq_true_eq]
  omega
theorem rise_bits (s d : Nat) : bits .or .u64 (IntKind.u64.wrap ((s : Int) * 2 ^ min d 64)) 1 = (riseS s d : Int) := by
  have e : IntKind.u64.wrap ((s : Int) * 2 ^ min d 64) = ((s * 2 ^ min d 64 % 18446744073709551616 : Nat) : Int) := by
    rw [IntKind.wrap_u64]; simp
  rw [e, show (1 : Int) = ((1 : Nat) : Int) from rfl, u64_or_nat _ _ (Nat.mod_lt _ (by decide)) (by decide)]
  rfl
theorem add_bits (s d : Nat) (hs : s < 18446744073709551616) (hd : d < 64) : bits .or .u64 (s : Int) (IntKind.u64.wrap (1 * 2 ^ min d 64)) = ((s ||| 2 ^ d : Nat) : Int) := by
  have h64 : (2 : Nat) ^ d < 18446744073709551616 := show (2 : Nat) ^ d < 2 ^ 64 from Nat.pow_lt_pow_right (by decide) hd
  have e2 : (2 : Int) ^ d = ((2 ^ d : Nat) : Int) := by rw [Int.natCast_pow]; rfl
  have e : IntKind.u64.wrap (1 * 2 ^ min d 64) = ((2 ^ d : Nat) : Int) := by
    rw [IntKind.wrap_u64, show min d 64 = d from by omega, Int.one_mul, e2]
    generalize (2 ^ d : Nat) = p at *
    omega
  rw [e, u64_or_nat _ _ hs h64]
end Go.Proofs.YtbadpjgiogghdaaGreatDoor.Win
namespace Go.Proofs.YtbadpjgiogghdaaGreatDoor.Win
open Go Go.RowKit

def Only (bs : List Nat) (w w' : World) : Prop :=
  w'.os = w.os ∧ w'.tape = w.tape ∧ w'.output = w.output ∧ w.heap.size ≤ w'.heap.size ∧ ∀ k, k < w.heap.size → k ∉ bs → w'.heap[k]? = w.heap[k]?
theorem Only.refl (bs : List Nat) (w : World) : Only bs w w := ⟨rfl, rfl, rfl, Nat.le_refl _, fun _ _ _ => rfl⟩
theorem Only.trans {bs : List Nat} {a b c : World} (h : Only bs a b) (k : Only bs b c) : Only bs a c :=
  ⟨k.1.trans h.1, k.2.1.trans h.2.1, k.2.2.1.trans h.2.2.1, Nat.le_trans h.2.2.2.1 k.2.2.2.1, fun i hi hb => (k.2.2.2.2 i (Nat.lt_of_lt_of_le hi h.2.2.2.1) hb).trans (h.2.2.2.2 i hi hb)⟩
theorem Only.mono {bs cs : List Nat} {a b : World} (h : Only bs a b) (hs : ∀ k, k ∈ bs → k ∈ cs) : Only cs a b :=
  ⟨h.1, h.2.1, h.2.2.1, h.2.2.2.1, fun i hi hb => h.2.2.2.2 i hi (fun hc => hb (hs i hc))⟩
theorem Only.drewN {bs : List Nat} {a b : World} (h : Only bs a b) (n : Nat) : Only bs a (b.drewN n) := h
theorem Only.drew {bs : List Nat} {a b : World} (h : Only bs a b) : Only bs a b.drew := h
theorem Only.alloc {bs : List Nat} {a b : World} (h : Only bs a b) (o : Obj) : Only bs a (b.alloc o) :=
  h.trans ⟨rfl, rfl, rfl, by simp, fun k hk _ => Below.heap_alloc _ _ _ hk⟩
theorem Only.setCell {bs : List Nat} {a b : World} (h : Only bs a b) {p : Addr} (hp : p.block ∈ bs) (u : Value) : Only bs a (b.setCell p u) :=
  h.trans ⟨rfl, rfl, rfl, by simp [World.setCell], fun k _ hb => Below.heap_setCell _ _ _ _ (fun e => hb (e ▸ hp))⟩
theorem Only.grown {bs : List Nat} {a b c : World} {row : Option Nat} (h : Only bs a b) (hg : b.grownBy c row) (hr : ∀ k, row = some k → k ∈ bs) : Only bs a c :=
  h.trans ⟨hg.os, hg.tape, hg.output, hg.size, fun k hk hb => hg.block k hk (fun e => hb (hr k e.symm))⟩
theorem Only.below {bs : List Nat} {a b : World} {B : Nat} (h : Only bs a b) (hB : B ≤ a.heap.size) (hb : ∀ k, k ∈ bs → B ≤ k) : Below B a b :=
  ⟨h.1, h.2.1, h.2.2.1, h.2.2.2.1, fun k hk => h.2.2.2.2 k (by omega) (fun hc => by have := hb k hc; omega)⟩
theorem Only.of_below {a b : World} (h : Below a.heap.size a b) (bs : List Nat) : Only bs a b :=
  ⟨h.os, h.tape, h.output, h.size, fun k hk _ => h.block k hk⟩
theorem Only.block {bs : List Nat} {a b : World} (h : Only bs a b) {k : Nat} {o : Obj} (ho : a.heap[k]? = some o) (hk : k ∉ bs) : b.heap[k]? = some o :=
  (h.2.2.2.2 k (lt_of_block ho) hk).trans ho
theorem Only.owns {bs : List Nat} {a b : World} (h : Only bs a b) {base : Nat} {e : TypeId} {size : Nat} {v : Value} {n : Nat} {xs : List Value} (ho : a.ownsRow base e size v n xs) (hk : ∀ k, v.ownBlock = some k → k ∉ bs) : b.ownsRow base e size v n xs := by
  refine ⟨ho.1, ?_⟩
  rcases ho.2 with hn | ⟨g, cap, cur, rfl, hb, hgg, rest⟩
  · exact .inl hn
  · exact .inr ⟨g, cap, cur, rfl, hb, h.block hgg (hk g rfl), rest⟩

/-- a block of three cells -/
theorem cells3 {w : World} {b : Nat} {x y z : Value} {t : TypeId} (h : w.heap[b]? = some (.cells #[x, y, z] t (0, 0))) :
    w.cell? ⟨b, 0, none⟩ = some x ∧ w.cell? ⟨b, 1, none⟩ = some y ∧ w.cell? ⟨b, 2, none⟩ = some z := by
  refine ⟨?_, ?_, ?_⟩ <;> simp [World.cell?, h]
theorem free3 {w : World} {b : Nat} {x y z : Value} {t : TypeId} (h : w.heap[b]? = some (.cells #[x, y, z] t (0, 0))) (j : Nat) :
    w.frozen? ⟨b, j, none⟩ = false := by
  simp [World.frozen?, h]
theorem set3 {w : World} {b : Nat} {cs : Array Value} {t : TypeId} (h : w.heap[b]? = some (.cells cs t (0, 0))) (j : Nat) (u : Value) :
    (w.setCell ⟨b, j, none⟩ u).heap[b]? = some (.cells (cs.setIfInBounds j u) t (0, 0)) := by
  exact heap_setCell_same w b j cs t u h
end Go.Proofs.YtbadpjgiogghdaaGreatDoor.Win

