/-
  What New, Sent and timeOf of package out return, and what they leave in memory. timeOf's condition: the Out is such as it may be.
-/
import Derived.Test.YtijfocggdjjnjaiGreatDoorMathAll
import Derived.Test.YtijfocggdjjnjaiGreatDoorPackAll
import Derived.Outline
import Derived.RegionTactic
import Derived.Laws.BitsLemmas
namespace Go.Proofs.YtijfocggdjjnjaiGreatDoor.Out
open Go.ChangeShapes Go.WideShapes Go.ChangeAt Go.RowKit Go.Proofs.YtijfocggdjjnjaiGreatDoor.PM Go.Proofs.YtijfocggdjjnjaiGreatDoor.Mem Go.Proofs.YtijfocggdjjnjaiGreatDoor.Pack Go.Proofs.YtijfocggdjjnjaiGreatDoor.UM
set_option linter.unusedVariables false

theorem and_round (n : Int) : bits .and .i64 n 65535 = n % 65536 := by
  have h : (BitVec.ofInt 64 65535).toNat = 2 ^ 16 - 1 := by decide
  have key : (BitVec.ofInt 64 n &&& BitVec.ofInt 64 65535).toNat = (n % ((2 ^ 64 : Nat) : Int)).toNat % 2 ^ 16 := by
    rw [BitVec.toNat_and, BitVec.toNat_ofInt, h, Nat.and_two_pow_sub_one_eq_mod]
  show IntKind.i64.wrap ((BitVec.ofInt 64 n &&& BitVec.ofInt 64 65535).toNat : Nat) = n % 65536
  rw [key, IntKind.wrap_i64]
  omega
theorem and_word (n : Int) : bits .and .i64 n 4294967295 = n % 4294967296 := by
  have h : (BitVec.ofInt 64 4294967295).toNat = 2 ^ 32 - 1 := by decide
  have key : (BitVec.ofInt 64 n &&& BitVec.ofInt 64 4294967295).toNat = (n % ((2 ^ 64 : Nat) : Int)).toNat % 2 ^ 32 := by
    rw [BitVec.toNat_and, BitVec.toNat_ofInt, h, Nat.and_two_pow_sub_one_eq_mod]
  show IntKind.i64.wrap ((BitVec.ofInt 64 n &&& BitVec.ofInt 64 4294967295).toNat : Nat) = n % 4294967296
  rw [key, IntKind.wrap_i64]
  omega
theorem ret_int {k : IntKind} {a b : Int} (h : a = b) : Ending.returned (.int k a) = .returned (.int k b) := by rw [h]

/-- an Out in memory -/
def OutAt (w : World) (b : Nat) (S : Int) (k : Nat) (T ly ow : Int) : Prop := w.heap[b]? = some (.cells #[.int .i64 S, .int .i64 (k : Int), .int .i64 T, .int .i64 ly, .int .i64 ow] 182 (0, 0))
theorem OutAt.cells {w : World} {b : Nat} {S : Int} {k : Nat} {T ly ow : Int} (h : OutAt w b S k T ly ow) :
    w.cell? ⟨b, 0, none⟩ = some (.int .i64 S) ∧ w.cell? ⟨b, 1, none⟩ = some (.int .i64 (k : Int)) ∧ w.cell? ⟨b, 2, none⟩ = some (.int .i64 T) ∧ w.cell? ⟨b, 3, none⟩ = some (.int .i64 ly) ∧ w.cell? ⟨b, 4, none⟩ = some (.int .i64 ow) := by
  simp only [OutAt] at h
  refine ⟨?_, ?_, ?_, ?_, ?_⟩ <;> simp [World.cell?, h]
theorem OutAt.free {w : World} {b : Nat} {S : Int} {k : Nat} {T ly ow : Int} (h : OutAt w b S k T ly ow) (j : Nat) : w.frozen? ⟨b, j, none⟩ = false := by
  simp only [OutAt] at h
  simp [World.frozen?, h]
theorem OutAt.lt {w : World} {b : Nat} {S : Int} {k : Nat} {T ly ow : Int} (h : OutAt w b S k T ly ow) : b < w.heap.size := lt_of_block h
theorem OutAt.only {w w' : World} {b : Nat} {S : Int} {k : Nat} {T ly ow : Int} {bs : List Nat} (h : OutAt w b S k T ly ow) (ho : Only bs w w') (hb : b ∉ bs) : OutAt w' b S k T ly ow := ho.block h hb
theorem OutAt.below {w w' : World} {b : Nat} {S : Int} {k : Nat} {T ly ow : Int} (h : OutAt w b S k T ly ow) (hb : Below w.heap.size w w') : OutAt w' b S k T ly ow := h.only (Only.of_below hb []) (by simp)
theorem OutAt.alloc {w : World} {b : Nat} {S : Int} {k : Nat} {T ly ow : Int} (h : OutAt w b S k T ly ow) (O : Obj) : OutAt (w.alloc O) b S k T ly ow := h.below ((Below.refl _ _).alloc (Nat.le_refl _) O)
theorem OutAt.setK {w : World} {b : Nat} {S : Int} {k : Nat} {T ly ow : Int} (h : OutAt w b S k T ly ow) : OutAt (w.setCell ⟨b, 1, none⟩ (.int .i64 ((k : Int) + 1))) b S (k + 1) T ly ow := heap_setCell_same w b 1 _ _ _ h
theorem OutAt.setT {w : World} {b : Nat} {S : Int} {k : Nat} {T ly ow : Int} (h : OutAt w b S k T ly ow) (x : Int) : OutAt (w.setCell ⟨b, 2, none⟩ (.int .i64 x)) b S k x ly ow := heap_setCell_same w b 2 _ _ _ h
theorem OutAt.setL {w : World} {b : Nat} {S : Int} {k : Nat} {T ly ow : Int} (h : OutAt w b S k T ly ow) (x : Int) : OutAt (w.setCell ⟨b, 3, none⟩ (.int .i64 x)) b S k T x ow := heap_setCell_same w b 3 _ _ _ h
theorem OutAt.setO {w : World} {b : Nat} {S : Int} {k : Nat} {T ly ow : Int} (h : OutAt w b S k T ly ow) (x : Int) : OutAt (w.setCell ⟨b, 4, none⟩ (.int .i64 x)) b S k T ly x := heap_setCell_same w b 4 _ _ _ h
/-- no byte lies in it -/
theorem OutAt.nob {w : World} {b : Nat} {S : Int} {k : Nat} {T ly ow : Int} (h : OutAt w b S k T ly ow) (j : Nat) (c : Int) : w.cell? ⟨b, j, none⟩ ≠ some (.int .u8 c) := by
  simp only [OutAt] at h
  rcases Nat.lt_or_ge j 5 with hj | hj
  · rcases j with _ | _ | _ | _ | _ | j
    · simp [World.cell?, h]
    · simp [World.cell?, h]
    · simp [World.cell?, h]
    · simp [World.cell?, h]
    · simp [World.cell?, h]
    · omega
  · simp [World.cell?, h, show ¬ j < 5 by omega]
/-- bytes stay where an Out alone changes -/
theorem OutAt.arg {w w' : World} {b : Nat} {S : Int} {k : Nat} {T ly ow : Int} (h : OutAt w b S k T ly ow) (ho : Only [b] w w') {a : Option Addr} {n : Nat} {L : List Nat} (hA : Arg w a n L) : Arg w' a n L := by
  refine ⟨⟨hA.1.1, fun j hj => ?_⟩, hA.2⟩
  obtain ⟨bb, o, e, hc⟩ := hA.1.2 j hj
  refine ⟨bb, o, e, ?_⟩
  have hne : bb ≠ b := fun e => by rw [e] at hc; exact h.nob _ _ hc
  have hb := ho.2.2.2.2 bb (World.block_lt_of_cell? w ⟨bb, o + j, none⟩ hc) (by simp; exact hne)
  rw [← hc]
  simp [World.cell?, hb]

theorem new_ok (S T : Int) (w : World) (h0 : 0 ≤ S) (h1 : S ≤ 65535) (h2 : 0 ≤ T) (h3 : T ≤ 4294967295) :
    Calls Tryz.prog 54 #[.int .i64 S, .int .i64 T] w fun e w' => ∃ b, e = .returned (.tuple #[.pointer (some ⟨b, 0, none⟩), .nilIface]) ∧ w.heap.size ≤ b ∧ OutAt w' b S 0 T 0 0 ∧ Below w.heap.size w w' := by
  go_enter Tryz.func54, Tryz.ntmps54
  go_wp2_with fail
  go_ret2
  exact ⟨_, rfl, Nat.le_refl _, heap_alloc_new w _, (Below.refl _ _).alloc (Nat.le_refl _) _⟩
theorem new_err (S T : Int) (w : World) (h : S < 0 ∨ 65535 < S ∨ T < 0 ∨ 4294967295 < T) :
    Calls Tryz.prog 54 #[.int .i64 S, .int .i64 T] w fun e w' => e = .returned (.tuple #[.pointer none, .iface 58 (.int .i64 1)]) ∧ w' = w := by
  by_cases c0 : S < 0
  · have d0 : decide (S < 0) = true := by simpa using c0
    clear h
    go_enter Tryz.func54, Tryz.ntmps54
    go_wp2_with fail
    go_ret2
    exact ⟨rfl, rfl⟩
  have d0 : decide (S < 0) = false := by simpa using c0
  by_cases c1 : 65535 < S
  · have d1 : decide (65535 < S) = true := by simpa using c1
    clear h
    go_enter Tryz.func54, Tryz.ntmps54
    go_wp2_with fail
    go_ret2
    exact ⟨rfl, rfl⟩
  have d1 : decide (65535 < S) = false := by simpa using c1
  by_cases c2 : T < 0
  · have d2 : decide (T < 0) = true := by simpa using c2
    clear h
    go_enter Tryz.func54, Tryz.ntmps54
    go_wp2_with fail
    go_ret2
    exact ⟨rfl, rfl⟩
  have d2 : decide (T < 0) = false := by simpa using c2
  have c3 : 4294967295 < T := by omega
  have d3 : decide (4294967295 < T) = true := by simpa using c3
  clear h
  go_enter Tryz.func54, Tryz.ntmps54
  go_wp2_with fail
  go_ret2
  exact ⟨rfl, rfl⟩
set_option maxHeartbeats 2000000 in
set_option maxRecDepth 100000 in
theorem timeOf_calls (b : Nat) (S : Int) (k : Nat) (T ly ow : Int) (s t l q : Int) (st : Bool) (bv : Value) (w : World) (h : OutAt w b S k T ly ow) (hI : UM.Inv S k T ow) (ht0 : 0 ≤ t) (ht1 : t ≤ 4294967295) :
    Calls Tryz.prog 125 #[.pointer (some ⟨b, 0, none⟩), .agg #[.int .i64 s, .int .i64 t, .int .i64 l, .int .i64 q, .bool st, bv]] w fun e w' => e = .returned (.int .i64 (nt k T ly ow l t)) ∧ Below w.heap.size w w' := by
  have HL := hidden (h.alloc (.cells #[.int .i64 s, .int .i64 t, .int .i64 l, .int .i64 q, .bool st, bv] 31))
  have HX := hidden (Box.new w s t l q st bv)
  obtain ⟨i1, i2, i3, i4, i5, i6, i7⟩ := hI
  clear h
  obtain ⟨c0, c1, c2, c3, c4⟩ := HL.out.cells
  obtain ⟨x0, x1, x2, x3, x4, x5⟩ := HX.out.cells
  clear x0 x3 x4 x5 c0
  by_cases p : k = 0
  · subst p
    have e0 : nt 0 T ly ow l t = T := rfl
    rw [e0]
    go_enter Tryz.func125, Tryz.ntmps125
    go_wp2_with fail
    go_ret
    exact ⟨rfl, (Below.refl _ _).alloc (Nat.le_refl _) _⟩
  have hk : ¬ (k : Int) = 0 := by omega
  have dk : ((k : Int) == 0) = false := by simpa using hk
  by_cases p1 : l = ly
  · subst p1
    rw [nt_same T l ow t p]
    have d1 : (l != l) = false := by simp
    go_enter Tryz.func125, Tryz.ntmps125
    go_wp2_with fail
    go_quiet (fail)
    obtain ⟨wq, hwq⟩ : ∃ wq, (w.alloc (.cells #[.int .i64 s, .int .i64 t, .int .i64 l, .int .i64 q, .bool st, bv] 31)).drewN nq = wq := ⟨_, rfl⟩
    have HLq : Hid (OutAt wq b S k T l ow) := by rw [← hwq]; exact HL.out.below (below_drewN (Below.refl _ _) _)
    have HXq : Hid (Box wq w.heap.size s t l q st bv) := by rw [← hwq]; exact HX.out.below (below_drewN (Below.refl _ _) _) HX.out.lt
    have HBq : Hid (Below w.heap.size w wq) := by rw [← hwq]; exact below_drewN ((Below.refl _ _).alloc (Nat.le_refl _) _) _
    rw [hwq]
    clear hwq HL HX c1 c2 c3 c4 x1 x2
    obtain ⟨c0, c1, c2, c3, c4⟩ := HLq.out.cells
    obtain ⟨x0, x1, x2, x3, x4, x5⟩ := HXq.out.cells
    clear x0 x2 x3 x4 x5 c0 c1 c3
    go_wp2_with fail
    go_quiet (fail)
    go_wp2_with fail
    go_ret
    exact ⟨ret_int (by rw [and_word]), below_drewN HBq.out _⟩
  · rw [nt_other T ly ow l t p p1]
    have d1 : (l != ly) = true := by simpa using p1
    go_enter Tryz.func125, Tryz.ntmps125
    go_wp2_with fail
    go_quiet (fail)
    obtain ⟨wq, hwq⟩ : ∃ wq, (w.alloc (.cells #[.int .i64 s, .int .i64 t, .int .i64 l, .int .i64 q, .bool st, bv] 31)).drewN nq = wq := ⟨_, rfl⟩
    have HLq : Hid (OutAt wq b S k T ly ow) := by rw [← hwq]; exact HL.out.below (below_drewN (Below.refl _ _) _)
    have HBq : Hid (Below w.heap.size w wq) := by rw [← hwq]; exact below_drewN ((Below.refl _ _).alloc (Nat.le_refl _) _) _
    rw [hwq]
    clear hwq HL HX c1 c2 c3 c4 x1 x2
    obtain ⟨c0, c1, c2, c3, c4⟩ := HLq.out.cells
    clear c0 c1 c3 c4
    go_wp2_with fail
    go_ret
    exact ⟨ret_int (by rw [and_word]), HBq.out⟩
end Go.Proofs.YtijfocggdjjnjaiGreatDoor.Out

