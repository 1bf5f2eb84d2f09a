/-
  What the reference's ring's method Put returns where nothing is kept. It changes nothing that was there then. Its condition: the ring keeps packets that a ring may keep.
-/
import Derived.Test.YtfehmpdeenpahadDoorRRingB
namespace Go.Proofs.YtfehmpdeenpahadDoor.RRing
open Go.ChangeShapes Go.WideShapes Go.ChangeAt Go.RowKit Go.Proofs.YtfehmpdeenpahadDoor.PM Go.Proofs.YtfehmpdeenpahadDoor.Mem Go.Proofs.YtfehmpdeenpahadDoor.Pack Go.Proofs.YtfehmpdeenpahadDoor.RM Go.Proofs.YtfehmpdeenpahadDoor.Ring
set_option linter.unusedVariables false

theorem rput_long (b : Nat) (y s t l q : Int) (st : Bool) (bv : Value) (w : World) (h : y < 0 ∨ 1099511627776 < y) :
    Calls Tryd.prog 14 #[.pointer (some ⟨b, 0, none⟩), .int .i64 y, .agg #[.int .i64 s, .int .i64 t, .int .i64 l, .int .i64 q, .bool st, bv]] w fun e w' => e = .returned (.tuple #[.bool false, .int .i64 1]) ∧ Below w.heap.size w w' := by
  have HL := hidden (fun w => RPack.rlong_no y w h)
  clear h
  go_enter Tryd.func14, Tryd.ntmps14
  go_wp2_with fail
  refine (HL.out _).mono ?_
  rintro e w' ⟨rfl, rfl⟩
  go_wp2_with fail
  go_ret2
  exact ⟨rfl, (Below.refl _ _).alloc (Nat.le_refl _) _⟩

set_option maxHeartbeats 1000000 in
set_option maxRecDepth 100000 in
theorem rput_bad (b : Nat) (y s t l q : Int) (st : Bool) (a : Option Addr) (m cap : Nat) (w : World) (h0 : 0 ≤ y) (h1 : y ≤ 1099511627776) (hf : fault s t l q m ≠ 0) :
    Calls Tryd.prog 14 #[.pointer (some ⟨b, 0, none⟩), .int .i64 y, .agg #[.int .i64 s, .int .i64 t, .int .i64 l, .int .i64 q, .bool st, .slice a m cap]] w fun e w' => e = .returned (.tuple #[.bool false, .int .i64 (fault s t l q m : Nat)]) ∧ Below w.heap.size w w' := by
  have HL := hidden (fun w => RPack.rlong_yes y w h0 h1)
  have HC := hidden (fun w => RPack.rpacket_calls s t l q st a m cap w)
  generalize fault s t l q m = f at *
  have d : ((f : Int) == 0) = false := by simp; omega
  clear hf
  go_enter Tryd.func14, Tryd.ntmps14
  go_wp2_with fail
  refine (HL.out _).mono ?_
  rintro e w' ⟨rfl, rfl⟩
  go_wp2_with fail
  refine (HC.out _).mono ?_
  rintro e w1 ⟨rfl, hb1⟩
  have HB := hidden (below_old hb1)
  clear hb1
  go_wp2_with fail
  go_ret2
  exact ⟨rfl, HB.out⟩

set_option maxHeartbeats 1000000 in
set_option maxRecDepth 100000 in
theorem rput_gone (base b : Nat) (n T y s t l q : Int) (st : Bool) (a : Option Addr) (m cap : Nat) (M : Its) (v : Value) (w : World) (hR : RefAt w base b n T M v) (hI : RM.Inv n T M) (h0 : 0 ≤ y) (h1 : y ≤ 1099511627776) (hf : fault s t l q m = 0) (ho : y ≤ T - n) :
    Calls Tryd.prog 14 #[.pointer (some ⟨b, 0, none⟩), .int .i64 y, .agg #[.int .i64 s, .int .i64 t, .int .i64 l, .int .i64 q, .bool st, .slice a m cap]] w fun e w' => e = .returned (.tuple #[.bool false, .int .i64 6]) ∧ Below w.heap.size w w' := by
  have HL := hidden (fun w => RPack.rlong_yes y w h0 h1)
  have C := fun w => RPack.rpacket_calls s t l q st a m cap w
  rw [hf] at C
  have HC := hidden C
  have HR := hidden hR
  have ht1 := hI.t1
  have ht2 := hI.t2
  have hn1 := hI.n1
  have hn2 := hI.n2
  have d : decide (y ≤ T - n) = true := by simpa using ho
  clear C hR hI hf
  go_enter Tryd.func14, Tryd.ntmps14
  go_wp2_with fail
  refine (HL.out _).mono ?_
  rintro e w' ⟨rfl, rfl⟩
  go_wp2_with fail
  refine (HC.out _).mono ?_
  rintro e w1 ⟨rfl, hb1⟩
  have HB := hidden (below_old hb1)
  clear hb1
  obtain ⟨c0, c1, c2⟩ := ref_cells (HR.out.below HB.out)
  go_wp2_with fail
  go_quiet (fail)
  go_wp2_with fail
  go_ret2
  exact ⟨rfl, below_drewN HB.out _⟩

set_option maxHeartbeats 1000000 in
set_option maxRecDepth 100000 in
theorem rput_has (base b : Nat) (n T y s t l q : Int) (st : Bool) (a : Option Addr) (m cap : Nat) (M : Its) (v : Value) (w : World) (hR : RefAt w base b n T M v) (hI : RM.Inv n T M) (h0 : 0 ≤ y) (h1 : y ≤ 1099511627776) (hf : fault s t l q m = 0) (ho : T - n < y) (hh : has M y = true) :
    Calls Tryd.prog 14 #[.pointer (some ⟨b, 0, none⟩), .int .i64 y, .agg #[.int .i64 s, .int .i64 t, .int .i64 l, .int .i64 q, .bool st, .slice a m cap]] w fun e w' => e = .returned (.tuple #[.bool false, .int .i64 0]) ∧ Below w.heap.size w w' := by
  have HL := hidden (fun w => RPack.rlong_yes y w h0 h1)
  have C := fun w => RPack.rpacket_calls s t l q st a m cap w
  rw [hf] at C
  have HC := hidden C
  have HR := hidden hR
  have ht1 := hI.t1
  have ht2 := hI.t2
  have hn1 := hI.n1
  have hn2 := hI.n2
  have hlen : M.length ≤ 1000 := by have := hI.len; omega
  have HAt : Hid (∀ W, RefAt W base b n T M v → Calls Tryd.prog 16 #[.pointer (some ⟨b, 0, none⟩), .int .i64 y] W fun e w' => ∃ j : Nat, e = .returned (.int .i64 (j : Int)) ∧ w' = W) := by
    refine hidden (fun W hW => (at_calls base b n T y M v W hW hlen).mono ?_)
    rintro e w' ⟨h, rfl⟩
    rcases h with ⟨h, _⟩ | ⟨j, i, _, _, rfl⟩
    · rw [hh] at h; cases h
    · exact ⟨j, rfl, rfl⟩
  have d : decide (y ≤ T - n) = false := by simp; omega
  clear C hR hI hf hh hlen
  go_enter Tryd.func14, Tryd.ntmps14
  go_wp2_with fail
  refine (HL.out _).mono ?_
  rintro e w' ⟨rfl, rfl⟩
  go_wp2_with fail
  refine (HC.out _).mono ?_
  rintro e w1 ⟨rfl, hb1⟩
  have HB := hidden (below_old hb1)
  clear hb1
  obtain ⟨c0, c1, c2⟩ := ref_cells (HR.out.below HB.out)
  go_wp2_with fail
  go_quiet (fail)
  go_wp2_with fail
  refine (HAt.out _ (HR.out.below (below_drewN HB.out _))).mono ?_
  rintro e w2 ⟨j, rfl, rfl⟩
  go_wp2_with fail
  go_ret2
  exact ⟨rfl, below_drewN HB.out _⟩
end Go.Proofs.YtfehmpdeenpahadDoor.RRing
