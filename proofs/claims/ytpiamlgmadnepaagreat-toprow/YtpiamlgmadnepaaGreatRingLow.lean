/-
  What Top and Low of package ring return. They change nothing that was there. Their condition: the ring keeps packets that a ring may keep.
-/
import Derived.Test.YtpiamlgmadnepaaGreatRingB
namespace Go.Proofs.YtpiamlgmadnepaaGreat.Ring
open Go.ChangeShapes Go.WideShapes Go.ChangeAt Go.RowKit Go.Maps Go.Proofs.YtpiamlgmadnepaaGreat.PM Go.Proofs.YtpiamlgmadnepaaGreat.Mem Go.Proofs.YtpiamlgmadnepaaGreat.Pack Go.Proofs.YtpiamlgmadnepaaGreat.RM
set_option linter.unusedVariables false

theorem top_calls (b : Nat) (T : Int) (w : World) (h1 : w.cell? ⟨b, 1, none⟩ = some (.int .i64 T)) :
    Calls Tryz.prog 158 #[.pointer (some ⟨b, 0, none⟩)] w fun e w' => e = .returned (.int .i64 T) ∧ w' = w := by
  go_enter Tryz.func158, Tryz.ntmps158
  go_wp2_with fail
  go_ret
  exact ⟨rfl, rfl⟩

/-- under way: the least so far -/
def LSt (w wr : World) (b mb it : Nat) (T m : Int) (M : Its) (D : DataW Value) (left : Lit → Bool) (cnt : Nat) : Prop :=
  wr.ranges Tryz.prog 3 pkR mb it M.length D left cnt ∧ Below w.heap.size w wr ∧ w.heap.size ≤ it ∧ Keys D M ∧ m ≤ T ∧ (∀ i ∈ M, left (key i.1) = false → m ≤ i.1) ∧ (m = T ∨ ∃ i ∈ M, m = i.1)
theorem lst_step {w wr w1 : World} {b mb it cnt cnt1 : Nat} {T m x : Int} {M : Its} {D : DataW Value} {left : Lit → Bool} (h : LSt w wr b mb it T m M D left cnt) (hg : wr.grownBy w1 (some it))
    (hr : w1.ranges Tryz.prog 3 pkR mb it M.length D (fun z => left z && !z.sameKey (key x)) cnt1) (hx : ∃ i ∈ M, i.1 = x) : LSt w w1 b mb it T (min m x) M D (fun z => left z && !z.sameKey (key x)) cnt1 := by
  obtain ⟨g1, g2, g3, g4, g5, g6, g7⟩ := h
  obtain ⟨j, hj, rfl⟩ := hx
  refine ⟨hr, g2.grown hg g2.size (by intro k hk; simp at hk; omega), g3, g4, by omega, ?_, ?_⟩
  · intro i hi hl
    by_cases e : i.1 = j.1
    · omega
    · have hs : (key i.1).sameKey (key j.1) = false := sameKey_ne (fun h => e (key_inj h))
      simp only [hs, Bool.not_false, Bool.and_true] at hl
      have := g6 i hi hl
      omega
  · rcases Int.le_total m j.1 with hle | hle
    · rw [Int.min_eq_left hle]; exact g7
    · rw [Int.min_eq_right hle]; exact .inr ⟨j, hj, rfl⟩

set_option maxHeartbeats 1000000 in
set_option maxRecDepth 100000 in
theorem low_calls (b mb : Nat) (n T : Int) (M : Its) (w : World) (h : RingAt w b mb n T M) (hI : RM.Inv n T M) :
    Calls Tryz.prog 160 #[.pointer (some ⟨b, 0, none⟩)] w fun e w' => e = .returned (.int .i64 (low T M)) ∧ Below w.heap.size w w' := by
  obtain ⟨c0, c1, c2⟩ := h.cells
  obtain ⟨hB, D, hown, hK, hE⟩ := h
  have HO := hidden hown
  have HK := hidden hK
  have HI := hidden hI
  have ht1 := hI.t1
  have ht2 := hI.t2
  clear hB hown hK hE hI
  go_enter Tryz.func160, Tryz.ntmps160
  go_wp2_with (at_range; refine wpList_range_own _ rfl _ 268 rfl 3 38 law3 Tryz.underlying268 _ mb M.length D rfl HO.out ?_; intro w0 hrg0 hg0 hs0)
  go_frame
  have HS0 : Hid (LSt w w0 b mb w.heap.size T T M D (Maps.has D) (Maps.size D)) :=
    ⟨hrg0, (Below.refl _ _).grown hg0 (Nat.le_refl _) (by simp), Nat.le_refl _, HK.out, Int.le_refl _, (fun i hi hl => by rw [(HK.out (key i.1)).2 ⟨i, hi, rfl⟩] at hl; cases hl), .inl rfl⟩
  clear hrg0 hg0 hs0 HO
  go_loopw [3] (fun lo wr => ∃ (m : Int) (left : Lit → Bool) (cnt : Nat), lo = .int .i64 m ∧ Hid (LSt w wr b mb w.heap.size T m M D left cnt)) (fun _ wr => wr.rangeLeft mb w.heap.size)
  case atStart => exact ⟨_, _, _, rfl, HS0⟩
  case round =>
    obtain ⟨m, left, cnt, rfl, HS⟩ := hrel
    clear HS0
    go_wp2_with (at_next; refine wpList_next_ranges _ rfl _ rfl 3 law3 pkR (Value.int .i64) (fun v : Value => v) (fun key kl hkey => by obtain ⟨x, rfl, _⟩ := Maps.keyOf_int_inv Tryz.underlying3 hkey; exact ⟨x, rfl⟩) (fun v y hv => ⟨v, rfl⟩) mb w.heap.size M.length D left cnt rfl HS.out.1 ?_ ?_)
    · intro _ hl0
      go_wp2_with fail
      go_ret
      obtain ⟨g1, g2, g3, g4, g5, g6, g7⟩ := HS.out
      have e := low_eq g5 (fun i hi => g6 i hi (hl0 _)) g7
      exact ⟨by rw [← e]; rfl, g2⟩
    · intro x v kl yd yp w1 cnt1 hkey hlk hv hat hrg1 hlt1 hg1 hs1 hen
      obtain ⟨x', ex, rfl, hwx⟩ := Maps.keyOf_int_inv Tryz.underlying3 hkey
      cases ex
      obtain ⟨i, hi, ei⟩ := (HK.out (key x)).1 (has_true_of_atKey hat)
      have HR := hidden (lst_step HS.out hg1 hrg1 ⟨i, hi, (key_inj ei).symm⟩)
      clear hrg1 hg1 hi ei
      go_wp2_with fail
      go_roundw
      case rel => exact ⟨min m x, _, cnt1, congrArg (Value.int .i64) (by split <;> omega), HR⟩
      case measure => rw [HR.out.1.left_eq, HS.out.1.left_eq]; omega
end Go.Proofs.YtpiamlgmadnepaaGreat.Ring

