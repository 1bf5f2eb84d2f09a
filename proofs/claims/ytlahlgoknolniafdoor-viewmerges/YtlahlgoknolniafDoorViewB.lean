/-
  What the library's BinarySearchFunc, as package view calls it, and the function find return: where a node is, or would be, in a right view. They change nothing that was there.
-/
import Derived.Test.YtlahlgoknolniafDoorViewA
namespace Go.Proofs.YtlahlgoknolniafDoor.View
open Go.ChangeShapes Go.WideShapes Go.ChangeAt Go.RowKit Go.Proofs.YtlahlgoknolniafDoor.Mem Go.Proofs.YtlahlgoknolniafDoor.VM
set_option linter.unusedVariables false

theorem findF_calls (m : Mb) (k : Int) (w : World) (h0 : 0 ≤ m.n) (h1 : m.n ≤ 15) (k0 : 0 ≤ k) (k1 : k ≤ 15) : Calls Tryd.prog 36 #[mv m, .int .i64 k] w fun e w' => e = .returned (.int .i64 (m.n - k)) ∧ Below w.heap.size w w' := by
  obtain ⟨a, b, c⟩ := m
  simp only at h0 h1
  have HB : Hid (∀ O1, Below w.heap.size w (w.alloc O1)) := fun O1 => below_alloc (Below.refl _ _) _
  unfold mv
  go_enter Tryd.func36, Tryd.ntmps36
  go_wp2_with fail
  go_ret
  exact ⟨rfl, HB.out _⟩
theorem rises_get {L : List Mb} (h : Rises L) {s t : Nat} (hs : s < t) (ht : t < L.length) : (L.getD s zz).n < (L.getD t zz).n := by
  have := List.pairwise_iff_getElem.1 h s t (by omega) ht hs
  rw [List.getD_eq_getElem?_getD, List.getD_eq_getElem?_getD, List.getElem?_eq_getElem ht, List.getElem?_eq_getElem (by omega)]
  exact this
theorem fit_get {L : List Mb} (h : Fit L) {t : Nat} (ht : t < L.length) : 0 ≤ (L.getD t zz).n ∧ (L.getD t zz).n ≤ 15 := by
  have := okm_iff.1 (h.ok (L.getD t zz) (by rw [List.getD_eq_getElem?_getD, List.getElem?_eq_getElem ht]; exact List.getElem_mem _))
  omega

set_option maxHeartbeats 4000000 in
set_option maxRecDepth 100000 in
theorem search_calls (a : Option Addr) (n cap : Nat) (L : List Mb) (k : Int) (w : World) (h : MArg w a n L) (hf : Fit L) (k0 : 0 ≤ k) (k1 : k ≤ 15) :
    Calls Tryd.prog 35 #[.slice a n cap, .int .i64 k, .func (.func 36) #[] #[]] w fun e w' => e = .returned (.tuple #[.int .i64 (pl L k : Nat), .bool (fd L k)]) ∧ Below w.heap.size w w' := by
  have hl := h.2.1
  have hn16 : n ≤ 16 := by have := hf.len; omega
  have HA := hidden h
  have HF := hidden hf
  have HC := hidden (fun m w h0 h1 => findF_calls m k w h0 h1 k0 k1)
  clear h hf
  obtain ⟨P, hP⟩ : ∃ P, pl L k = P := ⟨_, rfl⟩
  have HFD : Hid (fd L k = (decide (P < n) && decide ((L.getD P zz).n = k))) := by unfold Hid fd; rw [hP, hl]
  have HP := hidden hP
  rw [hP]
  clear hP
  obtain ⟨r, hr⟩ : ∃ r, fd L k = r := ⟨_, rfl⟩
  rw [hr] at HFD ⊢
  clear hr
  go_enter Tryd.func35, Tryd.ntmps35
  go_wp2_with fail
  go_loopg [9, 10] n (fun g x y wr => ∃ (lo hi : Nat), x = .int .i64 (lo : Int) ∧ y = .int .i64 (hi : Int) ∧ lo ≤ hi ∧ hi ≤ n ∧ hi - lo ≤ g ∧ Hid (Below w.heap.size w wr) ∧ Hid ((∀ t, t < lo → (L.getD t zz).n < k) ∧ (∀ t, hi ≤ t → t < L.length → k ≤ (L.getD t zz).n)))
  case atStart => exact ⟨0, n, rfl, rfl, by omega, by omega, by omega, Below.refl _ _, ⟨fun t ht => absurd ht (by omega), fun t h1 h2 => absurd h2 (by omega)⟩⟩
  case round =>
    obtain ⟨lo, hi, rfl, rfl, hlh, hin, hg, HW, HI⟩ := hrel
    by_cases hlt : lo < hi
    · have hmid : (lo + hi) / 2 < n := by omega
      obtain ⟨b, o, rfl, hbl, hcs⟩ := (HA.out.below HW.out).at (by omega)
      obtain ⟨c0, c1, c2⟩ := hcs ((lo + hi) / 2) hmid
      clear hcs
      have hbd := fit_get HF.out (t := (lo + hi) / 2) (by omega)
      obtain ⟨m, hm⟩ : ∃ m, L.getD ((lo + hi) / 2) zz = m := ⟨_, rfl⟩
      rw [hm] at c0 c1 c2 hbd
      have HM := hidden hm
      clear hm
      have HCC := hidden (fun w => HC.out m w hbd.1 hbd.2)
      unfold mv at HCC
      obtain ⟨x, y, u⟩ := m
      simp only at c0 c1 c2 HCC hbd
      by_cases hx : x < k
      · have d : decide (x - k < 0) = true := by simp; omega
        go_wp2_with fail
        refine (HCC.out _).mono ?_
        rintro e w1 ⟨rfl, hb1⟩
        have HW1 : Hid (Below w.heap.size w w1) := HW.out.trans (hb1.mono HW.out.size)
        clear hb1
        go_wp2_with fail
        go_roundg (hi - ((lo + hi) / 2 + 1))
        case measure => omega
        case rel =>
          refine ⟨(lo + hi) / 2 + 1, hi, by first | rfl | (congr 1; omega), rfl, by omega, hin, by omega, HW1, ?_, HI.out.2⟩
          intro t ht
          rcases Nat.lt_or_ge t ((lo + hi) / 2) with h' | h'
          · have := rises_get HF.out.ris h' (by omega)
            rw [HM.out] at this
            simp only at this
            omega
          · obtain rfl : t = (lo + hi) / 2 := by omega
            rw [HM.out]; exact hx
      · have d : decide (x - k < 0) = false := by simp; omega
        go_wp2_with fail
        refine (HCC.out _).mono ?_
        rintro e w1 ⟨rfl, hb1⟩
        have HW1 : Hid (Below w.heap.size w w1) := HW.out.trans (hb1.mono HW.out.size)
        clear hb1
        go_wp2_with fail
        go_roundg ((lo + hi) / 2 - lo)
        case measure => omega
        case rel =>
          refine ⟨lo, (lo + hi) / 2, rfl, by first | rfl | (congr 1; omega), by omega, by omega, by omega, HW1, HI.out.1, ?_⟩
          intro t ht htl
          rcases Nat.lt_or_ge ((lo + hi) / 2) t with h' | h'
          · have := rises_get HF.out.ris h' htl
            rw [HM.out] at this
            simp only at this
            omega
          · obtain rfl : t = (lo + hi) / 2 := by omega
            rw [HM.out]; simp only; omega
    · obtain rfl : hi = lo := by omega
      have ep : P = hi := by rw [← HP.out]; exact pl_of (by omega) HI.out.1 HI.out.2
      subst ep
      clear HI HP
      by_cases hn : P < n
      · obtain ⟨b, o, rfl, hbl, hcs⟩ := (HA.out.below HW.out).at (by omega)
        obtain ⟨c0, c1, c2⟩ := hcs P hn
        clear hcs
        have hbd := fit_get HF.out (t := P) (by omega)
        obtain ⟨m, hm⟩ : ∃ m, L.getD P zz = m := ⟨_, rfl⟩
        rw [hm] at c0 c1 c2 hbd HFD
        clear hm
        have HCC := hidden (fun w => HC.out m w hbd.1 hbd.2)
        unfold mv at HCC
        obtain ⟨x, y, u⟩ := m
        simp only at c0 c1 c2 HCC hbd
        have hnz : (P : Int) < (n : Int) := by omega
        by_cases hx : x = k
        · have HR : Hid (r = true) := by rw [HFD.out]; unfold Hid; simp [hn, hx]
          clear HFD
          subst hx
          go_wp2_with fail
          refine (HCC.out _).mono ?_
          rintro e w1 ⟨rfl, hb1⟩
          have HW1 : Hid (Below w.heap.size w w1) := HW.out.trans (hb1.mono HW.out.size)
          clear hb1
          go_wp2_with fail
          go_ret2
          exact ⟨by rw [HR.out]; simp, HW1.out⟩
        · have HR : Hid (r = false) := by rw [HFD.out]; unfold Hid; simp [hx]
          clear HFD
          go_wp2_with fail
          refine (HCC.out _).mono ?_
          rintro e w1 ⟨rfl, hb1⟩
          have HW1 : Hid (Below w.heap.size w w1) := HW.out.trans (hb1.mono HW.out.size)
          clear hb1
          go_wp2_with fail
          go_ret2
          exact ⟨by rw [HR.out]; simp; omega, HW1.out⟩
      · have HR : Hid (r = false) := by rw [HFD.out]; unfold Hid; simp [hn]
        clear HFD
        have hnz : ¬ (P : Int) < (n : Int) := by omega
        go_wp2_with fail
        go_ret2
        exact ⟨by rw [HR.out]; rfl, HW.out⟩
theorem find_calls (a : Option Addr) (n cap : Nat) (L : List Mb) (k : Int) (w : World) (h : MArg w a n L) (hf : Fit L) (k0 : 0 ≤ k) (k1 : k ≤ 15) :
    Calls Tryd.prog 30 #[.slice a n cap, .int .i64 k] w fun e w' => e = .returned (.tuple #[.int .i64 (pl L k : Nat), .bool (fd L k)]) ∧ Below w.heap.size w w' := by
  have C := hidden (search_calls a n cap L k w h hf k0 k1)
  clear h hf k0 k1
  generalize pl L k = P at *
  generalize fd L k = r at *
  go_enter Tryd.func30, Tryd.ntmps30
  go_wp2_with fail
  refine C.out.mono ?_
  rintro e w1 ⟨rfl, hb1⟩
  go_wp2_with fail
  go_ret2
  exact ⟨rfl, hb1⟩
end Go.Proofs.YtlahlgoknolniafDoor.View
