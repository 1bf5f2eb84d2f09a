/-
  The walk of the Go function VoiceLoud: it returns true at any three numbers.
-/
import Derived.Test.YtjhfjkacfnccdahVoiceF
import Derived.Test.YtjhfjkacfnccdahVoiceMath2
import Derived.LoopTactic
import Derived.Deep.LoopGhost
namespace Go.Proofs.Ytjhfjkacfnccdah.Loud
open Go.ChangeShapes Go.WideShapes Go.ChangeAt Go.RowKit Go.Maps Go.Proofs.Ytjhfjkacfnccdah.Mem Go.Proofs.Ytjhfjkacfnccdah.VO Go.Proofs.Ytjhfjkacfnccdah.Voice
set_option linter.unusedVariables false

/-- who may speak -/
structure Fit (p q L : Int) : Prop where
  p0 : 0 ≤ p
  p1 : p ≤ 200
  q0 : 0 ≤ q
  q1 : q ≤ 200
  ne : p ≠ q
  l0 : 20 ≤ L
  l1 : L ≤ 127
theorem Fit.ok {p q L A B : Int} (h : Fit p q L) (hA : 0 ≤ A ∧ A ≤ 16256) (hB : 0 ≤ B ∧ B ≤ 16256) : Ok (two p q A B) := ok_two h.p0 h.p1 h.q0 h.q1 hA hB
theorem Fit.hear1 {p q L : Int} (h : Fit p q L) (A : Int) : hf (two p q A 0) [(p, L), (q, 0)] = 0 := by
  have := h.p0; have := h.p1; have := h.q0; have := h.q1; have := h.l0; have := h.l1
  refine hf_zero.2 ⟨by simp, ⟨fun x hx => ?_, ?_⟩, ?_⟩
  · rw [okv_iff]
    rcases List.mem_cons.1 hx with rfl | hx
    · simp only; omega
    · rw [List.mem_singleton.1 hx]; simp only; omega
  · simp; exact h.ne
  · rw [nx_first h.ne]; exact lst_two _ _ _ _
theorem Fit.hear2 {p q L : Int} (h : Fit p q L) (A B : Int) : hf (two p q A B) [(q, L)] = 0 := by
  have := h.p0; have := h.p1; have := h.q0; have := h.q1; have := h.l0; have := h.l1
  refine hf_zero.2 ⟨by simp, ⟨fun x hx => ?_, ?_⟩, ?_⟩
  · rw [okv_iff, List.mem_singleton.1 hx]; simp only; omega
  · simp
  · rw [nx_second h.ne]; exact lst_two _ _ _ _
/-- the first rounds: i have been -/
structure One (w wr : World) (b : Nat) (p q L : Int) (i : Nat) : Prop where
  at_ : ∃ mo sp, VAt wr b mo 2 sp (two p q (up L i) 0) ∧ Inv (two p q (up L i) 0) sp ∧ (sp = p ∨ two p q (up L (i + 1)) 0 sp = 0)
  bel : Below w.heap.size w wr
  lo : w.heap.size ≤ b
theorem two_arg (w : World) (p q L M : Int) : VArg (w.alloc (.cells #[.int .i64 p, .int .i64 L, .int .i64 q, .int .i64 M] 41)) (some ⟨w.heap.size, 0, none⟩) 2 [(p, L), (q, M)] := by
  refine ⟨fun j hj => ⟨w.heap.size, 0, rfl, ?_⟩, rfl, by omega⟩
  have hb : (w.alloc (.cells #[.int .i64 p, .int .i64 L, .int .i64 q, .int .i64 M] 41)).heap[w.heap.size]? = some (.cells #[.int .i64 p, .int .i64 L, .int .i64 q, .int .i64 M] 41 (0, 0)) := heap_alloc_new w _
  rcases (show j = 0 ∨ j = 1 by simp at hj; omega) with rfl | rfl <;> constructor <;> (unfold World.cell?; rw [hb]; rfl)
theorem one_arg (w : World) (p L : Int) : VArg (w.alloc (.cells #[.int .i64 p, .int .i64 L] 41)) (some ⟨w.heap.size, 0, none⟩) 1 [(p, L)] := by
  refine ⟨fun j hj => ⟨w.heap.size, 0, rfl, ?_⟩, rfl, by omega⟩
  have hb : (w.alloc (.cells #[.int .i64 p, .int .i64 L] 41)).heap[w.heap.size]? = some (.cells #[.int .i64 p, .int .i64 L] 41 (0, 0)) := heap_alloc_new w _
  obtain rfl : j = 0 := by simp at hj; omega
  constructor <;> (unfold World.cell?; rw [hb]; rfl)
theorem hear_first {w wr : World} {b : Nat} {p q L : Int} {i : Nat} (h : One w wr b p q L i) (hF : Fit p q L) :
    Calls Try.prog 12 #[.pointer (some ⟨b, 0, none⟩), .slice (some ⟨wr.heap.size, 0, none⟩) 2 2] (wr.alloc (.cells #[.int .i64 p, .int .i64 L, .int .i64 q, .int .i64 0] 41)) fun e w' => e = .returned .nilIface ∧ w'.cell? ⟨b, 1, none⟩ = some (.int .i64 p) ∧ Hid (One w w' b p q L (i + 1)) := by
  obtain ⟨mo, sp, h1, h2, h3⟩ := h.at_
  have hV : VAt (wr.alloc (.cells #[.int .i64 p, .int .i64 L, .int .i64 q, .int .i64 0] 41)) b mo 2 sp (two p q (up L i) 0) := h1.below ((Below.refl _ _).alloc (Nat.le_refl _) _)
  have hz := hF.hear1 (up L i)
  have hn : nx (two p q (up L i) 0) [(p, L), (q, 0)] = two p q (up L (i + 1)) 0 := by rw [nx_first hF.ne]; rfl
  have hl0 := hF.l0
  have hb := up_pos (show 0 < L by omega) i
  have hh := up_hi hF.l1 (i + 1)
  have hk : Ok (two p q (up L (i + 1)) 0) := hF.ok ⟨by omega, hh⟩ ⟨by omega, by omega⟩
  have hsp : spk (two p q (up L (i + 1)) 0) sp = p := spk_one hk hF.ne hb h3
  refine (hear_calls b 2 2 mo _ 2 sp _ [(p, L), (q, 0)] _ hV h2 (two_arg wr p q L 0)).mono ?_
  rintro e w' ⟨rfl, mo', g1, g2, _⟩
  unfold stS stF at g1
  rw [hz, if_pos rfl, if_pos rfl, hn, hsp] at g1
  rw [hz]
  have hi := inv_nx h2 hz
  rw [hn, hsp] at hi
  exact ⟨rfl, g1.cells.2.1, ⟨⟨mo', p, g1, hi, .inl rfl⟩, (below_alloc h.bel _).trans (g2.below (below_alloc h.bel _).size (by simp; exact h.lo)), h.lo⟩⟩
/-- the later rounds: i have been; is it taken -/
structure Two (w wr : World) (b : Nat) (p q L : Int) (i : Nat) (t : Bool) : Prop where
  at_ : ∃ mo A, VAt wr b mo 2 (if t = true then q else p) (two p q A (up L i)) ∧ Inv (two p q A (up L i)) (if t = true then q else p) ∧ 0 ≤ A ∧ A ≤ dn i ∧ (t = true → A ≤ up L i)
  fin : i = 40 → t = true
  bel : Below w.heap.size w wr
  lo : w.heap.size ≤ b
theorem dn_le : ∀ i, dn i ≤ 16256
  | 0 => by simp [dn]
  | i + 1 => by have := dec_le (dn_lo i); have := dn_le i; show dec (dn i) ≤ 16256; omega
theorem One.two {w wr : World} {b : Nat} {p q L : Int} (h : One w wr b p q L 10) (hF : Fit p q L) (hc : wr.cell? ⟨b, 1, none⟩ = some (.int .i64 p)) : Two w wr b p q L 0 false := by
  obtain ⟨mo, sp, h1, h2, h3⟩ := h.at_
  have hl0 := hF.l0
  have e : sp = p := by have := h1.cells.2.1; rw [hc] at this; simpa using this.symm
  rw [e] at h1 h2
  exact ⟨⟨mo, up L 10, by simpa [up] using h1, by simpa [up] using h2, up_lo (by omega) 10, up_hi hF.l1 10, by simp⟩, by simp, h.bel, h.lo⟩
theorem hear_second {w wr : World} {b : Nat} {p q L : Int} {i : Nat} {t : Bool} (h : Two w wr b p q L i t) (hF : Fit p q L) :
    Calls Try.prog 12 #[.pointer (some ⟨b, 0, none⟩), .slice (some ⟨wr.heap.size, 0, none⟩) 1 1] (wr.alloc (.cells #[.int .i64 q, .int .i64 L] 41)) fun e w' => e = .returned .nilIface ∧ ∃ t' : Bool, (t = true → t' = true) ∧ w'.cell? ⟨b, 1, none⟩ = some (.int .i64 (if t' = true then q else p)) ∧ Hid (Two w w' b p q L (i + 1) t') := by
  obtain ⟨mo, A, h1, h2, h3, h4, h5⟩ := h.at_
  have hV : VAt (wr.alloc (.cells #[.int .i64 q, .int .i64 L] 41)) b mo 2 (if t = true then q else p) (two p q A (up L i)) := h1.below ((Below.refl _ _).alloc (Nat.le_refl _) _)
  have hz := hF.hear2 A (up L i)
  have hn : nx (two p q A (up L i)) [(q, L)] = two p q (dec A) (up L (i + 1)) := by rw [nx_second hF.ne]; rfl
  have hl0 := hF.l0
  have hb := up_pos (show 0 < L by omega) i
  have hh := up_hi hF.l1 (i + 1)
  have d0 := dec_lo h3
  have d1 := dec_le h3
  have d2 : dec A ≤ dn (i + 1) := dec_mono h4
  have d3 := dn_le (i + 1)
  have hk : Ok (two p q (dec A) (up L (i + 1))) := hF.ok ⟨d0, by omega⟩ ⟨by omega, hh⟩
  have hu := up_step (show 0 ≤ L by omega) i
  have key : ∃ t' : Bool, (t = true → t' = true) ∧ spk (two p q (dec A) (up L (i + 1))) (if t = true then q else p) = (if t' = true then q else p) ∧ (t' = true → dec A ≤ up L (i + 1)) ∧ (i + 1 = 40 → t' = true) := by
    cases t with
    | true =>
      have h6 := h5 rfl
      exact ⟨true, fun _ => rfl, spk_b hk hF.ne d0 hb (by omega), fun _ => by omega, fun _ => rfl⟩
    | false =>
      by_cases c : dec A = 0 ∨ up L (i + 1) > dec A + 200
      · exact ⟨true, fun _ => rfl, by simp only [Bool.false_eq_true, if_false, if_true]; rw [spk_a hk hF.ne d0 hb, if_pos c], fun _ => by omega, fun _ => rfl⟩
      · refine ⟨false, by simp, by simp only [Bool.false_eq_true, if_false]; rw [spk_a hk hF.ne d0 hb, if_neg c], by simp, fun e => ?_⟩
        exfalso
        apply c
        right
        rw [e] at d2 ⊢
        have m1 := up_mono hl0 40
        have m2 := up_end
        have m3 := dn_mid
        omega
  obtain ⟨t', k1, k2, k3, k4⟩ := key
  refine (hear_calls b 1 1 mo _ 2 _ _ [(q, L)] _ hV h2 (one_arg wr q L)).mono ?_
  rintro e w' ⟨rfl, mo', g1, g2, _⟩
  unfold stS stF at g1
  rw [hz, if_pos rfl, if_pos rfl, hn, k2] at g1
  rw [hz]
  have hi := inv_nx h2 hz
  rw [hn, k2] at hi
  exact ⟨rfl, t', k1, g1.cells.2.1, ⟨⟨mo', dec A, g1, hi, d0, d2, k3⟩, k4, (below_alloc h.bel _).trans (g2.below (below_alloc h.bel _).size (by simp; exact h.lo)), h.lo⟩⟩
theorem new_one (w : World) (p q L : Int) : Calls Try.prog 11 #[.int .i64 2] w fun e w' => e = .returned (.tuple #[.pointer (some ⟨w.heap.size, 0, none⟩), .nilIface]) ∧ Hid (Fit p q L → One w w' w.heap.size p q L 0) ∧ Below w.heap.size w w' := by
  refine (new_ok 2 w (by omega) (by omega)).mono ?_
  rintro e w' ⟨rfl, h1, h2⟩
  refine ⟨rfl, fun hF => ⟨⟨none, -1, ?_, ?_, .inr ?_⟩, h2, Nat.le_refl _⟩, h2⟩
  · show VAt w' w.heap.size none 2 (-1) (two p q 0 0)
    rw [two_zero]; exact h1
  · show Inv (two p q 0 0) (-1)
    rw [two_zero]; exact inv_zero
  · have := hF.p0; have := hF.q0
    exact two_o (by omega) (by omega) _ _
set_option maxHeartbeats 1000000 in
theorem walk_out (p q L : Int) (w : World) (h : ¬ Fit p q L) :
    Calls Try.prog 6 #[.int .i64 p, .int .i64 q, .int .i64 L] w fun e w' => e = .returned (.bool true) ∧ Below w.heap.size w w' := by
  have HN := hidden (new_one w p q L)
  by_cases h0 : p < 0
  · have d0 : decide (p < 0) = true := by simpa using h0
    clear h
    go_enter Try.func6, Try.ntmps6
    go_wp2_with fail
    refine HN.out.mono ?_
    rintro e w1 ⟨rfl, _, hb⟩
    have HB := hidden hb
    clear hb HN
    go_wp2_with fail
    go_ret
    exact ⟨rfl, HB.out⟩
  · have d0 : decide (p < 0) = false := by simpa using h0
    by_cases h1 : 200 < p
    · have d1 : decide (200 < p) = true := by simpa using h1
      clear h
      go_enter Try.func6, Try.ntmps6
      go_wp2_with fail
      refine HN.out.mono ?_
      rintro e w1 ⟨rfl, _, hb⟩
      have HB := hidden hb
      clear hb HN
      go_wp2_with fail
      go_ret
      exact ⟨rfl, HB.out⟩
    · have d1 : decide (200 < p) = false := by simpa using h1
      by_cases h2 : q < 0
      · have d2 : decide (q < 0) = true := by simpa using h2
        clear h
        go_enter Try.func6, Try.ntmps6
        go_wp2_with fail
        refine HN.out.mono ?_
        rintro e w1 ⟨rfl, _, hb⟩
        have HB := hidden hb
        clear hb HN
        go_wp2_with fail
        go_ret
        exact ⟨rfl, HB.out⟩
      · have d2 : decide (q < 0) = false := by simpa using h2
        by_cases h3 : 200 < q
        · have d3 : decide (200 < q) = true := by simpa using h3
          clear h
          go_enter Try.func6, Try.ntmps6
          go_wp2_with fail
          refine HN.out.mono ?_
          rintro e w1 ⟨rfl, _, hb⟩
          have HB := hidden hb
          clear hb HN
          go_wp2_with fail
          go_ret
          exact ⟨rfl, HB.out⟩
        · have d3 : decide (200 < q) = false := by simpa using h3
          by_cases h4 : p = q
          · have d4 : (p == q) = true := by simpa using h4
            clear h4
            clear h
            go_enter Try.func6, Try.ntmps6
            go_wp2_with fail
            refine HN.out.mono ?_
            rintro e w1 ⟨rfl, _, hb⟩
            have HB := hidden hb
            clear hb HN
            go_wp2_with fail
            go_ret
            exact ⟨rfl, HB.out⟩
          · have d4 : (p == q) = false := by simpa using h4
            clear h4
            by_cases h5 : L < 20
            · have d5 : decide (L < 20) = true := by simpa using h5
              clear h
              go_enter Try.func6, Try.ntmps6
              go_wp2_with fail
              refine HN.out.mono ?_
              rintro e w1 ⟨rfl, _, hb⟩
              have HB := hidden hb
              clear hb HN
              go_wp2_with fail
              go_ret
              exact ⟨rfl, HB.out⟩
            · have d5 : decide (L < 20) = false := by simpa using h5
              have h6 : 127 < L := by
                apply Classical.byContradiction
                intro c
                exact h ⟨by omega, by omega, by omega, by omega, by simpa using d4, by omega, by omega⟩
              have d6 : decide (127 < L) = true := by simpa using h6
              clear h
              go_enter Try.func6, Try.ntmps6
              go_wp2_with fail
              refine HN.out.mono ?_
              rintro e w1 ⟨rfl, _, hb⟩
              have HB := hidden hb
              clear hb HN
              go_wp2_with fail
              go_ret
              exact ⟨rfl, HB.out⟩
set_option maxHeartbeats 2000000 in
set_option maxRecDepth 100000 in
theorem walk_in (p q L : Int) (w : World) (hF : Fit p q L) :
    Calls Try.prog 6 #[.int .i64 p, .int .i64 q, .int .i64 L] w fun e w' => e = .returned (.bool true) ∧ Below w.heap.size w w' := by
  have HN := hidden (new_one w p q L)
  have HF := hidden hF
  have d0 : decide (p < 0) = false := by have := hF.p0; simp; omega
  have d1 : decide (200 < p) = false := by have := hF.p1; simp; omega
  have d2 : decide (q < 0) = false := by have := hF.q0; simp; omega
  have d3 : decide (200 < q) = false := by have := hF.q1; simp; omega
  have d4 : (p == q) = false := by have := hF.ne; simpa using this
  have d5 : decide (L < 20) = false := by have := hF.l0; simp; omega
  have d6 : decide (127 < L) = false := by have := hF.l1; simp; omega
  have dqp : (q == p) = false := by have := hF.ne; simp; exact fun e => this e.symm
  clear hF
  go_enter Try.func6, Try.ntmps6
  go_wp2_with fail
  refine HN.out.mono ?_
  rintro e w1 ⟨rfl, h1, _⟩
  have H1 := hidden (h1.out HF.out)
  clear h1 HN
  obtain ⟨b, hb⟩ : ∃ b, w.heap.size = b := ⟨_, rfl⟩
  rw [hb] at H1
  rw [hb]
  have HW : Hid (w.heap.size = b) := hb
  clear hb
  go_wp2_with fail
  go_loopg [8, 9] 10 (fun g x y wr => ∃ i : Nat, i + g = 10 ∧ x = .nilIface ∧ y = .int .i64 (i : Int) ∧ Hid (One w wr b p q L i ∧ (0 < i → wr.cell? ⟨b, 1, none⟩ = some (.int .i64 p))))
  case atStart => exact ⟨0, by omega, rfl, rfl, H1.out, by simp⟩
  case round =>
    obtain ⟨i, hig, rfl, rfl, HS⟩ := hrel
    clear H1
    by_cases hi : i < 10
    · have hiz : (i : Int) < 10 := by omega
      have HC := hidden (hear_first HS.out.1 HF.out)
      go_wp2_with fail
      refine HC.out.mono ?_
      rintro e w2 ⟨rfl, hc, h2⟩
      have HSp := hidden (speaker_calls b p w2 hc)
      have HC2 := hidden hc
      clear HC hc HS
      go_wp2_with fail
      refine HSp.out.mono ?_
      rintro e w3 ⟨rfl, rfl⟩
      go_wp2_with fail
      go_roundg (10 - (i + 1))
      case measure => omega
      case rel => exact ⟨i + 1, by omega, rfl, by go_num, h2.out, fun _ => HC2.out⟩
    · have hiz : ¬ (i : Int) < 10 := by omega
      obtain rfl : i = 10 := by omega
      have HT := hidden (HS.out.1.two HF.out (HS.out.2 (by omega)))
      clear HS hig hi
      go_wp2_with fail
      go_loopg [8, 10, 11] 40 (fun g x u y wr => ∃ (i : Nat) (t : Bool), i + g = 40 ∧ x = .nilIface ∧ u = .bool t ∧ y = .int .i64 (i : Int) ∧ Hid (Two w wr b p q L i t))
      case atStart => exact ⟨0, false, by omega, rfl, rfl, rfl, HT⟩
      case round =>
        obtain ⟨i, t, hig, rfl, rfl, rfl, HS⟩ := hrel
        clear HT
        by_cases hi : i < 40
        · have hiz2 : (i : Int) < 40 := by omega
          have HC := hidden (hear_second HS.out HF.out)
          go_wp2_with fail
          refine HC.out.mono ?_
          rintro e w2 ⟨rfl, t', ht, hc, h2⟩
          have HSp := hidden (speaker_calls b _ w2 hc)
          have HT2 := hidden ht
          clear HC hc HS ht
          cases t with
          | true =>
            obtain rfl : t' = true := HT2.out rfl
            simp only [if_true] at HSp
            go_wp2_with fail
            refine HSp.out.mono ?_
            rintro e w3 ⟨rfl, rfl⟩
            go_wp2_with fail
            refine HSp.out.mono ?_
            rintro e w3 ⟨rfl, rfl⟩
            go_wp2_with fail
            go_roundg (40 - (i + 1))
            case measure => omega
            case rel => exact ⟨i + 1, true, by omega, rfl, by simp, by go_num, h2⟩
          | false =>
            cases t' with
            | true =>
              simp only [if_true] at HSp
              go_wp2_with fail
              refine HSp.out.mono ?_
              rintro e w3 ⟨rfl, rfl⟩
              go_wp2_with fail
              go_roundg (40 - (i + 1))
              case measure => omega
              case rel => exact ⟨i + 1, true, by omega, rfl, by simp, by go_num, h2⟩
            | false =>
              simp only [Bool.false_eq_true, if_false] at HSp
              go_wp2_with fail
              refine HSp.out.mono ?_
              rintro e w3 ⟨rfl, rfl⟩
              go_wp2_with fail
              go_roundg (40 - (i + 1))
              case measure => omega
              case rel => exact ⟨i + 1, false, by omega, rfl, by first | rfl | simp [d4], by go_num, h2⟩
        · have hiz2 : ¬ (i : Int) < 40 := by omega
          obtain rfl : i = 40 := by omega
          obtain rfl : t = true := HS.out.fin rfl
          go_wp2_with fail
          go_ret
          exact ⟨rfl, HS.out.bel⟩
theorem walk (p q L : Int) (w : World) :
    Calls Try.prog 6 #[.int .i64 p, .int .i64 q, .int .i64 L] w fun e w' => e = .returned (.bool true) ∧ Below w.heap.size w w' := by
  by_cases h : Fit p q L
  · exact walk_in p q L w h
  · exact walk_out p q L w h
end Go.Proofs.Ytjhfjkacfnccdah.Loud
