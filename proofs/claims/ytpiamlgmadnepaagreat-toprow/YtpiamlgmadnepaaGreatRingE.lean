/-
  What Put of package ring returns of a packet that is new, and what it leaves in memory. Its condition: the ring keeps packets that a ring may keep.
-/
import Derived.Test.YtpiamlgmadnepaaGreatRingD
namespace Go.Proofs.YtpiamlgmadnepaaGreat.Ring
open Go.ChangeShapes Go.WideShapes Go.ChangeAt Go.RowKit Go.Maps Go.Proofs.YtpiamlgmadnepaaGreat.PM Go.Proofs.YtpiamlgmadnepaaGreat.Mem Go.Proofs.YtpiamlgmadnepaaGreat.Pack Go.Proofs.YtpiamlgmadnepaaGreat.RM
set_option linter.unusedVariables false


set_option maxHeartbeats 4000000 in
set_option maxRecDepth 100000 in
theorem put_new (b mb : Nat) (n T y s t l q : Int) (st : Bool) (a : Option Addr) (m cap : Nat) (L : List Nat) (M : Its) (w : World) (hR : RingAt w b mb n T M) (hI : RM.Inv n T M) (hA : Arg w a m L) (hN : a = none → m = 0 ∧ cap = 0)
    (h0 : 0 ≤ y) (h1 : y ≤ 1099511627776) (hf : fault s t l q m = 0) (ho : T - n < y) (hn : has M y = false) :
    Calls Tryz.prog 159 #[.pointer (some ⟨b, 0, none⟩), .int .i64 y, .agg #[.int .i64 s, .int .i64 t, .int .i64 l, .int .i64 q, .bool st, .slice a m cap]] w fun e w' => e = .returned (.tuple #[.bool true, .nilIface]) ∧
      RingAt w' b mb n (top T y) (keeps n (top T y) M ++ [(y, ⟨s, t, l, q, st, L, .slice a m cap⟩)]) ∧ Only [b, mb] w w' := by
  have C := fun w => check_calls s t l q st a m cap w
  rw [hf, errv_zero] at C
  have hm : m ≤ 1000 := by obtain ⟨_, _, _, _, _, _, _, _, _, _, _, _, hm⟩ := fault_zero hf; exact hm
  have HC := hidden C
  have HR := hidden hR
  have HI := hidden hI
  have HA := hidden hA
  have HN := hidden hN
  have hwf := wf_of (y := y) (by omega) (by omega)
  have ht1 := hI.t1
  have ht2 := hI.t2
  have hlen : M.length ≤ 64 := by have := hI.len; have := hI.n2; omega
  have hlt := hR.lt
  have hL := fun W (h : RingAt W b mb n T M) => look_none h hn hwf
  have HL := hidden hL
  have HH := hidden hn
  have d : decide (n ≤ T - y) = false := by simp; omega
  -- what apart does, and what the store behind it does
  have HF : Hid (∀ (T' : Int) (M' : Its) (W : World), has M' y = false → PSt w W b mb w.heap.size n T' M' a m L → Box W w.heap.size s t l q st (.slice a m cap) →
      Calls Tryz.prog 194 #[.agg #[.int .i64 s, .int .i64 t, .int .i64 l, .int .i64 q, .bool st, .slice a m cap]] W fun e w' => ∃ a' c' w2, e = .returned (.agg #[.int .i64 s, .int .i64 t, .int .i64 l, .int .i64 q, .bool st, .slice a' m c']) ∧
        (Instr.mapUpdate 268 (.map (some mb)) (.int .i64 y) (.agg #[.int .i64 s, .int .i64 t, .int .i64 l, .int .i64 q, .bool st, .slice a' m c'])).run Tryz.prog w' = .ok () w2 ∧
        Hid (RingAt w2 b mb n T' (M' ++ [(y, ⟨s, t, l, q, st, L, .slice a m cap⟩)]) ∧ Only [b, mb] w w2) ∧ (w'.cell? ⟨b, 2, none⟩ = some (.map (some mb)) ∧ w'.cell? ⟨w.heap.size, 0, none⟩ = some (.int .i64 s) ∧ w'.cell? ⟨w.heap.size, 1, none⟩ = some (.int .i64 t) ∧ w'.cell? ⟨w.heap.size, 2, none⟩ = some (.int .i64 l) ∧ w'.cell? ⟨w.heap.size, 3, none⟩ = some (.int .i64 q) ∧ w'.cell? ⟨w.heap.size, 4, none⟩ = some (.bool st) ∧ w'.cell? ⟨w.heap.size, 5, none⟩ = some (.slice a m cap)) ∧ (w2.cell? ⟨b, 2, none⟩ = some (.map (some mb)) ∧ w2.cell? ⟨w.heap.size, 0, none⟩ = some (.int .i64 s) ∧ w2.cell? ⟨w.heap.size, 1, none⟩ = some (.int .i64 t) ∧ w2.cell? ⟨w.heap.size, 2, none⟩ = some (.int .i64 l) ∧ w2.cell? ⟨w.heap.size, 3, none⟩ = some (.int .i64 q) ∧ w2.cell? ⟨w.heap.size, 4, none⟩ = some (.bool st) ∧ w2.cell? ⟨w.heap.size, 5, none⟩ = some (.slice a m cap))) := by
    refine hidden ?_
    intro T' M' W hn' hP hX
    refine (apart_calls s t l q st a m cap L W hP.2.2.1 hN hm).mono ?_
    rintro e w' ⟨a', c', rfl, hown, hb⟩
    have hP' : PSt w w' b mb w.heap.size n T' M' a m L := ⟨hP.1.below hb, hP.2.1.trans (Only.of_below hb _), hP.2.2.1.below hb, by obtain ⟨cs, h⟩ := hP.2.2.2.1; exact ⟨cs, (hb.block _ (lt_of_block h)).trans h⟩, hP.2.2.2.2⟩
    have hX' := hX.below hb hX.lt
    obtain ⟨w2, h1, h2, h3, h4⟩ := pst_store (p := ⟨s, t, l, q, st, L, .slice a m cap⟩) hP' hn' hwf hA.1.1 hm hown
    have hX2 : Box w2 w.heap.size s t l q st (.slice a m cap) := h4.block hX' (by simp; omega)
    exact ⟨a', c', w2, rfl, h1, ⟨h2, h3⟩, ⟨hP'.1.cells.2.2, hX'.cells⟩, ⟨h2.cells.2.2, hX2.cells⟩⟩
  clear C hR hI hA hN hf hL hn
  have hM' := has_keeps (n := n) (T := top T y) HH.out
  have hlen' : (keeps n (top T y) M).length ≤ 64 := Nat.le_trans (List.length_filter_le _ _) hlen
  generalize hT : top T y = T' at *
  generalize hM : keeps n T' M = M' at *
  have HT := hidden hT
  have HM := hidden hM
  have HM' := hidden hM'
  clear hT hM hM'
  go_enter Tryz.func159, Tryz.ntmps159
  go_wp2_with fail
  refine (HC.out _).mono ?_
  rintro e w1 ⟨rfl, hb1⟩
  have HX1 := hidden ((Box.new w s t l q st (.slice a m cap)).below hb1 (by simp))
  have HB := hidden (below_old hb1)
  clear hb1
  obtain ⟨c0, c1, c2⟩ := (HR.out.below HB.out).cells
  go_wp2_with fail
  refine (isGone_calls b n T y _ (by exact c0) (by exact c1) ht1 ht2 h0 h1).mono ?_
  rintro e w2 ⟨rfl, k, hk⟩
  rw [d]
  have HB2 : Hid (Below w.heap.size w w2) := by rw [hk]; exact below_drewN HB.out k
  have HX2 : Hid (Box w2 w.heap.size s t l q st (.slice a m cap)) := by rw [hk]; exact HX1.out
  clear hk HB HX1 c0 c1 c2
  have hl := HL.out w2 (HR.out.below HB2.out)
  obtain ⟨c0, c1, c2⟩ := (HR.out.below HB2.out).cells
  have d1 := fun O => cell_alloc c1 O
  by_cases hu : T < y
  · go_wp2_with fail
    refine (rise_calls b mb n T y M _ ((HR.out.below HB2.out).below ((Below.refl _ _).alloc (Nat.le_refl _) _)) HI.out hu h1).mono ?_
    rintro e w3 ⟨rfl, hR3, hO3⟩
    have HP : Hid (PSt w w3 b mb w.heap.size n T' M' a m L) := by
      have ht : T' = y := by rw [← HT.out]; simp [top, hu]
      have hO : Only [b, mb] w w3 := (Only.of_below (HB2.out.alloc HB2.out.size _) _).trans hO3
      refine ⟨by rw [← HM.out, ht]; exact hR3, hO, arg_ring HR.out HA.out hO, ⟨_, hO3.block (HX2.out.alloc _) (by simp; omega)⟩, hlen'⟩
    have HX3 : Hid (Box w3 w.heap.size s t l q st (.slice a m cap)) := hO3.block (HX2.out.alloc _) (by simp; omega)
    clear hR3 hO3 HX2 hl c0 c1 c2 d1
    go_wp2_with fail
    have HF3 := hidden (HF.out T' M' w3.drew HM'.out HP.out HX3.out)
    have hS0 : (w3.drew.cell? ⟨b, 2, none⟩ = some (.map (some mb)) ∧ w3.drew.cell? ⟨w.heap.size, 0, none⟩ = some (.int .i64 s) ∧ w3.drew.cell? ⟨w.heap.size, 1, none⟩ = some (.int .i64 t) ∧ w3.drew.cell? ⟨w.heap.size, 2, none⟩ = some (.int .i64 l) ∧ w3.drew.cell? ⟨w.heap.size, 3, none⟩ = some (.int .i64 q) ∧ w3.drew.cell? ⟨w.heap.size, 4, none⟩ = some (.bool st) ∧ w3.drew.cell? ⟨w.heap.size, 5, none⟩ = some (.slice a m cap)) := ⟨HP.out.1.cells.2.2, HX3.out.cells⟩
    clear HF HC HL
    go_region_held3 (fun w' => w'.cell? ⟨b, 2, none⟩ = some (.map (some mb)) ∧ w'.cell? ⟨w.heap.size, 0, none⟩ = some (.int .i64 s) ∧ w'.cell? ⟨w.heap.size, 1, none⟩ = some (.int .i64 t) ∧ w'.cell? ⟨w.heap.size, 2, none⟩ = some (.int .i64 l) ∧ w'.cell? ⟨w.heap.size, 3, none⟩ = some (.int .i64 q) ∧ w'.cell? ⟨w.heap.size, 4, none⟩ = some (.bool st) ∧ w'.cell? ⟨w.heap.size, 5, none⟩ = some (.slice a m cap)) (with_reducible assumption) (first | (go_at_call 194; refine HF3.out.mono ?_; rintro e w4 ⟨a', c', w5, rfl, hmu, HQ, hS4, hS5⟩))
    go_wp2_with fail
    go_ret2
    exact ⟨rfl, HQ.out⟩
  · go_wp2_with fail
    obtain ⟨w3, hw3⟩ : ∃ w3, w2.alloc (.cells #[.int .i64 0, .int .i64 0, .int .i64 0, .int .i64 0, .bool false, .slice none 0 0] 38) = w3 := ⟨_, rfl⟩
    rw [hw3]
    have HP : Hid (PSt w w3 b mb w.heap.size n T' M' a m L) := by
      have ht : T' = T := by rw [← HT.out]; simp [top]; omega
      have hB3 : Below w.heap.size w w3 := by rw [← hw3]; exact HB2.out.alloc HB2.out.size _
      refine ⟨by rw [← HM.out, ht, keeps_same HI.out]; exact HR.out.below hB3, Only.of_below hB3 _, HA.out.below hB3, ⟨_, by rw [← hw3]; exact HX2.out.alloc _⟩, hlen'⟩
    have HX3 : Hid (Box w3 w.heap.size s t l q st (.slice a m cap)) := by rw [← hw3]; exact HX2.out.alloc _
    clear hw3 HX2 hl c0 c1 c2 d1
    have HF3 := hidden (HF.out T' M' w3.drew HM'.out HP.out HX3.out)
    have hS0 : (w3.drew.cell? ⟨b, 2, none⟩ = some (.map (some mb)) ∧ w3.drew.cell? ⟨w.heap.size, 0, none⟩ = some (.int .i64 s) ∧ w3.drew.cell? ⟨w.heap.size, 1, none⟩ = some (.int .i64 t) ∧ w3.drew.cell? ⟨w.heap.size, 2, none⟩ = some (.int .i64 l) ∧ w3.drew.cell? ⟨w.heap.size, 3, none⟩ = some (.int .i64 q) ∧ w3.drew.cell? ⟨w.heap.size, 4, none⟩ = some (.bool st) ∧ w3.drew.cell? ⟨w.heap.size, 5, none⟩ = some (.slice a m cap)) := ⟨HP.out.1.cells.2.2, HX3.out.cells⟩
    clear HF HC HL
    go_region_held3 (fun w' => w'.cell? ⟨b, 2, none⟩ = some (.map (some mb)) ∧ w'.cell? ⟨w.heap.size, 0, none⟩ = some (.int .i64 s) ∧ w'.cell? ⟨w.heap.size, 1, none⟩ = some (.int .i64 t) ∧ w'.cell? ⟨w.heap.size, 2, none⟩ = some (.int .i64 l) ∧ w'.cell? ⟨w.heap.size, 3, none⟩ = some (.int .i64 q) ∧ w'.cell? ⟨w.heap.size, 4, none⟩ = some (.bool st) ∧ w'.cell? ⟨w.heap.size, 5, none⟩ = some (.slice a m cap)) (with_reducible assumption) (first | (go_at_call 194; refine HF3.out.mono ?_; rintro e w4 ⟨a', c', w5, rfl, hmu, HQ, hS4, hS5⟩))
    go_wp2_with fail
    go_ret2
    exact ⟨rfl, HQ.out⟩
end Go.Proofs.YtpiamlgmadnepaaGreat.Ring

