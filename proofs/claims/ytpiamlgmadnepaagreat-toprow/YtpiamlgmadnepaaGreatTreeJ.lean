/-
  What Build and Cost of package tree return of anything. They change nothing that was there.
-/
import Derived.Test.YtpiamlgmadnepaaGreatTreeI
namespace Go.Proofs.YtpiamlgmadnepaaGreat.Tree
open Go.ChangeShapes Go.WideShapes Go.ChangeAt Go.RowKit Go.Proofs.YtpiamlgmadnepaaGreat.Mem Go.Proofs.YtpiamlgmadnepaaGreat.TM
set_option linter.unusedVariables false

/-- what Build gives -/
def BP (N r : Int) (L : List Ed) (p d : List Int) : Prop := (lf N L r ≠ 0 → p = [] ∧ d = []) ∧ (lf N L r = 0 → IsDist L N.toNat r.toNat d ∧ IsPars L d N.toNat p ∧ ∀ x, dg d x ≤ 16000000)
theorem BP.len {N r : Int} {L : List Ed} {p d : List Int} (h : BP N r L p d) : p.length ≤ 16 ∧ d.length ≤ 16 := by
  by_cases h0 : lf N L r = 0
  · obtain ⟨m, k, rfl, rfl, hk, hF⟩ := lf_zero h0
    obtain ⟨h1, h2, _⟩ := h.2 h0
    have e1 := h1.len
    have e2 := h2.len
    have := hF.hi
    rw [e1, e2]
    simp only [Int.toNat_natCast]
    exact ⟨this, this⟩
  · obtain ⟨rfl, rfl⟩ := h.1 h0
    simp
structure BQ (w w' : World) (N r : Int) (L : List Ed) (vp vd : Value) (p d : List Int) : Prop where
  bp : BP N r L p d
  bel : Below w.heap.size w w'
  own1 : w'.ownsRow w.heap.size 3 1 vp p.length (ic p)
  own2 : w'.ownsRow w.heap.size 3 1 vd d.length (ic d)
set_option maxHeartbeats 8000000 in
set_option maxRecDepth 100000 in
theorem build_calls (N r : Int) (a : Option Addr) (n cap : Nat) (L : List Ed) (w : World) (h : EArg w a n L) (hnc : n ≤ cap) :
    Calls Tryz.prog 16 #[.int .i64 N, .slice a n cap, .int .i64 r] w fun e w' => ∃ vp vd p d, e = .returned (.tuple #[vp, vd, errv (lf N L r)]) ∧ BQ w w' N r L vp vd p d := by
  have C := hidden (check_calls N a n cap L w h hnc)
  have HA := hidden h
  clear h
  by_cases h0 : ef N L = 0
  · rw [h0, errv_zero] at C
    have C2 := hidden (fun w => isNode_calls N r w)
    cases hi : isn N r with
    | false =>
      have hl : lf N L r = 1 := by unfold lf; rw [if_neg (by simpa using h0), if_pos hi]
      have HP : Hid (BP N r L [] []) := ⟨fun _ => ⟨rfl, rfl⟩, fun q => by omega⟩
      rw [hl]
      rw [hi] at C2
      clear hl hi h0
      go_enter Tryz.func16, Tryz.ntmps16
      go_wp2_with fail
      refine C.out.mono ?_
      rintro e w1 ⟨rfl, hw1⟩
      have HW := hidden hw1
      clear hw1
      go_wp2_with fail
      refine (C2.out _).mono ?_
      rintro e w2 ⟨rfl, rfl⟩
      go_wp2_with fail
      go_ret3
      exact ⟨_, _, [], [], rfl, HP.out, HW.out, World.ownsRow_nil _ _ _ _, World.ownsRow_nil _ _ _ _⟩
    | true =>
      have hl : lf N L r = 0 := by unfold lf; rw [if_neg (by simpa using h0), if_neg (by simp [hi])]
      obtain ⟨m, k, rfl, rfl, hk, hF⟩ := lf_zero hl
      have HP : Hid (∀ p d, IsDist L m k d → IsPars L d m p → (∀ x, dg d x ≤ 16000000) → BP (m : Int) (k : Int) L p d) := fun p d h1 h2 h3 => ⟨fun q => absurd hl q, fun _ => ⟨by simpa using h1, by simpa using h2, h3⟩⟩
      have HF := hidden hF
      have HL := hidden hl
      rw [hl]
      rw [hi] at C2
      rw [errv_zero]
      clear hl hi h0 hF
      have hz := zeroM
      go_enter Tryz.func16, Tryz.ntmps16
      go_wp2_with fail
      refine C.out.mono ?_
      rintro e w1 ⟨rfl, hw1⟩
      have HW1 := hidden hw1
      have HA1 := hidden (HA.out.below hw1)
      clear hw1
      go_wp2_with fail
      refine (C2.out _).mono ?_
      rintro e w1' ⟨rfl, rfl⟩
      have C3 := hidden (costsOf_calls a n cap L m w1' HA1.out HF.out.hi HF.out.ok)
      go_wp2_with fail
      refine C3.out.mono ?_
      rintro e w2 ⟨M, rfl, hM, hw2⟩
      have HW2 : Hid (Below w.heap.size w w2) := HW1.out.trans (hw2.mono HW1.out.size)
      have HM := hidden hM
      have HZ : Hid ((Tryz.prog.info? 115).map (·.size) = some M.size) := hidden (by rw [hM.1]; exact sizeM)
      have HD : Hid (zs.size = M.size) := hidden (by rw [hM.1]; simp [zs])
      clear hw2 hM C C2 C3 HW1 HA1
      go_upto_region 7 with (refine wpList_store_row rfl 115 _ _ rfl w2.heap.size M rfl rfl 115 zs (heap_alloc_new w2 _) HZ.out HD.out HM.out.one ?_)
      rw [World.setRow_alloc_new]
      obtain ⟨w3, hw3⟩ : ∃ w3, w2.alloc (.cells M 115) = w3 := ⟨_, rfl⟩
      have HW3 : Hid (Below w.heap.size w w3) := by rw [← hw3]; exact hidden (below_alloc HW2.out _)
      have HB3 : Hid (w3.heap[w2.heap.size]? = some (.cells M 115 (0, 0))) := by rw [← hw3]; exact hidden (heap_alloc_new w2 _)
      rw [hw3]
      clear hw3
      have C4 := hidden (leastWays_calls M m k L w3 HM.out HF.out hk)
      go_wp2_with (refine wpList_load_row rfl 115 _ rfl w2.heap.size rfl 115 M (0, 0) _ HB3.out Tryz.underlying115 rfl HZ.out ?_)
      refine C4.out.mono ?_
      rintro e w4 ⟨gd, d, rfl, ho4, hD, hbd, hb4⟩
      have HW4 : Hid (Below w.heap.size w w4) := HW3.out.trans (hb4.mono HW3.out.size)
      have HB4 : Hid (w4.heap[w2.heap.size]? = some (.cells M 115 (0, 0))) := (hb4.block _ (lt_of_block HB3.out)).trans HB3.out
      have HO4 : Hid (w4.ownsRow w.heap.size 3 1 (.slice (some ⟨gd, 0, none⟩) m m) m (ic d)) := own_base ho4 HW3.out.size
      have hI : IArg w4 (some ⟨gd, 0, none⟩) m d := by
        obtain ⟨a, cap, e, h1, _⟩ := own_ints ho4 (by have := HF.out.hi; omega)
        simp only [Value.slice.injEq] at e
        rw [e.1]; exact h1
      have HDD := hidden hD
      have HBD := hidden hbd
      have C5 := hidden (leastParents_calls M (some ⟨gd, 0, none⟩) m m L d w4 HM.out HF.out hI hD.low hbd)
      clear ho4 hD hbd hb4 hI C4 HW3 HB3
      go_wp2_with (refine wpList_load_row rfl 115 _ rfl w2.heap.size rfl 115 M (0, 0) _ HB4.out Tryz.underlying115 rfl HZ.out ?_)
      refine C5.out.mono ?_
      rintro e w5 ⟨gp, p, rfl, ho5, hP, hb5⟩
      have HQ : Hid (BQ w w5 (m : Int) (k : Int) L (.slice (some ⟨gp, 0, none⟩) m m) (.slice (some ⟨gd, 0, none⟩) m m) p d) := by
        refine ⟨HP.out p d HDD.out hP HBD.out, HW4.out.trans (hb5.mono HW4.out.size), ?_, ?_⟩
        · rw [hP.len]; exact own_base ho5 HW4.out.size
        · rw [HDD.out.len]; exact own_below HO4.out hb5
      clear ho5 hP hb5
      go_wp2_with fail
      go_ret3
      exact ⟨_, _, p, d, rfl, HQ.out⟩
  · have hl : lf N L r = ef N L := by unfold lf; rw [if_pos (by simpa using h0)]
    have HP : Hid (BP N r L [] []) := ⟨fun _ => ⟨rfl, rfl⟩, fun q => absurd (hl.symm.trans q) h0⟩
    rw [hl]
    rw [errv_pos h0] at C ⊢
    generalize ef N L = f at *
    clear hl
    go_enter Tryz.func16, Tryz.ntmps16
    go_wp2_with fail
    refine C.out.mono ?_
    rintro e w1 ⟨rfl, hw1⟩
    have HW := hidden hw1
    clear hw1
    go_wp2_with fail
    go_ret3
    exact ⟨_, _, [], [], rfl, HP.out, HW.out, World.ownsRow_nil _ _ _ _, World.ownsRow_nil _ _ _ _⟩
end Go.Proofs.YtpiamlgmadnepaaGreat.Tree

