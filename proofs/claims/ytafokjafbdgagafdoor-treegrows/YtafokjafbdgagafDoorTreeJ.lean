/-
  What Build and Cost of package tree return of anything. They change nothing that was there.
-/
import Derived.Test.YtafokjafbdgagafDoorTreeI
namespace Go.Proofs.YtafokjafbdgagafDoor.Tree
open Go.ChangeShapes Go.WideShapes Go.ChangeAt Go.RowKit Go.Proofs.YtafokjafbdgagafDoor.Mem Go.Proofs.YtafokjafbdgagafDoor.TM
set_option linter.unusedVariables false

/-- what Build gives -/
def BP (N r : Int) (L : List Ed) (p d : List Int) : Prop := (lf N L r ≠ 0 → p = [] ∧ d = []) ∧ (lf N L r = 0 → IsDist L N.toNat r.toNat d ∧ IsPars L d N.toNat p ∧ ∀ x, dg d x ≤ 16000000)
theorem BP.len {N r : Int} {L : List Ed} {p d : List Int} (h : BP N r L p d) : p.length ≤ 16 ∧ d.length ≤ 16 := by
  by_cases h0 : lf N L r = 0
  · obtain ⟨m, k, rfl, rfl, hk, hF⟩ := lf_zero h0
    obtain ⟨h1, h2, _⟩ := h.2 h0
    have e1 := h1.len
    have e2 := h2.len
    have := hF.hi
    rw [e1, e2]
    simp only [Int.toNat_natCast]
    exact ⟨this, this⟩
  · obtain ⟨rfl, rfl⟩ := h.1 h0
    simp
structure BQ (w w' : World) (N r : Int) (L : List Ed) (vp vd : Value) (p d : List Int) : Prop where
  bp : BP N r L p d
  bel : Below w.heap.size w w'
  own1 : w'.ownsRow w.heap.size 3 1 vp p.length (ic p)
  own2 : w'.ownsRow w.heap.size 3 1 vd d.length (ic d)
set_option maxHeartbeats 8000000 in
set_option maxRecDepth 100000 in
theorem build_calls (N r : Int) (a : Option Addr) (n cap : Nat) (L : List Ed) (w : World) (h : EArg w a n L) (hnc : n ≤ cap) :
    Calls Tryd.prog 28 #[.int .i64 N, .slice a n cap, .int .i64 r] w fun e w' => ∃ vp vd p d, e = .returned (.tuple #[vp, vd, errv (lf N L r)]) ∧ BQ w w' N r L vp vd p d := by
  have C := hidden (check_calls N a n cap L w h hnc)
  have HA := hidden h
  clear h
  by_cases h0 : ef N L = 0
  · rw [h0, errv_zero] at C
    have C2 := hidden (fun w => isNode_calls N r w)
    cases hi : isn N r with
    | false =>
      have hl : lf N L r = 1 := by unfold lf; rw [if_neg (by simpa using h0), if_pos hi]
      have HP : Hid (BP N r L [] []) := ⟨fun _ => ⟨rfl, rfl⟩, fun q => by omega⟩
      rw [hl]
      rw [hi] at C2
      clear hl hi h0
      go_enter Tryd.func28, Tryd.ntmps28
      go_wp2_with fail
      refine C.out.mono ?_
      rintro e w1 ⟨rfl, hw1⟩
      have HW := hidden hw1
      clear hw1
      go_wp2_with fail
      refine (C2.out _).mono ?_
      rintro e w2 ⟨rfl, rfl⟩
      go_wp2_with fail
      go_ret3
      exact ⟨_, _, [], [], rfl, HP.out, HW.out, World.ownsRow_nil _ _ _ _, World.ownsRow_nil _ _ _ _⟩
    | true =>
      have hl : lf N L r = 0 := by unfold lf; rw [if_neg (by simpa using h0), if_neg (by simp [hi])]
      obtain ⟨m, k, rfl, rfl, hk, hF⟩ := lf_zero hl
      have HP : Hid (∀ p d, IsDist L m k d → IsPars L d m p → (∀ x, dg d x ≤ 16000000) → BP (m : Int) (k : Int) L p d) := fun p d h1 h2 h3 => ⟨fun q => absurd hl q, fun _ => ⟨by simpa using h1, by simpa using h2, h3⟩⟩
      have HF := hidden hF
      have HL := hidden hl
      rw [hl]
      rw [hi] at C2
      rw [errv_zero]
      clear hl hi h0 hF
      have hz := zeroM
      go_enter Tryd.func28, Tryd.ntmps28
      go_wp2_with fail
      refine C.out.mono ?_
      rintro e w1 ⟨rfl, hw1⟩
      have HW1 := hidden hw1
      have HA1 := hidden (HA.out.below hw1)
      clear hw1
      go_wp2_with fail
      refine (C2.out _).mono ?_
      rintro e w1' ⟨rfl, rfl⟩
      have C3 := hidden (costsOf_calls a n cap L m w1' HA1.out HF.out.hi HF.out.ok)
      go_wp2_with fail
      refine C3.out.mono ?_
      rintro e w2 ⟨M, rfl, hM, hw2⟩
      have HW2 : Hid (Below w.heap.size w w2) := HW1.out.trans (hw2.mono HW1.out.size)
      have HM := hidden hM
      have HZ : Hid ((Tryd.prog.info? 92).map (·.size) = some M.size) := hidden (by rw [hM.1]; exact sizeM)
      have HD : Hid (zs.size = M.size) := hidden (by rw [hM.1]; simp [zs])
      clear hw2 hM C C2 C3 HW1 HA1
      go_upto_region 7 with (refine wpList_store_row rfl 92 _ _ rfl w2.heap.size M rfl rfl 92 zs (heap_alloc_new w2 _) HZ.out HD.out HM.out.one ?_)
      rw [World.setRow_alloc_new]
      obtain ⟨w3, hw3⟩ : ∃ w3, w2.alloc (.cells M 92) = w3 := ⟨_, rfl⟩
      have HW3 : Hid (Below w.heap.size w w3) := by rw [← hw3]; exact hidden (below_alloc HW2.out _)
      have HB3 : Hid (w3.heap[w2.heap.size]? = some (.cells M 92 (0, 0))) := by rw [← hw3]; exact hidden (heap_alloc_new w2 _)
      rw [hw3]
      clear hw3
      have C4 := hidden (leastWays_calls M m k L w3 HM.out HF.out hk)
      go_wp2_with (refine wpList_load_row rfl 92 _ rfl w2.heap.size rfl 92 M (0, 0) _ HB3.out Tryd.underlying92 rfl HZ.out ?_)
      refine C4.out.mono ?_
      rintro e w4 ⟨gd, d, rfl, ho4, hD, hbd, hb4⟩
      have HW4 : Hid (Below w.heap.size w w4) := HW3.out.trans (hb4.mono HW3.out.size)
      have HB4 : Hid (w4.heap[w2.heap.size]? = some (.cells M 92 (0, 0))) := (hb4.block _ (lt_of_block HB3.out)).trans HB3.out
      have HO4 : Hid (w4.ownsRow w.heap.size 3 1 (.slice (some ⟨gd, 0, none⟩) m m) m (ic d)) := own_base ho4 HW3.out.size
      have hI : IArg w4 (some ⟨gd, 0, none⟩) m d := by
        obtain ⟨a, cap, e, h1, _⟩ := own_ints ho4 (by have := HF.out.hi; omega)
        simp only [Value.slice.injEq] at e
        rw [e.1]; exact h1
      have HDD := hidden hD
      have HBD := hidden hbd
      have C5 := hidden (leastParents_calls M (some ⟨gd, 0, none⟩) m m L d w4 HM.out HF.out hI hD.low hbd)
      clear ho4 hD hbd hb4 hI C4 HW3 HB3
      go_wp2_with (refine wpList_load_row rfl 92 _ rfl w2.heap.size rfl 92 M (0, 0) _ HB4.out Tryd.underlying92 rfl HZ.out ?_)
      refine C5.out.mono ?_
      rintro e w5 ⟨gp, p, rfl, ho5, hP, hb5⟩
      have HQ : Hid (BQ w w5 (m : Int) (k : Int) L (.slice (some ⟨gp, 0, none⟩) m m) (.slice (some ⟨gd, 0, none⟩) m m) p d) := by
        refine ⟨HP.out p d HDD.out hP HBD.out, HW4.out.trans (hb5.mono HW4.out.size), ?_, ?_⟩
        · rw [hP.len]; exact own_base ho5 HW4.out.size
        · rw [HDD.out.len]; exact own_below HO4.out hb5
      clear ho5 hP hb5
      go_wp2_with fail
      go_ret3
      exact ⟨_, _, p, d, rfl, HQ.out⟩
  · have hl : lf N L r = ef N L := by unfold lf; rw [if_pos (by simpa using h0)]
    have HP : Hid (BP N r L [] []) := ⟨fun _ => ⟨rfl, rfl⟩, fun q => absurd (hl.symm.trans q) h0⟩
    rw [hl]
    rw [errv_pos h0] at C ⊢
    generalize ef N L = f at *
    clear hl
    go_enter Tryd.func28, Tryd.ntmps28
    go_wp2_with fail
    refine C.out.mono ?_
    rintro e w1 ⟨rfl, hw1⟩
    have HW := hidden hw1
    clear hw1
    go_wp2_with fail
    go_ret3
    exact ⟨_, _, [], [], rfl, HP.out, HW.out, World.ownsRow_nil _ _ _ _, World.ownsRow_nil _ _ _ _⟩
set_option maxHeartbeats 8000000 in
set_option maxRecDepth 100000 in
theorem cost_calls (N : Int) (a : Option Addr) (n cap : Nat) (L : List Ed) (ap : Option Addr) (np capp : Nat) (P : List Int) (w : World) (h : EArg w a n L) (hnc : n ≤ cap) (hp : IArg w ap np P) :
    Calls Tryd.prog 32 #[.int .i64 N, .slice a n cap, .slice ap np capp] w fun e w' => e = .returned (.tuple #[.int .i64 (cv N L P), errv (cf N L P)]) ∧ Below w.heap.size w w' := by
  have C := hidden (check_calls N a n cap L w h hnc)
  have HA := hidden h
  have HP := hidden hp
  have hl := hp.2.1
  clear h hp
  have hcv : cf N L P ≠ 0 → cv N L P = 0 := fun q => by unfold cv; rw [if_neg q]
  by_cases h0 : ef N L = 0
  · rw [h0, errv_zero] at C
    by_cases h1 : pf P = 0
    · have C2 : Hid (∀ w, IArg w ap np P → Calls Tryd.prog 52 #[.slice ap np capp] w fun e w' => e = .returned .nilIface ∧ Below w.heap.size w w') := fun w hw => by
        have := parents_calls ap np capp P w hw
        rw [h1, errv_zero] at this
        exact this
      by_cases h2 : (np : Int) = N
      · have hcf : cf N L P = if lk L P np = true then 5 else 0 := by unfold cf; rw [if_neg (by simpa using h0), if_neg (by simpa using h1), if_neg (by rw [hl]; simpa using h2), hl]
        obtain ⟨hN, hF⟩ := ef_zero.1 h0
        have hO := pf_zero.1 h1
        subst h2
        simp only [Int.toNat_natCast] at hF
        have HF := hidden hF
        have hn16 := hF.hi
        have HR := hidden hO.rng
        have HE : Hid (lk L P np = false → cf np L P = 0 ∧ cv np L P = sm L P np) := fun q => by
          have e : cf np L P = 0 := by rw [hcf, q, if_neg (by simp)]
          exact ⟨e, by unfold cv; rw [if_pos e, hl]⟩
        have HE5 : Hid (lk L P np = true → cf np L P = 5 ∧ cv np L P = 0) := fun q => by
          have e : cf np L P = 5 := by rw [hcf, if_pos q]
          exact ⟨e, hcv (by omega)⟩
        generalize cf (np : Int) L P = f at *
        generalize cv (np : Int) L P = cval at *
        clear h0 h1 hcf hF hO hcv hN
        have hz := zeroM
        go_enter Tryd.func32, Tryd.ntmps32
        go_wp2_with fail
        refine C.out.mono ?_
        rintro e w1 ⟨rfl, hw1⟩
        have HW1 := hidden hw1
        have HA1 := hidden (HA.out.below hw1)
        have HP1 := hidden (HP.out.below hw1)
        clear hw1
        go_wp2_with fail
        refine (C2.out _ HP1.out).mono ?_
        rintro e w2 ⟨rfl, hw2⟩
        have HW2 : Hid (Below w.heap.size w w2) := HW1.out.trans (hw2.mono HW1.out.size)
        have HA2 := hidden (HA1.out.below hw2)
        clear hw2 HA1 HP1 HW1
        have C3 := hidden (costsOf_calls a n cap L np w2 HA2.out HF.out.hi HF.out.ok)
        go_wp2_with fail
        refine C3.out.mono ?_
        rintro e w3 ⟨M, rfl, hM, hw3⟩
        have HW3 : Hid (Below w.heap.size w w3) := HW2.out.trans (hw3.mono HW2.out.size)
        have HM := hidden hM
        have HZ : Hid ((Tryd.prog.info? 92).map (·.size) = some M.size) := hidden (by rw [hM.1]; exact sizeM)
        have HD : Hid (zs.size = M.size) := hidden (by rw [hM.1]; simp [zs])
        clear hw3 hM C C2 C3 HA2 HW2
        go_upto_region 10 with (refine wpList_store_row rfl 92 _ _ rfl w3.heap.size M rfl rfl 92 zs (heap_alloc_new w3 _) HZ.out HD.out HM.out.one ?_)
        rw [World.setRow_alloc_new]
        obtain ⟨w4, hw4⟩ : ∃ w4, w3.alloc (.cells M 92) = w4 := ⟨_, rfl⟩
        have HW4 : Hid (Below w.heap.size w w4) := by rw [← hw4]; exact hidden (below_alloc HW3.out _)
        have HM4 : Hid (MB w4 w3.heap.size (fc L)) := by rw [← hw4]; exact hidden (MB.new HM.out)
        rw [hw4]
        clear hw4 HM HZ HD
        generalize w3.heap.size = gm at *
        have HP4 := hidden (HP.out.below HW4.out)
        have HL0 : Hid (lk L P 0 = false) := rfl
        go_wp2_with fail
        go_loopg [11, 35] np (fun g u v wr => ∃ j : Nat, j + g = np ∧ u = .int .i64 (sm L P j) ∧ v = .int .i64 (j : Int) ∧ Hid (lk L P j = false) ∧ w4 = wr)
        case atStart => exact ⟨0, by omega, rfl, rfl, HL0, rfl⟩
        case round =>
          obtain ⟨j, hjg, rfl, rfl, HL, rfl⟩ := hrel
          by_cases hj : j < np
          · have hjz : (j : Int) < (np : Int) := by omega
            have hj16 : (j : Int) < 16 := by omega
            obtain ⟨b, o, rfl, hcs⟩ := HP4.out.at (by omega)
            have c0 := hcs j hj
            have hr := HR.out j (by omega)
            have hsm : sm L P (j + 1) = sm L P j + (if dg P j < 0 then 0 else cst L j (dg P j)) := rfl
            have hlk : lk L P (j + 1) = (lk L P j || (decide (0 ≤ dg P j) && decide (cst L j (dg P j) = 0))) := rfl
            have hsr := sm_range HF.out.ok P j
            rw [HL.out, Bool.false_or] at hlk
            clear hcs
            by_cases hm : dg P j = -1
            · rw [hm] at c0
              rw [hm, if_pos (by omega)] at hsm
              rw [hm] at hlk
              have HS : Hid (sm L P j = sm L P (j + 1)) := by rw [hsm]; exact hidden (by omega)
              have HL1 : Hid (lk L P (j + 1) = false) := by rw [hlk]; exact hidden (by simp)
              clear hsm hlk hm hr
              go_wp2_with fail
              go_roundg (np - (j + 1))
              case measure => omega
              case rel => exact ⟨j + 1, by omega, by rw [HS.out], by go_num, HL1, rfl⟩
            · obtain ⟨q, hq⟩ : ∃ q : Nat, dg P j = (q : Int) := ⟨(dg P j).toNat, by omega⟩
              have m0 := HM4.out.cell (x := j) (y := q) (by omega) (by omega)
              rw [hq] at c0 hr hsm hlk
              rw [if_neg (by omega)] at hsm
              have hq16 : (q : Int) < 16 := by omega
              have hq1 : ((q : Int) == -1) = false := beq_eq_false_iff_ne.2 (by omega)
              have hco := cst_range HF.out.ok (j : Int) (q : Int)
              unfold fc at m0
              clear hq hm
              by_cases hc : cst L (j : Int) (q : Int) = 0
              · rw [hc] at m0
                have HX : Hid (lk L P np = true) := lk_mono (j := j + 1) (by rw [hlk, hc]; simp) (by omega)
                obtain ⟨rfl, rfl⟩ := HE5.out HX.out
                clear hco hc hsm hlk hsr hr
                go_wp2_with fail
                go_ret2
                exact ⟨rfl, HW4.out⟩
              · have hne : (cst L (j : Int) (q : Int) == 0) = false := beq_eq_false_iff_ne.2 hc
                have HL1 : Hid (lk L P (j + 1) = false) := by rw [hlk]; exact hidden (by simp [hc])
                have HS : Hid (sm L P j + cst L (j : Int) (q : Int) = sm L P (j + 1)) := hsm.symm
                have hwr : IntKind.i64.wrap (sm L P j + cst L (j : Int) (q : Int)) = sm L P j + cst L (j : Int) (q : Int) := wrap_id (by omega) (by omega)
                clear hsm hlk hco hsr hc
                generalize cst L (j : Int) (q : Int) = co at *
                generalize sm L P j = sj at *
                go_wp2_with fail
                go_roundg (np - (j + 1))
                case measure => omega
                case rel => exact ⟨j + 1, by omega, by rw [← HS.out], by go_num, HL1, rfl⟩
          · have hjz : ¬ (j : Int) < (np : Int) := by omega
            obtain rfl : j = np := by omega
            obtain ⟨rfl, rfl⟩ := HE.out HL.out
            go_wp2_with fail
            go_ret2
            exact ⟨rfl, HW4.out⟩
      · have hcf : cf N L P = 3 := by unfold cf; rw [if_neg (by simpa using h0), if_neg (by simpa using h1), if_pos (by rw [hl]; exact h2)]
        have hcv2 := hcv (by omega)
        rw [hcf, hcv2]
        have hne : ((np : Int) != N) = true := bne_iff_ne.2 h2
        clear hcf hcv hcv2 h0 h1
        go_enter Tryd.func32, Tryd.ntmps32
        go_wp2_with fail
        refine C.out.mono ?_
        rintro e w1 ⟨rfl, hw1⟩
        have HW1 := hidden hw1
        have HP1 := hidden (HP.out.below hw1)
        clear hw1
        go_wp2_with fail
        refine (C2.out _ HP1.out).mono ?_
        rintro e w2 ⟨rfl, hw2⟩
        have HW2 : Hid (Below w.heap.size w w2) := HW1.out.trans (hw2.mono HW1.out.size)
        clear hw2
        go_wp2_with fail
        go_ret2
        exact ⟨rfl, HW2.out⟩
    · have hcf : cf N L P = pf P := by unfold cf; rw [if_neg (by simpa using h0), if_pos (by simpa using h1)]
      have hcv2 := hcv (by omega)
      have C2 : Hid (∀ w, IArg w ap np P → Calls Tryd.prog 52 #[.slice ap np capp] w fun e w' => e = .returned (.iface 74 (.int .i64 (pf P : Int))) ∧ Below w.heap.size w w') := fun w hw => by
        have := parents_calls ap np capp P w hw
        rw [errv_pos h1] at this
        exact this
      rw [hcf, hcv2, errv_pos h1]
      generalize pf P = f at *
      clear hcf hcv hcv2 h0 h1
      go_enter Tryd.func32, Tryd.ntmps32
      go_wp2_with fail
      refine C.out.mono ?_
      rintro e w1 ⟨rfl, hw1⟩
      have HW1 := hidden hw1
      have HP1 := hidden (HP.out.below hw1)
      clear hw1
      go_wp2_with fail
      refine (C2.out _ HP1.out).mono ?_
      rintro e w2 ⟨rfl, hw2⟩
      have HW2 : Hid (Below w.heap.size w w2) := HW1.out.trans (hw2.mono HW1.out.size)
      clear hw2
      go_wp2_with fail
      go_ret2
      exact ⟨rfl, HW2.out⟩
  · have hcf : cf N L P = ef N L := by unfold cf; rw [if_pos (by simpa using h0)]
    have hcv2 := hcv (by omega)
    rw [hcf, hcv2]
    rw [errv_pos h0] at C ⊢
    generalize ef N L = f at *
    clear hcf hcv hcv2
    go_enter Tryd.func32, Tryd.ntmps32
    go_wp2_with fail
    refine C.out.mono ?_
    rintro e w1 ⟨rfl, hw1⟩
    have HW := hidden hw1
    clear hw1
    go_wp2_with fail
    go_ret2
    exact ⟨rfl, HW.out⟩
end Go.Proofs.YtafokjafbdgagafDoor.Tree
