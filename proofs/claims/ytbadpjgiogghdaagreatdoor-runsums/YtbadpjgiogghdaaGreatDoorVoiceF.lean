/-
  What Hear of package voice returns, and what it leaves in memory: one row, whatever is heard. Its condition: what is kept is such as it may be.
-/
import Derived.Test.YtbadpjgiogghdaaGreatDoorVoiceE
namespace Go.Proofs.YtbadpjgiogghdaaGreatDoor.Voice
open Go.ChangeShapes Go.WideShapes Go.ChangeAt Go.RowKit Go.Maps Go.Shelf Go.Proofs.YtbadpjgiogghdaaGreatDoor.Mem Go.Proofs.YtbadpjgiogghdaaGreatDoor.VO
set_option linter.unusedVariables false

theorem hear_long (b n cap : Nat) (a : Option Addr) (w : World) (hn : 200 < n) (hm : n ≤ 9223372036854775807) :
    Calls Tryz.prog 99 #[.pointer (some ⟨b, 0, none⟩), .slice a n cap] w fun e w' => e = .returned (errv 4) ∧ w' = w := by
  have d : decide (200 < (n : Int)) = true := by simp; omega
  go_enter Tryz.func99, Tryz.ntmps99
  go_wp2_with fail
  go_ret
  exact ⟨rfl, rfl⟩
set_option maxHeartbeats 1000000 in
theorem hear_bad (b n cap : Nat) (a : Option Addr) (l : Vs) (w : World) (hA : VArg w a n l) (hn : n ≤ 200) (hv : vf l ≠ 0) :
    Calls Tryz.prog 99 #[.pointer (some ⟨b, 0, none⟩), .slice a n cap] w fun e w' => e = .returned (errv (vf l)) ∧ Below w.heap.size w w' := by
  have HC := hidden (gains_calls a n cap l w hA)
  have d : decide (200 < (n : Int)) = false := by simp; omega
  obtain ⟨f, hf⟩ : ∃ f, vf l = f := ⟨_, rfl⟩
  rw [hf] at HC hv ⊢
  have hcm := fun w => cmp_ne f w
  have hgr := fun w => grd_ne f (.tmp 18) w
  have df : decide (f = 0) = false := by simpa using hv
  clear hf hA
  go_enter Tryz.func99, Tryz.ntmps99
  go_wp2_with fail
  refine HC.out.mono ?_
  rintro e w1 (⟨h0, _⟩ | ⟨_, rfl, hb⟩)
  · exact absurd h0 hv
  have HB := hidden hb
  clear hb HC hv
  go_wp2_with fail
  go_ret
  exact ⟨rfl, HB.out⟩
set_option maxHeartbeats 2000000 in
set_option maxRecDepth 100000 in
theorem hear_some (b n cap : Nat) (m : Nat) (a : Option Addr) (many sp : Int) (f : Sc) (l : Vs) (w : World) (hV : VAt w b (some m) many sp f) (hI : Inv f sp) (hA : VArg w a n l) (hn : n ≤ 200) (hv : vf l = 0) :
    Calls Tryz.prog 99 #[.pointer (some ⟨b, 0, none⟩), .slice a n cap] w fun e w' => (200 < (lst (nx f l)).length ∧ e = .returned (errv 4) ∧ Below w.heap.size w w') ∨ ((lst (nx f l)).length ≤ 200 ∧ e = .returned .nilIface ∧ VAt w' b (some w.heap.size) many (spk (nx f l) sp) (nx f l) ∧ Only [b] w w') := by
  have HC := hidden (gains_calls a n cap l w hA)
  have d : decide (200 < (n : Int)) = false := by simp; omega
  have hl := hA.2.1
  have HOl := hidden ((vf_ok l).1 hv)
  have HV := hidden hV
  have HI := hidden hI
  have hbl := hV.lt
  have hs0 : -1 ≤ sp ∧ sp ≤ 200 := by rcases hI.sp with ⟨_, h⟩ | ⟨h1, h2, _⟩ <;> omega
  have HN := hidden (ok_nx hI.ok HOl.out)
  have hv' := hv
  have hcc := hV.cells.2.2
  obtain ⟨q, hq⟩ : ∃ q, (lst (nx f l)).length = q := ⟨_, rfl⟩
  rw [hq]
  have HQ := hidden hq
  clear hA hV hI hq
  rcases HV.out.map with ⟨h3, _⟩ | ⟨m', D, h3, hown, hKM⟩
  · cases h3
  cases h3
  have HO := hidden hown
  have HK := hidden hKM
  have hml := hown.lt
  clear hown hKM
  go_enter Tryz.func99, Tryz.ntmps99
  go_wp2_with fail
  refine HC.out.mono ?_
  rintro e w1 (⟨_, rfl, hG⟩ | ⟨h0, _⟩)
  rotate_left
  · exact absurd hv' h0
  have HG := hidden hG
  have hcc1 := (HV.out.below hG.bel).cells.2.2
  have HO1 := hidden (map_only HO.out (Only.of_below hG.bel []) (by simp))
  have hs1 := hG.bel.size
  clear hG HC hcc
  go_wp2_with (at_range; refine wpList_range_own _ rfl _ 134 rfl 3 3 law3 Tryz.underlying134 _ m (Maps.size D) D rfl HO1.out ?_; intro w0 hrg0 hg0 hs0')
  go_frame
  have HS1 := hidden (HSt.start HG.out hl.symm hml HK.out rfl hg0 hrg0)
  obtain ⟨it, hit⟩ : ∃ it, w1.heap.size = it := ⟨_, rfl⟩
  rw [hit] at HS1 ⊢
  clear hrg0 hg0 hs0' HO1 hcc1 HG hit hs1
  go_loopw [] (fun wr => ∃ (left : Lit → Bool) (cnt : Nat), Hid (HSt w wr m it w.heap.size D f l left cnt)) (fun wr => wr.rangeLeft m it)
  case atStart => exact ⟨_, _, HS1⟩
  case round =>
    obtain ⟨left, cnt, HS⟩ := hrel
    clear HS1
    go_wp2_with (at_next; refine wpList_next_ranges _ rfl _ rfl 3 law3 inR (Value.int .i64) (Value.int .i64) (fun key kl hkey => by obtain ⟨x, rfl, _⟩ := Maps.keyOf_int_inv Tryz.underlying3 hkey; exact ⟨x, rfl⟩) (fun v y hv => by obtain ⟨⟨x, rfl⟩, _⟩ := inR_inv hv; exact ⟨x, rfl⟩) m it (Maps.size D) D left cnt rfl HS.out.ran ?_ ?_)
    · intro _ hl0
      obtain ⟨D1, hown1, hK1⟩ := HS.out.done hl0
      have HDel := hidden (del_calls w.heap.size D1 f l wr hown1 hK1)
      have HBR : Hid (Below w.heap.size w wr) := HS.out.bel
      clear hown1 hK1 hl0
      go_wp2_with fail
      refine HDel.out.mono ?_
      rintro e w3 ⟨rfl, ⟨D2, hown2, hK2⟩, hg3⟩
      have hb3 : Below w.heap.size w w3 := HBR.out.grown hg3 HBR.out.size (by intro k hk; simp at hk; omega)
      have HB3 := hidden hb3
      have HO2 := hidden hown2
      have HK2 := hidden hK2
      have HSZ := hidden (hK2.size (hown2.entries law3) HN.out)
      have HV3 := hidden (HV.out.below hb3)
      clear hown2 hK2 hg3 HDel hb3
      rw [HQ.out] at HSZ
      by_cases hq2 : 200 < q
      · have d2 : decide (200 < (q : Int)) = true := by simp; omega
        go_wp2_with (at_len; refine wpList_len_own _ rfl _ 134 rfl 3 3 Tryz.underlying134 _ w.heap.size (Maps.size D2) D2 rfl HO2.out ?_; rw [HSZ.out])
        go_ret
        exact .inl ⟨hq2, rfl, HB3.out⟩
      · have d2 : decide (200 < (q : Int)) = false := by simp; omega
        have hf2 := HV3.out.free 2
        have hc2 := HV3.out.cells.2.2
        have HV4 := hidden (HV3.out.setM HO2.out HK2.out)
        have HC5 := hidden (choose_calls b w.heap.size many sp (nx f l) _ HV4.out HN.out hs0.1 hs0.2)
        have HOn : Hid (Only [b] w (w3.setCell ⟨b, 2, none⟩ (.map (some w.heap.size)))) := (Only.of_below HB3.out [b]).setCell (by simp) _
        clear hbl
        go_wp2_with (at_len; refine wpList_len_own _ rfl _ 134 rfl 3 3 Tryz.underlying134 _ w.heap.size (Maps.size D2) D2 rfl HO2.out ?_; rw [HSZ.out])
        refine HC5.out.mono ?_
        rintro e w5 ⟨rfl, h5, h6⟩
        have H5 := hidden h5
        have H6 := hidden h6
        clear h5 h6 HC5
        go_wp2_with fail
        go_ret
        exact .inr ⟨by omega, rfl, H5.out, HOn.out.trans H6.out⟩
    · intro x c kl yd yp w2 cnt1 hkey hlk hv2 hat hrg1 hlt1 hg1 hs1 hen
      obtain ⟨x', ex, rfl, hwx⟩ := Maps.keyOf_int_inv Tryz.underlying3 hkey
      cases ex
      obtain ⟨i, hi, ei⟩ := (HK.out.keys (key x)).1 (has_true_of_atKey hat)
      obtain rfl := key_inj ei
      have ed := (inR_inv hv2).2
      simp only [Prod.mk.injEq] at ed
      have hfx : f x = c := by
        have := (HK.out.els x hi .nil).symm.trans ((hat .nil).trans ed.1)
        simpa using this
      have hz : c ≠ 0 := by rw [← hfx]; exact hi
      obtain ⟨hlook, w4, hrun, hS4⟩ := HS.out.step HOl.out HI.out.ok hrg1 hg1 hlk hfx hz
      have HS4 := hidden hS4
      have hc0 : 0 ≤ c := by rw [← hfx]; exact HI.out.ok.lo x
      have hc1 : c ≤ 16256 := by rw [← hfx]; exact HI.out.ok.hi x
      obtain ⟨u0, u1, _⟩ := lev_bound HOl.out x
      have HLE : Hid (cnt1 < cnt) := hlt1
      clear hS4 hrg1 hg1 hi ei ed hat hv2 hfx hlk hs1 hlt1 hz
      generalize lev l x = u at *
      unfold dec at hrun
      go_wp2_with fail
      go_roundw
      case rel => exact ⟨_, cnt1, HS4⟩
      case measure => rw [HS4.out.ran.left_eq, HS.out.ran.left_eq]; exact HLE.out
set_option maxHeartbeats 2000000 in
set_option maxRecDepth 100000 in
theorem hear_none (b n cap : Nat) (a : Option Addr) (many sp : Int) (f : Sc) (l : Vs) (w : World) (hV : VAt w b none many sp f) (hI : Inv f sp) (hA : VArg w a n l) (hn : n ≤ 200) (hv : vf l = 0) :
    Calls Tryz.prog 99 #[.pointer (some ⟨b, 0, none⟩), .slice a n cap] w fun e w' => (200 < (lst (nx f l)).length ∧ e = .returned (errv 4) ∧ Below w.heap.size w w') ∨ ((lst (nx f l)).length ≤ 200 ∧ e = .returned .nilIface ∧ VAt w' b (some w.heap.size) many (spk (nx f l) sp) (nx f l) ∧ Only [b] w w') := by
  have HC := hidden (gains_calls a n cap l w hA)
  have d : decide (200 < (n : Int)) = false := by simp; omega
  have hl := hA.2.1
  have HOl := hidden ((vf_ok l).1 hv)
  have HV := hidden hV
  have HI := hidden hI
  have hbl := hV.lt
  have hs0 : -1 ≤ sp ∧ sp ≤ 200 := by rcases hI.sp with ⟨_, h⟩ | ⟨h1, h2, _⟩ <;> omega
  have HN := hidden (ok_nx hI.ok HOl.out)
  have hv' := hv
  have hcc := hV.cells.2.2
  obtain ⟨q, hq⟩ : ∃ q, (lst (nx f l)).length = q := ⟨_, rfl⟩
  rw [hq]
  have HQ := hidden hq
  clear hA hV hI hq
  have h0x : ∀ x, f x = 0 := by
    rcases HV.out.map with ⟨_, h3⟩ | ⟨m', D, h3, _⟩
    · exact h3
    · cases h3
  have H0 := hidden h0x
  clear h0x
  go_enter Tryz.func99, Tryz.ntmps99
  go_wp2_with fail
  refine HC.out.mono ?_
  rintro e w1 (⟨_, rfl, hG⟩ | ⟨h0, _⟩)
  rotate_left
  · exact absurd hv' h0
  have HG := hidden hG
  have hcc1 := (HV.out.below hG.bel).cells.2.2
  have hrg := run_range_nilMap (P := Tryz.prog) w1 134 _ _ Tryz.underlying134
  have hnx : ∀ ty, (Instr.next (.pointer (some ⟨w1.heap.size, 0, none⟩)) false ty).run Tryz.prog (w1.alloc (.mapIter none 0 #[] 0)) = _ := fun ty => run_next_nilMap _ ty 0 0 #[]
  have HW1 := hidden (hG.alloc (.mapIter none 0 #[] 0))
  obtain ⟨D1, hown1, hK1⟩ := HW1.out.done (f := f) hl.symm H0.out
  have HDel := hidden (del_calls w.heap.size D1 f l (w1.alloc (.mapIter none 0 #[] 0)) hown1 hK1)
  have HBR : Hid (Below w.heap.size w (w1.alloc (.mapIter none 0 #[] 0))) := HW1.out.bel
  clear hown1 hK1 hG HC hcc
  go_wp2_with fail
  refine wp_loop_rounds 1 ?_
  rw [rounds_succ]
  go_wp2_with fail
  refine HDel.out.mono ?_
  rintro e w3 ⟨rfl, ⟨D2, hown2, hK2⟩, hg3⟩
  have hb3 : Below w.heap.size w w3 := HBR.out.grown hg3 HBR.out.size (by intro k hk; simp at hk; omega)
  have HB3 := hidden hb3
  have HO2 := hidden hown2
  have HK2 := hidden hK2
  have HSZ := hidden (hK2.size (hown2.entries law3) HN.out)
  have HV3 := hidden (HV.out.below hb3)
  clear hown2 hK2 hg3 HDel hb3
  rw [HQ.out] at HSZ
  by_cases hq2 : 200 < q
  · have d2 : decide (200 < (q : Int)) = true := by simp; omega
    go_wp2_with (at_len; refine wpList_len_own _ rfl _ 134 rfl 3 3 Tryz.underlying134 _ w.heap.size (Maps.size D2) D2 rfl HO2.out ?_; rw [HSZ.out])
    go_ret
    exact .inl ⟨hq2, rfl, HB3.out⟩
  · have d2 : decide (200 < (q : Int)) = false := by simp; omega
    have hf2 := HV3.out.free 2
    have hc2 := HV3.out.cells.2.2
    have HV4 := hidden (HV3.out.setM HO2.out HK2.out)
    have HC5 := hidden (choose_calls b w.heap.size many sp (nx f l) _ HV4.out HN.out hs0.1 hs0.2)
    have HOn : Hid (Only [b] w (w3.setCell ⟨b, 2, none⟩ (.map (some w.heap.size)))) := (Only.of_below HB3.out [b]).setCell (by simp) _
    clear hbl
    go_wp2_with (at_len; refine wpList_len_own _ rfl _ 134 rfl 3 3 Tryz.underlying134 _ w.heap.size (Maps.size D2) D2 rfl HO2.out ?_; rw [HSZ.out])
    refine HC5.out.mono ?_
    rintro e w5 ⟨rfl, h5, h6⟩
    have H5 := hidden h5
    have H6 := hidden h6
    clear h5 h6 HC5
    go_wp2_with fail
    go_ret
    exact .inr ⟨by omega, rfl, H5.out, HOn.out.trans H6.out⟩

/-- Hear, whatever is heard -/
theorem hear_calls (b n cap : Nat) (mo : Option Nat) (a : Option Addr) (many sp : Int) (f : Sc) (l : Vs) (w : World) (hV : VAt w b mo many sp f) (hI : Inv f sp) (hA : VArg w a n l) :
    Calls Tryz.prog 99 #[.pointer (some ⟨b, 0, none⟩), .slice a n cap] w fun e w' => e = .returned (errv (hf f l)) ∧ ∃ mo', VAt w' b mo' many (stS f sp l) (stF f l) ∧ Only [b] w w' ∧ (mo' = mo ∨ ∃ m, mo' = some m ∧ w.heap.size ≤ m) := by
  have hl := hA.2.1
  by_cases hn : 200 < n
  · have e : hf f l = 4 := by unfold hf; rw [if_pos (by omega)]
    refine (hear_long b n cap a w hn hA.2.2).mono ?_
    rintro x w' ⟨rfl, rfl⟩
    unfold stS stF
    rw [e, if_neg (by decide), if_neg (by decide)]
    exact ⟨rfl, mo, hV, Only.refl _ _, .inl rfl⟩
  · by_cases hv : vf l = 0
    · have key : Calls Tryz.prog 99 #[.pointer (some ⟨b, 0, none⟩), .slice a n cap] w fun e w' => (200 < (lst (nx f l)).length ∧ e = .returned (errv 4) ∧ Below w.heap.size w w') ∨ ((lst (nx f l)).length ≤ 200 ∧ e = .returned .nilIface ∧ VAt w' b (some w.heap.size) many (spk (nx f l) sp) (nx f l) ∧ Only [b] w w') := by
        cases mo with
        | none => exact hear_none b n cap a many sp f l w hV hI hA (by omega) hv
        | some m => exact hear_some b n cap m a many sp f l w hV hI hA (by omega) hv
      refine key.mono ?_
      rintro x w' (⟨h1, rfl, h2⟩ | ⟨h1, rfl, h2, h3⟩)
      · have e : hf f l = 4 := by unfold hf; rw [if_neg (by omega), if_neg (by simp [hv]), if_pos h1]
        unfold stS stF
        rw [e, if_neg (by decide), if_neg (by decide)]
        exact ⟨rfl, mo, hV.below h2, Only.of_below h2 _, .inl rfl⟩
      · have e : hf f l = 0 := hf_zero.2 ⟨by omega, (vf_ok l).1 hv, h1⟩
        unfold stS stF
        rw [e, if_pos rfl, if_pos rfl]
        exact ⟨rfl, _, h2, h3, .inr ⟨_, rfl, Nat.le_refl _⟩⟩
    · have e : hf f l = vf l := by unfold hf; rw [if_neg (by omega), if_pos hv]
      refine (hear_bad b n cap a l w hA (by omega) hv).mono ?_
      rintro x w' ⟨rfl, h2⟩
      unfold stS stF
      rw [e, if_neg hv, if_neg hv]
      exact ⟨rfl, mo, hV.below h2, Only.of_below h2 _, .inl rfl⟩
end Go.Proofs.YtbadpjgiogghdaaGreatDoor.Voice

