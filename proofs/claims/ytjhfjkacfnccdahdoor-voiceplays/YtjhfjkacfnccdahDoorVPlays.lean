/-
  The walk of the Go function VoicePlays: it returns true at any number and any rounds of voices.
-/
import Derived.Test.YtjhfjkacfnccdahDoorVoiceF
import Derived.Test.YtjhfjkacfnccdahDoorRVoiceC
import Derived.Test.YtjhfjkacfnccdahDoorVSorted
import Derived.Test.YtjhfjkacfnccdahDoorTold
import Derived.Test.YtjhfjkacfnccdahDoorOpenV
import Derived.LoopTactic
import Derived.Deep.LoopGhost
import Derived.Deep.CutRange
import Derived.Deep.RegionHeld3
namespace Go.Proofs.YtjhfjkacfnccdahDoor.Plays
open Go.ChangeShapes Go.WideShapes Go.ChangeAt Go.RowKit Go.Maps Go.Proofs.YtjhfjkacfnccdahDoor.Mem Go.Proofs.YtjhfjkacfnccdahDoor.VO Go.Proofs.YtjhfjkacfnccdahDoor.Voice Go.Proofs.YtjhfjkacfnccdahDoor.RVoice Go.Proofs.YtjhfjkacfnccdahDoor.Open
set_option linter.unusedVariables false

/-- an error of a number is the one told -/
theorem told_f (f : Nat) (W : World) (hf : f ≤ 100) (hg : W.cell? ⟨0, 0, none⟩ = some (.iface 92 (.agg #[.pointer (some ⟨1, 25, none⟩)]))) :
    Calls Tryd.prog 5 #[errv f, .int .i64 (f : Int)] W fun e w' => e = .returned (.bool true) ∧ Below W.heap.size W w' := by
  by_cases h0 : f = 0
  · subst h0
    refine (Told.same_nil 0 W).mono ?_
    rintro e w' ⟨rfl, rfl⟩
    exact ⟨rfl, Below.refl _ _⟩
  · rw [errv_pos h0]
    refine (Told.same_err f f W (by omega) (by omega) hg).mono ?_
    rintro e w' ⟨rfl, hb⟩
    exact ⟨by simp, hb⟩
theorem rest_nodup (f : Sc) (many : Int) : (rest f many).Nodup := by
  have h : ((lst f).map Prod.fst).Nodup := by
    rw [List.nodup_iff_pairwise_ne, List.pairwise_map]
    exact (lst_rises f).imp fun hp e => by omega
  have h2 := (((rk_perm f).map Prod.fst).nodup_iff).2 h
  unfold rest
  rw [List.map_drop]
  exact h2.sublist (List.drop_sublist _ _)
theorem qt_norm (f : Sc) (many : Int) : BM.norm (rest f many) = qt f many := by
  refine BM.norm_eq ?_ fun y => ?_
  · have h1 := List.pairwise_mergeSort (le := fun x y : Int => decide (x ≤ y)) (fun a b c h1 h2 => by simp at *; omega) (fun a b => by simp; omega) (rest f many)
    have h2 : (qt f many).Nodup := ((List.mergeSort_perm (rest f many) (fun x y => decide (x ≤ y))).nodup_iff).2 (rest_nodup f many)
    refine (h1.and (List.nodup_iff_pairwise_ne.1 h2)).imp ?_
    rintro a b ⟨h3, h4⟩
    simp at h3
    omega
  · unfold qt
    rw [(List.mergeSort_perm _ _).mem_iff]
/-- both side by side -/
structure PSt (w W : World) (b rb : Nat) (many sp : Int) (f : Sc) (sp2 : Int) (f2 : Sc) : Prop where
  prog : ∃ mo, VAt W b mo many sp f
  ref : RHas W rb many sp2 f2
  bel : Below w.heap.size w W
  lb : w.heap.size ≤ b
  lr : w.heap.size ≤ rb
theorem PSt.below {w W W' : World} {b rb : Nat} {many sp sp2 : Int} {f f2 : Sc} (h : PSt w W b rb many sp f sp2 f2) (hb : Below W.heap.size W W') : PSt w W' b rb many sp f sp2 f2 := by
  obtain ⟨mo, h1⟩ := h.prog
  obtain ⟨v, h2⟩ := h.ref
  exact ⟨⟨mo, h1.below hb⟩, ⟨v, h2.below hb⟩, h.bel.trans (hb.mono h.bel.size), h.lb, h.lr⟩
theorem at_ne {W : World} {b rb : Nat} {mo : Option Nat} {v : Value} {many sp sp2 : Int} {f f2 : Sc} (h : VAt W b mo many sp f) (k : RAt W rb v many sp2 f2) : b ≠ rb := by
  intro e
  have h1 := h.box
  rw [e, k.box] at h1
  simp at h1
theorem map_ne {W : World} {b rb m : Nat} {v : Value} {many sp sp2 : Int} {f f2 : Sc} (h : VAt W b (some m) many sp f) (k : RAt W rb v many sp2 f2) : m ≠ rb := by
  rcases h.map with ⟨h0, _⟩ | ⟨m', D, h0, h1, _⟩
  · cases h0
  · cases h0
    obtain ⟨es, c, h4⟩ := map_block h1
    intro e
    rw [e, k.box] at h4
    simp at h4
theorem p_hear {w W : World} {b rb n cap : Nat} {a : Option Addr} {many sp sp2 : Int} {f f2 : Sc} {l : Vs} (h : PSt w W b rb many sp f sp2 f2) (hI : Inv f sp) (hA : VArg W a n l) :
    Calls Tryd.prog 6 #[.pointer (some ⟨b, 0, none⟩), .slice a n cap] W fun e w' => e = .returned (errv (hf f l)) ∧ PSt w w' b rb many (stS f sp l) (stF f l) sp2 f2 := by
  obtain ⟨mo, h1⟩ := h.prog
  obtain ⟨v, h2⟩ := h.ref
  refine (hear_calls b n cap mo a many sp f l W h1 hI hA).mono ?_
  rintro e w' ⟨rfl, mo', g1, g2, _⟩
  refine ⟨rfl, ⟨mo', g1⟩, ⟨v, h2.only g2 (by simp; exact fun e => at_ne h1 h2 e.symm) (fun g hg => ?_)⟩, h.bel.trans (g2.below h.bel.size (by simp; exact h.lb)), h.lb, h.lr⟩
  simp
  rintro rfl
  exact h2.ne h1.box (by decide) hg
theorem r_hear {w W : World} {b rb n cap : Nat} {a : Option Addr} {many sp sp2 : Int} {f f2 : Sc} {l : Vs} (h : PSt w W b rb many sp2 f2 sp f) (hI : Inv f sp) (hA : VArg W a n l) :
    Calls Tryd.prog 7 #[.pointer (some ⟨rb, 0, none⟩), .slice a n cap] W fun e w' => e = .returned (.int .i64 (hf f l : Int)) ∧ PSt w w' b rb many sp2 f2 (stS f sp l) (stF f l) := by
  obtain ⟨mo, h1⟩ := h.prog
  obtain ⟨v, h2⟩ := h.ref
  refine (rhear_calls rb n cap v a many sp f l W h2 hI hA).mono ?_
  rintro e w' ⟨rfl, g1, g2⟩
  refine ⟨rfl, ⟨mo, h1.only g2 (by simp; exact at_ne h1 h2) (fun m hm => ?_)⟩, g1, h.bel.trans (g2.below h.bel.size (by simp; exact h.lr)), h.lb, h.lr⟩
  subst hm
  simp
  exact map_ne h1 h2
theorem p_speaker {w W : World} {b rb : Nat} {many sp sp2 : Int} {f f2 : Sc} (h : PSt w W b rb many sp f sp2 f2) : W.cell? ⟨b, 1, none⟩ = some (.int .i64 sp) ∧ W.cell? ⟨rb, 1, none⟩ = some (.int .i64 sp2) ∧ W.cell? ⟨b, 0, none⟩ = some (.int .i64 many) := by
  obtain ⟨mo, h1⟩ := h.prog
  obtain ⟨v, h2⟩ := h.ref
  exact ⟨h1.cells.2.1, h2.cells.2.1, h1.cells.1⟩
/-- what is read besides, as it lies -/
structure QA (w W : World) (b rb : Nat) (many sp : Int) (f : Sc) (ra : Option Addr) (nk : Nat) (qa : Option Addr) (q : Nat) : Prop where
  st : PSt w W b rb many sp f sp f
  all : VArg W ra nk (rk f)
  own : IArg W qa q (rest f many)
theorem QA.below {w W W' : World} {b rb : Nat} {many sp : Int} {f : Sc} {ra qa : Option Addr} {nk q : Nat} (h : QA w W b rb many sp f ra nk qa q) (hb : Below W.heap.size W W') : QA w W' b rb many sp f ra nk qa q := ⟨h.st.below hb, h.all.below hb, h.own.below hb⟩
set_option maxHeartbeats 1000000 in
set_option maxRecDepth 100000 in
theorem walk_out (many : Int) (a : Option Addr) (nr cap : Nat) (w : World) (hg : w.cell? ⟨0, 0, none⟩ = some (.iface 92 (.agg #[.pointer (some ⟨1, 25, none⟩)]))) (h : many < 1 ∨ 20 < many) :
    Calls Tryd.prog 3 #[.int .i64 many, .slice a nr cap] w fun e w' => e = .returned (.bool true) ∧ Below w.heap.size w w' := by
  have HE := hidden (new_err many w h)
  have HT := hidden (told_f 1 w (by omega) hg)
  have HO := hidden h
  clear hg h
  by_cases q : many < 1
  · have d1 : decide (many < 1) = true := by simpa using q
    go_enter Tryd.func3, Tryd.ntmps3
    go_wp2_with fail
    refine HE.out.mono ?_
    rintro e w1 ⟨rfl, hw⟩
    obtain rfl := hw.symm
    go_wp2_with fail
    refine HT.out.mono ?_
    rintro e w2 ⟨rfl, hb⟩
    have HB := hidden hb
    clear hb HT HE
    go_wp2_with fail
    go_ret
    exact ⟨rfl, HB.out⟩
  · have d1 : decide (many < 1) = false := by simpa using q
    have d2 : decide (20 < many) = true := by have := HO.out; simp; omega
    go_enter Tryd.func3, Tryd.ntmps3
    go_wp2_with fail
    refine HE.out.mono ?_
    rintro e w1 ⟨rfl, hw⟩
    obtain rfl := hw.symm
    go_wp2_with fail
    refine HT.out.mono ?_
    rintro e w2 ⟨rfl, hb⟩
    have HB := hidden hb
    clear hb HT HE
    go_wp2_with fail
    go_ret
    exact ⟨rfl, HB.out⟩
set_option maxHeartbeats 4000000 in
set_option maxRecDepth 100000 in
theorem walk_in (many : Int) (a : Option Addr) (nr cap : Nat) (Z : Nat → Vs) (w : World) (hg : w.cell? ⟨0, 0, none⟩ = some (.iface 92 (.agg #[.pointer (some ⟨1, 25, none⟩)]))) (hR : VRows w a nr Z) (h0 : 1 ≤ many) (h1 : many ≤ 20) :
    Calls Tryd.prog 3 #[.int .i64 many, .slice a nr cap] w fun e w' => e = .returned (.bool true) ∧ Below w.heap.size w w' := by
  have h0s : 0 < w.heap.size := World.block_lt_of_cell? w ⟨0, 0, none⟩ hg
  have HG : Hid (∀ W, Below w.heap.size w W → W.cell? ⟨0, 0, none⟩ = some (.iface 92 (.agg #[.pointer (some ⟨1, 25, none⟩)]))) := fun W hW => (hW.cell (p := ⟨0, 0, none⟩) h0s).trans hg
  have HE := hidden (new_ok many w h0 h1)
  have HR := hidden hR
  have hnr := hR.1
  obtain ⟨i0, hii, hz0, hz1, hz2⟩ := info_parts info3
  have d1 : decide (many < 1) = false := decide_eq_false (by omega)
  have d2 : decide (20 < many) = false := decide_eq_false (by omega)
  clear hR hg h0s
  go_enter Tryd.func3, Tryd.ntmps3
  go_wp2_with fail
  refine HE.out.mono ?_
  rintro e w1 ⟨rfl, hV, hb⟩
  have HT := hidden (told_f 0 w1 (by omega) (HG.out w1 hb))
  have HV := hidden hV
  have HB := hidden hb
  rw [errv_zero] at HT
  obtain ⟨b, hbe⟩ : ∃ b, w.heap.size = b := ⟨_, rfl⟩
  rw [hbe] at HV
  rw [hbe]
  have HBE := hidden hbe
  clear hV hb HE hbe
  go_wp2_with fail
  refine HT.out.mono ?_
  rintro e w2 ⟨rfl, hb2⟩
  have HP : Hid (PSt w (w2.alloc (.cells #[.int .i64 many, .int .i64 (-1), .slice none 0 0] 32)) b w2.heap.size many (-1) (fun _ => 0) (-1) (fun _ => 0)) := by
    have hB2 : Below w.heap.size w w2 := HB.out.trans (hb2.mono HB.out.size)
    refine ⟨⟨none, (HV.out.below hb2).below ((Below.refl _ _).alloc (Nat.le_refl _) _)⟩, ⟨.slice none 0 0, heap_alloc_new w2 _, w2.heap.size, ?_⟩, below_alloc hB2 _, by rw [HBE.out]; exact Nat.le_refl _, hB2.size⟩
    rw [lst_zero]
    simpa [vc] using World.ownsRow_nil _ _ _ _
  obtain ⟨rb, hrb⟩ : ∃ rb, w2.heap.size = rb := ⟨_, rfl⟩
  rw [hrb] at HP
  have HRB := hidden hrb
  clear HT HV HB hb2 hrb
  go_wp2_with fail
  rw [HRB.out]
  clear HRB
  go_loopg [10] 30 (fun g y wr => ∃ (i : Nat) (f : Sc) (sp : Int), i + g = 30 ∧ y = .int .i64 (i : Int) ∧ Hid (PSt w wr b rb many sp f sp f ∧ Inv f sp))
  case atStart => exact ⟨0, _, _, by omega, rfl, HP.out, inv_zero⟩
  case round =>
    obtain ⟨i, f, sp, hig, rfl, HS⟩ := hrel
    clear HP
    by_cases hi : i < nr ∧ i < 30
    · obtain ⟨hi1, hi2⟩ := hi
      have d3 : decide ((i : Int) < (nr : Int)) = true := decide_eq_true (by omega)
      have d4 : decide ((i : Int) < 30) = true := decide_eq_true (by omega)
      have hiz : (i : Int) < (nr : Int) := by omega
      obtain ⟨gb, o', a', l', c', rfl, hgl, hcell, hV⟩ := HR.out.2 i hi1
      have HCL : Hid (∀ W, Below w.heap.size w W → W.cell? ⟨gb, o' + i, none⟩ = some (.slice a' l' c')) := fun W hW => (hW.cell (p := ⟨gb, o' + i, none⟩) hgl).trans hcell
      have HVA := hidden hV
      have HI := hidden HS.out.2
      obtain ⟨F, hF⟩ : ∃ F, hf f (Z i) = F := ⟨_, rfl⟩
      have hF7 : F ≤ 100 := by rw [← hF]; have := hf_le f (Z i); omega
      obtain ⟨f', hf'⟩ : ∃ f', stF f (Z i) = f' := ⟨_, rfl⟩
      obtain ⟨sp', hsp'⟩ : ∃ sp', stS f sp (Z i) = sp' := ⟨_, rfl⟩
      have HI2 : Hid (Inv f' sp') := by unfold Hid; rw [← hf', ← hsp']; exact inv_st HI.out (Z i)
      have HG0 : Hid (∀ W, Hid (PSt w W b rb many sp f sp f) → Calls Tryd.prog 6 #[.pointer (some ⟨b, 0, none⟩), .slice a' l' c'] W fun e w' => e = .returned (errv F) ∧ w'.cell? ⟨gb, o' + i, none⟩ = some (.slice a' l' c') ∧ Hid (PSt w w' b rb many sp' f' sp f)) := by
        refine hidden (fun W hQ => (p_hear (cap := c') hQ.out HI.out (HVA.out.below hQ.out.bel)).mono ?_)
        rintro e w' ⟨rfl, hQ'⟩
        rw [hF, hf', hsp'] at *
        exact ⟨rfl, HCL.out w' hQ'.bel, hQ'⟩
      have HR1 : Hid (∀ W, Hid (PSt w W b rb many sp' f' sp f) → Calls Tryd.prog 7 #[.pointer (some ⟨rb, 0, none⟩), .slice a' l' c'] W fun e w' => e = .returned (.int .i64 (F : Int)) ∧ w'.cell? ⟨gb, o' + i, none⟩ = some (.slice a' l' c') ∧ Hid (PSt w w' b rb many sp' f' sp' f')) := by
        refine hidden (fun W hQ => (r_hear (cap := c') hQ.out HI.out (HVA.out.below hQ.out.bel)).mono ?_)
        rintro e w' ⟨rfl, hQ'⟩
        rw [hF, hf', hsp'] at *
        exact ⟨rfl, HCL.out w' hQ'.bel, hQ'⟩
      have HE1 : Hid (∀ W, Hid (PSt w W b rb many sp' f' sp' f') → Calls Tryd.prog 5 #[errv F, .int .i64 (F : Int)] W fun e w' => e = .returned (.bool true) ∧ w'.cell? ⟨gb, o' + i, none⟩ = some (.slice a' l' c') ∧ Hid (PSt w w' b rb many sp' f' sp' f' ∧ True)) := by
        refine hidden (fun W hQ => (told_f F W hF7 (HG.out W hQ.out.bel)).mono ?_)
        rintro e w' ⟨rfl, hb⟩
        have hQ' := hQ.out.below hb
        exact ⟨rfl, HCL.out w' hQ'.bel, hQ', trivial⟩
      have hS0 : wr.drew.cell? ⟨gb, o' + i, none⟩ = some (.slice a' l' c') := HCL.out wr HS.out.1.bel
      have HQ0 : Hid (PSt w wr.drew b rb many sp f sp f) := hidden (HS.out.1.below ((Below.refl _ _).drew))
      clear hcell hV hF hf' hsp' HS hgl
      go_wp2_with fail
      go_region_held3 (fun w' => w'.cell? ⟨gb, o' + i, none⟩ = some (.slice a' l' c')) (with_reducible assumption) (first | (go_at_call 6; refine (HG0.out _ (by with_reducible assumption)).mono ?_; rintro e w5 ⟨rfl, hS5, HQ5⟩) | (go_at_call 7; refine (HR1.out _ (by with_reducible assumption)).mono ?_; rintro e w8 ⟨rfl, hS8, HQ8⟩) | (go_at_call 5; refine (HE1.out _ (by with_reducible assumption)).mono ?_; rintro e w13 ⟨rfl, hS9, HQ9⟩))
      have HQ := hidden HQ9.out.1
      clear HQ5 HQ8 HQ9 hS5 hS8 hS9 HG0 HR1 HE1 hS0 HQ0
      obtain ⟨rv, hRA⟩ := HQ.out.ref
      have HC := hidden (rtop_calls rb rv many sp' f' w13 hRA HI2.out.ok)
      obtain ⟨nk, hnk⟩ : ∃ nk, (rk f').length = nk := ⟨_, rfl⟩
      rw [hnk] at HC
      have hnk2 : nk ≤ 200 := by rw [← hnk, rk_len]; exact HI2.out.len
      have HNK := hidden hnk
      clear hRA hnk
      go_wp2_with fail
      refine HC.out.mono ?_
      rintro e w14 ⟨ra, rc, rfl, hA14, hrc, hb14⟩
      have HQ14 := hidden (HQ.out.below hb14)
      have HAL := hidden hA14
      obtain ⟨k, hk⟩ : ∃ k, min many.toNat nk = k := ⟨_, rfl⟩
      have HK := hidden hk
      have hkn : k ≤ nk := by omega
      have hkc : k ≤ rc := by omega
      clear hA14 hb14 HC HQ hrc
      go_upto_if 70 with fail
      go_cut [12] from 70 to 72 (fun c wx => c = .int .i64 (k : Int) ∧ wx = w14)
      case first =>
        by_cases hlt : (nk : Int) < many
        · have d5 : decide ((nk : Int) < many) = true := decide_eq_true hlt
          have HKE : Hid ((k : Int) = (nk : Int)) := by unfold Hid; omega
          clear hk hkn hkc
          go_wp2_with fail
          go_meet
          exact ⟨by rw [HKE.out], rfl⟩
        · have d5 : decide ((nk : Int) < many) = false := decide_eq_false hlt
          have HKE : Hid ((k : Int) = many) := by unfold Hid; omega
          clear hk hkn hkc
          go_wp2_with fail
          go_meet
          exact ⟨by rw [HKE.out], rfl⟩
      case rest =>
      obtain ⟨rfl, rfl⟩ := hcut
      obtain ⟨w14, rfl⟩ : ∃ x, x = wc := ⟨_, rfl⟩
      clear hk
      have HE0 : Hid (QSt w14 w14 (.slice none 0 0) ((((rk f').take k).drop k).map Prod.fst)) := by
        rw [List.drop_of_length_le (by rw [List.length_take]; omega)]
        exact ⟨Below.refl _ _, by simpa [ic] using World.ownsRow_nil _ _ _ _⟩
      go_wp2_with fail
      go_loopg [13, 14] nk (fun g x y wr => ∃ (z : Nat) (v : Value), z + g ≤ nk + k ∧ nk ≤ z + g ∧ k ≤ z ∧ z ≤ nk ∧ v = x ∧ y = .int .i64 (z : Int) ∧ Hid (QSt w14 wr v ((((rk f').take z).drop k).map Prod.fst)))
      case atStart => exact ⟨k, _, by omega, by omega, by omega, hkn, rfl, rfl, HE0⟩
      case round =>
        obtain ⟨z, v, hzg1, hzg2, hzk, hzn, rfl, rfl, HX⟩ := hrel
        clear HE0
        by_cases hz : z < nk
        · have hzz : (z : Int) < (nk : Int) := by omega
          obtain ⟨nb, no, rfl, hnb, hcs⟩ := (HAL.out.below HX.out.bel).at (by omega)
          obtain ⟨k0, k1⟩ := hcs z hz
          have hstep : (((rk f').take (z + 1)).drop k).map Prod.fst = (((rk f').take z).drop k).map Prod.fst ++ [((rk f').getD z (0, 0)).1] := by
            rw [take_succ' (by rw [HNK.out]; exact hz), List.drop_append_of_le_length (by rw [List.length_take, HNK.out]; omega), List.map_append]
            rfl
          obtain ⟨x, y, hp⟩ : ∃ x y, (rk f').getD z (0, 0) = (x, y) := ⟨_, _, rfl⟩
          rw [hp] at k0 k1 hstep
          simp only at k0 k1 hstep
          obtain ⟨K, hKK⟩ : ∃ K, (((rk f').take z).drop k).map Prod.fst = K := ⟨_, rfl⟩
          have hkl : K.length ≤ 200 := by rw [← hKK, List.length_map, List.length_drop, List.length_take]; omega
          rw [hKK] at HX hstep
          have HST := hidden hstep
          have HX1 : Hid (QSt w14 (wr.alloc (.cells #[.int .i64 x] 3)) v K) := HX.out.alloc _
          have HN := hidden (one_news wr (.int .i64 x) 3)
          have hsz := HX.out.bel.size
          clear hcs hp hKK hstep HX
          go_wp2_with (at_builtin; refine wpList_append_own _ rfl _ _ 36 rfl w14.heap.size 3 i0 _ 1 8 Tryd.underlying36 hii hz0 hz1 hz2 rfl (by decide) _ K.length (ic K) rfl HX1.out.own ⟨wr.heap.size, 0, none⟩ 1 1 [.int .i64 x] rfl rfl ?news (by simp [Value.oneCell']) ?b1 ?b2 ?b3 ?next)
          case news => first | exact HN.out | (intro j u h; exact h)
          case b1 => unfold maxLen; omega
          case b2 => omega
          case b3 => first | omega | (simp; omega)
          case next =>
            intro v2 w16 hown hgrow _
            have HX2 := hidden (HX1.out.more hown hgrow)
            clear hown hgrow HX1
            rw [← HST.out] at HX2
            go_wp2_with fail
            go_roundg (nk - (z + 1))
            case measure => omega
            case rel => exact ⟨z + 1, v2, by omega, by omega, by omega, by omega, rfl, by go_num, HX2⟩
        · have hzz : ¬ (z : Int) < (nk : Int) := by omega
          obtain rfl : nk = z := by omega
          have hre : (((rk f').take nk).drop k).map Prod.fst = rest f' many := by
            rw [List.take_of_length_le (by rw [HNK.out]; omega)]
            unfold rest
            have := HK.out
            rcases Nat.le_total many.toNat nk with hc | hc
            · rw [show k = many.toNat by omega]
            · rw [List.drop_of_length_le (by rw [HNK.out]; omega), List.drop_of_length_le (by rw [HNK.out]; omega)]
          rw [hre] at HX
          have hrl : (rest f' many).length ≤ 200 := by rw [rest_len, HNK.out]; omega
          obtain ⟨qa, qc, rfl, hQI, _⟩ := own_ints HX.out.own (by omega)
          obtain ⟨q, hq⟩ : ∃ q, (rest f' many).length = q := ⟨_, rfl⟩
          rw [hq] at hQI ⊢
          have HQA : Hid (QA w wr b rb many sp' f' ra nk qa q) := ⟨HQ14.out.below HX.out.bel, HAL.out.below HX.out.bel, hQI⟩
          have hql : (qt f' many).length = q := by rw [← hq, qt_len, rest_len]
          have htl : (top f' many).length = k := by rw [top_len, HNK.out]; exact HK.out
          have HQL := hidden hql
          have HTL := hidden htl
          have HTK : Hid (top f' many = (rk f').take k) := by
            unfold Hid top
            rw [List.take_eq_take_iff, HNK.out]
            have := HK.out
            omega
          clear hQI hre hrl HX hql htl hq hz hzk hzn hzg1 hzg2
          obtain ⟨wB, rfl⟩ : ∃ x, x = wr := ⟨_, rfl⟩
          have hcut := fun W => cutV_h ra nk rc k hkc W
          have HT0 : Hid (∀ W, Hid (QA w W b rb many sp' f' ra nk qa q) → Calls Tryd.prog 10 #[.pointer (some ⟨b, 0, none⟩)] W fun e w' => ∃ ta tc, e = .returned (.slice ta k tc) ∧ w'.cell? ⟨b, 0, none⟩ = some (.int .i64 many) ∧ Hid (QA w w' b rb many sp' f' ra nk qa q ∧ VArg w' ta k (top f' many))) := by
            refine hidden (fun W hQ => ?_)
            obtain ⟨mo, hV⟩ := hQ.out.st.prog
            refine (top_calls b mo many sp' f' W hV HI2.out.ok h0 h1).mono ?_
            rintro e w' ⟨ta, tc, rfl, g1, _, g3⟩
            rw [HTL.out] at g1 ⊢
            have hQ' := hQ.out.below g3
            exact ⟨ta, tc, rfl, (p_speaker hQ'.st).2.2, hQ', g1⟩
          have HT1 : Hid (∀ W ta tc, Hid (QA w W b rb many sp' f' ra nk qa q ∧ VArg W ta k (top f' many)) → Calls Tryd.prog 9 #[.slice ta k tc, .slice ra k rc] W fun e w' => e = .returned (.bool true) ∧ w'.cell? ⟨b, 0, none⟩ = some (.int .i64 many) ∧ Hid (QA w w' b rb many sp' f' ra nk qa q ∧ True)) := by
            refine hidden (fun W ta tc hQ => ?_)
            refine (vs_same ta ra k tc rc (top f' many) W hQ.out.2 (by rw [HTK.out]; exact hQ.out.1.all.take hkn)).mono ?_
            rintro e w' ⟨rfl, hb⟩
            have hQ' := hQ.out.1.below hb
            exact ⟨rfl, (p_speaker hQ'.st).2.2, hQ', trivial⟩
          have hS0 : wB.drew.cell? ⟨b, 0, none⟩ = some (.int .i64 many) := (p_speaker HQA.out.st).2.2
          have HQ0 : Hid (QA w wB.drew b rb many sp' f' ra nk qa q) := hidden (HQA.out.below ((Below.refl _ _).drew))
          go_wp2_with fail
          go_region_held3 (fun w' => w'.cell? ⟨b, 0, none⟩ = some (.int .i64 many)) (with_reducible assumption) (first | (go_at_call 10; refine (HT0.out _ (by with_reducible assumption)).mono ?_; rintro e w25 ⟨a25, c25, rfl, hS25, HQ25⟩) | (go_at_call 9; refine (HT1.out _ _ _ (by with_reducible assumption)).mono ?_; rintro e w26 ⟨rfl, hS26, HQ26⟩))
          have HQB := hidden HQ26.out.1
          clear HQ25 HQ26 hS25 hS26 HT0 HT1 hS0 HQ0 HQA
          obtain ⟨wD, hwD⟩ : ∃ x, x = w26 := ⟨_, rfl⟩
          have HQ27 := hidden HQB.out
          rw [← hwD] at HQ27 ⊢
          clear hwD HQB
          obtain ⟨mo, hVm⟩ := HQ27.out.st.prog
          have HCq := hidden (quiet_calls b mo many sp' f' wD hVm HI2.out.ok h0 h1)
          rw [HQL.out] at HCq
          clear hVm
          go_wp2_with fail
          refine HCq.out.mono ?_
          rintro e w27 ⟨q1a, q1c, rfl, hI27, hb27⟩
          have HQ28 := hidden (HQ27.out.below hb27)
          have HI27 := hidden hI27
          have HCs := hidden (VSort.sorted_calls qa q qc (rest f' many) w27 HQ28.out.own (by have := HQL.out; rw [qt_len, HNK.out] at this; omega))
          rw [qt_norm] at HCs
          clear hI27 hb27 HCq HQ27
          go_wp2_with fail
          refine HCs.out.mono ?_
          rintro e w28 ⟨sv, rfl, hs28, hb28⟩
          rw [HQL.out] at hs28
          obtain ⟨sa, sc, rfl, hS28, _⟩ := own_ints hs28 (by have := HQL.out; rw [qt_len, HNK.out] at this; omega)
          have HQ29 := hidden (HQ28.out.below hb28)
          have HCi := hidden (ints_same q1a sa q q1c sc (qt f' many) w28 (HI27.out.below hb28) hS28)
          clear hs28 hb28 hS28 HCs HQ28 HI27
          go_wp2_with fail
          refine HCi.out.mono ?_
          rintro e w29 ⟨rfl, hb29⟩
          have HQ30 := hidden (HQ29.out.below hb29)
          obtain ⟨c1, c2, _⟩ := p_speaker HQ30.out.st
          have HSp2 : Hid (∀ W : World, W.cell? ⟨b, 1, none⟩ = some (.int .i64 sp') → Calls Tryd.prog 14 #[.pointer (some ⟨b, 0, none⟩)] W fun e w' => e = .returned (.int .i64 sp') ∧ w' = W) := fun W hW => speaker_calls b sp' W hW
          clear hb29 HCi HQ29
          go_wp2_with fail
          go_quiet ((go_at_call 14; exact Calls.quiet_of_same (HSp2.out _ (by first | exact c1 | assumption))))
          go_wp2_with fail
          go_roundg (30 - (i + 1))
          case measure => omega
          case rel => exact ⟨i + 1, f', sp', by omega, by go_num, HQ30.out.st.below (below_drewN (Below.refl _ _) _), HI2.out⟩
    · have HB := hidden HS.out.1.bel
      have HGD : Hid (decide ((i : Int) < (nr : Int)) = false ∨ decide ((i : Int) < (nr : Int)) = true ∧ decide ((i : Int) < 30) = false) := by
        by_cases q : i < nr
        · exact .inr ⟨decide_eq_true (by omega), decide_eq_false (by omega)⟩
        · exact .inl (decide_eq_false (by omega))
      clear HS hi
      go_upto_region 10 with fail
      go_cut [48] from 41 to 48 (fun c wx => c = .bool false ∧ wx = wr)
      case first =>
        rcases HGD.out with q1 | ⟨q1, q2⟩
        · have q3 : ¬ (i : Int) < (nr : Int) := of_decide_eq_false q1
          clear q1 hig
          go_wp2_with fail
          go_meet
          exact ⟨rfl, rfl⟩
        · have q3 : (i : Int) < (nr : Int) := of_decide_eq_true q1
          have HQ2 := hidden q2
          clear q1 q2
          go_wp2_with fail
          go_meet
          exact ⟨by rw [HQ2.out], rfl⟩
      case rest =>
      obtain ⟨rfl, rfl⟩ := hcut
      clear HGD
      go_wp2_with fail
      go_ret
      exact ⟨rfl, HB.out⟩
theorem walk (many : Int) (a : Option Addr) (nr cap : Nat) (Z : Nat → Vs) (w : World) (hg : w.cell? ⟨0, 0, none⟩ = some (.iface 92 (.agg #[.pointer (some ⟨1, 25, none⟩)]))) (hR : VRows w a nr Z) :
    Calls Tryd.prog 3 #[.int .i64 many, .slice a nr cap] w fun e w' => e = .returned (.bool true) ∧ Below w.heap.size w w' := by
  by_cases h : many < 1 ∨ 20 < many
  · exact walk_out many a nr cap w hg h
  · exact walk_in many a nr cap Z w hg hR (by omega) (by omega)
end Go.Proofs.YtjhfjkacfnccdahDoor.Plays
