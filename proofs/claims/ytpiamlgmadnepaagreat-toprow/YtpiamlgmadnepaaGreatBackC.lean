/-
  What the function Pairs of package back returns of numbers that may be: pairs, in memory of its own; and of any numbers. It changes nothing that was there.
-/
import Derived.Test.YtpiamlgmadnepaaGreatBackB
namespace Go.Proofs.YtpiamlgmadnepaaGreat.Back
open Go.ChangeShapes Go.WideShapes Go.ChangeAt Go.RowKit Go.Sort Go.Lib Go.Proofs.YtpiamlgmadnepaaGreat.BM Go.Proofs.YtpiamlgmadnepaaGreat.Mem
set_option linter.unusedVariables false

theorem wrap_pow (d : Nat) (h : d < 16) : wrap64 (2 ^ d) = 2 ^ d := by
  have h16 : (2 : Nat) ^ d < 65536 := show (2 : Nat) ^ d < 2 ^ 16 from Nat.pow_lt_pow_right (by decide) h
  have e2 : (2 : Int) ^ d = ((2 ^ d : Nat) : Int) := by rw [Int.natCast_pow]; rfl
  rw [e2]
  generalize (2 : Nat) ^ d = x at *
  unfold wrap64
  omega
theorem PSt.drew {w wr : World} {l : List (Int × Nat)} {v : Value} (h : PSt w wr l v) : PSt w wr.drew l v := ⟨h.below.drew, h.own.drew⟩

set_option maxHeartbeats 4000000 in
set_option maxRecDepth 100000 in
theorem pairs_good (a : Option Addr) (n cap : Nat) (L : List Int) (w : World) (h : IArg w a n L) (hn : a = none → n = 0 ∧ cap = 0) (hf : pfault L = 0) :
    Calls Tryz.prog 204 #[.slice a n cap] w fun e w' => ∃ v', e = .returned (.tuple #[v', .nilIface]) ∧ w'.ownsRow w.heap.size 297 2 v' (pairs (norm L)).length (pc (pr (pairs (norm L)))) ∧ Below w.heap.size w w' := by
  have hl := h.2.1
  have hb := h.2.2
  obtain ⟨p, hany⟩ : n ≤ 200 ∧ L.any (fun x => !inR x) = false := by
    unfold pfault at hf
    by_cases q : 200 < L.length
    · rw [if_pos q] at hf; omega
    · rw [if_neg q] at hf
      by_cases q2 : L.any (fun x => !inR x) = true
      · rw [if_pos q2] at hf; omega
      · exact ⟨by omega, by simpa using q2⟩
  have d : decide (200 < (n : Int)) = false := by simp; omega
  have C := cont_calls a n cap L w h
  rw [hany] at C
  have HC := hidden C
  have HCL : Hid (∀ W, Below w.heap.size w W → Calls Tryz.prog _ #[.slice a n cap] W _) := fun W hW => clone_calls a n cap L W (h.below hW) hn (by omega)
  have hrng := in_range hany
  have hrn : ∀ x ∈ norm L, 0 ≤ x ∧ x ≤ 65535 := fun x hx => hrng x (((norm_of L).2 x).1 hx)
  have hris := (norm_of L).1
  have hnl : (norm L).length ≤ 200 := by have := norm_len L; omega
  have hnorm : compact (L.mergeSort fun x y => decide (x ≤ y)) = norm L := rfl
  obtain ⟨i0, hii, hz0, hz1, hz2⟩ := info_parts infoPR
  clear C h hn hf hany hrng
  generalize norm L = S at *
  go_enter Tryz.func204, Tryz.ntmps204
  go_wp2_with fail
  refine HC.out.mono ?_
  rintro e w1 ⟨rfl, q, rfl⟩
  go_wp2_with fail
  refine (HCL.out _ (below_drewN' (Below.refl _ _) q)).mono ?_
  rintro e w2 ⟨v2, rfl, ho2, hb2⟩
  have HO2 := hidden ho2
  have HB2 := hidden ((below_drewN' (Below.refl w.heap.size w) q).trans hb2)
  clear ho2 hb2
  go_wp2_with fail
  refine (sort_calls v2 _ n L w2 HO2.out (by omega)).mono ?_
  rintro e w3 ⟨rfl, ho3, hg3⟩
  have HO3 := hidden ho3
  have HB3 := hidden (HB2.out.grown hg3 HB2.out.size (fun j hj => (HO2.out.lt j hj).1))
  clear ho3 hg3
  go_wp2_with fail
  refine (compact_calls v2 _ n _ w3 HO3.out (by omega)).mono ?_
  rintro e w4 ⟨v4, rfl, hbl, ho4, hg4⟩
  rw [hnorm] at ho4
  have HB4 := hidden (HB3.out.grown hg4 HB3.out.size (fun j hj => (HO3.out.lt j hj).1))
  clear hg4 hbl hnorm HO2 HO3 HB2 HB3 HC HCL
  obtain ⟨aR, cR, rfl, hR, _, _, hRg⟩ := own_ints ho4 (by omega)
  have HR := hidden hR
  clear ho4 hR hl hb p d hRg
  have HRIS := hidden hris
  have HRN := hidden hrn
  clear hris hrn
  have HP0 : Hid (PSt w4 w4 (pairs (S.take 0)) (.slice none 0 0)) := ⟨Below.refl _ _, World.ownsRow_nil _ _ _ _⟩
  go_wp2_with fail
  go_loopg [5, 23] S.length (fun g x y wr => ∃ (j : Nat) (v : Value), j + g = S.length ∧ x = v ∧ y = .int .i64 (j : Int) ∧ Hid (PSt w4 wr (pairs (S.take j)) v))
  case atStart => exact ⟨0, _, by omega, rfl, rfl, HP0⟩
  case round =>
    obtain ⟨j, v, hjg, rfl, rfl, HP⟩ := hrel
    by_cases hj : j < S.length
    · have hjz : (j : Int) < (S.length : Int) := by omega
      obtain ⟨b, o, rfl, hcs⟩ := HR.out.at (by omega)
      have hcell := (HP.out.below.cell (p := ⟨b, o + j, none⟩) (World.block_lt_of_cell? _ _ (hcs j hj))).trans (hcs j hj)
      obtain ⟨y, hy⟩ : ∃ y, S.getD j 0 = y := ⟨_, rfl⟩
      rw [hy] at hcell
      have hys : S.take (j + 1) = S.take j ++ [y] := by
        rw [← hy, List.getD_eq_getElem?_getD, List.getElem?_eq_getElem hj, Option.getD_some, List.take_append_getElem hj]
      have hmem : y ∈ S := by rw [← hy, List.getD_eq_getElem?_getD, List.getElem?_eq_getElem hj]; exact List.getElem_mem _
      have hyr := HRN.out y hmem
      have hfit := fit_pairs (S.take j) (List.Pairwise.sublist (List.take_sublist _ _) HRIS.out)
      have hup : ∀ x ∈ S.take j, x < y := by
        have h1 := HRIS.out
        have h2 : S = S.take j ++ S.drop j := (List.take_append_drop j S).symm
        unfold Rises at h1
        rw [h2] at h1
        intro x hx
        refine (List.pairwise_append.1 h1).2.2 x hx y ?_
        rw [List.drop_eq_getElem_cons hj, ← hy, List.getD_eq_getElem?_getD, List.getElem?_eq_getElem hj]
        exact List.mem_cons_self ..
      have hsn := pairs_snoc (S.take j) y
      rw [← hys] at hsn
      have hlen : (pairs (S.take j)).length ≤ 200 := by
        have h1 := (told_len (pairs (S.take j))).1
        rw [hfit.told, List.length_take] at h1
        omega
      have hsub : ∀ x ∈ S.take j, x ∈ S := fun x hx => List.mem_of_mem_take hx
      clear hcs hy hys hmem
      generalize pairs (S.take j) = l at *
      rcases List.eq_nil_or_concat l with rfl | ⟨K, pp, rfl⟩
      · rw [step_nil] at hsn
        have HSN := hidden hsn
        clear hsn
        obtain ⟨a1, c1, rfl, _⟩ := own_prs HP.out.own (by simp)
        go_wp2_with (at_builtin; refine wpList_append_own _ rfl _ _ 290 rfl w4.heap.size 297 i0 _ 2 16 Tryz.underlying290 hii hz0 hz1 hz2 rfl (by decide) _ 0 [] rfl (HP.out.own.alloc _) ⟨wr.heap.size, 0, none⟩ 1 1 [.int .i64 y, .int .i64 0] rfl rfl ?cc ?one ?b1 ?b2 ?b3 ?next)
        case cc => exact lit2 _ _
        case one => simp [Value.oneCell']
        case b1 => unfold maxLen; omega
        case b2 => omega
        case b3 => have := HP.out.below.size; simp; omega
        case next =>
        intro v1 w' hown hgrow _
        have HPn := hidden (HP.out.far hown hgrow)
        clear hown hgrow
        go_wp2_with fail
        go_roundg (S.length - (j + 1))
        case measure => omega
        case rel => exact ⟨j + 1, v1, by omega, rfl, by go_num, by rw [HSN.out]; exact HPn⟩
      · rw [List.concat_eq_append] at *
        obtain ⟨bs, mk⟩ := pp
        obtain ⟨g, c1, rfl, hc0, hc1, hfz, hp'⟩ := HP.out.shape
        have HP := hidden hp'
        clear hp'
        have hbs := HRN.out bs (hsub bs (hfit.base (bs, mk) (by simp)))
        have hmk := hfit.mask (bs, mk) (by simp)
        have hby := hup bs (hfit.base (bs, mk) (by simp))
        have hKl : K.length ≤ 200 := by simp at hlen; omega
        clear hfit hup hsub hlen
        by_cases hfar : 16 < y - bs
        · rw [step_far (p := (bs, mk)) hfar] at hsn
          have HSN := hidden hsn
          clear hsn
          have d16 : decide (16 < y - bs) = true := by simpa using hfar
          have HOWN := HP.out.own
          rw [List.length_append, List.length_singleton] at HOWN
          replace HOWN := hidden HOWN
          go_wp2_with (at_builtin; refine wpList_append_own _ rfl _ _ 290 rfl w4.heap.size 297 i0 _ 2 16 Tryz.underlying290 hii hz0 hz1 hz2 rfl (by decide) _ (K.length + 1) (pc (pr (K ++ [(bs, mk)]))) rfl (HOWN.out.alloc _) ⟨wr.heap.size, 0, none⟩ 1 1 [.int .i64 y, .int .i64 0] rfl rfl ?cc ?one ?b1 ?b2 ?b3 ?next)
          case one => simp [Value.oneCell']
          case b1 => unfold maxLen; omega
          case b2 => omega
          case b3 => have := HP.out.below.size; simp; omega
          case next =>
          intro v1 w' hown hgrow _
          have HPn := hidden (HP.out.far (by rw [List.length_append]; exact hown) hgrow)
          clear hown hgrow
          go_wp2_with fail
          go_roundg (S.length - (j + 1))
          case measure => omega
          case rel => exact ⟨j + 1, v1, by omega, rfl, by go_num, by rw [HSN.out]; exact HPn⟩
        · rw [step_near (p := (bs, mk)) (by show y - bs ≤ 16; omega)] at hsn
          have HSN := hidden hsn
          clear hsn
          have d16 : decide (16 < y - bs) = false := by simpa using hfar
          have HMB : Hid (bits .or .i64 (mk : Int) (wrap64 (2 ^ ((y - bs).toNat - 1))) = ((mk ||| 2 ^ (y - bs - 1).toNat : Nat) : Int)) := hidden (by
            rw [← mask_bits mk (y - bs - 1).toNat hmk (by omega), show (y - bs).toNat - 1 = (y - bs - 1).toNat by omega, wrap_pow _ (by omega)])
          go_wp2_with fail
          go_region
          go_wp2_with fail
          go_roundg (S.length - (j + 1))
          case measure => omega
          case rel => exact ⟨j + 1, _, by omega, rfl, by go_num, by
            rw [HSN.out]
            have := (HP.out.near (m' := mk ||| 2 ^ (y - bs - 1).toNat)).drew
            rw [← HMB.out] at this
            exact this⟩
    · have hjz : ¬ (j : Int) < (S.length : Int) := by omega
      have ej : j = S.length := by omega
      subst ej
      go_wp2_with fail
      go_ret2
      have hh := HP.out
      rw [List.take_length] at hh
      refine ⟨_, rfl, ?_, HB4.out.trans (hh.below.mono HB4.out.size)⟩
      have ho := hh.own
      refine ⟨ho.1, ?_⟩
      rcases ho.2 with h0 | ⟨g, cap, cur, e, hg, rest⟩
      · exact .inl h0
      · exact .inr ⟨g, cap, cur, e, by have := HB4.out.size; omega, rest⟩

/-- Pairs, of whatever numbers -/
theorem pairs_gen (a : Option Addr) (n cap : Nat) (L : List Int) (w : World) (h : IArg w a n L) (hn : a = none → n = 0 ∧ cap = 0) :
    Calls Tryz.prog 204 #[.slice a n cap] w fun e w' => ∃ a' m c', e = .returned (.tuple #[.slice a' m c', errv (pfault L)]) ∧ PArg w' a' m (pr (prsOf L)) ∧ (a' = none → m = 0 ∧ c' = 0) ∧ m ≤ c' ∧ Below w.heap.size w w' := by
  by_cases hf : pfault L = 0
  · refine (pairs_good a n cap L w h hn hf).mono ?_
    rintro e w' ⟨v', rfl, ho, hb⟩
    have hlen : (pairs (norm L)).length ≤ 9223372036854775807 := by
      have h1 := (told_len (pairs (norm L))).1
      rw [(fit_pairs _ (norm_of L).1).told] at h1
      have h2 := norm_len L
      have h3 := h.2.1
      have h4 := h.2.2
      omega
    obtain ⟨a', c', rfl, hP, h0, h1, _⟩ := own_prs ho hlen
    refine ⟨a', _, c', by rw [hf]; rfl, ?_, h0, h1, hb⟩
    rw [prsOf, if_pos hf]
    exact hP
  · refine (pairs_bad a n cap L w h hf).mono ?_
    rintro e w' ⟨rfl, hb⟩
    refine ⟨none, 0, 0, rfl, ?_, fun _ => ⟨rfl, rfl⟩, Nat.le_refl _, hb⟩
    rw [prsOf, if_neg hf]
    exact PArg.nil _ _
end Go.Proofs.YtpiamlgmadnepaaGreat.Back

