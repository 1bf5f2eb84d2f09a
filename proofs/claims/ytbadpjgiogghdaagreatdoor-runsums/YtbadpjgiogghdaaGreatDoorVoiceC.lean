/-
  What the function ranked of package voice returns: all scores, the greatest first, in memory of its own. It changes nothing that was there.
-/
import Derived.Test.YtbadpjgiogghdaaGreatDoorVoiceV
namespace Go.Proofs.YtbadpjgiogghdaaGreatDoor.Voice
open Go.ChangeShapes Go.WideShapes Go.ChangeAt Go.RowKit Go.Maps Go.Proofs.YtbadpjgiogghdaaGreatDoor.Mem Go.Proofs.YtbadpjgiogghdaaGreatDoor.VO
set_option linter.unusedVariables false

theorem nodup_perm {l k : Vs} (hl : l.Nodup) (hk : k.Nodup) (h : ∀ p, p ∈ l ↔ p ∈ k) : l.Perm k :=
  List.perm_iff_count.2 fun a => by
    rw [hl.count, hk.count]
    by_cases q : a ∈ l
    · rw [if_pos q, if_pos ((h a).1 q)]
    · rw [if_neg q, if_neg (fun c => q ((h a).2 c))]
theorem own_blockV {w : World} {base n g : Nat} {v : Value} {xs : List Value} (h : w.ownsRow base 88 2 v n xs) (hg : v.ownBlock = some g) : ∃ cs, w.heap[g]? = some (.cells cs 88 (0, 0)) := by
  rcases h.2 with ⟨rfl, _⟩ | ⟨g', cap, cur, rfl, _, hb, _⟩
  · simp [Value.ownBlock] at hg
  · simp [Value.ownBlock] at hg
    subst hg
    exact ⟨cur, hb⟩
/-- under way within ranked: K has come -/
structure RSt (w wr : World) (m it : Nat) (D : DataW Value) (f : Sc) (left : Lit → Bool) (cnt : Nat) (v : Value) (K : Vs) : Prop where
  ran : wr.ranges Tryz.prog 3 inR m it (Maps.size D) D left cnt
  bel : Below w.heap.size w wr
  lo : w.heap.size ≤ it
  own : wr.ownsRow w.heap.size 88 2 v K.length (vc K)
  mem : ∀ p : Int × Int, p ∈ K ↔ f p.1 = p.2 ∧ p.2 ≠ 0 ∧ left (key p.1) = false
  dup : K.Nodup
theorem RSt.ne {w wr : World} {m it : Nat} {D : DataW Value} {f : Sc} {left : Lit → Bool} {cnt : Nat} {v : Value} {K : Vs} (h : RSt w wr m it D f left cnt v K) : some m ≠ v.ownBlock ∧ some it ≠ v.ownBlock := by
  obtain ⟨es, clock, since, seen, c0, hb, F, hs, hD, hr, rest⟩ := h.ran
  refine ⟨fun e => ?_, fun e => ?_⟩
  · obtain ⟨cs, h1⟩ := own_blockV h.own e.symm
    rw [hb] at h1
    simp at h1
  · obtain ⟨cs, h1⟩ := own_blockV h.own e.symm
    rw [hr] at h1
    simp at h1
theorem RSt.alloc {w wr : World} {m it : Nat} {D : DataW Value} {f : Sc} {left : Lit → Bool} {cnt : Nat} {v : Value} {K : Vs} (h : RSt w wr m it D f left cnt v K) (O : Obj) : RSt w (wr.alloc O) m it D f left cnt v K :=
  ⟨h.ran.alloc O, below_alloc h.bel O, h.lo, h.own.alloc O, h.mem, h.dup⟩
theorem RSt.next {w wr w1 : World} {m it : Nat} {D : DataW Value} {f : Sc} {left left' : Lit → Bool} {cnt cnt1 : Nat} {v : Value} {K : Vs} (h : RSt w wr m it D f left cnt v K) (hr : w1.ranges Tryz.prog 3 inR m it (Maps.size D) D left' cnt1) (hg : wr.grownBy w1 (some it)) :
    Below w.heap.size w w1 ∧ w1.ownsRow w.heap.size 88 2 v K.length (vc K) := by
  refine ⟨h.bel.grown hg h.bel.size (by have := h.lo; intro k hk; simp at hk; omega), ?_⟩
  refine ⟨h.own.1, ?_⟩
  rcases h.own.2 with hl | ⟨g, cap, cur, e, hg1, hbl, rest⟩
  · exact .inl hl
  · refine .inr ⟨g, cap, cur, e, hg1, ?_, rest⟩
    rw [hg.block g (lt_of_block hbl) (fun c => h.ne.2 (by rw [← c, e]; rfl))]
    exact hbl
/-- one more has come -/
theorem RSt.step {w wr w1 w2 : World} {m it : Nat} {D : DataW Value} {f : Sc} {left : Lit → Bool} {cnt cnt1 : Nat} {v v2 : Value} {K : Vs} {x c : Int} (h : RSt w wr m it D f left cnt v K) (hr : w1.ranges Tryz.prog 3 inR m it (Maps.size D) D (fun z => left z && !z.sameKey (key x)) cnt1) (hg : wr.grownBy w1 (some it))
    (hl : left (key x) = true) (hf : f x = c) (hc : c ≠ 0) (hown : (w2.ownsRow w.heap.size 88 2 v2 (K.length + 1) (vc K ++ vc [(x, c)]))) (O : Obj) (hg2 : (w1.alloc O).grownBy w2 v.ownBlock) : RSt w w2 m it D f (fun z => left z && !z.sameKey (key x)) cnt1 v2 (K ++ [(x, c)]) := by
  obtain ⟨b1, o1⟩ := h.next hr hg
  have h1 : RSt w w1 m it D f (fun z => left z && !z.sameKey (key x)) cnt1 v (K ++ [(x, c)]) → True := fun _ => trivial
  have ne : some m ≠ v.ownBlock ∧ some it ≠ v.ownBlock := h.ne
  refine ⟨(hr.alloc O).kept hg2 ne.1 ne.2, ?_, h.lo, ?_, fun p => ?_, ?_⟩
  · refine (below_alloc b1 O).grown hg2 (below_alloc b1 O).size (fun k hk => ?_)
    exact (o1.lt k hk).1
  · rw [List.length_append, vc_app]; exact hown
  · rw [List.mem_append, h.mem, List.mem_singleton]
    by_cases q : p.1 = x
    · have : p.1.toNat = p.1.toNat := rfl
      rw [q]
      have hs : (key x).sameKey (key x) = true := WideAt.sameKey_self (keyLit x)
      constructor
      · rintro (⟨_, _, h3⟩ | rfl)
        · rw [hl] at h3; cases h3
        · exact ⟨hf, hc, by simp [hs]⟩
      · rintro ⟨h3, _⟩
        exact .inr (Prod.ext q (by rw [← h3, hf]))
    · have hs : (key p.1).sameKey (key x) = false := sameKey_ne (fun h => q (key_inj h))
      constructor
      · rintro (⟨h1, h2, h3⟩ | rfl)
        · exact ⟨h1, h2, by simp [h3]⟩
        · exact absurd rfl q
      · rintro ⟨h1, h2, h3⟩
        simp only [hs, Bool.not_false, Bool.and_true] at h3
        exact .inl ⟨h1, h2, h3⟩
  · rw [List.nodup_append]
    refine ⟨h.dup, by simp, fun a ha b hb e => ?_⟩
    rw [List.mem_singleton.1 hb] at e
    have := ((h.mem a).1 ha).2.2
    rw [e] at this
    simp only at this
    rw [hl] at this
    cases this

theorem rank_make (cap : Nat) (hc : cap ≤ 201) (w : World) : (Instr.makeSlice 57 (.int .i64 0) (.int .i64 (cap : Int))).run Tryz.prog w = .ok (.slice (some ⟨w.heap.size, 0, none⟩) 0 cap) (w.alloc (.cells (madeCells #[.int .i64 0, .int .i64 0] (cap * 2)) 88)) := by
  obtain ⟨i0, hii, hz0, hz1, hz2⟩ := info_parts infoVO
  have := run_make (P := Tryz.prog) w 57 88 i0 _ Tryz.underlying57 hii hz0 .i64 .i64 0 (cap : Int) (by omega) (by omega) (by rw [hz2]; omega) (by omega)
  rw [Int.toNat_natCast, hz1] at this
  exact this
theorem rank_row (cap : Nat) (hc : cap ≤ 201) (w : World) : (w.alloc (.cells (madeCells #[.int .i64 0, .int .i64 0] (cap * 2)) 88)).ownsRow w.heap.size 88 2 (.slice (some ⟨w.heap.size, 0, none⟩) 0 cap) 0 (vc []) :=
  ⟨rfl, .inr ⟨w.heap.size, cap, _, rfl, Nat.le_refl _, heap_alloc_new w _, Nat.zero_le _, by unfold maxLen; omega, by simp [madeCells], by simp [vc]⟩⟩

set_option maxHeartbeats 1000000 in
set_option maxRecDepth 100000 in
theorem ranked_some (b m : Nat) (f : Sc) (D : DataW Value) (w : World) (hk : Ok f) (c2 : w.cell? ⟨b, 2, none⟩ = some (.map (some m))) (hown : w.ownsMap Tryz.prog 3 inR m (Maps.size D) D) (hK : KM D (fun x => f x ≠ 0) f) :
    Calls Tryz.prog 150 #[.pointer (some ⟨b, 0, none⟩)] w fun e w' => ∃ v, e = .returned v ∧ w'.ownsRow w.heap.size 88 2 v (rk f).length (vc (rk f)) ∧ Below w.heap.size w w' := by
  obtain ⟨i0, hii, hz0, hz1, hz2⟩ := info_parts infoVO
  have hsz : Maps.size D = (lst f).length := hK.size (hown.entries law3) hk
  have hle := lst_len f
  have hmk := rank_make (Maps.size D) (by omega) w
  have HR := hidden (rank_row (Maps.size D) (by omega) w)
  have HO := hidden hown
  have HK := hidden hK
  have HKF := hidden hk
  have hlt := hown.lt
  have hcc := fun O => cell_alloc c2 O
  have HB0 : Hid (Below w.heap.size w (w.alloc (.cells (madeCells #[.int .i64 0, .int .i64 0] (Maps.size D * 2)) 88))) := (Below.refl _ _).alloc (Nat.le_refl _) _
  have HS0 := hidden hsz
  have HOA := hidden (fun O => hown.alloc O)
  clear hown hK hsz hk
  go_enter Tryz.func150, Tryz.ntmps150
  go_wp2_with (first
    | (at_len; refine wpList_len_own _ rfl _ 134 rfl 3 3 Tryz.underlying134 _ m (Maps.size D) D rfl HO.out ?_)
    | (at_range; refine wpList_range_own _ rfl _ 134 rfl 3 3 law3 Tryz.underlying134 _ m (Maps.size D) D rfl (HOA.out _) ?_; intro w0 hrg0 hg0 hs0))
  go_frame
  have esz : (w.alloc (.cells (madeCells #[.int .i64 0, .int .i64 0] (Maps.size D * 2)) 88)).heap.size = w.heap.size + 1 := by simp
  rw [esz] at hrg0 ⊢
  have HS1 : Hid (RSt w w0 m (w.heap.size + 1) D f (Maps.has D) (Maps.size D) (.slice (some ⟨w.heap.size, 0, none⟩) 0 (Maps.size D)) []) := by
    refine ⟨hrg0, HB0.out.grown hg0 HB0.out.size (by simp), by omega, own_below HR.out ((Below.refl _ _).grown hg0 (Nat.le_refl _) (by simp)), fun p => ?_, by simp⟩
    constructor
    · intro h; simp at h
    · rintro ⟨h1, h2, h3⟩
      rw [(HK.out.keys (key p.1)).2 ⟨p.1, by rw [h1]; exact h2, rfl⟩] at h3
      cases h3
  clear hrg0 hg0 hs0 HO HOA HB0 HR hmk hcc c2 esz
  go_loopw [3] (fun lo wr => ∃ (v : Value) (K : Vs) (left : Lit → Bool) (cnt : Nat), v = lo ∧ Hid (RSt w wr m (w.heap.size + 1) D f left cnt v K)) (fun _ wr => wr.rangeLeft m (w.heap.size + 1))
  case atStart => exact ⟨_, _, _, _, rfl, HS1⟩
  case round =>
    obtain ⟨v, K, left, cnt, rfl, HS⟩ := hrel
    clear HS1
    go_wp2_with (at_next; refine wpList_next_ranges _ rfl _ rfl 3 law3 inR (Value.int .i64) (Value.int .i64) (fun key kl hkey => by obtain ⟨x, rfl, _⟩ := Maps.keyOf_int_inv Tryz.underlying3 hkey; exact ⟨x, rfl⟩) (fun v y hv => by obtain ⟨⟨x, rfl⟩, _⟩ := inR_inv hv; exact ⟨x, rfl⟩) m (w.heap.size + 1) (Maps.size D) D left cnt rfl HS.out.ran ?_ ?_)
    · intro _ hl0
      have hp : K.Perm (lst f) := nodup_perm HS.out.dup (rises_nodup (lst_rises f)) fun p => by
        rw [HS.out.mem, mem_lst HKF.out]
        constructor
        · rintro ⟨h1, h2, _⟩; exact ⟨h1, h2⟩
        · rintro ⟨h1, h2⟩; exact ⟨h1, h2, hl0 _⟩
      have hkl : K.length = (rk f).length := by rw [rk_len]; exact hp.length_eq
      have C := hidden (sortV_calls v w.heap.size K.length K wr HS.out.own (by rw [hp.length_eq]; omega))
      have HP := hidden (rk_of hp)
      have HL := hidden hkl
      clear hp hkl hl0
      go_wp2_with fail
      refine C.out.mono ?_
      rintro e w1 ⟨rfl, h1, h2⟩
      rw [HP.out] at h1
      have H1 := hidden h1
      have HB : Hid (Below w.heap.size w w1) := HS.out.bel.grown h2 HS.out.bel.size (fun k hk => (HS.out.own.lt k hk).1)
      clear h1 h2 C
      go_wp2_with fail
      go_ret
      exact ⟨v, rfl, by have := H1.out; rw [HL.out] at this; exact this, HB.out⟩
    · intro x c kl yd yp w1 cnt1 hkey hlk hv hat hrg1 hlt1 hg1 hs1 hen
      obtain ⟨x', ex, rfl, hwx⟩ := Maps.keyOf_int_inv Tryz.underlying3 hkey
      cases ex
      obtain ⟨i, hi, ei⟩ := (HK.out.keys (key x)).1 (has_true_of_atKey hat)
      obtain rfl := key_inj ei
      have ed := (inR_inv hv).2
      simp only [Prod.mk.injEq] at ed
      have hfx : f x = c := by
        have := (HK.out.els x hi .nil).symm.trans ((hat .nil).trans ed.1)
        simpa using this
      have HST := hidden (fun v2 w2 hown hg2 => HS.out.step (v2 := v2) (w2 := w2) hrg1 hg1 hlk hfx (by rw [← hfx]; exact hi) hown (.cells #[.int .i64 x, .int .i64 c] 88) hg2)
      have HN := hidden (VBox.new w1 (x, c)).news
      obtain ⟨b1, o1⟩ := HS.out.next hrg1 hg1
      have HO1 := hidden (o1.alloc (.cells #[.int .i64 x, .int .i64 c] 88))
      have hb1 := b1.size
      have hkl : K.length ≤ 201 := by
        have h1 : K.length ≤ (lst f).length := List.Nodup.length_le_of_subset HS.out.dup fun p hp => (mem_lst HKF.out p).2 ⟨((HS.out.mem p).1 hp).1, ((HS.out.mem p).1 hp).2.1⟩
        omega
      have HLE : Hid (cnt1 < cnt) := hlt1
      clear hrg1 hg1 hi ei ed hat hv b1 o1 hfx hlk hs1 hlt1
      go_wp2_with (at_builtin; refine wpList_append_own _ rfl _ _ 57 rfl w.heap.size 88 i0 _ 2 16 Tryz.underlying57 hii hz0 hz1 hz2 rfl (by decide) _ K.length (vc K) rfl HO1.out ⟨w1.heap.size, 0, none⟩ 1 1 (vc [(x, c)]) rfl rfl ?news (vc_cell _) ?b1 ?b2 ?b3 ?next)
      case news => first | exact HN.out | (intro j u h; exact h)
      case b1 => unfold maxLen; omega
      case b2 => omega
      case b3 => first | omega | (simp; omega)
      case next =>
        intro v2 w2 hown hgrow _
        have HS2 := hidden (HST.out v2 w2 hown hgrow)
        clear hown hgrow HST
        go_wp2_with fail
        go_roundw
        case rel => exact ⟨v2, _, _, cnt1, rfl, HS2⟩
        case measure => rw [HS2.out.ran.left_eq, HS.out.ran.left_eq]; exact HLE.out
set_option maxHeartbeats 1000000 in
theorem ranked_none (b : Nat) (f : Sc) (w : World) (hk : Ok f) (c2 : w.cell? ⟨b, 2, none⟩ = some (.map none)) (h0 : ∀ x, f x = 0) :
    Calls Tryz.prog 150 #[.pointer (some ⟨b, 0, none⟩)] w fun e w' => ∃ v, e = .returned v ∧ w'.ownsRow w.heap.size 88 2 v (rk f).length (vc (rk f)) ∧ Below w.heap.size w w' := by
  have e0 : rk f = [] := rk_nil.2 ((lst_nil hk).2 h0)
  rw [e0]
  have hmk : (Instr.makeSlice 57 (.int .i64 0) (.int .i64 0)).run Tryz.prog w = .ok (.slice (some ⟨w.heap.size, 0, none⟩) 0 0) (w.alloc (.cells (madeCells #[.int .i64 0, .int .i64 0] (0 * 2)) 88)) := rank_make 0 (by omega) w
  have hr := rank_row 0 (by omega) w
  have hcc := fun O => cell_alloc c2 O
  obtain ⟨w1, hw1⟩ : ∃ w1, w.alloc (.cells (madeCells #[.int .i64 0, .int .i64 0] (0 * 2)) 88) = w1 := ⟨_, rfl⟩
  have hc1 := hcc (.cells (madeCells #[.int .i64 0, .int .i64 0] (0 * 2)) 88)
  have HB : Hid (Below w.heap.size w w1) := by rw [← hw1]; exact (Below.refl _ _).alloc (Nat.le_refl _) _
  rw [hw1] at hmk hr hc1
  have hrg := run_range_nilMap (P := Tryz.prog) w1 134 _ _ Tryz.underlying134
  have hnx : ∀ ty, (Instr.next (.pointer (some ⟨w1.heap.size, 0, none⟩)) false ty).run Tryz.prog (w1.alloc (.mapIter none 0 #[] 0)) = _ := fun ty => run_next_nilMap _ ty 0 0 #[]
  have HR := hidden hr
  have C := hidden (sortV_calls (.slice (some ⟨w.heap.size, 0, none⟩) 0 0) w.heap.size 0 [] (w1.alloc (.mapIter none 0 #[] 0)) (hr.alloc _) (by omega))
  have HL : Hid (∀ k, (Value.slice (some ⟨w.heap.size, 0, none⟩) 0 0).ownBlock = some k → w.heap.size ≤ k) := fun k hk => (hr.lt k hk).1
  clear hw1 hcc h0 hk e0 hr
  go_enter Tryz.func150, Tryz.ntmps150
  go_wp2_with fail
  refine wp_loop_rounds 1 ?_
  rw [rounds_succ]
  go_wp2_with fail
  refine C.out.mono ?_
  rintro e w2 ⟨rfl, h1, h2⟩
  have H1 := hidden h1
  have H2 : Hid (Below w.heap.size w w2) := (below_alloc HB.out (.mapIter none 0 #[] 0)).grown h2 (below_alloc HB.out _).size HL.out
  clear h1 h2 C
  go_wp2_with fail
  go_ret
  exact ⟨_, rfl, by have := H1.out; simpa using this, H2.out⟩
theorem ranked_calls (b : Nat) (mo : Option Nat) (many sp : Int) (f : Sc) (w : World) (h : VAt w b mo many sp f) (hk : Ok f) :
    Calls Tryz.prog 150 #[.pointer (some ⟨b, 0, none⟩)] w fun e w' => ∃ v, e = .returned v ∧ w'.ownsRow w.heap.size 88 2 v (rk f).length (vc (rk f)) ∧ Below w.heap.size w w' := by
  rcases h.map with ⟨rfl, h0⟩ | ⟨m, D, rfl, h1, h2⟩
  · exact ranked_none b f w hk h.cells.2.2 h0
  · exact ranked_some b m f D w hk h.cells.2.2 h1 h2
end Go.Proofs.YtbadpjgiogghdaaGreatDoor.Voice

