/-
  The walk of the Go function VoiceSpeaks: it returns true at any number, any rounds of voices and any number more.
-/
import Derived.Test.YtjhfjkacfnccdahVoiceF
import Derived.Test.YtjhfjkacfnccdahVoiceMath2
import Derived.Test.YtjhfjkacfnccdahOpenV
import Derived.LoopTactic
import Derived.Deep.LoopGhost
import Derived.Deep.CutRange
namespace Go.Proofs.Ytjhfjkacfnccdah.Speaks
open Go.ChangeShapes Go.WideShapes Go.ChangeAt Go.RowKit Go.Maps Go.Proofs.Ytjhfjkacfnccdah.Mem Go.Proofs.Ytjhfjkacfnccdah.VO Go.Proofs.Ytjhfjkacfnccdah.Voice Go.Proofs.Ytjhfjkacfnccdah.Open
set_option linter.unusedVariables false

theorem who_nodup (f : Sc) : ((rk f).map Prod.fst).Nodup := by
  have h : ((lst f).map Prod.fst).Nodup := by
    rw [List.nodup_iff_pairwise_ne, List.pairwise_map]
    exact (lst_rises f).imp fun hp e => by omega
  exact (((rk_perm f).map Prod.fst).nodup_iff).2 h
theorem rest_nodup (f : Sc) (many : Int) : (rest f many).Nodup := by
  unfold rest
  rw [List.map_drop]
  exact (who_nodup f).sublist (List.drop_sublist _ _)
theorem qt_rises (f : Sc) (many : Int) : (qt f many).Pairwise fun x y => x < y := by
  have h1 := List.pairwise_mergeSort (le := fun x y : Int => decide (x ≤ y)) (fun a b c h1 h2 => by simp at *; omega) (fun a b => by simp; omega) (rest f many)
  have h2 : (qt f many).Nodup := ((List.mergeSort_perm (rest f many) (fun x y => decide (x ≤ y))).nodup_iff).2 (rest_nodup f many)
  refine (h1.and (List.nodup_iff_pairwise_ne.1 h2)).imp ?_
  rintro a b ⟨h3, h4⟩
  simp at h3
  omega
theorem getD_mem {l : Vs} {k : Nat} (h : k < l.length) : l.getD k (0, 0) ∈ l := by
  rw [List.getD_eq_getElem?_getD, List.getElem?_eq_getElem h]; exact List.getElem_mem _
theorem top_pos {f : Sc} (hk : Ok f) {many : Int} {k : Nat} (h : k < (top f many).length) : 1 ≤ ((top f many).getD k (0, 0)).2 := by
  unfold top at *
  have hm := List.mem_of_mem_take (getD_mem h)
  obtain ⟨h1, h2⟩ := (rk_mem hk _).1 hm
  have := hk.lo (((rk f).take many.toNat).getD k (0, 0)).1
  rw [h1] at this
  omega
theorem top_falls (f : Sc) (many : Int) {k : Nat} (h : k + 1 < (top f many).length) : ((top f many).getD (k + 1) (0, 0)).2 < ((top f many).getD k (0, 0)).2 ∨ ((top f many).getD (k + 1) (0, 0)).2 = ((top f many).getD k (0, 0)).2 ∧ ((top f many).getD k (0, 0)).1 < ((top f many).getD (k + 1) (0, 0)).1 := by
  have hp : (top f many).Pairwise fun x y => lt x y = true := (rk_strict f).sublist (List.take_sublist _ _)
  have := List.pairwise_iff_getElem.1 hp k (k + 1) (by omega) h (by omega)
  rw [List.getD_eq_getElem?_getD, List.getD_eq_getElem?_getD, List.getElem?_eq_getElem h, List.getElem?_eq_getElem (by omega)]
  exact (lt_iff _ _).1 this
theorem qt_up (f : Sc) (many : Int) {k : Nat} (h : k + 1 < (qt f many).length) : (qt f many).getD k 0 < (qt f many).getD (k + 1) 0 := by
  have := List.pairwise_iff_getElem.1 (qt_rises f many) k (k + 1) (by omega) h (by omega)
  rw [List.getD_eq_getElem?_getD, List.getD_eq_getElem?_getD, List.getElem?_eq_getElem h, List.getElem?_eq_getElem (by omega)]
  exact this
/-- is the speaker among the first ones -/
def inT (T : Vs) (sp : Int) (k : Nat) : Bool := (T.take k).any fun p => p.1 == sp
def inQ (Q : List Int) (sp : Int) (k : Nat) : Bool := (Q.take k).any fun x => x == sp
theorem inT_succ {T : Vs} {sp : Int} {k : Nat} (h : k < T.length) : inT T sp (k + 1) = (inT T sp k || (T.getD k (0, 0)).1 == sp) := by
  unfold inT
  rw [take_succ' h, List.any_append]
  simp
theorem inQ_succ {Q : List Int} {sp : Int} {k : Nat} (h : k < Q.length) : inQ Q sp (k + 1) = (inQ Q sp k || Q.getD k 0 == sp) := by
  unfold inQ
  rw [← List.take_append_getElem h, List.any_append, List.getD_eq_getElem?_getD, List.getElem?_eq_getElem h]
  simp
theorem sp_in {f : Sc} {sp : Int} (h : Inv f sp) (hr : rk f ≠ []) (many : Int) : (inT (top f many) sp (top f many).length || inQ (qt f many) sp (qt f many).length) = true := by
  rcases h.sp with ⟨h1, _⟩ | ⟨_, _, h2⟩
  · exact absurd (rk_nil.2 h1) hr
  · have hm : (sp, f sp) ∈ rk f := (rk_mem h.ok _).2 ⟨rfl, h2⟩
    rw [← List.take_append_drop many.toNat (rk f)] at hm
    unfold inT inQ
    rw [List.take_length, List.take_length, Bool.or_eq_true, List.any_eq_true, List.any_eq_true]
    rcases List.mem_append.1 hm with hm | hm
    · exact .inl ⟨_, hm, by simp⟩
    · refine .inr ⟨sp, ?_, by simp⟩
      unfold qt
      rw [(List.mergeSort_perm _ _).mem_iff]
      exact List.mem_map.2 ⟨_, hm, rfl⟩
/-- what is in memory between rounds -/
structure SSt (w wr : World) (b : Nat) (many : Int) (f : Sc) (sp : Int) : Prop where
  at_ : ∃ mo, VAt wr b mo many sp f
  inv : Inv f sp
  bel : Below w.heap.size w wr
  lo : w.heap.size ≤ b
theorem SSt.below {w wr w' : World} {b : Nat} {many : Int} {f : Sc} {sp : Int} (h : SSt w wr b many f sp) (hb : Below wr.heap.size wr w') : SSt w w' b many f sp := by
  obtain ⟨mo, h1⟩ := h.at_
  exact ⟨⟨mo, h1.below hb⟩, h.inv, h.bel.trans (hb.mono h.bel.size), h.lo⟩
theorem SSt.cell {w wr : World} {b : Nat} {many : Int} {f : Sc} {sp : Int} (h : SSt w wr b many f sp) : wr.cell? ⟨b, 1, none⟩ = some (.int .i64 sp) := by
  obtain ⟨mo, h1⟩ := h.at_
  exact h1.cells.2.1
theorem s_hear {w wr : World} {b n cap : Nat} {a : Option Addr} {many : Int} {f : Sc} {sp : Int} {l : Vs} (h : SSt w wr b many f sp) (hA : VArg wr a n l) :
    Calls Try.prog 12 #[.pointer (some ⟨b, 0, none⟩), .slice a n cap] wr fun e w' => e = .returned (errv (hf f l)) ∧ SSt w w' b many (stF f l) (stS f sp l) := by
  obtain ⟨mo, h1⟩ := h.at_
  refine (hear_calls b n cap mo a many sp f l wr h1 h.inv hA).mono ?_
  rintro e w' ⟨rfl, mo', g1, g2, _⟩
  exact ⟨rfl, ⟨mo', g1⟩, inv_st h.inv l, h.bel.trans (g2.below h.bel.size (by simp; exact h.lo)), h.lo⟩
theorem s_top {w wr : World} {b : Nat} {many : Int} {f : Sc} {sp : Int} (h : SSt w wr b many f sp) (h0 : 1 ≤ many) (h1 : many ≤ 20) :
    Calls Try.prog 13 #[.pointer (some ⟨b, 0, none⟩)] wr fun e w' => ∃ a cap, e = .returned (.slice a (top f many).length cap) ∧ VArg w' a (top f many).length (top f many) ∧ SSt w w' b many f sp := by
  obtain ⟨mo, hV⟩ := h.at_
  refine (top_calls b mo many sp f wr hV h.inv.ok h0 h1).mono ?_
  rintro e w' ⟨a, cap, rfl, g1, _, g3⟩
  exact ⟨a, cap, rfl, g1, h.below g3⟩
theorem s_quiet {w wr : World} {b : Nat} {many : Int} {f : Sc} {sp : Int} (h : SSt w wr b many f sp) (h0 : 1 ≤ many) (h1 : many ≤ 20) :
    Calls Try.prog 15 #[.pointer (some ⟨b, 0, none⟩)] wr fun e w' => ∃ a cap, e = .returned (.slice a (qt f many).length cap) ∧ IArg w' a (qt f many).length (qt f many) ∧ SSt w w' b many f sp ∧ Below wr.heap.size wr w' := by
  obtain ⟨mo, hV⟩ := h.at_
  refine (quiet_calls b mo many sp f wr hV h.inv.ok h0 h1).mono ?_
  rintro e w' ⟨a, cap, rfl, g1, g3⟩
  exact ⟨a, cap, rfl, g1, h.below g3, g3⟩
theorem s_speaker {w wr : World} {b : Nat} {many : Int} {f : Sc} {sp : Int} (h : SSt w wr b many f sp) :
    Calls Try.prog 14 #[.pointer (some ⟨b, 0, none⟩)] wr fun e w' => e = .returned (.int .i64 sp) ∧ w' = wr := speaker_calls b sp wr h.cell
/-- one alone, of which the rounds are known -/
theorem two_arg (w : World) (p q L M : Int) : VArg (w.alloc (.cells #[.int .i64 p, .int .i64 L, .int .i64 q, .int .i64 M] 41)) (some ⟨w.heap.size, 0, none⟩) 2 [(p, L), (q, M)] := by
  refine ⟨fun j hj => ⟨w.heap.size, 0, rfl, ?_⟩, rfl, by omega⟩
  have hb : (w.alloc (.cells #[.int .i64 p, .int .i64 L, .int .i64 q, .int .i64 M] 41)).heap[w.heap.size]? = some (.cells #[.int .i64 p, .int .i64 L, .int .i64 q, .int .i64 M] 41 (0, 0)) := heap_alloc_new w _
  rcases (show j = 0 ∨ j = 1 by simp at hj; omega) with rfl | rfl <;> constructor <;> (unfold World.cell?; rw [hb]; rfl)
def f1 : Sc := nx (fun _ => 0) [(4, 10), (3, 20)]
theorem f1_is : f1 = two 4 3 160 320 := by
  funext x
  show dec 0 + 16 * lev [(4, 10), (3, 20)] x = _
  simp only [lev]
  by_cases h1 : x = 4
  · subst h1; rw [two_a]; decide
  · by_cases h2 : x = 3
    · subst h2; rw [two_b (by decide)]; decide
    · rw [two_o h1 h2, if_neg (fun e => h1 e.symm), if_neg (fun e => h2 e.symm), dec_zero]; rfl
theorem f1_ok : Ok f1 := by rw [f1_is]; exact ok_two (by decide) (by decide) (by decide) (by decide) ⟨by decide, by decide⟩ ⟨by decide, by decide⟩
theorem f1_best : Best f1 (3, 320) := by rw [f1_is]; exact best_b (by decide) (by decide) (by decide) (.inl (by decide))
theorem hf1 : hf (fun _ => 0) [(4, 10), (3, 20)] = 0 := by
  refine hf_zero.2 ⟨by simp, ⟨fun x hx => ?_, by simp⟩, ?_⟩
  · rw [okv_iff]
    rcases List.mem_cons.1 hx with rfl | hx
    · decide
    · rw [List.mem_singleton.1 hx]; decide
  · show (lst f1).length ≤ 200
    rw [f1_is]; exact lst_two _ _ _ _
theorem sp1 : spk f1 (-1) = 3 := by
  have h : f1 (-1) = 0 := by rw [f1_is]; exact two_o (by decide) (by decide) _ _
  rw [spk_best f1_ok f1_best, if_pos (.inl h)]
theorem top1 : top f1 1 = [(3, 320)] := by
  obtain ⟨t, e⟩ := best_rk f1_ok f1_best
  unfold top
  rw [e]
  rfl
theorem one_new (w : World) : Calls Try.prog 11 #[.int .i64 1] w fun e w' => e = .returned (.tuple #[.pointer (some ⟨w.heap.size, 0, none⟩), .nilIface]) ∧ Hid (SSt w w' w.heap.size 1 (fun _ => 0) (-1)) := by
  refine (new_ok 1 w (by omega) (by omega)).mono ?_
  rintro e w' ⟨rfl, h1, h2⟩
  exact ⟨rfl, ⟨⟨none, h1⟩, inv_zero, h2, Nat.le_refl _⟩⟩
theorem one_hear {w wr : World} {b : Nat} (h : SSt w wr b 1 (fun _ => 0) (-1)) :
    Calls Try.prog 12 #[.pointer (some ⟨b, 0, none⟩), .slice (some ⟨wr.heap.size, 0, none⟩) 2 2] (wr.alloc (.cells #[.int .i64 4, .int .i64 10, .int .i64 3, .int .i64 20] 41)) fun e w' => e = .returned .nilIface ∧ Hid (SSt w w' b 1 f1 3) := by
  refine (s_hear (h.below ((Below.refl _ _).alloc (Nat.le_refl _) _)) (two_arg wr 4 3 10 20)).mono ?_
  rintro e w' ⟨rfl, h1⟩
  unfold stS stF at h1
  rw [hf1, if_pos rfl, if_pos rfl] at h1
  rw [hf1]
  have e2 : spk (nx (fun _ => 0) [(4, 10), (3, 20)]) (-1) = 3 := sp1
  rw [e2] at h1
  exact ⟨rfl, h1⟩
theorem one_top {w wr : World} {b : Nat} (h : SSt w wr b 1 f1 3) :
    Calls Try.prog 13 #[.pointer (some ⟨b, 0, none⟩)] wr fun e w' => ∃ g o cap, e = .returned (.slice (some ⟨g, o, none⟩) 1 cap) ∧ w'.cell? ⟨g, o + 1, none⟩ = some (.int .i64 320) ∧ Hid (SSt w w' b 1 f1 3) := by
  refine (s_top h (by omega) (by omega)).mono ?_
  rintro e w' ⟨a, cap, rfl, h1, h2⟩
  rw [top1] at h1 ⊢
  obtain ⟨g, o, rfl, _, hcs⟩ := h1.at (by simp)
  have := (hcs 0 (by simp)).2
  simp only [Nat.zero_mul, Nat.add_zero] at this
  exact ⟨g, o, cap, rfl, this, h2⟩
theorem many_new (many : Int) (w W : World) (hb : Below w.heap.size w W) (h0 : 1 ≤ many) (h1 : many ≤ 20) : Calls Try.prog 11 #[.int .i64 many] W fun e w' => e = .returned (.tuple #[.pointer (some ⟨W.heap.size, 0, none⟩), .nilIface]) ∧ Hid (SSt w w' W.heap.size many (fun _ => 0) (-1)) := by
  refine (new_ok many W h0 h1).mono ?_
  rintro e w' ⟨rfl, g1, g2⟩
  exact ⟨rfl, ⟨⟨none, g1⟩, inv_zero, hb.trans (g2.mono hb.size), hb.size⟩⟩
/-- a round, with what it comes to -/
theorem r_hear {w wr : World} {b n cap : Nat} {a : Option Addr} {many : Int} {f : Sc} {sp : Int} {l : Vs} (h : SSt w wr b many f sp) (hA : VArg wr a n l) :
    Calls Try.prog 12 #[.pointer (some ⟨b, 0, none⟩), .slice a n cap] wr fun e w' => ∃ f' sp', (e = .returned .nilIface ∨ e = .returned (.iface 46 (.int .i64 (hf f l : Int)))) ∧ Hid (SSt w w' b many f' sp') := by
  refine (s_hear h hA).mono ?_
  rintro e w' ⟨rfl, h1⟩
  refine ⟨_, _, ?_, h1⟩
  by_cases q : hf f l = 0
  · exact .inl (by rw [q]; rfl)
  · exact .inr (by rw [errv_pos q])
/-- nobody is heard: the scores are below what they may be -/
structure NSt (w wr : World) (b : Nat) (many : Int) (j : Nat) : Prop where
  st : ∃ f sp, SSt w wr b many f sp ∧ ∀ x, f x ≤ dn j
theorem n_hear {w wr : World} {b j : Nat} {many : Int} (h : NSt w wr b many j) :
    Calls Try.prog 12 #[.pointer (some ⟨b, 0, none⟩), .slice none 0 0] wr fun e w' => e = .returned .nilIface ∧ Hid (NSt w w' b many (j + 1)) := by
  obtain ⟨f, sp, h1, h2⟩ := h.st
  refine (s_hear h1 (VArg.nil wr none)).mono ?_
  rintro e w' ⟨rfl, g1⟩
  have hz := hf_nil h1.inv
  unfold stS stF at g1
  rw [hz, if_pos rfl, if_pos rfl] at g1
  rw [hz]
  exact ⟨rfl, ⟨_, _, g1, fun x => by rw [nx_nil]; exact dec_mono (h2 x)⟩⟩
theorem n_end {w wr : World} {b : Nat} {many : Int} (h : NSt w wr b many 200) : ∃ f, SSt w wr b many f (-1) ∧ top f many = [] := by
  obtain ⟨f, sp, h1, h2⟩ := h.st
  have hz : ∀ x, f x = 0 := fun x => by
    have e : dn 200 = 0 := dn_end 100
    have := h2 x
    have := h1.inv.ok.lo x
    omega
  have hl := (lst_nil h1.inv.ok).2 hz
  have hs : sp = -1 := by
    rcases h1.inv.sp with ⟨_, h⟩ | ⟨_, _, h⟩
    · exact h
    · exact absurd (hz sp) h
  rw [hs] at h1
  exact ⟨f, h1, by unfold top; rw [rk_nil.2 hl]; simp⟩
set_option maxHeartbeats 4000000 in
set_option maxRecDepth 100000 in
theorem walk_in (many who : Int) (a : Option Addr) (nr cap : Nat) (Z : Nat → Vs) (w : World) (hR : VRows w a nr Z) (h0 : 1 ≤ many) (h1 : many ≤ 20) :
    Calls Try.prog 5 #[.int .i64 many, .slice a nr cap, .int .i64 who] w fun e w' => e = .returned (.bool true) ∧ Below w.heap.size w w' := by
  have HN := hidden (one_new w)
  have HR := hidden hR
  have hnr := hR.1
  clear hR
  go_enter Try.func5, Try.ntmps5
  go_wp2_with fail
  refine HN.out.mono ?_
  rintro e w1 ⟨rfl, h2⟩
  have HC := hidden (one_hear h2.out)
  obtain ⟨b1, hb1⟩ : ∃ b1, w.heap.size = b1 := ⟨_, rfl⟩
  rw [hb1] at HC
  rw [hb1]
  have HB1 := hidden hb1
  clear h2 HN hb1
  go_wp2_with fail
  refine HC.out.mono ?_
  rintro e w2 ⟨rfl, h2⟩
  have HC := hidden (one_top h2.out)
  clear h2
  go_wp2_with fail
  refine HC.out.mono ?_
  rintro e w3 ⟨g, o, cp, rfl, hc3, h2⟩
  have HSp := hidden (s_speaker h2.out)
  have HMN := hidden (many_new many w w3 h2.out.bel h0 h1)
  clear HC
  go_wp2_with fail
  refine HSp.out.mono ?_
  rintro e w4 ⟨rfl, rfl⟩
  go_wp2_with fail
  refine HMN.out.mono ?_
  rintro e w5 ⟨rfl, h5⟩
  have hsz : b1 ≤ w4.heap.size := by have := h2.out.bel.size; rw [HB1.out] at this; exact this
  obtain ⟨b, hb⟩ : ∃ b, w4.heap.size = b := ⟨_, rfl⟩
  rw [hb] at h5 ⊢
  clear HSp HMN h2 hc3 hb hsz HB1
  go_wp2_with fail
  go_loopg [13] 30 (fun g y wr => ∃ (i : Nat) (f : Sc) (sp : Int), i + g = 30 ∧ y = .int .i64 (i : Int) ∧ Hid (SSt w wr b many f sp))
  case atStart => exact ⟨0, _, _, by omega, rfl, h5⟩
  case round =>
    obtain ⟨i, f, sp, hig, rfl, HS⟩ := hrel
    clear h5
    by_cases hi : i < nr ∧ i < 30
    · obtain ⟨hi1, hi2⟩ := hi
      have d1 : decide ((i : Int) < (nr : Int)) = true := by simp; omega
      have d2 : decide ((i : Int) < 30) = true := by simp; omega
      obtain ⟨gb, o', a', l', c', rfl, hgl, hcell, hV⟩ := (HR.out.below HS.out.bel).2 i hi1
      have HC := hidden (r_hear (cap := c') HS.out hV)
      obtain ⟨er, her⟩ : ∃ er, hf f (Z i) = er := ⟨_, rfl⟩
      rw [her] at HC
      clear hV her
      go_wp2_with fail
      refine HC.out.mono ?_
      rintro e w6 ⟨f', sp', he, h6⟩
      have HS6 := h6
      clear HC HS h6
      rcases he with rfl | rfl
      rotate_left
      · go_wp2_with fail
        go_roundg (30 - (i + 1))
        case measure => omega
        case rel => exact ⟨i + 1, f', sp', by omega, by go_num, HS6⟩
      · have HC := hidden (s_top HS6.out h0 h1)
        clear hcell hgl
        go_wp2_with fail
        refine HC.out.mono ?_
        rintro e w7 ⟨ta, tc, rfl, hT, h7⟩
        have HC := hidden (s_quiet h7 h0 h1)
        have HTA := hidden hT
        clear hT h7
        go_wp2_with fail
        refine HC.out.mono ?_
        rintro e w8 ⟨qa, qc, rfl, hQ, h8, hb8⟩
        have hl1 := top_len f' many
        have hl2 := qt_len f' many
        have hni := HS6.out.inv
        have HP1 : Hid (∀ k, k < (top f' many).length → 1 ≤ ((top f' many).getD k (0, 0)).2) := fun k hk => top_pos hni.ok hk
        have HP2 := hidden (fun k hk => top_falls f' many (k := k) hk)
        have HP3 := hidden (fun k hk => qt_up f' many (k := k) hk)
        have HP4 := hidden (fun hr => sp_in hni hr many)
        obtain ⟨T, hT⟩ : ∃ T, top f' many = T := ⟨_, rfl⟩
        obtain ⟨Q, hQ2⟩ : ∃ Q, qt f' many = Q := ⟨_, rfl⟩
        have HTA8 := hidden (HTA.out.below hb8)
        have HQA := hidden hQ
        have HS8 := hidden h8
        rw [hT] at HTA8 HP1 HP2 HP4 hl1 ⊢
        rw [hQ2] at HQA HP3 HP4 hl2 ⊢
        have hrr : (rk f').length = 0 ↔ sp' = -1 := by
          rcases hni.sp with ⟨q1, q2⟩ | ⟨q1, q2, q3⟩
          · rw [rk_len, q1]; simp [q2]
          · constructor
            · intro q4
              have := (lst_nil hni.ok).1 (rk_nil.1 (List.eq_nil_of_length_eq_zero q4)) sp'
              exact absurd this q3
            · intro q4; omega
        have hsp0 : -1 ≤ sp' := by rcases hni.sp with ⟨_, q⟩ | ⟨q, _⟩ <;> omega
        have HR4 : Hid ((rk f').length ≠ 0 → (inT T sp' T.length || inQ Q sp' Q.length) = true) := fun q => HP4.out (fun e => q (by rw [e]; rfl))
        obtain ⟨nk, hnk⟩ : ∃ nk, (rk f').length = nk := ⟨_, rfl⟩
        rw [hnk] at hl1 hl2 hrr HR4
        obtain ⟨n1, hn1⟩ : ∃ n1, T.length = n1 := ⟨_, rfl⟩
        obtain ⟨n2, hn2⟩ : ∃ n2, Q.length = n2 := ⟨_, rfl⟩
        rw [hn1] at HTA8 HP1 HP2 hl1 HR4 ⊢
        rw [hn2] at HQA HP3 hl2 HR4 ⊢
        have HN1 := hidden hn1
        have HN2 := hidden hn2
        have hnk2 : nk ≤ 201 := by have := lst_len f'; have := rk_len f'; omega
        clear hT hQ2 hnk hn1 hn2 hQ h8 hb8 HTA HC HS6 HP4 hni
        have HSp := hidden (s_speaker HS8.out)
        have HLen : Hid (n1 = min many.toNat nk ∧ n2 = nk - many.toNat ∧ (nk = 0 ↔ sp' = -1) ∧ -1 ≤ sp' ∧ nk ≤ 201) := ⟨hl1, hl2, hrr, hsp0, hnk2⟩
        have hb1' : n1 ≤ 20 := by omega
        have hb2' : n2 ≤ 201 := by omega
        clear hl1 hl2 hrr hsp0 hnk2
        go_upto_region 18 with fail
        go_cut [16, 88, 112] from 89 to 112 (fun q q2 c wx => q = .slice qa n2 qc ∧ q2 = .slice qa n2 qc ∧ c = .bool false ∧ wx = w8)
        case first =>
          obtain ⟨g1, g2, g3, g4, g5⟩ := HLen.out
          have d3 : decide (many < (n1 : Int)) = false := by simp; omega
          by_cases hz : n1 = 0
          · have d4 : decide (sp' < 0) = true := by simp; omega
            have d5 : ((n1 : Int) == 0) = true := by simp; omega
            have d6 : decide ((n1 : Int) < many) = true := by simp; omega
            have d7 : decide (0 < (n2 : Int)) = false := decide_eq_false (by omega)
            have HZ : Hid (n2 = 0) := by unfold Hid; omega
            clear g1 g2 g3 g4 g5 hz HLen
            go_wp2_with fail
            refine HSp.out.mono ?_
            rintro e w9 ⟨rfl, rfl⟩
            go_wp2_with fail
            go_meet
            exact ⟨by rw [HZ.out], by rw [HZ.out], rfl, rfl⟩
          · have d4 : decide (sp' < 0) = false := by simp; omega
            have d5 : ((n1 : Int) == 0) = false := by simp; omega
            by_cases hy : (n1 : Int) < many
            · have d6 : decide ((n1 : Int) < many) = true := by simpa using hy
              have d7 : decide (0 < (n2 : Int)) = false := decide_eq_false (by omega)
              have HZ : Hid (n2 = 0) := by unfold Hid; omega
              clear g1 g2 g3 g4 g5 hz hy HLen
              go_wp2_with fail
              refine HSp.out.mono ?_
              rintro e w9 ⟨rfl, rfl⟩
              go_wp2_with fail
              go_meet
              exact ⟨by rw [HZ.out], by rw [HZ.out], rfl, rfl⟩
            · have d6 : decide ((n1 : Int) < many) = false := by simpa using hy
              clear g1 g2 g3 g4 g5 hz hy HLen
              go_wp2_with fail
              refine HSp.out.mono ?_
              rintro e w9 ⟨rfl, rfl⟩
              go_wp2_with fail
              go_meet
              exact ⟨rfl, rfl, rfl, rfl⟩
        case rest =>
        obtain ⟨rfl, rfl, rfl, rfl⟩ := hcut
        obtain ⟨wA, rfl⟩ : ∃ x, x = wc := ⟨_, rfl⟩
        go_wp2_with fail
        go_loopg [17, 18] n1 (fun g u y wr => ∃ (k : Nat), k + g = n1 ∧ u = .bool (inT T sp' k) ∧ y = .int .i64 (k : Int) ∧ Hid (Below wA.heap.size wA wr))
        case atStart => exact ⟨0, by omega, rfl, rfl, Below.refl _ _⟩
        case round =>
          obtain ⟨k, hkg, rfl, rfl, HW⟩ := hrel
          by_cases hk : k < n1
          · have hkz : (k : Int) < (n1 : Int) := by omega
            have HIN : Hid (inT T sp' (k + 1) = (inT T sp' k || (T.getD k (0, 0)).1 == sp')) := inT_succ (by rw [HN1.out]; exact hk)
            have HSp2 : Hid (∀ W : World, W.cell? ⟨b, 1, none⟩ = some (.int .i64 sp') → Calls Try.prog 14 #[.pointer (some ⟨b, 0, none⟩)] W fun e w' => e = .returned (.int .i64 sp') ∧ w' = W) := fun W hW => speaker_calls b sp' W hW
            have HPS := hidden (HP1.out k (by omega))
            obtain ⟨x, y, hp⟩ : ∃ x y, T.getD k (0, 0) = (x, y) := ⟨_, _, rfl⟩
            rw [hp] at HIN HPS
            have HPd := hidden hp
            simp only at HIN HPS
            clear hp
            go_upto_region 24 with fail
            go_cut [17] from 119 to 129 (fun c wx => c = .bool (inT T sp' (k + 1)) ∧ Hid (Below wA.heap.size wA wx))
            case first =>
              obtain ⟨tb, to', rfl, htb, hcs⟩ := (HTA8.out.below HW.out).at (by omega)
              obtain ⟨k0, k1⟩ := hcs k hk
              rw [HPd.out] at k0 k1
              simp only at k0 k1
              have csp := (HS8.out.below HW.out).cell
              clear hcs
              cases hin : inT T sp' k with
              | true =>
                have HIk := hidden hin
                clear hin
                go_wp2_with fail
                go_quiet (fail)
                go_wp2_with fail
                go_meet
                exact ⟨by rw [HIN.out, HIk.out]; rfl, below_drewN HW.out _⟩
              | false =>
                have HIk := hidden hin
                clear hin
                go_wp2_with fail
                go_quiet ((go_at_call 14; exact Calls.quiet_of_same (HSp2.out _ (by first | exact csp | assumption))))
                go_wp2_with fail
                go_meet
                exact ⟨by rw [HIN.out, HIk.out]; rfl, below_drewN HW.out _⟩
            case rest =>
            obtain ⟨rfl, HWq⟩ := hcut
            clear HW HSp2
            obtain ⟨wq, rfl⟩ : ∃ x, x = wc := ⟨_, rfl⟩
            go_upto_region 25 with fail
            go_cut [181] from 130 to 181 (fun c wx => c = .bool false ∧ Hid (Below wA.heap.size wA wx))
            case first =>
              obtain ⟨tb, to', rfl, htb, hcs⟩ := (HTA8.out.below HWq.out).at (by omega)
              obtain ⟨k0, k1⟩ := hcs k hk
              rw [HPd.out] at k0 k1
              simp only at k0 k1
              have e1 : decide (y < 1) = false := by have := HPS.out; simp; omega
              by_cases hk0 : k = 0
              · subst hk0
                have e2 : decide ((0 : Int) < 0) = false := by simp
                simp only [Nat.zero_mul, Nat.add_zero] at k0 k1
                clear hcs
                go_wp2_with fail
                go_quiet (fail)
                go_wp2_with fail
                go_meet
                exact ⟨rfl, below_drewN HWq.out _⟩
              · obtain ⟨j, rfl⟩ : ∃ j, k = j + 1 := ⟨k - 1, by omega⟩
                obtain ⟨j0, j1⟩ := hcs j (by omega)
                have hfal := HP2.out j (by omega)
                obtain ⟨px, py, hp2⟩ : ∃ px py, T.getD j (0, 0) = (px, py) := ⟨_, _, rfl⟩
                rw [hp2] at j0 j1 hfal
                rw [HPd.out] at hfal
                simp only at j0 j1 hfal
                have e3 : decide (py < y) = false := by simp; omega
                by_cases he : py = y
                · have e4 : (py == y) = true := by simpa using he
                  have e5 : decide (x ≤ px) = false := by simp; omega
                  clear hcs hk0 hp2 hfal he
                  go_wp2_with fail
                  go_quiet (fail)
                  go_wp2_with fail
                  go_meet
                  exact ⟨rfl, below_drewN HWq.out _⟩
                · have e4 : (py == y) = false := by simpa using he
                  clear hcs hk0 hp2 hfal he
                  go_wp2_with fail
                  go_quiet (fail)
                  go_wp2_with fail
                  go_meet
                  exact ⟨rfl, below_drewN HWq.out _⟩
            case rest =>
            obtain ⟨rfl, HWr⟩ := hcut
            go_wp2_with fail
            go_roundg (n1 - (k + 1))
            case measure => omega
            case rel => exact ⟨k + 1, by omega, rfl, by go_num, HWr⟩
          · have hkz : ¬ (k : Int) < (n1 : Int) := by omega
            obtain rfl : k = n1 := by omega
            have HBB : Hid (nk ≠ 0 → (inT T sp' k || inQ Q sp' n2) = true) := HR4
            generalize inT T sp' k = B1 at *
            clear HP1 HP2 HTA8 HN1 hk hkg
            go_wp2_with fail
            go_loopg [17, 19] n2 (fun g u y wr => ∃ (z : Nat), z + g = n2 ∧ u = .bool (B1 || inQ Q sp' z) ∧ y = .int .i64 (z : Int) ∧ Hid (Below wA.heap.size wA wr))
            case atStart => exact ⟨0, by omega, by simp [inQ], rfl, HW⟩
            case round =>
              obtain ⟨z, hzg, rfl, rfl, HX⟩ := hrel
              by_cases hz : z < n2
              · have hzz : (z : Int) < (n2 : Int) := by omega
                have HIN : Hid (inQ Q sp' (z + 1) = (inQ Q sp' z || Q.getD z 0 == sp')) := inQ_succ (by rw [HN2.out]; exact hz)
                have HSp2 : Hid (∀ W : World, W.cell? ⟨b, 1, none⟩ = some (.int .i64 sp') → Calls Try.prog 14 #[.pointer (some ⟨b, 0, none⟩)] W fun e w' => e = .returned (.int .i64 sp') ∧ w' = W) := fun W hW => speaker_calls b sp' W hW
                obtain ⟨x, hp⟩ : ∃ x, Q.getD z 0 = x := ⟨_, rfl⟩
                rw [hp] at HIN
                have HPd := hidden hp
                clear hp
                go_upto_region 30 with fail
                go_cut [17] from 188 to 197 (fun c wx => c = .bool (B1 || inQ Q sp' (z + 1)) ∧ Hid (Below wA.heap.size wA wx))
                case first =>
                  obtain ⟨qb, qo, rfl, hcs⟩ := (HQA.out.below HX.out).at (by omega)
                  have k0 := hcs z hz
                  rw [HPd.out] at k0
                  have csp := (HS8.out.below HX.out).cell
                  clear hcs
                  cases hin : (B1 || inQ Q sp' z) with
                  | true =>
                    have HIk : Hid ((B1 || inQ Q sp' (z + 1)) = true) := by unfold Hid; rw [HIN.out, ← Bool.or_assoc, hin]; rfl
                    clear hin
                    go_wp2_with fail
                    go_quiet (fail)
                    go_wp2_with fail
                    go_meet
                    exact ⟨by rw [HIk.out], below_drewN HX.out _⟩
                  | false =>
                    have HIk : Hid ((B1 || inQ Q sp' (z + 1)) = (x == sp')) := by unfold Hid; rw [HIN.out, ← Bool.or_assoc, hin]; rfl
                    clear hin
                    go_wp2_with fail
                    go_quiet ((go_at_call 14; exact Calls.quiet_of_same (HSp2.out _ (by first | exact csp | assumption))))
                    go_wp2_with fail
                    go_meet
                    exact ⟨by rw [HIk.out], below_drewN HX.out _⟩
                case rest =>
                obtain ⟨rfl, HXq⟩ := hcut
                clear HX HSp2
                obtain ⟨wq, rfl⟩ : ∃ x, x = wc := ⟨_, rfl⟩
                go_upto_region 31 with fail
                go_cut [211] from 198 to 211 (fun c wx => c = .bool false ∧ Hid (Below wA.heap.size wA wx))
                case first =>
                  obtain ⟨qb, qo, rfl, hcs⟩ := (HQA.out.below HXq.out).at (by omega)
                  have k0 := hcs z hz
                  rw [HPd.out] at k0
                  by_cases hk0 : z = 0
                  · subst hk0
                    have e2 : decide ((0 : Int) < 0) = false := by simp
                    simp only [Nat.add_zero] at k0
                    clear hcs
                    go_wp2_with fail
                    go_quiet (fail)
                    go_wp2_with fail
                    go_meet
                    exact ⟨rfl, below_drewN HXq.out _⟩
                  · obtain ⟨j, rfl⟩ : ∃ j, z = j + 1 := ⟨z - 1, by omega⟩
                    have j0 := hcs j (by omega)
                    have hfal := HP3.out j (by omega)
                    obtain ⟨px, hp2⟩ : ∃ px, Q.getD j 0 = px := ⟨_, rfl⟩
                    rw [hp2] at j0 hfal
                    rw [HPd.out] at hfal
                    have e3 : decide (x ≤ px) = false := by simp; omega
                    clear hcs hk0 hp2 hfal
                    go_wp2_with fail
                    go_quiet (fail)
                    go_wp2_with fail
                    go_meet
                    exact ⟨rfl, below_drewN HXq.out _⟩
                case rest =>
                obtain ⟨rfl, HXr⟩ := hcut
                go_wp2_with fail
                go_roundg (n2 - (z + 1))
                case measure => omega
                case rel => exact ⟨z + 1, by omega, rfl, by go_num, HXr⟩
              · have hzz : ¬ (z : Int) < (n2 : Int) := by omega
                obtain rfl : z = n2 := by omega
                obtain ⟨g1, g2, g3, g4, g5⟩ := HLen.out
                have HS9 := hidden (HS8.out.below HX.out)
                by_cases hk0 : k = 0
                · have d8 : decide (0 < (k : Int)) = false := decide_eq_false (by omega)
                  clear g1 g2 g3 g4 g5 HLen HBB HR4
                  go_wp2_with fail
                  go_roundg (30 - (i + 1))
                  case measure => omega
                  case rel => exact ⟨i + 1, f', sp', by omega, by go_num, HS9⟩
                · have d8 : decide (0 < (k : Int)) = true := decide_eq_true (by omega)
                  have hb9 := HBB.out (by omega)
                  rw [hb9]
                  clear g1 g2 g3 g4 g5 HLen HBB HR4 hb9
                  go_wp2_with fail
                  go_roundg (30 - (i + 1))
                  case measure => omega
                  case rel => exact ⟨i + 1, f', sp', by omega, by go_num, HS9⟩
    · have HN0 : Hid (NSt w wr b many 0) := ⟨⟨f, sp, HS.out, fun x => HS.out.inv.ok.hi x⟩⟩
      have HG : Hid (decide ((i : Int) < (nr : Int)) = false ∨ decide ((i : Int) < (nr : Int)) = true ∧ decide ((i : Int) < 30) = false) := by
        by_cases q : i < nr
        · exact .inr ⟨decide_eq_true (by omega), decide_eq_false (by omega)⟩
        · exact .inl (decide_eq_false (by omega))
      clear HS hi
      go_upto_region 12 with fail
      go_cut [74] from 67 to 74 (fun c wx => c = .bool false ∧ wx = wr)
      case first =>
        rcases HG.out with q1 | ⟨q1, q2⟩
        · have q3 : ¬ (i : Int) < (nr : Int) := of_decide_eq_false q1
          clear q1 hig
          go_wp2_with fail
          go_meet
          exact ⟨rfl, rfl⟩
        · have q3 : (i : Int) < (nr : Int) := of_decide_eq_true q1
          have HQ2 := hidden q2
          clear q1 q2
          go_wp2_with fail
          go_meet
          exact ⟨by rw [HQ2.out], rfl⟩
      case rest =>
      obtain ⟨rfl, rfl⟩ := hcut
      obtain ⟨wB, rfl⟩ : ∃ x, x = wc := ⟨_, rfl⟩
      clear HG
      go_wp2_with fail
      go_loopg [20] 200 (fun g y wr => ∃ (j : Nat), j + g = 200 ∧ y = .int .i64 (j : Int) ∧ Hid (NSt w wr b many j))
      case atStart => exact ⟨0, by omega, rfl, HN0⟩
      case round =>
        obtain ⟨j, hjg, rfl, HS⟩ := hrel
        clear HN0
        by_cases hj : j < 200
        · have hjz : (j : Int) < 200 := by omega
          have HC := hidden (n_hear HS.out)
          go_wp2_with fail
          refine HC.out.mono ?_
          rintro e w6 ⟨rfl, h6⟩
          clear HC
          go_wp2_with fail
          go_roundg (200 - (j + 1))
          case measure => omega
          case rel => exact ⟨j + 1, by omega, by go_num, h6⟩
        · have hjz : ¬ (j : Int) < 200 := by omega
          obtain rfl : j = 200 := by omega
          obtain ⟨f9, hS9, hT9⟩ := n_end HS.out
          have HC := s_top hS9 h0 h1
          rw [hT9] at HC
          have HC := hidden HC
          clear hS9 hT9 HS
          go_wp2_with fail
          refine HC.out.mono ?_
          rintro e w6 ⟨ta, tc, rfl, hT, h6⟩
          have HSp := hidden (s_speaker h6)
          have HB := hidden h6.bel
          clear HC hT h6
          go_wp2_with fail
          refine HSp.out.mono ?_
          rintro e w7 ⟨rfl, rfl⟩
          go_wp2_with fail
          go_ret
          exact ⟨rfl, HB.out⟩
set_option maxHeartbeats 1000000 in
set_option maxRecDepth 100000 in
theorem walk_out (many who : Int) (a : Option Addr) (nr cap : Nat) (w : World) (h : many < 1 ∨ 20 < many) :
    Calls Try.prog 5 #[.int .i64 many, .slice a nr cap, .int .i64 who] w fun e w' => e = .returned (.bool true) ∧ Below w.heap.size w w' := by
  have HN := hidden (one_new w)
  have HE := hidden (fun W => new_err many W h)
  go_enter Try.func5, Try.ntmps5
  go_wp2_with fail
  refine HN.out.mono ?_
  rintro e w1 ⟨rfl, h2⟩
  have HC := hidden (one_hear h2.out)
  obtain ⟨b1, hb1⟩ : ∃ b1, w.heap.size = b1 := ⟨_, rfl⟩
  rw [hb1] at HC
  rw [hb1]
  have HB1 := hidden hb1
  clear h2 HN hb1
  go_wp2_with fail
  refine HC.out.mono ?_
  rintro e w2 ⟨rfl, h2⟩
  have HC := hidden (one_top h2.out)
  clear h2
  go_wp2_with fail
  refine HC.out.mono ?_
  rintro e w3 ⟨g, o, cp, rfl, hc3, h2⟩
  have HSp := hidden (s_speaker h2.out)
  have HB : Hid (Below w.heap.size w w3) := h2.out.bel
  clear HC h2
  clear HB1
  have HO := hidden h
  clear h
  go_wp2_with fail
  refine HSp.out.mono ?_
  rintro e w4 ⟨rfl, rfl⟩
  go_wp2_with fail
  refine (HE.out _).mono ?_
  rintro e w5 ⟨rfl, rfl⟩
  have he : errv 1 = .iface 46 (.int .i64 1) := rfl
  rw [he]
  clear HE HSp
  by_cases q : many < 1
  · have d1 : decide (many < 1) = true := by simpa using q
    go_wp2_with fail
    go_ret
    exact ⟨rfl, HB.out⟩
  · have d1 : decide (many < 1) = false := by simpa using q
    have d2 : decide (20 < many) = true := by have := HO.out; simp; omega
    go_wp2_with fail
    go_ret
    exact ⟨rfl, HB.out⟩
theorem walk (many who : Int) (a : Option Addr) (nr cap : Nat) (Z : Nat → Vs) (w : World) (hR : VRows w a nr Z) :
    Calls Try.prog 5 #[.int .i64 many, .slice a nr cap, .int .i64 who] w fun e w' => e = .returned (.bool true) ∧ Below w.heap.size w w' := by
  by_cases h : many < 1 ∨ 20 < many
  · exact walk_out many who a nr cap w h
  · exact walk_in many who a nr cap Z w hR (by omega) (by omega)
end Go.Proofs.Ytjhfjkacfnccdah.Speaks
