/-
  What the inner functions isShort and pairsOf of package back return, and what they make; slices of slices. They change nothing that was there.
-/
import Derived.Test.YtpiamlgmadnepaaGreatBackJ
import Derived.Deep.RegionHeld3
import Derived.Deep.AppendLies
namespace Go.Proofs.YtpiamlgmadnepaaGreat.Back
open Go.ChangeShapes Go.WideShapes Go.ChangeAt Go.RowKit Go.Sort Go.Lib Go.Proofs.YtpiamlgmadnepaaGreat.BM Go.Proofs.YtpiamlgmadnepaaGreat.Mem
set_option linter.unusedVariables false

theorem undBS : Tryz.prog.underlying 36 = some (.slice (Tryz.prog.elem 36)) := by kernel_rfl
theorem elemBS : Tryz.prog.elem 36 = 5 := by kernel_rfl
theorem size5 (w : World) : (sizeOf 5).run Tryz.prog w = .ok 1 w := by
  obtain ⟨i0, hii, hz0, hz1, hz2⟩ := info_parts info5
  simp [sizeOf, typeInfo, hii, hz1]

/-- where a[l:] lies -/
def cutAt (a : Option Addr) (cap l : Nat) : Option Addr := if cap = l then a else a.map (·.add l)
theorem cutAt_none {a : Option Addr} {cap l : Nat} (h : cutAt a cap l = none) : a = none := by
  unfold cutAt at h
  split at h
  · exact h
  · simpa using h
theorem cut_arg {w : World} {a : Option Addr} {len cap l h : Nat} {L : List Nat} (hA : Arg w a len L) (hlh : l ≤ h) (hh : h ≤ len) (hc : len ≤ cap) : Arg w (cutAt a cap l) (h - l) ((L.drop l).take (h - l)) := by
  have hl := hA.2.1
  refine ⟨⟨fun c hc => hA.1.1 c (List.mem_of_mem_drop (List.mem_of_mem_take hc)), fun j hj => ?_⟩, by simp; omega, by have := hA.2.2; omega⟩
  simp only [List.length_take, List.length_drop] at hj
  obtain ⟨b, o, e, hcell⟩ := hA.1.2 (l + j) (by omega)
  subst e
  refine ⟨b, o + l, ?_, ?_⟩
  · unfold cutAt
    rw [if_neg (by omega)]
    simp only [Option.map_some, Option.some.injEq]
    unfold Addr.add; split <;> simp_all
  · rw [Nat.add_assoc, hcell, List.getD_eq_getElem?_getD, List.getD_eq_getElem?_getD, List.getElem?_take_of_lt (by omega), List.getElem?_drop]
theorem cut_plain {a : Option Addr} {cap l : Nat} (hp : ∀ ad, a = some ad → ∃ b o, ad = ⟨b, o, none⟩) : ∀ ad, cutAt a cap l = some ad → ∃ b o, ad = ⟨b, o, none⟩ := by
  intro ad h
  unfold cutAt at h
  split at h
  · exact hp ad h
  · obtain ⟨x, hx, rfl⟩ := Option.map_eq_some_iff.1 h
    obtain ⟨b, o, rfl⟩ := hp x hx
    exact ⟨b, o + l, by unfold Addr.add; split <;> simp_all⟩
/-- a[l:h] -/
theorem cut_lh (a : Option Addr) (len cap l h : Nat) (hlh : l ≤ h) (hh : h ≤ cap) (w : World) :
    (Instr.slice 36 (.slice a len cap) (some (.int .i64 (l : Int))) (some (.int .i64 (h : Int))) none).run Tryz.prog w = .ok (.slice (cutAt a cap l) (h - l) (cap - l)) w := by
  rw [run_slice_lh w 36 a len cap undBS .i64 .i64 l h (by omega) (by omega) (by omega), elemBS, size5]
  simp [Result.andThen, sliced, cutAt]
/-- a[l:] -/
theorem cut_l (a : Option Addr) (len cap l : Nat) (hl : l ≤ len) (w : World) :
    (Instr.slice 36 (.slice a len cap) (some (.int .i64 (l : Int))) none none).run Tryz.prog w = .ok (.slice (cutAt a cap l) (len - l) (cap - l)) w := by
  rw [run_slice_l w 36 a len cap undBS .i64 l (by omega) (by omega), elemBS, size5]
  simp [Result.andThen, sliced, cutAt]
/-- a[:h] -/
theorem cut_h (a : Option Addr) (len cap h : Nat) (hh : h ≤ cap) (w : World) :
    (Instr.slice 36 (.slice a len cap) none (some (.int .i64 (h : Int))) none).run Tryz.prog w = .ok (.slice a h cap) w := by
  rw [run_slice_h w 36 a len cap undBS .i64 h (by omega) (by omega), elemBS, size5]
  simp [Result.andThen, sliced, Addr.add_zero']

/-- bytes that are there lie somewhere -/
theorem arg_at {w : World} {a : Option Addr} {n : Nat} {L : List Nat} (h : Arg w a n L) (hn : 0 < n) : ∃ b o, a = some ⟨b, o, none⟩ := by
  obtain ⟨b, o, e, _⟩ := h.1.2 0 (by have := h.2.1; omega)
  exact ⟨b, o, e⟩
theorem arg_cell {w : World} {b o n : Nat} {L : List Nat} (h : Arg w (some ⟨b, o, none⟩) n L) (j : Nat) (hj : j < n) : w.cell? ⟨b, o + j, none⟩ = some (.int .u8 (L.getD j 0 : Nat)) := by
  obtain ⟨b', o', e, hc⟩ := h.1.2 j (by have := h.2.1; omega)
  simp only [Option.some.injEq, Addr.mk.injEq, and_true] at e
  obtain ⟨rfl, rfl⟩ := e
  exact hc


theorem short_one (a : Option Addr) (n cap : Nat) (w : World) (h : n < 2) : Calls Tryz.prog 182 #[.slice a n cap] w fun e w' => e = .returned (.bool true) ∧ w' = w := by
  have d : decide ((n : Int) < 2) = true := by simp; omega
  go_enter Tryz.func182, Tryz.ntmps182
  go_wp2_with fail
  go_ret
  exact ⟨rfl, rfl⟩
set_option maxHeartbeats 1000000 in
set_option maxRecDepth 100000 in
theorem short_two (b o cap k t : Nat) (r : List Nat) (w : World) (hk : k < 256) (hmax : r.length + 2 ≤ 9223372036854775807) (c0 : w.cell? ⟨b, o, none⟩ = some (.int .u8 (k : Int))) :
    Calls Tryz.prog 182 #[.slice (some ⟨b, o, none⟩) (r.length + 2) cap] w fun e w' => e = .returned (.bool (rshort (k :: t :: r))) ∧ w' = w := by
  obtain ⟨R, hR⟩ : ∃ R, rshort (k :: t :: r) = R := ⟨_, rfl⟩
  rw [hR]
  have hw : IntKind.i64.wrap (k : Int) = (k : Int) := by rw [IntKind.wrap_i64]; omega
  have hrem : ((r.length : Int)).tmod 4 = ((r.length % 4 : Nat) : Int) := rfl
  simp only [rshort] at hR
  have HR := hidden hR
  clear hR
  generalize r.length = m at *
  by_cases k1 : k = 1
  · subst k1
    by_cases p : m < 4
    · have d : decide ((m : Int) < 4) = true := by simp; omega
      obtain rfl : R = true := by rw [← HR.out]; simp [p]
      go_enter Tryz.func182, Tryz.ntmps182
      go_wp2_with fail
      go_ret
      exact ⟨rfl, rfl⟩
    · have d : decide ((m : Int) < 4) = false := by simp; omega
      have hR : R = !(((m % 4 : Nat) : Int) == 0) := by
        rw [← HR.out, Bool.eq_iff_iff]
        simp only [if_pos, decide_eq_false p, Bool.false_or, decide_eq_true_eq, Bool.not_eq_true', beq_eq_false_iff_ne]
        omega
      subst hR
      generalize m % 4 = x at *
      go_enter Tryz.func182, Tryz.ntmps182
      go_wp2_with fail
      go_ret
      exact ⟨rfl, rfl⟩
  by_cases k2 : k = 2
  · subst k2
    have hR : R = decide ((m : Int) < 1) := by rw [← HR.out, Bool.eq_iff_iff]; simp; omega
    subst hR
    go_enter Tryz.func182, Tryz.ntmps182
    go_wp2_with fail
    go_ret
    exact ⟨rfl, rfl⟩
  by_cases k3 : k = 3
  · subst k3
    have hR : R = decide ((m : Int) < 4) := by rw [← HR.out, Bool.eq_iff_iff]; simp; omega
    subst hR
    go_enter Tryz.func182, Tryz.ntmps182
    go_wp2_with fail
    go_ret
    exact ⟨rfl, rfl⟩
  have e1 : ((k : Int) == 1) = false := by rw [beq_eq_false_iff_ne]; omega
  have e2 : ((k : Int) == 2) = false := by rw [beq_eq_false_iff_ne]; omega
  have e3 : ((k : Int) == 3) = false := by rw [beq_eq_false_iff_ne]; omega
  obtain rfl : R = false := by rw [← HR.out]; simp [k1, k2, k3]
  go_enter Tryz.func182, Tryz.ntmps182
  go_wp2_with fail
  go_ret
  exact ⟨rfl, rfl⟩

/-- where pairsOf stands -/
structure QSt (w wr : World) (B : List Nat) (aR : Option Addr) (nR cR : Nat) (r : List Nat) (l : List (Int × Int)) (v : Value) : Prop where
  below : Below w.heap.size w wr
  own : wr.ownsRow w.heap.size 297 2 v l.length (pc l)
  rest : Arg w aR nR r
  le : nR ≤ cR
  is : l ++ prsB r = prsB B
theorem four {r : List Nat} (h : 4 ≤ r.length) : ∃ x0 x1 x2 x3 R, r = x0 :: x1 :: x2 :: x3 :: R := by
  match r, h with
  | x0 :: x1 :: x2 :: x3 :: R, _ => exact ⟨x0, x1, x2, x3, R, rfl⟩
theorem few {r : List Nat} (h : r.length < 4) : prsB r = [] := by
  match r, h with
  | [], _ => rfl
  | [_], _ => rfl
  | [_, _], _ => rfl
  | [_, _, _], _ => rfl
set_option maxHeartbeats 4000000 in
set_option maxRecDepth 100000 in
theorem pairsOf_calls (a : Option Addr) (n cap : Nat) (B : List Nat) (w : World) (h : Arg w a n B) (hc : n ≤ cap) (hn : n ≤ 1000000) :
    Calls Tryz.prog 201 #[.slice a n cap] w fun e w' => ∃ v', e = .returned v' ∧ w'.ownsRow w.heap.size 297 2 v' (prsB B).length (pc (prsB B)) ∧ Below w.heap.size w w' := by
  obtain ⟨i0, hii, hz0, hz1, hz2⟩ := info_parts infoPR
  have HQ0 : Hid (QSt w w B a n cap B [] (.slice none 0 0)) := ⟨Below.refl _ _, World.ownsRow_nil _ _ _ _, h, hc, rfl⟩
  have HL : Hid (∀ l r, l ++ prsB r = prsB B → l.length ≤ 1000000) := fun l r he => by
    have h1 : ∀ (s : Nat) (r : List Nat), r.length ≤ s → (prsB r).length ≤ s := by
      intro s
      induction s with
      | zero => intro r hr; rw [few (by omega)]; simp
      | succ s ih =>
        intro r hr
        by_cases h4 : 4 ≤ r.length
        · obtain ⟨x0, x1, x2, x3, R, rfl⟩ := four h4
          have := ih R (by simp at hr; omega)
          rw [prsB_app, List.length_cons]; omega
        · rw [few (by omega)]; simp
    have h2 := h1 n B (by rw [h.2.1]; exact Nat.le_refl _)
    have h3 : (l ++ prsB r).length = (prsB B).length := by rw [he]
    rw [List.length_append] at h3
    omega
  clear h hc
  go_enter Tryz.func201, Tryz.ntmps201
  go_wp2_with fail
  go_loopg [0, 3] n (fun g x y wr => ∃ (aR : Option Addr) (cR : Nat) (r : List Nat) (l : List (Int × Int)) (v : Value), g ≤ n ∧ x = .slice aR g cR ∧ y = v ∧ Hid (QSt w wr B aR g cR r l v))
  case atStart => exact ⟨a, cap, B, [], _, Nat.le_refl _, rfl, rfl, HQ0⟩
  case round =>
    obtain ⟨aR, cR, r, l, v, hgn, rfl, rfl, HS⟩ := hrel
    by_cases h4 : 4 ≤ gk
    · have d : decide ((4 : Int) ≤ (gk : Int)) = true := by simp; omega
      have hrl := HS.out.rest.2.1
      obtain ⟨x0, x1, x2, x3, R, rfl⟩ := four (r := r) (by omega)
      have hle := HS.out.le
      have hl := HL.out _ _ HS.out.is
      have es1 : ∀ w, (Instr.slice 36 (.slice aR gk cR) none (some (.int .i64 2)) none).run Tryz.prog w = .ok (.slice aR 2 cR) w := fun w => cut_h aR gk cR 2 (by omega) w
      have es2 : ∀ w, (Instr.slice 36 (.slice aR gk cR) (some (.int .i64 2)) (some (.int .i64 4)) none).run Tryz.prog w = .ok (.slice (cutAt aR cR 2) 2 (cR - 2)) w := fun w => cut_lh aR gk cR 2 4 (by omega) (by omega) w
      have es3 : ∀ w, (Instr.slice 36 (.slice aR gk cR) (some (.int .i64 4)) none none).run Tryz.prog w = .ok (.slice (cutAt aR cR 4) (gk - 4) (cR - 4)) w := fun w => cut_l aR gk cR 4 (by omega) w
      have HN1 : Hid (∀ W, Hid (Below w.heap.size w W) → Calls Tryz.prog 202 #[.slice aR 2 cR] W fun e w' => e = .returned (.int .i64 (val [x0, x1] : Int)) ∧ w' = W) := fun W hW => numof_calls aR 2 cR [x0, x1] W ((HS.out.rest.take 2 (by omega)).below hW.out) (by omega)
      have HN2 : Hid (∀ W, Hid (Below w.heap.size w W) → Calls Tryz.prog 202 #[.slice (cutAt aR cR 2) 2 (cR - 2)] W fun e w' => e = .returned (.int .i64 (val [x2, x3] : Int)) ∧ w' = W) := fun W hW => by
        have := cut_arg (l := 2) (h := 4) HS.out.rest (by omega) (by omega) hle
        exact numof_calls _ 2 _ [x2, x3] W (this.below hW.out) (by omega)
      have HR3 : Hid (Arg w (cutAt aR cR 4) (gk - 4) R) := by
        have := cut_arg (l := 4) (h := gk) HS.out.rest (by omega) (Nat.le_refl _) hle
        rw [show (x0 :: x1 :: x2 :: x3 :: R).drop 4 = R from rfl, List.take_of_length_le (by simp at hrl; omega)] at this
        exact this
      have HI : Hid ((l ++ [((val [x0, x1] : Int), (val [x2, x3] : Int))]) ++ prsB R = prsB B) := by
        have := HS.out.is
        rw [prsB_app] at this
        show _ = _
        rw [List.append_assoc]
        exact this
      generalize ((val [x0, x1] : Nat) : Int) = y0 at *
      generalize ((val [x2, x3] : Nat) : Int) = y1 at *
      generalize hca : cutAt aR cR 2 = a2 at *
      generalize hck : cR - 2 = k2 at *
      generalize cutAt aR cR 4 = a4 at *
      clear hca hck
      have hb0 : Hid (Below w.heap.size w wr.drew) := HS.out.below.drew
      have HBA : Hid (∀ W O, Hid (Below w.heap.size w W) → Hid (Below w.heap.size w (W.alloc O))) := fun W O hW => hW.out.alloc hW.out.size _
      go_wp2_with fail
      go_region_held3 (fun w' => Hid (Below w.heap.size w w')) (first | with_reducible assumption | exact HBA.out _ _ (by with_reducible assumption) | exact hidden (((HS.out.below.alloc HS.out.below.size _).drew).grown hgrow (by have := HS.out.below.size; simp; omega) (fun j hj => (HS.out.own.lt j hj).1)))
        (first
          | (go_at_call_of 202 k2; refine (HN2.out _ ?_).mono ?_; assumption; rintro e w' ⟨rfl, rfl⟩)
          | (go_at_call_of 202 cR; refine (HN1.out _ ?_).mono ?_; assumption; rintro e w' ⟨rfl, rfl⟩)
          | (refine step_append_lies _ (by rfl) _ _ _ (by rfl) w.heap.size 297 i0 _ 2 16 Tryz.underlying290 hii hz0 hz1 hz2 rfl (by omega) _ l.length (pc l) (by rfl) ((HS.out.own.alloc _).drew)
              ⟨wr.heap.size, 0, none⟩ 1 1 [.int .i64 y0, .int .i64 y1] (by rfl) (by rfl) (World.news_of_block (cs := #[.int .i64 y0, .int .i64 y1]) (t := 297) (fr := (0, 0)) (heap_alloc_new wr _)) (by simp [Value.oneCell'])
              (by omega) (by unfold maxLen; omega) (by omega) (by have := HS.out.below.size; simp; omega) (wr.heap.size + 1) (by simp) ?_; intro gg c3 w3 hown hgrow hat hlt))
      have HSn : Hid (QSt w w3 B a4 (gk - 4) (cR - 4) R (l ++ [(y0, y1)]) (.slice (some ⟨gg, 0, none⟩) (l.length + 1) c3)) := by
        refine ⟨((HS.out.below.alloc HS.out.below.size _).drew).grown hgrow (by have := HS.out.below.size; simp; omega) (fun j hj => (HS.out.own.lt j hj).1), ?_, HR3.out, by omega, HI.out⟩
        rw [List.length_append, pc_app]
        exact hown
      clear hown hgrow hat hlt
      go_wp2_with fail
      go_roundg (gk - 4)
      case measure => omega
      case rel => exact ⟨a4, cR - 4, R, _, _, by omega, rfl, rfl, HSn⟩
    · have d : decide ((4 : Int) ≤ (gk : Int)) = false := by simp; omega
      go_wp2_with fail
      go_ret
      have h1 := HS.out.own
      have h2 := HS.out.is
      rw [few (by have := HS.out.rest.2.1; omega), List.append_nil] at h2
      rw [h2] at h1
      exact ⟨_, rfl, h1, HS.out.below⟩
end Go.Proofs.YtpiamlgmadnepaaGreat.Back

