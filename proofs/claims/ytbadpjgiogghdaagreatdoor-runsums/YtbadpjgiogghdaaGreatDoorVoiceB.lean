/-
  A map of scores read and written; what the function gains of package voice returns. It changes nothing that was there.
-/
import Derived.Test.YtbadpjgiogghdaaGreatDoorVoiceA
namespace Go.Proofs.YtbadpjgiogghdaaGreatDoor.Voice
open Go.ChangeShapes Go.WideShapes Go.ChangeAt Go.RowKit Go.Maps Go.Proofs.YtbadpjgiogghdaaGreatDoor.Mem Go.Proofs.YtbadpjgiogghdaaGreatDoor.VO
set_option linter.unusedVariables false

theorem zero3 (w : World) : (zeroValue 3).run Tryz.prog w = .ok (.int .i64 0) w := by kernel_rfl
theorem KM.bound {D : DataW Value} {S : Int → Prop} {g : Int → Int} (h : KM D S g) (ht : ∃ es, D = .map es ∧ es.Pairwise (fun p q => p.1 ≠ q.1) ∧ ∀ p ∈ es, WideAt.IsKeyLit p.1) (hS : ∀ x, S x → 0 ≤ x ∧ x ≤ 200) : Maps.size D ≤ 201 := by
  obtain ⟨es, rfl, hp, hl⟩ := ht
  have n1 : (es.map Prod.fst).Nodup := by rw [List.nodup_iff_pairwise_ne, List.pairwise_map]; exact hp
  have s1 : ∀ x ∈ es.map Prod.fst, x ∈ (List.range 201).map fun i : Nat => key (i : Int) := by
    intro x hx
    obtain ⟨e, he, rfl⟩ := List.mem_map.1 hx
    obtain ⟨i, hi, h⟩ := (h.keys e.1).1 (List.any_eq_true.2 ⟨e, he, WideAt.sameKey_self (hl e he)⟩)
    have := hS i hi
    exact List.mem_map.2 ⟨i.toNat, List.mem_range.2 (by omega), by rw [h, show ((i.toNat : Nat) : Int) = i by omega]⟩
  have l1 := List.Nodup.length_le_of_subset n1 s1
  simp at l1
  simp [Maps.size]
  omega
theorem KM.not {D : DataW Value} {S : Int → Prop} {g : Int → Int} (h : KM D S g) {y : Int} (hn : ¬ S y) : Maps.has D (key y) = false := by
  cases q : Maps.has D (key y) with
  | false => rfl
  | true =>
    obtain ⟨x, h1, h2⟩ := (h.keys _).1 q
    rw [key_inj h2] at hn
    exact absurd h1 hn
/-- a number read, with whether it is there -/
theorem look_in {w : World} {m : Nat} {D : DataW Value} {S : Int → Prop} {g : Int → Int} (hown : w.ownsMap Tryz.prog 3 inR m (Maps.size D) D) (hK : KM D S g) {y : Int} (hw : (Lit.int .i64 y).wf = true) (hs : S y) :
    (Instr.lookup 134 (.map (some m)) (.int .i64 y) true).run Tryz.prog w = .ok (.tuple #[.int .i64 (g y), .bool true]) w := by
  obtain ⟨v', ps, hrun, hr⟩ := hown.look_ok law3 Tryz.underlying134 (zero3 _) (inR_mk 0) (keyOf3 hw)
  obtain ⟨⟨x, rfl⟩, e⟩ := inR_inv hr
  have e1 : Maps.has D (key y) = true := (hK.keys _).2 ⟨y, hs, rfl⟩
  have e2 := hK.els y hs (.held (.int .i64 0))
  unfold key at e1 e2
  rw [e1] at hrun
  rw [e2] at e
  simp at e
  rw [← e.1] at hrun
  exact hrun
theorem look_out {w : World} {m : Nat} {D : DataW Value} {S : Int → Prop} {g : Int → Int} (hown : w.ownsMap Tryz.prog 3 inR m (Maps.size D) D) (hK : KM D S g) {y : Int} (hw : (Lit.int .i64 y).wf = true) (hs : ¬ S y) :
    (Instr.lookup 134 (.map (some m)) (.int .i64 y) true).run Tryz.prog w = .ok (.tuple #[.int .i64 0, .bool false]) w := by
  obtain ⟨v', ps, hrun, hr⟩ := hown.look_ok law3 Tryz.underlying134 (zero3 _) (inR_mk 0) (keyOf3 hw)
  obtain ⟨⟨x, rfl⟩, e⟩ := inR_inv hr
  have e1 := hK.not hs
  have e2 := atKey_of_not_has e1 (.held (.int .i64 0))
  unfold key at e1 e2
  rw [e1] at hrun
  rw [e2] at e
  simp at e
  rw [← e.1] at hrun
  exact hrun
/-- a number read: nought where there is none -/
theorem look_any {w : World} {m : Nat} {D : DataW Value} {S : Int → Prop} {g : Int → Int} (hown : w.ownsMap Tryz.prog 3 inR m (Maps.size D) D) (hK : KM D S g) {y : Int} (hw : (Lit.int .i64 y).wf = true) (h0 : ¬ S y → g y = 0) :
    (Instr.lookup 134 (.map (some m)) (.int .i64 y) false).run Tryz.prog w = .ok (.int .i64 (g y)) w := by
  obtain ⟨v', ps, hrun, hr⟩ := hown.lookup law3 Tryz.underlying134 (zero3 _) (inR_mk 0) (keyOf3 hw)
  obtain ⟨⟨x, rfl⟩, e⟩ := inR_inv hr
  by_cases hs : S y
  · have e2 := hK.els y hs (.held (.int .i64 0))
    unfold key at e2
    rw [e2] at e
    simp at e
    rw [← e.1] at hrun
    exact hrun
  · have e2 := atKey_of_not_has (hK.not hs) (.held (.int .i64 0))
    unfold key at e2
    rw [e2] at e
    simp at e
    rw [h0 hs]
    rw [← e.1] at hrun
    exact hrun
/-- a number written -/
theorem store_in {w : World} {m : Nat} {D : DataW Value} {S : Int → Prop} {g : Int → Int} (hown : w.ownsMap Tryz.prog 3 inR m (Maps.size D) D) (hK : KM D S g) (hS : ∀ x, S x → 0 ≤ x ∧ x ≤ 200) {y : Int} (hw : (Lit.int .i64 y).wf = true) (c : Int) :
    ∃ w2 D2, (Instr.mapUpdate 134 (.map (some m)) (.int .i64 y) (.int .i64 c)).run Tryz.prog w = .ok () w2 ∧ w2.ownsMap Tryz.prog 3 inR m (Maps.size D2) D2 ∧ KM D2 (fun x => S x ∨ x = y) (fun x => if x = y then c else g x) ∧ w.grownBy w2 (some m) := by
  have hsz := hK.bound (hown.entries law3) hS
  obtain ⟨w2, hrun, hown2, hturn⟩ := hown.store law3 Tryz.underlying134 (by unfold maxLen; omega) (keyOf3 hw) (inR_mk c)
  exact ⟨w2, _, hrun, tight hown2, hK.put hown.isMap y c, hturn.grown⟩

/-- under way within gains: i voices are counted -/
structure GSt (w wr : World) (m i : Nat) (l : Vs) : Prop where
  bel : Below w.heap.size w wr
  lo : w.heap.size ≤ m
  map : ∃ D, wr.ownsMap Tryz.prog 3 inR m (Maps.size D) D ∧ KM D (fun x => ∃ p ∈ l.take i, p.1 = x) (fun x => 16 * lev (l.take i) x)
  ok : Oks (l.take i)
theorem GSt.alloc {w wr : World} {m i : Nat} {l : Vs} (h : GSt w wr m i l) (O : Obj) : GSt w (wr.alloc O) m i l := by
  obtain ⟨D, h1, h2⟩ := h.map
  exact ⟨below_alloc h.bel O, h.lo, ⟨D, h1.alloc O, h2⟩, h.ok⟩
theorem GSt.start (w : World) (l : Vs) : GSt w (w.alloc (.map #[] 0)) w.heap.size 0 l := by
  refine ⟨(Below.refl _ _).alloc (Nat.le_refl _) _, Nat.le_refl _, ⟨.map [], World.ownsMap_made w _ _ _, ?_⟩, oks_nil⟩
  refine (KM.nil _).ext (fun x => ?_) (fun x hx => rfl)
  simp
theorem GSt.who {l : Vs} {i : Nat} (h : Oks (l.take i)) : ∀ x, (∃ p ∈ l.take i, p.1 = x) → 0 ≤ x ∧ x ≤ 200 := by
  rintro x ⟨p, hp, rfl⟩
  have := (okv_iff p).1 (h.1 p hp)
  omega
/-- one more -/
theorem GSt.step {w wr : World} {m i : Nat} {l : Vs} (h : GSt w wr m i l) (hi : i < l.length) {x y : Int} (hp : l.getD i (0, 0) = (x, y)) (hk : okv (x, y) = true) (hn : ¬ ∃ p ∈ l.take i, p.1 = x) :
    (Instr.lookup 134 (.map (some m)) (.int .i64 x) true).run Tryz.prog wr = .ok (.tuple #[.int .i64 0, .bool false]) wr ∧ ∃ w2, (Instr.mapUpdate 134 (.map (some m)) (.int .i64 x) (.int .i64 (16 * y))).run Tryz.prog wr = .ok () w2 ∧ GSt w w2 m (i + 1) l := by
  obtain ⟨D, h1, h2⟩ := h.map
  have hb := (okv_iff _).1 hk
  simp only at hb
  have hw := wf_of (y := x) (by omega) (by omega)
  refine ⟨look_out h1 h2 hw hn, ?_⟩
  obtain ⟨w2, D2, hrun, g1, g2, g3⟩ := store_in h1 h2 (GSt.who h.ok) hw (16 * y)
  refine ⟨w2, hrun, ⟨h.bel.grown g3 h.bel.size (by have := h.lo; intro k hk; simp at hk; omega), h.lo, ⟨D2, g1, ?_⟩, oks_next hi h.ok (by rw [hp]; exact hk) (by rw [hp]; exact hn)⟩⟩
  refine g2.ext (fun z => ?_) (fun z hz => ?_)
  · rw [take_succ' hi, hp]
    constructor
    · rintro (⟨p, hp1, hp2⟩ | rfl)
      · exact ⟨p, List.mem_append_left _ hp1, hp2⟩
      · exact ⟨(z, y), by simp, rfl⟩
    · rintro ⟨p, hp1, rfl⟩
      rcases List.mem_append.1 hp1 with hp1 | hp1
      · exact .inl ⟨p, hp1, rfl⟩
      · rw [List.mem_singleton.1 hp1]; exact .inr rfl
  · rw [take_succ' hi, hp, lev_app, lev_one]
    by_cases e : z = x
    · subst e
      rw [if_pos rfl, if_pos rfl, lev_out _ _ (fun p hp1 e => hn ⟨p, hp1, e⟩)]
      omega
    · rw [if_neg e, if_neg (fun c => e c.symm)]
      omega
theorem GSt.clash {w wr : World} {m i : Nat} {l : Vs} (h : GSt w wr m i l) {x : Int} (hn : ∃ p ∈ l.take i, p.1 = x) :
    ∃ c, (Instr.lookup 134 (.map (some m)) (.int .i64 x) true).run Tryz.prog wr = .ok (.tuple #[.int .i64 c, .bool true]) wr := by
  obtain ⟨D, h1, h2⟩ := h.map
  have hb := GSt.who h.ok x hn
  exact ⟨_, look_in h1 h2 (wf_of (by omega) (by omega)) hn⟩

set_option maxHeartbeats 1000000 in
set_option maxRecDepth 100000 in
theorem gains_calls (a : Option Addr) (n cap : Nat) (l : Vs) (w : World) (h : VArg w a n l) :
    Calls Tryz.prog 127 #[.slice a n cap] w fun e w' => (vf l = 0 ∧ e = .returned (.tuple #[.map (some w.heap.size), .nilIface]) ∧ GSt w w' w.heap.size n l) ∨ (vf l ≠ 0 ∧ e = .returned (.tuple #[.map none, errv (vf l)]) ∧ Below w.heap.size w w') := by
  have hl := h.2.1
  have hn := h.2.2
  have HA := hidden h
  clear h
  have hmm := @run_makeMap Tryz.prog
  obtain ⟨f, hf⟩ : ∃ f, vf l = f := ⟨_, rfl⟩
  rw [hf]
  have HF := hidden hf
  clear hf
  go_enter Tryz.func127, Tryz.ntmps127
  go_wp2_with fail
  go_loopg [12] n (fun g y wr => ∃ (j : Nat), j + g = n ∧ y = .int .i64 (j : Int) ∧ Hid (GSt w wr w.heap.size j l))
  case atStart => exact ⟨0, by omega, rfl, GSt.start w l⟩
  case round =>
    obtain ⟨j, hjg, rfl, HS⟩ := hrel
    by_cases hj : j < n
    · have hjz : (j : Int) < (n : Int) := by omega
      obtain ⟨b, o, rfl, hbl, hcs⟩ := (HA.out.below HS.out.bel).at (by omega)
      obtain ⟨c0, c1⟩ := hcs j hj
      obtain ⟨p, hp⟩ : ∃ p, l.getD j (0, 0) = p := ⟨_, rfl⟩
      have hp' := hp
      rw [hp] at c0 c1
      obtain ⟨x, y⟩ := p
      simp only at c0 c1
      have HB : Hid (∀ O, Below w.heap.size w (wr.alloc O)) := fun O => below_alloc HS.out.bel O
      clear hcs hp'
      by_cases hk : okv (x, y) = true
      · have hb := (okv_iff _).1 hk
        simp only at hb
        obtain ⟨q1, q2, q3, q4⟩ := hb
        have d1 : decide (x < 0) = false := by simp; omega
        have d2 : decide (200 < x) = false := by simp; omega
        have d3 : decide (y < 0) = false := by simp; omega
        have d4 : decide (127 < y) = false := by simp; omega
        by_cases hc : ∃ p ∈ l.take j, p.1 = x
        · have HE : Hid (f = 7) := by unfold Hid; rw [← HF.out]; exact vf_clash (by omega) HS.out.ok (by rw [hp]; exact hk) (by rw [hp]; exact hc)
          have hlk := fun O => (HS.out.alloc O).clash hc
          obtain ⟨c, hlk⟩ := hlk (.cells #[.int .i64 x, .int .i64 y] 88)
          clear hc hp hk q1 q2 q3 q4
          go_wp2_with fail
          go_ret2
          exact .inr ⟨by rw [HE.out]; decide, by rw [HE.out]; rfl, HB.out _⟩
        · obtain ⟨hlk, w2, hrun, HS2⟩ := (HS.out.alloc (.cells #[.int .i64 x, .int .i64 y] 88)).step (by omega) hp hk hc
          have HS3 := hidden HS2
          clear HS2 hc hp hk
          go_wp2_with fail
          go_roundg (n - (j + 1))
          case measure => omega
          case rel => exact ⟨j + 1, by omega, by go_num, HS3⟩
      · have HE : Hid (f = 1) := by unfold Hid; rw [← HF.out]; exact vf_bad (by omega) HS.out.ok (by rw [hp]; exact hk)
        have hb : ¬ (0 ≤ x ∧ x ≤ 200 ∧ 0 ≤ y ∧ y ≤ 127) := fun q => hk ((okv_iff _).2 q)
        clear hp hk
        by_cases h1 : x < 0
        · have d1 : decide (x < 0) = true := by simpa using h1
          go_wp2_with fail
          go_ret2
          exact .inr ⟨by rw [HE.out]; decide, by rw [HE.out]; rfl, HB.out _⟩
        · have d1 : decide (x < 0) = false := by simpa using h1
          by_cases h2 : 200 < x
          · have d2 : decide (200 < x) = true := by simpa using h2
            go_wp2_with fail
            go_ret2
            exact .inr ⟨by rw [HE.out]; decide, by rw [HE.out]; rfl, HB.out _⟩
          · have d2 : decide (200 < x) = false := by simpa using h2
            by_cases h3 : y < 0
            · have d3 : decide (y < 0) = true := by simpa using h3
              go_wp2_with fail
              go_ret2
              exact .inr ⟨by rw [HE.out]; decide, by rw [HE.out]; rfl, HB.out _⟩
            · have d3 : decide (y < 0) = false := by simpa using h3
              have h4 : 127 < y := by omega
              have d4 : decide (127 < y) = true := by simpa using h4
              go_wp2_with fail
              go_ret2
              exact .inr ⟨by rw [HE.out]; decide, by rw [HE.out]; rfl, HB.out _⟩
    · have hjz : ¬ (j : Int) < (n : Int) := by omega
      obtain rfl : j = n := by omega
      go_wp2_with fail
      go_ret2
      refine .inl ⟨?_, rfl, HS.out⟩
      have h1 := HS.out.ok
      rw [List.take_of_length_le (by omega)] at h1
      rw [← HF.out]
      exact (vf_ok _).2 h1
end Go.Proofs.YtbadpjgiogghdaaGreatDoor.Voice

