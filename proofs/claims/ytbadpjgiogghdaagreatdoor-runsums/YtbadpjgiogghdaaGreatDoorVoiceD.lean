/-
  What the functions choose, Top and Quiet of package voice return, and what choose leaves in memory. Their condition: the scores are such as they may be.
-/
import Derived.Test.YtbadpjgiogghdaaGreatDoorVoiceC
namespace Go.Proofs.YtbadpjgiogghdaaGreatDoor.Voice
open Go.ChangeShapes Go.WideShapes Go.ChangeAt Go.RowKit Go.Maps Go.Proofs.YtbadpjgiogghdaaGreatDoor.Mem Go.Proofs.YtbadpjgiogghdaaGreatDoor.VO
set_option linter.unusedVariables false

theorem undVS : Tryz.prog.underlying 57 = some (.slice (Tryz.prog.elem 57)) := by kernel_rfl
theorem elemVS : Tryz.prog.elem 57 = 88 := by kernel_rfl
theorem sizeVO (w : World) : (Go.sizeOf 88).run Tryz.prog w = .ok 2 w := Tryz.sizeOf88 w
/-- where a part of voices lies -/
def cutV (a : Option Addr) (cap l : Nat) : Option Addr := if cap = l then a else a.map (·.add (l * 2))
theorem cutV_l (a : Option Addr) (len cap l : Nat) (hl : l ≤ len) (w : World) :
    (Instr.slice 57 (.slice a len cap) (some (.int .i64 (l : Int))) none none).run Tryz.prog w = .ok (.slice (cutV a cap l) (len - l) (cap - l)) w := by
  rw [run_slice_l w 57 a len cap undVS .i64 l (by omega) (by omega), elemVS, sizeVO]
  simp [Result.andThen, sliced, cutV]
theorem cutV_h (a : Option Addr) (len cap h : Nat) (hh : h ≤ cap) (w : World) :
    (Instr.slice 57 (.slice a len cap) none (some (.int .i64 (h : Int))) none).run Tryz.prog w = .ok (.slice a h cap) w := by
  rw [run_slice_h w 57 a len cap undVS .i64 h (by omega) (by omega), elemVS, sizeVO]
  simp [Result.andThen, sliced, Addr.add_zero']
theorem VArg.drop {w : World} {a : Option Addr} {n cap : Nat} {l : Vs} (h : VArg w a n l) (hc : n ≤ cap) {k : Nat} (hk : k ≤ n) : VArg w (cutV a cap k) (n - k) (l.drop k) := by
  have hl := h.2.1
  refine ⟨fun j hj => ?_, by rw [List.length_drop]; omega, by have := h.2.2; omega⟩
  rw [List.length_drop] at hj
  obtain ⟨b, o, e, h1, h2⟩ := h.1 (k + j) (by omega)
  subst e
  have e1 : (l.drop k).getD j (0, 0) = l.getD (k + j) (0, 0) := by
    rw [List.getD_eq_getElem?_getD, List.getD_eq_getElem?_getD, List.getElem?_drop]
  rw [e1]
  refine ⟨b, o + k * 2, ?_, ?_, ?_⟩
  · unfold cutV
    rw [if_neg (by omega)]
    simp only [Option.map_some, Option.some.injEq]
    unfold Addr.add; split <;> simp_all
  · rw [show o + k * 2 + j * 2 = o + (k + j) * 2 by omega]; exact h1
  · rw [show o + k * 2 + j * 2 + 1 = o + (k + j) * 2 + 1 by omega]; exact h2

theorem VAt.drew {w : World} {b : Nat} {mo : Option Nat} {many sp : Int} {f : Sc} (h : VAt w b mo many sp f) : VAt w.drew b mo many sp f := ⟨h.box, h.map⟩
set_option maxHeartbeats 1000000 in
theorem choose_calls (b m : Nat) (many sp : Int) (f : Sc) (w : World) (h : VAt w b (some m) many sp f) (hk : Ok f) (h0 : -1 ≤ sp) (h1 : sp ≤ 200) :
    Calls Tryz.prog 130 #[.pointer (some ⟨b, 0, none⟩)] w fun e w' => e = .returned (.tuple #[]) ∧ VAt w' b (some m) many (spk f sp) f ∧ Only [b] w w' := by
  have HC := hidden (ranked_calls b (some m) many sp f w h hk)
  have HV := hidden h
  have HK := hidden hk
  have hle := lst_len f
  have hrl := rk_len f
  clear h hk
  obtain ⟨r, hr⟩ : ∃ r, rk f = r := ⟨_, rfl⟩
  obtain ⟨s, hs⟩ : ∃ s, spk f sp = s := ⟨_, rfl⟩
  rw [hs]
  rw [hr] at HC hrl
  have HR := hidden hr
  have HS := hidden hs
  clear hr hs
  cases r with
  | nil =>
    have HE : Hid (s = -1) := by unfold Hid; rw [← HS.out]; exact spk_nil HR.out
    clear hrl
    go_enter Tryz.func130, Tryz.ntmps130
    go_wp2_with fail
    refine HC.out.mono ?_
    rintro e w1 ⟨v, rfl, hv, hb⟩
    obtain ⟨a, cap, rfl, hA, _⟩ := own_vs hv (by simp)
    have HV1 := hidden (HV.out.below hb)
    have HB := hidden hb
    have hf1 := HV1.out.free 1
    have hc1 := HV1.out.cells.2.1
    clear hv hb hA HC
    go_wp2_with fail
    refine bodyPost_ret (results_none rfl _ _ _) rfl ?_
    refine ⟨rfl, ?_, (Only.of_below HB.out [b]).setCell (by simp) _⟩
    rw [HE.out]
    exact HV1.out.setS (-1)
  | cons p t =>
    have HE : Hid (s = if f sp = 0 ∨ p.2 > f sp + 200 then p.1 else sp) := by unfold Hid; rw [← HS.out]; exact spk_cons HR.out
    have hwf := wf_of (y := sp) (by omega) (by omega)
    have hp := (rk_mem HK.out p).1 (by rw [HR.out]; simp)
    have hb2 : p.2 ≤ 16256 := by rw [← hp.1]; exact HK.out.hi _
    have hb3 : 0 ≤ p.2 := by rw [← hp.1]; exact HK.out.lo _
    have hfs := HK.out.hi sp
    have hfl := HK.out.lo sp
    clear hp
    obtain ⟨x, y⟩ := p
    simp only at HE hb2 hb3
    go_enter Tryz.func130, Tryz.ntmps130
    go_wp2_with fail
    refine HC.out.mono ?_
    rintro e w1 ⟨v, rfl, hv, hb⟩
    obtain ⟨a, cap, rfl, hA, _⟩ := own_vs hv (by omega)
    obtain ⟨n, hn⟩ : ∃ n, ((x, y) :: t).length = n := ⟨_, rfl⟩
    have hn0 : n ≠ 0 := by rw [← hn]; simp
    rw [hn] at hA hv ⊢
    obtain ⟨g, o, rfl, hgl, hcs⟩ := hA.at (by omega)
    have HV1 := hidden (HV.out.below hb)
    have HB := hidden hb
    obtain ⟨k0, k1⟩ := hcs 0 (by omega)
    simp only [Nat.zero_mul, Nat.add_zero, List.getD_cons_zero] at k0 k1
    have hf1 := HV1.out.free 1
    obtain ⟨c0, c1, c2⟩ := HV1.out.cells
    have dn : ((n : Int) == 0) = false := by simp; omega
    have hnp : (0 : Int) < (n : Int) := by omega
    clear hn hn0 hrl hle
    rcases HV1.out.map with ⟨h3, _⟩ | ⟨m', D, h3, hown, hKM⟩
    · cases h3
    cases h3
    by_cases hz : f sp = 0
    · have hlk := look_out (w := w1.drew) hown hKM hwf (by simp [hz])
      have HE2 : Hid (s = x) := by unfold Hid; rw [HE.out, if_pos (.inl hz)]
      clear hv hb hA HC hown hKM hcs hz HE
      go_wp2_with fail
      go_region
      go_wp2_with fail
      go_end0
      refine ⟨rfl, ?_, (Only.of_below HB.out [b]).setCell (by simp) _⟩
      rw [HE2.out]
      exact (HV1.out.setS x).drew
    · have hlk := look_in (w := w1.drew) hown hKM hwf hz
      by_cases hd : f sp + 200 < y
      · have HE2 : Hid (s = x) := by unfold Hid; rw [HE.out, if_pos (.inr hd)]
        have d2 : decide (f sp + 200 < y) = true := by simpa using hd
        clear hv hb hA HC hown hKM hcs hz HE hd
        go_wp2_with fail
        go_region
        go_wp2_with fail
        go_end0
        refine ⟨rfl, ?_, (Only.of_below HB.out [b]).setCell (by simp) _⟩
        rw [HE2.out]
        exact (HV1.out.setS x).drew
      · have HE2 : Hid (s = sp) := by unfold Hid; rw [HE.out, if_neg]; rintro (q | q); exact hz q; exact hd q
        have d2 : decide (f sp + 200 < y) = false := by simpa using hd
        clear hv hb hA HC hown hKM hcs hz HE hd
        go_wp2_with fail
        go_region
        go_wp2_with fail
        go_end0
        refine ⟨rfl, ?_, Only.of_below HB.out [b]⟩
        rw [HE2.out]
        exact HV1.out.drew

/-- those at the top, and those that are quiet -/
def top (f : Sc) (many : Int) : Vs := (rk f).take many.toNat
def rest (f : Sc) (many : Int) : List Int := ((rk f).drop many.toNat).map Prod.fst
def qt (f : Sc) (many : Int) : List Int := (rest f many).mergeSort fun x y => decide (x ≤ y)
theorem top_len (f : Sc) (many : Int) : (top f many).length = min many.toNat (rk f).length := by unfold top; rw [List.length_take]
theorem rest_len (f : Sc) (many : Int) : (rest f many).length = (rk f).length - many.toNat := by unfold rest; rw [List.length_map, List.length_drop]
theorem qt_len (f : Sc) (many : Int) : (qt f many).length = (rk f).length - many.toNat := by unfold qt; rw [List.length_mergeSort, rest_len]
/-- under way within Quiet -/
structure QSt (w wr : World) (v : Value) (K : List Int) : Prop where
  bel : Below w.heap.size w wr
  own : wr.ownsRow w.heap.size 3 1 v K.length (ic K)
theorem QSt.alloc {w wr : World} {v : Value} {K : List Int} (h : QSt w wr v K) (O : Obj) : QSt w (wr.alloc O) v K := ⟨below_alloc h.bel O, h.own.alloc O⟩
theorem QSt.more {w wr w2 : World} {v v2 : Value} {K : List Int} {x : Int} (h : QSt w wr v K) (hown : w2.ownsRow w.heap.size 3 1 v2 (K.length + 1) (ic K ++ [.int .i64 x])) (hg : wr.grownBy w2 v.ownBlock) : QSt w w2 v2 (K ++ [x]) := by
  refine ⟨h.bel.grown hg h.bel.size (fun k hk => (h.own.lt k hk).1), ?_⟩
  rw [List.length_append, ic_app]
  exact hown
theorem one_news (w : World) (c : Value) (T : TypeId) : ∀ j u, [c][j]? = some u → (w.alloc (.cells #[c] T)).cell? ((⟨w.heap.size, 0, none⟩ : Addr).add j) = some u := by
  intro j u hu
  rw [Addr.add_lit, World.cell?_alloc_mark, Nat.zero_add, ← hu]
  exact List.getElem?_toArray
end Go.Proofs.YtbadpjgiogghdaaGreatDoor.Voice

