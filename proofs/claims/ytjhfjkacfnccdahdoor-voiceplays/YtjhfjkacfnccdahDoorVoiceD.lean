/-
  What the functions choose, Top and Quiet of package voice return, and what choose leaves in memory. Their condition: the scores are such as they may be.
-/
import Derived.Test.YtjhfjkacfnccdahDoorVoiceC
namespace Go.Proofs.YtjhfjkacfnccdahDoor.Voice
open Go.ChangeShapes Go.WideShapes Go.ChangeAt Go.RowKit Go.Maps Go.Proofs.YtjhfjkacfnccdahDoor.Mem Go.Proofs.YtjhfjkacfnccdahDoor.VO
set_option linter.unusedVariables false

theorem undVS : Tryd.prog.underlying 30 = some (.slice (Tryd.prog.elem 30)) := by kernel_rfl
theorem elemVS : Tryd.prog.elem 30 = 38 := by kernel_rfl
theorem sizeVO (w : World) : (Go.sizeOf 38).run Tryd.prog w = .ok 2 w := Tryd.sizeOf38 w
/-- where a part of voices lies -/
def cutV (a : Option Addr) (cap l : Nat) : Option Addr := if cap = l then a else a.map (·.add (l * 2))
theorem cutV_l (a : Option Addr) (len cap l : Nat) (hl : l ≤ len) (w : World) :
    (Instr.slice 30 (.slice a len cap) (some (.int .i64 (l : Int))) none none).run Tryd.prog w = .ok (.slice (cutV a cap l) (len - l) (cap - l)) w := by
  rw [run_slice_l w 30 a len cap undVS .i64 l (by omega) (by omega), elemVS, sizeVO]
  simp [Result.andThen, sliced, cutV]
theorem cutV_h (a : Option Addr) (len cap h : Nat) (hh : h ≤ cap) (w : World) :
    (Instr.slice 30 (.slice a len cap) none (some (.int .i64 (h : Int))) none).run Tryd.prog w = .ok (.slice a h cap) w := by
  rw [run_slice_h w 30 a len cap undVS .i64 h (by omega) (by omega), elemVS, sizeVO]
  simp [Result.andThen, sliced, Addr.add_zero']
theorem VArg.drop {w : World} {a : Option Addr} {n cap : Nat} {l : Vs} (h : VArg w a n l) (hc : n ≤ cap) {k : Nat} (hk : k ≤ n) : VArg w (cutV a cap k) (n - k) (l.drop k) := by
  have hl := h.2.1
  refine ⟨fun j hj => ?_, by rw [List.length_drop]; omega, by have := h.2.2; omega⟩
  rw [List.length_drop] at hj
  obtain ⟨b, o, e, h1, h2⟩ := h.1 (k + j) (by omega)
  subst e
  have e1 : (l.drop k).getD j (0, 0) = l.getD (k + j) (0, 0) := by
    rw [List.getD_eq_getElem?_getD, List.getD_eq_getElem?_getD, List.getElem?_drop]
  rw [e1]
  refine ⟨b, o + k * 2, ?_, ?_, ?_⟩
  · unfold cutV
    rw [if_neg (by omega)]
    simp only [Option.map_some, Option.some.injEq]
    unfold Addr.add; split <;> simp_all
  · rw [show o + k * 2 + j * 2 = o + (k + j) * 2 by omega]; exact h1
  · rw [show o + k * 2 + j * 2 + 1 = o + (k + j) * 2 + 1 by omega]; exact h2

theorem VAt.drew {w : World} {b : Nat} {mo : Option Nat} {many sp : Int} {f : Sc} (h : VAt w b mo many sp f) : VAt w.drew b mo many sp f := ⟨h.box, h.map⟩
set_option maxHeartbeats 1000000 in
theorem choose_calls (b m : Nat) (many sp : Int) (f : Sc) (w : World) (h : VAt w b (some m) many sp f) (hk : Ok f) (h0 : -1 ≤ sp) (h1 : sp ≤ 200) :
    Calls Tryd.prog 19 #[.pointer (some ⟨b, 0, none⟩)] w fun e w' => e = .returned (.tuple #[]) ∧ VAt w' b (some m) many (spk f sp) f ∧ Only [b] w w' := by
  have HC := hidden (ranked_calls b (some m) many sp f w h hk)
  have HV := hidden h
  have HK := hidden hk
  have hle := lst_len f
  have hrl := rk_len f
  clear h hk
  obtain ⟨r, hr⟩ : ∃ r, rk f = r := ⟨_, rfl⟩
  obtain ⟨s, hs⟩ : ∃ s, spk f sp = s := ⟨_, rfl⟩
  rw [hs]
  rw [hr] at HC hrl
  have HR := hidden hr
  have HS := hidden hs
  clear hr hs
  cases r with
  | nil =>
    have HE : Hid (s = -1) := by unfold Hid; rw [← HS.out]; exact spk_nil HR.out
    clear hrl
    go_enter Tryd.func19, Tryd.ntmps19
    go_wp2_with fail
    refine HC.out.mono ?_
    rintro e w1 ⟨v, rfl, hv, hb⟩
    obtain ⟨a, cap, rfl, hA, _⟩ := own_vs hv (by simp)
    have HV1 := hidden (HV.out.below hb)
    have HB := hidden hb
    have hf1 := HV1.out.free 1
    have hc1 := HV1.out.cells.2.1
    clear hv hb hA HC
    go_wp2_with fail
    refine bodyPost_ret (results_none rfl _ _ _) rfl ?_
    refine ⟨rfl, ?_, (Only.of_below HB.out [b]).setCell (by simp) _⟩
    rw [HE.out]
    exact HV1.out.setS (-1)
  | cons p t =>
    have HE : Hid (s = if f sp = 0 ∨ p.2 > f sp + 200 then p.1 else sp) := by unfold Hid; rw [← HS.out]; exact spk_cons HR.out
    have hwf := wf_of (y := sp) (by omega) (by omega)
    have hp := (rk_mem HK.out p).1 (by rw [HR.out]; simp)
    have hb2 : p.2 ≤ 16256 := by rw [← hp.1]; exact HK.out.hi _
    have hb3 : 0 ≤ p.2 := by rw [← hp.1]; exact HK.out.lo _
    have hfs := HK.out.hi sp
    have hfl := HK.out.lo sp
    clear hp
    obtain ⟨x, y⟩ := p
    simp only at HE hb2 hb3
    go_enter Tryd.func19, Tryd.ntmps19
    go_wp2_with fail
    refine HC.out.mono ?_
    rintro e w1 ⟨v, rfl, hv, hb⟩
    obtain ⟨a, cap, rfl, hA, _⟩ := own_vs hv (by omega)
    obtain ⟨n, hn⟩ : ∃ n, ((x, y) :: t).length = n := ⟨_, rfl⟩
    have hn0 : n ≠ 0 := by rw [← hn]; simp
    rw [hn] at hA hv ⊢
    obtain ⟨g, o, rfl, hgl, hcs⟩ := hA.at (by omega)
    have HV1 := hidden (HV.out.below hb)
    have HB := hidden hb
    obtain ⟨k0, k1⟩ := hcs 0 (by omega)
    simp only [Nat.zero_mul, Nat.add_zero, List.getD_cons_zero] at k0 k1
    have hf1 := HV1.out.free 1
    obtain ⟨c0, c1, c2⟩ := HV1.out.cells
    have dn : ((n : Int) == 0) = false := by simp; omega
    have hnp : (0 : Int) < (n : Int) := by omega
    clear hn hn0 hrl hle
    rcases HV1.out.map with ⟨h3, _⟩ | ⟨m', D, h3, hown, hKM⟩
    · cases h3
    cases h3
    by_cases hz : f sp = 0
    · have hlk := look_out (w := w1.drew) hown hKM hwf (by simp [hz])
      have HE2 : Hid (s = x) := by unfold Hid; rw [HE.out, if_pos (.inl hz)]
      clear hv hb hA HC hown hKM hcs hz HE
      go_wp2_with fail
      go_region
      go_wp2_with fail
      go_end0
      refine ⟨rfl, ?_, (Only.of_below HB.out [b]).setCell (by simp) _⟩
      rw [HE2.out]
      exact (HV1.out.setS x).drew
    · have hlk := look_in (w := w1.drew) hown hKM hwf hz
      by_cases hd : f sp + 200 < y
      · have HE2 : Hid (s = x) := by unfold Hid; rw [HE.out, if_pos (.inr hd)]
        have d2 : decide (f sp + 200 < y) = true := by simpa using hd
        clear hv hb hA HC hown hKM hcs hz HE hd
        go_wp2_with fail
        go_region
        go_wp2_with fail
        go_end0
        refine ⟨rfl, ?_, (Only.of_below HB.out [b]).setCell (by simp) _⟩
        rw [HE2.out]
        exact (HV1.out.setS x).drew
      · have HE2 : Hid (s = sp) := by unfold Hid; rw [HE.out, if_neg]; rintro (q | q); exact hz q; exact hd q
        have d2 : decide (f sp + 200 < y) = false := by simpa using hd
        clear hv hb hA HC hown hKM hcs hz HE hd
        go_wp2_with fail
        go_region
        go_wp2_with fail
        go_end0
        refine ⟨rfl, ?_, Only.of_below HB.out [b]⟩
        rw [HE2.out]
        exact HV1.out.drew

/-- those at the top, and those that are quiet -/
def top (f : Sc) (many : Int) : Vs := (rk f).take many.toNat
def rest (f : Sc) (many : Int) : List Int := ((rk f).drop many.toNat).map Prod.fst
def qt (f : Sc) (many : Int) : List Int := (rest f many).mergeSort fun x y => decide (x ≤ y)
theorem top_len (f : Sc) (many : Int) : (top f many).length = min many.toNat (rk f).length := by unfold top; rw [List.length_take]
theorem rest_len (f : Sc) (many : Int) : (rest f many).length = (rk f).length - many.toNat := by unfold rest; rw [List.length_map, List.length_drop]
theorem qt_len (f : Sc) (many : Int) : (qt f many).length = (rk f).length - many.toNat := by unfold qt; rw [List.length_mergeSort, rest_len]
set_option maxHeartbeats 1000000 in
theorem top_calls (b : Nat) (mo : Option Nat) (many sp : Int) (f : Sc) (w : World) (h : VAt w b mo many sp f) (hk : Ok f) (h0 : 1 ≤ many) (h1 : many ≤ 20) :
    Calls Tryd.prog 10 #[.pointer (some ⟨b, 0, none⟩)] w fun e w' => ∃ a cap, e = .returned (.slice a (top f many).length cap) ∧ VArg w' a (top f many).length (top f many) ∧ (top f many).length ≤ cap ∧ Below w.heap.size w w' := by
  have HC := hidden (ranked_calls b mo many sp f w h hk)
  have HV := hidden h
  have hle := lst_len f
  have hrl := rk_len f
  obtain ⟨M, rfl⟩ : ∃ M : Nat, many = (M : Int) := ⟨many.toNat, by omega⟩
  have htl : (top f M).length = min M (rk f).length := by rw [top_len]; simp
  have HT : Hid (top f M = (rk f).take M) := by unfold Hid top; simp
  obtain ⟨n, hn⟩ : ∃ n, (rk f).length = n := ⟨_, rfl⟩
  rw [hn] at HC hrl htl
  obtain ⟨k, hkk⟩ : ∃ k, (top f M).length = k := ⟨_, rfl⟩
  rw [hkk] at htl
  rw [hkk]
  clear h hk hkk
  go_enter Tryd.func10, Tryd.ntmps10
  go_wp2_with fail
  refine HC.out.mono ?_
  rintro e w1 ⟨v, rfl, hv, hb⟩
  obtain ⟨a, cap, rfl, hA, _, hcap, _⟩ := own_vs hv (by omega)
  have HA := hidden hA
  have HB := hidden hb
  have c0 := (HV.out.below hb).cells.1
  have hcut := fun W => cutV_h a n cap k (by omega) W
  have hmin : min (M : Int) (n : Int) = (k : Int) := by omega
  have HH : Hid (k ≤ cap ∧ VArg w1 a k (top f M)) := by
    refine ⟨by omega, ?_⟩
    have e : top f M = (rk f).take k := by
      rw [HT.out, List.take_eq_take_iff]
      omega
    rw [e]
    exact hA.take (by omega)
  clear hv hA HC hb hcap hn hrl hle htl
  go_wp2_with fail
  go_ret
  exact ⟨a, cap, rfl, HH.out.2, HH.out.1, HB.out⟩
/-- under way within Quiet -/
structure QSt (w wr : World) (v : Value) (K : List Int) : Prop where
  bel : Below w.heap.size w wr
  own : wr.ownsRow w.heap.size 3 1 v K.length (ic K)
theorem QSt.alloc {w wr : World} {v : Value} {K : List Int} (h : QSt w wr v K) (O : Obj) : QSt w (wr.alloc O) v K := ⟨below_alloc h.bel O, h.own.alloc O⟩
theorem QSt.more {w wr w2 : World} {v v2 : Value} {K : List Int} {x : Int} (h : QSt w wr v K) (hown : w2.ownsRow w.heap.size 3 1 v2 (K.length + 1) (ic K ++ [.int .i64 x])) (hg : wr.grownBy w2 v.ownBlock) : QSt w w2 v2 (K ++ [x]) := by
  refine ⟨h.bel.grown hg h.bel.size (fun k hk => (h.own.lt k hk).1), ?_⟩
  rw [List.length_append, ic_app]
  exact hown
theorem one_news (w : World) (c : Value) (T : TypeId) : ∀ j u, [c][j]? = some u → (w.alloc (.cells #[c] T)).cell? ((⟨w.heap.size, 0, none⟩ : Addr).add j) = some u := by
  intro j u hu
  rw [Addr.add_lit, World.cell?_alloc_mark, Nat.zero_add, ← hu]
  exact List.getElem?_toArray
set_option maxHeartbeats 1000000 in
set_option maxRecDepth 100000 in
theorem quiet_calls (b : Nat) (mo : Option Nat) (many sp : Int) (f : Sc) (w : World) (h : VAt w b mo many sp f) (hk : Ok f) (h0 : 1 ≤ many) (h1 : many ≤ 20) :
    Calls Tryd.prog 12 #[.pointer (some ⟨b, 0, none⟩)] w fun e w' => ∃ a cap, e = .returned (.slice a (qt f many).length cap) ∧ IArg w' a (qt f many).length (qt f many) ∧ Below w.heap.size w w' := by
  have HC := hidden (ranked_calls b mo many sp f w h hk)
  have HV := hidden h
  have hle := lst_len f
  have hrl := rk_len f
  obtain ⟨i0, hii, hz0, hz1, hz2⟩ := info_parts info3
  obtain ⟨M, rfl⟩ : ∃ M : Nat, many = (M : Int) := ⟨many.toNat, by omega⟩
  have hql : (qt f M).length = (rk f).length - M := by rw [qt_len]; simp
  obtain ⟨n, hn⟩ : ∃ n, (rk f).length = n := ⟨_, rfl⟩
  rw [hn] at HC hrl hql
  obtain ⟨q, hq⟩ : ∃ q, (qt f M).length = q := ⟨_, rfl⟩
  rw [hq] at hql
  rw [hq]
  obtain ⟨k, hkk⟩ : ∃ k, min M n = k := ⟨_, rfl⟩
  have hkn : k + q = n := by omega
  obtain ⟨R, hR⟩ : ∃ R, (rk f).drop k = R := ⟨_, rfl⟩
  have HR : Hid (rest f M = R.map Prod.fst) := by
    unfold Hid rest
    rw [← hR, Int.toNat_natCast]
    rcases Nat.le_total M n with hc | hc
    · rw [show k = M by omega]
    · rw [List.drop_of_length_le (by omega), List.drop_of_length_le (by omega)]
  have hRl : R.length = q := by rw [← hR, List.length_drop, hn]; omega
  have hq201 : q ≤ 201 := by omega
  clear h hk hq
  go_enter Tryd.func12, Tryd.ntmps12
  go_wp2_with fail
  refine HC.out.mono ?_
  rintro e w1 ⟨v, rfl, hv, hb⟩
  obtain ⟨a, cap, rfl, hA, _, hcap, _⟩ := own_vs hv (by omega)
  have hD := hA.drop hcap (show k ≤ n by omega)
  rw [hR, show n - k = q by omega] at hD
  have HD := hidden hD
  have HB := hidden hb
  have c0 := (HV.out.below hb).cells.1
  have hcut := fun W => cutV_l a n cap k (by omega) W
  rw [show n - k = q by omega] at hcut
  have hmin : min (M : Int) (n : Int) = (k : Int) := by omega
  have HS0 : Hid (QSt w1 w1 (.slice none 0 0) []) := ⟨Below.refl _ _, by simpa [ic] using World.ownsRow_nil _ _ _ _⟩
  generalize cutV a cap k = ak at *
  generalize cap - k = ck at *
  clear hv hA HC hb hcap hn hrl hql hR hD hkk hkn
  go_wp2_with fail
  go_loopg [4, 19] q (fun g u y wr => ∃ (j : Nat) (v : Value), j + g = q ∧ v = u ∧ y = .int .i64 (j : Int) ∧ Hid (QSt w1 wr v ((R.take j).map Prod.fst)))
  case atStart => exact ⟨0, _, by omega, rfl, rfl, HS0⟩
  case round =>
    obtain ⟨j, v, hjg, rfl, rfl, HS⟩ := hrel
    clear HS0
    by_cases hj : j < q
    · have hjz : (j : Int) < (q : Int) := by omega
      obtain ⟨g, o, rfl, hgl, hcs⟩ := (HD.out.below HS.out.bel).at (by omega)
      obtain ⟨k0, k1⟩ := hcs j hj
      obtain ⟨p, hp⟩ : ∃ p, R.getD j (0, 0) = p := ⟨_, rfl⟩
      rw [hp] at k0 k1
      have HT : Hid ((R.take (j + 1)).map Prod.fst = (R.take j).map Prod.fst ++ [p.1]) := by
        unfold Hid
        rw [take_succ' (by omega), hp, List.map_append]
        rfl
      obtain ⟨K, hK⟩ : ∃ K, (R.take j).map Prod.fst = K := ⟨_, rfl⟩
      have hkl : K.length = j := by rw [← hK, List.length_map, List.length_take]; omega
      rw [hK] at HS HT
      obtain ⟨x, y⟩ := p
      simp only at k0 k1 HT
      have HS1 : Hid (QSt w1 ((wr.alloc (.cells #[.int .i64 x, .int .i64 y] 38)).alloc (.cells #[.int .i64 x] 3)) v K) := (HS.out.alloc _).alloc _
      have HN := one_news (wr.alloc (.cells #[.int .i64 x, .int .i64 y] 38)) (.int .i64 x) 3
      rw [show (wr.alloc (.cells #[.int .i64 x, .int .i64 y] 38)).heap.size = wr.heap.size + 1 by simp] at HN
      have HN := hidden HN
      have hsz : w1.heap.size ≤ wr.heap.size + 2 := by have := HS.out.bel.size; omega
      clear hcs hp hK HS
      go_wp2_with (at_builtin; refine wpList_append_own _ rfl _ _ 36 rfl w1.heap.size 3 i0 _ 1 8 Tryd.underlying36 hii hz0 hz1 hz2 rfl (by decide) _ K.length (ic K) rfl HS1.out.own ⟨wr.heap.size + 1, 0, none⟩ 1 1 [.int .i64 x] rfl rfl ?news (by simp [Value.oneCell']) ?b1 ?b2 ?b3 ?next)
      case news => first | exact HN.out | (intro j u h; exact h)
      case b1 => unfold maxLen; omega
      case b2 => omega
      case b3 => first | omega | (simp; omega)
      case next =>
        intro v2 w2 hown hgrow _
        have HS2 := hidden (HS1.out.more (by rw [hkl]; exact hown) hgrow)
        clear hown hgrow HS1
        rw [← HT.out] at HS2
        go_wp2_with fail
        go_roundg (q - (j + 1))
        case measure => omega
        case rel => exact ⟨j + 1, v2, by omega, rfl, by go_num, HS2⟩
    · have hjz : ¬ (j : Int) < (q : Int) := by omega
      obtain rfl : j = q := by omega
      have hr : R.take j = R := List.take_of_length_le (by omega)
      rw [hr, ← HR.out] at HS
      have hrl : (rest f M).length = j := by rw [HR.out, List.length_map]; exact hRl
      have C := hidden (sort_calls v w1.heap.size (rest f M).length (rest f M) wr HS.out.own (by omega))
      rw [hrl] at C
      have HL : Hid (∀ k, v.ownBlock = some k → w1.heap.size ≤ k) := fun k hk => (HS.out.own.lt k hk).1
      have HJ : Hid (j ≤ 201) := by unfold Hid; omega
      clear hr hrl
      go_wp2_with fail
      refine C.out.mono ?_
      rintro e w2 ⟨rfl, h3, h4⟩
      have HO := hidden h3
      have HB2 : Hid (Below w.heap.size w w2) := HB.out.trans ((HS.out.bel.grown h4 HS.out.bel.size HL.out).mono HB.out.size)
      clear h3 h4 C
      obtain ⟨a2, cap2, rfl, hI, _⟩ := own_ints HO.out (by have := HJ.out; omega)
      have HI := hidden hI
      clear hI
      go_wp2_with fail
      go_ret
      exact ⟨a2, cap2, rfl, HI.out, HB2.out⟩
end Go.Proofs.YtjhfjkacfnccdahDoor.Voice
