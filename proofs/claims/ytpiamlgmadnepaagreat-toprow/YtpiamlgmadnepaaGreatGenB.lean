/-
  What subsOf of package node returns: who subscribes to a track, by number. Its condition: the node is such as it may be.
-/
import Derived.Test.YtpiamlgmadnepaaGreatNodeF
import Derived.Lib.SliceRun
import Derived.Deep.LoopGhost
namespace Go.Proofs.YtpiamlgmadnepaaGreat.ND
open Go.ChangeShapes Go.WideShapes Go.ChangeAt Go.RowKit Go.Maps Go.Proofs.YtpiamlgmadnepaaGreat.Mem Go.Proofs.YtpiamlgmadnepaaGreat.NO
set_option linter.unusedVariables false

theorem subsCl_calls (sb b1 : Nat) (ts tk : Int) (w : World) (h0 : w.cell? ⟨sb, 0, none⟩ = some (.int .i64 ts)) (h1 : w.cell? ⟨b1, 0, none⟩ = some (.int .i64 tk)) :
    Calls Tryz.prog 166 #[.pointer (some ⟨sb, 0, none⟩), .pointer (some ⟨b1, 0, none⟩)] w fun e w' => e = .returned (.bool (ts != tk)) ∧ ∃ k, w' = w.drewN k := by
  go_enter Tryz.func166, Tryz.ntmps166
  go_wp2_with fail
  go_quiet (fail)
  go_wp2_with fail
  go_ret
  exact ⟨rfl, _, rfl⟩
/-- the first that is not of the track, or that there is none -/
def FirstNot (ft : Int → Int) (tk : Int) (X : List Int) (e : Ending) : Prop := (e = .returned (.int .i64 (-1)) ∧ ∀ x ∈ X, ft x = tk) ∨ ∃ i : Nat, e = .returned (.int .i64 (i : Int)) ∧ i < X.length ∧ ft (X.getD i 0) ≠ tk ∧ ∀ k, k < i → ft (X.getD k 0) = tk
set_option maxRecDepth 100000 in
theorem idxS_any (a : Option Addr) (nn cap b1 : Nat) (g : Int → Nat) (X : List Int) (ft : Int → Int) (tk : Int) (w : World) (hl : X.length = nn) (hn : nn ≤ 1000) (h : PArg w a g X) (h1 : w.cell? ⟨b1, 0, none⟩ = some (.int .i64 tk)) (ht : ∀ x ∈ X, w.cell? ⟨g x, 0, none⟩ = some (.int .i64 (ft x))) :
    Calls Tryz.prog 196 #[.slice a nn cap, .func (.func 166) #[] #[.pointer (some ⟨b1, 0, none⟩)]] w fun e w' => FirstNot ft tk X e ∧ ∃ k, w' = w.drewN k := by
  have HA := hidden h
  have H1 := hidden h1
  have HT := hidden ht
  have HL := hidden hl
  clear h h1 ht hl
  go_enter Tryz.func196, Tryz.ntmps196
  go_wp2_with fail
  go_loopg [8] nn (fun gh x wr => ∃ j : Nat, j + gh = nn ∧ x = .int .i64 (j : Int) ∧ Hid (∃ k, wr = w.drewN k) ∧ Hid (∀ k, k < j → ft (X.getD k 0) = tk))
  case atStart => exact ⟨0, by omega, rfl, hidden ⟨0, rfl⟩, hidden (fun k hk => by omega)⟩
  case round =>
    obtain ⟨j, hjg, rfl, HW, HAll⟩ := hrel
    by_cases hj : j < nn
    · have hjz : (j : Int) < (nn : Int) := by omega
      have hlen : j < X.length := by rw [HL.out]; exact hj
      obtain ⟨b, rfl, hcs⟩ := HA.out.at (by omega)
      have hmem : X.getD j 0 ∈ X := by rw [List.getD_eq_getElem?_getD, List.getElem?_eq_getElem hlen]; exact List.getElem_mem hlen
      obtain ⟨sb, hsb⟩ : ∃ sb, g (X.getD j 0) = sb := ⟨_, rfl⟩
      obtain ⟨ts, hts⟩ : ∃ ts, ft (X.getD j 0) = ts := ⟨_, rfl⟩
      have c0 : wr.cell? ⟨b, j, none⟩ = some (.pointer (some ⟨sb, 0, none⟩)) := by obtain ⟨k, rfl⟩ := HW.out; rw [← hsb]; exact hcs j hlen
      have C := hidden (subsCl_calls sb b1 ts tk wr (by obtain ⟨k, rfl⟩ := HW.out; rw [← hsb, ← hts]; exact HT.out _ hmem) (by obtain ⟨k, rfl⟩ := HW.out; exact H1.out))
      have HTS := hidden hts
      clear hcs hmem hsb hts
      have HLen := hidden hlen
      clear hlen
      by_cases hq : ts = tk
      · have hqb : (ts != tk) = false := by simp [hq]
        rw [hqb] at C
        have HQ := hidden hq
        clear hq hqb
        go_wp2_with fail
        refine C.out.mono ?_
        rintro e w1 ⟨rfl, k1, hk1⟩
        have HN : Hid (∃ k, w1 = w.drewN k) := by
          obtain ⟨k, hk⟩ := HW.out
          refine ⟨k + k1, ?_⟩
          rw [hk1, hk, World.drewN_drewN]
        clear hk1
        go_wp2_with fail
        go_roundg (nn - (j + 1))
        case measure => omega
        case rel => exact ⟨j + 1, by omega, by go_num, HN, hidden (fun k hk => by
          by_cases c : k < j
          · exact HAll.out k c
          · obtain rfl : k = j := by omega
            exact HTS.out.trans HQ.out)⟩
      · have hqb : (ts != tk) = true := by simp [hq]
        rw [hqb] at C
        have HQ := hidden hq
        clear hq hqb
        go_wp2_with fail
        refine C.out.mono ?_
        rintro e w1 ⟨rfl, k1, hk1⟩
        have HN : Hid (∃ k, w1 = w.drewN k) := by
          obtain ⟨k, hk⟩ := HW.out
          refine ⟨k + k1, ?_⟩
          rw [hk1, hk, World.drewN_drewN]
        clear hk1
        go_wp2_with fail
        go_ret
        exact ⟨.inr ⟨j, rfl, HLen.out, by rw [HTS.out]; exact HQ.out, HAll.out⟩, HN.out⟩
    · have hjz : ¬ (j : Int) < (nn : Int) := by omega
      obtain rfl : nn = j := by omega
      go_wp2_with fail
      go_ret
      refine ⟨.inl ⟨rfl, ?_⟩, HW.out⟩
      intro x hx
      obtain ⟨k, hk, rfl⟩ := List.mem_iff_getElem.1 hx
      have := HAll.out k (by have := HL.out; omega)
      rwa [List.getD_eq_getElem?_getD, List.getElem?_eq_getElem hk] at this
/-- those of a track -/
def fil (ft : Int → Int) (tk : Int) (X : List Int) : List Int := X.filter fun x => decide (ft x = tk)
theorem fil_step {ft : Int → Int} {tk : Int} {X : List Int} {j : Nat} (hj : j < X.length) : fil ft tk (X.take (j + 1)) = if ft (X.getD j 0) = tk then fil ft tk (X.take j) ++ [X.getD j 0] else fil ft tk (X.take j) := by
  have e : X.take (j + 1) = X.take j ++ [X.getD j 0] := by
    rw [List.getD_eq_getElem?_getD, List.getElem?_eq_getElem hj, Option.getD_some, List.take_append_getElem hj]
  unfold fil
  obtain ⟨x, hx⟩ : ∃ x, X.getD j 0 = x := ⟨_, rfl⟩
  rw [hx] at e ⊢
  rw [e, List.filter_append]
  split
  · rename_i h; simp [h]
  · rename_i h; simp [h]
/-- under way: i are kept of the first j -/
structure DLoop (w wr : World) (rb cap : Nat) (g : Int → Nat) (ft : Int → Int) (tk : Int) (X : List Int) (i j : Nat) : Prop where
  lt : i < j
  le : j ≤ X.length
  len : (fil ft tk (X.take j)).length = i
  blk : ∃ cur, wr.heap[rb]? = some (.cells cur 160 (0, 0)) ∧ cur.size = cap ∧ (∀ k, k < i → cur[k]? = some (.pointer (some ⟨g ((fil ft tk (X.take j)).getD k 0), 0, none⟩))) ∧ ∀ k, j ≤ k → k < X.length → cur[k]? = some (.pointer (some ⟨g (X.getD k 0), 0, none⟩))
  only : Only [rb] w wr
theorem DLoop.drew {w wr : World} {rb cap : Nat} {g : Int → Nat} {ft : Int → Int} {tk : Int} {X : List Int} {i j : Nat} (h : DLoop w wr rb cap g ft tk X i j) (q : Nat) : DLoop w (wr.drewN q) rb cap g ft tk X i j := ⟨h.lt, h.le, h.len, h.blk, h.only⟩
theorem DLoop.cell {w wr : World} {rb cap : Nat} {g : Int → Nat} {ft : Int → Int} {tk : Int} {X : List Int} {i j : Nat} (h : DLoop w wr rb cap g ft tk X i j) (hc : X.length ≤ cap) : (j < X.length → wr.cell? ⟨rb, j, none⟩ = some (.pointer (some ⟨g (X.getD j 0), 0, none⟩))) ∧ (∀ k, k < cap → (wr.cell? ⟨rb, k, none⟩).isSome = true) ∧ ∀ k, wr.frozen? ⟨rb, k, none⟩ = false := by
  obtain ⟨cur, h1, h2, h3, h4⟩ := h.blk
  refine ⟨fun hj => ?_, fun k hk => ?_, fun k => ?_⟩
  · simp only [World.cell?, h1]
    exact h4 j (Nat.le_refl _) hj
  · simp only [World.cell?, h1]
    rw [Array.getElem?_eq_getElem (by omega)]
    rfl
  · simp [World.frozen?, h1]
theorem DLoop.skip {w wr : World} {rb cap : Nat} {g : Int → Nat} {ft : Int → Int} {tk : Int} {X : List Int} {i j : Nat} (h : DLoop w wr rb cap g ft tk X i j) (hj : j < X.length) (hq : ft (X.getD j 0) ≠ tk) : DLoop w wr rb cap g ft tk X i (j + 1) := by
  have e := fil_step (ft := ft) (tk := tk) hj
  rw [if_neg hq] at e
  obtain ⟨cur, h1, h2, h3, h4⟩ := h.blk
  exact ⟨Nat.lt_succ_of_lt h.lt, hj, by rw [e]; exact h.len, ⟨cur, h1, h2, by rw [e]; exact h3, fun k hk => h4 k (by omega)⟩, h.only⟩
theorem DLoop.take {w wr : World} {rb cap : Nat} {g : Int → Nat} {ft : Int → Int} {tk : Int} {X : List Int} {i j : Nat} (h : DLoop w wr rb cap g ft tk X i j) (hc : X.length ≤ cap) (hj : j < X.length) (hq : ft (X.getD j 0) = tk) : DLoop w (wr.setCell ⟨rb, i, none⟩ (.pointer (some ⟨g (X.getD j 0), 0, none⟩))) rb cap g ft tk X (i + 1) (j + 1) := by
  have e := fil_step (ft := ft) (tk := tk) hj
  rw [if_pos hq] at e
  obtain ⟨cur, h1, h2, h3, h4⟩ := h.blk
  have hl := h.lt
  refine ⟨Nat.succ_lt_succ h.lt, hj, by rw [e, List.length_append, h.len]; rfl, ⟨cur.setIfInBounds i (.pointer (some ⟨g (X.getD j 0), 0, none⟩)), ?_, by simp [h2], ?_, ?_⟩, ?_⟩
  · exact heap_setCell_same wr rb i cur _ _ h1
  · intro k hk
    rw [e]
    by_cases c : k = i
    · subst c
      obtain ⟨x, hx⟩ : ∃ x, X.getD j 0 = x := ⟨_, rfl⟩
      rw [hx, Array.getElem?_setIfInBounds_self_of_lt (by omega), List.getD_eq_getElem?_getD, List.getElem?_append_right (by rw [h.len]; exact Nat.le_refl _), h.len]
      simp
    · rw [Array.getElem?_setIfInBounds_ne (by omega), h3 k (by omega), List.getD_eq_getElem?_getD, List.getD_eq_getElem?_getD, List.getElem?_append_left (by rw [h.len]; omega)]
  · intro k hk hk2
    rw [Array.getElem?_setIfInBounds_ne (by omega)]
    exact h4 k (by omega) hk2
  · exact h.only.trans (Only.setCell (Only.refl _ _) (by simp) _)
/-- a stretch of a block is written -/
theorem setCells_block {t : TypeId} (b : Nat) : ∀ (vs : List Value) (o : Nat) (w : World) (cur : Array Value), w.heap[b]? = some (.cells cur t (0, 0)) → o + vs.length ≤ cur.size →
    (∃ cur', (w.setCells b o vs).heap[b]? = some (.cells cur' t (0, 0)) ∧ cur'.size = cur.size ∧ (∀ k, k < o → cur'[k]? = cur[k]?) ∧ (∀ k, o + vs.length ≤ k → cur'[k]? = cur[k]?) ∧ ∀ k, k < vs.length → cur'[o + k]? = vs[k]?) ∧ Only [b] w (w.setCells b o vs)
  | [], o, w, cur, h, hl => ⟨⟨cur, h, rfl, fun _ _ => rfl, fun _ _ => rfl, fun k hk => absurd hk (by simp)⟩, Only.refl _ _⟩
  | v :: r, o, w, cur, h, hl => by
    have hl' : o + 1 + r.length ≤ cur.size := by simp at hl; omega
    obtain ⟨⟨c, h1, h2, h3, h4, h5⟩, h6⟩ := setCells_block b r (o + 1) (w.setCell ⟨b, o, none⟩ v) (cur.setIfInBounds o v) (heap_setCell_same w b o cur t v h) (by simpa using hl')
    refine ⟨⟨c, h1, by rw [h2]; simp, ?_, ?_, ?_⟩, (Only.setCell (Only.refl _ _) (by simp) _).trans h6⟩
    · intro k hk
      rw [h3 k (by omega), Array.getElem?_setIfInBounds_ne (by omega)]
    · intro k hk
      simp only [List.length_cons] at hk
      rw [h4 k (by omega), Array.getElem?_setIfInBounds_ne (by omega)]
    · intro k hk
      cases k with
      | zero =>
        rw [Nat.add_zero, h3 o (by omega), Array.getElem?_setIfInBounds_self_of_lt (by omega)]
        rfl
      | succ k =>
        simp only [List.length_cons] at hk
        rw [show o + (k + 1) = o + 1 + k by omega, h5 k (by omega)]
        rfl
theorem zeroSQ' (w : World) : (zeroValue 160).run Tryz.prog w = .ok (.pointer none) w := zeroSQ w
/-- behind the loop: what is left over is cleared -/
theorem DLoop.clear {w wr : World} {rb cap : Nat} {g : Int → Nat} {ft : Int → Int} {tk : Int} {X : List Int} {i nn base : Nat} (h : DLoop w wr rb cap g ft tk X i nn) (hl : X.length = nn) (hc : nn ≤ cap) (hm : cap ≤ maxLen) (hb : base ≤ rb) :
    ∃ w2, (∀ ty, (Builtin.clear_ #[210] ty #[.slice (some ⟨rb, i, none⟩) (nn - i) (cap - i)]).run Tryz.prog wr = .ok (.tuple #[]) w2) ∧ w2.ownsRow base 160 1 (.slice (some ⟨rb, 0, none⟩) i cap) i (pts g (fil ft tk X)) ∧ Only [rb] w w2 := by
  obtain ⟨_, hs, hfz⟩ := h.cell (by omega)
  obtain ⟨cur, h1, h2, h3, h4⟩ := h.blk
  have hi := h.lt
  obtain ⟨⟨c, k1, k2, k3, k4, k5⟩, k6⟩ := setCells_block rb (List.replicate (nn - i) (Value.pointer none)) i wr cur h1 (by simp; omega)
  have hX : X.take nn = X := List.take_of_length_le (by omega)
  have hlen := h.len
  rw [hX] at h3 hlen
  refine ⟨_, fun ty => Lib.run_clear_slice wr _ _ ty _ Tryz.underlying210 zeroSQ rfl rfl rb i _ _ (by omega) (fun j hj => hs _ (by omega)) (fun j hj => hfz _), ⟨by simp [pts, hlen], .inr ⟨rb, cap, c, rfl, hb, k1, by omega, hm, by omega, ?_⟩⟩, h.only.trans k6⟩
  rw [Nat.mul_one]
  apply List.ext_getElem?
  intro k
  by_cases hk : k < i
  · rw [List.getElem?_take_of_lt hk, Array.getElem?_toList, k3 k hk, h3 k hk, pts_get g _ k (by omega)]
  · rw [List.getElem?_take_eq_none (by omega), List.getElem?_eq_none (by rw [pts_len]; omega)]
theorem fil_all {ft : Int → Int} {tk : Int} {X : List Int} (h : ∀ x ∈ X, ft x = tk) : fil ft tk X = X := by
  unfold fil
  rw [List.filter_eq_self]
  intro x hx
  simp [h x hx]
set_option maxRecDepth 100000 in
theorem delF_any (a : Option Addr) (nn cap b1 base : Nat) (g : Int → Nat) (X : List Int) (ft : Int → Int) (tk : Int) (w : World) (hl : X.length = nn) (hn : nn ≤ 1000) (h : w.ownsRow base 160 1 (.slice a nn cap) nn (pts g X)) (h1 : w.cell? ⟨b1, 0, none⟩ = some (.int .i64 tk)) (ht : ∀ x ∈ X, w.cell? ⟨g x, 0, none⟩ = some (.int .i64 (ft x)))
    (hne : ∀ ad, a = some ad → b1 ≠ ad.block ∧ ∀ x ∈ X, g x ≠ ad.block) :
    Calls Tryz.prog 165 #[.slice a nn cap, .func (.func 166) #[] #[.pointer (some ⟨b1, 0, none⟩)]] w fun e w' => ∃ v', e = .returned v' ∧ w'.ownsRow base 160 1 v' (fil ft tk X).length (pts g (fil ft tk X)) ∧ Only (a.map (·.block)).toList w w' := by
  have hP : PArg w a g X := by
    have h' := h
    rw [← hl] at h'
    obtain ⟨a', cap', e, hP, _⟩ := own_parg h'
    cases e
    exact hP
  have C := hidden (idxS_any a nn cap b1 g X ft tk w hl hn hP h1 ht)
  have HR := hidden h
  have H1 := hidden h1
  have HT := hidden ht
  have HL := hidden hl
  have HN := hidden hne
  clear h h1 ht hl hP hne
  go_enter Tryz.func165, Tryz.ntmps165
  go_wp2_with fail
  refine C.out.mono ?_
  rintro e w1 ⟨hF, q, hq⟩
  have HW := hidden hq
  clear hq
  rcases hF with ⟨rfl, hall⟩ | ⟨i0, rfl, hi0, hno, hyes⟩
  · have HAll := hidden hall
    clear hall
    go_wp2_with fail
    go_ret
    refine ⟨_, rfl, ?_, ?_⟩
    · rw [fil_all HAll.out, HL.out, HW.out]
      exact HR.out
    · rw [HW.out]
      exact Only.refl _ _
  · have hi0' : i0 < nn := by rw [← HL.out]; exact hi0
    obtain ⟨rb, cur, hform⟩ : ∃ rb cur, a = some ⟨rb, 0, none⟩ ∧ base ≤ rb ∧ w.heap[rb]? = some (.cells cur 160 (0, 0)) ∧ nn ≤ cap ∧ cap ≤ maxLen ∧ cur.size = cap ∧ cur.toList.take nn = pts g X := by
      rcases HR.out.2 with ⟨e, h0⟩ | ⟨rb, cap', cur, e, k1, k2, k3, k4, k5, k6⟩
      · omega
      · cases e
        exact ⟨rb, cur, rfl, k1, k2, k3, k4, by simpa using k5, by simpa using k6⟩
    obtain ⟨rfl, hbase, hblk, hcap, hmax, hsz, htk⟩ := hform
    have hst : DLoop w w1 rb cap g ft tk X i0 (i0 + 1) := by
      have hle := HL.out
      have ef : fil ft tk (X.take (i0 + 1)) = X.take i0 := by
        rw [fil_step hi0, if_neg hno]
        refine fil_all fun x hx => ?_
        obtain ⟨k, hk, rfl⟩ := List.mem_iff_getElem.1 hx
        rw [List.length_take] at hk
        have := hyes k (by omega)
        rwa [List.getD_eq_getElem?_getD, List.getElem?_eq_getElem (by omega), Option.getD_some, ← List.getElem_take (h := by rw [List.length_take]; omega)] at this
      have hcell : ∀ k, k < nn → cur[k]? = some (.pointer (some ⟨g (X.getD k 0), 0, none⟩)) := by
        intro k hk
        rw [← pts_get g X k (by omega), ← htk, List.getElem?_take_of_lt hk, Array.getElem?_toList]
      refine ⟨Nat.lt_succ_self _, by omega, by rw [ef, List.length_take]; omega, ⟨cur, ?_, hsz, ?_, fun k _ hk => hcell k (by omega)⟩, ?_⟩
      · rw [HW.out]; exact hblk
      · intro k hk
        rw [ef, hcell k (by omega), List.getD_eq_getElem?_getD, List.getD_eq_getElem?_getD, List.getElem?_take_of_lt hk]
      · rw [HW.out]; exact Only.refl _ _
    have HS := hidden hst
    obtain ⟨hn1, hn2⟩ := HN.out _ rfl
    have HN1 := hidden hn1
    have HN2 := hidden hn2
    have HB := hidden hbase
    have HM := hidden hmax
    clear hst hno hyes hi0 hn1 hn2 hbase hmax hblk hsz htk HW
    have hni : ¬ ((i0 : Int) = -1) := by omega
    go_wp2_with fail
    go_loopg [5, 6] (nn - (i0 + 1)) (fun gh x5 x6 wr => ∃ i j : Nat, j + gh = nn ∧ i < j ∧ x5 = .int .i64 (i : Int) ∧ x6 = .int .i64 (j : Int) ∧ Hid (DLoop w wr rb cap g ft tk X i j))
    case atStart => exact ⟨i0, i0 + 1, by omega, by omega, rfl, by go_num, HS⟩
    case round =>
      obtain ⟨i, j, hjg, hij, rfl, rfl, HD⟩ := hrel
      by_cases hj : j < nn
      · have hjz : (j : Int) < (nn : Int) := by omega
        have hiz : (i : Int) < (nn : Int) := by omega
        have hlen : j < X.length := by rw [HL.out]; exact hj
        have hmem : X.getD j 0 ∈ X := by rw [List.getD_eq_getElem?_getD, List.getElem?_eq_getElem hlen]; exact List.getElem_mem hlen
        obtain ⟨d1, d2, d3⟩ := HD.out.cell (by rw [HL.out]; exact hcap)
        have dj := d1 hlen
        obtain ⟨sb, hsb⟩ : ∃ sb, g (X.getD j 0) = sb := ⟨_, rfl⟩
        obtain ⟨ts, hts⟩ : ∃ ts, ft (X.getD j 0) = ts := ⟨_, rfl⟩
        have ho := HD.out.only
        have C := hidden (subsCl_calls sb b1 ts tk wr (by
          have h0 := HT.out _ hmem
          rw [hts, hsb] at h0
          exact (cell_same (ho.2.2.2.2 sb (World.block_lt_of_cell? w ⟨sb, 0, none⟩ h0) (by rw [← hsb]; simpa using HN2.out _ hmem)) _).trans h0) (by
          have h0 := H1.out
          exact (cell_same (ho.2.2.2.2 b1 (World.block_lt_of_cell? w ⟨b1, 0, none⟩ h0) (by simpa using HN1.out)) _).trans h0))
        have HTS := hidden hts
        have HLen := hidden hlen
        rw [hsb] at dj
        have HSB := hidden hsb
        clear ho hmem hts hsb d1 d2 d3 hlen
        go_wp2_with fail
        refine C.out.mono ?_
        rintro e w2 ⟨rfl, k1, hk1⟩
        have HD2 : Hid (DLoop w w2 rb cap g ft tk X i j) := by
          rw [hk1]
          exact hidden (HD.out.drew k1)
        clear hk1 dj
        by_cases hq : ts = tk
        · have hqb : (ts != tk) = false := by simp [hq]
          rw [hqb]
          have HQ := hidden hq
          obtain ⟨d1, d2, d3⟩ := HD2.out.cell (by rw [HL.out]; exact hcap)
          have f1 := d3 i
          obtain ⟨vi, hvi⟩ := Option.isSome_iff_exists.1 (d2 i (by omega))
          clear hq hqb d1 d2 d3
          go_wp2_with fail
          go_roundg (nn - (j + 1))
          case measure => omega
          case rel =>
            refine ⟨i + 1, j + 1, by omega, by omega, by go_num, by go_num, hidden ?_⟩
            have := HD2.out.take (by rw [HL.out]; exact hcap) HLen.out (HTS.out.trans HQ.out)
            rw [HSB.out] at this
            exact this
        · have hqb : (ts != tk) = true := by simp [hq]
          rw [hqb]
          have HQ := hidden hq
          clear hq hqb
          go_wp2_with fail
          go_roundg (nn - (j + 1))
          case measure => omega
          case rel => exact ⟨i, j + 1, by omega, by omega, rfl, by go_num, hidden (HD2.out.skip HLen.out (by rw [HTS.out]; exact HQ.out))⟩
      · have hjz : ¬ (j : Int) < (nn : Int) := by omega
        obtain rfl : nn = j := by omega
        obtain ⟨w2, hcl, hown, hon⟩ := HD.out.clear HL.out hcap HM.out HB.out
        have hlen := HD.out.len
        rw [List.take_of_length_le (Nat.le_of_eq HL.out)] at hlen
        have HO := hidden hown
        have HO2 := hidden hon
        have HLn := hidden hlen
        have hic : i ≤ cap := by omega
        have hin : i ≤ nn := by omega
        have hne : ¬ cap = i := by omega
        clear hown hon hlen
        go_wp2_with fail
        go_ret
        exact ⟨_, rfl, by rw [HLn.out]; exact HO.out, HO2.out⟩
/-- who subscribes to a track -/
theorem subsOf_any (n b : Nat) (o : Nat → Tg) (P : NP) (N : Nd) (ft : Int → Int) (tk : Int) (w : World) (h : NAt w o n b P N) (hI : SInv N.sb N.ls) (hft : ∀ x ∈ N.sb, x.2.tk = ft x.1) :
    Calls Tryz.prog 125 #[.pointer (some ⟨b, 0, none⟩), .int .i64 tk] w fun e w' => ∃ a cap, e = .returned (.slice a (fil ft tk (ids N.sb)).length cap) ∧ PArg w' a (fun x => (P.sp x).s) (fil ft tk (ids N.sb)) ∧ (∀ ad, a = some ad → w.heap.size ≤ ad.block) ∧ Below w.heap.size w w' := by
  obtain ⟨w0, hw0⟩ : ∃ w0, w.alloc (.cells #[.int .i64 tk] 3) = w0 := ⟨_, rfl⟩
  have hB0 : Below w.heap.size w w0 := by rw [← hw0]; exact (Below.refl _ _).alloc (Nat.le_refl _) _
  have hS0 : w0.heap.size = w.heap.size + 1 := by rw [← hw0]; simp
  have cb : w0.cell? ⟨w.heap.size, 0, none⟩ = some (.int .i64 tk) := by rw [← hw0]; simp
  have C := hidden (allSubs_calls n b o P N w0 (h.below hB0) hI)
  have HT : Hid (∀ x ∈ ids N.sb, w0.cell? ⟨(P.sp x).s, 0, none⟩ = some (.int .i64 (ft x))) := by
    refine hidden ?_
    intro x hx
    obtain ⟨y, hy, rfl⟩ := List.mem_map.1 hx
    have hb := ((h.below hB0).sbs y hy).1.box
    rw [hft y hy] at hb
    simp [World.cell?, hb]
  have hl := ids_len N.sb
  have hlen := hI.len
  obtain ⟨g, hg⟩ : ∃ g : Int → Nat, (fun x => (P.sp x).s) = g := ⟨_, rfl⟩
  have hg' : ∀ x, (P.sp x).s = g x := fun x => by rw [← hg]
  rw [hg] at C
  rw [hg]
  simp only [hg'] at HT
  obtain ⟨X, hX⟩ : ∃ X, ids N.sb = X := ⟨_, rfl⟩
  rw [hX] at C HT hl
  rw [hX]
  rw [← hl] at C hlen
  obtain ⟨nn, hnn⟩ : ∃ nn, X.length = nn := ⟨_, rfl⟩
  rw [hnn] at hlen
  have HB0 := hidden hB0
  have HCB := hidden cb
  have HW := hidden hw0
  have HL := hidden hnn
  have HS0 := hidden hS0
  clear hg hg' hX hl hB0 cb hw0 h hI hft hnn hS0
  go_enter Tryz.func125, Tryz.ntmps125
  go_wp2_with fail
  rw [HW.out]
  refine C.out.mono ?_
  rintro e w1 ⟨v, rfl, hrow, hb1⟩
  rw [HL.out] at hrow
  obtain ⟨a, cap, rfl⟩ : ∃ a cap, v = .slice a nn cap := by
    rcases hrow.2 with ⟨rfl, h0⟩ | ⟨rb, cap, cur, e, _⟩
    · exact ⟨none, 0, by rw [h0]⟩
    · exact ⟨_, _, e⟩
  have hbase : ∀ ad, a = some ad → w0.heap.size ≤ ad.block := by
    intro ad e
    subst e
    exact (hrow.lt _ rfl).1
  have D := hidden (delF_any a nn cap w.heap.size w0.heap.size g X ft tk w1 HL.out (by omega) hrow (ext_cell hb1 HCB.out) (fun x hx => ext_cell hb1 (HT.out x hx)) (by
    intro ad e
    have := hbase ad e
    have hs := HS0.out
    refine ⟨by omega, fun x hx => ?_⟩
    have := World.block_lt_of_cell? w0 ⟨g x, 0, none⟩ (HT.out x hx)
    simp only at this
    omega))
  have HBs := hidden hbase
  have HB1 := hidden hb1
  clear hrow hb1 hbase
  go_wp2_with fail
  refine D.out.mono ?_
  rintro e w2 ⟨v', rfl, hrow2, hon⟩
  obtain ⟨a', cap', rfl, hP, hf⟩ := own_parg hrow2
  have HP := hidden hP
  have HF := hidden hf
  have HO := hidden hon
  clear hrow2 hP hf hon
  go_wp2_with fail
  go_ret
  refine ⟨a', cap', rfl, HP.out, fun ad e => ?_, ?_⟩
  · have := (HF.out ad e).1
    have hs := HS0.out
    omega
  · have h1 : Below w.heap.size w w1 := HB0.out.trans ((HB1.out).mono (by have := HS0.out; omega))
    refine h1.trans ?_
    refine (HO.out).below (by have := h1.size; omega) ?_
    intro k hk
    cases a with
    | none => simp at hk
    | some ad =>
      simp at hk
      subst hk
      have := HBs.out ad rfl
      have hs := HS0.out
      omega
end Go.Proofs.YtpiamlgmadnepaaGreat.ND

