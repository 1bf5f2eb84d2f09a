/-
  The library's Reverse and Repeat at numbers, as package tree calls them.
-/
import Derived.Test.YtpiamlgmadnepaaGreatTreeC
import Derived.Deep.RegionLaw
import Derived.Laws.NewBlocks
namespace Go.Proofs.YtpiamlgmadnepaaGreat.Tree
open Go.ChangeShapes Go.WideShapes Go.ChangeAt Go.RowKit Go.Proofs.YtpiamlgmadnepaaGreat.Mem Go.Proofs.YtpiamlgmadnepaaGreat.TM
set_option linter.unusedVariables false

theorem upto16 {n : Nat} (hn : n ≤ 16) : n = 0 ∨ n = 1 ∨ n = 2 ∨ n = 3 ∨ n = 4 ∨ n = 5 ∨ n = 6 ∨ n = 7 ∨ n = 8 ∨ n = 9 ∨ n = 10 ∨ n = 11 ∨ n = 12 ∨ n = 13 ∨ n = 14 ∨ n = 15 ∨ n = 16 := by omega
set_option maxHeartbeats 2000000 in
set_option maxRecDepth 100000 in
theorem mul64_calls (n : Nat) (hn : n ≤ 16) (w : World) : Calls Tryz.prog 168 #[.int .u64 1, .int .u64 (n : Int)] w fun e w' => e = .returned (.tuple #[.int .u64 0, .int .u64 (n : Int)]) ∧ w' = w := by
  have h1 : bits .and .u64 (n : Int) 4294967295 = (n : Int) := by
    rcases upto16 hn with rfl | rfl | rfl | rfl | rfl | rfl | rfl | rfl | rfl | rfl | rfl | rfl | rfl | rfl | rfl | rfl | rfl <;> rfl
  go_enter Tryz.func168, Tryz.ntmps168
  go_wp2_with fail
  go_ret2
  clear h1
  refine ⟨?_, rfl⟩
  rcases upto16 hn with rfl | rfl | rfl | rfl | rfl | rfl | rfl | rfl | rfl | rfl | rfl | rfl | rfl | rfl | rfl | rfl | rfl <;> rfl
set_option maxHeartbeats 2000000 in
set_option maxRecDepth 100000 in
theorem mul_calls (n : Nat) (hn : n ≤ 16) (w : World) : Calls Tryz.prog 127 #[.int .u64 1, .int .u64 (n : Int)] w fun e w' => e = .returned (.tuple #[.int .u64 0, .int .u64 (n : Int)]) ∧ w' = w := by
  have C := hidden (mul64_calls n hn w)
  go_enter Tryz.func127, Tryz.ntmps127
  go_wp2_with fail
  refine C.out.mono ?_
  rintro e w1 ⟨rfl, rfl⟩
  go_wp2_with fail
  go_ret2
  exact ⟨rfl, rfl⟩

/-- a block that holds these numbers and no more -/
def RowI (w : World) (g : Nat) (L : List Int) : Prop := w.heap[g]? = some (.cells (ic L).toArray 3 (0, 0))
theorem RowI.lt {w : World} {g : Nat} {L : List Int} (h : RowI w g L) : g < w.heap.size := lt_of_block h
theorem RowI.own {w : World} {g base : Nat} {L : List Int} (h : RowI w g L) (hb : base ≤ g) (hn : L.length ≤ 1000) : w.ownsRow base 3 1 (.slice (some ⟨g, 0, none⟩) L.length L.length) L.length (ic L) :=
  ⟨by rw [ic_len, Nat.mul_one], .inr ⟨g, L.length, _, rfl, hb, h, Nat.le_refl _, by unfold maxLen; omega, by simp [ic_len], by show (ic L).take _ = _; rw [List.take_of_length_le (by rw [ic_len]; omega)]⟩⟩
theorem copy_cells {P : Program} (w : World) (dT sT ty elem : TypeId) (g o dLen dCap : Nat) (a : Addr) (sLen sCap sz k : Nat) (cur : Array Value) (t : TypeId) (cs : List Value)
    (hu : P.underlying dT = some (.slice elem)) (hs : (P.info? elem).map (·.size) = some sz)
    (hg : w.heap[g]? = some (.cells cur t (0, 0))) (hk : Nat.min sLen dLen = k) (hn : cs.length = k * sz)
    (hsrc : ∀ j v, cs[j]? = some v → w.cell? (a.add j) = some v) (hfit : o + cs.length ≤ cur.size) (h1 : ∀ v ∈ cs, v.oneCell' = true) :
    (Builtin.copy_ #[dT, sT] ty #[.slice (some ⟨g, o, none⟩) dLen dCap, .slice (some a) sLen sCap]).run P w =
      .ok (goInt k) (w.setRow g (cur.toList.take o ++ cs ++ cur.toList.drop (o + cs.length)).toArray) := by
  have hl := run_loadCells_list (P := P) w a cs hsrc
  have hst := run_storeCells_at P g o t cs 0 cur w hg (by simpa using hfit) h1
  cases hq : P.info? elem with
  | none => simp [hq] at hs
  | some i =>
    have hi : i.size = sz := by simpa [hq] using hs
    simp [Builtin.copy_, run_underlying hu, Builtin.lenOf, Builtin.firstCells, sizeOf, typeInfo, hq, hi, hk, ← hn, hl, hst]
/-- so many that are filled, and the rest -/
def rz (c n : Nat) : List Int := List.replicate c (-1) ++ List.replicate (n - c) 0
theorem rz_len {c n : Nat} (h : c ≤ n) : (rz c n).length = n := by simp [rz]; omega
theorem rz_all (n : Nat) : rz n n = List.replicate n (-1) := by simp [rz]
theorem ic_rep (n : Nat) (x : Int) : ic (List.replicate n x) = List.replicate n (.int .i64 x) := by simp [ic]
theorem rz_more {c k n : Nat} (h : c + k ≤ n) : (ic (rz c n)).take c ++ List.replicate k (.int .i64 (-1)) ++ (ic (rz c n)).drop (c + k) = ic (rz (c + k) n) := by
  unfold rz
  rw [ic_app, ic_app, ic_rep, ic_rep, ic_rep, ic_rep, List.take_left' (by simp), ← List.drop_drop, List.drop_left' (by simp), List.drop_replicate, List.replicate_append_replicate]
  congr 2
  omega
theorem size3 : (Tryz.prog.info? 3).map (·.size) = some 1 := by kernel_rfl
theorem made_rz (n : Nat) : madeCells #[Value.int .i64 0] n = (ic (rz 0 n)).toArray := by
  apply Array.toList_inj.1
  rw [toList_madeCells_one]
  simp [rz, ic_rep]
theorem setRow_rowI {w : World} {g : Nat} {L K : List Int} (h : RowI w g L) : RowI (w.setRow g (ic K).toArray) g K := setRow_heap _ g _ _ 3 _ h
theorem below_setRow {w wr : World} {g : Nat} (h : Below w.heap.size w wr) (hg : w.heap.size ≤ g) (c : Array Value) : Below w.heap.size w (wr.setRow g c) :=
  ⟨h.os, h.tape, h.output, by have := h.size; simpa using this, fun k hk => (setRow_other _ g k _ (by omega)).trans (h.block k hk)⟩
set_option maxHeartbeats 4000000 in
set_option maxRecDepth 100000 in
theorem rep_calls (g0 n : Nat) (w : World) (h0 : w.heap[g0]? = some (.cells #[.int .i64 (-1)] 3 (0, 0))) (h1 : 1 ≤ n) (hn : n ≤ 16) :
    Calls Tryz.prog 97 #[.slice (some ⟨g0, 0, none⟩) 1 1, .int .i64 (n : Int)] w fun e w' => ∃ g, e = .returned (.slice (some ⟨g, 0, none⟩) n n) ∧ w'.ownsRow w.heap.size 3 1 (.slice (some ⟨g, 0, none⟩) n n) n (ic (List.replicate n (-1))) ∧ Below w.heap.size w w' := by
  have C := hidden (mul_calls n hn w)
  obtain ⟨w1, hw1⟩ : ∃ w1, w.alloc (.cells (madeCells #[.int .i64 0] n) 3) = w1 := ⟨_, rfl⟩
  obtain ⟨i0, hii, hz0, hz1, hz2⟩ := info_parts info3
  have hmk : (Instr.makeSlice 35 (.int .i64 (n : Int)) (.int .i64 (n : Int))).run Tryz.prog w = .ok (.slice (some ⟨w.heap.size, 0, none⟩) n n) w1 := by
    have := run_make (P := Tryz.prog) w 35 3 i0 _ Tryz.underlying35 hii hz0 .i64 .i64 (n : Int) (n : Int) (by omega) (by omega) (by rw [hz2]; omega) (by omega)
    rw [Int.toNat_natCast, hz1, Nat.mul_one] at this
    rw [← hw1]
    exact this
  clear hii hz0 hz1 hz2
  have hB1 : Below w.heap.size w w1 := by rw [← hw1]; exact below_alloc (Below.refl _ _) _
  have hR1 : RowI w1 w.heap.size (rz 0 n) := by rw [← hw1, made_rz]; exact heap_alloc_new w _
  have hs0 : w1.heap[g0]? = some (.cells #[.int .i64 (-1)] 3 (0, 0)) := (hB1.block g0 (lt_of_block h0)).trans h0
  have hcp1 : ∀ ty, (Builtin.copy_ #[35, 35] ty #[.slice (some ⟨w.heap.size, 0, none⟩) n n, .slice (some ⟨g0, 0, none⟩) 1 1]).run Tryz.prog w1 = .ok (goInt ((1 : Nat) : Int)) (w1.setRow w.heap.size (ic (rz 1 n)).toArray) := fun ty => by
    have := copy_cells (P := Tryz.prog) w1 35 35 ty 3 w.heap.size 0 n n ⟨g0, 0, none⟩ 1 1 1 1 _ 3 [.int .i64 (-1)] Tryz.underlying35 size3 hR1 (by simp only [Nat.min_def]; split <;> omega) rfl (World.news_of_block hs0) (by simp [ic_len, rz_len]; omega) (by simp [Value.oneCell'])
    have e := rz_more (c := 0) (k := 1) (n := n) (by omega)
    rw [this]
    congr 2
    rw [← e]
    rfl
  obtain ⟨w2, hw2⟩ : ∃ w2, w1.setRow w.heap.size (ic (rz 1 n)).toArray = w2 := ⟨_, rfl⟩
  have HB2 : Hid (Below w.heap.size w w2) := by rw [← hw2]; exact hidden (below_setRow hB1 (Nat.le_refl _) _)
  have HR2 : Hid (RowI w2 w.heap.size (rz 1 n)) := by rw [← hw2]; exact hidden (setRow_rowI hR1)
  rw [hw2] at hcp1
  clear hw1 hw2 hR1 hs0 hB1 h0
  have dn : decide ((n : Int) < 0) = false := by simp
  go_enter Tryz.func97, Tryz.ntmps97
  go_wp2_with fail
  refine C.out.mono ?_
  rintro e w' ⟨rfl, rfl⟩
  go_wp2_with fail
  go_loopg [8] n (fun g x wr => ∃ c : Nat, n - c ≤ g ∧ c ≤ n ∧ 1 ≤ c ∧ x = .int .i64 (c : Int) ∧ Hid (RowI wr w'.heap.size (rz c n)) ∧ Hid (Below w'.heap.size w' wr))
  case atStart => exact ⟨1, by omega, by omega, by omega, rfl, HR2, HB2⟩
  case round =>
    obtain ⟨c, hcg, hcn, hc1, rfl, HR, HB⟩ := hrel
    by_cases hc : c < n
    · have hcz : (c : Int) < (n : Int) := by omega
      have hne : ¬ n = c := by omega
      obtain ⟨k, hk, hk1, hkn⟩ : ∃ k, Nat.min c (n - c) = k ∧ 1 ≤ k ∧ c + k ≤ n := ⟨_, rfl, by simp only [Nat.min_def]; split <;> omega, by simp only [Nat.min_def]; split <;> omega⟩
      have hkc : k ≤ c := by rw [← hk]; exact Nat.min_le_left _ _
      have hcp : ∀ ty dc sc, (Builtin.copy_ #[35, 35] ty #[.slice (some ⟨w'.heap.size, c, none⟩) (n - c) dc, .slice (some ⟨w'.heap.size, 0, none⟩) c sc]).run Tryz.prog wr.drew = .ok (goInt (k : Int)) (wr.drew.setRow w'.heap.size (ic (rz (c + k) n)).toArray) := fun ty dc sc => by
        have := copy_cells (P := Tryz.prog) wr.drew 35 35 ty 3 w'.heap.size c (n - c) dc ⟨w'.heap.size, 0, none⟩ c sc 1 k _ 3 (List.replicate k (.int .i64 (-1))) Tryz.underlying35 size3 HR.out hk (by simp) (fun j v hj => ?_) (by simp [ic_len, rz_len (Nat.le_of_lt hc)]; omega) (by simp [Value.oneCell'])
        · have e := rz_more (c := c) (k := k) (n := n) hkn
          rw [this]
          congr 2
          rw [← e, List.length_replicate]
        · have hjl : j < k := by
            rcases Nat.lt_or_ge j k with h | h
            · exact h
            · rw [List.getElem?_eq_none (by simpa using h)] at hj; simp at hj
          rw [add_plain, Nat.zero_add]
          show wr.cell? _ = _
          have hcell := cell_of_row wr w'.heap.size j _ 3 (0, 0) HR.out
          rw [hcell, ← hj]
          simp only [List.getElem?_toArray]
          unfold rz
          rw [ic_app, ic_rep, List.getElem?_append_left (by simp; omega), List.getElem?_replicate, List.getElem?_replicate, if_pos (by omega), if_pos hjl]
      have HR2 : Hid (RowI (wr.drew.setRow w'.heap.size (ic (rz (c + k) n)).toArray) w'.heap.size (rz (c + k) n)) := setRow_rowI (w := wr.drew) HR.out
      have HB2 : Hid (Below w'.heap.size w' (wr.drew.setRow w'.heap.size (ic (rz (c + k) n)).toArray)) := below_setRow (HB.out.drew) (Nat.le_refl _) _
      obtain ⟨W, hW⟩ : ∃ W, wr.drew.setRow w'.heap.size (ic (rz (c + k) n)).toArray = W := ⟨_, rfl⟩
      rw [hW] at hcp HR2 HB2
      clear hW hk
      go_wp2_with fail
      go_region
      go_wp2_with fail
      go_roundg (n - (c + k))
      case measure => omega
      case rel => exact ⟨c + k, by omega, by omega, by omega, by go_num, HR2, HB2⟩
    · have hcz : ¬ (c : Int) < (n : Int) := by omega
      obtain rfl : c = n := by omega
      have ho := HR.out.own (base := w'.heap.size) (Nat.le_refl _) (by rw [rz_len (Nat.le_refl _)]; omega)
      rw [rz_len (Nat.le_refl _), rz_all] at ho
      have HO := hidden ho
      clear ho
      go_wp2_with fail
      go_ret
      exact ⟨w'.heap.size, rfl, HO.out, HB.out⟩

/-- turned round up to so many from either end -/
structure RSt (w wr : World) (base g n cap : Nat) (L K : List Int) (i : Nat) : Prop where
  only : Only [g] w wr
  own : wr.ownsRow base 3 1 (.slice (some ⟨g, 0, none⟩) n cap) n (ic K)
  at_ : ∀ x, x < n → dg K x = if x < i ∨ n ≤ x + i then dg L (n - 1 - x) else dg L x
theorem own_dg {w : World} {base g n cap : Nat} {L : List Int} (h : w.ownsRow base 3 1 (.slice (some ⟨g, 0, none⟩) n cap) n (ic L)) {j : Nat} (hj : j < n) : w.cell? ⟨g, j, none⟩ = some (.int .i64 (dg L j)) := by
  have hl : L.length = n := by have := h.1; rw [ic_len] at this; omega
  rw [h.cellAt j (by omega), ic_get L j (by omega)]
theorem own_set {w : World} {base g n cap : Nat} {L : List Int} (h : w.ownsRow base 3 1 (.slice (some ⟨g, 0, none⟩) n cap) n (ic L)) (j : Nat) (x : Int) : (w.setCell ⟨g, j, none⟩ (.int .i64 x)).ownsRow base 3 1 (.slice (some ⟨g, 0, none⟩) n cap) n (ic (L.set j x)) := by
  have := (h.stored j (.int .i64 x)).1
  rwa [show (ic L).set j (.int .i64 x) = ic (L.set j x) by simp [ic]] at this
theorem own_ln {w : World} {base n : Nat} {v : Value} {L : List Int} (h : w.ownsRow base 3 1 v n (ic L)) : L.length = n := by have := h.1; rw [ic_len] at this; omega
theorem RSt.swap {w wr : World} {base g n cap i : Nat} {L K : List Int} (h : RSt w wr base g n cap L K i) (hi : i < n - 1 - i) :
    RSt w ((wr.setCell ⟨g, i, none⟩ (.int .i64 (dg K (n - 1 - i)))).setCell ⟨g, n - 1 - i, none⟩ (.int .i64 (dg K i))) base g n cap L ((K.set i (dg K (n - 1 - i))).set (n - 1 - i) (dg K i)) (i + 1) := by
  have hl := own_ln h.own
  refine ⟨(h.only.setCell (by simp) _).setCell (by simp) _, own_set (own_set h.own _ _) _ _, fun x hx => ?_⟩
  rw [dg_set (by rw [List.length_set]; omega), dg_set (by omega), h.at_ i (by omega), h.at_ (n - 1 - i) (by omega), h.at_ x hx]
  by_cases e1 : x = n - 1 - i
  · rw [if_pos e1, if_neg (by omega), if_pos (by omega), show n - 1 - x = i by omega]
  · rw [if_neg e1]
    by_cases e2 : x = i
    · rw [if_pos e2, if_neg (by omega), if_pos (by omega), e2]
    · rw [if_neg e2]
      by_cases e3 : x < i ∨ n ≤ x + i
      · rw [if_pos e3, if_pos (by omega)]
      · rw [if_neg e3, if_neg (by omega)]
theorem dg_reverse {L : List Int} {x : Nat} (h : x < L.length) : dg L.reverse x = dg L (L.length - 1 - x) := by
  simp [dg, List.getD_eq_getElem?_getD, List.getElem?_reverse h]
theorem RSt.done {w wr : World} {base g n cap i : Nat} {L K : List Int} (h : RSt w wr base g n cap L K i) (hL : L.length = n) (hi : ¬ i < n - 1 - i) : K = L.reverse := by
  have hl := own_ln h.own
  refine dg_ext (by simp; omega) fun x hx => ?_
  rw [dg_reverse (by omega), hL, h.at_ x (by omega)]
  split
  · rfl
  · congr 1; omega
end Go.Proofs.YtpiamlgmadnepaaGreat.Tree

