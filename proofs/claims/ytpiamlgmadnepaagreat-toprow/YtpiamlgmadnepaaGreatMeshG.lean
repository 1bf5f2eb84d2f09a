/-
  What slices.Delete of what flies returns, one taken out, and what it leaves in memory.
-/
import Derived.Test.YtpiamlgmadnepaaGreatMeshF
import Derived.Lib.SliceRun
namespace Go.Proofs.YtpiamlgmadnepaaGreat.MS
open Go.ChangeShapes Go.WideShapes Go.ChangeAt Go.RowKit Go.Maps Go.Proofs.YtpiamlgmadnepaaGreat.Mem Go.Proofs.YtpiamlgmadnepaaGreat.NO Go.Proofs.YtpiamlgmadnepaaGreat.ND
set_option linter.unusedVariables false

def zf : List Value := [.int .i64 0, .int .i64 0, .slice none 0 0]
theorem zeroFT (w : World) : (zeroValue 167).run Tryz.prog w = .ok (.agg #[.int .i64 0, .int .i64 0, .slice none 0 0]) w := by kernel_rfl
theorem run_clear_fl (w : World) (ty : TypeId) (b o c : Nat) (hc : ∀ j, j < 3 → (w.cell? ⟨b, o + j, none⟩).isSome = true) (hf : ∀ j, j < 3 → w.frozen? ⟨b, o + j, none⟩ = false) :
    (Builtin.clear_ #[94] ty #[.slice (some ⟨b, o, none⟩) 1 c]).run Tryz.prog w = .ok (.tuple #[]) (w.setCells b o zf) := by
  have hst := run_storeCells_cells (P := Tryz.prog) b o zf 0 w (by simpa [zf] using hc) (by simpa [zf] using hf) (by intro v hv; simp only [zf, List.mem_cons, List.not_mem_nil, or_false] at hv; rcases hv with rfl | rfl | rfl <;> rfl)
  simp only [Nat.add_zero] at hst
  have hz : (Builtin.zeroCells (Value.agg #[.int .i64 0, .int .i64 0, .slice none 0 0]).cells 1).toList = zf := by kernel_rfl
  simp [Builtin.clear_, run_underlying Tryz.underlying94, hz, hst]
/-- one is taken out -/
theorem erase_cells {X : List (Fl × Value)} {i : Nat} (hi : i < X.length) : X.eraseIdx i = X.take i ++ X.drop (i + 1) := List.eraseIdx_eq_take_drop_succ X i
theorem only_old {bs cs : List Nat} {w w' : World} (h : Only bs w w') (hs : ∀ k ∈ bs, k < w.heap.size → k ∈ cs) : Only cs w w' := ⟨h.1, h.2.1, h.2.2.1, h.2.2.2.1, fun k hk hn => h.2.2.2.2 k hk (fun hb => hn (hs k hb hk))⟩
set_option maxHeartbeats 4000000 in
set_option maxRecDepth 1000000 in
theorem del_calls (g off n cap i : Nat) (X : List (Fl × Value)) (cur : Array Value) (w : World) (hX : X.length = n) (hg : w.heap[g]? = some (.cells cur 167 (0, 0))) (h1 : n ≤ cap) (h2 : cap ≤ maxLen) (h3 : off + cap * 3 ≤ cur.size) (h4 : ∀ j u, (fc X)[j]? = some u → cur[off + j]? = some u) (hs : ∀ x ∈ X, ∃ a m c, x.2 = .slice a m c) (hi : i < n) :
    Calls Tryz.prog 115 #[.slice (some ⟨g, off, none⟩) n cap, .int .i64 (i : Int), .int .i64 ((i : Int) + 1)] w fun e w' => e = .returned (.slice (some ⟨g, off, none⟩) (n - 1) cap) ∧ FRow w' (.slice (some ⟨g, off, none⟩) (n - 1) cap) (X.eraseIdx i) ∧ Only [g] w w' := by
  obtain ⟨i0, hii, hz0, hz1, hz2⟩ := info_parts infoFT
  have hcapm : cap ≤ 9223372036854775807 := by unfold maxLen at h2; omega
  obtain ⟨news, hnews⟩ : ∃ news, news = fc (X.drop (i + 1)) := ⟨_, rfl⟩
  have hlen : news.length = (n - (i + 1)) * 3 := by rw [hnews, fc_len, List.length_drop, hX]
  have hcell : ∀ k, k < cap * 3 → (w.cell? ⟨g, off + k, none⟩).isSome = true := by
    intro k hk
    simp only [World.cell?, hg]
    rw [Array.getElem?_eq_getElem (by omega)]
    rfl
  have hfz : ∀ k, w.frozen? ⟨g, k, none⟩ = false := fun k => by simp [World.frozen?, hg]
  obtain ⟨A, hA, hsrc⟩ : ∃ A : Addr, (if cap = i + 1 then some (⟨g, off, none⟩ : Addr) else some ⟨g, off + (i + 1) * 3, none⟩) = some A ∧ Hid (∀ t u, news[t]? = some u → w.drew.cell? (A.add t) = some u) := by
    by_cases h : cap = i + 1
    · refine ⟨⟨g, off, none⟩, by simp [h], fun t u hu => ?_⟩
      have h0 : news.length = 0 := by rw [hlen]; omega
      rw [List.length_eq_zero_iff.1 h0] at hu
      simp at hu
    · refine ⟨⟨g, off + (i + 1) * 3, none⟩, by simp [h], fun t u hu => ?_⟩
      rw [Addr.add_lit]
      show w.cell? _ = _
      simp only [World.cell?, hg]
      rw [hnews, fc_drop, List.getElem?_drop] at hu
      rw [show off + (i + 1) * 3 + t = off + ((i + 1) * 3 + t) by omega]
      exact h4 _ u hu
  have s1 : Hid (news.length = (n - (i + 1)) * 3) := hlen
  have s2 : Hid (∀ u ∈ news, u.oneCell' = true) := by
    rw [hnews]
    exact hidden (fc_cell _ (fun x hx => hs x (List.mem_of_mem_drop hx)))
  have s3 : Hid (∀ t, t < news.length → (w.drew.cell? ⟨g, off + i * 3 + t, none⟩).isSome = true ∧ w.drew.frozen? ⟨g, off + i * 3 + t, none⟩ = false) := by
    intro t ht
    rw [hlen] at ht
    rw [Nat.add_assoc]
    exact ⟨hcell (i * 3 + t) (by omega), hfz _⟩
  obtain ⟨W1, hW1⟩ : ∃ W1, W1 = w.drew.setCells g (off + i * 3) news := ⟨_, rfl⟩
  obtain ⟨⟨c1, k1, k2, k3, k4, k5⟩, k6⟩ := setCells_block (t := 167) g news (off + i * 3) w.drew cur hg (by rw [hlen]; omega)
  rw [← hW1] at k1 k6
  have hcl : ∀ ty, (Builtin.clear_ #[94] ty #[.slice (some ⟨g, off + (n - 1) * 3, none⟩) 1 (cap - (n - 1))]).run Tryz.prog W1 = .ok (.tuple #[]) (W1.setCells g (off + (n - 1) * 3) zf) := by
    intro ty
    refine run_clear_fl W1 ty g _ _ (fun j hj => ?_) (fun j hj => by simp [World.frozen?, k1])
    simp only [World.cell?, k1]
    rw [Array.getElem?_eq_getElem (by omega)]
    rfl
  obtain ⟨⟨c2, l1, l2, l3, l4, l5⟩, l6⟩ := setCells_block (t := 167) g zf (off + (n - 1) * 3) W1 c1 k1 (by show off + (n - 1) * 3 + 3 ≤ _; omega)
  obtain ⟨W2, hW2⟩ : ∃ W2, W1.setCells g (off + (n - 1) * 3) zf = W2 := ⟨_, rfl⟩
  rw [hW2] at hcl l1 l6
  have HFin : Hid (FRow W2 (.slice (some ⟨g, off, none⟩) (n - 1) cap) (X.eraseIdx i) ∧ Only [g] w W2) := by
    refine hidden ⟨.inr ⟨g, off, cap, c2, ?_, l1, ?_, h2, by omega, ?_⟩, ?_⟩
    · rw [List.length_eraseIdx, if_pos (by omega), hX]
    · rw [List.length_eraseIdx, if_pos (by omega)]; omega
    · intro j u hu
      have hj : j < (n - 1) * 3 := by
        have := (List.getElem?_eq_some_iff.1 hu).1
        rw [fc_len, List.length_eraseIdx, if_pos (by omega), hX] at this
        exact this
      rw [l3 _ (by omega)]
      rw [erase_cells (by omega), fc_app, fc_take, ← hnews] at hu
      have hlt : ((fc X).take (i * 3)).length = i * 3 := by rw [List.length_take, fc_len]; omega
      by_cases hji : j < i * 3
      · rw [List.getElem?_append_left (by omega), List.getElem?_take_of_lt hji] at hu
        rw [k3 _ (by omega)]
        exact h4 j u hu
      · rw [List.getElem?_append_right (by omega), hlt] at hu
        have := k5 (j - i * 3) (by rw [hlen]; omega)
        rw [show off + j = off + i * 3 + (j - i * 3) by omega, this]
        exact hu
    · exact (show Only [g] w W1 from k6).trans l6
  have hW : Hid (W1 = w.drew.setCells g (off + i * 3) news) := hW1
  have hic : i ≤ cap := by omega
  have hjc : i + 1 ≤ cap := by omega
  have hin : i ≤ n := by omega
  have hin1 : i + 1 ≤ n := by omega
  have hnn : i + (n - (i + 1)) = n - 1 := by omega
  have hn1 : n - 1 ≤ n := by omega
  have hn2 : ¬ cap = n - 1 := by omega
  have hn3 : n - (n - 1) = 1 := by omega
  have hn4 : (n : Int) ≤ cap := by omega
  have hn5 : 0 ≤ (i : Int) + 1 ∧ (i : Int) + 1 ≤ (n : Int) := by omega
  clear hW1 hW2 hg h2 h3 h4 hs hX hlen hnews hcell hfz k1 k2 k3 k4 k5 k6 l1 l2 l3 l4 l5 l6
  go_enter Tryz.func115, Tryz.ntmps115
  go_wp2_with fail
  go_region_law (refine step_append_room rfl (.tmp 22) (.tmp 25) 94 rfl 167 i0 3 Tryz.underlying94 hii hz1 g off i cap (by simp [Act.eval, Act.put]) A (n - (i + 1)) (cap - (i + 1)) news (by simp [Act.eval, Act.put]) s1.out hsrc.out s2.out (by omega) s3.out ?_; rw [← hW.out])
  go_wp2_with fail
  go_ret
  exact ⟨rfl, HFin.out⟩
end Go.Proofs.YtpiamlgmadnepaaGreat.MS

