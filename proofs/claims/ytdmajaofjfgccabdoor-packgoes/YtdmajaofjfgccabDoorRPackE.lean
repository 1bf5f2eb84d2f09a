/-
  What package pack and the reference return, whatever they are given, in the same words. They change nothing that was there.
-/
import Derived.Test.YtdmajaofjfgccabDoorRPackD
namespace Go.Proofs.YtdmajaofjfgccabDoor.RPack
open Go.ChangeShapes Go.WideShapes Go.ChangeAt Go.RowKit Go.Proofs.YtdmajaofjfgccabDoor.PM Go.Proofs.YtdmajaofjfgccabDoor.Mem Go.Proofs.YtdmajaofjfgccabDoor.Pack
set_option linter.unusedVariables false

/-- the bytes of a packet; none where it is wrong -/
def encB (s t l v : Int) (st : Bool) (n : Nat) (L : List Nat) : List Nat := if fault s t l v n = 0 then head s.toNat t.toNat l.toNat v.toNat st ++ L else []
theorem encode_all (s t l v : Int) (st : Bool) (a : Option Addr) (n cap : Nat) (L : List Nat) (w : World) (h : Arg w a n L) (hn : a = none → n = 0 ∧ cap = 0) :
    Calls Tryd.prog 15 #[.agg #[.int .i64 s, .int .i64 t, .int .i64 l, .int .i64 v, .bool st, .slice a n cap]] w fun e w' => ∃ a' m c', e = .returned (.tuple #[.slice a' m c', errv (fault s t l v n)]) ∧ Below w.heap.size w w' ∧ Arg w' a' m (encB s t l v st n L) := by
  unfold encB
  by_cases hf : fault s t l v n = 0
  · obtain ⟨s', t', l', v', rfl, rfl, rfl, rfl, hs, ht, hl, hv, hb⟩ := fault_zero hf
    rw [if_pos hf]
    refine (encode_good s' t' l' v' st a n cap L w h hn hs ht hl hv hb).mono ?_
    rintro e w' ⟨g, rfl, _, hR, hB⟩
    refine ⟨_, _, _, by rw [hf]; rfl, hB, ⟨hR.bys ?_, by simp [head_len, h.2.1], by omega⟩⟩
    intro c hc
    rcases List.mem_append.1 hc with hc | hc
    · exact head_lt st hs ht hl hv c hc
    · exact h.1.1 c hc
  · rw [if_neg hf]
    refine (encode_bad s t l v st a n cap w hf).mono ?_
    rintro e w' ⟨rfl, hb⟩
    exact ⟨_, _, _, rfl, hb, Bys.nil _ _, rfl, by omega⟩
theorem rpackbytes_all (s t l v : Int) (st : Bool) (a : Option Addr) (n cap : Nat) (L : List Nat) (w : World) (h : Arg w a n L) (hn : a = none → n = 0 ∧ cap = 0) (hf : fault s t l v n = 0) :
    Calls Tryd.prog 13 #[.agg #[.int .i64 s, .int .i64 t, .int .i64 l, .int .i64 v, .bool st, .slice a n cap]] w fun e w' => ∃ a' m c', e = .returned (.slice a' m c') ∧ Below w.heap.size w w' ∧ Arg w' a' m (encB s t l v st n L) := by
  unfold encB
  rw [if_pos hf]
  obtain ⟨s', t', l', v', rfl, rfl, rfl, rfl, hs, ht, hl, hv, hb⟩ := fault_zero hf
  refine (rpackbytes_calls s' t' l' v' st a n cap L w h hn hs ht hl hv hb).mono ?_
  rintro e w' ⟨v', rfl, ho, hB⟩
  obtain ⟨a', c', rfl, hA, _⟩ := own_slice ho (fun c hc => by
    rcases List.mem_append.1 hc with hc | hc
    · exact head_lt st hs ht hl hv c hc
    · exact h.1.1 c hc) (by omega)
  exact ⟨a', _, c', rfl, hB, hA⟩

/-- what bytes are read as -/
def rd (B : List Nat) : Pk :=
  if rfault B = 0 then ⟨((B.getD 2 0 * 256 + B.getD 3 0 : Nat) : Int), ((((B.getD 4 0 * 256 + B.getD 5 0) * 256 + B.getD 6 0) * 256 + B.getD 7 0 : Nat) : Int), ((B.getD 0 0 % 4 : Nat) : Int), (B.getD 1 0 : Nat), decide (160 ≤ B.getD 0 0), B.drop 8⟩ else ⟨0, 0, 0, 0, false, []⟩
theorem read_all (a : Option Addr) (n cap : Nat) (B : List Nat) (w : World) (h : Arg w a n B) (hc : n ≤ cap) :
    Calls Tryd.prog 17 #[.slice a n cap] w fun e w' => ∃ a' m c', e = .returned (.tuple #[.agg #[.int .i64 (rd B).seq, .int .i64 (rd B).time, .int .i64 (rd B).layer, .int .i64 (rd B).level, .bool (rd B).start, .slice a' m c'], errv (rfault B)]) ∧ Below w.heap.size w w' ∧ Arg w' a' m (rd B).body := by
  refine (read_gen a n cap B w h hc).mono ?_
  rintro e w' ⟨s, t, l, v, st, a', m, c', rfl, hb, _, _, hx⟩
  refine ⟨a', m, c', ?_, hb, ?_⟩
  · rcases hx with ⟨h0, rfl, rfl, rfl, rfl, rfl, _⟩ | ⟨h0, x0, x1, x2, x3, x4, x5, x6, x7, R, rfl, _, _, _, rfl, rfl, rfl, rfl, rfl, _⟩
    · unfold rd; rw [if_neg h0]
    · unfold rd; rw [if_pos h0]; rfl
  · rcases hx with ⟨h0, rfl, rfl, rfl, rfl, rfl, hA⟩ | ⟨h0, x0, x1, x2, x3, x4, x5, x6, x7, R, rfl, _, _, _, rfl, rfl, rfl, rfl, rfl, hA⟩
    · unfold rd; rw [if_neg h0]; exact hA
    · unfold rd; rw [if_pos h0]; exact hA
theorem rread_all (a : Option Addr) (n cap : Nat) (B : List Nat) (w : World) (h : Arg w a n B) (hc : n ≤ cap) :
    Calls Tryd.prog 16 #[.slice a n cap] w fun e w' => ∃ a' m c', e = .returned (.tuple #[.agg #[.int .i64 (rd B).seq, .int .i64 (rd B).time, .int .i64 (rd B).layer, .int .i64 (rd B).level, .bool (rd B).start, .slice a' m c'], .int .i64 (rfault B : Nat)]) ∧ Below w.heap.size w w' ∧ Arg w' a' m (rd B).body := by
  have hlen := h.2.1
  have hbad : ∀ (w' : World) (k : Nat), rfault B = k → k ≠ 0 → Below w.heap.size w w' → ∃ a' m c', Ending.returned (.tuple #[.agg #[.int .i64 0, .int .i64 0, .int .i64 0, .int .i64 0, .bool false, .slice none 0 0], .int .i64 (k : Int)]) = .returned (.tuple #[.agg #[.int .i64 (rd B).seq, .int .i64 (rd B).time, .int .i64 (rd B).layer, .int .i64 (rd B).level, .bool (rd B).start, .slice a' m c'], .int .i64 (rfault B : Nat)]) ∧ Below w.heap.size w w' ∧ Arg w' a' m (rd B).body := by
    intro w' k hk h0 hb
    have hr : rd B = ⟨0, 0, 0, 0, false, []⟩ := by unfold rd; rw [if_neg (by omega)]
    rw [hr, hk]
    exact ⟨none, 0, 0, rfl, hb, Bys.nil _ _, rfl, by omega⟩
  by_cases h8 : n < 8
  · refine (rread_short a n cap w h8).mono ?_
    rintro e w' ⟨rfl, hb⟩
    exact hbad w' 8 (rfault_short (by omega)) (by omega) hb
  · obtain ⟨b, o, rfl⟩ := arg_at h (by omega)
    obtain ⟨x0, x1, x2, x3, x4, x5, x6, x7, R, rfl⟩ := eight (B := B) (by omega)
    have hx : ∀ c ∈ x0 :: x1 :: x2 :: x3 :: x4 :: x5 :: x6 :: x7 :: R, c < 256 := h.1.1
    have c0 : w.cell? ⟨b, o, none⟩ = some (.int .u8 (x0 : Int)) := arg_cell h 0 (by omega)
    have c1 : w.cell? ⟨b, o + 1, none⟩ = some (.int .u8 (x1 : Int)) := arg_cell h 1 (by omega)
    have hR : R.length + 8 = n := by simp at hlen; omega
    have hrf := rfault_eight x0 x1 x2 x3 x4 x5 x6 x7 R
    by_cases hg : (good x0 && decide (x1 ≤ 127)) = true
    · rw [if_pos hg] at hrf
      obtain ⟨g1, g2⟩ := Bool.and_eq_true_iff.1 hg
      by_cases hl : R.length ≤ 1000
      · rw [if_pos hl] at hrf
        refine (rread_good b o n cap x0 x1 x2 x3 x4 x5 x6 x7 R w h hc g1 (of_decide_eq_true g2) hl).mono ?_
        rintro e w' ⟨a', rfl, hA, hb⟩
        refine ⟨a', n - 8, cap - 8, ?_, hb, ?_⟩
        · unfold rd; rw [if_pos hrf, hrf]; rfl
        · unfold rd; rw [if_pos hrf]; exact hA
      · rw [if_neg hl] at hrf
        refine (rread_full b o n cap x0 x1 w (by omega) (hx _ (by simp)) (hx _ (by simp)) c0 c1 g1 (of_decide_eq_true g2) h.2.2).mono ?_
        rintro e w' ⟨rfl, hb⟩
        exact hbad w' 4 hrf (by omega) hb
    · rw [if_neg hg] at hrf
      refine (rread_syntax b o n cap x0 x1 w (by omega) (hx _ (by simp)) (hx _ (by simp)) c0 c1 (by simpa using hg)).mono ?_
      rintro e w' ⟨rfl, hb⟩
      exact hbad w' 2 hrf (by omega) hb

/-- how many parts; none where it is wrong -/
def spN (s t l v : Int) (n : Nat) (size : Int) : Nat := if sfault s t l v n size = 0 then count n size.toNat else 0
/-- the parts -/
def spF (s t l v : Int) (st : Bool) (L : List Nat) (size : Int) : Nat → Pk := pt s.toNat (t.toNat : Int) (l.toNat : Int) (v.toNat : Int) st L size.toNat

theorem pks_none (w : World) (a : Option Addr) (f : Nat → Pk) : Pks w a 0 f := fun i hi => absurd hi (Nat.not_lt_zero i)
theorem sfault_le (s t l v : Int) (n : Nat) (size : Int) : sfault s t l v n size ≤ 4 := by
  unfold sfault
  have := fault_cases s t l v n
  split
  · omega
  · split
    · split <;> omega
    · omega
theorem spN_le (s t l v : Int) (n : Nat) (size : Int) : spN s t l v n size ≤ 1000 := by
  by_cases h0 : sfault s t l v n size = 0
  · have e : spN s t l v n size = count n size.toNat := by unfold spN; rw [if_pos h0]
    rw [e]
    unfold sfault at h0
    by_cases hz : size < 1 ∨ 1000 < size
    · rw [if_pos hz] at h0; omega
    · rw [if_neg hz] at h0
      by_cases hf : fault s t l v n = 0
      · rw [if_pos hf] at h0
        by_cases hc : count n size.toNat ≤ 200
        · omega
        · rw [if_neg hc] at h0; omega
      · rw [if_neg hf] at h0; omega
  · have e : spN s t l v n size = 0 := by unfold spN; rw [if_neg h0]
    omega
theorem split_all (s t l v : Int) (st : Bool) (a : Option Addr) (n cap : Nat) (L : List Nat) (size : Int) (w : World) (h : Arg w a n L) (hn : a = none → n = 0 ∧ cap = 0) (hcap : n ≤ cap) :
    Calls Tryd.prog 20 #[.agg #[.int .i64 s, .int .i64 t, .int .i64 l, .int .i64 v, .bool st, .slice a n cap], .int .i64 size] w fun e w' => ∃ a' c', e = .returned (.tuple #[.slice a' (spN s t l v n size) c', errv (sfault s t l v n size)]) ∧ Below w.heap.size w w' ∧ Pks w' a' (spN s t l v n size) (spF s t l v st L size) := by
  refine (split_gen s t l v st a n cap L size w h hn hcap).mono ?_
  rintro e w' ⟨a', N, rfl, hb, ⟨h0, rfl, rfl⟩ | ⟨h0, s', t', l', v', z, rfl, rfl, rfl, rfl, rfl, _, _, _, _, rfl, _, hp⟩⟩
  · have e : spN s t l v n size = 0 := by unfold spN; rw [if_neg h0]
    rw [e]
    exact ⟨none, 0, rfl, hb, pks_none _ _ _⟩
  · have e : spN (s' : Int) (t' : Int) (l' : Int) (v' : Int) n (z : Int) = count n z := by unfold spN; rw [if_pos h0, Int.toNat_natCast]
    rw [e]
    exact ⟨a', _, rfl, hb, hp⟩
theorem rsplit_all (s t l v : Int) (st : Bool) (a : Option Addr) (n cap : Nat) (L : List Nat) (size : Int) (w : World) (h : Arg w a n L) (hn : a = none → n = 0 ∧ cap = 0) (hcap : n ≤ cap) :
    Calls Tryd.prog 19 #[.agg #[.int .i64 s, .int .i64 t, .int .i64 l, .int .i64 v, .bool st, .slice a n cap], .int .i64 size] w fun e w' => ∃ a' c', e = .returned (.tuple #[.slice a' (spN s t l v n size) c', .int .i64 (sfault s t l v n size : Nat)]) ∧ Below w.heap.size w w' ∧ Pks w' a' (spN s t l v n size) (spF s t l v st L size) := by
  have hbad : ∀ (w' : World) (k : Nat), sfault s t l v n size = k → k ≠ 0 → Below w.heap.size w w' → ∀ a0 c0, ∃ a' c', Ending.returned (.tuple #[.slice a0 0 c0, .int .i64 (k : Int)]) = .returned (.tuple #[.slice a' (spN s t l v n size) c', .int .i64 (sfault s t l v n size : Nat)]) ∧ Below w.heap.size w w' ∧ Pks w' a' (spN s t l v n size) (spF s t l v st L size) := by
    intro w' k hk h0 hb a0 c0
    have e : spN s t l v n size = 0 := by unfold spN; rw [if_neg (by omega)]
    rw [e, hk]
    exact ⟨a0, c0, rfl, hb, pks_none _ _ _⟩
  by_cases hz : size < 1 ∨ 1000 < size
  · refine (rsplit_size s t l v st a n cap size w hz).mono ?_
    rintro e w' ⟨rfl, hb⟩
    exact hbad w' 1 (by unfold sfault; rw [if_pos hz]) (by omega) hb none 0
  · by_cases hf : fault s t l v n = 0
    · obtain ⟨s', t', l', v', rfl, rfl, rfl, rfl, hs, ht, hl, hv, hb⟩ := fault_zero hf
      obtain ⟨z, rfl⟩ : ∃ z : Nat, size = (z : Int) := ⟨size.toNat, by omega⟩
      refine (rsplit_good s' t' l' v' st a n cap L z w h hn hcap (by omega) (by omega) hf).mono ?_
      rintro e w' ⟨a', M, c', code, rfl, hb', h1, h2⟩
      by_cases hc : count n z ≤ 200
      · obtain ⟨rfl, rfl, hp⟩ := h1 hc
        have e0 : sfault (s' : Int) (t' : Int) (l' : Int) (v' : Int) n (z : Int) = 0 := by unfold sfault; rw [if_neg hz, if_pos hf, Int.toNat_natCast, if_pos hc]
        have e : spN (s' : Int) (t' : Int) (l' : Int) (v' : Int) n (z : Int) = count n z := by unfold spN; rw [if_pos e0, Int.toNat_natCast]
        rw [e, e0]
        exact ⟨a', c', rfl, hb', hp⟩
      · obtain ⟨rfl, rfl⟩ := h2 (by omega)
        exact hbad w' 4 (by unfold sfault; rw [if_neg hz, if_pos hf, Int.toNat_natCast, if_neg hc]) (by omega) hb' a' c'
    · refine (rsplit_bad s t l v st a n cap size w (by omega) (by omega) hf).mono ?_
      rintro e w' ⟨rfl, hb⟩
      exact hbad w' _ (by unfold sfault; rw [if_neg hz, if_neg hf]) hf hb none 0
end Go.Proofs.YtdmajaofjfgccabDoor.RPack
