/-
  What the inner function appendNumbers of package back returns, and what it makes.
-/
import Derived.Test.YtpiamlgmadnepaaGreatBackD
namespace Go.Proofs.YtpiamlgmadnepaaGreat.Back
open Go.ChangeShapes Go.WideShapes Go.ChangeAt Go.RowKit Go.Sort Go.Lib Go.Proofs.YtpiamlgmadnepaaGreat.BM Go.Proofs.YtpiamlgmadnepaaGreat.Mem
set_option linter.unusedVariables false

/-- a pair in a block of its own -/
def PBox (w : World) (B : Nat) (b m : Int) : Prop := w.heap[B]? = some (.cells #[.int .i64 b, .int .i64 m] 297 (0, 0))
theorem PBox.new (w : World) (b m : Int) : PBox (w.alloc (.cells #[.int .i64 b, .int .i64 m] 297)) w.heap.size b m := heap_alloc_new w _
theorem PBox.cells {w : World} {B : Nat} {b m : Int} (h : PBox w B b m) : w.cell? ⟨B, 0, none⟩ = some (.int .i64 b) ∧ w.cell? ⟨B, 1, none⟩ = some (.int .i64 m) := by
  unfold PBox at h
  constructor <;> simp [World.cell?, h]
theorem PBox.ne {w : World} {B : Nat} {b m : Int} (h : PBox w B b m) {base n sz e : Nat} {v : Value} {xs : List Value} (ho : w.ownsRow base e sz v n xs) (he : 297 ≠ e := by decide) : some B ≠ v.ownBlock := by
  intro e
  rcases ho.2 with ⟨rfl, _⟩ | ⟨g, cap, cur, rfl, _, hb, _⟩
  · simp [Value.ownBlock] at e
  · simp only [Value.ownBlock, Option.some.injEq] at e
    subst e
    unfold PBox at h
    rw [h] at hb
    simp only [Option.some.injEq, Obj.cells.injEq] at hb
    exact absurd hb.2.1 he
theorem PBox.alloc {w : World} {B : Nat} {b m : Int} (h : PBox w B b m) (O : Obj) : PBox (w.alloc O) B b m := by
  unfold PBox
  rw [Below.heap_alloc _ _ _ (lt_of_block h)]
  exact h
theorem PBox.grown {w w' : World} {B : Nat} {b m : Int} {v : Value} (h : PBox w B b m) (hg : w.grownBy w' v.ownBlock) (hne : some B ≠ v.ownBlock) : PBox w' B b m := by
  unfold PBox
  rw [hg.block B (lt_of_block h) hne]
  exact h
theorem lit1 {w : World} {T : TypeId} (c0 : Value) : ∀ j u, [c0][j]? = some u → (w.alloc (.cells #[c0] T)).cell? ((⟨w.heap.size, 0, none⟩ : Addr).add j) = some u := by
  intro j u hu
  rw [Addr.add_lit, World.cell?_alloc_mark, Nat.zero_add, ← hu]
  exact List.getElem?_toArray

/-- what the first bits of a pair tell -/
def tl (b : Int) (m i : Nat) : List Int := b :: ((List.range i).filter fun i => m.testBit i).map fun (i : Nat) => b + (i : Int) + 1
theorem tl_all (b : Int) (m : Nat) : tl b m 16 = tells (b, m) := rfl
theorem tl_yes {b : Int} {m i : Nat} (h : m.testBit i = true) : tl b m (i + 1) = tl b m i ++ [b + (i : Int) + 1] := by simp [tl, List.range_succ, h]
theorem tl_no {b : Int} {m i : Nat} (h : m.testBit i = false) : tl b m (i + 1) = tl b m i := by simp [tl, List.range_succ, h]
theorem tl_len (b : Int) (m i : Nat) : (tl b m i).length ≤ i + 1 := by
  have := List.length_filter_le (fun i => m.testBit i) (List.range i)
  simp [tl] at this ⊢
  exact this
theorem i64_and_nat (a b : Nat) (ha : a < 9223372036854775808) (hb : b < 9223372036854775808) : bits .and .i64 (a : Int) (b : Int) = ((a &&& b : Nat) : Int) := by
  have hx : a &&& b < 2 ^ 63 := Nat.and_lt_two_pow _ (by omega)
  show IntKind.i64.wrap ((BitVec.ofInt 64 (a : Int) &&& BitVec.ofInt 64 (b : Int)).toNat : Int) = _
  rw [BitVec.toNat_and, ofInt_i64 a ha, ofInt_i64 b hb, IntKind.wrap_i64]
  omega
theorem bit_is (m k : Nat) (hm : m < 65536) : (bits .and .i64 ((m : Int) / 2 ^ k) 1 == 1) = m.testBit k := by
  have e : ((m : Int) / 2 ^ k) = ((m / 2 ^ k : Nat) : Int) := by simp
  have h2 : m / 2 ^ k < 65536 := Nat.lt_of_le_of_lt (Nat.div_le_self _ _) hm
  rw [e, show (1 : Int) = ((1 : Nat) : Int) from rfl, i64_and_nat _ _ (by omega) (by decide), Nat.and_one_is_mod, Nat.testBit_eq_decide_div_mod_eq]
  rw [Bool.eq_iff_iff, beq_iff_eq, decide_eq_true_eq]
  omega

/-- where appendNumbers stands -/
structure ASt (w wr : World) (base k : Nat) (L : List Int) (b : Int) (m i : Nat) (v : Value) : Prop where
  below : Below base w wr
  box : PBox wr w.heap.size b m
  own : wr.ownsRow base 3 1 v (k + (tl b m i).length) (ic (L ++ tl b m i))
theorem ASt.no {w wr : World} {base k : Nat} {L : List Int} {b : Int} {m i : Nat} {v : Value} (h : ASt w wr base k L b m i v) (hb : m.testBit i = false) : ASt w wr base k L b m (i + 1) v :=
  ⟨h.below, h.box, by rw [tl_no hb]; exact h.own⟩
theorem ASt.yes {w wr w' : World} {base k : Nat} {L : List Int} {b : Int} {m i : Nat} {v v' : Value} {O : Obj} (h : ASt w wr base k L b m i v) (hb : m.testBit i = true) (hbase : base ≤ w.heap.size)
    (ho : w'.ownsRow base 3 1 v' (k + (tl b m i).length + 1) (ic (L ++ tl b m i) ++ [.int .i64 (b + (i : Int) + 1)])) (hg : (wr.alloc O).grownBy w' v.ownBlock) : ASt w w' base k L b m (i + 1) v' := by
  have hs := h.below.size
  refine ⟨(h.below.alloc (by omega) _).grown hg (by simp; omega) (fun j hj => (h.own.lt j hj).1), (h.box.alloc _).grown hg (h.box.ne h.own), ?_⟩
  rw [tl_yes hb, List.length_append, ← List.append_assoc]
  have e : ic (L ++ tl b m i ++ [b + (i : Int) + 1]) = ic (L ++ tl b m i) ++ [.int .i64 (b + (i : Int) + 1)] := by simp [ic]
  rw [e]
  exact ho

set_option maxHeartbeats 2000000 in
set_option maxRecDepth 100000 in
theorem app_calls (v : Value) (base k : Nat) (L : List Int) (b : Int) (m : Nat) (w : World) (ho : w.ownsRow base 3 1 v k (ic L)) (hbase : base ≤ w.heap.size) (hk : k ≤ 10000) (hb0 : 0 ≤ b) (hb1 : b ≤ 65535) (hm : m < 65536) :
    Calls Tryz.prog 211 #[v, .agg #[.int .i64 b, .int .i64 (m : Int)]] w fun e w' => ∃ v', e = .returned v' ∧ w'.ownsRow base 3 1 v' (k + (tells (b, m)).length) (ic (L ++ tells (b, m))) ∧ Below base w w' := by
  obtain ⟨i0, hii, hz0, hz1, hz2⟩ := info_parts info3
  have HO := hidden ho
  have HBX := hidden (PBox.new w b m)
  have hc := HBX.out.cells.1
  have HBT : Hid (∀ i, (bits .and .i64 ((m : Int) / 2 ^ i) 1 == 1) = m.testBit i) := fun i => bit_is m i hm
  clear ho
  go_enter Tryz.func211, Tryz.ntmps211
  go_wp2_with (at_builtin; refine wpList_append_own _ rfl _ _ 35 rfl base 3 i0 _ 1 8 Tryz.underlying35 hii hz0 hz1 hz2 rfl (by decide) _ k (ic L) rfl ((HO.out.alloc _).alloc _) ⟨w.heap.size + 1, 0, none⟩ 1 1 [.int .i64 b] rfl rfl ?cc ?one ?b1 ?b2 ?b3 ?next)
  case cc => rw [show w.heap.size + 1 = (w.alloc (.cells #[.int .i64 b, .int .i64 (m : Int)] 297)).heap.size by simp]; exact lit1 (w := w.alloc (.cells #[.int .i64 b, .int .i64 (m : Int)] 297)) _
  case one => simp [Value.oneCell']
  case b1 => unfold maxLen; omega
  case b2 => omega
  case b3 => simp; omega
  case next =>
  intro v1 w1 hown hgrow _
  have HA0 : Hid (ASt w w1 base k L b m 0 v1) := by
    have h0 := ((Below.refl base w).alloc hbase (.cells #[.int .i64 b, .int .i64 (m : Int)] 297))
    refine ⟨(h0.alloc (by simp; omega) _).grown hgrow (by simp; omega) (fun j hj => (HO.out.lt j hj).1), (HBX.out.alloc _).grown hgrow (HBX.out.ne (HO.out.alloc _)), ?_⟩
    have e : ic (L ++ tl b m 0) = ic L ++ [.int .i64 b] := by simp [ic, tl]
    rw [e]
    exact hown
  clear hown hgrow hc
  go_wp2_with fail
  go_loopg [0, 11] 16 (fun g x y wr => ∃ (i : Nat) (v : Value), i + g = 16 ∧ x = v ∧ y = .int .i64 (i : Int) ∧ Hid (ASt w wr base k L b m i v))
  case atStart => exact ⟨0, _, by omega, rfl, rfl, HA0⟩
  case round =>
    obtain ⟨i, v2, hig, rfl, rfl, HS⟩ := hrel
    obtain ⟨hc0, hc1⟩ := HS.out.box.cells
    by_cases hi : i < 16
    · have hiz : (i : Int) < 16 := by omega
      have hbt := HBT.out i
      obtain ⟨tb, htb⟩ : ∃ t, m.testBit i = t := ⟨_, rfl⟩
      rw [htb] at hbt
      have HT := hidden htb
      clear htb
      have htl := tl_len b m i
      cases tb with
      | true =>
        go_wp2_with (at_builtin; refine wpList_append_own _ rfl _ _ 35 rfl base 3 i0 _ 1 8 Tryz.underlying35 hii hz0 hz1 hz2 rfl (by decide) _ (k + (tl b m i).length) (ic (L ++ tl b m i)) rfl (HS.out.own.alloc _) ⟨wr.heap.size, 0, none⟩ 1 1 [.int .i64 (b + (i : Int) + 1)] rfl rfl ?cc ?one ?b1 ?b2 ?b3 ?next)
        case cc => exact lit1 _
        case one => simp [Value.oneCell']
        case b1 => unfold maxLen; omega
        case b2 => omega
        case b3 => have := HS.out.below.size; simp; omega
        case next =>
        intro v3 w' hown hgrow _
        have HSn := hidden (HS.out.yes HT.out hbase hown hgrow)
        clear hown hgrow
        go_wp2_with fail
        go_roundg (16 - (i + 1))
        case measure => omega
        case rel => exact ⟨i + 1, v3, by omega, rfl, by go_num, HSn⟩
      | false =>
        go_wp2_with fail
        go_roundg (16 - (i + 1))
        case measure => omega
        case rel => exact ⟨i + 1, _, by omega, rfl, by go_num, HS.out.no HT.out⟩
    · have hiz : ¬ (i : Int) < 16 := by omega
      have ei : i = 16 := by omega
      subst ei
      go_wp2_with fail
      go_ret
      exact ⟨_, rfl, HS.out.own, HS.out.below⟩
end Go.Proofs.YtpiamlgmadnepaaGreat.Back

