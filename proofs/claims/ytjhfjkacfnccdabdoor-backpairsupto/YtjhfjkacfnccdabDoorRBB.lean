/-
  What the reference's functions Bytes, Number and BackBytes return, and what they make.
-/
import Derived.Test.YtjhfjkacfnccdabDoorRNum
import Derived.Test.YtjhfjkacfnccdabDoorBackM
namespace Go.Proofs.YtjhfjkacfnccdabDoor.Back
open Go.ChangeShapes Go.WideShapes Go.ChangeAt Go.RowKit Go.Sort Go.Lib Go.Proofs.YtjhfjkacfnccdabDoor.BM Go.Proofs.YtjhfjkacfnccdabDoor.Mem
set_option linter.unusedVariables false

/-- the weight of a byte -/
def wt : Nat → Nat
  | 0 => 0
  | g + 1 => 256 ^ g
theorem wt_div (g : Nat) : wt (g + 1) / 256 = wt g := by
  cases g with
  | zero => rfl
  | succ g => show 256 ^ (g + 1) / 256 = 256 ^ g; rw [Nat.pow_succ, Nat.mul_div_cancel _ (by decide)]
set_option maxHeartbeats 2000000 in
set_option maxRecDepth 100000 in
theorem rbytes_calls (v : Value) (base k : Nat) (B : List Nat) (num size : Nat) (w : World) (ho : w.ownsRow base 5 1 v k (cellsOf B)) (hbase : base ≤ w.heap.size) (hk : k ≤ 100000) (hs1 : 1 ≤ size) (hs : size ≤ 4) (hnum : num < 4294967296) :
    Calls Tryd.prog 41 #[v, .int .i64 (num : Int), .int .i64 (size : Int)] w fun e w' => ∃ v', e = .returned v' ∧ w'.ownsRow base 5 1 v' (k + size) (cellsOf (B ++ be size num)) ∧ Below base w w' := by
  obtain ⟨i0, hii, hz0, hz1, hz2⟩ := info_parts info5
  have HD0 : Hid (DSt w w base k B v) := ⟨Below.refl _ _, ho, fun _ _ _ h => h⟩
  clear ho
  obtain ⟨E, hE⟩ : ∃ E, B ++ be size num = E := ⟨_, rfl⟩
  rw [hE]
  have HE := hidden hE
  clear hE
  go_enter Tryd.func41, Tryd.ntmps41
  go_wp2_with fail
  go_loopg [7, 8] size (fun g x y wr => ∃ i : Nat, 1 ≤ i ∧ i ≤ size ∧ size - i ≤ g ∧ x = .int .i64 ((wt i : Nat) : Int) ∧ y = .int .i64 (i : Int) ∧ wr = w)
  case atStart => exact ⟨1, Nat.le_refl _, hs1, by omega, rfl, rfl, rfl⟩
  case round =>
    obtain ⟨i, hi1, his, hig, rfl, rfl, rfl⟩ := hrel
    by_cases hi : i < size
    · have hiz : (i : Int) < (size : Int) := by omega
      have HW : Hid (wt (i + 1) = wt i * 256) := by
        obtain ⟨j, rfl⟩ : ∃ j, i = j + 1 := ⟨i - 1, by omega⟩
        exact Nat.pow_succ ..
      have hwl : wt i ≤ 16777216 := by
        obtain ⟨j, rfl⟩ : ∃ j, i = j + 1 := ⟨i - 1, by omega⟩
        exact Nat.pow_le_pow_right (n := 256) (j := 3) (by decide) (by omega)
      generalize wt i = wi at *
      go_wp2_with fail
      go_roundg (size - (i + 1))
      case measure => omega
      case rel => exact ⟨i + 1, by omega, by omega, by omega, by rw [HW.out]; go_num, by go_num, rfl⟩
    · have hiz : ¬ (i : Int) < (size : Int) := by omega
      obtain rfl : i = size := by omega
      obtain ⟨wo, rfl⟩ : ∃ x, x = wr := ⟨_, rfl⟩
      go_wp2_with fail
      go_loopg [0, 7] i (fun g x y wz => ∃ (v' : Value) (B' : List Nat) (k' : Nat), k' + g = k + i ∧ x = v' ∧ y = .int .i64 ((wt g : Nat) : Int) ∧ g ≤ i ∧ Hid (DSt wo wz base k' B' v' ∧ B' ++ be g num = E))
      case atStart => exact ⟨v, B, k, rfl, rfl, rfl, Nat.le_refl _, HD0.out, HE.out⟩
      case round =>
        obtain ⟨v1, B1, k1, hk1, rfl, rfl, hgs, HS⟩ := hrel
        obtain ⟨g, hg⟩ : ∃ g, g = gk := ⟨_, rfl⟩
        subst hg
        cases g with
        | succ g =>
          have HWD := hidden (wt_div g)
          have hwp : 0 < wt (g + 1) := Nat.pow_pos (by decide)
          have hwl : wt (g + 1) ≤ 16777216 := Nat.pow_le_pow_right (n := 256) (j := 3) (by decide) (by omega)
          have hcc : num / wt (g + 1) % 256 = num / 256 ^ g % 256 := rfl
          obtain ⟨wg, hwg⟩ : ∃ x, wt (g + 1) = x := ⟨_, rfl⟩
          rw [hwg] at HWD hwp hwl hcc
          rw [hwg]
          clear hwg
          have d : decide ((0 : Int) < (wg : Int)) = true := by simp; omega
          have hne : ¬ (wg : Int) = 0 := by omega
          have hq : ((num : Int)).tdiv (wg : Int) = ((num / wg : Nat) : Int) := rfl
          have hql : num / wg < 4294967296 := Nat.lt_of_le_of_lt (Nat.div_le_self _ _) hnum
          obtain ⟨qq, hqq⟩ : ∃ x, num / wg = x := ⟨_, rfl⟩
          rw [hqq] at hq hql hcc
          have hr : ((qq : Int)).tmod 256 = ((qq % 256 : Nat) : Int) := rfl
          have hrl : qq % 256 < 256 := Nat.mod_lt _ (by decide)
          obtain ⟨c, hc⟩ : ∃ x, qq % 256 = x := ⟨_, rfl⟩
          rw [hc] at hr hrl hcc
          have HCC := hidden hcc
          have hu8 : IntKind.u8.wrap (c : Int) = (c : Int) := by rw [IntKind.wrap_u8']; omega
          have hd : ((wg : Int)).tdiv 256 = ((wg / 256 : Nat) : Int) := rfl
          obtain ⟨w2, hw2⟩ : ∃ x, wg / 256 = x := ⟨_, rfl⟩
          rw [hw2] at hd HWD
          have hw2l : w2 ≤ 65536 := by omega
          clear hqq hc hcc hw2
          go_wp2_with (at_builtin; refine wpList_append_own _ rfl _ _ 22 rfl base 5 i0 _ 1 1 Tryd.underlying22 hii hz0 hz1 hz2 rfl (by decide) _ k1 (cellsOf B1) rfl (HS.out.1.own.alloc _) ⟨wr.heap.size, 0, none⟩ 1 1 [.int .u8 (c : Int)] rfl rfl ?cc ?one ?b1 ?b2 ?b3 ?next)
          case cc => exact lit1 _
          case one => simp [Value.oneCell']
          case b1 => unfold maxLen; omega
          case b2 => omega
          case b3 => have := HS.out.1.below.size; simp; omega
          case next =>
          intro v3 w' hown hgrow _
          have HSn : Hid (DSt wo w' base (k1 + 1) (B1 ++ [c]) v3 ∧ B1 ++ [c] ++ be g num = E) := by
            refine ⟨HS.out.1.next hbase hown hgrow, ?_⟩
            rw [← HS.out.2, be, ← HCC.out]
            simp
          clear hown hgrow
          go_wp2_with fail
          go_roundg g
          case measure => omega
          case rel => exact ⟨v3, B1 ++ [c], k1 + 1, by omega, rfl, by rw [← HWD.out], by omega, HSn⟩
        | zero =>
          go_wp2_with fail
          go_ret
          have h1 := HS.out.1.own
          have h2 := HS.out.2
          rw [be, List.append_nil] at h2
          rw [h2, show k1 = k + i by omega] at h1
          exact ⟨_, rfl, h1, HS.out.1.below⟩
set_option maxHeartbeats 2000000 in
set_option maxRecDepth 100000 in
theorem rnumber_calls (a : Option Addr) (n cap : Nat) (B : List Nat) (w : World) (h : Arg w a n B) (hn : n ≤ 4) :
    Calls Tryd.prog 43 #[.slice a n cap] w fun e w' => e = .returned (.int .i64 (val B : Int)) ∧ w' = w := by
  have hl := h.2.1
  have HA := hidden h
  clear h
  go_enter Tryd.func43, Tryd.ntmps43
  go_wp2_with fail
  go_loopg [3, 4] n (fun g x y wr => ∃ (i : Nat), i + g = n ∧ x = .int .i64 (val (B.take i) : Int) ∧ y = .int .i64 (i : Int) ∧ wr = w)
  case atStart => exact ⟨0, by omega, rfl, rfl, rfl⟩
  case round =>
    obtain ⟨i, hig, rfl, rfl, rfl⟩ := hrel
    by_cases hi : i < n
    · have hiz : (i : Int) < (n : Int) := by omega
      obtain ⟨b, o, rfl, hc⟩ := HA.out.1.2 i (by omega)
      have hlt : B.getD i 0 < 256 := HA.out.1.1 _ (by rw [List.getD_eq_getElem?_getD, List.getElem?_eq_getElem (by omega)]; exact List.getElem_mem _)
      have hval : val (B.take i) < 16777216 := by
        have h1 := val_lt (B.take i) 0 (fun c hc => HA.out.1.1 c (List.mem_of_mem_take hc)) (by decide)
        have h2 : (256 : Nat) ^ (B.take i).length ≤ 256 ^ 3 := Nat.pow_le_pow_right (by decide) (by simp; omega)
        exact Nat.lt_of_lt_of_le h1 h2
      have HNX : Hid (val (B.take (i + 1)) = val (B.take i) * 256 + B.getD i 0) := by
        have e : B.take (i + 1) = B.take i ++ [B.getD i 0] := by
          rw [List.getD_eq_getElem?_getD, List.getElem?_eq_getElem (by omega), Option.getD_some, List.take_append_getElem (by omega)]
        show _ = _
        rw [e, val_snoc]
      generalize val (B.take i) = m at *
      generalize B.getD i 0 = c at *
      go_wp2_with fail
      go_roundg (n - (i + 1))
      case measure => omega
      case rel => exact ⟨i + 1, by omega, by rw [HNX.out]; go_num, by go_num, rfl⟩
    · have hiz : ¬ (i : Int) < (n : Int) := by omega
      go_wp2_with fail
      go_ret
      exact ⟨by rw [List.take_of_length_le (by omega)]; rfl, rfl⟩
end Go.Proofs.YtjhfjkacfnccdabDoor.Back
