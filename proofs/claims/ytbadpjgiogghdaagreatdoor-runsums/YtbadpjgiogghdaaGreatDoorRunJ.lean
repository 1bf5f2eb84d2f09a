/-
  Bytes told as digits by twos; yes and no.
-/
import Derived.Test.YtbadpjgiogghdaaGreatDoorRunB
namespace Go.Proofs.YtbadpjgiogghdaaGreatDoor.Run
open Go.ChangeShapes Go.WideShapes Go.ChangeAt Go.RowKit Go.Proofs.YtbadpjgiogghdaaGreatDoor.Mem Go.Proofs.YtbadpjgiogghdaaGreatDoor.RN Go.Proofs.YtbadpjgiogghdaaGreatDoor.RC
set_option linter.unusedVariables false

theorem yesOrNo_calls (b : Bool) (w : World) :
    Calls Tryz.prog 89 #[.bool b] w fun e w' => e = .returned (.string (bs (yesNo b))) ∧ w' = w := by
  cases b with
  | true =>
    go_enter Tryz.func89, Tryz.ntmps89
    go_wp2_with fail
    go_ret
    exact ⟨rfl, rfl⟩
  | false =>
    go_enter Tryz.func89, Tryz.ntmps89
    go_wp2_with fail
    go_ret
    exact ⟨rfl, rfl⟩
theorem hex_get (i : Nat) (h : i < 16) (h' : i < (⟨#[48, 49, 50, 51, 52, 53, 54, 55, 56, 57, 97, 98, 99, 100, 101, 102]⟩ : ByteArray).size) : (⟨#[48, 49, 50, 51, 52, 53, 54, 55, 56, 57, 97, 98, 99, 100, 101, 102]⟩ : ByteArray)[i]'h' = hexs.getD i 0 := by
  rw [List.getD_eq_getElem?_getD, List.getElem?_eq_getElem (by simpa [hexs] using h)]
  rfl
theorem and_nib : ∀ c : Fin 256, bits BinOp.and IntKind.u8 (c.val : Int) 15 = ((c.val % 16 : Nat) : Int) := by decide +kernel
theorem hexOf_snoc (L : List Nat) (c : Nat) : hexOf (L ++ [c]) = hexOf L ++ [hexs.getD (c / 16) 0, hexs.getD (c % 16) 0] := by simp [hexOf]
theorem hexOf_len (L : List Nat) : (hexOf L).length = 2 * L.length := by
  induction L with
  | nil => rfl
  | cons c r ih => simp [hexOf] at ih ⊢; omega
theorem cells_snoc (l : List UInt8) (c : UInt8) : Lib.byteCells l ++ [.int .u8 (c.toNat : Int)] = Lib.byteCells (l ++ [c]) := by simp [Lib.byteCells]
/-- under way -/
structure HSt (w wr : World) (l : List UInt8) : Prop where
  bel : Below w.heap.size w wr
  at' : Lib.IsBuilderF 41 5 w.heap.size w.heap.size (Lib.byteCells l) wr
theorem take_snoc (L : List Nat) {i : Nat} (h : i < L.length) : L.take (i + 1) = L.take i ++ [L.getD i 0] := by
  rw [List.getD_eq_getElem?_getD, List.getElem?_eq_getElem h, Option.getD_some, List.take_append_getElem h]
set_option maxRecDepth 100000 in
set_option maxHeartbeats 1000000 in
theorem hexOf_calls (a : Option Addr) (n cap : Nat) (L : List Nat) (w : World) (h : Arg w a n L) (hn : n ≤ 100000) :
    Calls Tryz.prog 92 #[.slice a n cap] w fun e w' => e = .returned (.string (bs (hexOf L))) ∧ Below w.heap.size w w' := by
  have HA := hidden h
  have HL := hidden h.2.1
  have hlt : Hid (∀ i, i < n → L.getD i 0 < 256) := hidden (fun i hi => h.1.1 _ (by rw [List.getD_eq_getElem?_getD, List.getElem?_eq_getElem (by have := h.2.1; omega)]; simp))
  have HN0 : Hid (HSt w (w.alloc (.cells #[.pointer none, .slice none 0 0] 41)) (hexOf (L.take 0))) := by
    refine ⟨(Below.refl _ _).alloc (Nat.le_refl _) _, .inl ⟨Nat.le_refl _, .slice none 0 0, heap_alloc_new _ _, ⟨by simp [hexOf, Lib.byteCells], .inl ⟨rfl, by simp [hexOf, Lib.byteCells]⟩⟩, by simp [Value.ownBlock]⟩⟩
  clear h
  go_enter Tryz.func92, Tryz.ntmps92
  go_wp2_with fail
  go_loopg [8] n (fun g y wr => ∃ i : Nat, i + g = n ∧ y = .int .i64 (i : Int) ∧ Hid (HSt w wr (hexOf (L.take i))))
  case atStart => exact ⟨0, by omega, rfl, HN0⟩
  case round =>
    obtain ⟨i, hig, rfl, HS⟩ := hrel
    by_cases hi : i < n
    · have hiz : (i : Int) < (n : Int) := by omega
      obtain ⟨bb, o, rfl, c0⟩ := (HA.out.below HS.out.bel).1.2 i (by have := HL.out; omega)
      have hc := hlt.out i hi
      have hst := take_snoc L (i := i) (by have := HL.out; omega)
      obtain ⟨c, hcc⟩ : ∃ c, L.getD i 0 = c := ⟨_, rfl⟩
      rw [hcc] at c0 hc hst
      have hst2 := hexOf_snoc (L.take i) c
      rw [← hst] at hst2
      have h1 : c / 16 < 16 := by omega
      have h2 : c % 16 < 16 := by omega
      have hl0 := hexOf_len (L.take i)
      have hl1 : (hexOf (L.take i)).length ≤ 2 * 100000 := by rw [hl0, List.length_take]; omega
      obtain ⟨l, hll⟩ : ∃ l, hexOf (L.take i) = l := ⟨_, rfl⟩
      rw [hll] at hst2 HS hl1
      have W1 : Hid (∀ x : UInt8, x = hexs.getD (c / 16) 0 → _) := hidden (fun x hx => Tryz.Builder_WriteByte_k w.heap.size w.heap.size (Lib.byteCells l) (x.toNat : Int) wr HS.out.at' (by rw [Lib.byteCells_length]; omega) HS.out.bel.size)
      have H1 := hidden (fun h' => hex_get (c / 16) h1 h')
      have H2 := hidden (fun h' => hex_get (c % 16) h2 h')
      have hand : ∀ W, (binOp .and 5 (.int .u8 (c : Int)) (.int .u8 15)).run Tryz.prog W = .ok (.int .u8 ((c % 16 : Nat) : Int)) W := by
        intro W
        have hb := and_nib ⟨c, hc⟩
        simp only at hb
        simp [go_sem, hb]
      clear hst hl0 hll hcc
      go_wp2_with fail
      refine (W1.out _ (H1.out _)).mono ?_
      rintro e w1 ⟨rfl, hb, hbl, -⟩
      have hb1 : Below w.heap.size w w1 := HS.out.bel.trans hbl
      rw [H1.out, cells_snoc] at hb
      have HB1 := hidden hb1
      have W2 : Hid (∀ x : UInt8, x = hexs.getD (c % 16) 0 → _) := hidden (fun x hx => Tryz.Builder_WriteByte_k w.heap.size w.heap.size _ (x.toNat : Int) w1 (.inr hb) (by rw [Lib.byteCells_length]; simp; omega) hb1.size)
      clear hb hbl hb1
      go_wp2_with fail
      refine (W2.out _ (H2.out _)).mono ?_
      rintro e w2 ⟨rfl, hb, hbl, -⟩
      have hb1 : Below w.heap.size w w2 := HB1.out.trans hbl
      rw [H2.out, cells_snoc] at hb
      have HSn : Hid (HSt w w2 (hexOf (L.take (i + 1)))) := by
        rw [hst2]
        exact ⟨hb1, .inr (by simpa using hb)⟩
      clear hb hbl hb1
      go_wp2_with fail
      go_roundg (n - (i + 1))
      case measure => omega
      case rel => exact ⟨i + 1, by omega, by go_num, HSn⟩
    · have hiz : ¬ (i : Int) < (n : Int) := by omega
      obtain rfl : i = n := by omega
      have h9 := HS.out
      rw [List.take_of_length_le (by have := HL.out; omega)] at h9
      have S := hidden (Tryz.Builder_String_any_k w.heap.size w.heap.size (hexOf L) wr h9.at' h9.bel.size)
      have HB := hidden h9.bel
      clear h9
      go_wp2_with fail
      refine S.out.mono ?_
      rintro e w1 ⟨rfl, -, hb, -⟩
      have HB1 := hidden hb
      clear hb
      go_wp2_with fail
      go_ret
      exact ⟨rfl, HB.out.trans HB1.out⟩
end Go.Proofs.YtbadpjgiogghdaaGreatDoor.Run

