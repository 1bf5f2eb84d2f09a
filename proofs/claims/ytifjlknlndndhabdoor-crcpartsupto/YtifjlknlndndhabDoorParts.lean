/-
  The walk of the Go function CrcParts: it returns true at any two rows of bytes, of 2^40 at most together, any place and any two changes. It changes nothing that was there. Its condition: package errors' variable errorType is as its text lays it.
-/
import Derived.Test.YtifjlknlndndhabDoorCrcB
import Derived.Test.YtifjlknlndndhabDoorCrcC
import Derived.Test.YtifjlknlndndhabDoorTold
import Derived.Lib.SlBytesConst
namespace Go.Proofs.YtifjlknlndndhabDoor.Parts
open Go.ChangeShapes Go.WideShapes Go.ChangeAt Go.RowKit Go.Proofs.YtifjlknlndndhabDoor.CM Go.Proofs.YtifjlknlndndhabDoor.Mem Go.Proofs.YtifjlknlndndhabDoor.Crc
set_option linter.unusedVariables false

def nine : List Nat := [49, 50, 51, 52, 53, 54, 55, 56, 57]
theorem go_nine : go 0 nine = 3421780262 := by decide +kernel
theorem nine_arg (w : World) : Arg (w.alloc (.cells #[.int .u8 49, .int .u8 50, .int .u8 51, .int .u8 52, .int .u8 53, .int .u8 54, .int .u8 55, .int .u8 56, .int .u8 57] 5 (9, 10))) (some ⟨w.heap.size, 0, none⟩) 9 nine := by
  refine ⟨⟨by decide, fun j hj => ⟨w.heap.size, 0, rfl, ?_⟩⟩, rfl, by decide⟩
  rw [World.cell?_alloc_mark]
  have h : ∀ j : Fin 9, (#[Value.int .u8 49, .int .u8 50, .int .u8 51, .int .u8 52, .int .u8 53, .int .u8 54, .int .u8 55, .int .u8 56, .int .u8 57] : Array Value)[0 + j.val]? = some (.int .u8 (nine.getD j.val 0 : Nat)) := by
    intro j
    match j with
    | 0 => rfl
    | 1 => rfl
    | 2 => rfl
    | 3 => rfl
    | 4 => rfl
    | 5 => rfl
    | 6 => rfl
    | 7 => rfl
    | 8 => rfl
  exact h ⟨j, hj⟩

theorem sealed_arg {w : World} {g N : Nat} {AB : List Nat} {s : Nat} (h : Row w g (AB ++ be4 s)) (hAB : ∀ c ∈ AB, c < 256) (hl : AB.length = N) (hN : N + 4 ≤ 9223372036854775807) : Arg w (some ⟨g, 0, none⟩) (N + 4) (AB ++ be4 s) := by
  refine ⟨h.bys ?_, by simp [be4, hl], hN⟩
  intro c hc
  rcases List.mem_append.1 hc with h | h
  · exact hAB c h
  · exact be4_lt s c h

theorem changed (AB : List Nat) (i m n : Nat) (hAB : ∀ c ∈ AB, c < 256) (hi : i + 1 < AB.length + 4) (hm : m < 256) (hn : n < 256) (hne : ¬ (m = 0 ∧ n = 0)) :
    ∃ B' t0 t1 t2 t3, ((AB ++ be4 (go 0 AB)).set i ((AB ++ be4 (go 0 AB)).getD i 0 ^^^ m)).set (i + 1) ((AB ++ be4 (go 0 AB)).getD (i + 1) 0 ^^^ n) = B' ++ [t0, t1, t2, t3] ∧ B'.length = AB.length ∧
      num 0 [t0, t1, t2, t3] ≠ go 0 B' ∧ ∀ c ∈ B' ++ [t0, t1, t2, t3], c < 256 := by
  have hS : ∀ c ∈ AB ++ be4 (go 0 AB), c < 256 := by
    intro c hc
    rcases List.mem_append.1 hc with h | h
    · exact hAB c h
    · exact be4_lt _ c h
  have hl : (AB ++ be4 (go 0 AB)).length = AB.length + 4 := by simp [be4]
  have hsee := fun P Q x y h1 h2 h3 => sees P Q AB x y m n h1 h2 hm hn hAB h3 hne
  generalize AB ++ be4 (go 0 AB) = S at *
  obtain ⟨P, x, y, Q, rfl, hP⟩ : ∃ P x y Q, S = P ++ x :: y :: Q ∧ P.length = i := by
    refine ⟨S.take i, S[i]'(by omega), S[i + 1]'(by omega), S.drop (i + 2), ?_, by simp; omega⟩
    rw [List.getElem_cons_drop, List.getElem_cons_drop, List.take_append_drop]
  have hx : x < 256 := hS x (by simp)
  have hy : y < 256 := hS y (by simp)
  have e1 : (P ++ x :: y :: Q).getD i 0 = x := by rw [List.getD_eq_getElem?_getD, List.getElem?_append_right (by omega), hP]; simp
  have e2 : (P ++ x :: y :: Q).getD (i + 1) 0 = y := by rw [List.getD_eq_getElem?_getD, List.getElem?_append_right (by omega), hP, show i + 1 - i = 1 by omega]; simp
  have e3 : ((P ++ x :: y :: Q).set i (x ^^^ m)).set (i + 1) (y ^^^ n) = P ++ (x ^^^ m) :: (y ^^^ n) :: Q := by
    rw [List.set_append_right _ _ (by omega), hP, Nat.sub_self, List.set_append_right _ _ (by omega), hP, show i + 1 - i = 1 by omega]
    rfl
  rw [e1, e2, e3]
  have hs := hsee P Q x y hx hy rfl
  have hb : ∀ c ∈ P ++ (x ^^^ m) :: (y ^^^ n) :: Q, c < 256 := by
    intro c hc
    simp only [List.mem_append, List.mem_cons] at hc hS
    rcases hc with h | rfl | rfl | h
    · exact hS c (.inl h)
    · exact xor_lt8 hx hm
    · exact xor_lt8 hy hn
    · exact hS c (.inr (.inr (.inr h)))
  have hl' : (P ++ (x ^^^ m) :: (y ^^^ n) :: Q).length = AB.length + 4 := by simp at hl ⊢; omega
  generalize P ++ (x ^^^ m) :: (y ^^^ n) :: Q = S' at *
  obtain ⟨t0, t1, t2, t3, ht⟩ : ∃ t0 t1 t2 t3, S'.drop AB.length = [t0, t1, t2, t3] := by
    have h4 : (S'.drop AB.length).length = 4 := by simp; omega
    match S'.drop AB.length, h4 with
    | [a, b, c, d], _ => exact ⟨a, b, c, d, rfl⟩
  refine ⟨S'.take AB.length, t0, t1, t2, t3, ?_, by simp; omega, ?_, ?_⟩
  · rw [← ht, List.take_append_drop]
  · rw [← ht]; exact hs
  · rw [← ht, List.take_append_drop]; exact hb
theorem lt_of_cell {w : World} {v : Value} (h : w.cell? ⟨0, 0, none⟩ = some v) : 0 < w.heap.size := by
  rcases Nat.eq_zero_or_pos w.heap.size with h0 | h'
  · simp [World.cell?, h0] at h
  · exact h'
theorem below_of_drewN {w w' : World} {k : Nat} (h : Below (w.drewN k).heap.size (w.drewN k) w') : Below w.heap.size w w' := (below_drewN (Below.refl _ _) k).trans h

set_option maxRecDepth 100000 in
set_option maxHeartbeats 2000000 in
theorem walk_ok (a0 a1 : Option Addr) (len0 cap0 len1 cap1 : Nat) (A B : List Nat) (at_ : Int) (m n : Nat) (w : World) (hg : w.cell? ⟨0, 0, none⟩ = some (.iface 59 (.agg #[.pointer (some ⟨1, 25, none⟩)])))
    (hA : Arg w a0 len0 A) (hB : Arg w a1 len1 B) (hn0 : a0 = none → len0 = 0 ∧ cap0 = 0) (hn1 : a1 = none → len1 = 0 ∧ cap1 = 0)
    (hr0 : len0 ≤ 1099511627776) (hr1 : len1 ≤ 1099511627776) (hj : len1 ≤ 1000000) (hat0 : -9223372036854775808 ≤ at_) (hat1 : at_ ≤ 9223372036854775807) (hm : m < 256) (hn : n < 256) :
    Calls Tryd.prog 3 #[.slice a0 len0 cap0, .slice a1 len1 cap1, .int .i64 at_, .int .u8 (m : Int), .int .u8 (n : Int)] w fun e w' => e = .returned (.bool true) ∧ Below w.heap.size w w' := by
  have HG := hidden hg
  have HA := hidden hA
  have HB := hidden hB
  have HN0 := hidden hn0
  have HN1 := hidden hn1
  obtain ⟨i0, hii, hz0, hz1, hz2⟩ := info_parts info5
  have kc := fun (w : World) (C : Array Value) (n c : Nat) => Lib.run_convert_bytes_const (P := Tryd.prog) w 22 5 C n c Tryd.underlying22 Tryd.underlying5
  have e9 := go_nine
  have HX := hidden (fun w h => more_ok (go 0 A) a1 len1 cap1 B w (go_lt (by decide) hA.1.1) h)
  have HY := hidden (fun w => join_ok (go 0 A) (go 0 B) len1 w (go_lt (by decide) hA.1.1) (go_lt (by decide) hB.1.1) hj)
  rw [← go_app] at HX
  rw [← hB.2.1, ← go_join, hB.2.1] at HY
  have hALL : ∀ c ∈ A ++ B, c < 256 := by
    intro c hc
    rcases List.mem_append.1 hc with h | h
    · exact hA.1.1 c h
    · exact hB.1.1 c h
  clear hg hA hB hn0 hn1
  go_enter Tryd.func3, Tryd.ntmps3
  go_wp2_with fail
  refine (sum_arg (nine_arg w)).mono ?_
  rintro e w1 ⟨rfl, rfl⟩
  rw [e9]
  go_wp2_with (at_builtin; refine append_any rfl _ _ 22 rfl w.heap.size 5 i0 (.int .u8 0) 1 1 Tryd.underlying22 hii hz0 hz1 hz2 rfl (by decide) _ 0 [] rfl (World.ownsRow_nil _ _ _ _) a0 len0 cap0 (cellsOf A) rfl ?al HN0.out ?ac (cells_one A) ?b1 ?b2 ?b3 ?next)
  case al => rw [cellsOf_len, HA.out.2.1]; omega
  case ac => exact bys_cells (HA.out.1.below ((Below.refl _ _).alloc (Nat.le_refl _) _))
  case b1 => unfold maxLen; omega
  case b2 => omega
  case b3 => simp
  case next =>
    intro v1 w1 hown hgrow
    have HB1 : Hid (Below w.heap.size w w1) := ((Below.refl _ _).alloc (Nat.le_refl _) _).grown hgrow (by simp) (by simp [Value.ownBlock])
    have HO1 := hidden hown
    clear hown hgrow
    go_wp2_with (at_builtin; refine append_any rfl _ _ 22 rfl w.heap.size 5 i0 (.int .u8 0) 1 1 Tryd.underlying22 hii hz0 hz1 hz2 rfl (by decide) _ len0 (cellsOf A) rfl HO1.out a1 len1 cap1 (cellsOf B) rfl ?dl HN1.out ?dc (cells_one B) ?d1 ?d2 ?d3 ?dnext)
    case dl => rw [cellsOf_len, HB.out.2.1]; omega
    case dc => exact bys_cells (HB.out.1.below HB1.out)
    case d1 => unfold maxLen; omega
    case d2 => omega
    case d3 => exact HB1.out.size
    case dnext =>
      intro v2 w2 hown hgrow
      have HB2 : Hid (Below w.heap.size w w2) := HB1.out.grown hgrow HB1.out.size (fun k hk => (HO1.out.lt k hk).1)
      rw [← cellsOf_app] at hown
      obtain ⟨al, cl, rfl, hl, hl0, hlc, hlb⟩ := own_slice hown hALL (by omega)
      have HL := hidden hl
      have HL0 := hidden hl0
      have HLB := hidden hlb
      clear hown hgrow hl hl0 hlb
      generalize hAB : A ++ B = AB at *
      have HAB := hidden hAB
      clear hAB
      generalize hN : len0 + len1 = N at *
      have hN' : N ≤ 2199023255552 := by omega
      have HNN := hidden hN
      clear hN HO1 kc
      go_wp2_with fail
      refine (sum_arg HL.out).mono ?_
      rintro e w2 ⟨rfl, rfl⟩
      go_wp2_with fail
      refine (sum_arg (HA.out.below HB2.out)).mono ?_
      rintro e w2 ⟨rfl, rfl⟩
      go_wp2_with fail
      refine (HX.out _ (HB.out.below HB2.out)).mono ?_
      rintro e w2 ⟨rfl, rfl⟩
      go_wp2_with fail
      refine (sum_arg (HA.out.below HB2.out)).mono ?_
      rintro e w2 ⟨rfl, rfl⟩
      go_wp2_with fail
      refine (sum_arg (HB.out.below HB2.out)).mono ?_
      rintro e w2 ⟨rfl, rfl⟩
      go_wp2_with fail
      refine (HY.out _).mono ?_
      rintro e w2 ⟨rfl, rfl⟩
      go_wp2_with fail
      refine (seal_calls al N cl AB _ HL.out HL0.out (by omega)).mono ?_
      rintro e w3 ⟨rfl, hR, hb⟩
      have HB3 : Hid (Below w.heap.size w w3) := HB2.out.trans (hb.mono HB2.out.size)
      have HL3 := hidden (HL.out.below hb)
      have HR3 := hidden hR
      have HS := hidden (sealed_arg hR hALL HL.out.2.1 (by omega))
      have hgz := num_be4 _ (go_lt (s := 0) (by decide) hALL)
      have HGZ := hidden hgz
      clear hR hb hgz
      go_wp2_with fail
      refine (open_good w2.heap.size 0 (N + 4) N AB _ _ _ _ _ HL.out.2.1 HS.out (Nat.le_refl _) HGZ.out (by omega)).mono ?_
      rintro e w4 ⟨v3, rfl, ho, hb⟩
      have HB4 : Hid (Below w.heap.size w w4) := HB3.out.trans (hb.mono HB3.out.size)
      have HL4 := hidden (HL3.out.below hb)
      have HR4 := hidden (HR3.out.only (Only.of_below hb []) (by simp))
      obtain ⟨a3, c3, rfl, hq, _, _, hqb⟩ := own_slice ho hALL (by omega)
      have k1 := conv_arg (cap := c3) Tryd.underlying22 Tryd.underlying5 Tryd.underlying9 hq (fun ad h => by obtain ⟨g, h, _⟩ := hqb ad h; exact ⟨g, 0, h⟩)
      have k2 := conv_arg (cap := cl) Tryd.underlying22 Tryd.underlying5 Tryd.underlying9 HL4.out (fun ad h => by obtain ⟨g, h, _⟩ := HLB.out ad h; exact ⟨g, 0, h⟩)
      clear ho hb hq hqb
      by_cases p1 : at_ < 0
      · go_wp2_with fail
        go_ret
        exact ⟨rfl, HB4.out⟩
      by_cases p2 : N + 3 ≤ at_
      · go_wp2_with fail
        go_ret
        exact ⟨rfl, HB4.out⟩
      obtain ⟨i, rfl⟩ : ∃ i : Nat, at_ = (i : Int) := ⟨at_.toNat, by omega⟩
      by_cases p3 : m = 0 ∧ n = 0
      · obtain ⟨rfl, rfl⟩ := p3
        go_wp2_with fail
        go_ret
        exact ⟨rfl, HB4.out⟩
      have hi : i + 1 < N + 4 := by omega
      obtain ⟨B', t0, t1, t2, t3, he, hBl, hne, hBt⟩ := changed AB i m n hALL (by rw [HL.out.2.1]; exact hi) hm hn p3
      rw [HL.out.2.1] at hBl
      have q0 := HR4.out.cell i (by simp [be4, HL.out.2.1]; omega)
      have q1 := HR4.out.cell (i + 1) (by simp [be4, HL.out.2.1]; omega)
      have f0 := HR4.out.free i
      have f1 := HR4.out.free (i + 1)
      have hx8 := getD_lt _ HS.out.1.1 i (by simp [be4, HL.out.2.1]; omega)
      have hy8 := getD_lt _ HS.out.1.1 (i + 1) (by simp [be4, HL.out.2.1]; omega)
      have hR6 := (HR4.out.set i ((AB ++ be4 (go 0 AB)).getD i 0 ^^^ m)).set (i + 1) ((AB ++ be4 (go 0 AB)).getD (i + 1) 0 ^^^ n)
      rw [he] at hR6
      generalize (AB ++ be4 (go 0 AB)).getD i 0 = x at *
      generalize (AB ++ be4 (go 0 AB)).getD (i + 1) 0 = y at *
      have ex := u8_xor_nat x m hx8 hm
      have ey := u8_xor_nat y n hy8 hn
      rw [← ex, ← ey] at hR6
      have HS6 : Hid (Arg _ (some ⟨w2.heap.size, 0, none⟩) (N + 4) (B' ++ [t0, t1, t2, t3])) := ⟨hR6.bys hBt, by simp [hBl], by omega⟩
      have HB6 : Hid (Below w.heap.size w _) := (HB4.out.setCell (p := ⟨w2.heap.size, i, none⟩) HB2.out.size (.int .u8 (bits .xor .u8 (x : Int) (m : Int)))).setCell (p := ⟨w2.heap.size, i + 1, none⟩) HB2.out.size (.int .u8 (bits .xor .u8 (y : Int) (n : Int)))
      have HG6 := hidden ((HB6.out.cell (p := ⟨0, 0, none⟩) (lt_of_cell HG.out)).trans HG.out)
      have HNE := hidden hne
      clear he hne hBt hR6 ex ey
      by_cases pm : m = 0
      · subst pm
        have pn : ((n : Int) == 0) = false := by simp; omega
        clear p3
        go_wp2_with fail
        refine (open_bad w2.heap.size 0 (N + 4) N B' t0 t1 t2 t3 _ hBl (by exact HS6.out) (Nat.le_refl _) HNE.out).mono ?_
        rintro e w7 ⟨rfl, kq, rfl⟩
        go_wp2_with fail
        refine (Told.same_err 9 9 _ (by decide) (by decide) (by exact HG6.out)).mono ?_
        rintro e w8 ⟨rfl, hb8⟩
        have HB8 := hidden hb8
        clear hb8
        go_wp2_with fail
        go_ret
        exact ⟨rfl, HB6.out.trans (Below.mono (below_of_drewN HB8.out) HB6.out.size)⟩
      · have pm' : ((m : Int) == 0) = false := by simp; omega
        clear p3 pm
        go_wp2_with fail
        refine (open_bad w2.heap.size 0 (N + 4) N B' t0 t1 t2 t3 _ hBl (by exact HS6.out) (Nat.le_refl _) HNE.out).mono ?_
        rintro e w7 ⟨rfl, kq, rfl⟩
        go_wp2_with fail
        refine (Told.same_err 9 9 _ (by decide) (by decide) (by exact HG6.out)).mono ?_
        rintro e w8 ⟨rfl, hb8⟩
        have HB8 := hidden hb8
        clear hb8
        go_wp2_with fail
        go_ret
        exact ⟨rfl, HB6.out.trans (Below.mono (below_of_drewN HB8.out) HB6.out.size)⟩
end Go.Proofs.YtifjlknlndndhabDoor.Parts
