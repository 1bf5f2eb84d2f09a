/-
  A row of numbers told as one text.
-/
import Derived.Test.YtbadpjgiogghdaaGreatDoorRunK
import Derived.Test.YtbadpjgiogghdaaGreatDoorTreeC
namespace Go.Proofs.YtbadpjgiogghdaaGreatDoor.Run
open Go.ChangeShapes Go.WideShapes Go.ChangeAt Go.RowKit Go.Proofs.YtbadpjgiogghdaaGreatDoor.Mem Go.Proofs.YtbadpjgiogghdaaGreatDoor.RN Go.Proofs.YtbadpjgiogghdaaGreatDoor.RC
set_option linter.unusedVariables false

theorem info9 : (Tryz.prog.info? 9).map (fun i => (i.zero, i.size, i.bytes)) = some (some (.string ByteArray.empty), 1, 16) := by kernel_rfl
theorem take_snoc0 (P : List (List UInt8)) {i : Nat} (h : i < P.length) : P.take (i + 1) = P.take i ++ [P.getD i []] := by
  rw [List.getD_eq_getElem?_getD, List.getElem?_eq_getElem h, Option.getD_some, List.take_append_getElem h]
/-- the cells of texts -/
def sc (T : List (List UInt8)) : List Value := T.map fun x => Value.string (bs x)
theorem sc_snoc (T : List (List UInt8)) (x : List UInt8) : sc (T ++ [x]) = sc T ++ [.string (bs x)] := by simp [sc]
theorem sc_len (T : List (List UInt8)) : (sc T).length = T.length := by simp [sc]
/-- under way through a row of texts -/
structure JSt (w wr : World) (T : List (List UInt8)) (v : Value) : Prop where
  bel : Below w.heap.size w wr
  own : wr.ownsRow w.heap.size 9 1 v T.length (sc T)
theorem JSt.below {w wr w' : World} {T : List (List UInt8)} {v : Value} (h : JSt w wr T v) (hb : Below wr.heap.size wr w') : JSt w w' T v :=
  ⟨h.bel.trans (hb.mono h.bel.size), Tree.own_below h.own hb⟩
theorem JSt.app {w wr w' : World} {T : List (List UInt8)} {x : List UInt8} {v v' : Value} {O : Obj} (h : JSt w wr T v) (hown : w'.ownsRow w.heap.size 9 1 v' (T.length + 1) (sc T ++ [.string (bs x)])) (hg : (wr.alloc O).grownBy w' v.ownBlock) : JSt w w' (T ++ [x]) v' := by
  have hs := h.bel.size
  refine ⟨(h.bel.alloc hs O).grown hg (by simp; omega) (fun j hj => (h.own.lt j hj).1), ?_⟩
  rw [List.length_append, sc_snoc]
  exact hown
/-- texts that are put together -/
theorem join_calls (c : UInt8) (T : List (List UInt8)) (v : Value) (w wr : World) (h : JSt w wr T v) (hne : T ≠ []) (hT : T.length ≤ 5000) (hl : ∀ x ∈ T, x.length ≤ 100) :
    Calls Tryz.prog 123 #[v, .string ⟨#[c]⟩] wr fun e w' => e = .returned (.string (bs (joined T c))) ∧ Below wr.heap.size wr w' := by
  rcases h.own.2 with ⟨rfl, h0⟩ | ⟨g, cap, cur, rfl, hg, hbl, hc, hm, hs, ht⟩
  · exact absurd (List.eq_nil_of_length_eq_zero h0) hne
  · have hlen : (Lib.join T [c]).length ≤ 1000000 := by
      cases T with
      | nil => exact absurd rfl hne
      | cons x r =>
        rw [Lib.join_length]
        have : ∀ L : List (List UInt8), (∀ y ∈ L, y.length ≤ 100) → Lib.lens L ≤ 100 * L.length := by
          intro L
          induction L with
          | nil => intro _; simp [Lib.lens]
          | cons y s ih =>
            intro hy
            have h1 := hy y (by simp)
            have h2 := ih (fun z hz => hy z (by simp [hz]))
            simp only [Lib.lens, List.map_cons, List.sum_cons, List.length_cons] at h2 ⊢
            omega
        have := this (x :: r) hl
        simp only [List.length_cons, List.length_nil] at *
        omega
    have em : (T.map bs).map (·.data.toList) = T := by
      rw [List.map_map]
      have : (fun x : ByteArray => x.data.toList) ∘ bs = id := funext fun x => bs_data x
      rw [this, List.map_id]
    have hj := Tryz.strings_Join g 0 cap (T.map bs) ⟨#[c]⟩ wr (fun j x hx => by
      rw [Nat.zero_add, h.own.cellAt j (by rw [Nat.mul_one]; have := (List.getElem?_eq_some_iff.1 hx).1; simpa using this)]
      rw [List.getElem?_map] at hx
      rw [sc, List.getElem?_map]
      cases hq : T[j]? with
      | none => rw [hq] at hx; cases hx
      | some y => rw [hq] at hx; cases hx; rfl) (lt_of_block hbl) (by simp; omega) (by simpa using hc) (by rw [em]; show (Lib.join T [c]).length ≤ _; omega)
    rw [em, List.length_map] at hj
    refine hj.mono ?_
    rintro e w' ⟨rfl, hb⟩
    refine ⟨?_, hb⟩
    unfold joined
    rw [if_neg hne]
    rfl
set_option maxRecDepth 100000 in
set_option maxHeartbeats 1000000 in
theorem joinedN_some (ea : Addr) (c : UInt8) (a : Option Addr) (n cap : Nat) (L : List Int) (w : World) (g : GW ea w) (h : Tree.IArg w a n L) (h0 : 0 < n) (hn : n ≤ 5000) (hL : ∀ x ∈ L, -9223372036854775808 ≤ x ∧ x ≤ 9223372036854775807) :
    Calls Tryz.prog 98 #[.slice a n cap, .string ⟨#[c]⟩, .func (.func 87) #[] #[]] w fun e w' => e = .returned (.string (bs (joined (L.map Lib.itoa) c))) ∧ Below w.heap.size w w' := by
  have HA := hidden h
  have HL := hidden h.2.1
  have HG := hidden g
  have I : Hid (∀ x ∈ L, ∀ W, GW ea W → _) := hidden (fun x hx W gW => itoa_calls ea x W gW (hL x hx).1 (hL x hx).2)
  have HLL := hidden hL
  have d0 : decide ((n : Int) = 0) = false := by simp; omega
  have d1 : ((n : Int) == 0) = false := by simp; omega
  clear h g hL
  obtain ⟨i0, hii, hz0, hz1, hz2⟩ := info_parts info9
  have H0 : Hid (JSt w w ((L.map Lib.itoa).take 0) (.slice none 0 0)) := ⟨Below.refl _ _, World.ownsRow_nil _ _ _ _⟩
  go_enter Tryz.func98, Tryz.ntmps98
  go_wp2_with fail
  go_loopg [7, 15] n (fun g u y wr => ∃ (i : Nat) (v : Value), i + g = n ∧ v = u ∧ y = .int .i64 (i : Int) ∧ Hid (JSt w wr ((L.map Lib.itoa).take i) v))
  case atStart => exact ⟨0, _, by omega, rfl, rfl, H0⟩
  case round =>
    obtain ⟨i, v, hig, rfl, rfl, HS⟩ := hrel
    by_cases hi : i < n
    · have hiz : (i : Int) < (n : Int) := by omega
      obtain ⟨bb, oo, rfl, c0⟩ := (HA.out.below HS.out.bel).1 i (by have := HL.out; omega)
      have hmem : TM.dg L i ∈ L := by
        have := HL.out
        rw [TM.dg, List.getD_eq_getElem?_getD, List.getElem?_eq_getElem (by omega)]; simp
      have I1 := hidden (I.out _ hmem wr (HG.out.below HS.out.bel))
      have hst := take_snoc0 (L.map Lib.itoa) (i := i) (by have := HL.out; simp; omega)
      have hge : (L.map Lib.itoa).getD i [] = Lib.itoa (TM.dg L i) := by
        have := HL.out
        rw [TM.dg, List.getD_eq_getElem?_getD, List.getD_eq_getElem?_getD, List.getElem?_map, List.getElem?_eq_getElem (by omega)]; rfl
      rw [hge] at hst
      have hlt : ((L.map Lib.itoa).take i).length = i := by have := HL.out; simp; omega
      obtain ⟨x, hx⟩ : ∃ x, TM.dg L i = x := ⟨_, rfl⟩
      rw [hx] at c0 I1 hst
      obtain ⟨T, hT⟩ : ∃ T, (L.map Lib.itoa).take i = T := ⟨_, rfl⟩
      rw [hT] at hst HS hlt
      obtain ⟨t, ht⟩ : ∃ t, Lib.itoa x = t := ⟨_, rfl⟩
      rw [ht] at I1 hst
      have HT := hidden hst
      clear hst hge hmem hx hT ht
      go_wp2_with fail
      refine I1.out.mono ?_
      rintro e w3 ⟨rfl, hb3⟩
      have HS3 := hidden (HS.out.below hb3)
      have hbase := HS3.out.bel.size
      clear hb3
      go_wp2_with (at_builtin; refine wpList_append_own _ rfl _ _ 23 rfl w.heap.size 9 i0 _ 1 16 Tryz.underlying23 hii hz0 hz1 hz2 rfl (by decide) _ T.length (sc T) rfl (HS3.out.own.alloc _) ⟨w3.heap.size, 0, none⟩ 1 1 [.string (bs t)] rfl rfl ?cc ?one ?b1 ?b2 ?b3 ?next)
      case cc => exact Tree.lit1 _
      case one => simp [Value.oneCell']
      case b1 => unfold maxLen; omega
      case b2 => omega
      case b3 => simp; omega
      case next =>
      intro v3 w4 hown hgrow _
      have HSn : Hid (JSt w w4 ((L.map Lib.itoa).take (i + 1)) v3) := by
        rw [HT.out]
        exact HS3.out.app (by rw [hlt]; exact hown) hgrow
      clear hown hgrow hbase
      go_wp2_with fail
      go_roundg (n - (i + 1))
      case measure => omega
      case rel => exact ⟨i + 1, v3, by omega, rfl, by go_num, HSn⟩
    · have hiz : ¬ (i : Int) < (n : Int) := by omega
      obtain rfl : i = n := by omega
      have h9 := HS.out
      rw [List.take_of_length_le (by have := HL.out; simp; omega)] at h9
      have J := hidden (join_calls c (L.map Lib.itoa) v w wr h9 (by intro e; rw [List.map_eq_nil_iff] at e; have := HL.out; rw [e] at this; simp at this; omega) (by have := HL.out; simp; omega) (fun x hx => by
        obtain ⟨y, hy, rfl⟩ := List.mem_map.1 hx
        have := Lib.itoa_length_le y (HLL.out y hy).1 (HLL.out y hy).2
        omega))
      have HB := hidden h9.bel
      clear h9
      go_wp2_with fail
      refine J.out.mono ?_
      rintro e w1 ⟨rfl, hb⟩
      have HB1 := hidden (HB.out.trans (hb.mono HB.out.size))
      clear hb
      go_wp2_with fail
      go_ret
      exact ⟨rfl, HB1.out⟩
theorem joinedN_none (c : UInt8) (a : Option Addr) (cap : Nat) (w : World) :
    Calls Tryz.prog 98 #[.slice a 0 cap, .string ⟨#[c]⟩, .func (.func 87) #[] #[]] w fun e w' => e = .returned (.string (bs (joined [] c))) ∧ Below w.heap.size w w' := by
  go_enter Tryz.func98, Tryz.ntmps98
  go_wp2_with fail
  go_ret
  exact ⟨rfl, Below.refl _ _⟩
/-- a row of numbers as a text -/
theorem joinedN_calls (ea : Addr) (c : UInt8) (a : Option Addr) (n cap : Nat) (L : List Int) (w : World) (g : GW ea w) (h : Tree.IArg w a n L) (hn : n ≤ 5000) (hL : ∀ x ∈ L, -9223372036854775808 ≤ x ∧ x ≤ 9223372036854775807) :
    Calls Tryz.prog 98 #[.slice a n cap, .string ⟨#[c]⟩, .func (.func 87) #[] #[]] w fun e w' => e = .returned (.string (bs (joined (L.map Lib.itoa) c))) ∧ Below w.heap.size w w' := by
  rcases Nat.eq_zero_or_pos n with rfl | h0
  · obtain rfl := List.eq_nil_of_length_eq_zero h.2.1
    exact joinedN_none c a cap w
  · exact joinedN_some ea c a n cap L w g h h0 hn hL
end Go.Proofs.YtbadpjgiogghdaaGreatDoor.Run

