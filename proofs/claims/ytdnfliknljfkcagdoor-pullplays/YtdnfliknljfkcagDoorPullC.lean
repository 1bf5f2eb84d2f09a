/-
  What Changed and Ask of package pull return, and what they leave in memory. Their condition: what is kept is such as it may be.
-/
import Derived.Test.YtdnfliknljfkcagDoorPullB
namespace Go.Proofs.YtdnfliknljfkcagDoor.Pull
open Go.ChangeShapes Go.WideShapes Go.ChangeAt Go.RowKit Go.Maps Go.Proofs.YtdnfliknljfkcagDoor.Mem Go.Proofs.YtdnfliknljfkcagDoor.PU
set_option linter.unusedVariables false

/-- under way within Changed: k tracks are looked at -/
structure CSt (w wr : World) (b : Nat) (mb : Nat → Nat) (th nw : Int) (td ak : Nat → Int) (L : Wts) (k : Nat) (v : Value) (K : Wts) : Prop where
  pull : PullAt wr b mb th nw (tdN L td k) ak L
  row : wr.ownsRow w.heap.size 30 3 v K.length (mc K)
  only : Only (pblks b mb) w wr
  lt : ∀ j ∈ pblks b mb, j < w.heap.size
theorem CSt.below {w wr wy : World} {b : Nat} {mb : Nat → Nat} {th nw : Int} {td ak : Nat → Int} {L : Wts} {k : Nat} {v : Value} {K : Wts} (h : CSt w wr b mb th nw td ak L k v K) (hb : Below wr.heap.size wr wy) : CSt w wy b mb th nw td ak L k v K :=
  ⟨h.pull.below hb, (Only.of_below hb []).owns h.row (by simp), h.only.trans (Only.of_below hb _), h.lt⟩
theorem CSt.same {w wr : World} {b : Nat} {mb : Nat → Nat} {th nw : Int} {td ak : Nat → Int} {L : Wts} {k : Nat} {v : Value} {K : Wts} (h : CSt w wr b mb th nw td ak L k v K) (e : need L ((k : Int) + 1) = td k) : CSt w wr b mb th nw td ak L (k + 1) v K :=
  { h with pull := h.pull.ext (fun i hi => by
      unfold tdN
      by_cases q : i < k
      · rw [if_pos q, if_pos (by omega)]
      · rw [if_neg q]
        by_cases q2 : i = k
        · subst q2; rw [if_pos (by omega), e]
        · rw [if_neg (by omega)]) (fun i hi => rfl) }
theorem CSt.told {w wr : World} {b : Nat} {mb : Nat → Nat} {th nw : Int} {td ak : Nat → Int} {L : Wts} {k : Nat} {v : Value} {K : Wts} (h : CSt w wr b mb th nw td ak L k v K) (hk : k < 8) : CSt w (wr.setCell ⟨b, 2 + k * 3 + 1, none⟩ (.int .i64 (need L ((k : Int) + 1)))) b mb th nw td ak L (k + 1) v K := by
  have ho : Only [b] wr (wr.setCell ⟨b, 2 + k * 3 + 1, none⟩ (.int .i64 (need L ((k : Int) + 1)))) := (Only.refl _ _).setCell (by simp) _
  refine ⟨(h.pull.setT hk _).ext (fun i hi => ?_) (fun i hi => rfl), ho.owns h.row (fun j hj => ?_), h.only.trans (ho.mono (by intro j hj; simp at hj; exact mem_pblks.2 (.inl hj))), h.lt⟩
  · unfold tdN upd
    by_cases q2 : i = k
    · rw [if_pos q2, if_pos (by omega), q2]
    · rw [if_neg q2]
      show (if i < k then need L ((i : Int) + 1) else td i) = _
      by_cases q : i < k
      · rw [if_pos q, if_pos (by omega)]
      · rw [if_neg q, if_neg (by omega)]
  · have h1 := (h.row.lt j hj).1
    have h2 := h.lt b (mem_pblks.2 (.inl rfl))
    simp
    omega
theorem CSt.more {w wr wy : World} {b : Nat} {mb : Nat → Nat} {th nw : Int} {td ak : Nat → Int} {L : Wts} {k : Nat} {v v' : Value} {K : Wts} (h : CSt w wr b mb th nw td ak L k v K) (x : Wt) (hown : wy.ownsRow w.heap.size 30 3 v' (K.length + 1) (mc K ++ mc [x])) (hg : wr.grownBy wy v.ownBlock) : CSt w wy b mb th nw td ak L k v' (K ++ [x]) := by
  have hv : ∀ j, v.ownBlock = some j → w.heap.size ≤ j := fun j hj => (h.row.lt j hj).1
  have ho : Only v.ownBlock.toList wr wy := (Only.refl _ _).grown hg (by intro j hj; simp [hj])
  refine ⟨h.pull.only ho ?_, ?_, past h.only ho ?_, h.lt⟩
  · intro j hj hc
    have h1 := h.lt j hj
    have h2 := hv j (by simpa using hc)
    omega
  · rw [mc_app]
    simpa using hown
  · intro j hj
    exact .inr (hv j (by simpa using hj))

set_option maxHeartbeats 1000000 in
set_option maxRecDepth 100000 in
theorem changed_calls (b : Nat) (mb : Nat → Nat) (th nw : Int) (td ak : Nat → Int) (L : Wts) (w : World) (h : PullAt w b mb th nw td ak L) (hI : PU.Inv L) :
    Calls Tryd.prog 8 #[.pointer (some ⟨b, 0, none⟩)] w fun e w' => ∃ v, e = .returned v ∧ PullAt w' b mb th nw (fun i => need L ((i : Int) + 1)) ak L ∧ w'.ownsRow w.heap.size 30 3 v (chg L td 8).length (mc (chg L td 8)) ∧ Only (pblks b mb) w w' := by
  obtain ⟨i0, hii, hz0, hz1, hz2⟩ := info_parts infoWT
  have HS0 : Hid (CSt w w b mb th nw td ak L 0 (.slice none 0 0) []) := ⟨h.ext (fun i hi => by simp [tdN]) (fun i hi => rfl), World.ownsRow_nil _ _ _ _, Only.refl _ _, h.blt⟩
  clear h
  go_enter Tryd.func8, Tryd.ntmps8
  go_wp2_with fail
  go_loopg [3, 7] 8 (fun g v' x wr => ∃ (k : Nat) (v : Value) (K : Wts), k + g = 8 ∧ v = v' ∧ x = .int .i64 (k : Int) ∧ Hid (K = chg L td k) ∧ Hid (CSt w wr b mb th nw td ak L k v K))
  case atStart => exact ⟨0, _, [], by omega, rfl, rfl, rfl, HS0⟩
  case round =>
    obtain ⟨k, v, K, hkg, rfl, rfl, HK, HS⟩ := hrel
    clear HS0
    by_cases hk : k < 8
    · have hkz : (k : Int) < 8 := by omega
      have HC := hidden (pull_need HS.out.pull hk)
      obtain ⟨r, hr⟩ : ∃ r, need L ((k : Int) + 1) = r := ⟨_, rfl⟩
      rw [hr] at HC
      have HR := hidden hr
      clear hr
      go_wp2_with fail
      refine HC.out.mono ?_
      rintro e w1 ⟨rfl, hb1⟩
      have HS1 := hidden (HS.out.below hb1)
      clear hb1 HS HC
      have ct := (HS1.out.pull.track hk).2.1
      have f1 := HS1.out.pull.free (2 + k * 3 + 1)
      have e0 : tdN L td k k = td k := by simp [tdN]
      rw [e0] at ct
      clear e0
      by_cases hq : r = td k
      · rw [← hq] at ct
        have HS2 := hidden (HS1.out.same (by rw [HR.out, hq]))
        have HK2 : Hid (K = chg L td (k + 1)) := by rw [chg_same (by rw [HR.out, hq])]; exact HK
        clear hq HS1 f1
        go_wp2_with fail
        go_roundg (8 - (k + 1))
        case measure => omega
        case rel => exact ⟨k + 1, v, K, by omega, rfl, by go_num, HK2, HS2⟩
      · have d : (r == td k) = false := by simpa using hq
        have HK2 : Hid (K ++ [⟨0, (k : Int) + 1, r⟩] = chg L td (k + 1)) := by rw [chg_more (by rw [HR.out]; exact hq), HR.out, ← HK.out]; exact rfl
        have hS2 := HS1.out.told hk
        rw [HR.out] at hS2
        have hkl : K.length ≤ 8 := by rw [HK.out]; have := chg_len L td k; omega
        have hbw := HS1.out.pull.lt
        have HS3 : Hid (CSt w ((w1.setCell ⟨b, 2 + k * 3 + 1, none⟩ (.int .i64 r)).alloc (.cells #[.int .i64 0, .int .i64 ((k : Int) + 1), .int .i64 r] 30)) b mb th nw td ak L (k + 1) v K) := hS2.below ((Below.refl _ _).alloc (Nat.le_refl _) _)
        have HN := hidden (WBox.new (w1.setCell ⟨b, 2 + k * 3 + 1, none⟩ (.int .i64 r)) ⟨0, (k : Int) + 1, r⟩).news
        have hsz3 : w.heap.size ≤ ((w1.setCell ⟨b, 2 + k * 3 + 1, none⟩ (.int .i64 r)).alloc (.cells #[.int .i64 0, .int .i64 ((k : Int) + 1), .int .i64 r] 30)).heap.size := HS3.out.only.2.2.2.1
        clear hq hS2 HS1
        generalize td k = tk at *
        go_wp2_with (at_builtin; refine wpList_append_own _ rfl _ _ 22 rfl w.heap.size 30 i0 _ 3 24 Tryd.underlying22 hii hz0 hz1 hz2 rfl (by decide) _ K.length (mc K) rfl HS3.out.row ⟨w1.heap.size, 0, none⟩ 1 1 (mc [⟨0, (k : Int) + 1, r⟩]) rfl rfl ?news (mc_cell _) ?b1 ?b2 ?b3 ?next)
        case news => simpa using HN.out
        case b1 => unfold maxLen; omega
        case b2 => omega
        case b3 => exact hsz3
        case next =>
          intro v1 w5 hown hgrow _
          have HS5 := hidden (HS3.out.more ⟨0, (k : Int) + 1, r⟩ hown hgrow)
          clear hown hgrow HS3
          go_wp2_with fail
          go_roundg (8 - (k + 1))
          case measure => omega
          case rel => exact ⟨k + 1, v1, _, by omega, rfl, by go_num, HK2, HS5⟩
    · have hkz : ¬ (k : Int) < 8 := by omega
      obtain rfl : k = 8 := by omega
      go_wp2_with fail
      go_ret
      have hs := HS.out
      refine ⟨v, rfl, hs.pull.ext (fun i hi => by simp [tdN, hi]) (fun i hi => rfl), ?_, hs.only⟩
      have := hs.row
      rw [HK.out] at this
      exact this
end Go.Proofs.YtdnfliknljfkcagDoor.Pull
