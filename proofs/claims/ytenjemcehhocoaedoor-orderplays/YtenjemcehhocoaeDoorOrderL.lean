/-
  What Len of package order returns. It changes nothing that was there. Its condition: of each number one is kept.
-/
import Derived.Test.YtenjemcehhocoaeDoorOrderA
namespace Go.Proofs.YtenjemcehhocoaeDoor.Order
open Go.ChangeShapes Go.WideShapes Go.ChangeAt Go.RowKit Go.Maps Go.Proofs.YtenjemcehhocoaeDoor.PM Go.Proofs.YtenjemcehhocoaeDoor.Mem Go.Proofs.YtenjemcehhocoaeDoor.Pack Go.Proofs.YtenjemcehhocoaeDoor.OM
set_option linter.unusedVariables false

theorem len_calls (b mb : Nat) (wt nw nx : Int) (M : Its) (w : World) (h : OrderAt w b mb wt nw nx M) (hI : Apart M) :
    Calls Tryd.prog 13 #[.pointer (some ⟨b, 0, none⟩)] w fun e w' => e = .returned (.int .i64 (M.length : Int)) ∧ w' = w := by
  obtain ⟨c0, c1, c2, c3⟩ := h.cells
  obtain ⟨_, ⟨D, hown, hK, _⟩, _⟩ := h
  have hs : Maps.size D = M.length := hK.size (hown.entries law3) hI
  have HO := hidden hown
  have HS := hidden hs
  clear hown hs hK
  go_enter Tryd.func13, Tryd.ntmps13
  go_wp2_with (at_len; refine wpList_len_own _ rfl _ 54 rfl 3 79 Tryd.underlying54 _ mb M.length D rfl HO.out ?_)
  go_wp2_with fail
  go_ret
  exact ⟨by rw [HS.out]; rfl, rfl⟩
end Go.Proofs.YtenjemcehhocoaeDoor.Order
