/-
  Run: the whole of it.
-/
import Derived.Test.YtbadpjgiogghdaaGreatDoorRunYP
namespace Go.Proofs.YtbadpjgiogghdaaGreatDoor.Run
open Go.ChangeShapes Go.WideShapes Go.ChangeAt Go.RowKit Go.Proofs.YtbadpjgiogghdaaGreatDoor.Mem Go.Proofs.YtbadpjgiogghdaaGreatDoor.RN Go.Proofs.YtbadpjgiogghdaaGreatDoor.RC
set_option linter.unusedVariables false
theorem run_long (D:Far) (text:List UInt8) (ht:3000<text.length) (h64:text.length≤9223372036854775807) (w:World) :
    Calls Tryz.prog 7 #[.string (bs text)] w fun e W'=>e=.returned (.string (bs (runOf D text)))∧Below w.heap.size w W':=by
  have hsz:(bs text).size=text.length:=bs_size text
  obtain ⟨m,hm⟩:∃ m,text.length=m:=⟨_,rfl⟩
  rw [hm] at hsz ht h64
  have d0:decide ((3000:Int)<(m:Int))=true:=by simp;omega
  have hz:runOf D text=[116,111,111,32,108,111,110,103,10]:=by rw [runOf,if_pos (by omega)]
  rw [hz]
  clear hm
  go_enter Tryz.func7,Tryz.ntmps7
  go_wp2
  go_ret
  exact ⟨rfl,Below.refl _ _⟩
theorem run_calls (D:Far) (hD:D.Ok) (ea:Addr) (text:List UInt8) (h64:text.length≤9223372036854775807) (w:World) (g:GW ea w) :
    Calls Tryz.prog 7 #[.string (bs text)] w fun e W'=>e=.returned (.string (bs (runOf D text)))∧Below w.heap.size w W':=by
  by_cases h:3000<text.length
  · exact run_long D text h h64 w
  · exact (callsIn_wide (n:=5)).1 (run_in D hD ea 5 (by omega) text (by omega) w g)
end Go.Proofs.YtbadpjgiogghdaaGreatDoor.Run

