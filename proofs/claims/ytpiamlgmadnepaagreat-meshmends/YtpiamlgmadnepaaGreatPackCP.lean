/-
 What the packages ring, order, layer and out want of packets beside what package frame's texts have (PackR, PackW): one law, for a seat that reaches frame too (there built as <NAME>PackC in rgpk's place).
-/
import Derived.Test.YtpiamlgmadnepaaGreatPackWP
set_option linter.unusedVariables false
namespace Go.Proofs.YtpiamlgmadnepaaGreat.Pack
open Go.ChangeShapes Go.WideShapes Go.ChangeAt Go.RowKit PM Mem
theorem ξ4U {fn:Func} {tmps:Array Value} {w:World} {g i:Nat} {s t l v:Int} {st:Bool} {a:Option Addr} {n cap:Nat} (hf:fn.results=#[.cell i 38]) (hi:tmps.getD i undef=.pointer (some ⟨g,0,none⟩)) (hb:Box w g s t l v st (.slice a n cap)) :
 (results fn tmps).run Tryz.prog w=.ok (.agg #[.int .i64 s,.int .i64 t,.int .i64 l,.int .i64 v,.bool st,.slice a n cap]) w:=by
 obtain ⟨c0,c1,c2,c3,c4,c5⟩:=hb.cells;have hi':tmps[i]?.getD undef=.pointer (some ⟨g,0,none⟩):=by simpa using hi
 simp [results,hf,hi',go_sem,c0,c1,c2,c3,c4,c5]
end Go.Proofs.YtpiamlgmadnepaaGreat.Pack
