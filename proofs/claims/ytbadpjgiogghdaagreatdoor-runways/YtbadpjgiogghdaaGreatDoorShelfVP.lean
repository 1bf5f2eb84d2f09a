/-
  The library's functions that the program calls (slices.SortFunc, slices.Sort, maps.DeleteFunc), laid at this program: that each body is the one that its contract was proved of. No walk.
-/
import Derived.Shelf.SlSortCmp.NoneTotal
import Derived.Shelf.SlMaps.DeleteFunc
import Derived.Shelf.SortM.Plain
import Derived.Shelf.SortM.SortNone
import Derived.Test.YtbadpjgiogghdaaGreatDoorProg
namespace Go.Proofs
open Go.Shelf
def Tryz.sortV_ren:Go.Shelf.Ren:=⟨fun | 6=>184 | 15=>145 | 14=>212 | 28=>179 | 29=>180 | 20=>222 | 21=>223 | 22=>224 | 23=>225 | 24=>226 | 25=>227 | 26=>228 | 27=>229 | 46=>232 | 47=>205 | 48=>206 | 49=>233 | 50=>234 | 57=>235 | n=>n,fun | 22=>57 | 24=>88 | 25=>253 | 3=>3 | 39=>102 | 0=>0 | 53=>100 | 55=>131 | 4=>4 | 46=>245 | 45=>244 | 50=>65 | 5=>5 | 9=>9 | 66=>267 | 70=>271 | 76=>290 | 77=>203 | n=>n,fun | n=>n⟩
theorem Tryz.sortV:Go.Proofs.SlLaysF0.n6 Tryz.prog Tryz.sortV_ren:={
  mixed:=by kernel_rfl
  f6:=⟨Tryz.f184.name,by decide,Tryz.func184.trans (congrArg some (by kernel_rfl))⟩
  f14:=⟨Tryz.f212.name,by decide,Tryz.func212.trans (congrArg some (by kernel_rfl))⟩
  f15:=Tryz.func145.trans (congrArg some (by kernel_rfl))
  f20:=⟨Tryz.f222.name,by decide,Tryz.func222.trans (congrArg some (by kernel_rfl))⟩
  f21:=⟨Tryz.f223.name,by decide,Tryz.func223.trans (congrArg some (by kernel_rfl))⟩
  f22:=⟨Tryz.f224.name,by decide,Tryz.func224.trans (congrArg some (by kernel_rfl))⟩
  f23:=⟨Tryz.f225.name,by decide,Tryz.func225.trans (congrArg some (by kernel_rfl))⟩
  f24:=⟨Tryz.f226.name,by decide,Tryz.func226.trans (congrArg some (by kernel_rfl))⟩
  f25:=⟨Tryz.f227.name,by decide,Tryz.func227.trans (congrArg some (by kernel_rfl))⟩
  f26:=⟨Tryz.f228.name,by decide,Tryz.func228.trans (congrArg some (by kernel_rfl))⟩
  f27:=⟨Tryz.f229.name,by decide,Tryz.func229.trans (congrArg some (by kernel_rfl))⟩
  f28:=Tryz.func179.trans (congrArg some (by kernel_rfl))
  f29:=Tryz.func180.trans (congrArg some (by kernel_rfl))
  f46:=⟨Tryz.f232.name,by decide,Tryz.func232.trans (congrArg some (by kernel_rfl))⟩
  f47:=Tryz.func205.trans (congrArg some (by kernel_rfl))
  f48:=Tryz.func206.trans (congrArg some (by kernel_rfl))
  f49:=⟨Tryz.f233.name,by decide,Tryz.func233.trans (congrArg some (by kernel_rfl))⟩
  f50:=⟨Tryz.f234.name,by decide,Tryz.func234.trans (congrArg some (by kernel_rfl))⟩
  f57:=⟨Tryz.f235.name,by decide,Tryz.func235.trans (congrArg some (by kernel_rfl))⟩
  t0:=Tryz.underlying0
  a0:=Tryz.isAgg0
  z0:=Tryz.sizeOf0
  v0:=Tryz.zeroValue0
  t3:=Tryz.underlying3
  a3:=Tryz.isAgg3
  z3:=Tryz.sizeOf3
  v3:=Tryz.zeroValue3
  t4:=Tryz.underlying4
  a4:=Tryz.isAgg4
  z4:=Tryz.sizeOf4
  v4:=Tryz.zeroValue4
  t5:=Tryz.underlying5
  a5:=Tryz.isAgg5
  z5:=Tryz.sizeOf5
  v5:=Tryz.zeroValue5
  t9:=Tryz.underlying9
  a9:=Tryz.isAgg9
  z9:=Tryz.sizeOf9
  v9:=Tryz.zeroValue9
  t22:=Tryz.underlying57
  a22:=Tryz.isAgg57
  z22:=Tryz.sizeOf57
  v22:=Tryz.zeroValue57
  t25:=Tryz.underlying253
  a25:=Tryz.isAgg253
  z25:=Tryz.sizeOf253
  v25:=Tryz.zeroValue253
  t39:=Tryz.underlying102
  a39:=Tryz.isAgg102
  z39:=Tryz.sizeOf102
  v39:=Tryz.zeroValue102
  t45:=Tryz.underlying244
  a45:=Tryz.isAgg244
  z45:=Tryz.sizeOf244
  v45:=Tryz.zeroValue244
  t46:=Tryz.underlying245
  a46:=Tryz.isAgg245
  z46:=Tryz.sizeOf245
  v46:=Tryz.zeroValue245
  t50:=Tryz.underlying65
  a50:=Tryz.isAgg65
  z50:=Tryz.sizeOf65
  v50:=Tryz.zeroValue65
  t53:=Tryz.underlying100
  a53:=Tryz.isAgg100
  z53:=Tryz.sizeOf100
  v53:=Tryz.zeroValue100
  t55:=Tryz.underlying131
  a55:=Tryz.isAgg131
  z55:=Tryz.sizeOf131
  v55:=Tryz.zeroValue131
  t66:=Tryz.underlying267
  a66:=Tryz.isAgg267
  z66:=Tryz.sizeOf267
  v66:=Tryz.zeroValue267
  t70:=Tryz.underlying271
  a70:=Tryz.isAgg271
  z70:=Tryz.sizeOf271
  v70:=Tryz.zeroValue271
  t76:=Tryz.underlying290
  a76:=Tryz.isAgg290
  z76:=Tryz.sizeOf290
  v76:=Tryz.zeroValue290
  t77:=Tryz.underlying203
  a77:=Tryz.isAgg203
  z77:=Tryz.sizeOf203
  v77:=Tryz.zeroValue203 }
def Tryz.delA_ren:Go.Shelf.Ren:=⟨fun | 5=>128 | n=>n,fun | 23=>134 | 26=>3 | 24=>3 | 27=>199 | 0=>0 | 4=>4 | n=>n,fun | n=>n⟩
theorem Tryz.delA:Go.Proofs.SlLaysDf.n5 Tryz.prog Tryz.delA_ren:={
  mixed:=by kernel_rfl
  f5:=⟨Tryz.f128.name,by decide,Tryz.func128.trans (congrArg some (by kernel_rfl))⟩
  t0:=Tryz.underlying0
  a0:=Tryz.isAgg0
  z0:=Tryz.sizeOf0
  v0:=Tryz.zeroValue0
  t4:=Tryz.underlying4
  a4:=Tryz.isAgg4
  z4:=Tryz.sizeOf4
  v4:=Tryz.zeroValue4
  t23:=Tryz.underlying134
  a23:=Tryz.isAgg134
  z23:=Tryz.sizeOf134
  v23:=Tryz.zeroValue134
  a24:=Tryz.isAgg3
  z24:=Tryz.sizeOf3
  a26:=Tryz.isAgg3
  z26:=Tryz.sizeOf3
  t27:=Tryz.underlying199
  a27:=Tryz.isAgg199
  z27:=Tryz.sizeOf199
  v27:=Tryz.zeroValue199 }
end Go.Proofs
