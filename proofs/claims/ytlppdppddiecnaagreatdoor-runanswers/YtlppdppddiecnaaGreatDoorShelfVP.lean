/-
  The library's functions that the program calls (slices.SortFunc, slices.Sort, maps.DeleteFunc), laid at this program: that each body is the one that its contract was proved of. No walk.
-/
import Derived.Shelf.SlSortCmp.NoneTotal
import Derived.Shelf.SlMaps.DeleteFunc
import Derived.Shelf.SortM.Plain
import Derived.Shelf.SortM.SortNone
import Derived.Test.YtlppdppddiecnaaGreatDoorProg
namespace Go.Proofs
open Go.Shelf
def Tryz.sortV_ren:Go.Shelf.Ren:=⟨fun | 6=>179 | 15=>140 | 14=>207 | 28=>174 | 29=>175 | 20=>217 | 21=>218 | 22=>219 | 23=>220 | 24=>221 | 25=>222 | 26=>223 | 27=>224 | 46=>227 | 47=>200 | 48=>201 | 49=>228 | 50=>229 | 57=>230 | n=>n,fun | 22=>50 | 24=>83 | 25=>250 | 3=>3 | 39=>191 | 0=>0 | 53=>116 | 55=>124 | 4=>4 | 46=>242 | 45=>241 | 50=>58 | 5=>5 | 9=>9 | 66=>264 | 70=>268 | 76=>287 | 77=>199 | n=>n,fun | n=>n⟩
theorem Tryz.sortV:Go.Proofs.SlLaysF0.n6 Tryz.prog Tryz.sortV_ren:={
  mixed:=by kernel_rfl
  f6:=⟨Tryz.f179.name,by decide,Tryz.func179.trans (congrArg some (by kernel_rfl))⟩
  f14:=⟨Tryz.f207.name,by decide,Tryz.func207.trans (congrArg some (by kernel_rfl))⟩
  f15:=Tryz.func140.trans (congrArg some (by kernel_rfl))
  f20:=⟨Tryz.f217.name,by decide,Tryz.func217.trans (congrArg some (by kernel_rfl))⟩
  f21:=⟨Tryz.f218.name,by decide,Tryz.func218.trans (congrArg some (by kernel_rfl))⟩
  f22:=⟨Tryz.f219.name,by decide,Tryz.func219.trans (congrArg some (by kernel_rfl))⟩
  f23:=⟨Tryz.f220.name,by decide,Tryz.func220.trans (congrArg some (by kernel_rfl))⟩
  f24:=⟨Tryz.f221.name,by decide,Tryz.func221.trans (congrArg some (by kernel_rfl))⟩
  f25:=⟨Tryz.f222.name,by decide,Tryz.func222.trans (congrArg some (by kernel_rfl))⟩
  f26:=⟨Tryz.f223.name,by decide,Tryz.func223.trans (congrArg some (by kernel_rfl))⟩
  f27:=⟨Tryz.f224.name,by decide,Tryz.func224.trans (congrArg some (by kernel_rfl))⟩
  f28:=Tryz.func174.trans (congrArg some (by kernel_rfl))
  f29:=Tryz.func175.trans (congrArg some (by kernel_rfl))
  f46:=⟨Tryz.f227.name,by decide,Tryz.func227.trans (congrArg some (by kernel_rfl))⟩
  f47:=Tryz.func200.trans (congrArg some (by kernel_rfl))
  f48:=Tryz.func201.trans (congrArg some (by kernel_rfl))
  f49:=⟨Tryz.f228.name,by decide,Tryz.func228.trans (congrArg some (by kernel_rfl))⟩
  f50:=⟨Tryz.f229.name,by decide,Tryz.func229.trans (congrArg some (by kernel_rfl))⟩
  f57:=⟨Tryz.f230.name,by decide,Tryz.func230.trans (congrArg some (by kernel_rfl))⟩
  t0:=Tryz.underlying0
  a0:=Tryz.isAgg0
  z0:=Tryz.sizeOf0
  v0:=Tryz.zeroValue0
  t3:=Tryz.underlying3
  a3:=Tryz.isAgg3
  z3:=Tryz.sizeOf3
  v3:=Tryz.zeroValue3
  t4:=Tryz.underlying4
  a4:=Tryz.isAgg4
  z4:=Tryz.sizeOf4
  v4:=Tryz.zeroValue4
  t5:=Tryz.underlying5
  a5:=Tryz.isAgg5
  z5:=Tryz.sizeOf5
  v5:=Tryz.zeroValue5
  t9:=Tryz.underlying9
  a9:=Tryz.isAgg9
  z9:=Tryz.sizeOf9
  v9:=Tryz.zeroValue9
  t22:=Tryz.underlying50
  a22:=Tryz.isAgg50
  z22:=Tryz.sizeOf50
  v22:=Tryz.zeroValue50
  t25:=Tryz.underlying250
  a25:=Tryz.isAgg250
  z25:=Tryz.sizeOf250
  v25:=Tryz.zeroValue250
  t39:=Tryz.underlying191
  a39:=Tryz.isAgg191
  z39:=Tryz.sizeOf191
  v39:=Tryz.zeroValue191
  t45:=Tryz.underlying241
  a45:=Tryz.isAgg241
  z45:=Tryz.sizeOf241
  v45:=Tryz.zeroValue241
  t46:=Tryz.underlying242
  a46:=Tryz.isAgg242
  z46:=Tryz.sizeOf242
  v46:=Tryz.zeroValue242
  t50:=Tryz.underlying58
  a50:=Tryz.isAgg58
  z50:=Tryz.sizeOf58
  v50:=Tryz.zeroValue58
  t53:=Tryz.underlying116
  a53:=Tryz.isAgg116
  z53:=Tryz.sizeOf116
  v53:=Tryz.zeroValue116
  t55:=Tryz.underlying124
  a55:=Tryz.isAgg124
  z55:=Tryz.sizeOf124
  v55:=Tryz.zeroValue124
  t66:=Tryz.underlying264
  a66:=Tryz.isAgg264
  z66:=Tryz.sizeOf264
  v66:=Tryz.zeroValue264
  t70:=Tryz.underlying268
  a70:=Tryz.isAgg268
  z70:=Tryz.sizeOf268
  v70:=Tryz.zeroValue268
  t76:=Tryz.underlying287
  a76:=Tryz.isAgg287
  z76:=Tryz.sizeOf287
  v76:=Tryz.zeroValue287
  t77:=Tryz.underlying199
  a77:=Tryz.isAgg199
  z77:=Tryz.sizeOf199
  v77:=Tryz.zeroValue199 }
def Tryz.delA_ren:Go.Shelf.Ren:=⟨fun | 5=>122 | n=>n,fun | 23=>127 | 26=>3 | 24=>3 | 27=>194 | 0=>0 | 4=>4 | n=>n,fun | n=>n⟩
theorem Tryz.delA:Go.Proofs.SlLaysDf.n5 Tryz.prog Tryz.delA_ren:={
  mixed:=by kernel_rfl
  f5:=⟨Tryz.f122.name,by decide,Tryz.func122.trans (congrArg some (by kernel_rfl))⟩
  t0:=Tryz.underlying0
  a0:=Tryz.isAgg0
  z0:=Tryz.sizeOf0
  v0:=Tryz.zeroValue0
  t4:=Tryz.underlying4
  a4:=Tryz.isAgg4
  z4:=Tryz.sizeOf4
  v4:=Tryz.zeroValue4
  t23:=Tryz.underlying127
  a23:=Tryz.isAgg127
  z23:=Tryz.sizeOf127
  v23:=Tryz.zeroValue127
  a24:=Tryz.isAgg3
  z24:=Tryz.sizeOf3
  a26:=Tryz.isAgg3
  z26:=Tryz.sizeOf3
  t27:=Tryz.underlying194
  a27:=Tryz.isAgg194
  z27:=Tryz.sizeOf194
  v27:=Tryz.zeroValue194 }
end Go.Proofs
