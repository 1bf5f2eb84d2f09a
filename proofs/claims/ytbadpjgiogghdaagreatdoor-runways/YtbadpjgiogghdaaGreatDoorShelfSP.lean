/-
  The library's functions that the program calls (slices.Sort), laid at this program: that each body is the one that its contract was proved of. No walk.
-/
import Derived.Shelf.SortM.Plain
import Derived.Shelf.SortM.SortNone
import Derived.Test.YtbadpjgiogghdaaGreatDoorProg
namespace Go.Proofs
open Go.Shelf
def Tryz.sortA_ren:Go.Shelf.Ren:=⟨fun | 5=>121 | 8=>145 | 7=>144 | 19=>179 | 20=>180 | 10=>170 | 11=>171 | 12=>172 | 13=>173 | 14=>174 | 15=>175 | 16=>176 | 17=>177 | 18=>178 | 30=>204 | 31=>205 | 32=>206 | 33=>207 | 34=>208 | 35=>209 | 40=>221 | n=>n,fun | 23=>29 | 25=>3 | 3=>3 | 32=>102 | 22=>29 | 0=>0 | 44=>100 | 46=>131 | 4=>4 | 36=>245 | 35=>244 | 41=>65 | 5=>5 | 9=>9 | 53=>267 | 57=>271 | 63=>290 | 64=>203 | n=>n,fun | n=>n⟩
theorem Tryz.sortA:Go.Proofs.SlLaysM.n5 Tryz.prog Tryz.sortA_ren:={
  mixed:=by kernel_rfl
  f5:=⟨Tryz.f121.name,by decide,Tryz.func121.trans (congrArg some (by kernel_rfl))⟩
  f7:=⟨Tryz.f144.name,by decide,Tryz.func144.trans (congrArg some (by kernel_rfl))⟩
  f8:=Tryz.func145.trans (congrArg some (by kernel_rfl))
  f10:=⟨Tryz.f170.name,by decide,Tryz.func170.trans (congrArg some (by kernel_rfl))⟩
  f11:=⟨Tryz.f171.name,by decide,Tryz.func171.trans (congrArg some (by kernel_rfl))⟩
  f12:=⟨Tryz.f172.name,by decide,Tryz.func172.trans (congrArg some (by kernel_rfl))⟩
  f13:=⟨Tryz.f173.name,by decide,Tryz.func173.trans (congrArg some (by kernel_rfl))⟩
  f14:=⟨Tryz.f174.name,by decide,Tryz.func174.trans (congrArg some (by kernel_rfl))⟩
  f15:=⟨Tryz.f175.name,by decide,Tryz.func175.trans (congrArg some (by kernel_rfl))⟩
  f16:=⟨Tryz.f176.name,by decide,Tryz.func176.trans (congrArg some (by kernel_rfl))⟩
  f17:=⟨Tryz.f177.name,by decide,Tryz.func177.trans (congrArg some (by kernel_rfl))⟩
  f18:=⟨Tryz.f178.name,by decide,Tryz.func178.trans (congrArg some (by kernel_rfl))⟩
  f19:=Tryz.func179.trans (congrArg some (by kernel_rfl))
  f20:=Tryz.func180.trans (congrArg some (by kernel_rfl))
  f30:=⟨Tryz.f204.name,by decide,Tryz.func204.trans (congrArg some (by kernel_rfl))⟩
  f31:=Tryz.func205.trans (congrArg some (by kernel_rfl))
  f32:=Tryz.func206.trans (congrArg some (by kernel_rfl))
  f33:=⟨Tryz.f207.name,by decide,Tryz.func207.trans (congrArg some (by kernel_rfl))⟩
  f34:=⟨Tryz.f208.name,by decide,Tryz.func208.trans (congrArg some (by kernel_rfl))⟩
  f35:=⟨Tryz.f209.name,by decide,Tryz.func209.trans (congrArg some (by kernel_rfl))⟩
  f40:=⟨Tryz.f221.name,by decide,Tryz.func221.trans (congrArg some (by kernel_rfl))⟩
  t0:=Tryz.underlying0
  a0:=Tryz.isAgg0
  z0:=Tryz.sizeOf0
  v0:=Tryz.zeroValue0
  t3:=Tryz.underlying3
  a3:=Tryz.isAgg3
  z3:=Tryz.sizeOf3
  v3:=Tryz.zeroValue3
  t4:=Tryz.underlying4
  a4:=Tryz.isAgg4
  z4:=Tryz.sizeOf4
  v4:=Tryz.zeroValue4
  t5:=Tryz.underlying5
  a5:=Tryz.isAgg5
  z5:=Tryz.sizeOf5
  v5:=Tryz.zeroValue5
  t9:=Tryz.underlying9
  a9:=Tryz.isAgg9
  z9:=Tryz.sizeOf9
  v9:=Tryz.zeroValue9
  t22:=Tryz.underlying29
  a22:=Tryz.isAgg29
  z22:=Tryz.sizeOf29
  v22:=Tryz.zeroValue29
  t23:=Tryz.underlying29
  a23:=Tryz.isAgg29
  z23:=Tryz.sizeOf29
  v23:=Tryz.zeroValue29
  t25:=Tryz.underlying3
  a25:=Tryz.isAgg3
  z25:=Tryz.sizeOf3
  v25:=Tryz.zeroValue3
  t32:=Tryz.underlying102
  a32:=Tryz.isAgg102
  z32:=Tryz.sizeOf102
  v32:=Tryz.zeroValue102
  t35:=Tryz.underlying244
  a35:=Tryz.isAgg244
  z35:=Tryz.sizeOf244
  v35:=Tryz.zeroValue244
  t36:=Tryz.underlying245
  a36:=Tryz.isAgg245
  z36:=Tryz.sizeOf245
  v36:=Tryz.zeroValue245
  t41:=Tryz.underlying65
  a41:=Tryz.isAgg65
  z41:=Tryz.sizeOf65
  v41:=Tryz.zeroValue65
  t44:=Tryz.underlying100
  a44:=Tryz.isAgg100
  z44:=Tryz.sizeOf100
  v44:=Tryz.zeroValue100
  t46:=Tryz.underlying131
  a46:=Tryz.isAgg131
  z46:=Tryz.sizeOf131
  v46:=Tryz.zeroValue131
  t53:=Tryz.underlying267
  a53:=Tryz.isAgg267
  z53:=Tryz.sizeOf267
  v53:=Tryz.zeroValue267
  t57:=Tryz.underlying271
  a57:=Tryz.isAgg271
  z57:=Tryz.sizeOf271
  v57:=Tryz.zeroValue271
  t63:=Tryz.underlying290
  a63:=Tryz.isAgg290
  z63:=Tryz.sizeOf290
  v63:=Tryz.zeroValue290
  t64:=Tryz.underlying203
  a64:=Tryz.isAgg203
  z64:=Tryz.sizeOf203
  v64:=Tryz.zeroValue203 }
end Go.Proofs
