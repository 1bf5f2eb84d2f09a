/-
  The library's functions that the program calls (slices.Sort), laid at this program: that each body is the one that its contract was proved of. No walk.
-/
import Derived.Shelf.SortM.Plain
import Derived.Shelf.SortM.SortNone
import Derived.Test.YtlppdppddiecnaaGreatDoorProg
namespace Go.Proofs
open Go.Shelf
def Tryz.sortA_ren:Go.Shelf.Ren:=⟨fun | 5=>115 | 8=>140 | 7=>139 | 19=>174 | 20=>175 | 10=>165 | 11=>166 | 12=>167 | 13=>168 | 14=>169 | 15=>170 | 16=>171 | 17=>172 | 18=>173 | 30=>199 | 31=>200 | 32=>201 | 33=>202 | 34=>203 | 35=>204 | 40=>216 | n=>n,fun | 23=>47 | 25=>3 | 3=>3 | 32=>191 | 22=>47 | 0=>0 | 44=>116 | 46=>124 | 4=>4 | 36=>242 | 35=>241 | 41=>58 | 5=>5 | 9=>9 | 53=>264 | 57=>268 | 63=>287 | 64=>199 | n=>n,fun | n=>n⟩
theorem Tryz.sortA:Go.Proofs.SlLaysM.n5 Tryz.prog Tryz.sortA_ren:={
  mixed:=by kernel_rfl
  f5:=⟨Tryz.f115.name,by decide,Tryz.func115.trans (congrArg some (by kernel_rfl))⟩
  f7:=⟨Tryz.f139.name,by decide,Tryz.func139.trans (congrArg some (by kernel_rfl))⟩
  f8:=Tryz.func140.trans (congrArg some (by kernel_rfl))
  f10:=⟨Tryz.f165.name,by decide,Tryz.func165.trans (congrArg some (by kernel_rfl))⟩
  f11:=⟨Tryz.f166.name,by decide,Tryz.func166.trans (congrArg some (by kernel_rfl))⟩
  f12:=⟨Tryz.f167.name,by decide,Tryz.func167.trans (congrArg some (by kernel_rfl))⟩
  f13:=⟨Tryz.f168.name,by decide,Tryz.func168.trans (congrArg some (by kernel_rfl))⟩
  f14:=⟨Tryz.f169.name,by decide,Tryz.func169.trans (congrArg some (by kernel_rfl))⟩
  f15:=⟨Tryz.f170.name,by decide,Tryz.func170.trans (congrArg some (by kernel_rfl))⟩
  f16:=⟨Tryz.f171.name,by decide,Tryz.func171.trans (congrArg some (by kernel_rfl))⟩
  f17:=⟨Tryz.f172.name,by decide,Tryz.func172.trans (congrArg some (by kernel_rfl))⟩
  f18:=⟨Tryz.f173.name,by decide,Tryz.func173.trans (congrArg some (by kernel_rfl))⟩
  f19:=Tryz.func174.trans (congrArg some (by kernel_rfl))
  f20:=Tryz.func175.trans (congrArg some (by kernel_rfl))
  f30:=⟨Tryz.f199.name,by decide,Tryz.func199.trans (congrArg some (by kernel_rfl))⟩
  f31:=Tryz.func200.trans (congrArg some (by kernel_rfl))
  f32:=Tryz.func201.trans (congrArg some (by kernel_rfl))
  f33:=⟨Tryz.f202.name,by decide,Tryz.func202.trans (congrArg some (by kernel_rfl))⟩
  f34:=⟨Tryz.f203.name,by decide,Tryz.func203.trans (congrArg some (by kernel_rfl))⟩
  f35:=⟨Tryz.f204.name,by decide,Tryz.func204.trans (congrArg some (by kernel_rfl))⟩
  f40:=⟨Tryz.f216.name,by decide,Tryz.func216.trans (congrArg some (by kernel_rfl))⟩
  t0:=Tryz.underlying0
  a0:=Tryz.isAgg0
  z0:=Tryz.sizeOf0
  v0:=Tryz.zeroValue0
  t3:=Tryz.underlying3
  a3:=Tryz.isAgg3
  z3:=Tryz.sizeOf3
  v3:=Tryz.zeroValue3
  t4:=Tryz.underlying4
  a4:=Tryz.isAgg4
  z4:=Tryz.sizeOf4
  v4:=Tryz.zeroValue4
  t5:=Tryz.underlying5
  a5:=Tryz.isAgg5
  z5:=Tryz.sizeOf5
  v5:=Tryz.zeroValue5
  t9:=Tryz.underlying9
  a9:=Tryz.isAgg9
  z9:=Tryz.sizeOf9
  v9:=Tryz.zeroValue9
  t22:=Tryz.underlying47
  a22:=Tryz.isAgg47
  z22:=Tryz.sizeOf47
  v22:=Tryz.zeroValue47
  t23:=Tryz.underlying47
  a23:=Tryz.isAgg47
  z23:=Tryz.sizeOf47
  v23:=Tryz.zeroValue47
  t25:=Tryz.underlying3
  a25:=Tryz.isAgg3
  z25:=Tryz.sizeOf3
  v25:=Tryz.zeroValue3
  t32:=Tryz.underlying191
  a32:=Tryz.isAgg191
  z32:=Tryz.sizeOf191
  v32:=Tryz.zeroValue191
  t35:=Tryz.underlying241
  a35:=Tryz.isAgg241
  z35:=Tryz.sizeOf241
  v35:=Tryz.zeroValue241
  t36:=Tryz.underlying242
  a36:=Tryz.isAgg242
  z36:=Tryz.sizeOf242
  v36:=Tryz.zeroValue242
  t41:=Tryz.underlying58
  a41:=Tryz.isAgg58
  z41:=Tryz.sizeOf58
  v41:=Tryz.zeroValue58
  t44:=Tryz.underlying116
  a44:=Tryz.isAgg116
  z44:=Tryz.sizeOf116
  v44:=Tryz.zeroValue116
  t46:=Tryz.underlying124
  a46:=Tryz.isAgg124
  z46:=Tryz.sizeOf124
  v46:=Tryz.zeroValue124
  t53:=Tryz.underlying264
  a53:=Tryz.isAgg264
  z53:=Tryz.sizeOf264
  v53:=Tryz.zeroValue264
  t57:=Tryz.underlying268
  a57:=Tryz.isAgg268
  z57:=Tryz.sizeOf268
  v57:=Tryz.zeroValue268
  t63:=Tryz.underlying287
  a63:=Tryz.isAgg287
  z63:=Tryz.sizeOf287
  v63:=Tryz.zeroValue287
  t64:=Tryz.underlying199
  a64:=Tryz.isAgg199
  z64:=Tryz.sizeOf199
  v64:=Tryz.zeroValue199 }
end Go.Proofs
