/- Own work of the verifier, laid by the shelf. -/
import Derived.Shelf.SlGeneric
import Derived.Shelf.SlSortCmp.WholeK
import Derived.Shelf.SlSortCmp.NoneTotal
import Derived.Shelf.Spec.SlicesGrow
import Derived.Ground.SlsfProg
import Derived.Ground.Names8Prog
import Derived.Test.YtlgkfeeclgcgbaaGreatDoorProg
namespace Go.Proofs
open Go.Shelf
def Tryz.sortC_ren : Go.Shelf.Ren := ⟨fun | 6 => 321 | 15 => 327 | 14 => 326 | 28 => 337 | 29 => 198 | 20 => 329 | 21 => 330 | 22 => 331 | 23 => 332 | 24 => 333 | 25 => 334 | 26 => 335 | 27 => 336 | 46 => 338 | 47 => 339 | 48 => 340 | 49 => 341 | 50 => 342 | 57 => 343 | n => n, fun | 22 => 84 | 24 => 174 | 25 => 418 | 3 => 3 | 39 => 226 | 0 => 0 | 53 => 274 | 55 => 35 | 4 => 4 | 46 => 425 | 45 => 424 | 50 => 429 | 5 => 5 | 9 => 9 | 66 => 431 | 70 => 434 | 76 => 436 | 77 => 301 | n => n, fun | n => n⟩
theorem Tryz.sortC : Go.Proofs.SlLaysF0.n6 Tryz.prog Tryz.sortC_ren := {
  mixed := by kernel_rfl
  f6 := ⟨Tryz.f321.name, by decide, Tryz.func321.trans (congrArg some (by kernel_rfl))⟩
  f14 := ⟨Tryz.f326.name, by decide, Tryz.func326.trans (congrArg some (by kernel_rfl))⟩
  f15 := Tryz.func327.trans (congrArg some (by kernel_rfl))
  f20 := ⟨Tryz.f329.name, by decide, Tryz.func329.trans (congrArg some (by kernel_rfl))⟩
  f21 := ⟨Tryz.f330.name, by decide, Tryz.func330.trans (congrArg some (by kernel_rfl))⟩
  f22 := ⟨Tryz.f331.name, by decide, Tryz.func331.trans (congrArg some (by kernel_rfl))⟩
  f23 := ⟨Tryz.f332.name, by decide, Tryz.func332.trans (congrArg some (by kernel_rfl))⟩
  f24 := ⟨Tryz.f333.name, by decide, Tryz.func333.trans (congrArg some (by kernel_rfl))⟩
  f25 := ⟨Tryz.f334.name, by decide, Tryz.func334.trans (congrArg some (by kernel_rfl))⟩
  f26 := ⟨Tryz.f335.name, by decide, Tryz.func335.trans (congrArg some (by kernel_rfl))⟩
  f27 := ⟨Tryz.f336.name, by decide, Tryz.func336.trans (congrArg some (by kernel_rfl))⟩
  f28 := Tryz.func337.trans (congrArg some (by kernel_rfl))
  f29 := Tryz.func198.trans (congrArg some (by kernel_rfl))
  f46 := ⟨Tryz.f338.name, by decide, Tryz.func338.trans (congrArg some (by kernel_rfl))⟩
  f47 := Tryz.func339.trans (congrArg some (by kernel_rfl))
  f48 := Tryz.func340.trans (congrArg some (by kernel_rfl))
  f49 := ⟨Tryz.f341.name, by decide, Tryz.func341.trans (congrArg some (by kernel_rfl))⟩
  f50 := ⟨Tryz.f342.name, by decide, Tryz.func342.trans (congrArg some (by kernel_rfl))⟩
  f57 := ⟨Tryz.f343.name, by decide, Tryz.func343.trans (congrArg some (by kernel_rfl))⟩
  t0 := Tryz.underlying0
  a0 := Tryz.isAgg0
  z0 := Tryz.sizeOf0
  v0 := Tryz.zeroValue0
  t3 := Tryz.underlying3
  a3 := Tryz.isAgg3
  z3 := Tryz.sizeOf3
  v3 := Tryz.zeroValue3
  t4 := Tryz.underlying4
  a4 := Tryz.isAgg4
  z4 := Tryz.sizeOf4
  v4 := Tryz.zeroValue4
  t5 := Tryz.underlying5
  a5 := Tryz.isAgg5
  z5 := Tryz.sizeOf5
  v5 := Tryz.zeroValue5
  t9 := Tryz.underlying9
  a9 := Tryz.isAgg9
  z9 := Tryz.sizeOf9
  v9 := Tryz.zeroValue9
  t22 := Tryz.underlying84
  a22 := Tryz.isAgg84
  z22 := Tryz.sizeOf84
  v22 := Tryz.zeroValue84
  t25 := Tryz.underlying418
  a25 := Tryz.isAgg418
  z25 := Tryz.sizeOf418
  v25 := Tryz.zeroValue418
  t39 := Tryz.underlying226
  a39 := Tryz.isAgg226
  z39 := Tryz.sizeOf226
  v39 := Tryz.zeroValue226
  t45 := Tryz.underlying424
  a45 := Tryz.isAgg424
  z45 := Tryz.sizeOf424
  v45 := Tryz.zeroValue424
  t46 := Tryz.underlying425
  a46 := Tryz.isAgg425
  z46 := Tryz.sizeOf425
  v46 := Tryz.zeroValue425
  t50 := Tryz.underlying429
  a50 := Tryz.isAgg429
  z50 := Tryz.sizeOf429
  v50 := Tryz.zeroValue429
  t53 := Tryz.underlying274
  a53 := Tryz.isAgg274
  z53 := Tryz.sizeOf274
  v53 := Tryz.zeroValue274
  t55 := Tryz.underlying35
  a55 := Tryz.isAgg35
  z55 := Tryz.sizeOf35
  v55 := Tryz.zeroValue35
  t66 := Tryz.underlying431
  a66 := Tryz.isAgg431
  z66 := Tryz.sizeOf431
  v66 := Tryz.zeroValue431
  t70 := Tryz.underlying434
  a70 := Tryz.isAgg434
  z70 := Tryz.sizeOf434
  v70 := Tryz.zeroValue434
  t76 := Tryz.underlying436
  a76 := Tryz.isAgg436
  z76 := Tryz.sizeOf436
  v76 := Tryz.zeroValue436
  t77 := Tryz.underlying301
  a77 := Tryz.isAgg301
  z77 := Tryz.sizeOf301
  v77 := Tryz.zeroValue301 }
end Go.Proofs
