/- strings.Builder's WRITERS, laid by hand (the kit's command lays the others). Own work of the verifier. -/
import Derived.Shelf.Strings.BuilderK
import Derived.Test.YtlgkfeeclgcgbaaGreatDoorProg
import Derived.Test.YtlgkfeeclgcgbaaGreatDoorShelf
namespace Go.Proofs
open Go.Shelf
def Tryz.wr_ren:Go.Shelf.Ren:=⟨fun | 167=>252 | 240=>253 | 276=>254 | n=>n,fun | 70=>350 | 72=>352 | 37=>146 | 75=>215 | 80=>138 | 164=>357 | n=>n,fun | n=>n⟩
theorem Tryz.wlays167:Go.Proofs.Lays.n167 Tryz.prog Tryz.wr_ren:={
 mixed:=by kernel_rfl
 f167:=Tryz.func252.trans (congrArg some (by kernel_rfl))
 f240:=Tryz.func253.trans (congrArg some (by kernel_rfl))
 f276:=Tryz.func254.trans (congrArg some (by kernel_rfl))
 t0:=Tryz.underlying0
 a0:=Tryz.isAgg0
 z0:=Tryz.sizeOf0
 v0:=Tryz.zeroValue0
 t4:=Tryz.underlying4
 a4:=Tryz.isAgg4
 z4:=Tryz.sizeOf4
 v4:=Tryz.zeroValue4
 t5:=Tryz.underlying5
 a5:=Tryz.isAgg5
 z5:=Tryz.sizeOf5
 v5:=Tryz.zeroValue5
 t9:=Tryz.underlying9
 a9:=Tryz.isAgg9
 z9:=Tryz.sizeOf9
 v9:=Tryz.zeroValue9
 t20:=Tryz.underlying20
 a20:=Tryz.isAgg20
 z20:=Tryz.sizeOf20
 v20:=Tryz.zeroValue20
 t37:=Tryz.underlying146
 a37:=Tryz.isAgg146
 z37:=Tryz.sizeOf146
 v37:=Tryz.zeroValue146
 t70:=Tryz.underlying350
 a70:=Tryz.isAgg350
 z70:=Tryz.sizeOf350
 v70:=Tryz.zeroValue350
 t72:=Tryz.underlying352
 a72:=Tryz.isAgg352
 z72:=Tryz.sizeOf352
 v72:=Tryz.zeroValue352
 t75:=Tryz.underlying215
 a75:=Tryz.isAgg215
 z75:=Tryz.sizeOf215
 v75:=Tryz.zeroValue215
 t164:=Tryz.underlying357
 a164:=Tryz.isAgg357
 z164:=Tryz.sizeOf357
 v164:=Tryz.zeroValue357 }
theorem Tryz.wextra:Builder.Extra Tryz.prog Tryz.wr_ren:={
 sizeBuilder:=by kernel_rfl
 liesBuilder:=by kernel_rfl
 t5:=Tryz.underlying5
 a5:=Tryz.isAgg5
 z5:=Tryz.sizeOf5
 v5:=Tryz.zeroValue5
 infoByte:=by kernel_rfl
 cellsByte:=by kernel_rfl
 sizeByte:=by kernel_rfl
 neB5:=by decide }
open Go.RowKit in
open Go.RowKit in
theorem Tryz.wbyte (B b:Nat) (bs:List Value) (c:Int) (w:World) (h:Lib.IsBuilderF 352 5 B b bs w) (hlen:bs.length+1≤140737488355328) (hBw:B≤w.heap.size) :
  Calls Tryz.prog 252 #[.pointer (some ⟨b,0,none⟩),.int .u8 c] w fun e w'=>e=.returned .nilIface∧(Lib.BuilderAtF 352 5 B b (.pointer (some ⟨b,0,none⟩)) (bs++[.int .u8 c]) w'∧Below B w w'∧Lib.OthersKept 5 (some b) w w'):=Any.Builder_WriteByte_k Tryz.wlays167 Tryz.wextra B b bs c w h hlen hBw
end Go.Proofs
