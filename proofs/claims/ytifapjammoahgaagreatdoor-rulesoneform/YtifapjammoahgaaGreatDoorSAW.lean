/- strings.Builder's WRITERS, laid by hand (the kit's command lays the others). Own work of the verifier. -/
import Derived.Shelf.Strings.BuilderK
import Derived.Test.YtifapjammoahgaaGreatDoorProg
import Derived.Test.YtifapjammoahgaaGreatDoorShelf
namespace Go.Proofs
open Go.Shelf
def Tryz.wr_ren:Go.Shelf.Ren:=⟨fun | 166=>25 | 167=>85 | 240=>35 | 276=>56 | n=>n,fun | 70=>50 | 72=>53 | 37=>51 | 75=>79 | 80=>56 | 164=>118 | n=>n,fun | n=>n⟩
theorem Tryz.wlays166:Go.Proofs.Lays.n166 Tryz.prog Tryz.wr_ren:={
  mixed:=by kernel_rfl
  f166:=Tryz.func25.trans (congrArg some (by kernel_rfl))
  f240:=Tryz.func35.trans (congrArg some (by kernel_rfl))
  f276:=Tryz.func56.trans (congrArg some (by kernel_rfl))
  t0:=Tryz.underlying0
  a0:=Tryz.isAgg0
  z0:=Tryz.sizeOf0
  v0:=Tryz.zeroValue0
  t3:=Tryz.underlying3
  a3:=Tryz.isAgg3
  z3:=Tryz.sizeOf3
  v3:=Tryz.zeroValue3
  t4:=Tryz.underlying4
  a4:=Tryz.isAgg4
  z4:=Tryz.sizeOf4
  v4:=Tryz.zeroValue4
  t9:=Tryz.underlying9
  a9:=Tryz.isAgg9
  z9:=Tryz.sizeOf9
  v9:=Tryz.zeroValue9
  t20:=Tryz.underlying20
  a20:=Tryz.isAgg20
  z20:=Tryz.sizeOf20
  v20:=Tryz.zeroValue20
  t37:=Tryz.underlying51
  a37:=Tryz.isAgg51
  z37:=Tryz.sizeOf51
  v37:=Tryz.zeroValue51
  t70:=Tryz.underlying50
  a70:=Tryz.isAgg50
  z70:=Tryz.sizeOf50
  v70:=Tryz.zeroValue50
  t72:=Tryz.underlying53
  a72:=Tryz.isAgg53
  z72:=Tryz.sizeOf53
  v72:=Tryz.zeroValue53
  t75:=Tryz.underlying79
  a75:=Tryz.isAgg79
  z75:=Tryz.sizeOf79
  v75:=Tryz.zeroValue79
  t164:=Tryz.underlying118
  a164:=Tryz.isAgg118
  z164:=Tryz.sizeOf118
  v164:=Tryz.zeroValue118 }
theorem Tryz.wlays167:Go.Proofs.Lays.n167 Tryz.prog Tryz.wr_ren:={
  mixed:=by kernel_rfl
  f167:=Tryz.func85.trans (congrArg some (by kernel_rfl))
  f240:=Tryz.func35.trans (congrArg some (by kernel_rfl))
  f276:=Tryz.func56.trans (congrArg some (by kernel_rfl))
  t0:=Tryz.underlying0
  a0:=Tryz.isAgg0
  z0:=Tryz.sizeOf0
  v0:=Tryz.zeroValue0
  t4:=Tryz.underlying4
  a4:=Tryz.isAgg4
  z4:=Tryz.sizeOf4
  v4:=Tryz.zeroValue4
  t5:=Tryz.underlying5
  a5:=Tryz.isAgg5
  z5:=Tryz.sizeOf5
  v5:=Tryz.zeroValue5
  t9:=Tryz.underlying9
  a9:=Tryz.isAgg9
  z9:=Tryz.sizeOf9
  v9:=Tryz.zeroValue9
  t20:=Tryz.underlying20
  a20:=Tryz.isAgg20
  z20:=Tryz.sizeOf20
  v20:=Tryz.zeroValue20
  t37:=Tryz.underlying51
  a37:=Tryz.isAgg51
  z37:=Tryz.sizeOf51
  v37:=Tryz.zeroValue51
  t70:=Tryz.underlying50
  a70:=Tryz.isAgg50
  z70:=Tryz.sizeOf50
  v70:=Tryz.zeroValue50
  t72:=Tryz.underlying53
  a72:=Tryz.isAgg53
  z72:=Tryz.sizeOf53
  v72:=Tryz.zeroValue53
  t75:=Tryz.underlying79
  a75:=Tryz.isAgg79
  z75:=Tryz.sizeOf79
  v75:=Tryz.zeroValue79
  t164:=Tryz.underlying118
  a164:=Tryz.isAgg118
  z164:=Tryz.sizeOf118
  v164:=Tryz.zeroValue118 }
theorem Tryz.wextra:Builder.Extra Tryz.prog Tryz.wr_ren:={
  sizeBuilder:=by kernel_rfl
  liesBuilder:=by kernel_rfl
  t5:=Tryz.underlying5
  a5:=Tryz.isAgg5
  z5:=Tryz.sizeOf5
  v5:=Tryz.zeroValue5
  infoByte:=by kernel_rfl
  cellsByte:=by kernel_rfl
  sizeByte:=by kernel_rfl
  neB5:=by decide }
open Go.RowKit in
theorem Tryz.wbyte (B b:Nat) (bs:List Value) (c:Int) (w:World) (h:Lib.IsBuilderF 53 5 B b bs w) (hlen:bs.length+1≤140737488355328) (hBw:B≤w.heap.size) :
    Calls Tryz.prog 85 #[.pointer (some ⟨b,0,none⟩),.int .u8 c] w fun e w'=>e=.returned .nilIface∧(Lib.BuilderAtF 53 5 B b (.pointer (some ⟨b,0,none⟩)) (bs++[.int .u8 c]) w'∧Below B w w'∧Lib.OthersKept 5 (some b) w w'):=Any.Builder_WriteByte_k Tryz.wlays167 Tryz.wextra B b bs c w h hlen hBw
open Go.RowKit in
theorem Tryz.wstring (B b:Nat) (bs:List Value) (s:ByteArray) (w:World) (h:Lib.IsBuilderF 53 5 B b bs w) (hlen:bs.length+s.size≤140737488355328) (hBw:B≤w.heap.size) :
    Calls Tryz.prog 25 #[.pointer (some ⟨b,0,none⟩),.string s] w fun e w'=>e=.returned (.tuple #[.int .i64 s.size,.nilIface])∧(Lib.BuilderAtF 53 5 B b (.pointer (some ⟨b,0,none⟩)) (bs++Lib.strCells s) w'∧Below B w w'∧Lib.OthersKept 5 (some b) w w'):=Any.Builder_WriteString_k Tryz.wlays166 Tryz.wextra B b bs s w h hlen hBw
end Go.Proofs
