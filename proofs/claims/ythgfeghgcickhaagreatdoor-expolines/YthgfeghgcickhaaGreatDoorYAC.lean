/- strings.Builder's WRITERS, laid by hand (the kit's command lays the others). Own work of the verifier. -/
import Derived.Shelf.Strings.BuilderK
import Derived.Test.YthgfeghgcickhaaGreatDoorProg
import Derived.Test.YthgfeghgcickhaaGreatDoorShelf
import Derived.Test.YthgfeghgcickhaaGreatDoorYAB
namespace Go.Proofs
open Go.Shelf
def Tryz.wr_ren : Go.Shelf.Ren := ⟨fun | 166 => 77 | 167 => 79 | 240 => 111 | 276 => 133 | n => n, fun | 70 => 77 | 72 => 79 | 37 => 27 | 75 => 111 | 80 => 81 | 164 => 158 | n => n, fun | n => n⟩
theorem Tryz.wlays166 : Go.Proofs.Lays.n166 Tryz.prog Tryz.wr_ren := {
  mixed := by kernel_rfl
  f166 := Tryz.func77.trans (congrArg some (by kernel_rfl))
  f240 := Tryz.func111.trans (congrArg some (by kernel_rfl))
  f276 := Tryz.func133.trans (congrArg some (by kernel_rfl))
  t0 := Tryz.underlying0
  a0 := Tryz.isAgg0
  z0 := Tryz.sizeOf0
  v0 := Tryz.zeroValue0
  t3 := Tryz.underlying3
  a3 := Tryz.isAgg3
  z3 := Tryz.sizeOf3
  v3 := Tryz.zeroValue3
  t4 := Tryz.underlying4
  a4 := Tryz.isAgg4
  z4 := Tryz.sizeOf4
  v4 := Tryz.zeroValue4
  t9 := Tryz.underlying9
  a9 := Tryz.isAgg9
  z9 := Tryz.sizeOf9
  v9 := Tryz.zeroValue9
  t20 := Tryz.underlying20
  a20 := Tryz.isAgg20
  z20 := Tryz.sizeOf20
  v20 := Tryz.zeroValue20
  t37 := Tryz.underlying27
  a37 := Tryz.isAgg27
  z37 := Tryz.sizeOf27
  v37 := Tryz.zeroValue27
  t70 := Tryz.underlying77
  a70 := Tryz.isAgg77
  z70 := Tryz.sizeOf77
  v70 := Tryz.zeroValue77
  t72 := Tryz.underlying79
  a72 := Tryz.isAgg79
  z72 := Tryz.sizeOf79
  v72 := Tryz.zeroValue79
  t75 := Tryz.underlying111
  a75 := Tryz.isAgg111
  z75 := Tryz.sizeOf111
  v75 := Tryz.zeroValue111
  t164 := Tryz.underlying158
  a164 := Tryz.isAgg158
  z164 := Tryz.sizeOf158
  v164 := Tryz.zeroValue158 }
theorem Tryz.wlays167 : Go.Proofs.Lays.n167 Tryz.prog Tryz.wr_ren := {
  mixed := by kernel_rfl
  f167 := Tryz.func79.trans (congrArg some (by kernel_rfl))
  f240 := Tryz.func111.trans (congrArg some (by kernel_rfl))
  f276 := Tryz.func133.trans (congrArg some (by kernel_rfl))
  t0 := Tryz.underlying0
  a0 := Tryz.isAgg0
  z0 := Tryz.sizeOf0
  v0 := Tryz.zeroValue0
  t4 := Tryz.underlying4
  a4 := Tryz.isAgg4
  z4 := Tryz.sizeOf4
  v4 := Tryz.zeroValue4
  t5 := Tryz.underlying5
  a5 := Tryz.isAgg5
  z5 := Tryz.sizeOf5
  v5 := Tryz.zeroValue5
  t9 := Tryz.underlying9
  a9 := Tryz.isAgg9
  z9 := Tryz.sizeOf9
  v9 := Tryz.zeroValue9
  t20 := Tryz.underlying20
  a20 := Tryz.isAgg20
  z20 := Tryz.sizeOf20
  v20 := Tryz.zeroValue20
  t37 := Tryz.underlying27
  a37 := Tryz.isAgg27
  z37 := Tryz.sizeOf27
  v37 := Tryz.zeroValue27
  t70 := Tryz.underlying77
  a70 := Tryz.isAgg77
  z70 := Tryz.sizeOf77
  v70 := Tryz.zeroValue77
  t72 := Tryz.underlying79
  a72 := Tryz.isAgg79
  z72 := Tryz.sizeOf79
  v72 := Tryz.zeroValue79
  t75 := Tryz.underlying111
  a75 := Tryz.isAgg111
  z75 := Tryz.sizeOf111
  v75 := Tryz.zeroValue111
  t164 := Tryz.underlying158
  a164 := Tryz.isAgg158
  z164 := Tryz.sizeOf158
  v164 := Tryz.zeroValue158 }
theorem Tryz.wextra : Builder.Extra Tryz.prog Tryz.wr_ren := {
  sizeBuilder := by kernel_rfl
  liesBuilder := by kernel_rfl
  t5 := Tryz.underlying5
  a5 := Tryz.isAgg5
  z5 := Tryz.sizeOf5
  v5 := Tryz.zeroValue5
  infoByte := by kernel_rfl
  cellsByte := by kernel_rfl
  sizeByte := by kernel_rfl
  neB5 := by decide }
open Go.RowKit in
theorem Tryz.wbyte (B b : Nat) (bs : List Value) (c : Int) (w : World) (h : Lib.IsBuilderF 79 5 B b bs w) (hlen : bs.length + 1 ≤ 140737488355328) (hBw : B ≤ w.heap.size) :
    Calls Tryz.prog 79 #[.pointer (some ⟨b, 0, none⟩), .int .u8 c] w fun e w' => e = .returned .nilIface ∧ (Lib.BuilderAtF 79 5 B b (.pointer (some ⟨b, 0, none⟩)) (bs ++ [.int .u8 c]) w' ∧ Below B w w' ∧ Lib.OthersKept 5 (some b) w w') := Any.Builder_WriteByte_k Tryz.wlays167 Tryz.wextra B b bs c w h hlen hBw
open Go.RowKit in
theorem Tryz.wstring (B b : Nat) (bs : List Value) (s : ByteArray) (w : World) (h : Lib.IsBuilderF 79 5 B b bs w) (hlen : bs.length + s.size ≤ 140737488355328) (hBw : B ≤ w.heap.size) :
    Calls Tryz.prog 77 #[.pointer (some ⟨b, 0, none⟩), .string s] w fun e w' => e = .returned (.tuple #[.int .i64 s.size, .nilIface]) ∧ (Lib.BuilderAtF 79 5 B b (.pointer (some ⟨b, 0, none⟩)) (bs ++ Lib.strCells s) w' ∧ Below B w w' ∧ Lib.OthersKept 5 (some b) w w') := Any.Builder_WriteString_k Tryz.wlays166 Tryz.wextra B b bs s w h hlen hBw
end Go.Proofs
/- RIGHT UTF-8, the document's: tail, Utf, text. Own work of the verifier. -/
namespace Go.Proofs.YthgfeghgcickhaaGreatDoor.La
open Go.RowKit

/-- A byte 80 to bf. -/
def tlB (b : Nat) : Bool := decide (128 ≤ b) && decide (b < 192)
def tlAt (l : List UInt8) (k : Nat) : Bool := decide (k < l.length) && tlB (l.getD k 0).toNat
theorem get_at (l : List UInt8) (k : Nat) (h : k < l.length) : (l.getD k 0) = l[k] := by
  rw [List.getD_eq_getElem?_getD, List.getElem?_eq_getElem h]; rfl
/-- n bytes behind the first one of a sign, c being what was read so far. -/
def cont : Nat → Nat → List UInt8 → Option Nat
  | 0, c, _ => some c
  | _ + 1, _, [] => none
  | n + 1, c, b :: r => if tlB b.toNat then cont n (64 * c + b.toNat - 128) r else none
/-- How many bytes follow the first one, and what it tells. -/
def lead (b : Nat) : Option (Nat × Nat) := if 192 ≤ b ∧ b < 224 then some (1, b - 192) else if 224 ≤ b ∧ b < 240 then some (2, b - 224) else if 240 ≤ b ∧ b < 248 then some (3, b - 240) else none
def fine (n c : Nat) : Bool := decide (¬ (n = 1 ∧ c < 128 ∨ n = 2 ∧ c < 2048 ∨ n = 3 ∧ c < 65536 ∨ 1114111 < c ∨ 55296 ≤ c ∧ c ≤ 57343))
/-- Right UTF-8. -/
def utfB : List UInt8 → Bool
  | [] => true
  | b :: r => if b.toNat < 128 then utfB r else
    match lead b.toNat with
    | none => false
    | some (n, c0) => match cont n c0 r with
      | none => false
      | some c => fine n c && utfB (r.drop n)
termination_by l => l.length
decreasing_by
  · simp
  · simp; omega
theorem cont_step (l : List UInt8) (k m c : Nat) : cont (m + 1) c (l.drop k) = if tlAt l k then cont m (64 * c + (l.getD k 0).toNat - 128) (l.drop (k + 1)) else none := by
  unfold tlAt
  rcases Nat.lt_or_ge k l.length with g | g
  · rw [List.drop_eq_getElem_cons g, cont, decide_eq_true g, get_at l k g]
    rfl
  · rw [List.drop_eq_nil_of_le g, cont, decide_eq_false (by omega)]
    rfl
theorem utf_low (l : List UInt8) (i : Nat) (h : i < l.length) (hb : l[i].toNat < 128) : utfB (l.drop i) = utfB (l.drop (i + 1)) := by
  rw [List.drop_eq_getElem_cons h, utfB, if_pos hb]
theorem utf_lead (l : List UInt8) (i n c0 : Nat) (h : i < l.length) (hb : ¬ l[i].toNat < 128) (hl : lead l[i].toNat = some (n, c0)) :
    utfB (l.drop i) = match cont n c0 (l.drop (i + 1)) with
      | none => false
      | some c => fine n c && utfB (l.drop (i + (n + 1))) := by
  rw [List.drop_eq_getElem_cons h, utfB, if_neg hb, hl]
  simp only
  cases cont n c0 (l.drop (i + 1)) with
  | none => rfl
  | some c =>
    simp only
    rw [List.drop_drop, show i + 1 + n = i + (n + 1) from by omega]
theorem utf_none (l : List UInt8) (i : Nat) (h : i < l.length) (hb : ¬ l[i].toNat < 128) (hl : lead l[i].toNat = none) : utfB (l.drop i) = false := by
  rw [List.drop_eq_getElem_cons h, utfB, if_neg hb, hl]
end Go.Proofs.YthgfeghgcickhaaGreatDoor.La
