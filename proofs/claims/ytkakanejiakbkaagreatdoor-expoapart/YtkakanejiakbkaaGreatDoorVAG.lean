/- THE CODE'S Same. Own work of the verifier. -/
import Derived.Test.YtkakanejiakbkaaGreatDoorVAF
import Derived.Test.YtkakanejiakbkaaGreatDoorVAB
import Derived.Test.YtkakanejiakbkaaGreatDoorVAE
namespace Go.Proofs.YtkakanejiakbkaaGreatDoor.La
open Go.RowKit

end Go.Proofs.YtkakanejiakbkaaGreatDoor.La
/- THE CODE'S escape, Help. Own work of the verifier. -/
namespace Go.Proofs.YtkakanejiakbkaaGreatDoor.La
open Go.RowKit

/-- A builder at block k (B or behind it) that holds a text; w0: the world in which all began. -/
structure BS (B k : Nat) (w0 : World) (l : List UInt8) (W : World) : Prop where
  ib : Lib.IsBuilderF 86 5 B k (Lib.byteCells l) W
  bl : Below B w0 W
  ok : Lib.OthersKept 5 (some k) w0 W
  sz : B ≤ W.heap.size
/-- A call's contract, kept from the walker's sight. -/
def HidC (P : Program) (f : FuncId) (args : Array Value) (w : World) (Q : Ending → World → Prop) : Prop := Calls P f args w Q
theorem HidC.out {P : Program} {f : FuncId} {args : Array Value} {w : World} {Q : Ending → World → Prop} (h : HidC P f args w Q) : Calls P f args w Q := h
theorem wb_any {B k : Nat} {w0 w : World} {l : List UInt8} (b : UInt8) (h : BS B k w0 l w) (hl : l.length + 1 ≤ 140737488355328) :
    Calls Tryz.prog 85 #[.pointer (some ⟨k, 0, none⟩), .int .u8 (b.toNat : Int)] w fun e w' => e = .returned .nilIface ∧ BS B k w0 (l ++ [b]) w' := by
  refine (Tryz.wbyte B k (Lib.byteCells l) (b.toNat : Int) w h.ib (by rw [Lib.byteCells_length]; exact hl) h.sz).mono ?_
  rintro e w' ⟨rfl, h1, h2, h3⟩
  exact ⟨rfl, by rw [Lib.byteCells_append]; exact Or.inr h1, h.bl.trans h2, h.ok.trans h3, Nat.le_trans h.sz h2.size⟩
theorem ws_any {B k : Nat} {w0 w : World} {l : List UInt8} (s : List UInt8) (h : BS B k w0 l w) (hl : l.length + s.length ≤ 140737488355328) :
    Calls Tryz.prog 83 #[.pointer (some ⟨k, 0, none⟩), .string ⟨s.toArray⟩] w fun e w' => e = .returned (.tuple #[.int .i64 (s.length : Int), .nilIface]) ∧ BS B k w0 (l ++ s) w' := by
  have hsz : (ByteArray.mk s.toArray).size = s.length := by show s.toArray.size = _; simp
  have := Tryz.wstring B k (Lib.byteCells l) ⟨s.toArray⟩ w h.ib (by rw [Lib.byteCells_length, hsz]; exact hl) h.sz
  rw [hsz, Lib.strCells_eq] at this
  refine this.mono ?_
  rintro e w' ⟨rfl, h1, h2, h3⟩
  exact ⟨rfl, by rw [Lib.byteCells_append]; exact Or.inr h1, h.bl.trans h2, h.ok.trans h3, Nat.le_trans h.sz h2.size⟩
theorem bstr_any {B k : Nat} {w0 w : World} {l : List UInt8} (h : BS B k w0 l w) :
    Calls Tryz.prog 51 #[.pointer (some ⟨k, 0, none⟩)] w fun e w' => e = .returned (.string ⟨l.toArray⟩) ∧ BS B k w0 l w' := by
  refine (Tryz.Builder_String_any_k B k l w h.ib h.sz).mono ?_
  rintro e w' ⟨rfl, h1, h2, h3⟩
  exact ⟨rfl, h1, h.bl.trans h2, h.ok.trans h3, Nat.le_trans h.sz h2.size⟩
theorem BS.new (w : World) : BS w.heap.size w.heap.size w [] (w.alloc (.cells #[.pointer none, .slice none 0 0] 86)) :=
  ⟨Lib.IsBuilderF.of (Lib.fresh_isBuilder _ _ w), bel1 w _, (Lib.OthersKept.refl _ _ _).alloc _, by simp⟩
/-- Which bytes are written behind a backslash. -/
def spc (q : Bool) : List UInt8 := if q then [92, 34] else [92]
theorem idx_spc (q : Bool) (b : UInt8) : (0 : Int) ≤ Lib.indexByte (spc q) b ↔ (b.toNat = 92 ∨ q = true ∧ b.toNat = 34) := by
  have n1 : ∀ (x y : UInt8), x = y ↔ x.toNat = y.toNat := fun x y => ⟨fun e => by rw [e], fun e => UInt8.toNat_inj.1 e⟩
  have e1 : (92 : UInt8) = b ↔ b.toNat = 92 := by rw [n1]; exact eq_comm
  have e2 : (34 : UInt8) = b ↔ b.toNat = 34 := by rw [n1]; exact eq_comm
  cases q
  · show 0 ≤ Lib.indexByte [92] b ↔ _
    simp only [Lib.indexByte, beq_iff_eq, e1]
    split <;> rename_i h <;> simp [h]
  · show 0 ≤ Lib.indexByte [92, 34] b ↔ _
    simp only [Lib.indexByte, beq_iff_eq, e1, e2]
    split <;> rename_i h
    · simp [h]
    · split <;> rename_i h2
      · simp only [h2]; decide
      · simp [h, h2]
theorem idx_any (q : Bool) (b : UInt8) (w : World) :
    Calls Tryz.prog 84 #[.string ⟨(spc q).toArray⟩, .int .u8 (b.toNat : Int)] w fun e w' => e = .returned (.int .i64 (Lib.indexByte (spc q) b)) ∧ w' = w := by
  have h := Tryz.strings_IndexByte ⟨(spc q).toArray⟩ (b.toNat : Int) w
  have hb : ((b.toNat : Int).toNat).toUInt8 = b := by simp
  rw [hb] at h
  exact h
/-- How far escape has come. -/
def EsI (q : Bool) (T : List UInt8) (l : List UInt8) (i : Nat) (acc : List UInt8) : Prop := T = acc ++ escL q (l.drop i)
theorem EsI.step {q : Bool} {T l : List UInt8} {i : Nat} {acc : List UInt8} (h : EsI q T l i acc) (hi : i < l.length) : EsI q T l (i + 1) (acc ++ esc1 q l[i]) := by
  unfold EsI at *
  rw [h, escL_drop q l i hi, List.append_assoc]
theorem EsI.len {q : Bool} {T l : List UInt8} {i : Nat} {acc : List UInt8} (h : EsI q T l i acc) : acc.length ≤ T.length := by
  rw [h, List.length_append]; omega
set_option maxHeartbeats 4000000 in
set_option maxRecDepth 100000 in
theorem cesc_any (q : Bool) (B k : Nat) (w0 : World) (pre l : List UInt8) (hT : pre.length + (escL q l).length ≤ 140737488355328) (hl : l.length ≤ 9223372036854775807) (w : World) (hB : BS B k w0 pre w) :
    Calls Tryz.prog 50 #[.pointer (some ⟨k, 0, none⟩), .string ⟨l.toArray⟩, .string ⟨(spc q).toArray⟩] w fun r w' => r = .returned (.tuple #[]) ∧ BS B k w0 (pre ++ escL q l) w' := by
  obtain ⟨T, hTT⟩ : ∃ T, T = pre ++ escL q l := ⟨_, rfl⟩
  rw [← hTT]
  have hTl : T.length ≤ 140737488355328 := by rw [hTT, List.length_append]; exact hT
  have HS0 : Hid (EsI q T l 0 pre) := hTT
  have HB0 : Hid (BS B k w0 pre w) := hB
  have HW : Hid (∀ (W : World) (acc : List UInt8) (b : UInt8), BS B k w0 acc W → acc.length + 1 ≤ 140737488355328 → Calls Tryz.prog 85 #[.pointer (some ⟨k, 0, none⟩), .int .u8 (b.toNat : Int)] W fun e w' => e = .returned .nilIface ∧ BS B k w0 (acc ++ [b]) w') := fun W acc b h1 h2 => wb_any b h1 h2
  have HN : Hid (∀ (W : World) (acc : List UInt8), BS B k w0 acc W → acc.length + 2 ≤ 140737488355328 → Calls Tryz.prog 83 #[.pointer (some ⟨k, 0, none⟩), .string ⟨#[92, 110]⟩] W fun e w' => e = .returned (.tuple #[.int .i64 2, .nilIface]) ∧ BS B k w0 (acc ++ [92, 110]) w') := fun W acc h1 h2 => ws_any [92, 110] h1 h2
  have HX : Hid (∀ (b : UInt8) (W : World), Calls Tryz.prog 84 #[.string ⟨(spc q).toArray⟩, .int .u8 (b.toNat : Int)] W fun e w' => e = .returned (.int .i64 (Lib.indexByte (spc q) b)) ∧ w' = W) := fun b W => idx_any q b W
  clear hT hTT hB
  have HQ : Hid (∀ b : UInt8, (0 : Int) ≤ Lib.indexByte (spc q) b ↔ (b.toNat = 92 ∨ q = true ∧ b.toNat = 34)) := fun b => idx_spc q b
  generalize hsp : spc q = sp at *
  clear hsp
  go_enter Tryz.func50, Tryz.ntmps50
  go_wp2_with fail
  go_loopw [10] (fun a W => ∃ (i : Nat) (acc : List UInt8), i ≤ l.length ∧ a = .int .i64 (i : Int) ∧ Hid (EsI q T l i acc) ∧ Hid (BS B k w0 acc W)) (fun a _ => l.length - (intOf a).toNat)
  case atStart => exact ⟨0, pre, by omega, rfl, HS0, HB0⟩
  case round =>
    clear HS0 HB0
    obtain ⟨i, acc, hi, rfl, HI, HB⟩ := hrel
    by_cases hlt : i < l.length
    · have hlt' : (i : Int) < (l.length : Int) := by omega
      have hBy : i < (ByteArray.mk l.toArray).size := by show i < l.toArray.size; simpa using hlt
      have HI' := HI.out.step hlt
      have hln := HI'.len
      have hbe : (ByteArray.mk l.toArray)[i]'hBy = l[i] := rfl
      unfold esc1 at HI' hln
      by_cases g1 : l[i].toNat = 10
      · have t1 : ((((ByteArray.mk l.toArray)[i]'hBy).toNat : Int) == 10) = true := by rw [beq_iff_eq, hbe]; omega
        rw [if_neg (by omega), if_pos g1] at HI' hln
        have HI2 : Hid _ := HI'
        have HC : HidC _ _ _ _ _ := HN.out wr acc HB.out (by simp at hln; omega)
        clear HI HI' g1 hbe HN HW HX HQ HB hln
        as_aux_lemma =>
          go_wp2_with fail
          refine (HC.out).mono ?_
          rintro e w1 ⟨rfl, hb⟩
          have HBn : Hid _ := hb
          clear HC hb
          go_wp2_with fail
          exact ⟨⟨i + 1, _, by omega, by go_num, HI2, HBn⟩, by simp [intOf]; omega⟩
      · have t1 : ((((ByteArray.mk l.toArray)[i]'hBy).toNat : Int) == 10) = false := by rw [beq_eq_false_iff_ne, hbe]; omega
        have HX1 : Hid _ := HX.out ((ByteArray.mk l.toArray)[i]'hBy)
        have hq := HQ.out ((ByteArray.mk l.toArray)[i]'hBy)
        rw [hbe] at hq
        by_cases g2 : l[i].toNat = 92 ∨ q = true ∧ l[i].toNat = 34
        · rw [if_pos g2] at HI' hln
          have HI2 : Hid (EsI q T l (i + 1) (acc ++ [92] ++ [(ByteArray.mk l.toArray)[i]'hBy])) := by rw [List.append_assoc]; exact HI'
          have t2 := hq.2 g2
          simp at hln
          have HC : HidC Tryz.prog 85 #[.pointer (some ⟨k, 0, none⟩), .int .u8 92] wr (fun e w' => e = .returned .nilIface ∧ BS B k w0 (acc ++ [92]) w') := HW.out wr acc 92 HB.out (by omega)
          have HC2 : Hid (∀ W, BS B k w0 (acc ++ [92]) W → Calls Tryz.prog 85 #[.pointer (some ⟨k, 0, none⟩), .int .u8 ((((ByteArray.mk l.toArray)[i]'hBy).toNat : Nat) : Int)] W fun e w' => e = .returned .nilIface ∧ BS B k w0 (acc ++ [92] ++ [(ByteArray.mk l.toArray)[i]'hBy]) w') := fun W h => HW.out W (acc ++ [92]) _ h (by simp; omega)
          rw [hbe] at HX1 HI2 HC2
          generalize Lib.indexByte sp l[i] = z at *
          clear HI HI' g1 g2 HN HW HX HQ HB hln hq hbe
          as_aux_lemma =>
            go_wp2_with (go_at_call 84; refine (HX1.out _).mono ?_; rintro e1 w1 ⟨rfl, rfl⟩)
            refine (HC.out).mono ?_
            rintro e w1 ⟨rfl, hb⟩
            have HC3 : HidC _ _ _ _ _ := HC2.out w1 hb
            clear HC HC2 hb
            go_wp2_with fail
            refine (HC3.out).mono ?_
            rintro e w2 ⟨rfl, hb⟩
            have HBn : Hid _ := hb
            clear HC3 hb
            go_wp2_with fail
            exact ⟨⟨i + 1, _, by omega, by go_num, HI2, HBn⟩, by simp [intOf]; omega⟩
        · rw [if_neg g2, if_neg g1] at HI' hln
          have HI2 : Hid (EsI q T l (i + 1) (acc ++ [(ByteArray.mk l.toArray)[i]'hBy])) := HI'
          have t2 : ¬ (0 : Int) ≤ Lib.indexByte sp l[i] := fun h => g2 (hq.1 h)
          simp at hln
          have HC : HidC Tryz.prog 85 #[.pointer (some ⟨k, 0, none⟩), .int .u8 ((((ByteArray.mk l.toArray)[i]'hBy).toNat : Nat) : Int)] wr (fun e w' => e = .returned .nilIface ∧ BS B k w0 (acc ++ [(ByteArray.mk l.toArray)[i]'hBy]) w') := HW.out wr acc _ HB.out (by omega)
          rw [hbe] at HX1 HI2 HC
          generalize Lib.indexByte sp l[i] = z at *
          clear HI HI' g1 g2 HN HW HX HQ HB hln hq hbe
          as_aux_lemma =>
            go_wp2_with (go_at_call 84; refine (HX1.out _).mono ?_; rintro e1 w1 ⟨rfl, rfl⟩)
            refine (HC.out).mono ?_
            rintro e w1 ⟨rfl, hb⟩
            have HBn : Hid _ := hb
            clear HC hb
            go_wp2_with fail
            exact ⟨⟨i + 1, _, by omega, by go_num, HI2, HBn⟩, by simp [intOf]; omega⟩
    · have hlt' : ¬ (i : Int) < (l.length : Int) := by omega
      have HE : Hid (BS B k w0 T wr) := by
        have := HI.out
        unfold EsI at this
        rw [List.drop_eq_nil_of_le (by omega), escL, List.append_nil] at this
        rw [this]
        exact HB.out
      clear HI HB HN HW HX HQ
      as_aux_lemma =>
        go_wp2_with fail
        refine bodyPost_end (results_none rfl _ _ _) rfl ?_
        exact ⟨rfl, HE.out⟩
set_option maxHeartbeats 1000000 in
theorem chelp_any (l : List UInt8) (hT : (escL false l).length ≤ 140737488355328) (hl : l.length ≤ 9223372036854775807) (w : World) :
    Calls Tryz.prog 28 #[.string ⟨l.toArray⟩] w fun r w' => r = .returned (.string ⟨(escL false l).toArray⟩) ∧ Below w.heap.size w w' := by
  have HE : Hid (∀ W, BS w.heap.size w.heap.size w [] W → Calls Tryz.prog 50 #[.pointer (some ⟨w.heap.size, 0, none⟩), .string ⟨l.toArray⟩, .string ⟨#[92]⟩] W fun r w' => r = .returned (.tuple #[]) ∧ BS w.heap.size w.heap.size w (escL false l) w') := fun W h => cesc_any false _ _ w [] l (by simpa using hT) hl W h
  have HN : Hid _ := BS.new w
  go_enter Tryz.func28, Tryz.ntmps28
  go_wp2_with fail
  refine (HE.out _ HN.out).mono ?_
  rintro e w1 ⟨rfl, hb⟩
  have HS : HidC _ _ _ _ _ := bstr_any hb
  clear HE HN hb
  go_wp2_with fail
  refine (HS.out).mono ?_
  rintro e w2 ⟨rfl, hb⟩
  have hbl := hb.bl
  clear hb HS
  go_wp2_with fail
  go_ret
  exact ⟨rfl, hbl⟩
end Go.Proofs.YtkakanejiakbkaaGreatDoor.La
/- Print, the document's. Own work of the verifier. -/
namespace Go.Proofs.YtkakanejiakbkaaGreatDoor.La
open Go.RowKit

def lbT (a : Lb) : List UInt8 := a.1 ++ [61, 34] ++ escL true a.2 ++ [34]
def prB : Bool → List Lb → List UInt8
  | _, [] => []
  | f, a :: r => (if f then 123 else 44) :: (lbT a ++ prB false r)
/-- The text of a series. -/
def printT (n : List UInt8) (L : List Lb) : List UInt8 := n ++ prB true L ++ (if L.length = 0 then [] else [125])
theorem prB_drop (f : Bool) (L : List Lb) (i : Nat) (h : i < L.length) : prB f (L.drop i) = (if f then 123 else 44) :: (lbT L[i] ++ prB false (L.drop (i + 1))) := by
  rw [List.drop_eq_getElem_cons h, prB]
theorem sadd (a b : List UInt8) (h : a.length + b.length ≤ 9223372036854775807) (W : World) : (Op.stringOp .add ⟨a.toArray⟩ ⟨b.toArray⟩).run Tryz.prog W = .ok (.string ⟨(a ++ b).toArray⟩) W := by
  rw [run_string_add_sum W _ _ (by simp [ByteArray.size]; omega), ByteArray.mk_append_mk]
structure KQ (w : World) (b o : Nat) (A : List Lb) (W : World) : Prop where
  r : RowL W b o A
  bl : Below w.heap.size w W
theorem KQ.below {w W W1 : World} {b o : Nat} {A : List Lb} (h : KQ w b o A W) (hb : Below W.heap.size W W1) : KQ w b o A W1 := ⟨h.r.below hb, h.bl.trans (hb.mono h.bl.size)⟩
end Go.Proofs.YtkakanejiakbkaaGreatDoor.La
