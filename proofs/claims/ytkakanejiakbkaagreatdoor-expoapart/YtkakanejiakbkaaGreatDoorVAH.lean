/- THE CODE'S Print. Own work of the verifier. -/
import Derived.Test.YtkakanejiakbkaaGreatDoorVAG
import Derived.WalkKit
import Derived.Test.YtkakanejiakbkaaGreatDoorRows
import Derived.WalkSpells
import Derived.RowKit3
import Derived.Below
import Derived.Laws.Externs
import Derived.Shelf.Spec.BitsCarry
import Derived.Outline
import Derived.Deep.QuietTactic
import Derived.BigQuiet
import Derived.Deep.RegionHeld3
import Derived.Laws.Bits64
import Derived.Lib.Zigzag
import Derived.Lib.ItoaNum
import Derived.Laws.BitsAllLaws
namespace Go.Proofs.YtkakanejiakbkaaGreatDoor.La
open Go.RowKit

theorem BS.re {B k : Nat} {w0 W : World} {l : List UInt8} (h : BS B k w0 l W) : BS B k W l W := ⟨h.ib, Below.refl _ _, Lib.OthersKept.refl _ _ _, h.sz⟩
theorem BS.then {B k : Nat} {w0 W W1 : World} {l l1 : List UInt8} (h : BS B k w0 l W) (h1 : BS B k W l1 W1) : BS B k w0 l1 W1 := ⟨h1.ib, h.bl.trans h1.bl, h.ok.trans h1.ok, h1.sz⟩
theorem BS.alloc {B k : Nat} {w0 W : World} {l : List UInt8} (h : BS B k w0 l W) (o : Obj) : BS B k w0 l (W.alloc o) := ⟨h.ib.alloc o, h.bl.alloc h.sz o, h.ok.alloc o, by have := h.sz; simp; omega⟩
theorem BS.lt {B k : Nat} {w0 W : World} {l : List UInt8} (h : BS B k w0 l W) : k < W.heap.size := by
  rcases h.ib with g | g
  · exact g.lt
  · exact g.lt
/-- A block of a call's own that is no row of bytes and not the builder's stays. -/
theorem BS.cells {B k g : Nat} {W W1 : World} {l : List UInt8} {cs : Array Value} {t : TypeId} (h : BS B k W l W1) (hg : W.heap[g]? = some (.cells cs t)) (hk : g ≠ k) (ht : t ≠ 5) : W1.heap[g]? = some (.cells cs t) :=
  h.ok g _ hg (fun e => hk (Option.some.inj e)) (fun c fz e => ht (by injection e))
/-- What the loop keeps. -/
structure KP (w : World) (b o : Nat) (A : List Lb) (acc : List UInt8) (W : World) : Prop where
  r : RowL W b o A
  s : BS w.heap.size w.heap.size w acc W
theorem rowL_bel {w W W1 : World} {b o : Nat} {A : List Lb} (h : RowL W b o A) (hw : RowL w b o A) (hb : Below w.heap.size W W1) : RowL W1 b o A := fun i hi => by
  obtain ⟨h1, h2⟩ := h i hi
  obtain ⟨k1, k2⟩ := hw i hi
  exact ⟨(hb.cell (lt_of_cell k1)).trans h1, (hb.cell (lt_of_cell k2)).trans h2⟩
theorem one_cells {W : World} {g : Nat} {x y : Value} {t : TypeId} (h : W.heap[g]? = some (.cells #[x, y] t)) : W.cell? ⟨g, 0, none⟩ = some x ∧ W.cell? ⟨g, 1, none⟩ = some y := by
  constructor <;> simp [World.cell?, h]
set_option maxHeartbeats 4000000 in
set_option maxRecDepth 100000 in
theorem cprint_any (n : List UInt8) (ao : Option Addr) (b o cap : Nat) (A : List Lb) (hao : A ≠ [] → ao = some ⟨b, o, none⟩) (hl : A.length ≤ 9223372036854775807) (hv : ∀ a ∈ A, a.2.length ≤ 9223372036854775807) (hT : (printT n A).length ≤ 140737488355328) (w : World) (hR : RowL w b o A) :
    Calls Tryz.prog 75 #[.string ⟨n.toArray⟩, .slice ao A.length cap] w fun r w' => r = .returned (.string ⟨(printT n A).toArray⟩) ∧ Below w.heap.size w w' := by
  have hP : printT n A = n ++ prB true A ++ (if A.length = 0 then [] else [125]) := rfl
  obtain ⟨R, hR0⟩ : ∃ R, R = n ++ prB true A := ⟨_, rfl⟩
  rw [← hR0] at hP
  rw [hP] at hT
  obtain ⟨T, hTT⟩ : ∃ T, T = printT n A := ⟨_, rfl⟩
  rw [← hTT]
  have HTT : Hid (T = R ++ (if A.length = 0 then [] else [125])) := by show T = _; rw [hTT, hP]
  clear hTT
  have hRl : R.length ≤ 140737488355328 := by rw [List.length_append] at hT; omega
  have hRn : n.length ≤ R.length := by rw [hR0, List.length_append]; omega
  have HT : Hid ((R ++ (if A.length = 0 then [] else [125])).length ≤ 140737488355328) := hT
  have HR0 : Hid (R = n ++ prB (decide (0 = 0)) (A.drop 0)) := hR0
  have HN : Hid (∀ W, BS w.heap.size w.heap.size w [] W → Calls Tryz.prog 83 #[.pointer (some ⟨w.heap.size, 0, none⟩), .string ⟨n.toArray⟩] W fun e w' => e = .returned (.tuple #[.int .i64 (n.length : Int), .nilIface]) ∧ BS w.heap.size w.heap.size w n w') := fun W h => ws_any n h (by simp; omega)
  have HB0 : Hid _ := BS.new w
  have HV : Hid _ := hv
  have HRw : Hid (RowL w b o A) := hR
  clear hR hP hR0 hv hT
  go_enter Tryz.func75, Tryz.ntmps75
  go_wp2_with fail
  refine (HN.out _ HB0.out).mono ?_
  rintro e w1 ⟨rfl, hb⟩
  clear HN HB0
  by_cases z : A.length = 0
  · have z' : ((A.length : Int) == 0) = true := by rw [beq_iff_eq]; omega
    have HF : Hid (T = n) := by
      show T = n
      rw [HTT.out, if_pos z, HR0.out, List.drop_zero, List.length_eq_zero_iff.1 z, prB]
      simp
    have HS : HidC _ _ _ _ _ := bstr_any hb
    clear HTT HR0 HT HV HRw hb z
    as_aux_lemma =>
      go_wp2_with fail
      refine (HS.out).mono ?_
      rintro e w2 ⟨rfl, hb⟩
      have hbl := hb.bl
      clear hb HS
      go_wp2_with fail
      go_ret
      exact ⟨congrArg (fun z : List UInt8 => Ending.returned (Value.string ⟨z.toArray⟩)) HF.out.symm, hbl⟩
  have z' : ((A.length : Int) == 0) = false := by rw [beq_eq_false_iff_ne]; omega
  have HK0 : Hid (KP w b o A n w1) := ⟨RowL.below HRw.out hb.bl, hb⟩
  obtain rfl := hao (fun e => z (by rw [e]; rfl))
  have HTT2 : Hid (T = R ++ [125]) := by show T = _; rw [HTT.out, if_neg z]
  have hT2 : R.length + 1 ≤ 140737488355328 := by have := HT.out; rw [if_neg z, List.length_append] at this; exact this
  clear hb HTT HT z hao
  go_wp2_with fail
  go_loopw [6, 17] (fun v a W => ∃ (i : Nat) (acc : List UInt8), i ≤ A.length ∧ a = .int .i64 (i : Int) ∧ v = .string ⟨#[if decide (i = 0) then 123 else 44]⟩ ∧ Hid (R = acc ++ prB (decide (i = 0)) (A.drop i)) ∧ Hid (KP w b o A acc W)) (fun _ a _ => A.length - (intOf a).toNat)
  case atStart => exact ⟨0, n, by omega, rfl, rfl, HR0, HK0⟩
  case round =>
    clear HR0 HK0
    obtain ⟨i, acc, hi, rfl, rfl, HR, HK⟩ := hrel
    by_cases hlt : i < A.length
    · have hlt' : (i : Int) < (A.length : Int) := by omega
      obtain ⟨q1, q2⟩ := HK.out.r i hlt
      have hS := HR.out
      rw [prB_drop _ A i hlt] at hS
      have hlb : lbT A[i] = A[i].1 ++ [61, 34] ++ escL true A[i].2 ++ [34] := rfl
      rw [hlb] at hS
      obtain ⟨c, hc⟩ : ∃ c : UInt8, c = if decide (i = 0) then 123 else 44 := ⟨_, rfl⟩
      rw [← hc] at hS ⊢
      clear hc
      have hlen := congrArg List.length hS
      simp only [List.length_append, List.length_cons, List.length_nil] at hlen
      have HF : Hid (R = acc ++ [c] ++ A[i].1 ++ [61, 34] ++ escL true A[i].2 ++ [34] ++ prB (decide (i + 1 = 0)) (A.drop (i + 1))) := by
        show R = _
        rw [hS, decide_eq_false (by omega)]
        simp
      have m2 := HV.out A[i] (List.getElem_mem hlt)
      obtain ⟨W0, hW0⟩ : ∃ W0, W0 = wr.alloc (.cells #[.string ⟨A[i].1.toArray⟩, .string ⟨A[i].2.toArray⟩] 75) := ⟨_, rfl⟩
      have hsB : BS w.heap.size w.heap.size w acc W0 := by rw [hW0]; exact HK.out.s.alloc _
      have hgt : wr.heap.size ≠ w.heap.size := by have := HK.out.s.lt; omega
      have hone : W0.heap[wr.heap.size]? = some (.cells #[.string ⟨A[i].1.toArray⟩, .string ⟨A[i].2.toArray⟩] 75) := by rw [hW0]; show (wr.heap.push _)[wr.heap.size]? = _; simp
      have hrow : RowL W0 b o A := by rw [hW0]; exact HK.out.r.below (bel1 wr _)
      have C1 : HidC Tryz.prog 83 #[.pointer (some ⟨w.heap.size, 0, none⟩), .string ⟨#[c]⟩] W0 (fun e w' => e = .returned (.tuple #[.int .i64 1, .nilIface]) ∧ BS w.heap.size w.heap.size W0 (acc ++ [c]) w') := ws_any [c] hsB.re (by simp; omega)
      have C2 : Hid (∀ W, BS w.heap.size w.heap.size W0 (acc ++ [c]) W → Calls Tryz.prog 83 #[.pointer (some ⟨w.heap.size, 0, none⟩), .string ⟨A[i].1.toArray⟩] W fun e w' => e = .returned (.tuple #[.int .i64 (A[i].1.length : Int), .nilIface]) ∧ BS w.heap.size w.heap.size W0 (acc ++ [c] ++ A[i].1) w') := fun W h => ws_any _ h (by simp; omega)
      have C3 : Hid (∀ W, BS w.heap.size w.heap.size W0 (acc ++ [c] ++ A[i].1) W → Calls Tryz.prog 83 #[.pointer (some ⟨w.heap.size, 0, none⟩), .string ⟨#[61, 34]⟩] W fun e w' => e = .returned (.tuple #[.int .i64 2, .nilIface]) ∧ BS w.heap.size w.heap.size W0 (acc ++ [c] ++ A[i].1 ++ [61, 34]) w') := fun W h => ws_any [61, 34] h (by simp; omega)
      have C4 : Hid (∀ W, BS w.heap.size w.heap.size W0 (acc ++ [c] ++ A[i].1 ++ [61, 34]) W → Calls Tryz.prog 50 #[.pointer (some ⟨w.heap.size, 0, none⟩), .string ⟨A[i].2.toArray⟩, .string ⟨#[92, 34]⟩] W fun e w' => e = .returned (.tuple #[]) ∧ BS w.heap.size w.heap.size W0 (acc ++ [c] ++ A[i].1 ++ [61, 34] ++ escL true A[i].2) w') := fun W h => cesc_any true _ _ W0 _ A[i].2 (by simp; omega) m2 W h
      have C5 : Hid (∀ W, BS w.heap.size w.heap.size W0 (acc ++ [c] ++ A[i].1 ++ [61, 34] ++ escL true A[i].2) W → Calls Tryz.prog 83 #[.pointer (some ⟨w.heap.size, 0, none⟩), .string ⟨#[34]⟩] W fun e w' => e = .returned (.tuple #[.int .i64 1, .nilIface]) ∧ BS w.heap.size w.heap.size W0 (acc ++ [c] ++ A[i].1 ++ [61, 34] ++ escL true A[i].2 ++ [34]) w') := fun W h => ws_any [34] h (by simp; omega)
      have HH : Hid (∀ W l, BS w.heap.size w.heap.size W0 l W → W.cell? ⟨wr.heap.size, 0, none⟩ = some (.string ⟨A[i].1.toArray⟩) ∧ W.cell? ⟨wr.heap.size, 1, none⟩ = some (.string ⟨A[i].2.toArray⟩)) := fun W l h => one_cells (h.cells hone hgt (by decide))
      have HE : Hid (∀ W l, BS w.heap.size w.heap.size W0 l W → KP w b o A l W) := fun W l h => ⟨rowL_bel hrow HRw.out h.bl, hsB.then h⟩
      have HW0 : Hid _ := hW0
      generalize escL true A[i].2 = e2 at *
      generalize A[i].1 = x1 at *
      generalize A[i].2 = x2 at *
      clear HR HK HV HRw hS hlb hlen m2 hsB hgt hone hrow hW0
      as_aux_lemma =>
        go_wp2_with fail
        rw [← HW0.out]
        refine (C1.out).mono ?_
        rintro e w2 ⟨rfl, hb⟩
        have cc := (HH.out w2 _ hb).1
        have D2 : HidC _ _ _ _ _ := C2.out w2 hb
        clear C1 C2 hb HW0
        go_wp2_with fail
        refine (D2.out).mono ?_
        rintro e w3 ⟨rfl, hb⟩
        have D3 : HidC _ _ _ _ _ := C3.out w3 hb
        clear D2 C3 hb cc
        go_wp2_with fail
        refine (D3.out).mono ?_
        rintro e w4 ⟨rfl, hb⟩
        have cc := (HH.out w4 _ hb).2
        have D4 : HidC _ _ _ _ _ := C4.out w4 hb
        clear D3 C4 hb
        go_wp2_with fail
        refine (D4.out).mono ?_
        rintro e w5 ⟨rfl, hb⟩
        have D5 : HidC _ _ _ _ _ := C5.out w5 hb
        clear D4 C5 hb cc
        go_wp2_with fail
        refine (D5.out).mono ?_
        rintro e w6 ⟨rfl, hb⟩
        have HK6 : Hid _ := HE.out w6 _ hb
        clear D5 hb HH HE
        go_wp2_with fail
        exact ⟨⟨i + 1, _, by omega, by go_num, by simp, HF, HK6⟩, by simp [intOf]; omega⟩
    · have hlt' : ¬ (i : Int) < (A.length : Int) := by omega
      have hS := HR.out
      rw [List.drop_eq_nil_of_le (by omega), prB, List.append_nil] at hS
      have hB := HK.out.s
      have C1 : HidC Tryz.prog 83 #[.pointer (some ⟨w.heap.size, 0, none⟩), .string ⟨#[125]⟩] wr (fun e w' => e = .returned (.tuple #[.int .i64 1, .nilIface]) ∧ BS w.heap.size w.heap.size w (acc ++ [125]) w') := ws_any [125] hB (by rw [← hS]; exact hT2)
      have HF : Hid (T = acc ++ [125]) := by show T = _; rw [HTT2.out, hS]
      obtain ⟨c, hc⟩ : ∃ c : UInt8, c = if decide (i = 0) then 123 else 44 := ⟨_, rfl⟩
      rw [← hc]
      clear hc
      clear HR HK HV HRw hS hB HTT2 hT2 hRl hRn
      go_wp2_with fail
      refine (C1.out).mono ?_
      rintro e w2 ⟨rfl, hb⟩
      have HS : HidC _ _ _ _ _ := bstr_any hb
      clear C1 hb
      go_wp2_with fail
      refine (HS.out).mono ?_
      rintro e w3 ⟨rfl, hb⟩
      have hbl := hb.bl
      clear hb HS
      go_wp2_with fail
      go_ret
      exact ⟨congrArg (fun z : List UInt8 => Ending.returned (Value.string ⟨z.toArray⟩)) HF.out.symm, hbl⟩
end Go.Proofs.YtkakanejiakbkaaGreatDoor.La
/- THE PLAIN MATHEMATICS of numbers of 128 bits: no Go in sight. Own work of the verifier. -/
namespace Go.Proofs.YtkakanejiakbkaaGreatDoor

def val (h l : Int) : Int := h * 18446744073709551616 + l
def hiOf (n : Int) : Int := n / 18446744073709551616
def loOf (n : Int) : Int := n % 18446744073709551616
/-- A number brought round. -/
def rnd (n : Int) : Int := (n + 170141183460469231731687303715884105728) % 340282366920938463463374607431768211456 - 170141183460469231731687303715884105728

/-- The two words of a number. -/
structure Wf (h l : Int) : Prop where
  h0 : -9223372036854775808 ≤ h
  h1 : h ≤ 9223372036854775807
  l0 : 0 ≤ l
  l1 : l < 18446744073709551616
/-- A number of 128 bits. -/
structure InR (n : Int) : Prop where
  lo : -170141183460469231731687303715884105728 ≤ n
  hi : n < 170141183460469231731687303715884105728

theorem val_hl (n : Int) : val (hiOf n) (loOf n) = n := by unfold val hiOf loOf; omega
theorem hiOf_val {h l : Int} (w : Wf h l) : hiOf (val h l) = h := by obtain ⟨_, _, _, _⟩ := w; unfold hiOf val; omega
theorem loOf_val {h l : Int} (w : Wf h l) : loOf (val h l) = l := by obtain ⟨_, _, _, _⟩ := w; unfold loOf val; omega
theorem wf_of {n : Int} (h : InR n) : Wf (hiOf n) (loOf n) := by obtain ⟨_, _⟩ := h; constructor <;> (simp only [hiOf, loOf]; omega)
theorem rnd_of {n : Int} (h : InR n) : rnd n = n := by obtain ⟨_, _⟩ := h; unfold rnd; omega
/-- Two numbers are the same if and only if their words are. -/
theorem val_inj {a b c d : Int} (h : Wf a b) (k : Wf c d) : val a b = val c d ↔ a = c ∧ b = d := by
  obtain ⟨_, _, _, _⟩ := h; obtain ⟨_, _, _, _⟩ := k; unfold val; constructor
  · intro e; constructor <;> omega
  · rintro ⟨rfl, rfl⟩; rfl
theorem val_lt {a b c d : Int} (h : Wf a b) (k : Wf c d) : val a b < val c d ↔ a < c ∨ a = c ∧ b < d := by
  obtain ⟨_, _, _, _⟩ := h; obtain ⟨_, _, _, _⟩ := k; unfold val; omega

/-- Which is less? -/
def cmp (a b : Int) : Int := if a < b then -1 else if a = b then 0 else 1
end Go.Proofs.YtkakanejiakbkaaGreatDoor
/- THE LEAVES: sums, differences, order, of numbers of 128 bits: the code's and the document's. Own work of the verifier. -/
namespace Go.Proofs.YtkakanejiakbkaaGreatDoor
open Go.RowKit

/-- The borrow. -/
def bor (x y : Int) : Int := if x < y then 1 else 0
theorem bor_0 (x y : Int) : 0 ≤ bor x y := by unfold bor; split <;> decide
theorem bor_1 (x y : Int) : bor x y ≤ 1 := by unfold bor; split <;> decide

theorem add64_0 (x y : Int) (hx : 0 ≤ x) (hy : 0 ≤ y) (w : World) : (callFunc 96 #[.int .u64 x, .int .u64 y, .int .u64 0]).run Tryz.prog w =
    .ok (.value (.tuple #[.int .u64 ((x + y) % 18446744073709551616), .int .u64 ((x + y) / 18446744073709551616)])) w := by
  rw [run_callFunc_extern Tryz.func96 (by kernel_rfl) (by kernel_rfl) (by kernel_rfl) (e := add64Entry) (by kernel_rfl), run_add64 x y 0 (by omega) (by omega) (by omega) (by omega)]
  simp [Result.andThen]
theorem sub64_0 (x y : Int) (hx : 0 ≤ x) (hy : 0 ≤ y) (hy' : y < 18446744073709551616) (w : World) : (callFunc 143 #[.int .u64 x, .int .u64 y, .int .u64 0]).run Tryz.prog w =
    .ok (.value (.tuple #[.int .u64 ((x - y) % 18446744073709551616), .int .u64 (bor x y)])) w := by
  obtain ⟨x, rfl⟩ := Int.eq_ofNat_of_zero_le hx
  obtain ⟨y, rfl⟩ := Int.eq_ofNat_of_zero_le hy
  have e1 : (((x + 18446744073709551616 - y - 0) % 18446744073709551616 : Nat) : Int) = ((x : Int) - y) % 18446744073709551616 := by omega
  have e2 : ((if x < y + 0 then 1 else 0 : Nat) : Int) = bor (x : Int) y := by unfold bor; split <;> split <;> omega
  have h := run_callFunc_extern Tryz.func143 (by kernel_rfl) (by kernel_rfl) (by kernel_rfl) (e := sub64Entry) (by kernel_rfl) #[.int .u64 (x : Int), .int .u64 (y : Int), .int .u64 0] w
  rw [h, ← e1, ← e2, show (0 : Int) = ((0 : Nat) : Int) from rfl, run_sub64 x y 0 (by omega)]
  rfl

theorem add_words {ah al bh bl : Int} (h1 : Wf ah al) (h2 : Wf bh bl) : wrap64 (wrap64 (ah + bh) + (al + bl) / 18446744073709551616) = hiOf (rnd (val ah al + val bh bl)) ∧ (al + bl) % 18446744073709551616 = loOf (rnd (val ah al + val bh bl)) := by
  obtain ⟨_, _, _, _⟩ := h1; obtain ⟨_, _, _, _⟩ := h2
  unfold wrap64 hiOf loOf rnd val; constructor <;> omega
theorem sub_words {ah al bh bl : Int} (h1 : Wf ah al) (h2 : Wf bh bl) : wrap64 (wrap64 (ah - bh) - bor al bl) = hiOf (rnd (val ah al - val bh bl)) ∧ (al - bl) % 18446744073709551616 = loOf (rnd (val ah al - val bh bl)) := by
  obtain ⟨_, _, _, _⟩ := h1; obtain ⟨_, _, _, _⟩ := h2
  unfold wrap64 hiOf loOf rnd val bor; constructor
  · split <;> omega
  · omega

/-- A number as the model holds it. -/
abbrev num (n : Int) : Value := .agg #[.int .i64 (hiOf n), .int .u64 (loOf n)]

theorem num_of {n h l : Int} (e : h = hiOf n ∧ l = loOf n) : num n = .agg #[.int .i64 h, .int .u64 l] := by rw [e.1, e.2]
theorem bel3 (w : World) (o1 o2 o3 : Obj) : Below w.heap.size w (((w.alloc o1).alloc o2).alloc o3) :=
  (((Below.refl _ _).alloc (Nat.le_refl _) _).alloc (by simp) _).alloc (by simp; omega) _
theorem bel2 (w : World) (o1 o2 : Obj) : Below w.heap.size w ((w.alloc o1).alloc o2) :=
  ((Below.refl _ _).alloc (Nat.le_refl _) _).alloc (by simp) _
theorem bel1 (w : World) (o1 : Obj) : Below w.heap.size w (w.alloc o1) := (Below.refl _ _).alloc (Nat.le_refl _) _

set_option maxHeartbeats 400000 in
theorem add_any (ah al bh bl : Int) (h1 : Wf ah al) (h2 : Wf bh bl) (w : World) :
    Calls Tryz.prog 65 #[.agg #[.int .i64 ah, .int .u64 al], .agg #[.int .i64 bh, .int .u64 bl]] w fun e w' =>
      e = .returned (num (rnd (val ah al + val bh bl))) ∧ Below w.heap.size w w' := by
  rw [num_of (add_words h1 h2)]
  obtain ⟨a1, a2, a3, a4⟩ := h1; obtain ⟨b1, b2, b3, b4⟩ := h2
  go_enter Tryz.func65, Tryz.ntmps65
  go_wp2_with (simp only [add64_0 al bl a3 b3])
  simp [bodyPost, results, Tryz.results65, go_sem]
  exact bel3 _ _ _ _

set_option maxHeartbeats 400000 in
theorem sub_any (ah al bh bl : Int) (h1 : Wf ah al) (h2 : Wf bh bl) (w : World) :
    Calls Tryz.prog 132 #[.agg #[.int .i64 ah, .int .u64 al], .agg #[.int .i64 bh, .int .u64 bl]] w fun e w' =>
      e = .returned (num (rnd (val ah al - val bh bl))) ∧ Below w.heap.size w w' := by
  rw [num_of (sub_words h1 h2)]
  obtain ⟨a1, a2, a3, a4⟩ := h1; obtain ⟨b1, b2, b3, b4⟩ := h2
  have k0 := bor_0 al bl
  have k1 := bor_1 al bl
  go_enter Tryz.func132, Tryz.ntmps132
  go_wp2_with (simp only [sub64_0 al bl a3 b3 b4])
  simp [bodyPost, results, Tryz.results132, go_sem]
  exact bel3 _ _ _ _
end Go.Proofs.YtkakanejiakbkaaGreatDoor
/- THE PLAIN MATHEMATICS of a division of two words by one (no Go in sight). Own work of the verifier. -/
namespace Go.Proofs.YtkakanejiakbkaaGreatDoor

/-- What the loop of an estimate keeps: q is no less than the quotient. -/
structure DInv (U u h n q r : Int) : Prop where
  e : q * h + r = U
  q0 : 0 ≤ q
  r0 : 0 ≤ r
  up : U * 4294967296 + u < (q + 1) * (h * 4294967296 + n)
/-- q is the quotient of U * 2^32 + u. -/
structure DEnd (U u h n q : Int) : Prop where
  q0 : 0 ≤ q
  lo : q * (h * 4294967296 + n) ≤ U * 4294967296 + u
  up : U * 4294967296 + u < (q + 1) * (h * 4294967296 + n)
/-- The sizes of the parts. -/
structure DSize (U u h n : Int) : Prop where
  h0 : 2147483648 ≤ h
  h1 : h < 4294967296
  n0 : 0 ≤ n
  n1 : n < 4294967296
  u0 : 0 ≤ u
  u1 : u < 4294967296
  U0 : 0 ≤ U
  U1 : U < h * 4294967296 + n

theorem mul_parts (q h n : Int) : q * (h * 4294967296 + n) = (q * h) * 4294967296 + q * n := by
  rw [Int.mul_add, Int.mul_assoc]
theorem succ_parts (q h n : Int) : (q + 1) * (h * 4294967296 + n) = (q * h) * 4294967296 + q * n + (h * 4294967296 + n) := by
  rw [Int.add_mul, mul_parts, Int.one_mul]

theorem dinv_start {U u h n : Int} (z : DSize U u h n) : DInv U u h n (U / h) (U - U / h * h) := by
  obtain ⟨h0, h1, n0, n1, u0, u1, U0, U1⟩ := z
  have e := Int.mul_ediv_add_emod U h
  have m0 := Int.emod_nonneg U (show h ≠ 0 by omega)
  have m1 := Int.emod_lt_of_pos U (show 0 < h by omega)
  have q0 : 0 ≤ U / h := Int.ediv_nonneg U0 (by omega)
  rw [Int.mul_comm] at e
  generalize U / h = q at *
  have p0 : 0 ≤ q * n := Int.mul_nonneg q0 n0
  refine ⟨by omega, q0, by omega, ?_⟩
  rw [succ_parts]
  generalize q * h = p at *
  omega
theorem dinv_rest {U u h n : Int} (z : DSize U u h n) : 0 ≤ U - U / h * h ∧ U - U / h * h < 4294967296 ∧ 0 ≤ U / h ∧ 0 ≤ U / h * h ∧ U / h * h ≤ U ∧ U / h < 8589934592 := by
  obtain ⟨h0, h1, n0, n1, u0, u1, U0, U1⟩ := z
  have e := Int.mul_ediv_add_emod U h
  have m0 := Int.emod_nonneg U (show h ≠ 0 by omega)
  have m1 := Int.emod_lt_of_pos U (show 0 < h by omega)
  have q0 : 0 ≤ U / h := Int.ediv_nonneg U0 (by omega)
  have q1 : U / h < 8589934592 := Int.ediv_lt_of_lt_mul (by omega) (by omega)
  have p0 : 0 ≤ U / h * h := Int.mul_nonneg q0 (by omega)
  rw [Int.mul_comm] at e
  omega
/-- One step: q was too great. -/
theorem dinv_step {U u h n q r : Int} (z : DSize U u h n) (i : DInv U u h n q r) (t : 4294967296 ≤ q ∨ 4294967296 * r + u < q * n) : DInv U u h n (q - 1) (r + h) ∧ 0 < q := by
  obtain ⟨h0, h1, n0, n1, u0, u1, U0, U1⟩ := z
  obtain ⟨e, q0, r0, up⟩ := i
  have hq : 0 < q := by
    rcases t with t | t
    · omega
    · rcases Int.lt_or_eq_of_le q0 with k | k
      · exact k
      · subst k; rw [Int.zero_mul] at t; omega
  refine ⟨⟨?_, by omega, by omega, ?_⟩, hq⟩
  · rw [Int.sub_mul, Int.one_mul]; omega
  · rw [show q - 1 + 1 = q from by omega, mul_parts]
    rcases t with t | t
    · have a := Int.mul_le_mul_of_nonneg_right t (show 0 ≤ h * 4294967296 + n by omega)
      rw [mul_parts q] at a
      omega
    · generalize q * h = p at *
      generalize q * n = v at *
      omega
/-- The test says no: q is the quotient. -/
theorem dinv_end {U u h n q r : Int} (i : DInv U u h n q r) (t : q * n ≤ 4294967296 * r + u) : DEnd U u h n q := by
  obtain ⟨e, q0, r0, up⟩ := i
  refine ⟨q0, ?_, up⟩
  rw [mul_parts]
  generalize q * h = p at *
  omega
/-- The rest is great: q is the quotient. -/
theorem dinv_break {U u h n q r : Int} (z : DSize U u h n) (i : DInv U u h n q r) (t : 4294967296 ≤ r) : DEnd U u h n q := by
  obtain ⟨h0, h1, n0, n1, u0, u1, U0, U1⟩ := z
  obtain ⟨e, q0, r0, up⟩ := i
  refine ⟨q0, ?_, up⟩
  have hq : q < 4294967296 := by
    rcases Int.lt_or_le q 4294967296 with k | k
    · exact k
    · have a := Int.mul_le_mul_of_nonneg_right k (show 0 ≤ h by omega)
      omega
  have b : q * n ≤ 4294967296 * 4294967296 := Int.mul_le_mul (by omega) (by omega) n0 (by omega)
  rw [mul_parts]
  generalize q * h = p at *
  generalize q * n = v at *
  omega
theorem dend_lt {U u h n q : Int} (z : DSize U u h n) (i : DEnd U u h n q) : q < 4294967296 := by
  obtain ⟨h0, h1, n0, n1, u0, u1, U0, U1⟩ := z
  obtain ⟨q0, lo, up⟩ := i
  rcases Int.lt_or_le q 4294967296 with k | k
  · exact k
  · have a := Int.mul_le_mul_of_nonneg_right k (show 0 ≤ h * 4294967296 + n by omega)
    omega

/-- What is left behind an estimate. -/
theorem div_T {U u h n q Y : Int} (hY : Y = h * 4294967296 + n) (hY1 : Y < 18446744073709551616) (e : DEnd U u h n q) :
    IntKind.u64.wrap (IntKind.u64.wrap (IntKind.u64.wrap (U * 4294967296) + u) - IntKind.u64.wrap (q * Y)) = U * 4294967296 + u - q * Y ∧ 0 ≤ U * 4294967296 + u - q * Y ∧ U * 4294967296 + u - q * Y < Y := by
  obtain ⟨q0, lo, up⟩ := e
  rw [← hY] at lo up
  rw [Int.add_mul, Int.one_mul] at up
  simp only [IntKind.wrap_u64]
  generalize q * Y = p at *
  omega

/-- The two words, shifted. -/
theorem norm_words (H l : Nat) (k : Nat) (hk : k ≤ 64) (hl : l < 18446744073709551616) (hH : H * 2 ^ k < 18446744073709551616) :
    bits .or .u64 (IntKind.u64.wrap ((H : Int) * 2 ^ k)) ((l : Int) / 2 ^ (64 - k)) = ((H * 2 ^ k + l / 2 ^ (64 - k) : Nat) : Int) ∧
    IntKind.u64.wrap ((l : Int) * 2 ^ k) = ((2 ^ k * (l % 2 ^ (64 - k)) : Nat) : Int) ∧
    (H * 2 ^ k + l / 2 ^ (64 - k)) * 18446744073709551616 + 2 ^ k * (l % 2 ^ (64 - k)) = (H * 18446744073709551616 + l) * 2 ^ k ∧ l / 2 ^ (64 - k) < 2 ^ k ∧ 2 ^ k * (l % 2 ^ (64 - k)) < 18446744073709551616 := by
  have hKM : 2 ^ k * 2 ^ (64 - k) = 18446744073709551616 := by rw [← Nat.pow_add, show k + (64 - k) = 64 from by omega]
  have hM : 0 < 2 ^ (64 - k) := Nat.pow_pos (by decide)
  have hK : 0 < 2 ^ k := Nat.pow_pos (by decide)
  have e1 : ((H : Int) * 2 ^ k) = ((H * 2 ^ k : Nat) : Int) := by push_cast; rfl
  have e2 : ((l : Int) * 2 ^ k) = ((l * 2 ^ k : Nat) : Int) := by push_cast; rfl
  have e3 : ((l : Int) / 2 ^ (64 - k)) = ((l / 2 ^ (64 - k) : Nat) : Int) := by push_cast; rfl
  have ha : l / 2 ^ (64 - k) < 2 ^ k := by
    rw [Nat.div_lt_iff_lt_mul hM, hKM]; exact hl
  have hb : l % 2 ^ (64 - k) < 2 ^ (64 - k) := Nat.mod_lt _ hM
  have hlk : l * 2 ^ k = 18446744073709551616 * (l / 2 ^ (64 - k)) + 2 ^ k * (l % 2 ^ (64 - k)) := by
    have d := Nat.div_add_mod l (2 ^ (64 - k))
    calc l * 2 ^ k = (2 ^ (64 - k) * (l / 2 ^ (64 - k)) + l % 2 ^ (64 - k)) * 2 ^ k := by rw [d]
      _ = 2 ^ k * 2 ^ (64 - k) * (l / 2 ^ (64 - k)) + 2 ^ k * (l % 2 ^ (64 - k)) := by
        rw [Nat.add_mul, Nat.mul_comm (2 ^ (64 - k) * _) (2 ^ k), Nat.mul_assoc, Nat.mul_comm (l % _) (2 ^ k)]
      _ = _ := by rw [hKM]
  have hb' : 2 ^ k * (l % 2 ^ (64 - k)) < 18446744073709551616 := by
    rw [← hKM]; exact Nat.mul_lt_mul_of_pos_left hb hK
  refine ⟨?_, ?_, ?_, ha, hb'⟩
  · rw [e1, e3, IntKind.wrap_u64, Int.emod_eq_of_lt (by omega) (by omega), u64_or_nat _ _ hH (by have : 2 ^ k ≤ 18446744073709551616 := (by rw [← hKM]; exact Nat.le_mul_of_pos_right _ hM); omega)]
    rw [nat_join k _ _ (Nat.mul_mod_left _ _) ha]
  · rw [e2, IntKind.wrap_u64, hlk]
    omega
  · rw [Nat.add_mul, Nat.add_mul, hlk, Nat.mul_assoc, Nat.mul_comm (2 ^ k) 18446744073709551616, ← Nat.mul_assoc]
    omega
end Go.Proofs.YtkakanejiakbkaaGreatDoor
