/- THE CODE'S Print. Own work of the verifier. -/
import Derived.Test.YtlgfgeacphkhnaaGreatDoorWAI
import Derived.Test.YtlgfgeacphkhnaaGreatDoorWAG
namespace Go.Proofs.YtlgfgeacphkhnaaGreatDoor.La
open Go.RowKit

theorem BS.re {B k : Nat} {w0 W : World} {l : List UInt8} (h : BS B k w0 l W) : BS B k W l W := ⟨h.ib, Below.refl _ _, Lib.OthersKept.refl _ _ _, h.sz⟩
theorem BS.then {B k : Nat} {w0 W W1 : World} {l l1 : List UInt8} (h : BS B k w0 l W) (h1 : BS B k W l1 W1) : BS B k w0 l1 W1 := ⟨h1.ib, h.bl.trans h1.bl, h.ok.trans h1.ok, h1.sz⟩
theorem BS.alloc {B k : Nat} {w0 W : World} {l : List UInt8} (h : BS B k w0 l W) (o : Obj) : BS B k w0 l (W.alloc o) := ⟨h.ib.alloc o, h.bl.alloc h.sz o, h.ok.alloc o, by have := h.sz; simp; omega⟩
theorem BS.lt {B k : Nat} {w0 W : World} {l : List UInt8} (h : BS B k w0 l W) : k < W.heap.size := by
 rcases h.ib with g | g
 ·exact g.lt
 ·exact g.lt
theorem BS.cells {B k g : Nat} {W W1 : World} {l : List UInt8} {cs : Array Value} {t : TypeId} (h : BS B k W l W1) (hg : W.heap[g]? = some (.cells cs t)) (hk : g ≠ k) (ht : t ≠ 5) : W1.heap[g]? = some (.cells cs t) :=
 h.ok g _ hg (fun e => hk (Option.some.inj e)) (fun c fz e => ht (by injection e))
structure KP (w : World) (b o : Nat) (A : List Lb) (acc : List UInt8) (W : World) : Prop where
 r : RowL W b o A
 s : BS w.heap.size w.heap.size w acc W
theorem rowL_bel {w W W1 : World} {b o : Nat} {A : List Lb} (h : RowL W b o A) (hw : RowL w b o A) (hb : Below w.heap.size W W1) : RowL W1 b o A := fun i hi => by
 obtain ⟨h1, h2⟩ := h i hi
 obtain ⟨k1, k2⟩ := hw i hi
 exact ⟨(hb.cell (lt_of_cell k1)).trans h1, (hb.cell (lt_of_cell k2)).trans h2⟩
theorem one_cells {W : World} {g : Nat} {x y : Value} {t : TypeId} (h : W.heap[g]? = some (.cells #[x, y] t)) : W.cell? ⟨g, 0, none⟩ = some x ∧ W.cell? ⟨g, 1, none⟩ = some y := by
 constructor <;> simp [World.cell?, h]
set_option maxHeartbeats 4000000 in
set_option maxRecDepth 100000 in
theorem cprint_any (n : List UInt8) (ao : Option Addr) (b o cap : Nat) (A : List Lb) (hao : A ≠ [] → ao = some ⟨b, o, none⟩) (hl : A.length ≤ 9223372036854775807) (hv : ∀ a ∈ A, a.2.length ≤ 9223372036854775807) (hT : (printT n A).length ≤ 140737488355328) (w : World) (hR : RowL w b o A) :
  Calls Tryz.prog 125 #[.string ⟨n.toArray⟩, .slice ao A.length cap] w fun r w' => r = .returned (.string ⟨(printT n A).toArray⟩) ∧ Below w.heap.size w w' := by
 have hP : printT n A = n ++ prB true A ++ (if A.length = 0 then [] else [125]) := rfl
 obtain ⟨R, hR0⟩ : ∃ R, R = n ++ prB true A := ⟨_, rfl⟩
 rw [← hR0] at hP
 rw [hP] at hT
 obtain ⟨T, hTT⟩ : ∃ T, T = printT n A := ⟨_, rfl⟩
 rw [← hTT]
 have HTT : Hid (T = R ++ (if A.length = 0 then [] else [125])) := by show T = _; rw [hTT, hP]
 clear hTT
 have hRl : R.length ≤ 140737488355328 := by rw [List.length_append] at hT; omega
 have hRn : n.length ≤ R.length := by rw [hR0, List.length_append]; omega
 have HT : Hid ((R ++ (if A.length = 0 then [] else [125])).length ≤ 140737488355328) := hT
 have HR0 : Hid (R = n ++ prB (decide (0 = 0)) (A.drop 0)) := hR0
 have HN : Hid (∀ W, BS w.heap.size w.heap.size w [] W → Calls Tryz.prog 133 #[.pointer (some ⟨w.heap.size, 0, none⟩), .string ⟨n.toArray⟩] W fun e w' => e = .returned (.tuple #[.int .i64 (n.length : Int), .nilIface]) ∧ BS w.heap.size w.heap.size w n w') := fun W h => ws_any n h (by simp; omega)
 have HB0 : Hid _ := BS.new w
 have HV : Hid _ := hv
 have HRw : Hid (RowL w b o A) := hR
 clear hR hP hR0 hv hT
 go_enter Tryz.func125, Tryz.ntmps125
 go_wp2_with fail
 refine (HN.out _ HB0.out).mono ?_
 rintro e w1 ⟨rfl, hb⟩
 clear HN HB0
 by_cases z : A.length = 0
 ·have z' : ((A.length : Int) == 0) = true := by rw [beq_iff_eq]; omega
  have HF : Hid (T = n) := by
   show T = n
   rw [HTT.out, if_pos z, HR0.out, List.drop_zero, List.length_eq_zero_iff.1 z, prB]
   simp
  have HS : HidC _ _ _ _ _ := bstr_any hb
  clear HTT HR0 HT HV HRw hb z
  as_aux_lemma =>
   go_wp2_with fail
   refine (HS.out).mono ?_
   rintro e w2 ⟨rfl, hb⟩
   have hbl := hb.bl
   clear hb HS
   go_wp2_with fail
   go_ret
   exact ⟨congrArg (fun z : List UInt8 => Ending.returned (Value.string ⟨z.toArray⟩)) HF.out.symm, hbl⟩
 have z' : ((A.length : Int) == 0) = false := by rw [beq_eq_false_iff_ne]; omega
 have HK0 : Hid (KP w b o A n w1) := ⟨RowL.below HRw.out hb.bl, hb⟩
 obtain rfl := hao (fun e => z (by rw [e]; rfl))
 have HTT2 : Hid (T = R ++ [125]) := by show T = _; rw [HTT.out, if_neg z]
 have hT2 : R.length + 1 ≤ 140737488355328 := by have := HT.out; rw [if_neg z, List.length_append] at this; exact this
 clear hb HTT HT z hao
 go_wp2_with fail
 go_loopw [6, 17] (fun v a W => ∃ (i : Nat) (acc : List UInt8), i ≤ A.length ∧ a = .int .i64 (i : Int) ∧ v = .string ⟨#[if decide (i = 0) then 123 else 44]⟩ ∧ Hid (R = acc ++ prB (decide (i = 0)) (A.drop i)) ∧ Hid (KP w b o A acc W)) (fun _ a _ => A.length - (intOf a).toNat)
 case atStart => exact ⟨0, n, by omega, rfl, rfl, HR0, HK0⟩
 case round =>
  clear HR0 HK0
  obtain ⟨i, acc, hi, rfl, rfl, HR, HK⟩ := hrel
  by_cases hlt : i < A.length
  ·have hlt' : (i : Int) < (A.length : Int) := by omega
   obtain ⟨q1, q2⟩ := HK.out.r i hlt
   have hS := HR.out
   rw [prB_drop _ A i hlt] at hS
   have hlb : lbT A[i] = A[i].1 ++ [61, 34] ++ escL true A[i].2 ++ [34] := rfl
   rw [hlb] at hS
   obtain ⟨c, hc⟩ : ∃ c : UInt8, c = if decide (i = 0) then 123 else 44 := ⟨_, rfl⟩
   rw [← hc] at hS ⊢
   clear hc
   have hlen := congrArg List.length hS
   simp only [List.length_append, List.length_cons, List.length_nil] at hlen
   have HF : Hid (R = acc ++ [c] ++ A[i].1 ++ [61, 34] ++ escL true A[i].2 ++ [34] ++ prB (decide (i + 1 = 0)) (A.drop (i + 1))) := by
    show R = _
    rw [hS, decide_eq_false (by omega)]
    simp
   have m2 := HV.out A[i] (List.getElem_mem hlt)
   obtain ⟨W0, hW0⟩ : ∃ W0, W0 = wr.alloc (.cells #[.string ⟨A[i].1.toArray⟩, .string ⟨A[i].2.toArray⟩] 46) := ⟨_, rfl⟩
   have hsB : BS w.heap.size w.heap.size w acc W0 := by rw [hW0]; exact HK.out.s.alloc _
   have hgt : wr.heap.size ≠ w.heap.size := by have := HK.out.s.lt; omega
   have hone : W0.heap[wr.heap.size]? = some (.cells #[.string ⟨A[i].1.toArray⟩, .string ⟨A[i].2.toArray⟩] 46) := by rw [hW0]; show (wr.heap.push _)[wr.heap.size]? = _; simp
   have hrow : RowL W0 b o A := by rw [hW0]; exact HK.out.r.below (bel1 wr _)
   have C1 : HidC Tryz.prog 133 #[.pointer (some ⟨w.heap.size, 0, none⟩), .string ⟨#[c]⟩] W0 (fun e w' => e = .returned (.tuple #[.int .i64 1, .nilIface]) ∧ BS w.heap.size w.heap.size W0 (acc ++ [c]) w') := ws_any [c] hsB.re (by simp; omega)
   have C2 : Hid (∀ W, BS w.heap.size w.heap.size W0 (acc ++ [c]) W → Calls Tryz.prog 133 #[.pointer (some ⟨w.heap.size, 0, none⟩), .string ⟨A[i].1.toArray⟩] W fun e w' => e = .returned (.tuple #[.int .i64 (A[i].1.length : Int), .nilIface]) ∧ BS w.heap.size w.heap.size W0 (acc ++ [c] ++ A[i].1) w') := fun W h => ws_any _ h (by simp; omega)
   have C3 : Hid (∀ W, BS w.heap.size w.heap.size W0 (acc ++ [c] ++ A[i].1) W → Calls Tryz.prog 133 #[.pointer (some ⟨w.heap.size, 0, none⟩), .string ⟨#[61, 34]⟩] W fun e w' => e = .returned (.tuple #[.int .i64 2, .nilIface]) ∧ BS w.heap.size w.heap.size W0 (acc ++ [c] ++ A[i].1 ++ [61, 34]) w') := fun W h => ws_any [61, 34] h (by simp; omega)
   have C4 : Hid (∀ W, BS w.heap.size w.heap.size W0 (acc ++ [c] ++ A[i].1 ++ [61, 34]) W → Calls Tryz.prog 95 #[.pointer (some ⟨w.heap.size, 0, none⟩), .string ⟨A[i].2.toArray⟩, .string ⟨#[92, 34]⟩] W fun e w' => e = .returned (.tuple #[]) ∧ BS w.heap.size w.heap.size W0 (acc ++ [c] ++ A[i].1 ++ [61, 34] ++ escL true A[i].2) w') := fun W h => cesc_any true _ _ W0 _ A[i].2 (by simp; omega) m2 W h
   have C5 : Hid (∀ W, BS w.heap.size w.heap.size W0 (acc ++ [c] ++ A[i].1 ++ [61, 34] ++ escL true A[i].2) W → Calls Tryz.prog 133 #[.pointer (some ⟨w.heap.size, 0, none⟩), .string ⟨#[34]⟩] W fun e w' => e = .returned (.tuple #[.int .i64 1, .nilIface]) ∧ BS w.heap.size w.heap.size W0 (acc ++ [c] ++ A[i].1 ++ [61, 34] ++ escL true A[i].2 ++ [34]) w') := fun W h => ws_any [34] h (by simp; omega)
   have HH : Hid (∀ W l, BS w.heap.size w.heap.size W0 l W → W.cell? ⟨wr.heap.size, 0, none⟩ = some (.string ⟨A[i].1.toArray⟩) ∧ W.cell? ⟨wr.heap.size, 1, none⟩ = some (.string ⟨A[i].2.toArray⟩)) := fun W l h => one_cells (h.cells hone hgt (by decide))
   have HE : Hid (∀ W l, BS w.heap.size w.heap.size W0 l W → KP w b o A l W) := fun W l h => ⟨rowL_bel hrow HRw.out h.bl, hsB.then h⟩
   have HW0 : Hid _ := hW0
   generalize escL true A[i].2 = e2 at *
   generalize A[i].1 = x1 at *
   generalize A[i].2 = x2 at *
   clear HR HK HV HRw hS hlb hlen m2 hsB hgt hone hrow hW0
   as_aux_lemma =>
    go_wp2_with fail
    rw [← HW0.out]
    refine (C1.out).mono ?_
    rintro e w2 ⟨rfl, hb⟩
    have cc := (HH.out w2 _ hb).1
    have D2 : HidC _ _ _ _ _ := C2.out w2 hb
    clear C1 C2 hb HW0
    go_wp2_with fail
    refine (D2.out).mono ?_
    rintro e w3 ⟨rfl, hb⟩
    have D3 : HidC _ _ _ _ _ := C3.out w3 hb
    clear D2 C3 hb cc
    go_wp2_with fail
    refine (D3.out).mono ?_
    rintro e w4 ⟨rfl, hb⟩
    have cc := (HH.out w4 _ hb).2
    have D4 : HidC _ _ _ _ _ := C4.out w4 hb
    clear D3 C4 hb
    go_wp2_with fail
    refine (D4.out).mono ?_
    rintro e w5 ⟨rfl, hb⟩
    have D5 : HidC _ _ _ _ _ := C5.out w5 hb
    clear D4 C5 hb cc
    go_wp2_with fail
    refine (D5.out).mono ?_
    rintro e w6 ⟨rfl, hb⟩
    have HK6 : Hid _ := HE.out w6 _ hb
    clear D5 hb HH HE
    go_wp2_with fail
    exact ⟨⟨i + 1, _, by omega, by go_num, by simp, HF, HK6⟩, by simp [intOf]; omega⟩
  ·have hlt' : ¬ (i : Int) < (A.length : Int) := by omega
   have hS := HR.out
   rw [List.drop_eq_nil_of_le (by omega), prB, List.append_nil] at hS
   have hB := HK.out.s
   have C1 : HidC Tryz.prog 133 #[.pointer (some ⟨w.heap.size, 0, none⟩), .string ⟨#[125]⟩] wr (fun e w' => e = .returned (.tuple #[.int .i64 1, .nilIface]) ∧ BS w.heap.size w.heap.size w (acc ++ [125]) w') := ws_any [125] hB (by rw [← hS]; exact hT2)
   have HF : Hid (T = acc ++ [125]) := by show T = _; rw [HTT2.out, hS]
   obtain ⟨c, hc⟩ : ∃ c : UInt8, c = if decide (i = 0) then 123 else 44 := ⟨_, rfl⟩
   rw [← hc]
   clear hc
   clear HR HK HV HRw hS hB HTT2 hT2 hRl hRn
   go_wp2_with fail
   refine (C1.out).mono ?_
   rintro e w2 ⟨rfl, hb⟩
   have HS : HidC _ _ _ _ _ := bstr_any hb
   clear C1 hb
   go_wp2_with fail
   refine (HS.out).mono ?_
   rintro e w3 ⟨rfl, hb⟩
   have hbl := hb.bl
   clear hb HS
   go_wp2_with fail
   go_ret
   exact ⟨congrArg (fun z : List UInt8 => Ending.returned (Value.string ⟨z.toArray⟩)) HF.out.symm, hbl⟩
end Go.Proofs.YtlgfgeacphkhnaaGreatDoor.La
