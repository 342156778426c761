/- THE CODE'S Compare AND Same. Own work of the verifier. -/
import Derived.Test.YtliehacfoiigpaaGreatDoorSAE
import Derived.Test.YtliehacfoiigpaaGreatDoorSAD
namespace Go.Proofs.YtliehacfoiigpaaGreatDoor.La
open Go.RowKit

/-- How two labels stand. -/
def ordB (a b : Lb) : Int := if ordE a.1 b.1 ≠ 0 then ordE a.1 b.1 else ordE a.2 b.2
set_option maxRecDepth 100000 in
theorem ordL_cons (a b : Lb) (A B : List Lb) : ordL (a :: A) (b :: B) = if ordB a b ≠ 0 then ordB a b else ordL A B := by
  rw [ordL]
  unfold ordB
  by_cases h1 : ordE a.1 b.1 = 0
  · simp only [h1, ne_eq, not_true_eq_false, if_false]
  · simp only [ne_eq, h1, not_false_eq_true, if_true]
set_option maxRecDepth 100000 in
set_option maxHeartbeats 1000000 in
theorem cmpl_any (x1 x2 y1 y2 : List UInt8) (w : World) :
    Calls Tryz.prog 167 #[.agg #[.string ⟨x1.toArray⟩, .string ⟨x2.toArray⟩], .agg #[.string ⟨y1.toArray⟩, .string ⟨y2.toArray⟩]] w fun r w' => r = .returned (.int .i64 (ordB (x1, x2) (y1, y2))) ∧ Below w.heap.size w w' := by
  have H1 : Hid _ := fun W => cmp_any x1 y1 W
  have H2 : Hid _ := fun W => cmp_any x2 y2 W
  unfold ordB
  simp only
  generalize ordE x1 y1 = z1 at *
  generalize ordE x2 y2 = z2 at *
  by_cases e1 : z1 = 0
  · subst e1
    rw [if_neg (by decide)]
    as_aux_lemma =>
      go_enter Tryz.func167, Tryz.ntmps167
      go_wp2_with (go_at_call 165; first | (with_reducible refine (H1.out _).mono ?_; rintro e1 w1 ⟨rfl, rfl⟩) | (with_reducible refine (H2.out _).mono ?_; rintro e1 w1 ⟨rfl, rfl⟩))
      go_ret
      exact ⟨rfl, bel2 w _ _⟩
  · rw [if_pos e1]
    have e1' : (z1 != 0) = true := by simpa using e1
    clear e1 H2
    as_aux_lemma =>
      go_enter Tryz.func167, Tryz.ntmps167
      go_wp2_with (go_at_call 165; refine (H1.out _).mono ?_; rintro e1 w1 ⟨rfl, rfl⟩)
      go_ret
      exact ⟨rfl, bel2 w _ _⟩
/-- What the loop over two lists keeps. -/
structure KD (w : World) (b o b' o' : Nat) (A B : List Lb) (W : World) : Prop where
  r1 : RowL W b o A
  r2 : RowL W b' o' B
  bl : Below w.heap.size w W
set_option maxRecDepth 100000 in
theorem KD.below {w W W1 : World} {b o b' o' : Nat} {A B : List Lb} (h : KD w b o b' o' A B W) (hb : Below W.heap.size W W1) : KD w b o b' o' A B W1 := ⟨h.r1.below hb, h.r2.below hb, h.bl.trans (hb.mono h.bl.size)⟩
set_option maxHeartbeats 4000000 in
set_option maxRecDepth 100000 in
theorem cmpf_any (ao : Option Addr) (b o cap : Nat) (A : List Lb) (hao : A ≠ [] → ao = some ⟨b, o, none⟩) (ao' : Option Addr) (b' o' cap' : Nat) (B : List Lb) (hao' : B ≠ [] → ao' = some ⟨b', o', none⟩) (hl : A.length ≤ 9223372036854775807) (hl' : B.length ≤ 9223372036854775807) (w : World) (hA : RowL w b o A) (hC : RowL w b' o' B) :
    Calls Tryz.prog 166 #[.slice ao A.length cap, .slice ao' B.length cap', .func (.func 167) #[] #[]] w fun e w' => e = .returned (.int .i64 (ordL A B)) ∧ Below w.heap.size w w' := by
  have HC : Hid (∀ (x1 x2 y1 y2 : List UInt8) (W : World), Calls Tryz.prog 167 #[.agg #[.string ⟨x1.toArray⟩, .string ⟨x2.toArray⟩], .agg #[.string ⟨y1.toArray⟩, .string ⟨y2.toArray⟩]] W fun r w' => r = .returned (.int .i64 (ordB (x1, x2) (y1, y2))) ∧ Below W.heap.size W w') := fun x1 x2 y1 y2 W => cmpl_any x1 x2 y1 y2 W
  obtain ⟨R, hR⟩ : ∃ R, R = ordL A B := ⟨_, rfl⟩
  rw [← hR]
  have HR0 : Hid (R = ordL (A.drop 0) (B.drop 0)) := hR
  have HK0 : Hid (KD w b o b' o' A B w) := ⟨hA, hC, Below.refl _ _⟩
  clear hR hA hC
  go_enter Tryz.func166, Tryz.ntmps166
  go_wp2_with fail
  go_loopw [13] (fun a W => ∃ i : Nat, i ≤ A.length ∧ i ≤ B.length ∧ a = .int .i64 (i : Int) ∧ Hid (R = ordL (A.drop i) (B.drop i)) ∧ Hid (KD w b o b' o' A B W)) (fun a _ => A.length - (intOf a).toNat)
  case atStart => exact ⟨0, by omega, by omega, rfl, HR0, HK0⟩
  case round =>
    clear HK0 HR0
    obtain ⟨i, hi, hj, rfl, HR, HK⟩ := hrel
    by_cases hlt : i < A.length
    · have hlt' : (i : Int) < (A.length : Int) := by omega
      obtain rfl := hao (by intro k; rw [k] at hlt; simp at hlt)
      obtain ⟨q1, q2⟩ := HK.out.r1 i hlt
      have hS := HR.out
      rw [List.drop_eq_getElem_cons hlt] at hS
      clear HR
      by_cases hlb : i < B.length
      · have hlb' : ¬ (B.length : Int) ≤ (i : Int) := by omega
        have hlb2 : (i : Int) < (B.length : Int) := by omega
        obtain rfl := hao' (by intro k; rw [k] at hlb; simp at hlb)
        rw [List.drop_eq_getElem_cons hlb, ordL_cons] at hS
        obtain ⟨p1, p2⟩ := HK.out.r2 i hlb
        have HC1 : Hid _ := HC.out A[i].1 A[i].2 B[i].1 B[i].2
        have HKn : Hid (∀ t, KD w b o b' o' A B (wr.alloc (.cells #[.string ⟨A[i].1.toArray⟩, .string ⟨A[i].2.toArray⟩] t))) := fun t => HK.out.below (bel1 wr _)
        have n1 := ((HKn.out 146).r2 i hlb).1
        have n2 := ((HKn.out 146).r2 i hlb).2
        have HKm : Hid (∀ t t', KD w b o b' o' A B ((wr.alloc (.cells #[.string ⟨A[i].1.toArray⟩, .string ⟨A[i].2.toArray⟩] t)).alloc (.cells #[.string ⟨B[i].1.toArray⟩, .string ⟨B[i].2.toArray⟩] t'))) := fun t t' => (HK.out.below (bel1 wr _)).below (bel1 _ _)
        have hS' : R = if ordB A[i] B[i] ≠ 0 then ordB A[i] B[i] else ordL (A.drop (i + 1)) (B.drop (i + 1)) := hS
        have HC2 : Hid (∀ (W : World), Calls Tryz.prog 167 #[.agg #[.string ⟨A[i].1.toArray⟩, .string ⟨A[i].2.toArray⟩], .agg #[.string ⟨B[i].1.toArray⟩, .string ⟨B[i].2.toArray⟩]] W fun r w' => r = .returned (.int .i64 (ordB A[i] B[i])) ∧ Below W.heap.size W w') := HC1.out
        clear hS HC HC1 HKn
        generalize ordB A[i] B[i] = bz at *
        generalize A[i].1 = x1 at *
        generalize A[i].2 = x2 at *
        generalize B[i].1 = y1 at *
        generalize B[i].2 = y2 at *
        by_cases e2 : bz = 0
        · subst e2
          rw [if_neg (by decide)] at hS'
          have HF : Hid _ := hS'
          clear hS' HK
          as_aux_lemma =>
            go_wp2_with fail
            refine (HC2.out _).mono ?_
            rintro e w1 ⟨rfl, hb⟩
            have HK5 : Hid _ := (HKm.out _ _).below hb
            clear HC2 HKm hb n1 n2
            go_wp2_with fail
            exact ⟨⟨i + 1, by omega, by omega, by go_num, HF, HK5⟩, by simp [intOf]; omega⟩
        · have e2' : (bz != 0) = true := by simpa using e2
          rw [if_pos e2] at hS'
          have HF : Hid _ := hS'
          clear hS' e2 HK
          as_aux_lemma =>
            go_wp2_with fail
            refine (HC2.out _).mono ?_
            rintro e w1 ⟨rfl, hb⟩
            have hbl := ((HKm.out _ _).below hb).bl
            clear HC2 HKm hb n1 n2
            go_wp2_with fail
            go_ret
            exact ⟨retI HF.out.symm, hbl⟩
      · have hlb' : (B.length : Int) ≤ (i : Int) := by omega
        have hBn : B.drop i = [] := List.drop_eq_nil_of_le (by omega)
        rw [hBn, ordL] at hS
        have HF : Hid _ := hS
        have HB1 : Hid (∀ o, Below w.heap.size w (wr.alloc o)) := fun o => HK.out.bl.trans ((bel1 wr o).mono HK.out.bl.size)
        clear hS HC HK
        as_aux_lemma =>
          go_wp2_with fail
          go_ret
          exact ⟨retI HF.out.symm, HB1.out _⟩
    · have hlt' : ¬ (i : Int) < (A.length : Int) := by omega
      have hS := HR.out
      rw [List.drop_eq_nil_of_le (by omega)] at hS
      have hbl := HK.out.bl
      clear HR HK HC
      by_cases z : A.length < B.length
      · have z' : (A.length : Int) < (B.length : Int) := by omega
        have HF : Hid (R = -1) := by
          show R = -1
          rw [hS, List.drop_eq_getElem_cons (show i < B.length by omega), ordL]
        clear hS
        as_aux_lemma =>
          go_wp2_with fail
          go_ret
          exact ⟨retI HF.out.symm, hbl⟩
      · have z' : ¬ (A.length : Int) < (B.length : Int) := by omega
        have HF : Hid (R = 0) := by
          show R = 0
          rw [hS, List.drop_eq_nil_of_le (by omega), ordL]
        clear hS
        as_aux_lemma =>
          go_wp2_with fail
          go_ret
          exact ⟨retI HF.out.symm, hbl⟩
set_option maxRecDepth 100000 in
set_option maxHeartbeats 2000000 in
theorem ccompare_any (d e : Ds) (v u : Value) (w : World) (hd : DsC w d v) (he : DsC w e u) :
    Calls Tryz.prog 144 #[v, u] w fun r w' => r = .returned (.int .i64 (ordD d e)) ∧ Below w.heap.size w w' := by
  obtain ⟨ao, b, o, cap, rfl, h1, h2, h3, h4⟩ := hd
  obtain ⟨ao', b', o', cap', rfl, k1, k2, k3, k4⟩ := he
  obtain ⟨kd, n, h, A⟩ := d
  obtain ⟨kd', n', h', B⟩ := e
  simp only at *
  have H1 : Hid _ := fun W => cmp_any n n' W
  have H2 : Hid (∀ W, RowL W b o A → RowL W b' o' B → Calls Tryz.prog 166 #[.slice ao A.length cap, .slice ao' B.length cap', .func (.func 167) #[] #[]] W fun e w' => e = .returned (.int .i64 (ordL A B)) ∧ Below W.heap.size W w') := fun W g1 g2 => cmpf_any ao b o cap A h1 ao' b' o' cap' B k1 (by omega) (by omega) W g1 g2
  have HA : Hid (RowL w b o A) := h4
  have HB : Hid (RowL w b' o' B) := k4
  unfold ordD
  simp only
  generalize ordE n n' = z1 at *
  generalize ordL A B = z2 at *
  clear h1 h2 h3 h4 k1 k2 k3 k4
  by_cases e1 : z1 = 0
  · subst e1
    rw [if_neg (by decide)]
    as_aux_lemma =>
      go_enter Tryz.func144, Tryz.ntmps144
      go_wp2_with (go_at_call 165; refine (H1.out _).mono ?_; rintro e1 w1 ⟨rfl, rfl⟩)
      refine (H2.out _ (RowL.below HA.out (bel2 w _ _)) (RowL.below HB.out (bel2 w _ _))).mono ?_
      rintro e1 w1 ⟨rfl, hb⟩
      have hb0 : Below w.heap.size w w1 := (bel2 w _ _).trans (hb.mono (by simp; omega))
      go_wp2_with fail
      go_ret
      exact ⟨rfl, hb0⟩
  · rw [if_pos e1]
    have e1' : (z1 != 0) = true := by simpa using e1
    clear e1 H2 HA HB
    as_aux_lemma =>
      go_enter Tryz.func144, Tryz.ntmps144
      go_wp2_with (go_at_call 165; refine (H1.out _).mono ?_; rintro e1 w1 ⟨rfl, rfl⟩)
      go_ret
      exact ⟨rfl, bel2 w _ _⟩
end Go.Proofs.YtliehacfoiigpaaGreatDoor.La
/- THE CODE'S escape, Help. Own work of the verifier. -/
namespace Go.Proofs.YtliehacfoiigpaaGreatDoor.La
open Go.RowKit

/-- A builder at block k (B or behind it) that holds a text; w0: the world in which all began. -/
structure BS (B k : Nat) (w0 : World) (l : List UInt8) (W : World) : Prop where
  ib : Lib.IsBuilderF 89 5 B k (Lib.byteCells l) W
  bl : Below B w0 W
  ok : Lib.OthersKept 5 (some k) w0 W
  sz : B ≤ W.heap.size
/-- A call's contract, kept from the walker's sight. -/
def HidC (P : Program) (f : FuncId) (args : Array Value) (w : World) (Q : Ending → World → Prop) : Prop := Calls P f args w Q
theorem HidC.out {P : Program} {f : FuncId} {args : Array Value} {w : World} {Q : Ending → World → Prop} (h : HidC P f args w Q) : Calls P f args w Q := h
theorem wb_any {B k : Nat} {w0 w : World} {l : List UInt8} (b : UInt8) (h : BS B k w0 l w) (hl : l.length + 1 ≤ 140737488355328) :
    Calls Tryz.prog 54 #[.pointer (some ⟨k, 0, none⟩), .int .u8 (b.toNat : Int)] w fun e w' => e = .returned .nilIface ∧ BS B k w0 (l ++ [b]) w' := by
  refine (Tryz.wbyte B k (Lib.byteCells l) (b.toNat : Int) w h.ib (by rw [Lib.byteCells_length]; exact hl) h.sz).mono ?_
  rintro e w' ⟨rfl, h1, h2, h3⟩
  exact ⟨rfl, by rw [Lib.byteCells_append]; exact Or.inr h1, h.bl.trans h2, h.ok.trans h3, Nat.le_trans h.sz h2.size⟩
theorem bstr_any {B k : Nat} {w0 w : World} {l : List UInt8} (h : BS B k w0 l w) :
    Calls Tryz.prog 53 #[.pointer (some ⟨k, 0, none⟩)] w fun e w' => e = .returned (.string ⟨l.toArray⟩) ∧ BS B k w0 l w' := by
  refine (Tryz.Builder_String_any_k B k l w h.ib h.sz).mono ?_
  rintro e w' ⟨rfl, h1, h2, h3⟩
  exact ⟨rfl, h1, h.bl.trans h2, h.ok.trans h3, Nat.le_trans h.sz h2.size⟩
theorem BS.new (w : World) : BS w.heap.size w.heap.size w [] (w.alloc (.cells #[.pointer none, .slice none 0 0] 89)) :=
  ⟨Lib.IsBuilderF.of (Lib.fresh_isBuilder _ _ w), bel1 w _, (Lib.OthersKept.refl _ _ _).alloc _, by simp⟩
/-- Which bytes are written behind a backslash. -/
def spc (q : Bool) : List UInt8 := if q then [92, 34] else [92]
theorem idx_spc (q : Bool) (b : UInt8) : (0 : Int) ≤ Lib.indexByte (spc q) b ↔ (b.toNat = 92 ∨ q = true ∧ b.toNat = 34) := by
  have n1 : ∀ (x y : UInt8), x = y ↔ x.toNat = y.toNat := fun x y => ⟨fun e => by rw [e], fun e => UInt8.toNat_inj.1 e⟩
  have e1 : (92 : UInt8) = b ↔ b.toNat = 92 := by rw [n1]; exact eq_comm
  have e2 : (34 : UInt8) = b ↔ b.toNat = 34 := by rw [n1]; exact eq_comm
  cases q
  · show 0 ≤ Lib.indexByte [92] b ↔ _
    simp only [Lib.indexByte, beq_iff_eq, e1]
    split <;> rename_i h <;> simp [h]
  · show 0 ≤ Lib.indexByte [92, 34] b ↔ _
    simp only [Lib.indexByte, beq_iff_eq, e1, e2]
    split <;> rename_i h
    · simp [h]
    · split <;> rename_i h2
      · simp only [h2]; decide
      · simp [h, h2]
theorem idx_any (q : Bool) (b : UInt8) (w : World) :
    Calls Tryz.prog 52 #[.string ⟨(spc q).toArray⟩, .int .u8 (b.toNat : Int)] w fun e w' => e = .returned (.int .i64 (Lib.indexByte (spc q) b)) ∧ w' = w := by
  have h := Tryz.strings_IndexByte ⟨(spc q).toArray⟩ (b.toNat : Int) w
  have hb : ((b.toNat : Int).toNat).toUInt8 = b := by simp
  rw [hb] at h
  exact h
end Go.Proofs.YtliehacfoiigpaaGreatDoor.La
