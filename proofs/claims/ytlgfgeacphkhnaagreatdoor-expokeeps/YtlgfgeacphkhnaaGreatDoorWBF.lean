/- THE DOCUMENT'S TEXT OF A SNAPSHOT: rows of bytes that grow; Whole, Kind, line. Own work of the verifier. -/
import Derived.Test.YtlgfgeacphkhnaaGreatDoorWBE
import Derived.Test.YtlgfgeacphkhnaaGreatDoorWAD
namespace Go.Proofs.YtlgfgeacphkhnaaGreatDoor
open Go.RowKit Me

structure Gr (u w0 : World) (bv : Value) (T : List UInt8) (W : World) : Prop where
 own : W.ownsRow u.heap.size 5 1 bv T.length (Lib.byteCells T)
 st : Below u.heap.size u W
 ok : Lib.OthersKept 5 none w0 W
theorem Gr.re {u w0 W : World} {bv : Value} {T : List UInt8} (h : Gr u w0 bv T W) : Gr u W bv T W := ⟨h.own, h.st, Lib.OthersKept.refl _ _ _⟩
theorem Gr.then {u w0 W W1 : World} {bv bv1 : Value} {T T1 : List UInt8} (h : Gr u w0 bv T W) (k : Gr u W bv1 T1 W1) : Gr u w0 bv1 T1 W1 := ⟨k.own, k.st, h.ok.trans k.ok⟩
theorem Gr.below {u w0 W W1 : World} {bv : Value} {T : List UInt8} (h : Gr u w0 bv T W) (hb : Below W.heap.size W W1) : Gr u w0 bv T W1 := ⟨own_belG h.own hb, bt h.st hb, h.ok.below hb⟩
theorem Gr.alloc {u w0 W : World} {bv : Value} {T : List UInt8} (h : Gr u w0 bv T W) (o : Obj) : Gr u w0 bv T (W.alloc o) := h.below (bel1 W o)
theorem Gr.cells {u W W1 : World} {g : Nat} {bv : Value} {T : List UInt8} {cs : Array Value} {t : TypeId} (h : Gr u W bv T W1) (hg : W.heap[g]? = some (.cells cs t)) (ht : t ≠ 5) : W1.heap[g]? = some (.cells cs t) :=
 h.ok g _ hg (fun e => by cases e) (fun c fz e => ht (by injection e))
theorem Gr.form {u w0 W : World} {bv : Value} {T : List UInt8} (h : Gr u w0 bv T W) : ∃ ao cap, bv = .slice ao T.length cap := own_slice8 h.own
theorem Gr.grow {u w0 W W1 : World} {bv v : Value} {T S : List UInt8} (h : Gr u w0 bv T W) (hown : W1.ownsRow u.heap.size 5 1 v (T ++ S).length (Lib.byteCells (T ++ S))) (hg : W.grownBy W1 bv.ownBlock) : Gr u w0 v (T ++ S) W1 := by
 refine ⟨hown, ?_, h.ok.grown hg (own_kind8 h.own)⟩
 exact ⟨hg.os.trans h.st.os, hg.tape.trans h.st.tape, hg.output.trans h.st.output, Nat.le_trans h.st.size hg.size, fun k hk => by
  rw [hg.block k (by have := h.st.size; omega) ?_]
  ·exact h.st.block k hk
  ·intro e
   rcases own_atG h.own with q | ⟨g, q1, q2, _⟩
   ·rw [q] at e; cases e
   ·rw [q1] at e; cases e; omega⟩
def dvT (T : List UInt8) : List (List UInt8) → List UInt8
 | [] => T
 | l :: A => dvT (if fitB T then T ++ l else T) A
theorem dvT_app (A C : List (List UInt8)) : ∀ T, dvT T (A ++ C) = dvT (dvT T A) C := by
 induction A with
 | nil => intro T; rfl
 | cons l A ih => intro T; rw [List.cons_append, dvT, dvT, ih]
theorem fit_ln {T : List UInt8} (h : fitB T = true) : T.length ≤ 4194304 := by
 unfold fitB at h
 simp only [decide_eq_true_eq] at h
 omega
theorem fit_no {T S : List UInt8} (h : fitB T = false) : fitB (T ++ S) = false := by
 unfold fitB at *
 rw [decide_eq_false_iff_not] at *
 rw [List.length_append]
 omega
theorem dvT_no (A : List (List UInt8)) : ∀ T, fitB T = false → dvT T A = T := by
 induction A with
 | nil => intro T _; rfl
 | cons l A ih => intro T h; rw [dvT, h]; exact ih T h
theorem dvT_yes (A : List (List UInt8)) : ∀ T, fitB T = true → (fitB (T ++ A.flatten) = true → dvT T A = T ++ A.flatten) ∧ (fitB (T ++ A.flatten) = false → fitB (dvT T A) = false) := by
 induction A with
 | nil => intro T h; exact ⟨fun _ => by simp [dvT], fun k => by simpa [dvT] using k⟩
 | cons l A ih =>
  intro T h
  rw [dvT, h, List.flatten_cons, ← List.append_assoc]
  simp only [if_true]
  by_cases k : fitB (T ++ l) = true
  ·exact ih _ k
  ·have k' : fitB (T ++ l) = false := by simpa using k
   rw [dvT_no A _ k']
   exact ⟨fun q => absurd ((fit_no k').symm.trans q) (by decide), fun _ => k'⟩
set_option maxHeartbeats 1000000 in
theorem dwhole_any (n : Nat) (hn : n < 18446744073709551616) (w : World) : Calls Tryz.prog 10 #[.int .u64 (n : Int)] w fun e w' => e = .returned (.string ⟨(Lib.decDigits n).toArray⟩) ∧ Below w.heap.size w w' := by
 have HU : Hid (∀ W, Calls Tryz.prog 22 #[.int .u64 (n : Int)] W fun e w' => e = .returned (.agg #[.int .i64 0, .int .u64 (n : Int)]) ∧ Below W.heap.size W w') := fun W => by
  have q := refuns_any (n : Int) (by omega) (by omega) W
  rw [num_of (h := 0) (l := (n : Int)) (by unfold hiOf loOf; constructor <;> omega)] at q
  exact q
 have HP : Hid (∀ W, Calls Tryz.prog 21 #[.agg #[.int .i64 0, .int .u64 (n : Int)]] W fun e w' => e = .returned (.string ⟨(Lib.decDigits n).toArray⟩) ∧ Below W.heap.size W w') := fun W => by
  have hv : val 0 (n : Int) = (n : Int) := by unfold val; omega
  have q := Wi.refprint_any 0 (n : Int) (by constructor <;> omega) W
  rw [hv, Lib.itoa_nonneg] at q
  exact q
 go_enter Tryz.func10, Tryz.ntmps10
 go_wp2_with fail
 refine (HU.out _).mono ?_
 rintro e w1 ⟨rfl, hb1⟩
 go_wp2_with fail
 refine (HP.out _).mono ?_
 rintro e w2 ⟨rfl, hb2⟩
 go_wp2_with fail
 go_ret
 exact ⟨rfl, bt hb1 hb2⟩
end Go.Proofs.YtlgfgeacphkhnaaGreatDoor
/- THE DOCUMENT'S TEXT OF A SNAPSHOT: line. Own work of the verifier. -/
namespace Go.Proofs.YtlgfgeacphkhnaaGreatDoor
open Go.RowKit Me

theorem own_emptyL (w : World) : GL w.heap.size w (.slice (some ⟨w.heap.size, 0, none⟩) 0 0) [] (w.alloc (.cells #[] 46)) :=
 ⟨⟨rfl, Or.inr ⟨w.heap.size, 0, #[], rfl, Nat.le_refl _, new_1 w _, Nat.le_refl _, by decide, rfl, rfl⟩⟩, bel1 _ _, by simp⟩
abbrev lbV (a : La.Lb) : Value := .agg #[.string ⟨a.1.toArray⟩, .string ⟨a.2.toArray⟩]
set_option maxRecDepth 100000 in
set_option maxHeartbeats 400000 in
theorem dline_no (u : World) (bv : Value) (T : List UInt8) (d : La.Ds) (lv : Value) (en nu : List UInt8) (a : La.Lb) (w : World) (h : Gr u w bv T w) (hT : fitB T = false) :
  Calls Tryz.prog 24 #[bv, dsV d lv, .string ⟨en.toArray⟩, lbV a, .string ⟨nu.toArray⟩] w fun e w' => e = .returned bv ∧ Gr u w bv T w' := by
 obtain ⟨ao, cap, rfl⟩ := h.form
 have hl : (4194304 : Int) < (T.length : Int) := by
  unfold fitB at hT
  rw [decide_eq_false_iff_not] at hT
  omega
 have HF := hid_of ((h.alloc (.cells #[.int .i64 d.kind, .string ⟨d.name.toArray⟩, .string ⟨d.help.toArray⟩, lv] 30)).alloc (.cells #[.string ⟨a.1.toArray⟩, .string ⟨a.2.toArray⟩] 46))
 clear h hT
 go_enter Tryz.func24, Tryz.ntmps24
 go_wp2_with fail
 go_ret
 exact ⟨rfl, HF.out⟩
set_option maxRecDepth 100000 in
set_option maxHeartbeats 1000000 in
theorem dline_0 (u : World) (bv : Value) (T : List UInt8) (d : La.Ds) (lv : Value) (en nu : List UInt8) (w : World) (h : Gr u w bv T w) (hl : SLb u lv d.labels) (hs : Sho d []) (he : en.length ≤ 100) (hn : nu.length ≤ 1000) (hT : fitB T = true) :
  Calls Tryz.prog 24 #[bv, dsV d lv, .string ⟨en.toArray⟩, lbV ([], []), .string ⟨nu.toArray⟩] w fun e w' => ∃ bv', e = .returned bv' ∧ Gr u w bv' (T ++ seT d en [] nu) w' := by
 obtain ⟨i0, hi, hz0, hz1, hz2⟩ := info_parts infoLb
 obtain ⟨i8, hi8, hy0, hy1, hy2⟩ := info_parts info8
 obtain ⟨ao, cap, rfl⟩ := h.form
 obtain ⟨lo, lcap, rfl⟩ := hl.form
 have hTl := fit_ln hT
 have hl1 : ¬ (4194304 : Int) < (T.length : Int) := by omega
 have hsl := hs.len en he
 have hll : d.labels.length ≤ 100 := by have := hs.l; rw [List.length_append] at this; omega
 have hadd : ∀ W, (Op.stringOp .add ⟨d.name.toArray⟩ ⟨en.toArray⟩).run Tryz.prog W = .ok (.string ⟨(d.name ++ en).toArray⟩) W := fun W => La.sadd _ _ (by have := hs.n; omega) W
 rw [List.append_nil] at hsl
 obtain ⟨W1, hW1⟩ : ∃ W1, W1 = (w.alloc (.cells #[.int .i64 d.kind, .string ⟨d.name.toArray⟩, .string ⟨d.help.toArray⟩, .slice lo d.labels.length lcap] 30)).alloc (.cells #[.string ⟨#[]⟩, .string ⟨#[]⟩] 46) := ⟨_, rfl⟩
 have hb1 : Below w.heap.size w W1 := by rw [hW1]; exact bt (bel1 _ _) (bel1 _ _)
 have k1 : ∀ W, Below W1.heap.size W1 W → W.cell? ⟨w.heap.size, 3, none⟩ = some (.slice lo d.labels.length lcap) ∧ W.cell? ⟨w.heap.size, 1, none⟩ = some (.string ⟨d.name.toArray⟩) ∧ W.cell? ⟨w.heap.size + 1, 0, none⟩ = some (.string ⟨#[]⟩) := fun W hb => by
  refine ⟨?_, ?_, ?_⟩ <;> (refine cellB hb ?_; rw [hW1]; simp [go_sem])
 have HK := hid_of k1
 obtain ⟨q1, q2, q3⟩ := k1 _ (bel1 W1 (.cells #[] 46))
 have HG0 := hid_of (own_emptyL W1)
 have HP1 := hid_of (h.below hb1)
 have HL : Hid (∀ W, Below W1.heap.size W1 W → SLb W (.slice lo d.labels.length lcap) d.labels) := fun W hb => (hl.below ((h.below hb1).below hb).st)
 have HPr : Hid (∀ (ao : Option Addr) (b cap : Nat) (W : World), (d.labels ≠ [] → ao = some ⟨b, 0, none⟩) → La.RowL W b 0 d.labels → Calls Tryz.prog 49 #[.string ⟨(d.name ++ en).toArray⟩, .slice ao d.labels.length cap] W fun r w' => r = .returned (.string ⟨(La.printT (d.name ++ en) d.labels).toArray⟩) ∧ Below W.heap.size W w') :=
  fun ao b cap W h1 h2 => La.dprint_any _ ao b 0 cap _ h1 (by omega) (fun a ha => by have := (hs.v a (by simpa using ha)).2; omega) (by omega) W h2
 have hR : T ++ seT d en [] nu = T ++ (La.printT (d.name ++ en) d.labels ++ [32] ++ nu ++ [10]) := by simp [seT, lnT]
 rw [hR]
 have HW1 := hid_of hW1
 clear h hl hs he hT k1 hb1 hW1 hR
 generalize La.printT (d.name ++ en) d.labels = Y at HPr hsl ⊢
 generalize d.name ++ en = nn at HPr hadd
 obtain ⟨y1, hy1'⟩ : ∃ y1, y1 = Y ++ [32] := ⟨_, rfl⟩
 obtain ⟨y2, hy2'⟩ : ∃ y2, y2 = y1 ++ nu := ⟨_, rfl⟩
 obtain ⟨y3, hy3'⟩ : ∃ y3, y3 = y2 ++ [10] := ⟨_, rfl⟩
 have hl3 : y3.length ≤ 800000 := by rw [hy3', hy2', hy1']; simp; omega
 have a1 : ∀ W, (Op.stringOp .add ⟨Y.toArray⟩ ⟨#[32]⟩).run Tryz.prog W = .ok (.string ⟨y1.toArray⟩) W := fun W => by rw [hy1']; exact La.sadd Y [32] (by simp; omega) W
 have a2 : ∀ W, (Op.stringOp .add ⟨y1.toArray⟩ ⟨nu.toArray⟩).run Tryz.prog W = .ok (.string ⟨y2.toArray⟩) W := fun W => by rw [hy2']; exact La.sadd y1 nu (by rw [hy1']; simp; omega) W
 have a3 : ∀ W, (Op.stringOp .add ⟨y2.toArray⟩ ⟨#[10]⟩).run Tryz.prog W = .ok (.string ⟨y3.toArray⟩) W := fun W => by rw [hy3']; exact La.sadd y2 [10] (by rw [hy2', hy1']; simp; omega) W
 rw [← hy1', ← hy2', ← hy3']
 clear hy1' hy2' hy3' hsl hn
 have hsz : (ByteArray.mk y3.toArray).size = y3.length := by show y3.toArray.size = _; simp
 go_enter Tryz.func24, Tryz.ntmps24
 go_upto_region 3 with fail
 rw [← HW1.out]
 go_upto_region 4 with fail
 have HLn := HL.out _ (bel1 W1 (.cells #[] 46))
 have HFin : Hid (∀ v2 w2, GL W1.heap.size W1 v2 d.labels w2 → ∃ a2 b2 c2, v2 = .slice a2 d.labels.length c2 ∧ w2.cell? ⟨w.heap.size + 1, 0, none⟩ = some (.string ⟨#[]⟩) ∧ w2.cell? ⟨w.heap.size, 1, none⟩ = some (.string ⟨d.name.toArray⟩) ∧ La.HidC Tryz.prog 49 #[.string ⟨nn.toArray⟩, .slice a2 d.labels.length c2] w2 (fun r w' => r = .returned (.string ⟨Y.toArray⟩) ∧ Below w2.heap.size w2 w') ∧ Gr u w (.slice ao T.length cap) T w2) := fun v2 w2 hg => by
  obtain ⟨a2, b2, c2, rfl, ha2, hr2⟩ := hg.row
  obtain ⟨z1, z2, z3⟩ := HK.out w2 hg.below
  exact ⟨a2, b2, c2, rfl, z3, z2, HPr.out a2 b2 c2 w2 ha2 hr2, HP1.out.below hg.below⟩
 rcases HLn.cs with ⟨hv0, hL0⟩ | ⟨aA, cA, hvA, hRA⟩
 ·have HG2 : Hid (GL W1.heap.size W1 (.slice (some ⟨W1.heap.size, 0, none⟩) 0 0) d.labels (W1.alloc (.cells #[] 46))) := by unfold Hid; rw [hL0]; exact HG0.out
  rw [hv0] at q1
  clear HLn HL HK HPr HG0
  obtain ⟨a2, b2, c2, e2, z1, z2, HC, HG⟩ := HFin.out _ _ HG2.out
  have HGp := hid_of HG
  clear HFin HG2 hv0 hL0 q2 q3 HG
  obtain ⟨rfl, e3, rfl⟩ : a2 = some ⟨W1.heap.size, 0, none⟩ ∧ d.labels.length = 0 ∧ c2 = 0 := by simp at e2; exact ⟨e2.1.symm, e2.2.1.symm, e2.2.2.symm⟩
  rw [e3] at HC
  clear e2
  go_wp2_with fail
  refine (HC.out).mono ?_
  rintro e w3 ⟨rfl, hb3⟩
  have HG3 := hid_of (HGp.out.below hb3)
  have HO3 := hid_of HG3.out.own
  have hst := HG3.out.st.size
  clear HC hb3 HGp
  go_wp2_with (at_builtin; refine Lib.wpList_append_own_string _ rfl _ _ 41 9 rfl u.heap.size 5 i8 Tryz.underlying41 Tryz.underlying9 hi8 hy0 hy1 hy2 _ _ _ rfl HO3.out ⟨y3.toArray⟩ rfl ?c1 ?c2 ?c3 ?_)
  case c1 => rw [hsz]; unfold maxLen; omega
  case c2 => rw [hsz]; omega
  case c3 => exact hst
  intro v4 w4 o4 g4 n4
  replace o4 : w4.ownsRow u.heap.size 5 1 v4 (T ++ y3).length (Lib.byteCells (T ++ y3)) := by
   rw [List.length_append, Lib.byteCells_append]
   exact o4
  have HF4 := hid_of (HG3.out.grow o4 g4)
  obtain ⟨a4, c4, rfl⟩ := own_slice8 o4
  clear o4 g4 n4 HG3 HO3
  go_wp2_with fail
  go_ret
  exact ⟨_, rfl, HF4.out⟩
 ·obtain ⟨rfl, rfl⟩ : lo = some aA ∧ cA = lcap := by have h := hvA; simp at h; exact ⟨h.1, h.2.symm⟩
  have HcA := hid_of hRA
  have hgs := HG0.out.size
  have HOw : Hid ((W1.alloc (.cells #[] 46)).ownsRow W1.heap.size 46 2 (.slice (some ⟨W1.heap.size, 0, none⟩) 0 0) 0 []) := HG0.out.own
  clear hvA hRA HLn HL HK HPr
  go_wp2_with (at_builtin; go_must (refine wpList_append_own _ rfl _ _ 28 rfl W1.heap.size 46 i0 (.agg #[.string ⟨#[]⟩, .string ⟨#[]⟩]) 2 32 Tryz.underlying28 hi hz0 hz1 hz2 rfl (by decide) (.slice (some ⟨W1.heap.size, 0, none⟩) 0 0) 0 [] rfl HOw.out aA d.labels.length cA (flL d.labels) rfl (flL_length _) HcA.out (flL_one _) (by unfold maxLen; first | omega | (simp; omega)) (by first | omega | (simp; omega)) hgs ?_))
  intro v2 w2 hown hgrow hnil
  have hg2 := hid_of (HG0.out.grow (ys := d.labels) (by rw [List.length_nil, Nat.zero_add]; exact hown) hgrow)
  clear hown hgrow hnil
  rw [List.nil_append] at hg2
  go_upto_region 5 with fail
  obtain ⟨a2, b2, c2, rfl, z1, z2, HC, HG⟩ := HFin.out _ _ hg2.out
  have HGp := hid_of HG
  clear HFin HG HG0 HOw hgs q1 q2 q3 HcA hg2
  go_wp2_with fail
  refine (HC.out).mono ?_
  rintro e w3 ⟨rfl, hb3⟩
  have HG3 := hid_of (HGp.out.below hb3)
  have HO3 := hid_of HG3.out.own
  have hst := HG3.out.st.size
  clear HC hb3 HGp
  go_wp2_with (at_builtin; refine Lib.wpList_append_own_string _ rfl _ _ 41 9 rfl u.heap.size 5 i8 Tryz.underlying41 Tryz.underlying9 hi8 hy0 hy1 hy2 _ _ _ rfl HO3.out ⟨y3.toArray⟩ rfl ?d1 ?d2 ?d3 ?_)
  case d1 => rw [hsz]; unfold maxLen; omega
  case d2 => rw [hsz]; omega
  case d3 => exact hst
  intro v4 w4 o4 g4 n4
  replace o4 : w4.ownsRow u.heap.size 5 1 v4 (T ++ y3).length (Lib.byteCells (T ++ y3)) := by
   rw [List.length_append, Lib.byteCells_append]
   exact o4
  have HF4 := hid_of (HG3.out.grow o4 g4)
  obtain ⟨a4, c4, rfl⟩ := own_slice8 o4
  clear o4 g4 n4 HG3 HO3
  go_wp2_with fail
  go_ret
  exact ⟨_, rfl, HF4.out⟩
end Go.Proofs.YtlgfgeacphkhnaaGreatDoor
/- THE DOCUMENT'S TEXT OF A SNAPSHOT: line, with a label more. Own work of the verifier. -/
namespace Go.Proofs.YtlgfgeacphkhnaaGreatDoor
open Go.RowKit Me

theorem cell2_new (w : World) (x y : Value) (t : TypeId) : ∀ j u, [x, y][j]? = some u → (w.alloc (.cells #[x, y] t)).cell? ((⟨w.heap.size, 0, none⟩ : Addr).add j) = some u := by
 intro j u hj
 match j, hj with
 | 0, hj => simp at hj; subst hj; simp [go_sem]
 | 1, hj => simp at hj; subst hj; simp [go_sem]
 | k + 2, hj => simp at hj
set_option maxRecDepth 100000 in
set_option maxHeartbeats 1000000 in
theorem dline_le (u : World) (bv : Value) (T : List UInt8) (d : La.Ds) (lv : Value) (en nu le : List UInt8) (w : World) (h : Gr u w bv T w) (hl : SLb u lv d.labels) (hs : Sho d [([108, 101], le)]) (he : en.length ≤ 100) (hn : nu.length ≤ 1000) (hT : fitB T = true) :
  Calls Tryz.prog 24 #[bv, dsV d lv, .string ⟨en.toArray⟩, lbV ([108, 101], le), .string ⟨nu.toArray⟩] w fun e w' => ∃ bv', e = .returned bv' ∧ Gr u w bv' (T ++ seT d en [([108, 101], le)] nu) w' := by
 obtain ⟨i0, hi, hz0, hz1, hz2⟩ := info_parts infoLb
 obtain ⟨i8, hi8, hy0, hy1, hy2⟩ := info_parts info8
 obtain ⟨ao, cap, rfl⟩ := h.form
 obtain ⟨lo, lcap, rfl⟩ := hl.form
 have hTl := fit_ln hT
 have hl1 : ¬ (4194304 : Int) < (T.length : Int) := by omega
 have hsl := hs.len en he
 have hll : d.labels.length ≤ 100 := by have := hs.l; rw [List.length_append] at this; omega
 have hadd : ∀ W, (Op.stringOp .add ⟨d.name.toArray⟩ ⟨en.toArray⟩).run Tryz.prog W = .ok (.string ⟨(d.name ++ en).toArray⟩) W := fun W => La.sadd _ _ (by have := hs.n; omega) W
 obtain ⟨W1, hW1⟩ : ∃ W1, W1 = (w.alloc (.cells #[.int .i64 d.kind, .string ⟨d.name.toArray⟩, .string ⟨d.help.toArray⟩, .slice lo d.labels.length lcap] 30)).alloc (.cells #[.string ⟨#[108, 101]⟩, .string ⟨le.toArray⟩] 46) := ⟨_, rfl⟩
 have hb1 : Below w.heap.size w W1 := by rw [hW1]; exact bt (bel1 _ _) (bel1 _ _)
 have k1 : ∀ W, Below W1.heap.size W1 W → W.cell? ⟨w.heap.size, 3, none⟩ = some (.slice lo d.labels.length lcap) ∧ W.cell? ⟨w.heap.size, 1, none⟩ = some (.string ⟨d.name.toArray⟩) ∧ W.cell? ⟨w.heap.size + 1, 0, none⟩ = some (.string ⟨#[108, 101]⟩) ∧ W.cell? ⟨w.heap.size + 1, 1, none⟩ = some (.string ⟨le.toArray⟩) := fun W hb => by
  refine ⟨?_, ?_, ?_, ?_⟩ <;> (refine cellB hb ?_; rw [hW1]; simp [go_sem])
 have HK := hid_of k1
 obtain ⟨q1, q2, q3, q4⟩ := k1 _ (bel1 W1 (.cells #[] 46))
 have HG0 := hid_of (own_emptyL W1)
 have HP1 := hid_of (h.below hb1)
 have HL : Hid (∀ W, Below W1.heap.size W1 W → SLb W (.slice lo d.labels.length lcap) d.labels) := fun W hb => (hl.below ((h.below hb1).below hb).st)
 have HPr : Hid (∀ (ao : Option Addr) (b cap : Nat) (W : World), (d.labels ++ [([108, 101], le)] ≠ [] → ao = some ⟨b, 0, none⟩) → La.RowL W b 0 (d.labels ++ [([108, 101], le)]) → Calls Tryz.prog 49 #[.string ⟨(d.name ++ en).toArray⟩, .slice ao (d.labels ++ [([108, 101], le)]).length cap] W fun r w' => r = .returned (.string ⟨(La.printT (d.name ++ en) (d.labels ++ [([108, 101], le)])).toArray⟩) ∧ Below W.heap.size W w') :=
  fun ao b cap W h1 h2 => La.dprint_any _ ao b 0 cap _ h1 (by have := hs.l; omega) (fun a ha => by have := (hs.v a ha).2; omega) (by omega) W h2
 have hR : T ++ seT d en [([108, 101], le)] nu = T ++ (La.printT (d.name ++ en) (d.labels ++ [([108, 101], le)]) ++ [32] ++ nu ++ [10]) := by simp [seT, lnT]
 rw [hR]
 have HW1 := hid_of hW1
 clear h hl hs he hT k1 hb1 hW1 hR
 generalize La.printT (d.name ++ en) (d.labels ++ [([108, 101], le)]) = Y at HPr hsl ⊢
 generalize d.name ++ en = nn at HPr hadd
 obtain ⟨y1, hy1'⟩ : ∃ y1, y1 = Y ++ [32] := ⟨_, rfl⟩
 obtain ⟨y2, hy2'⟩ : ∃ y2, y2 = y1 ++ nu := ⟨_, rfl⟩
 obtain ⟨y3, hy3'⟩ : ∃ y3, y3 = y2 ++ [10] := ⟨_, rfl⟩
 have hl3 : y3.length ≤ 800000 := by rw [hy3', hy2', hy1']; simp; omega
 have a1 : ∀ W, (Op.stringOp .add ⟨Y.toArray⟩ ⟨#[32]⟩).run Tryz.prog W = .ok (.string ⟨y1.toArray⟩) W := fun W => by rw [hy1']; exact La.sadd Y [32] (by simp; omega) W
 have a2 : ∀ W, (Op.stringOp .add ⟨y1.toArray⟩ ⟨nu.toArray⟩).run Tryz.prog W = .ok (.string ⟨y2.toArray⟩) W := fun W => by rw [hy2']; exact La.sadd y1 nu (by rw [hy1']; simp; omega) W
 have a3 : ∀ W, (Op.stringOp .add ⟨y2.toArray⟩ ⟨#[10]⟩).run Tryz.prog W = .ok (.string ⟨y3.toArray⟩) W := fun W => by rw [hy3']; exact La.sadd y2 [10] (by rw [hy2', hy1']; simp; omega) W
 rw [← hy1', ← hy2', ← hy3']
 clear hy1' hy2' hy3' hsl hn
 have hsz : (ByteArray.mk y3.toArray).size = y3.length := by show y3.toArray.size = _; simp
 go_enter Tryz.func24, Tryz.ntmps24
 go_upto_region 3 with fail
 rw [← HW1.out]
 go_upto_region 4 with fail
 have HLn := HL.out _ (bel1 W1 (.cells #[] 46))
 have HMid : Hid (∀ v2 w2, GL W1.heap.size W1 v2 d.labels w2 → ∃ a2 c2, v2 = .slice a2 d.labels.length c2 ∧ w2.cell? ⟨w.heap.size + 1, 0, none⟩ = some (.string ⟨#[108, 101]⟩) ∧ w2.cell? ⟨w.heap.size + 1, 1, none⟩ = some (.string ⟨le.toArray⟩) ∧ Hid ((w2.alloc (.cells #[.string ⟨#[108, 101]⟩, .string ⟨le.toArray⟩] 46)).ownsRow W1.heap.size 46 2 (.slice a2 d.labels.length c2) d.labels.length (flL d.labels)) ∧ W1.heap.size ≤ (w2.alloc (.cells #[.string ⟨#[108, 101]⟩, .string ⟨le.toArray⟩] 46)).heap.size ∧ Hid (GL W1.heap.size W1 (.slice a2 d.labels.length c2) d.labels (w2.alloc (.cells #[.string ⟨#[108, 101]⟩, .string ⟨le.toArray⟩] 46)))) := fun v2 w2 hg => by
  obtain ⟨a2, b2, c2, rfl, ha2, hr2⟩ := hg.row
  obtain ⟨z1, z2, z3, z4⟩ := HK.out w2 hg.below
  have hb := bel1 w2 (.cells #[.string ⟨#[108, 101]⟩, .string ⟨le.toArray⟩] 46)
  have hgl : GL W1.heap.size W1 (.slice a2 d.labels.length c2) d.labels (w2.alloc (.cells #[.string ⟨#[108, 101]⟩, .string ⟨le.toArray⟩] 46)) := ⟨own_belG hg.own hb, bt hg.below hb, Nat.le_trans hg.size hb.size⟩
  exact ⟨a2, c2, rfl, z3, z4, hgl.own, hgl.size, hgl⟩
 have HFin : Hid (∀ v2 w2, GL W1.heap.size W1 v2 (d.labels ++ [([108, 101], le)]) w2 → ∃ a2 c2, v2 = .slice a2 (d.labels ++ [([108, 101], le)]).length c2 ∧ w2.cell? ⟨w.heap.size, 1, none⟩ = some (.string ⟨d.name.toArray⟩) ∧ La.HidC Tryz.prog 49 #[.string ⟨nn.toArray⟩, .slice a2 (d.labels ++ [([108, 101], le)]).length c2] w2 (fun r w' => r = .returned (.string ⟨Y.toArray⟩) ∧ Below w2.heap.size w2 w') ∧ Gr u w (.slice ao T.length cap) T w2) := fun v2 w2 hg => by
  obtain ⟨a2, b2, c2, rfl, ha2, hr2⟩ := hg.row
  obtain ⟨z1, z2, z3, z4⟩ := HK.out w2 hg.below
  exact ⟨a2, c2, rfl, z2, HPr.out a2 b2 c2 w2 ha2 hr2, HP1.out.below hg.below⟩
 rcases HLn.cs with ⟨hv0, hL0⟩ | ⟨aA, cA, hvA, hRA⟩
 ·have HG2 : Hid (GL W1.heap.size W1 (.slice (some ⟨W1.heap.size, 0, none⟩) 0 0) d.labels (W1.alloc (.cells #[] 46))) := by unfold Hid; rw [hL0]; exact HG0.out
  rw [hv0] at q1
  obtain ⟨a2, c2, e2, z3, z4, HOw2, hsz2, HGa⟩ := HMid.out _ _ HG2.out
  obtain ⟨e4, e3, e5⟩ : a2 = some ⟨W1.heap.size, 0, none⟩ ∧ d.labels.length = 0 ∧ c2 = 0 := by simp at e2; exact ⟨e2.1.symm, e2.2.1.symm, e2.2.2.symm⟩
  rw [e3, e4, e5] at HOw2 HGa
  have HE3 := hid_of e3
  clear HLn HL HK HPr HG0 HG2 hv0 hL0 q2 q3 q4 e2 e3 e4 e5
  have HN2 := hid_of (cell2_new (W1.alloc (.cells #[] 46)) (.string ⟨#[108, 101]⟩) (.string ⟨le.toArray⟩) 46)
  rw [show (W1.alloc (.cells #[] 46)).heap.size = W1.heap.size + 1 from by simp] at HN2
  go_upto_region 6 with fail
  go_wp2_with (at_builtin; go_must (refine wpList_append_own _ rfl _ _ 28 rfl W1.heap.size 46 i0 (.agg #[.string ⟨#[]⟩, .string ⟨#[]⟩]) 2 32 Tryz.underlying28 hi hz0 hz1 hz2 rfl (by decide) (.slice (some ⟨W1.heap.size, 0, none⟩) 0 0) 0 (flL d.labels) rfl HOw2.out ⟨W1.heap.size + 1, 0, none⟩ 1 1 [.string ⟨#[108, 101]⟩, .string ⟨le.toArray⟩] rfl rfl HN2.out (by intro u hu; simp at hu; rcases hu with rfl | rfl <;> rfl) (by unfold maxLen; first | omega | (simp; omega)) (by first | omega | (simp; omega)) hsz2 ?_))
  intro v5 w5 hown5 hgrow5 hnil5
  have hg5 := hid_of (HGa.out.grow (ys := [([108, 101], le)]) (by rw [HE3.out]; exact hown5) hgrow5)
  clear hown5 hgrow5 hnil5 HGa HOw2 hsz2
  obtain ⟨a6, c6, rfl, z6, HC, HG⟩ := HFin.out _ _ hg5.out
  have HGp := hid_of HG
  clear HFin HG hg5 HMid
  generalize (d.labels ++ [([108, 101], le)]).length = nL at HC ⊢
  go_wp2_with fail
  refine (HC.out).mono ?_
  rintro e w3 ⟨rfl, hb3⟩
  have HG3 := hid_of (HGp.out.below hb3)
  have HO3 := hid_of HG3.out.own
  have hst := HG3.out.st.size
  clear HC hb3 HGp
  go_wp2_with (at_builtin; refine Lib.wpList_append_own_string _ rfl _ _ 41 9 rfl u.heap.size 5 i8 Tryz.underlying41 Tryz.underlying9 hi8 hy0 hy1 hy2 _ _ _ rfl HO3.out ⟨y3.toArray⟩ rfl ?c1 ?c2 ?c3 ?_)
  case c1 => rw [hsz]; unfold maxLen; omega
  case c2 => rw [hsz]; omega
  case c3 => exact hst
  intro v4 w4 o4 g4 n4
  replace o4 : w4.ownsRow u.heap.size 5 1 v4 (T ++ y3).length (Lib.byteCells (T ++ y3)) := by
   rw [List.length_append, Lib.byteCells_append]
   exact o4
  have HF4 := hid_of (HG3.out.grow o4 g4)
  obtain ⟨a4, c4, rfl⟩ := own_slice8 o4
  clear o4 g4 n4 HG3 HO3
  go_wp2_with fail
  go_ret
  exact ⟨_, rfl, HF4.out⟩
 ·obtain ⟨rfl, rfl⟩ : lo = some aA ∧ cA = lcap := by have h := hvA; simp at h; exact ⟨h.1, h.2.symm⟩
  have HcA := hid_of hRA
  have hgs := HG0.out.size
  have HOw : Hid ((W1.alloc (.cells #[] 46)).ownsRow W1.heap.size 46 2 (.slice (some ⟨W1.heap.size, 0, none⟩) 0 0) 0 []) := HG0.out.own
  clear hvA hRA HLn HL HK HPr
  go_wp2_with (at_builtin; go_must (refine wpList_append_own _ rfl _ _ 28 rfl W1.heap.size 46 i0 (.agg #[.string ⟨#[]⟩, .string ⟨#[]⟩]) 2 32 Tryz.underlying28 hi hz0 hz1 hz2 rfl (by decide) (.slice (some ⟨W1.heap.size, 0, none⟩) 0 0) 0 [] rfl HOw.out aA d.labels.length cA (flL d.labels) rfl (flL_length _) HcA.out (flL_one _) (by unfold maxLen; first | omega | (simp; omega)) (by first | omega | (simp; omega)) hgs ?_))
  intro v2 w2 hown hgrow hnil
  have hg2 := hid_of (HG0.out.grow (ys := d.labels) (by rw [List.length_nil, Nat.zero_add]; exact hown) hgrow)
  clear hown hgrow hnil
  rw [List.nil_append] at hg2
  obtain ⟨a2, c2, rfl, z3, z4, HOw2, hsz2, HGa⟩ := HMid.out _ _ hg2.out
  clear HG0 HOw hgs q1 q2 q3 q4 HcA hg2
  go_upto_region 6 with fail
  go_wp2_with (at_builtin; go_must (refine wpList_append_own _ rfl _ _ 28 rfl W1.heap.size 46 i0 (.agg #[.string ⟨#[]⟩, .string ⟨#[]⟩]) 2 32 Tryz.underlying28 hi hz0 hz1 hz2 rfl (by decide) (.slice a2 d.labels.length c2) d.labels.length (flL d.labels) rfl HOw2.out ⟨w2.heap.size, 0, none⟩ 1 1 [.string ⟨#[108, 101]⟩, .string ⟨le.toArray⟩] rfl rfl (cell2_new _ _ _ _) (by intro u hu; simp at hu; rcases hu with rfl | rfl <;> rfl) (by unfold maxLen; first | omega | (simp; omega)) (by first | omega | (simp; omega)) hsz2 ?_))
  intro v5 w5 hown5 hgrow5 hnil5
  have hg5 := hid_of (HGa.out.grow (ys := [([108, 101], le)]) (by exact hown5) hgrow5)
  clear hown5 hgrow5 hnil5 HGa HOw2 hsz2
  obtain ⟨a6, c6, rfl, z6, HC, HG⟩ := HFin.out _ _ hg5.out
  have HGp := hid_of HG
  clear HFin HG hg5 HMid
  generalize (d.labels ++ [([108, 101], le)]).length = nL at HC ⊢
  go_wp2_with fail
  refine (HC.out).mono ?_
  rintro e w3 ⟨rfl, hb3⟩
  have HG3 := hid_of (HGp.out.below hb3)
  have HO3 := hid_of HG3.out.own
  have hst := HG3.out.st.size
  clear HC hb3 HGp
  go_wp2_with (at_builtin; refine Lib.wpList_append_own_string _ rfl _ _ 41 9 rfl u.heap.size 5 i8 Tryz.underlying41 Tryz.underlying9 hi8 hy0 hy1 hy2 _ _ _ rfl HO3.out ⟨y3.toArray⟩ rfl ?d1 ?d2 ?d3 ?_)
  case d1 => rw [hsz]; unfold maxLen; omega
  case d2 => rw [hsz]; omega
  case d3 => exact hst
  intro v4 w4 o4 g4 n4
  replace o4 : w4.ownsRow u.heap.size 5 1 v4 (T ++ y3).length (Lib.byteCells (T ++ y3)) := by
   rw [List.length_append, Lib.byteCells_append]
   exact o4
  have HF4 := hid_of (HG3.out.grow o4 g4)
  obtain ⟨a4, c4, rfl⟩ := own_slice8 o4
  clear o4 g4 n4 HG3 HO3
  go_wp2_with fail
  go_ret
  exact ⟨_, rfl, HF4.out⟩
set_option maxRecDepth 100000 in
set_option maxHeartbeats 1000000 in
theorem dline_qu (u : World) (bv : Value) (T : List UInt8) (d : La.Ds) (lv : Value) (en nu le : List UInt8) (w : World) (h : Gr u w bv T w) (hl : SLb u lv d.labels) (hs : Sho d [([113, 117, 97, 110, 116, 105, 108, 101], le)]) (he : en.length ≤ 100) (hn : nu.length ≤ 1000) (hT : fitB T = true) :
  Calls Tryz.prog 24 #[bv, dsV d lv, .string ⟨en.toArray⟩, lbV ([113, 117, 97, 110, 116, 105, 108, 101], le), .string ⟨nu.toArray⟩] w fun e w' => ∃ bv', e = .returned bv' ∧ Gr u w bv' (T ++ seT d en [([113, 117, 97, 110, 116, 105, 108, 101], le)] nu) w' := by
 obtain ⟨i0, hi, hz0, hz1, hz2⟩ := info_parts infoLb
 obtain ⟨i8, hi8, hy0, hy1, hy2⟩ := info_parts info8
 obtain ⟨ao, cap, rfl⟩ := h.form
 obtain ⟨lo, lcap, rfl⟩ := hl.form
 have hTl := fit_ln hT
 have hl1 : ¬ (4194304 : Int) < (T.length : Int) := by omega
 have hsl := hs.len en he
 have hll : d.labels.length ≤ 100 := by have := hs.l; rw [List.length_append] at this; omega
 have hadd : ∀ W, (Op.stringOp .add ⟨d.name.toArray⟩ ⟨en.toArray⟩).run Tryz.prog W = .ok (.string ⟨(d.name ++ en).toArray⟩) W := fun W => La.sadd _ _ (by have := hs.n; omega) W
 obtain ⟨W1, hW1⟩ : ∃ W1, W1 = (w.alloc (.cells #[.int .i64 d.kind, .string ⟨d.name.toArray⟩, .string ⟨d.help.toArray⟩, .slice lo d.labels.length lcap] 30)).alloc (.cells #[.string ⟨#[113, 117, 97, 110, 116, 105, 108, 101]⟩, .string ⟨le.toArray⟩] 46) := ⟨_, rfl⟩
 have hb1 : Below w.heap.size w W1 := by rw [hW1]; exact bt (bel1 _ _) (bel1 _ _)
 have k1 : ∀ W, Below W1.heap.size W1 W → W.cell? ⟨w.heap.size, 3, none⟩ = some (.slice lo d.labels.length lcap) ∧ W.cell? ⟨w.heap.size, 1, none⟩ = some (.string ⟨d.name.toArray⟩) ∧ W.cell? ⟨w.heap.size + 1, 0, none⟩ = some (.string ⟨#[113, 117, 97, 110, 116, 105, 108, 101]⟩) ∧ W.cell? ⟨w.heap.size + 1, 1, none⟩ = some (.string ⟨le.toArray⟩) := fun W hb => by
  refine ⟨?_, ?_, ?_, ?_⟩ <;> (refine cellB hb ?_; rw [hW1]; simp [go_sem])
 have HK := hid_of k1
 obtain ⟨q1, q2, q3, q4⟩ := k1 _ (bel1 W1 (.cells #[] 46))
 have HG0 := hid_of (own_emptyL W1)
 have HP1 := hid_of (h.below hb1)
 have HL : Hid (∀ W, Below W1.heap.size W1 W → SLb W (.slice lo d.labels.length lcap) d.labels) := fun W hb => (hl.below ((h.below hb1).below hb).st)
 have HPr : Hid (∀ (ao : Option Addr) (b cap : Nat) (W : World), (d.labels ++ [([113, 117, 97, 110, 116, 105, 108, 101], le)] ≠ [] → ao = some ⟨b, 0, none⟩) → La.RowL W b 0 (d.labels ++ [([113, 117, 97, 110, 116, 105, 108, 101], le)]) → Calls Tryz.prog 49 #[.string ⟨(d.name ++ en).toArray⟩, .slice ao (d.labels ++ [([113, 117, 97, 110, 116, 105, 108, 101], le)]).length cap] W fun r w' => r = .returned (.string ⟨(La.printT (d.name ++ en) (d.labels ++ [([113, 117, 97, 110, 116, 105, 108, 101], le)])).toArray⟩) ∧ Below W.heap.size W w') :=
  fun ao b cap W h1 h2 => La.dprint_any _ ao b 0 cap _ h1 (by have := hs.l; omega) (fun a ha => by have := (hs.v a ha).2; omega) (by omega) W h2
 have hR : T ++ seT d en [([113, 117, 97, 110, 116, 105, 108, 101], le)] nu = T ++ (La.printT (d.name ++ en) (d.labels ++ [([113, 117, 97, 110, 116, 105, 108, 101], le)]) ++ [32] ++ nu ++ [10]) := by simp [seT, lnT]
 rw [hR]
 have HW1 := hid_of hW1
 clear h hl hs he hT k1 hb1 hW1 hR
 generalize La.printT (d.name ++ en) (d.labels ++ [([113, 117, 97, 110, 116, 105, 108, 101], le)]) = Y at HPr hsl ⊢
 generalize d.name ++ en = nn at HPr hadd
 obtain ⟨y1, hy1'⟩ : ∃ y1, y1 = Y ++ [32] := ⟨_, rfl⟩
 obtain ⟨y2, hy2'⟩ : ∃ y2, y2 = y1 ++ nu := ⟨_, rfl⟩
 obtain ⟨y3, hy3'⟩ : ∃ y3, y3 = y2 ++ [10] := ⟨_, rfl⟩
 have hl3 : y3.length ≤ 800000 := by rw [hy3', hy2', hy1']; simp; omega
 have a1 : ∀ W, (Op.stringOp .add ⟨Y.toArray⟩ ⟨#[32]⟩).run Tryz.prog W = .ok (.string ⟨y1.toArray⟩) W := fun W => by rw [hy1']; exact La.sadd Y [32] (by simp; omega) W
 have a2 : ∀ W, (Op.stringOp .add ⟨y1.toArray⟩ ⟨nu.toArray⟩).run Tryz.prog W = .ok (.string ⟨y2.toArray⟩) W := fun W => by rw [hy2']; exact La.sadd y1 nu (by rw [hy1']; simp; omega) W
 have a3 : ∀ W, (Op.stringOp .add ⟨y2.toArray⟩ ⟨#[10]⟩).run Tryz.prog W = .ok (.string ⟨y3.toArray⟩) W := fun W => by rw [hy3']; exact La.sadd y2 [10] (by rw [hy2', hy1']; simp; omega) W
 rw [← hy1', ← hy2', ← hy3']
 clear hy1' hy2' hy3' hsl hn
 have hsz : (ByteArray.mk y3.toArray).size = y3.length := by show y3.toArray.size = _; simp
 go_enter Tryz.func24, Tryz.ntmps24
 go_upto_region 3 with fail
 rw [← HW1.out]
 go_upto_region 4 with fail
 have HLn := HL.out _ (bel1 W1 (.cells #[] 46))
 have HMid : Hid (∀ v2 w2, GL W1.heap.size W1 v2 d.labels w2 → ∃ a2 c2, v2 = .slice a2 d.labels.length c2 ∧ w2.cell? ⟨w.heap.size + 1, 0, none⟩ = some (.string ⟨#[113, 117, 97, 110, 116, 105, 108, 101]⟩) ∧ w2.cell? ⟨w.heap.size + 1, 1, none⟩ = some (.string ⟨le.toArray⟩) ∧ Hid ((w2.alloc (.cells #[.string ⟨#[113, 117, 97, 110, 116, 105, 108, 101]⟩, .string ⟨le.toArray⟩] 46)).ownsRow W1.heap.size 46 2 (.slice a2 d.labels.length c2) d.labels.length (flL d.labels)) ∧ W1.heap.size ≤ (w2.alloc (.cells #[.string ⟨#[113, 117, 97, 110, 116, 105, 108, 101]⟩, .string ⟨le.toArray⟩] 46)).heap.size ∧ Hid (GL W1.heap.size W1 (.slice a2 d.labels.length c2) d.labels (w2.alloc (.cells #[.string ⟨#[113, 117, 97, 110, 116, 105, 108, 101]⟩, .string ⟨le.toArray⟩] 46)))) := fun v2 w2 hg => by
  obtain ⟨a2, b2, c2, rfl, ha2, hr2⟩ := hg.row
  obtain ⟨z1, z2, z3, z4⟩ := HK.out w2 hg.below
  have hb := bel1 w2 (.cells #[.string ⟨#[113, 117, 97, 110, 116, 105, 108, 101]⟩, .string ⟨le.toArray⟩] 46)
  have hgl : GL W1.heap.size W1 (.slice a2 d.labels.length c2) d.labels (w2.alloc (.cells #[.string ⟨#[113, 117, 97, 110, 116, 105, 108, 101]⟩, .string ⟨le.toArray⟩] 46)) := ⟨own_belG hg.own hb, bt hg.below hb, Nat.le_trans hg.size hb.size⟩
  exact ⟨a2, c2, rfl, z3, z4, hgl.own, hgl.size, hgl⟩
 have HFin : Hid (∀ v2 w2, GL W1.heap.size W1 v2 (d.labels ++ [([113, 117, 97, 110, 116, 105, 108, 101], le)]) w2 → ∃ a2 c2, v2 = .slice a2 (d.labels ++ [([113, 117, 97, 110, 116, 105, 108, 101], le)]).length c2 ∧ w2.cell? ⟨w.heap.size, 1, none⟩ = some (.string ⟨d.name.toArray⟩) ∧ La.HidC Tryz.prog 49 #[.string ⟨nn.toArray⟩, .slice a2 (d.labels ++ [([113, 117, 97, 110, 116, 105, 108, 101], le)]).length c2] w2 (fun r w' => r = .returned (.string ⟨Y.toArray⟩) ∧ Below w2.heap.size w2 w') ∧ Gr u w (.slice ao T.length cap) T w2) := fun v2 w2 hg => by
  obtain ⟨a2, b2, c2, rfl, ha2, hr2⟩ := hg.row
  obtain ⟨z1, z2, z3, z4⟩ := HK.out w2 hg.below
  exact ⟨a2, c2, rfl, z2, HPr.out a2 b2 c2 w2 ha2 hr2, HP1.out.below hg.below⟩
 rcases HLn.cs with ⟨hv0, hL0⟩ | ⟨aA, cA, hvA, hRA⟩
 ·have HG2 : Hid (GL W1.heap.size W1 (.slice (some ⟨W1.heap.size, 0, none⟩) 0 0) d.labels (W1.alloc (.cells #[] 46))) := by unfold Hid; rw [hL0]; exact HG0.out
  rw [hv0] at q1
  obtain ⟨a2, c2, e2, z3, z4, HOw2, hsz2, HGa⟩ := HMid.out _ _ HG2.out
  obtain ⟨e4, e3, e5⟩ : a2 = some ⟨W1.heap.size, 0, none⟩ ∧ d.labels.length = 0 ∧ c2 = 0 := by simp at e2; exact ⟨e2.1.symm, e2.2.1.symm, e2.2.2.symm⟩
  rw [e3, e4, e5] at HOw2 HGa
  have HE3 := hid_of e3
  clear HLn HL HK HPr HG0 HG2 hv0 hL0 q2 q3 q4 e2 e3 e4 e5
  have HN2 := hid_of (cell2_new (W1.alloc (.cells #[] 46)) (.string ⟨#[113, 117, 97, 110, 116, 105, 108, 101]⟩) (.string ⟨le.toArray⟩) 46)
  rw [show (W1.alloc (.cells #[] 46)).heap.size = W1.heap.size + 1 from by simp] at HN2
  go_upto_region 6 with fail
  go_wp2_with (at_builtin; go_must (refine wpList_append_own _ rfl _ _ 28 rfl W1.heap.size 46 i0 (.agg #[.string ⟨#[]⟩, .string ⟨#[]⟩]) 2 32 Tryz.underlying28 hi hz0 hz1 hz2 rfl (by decide) (.slice (some ⟨W1.heap.size, 0, none⟩) 0 0) 0 (flL d.labels) rfl HOw2.out ⟨W1.heap.size + 1, 0, none⟩ 1 1 [.string ⟨#[113, 117, 97, 110, 116, 105, 108, 101]⟩, .string ⟨le.toArray⟩] rfl rfl HN2.out (by intro u hu; simp at hu; rcases hu with rfl | rfl <;> rfl) (by unfold maxLen; first | omega | (simp; omega)) (by first | omega | (simp; omega)) hsz2 ?_))
  intro v5 w5 hown5 hgrow5 hnil5
  have hg5 := hid_of (HGa.out.grow (ys := [([113, 117, 97, 110, 116, 105, 108, 101], le)]) (by rw [HE3.out]; exact hown5) hgrow5)
  clear hown5 hgrow5 hnil5 HGa HOw2 hsz2
  obtain ⟨a6, c6, rfl, z6, HC, HG⟩ := HFin.out _ _ hg5.out
  have HGp := hid_of HG
  clear HFin HG hg5 HMid
  generalize (d.labels ++ [([113, 117, 97, 110, 116, 105, 108, 101], le)]).length = nL at HC ⊢
  go_wp2_with fail
  refine (HC.out).mono ?_
  rintro e w3 ⟨rfl, hb3⟩
  have HG3 := hid_of (HGp.out.below hb3)
  have HO3 := hid_of HG3.out.own
  have hst := HG3.out.st.size
  clear HC hb3 HGp
  go_wp2_with (at_builtin; refine Lib.wpList_append_own_string _ rfl _ _ 41 9 rfl u.heap.size 5 i8 Tryz.underlying41 Tryz.underlying9 hi8 hy0 hy1 hy2 _ _ _ rfl HO3.out ⟨y3.toArray⟩ rfl ?c1 ?c2 ?c3 ?_)
  case c1 => rw [hsz]; unfold maxLen; omega
  case c2 => rw [hsz]; omega
  case c3 => exact hst
  intro v4 w4 o4 g4 n4
  replace o4 : w4.ownsRow u.heap.size 5 1 v4 (T ++ y3).length (Lib.byteCells (T ++ y3)) := by
   rw [List.length_append, Lib.byteCells_append]
   exact o4
  have HF4 := hid_of (HG3.out.grow o4 g4)
  obtain ⟨a4, c4, rfl⟩ := own_slice8 o4
  clear o4 g4 n4 HG3 HO3
  go_wp2_with fail
  go_ret
  exact ⟨_, rfl, HF4.out⟩
 ·obtain ⟨rfl, rfl⟩ : lo = some aA ∧ cA = lcap := by have h := hvA; simp at h; exact ⟨h.1, h.2.symm⟩
  have HcA := hid_of hRA
  have hgs := HG0.out.size
  have HOw : Hid ((W1.alloc (.cells #[] 46)).ownsRow W1.heap.size 46 2 (.slice (some ⟨W1.heap.size, 0, none⟩) 0 0) 0 []) := HG0.out.own
  clear hvA hRA HLn HL HK HPr
  go_wp2_with (at_builtin; go_must (refine wpList_append_own _ rfl _ _ 28 rfl W1.heap.size 46 i0 (.agg #[.string ⟨#[]⟩, .string ⟨#[]⟩]) 2 32 Tryz.underlying28 hi hz0 hz1 hz2 rfl (by decide) (.slice (some ⟨W1.heap.size, 0, none⟩) 0 0) 0 [] rfl HOw.out aA d.labels.length cA (flL d.labels) rfl (flL_length _) HcA.out (flL_one _) (by unfold maxLen; first | omega | (simp; omega)) (by first | omega | (simp; omega)) hgs ?_))
  intro v2 w2 hown hgrow hnil
  have hg2 := hid_of (HG0.out.grow (ys := d.labels) (by rw [List.length_nil, Nat.zero_add]; exact hown) hgrow)
  clear hown hgrow hnil
  rw [List.nil_append] at hg2
  obtain ⟨a2, c2, rfl, z3, z4, HOw2, hsz2, HGa⟩ := HMid.out _ _ hg2.out
  clear HG0 HOw hgs q1 q2 q3 q4 HcA hg2
  go_upto_region 6 with fail
  go_wp2_with (at_builtin; go_must (refine wpList_append_own _ rfl _ _ 28 rfl W1.heap.size 46 i0 (.agg #[.string ⟨#[]⟩, .string ⟨#[]⟩]) 2 32 Tryz.underlying28 hi hz0 hz1 hz2 rfl (by decide) (.slice a2 d.labels.length c2) d.labels.length (flL d.labels) rfl HOw2.out ⟨w2.heap.size, 0, none⟩ 1 1 [.string ⟨#[113, 117, 97, 110, 116, 105, 108, 101]⟩, .string ⟨le.toArray⟩] rfl rfl (cell2_new _ _ _ _) (by intro u hu; simp at hu; rcases hu with rfl | rfl <;> rfl) (by unfold maxLen; first | omega | (simp; omega)) (by first | omega | (simp; omega)) hsz2 ?_))
  intro v5 w5 hown5 hgrow5 hnil5
  have hg5 := hid_of (HGa.out.grow (ys := [([113, 117, 97, 110, 116, 105, 108, 101], le)]) (by exact hown5) hgrow5)
  clear hown5 hgrow5 hnil5 HGa HOw2 hsz2
  obtain ⟨a6, c6, rfl, z6, HC, HG⟩ := HFin.out _ _ hg5.out
  have HGp := hid_of HG
  clear HFin HG hg5 HMid
  generalize (d.labels ++ [([113, 117, 97, 110, 116, 105, 108, 101], le)]).length = nL at HC ⊢
  go_wp2_with fail
  refine (HC.out).mono ?_
  rintro e w3 ⟨rfl, hb3⟩
  have HG3 := hid_of (HGp.out.below hb3)
  have HO3 := hid_of HG3.out.own
  have hst := HG3.out.st.size
  clear HC hb3 HGp
  go_wp2_with (at_builtin; refine Lib.wpList_append_own_string _ rfl _ _ 41 9 rfl u.heap.size 5 i8 Tryz.underlying41 Tryz.underlying9 hi8 hy0 hy1 hy2 _ _ _ rfl HO3.out ⟨y3.toArray⟩ rfl ?d1 ?d2 ?d3 ?_)
  case d1 => rw [hsz]; unfold maxLen; omega
  case d2 => rw [hsz]; omega
  case d3 => exact hst
  intro v4 w4 o4 g4 n4
  replace o4 : w4.ownsRow u.heap.size 5 1 v4 (T ++ y3).length (Lib.byteCells (T ++ y3)) := by
   rw [List.length_append, Lib.byteCells_append]
   exact o4
  have HF4 := hid_of (HG3.out.grow o4 g4)
  obtain ⟨a4, c4, rfl⟩ := own_slice8 o4
  clear o4 g4 n4 HG3 HO3
  go_wp2_with fail
  go_ret
  exact ⟨_, rfl, HF4.out⟩
end Go.Proofs.YtlgfgeacphkhnaaGreatDoor
