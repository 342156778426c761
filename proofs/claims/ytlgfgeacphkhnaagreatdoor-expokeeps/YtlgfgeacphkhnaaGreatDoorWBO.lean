/- THE DOCUMENT'S TEXT OF A SNAPSHOT: Write. Own work of the verifier. -/
import Derived.Test.YtlgfgeacphkhnaaGreatDoorWBN
import Derived.Test.YtlgfgeacphkhnaaGreatDoorWBI
import Derived.Test.YtlgfgeacphkhnaaGreatDoorWBD
namespace Go.Proofs.YtlgfgeacphkhnaaGreatDoor
open Go.RowKit Me

theorem step_append_str {P : Program} {w : World} {ops : Array Oper} {o : Oper} {a : Act} {K : Act → World → Prop} {Q : Exit → Act → World → Prop} {E : Prop} (hgd : o.guard = none) (sl x : Operand) (t u : TypeId)
  (ho : o.op = .call { callee := .builtin .append, args := #[sl, x], argTypes := #[t, u] })
  (base : Nat) (e : TypeId) (i : TypeInfo) (ht : P.underlying t = some (.slice e)) (hu : P.underlying u = some .string) (hi : P.info? e = some i) (hz : i.zero = some (.int .u8 0))
  (hsize : i.size = 1) (hby : i.bytes = 1)
  (v : Value) (n : Nat) (xs : List Value) (hs : a.eval sl = v) (hown : w.ownsRow base e 1 v n xs) (s : ByteArray) (hx : a.eval x = .string s)
  (h63 : n + s.size ≤ maxLen) (hbytes : n + s.size ≤ 140737488355328) (hbase : base ≤ w.heap.size)
  (h : ∀ v' w', w'.ownsRow base e 1 v' (n + s.size) (xs ++ Lib.strCells s) → w.grownBy w' v.ownBlock → K (a.put o.dst v') w') :
  if Region.wanted o (yielded ops a.tmps) = true then Oper.wp P o a w K Q else E := by
 have hw : Region.wanted o (yielded ops a.tmps) = true := by simp [Region.wanted, hgd]
 rw [if_pos hw]
 obtain ⟨v', w', hr, h2, h3, h4⟩ := Lib.run_append_own_string (P := P) w base t u o.type e i ht hu hi hz hsize hby v n xs hown s h63 hbytes hbase
 unfold Oper.wp execOp
 simp only [ho, resolve, invoke, builtin, Sem.run_bind, Sem.run_pure, Result.andThen_ok, List.map_toArray, List.map_cons, List.map_nil, hs, hx, hr]
 exact h v' w' h2 h3
theorem Gr.app {u w0 W W1 : World} {bv v : Value} {T : List UInt8} (h : Gr u w0 bv T W) (l : List UInt8) (hown : W1.ownsRow u.heap.size 5 1 v (T.length + (ByteArray.mk l.toArray).size) (Lib.byteCells T ++ Lib.strCells ⟨l.toArray⟩)) (hg : W.grownBy W1 bv.ownBlock) : Gr u w0 v (T ++ l) W1 := by
 refine h.grow ?_ hg
 rw [List.length_append, Lib.byteCells_append]
 exact hown
theorem sz_of (l : List UInt8) : (ByteArray.mk l.toArray).size = l.length := by show l.toArray.size = _; simp
structure Gs (w : World) (s : Sn) (uv bv : Value) (T : List UInt8) (W : World) : Prop where
 gr : Gr w w bv T W
 bx : W.heap[w.heap.size]? = some (.cells #[.int .i64 s.p, uv, .int .u64 (s.r : Int)] 25)
theorem Gs.below {w W W1 : World} {s : Sn} {uv bv : Value} {T : List UInt8} (h : Gs w s uv bv T W) (hb : Below W.heap.size W W1) : Gs w s uv bv T W1 := ⟨h.gr.below hb, (hb.block _ (Array.getElem?_eq_some_iff.1 h.bx).1).trans h.bx⟩
theorem Gs.app {w W W1 : World} {s : Sn} {uv bv v : Value} {T : List UInt8} (h : Gs w s uv bv T W) (l : List UInt8) (hown : W1.ownsRow w.heap.size 5 1 v (T.length + (ByteArray.mk l.toArray).size) (Lib.byteCells T ++ Lib.strCells ⟨l.toArray⟩)) (hg : W.grownBy W1 bv.ownBlock) : Gs w s uv v (T ++ l) W1 :=
 ⟨h.gr.app l hown hg, (h.gr.re.app l hown hg).cells h.bx (by decide)⟩
theorem Gs.then {w W W1 : World} {s : Sn} {uv bv bv1 : Value} {T T1 : List UInt8} (h : Gs w s uv bv T W) (k : Gr w W bv1 T1 W1) : Gs w s uv bv1 T1 W1 := ⟨h.gr.then k, k.cells h.bx (by decide)⟩
abbrev S3b (b : Nat) (s : Sn) (uv : Value) (W : World) : Prop := W.cell? ⟨b, 0, none⟩ = some (.int .i64 s.p) ∧ W.cell? ⟨b, 1, none⟩ = some uv ∧ W.cell? ⟨b, 2, none⟩ = some (.int .u64 (s.r : Int))
theorem Gs.s3 {w W : World} {s : Sn} {uv bv : Value} {T : List UInt8} (h : Gs w s uv bv T W) : S3b w.heap.size s uv W := by
 refine ⟨?_, ?_, ?_⟩ <;> simp [World.cell?, h.bx]
structure Gu (w : World) (s : Sn) (uv : Value) (xb : Nat) (x : Vl) (lv cv bv : Value) (T : List UInt8) (W : World) : Prop where
 gs : Gs w s uv bv T W
 vx : W.heap[xb]? = some (.cells (vc x lv cv) 36)
theorem Gu.below {w W W1 : World} {s : Sn} {uv bv lv cv : Value} {T : List UInt8} {xb : Nat} {x : Vl} (h : Gu w s uv xb x lv cv bv T W) (hb : Below W.heap.size W W1) : Gu w s uv xb x lv cv bv T W1 := ⟨h.gs.below hb, (hb.block _ (Array.getElem?_eq_some_iff.1 h.vx).1).trans h.vx⟩
theorem Gu.app {w W W1 : World} {s : Sn} {uv bv lv cv v : Value} {T : List UInt8} {xb : Nat} {x : Vl} (h : Gu w s uv xb x lv cv bv T W) (l : List UInt8) (hown : W1.ownsRow w.heap.size 5 1 v (T.length + (ByteArray.mk l.toArray).size) (Lib.byteCells T ++ Lib.strCells ⟨l.toArray⟩)) (hg : W.grownBy W1 bv.ownBlock) : Gu w s uv xb x lv cv v (T ++ l) W1 :=
 ⟨h.gs.app l hown hg, (h.gs.gr.re.app l hown hg).cells h.vx (by decide)⟩
theorem dv_fit (T : List UInt8) (A : List (List UInt8)) : (fitB (dvT T A) = true → dvT T A = T ++ A.flatten) ∧ (fitB (dvT T A) = false → ∀ B, fitB (T ++ A.flatten ++ B) = false) := by
 by_cases h : fitB T = true
 ·obtain ⟨h1, h2⟩ := dvT_yes A T h
  by_cases k : fitB (T ++ A.flatten) = true
  ·rw [h1 k]
   exact ⟨fun _ => rfl, fun q => absurd (k.symm.trans q) (by decide)⟩
  ·have k' : fitB (T ++ A.flatten) = false := by simpa using k
   exact ⟨fun q => absurd ((h2 k').symm.trans q) (by decide), fun _ B => fit_no k'⟩
 ·have h' : fitB T = false := by simpa using h
  rw [dvT_no A T h']
  exact ⟨fun q => absurd (h'.symm.trans q) (by decide), fun _ B => by rw [List.append_assoc]; exact fit_no h'⟩
theorem dkind_any (k : Int) (w : World) : Calls Tryz.prog 12 #[.int .i64 k] w fun e w' => e = .returned (.string ⟨(kdT k).toArray⟩) ∧ w' = w := by
 unfold kdT
 by_cases h1 : k = 1
 ·subst h1
  go_enter Tryz.func12, Tryz.ntmps12
  go_wp2_with fail
  go_ret
  exact ⟨rfl, rfl⟩
 ·by_cases h2 : k = 2
  ·subst h2
   go_enter Tryz.func12, Tryz.ntmps12
   go_wp2_with fail
   go_ret
   exact ⟨rfl, rfl⟩
  ·rw [if_neg h1, if_neg h2]
   have h1' : (k == 1) = false := by rw [beq_eq_false_iff_ne]; exact h1
   have h2' : (k == 2) = false := by rw [beq_eq_false_iff_ne]; exact h2
   go_enter Tryz.func12, Tryz.ntmps12
   go_wp2_with fail
   go_ret
   exact ⟨rfl, rfl⟩
theorem dval_any (hPr : RPr) (u : World) (s : Sn) (bv : Value) (T : List UInt8) (x : Vl) (lv cv : Value) (w : World) (h : Gr u w bv T w) (hl : SLb u lv x.d.labels) (hc : SN u cv x.cs) (hx : VW x) (hz : (chkS s).1 = 0) (hm : x ∈ s.vs) :
  Calls Tryz.prog 13 #[bv, .int .i64 s.p, vx x lv cv] w fun e w' => ∃ bv', e = .returned bv' ∧ Gr u w bv' (dvT T (vlL s.p.toNat x)) w' := by
 obtain ⟨hp, _⟩ := chkS_p hz
 obtain ⟨hd, hh⟩ := chkS_z hz x hm
 have hok := chkD_z hd
 have hs := hok.sho
 have hpP : s.p = ((s.p.toNat : Nat) : Int) := by omega
 unfold vlL
 rcases hok.k with hk | hk | hk
 ·rw [if_pos hk]
  exact dval_counter u s.p bv T x lv cv w h hl hc hs hx hk
 ·rw [if_neg (by omega), if_pos hk]
  have hM := hold_may hh hk
  rw [hpP] at hM
  have q := dval_hist hPr u s.p.toNat bv T x lv cv w h hl hc hs hok.l hx hM hk
  rw [← hpP] at q
  exact q
 ·rw [if_neg (by omega), if_neg (by omega)]
  exact dval_summary hPr u s.p bv T x lv cv w h hl hc hs hok.l hx hk
end Go.Proofs.YtlgfgeacphkhnaaGreatDoor
/- THE DOCUMENT'S TEXT OF A SNAPSHOT: Write, the walk. Own work of the verifier. -/
namespace Go.Proofs.YtlgfgeacphkhnaaGreatDoor
open Go.RowKit Me

def DwQ (s : Sn) (A : List (List UInt8)) (e : Ending) : Prop :=
 ((chkS s).1 ≠ 0 ∧ e = .returned (.tuple #[.string ⟨#[]⟩, .int .i64 (chkS s).1])) ∨
 ((chkS s).1 = 0 ∧ fitB A.flatten = false ∧ e = .returned (.tuple #[.string ⟨#[]⟩, .int .i64 4])) ∨
 ((chkS s).1 = 0 ∧ fitB A.flatten = true ∧ e = .returned (.tuple #[.string ⟨A.flatten.toArray⟩, .int .i64 0]))
theorem own_empty8 (w W : World) (hs : w.heap.size ≤ W.heap.size) : (W.alloc (.cells #[] 5)).ownsRow w.heap.size 5 1 (.slice (some ⟨W.heap.size, 0, none⟩) 0 0) ([] : List UInt8).length (Lib.byteCells []) :=
 ⟨rfl, Or.inr ⟨W.heap.size, 0, #[], rfl, hs, new_1 W _, Nat.le_refl _, by decide, rfl, rfl⟩⟩
set_option maxRecDepth 100000 in
set_option maxHeartbeats 2000000 in
theorem dwrite_any (hPr : RPr) (s : Sn) (v : Value) (hS : SnW s) (w : World) (hv : SnAt w s v) :
  Calls Tryz.prog 6 #[v] w fun e w' => DwQ s (exL (vlL s.p.toNat) s) e ∧ Below w.heap.size w w' := by
 obtain ⟨i8, hi8, hy0, hy1, hy2⟩ := info_parts info8
 have hv0 := hv
 obtain ⟨uv, rfl, hu⟩ := hv
 obtain ⟨ao, b, o, cap, rfl, hao, -, -, hr⟩ := hu.open
 obtain ⟨W0, hW0⟩ : ∃ W0, W0 = w.alloc (.cells #[.int .i64 s.p, .slice ao s.vs.length cap, .int .u64 (s.r : Int)] 25) := ⟨_, rfl⟩
 have hN0 : W0.heap[w.heap.size]? = some (.cells #[.int .i64 s.p, .slice ao s.vs.length cap, .int .u64 (s.r : Int)] 25) := by rw [hW0]; exact new_1 w _
 have hb0 : Below w.heap.size w W0 := by rw [hW0]; exact bel1 w _
 have HC : La.HidC _ _ _ _ _ := rcheck_any s _ hS W0 (hv0.below hb0)
 obtain ⟨c0, c1, c2⟩ : W0.cell? ⟨w.heap.size, 0, none⟩ = some (.int .i64 s.p) ∧ W0.cell? ⟨w.heap.size, 1, none⟩ = some (.slice ao s.vs.length cap) ∧ W0.cell? ⟨w.heap.size, 2, none⟩ = some (.int .u64 (s.r : Int)) := by
  refine ⟨?_, ?_, ?_⟩ <;> simp [World.cell?, hN0]
 have HW0 := hid_of hW0
 have HB0 := hid_of hb0
 have HN0 := hid_of hN0
 by_cases hz : (chkS s).1 = 0
 ·obtain ⟨hp, hl256⟩ := chkS_p hz
  obtain ⟨P, hP⟩ : ∃ P : Nat, s.p = (P : Int) := ⟨s.p.toNat, by omega⟩
  have hP14 : P ≤ 14 := by omega
  have hr64 : s.r < 18446744073709551616 := hS.r
  have HVs := hid_of hS.vs
  have HRw := hid_of hr
  have HDv : Hid (∀ x ∈ s.vs, ∀ (bv : Value) (T : List UInt8) (lv cv : Value) W, Gr w W bv T W → SLb w lv x.d.labels → SN w cv x.cs → Calls Tryz.prog 13 #[bv, .int .i64 s.p, vx x lv cv] W fun e w' => ∃ bv', e = .returned bv' ∧ Gr w W bv' (dvT T (vlL s.p.toNat x)) w') := fun x hx bv T lv cv W k1 k2 k3 => dval_any hPr w s bv T x lv cv W k1 k2 k3 (hS.vs x hx) hz hx
  have HDo : Hid (∀ x ∈ s.vs, DOk x.d) := fun x hx => chkD_z (chkS_z hz x hx).1
  obtain ⟨A, hA⟩ : ∃ A, A = exL (vlL s.p.toNat) s := ⟨_, rfl⟩
  obtain ⟨R, hR⟩ : ∃ R, R = A.flatten := ⟨_, rfl⟩
  have HFin : Hid (∀ e, (fitB R = false ∧ e = .returned (.tuple #[.string ⟨#[]⟩, .int .i64 4])) ∨ (fitB R = true ∧ e = .returned (.tuple #[.string ⟨R.toArray⟩, .int .i64 0])) → DwQ s A e) := fun e k => by
   rw [hR] at k
   rcases k with ⟨k1, k2⟩ | ⟨k1, k2⟩
   ·exact Or.inr (Or.inl ⟨hz, k1, k2⟩)
   ·exact Or.inr (Or.inr ⟨hz, k1, k2⟩)
  have HR0 : Hid (R = (gnT s.p ++ reT s.r) ++ (vsL (vlL s.p.toNat) (pvN s.vs 0) (s.vs.drop 0)).flatten) := by
   show _ = _
   rw [hR, hA, exL]
   simp [pvN]
  rw [← hA]
  have hgl := gnT_len s.p hp s.r hr64
  have hgnr : gnT s.p ++ reT s.r = [35, 32, 103, 110, 111, 109, 111, 110, 32] ++ Lib.decDigits P ++ [10, 35, 32, 114, 101, 102, 117, 115, 101, 100, 32] ++ Lib.decDigits s.r ++ [10] := by
   rw [gnT, reT, hP, Lib.itoa_nonneg]
   simp [lnT, gnA, reA]
  have hX0 : fitB (gnT s.p ++ reT s.r) = true := by unfold fitB; rw [decide_eq_true_eq, List.length_append]; omega
  have hdp := digits_len P (by omega)
  have hdr := digits_len s.r hr64
  have HWa : Hid (∀ W, Calls Tryz.prog 10 #[.int .u64 (P : Int)] W fun e w' => e = .returned (.string ⟨(Lib.decDigits P).toArray⟩) ∧ Below W.heap.size W w') := dwhole_any P (by omega)
  have HWb : Hid (∀ W, Calls Tryz.prog 10 #[.int .u64 (s.r : Int)] W fun e w' => e = .returned (.string ⟨(Lib.decDigits s.r).toArray⟩) ∧ Below W.heap.size W w') := dwhole_any s.r hr64
  have hcv : IntKind.u64.wrap (P : Int) = (P : Int) := by rw [IntKind.wrap_u64]; omega
  rw [hgnr] at HR0 hX0
  have HX0 := hid_of hX0
  have hPp := hid_of hP
  rw [hz] at HC
  clear hz hv0 hu hr hS hPr hA hR hgl hgnr hX0 hp hr64 hW0 hN0 hb0 hP14 hP
  generalize Lib.decDigits P = Da at *
  generalize Lib.decDigits s.r = Db at *
  obtain ⟨y1, hy1'⟩ : ∃ y1, y1 = [35, 32, 103, 110, 111, 109, 111, 110, 32] ++ Da := ⟨_, rfl⟩
  obtain ⟨y2, hy2'⟩ : ∃ y2, y2 = y1 ++ [10, 35, 32, 114, 101, 102, 117, 115, 101, 100, 32] := ⟨_, rfl⟩
  obtain ⟨y3, hy3'⟩ : ∃ y3, y3 = y2 ++ Db := ⟨_, rfl⟩
  obtain ⟨y4, hy4'⟩ : ∃ y4, y4 = y3 ++ [10] := ⟨_, rfl⟩
  have a1 : ∀ W, (Op.stringOp .add ⟨#[35, 32, 103, 110, 111, 109, 111, 110, 32]⟩ ⟨Da.toArray⟩).run Tryz.prog W = .ok (.string ⟨y1.toArray⟩) W := fun W => by rw [hy1']; exact La.sadd [35, 32, 103, 110, 111, 109, 111, 110, 32] Da (by simp; omega) W
  have a2 : ∀ W, (Op.stringOp .add ⟨y1.toArray⟩ ⟨#[10, 35, 32, 114, 101, 102, 117, 115, 101, 100, 32]⟩).run Tryz.prog W = .ok (.string ⟨y2.toArray⟩) W := fun W => by rw [hy2']; exact La.sadd y1 [10, 35, 32, 114, 101, 102, 117, 115, 101, 100, 32] (by rw [hy1']; simp; omega) W
  have a3 : ∀ W, (Op.stringOp .add ⟨y2.toArray⟩ ⟨Db.toArray⟩).run Tryz.prog W = .ok (.string ⟨y3.toArray⟩) W := fun W => by rw [hy3']; exact La.sadd y2 Db (by rw [hy2', hy1']; simp; omega) W
  have a4 : ∀ W, (Op.stringOp .add ⟨y3.toArray⟩ ⟨#[10]⟩).run Tryz.prog W = .ok (.string ⟨y4.toArray⟩) W := fun W => by rw [hy4']; exact La.sadd y3 [10] (by rw [hy3', hy2', hy1']; simp; omega) W
  have hy4l : y4.length ≤ 1000 := by rw [hy4', hy3', hy2', hy1']; simp; omega
  rw [← hy1', ← hy2', ← hy3', ← hy4'] at HR0 HX0
  have hsz4 := sz_of y4
  clear hy1' hy2' hy3' hy4' hdp hdr
  go_enter Tryz.func6, Tryz.ntmps6
  go_upto_region 1 with fail
  rw [← HW0.out]
  clear HW0
  go_wp2_with fail
  refine (HC.out).mono ?_
  rintro e w1 ⟨rfl, hb1⟩
  have HB1 : Hid (Below w.heap.size w w1) := bt HB0.out hb1
  have hbx1 : w1.heap[w.heap.size]? = some (.cells #[.int .i64 s.p, .slice ao s.vs.length cap, .int .u64 (s.r : Int)] 25) := (hb1.block _ (Array.getElem?_eq_some_iff.1 HN0.out).1).trans HN0.out
  have HG1 : Hid (Gs w s (.slice ao s.vs.length cap) (.slice (some ⟨w1.heap.size, 0, none⟩) 0 0) [] (w1.alloc (.cells #[] 5))) := ⟨⟨own_empty8 w w1 HB1.out.size, bt HB1.out (bel1 _ _), fun k ob hk hne hob => ((bt HB1.out (bel1 w1 _)).block k (Array.getElem?_eq_some_iff.1 hk).1).trans hk⟩, ((bel1 w1 _).block _ (Array.getElem?_eq_some_iff.1 hbx1).1).trans hbx1⟩
  clear HC HB0 HN0 hb1 HB1 hbx1 c0 c1 c2
  go_upto_region 5 with fail
  generalize w1.alloc (.cells #[] 5) = W1 at *
  generalize w1.heap.size = g1 at *
  have HS3 : Hid (∀ bv T W, Gs w s (.slice ao s.vs.length cap) bv T W → S3b w.heap.size s (.slice ao s.vs.length cap) W) := fun bv T W k => k.s3
  have HSP : Hid (∀ bv T W, Gs w s (.slice ao s.vs.length cap) bv T W → W.cell? ⟨w.heap.size, 0, none⟩ = some (.int .i64 (P : Int)) ∧ W.cell? ⟨w.heap.size, 2, none⟩ = some (.int .u64 (s.r : Int))) := fun bv T W k => ⟨by rw [← hPp.out]; exact k.s3.1, k.s3.2.2⟩
  have HAp : Hid (∀ bv T W l v W1, Gs w s (.slice ao s.vs.length cap) bv T W → W1.ownsRow w.heap.size 5 1 v (T.length + (ByteArray.mk l.toArray).size) (Lib.byteCells T ++ Lib.strCells ⟨l.toArray⟩) → W.grownBy W1 bv.ownBlock → Gs w s (.slice ao s.vs.length cap) v (T ++ l) W1) := fun bv T W l v W1 k h1 h2 => k.app l h1 h2
  have HFm : Hid (∀ bv T W, Gs w s (.slice ao s.vs.length cap) bv T W → ∃ a c, bv = .slice a T.length c) := fun bv T W k => k.gr.form
  go_cut [6] from 18 (fun v W => ∃ a c, v = .slice a y4.length c ∧ Hid (Gs w s (.slice ao s.vs.length cap) v y4 W))
  case first =>
   go_region_held3 (fun W => W.cell? ⟨w.heap.size, 0, none⟩ = some (.int .i64 (P : Int)) ∧ W.cell? ⟨w.heap.size, 2, none⟩ = some (.int .u64 (s.r : Int)))
    (first | (with_reducible exact HSP.out _ _ _ hPz) | (with_reducible refine HSP.out _ _ _ (hP8.below ?_); repeat (first | with_reducible exact Below.refl _ _ | with_reducible refine belD ?_)) | (with_reducible refine HSP.out _ _ _ (hP9.below ?_); repeat (first | with_reducible exact Below.refl _ _ | with_reducible refine belD ?_)) | (with_reducible refine HSP.out _ _ _ (HG1.out.below ?_); repeat (first | with_reducible exact Below.refl _ _ | with_reducible refine belD ?_)))
    (first
     | (go_at_call 10; (with_reducible refine Calls.mono (HWa.out _) ?_); rintro e w9 ⟨rfl, hb9⟩; have hP9 := HG1.out.below (bt (by repeat (first | with_reducible exact Below.refl _ _ | with_reducible refine belD ?_ | with_reducible refine belN _ ?_)) hb9))
     | (go_at_call 10; (with_reducible refine Calls.mono (HWb.out _) ?_); rintro e w8 ⟨rfl, hb8⟩; have hP8 := hP9.below (bt (by repeat (first | with_reducible exact Below.refl _ _ | with_reducible refine belD ?_ | with_reducible refine belN _ ?_)) hb8))
     | (refine step_append_str (by rfl) _ _ 41 9 (by rfl) w.heap.size 5 i8 Tryz.underlying41 Tryz.underlying9 hi8 hy0 hy1 hy2 (.slice (some ⟨g1, 0, none⟩) 0 0) 0 (Lib.byteCells []) (by rfl) ((hP8.below (by repeat (first | with_reducible exact Below.refl _ _ | with_reducible refine belD ?_ | with_reducible refine belN _ ?_))).gr.own) ⟨y4.toArray⟩ (by rfl) (by rw [hsz4]; unfold maxLen; omega) (by rw [hsz4]; omega) ((hP8.below (by repeat (first | with_reducible exact Below.refl _ _ | with_reducible refine belD ?_ | with_reducible refine belN _ ?_))).gr.st.size) ?_; intro v7 w7 o7 g7; have hPz := HAp.out _ [] _ y4 _ _ (hP8.below (by repeat (first | with_reducible exact Below.refl _ _ | with_reducible refine belD ?_ | with_reducible refine belN _ ?_))) o7 g7))
   all_goals
    obtain ⟨az, cz, rfl⟩ := HFm.out _ _ _ hPz
    go_wp2_with fail
    go_meet
    exact ⟨_, _, rfl, hPz⟩
  case rest =>
   obtain ⟨a5, c5, rfl, HG5⟩ := hcut
   clear HWa HWb a1 a2 a3 a4 HG1 HSP hcv hy4l hsz4
   have HVi := hid_of (vsL_drop (vlL s.p.toNat) s.vs)
   have HHp : Hid (∀ x ∈ s.vs, ∀ W, Calls Tryz.prog 11 #[.string ⟨x.d.help.toArray⟩] W fun r w' => r = .returned (.string ⟨(La.escL false x.d.help).toArray⟩) ∧ Below W.heap.size W w') := fun x hx W => La.help_any _ (by have := (HDo.out x hx).h; omega) W
   have HKd : Hid (∀ k W, Calls Tryz.prog 12 #[.int .i64 k] W fun e w' => e = .returned (.string ⟨(kdT k).toArray⟩) ∧ Below W.heap.size W w') := fun k W => (dkind_any k W).mono fun e w' ⟨q1, q2⟩ => ⟨q1, by rw [q2]; exact Below.refl _ _⟩
   go_wp2_with fail
   go_loopw [6, 7] (fun v a W => ∃ (i : Nat) (X : List UInt8), i ≤ s.vs.length ∧ a = .int .i64 (i : Int) ∧ (∃ va vc, v = .slice va X.length vc) ∧ Hid (R = X ++ (vsL (vlL s.p.toNat) (pvN s.vs i) (s.vs.drop i)).flatten) ∧ Hid (fitB X = true) ∧ Hid (Gs w s (.slice ao s.vs.length cap) v X W)) (fun _ a _ => s.vs.length - (intOf a).toNat)
   case atStart => exact ⟨0, y4, by omega, rfl, ⟨_, _, rfl⟩, HR0, HX0, HG5⟩
   case round =>
    clear HR0 HX0 HG5
    obtain ⟨i, X, hi, rfl, ⟨va, vcp, rfl⟩, HR, HX, HI⟩ := hrel
    obtain ⟨c0, c1, c2⟩ := HI.out.s3
    by_cases hlt : i < s.vs.length
    ·have hlt' : (i : Int) < (s.vs.length : Int) := by omega
     obtain rfl := hao (by intro e; rw [e] at hlt; simp at hlt)
     obtain ⟨lw, cw, g1', g2', g3'⟩ := HRw.out i hlt
     have hmem : s.vs[i] ∈ s.vs := List.getElem_mem hlt
     have q := (g1'.below HI.out.gr.st).cC
     have HDx := hid_of (fun bv T W k => HDv.out s.vs[i] hmem bv T lw cw W k g2' g3')
     obtain ⟨la, lc, rfl⟩ := g2'.form
     obtain ⟨ca, cc, rfl⟩ := SN.form g3'
     have hix := index_val b o s.vs.length cap i (i : Int) rfl hlt
     have HV := hid_of (HVi.out i hlt)
     have HHx := hid_of (HHp.out s.vs[i] hmem)
     have hok := HDo.out s.vs[i] hmem
     have HPv : Hid (0 < i → ∃ m, m < s.vs.length ∧ i = m + 1 ∧ pvN s.vs i = some (s.vs.getD m s.vs[i]).d.name ∧ (∀ W, Below w.heap.size w W → W.cell? ⟨b, o + m * 11 + 1, none⟩ = some (.string ⟨(s.vs.getD m s.vs[i]).d.name.toArray⟩))) := fun h0 => by
      have hm : i - 1 < s.vs.length := by omega
      obtain ⟨l2, c2, k1, _, _⟩ := HRw.out (i - 1) hm
      have e : s.vs.getD (i - 1) s.vs[i] = s.vs[i - 1] := by rw [List.getD_eq_getElem?_getD, List.getElem?_eq_getElem hm]; rfl
      refine ⟨i - 1, hm, by omega, ?_, fun W hb => ?_⟩
      ·have := pvN_succ s.vs (i - 1) hm
       rw [show i - 1 + 1 = i by omega] at this
       rw [this, e]
      ·rw [e]; exact (k1.below hb).c1
     have hnl : s.vs[i].d.name.length ≤ 64 := (plain_z hok.n).2.1
     have hel : (La.escL false s.vs[i].d.help).length ≤ 2048 := by have := escL_len false s.vs[i].d.help; have := hok.h; omega
     clear g1' g2' g3' hmem hok HVi HHp HDv HDo HRw HVs
     generalize s.vs[i] = x at *
     have sF := store_f
     go_upto_region 10 with fail
     have hN1 := new_1 wr (.cells (vc x (.slice la x.d.labels.length lc) (.slice ca x.cs.length cc)) 36)
     have HG1 := hid_of (HI.out.below (bel1 wr (.cells (vc x (.slice la x.d.labels.length lc) (.slice ca x.cs.length cc)) 36)))
     generalize wr.alloc (.cells (vc x (.slice la x.d.labels.length lc) (.slice ca x.cs.length cc)) 36) = W1 at *
     generalize wr.heap.size = xb at *
     have HU1 : Hid (Gu w s (.slice (some ⟨b, o, none⟩) s.vs.length cap) xb x (.slice la x.d.labels.length lc) (.slice ca x.cs.length cc) (.slice va X.length vcp) X W1) := ⟨HG1.out, hN1⟩
     have HKq : Hid (∀ bv T W, Gu w s (.slice (some ⟨b, o, none⟩) s.vs.length cap) xb x (.slice la x.d.labels.length lc) (.slice ca x.cs.length cc) bv T W → cB xb x (.slice la x.d.labels.length lc) (.slice ca x.cs.length cc) W) := fun bv T W k => cB_of k.vx
     have HSb : Hid (∀ bv T W, Gu w s (.slice (some ⟨b, o, none⟩) s.vs.length cap) xb x (.slice la x.d.labels.length lc) (.slice ca x.cs.length cc) bv T W → S3b w.heap.size s (.slice (some ⟨b, o, none⟩) s.vs.length cap) W) := fun bv T W k => k.gs.s3
     have HUf : Hid (∀ bv T W, Gu w s (.slice (some ⟨b, o, none⟩) s.vs.length cap) xb x (.slice la x.d.labels.length lc) (.slice ca x.cs.length cc) bv T W → ∃ a c, bv = .slice a T.length c) := fun bv T W k => k.gs.gr.form
     have HUa : Hid (∀ bv T W l v W1, Gu w s (.slice (some ⟨b, o, none⟩) s.vs.length cap) xb x (.slice la x.d.labels.length lc) (.slice ca x.cs.length cc) bv T W → W1.ownsRow w.heap.size 5 1 v (T.length + (ByteArray.mk l.toArray).size) (Lib.byteCells T ++ Lib.strCells ⟨l.toArray⟩) → W.grownBy W1 bv.ownBlock → Gu w s (.slice (some ⟨b, o, none⟩) s.vs.length cap) xb x (.slice la x.d.labels.length lc) (.slice ca x.cs.length cc) v (T ++ l) W1) := fun bv T W l v W1 k h1 h2 => k.app l h1 h2
     have HNx : Hid (∀ T', fitB (dvT T' (vlL s.p.toNat x)) = true → R = T' ++ (vlL s.p.toNat x).flatten ++ (vsL (vlL s.p.toNat) (pvN s.vs (i + 1)) (s.vs.drop (i + 1))).flatten → R = dvT T' (vlL s.p.toNat x) ++ (vsL (vlL s.p.toNat) (pvN s.vs (i + 1)) (s.vs.drop (i + 1))).flatten) := fun T' k1 k2 => by rw [(dv_fit _ _).1 k1]; exact k2
     have HNo : Hid (∀ T', fitB (dvT T' (vlL s.p.toNat x)) = false → R = T' ++ (vlL s.p.toNat x).flatten ++ (vsL (vlL s.p.toNat) (pvN s.vs (i + 1)) (s.vs.drop (i + 1))).flatten → DwQ s A (.returned (.tuple #[.string ⟨#[]⟩, .int .i64 4]))) := fun T' k1 k2 => HFin.out _ (Or.inl ⟨by rw [k2]; exact (dv_fit _ _).2 k1 _, rfl⟩)
     have HDu : Hid (∀ bv T W, Gu w s (.slice (some ⟨b, o, none⟩) s.vs.length cap) xb x (.slice la x.d.labels.length lc) (.slice ca x.cs.length cc) bv T W → Calls Tryz.prog 13 #[bv, .int .i64 s.p, vx x (.slice la x.d.labels.length lc) (.slice ca x.cs.length cc)] W fun e w' => ∃ bv', e = .returned bv' ∧ Gs w s (.slice (some ⟨b, o, none⟩) s.vs.length cap) bv' (dvT T (vlL s.p.toNat x)) w') := fun bv T W k => by
      refine Calls.mono (HDx.out bv T W k.gs.gr.re) ?_
      rintro e w' ⟨bv', rfl, q⟩
      exact ⟨bv', rfl, k.gs.then q⟩
     have HRn : Hid (R = X ++ (if pvN s.vs i = some x.d.name then [] else heT x.d ++ tyT x.d) ++ (vlL s.p.toNat x).flatten ++ (vsL (vlL s.p.toNat) (pvN s.vs (i + 1)) (s.vs.drop (i + 1))).flatten) := by
      show _ = _
      rw [HR.out, HV.out]
      by_cases k : pvN s.vs i = some x.d.name
      ·rw [if_pos k, if_pos k]; simp
      ·rw [if_neg k, if_neg k]; simp
     obtain ⟨d0, d1, -, -, -, -, -, -, -, -, -⟩ := cB_of hN1
     obtain ⟨-, e1, -⟩ := HSb.out _ _ _ HU1.out
     clear q HI sF HG1 hN1 c0 c1 c2 HDx HV HR
     go_cut [58] from 43 to 57 (fun v W => v = .bool (decide (pvN s.vs i ≠ some x.d.name)) ∧ Hid (Gu w s (.slice (some ⟨b, o, none⟩) s.vs.length cap) xb x (.slice la x.d.labels.length lc) (.slice ca x.cs.length cc) (.slice va X.length vcp) X W))
     case first =>
      by_cases h0 : i = 0
      ·have h0' : ((i : Int) == 0) = true := by rw [beq_iff_eq]; omega
       have hd : decide (pvN s.vs i ≠ some x.d.name) = true := by rw [decide_eq_true_eq, h0]; intro e; cases e
       have HD := hid_of hd
       clear hd h0
       go_quiet (fail)
       go_wp2_with fail
       go_meet
       exact ⟨by rw [HD.out], HU1.out.below (bel_drewNB (Below.refl _ _) _)⟩
      ·have h0' : ((i : Int) == 0) = false := by rw [beq_eq_false_iff_ne]; omega
       obtain ⟨m, hm, him, hpv, hcl⟩ := HPv.out (by omega)
       have hcm := hcl W1 HU1.out.gs.gr.st
       have hw1 : IntKind.i64.wrap ((i : Int) - 1) = (m : Int) := by rw [IntKind.wrap_i64]; omega
       have hixm := index_val b o s.vs.length cap m (m : Int) rfl hm
       have HD : Hid (decide (pvN s.vs i ≠ some x.d.name) = ((s.vs.getD m x).d.name != x.d.name)) := by
        show _ = _
        rw [hpv]
        by_cases e : (s.vs.getD m x).d.name = x.d.name
        ·rw [e]; simp
        ·have e2 : ¬ (some (s.vs.getD m x).d.name = some x.d.name) := fun k => e (Option.some.inj k)
         rw [decide_eq_true e2, eq_comm, bne_iff_ne]; exact e
       generalize (s.vs.getD m x).d.name = nm at *
       clear hpv hcl him
       go_quiet (fail)
       go_wp2_with fail
       go_meet
       exact ⟨by rw [HD.out]; rfl, HU1.out.below (bel_drewNB (Below.refl _ _) _)⟩
     case rest =>
      obtain ⟨rfl, HU2⟩ := hcut
      clear d0 d1 e1 HU1 HPv
      by_cases hbg : pvN s.vs i = some x.d.name
      ·have hbg' : decide (pvN s.vs i ≠ some x.d.name) = false := by rw [decide_eq_false_iff_not]; exact fun k => k hbg
       rw [hbg']
       rw [if_pos hbg, List.append_nil] at HRn
       clear hbg hbg' hnl hel HHx HKd
       go_upto_region 12 with fail
       obtain ⟨m0, m1, m2⟩ := HSb.out _ _ _ HU2.out
       obtain ⟨d0, d1, d2, d3, d4, d5, d6, d7, d8, d9, da⟩ := HKq.out _ _ _ HU2.out
       have D12 : La.HidC _ _ _ _ _ := HDu.out _ _ _ HU2.out
       have HR12 := hid_of (HNx.out X)
       have HR13 := hid_of (HNo.out X)
       clear HNx HNo HDu HFin
       generalize dvT X (vlL s.p.toNat x) = X3 at *
       go_wp2_with fail
       refine (D12.out).mono ?_
       rintro e w12 ⟨b12, rfl, h12⟩
       obtain ⟨a12, c12, rfl⟩ := HFm.out _ _ _ h12
       have HI12 := hid_of h12
       clear D12 h12 m0 m1 m2 d0 d1 d2 d3 d4 d5 d6 d7 d8 d9 da HU2
       by_cases hf3 : fitB X3 = true
       ·have HF3 := hid_of hf3
        have hf3' : ¬ (4194304 : Int) < (X3.length : Int) := by have := fit_ln hf3; omega
        have HRf := hid_of (HR12.out hf3 HRn.out)
        clear hf3 HR12 HR13 HRn
        go_wp2_with fail
        exact ⟨⟨i + 1, X3, by omega, by go_num, ⟨_, _, rfl⟩, HRf, HF3, HI12⟩, by simp [intOf]; omega⟩
       ·have hf4 : fitB X3 = false := by simpa using hf3
        have hf3' : (4194304 : Int) < (X3.length : Int) := by unfold fitB at hf4; rw [decide_eq_false_iff_not] at hf4; omega
        have HE := hid_of (HR13.out hf4 HRn.out)
        have HSt := hid_of HI12.out.gr.st
        clear hf3 hf4 HR12 HR13 HRn HI12
        go_wp2_with fail
        go_ret2
        exact ⟨HE.out, HSt.out⟩
      ·have hbg' : decide (pvN s.vs i ≠ some x.d.name) = true := by rw [decide_eq_true_eq]; exact hbg
       rw [hbg']
       rw [if_neg hbg] at HRn
       have hhd : heT x.d ++ tyT x.d = [35, 32, 72, 69, 76, 80, 32] ++ x.d.name ++ [32] ++ La.escL false x.d.help ++ [10, 35, 32, 84, 89, 80, 69, 32] ++ x.d.name ++ [32] ++ kdT x.d.kind ++ [10] := by simp [heT, tyT, lnT, heA, tyA]
       rw [hhd] at HRn
       have hkl := kdT_len x.d.kind
       have hXl := fit_ln HX.out
       have HKx := hid_of (HKd.out x.d.kind)
       clear hbg hbg' hhd HKd
       generalize kdT x.d.kind = Dk at *
       generalize La.escL false x.d.help = De at *
       obtain ⟨z1, hz1⟩ : ∃ z1, z1 = [35, 32, 72, 69, 76, 80, 32] ++ x.d.name := ⟨_, rfl⟩
       obtain ⟨z2, hz2⟩ : ∃ z2, z2 = z1 ++ [32] := ⟨_, rfl⟩
       obtain ⟨z3, hz3⟩ : ∃ z3, z3 = z2 ++ De := ⟨_, rfl⟩
       obtain ⟨z4, hz4⟩ : ∃ z4, z4 = z3 ++ [10, 35, 32, 84, 89, 80, 69, 32] := ⟨_, rfl⟩
       obtain ⟨z5, hz5⟩ : ∃ z5, z5 = z4 ++ x.d.name := ⟨_, rfl⟩
       obtain ⟨z6, hz6⟩ : ∃ z6, z6 = z5 ++ [32] := ⟨_, rfl⟩
       obtain ⟨z7, hz7⟩ : ∃ z7, z7 = z6 ++ Dk := ⟨_, rfl⟩
       obtain ⟨z8, hz8⟩ : ∃ z8, z8 = z7 ++ [10] := ⟨_, rfl⟩
       have l1 : z1.length = 7 + x.d.name.length := by rw [hz1]; simp; omega
       have l2 : z2.length = z1.length + 1 := by rw [hz2]; simp
       have l3 : z3.length = z2.length + De.length := by rw [hz3]; simp
       have l4 : z4.length = z3.length + 8 := by rw [hz4]; simp
       have l5 : z5.length = z4.length + x.d.name.length := by rw [hz5]; simp
       have l6 : z6.length = z5.length + 1 := by rw [hz6]; simp
       have l7 : z7.length = z6.length + Dk.length := by rw [hz7]; simp
       have l8 : z8.length = z7.length + 1 := by rw [hz8]; simp
       have a1 : ∀ W, (Op.stringOp .add ⟨#[35, 32, 72, 69, 76, 80, 32]⟩ ⟨x.d.name.toArray⟩).run Tryz.prog W = .ok (.string ⟨z1.toArray⟩) W := fun W => by rw [hz1]; exact La.sadd [35, 32, 72, 69, 76, 80, 32] x.d.name (by simp; omega) W
       have a2 : ∀ W, (Op.stringOp .add ⟨z1.toArray⟩ ⟨#[32]⟩).run Tryz.prog W = .ok (.string ⟨z2.toArray⟩) W := fun W => by rw [hz2]; exact La.sadd z1 [32] (by simp; omega) W
       have a3 : ∀ W, (Op.stringOp .add ⟨z2.toArray⟩ ⟨De.toArray⟩).run Tryz.prog W = .ok (.string ⟨z3.toArray⟩) W := fun W => by rw [hz3]; exact La.sadd z2 De (by omega) W
       have a4 : ∀ W, (Op.stringOp .add ⟨z3.toArray⟩ ⟨#[10, 35, 32, 84, 89, 80, 69, 32]⟩).run Tryz.prog W = .ok (.string ⟨z4.toArray⟩) W := fun W => by rw [hz4]; exact La.sadd z3 [10, 35, 32, 84, 89, 80, 69, 32] (by simp; omega) W
       have a5 : ∀ W, (Op.stringOp .add ⟨z4.toArray⟩ ⟨x.d.name.toArray⟩).run Tryz.prog W = .ok (.string ⟨z5.toArray⟩) W := fun W => by rw [hz5]; exact La.sadd z4 x.d.name (by omega) W
       have a6 : ∀ W, (Op.stringOp .add ⟨z5.toArray⟩ ⟨#[32]⟩).run Tryz.prog W = .ok (.string ⟨z6.toArray⟩) W := fun W => by rw [hz6]; exact La.sadd z5 [32] (by simp; omega) W
       have a7 : ∀ W, (Op.stringOp .add ⟨z6.toArray⟩ ⟨Dk.toArray⟩).run Tryz.prog W = .ok (.string ⟨z7.toArray⟩) W := fun W => by rw [hz7]; exact La.sadd z6 Dk (by omega) W
       have a8 : ∀ W, (Op.stringOp .add ⟨z7.toArray⟩ ⟨#[10]⟩).run Tryz.prog W = .ok (.string ⟨z8.toArray⟩) W := fun W => by rw [hz8]; exact La.sadd z7 [10] (by simp; omega) W
       have HRe : Hid (R = X ++ z8 ++ (vlL s.p.toNat x).flatten ++ (vsL (vlL s.p.toNat) (pvN s.vs (i + 1)) (s.vs.drop (i + 1))).flatten) := by
        show _ = _
        rw [HRn.out, hz8, hz7, hz6, hz5, hz4, hz3, hz2, hz1]
       have hl8 : z8.length ≤ 10000 := by omega
       have hsz8 := sz_of z8
       clear hz1 hz2 hz3 hz4 hz5 hz6 hz7 hz8 l1 l2 l3 l4 l5 l6 l7 l8 hnl hel hkl HRn
       go_upto_region 11 with fail
       go_cut [6] from 59 to 82 (fun v W => ∃ a c, v = .slice a (X ++ z8).length c ∧ Hid (Gu w s (.slice (some ⟨b, o, none⟩) s.vs.length cap) xb x (.slice la x.d.labels.length lc) (.slice ca x.cs.length cc) v (X ++ z8) W))
       case first =>
        go_region_held3 (fun W => cB xb x (.slice la x.d.labels.length lc) (.slice ca x.cs.length cc) W)
         (first | (with_reducible exact HKq.out _ _ _ hPz) | (with_reducible refine HKq.out _ _ _ (hP8.below ?_); repeat (first | with_reducible exact Below.refl _ _ | with_reducible refine belD ?_)) | (with_reducible refine HKq.out _ _ _ (hP9.below ?_); repeat (first | with_reducible exact Below.refl _ _ | with_reducible refine belD ?_)) | (with_reducible refine HKq.out _ _ _ (HU2.out.below ?_); repeat (first | with_reducible exact Below.refl _ _ | with_reducible refine belD ?_)))
         (first
          | (go_at_call 11; (with_reducible refine Calls.mono (HHx.out _) ?_); rintro e w9 ⟨rfl, hb9⟩; have hP9 := HU2.out.below (bt (by repeat (first | with_reducible exact Below.refl _ _ | with_reducible refine belD ?_ | with_reducible refine belN _ ?_)) hb9))
          | (go_at_call 12; (with_reducible refine Calls.mono (HKx.out _) ?_); rintro e w8 ⟨rfl, hb8⟩; have hP8 := hP9.below (bt (by repeat (first | with_reducible exact Below.refl _ _ | with_reducible refine belD ?_ | with_reducible refine belN _ ?_)) hb8))
          | (refine step_append_str (by rfl) _ _ 41 9 (by rfl) w.heap.size 5 i8 Tryz.underlying41 Tryz.underlying9 hi8 hy0 hy1 hy2 (.slice va X.length vcp) X.length (Lib.byteCells X) (by rfl) ((hP8.below (by repeat (first | with_reducible exact Below.refl _ _ | with_reducible refine belD ?_ | with_reducible refine belN _ ?_))).gs.gr.own) ⟨z8.toArray⟩ (by rfl) (by rw [hsz8]; unfold maxLen; omega) (by rw [hsz8]; omega) ((hP8.below (by repeat (first | with_reducible exact Below.refl _ _ | with_reducible refine belD ?_ | with_reducible refine belN _ ?_))).gs.gr.st.size) ?_; intro v7 w7 o7 g7; have hPz := HUa.out _ X _ z8 _ _ (hP8.below (by repeat (first | with_reducible exact Below.refl _ _ | with_reducible refine belD ?_ | with_reducible refine belN _ ?_))) o7 g7))
        all_goals
         obtain ⟨az, cz, rfl⟩ := HUf.out _ _ _ hPz
         go_wp2_with fail
         go_meet
         exact ⟨_, _, rfl, hPz⟩
       case rest =>
        obtain ⟨a11, c11, rfl, HU3⟩ := hcut
        clear a1 a2 a3 a4 a5 a6 a7 a8 HU2 HHx HKx HX
        have HRn := HRe
        clear HRe
        generalize X ++ z8 = X8 at *
        go_upto_region 12 with fail
        obtain ⟨m0, m1, m2⟩ := HSb.out _ _ _ HU3.out
        obtain ⟨d0, d1, d2, d3, d4, d5, d6, d7, d8, d9, da⟩ := HKq.out _ _ _ HU3.out
        have D12 : La.HidC _ _ _ _ _ := HDu.out _ _ _ HU3.out
        have HR12 := hid_of (HNx.out X8)
        have HR13 := hid_of (HNo.out X8)
        clear HNx HNo HDu HFin
        generalize dvT X8 (vlL s.p.toNat x) = X3 at *
        go_wp2_with fail
        refine (D12.out).mono ?_
        rintro e w12 ⟨b12, rfl, h12⟩
        obtain ⟨a12, c12, rfl⟩ := HFm.out _ _ _ h12
        have HI12 := hid_of h12
        clear D12 h12 m0 m1 m2 d0 d1 d2 d3 d4 d5 d6 d7 d8 d9 da HU3
        by_cases hf3 : fitB X3 = true
        ·have HF3 := hid_of hf3
         have hf3' : ¬ (4194304 : Int) < (X3.length : Int) := by have := fit_ln hf3; omega
         have HRf := hid_of (HR12.out hf3 HRn.out)
         clear hf3 HR12 HR13 HRn
         go_wp2_with fail
         exact ⟨⟨i + 1, X3, by omega, by go_num, ⟨_, _, rfl⟩, HRf, HF3, HI12⟩, by simp [intOf]; omega⟩
        ·have hf4 : fitB X3 = false := by simpa using hf3
         have hf3' : (4194304 : Int) < (X3.length : Int) := by unfold fitB at hf4; rw [decide_eq_false_iff_not] at hf4; omega
         have HE := hid_of (HR13.out hf4 HRn.out)
         have HSt := hid_of HI12.out.gr.st
         clear hf3 hf4 HR12 HR13 HRn HI12
         go_wp2_with fail
         go_ret2
         exact ⟨HE.out, HSt.out⟩
    ·have hlt' : ¬ (i : Int) < (s.vs.length : Int) := by omega
     have hRX : R = X := by rw [HR.out, List.drop_eq_nil_of_le (by omega)]; simp [vsL]
     have HE : Hid (DwQ s A (.returned (.tuple #[.string ⟨X.toArray⟩, .int .i64 0]))) := HFin.out _ (Or.inr ⟨by rw [hRX]; exact HX.out, by rw [hRX]⟩)
     have hcw := conv_own HI.out.gr.own
     have HSt := hid_of HI.out.gr.st
     clear HFin HR HI hRX HHp HDv HDo HRw HVs HVi
     go_wp2_with fail
     go_ret2
     exact ⟨HE.out, HSt.out⟩
 ·have hz' : ((chkS s).1 != 0) = true := by rw [bne_iff_ne]; exact hz
  have HQ : Hid (DwQ s (exL (vlL s.p.toNat) s) (.returned (.tuple #[.string ⟨#[]⟩, .int .i64 (chkS s).1]))) := Or.inl ⟨hz, rfl⟩
  generalize (chkS s).1 = z at *
  clear hz hv0 hu hr hS hPr hW0 hN0 hb0 HN0
  go_enter Tryz.func6, Tryz.ntmps6
  go_upto_region 1 with fail
  rw [← HW0.out]
  clear HW0
  go_wp2_with fail
  refine (HC.out).mono ?_
  rintro e w1 ⟨rfl, hb1⟩
  have HB1 : Hid (Below w.heap.size w w1) := bt HB0.out hb1
  clear HC HB0 hb1 c0 c1 c2
  go_wp2_with fail
  go_ret2
  exact ⟨HQ.out, HB1.out⟩
end Go.Proofs.YtlgfgeacphkhnaaGreatDoor
