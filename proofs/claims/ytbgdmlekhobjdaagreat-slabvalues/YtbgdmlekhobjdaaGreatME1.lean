/- SlabMerges: the rest of its code behind a place. Own work of the verifier. -/
import Derived.Test.YtbgdmlekhobjdaaGreatB4
namespace Go.Proofs.YtbgdmlekhobjdaaGreat
open Go.RowKit
/-- The code behind its first n parts. -/
def sDrop : Nat → Code → Code
  | 0, c => c
  | n + 1, .seq _ b => sDrop n b
  | _ + 1, c => c
def sFirst : Code → Code
  | .seq a _ => a
  | c => c
def bodyC : Option Code → Code
  | some c => c
  | none => .skip
end Go.Proofs.YtbgdmlekhobjdaaGreat
/- SlabMerges: the end of its walk. Own work of the verifier. -/
namespace Go.Proofs.YtbgdmlekhobjdaaGreat
open Go.RowKit
/-- What add leaves, for those that call it. -/
def NextQ (B p : Nat) (L : List (Value × Value × Nat)) (n k : Nat) (v : Value) (w w' : World) : Prop := ∃ g' vl' vg', Hid (BK B p (L ++ [(v, g', k)]) vl' vg' (n + 40 + k) w') ∧ Hid (g'.ownBlock = none ∨ g'.ownBlock = v.ownBlock ∨ ∃ x, g'.ownBlock = some x ∧ w.heap.size ≤ x) ∧ Hid (Below B w w') ∧ Hid (∀ u O, OwnC B u O w → (u.ownBlock = none ∨ u.ownBlock ≠ v.ownBlock) → OwnC B u O w') ∧ Hid (∀ (j : Nat) (cs : Array Value) (t : TypeId), w.heap[j]? = some (.cells cs t (0, 0)) → 45 ≠ t → 25 ≠ t → t ≠ 49 → w'.heap[j]? = some (.cells cs t (0, 0)))
theorem add_next {B p : Nat} {L : List (Value × Value × Nat)} {vl vg : Value} {n : Nat} {v : Value} {A : List Cn} {w w' : World} (h : BK B p L vl vg n w) (hA : OwnC B v A w) (hB : B ≤ p) (hsz : B ≤ w.heap.size) (hq : AddQ B p L vl vg n A.length v w w') : NextQ B p L n A.length v w w' := by
  obtain ⟨g', vl', vg', h1, h2, h3⟩ := hq
  refine ⟨g', vl', vg', h1, h2, h3.below hsz (fun x hx => ?_), fun u O hu hne => h3.row hu (fun x hx hS => ?_), fun j cs t hj t1 t2 t3 => h3.at_ hj (fun hS => ?_)⟩
  · rcases hx with q | q | q | q
    · omega
    · exact (h.rl.lt x q).1
    · exact (h.rg.lt x q).1
    · exact (hA.lt x q).1
  · rcases hS with q | q | q | q
    · exact own_notype hu h.blk (by decide) (by rw [hx, q])
    · exact ne_none (own_apart hu h.rl (by decide)) x hx q
    · exact ne_none (own_apart hu h.rg (by decide)) x hx q
    · exact ne_none hne x hx q
  · rcases hS with q | q | q | q
    · subst q
      rw [h.blk] at hj
      cases hj
      exact t3 rfl
    · exact own_notype h.rl hj t2 q
    · exact own_notype h.rg hj t2 q
    · exact own_notype hA hj t1 q
theorem badd_next (B p : Nat) (L : List (Value × Value × Nat)) (vl vg : Value) (n : Nat) (v : Value) (A : List Cn) (w : World) (h : BK B p L vl vg n w) (hB : B ≤ p) (hsz : B ≤ w.heap.size) (hA : OwnC B v A w) (hap : Apart L v) (hL : L.length ≤ 1000) (hn : n + 40 + A.length < 2097152) :
    Calls Tryz.prog 13 #[.pointer (some ⟨p, 0, none⟩), v] w fun e w' => e = .returned (.tuple #[]) ∧ NextQ B p L n A.length v w w' :=
  (badd_any B p L vl vg n v A w h hsz hA hap hL hn).mono fun _e _w' q => ⟨q.1, add_next h hA hB hsz q.2⟩
/-- A part's box. -/
def PB (k : Nat) (v : Value) (W : World) : Prop := ∃ u0 u1 u3 u4 u5 u6, W.heap[k]? = some (.cells #[u0, u1, v, u3, u4, u5, u6] 32 (0, 0))
theorem PB.cell {k : Nat} {v : Value} {W : World} (h : PB k v W) : W.cell? ⟨k, 2, none⟩ = some v := by
  obtain ⟨u0, u1, u3, u4, u5, u6, h⟩ := h
  simp [World.cell?, h]
theorem PB.bel {k : Nat} {v : Value} {W W' : World} (h : PB k v W) (hb : Below W.heap.size W W') : PB k v W' := by
  obtain ⟨u0, u1, u3, u4, u5, u6, h⟩ := h
  exact ⟨u0, u1, u3, u4, u5, u6, (hb.block k (Array.getElem?_eq_some_iff.1 h).1).trans h⟩
theorem PB.next {k : Nat} {v : Value} {W W' : World} (h : PB k v W) (hb : ∀ (j : Nat) (cs : Array Value) (t : TypeId), W.heap[j]? = some (.cells cs t (0, 0)) → 45 ≠ t → 25 ≠ t → t ≠ 49 → W'.heap[j]? = some (.cells cs t (0, 0))) : PB k v W' := by
  obtain ⟨u0, u1, u3, u4, u5, u6, h⟩ := h
  exact ⟨u0, u1, u3, u4, u5, u6, hb _ _ _ h (by decide) (by decide) (by decide)⟩
theorem nsym {a b : Option Nat} (h : a = none ∨ a ≠ b) : b = none ∨ b ≠ a := by
  rcases h with q | q
  · subst q
    cases b <;> simp
  · exact Or.inr (Ne.symm q)
theorem apart_nil (v : Value) : Apart [] v := fun e he => by cases he
theorem apart_cons {L : List (Value × Value × Nat)} {v v' g' : Value} {k N B : Nat} {O : List Cn} {W : World} (h : Apart L v') (h1 : v.ownBlock = none ∨ v.ownBlock ≠ v'.ownBlock) (h2 : g'.ownBlock = none ∨ g'.ownBlock = v.ownBlock ∨ ∃ x, g'.ownBlock = some x ∧ N ≤ x) (h3 : OwnC B v' O W) (h4 : W.heap.size ≤ N) : Apart (L ++ [(v, g', k)]) v' := fun e he => by
  rcases List.mem_append.1 he with q | q
  · exact h e q
  · simp at q
    subst q
    refine ⟨h1, ?_⟩
    rcases h2 with r | r | ⟨x, r, r1⟩
    · exact Or.inl r
    · show g'.ownBlock = none ∨ g'.ownBlock ≠ v'.ownBlock
      rw [r]; exact h1
    · right
      show g'.ownBlock ≠ v'.ownBlock
      rw [r]
      intro e
      have := (h3.lt x e.symm).2
      omega
set_option maxHeartbeats 16000000 in
set_option maxRecDepth 100000 in
theorem sm_end (w W : World) (k9 k10 k17 m9 m10 m17 c9 c10 c17 : Nat) (a9 a10 a17 : Option Addr) (O9 O10 O17 : List Cn) (p9 : PB k9 (.slice a9 m9 c9) W) (p10 : PB k10 (.slice a10 m10 c10) W) (p17 : PB k17 (.slice a17 m17 c17) W) (o9 : OwnC w.heap.size (.slice a9 m9 c9) O9 W) (o10 : OwnC w.heap.size (.slice a10 m10 c10) O10 W) (o17 : OwnC w.heap.size (.slice a17 m17 c17) O17 W)
    (n1 : (Value.slice a9 m9 c9).ownBlock = none ∨ (Value.slice a9 m9 c9).ownBlock ≠ (Value.slice a10 m10 c10).ownBlock) (n2 : (Value.slice a9 m9 c9).ownBlock = none ∨ (Value.slice a9 m9 c9).ownBlock ≠ (Value.slice a17 m17 c17).ownBlock) (n3 : (Value.slice a10 m10 c10).ownBlock = none ∨ (Value.slice a10 m10 c10).ownBlock ≠ (Value.slice a17 m17 c17).ownBlock) (l9 : O9.length ≤ 600000) (l10 : O10.length ≤ 600000) (l17 : O17.length ≤ 600000) (hb : Below w.heap.size w W)
    (u0 u1 u2 u3 u4 u5 u6 u7 u8 u11 u12 u13 u14 u15 u16 u20 u21 u22 u23 u24 u25 u26 u27 u28 u29 u30 u31 u32 u33 u34 u35 u36 u37 u38 u39 u40 u41 u42 u43 u44 u45 u46 u47 u48 u49 u50 u51 u52 u53 u54 u55 u56 u57 u58 u59 u60 u61 u62 u63 u64 u65 u66 u67 u68 u69 u70 u71 u72 u73 u74 u75 u76 u77 u78 u79 u80 u81 u82 u83 u84 u85 u86 u87 u88 u89 u90 u91 u92 u93 u94 u95 u96 u97 u98 u99 u100 u101 u102 u103 u104 u105 u106 u107 u108 u109 u110 u111 u112 u113 u114 u115 u116 u117 u118 u119 u120 u121 u122 u123 u124 u125 u126 u127 u128 u129 u130 u131 u132 u133 u134 u135 u136 u137 u138 : Value) (K : Act → World → Prop) (hK : ∀ a w1, Code.wp Tryz.prog (sDrop 18 (bodyC Tryz.f3.body)) (bodyPost Tryz.prog Tryz.f3 fun r w' => r = .returned (.bool true) ∧ Below w.heap.size w w') a w1 → K a w1) :
    Code.wp Tryz.prog (sFirst (sDrop 17 (bodyC Tryz.f3.body))) (Exit.then K (bodyPost Tryz.prog Tryz.f3 fun r w' => r = .returned (.bool true) ∧ Below w.heap.size w w')) { tmps := #[u0, u1, u2, u3, u4, u5, u6, u7, u8, (.pointer (some ⟨k9, 0, none⟩)), (.pointer (some ⟨k10, 0, none⟩)), u11, u12, u13, u14, u15, u16, (.pointer (some ⟨k17, 0, none⟩)), (.bool true), (.bool true), u20, u21, u22, u23, u24, u25, u26, u27, u28, u29, u30, u31, u32, u33, u34, u35, u36, u37, u38, u39, u40, u41, u42, u43, u44, u45, u46, u47, u48, u49, u50, u51, u52, u53, u54, u55, u56, u57, u58, u59, u60, u61, u62, u63, u64, u65, u66, u67, u68, u69, u70, u71, u72, u73, u74, u75, u76, u77, u78, u79, u80, u81, u82, u83, u84, u85, u86, u87, u88, u89, u90, u91, u92, u93, u94, u95, u96, u97, u98, u99, u100, u101, u102, u103, u104, u105, u106, u107, u108, u109, u110, u111, u112, u113, u114, u115, u116, u117, u118, u119, u120, u121, u122, u123, u124, u125, u126, u127, u128, u129, u130, u131, u132, u133, u134, u135, u136, u137, u138], defers := [] } W := by
  have HB : Hid (Below w.heap.size w W) := hb
  have H9 := hid_ofB p9
  have H10 := hid_ofB p10
  have H17 := hid_ofB p17
  have HO9 := hid_ofB o9
  have HO10 := hid_ofB o10
  have HO17 := hid_ofB o17
  have HN1 := hid_ofB n1
  have HN2 := hid_ofB n2
  have HN3 := hid_ofB n3
  have HL9 := hid_ofB l9
  have HL10 := hid_ofB l10
  have HL17 := hid_ofB l17
  clear hb p9 p10 p17 o9 o10 o17 n1 n2 n3 l9 l10 l17
  dsimp only [sDrop, sFirst, bodyC, Tryz.f3] at hK ⊢
  go_upto_region 22 with fail
  generalize hW1 : W.alloc (.cells #[.slice none 0 0, .slice none 0 0, .int .i64 0, .bool false] 49) = W1
  have hb1 : Below W.heap.size W W1 := by rw [← hW1]; exact bel1 _ _
  have HBK := hid_ofB (BK.new w.heap.size W)
  rw [hW1] at HBK
  have HS1 : Hid (w.heap.size ≤ W.heap.size) := HB.out.size
  have HS2 : Hid (W.heap.size ≤ W1.heap.size) := hb1.size
  have HB1 := hid_ofB (bt HB.out hb1)
  have G9 := hid_ofB (H9.out.bel hb1)
  have G10 := hid_ofB (H10.out.bel hb1)
  have G17 := hid_ofB (H17.out.bel hb1)
  have Q9 := hid_ofB (HO9.out.bel hb1)
  have Q10 := hid_ofB (HO10.out.bel hb1)
  have Q17 := hid_ofB (HO17.out.bel hb1)
  clear hW1 hb1 H9 H10 H17 HO9 HO10 HO17 HB
  generalize W.heap.size = p at *
  have x9 := G9.out.cell
  have C1 := hid_ofB (badd_next w.heap.size p [] _ _ 0 _ O9 _ HBK.out HS1.out (Nat.le_trans HS1.out HS2.out) Q9.out (apart_nil _) (by simp) (by have := HL9.out; omega))
  go_upto_region 23 with (first | (go_at_call 13; with_reducible refine Calls.mono C1.out ?_; rintro e W2 ⟨rfl, HNX⟩))
  obtain ⟨g9, vl2, vg2, HBK2, HG9, HB2, HR2, HT2⟩ := HNX
  clear C1
  clear x9
  have J10 := hid_ofB (G10.out.next HT2.out)
  have J17 := hid_ofB (G17.out.next HT2.out)
  have R10 := hid_ofB (HR2.out _ _ Q10.out (nsym HN1.out))
  have R17 := hid_ofB (HR2.out _ _ Q17.out (nsym HN2.out))
  have HS3 : Hid (W1.heap.size ≤ W2.heap.size) := HB2.out.size
  have HB2' := hid_ofB (HB1.out.trans HB2.out)
  have HAp2 := hid_ofB (apart_cons (k := O9.length) (apart_nil _) HN1.out HG9.out Q10.out (Nat.le_refl _))
  have HAp3 := hid_ofB (apart_cons (k := O9.length) (apart_nil _) HN2.out HG9.out Q17.out (Nat.le_refl _))
  clear HBK HB1 HB2 HT2 HR2 Q9 Q10 Q17 G9 G10 G17 HG9
  have x10 := J10.out.cell
  have C2 := hid_ofB (badd_next w.heap.size p _ _ _ _ _ O10 _ HBK2.out HS1.out (Nat.le_trans HS1.out (Nat.le_trans HS2.out HS3.out)) R10.out HAp2.out (by simp) (by have := HL9.out; have := HL10.out; omega))
  go_upto_region 24 with (first | (go_at_call 13; with_reducible refine Calls.mono C2.out ?_; rintro e W3 ⟨rfl, HNX⟩))
  obtain ⟨g10, vl3, vg3, HBK3, HG10, HB3, HR3, HT3⟩ := HNX
  clear C2
  clear x10
  have K17 := hid_ofB (J17.out.next HT3.out)
  have U17 := hid_ofB (HR3.out _ _ R17.out (nsym HN3.out))
  have HS4 : Hid (W2.heap.size ≤ W3.heap.size) := HB3.out.size
  have HB3' := hid_ofB (HB2'.out.trans HB3.out)
  have HAp4 := hid_ofB (apart_cons (k := O10.length) HAp3.out HN3.out HG10.out R17.out (Nat.le_refl _))
  clear HBK2 HB2' HB3 HT3 HR3 R10 R17 J10 J17 HG10 HAp2 HAp3
  have x17 := K17.out.cell
  have C3 := hid_ofB (badd_next w.heap.size p _ _ _ _ _ O17 _ HBK3.out HS1.out (Nat.le_trans HS1.out (Nat.le_trans HS2.out (Nat.le_trans HS3.out HS4.out))) U17.out HAp4.out (by simp) (by have := HL9.out; have := HL10.out; have := HL17.out; omega))
  go_upto_region 25 with (first | (go_at_call 13; with_reducible refine Calls.mono C3.out ?_; rintro e W4 ⟨rfl, HNX⟩))
  obtain ⟨g17, vl4, vg4, HBK4, HG17, HB4, HR4, HT4⟩ := HNX
  clear C3
  clear x17 HBK3 HG17 HR4 HT4 U17 K17 HAp4
  have HB4' := hid_ofB (HB3'.out.trans HB4.out)
  clear HB3' HB4
  have CS := hid_ofB (stays_any w.heap.size p _ _ _ _ _ HBK4.out (by simp) (fun e he => by
    have h9 := HL9.out
    have h10 := HL10.out
    have h17 := HL17.out
    simp at he
    rcases he with rfl | rfl | rfl
    · show O9.length ≤ 1048576; omega
    · show O10.length ≤ 1048576; omega
    · show O17.length ≤ 1048576; omega))
  clear HBK4 HL9 HL10 HL17 HN1 HN2 HN3
  go_wp2_with (first | (go_at_call 14; with_reducible refine Calls.mono CS.out ?_; rintro e W5 ⟨rfl, hb5⟩))
  go_ret
  exact ⟨rfl, HB4'.out.trans (hb5.mono (Nat.le_trans (Nat.le_refl _) HB4'.out.size))⟩
end Go.Proofs.YtbgdmlekhobjdaaGreat
