/- ExpoKeeps: three texts are told. Own work of the verifier. -/
import Derived.Test.YtlgfgeacphkhnaaGreatDoorWBT
namespace Go.Proofs.YtlgfgeacphkhnaaGreatDoor
open Go.RowKit Me

theorem info8s : (Tryz.prog.info? 41).map (fun i => (i.zero, i.size, i.bytes)) = some (some (.slice none 0 0), 1, 24) := by kernel_rfl
theorem Kt.new {w W : World} {B : Nat} {s : Sn} {us v : Value} {J : List Rv} (h : Kc w B s us v J W) : Kt w B s us v J (.slice (some ⟨W.heap.size, 0, none⟩) 0 0) [] [] (W.alloc (.cells #[] 41)) :=
 ⟨h.below (bel1 _ _), ⟨rfl, Or.inr ⟨W.heap.size, 0, #[], rfl, by have := h.size; have := h.lo; omega, new_1 W _, Nat.le_refl _, by decide, rfl, rfl⟩⟩, rfl, fun j hj => absurd hj (by simp), fun i _ hi => absurd hi (by simp)⟩
abbrev wrP (z : Int) (R : List UInt8) (W : World) (e : Ending) (w' : World) : Prop := (∃ u, e = .returned (.tuple #[u, .int .i64 z]) ∧ w'.ownsRow W.heap.size 5 1 u R.length (Lib.byteCells R)) ∧ Below W.heap.size W w'
set_option maxRecDepth 100000 in
set_option maxHeartbeats 8000000 in
theorem keeps_told (s : Sn) (w W : World) (B : Nat) (ao : Option Addr) (cap : Nat) (z : Int) (R : List UInt8) (v0 : Value) (J : List Rv) (f : Nat → Value) (Q : Exit → Act → World → Prop)
  (hw : ∀ W v, Below w.heap.size w W → SnAt W s v → Calls Tryz.prog 7 #[v] W (wrP z R W))
  (hd : ∀ W, Below w.heap.size w W → Calls Tryz.prog 6 #[.agg #[.int .i64 s.p, .slice ao s.vs.length cap, .int .u64 (s.r : Int)]] W fun e w' => e = .returned (.tuple #[.string ⟨R.toArray⟩, .int .i64 z]) ∧ Below W.heap.size W w')
  (hm : ∀ W v, Below w.heap.size w W → SnAt W s v → Calls Tryz.prog 8 #[v, .agg #[.int .i64 s.p, .slice ao s.vs.length cap, .int .u64 (s.r : Int)]] W fun e w' => e = .returned (.bool true) ∧ Below W.heap.size W w')
  (h1 : f 1 = .pointer (some ⟨w.heap.size, 0, none⟩)) (h2 : f 2 = .bool false) (h3 : f 3 = .pointer (some ⟨B, 0, none⟩)) (hJ : J.map (·.1) = s.vs) (hC : Kc w B s (.slice ao s.vs.length cap) v0 J W)
  (Hr : ∀ (f' : Nat → Value) (told : Value) (Vs : List Value) (W' : World), f' 3 = .pointer (some ⟨B, 0, none⟩) → f' 8 = .string ⟨R.toArray⟩ → f' 9 = .int .i64 z → f' 10 = told → Vs.length = 3 → Kt w B s (.slice ao s.vs.length cap) v0 J told Vs [R, R, R] W' → Code.wp Tryz.prog (sDrop 9 kB) Q ⟨fr f', []⟩ W') :
  Code.wp Tryz.prog (sDrop 6 kB) Q ⟨fr f, []⟩ W := by
 have HW := hid_of hw
 have HD := hid_of hd
 have HM := hid_of hm
 have HC0 := hid_of hC
 have HJ := hid_of hJ
 obtain ⟨av, gv, cpv, rfl, -⟩ := own_slice hC.own
 rw [fr_lit, h1, h2, h3, kpt6]
 clear h1 h2 h3 hw hd hm hC hJ
 refine wp_seq_k fun K hK => ?_
 obtain ⟨c0, c1, c2, _, _, _⟩ := three_cells HC0.out.g1
 dsimp only [sDrop, sFirst, bodyC, kB, Tryz.f3]
 go_wp2_with (go_at_call 6; refine (HD.out _ HC0.out.bl).mono ?_; rintro e w1 ⟨rfl, hb1⟩)
 have HC1 := hid_of (HC0.out.below hb1)
 clear hb1 HC0 HD c0 c1 c2
 rw [kpt7]
 refine wp_seq_k fun K hK => ?_
 dsimp only [sDrop, sFirst, bodyC, kB, Tryz.f3]
 go_wp2_with fail
 have HT0 := hid_of (Kt.new HC1.out)
 clear HC1
 rw [kpt8]
 refine wp_seq_k fun K hK => ?_
 have HK : Hid (∀ (a : Array Value) (told : Value) (Vs : List Value) (W' : World), a.size = 210 → a.getD 3 (.bool false) = .pointer (some ⟨B, 0, none⟩) → a.getD 8 (.bool false) = .string ⟨R.toArray⟩ → a.getD 9 (.bool false) = .int .i64 z → a.getD 10 (.bool false) = told → Vs.length = 3 → Kt w B s (.slice ao s.vs.length cap) (.slice av J.length cpv) J told Vs [R, R, R] W' → K ⟨a, []⟩ W') := fun a told Vs W' e1 e3 e4 e5 e6 e7 e8 => hK _ _ (wp_fr e1 (Hr _ told Vs W' e3 e4 e5 e6 e7 e8))
 clear hK Hr
 dsimp only [sDrop, sFirst, bodyC, kB, Tryz.f3]
 obtain ⟨i0, hi0, hz0, hz1, hz2⟩ := info_parts info8s
 have HI := hid_of (⟨hi0, hz0, hz1, hz2⟩ : _ ∧ _ ∧ _ ∧ _)
 clear hi0 hz0 hz1 hz2
 go_upto_region 19 with fail
 go_loopw [10, 11] (fun x y W => ∃ (Vs : List Value), Vs.length ≤ 3 ∧ y = .int .i64 (Vs.length : Int) ∧ Hid (Kt w B s (.slice ao s.vs.length cap) (.slice av J.length cpv) J x Vs (List.replicate Vs.length R) W)) (fun _ y _ => 3 - (intOf y).toNat)
 case atStart => exact ⟨[], by simp, rfl, HT0⟩
 case round =>
  clear HT0
  obtain ⟨Vs, hi, rfl, HT⟩ := hrel
  obtain ⟨n, hn⟩ : ∃ n, n = Vs.length := ⟨_, rfl⟩
  by_cases hlt : n < 3
  ·have hlt' : ((Vs.length : Nat) : Int) < 3 := by omega
   have hw' : IntKind.i64.wrap ((Vs.length : Int) + 1) = ((n + 1 : Nat) : Int) := by rw [IntKind.wrap_i64]; omega
   obtain ⟨c0, c1, c2, _, _, _⟩ := three_cells HT.out.kc.g3
   go_upto_region 22 with (go_at_call 7; refine (HW.out _ _ HT.out.kc.bl (HT.out.kc.snap HJ.out)).mono ?_; rintro e w2 ⟨⟨u, rfl, hu⟩, hb2⟩; obtain ⟨ua, ug, uc, rfl, -⟩ := own_slice hu)
   have hcv : (convert 41 9 (.slice ua R.length uc)).run Tryz.prog w2 = .ok (.string ⟨R.toArray⟩) w2 := conv_own hu
   have HU := hid_of hu
   have HB := hid_of hb2
   obtain ⟨d0, d1, d2, _, _, _⟩ := three_cells (hkN HT.out.kc.g3 hb2)
   obtain ⟨e0, e1, e2, _, _, _⟩ := three_cells (hkN HT.out.kc.g1 hb2)
   clear hu hb2 c0 c1 c2
   have q1 : (z != z) = false := by simp
   go_upto_region 24 with (go_at_call 8; refine (HM.out _ _ (bt HT.out.kc.bl HB.out) ((HT.out.kc.below HB.out).snap HJ.out)).mono ?_; rintro e w3 ⟨rfl, hb3⟩)
   have HB3 := hid_of (bt HB.out hb3)
   have HU3 := hid_of (own_belG HU.out hb3)
   clear hb3 HB HU hcv d0 d1 d2 e0 e1 e2 q1
   go_wp2_with (first
    | (at_builtin; refine wpList_append_two _ rfl _ _ 40 rfl w.heap.size 41 i0 (.slice none 0 0) 1 24 Tryz.underlying40 HI.out.1 HI.out.2.1 HI.out.2.2.1 HI.out.2.2.2 rfl u10 Vs.length Vs rfl ((HT.out.below HB3.out).below (bel1 _ _)).row ⟨_, 0, none⟩ 1 1 [.slice ua R.length uc] rfl rfl (fun j u hu => by match j, hu with | 0, hu => (simp at hu; subst hu; simp [go_sem]) | j + 1, hu => (simp at hu)) (fun u hu => by simp at hu; subst hu; rfl) (by omega) (by unfold maxLen; omega) (by omega) ?_; intro told' w4 hp4))
   have hk := HT.out.push (bt HB3.out (bel1 _ _)) (own_belG HU3.out (bel1 _ _)) hp4
   rw [← List.replicate_succ'] at hk
   refine ⟨⟨Vs ++ [.slice ua R.length uc], by rw [List.length_append]; simp; omega, by rw [List.length_append]; simp, by rw [List.length_append]; exact hk⟩, by simp [intOf]; omega⟩
  ·have hlt' : ¬ ((Vs.length : Nat) : Int) < 3 := by omega
   have hl3 : Vs.length = 3 := by omega
   have HT3 : Hid (Kt w B s (.slice ao s.vs.length cap) (.slice av J.length cpv) J u10 Vs [R, R, R] wr) := by
    have := HT.out
    rw [hl3] at this
    exact this
   go_wp2_with fail
   exact HK.out _ _ Vs _ rfl rfl rfl rfl rfl hl3 HT3.out
end Go.Proofs.YtlgfgeacphkhnaaGreatDoor
/- ExpoKeeps: the texts are written over. Own work of the verifier. -/
namespace Go.Proofs.YtlgfgeacphkhnaaGreatDoor
open Go.RowKit Me

def rsK (R : List UInt8) (i : Nat) : List (List UInt8) := (List.range 3).map fun j => if j < i then List.replicate R.length (UInt8.ofNat (j + 1)) else R
theorem rsK_get (R : List UInt8) (i j : Nat) (h : j < 3) : (rsK R i)[j]? = some (if j < i then List.replicate R.length (UInt8.ofNat (j + 1)) else R) := by
 simp [rsK, h]
theorem rsK_len (R : List UInt8) (i : Nat) : (rsK R i).length = 3 := by simp [rsK]
theorem rsK_set (R : List UInt8) (i : Nat) (hi : i < 3) : (rsK R i).set i (List.replicate R.length (UInt8.ofNat (i + 1))) = rsK R (i + 1) := by
 apply List.ext_getElem?
 intro j
 by_cases hj : j < 3
 ·rw [List.getElem?_set, rsK_get _ _ _ hj, rsK_get _ _ _ hj, rsK_len]
  by_cases e : i = j
  ·subst e
   simp [hi]
  ·rw [if_neg e]
   by_cases c : j < i
   ·rw [if_pos c, if_pos (by omega)]
   ·rw [if_neg c, if_neg (by omega)]
 ·rw [List.getElem?_eq_none (by rw [List.length_set, rsK_len]; omega), List.getElem?_eq_none (by rw [rsK_len]; omega)]
theorem own_frozen {W : World} {B : Nat} {e : TypeId} {s g n cap : Nat} {xs : List Value} (h : W.ownsRow B e s (.slice (some ⟨g, 0, none⟩) n cap) n xs) (j : Nat) : W.frozen? ⟨g, j, none⟩ = false := by
 rcases h.2 with ⟨q, _⟩ | ⟨g', cap', cur, q, _, hg, _⟩
 ·cases q
 ·cases q
  simp [World.frozen?, hg]
theorem bc_over (R : List UInt8) (m : UInt8) (k : Nat) (h : k < R.length) : (Lib.byteCells (List.replicate k m ++ R.drop k)).set k (.int .u8 m.toNat) = Lib.byteCells (List.replicate (k + 1) m ++ R.drop (k + 1)) := by
 rw [List.drop_eq_getElem_cons h, Lib.byteCells_append, Lib.byteCells_append, List.set_append_right _ _ (by simp [Lib.byteCells]), Lib.byteCells_length, List.length_replicate, Nat.sub_self, List.replicate_succ', Lib.byteCells_append, List.append_assoc]
 rfl
theorem Kt.over {w W : World} {B : Nat} {s : Sn} {us v told : Value} {J : List Rv} {Vs : List Value} {Rs : List (List UInt8)} {R : List UInt8} {i k g cap : Nat} {m : UInt8} (h : Kt w B s us v J told Vs (Rs.set i (List.replicate k m ++ R.drop k)) W) (hi : i < Vs.length) (hk : k < R.length) (e : Vs[i] = .slice (some ⟨g, 0, none⟩) R.length cap) : Kt w B s us v J told Vs (Rs.set i (List.replicate (k + 1) m ++ R.drop (k + 1))) (W.setCell ⟨g, k, none⟩ (.int .u8 m.toNat)) := by
 have hi' : i < Rs.length := by have := h.len; rw [List.length_set] at this; omega
 have ho := h.el i hi (by rw [List.length_set]; exact hi')
 rw [List.getElem_set_self, e] at ho
 have hlen : ∀ q, q ≤ R.length → (List.replicate q m ++ R.drop q).length = R.length := fun q hq => by simp; omega
 rw [hlen k (by omega)] at ho
 obtain ⟨s1, g1⟩ := ho.stored k (.int .u8 m.toNat)
 rw [bc_over R m k hk] at s1
 have := h.byte (R := List.replicate (k + 1) m ++ R.drop (k + 1)) hi (by rw [e]; exact g1) (by rw [hlen (k + 1) (by omega), e]; exact s1)
 rw [List.set_set] at this
 exact this
theorem u8m (i : Nat) (hi : i < 3) : IntKind.u8.wrap ((i : Int) + 1) = ((UInt8.ofNat (i + 1)).toNat : Int) := by
 match i, hi with
 | 0, _ => rfl
 | 1, _ => rfl
 | 2, _ => rfl
set_option maxRecDepth 100000 in
set_option maxHeartbeats 8000000 in
theorem keeps_over (s : Sn) (w W : World) (B : Nat) (us v0 told0 : Value) (R : List UInt8) (z : Int) (J : List Rv) (Vs : List Value) (f : Nat → Value) (Q : Exit → Act → World → Prop) (hR : R.length ≤ 4194304)
  (h3 : f 3 = .pointer (some ⟨B, 0, none⟩)) (h8 : f 8 = .string ⟨R.toArray⟩) (h9 : f 9 = .int .i64 z) (h10 : f 10 = told0) (hV : Vs.length = 3) (hT : Kt w B s us v0 J told0 Vs [R, R, R] W)
  (Hr : ∀ (f' : Nat → Value) (told : Value) (W' : World), f' 3 = .pointer (some ⟨B, 0, none⟩) → f' 8 = .string ⟨R.toArray⟩ → f' 9 = .int .i64 z → f' 10 = told → Kt w B s us v0 J told Vs (rsK R 3) W' → Code.wp Tryz.prog (sDrop 10 kB) Q ⟨fr f', []⟩ W') :
  Code.wp Tryz.prog (sDrop 9 kB) Q ⟨fr f, []⟩ W := by
 obtain ⟨ta, tg, tc, rfl, hta, -⟩ := own_slice hT.row
 obtain rfl := hta (by omega)
 have HT0 : Hid (Kt w B s us v0 J (.slice (some ⟨tg, 0, none⟩) Vs.length tc) Vs (rsK R 0) W) := hT
 rw [fr_lit, h3, h8, h9, h10, kpt9]
 clear h3 h8 h9 h10 hT hta
 refine wp_seq_k fun K hK => ?_
 have HK : Hid (∀ (a : Array Value) (told : Value) (W' : World), a.size = 210 → a.getD 3 (.bool false) = .pointer (some ⟨B, 0, none⟩) → a.getD 8 (.bool false) = .string ⟨R.toArray⟩ → a.getD 9 (.bool false) = .int .i64 z → a.getD 10 (.bool false) = told → Kt w B s us v0 J told Vs (rsK R 3) W' → K ⟨a, []⟩ W') := fun a told W' e1 e3 e4 e5 e6 e8 => hK _ _ (wp_fr e1 (Hr _ told W' e3 e4 e5 e6 e8))
 clear hK Hr
 rw [hV] at HT0 ⊢
 dsimp only [sDrop, sFirst, bodyC, kB, Tryz.f3]
 obtain ⟨i8, hi8, hy0, hy1, hy2⟩ := info_parts info8
 have HI := hid_of (⟨hi8, hy0, hy1, hy2⟩ : _ ∧ _ ∧ _ ∧ _)
 clear hi8 hy0 hy1 hy2
 go_upto_region 26 with fail
 go_loopw [113] (fun x W => ∃ (i : Nat), i ≤ 3 ∧ x = .int .i64 (i : Int) ∧ Hid (Kt w B s us v0 J (.slice (some ⟨tg, 0, none⟩) 3 tc) Vs (rsK R i) W)) (fun x _ => 3 - (intOf x).toNat)
 case atStart => exact ⟨0, by omega, rfl, HT0⟩
 case round =>
  clear HT0
  obtain ⟨i, hi, rfl, HT⟩ := hrel
  by_cases hlt : i < 3
  ·have hlt' : (i : Int) < 3 := by omega
   have hiV : i < Vs.length := by omega
   have hiR : i < (rsK R i).length := by rw [rsK_len]; omega
   have hcell : wr.cell? ⟨tg, i, none⟩ = some Vs[i] := by
    have h := HT.out.row
    rw [hV] at h
    rw [h.cellAt i (by omega), List.getElem?_eq_getElem hiV]
   have hRi : (rsK R i)[i] = R := by
    have := rsK_get R i i hlt
    rw [List.getElem?_eq_getElem hiR, if_neg (by omega)] at this
    exact Option.some.inj this
   have hown := HT.out.el i hiV hiR
   rw [hRi] at hown
   obtain ⟨ba, bg, bc, hb, hba, -⟩ := own_slice hown
   rw [hb] at hcell
   have HE := hid_of hb
   have hu8 := u8m i hlt
   have hw1 : IntKind.i64.wrap ((i : Int) + 1) = (i : Int) + 1 := by rw [IntKind.wrap_i64]; omega
   obtain ⟨m, hm⟩ : ∃ m, m = UInt8.ofNat (i + 1) := ⟨_, rfl⟩
   rw [← hm] at hu8
   have HM := hid_of hm
   have HT1 : Hid (Kt w B s us v0 J (.slice (some ⟨tg, 0, none⟩) 3 tc) Vs ((rsK R i).set i (List.replicate 0 m ++ R.drop 0)) wr) := by
    have e : (rsK R i).set i (List.replicate 0 m ++ R.drop 0) = rsK R i := by
     have q := List.set_getElem_self hiR
     rw [hRi] at q
     exact q
    unfold Hid
    rw [e]
    exact HT.out
   have HBa := hid_of hba
   clear hown hRi hiR hb hm hba HT
   go_upto_region 30 with fail
   clear hcell
   go_loopw [123] (fun x W => ∃ (k : Nat), k ≤ R.length ∧ x = .int .i64 (k : Int) ∧ Hid (Kt w B s us v0 J (.slice (some ⟨tg, 0, none⟩) 3 tc) Vs ((rsK R i).set i (List.replicate k m ++ R.drop k)) W)) (fun x _ => R.length - (intOf x).toNat)
   case atStart => exact ⟨0, by omega, rfl, HT1⟩
   case round =>
    clear HT1
    obtain ⟨k, hk, rfl, HT⟩ := hrel
    by_cases hkl : k < R.length
    ·have hkl' : (k : Int) < (R.length : Int) := by omega
     obtain rfl := HBa.out (by omega)
     have hown := HT.out.el i hiV (by rw [List.length_set, rsK_len]; omega)
     rw [List.getElem_set_self, HE.out, show (List.replicate k m ++ R.drop k).length = R.length by simp; omega] at hown
     have f0 := own_frozen hown k
     have c0 := hown.cellAt k (by omega)
     rw [List.getElem?_eq_getElem (by rw [hown.1]; omega)] at c0
     generalize (Lib.byteCells (List.replicate k m ++ R.drop k))[k]'(by rw [hown.1]; omega) = y0 at c0
     have HN := hid_of (HT.out.over hiV hkl HE.out)
     clear hown HT HE
     go_wp2_with fail
     exact ⟨⟨k + 1, by omega, by go_num, HN⟩, by simp [intOf]; omega⟩
    ·have hkl' : ¬ (k : Int) < (R.length : Int) := by omega
     have hke : k = R.length := by omega
     have HP0 : Hid (Kp w B s us v0 J (.slice (some ⟨tg, 0, none⟩) 3 tc) Vs (rsK R (i + 1)) i R.length m 0 (.slice ba R.length bc) wr) := by
      have h := HT.out
      rw [hke, List.drop_of_length_le (Nat.le_refl _), List.append_nil, HM.out, rsK_set R i hlt] at h
      have := Kp.new (i := i) (n := R.length) (m := m) h hiV (by rw [rsK_get R (i + 1) i hlt, if_pos (by omega), HM.out])
      rw [HE.out] at this
      exact this
     clear HT hke
     go_upto_region 35 with fail
     go_loopw [15, 18] (fun l y W => ∃ (k : Nat), k ≤ 40 ∧ y = .int .i64 (k : Int) ∧ Hid (Kp w B s us v0 J (.slice (some ⟨tg, 0, none⟩) 3 tc) Vs (rsK R (i + 1)) i R.length m k l W)) (fun _ y _ => 40 - (intOf y).toNat)
     case atStart => exact ⟨0, by omega, rfl, HP0⟩
     case round =>
      clear HP0
      obtain ⟨k, hk, rfl, HP⟩ := hrel
      by_cases hkl : k < 40
      ·have hkl2 : (k : Int) < 40 := by omega
       go_wp2_with (first
        | (at_builtin; refine wpList_append_two _ rfl _ _ 41 rfl w.heap.size 5 i8 (.int .u8 0) 1 1 Tryz.underlying41 HI.out.1 HI.out.2.1 HI.out.2.2.1 HI.out.2.2.2 rfl u15 (R.length + k) (Lib.byteCells (List.replicate (R.length + k) m)) rfl (HP.out.below (bel1 _ _)).cur ⟨_, 0, none⟩ 1 1 [.int .u8 m.toNat] rfl rfl (fun j u hu => by match j, hu with | 0, hu => (simp at hu; subst hu; simp [go_sem]) | j + 1, hu => (simp at hu)) (fun u hu => by simp at hu; subst hu; rfl) (by omega) (by unfold maxLen; omega) (by omega) ?_; intro l' w4 hp4))
       exact ⟨⟨k + 1, by omega, by go_num, (HP.out.below (bel1 _ _)).push hp4⟩, by simp [intOf]; omega⟩
      ·have hkl2 : ¬ (k : Int) < 40 := by omega
       have HTn := hid_of HP.out.kt
       clear HP
       go_wp2_with fail
       exact ⟨⟨i + 1, by omega, by go_num, HTn⟩, by simp [intOf]; omega⟩
  ·have hlt' : ¬ (i : Int) < 3 := by omega
   have hi3 : i = 3 := by omega
   subst hi3
   go_wp2_with fail
   exact HK.out _ _ _ rfl rfl rfl rfl rfl HT.out
end Go.Proofs.YtlgfgeacphkhnaaGreatDoor
/- ExpoKeeps: what was written is read; the spare room; the end. Own work of the verifier. -/
namespace Go.Proofs.YtlgfgeacphkhnaaGreatDoor
open Go.RowKit Me

set_option maxRecDepth 100000 in
set_option maxHeartbeats 8000000 in
theorem keeps_read (s : Sn) (w W : World) (B : Nat) (us v0 told0 : Value) (R : List UInt8) (z : Int) (J : List Rv) (Vs : List Value) (f : Nat → Value) (Q : Exit → Act → World → Prop) (hR : R.length ≤ 4194304)
  (h3 : f 3 = .pointer (some ⟨B, 0, none⟩)) (h8 : f 8 = .string ⟨R.toArray⟩) (h9 : f 9 = .int .i64 z) (h10 : f 10 = told0) (hV : Vs.length = 3) (hT : Kt w B s us v0 J told0 Vs (rsK R 3) W)
  (Hr : ∀ (f' : Nat → Value), f' 3 = .pointer (some ⟨B, 0, none⟩) → f' 8 = .string ⟨R.toArray⟩ → f' 9 = .int .i64 z → Code.wp Tryz.prog (sDrop 11 kB) Q ⟨fr f', []⟩ W) :
  Code.wp Tryz.prog (sDrop 10 kB) Q ⟨fr f, []⟩ W := by
 obtain ⟨ta, tg, tc, rfl, hta, -⟩ := own_slice hT.row
 obtain rfl := hta (by omega)
 have HT : Hid (Kt w B s us v0 J (.slice (some ⟨tg, 0, none⟩) Vs.length tc) Vs (rsK R 3) W) := hT
 rw [fr_lit, h3, h8, h9, h10, kpt10]
 clear h3 h8 h9 h10 hT hta
 refine wp_seq_k fun K hK => ?_
 have HK : Hid (∀ (a : Array Value), a.size = 210 → a.getD 3 (.bool false) = .pointer (some ⟨B, 0, none⟩) → a.getD 8 (.bool false) = .string ⟨R.toArray⟩ → a.getD 9 (.bool false) = .int .i64 z → K ⟨a, []⟩ W) := fun a e1 e3 e4 e5 => hK _ _ (wp_fr e1 (Hr _ e3 e4 e5))
 clear hK Hr
 rw [hV] at HT ⊢
 dsimp only [sDrop, sFirst, bodyC, kB, Tryz.f3]
 go_upto_region 40 with fail
 go_loopw [142] (fun x W' => ∃ (i : Nat), i ≤ 3 ∧ x = .int .i64 (i : Int) ∧ W' = W) (fun x _ => 3 - (intOf x).toNat)
 case atStart => exact ⟨0, by omega, rfl, rfl⟩
 case round =>
  obtain ⟨i, hi, rfl, rfl⟩ := hrel
  by_cases hlt : i < 3
  ·have hlt' : (i : Int) < 3 := by omega
   have hiV : i < Vs.length := by omega
   have hiR : i < (rsK R 3).length := by rw [rsK_len]; omega
   have hcell : wr.cell? ⟨tg, i, none⟩ = some Vs[i] := by
    have h := HT.out.row
    rw [hV] at h
    rw [h.cellAt i (by omega), List.getElem?_eq_getElem hiV]
   have hRi : (rsK R 3)[i] = List.replicate R.length (UInt8.ofNat (i + 1)) := by
    have := rsK_get R 3 i hlt
    rw [List.getElem?_eq_getElem hiR, if_pos (by omega)] at this
    exact Option.some.inj this
   have hown := HT.out.el i hiV hiR
   rw [hRi, List.length_replicate, bc_rep] at hown
   obtain ⟨ba, bg, bc, hb, hba, -⟩ := own_slice hown
   rw [hb] at hcell hown
   have HO := hid_of hown
   have HBa := hid_of hba
   have hu8 := u8m i hlt
   have hw1 : IntKind.i64.wrap ((i : Int) + 1) = (i : Int) + 1 := by rw [IntKind.wrap_i64]; omega
   have hq : (((UInt8.ofNat (i + 1)).toNat : Int) != ((UInt8.ofNat (i + 1)).toNat : Int)) = false := by simp
   generalize (UInt8.ofNat (i + 1)).toNat = m at *
   clear hown hRi hiR hb hba
   go_upto_region 43 with fail
   clear hcell
   go_loopw [149] (fun x W' => ∃ (k : Nat), k ≤ R.length ∧ x = .int .i64 (k : Int) ∧ W' = wr) (fun x _ => R.length - (intOf x).toNat)
   case atStart => exact ⟨0, by omega, rfl, rfl⟩
   case round =>
    obtain ⟨k, hk, rfl, hwr⟩ := hrel
    obtain rfl := hwr
    by_cases hkl : k < R.length
    ·have hkl' : (k : Int) < (R.length : Int) := by omega
     obtain rfl := HBa.out (by omega)
     have c0 := HO.out.cellAt k (by omega)
     rw [List.getElem?_replicate, if_pos hkl] at c0
     clear HO HT
     go_wp2_with fail
     exact ⟨⟨k + 1, by omega, by go_num, by first | rfl | trivial⟩, by simp [intOf]; omega⟩
    ·have hkl' : ¬ (k : Int) < (R.length : Int) := by omega
     go_wp2_with fail
     exact ⟨⟨i + 1, by omega, by go_num, by first | rfl | trivial⟩, by simp [intOf]; omega⟩
  ·have hlt' : ¬ (i : Int) < 3 := by omega
   go_wp2_with fail
   exact HK.out _ rfl rfl rfl rfl
set_option maxRecDepth 100000 in
set_option maxHeartbeats 8000000 in
theorem keeps_room (s : Sn) (w W : World) (B : Nat) (us v0 : Value) (R : List UInt8) (z : Int) (J : List Rv) (f : Nat → Value) (Q : Exit → Act → World → Prop) (hx : ∀ r ∈ J, r.1.d.labels.length ≤ 1048576) (hl : J.length ≤ 1048576)
  (h3 : f 3 = .pointer (some ⟨B, 0, none⟩)) (h8 : f 8 = .string ⟨R.toArray⟩) (h9 : f 9 = .int .i64 z) (hC : Kc w B s us v0 J W)
  (Hr : ∀ (f' : Nat → Value), f' 3 = .pointer (some ⟨B, 0, none⟩) → f' 8 = .string ⟨R.toArray⟩ → f' 9 = .int .i64 z → Code.wp Tryz.prog (sDrop 12 kB) Q ⟨fr f', []⟩ W) :
  Code.wp Tryz.prog (sDrop 11 kB) Q ⟨fr f, []⟩ W := by
 have HC := hid_of hC
 have HX := hid_of hx
 obtain ⟨av, gv, cpv, rfl, hav, -⟩ := own_slice hC.own
 have HAv := hid_of hav
 rw [fr_lit, h3, h8, h9, kpt11]
 clear h3 h8 h9 hC hav hx
 refine wp_seq_k fun K hK => ?_
 have HK : Hid (∀ (a : Array Value), a.size = 210 → a.getD 3 (.bool false) = .pointer (some ⟨B, 0, none⟩) → a.getD 8 (.bool false) = .string ⟨R.toArray⟩ → a.getD 9 (.bool false) = .int .i64 z → K ⟨a, []⟩ W) := fun a e1 e3 e4 e5 => hK _ _ (wp_fr e1 (Hr _ e3 e4 e5))
 clear hK Hr
 dsimp only [sDrop, sFirst, bodyC, kB, Tryz.f3]
 obtain ⟨c0, c1, c2, _, _, _⟩ := three_cells HC.out.g3
 go_upto_region 50 with fail
 go_loopw [163] (fun x W' => ∃ (i : Nat), i ≤ J.length ∧ x = .int .i64 (i : Int) ∧ W' = W) (fun x _ => J.length - (intOf x).toNat)
 case atStart => exact ⟨0, by omega, rfl, rfl⟩
 case round =>
  obtain ⟨i, hi, rfl, hwr⟩ := hrel
  obtain rfl := hwr
  by_cases hlt : i < J.length
  ·have hlt' : (i : Int) < (J.length : Int) := by omega
   obtain rfl := HAv.out (by omega)
   have hix := index_val gv 0 J.length cpv i (i : Int) rfl hlt
   have hr := (own_row HC.out.own rfl) i hlt
   obtain ⟨r0, r1, r2, r3, r4, r5, r6, r7, r8, r9, r10⟩ := hr.cC
   obtain ⟨g, e, ho⟩ := (HC.out.el _ (List.getElem_mem hlt)).1
   have hxl := HX.out _ (List.getElem_mem hlt)
   rw [e] at r3
   obtain ⟨n, hn⟩ : ∃ n, J[i].1.d.labels.length = n := ⟨_, rfl⟩
   have hfl := flL_length J[i].1.d.labels
   rw [hn] at hxl ho r3 hfl
   have l0 : wr.cell? ⟨g, n * 2, none⟩ = some (.string ⟨#[]⟩) := by
    rw [ho.cellAt (n * 2) (by omega), List.getElem?_append_right (by omega), hfl, Nat.sub_self]; rfl
   have l1 : wr.cell? ⟨g, n * 2 + 1, none⟩ = some (.string ⟨#[]⟩) := by
    rw [ho.cellAt (n * 2 + 1) (by omega), List.getElem?_append_right (by omega), hfl, Nat.add_sub_cancel_left]; rfl
   have l2 : wr.cell? ⟨g, (n + 1) * 2, none⟩ = some (.string ⟨#[]⟩) := by
    rw [ho.cellAt ((n + 1) * 2) (by omega), List.getElem?_append_right (by omega), hfl, show (n + 1) * 2 - n * 2 = 2 by omega]; rfl
   have l3 : wr.cell? ⟨g, (n + 1) * 2 + 1, none⟩ = some (.string ⟨#[]⟩) := by
    rw [ho.cellAt ((n + 1) * 2 + 1) (by omega), List.getElem?_append_right (by omega), hfl, show (n + 1) * 2 + 1 - n * 2 = 3 by omega]; rfl
   have w2 : IntKind.i64.wrap ((n : Int) + 2) = (n : Int) + 2 := by rw [IntKind.wrap_i64]; omega
   have w1 : IntKind.i64.wrap ((n : Int) + 1) = (n : Int) + 1 := by rw [IntKind.wrap_i64]; omega
   rw [Nat.zero_add] at r3
   simp only [Nat.zero_add] at hix
   clear ho e hr hfl r0 r1 r2 r4 r5 r6 r7 r8 r9 r10
   go_upto_region 53 with fail
   go_wp2_with fail
   exact ⟨⟨i + 1, by omega, by go_num, by first | rfl | trivial⟩, by simp [intOf]; omega⟩
  ·have hlt' : ¬ (i : Int) < (J.length : Int) := by omega
   go_wp2_with fail
   exact HK.out _ rfl rfl rfl rfl
set_option maxRecDepth 100000 in
set_option maxHeartbeats 8000000 in
theorem keeps_end (s : Sn) (w W : World) (B : Nat) (us v0 : Value) (R : List UInt8) (z : Int) (J : List Rv) (f : Nat → Value)
  (hw : ∀ W v, Below w.heap.size w W → SnAt W s v → Calls Tryz.prog 7 #[v] W (wrP z R W))
  (h3 : f 3 = .pointer (some ⟨B, 0, none⟩)) (h8 : f 8 = .string ⟨R.toArray⟩) (h9 : f 9 = .int .i64 z) (hJ : J.map (·.1) = s.vs) (hC : Kc w B s us v0 J W) :
  Code.wp Tryz.prog (sDrop 12 kB) (kQ w) ⟨fr f, []⟩ W := by
 have HC := hid_of hC
 have HJ := hid_of hJ
 have HW := hid_of hw
 obtain ⟨av, gv, cpv, rfl, hav, -⟩ := own_slice hC.own
 rw [fr_lit, h3, h8, h9]
 clear h3 h8 h9 hC hav hw hJ
 dsimp only [sDrop, sFirst, bodyC, kB, Tryz.f3]
 obtain ⟨c0, c1, c2, _, _, _⟩ := three_cells HC.out.g3
 go_upto_region 58 with (go_at_call 7; refine (HW.out _ _ HC.out.bl (HC.out.snap HJ.out)).mono ?_; rintro e w2 ⟨⟨u, rfl, hu⟩, hb2⟩; obtain ⟨ua, ug, uc, rfl, -⟩ := own_slice hu)
 have hcv : (convert 41 9 (.slice ua R.length uc)).run Tryz.prog w2 = .ok (.string ⟨R.toArray⟩) w2 := conv_own hu
 have HB := hid_of (bt HC.out.bl hb2)
 clear hu hb2 HC HW c0 c1 c2
 go_wp2_with fail
 go_ret
 exact ⟨retB (by simp), HB.out⟩
end Go.Proofs.YtlgfgeacphkhnaaGreatDoor
