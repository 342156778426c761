/- THE DOCUMENT'S one: the walk. Own work of the verifier. -/
import Derived.Test.YtmphajfhilpgeabCB8
namespace Go.Proofs.Ytmphajfhilpgeab
open Go.RowKit

theorem RowL.last {W : World} {b o : Nat} {L : List Lb} (h : RowL W b o L) (m : Nat) (hm : m + 1 = L.length) : W.cell? ⟨b, o + m * 2, none⟩ = some (.string ⟨(L.getD (L.length - 1) ([], [])).1.toArray⟩) := by
  have hml : m < L.length := by omega
  have hg : L.getD (L.length - 1) ([], []) = L[m] := by
    rw [show L.length - 1 = m from by omega, List.getD_eq_getElem?_getD, List.getElem?_eq_getElem hml]; rfl
  rw [hg]
  exact (h m hml).1
theorem KN.drewN {w W : World} (h : KN w W) (n : Nat) : KN w (W.drewN n) := h.below (below_drewN W n)
/-- How far the loop over the two signs has come. -/
def StO (l : List UInt8) (p1 q j : Nat) : Prop := (q = p1 ∧ j = 0) ∨ (q = p1 + 1 ∧ j = 1 ∧ (l.getD p1 0).toNat = 61) ∨ (q = p1 + 2 ∧ j = 2 ∧ (l.getD p1 0).toNat = 61 ∧ (l.getD (p1 + 1) 0).toNat = 34)
def sgn (j : Nat) : Nat := if j = 0 then 61 else 34
theorem sgn_at (j : Nat) (h : j < (ByteArray.mk #[61, 34]).size) : ((ByteArray.mk #[61, 34])[j]'h).toNat = sgn j := by
  match j, h with
  | 0, _ => rfl
  | 1, _ => rfl
  | k + 2, h => exact absurd h (by show ¬ k + 2 < 2; omega)
theorem StO.step {l : List UInt8} {p1 q j : Nat} (h : StO l p1 q j) (hj : j < 2) (hc : (l.getD q 0).toNat = sgn j) : StO l p1 (q + 1) (j + 1) := by
  rcases h with ⟨rfl, rfl⟩ | ⟨rfl, rfl, h1⟩ | ⟨_, h1, _⟩
  · exact Or.inr (Or.inl ⟨rfl, rfl, hc⟩)
  · exact Or.inr (Or.inr ⟨rfl, rfl, h1, hc⟩)
  · omega
theorem StO.bad {l : List UInt8} {p1 q j : Nat} {α : Type} {X : Except (Int × Nat) α} (h : StO l p1 q j) (hj : j < 2) (hc : (l.getD q 0).toNat ≠ sgn j) : (if (l.getD p1 0).toNat ≠ 61 then .error (5, p1) else if (l.getD (p1 + 1) 0).toNat ≠ 34 then .error (5, p1 + 1) else X) = .error (5, q) := by
  rcases h with ⟨rfl, rfl⟩ | ⟨rfl, rfl, h1⟩ | ⟨_, h1, _⟩
  · exact if_pos hc
  · rw [if_neg (fun k => k h1)]
    exact if_pos hc
  · omega
theorem StO.le {l : List UInt8} {p1 q j : Nat} (h : StO l p1 q j) (hp : p1 ≤ l.length) : q ≤ l.length ∧ j ≤ 2 := by
  have key : ∀ k c, (l.getD k 0).toNat = c → c ≠ 0 → k < l.length := fun k c h hc => by
    rcases Nat.lt_or_ge k l.length with g | g
    · exact g
    · rw [List.getD_eq_getElem?_getD, List.getElem?_eq_none g] at h
      exact absurd h.symm hc
  rcases h with ⟨rfl, rfl⟩ | ⟨rfl, rfl, h1⟩ | ⟨rfl, rfl, h1, h2⟩
  · omega
  · have := key _ _ h1 (by decide); omega
  · have := key _ _ h2 (by decide); omega
set_option maxHeartbeats 8000000 in
set_option maxRecDepth 100000 in
theorem done_any (p : Nat) (l : List UInt8) (hp : p ≤ l.length) (hl : l.length ≤ 140737488355328) (ao : Option Addr) (b o cap : Nat) (L : List Lb) (hao : L ≠ [] → ao = some ⟨b, o, none⟩) (hlL : L.length ≤ 9223372036854775807) (w : World) (hL : RowL w b o L) :
    Calls Try.prog 39 #[.string ⟨l.toArray⟩, .int .i64 (p : Int), .slice ao L.length cap] w fun r w' => TellsO l p L r ∧ Below w.heap.size w w' := by
  obtain ⟨n, hn⟩ : ∃ n, n = rowN false (l.drop p) := ⟨_, rfl⟩
  have hnl := rowN_le false (l.drop p)
  rw [← hn, List.length_drop] at hnl
  obtain ⟨nm, hnm⟩ : ∃ nm, nm = nmAt l p := ⟨_, rfl⟩
  have hnm2 : nm = (l.drop p).take n := by rw [hnm, hn]; rfl
  have hnml : nm.length = n := by rw [hnm2, List.length_take, List.length_drop]; omega
  obtain ⟨p1, hp1⟩ : ∃ p1, p1 = p + n := ⟨_, rfl⟩
  have hp1' : (p : Int) + (n : Int) = (p1 : Int) := by omega
  have hp1l : p1 ≤ l.length := by omega
  have hp1i : (p1 : Int) ≤ (l.length : Int) := by omega
  have hpp : (p : Int) ≤ (p1 : Int) := by omega
  have hsl : (ByteArray.mk l.toArray).extract p p1 = ⟨nm.toArray⟩ := by
    apply ByteArray.ext
    rw [ByteArray.data_extract, hnm2, hp1]
    simp
  have HW : Hid (∀ W, Calls Try.prog 38 #[.string ⟨l.toArray⟩, .int .i64 (p : Int), .bool false] W fun r w' => r = .returned (.int .i64 (n : Int)) ∧ w' = W) := fun W => by rw [hn]; exact row_any l p false hp (by omega) W
  have HN : Hid (∀ W, Calls Try.prog 35 #[.string ⟨nm.toArray⟩] W fun r w' => r = .returned (.bool (lnameB nm)) ∧ w' = W) := fun W => lname_any nm (by omega) W
  have HV : Hid (∀ W, p1 + 2 ≤ l.length → Calls Try.prog 61 #[.string ⟨l.toArray⟩, .int .i64 ((p1 + 2 : Nat) : Int)] W fun r w' => TellsV l (p1 + 2) r ∧ Below W.heap.size W w') := fun W h0 => value_any l (p1 + 2) h0 hl W
  have hO : oneR l p L = if L.length = 16 then .error (3, p)
    else if lnameB nm = false then .error (9, p)
    else if L.length ≠ 0 ∧ bhE (L.getD (L.length - 1) ([], [])).1 nm ≠ 0 then .error (bhE (L.getD (L.length - 1) ([], [])).1 nm, p)
    else if (l.getD p1 0).toNat ≠ 61 then .error (5, p1)
    else if (l.getD (p1 + 1) 0).toNat ≠ 34 then .error (5, p1 + 1)
    else match valR (l.drop (p1 + 2)) (p1 + 2) with
      | .error e => .error e
      | .ok q => if txE q.1 ≠ 0 then .error (txE q.1, p1 + 2) else .ok ((nm, q.1), q.2) := by
    unfold oneR
    rw [← hnm, ← hn, ← hp1]
    cases valR (l.drop (p1 + 2)) (p1 + 2) <;> rfl
  clear hn hnl hnm hnm2 hp1
  have hp1b : (p1 : Int) ≤ 140737488355328 := by omega
  have HK0 : Hid (∀ t t', KN w ((w.alloc (.cells #[.string ⟨#[]⟩, .string ⟨#[]⟩] t)).alloc (.cells #[.int .i64 0, .int .i64 0] t'))) := fun t t' => kn_new w t t'
  have HL0 : Hid (∀ x y, RowL ((w.alloc x).alloc y) b o L) := fun x y => hL.below (bel2 w x y)
  have HO : Hid _ := hO
  clear hL hO
  go_enter Try.func39, Try.ntmps39
  go_upto_region 1 with fail
  have HK : Hid (KN w _) := HK0.out 41 44
  have HL : Hid (RowL _ b o L) := HL0.out (.cells #[.string ⟨#[]⟩, .string ⟨#[]⟩] 41) (.cells #[.int .i64 0, .int .i64 0] 44)
  clear HK0 HL0
  generalize (w.alloc (.cells #[.string ⟨#[]⟩, .string ⟨#[]⟩] 41)).alloc (.cells #[.int .i64 0, .int .i64 0] 44) = W0 at *
  have hO := HO.out
  clear HO
  obtain ⟨a0, a1, b0, b1, fa, fb, hbl⟩ := HK.out
  by_cases g1 : L.length = 16
  · have g1' : ((L.length : Int) == 16) = true := by rw [beq_iff_eq]; omega
    rw [if_pos g1] at hO
    have HO : Hid _ := hO
    clear hO HW HN HV HL g1
    as_aux_lemma =>
      go_wp2_with fail
      (try simp only [Exit.inBlock, Exit.then]); refine bodyPost_ret (ret_one _ w.heap.size (w.heap.size + 1) _ _ _ _ _ rfl rfl (put4_ok HK.out _ _ _ _).1 (put4_ok HK.out _ _ _ _).2.1 (put4_ok HK.out _ _ _ _).2.2.1 (put4_ok HK.out _ _ _ _).2.2.2.1) rfl ?_
      exact ⟨Or.inl ⟨3, p, _, _, _, HO.out, rfl⟩, (put4_ok HK.out _ _ _ _).2.2.2.2⟩
  have g1' : ((L.length : Int) == 16) = false := by rw [beq_eq_false_iff_ne]; omega
  rw [if_neg g1] at hO
  clear g1
  generalize lnameB nm = nb at *
  cases nb
  · rw [if_pos rfl] at hO
    have HO : Hid _ := hO
    clear hO HV HL
    as_aux_lemma =>
      go_wp2_with (first | (go_at_call 38; refine (HW.out _).mono ?_; rintro e1 w1 ⟨rfl, hw⟩; subst w1) | (go_at_call 35; refine (HN.out _).mono ?_; rintro e1 w1 ⟨rfl, hw⟩; subst w1))
      (try simp only [Exit.inBlock, Exit.then]); refine bodyPost_ret (ret_one _ w.heap.size (w.heap.size + 1) _ _ _ _ _ rfl rfl (put4_ok HK.out _ _ _ _).1 (put4_ok HK.out _ _ _ _).2.1 (put4_ok HK.out _ _ _ _).2.2.1 (put4_ok HK.out _ _ _ _).2.2.2.1) rfl ?_
      exact ⟨Or.inl ⟨9, p, _, _, _, HO.out, rfl⟩, (put4_ok HK.out _ _ _ _).2.2.2.2⟩
  rw [if_neg (by decide)] at hO
  have g0'' : True := trivial
  by_cases g0 : L.length = 0
  · have g0' : ¬ (0 : Int) < (L.length : Int) := by omega
    rw [if_neg (by omega)] at hO
    have HO : Hid _ := hO
    have HBh : Hid True := trivial
    clear hO HL g0''
    go_wp2_with (first | (go_at_call 38; refine (HW.out _).mono ?_; rintro e1 w1 ⟨rfl, hw⟩; subst w1) | (go_at_call 35; refine (HN.out _).mono ?_; rintro e1 w1 ⟨rfl, hw⟩; subst w1))
    clear HW HN HBh a0 a1 b0 b1 fa fb hbl
    go_loopw [1, 12] (fun a k W => ∃ q j : Nat, j ≤ 2 ∧ q ≤ l.length ∧ a = .int .i64 (q : Int) ∧ k = .int .i64 (j : Int) ∧ Hid (StO l p1 q j) ∧ Hid (KN w W)) (fun _ k _ => 2 - (intOf k).toNat)
    case atStart => exact ⟨p1, 0, by decide, hp1l, rfl, rfl, Or.inl ⟨rfl, rfl⟩, HK⟩
    case round =>
    clear HK
    obtain ⟨q, j, hj, hql, rfl, rfl, HS, HKr⟩ := hrel
    by_cases hj2 : j < 2
    · have hj2' : (j : Int) < 2 := by omega
      have hB2 : j < (ByteArray.mk #[61, 34]).size := hj2
      have hs := sgn_at j hB2
      have HK3 : Hid (∀ n, KN w (wr.drewN n)) := fun n => KN.drewN HKr.out n
      by_cases hlt : q < l.length
      · have hqe : ((q : Int) == (l.length : Int)) = false := by rw [beq_eq_false_iff_ne]; omega
        have hlt' : (q : Int) < (l.length : Int) := by omega
        have hB : q < (ByteArray.mk l.toArray).size := by show q < l.toArray.size; simpa using hlt
        have hbe : ((ByteArray.mk l.toArray)[q]'hB).toNat = (l.getD q 0).toNat := by rw [get_at l q hlt]; rfl
        by_cases gc : (l.getD q 0).toNat = sgn j
        · have tc : ((((ByteArray.mk l.toArray)[q]'hB).toNat : Int) != (((ByteArray.mk #[61, 34])[j]'hB2).toNat : Int)) = false := by rw [bne_eq_false_iff_eq, hbe, hs]; omega
          have HS' : Hid (StO l p1 (q + 1) (j + 1)) := HS.out.step hj2 gc
          clear hbe gc hs HO HV HKr HS
          as_aux_lemma =>
            go_upto_region 15 with fail
            go_quiet (fail)
            go_wp2_with fail
            exact ⟨⟨q + 1, j + 1, by omega, by omega, by go_num, by go_num, HS', HK3.out _⟩, by simp [intOf]; omega⟩
        · have tc : ((((ByteArray.mk l.toArray)[q]'hB).toNat : Int) != (((ByteArray.mk #[61, 34])[j]'hB2).toNat : Int)) = true := by rw [bne_iff_ne, hbe, hs]; omega
          have HO2 : Hid (oneR l p L = .error (5, q)) := HO.out.trans (HS.out.bad hj2 gc)
          clear hbe gc hs HO HV HKr HS
          as_aux_lemma =>
            go_upto_region 15 with fail
            go_quiet (fail)
            have HK4 : Hid _ := HK3.out nq
            clear HK3
            generalize wr.drewN nq = W4 at *
            obtain ⟨a0, a1, b0, b1, fa, fb, hbl⟩ := HK4.out
            go_wp2_with fail
            (try simp only [Exit.inBlock, Exit.then]); refine bodyPost_ret (ret_one _ w.heap.size (w.heap.size + 1) _ _ _ _ _ rfl rfl (put4_ok HK4.out _ _ _ _).1 (put4_ok HK4.out _ _ _ _).2.1 (put4_ok HK4.out _ _ _ _).2.2.1 (put4_ok HK4.out _ _ _ _).2.2.2.1) rfl ?_
            exact ⟨Or.inl ⟨5, q, _, _, _, HO2.out, rfl⟩, (put4_ok HK4.out _ _ _ _).2.2.2.2⟩
      · have hqe : ((q : Int) == (l.length : Int)) = true := by rw [beq_iff_eq]; omega
        have gc : (l.getD q 0).toNat ≠ sgn j := by
          rw [List.getD_eq_getElem?_getD, List.getElem?_eq_none (by omega)]
          unfold sgn
          split <;> decide
        have HO2 : Hid (oneR l p L = .error (5, q)) := HO.out.trans (HS.out.bad hj2 gc)
        clear gc hs HO HV HKr HS
        as_aux_lemma =>
          go_upto_region 15 with fail
          go_quiet (fail)
          have HK4 : Hid _ := HK3.out nq
          clear HK3
          generalize wr.drewN nq = W4 at *
          obtain ⟨a0, a1, b0, b1, fa, fb, hbl⟩ := HK4.out
          go_wp2_with fail
          (try simp only [Exit.inBlock, Exit.then]); refine bodyPost_ret (ret_one _ w.heap.size (w.heap.size + 1) _ _ _ _ _ rfl rfl (put4_ok HK4.out _ _ _ _).1 (put4_ok HK4.out _ _ _ _).2.1 (put4_ok HK4.out _ _ _ _).2.2.1 (put4_ok HK4.out _ _ _ _).2.2.2.1) rfl ?_
          exact ⟨Or.inl ⟨5, q, _, _, _, HO2.out, rfl⟩, (put4_ok HK4.out _ _ _ _).2.2.2.2⟩
    · have hj2' : ¬ (j : Int) < 2 := by omega
      have hst : q = p1 + 2 ∧ (l.getD p1 0).toNat = 61 ∧ (l.getD (p1 + 1) 0).toNat = 34 := by
        rcases HS.out with ⟨_, h⟩ | ⟨_, h, _⟩ | ⟨h1, _, h2, h3⟩
        · omega
        · omega
        · exact ⟨h1, h2, h3⟩
      have hO1 := HO.out
      rw [if_neg (fun h => h hst.2.1), if_neg (fun h => h hst.2.2), ← hst.1] at hO1
      have HV1 : HidC Try.prog 61 #[.string ⟨l.toArray⟩, .int .i64 (q : Int)] wr (fun r w' => TellsV l q r ∧ Below wr.heap.size wr w') := by rw [hst.1]; exact HV.out wr (by omega)
      have HO2 : Hid _ := hO1
      clear hO1 HO HV HS hst
      as_aux_lemma =>
        go_wp2_with fail
        refine (HV1.out).mono ?_
        rintro e w1 ⟨hT, hb⟩
        have HK3 : Hid (KN w w1) := KN.below HKr.out hb
        clear HV1 HKr hb
        obtain ⟨s, m, z, k, rfl, HF⟩ : ∃ (s : List UInt8) (m z k : Int), e = .returned (.tuple #[.string ⟨s.toArray⟩, .int .i64 m, .agg #[.int .i64 z, .int .i64 k]]) ∧ Hid (TellsO l p L (.returned (.tuple #[.agg #[.string ⟨nm.toArray⟩, .string ⟨s.toArray⟩], .int .i64 m, .agg #[.int .i64 z, .int .i64 k]]))) := by
          rcases hT with ⟨z, k, hv, rfl⟩ | ⟨t, k, hv, ⟨ht, rfl⟩ | ⟨ht, rfl⟩⟩
          · exact ⟨[], 0, z, (k : Int), rfl, Or.inl ⟨z, k, _, _, _, by rw [HO2.out, hv], rfl⟩⟩
          · exact ⟨[], 0, txE t, (q : Int), rfl, Or.inl ⟨txE t, q, _, _, _, by rw [HO2.out, hv]; simp only; rw [if_pos ht], rfl⟩⟩
          · exact ⟨t, (k : Int), 0, 0, rfl, Or.inr ⟨nm, t, k, by rw [HO2.out, hv]; simp only; rw [if_neg (fun h => h ht)], rfl⟩⟩
        clear HO2 hT
        have HK4 : Hid (∀ o, KN w (w1.alloc o)) := fun o => KN.below HK3.out (bel1 w1 o)
        have hgw : w.heap.size + 2 ≤ w1.heap.size := lt_of_cell HK3.out.b0
        clear HK3
        go_upto_region 19 with fail
        have HK5 : Hid (KN w (w1.alloc (.cells #[.int .i64 z, .int .i64 k] 44))) := HK4.out _
        have c0 : (w1.alloc (.cells #[.int .i64 z, .int .i64 k] 44)).cell? ⟨w1.heap.size, 0, none⟩ = some (.int .i64 z) := by simp [go_sem]
        have c1 : (w1.alloc (.cells #[.int .i64 z, .int .i64 k] 44)).cell? ⟨w1.heap.size, 1, none⟩ = some (.int .i64 k) := by simp [go_sem]
        clear HK4
        obtain ⟨g, hg⟩ : ∃ g, g = w1.heap.size := ⟨_, rfl⟩
        rw [← hg] at c0 c1 hgw ⊢
        generalize w1.alloc (.cells #[.int .i64 z, .int .i64 k] 44) = W5 at *
        obtain ⟨a0, a1, b0, b1, fa, fb, hbl⟩ := HK5.out
        clear hg
        go_region
        go_wp2_with fail
        have q1 := (put4_ok HK5.out ⟨nm.toArray⟩ ⟨s.toArray⟩ z k)
        (try simp only [Exit.inBlock, Exit.then]); refine bodyPost_ret (ret_one _ w.heap.size (w.heap.size + 1) ⟨nm.toArray⟩ ⟨s.toArray⟩ z k _ rfl rfl q1.1 q1.2.1 q1.2.2.1 q1.2.2.2.1) rfl ?_
        exact ⟨HF.out, bel_drew q1.2.2.2.2⟩
  · have g0' : (0 : Int) < (L.length : Int) := by omega
    obtain rfl := hao (fun e => g0 (by rw [e]; rfl))
    obtain ⟨m, hm⟩ : ∃ m, m + 1 = L.length := ⟨L.length - 1, by omega⟩
    have hml : m < L.length := by omega
    have hwm : IntKind.i64.wrap ((L.length : Int) - 1) = (m : Int) := by rw [IntKind.wrap_i64]; omega
    have hix := index_lab b o L.length cap m (m : Int) rfl hml
    have cq := RowL.last HL.out m hm
    have HBh : Hid (∀ W, Calls Try.prog 36 #[.string ⟨(L.getD (L.length - 1) ([], [])).1.toArray⟩, .string ⟨nm.toArray⟩] W fun r w' => r = .returned (.int .i64 (bhE (L.getD (L.length - 1) ([], [])).1 nm)) ∧ w' = W) := fun W => behind_any _ nm W
    generalize bhE (L.getD (L.length - 1) ([], [])).1 nm = bz at *
    generalize (L.getD (L.length - 1) ([], [])).1 = lq at *
    by_cases g5 : bz = 0
    · rw [if_neg (fun h => h.2 g5)] at hO
      subst g5
      have HO : Hid _ := hO
      clear hO HL g0'' hm
      go_wp2_with (first | (go_at_call 38; refine (HW.out _).mono ?_; rintro e1 w1 ⟨rfl, hw⟩; subst w1) | (go_at_call 35; refine (HN.out _).mono ?_; rintro e1 w1 ⟨rfl, hw⟩; subst w1) | (go_at_call 36; refine (HBh.out _).mono ?_; rintro e1 w1 ⟨rfl, hw⟩; subst w1))
      clear HW HN HBh a0 a1 b0 b1 fa fb hbl cq hix hwm
      go_loopw [1, 12] (fun a k W => ∃ q j : Nat, j ≤ 2 ∧ q ≤ l.length ∧ a = .int .i64 (q : Int) ∧ k = .int .i64 (j : Int) ∧ Hid (StO l p1 q j) ∧ Hid (KN w W)) (fun _ k _ => 2 - (intOf k).toNat)
      case atStart => exact ⟨p1, 0, by decide, hp1l, rfl, rfl, Or.inl ⟨rfl, rfl⟩, HK⟩
      case round =>
      clear HK
      obtain ⟨q, j, hj, hql, rfl, rfl, HS, HKr⟩ := hrel
      by_cases hj2 : j < 2
      · have hj2' : (j : Int) < 2 := by omega
        have hB2 : j < (ByteArray.mk #[61, 34]).size := hj2
        have hs := sgn_at j hB2
        have HK3 : Hid (∀ n, KN w (wr.drewN n)) := fun n => KN.drewN HKr.out n
        by_cases hlt : q < l.length
        · have hqe : ((q : Int) == (l.length : Int)) = false := by rw [beq_eq_false_iff_ne]; omega
          have hlt' : (q : Int) < (l.length : Int) := by omega
          have hB : q < (ByteArray.mk l.toArray).size := by show q < l.toArray.size; simpa using hlt
          have hbe : ((ByteArray.mk l.toArray)[q]'hB).toNat = (l.getD q 0).toNat := by rw [get_at l q hlt]; rfl
          by_cases gc : (l.getD q 0).toNat = sgn j
          · have tc : ((((ByteArray.mk l.toArray)[q]'hB).toNat : Int) != (((ByteArray.mk #[61, 34])[j]'hB2).toNat : Int)) = false := by rw [bne_eq_false_iff_eq, hbe, hs]; omega
            have HS' : Hid (StO l p1 (q + 1) (j + 1)) := HS.out.step hj2 gc
            clear hbe gc hs HO HV HKr HS
            as_aux_lemma =>
              go_upto_region 15 with fail
              go_quiet (fail)
              go_wp2_with fail
              exact ⟨⟨q + 1, j + 1, by omega, by omega, by go_num, by go_num, HS', HK3.out _⟩, by simp [intOf]; omega⟩
          · have tc : ((((ByteArray.mk l.toArray)[q]'hB).toNat : Int) != (((ByteArray.mk #[61, 34])[j]'hB2).toNat : Int)) = true := by rw [bne_iff_ne, hbe, hs]; omega
            have HO2 : Hid (oneR l p L = .error (5, q)) := HO.out.trans (HS.out.bad hj2 gc)
            clear hbe gc hs HO HV HKr HS
            as_aux_lemma =>
              go_upto_region 15 with fail
              go_quiet (fail)
              have HK4 : Hid _ := HK3.out nq
              clear HK3
              generalize wr.drewN nq = W4 at *
              obtain ⟨a0, a1, b0, b1, fa, fb, hbl⟩ := HK4.out
              go_wp2_with fail
              (try simp only [Exit.inBlock, Exit.then]); refine bodyPost_ret (ret_one _ w.heap.size (w.heap.size + 1) _ _ _ _ _ rfl rfl (put4_ok HK4.out _ _ _ _).1 (put4_ok HK4.out _ _ _ _).2.1 (put4_ok HK4.out _ _ _ _).2.2.1 (put4_ok HK4.out _ _ _ _).2.2.2.1) rfl ?_
              exact ⟨Or.inl ⟨5, q, _, _, _, HO2.out, rfl⟩, (put4_ok HK4.out _ _ _ _).2.2.2.2⟩
        · have hqe : ((q : Int) == (l.length : Int)) = true := by rw [beq_iff_eq]; omega
          have gc : (l.getD q 0).toNat ≠ sgn j := by
            rw [List.getD_eq_getElem?_getD, List.getElem?_eq_none (by omega)]
            unfold sgn
            split <;> decide
          have HO2 : Hid (oneR l p L = .error (5, q)) := HO.out.trans (HS.out.bad hj2 gc)
          clear gc hs HO HV HKr HS
          as_aux_lemma =>
            go_upto_region 15 with fail
            go_quiet (fail)
            have HK4 : Hid _ := HK3.out nq
            clear HK3
            generalize wr.drewN nq = W4 at *
            obtain ⟨a0, a1, b0, b1, fa, fb, hbl⟩ := HK4.out
            go_wp2_with fail
            (try simp only [Exit.inBlock, Exit.then]); refine bodyPost_ret (ret_one _ w.heap.size (w.heap.size + 1) _ _ _ _ _ rfl rfl (put4_ok HK4.out _ _ _ _).1 (put4_ok HK4.out _ _ _ _).2.1 (put4_ok HK4.out _ _ _ _).2.2.1 (put4_ok HK4.out _ _ _ _).2.2.2.1) rfl ?_
            exact ⟨Or.inl ⟨5, q, _, _, _, HO2.out, rfl⟩, (put4_ok HK4.out _ _ _ _).2.2.2.2⟩
      · have hj2' : ¬ (j : Int) < 2 := by omega
        have hst : q = p1 + 2 ∧ (l.getD p1 0).toNat = 61 ∧ (l.getD (p1 + 1) 0).toNat = 34 := by
          rcases HS.out with ⟨_, h⟩ | ⟨_, h, _⟩ | ⟨h1, _, h2, h3⟩
          · omega
          · omega
          · exact ⟨h1, h2, h3⟩
        have hO1 := HO.out
        rw [if_neg (fun h => h hst.2.1), if_neg (fun h => h hst.2.2), ← hst.1] at hO1
        have HV1 : HidC Try.prog 61 #[.string ⟨l.toArray⟩, .int .i64 (q : Int)] wr (fun r w' => TellsV l q r ∧ Below wr.heap.size wr w') := by rw [hst.1]; exact HV.out wr (by omega)
        have HO2 : Hid _ := hO1
        clear hO1 HO HV HS hst
        as_aux_lemma =>
          go_wp2_with fail
          refine (HV1.out).mono ?_
          rintro e w1 ⟨hT, hb⟩
          have HK3 : Hid (KN w w1) := KN.below HKr.out hb
          clear HV1 HKr hb
          obtain ⟨s, m, z, k, rfl, HF⟩ : ∃ (s : List UInt8) (m z k : Int), e = .returned (.tuple #[.string ⟨s.toArray⟩, .int .i64 m, .agg #[.int .i64 z, .int .i64 k]]) ∧ Hid (TellsO l p L (.returned (.tuple #[.agg #[.string ⟨nm.toArray⟩, .string ⟨s.toArray⟩], .int .i64 m, .agg #[.int .i64 z, .int .i64 k]]))) := by
            rcases hT with ⟨z, k, hv, rfl⟩ | ⟨t, k, hv, ⟨ht, rfl⟩ | ⟨ht, rfl⟩⟩
            · exact ⟨[], 0, z, (k : Int), rfl, Or.inl ⟨z, k, _, _, _, by rw [HO2.out, hv], rfl⟩⟩
            · exact ⟨[], 0, txE t, (q : Int), rfl, Or.inl ⟨txE t, q, _, _, _, by rw [HO2.out, hv]; simp only; rw [if_pos ht], rfl⟩⟩
            · exact ⟨t, (k : Int), 0, 0, rfl, Or.inr ⟨nm, t, k, by rw [HO2.out, hv]; simp only; rw [if_neg (fun h => h ht)], rfl⟩⟩
          clear HO2 hT
          have HK4 : Hid (∀ o, KN w (w1.alloc o)) := fun o => KN.below HK3.out (bel1 w1 o)
          have hgw : w.heap.size + 2 ≤ w1.heap.size := lt_of_cell HK3.out.b0
          clear HK3
          go_upto_region 19 with fail
          have HK5 : Hid (KN w (w1.alloc (.cells #[.int .i64 z, .int .i64 k] 44))) := HK4.out _
          have c0 : (w1.alloc (.cells #[.int .i64 z, .int .i64 k] 44)).cell? ⟨w1.heap.size, 0, none⟩ = some (.int .i64 z) := by simp [go_sem]
          have c1 : (w1.alloc (.cells #[.int .i64 z, .int .i64 k] 44)).cell? ⟨w1.heap.size, 1, none⟩ = some (.int .i64 k) := by simp [go_sem]
          clear HK4
          obtain ⟨g, hg⟩ : ∃ g, g = w1.heap.size := ⟨_, rfl⟩
          rw [← hg] at c0 c1 hgw ⊢
          generalize w1.alloc (.cells #[.int .i64 z, .int .i64 k] 44) = W5 at *
          obtain ⟨a0, a1, b0, b1, fa, fb, hbl⟩ := HK5.out
          clear hg
          go_region
          go_wp2_with fail
          have q1 := (put4_ok HK5.out ⟨nm.toArray⟩ ⟨s.toArray⟩ z k)
          (try simp only [Exit.inBlock, Exit.then]); refine bodyPost_ret (ret_one _ w.heap.size (w.heap.size + 1) ⟨nm.toArray⟩ ⟨s.toArray⟩ z k _ rfl rfl q1.1 q1.2.1 q1.2.2.1 q1.2.2.2.1) rfl ?_
          exact ⟨HF.out, bel_drew q1.2.2.2.2⟩
    · rw [if_pos ⟨g0, g5⟩] at hO
      have g5' : (bz != 0) = true := by simpa using g5
      have HO : Hid _ := hO
      clear hO HL g0'' hm HV g5
      as_aux_lemma =>
        go_wp2_with (first | (go_at_call 38; refine (HW.out _).mono ?_; rintro e1 w1 ⟨rfl, hw⟩; subst w1) | (go_at_call 35; refine (HN.out _).mono ?_; rintro e1 w1 ⟨rfl, hw⟩; subst w1) | (go_at_call 36; refine (HBh.out _).mono ?_; rintro e1 w1 ⟨rfl, hw⟩; subst w1))
        (try simp only [Exit.inBlock, Exit.then]); refine bodyPost_ret (ret_one _ w.heap.size (w.heap.size + 1) _ _ _ _ _ rfl rfl (put4_ok HK.out _ _ _ _).1 (put4_ok HK.out _ _ _ _).2.1 (put4_ok HK.out _ _ _ _).2.2.1 (put4_ok HK.out _ _ _ _).2.2.2.1) rfl ?_
        exact ⟨Or.inl ⟨bz, p, _, _, _, HO.out, rfl⟩, (put4_ok HK.out _ _ _ _).2.2.2.2⟩
end Go.Proofs.Ytmphajfhilpgeab
