/- THE DOCUMENT's TEXTS: Parse. Own work of the verifier. -/
import Derived.Test.YtbobhjgndgaoaaaDoorU2
import Derived.Test.YtbobhjgndgaoaaaDoorParseMath
namespace Go.Proofs.YtbobhjgndgaoaaaDoor
open Go.RowKit Go.Sort

theorem RdInv.alloc {w wr : World} {n : Int} (h : RdInv w wr n) (o : Obj) : RdInv w (wr.alloc o) n := h.step (bel1 wr o)
theorem own2A {w w1 : World} {a b : Value} {t : TypeId} (hb : Below (w.alloc (.cells #[a, b] t)).heap.size (w.alloc (.cells #[a, b] t)) w1) (o : Obj) :
    (w1.alloc o).cell? ⟨w.heap.size, 0, none⟩ = some a ∧ (w1.alloc o).cell? ⟨w.heap.size, 1, none⟩ = some b := by
  have h := own2 (hb.trans ((bel1 w1 o).mono hb.size))
  exact ⟨h.1, h.2.1⟩
/-- The contracts of a round, each at its place. -/
theorem tens (n d : Int) (hn : InR n) (d0 : 0 ≤ d) (d1 : d < 10) : ∃ t2 t4 t5 t10 : Int,
    (∀ W, Calls Tryd.prog 11 #[num n, num n] W fun e w' => e = .returned (num t2) ∧ Below W.heap.size W w') ∧
    (∀ W, Calls Tryd.prog 11 #[num t2, num t2] W fun e w' => e = .returned (num t4) ∧ Below W.heap.size W w') ∧
    (∀ W, Calls Tryd.prog 11 #[num t4, num n] W fun e w' => e = .returned (num t5) ∧ Below W.heap.size W w') ∧
    (∀ W, Calls Tryd.prog 11 #[num t5, num t5] W fun e w' => e = .returned (num t10) ∧ Below W.heap.size W w') ∧
    (∀ W, Calls Tryd.prog 11 #[num t10, num d] W fun e w' => e = .returned (num (rnd (rnd (n * 10) + d))) ∧ Below W.heap.size W w') := by
  have h1 := refadd_any _ _ _ _ (wf_of hn) (wf_of hn)
  have h2 := refadd_any _ _ _ _ (wf_rnd (n + n)) (wf_rnd (n + n))
  have h3 := refadd_any _ _ _ _ (wf_rnd (rnd (n + n) + rnd (n + n))) (wf_of hn)
  have h4 := refadd_any _ _ _ _ (wf_rnd (rnd (rnd (n + n) + rnd (n + n)) + n)) (wf_rnd (rnd (rnd (n + n) + rnd (n + n)) + n))
  have h5 := refadd_any _ _ _ _ (wf_rnd (rnd (rnd (rnd (n + n) + rnd (n + n)) + n) + rnd (rnd (rnd (n + n) + rnd (n + n)) + n))) (wf_of (n := d) ⟨by omega, by omega⟩)
  simp only [val_hl] at h1 h2 h3 h4 h5
  rw [rnd_ten] at h5
  exact ⟨_, _, _, _, h1, h2, h3, h4, h5⟩

set_option maxHeartbeats 2000000 in
set_option maxRecDepth 100000 in
theorem refparse_1 (s : ByteArray) (hmax : s.size ≤ maxLen) (h0 : 0 < s.size) (hc : s[0] = 45) (R : Value)
    (hbad : ∀ m (h : m < s.data.toList.length), 1 ≤ m → m < 41 → isDig (s.data.toList[m]) = false → R = .tuple #[.agg #[.int .i64 0, .int .u64 0], .int .i64 5])
    (hyes : (seen s.data.toList 1 41).all isDig = true → (Lib.itoa (refV s.data.toList 1) == s.toList) = true → R = .tuple #[num (refV s.data.toList 1), .int .i64 0])
    (hno : (seen s.data.toList 1 41).all isDig = true → (Lib.itoa (refV s.data.toList 1) == s.toList) = false → R = .tuple #[.agg #[.int .i64 0, .int .u64 0], .int .i64 5]) (w : World) :
    Calls Tryd.prog 25 #[.string s] w fun e w' => e = .returned R ∧ Below w.heap.size w w' := by
  have HB : Hid _ := hbad
  have HY : Hid _ := hyes
  have HNO : Hid _ := hno
  clear hbad hyes hno
  unfold maxLen at hmax
  have hp : 0 < (s.size : Int) := by omega
  have hc' : ((s[0]).toNat : Int) = 45 := by rw [hc]; rfl
  clear hc
  go_enter Tryd.func25, Tryd.ntmps25
  go_wp2
  go_loopw [6] (fun i wr => ∃ m : Nat, 1 ≤ m ∧ (m ≤ s.size ∨ m = 1) ∧ m ≤ 41 ∧ i = .int .i64 m ∧ (seen s.data.toList 1 m).all isDig = true ∧ RdInv w wr (readL (seen s.data.toList 1 m))) (fun i _ => 41 - (intOf i).toNat)
  case atStart =>
    refine ⟨1, Nat.le_refl _, Or.inr rfl, by decide, rfl, by rw [seen_self]; rfl, ?_⟩
    rw [seen_self]
    refine ⟨(bel2 w _ _), ?_, ?_, ?_, ?_, ?_, ?_, ?_, ?_, ?_⟩ <;> simp [go_sem, readL] <;> rfl
  case round =>
    obtain ⟨m, hfm, hms, hm41, rfl, hdig, iv⟩ := hrel
    have hin := inR_readL (seen s.data.toList 1 m)
    have hsz : s.data.toList.length = s.size := by rw [Array.length_toList]; rfl
    by_cases hgo : m < s.size ∧ m < 41
    · obtain ⟨hlt, hlt41⟩ := hgo
      have hml : m < s.data.toList.length := by omega
      have hsn := seen_succ s.data.toList 1 m hfm hml
      have hgi : s.data.toList[m] = s[m] := rfl
      by_cases hd : isDig (s.data.toList[m]) = true
      · have hdd : 48 ≤ (s[m]).toNat ∧ (s[m]).toNat ≤ 57 := by
          rw [hgi] at hd; simpa [isDig] using hd
        obtain ⟨d, ed⟩ : ∃ d : Int, ((s[m]).toNat : Int) - 48 = d := ⟨_, rfl⟩
        have hread : readL (seen s.data.toList 1 (m + 1)) = rnd (rnd (readL (seen s.data.toList 1 m) * 10) + d) := by
          rw [hsn, readL_snoc, hgi, ed]
        have hdig2 : (seen s.data.toList 1 (m + 1)).all isDig = true := by rw [hsn, List.all_append, hdig]; simpa using hd
        have dd0 : 0 ≤ d := by omega
        have dd1 : d < 10 := by omega
        obtain ⟨t2, t4, t5, t10, k1, k2, k3, k4, k5⟩ := tens (readL (seen s.data.toList 1 m)) d hin dd0 dd1
        have ku := fun W => refuns_any d dd0 (by omega) W
        have K1 : Hid _ := k1
        have K2 : Hid _ := k2
        have K3 : Hid _ := k3
        have K4 : Hid _ := k4
        have K5 : Hid _ := k5
        have KU : Hid _ := ku
        have HR : Hid _ := hread
        have HD2 : Hid _ := hdig2
        have IV : Hid _ := iv
        have q1 : 48 ≤ ((s[m]).toNat : Int) := by omega
        have q2 : ((s[m]).toNat : Int) ≤ 57 := by omega
        obtain ⟨b, s1, c0, c1, d0, d1, f0, f1, g0, g1⟩ := iv
        clear k1 k2 k3 k4 k5 ku hread hdig2 hdig hsn hgi hd hdd hin hsz
        generalize readL (seen s.data.toList 1 m) = n at *
        go_wp2_with fail
        refine (K1.out _).mono ?_
        rintro e w1 ⟨rfl, hb1⟩
        go_wp2_with fail
        refine (K2.out _).mono ?_
        rintro e w2 ⟨rfl, hb2⟩
        have I2 := fun o => ((((IV.out.step hb1).alloc _).step hb2).alloc o)
        have i2 := fun o => (I2 o).d0
        have i2' := fun o => (I2 o).d1
        go_wp2_with fail
        refine (K3.out _).mono ?_
        rintro e w3 ⟨rfl, hb3⟩
        clear i2 i2'
        go_wp2_with fail
        refine (K4.out _).mono ?_
        rintro e w4 ⟨rfl, hb4⟩
        go_wp2_with fail
        refine (KU.out _).mono ?_
        rintro e w5 ⟨rfl, hb5⟩
        have o5 := fun o => (own2A hb5 o).1
        have o5' := fun o => (own2A hb5 o).2
        go_wp2_with fail
        refine (K5.out _).mono ?_
        rintro e w6 ⟨rfl, hb6⟩
        clear o5 o5'
        have I6 := (((((((I2 _).step hb3).alloc _).step hb4).alloc _).step hb5).alloc _).step hb6
        have I6' : Hid _ := I6
        obtain ⟨b6, s6, c06, c16, d06, d16, f06, f16, g06, g16⟩ := I6
        clear hb1 hb2 hb3 hb4 hb5 hb6 I2
        go_wp2
        go_roundw
        case rel => exact ⟨m + 1, by omega, by omega, by omega, by go_num, HD2.out, by rw [HR.out]; exact I6'.out.set⟩
        case measure => simp [intOf]; omega
      · have hb := HB.out m hml hfm hlt41 (by simpa using hd)
        subst hb
        have hdd : ((s[m]).toNat : Int) < 48 ∨ ¬ ((s[m]).toNat : Int) < 48 ∧ 57 < ((s[m]).toNat : Int) := by
          rw [hgi] at hd
          simp [isDig] at hd
          omega
        obtain ⟨b, s1, c0, c1, d0, d1, f0, f1, g0, g1⟩ := iv
        clear hd hsn hgi hsz hdig hin
        rcases hdd with q | ⟨q, q'⟩
        all_goals
          go_wp2
          refine bodyPost_ret (v := .tuple #[.agg #[.int .i64 0, .int .u64 0], .int .i64 5]) (by simp [results, Tryd.results25, go_sem, c0, c1]) rfl ⟨rfl, ?_⟩
          refine Below.setCell (Below.setCell b ?_ _) ?_ _ <;> exact Nat.le_refl _
    · have hse := seen_end s.data.toList 1 m (by rw [hsz]; exact hgo) hm41
      rw [hse] at hdig iv hin
      have hV : rnd (- readL (seen s.data.toList 1 41)) = refV s.data.toList 1 := by unfold refV; simp
      have hp := fun W => refprint_any _ _ (wf_of (inR_refV s.data.toList 1)) W
      simp only [val_hl] at hp
      have hng := refneg_any _ _ (wf_of hin)
      rw [val_hl, hV] at hng
      have HP : Hid _ := hp
      have HNG : Hid _ := hng
      have IV : Hid _ := iv
      have hy := HY.out hdig
      have hn := HNO.out hdig
      have HY2 : Hid _ := hy
      have HN2 : Hid _ := hn
      obtain ⟨b, s1, c0, c1, d0, d1, f0, f1, g0, g1⟩ := iv
      have hq : ((m : Int) < s.size ∧ ¬ (m : Int) < 41) ∨ ¬ (m : Int) < s.size := by omega
      clear hp hng hdig hse hgo hsz hy hn HY HNO HB hin hV
      generalize refV s.data.toList 1 = v at *
      generalize readL (seen s.data.toList 1 41) = n at *
      by_cases ht : (Lib.itoa v == s.toList) = true
      · have hR := HY2.out ht
        subst hR
        rcases hq with ⟨q, q'⟩ | q
        all_goals
          go_wp2_with fail
          refine (HNG.out _).mono ?_
          rintro e w1 ⟨rfl, hb1⟩
          obtain ⟨b1, s11, c01, c11, d01, d11, f01, f11, g01, g11⟩ := IV.out.step hb1
          have I2 := (IV.out.step hb1).set (m := v)
          go_wp2_with fail
          refine (HP.out _).mono ?_
          rintro e w2 ⟨rfl, hb2⟩
          obtain ⟨b2, s2, c02, c12, d02, d12, f02, f12, g02, g12⟩ := I2.step hb2
          go_wp2
          refine bodyPost_ret (v := .tuple #[num v, .int .i64 0]) (by simp [results, Tryd.results25, go_sem, c02, c12]) rfl ⟨rfl, ?_⟩
          refine Below.setCell (Below.setCell b2 ?_ _) ?_ _ <;> exact Nat.le_refl _
      · have ht' : (Lib.itoa v == s.toList) = false := by simpa using ht
        have hR := HN2.out ht'
        subst hR
        clear ht
        rcases hq with ⟨q, q'⟩ | q
        all_goals
          go_wp2_with fail
          refine (HNG.out _).mono ?_
          rintro e w1 ⟨rfl, hb1⟩
          obtain ⟨b1, s11, c01, c11, d01, d11, f01, f11, g01, g11⟩ := IV.out.step hb1
          have I2 := (IV.out.step hb1).set (m := v)
          go_wp2_with fail
          refine (HP.out _).mono ?_
          rintro e w2 ⟨rfl, hb2⟩
          obtain ⟨b2, s2, c02, c12, d02, d12, f02, f12, g02, g12⟩ := I2.step hb2
          go_wp2
          refine bodyPost_ret (v := .tuple #[.agg #[.int .i64 0, .int .u64 0], .int .i64 5]) (by simp [results, Tryd.results25, go_sem, c02, c12]) rfl ⟨rfl, ?_⟩
          refine Below.setCell (Below.setCell b2 ?_ _) ?_ _ <;> exact Nat.le_refl _
end Go.Proofs.YtbobhjgndgaoaaaDoor
