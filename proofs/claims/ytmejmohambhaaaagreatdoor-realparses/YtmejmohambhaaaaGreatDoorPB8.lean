/- special AT EVERY TEXT: it answers something. Own work of the verifier. -/
import Derived.Test.YtmejmohambhaaaaGreatDoorPB6
import Derived.WalkMore
import Derived.Deep.DeepCutAuto
import Derived.IntWalk
import Derived.Deep.CutBlock
import Derived.LaidEqlPtr
namespace Go.Proofs.YtmejmohambhaaaaGreatDoor
open Go.RowKit Go.Sort

/-- A whole number of at most so many. -/
def TellsN (m : Nat) (e : Ending) : Prop := ∃ k : Nat, e = .returned (.int .i64 (k : Int)) ∧ k ≤ m
set_option maxHeartbeats 2000000 in
set_option maxRecDepth 100000 in
theorem prefix_any (l q : List UInt8) (hl : l.length ≤ 25) (w : World) :
    Calls Tryz.prog 131 #[.string ⟨l.toArray⟩, .string ⟨q.toArray⟩] w fun e w' => TellsN q.length e ∧ w' = w := by
  obtain ⟨n, hn⟩ : ∃ n : Nat, min (q.length : Int) (l.length : Int) = (n : Int) := ⟨min q.length l.length, by omega⟩
  have hn1 : n ≤ q.length := by omega
  have hn2 : n ≤ l.length := by omega
  go_enter Tryz.func131, Tryz.ntmps131
  go_wp2_with fail
  go_loopw [6, 7] (fun i _ wr => ∃ j : Nat, j ≤ n ∧ i = .int .i64 (j : Int) ∧ wr = w) (fun i _ _ => n - (intOf i).toNat)
  case atStart => exact ⟨0, by omega, rfl, rfl⟩
  case round =>
    obtain ⟨j, hj, rfl, rfl⟩ := hrel
    by_cases hlt : j < n
    · have hlt' : (j : Int) < (n : Int) := by omega
      have hB : j < (ByteArray.mk l.toArray).size := by show j < l.toArray.size; simp; omega
      have hQ : j < (ByteArray.mk q.toArray).size := by show j < q.toArray.size; simp; omega
      go_wp2_with fail
      all_goals first
        | (go_ret; exact ⟨⟨_, rfl, by omega⟩, rfl⟩)
        | exact ⟨⟨j + 1, by omega, by go_num, True.intro⟩, by simp [intOf]; omega⟩
        | trace_state
    · obtain rfl : j = n := by omega
      have hlt' : ¬ (j : Int) < (j : Int) := by omega
      go_wp2_with fail
      go_ret
      exact ⟨⟨_, rfl, by omega⟩, rfl⟩
theorem prefix_inf_any (l : List UInt8) (hl : l.length ≤ 25) (w : World) :
    Calls Tryz.prog 131 #[.string ⟨l.toArray⟩, .string ⟨#[105, 110, 102, 105, 110, 105, 116, 121]⟩] w fun e w' => TellsN 8 e ∧ w' = w := prefix_any l [105, 110, 102, 105, 110, 105, 116, 121] hl w
theorem prefix_nan_any (l : List UInt8) (hl : l.length ≤ 25) (w : World) :
    Calls Tryz.prog 131 #[.string ⟨l.toArray⟩, .string ⟨#[110, 97, 110]⟩] w fun e w' => TellsN 3 e ∧ w' = w := prefix_any l [110, 97, 110] hl w
/-- What special answers: a float, how many bytes, whether it is sure. -/
def TellsS (e : Ending) : Prop := ∃ (f k : Nat) (ok : Bool), e = .returned (.tuple #[.float .f64 f, .int .i64 (k : Int), .bool ok]) ∧ f < 18446744073709551616 ∧ k ≤ 9
set_option maxHeartbeats 4000000 in
set_option maxRecDepth 100000 in
theorem special_any (l : List UInt8) (hl : l.length ≤ 25) (w : World) :
    Calls Tryz.prog 110 #[.string ⟨l.toArray⟩] w fun e w' => TellsS e ∧ w' = w := by
  cases l with
  | nil =>
    go_enter Tryz.func110, Tryz.ntmps110
    go_wp2_with fail
    go_ret3
    exact ⟨⟨0, 0, false, rfl, by decide, by decide⟩, rfl⟩
  | cons c r =>
    have hr : r.length ≤ 25 := by rw [List.length_cons] at hl; omega
    have HP1 : Hid (∀ W, Calls Tryz.prog 131 #[.string ((ByteArray.mk (c :: r).toArray).extract 1 (r.length + 1)), .string ⟨#[105, 110, 102, 105, 110, 105, 116, 121]⟩] W fun e w' => TellsN 8 e ∧ w' = W) := fun W => by
      rw [tail_bytes]; exact prefix_inf_any r hr W
    have HP2 : Hid _ := fun W => prefix_inf_any (c :: r) hl W
    have HP3 : Hid _ := fun W => prefix_nan_any (c :: r) hl W
    have hB : 0 < (ByteArray.mk (c :: r).toArray).size := by show 0 < (c :: r).toArray.size; simp
    have hbe : ((ByteArray.mk (c :: r).toArray)[0]'hB).toNat = c.toNat := rfl
    by_cases c43 : c.toNat = 43
    · have t43 : ((((ByteArray.mk (c :: r).toArray)[0]'hB).toNat : Int) == 43) = true := by rw [beq_iff_eq, hbe]; omega
      have t45 : ((((ByteArray.mk (c :: r).toArray)[0]'hB).toNat : Int) == 45) = false := by rw [beq_eq_false_iff_ne, hbe]; omega
      have t105 : ((((ByteArray.mk (c :: r).toArray)[0]'hB).toNat : Int) == 105) = false := by rw [beq_eq_false_iff_ne, hbe]; omega
      have t73 : ((((ByteArray.mk (c :: r).toArray)[0]'hB).toNat : Int) == 73) = false := by rw [beq_eq_false_iff_ne, hbe]; omega
      have t110 : ((((ByteArray.mk (c :: r).toArray)[0]'hB).toNat : Int) == 110) = false := by rw [beq_eq_false_iff_ne, hbe]; omega
      have t78 : ((((ByteArray.mk (c :: r).toArray)[0]'hB).toNat : Int) == 78) = false := by rw [beq_eq_false_iff_ne, hbe]; omega
      clear hbe
      go_enter Tryz.func110, Tryz.ntmps110
      go_wp2_with fail
      refine (HP1.out _).mono ?_
      rintro e w ⟨⟨k, rfl, hk⟩, rfl⟩
      rcases (show k = 3 ∨ k = 8 ∨ (3 < k ∧ k < 8) ∨ k < 3 from by omega) with rfl | rfl | ⟨k1, k2⟩ | k1
      · as_aux_lemma =>
          go_wp2_with (first
            | (go_at_call 132; with_reducible refine (inf_pos _).mono ?_; rintro e w ⟨rfl, rfl⟩)
            | fail)
          go_ret3
          exact ⟨⟨_, 4, _, rfl, by decide, by decide⟩, rfl⟩
      · as_aux_lemma =>
          go_wp2_with (first
            | (go_at_call 132; with_reducible refine (inf_pos _).mono ?_; rintro e w ⟨rfl, rfl⟩)
            | fail)
          go_ret3
          exact ⟨⟨_, 9, _, rfl, by decide, by decide⟩, rfl⟩
      · have e1 : 3 < (k : Int) := by omega
        have e2 : (k : Int) < 8 := by omega
        as_aux_lemma =>
          go_wp2_with (first
            | (go_at_call 132; with_reducible refine (inf_pos _).mono ?_; rintro e w ⟨rfl, rfl⟩)
            | fail)
          go_ret3
          exact ⟨⟨_, 4, _, rfl, by decide, by decide⟩, rfl⟩
      · have e1 : ¬ 3 < (k : Int) := by omega
        have e3 : ((k : Int) == 3) = false := by rw [beq_eq_false_iff_ne]; omega
        have e8 : ((k : Int) == 8) = false := by rw [beq_eq_false_iff_ne]; omega
        as_aux_lemma =>
          go_wp2_with fail
          go_ret3
          exact ⟨⟨0, 0, false, rfl, by decide, by decide⟩, rfl⟩
    · skip
      by_cases c45 : c.toNat = 45
      · have t43 : ((((ByteArray.mk (c :: r).toArray)[0]'hB).toNat : Int) == 43) = false := by rw [beq_eq_false_iff_ne, hbe]; omega
        have t45 : ((((ByteArray.mk (c :: r).toArray)[0]'hB).toNat : Int) == 45) = true := by rw [beq_iff_eq, hbe]; omega
        have t105 : ((((ByteArray.mk (c :: r).toArray)[0]'hB).toNat : Int) == 105) = false := by rw [beq_eq_false_iff_ne, hbe]; omega
        have t73 : ((((ByteArray.mk (c :: r).toArray)[0]'hB).toNat : Int) == 73) = false := by rw [beq_eq_false_iff_ne, hbe]; omega
        have t110 : ((((ByteArray.mk (c :: r).toArray)[0]'hB).toNat : Int) == 110) = false := by rw [beq_eq_false_iff_ne, hbe]; omega
        have t78 : ((((ByteArray.mk (c :: r).toArray)[0]'hB).toNat : Int) == 78) = false := by rw [beq_eq_false_iff_ne, hbe]; omega
        clear hbe
        go_enter Tryz.func110, Tryz.ntmps110
        go_wp2_with fail
        refine (HP1.out _).mono ?_
        rintro e w ⟨⟨k, rfl, hk⟩, rfl⟩
        rcases (show k = 3 ∨ k = 8 ∨ (3 < k ∧ k < 8) ∨ k < 3 from by omega) with rfl | rfl | ⟨k1, k2⟩ | k1
        · as_aux_lemma =>
            go_wp2_with (first
              | (go_at_call 132; with_reducible refine (inf_neg _).mono ?_; rintro e w ⟨rfl, rfl⟩)
              | fail)
            go_ret3
            exact ⟨⟨_, 4, _, rfl, by decide, by decide⟩, rfl⟩
        · as_aux_lemma =>
            go_wp2_with (first
              | (go_at_call 132; with_reducible refine (inf_neg _).mono ?_; rintro e w ⟨rfl, rfl⟩)
              | fail)
            go_ret3
            exact ⟨⟨_, 9, _, rfl, by decide, by decide⟩, rfl⟩
        · have e1 : 3 < (k : Int) := by omega
          have e2 : (k : Int) < 8 := by omega
          as_aux_lemma =>
            go_wp2_with (first
              | (go_at_call 132; with_reducible refine (inf_neg _).mono ?_; rintro e w ⟨rfl, rfl⟩)
              | fail)
            go_ret3
            exact ⟨⟨_, 4, _, rfl, by decide, by decide⟩, rfl⟩
        · have e1 : ¬ 3 < (k : Int) := by omega
          have e3 : ((k : Int) == 3) = false := by rw [beq_eq_false_iff_ne]; omega
          have e8 : ((k : Int) == 8) = false := by rw [beq_eq_false_iff_ne]; omega
          as_aux_lemma =>
            go_wp2_with fail
            go_ret3
            exact ⟨⟨0, 0, false, rfl, by decide, by decide⟩, rfl⟩
      · skip
        by_cases c105 : c.toNat = 105
        · have t43 : ((((ByteArray.mk (c :: r).toArray)[0]'hB).toNat : Int) == 43) = false := by rw [beq_eq_false_iff_ne, hbe]; omega
          have t45 : ((((ByteArray.mk (c :: r).toArray)[0]'hB).toNat : Int) == 45) = false := by rw [beq_eq_false_iff_ne, hbe]; omega
          have t105 : ((((ByteArray.mk (c :: r).toArray)[0]'hB).toNat : Int) == 105) = true := by rw [beq_iff_eq, hbe]; omega
          have t73 : ((((ByteArray.mk (c :: r).toArray)[0]'hB).toNat : Int) == 73) = false := by rw [beq_eq_false_iff_ne, hbe]; omega
          have t110 : ((((ByteArray.mk (c :: r).toArray)[0]'hB).toNat : Int) == 110) = false := by rw [beq_eq_false_iff_ne, hbe]; omega
          have t78 : ((((ByteArray.mk (c :: r).toArray)[0]'hB).toNat : Int) == 78) = false := by rw [beq_eq_false_iff_ne, hbe]; omega
          clear hbe
          go_enter Tryz.func110, Tryz.ntmps110
          go_wp2_with fail
          refine (HP2.out _).mono ?_
          rintro e w ⟨⟨k, rfl, hk⟩, rfl⟩
          rcases (show k = 3 ∨ k = 8 ∨ (3 < k ∧ k < 8) ∨ k < 3 from by omega) with rfl | rfl | ⟨k1, k2⟩ | k1
          · as_aux_lemma =>
              go_wp2_with (first
                | (go_at_call 132; with_reducible refine (inf_pos _).mono ?_; rintro e w ⟨rfl, rfl⟩)
                | fail)
              go_ret3
              exact ⟨⟨_, 3, _, rfl, by decide, by decide⟩, rfl⟩
          · as_aux_lemma =>
              go_wp2_with (first
                | (go_at_call 132; with_reducible refine (inf_pos _).mono ?_; rintro e w ⟨rfl, rfl⟩)
                | fail)
              go_ret3
              exact ⟨⟨_, 8, _, rfl, by decide, by decide⟩, rfl⟩
          · have e1 : 3 < (k : Int) := by omega
            have e2 : (k : Int) < 8 := by omega
            as_aux_lemma =>
              go_wp2_with (first
                | (go_at_call 132; with_reducible refine (inf_pos _).mono ?_; rintro e w ⟨rfl, rfl⟩)
                | fail)
              go_ret3
              exact ⟨⟨_, 3, _, rfl, by decide, by decide⟩, rfl⟩
          · have e1 : ¬ 3 < (k : Int) := by omega
            have e3 : ((k : Int) == 3) = false := by rw [beq_eq_false_iff_ne]; omega
            have e8 : ((k : Int) == 8) = false := by rw [beq_eq_false_iff_ne]; omega
            as_aux_lemma =>
              go_wp2_with fail
              go_ret3
              exact ⟨⟨0, 0, false, rfl, by decide, by decide⟩, rfl⟩
        · skip
          by_cases c73 : c.toNat = 73
          · have t43 : ((((ByteArray.mk (c :: r).toArray)[0]'hB).toNat : Int) == 43) = false := by rw [beq_eq_false_iff_ne, hbe]; omega
            have t45 : ((((ByteArray.mk (c :: r).toArray)[0]'hB).toNat : Int) == 45) = false := by rw [beq_eq_false_iff_ne, hbe]; omega
            have t105 : ((((ByteArray.mk (c :: r).toArray)[0]'hB).toNat : Int) == 105) = false := by rw [beq_eq_false_iff_ne, hbe]; omega
            have t73 : ((((ByteArray.mk (c :: r).toArray)[0]'hB).toNat : Int) == 73) = true := by rw [beq_iff_eq, hbe]; omega
            have t110 : ((((ByteArray.mk (c :: r).toArray)[0]'hB).toNat : Int) == 110) = false := by rw [beq_eq_false_iff_ne, hbe]; omega
            have t78 : ((((ByteArray.mk (c :: r).toArray)[0]'hB).toNat : Int) == 78) = false := by rw [beq_eq_false_iff_ne, hbe]; omega
            clear hbe
            go_enter Tryz.func110, Tryz.ntmps110
            go_wp2_with fail
            refine (HP2.out _).mono ?_
            rintro e w ⟨⟨k, rfl, hk⟩, rfl⟩
            rcases (show k = 3 ∨ k = 8 ∨ (3 < k ∧ k < 8) ∨ k < 3 from by omega) with rfl | rfl | ⟨k1, k2⟩ | k1
            · as_aux_lemma =>
                go_wp2_with (first
                  | (go_at_call 132; with_reducible refine (inf_pos _).mono ?_; rintro e w ⟨rfl, rfl⟩)
                  | fail)
                go_ret3
                exact ⟨⟨_, 3, _, rfl, by decide, by decide⟩, rfl⟩
            · as_aux_lemma =>
                go_wp2_with (first
                  | (go_at_call 132; with_reducible refine (inf_pos _).mono ?_; rintro e w ⟨rfl, rfl⟩)
                  | fail)
                go_ret3
                exact ⟨⟨_, 8, _, rfl, by decide, by decide⟩, rfl⟩
            · have e1 : 3 < (k : Int) := by omega
              have e2 : (k : Int) < 8 := by omega
              as_aux_lemma =>
                go_wp2_with (first
                  | (go_at_call 132; with_reducible refine (inf_pos _).mono ?_; rintro e w ⟨rfl, rfl⟩)
                  | fail)
                go_ret3
                exact ⟨⟨_, 3, _, rfl, by decide, by decide⟩, rfl⟩
            · have e1 : ¬ 3 < (k : Int) := by omega
              have e3 : ((k : Int) == 3) = false := by rw [beq_eq_false_iff_ne]; omega
              have e8 : ((k : Int) == 8) = false := by rw [beq_eq_false_iff_ne]; omega
              as_aux_lemma =>
                go_wp2_with fail
                go_ret3
                exact ⟨⟨0, 0, false, rfl, by decide, by decide⟩, rfl⟩
          · skip
            by_cases c110 : c.toNat = 110
            · have t43 : ((((ByteArray.mk (c :: r).toArray)[0]'hB).toNat : Int) == 43) = false := by rw [beq_eq_false_iff_ne, hbe]; omega
              have t45 : ((((ByteArray.mk (c :: r).toArray)[0]'hB).toNat : Int) == 45) = false := by rw [beq_eq_false_iff_ne, hbe]; omega
              have t105 : ((((ByteArray.mk (c :: r).toArray)[0]'hB).toNat : Int) == 105) = false := by rw [beq_eq_false_iff_ne, hbe]; omega
              have t73 : ((((ByteArray.mk (c :: r).toArray)[0]'hB).toNat : Int) == 73) = false := by rw [beq_eq_false_iff_ne, hbe]; omega
              have t110 : ((((ByteArray.mk (c :: r).toArray)[0]'hB).toNat : Int) == 110) = true := by rw [beq_iff_eq, hbe]; omega
              have t78 : ((((ByteArray.mk (c :: r).toArray)[0]'hB).toNat : Int) == 78) = false := by rw [beq_eq_false_iff_ne, hbe]; omega
              clear hbe
              go_enter Tryz.func110, Tryz.ntmps110
              go_wp2_with fail
              refine (HP3.out _).mono ?_
              rintro e w ⟨⟨k, rfl, hk⟩, rfl⟩
              by_cases k3 : k = 3
              · subst k3
                as_aux_lemma =>
                  go_wp2_with (first
                    | (go_at_call 133; with_reducible refine (nan_any _).mono ?_; rintro e w ⟨⟨u, rfl, hu0, hu1⟩, rfl⟩)
                    | fail)
                  go_ret3
                  exact ⟨⟨_, 3, _, rfl, by omega, by decide⟩, rfl⟩
              · have e3 : ((k : Int) == 3) = false := by rw [beq_eq_false_iff_ne]; omega
                as_aux_lemma =>
                  go_wp2_with fail
                  go_ret3
                  exact ⟨⟨0, 0, false, rfl, by decide, by decide⟩, rfl⟩
            · skip
              by_cases c78 : c.toNat = 78
              · have t43 : ((((ByteArray.mk (c :: r).toArray)[0]'hB).toNat : Int) == 43) = false := by rw [beq_eq_false_iff_ne, hbe]; omega
                have t45 : ((((ByteArray.mk (c :: r).toArray)[0]'hB).toNat : Int) == 45) = false := by rw [beq_eq_false_iff_ne, hbe]; omega
                have t105 : ((((ByteArray.mk (c :: r).toArray)[0]'hB).toNat : Int) == 105) = false := by rw [beq_eq_false_iff_ne, hbe]; omega
                have t73 : ((((ByteArray.mk (c :: r).toArray)[0]'hB).toNat : Int) == 73) = false := by rw [beq_eq_false_iff_ne, hbe]; omega
                have t110 : ((((ByteArray.mk (c :: r).toArray)[0]'hB).toNat : Int) == 110) = false := by rw [beq_eq_false_iff_ne, hbe]; omega
                have t78 : ((((ByteArray.mk (c :: r).toArray)[0]'hB).toNat : Int) == 78) = true := by rw [beq_iff_eq, hbe]; omega
                clear hbe
                go_enter Tryz.func110, Tryz.ntmps110
                go_wp2_with fail
                refine (HP3.out _).mono ?_
                rintro e w ⟨⟨k, rfl, hk⟩, rfl⟩
                by_cases k3 : k = 3
                · subst k3
                  as_aux_lemma =>
                    go_wp2_with (first
                      | (go_at_call 133; with_reducible refine (nan_any _).mono ?_; rintro e w ⟨⟨u, rfl, hu0, hu1⟩, rfl⟩)
                      | fail)
                    go_ret3
                    exact ⟨⟨_, 3, _, rfl, by omega, by decide⟩, rfl⟩
                · have e3 : ((k : Int) == 3) = false := by rw [beq_eq_false_iff_ne]; omega
                  as_aux_lemma =>
                    go_wp2_with fail
                    go_ret3
                    exact ⟨⟨0, 0, false, rfl, by decide, by decide⟩, rfl⟩
              · skip
                have t43 : ((((ByteArray.mk (c :: r).toArray)[0]'hB).toNat : Int) == 43) = false := by rw [beq_eq_false_iff_ne, hbe]; omega
                have t45 : ((((ByteArray.mk (c :: r).toArray)[0]'hB).toNat : Int) == 45) = false := by rw [beq_eq_false_iff_ne, hbe]; omega
                have t105 : ((((ByteArray.mk (c :: r).toArray)[0]'hB).toNat : Int) == 105) = false := by rw [beq_eq_false_iff_ne, hbe]; omega
                have t73 : ((((ByteArray.mk (c :: r).toArray)[0]'hB).toNat : Int) == 73) = false := by rw [beq_eq_false_iff_ne, hbe]; omega
                have t110 : ((((ByteArray.mk (c :: r).toArray)[0]'hB).toNat : Int) == 110) = false := by rw [beq_eq_false_iff_ne, hbe]; omega
                have t78 : ((((ByteArray.mk (c :: r).toArray)[0]'hB).toNat : Int) == 78) = false := by rw [beq_eq_false_iff_ne, hbe]; omega
                clear hbe
                go_enter Tryz.func110, Tryz.ntmps110
                go_wp2_with fail
                go_ret3
                exact ⟨⟨0, 0, false, rfl, by decide, by decide⟩, rfl⟩
end Go.Proofs.YtmejmohambhaaaaGreatDoor
/- pack64 AT EVERY WORD: it answers something. Own work of the verifier. -/
namespace Go.Proofs.YtmejmohambhaaaaGreatDoor
open Go.RowKit Go.Sort

/-- A float, and an error or none. -/
def TellsE (e : Ending) : Prop := ∃ (f : Nat) (v : Value), e = .returned (.tuple #[.float .f64 f, v]) ∧ f < 18446744073709551616 ∧ (v = .nilIface ∨ v = .iface 66 (.int .i64 1))
set_option maxHeartbeats 1000000 in
set_option maxRecDepth 100000 in
theorem pack_some (X : Nat) (E : Int) (hX : X < 18446744073709551616) (hE0 : -1074 ≤ E) (hE1 : E ≤ 1200) (w : World) :
    Calls Tryz.prog 136 #[.int .u64 (X : Int), .int .i64 E] w fun r w' => TellsE r ∧ w' = w := by
  have hb := u64_and_nat X 4503599627370496 hX (by decide)
  rw [show ((4503599627370496 : Nat) : Int) = 4503599627370496 from rfl] at hb
  generalize X &&& 4503599627370496 = Z at *
  rcases Nat.eq_zero_or_pos Z with hZ | hZ
  · subst hZ
    rw [show ((0 : Nat) : Int) = 0 from rfl] at hb
    go_enter Tryz.func136, Tryz.ntmps136
    go_wp2_with (first | simp only [f64from] | fail)
    go_ret2
    exact ⟨⟨_, _, rfl, hX, Or.inl rfl⟩, rfl⟩
  · have hZ' : ((Z : Int) == 0) = false := by rw [beq_eq_false_iff_ne]; omega
    by_cases hbig : 972 ≤ E
    · have h1 := u64_and_nat X 9223372036854775808 hX (by decide)
      have h1' : X &&& 9223372036854775808 < 2 ^ 64 := Nat.and_lt_two_pow X (by decide)
      rw [show ((9223372036854775808 : Nat) : Int) = 9223372036854775808 from rfl] at h1
      generalize X &&& 9223372036854775808 = Y at *
      have h2 := u64_or_nat Y 9218868437227405312 h1' (by decide)
      have h2' : Y ||| 9218868437227405312 < 2 ^ 64 := Nat.or_lt_two_pow h1' (by decide)
      rw [show ((9218868437227405312 : Nat) : Int) = 9218868437227405312 from rfl] at h2
      generalize Y ||| 9218868437227405312 = U at *
      go_enter Tryz.func136, Tryz.ntmps136
      go_wp2_with (first | simp only [f64from] | fail)
      go_ret2
      exact ⟨⟨_, _, rfl, h2', Or.inr rfl⟩, rfl⟩
    · obtain ⟨q, hq⟩ : ∃ q : Nat, 1075 + E = (q : Int) := ⟨(1075 + E).toNat, by omega⟩
      have hqq : (q : Int) < 2047 := by omega
      have h1 := u64_andNot_nat X 4503599627370496 hX (by decide)
      have h1' : X &&& (18446744073709551615 - 4503599627370496) < 2 ^ 64 := Nat.and_lt_two_pow X (by decide)
      rw [show ((4503599627370496 : Nat) : Int) = 4503599627370496 from rfl] at h1
      generalize X &&& (18446744073709551615 - 4503599627370496) = Y at *
      have hQ' : q * 4503599627370496 < 2 ^ 64 := by omega
      have h2 := u64_or_nat Y (q * 4503599627370496) h1' hQ'
      have h2' : Y ||| (q * 4503599627370496) < 2 ^ 64 := Nat.or_lt_two_pow h1' hQ'
      have hq4 : (q : Int) * 4503599627370496 = ((q * 4503599627370496 : Nat) : Int) := by omega
      generalize hU : Y ||| (q * 4503599627370496) = U at *
      generalize hQ : q * 4503599627370496 = Q at *
      clear hU hQ hE0 hE1
      go_enter Tryz.func136, Tryz.ntmps136
      go_wp2_with (first | simp only [f64from] | fail)
      go_ret2
      exact ⟨⟨_, _, rfl, h2', Or.inl rfl⟩, rfl⟩
end Go.Proofs.YtmejmohambhaaaaGreatDoor
/- parseFloat64 AT ALL DIGITS: it answers something. Own work of the verifier. -/
namespace Go.Proofs.YtmejmohambhaaaaGreatDoor
open Go.RowKit Go.Sort

set_option maxHeartbeats 4000000 in
set_option maxRecDepth 100000 in
theorem parse64_some (n : Bool) (d b : Nat) (p e : Int) (hd : d < 18446744073709551616) (hd1 : 1 ≤ d) (hb : Lib.bitLen d = b) (hb1 : 1 ≤ b) (hb64 : b ≤ 64) (hp0 : -345 ≤ p) (hp1 : p ≤ 310) (he : eP b p = e) (hx : d * 2 ^ (64 - b) < 18446744073709551616)
    (w : World) (hg : 8 < w.heap.size) (hT : Pow w) :
    Calls Tryz.prog 122 #[.int .u64 (d : Int), .int .i64 p, .int .u64 ((sgnN n : Nat) : Int)] w fun r w' => TellsE r ∧ Below w.heap.size w w' := by
  obtain ⟨hl0, hl1⟩ := l2_bounds p (by omega) (by omega)
  have hsn : sgnN n < 18446744073709551616 := by unfold sgnN; split <;> omega
  have HL : Hid (∀ W, Calls Tryz.prog 61 #[.int .u64 (d : Int)] W fun r w' => r = .returned (.int .i64 (b : Int)) ∧ w' = W) := by
    intro W
    have h := Tryz.bits_Len64 (d : Int) W (by omega) (by omega)
    rw [Int.toNat_natCast, hb] at h
    exact h
  have hor : bits .or .u64 ((sgnN n : Nat) : Int) 0 = ((sgnN n : Nat) : Int) := by cases n <;> decide +kernel
  have HOr : Hid (∀ M : Nat, M < 18446744073709551616 → ∃ X : Nat, X < 18446744073709551616 ∧ bits .or .u64 ((sgnN n : Nat) : Int) (M : Int) = (X : Int)) := fun M hM => ⟨_, or_lt hsn hM, u64_or_nat (sgnN n) M hsn hM⟩
  have he' : min 1074 (53 - (b : Int) - l2 p) = e := by rw [← he]; rfl
  have he0 : -1180 ≤ e := by omega
  have he1 : e ≤ 1074 := by omega
  obtain ⟨x, hx'⟩ : ∃ x, d * 2 ^ (64 - b) = x := ⟨_, rfl⟩
  obtain ⟨c, hc⟩ : ∃ c : Nat, 64 - b = c := ⟨_, rfl⟩
  have hcI : 64 - (b : Int) = (c : Int) := by omega
  rw [hc] at hx'
  have hxi : (d : Int) * 2 ^ c = (x : Int) := by rw [mul_cast, hx']
  rw [hc, hx'] at hx
  generalize sgnN n = SG at *
  have hs8 : 8 ≤ -(e - (c : Int) + l2 p + 3) := by omega
  clear hb he hx'
  go_enter Tryz.func122, Tryz.ntmps122
  go_wp2_with (first
    | (go_at_call 61; with_reducible refine (HL.out _).mono ?_; rintro r w ⟨rfl, rfl⟩)
    | (go_at_call 94; with_reducible refine (log2Pow10_any p (by omega) (by omega) _).mono ?_; rintro r w ⟨rfl, rfl⟩)
    | fail)
  refine (prescale_any _ (e - (c : Int)) p (l2 p) (by omega) (by omega) (by omega) (by omega) (by omega) (by omega) _ (by simp; omega) (pow_alloc hT hg _) (.int .u64 0) (.int .u64 0) (.int .i64 0) (by simp [go_sem]) (by simp [go_sem]) (by simp [go_sem]) (by simp [go_sem]) (by simp [go_sem]) (by simp [go_sem])).mono ?_
  rintro r w1 ⟨rfl, hw1⟩
  have hb1' : Below w.heap.size w w1 := by
    rw [hw1]; exact (((bel1 w _).setCell (Nat.le_refl _) _).setCell (Nat.le_refl _) _).setCell (Nat.le_refl _) _
  have c0 : w1.cell? ⟨w.heap.size, 0, none⟩ = some (.int .u64 (tabHi (p + 348).toNat : Int)) := by rw [hw1]; simp [go_sem]
  have c1 : w1.cell? ⟨w.heap.size, 1, none⟩ = some (.int .u64 (tabLo (p + 348).toNat : Int)) := by rw [hw1]; simp [go_sem]
  have c2 : w1.cell? ⟨w.heap.size, 2, none⟩ = some (.int .i64 (-(e - (c : Int) + l2 p + 3))) := by rw [hw1]; simp [go_sem]
  clear hw1
  have ht := tab_fit (p + 348).toNat (by omega)
  have HU1 : Hid (∃ u : Nat, u < 18446744073709551616 ∧ Calls Tryz.prog 95 #[.int .u64 (x : Int), .pointer (some ⟨w.heap.size, 0, none⟩)] w1 fun r w' => r = .returned (.int .u64 (u : Int)) ∧ Below w1.heap.size w1 w') :=
    ⟨_, usc_lt _ _ _ _ hx ht.1, uscale_any x _ _ _ hx ht.1 ht.2 _ w1 c0 c1 c2⟩
  obtain ⟨sv, hsv⟩ : ∃ sv : Int, sv = -(e - (c : Int) + l2 p + 3) := ⟨_, rfl⟩
  rw [← hsv] at c2 hs8
  clear c0 c1 hsv ht
  by_cases hs64 : 64 ≤ sv
  · as_aux_lemma =>
      go_wp2_with (first | simp only [f64from] | fail)
      go_ret2
      exact ⟨⟨_, _, rfl, hsn, Or.inl rfl⟩, hb1'⟩
  · obtain ⟨u, hu, hcall⟩ := HU1.out
    have HU2 : Hid (Calls Tryz.prog 95 #[.int .u64 (x : Int), .pointer (some ⟨w.heap.size, 0, none⟩)] w1 fun r w' => r = .returned (.int .u64 (u : Int)) ∧ Below w1.heap.size w1 w') := hcall
    clear hcall HU1
    go_wp2_with fail
    refine Calls.mono HU2.out ?_
    rintro r w2 ⟨rfl, hb2⟩
    have hbw : Below w.heap.size w w2 := hb1'.trans (hb2.mono hb1'.size)
    have hand := and_one u hu
    have HC : Hid _ := cut_or u hu
    have HS : Hid _ := same_or u hu
    have hc1 : cut1 u ≤ u := by rw [cut1_val]; split <;> omega
    clear c2 hs64 HU2
    rcases Nat.lt_or_ge u 36028797018963966 with hk | hk
    · have HB2 : Hid (∀ W, Calls Tryz.prog 100 #[.bool (decide ((36028797018963966 : Int) ≤ (u : Int)))] W fun r w' => r = .returned (.int .i64 0) ∧ w' = W) := by
        intro W
        rw [decide_eq_false (by omega)]
        exact bool2_int _ W
      have hR := round_any u hu
      have hm : (u + 1 + u / 4 % 2) % 18446744073709551616 / 4 < 18446744073709551616 := by omega
      generalize (u + 1 + u / 4 % 2) % 18446744073709551616 / 4 = m at *
      obtain ⟨X, hX, hO⟩ := HOr.out m hm
      have HR : Hid _ := hR
      have HP : Hid _ := fun W => pack_some X (-e) hX (by omega) (by omega) W
      have hS := HS.out
      clear hR HC HS HOr
      go_wp2_with (first
        | (go_at_call 101; with_reducible refine (unmin53 _).mono ?_; rintro r w2 ⟨rfl, rfl⟩)
        | (go_at_call 100; with_reducible refine (HB2.out _).mono ?_; rintro r w2 ⟨rfl, rfl⟩)
        | (go_at_call 99; with_reducible refine (HR.out _).mono ?_; rintro r w2 ⟨rfl, rfl⟩)
        | fail)
      refine (HP.out _).mono ?_
      rintro r w3 ⟨⟨f, v, rfl, hf, hv⟩, rfl⟩
      have HV : Hid _ := hv
      clear hv
      go_wp2_with fail
      go_ret2
      exact ⟨⟨_, _, rfl, hf, HV.out⟩, hbw⟩
    · have HB2 : Hid (∀ W, Calls Tryz.prog 100 #[.bool (decide ((36028797018963966 : Int) ≤ (u : Int)))] W fun r w' => r = .returned (.int .i64 1) ∧ w' = W) := by
        intro W
        rw [decide_eq_true (by omega)]
        exact bool2_int _ W
      have hR := round_any (cut1 u) (by omega)
      have hm : (cut1 u + 1 + cut1 u / 4 % 2) % 18446744073709551616 / 4 < 18446744073709551616 := by omega
      generalize (cut1 u + 1 + cut1 u / 4 % 2) % 18446744073709551616 / 4 = m at *
      obtain ⟨X, hX, hO⟩ := HOr.out m hm
      have HR : Hid _ := hR
      have HP : Hid _ := fun W => pack_some X (-(e - 1)) hX (by omega) (by omega) W
      have hS := HC.out
      generalize cut1 u = v at *
      clear hR HC HS HOr
      go_wp2_with (first
        | (go_at_call 101; with_reducible refine (unmin53 _).mono ?_; rintro r w2 ⟨rfl, rfl⟩)
        | (go_at_call 100; with_reducible refine (HB2.out _).mono ?_; rintro r w2 ⟨rfl, rfl⟩)
        | (go_at_call 99; with_reducible refine (HR.out _).mono ?_; rintro r w2 ⟨rfl, rfl⟩)
        | fail)
      refine (HP.out _).mono ?_
      rintro r w3 ⟨⟨f, v', rfl, hf, hv⟩, rfl⟩
      have HV : Hid _ := hv
      clear hv
      go_wp2_with fail
      go_ret2
      exact ⟨⟨_, _, rfl, hf, HV.out⟩, hbw⟩
end Go.Proofs.YtmejmohambhaaaaGreatDoor
/- atof64exact AT ALL DIGITS: it answers something. Own work of the verifier. -/
namespace Go.Proofs.YtmejmohambhaaaaGreatDoor
open Go.RowKit Go.Sort Soft

theorem mul_some (s : Bool) (a b : Nat) (ha : a < 9218868437227405312) (hb : b < 9218868437227405312) : ∃ r, Ieee.double.mul (sw s a) (sw false b) = some r ∧ r < 18446744073709551616 := by
  unfold Ieee.Format.mul
  rw [read_sw s a ha, read_sw false b hb]
  exact ⟨_, rfl, Ieee.Format.nearest_lt _ _ _ _⟩
theorem div_some (s : Bool) (a b : Nat) (ha : a < 9218868437227405312) (hb : b < 9218868437227405312) (hn : magOf b ≠ 0) : ∃ r, Ieee.double.div (sw s a) (sw false b) = some r ∧ r < 18446744073709551616 := by
  unfold Ieee.Format.div
  rw [read_sw s a ha, read_sw false b hb]
  unfold Ieee.Datum.quotient
  simp only
  rw [if_neg hn]
  exact ⟨_, rfl, Ieee.Format.nearest_lt _ _ _ _⟩
theorem exact_some (n : Bool) (d : Nat) (p : Int) (hd : d < 18446744073709551616) (hd1 : 1 ≤ d) (hp0 : -1000 ≤ p) (hp1 : p ≤ 1000) : ∃ F, F < 18446744073709551616 ∧ ∀ (w : World), Glob w → P10F w →
    Calls Tryz.prog 121 #[.int .u64 (d : Int), .int .i64 p, .bool n] w fun r w' => TellsF F r ∧ w' = w := by
  have key : ∃ F, F < 18446744073709551616 ∧ (d < 4503599627370496 → p = 0 → sw n (nrung (d * UN)) = F) ∧
      (∀ k : Nat, d < 4503599627370496 → p = (k : Int) → 0 < k → k ≤ 22 → over (sw n (nrung (d * UN))) = false → floatBits .mul .f64 (sw n (nrung (d * UN))) (tenW k) = some F) ∧
      (∀ j : Nat, d < 4503599627370496 → p = (j : Int) + 22 → 0 < j → j ≤ 15 → ∃ g, floatBits .mul .f64 (sw n (nrung (d * UN))) (tenW j) = some g ∧ (over g = false → floatBits .mul .f64 g (tenW 22) = some F)) ∧
      (∀ k : Nat, d < 4503599627370496 → p = -(k : Int) → 0 < k → k ≤ 22 → floatBits .quo .f64 (sw n (nrung (d * UN))) (tenW k) = some F) := by
    by_cases hlt : d < 4503599627370496
    · have hr := int_rung d (by omega)
      rcases Int.lt_trichotomy p 0 with hp | hp | hp
      · by_cases hp22 : -22 ≤ p
        · obtain ⟨k, rfl⟩ : ∃ k : Nat, p = -(k : Int) := ⟨(-p).toNat, by omega⟩
          have ht := ten_ok k (by omega)
          have hm := (up_ge ht.2 (Nat.pow_pos (by decide))).2
          obtain ⟨F, hF, hF'⟩ := div_some n (nrung (d * UN)) (tenW k) hr.2 ht.1 (by omega)
          refine ⟨F, hF', fun _ h => by omega, fun j _ h => by omega, fun j _ h => by omega, fun j _ h _ _ => ?_⟩
          obtain rfl : j = k := by omega
          exact hF
        · exact ⟨0, by decide, fun _ h => by omega, fun j _ h => by omega, fun j _ h => by omega, fun j _ h => by omega⟩
      · subst hp
        exact ⟨_, sw_lt n (by omega), fun _ _ => rfl, fun j _ h => by omega, fun j _ h => by omega, fun j _ h => by omega⟩
      · by_cases hp22 : p ≤ 22
        · obtain ⟨k, rfl⟩ : ∃ k : Nat, p = (k : Int) := ⟨p.toNat, by omega⟩
          have ht := ten_ok k (by omega)
          obtain ⟨F, hF, hF'⟩ := mul_some n (nrung (d * UN)) (tenW k) hr.2 ht.1
          refine ⟨F, hF', fun _ h => by omega, fun j _ h _ _ _ => ?_, fun j _ h => by omega, fun j _ h => by omega⟩
          obtain rfl : j = k := by omega
          exact hF
        · by_cases hp37 : p ≤ 37
          · obtain ⟨j, rfl⟩ : ∃ j : Nat, p = (j : Int) + 22 := ⟨(p - 22).toNat, by omega⟩
            have ht := ten_ok j (by omega)
            have ht' := ten_ok 22 (by decide)
            have hm := mul_exact n (nrung (d * UN)) (tenW j) d (10 ^ j) hr.2 ht.1 hr.1 ht.2 hd1 (Nat.pow_pos (by decide))
            rcases Nat.lt_or_ge 1000000000000000 (d * 10 ^ j) with c | c
            · refine ⟨0, by decide, fun _ h => by omega, fun i _ h => by omega, fun i _ h _ _ => ?_, fun i _ h => by omega⟩
              obtain rfl : i = j := by omega
              exact ⟨_, hm, fun ho => by rw [over_big n _ c] at ho; cases ho⟩
            · have hr' := int_rung (d * 10 ^ j) (by omega)
              obtain ⟨F, hF, hF'⟩ := mul_some n (nrung (d * 10 ^ j * UN)) (tenW 22) hr'.2 ht'.1
              refine ⟨F, hF', fun _ h => by omega, fun i _ h => by omega, fun i _ h _ _ => ?_, fun i _ h => by omega⟩
              obtain rfl : i = j := by omega
              exact ⟨_, hm, fun _ => hF⟩
          · exact ⟨0, by decide, fun _ h => by omega, fun j _ h => by omega, fun j _ h => by omega, fun j _ h => by omega⟩
    · exact ⟨0, by decide, fun h => absurd h hlt, fun _ h => absurd h hlt, fun _ h => absurd h hlt, fun _ h => absurd h hlt⟩
  obtain ⟨F, hF, k0, k1, k2, k3⟩ := key
  refine ⟨F, hF, fun w hGl hP => exact_gen n d (sw false (nrung (d * UN))) (sw n (nrung (d * UN))) F p hd hp0 hp1 (fun _ => near_int d hd1) (fun h => by subst h; rfl) (fun hlt h W => ?_) k0 k1 k2 k3 w hGl hP⟩
  subst h
  have := int_rung d (by omega)
  rw [sw_f, sw_t]
  generalize nrung (d * UN) = a at *
  exact run_neg_float _ a (by omega) W
end Go.Proofs.YtmejmohambhaaaaGreatDoor
/- atofHex: it answers something. Own work of the verifier. -/
namespace Go.Proofs.YtmejmohambhaaaaGreatDoor
open Go.RowKit Go.Sort Soft

theorem and2047 (s : Int) : ∃ Y : Nat, Y ≤ 2047 ∧ bits .and .i64 s 2047 = (Y : Int) := by
  refine ⟨(s % 2048).toNat, by omega, ?_⟩
  show IntKind.i64.wrap ((BitVec.ofInt 64 s &&& BitVec.ofInt 64 ((2047 : Nat) : Int)).toNat : Int) = _
  rw [BitVec.toNat_and, ofInt_u64 _ (by decide), BitVec.toNat_ofInt, show (2047 : Nat) = 2 ^ 11 - 1 from by decide, Nat.and_two_pow_sub_one_eq_mod, IntKind.wrap_i64]
  omega
theorem or_oneH (m : Nat) (h : m < 18446744073709551616) : ∃ k : Nat, k < 18446744073709551616 ∧ bits .or .u64 (m : Int) 1 = (k : Int) := ⟨m ||| 1, or_lt h (by decide), u64_or_nat m 1 h (by decide)⟩
theorem cut1_less (u : Nat) (h : 2 ≤ u) : cut1 u < u := by rw [cut1_val]; split <;> omega
theorem or_bound (a b : Int) : (bits .or .u64 a b).toNat < 18446744073709551616 := by
  show (IntKind.u64.wrap ((BitVec.ofInt 64 a ||| BitVec.ofInt 64 b).toNat : Int)).toNat < _
  show ((((BitVec.ofInt 64 a ||| BitVec.ofInt 64 b).toNat : Int)) % 18446744073709551616).toNat < _
  omega
def DrewOf (w W : World) : Prop := ∃ q, W = w.drewN q
set_option maxHeartbeats 4000000 in
set_option maxRecDepth 100000 in
theorem hex_some (s : ByteArray) (M : Nat) (P : Int) (ng tr : Bool) (hM : M < 18446744073709551616) (w : World)
    (i1 : w.cell? ⟨7, 0, none⟩ = some (.int .u64 52)) (i2 : w.cell? ⟨7, 1, none⟩ = some (.int .u64 11)) (i3 : w.cell? ⟨7, 2, none⟩ = some (.int .i64 (-1023)))
    (hpe : ∀ q, (binOp .eql 136 (.pointer (some ⟨7, 0, none⟩)) (.pointer (some ⟨6, 0, none⟩))).run Tryz.prog (w.drewN q) = .ok (.bool false) (w.drewN q)) :
    Calls Tryz.prog 112 #[.string s, .pointer (some ⟨7, 0, none⟩), .int .u64 (M : Int), .int .i64 P, .bool ng, .bool tr] w fun r w' => TellsE r ∧ DrewOf w w' := by
  go_enter Tryz.func112, Tryz.ntmps112
  go_wp2_with fail
  go_quiet (fail)
  go_upto_block 0 with fail
  go_cut [2, 3] from 19 (fun mv ev W => ∃ (m : Nat) (x : Int), mv = .int .u64 (m : Int) ∧ m < 18446744073709551616 ∧ ev = .int .i64 x ∧ W = w.drewN nq)
  case first =>
    as_aux_lemma =>
      go_wp2_with fail
      go_loopw [2, 3] (fun mv ev W => ∃ (m : Nat) (x : Int), mv = .int .u64 (m : Int) ∧ m < 18446744073709551616 ∧ ev = .int .i64 x ∧ W = w.drewN nq) (fun mv _ _ => (18014398509481984 - intOf mv).toNat)
      case atStart => exact ⟨M, _, rfl, hM, rfl, rfl⟩
      case round =>
        obtain ⟨m, x, rfl, hm, rfl, rfl⟩ := hrel
        by_cases m0 : m = 0
        · subst m0
          as_aux_lemma =>
            go_wp2_with fail
            go_meet
            exact ⟨0, x, rfl, by decide, rfl, rfl⟩
        · have t0 : ((m : Int) != 0) = true := by rw [bne_iff_ne]; omega
          by_cases hb : m < 18014398509481984
          · have t1 : ((m : Int) / 18014398509481984 == 0) = true := by rw [beq_iff_eq]; omega
            as_aux_lemma =>
              go_wp2_with fail
              refine ⟨⟨m * 2, _, ?_, by omega, rfl, True.intro⟩, by simp [intOf]; omega⟩
              congr 1
          · have t1 : ((m : Int) / 18014398509481984 == 0) = false := by rw [beq_eq_false_iff_ne]; omega
            as_aux_lemma =>
              go_wp2_with fail
              go_meet
              exact ⟨m, x, rfl, hm, rfl, rfl⟩
  case rest =>
  clear hM
  obtain ⟨M, x, rfl, hM, rfl, rfl⟩ := hcut
  go_upto_if 58 with fail
  go_cut [2] from 19 (fun mv W => ∃ (m : Nat), mv = .int .u64 (m : Int) ∧ m < 18446744073709551616 ∧ W = w.drewN nq)
  case first =>
    obtain ⟨k, hk, hk'⟩ := or_oneH M hM
    as_aux_lemma =>
      cases tr
      · go_wp2_with fail
        go_meet
        exact ⟨M, rfl, hM, rfl⟩
      · go_wp2_with fail
        go_meet
        exact ⟨k, rfl, hk, rfl⟩
  case rest =>
  clear hM
  obtain ⟨M, rfl, hM, rfl⟩ := hcut
  have HAnd : Hid (∀ m : Nat, m < 18446744073709551616 → bits .and .u64 (m : Int) 1 = (m : Int) % 2 ∧ bits .or .u64 ((m : Int) / 2) ((m : Int) % 2) = ((cut1 m : Nat) : Int)) := fun m hm => ⟨by rw [and_one m hm]; omega, cut_or m hm⟩
  go_upto_block 2 with fail
  go_cut [2, 3] from 19 (fun mv ev W => ∃ (m : Nat) (x : Int), mv = .int .u64 (m : Int) ∧ m < 18446744073709551616 ∧ ev = .int .i64 x ∧ W = w.drewN nq)
  case first =>
    as_aux_lemma =>
      go_wp2_with fail
      go_loopw [2, 3] (fun mv ev W => ∃ (m : Nat) (x : Int), mv = .int .u64 (m : Int) ∧ m < 18446744073709551616 ∧ ev = .int .i64 x ∧ W = w.drewN nq) (fun mv _ _ => (intOf mv).toNat)
      case atStart => exact ⟨M, _, rfl, hM, rfl, rfl⟩
      case round =>
        obtain ⟨m, x, rfl, hm, rfl, rfl⟩ := hrel
        by_cases hb : m < 36028797018963968
        · have t1 : ((m : Int) / 36028797018963968 != 0) = false := by rw [bne_eq_false_iff_eq]; omega
          as_aux_lemma =>
            go_wp2_with fail
            go_meet
            exact ⟨m, x, rfl, hm, rfl, rfl⟩
        · have t1 : ((m : Int) / 36028797018963968 != 0) = true := by rw [bne_iff_ne]; omega
          obtain ⟨a1, a2⟩ := HAnd.out m hm
          have HLs : Hid _ := cut1_less m (by omega)
          as_aux_lemma =>
            go_wp2_with fail
            refine ⟨⟨cut1 m, _, rfl, by have := HLs.out; omega, rfl, True.intro⟩, ?_⟩
            simp only [intOf, Int.toNat_natCast]
            exact HLs.out
  case rest =>
  clear hM
  obtain ⟨M, x, rfl, hM, rfl, rfl⟩ := hcut
  go_upto_block 4 with fail
  go_cut [2, 3] from 19 (fun mv ev W => ∃ (m : Nat) (x : Int), mv = .int .u64 (m : Int) ∧ m < 18446744073709551616 ∧ ev = .int .i64 x ∧ W = w.drewN nq)
  case first =>
    as_aux_lemma =>
      go_wp2_with fail
      go_loopw [2, 3] (fun mv ev W => ∃ (m : Nat) (x : Int), mv = .int .u64 (m : Int) ∧ m < 18446744073709551616 ∧ ev = .int .i64 x ∧ W = w.drewN nq) (fun mv _ _ => (intOf mv).toNat)
      case atStart => exact ⟨M, _, rfl, hM, rfl, rfl⟩
      case round =>
        obtain ⟨m, x, rfl, hm, rfl, rfl⟩ := hrel
        by_cases hb : 1 < m
        · have t1 : (1 : Int) < (m : Int) := by omega
          by_cases hx : x < -1024
          · obtain ⟨a1, a2⟩ := HAnd.out m hm
            have HLs : Hid _ := cut1_less m (by omega)
            as_aux_lemma =>
              go_wp2_with fail
              refine ⟨⟨cut1 m, _, rfl, by have := HLs.out; omega, rfl, True.intro⟩, ?_⟩
              simp only [intOf, Int.toNat_natCast]
              exact HLs.out
          · as_aux_lemma =>
              go_wp2_with fail
              go_meet
              exact ⟨m, x, rfl, hm, rfl, rfl⟩
        · have t1 : ¬ (1 : Int) < (m : Int) := by omega
          as_aux_lemma =>
            go_wp2_with fail
            go_meet
            exact ⟨m, x, rfl, hm, rfl, rfl⟩
  case rest =>
  clear hM
  obtain ⟨M, x, rfl, hM, rfl, rfl⟩ := hcut
  go_upto_if 103 with fail
  go_cut [2, 3] from 19 (fun mv ev W => ∃ (m : Nat) (x : Int), mv = .int .u64 (m : Int) ∧ m < 18446744073709551616 ∧ ev = .int .i64 x ∧ W = w.drewN nq)
  case first =>
    as_aux_lemma =>
      go_wp2_with fail
      all_goals (go_meet; first | exact ⟨(M / 4 + 1) / 2, _, congrArg (Value.int .u64) (by omega), by omega, rfl, rfl⟩ | exact ⟨M / 4 + 1, _, congrArg (Value.int .u64) (by omega), by omega, rfl, rfl⟩ | exact ⟨M / 4, _, congrArg (Value.int .u64) (by omega), by omega, rfl, rfl⟩)
  case rest =>
  obtain ⟨R, hR⟩ : ∃ R, R = bits BinOp.or IntKind.u64 (bits BinOp.and IntKind.u64 (M : Int) 3) (bits BinOp.and IntKind.u64 ((M : Int) / 4) 1) := ⟨_, rfl⟩
  rw [← hR]
  clear hM hR
  obtain ⟨M, x, rfl, hM, rfl, rfl⟩ := hcut
  go_upto_if 124 with fail
  go_cut [3] from 19 (fun ev W => ∃ (x : Int), ev = .int .i64 x ∧ W = w.drewN nq)
  case first =>
    as_aux_lemma =>
      go_wp2_with fail
      all_goals (go_meet; exact ⟨_, rfl, rfl⟩)
  case rest =>
  obtain ⟨x, rfl, rfl⟩ := hcut
  go_upto_if 131 with fail
  go_cut [2, 3, 17] from 19 (fun mv ev er W => ∃ (m : Nat) (x : Int), mv = .int .u64 (m : Int) ∧ m < 18446744073709551616 ∧ ev = .int .i64 x ∧ (er = .nilIface ∨ er = .iface 66 (.int .i64 1)) ∧ W = w.drewN nq)
  case first =>
    as_aux_lemma =>
      go_wp2_with fail
      all_goals (go_meet; first | exact ⟨M, x, rfl, hM, rfl, Or.inl rfl, rfl⟩ | exact ⟨4503599627370496, _, rfl, by decide, rfl, Or.inr rfl, rfl⟩)
  case rest =>
  clear hM
  obtain ⟨M, x, rfl, hM, rfl, her, rfl⟩ := hcut
  have HE : Hid _ := her
  clear her
  go_wp2_with fail
  go_quiet (fail)
  cases ng
  · as_aux_lemma =>
      go_wp2_with (first | simp only [f64from] | fail)
      go_ret2
      exact ⟨⟨_, _, rfl, or_bound _ _, HE.out⟩, _, rfl⟩
  · as_aux_lemma =>
      go_wp2_with fail
      go_quiet (fail)
      go_wp2_with (first | simp only [f64from] | fail)
      go_ret2
      exact ⟨⟨_, _, rfl, or_bound _ _, HE.out⟩, _, rfl⟩
end Go.Proofs.YtmejmohambhaaaaGreatDoor
