/- underscoreOK AT EVERY TEXT: it answers something. Own work of the verifier. -/
import Derived.Test.YtmejmohambhaaaaGreatDoorDC6
import Derived.Test.YtmejmohambhaaaaGreatDoorShelf
namespace Go.Proofs.YtmejmohambhaaaaGreatDoor
open Go.RowKit

theorem tail_bytes' (c : UInt8) (r : List UInt8) : (ByteArray.mk (c :: r).toArray).extract 1 (r.length + 1) = ⟨r.toArray⟩ := by
  apply ByteArray.ext
  rw [ByteArray.data_extract]
  simp
theorem bool_or (b : Bool) : b = true ∨ b = false := by cases b <;> simp
set_option maxHeartbeats 4000000 in
set_option maxRecDepth 100000 in
theorem under_some (l : List UInt8) (hl : l.length ≤ 25) (w : World) :
    Calls Tryz.prog 125 #[.string ⟨l.toArray⟩] w fun e w' => TellsB e ∧ w' = w := by
  have HL : Hid _ := fun (x : Int) (W : World) => Tryz.internal_strconv_lower x W
  go_enter Tryz.func125, Tryz.ntmps125
  go_upto_region 3 with fail
  go_cut [18] from 6 (fun v W => ∃ b : Bool, v = .bool b ∧ (b = true → 1 ≤ l.length) ∧ W = w)
  case first =>
    cases l with
    | nil =>
      as_aux_lemma =>
        go_wp2_with fail
        go_meet
        exact ⟨false, rfl, (fun h => by cases h), rfl⟩
    | cons c r =>
      have hB : 0 < (ByteArray.mk (c :: r).toArray).size := by show 0 < (c :: r).toArray.size; simp
      have hr : r.length ≤ 25 := by rw [List.length_cons] at hl; omega
      rcases bool_or ((((ByteArray.mk (c :: r).toArray)[0]'hB).toNat : Int) == 45) with t45 | t45
      · as_aux_lemma =>
          go_wp2_with fail
          go_meet
          exact ⟨true, rfl, (fun _ => by simp), rfl⟩
      · as_aux_lemma =>
          go_wp2_with fail
          go_meet
          exact ⟨_, rfl, (fun _ => by simp), rfl⟩
  case rest =>
  obtain ⟨b, rfl, hb, rfl⟩ := hcut
  go_upto_if 18 with fail
  go_cut [0] from 6 (fun v W => ∃ l' : List UInt8, v = .string ⟨l'.toArray⟩ ∧ l'.length ≤ 25 ∧ W = wc)
  case first =>
    as_aux_lemma =>
      cases b
      · go_wp2_with fail
        go_meet
        exact ⟨l, rfl, hl, rfl⟩
      · cases l with
        | nil => exact absurd (hb rfl) (by simp)
        | cons c r =>
          have hr : r.length ≤ 25 := by rw [List.length_cons] at hl; omega
          have ht := tail_bytes' c r
          go_wp2_with fail
          go_meet
          exact ⟨r, rfl, hr, rfl⟩
  case rest =>
  clear hb hl
  obtain ⟨l, rfl, hl, rfl⟩ := hcut
  go_upto_region 6 with fail
  go_cut [46] from 6 (fun v W => ∃ b : Bool, v = .bool b ∧ (b = true → 2 ≤ l.length) ∧ W = wc)
  case first =>
    by_cases h2 : 2 ≤ l.length
    · have h2' : (2 : Int) ≤ (l.length : Int) := by omega
      have hB0 : 0 < (ByteArray.mk l.toArray).size := by show 0 < l.toArray.size; simp; omega
      have hB1 : 1 < (ByteArray.mk l.toArray).size := by show 1 < l.toArray.size; simp; omega
      have hl1 : (1 : Int) < (l.length : Int) := by omega
      have hl0 : (0 : Int) < (l.length : Int) := by omega
      have hne : ¬ l = [] := fun h => by subst h; simp at h2
      rcases bool_or ((((ByteArray.mk l.toArray)[0]'hB0).toNat : Int) == 48) with t48 | t48
      · rcases bool_or (bits .or .u8 (((ByteArray.mk l.toArray)[1]'hB1).toNat : Int) 32 == 98) with t1 | t1
        · as_aux_lemma =>
            go_wp2_with (first
              | (go_at_call 91; refine (HL.out _ _).mono ?_; rintro e w' ⟨rfl, rfl⟩)
              | fail)
            go_meet
            exact ⟨_, rfl, (fun _ => h2), rfl⟩
        · rcases bool_or (bits .or .u8 (((ByteArray.mk l.toArray)[1]'hB1).toNat : Int) 32 == 111) with t2 | t2
          · as_aux_lemma =>
              go_wp2_with (first
                | (go_at_call 91; refine (HL.out _ _).mono ?_; rintro e w' ⟨rfl, rfl⟩)
                | fail)
              go_meet
              exact ⟨_, rfl, (fun _ => h2), rfl⟩
          · as_aux_lemma =>
              go_wp2_with (first
                | (go_at_call 91; refine (HL.out _ _).mono ?_; rintro e w' ⟨rfl, rfl⟩)
                | fail)
              go_meet
              exact ⟨_, rfl, (fun _ => h2), rfl⟩
      · as_aux_lemma =>
          go_wp2_with fail
          go_meet
          exact ⟨_, rfl, (fun _ => h2), rfl⟩
    · have h2' : ¬ (2 : Int) ≤ (l.length : Int) := by omega
      as_aux_lemma =>
        go_wp2_with fail
        go_meet
        exact ⟨false, rfl, (fun h => by cases h), rfl⟩
  case rest =>
  obtain ⟨b, rfl, hb2, rfl⟩ := hcut
  go_upto_if 46 with fail
  go_cut [3, 4, 5] from 6 (fun v i x W => ∃ (n : Int) (k : Nat) (hx : Bool), v = .int .i32 n ∧ i = .int .i64 (k : Int) ∧ k ≤ l.length ∧ x = .bool hx ∧ W = wc)
  case first =>
    cases b
    · as_aux_lemma =>
        go_wp2_with fail
        go_meet
        exact ⟨_, 0, _, rfl, rfl, by omega, rfl, rfl⟩
    · have h2 := hb2 rfl
      have hB1 : 1 < (ByteArray.mk l.toArray).size := by show 1 < l.toArray.size; simp; omega
      have hl1 : (1 : Int) < (l.length : Int) := by omega
      as_aux_lemma =>
        go_wp2_with (first
          | (go_at_call 91; refine (HL.out _ _).mono ?_; rintro e w' ⟨rfl, rfl⟩)
          | fail)
        go_meet
        exact ⟨_, 2, _, rfl, rfl, by omega, rfl, rfl⟩
  case rest =>
  clear hb2
  obtain ⟨n, k, hx, rfl, rfl, hk, rfl, rfl⟩ := hcut
  go_wp2_with fail
  go_loopw [3, 4] (fun v i W => ∃ (n : Int) (k : Nat), v = .int .i32 n ∧ i = .int .i64 (k : Int) ∧ k ≤ l.length ∧ W = wc) (fun _ i _ => l.length - (intOf i).toNat)
  case atStart => exact ⟨n, k, rfl, rfl, hk, rfl⟩
  case round =>
    clear hk
    obtain ⟨n, k, rfl, rfl, hk, rfl⟩ := hrel
    by_cases hlt : k < l.length
    · have hlt' : (k : Int) < (l.length : Int) := by omega
      have hBk : k < (ByteArray.mk l.toArray).size := by show k < l.toArray.size; simpa using hlt
      go_upto_region 12 with fail
      go_cut [83] from 51 to 91 (fun v W => ∃ b : Bool, v = .bool b ∧ W = wr)
      case first =>
        by_cases t48 : (48 : Int) ≤ (((ByteArray.mk l.toArray)[k]'hBk).toNat : Int)
        · by_cases t57 : (((ByteArray.mk l.toArray)[k]'hBk).toNat : Int) ≤ 57
          · as_aux_lemma =>
              go_wp2_with (first
                | (go_at_call 91; refine (HL.out _ _).mono ?_; rintro e w' ⟨rfl, rfl⟩)
                | fail)
              go_meet
              exact ⟨_, rfl, rfl⟩
          · cases hx
            · as_aux_lemma =>
                go_wp2_with (first
                  | (go_at_call 91; refine (HL.out _ _).mono ?_; rintro e w' ⟨rfl, rfl⟩)
                  | fail)
                go_meet
                exact ⟨_, rfl, rfl⟩
            · by_cases t97 : (97 : Int) ≤ bits .or .u8 (((ByteArray.mk l.toArray)[k]'hBk).toNat : Int) 32
              · by_cases t102 : bits .or .u8 (((ByteArray.mk l.toArray)[k]'hBk).toNat : Int) 32 ≤ 102
                · as_aux_lemma =>
                    go_wp2_with (first
                      | (go_at_call 91; refine (HL.out _ _).mono ?_; rintro e w' ⟨rfl, rfl⟩)
                      | fail)
                    go_meet
                    exact ⟨_, rfl, rfl⟩
                · as_aux_lemma =>
                    go_wp2_with (first
                      | (go_at_call 91; refine (HL.out _ _).mono ?_; rintro e w' ⟨rfl, rfl⟩)
                      | fail)
                    go_meet
                    exact ⟨_, rfl, rfl⟩
              · as_aux_lemma =>
                  go_wp2_with (first
                    | (go_at_call 91; refine (HL.out _ _).mono ?_; rintro e w' ⟨rfl, rfl⟩)
                    | fail)
                  go_meet
                  exact ⟨_, rfl, rfl⟩
        · cases hx
          · as_aux_lemma =>
              go_wp2_with (first
                | (go_at_call 91; refine (HL.out _ _).mono ?_; rintro e w' ⟨rfl, rfl⟩)
                | fail)
              go_meet
              exact ⟨_, rfl, rfl⟩
          · by_cases t97 : (97 : Int) ≤ bits .or .u8 (((ByteArray.mk l.toArray)[k]'hBk).toNat : Int) 32
            · by_cases t102 : bits .or .u8 (((ByteArray.mk l.toArray)[k]'hBk).toNat : Int) 32 ≤ 102
              · as_aux_lemma =>
                  go_wp2_with (first
                    | (go_at_call 91; refine (HL.out _ _).mono ?_; rintro e w' ⟨rfl, rfl⟩)
                    | fail)
                  go_meet
                  exact ⟨_, rfl, rfl⟩
              · as_aux_lemma =>
                  go_wp2_with (first
                    | (go_at_call 91; refine (HL.out _ _).mono ?_; rintro e w' ⟨rfl, rfl⟩)
                    | fail)
                  go_meet
                  exact ⟨_, rfl, rfl⟩
            · as_aux_lemma =>
                go_wp2_with (first
                  | (go_at_call 91; refine (HL.out _ _).mono ?_; rintro e w' ⟨rfl, rfl⟩)
                  | fail)
                go_meet
                exact ⟨_, rfl, rfl⟩
      case rest =>
      obtain ⟨b, rfl, rfl⟩ := hcut
      cases b
      · rcases bool_or ((((ByteArray.mk l.toArray)[k]'hBk).toNat : Int) == 95) with t95 | t95
        · rcases bool_or ((n : Int) != 48) with tn | tn
          · as_aux_lemma =>
              go_wp2_with fail
              go_ret
              exact ⟨⟨_, rfl⟩, rfl⟩
          · as_aux_lemma =>
              go_wp2_with fail
              exact ⟨⟨95, k + 1, rfl, by go_num, by omega, True.intro⟩, by simp [intOf]; omega⟩
        · rcases bool_or ((n : Int) == 95) with tn | tn
          · as_aux_lemma =>
              go_wp2_with fail
              go_ret
              exact ⟨⟨_, rfl⟩, rfl⟩
          · as_aux_lemma =>
              go_wp2_with fail
              exact ⟨⟨33, k + 1, rfl, by go_num, by omega, True.intro⟩, by simp [intOf]; omega⟩
      · as_aux_lemma =>
          go_wp2_with fail
          exact ⟨⟨48, k + 1, rfl, by go_num, by omega, True.intro⟩, by simp [intOf]; omega⟩
    · have hlt' : ¬ (k : Int) < (l.length : Int) := by omega
      as_aux_lemma =>
        go_wp2_with fail
        go_ret
        exact ⟨⟨_, rfl⟩, rfl⟩
end Go.Proofs.YtmejmohambhaaaaGreatDoor
