/- THE CODE'S Name AND LabelName. Own work of the verifier. -/
import Derived.Test.YtgkdggcpplmnaaaGreatZAD
import Derived.Test.YtgkdggcpplmnaaaGreatShelf
import Derived.Lib.Strings
import Derived.Lib.DecodeN
import Derived.Lib.OthersKept
import Derived.Laws.RangeAny
namespace Go.Proofs.YtgkdggcpplmnaaaGreat.La
open Go.RowKit

theorem suf_any (l e : List UInt8) (hl : l.length ≤ 4611686018427387904) (w : World) :
    Calls Tryz.prog 65 #[.string ⟨l.toArray⟩, .string ⟨e.toArray⟩] w fun r w' => r = .returned (.bool (endsB l e)) ∧ w' = w := by
  have h := Tryz.strings_HasSuffix ⟨l.toArray⟩ ⟨e.toArray⟩ w (by show l.toArray.size ≤ _; rw [List.size_toArray]; omega)
  rw [← Lib.hasSuffix_of_drop] at h
  exact h
/-- Does a text begin so? -/
def preB (l p : List UInt8) : Bool := decide (p.length ≤ l.length) && (l.take p.length == p)
theorem pre_any (l p : List UInt8) (w : World) :
    Calls Tryz.prog 91 #[.string ⟨l.toArray⟩, .string ⟨p.toArray⟩] w fun r w' => r = .returned (.bool (preB l p)) ∧ w' = w := by
  have h := Tryz.strings_HasPrefix ⟨l.toArray⟩ ⟨p.toArray⟩ w
  rw [← Lib.hasPrefix_of_take] at h
  exact h
theorem cmp_ord : ∀ a b : List UInt8, Lib.compareBytes a b = ordE a b
  | [], [] => by rfl
  | [], b :: ys => by unfold ordE bltB; simp [Lib.compareBytes]
  | a :: xs, [] => by unfold ordE bltB; simp [Lib.compareBytes]
  | a :: xs, b :: ys => by
    rw [Lib.compareBytes]
    have ih := cmp_ord xs ys
    unfold ordE bltB at ih ⊢
    by_cases h1 : a < b
    · rw [if_pos h1, if_pos (decide_eq_true (List.cons_lt_cons_iff.2 (Or.inl h1)))]
    · rw [if_neg h1]
      by_cases h2 : b < a
      · rw [if_pos h2, if_neg, if_pos (decide_eq_true (List.cons_lt_cons_iff.2 (Or.inl h2)))]
        intro h
        rcases List.cons_lt_cons_iff.1 (of_decide_eq_true h) with k | ⟨k, _⟩
        · exact h1 k
        · exact h1 (by rw [k] at h2; exact absurd h2 (UInt8.lt_irrefl _))
      · rw [if_neg h2, ih]
        have e : a = b := UInt8.le_antisymm (UInt8.not_lt.1 h2) (UInt8.not_lt.1 h1)
        subst e
        simp
theorem cmp_any (a b : List UInt8) (w : World) :
    Calls Tryz.prog 81 #[.string ⟨a.toArray⟩, .string ⟨b.toArray⟩] w fun r w' => r = .returned (.int .i64 (ordE a b)) ∧ w' = w := by
  have h := Tryz.strings_Compare ⟨a.toArray⟩ ⟨b.toArray⟩ w
  rw [cmp_ord] at h
  exact h
set_option maxHeartbeats 1000000 in
theorem cname_any (l : List UInt8) (hl : l.length ≤ 4611686018427387904) (w : World) :
    Calls Tryz.prog 49 #[.string ⟨l.toArray⟩] w fun r w' => r = .returned (.bool (nameB l)) ∧ w' = w := by
  have H1 : Hid _ := fun W => suf_any l [95, 98, 117, 99, 107, 101, 116] hl W
  have H2 : Hid _ := fun W => suf_any l [95, 115, 117, 109] hl W
  have H3 : Hid _ := fun W => suf_any l [95, 99, 111, 117, 110, 116] hl W
  have HW : Hid _ := fun W => word_any l true hl W
  have hN : nameB l = (plainB true l && !(endsB l [95, 98, 117, 99, 107, 101, 116] || endsB l [95, 115, 117, 109] || endsB l [95, 99, 111, 117, 110, 116])) := by
    unfold nameB
    cases plainB true l <;> cases endsB l [95, 98, 117, 99, 107, 101, 116] <;> cases endsB l [95, 115, 117, 109] <;> cases endsB l [95, 99, 111, 117, 110, 116] <;> rfl
  rw [hN]
  clear hN
  unfold fv at HW
  generalize plainB true l = p at *
  generalize endsB l [95, 98, 117, 99, 107, 101, 116] = a at *
  generalize endsB l [95, 115, 117, 109] = b at *
  generalize endsB l [95, 99, 111, 117, 110, 116] = c at *
  cases p <;> cases a <;> cases b <;> cases c <;> as_aux_lemma =>
    go_enter Tryz.func49, Tryz.ntmps49
    go_wp2_with (first | (go_at_call 65; first | (with_reducible refine (H1.out _).mono ?_; rintro e1 w1 ⟨rfl, rfl⟩) | (with_reducible refine (H2.out _).mono ?_; rintro e1 w1 ⟨rfl, rfl⟩) | (with_reducible refine (H3.out _).mono ?_; rintro e1 w1 ⟨rfl, rfl⟩)) | (go_at_call 66; refine (HW.out _).mono ?_; rintro e1 w1 ⟨rfl, rfl⟩))
    go_ret
    exact ⟨rfl, rfl⟩
set_option maxHeartbeats 1000000 in
theorem clname_any (l : List UInt8) (hl : l.length ≤ 4611686018427387904) (w : World) :
    Calls Tryz.prog 69 #[.string ⟨l.toArray⟩] w fun r w' => r = .returned (.bool (lnameB l)) ∧ w' = w := by
  have H1 : Hid _ := fun W => pre_any l [95, 95] W
  have HW : Hid _ := fun W => word_any l false hl W
  have hN : lnameB l = (plainB false l && !((l == [108, 101]) || (l == [113, 117, 97, 110, 116, 105, 108, 101]) || preB l [95, 95])) := by
    unfold lnameB preB
    show _ = (plainB false l && !((l == [108, 101]) || (l == [113, 117, 97, 110, 116, 105, 108, 101]) || (decide (2 ≤ l.length) && (l.take 2 == [95, 95]))))
    cases plainB false l <;> cases (l == [108, 101]) <;> cases (l == [113, 117, 97, 110, 116, 105, 108, 101]) <;> cases (decide (2 ≤ l.length) && (l.take 2 == [95, 95])) <;> rfl
  rw [hN]
  clear hN
  unfold fv at HW
  generalize plainB false l = p at *
  generalize preB l [95, 95] = c at *
  cases h1 : (l == [108, 101]) <;> cases h2 : (l == [113, 117, 97, 110, 116, 105, 108, 101]) <;> cases p <;> cases c <;> as_aux_lemma =>
    go_enter Tryz.func69, Tryz.ntmps69
    go_wp2_with (first | (go_at_call 91; refine (H1.out _).mono ?_; rintro e1 w1 ⟨rfl, rfl⟩) | (go_at_call 66; refine (HW.out _).mono ?_; rintro e1 w1 ⟨rfl, rfl⟩))
    go_ret
    exact ⟨rfl, rfl⟩
end Go.Proofs.YtgkdggcpplmnaaaGreat.La
/- RIGHT UTF-8, as the language's own range over a text tells it. Own work of the verifier. -/
namespace Go.Proofs.YtgkdggcpplmnaaaGreat.La
open Go.RowKit

theorem get_bang (l : List UInt8) (k : Nat) : (ByteArray.mk l.toArray).get! k = l.getD k 0 := by
  show l.toArray.get!Internal k = _
  rw [List.getD_eq_getElem?_getD]
  simp [Array.get!Internal]
  rfl
theorem tl_iff (l : List UInt8) (k : Nat) : tlAt l k = decide (k < l.length ∧ (l.getD k 0).toNat / 64 = 2) := by
  unfold tlAt tlB
  have := (l.getD k 0).toNat_lt
  rw [Bool.eq_iff_iff]
  simp only [Bool.and_eq_true, decide_eq_true_eq]
  omega
/-- What a byte that is no letter's first one is told as. -/
def badAt (l : List UInt8) (i r : Nat) : Prop := r = 65533 ∧ ¬ (3 ≤ l.length - i ∧ (l.getD i 0).toNat = 239 ∧ (l.getD (i + 1) 0).toNat = 191 ∧ (l.getD (i + 2) 0).toNat = 189)
theorem fine_true {n c : Nat} (h : ¬ (n = 1 ∧ c < 128 ∨ n = 2 ∧ c < 2048 ∨ n = 3 ∧ c < 65536 ∨ 1114111 < c ∨ 55296 ≤ c ∧ c ≤ 57343)) : fine n c = true := decide_eq_true h
theorem fine_false {n c : Nat} (h : n = 1 ∧ c < 128 ∨ n = 2 ∧ c < 2048 ∨ n = 3 ∧ c < 65536 ∨ 1114111 < c ∨ 55296 ≤ c ∧ c ≤ 57343) : fine n c = false := decide_eq_false (fun k => k h)
set_option maxHeartbeats 4000000 in
theorem utf_step (l : List UInt8) (i r n : Nat) (h : i < l.length) (hd : Utf8.decode ⟨l.toArray⟩ i = (r, n)) :
    1 ≤ n ∧ i + n ≤ l.length ∧ r ≤ 1114111 ∧ (badAt l i r ∧ utfB (l.drop i) = false ∨ ¬ badAt l i r ∧ utfB (l.drop i) = utfB (l.drop (i + n))) := by
  rw [Lib.decode_at, get_bang, get_bang, get_bang, get_bang] at hd
  have e0 : l.getD i 0 = l[i] := get_at l i h
  have hsz : (ByteArray.mk l.toArray).size = l.length := by show l.toArray.size = _; simp
  rw [hsz] at hd
  have q0 := (l.getD i 0).toNat_lt
  have q1 := (l.getD (i + 1) 0).toNat_lt
  have q2 := (l.getD (i + 2) 0).toNat_lt
  have q3 := (l.getD (i + 3) 0).toNat_lt
  have t1 := tl_iff l (i + 1)
  have t2 := tl_iff l (i + 2)
  have t3 := tl_iff l (i + 3)
  have c1 := cont_step l (i + 1)
  have c2 := cont_step l (i + 2)
  have c3 := cont_step l (i + 3)
  unfold badAt
  have u0 := utf_low l i h
  have u1 := fun n c0 => utf_lead l i n c0 h
  have u2 := utf_none l i h
  rw [← e0] at u0 u1 u2
  clear e0
  generalize (l.getD i 0).toNat = b0 at *
  generalize (l.getD (i + 1) 0).toNat = b1 at *
  generalize (l.getD (i + 2) 0).toNat = b2 at *
  generalize (l.getD (i + 3) 0).toNat = b3 at *
  have bad : ∀ m, (65533, 1) = (r, n) → utfB (l.drop i) = false → ¬ (3 ≤ l.length - i ∧ b0 = 239 ∧ b1 = 191 ∧ b2 = 189) → 1 ≤ n ∧ i + n ≤ l.length ∧ r ≤ 1114111 ∧ ((r = 65533 ∧ ¬ (3 ≤ l.length - i ∧ b0 = 239 ∧ b1 = 191 ∧ b2 = 189)) ∧ utfB (l.drop i) = false ∨ ¬ (r = 65533 ∧ ¬ (3 ≤ l.length - i ∧ b0 = 239 ∧ b1 = 191 ∧ b2 = 189)) ∧ utfB (l.drop i) = m) := by
    intro m e1 e2 e3
    obtain ⟨rfl, rfl⟩ := Prod.mk.inj e1
    exact ⟨Nat.le_refl _, by omega, by omega, Or.inl ⟨⟨rfl, e3⟩, e2⟩⟩
  by_cases g1 : b0 < 128
  · rw [Lib.decodeN, if_pos g1] at hd
    obtain ⟨rfl, rfl⟩ := Prod.mk.inj hd
    exact ⟨Nat.le_refl _, by omega, by omega, Or.inr ⟨by omega, u0 g1⟩⟩
  by_cases g2 : b0 < 192
  · rw [Lib.decodeN, if_neg g1, if_neg (by omega), if_neg (by omega), if_neg (by omega)] at hd
    refine bad _ hd (u2 g1 ?_) (by omega)
    unfold lead
    rw [if_neg (by omega), if_neg (by omega), if_neg (by omega)]
  by_cases g3 : b0 < 224
  · have u := u1 1 (b0 - 192) g1 (by unfold lead; rw [if_pos (by omega)])
    rw [c1 0, t1] at u
    by_cases k1 : i + 1 < l.length ∧ b1 / 64 = 2
    · rw [decide_eq_true k1, if_pos rfl] at u
      simp only [cont] at u
      rw [Lib.decodeN, if_neg g1, if_pos (by omega)] at hd
      by_cases k2 : b0 % 32 * 64 + b1 % 64 ≥ 128
      · rw [if_pos k2] at hd
        obtain ⟨rfl, rfl⟩ := Prod.mk.inj hd
        rw [fine_true (by omega), Bool.true_and] at u
        exact ⟨by omega, by omega, by omega, Or.inr ⟨by omega, u⟩⟩
      · rw [if_neg k2] at hd
        rw [fine_false (by omega), Bool.false_and] at u
        exact bad _ hd u (by omega)
    · rw [decide_eq_false k1, if_neg (by decide)] at u
      rw [Lib.decodeN, if_neg g1, if_neg (by omega), if_neg (by omega), if_neg (by omega)] at hd
      exact bad _ hd u (by omega)
  by_cases g4 : b0 < 240
  · have u := u1 2 (b0 - 224) g1 (by unfold lead; rw [if_neg (by omega), if_pos (by omega)])
    rw [c1 1, t1] at u
    by_cases k1 : i + 1 < l.length ∧ b1 / 64 = 2
    · rw [decide_eq_true k1, if_pos rfl, c2 0, t2] at u
      by_cases k2 : i + 2 < l.length ∧ b2 / 64 = 2
      · rw [decide_eq_true k2, if_pos rfl] at u
        simp only [cont] at u
        rw [Lib.decodeN, if_neg g1, if_neg (by omega), if_pos (by omega)] at hd
        by_cases k3 : b0 % 16 * 4096 + b1 % 64 * 64 + b2 % 64 ≥ 2048 ∧ (b0 % 16 * 4096 + b1 % 64 * 64 + b2 % 64 < 55296 ∨ (57344 ≤ b0 % 16 * 4096 + b1 % 64 * 64 + b2 % 64 ∧ b0 % 16 * 4096 + b1 % 64 * 64 + b2 % 64 ≤ 1114111))
        · rw [if_pos k3] at hd
          obtain ⟨rfl, rfl⟩ := Prod.mk.inj hd
          rw [fine_true (by omega), Bool.true_and] at u
          exact ⟨by omega, by omega, by omega, Or.inr ⟨by omega, u⟩⟩
        · rw [if_neg k3] at hd
          rw [fine_false (by omega), Bool.false_and] at u
          exact bad _ hd u (by omega)
      · rw [decide_eq_false k2, if_neg (by decide)] at u
        rw [Lib.decodeN, if_neg g1, if_neg (by omega), if_neg (by omega), if_neg (by omega)] at hd
        exact bad _ hd u (by omega)
    · rw [decide_eq_false k1, if_neg (by decide)] at u
      rw [Lib.decodeN, if_neg g1, if_neg (by omega), if_neg (by omega), if_neg (by omega)] at hd
      exact bad _ hd u (by omega)
  by_cases g5 : b0 < 248
  · have u := u1 3 (b0 - 240) g1 (by unfold lead; rw [if_neg (by omega), if_neg (by omega), if_pos (by omega)])
    rw [c1 2, t1] at u
    by_cases k1 : i + 1 < l.length ∧ b1 / 64 = 2
    · rw [decide_eq_true k1, if_pos rfl, c2 1, t2] at u
      by_cases k2 : i + 2 < l.length ∧ b2 / 64 = 2
      · rw [decide_eq_true k2, if_pos rfl, c3 0, t3] at u
        by_cases k3 : i + 3 < l.length ∧ b3 / 64 = 2
        · rw [decide_eq_true k3, if_pos rfl] at u
          simp only [cont] at u
          rw [Lib.decodeN, if_neg g1, if_neg (by omega), if_neg (by omega), if_pos (by omega)] at hd
          by_cases k4 : b0 % 8 * 262144 + b1 % 64 * 4096 + b2 % 64 * 64 + b3 % 64 ≥ 65536 ∧ (b0 % 8 * 262144 + b1 % 64 * 4096 + b2 % 64 * 64 + b3 % 64 < 55296 ∨ (57344 ≤ b0 % 8 * 262144 + b1 % 64 * 4096 + b2 % 64 * 64 + b3 % 64 ∧ b0 % 8 * 262144 + b1 % 64 * 4096 + b2 % 64 * 64 + b3 % 64 ≤ 1114111))
          · rw [if_pos k4] at hd
            obtain ⟨rfl, rfl⟩ := Prod.mk.inj hd
            rw [fine_true (by omega), Bool.true_and] at u
            exact ⟨by omega, by omega, by omega, Or.inr ⟨by omega, u⟩⟩
          · rw [if_neg k4] at hd
            rw [fine_false (by omega), Bool.false_and] at u
            exact bad _ hd u (by omega)
        · rw [decide_eq_false k3, if_neg (by decide)] at u
          rw [Lib.decodeN, if_neg g1, if_neg (by omega), if_neg (by omega), if_neg (by omega)] at hd
          exact bad _ hd u (by omega)
      · rw [decide_eq_false k2, if_neg (by decide)] at u
        rw [Lib.decodeN, if_neg g1, if_neg (by omega), if_neg (by omega), if_neg (by omega)] at hd
        exact bad _ hd u (by omega)
    · rw [decide_eq_false k1, if_neg (by decide)] at u
      rw [Lib.decodeN, if_neg g1, if_neg (by omega), if_neg (by omega), if_neg (by omega)] at hd
      exact bad _ hd u (by omega)
  · rw [Lib.decodeN, if_neg g1, if_neg (by omega), if_neg (by omega), if_neg (by omega)] at hd
    refine bad _ hd (u2 g1 ?_) (by omega)
    unfold lead
    rw [if_neg (by omega), if_neg (by omega), if_neg (by omega)]
theorem pre_three (l : List UInt8) (i : Nat) (_h : i < l.length) : preB (l.drop i) [239, 191, 189] = decide (3 ≤ l.length - i ∧ (l.getD i 0).toNat = 239 ∧ (l.getD (i + 1) 0).toNat = 191 ∧ (l.getD (i + 2) 0).toNat = 189) := by
  unfold preB
  rw [List.length_drop]
  show (decide (3 ≤ l.length - i) && ((l.drop i).take 3 == [239, 191, 189])) = _
  by_cases h3 : 3 ≤ l.length - i
  · have g0 : i < l.length := by omega
    have g1 : i + 1 < l.length := by omega
    have g2 : i + 1 + 1 < l.length := by omega
    rw [List.drop_eq_getElem_cons g0, List.drop_eq_getElem_cons g1, List.drop_eq_getElem_cons g2, get_at l i g0, get_at l (i + 1) g1, get_at l (i + 2) g2]
    simp only [List.take_succ_cons, List.take_zero]
    rw [Bool.eq_iff_iff]
    simp only [Bool.and_eq_true, decide_eq_true_eq, beq_iff_eq, List.cons.injEq, and_true]
    have n1 : ∀ (x y : UInt8), x = y ↔ x.toNat = y.toNat := fun x y => ⟨fun e => by rw [e], fun e => UInt8.toNat_inj.1 e⟩
    rw [n1 l[i] 239, n1 l[i + 1] 191, n1 l[i + 1 + 1] 189]
    exact Iff.rfl
  · rw [decide_eq_false h3, decide_eq_false (by omega)]
    rfl
end Go.Proofs.YtgkdggcpplmnaaaGreat.La
/- THE CODE'S isRight, checkText, checkPlace, checkLabel. Own work of the verifier. -/
namespace Go.Proofs.YtgkdggcpplmnaaaGreat.La
open Go.RowKit

set_option maxRecDepth 100000 in
theorem below_iter (w : World) (s : ByteArray) (p : Nat) : Below w.heap.size w (w.iter s p) := (Below.refl _ _).alloc (Nat.le_refl _) _
set_option maxHeartbeats 4000000 in
set_option maxRecDepth 100000 in
theorem right_any (l : List UInt8) (hl : l.length ≤ 4611686018427387904) (w : World) :
    Calls Tryz.prog 68 #[.string ⟨l.toArray⟩] w fun r w' => r = .returned (.bool (utfB l)) ∧ Below w.heap.size w w' := by
  obtain ⟨R, hR⟩ : ∃ R, R = utfB l := ⟨_, rfl⟩
  rw [← hR]
  have HR0 : Hid (R = utfB (l.drop 0)) := by show R = _; rw [hR, List.drop_zero]
  clear hR
  go_enter Tryz.func68, Tryz.ntmps68
  go_wp2_with fail
  go_loopw [] (fun W => ∃ pos : Nat, pos ≤ l.length ∧ Hid (R = utfB (l.drop pos)) ∧ W = w.iter ⟨l.toArray⟩ pos) (fun W => l.length - W.iterPos w.heap.size)
  case atStart => exact ⟨0, by omega, HR0, rfl⟩
  case round =>
    obtain ⟨pos, hpos, HR, hw⟩ := hrel
    subst wr
    clear HR0
    have hsz : (ByteArray.mk l.toArray).size = l.length := by show l.toArray.size = _; simp
    by_cases hlt : pos < l.length
    · have hnx : ∀ ty, (Instr.next (.pointer (some ⟨w.heap.size, 0, none⟩)) true ty).run Tryz.prog (w.iter ⟨l.toArray⟩ pos) = _ := fun ty => run_next_any w ⟨l.toArray⟩ pos ty (by rw [hsz]; exact hlt)
      obtain ⟨r, n, hd⟩ : ∃ r n, Utf8.decode ⟨l.toArray⟩ pos = (r, n) := ⟨_, _, rfl⟩
      rw [hd] at hnx
      simp only at hnx
      obtain ⟨h1, h2, h3, h4⟩ := utf_step l pos r n hlt hd
      have hdr := drop_bytes l pos
      have HP : Hid _ := fun W => pre_any (l.drop pos) [239, 191, 189] W
      have hp := pre_three l pos hlt
      rcases h4 with ⟨hb, hu⟩ | ⟨hb, hu⟩
      · have hr : ((r : Int) == 65533) = true := by rw [beq_iff_eq]; have := hb.1; omega
        rw [decide_eq_false hb.2] at hp
        rw [hp] at HP
        have HF : Hid (R = false) := HR.out.trans hu
        clear HR hb hu hp hd hsz
        as_aux_lemma =>
          go_wp2_with (go_at_call 91; refine (HP.out _).mono ?_; rintro e1 w1 ⟨rfl, rfl⟩)
          go_ret
          exact ⟨congrArg (fun z : Bool => Ending.returned (Value.bool z)) HF.out.symm, below_iter _ _ _⟩
      · have HR' : Hid (R = utfB (l.drop (pos + n))) := HR.out.trans hu
        by_cases hr0 : r = 65533
        · have hr : ((r : Int) == 65533) = true := by rw [beq_iff_eq]; omega
          rw [decide_eq_true (Classical.byContradiction (fun k => hb ⟨hr0, k⟩))] at hp
          rw [hp] at HP
          clear HR hb hu hp hd hsz hr0
          as_aux_lemma =>
            go_wp2_with (go_at_call 91; refine (HP.out _).mono ?_; rintro e1 w1 ⟨rfl, rfl⟩)
            exact ⟨⟨pos + n, by omega, HR', rfl⟩, by rw [World.iterPos_iter, World.iterPos_iter]; omega⟩
        · have hr : ((r : Int) == 65533) = false := by rw [beq_eq_false_iff_ne]; omega
          clear HR hb hu hp hd hsz hr0 HP
          as_aux_lemma =>
            go_wp2_with fail
            exact ⟨⟨pos + n, by omega, HR', rfl⟩, by rw [World.iterPos_iter, World.iterPos_iter]; omega⟩
    · have hnx : ∀ ty, (Instr.next (.pointer (some ⟨w.heap.size, 0, none⟩)) true ty).run Tryz.prog (w.iter ⟨l.toArray⟩ pos) = _ := fun ty => run_next_end w ⟨l.toArray⟩ pos ty (by rw [hsz]; exact hlt)
      have HF : Hid (R = true) := by
        have := HR.out
        rw [List.drop_eq_nil_of_le (by omega), utfB] at this
        exact this
      clear HR hsz
      as_aux_lemma =>
        go_wp2_with fail
        go_ret
        exact ⟨congrArg (fun z : Bool => Ending.returned (Value.bool z)) HF.out.symm, below_iter _ _ _⟩
set_option maxRecDepth 100000 in
set_option maxHeartbeats 1000000 in
theorem ctext_any (l : List UInt8) (hl : l.length ≤ 4611686018427387904) (w : World) :
    Calls Tryz.prog 50 #[.string ⟨l.toArray⟩] w fun r w' => r = .returned (.int .i64 (txE l)) ∧ Below w.heap.size w w' := by
  have HU : Hid _ := fun W => right_any l hl W
  unfold txE
  by_cases h : 1024 < l.length
  · have h' : ¬ (l.length : Int) ≤ 1024 := by omega
    have h'' : (1024 : Int) < (l.length : Int) := by omega
    rw [if_pos h]
    as_aux_lemma =>
      go_enter Tryz.func50, Tryz.ntmps50
      go_wp2_with fail
      go_ret
      exact ⟨rfl, Below.refl _ _⟩
  · have h' : (l.length : Int) ≤ 1024 := by omega
    have h'' : ¬ (1024 : Int) < (l.length : Int) := by omega
    rw [if_neg h]
    cases hU : utfB l
    · rw [hU] at HU
      rw [if_neg (by decide)]
      as_aux_lemma =>
        go_enter Tryz.func50, Tryz.ntmps50
        go_wp2_with (go_at_call 68; refine (HU.out _).mono ?_; rintro e1 w1 ⟨rfl, hb⟩)
        go_ret
        exact ⟨rfl, hb⟩
    · rw [hU] at HU
      rw [if_pos rfl]
      as_aux_lemma =>
        go_enter Tryz.func50, Tryz.ntmps50
        go_wp2_with (go_at_call 68; refine (HU.out _).mono ?_; rintro e1 w1 ⟨rfl, hb⟩)
        go_ret
        exact ⟨rfl, hb⟩
/-- What is wrong with a name behind the labels ahead of it. -/
def plE (A : List Lb) (n : List UInt8) : Int := if A.length = 0 then 0 else bhE (A.getD (A.length - 1) ([], [])).1 n
set_option maxRecDepth 100000 in
set_option maxHeartbeats 1000000 in
theorem place_any (ao : Option Addr) (b o cap : Nat) (A : List Lb) (hao : A ≠ [] → ao = some ⟨b, o, none⟩) (hl : A.length ≤ 9223372036854775807) (n : List UInt8) (w : World) (hA : RowL w b o A) :
    Calls Tryz.prog 70 #[.slice ao A.length cap, .string ⟨n.toArray⟩] w fun r w' => r = .returned (.int .i64 (plE A n)) ∧ w' = w := by
  unfold plE
  by_cases h0 : A.length = 0
  · have e0 : ((A.length : Int) == 0) = true := by rw [beq_iff_eq]; omega
    rw [if_pos h0]
    clear h0
    as_aux_lemma =>
      go_enter Tryz.func70, Tryz.ntmps70
      go_wp2_with fail
      go_ret
      exact ⟨rfl, rfl⟩
  · have e0 : ((A.length : Int) == 0) = false := by rw [beq_eq_false_iff_ne]; omega
    rw [if_neg h0]
    have hne : A ≠ [] := fun e => h0 (by rw [e]; rfl)
    obtain rfl := hao hne
    obtain ⟨m, hm⟩ : ∃ m, m + 1 = A.length := ⟨A.length - 1, by omega⟩
    have hml : m < A.length := by omega
    have hw : IntKind.i64.wrap ((A.length : Int) - 1) = (m : Int) := by
      rw [IntKind.wrap_i64]; omega
    obtain ⟨g1, g2⟩ := hA m hml
    have hg : A.getD (A.length - 1) ([], []) = A[m] := by
      rw [show A.length - 1 = m from by omega, List.getD_eq_getElem?_getD, List.getElem?_eq_getElem hml]; rfl
    rw [hg]
    clear hg
    generalize A[m].1 = q at *
    generalize A[m].2 = q2 at *
    have hix := index_lab b o A.length cap m (m : Int) rfl hml
    unfold bhE
    by_cases hq : q = n
    · subst hq
      rw [if_pos rfl]
      clear hne h0 hm
      as_aux_lemma =>
        go_enter Tryz.func70, Tryz.ntmps70
        go_wp2_with fail
        go_ret
        exact ⟨rfl, rfl⟩
    · have hq' : (n == q) = false := by rw [beq_eq_false_iff_ne]; exact fun e => hq e.symm
      rw [if_neg hq]
      have hls := less_list n q
      cases hb : bltB n q
      · rw [hb] at hls
        rw [if_neg (by decide)]
        clear hne h0 hm hq hb
        as_aux_lemma =>
          go_enter Tryz.func70, Tryz.ntmps70
          go_wp2_with fail
          go_ret
          exact ⟨rfl, rfl⟩
      · rw [hb] at hls
        rw [if_pos rfl]
        clear hne h0 hm hq hb
        as_aux_lemma =>
          go_enter Tryz.func70, Tryz.ntmps70
          go_wp2_with fail
          go_ret
          exact ⟨rfl, rfl⟩
end Go.Proofs.YtgkdggcpplmnaaaGreat.La
