/- THE CODE'S isRight, checkText, checkPlace, checkLabel. Own work of the verifier. -/
import Derived.Test.YtmphajfhilpgeabCA4
import Derived.Test.YtmphajfhilpgeabLA12
namespace Go.Proofs.Ytmphajfhilpgeab
open Go.RowKit

theorem below_iter (w : World) (s : ByteArray) (p : Nat) : Below w.heap.size w (w.iter s p) := (Below.refl _ _).alloc (Nat.le_refl _) _
set_option maxHeartbeats 4000000 in
set_option maxRecDepth 100000 in
theorem right_any (l : List UInt8) (hl : l.length ≤ 4611686018427387904) (w : World) :
    Calls Try.prog 45 #[.string ⟨l.toArray⟩] w fun r w' => r = .returned (.bool (utfB l)) ∧ Below w.heap.size w w' := by
  obtain ⟨R, hR⟩ : ∃ R, R = utfB l := ⟨_, rfl⟩
  rw [← hR]
  have HR0 : Hid (R = utfB (l.drop 0)) := by show R = _; rw [hR, List.drop_zero]
  clear hR
  go_enter Try.func45, Try.ntmps45
  go_wp2_with fail
  go_loopw [] (fun W => ∃ pos : Nat, pos ≤ l.length ∧ Hid (R = utfB (l.drop pos)) ∧ W = w.iter ⟨l.toArray⟩ pos) (fun W => l.length - W.iterPos w.heap.size)
  case atStart => exact ⟨0, by omega, HR0, rfl⟩
  case round =>
    obtain ⟨pos, hpos, HR, hw⟩ := hrel
    subst wr
    clear HR0
    have hsz : (ByteArray.mk l.toArray).size = l.length := by show l.toArray.size = _; simp
    by_cases hlt : pos < l.length
    · have hnx : ∀ ty, (Instr.next (.pointer (some ⟨w.heap.size, 0, none⟩)) true ty).run Try.prog (w.iter ⟨l.toArray⟩ pos) = _ := fun ty => run_next_any w ⟨l.toArray⟩ pos ty (by rw [hsz]; exact hlt)
      obtain ⟨r, n, hd⟩ : ∃ r n, Utf8.decode ⟨l.toArray⟩ pos = (r, n) := ⟨_, _, rfl⟩
      rw [hd] at hnx
      simp only at hnx
      obtain ⟨h1, h2, h3, h4⟩ := utf_step l pos r n hlt hd
      have hdr := drop_bytes l pos
      have HP : Hid _ := fun W => pre_any (l.drop pos) [239, 191, 189] W
      have hp := pre_three l pos hlt
      rcases h4 with ⟨hb, hu⟩ | ⟨hb, hu⟩
      · have hr : ((r : Int) == 65533) = true := by rw [beq_iff_eq]; have := hb.1; omega
        rw [decide_eq_false hb.2] at hp
        rw [hp] at HP
        have HF : Hid (R = false) := HR.out.trans hu
        clear HR hb hu hp hd hsz
        as_aux_lemma =>
          go_wp2_with (go_at_call 43; refine (HP.out _).mono ?_; rintro e1 w1 ⟨rfl, rfl⟩)
          go_ret
          exact ⟨congrArg (fun z : Bool => Ending.returned (Value.bool z)) HF.out.symm, below_iter _ _ _⟩
      · have HR' : Hid (R = utfB (l.drop (pos + n))) := HR.out.trans hu
        by_cases hr0 : r = 65533
        · have hr : ((r : Int) == 65533) = true := by rw [beq_iff_eq]; omega
          rw [decide_eq_true (Classical.byContradiction (fun k => hb ⟨hr0, k⟩))] at hp
          rw [hp] at HP
          clear HR hb hu hp hd hsz hr0
          as_aux_lemma =>
            go_wp2_with (go_at_call 43; refine (HP.out _).mono ?_; rintro e1 w1 ⟨rfl, rfl⟩)
            exact ⟨⟨pos + n, by omega, HR', rfl⟩, by rw [World.iterPos_iter, World.iterPos_iter]; omega⟩
        · have hr : ((r : Int) == 65533) = false := by rw [beq_eq_false_iff_ne]; omega
          clear HR hb hu hp hd hsz hr0 HP
          as_aux_lemma =>
            go_wp2_with fail
            exact ⟨⟨pos + n, by omega, HR', rfl⟩, by rw [World.iterPos_iter, World.iterPos_iter]; omega⟩
    · have hnx : ∀ ty, (Instr.next (.pointer (some ⟨w.heap.size, 0, none⟩)) true ty).run Try.prog (w.iter ⟨l.toArray⟩ pos) = _ := fun ty => run_next_end w ⟨l.toArray⟩ pos ty (by rw [hsz]; exact hlt)
      have HF : Hid (R = true) := by
        have := HR.out
        rw [List.drop_eq_nil_of_le (by omega), utfB] at this
        exact this
      clear HR hsz
      as_aux_lemma =>
        go_wp2_with fail
        go_ret
        exact ⟨congrArg (fun z : Bool => Ending.returned (Value.bool z)) HF.out.symm, below_iter _ _ _⟩
set_option maxHeartbeats 1000000 in
theorem ctext_any (l : List UInt8) (hl : l.length ≤ 4611686018427387904) (w : World) :
    Calls Try.prog 22 #[.string ⟨l.toArray⟩] w fun r w' => r = .returned (.int .i64 (txE l)) ∧ Below w.heap.size w w' := by
  have HU : Hid _ := fun W => right_any l hl W
  unfold txE
  by_cases h : 1024 < l.length
  · have h' : ¬ (l.length : Int) ≤ 1024 := by omega
    have h'' : (1024 : Int) < (l.length : Int) := by omega
    rw [if_pos h]
    as_aux_lemma =>
      go_enter Try.func22, Try.ntmps22
      go_wp2_with fail
      go_ret
      exact ⟨rfl, Below.refl _ _⟩
  · have h' : (l.length : Int) ≤ 1024 := by omega
    have h'' : ¬ (1024 : Int) < (l.length : Int) := by omega
    rw [if_neg h]
    cases hU : utfB l
    · rw [hU] at HU
      rw [if_neg (by decide)]
      as_aux_lemma =>
        go_enter Try.func22, Try.ntmps22
        go_wp2_with (go_at_call 45; refine (HU.out _).mono ?_; rintro e1 w1 ⟨rfl, hb⟩)
        go_ret
        exact ⟨rfl, hb⟩
    · rw [hU] at HU
      rw [if_pos rfl]
      as_aux_lemma =>
        go_enter Try.func22, Try.ntmps22
        go_wp2_with (go_at_call 45; refine (HU.out _).mono ?_; rintro e1 w1 ⟨rfl, hb⟩)
        go_ret
        exact ⟨rfl, hb⟩
/-- What is wrong with a name behind the labels ahead of it. -/
def plE (A : List Lb) (n : List UInt8) : Int := if A.length = 0 then 0 else bhE (A.getD (A.length - 1) ([], [])).1 n
set_option maxHeartbeats 1000000 in
theorem place_any (ao : Option Addr) (b o cap : Nat) (A : List Lb) (hao : A ≠ [] → ao = some ⟨b, o, none⟩) (hl : A.length ≤ 9223372036854775807) (n : List UInt8) (w : World) (hA : RowL w b o A) :
    Calls Try.prog 46 #[.slice ao A.length cap, .string ⟨n.toArray⟩] w fun r w' => r = .returned (.int .i64 (plE A n)) ∧ w' = w := by
  unfold plE
  by_cases h0 : A.length = 0
  · have e0 : ((A.length : Int) == 0) = true := by rw [beq_iff_eq]; omega
    rw [if_pos h0]
    clear h0
    as_aux_lemma =>
      go_enter Try.func46, Try.ntmps46
      go_wp2_with fail
      go_ret
      exact ⟨rfl, rfl⟩
  · have e0 : ((A.length : Int) == 0) = false := by rw [beq_eq_false_iff_ne]; omega
    rw [if_neg h0]
    have hne : A ≠ [] := fun e => h0 (by rw [e]; rfl)
    obtain rfl := hao hne
    obtain ⟨m, hm⟩ : ∃ m, m + 1 = A.length := ⟨A.length - 1, by omega⟩
    have hml : m < A.length := by omega
    have hw : IntKind.i64.wrap ((A.length : Int) - 1) = (m : Int) := by
      rw [IntKind.wrap_i64]; omega
    obtain ⟨g1, g2⟩ := hA m hml
    have hg : A.getD (A.length - 1) ([], []) = A[m] := by
      rw [show A.length - 1 = m from by omega, List.getD_eq_getElem?_getD, List.getElem?_eq_getElem hml]; rfl
    rw [hg]
    clear hg
    generalize A[m].1 = q at *
    generalize A[m].2 = q2 at *
    have hix := index_lab b o A.length cap m (m : Int) rfl hml
    unfold bhE
    by_cases hq : q = n
    · subst hq
      rw [if_pos rfl]
      clear hne h0 hm
      as_aux_lemma =>
        go_enter Try.func46, Try.ntmps46
        go_wp2_with fail
        go_ret
        exact ⟨rfl, rfl⟩
    · have hq' : (n == q) = false := by rw [beq_eq_false_iff_ne]; exact fun e => hq e.symm
      rw [if_neg hq]
      have hls := less_list n q
      cases hb : bltB n q
      · rw [hb] at hls
        rw [if_neg (by decide)]
        clear hne h0 hm hq hb
        as_aux_lemma =>
          go_enter Try.func46, Try.ntmps46
          go_wp2_with fail
          go_ret
          exact ⟨rfl, rfl⟩
      · rw [hb] at hls
        rw [if_pos rfl]
        clear hne h0 hm hq hb
        as_aux_lemma =>
          go_enter Try.func46, Try.ntmps46
          go_wp2_with fail
          go_ret
          exact ⟨rfl, rfl⟩
end Go.Proofs.Ytmphajfhilpgeab
