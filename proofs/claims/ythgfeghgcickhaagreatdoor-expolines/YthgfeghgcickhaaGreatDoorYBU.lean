/- HOW MANY LINES A TEXT HAS. Own work of the verifier. -/
import Derived.Test.YthgfeghgcickhaaGreatDoorYBT
namespace Go.Proofs.YthgfeghgcickhaaGreatDoor
open Go.RowKit Me

/-- How many line feeds a text has, if no line is empty; pv: does a line begin? -/
def lnF : Bool → List UInt8 → Option Nat
  | _, [] => some 0
  | pv, b :: r => if b = 10 then (if pv then none else (lnF true r).map (· + 1)) else lnF false r
/-- A line: something without a line feed, and one. -/
def Lno (l : List UInt8) : Prop := ∃ t, l = t ++ [10] ∧ t ≠ [] ∧ ∀ b ∈ t, b ≠ 10
theorem lnF_run : ∀ (t : List UInt8) (pv : Bool) (r : List UInt8), (∀ b ∈ t, b ≠ 10) → (t = [] → pv = false) → lnF pv (t ++ 10 :: r) = (lnF true r).map (· + 1)
  | [], pv, r, _, h => by
    rw [List.nil_append, lnF, h rfl]
    simp
  | b :: t, pv, r, h, _ => by
    rw [List.cons_append, lnF, if_neg (h b List.mem_cons_self)]
    exact lnF_run t false r (fun c hc => h c (List.mem_cons_of_mem _ hc)) (fun _ => rfl)
theorem lnF_all : ∀ A : List (List UInt8), (∀ l ∈ A, Lno l) → lnF true A.flatten = some A.length
  | [], _ => rfl
  | l :: r, h => by
    obtain ⟨t, rfl, h1, h2⟩ := h l List.mem_cons_self
    have ih := lnF_all r (fun x hx => h x (List.mem_cons_of_mem _ hx))
    rw [List.flatten_cons, List.append_assoc]
    show lnF true (t ++ 10 :: r.flatten) = _
    rw [lnF_run t true _ h2 (fun e => absurd e h1), ih]
    rfl
theorem last_all {A : List (List UInt8)} (h : ∀ l ∈ A, Lno l) (hne : A ≠ []) : ∃ u, A.flatten = u ++ [10] := by
  obtain ⟨B, l, rfl⟩ : ∃ B l, A = B ++ [l] := ⟨A.dropLast, A.getLast hne, (List.dropLast_concat_getLast hne).symm⟩
  obtain ⟨t, rfl, -, -⟩ := h l (by simp)
  exact ⟨B.flatten ++ t, by simp⟩
/-- Does a line begin at i? -/
def pvB (L : List UInt8) (i : Nat) : Bool := decide (i = 0) || decide (L.getD (i - 1) 0 = 10)
theorem lnF_drop (L : List UInt8) (i : Nat) (pv : Bool) (h : i < L.length) : lnF pv (L.drop i) = if L[i] = 10 then (if pv then none else (lnF true (L.drop (i + 1))).map (· + 1)) else lnF false (L.drop (i + 1)) := by
  rw [List.drop_eq_getElem_cons h, lnF]
theorem pvB_succ (L : List UInt8) (i : Nat) (h : i < L.length) : pvB L (i + 1) = decide (L[i] = 10) := by
  unfold pvB
  rw [Nat.add_sub_cancel, List.getD_eq_getElem?_getD, List.getElem?_eq_getElem h]
  simp
theorem byte_eq (b : UInt8) : ((b.toNat : Int) == 10) = decide (b = 10) := by
  by_cases h : b = 10
  · subst h; rfl
  · rw [decide_eq_false h, beq_eq_false_iff_ne]
    intro e
    have e2 : b.toNat = 10 := by omega
    exact h (UInt8.toNat_inj.1 e2)
set_option maxRecDepth 100000 in
set_option maxHeartbeats 1000000 in
theorem lines_any (g cap : Nat) (L : List UInt8) (K : Nat) (hL : L.length ≤ 4611686018427387904) (w : World) (hc : ∀ i (h : i < L.length), w.cell? ⟨g, i, none⟩ = some (.int .u8 (L[i].toNat : Int))) (hK : lnF true L = some K) (hu : ∃ u, L = u ++ [10]) :
    Calls Tryz.prog 7 #[.slice (some ⟨g, 0, none⟩) L.length cap] w fun e w' => e = .returned (.int .i64 (K : Int)) ∧ Below w.heap.size w w' := by
  obtain ⟨U, hU⟩ := hu
  have hpos : 0 < L.length := by rw [hU]; simp
  have hlast : w.cell? ⟨g, L.length - 1, none⟩ = some (.int .u8 10) := by
    have h1 := hc (L.length - 1) (by omega)
    have e : L[L.length - 1] = 10 := by
      have : L[L.length - 1]? = some 10 := by rw [hU]; simp
      rw [List.getElem?_eq_getElem (by omega)] at this
      exact Option.some.inj this
    rw [e] at h1
    exact h1
  obtain ⟨M, hM⟩ : ∃ M : Nat, L.length = M + 1 := ⟨L.length - 1, by omega⟩
  have hlast' : w.cell? ⟨g, M, none⟩ = some (.int .u8 10) := by rw [hM, Nat.add_sub_cancel] at hlast; exact hlast
  have HLast := hid_of hlast'
  have HM := hid_of hM
  have HC := hid_of hc
  have HK0 : Hid (lnF (pvB L 0) (L.drop 0) = some K) := hK
  have hKl : K ≤ L.length := by
    have key : ∀ (l : List UInt8) (pv : Bool) (k : Nat), lnF pv l = some k → k ≤ l.length := by
      intro l
      induction l with
      | nil => intro pv k h; simp [lnF] at h; omega
      | cons b r ih =>
        intro pv k h
        rw [lnF] at h
        split at h
        · split at h
          · cases h
          · obtain ⟨m, hm, rfl⟩ := Option.map_eq_some_iff.1 h
            have := ih _ _ hm
            rw [List.length_cons]
            omega
        · have := ih _ _ h
          rw [List.length_cons]
          omega
    exact key _ _ _ hK
  clear hU hlast hlast' hc hK
  go_enter Tryz.func7, Tryz.ntmps7
  go_wp2_with fail
  go_loopw [3, 7] (fun s a W => ∃ (i n m : Nat), i ≤ L.length ∧ a = .int .i64 (i : Int) ∧ s = .int .i64 (n : Int) ∧ n + m = K ∧ Hid (lnF (pvB L i) (L.drop i) = some m) ∧ W = w) (fun _ a _ => L.length - (intOf a).toNat)
  case atStart => exact ⟨0, 0, K, by omega, rfl, rfl, by omega, HK0, rfl⟩
  case round =>
    clear HK0
    obtain ⟨i, n, m, hi, rfl, rfl, hnm, HF, hwr⟩ := hrel
    obtain rfl : w = wr := hwr.symm
    clear hwr
    by_cases hlt : i < L.length
    · have hlt' : (i : Int) < (L.length : Int) := by omega
      have hc := HC.out i hlt
      have hF := HF.out
      rw [lnF_drop L i _ hlt] at hF
      have hps := pvB_succ L i hlt
      by_cases hb : L[i] = 10
      · rw [if_pos hb] at hF
        rw [hb] at hc hps
        cases hpv : pvB L i
        · rw [hpv] at hF
          simp only [Bool.false_eq_true, if_false] at hF
          obtain ⟨m', hm', rfl⟩ := Option.map_eq_some_iff.1 hF
          have HN : Hid (lnF (pvB L (i + 1)) (L.drop (i + 1)) = some m') := by
            show _ = _
            rw [hps]; exact hm'
          have h0 : i ≠ 0 := by
            intro e
            rw [e] at hpv
            simp [pvB] at hpv
          obtain ⟨j, hj⟩ : ∃ j, i = j + 1 := ⟨i - 1, by omega⟩
          have hcj := HC.out j (by omega)
          have hbj : ¬ L[j] = 10 := by
            intro e
            have := pvB_succ L j (by omega)
            rw [← hj, hpv, e] at this
            simp at this
          have hbj' : (((L[j]'(by omega)).toNat : Int) == 10) = false := by rw [byte_eq, decide_eq_false hbj]
          have hw1 : IntKind.i64.wrap ((i : Int) - 1) = (j : Int) := by rw [IntKind.wrap_i64]; omega
          have h0' : ((i : Int) == 0) = false := by rw [beq_eq_false_iff_ne]; omega
          have hjl : (j : Int) < (L.length : Int) := by omega
          have hwn : IntKind.i64.wrap ((n : Int) + 1) = ((n + 1 : Nat) : Int) := by rw [IntKind.wrap_i64]; omega
          generalize L[j]'(by omega) = bj at *
          clear HF hF hps hpv hm' hbj hj hb h0
          go_wp2_with fail
          exact ⟨⟨i + 1, n + 1, m', by omega, by go_num, by go_num, by omega, HN, trivial⟩, by simp [intOf]; omega⟩
        · rw [hpv] at hF
          simp at hF
      · rw [if_neg hb] at hF
        have HN : Hid (lnF (pvB L (i + 1)) (L.drop (i + 1)) = some m) := by
          show _ = _
          rw [hps, decide_eq_false hb]; exact hF
        have hb' : ((L[i].toNat : Int) == 10) = false := by rw [byte_eq, decide_eq_false hb]
        generalize L[i] = bi at *
        clear HF hF hps hb
        go_wp2_with fail
        exact ⟨⟨i + 1, n, m, by omega, by go_num, rfl, hnm, HN, trivial⟩, by simp [intOf]; omega⟩
    · have hlt' : ¬ (i : Int) < (L.length : Int) := by omega
      have hm : m = 0 := by
        have := HF.out
        rw [List.drop_eq_nil_of_le (by omega), lnF] at this
        simpa using this.symm
      obtain rfl : n = K := by omega
      have hl := HLast.out
      have hM := HM.out
      have h0' : ((L.length : Int) == 0) = false := by rw [beq_eq_false_iff_ne]; omega
      have hw1 : IntKind.i64.wrap ((L.length : Int) - 1) = (M : Int) := by rw [IntKind.wrap_i64]; omega
      have hMl : (M : Int) < (L.length : Int) := by omega
      clear HF hm hM
      go_wp2_with fail
      go_ret
      exact ⟨rfl, Below.refl _ _⟩
end Go.Proofs.YthgfeghgcickhaaGreatDoor
/- THE LINES OF A SNAPSHOT THAT MAY BE: none is empty, how many there are. Own work of the verifier. -/
namespace Go.Proofs.YthgfeghgcickhaaGreatDoor
open Go.RowKit Me

/-- No line feed. -/
def Nf (l : List UInt8) : Prop := ∀ b ∈ l, b ≠ 10
theorem Nf.app {a b : List UInt8} (h : Nf a) (k : Nf b) : Nf (a ++ b) := fun c hc => (List.mem_append.1 hc).elim (h c) (k c)
theorem Nf.cons {a : UInt8} {b : List UInt8} (h : a ≠ 10) (k : Nf b) : Nf (a :: b) := fun c hc => (List.mem_cons.1 hc).elim (fun e => by rw [e]; exact h) (k c)
theorem Nf.nil : Nf [] := fun _ h => by cases h
theorem Hi.nf {l : List UInt8} (h : Hi l) : Nf l := fun b hb e => by
  have := h b hb
  rw [e] at this
  exact absurd this (by decide)
theorem nf_lit (l : List UInt8) (h : l.all (fun b => b != 10) = true) : Nf l := fun b hb => by
  have := List.all_eq_true.1 h b hb
  simpa using this
theorem gd_ne {c : Bool} {n : Nat} (h : La.gd c n = true) : n ≠ 10 := by
  intro e
  rw [e] at h
  cases c <;> exact absurd h (by decide)
theorem nf_plain {c : Bool} {l : List UInt8} (h : La.plainB c l = true) : Nf l := fun b hb e => gd_ne (row_gd c l (plain_z h).2.2 b hb) (by rw [e]; rfl)
theorem nf_esc (q : Bool) : ∀ l : List UInt8, Nf (La.escL q l)
  | [] => Nf.nil
  | b :: r => by
    rw [La.escL]
    refine Nf.app ?_ (nf_esc q r)
    unfold La.esc1
    split
    · rename_i h
      refine Nf.cons (by decide) (Nf.cons (fun e => ?_) Nf.nil)
      subst e
      rcases h with h | ⟨_, h⟩ <;> exact absurd h (by decide)
    · split
      · exact nf_lit _ (by decide)
      · rename_i h
        exact Nf.cons (fun e => h (by rw [e]; rfl)) Nf.nil
theorem nf_lb {a : La.Lb} (h : Nf a.1) : Nf (La.lbT a) := by
  unfold La.lbT
  exact ((h.app (nf_lit _ (by decide))).app (nf_esc _ _)).app (nf_lit _ (by decide))
theorem nf_pr : ∀ (L : List La.Lb) (f : Bool), (∀ a ∈ L, Nf a.1) → Nf (La.prB f L)
  | [], _, _ => by rw [La.prB]; exact Nf.nil
  | a :: r, f, h => by
    rw [La.prB]
    refine Nf.cons (by cases f <;> decide) ((nf_lb (h a List.mem_cons_self)).app (nf_pr r false (fun x hx => h x (List.mem_cons_of_mem _ hx))))
theorem nf_print {n : List UInt8} {L : List La.Lb} (h : Nf n) (k : ∀ a ∈ L, Nf a.1) : Nf (La.printT n L) := by
  unfold La.printT
  refine (h.app (nf_pr L true k)).app ?_
  split
  · exact Nf.nil
  · exact nf_lit _ (by decide)
theorem lno_ln {S : List (List UInt8)} (h : Nf S.flatten) (k : S.flatten ≠ []) : Lno (lnT S) := ⟨S.flatten, rfl, k, h⟩
theorem lno_se {d : La.Ds} (hd : DOk d) (en : List UInt8) (M : List La.Lb) (nu : List UInt8) (he : Nf en) (hM : ∀ a ∈ M, Nf a.1) (hn : Nf nu) : Lno (seT d en M nu) := by
  refine lno_ln ?_ ?_
  · simp only [List.flatten_cons, List.flatten_nil, List.append_nil]
    refine (nf_print ((nf_plain hd.n).app he) (fun a ha => ?_)).app ((nf_lit _ (by decide)).app hn)
    rcases List.mem_append.1 ha with q | q
    · exact nf_plain (hd.v a q).1
    · exact hM a q
  · simp
theorem nf_one {n v : List UInt8} (h : Nf n) : ∀ a ∈ ([(n, v)] : List La.Lb), Nf a.1 := fun a ha => by rw [List.mem_singleton.1 ha]; exact h
theorem nf_none : ∀ a ∈ ([] : List La.Lb), Nf a.1 := fun a ha => by cases ha
theorem lno_bk {d : La.Ds} (hd : DOk d) (P : Nat) : ∀ (C : List Cn) (a : Nat), ∀ l ∈ bkL d P a C, Lno l
  | [], _, l, hl => by cases hl
  | c :: r, a, l, hl => by
    rw [bkL] at hl
    rcases List.mem_cons.1 hl with e | e
    · rw [e]; exact lno_se hd _ _ _ (nf_lit _ (by decide)) (nf_one (nf_lit _ (by decide))) (hi_dec _).nf
    · exact lno_bk hd P r _ l e
theorem lno_vl {P : Nat} {x : Vl} (hd : DOk x.d) : ∀ l ∈ vlL P x, Lno l := by
  intro l hl
  unfold vlL at hl
  split at hl
  · rw [ctL, List.mem_singleton] at hl
    rw [hl]; exact lno_se hd _ _ _ Nf.nil nf_none (hi_itoa _).nf
  · split at hl
    · rw [hgL] at hl
      rcases List.mem_append.1 hl with q | q
      · exact lno_bk hd P _ _ l q
      · simp only [List.mem_cons, List.mem_nil_iff, or_false] at q
        rcases q with e | e | e
        · rw [e]; exact lno_se hd _ _ _ (nf_lit _ (by decide)) (nf_one (nf_lit _ (by decide))) (hi_dec _).nf
        · rw [e]; exact lno_se hd _ _ _ (nf_lit _ (by decide)) nf_none (hi_itoa _).nf
        · rw [e]; exact lno_se hd _ _ _ (nf_lit _ (by decide)) nf_none (hi_dec _).nf
    · rw [smL] at hl
      rcases List.mem_append.1 hl with q | q
      · split at q
        · simp only [List.mem_cons, List.mem_nil_iff, or_false] at q
          rcases q with e | e
          · rw [e]; exact lno_se hd _ _ _ Nf.nil (nf_one (nf_lit _ (by decide))) (hi_text _).nf
          · rw [e]; exact lno_se hd _ _ _ Nf.nil (nf_one (nf_lit _ (by decide))) (hi_text _).nf
        · cases q
      · simp only [List.mem_cons, List.mem_nil_iff, or_false] at q
        rcases q with e | e
        · rw [e]; exact lno_se hd _ _ _ (nf_lit _ (by decide)) nf_none (hi_text _).nf
        · rw [e]; exact lno_se hd _ _ _ (nf_lit _ (by decide)) nf_none (hi_dec _).nf
theorem nf_kd (k : Int) : Nf (kdT k) := by unfold kdT; split <;> (try split) <;> exact nf_lit _ (by decide)
theorem lno_vs (P : Nat) : ∀ (L : List Vl) (q : Option (List UInt8)), (∀ x ∈ L, DOk x.d) → ∀ l ∈ vsL (vlL P) q L, Lno l
  | [], _, _, l, hl => by cases hl
  | x :: r, q, h, l, hl => by
    have hd := h x List.mem_cons_self
    rw [vsL] at hl
    rcases List.mem_append.1 hl with k | k
    · split at k
      · cases k
      · simp only [List.mem_cons, List.mem_nil_iff, or_false] at k
        rcases k with e | e
        · rw [e]
          refine lno_ln ?_ (by simp)
          simp only [List.flatten_cons, List.flatten_nil, List.append_nil]
          exact (nf_lit _ (by decide)).app ((nf_plain hd.n).app ((nf_lit _ (by decide)).app (nf_esc _ _)))
        · rw [e]
          refine lno_ln ?_ (by simp)
          simp only [List.flatten_cons, List.flatten_nil, List.append_nil]
          exact (nf_lit _ (by decide)).app ((nf_plain hd.n).app ((nf_lit _ (by decide)).app (nf_kd _)))
    · rcases List.mem_append.1 k with k | k
      · exact lno_vl hd l k
      · exact lno_vs P r _ (fun y hy => h y (List.mem_cons_of_mem _ hy)) l k
/-- NO LINE IS EMPTY. -/
theorem lno_ex {s : Sn} (h : (chkS s).1 = 0) : ∀ l ∈ exL (vlL s.p.toNat) s, Lno l := by
  intro l hl
  unfold exL at hl
  rcases List.mem_append.1 hl with k | k
  · simp only [List.mem_cons, List.mem_nil_iff, or_false] at k
    rcases k with e | e
    · rw [e]
      refine lno_ln ?_ (by simp)
      simp only [List.flatten_cons, List.flatten_nil, List.append_nil]
      exact (nf_lit _ (by decide)).app (hi_itoa _).nf
    · rw [e]
      refine lno_ln ?_ (by simp)
      simp only [List.flatten_cons, List.flatten_nil, List.append_nil]
      exact (nf_lit _ (by decide)).app (hi_dec _).nf
  · exact lno_vs _ _ _ (fun x hx => chkD_z (chkS_z h x hx).1) l k
/-- How many lines a value has. -/
def cnV (x : Vl) : Nat := if x.d.kind = 1 then 1 else if x.d.kind = 2 then x.cs.length + 3 else if 0 < x.n then 4 else 2
theorem bk_len (d : La.Ds) (P : Nat) : ∀ (C : List Cn) (a : Nat), (bkL d P a C).length = C.length
  | [], _ => rfl
  | c :: r, a => by rw [bkL, List.length_cons, List.length_cons, bk_len d P r]
theorem vl_len (P : Nat) (x : Vl) : (vlL P x).length = cnV x := by
  unfold vlL cnV
  split
  · rfl
  · split
    · rw [hgL, List.length_append, bk_len]; rfl
    · rw [smL]
      split <;> rfl
/-- .. how many those of values, up to a number. -/
def cnS (L : List Vl) : Nat → Nat
  | 0 => 2
  | i + 1 => cnS L i + (if pvN L i = (L[i]?).map (·.d.name) then 0 else 2) + ((L[i]?).map cnV).getD 0
theorem vs_len (P : Nat) (L : List Vl) : ∀ n i, L.length - i = n → i ≤ L.length → cnS L i + (vsL (vlL P) (pvN L i) (L.drop i)).length = cnS L L.length := by
  intro n
  induction n with
  | zero =>
    intro i hn hi
    obtain rfl : i = L.length := by omega
    rw [List.drop_eq_nil_of_le (Nat.le_refl _)]
    rfl
  | succ n ih =>
    intro i hn hi
    have hlt : i < L.length := by omega
    rw [vsL_drop _ L i hlt, List.length_append, List.length_append, vl_len, ← ih (i + 1) (by omega) (by omega), cnS, List.getElem?_eq_getElem hlt]
    simp only [Option.map_some, Option.getD_some]
    split
    · simp only [List.length_nil]; omega
    · simp only [List.length_cons, List.length_nil]; omega
theorem ex_len (s : Sn) : (exL (vlL s.p.toNat) s).length = cnS s.vs s.vs.length := by
  have := vs_len s.p.toNat s.vs _ 0 rfl (Nat.zero_le _)
  unfold exL
  rw [List.length_append, ← this]
  rfl
end Go.Proofs.YthgfeghgcickhaaGreatDoor
/- ExpoLines: THE WALK. Own work of the verifier. -/
namespace Go.Proofs.YthgfeghgcickhaaGreatDoor
open Go.RowKit Me

theorem cnS_le (L : List Vl) (h : ∀ x ∈ L, x.cs.length ≤ 8796093022208) : ∀ i, i ≤ L.length → cnS L i ≤ 2 + i * 8796093022214
  | 0, _ => by rw [cnS]; omega
  | i + 1, hi => by
    have ih := cnS_le L h i (by omega)
    have hlt : i < L.length := by omega
    have hc := h L[i] (List.getElem_mem hlt)
    rw [cnS, List.getElem?_eq_getElem hlt]
    simp only [Option.map_some, Option.getD_some]
    have hv : cnV L[i] ≤ 8796093022212 := by
      unfold cnV
      split
      · omega
      · split
        · omega
        · split <;> omega
    split <;> omega
theorem cnS_succ (L : List Vl) (i : Nat) (h : i < L.length) : cnS L (i + 1) = cnS L i + (if pvN L i = some L[i].d.name then 0 else 2) + cnV L[i] := by
  rw [cnS, List.getElem?_eq_getElem h]
  rfl
set_option maxRecDepth 100000 in
set_option maxHeartbeats 2000000 in
theorem lines_walk (s : Sn) (v : Value) (hS : SnW s) (w : World) (hv : SnAt w s v) (ht : Wi.Tab w) (hg : Rl.Glob2 w) :
    Calls Tryz.prog 4 #[v] w fun e w' => e = .returned (.bool true) ∧ Below w.heap.size w w' := by
  have hv0 := hv
  obtain ⟨uv, rfl, hu⟩ := hv
  obtain ⟨ao, b, o, cap, rfl, hao, -, -, hr⟩ := hu.open
  obtain ⟨W0, hW0⟩ : ∃ W0, W0 = w.alloc (.cells #[.int .i64 s.p, .slice ao s.vs.length cap, .int .u64 (s.r : Int)] 26) := ⟨_, rfl⟩
  have hN0 : W0.heap[w.heap.size]? = some (.cells #[.int .i64 s.p, .slice ao s.vs.length cap, .int .u64 (s.r : Int)] 26) := by rw [hW0]; exact new_1 w _
  have hb0 : Below w.heap.size w W0 := by rw [hW0]; exact bel1 w _
  have HAw : La.HidC _ _ _ _ _ := awake_any W0 (ht.below hb0)
  have HWr : Hid (∀ W, Below w.heap.size w W → _) := fun W hb => write_any (vlL s.p.toNat) s _ hS W (hv0.below hb) (ht.below hb) (wv_all hS (ht.below hb) (hg.below hb))
  have HBx : Hid (∀ W, Below W0.heap.size W0 W → W.cell? ⟨w.heap.size, 0, none⟩ = some (.int .i64 s.p) ∧ W.cell? ⟨w.heap.size, 1, none⟩ = some (.slice ao s.vs.length cap) ∧ W.cell? ⟨w.heap.size, 2, none⟩ = some (.int .u64 (s.r : Int))) := fun W hb => by
    have := (hb.block _ (Array.getElem?_eq_some_iff.1 hN0).1).trans hN0
    refine ⟨?_, ?_, ?_⟩ <;> simp [World.cell?, this]
  have HRw := hid_of hr
  have HVs := hid_of hS.vs
  have HW0 := hid_of hW0
  have HB0 := hid_of hb0
  clear hv0 hu ht hg hS hr hN0 hb0 hW0
  go_enter Tryz.func4, Tryz.ntmps4
  go_upto_region 1 with fail
  rw [← HW0.out]
  clear HW0
  go_wp2_with fail
  refine (HAw.out).mono ?_
  rintro e w2 ⟨rfl, hb2⟩
  obtain ⟨c0, c1, c2⟩ := HBx.out w2 hb2
  have D2 : La.HidC _ _ _ _ _ := HWr.out w2 (bt HB0.out hb2)
  have HB2 := hid_of hb2
  clear HAw HWr hb2
  go_wp2_with fail
  refine (D2.out).mono ?_
  rintro e w3 ⟨hq, hb3⟩
  obtain ⟨c0, c1, c2⟩ := HBx.out w3 (bt HB2.out hb3)
  have HB3 := hid_of (bt HB2.out hb3)
  have HE : Hid (Below w.heap.size w w3) := bt HB0.out HB3.out
  clear D2 hb3 HB2 HB0
  rcases hq with ⟨hz, rfl⟩ | ⟨-, -, rfl⟩ | ⟨hc, hok, ta, tc, rfl, ho⟩
  · have hz' : ((chkS s).1 != 0) = true := by rw [bne_iff_ne]; exact hz
    generalize (chkS s).1 = z at *
    clear hz
    go_wp2_with fail
    go_ret
    exact ⟨rfl, HE.out⟩
  · go_wp2_with fail
    go_ret
    exact ⟨rfl, HE.out⟩
  · have hex := lno_ex hc
    have hlen := ex_len s
    obtain ⟨_, hl256⟩ := chkS_p hc
    have hF : fitB (exL (vlL s.p.toNat) s).flatten = true := by
      rcases (wrL_all _ _).1 hok with k | k
      · exact absurd k (by simp [exL])
      · simpa using k
    have hfl := fit_len hF
    have hK := lnF_all _ hex
    have hU := last_all hex (by simp [exL])
    rw [hlen] at hK
    have HDo : Hid (∀ x ∈ s.vs, DOk x.d) := fun x hx => chkD_z (chkS_z hc x hx).1
    clear hc hok hex hlen hF
    generalize (exL (vlL s.p.toNat) s).flatten = R at *
    have hRp : R ≠ [] := by obtain ⟨U, rfl⟩ := hU; simp
    obtain ⟨tg, rfl, htc⟩ : ∃ tg, ta = some ⟨tg, 0, none⟩ ∧ (∀ i (h : i < R.length), w3.cell? ⟨tg, i, none⟩ = some (.int .u8 (R[i].toNat : Int))) := by
      rcases ho.2 with ⟨k, k2⟩ | ⟨g, c, cur, k, -⟩
      · exact absurd (List.length_eq_zero_iff.1 k2) hRp
      · injection k with k1 k3 k4
        subst k1
        refine ⟨g, rfl, fun i hi => ?_⟩
        have := ho.cells (g := g) rfl i (.int .u8 (R[i].toNat : Int)) (by simp [Lib.byteCells, hi])
        rw [Addr.add_lit, Nat.zero_add] at this
        exact this
    have HLn : Hid (∀ W, Below w3.heap.size w3 W → Calls Tryz.prog 7 #[.slice (some ⟨tg, 0, none⟩) R.length tc] W fun e w' => e = .returned (.int .i64 (cnS s.vs s.vs.length : Nat)) ∧ Below W.heap.size W w') := fun W hb => lines_any tg tc R _ (by omega) W (fun i hi => cellB hb (htc i hi)) hK hU
    have hfl' : (R.length : Int) ≤ 4194304 := by omega
    have HCn : Hid (∀ i, i ≤ s.vs.length → cnS s.vs i ≤ 2 + i * 8796093022214) := cnS_le s.vs (fun x hx => (HVs.out x hx).cl)
    have HSu := hid_of (cnS_succ s.vs)
    clear hK hU ho htc hRp HVs hfl
    generalize s.vs = L at *
    go_wp2_with fail
    go_loopw [5, 23] (fun n a W => ∃ i : Nat, i ≤ L.length ∧ a = .int .i64 (i : Int) ∧ n = .int .i64 (cnS L i : Nat) ∧ Hid (Below w3.heap.size w3 W)) (fun _ a _ => L.length - (intOf a).toNat)
    case atStart => exact ⟨0, by omega, rfl, rfl, Below.refl _ _⟩
    case round =>
      clear c0 c1 c2
      obtain ⟨i, hi, rfl, rfl, HB⟩ := hrel
      by_cases hlt : i < L.length
      · have hlt' : (i : Int) < (L.length : Int) := by omega
        obtain rfl := hao (by intro e; rw [e] at hlt; simp at hlt)
        have HwW : Hid (Below w.heap.size w wr) := bt HE.out HB.out
        obtain ⟨lw, cw, g1, g2, g3⟩ := HRw.out i hlt
        have q := (g1.below HwW.out).cC
        obtain ⟨la, lc, rfl⟩ := g2.form
        obtain ⟨ca, cc, rfl⟩ := SN.form g3
        have hix := index_val b o L.length cap i (i : Int) rfl hlt
        have hdk := (HDo.out L[i] (List.getElem_mem hlt)).k
        have hsu := HSu.out i hlt
        have hcn := HCn.out (i + 1) (by omega)
        have hcs : L[i].cs.length ≤ 8796093022208 ∨ True := Or.inr trivial
        have HPv : Hid (0 < i → ∃ m, m < L.length ∧ i = m + 1 ∧ pvN L i = some (L.getD m L[i]).d.name ∧ (∀ W, Below w.heap.size w W → W.cell? ⟨b, o + m * 11 + 1, none⟩ = some (.string ⟨(L.getD m L[i]).d.name.toArray⟩))) := fun h0 => by
          have hm : i - 1 < L.length := by omega
          obtain ⟨l2, c2, k1, _, _⟩ := HRw.out (i - 1) hm
          have e : L.getD (i - 1) L[i] = L[i - 1] := by rw [List.getD_eq_getElem?_getD, List.getElem?_eq_getElem hm]; rfl
          refine ⟨i - 1, hm, by omega, ?_, fun W hb => ?_⟩
          · have := pvN_succ L (i - 1) hm
            rw [show i - 1 + 1 = i by omega] at this
            rw [this, e]
          · rw [e]; exact (k1.below hb).c1
        have hi256 : i * 8796093022214 ≤ 256 * 8796093022214 := Nat.mul_le_mul_right _ (by omega)
        have hcn2 : cnS L (i + 1) < 4611686018427387904 := by
          have : (i + 1) * 8796093022214 ≤ 256 * 8796093022214 := Nat.mul_le_mul_right _ (by omega)
          omega
        clear g1 g2 g3 hcs hi256 hcn
        generalize L[i] = x at *
        generalize hc2 : cnS L (i + 1) = c2 at *
        have HC2 := hid_of hc2
        clear hc2
        generalize cnS L i = c1 at *
        have sF := store_f
        go_upto_region 10 with fail
        have hN1 := new_1 wr (.cells (vc x (.slice la x.d.labels.length lc) (.slice ca x.cs.length cc)) 39)
        have HB1 : Hid (Below w3.heap.size w3 (wr.alloc (.cells (vc x (.slice la x.d.labels.length lc) (.slice ca x.cs.length cc)) 39))) := bt HB.out (bel1 _ _)
        generalize wr.alloc (.cells (vc x (.slice la x.d.labels.length lc) (.slice ca x.cs.length cc)) 39) = W1 at *
        have HN1 := hid_of hN1
        obtain ⟨d0, d1, -, -, -, -, -, -, -, -, -⟩ := cB_of hN1
        obtain ⟨-, e1, -⟩ := HBx.out W1 (bt HB3.out HB1.out)
        clear q HB sF HwW
        go_cut [43] from 28 to 42 (fun v W => v = .bool (decide (pvN L i ≠ some x.d.name)) ∧ Hid (Below w3.heap.size w3 W) ∧ Hid (W.heap[wr.heap.size]? = some (.cells (vc x (.slice la x.d.labels.length lc) (.slice ca x.cs.length cc)) 39)))
        case first =>
          by_cases h0 : i = 0
          · have h0' : ((i : Int) == 0) = true := by rw [beq_iff_eq]; omega
            have hd : decide (pvN L i ≠ some x.d.name) = true := by rw [decide_eq_true_eq, h0]; intro e; cases e
            have HD := hid_of hd
            clear hd h0
            go_quiet (fail)
            go_wp2_with fail
            go_meet
            exact ⟨by rw [HD.out], bt HB1.out (bel_drewNB (Below.refl _ _) _), HN1.out⟩
          · have h0' : ((i : Int) == 0) = false := by rw [beq_eq_false_iff_ne]; omega
            obtain ⟨m, hm, him, hpv, hcl⟩ := HPv.out (by omega)
            have hcm := hcl W1 (bt HE.out HB1.out)
            have hw1 : IntKind.i64.wrap ((i : Int) - 1) = (m : Int) := by rw [IntKind.wrap_i64]; omega
            have hixm := index_val b o L.length cap m (m : Int) rfl hm
            have HD : Hid (decide (pvN L i ≠ some x.d.name) = ((L.getD m x).d.name != x.d.name)) := by
              show _ = _
              rw [hpv]
              by_cases e : (L.getD m x).d.name = x.d.name
              · rw [e]; simp
              · have e2 : ¬ (some (L.getD m x).d.name = some x.d.name) := fun k => e (Option.some.inj k)
                rw [decide_eq_true e2, eq_comm, bne_iff_ne]; exact e
            generalize (L.getD m x).d.name = nm at *
            clear hpv hcl him
            go_quiet (fail)
            go_wp2_with fail
            go_meet
            exact ⟨by rw [HD.out]; rfl, bt HB1.out (bel_drewNB (Below.refl _ _) _), HN1.out⟩
        case rest =>
          obtain ⟨rfl, HBc, HNc⟩ := hcut
          clear d0 d1 e1 HN1 hN1 HB1 HPv
          obtain ⟨d0, d1, d2, d3, d4, d5, d6, d7, d8, d9, da⟩ := cB_of HNc.out
          clear HNc
          by_cases hbg : pvN L i = some x.d.name
          · have hbg' : decide (pvN L i ≠ some x.d.name) = false := by rw [decide_eq_false_iff_not]; exact fun k => k hbg
            rw [if_pos hbg] at hsu
            rw [hbg']
            clear hbg hbg'
            rcases hdk with hk | hk | hk
            · rw [hk] at d0
              have hcv : cnV x = 1 := by unfold cnV; rw [if_pos hk]
              have HS2 : Hid (c2 = c1 + 0 + 1) := by show _ = _; rw [hsu, hcv]
              have hb2 : c1 + 0 + 1 < 4611686018427387904 := by have := HS2.out; omega
              clear hsu hcv hk hcn2
              go_wp2_with fail
              exact ⟨⟨i + 1, by omega, by go_num, by rw [HC2.out, HS2.out]; exact congrArg (Value.int IntKind.i64) (by omega), HBc⟩, by simp [intOf]; omega⟩
            · rw [hk] at d0
              have hcv : cnV x = x.cs.length + 3 := by unfold cnV; rw [if_neg (by omega), if_pos hk]
              have HS2 : Hid (c2 = c1 + 0 + (x.cs.length + 3)) := by show _ = _; rw [hsu, hcv]
              have hb2 : c1 + 0 + (x.cs.length + 3) < 4611686018427387904 := by have := HS2.out; omega
              clear hsu hcv hk hcn2
              generalize x.cs.length = cl at *
              go_wp2_with fail
              exact ⟨⟨i + 1, by omega, by go_num, by rw [HC2.out, HS2.out]; exact congrArg (Value.int IntKind.i64) (by omega), HBc⟩, by simp [intOf]; omega⟩
            · rw [hk] at d0
              by_cases hn : 0 < x.n
              · have hn' : (0 : Int) < (x.n : Int) := by omega
                have hcv : cnV x = 4 := by unfold cnV; rw [if_neg (by omega), if_neg (by omega), if_pos hn]
                have HS2 : Hid (c2 = c1 + 0 + 4) := by show _ = _; rw [hsu, hcv]
                have hb2 : c1 + 0 + 4 < 4611686018427387904 := by have := HS2.out; omega
                clear hsu hcv hk hcn2 hn
                go_wp2_with fail
                exact ⟨⟨i + 1, by omega, by go_num, by rw [HC2.out, HS2.out]; exact congrArg (Value.int IntKind.i64) (by omega), HBc⟩, by simp [intOf]; omega⟩
              · have hn' : ¬ (0 : Int) < (x.n : Int) := by omega
                have hcv : cnV x = 2 := by unfold cnV; rw [if_neg (by omega), if_neg (by omega), if_neg hn]
                have HS2 : Hid (c2 = c1 + 0 + 2) := by show _ = _; rw [hsu, hcv]
                have hb2 : c1 + 0 + 2 < 4611686018427387904 := by have := HS2.out; omega
                clear hsu hcv hk hcn2 hn
                go_wp2_with fail
                exact ⟨⟨i + 1, by omega, by go_num, by rw [HC2.out, HS2.out]; exact congrArg (Value.int IntKind.i64) (by omega), HBc⟩, by simp [intOf]; omega⟩
          · have hbg' : decide (pvN L i ≠ some x.d.name) = true := by rw [decide_eq_true_eq]; exact hbg
            rw [if_neg hbg] at hsu
            rw [hbg']
            clear hbg hbg'
            rcases hdk with hk | hk | hk
            · rw [hk] at d0
              have hcv : cnV x = 1 := by unfold cnV; rw [if_pos hk]
              have HS2 : Hid (c2 = c1 + 2 + 1) := by show _ = _; rw [hsu, hcv]
              have hb2 : c1 + 2 + 1 < 4611686018427387904 := by have := HS2.out; omega
              clear hsu hcv hk hcn2
              go_wp2_with fail
              exact ⟨⟨i + 1, by omega, by go_num, by rw [HC2.out, HS2.out]; exact congrArg (Value.int IntKind.i64) (by omega), HBc⟩, by simp [intOf]; omega⟩
            · rw [hk] at d0
              have hcv : cnV x = x.cs.length + 3 := by unfold cnV; rw [if_neg (by omega), if_pos hk]
              have HS2 : Hid (c2 = c1 + 2 + (x.cs.length + 3)) := by show _ = _; rw [hsu, hcv]
              have hb2 : c1 + 2 + (x.cs.length + 3) < 4611686018427387904 := by have := HS2.out; omega
              clear hsu hcv hk hcn2
              generalize x.cs.length = cl at *
              go_wp2_with fail
              exact ⟨⟨i + 1, by omega, by go_num, by rw [HC2.out, HS2.out]; exact congrArg (Value.int IntKind.i64) (by omega), HBc⟩, by simp [intOf]; omega⟩
            · rw [hk] at d0
              by_cases hn : 0 < x.n
              · have hn' : (0 : Int) < (x.n : Int) := by omega
                have hcv : cnV x = 4 := by unfold cnV; rw [if_neg (by omega), if_neg (by omega), if_pos hn]
                have HS2 : Hid (c2 = c1 + 2 + 4) := by show _ = _; rw [hsu, hcv]
                have hb2 : c1 + 2 + 4 < 4611686018427387904 := by have := HS2.out; omega
                clear hsu hcv hk hcn2 hn
                go_wp2_with fail
                exact ⟨⟨i + 1, by omega, by go_num, by rw [HC2.out, HS2.out]; exact congrArg (Value.int IntKind.i64) (by omega), HBc⟩, by simp [intOf]; omega⟩
              · have hn' : ¬ (0 : Int) < (x.n : Int) := by omega
                have hcv : cnV x = 2 := by unfold cnV; rw [if_neg (by omega), if_neg (by omega), if_neg hn]
                have HS2 : Hid (c2 = c1 + 2 + 2) := by show _ = _; rw [hsu, hcv]
                have hb2 : c1 + 2 + 2 < 4611686018427387904 := by have := HS2.out; omega
                clear hsu hcv hk hcn2 hn
                go_wp2_with fail
                exact ⟨⟨i + 1, by omega, by go_num, by rw [HC2.out, HS2.out]; exact congrArg (Value.int IntKind.i64) (by omega), HBc⟩, by simp [intOf]; omega⟩
      · have hlt' : ¬ (i : Int) < (L.length : Int) := by omega
        obtain rfl : i = L.length := by omega
        have D : La.HidC _ _ _ _ _ := HLn.out wr HB.out
        generalize cnS L L.length = K at *
        clear HLn HCn HSu HRw HDo
        go_wp2_with fail
        refine (D.out).mono ?_
        rintro e w4 ⟨rfl, hb4⟩
        have HB4 := hid_of (bt (bt HE.out HB.out) hb4)
        clear D hb4
        go_wp2_with fail
        go_ret
        exact ⟨rfl, HB4.out⟩
end Go.Proofs.YthgfeghgcickhaaGreatDoor
