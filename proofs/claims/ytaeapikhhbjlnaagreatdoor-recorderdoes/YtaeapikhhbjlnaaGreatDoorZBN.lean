/- THE DOCUMENT's RECORDS, done at once, of every kind. Own work of the verifier. -/
import Derived.Test.YtaeapikhhbjlnaaGreatDoorZBJ
import Derived.Test.YtaeapikhhbjlnaaGreatDoorZBG
import Derived.Test.YtaeapikhhbjlnaaGreatDoorZBA
import Derived.Test.YtaeapikhhbjlnaaGreatDoorZAY
namespace Go.Proofs.YtaeapikhhbjlnaaGreatDoor
open Go.RowKit

/-- A summary's row behind a float. -/
def smR : List Int → Nat → List Int
  | [k, s, c, mn, mx], v => smD k (uw s).toNat (uw c).toNat (uw mn).toNat (uw mx).toNat v
  | l, _ => l
theorem smR_row {k : Int} {s c mn mx : Nat} (v : Nat) (hs : s < 18446744073709551616) (hc : c < 18446744073709551616) (h1 : mn < 18446744073709551616) (h2 : mx < 18446744073709551616) : smR (sRow k s c mn mx) v = smD k s c mn mx v := by
  unfold sRow
  have a1 := fw_nat hs
  have a2 := fw_nat hc
  have a3 := fw_nat h1
  have a4 := fw_nat h2
  generalize fw64 s = x1 at *
  generalize fw64 c = x2 at *
  generalize fw64 mn = x3 at *
  generalize fw64 mx = x4 at *
  show smD k _ _ _ _ v = _
  rw [a1, a2, a3, a4]
/-- A row behind a record. -/
noncomputable def layD (kind : Int) (p : Nat) (row : List Int) (n : Int) (f : Nat) : List Int := if kind = 4 then adW row n else if kind = 5 then obW p row n.toNat else smR row f
/-- The machine behind a record. -/
def Mc.aft (m : Mc) (er : Int) (b : Nat) : Mc := if er = 0 then m.ent.left m.start else (m.ent.ref b).left m.start
theorem aft_all (m : Mc) (er : Int) (b : Nat) (hb : b < 2) : (m.aft er b).st = m.st ∧ (m.aft er b).pr = m.pr ∧ (m.aft er b).a = m.a ∧ (m.aft er b).l = m.l ∧ (m.aft er b).r0 = bmp er b 0 m.r0 ∧ (m.aft er b).r1 = bmp er b 1 m.r1 := by
  unfold Mc.aft Mc.left Mc.ref bmp
  rcases (show b = 0 ∨ b = 1 by omega) with rfl | rfl
  · by_cases h : er = 0
    · simp only [if_pos h]; split <;> exact ⟨rfl, rfl, rfl, rfl, rfl, rfl⟩
    · simp only [if_neg h]; split <;> exact ⟨rfl, rfl, rfl, rfl, rfl, rfl⟩
  · by_cases h : er = 0
    · simp only [if_pos h]; split <;> exact ⟨rfl, rfl, rfl, rfl, rfl, rfl⟩
    · simp only [if_neg h]; split <;> exact ⟨rfl, rfl, rfl, rfl, rfl, rfl⟩
/-- When a record is laid. -/
theorem why_ok {kind kd n : Int} {f : Nat} {cl : Bool} (hk : kind = 4 ∨ kind = 5 ∨ kind = 6) (h : whyF kind kd n f cl = 0) : cl = false ∧ ((kind = 4 ∧ kd = 1 ∧ 0 ≤ n) ∨ (kind = 5 ∧ kd = 2 ∧ 0 ≤ n) ∨ (kind = 6 ∧ kd = 3 ∧ mayB f = true)) := by
  unfold whyF at h
  cases cl
  · refine ⟨rfl, ?_⟩
    rw [if_neg (by decide)] at h
    by_cases hd : kd = kdOf kind
    · rw [if_pos hd] at h
      rcases hk with rfl | rfl | rfl
      · rw [if_neg (by decide)] at h
        by_cases hn : n < 0
        · rw [if_pos hn] at h; exact absurd h (by decide)
        · exact Or.inl ⟨rfl, hd, by omega⟩
      · rw [if_neg (by decide)] at h
        by_cases hn : n < 0
        · rw [if_pos hn] at h; exact absurd h (by decide)
        · exact Or.inr (Or.inl ⟨rfl, hd, by omega⟩)
      · rw [if_pos rfl] at h
        cases hm : mayB f
        · rw [hm] at h; exact absurd h (by decide)
        · exact Or.inr (Or.inr ⟨rfl, hd, rfl⟩)
    · rw [if_neg hd] at h; exact absurd h (by decide)
  · rw [if_pos rfl] at h; exact absurd h (by decide)
theorem RowOk.is1 {p t : Nat} {row : List Int} (h : RowOk 1 p t row) : row.length = 2 ∧ Ws row := by
  rcases h with ⟨_, h⟩ | ⟨h, _⟩ | ⟨h, _⟩
  · exact h
  · exact absurd h (by decide)
  · exact absurd h (by decide)
theorem RowOk.is2 {p t : Nat} {row : List Int} (h : RowOk 2 p t row) : row.length = Lg (p : Int) + 2 ∧ Ws row := by
  rcases h with ⟨h, _⟩ | ⟨_, h⟩ | ⟨h, _⟩
  · exact absurd h (by decide)
  · exact h
  · exact absurd h (by decide)
theorem RowOk.is3 {p t : Nat} {row : List Int} (h : RowOk 3 p t row) : ∃ k s c mn mx : Nat, k ≤ t ∧ row = sRow (k : Int) s c mn mx ∧ SumOk k s c mn mx := by
  rcases h with ⟨h, _⟩ | ⟨h, _⟩ | ⟨_, h⟩
  · exact absurd h (by decide)
  · exact absurd h (by decide)
  · exact h
theorem wrap_succ {k : Nat} (h : k < 4611686018427387904) : wrap64 ((k : Int) + 1) = ((k + 1 : Nat) : Int) := by unfold wrap64; push_cast; omega
/-- A row that is laid into stays as it may be. -/
theorem RowOk.laid {kind kd n : Int} {f p t : Nat} {cl : Bool} {row : List Int} (h : RowOk kd p t row) (hk : kind = 4 ∨ kind = 5 ∨ kind = 6) (ht : t < 70368744177664) (hf : f < 18446744073709551616) (h0 : whyF kind kd n f cl = 0) : RowOk kd p (t + 1) (layD kind p row n f) := by
  obtain ⟨_, ⟨rfl, rfl, hn⟩ | ⟨rfl, rfl, hn⟩ | ⟨rfl, rfl, hm⟩⟩ := why_ok hk h0
  · obtain ⟨h1, h2⟩ := h.is1
    unfold layD
    rw [if_pos rfl]
    exact Or.inl ⟨rfl, by rw [adW_len]; exact h1, h2.adW n⟩
  · obtain ⟨h1, h2⟩ := h.is2
    unfold layD
    rw [if_neg (by decide), if_pos rfl]
    exact Or.inr (Or.inl ⟨rfl, by rw [obW_len]; exact h1, by unfold obW; exact (h2.inc _).adW _⟩)
  · obtain ⟨k, s, c, mn, mx, hkt, rfl, hS⟩ := h.is3
    unfold layD
    rw [if_neg (by decide), if_neg (by decide), smR_row f hS.hs hS.hc hS.hmn hS.hmx]
    refine Or.inr (Or.inr ⟨rfl, k + 1, _, _, _, _, by omega, ?_, hS.put (by omega) hf hm⟩)
    unfold smD
    rw [wrap_succ (by omega)]
/-- Alone, of any record. -/
theorem alone_all {cb mb rb x ib id hb st N cap NS capH b nI capI p t f : Nat} {kd kind n : Int} {cl : Bool} {m : Mc} {row : List Int} {w : World} (H : Dst cb mb rb (mkC kind x (id : Int) n (f : Int)) m row w) (HE : ∀ W, Chg (D3 cb mb rb) w W → Ev x ib id hb st rb N cap NS capH b kd cl W) (hb2 : b < 2) (hst : st < NS) (hk : kind = 4 ∨ kind = 5 ∨ kind = 6) (hma : m.a = (b : Int)) (hl : m.l = .slice (some ⟨ib, 0, none⟩) nI capI) (hlt : id < nI) (hle : nI ≤ 1000) (hf1 : f < 18446744073709551616) (hn : In64 n) (hp : m.pr = (p : Int)) (hp1 : 1 ≤ p) (hp2 : p ≤ 14) (hr : RowOk kd p t row) (hN : row.length = N) :
    Calls Tryz.prog 49 #[.pointer (some ⟨mb, 0, none⟩), .pointer (some ⟨cb, 0, none⟩)] w fun e w' => e = .returned (.tuple #[]) ∧ Hid ((∃ c', c'.e = whyF kind kd n f cl ∧ Dst cb mb rb c' (m.aft (whyF kind kd n f cl) b) (if whyF kind kd n f cl = 0 then layD kind p row n f else row) w') ∧ Chg (D3 cb mb rb) w w') := by
  by_cases h0 : whyF kind kd n f cl = 0
  · unfold Mc.aft
    rw [if_pos h0, if_pos h0, h0]
    obtain ⟨_, ⟨rfl, rfl, hn0⟩ | ⟨rfl, rfl, hn0⟩ | ⟨rfl, rfl, hm⟩⟩ := why_ok hk h0
    · obtain ⟨h1, h2⟩ := hr.is1
      unfold layD
      rw [if_pos rfl]
      obtain ⟨lo, hi, cs, rfl⟩ := two_list (row := row) (by omega)
      exact alone_add H HE hb2 hst hma hl hlt hle hf1 h0.symm (by rw [← hN]; simp) (h2 lo (by simp)) hn0 hn.2
    · obtain ⟨h1, h2⟩ := hr.is2
      unfold layD
      rw [if_neg (by decide), if_pos rfl]
      obtain ⟨v, rfl⟩ : ∃ v : Nat, n = (v : Int) := ⟨n.toNat, by omega⟩
      rw [Int.toNat_natCast]
      exact alone_obs H HE hb2 hst hma hl hlt hle hf1 h0.symm hp hp1 hp2 (by have := hn.2; omega) hN (by omega) h2
    · obtain ⟨k, s, c, mn, mx, hkt, rfl, hS⟩ := hr.is3
      unfold layD
      rw [if_neg (by decide), if_neg (by decide), smR_row f hS.hs hS.hc hS.hmn hS.hmx]
      rw [sRow_l] at hN
      subst hN
      exact alone_sam H HE hb2 hst hma hl hlt hle hf1 h0.symm hS.hs hS.hc hS.hmn hS.hmx
  · unfold Mc.aft
    rw [if_neg h0, if_neg h0]
    exact alone_no H HE hb2 hk hma hl hlt hle hf1 _ rfl h0
end Go.Proofs.YtaeapikhhbjlnaaGreatDoor
/- A SLAB WITH ANY CONTENTS: Add, Observe, Sample of all kinds. Own work of the verifier. -/
namespace Go.Proofs.YtaeapikhhbjlnaaGreatDoor
open Go.RowKit

theorem kadd_any (a : Value) (b i x : Int) (w : World) : Calls Tryz.prog 317 #[a, .pointer none, .int .i64 b, .int .i64 i, .int .i64 x] w fun e w' => e = .returned (.int .i64 7) ∧ w' = w := by
  go_enter Tryz.func317, Tryz.ntmps317
  go_wp2
  go_ret
  exact ⟨rfl, rfl⟩
theorem kobs_any (a : Value) (b i x : Int) (w : World) : Calls Tryz.prog 310 #[a, .pointer none, .int .i64 b, .int .i64 i, .int .i64 x] w fun e w' => e = .returned (.int .i64 7) ∧ w' = w := by
  go_enter Tryz.func310, Tryz.ntmps310
  go_wp2
  go_ret
  exact ⟨rfl, rfl⟩
theorem ksam_any (a : Value) (b i : Int) (x : Nat) (w : World) : Calls Tryz.prog 312 #[a, .pointer none, .int .i64 b, .int .i64 i, .float .f64 x] w fun e w' => e = .returned (.int .i64 7) ∧ w' = w := by
  go_enter Tryz.func312, Tryz.ntmps312
  go_wp2
  go_ret
  exact ⟨rfl, rfl⟩
theorem sadd_kind (T : TypeId) (hT : T = 210 ∨ T = 213) (s c : Nat) (b i x : Int) (w : World) (hs : w.cell? ⟨s, 0, none⟩ = some (.iface T (.pointer (some ⟨c, 0, none⟩)))) :
    Calls Tryz.prog 73 #[.pointer (some ⟨s, 0, none⟩), .pointer none, .int .i64 b, .int .i64 i, .int .i64 x] w fun e w' => e = .returned (.int .i64 7) ∧ w' = w := by
  have HK : Hid (∀ a W, _) := fun a W => kadd_any a b i x W
  rcases hT with rfl | rfl
  all_goals
    go_enter Tryz.func73, Tryz.ntmps73
    go_wp2_with (go_at_call 317; with_reducible refine Calls.mono (HK.out _ _) ?_; rintro e w1 ⟨rfl, rfl⟩)
    go_ret
    exact ⟨rfl, rfl⟩
theorem sobs_kind (T : TypeId) (hT : T = 204 ∨ T = 213) (s c : Nat) (b i x : Int) (w : World) (hs : w.cell? ⟨s, 0, none⟩ = some (.iface T (.pointer (some ⟨c, 0, none⟩)))) :
    Calls Tryz.prog 135 #[.pointer (some ⟨s, 0, none⟩), .pointer none, .int .i64 b, .int .i64 i, .int .i64 x] w fun e w' => e = .returned (.int .i64 7) ∧ w' = w := by
  have HK : Hid (∀ a W, _) := fun a W => kobs_any a b i x W
  rcases hT with rfl | rfl
  all_goals
    go_enter Tryz.func135, Tryz.ntmps135
    go_wp2_with (go_at_call 310; with_reducible refine Calls.mono (HK.out _ _) ?_; rintro e w1 ⟨rfl, rfl⟩)
    go_ret
    exact ⟨rfl, rfl⟩
theorem ssam_kind (T : TypeId) (hT : T = 204 ∨ T = 210) (s c : Nat) (b i : Int) (x : Nat) (w : World) (hs : w.cell? ⟨s, 0, none⟩ = some (.iface T (.pointer (some ⟨c, 0, none⟩)))) :
    Calls Tryz.prog 138 #[.pointer (some ⟨s, 0, none⟩), .pointer none, .int .i64 b, .int .i64 i, .float .f64 x] w fun e w' => e = .returned (.int .i64 7) ∧ w' = w := by
  have HK : Hid (∀ a W, _) := fun a W => ksam_any a b i x W
  rcases hT with rfl | rfl
  all_goals
    go_enter Tryz.func138, Tryz.ntmps138
    go_wp2_with (go_at_call 312; with_reducible refine Calls.mono (HK.out _ _) ?_; rintro e w1 ⟨rfl, rfl⟩)
    go_ret
    exact ⟨rfl, rfl⟩
/-- Observe, through the slab. -/
theorem sobs_of (s c : Nat) (b i x er : Int) (w : World) (Q : World → Prop) (hs : w.cell? ⟨s, 0, none⟩ = some (.iface 210 (.pointer (some ⟨c, 0, none⟩)))) (HA : Calls Tryz.prog 320 #[.pointer (some ⟨c, 0, none⟩), .pointer none, .int .i64 b, .int .i64 i, .int .i64 x] w fun e w' => e = .returned (.int .i64 er) ∧ Hid (Q w')) :
    Calls Tryz.prog 135 #[.pointer (some ⟨s, 0, none⟩), .pointer none, .int .i64 b, .int .i64 i, .int .i64 x] w fun e w' => e = .returned (.int .i64 er) ∧ Hid (Q w') := by
  have HK : Hid (∀ _ : Unit, _) := fun _ => HA
  clear HA
  go_enter Tryz.func135, Tryz.ntmps135
  go_wp2_with (go_at_call 320; with_reducible refine Calls.mono (HK.out ()) ?_; rintro e w1 ⟨rfl, HQ⟩)
  go_ret
  exact ⟨rfl, HQ⟩
theorem ssam_of (s c : Nat) (b i er : Int) (x : Nat) (w : World) (Q : World → Prop) (hs : w.cell? ⟨s, 0, none⟩ = some (.iface 213 (.pointer (some ⟨c, 0, none⟩)))) (HA : Calls Tryz.prog 326 #[.pointer (some ⟨c, 0, none⟩), .pointer none, .int .i64 b, .int .i64 i, .float .f64 x] w fun e w' => e = .returned (.int .i64 er) ∧ Hid (Q w')) :
    Calls Tryz.prog 138 #[.pointer (some ⟨s, 0, none⟩), .pointer none, .int .i64 b, .int .i64 i, .float .f64 x] w fun e w' => e = .returned (.int .i64 er) ∧ Hid (Q w') := by
  have HK : Hid (∀ _ : Unit, _) := fun _ => HA
  clear HA
  go_enter Tryz.func138, Tryz.ntmps138
  go_wp2_with (go_at_call 326; with_reducible refine Calls.mono (HK.out ()) ?_; rintro e w1 ⟨rfl, HQ⟩)
  go_ret
  exact ⟨rfl, HQ⟩
section
variable {s c n wd : Nat} {h : Nat → Nat} {G : Nat → List Nat} {C : Nat → Nat → List Int} {w : World}
theorem sobs_ok {p : Nat} (H : SlG 210 s c h G C (Lg (p : Int) + 2) n w) (hp : w.cell? ⟨c, 2, none⟩ = some (.int .i64 (p : Int))) (hp1 : 1 ≤ p) (hp2 : p ≤ 14) (b i v : Nat) (hb : b < 2) (hi : i < n) (hn : n ≤ 16) (hws : Ws (C b i)) (hv : v < 9223372036854775808) :
    Calls Tryz.prog 135 #[.pointer (some ⟨s, 0, none⟩), .pointer none, .int .i64 (b : Int), .int .i64 (i : Int), .int .i64 (v : Int)] w fun e w' => e = .returned (.int .i64 0) ∧ Hid (SlG 210 s c h G (upC C b i (obW p (C b i) v)) (Lg (p : Int) + 2) n w' ∧ Chg (fun x => x ∈ G 0 ++ G 1) w w') := by
  obtain ⟨cap, hc⟩ := H.held b hb
  have hil : i < (G b).length := by rw [H.len b hb]; exact hi
  have hlen := H.wid b hb i hi
  refine sobs_of s c b i v 0 w _ H.slab (Calls.mono (hobs_ok c (h b) (G b)[i] n cap p b i v (C b i) hp1 hp2 hb hi hn hlen hws hv w hp hc (by rw [hlen]; exact H.rows b hb i hil) (H.left b hb i hil)) ?_)
  rintro e w' ⟨rfl, k1, k2⟩
  exact ⟨rfl, H.put hb hil (by rw [obW_len]; exact hlen) k1.out k2.out.mid, k2.out.mono (fun x e => by rw [e]; exact mem_of hb (List.getElem_mem hil))⟩
theorem sobs_range {p : Nat} (H : SlG 210 s c h G C wd n w) (hp : w.cell? ⟨c, 2, none⟩ = some (.int .i64 (p : Int))) (hp1 : 1 ≤ p) (hp2 : p ≤ 14) (b i : Nat) (v : Int) (hb : b < 2) (hi : i < n) (hn : n ≤ 16) (hv : v < 0) :
    Calls Tryz.prog 135 #[.pointer (some ⟨s, 0, none⟩), .pointer none, .int .i64 (b : Int), .int .i64 (i : Int), .int .i64 v] w fun e w' => e = .returned (.int .i64 2) ∧ Hid (Below w.heap.size w w') := by
  obtain ⟨cap, hc⟩ := H.held b hb
  exact sobs_of s c b i v 2 w _ H.slab (hobs_no c p b i v 2 false w hp1 hp2 (by omega) hp (decide_eq_false (by omega)).symm (fun W hW => row_range c (h b) n cap b i hb hi hn W ((World.cell?_of_block (hW.block _ (lt_of_cell hc))).trans hc)) (by decide))
theorem sobs_arg {p : Nat} (H : SlG 210 s c h G C wd n w) (hp : w.cell? ⟨c, 2, none⟩ = some (.int .i64 (p : Int))) (hp1 : 1 ≤ p) (hp2 : p ≤ 14) (b : Nat) (i v : Int) (hb : b < 2) (hi : i < 0 ∨ (n : Int) ≤ i) (hn : n ≤ 16) (hv : v < 9223372036854775808) :
    Calls Tryz.prog 135 #[.pointer (some ⟨s, 0, none⟩), .pointer none, .int .i64 (b : Int), .int .i64 i, .int .i64 v] w fun e w' => e = .returned (.int .i64 1) ∧ Hid (Below w.heap.size w w') := by
  obtain ⟨cap, hc⟩ := H.held b hb
  exact sobs_of s c b i v 1 w _ H.slab (hobs_no c p b i v 1 _ w hp1 hp2 hv hp rfl (fun W hW => row_arg c (h b) n cap b i hb hi hn _ W ((World.cell?_of_block (hW.block _ (lt_of_cell hc))).trans hc)) (by decide))
theorem ssam_okS (H : SlG 213 s c h G C 5 n w) (b i x : Nat) (hb : b < 2) (hi : i < n) (hn : n ≤ 16) (k : Int) (t cc mn mx : Nat) (hC : C b i = sRow k t cc mn mx) (hk : In64 k) (ht : t < 18446744073709551616) (hcc : cc < 18446744073709551616) (hmn : mn < 18446744073709551616) (hmx : mx < 18446744073709551616) (hx : x < 18446744073709551616) (hmay : mayB x = true) :
    Calls Tryz.prog 138 #[.pointer (some ⟨s, 0, none⟩), .pointer none, .int .i64 (b : Int), .int .i64 (i : Int), .float .f64 x] w fun e w' => e = .returned (.int .i64 0) ∧ Hid (∃ r d, SlG 213 s c h G (upC C b i (sRow (wrap64 (k + 1)) r d (mnF x mn) (mxF x mx))) 5 n w' ∧ Chg (fun x => x ∈ G 0 ++ G 1) w w' ∧ r < 18446744073709551616 ∧ d < 18446744073709551616 ∧ Soft.one r = Soft.fa t x ∧ Soft.one d = Soft.fa cc (Soft.fl t x)) := by
  obtain ⟨cap, hc⟩ := H.held b hb
  have hil : i < (G b).length := by rw [H.len b hb]; exact hi
  have hr := H.left b hb i hil
  rw [hC] at hr
  refine ssam_of s c b i 0 x w _ H.slab (Calls.mono (ssam_ok c (h b) (G b)[i] n cap b i k t cc mn mx x hb hi hn hk ht hcc hmn hmx hx hmay w hc (H.rows b hb i hil) hr) ?_)
  rintro e w' ⟨rfl, r, d, k1, k2, k3⟩
  exact ⟨rfl, r, d, H.put hb hil rfl k1.out k2.out.mid, k2.out.mono (fun x e => by rw [e]; exact mem_of hb (List.getElem_mem hil)), k3.out⟩
theorem ssam_range (H : SlG 213 s c h G C wd n w) (b i x : Nat) (hb : b < 2) (hi : i < n) (hn : n ≤ 16) (hx : x < 18446744073709551616) (hmay : mayB x = false) :
    Calls Tryz.prog 138 #[.pointer (some ⟨s, 0, none⟩), .pointer none, .int .i64 (b : Int), .int .i64 (i : Int), .float .f64 x] w fun e w' => e = .returned (.int .i64 2) ∧ Hid (Below w.heap.size w w') := by
  obtain ⟨cap, hc⟩ := H.held b hb
  exact ssam_of s c b i 2 x w _ H.slab (ssam_no c b i 2 x hx w (fun _ => by rw [hmay]; exact row_range c (h b) n cap b i hb hi hn w.drew hc) (by decide))
theorem ssam_arg (H : SlG 213 s c h G C wd n w) (b : Nat) (i : Int) (x : Nat) (hb : b < 2) (hi : i < 0 ∨ (n : Int) ≤ i) (hn : n ≤ 16) (hx : x < 18446744073709551616) :
    Calls Tryz.prog 138 #[.pointer (some ⟨s, 0, none⟩), .pointer none, .int .i64 (b : Int), .int .i64 i, .float .f64 x] w fun e w' => e = .returned (.int .i64 1) ∧ Hid (Below w.heap.size w w') := by
  obtain ⟨cap, hc⟩ := H.held b hb
  exact ssam_of s c b i 1 x w _ H.slab (ssam_no c b i 1 x hx w (fun _ => row_arg c (h b) n cap b i hb hi hn _ w.drew hc) (by decide))
end
end Go.Proofs.YtaeapikhhbjlnaaGreatDoor
/- THE RECORDER: Observe. Own work of the verifier. -/
namespace Go.Proofs.YtaeapikhhbjlnaaGreatDoor
open Go.RowKit

set_option maxHeartbeats 1000000 in
theorem laid_obs (rc s kt kg kr kn : Nat) (st b er : Int) (may : Bool) (w : World) (h : Rc w rc s st false) (J : World → Prop)
    (HC : Hid (∀ _ : Unit, Calls Tryz.prog 134 #[.int .i64 b, .pointer (some ⟨kt, 0, none⟩), .pointer (some ⟨kg, 0, none⟩), .pointer (some ⟨kr, 0, none⟩), .pointer (some ⟨kn, 0, none⟩)] w fun e w' => e = .returned (.int .i64 er) ∧ Hid (J w'))) :
    Calls Tryz.prog 123 #[.pointer (some ⟨rc, 0, none⟩), .int .i64 b, .bool may, .func (.func 134) #[] #[.pointer (some ⟨kt, 0, none⟩), .pointer (some ⟨kg, 0, none⟩), .pointer (some ⟨kr, 0, none⟩), .pointer (some ⟨kn, 0, none⟩)]] w fun e w' => e = .returned (.int .i64 (answ er may)) ∧ Hid (J w') := by
  obtain ⟨c0, c1, c2⟩ := h.cells
  clear h
  by_cases h1 : er = 1
  · subst h1
    cases may with
    | false =>
      go_enter Tryz.func123, Tryz.ntmps123
      go_wp2_with (go_at_call 134; with_reducible refine Calls.mono (HC.out ()) ?_; rintro e w1 ⟨rfl, HJ⟩)
      go_ret
      exact ⟨rfl, HJ⟩
    | true =>
      go_enter Tryz.func123, Tryz.ntmps123
      go_wp2_with (go_at_call 134; with_reducible refine Calls.mono (HC.out ()) ?_; rintro e w1 ⟨rfl, HJ⟩)
      go_ret
      exact ⟨rfl, HJ⟩
  · have e1 : answ er may = er := if_neg (fun k => h1 k.1)
    rw [e1]
    go_enter Tryz.func123, Tryz.ntmps123
    go_wp2_with (go_at_call 134; with_reducible refine Calls.mono (HC.out ()) ?_; rintro e w1 ⟨rfl, HJ⟩)
    go_ret
    exact ⟨rfl, HJ⟩
theorem obs1_any (kt kg kr kn s rc k : Nat) (b st n er : Int) (cl : Bool) (W : World) (J : World → Prop) (hB : Bx kt kg kr kn s rc k st cl (.int .i64 n) W) (HJB : Hid (∀ w', J w' → Bx kt kg kr kn s rc k st cl (.int .i64 n) w'))
    (HA : Hid (∀ _ : Unit, Calls Tryz.prog 135 #[.pointer (some ⟨s, 0, none⟩), .pointer none, .int .i64 b, .int .i64 st, .int .i64 n] W.drew fun e w' => e = .returned (.int .i64 er) ∧ Hid (J w'))) :
    Calls Tryz.prog 134 #[.int .i64 b, .pointer (some ⟨kt, 0, none⟩), .pointer (some ⟨kg, 0, none⟩), .pointer (some ⟨kr, 0, none⟩), .pointer (some ⟨kn, 0, none⟩)] W fun e w' => e = .returned (.int .i64 er) ∧ Hid (J w') := by
  go_enter Tryz.func134, Tryz.ntmps134
  go_wp2_with fail
  go_region_held3 (fun V => Bx kt kg kr kn s rc k st cl (.int .i64 n) V) (first | with_reducible assumption | exact hB) ((go_at_call 135; with_reducible refine Calls.mono (HA.out ()) ?_; rintro e w3 ⟨rfl, HJ⟩; have hB3 := HJB.out _ HJ.out))
  all_goals
    go_wp2_with fail
    go_ret
    exact ⟨rfl, HJ⟩
theorem robs_any (rc s : Nat) (n er : Int) (w : World) (Q : World → Prop) (b : Bool) (hb : b = decide (0 ≤ n))
    (HR : Hid (∀ _ : Unit, Calls Tryz.prog 71 #[.pointer (some ⟨rc, 0, none⟩), .pointer none, .bool b, .func (.func 134) #[] #[.pointer (some ⟨w.heap.size + 2, 0, none⟩), .pointer (some ⟨w.heap.size + 1, 0, none⟩), .pointer (some ⟨w.heap.size, 0, none⟩), .pointer (some ⟨w.heap.size + 3, 0, none⟩)]] (bxs w rc s (.int .i64 n) 2) fun e w' => e = .returned (.int .i64 er) ∧ Hid (Q w'))) :
    Calls Tryz.prog 85 #[.pointer (some ⟨rc, 0, none⟩), .pointer none, .pointer (some ⟨s, 0, none⟩), .int .i64 n] w fun e w' => e = .returned (.int .i64 er) ∧ Hid (Q w') := by
  have hmf : ∀ (fn : Fn) (first cap : Array Value) (w : World), (Instr.makeFunc fn first cap).run Tryz.prog w = .ok (.func fn first cap) w := fun _ _ _ _ => rfl
  unfold bxs at HR
  subst hb
  go_enter Tryz.func85, Tryz.ntmps85
  go_wp2_with (go_at_call 71; with_reducible refine Calls.mono (HR.out ()) ?_; rintro e w3 ⟨rfl, HJ⟩)
  go_ret
  exact ⟨rfl, HJ⟩
/-- Observe, of a recorder that is open. -/
theorem robs_open (rc k p a s : Nat) (r0 r1 st n er : Int) (neg : Bool) (m : Nat) (J : World → Prop) (gs : Nat → Prop) (w : World) (ha : a < 2) (hm : m < 4611686018427387904) (hr0 : In64 r0) (hr1 : In64 r1)
    (hR : Rc w rc k st false) (hS : Sh w k p a r0 r1) (hP : Pq w p neg m) (hgs : ∀ x, gs x → x ≠ k ∧ x ≠ p ∧ x ≠ rc ∧ x < w.heap.size) (hJ : ∀ W W', J W → Chg (fun x => x = k ∨ x = p) W W' → J W')
    (HA : ∀ W, Chg (fun x => x = p) w W → Calls Tryz.prog 135 #[.pointer (some ⟨s, 0, none⟩), .pointer none, .int .i64 (a : Int), .int .i64 st, .int .i64 n] W fun e w' => e = .returned (.int .i64 er) ∧ J w' ∧ Chg gs W w') :
    Calls Tryz.prog 85 #[.pointer (some ⟨rc, 0, none⟩), .pointer none, .pointer (some ⟨s, 0, none⟩), .int .i64 n] w fun e w' => e = .returned (.int .i64 (answ er (decide (0 ≤ n)))) ∧ Hid (Sh w' k p a (bmp (answ er (decide (0 ≤ n))) a 0 r0) (bmp (answ er (decide (0 ≤ n))) a 1 r1) ∧ Pq w' p neg (m + 1) ∧ J w' ∧ Chg (fun x => gs x ∨ x = k ∨ x = p) w w') := by
  have hb := bxs_below w rc s (.int .i64 n) 2
  have hcB : Chg (fun x => x = p) w (bxs w rc s (.int .i64 n) 2) := Chg.of_below hb
  have hpl : p < w.heap.size := Pq.lt hP
  have hrl : rc < w.heap.size := (Array.getElem?_eq_some_iff.1 hR).1
  refine robs_any rc s n _ w (fun w' => Sh w' k p a (bmp (answ er (decide (0 ≤ n))) a 0 r0) (bmp (answ er (decide (0 ≤ n))) a 1 r1) ∧ Pq w' p neg (m + 1) ∧ J w' ∧ Chg (fun x => gs x ∨ x = k ∨ x = p) w w') (decide (0 ≤ n)) rfl (fun _ => ?_)
  obtain ⟨q0, q1, q2, q3⟩ := bxs_cells w rc s (.int .i64 n) 2
  refine Calls.mono (record_any rc k p a r0 r1 st (answ er (decide (0 ≤ n))) neg m false _ _ J gs (bxs w rc s (.int .i64 n) 2) ha hm hr0 hr1 (hcB.Rc hR (fun e => rc_ne_ph hR hP e)) (hcB.Sh hS (fun e => sh_ne_pq hS hP e.symm)) (Pq.below hP hb) (fun x hx => ⟨(hgs x hx).1, (hgs x hx).2.1⟩) hJ (fun W hW => ?_)) ?_
  · have hRW : Rc W rc k st false := hW.Rc (hcB.Rc hR (fun e => rc_ne_ph hR hP e)) (fun e => rc_ne_ph hR hP e)
    have hbx : ∀ (V : World), Chg (fun x => gs x ∨ x = p) (bxs w rc s (.int .i64 n) 2) V → Bx (w.heap.size + 2) (w.heap.size + 1) w.heap.size (w.heap.size + 3) s rc k st false (.int .i64 n) V := fun V hV => by
      have kc : ∀ (j : Nat) (u : Value), (bxs w rc s (.int .i64 n) 2).cell? ⟨w.heap.size + j, 0, none⟩ = some u → V.cell? ⟨w.heap.size + j, 0, none⟩ = some u := fun j u hu =>
        (World.cell?_of_block (hV.block (w.heap.size + j) (lt_of_cell hu) (fun e => by
          rcases e with e | e
          · have := (hgs _ e).2.2.2; omega
          · omega))).trans hu
      have hRV : Rc V rc k st false := hV.Rc (hcB.Rc hR (fun e => rc_ne_ph hR hP e)) (fun e => by
        rcases e with e | e
        · exact (hgs _ e).2.2.1 rfl
        · exact rc_ne_ph hR hP e)
      exact ⟨kc 2 _ q2, kc 1 _ q1, kc 0 _ q0, kc 3 _ q3, hRV.cells.1, hRV.cells.2.1, hRV.cells.2.2⟩
    refine Calls.mono (laid_obs rc k _ _ _ _ st (a : Int) er _ W hRW (fun w' => J w' ∧ Chg gs W w') (fun _ => ?_)) (fun e w' h => ⟨h.1, h.2.out.1, h.2.out.2⟩)
    have hW2 : Chg (fun x => gs x ∨ x = p) (bxs w rc s (.int .i64 n) 2) W := hW.mono (fun x e => Or.inr e)
    refine obs1_any _ _ _ _ s rc k (a : Int) st n er false W (fun w' => J w' ∧ Chg gs W w') (hbx W hW2) (fun w' hj => hbx w' (hW2.trans hj.2 (fun x e => Or.inl (Or.inl e)))) (fun _ => ?_)
    refine Calls.mono (HA W.drew (hcB.trans (hW.drew) (fun x e => Or.inl e))) ?_
    rintro e w' ⟨rfl, j1, j2⟩
    exact ⟨rfl, j1, j2.undrew⟩
  · rintro e w' ⟨rfl, h1, h2, h3, h4⟩
    exact ⟨rfl, h1, h2, h3, (Chg.of_below hb).trans h4 (fun x e => Or.inl e)⟩
end Go.Proofs.YtaeapikhhbjlnaaGreatDoor
/- THE RECORDER: Sample. Own work of the verifier. -/
namespace Go.Proofs.YtaeapikhhbjlnaaGreatDoor
open Go.RowKit

set_option maxHeartbeats 1000000 in
theorem laid_sam (rc s kt kg kr kn : Nat) (st b er : Int) (may : Bool) (w : World) (h : Rc w rc s st false) (J : World → Prop)
    (HC : Hid (∀ _ : Unit, Calls Tryz.prog 137 #[.int .i64 b, .pointer (some ⟨kt, 0, none⟩), .pointer (some ⟨kg, 0, none⟩), .pointer (some ⟨kr, 0, none⟩), .pointer (some ⟨kn, 0, none⟩)] w fun e w' => e = .returned (.int .i64 er) ∧ Hid (J w'))) :
    Calls Tryz.prog 123 #[.pointer (some ⟨rc, 0, none⟩), .int .i64 b, .bool may, .func (.func 137) #[] #[.pointer (some ⟨kt, 0, none⟩), .pointer (some ⟨kg, 0, none⟩), .pointer (some ⟨kr, 0, none⟩), .pointer (some ⟨kn, 0, none⟩)]] w fun e w' => e = .returned (.int .i64 (answ er may)) ∧ Hid (J w') := by
  obtain ⟨c0, c1, c2⟩ := h.cells
  clear h
  by_cases h1 : er = 1
  · subst h1
    cases may with
    | false =>
      go_enter Tryz.func123, Tryz.ntmps123
      go_wp2_with (go_at_call 137; with_reducible refine Calls.mono (HC.out ()) ?_; rintro e w1 ⟨rfl, HJ⟩)
      go_ret
      exact ⟨rfl, HJ⟩
    | true =>
      go_enter Tryz.func123, Tryz.ntmps123
      go_wp2_with (go_at_call 137; with_reducible refine Calls.mono (HC.out ()) ?_; rintro e w1 ⟨rfl, HJ⟩)
      go_ret
      exact ⟨rfl, HJ⟩
  · have e1 : answ er may = er := if_neg (fun k => h1 k.1)
    rw [e1]
    go_enter Tryz.func123, Tryz.ntmps123
    go_wp2_with (go_at_call 137; with_reducible refine Calls.mono (HC.out ()) ?_; rintro e w1 ⟨rfl, HJ⟩)
    go_ret
    exact ⟨rfl, HJ⟩
theorem sam1_any (kt kg kr kn s rc k : Nat) (b st er : Int) (n : Nat) (cl : Bool) (W : World) (J : World → Prop) (hB : Bx kt kg kr kn s rc k st cl (.float .f64 n) W) (HJB : Hid (∀ w', J w' → Bx kt kg kr kn s rc k st cl (.float .f64 n) w'))
    (HA : Hid (∀ _ : Unit, Calls Tryz.prog 138 #[.pointer (some ⟨s, 0, none⟩), .pointer none, .int .i64 b, .int .i64 st, .float .f64 n] W.drew fun e w' => e = .returned (.int .i64 er) ∧ Hid (J w'))) :
    Calls Tryz.prog 137 #[.int .i64 b, .pointer (some ⟨kt, 0, none⟩), .pointer (some ⟨kg, 0, none⟩), .pointer (some ⟨kr, 0, none⟩), .pointer (some ⟨kn, 0, none⟩)] W fun e w' => e = .returned (.int .i64 er) ∧ Hid (J w') := by
  go_enter Tryz.func137, Tryz.ntmps137
  go_wp2_with fail
  go_region_held3 (fun V => Bx kt kg kr kn s rc k st cl (.float .f64 n) V) (first | with_reducible assumption | exact hB) ((go_at_call 138; with_reducible refine Calls.mono (HA.out ()) ?_; rintro e w3 ⟨rfl, HJ⟩; have hB3 := HJB.out _ HJ.out))
  all_goals
    go_wp2_with fail
    go_ret
    exact ⟨rfl, HJ⟩
/-- The boxes, as they stay. -/
abbrev BxW (w : World) (rc s n : Nat) (V : World) : Prop := V.cell? ⟨w.heap.size, 0, none⟩ = some (.pointer (some ⟨rc, 0, none⟩)) ∧ V.cell? ⟨w.heap.size + 1, 0, none⟩ = some (.pointer none) ∧ V.cell? ⟨w.heap.size + 1 + 1, 0, none⟩ = some (.pointer (some ⟨s, 0, none⟩)) ∧ V.cell? ⟨w.heap.size + 1 + 1 + 1, 0, none⟩ = some (.float .f64 n)
theorem rsam_any (rc s : Nat) (er : Int) (n : Nat) (hn : n < 18446744073709551616) (w : World) (Q : World → Prop) (b : Bool) (hb : b = mayB n) (HQ : Hid (∀ w', Q w' → BxW w rc s n w'))
    (HR : Hid (∀ _ : Unit, Calls Tryz.prog 71 #[.pointer (some ⟨rc, 0, none⟩), .pointer none, .bool b, .func (.func 137) #[] #[.pointer (some ⟨w.heap.size + 1 + 1, 0, none⟩), .pointer (some ⟨w.heap.size + 1, 0, none⟩), .pointer (some ⟨w.heap.size, 0, none⟩), .pointer (some ⟨w.heap.size + 1 + 1 + 1, 0, none⟩)]] (bxs w rc s (.float .f64 n) 40).drew fun e w' => e = .returned (.int .i64 er) ∧ Hid (Q w'))) :
    Calls Tryz.prog 86 #[.pointer (some ⟨rc, 0, none⟩), .pointer none, .pointer (some ⟨s, 0, none⟩), .float .f64 n] w fun e w' => e = .returned (.int .i64 er) ∧ Hid (Q w') := by
  have hmf : ∀ (fn : Fn) (first cap : Array Value) (w : World), (Instr.makeFunc fn first cap).run Tryz.prog w = .ok (.func fn first cap) w := fun _ _ _ _ => rfl
  have HM : Hid (∀ W, _) := mayFloat_any n hn
  have hB : BxW w rc s n (bxs w rc s (.float .f64 n) 40) := bxs_cells w rc s (.float .f64 n) 40
  rw [← hb] at HM
  unfold bxs at HR hB
  clear hb hn
  go_enter Tryz.func86, Tryz.ntmps86
  go_upto_region 1 with fail
  go_region_held3 (fun V => BxW w rc s n V) (first | with_reducible assumption | exact hB)
    (first
      | (go_at_call 136; with_reducible refine Calls.mono (HM.out _) ?_; rintro e w1 ⟨rfl, rfl⟩)
      | (go_at_call 71; with_reducible refine Calls.mono (HR.out ()) ?_; rintro e w3 ⟨rfl, HJ⟩; have hB3 := HQ.out _ HJ.out))
  all_goals
    go_wp2_with fail
    go_ret
    exact ⟨rfl, HJ⟩
/-- Sample, of a recorder that is open. -/
theorem rsam_open (rc k p a s : Nat) (r0 r1 st er : Int) (n : Nat) (hn : n < 18446744073709551616) (neg : Bool) (m : Nat) (J : World → Prop) (gs : Nat → Prop) (w : World) (ha : a < 2) (hm : m < 4611686018427387904) (hr0 : In64 r0) (hr1 : In64 r1)
    (hR : Rc w rc k st false) (hS : Sh w k p a r0 r1) (hP : Pq w p neg m) (hgs : ∀ x, gs x → x ≠ k ∧ x ≠ p ∧ x ≠ rc ∧ x < w.heap.size) (hJ : ∀ W W', J W → Chg (fun x => x = k ∨ x = p) W W' → J W')
    (HA : ∀ W, Chg (fun x => x = p) w W → Calls Tryz.prog 138 #[.pointer (some ⟨s, 0, none⟩), .pointer none, .int .i64 (a : Int), .int .i64 st, .float .f64 n] W fun e w' => e = .returned (.int .i64 er) ∧ J w' ∧ Chg gs W w') :
    Calls Tryz.prog 86 #[.pointer (some ⟨rc, 0, none⟩), .pointer none, .pointer (some ⟨s, 0, none⟩), .float .f64 n] w fun e w' => e = .returned (.int .i64 (answ er (mayB n))) ∧ Hid (Sh w' k p a (bmp (answ er (mayB n)) a 0 r0) (bmp (answ er (mayB n)) a 1 r1) ∧ Pq w' p neg (m + 1) ∧ J w' ∧ Chg (fun x => gs x ∨ x = k ∨ x = p) w w') := by
  have hb := bxs_below w rc s (.float .f64 n) 40
  have hcB : Chg (fun x => x = p) w (bxs w rc s (.float .f64 n) 40) := Chg.of_below hb
  have hpl : p < w.heap.size := Pq.lt hP
  have hrl : rc < w.heap.size := (Array.getElem?_eq_some_iff.1 hR).1
  obtain ⟨q0, q1, q2, q3⟩ := bxs_cells w rc s (.float .f64 n) 40
  have hkl : k < w.heap.size := (Array.getElem?_eq_some_iff.1 hS).1
  have hd : Below w.heap.size w (bxs w rc s (.float .f64 n) 40).drew := ⟨hb.os, hb.tape, hb.output, hb.size, hb.block⟩
  refine Calls.mono (rsam_any rc s (answ er (mayB n)) n hn w (fun w' => Sh w' k p a (bmp (answ er (mayB n)) a 0 r0) (bmp (answ er (mayB n)) a 1 r1) ∧ Pq w' p neg (m + 1) ∧ J w' ∧ Chg (fun x => gs x ∨ x = k ∨ x = p) (bxs w rc s (.float .f64 n) 40).drew w') (mayB n) rfl (fun w' hw' => ?_) (fun _ => ?_)) (fun e w' h => ⟨h.1, h.2.out.1, h.2.out.2.1, h.2.out.2.2.1, (Chg.of_below hd).trans h.2.out.2.2.2 (fun x e => Or.inl e)⟩)
  · have kc : ∀ (j : Nat) (u : Value), (bxs w rc s (.float .f64 n) 40).cell? ⟨w.heap.size + j, 0, none⟩ = some u → w'.cell? ⟨w.heap.size + j, 0, none⟩ = some u := fun j u hu =>
      (World.cell?_of_block (hw'.2.2.2.block (w.heap.size + j) (lt_of_cell (w := (bxs w rc s (.float .f64 n) 40).drew) hu) (fun e => by
        rcases e with e | e | e
        · have := (hgs _ e).2.2.2; omega
        · omega
        · omega))).trans hu
    exact ⟨kc 0 _ q0, kc 1 _ q1, kc 2 _ q2, kc 3 _ q3⟩
  refine Calls.mono (record_any rc k p a r0 r1 st (answ er (mayB n)) neg m false _ _ J gs (bxs w rc s (.float .f64 n) 40).drew ha hm hr0 hr1 (hcB.Rc hR (fun e => rc_ne_ph hR hP e)) (hcB.Sh hS (fun e => sh_ne_pq hS hP e.symm)) (Pq.below hP hd) (fun x hx => ⟨(hgs x hx).1, (hgs x hx).2.1⟩) hJ (fun W hW => ?_)) ?_
  · have hRW : Rc W rc k st false := hW.Rc (hcB.Rc hR (fun e => rc_ne_ph hR hP e)) (fun e => rc_ne_ph hR hP e)
    have hbx : ∀ (V : World), Chg (fun x => gs x ∨ x = p) (bxs w rc s (.float .f64 n) 40) V → Bx (w.heap.size + 2) (w.heap.size + 1) w.heap.size (w.heap.size + 3) s rc k st false (.float .f64 n) V := fun V hV => by
      have kc : ∀ (j : Nat) (u : Value), (bxs w rc s (.float .f64 n) 40).cell? ⟨w.heap.size + j, 0, none⟩ = some u → V.cell? ⟨w.heap.size + j, 0, none⟩ = some u := fun j u hu =>
        (World.cell?_of_block (hV.block (w.heap.size + j) (lt_of_cell hu) (fun e => by
          rcases e with e | e
          · have := (hgs _ e).2.2.2; omega
          · omega))).trans hu
      have hRV : Rc V rc k st false := hV.Rc (hcB.Rc hR (fun e => rc_ne_ph hR hP e)) (fun e => by
        rcases e with e | e
        · exact (hgs _ e).2.2.1 rfl
        · exact rc_ne_ph hR hP e)
      exact ⟨kc 2 _ q2, kc 1 _ q1, kc 0 _ q0, kc 3 _ q3, hRV.cells.1, hRV.cells.2.1, hRV.cells.2.2⟩
    refine Calls.mono (laid_sam rc k _ _ _ _ st (a : Int) er _ W hRW (fun w' => J w' ∧ Chg gs W w') (fun _ => ?_)) (fun e w' h => ⟨h.1, h.2.out.1, h.2.out.2⟩)
    have hW2 : Chg (fun x => gs x ∨ x = p) (bxs w rc s (.float .f64 n) 40) W := hW.undrew.mono (fun x e => Or.inr e)
    refine sam1_any _ _ _ _ s rc k (a : Int) st er n false W (fun w' => J w' ∧ Chg gs W w') (hbx W hW2) (fun w' hj => hbx w' (hW2.trans hj.2 (fun x e => Or.inl (Or.inl e)))) (fun _ => ?_)
    refine Calls.mono (HA W.drew (hcB.trans (hW.undrew.drew) (fun x e => Or.inl e))) ?_
    rintro e w' ⟨rfl, j1, j2⟩
    exact ⟨rfl, j1, j2.undrew⟩
  · rintro e w' ⟨rfl, h1, h2, h3, h4⟩
    exact ⟨rfl, h1, h2, h3, h4⟩
end Go.Proofs.YtaeapikhhbjlnaaGreatDoor
