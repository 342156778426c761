/- THE READER: wide, whole, numbered. Own work of the verifier. -/
import Derived.Test.YtliehacfoiigpaaGreatDoorSAA
import Derived.Test.YtliehacfoiigpaaGreatDoorSAC
import Derived.Test.YtliehacfoiigpaaGreatDoorShelf
import Derived.Test.YtliehacfoiigpaaGreatDoorSAF
namespace Go.Proofs.YtliehacfoiigpaaGreatDoor
open Go.RowKit Me

/-- The number of 128 bits that a text says. -/
theorem hkN' {k : Nat} {o : Obj} {W W' : World} (h : W.heap[k]? = some o) (hb : Below W.heap.size W W') : W'.heap[k]? = some o := (hb.block k (Array.getElem?_eq_some_iff.1 h).1).trans h
def widR (l : List UInt8) : Option Int := if l.length ≤ 40 ∧ Lib.itoa (Wi.readF l) = l then some (Wi.readF l) else none
theorem cwide_any (l : List UInt8) (w : World) (ht : Wi.Tab w) :
    Calls Tryz.prog 20 #[.string ⟨l.toArray⟩] w fun e w' => ((∃ t, widR l = some t ∧ e = .returned (.tuple #[.agg #[.int .i64 (hiOf t), .int .u64 (loOf t)], .int .i64 0])) ∨ (widR l = none ∧ e = .returned (.tuple #[.agg #[.int .i64 0, .int .u64 0], .int .i64 5]))) ∧ Below w.heap.size w w' := by
  have hs : (ByteArray.mk l.toArray).size = l.length := by show l.toArray.size = _; simp
  by_cases h : l.length ≤ 40
  · refine (Wi.parse_short ⟨l.toArray⟩ (by omega) w ht).mono ?_
    rintro e w' ⟨rfl, hb⟩
    refine ⟨?_, hb⟩
    by_cases k : Lib.itoa (Wi.readF l) = l
    · exact Or.inl ⟨Wi.readF l, by unfold widR; rw [if_pos ⟨h, k⟩], by rw [if_pos k]⟩
    · exact Or.inr ⟨by unfold widR; rw [if_neg (fun q => k q.2)], by rw [if_neg k]⟩
  · refine (Wi.parse_long ⟨l.toArray⟩ (by omega) w).mono ?_
    rintro e w' ⟨rfl, hb⟩
    exact ⟨Or.inr ⟨by unfold widR; rw [if_neg (fun q => h q.1)], rfl⟩, hb⟩
theorem set2_cells {W : World} {b : Nat} {x y : Value} {t : TypeId} (h : W.heap[b]? = some (.cells #[x, y] t)) (a c : Int) : ((W.setCell ⟨b, 0, none⟩ (.int .i64 a)).setCell ⟨b, 1, none⟩ (.int .u64 c)).cell? ⟨b, 0, none⟩ = some (.int .i64 a) ∧ ((W.setCell ⟨b, 0, none⟩ (.int .i64 a)).setCell ⟨b, 1, none⟩ (.int .u64 c)).cell? ⟨b, 1, none⟩ = some (.int .u64 c) := by
  have h1 := Lib.heap_setCell_same (i := 0) h (.int .i64 a)
  have h2 := Lib.heap_setCell_same (i := 1) h1 (.int .u64 c)
  refine ⟨?_, ?_⟩ <;> simp [World.cell?, h2]
/-- What wide does. -/
def WdR (w : World) (S : List UInt8) (n : Nat) (e : Ending) (W : World) : Prop :=
  Below w.heap.size w W ∧ ((∃ t, widR S = some t ∧ e = .returned (.agg #[.int .i64 (hiOf t), .int .u64 (loOf t)])) ∨ (widR S = none ∧ e = gaveUp 5 n))
set_option maxRecDepth 100000 in
set_option maxHeartbeats 1000000 in
theorem rwide_any (u : World) (rb : Nat) (T S : List UInt8) (n : Nat) (w0 w : World) (h : Rd u rb w0 T n w) (ht : Wi.Tab u) :
    Calls Tryz.prog 13 #[.pointer (some ⟨rb, 0, none⟩), .string ⟨S.toArray⟩] w fun e w' => WdR w S n e w' := by
  obtain ⟨W0, hW0⟩ : ∃ W0, W0 = w.alloc (.cells #[.int .i64 0, .int .u64 0] 32) := ⟨_, rfl⟩
  have hN0 : W0.heap[w.heap.size]? = some (.cells #[.int .i64 0, .int .u64 0] 32) := by rw [hW0]; exact new_1 w _
  have hb0 : Below w.heap.size w W0 := by rw [hW0]; exact bel1 w _
  have HP : La.HidC _ _ _ _ _ := cwide_any S W0 (ht.below (bt h.st hb0))
  have HNo : Hid (∀ W, Below w.heap.size w W → Calls Tryz.prog 11 #[.pointer (some ⟨rb, 0, none⟩), .bool false] W fun e w' => e = gaveUp 5 n ∧ w' = W) := fun W k => must_no u rb T n w0 W (h.below k)
  have HYes : Hid (∀ W, Calls Tryz.prog 11 #[.pointer (some ⟨rb, 0, none⟩), .bool true] W fun e w' => e = .returned (.tuple #[]) ∧ w' = W) := fun W => must_yes rb W
  have HW0 := hid_of hW0
  have HB0 := hid_of hb0
  have HN0 := hid_of hN0
  clear h ht hW0 hb0 hN0
  go_enter Tryz.func13, Tryz.ntmps13
  go_upto_region 1 with fail
  rw [← HW0.out]
  clear HW0
  go_wp2_with fail
  refine Calls.mono HP.out ?_
  rintro e w1 ⟨hq, hb1⟩
  have HB1 : Hid (Below w.heap.size w w1) := bt HB0.out hb1
  have HN1 : Hid (w1.heap[w.heap.size]? = some (.cells #[.int .i64 0, .int .u64 0] 32)) := (hb1.block _ (Array.getElem?_eq_some_iff.1 HN0.out).1).trans HN0.out
  clear HP hb1 HB0 HN0
  rcases hq with ⟨t, ht, rfl⟩ | ⟨ht, rfl⟩
  · have HQ : Hid (∀ W, Below w.heap.size w W → WdR w S n (.returned (.agg #[.int .i64 (hiOf t), .int .u64 (loOf t)])) W) := fun W k => ⟨k, Or.inl ⟨t, ht, rfl⟩⟩
    have HN2 := hid_of (hkN' HN1.out (bel1 w1 (.cells #[.int .i64 (hiOf t), .int .u64 (loOf t)] 32)))
    have HB2 := hid_of (bt HB1.out (bel1 w1 (.cells #[.int .i64 (hiOf t), .int .u64 (loOf t)] 32)))
    have HM2 := hid_of (new_1 w1 (.cells #[.int .i64 (hiOf t), .int .u64 (loOf t)] 32))
    clear ht HNo
    go_wp2_with fail
    refine Calls.mono (HYes.out _) ?_
    rintro e w3 ⟨rfl, rfl⟩
    obtain ⟨W2, hW2⟩ : ∃ W2, w1.alloc (.cells #[.int .i64 (hiOf t), .int .u64 (loOf t)] 32) = W2 := ⟨_, rfl⟩
    rw [hW2] at HN2 HB2 HM2 ⊢
    obtain ⟨c0, c1, f0, f1⟩ : W2.cell? ⟨w.heap.size, 0, none⟩ = some (.int .i64 0) ∧ W2.cell? ⟨w.heap.size, 1, none⟩ = some (.int .u64 0) ∧ W2.frozen? ⟨w.heap.size, 0, none⟩ = false ∧ W2.frozen? ⟨w.heap.size, 1, none⟩ = false := by
      have := HN2.out
      refine ⟨?_, ?_, ?_, ?_⟩ <;> simp [World.cell?, World.frozen?, this]
    obtain ⟨d0, d1⟩ : W2.cell? ⟨w1.heap.size, 0, none⟩ = some (.int .i64 (hiOf t)) ∧ W2.cell? ⟨w1.heap.size, 1, none⟩ = some (.int .u64 (loOf t)) := by
      have := HM2.out
      refine ⟨?_, ?_⟩ <;> simp [World.cell?, this]
    have HF := hid_of (HQ.out ((W2.setCell ⟨w.heap.size, 0, none⟩ (.int .i64 (hiOf t))).setCell ⟨w.heap.size, 1, none⟩ (.int .u64 (loOf t))) ((HB2.out.setCell (p := ⟨w.heap.size, 0, none⟩) (Nat.le_refl _) _).setCell (p := ⟨w.heap.size, 1, none⟩) (Nat.le_refl _) _))
    have HS3 := hid_of (set2_cells HN2.out (hiOf t) (loOf t))
    clear hW2 HN1 HB1 HM2
    go_wp2_with fail
    obtain ⟨y0, y1⟩ := HS3.out
    simp [bodyPost, results, Tryz.results13, go_sem, y0, y1]
    exact HF.out
  · have HQ : Hid (∀ W, Below w.heap.size w W → WdR w S n (gaveUp 5 n) W) := fun W k => ⟨k, Or.inr ⟨ht, rfl⟩⟩
    have HB2 := hid_of (bt HB1.out (bel1 w1 (.cells #[.int .i64 0, .int .u64 0] 32)))
    have D3 : Hid _ := HNo.out _ HB2.out
    clear ht HYes
    go_wp2_with fail
    refine Calls.mono D3.out ?_
    rintro e w3 ⟨rfl, rfl⟩
    go_wp2_with fail
    exact ⟨rfl, HQ.out _ HB2.out⟩
end Go.Proofs.YtliehacfoiigpaaGreatDoor
/- THE READER: whole, numbered. Own work of the verifier. -/
namespace Go.Proofs.YtliehacfoiigpaaGreatDoor
open Go.RowKit Me

/-- The number from 0 to 2^64 - 1 that a text says. -/
def whoR (S : List UInt8) : Option Nat := (widR S).bind fun t => if hiOf t = 0 then some (loOf t).toNat else none
theorem lo_nat (t : Int) : ∃ k : Nat, loOf t = (k : Int) ∧ k < 18446744073709551616 := ⟨(loOf t).toNat, by unfold loOf; omega, by unfold loOf; omega⟩
/-- What whole does. -/
def WhR (w : World) (S : List UInt8) (n : Nat) (e : Ending) (W : World) : Prop :=
  Below w.heap.size w W ∧ ((∃ k : Nat, whoR S = some k ∧ k < 18446744073709551616 ∧ e = .returned (.int .u64 (k : Int))) ∨ (whoR S = none ∧ e = gaveUp 5 n))
set_option maxRecDepth 100000 in
set_option maxHeartbeats 1000000 in
theorem whole_any (u : World) (rb : Nat) (T S : List UInt8) (n : Nat) (w0 w : World) (h : Rd u rb w0 T n w) (ht : Wi.Tab u) :
    Calls Tryz.prog 8 #[.pointer (some ⟨rb, 0, none⟩), .string ⟨S.toArray⟩] w fun e w' => WhR w S n e w' := by
  have HP : La.HidC _ _ _ _ _ := rwide_any u rb T S n w0 w h ht
  have HNo : Hid (∀ W, Below w.heap.size w W → Calls Tryz.prog 11 #[.pointer (some ⟨rb, 0, none⟩), .bool false] W fun e w' => e = gaveUp 5 n ∧ w' = W) := fun W k => must_no u rb T n w0 W (h.below k)
  have HYes : Hid (∀ W, Calls Tryz.prog 11 #[.pointer (some ⟨rb, 0, none⟩), .bool true] W fun e w' => e = .returned (.tuple #[]) ∧ w' = W) := fun W => must_yes rb W
  clear h ht
  go_enter Tryz.func8, Tryz.ntmps8
  go_wp2_with fail
  refine Calls.mono HP.out ?_
  rintro e w1 ⟨hb1, hq⟩
  have HB1 := hid_of hb1
  clear HP hb1
  rcases hq with ⟨t, ht, rfl⟩ | ⟨ht, rfl⟩
  · obtain ⟨k, hk, hk64⟩ := lo_nat t
    rw [hk]
    have HB2 := hid_of (bt HB1.out (bel1 w1 (.cells #[.int .i64 (hiOf t), .int .u64 (k : Int)] 32)))
    by_cases hz : hiOf t = 0
    · have hw : whoR S = some k := by unfold whoR; rw [ht]; show (if _ then _ else _) = _; rw [if_pos hz, hk]; rfl
      have HQ : Hid (WhR w S n (.returned (.int .u64 (k : Int))) (w1.alloc (.cells #[.int .i64 0, .int .u64 (k : Int)] 32))) := ⟨by rw [← hz]; exact HB2.out, Or.inl ⟨k, hw, hk64, rfl⟩⟩
      rw [hz]
      clear hk hz ht hw HNo HB2 hk64
      go_wp2_with fail
      refine Calls.mono (HYes.out _) ?_
      rintro e w3 ⟨rfl, rfl⟩
      go_wp2_with fail
      go_ret
      exact HQ.out
    · have hw : whoR S = none := by unfold whoR; rw [ht]; show (if _ then _ else _) = _; rw [if_neg hz]
      have HQ : Hid (WhR w S n (gaveUp 5 n) (w1.alloc (.cells #[.int .i64 (hiOf t), .int .u64 (k : Int)] 32))) := ⟨HB2.out, Or.inr ⟨hw, rfl⟩⟩
      have hz' : (hiOf t == 0) = false := by rw [beq_eq_false_iff_ne]; exact hz
      have D3 : Hid _ := HNo.out _ HB2.out
      generalize hiOf t = a at *
      clear hk hz ht hw HYes HB2 hk64
      go_wp2_with fail
      refine Calls.mono D3.out ?_
      rintro e w3 ⟨rfl, rfl⟩
      go_wp2_with fail
      exact ⟨rfl, HQ.out⟩
  · have hw : whoR S = none := by unfold whoR; rw [ht]; rfl
    have HQ : Hid (WhR w S n (gaveUp 5 n) w1) := ⟨HB1.out, Or.inr ⟨hw, rfl⟩⟩
    clear ht hw HNo HYes
    go_wp2_with fail
    exact ⟨rfl, HQ.out⟩
/-- What numbered reads: a line, ended, with a blank: what stands ahead of the last one, and behind it. -/
def spl (L : List UInt8) : Option (List UInt8 × List UInt8) := if 0 ≤ Lib.lastIndex L [32] then some (L.take (Lib.lastIndex L [32]).toNat, L.drop ((Lib.lastIndex L [32]).toNat + 1)) else none
def NuR (u : World) (rb : Nat) (w0 : World) (T : List UInt8) (m : Nat) (e : Ending) (W : World) : Prop :=
  (∃ a b, (cut10 T).2.2 = true ∧ spl (cut10 T).1 = some (a, b) ∧ e = .returned (.tuple #[.string ⟨a.toArray⟩, .string ⟨b.toArray⟩]) ∧ Rd u rb w0 (cut10 T).2.1 m W) ∨
  ((cut10 T).2.2 = true ∧ spl (cut10 T).1 = none ∧ e = gaveUp 5 m ∧ Rd u rb w0 (cut10 T).2.1 m W) ∨
  ((cut10 T).2.2 = false ∧ e = gaveUp 5 m ∧ Rd u rb w0 T m W)
theorem lastOcc_lt (s sub : List UInt8) : ∀ n : Nat, -1 ≤ Lib.lastOcc s sub n ∧ Lib.lastOcc s sub n < (n : Int)
  | 0 => by unfold Lib.lastOcc; omega
  | n + 1 => by
    have ih := lastOcc_lt s sub n
    unfold Lib.lastOcc
    split <;> omega
theorem cut_len (T : List UInt8) : (cut10 T).1.length ≤ T.length ∧ (cut10 T).2.1.length ≤ T.length := by
  unfold cut10 Lib.cut
  split
  · simp only [List.length_take, List.length_drop]; omega
  · simp
theorem last_lt (L : List UInt8) : -1 ≤ Lib.lastIndex L [32] ∧ Lib.lastIndex L [32] < (L.length : Int) := by
  unfold Lib.lastIndex
  split
  · rename_i h
    have := lastOcc_lt L [32] (L.length - [(32 : UInt8)].length + 1)
    simp only [List.length_cons, List.length_nil] at *
    omega
  · rename_i h
    simp only [List.length_cons, List.length_nil] at h
    constructor
    · omega
    · have : 0 ≤ (L.length : Int) := by omega
      omega
set_option maxRecDepth 100000 in
set_option maxHeartbeats 1000000 in
theorem numbered_any (u : World) (rb : Nat) (T : List UInt8) (n : Nat) (w0 w : World) (h : Rd u rb w0 T n w) (hm : Mx u) (hT : T.length ≤ 4194304) (hn : n ≤ 4611686018427387904) :
    Calls Tryz.prog 59 #[.pointer (some ⟨rb, 0, none⟩)] w fun e w' => NuR u rb w0 T (n + 1) e w' := by
  have HP : La.HidC _ _ _ _ _ := next_any u rb T n w0 w h hm hT hn
  have hcl : (cut10 T).1.length ≤ 4194304 := by have := cut_len T; omega
  have HNo : Hid (∀ S W, Rd u rb w0 S (n + 1) W → Calls Tryz.prog 11 #[.pointer (some ⟨rb, 0, none⟩), .bool false] W fun e w' => e = gaveUp 5 (n + 1) ∧ w' = W) := fun S W k => must_no u rb S (n + 1) w0 W k
  have HYes : Hid (∀ W, Calls Tryz.prog 11 #[.pointer (some ⟨rb, 0, none⟩), .bool true] W fun e w' => e = .returned (.tuple #[]) ∧ w' = W) := fun W => must_yes rb W
  have HQ : Hid (∀ e W, ((∃ a b, (cut10 T).2.2 = true ∧ spl (cut10 T).1 = some (a, b) ∧ e = .returned (.tuple #[.string ⟨a.toArray⟩, .string ⟨b.toArray⟩]) ∧ Rd u rb w0 (cut10 T).2.1 (n + 1) W) ∨ ((cut10 T).2.2 = true ∧ spl (cut10 T).1 = none ∧ e = gaveUp 5 (n + 1) ∧ Rd u rb w0 (cut10 T).2.1 (n + 1) W) ∨ ((cut10 T).2.2 = false ∧ e = gaveUp 5 (n + 1) ∧ Rd u rb w0 T (n + 1) W)) → NuR u rb w0 T (n + 1) e W) := fun e W k => k
  generalize n + 1 = m at *
  clear h hm hT hn
  go_enter Tryz.func59, Tryz.ntmps59
  go_wp2_with fail
  refine Calls.mono HP.out ?_
  rintro e w1 (⟨hc, rfl, hr⟩ | ⟨hc, rfl, hr⟩)
  · have HR := hid_of hr
    have HLi : Hid (∀ W, Calls Tryz.prog 78 #[.string ⟨(cut10 T).1.toArray⟩, .string ⟨#[32]⟩] W fun e w' => e = .returned (.int .i64 (Lib.lastIndex (cut10 T).1 [32])) ∧ w' = W) := fun W => Tryz.strings_LastIndex ⟨(cut10 T).1.toArray⟩ ⟨#[32]⟩ (by show (cut10 T).1.toArray.size < _; simp; omega) W
    obtain ⟨l1, l2⟩ := last_lt (cut10 T).1
    by_cases hz : 0 ≤ Lib.lastIndex (cut10 T).1 [32]
    · have hs : spl (cut10 T).1 = some ((cut10 T).1.take (Lib.lastIndex (cut10 T).1 [32]).toNat, (cut10 T).1.drop ((Lib.lastIndex (cut10 T).1 [32]).toNat + 1)) := by unfold spl; rw [if_pos hz]
      have HF := hid_of (HQ.out _ w1.drew (Or.inl ⟨_, _, hc, hs, rfl, hr.below (bel_dn (Below.refl _ _) 1)⟩))
      obtain ⟨i, hi⟩ := Int.eq_ofNat_of_zero_le hz
      rw [hi] at HLi HF l2
      simp only [Int.toNat_natCast] at HF
      generalize (cut10 T).1 = L at *
      have hil : i < L.length := by omega
      clear HP hc hr hs HNo HQ hz l1 hi HR l2
      go_wp2_with fail
      refine Calls.mono (HLi.out _) ?_
      rintro e w2 ⟨rfl, rfl⟩
      go_wp2_with fail
      refine Calls.mono (HYes.out _) ?_
      rintro e w3 ⟨rfl, rfl⟩
      have hw1 : IntKind.i64.wrap ((i : Int) + 1) = (i : Int) + 1 := by rw [IntKind.wrap_i64]; omega
      go_upto_region 4 with fail
      go_region
      rw [La.take_bytes, La.drop_bytes]
      go_wp2_with fail
      go_ret2
      exact HF.out
    · have hs : spl (cut10 T).1 = none := by unfold spl; rw [if_neg hz]
      have HF := hid_of (HQ.out (gaveUp 5 m) w1 (Or.inr (Or.inl ⟨hc, hs, rfl, hr⟩)))
      generalize Lib.lastIndex (cut10 T).1 [32] = i at *
      have D3 : Hid _ := HNo.out _ w1 hr
      have hz1 : i = -1 := by omega
      subst hz1
      clear HP hc hr hs HNo HQ HYes HR hz l1 l2
      go_wp2_with fail
      refine Calls.mono (HLi.out _) ?_
      rintro e w2 ⟨rfl, rfl⟩
      go_wp2_with fail
      refine Calls.mono D3.out ?_
      rintro e w3 ⟨rfl, rfl⟩
      go_wp2_with fail
      exact ⟨rfl, HF.out⟩
  · have HF := hid_of (HQ.out (gaveUp 5 m) w1 (Or.inr (Or.inr ⟨hc, rfl, hr⟩)))
    clear HP HQ hc hr HNo HYes
    go_wp2_with fail
    exact ⟨rfl, HF.out⟩
end Go.Proofs.YtliehacfoiigpaaGreatDoor
