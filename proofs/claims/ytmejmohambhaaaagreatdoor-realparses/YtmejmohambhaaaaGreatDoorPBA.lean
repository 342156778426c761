/- WHOLE NUMBERS AS LISTS OF PARTS OF 32 BITS. Own work of the verifier. -/
import Derived.Test.YtmejmohambhaaaaGreatDoorRows
import Derived.Test.YtmejmohambhaaaaGreatDoorL10
import Derived.Maps.AppendAt
import Derived.Deep.AppendLies
import Derived.WalkMore
import Derived.IntWalk
import Derived.Deep.DeepCutAuto
import Derived.Deep.CutBlock
import Derived.Laws.ShiftsVarLaws
import Derived.Laws.OwnMore
namespace Go.Proofs.YtmejmohambhaaaaGreatDoor.Soft

/-- What a list of parts comes to, the lowest first. -/
def bv : List Nat → Nat
  | [] => 0
  | x :: l => x + 4294967296 * bv l
def B32 (L : List Nat) : Prop := ∀ x ∈ L, x < 4294967296
def Trm (L : List Nat) : Prop := ∀ h : L ≠ [], L.getLast h ≠ 0
theorem bv_append (L M : List Nat) : bv (L ++ M) = bv L + 4294967296 ^ L.length * bv M := by
  induction L with
  | nil => simp [bv]
  | cons x l ih =>
    show x + 4294967296 * bv (l ++ M) = x + 4294967296 * bv l + 4294967296 ^ (l.length + 1) * bv M
    rw [ih, Nat.mul_add, Nat.pow_succ, Nat.mul_comm (4294967296 ^ l.length) 4294967296, Nat.mul_assoc, Nat.add_assoc]
theorem bv_snoc (L : List Nat) (x : Nat) : bv (L ++ [x]) = bv L + 4294967296 ^ L.length * x := by
  rw [bv_append]; simp [bv]
theorem bv_lt {L : List Nat} (h : B32 L) : bv L < 4294967296 ^ L.length := by
  induction L with
  | nil => simp [bv]
  | cons x l ih =>
    have h1 := h x (by simp)
    have h2 := ih (fun y hy => h y (by simp [hy]))
    show x + 4294967296 * bv l < 4294967296 ^ (l.length + 1)
    rw [Nat.pow_succ]
    generalize 4294967296 ^ l.length = P at *
    omega
theorem bv_take_succ (L : List Nat) (k : Nat) (h : k < L.length) : bv (L.take (k + 1)) = bv (L.take k) + 4294967296 ^ k * L[k] := by
  rw [List.take_succ_eq_append_getElem h, bv_snoc, List.length_take, Nat.min_eq_left (by omega)]
theorem bv_take_zero (L : List Nat) (k : Nat) (h : k ≤ L.length) (hz : ∀ j (hj : j < L.length), k ≤ j → L[j] = 0) : bv (L.take k) = bv L := by
  have : ∀ n, k + n ≤ L.length → bv (L.take (k + n)) = bv (L.take k) := by
    intro n
    induction n with
    | zero => intro _; rfl
    | succ n ih =>
      intro hn
      rw [show k + (n + 1) = k + n + 1 from by omega, bv_take_succ L (k + n) (by omega), hz (k + n) (by omega) (by omega), Nat.mul_zero, Nat.add_zero, ih (by omega)]
  have h2 := this (L.length - k) (by omega)
  rw [show k + (L.length - k) = L.length from by omega, List.take_length] at h2
  exact h2.symm
/-- A part, or 0 behind the end. -/
def pt (L : List Nat) (i : Nat) : Nat := L.getD i 0
theorem pt_lt {L : List Nat} (h : B32 L) (i : Nat) : pt L i < 4294967296 := by
  unfold pt
  rw [List.getD_eq_getElem?_getD]
  cases hx : L[i]? with
  | none => simp
  | some x => simpa using h x (List.mem_of_getElem? hx)
/-- The parts up to i, those behind the end being 0. -/
def lowP (L : List Nat) (i : Nat) : Nat := bv (L.take i)
theorem lowP_succ (L : List Nat) (i : Nat) : lowP L (i + 1) = lowP L i + 4294967296 ^ i * pt L i := by
  unfold lowP
  by_cases h : i < L.length
  · rw [bv_take_succ L i h]
    unfold pt; simp [h]
  · rw [List.take_of_length_le (by omega), List.take_of_length_le (by omega)]
    unfold pt
    rw [List.getD_eq_getElem?_getD, List.getElem?_eq_none (by omega)]; simp
theorem lowP_all (L : List Nat) (i : Nat) (h : L.length ≤ i) : lowP L i = bv L := by unfold lowP; rw [List.take_of_length_le h]
/-- One step of a sum. -/
theorem plus_step {A C O : List Nat} {i c : Nat} (hO : O.length = i) (h : bv O + 4294967296 ^ i * c = lowP A i + lowP C i) :
    bv (O ++ [(c + pt A i + pt C i) % 4294967296]) + 4294967296 ^ (i + 1) * ((c + pt A i + pt C i) / 4294967296) = lowP A (i + 1) + lowP C (i + 1) := by
  rw [bv_snoc, hO, lowP_succ, lowP_succ, Nat.pow_succ]
  have e : 4294967296 ^ i * ((c + pt A i + pt C i) % 4294967296) + 4294967296 ^ i * 4294967296 * ((c + pt A i + pt C i) / 4294967296) = 4294967296 ^ i * c + 4294967296 ^ i * pt A i + 4294967296 ^ i * pt C i := by
    rw [Nat.mul_assoc, ← Nat.mul_add, Nat.mod_add_div, Nat.mul_add, Nat.mul_add]
  omega
theorem b32_snoc {O : List Nat} {x : Nat} (h : B32 O) (hx : x < 4294967296) : B32 (O ++ [x]) := fun y hy => by
  rcases List.mem_append.1 hy with k | k
  · exact h y k
  · simp at k; omega
theorem pt_in {L : List Nat} {i : Nat} (h : i < L.length) : pt L i = L[i] := by unfold pt; simp [h]
theorem pt_out {L : List Nat} {i : Nat} (h : ¬ i < L.length) : pt L i = 0 := by
  unfold pt; rw [List.getD_eq_getElem?_getD, List.getElem?_eq_none (by omega)]; rfl
/-- One step of a product. -/
theorem times_step {A O : List Nat} {i c n : Nat} (hO : O.length = i) (h : bv O + 4294967296 ^ i * c = lowP A i * n) :
    bv (O ++ [(c + pt A i * n) % 4294967296]) + 4294967296 ^ (i + 1) * ((c + pt A i * n) / 4294967296) = lowP A (i + 1) * n := by
  rw [bv_snoc, hO, lowP_succ, Nat.pow_succ, Nat.add_mul, ← h]
  have e : 4294967296 ^ i * ((c + pt A i * n) % 4294967296) + 4294967296 ^ i * 4294967296 * ((c + pt A i * n) / 4294967296) = 4294967296 ^ i * c + 4294967296 ^ i * pt A i * n := by
    rw [Nat.mul_assoc, ← Nat.mul_add, Nat.mod_add_div, Nat.mul_add, Nat.mul_assoc]
  omega
theorem times_lt {c x n : Nat} (hc : c < 4294967296) (hx : x < 4294967296) (hn : n < 4294967296) : c + x * n < 18446744073709551616 ∧ x * n < 18446744073709551616 ∧ (c + x * n) / 4294967296 < 4294967296 := by
  have h : x * n ≤ 4294967295 * 4294967295 := Nat.mul_le_mul (by omega) (by omega)
  generalize x * n = p at *
  omega
theorem bv_split (L : List Nat) (i : Nat) (h : i ≤ L.length) : bv L = lowP L i + 4294967296 ^ i * bv (L.drop i) := by
  have := bv_append (L.take i) (L.drop i)
  rw [List.take_append_drop, List.length_take, Nat.min_eq_left h] at this
  exact this
theorem low_lt {L : List Nat} (h : B32 L) (i : Nat) : lowP L i < 4294967296 ^ i := by
  unfold lowP
  have h1 := bv_lt (L := L.take i) (fun x hx => h x (List.mem_of_mem_take hx))
  refine Nat.lt_of_lt_of_le h1 (Nat.pow_le_pow_right (by decide) ?_)
  rw [List.length_take]; omega
theorem bv_ge {L : List Nat} (h : Trm L) (hL : L ≠ []) : 4294967296 ^ (L.length - 1) ≤ bv L := by
  have hl : 0 < L.length := List.length_pos_iff.2 hL
  have h1 := h hL
  rw [List.getLast_eq_getElem] at h1
  have h2 := bv_take_succ L (L.length - 1) (by omega)
  rw [show L.length - 1 + 1 = L.length from by omega, List.take_length] at h2
  have h3 : 4294967296 ^ (L.length - 1) * 1 ≤ 4294967296 ^ (L.length - 1) * L[L.length - 1] := Nat.mul_le_mul_left _ (by omega)
  omega
theorem bv_longer {A C : List Nat} (hA : Trm A) (hC : B32 C) (h : C.length < A.length) : bv C < bv A := by
  have h1 := bv_lt hC
  have h2 := bv_ge hA (fun e => by rw [e] at h; simp at h)
  have h3 : 4294967296 ^ C.length ≤ 4294967296 ^ (A.length - 1) := Nat.pow_le_pow_right (by decide) (by omega)
  omega
/-- The highest part that differs decides. -/
theorem bv_top {A C : List Nat} {i : Nat} (hC : B32 C) (hi : i < A.length) (hi2 : i < C.length) (hd : A.drop (i + 1) = C.drop (i + 1)) (h : C[i] < A[i]) : bv C < bv A := by
  rw [bv_split A (i + 1) (by omega), bv_split C (i + 1) (by omega), hd, lowP_succ, lowP_succ, pt_in hi, pt_in hi2]
  have h1 := low_lt hC i
  have h2 : 4294967296 ^ i * (C[i] + 1) ≤ 4294967296 ^ i * A[i] := Nat.mul_le_mul_left _ h
  rw [Nat.mul_add, Nat.mul_one] at h2
  omega
theorem drop_eq {A C : List Nat} {i : Nat} (hi : i < A.length) (hi2 : i < C.length) (hd : A.drop (i + 1) = C.drop (i + 1)) (h : A[i] = C[i]) : A.drop i = C.drop i := by
  rw [List.drop_eq_getElem_cons hi, List.drop_eq_getElem_cons hi2, hd, h]
/-- One step of a difference. -/
theorem apart_step {A C O : List Nat} {i ow part ow' : Nat} (hO : O.length = i) (h : bv O + lowP C i = lowP A i + 4294967296 ^ i * ow) (hp : part + pt C i + 4294967296 * 0 = pt A i + 4294967296 * ow' - ow) (hle : ow ≤ pt A i + 4294967296 * ow') :
    bv (O ++ [part]) + lowP C (i + 1) = lowP A (i + 1) + 4294967296 ^ (i + 1) * ow' := by
  rw [bv_snoc, hO, lowP_succ, lowP_succ, Nat.pow_succ]
  have e1 : part + pt C i + ow = pt A i + 4294967296 * ow' := by omega
  have e2 : 4294967296 ^ i * part + 4294967296 ^ i * pt C i + 4294967296 ^ i * ow = 4294967296 ^ i * pt A i + 4294967296 ^ i * 4294967296 * ow' := by
    rw [Nat.mul_assoc, ← Nat.mul_add, ← Nat.mul_add, ← Nat.mul_add, e1]
  omega
theorem apart_end {A C O : List Nat} {ow : Nat} (hO : O.length = A.length) (hB : B32 O) (_hA : B32 A) (hle : bv C ≤ bv A) (hl : C.length ≤ A.length) (ho : ow ≤ 1) (h : bv O + lowP C A.length = lowP A A.length + 4294967296 ^ A.length * ow) : bv O = bv A - bv C := by
  rw [lowP_all A _ (by omega), lowP_all C _ hl] at h
  have h1 := bv_lt hB
  rw [hO] at h1
  have : ow = 0 := by
    rcases Nat.eq_zero_or_pos ow with c | c
    · exact c
    · exfalso
      have : ow = 1 := by omega
      rw [this, Nat.mul_one] at h
      omega
  rw [this, Nat.mul_zero, Nat.add_zero] at h
  omega
theorem len_le {A C : List Nat} (hC : Trm C) (hA : B32 A) (h : bv C ≤ bv A) : C.length ≤ A.length := by
  rcases Nat.lt_or_ge A.length C.length with c | c
  · have := bv_longer hC hA c; omega
  · exact c
end Go.Proofs.YtmejmohambhaaaaGreatDoor.Soft
/- WHOLE NUMBERS OF ANY LENGTH, the document's of layer 2: rows, trim. Own work of the verifier. -/
namespace Go.Proofs.YtmejmohambhaaaaGreatDoor
open Go.RowKit Soft

/-- A row of the call's own (at B or behind it) that grows. -/
structure GB (B : Nat) (e : TypeId) (f : Nat → Value) (W0 : World) (v : Value) (xs : List Nat) (w : World) : Prop where
  own : w.ownsRow B e 1 v xs.length (xs.map f)
  nz : v ≠ .slice none 0 0
  below : Below B W0 w
  size : B ≤ w.heap.size
theorem own_ofG {w : World} {B : Nat} {e : TypeId} {v : Value} {n : Nat} {xs : List Value} (h : w.ownsRow B e 1 v n xs) (hn : v ≠ .slice none 0 0) : ∃ g cap cur, v = .slice (some ⟨g, 0, none⟩) n cap ∧ B ≤ g ∧ w.heap[g]? = some (.cells cur e) ∧ n ≤ cap ∧ cap ≤ maxLen ∧ cur.size = cap ∧ cur.toList.take n = xs := by
  rcases h.2 with h2 | ⟨g, cap, cur, hv, hg, hh, h3, h4, h5, h6⟩
  · exact absurd h2.1 hn
  · exact ⟨g, cap, cur, hv, hg, hh, h3, h4, by simpa using h5, by simpa using h6⟩
theorem GB.push {B : Nat} {e : TypeId} {f : Nat → Value} {W0 w w' : World} {v v' : Value} {xs : List Nat} {x : Nat} {y : Value} (h : GB B e f W0 v xs w) (ob : Obj) (hy : y = f x)
    (hown : w'.ownsRow B e 1 v' (xs.length + 1) (xs.map f ++ [y])) (hg : (w.alloc ob).grownBy w' v.ownBlock) (hnil : v' = .slice none 0 0 ↔ v = .slice none 0 0 ∧ 1 = 0) : GB B e f W0 v' (xs ++ [x]) w' := by
  obtain ⟨gv, cap, cur, rfl, hB, hcur, _⟩ := own_ofG h.own h.nz
  have hw := World.grownBy_alloc w ob none
  have hg' : (w.alloc ob).grownBy w' (some gv) := hg
  have s1 := hw.size
  have s2 := hg'.size
  refine ⟨?_, fun e => h.nz (hnil.1 e).1, ?_, by have := h.size; omega⟩
  · rw [List.length_append, List.map_append]; subst hy; exact hown
  · exact (h.below.grown hw h.size (fun k e => by cases e)).grown hg' (by have := h.size; omega) (fun k e => by cases e; exact hB)
theorem GB.drew {B : Nat} {e : TypeId} {f : Nat → Value} {W0 w : World} {v : Value} {xs : List Nat} (h : GB B e f W0 v xs w) : GB B e f W0 v xs w.drew := ⟨h.own, h.nz, h.below.drew, h.size⟩
theorem GB.new {e : TypeId} {f : Nat → Value} (w : World) : GB w.heap.size e f w (.slice (some ⟨w.heap.size, 0, none⟩) 0 0) [] (w.alloc (.cells #[] e)) := by
  refine ⟨⟨rfl, .inr ⟨w.heap.size, 0, #[], rfl, Nat.le_refl _, ?_, Nat.le_refl _, by unfold maxLen; omega, rfl, rfl⟩⟩, (fun h => by cases h), bel1 w _, by simp⟩
  show (w.heap.push _)[w.heap.size]? = _
  simp
def pV (n : Nat) : Value := .int .u32 (n : Int)
/-- Parts of 32 bits, one behind the other. -/
def RowP (w : World) (b o : Nat) (L : List Nat) : Prop := ∀ i (h : i < L.length), w.cell? ⟨b, o + i, none⟩ = some (.int .u32 ((L[i] : Nat) : Int))
theorem RowP.below {w w1 : World} {b o : Nat} {L : List Nat} {B : Nat} (h : RowP w b o L) (hb : Below B w w1) (hB : L ≠ [] → b < B) : RowP w1 b o L := fun i hi => by
  rw [hb.cell (p := ⟨b, o + i, none⟩) (hB (by intro k; rw [k] at hi; simp at hi))]; exact h i hi
theorem RowP.lt {w : World} {b o : Nat} {L : List Nat} (h : RowP w b o L) (hL : L ≠ []) : b < w.heap.size := by
  cases L with
  | nil => exact absurd rfl hL
  | cons x l => exact lt_of_cell (h 0 (by simp))
/-- A slice of parts. -/
structure RB (W : World) (ao : Option Addr) (b o cap : Nat) (L : List Nat) : Prop where
  addr : L ≠ [] → ao = some ⟨b, o, none⟩
  lc : L.length ≤ cap
  mx : cap ≤ 9223372036854775807
  small : B32 L
  row : RowP W b o L
theorem RB.below {W W1 : World} {ao : Option Addr} {b o cap : Nat} {L : List Nat} (h : RB W ao b o cap L) (hb : Below W.heap.size W W1) : RB W1 ao b o cap L :=
  ⟨h.addr, h.lc, h.mx, h.small, h.row.below hb (fun k => h.row.lt k)⟩
theorem sizeP (W : World) : (sizeOf 76).run Tryz.prog W = .ok 1 W := by simp [sizeOf]; rfl
theorem slice_to (t e : TypeId) (a : Option Addr) (len cap n : Nat) (ht : Tryz.prog.underlying t = some (.slice e)) (hn : n ≤ cap) (hs : ∀ W, (sizeOf e).run Tryz.prog W = .ok 1 W) (W : World) :
    (Instr.slice t (.slice a len cap) none (some (.int .i64 (n : Int))) none).run Tryz.prog W = .ok (.slice a n cap) W := by
  have he : Tryz.prog.elem t = e := by simp [Program.elem, ht]
  rw [run_slice_h W t a len cap (by rw [he]; exact ht) .i64 (n : Int) (by omega) (by omega), he, hs]
  simp [sliced]
  intro _
  cases a <;> simp [Addr.add]
def lenOf : Value → Nat
  | .slice _ n _ => n
  | _ => 0
set_option maxHeartbeats 1000000 in
theorem ntrim_any (ao : Option Addr) (b o cap : Nat) (L : List Nat) (w : World) (h : RB w ao b o cap L) :
    Calls Tryz.prog 109 #[.slice ao L.length cap] w fun e w' => ∃ n, e = .returned (.slice ao n cap) ∧ w' = w ∧ n ≤ L.length ∧ (∀ j (hj : j < L.length), n ≤ j → L[j] = 0) ∧ (∀ k (hk : k < L.length), n = k + 1 → L[k] ≠ 0) := by
  have hcp := h.lc
  have hmx := h.mx
  go_enter Tryz.func109, Tryz.ntmps109
  go_wp2_with fail
  go_loop [0] (fun a => ∃ n : Nat, n ≤ L.length ∧ a = .slice ao n cap ∧ Hid (∀ j (hj : j < L.length), n ≤ j → L[j] = 0)) (fun a => lenOf a)
  case atStart => exact ⟨L.length, by omega, rfl, fun j hj k => by omega⟩
  case round =>
    obtain ⟨n, hn, rfl, hz⟩ := hrel
    cases n with
    | zero =>
      go_wp2_with fail
      go_ret
      exact ⟨0, rfl, rfl, by omega, hz.out, fun k hk e => by omega⟩
    | succ k =>
      obtain rfl := h.addr (by intro e; rw [e] at hn; simp at hn)
      have hsl := slice_to 94 76 (some ⟨b, o, none⟩) (k + 1) cap k Tryz.underlying94 (by omega) sizeP
      have hk : k < L.length := by omega
      have q1 := h.row k hk
      have hp : (0 : Int) < ((k + 1 : Nat) : Int) := by omega
      have hi1 : ((k + 1 : Nat) : Int) - 1 = (k : Int) := by omega
      by_cases hx : L[k] = 0
      · rw [hx] at q1
        have hz' : Hid (∀ j (hj : j < L.length), k ≤ j → L[j] = 0) := fun j hj hkj => by
          rcases Nat.eq_or_lt_of_le hkj with e | e
          · subst e; exact hx
          · exact hz.out j hj e
        go_wp2_with (first | simp only [hsl])
        go_round
        case rel => exact ⟨k, by omega, rfl, hz'⟩
        case measure => simp [lenOf]
      · have HX : Hid (L[k] ≠ 0) := hx
        have hx2 : (((L[k] : Nat) : Int) == 0) = false := by rw [beq_eq_false_iff_ne]; omega
        clear hsl
        go_wp2_with fail
        go_ret
        exact ⟨k + 1, rfl, rfl, hn, hz.out, fun j hj e => by
          have ej : k = j := by omega
          subst ej
          exact HX.out⟩
/-- A whole number that lies in memory, without parts that are 0 at the end. -/
def BigAt (W : World) (v : Value) (N : Nat) : Prop := ∃ ao b o cap L, v = .slice ao L.length cap ∧ RB W ao b o cap L ∧ bv L = N ∧ Trm L
theorem BigAt.below {W W1 : World} {v : Value} {N : Nat} (h : BigAt W v N) (hb : Below W.heap.size W W1) : BigAt W1 v N := by
  obtain ⟨ao, b, o, cap, L, h1, h2, h3, h4⟩ := h
  exact ⟨ao, b, o, cap, L, h1, h2.below hb, h3, h4⟩
theorem ntrim_big (ao : Option Addr) (b o cap : Nat) (L : List Nat) (w : World) (h : RB w ao b o cap L) :
    Calls Tryz.prog 109 #[.slice ao L.length cap] w fun e w' => ∃ v, e = .returned v ∧ w' = w ∧ BigAt w v (bv L) := by
  refine (ntrim_any ao b o cap L w h).mono ?_
  rintro e w' ⟨n, rfl, rfl, hn, hz, hx⟩
  have hlen : (L.take n).length = n := by rw [List.length_take]; omega
  refine ⟨_, rfl, rfl, ao, b, o, cap, L.take n, by rw [hlen], ⟨?_, ?_, h.mx, ?_, ?_⟩, ?_, ?_⟩
  · intro hne; exact h.addr (fun e => hne (by rw [e]; simp))
  · rw [hlen]; have := h.lc; omega
  · intro x hx; exact h.small x (List.mem_of_mem_take hx)
  · intro i hi
    rw [hlen] at hi
    rw [h.row i (by omega)]
    simp
  · exact bv_take_zero L n hn hz
  · intro hne
    have hn0 : n ≠ 0 := fun e => hne (by rw [e]; simp)
    rw [List.getLast_eq_getElem]
    simp only [hlen, List.getElem_take]
    exact hx (n - 1) (by omega) (by omega)
/-- The same, with an address. -/
def BigIn (W : World) (v : Value) (N : Nat) : Prop := ∃ b o cap L, v = .slice (some ⟨b, o, none⟩) L.length cap ∧ RB W (some ⟨b, o, none⟩) b o cap L ∧ bv L = N ∧ Trm L
theorem BigIn.big {W : World} {v : Value} {N : Nat} (h : BigIn W v N) : BigAt W v N := by
  obtain ⟨b, o, cap, L, h1, h2, h3, h4⟩ := h
  exact ⟨_, b, o, cap, L, h1, h2, h3, h4⟩
theorem ntrim_in (b o cap : Nat) (L : List Nat) (w : World) (h : RB w (some ⟨b, o, none⟩) b o cap L) :
    Calls Tryz.prog 109 #[.slice (some ⟨b, o, none⟩) L.length cap] w fun e w' => ∃ v, e = .returned v ∧ w' = w ∧ BigIn w v (bv L) := by
  refine (ntrim_any (some ⟨b, o, none⟩) b o cap L w h).mono ?_
  rintro e w' ⟨n, rfl, rfl, hn, hz, hx⟩
  have hlen : (L.take n).length = n := by rw [List.length_take]; omega
  refine ⟨_, rfl, rfl, b, o, cap, L.take n, by rw [hlen], ⟨?_, ?_, h.mx, ?_, ?_⟩, ?_, ?_⟩
  · intro hne; exact h.addr (fun e => hne (by rw [e]; simp))
  · rw [hlen]; have := h.lc; omega
  · intro x hx; exact h.small x (List.mem_of_mem_take hx)
  · intro i hi
    rw [hlen] at hi
    rw [h.row i (by omega)]
    simp
  · exact bv_take_zero L n hn hz
  · intro hne
    have hn0 : n ≠ 0 := fun e => hne (by rw [e]; simp)
    rw [List.getLast_eq_getElem]
    simp only [hlen, List.getElem_take]
    exact hx (n - 1) (by omega) (by omega)
theorem infoP : (Tryz.prog.info? 76).map (fun i => (i.zero, i.size, i.bytes)) = some (some (.int .u32 0), 1, 4) := by kernel_rfl
theorem GB.rowP {B : Nat} {W0 v : _} {L : List Nat} {w : World} (h : GB B 76 pV W0 v L w) (hs : B32 L) : ∃ g cap, v = .slice (some ⟨g, 0, none⟩) L.length cap ∧ B ≤ g ∧ RB w (some ⟨g, 0, none⟩) g 0 cap L := by
  obtain ⟨g, cap, cur, rfl, hB, hcur, h1, h2, h3, h4⟩ := own_ofG h.own h.nz
  refine ⟨g, cap, rfl, hB, ⟨fun _ => rfl, h1, h2, hs, ?_⟩⟩
  intro i hi
  have := h.own.cellAt i (by simpa using hi)
  rw [Nat.zero_add, this]
  simp [hi, pV]
end Go.Proofs.YtmejmohambhaaaaGreatDoor
/- PRODUCTS of whole numbers of any length, the document's of layer 2. Own work of the verifier. -/
namespace Go.Proofs.YtmejmohambhaaaaGreatDoor
open Go.RowKit Soft

set_option maxHeartbeats 2000000 in
theorem ntimes_rows (ao : Option Addr) (b o cap : Nat) (A : List Nat) (n : Nat) (hn : n < 4294967296) (w : World) (h : RB w ao b o cap A) (hl : A.length ≤ 1000000000) :
    Calls Tryz.prog 76 #[.slice ao A.length cap, .int .u32 (n : Int)] w fun e w' => ∃ v, e = .returned v ∧ Below w.heap.size w w' ∧ BigIn w' v (bv A * n) := by
  obtain ⟨i0, hi, hz0, hz1, hz2⟩ := info_parts infoP
  go_enter Tryz.func76, Tryz.ntmps76
  go_wp2_with fail
  go_loopw [5, 6, 7] (fun v cr a wr => ∃ (i c : Nat) (O : List Nat), cr = .int .u64 (c : Int) ∧ a = .int .i64 (i : Int) ∧ c < 4294967296 ∧ i ≤ A.length ∧ GB w.heap.size 76 pV w v O wr ∧ Hid (O.length = i ∧ B32 O ∧ bv O + 4294967296 ^ i * c = lowP A i * n)) (fun _ _ a _ => (A.length - (intOf a).toNat))
  case atStart => exact ⟨0, 0, [], rfl, rfl, by omega, by omega, GB.new w, ⟨rfl, (fun x hx => by cases hx), by simp [bv, lowP]⟩⟩
  case round =>
    obtain ⟨i, c, O, rfl, rfl, hc, hic, hG, hH⟩ := hrel
    have hx := pt_lt h.small i
    have HS : Hid _ := times_step hH.out.1 hH.out.2.2
    have hB := hG.below
    have hol : O.length = i := hH.out.1
    have HO : Hid (B32 O) := hH.out.2.1
    by_cases u1 : i < A.length
    · obtain rfl := h.addr (by intro e; rw [e] at u1; simp at u1)
      have q1 : wr.cell? ⟨b, o + i, none⟩ = some (.int .u32 ((pt A i : Nat) : Int)) := by rw [pt_in u1]; exact (h.row.below hB (fun e => h.row.lt e)) i u1
      have v1 : (i : Int) < (A.length : Int) := by omega
      generalize pt A i = x at *
      obtain ⟨l1, l2, l3⟩ := times_lt hc hx hn
      have s0 : (x : Int) * (n : Int) = ((x * n : Nat) : Int) := by rw [Int.natCast_mul]
      have s1 : (c : Int) + ((x * n : Nat) : Int) = ((c + x * n : Nat) : Int) := by omega
      have s3 : IntKind.u32.wrap ((c + x * n : Nat) : Int) = (((c + x * n) % 4294967296 : Nat) : Int) := by rw [IntKind.wrap_u32']; omega
      have s4 : ((c + x * n : Nat) : Int) / 4294967296 = (((c + x * n) / 4294967296 : Nat) : Int) := by omega
      have HQ : Hid ((c + x * n) % 4294967296 < 4294967296 ∧ (c + x * n) / 4294967296 < 4294967296) := by unfold Hid; omega
      generalize (c + x * n) % 4294967296 = r at *
      generalize (c + x * n) / 4294967296 = q at *
      generalize c + x * n = s at *
      generalize x * n = p at *
      go_wp2_with (first | (at_builtin; refine wpList_append_own _ rfl _ _ 94 rfl w.heap.size 76 i0 (.int .u32 0) 1 4 Tryz.underlying94 hi hz0 hz1 hz2 rfl (by decide) _ _ _ rfl (hG.own.alloc _) ⟨_, 0, none⟩ 1 1 [_] rfl rfl (cell_one_new _ _ _) (by intro u hu; simp at hu; subst hu; rfl) (by unfold maxLen; omega) (by omega) (by have := hG.size; simp; omega) ?_; intro v' w7 hown hgrow hnil; have hG7 := hG.push (x := r) _ rfl hown hgrow hnil; clear hown hgrow hnil))
      exact ⟨⟨i + 1, q, O ++ [r], rfl, by go_num, HQ.out.2, by omega, hG7, ⟨by rw [List.length_append, hol]; rfl, b32_snoc HO.out HQ.out.1, HS.out⟩⟩, by simp [intOf]; omega⟩
    · have v1 : ¬ (i : Int) < (A.length : Int) := by omega
      have s3 : IntKind.u32.wrap (c : Int) = (c : Int) := by rw [IntKind.wrap_u32']; omega
      have HB : Hid (B32 (O ++ [c]) ∧ bv (O ++ [c]) = bv A * n) := by
        refine ⟨b32_snoc HO.out hc, ?_⟩
        have e := hH.out.2.2
        rw [lowP_all A i (by omega)] at e
        rw [bv_snoc, hol]
        exact e
      go_wp2_with (first
        | (at_builtin; refine wpList_append_own _ rfl _ _ 94 rfl w.heap.size 76 i0 (.int .u32 0) 1 4 Tryz.underlying94 hi hz0 hz1 hz2 rfl (by decide) _ _ _ rfl (hG.own.alloc _) ⟨_, 0, none⟩ 1 1 [_] rfl rfl (cell_one_new _ _ _) (by intro u hu; simp at hu; subst hu; rfl) (by unfold maxLen; omega) (by omega) (by have := hG.size; simp; omega) ?_; intro v' w7 hown hgrow hnil; have hG7 := hG.push (x := c) _ rfl hown hgrow hnil; clear hown hgrow hnil)
        | (go_at_call 109
           obtain ⟨g, cap3, rfl, hgB, hRB⟩ := hG7.rowP HB.out.1
           have hT := ntrim_in g 0 cap3 (O ++ [c]) w7 hRB
           with_reducible refine hT.mono ?_
           rintro e w' ⟨v', rfl, rfl, hbig⟩))
      go_ret
      rw [HB.out.2] at hbig
      exact ⟨_, rfl, hG7.below, hbig⟩
theorem len_of {L : List Nat} {K : Nat} (h : Trm L) (hb : bv L < 4294967296 ^ K) : L.length ≤ K := by
  rcases Nat.lt_or_ge K L.length with c | c
  · have h2 := bv_ge h (fun e => by rw [e] at c; simp at c)
    have h3 : 4294967296 ^ K ≤ 4294967296 ^ (L.length - 1) := Nat.pow_le_pow_right (by decide) (by omega)
    exact absurd hb (by omega)
  · exact c
/-- Short enough. -/
def NSh (N : Nat) : Prop := ∃ K, K ≤ 1000000000 ∧ N < 4294967296 ^ K
theorem NSh.le {M N : Nat} (h : NSh N) (hM : M ≤ N) : NSh M := by
  obtain ⟨K, h1, h2⟩ := h
  exact ⟨K, h1, Nat.lt_of_le_of_lt hM h2⟩
/-- Of a thousand parts at most. -/
def Sm (N : Nat) : Prop := ∃ K, K ≤ 1000 ∧ N < 4294967296 ^ K
theorem Sm.nsh {N : Nat} (h : Sm N) : NSh N := by
  obtain ⟨K, h1, h2⟩ := h
  exact ⟨K, by omega, h2⟩
theorem Sm.le {M N : Nat} (h : Sm N) (hM : M ≤ N) : Sm M := by
  obtain ⟨K, h1, h2⟩ := h
  exact ⟨K, h1, Nat.lt_of_le_of_lt hM h2⟩
theorem Sm.len {N : Nat} {L : List Nat} (h : Sm N) (hT : Trm L) (hb : bv L = N) : L.length ≤ 1000 := by
  obtain ⟨K, h1, h2⟩ := h
  exact Nat.le_trans (len_of hT (by rw [hb]; exact h2)) h1
theorem sm_of (c s k : Nat) (hc : c < 18446744073709551616) (hs : s ≤ 1100) (hk : k ≤ 5000) : Sm (c * 10 ^ s * 2 ^ k) := by
  have h1 : 10 ^ s ≤ 2 ^ (4 * s) := by rw [Nat.pow_mul]; exact Nat.pow_le_pow_left (by decide) s
  have h2 : c * 10 ^ s * 2 ^ k ≤ 2 ^ 64 * 2 ^ (4 * s) * 2 ^ k := Nat.mul_le_mul_right _ (Nat.mul_le_mul (Nat.le_of_lt hc) h1)
  rw [← Nat.pow_add, ← Nat.pow_add] at h2
  obtain ⟨K, hK, hK2⟩ : ∃ K, 64 + 4 * s + k < 32 * K ∧ K ≤ 1000 := ⟨(64 + 4 * s + k) / 32 + 1, by omega, by omega⟩
  have h3 : 2 ^ (64 + 4 * s + k) < 2 ^ (32 * K) := Nat.pow_lt_pow_right (by decide) hK
  rw [Nat.pow_mul 2 32 K] at h3
  exact ⟨K, hK2, Nat.lt_of_le_of_lt h2 h3⟩
theorem ntimes_v {W : World} {v : Value} {N : Nat} (n : Nat) (hn : n < 4294967296) (h : BigAt W v N) (hs : NSh N) :
    Calls Tryz.prog 76 #[v, .int .u32 (n : Int)] W fun e w' => ∃ v, e = .returned v ∧ Below W.heap.size W w' ∧ BigIn w' v (N * n) := by
  obtain ⟨ao, b, o, cap, L, rfl, hR, rfl, hT⟩ := h
  obtain ⟨K, k1, k2⟩ := hs
  exact ntimes_rows ao b o cap L n hn W hR (Nat.le_trans (len_of hT k2) k1)
end Go.Proofs.YtmejmohambhaaaaGreatDoor
/- compare, of: the document's whole numbers of layer 2. Own work of the verifier. -/
namespace Go.Proofs.YtmejmohambhaaaaGreatDoor
open Go.RowKit Soft

/-- How two numbers stand. -/
def cmpN (a b : Nat) : Int := if a < b then -1 else if b < a then 1 else 0
theorem cmpN_lt {a b : Nat} (h : a < b) : cmpN a b = -1 := if_pos h
theorem cmpN_gt {a b : Nat} (h : b < a) : cmpN a b = 1 := by unfold cmpN; rw [if_neg (by omega), if_pos h]
theorem cmpN_eq {a b : Nat} (h : a = b) : cmpN a b = 0 := by unfold cmpN; rw [if_neg (by omega), if_neg (by omega)]
set_option maxHeartbeats 2000000 in
set_option maxRecDepth 100000 in
theorem ncompare_rows (ao : Option Addr) (b o cap : Nat) (A : List Nat) (ao2 : Option Addr) (b2 o2 cap2 : Nat) (C : List Nat) (w : World) (h : RB w ao b o cap A) (k : RB w ao2 b2 o2 cap2 C) (tA : Trm A) (tC : Trm C) (hl : A.length ≤ 1000000000) (_hl2 : C.length ≤ 1000000000) :
    Calls Tryz.prog 74 #[.slice ao A.length cap, .slice ao2 C.length cap2] w fun e w' => e = .returned (.int .i64 (cmpN (bv A) (bv C))) ∧ ∃ m, w' = w.drewN m := by
  by_cases hne : A.length = C.length
  · have t0 : ((A.length : Int) != (C.length : Int)) = false := by rw [bne_eq_false_iff_eq]; omega
    have HN : Hid _ := hne
    clear hne
    go_enter Tryz.func74, Tryz.ntmps74
    go_wp2_with fail
    go_loopw [5] (fun a wr => ∃ j : Nat, j ≤ A.length ∧ a = .int .i64 ((j : Int) - 1) ∧ Hid (A.drop j = C.drop j) ∧ ∃ q, wr = w.drewN q) (fun a _ => (intOf a + 1).toNat)
    case atStart => exact ⟨A.length, by omega, rfl, by show A.drop _ = C.drop _; rw [List.drop_length, HN.out, List.drop_length], 0, rfl⟩
    case round =>
      clear t0
      obtain ⟨j, hj, rfl, hd, q, rfl⟩ := hrel
      cases j with
      | zero =>
        have hAC : A = C := by have := hd.out; simpa using this
        as_aux_lemma =>
          go_wp2_with fail
          go_ret
          exact ⟨congrArg (fun z => Ending.returned (.int .i64 z)) (cmpN_eq (by rw [hAC])).symm, _, rfl⟩
      | succ i =>
        have hi1 : ((i + 1 : Nat) : Int) - 1 = (i : Int) := by omega
        have hiA : i < A.length := by omega
        have hiC : i < C.length := by have := HN.out; omega
        obtain rfl := h.addr (by intro e; rw [e] at hiA; simp at hiA)
        obtain rfl := k.addr (by intro e; rw [e] at hiC; simp at hiC)
        have q1 := h.row i hiA
        have q2 := k.row i hiC
        have v1 : (i : Int) < (A.length : Int) := by omega
        have v2 : (i : Int) < (C.length : Int) := by omega
        have HT1 : Hid (A[i] < C[i] → bv A < bv C) := fun hc => bv_top h.small hiC hiA hd.out.symm hc
        have HT2 : Hid (C[i] < A[i] → bv C < bv A) := fun hc => bv_top k.small hiA hiC hd.out hc
        have HT3 : Hid (A[i] = C[i] → A.drop i = C.drop i) := fun hc => drop_eq hiA hiC hd.out hc
        rw [hi1]
        generalize A[i] = x at *
        generalize C[i] = y at *
        rcases Nat.lt_trichotomy x y with c | c | c
        · have t1 : (x : Int) < (y : Int) := by omega
          as_aux_lemma =>
            go_wp2_with fail
            go_quiet (fail)
            go_wp2_with fail
            go_ret
            exact ⟨congrArg (fun z => Ending.returned (.int .i64 z)) (cmpN_lt (HT1.out c)).symm, _, World.drewN_drewN _ _ _⟩
        · have t1 : ¬ (x : Int) < (y : Int) := by omega
          have t2 : ¬ (y : Int) < (x : Int) := by omega
          as_aux_lemma =>
            go_wp2_with fail
            go_quiet (fail)
            go_wp2_with fail
            go_quiet (fail)
            go_wp2_with fail
            exact ⟨⟨i, by omega, rfl, HT3.out c, _, rfl⟩, by simp [intOf]⟩
        · have t1 : ¬ (x : Int) < (y : Int) := by omega
          have t2 : (y : Int) < (x : Int) := by omega
          as_aux_lemma =>
            go_wp2_with fail
            go_quiet (fail)
            go_wp2_with fail
            go_quiet (fail)
            go_wp2_with fail
            go_ret
            exact ⟨congrArg (fun z => Ending.returned (.int .i64 z)) (cmpN_gt (HT2.out c)).symm, _, by rw [World.drewN_drewN, World.drewN_drewN]⟩
  · have t0 : ((A.length : Int) != (C.length : Int)) = true := by rw [bne_iff_ne]; omega
    by_cases c : A.length < C.length
    · have t1 : (A.length : Int) < (C.length : Int) := by omega
      have hb := bv_longer tC h.small c
      go_enter Tryz.func74, Tryz.ntmps74
      go_wp2_with fail
      go_ret
      exact ⟨congrArg (fun z => Ending.returned (.int .i64 z)) (cmpN_lt hb).symm, 0, rfl⟩
    · have t1 : ¬ (A.length : Int) < (C.length : Int) := by omega
      have hb := bv_longer tA k.small (by omega)
      go_enter Tryz.func74, Tryz.ntmps74
      go_wp2_with fail
      go_ret
      exact ⟨congrArg (fun z => Ending.returned (.int .i64 z)) (cmpN_gt hb).symm, 0, rfl⟩
end Go.Proofs.YtmejmohambhaaaaGreatDoor
/- of, tens: the document's whole numbers of layer 2. Own work of the verifier. -/
namespace Go.Proofs.YtmejmohambhaaaaGreatDoor
open Go.RowKit Soft

theorem two_bv (x : Nat) : bv [x % 4294967296, x / 4294967296] = x := by
  show x % 4294967296 + 4294967296 * (x / 4294967296 + 4294967296 * 0) = x
  omega
set_option maxHeartbeats 1000000 in
theorem nof_any (x : Nat) (hx : x < 18446744073709551616) (w : World) :
    Calls Tryz.prog 71 #[.int .u64 (x : Int)] w fun e w' => ∃ v, e = .returned v ∧ Below w.heap.size w w' ∧ BigIn w' v x := by
  have s1 : IntKind.u32.wrap (x : Int) = ((x % 4294967296 : Nat) : Int) := by rw [IntKind.wrap_u32']; omega
  have s2 : (x : Int) / 4294967296 = ((x / 4294967296 : Nat) : Int) := by omega
  have s3 : IntKind.u32.wrap ((x / 4294967296 : Nat) : Int) = ((x / 4294967296 : Nat) : Int) := by rw [IntKind.wrap_u32']; omega
  have HB : Hid (bv [x % 4294967296, x / 4294967296] = x ∧ x % 4294967296 < 4294967296 ∧ x / 4294967296 < 4294967296) := ⟨two_bv x, by omega, by omega⟩
  generalize x % 4294967296 = a at *
  generalize x / 4294967296 = b at *
  go_enter Tryz.func71, Tryz.ntmps71
  have hR : RB (w.alloc (.cells #[.int .u32 (a : Int), .int .u32 (b : Int)] 76)) (some ⟨w.heap.size, 0, none⟩) w.heap.size 0 2 [a, b] := by
    refine ⟨fun _ => rfl, by simp, by decide, fun y hy => ?_, fun i hi => ?_⟩
    · have := HB.out.2
      simp at hy
      omega
    · match i, hi with
      | 0, _ => simp [go_sem]
      | 1, _ => simp [go_sem]
  have hT := ntrim_in w.heap.size 0 2 [a, b] _ hR
  go_wp2_with (first
    | (go_at_call 109; refine hT.mono ?_; rintro e w' ⟨v', rfl, rfl, hbig⟩)
    | fail)
  go_ret
  rw [HB.out.1] at hbig
  exact ⟨_, rfl, bel1 w _, hbig⟩
set_option maxHeartbeats 1000000 in
set_option maxRecDepth 100000 in
theorem ntens_any (n : Nat) (v : Value) (N : Nat) (hn : n ≤ 100000) (w : World) (h : BigAt w v N) (hs : NSh (N * 10 ^ n)) :
    Calls Tryz.prog 73 #[v, .int .i64 (n : Int)] w fun e w' => ∃ v, e = .returned v ∧ Below w.heap.size w w' ∧ BigAt w' v (N * 10 ^ n) := by
  go_enter Tryz.func73, Tryz.ntmps73
  go_upto_block 0 with fail
  go_cut [0, 1] from 5 (fun a m W => ∃ (M k : Nat), m = .int .i64 (k : Int) ∧ k < 9 ∧ Hid (M * 10 ^ k = N * 10 ^ n) ∧ Hid (BigAt W a M) ∧ Below w.heap.size w W)
  case first =>
    as_aux_lemma =>
      go_wp2_with fail
      go_loopw [0, 1] (fun a m W => ∃ (M k : Nat), m = .int .i64 (k : Int) ∧ k ≤ n ∧ Hid (M * 10 ^ k = N * 10 ^ n) ∧ Hid (BigAt W a M) ∧ Below w.heap.size w W) (fun _ m _ => (intOf m).toNat)
      case atStart => exact ⟨N, n, rfl, Nat.le_refl _, rfl, h, Below.refl _ _⟩
      case round =>
        obtain ⟨M, k, rfl, hk, hM, hB, hb⟩ := hrel
        by_cases h9 : 9 ≤ k
        · have h9' : (9 : Int) ≤ (k : Int) := by omega
          have HT : Hid (Calls Tryz.prog 76 #[u0, .int .u32 1000000000] wr fun e w' => ∃ v, e = .returned v ∧ Below wr.heap.size wr w' ∧ BigIn w' v (M * 1000000000)) := ntimes_v 1000000000 (by decide) hB.out (by
            have := hM.out
            refine hs.le ?_
            rw [← this]
            exact Nat.le_mul_of_pos_right _ (Nat.pow_pos (by decide)))
          have HM2 : Hid (M * 1000000000 * 10 ^ (k - 9) = N * 10 ^ n) := by
            show M * 10 ^ 9 * 10 ^ (k - 9) = N * 10 ^ n
            rw [Nat.mul_assoc, ← Nat.pow_add, show 9 + (k - 9) = k from by omega]
            exact hM.out
          as_aux_lemma =>
            go_wp2_with fail
            refine Calls.mono HT.out ?_
            rintro e w2 ⟨v2, rfl, hb2, hI2⟩
            have HI : Hid _ := hI2.big
            clear hI2
            go_wp2_with fail
            exact ⟨⟨M * 1000000000, k - 9, congrArg (Value.int .i64) (by omega), by omega, HM2, HI, hb.trans (hb2.mono hb.size)⟩, by simp [intOf]; omega⟩
        · have h9' : ¬ (9 : Int) ≤ (k : Int) := by omega
          as_aux_lemma =>
            go_wp2_with fail
            go_meet
            exact ⟨M, k, rfl, by omega, hM, hB, hb⟩
  case rest =>
  clear h
  obtain ⟨M, k, rfl, hk, hM, hB, hb⟩ := hcut
  go_wp2_with fail
  go_loopw [0, 1] (fun a m W => ∃ (M k : Nat), m = .int .i64 (k : Int) ∧ k < 9 ∧ Hid (M * 10 ^ k = N * 10 ^ n) ∧ Hid (BigAt W a M) ∧ Below w.heap.size w W) (fun _ m _ => (intOf m).toNat)
  case atStart => exact ⟨M, k, rfl, hk, hM, hB, hb⟩
  case round =>
    clear hk hM hB hb
    obtain ⟨M, k, rfl, hk, hM, hB, hb⟩ := hrel
    rcases Nat.eq_zero_or_pos k with hk0 | hk0
    · subst hk0
      have e : M = N * 10 ^ n := by have := hM.out; rw [Nat.pow_zero, Nat.mul_one] at this; exact this
      as_aux_lemma =>
        go_wp2_with fail
        go_ret
        exact ⟨_, rfl, hb, by rw [← e]; exact hB.out⟩
    · have hp : (0 : Int) < (k : Int) := by omega
      have HT : Hid (Calls Tryz.prog 76 #[u0, .int .u32 10] wr fun e w' => ∃ v, e = .returned v ∧ Below wr.heap.size wr w' ∧ BigIn w' v (M * 10)) := ntimes_v 10 (by decide) hB.out (by
        have := hM.out
        refine hs.le ?_
        rw [← this]
        exact Nat.le_mul_of_pos_right _ (Nat.pow_pos (by decide)))
      have HM2 : Hid (M * 10 * 10 ^ (k - 1) = N * 10 ^ n) := by
        show M * 10 ^ 1 * 10 ^ (k - 1) = N * 10 ^ n
        rw [Nat.mul_assoc, ← Nat.pow_add, show 1 + (k - 1) = k from by omega]
        exact hM.out
      as_aux_lemma =>
        go_wp2_with fail
        refine Calls.mono HT.out ?_
        rintro e w2 ⟨v2, rfl, hb2, hI2⟩
        have HI : Hid _ := hI2.big
        clear hI2
        go_wp2_with fail
        exact ⟨⟨M * 10, k - 1, congrArg (Value.int .i64) (by omega), by omega, HM2, HI, hb.trans (hb2.mono hb.size)⟩, by simp [intOf]; omega⟩
end Go.Proofs.YtmejmohambhaaaaGreatDoor
/- shift: the document's whole numbers of layer 2. Own work of the verifier. -/
namespace Go.Proofs.YtmejmohambhaaaaGreatDoor
open Go.RowKit Soft

theorem zeros_bv (q : Nat) : bv (List.replicate q 0) = 0 := by
  induction q with
  | zero => rfl
  | succ q ih => rw [List.replicate_succ]; show 0 + 4294967296 * bv (List.replicate q 0) = 0; rw [ih]
theorem up_bv (q r a : Nat) (T : List Nat) (h : bv T = a * 2 ^ r) : bv (List.replicate q 0 ++ T) = a * 2 ^ (32 * q + r) := by
  rw [bv_append, zeros_bv, List.length_replicate, h, Nat.zero_add, Nat.pow_add, Nat.pow_mul, show 2 ^ 32 = 4294967296 from by decide]
  rw [← Nat.mul_assoc, ← Nat.mul_assoc, Nat.mul_comm a]
theorem b32_zeros {q : Nat} {T : List Nat} (h : B32 T) : B32 (List.replicate q 0 ++ T) := fun x hx => by
  rcases List.mem_append.1 hx with k | k
  · rw [(List.mem_replicate.1 k).2]; decide
  · exact h x k
/-- A row that grows by many. -/
theorem GB.pushes {B : Nat} {e : TypeId} {f : Nat → Value} {W0 w w' : World} {v v' : Value} {xs ys : List Nat} {m : Nat} (h : GB B e f W0 v xs w)
    (hown : w'.ownsRow B e 1 v' (xs.length + m) (xs.map f ++ ys.map f)) (hm : ys.length = m) (hg : w.grownBy w' v.ownBlock) (hnil : v' = .slice none 0 0 ↔ v = .slice none 0 0 ∧ m = 0) : GB B e f W0 v' (xs ++ ys) w' := by
  obtain ⟨gv, cap, cur, rfl, hB, hcur, _⟩ := own_ofG h.own h.nz
  have hg' : w.grownBy w' (some gv) := hg
  have s2 := hg'.size
  refine ⟨?_, fun e => h.nz (hnil.1 e).1, ?_, by have := h.size; omega⟩
  · rw [List.length_append, List.map_append, hm]; exact hown
  · exact h.below.grown hg' h.size (fun k e => by cases e; exact hB)
theorem GB.under {B : Nat} {e : TypeId} {f : Nat → Value} {W0 w w' : World} {v : Value} {xs : List Nat} (h : GB B e f W0 v xs w) (hb : Below w.heap.size w w') : GB B e f W0 v xs w' := by
  obtain ⟨g, cap, cur, hv, hB, hcur, h1, h2, h3, h4⟩ := own_ofG h.own h.nz
  have hs := hb.size
  have hlt : g < w.heap.size := by
    rcases Nat.lt_or_ge g w.heap.size with c | c
    · exact c
    · rw [Array.getElem?_eq_none c] at hcur; cases hcur
  refine ⟨⟨h.own.1, .inr ⟨g, cap, cur, hv, hB, ?_, h1, h2, by simpa using h3, by simpa using h4⟩⟩, h.nz, h.below.trans (hb.mono h.size), by have := h.size; omega⟩
  rw [hb.block g hlt]; exact hcur
theorem RB.news {W : World} {b o cap : Nat} {L : List Nat} (h : RB W (some ⟨b, o, none⟩) b o cap L) : ∀ j u, (L.map pV)[j]? = some u → W.cell? ((⟨b, o, none⟩ : Addr).add j) = some u := by
  intro j u hu
  rw [List.getElem?_map] at hu
  cases hj : L[j]? with
  | none => rw [hj] at hu; cases hu
  | some x =>
    rw [hj] at hu
    obtain ⟨hl, hx⟩ := List.getElem?_eq_some_iff.1 hj
    cases hu
    have := h.row j hl
    rw [hx] at this
    unfold Addr.add
    by_cases h0 : j = 0
    · subst h0; exact this
    · rw [if_neg h0]; exact this

set_option maxHeartbeats 2000000 in
set_option maxRecDepth 100000 in
theorem nshift_rows (ao : Option Addr) (b o cap : Nat) (A : List Nat) (q r : Nat) (hq : q ≤ 1000) (hr : r < 32) (w : World) (h : RB w ao b o cap A) (hl : A.length ≤ 100000000) (hne : A ≠ []) :
    Calls Tryz.prog 72 #[.slice ao A.length cap, .int .i64 ((32 * q + r : Nat) : Int)] w fun e w' => ∃ v, e = .returned v ∧ Below w.heap.size w w' ∧ BigIn w' v (bv A * 2 ^ (32 * q + r)) := by
  obtain ⟨i0, hi, hz0, hz1, hz2⟩ := info_parts infoP
  obtain rfl := h.addr hne
  have hA0 : ((A.length : Int) == 0) = false := by rw [beq_eq_false_iff_ne]; have : 0 < A.length := List.length_pos_iff.2 hne; omega
  have e1 : ((32 * q + r : Nat) : Int) / 32 = (q : Int) := by omega
  have e2 : ((32 * q + r : Nat) : Int) % 32 = (r : Int) := by omega
  have hn0 : (0 : Int) ≤ ((32 * q + r : Nat) : Int) := by omega
  have hn1 : ((32 * q + r : Nat) : Int) < 100000 := by omega
  have hpow : Hid (bv (List.replicate q 0 ++ A) * 2 ^ r = bv A * 2 ^ (32 * q + r)) := by
    have := up_bv q 0 (bv A) A (by rw [Nat.pow_zero, Nat.mul_one])
    rw [Nat.add_zero] at this
    show bv (List.replicate q 0 ++ A) * 2 ^ r = _
    rw [this, Nat.mul_assoc, ← Nat.pow_add]
  have hr2 : (2 : Nat) ^ r < 4294967296 := by
    rw [show 4294967296 = 2 ^ 32 from by decide]
    exact Nat.pow_lt_pow_right (by decide) hr
  have e3 : (2 : Int) ^ r % 4294967296 = ((2 ^ r : Nat) : Int) := by
    have e : ((2 : Int) ^ r) = ((2 ^ r : Nat) : Int) := (Int.natCast_pow 2 r).symm
    rw [e]
    generalize 2 ^ r = x at *
    omega
  have HS : Hid (B32 A) := h.small
  generalize bv A * 2 ^ (32 * q + r) = N at *
  generalize 32 * q + r = n at *
  generalize hx : 2 ^ r = x at *
  go_enter Tryz.func72, Tryz.ntmps72
  go_wp2_with fail
  go_loopw [5, 6] (fun v a wr => ∃ i : Nat, i ≤ q ∧ a = .int .i64 (i : Int) ∧ GB w.heap.size 76 pV w v (List.replicate i 0) wr) (fun _ a _ => q - (intOf a).toNat)
  case atStart => exact ⟨0, by omega, rfl, GB.new w⟩
  case round =>
    obtain ⟨i, hiq, rfl, hG⟩ := hrel
    by_cases hlt : i < q
    · have hlt' : (i : Int) < (q : Int) := by omega
      as_aux_lemma =>
        go_wp2_with (first | (at_builtin; refine wpList_append_own _ rfl _ _ 94 rfl w.heap.size 76 i0 (.int .u32 0) 1 4 Tryz.underlying94 hi hz0 hz1 hz2 rfl (by decide) _ _ _ rfl (hG.own.alloc _) ⟨_, 0, none⟩ 1 1 [_] rfl rfl (cell_one_new _ _ _) (by intro u hu; simp at hu; subst hu; rfl) (by unfold maxLen; rw [List.length_replicate]; omega) (by rw [List.length_replicate]; omega) (by have := hG.size; simp; omega) ?_; intro v' w7 hown hgrow hnil; have hG7 := hG.push (x := 0) _ rfl hown hgrow hnil; clear hown hgrow hnil))
        refine ⟨⟨i + 1, by omega, by go_num, ?_⟩, by simp [intOf]; omega⟩
        rw [List.replicate_succ']
        exact hG7
    · obtain rfl : i = q := by omega
      have hlt' : ¬ (i : Int) < (i : Int) := by omega
      have hRn := h.below hG.below
      as_aux_lemma =>
        go_wp2_with (first
          | (at_builtin; refine wpList_append_own _ rfl _ _ 94 rfl w.heap.size 76 i0 (.int .u32 0) 1 4 Tryz.underlying94 hi hz0 hz1 hz2 rfl (by decide) _ _ _ rfl hG.own ⟨b, o, none⟩ A.length cap (A.map pV) rfl (by simp) hRn.news (by intro u hu; obtain ⟨y, _, rfl⟩ := List.mem_map.1 hu; rfl) (by rw [List.length_replicate]; unfold maxLen; omega) (by rw [List.length_replicate]; omega) hG.size ?_; intro v' w7 hown hgrow hnil; have hG7 := hG.pushes hown rfl hgrow hnil; clear hown hgrow hnil)
          | (go_at_call 76
             obtain ⟨g, cap3, hv3, hgB, hRB⟩ := hG7.rowP (b32_zeros HS.out)
             subst hv3
             with_reducible refine (ntimes_rows _ g 0 cap3 _ x hr2 w7 hRB (by rw [List.length_append, List.length_replicate]; omega)).mono ?_
             rintro e w' ⟨v5, rfl, hb5, hbig⟩))
        go_ret
        rw [hpow.out] at hbig
        exact ⟨_, rfl, hG7.below.trans (hb5.mono hG7.size), hbig⟩
/-- A number times a power of two. -/
theorem nshift_any {W : World} {v : Value} {N : Nat} (n : Nat) (hn : n ≤ 30000) (h : BigAt W v N) (hs : Sm N) :
    Calls Tryz.prog 72 #[v, .int .i64 (n : Int)] W fun e w' => ∃ v, e = .returned v ∧ Below W.heap.size W w' ∧ BigAt w' v (N * 2 ^ n) := by
  obtain ⟨ao, b, o, cap, L, rfl, hR, rfl, hT⟩ := h
  by_cases hL : L = []
  · subst hL
    have hz : Hid (BigAt W (.slice ao 0 cap) (bv [] * 2 ^ n)) := by
      show BigAt W (.slice ao 0 cap) (0 * 2 ^ n)
      rw [Nat.zero_mul]
      exact ⟨ao, b, o, cap, [], rfl, hR, rfl, hT⟩
    clear hR hs
    go_enter Tryz.func72, Tryz.ntmps72
    go_wp2_with fail
    go_ret
    exact ⟨_, rfl, Below.refl _ _, hz.out⟩
  · have hlen := hs.len hT rfl
    have := nshift_rows ao b o cap L (n / 32) (n % 32) (by omega) (by omega) W hR (by omega) hL
    rw [show 32 * (n / 32) + n % 32 = n from by omega] at this
    exact this.mono fun e w' ⟨v, h1, h2, h3⟩ => ⟨v, h1, h2, h3.big⟩
end Go.Proofs.YtmejmohambhaaaaGreatDoor
/- less, against: the document's whole numbers of layer 2. Own work of the verifier. -/
namespace Go.Proofs.YtmejmohambhaaaaGreatDoor
open Go.RowKit Soft

/-- One part less another, and what is owed. -/
theorem less_part (x y ow : Nat) (hx : x < 4294967296) (hy : y < 4294967296) (ho : ow ≤ 1) : ∃ p ow', p < 4294967296 ∧ ow' ≤ 1 ∧ p + y + ow = x + 4294967296 * ow' ∧ IntKind.u32.wrap (-(ow : Int) + (x : Int) - (y : Int)) = (p : Int) ∧ (-(ow : Int) + (x : Int) - (y : Int)) / 4294967296 = -(ow' : Int) := by
  by_cases h : y + ow ≤ x
  · exact ⟨x - y - ow, 0, by omega, by omega, by omega, by rw [IntKind.wrap_u32']; omega, by omega⟩
  · exact ⟨x + 4294967296 - y - ow, 1, by omega, by omega, by omega, by rw [IntKind.wrap_u32']; omega, by omega⟩
set_option maxHeartbeats 2000000 in
set_option maxRecDepth 100000 in
theorem nless_rows (ao : Option Addr) (b o cap : Nat) (A : List Nat) (ao2 : Option Addr) (b2 o2 cap2 : Nat) (C : List Nat) (w : World) (h : RB w ao b o cap A) (k : RB w ao2 b2 o2 cap2 C) (tC : Trm C) (hle : bv C ≤ bv A) (hl : A.length ≤ 1000000000) :
    Calls Tryz.prog 75 #[.slice ao A.length cap, .slice ao2 C.length cap2] w fun e w' => ∃ v, e = .returned v ∧ Below w.heap.size w w' ∧ BigIn w' v (bv A - bv C) := by
  obtain ⟨i0, hi, hz0, hz1, hz2⟩ := info_parts infoP
  have hCA := len_le tC h.small hle
  go_enter Tryz.func75, Tryz.ntmps75
  go_wp2_with fail
  go_loopw [5, 6, 7] (fun v cr a wr => ∃ (i ow : Nat) (O : List Nat), cr = .int .i64 (-(ow : Int)) ∧ a = .int .i64 (i : Int) ∧ ow ≤ 1 ∧ i ≤ A.length ∧ GB w.heap.size 76 pV w v O wr ∧ Hid (O.length = i ∧ B32 O ∧ bv O + lowP C i = lowP A i + 4294967296 ^ i * ow)) (fun _ _ a _ => (A.length - (intOf a).toNat))
  case atStart => exact ⟨0, 0, [], rfl, rfl, by omega, by omega, GB.new w, ⟨rfl, (fun x hx => by cases hx), by simp [bv, lowP]⟩⟩
  case round =>
    obtain ⟨i, ow, O, rfl, rfl, ho, hiA, hG, hH⟩ := hrel
    have hB := hG.below
    have hol : O.length = i := hH.out.1
    have HO : Hid (B32 O) := hH.out.2.1
    by_cases u1 : i < A.length
    · obtain ⟨p, ow', hp, ho', he, s1, s2⟩ := less_part (pt A i) (pt C i) ow (pt_lt h.small i) (pt_lt k.small i) ho
      have HS : Hid (bv (O ++ [p]) + lowP C (i + 1) = lowP A (i + 1) + 4294967296 ^ (i + 1) * ow') := apart_step hol hH.out.2.2 (by omega) (by omega)
      obtain rfl := h.addr (by intro e; rw [e] at u1; simp at u1)
      have q1 : wr.cell? ⟨b, o + i, none⟩ = some (.int .u32 ((pt A i : Nat) : Int)) := by rw [pt_in u1]; exact (h.row.below hB (fun e => h.row.lt e)) i u1
      have v1 : (i : Int) < (A.length : Int) := by omega
      have hxA := pt_lt h.small i
      have hyC := pt_lt k.small i
      clear he
      by_cases u2 : i < C.length
      · obtain rfl := k.addr (by intro e; rw [e] at u2; simp at u2)
        have q2 : wr.cell? ⟨b2, o2 + i, none⟩ = some (.int .u32 ((pt C i : Nat) : Int)) := by rw [pt_in u2]; exact (k.row.below hB (fun e => k.row.lt e)) i u2
        have v2 : (i : Int) < (C.length : Int) := by omega
        generalize pt A i = x at *
        generalize pt C i = y at *
        as_aux_lemma =>
          go_wp2_with (first | (at_builtin; refine wpList_append_own _ rfl _ _ 94 rfl w.heap.size 76 i0 (.int .u32 0) 1 4 Tryz.underlying94 hi hz0 hz1 hz2 rfl (by decide) _ _ _ rfl (hG.own.alloc _) ⟨_, 0, none⟩ 1 1 [_] rfl rfl (cell_one_new _ _ _) (by intro u hu; simp at hu; subst hu; rfl) (by unfold maxLen; omega) (by omega) (by have := hG.size; simp; omega) ?_; intro v' w7 hown hgrow hnil; have hG7 := hG.push (x := p) _ rfl hown hgrow hnil; clear hown hgrow hnil))
          exact ⟨⟨i + 1, ow', O ++ [p], rfl, by go_num, ho', by omega, hG7, ⟨by rw [List.length_append, hol]; rfl, b32_snoc HO.out hp, HS.out⟩⟩, by simp [intOf]; omega⟩
      · have v2 : ¬ (i : Int) < (C.length : Int) := by omega
        rw [pt_out u2] at s1 s2
        rw [show ((0 : Nat) : Int) = 0 from rfl, Int.sub_zero] at s1 s2
        generalize pt A i = x at *
        as_aux_lemma =>
          go_wp2_with (first | (at_builtin; refine wpList_append_own _ rfl _ _ 94 rfl w.heap.size 76 i0 (.int .u32 0) 1 4 Tryz.underlying94 hi hz0 hz1 hz2 rfl (by decide) _ _ _ rfl (hG.own.alloc _) ⟨_, 0, none⟩ 1 1 [_] rfl rfl (cell_one_new _ _ _) (by intro u hu; simp at hu; subst hu; rfl) (by unfold maxLen; omega) (by omega) (by have := hG.size; simp; omega) ?_; intro v' w7 hown hgrow hnil; have hG7 := hG.push (x := p) _ rfl hown hgrow hnil; clear hown hgrow hnil))
          exact ⟨⟨i + 1, ow', O ++ [p], rfl, by go_num, ho', by omega, hG7, ⟨by rw [List.length_append, hol]; rfl, b32_snoc HO.out hp, HS.out⟩⟩, by simp [intOf]; omega⟩
    · have v1 : ¬ (i : Int) < (A.length : Int) := by omega
      obtain rfl : i = A.length := by omega
      have hsum : bv O = bv A - bv C := apart_end hol HO.out h.small hle hCA ho hH.out.2.2
      obtain ⟨g, cap3, rfl, hgB, hRB⟩ := hG.rowP HO.out
      have hT := ntrim_in g 0 cap3 O wr hRB
      rw [hol] at hT
      as_aux_lemma =>
        go_wp2_with (go_at_call 109; with_reducible refine hT.mono ?_; rintro e w' ⟨v', rfl, rfl, hbig⟩)
        go_ret
        rw [hsum] at hbig
        exact ⟨_, rfl, hB, hbig⟩
end Go.Proofs.YtmejmohambhaaaaGreatDoor
/- parts, against: the document's, of layer 2. Own work of the verifier. -/
namespace Go.Proofs.YtmejmohambhaaaaGreatDoor
open Go.RowKit Soft

theorem ncompare_v {W : World} {v u : Value} {M N : Nat} (h : BigAt W v M) (k : BigAt W u N) (hM : Sm M) (hN : Sm N) :
    Calls Tryz.prog 74 #[v, u] W fun e w' => e = .returned (.int .i64 (cmpN M N)) ∧ Below W.heap.size W w' := by
  obtain ⟨ao, b, o, cap, L, rfl, hR, rfl, hT⟩ := h
  obtain ⟨ao2, b2, o2, cap2, L2, rfl, hR2, rfl, hT2⟩ := k
  have h1 := hM.len hT rfl
  have h2 := hN.len hT2 rfl
  exact (ncompare_rows ao b o cap L ao2 b2 o2 cap2 L2 W hR hR2 hT hT2 (by omega) (by omega)).mono fun e w' ⟨he, m, hw⟩ => ⟨he, by rw [hw]; exact Below.drewN' (Below.refl _ _) m⟩
/-- How c 10^s and l 2^k stand. -/
def AG (c : Nat) (s : Int) (l : Nat) (k : Int) : Int := cmpN (c * 10 ^ s.toNat * 2 ^ (-k).toNat) (l * 10 ^ (-s).toNat * 2 ^ k.toNat)
/-- A number in memory, times a power of ten or of two: what the calls leave. -/
def Made (W : World) (N : Nat) (e : Ending) (w' : World) : Prop := ∃ v, e = .returned v ∧ Below W.heap.size W w' ∧ BigAt w' v N
set_option maxHeartbeats 2000000 in
set_option maxRecDepth 100000 in
theorem against_any (c l : Nat) (s k : Int) (hc : c < 18446744073709551616) (hl : l < 18446744073709551616) (hs0 : -1100 ≤ s) (hs1 : s ≤ 1100) (hk0 : -5000 ≤ k) (hk1 : k ≤ 5000) (w : World) :
    Calls Tryz.prog 52 #[.int .u64 (c : Int), .int .i64 s, .int .u64 (l : Int), .int .i64 k] w fun e w' => e = .returned (.int .i64 (AG c s l k)) ∧ Below w.heap.size w w' := by
  have HO : Hid (∀ (x : Nat) (W : World), x < 18446744073709551616 → Calls Tryz.prog 71 #[.int .u64 (x : Int)] W fun e w' => Made W x e w') := fun x W hx => (nof_any x hx W).mono fun e w' ⟨v, h1, h2, h3⟩ => ⟨v, h1, h2, h3.big⟩
  have HT : Hid (∀ (n N : Nat) (v : Value) (W : World), n ≤ 1100 → N < 18446744073709551616 → BigAt W v N → Calls Tryz.prog 73 #[v, .int .i64 (n : Int)] W fun e w' => Made W (N * 10 ^ n) e w') := fun n N v W hn hN hv => ntens_any n v N (by omega) W hv ((sm_of N n 0 hN hn (by omega)).le (by rw [Nat.pow_zero, Nat.mul_one]; exact Nat.le_refl _)).nsh
  have HSh : Hid (∀ (n N : Nat) (v : Value) (W : World), n ≤ 5000 → Sm N → BigAt W v N → Calls Tryz.prog 72 #[v, .int .i64 (n : Int)] W fun e w' => Made W (N * 2 ^ n) e w') := fun n N v W hn hN hv => nshift_any n (by omega) hv hN
  have HC : Hid (∀ (M N : Nat) (v u : Value) (W : World), Sm M → Sm N → BigAt W v M → BigAt W u N → Calls Tryz.prog 74 #[v, u] W fun e w' => e = .returned (.int .i64 (cmpN M N)) ∧ Below W.heap.size W w') := fun M N v u W h1 h2 h3 h4 => ncompare_v h3 h4 h1 h2
  go_enter Tryz.func52, Tryz.ntmps52
  go_wp2_with fail
  refine (HO.out c _ hc).mono ?_
  rintro e w1 ⟨v1, rfl, hb1, hB1⟩
  go_wp2_with fail
  refine (HO.out l _ hl).mono ?_
  rintro e w2 ⟨v2, rfl, hb2, hB2⟩
  have hA2 := hB1.below hb2
  have hbw : Below w.heap.size w w2 := hb1.trans (hb2.mono hb1.size)
  clear hB1 hb1 hb2 HO
  go_upto_if 16 with fail
  go_cut [9, 10] from 11 (fun a b W => Hid (BigAt W a (c * 10 ^ s.toNat)) ∧ Hid (BigAt W b (l * 10 ^ (-s).toNat)) ∧ Below w.heap.size w W)
  case first =>
    by_cases hs : 0 ≤ s
    · obtain ⟨n, rfl⟩ : ∃ n : Nat, s = (n : Int) := ⟨s.toNat, by omega⟩
      have e1 : (n : Int).toNat = n := by omega
      have e2 : (-(n : Int)).toNat = 0 := by omega
      have HT' : Hid _ := HT.out n c v1 w2 (by omega) hc hA2
      have HB2 : Hid (BigAt w2 v2 (l * 10 ^ (-(n : Int)).toNat)) := by rw [e2, Nat.pow_zero, Nat.mul_one]; exact hB2
      clear hA2 hB2
      as_aux_lemma =>
        go_wp2_with fail
        refine Calls.mono HT'.out ?_
        rintro e w3 ⟨v3, rfl, hb3, hB3⟩
        have HB3 : Hid (BigAt w3 v3 (c * 10 ^ ((n : Int)).toNat)) := by rw [e1]; exact hB3
        clear hB3
        go_wp2_with fail
        go_meet
        exact ⟨HB3, HB2.out.below hb3, hbw.trans (hb3.mono hbw.size)⟩
    · obtain ⟨n, rfl⟩ : ∃ n : Nat, s = -(n : Int) := ⟨(-s).toNat, by omega⟩
      have e1 : (-(n : Int)).toNat = 0 := by omega
      have e2 : (- -(n : Int)).toNat = n := by omega
      have e3 : - -(n : Int) = (n : Int) := by omega
      have HT' : Hid _ := HT.out n l v2 w2 (by omega) hl hB2
      have HA2 : Hid (BigAt w2 v1 (c * 10 ^ (-(n : Int)).toNat)) := by rw [e1, Nat.pow_zero, Nat.mul_one]; exact hA2
      clear hA2 hB2
      as_aux_lemma =>
        go_wp2_with fail
        refine Calls.mono HT'.out ?_
        rintro e w3 ⟨v3, rfl, hb3, hB3⟩
        have HB3 : Hid (BigAt w3 v3 (l * 10 ^ (- -(n : Int)).toNat)) := by rw [e2]; exact hB3
        clear hB3
        go_wp2_with fail
        go_meet
        exact ⟨HA2.out.below hb3, HB3, hbw.trans (hb3.mono hbw.size)⟩
  case rest =>
  clear hA2 hB2 hbw HT
  obtain ⟨HA, HB, hbw⟩ := hcut
  have HSa : Hid (Sm (c * 10 ^ s.toNat) ∧ Sm (c * 10 ^ s.toNat * 2 ^ (-k).toNat)) := ⟨(sm_of c s.toNat 0 hc (by omega) (by omega)).le (by rw [Nat.pow_zero, Nat.mul_one]; exact Nat.le_refl _), sm_of c s.toNat _ hc (by omega) (by omega)⟩
  have HSb : Hid (Sm (l * 10 ^ (-s).toNat) ∧ Sm (l * 10 ^ (-s).toNat * 2 ^ k.toNat)) := ⟨(sm_of l (-s).toNat 0 hl (by omega) (by omega)).le (by rw [Nat.pow_zero, Nat.mul_one]; exact Nat.le_refl _), sm_of l (-s).toNat _ hl (by omega) (by omega)⟩
  obtain ⟨X, hX⟩ : ∃ X, X = c * 10 ^ s.toNat := ⟨_, rfl⟩
  obtain ⟨Y, hY⟩ : ∃ Y, Y = l * 10 ^ (-s).toNat := ⟨_, rfl⟩
  rw [← hX] at HA HSa
  rw [← hY] at HB HSb
  have HAG : Hid (cmpN (X * 2 ^ (-k).toNat) (Y * 2 ^ k.toNat) = AG c s l k) := by rw [hX, hY]; rfl
  clear hX hY
  go_upto_if 25 with fail
  go_cut [9, 10] from 11 (fun a b W => Hid (BigAt W a (X * 2 ^ (-k).toNat)) ∧ Hid (BigAt W b (Y * 2 ^ k.toNat)) ∧ Below w.heap.size w W)
  case first =>
    by_cases hk : 0 ≤ k
    · obtain ⟨n, rfl⟩ : ∃ n : Nat, k = (n : Int) := ⟨k.toNat, by omega⟩
      have e1 : (n : Int).toNat = n := by omega
      have e2 : (-(n : Int)).toNat = 0 := by omega
      have HT' : Hid _ := HSh.out n Y u10 wc (by omega) HSb.out.1 HB.out
      have HA' : Hid (BigAt wc u9 (X * 2 ^ (-(n : Int)).toNat)) := by rw [e2, Nat.pow_zero, Nat.mul_one]; exact HA.out
      as_aux_lemma =>
        go_wp2_with fail
        refine Calls.mono HT'.out ?_
        rintro e w3 ⟨v3, rfl, hb3, hB3⟩
        have HB3 : Hid (BigAt w3 v3 (Y * 2 ^ ((n : Int)).toNat)) := by rw [e1]; exact hB3
        clear hB3
        go_wp2_with fail
        go_meet
        exact ⟨HA'.out.below hb3, HB3, hbw.trans (hb3.mono hbw.size)⟩
    · obtain ⟨n, rfl⟩ : ∃ n : Nat, k = -(n : Int) := ⟨(-k).toNat, by omega⟩
      have e1 : (-(n : Int)).toNat = 0 := by omega
      have e2 : (- -(n : Int)).toNat = n := by omega
      have e3 : - -(n : Int) = (n : Int) := by omega
      have HT' : Hid _ := HSh.out n X u9 wc (by omega) HSa.out.1 HA.out
      have HB' : Hid (BigAt wc u10 (Y * 2 ^ (-(n : Int)).toNat)) := by rw [e1, Nat.pow_zero, Nat.mul_one]; exact HB.out
      as_aux_lemma =>
        go_wp2_with fail
        refine Calls.mono HT'.out ?_
        rintro e w3 ⟨v3, rfl, hb3, hB3⟩
        have HB3 : Hid (BigAt w3 v3 (X * 2 ^ (- -(n : Int)).toNat)) := by rw [e2]; exact hB3
        clear hB3
        go_wp2_with fail
        go_meet
        exact ⟨HB3, HB'.out.below hb3, hbw.trans (hb3.mono hbw.size)⟩
  case rest =>
  clear HA HB hbw HSh
  obtain ⟨HA, HB, hbw⟩ := hcut
  have HC' : Hid _ := HC.out _ _ _ _ wc HSa.out.2 HSb.out.2 HA.out HB.out
  clear HC HSa HSb HA HB
  rw [HAG.out] at HC'
  as_aux_lemma =>
    go_wp2_with fail
    refine Calls.mono HC'.out ?_
    rintro e w3 ⟨rfl, hb3⟩
    go_wp2_with fail
    go_ret
    exact ⟨rfl, hbw.trans (hb3.mono hbw.size)⟩
end Go.Proofs.YtmejmohambhaaaaGreatDoor
/- parts, Side: the document's, of layer 2. Own work of the verifier. -/
namespace Go.Proofs.YtmejmohambhaaaaGreatDoor
open Go.RowKit Soft

/-- A float above 0 as m times 2^k. -/
def pM (b : Nat) : Nat := if b / 4503599627370496 = 0 then b else b % 4503599627370496 + 4503599627370496
def pK (b : Nat) : Int := if b / 4503599627370496 = 0 then -1074 else (b / 4503599627370496 : Nat) - 1075
theorem pM_lt (b : Nat) : pM b < 9007199254740992 := by unfold pM; split <;> omega
theorem pM_pos (b : Nat) (h : 1 ≤ b) : 1 ≤ pM b := by unfold pM; split <;> omega
theorem pK_low (b : Nat) : -1074 ≤ pK b := by unfold pK; split <;> omega
theorem pK_high (b : Nat) (h : b < 9218868437227405312) : pK b ≤ 971 := by unfold pK; split <;> omega
set_option maxHeartbeats 1000000 in
theorem parts_any (b : Nat) (hb : b < 9218868437227405312) (w : World) :
    Calls Tryz.prog 51 #[.int .u64 (b : Int)] w fun e w' => e = .returned (.tuple #[.int .u64 (pM b : Int), .int .i64 (pK b)]) ∧ w' = w := by
  have hdiv : (b : Int) / 4503599627370496 = ((b / 4503599627370496 : Nat) : Int) := by omega
  have hand : bits .and .u64 (b : Int) 4503599627370495 = ((b % 4503599627370496 : Nat) : Int) := by
    have := u64_and_nat b 4503599627370495 (by omega) (by decide)
    rw [show (4503599627370495 : Nat) = 2 ^ 52 - 1 from by decide, Nat.and_two_pow_sub_one_eq_mod, show (2 : Nat) ^ 52 = 4503599627370496 from by decide] at this
    exact this
  have hor : bits .or .u64 ((b % 4503599627370496 : Nat) : Int) 4503599627370496 = ((b % 4503599627370496 + 4503599627370496 : Nat) : Int) := by
    have := u64_or_nat (b % 4503599627370496) 4503599627370496 (by omega) (by decide)
    rw [Nat.or_comm] at this
    rw [show (4503599627370496 : Nat) = 2 ^ 52 * 1 from by decide] at this
    rw [← Nat.two_pow_add_eq_or_of_lt (by rw [show (2 : Nat) ^ 52 = 4503599627370496 from by decide]; omega) 1] at this
    rw [show (2 : Nat) ^ 52 * 1 = 4503599627370496 from by decide, Nat.add_comm 4503599627370496] at this
    exact this
  unfold pM pK
  have h1 : b / 4503599627370496 < 2047 := by omega
  have h2 : b % 4503599627370496 < 4503599627370496 := by omega
  have HZ : Hid (b / 4503599627370496 = 0 → b % 4503599627370496 = b) := fun h => by omega
  generalize b / 4503599627370496 = q at *
  generalize b % 4503599627370496 = r at *
  rcases Nat.eq_zero_or_pos q with h0 | h0
  · subst h0
    rw [if_pos rfl, if_pos rfl]
    obtain rfl := HZ.out rfl
    go_enter Tryz.func51, Tryz.ntmps51
    go_wp2_with fail
    go_ret2
    exact ⟨rfl, rfl⟩
  · rw [if_neg (by omega), if_neg (by omega)]
    have hq : ((q : Int) == 0) = false := by rw [beq_eq_false_iff_ne]; omega
    go_enter Tryz.func51, Tryz.ntmps51
    go_wp2_with fail
    go_ret2
    exact ⟨rfl, rfl⟩
/-- The lower end, in quarters. -/
def lowM (b : Nat) : Nat := if pM b = 4503599627370496 ∧ 1 < b / 4503599627370496 then 4 * pM b - 1 else 4 * pM b - 2
theorem lowM_lt (b : Nat) : lowM b < 18446744073709551616 := by unfold lowM; have := pM_lt b; split <;> omega
/-- On which side of a float's interval c 10^s lies. -/
def SideN (b c : Nat) (s : Int) : Int :=
  if AG c s (lowM b) (pK b - 2) < 0 ∨ AG c s (lowM b) (pK b - 2) = 0 ∧ pM b % 2 = 1 then -1
  else if 0 < AG c s (4 * pM b + 2) (pK b - 2) ∨ AG c s (4 * pM b + 2) (pK b - 2) = 0 ∧ pM b % 2 = 1 then 1 else 0
theorem cmpN_cases (a b : Nat) : cmpN a b = -1 ∨ cmpN a b = 0 ∨ cmpN a b = 1 := by
  unfold cmpN; split
  · exact Or.inl rfl
  · split
    · exact Or.inr (Or.inr rfl)
    · exact Or.inr (Or.inl rfl)
set_option maxHeartbeats 2000000 in
set_option maxRecDepth 100000 in
theorem side_any (b c : Nat) (s : Int) (hb0 : 1 ≤ b) (hb : b < 9218868437227405312) (hc : c < 18446744073709551616) (hs0 : -1100 ≤ s) (hs1 : s ≤ 1100) (w : World) :
    Calls Tryz.prog 37 #[.int .u64 (b : Int), .int .u64 (c : Int), .int .i64 s] w fun e w' => e = .returned (.int .i64 (SideN b c s)) ∧ Below w.heap.size w w' := by
  have HPa : Hid _ := fun W => parts_any b hb W
  have h1 := pM_lt b
  have h2 := pM_pos b hb0
  have h3 := pK_low b
  have h4 := pK_high b hb
  have h5 := lowM_lt b
  have HG1 : Hid _ := fun W => against_any c (lowM b) s (pK b - 2) hc h5 hs0 hs1 (by omega) (by omega) W
  have HG2 : Hid (∀ W, Calls Tryz.prog 52 #[.int .u64 (c : Int), .int .i64 s, .int .u64 (4 * (pM b : Int) + 2), .int .i64 (pK b - 2)] W fun e w' => e = .returned (.int .i64 (AG c s (4 * pM b + 2) (pK b - 2))) ∧ Below W.heap.size W w') := fun W => by
    have := against_any c (4 * pM b + 2) s (pK b - 2) hc (by omega) hs0 hs1 (by omega) (by omega) W
    rw [show ((4 * pM b + 2 : Nat) : Int) = 4 * (pM b : Int) + 2 from by omega] at this
    exact this
  have hdiv : (b : Int) / 4503599627370496 = ((b / 4503599627370496 : Nat) : Int) := by omega
  have HLo : Hid (lowM b = if pM b = 4503599627370496 ∧ 1 < b / 4503599627370496 then 4 * pM b - 1 else 4 * pM b - 2) := rfl
  have HSd : Hid (SideN b c s = if AG c s (lowM b) (pK b - 2) < 0 ∨ AG c s (lowM b) (pK b - 2) = 0 ∧ pM b % 2 = 1 then -1 else if 0 < AG c s (4 * pM b + 2) (pK b - 2) ∨ AG c s (4 * pM b + 2) (pK b - 2) = 0 ∧ pM b % 2 = 1 then 1 else 0) := rfl
  have c1 : AG c s (lowM b) (pK b - 2) = -1 ∨ AG c s (lowM b) (pK b - 2) = 0 ∨ AG c s (lowM b) (pK b - 2) = 1 := cmpN_cases _ _
  have c2 : AG c s (4 * pM b + 2) (pK b - 2) = -1 ∨ AG c s (4 * pM b + 2) (pK b - 2) = 0 ∨ AG c s (4 * pM b + 2) (pK b - 2) = 1 := cmpN_cases _ _
  have C1 : Hid _ := c1
  have C2 : Hid _ := c2
  clear c1 c2
  generalize AG c s (lowM b) (pK b - 2) = z1 at *
  generalize AG c s (4 * pM b + 2) (pK b - 2) = z2 at *
  generalize lowM b = lo at *
  generalize pM b = m at *
  generalize pK b = k at *
  generalize hq : b / 4503599627370496 = q at *
  generalize SideN b c s = SD at *
  go_enter Tryz.func37, Tryz.ntmps37
  go_wp2_with fail
  refine (HPa.out _).mono ?_
  rintro e w1 ⟨rfl, rfl⟩
  go_upto_region 3 with fail
  go_cut [26] from 12 (fun v W => ∃ bb : Bool, v = .bool bb ∧ Hid (bb = true ↔ m = 4503599627370496 ∧ 1 < q) ∧ W = w1)
  case first =>
    by_cases hm : m = 4503599627370496
    · have t1 : ((m : Int) == 4503599627370496) = true := by rw [beq_iff_eq]; omega
      have HM : Hid _ := hm
      clear hm
      as_aux_lemma =>
        go_wp2_with fail
        go_meet
        exact ⟨_, rfl, ⟨fun h => ⟨HM.out, by have := of_decide_eq_true h; omega⟩, fun h => decide_eq_true (by have := h.2; omega)⟩, rfl⟩
    · have t1 : ((m : Int) == 4503599627370496) = false := by rw [beq_eq_false_iff_ne]; omega
      as_aux_lemma =>
        go_wp2_with fail
        go_meet
        exact ⟨false, rfl, ⟨(fun h => by cases h), (fun h => absurd h.1 hm)⟩, rfl⟩
  case rest =>
  obtain ⟨bb, rfl, hbb, rfl⟩ := hcut
  go_upto_if 26 with fail
  go_cut [9] from 12 (fun v W => v = .int .u64 (lo : Int) ∧ W = wc)
  case first =>
    cases bb
    · have e : lo = 4 * m - 2 := by rw [HLo.out, if_neg (fun h => by have := hbb.out.2 h; cases this)]
      have e' : 4 * (m : Int) - 2 = (lo : Int) := by omega
      clear e
      as_aux_lemma =>
        go_wp2_with fail
        go_meet
        exact ⟨congrArg (Value.int .u64) e', rfl⟩
    · have e : lo = 4 * m - 1 := by rw [HLo.out, if_pos (hbb.out.1 rfl)]
      have e' : 4 * (m : Int) - 1 = (lo : Int) := by omega
      clear e
      as_aux_lemma =>
        go_wp2_with fail
        go_meet
        first | exact ⟨congrArg (Value.int .u64) e', rfl⟩ | exact ⟨rfl, rfl⟩
  case rest =>
  obtain ⟨rfl, rfl⟩ := hcut
  have hm2 : m % 2 = 0 ∨ m % 2 = 1 := by omega
  go_wp2_with fail
  refine (HG1.out _).mono ?_
  rintro e w2 ⟨rfl, hb2⟩
  rcases C1.out with h | h | h <;> rcases C2.out with g | g | g <;> rcases hm2 with e0 | e0 <;> (
    subst h
    subst g
    have hS := HSd.out
    simp [e0] at hS
    subst hS
    have t2 : ((m : Int) % 2) = ((m % 2 : Nat) : Int) := by omega
    rw [e0] at t2
    as_aux_lemma =>
      first
        | (go_wp2_with fail
           go_ret
           exact ⟨rfl, hb2⟩)
        | (go_wp2_with fail
           refine (HG2.out _).mono ?_
           rintro e w3 ⟨rfl, hb3⟩
           go_wp2_with fail
           go_ret
           exact ⟨rfl, hb2.trans (hb3.mono hb2.size)⟩))
end Go.Proofs.YtmejmohambhaaaaGreatDoor
/- ratio: the document's, of layer 2. Own work of the verifier. -/
namespace Go.Proofs.YtmejmohambhaaaaGreatDoor
open Go.RowKit Soft

theorem nless_v {W : World} {v u : Value} {M N : Nat} (h : BigAt W v M) (k : BigAt W u N) (hM : Sm M) (hle : N ≤ M) :
    Calls Tryz.prog 75 #[v, u] W fun e w' => Made W (M - N) e w' := by
  obtain ⟨ao, b, o, cap, L, rfl, hR, rfl, hT⟩ := h
  obtain ⟨ao2, b2, o2, cap2, L2, rfl, hR2, rfl, hT2⟩ := k
  have h1 := hM.len hT rfl
  exact (nless_rows ao b o cap L ao2 b2 o2 cap2 L2 W hR hR2 hT2 hle (by omega)).mono fun e w' ⟨v, he, hb, hB⟩ => ⟨v, he, hb, hB.big⟩
/-- The two parts of the quotient: b's value is m 2^k; by 10^s. -/
def rX (b : Nat) (s : Int) : Nat := pM b * 2 ^ (pK b).toNat * 10 ^ (-s).toNat
def rY (b : Nat) (s : Int) : Nat := 1 * 2 ^ (-(pK b)).toNat * 10 ^ s.toNat
/-- What the loop of the division keeps: Q the quotient's high bits, R what is left. -/
def Div (X Y R Q j : Nat) : Prop := X = Q * Y + R ∧ R < Y * 2 ^ j ∧ Q + 2 ^ j ≤ 9223372036854775808 ∧ ∃ c, Q = 2 ^ j * c
theorem div_start {X Y : Nat} (h : X < Y * 9223372036854775808) : Div X Y X 0 63 :=
  ⟨by rw [Nat.zero_mul, Nat.zero_add], h, by decide, 0, by rw [Nat.mul_zero]⟩
theorem div_not {X Y R Q j : Nat} (h : Div X Y R Q (j + 1)) (hR : R < Y * 2 ^ j) : Div X Y R Q j := by
  obtain ⟨h1, h2, h3, c, h4⟩ := h
  rw [Nat.pow_succ] at h3 h4
  exact ⟨h1, hR, by omega, 2 * c, by rw [h4, Nat.mul_assoc]⟩
theorem div_sub {X Y R Q j : Nat} (h : Div X Y R Q (j + 1)) (hR : Y * 2 ^ j ≤ R) : Div X Y (R - Y * 2 ^ j) (Q + 2 ^ j) j := by
  obtain ⟨h1, h2, h3, c, h4⟩ := h
  rw [Nat.pow_succ] at h2 h3 h4
  refine ⟨?_, ?_, by omega, 2 * c + 1, ?_⟩
  · rw [Nat.add_mul, Nat.mul_comm (2 ^ j) Y]; omega
  · rw [← Nat.mul_assoc] at h2; omega
  · rw [h4, Nat.mul_add, Nat.mul_one, Nat.mul_assoc]
theorem div_or {X Y R Q j : Nat} (h : Div X Y R Q (j + 1)) : Q ||| 2 ^ j = Q + 2 ^ j := by
  obtain ⟨h1, h2, h3, c, h4⟩ := h
  rw [h4, Nat.two_pow_add_eq_or_of_lt (Nat.pow_lt_pow_right (by decide) (Nat.lt_succ_self j)) c]
theorem div_end {X Y R Q : Nat} (h : Div X Y R Q 0) : Q = X / Y ∧ R = X % Y := by
  obtain ⟨h1, h2, h3, c, h4⟩ := h
  rw [Nat.pow_zero, Nat.mul_one] at h2
  have hY : 0 < Y := by omega
  constructor
  · rw [h1, Nat.add_comm, Nat.add_mul_div_right _ _ hY, Nat.div_eq_of_lt h2, Nat.zero_add]
  · rw [h1, Nat.add_comm, Nat.add_mul_mod_self_right, Nat.mod_eq_of_lt h2]
theorem div_le {X Y R Q j : Nat} (h : Div X Y R Q j) : R ≤ X := by have := h.1; omega
theorem div_q {X Y R Q j : Nat} (h : Div X Y R Q j) : Q < 9223372036854775808 := by have := h.2.2.1; have := Nat.pow_pos (n := j) (show 0 < 2 from by decide); omega
/-- What ratio answers. -/
def rAns (X Y : Nat) : Value := .tuple #[.int .u64 ((X / Y : Nat) : Int), .int .i64 (cmpN (X % Y * 2) Y)]
set_option maxHeartbeats 2000000 in
set_option maxRecDepth 100000 in
theorem ratio_any (b : Nat) (s : Int) (hb : b < 9218868437227405312) (hs0 : -1000 ≤ s) (hs1 : s ≤ 1000) (hq : rX b s < rY b s * 9223372036854775808) (w : World) :
    Calls Tryz.prog 45 #[.int .u64 (b : Int), .int .i64 s] w fun e w' => e = .returned (rAns (rX b s) (rY b s)) ∧ Below w.heap.size w w' := by
  have HO : Hid (∀ (x : Nat) (W : World), x < 18446744073709551616 → Calls Tryz.prog 71 #[.int .u64 (x : Int)] W fun e w' => Made W x e w') := fun x W hx => (nof_any x hx W).mono fun e w' ⟨v, h1, h2, h3⟩ => ⟨v, h1, h2, h3.big⟩
  have HT : Hid (∀ (n N : Nat) (v : Value) (W : World), n ≤ 1000 → NSh (N * 10 ^ n) → BigAt W v N → Calls Tryz.prog 73 #[v, .int .i64 (n : Int)] W fun e w' => Made W (N * 10 ^ n) e w') := fun n N v W hn hN hv => ntens_any n v N (by omega) W hv hN
  have HSh : Hid (∀ (n N : Nat) (v : Value) (W : World), n ≤ 5000 → Sm N → BigAt W v N → Calls Tryz.prog 72 #[v, .int .i64 (n : Int)] W fun e w' => Made W (N * 2 ^ n) e w') := fun n N v W hn hN hv => nshift_any n (by omega) hv hN
  have HC : Hid (∀ (M N : Nat) (v u : Value) (W : World), Sm M → Sm N → BigAt W v M → BigAt W u N → Calls Tryz.prog 74 #[v, u] W fun e w' => e = .returned (.int .i64 (cmpN M N)) ∧ Below W.heap.size W w') := fun M N v u W h1 h2 h3 h4 => ncompare_v h3 h4 h1 h2
  have HL : Hid (∀ (M N : Nat) (v u : Value) (W : World), Sm M → N ≤ M → BigAt W v M → BigAt W u N → Calls Tryz.prog 75 #[v, u] W fun e w' => Made W (M - N) e w') := fun M N v u W h1 h2 h3 h4 => nless_v h3 h4 h1 h2
  have HD : Hid (∀ (N : Nat) (v : Value) (W : World), Sm N → BigAt W v N → Calls Tryz.prog 76 #[v, .int .u32 2] W fun e w' => Made W (N * 2) e w') := fun N v W h1 h2 => (ntimes_v 2 (by decide) h2 h1.nsh).mono fun e w' ⟨v, h1, h2, h3⟩ => ⟨v, h1, h2, h3.big⟩
  have HPa : Hid _ := fun W => parts_any b hb W
  have HXY : Hid (rX b s = pM b * 2 ^ (pK b).toNat * 10 ^ (-s).toNat ∧ rY b s = 1 * 2 ^ (-(pK b)).toNat * 10 ^ s.toNat) := ⟨rfl, rfl⟩
  have HQ : Hid (rX b s < rY b s * 9223372036854775808) := hq
  clear hq
  have h1 := pM_lt b
  have h3 := pK_low b
  have h4 := pK_high b hb
  have HSX : Hid (Sm (rX b s) ∧ Sm (rX b s * 2)) := by
    have e : rX b s * 2 = pM b * 10 ^ (-s).toNat * 2 ^ ((pK b).toNat + 1) := by unfold rX; rw [Nat.pow_succ, ← Nat.mul_assoc, Nat.mul_right_comm (pM b)]
    have : Sm (rX b s * 2) := by rw [e]; exact sm_of _ _ _ (by omega) (by omega) (by omega)
    exact ⟨this.le (by omega), this⟩
  have HSY : Hid (∀ j, j ≤ 62 → Sm (rY b s * 2 ^ j)) := fun j hj => by
    have e : rY b s * 2 ^ j = 1 * 10 ^ s.toNat * 2 ^ ((-(pK b)).toNat + j) := by unfold rY; rw [Nat.pow_add, ← Nat.mul_assoc, Nat.mul_right_comm 1]
    rw [e]; exact sm_of _ _ _ (by omega) (by omega) (by omega)
  generalize rX b s = X at *
  generalize rY b s = Y at *
  generalize pM b = m at *
  generalize pK b = k at *
  go_enter Tryz.func45, Tryz.ntmps45
  go_wp2_with fail
  refine (HPa.out _).mono ?_
  rintro e w0 ⟨rfl, rfl⟩
  clear HPa
  go_wp2_with fail
  refine (HO.out m _ (by omega)).mono ?_
  rintro e w1 ⟨v1, rfl, hb1, hB1⟩
  go_wp2_with fail
  refine (HO.out 1 _ (by omega)).mono ?_
  rintro e w2 ⟨v2, rfl, hb2, hB2⟩
  have hA2 := hB1.below hb2
  have hbw : Below w0.heap.size w0 w2 := hb1.trans (hb2.mono hb1.size)
  clear hB1 hb1 hb2 HO
  have HS1 : Hid (Sm m ∧ Sm 1) := ⟨(sm_of m 0 0 (by omega) (by omega) (by omega)).le (by simp), (sm_of 1 0 0 (by omega) (by omega) (by omega)).le (by simp)⟩
  go_upto_if 22 with fail
  go_cut [8, 9] from 10 (fun a b W => Hid (BigAt W a (m * 2 ^ k.toNat)) ∧ Hid (BigAt W b (1 * 2 ^ (-k).toNat)) ∧ Below w0.heap.size w0 W)
  case first =>
    by_cases hk : 0 ≤ k
    · obtain ⟨n, rfl⟩ : ∃ n : Nat, k = (n : Int) := ⟨k.toNat, by omega⟩
      have e1 : (n : Int).toNat = n := by omega
      have e2 : (-(n : Int)).toNat = 0 := by omega
      have HT' : Hid _ := HSh.out n m v1 w2 (by omega) HS1.out.1 hA2
      have HB2 : Hid (BigAt w2 v2 (1 * 2 ^ (-(n : Int)).toNat)) := by rw [e2, Nat.pow_zero, Nat.mul_one]; exact hB2
      clear hA2 hB2
      as_aux_lemma =>
        go_wp2_with fail
        refine Calls.mono HT'.out ?_
        rintro e w3 ⟨v3, rfl, hb3, hB3⟩
        have HB3 : Hid (BigAt w3 v3 (m * 2 ^ ((n : Int)).toNat)) := by rw [e1]; exact hB3
        clear hB3
        go_wp2_with fail
        go_meet
        exact ⟨HB3, HB2.out.below hb3, hbw.trans (hb3.mono hbw.size)⟩
    · obtain ⟨n, rfl⟩ : ∃ n : Nat, k = -(n : Int) := ⟨(-k).toNat, by omega⟩
      have e1 : (-(n : Int)).toNat = 0 := by omega
      have e2 : (- -(n : Int)).toNat = n := by omega
      have e3 : - -(n : Int) = (n : Int) := by omega
      have HT' : Hid _ := HSh.out n 1 v2 w2 (by omega) HS1.out.2 hB2
      have HA2 : Hid (BigAt w2 v1 (m * 2 ^ (-(n : Int)).toNat)) := by rw [e1, Nat.pow_zero, Nat.mul_one]; exact hA2
      clear hA2 hB2
      as_aux_lemma =>
        go_wp2_with fail
        refine Calls.mono HT'.out ?_
        rintro e w3 ⟨v3, rfl, hb3, hB3⟩
        have HB3 : Hid (BigAt w3 v3 (1 * 2 ^ (- -(n : Int)).toNat)) := by rw [e2]; exact hB3
        clear hB3
        go_wp2_with fail
        go_meet
        exact ⟨HA2.out.below hb3, HB3, hbw.trans (hb3.mono hbw.size)⟩
  case rest =>
  clear hA2 hB2 hbw HS1
  obtain ⟨HA, HB, hbw⟩ := hcut
  generalize m * 2 ^ k.toNat = P at *
  generalize 1 * 2 ^ (-k).toNat = Q at *
  go_upto_if 31 with fail
  go_cut [8, 9] from 10 (fun a b W => Hid (BigAt W a X) ∧ Hid (BigAt W b Y) ∧ Below w0.heap.size w0 W)
  case first =>
    by_cases hs : 0 ≤ s
    · obtain ⟨n, rfl⟩ : ∃ n : Nat, s = (n : Int) := ⟨s.toNat, by omega⟩
      have e1 : (n : Int).toNat = n := by omega
      have e2 : (-(n : Int)).toNat = 0 := by omega
      have HE : Hid (X = P ∧ Y = Q * 10 ^ n) := by have := HXY.out; rw [e1, e2, Nat.pow_zero, Nat.mul_one] at this; exact this
      have HT' : Hid _ := HT.out n Q u9 wc (by omega) (by have := (HSY.out 0 (by omega)).nsh; rw [Nat.pow_zero, Nat.mul_one, HE.out.2] at this; exact this) HB.out
      as_aux_lemma =>
        go_wp2_with fail
        refine Calls.mono HT'.out ?_
        rintro e w3 ⟨v3, rfl, hb3, hB3⟩
        have HB3 : Hid (BigAt w3 v3 Y) := by rw [HE.out.2]; exact hB3
        have HA3 : Hid (BigAt w3 u8 X) := by rw [HE.out.1]; exact HA.out.below hb3
        clear hB3
        go_wp2_with fail
        go_meet
        exact ⟨HA3, HB3, hbw.trans (hb3.mono hbw.size)⟩
    · obtain ⟨n, rfl⟩ : ∃ n : Nat, s = -(n : Int) := ⟨(-s).toNat, by omega⟩
      have e1 : (-(n : Int)).toNat = 0 := by omega
      have e2 : (- -(n : Int)).toNat = n := by omega
      have e3 : - -(n : Int) = (n : Int) := by omega
      have HE : Hid (X = P * 10 ^ n ∧ Y = Q) := by have := HXY.out; rw [e1, e2, Nat.pow_zero, Nat.mul_one] at this; exact this
      have HT' : Hid _ := HT.out n P u8 wc (by omega) (by have := HSX.out.1.nsh; rw [HE.out.1] at this; exact this) HA.out
      as_aux_lemma =>
        go_wp2_with fail
        refine Calls.mono HT'.out ?_
        rintro e w3 ⟨v3, rfl, hb3, hB3⟩
        have HA3 : Hid (BigAt w3 v3 X) := by rw [HE.out.1]; exact hB3
        have HB3 : Hid (BigAt w3 u9 Y) := by rw [HE.out.2]; exact HB.out.below hb3
        clear hB3
        go_wp2_with fail
        go_meet
        exact ⟨HA3, HB3, hbw.trans (hb3.mono hbw.size)⟩
  case rest =>
  as_aux_lemma =>
  clear HA HB hbw HT HXY
  obtain ⟨HA, HB, hbw⟩ := hcut
  clear h1 h3 h4 hs0 hs1
  go_wp2_with fail
  go_loopw [8, 10, 11] (fun x q i W => ∃ (R Q j : Nat) (a : Int), q = .int .u64 (Q : Int) ∧ i = .int .i64 a ∧ a + 1 = (j : Int) ∧ j ≤ 63 ∧ Hid (Div X Y R Q j) ∧ Hid (BigAt W x R) ∧ Hid (BigAt W u9 Y) ∧ Below w0.heap.size w0 W) (fun _ _ i _ => (intOf i + 1).toNat)
  case atStart => exact ⟨X, 0, 63, 62, rfl, rfl, rfl, by omega, div_start HQ.out, HA, HB, hbw⟩
  case round =>
    obtain ⟨R, Q, j, a, rfl, rfl, haj, hj, HV, HR, HY, hbl⟩ := hrel
    have HSR : Hid (Sm R) := HSX.out.1.le (div_le HV.out)
    have hQ := div_q HV.out
    cases j with
    | zero =>
      obtain rfl : a = -1 := by omega
      have HE : Hid (Q = X / Y ∧ R = X % Y) := div_end HV.out
      have HD' : Hid _ := HD.out R u8 wr HSR.out HR.out
      have HS2 : Hid (Sm (R * 2) ∧ Sm Y) := ⟨HSX.out.2.le (Nat.mul_le_mul_right 2 (div_le HV.out)), by have := HSY.out 0 (by omega); rw [Nat.pow_zero, Nat.mul_one] at this; exact this⟩
      as_aux_lemma =>
        go_wp2_with fail
        refine Calls.mono HD'.out ?_
        rintro e w3 ⟨v3, rfl, hb3, hB3⟩
        have HC' : Hid _ := HC.out (R * 2) Y v3 u9 w3 HS2.out.1 HS2.out.2 hB3 (HY.out.below hb3)
        clear hB3
        go_wp2_with fail
        refine Calls.mono HC'.out ?_
        rintro e w4 ⟨rfl, hb4⟩
        go_wp2_with fail
        go_ret2
        refine ⟨?_, hbl.trans ((hb3.trans (hb4.mono hb3.size)).mono hbl.size)⟩
        unfold rAns
        rw [← HE.out.1, ← HE.out.2]
        rfl
    | succ n =>
      obtain rfl : a = (n : Int) := by omega
      have hn : n ≤ 62 := by omega
      have HS' : Hid _ := HSh.out n Y u9 wr (by omega) (by have := HSY.out 0 (by omega); rw [Nat.pow_zero, Nat.mul_one] at this; exact this) HY.out
      have HST : Hid (Sm (Y * 2 ^ n)) := HSY.out n hn
      have hp : (2 : Nat) ^ n < 9223372036854775808 := by
        rw [show 9223372036854775808 = 2 ^ 63 from by decide]
        exact Nat.pow_lt_pow_right (by decide) (by omega)
      have hor : bits .or .u64 (Q : Int) ((2 ^ n : Nat) : Int) = ((Q + 2 ^ n : Nat) : Int) := by
        rw [u64_or_nat Q (2 ^ n) (by omega) (by omega), div_or HV.out]
      have HOr : Hid (bits .or .u64 (Q : Int) (IntKind.u64.wrap (2 ^ n)) = ((Q + 2 ^ n : Nat) : Int)) := by
        have e : ((2 : Int) ^ n) = ((2 ^ n : Nat) : Int) := (Int.natCast_pow 2 n).symm
        show bits .or .u64 (Q : Int) (IntKind.u64.wrap (2 ^ n)) = ((Q + 2 ^ n : Nat) : Int)
        have e2 : IntKind.u64.wrap ((2 ^ n : Nat) : Int) = ((2 ^ n : Nat) : Int) := by
          generalize 2 ^ n = x at hp ⊢
          rw [IntKind.wrap_u64]
          omega
        rw [e, e2]
        exact hor
      clear hor
      have HV0 : Hid (R < Y * 2 ^ n → Div X Y R Q n) := fun h => div_not HV.out h
      have HV1 : Hid (Y * 2 ^ n ≤ R → Div X Y (R - Y * 2 ^ n) (Q + 2 ^ n) n) := fun h => div_sub HV.out h
      clear HV
      generalize 2 ^ n = p at *
      as_aux_lemma =>
        go_wp2_with fail
        refine Calls.mono HS'.out ?_
        rintro e w3 ⟨v3, rfl, hb3, hB3⟩
        have hR3 := HR.out.below hb3
        have hY3 := HY.out.below hb3
        have hbl3 := hbl.trans (hb3.mono hbl.size)
        have HC' : Hid _ := HC.out R (Y * p) _ v3 w3 HSR.out HST.out hR3 hB3
        clear hbl hb3
        go_wp2_with fail
        refine Calls.mono HC'.out ?_
        rintro e w4 ⟨rfl, hb4⟩
        have hR4 := hR3.below hb4
        have HY4 : Hid (BigAt w4 u9 Y) := hY3.below hb4
        have hT4 := hB3.below hb4
        have hbl4 := hbl3.trans (hb4.mono hbl3.size)
        clear hbl3 hb4 hR3 hY3 hB3
        by_cases hc : Y * p ≤ R
        · have hc' : (0 : Int) ≤ cmpN R (Y * p) := by unfold cmpN; rw [if_neg (by omega)]; split <;> decide
          have HL' : Hid _ := HL.out R (Y * p) _ v3 w4 HSR.out hc hR4 hT4
          clear hR4 hT4
          as_aux_lemma =>
            go_wp2_with fail
            refine Calls.mono HL'.out ?_
            rintro e w5 ⟨v5, rfl, hb5, hB5⟩
            have HB5 : Hid _ := hB5
            clear hB5
            go_wp2_with fail
            exact ⟨⟨R - Y * p, Q + p, n, _, congrArg (Value.int .u64) HOr.out, rfl, by omega, by omega, HV1.out hc, HB5, HY4.out.below hb5, hbl4.trans (hb5.mono hbl4.size)⟩, by simp [intOf]⟩
        · have hc' : ¬ (0 : Int) ≤ cmpN R (Y * p) := by unfold cmpN; rw [if_pos (by omega)]; decide
          have HR4 : Hid _ := hR4
          clear hR4 hT4
          as_aux_lemma =>
            go_wp2_with fail
            exact ⟨⟨R, Q, n, _, rfl, rfl, by omega, by omega, HV0.out (by omega), HR4, HY4, hbl4⟩, by simp [intOf]⟩
end Go.Proofs.YtmejmohambhaaaaGreatDoor
/- top: the document's, of layer 2. Own work of the verifier. -/
namespace Go.Proofs.YtmejmohambhaaaaGreatDoor
open Go.RowKit Soft

/-- Where the search for the exponent begins. -/
def tE (t : Int) : Int := (t * 30103).tdiv 100000 + 2
def tOk (i : Nat) : Bool :=
  decide (-400 ≤ tE ((i : Int) - 1074)) && decide (tE ((i : Int) - 1074) ≤ 400) &&
    decide (2 ^ ((i : Int) - 1074 + 1).toNat * 10 ^ (-(tE ((i : Int) - 1074))).toNat ≤ 10 ^ (tE ((i : Int) - 1074)).toNat * 2 ^ (-((i : Int) - 1074 + 1)).toNat)
theorem tOk_all : (List.range 2100).all tOk = true := by kernel_rfl
theorem tE_ok (t : Int) (h0 : -1074 ≤ t) (h1 : t ≤ 1024) : -400 ≤ tE t ∧ tE t ≤ 400 ∧ 2 ^ (t + 1).toNat * 10 ^ (-(tE t)).toNat ≤ 10 ^ (tE t).toNat * 2 ^ (-(t + 1)).toNat := by
  have := List.all_eq_true.1 tOk_all (t + 1074).toNat (List.mem_range.2 (by omega))
  unfold tOk at this
  rw [show (((t + 1074).toNat : Int)) - 1074 = t from by omega] at this
  rw [Bool.and_eq_true, Bool.and_eq_true] at this
  exact ⟨of_decide_eq_true this.1.1, of_decide_eq_true this.1.2, of_decide_eq_true this.2⟩
theorem cmpN_pos {a b : Nat} : 0 < cmpN a b ↔ b < a := by
  unfold cmpN
  constructor
  · intro h
    split at h
    · cases h
    · split at h
      · assumption
      · cases h
  · intro h
    rw [if_neg (by omega), if_pos h]
    decide
theorem AG_start (m j : Nat) (k : Int) (h0 : -1074 ≤ k + j) (h1 : k + j ≤ 1024) (hm : m < 2 ^ (j + 1)) : 0 < AG 1 (tE (k + j)) m k := by
  obtain ⟨_, _, h⟩ := tE_ok (k + j) h0 h1
  generalize tE (k + j) = e at *
  unfold AG
  rw [cmpN_pos, Nat.one_mul]
  generalize 10 ^ (-e).toNat = A at *
  generalize hB : 10 ^ e.toNat = B at *
  obtain ⟨d, hd1, hd2⟩ : ∃ d : Nat, j + 1 + k.toNat = d + (k + j + 1).toNat ∧ (-k).toNat = d + (-(k + j + 1)).toNat := ⟨(-k).toNat - (-(k + j + 1)).toNat, by omega, by omega⟩
  rcases Nat.eq_zero_or_pos A with hA | hA
  · subst hA
    rw [Nat.mul_zero, Nat.zero_mul]
    exact Nat.mul_pos (by rw [← hB]; exact Nat.pow_pos (by decide)) (Nat.pow_pos (by decide))
  · have a1 : m * A * 2 ^ k.toNat < 2 ^ (j + 1) * A * 2 ^ k.toNat := Nat.mul_lt_mul_of_pos_right (Nat.mul_lt_mul_of_pos_right hm hA) (Nat.pow_pos (by decide))
    have a2 : 2 ^ (j + 1) * A * 2 ^ k.toNat = 2 ^ d * (2 ^ (k + j + 1).toNat * A) := by
      rw [Nat.mul_right_comm, ← Nat.pow_add, hd1, Nat.pow_add, Nat.mul_assoc]
    have a3 : 2 ^ d * (2 ^ (k + j + 1).toNat * A) ≤ 2 ^ d * (B * 2 ^ (-(k + j + 1)).toNat) := Nat.mul_le_mul_left _ h
    have a4 : 2 ^ d * (B * 2 ^ (-(k + j + 1)).toNat) = B * 2 ^ (-k).toNat := by
      rw [hd2, Nat.pow_add, Nat.mul_left_comm]
    rw [a2] at a1
    rw [a4] at a3
    exact Nat.lt_of_lt_of_le a1 a3
theorem two_ten (n c : Nat) (h : n ≤ 3 * c) : 2 ^ n ≤ 10 ^ c := by
  refine Nat.le_trans (Nat.pow_le_pow_right (by decide) h) ?_
  rw [Nat.pow_mul]
  exact Nat.pow_le_pow_left (by decide) c
theorem AG_bottom (m : Nat) (k : Int) (h0 : -1074 ≤ k) (hm : 1 ≤ m) : AG 1 (-400) m k ≤ 0 := by
  refine Int.not_lt.1 ?_
  unfold AG
  rw [cmpN_pos, show (-400 : Int).toNat = 0 from rfl, Nat.pow_zero, Nat.one_mul]
  obtain ⟨c, hc, hc4⟩ : ∃ c : Nat, (- -400 : Int).toNat = c ∧ c = 400 := ⟨_, rfl, rfl⟩
  rw [hc]
  have a1 : 2 ^ (-k).toNat ≤ 10 ^ c := two_ten _ c (by omega)
  have a3 : 10 ^ c ≤ m * 10 ^ c * 2 ^ k.toNat := by
    have b1 : 1 * 10 ^ c ≤ m * 10 ^ c := Nat.mul_le_mul_right _ hm
    rw [Nat.one_mul] at b1
    exact Nat.le_trans b1 (Nat.le_mul_of_pos_right _ (Nat.pow_pos (by decide)))
  exact Nat.not_lt.2 (Nat.le_trans a1 a3)
/-- 10^t is at most the float, 10^(t + 1) above it. -/
def Top (b : Nat) (t : Int) : Prop := -400 ≤ t ∧ t ≤ 400 ∧ AG 1 t (pM b) (pK b) ≤ 0 ∧ 0 < AG 1 (t + 1) (pM b) (pK b)
/-- What the loop of halves keeps. -/
def Half (m X j : Nat) : Prop := X * 2 ^ j ≤ m ∧ m < (X + 1) * 2 ^ j
theorem half_step {m X j : Nat} (h : Half m X j) : Half m (X / 2) (j + 1) := by
  obtain ⟨h1, h2⟩ := h
  unfold Half
  rw [Nat.pow_succ, Nat.mul_comm (2 ^ j) 2, ← Nat.mul_assoc, ← Nat.mul_assoc]
  exact ⟨Nat.le_trans (Nat.mul_le_mul_right _ (by omega)) h1, Nat.lt_of_lt_of_le h2 (Nat.mul_le_mul_right _ (by omega))⟩
theorem half_j {m X j : Nat} (h : Half m X j) (hX : 1 ≤ X) (hm : m < 9007199254740992) : j ≤ 52 := by
  rcases Nat.lt_or_ge j 53 with c | c
  · omega
  · have a1 : 2 ^ 53 ≤ 2 ^ j := Nat.pow_le_pow_right (by decide) c
    have a2 : 1 * 2 ^ j ≤ X * 2 ^ j := Nat.mul_le_mul_right _ hX
    have a3 := h.1
    rw [show (2 : Nat) ^ 53 = 9007199254740992 from by decide] at a1
    omega
set_option maxHeartbeats 2000000 in
set_option maxRecDepth 100000 in
theorem top_any (b : Nat) (hb0 : 1 ≤ b) (hb : b < 9218868437227405312) (w : World) :
    Calls Tryz.prog 44 #[.int .u64 (b : Int)] w fun e w' => ∃ t, e = .returned (.int .i64 t) ∧ Top b t ∧ Below w.heap.size w w' := by
  have HPa : Hid _ := fun W => parts_any b hb W
  have h1 := pM_lt b
  have h2 := pM_pos b hb0
  have h3 := pK_low b
  have h4 := pK_high b hb
  have HG : Hid (∀ e W, -1000 ≤ e → e ≤ 1000 → Calls Tryz.prog 52 #[.int .u64 1, .int .i64 e, .int .u64 (pM b : Int), .int .i64 (pK b)] W fun r w' => r = .returned (.int .i64 (AG 1 e (pM b) (pK b))) ∧ Below W.heap.size W w') := fun e W g0 g1 => against_any 1 (pM b) e (pK b) (by omega) (by omega) (by omega) (by omega) (by omega) (by omega) W
  unfold Top
  generalize pM b = m at *
  generalize pK b = k at *
  go_enter Tryz.func44, Tryz.ntmps44
  go_wp2_with fail
  refine (HPa.out _).mono ?_
  rintro e w0 ⟨rfl, rfl⟩
  clear HPa
  go_wp2_with fail
  go_loopw [5, 6] (fun a x W => ∃ X j : Nat, a = .int .i64 (k + (j : Int)) ∧ x = .int .u64 (X : Int) ∧ 1 ≤ X ∧ X ≤ m ∧ Hid (Half m X j) ∧ W = w0) (fun _ x _ => (intOf x).toNat)
  case atStart => exact ⟨m, 0, congrArg (Value.int .i64) (by omega), rfl, h2, by omega, ⟨by rw [Nat.pow_zero, Nat.mul_one]; exact Nat.le_refl _, by rw [Nat.pow_zero, Nat.mul_one]; omega⟩, rfl⟩
  case round =>
    obtain ⟨X, j, rfl, rfl, hX, hXm, HH, hwr⟩ := hrel
    subst wr
    have hj := half_j HH.out hX h1
    by_cases hx : 1 < X
    · have hx' : (1 : Int) < (X : Int) := by omega
      have HH' : Hid _ := half_step HH.out
      as_aux_lemma =>
        go_wp2_with fail
        exact ⟨⟨X / 2, j + 1, congrArg (Value.int .i64) (by omega), congrArg (Value.int .u64) (by omega), by omega, by omega, HH', trivial⟩, by simp [intOf]; omega⟩
    · have hX1 : X = 1 := by omega
      have hx' : ¬ (1 : Int) < (X : Int) := by omega
      have HS : Hid (0 < AG 1 (tE (k + j)) m k) := AG_start m j k (by omega) (by omega) (by have := HH.out.2; rw [hX1, show (1 : Nat) + 1 = 2 from rfl, Nat.mul_comm, ← Nat.pow_succ] at this; exact this)
      have HB : Hid (AG 1 (-400) m k ≤ 0) := AG_bottom m k h3 h2
      obtain ⟨t1, t2, _⟩ := tE_ok (k + j) (by omega) (by omega)
      clear hX1 HH
      have hte : (((k + (j : Int)) * 30103).tdiv 100000) + 2 = tE (k + j) := rfl
      have t3 : -402 ≤ ((k + (j : Int)) * 30103).tdiv 100000 := by omega
      have t4 : ((k + (j : Int)) * 30103).tdiv 100000 ≤ 398 := by omega
      as_aux_lemma =>
        go_wp2_with fail
        go_loopw [7] (fun a W => ∃ e : Int, a = .int .i64 e ∧ -400 ≤ e ∧ e ≤ 400 ∧ Hid (0 < AG 1 e m k ∨ 0 < AG 1 (e + 1) m k) ∧ Below w0.heap.size w0 W) (fun a _ => (intOf a + 400).toNat)
        case atStart => exact ⟨tE (k + j), rfl, t1, t2, Or.inl HS.out, Below.refl _ _⟩
        case round =>
          obtain ⟨e, rfl, e1, e2, HE, hbl⟩ := hrel
          have HG' : Hid _ := HG.out e wr (by omega) (by omega)
          have HB' : Hid (0 < AG 1 e m k → -400 < e) := fun h => by
            rcases Int.lt_or_eq_of_le e1 with c | c
            · exact c
            · rw [← c] at h; exact absurd h (Int.not_lt.2 HB.out)
          as_aux_lemma =>
            go_wp2_with fail
            refine Calls.mono HG'.out ?_
            rintro r w3 ⟨rfl, hb3⟩
            by_cases hc : 0 < AG 1 e m k
            · have e3 := HB'.out hc
              have HC : Hid (0 < AG 1 (e - 1) m k ∨ 0 < AG 1 (e - 1 + 1) m k) := Or.inr (by rw [show e - 1 + 1 = e from by omega]; exact hc)
              generalize AG 1 e m k = g at *
              as_aux_lemma =>
                go_wp2_with fail
                exact ⟨⟨e - 1, rfl, by omega, by omega, HC, hbl.trans (hb3.mono hbl.size)⟩, by simp [intOf]; omega⟩
            · have HC : Hid (AG 1 e m k ≤ 0 ∧ 0 < AG 1 (e + 1) m k) := ⟨Int.not_lt.1 hc, HE.out.resolve_left hc⟩
              clear HE HB' HG'
              generalize hg : AG 1 e m k = g at *
              as_aux_lemma =>
                go_wp2_with fail
                go_ret
                exact ⟨e, rfl, ⟨e1, e2, by rw [hg]; exact HC.out.1, HC.out.2⟩, hbl.trans (hb3.mono hbl.size)⟩
end Go.Proofs.YtmejmohambhaaaaGreatDoor
/- zeros, and the arithmetic of Digits: the document's, of layer 2. Own work of the verifier. -/
namespace Go.Proofs.YtmejmohambhaaaaGreatDoor
open Go.RowKit Soft

theorem top_ratio (b : Nat) (t : Int) (n : Nat) (h : Top b t) : rX b (t - n + 1) < rY b (t - n + 1) * 10 ^ n := by
  have h4 := h.2.2.2
  unfold AG at h4
  rw [cmpN_pos, Nat.one_mul] at h4
  unfold rX rY
  rw [Nat.one_mul]
  generalize pM b = m at *
  generalize pK b = k at *
  obtain ⟨d, hd1, hd2⟩ : ∃ d : Nat, (-(t - n + 1)).toNat = (-(t + 1)).toNat + d ∧ (t - n + 1).toNat + n = (t + 1).toNat + d := ⟨(-(t - n + 1)).toNat - (-(t + 1)).toNat, by omega, by omega⟩
  have e1 : m * 2 ^ k.toNat * 10 ^ (-(t - n + 1)).toNat = m * 10 ^ (-(t + 1)).toNat * 2 ^ k.toNat * 10 ^ d := by
    rw [hd1, Nat.pow_add, ← Nat.mul_assoc, Nat.mul_right_comm m]
  have e2 : 2 ^ (-k).toNat * 10 ^ (t - n + 1).toNat * 10 ^ n = 10 ^ (t + 1).toNat * 2 ^ (-k).toNat * 10 ^ d := by
    rw [Nat.mul_assoc, ← Nat.pow_add, hd2, Nat.pow_add, ← Nat.mul_assoc, Nat.mul_comm (2 ^ (-k).toNat)]
  rw [e1, e2]
  exact Nat.mul_lt_mul_of_pos_right h4 (Nat.pow_pos (by decide))
theorem rY_pos (b : Nat) (s : Int) : 0 < rY b s := by
  unfold rY
  rw [Nat.one_mul]
  exact Nat.mul_pos (Nat.pow_pos (by decide)) (Nat.pow_pos (by decide))
theorem ten17 {n : Nat} (h : n ≤ 17) : 10 ^ n ≤ 100000000000000000 := by
  have : 10 ^ n ≤ 10 ^ 17 := Nat.pow_le_pow_right (by decide) h
  rw [show (10 : Nat) ^ 17 = 100000000000000000 from by decide] at this
  exact this
theorem top_big (b : Nat) (t : Int) (n : Nat) (h : Top b t) (hn : n ≤ 17) : rX b (t - n + 1) < rY b (t - n + 1) * 9223372036854775808 :=
  Nat.lt_of_lt_of_le (top_ratio b t n h) (Nat.mul_le_mul_left _ (Nat.le_trans (ten17 hn) (by decide)))
/-- The quotient, and how what is left of it and one half stand. -/
def qN (b : Nat) (s : Int) : Nat := rX b s / rY b s
def hN (b : Nat) (s : Int) : Int := cmpN (rX b s % rY b s * 2) (rY b s)
theorem qN_lt (b : Nat) (t : Int) (n : Nat) (h : Top b t) (hn : n ≤ 17) : qN b (t - n + 1) < 100000000000000000 :=
  Nat.lt_of_lt_of_le ((Nat.div_lt_iff_lt_mul (rY_pos b _)).2 (by rw [Nat.mul_comm]; exact top_ratio b t n h)) (ten17 hn)
/-- One of both, the quotient and the next number, lies within the float's interval. -/
def okD (b : Nat) (s : Int) : Prop := SideN b (qN b s) s = 0 ∨ SideN b (qN b s + 1) s = 0
/-- It is the next one. -/
def upD (b : Nat) (s : Int) : Prop := SideN b (qN b s) s ≠ 0 ∨ SideN b (qN b s + 1) s = 0 ∧ (0 < hN b s ∨ hN b s = 0 ∧ qN b s % 2 = 1)
open Classical in
/-- Which of both. -/
noncomputable def cD (b : Nat) (s : Int) : Nat := if upD b s then qN b s + 1 else qN b s
theorem side_zero (b : Nat) (s : Int) (hb : 1 ≤ b) : SideN b 0 s ≠ 0 := by
  unfold SideN
  rw [if_pos]
  · decide
  · refine Or.inl ?_
    unfold AG
    rw [Nat.zero_mul, Nat.zero_mul, cmpN_lt]
    · decide
    · have h1 := pM_pos b hb
      have h2 : 0 < lowM b := by unfold lowM; split <;> omega
      exact Nat.mul_pos (Nat.mul_pos h2 (Nat.pow_pos (by decide))) (Nat.pow_pos (by decide))
theorem cD_pos (b : Nat) (s : Int) (hb : 1 ≤ b) : 1 ≤ cD b s := by
  unfold cD
  split
  · omega
  · rename_i h
    rcases Nat.eq_zero_or_pos (qN b s) with c | c
    · refine absurd (Or.inl ?_) h
      rw [c]
      exact side_zero b s hb
    · exact c
/-- Without its noughts. -/
def Strp (c : Nat) (s : Int) (c' : Nat) (s' : Int) : Prop := ∃ j : Nat, c = c' * 10 ^ j ∧ s' = s + j
theorem strp_step {c c' : Nat} {s s' : Int} (h : Strp c s c' s') (h0 : c' % 10 = 0) : Strp c s (c' / 10) (s' + 1) := by
  obtain ⟨j, h1, h2⟩ := h
  refine ⟨j + 1, ?_, by omega⟩
  rw [h1, Nat.pow_succ, Nat.mul_comm (10 ^ j) 10, ← Nat.mul_assoc, show c' / 10 * 10 = c' from by omega]
theorem strp_s {c c' : Nat} {s s' : Int} (h : Strp c s c' s') (h1 : 1 ≤ c') (hc : c ≤ 100000000000000000) : s ≤ s' ∧ s' ≤ s + 17 := by
  obtain ⟨j, e1, e2⟩ := h
  have : j ≤ 17 := by
    rcases Nat.lt_or_ge 17 j with g | g
    · have a1 : 10 ^ 18 ≤ 10 ^ j := Nat.pow_le_pow_right (by decide) g
      have a2 : 1 * 10 ^ j ≤ c' * 10 ^ j := Nat.mul_le_mul_right _ h1
      rw [show (10 : Nat) ^ 18 = 1000000000000000000 from by decide] at a1
      omega
    · exact g
  omega
/-- What Digits answers: of the shortest, the nearest, without noughts. -/
def DigsOf (b c : Nat) (e : Int) : Prop :=
  (∃ (t : Int) (n : Nat) (s : Int), Top b t ∧ 1 ≤ n ∧ n ≤ 17 ∧ (∀ i : Nat, 1 ≤ i → i < n → ¬ okD b (t - i + 1)) ∧ okD b (t - n + 1) ∧ Strp (cD b (t - n + 1)) (t - n + 1) c s ∧ c % 10 ≠ 0 ∧ e = s + (Lib.nDigits c : Int) - 1)
  ∨ ((∃ t : Int, Top b t ∧ ∀ i : Nat, 1 ≤ i → i ≤ 17 → ¬ okD b (t - i + 1)) ∧ c = 0 ∧ e = 0)
set_option maxHeartbeats 1000000 in
theorem zeros_any (n : Nat) (hn : n ≤ 1000000) (w : World) :
    Calls Tryz.prog 34 #[.int .i64 (n : Int)] w fun e w' => e = .returned (.string ⟨(List.replicate n 48).toArray⟩) ∧ w' = w := by
  go_enter Tryz.func34, Tryz.ntmps34
  go_wp2_with fail
  go_loopw [3, 4] (fun a x W => ∃ i : Nat, i ≤ n ∧ a = .string ⟨(List.replicate i 48).toArray⟩ ∧ x = .int .i64 (i : Int) ∧ W = w) (fun _ x _ => n - (intOf x).toNat)
  case atStart => exact ⟨0, by omega, rfl, rfl, rfl⟩
  case round =>
    obtain ⟨i, hi, rfl, rfl, hw⟩ := hrel
    subst wr
    by_cases h : i < n
    · have h' : (i : Int) < (n : Int) := by omega
      as_aux_lemma =>
        go_wp2_with fail
        refine ⟨⟨i + 1, by omega, ?_, by go_num, trivial⟩, by simp [intOf]; omega⟩
        rw [List.replicate_succ']
        first | rfl | simp
    · obtain rfl : i = n := by omega
      have h' : ¬ (i : Int) < (i : Int) := by omega
      as_aux_lemma =>
        go_wp2_with fail
        go_ret
        exact ⟨rfl, rfl⟩
end Go.Proofs.YtmejmohambhaaaaGreatDoor
