/- RIGHT UTF-8, as the language's own range over a text tells it. Own work of the verifier. -/
import Derived.Test.YtkakanejiakbkaaGreatDoorVAC
import Derived.Lib.DecodeN
import Derived.Lib.OthersKept
import Derived.Laws.RangeAny
import Derived.Maps.AppendAt
import Derived.Deep.AppendLies
import Derived.Laws.IdiomStrings
import Derived.OwnWalk
namespace Go.Proofs.YtkakanejiakbkaaGreatDoor.La
open Go.RowKit

theorem get_bang (l : List UInt8) (k : Nat) : (ByteArray.mk l.toArray).get! k = l.getD k 0 := by
  show l.toArray.get!Internal k = _
  rw [List.getD_eq_getElem?_getD]
  simp [Array.get!Internal]
  rfl
theorem tl_iff (l : List UInt8) (k : Nat) : tlAt l k = decide (k < l.length ∧ (l.getD k 0).toNat / 64 = 2) := by
  unfold tlAt tlB
  have := (l.getD k 0).toNat_lt
  rw [Bool.eq_iff_iff]
  simp only [Bool.and_eq_true, decide_eq_true_eq]
  omega
/-- What a byte that is no letter's first one is told as. -/
def badAt (l : List UInt8) (i r : Nat) : Prop := r = 65533 ∧ ¬ (3 ≤ l.length - i ∧ (l.getD i 0).toNat = 239 ∧ (l.getD (i + 1) 0).toNat = 191 ∧ (l.getD (i + 2) 0).toNat = 189)
theorem fine_true {n c : Nat} (h : ¬ (n = 1 ∧ c < 128 ∨ n = 2 ∧ c < 2048 ∨ n = 3 ∧ c < 65536 ∨ 1114111 < c ∨ 55296 ≤ c ∧ c ≤ 57343)) : fine n c = true := decide_eq_true h
theorem fine_false {n c : Nat} (h : n = 1 ∧ c < 128 ∨ n = 2 ∧ c < 2048 ∨ n = 3 ∧ c < 65536 ∨ 1114111 < c ∨ 55296 ≤ c ∧ c ≤ 57343) : fine n c = false := decide_eq_false (fun k => k h)
set_option maxHeartbeats 4000000 in
theorem utf_step (l : List UInt8) (i r n : Nat) (h : i < l.length) (hd : Utf8.decode ⟨l.toArray⟩ i = (r, n)) :
    1 ≤ n ∧ i + n ≤ l.length ∧ r ≤ 1114111 ∧ (badAt l i r ∧ utfB (l.drop i) = false ∨ ¬ badAt l i r ∧ utfB (l.drop i) = utfB (l.drop (i + n))) := by
  rw [Lib.decode_at, get_bang, get_bang, get_bang, get_bang] at hd
  have e0 : l.getD i 0 = l[i] := get_at l i h
  have hsz : (ByteArray.mk l.toArray).size = l.length := by show l.toArray.size = _; simp
  rw [hsz] at hd
  have q0 := (l.getD i 0).toNat_lt
  have q1 := (l.getD (i + 1) 0).toNat_lt
  have q2 := (l.getD (i + 2) 0).toNat_lt
  have q3 := (l.getD (i + 3) 0).toNat_lt
  have t1 := tl_iff l (i + 1)
  have t2 := tl_iff l (i + 2)
  have t3 := tl_iff l (i + 3)
  have c1 := cont_step l (i + 1)
  have c2 := cont_step l (i + 2)
  have c3 := cont_step l (i + 3)
  unfold badAt
  have u0 := utf_low l i h
  have u1 := fun n c0 => utf_lead l i n c0 h
  have u2 := utf_none l i h
  rw [← e0] at u0 u1 u2
  clear e0
  generalize (l.getD i 0).toNat = b0 at *
  generalize (l.getD (i + 1) 0).toNat = b1 at *
  generalize (l.getD (i + 2) 0).toNat = b2 at *
  generalize (l.getD (i + 3) 0).toNat = b3 at *
  have bad : ∀ m, (65533, 1) = (r, n) → utfB (l.drop i) = false → ¬ (3 ≤ l.length - i ∧ b0 = 239 ∧ b1 = 191 ∧ b2 = 189) → 1 ≤ n ∧ i + n ≤ l.length ∧ r ≤ 1114111 ∧ ((r = 65533 ∧ ¬ (3 ≤ l.length - i ∧ b0 = 239 ∧ b1 = 191 ∧ b2 = 189)) ∧ utfB (l.drop i) = false ∨ ¬ (r = 65533 ∧ ¬ (3 ≤ l.length - i ∧ b0 = 239 ∧ b1 = 191 ∧ b2 = 189)) ∧ utfB (l.drop i) = m) := by
    intro m e1 e2 e3
    obtain ⟨rfl, rfl⟩ := Prod.mk.inj e1
    exact ⟨Nat.le_refl _, by omega, by omega, Or.inl ⟨⟨rfl, e3⟩, e2⟩⟩
  by_cases g1 : b0 < 128
  · rw [Lib.decodeN, if_pos g1] at hd
    obtain ⟨rfl, rfl⟩ := Prod.mk.inj hd
    exact ⟨Nat.le_refl _, by omega, by omega, Or.inr ⟨by omega, u0 g1⟩⟩
  by_cases g2 : b0 < 192
  · rw [Lib.decodeN, if_neg g1, if_neg (by omega), if_neg (by omega), if_neg (by omega)] at hd
    refine bad _ hd (u2 g1 ?_) (by omega)
    unfold lead
    rw [if_neg (by omega), if_neg (by omega), if_neg (by omega)]
  by_cases g3 : b0 < 224
  · have u := u1 1 (b0 - 192) g1 (by unfold lead; rw [if_pos (by omega)])
    rw [c1 0, t1] at u
    by_cases k1 : i + 1 < l.length ∧ b1 / 64 = 2
    · rw [decide_eq_true k1, if_pos rfl] at u
      simp only [cont] at u
      rw [Lib.decodeN, if_neg g1, if_pos (by omega)] at hd
      by_cases k2 : b0 % 32 * 64 + b1 % 64 ≥ 128
      · rw [if_pos k2] at hd
        obtain ⟨rfl, rfl⟩ := Prod.mk.inj hd
        rw [fine_true (by omega), Bool.true_and] at u
        exact ⟨by omega, by omega, by omega, Or.inr ⟨by omega, u⟩⟩
      · rw [if_neg k2] at hd
        rw [fine_false (by omega), Bool.false_and] at u
        exact bad _ hd u (by omega)
    · rw [decide_eq_false k1, if_neg (by decide)] at u
      rw [Lib.decodeN, if_neg g1, if_neg (by omega), if_neg (by omega), if_neg (by omega)] at hd
      exact bad _ hd u (by omega)
  by_cases g4 : b0 < 240
  · have u := u1 2 (b0 - 224) g1 (by unfold lead; rw [if_neg (by omega), if_pos (by omega)])
    rw [c1 1, t1] at u
    by_cases k1 : i + 1 < l.length ∧ b1 / 64 = 2
    · rw [decide_eq_true k1, if_pos rfl, c2 0, t2] at u
      by_cases k2 : i + 2 < l.length ∧ b2 / 64 = 2
      · rw [decide_eq_true k2, if_pos rfl] at u
        simp only [cont] at u
        rw [Lib.decodeN, if_neg g1, if_neg (by omega), if_pos (by omega)] at hd
        by_cases k3 : b0 % 16 * 4096 + b1 % 64 * 64 + b2 % 64 ≥ 2048 ∧ (b0 % 16 * 4096 + b1 % 64 * 64 + b2 % 64 < 55296 ∨ (57344 ≤ b0 % 16 * 4096 + b1 % 64 * 64 + b2 % 64 ∧ b0 % 16 * 4096 + b1 % 64 * 64 + b2 % 64 ≤ 1114111))
        · rw [if_pos k3] at hd
          obtain ⟨rfl, rfl⟩ := Prod.mk.inj hd
          rw [fine_true (by omega), Bool.true_and] at u
          exact ⟨by omega, by omega, by omega, Or.inr ⟨by omega, u⟩⟩
        · rw [if_neg k3] at hd
          rw [fine_false (by omega), Bool.false_and] at u
          exact bad _ hd u (by omega)
      · rw [decide_eq_false k2, if_neg (by decide)] at u
        rw [Lib.decodeN, if_neg g1, if_neg (by omega), if_neg (by omega), if_neg (by omega)] at hd
        exact bad _ hd u (by omega)
    · rw [decide_eq_false k1, if_neg (by decide)] at u
      rw [Lib.decodeN, if_neg g1, if_neg (by omega), if_neg (by omega), if_neg (by omega)] at hd
      exact bad _ hd u (by omega)
  by_cases g5 : b0 < 248
  · have u := u1 3 (b0 - 240) g1 (by unfold lead; rw [if_neg (by omega), if_neg (by omega), if_pos (by omega)])
    rw [c1 2, t1] at u
    by_cases k1 : i + 1 < l.length ∧ b1 / 64 = 2
    · rw [decide_eq_true k1, if_pos rfl, c2 1, t2] at u
      by_cases k2 : i + 2 < l.length ∧ b2 / 64 = 2
      · rw [decide_eq_true k2, if_pos rfl, c3 0, t3] at u
        by_cases k3 : i + 3 < l.length ∧ b3 / 64 = 2
        · rw [decide_eq_true k3, if_pos rfl] at u
          simp only [cont] at u
          rw [Lib.decodeN, if_neg g1, if_neg (by omega), if_neg (by omega), if_pos (by omega)] at hd
          by_cases k4 : b0 % 8 * 262144 + b1 % 64 * 4096 + b2 % 64 * 64 + b3 % 64 ≥ 65536 ∧ (b0 % 8 * 262144 + b1 % 64 * 4096 + b2 % 64 * 64 + b3 % 64 < 55296 ∨ (57344 ≤ b0 % 8 * 262144 + b1 % 64 * 4096 + b2 % 64 * 64 + b3 % 64 ∧ b0 % 8 * 262144 + b1 % 64 * 4096 + b2 % 64 * 64 + b3 % 64 ≤ 1114111))
          · rw [if_pos k4] at hd
            obtain ⟨rfl, rfl⟩ := Prod.mk.inj hd
            rw [fine_true (by omega), Bool.true_and] at u
            exact ⟨by omega, by omega, by omega, Or.inr ⟨by omega, u⟩⟩
          · rw [if_neg k4] at hd
            rw [fine_false (by omega), Bool.false_and] at u
            exact bad _ hd u (by omega)
        · rw [decide_eq_false k3, if_neg (by decide)] at u
          rw [Lib.decodeN, if_neg g1, if_neg (by omega), if_neg (by omega), if_neg (by omega)] at hd
          exact bad _ hd u (by omega)
      · rw [decide_eq_false k2, if_neg (by decide)] at u
        rw [Lib.decodeN, if_neg g1, if_neg (by omega), if_neg (by omega), if_neg (by omega)] at hd
        exact bad _ hd u (by omega)
    · rw [decide_eq_false k1, if_neg (by decide)] at u
      rw [Lib.decodeN, if_neg g1, if_neg (by omega), if_neg (by omega), if_neg (by omega)] at hd
      exact bad _ hd u (by omega)
  · rw [Lib.decodeN, if_neg g1, if_neg (by omega), if_neg (by omega), if_neg (by omega)] at hd
    refine bad _ hd (u2 g1 ?_) (by omega)
    unfold lead
    rw [if_neg (by omega), if_neg (by omega), if_neg (by omega)]
theorem pre_three (l : List UInt8) (i : Nat) (_h : i < l.length) : preB (l.drop i) [239, 191, 189] = decide (3 ≤ l.length - i ∧ (l.getD i 0).toNat = 239 ∧ (l.getD (i + 1) 0).toNat = 191 ∧ (l.getD (i + 2) 0).toNat = 189) := by
  unfold preB
  rw [List.length_drop]
  show (decide (3 ≤ l.length - i) && ((l.drop i).take 3 == [239, 191, 189])) = _
  by_cases h3 : 3 ≤ l.length - i
  · have g0 : i < l.length := by omega
    have g1 : i + 1 < l.length := by omega
    have g2 : i + 1 + 1 < l.length := by omega
    rw [List.drop_eq_getElem_cons g0, List.drop_eq_getElem_cons g1, List.drop_eq_getElem_cons g2, get_at l i g0, get_at l (i + 1) g1, get_at l (i + 2) g2]
    simp only [List.take_succ_cons, List.take_zero]
    rw [Bool.eq_iff_iff]
    simp only [Bool.and_eq_true, decide_eq_true_eq, beq_iff_eq, List.cons.injEq, and_true]
    have n1 : ∀ (x y : UInt8), x = y ↔ x.toNat = y.toNat := fun x y => ⟨fun e => by rw [e], fun e => UInt8.toNat_inj.1 e⟩
    rw [n1 l[i] 239, n1 l[i + 1] 191, n1 l[i + 1 + 1] 189]
    exact Iff.rfl
  · rw [decide_eq_false h3, decide_eq_false (by omega)]
    rfl
end Go.Proofs.YtkakanejiakbkaaGreatDoor.La
/- TEXTS THAT GROW; Help and Unhelp, the document's. Own work of the verifier. -/
namespace Go.Proofs.YtkakanejiakbkaaGreatDoor.La
open Go.RowKit

theorem bel1 (w : World) (o1 : Obj) : Below w.heap.size w (w.alloc o1) := (Below.refl _ _).alloc (Nat.le_refl _) _
/-- A row of the call's own (at B or behind it) that grows. -/
structure GB (B : Nat) (e : TypeId) (f : Nat → Value) (W0 : World) (v : Value) (xs : List Nat) (w : World) : Prop where
  own : w.ownsRow B e 1 v xs.length (xs.map f)
  nz : v ≠ .slice none 0 0
  below : Below B W0 w
  size : B ≤ w.heap.size
theorem own_ofG {w : World} {B : Nat} {e : TypeId} {v : Value} {n : Nat} {xs : List Value} (h : w.ownsRow B e 1 v n xs) (hn : v ≠ .slice none 0 0) : ∃ g cap cur, v = .slice (some ⟨g, 0, none⟩) n cap ∧ B ≤ g ∧ w.heap[g]? = some (.cells cur e) ∧ n ≤ cap ∧ cap ≤ maxLen ∧ cur.size = cap ∧ cur.toList.take n = xs := by
  rcases h.2 with h2 | ⟨g, cap, cur, hv, hg, hh, h3, h4, h5, h6⟩
  · exact absurd h2.1 hn
  · exact ⟨g, cap, cur, hv, hg, hh, h3, h4, by simpa using h5, by simpa using h6⟩
theorem GB.push {B : Nat} {e : TypeId} {f : Nat → Value} {W0 w w' : World} {v v' : Value} {xs : List Nat} {x : Nat} {y : Value} (h : GB B e f W0 v xs w) (ob : Obj) (hy : y = f x)
    (hown : w'.ownsRow B e 1 v' (xs.length + 1) (xs.map f ++ [y])) (hg : (w.alloc ob).grownBy w' v.ownBlock) (hnil : v' = .slice none 0 0 ↔ v = .slice none 0 0 ∧ 1 = 0) : GB B e f W0 v' (xs ++ [x]) w' := by
  obtain ⟨gv, cap, cur, rfl, hB, hcur, _⟩ := own_ofG h.own h.nz
  have hw := World.grownBy_alloc w ob none
  have hg' : (w.alloc ob).grownBy w' (some gv) := hg
  have s1 := hw.size
  have s2 := hg'.size
  refine ⟨?_, fun e => h.nz (hnil.1 e).1, ?_, by have := h.size; omega⟩
  · rw [List.length_append, List.map_append]; subst hy; exact hown
  · exact (h.below.grown hw h.size (fun k e => by cases e)).grown hg' (by have := h.size; omega) (fun k e => by cases e; exact hB)
theorem GB.push2 {B : Nat} {e : TypeId} {f : Nat → Value} {W0 w w' : World} {v v' : Value} {xs : List Nat} {x y : Nat} {p q : Value} (h : GB B e f W0 v xs w) (ob : Obj) (hp : p = f x) (hq : q = f y)
    (hown : w'.ownsRow B e 1 v' (xs.length + 2) (xs.map f ++ [p, q])) (hg : (w.alloc ob).grownBy w' v.ownBlock) (hnil : v' = .slice none 0 0 ↔ v = .slice none 0 0 ∧ 2 = 0) : GB B e f W0 v' (xs ++ [x, y]) w' := by
  obtain ⟨gv, cap, cur, rfl, hB, hcur, _⟩ := own_ofG h.own h.nz
  have hw := World.grownBy_alloc w ob none
  have hg' : (w.alloc ob).grownBy w' (some gv) := hg
  have s1 := hw.size
  have s2 := hg'.size
  refine ⟨?_, fun e => h.nz (hnil.1 e).1, ?_, by have := h.size; omega⟩
  · rw [List.length_append, List.map_append]; subst hp hq; exact hown
  · exact (h.below.grown hw h.size (fun k e => by cases e)).grown hg' (by have := h.size; omega) (fun k e => by cases e; exact hB)
theorem GB.new {e : TypeId} {f : Nat → Value} (w : World) : GB w.heap.size e f w (.slice (some ⟨w.heap.size, 0, none⟩) 0 0) [] (w.alloc (.cells #[] e)) := by
  refine ⟨⟨rfl, .inr ⟨w.heap.size, 0, #[], rfl, Nat.le_refl _, ?_, Nat.le_refl _, by unfold maxLen; omega, rfl, rfl⟩⟩, (fun h => by cases h), bel1 w _, by simp⟩
  show (w.heap.push _)[w.heap.size]? = _
  simp
def bV (n : Nat) : Value := .int .u8 (n : Int)
/-- The text in a row of bytes. -/
def txs (xs : List Nat) : List UInt8 := xs.map UInt8.ofNat
end Go.Proofs.YtkakanejiakbkaaGreatDoor.La
/- escaped, Help, Unhelp, the document's. Own work of the verifier. -/
namespace Go.Proofs.YtkakanejiakbkaaGreatDoor.La
open Go.RowKit

theorem infoByte : (Tryz.prog.info? 5).map (fun i => (i.zero, i.size, i.bytes)) = some (some (.int .u8 0), 1, 1) := by kernel_rfl
theorem cell_two_new (w : World) (x y : Value) (t : TypeId) : ∀ j u, [x, y][j]? = some u → (w.alloc (.cells #[x, y] t)).cell? ((⟨w.heap.size, 0, none⟩ : Addr).add j) = some u := by
  intro j u hj
  match j, hj with
  | 0, hj => simp at hj; subst hj; simp [go_sem]
  | 1, hj => simp at hj; subst hj; simp [go_sem]
  | k + 2, hj => simp at hj
/-- A row of bytes as a text. -/
theorem GB.text {B : Nat} {W0 w : World} {v : Value} {xs : List Nat} (h : GB B 5 bV W0 v xs w) (hx : ∀ x ∈ xs, x < 256) : (convert 27 9 v).run Tryz.prog w = .ok (.string ⟨(txs xs).toArray⟩) w := by
  obtain ⟨g, cap, cur, rfl, hB, hcur, _, _, h5, h6⟩ := own_ofG h.own h.nz
  have hl : (txs xs).length = xs.length := by unfold txs; rw [List.length_map]
  have hc := run_convert_bytes_back (P := Tryz.prog) w 27 9 5 ⟨g, 0, none⟩ cap (txs xs) Tryz.underlying27 Tryz.underlying5 Tryz.underlying9 (fun k hk => by
    have hk' : k < xs.length := by omega
    have e1 : cur[k]? = some (bV xs[k]) := by
      have : (cur.toList.take xs.length)[k]? = some (bV xs[k]) := by
        rw [h6, List.getElem?_map, List.getElem?_eq_getElem hk']
        rfl
      rw [List.getElem?_take, if_pos hk'] at this
      rw [← Array.getElem?_toList]
      exact this
    have a2 : (⟨g, 0, none⟩ : Addr).add k = ⟨g, k, none⟩ := by
      unfold Addr.add
      by_cases h0 : k = 0
      · subst h0; rfl
      · rw [if_neg h0]; simp
    have a3 : (txs xs)[k] = UInt8.ofNat xs[k] := by simp only [txs, List.getElem_map]
    have a4 : xs[k] < 256 := hx _ (List.getElem_mem hk')
    rw [a2, a3, UInt8.toNat_ofNat', Nat.mod_eq_of_lt a4]
    simp [World.cell?, hcur, e1]
    rfl)
  rw [hl] at hc
  exact hc
/-- A text in which some bytes are written by two. -/
def esc1 (q : Bool) (b : UInt8) : List UInt8 := if b.toNat = 92 ∨ q = true ∧ b.toNat = 34 then [92, b] else if b.toNat = 10 then [92, 110] else [b]
def escL (q : Bool) : List UInt8 → List UInt8
  | [] => []
  | b :: r => esc1 q b ++ escL q r
theorem escL_drop (q : Bool) (l : List UInt8) (i : Nat) (h : i < l.length) : escL q (l.drop i) = esc1 q l[i] ++ escL q (l.drop (i + 1)) := by
  rw [List.drop_eq_getElem_cons h, escL]
theorem txs_app (a b : List Nat) : txs (a ++ b) = txs a ++ txs b := by unfold txs; rw [List.map_append]
/-- How far the loop has come: xs stands for what is written already. -/
def EscI (q : Bool) (l : List UInt8) (i : Nat) (xs : List Nat) : Prop := escL q l = txs xs ++ escL q (l.drop i) ∧ (∀ x ∈ xs, x < 256)
theorem EscI.step {q : Bool} {l : List UInt8} {i : Nat} {xs ys : List Nat} (h : EscI q l i xs) (hi : i < l.length) (hy : txs ys = esc1 q l[i]) (hb : ∀ y ∈ ys, y < 256) : EscI q l (i + 1) (xs ++ ys) := by
  obtain ⟨h1, h2⟩ := h
  refine ⟨?_, fun x hx => ?_⟩
  · rw [h1, escL_drop q l i hi, txs_app, hy, List.append_assoc]
  · rcases List.mem_append.1 hx with g | g
    · exact h2 x g
    · exact hb x g
/-- And back. -/
def unL : List UInt8 → Option (List UInt8)
  | [] => some []
  | b :: r => if b.toNat = 10 then none else if b.toNat = 92 then
      match r with
      | [] => none
      | c :: r' => if c.toNat = 92 then (unL r').map (92 :: ·) else if c.toNat = 110 then (unL r').map (10 :: ·) else none
    else (unL r).map (b :: ·)
end Go.Proofs.YtkakanejiakbkaaGreatDoor.La
/- Unhelp, the document's. Own work of the verifier. -/
namespace Go.Proofs.YtkakanejiakbkaaGreatDoor.La
open Go.RowKit

/-- How far the loop has come. -/
def UnI (l : List UInt8) (i : Nat) (xs : List Nat) : Prop := unL l = (unL (l.drop i)).map (txs xs ++ ·) ∧ (∀ x ∈ xs, x < 256)
theorem UnI.step {l : List UInt8} {i j : Nat} {xs : List Nat} {x : Nat} {b : UInt8} (h : UnI l i xs) (hx : x < 256) (hb : UInt8.ofNat x = b) (hd : unL (l.drop i) = (unL (l.drop j)).map (b :: ·)) : UnI l j (xs ++ [x]) := by
  obtain ⟨h1, h2⟩ := h
  refine ⟨?_, fun y hy => ?_⟩
  · rw [h1, hd, Option.map_map]
    congr 1
    funext z
    show txs xs ++ b :: z = txs (xs ++ [x]) ++ z
    rw [txs_app, ← hb, List.append_assoc]
    rfl
  · rcases List.mem_append.1 hy with g | g
    · exact h2 y g
    · rw [List.mem_singleton.1 g]; exact hx
theorem UnI.none {l : List UInt8} {i : Nat} {xs : List Nat} (h : UnI l i xs) (hd : unL (l.drop i) = none) : unL l = none := by
  rw [h.1, hd]; rfl
end Go.Proofs.YtkakanejiakbkaaGreatDoor.La
