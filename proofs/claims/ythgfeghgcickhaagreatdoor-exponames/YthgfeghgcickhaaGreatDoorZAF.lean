/- escaped, Help, Unhelp, the document's. Own work of the verifier. -/
import Derived.Test.YthgfeghgcickhaaGreatDoorZAE
import Derived.OwnWalk
namespace Go.Proofs.YthgfeghgcickhaaGreatDoor.La
open Go.RowKit

theorem infoByte : (Tryz.prog.info? 5).map (fun i => (i.zero, i.size, i.bytes)) = some (some (.int .u8 0), 1, 1) := by kernel_rfl
/-- A row of bytes as a text. -/
theorem GB.text {B : Nat} {W0 w : World} {v : Value} {xs : List Nat} (h : GB B 5 bV W0 v xs w) (hx : ∀ x ∈ xs, x < 256) : (convert 27 9 v).run Tryz.prog w = .ok (.string ⟨(txs xs).toArray⟩) w := by
  obtain ⟨g, cap, cur, rfl, hB, hcur, _, _, h5, h6⟩ := own_ofG h.own h.nz
  have hl : (txs xs).length = xs.length := by unfold txs; rw [List.length_map]
  have hc := run_convert_bytes_back (P := Tryz.prog) w 27 9 5 ⟨g, 0, none⟩ cap (txs xs) Tryz.underlying27 Tryz.underlying5 Tryz.underlying9 (fun k hk => by
    have hk' : k < xs.length := by omega
    have e1 : cur[k]? = some (bV xs[k]) := by
      have : (cur.toList.take xs.length)[k]? = some (bV xs[k]) := by
        rw [h6, List.getElem?_map, List.getElem?_eq_getElem hk']
        rfl
      rw [List.getElem?_take, if_pos hk'] at this
      rw [← Array.getElem?_toList]
      exact this
    have a2 : (⟨g, 0, none⟩ : Addr).add k = ⟨g, k, none⟩ := by
      unfold Addr.add
      by_cases h0 : k = 0
      · subst h0; rfl
      · rw [if_neg h0]; simp
    have a3 : (txs xs)[k] = UInt8.ofNat xs[k] := by simp only [txs, List.getElem_map]
    have a4 : xs[k] < 256 := hx _ (List.getElem_mem hk')
    rw [a2, a3, UInt8.toNat_ofNat', Nat.mod_eq_of_lt a4]
    simp [World.cell?, hcur, e1]
    rfl)
  rw [hl] at hc
  exact hc
/-- A text in which some bytes are written by two. -/
def esc1 (q : Bool) (b : UInt8) : List UInt8 := if b.toNat = 92 ∨ q = true ∧ b.toNat = 34 then [92, b] else if b.toNat = 10 then [92, 110] else [b]
def escL (q : Bool) : List UInt8 → List UInt8
  | [] => []
  | b :: r => esc1 q b ++ escL q r
theorem escL_drop (q : Bool) (l : List UInt8) (i : Nat) (h : i < l.length) : escL q (l.drop i) = esc1 q l[i] ++ escL q (l.drop (i + 1)) := by
  rw [List.drop_eq_getElem_cons h, escL]
theorem txs_app (a b : List Nat) : txs (a ++ b) = txs a ++ txs b := by unfold txs; rw [List.map_append]
/-- How far the loop has come: xs stands for what is written already. -/
def EscI (q : Bool) (l : List UInt8) (i : Nat) (xs : List Nat) : Prop := escL q l = txs xs ++ escL q (l.drop i) ∧ (∀ x ∈ xs, x < 256)
theorem EscI.step {q : Bool} {l : List UInt8} {i : Nat} {xs ys : List Nat} (h : EscI q l i xs) (hi : i < l.length) (hy : txs ys = esc1 q l[i]) (hb : ∀ y ∈ ys, y < 256) : EscI q l (i + 1) (xs ++ ys) := by
  obtain ⟨h1, h2⟩ := h
  refine ⟨?_, fun x hx => ?_⟩
  · rw [h1, escL_drop q l i hi, txs_app, hy, List.append_assoc]
  · rcases List.mem_append.1 hx with g | g
    · exact h2 x g
    · exact hb x g
/-- And back. -/
def unL : List UInt8 → Option (List UInt8)
  | [] => some []
  | b :: r => if b.toNat = 10 then none else if b.toNat = 92 then
      match r with
      | [] => none
      | c :: r' => if c.toNat = 92 then (unL r').map (92 :: ·) else if c.toNat = 110 then (unL r').map (10 :: ·) else none
    else (unL r).map (b :: ·)
end Go.Proofs.YthgfeghgcickhaaGreatDoor.La
/- Unhelp, the document's. Own work of the verifier. -/
namespace Go.Proofs.YthgfeghgcickhaaGreatDoor.La
open Go.RowKit

/-- How far the loop has come. -/
def UnI (l : List UInt8) (i : Nat) (xs : List Nat) : Prop := unL l = (unL (l.drop i)).map (txs xs ++ ·) ∧ (∀ x ∈ xs, x < 256)
theorem UnI.step {l : List UInt8} {i j : Nat} {xs : List Nat} {x : Nat} {b : UInt8} (h : UnI l i xs) (hx : x < 256) (hb : UInt8.ofNat x = b) (hd : unL (l.drop i) = (unL (l.drop j)).map (b :: ·)) : UnI l j (xs ++ [x]) := by
  obtain ⟨h1, h2⟩ := h
  refine ⟨?_, fun y hy => ?_⟩
  · rw [h1, hd, Option.map_map]
    congr 1
    funext z
    show txs xs ++ b :: z = txs (xs ++ [x]) ++ z
    rw [txs_app, ← hb, List.append_assoc]
    rfl
  · rcases List.mem_append.1 hy with g | g
    · exact h2 y g
    · rw [List.mem_singleton.1 g]; exact hx
theorem UnI.none {l : List UInt8} {i : Nat} {xs : List Nat} (h : UnI l i xs) (hd : unL (l.drop i) = none) : unL l = none := by
  rw [h.1, hd]; rfl
end Go.Proofs.YthgfeghgcickhaaGreatDoor.La
