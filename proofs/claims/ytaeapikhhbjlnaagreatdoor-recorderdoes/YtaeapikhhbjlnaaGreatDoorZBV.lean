/- THE LAW's STATE, behind Drain, Close and a recorder more. Own work of the verifier. -/
import Derived.Test.YtaeapikhhbjlnaaGreatDoorZBU
import Derived.Deep.RegionHeld3
namespace Go.Proofs.YtaeapikhhbjlnaaGreatDoor
open Go.RowKit

/-- An instrument whose buffer has new rows. -/
def Ins.upg (I : Ins) (b : Nat) (G : List Nat) : Ins := ⟨I.kd, I.h, I.cap, fun b' => if b' = b then G else I.g b'⟩
theorem InsW.fresh {I : Ins} {n p : Nat} {C : Nat → Nat → List Int} {W w' : World} {b : Nat} {N : List Nat} (H : InsW I n (wdF I.kd p) C W) (hb : b < 2) (hc : Chg (fun x => x = I.h b) W w') (hl : N.length = n) (hh : HdD w' (I.h b) (wdF I.kd p) N) (hnd : N.Nodup) (hr : ∀ g ∈ N, W.heap.size ≤ g ∧ RowD w' g (frst I.kd (p : Int))) : InsW (I.upg b N) n (wdF I.kd p) (upB C b (fun _ => frst I.kd (p : Int))) w' := by
  have hgb : ∀ b', b' < 2 → b' ≠ b → ∀ g ∈ I.g b', g < W.heap.size := fun b' hb' _ g hg => H.lt (I.blk_g hb' hg)
  have oth : ∀ b', b' < 2 → b' ≠ b → I.h b' ≠ I.h b := fun b' hb' hne e => by
    have := H.hne
    rcases (show b = 0 ∨ b = 1 by omega) with rfl | rfl
    · rcases (show b' = 0 ∨ b' = 1 by omega) with rfl | rfl
      · exact hne rfl
      · exact this e.symm
    · rcases (show b' = 0 ∨ b' = 1 by omega) with rfl | rfl
      · exact this e
      · exact hne rfl
  refine ⟨fun b' hb' => ?_, fun b' hb' => ?_, fun b' hb' i hi => ?_, ?_, H.hne⟩
  · by_cases h : b' = b
    · subst h
      show HdD w' (I.h b') _ (if b' = b' then N else _)
      rw [if_pos rfl]
      exact hh
    · show HdD w' (I.h b') _ (if b' = b then N else _)
      rw [if_neg h]
      exact (H.hb b' hb').heap (hc.block _ (H.hb b' hb').lt (oth b' hb' h))
  · show (if b' = b then N else I.g b').length = n
    split
    · exact hl
    · exact H.len b' hb'
  · by_cases h : b' = b
    · subst h
      rw [upB_at]
      have e : (I.upg b' N).g b' = N := if_pos rfl
      have hi2 : i < N.length := by rw [← e]; exact hi
      have e2 : ((I.upg b' N).g b')[i] = N[i] := by simp only [e]
      rw [e2]
      exact (hr _ (List.getElem_mem hi2)).2
    · rw [upB_ne _ _ _ _ _ h]
      have e : (I.upg b N).g b' = I.g b' := if_neg h
      have hi2 : i < (I.g b').length := by rw [← e]; exact hi
      have e2 : ((I.upg b N).g b')[i] = (I.g b')[i] := by simp only [e]
      rw [e2]
      have hrow := H.row b' hb' i hi2
      exact hrow.heap (hc.block _ hrow.lt ((H.hb b hb).ne_row hrow))
  · have hold := List.nodup_append.1 H.nd
    rcases (show b = 0 ∨ b = 1 by omega) with rfl | rfl
    · show ((if 0 = 0 then N else I.g 0) ++ (if 1 = 0 then N else I.g 1)).Nodup
      rw [if_pos rfl, if_neg (by decide), List.nodup_append]
      refine ⟨hnd, hold.2.1, fun x hx y hy e => ?_⟩
      have h1 := (hr x hx).1
      have h2 := hgb 1 (by decide) (by decide) y hy
      omega
    · show ((if 0 = 1 then N else I.g 0) ++ (if 1 = 1 then N else I.g 1)).Nodup
      rw [if_pos rfl, if_neg (by decide), List.nodup_append]
      refine ⟨hold.1, hnd, fun x hx y hy e => ?_⟩
      have h1 := (hr y hy).1
      have h2 := hgb 0 (by decide) (by decide) x hx
      omega
theorem Ins.upg_blk {I : Ins} {b : Nat} {N : List Nat} {x : Nat} (h : (I.upg b N).Blk x) : I.Blk x ∨ x ∈ N := by
  rcases h with h | h | h
  · exact Or.inl (Or.inl h)
  · exact Or.inl (Or.inr (Or.inl h))
  · have aux : ∀ b', b' < 2 → x ∈ (if b' = b then N else I.g b') → I.Blk x ∨ x ∈ N := fun b' hb' hx => by
      split at hx
      · exact Or.inr hx
      · exact Or.inl (I.blk_g hb' hx)
    rcases List.mem_append.1 h with q | q
    · exact aux 0 (by decide) q
    · exact aux 1 (by decide) q
section
variable {K : Kx} {t ac ad : Nat} {r0 r1 s0 s1 : Int} {lv rv : Value} {Lp Rp : List Value} {Rs : List RcD} {Is : List Ins} {C D : Nat → Nat → Nat → List Int} {W W' : World}
/-- Drain, the document's. -/
theorem LS.d_drain (hK : K.Ok) (H : LS K t ac ad r0 r1 s0 s1 lv rv Lp Rp Rs Is C D W) (ht : t < 70368744177664) {id b : Nat} (hid : id < K.SL.length) (hb : b < 2) :
    Calls Tryz.prog 45 #[.pointer (some ⟨K.ib, id * 14, none⟩), .int .i64 (b : Int), .int .i64 K.pi] W fun e w' => ∃ (P : Pt) (ao : Option Addr) (k c : Nat), e = .returned (rpart P.hi P.lo (.slice ao k c) P.n P.s P.c P.mn P.mx) ∧ Hid (FoldD (fun i => ptF K.SL[id].kd (D id b i)) K.n P ∧ P.Ok 1048576 ∧ w'.ownsRow W.heap.size 222 2 (.slice ao k c) P.L.length (fl P.L) ∧ (∃ Is', LS K t ac ad r0 r1 s0 s1 lv rv Lp Rp Rs Is' C (upJ D id (upB (D id) b (fun _ => frst K.SL[id].kd (K.p : Int)))) w') ∧ Kept W w' ∧ Chg (fun x => Ty W x 161) W w') := by
  obtain ⟨d1, d2, d3, d4, d5⟩ := hK.dim (by omega)
  have hlen := H.doc.len
  have hid2 : id < Is.length := by omega
  have hkd := H.doc.kd id hid2 hid
  obtain ⟨m, hD, ma, m0, m1, mst⟩ := H.doc.doc
  have hI := hD.ins id hid2
  obtain ⟨cur, hib, hcur⟩ := hD.arr (by omega)
  have hE : DrE K.ib (id * 14) (Is[id].h b) (Is[id].cap b) K.n b Is[id].kd W := by
    refine ⟨hD.cell hid2 (o := 0) (by decide) rfl, ?_⟩
    rcases (show b = 0 ∨ b = 1 by omega) with rfl | rfl
    · exact hD.cell hid2 (o := 4) (by decide) rfl
    · exact hD.cell hid2 (o := 5) (by decide) rfl
  have hne : K.ib ≠ Is[id].h b := fun e => by
    rcases hI.ty (Is[id].blk_h hb) (by rw [← e]; exact hib) with q | q <;> exact absurd q (by decide)
  have hk3 : Is[id].kd = 1 ∨ Is[id].kd = 2 ∨ Is[id].kd = 3 := by rw [hkd]; exact (H.code.sl id hid).kd
  rw [d5]
  refine Calls.mono (drain15_any K.ib (id * 14) (Is[id].h b) (Is[id].cap b) K.n b K.p t Is[id].kd hk3 (Is[id].g b) (D id b) W hE hne hb (hI.hb b hb) (hI.len b hb) (fun i hi => ⟨hI.row b hb i hi, by rw [hkd]; exact H.doc.rows id hid b hb i (by rw [hI.len b hb] at hi; exact hi)⟩) d2 d3 d4 ht) ?_
  rintro e w' ⟨P, ao, k, c, rfl, q1, q2, q3, ⟨Nw, n1, n2, n3, n4⟩, q5⟩
  rw [← hkd]
  obtain ⟨rest, hhd⟩ := hI.hb b hb
  have hT : Tys W (fun x => x = Is[id].h b) [124, 2, 161] := fun y k => ⟨161, by simp, by rw [show y = Is[id].h b from k]; exact ty_of hhd⟩
  have hBd : K.Bd ≤ W.heap.size := Nat.le_trans (H.doc.ge K.mb (Or.inr (Or.inl rfl))) (Nat.le_of_lt (Array.getElem?_eq_some_iff.1 hD.mach).1)
  have hnb : ∀ x, x ∈ Nw → W.heap.size ≤ x := fun x hx => (n4 x hx).1
  have hins : ∀ j (hj : j < (Is.set id (Is[id].upg b Nw)).length), InsW (Is.set id (Is[id].upg b Nw))[j] K.n (wdF (Is.set id (Is[id].upg b Nw))[j].kd K.p) (upJ D id (upB (D id) b (fun _ => frst Is[id].kd (K.p : Int))) j) w' := fun j hj => by
    have hj2 : j < Is.length := by simpa using hj
    by_cases h : j = id
    · subst h
      rw [List.getElem_set_self, upJ_at]
      exact hI.fresh hb q5 n1 n2 n3 n4
    · rw [List.getElem_set_ne (fun e => h e.symm), upJ_ne _ _ h]
      exact (hD.ins j hj2).chg q5 (fun y hy k => hD.dj j id hj2 hid2 h y hy (by rw [show y = Is[id].h b from k]; exact Is[id].blk_h hb))
  have hblk : ∀ j (hj : j < (Is.set id (Is[id].upg b Nw)).length) x, (Is.set id (Is[id].upg b Nw))[j].Blk x → (∃ hj2 : j < Is.length, Is[j].Blk x) ∨ (j = id ∧ x ∈ Nw) := fun j hj x hx => by
    have hj2 : j < Is.length := by simpa using hj
    by_cases h : j = id
    · subst h
      rw [List.getElem_set_self] at hx
      rcases Ins.upg_blk hx with q | q
      · exact Or.inl ⟨hj2, q⟩
      · exact Or.inr ⟨rfl, q⟩
    · rw [List.getElem_set_ne (fun e => h e.symm)] at hx
      exact Or.inl ⟨hj2, hx⟩
  have hDn : DocW K.sb K.mb K.ib K.capI m (Is.set id (Is[id].upg b Nw)) K.n K.p (upJ D id (upB (D id) b (fun _ => frst Is[id].kd (K.p : Int)))) w' := by
    have nsh := hT.no (ty_of hD.sh) (by decide)
    refine ⟨q5.at_ hD.sh nsh, q5.at_ hD.mach (fun e => by
      rcases hI.ty (Is[id].blk_h hb) (by rw [← (show K.mb = Is[id].h b from e)]; exact hD.mach) with q | q <;> exact absurd q (by decide)), fun h => by rw [List.length_set]; exact hD.l (by simpa using h), fun _ => ⟨cur, q5.at_ hib hne, fun j hj o ho => ?_⟩, hins, fun i j hi hj hij x hx hx2 => ?_⟩
    · have hj2 : j < Is.length := by simpa using hj
      rw [hcur j hj2 o ho]
      by_cases h : j = id
      · subst h
        rw [List.getElem_set_self]
        rfl
      · rw [List.getElem_set_ne (fun e => h e.symm)]
    · rcases hblk i hi x hx with ⟨hi2, q⟩ | ⟨rfl, q⟩
      · rcases hblk j hj x hx2 with ⟨hj2, q'⟩ | ⟨rfl, q'⟩
        · exact hD.dj i j hi2 hj2 hij x q q'
        · have := hnb x q'
          have := (hD.ins i hi2).lt q
          omega
      · rcases hblk j hj x hx2 with ⟨hj2, q'⟩ | ⟨rfl, q'⟩
        · have := hnb x q
          have := (hD.ins j hj2).lt q'
          omega
        · exact hij rfl
  refine ⟨P, ao, k, c, rfl, q1, q2, q3, ⟨Is.set id (Is[id].upg b Nw), H.d_step hK (Nat.le_refl _) ⟨⟨m, hDn, ma, m0, m1, mst⟩, by rw [List.length_set]; exact hlen, fun j hj hj' => ?_, fun x hx => ?_, fun j hj => ?_⟩ q5 hT (fun x k => by rw [show x = Is[id].h b from k]; exact H.doc.ge _ (Or.inr (Or.inr (Or.inr ⟨id, hid2, Is[id].blk_h hb⟩))))⟩, kept_of q5 hT (by decide) (by decide), q5.mono (fun x k => by rw [show x = Is[id].h b from k]; exact ty_of hhd)⟩
  · have hj2 : j < Is.length := by simpa using hj
    by_cases h : j = id
    · subst h
      rw [List.getElem_set_self]
      exact hkd
    · rw [List.getElem_set_ne (fun e => h e.symm)]
      exact H.doc.kd j hj2 hj'
  · rcases hx with q | q | ⟨q, q'⟩ | ⟨j, hj, q⟩
    · exact H.doc.ge x (Or.inl q)
    · exact H.doc.ge x (Or.inr (Or.inl q))
    · exact H.doc.ge x (Or.inr (Or.inr (Or.inl ⟨by simpa using q, q'⟩)))
    · rcases hblk j hj x q with ⟨hj2, r⟩ | ⟨_, r⟩
      · exact H.doc.ge x (Or.inr (Or.inr (Or.inr ⟨j, hj2, r⟩)))
      · exact Nat.le_trans hBd (hnb x r)
  · by_cases h : j = id
    · subst h
      rw [upJ_at]
      intro b' hb' i hi
      by_cases hbb : b' = b
      · subst hbb
        rw [upB_at, hkd]
        exact RowOk.first (H.code.sl j hj).kd t
      · rw [upB_ne _ _ _ _ _ hbb]
        exact H.doc.rows j hj b' hb' i hi
    · rw [upJ_ne _ _ h]
      exact H.doc.rows j hj
/-- A recorder's block has changed. -/
theorem LS.recs_step (hK : K.Ok) (H : LS K t ac ad r0 r1 s0 s1 lv rv Lp Rp Rs Is C D W) {Rs' : List RcD} {x : Nat} {T : TypeId} (hT0 : T = 189 ∨ T = 138) (hx : Ty W x T) (hge : K.Bd ≤ x) (hc : Chg (fun y => y = x) W W') (hR : RecS K Rs' W') : LS K t ac ad r0 r1 s0 s1 lv rv Lp Rp Rs' Is C D W' ∧ Kept W W' := by
  have hT : Tys W (fun y => y = x) [189, 138] := fun y k => ⟨T, by rcases hT0 with rfl | rfl <;> simp, by rw [show y = x from k]; exact hx⟩
  exact ⟨⟨bel_chg H.bel (Nat.le_refl _) hc (fun y k => by rw [show y = x from k]; exact Nat.le_trans hK.kge.2.2.2 hge), H.code.keep hc hT (by decide) (by decide) (fun j hj y hy k => by
    have := (hK.ap j hj y hy).2.2.2
    rw [show y = x from k] at this
    omega), H.doc.keep hc hT (by decide) (by decide) (by decide) (by decide) (by decide), hR, H.law.keep hc hT (by decide) (by decide) (by decide) (by decide)⟩, kept_of hc hT (by decide) (by decide)⟩
theorem LS.c_close (hK : K.Ok) (H : LS K t ac ad r0 r1 s0 s1 lv rv Lp Rp Rs Is C D W) {i : Nat} (hi : i < Rs.length) :
    Calls Tryz.prog 83 #[ptr Rs[i].rc] W fun e w' => e = .returned (.int .i64 (if Rs[i].cc then 8 else 0)) ∧ Hid (LS K t ac ad r0 r1 s0 s1 lv rv Lp Rp (Rs.set i ⟨Rs[i].rc, Rs[i].d, Rs[i].st, true, Rs[i].cd⟩) Is C D w') := by
  refine Calls.mono (close_any Rs[i].rc K.k Rs[i].st Rs[i].cc W (H.recs.rc i hi)) ?_
  rintro e w' ⟨rfl, q1, q2⟩
  have hc : Chg (fun y => y = Rs[i].rc) W w' := Chg.of_mid (S := fun y => y = Rs[i].rc) q2.out rfl
  refine ⟨rfl, (H.recs_step hK (Or.inl rfl) (ty_of (H.recs.rc i hi)) (H.recs.ge i hi).1 hc ⟨fun j hj => ?_, fun j hj => ?_, fun j hj => ?_, fun a b ha hb hab => ?_⟩).1⟩
  · have hj2 : j < Rs.length := by simpa using hj
    by_cases h : i = j
    · subst h; rw [List.getElem_set_self]; exact q1.out
    · rw [List.getElem_set_ne h]; exact hc.Rc (H.recs.rc j hj2) (H.recs.inj j i hj2 hi (fun e => h e.symm)).1
  · have hj2 : j < Rs.length := by simpa using hj
    have hd : w'.heap[Rs[j].d]? = _ := hc.at_ (H.recs.d j hj2) (ty_ne (H.recs.d j hj2) (H.recs.rc i hi) (by decide))
    by_cases h : i = j
    · subst h; rw [List.getElem_set_self]; exact hd
    · rw [List.getElem_set_ne h]; exact hd
  · have hj2 : j < Rs.length := by simpa using hj
    by_cases h : i = j
    · subst h; rw [List.getElem_set_self]; exact H.recs.ge i hi
    · rw [List.getElem_set_ne h]; exact H.recs.ge j hj2
  · have ha2 : a < Rs.length := by simpa using ha
    have hb2 : b < Rs.length := by simpa using hb
    have hh := H.recs.inj a b ha2 hb2 hab
    by_cases h : i = a
    · subst h
      rw [List.getElem_set_self, List.getElem_set_ne hab]; exact hh
    · rw [List.getElem_set_ne h]
      by_cases h2 : i = b
      · subst h2; rw [List.getElem_set_self]; exact hh
      · rw [List.getElem_set_ne h2]; exact hh
theorem LS.d_close (hK : K.Ok) (H : LS K t ac ad r0 r1 s0 s1 lv rv Lp Rp Rs Is C D W) {i : Nat} (hi : i < Rs.length) : LS K t ac ad r0 r1 s0 s1 lv rv Lp Rp (Rs.set i ⟨Rs[i].rc, Rs[i].d, Rs[i].st, Rs[i].cc, true⟩) Is C D (W.setCell ⟨Rs[i].d, 1, none⟩ (.bool true)) := by
  have hc : Chg (fun y => y = Rs[i].d) W (W.setCell ⟨Rs[i].d, 1, none⟩ (.bool true)) := Chg.set W ⟨Rs[i].d, 1, none⟩ (.bool true)
  refine (H.recs_step hK (Or.inr rfl) (ty_of (H.recs.d i hi)) (H.recs.ge i hi).2 hc ⟨fun j hj => ?_, fun j hj => ?_, fun j hj => ?_, fun a b ha hb hab => ?_⟩).1
  · have hj2 : j < Rs.length := by simpa using hj
    have hr := hc.Rc (H.recs.rc j hj2) (ty_ne (H.recs.rc j hj2) (H.recs.d i hi) (by decide))
    by_cases h : i = j
    · subst h; rw [List.getElem_set_self]; exact hr
    · rw [List.getElem_set_ne h]; exact hr
  · have hj2 : j < Rs.length := by simpa using hj
    by_cases h : i = j
    · subst h
      rw [List.getElem_set_self, heap_setCell_same W _ 1 _ _ _ (H.recs.d i hi)]
      rfl
    · rw [List.getElem_set_ne h]; exact hc.at_ (H.recs.d j hj2) (H.recs.inj j i hj2 hi (fun e => h e.symm)).2
  · have hj2 : j < Rs.length := by simpa using hj
    by_cases h : i = j
    · subst h; rw [List.getElem_set_self]; exact H.recs.ge i hi
    · rw [List.getElem_set_ne h]; exact H.recs.ge j hj2
  · have ha2 : a < Rs.length := by simpa using ha
    have hb2 : b < Rs.length := by simpa using hb
    have hh := H.recs.inj a b ha2 hb2 hab
    by_cases h : i = a
    · subst h
      rw [List.getElem_set_self, List.getElem_set_ne hab]; exact hh
    · rw [List.getElem_set_ne h]
      by_cases h2 : i = b
      · subst h2; rw [List.getElem_set_self]; exact hh
      · rw [List.getElem_set_ne h2]; exact hh
end
end Go.Proofs.YtaeapikhhbjlnaaGreatDoor
/- THE LAW's OWN LISTS: what is read, what is appended. Own work of the verifier. -/
namespace Go.Proofs.YtaeapikhhbjlnaaGreatDoor
open Go.RowKit

section
variable {K : Kx} {t ac ad : Nat} {r0 r1 s0 s1 : Int} {lv rv : Value} {Lp Rp : List Value} {Rs : List RcD} {Is : List Ins} {C D : Nat → Nat → Nat → List Int} {W W' : World}
/-- What the law reads of its own. -/
abbrev LwF (K : Kx) (lv rv : Value) (W : World) : Prop := W.cell? ⟨K.wb, 0, none⟩ = some (ptr K.k) ∧ W.cell? ⟨K.wb, 1, none⟩ = some lv ∧ W.cell? ⟨K.wb, 2, none⟩ = some K.slv ∧ W.cell? ⟨K.wb, 3, none⟩ = some (.int .i64 K.pi) ∧ W.cell? ⟨K.wb, 4, none⟩ = some (ptr K.sb) ∧ W.cell? ⟨K.wb, 5, none⟩ = some rv
theorem LS.lw (H : LS K t ac ad r0 r1 s0 s1 lv rv Lp Rp Rs Is C D W) : LwF K lv rv W := by
  have h := H.law.ex.1
  refine ⟨?_, ?_, ?_, ?_, ?_, ?_⟩ <;> simp [World.cell?, h]
theorem own_len {B n : Nat} {e : TypeId} {v : Value} {xs : List Value} (h : W.ownsRow B e 1 v n xs) : ∃ ao cap, v = .slice ao n cap := by
  rcases h.2 with ⟨k, k2⟩ | ⟨g, cap, cur, k, _⟩
  · exact ⟨none, 0, by rw [k, k2]⟩
  · exact ⟨_, cap, k⟩
theorem own_at {B n : Nat} {e : TypeId} {ao : Option Addr} {m cap : Nat} {xs : List Value} (h : W.ownsRow B e 1 (.slice ao m cap) n xs) (hn : 0 < n) : ∃ g, ao = some ⟨g, 0, none⟩ ∧ ∀ (W' : World), W'.ownsRow B e 1 (.slice ao m cap) n xs → ∀ i (hi : i < xs.length), W'.cell? ⟨g, i, none⟩ = some xs[i] := by
  rcases h.2 with ⟨k, k2⟩ | ⟨g, cap', cur, k, _⟩
  · omega
  · injection k with k1 k2 k3
    refine ⟨g, k1, fun W' h' i hi => ?_⟩
    rcases h'.2 with ⟨q, q2⟩ | ⟨g', cap2, cur', q, _, hg, _, _, _, htk⟩
    · omega
    · injection q with q1 q2 q3
      rw [k1] at q1
      have e : g = g' := by
        injection q1 with q1
        injection q1
      subst e
      have hl := h'.1
      have e3 : cur'[i]? = some xs[i] := by
        have e4 : xs[i]? = some xs[i] := by simp [hi]
        generalize xs[i] = y at *
        rw [← htk, List.getElem?_take] at e4
        split at e4
        · rw [← e4]; simp
        · cases e4
      simp [World.cell?, hg, e3]
/-- One more in the first list. -/
theorem LS.app_l (hK : K.Ok) (H : LS K t ac ad r0 r1 s0 s1 lv rv Lp Rp Rs Is C D W) {o : Obj} {w2 : World} {v lv' : Value} (hown : w2.ownsRow K.Bd 70 1 lv' (Lp.length + 1) (Lp ++ [v])) (hgr : (W.alloc o).grownBy w2 lv.ownBlock) :
    w2.heap[K.wb]? = W.heap[K.wb]? ∧ LS K t ac ad r0 r1 s0 s1 lv' rv (Lp ++ [v]) Rp Rs Is C D (w2.setCell ⟨K.wb, 1, none⟩ lv') ∧ Kept W (w2.setCell ⟨K.wb, 1, none⟩ lv') ∧ ∀ (x : Nat) (cs : Array Value) (z : Nat × Nat), W.heap[x]? = some (.cells cs 189 z) → (w2.setCell ⟨K.wb, 1, none⟩ lv').heap[x]? = some (.cells cs 189 z) := by
  obtain ⟨e1, e2, e3⟩ := H.law.ex
  have b1 := bel1 W o
  have hwl := (Array.getElem?_eq_some_iff.1 e1).1
  have hlo : some K.wb ≠ lv.ownBlock := fun e => absurd ((own_ty e2 e.symm).eq (ty_of e1)) (by decide)
  have h2 : ∀ x, x < W.heap.size → some x ≠ lv.ownBlock → w2.heap[x]? = W.heap[x]? := fun x hx hn => (hgr.block x (by simp; omega) hn).trans (b1.block x hx)
  have hc : Chg (fun x => some x = lv.ownBlock ∨ x = K.wb) W (w2.setCell ⟨K.wb, 1, none⟩ lv') := ⟨hgr.os, hgr.tape, hgr.output, by rw [World.size_setCell]; have := hgr.size; simp at this; omega, fun x hx hn => by
    rw [heap_setCell_other _ _ _ _ (by show x ≠ K.wb; exact fun e => hn (Or.inr e))]
    exact h2 x hx (fun e => hn (Or.inl e))⟩
  have hT : Tys W (fun x => some x = lv.ownBlock ∨ x = K.wb) [70, 33] := fun y k => by
    rcases k with k | k
    · exact ⟨70, by simp, own_ty e2 k.symm⟩
    · exact ⟨33, by simp, by rw [k]; exact ty_of e1⟩
  have hge : ∀ x, (some x = lv.ownBlock ∨ x = K.wb) → x = K.wb ∨ K.Bd ≤ x := fun x k => by
    rcases k with k | k
    · exact Or.inr (e2.lt x k.symm).1
    · exact Or.inl k
  have hw2 := h2 K.wb hwl hlo
  refine ⟨hw2, ⟨bel_chg H.bel (Nat.le_refl _) hc (fun x k => ?_), H.code.keep hc hT (by decide) (by decide) (fun j hj x hx k => ?_), H.doc.keep hc hT (by decide) (by decide) (by decide) (by decide) (by decide), H.recs.keep hc hT (by decide) (by decide), ⟨⟨?_, ?_, hc.row e3 (fun x hx => hT.no (own_ty e3 hx) (by decide))⟩, hc.row H.law.sl (fun x hx => hT.no (own_ty H.law.sl hx) (by decide))⟩⟩, kept_of hc hT (by decide) (by decide), fun x cs z h => hc.at_ h (hT.no (ty_of h) (by decide))⟩
  · rcases hge x k with q | q
    · rw [q]; exact hK.kge.2.2.1
    · exact Nat.le_trans hK.kge.2.2.2 q
  · have q := hK.ap j hj x hx
    rcases hge x k with r | r
    · exact q.2.2.1 r
    · omega
  · rw [heap_setCell_same _ K.wb 1 _ _ _ (hw2.trans e1)]
    rfl
  · have : (Lp ++ [v]).length = Lp.length + 1 := by simp
    rw [this]
    exact own_mid_ne hown (mid_set K.wb 1 _) (own_nty hown (hw2.trans e1) (by decide))
/-- One more in the second list. -/
theorem LS.app_r (hK : K.Ok) (H : LS K t ac ad r0 r1 s0 s1 lv rv Lp Rp Rs Is C D W) {o : Obj} {w2 : World} {v rv' : Value} (hown : w2.ownsRow K.Bd 136 1 rv' (Rp.length + 1) (Rp ++ [v])) (hgr : (W.alloc o).grownBy w2 rv.ownBlock) :
    w2.heap[K.wb]? = W.heap[K.wb]? ∧ LS K t ac ad r0 r1 s0 s1 lv rv' Lp (Rp ++ [v]) Rs Is C D (w2.setCell ⟨K.wb, 5, none⟩ rv') ∧ Kept W (w2.setCell ⟨K.wb, 5, none⟩ rv') ∧ ∀ (x : Nat) (cs : Array Value) (T : TypeId) (z : Nat × Nat), (T = 189 ∨ T = 138) → W.heap[x]? = some (.cells cs T z) → (w2.setCell ⟨K.wb, 5, none⟩ rv').heap[x]? = some (.cells cs T z) := by
  obtain ⟨e1, e2, e3⟩ := H.law.ex
  have b1 := bel1 W o
  have hwl := (Array.getElem?_eq_some_iff.1 e1).1
  have hlo : some K.wb ≠ rv.ownBlock := fun e => absurd ((own_ty e3 e.symm).eq (ty_of e1)) (by decide)
  have h2 : ∀ x, x < W.heap.size → some x ≠ rv.ownBlock → w2.heap[x]? = W.heap[x]? := fun x hx hn => (hgr.block x (by simp; omega) hn).trans (b1.block x hx)
  have hc : Chg (fun x => some x = rv.ownBlock ∨ x = K.wb) W (w2.setCell ⟨K.wb, 5, none⟩ rv') := ⟨hgr.os, hgr.tape, hgr.output, by rw [World.size_setCell]; have := hgr.size; simp at this; omega, fun x hx hn => by
    rw [heap_setCell_other _ _ _ _ (by show x ≠ K.wb; exact fun e => hn (Or.inr e))]
    exact h2 x hx (fun e => hn (Or.inl e))⟩
  have hT : Tys W (fun x => some x = rv.ownBlock ∨ x = K.wb) [136, 33] := fun y k => by
    rcases k with k | k
    · exact ⟨136, by simp, own_ty e3 k.symm⟩
    · exact ⟨33, by simp, by rw [k]; exact ty_of e1⟩
  have hge : ∀ x, (some x = rv.ownBlock ∨ x = K.wb) → x = K.wb ∨ K.Bd ≤ x := fun x k => by
    rcases k with k | k
    · exact Or.inr (e3.lt x k.symm).1
    · exact Or.inl k
  have hw2 := h2 K.wb hwl hlo
  refine ⟨hw2, ⟨bel_chg H.bel (Nat.le_refl _) hc (fun x k => ?_), H.code.keep hc hT (by decide) (by decide) (fun j hj x hx k => ?_), H.doc.keep hc hT (by decide) (by decide) (by decide) (by decide) (by decide), H.recs.keep hc hT (by decide) (by decide), ⟨⟨?_, hc.row e2 (fun x hx => hT.no (own_ty e2 hx) (by decide)), ?_⟩, hc.row H.law.sl (fun x hx => hT.no (own_ty H.law.sl hx) (by decide))⟩⟩, kept_of hc hT (by decide) (by decide), fun x cs T z hx h => hc.at_ h (hT.no (ty_of h) (by rcases hx with rfl | rfl <;> decide))⟩
  · rcases hge x k with q | q
    · rw [q]; exact hK.kge.2.2.1
    · exact Nat.le_trans hK.kge.2.2.2 q
  · have q := hK.ap j hj x hx
    rcases hge x k with r | r
    · exact q.2.2.1 r
    · omega
  · rw [heap_setCell_same _ K.wb 5 _ _ _ (hw2.trans e1)]
    rfl
  · have : (Rp ++ [v]).length = Rp.length + 1 := by simp
    rw [this]
    exact own_mid_ne hown (mid_set K.wb 5 _) (own_nty hown (hw2.trans e1) (by decide))
/-- A recorder more. -/
theorem LS.add_rec (H : LS K t ac ad r0 r1 s0 s1 lv rv Lp Rp Rs Is C D W) {x d : Nat} {st : Int} (hx : Rc W x K.k st false) (hd : W.heap[d]? = some (.cells #[.int .i64 st, .bool false] 138 (0, 0))) (g1 : K.Bd ≤ x) (g2 : K.Bd ≤ d) (hf : ∀ i (hi : i < Rs.length), Rs[i].rc ≠ x ∧ Rs[i].d ≠ d) : LS K t ac ad r0 r1 s0 s1 lv rv Lp Rp (Rs ++ [⟨x, d, st, false, false⟩]) Is C D W := by
  have key : ∀ (P : RcD → Prop), (∀ i (hi : i < Rs.length), P Rs[i]) → P ⟨x, d, st, false, false⟩ → ∀ i (hi : i < (Rs ++ [(⟨x, d, st, false, false⟩ : RcD)]).length), P (Rs ++ [(⟨x, d, st, false, false⟩ : RcD)])[i] := fun P h1 h2 i hi => by
    by_cases h : i < Rs.length
    · rw [List.getElem_append_left h]; exact h1 i h
    · rw [List.getElem_append_right (by omega)]
      have : i - Rs.length = 0 := by simp at hi; omega
      simp only [this, List.getElem_cons_zero]
      exact h2
  refine ⟨H.bel, H.code, H.doc, ⟨key (fun r => Rc W r.rc K.k r.st r.cc) H.recs.rc hx, key (fun r => W.heap[r.d]? = some (.cells #[.int .i64 r.st, .bool r.cd] 138 (0, 0))) H.recs.d hd, key (fun r => K.Bd ≤ r.rc ∧ K.Bd ≤ r.d) H.recs.ge ⟨g1, g2⟩, fun i j hi hj hij => ?_⟩, H.law⟩
  simp at hi hj
  by_cases h1 : i < Rs.length
  · rw [List.getElem_append_left h1]
    by_cases h2 : j < Rs.length
    · rw [List.getElem_append_left h2]; exact H.recs.inj i j h1 h2 hij
    · rw [List.getElem_append_right (by omega)]
      simp only [show j - Rs.length = 0 by omega, List.getElem_cons_zero]
      exact hf i h1
  · rw [List.getElem_append_right (by omega)]
    simp only [show i - Rs.length = 0 by omega, List.getElem_cons_zero]
    have h2 : j < Rs.length := by omega
    rw [List.getElem_append_left h2]
    have := hf j h2
    exact ⟨this.1.symm, this.2.symm⟩
end
theorem pick_any (c : Int) (n : Nat) (hn : 0 < n) (hn2 : n < 4611686018427387904) (w : World) : Calls Tryz.prog 38 #[.int .i64 c, .int .i64 (n : Int)] w fun e w' => ∃ i : Nat, e = .returned (.int .i64 (i : Int)) ∧ i < n ∧ w' = w := by
  have hn0 : ¬ (n : Int) = 0 := by omega
  have hn0' : ((n : Int) == 0) = false := by simpa using hn0
  obtain ⟨z, hz⟩ : ∃ z : Int, c.tmod (n : Int) = z := ⟨_, rfl⟩
  have b1 : -(n : Int) < z ∧ z < (n : Int) := by
    rw [← hz]
    exact ⟨Int.lt_tmod_of_pos c (by omega), Int.tmod_lt_of_pos c (by omega)⟩
  by_cases h : z < 0
  · obtain ⟨i, hi⟩ : ∃ i : Nat, (i : Int) = z + (n : Int) := ⟨(z + n).toNat, by omega⟩
    have hi2 : z + (n : Int) = (i : Int) := hi.symm
    have HI : Hid (i < n) := by unfold Hid; omega
    clear hi
    go_enter Tryz.func38, Tryz.ntmps38
    go_wp2
    go_ret
    exact ⟨i, by first | rfl | (congr 2; omega), HI.out, rfl⟩
  · obtain ⟨i, rfl⟩ : ∃ i : Nat, z = (i : Int) := ⟨z.toNat, by omega⟩
    have HI : Hid (i < n) := by unfold Hid; omega
    go_enter Tryz.func38, Tryz.ntmps38
    go_wp2
    go_ret
    exact ⟨i, rfl, HI.out, rfl⟩
end Go.Proofs.YtaeapikhhbjlnaaGreatDoor
/- THE LAW's record. Own work of the verifier. -/
namespace Go.Proofs.YtaeapikhhbjlnaaGreatDoor
open Go.RowKit

/-- Between two steps. -/
structure St (K : Kx) (t a : Nat) (r0 r1 : Int) (lv rv : Value) (Rs : List RcD) (Is : List Ins) (C : Nat → Nat → Nat → List Int) (W : World) : Prop where
  ls : LS K t a a r0 r1 r0 r1 lv rv (Rs.map fun r => ptr r.rc) (Rs.map fun r => ptr r.d) Rs Is C C W
  cl : ∀ i (hi : i < Rs.length), Rs[i].cc = Rs[i].cd
  few : Rs.length ≤ t
def StE (K : Kx) (t : Nat) (W : World) : Prop := ∃ a r0 r1 lv rv Rs Is C, St K t a r0 r1 lv rv Rs Is C W
/-- The operation's block. -/
abbrev opC (kind on oid N : Int) (X : Nat) : Array Value := #[.int .i64 kind, .int .i64 on, .int .i64 oid, .int .i64 N, .float .f64 X]
/-- What a record reads. -/
abbrev RdS (K : Kx) (lv rv slv : Value) (lb rb slb i id : Nat) (x d s ob : Nat) (kind on oid N : Int) (X : Nat) (W : World) : Prop := (W.cell? ⟨K.wb, 1, none⟩ = some lv ∧ W.cell? ⟨K.wb, 2, none⟩ = some slv ∧ W.cell? ⟨K.wb, 4, none⟩ = some (ptr K.sb) ∧ W.cell? ⟨K.wb, 5, none⟩ = some rv) ∧ (W.cell? ⟨lb, i, none⟩ = some (ptr x) ∧ W.cell? ⟨rb, i, none⟩ = some (ptr d) ∧ W.cell? ⟨slb, id, none⟩ = some (ptr s)) ∧ (W.cell? ⟨ob, 0, none⟩ = some (.int .i64 kind) ∧ W.cell? ⟨ob, 1, none⟩ = some (.int .i64 on) ∧ W.cell? ⟨ob, 2, none⟩ = some (.int .i64 oid) ∧ W.cell? ⟨ob, 3, none⟩ = some (.int .i64 N) ∧ W.cell? ⟨ob, 4, none⟩ = some (.float .f64 X))
section
variable {K : Kx} {t a : Nat} {r0 r1 : Int} {lv rv : Value} {Rs : List RcD} {Is : List Ins} {C : Nat → Nat → Nat → List Int} {W : World}
/-- The lists' places. -/
structure Plc (K : Kx) (lv rv : Value) (Rs : List RcD) (lb rb slb lc rc sc : Nat) : Prop where
  l : lv = .slice (some ⟨lb, 0, none⟩) Rs.length lc
  r : rv = .slice (some ⟨rb, 0, none⟩) Rs.length rc
  s : K.slv = .slice (some ⟨slb, 0, none⟩) K.SL.length sc
  at_ : ∀ (t ac ad : Nat) (r0 r1 s0 s1 : Int) (Rs' : List RcD) (Is : List Ins) (C D : Nat → Nat → Nat → List Int) (W : World), LS K t ac ad r0 r1 s0 s1 lv rv (Rs.map fun r => ptr r.rc) (Rs.map fun r => ptr r.d) Rs' Is C D W → ∀ i (hi : i < Rs.length) id (hid : id < K.SL.length), W.cell? ⟨lb, i, none⟩ = some (ptr Rs[i].rc) ∧ W.cell? ⟨rb, i, none⟩ = some (ptr Rs[i].d) ∧ W.cell? ⟨slb, id, none⟩ = some (ptr K.SL[id].s)
theorem St.plc (H : St K t a r0 r1 lv rv Rs Is C W) (h1 : 0 < Rs.length) (h2 : 0 < K.SL.length) : ∃ lb rb slb lc rc sc, Plc K lv rv Rs lb rb slb lc rc sc := by
  obtain ⟨_, e2, e3⟩ := H.ls.law.ex
  have e4 := H.ls.law.sl
  simp only [List.length_map] at e2 e3
  obtain ⟨ao, lc, rfl⟩ := own_len e2
  obtain ⟨ao2, rc, rfl⟩ := own_len e3
  obtain ⟨ao3, sc, e5⟩ := own_len e4
  rw [e5] at e4
  obtain ⟨lb, rfl, k1⟩ := own_at e2 h1
  obtain ⟨rb, rfl, k2⟩ := own_at e3 h1
  obtain ⟨slb, rfl, k3⟩ := own_at e4 h2
  refine ⟨lb, rb, slb, lc, rc, sc, rfl, rfl, e5, fun t ac ad r0 r1 s0 s1 Rs' Is C D W H' i hi id hid => ?_⟩
  obtain ⟨_, f2, f3⟩ := H'.law.ex
  have f4 := H'.law.sl
  simp only [List.length_map] at f2 f3
  rw [e5] at f4
  refine ⟨?_, ?_, ?_⟩
  · have := k1 W f2 i (by simpa using hi); simpa using this
  · have := k2 W f3 i (by simpa using hi); simpa using this
  · have := k3 W f4 id (by simpa using hid); simpa using this
theorem op_cells {ob : Nat} {kind on oid N : Int} {X : Nat} (h : W.heap[ob]? = some (.cells (opC kind on oid N X) 42 (0, 0))) : W.cell? ⟨ob, 0, none⟩ = some (.int .i64 kind) ∧ W.cell? ⟨ob, 1, none⟩ = some (.int .i64 on) ∧ W.cell? ⟨ob, 2, none⟩ = some (.int .i64 oid) ∧ W.cell? ⟨ob, 3, none⟩ = some (.int .i64 N) ∧ W.cell? ⟨ob, 4, none⟩ = some (.float .f64 X) := by
  refine ⟨?_, ?_, ?_, ?_, ?_⟩ <;> simp [World.cell?, h]
theorem Plc.rd {lb rb slb lc rc sc : Nat} (P : Plc K lv rv Rs lb rb slb lc rc sc) {t ac ad : Nat} {r0 r1 s0 s1 : Int} {Rs' : List RcD} {Is : List Ins} {C D : Nat → Nat → Nat → List Int} (H : LS K t ac ad r0 r1 s0 s1 lv rv (Rs.map fun r => ptr r.rc) (Rs.map fun r => ptr r.d) Rs' Is C D W) {i id ob : Nat} (hi : i < Rs.length) (hid : id < K.SL.length) {kind on oid N : Int} {X : Nat} (ho : W.heap[ob]? = some (.cells (opC kind on oid N X) 42 (0, 0))) : RdS K lv rv K.slv lb rb slb i id Rs[i].rc Rs[i].d K.SL[id].s ob kind on oid N X W := by
  obtain ⟨l0, l1, l2, l3, l4, l5⟩ := H.lw
  exact ⟨⟨l1, l2, l4, l5⟩, P.at_ _ _ _ _ _ _ _ _ _ _ _ W H i hi id hid, op_cells ho⟩
/-- Between both records. -/
def MdS (K : Kx) (t a : Nat) (r0 r1 : Int) (lv rv : Value) (Rs : List RcD) (Is : List Ins) (C : Nat → Nat → Nat → List Int) (_i id : Nat) (kd2 x er : Int) (f : Nat) (ob : Nat) (oc : Array Value) (st : Int) (W : World) : Prop := LS K (t + 1) a a (bmp er a 0 r0) (bmp er a 1 r1) r0 r1 lv rv (Rs.map fun r => ptr r.rc) (Rs.map fun r => ptr r.d) Rs Is (upJ C id (nxC kd2 K.p (C id) a st x f er)) C W ∧ W.heap[ob]? = some (.cells oc 42 (0, 0))
/-- The code's record, in the state. -/
theorem St.code_rec (hK : K.Ok) (H : St K t a r0 r1 lv rv Rs Is C W) (ht : t < 70368744177664) {lb rb slb lc rc sc : Nat} (P : Plc K lv rv Rs lb rb slb lc rc sc) {i id ob f : Nat} (hi : i < Rs.length) (hid : id < K.SL.length) {kind on oid N : Int} {X : Nat} (ho : W.heap[ob]? = some (.cells (opC kind on oid N X) 42 (0, 0))) (hN : In64 N) (hf : f < 18446744073709551616) (kd2 er : Int) (hk : kd2 = 4 ∨ kd2 = 5 ∨ kd2 = 6) (her : er = ansF (whyF kd2 K.SL[id].kd N f Rs[i].cc) Rs[i].st K.n) (fn : FuncId) (arg : Value) (hfn : (kd2 = 4 ∧ fn = 30 ∧ arg = .int .i64 N) ∨ (kd2 = 5 ∧ fn = 85 ∧ arg = .int .i64 N) ∨ (kd2 = 6 ∧ fn = 86 ∧ arg = .float .f64 f)) :
    Calls Tryz.prog fn #[ptr Rs[i].rc, .pointer none, ptr K.SL[id].s, arg] W fun e w' => e = .returned (.int .i64 er) ∧ Hid (MdS K t a r0 r1 lv rv Rs Is C i id kd2 N er f ob (opC kind on oid N X) Rs[i].st w') ∧ RdS K lv rv K.slv lb rb slb i id Rs[i].rc Rs[i].d K.SL[id].s ob kind on oid N X w' := by
  obtain ⟨neg, m, hm, hR⟩ := H.ls.rck hK ht hi hid
  have fin : ∀ (e : Ending) (w' : World), (e = .returned (.int .i64 er) ∧ Hid (RcQ K.SL[id] K.p K.n (nxC kd2 K.p (C id) a Rs[i].st N f er) K.k K.ph a m r0 r1 neg er W w')) → e = .returned (.int .i64 er) ∧ Hid (MdS K t a r0 r1 lv rv Rs Is C i id kd2 N er f ob (opC kind on oid N X) Rs[i].st w') ∧ RdS K lv rv K.slv lb rb slb i id Rs[i].rc Rs[i].d K.SL[id].s ob kind on oid N X w' := fun e w' q => by
    obtain ⟨q1, q2⟩ := H.ls.c_rec hK ht hi hid hm hk hf her q.2.out
    have ho' := q2 ob _ _ _ (Or.inl rfl) ho
    exact ⟨q.1, ⟨q1, ho'⟩, P.rd q1 hi hid ho'⟩
  rcases hfn with ⟨rfl, rfl, rfl⟩ | ⟨rfl, rfl, rfl⟩ | ⟨rfl, rfl, rfl⟩
  · exact Calls.mono (recK_add hR hN er her) fin
  · exact Calls.mono (recK_obs hR hN er her) fin
  · exact Calls.mono (recK_sam hR hf er her) fin
/-- The document's record, behind it. -/
theorem St.doc_rec (hK : K.Ok) (H : St K t a r0 r1 lv rv Rs Is C W) (ht : t + 1 < 70368744177664) {lb rb slb lc rc sc : Nat} (P : Plc K lv rv Rs lb rb slb lc rc sc) {i id ob f : Nat} (hi : i < Rs.length) (hid : id < K.SL.length) {kind on oid N : Int} {X : Nat} (hN : In64 N) (hf : f < 18446744073709551616) (kd2 er : Int) (hk : kd2 = 4 ∨ kd2 = 5 ∨ kd2 = 6) (her : er = ansF (whyF kd2 K.SL[id].kd N f Rs[i].cc) Rs[i].st K.n) (V : World) (hV : MdS K t a r0 r1 lv rv Rs Is C i id kd2 N er f ob (opC kind on oid N X) Rs[i].st V) :
    Calls Tryz.prog 84 #[ptr K.sb, ptr Rs[i].d, .int .i64 kd2, .int .i64 (id : Int), .int .i64 N, .int .u64 (f : Int)] V fun e w' => e = .returned (.int .i64 er) ∧ Hid (StE K (t + 2) w') ∧ RdS K lv rv K.slv lb rb slb i id Rs[i].rc Rs[i].d K.SL[id].s ob kind on oid N X w' := by
  rw [H.cl i hi] at her
  refine Calls.mono (hV.1.d_rec hK H.ls.code.a2 ht hi hid hN hk hf her) ?_
  rintro e w' ⟨rfl, q⟩
  obtain ⟨q1, q2⟩ := q.out
  have ho' := q2 ob _ _ _ (Or.inl rfl) hV.2
  exact ⟨rfl, ⟨a, _, _, lv, rv, Rs, Is, _, q1, H.cl, by have := H.few; omega⟩, P.rd q1 hi hid ho'⟩
end
end Go.Proofs.YtaeapikhhbjlnaaGreatDoor
