/- MEMORY. Own work of the verifier. -/
import Derived.Test.YtlgkfeeclgcgbaaGreatDoorRows
import Derived.WalkKit
import Derived.WalkSpells
import Derived.RowKit3
import Derived.Below
import Derived.Outline
import Derived.Deep.QuietTactic
import Derived.Deep.Draws
import Derived.BigQuiet
import Derived.Laws.Bits64
import Derived.Laws.BitsAllLaws
import Derived.Laws.ShiftsVarLaws
import Derived.Deep.RegionHeld3
import Derived.Deep.DeepCutAuto
import Derived.Laws.OwnMore
import Derived.OwnWalk
namespace Go.Proofs.YtlgkfeeclgcgbaaGreatDoor.Me
open Go.RowKit
theorem bel1 (w:World) (o1:Obj):Below w.heap.size w (w.alloc o1):=(Below.refl _ _).alloc (Nat.le_refl _) _
theorem bt {w W W1:World} (h:Below w.heap.size w W) (k:Below W.heap.size W W1):Below w.heap.size w W1:=h.trans (k.mono h.size)
theorem new_1 (w:World) (o:Obj):(w.alloc o).heap[w.heap.size]? =some o:=by
 show (w.heap.push _)[w.heap.size]? =_
 simp
theorem hid_of {p:Prop} (h:p):Hid p:=h
theorem retI {k:IntKind} {A B:Int} (h:A=B):Ending.returned (Value.int k A)=.returned (.int k B):=by rw [h]
theorem retB {A B:Bool} (h:A=B):Ending.returned (Value.bool A)=.returned (.bool B):=by rw [h]
theorem heap_other (w:World) (a:Addr) (k:Nat) (u:Value) (h:k≠a.block):(w.setCell a u).heap[k]? =w.heap[k]?:=Below.heap_setCell _ _ _ _ h
theorem bel_drewB {B:Nat} {a w:World} (h:Below B a w):Below B a w.drew:=⟨h.os,h.tape,h.output,h.size,h.block⟩
theorem own_apart {W:World} {B B':Nat} {e e':TypeId} {s s':Nat} {v v':Value} {n n':Nat} {xs xs':List Value} (h:W.ownsRow B e s v n xs) (h':W.ownsRow B' e' s' v' n' xs') (hne:e≠e'):v.ownBlock=none∨v.ownBlock≠v'.ownBlock:=by
 rcases h.2 with ⟨k,_⟩ | ⟨g1,c1,cur,k,_,hg,_⟩
 ·left;rw [k];rfl
 right
 rcases h'.2 with ⟨k',_⟩ | ⟨g2,c2,cur',k',_,hg',_⟩
 ·rw [k,k'];simp [Value.ownBlock]
 ·rw [k,k']
  intro e1
  simp only [Value.ownBlock,Option.some.injEq] at e1
  subst e1
  rw [hg] at hg'
  cases hg'
  exact hne rfl
theorem grown_bel {a b:World} {row:Option Nat} (h:Below a.heap.size a b):a.grownBy b row:=⟨h.os,h.tape,h.output,h.size,fun k hk _=>h.block k hk⟩
theorem own_atG {W:World} {B:Nat} {e:TypeId} {s n:Nat} {v:Value} {xs:List Value} (h:W.ownsRow B e s v n xs):v.ownBlock=none∨∃ g,v.ownBlock=some g∧B≤g∧g < W.heap.size:=by
 rcases h.2 with ⟨q,_⟩ | ⟨g,cap,cur,q,hB,hg,_⟩
 ·left;rw [q];rfl
 ·right;exact ⟨g,by rw [q];rfl,hB,(Array.getElem?_eq_some_iff.1 hg).1⟩
theorem own_belG {W W':World} {B:Nat} {e:TypeId} {s n:Nat} {v:Value} {xs:List Value} (h:W.ownsRow B e s v n xs) (hb:Below W.heap.size W W'):W'.ownsRow B e s v n xs:=World.ownsRow.kept (row:=none) h (grown_bel hb) (by cases e:v.ownBlock <;> simp)
theorem own_leG {W:World} {B B':Nat} {e:TypeId} {s n:Nat} {v:Value} {xs:List Value} (h:W.ownsRow B e s v n xs) (hb:B'≤B):W.ownsRow B' e s v n xs:=by
 refine ⟨h.1,?_⟩
 rcases h.2 with k | ⟨g,cap,cur,hv,hB,hrest⟩
 ·exact Or.inl k
 ·exact Or.inr ⟨g,cap,cur,hv,by omega,hrest⟩
theorem own_notype {W:World} {B p:Nat} {e t:TypeId} {s n:Nat} {v:Value} {xs:List Value} {cs:Array Value} {z:Nat × Nat} (h:W.ownsRow B e s v n xs) (hp:W.heap[p]? =some (.cells cs t z)) (hne:e≠t):v.ownBlock≠some p:=by
 rcases h.2 with ⟨k,_⟩ | ⟨g1,c1,cur,k,_,hg,_⟩
 ·rw [k];simp [Value.ownBlock]
 ·rw [k]
  intro e1
  simp only [Value.ownBlock,Option.some.injEq] at e1
  subst e1
  rw [hg] at hp
  cases hp
  exact hne rfl
structure Chg (S:Nat→Prop) (W W':World):Prop where
 os:W'.os=W.os
 tape:W'.tape=W.tape
 output:W'.output=W.output
 size:W.heap.size≤W'.heap.size
 block:∀ k,k < W.heap.size→¬ S k→W'.heap[k]? =W.heap[k]?
theorem Chg.of_grown {S:Nat→Prop} {a b:World} {row:Option Nat} (h:a.grownBy b row) (hs:∀ x,row=some x→S x):Chg S a b :=
 ⟨h.os,h.tape,h.output,h.size,fun k hk hn=>h.block k hk (fun e=>hn (hs k e.symm))⟩
theorem Chg.row {S:Nat→Prop} {W W':World} {B:Nat} {e:TypeId} {s n:Nat} {v:Value} {xs:List Value} (k:Chg S W W') (h:W.ownsRow B e s v n xs) (hS:∀ x,v.ownBlock=some x→¬ S x):W'.ownsRow B e s v n xs:=by
 refine ⟨h.1,?_⟩
 rcases h.2 with hn | ⟨g,cap,cur,rfl,hb,hgg,rest⟩
 ·exact .inl hn
 ·exact .inr ⟨g,cap,cur,rfl,hb,(k.block g (Array.getElem?_eq_some_iff.1 hgg).1 (hS g rfl)).trans hgg,rest⟩
end Go.Proofs.YtlgkfeeclgcgbaaGreatDoor.Me
