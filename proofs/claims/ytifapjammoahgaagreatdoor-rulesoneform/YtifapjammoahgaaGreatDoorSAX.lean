/- MEMORY. Own work of the verifier. -/
import Derived.Test.YtifapjammoahgaaGreatDoorRows
import Derived.WalkKit
import Derived.WalkSpells
import Derived.RowKit3
import Derived.Below
import Derived.Outline
import Derived.Deep.QuietTactic
import Derived.Deep.Draws
import Derived.BigQuiet
import Derived.Laws.Bits64
import Derived.Laws.BitsAllLaws
import Derived.Laws.ShiftsVarLaws
import Derived.Deep.RegionHeld3
import Derived.Deep.DeepCutAuto
import Derived.Laws.OwnMore
import Derived.OwnWalk
namespace Go.Proofs.YtifapjammoahgaaGreatDoor.Me
open Go.RowKit
theorem bel1 (w:World) (o1:Obj):Below w.heap.size w (w.alloc o1):=(Below.refl _ _).alloc (Nat.le_refl _) _
theorem bt {w W W1:World} (h:Below w.heap.size w W) (k:Below W.heap.size W W1):Below w.heap.size w W1:=h.trans (k.mono h.size)
theorem new_1 (w:World) (o:Obj):(w.alloc o).heap[w.heap.size]? =some o:=by
  show (w.heap.push _)[w.heap.size]? =_
  simp
theorem hid_of {p:Prop} (h:p):Hid p:=h
theorem retI {k:IntKind} {A B:Int} (h:A=B):Ending.returned (Value.int k A)=.returned (.int k B):=by rw [h]
theorem retB {A B:Bool} (h:A=B):Ending.returned (Value.bool A)=.returned (.bool B):=by rw [h]
theorem heap_other (w:World) (a:Addr) (k:Nat) (u:Value) (h:k≠a.block):(w.setCell a u).heap[k]? =w.heap[k]?:=Below.heap_setCell _ _ _ _ h
theorem bel_drewB {B:Nat} {a w:World} (h:Below B a w):Below B a w.drew:=⟨h.os,h.tape,h.output,h.size,h.block⟩
theorem grown_bel {a b:World} {row:Option Nat} (h:Below a.heap.size a b):a.grownBy b row:=⟨h.os,h.tape,h.output,h.size,fun k hk _=>h.block k hk⟩
theorem own_atG {W:World} {B:Nat} {e:TypeId} {s n:Nat} {v:Value} {xs:List Value} (h:W.ownsRow B e s v n xs):v.ownBlock=none∨∃ g,v.ownBlock=some g∧B≤g∧g < W.heap.size:=by
  rcases h.2 with ⟨q,_⟩ | ⟨g,cap,cur,q,hB,hg,_⟩
  · left;rw [q];rfl
  · right;exact ⟨g,by rw [q];rfl,hB,(Array.getElem?_eq_some_iff.1 hg).1⟩
theorem own_belG {W W':World} {B:Nat} {e:TypeId} {s n:Nat} {v:Value} {xs:List Value} (h:W.ownsRow B e s v n xs) (hb:Below W.heap.size W W'):W'.ownsRow B e s v n xs:=World.ownsRow.kept (row:=none) h (grown_bel hb) (by cases e:v.ownBlock <;> simp)
end Go.Proofs.YtifapjammoahgaaGreatDoor.Me
