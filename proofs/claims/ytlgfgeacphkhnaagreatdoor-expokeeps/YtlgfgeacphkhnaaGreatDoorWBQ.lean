/- ExpoWrites: THE WALK. Own work of the verifier. -/
import Derived.Test.YtlgfgeacphkhnaaGreatDoorWBO
import Derived.Test.YtlgfgeacphkhnaaGreatDoorWAY
namespace Go.Proofs.YtlgfgeacphkhnaaGreatDoor
open Go.RowKit Me

theorem rpr_all : RPr := fun f hf W => (Rl.dprint_any f hf W).mono fun e w' ⟨l, he, hl, hb⟩ => ⟨by rw [he, Rl.doc_text f hf l hl], hb⟩
end Go.Proofs.YtlgfgeacphkhnaaGreatDoor
