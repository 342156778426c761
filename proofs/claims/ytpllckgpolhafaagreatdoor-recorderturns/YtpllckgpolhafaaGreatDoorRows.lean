/-
  NARROWER THAN 'FOR EVERY INPUT', by the rows' own cells (each row's printed sentence says how): RecorderDoes: laid · RecorderTurns: laid.
  DERIVED. THE GIVEN ROWS OF THIS SEAT. 2 by the template 'for every input the law returns true; each argument reads behind the call as it read before'; 0 by the template 'total and deterministic' (their statements: YtpllckgpolhafaaGreatDoorTotals.lean).
  GIVEN WITH THE SEED: the statements are not yours to turn. If you find one false, say at which input.
  Laid BY PROGRAM, IN A SANDBOX (cutbox-rows.mjs): the forced cells as the released guide's own fill.sh prints them over the translation defa5ee9511e01ea… (all of the seat's roots in one cut). By AI agents, Wed Nov 11 2026. No macro, syntax, notation, axiom, sorry.
-/
import Derived.Test.YtpllckgpolhafaaGreatDoorChecked
import GoSem.Claim
import GoSem.ClaimJoined
import GoSem.ClaimMapViews
import Derived.JoinedTies
import Derived.KernelRfl
namespace Go.Proofs.YtpllckgpolhafaaGreatDoor
/- THE CELL 'sum', in the pinned program and in every row, IS THE sha256 OF THE DUMP (.gsa) THAT YtpllckgpolhafaaGreatDoorProg.lean LOADS. Nothing in Lean hashes anything: it is a label: what it is worth is what the hold of that sum in a sandbox is worth. -/
noncomputable def Tryz.pinned : Pinned := { name := "ytpllckgpolhafaagreatdoor", sum := "defa5ee9511e01ea7b7bb71f2bc91d80a17edfe9a76b8cb2bdb7be711815a9d2", checked := Tryz.checked }
namespace Rows
def none {H : Type} : Left H := { results := [], args := [] }

/- WHAT THE LISTED PACKAGE-LEVEL VARIABLES READ AS WHEN THE CALL BEGINS. Each datum BY PROGRAM (the guide's laid-datum.mjs) off the statement by which the dump's own 'gosem.cut.vars' lays the variable. In a bare row this is a premise. The card (YtpllckgpolhafaaGreatDoorCards.lean) ties it to the program's text. -/
def laid_gnomon_gate_errLetGo {H : Type} : DataW H := .iface "*errors.errorString" (.ptr (.agg [.lit (.string [103, 97, 116, 101, 58, 32, 116, 104, 101, 32, 116, 104, 114, 101, 97, 100, 32, 105, 115, 32, 108, 101, 116, 32, 103, 111])]))

/-- 'gnomonlaw14.RecorderDoes': WHATEVER THE INPUT: true; the input reads as it did. -/
def recorderDoesSpec : ChangeSpec := { name := "recorderDoes", fn := fun _ => fun
  | [d1, d2, d3, d4] => { results := [.lit (.bool true)], args := [d1, d2, d3, d4] }
  | _ => none }
def recorderDoesRow : OpenClaim := { program := "ytpllckgpolhafaagreatdoor", sum := "defa5ee9511e01ea7b7bb71f2bc91d80a17edfe9a76b8cb2bdb7be711815a9d2", func := "gnomon/gnomonlaw14.RecorderDoes", spec := "recorderDoes", inPlace := ["sync/atomic.StoreInt64", "math/bits.Add64", "math.Float64bits", "math.Float64frombits", "sync/atomic.AddInt64", "sync/atomic.LoadInt64", "sync/atomic.SwapInt64", "(*sync.WaitGroup).Add", "internal/race.ReleaseMerge", "internal/race.Disable", "internal/race.Enable", "internal/synctest.IsInBubble", "internal/synctest.Associate[sync.WaitGroup]", "sync.fatal", "sync/atomic.OrUint64", "sync/atomic.AddUint64", "internal/race.Read", "sync/atomic.LoadUint64", "sync/atomic.StoreUint64", "internal/synctest.Disassociate[sync.WaitGroup]", "sync.runtime_Semrelease", "(*sync.WaitGroup).Done", "(*sync.WaitGroup).Wait", "internal/race.Acquire", "internal/synctest.IsAssociated[sync.WaitGroup]", "sync/atomic.CompareAndSwapUint64", "internal/race.Write", "sync.runtime_SemacquireWaitGroup"], unfollowed := true, recurses := true, named := ["gnomon/gate.errLetGo"], apart := false, laid := [("gnomon/gate.errLetGo", laid_gnomon_gate_errLetGo)] }
def RecorderDoesSaid : Prop := recorderDoesRow.holds Tryz.pinned (OpenSpec.ofChange recorderDoesSpec)

/-- ITS FALSE NEIGHBOUR: 'it returns false'. Refute it at one input. -/
def recorderDoesWrong : ChangeSpec := { name := "recorderDoes", fn := fun _ => fun
  | [d1, d2, d3, d4] => { results := [.lit (.bool false)], args := [d1, d2, d3, d4] }
  | _ => none }
def RecorderDoesWrongFalsely : Prop := recorderDoesRow.holds Tryz.pinned (OpenSpec.ofChange recorderDoesWrong)

/-- 'gnomonlaw14.RecorderTurns': WHATEVER THE INPUT: true; the input reads as it did. -/
def recorderTurnsSpec : ChangeSpec := { name := "recorderTurns", fn := fun _ => fun
  | [d] => { results := [.lit (.bool true)], args := [d] }
  | _ => none }
def recorderTurnsRow : OpenClaim := { program := "ytpllckgpolhafaagreatdoor", sum := "defa5ee9511e01ea7b7bb71f2bc91d80a17edfe9a76b8cb2bdb7be711815a9d2", func := "gnomon/gnomonlaw14.RecorderTurns", spec := "recorderTurns", inPlace := ["sync/atomic.StoreInt64", "math/bits.Add64", "math.Float64bits", "math.Float64frombits", "sync/atomic.AddInt64", "sync/atomic.LoadInt64", "sync/atomic.SwapInt64", "(*sync.WaitGroup).Add", "internal/race.ReleaseMerge", "internal/race.Disable", "internal/race.Enable", "internal/synctest.IsInBubble", "internal/synctest.Associate[sync.WaitGroup]", "sync.fatal", "sync/atomic.OrUint64", "sync/atomic.AddUint64", "internal/race.Read", "sync/atomic.LoadUint64", "sync/atomic.StoreUint64", "internal/synctest.Disassociate[sync.WaitGroup]", "sync.runtime_Semrelease", "(*sync.WaitGroup).Done", "(*sync.WaitGroup).Wait", "internal/race.Acquire", "internal/synctest.IsAssociated[sync.WaitGroup]", "sync/atomic.CompareAndSwapUint64", "internal/race.Write", "sync.runtime_SemacquireWaitGroup"], unfollowed := true, recurses := true, named := ["gnomon/gate.errLetGo"], apart := false, laid := [("gnomon/gate.errLetGo", laid_gnomon_gate_errLetGo)] }
def RecorderTurnsSaid : Prop := recorderTurnsRow.holds Tryz.pinned (OpenSpec.ofChange recorderTurnsSpec)

/-- ITS FALSE NEIGHBOUR: 'it returns false'. Refute it at one input. -/
def recorderTurnsWrong : ChangeSpec := { name := "recorderTurns", fn := fun _ => fun
  | [d] => { results := [.lit (.bool false)], args := [d] }
  | _ => none }
def RecorderTurnsWrongFalsely : Prop := recorderTurnsRow.holds Tryz.pinned (OpenSpec.ofChange recorderTurnsWrong)

/- THE SECOND FORM. 'bulk': how many values and letters a reading holds, each counted each time it is reached (what is shared counts as often as it is met; a slice's spare places count too). A statement '..UptoSaid' is the law's where the arguments, and the package variables that the reading takes, are together of bulk at most 1048576: NARROWER than '..Said'. Prove '..Said' where nothing that the law and all that it calls make is longer than what came in: it says more and counts as full. Else prove '..UptoSaid'. A law counts once. -/
mutual
def uptoBulk {H : Type} : DataW H → Nat
  | .lit (.string bytes) => bytes.length + 1
  | .lit _ => 1
  | .nil => 1
  | .ptr d => uptoBulk d + 1
  | .slice elems spare => uptoBulkAll elems + uptoBulkAll spare + 1
  | .agg parts => uptoBulkAll parts + 1
  | .iface _ d => uptoBulk d + 1
  | .map entries => uptoBulkEntries entries + 1
  | .held _ => 1
def uptoBulkAll {H : Type} : List (DataW H) → Nat
  | [] => 0
  | d :: r => uptoBulk d + uptoBulkAll r
def uptoBulkEntries {H : Type} : List (Lit × DataW H) → Nat
  | [] => 0
  | x :: r => uptoBulkEntry x + uptoBulkEntries r
def uptoBulkEntry {H : Type} : Lit × DataW H → Nat
  | (.string bytes, d) => bytes.length + uptoBulk d + 1
  | (_, d) => uptoBulk d + 1
 end
def uptoSmall : (H : Type) → List (DataW H) → Bool := fun _ ds => decide (uptoBulkAll ds ≤ 1048576)
def OpenSpec.upto (s : _root_.Go.ChangeSpec) : _root_.Go.OpenSpec := { _root_.Go.OpenSpec.ofChange s with cond := some uptoSmall }

/-- 'gnomonlaw14.RecorderDoes', WHERE WHAT IT READS IS OF BULK AT MOST 1048576: true; the input reads as it did. -/
def recorderDoesUptoRow : OpenClaim := { program := "ytpllckgpolhafaagreatdoor", sum := "defa5ee9511e01ea7b7bb71f2bc91d80a17edfe9a76b8cb2bdb7be711815a9d2", func := "gnomon/gnomonlaw14.RecorderDoes", spec := "recorderDoes", inPlace := ["sync/atomic.StoreInt64", "math/bits.Add64", "math.Float64bits", "math.Float64frombits", "sync/atomic.AddInt64", "sync/atomic.LoadInt64", "sync/atomic.SwapInt64", "(*sync.WaitGroup).Add", "internal/race.ReleaseMerge", "internal/race.Disable", "internal/race.Enable", "internal/synctest.IsInBubble", "internal/synctest.Associate[sync.WaitGroup]", "sync.fatal", "sync/atomic.OrUint64", "sync/atomic.AddUint64", "internal/race.Read", "sync/atomic.LoadUint64", "sync/atomic.StoreUint64", "internal/synctest.Disassociate[sync.WaitGroup]", "sync.runtime_Semrelease", "(*sync.WaitGroup).Done", "(*sync.WaitGroup).Wait", "internal/race.Acquire", "internal/synctest.IsAssociated[sync.WaitGroup]", "sync/atomic.CompareAndSwapUint64", "internal/race.Write", "sync.runtime_SemacquireWaitGroup"], unfollowed := true, recurses := true, named := ["gnomon/gate.errLetGo"], apart := false, laid := [("gnomon/gate.errLetGo", laid_gnomon_gate_errLetGo)], narrowed := true }
def RecorderDoesUptoSaid : Prop := recorderDoesUptoRow.holds Tryz.pinned (OpenSpec.upto recorderDoesSpec)

/-- 'gnomonlaw14.RecorderTurns', WHERE WHAT IT READS IS OF BULK AT MOST 1048576: true; the input reads as it did. -/
def recorderTurnsUptoRow : OpenClaim := { program := "ytpllckgpolhafaagreatdoor", sum := "defa5ee9511e01ea7b7bb71f2bc91d80a17edfe9a76b8cb2bdb7be711815a9d2", func := "gnomon/gnomonlaw14.RecorderTurns", spec := "recorderTurns", inPlace := ["sync/atomic.StoreInt64", "math/bits.Add64", "math.Float64bits", "math.Float64frombits", "sync/atomic.AddInt64", "sync/atomic.LoadInt64", "sync/atomic.SwapInt64", "(*sync.WaitGroup).Add", "internal/race.ReleaseMerge", "internal/race.Disable", "internal/race.Enable", "internal/synctest.IsInBubble", "internal/synctest.Associate[sync.WaitGroup]", "sync.fatal", "sync/atomic.OrUint64", "sync/atomic.AddUint64", "internal/race.Read", "sync/atomic.LoadUint64", "sync/atomic.StoreUint64", "internal/synctest.Disassociate[sync.WaitGroup]", "sync.runtime_Semrelease", "(*sync.WaitGroup).Done", "(*sync.WaitGroup).Wait", "internal/race.Acquire", "internal/synctest.IsAssociated[sync.WaitGroup]", "sync/atomic.CompareAndSwapUint64", "internal/race.Write", "sync.runtime_SemacquireWaitGroup"], unfollowed := true, recurses := true, named := ["gnomon/gate.errLetGo"], apart := false, laid := [("gnomon/gate.errLetGo", laid_gnomon_gate_errLetGo)], narrowed := true }
def RecorderTurnsUptoSaid : Prop := recorderTurnsUptoRow.holds Tryz.pinned (OpenSpec.upto recorderTurnsSpec)

end Rows
end Go.Proofs.YtpllckgpolhafaaGreatDoor
