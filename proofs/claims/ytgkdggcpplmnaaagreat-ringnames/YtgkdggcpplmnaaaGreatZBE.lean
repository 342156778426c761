/- COPIES OF SNAPSHOTS: the document's Copy. Own work of the verifier. -/
import Derived.Test.YtgkdggcpplmnaaaGreatZBC
import Derived.OwnWalk
namespace Go.Proofs.YtgkdggcpplmnaaaGreat
open Go.RowKit Me

/-- What Copy tells. -/
def CyQ (w : World) (s : Sn) (e : Ending) (w' : World) : Prop := ∃ u J, e = .returned (.agg #[.int .i64 s.p, u, .int .u64 (s.r : Int)]) ∧ Below w.heap.size w w' ∧ JV w u J w' ∧ J.map (·.1) = s.vs
end Go.Proofs.YtgkdggcpplmnaaaGreat
