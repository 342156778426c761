/- LabelChecks: the row. Own work of the verifier. -/
import Derived.Test.YtmphajfhilpgeabCC4
namespace Go.Proofs.Ytmphajfhilpgeab
open Go.ChangeShapes Go.WideShapes Go.ChangeAt Go.RowKit Go.Joins

theorem dss_of {D : Ds} (h1 : D.name.length ≤ 140737488351232) (h2 : D.help.length ≤ 140737488351232) (h3 : ∀ a ∈ D.labels, a.1.length ≤ 140737488351232 ∧ a.2.length ≤ 140737488351232) : DsS D := ⟨by omega, by omega, fun a ha => ⟨by have := (h3 a ha).1; omega, by have := (h3 a ha).2; omega⟩⟩
end Go.Proofs.Ytmphajfhilpgeab
