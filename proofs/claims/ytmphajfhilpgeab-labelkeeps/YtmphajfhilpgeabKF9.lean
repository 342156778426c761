/- LabelKeeps: the walk, joined. Own work of the verifier. -/
import Derived.Test.YtmphajfhilpgeabKE3
import Derived.Test.YtmphajfhilpgeabKF8
import Derived.Test.YtmphajfhilpgeabCM2
namespace Go.Proofs.Ytmphajfhilpgeab
open Go.RowKit
theorem labsOf_len (t : List UInt8) : (labsOf t).length ≤ 1048576 := by
  unfold labsOf
  cases e : parR t with
  | error z => simp
  | ok r =>
    obtain ⟨n, L⟩ := r
    have := (par_read t n L e).2.2.1
    simp only
    omega
theorem keeps_walk (d : Ds) (v : Value) (t : List UInt8) (ht : t.length ≤ 140737488351232) (w : World) (hd : DsC w d v) (sn : d.name.length ≤ 140737488351232) (sd : DsS d) (sl : ∀ a ∈ d.labels, a.1.length ≤ 140737488351232 ∧ a.2.length ≤ 140737488351232) (hnn : ∀ (k n h : Value) (ao : Option Addr) (m cap : Nat), v = .agg #[k, n, h, .slice ao m cap] → ao = none → cap = 0) :
    Calls Try.prog 6 #[v, .string ⟨t.toArray⟩] w fun r w' => r = .returned (.bool true) ∧ Below w.heap.size w w' := by
  refine keeps_start d v t ht w hd sn sd sl hnn ?_
  intros
  refine keeps_told t ht w _ _ _ _ _ _ _ _ _ _ _ _ _ _ _ _ _ _ _ _ _ _ _ _ _ _ _ _ _ _ _ _ _ _ _ _ _ _ _ _ _ _ _ _ _ _ _ _ _ _ _ _ _ _ _ _ _ _ _ _ _ _ _ _ _ _ _ _ _ _ _ _ _ _ _ _ _ _ _ _ _ _ _ _ _ _ _ _ _ _ _ _ _ _ _ _ _ _ _ _ _ _ _ _ _ _ _ _ _ _ _ _ _ _ _ _ _ _ _ _ _ _ _ _ _ _ _ _ _ _ _ _ _ _ _ _ _ _ _ _ _ _ _ _ _ _ _ _ _ _ _ _ _ _ _ _ _ _ _ _ _ _ _ _ _ _ _ _ _ _ _ _ _ _ _ _ _ _ _ _ _ _ _ _ _ _ _ _ _ _ _ _ _ _ _ _ _ _ _ _ _ _ _ (by assumption) (by assumption) ?_
  intros
  exact keeps_over t ht w _ _ _ _ _ _ _ _ _ _ _ _ _ _ _ _ _ _ _ _ _ _ _ _ _ _ _ _ _ _ _ _ _ _ _ _ _ _ _ _ _ _ _ _ _ _ _ _ _ _ _ _ _ _ _ _ _ _ _ _ _ _ _ _ _ _ _ _ _ _ _ _ _ _ _ _ _ _ _ _ _ _ _ _ _ _ _ _ _ _ _ _ _ _ _ _ _ _ _ _ _ _ _ _ _ _ _ _ _ _ _ _ _ _ _ _ _ _ _ _ _ _ _ _ _ _ _ _ _ _ _ _ _ _ _ _ _ _ _ _ _ _ _ _ _ _ _ _ _ _ _ _ _ _ _ _ _ _ _ _ _ _ _ _ _ _ _ _ _ _ _ _ _ _ _ _ _ _ _ _ _ _ _ _ _ _ _ _ _ _ _ _ _ _ _ _ _ _ _ _ _ _ _ _ _ (by assumption) (by assumption) (by assumption) (labsOf_len t) (by assumption)
end Go.Proofs.Ytmphajfhilpgeab
