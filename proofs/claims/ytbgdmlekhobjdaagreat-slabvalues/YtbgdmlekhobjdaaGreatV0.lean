/- Floats: contracts under names of their own. Own work of the verifier. -/
import Derived.Test.YtbgdmlekhobjdaaGreatPG
import Derived.Test.YtbgdmlekhobjdaaGreatWL
namespace Go.Proofs.YtbgdmlekhobjdaaGreat.Pr
open Go.RowKit Soft

theorem zcmp (x y : Nat) (hx : x < 18446744073709551616) (hy : y < 18446744073709551616) (w : World) : Calls Tryz.prog 44 #[.float .f64 x, .float .f64 y] w fun e w' => e = .returned (.int .i64 (sg (rk x) (rk y))) ∧ w' = w := refcmp_any x y hx hy w
theorem zsame (x y : Nat) (hx : x < 18446744073709551616) (hy : y < 18446744073709551616) (w : World) : Calls Tryz.prog 34 #[.int .u64 (x : Int), .int .u64 (y : Int)] w fun e w' => e = .returned (.bool (decide (Soft.one x = Soft.one y))) ∧ w' = w := same_any x y hx hy w
theorem zmerge (s c u d : Nat) (hs : s < 18446744073709551616) (hc : c < 18446744073709551616) (hu : u < 18446744073709551616) (hd : d < 18446744073709551616) (w : World) :
    Calls Tryz.prog 27 #[.agg #[.int .u64 (s : Int), .int .u64 (c : Int)], .agg #[.int .u64 (u : Int), .int .u64 (d : Int)]] w fun e w' => e = .returned (.agg #[.int .u64 (Soft.fa s u : Nat), .int .u64 (Soft.fa (Soft.fa c d) (Soft.fl s u) : Nat)]) ∧ Below w.heap.size w w' := refmerge_any s c u d hs hc hu hd w
theorem ztotal (s c : Nat) (hs : s < 18446744073709551616) (hc : c < 18446744073709551616) (w : World) :
    Calls Tryz.prog 36 #[.agg #[.int .u64 (s : Int), .int .u64 (c : Int)]] w fun e w' => e = .returned (.int .u64 (Soft.fa s c : Nat)) ∧ Below w.heap.size w w' := reftotal_any s c hs hc w
theorem zptotal (a c : Nat) (ha : a < 18446744073709551616) (hc : c < 18446744073709551616) (w : World) :
    Calls Tryz.prog 37 #[.complex .f64 a c] w fun e w' => ∃ r n, e = .returned (.float .f64 r) ∧ w' = w.drewN n ∧ r < 18446744073709551616 ∧ Soft.one r = Soft.fa a c := ptotal_any a c ha hc w
end Go.Proofs.YtbgdmlekhobjdaaGreat.Pr
namespace Go.Proofs.YtbgdmlekhobjdaaGreat
open Go.RowKit

theorem zadd (ah al bh bl : Int) (h1 : Wf ah al) (h2 : Wf bh bl) (w : World) :
    Calls Tryz.prog 25 #[.agg #[.int .i64 ah, .int .u64 al], .agg #[.int .i64 bh, .int .u64 bl]] w fun e w' => e = .returned (num (rnd (val ah al + val bh bl))) ∧ Below w.heap.size w w' := refadd_any ah al bh bl h1 h2 w
end Go.Proofs.YtbgdmlekhobjdaaGreat
