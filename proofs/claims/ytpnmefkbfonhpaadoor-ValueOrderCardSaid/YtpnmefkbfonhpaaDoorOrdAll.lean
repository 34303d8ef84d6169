/- The walk of the statement on the order of values, whatever the two values are. -/
import Derived.Test.YtpnmefkbfonhpaaDoorOrdA
import Derived.Test.YtpnmefkbfonhpaaDoorOrdB
import Derived.Test.YtpnmefkbfonhpaaDoorOrdlt
import Derived.Test.YtpnmefkbfonhpaaDoorOrdeq
import Derived.Test.YtpnmefkbfonhpaaDoorOrdgt
namespace Go.Proofs.YtpnmefkbfonhpaaDoor
open Go.RowKit

theorem vorder_any (n f m g : Int) (w : World) (hn : B64 n) (hm : B64 m) (hE : EnvV w) :
    Calls Tryd.prog 5 #[.agg #[.int .i64 n, .int .i64 f], .agg #[.int .i64 m, .int .i64 g]] w fun e w' => e = .returned (.bool true) ∧ Below w.heap.size w w' := by
  by_cases hf : f = 0
  · subst hf
    by_cases hg : g = 0
    · subst hg
      rcases Int.lt_trichotomy n m with h | h | h
      · exact vorder_lt n m h w hn hm hE
      · subst h; exact vorder_eq n w hn hE
      · exact vorder_gt n m h w hn hm hE
    · exact vorder_B n m g hg w hn hm hE
  · exact vorder_A n f m g hf w hn hm hE
end Go.Proofs.YtpnmefkbfonhpaaDoor
