
/- The walk of wide.Gcd. -/
import Derived.Test.YticcpcejdndplaaWideCalls
namespace Go.Proofs.Yticcpcejdndplaa
open Go.RowKit


end Go.Proofs.Yticcpcejdndplaa
