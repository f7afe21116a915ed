/-
  Free of package space.
-/
import Derived.Test.YtdpaffnpedcmpaaSpaceAll
namespace Go.Proofs.Ytdpaffnpedcmpaa
open Go.RowKit

end Go.Proofs.Ytdpaffnpedcmpaa
