import Derived.Test.YtbifmhbkmnofiaaRc
namespace Go.Proofs.Ytbifmhbkmnofiaa
open Go.RowKit
end Go.Proofs.Ytbifmhbkmnofiaa
