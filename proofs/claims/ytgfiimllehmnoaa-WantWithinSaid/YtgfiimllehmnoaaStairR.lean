
/- Contracts of layer 22: the document's answers. -/
import Derived.Test.YtgfiimllehmnoaaStairC
namespace Go.Proofs.Ytgfiimllehmnoaa.Stair
open Go.ChangeShapes Go.WideShapes Go.ChangeAt Go.RowKit
open NumM NumA Mem Arr

end Go.Proofs.Ytgfiimllehmnoaa.Stair
