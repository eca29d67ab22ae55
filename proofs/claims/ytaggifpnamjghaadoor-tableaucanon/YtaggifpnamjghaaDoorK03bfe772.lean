import Derived.Test.YtaggifpnamjghaaDoorK49e7c198
namespace Go.Proofs.YtaggifpnamjghaaDoor.Tbl
open Go.RowKit Go.Shelf Go.Proofs.YtaggifpnamjghaaDoor.Pau Go.Proofs.YtaggifpnamjghaaDoor.Gt
def loI (t : TT) (p : P) : Int := if lsB t p = true then (lsI t p : Int) else -1
end Go.Proofs.YtaggifpnamjghaaDoor.Tbl
