import Derived.Shelf.Lay
import Derived.Shelf.LaySoft
import Derived.Shelf.Spec.TrailingZeros
import Derived.Shelf.Small.Bits
import Derived.Test.YtnhdgellckcnbaaDoorProg
