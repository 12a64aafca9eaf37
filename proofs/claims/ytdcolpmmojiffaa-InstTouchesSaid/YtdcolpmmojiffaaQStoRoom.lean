/-
  StoRoom: The given room: whether the places lie within so many. Conditions: numbers of 64 bits, a length that memory holds.
-/
import Derived.Test.YtdcolpmmojiffaaQStoSame
namespace Go.Proofs.Ytdcolpmmojiffaa.Sto
open Go.RowKit Leb Typ

end Go.Proofs.Ytdcolpmmojiffaa.Sto
