/-
  ModThing: Readers in plain words: an import, a global, an export, a segment of data. No condition; nothing of the program.
-/
import Derived.Test.YtdcolpmmojiffaaQModBase
namespace Go.Proofs.Ytdcolpmmojiffaa.Mod
open Go.RowKit Leb

end Go.Proofs.Ytdcolpmmojiffaa.Mod
