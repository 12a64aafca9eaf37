/-
  ModBase: Readers in plain words: a value's type, limits, a function's type, a body, a name: each as the layers below read it; what may be put is read, what is read may be put, in no more bytes. No condition; nothing of the program.
-/
import Derived.Test.YtdcolpmmojiffaaQModGen
import Derived.Test.YtdcolpmmojiffaaQIns
import Derived.Test.YtdcolpmmojiffaaQTyp
import Derived.Test.YtdcolpmmojiffaaQUtf
namespace Go.Proofs.Ytdcolpmmojiffaa.Mod
open Go.RowKit Leb

end Go.Proofs.Ytdcolpmmojiffaa.Mod
