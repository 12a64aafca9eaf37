/-
  ModMod: Modules in plain words: what bytes say, section by section; the one form in which a module is put; what was put is read. No condition; nothing of the program.
-/
import Derived.Test.YtdcolpmmojiffaaQModCode
namespace Go.Proofs.Ytdcolpmmojiffaa.Mod
open Go.RowKit Leb Sec

end Go.Proofs.Ytdcolpmmojiffaa.Mod
