/-
  ModElem: Readers in plain words: a segment of the table, in each of its eight forms, put in one of six. No condition; nothing of the program.
-/
import Derived.Test.YtdcolpmmojiffaaQModSeg
namespace Go.Proofs.Ytdcolpmmojiffaa.Mod
open Go.RowKit Leb

end Go.Proofs.Ytdcolpmmojiffaa.Mod
