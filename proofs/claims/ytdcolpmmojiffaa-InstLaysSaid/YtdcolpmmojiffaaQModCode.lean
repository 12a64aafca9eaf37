/-
  ModCode: Readers in plain words: a function's code: its locals in pairs, its body. No condition; nothing of the program.
-/
import Derived.Test.YtdcolpmmojiffaaQModElem
import Derived.Test.YtdcolpmmojiffaaQLeb
namespace Go.Proofs.Ytdcolpmmojiffaa.Mod
open Go.RowKit Leb

structure Code where
  locals : List Nat
  body : List Ins.Ins
end Go.Proofs.Ytdcolpmmojiffaa.Mod
