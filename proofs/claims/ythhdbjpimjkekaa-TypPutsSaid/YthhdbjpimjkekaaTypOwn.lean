/-
  typ's functions answer as the reference's do. No condition.
-/
import Derived.Test.YthhdbjpimjkekaaTypOwnLim
import Derived.Test.YthhdbjpimjkekaaTypOwnBlock
import Derived.Test.YthhdbjpimjkekaaTypOwnPut2
import Derived.Test.YthhdbjpimjkekaaTypPutsLaw
import Derived.Test.YthhdbjpimjkekaaTypCutLaw
import Derived.Test.YthhdbjpimjkekaaTypOpen
namespace Go.Proofs.Ythhdbjpimjkekaa.Typ
open Go.RowKit Leb

theorem does : Does (fun _ => True) where
  keep := fun _ _ _ _ => trivial
  val := fun A l c w hs _ _ => oval_any A l c _ w hs.bytes
  func := fun A l c w hs hl _ => ofunc_any A l c w hs.bytes hs.room hl
  limits := fun A l c w hs hl _ => olim_any A l c w hs.bytes hs.room hl
  block := fun A l c w hs _ _ => oblock_any A l c w hs.bytes
  putFunc := fun A l c k v ps rs w hs hl hv _ _ hk _ => oputf_any A l c k v ps rs w hs hl hv hk
  putLimits := fun A l c k a b cap w hs hl _ _ hk _ => oputl_any A l c k a b cap w hs hl hk
  putBlock := fun A l c k t w hs hl ht hk _ => oputb_any A l c k t w hs hl ht hk
end Go.Proofs.Ythhdbjpimjkekaa.Typ
