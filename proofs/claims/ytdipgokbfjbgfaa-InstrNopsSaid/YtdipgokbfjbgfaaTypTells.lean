/-
  leb.U and leb.S, told as TellsU, TellsS. Condition: the slice leads to bytes.
-/
import Derived.Test.YtdipgokbfjbgfaaTypPlain
import Derived.Test.YtdipgokbfjbgfaaLebS
namespace Go.Proofs.Ytdipgokbfjbgfaa.Typ
open Go.RowKit Leb

theorem U_below (A : Option Addr) (l : List Nat) (cap B n : Nat) (w : World) (hb : Bytes w B A l) (h0 : 1 ≤ n) (h64 : n ≤ 64) :
    Calls Try.prog 76 #[.slice A l.length cap, .int .i64 (n : Int)] w (TellsU w (uRes l n)) :=
  (U_any A l cap B n w hb h0 h64).mono fun _ _ ⟨h, m, e⟩ => ⟨h, by subst e; exact below_drewN (Below.refl _ _) m⟩
theorem S_below (A : Option Addr) (l : List Nat) (cap B n : Nat) (w : World) (hb : Bytes w B A l) (h0 : 1 ≤ n) (h64 : n ≤ 64) :
    Calls Try.prog 77 #[.slice A l.length cap, .int .i64 (n : Int)] w (TellsS w (sRes l n)) :=
  (S_any A l cap B n w hb h0 h64).mono fun _ _ ⟨h, m, e⟩ => ⟨h, by subst e; exact below_drewN (Below.refl _ _) m⟩
end Go.Proofs.Ytdipgokbfjbgfaa.Typ
