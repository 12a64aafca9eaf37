/-
  Bytes in memory: what a slice leads to; how endings are told. No condition; nothing of the program but its name.
-/
import Derived.Test.YtelcoeeijkainaaDoorChecked
import Derived.WalkKit
import Derived.Below
import Derived.Lib.Hide
import Derived.Outline
import Derived.IntWalk
import Derived.Deep.QuietTactic
import Derived.BigQuiet
import Derived.Deep.Draws
namespace Go.Proofs.YtelcoeeijkainaaDoor.Leb
open Go.RowKit

/-- Bytes that a slice leads to: each a cell of its own, in a block below B. -/
def Bytes (w : World) (B : Nat) (A : Option Addr) (l : List Nat) : Prop :=
  (∀ x ∈ l, x < 256) ∧ (0 < l.length → ∃ b off, A = some ⟨b, off, none⟩ ∧ b < B ∧ ∀ (j : Nat) (h : j < l.length), w.cell? ⟨b, off + j, none⟩ = some (.int .u8 (l[j] : Nat)))

theorem ret_int {k : IntKind} {a b : Int} (h : a = b) : Ending.returned (.int k a) = .returned (.int k b) := by rw [h]
theorem ret_3 {k k2 k3 : IntKind} {a b c d x y : Int} (h : a = b) (h2 : c = d) (h3 : x = y) : Ending.returned (.tuple #[.int k a, .int k2 c, .int k3 x]) = .returned (.tuple #[.int k b, .int k2 d, .int k3 y]) := by rw [h, h2, h3]
theorem same_of {P : Program} {f : FuncId} {args : Array Value} {w : World} {v : Value} (h : Calls P f args w fun e w' => e = .returned v ∧ w = w') :
    Calls P f args w fun e w' => e = .returned v ∧ w' = w := h.mono fun _ _ ⟨a, b⟩ => ⟨a, b.symm⟩

theorem ret_bool {a b : Bool} (h : a = b) : Ending.returned (.bool a) = .returned (.bool b) := by rw [h]
theorem bytes_at {w : World} {B : Nat} {A : Option Addr} {l : List Nat} (hb : Bytes w B A l) {s : Nat} (h1 : 1 ≤ s) (hl : s ≤ l.length) :
    ∃ b off, A = some ⟨b, off, none⟩ ∧ w.cell? ⟨b, off + (s - 1), none⟩ = some (.int .u8 ((l.getD (s - 1) 0 : Nat) : Int)) ∧ l.getD (s - 1) 0 < 256 := by
  obtain ⟨b, off, rfl, _, hcs⟩ := hb.2 (by omega)
  have hc := hcs (s - 1) (by omega)
  have e : l.getD (s - 1) 0 = l[s - 1]'(by omega) := by simp [List.getD, List.getElem?_eq_getElem (show s - 1 < l.length by omega)]
  rw [e]
  exact ⟨b, off, rfl, hc, hb.1 _ (List.getElem_mem _)⟩
end Go.Proofs.YtelcoeeijkainaaDoor.Leb
