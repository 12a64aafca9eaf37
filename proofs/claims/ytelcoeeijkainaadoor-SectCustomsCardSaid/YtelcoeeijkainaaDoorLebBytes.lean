/-
  Bytes in memory: what a slice of bytes that came in reads as; cut, and behind a call that changes nothing that was there. Conditions as each lemma says.
-/
import Derived.Test.YtelcoeeijkainaaDoorLebBase
import Derived.OpenShut
namespace Go.Proofs.YtelcoeeijkainaaDoor.Leb
open Go.RowKit

theorem below_drewN {B : Nat} {a w : World} (h : Below B a w) (n : Nat) : Below B a (w.drewN n) := ⟨h.os, h.tape, h.output, h.size, h.block⟩

/-- A slice of integers that came in: nil, or a row of 'cap' cells 'zs', each fitting its kind. -/
def RowIn (k : IntKind) (w : World) (a : Option Addr) (len cap : Nat) (zs : List Int) : Prop :=
  (a = none ∧ len = 0 ∧ cap = 0 ∧ zs = []) ∨
  ∃ x, a = some x ∧ len ≤ cap ∧ cap ≤ maxLen ∧ zs.length = cap ∧ (∀ i, i < zs.length → w.cell? (x.add i) = some (.int k (zs.getD i 0))) ∧ ∀ n ∈ zs, (Lit.int k n).wf = true

theorem bytes_of_row {w : World} {a : Option Addr} {len cap : Nat} {zs : List Int} (h : RowIn .u8 w a len cap zs) :
    ∃ l : List Nat, l.length = len ∧ Bytes w w.heap.size a l ∧ len ≤ cap ∧ cap ≤ maxLen := by
  rcases h with ⟨rfl, rfl, rfl, rfl⟩ | ⟨x, rfl, hl, hm, hz, hcell, hwf⟩
  · exact ⟨[], rfl, ⟨by simp, by simp⟩, Nat.le_refl _, by simp [maxLen]⟩
  · have hb : ∀ n ∈ zs, 0 ≤ n ∧ n ≤ 255 := by
      intro n hn
      have := bounds_u8 (hwf n hn)
      omega
    refine ⟨(zs.take len).map Int.toNat, by simp; omega, ⟨?_, ?_⟩, hl, hm⟩
    · intro y hy
      obtain ⟨n, hn, rfl⟩ := List.mem_map.1 hy
      have := hb n (List.mem_of_mem_take hn)
      omega
    · intro hlen
      have hlen' : 0 < len := by simp at hlen; omega
      have h0 := hcell 0 (by omega)
      obtain ⟨b, off, spot⟩ := x
      have hspot : spot = none := by simpa [Addr.add] using World.cell?_spot h0
      subst hspot
      have hblk : b < w.heap.size := by
        have := World.block_lt_of_cell? w _ h0
        simpa [Addr.add] using this
      refine ⟨b, off, rfl, hblk, ?_⟩
      intro j hj
      have hj' : j < len ∧ j < zs.length := by simp at hj; omega
      have hc := hcell j hj'.2
      have hn := hb _ (List.getElem_mem hj'.2)
      have e1 : zs.getD j 0 = zs[j] := by simp [List.getD, List.getElem?_eq_getElem hj'.2]
      rw [e1] at hc
      have e2 : ((((zs.take len).map Int.toNat)[j] : Nat) : Int) = zs[j] := by simp; omega
      rw [e2]
      by_cases h0 : j = 0
      · subst h0; simpa [Addr.add] using hc
      · simpa [Addr.add, h0] using hc
theorem row_nil {k : IntKind} {w : World} {a : Option Addr} {len cap : Nat} {zs : List Int} (h : RowIn k w a len cap zs) : a = none → cap = 0 := by
  rcases h with ⟨_, _, h, _⟩ | ⟨x, rfl, _⟩
  · exact fun _ => h
  · intro h; cases h
theorem Bytes.take {w : World} {B : Nat} {A : Option Addr} {l : List Nat} (h : Bytes w B A l) (k : Nat) : Bytes w B A (l.take k) := by
  refine ⟨fun x hx => h.1 x (List.mem_of_mem_take hx), fun hl => ?_⟩
  have hl' : 0 < l.length := by simp at hl; omega
  obtain ⟨b, off, e, hb, hc⟩ := h.2 hl'
  refine ⟨b, off, e, hb, fun j hj => ?_⟩
  have hj' : j < l.length := by simp at hj; omega
  rw [hc j hj']
  simp
theorem Bytes.below {w w' : World} {B : Nat} {A : Option Addr} {l : List Nat} (h : Bytes w B A l) (hb : Below B w w') : Bytes w' B A l := by
  refine ⟨h.1, fun hl => ?_⟩
  obtain ⟨b, off, e, hB, hc⟩ := h.2 hl
  exact ⟨b, off, e, hB, fun j hj => (hb.cell hB).trans (hc j hj)⟩
theorem Bytes.drewN {w : World} {B : Nat} {A : Option Addr} {l : List Nat} (h : Bytes w B A l) (n : Nat) : Bytes (w.drewN n) B A l := h
theorem Bytes.more {w : World} {B B' : Nat} {A : Option Addr} {l : List Nat} (h : Bytes w B A l) (hB : B ≤ B') : Bytes w B' A l :=
  ⟨h.1, fun hl => by
    obtain ⟨b, off, e, hb, hc⟩ := h.2 hl
    exact ⟨b, off, e, by omega, hc⟩⟩
end Go.Proofs.YtelcoeeijkainaaDoor.Leb
