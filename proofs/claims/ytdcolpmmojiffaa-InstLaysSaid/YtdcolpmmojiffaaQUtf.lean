/-
  UtfMath: Plain arithmetic of characters in UTF-8: which bytes are forms of characters, one behind the other; the reference's way (read, and written again) is the same. No condition but those that each lemma names; nothing of the program.
  UtfRef: trammelref02.size, trammelref02.form: what each comes to. Conditions: a byte; a number below 2^21.
  UtfValid: trammelref02.Valid: it tells whether a text's bytes are forms of characters. Condition: the text has at most 2^40 bytes.
  UtfBytes: trammelref02.Bytes, and append of a text onto owned bytes: what each comes to. Condition: the text has at most 2^40 bytes.
  UtfName: trammelref02.Name: what it comes to. Condition: the bytes lie in memory as a slice's cells, and are at most 2^40.
-/
import Derived.WalkKit
import Derived.Test.YtdcolpmmojiffaaQLeb
import Derived.Lib.ConvBytes
import Derived.Deep.RegionWith
import Derived.Deep.RegionHeld3
import Derived.Deep.QuietTactic
import Derived.BigQuiet
import Derived.Lib.AppendStr
import Derived.Laws.BytesArg
namespace Go.Proofs.Ytdcolpmmojiffaa.Utf

def oneOf (n a b c d : Nat) : Nat :=
  if n = 0 then 0
  else if a < 128 then 1
  else if a < 194 then 0
  else if a < 224 then (if 2 ≤ n ∧ 128 ≤ b ∧ b < 192 then 2 else 0)
  else if a < 240 then (if 3 ≤ n ∧ 128 ≤ b ∧ b < 192 ∧ 128 ≤ c ∧ c < 192 ∧ (a = 224 → 160 ≤ b) ∧ (a = 237 → b < 160) then 3 else 0)
  else if a < 245 then (if 4 ≤ n ∧ 128 ≤ b ∧ b < 192 ∧ 128 ≤ c ∧ c < 192 ∧ 128 ≤ d ∧ d < 192 ∧ (a = 240 → 144 ≤ b) ∧ (a = 244 → b < 144) then 4 else 0)
  else 0
def one (l : List Nat) : Nat := oneOf l.length (l.getD 0 0) (l.getD 1 0) (l.getD 2 0) (l.getD 3 0)
end Go.Proofs.Ytdcolpmmojiffaa.Utf
namespace Go.Proofs.Ytdcolpmmojiffaa.Utf
open Go.RowKit Go.Proofs.Ytdcolpmmojiffaa.Leb

end Go.Proofs.Ytdcolpmmojiffaa.Utf
namespace Go.Proofs.Ytdcolpmmojiffaa.Utf
open Go.RowKit Go.Proofs.Ytdcolpmmojiffaa.Leb

def bl (s : ByteArray) : List Nat := s.data.toList.map UInt8.toNat
def lenOf : Value → Nat
  | .slice _ n _ => n
  | _ => 0
end Go.Proofs.Ytdcolpmmojiffaa.Utf
namespace Go.Proofs.Ytdcolpmmojiffaa.Utf
open Go.RowKit Go.Proofs.Ytdcolpmmojiffaa.Leb

section
variable {w : World} {ops : Array Oper} {rest : List Oper} {o : Oper} {a : Act} {Q : Exit → Act → World → Prop}
end
end Go.Proofs.Ytdcolpmmojiffaa.Utf
namespace Go.Proofs.Ytdcolpmmojiffaa.Utf
open Go.RowKit Go.Proofs.Ytdcolpmmojiffaa.Leb

def strOf (l : List Nat) : ByteArray := strOfNums (l.map fun x : Nat => (x : Int))
theorem bl_strOf (l : List Nat) (h : ∀ x ∈ l, x < 256) : bl (strOf l) = l := by
  unfold bl strOf
  rw [strOfNums_data, List.map_map, List.map_map]
  conv => rhs; rw [← List.map_id l]
  apply List.map_congr_left
  intro x hx
  have := h x hx
  simp [Function.comp, UInt8.toNat_ofNat']
  omega
theorem conv_str {w : World} {B : Nat} {b off : Nat} {l : List Nat} (hb : Bytes w B (some ⟨b, off, none⟩) l) (cap : Nat) :
    (convert 22 9 (.slice (some ⟨b, off, none⟩) l.length cap)).run Try.prog w = .ok (.string (strOf l)) w := by
  refine run_convert_bytes_arg w 22 5 Try.underlying22 Try.underlying5 b off l.length cap _ (by simp) ?_ 9 Try.underlying9
  intro i hi
  obtain ⟨b', off', he, _, hc⟩ := hb.2 (by omega)
  injection he with he
  injection he with h1 h2
  subst h1; subst h2
  rw [hc i hi]
  simp [List.getD, hi]
end Go.Proofs.Ytdcolpmmojiffaa.Utf
