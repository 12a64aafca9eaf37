/-
  StoSlc: A slice of bytes cut at a place that an unsigned number of 64 bits names, as one fact. Conditions: as each lemma says; nothing of the program but its types.
-/
import Derived.Test.YtdcolpmmojiffaaQStoMem
namespace Go.Proofs.Ytdcolpmmojiffaa.Sto
open Go.RowKit Leb

structure Slc (w : World) (B : Nat) (A : Option Addr) (c : Nat) (l : List Nat) : Prop where
  bytes : Bytes w B A l
  nil : A = none → c = 0
  room : l.length ≤ c
theorem Slc.below {w w' : World} {B : Nat} {A : Option Addr} {c : Nat} {l : List Nat} (h : Slc w B A c l) (hb : Below B w w') : Slc w' B A c l := ⟨h.bytes.below hb, h.nil, h.room⟩
theorem Slc.more {w : World} {B B' : Nat} {A : Option Addr} {c : Nat} {l : List Nat} (h : Slc w B A c l) (hB : B ≤ B') : Slc w B' A c l := ⟨h.bytes.more hB, h.nil, h.room⟩
theorem bytes_from {w : World} {B b off : Nat} {l : List Nat} (h : Bytes w B (some ⟨b, off, none⟩) l) (k : Nat) : Bytes w B (some ⟨b, off + k, none⟩) (l.drop k) := by
  refine ⟨fun x hx => h.1 x (List.mem_of_mem_drop hx), fun hl => ?_⟩
  have hl' : k < l.length := by simp at hl; omega
  obtain ⟨b', off', e, hb, hc⟩ := h.2 (by omega)
  injection e with e
  injection e with e1 e2 _
  subst e1 e2
  refine ⟨b, off + k, rfl, hb, fun j hj => ?_⟩
  have := hc (k + j) (by simp at hj; omega)
  rw [List.getElem_drop, show off + k + j = off + (k + j) from by omega]
  exact this
set_option maxRecDepth 100000 in
theorem slice_to (A : Option Addr) (l : List Nat) (c p q B : Nat) (w : World) (hs : Slc w B A c l) (hp : p ≤ q) (hq : q ≤ l.length) :
    ∃ A' c', (∀ W, (Instr.slice 22 (.slice A l.length c) (some (.int .u64 (p : Int))) (some (.int .u64 (q : Int))) none).run Try.prog W = .ok (.slice A' (q - p) c') W) ∧ (∀ W, Slc W B A c l → Slc W B A' c' ((l.drop p).take (q - p))) := by
  have hn := hs.nil
  have hr := hs.room
  have hsz : ∀ W, (sizeOf (Try.prog.elem 22)).run Try.prog W = .ok 1 W := fun W => by kernel_rfl
  have key : ∀ W, (Instr.slice 22 (.slice A l.length c) (some (.int .u64 (p : Int))) (some (.int .u64 (q : Int))) none).run Try.prog W = .ok (sliced A p q c 1) W := fun W => by
    rw [run_slice_lh W 22 A l.length c (show Try.prog.underlying 22 = some (.slice (Try.prog.elem 22)) from by kernel_rfl) .u64 .u64 (p : Int) (q : Int) (by omega) (by omega) (by omega), hsz W]
    simp [Result.andThen]
  have hlen : ((l.drop p).take (q - p)).length = q - p := by simp; omega
  have hmem : ∀ W, Slc W B A c l → ∀ x ∈ (l.drop p).take (q - p), x < 256 := fun W h x hx => h.bytes.1 x (List.mem_of_mem_drop (List.mem_of_mem_take hx))
  by_cases hc : c = p
  · refine ⟨A, c - p, fun W => ?_, fun W hW => ⟨⟨hmem W hW, fun h => ?_⟩, fun h => by rw [hn h]; omega, by omega⟩⟩
    · rw [key W]; simp [sliced, hc]
    · omega
  · refine ⟨A.map (·.add p), c - p, fun W => ?_, fun W hW => ⟨?_, fun h => ?_, by omega⟩⟩
    · rw [key W]; simp [sliced, hc]
    · by_cases hl : l.length = 0
      · obtain rfl : l = [] := List.eq_nil_of_length_eq_zero hl
        simp only [List.drop_nil, List.take_nil]
        exact ⟨by simp, by simp⟩
      · obtain ⟨b, off, rfl, h2, h3⟩ := hW.bytes.2 (by omega)
        have := (bytes_from hW.bytes p).take (q - p)
        by_cases h0 : p = 0
        · subst h0; simpa [Addr.add] using this
        · simpa [Addr.add, h0] using this
    · cases A with
      | none => rw [hn rfl]; omega
      | some ad => simp at h
set_option maxRecDepth 100000 in
theorem slice_at (A : Option Addr) (l : List Nat) (c p B : Nat) (w : World) (hs : Slc w B A c l) (hp : p ≤ l.length) :
    ∃ A' c', (∀ W, (Instr.slice 22 (.slice A l.length c) (some (.int .u64 (p : Int))) none none).run Try.prog W = .ok (.slice A' (l.length - p) c') W) ∧ (∀ W, Slc W B A c l → Slc W B A' c' (l.drop p)) := by
  obtain ⟨A', c', h1, h2⟩ := slice_to A l c p l.length B w hs hp (Nat.le_refl _)
  refine ⟨A', c', fun W => ?_, fun W hW => ?_⟩
  · rw [← h1 W, run_slice_l W 22 A l.length c (show Try.prog.underlying 22 = some (.slice (Try.prog.elem 22)) from by kernel_rfl) .u64 (p : Int) (by omega) (by omega), run_slice_lh W 22 A l.length c (show Try.prog.underlying 22 = some (.slice (Try.prog.elem 22)) from by kernel_rfl) .u64 .u64 (p : Int) (l.length : Int) (by omega) (by omega) (by have := hs.room; omega)]
    simp
  · have := h2 W hW
    rwa [List.take_of_length_le (by simp)] at this
set_option maxRecDepth 100000 in
theorem slice_hi (A : Option Addr) (l : List Nat) (c q B : Nat) (w : World) (hs : Slc w B A c l) (hq : q ≤ l.length) :
    (∀ W, (Instr.slice 22 (.slice A l.length c) none (some (.int .u64 (q : Int))) none).run Try.prog W = .ok (.slice A q c) W) ∧ (∀ W, Slc W B A c l → Slc W B A c (l.take q)) := by
  have hr := hs.room
  have hsz : ∀ W, (sizeOf (Try.prog.elem 22)).run Try.prog W = .ok 1 W := fun W => by kernel_rfl
  refine ⟨fun W => ?_, fun W hW => ⟨hW.bytes.take q, hW.nil, by simp; omega⟩⟩
  rw [run_slice_h W 22 A l.length c (show Try.prog.underlying 22 = some (.slice (Try.prog.elem 22)) from by kernel_rfl) .u64 (q : Int) (by omega) (by omega), hsz W]
  cases A <;> simp [Result.andThen, sliced, Addr.add]
end Go.Proofs.Ytdcolpmmojiffaa.Sto
