/-
  trammelref02.size, trammelref02.form: what each comes to. Conditions: a byte; a number below 2^21.
-/
import Derived.Test.YtelcoeeijkainaaDoorLebOwn
import Derived.Test.YtelcoeeijkainaaDoorLebPut
import Derived.Test.YtelcoeeijkainaaDoorUtfMath
namespace Go.Proofs.YtelcoeeijkainaaDoor.Utf
open Go.RowKit Go.Proofs.YtelcoeeijkainaaDoor.Leb

set_option maxHeartbeats 2000000 in
set_option maxRecDepth 100000 in
theorem size_any (a : Nat) (w : World) (h : a < 256) : Calls Tryd.prog 16 #[.int .u8 (a : Int)] w fun e w' => e = .returned (.int .i64 ((rsize a : Nat) : Int)) ∧ w = w' := by
  unfold rsize
  by_cases c1 : a < 128
  · rw [if_pos c1]
    go_enter Tryd.func16, Tryd.ntmps16
    go_wp2
    go_ret
    exact ⟨rfl, rfl⟩
  rw [if_neg c1]
  have c1' : ¬ (a : Int) < 128 := by omega
  by_cases c2 : a < 192
  · have c2' : ¬ (192 : Int) ≤ a := by omega
    rw [if_pos c2]
    go_enter Tryd.func16, Tryd.ntmps16
    go_wp2
    go_ret
    exact ⟨rfl, rfl⟩
  rw [if_neg c2]
  by_cases c3 : a < 224
  · rw [if_pos c3]
    go_enter Tryd.func16, Tryd.ntmps16
    go_wp2
    go_ret
    exact ⟨rfl, rfl⟩
  rw [if_neg c3]
  by_cases c4 : a < 240
  · rw [if_pos c4]
    go_enter Tryd.func16, Tryd.ntmps16
    go_wp2
    go_ret
    exact ⟨rfl, rfl⟩
  rw [if_neg c4]
  by_cases c5 : a < 248
  · rw [if_pos c5]
    go_enter Tryd.func16, Tryd.ntmps16
    go_wp2
    go_ret
    exact ⟨rfl, rfl⟩
  · rw [if_neg c5]
    go_enter Tryd.func16, Tryd.ntmps16
    go_wp2
    go_ret
    exact ⟨rfl, rfl⟩
/-- A literal list of bytes in new memory, as what a call gives. -/
theorem gives_lit (w : World) (l : List Nat) (hl : ∀ x ∈ l, x < 256) (hn : l.length ≤ 4) :
    GivesB w l l.length (.returned (.slice (some ⟨w.heap.size, 0, none⟩) l.length l.length)) (w.alloc (.cells ((l.map bv).toArray) 5)) := by
  have ho : Own (w.alloc (.cells ((l.map bv).toArray) 5)) w.heap.size (.slice (some ⟨w.heap.size, 0, none⟩) l.length l.length) l := by
    have h := World.ownsRow_lit (base := w.heap.size) (e := 5) (size := 1) w ((l.map bv).toArray) l.length (Nat.le_refl _) (by simp only [maxLen]; omega) (by simp)
    simpa [Own] using h
  obtain ⟨A, c, hv, hb, _, _⟩ := ho.bytes hl
  have hA : A = some ⟨w.heap.size, 0, none⟩ := by injection hv with h1; exact h1.symm
  subst hA
  exact ⟨_, _, rfl, ho, hb, (fun h => by cases h), Nat.le_refl _, (Below.refl _ _).alloc (Nat.le_refl _) _⟩
theorem rform_byte (c : Nat) (h : c < 2097152) : ∀ x ∈ rform c, x < 256 := by
  intro x hx
  unfold rform at hx
  split at hx
  · simp at hx; omega
  · split at hx
    · simp at hx; omega
    · split at hx
      · simp at hx; omega
      · simp at hx; omega
set_option maxHeartbeats 2000000 in
set_option maxRecDepth 100000 in
theorem form_any (c : Nat) (w : World) (h : c < 2097152) : Calls Tryd.prog 17 #[.int .i64 (c : Int)] w (GivesB w (rform c) (rform c).length) := by
  have hb := rform_byte c h
  by_cases c1 : c < 128
  · have hf : rform c = [c] := if_pos c1
    have hg := gives_lit w (rform c) hb (by rw [hf]; simp)
    rw [hf] at hg ⊢
    have HG := Lib.hid hg
    have hw : (c : Int) % 256 = (c : Int) := by omega
    clear hg hf hb
    go_enter Tryd.func17, Tryd.ntmps17
    go_wp2
    go_ret
    exact HG.out
  have c1' : ¬ (c : Int) < 128 := by omega
  by_cases c2 : c < 2048
  · have hf : rform c = [192 + c / 64, 128 + c % 64] := by unfold rform; rw [if_neg c1, if_pos c2]
    have hg := gives_lit w (rform c) hb (by rw [hf]; simp)
    rw [hf] at hg ⊢
    obtain ⟨x, hx⟩ : ∃ x, x = 192 + c / 64 := ⟨_, rfl⟩
    obtain ⟨y, hy⟩ : ∃ y, y = 128 + c % 64 := ⟨_, rfl⟩
    rw [← hx, ← hy] at hg ⊢
    have hxi : (192 : Int) + (c : Int) / 64 = (x : Int) := by omega
    have hyi : (128 : Int) + (c : Int) % 64 = (y : Int) := by omega
    have hx1 : x < 256 := by omega
    have hy1 : y < 256 := by omega
    have HG := Lib.hid hg
    clear hg hf hb hx hy
    go_enter Tryd.func17, Tryd.ntmps17
    go_wp2
    go_ret
    exact HG.out
  have c2' : ¬ (c : Int) < 2048 := by omega
  by_cases c3 : c < 65536
  · have hf : rform c = [224 + c / 4096, 128 + c / 64 % 64, 128 + c % 64] := by unfold rform; rw [if_neg c1, if_neg c2, if_pos c3]
    have hg := gives_lit w (rform c) hb (by rw [hf]; simp)
    rw [hf] at hg ⊢
    obtain ⟨x, hx⟩ : ∃ x, x = 224 + c / 4096 := ⟨_, rfl⟩
    obtain ⟨z, hz⟩ : ∃ z, z = 128 + c / 64 % 64 := ⟨_, rfl⟩
    obtain ⟨y, hy⟩ : ∃ y, y = 128 + c % 64 := ⟨_, rfl⟩
    rw [← hx, ← hy, ← hz] at hg ⊢
    have hxi : (224 : Int) + (c : Int) / 4096 = (x : Int) := by omega
    have hzi : (128 : Int) + (c : Int) / 64 % 64 = (z : Int) := by omega
    have hyi : (128 : Int) + (c : Int) % 64 = (y : Int) := by omega
    have hx1 : x < 256 := by omega
    have hz1 : z < 256 := by omega
    have hy1 : y < 256 := by omega
    have HG := Lib.hid hg
    have c3' : (c : Int) < 65536 := by omega
    clear hg hf hb hx hy hz c3 h
    go_enter Tryd.func17, Tryd.ntmps17
    go_wp2
    go_ret
    exact HG.out
  · have c3' : ¬ (c : Int) < 65536 := by omega
    have hf : rform c = [240 + c / 262144, 128 + c / 4096 % 64, 128 + c / 64 % 64, 128 + c % 64] := by unfold rform; rw [if_neg c1, if_neg c2, if_neg c3]
    have hg := gives_lit w (rform c) hb (by rw [hf]; simp)
    rw [hf] at hg ⊢
    obtain ⟨x, hx⟩ : ∃ x, x = 240 + c / 262144 := ⟨_, rfl⟩
    obtain ⟨u, hu⟩ : ∃ u, u = 128 + c / 4096 % 64 := ⟨_, rfl⟩
    obtain ⟨z, hz⟩ : ∃ z, z = 128 + c / 64 % 64 := ⟨_, rfl⟩
    obtain ⟨y, hy⟩ : ∃ y, y = 128 + c % 64 := ⟨_, rfl⟩
    rw [← hx, ← hy, ← hz, ← hu] at hg ⊢
    have hxi : (240 : Int) + (c : Int) / 262144 = (x : Int) := by omega
    have hui : (128 : Int) + (c : Int) / 4096 % 64 = (u : Int) := by omega
    have hzi : (128 : Int) + (c : Int) / 64 % 64 = (z : Int) := by omega
    have hyi : (128 : Int) + (c : Int) % 64 = (y : Int) := by omega
    have hx1 : x < 256 := by omega
    have hu1 : u < 256 := by omega
    have hz1 : z < 256 := by omega
    have hy1 : y < 256 := by omega
    have HG := Lib.hid hg
    have h' : (c : Int) < 2097152 := by omega
    clear hg hf hb hx hy hz hu c3 h
    go_enter Tryd.func17, Tryd.ntmps17
    go_wp2
    go_ret
    exact HG.out
end Go.Proofs.YtelcoeeijkainaaDoor.Utf
