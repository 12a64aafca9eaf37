/-
  trammellaw04.awake answers true, if pack's functions answer as the reference's do. Condition: that premise.
-/
import Derived.Test.YtaagingcjmkcdaaPackRef
import Derived.Test.YtaagingcjmkcdaaLebSame
namespace Go.Proofs.Ytaagingcjmkcdaa.Pack
open Go.RowKit Leb

theorem bytes_two (w : World) (x y : Nat) (hx : x < 256) (hy : y < 256) (t : TypeId) : Bytes (w.alloc (.cells #[.int .u8 (x : Int), .int .u8 (y : Int)] t)) (w.heap.size + 1) (some ⟨w.heap.size, 0, none⟩) [x, y] := by
  refine ⟨by intro z hz; simp at hz; omega, fun _ => ⟨w.heap.size, 0, rfl, by omega, fun j hj => ?_⟩⟩
  match j, hj with
  | 0, _ => simp
  | 1, _ => simp
theorem awake_load : ldVal 44 [128] = (4294967168, true) := by decide
theorem awake_store : stVal 59 74565 = ([69, 35], true) := by decide
theorem same_yes {A A' : Option Addr} {l : List Nat} {k k' c c' B B' : Nat} {w : World} (hb : Bytes w B A l) (hb' : Bytes w B' A' l) (hk : l.length = k) (hk' : l.length = k') (hlen : k ≤ 140737488355328) :
    Calls Try.prog 14 #[.slice A k c, .slice A' k' c'] w fun e w' => e = .returned (.bool true) ∧ ∃ m, w' = w.drewN m := by
  subst hk hk'
  have := same_is A A' l l c c' B B' w hb hb' hlen hlen
  simpa using this
section
variable {T : World → Prop} (D : Does T)
include D
set_option maxHeartbeats 1000000 in
theorem awake_any (w : World) (hT : T w) : Calls Try.prog 7 #[] w fun e w' => e = .returned (.bool true) ∧ Below w.heap.size w w' := by
  have hal : Below w.heap.size w (w.alloc (.cells #[.int .u8 ((128 : Nat) : Int)] 5)) := (Below.refl _ _).alloc (Nat.le_refl _) _
  have hL := D.load 44 (some ⟨w.heap.size, 0, none⟩) [128] 1 _ ⟨by omega, by omega⟩ (by simpa using bytes_one w 128 (by omega) 5) (fun h => by cases h) (by simp) (by simp) (D.keep _ _ hT hal)
  rw [awake_load] at hL
  have HL := Lib.hid hL
  have HS := Lib.hid (fun W hW => D.store 59 74565 2 W ⟨by omega, by omega⟩ (by omega) (by rw [awake_store]; rfl) hW)
  rw [awake_store] at HS
  have HK := Lib.hid D.keep
  have HAL := Lib.hid hal
  clear D hL hal
  go_enter Try.func7, Try.ntmps7
  go_wp2_with fail
  refine HL.out.mono ?_
  rintro e w1 ⟨rfl, hb1⟩
  have hb2 := HAL.out.trans (hb1.mono HAL.out.size)
  go_wp2_with fail
  refine (HS.out _ (HK.out _ _ hT hb2)).mono ?_
  rintro e w3 ⟨A3, c3, rfl, hby3, hn3, hk3, hb3⟩
  have hb4 := hb2.trans (hb3.mono hb2.size)
  clear hb1 hb2 hb3 HAL HL HS HK hT
  go_wp2_with fail
  refine (same_yes (hby3.below ((Below.refl _ _).alloc (Nat.le_refl _) _)) (bytes_two _ 69 35 (by omega) (by omega) _) rfl rfl (by simp)).mono ?_
  rintro e w' ⟨rfl, m, rfl⟩
  go_wp2
  go_ret
  exact ⟨rfl, below_drewN (hb4.alloc hb4.size _) m⟩
end
end Go.Proofs.Ytaagingcjmkcdaa.Pack
