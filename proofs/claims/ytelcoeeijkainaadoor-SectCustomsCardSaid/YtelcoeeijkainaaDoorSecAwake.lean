/-
  trammellaw07.awake answers true. No condition.
-/
import Derived.Test.YtelcoeeijkainaaDoorSecSplit
import Derived.Test.YtelcoeeijkainaaDoorSecJoin
namespace Go.Proofs.YtelcoeeijkainaaDoor.Sec
open Go.RowKit Leb

theorem awake_join : joinRes [⟨1, [0]⟩] = ([0, 97, 115, 109, 1, 0, 0, 0, 1, 1, 0], 0) := by decide +kernel
theorem awake_split : splitRes [0, 97, 115, 109, 1, 0, 0, 0, 1, 1, 0] = ([⟨1, [0]⟩], 0) := by
  have h := split_join [⟨1, [0]⟩] (by decide +kernel) (by decide +kernel) (by decide)
  have e : joinBytes [⟨1, [0]⟩] = [0, 97, 115, 109, 1, 0, 0, 0, 1, 1, 0] := by decide +kernel
  rwa [e] at h
/-- The literal's section. -/
theorem awake_sli (w : World) (t t8 : TypeId) : Sli ((w.alloc (.cells #[.int .u8 0] t8)).alloc (.cells #[.int .i64 1, .slice (some ⟨w.heap.size, 0, none⟩) 1 1] t)) ((w.alloc (.cells #[.int .u8 0] t8)).alloc (.cells #[.int .i64 1, .slice (some ⟨w.heap.size, 0, none⟩) 1 1] t)).heap.size (some ⟨w.heap.size + 1, 0, none⟩) 1 [⟨1, [0]⟩] := by
  have h1 := bytes_one w 0 (by omega) t8
  have hA : Below (w.heap.size + 1) (w.alloc (.cells #[.int .u8 0] t8)) ((w.alloc (.cells #[.int .u8 0] t8)).alloc (.cells #[.int .i64 1, .slice (some ⟨w.heap.size, 0, none⟩) 1 1] t)) := (Below.refl _ _).alloc (by simp) _
  have h2 := rowE_lit (w.alloc (.cells #[.int .u8 0] t8)) t [((⟨1, [0]⟩ : Sec), some ⟨w.heap.size, 0, none⟩, 1)] #[.int .i64 1, .slice (some ⟨w.heap.size, 0, none⟩) 1 1] 1 rfl rfl (by simp [maxLen])
  have h3 := secs_of (w := (w.alloc (.cells #[.int .u8 0] t8)).alloc (.cells #[.int .i64 1, .slice (some ⟨w.heap.size, 0, none⟩) 1 1] t)) (B := w.heap.size + 2) (A := some ⟨w.heap.size + 1, 0, none⟩) (es := [((⟨1, [0]⟩ : Sec), some ⟨w.heap.size, 0, none⟩, 1)]) (by simpa using h2) (fun e he => by
    have : e = ((⟨1, [0]⟩ : Sec), some ⟨w.heap.size, 0, none⟩, 1) := by simpa using he
    subst this
    exact ⟨(h1.below hA).more (by omega), Nat.le_refl _, fun h => by cases h⟩)
  refine ⟨by simpa using h3, by simp, fun h => by cases h⟩
set_option maxHeartbeats 1000000 in
set_option maxRecDepth 100000 in
theorem awake_any (w : World) : Calls Tryd.prog 4 #[] w fun e w' => e = .returned (.bool true) ∧ Below w.heap.size w w' := by
  have hJ := ojoin_any _ _ _ _ (awake_sli w 38 5) (by decide) (by decide +kernel) (by decide)
  rw [awake_join] at hJ
  have HJ := Lib.hid hJ
  have hA : Below w.heap.size w ((w.alloc (.cells #[.int .u8 0] 5)).alloc (.cells #[.int .i64 1, .slice (some ⟨w.heap.size, 0, none⟩) 1 1] 38)) := ((Below.refl _ _).alloc (Nat.le_refl _) _).alloc (by simp) _
  have HA := Lib.hid hA
  clear hJ hA
  go_enter Tryd.func4, Tryd.ntmps4
  go_wp2_with fail
  refine HJ.out.mono ?_
  rintro e w3 ⟨A1, c1, rfl, hslc, hlen, hb3⟩
  have HB3 := Lib.hid (HA.out.trans (hb3.mono HA.out.size))
  have hS := osplit_any A1 _ c1 w3 hslc
  rw [awake_split] at hS
  have HS := Lib.hid hS
  clear hslc hlen hb3 HJ HA hS
  go_wp2_with fail
  refine HS.out.mono ?_
  rintro e w4 ⟨A2, c2, rfl, hsli, hlen, hb4⟩
  obtain ⟨b, off, rfl, hb, hc⟩ := hsli.secs (by simp)
  obtain ⟨SA, sc, q0, _, _, _, _⟩ := hc 0 (by simp)
  have q1 : w4.cell? ⟨b, off, none⟩ = some (.int .i64 1) := by simpa using q0
  have HB4 := Lib.hid (HB3.out.trans (hb4.mono HB3.out.size))
  clear hsli hlen hb4 hc q0 HS
  go_wp2
  go_ret
  exact ⟨rfl, HB4.out⟩
end Go.Proofs.YtelcoeeijkainaaDoor.Sec
