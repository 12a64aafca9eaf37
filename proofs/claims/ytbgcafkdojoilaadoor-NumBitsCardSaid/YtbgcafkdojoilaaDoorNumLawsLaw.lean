/-
  trammellaw03.NumLaws answers true for every two numbers. Condition: 'Does T', and T holds of the world.
-/
import Derived.Test.YtbgcafkdojoilaaDoorNumLaw
import Derived.Test.YtbgcafkdojoilaaDoorNumWide
namespace Go.Proofs.YtbgcafkdojoilaaDoor.Num
open Go.RowKit

theorem asm_bit (f : Nat → Nat) (n j : Nat) (hf : ∀ i, f i ≤ 1) (hj : j < n) : bitN (asm f n) j = f j := by
  have h := bitN_testBit (asm f n) j
  rw [asm_testBit f n j hf] at h
  have h1 := hf j
  have h2 := bitN_le (asm f n) j
  have h3 : bitN (asm f n) j = 1 ↔ f j = 1 := by
    rw [Bool.eq_iff_iff, decide_eq_true_iff, decide_eq_true_iff] at h
    exact ⟨fun x => (h.2 x).2, fun x => h.1 ⟨hj, x⟩⟩
  omega
theorem turn_back (a s : Nat) (ha : a < 18446744073709551616) (hs : s < 64) : turnN (turnN a s 64) (64 - s) 64 = a := by
  have h : turnN (turnN a s 64) (64 - s) 64 = asm (bitN a) 64 := by
    unfold turnN
    apply asm_congr
    intro i hi
    rw [asm_bit _ 64 _ (fun i => bitN_le _ _) (by omega)]
    show bitN a _ = bitN a i
    congr 1
    omega
  rw [h, asm_bits a 64 ha]
theorem bin_lt (op : Int) (k a b : Nat) (h : binAll op a b = ((binVal k 64 (cutN a 64) (cutN b 64)).1, (binVal k 64 (cutN a 64) (cutN b 64)).2, true)) : (binAll op a b).1 = (binVal k 64 (cutN a 64) (cutN b 64)).1 := by rw [h]
section
variable (a b : Nat) (ha : a < 18446744073709551616) (hb : b < 18446744073709551616)
include ha hb
theorem laws_sum : (binAll 124 a b).1 = (a + b) % 18446744073709551616 ∧ (binAll 125 ((a + b) % 18446744073709551616) b).1 = a := by
  have _hX : True := (fun _ => trivial) hb
  have e1 : (binAll 124 a b).1 = cutN (cutN a 64 + cutN b 64) 64 := rfl
  have e2 : ∀ x, (binAll 125 x b).1 = cutN (cutN x 64 + minusN (cutN b 64) 64) 64 := fun x => rfl
  rw [e1, e2]
  unfold minusN cutN
  omega
theorem laws_turn : (binAll 137 a b).1 = turnN a (b % 64) 64 ∧ (binAll 138 (turnN a (b % 64) 64) b).1 = a := by
  have e1 : (binAll 137 a b).1 = turnN (cutN a 64) (cutN b 64 % 64) 64 := rfl
  have e2 : ∀ x, (binAll 138 x b).1 = turnN (cutN x 64) (64 - cutN b 64 % 64) 64 := fun x => rfl
  have hc : ∀ x, x < 18446744073709551616 → cutN x 64 = x := fun x hx => Nat.mod_eq_of_lt hx
  have hx : turnN a (b % 64) 64 < 18446744073709551616 := asm_lt _ 64 (fun i => bitN_le _ _)
  rw [e1, e2, hc a ha, hc b hb, hc _ hx]
  exact ⟨rfl, turn_back a (b % 64) ha (by omega)⟩
theorem laws_xor : (binAll 133 a b).1 = a ^^^ b ∧ (binAll 133 (a ^^^ b) b).1 = a := by
  have e : ∀ x, (binAll 133 x b).1 = eachN (cutN x 64) (cutN b 64) 2 := fun x => rfl
  have hc : ∀ x, x < 18446744073709551616 → cutN x 64 = x := fun x hx => Nat.mod_eq_of_lt hx
  have hx : a ^^^ b < 18446744073709551616 := Nat.xor_lt_two_pow (n := 64) ha hb
  rw [e, e, hc a ha, hc b hb, hc _ hx, each_xor a b ha hb, each_xor (a ^^^ b) b hx hb, Nat.xor_assoc, Nat.xor_self, Nat.xor_zero]
  exact ⟨rfl, rfl⟩
end
theorem not_one (c : Bool) : c.toNat + (!c).toNat = 1 := by cases c <;> rfl
/-- Comparisons that are each other's opposite. -/
def Opp (p q : Int) : Prop := I64 p ∧ I64 q ∧ ∀ a b, (binAll p a b).1 + (binAll q a b).1 = 1
theorem opp (p q : Int) (hp : I64 p) (hq : I64 q) (h : ∀ a b, ∃ c : Bool, (binAll p a b).1 = c.toNat ∧ (binAll q a b).1 = (!c).toNat) : Opp p q := by
  refine ⟨hp, hq, fun a b => ?_⟩
  obtain ⟨c, h1, h2⟩ := h a b
  rw [h1, h2]
  exact not_one c
theorem i64 (n : Int) (h1 : 0 ≤ n) (h2 : n ≤ 1000) : I64 n := ⟨by omega, by omega⟩
theorem opp_0 : Opp 81 82 := opp _ _ (i64 _ (by omega) (by omega)) (i64 _ (by omega) (by omega)) (fun _ _ => ⟨_, rfl, rfl⟩)
theorem opp_1 : Opp 83 89 := opp _ _ (i64 _ (by omega) (by omega)) (i64 _ (by omega) (by omega)) (fun _ _ => ⟨_, rfl, rfl⟩)
theorem opp_2 : Opp 84 90 := opp _ _ (i64 _ (by omega) (by omega)) (i64 _ (by omega) (by omega)) (fun _ _ => ⟨_, rfl, rfl⟩)
theorem opp_3 : Opp 85 87 := opp _ _ (i64 _ (by omega) (by omega)) (i64 _ (by omega) (by omega)) (fun _ _ => ⟨_, rfl, rfl⟩)
theorem opp_4 : Opp 86 88 := opp _ _ (i64 _ (by omega) (by omega)) (i64 _ (by omega) (by omega)) (fun _ _ => ⟨_, rfl, rfl⟩)
theorem opp_5 : Opp 70 71 := opp _ _ (i64 _ (by omega) (by omega)) (i64 _ (by omega) (by omega)) (fun _ _ => ⟨_, rfl, rfl⟩)
theorem opp_6 : Opp 72 78 := opp _ _ (i64 _ (by omega) (by omega)) (i64 _ (by omega) (by omega)) (fun _ _ => ⟨_, rfl, rfl⟩)
theorem opp_7 : Opp 73 79 := opp _ _ (i64 _ (by omega) (by omega)) (i64 _ (by omega) (by omega)) (fun _ _ => ⟨_, rfl, rfl⟩)
theorem opp_8 : Opp 74 76 := opp _ _ (i64 _ (by omega) (by omega)) (i64 _ (by omega) (by omega)) (fun _ _ => ⟨_, rfl, rfl⟩)
theorem opp_9 : Opp 75 77 := opp _ _ (i64 _ (by omega) (by omega)) (i64 _ (by omega) (by omega)) (fun _ _ => ⟨_, rfl, rfl⟩)
theorem opp_cells (w : World) (t : TypeId) : ∀ j, j < 10 → ∃ p q, Opp p q ∧ (w.alloc (.cells #[.int .i64 81, .int .i64 82, .int .i64 83, .int .i64 89, .int .i64 84, .int .i64 90, .int .i64 85, .int .i64 87, .int .i64 86, .int .i64 88, .int .i64 70, .int .i64 71, .int .i64 72, .int .i64 78, .int .i64 73, .int .i64 79, .int .i64 74, .int .i64 76, .int .i64 75, .int .i64 77] t)).cell? ⟨w.heap.size, j * 2, none⟩ = some (.int .i64 p) ∧
    (w.alloc (.cells #[.int .i64 81, .int .i64 82, .int .i64 83, .int .i64 89, .int .i64 84, .int .i64 90, .int .i64 85, .int .i64 87, .int .i64 86, .int .i64 88, .int .i64 70, .int .i64 71, .int .i64 72, .int .i64 78, .int .i64 73, .int .i64 79, .int .i64 74, .int .i64 76, .int .i64 75, .int .i64 77] t)).cell? ⟨w.heap.size, j * 2 + 1, none⟩ = some (.int .i64 q) := by
  intro j hj
  have h : j = 0 ∨ j = 1 ∨ j = 2 ∨ j = 3 ∨ j = 4 ∨ j = 5 ∨ j = 6 ∨ j = 7 ∨ j = 8 ∨ j = 9 := by omega
  rcases h with rfl | rfl | rfl | rfl | rfl | rfl | rfl | rfl | rfl | rfl
  · exact ⟨_, _, opp_0, by simp, by simp⟩
  · exact ⟨_, _, opp_1, by simp, by simp⟩
  · exact ⟨_, _, opp_2, by simp, by simp⟩
  · exact ⟨_, _, opp_3, by simp, by simp⟩
  · exact ⟨_, _, opp_4, by simp, by simp⟩
  · exact ⟨_, _, opp_5, by simp, by simp⟩
  · exact ⟨_, _, opp_6, by simp, by simp⟩
  · exact ⟨_, _, opp_7, by simp, by simp⟩
  · exact ⟨_, _, opp_8, by simp, by simp⟩
  · exact ⟨_, _, opp_9, by simp, by simp⟩
/-- What num.Bin gives as its first answer. -/
theorem bin_1 {T : World → Prop} (D : Does T) {op : Int} {a b v : Nat} (w : World) (hT : T w) (ho : I64 op) (ha : a < 18446744073709551616) (hb : b < 18446744073709551616) (h : (binAll op a b).1 = v) :
    ∃ (t : Nat) (ok : Bool), Calls Tryd.prog 12 #[.int .i64 op, .int .u64 (a : Int), .int .u64 (b : Int)] w fun e w' => e = .returned (.tuple #[.int .u64 (v : Int), .int .i64 (t : Int), .bool ok]) ∧ Below w.heap.size w w' := by
  refine ⟨(binAll op a b).2.1, (binAll op a b).2.2, ?_⟩
  have := D.bin op a b w ho ha hb hT
  unfold Bin3 at this
  rw [h] at this
  exact this
section
variable {T : World → Prop} (D : Does T)
include D
set_option maxHeartbeats 4000000 in
set_option maxRecDepth 100000 in
theorem laws_law (a b : Nat) (w : World) (hT : T w) (ha : a < 18446744073709551616) (hb : b < 18446744073709551616) :
    Calls Tryd.prog 5 #[.int .u64 (a : Int), .int .u64 (b : Int)] w fun e w' => e = .returned (.bool true) ∧ Below w.heap.size w w' := by
  have HA := Lib.hid (awake_any D w hT)
  obtain ⟨hs1, hs2⟩ := laws_sum a b ha hb
  obtain ⟨ht1, ht2⟩ := laws_turn a b ha hb
  obtain ⟨hx1, hx2⟩ := laws_xor a b ha hb
  have hs : (a + b) % 18446744073709551616 < 18446744073709551616 := by omega
  have ht : turnN a (b % 64) 64 < 18446744073709551616 := asm_lt _ 64 (fun i => bitN_le _ _)
  have hx : a ^^^ b < 18446744073709551616 := Nat.xor_lt_two_pow (n := 64) ha hb
  generalize (a + b) % 18446744073709551616 = s at *
  generalize turnN a (b % 64) 64 = t at *
  generalize a ^^^ b = x at *
  have H1 := Lib.hid (fun W hW => bin_1 D W hW (i64 124 (by omega) (by omega)) ha hb hs1)
  have H2 := Lib.hid (fun W hW => bin_1 D W hW (i64 125 (by omega) (by omega)) hs hb hs2)
  have H3 := Lib.hid (fun W hW => bin_1 D W hW (i64 137 (by omega) (by omega)) ha hb ht1)
  have H4 := Lib.hid (fun W hW => bin_1 D W hW (i64 138 (by omega) (by omega)) ht hb ht2)
  have H5 := Lib.hid (fun W hW => bin_1 D W hW (i64 133 (by omega) (by omega)) ha hb hx1)
  have H6 := Lib.hid (fun W hW => bin_1 D W hW (i64 133 (by omega) (by omega)) hx hb hx2)
  have HK := Lib.hid D.keep
  have HD := Lib.hid D
  have HAB := Lib.hid (And.intro ha hb)
  clear D ha hb hs1 hs2 ht1 ht2 hx1 hx2 hs ht hx
  go_enter Tryd.func5, Tryd.ntmps5
  go_wp2_with fail
  refine HA.out.mono ?_
  rintro e w1 ⟨rfl, hb1⟩
  have hT1 := HK.out _ _ hT hb1
  clear HA
  go_wp2_with fail
  obtain ⟨r1, k1, h1⟩ := H1.out w1 hT1
  refine h1.mono ?_
  rintro e w2 ⟨rfl, hb2⟩
  have hT2 := HK.out _ _ hT1 hb2
  have hb3 := hb1.trans (hb2.mono hb1.size)
  clear hb1 hb2 hT1 h1 H1
  go_wp2_with fail
  obtain ⟨r2, k2, h2⟩ := H2.out w2 hT2
  refine h2.mono ?_
  rintro e w4 ⟨rfl, hb4⟩
  have hT4 := HK.out _ _ hT2 hb4
  have hb5 := hb3.trans (hb4.mono hb3.size)
  clear hb3 hb4 hT2 h2 H2
  go_wp2_with fail
  obtain ⟨r3, k3, h3⟩ := H3.out w4 hT4
  refine h3.mono ?_
  rintro e w6 ⟨rfl, hb6⟩
  have hT6 := HK.out _ _ hT4 hb6
  have hb7 := hb5.trans (hb6.mono hb5.size)
  clear hb5 hb6 hT4 h3 H3
  go_wp2_with fail
  obtain ⟨r4, k4, h4⟩ := H4.out w6 hT6
  refine h4.mono ?_
  rintro e w8 ⟨rfl, hb8⟩
  have hT8 := HK.out _ _ hT6 hb8
  have hb9 := hb7.trans (hb8.mono hb7.size)
  clear hb7 hb8 hT6 h4 H4
  go_wp2_with fail
  obtain ⟨r5, k5, h5⟩ := H5.out w8 hT8
  refine h5.mono ?_
  rintro e w10 ⟨rfl, hb10⟩
  have hT10 := HK.out _ _ hT8 hb10
  have hb11 := hb9.trans (hb10.mono hb9.size)
  clear hb9 hb10 hT8 h5 H5
  go_wp2_with fail
  obtain ⟨r6, k6, h6⟩ := H6.out w10 hT10
  refine h6.mono ?_
  rintro e w12 ⟨rfl, hb12⟩
  have hT12 := HK.out _ _ hT10 hb12
  have hb13 := hb11.trans (hb12.mono hb11.size)
  clear hb11 hb12 hT10 h6 H6
  go_wp2
  have hal : Below w12.heap.size w12 (w12.alloc (.cells #[.int .i64 81, .int .i64 82, .int .i64 83, .int .i64 89, .int .i64 84, .int .i64 90, .int .i64 85, .int .i64 87, .int .i64 86, .int .i64 88, .int .i64 70, .int .i64 71, .int .i64 72, .int .i64 78, .int .i64 73, .int .i64 79, .int .i64 74, .int .i64 76, .int .i64 75, .int .i64 77] 34)) := (Below.refl _ _).alloc (Nat.le_refl _) _
  have hcell := opp_cells w12 34
  have hT13 := HK.out _ _ hT12 hal
  have hb14 := hb13.trans (hal.mono hb13.size)
  have hsz : (w12.alloc (.cells #[.int .i64 81, .int .i64 82, .int .i64 83, .int .i64 89, .int .i64 84, .int .i64 90, .int .i64 85, .int .i64 87, .int .i64 86, .int .i64 88, .int .i64 70, .int .i64 71, .int .i64 72, .int .i64 78, .int .i64 73, .int .i64 79, .int .i64 74, .int .i64 76, .int .i64 75, .int .i64 77] 34)).heap.size = w12.heap.size + 1 := by simp
  have HC := Lib.hid hcell
  have HSZ := Lib.hid hsz
  clear hal hb13 hT12 hcell hsz
  generalize w12.alloc _ = W0 at *
  generalize w12.heap.size = B at *
  go_loopw [100] (fun i wr => ∃ j : Nat, j ≤ 10 ∧ i = .int .i64 (j : Int) ∧ Below W0.heap.size W0 wr ∧ T wr) (fun i _ => 10 - (intOf i).toNat)
  case atStart => exact ⟨0, by omega, rfl, Below.refl _ _, hT13⟩
  case round =>
    obtain ⟨j, hj, rfl, hbr, hTr⟩ := hrel
    clear hT13
    by_cases hlt : j < 10
    · obtain ⟨p, q, ⟨hp64, hq64, hopp⟩, hc0, hc1⟩ := HC.out j hlt
      have hlti : (j : Int) < 10 := by omega
      have h0 : wr.cell? ⟨B, j * 2, none⟩ = some (.int .i64 p) := (hbr.cell (p := ⟨B, j * 2, none⟩) (by show B < _; rw [HSZ.out]; omega)).trans hc0
      have h1 : wr.cell? ⟨B, j * 2 + 1, none⟩ = some (.int .i64 q) := (hbr.cell (p := ⟨B, j * 2 + 1, none⟩) (by show B < _; rw [HSZ.out]; omega)).trans hc1
      have hpq := hopp a b
      have HP := Lib.hid (fun W hW => bin_1 HD.out W hW hp64 HAB.out.1 HAB.out.2 rfl)
      have HQ := Lib.hid (fun W hW => bin_1 HD.out W hW hq64 HAB.out.1 HAB.out.2 rfl)
      generalize (binAll p a b).1 = n at *
      generalize (binAll q a b).1 = m at *
      clear hc0 hc1 hopp hp64 hq64
      have hn1 : (n : Int) ≤ 1 := by omega
      have hm1 : (m : Int) ≤ 1 := by omega
      have hnm : ((n : Int) + (m : Int) != 1) = false := by simp; omega
      clear hpq
      go_wp2_with fail
      have hba : Below wr.heap.size wr (wr.alloc (.cells #[.int .i64 p, .int .i64 q] 34)) := (Below.refl _ _).alloc (Nat.le_refl _) _
      have hTa := HK.out _ _ hTr hba
      obtain ⟨rA, kA, hA⟩ := HP.out _ hTa
      refine hA.mono ?_
      rintro e wA ⟨rfl, hbA⟩
      have hcq : wA.cell? ⟨wr.heap.size, 1, none⟩ = some (.int .i64 q) := (hbA.cell (p := ⟨wr.heap.size, 1, none⟩) (by simp)).trans (by simp)
      have hTA := HK.out _ _ hTa hbA
      have hbB := hba.trans (hbA.mono hba.size)
      clear hA hTa hba hbA HP h0 h1
      go_wp2_with fail
      obtain ⟨rC, kC, hC⟩ := HQ.out _ hTA
      refine hC.mono ?_
      rintro e wC ⟨rfl, hbC⟩
      have hTC := HK.out _ _ hTA hbC
      have hbD := hbr.trans ((hbB.trans (hbC.mono hbB.size)).mono hbr.size)
      clear hC hTA hbB hbC HQ hcq
      go_wp2
      go_roundw
      case rel => exact ⟨j + 1, by omega, by go_num, hbD, hTC⟩
      case measure => simp [intOf]; omega
    · have hlti : ¬ (j : Int) < 10 := by omega
      go_wp2
      go_ret
      exact ⟨rfl, hb14.trans (hbr.mono hb14.size)⟩
end
end Go.Proofs.YtbgcafkdojoilaaDoor.Num
