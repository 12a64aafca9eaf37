/-
  PackAll answers true, if pack's functions answer as the reference's do. Condition: that premise; the bytes lie in memory as a slice's cells.
-/
import Derived.Test.YtaagingcjmkcdaaPackPartsLaw
namespace Go.Proofs.Ytaagingcjmkcdaa.Pack
open Go.RowKit Leb

set_option maxHeartbeats 4000000 in
set_option maxRecDepth 100000 in
theorem all_none_s {T : World → Prop} (op : Int) (A : Option Addr) (l l' : List Nat) (c n k v : Nat) (ok1 ok2 : Bool) (w : World) (hT : T w) 
    (hm : (l.length : Int) ≤ 100) (hlc : l.length ≤ c) (hb : Bytes w w.heap.size A l) (hk : l'.length = k) (hk8 : k ≤ 8)
    (HA : Hid (Calls Try.prog 7 #[] w fun e w' => e = .returned (.bool true) ∧ Below w.heap.size w w')) (HK : Hid (∀ w w', T w → Below w.heap.size w w' → T w'))
    (HO : Hid (∀ W, Calls Try.prog 8 #[.int .i64 op] W fun e w' => e = .returned (.tuple #[.agg #[.int .i64 0, .int .i64 0, .int .i64 0, .bool false, .bool false], .bool false]) ∧ Below W.heap.size W w'))
    (HX : Hid (∀ W, T W → Calls Try.prog 9 #[.int .i64 op] W (Acc4 W (0, 0, false, false))))
    (HL : Hid (∀ W, Bytes W W.heap.size A l → T W → Calls Try.prog 10 #[.int .i64 op, .slice A l.length c] W (Num2 W v ok1)))
    (HRL : Hid (∀ W, Bytes W W.heap.size A l → Calls Try.prog 11 #[.int .i64 op, .slice A l.length c] W (Num2 W v ok1)))
    (HS : Hid (∀ W, T W → Calls Try.prog 12 #[.int .i64 op, .int .u64 (n : Int)] W (GivesS W l' ok2 k)))
    (HRS : Hid (∀ W, Calls Try.prog 13 #[.int .i64 op, .int .u64 (n : Int)] W (GivesS W l' ok2 k))) :
    Calls Try.prog 3 #[.int .i64 op, .slice A l.length c, .int .u64 (n : Int)] w fun e w' => e = .returned (.bool true) ∧ Below w.heap.size w w' := by

  have HB := Lib.hid hb
  have HKK := Lib.hid hk
  clear hb hk
  go_enter Try.func3, Try.ntmps3
  go_wp2_with fail
  refine HA.out.mono ?_
  rintro e w1 ⟨rfl, hb1⟩
  have hT1 := HK.out _ _ hT hb1
  go_wp2_with fail
  refine (HO.out _).mono ?_
  rintro e w2 ⟨rfl, hb2⟩
  have hb3 := hb1.trans (hb2.mono hb1.size)
  go_wp2_with fail
  have hb4 := bel_kind hb3 (.cells #[.int .i64 0, .int .i64 0, .int .i64 0, .bool false, .bool false] 26)
  have hT4 := HK.out _ _ hT hb4
  have hc1 : (w2.alloc (.cells #[.int .i64 0, .int .i64 0, .int .i64 0, .bool false, .bool false] 26)).cell? ⟨w2.heap.size, 1, none⟩ = some (.int .i64 0) := by simp
  have hc2 : (w2.alloc (.cells #[.int .i64 0, .int .i64 0, .int .i64 0, .bool false, .bool false] 26)).cell? ⟨w2.heap.size, 2, none⟩ = some (.int .i64 0) := by simp
  have hc4 : (w2.alloc (.cells #[.int .i64 0, .int .i64 0, .int .i64 0, .bool false, .bool false] 26)).cell? ⟨w2.heap.size, 4, none⟩ = some (.bool false) := by simp
  have hsz : w2.heap.size < (w2.alloc (.cells #[.int .i64 0, .int .i64 0, .int .i64 0, .bool false, .bool false] 26)).heap.size := by simp
  clear hT1 hb1 hb2 hb3 HA HO
  generalize w2.alloc _ = W at *
  generalize w2.heap.size = R at *
  refine (HX.out _ hT4).mono ?_
  rintro e w5 ⟨rfl, hb5⟩
  have g1 := (hb5.cell (p := ⟨R, 1, none⟩) hsz).trans hc1
  have g2 := (hb5.cell (p := ⟨R, 2, none⟩) hsz).trans hc2
  have g4 := (hb5.cell (p := ⟨R, 4, none⟩) hsz).trans hc4
  have hT5 := HK.out _ _ hT4 hb5
  have hb6 := hb4.trans (hb5.mono hb4.size)
  clear hc1 hc2 hc4 hsz hT4 hb4 hb5 HX
  go_wp2_with fail
  refine (HL.out _ ((HB.out.below hb6).more hb6.size) hT5).mono ?_
  rintro e w7 ⟨rfl, hb7⟩
  have hT7 := HK.out _ _ hT5 hb7
  have hb8 := hb6.trans (hb7.mono hb6.size)
  clear g1 g2 g4 hT5 hb6 hb7 HL
  go_wp2_with fail
  refine (HRL.out _ ((HB.out.below hb8).more hb8.size)).mono ?_
  rintro e w9 ⟨rfl, hb9⟩
  have hT9 := HK.out _ _ hT7 hb9
  have hb10 := hb8.trans (hb9.mono hb8.size)
  clear hT7 hb8 hb9 HRL HB
  go_wp2_with fail
  refine (HS.out _ hT9).mono ?_
  rintro e w11 ⟨A11, c11, rfl, hby11, hn11, hk11, hb11⟩
  have hb12 := hb10.trans (hb11.mono hb10.size)
  clear hT9 hb10 hb11 HS HK
  go_wp2_with fail
  refine (HRS.out _).mono ?_
  rintro e w13 ⟨A13, c13, rfl, hby13, hn13, hk13, hb13⟩
  have hby14 := hby11.below hb13
  have hb14 := hb12.trans (hb13.mono hb12.size)
  clear hb12 hb13 HRS hby11
  go_wp2_with fail
  refine (same_yes hby14 hby13 HKK.out HKK.out (by omega)).mono ?_
  rintro e w' ⟨rfl, q, rfl⟩
  go_wp2
  go_ret
  exact ⟨rfl, below_drewN hb14 q⟩
set_option maxHeartbeats 4000000 in
set_option maxRecDepth 100000 in
theorem all_32_s {T : World → Prop} (op o : Int) (bytes : Nat) (s st : Bool) (A : Option Addr) (l l' : List Nat) (c n k v : Nat) (ok1 ok2 : Bool) (w : World) (hT : T w) 
    (hm : (l.length : Int) ≤ 100) (hlc : l.length ≤ c) (hb : Bytes w w.heap.size A l) (hk : l'.length = k) (hk8 : k ≤ 8)
    (HA : Hid (Calls Try.prog 7 #[] w fun e w' => e = .returned (.bool true) ∧ Below w.heap.size w w')) (HK : Hid (∀ w w', T w → Below w.heap.size w w' → T w'))
    (HO : Hid (∀ W, Calls Try.prog 8 #[.int .i64 op] W fun e w' => e = .returned (.tuple #[.agg #[.int .i64 o, .int .i64 32, .int .i64 (bytes : Int), .bool s, .bool st], .bool true]) ∧ Below W.heap.size W w'))
    (HX : Hid (∀ W, T W → Calls Try.prog 9 #[.int .i64 op] W (Acc4 W (127, bytes, st, true))))
    (HL : Hid (∀ W, Bytes W W.heap.size A l → T W → Calls Try.prog 10 #[.int .i64 op, .slice A l.length c] W (Num2 W v ok1)))
    (HRL : Hid (∀ W, Bytes W W.heap.size A l → Calls Try.prog 11 #[.int .i64 op, .slice A l.length c] W (Num2 W v ok1)))
    (HS : Hid (∀ W, T W → Calls Try.prog 12 #[.int .i64 op, .int .u64 (n : Int)] W (GivesS W l' ok2 k)))
    (HRS : Hid (∀ W, Calls Try.prog 13 #[.int .i64 op, .int .u64 (n : Int)] W (GivesS W l' ok2 k))) :
    Calls Try.prog 3 #[.int .i64 op, .slice A l.length c, .int .u64 (n : Int)] w fun e w' => e = .returned (.bool true) ∧ Below w.heap.size w w' := by

  have HB := Lib.hid hb
  have HKK := Lib.hid hk
  clear hb hk
  go_enter Try.func3, Try.ntmps3
  go_wp2_with fail
  refine HA.out.mono ?_
  rintro e w1 ⟨rfl, hb1⟩
  have hT1 := HK.out _ _ hT hb1
  go_wp2_with fail
  refine (HO.out _).mono ?_
  rintro e w2 ⟨rfl, hb2⟩
  have hb3 := hb1.trans (hb2.mono hb1.size)
  go_wp2_with fail
  have hb4 := bel_kind hb3 (.cells #[.int .i64 o, .int .i64 32, .int .i64 (bytes : Int), .bool s, .bool st] 26)
  have hT4 := HK.out _ _ hT hb4
  have hc1 : (w2.alloc (.cells #[.int .i64 o, .int .i64 32, .int .i64 (bytes : Int), .bool s, .bool st] 26)).cell? ⟨w2.heap.size, 1, none⟩ = some (.int .i64 32) := by simp
  have hc2 : (w2.alloc (.cells #[.int .i64 o, .int .i64 32, .int .i64 (bytes : Int), .bool s, .bool st] 26)).cell? ⟨w2.heap.size, 2, none⟩ = some (.int .i64 (bytes : Int)) := by simp
  have hc4 : (w2.alloc (.cells #[.int .i64 o, .int .i64 32, .int .i64 (bytes : Int), .bool s, .bool st] 26)).cell? ⟨w2.heap.size, 4, none⟩ = some (.bool st) := by simp
  have hsz : w2.heap.size < (w2.alloc (.cells #[.int .i64 o, .int .i64 32, .int .i64 (bytes : Int), .bool s, .bool st] 26)).heap.size := by simp
  clear hT1 hb1 hb2 hb3 HA HO
  generalize w2.alloc _ = W at *
  generalize w2.heap.size = R at *
  refine (HX.out _ hT4).mono ?_
  rintro e w5 ⟨rfl, hb5⟩
  have g1 := (hb5.cell (p := ⟨R, 1, none⟩) hsz).trans hc1
  have g2 := (hb5.cell (p := ⟨R, 2, none⟩) hsz).trans hc2
  have g4 := (hb5.cell (p := ⟨R, 4, none⟩) hsz).trans hc4
  have hT5 := HK.out _ _ hT4 hb5
  have hb6 := hb4.trans (hb5.mono hb4.size)
  clear hc1 hc2 hc4 hsz hT4 hb4 hb5 HX
  go_wp2_with fail
  refine (HL.out _ ((HB.out.below hb6).more hb6.size) hT5).mono ?_
  rintro e w7 ⟨rfl, hb7⟩
  have hT7 := HK.out _ _ hT5 hb7
  have hb8 := hb6.trans (hb7.mono hb6.size)
  clear g1 g2 g4 hT5 hb6 hb7 HL
  go_wp2_with fail
  refine (HRL.out _ ((HB.out.below hb8).more hb8.size)).mono ?_
  rintro e w9 ⟨rfl, hb9⟩
  have hT9 := HK.out _ _ hT7 hb9
  have hb10 := hb8.trans (hb9.mono hb8.size)
  clear hT7 hb8 hb9 HRL HB
  go_wp2_with fail
  refine (HS.out _ hT9).mono ?_
  rintro e w11 ⟨A11, c11, rfl, hby11, hn11, hk11, hb11⟩
  have hb12 := hb10.trans (hb11.mono hb10.size)
  clear hT9 hb10 hb11 HS HK
  go_wp2_with fail
  refine (HRS.out _).mono ?_
  rintro e w13 ⟨A13, c13, rfl, hby13, hn13, hk13, hb13⟩
  have hby14 := hby11.below hb13
  have hb14 := hb12.trans (hb13.mono hb12.size)
  clear hb12 hb13 HRS hby11
  go_wp2_with fail
  refine (same_yes hby14 hby13 HKK.out HKK.out (by omega)).mono ?_
  rintro e w' ⟨rfl, q, rfl⟩
  go_wp2
  go_ret
  exact ⟨rfl, below_drewN hb14 q⟩
set_option maxHeartbeats 4000000 in
set_option maxRecDepth 100000 in
theorem all_64_s {T : World → Prop} (op o : Int) (bytes : Nat) (s st : Bool) (A : Option Addr) (l l' : List Nat) (c n k v : Nat) (ok1 ok2 : Bool) (w : World) (hT : T w) 
    (hm : (l.length : Int) ≤ 100) (hlc : l.length ≤ c) (hb : Bytes w w.heap.size A l) (hk : l'.length = k) (hk8 : k ≤ 8)
    (HA : Hid (Calls Try.prog 7 #[] w fun e w' => e = .returned (.bool true) ∧ Below w.heap.size w w')) (HK : Hid (∀ w w', T w → Below w.heap.size w w' → T w'))
    (HO : Hid (∀ W, Calls Try.prog 8 #[.int .i64 op] W fun e w' => e = .returned (.tuple #[.agg #[.int .i64 o, .int .i64 64, .int .i64 (bytes : Int), .bool s, .bool st], .bool true]) ∧ Below W.heap.size W w'))
    (HX : Hid (∀ W, T W → Calls Try.prog 9 #[.int .i64 op] W (Acc4 W (126, bytes, st, true))))
    (HL : Hid (∀ W, Bytes W W.heap.size A l → T W → Calls Try.prog 10 #[.int .i64 op, .slice A l.length c] W (Num2 W v ok1)))
    (HRL : Hid (∀ W, Bytes W W.heap.size A l → Calls Try.prog 11 #[.int .i64 op, .slice A l.length c] W (Num2 W v ok1)))
    (HS : Hid (∀ W, T W → Calls Try.prog 12 #[.int .i64 op, .int .u64 (n : Int)] W (GivesS W l' ok2 k)))
    (HRS : Hid (∀ W, Calls Try.prog 13 #[.int .i64 op, .int .u64 (n : Int)] W (GivesS W l' ok2 k))) :
    Calls Try.prog 3 #[.int .i64 op, .slice A l.length c, .int .u64 (n : Int)] w fun e w' => e = .returned (.bool true) ∧ Below w.heap.size w w' := by

  have HB := Lib.hid hb
  have HKK := Lib.hid hk
  clear hb hk
  go_enter Try.func3, Try.ntmps3
  go_wp2_with fail
  refine HA.out.mono ?_
  rintro e w1 ⟨rfl, hb1⟩
  have hT1 := HK.out _ _ hT hb1
  go_wp2_with fail
  refine (HO.out _).mono ?_
  rintro e w2 ⟨rfl, hb2⟩
  have hb3 := hb1.trans (hb2.mono hb1.size)
  go_wp2_with fail
  have hb4 := bel_kind hb3 (.cells #[.int .i64 o, .int .i64 64, .int .i64 (bytes : Int), .bool s, .bool st] 26)
  have hT4 := HK.out _ _ hT hb4
  have hc1 : (w2.alloc (.cells #[.int .i64 o, .int .i64 64, .int .i64 (bytes : Int), .bool s, .bool st] 26)).cell? ⟨w2.heap.size, 1, none⟩ = some (.int .i64 64) := by simp
  have hc2 : (w2.alloc (.cells #[.int .i64 o, .int .i64 64, .int .i64 (bytes : Int), .bool s, .bool st] 26)).cell? ⟨w2.heap.size, 2, none⟩ = some (.int .i64 (bytes : Int)) := by simp
  have hc4 : (w2.alloc (.cells #[.int .i64 o, .int .i64 64, .int .i64 (bytes : Int), .bool s, .bool st] 26)).cell? ⟨w2.heap.size, 4, none⟩ = some (.bool st) := by simp
  have hsz : w2.heap.size < (w2.alloc (.cells #[.int .i64 o, .int .i64 64, .int .i64 (bytes : Int), .bool s, .bool st] 26)).heap.size := by simp
  clear hT1 hb1 hb2 hb3 HA HO
  generalize w2.alloc _ = W at *
  generalize w2.heap.size = R at *
  refine (HX.out _ hT4).mono ?_
  rintro e w5 ⟨rfl, hb5⟩
  have g1 := (hb5.cell (p := ⟨R, 1, none⟩) hsz).trans hc1
  have g2 := (hb5.cell (p := ⟨R, 2, none⟩) hsz).trans hc2
  have g4 := (hb5.cell (p := ⟨R, 4, none⟩) hsz).trans hc4
  have hT5 := HK.out _ _ hT4 hb5
  have hb6 := hb4.trans (hb5.mono hb4.size)
  clear hc1 hc2 hc4 hsz hT4 hb4 hb5 HX
  go_wp2_with fail
  refine (HL.out _ ((HB.out.below hb6).more hb6.size) hT5).mono ?_
  rintro e w7 ⟨rfl, hb7⟩
  have hT7 := HK.out _ _ hT5 hb7
  have hb8 := hb6.trans (hb7.mono hb6.size)
  clear g1 g2 g4 hT5 hb6 hb7 HL
  go_wp2_with fail
  refine (HRL.out _ ((HB.out.below hb8).more hb8.size)).mono ?_
  rintro e w9 ⟨rfl, hb9⟩
  have hT9 := HK.out _ _ hT7 hb9
  have hb10 := hb8.trans (hb9.mono hb8.size)
  clear hT7 hb8 hb9 HRL HB
  go_wp2_with fail
  refine (HS.out _ hT9).mono ?_
  rintro e w11 ⟨A11, c11, rfl, hby11, hn11, hk11, hb11⟩
  have hb12 := hb10.trans (hb11.mono hb10.size)
  clear hT9 hb10 hb11 HS HK
  go_wp2_with fail
  refine (HRS.out _).mono ?_
  rintro e w13 ⟨A13, c13, rfl, hby13, hn13, hk13, hb13⟩
  have hby14 := hby11.below hb13
  have hb14 := hb12.trans (hb13.mono hb12.size)
  clear hb12 hb13 HRS hby11
  go_wp2_with fail
  refine (same_yes hby14 hby13 HKK.out HKK.out (by omega)).mono ?_
  rintro e w' ⟨rfl, q, rfl⟩
  go_wp2
  go_ret
  exact ⟨rfl, below_drewN hb14 q⟩
set_option maxHeartbeats 4000000 in
set_option maxRecDepth 100000 in
theorem all_none_l {T : World → Prop} (op : Int) (A : Option Addr) (l l' : List Nat) (c n k v : Nat) (ok1 ok2 : Bool) (w : World) (hT : T w) 
    (hm : ¬ (l.length : Int) ≤ 100) (hlc : l.length ≤ c) (hb : Bytes w w.heap.size A l) (hk : l'.length = k) (hk8 : k ≤ 8)
    (HA : Hid (Calls Try.prog 7 #[] w fun e w' => e = .returned (.bool true) ∧ Below w.heap.size w w')) (HK : Hid (∀ w w', T w → Below w.heap.size w w' → T w'))
    (HO : Hid (∀ W, Calls Try.prog 8 #[.int .i64 op] W fun e w' => e = .returned (.tuple #[.agg #[.int .i64 0, .int .i64 0, .int .i64 0, .bool false, .bool false], .bool false]) ∧ Below W.heap.size W w'))
    (HX : Hid (∀ W, T W → Calls Try.prog 9 #[.int .i64 op] W (Acc4 W (0, 0, false, false))))
    (HL : Hid (∀ W, Bytes W W.heap.size A (l.take 100) → T W → Calls Try.prog 10 #[.int .i64 op, .slice A 100 c] W (Num2 W v ok1)))
    (HRL : Hid (∀ W, Bytes W W.heap.size A (l.take 100) → Calls Try.prog 11 #[.int .i64 op, .slice A 100 c] W (Num2 W v ok1)))
    (HS : Hid (∀ W, T W → Calls Try.prog 12 #[.int .i64 op, .int .u64 (n : Int)] W (GivesS W l' ok2 k)))
    (HRS : Hid (∀ W, Calls Try.prog 13 #[.int .i64 op, .int .u64 (n : Int)] W (GivesS W l' ok2 k))) :
    Calls Try.prog 3 #[.int .i64 op, .slice A l.length c, .int .u64 (n : Int)] w fun e w' => e = .returned (.bool true) ∧ Below w.heap.size w w' := by

  have HB := Lib.hid (hb.take 100)
  have HKK := Lib.hid hk
  clear hb hk
  go_enter Try.func3, Try.ntmps3
  go_wp2_with fail
  refine HA.out.mono ?_
  rintro e w1 ⟨rfl, hb1⟩
  have hT1 := HK.out _ _ hT hb1
  go_wp2_with fail
  refine (HO.out _).mono ?_
  rintro e w2 ⟨rfl, hb2⟩
  have hb3 := hb1.trans (hb2.mono hb1.size)
  go_wp2_with fail
  have hb4 := bel_kind hb3 (.cells #[.int .i64 0, .int .i64 0, .int .i64 0, .bool false, .bool false] 26)
  have hT4 := HK.out _ _ hT hb4
  have hc1 : (w2.alloc (.cells #[.int .i64 0, .int .i64 0, .int .i64 0, .bool false, .bool false] 26)).cell? ⟨w2.heap.size, 1, none⟩ = some (.int .i64 0) := by simp
  have hc2 : (w2.alloc (.cells #[.int .i64 0, .int .i64 0, .int .i64 0, .bool false, .bool false] 26)).cell? ⟨w2.heap.size, 2, none⟩ = some (.int .i64 0) := by simp
  have hc4 : (w2.alloc (.cells #[.int .i64 0, .int .i64 0, .int .i64 0, .bool false, .bool false] 26)).cell? ⟨w2.heap.size, 4, none⟩ = some (.bool false) := by simp
  have hsz : w2.heap.size < (w2.alloc (.cells #[.int .i64 0, .int .i64 0, .int .i64 0, .bool false, .bool false] 26)).heap.size := by simp
  clear hT1 hb1 hb2 hb3 HA HO
  generalize w2.alloc _ = W at *
  generalize w2.heap.size = R at *
  refine (HX.out _ hT4).mono ?_
  rintro e w5 ⟨rfl, hb5⟩
  have g1 := (hb5.cell (p := ⟨R, 1, none⟩) hsz).trans hc1
  have g2 := (hb5.cell (p := ⟨R, 2, none⟩) hsz).trans hc2
  have g4 := (hb5.cell (p := ⟨R, 4, none⟩) hsz).trans hc4
  have hT5 := HK.out _ _ hT4 hb5
  have hb6 := hb4.trans (hb5.mono hb4.size)
  clear hc1 hc2 hc4 hsz hT4 hb4 hb5 HX
  go_wp2_with fail
  refine (HL.out _ ((HB.out.below hb6).more hb6.size) hT5).mono ?_
  rintro e w7 ⟨rfl, hb7⟩
  have hT7 := HK.out _ _ hT5 hb7
  have hb8 := hb6.trans (hb7.mono hb6.size)
  clear g1 g2 g4 hT5 hb6 hb7 HL
  go_wp2_with fail
  refine (HRL.out _ ((HB.out.below hb8).more hb8.size)).mono ?_
  rintro e w9 ⟨rfl, hb9⟩
  have hT9 := HK.out _ _ hT7 hb9
  have hb10 := hb8.trans (hb9.mono hb8.size)
  clear hT7 hb8 hb9 HRL HB
  go_wp2_with fail
  refine (HS.out _ hT9).mono ?_
  rintro e w11 ⟨A11, c11, rfl, hby11, hn11, hk11, hb11⟩
  have hb12 := hb10.trans (hb11.mono hb10.size)
  clear hT9 hb10 hb11 HS HK
  go_wp2_with fail
  refine (HRS.out _).mono ?_
  rintro e w13 ⟨A13, c13, rfl, hby13, hn13, hk13, hb13⟩
  have hby14 := hby11.below hb13
  have hb14 := hb12.trans (hb13.mono hb12.size)
  clear hb12 hb13 HRS hby11
  go_wp2_with fail
  refine (same_yes hby14 hby13 HKK.out HKK.out (by omega)).mono ?_
  rintro e w' ⟨rfl, q, rfl⟩
  go_wp2
  go_ret
  exact ⟨rfl, below_drewN hb14 q⟩
set_option maxHeartbeats 4000000 in
set_option maxRecDepth 100000 in
theorem all_32_l {T : World → Prop} (op o : Int) (bytes : Nat) (s st : Bool) (A : Option Addr) (l l' : List Nat) (c n k v : Nat) (ok1 ok2 : Bool) (w : World) (hT : T w) 
    (hm : ¬ (l.length : Int) ≤ 100) (hlc : l.length ≤ c) (hb : Bytes w w.heap.size A l) (hk : l'.length = k) (hk8 : k ≤ 8)
    (HA : Hid (Calls Try.prog 7 #[] w fun e w' => e = .returned (.bool true) ∧ Below w.heap.size w w')) (HK : Hid (∀ w w', T w → Below w.heap.size w w' → T w'))
    (HO : Hid (∀ W, Calls Try.prog 8 #[.int .i64 op] W fun e w' => e = .returned (.tuple #[.agg #[.int .i64 o, .int .i64 32, .int .i64 (bytes : Int), .bool s, .bool st], .bool true]) ∧ Below W.heap.size W w'))
    (HX : Hid (∀ W, T W → Calls Try.prog 9 #[.int .i64 op] W (Acc4 W (127, bytes, st, true))))
    (HL : Hid (∀ W, Bytes W W.heap.size A (l.take 100) → T W → Calls Try.prog 10 #[.int .i64 op, .slice A 100 c] W (Num2 W v ok1)))
    (HRL : Hid (∀ W, Bytes W W.heap.size A (l.take 100) → Calls Try.prog 11 #[.int .i64 op, .slice A 100 c] W (Num2 W v ok1)))
    (HS : Hid (∀ W, T W → Calls Try.prog 12 #[.int .i64 op, .int .u64 (n : Int)] W (GivesS W l' ok2 k)))
    (HRS : Hid (∀ W, Calls Try.prog 13 #[.int .i64 op, .int .u64 (n : Int)] W (GivesS W l' ok2 k))) :
    Calls Try.prog 3 #[.int .i64 op, .slice A l.length c, .int .u64 (n : Int)] w fun e w' => e = .returned (.bool true) ∧ Below w.heap.size w w' := by

  have HB := Lib.hid (hb.take 100)
  have HKK := Lib.hid hk
  clear hb hk
  go_enter Try.func3, Try.ntmps3
  go_wp2_with fail
  refine HA.out.mono ?_
  rintro e w1 ⟨rfl, hb1⟩
  have hT1 := HK.out _ _ hT hb1
  go_wp2_with fail
  refine (HO.out _).mono ?_
  rintro e w2 ⟨rfl, hb2⟩
  have hb3 := hb1.trans (hb2.mono hb1.size)
  go_wp2_with fail
  have hb4 := bel_kind hb3 (.cells #[.int .i64 o, .int .i64 32, .int .i64 (bytes : Int), .bool s, .bool st] 26)
  have hT4 := HK.out _ _ hT hb4
  have hc1 : (w2.alloc (.cells #[.int .i64 o, .int .i64 32, .int .i64 (bytes : Int), .bool s, .bool st] 26)).cell? ⟨w2.heap.size, 1, none⟩ = some (.int .i64 32) := by simp
  have hc2 : (w2.alloc (.cells #[.int .i64 o, .int .i64 32, .int .i64 (bytes : Int), .bool s, .bool st] 26)).cell? ⟨w2.heap.size, 2, none⟩ = some (.int .i64 (bytes : Int)) := by simp
  have hc4 : (w2.alloc (.cells #[.int .i64 o, .int .i64 32, .int .i64 (bytes : Int), .bool s, .bool st] 26)).cell? ⟨w2.heap.size, 4, none⟩ = some (.bool st) := by simp
  have hsz : w2.heap.size < (w2.alloc (.cells #[.int .i64 o, .int .i64 32, .int .i64 (bytes : Int), .bool s, .bool st] 26)).heap.size := by simp
  clear hT1 hb1 hb2 hb3 HA HO
  generalize w2.alloc _ = W at *
  generalize w2.heap.size = R at *
  refine (HX.out _ hT4).mono ?_
  rintro e w5 ⟨rfl, hb5⟩
  have g1 := (hb5.cell (p := ⟨R, 1, none⟩) hsz).trans hc1
  have g2 := (hb5.cell (p := ⟨R, 2, none⟩) hsz).trans hc2
  have g4 := (hb5.cell (p := ⟨R, 4, none⟩) hsz).trans hc4
  have hT5 := HK.out _ _ hT4 hb5
  have hb6 := hb4.trans (hb5.mono hb4.size)
  clear hc1 hc2 hc4 hsz hT4 hb4 hb5 HX
  go_wp2_with fail
  refine (HL.out _ ((HB.out.below hb6).more hb6.size) hT5).mono ?_
  rintro e w7 ⟨rfl, hb7⟩
  have hT7 := HK.out _ _ hT5 hb7
  have hb8 := hb6.trans (hb7.mono hb6.size)
  clear g1 g2 g4 hT5 hb6 hb7 HL
  go_wp2_with fail
  refine (HRL.out _ ((HB.out.below hb8).more hb8.size)).mono ?_
  rintro e w9 ⟨rfl, hb9⟩
  have hT9 := HK.out _ _ hT7 hb9
  have hb10 := hb8.trans (hb9.mono hb8.size)
  clear hT7 hb8 hb9 HRL HB
  go_wp2_with fail
  refine (HS.out _ hT9).mono ?_
  rintro e w11 ⟨A11, c11, rfl, hby11, hn11, hk11, hb11⟩
  have hb12 := hb10.trans (hb11.mono hb10.size)
  clear hT9 hb10 hb11 HS HK
  go_wp2_with fail
  refine (HRS.out _).mono ?_
  rintro e w13 ⟨A13, c13, rfl, hby13, hn13, hk13, hb13⟩
  have hby14 := hby11.below hb13
  have hb14 := hb12.trans (hb13.mono hb12.size)
  clear hb12 hb13 HRS hby11
  go_wp2_with fail
  refine (same_yes hby14 hby13 HKK.out HKK.out (by omega)).mono ?_
  rintro e w' ⟨rfl, q, rfl⟩
  go_wp2
  go_ret
  exact ⟨rfl, below_drewN hb14 q⟩
set_option maxHeartbeats 4000000 in
set_option maxRecDepth 100000 in
theorem all_64_l {T : World → Prop} (op o : Int) (bytes : Nat) (s st : Bool) (A : Option Addr) (l l' : List Nat) (c n k v : Nat) (ok1 ok2 : Bool) (w : World) (hT : T w) 
    (hm : ¬ (l.length : Int) ≤ 100) (hlc : l.length ≤ c) (hb : Bytes w w.heap.size A l) (hk : l'.length = k) (hk8 : k ≤ 8)
    (HA : Hid (Calls Try.prog 7 #[] w fun e w' => e = .returned (.bool true) ∧ Below w.heap.size w w')) (HK : Hid (∀ w w', T w → Below w.heap.size w w' → T w'))
    (HO : Hid (∀ W, Calls Try.prog 8 #[.int .i64 op] W fun e w' => e = .returned (.tuple #[.agg #[.int .i64 o, .int .i64 64, .int .i64 (bytes : Int), .bool s, .bool st], .bool true]) ∧ Below W.heap.size W w'))
    (HX : Hid (∀ W, T W → Calls Try.prog 9 #[.int .i64 op] W (Acc4 W (126, bytes, st, true))))
    (HL : Hid (∀ W, Bytes W W.heap.size A (l.take 100) → T W → Calls Try.prog 10 #[.int .i64 op, .slice A 100 c] W (Num2 W v ok1)))
    (HRL : Hid (∀ W, Bytes W W.heap.size A (l.take 100) → Calls Try.prog 11 #[.int .i64 op, .slice A 100 c] W (Num2 W v ok1)))
    (HS : Hid (∀ W, T W → Calls Try.prog 12 #[.int .i64 op, .int .u64 (n : Int)] W (GivesS W l' ok2 k)))
    (HRS : Hid (∀ W, Calls Try.prog 13 #[.int .i64 op, .int .u64 (n : Int)] W (GivesS W l' ok2 k))) :
    Calls Try.prog 3 #[.int .i64 op, .slice A l.length c, .int .u64 (n : Int)] w fun e w' => e = .returned (.bool true) ∧ Below w.heap.size w w' := by

  have HB := Lib.hid (hb.take 100)
  have HKK := Lib.hid hk
  clear hb hk
  go_enter Try.func3, Try.ntmps3
  go_wp2_with fail
  refine HA.out.mono ?_
  rintro e w1 ⟨rfl, hb1⟩
  have hT1 := HK.out _ _ hT hb1
  go_wp2_with fail
  refine (HO.out _).mono ?_
  rintro e w2 ⟨rfl, hb2⟩
  have hb3 := hb1.trans (hb2.mono hb1.size)
  go_wp2_with fail
  have hb4 := bel_kind hb3 (.cells #[.int .i64 o, .int .i64 64, .int .i64 (bytes : Int), .bool s, .bool st] 26)
  have hT4 := HK.out _ _ hT hb4
  have hc1 : (w2.alloc (.cells #[.int .i64 o, .int .i64 64, .int .i64 (bytes : Int), .bool s, .bool st] 26)).cell? ⟨w2.heap.size, 1, none⟩ = some (.int .i64 64) := by simp
  have hc2 : (w2.alloc (.cells #[.int .i64 o, .int .i64 64, .int .i64 (bytes : Int), .bool s, .bool st] 26)).cell? ⟨w2.heap.size, 2, none⟩ = some (.int .i64 (bytes : Int)) := by simp
  have hc4 : (w2.alloc (.cells #[.int .i64 o, .int .i64 64, .int .i64 (bytes : Int), .bool s, .bool st] 26)).cell? ⟨w2.heap.size, 4, none⟩ = some (.bool st) := by simp
  have hsz : w2.heap.size < (w2.alloc (.cells #[.int .i64 o, .int .i64 64, .int .i64 (bytes : Int), .bool s, .bool st] 26)).heap.size := by simp
  clear hT1 hb1 hb2 hb3 HA HO
  generalize w2.alloc _ = W at *
  generalize w2.heap.size = R at *
  refine (HX.out _ hT4).mono ?_
  rintro e w5 ⟨rfl, hb5⟩
  have g1 := (hb5.cell (p := ⟨R, 1, none⟩) hsz).trans hc1
  have g2 := (hb5.cell (p := ⟨R, 2, none⟩) hsz).trans hc2
  have g4 := (hb5.cell (p := ⟨R, 4, none⟩) hsz).trans hc4
  have hT5 := HK.out _ _ hT4 hb5
  have hb6 := hb4.trans (hb5.mono hb4.size)
  clear hc1 hc2 hc4 hsz hT4 hb4 hb5 HX
  go_wp2_with fail
  refine (HL.out _ ((HB.out.below hb6).more hb6.size) hT5).mono ?_
  rintro e w7 ⟨rfl, hb7⟩
  have hT7 := HK.out _ _ hT5 hb7
  have hb8 := hb6.trans (hb7.mono hb6.size)
  clear g1 g2 g4 hT5 hb6 hb7 HL
  go_wp2_with fail
  refine (HRL.out _ ((HB.out.below hb8).more hb8.size)).mono ?_
  rintro e w9 ⟨rfl, hb9⟩
  have hT9 := HK.out _ _ hT7 hb9
  have hb10 := hb8.trans (hb9.mono hb8.size)
  clear hT7 hb8 hb9 HRL HB
  go_wp2_with fail
  refine (HS.out _ hT9).mono ?_
  rintro e w11 ⟨A11, c11, rfl, hby11, hn11, hk11, hb11⟩
  have hb12 := hb10.trans (hb11.mono hb10.size)
  clear hT9 hb10 hb11 HS HK
  go_wp2_with fail
  refine (HRS.out _).mono ?_
  rintro e w13 ⟨A13, c13, rfl, hby13, hn13, hk13, hb13⟩
  have hby14 := hby11.below hb13
  have hb14 := hb12.trans (hb13.mono hb12.size)
  clear hb12 hb13 HRS hby11
  go_wp2_with fail
  refine (same_yes hby14 hby13 HKK.out HKK.out (by omega)).mono ?_
  rintro e w' ⟨rfl, q, rfl⟩
  go_wp2
  go_ret
  exact ⟨rfl, below_drewN hb14 q⟩
section
variable {T : World → Prop} (D : Does T)
include D
theorem all_law (op : Int) (A : Option Addr) (l : List Nat) (c n : Nat) (w : World) (hT : T w) (ho : I64 op) (hn : n < 18446744073709551616) (hb : Bytes w w.heap.size A l) (hnil : A = none → c = 0) (hlc : l.length ≤ c) :
    Calls Try.prog 3 #[.int .i64 op, .slice A l.length c, .int .u64 (n : Int)] w fun e w' => e = .returned (.bool true) ∧ Below w.heap.size w w' := by
  have HA := Lib.hid (awake_any D w hT)
  have HK := Lib.hid D.keep
  have HX := Lib.hid (fun W hW => D.acc op W ho hW)
  have HS := Lib.hid (fun W hW => D.store op n _ W ho hn rfl hW)
  have HRS := Lib.hid (fun W => gives_s (rstore_any op n W hn) (stVal_byte op n) rfl)
  have HO := Lib.hid (fun W => of_any op W)
  have hk8 := stVal_len op n
  unfold OfIs at HO
  by_cases hs : (l.length : Int) ≤ 100
  · have HL := Lib.hid (fun W hB hW => D.load op A l c W ho hB hnil hlc (by omega) hW)
    have HRL := Lib.hid (fun W hB => rload_any op A l c W hB)
    cases hk : kindOf op with
    | none =>
      have ha : accVal op = (0, 0, false, false) := by unfold accVal; rw [hk]
      rw [hk] at HO
      rw [ha] at HX
      exact all_none_s op A l _ c n _ _ _ _ w hT hs hlc hb rfl hk8 HA HK HO HX HL HRL HS HRS
    | some k =>
      have ha : accVal op = (if k.bits = 32 then 127 else 126, k.bytes, k.store, true) := by unfold accVal; rw [hk]
      obtain ⟨r1, r2, r3⟩ := kindOf_right hk
      rw [hk] at HO
      rw [ha] at HX
      obtain ⟨o, bits, bytes, s, st⟩ := k
      simp only at r1 r2 r3 HX
      rcases r3 with ⟨rfl, _⟩ | ⟨rfl, _⟩
      · exact all_32_s op o bytes s st A l _ c n _ _ _ _ w hT hs hlc hb rfl hk8 HA HK HO HX HL HRL HS HRS
      · exact all_64_s op o bytes s st A l _ c n _ _ _ _ w hT hs hlc hb rfl hk8 HA HK HO HX HL HRL HS HRS
  · have hlen : (l.take 100).length = 100 := by simp; omega
    have HL : Hid (∀ W, Bytes W W.heap.size A (l.take 100) → T W → Calls Try.prog 10 #[.int .i64 op, .slice A 100 c] W (Num2 W (ldVal op (l.take 100)).1 (ldVal op (l.take 100)).2)) := Lib.hid fun W hB hW => by
      have := D.load op A (l.take 100) c W ho hB hnil (by omega) (by omega) hW
      rw [hlen] at this
      exact this
    have HRL : Hid (∀ W, Bytes W W.heap.size A (l.take 100) → Calls Try.prog 11 #[.int .i64 op, .slice A 100 c] W (Num2 W (ldVal op (l.take 100)).1 (ldVal op (l.take 100)).2)) := Lib.hid fun W hB => by
      have := rload_any op A (l.take 100) c W hB
      rw [hlen] at this
      exact this
    cases hk : kindOf op with
    | none =>
      have ha : accVal op = (0, 0, false, false) := by unfold accVal; rw [hk]
      rw [hk] at HO
      rw [ha] at HX
      exact all_none_l op A l _ c n _ _ _ _ w hT hs hlc hb rfl hk8 HA HK HO HX HL HRL HS HRS
    | some k =>
      have ha : accVal op = (if k.bits = 32 then 127 else 126, k.bytes, k.store, true) := by unfold accVal; rw [hk]
      obtain ⟨r1, r2, r3⟩ := kindOf_right hk
      rw [hk] at HO
      rw [ha] at HX
      obtain ⟨o, bits, bytes, s, st⟩ := k
      simp only at r1 r2 r3 HX
      rcases r3 with ⟨rfl, _⟩ | ⟨rfl, _⟩
      · exact all_32_l op o bytes s st A l _ c n _ _ _ _ w hT hs hlc hb rfl hk8 HA HK HO HX HL HRL HS HRS
      · exact all_64_l op o bytes s st A l _ c n _ _ _ _ w hT hs hlc hb rfl hk8 HA HK HO HX HL HRL HS HRS
end
end Go.Proofs.Ytaagingcjmkcdaa.Pack
