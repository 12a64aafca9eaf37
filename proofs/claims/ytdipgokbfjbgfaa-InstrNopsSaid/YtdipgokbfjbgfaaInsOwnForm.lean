/-
  instr.within, isNumber, isSmall, isForeign, formByLayer, form: what each comes to. No condition.
-/
import Derived.Test.YtdipgokbfjbgfaaInsOwnNum
import Derived.Test.YtdipgokbfjbgfaaInsOwnPack
namespace Go.Proofs.Ytdipgokbfjbgfaa.Ins
open Go.RowKit Leb Typ

/-- The number of the form of what follows. -/
def partsN (qs : List Part) : Nat :=
  if qs = [] then 2 else if qs = [.t] then 3 else if qs = [.a] then 4 else if qs = [.a, .b] then 5 else if qs = [.l, .a] then 6 else if qs = [.z] then 7 else if qs = [.z, .z] then 8 else if qs = [.a, .z] then 9 else if qs = [.k] then 10 else if qs = [.kk] then 11 else 0
def formN (op : Int) : Nat :=
  match pat op with
  | none => 0
  | some none => 1
  | some (some qs) => partsN qs
def FormIs (w : World) (n : Nat) (e : Ending) (w' : World) : Prop := e = .returned (.int .i64 (n : Int)) ∧ Below w.heap.size w w'
theorem within_lo (n lo hi : Int) (w : World) (h : ¬ lo ≤ n) : Calls Try.prog 52 #[.int .i64 n, .int .i64 lo, .int .i64 hi] w (Same1 w (.bool false)) := by
  go_enter Try.func52, Try.ntmps52
  go_wp2
  go_ret
  exact ⟨rfl, rfl⟩
theorem within_in (n lo hi : Int) (w : World) (h : lo ≤ n) (h2 : n ≤ hi) : Calls Try.prog 52 #[.int .i64 n, .int .i64 lo, .int .i64 hi] w (Same1 w (.bool true)) := by
  go_enter Try.func52, Try.ntmps52
  go_wp2
  go_ret
  exact ⟨rfl, rfl⟩
theorem within_hi (n lo hi : Int) (w : World) (h : lo ≤ n) (h2 : ¬ n ≤ hi) : Calls Try.prog 52 #[.int .i64 n, .int .i64 lo, .int .i64 hi] w (Same1 w (.bool false)) := by
  go_enter Try.func52, Try.ntmps52
  go_wp2
  go_ret
  exact ⟨rfl, rfl⟩
theorem within_any (n lo hi : Int) (w : World) : Calls Try.prog 52 #[.int .i64 n, .int .i64 lo, .int .i64 hi] w (Same1 w (.bool (decide (lo ≤ n ∧ n ≤ hi)))) := by
  by_cases h : lo ≤ n
  · by_cases h2 : n ≤ hi
    · rw [decide_eq_true ⟨h, h2⟩]; exact within_in n lo hi w h h2
    · rw [decide_eq_false (fun x => h2 x.2)]; exact within_hi n lo hi w h h2
  · rw [decide_eq_false (fun x => h x.1)]; exact within_lo n lo hi w h
theorem inum_any (n : Int) (w : World) : Calls Try.prog 32 #[.int .i64 n] w (Same1 w (.bool (decide (fitsU n)))) := by
  have HW : Hid (∀ W, Calls Try.prog 52 #[.int .i64 n, .int .i64 0, .int .i64 4294967295] W (Same1 W (.bool (decide (fitsU n))))) := Lib.hid fun W => within_any n 0 4294967295 W
  generalize decide (fitsU n) = b at *
  go_enter Try.func32, Try.ntmps32
  go_wp2_with fail
  refine (HW.out _).mono ?_
  rintro e w' ⟨rfl, rfl⟩
  go_wp2
  go_ret
  exact ⟨rfl, rfl⟩
theorem small_lo (n : Int) (w : World) (h : ¬ -2147483648 ≤ n) : Calls Try.prog 34 #[.int .i64 n] w (Same1 w (.bool false)) := by
  go_enter Try.func34, Try.ntmps34
  go_wp2
  go_ret
  exact ⟨rfl, rfl⟩
theorem small_in (n : Int) (w : World) (h : -2147483648 ≤ n) (h2 : n ≤ 2147483647) : Calls Try.prog 34 #[.int .i64 n] w (Same1 w (.bool true)) := by
  go_enter Try.func34, Try.ntmps34
  go_wp2
  go_ret
  exact ⟨rfl, rfl⟩
theorem small_hi (n : Int) (w : World) (h : -2147483648 ≤ n) (h2 : ¬ n ≤ 2147483647) : Calls Try.prog 34 #[.int .i64 n] w (Same1 w (.bool false)) := by
  go_enter Try.func34, Try.ntmps34
  go_wp2
  go_ret
  exact ⟨rfl, rfl⟩
theorem small_any (n : Int) (w : World) : Calls Try.prog 34 #[.int .i64 n] w (Same1 w (.bool (decide (-2147483648 ≤ n ∧ n ≤ 2147483647)))) := by
  by_cases h : -2147483648 ≤ n
  · by_cases h2 : n ≤ 2147483647
    · rw [decide_eq_true ⟨h, h2⟩]; exact small_in n w h h2
    · rw [decide_eq_false (fun x => h2 x.2)]; exact small_hi n w h h2
  · rw [decide_eq_false (fun x => h x.1)]; exact small_lo n w h
set_option maxRecDepth 100000 in
theorem frn_28 (w : World) : Calls Try.prog 72 #[.int .i64 28] w (Same1 w (.bool true)) := by
  go_enter Try.func72, Try.ntmps72
  go_wp2
  go_ret
  exact ⟨rfl, rfl⟩
set_option maxRecDepth 100000 in
theorem frn_37 (w : World) : Calls Try.prog 72 #[.int .i64 37] w (Same1 w (.bool true)) := by
  go_enter Try.func72, Try.ntmps72
  go_wp2
  go_ret
  exact ⟨rfl, rfl⟩
set_option maxRecDepth 100000 in
theorem frn_38 (w : World) : Calls Try.prog 72 #[.int .i64 38] w (Same1 w (.bool true)) := by
  go_enter Try.func72, Try.ntmps72
  go_wp2
  go_ret
  exact ⟨rfl, rfl⟩
set_option maxRecDepth 100000 in
theorem frn_42 (w : World) : Calls Try.prog 72 #[.int .i64 42] w (Same1 w (.bool true)) := by
  go_enter Try.func72, Try.ntmps72
  go_wp2
  go_ret
  exact ⟨rfl, rfl⟩
set_option maxRecDepth 100000 in
theorem frn_43 (w : World) : Calls Try.prog 72 #[.int .i64 43] w (Same1 w (.bool true)) := by
  go_enter Try.func72, Try.ntmps72
  go_wp2
  go_ret
  exact ⟨rfl, rfl⟩
set_option maxRecDepth 100000 in
theorem frn_56 (w : World) : Calls Try.prog 72 #[.int .i64 56] w (Same1 w (.bool true)) := by
  go_enter Try.func72, Try.ntmps72
  go_wp2
  go_ret
  exact ⟨rfl, rfl⟩
set_option maxRecDepth 100000 in
theorem frn_57 (w : World) : Calls Try.prog 72 #[.int .i64 57] w (Same1 w (.bool true)) := by
  go_enter Try.func72, Try.ntmps72
  go_wp2
  go_ret
  exact ⟨rfl, rfl⟩
set_option maxRecDepth 100000 in
theorem frn_67 (w : World) : Calls Try.prog 72 #[.int .i64 67] w (Same1 w (.bool true)) := by
  go_enter Try.func72, Try.ntmps72
  go_wp2
  go_ret
  exact ⟨rfl, rfl⟩
set_option maxRecDepth 100000 in
theorem frn_68 (w : World) : Calls Try.prog 72 #[.int .i64 68] w (Same1 w (.bool true)) := by
  go_enter Try.func72, Try.ntmps72
  go_wp2
  go_ret
  exact ⟨rfl, rfl⟩
set_option maxRecDepth 100000 in
theorem frn_208 (w : World) : Calls Try.prog 72 #[.int .i64 208] w (Same1 w (.bool true)) := by
  go_enter Try.func72, Try.ntmps72
  go_wp2
  go_ret
  exact ⟨rfl, rfl⟩
set_option maxRecDepth 100000 in
theorem frn_209 (w : World) : Calls Try.prog 72 #[.int .i64 209] w (Same1 w (.bool true)) := by
  go_enter Try.func72, Try.ntmps72
  go_wp2
  go_ret
  exact ⟨rfl, rfl⟩
set_option maxRecDepth 100000 in
theorem frn_210 (w : World) : Calls Try.prog 72 #[.int .i64 210] w (Same1 w (.bool true)) := by
  go_enter Try.func72, Try.ntmps72
  go_wp2
  go_ret
  exact ⟨rfl, rfl⟩
set_option maxRecDepth 100000 in
theorem frn_253 (w : World) : Calls Try.prog 72 #[.int .i64 253] w (Same1 w (.bool true)) := by
  go_enter Try.func72, Try.ntmps72
  go_wp2
  go_ret
  exact ⟨rfl, rfl⟩
set_option maxRecDepth 100000 in
theorem frn_271 (w : World) : Calls Try.prog 72 #[.int .i64 271] w (Same1 w (.bool true)) := by
  go_enter Try.func72, Try.ntmps72
  go_wp2
  go_ret
  exact ⟨rfl, rfl⟩
set_option maxRecDepth 100000 in
theorem frn_272 (w : World) : Calls Try.prog 72 #[.int .i64 272] w (Same1 w (.bool true)) := by
  go_enter Try.func72, Try.ntmps72
  go_wp2
  go_ret
  exact ⟨rfl, rfl⟩
set_option maxRecDepth 100000 in
theorem frn_273 (w : World) : Calls Try.prog 72 #[.int .i64 273] w (Same1 w (.bool true)) := by
  go_enter Try.func72, Try.ntmps72
  go_wp2
  go_ret
  exact ⟨rfl, rfl⟩
section
variable (op : Int) (w : World) (t28 : (op == 28) = false) (t37 : (op == 37) = false) (t38 : (op == 38) = false) (t42 : (op == 42) = false) (t43 : (op == 43) = false) (t56 : (op == 56) = false) (t57 : (op == 57) = false) (t67 : (op == 67) = false) (t68 : (op == 68) = false) (t208 : (op == 208) = false) (t209 : (op == 209) = false) (t210 : (op == 210) = false) (t253 : (op == 253) = false) (t271 : (op == 271) = false) (t272 : (op == 272) = false) (t273 : (op == 273) = false)
  (HW : Hid (∀ (lo hi : Int) W, Calls Try.prog 52 #[.int .i64 op, .int .i64 lo, .int .i64 hi] W (Same1 W (.bool (decide (lo ≤ op ∧ op ≤ hi))))))
include t28 t37 t38 t42 t43 t56 t57 t67 t68 t208 t209 t210 t253 t271 t272 t273 HW
set_option maxRecDepth 100000 in
set_option maxHeartbeats 1000000 in
theorem frn_r0 (r0 : decide (91 ≤ op ∧ op ≤ 102) = true) : Calls Try.prog 72 #[.int .i64 op] w (Same1 w (.bool true)) := by
  have K0 := Lib.hid (fun W => HW.out 91 102 W)
  rw [r0] at K0
  clear HW r0
  go_enter Try.func72, Try.ntmps72
  go_wp2_with fail
  refine (K0.out _).mono ?_
  rintro e w' ⟨rfl, rfl⟩
  go_wp2
  go_ret
  exact ⟨rfl, rfl⟩
set_option maxRecDepth 100000 in
set_option maxHeartbeats 1000000 in
theorem frn_r1 (r0 : decide (91 ≤ op ∧ op ≤ 102) = false) (r1 : decide (139 ≤ op ∧ op ≤ 166) = true) : Calls Try.prog 72 #[.int .i64 op] w (Same1 w (.bool true)) := by
  have K0 := Lib.hid (fun W => HW.out 91 102 W)
  rw [r0] at K0
  have K1 := Lib.hid (fun W => HW.out 139 166 W)
  rw [r1] at K1
  clear HW r0 r1
  go_enter Try.func72, Try.ntmps72
  go_wp2_with fail
  refine (K0.out _).mono ?_
  rintro e w' ⟨rfl, rfl⟩
  go_wp2_with fail
  refine (K1.out _).mono ?_
  rintro e w' ⟨rfl, rfl⟩
  go_wp2
  go_ret
  exact ⟨rfl, rfl⟩
set_option maxRecDepth 100000 in
set_option maxHeartbeats 1000000 in
theorem frn_r2 (r0 : decide (91 ≤ op ∧ op ≤ 102) = false) (r1 : decide (139 ≤ op ∧ op ≤ 166) = false) (r2 : decide (168 ≤ op ∧ op ≤ 171) = true) : Calls Try.prog 72 #[.int .i64 op] w (Same1 w (.bool true)) := by
  have K0 := Lib.hid (fun W => HW.out 91 102 W)
  rw [r0] at K0
  have K1 := Lib.hid (fun W => HW.out 139 166 W)
  rw [r1] at K1
  have K2 := Lib.hid (fun W => HW.out 168 171 W)
  rw [r2] at K2
  clear HW r0 r1 r2
  go_enter Try.func72, Try.ntmps72
  go_wp2_with fail
  refine (K0.out _).mono ?_
  rintro e w' ⟨rfl, rfl⟩
  go_wp2_with fail
  refine (K1.out _).mono ?_
  rintro e w' ⟨rfl, rfl⟩
  go_wp2_with fail
  refine (K2.out _).mono ?_
  rintro e w' ⟨rfl, rfl⟩
  go_wp2
  go_ret
  exact ⟨rfl, rfl⟩
set_option maxRecDepth 100000 in
set_option maxHeartbeats 1000000 in
theorem frn_r3 (r0 : decide (91 ≤ op ∧ op ≤ 102) = false) (r1 : decide (139 ≤ op ∧ op ≤ 166) = false) (r2 : decide (168 ≤ op ∧ op ≤ 171) = false) (r3 : decide (174 ≤ op ∧ op ≤ 191) = true) : Calls Try.prog 72 #[.int .i64 op] w (Same1 w (.bool true)) := by
  have K0 := Lib.hid (fun W => HW.out 91 102 W)
  rw [r0] at K0
  have K1 := Lib.hid (fun W => HW.out 139 166 W)
  rw [r1] at K1
  have K2 := Lib.hid (fun W => HW.out 168 171 W)
  rw [r2] at K2
  have K3 := Lib.hid (fun W => HW.out 174 191 W)
  rw [r3] at K3
  clear HW r0 r1 r2 r3
  go_enter Try.func72, Try.ntmps72
  go_wp2_with fail
  refine (K0.out _).mono ?_
  rintro e w' ⟨rfl, rfl⟩
  go_wp2_with fail
  refine (K1.out _).mono ?_
  rintro e w' ⟨rfl, rfl⟩
  go_wp2_with fail
  refine (K2.out _).mono ?_
  rintro e w' ⟨rfl, rfl⟩
  go_wp2_with fail
  refine (K3.out _).mono ?_
  rintro e w' ⟨rfl, rfl⟩
  go_wp2
  go_ret
  exact ⟨rfl, rfl⟩
set_option maxRecDepth 100000 in
set_option maxHeartbeats 1000000 in
theorem frn_r4 (r0 : decide (91 ≤ op ∧ op ≤ 102) = false) (r1 : decide (139 ≤ op ∧ op ≤ 166) = false) (r2 : decide (168 ≤ op ∧ op ≤ 171) = false) (r3 : decide (174 ≤ op ∧ op ≤ 191) = false) (r4 : decide (256 ≤ op ∧ op ≤ 263) = true) : Calls Try.prog 72 #[.int .i64 op] w (Same1 w (.bool true)) := by
  have K0 := Lib.hid (fun W => HW.out 91 102 W)
  rw [r0] at K0
  have K1 := Lib.hid (fun W => HW.out 139 166 W)
  rw [r1] at K1
  have K2 := Lib.hid (fun W => HW.out 168 171 W)
  rw [r2] at K2
  have K3 := Lib.hid (fun W => HW.out 174 191 W)
  rw [r3] at K3
  have K4 := Lib.hid (fun W => HW.out 256 263 W)
  rw [r4] at K4
  clear HW r0 r1 r2 r3 r4
  go_enter Try.func72, Try.ntmps72
  go_wp2_with fail
  refine (K0.out _).mono ?_
  rintro e w' ⟨rfl, rfl⟩
  go_wp2_with fail
  refine (K1.out _).mono ?_
  rintro e w' ⟨rfl, rfl⟩
  go_wp2_with fail
  refine (K2.out _).mono ?_
  rintro e w' ⟨rfl, rfl⟩
  go_wp2_with fail
  refine (K3.out _).mono ?_
  rintro e w' ⟨rfl, rfl⟩
  go_wp2_with fail
  refine (K4.out _).mono ?_
  rintro e w' ⟨rfl, rfl⟩
  go_wp2
  go_ret
  exact ⟨rfl, rfl⟩
set_option maxRecDepth 100000 in
set_option maxHeartbeats 1000000 in
theorem frn_r5 (r0 : decide (91 ≤ op ∧ op ≤ 102) = false) (r1 : decide (139 ≤ op ∧ op ≤ 166) = false) (r2 : decide (168 ≤ op ∧ op ≤ 171) = false) (r3 : decide (174 ≤ op ∧ op ≤ 191) = false) (r4 : decide (256 ≤ op ∧ op ≤ 263) = false) : Calls Try.prog 72 #[.int .i64 op] w (Same1 w (.bool false)) := by
  have K0 := Lib.hid (fun W => HW.out 91 102 W)
  rw [r0] at K0
  have K1 := Lib.hid (fun W => HW.out 139 166 W)
  rw [r1] at K1
  have K2 := Lib.hid (fun W => HW.out 168 171 W)
  rw [r2] at K2
  have K3 := Lib.hid (fun W => HW.out 174 191 W)
  rw [r3] at K3
  have K4 := Lib.hid (fun W => HW.out 256 263 W)
  rw [r4] at K4
  clear HW r0 r1 r2 r3 r4
  go_enter Try.func72, Try.ntmps72
  go_wp2_with fail
  refine (K0.out _).mono ?_
  rintro e w' ⟨rfl, rfl⟩
  go_wp2_with fail
  refine (K1.out _).mono ?_
  rintro e w' ⟨rfl, rfl⟩
  go_wp2_with fail
  refine (K2.out _).mono ?_
  rintro e w' ⟨rfl, rfl⟩
  go_wp2_with fail
  refine (K3.out _).mono ?_
  rintro e w' ⟨rfl, rfl⟩
  go_wp2_with fail
  refine (K4.out _).mono ?_
  rintro e w' ⟨rfl, rfl⟩
  go_wp2
  go_ret
  exact ⟨rfl, rfl⟩
end
theorem foreign_any (op : Int) (w : World) : Calls Try.prog 72 #[.int .i64 op] w (Same1 w (.bool (wideOp op))) := by
  by_cases h28 : op = 28
  · subst h28; exact frn_28 w
  by_cases h37 : op = 37
  · subst h37; exact frn_37 w
  by_cases h38 : op = 38
  · subst h38; exact frn_38 w
  by_cases h42 : op = 42
  · subst h42; exact frn_42 w
  by_cases h43 : op = 43
  · subst h43; exact frn_43 w
  by_cases h56 : op = 56
  · subst h56; exact frn_56 w
  by_cases h57 : op = 57
  · subst h57; exact frn_57 w
  by_cases h67 : op = 67
  · subst h67; exact frn_67 w
  by_cases h68 : op = 68
  · subst h68; exact frn_68 w
  by_cases h208 : op = 208
  · subst h208; exact frn_208 w
  by_cases h209 : op = 209
  · subst h209; exact frn_209 w
  by_cases h210 : op = 210
  · subst h210; exact frn_210 w
  by_cases h253 : op = 253
  · subst h253; exact frn_253 w
  by_cases h271 : op = 271
  · subst h271; exact frn_271 w
  by_cases h272 : op = 272
  · subst h272; exact frn_272 w
  by_cases h273 : op = 273
  · subst h273; exact frn_273 w
  have HW : Hid (∀ (lo hi : Int) W, Calls Try.prog 52 #[.int .i64 op, .int .i64 lo, .int .i64 hi] W (Same1 W (.bool (decide (lo ≤ op ∧ op ≤ hi))))) := Lib.hid fun lo hi W => within_any op lo hi W
  by_cases r0 : 91 ≤ op ∧ op ≤ 102
  · rw [show wideOp op = true from decide_eq_true (by omega)]; exact frn_r0 op w (by simp [h28]) (by simp [h37]) (by simp [h38]) (by simp [h42]) (by simp [h43]) (by simp [h56]) (by simp [h57]) (by simp [h67]) (by simp [h68]) (by simp [h208]) (by simp [h209]) (by simp [h210]) (by simp [h253]) (by simp [h271]) (by simp [h272]) (by simp [h273]) HW  (decide_eq_true r0)
  by_cases r1 : 139 ≤ op ∧ op ≤ 166
  · rw [show wideOp op = true from decide_eq_true (by omega)]; exact frn_r1 op w (by simp [h28]) (by simp [h37]) (by simp [h38]) (by simp [h42]) (by simp [h43]) (by simp [h56]) (by simp [h57]) (by simp [h67]) (by simp [h68]) (by simp [h208]) (by simp [h209]) (by simp [h210]) (by simp [h253]) (by simp [h271]) (by simp [h272]) (by simp [h273]) HW (decide_eq_false r0) (decide_eq_true r1)
  by_cases r2 : 168 ≤ op ∧ op ≤ 171
  · rw [show wideOp op = true from decide_eq_true (by omega)]; exact frn_r2 op w (by simp [h28]) (by simp [h37]) (by simp [h38]) (by simp [h42]) (by simp [h43]) (by simp [h56]) (by simp [h57]) (by simp [h67]) (by simp [h68]) (by simp [h208]) (by simp [h209]) (by simp [h210]) (by simp [h253]) (by simp [h271]) (by simp [h272]) (by simp [h273]) HW (decide_eq_false r0) (decide_eq_false r1) (decide_eq_true r2)
  by_cases r3 : 174 ≤ op ∧ op ≤ 191
  · rw [show wideOp op = true from decide_eq_true (by omega)]; exact frn_r3 op w (by simp [h28]) (by simp [h37]) (by simp [h38]) (by simp [h42]) (by simp [h43]) (by simp [h56]) (by simp [h57]) (by simp [h67]) (by simp [h68]) (by simp [h208]) (by simp [h209]) (by simp [h210]) (by simp [h253]) (by simp [h271]) (by simp [h272]) (by simp [h273]) HW (decide_eq_false r0) (decide_eq_false r1) (decide_eq_false r2) (decide_eq_true r3)
  by_cases r4 : 256 ≤ op ∧ op ≤ 263
  · rw [show wideOp op = true from decide_eq_true (by omega)]; exact frn_r4 op w (by simp [h28]) (by simp [h37]) (by simp [h38]) (by simp [h42]) (by simp [h43]) (by simp [h56]) (by simp [h57]) (by simp [h67]) (by simp [h68]) (by simp [h208]) (by simp [h209]) (by simp [h210]) (by simp [h253]) (by simp [h271]) (by simp [h272]) (by simp [h273]) HW (decide_eq_false r0) (decide_eq_false r1) (decide_eq_false r2) (decide_eq_false r3) (decide_eq_true r4)
  rw [show wideOp op = false from decide_eq_false (by omega)]
  exact frn_r5 op w (by simp [h28]) (by simp [h37]) (by simp [h38]) (by simp [h42]) (by simp [h43]) (by simp [h56]) (by simp [h57]) (by simp [h67]) (by simp [h68]) (by simp [h208]) (by simp [h209]) (by simp [h210]) (by simp [h253]) (by simp [h271]) (by simp [h272]) (by simp [h273]) HW (decide_eq_false r0) (decide_eq_false r1) (decide_eq_false r2) (decide_eq_false r3) (decide_eq_false r4)
section
variable (op : Int) (w : World) (a b c : Bool)
set_option maxHeartbeats 1000000 in
theorem layer_n (HN : Hid (∀ W, Calls Try.prog 70 #[.int .i64 op] W (TyOk W a))) (h1 : a = true) : Calls Try.prog 51 #[.int .i64 op] w (FormIs w 2) := by
  subst h1
  go_enter Try.func51, Try.ntmps51
  go_wp2_with fail
  refine (HN.out _).mono ?_
  rintro e w1 ⟨u0, u1, rfl, hb1⟩
  go_wp2
  go_ret
  exact ⟨rfl, hb1⟩
set_option maxHeartbeats 1000000 in
theorem layer_p (HN : Hid (∀ W, Calls Try.prog 70 #[.int .i64 op] W (TyOk W a))) (HA : Hid (∀ W, Calls Try.prog 71 #[.int .i64 op] W (AccOk W b))) (h1 : a = false) (h2 : b = true) : Calls Try.prog 51 #[.int .i64 op] w (FormIs w 5) := by
  subst h1 h2
  go_enter Try.func51, Try.ntmps51
  go_wp2_with fail
  refine (HN.out _).mono ?_
  rintro e w1 ⟨u0, u1, rfl, hb1⟩
  go_wp2_with fail
  refine (HA.out _).mono ?_
  rintro e w2 ⟨v0, v1, v2, rfl, hb2⟩
  have hb3 := hb1.trans (hb2.mono hb1.size)
  clear hb1 hb2
  go_wp2
  go_ret
  exact ⟨rfl, hb3⟩
set_option maxHeartbeats 1000000 in
theorem layer_f (HN : Hid (∀ W, Calls Try.prog 70 #[.int .i64 op] W (TyOk W a))) (HA : Hid (∀ W, Calls Try.prog 71 #[.int .i64 op] W (AccOk W b))) (HF : Hid (∀ W, Calls Try.prog 72 #[.int .i64 op] W (Same1 W (.bool c)))) (h1 : a = false) (h2 : b = false) (h3 : c = true) : Calls Try.prog 51 #[.int .i64 op] w (FormIs w 1) := by
  subst h1 h2 h3
  go_enter Try.func51, Try.ntmps51
  go_wp2_with fail
  refine (HN.out _).mono ?_
  rintro e w1 ⟨u0, u1, rfl, hb1⟩
  go_wp2_with fail
  refine (HA.out _).mono ?_
  rintro e w2 ⟨v0, v1, v2, rfl, hb2⟩
  have hb3 := hb1.trans (hb2.mono hb1.size)
  clear hb1 hb2
  go_wp2_with fail
  refine (HF.out _).mono ?_
  rintro e w3 ⟨rfl, rfl⟩
  go_wp2
  go_ret
  exact ⟨rfl, hb3⟩
set_option maxHeartbeats 1000000 in
theorem layer_z (HN : Hid (∀ W, Calls Try.prog 70 #[.int .i64 op] W (TyOk W a))) (HA : Hid (∀ W, Calls Try.prog 71 #[.int .i64 op] W (AccOk W b))) (HF : Hid (∀ W, Calls Try.prog 72 #[.int .i64 op] W (Same1 W (.bool c)))) (h1 : a = false) (h2 : b = false) (h3 : c = false) : Calls Try.prog 51 #[.int .i64 op] w (FormIs w 0) := by
  subst h1 h2 h3
  go_enter Try.func51, Try.ntmps51
  go_wp2_with fail
  refine (HN.out _).mono ?_
  rintro e w1 ⟨u0, u1, rfl, hb1⟩
  go_wp2_with fail
  refine (HA.out _).mono ?_
  rintro e w2 ⟨v0, v1, v2, rfl, hb2⟩
  have hb3 := hb1.trans (hb2.mono hb1.size)
  clear hb1 hb2
  go_wp2_with fail
  refine (HF.out _).mono ?_
  rintro e w3 ⟨rfl, rfl⟩
  go_wp2
  go_ret
  exact ⟨rfl, hb3⟩
end
set_option maxRecDepth 100000 in
theorem frm_0 (w : World) : Calls Try.prog 30 #[.int .i64 0] w (FormIs w 2) := by
  go_enter Try.func30, Try.ntmps30
  go_wp2
  go_ret
  exact ⟨rfl, Below.refl _ _⟩
set_option maxRecDepth 100000 in
theorem frm_1 (w : World) : Calls Try.prog 30 #[.int .i64 1] w (FormIs w 2) := by
  go_enter Try.func30, Try.ntmps30
  go_wp2
  go_ret
  exact ⟨rfl, Below.refl _ _⟩
set_option maxRecDepth 100000 in
theorem frm_5 (w : World) : Calls Try.prog 30 #[.int .i64 5] w (FormIs w 2) := by
  go_enter Try.func30, Try.ntmps30
  go_wp2
  go_ret
  exact ⟨rfl, Below.refl _ _⟩
set_option maxRecDepth 100000 in
theorem frm_11 (w : World) : Calls Try.prog 30 #[.int .i64 11] w (FormIs w 2) := by
  go_enter Try.func30, Try.ntmps30
  go_wp2
  go_ret
  exact ⟨rfl, Below.refl _ _⟩
set_option maxRecDepth 100000 in
theorem frm_15 (w : World) : Calls Try.prog 30 #[.int .i64 15] w (FormIs w 2) := by
  go_enter Try.func30, Try.ntmps30
  go_wp2
  go_ret
  exact ⟨rfl, Below.refl _ _⟩
set_option maxRecDepth 100000 in
theorem frm_26 (w : World) : Calls Try.prog 30 #[.int .i64 26] w (FormIs w 2) := by
  go_enter Try.func30, Try.ntmps30
  go_wp2
  go_ret
  exact ⟨rfl, Below.refl _ _⟩
set_option maxRecDepth 100000 in
theorem frm_27 (w : World) : Calls Try.prog 30 #[.int .i64 27] w (FormIs w 2) := by
  go_enter Try.func30, Try.ntmps30
  go_wp2
  go_ret
  exact ⟨rfl, Below.refl _ _⟩
set_option maxRecDepth 100000 in
theorem frm_2 (w : World) : Calls Try.prog 30 #[.int .i64 2] w (FormIs w 3) := by
  go_enter Try.func30, Try.ntmps30
  go_wp2
  go_ret
  exact ⟨rfl, Below.refl _ _⟩
set_option maxRecDepth 100000 in
theorem frm_3 (w : World) : Calls Try.prog 30 #[.int .i64 3] w (FormIs w 3) := by
  go_enter Try.func30, Try.ntmps30
  go_wp2
  go_ret
  exact ⟨rfl, Below.refl _ _⟩
set_option maxRecDepth 100000 in
theorem frm_4 (w : World) : Calls Try.prog 30 #[.int .i64 4] w (FormIs w 3) := by
  go_enter Try.func30, Try.ntmps30
  go_wp2
  go_ret
  exact ⟨rfl, Below.refl _ _⟩
set_option maxRecDepth 100000 in
theorem frm_12 (w : World) : Calls Try.prog 30 #[.int .i64 12] w (FormIs w 4) := by
  go_enter Try.func30, Try.ntmps30
  go_wp2
  go_ret
  exact ⟨rfl, Below.refl _ _⟩
set_option maxRecDepth 100000 in
theorem frm_13 (w : World) : Calls Try.prog 30 #[.int .i64 13] w (FormIs w 4) := by
  go_enter Try.func30, Try.ntmps30
  go_wp2
  go_ret
  exact ⟨rfl, Below.refl _ _⟩
set_option maxRecDepth 100000 in
theorem frm_16 (w : World) : Calls Try.prog 30 #[.int .i64 16] w (FormIs w 4) := by
  go_enter Try.func30, Try.ntmps30
  go_wp2
  go_ret
  exact ⟨rfl, Below.refl _ _⟩
set_option maxRecDepth 100000 in
theorem frm_32 (w : World) : Calls Try.prog 30 #[.int .i64 32] w (FormIs w 4) := by
  go_enter Try.func30, Try.ntmps30
  go_wp2
  go_ret
  exact ⟨rfl, Below.refl _ _⟩
set_option maxRecDepth 100000 in
theorem frm_33 (w : World) : Calls Try.prog 30 #[.int .i64 33] w (FormIs w 4) := by
  go_enter Try.func30, Try.ntmps30
  go_wp2
  go_ret
  exact ⟨rfl, Below.refl _ _⟩
set_option maxRecDepth 100000 in
theorem frm_34 (w : World) : Calls Try.prog 30 #[.int .i64 34] w (FormIs w 4) := by
  go_enter Try.func30, Try.ntmps30
  go_wp2
  go_ret
  exact ⟨rfl, Below.refl _ _⟩
set_option maxRecDepth 100000 in
theorem frm_35 (w : World) : Calls Try.prog 30 #[.int .i64 35] w (FormIs w 4) := by
  go_enter Try.func30, Try.ntmps30
  go_wp2
  go_ret
  exact ⟨rfl, Below.refl _ _⟩
set_option maxRecDepth 100000 in
theorem frm_36 (w : World) : Calls Try.prog 30 #[.int .i64 36] w (FormIs w 4) := by
  go_enter Try.func30, Try.ntmps30
  go_wp2
  go_ret
  exact ⟨rfl, Below.refl _ _⟩
set_option maxRecDepth 100000 in
theorem frm_265 (w : World) : Calls Try.prog 30 #[.int .i64 265] w (FormIs w 4) := by
  go_enter Try.func30, Try.ntmps30
  go_wp2
  go_ret
  exact ⟨rfl, Below.refl _ _⟩
set_option maxRecDepth 100000 in
theorem frm_269 (w : World) : Calls Try.prog 30 #[.int .i64 269] w (FormIs w 4) := by
  go_enter Try.func30, Try.ntmps30
  go_wp2
  go_ret
  exact ⟨rfl, Below.refl _ _⟩
set_option maxRecDepth 100000 in
theorem frm_14 (w : World) : Calls Try.prog 30 #[.int .i64 14] w (FormIs w 6) := by
  go_enter Try.func30, Try.ntmps30
  go_wp2
  go_ret
  exact ⟨rfl, Below.refl _ _⟩
set_option maxRecDepth 100000 in
theorem frm_17 (w : World) : Calls Try.prog 30 #[.int .i64 17] w (FormIs w 5) := by
  go_enter Try.func30, Try.ntmps30
  go_wp2
  go_ret
  exact ⟨rfl, Below.refl _ _⟩
set_option maxRecDepth 100000 in
theorem frm_268 (w : World) : Calls Try.prog 30 #[.int .i64 268] w (FormIs w 5) := by
  go_enter Try.func30, Try.ntmps30
  go_wp2
  go_ret
  exact ⟨rfl, Below.refl _ _⟩
set_option maxRecDepth 100000 in
theorem frm_270 (w : World) : Calls Try.prog 30 #[.int .i64 270] w (FormIs w 5) := by
  go_enter Try.func30, Try.ntmps30
  go_wp2
  go_ret
  exact ⟨rfl, Below.refl _ _⟩
set_option maxRecDepth 100000 in
theorem frm_63 (w : World) : Calls Try.prog 30 #[.int .i64 63] w (FormIs w 7) := by
  go_enter Try.func30, Try.ntmps30
  go_wp2
  go_ret
  exact ⟨rfl, Below.refl _ _⟩
set_option maxRecDepth 100000 in
theorem frm_64 (w : World) : Calls Try.prog 30 #[.int .i64 64] w (FormIs w 7) := by
  go_enter Try.func30, Try.ntmps30
  go_wp2
  go_ret
  exact ⟨rfl, Below.refl _ _⟩
set_option maxRecDepth 100000 in
theorem frm_267 (w : World) : Calls Try.prog 30 #[.int .i64 267] w (FormIs w 7) := by
  go_enter Try.func30, Try.ntmps30
  go_wp2
  go_ret
  exact ⟨rfl, Below.refl _ _⟩
set_option maxRecDepth 100000 in
theorem frm_266 (w : World) : Calls Try.prog 30 #[.int .i64 266] w (FormIs w 8) := by
  go_enter Try.func30, Try.ntmps30
  go_wp2
  go_ret
  exact ⟨rfl, Below.refl _ _⟩
set_option maxRecDepth 100000 in
theorem frm_65 (w : World) : Calls Try.prog 30 #[.int .i64 65] w (FormIs w 10) := by
  go_enter Try.func30, Try.ntmps30
  go_wp2
  go_ret
  exact ⟨rfl, Below.refl _ _⟩
set_option maxRecDepth 100000 in
theorem frm_66 (w : World) : Calls Try.prog 30 #[.int .i64 66] w (FormIs w 11) := by
  go_enter Try.func30, Try.ntmps30
  go_wp2
  go_ret
  exact ⟨rfl, Below.refl _ _⟩
set_option maxRecDepth 100000 in
theorem frm_264 (w : World) : Calls Try.prog 30 #[.int .i64 264] w (FormIs w 9) := by
  go_enter Try.func30, Try.ntmps30
  go_wp2
  go_ret
  exact ⟨rfl, Below.refl _ _⟩
set_option maxRecDepth 100000 in
set_option maxHeartbeats 1000000 in
theorem frm_other (op : Int) (w : World) (n : Nat) (t0 : (op == 0) = false) (t1 : (op == 1) = false) (t5 : (op == 5) = false) (t11 : (op == 11) = false) (t15 : (op == 15) = false) (t26 : (op == 26) = false) (t27 : (op == 27) = false) (t2 : (op == 2) = false) (t3 : (op == 3) = false) (t4 : (op == 4) = false) (t12 : (op == 12) = false) (t13 : (op == 13) = false) (t16 : (op == 16) = false) (t32 : (op == 32) = false) (t33 : (op == 33) = false) (t34 : (op == 34) = false) (t35 : (op == 35) = false) (t36 : (op == 36) = false) (t265 : (op == 265) = false) (t269 : (op == 269) = false) (t14 : (op == 14) = false) (t17 : (op == 17) = false) (t268 : (op == 268) = false) (t270 : (op == 270) = false) (t63 : (op == 63) = false) (t64 : (op == 64) = false) (t267 : (op == 267) = false) (t266 : (op == 266) = false) (t65 : (op == 65) = false) (t66 : (op == 66) = false) (t264 : (op == 264) = false) (HL : Hid (∀ W, Calls Try.prog 51 #[.int .i64 op] W (FormIs W n))) : Calls Try.prog 30 #[.int .i64 op] w (FormIs w n) := by
  go_enter Try.func30, Try.ntmps30
  go_wp2_with fail
  refine (HL.out _).mono ?_
  rintro e w1 ⟨rfl, hb1⟩
  go_wp2
  go_ret
  exact ⟨rfl, hb1⟩
theorem form_any (op : Int) (w : World) : Calls Try.prog 30 #[.int .i64 op] w (FormIs w (formN op)) := by
  by_cases h0 : op = 0
  · subst h0; exact frm_0 w
  by_cases h1 : op = 1
  · subst h1; exact frm_1 w
  by_cases h5 : op = 5
  · subst h5; exact frm_5 w
  by_cases h11 : op = 11
  · subst h11; exact frm_11 w
  by_cases h15 : op = 15
  · subst h15; exact frm_15 w
  by_cases h26 : op = 26
  · subst h26; exact frm_26 w
  by_cases h27 : op = 27
  · subst h27; exact frm_27 w
  by_cases h2 : op = 2
  · subst h2; exact frm_2 w
  by_cases h3 : op = 3
  · subst h3; exact frm_3 w
  by_cases h4 : op = 4
  · subst h4; exact frm_4 w
  by_cases h12 : op = 12
  · subst h12; exact frm_12 w
  by_cases h13 : op = 13
  · subst h13; exact frm_13 w
  by_cases h16 : op = 16
  · subst h16; exact frm_16 w
  by_cases h32 : op = 32
  · subst h32; exact frm_32 w
  by_cases h33 : op = 33
  · subst h33; exact frm_33 w
  by_cases h34 : op = 34
  · subst h34; exact frm_34 w
  by_cases h35 : op = 35
  · subst h35; exact frm_35 w
  by_cases h36 : op = 36
  · subst h36; exact frm_36 w
  by_cases h265 : op = 265
  · subst h265; exact frm_265 w
  by_cases h269 : op = 269
  · subst h269; exact frm_269 w
  by_cases h14 : op = 14
  · subst h14; exact frm_14 w
  by_cases h17 : op = 17
  · subst h17; exact frm_17 w
  by_cases h268 : op = 268
  · subst h268; exact frm_268 w
  by_cases h270 : op = 270
  · subst h270; exact frm_270 w
  by_cases h63 : op = 63
  · subst h63; exact frm_63 w
  by_cases h64 : op = 64
  · subst h64; exact frm_64 w
  by_cases h267 : op = 267
  · subst h267; exact frm_267 w
  by_cases h266 : op = 266
  · subst h266; exact frm_266 w
  by_cases h65 : op = 65
  · subst h65; exact frm_65 w
  by_cases h66 : op = 66
  · subst h66; exact frm_66 w
  by_cases h264 : op = 264
  · subst h264; exact frm_264 w
  have hnm : named op = none := by
    unfold named
    rw [if_neg (by omega), if_neg (by omega), if_neg (by omega), if_neg (by omega), if_neg (by omega), if_neg (by omega), if_neg (by omega), if_neg (by omega), if_neg (by omega), if_neg (by omega)]
  have HL : Hid (∀ W, Calls Try.prog 51 #[.int .i64 op] W (FormIs W (formN op))) := Lib.hid fun W => by
    have HN := Lib.hid (fun W => types_any op W)
    have HA := Lib.hid (fun W => access_any op W)
    have HF := Lib.hid (fun W => foreign_any op W)
    unfold formN pat
    rw [hnm]
    by_cases c1 : numOp op = true
    · have d1 := of_decide_eq_true c1
      rw [if_neg (by rw [show wideOp op = false from decide_eq_false (by omega)]; simp), if_neg (by rw [show accOp op = false from decide_eq_false (by omega)]; simp), if_pos c1]
      exact layer_n op W _ HN c1
    by_cases c2 : accOp op = true
    · have d2 := of_decide_eq_true c2
      rw [if_neg (by rw [show wideOp op = false from decide_eq_false (by omega)]; simp), if_pos c2]
      exact layer_p op W _ _ HN HA (Bool.eq_false_iff.2 c1) c2
    by_cases c3 : wideOp op = true
    · rw [if_pos c3]
      exact layer_f op W _ _ _ HN HA HF (Bool.eq_false_iff.2 c1) (Bool.eq_false_iff.2 c2) c3
    · rw [if_neg c3, if_neg c2, if_neg c1]
      exact layer_z op W _ _ _ HN HA HF (Bool.eq_false_iff.2 c1) (Bool.eq_false_iff.2 c2) (Bool.eq_false_iff.2 c3)
  exact frm_other op w _ (by simp [h0]) (by simp [h1]) (by simp [h5]) (by simp [h11]) (by simp [h15]) (by simp [h26]) (by simp [h27]) (by simp [h2]) (by simp [h3]) (by simp [h4]) (by simp [h12]) (by simp [h13]) (by simp [h16]) (by simp [h32]) (by simp [h33]) (by simp [h34]) (by simp [h35]) (by simp [h36]) (by simp [h265]) (by simp [h269]) (by simp [h14]) (by simp [h17]) (by simp [h268]) (by simp [h270]) (by simp [h63]) (by simp [h64]) (by simp [h267]) (by simp [h266]) (by simp [h65]) (by simp [h66]) (by simp [h264]) HL
end Go.Proofs.Ytdipgokbfjbgfaa.Ins
