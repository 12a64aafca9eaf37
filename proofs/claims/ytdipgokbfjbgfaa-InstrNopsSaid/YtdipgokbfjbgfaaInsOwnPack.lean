/-
  pack.Access: is a code one of its own? No condition.
-/
import Derived.Test.YtdipgokbfjbgfaaInsMem
import Derived.Test.YtdipgokbfjbgfaaTypPlainOwn
namespace Go.Proofs.Ytdipgokbfjbgfaa.Ins
open Go.RowKit Leb Typ

def FindK (w : World) (k : Int) (e : Ending) (w' : World) : Prop := ∃ t s : Int, e = .returned (.agg #[.int .i64 t, .int .i64 s, .int .i64 k]) ∧ Below w.heap.size w w'
def AccOk (w : World) (b : Bool) (e : Ending) (w' : World) : Prop := ∃ v0 v1 v2, e = .returned (.tuple #[v0, v1, v2, .bool b]) ∧ Below w.heap.size w w'
set_option maxRecDepth 100000 in
theorem fnd_40 (w : World) : Calls Try.prog 91 #[.int .i64 40] w (FindK w 1) := by
  go_enter Try.func91, Try.ntmps91
  go_wp2
  exact bodyPost_ret (v := .agg #[.int .i64 127, .int .i64 4, .int .i64 1]) (by simp [results, Try.results91, go_sem]) rfl ⟨_, _, rfl, (Below.refl _ _).alloc (Nat.le_refl _) _⟩
set_option maxRecDepth 100000 in
theorem fnd_41 (w : World) : Calls Try.prog 91 #[.int .i64 41] w (FindK w 1) := by
  go_enter Try.func91, Try.ntmps91
  go_wp2
  exact bodyPost_ret (v := .agg #[.int .i64 126, .int .i64 8, .int .i64 1]) (by simp [results, Try.results91, go_sem]) rfl ⟨_, _, rfl, (Below.refl _ _).alloc (Nat.le_refl _) _⟩
set_option maxRecDepth 100000 in
theorem fnd_44 (w : World) : Calls Try.prog 91 #[.int .i64 44] w (FindK w 2) := by
  go_enter Try.func91, Try.ntmps91
  go_wp2
  exact bodyPost_ret (v := .agg #[.int .i64 127, .int .i64 1, .int .i64 2]) (by simp [results, Try.results91, go_sem]) rfl ⟨_, _, rfl, (Below.refl _ _).alloc (Nat.le_refl _) _⟩
set_option maxRecDepth 100000 in
theorem fnd_45 (w : World) : Calls Try.prog 91 #[.int .i64 45] w (FindK w 1) := by
  go_enter Try.func91, Try.ntmps91
  go_wp2
  exact bodyPost_ret (v := .agg #[.int .i64 127, .int .i64 1, .int .i64 1]) (by simp [results, Try.results91, go_sem]) rfl ⟨_, _, rfl, (Below.refl _ _).alloc (Nat.le_refl _) _⟩
set_option maxRecDepth 100000 in
theorem fnd_46 (w : World) : Calls Try.prog 91 #[.int .i64 46] w (FindK w 2) := by
  go_enter Try.func91, Try.ntmps91
  go_wp2
  exact bodyPost_ret (v := .agg #[.int .i64 127, .int .i64 2, .int .i64 2]) (by simp [results, Try.results91, go_sem]) rfl ⟨_, _, rfl, (Below.refl _ _).alloc (Nat.le_refl _) _⟩
set_option maxRecDepth 100000 in
theorem fnd_47 (w : World) : Calls Try.prog 91 #[.int .i64 47] w (FindK w 1) := by
  go_enter Try.func91, Try.ntmps91
  go_wp2
  exact bodyPost_ret (v := .agg #[.int .i64 127, .int .i64 2, .int .i64 1]) (by simp [results, Try.results91, go_sem]) rfl ⟨_, _, rfl, (Below.refl _ _).alloc (Nat.le_refl _) _⟩
set_option maxRecDepth 100000 in
theorem fnd_48 (w : World) : Calls Try.prog 91 #[.int .i64 48] w (FindK w 2) := by
  go_enter Try.func91, Try.ntmps91
  go_wp2
  exact bodyPost_ret (v := .agg #[.int .i64 126, .int .i64 1, .int .i64 2]) (by simp [results, Try.results91, go_sem]) rfl ⟨_, _, rfl, (Below.refl _ _).alloc (Nat.le_refl _) _⟩
set_option maxRecDepth 100000 in
theorem fnd_49 (w : World) : Calls Try.prog 91 #[.int .i64 49] w (FindK w 1) := by
  go_enter Try.func91, Try.ntmps91
  go_wp2
  exact bodyPost_ret (v := .agg #[.int .i64 126, .int .i64 1, .int .i64 1]) (by simp [results, Try.results91, go_sem]) rfl ⟨_, _, rfl, (Below.refl _ _).alloc (Nat.le_refl _) _⟩
set_option maxRecDepth 100000 in
theorem fnd_50 (w : World) : Calls Try.prog 91 #[.int .i64 50] w (FindK w 2) := by
  go_enter Try.func91, Try.ntmps91
  go_wp2
  exact bodyPost_ret (v := .agg #[.int .i64 126, .int .i64 2, .int .i64 2]) (by simp [results, Try.results91, go_sem]) rfl ⟨_, _, rfl, (Below.refl _ _).alloc (Nat.le_refl _) _⟩
set_option maxRecDepth 100000 in
theorem fnd_51 (w : World) : Calls Try.prog 91 #[.int .i64 51] w (FindK w 1) := by
  go_enter Try.func91, Try.ntmps91
  go_wp2
  exact bodyPost_ret (v := .agg #[.int .i64 126, .int .i64 2, .int .i64 1]) (by simp [results, Try.results91, go_sem]) rfl ⟨_, _, rfl, (Below.refl _ _).alloc (Nat.le_refl _) _⟩
set_option maxRecDepth 100000 in
theorem fnd_52 (w : World) : Calls Try.prog 91 #[.int .i64 52] w (FindK w 2) := by
  go_enter Try.func91, Try.ntmps91
  go_wp2
  exact bodyPost_ret (v := .agg #[.int .i64 126, .int .i64 4, .int .i64 2]) (by simp [results, Try.results91, go_sem]) rfl ⟨_, _, rfl, (Below.refl _ _).alloc (Nat.le_refl _) _⟩
set_option maxRecDepth 100000 in
theorem fnd_53 (w : World) : Calls Try.prog 91 #[.int .i64 53] w (FindK w 1) := by
  go_enter Try.func91, Try.ntmps91
  go_wp2
  exact bodyPost_ret (v := .agg #[.int .i64 126, .int .i64 4, .int .i64 1]) (by simp [results, Try.results91, go_sem]) rfl ⟨_, _, rfl, (Below.refl _ _).alloc (Nat.le_refl _) _⟩
set_option maxRecDepth 100000 in
theorem fnd_54 (w : World) : Calls Try.prog 91 #[.int .i64 54] w (FindK w 3) := by
  go_enter Try.func91, Try.ntmps91
  go_wp2
  exact bodyPost_ret (v := .agg #[.int .i64 127, .int .i64 4, .int .i64 3]) (by simp [results, Try.results91, go_sem]) rfl ⟨_, _, rfl, (Below.refl _ _).alloc (Nat.le_refl _) _⟩
set_option maxRecDepth 100000 in
theorem fnd_55 (w : World) : Calls Try.prog 91 #[.int .i64 55] w (FindK w 3) := by
  go_enter Try.func91, Try.ntmps91
  go_wp2
  exact bodyPost_ret (v := .agg #[.int .i64 126, .int .i64 8, .int .i64 3]) (by simp [results, Try.results91, go_sem]) rfl ⟨_, _, rfl, (Below.refl _ _).alloc (Nat.le_refl _) _⟩
set_option maxRecDepth 100000 in
theorem fnd_58 (w : World) : Calls Try.prog 91 #[.int .i64 58] w (FindK w 3) := by
  go_enter Try.func91, Try.ntmps91
  go_wp2
  exact bodyPost_ret (v := .agg #[.int .i64 127, .int .i64 1, .int .i64 3]) (by simp [results, Try.results91, go_sem]) rfl ⟨_, _, rfl, (Below.refl _ _).alloc (Nat.le_refl _) _⟩
set_option maxRecDepth 100000 in
theorem fnd_59 (w : World) : Calls Try.prog 91 #[.int .i64 59] w (FindK w 3) := by
  go_enter Try.func91, Try.ntmps91
  go_wp2
  exact bodyPost_ret (v := .agg #[.int .i64 127, .int .i64 2, .int .i64 3]) (by simp [results, Try.results91, go_sem]) rfl ⟨_, _, rfl, (Below.refl _ _).alloc (Nat.le_refl _) _⟩
set_option maxRecDepth 100000 in
theorem fnd_60 (w : World) : Calls Try.prog 91 #[.int .i64 60] w (FindK w 3) := by
  go_enter Try.func91, Try.ntmps91
  go_wp2
  exact bodyPost_ret (v := .agg #[.int .i64 126, .int .i64 1, .int .i64 3]) (by simp [results, Try.results91, go_sem]) rfl ⟨_, _, rfl, (Below.refl _ _).alloc (Nat.le_refl _) _⟩
set_option maxRecDepth 100000 in
theorem fnd_61 (w : World) : Calls Try.prog 91 #[.int .i64 61] w (FindK w 3) := by
  go_enter Try.func91, Try.ntmps91
  go_wp2
  exact bodyPost_ret (v := .agg #[.int .i64 126, .int .i64 2, .int .i64 3]) (by simp [results, Try.results91, go_sem]) rfl ⟨_, _, rfl, (Below.refl _ _).alloc (Nat.le_refl _) _⟩
set_option maxRecDepth 100000 in
theorem fnd_62 (w : World) : Calls Try.prog 91 #[.int .i64 62] w (FindK w 3) := by
  go_enter Try.func91, Try.ntmps91
  go_wp2
  exact bodyPost_ret (v := .agg #[.int .i64 126, .int .i64 4, .int .i64 3]) (by simp [results, Try.results91, go_sem]) rfl ⟨_, _, rfl, (Below.refl _ _).alloc (Nat.le_refl _) _⟩
set_option maxRecDepth 100000 in
set_option maxHeartbeats 1000000 in
theorem fnd_none (op : Int) (w : World) (h : op ≠ 40 ∧ op ≠ 41 ∧ op ≠ 44 ∧ op ≠ 45 ∧ op ≠ 46 ∧ op ≠ 47 ∧ op ≠ 48 ∧ op ≠ 49 ∧ op ≠ 50 ∧ op ≠ 51 ∧ op ≠ 52 ∧ op ≠ 53 ∧ op ≠ 54 ∧ op ≠ 55 ∧ op ≠ 58 ∧ op ≠ 59 ∧ op ≠ 60 ∧ op ≠ 61 ∧ op ≠ 62) : Calls Try.prog 91 #[.int .i64 op] w (FindK w 0) := by
  have t40 : (op == 40) = false := by simp; omega
  have t41 : (op == 41) = false := by simp; omega
  have t44 : (op == 44) = false := by simp; omega
  have t45 : (op == 45) = false := by simp; omega
  have t46 : (op == 46) = false := by simp; omega
  have t47 : (op == 47) = false := by simp; omega
  have t48 : (op == 48) = false := by simp; omega
  have t49 : (op == 49) = false := by simp; omega
  have t50 : (op == 50) = false := by simp; omega
  have t51 : (op == 51) = false := by simp; omega
  have t52 : (op == 52) = false := by simp; omega
  have t53 : (op == 53) = false := by simp; omega
  have t54 : (op == 54) = false := by simp; omega
  have t55 : (op == 55) = false := by simp; omega
  have t58 : (op == 58) = false := by simp; omega
  have t59 : (op == 59) = false := by simp; omega
  have t60 : (op == 60) = false := by simp; omega
  have t61 : (op == 61) = false := by simp; omega
  have t62 : (op == 62) = false := by simp; omega
  clear h
  go_enter Try.func91, Try.ntmps91
  go_wp2
  exact bodyPost_ret (v := .agg #[.int .i64 0, .int .i64 0, .int .i64 0]) (by simp [results, Try.results91, go_sem]) rfl ⟨_, _, rfl, (Below.refl _ _).alloc (Nat.le_refl _) _⟩
set_option maxHeartbeats 1000000 in
theorem acc_0 (op : Int) (w : World) (HF : Hid (∀ V, Calls Try.prog 91 #[.int .i64 op] V (FindK V 0))) : Calls Try.prog 71 #[.int .i64 op] w (AccOk w false) := by
  go_enter Try.func71, Try.ntmps71
  go_wp2_with fail
  refine (HF.out _).mono ?_
  rintro e w1 ⟨t, s, rfl, hb1⟩
  have hb2 : Below w.heap.size w (w1.alloc (.cells #[.int .i64 t, .int .i64 s, .int .i64 0] 128)) := hb1.alloc hb1.size _
  go_wp2_with fail
  go_quiet (fail)
  go_wp2
  exact bodyPost_ret (v := .tuple #[.int .i64 t, .int .i64 s, .bool false, .bool false]) (by simp [results, Try.results71, go_sem]) rfl ⟨_, _, _, rfl, below_drewN hb2 _⟩
set_option maxHeartbeats 1000000 in
theorem acc_1 (op : Int) (w : World) (HF : Hid (∀ V, Calls Try.prog 91 #[.int .i64 op] V (FindK V 1))) : Calls Try.prog 71 #[.int .i64 op] w (AccOk w true) := by
  go_enter Try.func71, Try.ntmps71
  go_wp2_with fail
  refine (HF.out _).mono ?_
  rintro e w1 ⟨t, s, rfl, hb1⟩
  have hb2 : Below w.heap.size w (w1.alloc (.cells #[.int .i64 t, .int .i64 s, .int .i64 1] 128)) := hb1.alloc hb1.size _
  go_wp2_with fail
  go_quiet (fail)
  go_wp2
  exact bodyPost_ret (v := .tuple #[.int .i64 t, .int .i64 s, .bool false, .bool true]) (by simp [results, Try.results71, go_sem]) rfl ⟨_, _, _, rfl, below_drewN hb2 _⟩
set_option maxHeartbeats 1000000 in
theorem acc_2 (op : Int) (w : World) (HF : Hid (∀ V, Calls Try.prog 91 #[.int .i64 op] V (FindK V 2))) : Calls Try.prog 71 #[.int .i64 op] w (AccOk w true) := by
  go_enter Try.func71, Try.ntmps71
  go_wp2_with fail
  refine (HF.out _).mono ?_
  rintro e w1 ⟨t, s, rfl, hb1⟩
  have hb2 : Below w.heap.size w (w1.alloc (.cells #[.int .i64 t, .int .i64 s, .int .i64 2] 128)) := hb1.alloc hb1.size _
  go_wp2_with fail
  go_quiet (fail)
  go_wp2
  exact bodyPost_ret (v := .tuple #[.int .i64 t, .int .i64 s, .bool false, .bool true]) (by simp [results, Try.results71, go_sem]) rfl ⟨_, _, _, rfl, below_drewN hb2 _⟩
set_option maxHeartbeats 1000000 in
theorem acc_3 (op : Int) (w : World) (HF : Hid (∀ V, Calls Try.prog 91 #[.int .i64 op] V (FindK V 3))) : Calls Try.prog 71 #[.int .i64 op] w (AccOk w true) := by
  go_enter Try.func71, Try.ntmps71
  go_wp2_with fail
  refine (HF.out _).mono ?_
  rintro e w1 ⟨t, s, rfl, hb1⟩
  have hb2 : Below w.heap.size w (w1.alloc (.cells #[.int .i64 t, .int .i64 s, .int .i64 3] 128)) := hb1.alloc hb1.size _
  go_wp2_with fail
  go_quiet (fail)
  go_wp2
  exact bodyPost_ret (v := .tuple #[.int .i64 t, .int .i64 s, .bool true, .bool true]) (by simp [results, Try.results71, go_sem]) rfl ⟨_, _, _, rfl, below_drewN hb2 _⟩
theorem access_any (op : Int) (w : World) : Calls Try.prog 71 #[.int .i64 op] w (AccOk w (accOp op)) := by
  by_cases h40 : op = 40
  · subst h40; exact acc_1 _ w (Lib.hid fun V => fnd_40 V)
  by_cases h41 : op = 41
  · subst h41; exact acc_1 _ w (Lib.hid fun V => fnd_41 V)
  by_cases h44 : op = 44
  · subst h44; exact acc_2 _ w (Lib.hid fun V => fnd_44 V)
  by_cases h45 : op = 45
  · subst h45; exact acc_1 _ w (Lib.hid fun V => fnd_45 V)
  by_cases h46 : op = 46
  · subst h46; exact acc_2 _ w (Lib.hid fun V => fnd_46 V)
  by_cases h47 : op = 47
  · subst h47; exact acc_1 _ w (Lib.hid fun V => fnd_47 V)
  by_cases h48 : op = 48
  · subst h48; exact acc_2 _ w (Lib.hid fun V => fnd_48 V)
  by_cases h49 : op = 49
  · subst h49; exact acc_1 _ w (Lib.hid fun V => fnd_49 V)
  by_cases h50 : op = 50
  · subst h50; exact acc_2 _ w (Lib.hid fun V => fnd_50 V)
  by_cases h51 : op = 51
  · subst h51; exact acc_1 _ w (Lib.hid fun V => fnd_51 V)
  by_cases h52 : op = 52
  · subst h52; exact acc_2 _ w (Lib.hid fun V => fnd_52 V)
  by_cases h53 : op = 53
  · subst h53; exact acc_1 _ w (Lib.hid fun V => fnd_53 V)
  by_cases h54 : op = 54
  · subst h54; exact acc_3 _ w (Lib.hid fun V => fnd_54 V)
  by_cases h55 : op = 55
  · subst h55; exact acc_3 _ w (Lib.hid fun V => fnd_55 V)
  by_cases h58 : op = 58
  · subst h58; exact acc_3 _ w (Lib.hid fun V => fnd_58 V)
  by_cases h59 : op = 59
  · subst h59; exact acc_3 _ w (Lib.hid fun V => fnd_59 V)
  by_cases h60 : op = 60
  · subst h60; exact acc_3 _ w (Lib.hid fun V => fnd_60 V)
  by_cases h61 : op = 61
  · subst h61; exact acc_3 _ w (Lib.hid fun V => fnd_61 V)
  by_cases h62 : op = 62
  · subst h62; exact acc_3 _ w (Lib.hid fun V => fnd_62 V)
  rw [show accOp op = false from decide_eq_false (by omega)]
  exact acc_0 op w (Lib.hid fun V => fnd_none op V ⟨h40, h41, h44, h45, h46, h47, h48, h49, h50, h51, h52, h53, h54, h55, h58, h59, h60, h61, h62⟩)
end Go.Proofs.Ytdipgokbfjbgfaa.Ins
