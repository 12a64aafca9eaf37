/-
  pack.find: what it comes to, for every code. No condition.
-/
import Derived.Test.YtaagingcjmkcdaaPackRef
namespace Go.Proofs.Ytaagingcjmkcdaa.Pack
open Go.RowKit Leb

/-- What find answers: the type, the bytes, 0 (none), 1 (a load), 2 (a load, signed), 3 (a store). -/
def findVal (op : Int) : Int × Nat × Nat :=
  match kindOf op with
  | none => (0, 0, 0)
  | some k => (if k.bits = 32 then 127 else 126, k.bytes, if k.store then 3 else if k.signed then 2 else 1)
def FindIs (w : World) (r : Int × Nat × Nat) (e : Ending) (w' : World) : Prop := e = .returned (.agg #[.int .i64 r.1, .int .i64 (r.2.1 : Int), .int .i64 (r.2.2 : Int)]) ∧ Below w.heap.size w w'
set_option maxRecDepth 100000 in
theorem find_40 (wo : World) : Calls Try.prog 15 #[.int .i64 40] wo (FindIs wo (findVal 40)) := by
  rw [show findVal 40 = (127, 4, 1) from by decide]
  go_enter Try.func15, Try.ntmps15
  go_wp2
  exact bodyPost_ret (v := .agg #[.int .i64 127, .int .i64 4, .int .i64 1]) (by simp [results, Try.results15, go_sem]) rfl ⟨rfl, (Below.refl _ _).alloc (Nat.le_refl _) _⟩
set_option maxRecDepth 100000 in
theorem find_41 (wo : World) : Calls Try.prog 15 #[.int .i64 41] wo (FindIs wo (findVal 41)) := by
  rw [show findVal 41 = (126, 8, 1) from by decide]
  go_enter Try.func15, Try.ntmps15
  go_wp2
  exact bodyPost_ret (v := .agg #[.int .i64 126, .int .i64 8, .int .i64 1]) (by simp [results, Try.results15, go_sem]) rfl ⟨rfl, (Below.refl _ _).alloc (Nat.le_refl _) _⟩
set_option maxRecDepth 100000 in
theorem find_44 (wo : World) : Calls Try.prog 15 #[.int .i64 44] wo (FindIs wo (findVal 44)) := by
  rw [show findVal 44 = (127, 1, 2) from by decide]
  go_enter Try.func15, Try.ntmps15
  go_wp2
  exact bodyPost_ret (v := .agg #[.int .i64 127, .int .i64 1, .int .i64 2]) (by simp [results, Try.results15, go_sem]) rfl ⟨rfl, (Below.refl _ _).alloc (Nat.le_refl _) _⟩
set_option maxRecDepth 100000 in
theorem find_45 (wo : World) : Calls Try.prog 15 #[.int .i64 45] wo (FindIs wo (findVal 45)) := by
  rw [show findVal 45 = (127, 1, 1) from by decide]
  go_enter Try.func15, Try.ntmps15
  go_wp2
  exact bodyPost_ret (v := .agg #[.int .i64 127, .int .i64 1, .int .i64 1]) (by simp [results, Try.results15, go_sem]) rfl ⟨rfl, (Below.refl _ _).alloc (Nat.le_refl _) _⟩
set_option maxRecDepth 100000 in
theorem find_46 (wo : World) : Calls Try.prog 15 #[.int .i64 46] wo (FindIs wo (findVal 46)) := by
  rw [show findVal 46 = (127, 2, 2) from by decide]
  go_enter Try.func15, Try.ntmps15
  go_wp2
  exact bodyPost_ret (v := .agg #[.int .i64 127, .int .i64 2, .int .i64 2]) (by simp [results, Try.results15, go_sem]) rfl ⟨rfl, (Below.refl _ _).alloc (Nat.le_refl _) _⟩
set_option maxRecDepth 100000 in
theorem find_47 (wo : World) : Calls Try.prog 15 #[.int .i64 47] wo (FindIs wo (findVal 47)) := by
  rw [show findVal 47 = (127, 2, 1) from by decide]
  go_enter Try.func15, Try.ntmps15
  go_wp2
  exact bodyPost_ret (v := .agg #[.int .i64 127, .int .i64 2, .int .i64 1]) (by simp [results, Try.results15, go_sem]) rfl ⟨rfl, (Below.refl _ _).alloc (Nat.le_refl _) _⟩
set_option maxRecDepth 100000 in
theorem find_48 (wo : World) : Calls Try.prog 15 #[.int .i64 48] wo (FindIs wo (findVal 48)) := by
  rw [show findVal 48 = (126, 1, 2) from by decide]
  go_enter Try.func15, Try.ntmps15
  go_wp2
  exact bodyPost_ret (v := .agg #[.int .i64 126, .int .i64 1, .int .i64 2]) (by simp [results, Try.results15, go_sem]) rfl ⟨rfl, (Below.refl _ _).alloc (Nat.le_refl _) _⟩
set_option maxRecDepth 100000 in
theorem find_49 (wo : World) : Calls Try.prog 15 #[.int .i64 49] wo (FindIs wo (findVal 49)) := by
  rw [show findVal 49 = (126, 1, 1) from by decide]
  go_enter Try.func15, Try.ntmps15
  go_wp2
  exact bodyPost_ret (v := .agg #[.int .i64 126, .int .i64 1, .int .i64 1]) (by simp [results, Try.results15, go_sem]) rfl ⟨rfl, (Below.refl _ _).alloc (Nat.le_refl _) _⟩
set_option maxRecDepth 100000 in
theorem find_50 (wo : World) : Calls Try.prog 15 #[.int .i64 50] wo (FindIs wo (findVal 50)) := by
  rw [show findVal 50 = (126, 2, 2) from by decide]
  go_enter Try.func15, Try.ntmps15
  go_wp2
  exact bodyPost_ret (v := .agg #[.int .i64 126, .int .i64 2, .int .i64 2]) (by simp [results, Try.results15, go_sem]) rfl ⟨rfl, (Below.refl _ _).alloc (Nat.le_refl _) _⟩
set_option maxRecDepth 100000 in
theorem find_51 (wo : World) : Calls Try.prog 15 #[.int .i64 51] wo (FindIs wo (findVal 51)) := by
  rw [show findVal 51 = (126, 2, 1) from by decide]
  go_enter Try.func15, Try.ntmps15
  go_wp2
  exact bodyPost_ret (v := .agg #[.int .i64 126, .int .i64 2, .int .i64 1]) (by simp [results, Try.results15, go_sem]) rfl ⟨rfl, (Below.refl _ _).alloc (Nat.le_refl _) _⟩
set_option maxRecDepth 100000 in
theorem find_52 (wo : World) : Calls Try.prog 15 #[.int .i64 52] wo (FindIs wo (findVal 52)) := by
  rw [show findVal 52 = (126, 4, 2) from by decide]
  go_enter Try.func15, Try.ntmps15
  go_wp2
  exact bodyPost_ret (v := .agg #[.int .i64 126, .int .i64 4, .int .i64 2]) (by simp [results, Try.results15, go_sem]) rfl ⟨rfl, (Below.refl _ _).alloc (Nat.le_refl _) _⟩
set_option maxRecDepth 100000 in
theorem find_53 (wo : World) : Calls Try.prog 15 #[.int .i64 53] wo (FindIs wo (findVal 53)) := by
  rw [show findVal 53 = (126, 4, 1) from by decide]
  go_enter Try.func15, Try.ntmps15
  go_wp2
  exact bodyPost_ret (v := .agg #[.int .i64 126, .int .i64 4, .int .i64 1]) (by simp [results, Try.results15, go_sem]) rfl ⟨rfl, (Below.refl _ _).alloc (Nat.le_refl _) _⟩
set_option maxRecDepth 100000 in
theorem find_54 (wo : World) : Calls Try.prog 15 #[.int .i64 54] wo (FindIs wo (findVal 54)) := by
  rw [show findVal 54 = (127, 4, 3) from by decide]
  go_enter Try.func15, Try.ntmps15
  go_wp2
  exact bodyPost_ret (v := .agg #[.int .i64 127, .int .i64 4, .int .i64 3]) (by simp [results, Try.results15, go_sem]) rfl ⟨rfl, (Below.refl _ _).alloc (Nat.le_refl _) _⟩
set_option maxRecDepth 100000 in
theorem find_55 (wo : World) : Calls Try.prog 15 #[.int .i64 55] wo (FindIs wo (findVal 55)) := by
  rw [show findVal 55 = (126, 8, 3) from by decide]
  go_enter Try.func15, Try.ntmps15
  go_wp2
  exact bodyPost_ret (v := .agg #[.int .i64 126, .int .i64 8, .int .i64 3]) (by simp [results, Try.results15, go_sem]) rfl ⟨rfl, (Below.refl _ _).alloc (Nat.le_refl _) _⟩
set_option maxRecDepth 100000 in
theorem find_58 (wo : World) : Calls Try.prog 15 #[.int .i64 58] wo (FindIs wo (findVal 58)) := by
  rw [show findVal 58 = (127, 1, 3) from by decide]
  go_enter Try.func15, Try.ntmps15
  go_wp2
  exact bodyPost_ret (v := .agg #[.int .i64 127, .int .i64 1, .int .i64 3]) (by simp [results, Try.results15, go_sem]) rfl ⟨rfl, (Below.refl _ _).alloc (Nat.le_refl _) _⟩
set_option maxRecDepth 100000 in
theorem find_59 (wo : World) : Calls Try.prog 15 #[.int .i64 59] wo (FindIs wo (findVal 59)) := by
  rw [show findVal 59 = (127, 2, 3) from by decide]
  go_enter Try.func15, Try.ntmps15
  go_wp2
  exact bodyPost_ret (v := .agg #[.int .i64 127, .int .i64 2, .int .i64 3]) (by simp [results, Try.results15, go_sem]) rfl ⟨rfl, (Below.refl _ _).alloc (Nat.le_refl _) _⟩
set_option maxRecDepth 100000 in
theorem find_60 (wo : World) : Calls Try.prog 15 #[.int .i64 60] wo (FindIs wo (findVal 60)) := by
  rw [show findVal 60 = (126, 1, 3) from by decide]
  go_enter Try.func15, Try.ntmps15
  go_wp2
  exact bodyPost_ret (v := .agg #[.int .i64 126, .int .i64 1, .int .i64 3]) (by simp [results, Try.results15, go_sem]) rfl ⟨rfl, (Below.refl _ _).alloc (Nat.le_refl _) _⟩
set_option maxRecDepth 100000 in
theorem find_61 (wo : World) : Calls Try.prog 15 #[.int .i64 61] wo (FindIs wo (findVal 61)) := by
  rw [show findVal 61 = (126, 2, 3) from by decide]
  go_enter Try.func15, Try.ntmps15
  go_wp2
  exact bodyPost_ret (v := .agg #[.int .i64 126, .int .i64 2, .int .i64 3]) (by simp [results, Try.results15, go_sem]) rfl ⟨rfl, (Below.refl _ _).alloc (Nat.le_refl _) _⟩
set_option maxRecDepth 100000 in
theorem find_62 (wo : World) : Calls Try.prog 15 #[.int .i64 62] wo (FindIs wo (findVal 62)) := by
  rw [show findVal 62 = (126, 4, 3) from by decide]
  go_enter Try.func15, Try.ntmps15
  go_wp2
  exact bodyPost_ret (v := .agg #[.int .i64 126, .int .i64 4, .int .i64 3]) (by simp [results, Try.results15, go_sem]) rfl ⟨rfl, (Below.refl _ _).alloc (Nat.le_refl _) _⟩
set_option maxRecDepth 100000 in
set_option maxHeartbeats 1000000 in
theorem find_none (op : Int) (wo : World) (h : op ≠ 40 ∧ op ≠ 41 ∧ op ≠ 44 ∧ op ≠ 45 ∧ op ≠ 46 ∧ op ≠ 47 ∧ op ≠ 48 ∧ op ≠ 49 ∧ op ≠ 50 ∧ op ≠ 51 ∧ op ≠ 52 ∧ op ≠ 53 ∧ op ≠ 54 ∧ op ≠ 55 ∧ op ≠ 58 ∧ op ≠ 59 ∧ op ≠ 60 ∧ op ≠ 61 ∧ op ≠ 62) :
    Calls Try.prog 15 #[.int .i64 op] wo (FindIs wo (0, 0, 0)) := by
  have t40 : (op == 40) = false := by simp; omega
  have t41 : (op == 41) = false := by simp; omega
  have t44 : (op == 44) = false := by simp; omega
  have t45 : (op == 45) = false := by simp; omega
  have t46 : (op == 46) = false := by simp; omega
  have t47 : (op == 47) = false := by simp; omega
  have t48 : (op == 48) = false := by simp; omega
  have t49 : (op == 49) = false := by simp; omega
  have t50 : (op == 50) = false := by simp; omega
  have t51 : (op == 51) = false := by simp; omega
  have t52 : (op == 52) = false := by simp; omega
  have t53 : (op == 53) = false := by simp; omega
  have t54 : (op == 54) = false := by simp; omega
  have t55 : (op == 55) = false := by simp; omega
  have t58 : (op == 58) = false := by simp; omega
  have t59 : (op == 59) = false := by simp; omega
  have t60 : (op == 60) = false := by simp; omega
  have t61 : (op == 61) = false := by simp; omega
  have t62 : (op == 62) = false := by simp; omega
  clear h
  go_enter Try.func15, Try.ntmps15
  go_wp2
  exact bodyPost_ret (v := .agg #[.int .i64 0, .int .i64 0, .int .i64 0]) (by simp [results, Try.results15, go_sem]) rfl ⟨rfl, (Below.refl _ _).alloc (Nat.le_refl _) _⟩
theorem find_any (op : Int) (wo : World) : Calls Try.prog 15 #[.int .i64 op] wo (FindIs wo (findVal op)) := by
  by_cases h40 : op = 40
  · subst h40; exact find_40 wo
  by_cases h41 : op = 41
  · subst h41; exact find_41 wo
  by_cases h44 : op = 44
  · subst h44; exact find_44 wo
  by_cases h45 : op = 45
  · subst h45; exact find_45 wo
  by_cases h46 : op = 46
  · subst h46; exact find_46 wo
  by_cases h47 : op = 47
  · subst h47; exact find_47 wo
  by_cases h48 : op = 48
  · subst h48; exact find_48 wo
  by_cases h49 : op = 49
  · subst h49; exact find_49 wo
  by_cases h50 : op = 50
  · subst h50; exact find_50 wo
  by_cases h51 : op = 51
  · subst h51; exact find_51 wo
  by_cases h52 : op = 52
  · subst h52; exact find_52 wo
  by_cases h53 : op = 53
  · subst h53; exact find_53 wo
  by_cases h54 : op = 54
  · subst h54; exact find_54 wo
  by_cases h55 : op = 55
  · subst h55; exact find_55 wo
  by_cases h58 : op = 58
  · subst h58; exact find_58 wo
  by_cases h59 : op = 59
  · subst h59; exact find_59 wo
  by_cases h60 : op = 60
  · subst h60; exact find_60 wo
  by_cases h61 : op = 61
  · subst h61; exact find_61 wo
  by_cases h62 : op = 62
  · subst h62; exact find_62 wo
  have hk : kindOf op = none := by
    unfold kindOf kinds
    simp only [List.find?_eq_none, List.mem_cons, List.not_mem_nil, or_false, beq_iff_eq]
    rintro k (rfl | rfl | rfl | rfl | rfl | rfl | rfl | rfl | rfl | rfl | rfl | rfl | rfl | rfl | rfl | rfl | rfl | rfl | rfl) <;> (simp only; omega)
  unfold findVal
  rw [hk]
  exact find_none op wo ⟨h40, h41, h44, h45, h46, h47, h48, h49, h50, h51, h52, h53, h54, h55, h58, h59, h60, h61, h62⟩
end Go.Proofs.Ytaagingcjmkcdaa.Pack
