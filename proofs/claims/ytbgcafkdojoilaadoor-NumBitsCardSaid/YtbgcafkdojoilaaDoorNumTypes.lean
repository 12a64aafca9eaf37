/-
  trammelref03's func32 and Types, for every code. No condition.
-/
import Derived.Test.YtbgcafkdojoilaaDoorNumUnAll
import Derived.Test.YtbgcafkdojoilaaDoorNumBinAll
namespace Go.Proofs.YtbgcafkdojoilaaDoor.Num
open Go.RowKit

/-- The type of what an operation takes. -/
def inVal (op : Int) : Int := if 80 ≤ op ∧ op ≤ 90 ∨ 121 ≤ op ∧ op ≤ 138 ∨ op = 167 ∨ 194 ≤ op ∧ op ≤ 196 then 126 else 127
theorem func32_0 (op : Int) (wo : World) (h : op ≤ 79) : Calls Tryd.prog 36 #[.int .i64 op] wo fun e w' => e = .returned (.int .i64 127) ∧ wo = w' := by
  have g80 : ¬ 80 ≤ op := by omega
  have g121 : ¬ 121 ≤ op := by omega
  have g194 : ¬ 194 ≤ op := by omega
  have l90 : op ≤ 90 := by omega
  have l138 : op ≤ 138 := by omega
  have l196 : op ≤ 196 := by omega
  have e167 : (op == 167) = false := by simp; omega
  clear h
  go_enter Tryd.func36, Tryd.ntmps36
  go_wp2
  go_ret
  exact ⟨rfl, rfl⟩
theorem func32_1 (op : Int) (wo : World) (h : 80 ≤ op ∧ op ≤ 90) : Calls Tryd.prog 36 #[.int .i64 op] wo fun e w' => e = .returned (.int .i64 126) ∧ wo = w' := by
  have g80 : 80 ≤ op := by omega
  have g121 : ¬ 121 ≤ op := by omega
  have g194 : ¬ 194 ≤ op := by omega
  have l90 : op ≤ 90 := by omega
  have l138 : op ≤ 138 := by omega
  have l196 : op ≤ 196 := by omega
  have e167 : (op == 167) = false := by simp; omega
  clear h
  go_enter Tryd.func36, Tryd.ntmps36
  go_wp2
  go_ret
  exact ⟨rfl, rfl⟩
theorem func32_2 (op : Int) (wo : World) (h : 91 ≤ op ∧ op ≤ 120) : Calls Tryd.prog 36 #[.int .i64 op] wo fun e w' => e = .returned (.int .i64 127) ∧ wo = w' := by
  have g80 : 80 ≤ op := by omega
  have g121 : ¬ 121 ≤ op := by omega
  have g194 : ¬ 194 ≤ op := by omega
  have l90 : ¬ op ≤ 90 := by omega
  have l138 : op ≤ 138 := by omega
  have l196 : op ≤ 196 := by omega
  have e167 : (op == 167) = false := by simp; omega
  clear h
  go_enter Tryd.func36, Tryd.ntmps36
  go_wp2
  go_ret
  exact ⟨rfl, rfl⟩
theorem func32_3 (op : Int) (wo : World) (h : 121 ≤ op ∧ op ≤ 138) : Calls Tryd.prog 36 #[.int .i64 op] wo fun e w' => e = .returned (.int .i64 126) ∧ wo = w' := by
  have g80 : 80 ≤ op := by omega
  have g121 : 121 ≤ op := by omega
  have g194 : ¬ 194 ≤ op := by omega
  have l90 : ¬ op ≤ 90 := by omega
  have l138 : op ≤ 138 := by omega
  have l196 : op ≤ 196 := by omega
  have e167 : (op == 167) = false := by simp; omega
  clear h
  go_enter Tryd.func36, Tryd.ntmps36
  go_wp2
  go_ret
  exact ⟨rfl, rfl⟩
theorem func32_4 (op : Int) (wo : World) (h : 139 ≤ op ∧ op ≤ 166) : Calls Tryd.prog 36 #[.int .i64 op] wo fun e w' => e = .returned (.int .i64 127) ∧ wo = w' := by
  have g80 : 80 ≤ op := by omega
  have g121 : 121 ≤ op := by omega
  have g194 : ¬ 194 ≤ op := by omega
  have l90 : ¬ op ≤ 90 := by omega
  have l138 : ¬ op ≤ 138 := by omega
  have l196 : op ≤ 196 := by omega
  have e167 : (op == 167) = false := by simp; omega
  clear h
  go_enter Tryd.func36, Tryd.ntmps36
  go_wp2
  go_ret
  exact ⟨rfl, rfl⟩
theorem func32_5 (op : Int) (wo : World) (h : 167 ≤ op ∧ op ≤ 167) : Calls Tryd.prog 36 #[.int .i64 op] wo fun e w' => e = .returned (.int .i64 126) ∧ wo = w' := by
  have g80 : 80 ≤ op := by omega
  have g121 : 121 ≤ op := by omega
  have g194 : ¬ 194 ≤ op := by omega
  have l90 : ¬ op ≤ 90 := by omega
  have l138 : ¬ op ≤ 138 := by omega
  have l196 : op ≤ 196 := by omega
  have e167 : (op == 167) = true := by simp; omega
  clear h
  go_enter Tryd.func36, Tryd.ntmps36
  go_wp2
  go_ret
  exact ⟨rfl, rfl⟩
theorem func32_6 (op : Int) (wo : World) (h : 168 ≤ op ∧ op ≤ 193) : Calls Tryd.prog 36 #[.int .i64 op] wo fun e w' => e = .returned (.int .i64 127) ∧ wo = w' := by
  have g80 : 80 ≤ op := by omega
  have g121 : 121 ≤ op := by omega
  have g194 : ¬ 194 ≤ op := by omega
  have l90 : ¬ op ≤ 90 := by omega
  have l138 : ¬ op ≤ 138 := by omega
  have l196 : op ≤ 196 := by omega
  have e167 : (op == 167) = false := by simp; omega
  clear h
  go_enter Tryd.func36, Tryd.ntmps36
  go_wp2
  go_ret
  exact ⟨rfl, rfl⟩
theorem func32_7 (op : Int) (wo : World) (h : 194 ≤ op ∧ op ≤ 196) : Calls Tryd.prog 36 #[.int .i64 op] wo fun e w' => e = .returned (.int .i64 126) ∧ wo = w' := by
  have g80 : 80 ≤ op := by omega
  have g121 : 121 ≤ op := by omega
  have g194 : 194 ≤ op := by omega
  have l90 : ¬ op ≤ 90 := by omega
  have l138 : ¬ op ≤ 138 := by omega
  have l196 : op ≤ 196 := by omega
  have e167 : (op == 167) = false := by simp; omega
  clear h
  go_enter Tryd.func36, Tryd.ntmps36
  go_wp2
  go_ret
  exact ⟨rfl, rfl⟩
theorem func32_8 (op : Int) (wo : World) (h : 197 ≤ op) : Calls Tryd.prog 36 #[.int .i64 op] wo fun e w' => e = .returned (.int .i64 127) ∧ wo = w' := by
  have g80 : 80 ≤ op := by omega
  have g121 : 121 ≤ op := by omega
  have g194 : 194 ≤ op := by omega
  have l90 : ¬ op ≤ 90 := by omega
  have l138 : ¬ op ≤ 138 := by omega
  have l196 : ¬ op ≤ 196 := by omega
  have e167 : (op == 167) = false := by simp; omega
  clear h
  go_enter Tryd.func36, Tryd.ntmps36
  go_wp2
  go_ret
  exact ⟨rfl, rfl⟩
theorem func32_any (op : Int) (wo : World) : Calls Tryd.prog 36 #[.int .i64 op] wo fun e w' => e = .returned (.int .i64 (inVal op)) ∧ wo = w' := by
  unfold inVal
  by_cases d0 : op ≤ 79
  · rw [if_neg (by omega)]; exact func32_0 op wo (by omega)
  by_cases d1 : op ≤ 90
  · rw [if_pos (by omega)]; exact func32_1 op wo (by omega)
  by_cases d2 : op ≤ 120
  · rw [if_neg (by omega)]; exact func32_2 op wo (by omega)
  by_cases d3 : op ≤ 138
  · rw [if_pos (by omega)]; exact func32_3 op wo (by omega)
  by_cases d4 : op ≤ 166
  · rw [if_neg (by omega)]; exact func32_4 op wo (by omega)
  by_cases d5 : op ≤ 167
  · rw [if_pos (by omega)]; exact func32_5 op wo (by omega)
  by_cases d6 : op ≤ 193
  · rw [if_neg (by omega)]; exact func32_6 op wo (by omega)
  by_cases d7 : op ≤ 196
  · rw [if_pos (by omega)]; exact func32_7 op wo (by omega)
  rw [if_neg (by omega)]; exact func32_8 op wo (by omega)
/-- A slice of ints leads to these. -/
def IntsAt (w : World) (A : Option Addr) (l : List Int) : Prop := 0 < l.length → ∃ b, A = some ⟨b, 0, none⟩ ∧ b < w.heap.size ∧ ∀ j (h : j < l.length), w.cell? ⟨b, j, none⟩ = some (.int .i64 l[j])
def TypesIs (w : World) (l : List Int) (o : Int) (ok : Bool) (e : Ending) (w' : World) : Prop :=
  ∃ A, e = .returned (.tuple #[.slice A l.length l.length, .int .i64 o, .bool ok]) ∧ IntsAt w' A l ∧ Below w.heap.size w w'
/-- The types of an operation: of what it takes, of what it gives; whether there is one. -/
def typVal (op : Int) : List Int × Int × Bool :=
  if (unVal op 0).2 = true then ([inVal op], if 121 ≤ op ∧ op ≤ 123 ∨ op = 172 ∨ op = 173 ∨ 194 ≤ op then 126 else 127, true)
  else if (binAll op 0 1).2.2 = true then ([inVal op, inVal op], if 124 ≤ op then 126 else 127, true)
  else ([], 0, false)
theorem ints_1 (w : World) (x : Int) (t : TypeId) : IntsAt (w.alloc (.cells #[.int .i64 x] t)) (some ⟨w.heap.size, 0, none⟩) [x] := by
  intro _
  refine ⟨w.heap.size, rfl, by simp, fun j hj => ?_⟩
  have h0 : j = 0 := by simpa using hj
  subst h0
  simp
theorem ints_2 (w : World) (x y : Int) (t : TypeId) : IntsAt (w.alloc (.cells #[.int .i64 x, .int .i64 y] t)) (some ⟨w.heap.size, 0, none⟩) [x, y] := by
  intro _
  refine ⟨w.heap.size, rfl, by simp, fun j hj => ?_⟩
  match j, hj with
  | 0, _ => simp
  | 1, _ => simp
theorem types_un_a (op : Int) (wo : World) (hu : (unVal op 0).2 = true) (h : 121 ≤ op ∧ op ≤ 123) : Calls Tryd.prog 15 #[.int .i64 op] wo (TypesIs wo [inVal op] 126 true) := by
  have HF := Lib.hid (fun W => func32_any op W)
  have HU := Lib.hid (fun W => run_any op 0 W (by omega))
  have HB := Lib.hid (fun W => rbin_any op 0 1 W (by omega) (by omega))
  rw [hu] at HU
  have g121 : 121 ≤ op := by omega
  have l123 : op ≤ 123 := by omega
  clear h hu HB
  generalize (unVal op 0).1 = V at *
  generalize inVal op = I at *
  go_enter Tryd.func15, Tryd.ntmps15
  go_wp2_with fail
  refine (HF.out _).mono ?_
  rintro e w' ⟨rfl, rfl⟩
  go_wp2_with fail
  refine (HU.out _).mono ?_
  rintro e w' ⟨rfl, rfl⟩
  go_wp2
  go_ret3
  exact ⟨_, rfl, ints_1 _ _ _, (Below.refl _ _).alloc (Nat.le_refl _) _⟩
theorem types_un_b (op : Int) (wo : World) (hu : (unVal op 0).2 = true) (h : op = 172) : Calls Tryd.prog 15 #[.int .i64 op] wo (TypesIs wo [inVal op] 126 true) := by
  have HF := Lib.hid (fun W => func32_any op W)
  have HU := Lib.hid (fun W => run_any op 0 W (by omega))
  have HB := Lib.hid (fun W => rbin_any op 0 1 W (by omega) (by omega))
  rw [hu] at HU
  have g121 : 121 ≤ op := by omega
  have l123 : ¬ op ≤ 123 := by omega
  have e172 : (op == 172) = true := by simp; omega
  clear h hu HB
  generalize (unVal op 0).1 = V at *
  generalize inVal op = I at *
  go_enter Tryd.func15, Tryd.ntmps15
  go_wp2_with fail
  refine (HF.out _).mono ?_
  rintro e w' ⟨rfl, rfl⟩
  go_wp2_with fail
  refine (HU.out _).mono ?_
  rintro e w' ⟨rfl, rfl⟩
  go_wp2
  go_ret3
  exact ⟨_, rfl, ints_1 _ _ _, (Below.refl _ _).alloc (Nat.le_refl _) _⟩
theorem types_un_c (op : Int) (wo : World) (hu : (unVal op 0).2 = true) (h : op = 173) : Calls Tryd.prog 15 #[.int .i64 op] wo (TypesIs wo [inVal op] 126 true) := by
  have HF := Lib.hid (fun W => func32_any op W)
  have HU := Lib.hid (fun W => run_any op 0 W (by omega))
  have HB := Lib.hid (fun W => rbin_any op 0 1 W (by omega) (by omega))
  rw [hu] at HU
  have g121 : 121 ≤ op := by omega
  have l123 : ¬ op ≤ 123 := by omega
  have e172 : (op == 172) = false := by simp; omega
  have e173 : (op == 173) = true := by simp; omega
  clear h hu HB
  generalize (unVal op 0).1 = V at *
  generalize inVal op = I at *
  go_enter Tryd.func15, Tryd.ntmps15
  go_wp2_with fail
  refine (HF.out _).mono ?_
  rintro e w' ⟨rfl, rfl⟩
  go_wp2_with fail
  refine (HU.out _).mono ?_
  rintro e w' ⟨rfl, rfl⟩
  go_wp2
  go_ret3
  exact ⟨_, rfl, ints_1 _ _ _, (Below.refl _ _).alloc (Nat.le_refl _) _⟩
theorem types_un_d (op : Int) (wo : World) (hu : (unVal op 0).2 = true) (h : 194 ≤ op) : Calls Tryd.prog 15 #[.int .i64 op] wo (TypesIs wo [inVal op] 126 true) := by
  have HF := Lib.hid (fun W => func32_any op W)
  have HU := Lib.hid (fun W => run_any op 0 W (by omega))
  have HB := Lib.hid (fun W => rbin_any op 0 1 W (by omega) (by omega))
  rw [hu] at HU
  have g121 : 121 ≤ op := by omega
  have l123 : ¬ op ≤ 123 := by omega
  have e172 : (op == 172) = false := by simp; omega
  have e173 : (op == 173) = false := by simp; omega
  have g194 : 194 ≤ op := by omega
  clear h hu HB
  generalize (unVal op 0).1 = V at *
  generalize inVal op = I at *
  go_enter Tryd.func15, Tryd.ntmps15
  go_wp2_with fail
  refine (HF.out _).mono ?_
  rintro e w' ⟨rfl, rfl⟩
  go_wp2_with fail
  refine (HU.out _).mono ?_
  rintro e w' ⟨rfl, rfl⟩
  go_wp2
  go_ret3
  exact ⟨_, rfl, ints_1 _ _ _, (Below.refl _ _).alloc (Nat.le_refl _) _⟩
theorem types_un_f (op : Int) (wo : World) (hu : (unVal op 0).2 = true) (h : op < 121) : Calls Tryd.prog 15 #[.int .i64 op] wo (TypesIs wo [inVal op] 127 true) := by
  have HF := Lib.hid (fun W => func32_any op W)
  have HU := Lib.hid (fun W => run_any op 0 W (by omega))
  have HB := Lib.hid (fun W => rbin_any op 0 1 W (by omega) (by omega))
  rw [hu] at HU
  have g121 : ¬ 121 ≤ op := by omega
  have e172 : (op == 172) = false := by simp; omega
  have e173 : (op == 173) = false := by simp; omega
  have g194 : ¬ 194 ≤ op := by omega
  clear h hu HB
  generalize (unVal op 0).1 = V at *
  generalize inVal op = I at *
  go_enter Tryd.func15, Tryd.ntmps15
  go_wp2_with fail
  refine (HF.out _).mono ?_
  rintro e w' ⟨rfl, rfl⟩
  go_wp2_with fail
  refine (HU.out _).mono ?_
  rintro e w' ⟨rfl, rfl⟩
  go_wp2
  go_ret3
  exact ⟨_, rfl, ints_1 _ _ _, (Below.refl _ _).alloc (Nat.le_refl _) _⟩
theorem types_un_g (op : Int) (wo : World) (hu : (unVal op 0).2 = true) (h : 123 < op ∧ op < 194 ∧ op ≠ 172 ∧ op ≠ 173) : Calls Tryd.prog 15 #[.int .i64 op] wo (TypesIs wo [inVal op] 127 true) := by
  have HF := Lib.hid (fun W => func32_any op W)
  have HU := Lib.hid (fun W => run_any op 0 W (by omega))
  have HB := Lib.hid (fun W => rbin_any op 0 1 W (by omega) (by omega))
  rw [hu] at HU
  have g121 : 121 ≤ op := by omega
  have l123 : ¬ op ≤ 123 := by omega
  have e172 : (op == 172) = false := by simp; omega
  have e173 : (op == 173) = false := by simp; omega
  have g194 : ¬ 194 ≤ op := by omega
  clear h hu HB
  generalize (unVal op 0).1 = V at *
  generalize inVal op = I at *
  go_enter Tryd.func15, Tryd.ntmps15
  go_wp2_with fail
  refine (HF.out _).mono ?_
  rintro e w' ⟨rfl, rfl⟩
  go_wp2_with fail
  refine (HU.out _).mono ?_
  rintro e w' ⟨rfl, rfl⟩
  go_wp2
  go_ret3
  exact ⟨_, rfl, ints_1 _ _ _, (Below.refl _ _).alloc (Nat.le_refl _) _⟩
theorem types_bin_a (op : Int) (wo : World) (hu : (unVal op 0).2 = false) (hb : (binAll op 0 1).2.2 = true) (h : 124 ≤ op) : Calls Tryd.prog 15 #[.int .i64 op] wo (TypesIs wo [inVal op, inVal op] 126 true) := by
  have HF := Lib.hid (fun W => func32_any op W)
  have HU := Lib.hid (fun W => run_any op 0 W (by omega))
  have HB := Lib.hid (fun W => rbin_any op 0 1 W (by omega) (by omega))
  rw [hu] at HU
  rw [hb] at HB
  clear hu hb
  generalize (unVal op 0).1 = V at *
  generalize (binAll op 0 1).1 = X at *
  generalize (binAll op 0 1).2.1 = Y at *
  generalize inVal op = I at *
  go_enter Tryd.func15, Tryd.ntmps15
  go_wp2_with fail
  refine (HF.out _).mono ?_
  rintro e w' ⟨rfl, rfl⟩
  go_wp2_with fail
  refine (HU.out _).mono ?_
  rintro e w' ⟨rfl, rfl⟩
  go_wp2_with fail
  refine (HB.out _).mono ?_
  rintro e w' ⟨rfl, rfl⟩
  go_wp2
  go_ret3
  exact ⟨_, rfl, ints_2 _ _ _ _, (Below.refl _ _).alloc (Nat.le_refl _) _⟩
theorem types_bin_b (op : Int) (wo : World) (hu : (unVal op 0).2 = false) (hb : (binAll op 0 1).2.2 = true) (h : ¬ 124 ≤ op) : Calls Tryd.prog 15 #[.int .i64 op] wo (TypesIs wo [inVal op, inVal op] 127 true) := by
  have HF := Lib.hid (fun W => func32_any op W)
  have HU := Lib.hid (fun W => run_any op 0 W (by omega))
  have HB := Lib.hid (fun W => rbin_any op 0 1 W (by omega) (by omega))
  rw [hu] at HU
  rw [hb] at HB
  clear hu hb
  generalize (unVal op 0).1 = V at *
  generalize (binAll op 0 1).1 = X at *
  generalize (binAll op 0 1).2.1 = Y at *
  generalize inVal op = I at *
  go_enter Tryd.func15, Tryd.ntmps15
  go_wp2_with fail
  refine (HF.out _).mono ?_
  rintro e w' ⟨rfl, rfl⟩
  go_wp2_with fail
  refine (HU.out _).mono ?_
  rintro e w' ⟨rfl, rfl⟩
  go_wp2_with fail
  refine (HB.out _).mono ?_
  rintro e w' ⟨rfl, rfl⟩
  go_wp2
  go_ret3
  exact ⟨_, rfl, ints_2 _ _ _ _, (Below.refl _ _).alloc (Nat.le_refl _) _⟩
theorem types_none (op : Int) (wo : World) (hu : (unVal op 0).2 = false) (hb : (binAll op 0 1).2.2 = false) : Calls Tryd.prog 15 #[.int .i64 op] wo (TypesIs wo [] 0 false) := by
  have HF := Lib.hid (fun W => func32_any op W)
  have HU := Lib.hid (fun W => run_any op 0 W (by omega))
  have HB := Lib.hid (fun W => rbin_any op 0 1 W (by omega) (by omega))
  rw [hu] at HU
  rw [hb] at HB
  clear hu hb
  generalize (unVal op 0).1 = V at *
  generalize (binAll op 0 1).1 = X at *
  generalize (binAll op 0 1).2.1 = Y at *
  generalize inVal op = I at *
  go_enter Tryd.func15, Tryd.ntmps15
  go_wp2_with fail
  refine (HF.out _).mono ?_
  rintro e w' ⟨rfl, rfl⟩
  go_wp2_with fail
  refine (HU.out _).mono ?_
  rintro e w' ⟨rfl, rfl⟩
  go_wp2_with fail
  refine (HB.out _).mono ?_
  rintro e w' ⟨rfl, rfl⟩
  go_wp2
  go_ret3
  exact ⟨none, rfl, fun h => by simp at h, Below.refl _ _⟩
theorem rtypes_any (op : Int) (wo : World) : Calls Tryd.prog 15 #[.int .i64 op] wo (TypesIs wo (typVal op).1 (typVal op).2.1 (typVal op).2.2) := by
  unfold typVal
  cases hu : (unVal op 0).2 with
  | true =>
    rw [if_pos rfl]
    by_cases h1 : 121 ≤ op ∧ op ≤ 123
    · rw [if_pos (by omega)]; exact types_un_a op wo hu h1
    by_cases h2 : op = 172
    · rw [if_pos (by omega)]; exact types_un_b op wo hu h2
    by_cases h3 : op = 173
    · rw [if_pos (by omega)]; exact types_un_c op wo hu h3
    by_cases h4 : 194 ≤ op
    · rw [if_pos (by omega)]; exact types_un_d op wo hu h4
    rw [if_neg (by omega)]
    by_cases h5 : op < 121
    · exact types_un_f op wo hu h5
    · exact types_un_g op wo hu (by omega)
  | false =>
    rw [if_neg (by simp)]
    cases hb : (binAll op 0 1).2.2 with
    | true =>
      rw [if_pos rfl]
      by_cases h : 124 ≤ op
      · rw [if_pos h]; exact types_bin_a op wo hu hb h
      · rw [if_neg h]; exact types_bin_b op wo hu hb h
    | false =>
      rw [if_neg (by simp)]
      exact types_none op wo hu hb
end Go.Proofs.YtbgcafkdojoilaaDoor.Num
