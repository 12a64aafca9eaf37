/-
  num's own compare: what it comes to, for every code. Condition: the numbers are of w bits, w 32 or 64.
-/
import Derived.Test.YtbgcafkdojoilaaDoorNumLeaf
namespace Go.Proofs.YtbgcafkdojoilaaDoor.Num
open Go.RowKit

theorem less_sgW (a b w : Nat) (hw : w = 32 ∨ w = 64) (ha : a < 2 ^ w) (hb : b < 2 ^ w) : lessN a b w true = decide (sgW a w < sgW b w) := by
  rcases hw with rfl | rfl
  · exact less_sg32 a b ha hb
  · exact less_sg64 a b ha hb
/-- The comparisons' truth. -/
def cmpV (k w a b : Nat) : Bool :=
  match k with
  | 0 => decide (a = b)
  | 1 => !decide (a = b)
  | 2 => lessN a b w true
  | 3 => lessN a b w false
  | 4 => lessN b a w true
  | 5 => lessN b a w false
  | 6 => !lessN b a w true
  | 7 => !lessN b a w false
  | 8 => !lessN a b w true
  | _ => !lessN a b w false
def Cmp2 (w : World) (h ok : Bool) (e : Ending) (w' : World) : Prop := e = .returned (.tuple #[.bool h, .bool ok]) ∧ w = w'
theorem cmp_ret {w : World} {h h' ok : Bool} (he : h = h') : Cmp2 w h' ok (.returned (.tuple #[.bool h, .bool ok])) w := by rw [he]; exact ⟨rfl, rfl⟩
set_option maxRecDepth 100000 in
theorem cmp_0 (a b w : Nat) (W : Int) (hW : Wide W w) (ha : a < 2 ^ w) (hb : b < 2 ^ w) (wo : World) :
    Calls Tryd.prog 27 #[.int .i64 70, .int .u64 (a : Int), .int .u64 (b : Int), .int .u64 W] wo (Cmp2 wo (cmpV 0 w a b) true) := by
  have HA := Lib.hid (fun V => osigned_any a W w hW ha V)
  have HB := Lib.hid (fun V => osigned_any b W w hW hb V)
  have hw : w = 32 ∨ w = 64 := by unfold Wide at hW; omega
  have h1 := Lib.hid (less_sgW a b w hw ha hb)
  have h2 := Lib.hid (less_sgW b a w hw hb ha)
  clear hw hW ha hb
  generalize sgW a w = x at *
  generalize sgW b w = y at *
  go_enter Tryd.func27, Tryd.ntmps27
  go_wp2_with fail
  refine (HA.out _).mono ?_
  rintro e w' ⟨rfl, rfl⟩
  go_wp2_with fail
  refine (HB.out _).mono ?_
  rintro e w' ⟨rfl, rfl⟩
  go_wp2
  go_ret2
  refine cmp_ret ?_
  simp only [cmpV]
  rw [Bool.eq_iff_iff]; simp; try omega
set_option maxRecDepth 100000 in
theorem cmp_1 (a b w : Nat) (W : Int) (hW : Wide W w) (ha : a < 2 ^ w) (hb : b < 2 ^ w) (wo : World) :
    Calls Tryd.prog 27 #[.int .i64 71, .int .u64 (a : Int), .int .u64 (b : Int), .int .u64 W] wo (Cmp2 wo (cmpV 1 w a b) true) := by
  have HA := Lib.hid (fun V => osigned_any a W w hW ha V)
  have HB := Lib.hid (fun V => osigned_any b W w hW hb V)
  have hw : w = 32 ∨ w = 64 := by unfold Wide at hW; omega
  have h1 := Lib.hid (less_sgW a b w hw ha hb)
  have h2 := Lib.hid (less_sgW b a w hw hb ha)
  clear hw hW ha hb
  generalize sgW a w = x at *
  generalize sgW b w = y at *
  go_enter Tryd.func27, Tryd.ntmps27
  go_wp2_with fail
  refine (HA.out _).mono ?_
  rintro e w' ⟨rfl, rfl⟩
  go_wp2_with fail
  refine (HB.out _).mono ?_
  rintro e w' ⟨rfl, rfl⟩
  go_wp2
  go_ret2
  refine cmp_ret ?_
  simp only [cmpV]
  rw [Bool.eq_iff_iff]; simp; try omega
set_option maxRecDepth 100000 in
theorem cmp_2 (a b w : Nat) (W : Int) (hW : Wide W w) (ha : a < 2 ^ w) (hb : b < 2 ^ w) (wo : World) :
    Calls Tryd.prog 27 #[.int .i64 72, .int .u64 (a : Int), .int .u64 (b : Int), .int .u64 W] wo (Cmp2 wo (cmpV 2 w a b) true) := by
  have HA := Lib.hid (fun V => osigned_any a W w hW ha V)
  have HB := Lib.hid (fun V => osigned_any b W w hW hb V)
  have hw : w = 32 ∨ w = 64 := by unfold Wide at hW; omega
  have h1 := Lib.hid (less_sgW a b w hw ha hb)
  have h2 := Lib.hid (less_sgW b a w hw hb ha)
  clear hw hW ha hb
  generalize sgW a w = x at *
  generalize sgW b w = y at *
  go_enter Tryd.func27, Tryd.ntmps27
  go_wp2_with fail
  refine (HA.out _).mono ?_
  rintro e w' ⟨rfl, rfl⟩
  go_wp2_with fail
  refine (HB.out _).mono ?_
  rintro e w' ⟨rfl, rfl⟩
  go_wp2
  go_ret2
  refine cmp_ret ?_
  simp only [cmpV]
  rw [h1.out]; try simp
set_option maxRecDepth 100000 in
theorem cmp_3 (a b w : Nat) (W : Int) (hW : Wide W w) (ha : a < 2 ^ w) (hb : b < 2 ^ w) (wo : World) :
    Calls Tryd.prog 27 #[.int .i64 73, .int .u64 (a : Int), .int .u64 (b : Int), .int .u64 W] wo (Cmp2 wo (cmpV 3 w a b) true) := by
  have HA := Lib.hid (fun V => osigned_any a W w hW ha V)
  have HB := Lib.hid (fun V => osigned_any b W w hW hb V)
  have hw : w = 32 ∨ w = 64 := by unfold Wide at hW; omega
  have h1 := Lib.hid (less_sgW a b w hw ha hb)
  have h2 := Lib.hid (less_sgW b a w hw hb ha)
  clear hw hW ha hb
  generalize sgW a w = x at *
  generalize sgW b w = y at *
  go_enter Tryd.func27, Tryd.ntmps27
  go_wp2_with fail
  refine (HA.out _).mono ?_
  rintro e w' ⟨rfl, rfl⟩
  go_wp2_with fail
  refine (HB.out _).mono ?_
  rintro e w' ⟨rfl, rfl⟩
  go_wp2
  go_ret2
  refine cmp_ret ?_
  simp only [cmpV, lessN]
  rw [Bool.eq_iff_iff]; simp; try omega
set_option maxRecDepth 100000 in
theorem cmp_4 (a b w : Nat) (W : Int) (hW : Wide W w) (ha : a < 2 ^ w) (hb : b < 2 ^ w) (wo : World) :
    Calls Tryd.prog 27 #[.int .i64 74, .int .u64 (a : Int), .int .u64 (b : Int), .int .u64 W] wo (Cmp2 wo (cmpV 4 w a b) true) := by
  have HA := Lib.hid (fun V => osigned_any a W w hW ha V)
  have HB := Lib.hid (fun V => osigned_any b W w hW hb V)
  have hw : w = 32 ∨ w = 64 := by unfold Wide at hW; omega
  have h1 := Lib.hid (less_sgW a b w hw ha hb)
  have h2 := Lib.hid (less_sgW b a w hw hb ha)
  clear hw hW ha hb
  generalize sgW a w = x at *
  generalize sgW b w = y at *
  go_enter Tryd.func27, Tryd.ntmps27
  go_wp2_with fail
  refine (HA.out _).mono ?_
  rintro e w' ⟨rfl, rfl⟩
  go_wp2_with fail
  refine (HB.out _).mono ?_
  rintro e w' ⟨rfl, rfl⟩
  go_wp2
  go_ret2
  refine cmp_ret ?_
  simp only [cmpV]
  rw [h2.out]; try simp
set_option maxRecDepth 100000 in
theorem cmp_5 (a b w : Nat) (W : Int) (hW : Wide W w) (ha : a < 2 ^ w) (hb : b < 2 ^ w) (wo : World) :
    Calls Tryd.prog 27 #[.int .i64 75, .int .u64 (a : Int), .int .u64 (b : Int), .int .u64 W] wo (Cmp2 wo (cmpV 5 w a b) true) := by
  have HA := Lib.hid (fun V => osigned_any a W w hW ha V)
  have HB := Lib.hid (fun V => osigned_any b W w hW hb V)
  have hw : w = 32 ∨ w = 64 := by unfold Wide at hW; omega
  have h1 := Lib.hid (less_sgW a b w hw ha hb)
  have h2 := Lib.hid (less_sgW b a w hw hb ha)
  clear hw hW ha hb
  generalize sgW a w = x at *
  generalize sgW b w = y at *
  go_enter Tryd.func27, Tryd.ntmps27
  go_wp2_with fail
  refine (HA.out _).mono ?_
  rintro e w' ⟨rfl, rfl⟩
  go_wp2_with fail
  refine (HB.out _).mono ?_
  rintro e w' ⟨rfl, rfl⟩
  go_wp2
  go_ret2
  refine cmp_ret ?_
  simp only [cmpV, lessN]
  rw [Bool.eq_iff_iff]; simp; try omega
set_option maxRecDepth 100000 in
theorem cmp_6 (a b w : Nat) (W : Int) (hW : Wide W w) (ha : a < 2 ^ w) (hb : b < 2 ^ w) (wo : World) :
    Calls Tryd.prog 27 #[.int .i64 76, .int .u64 (a : Int), .int .u64 (b : Int), .int .u64 W] wo (Cmp2 wo (cmpV 6 w a b) true) := by
  have HA := Lib.hid (fun V => osigned_any a W w hW ha V)
  have HB := Lib.hid (fun V => osigned_any b W w hW hb V)
  have hw : w = 32 ∨ w = 64 := by unfold Wide at hW; omega
  have h1 := Lib.hid (less_sgW a b w hw ha hb)
  have h2 := Lib.hid (less_sgW b a w hw hb ha)
  clear hw hW ha hb
  generalize sgW a w = x at *
  generalize sgW b w = y at *
  go_enter Tryd.func27, Tryd.ntmps27
  go_wp2_with fail
  refine (HA.out _).mono ?_
  rintro e w' ⟨rfl, rfl⟩
  go_wp2_with fail
  refine (HB.out _).mono ?_
  rintro e w' ⟨rfl, rfl⟩
  go_wp2
  go_ret2
  refine cmp_ret ?_
  simp only [cmpV]
  rw [h2.out, Bool.eq_iff_iff]; simp; try omega
set_option maxRecDepth 100000 in
theorem cmp_7 (a b w : Nat) (W : Int) (hW : Wide W w) (ha : a < 2 ^ w) (hb : b < 2 ^ w) (wo : World) :
    Calls Tryd.prog 27 #[.int .i64 77, .int .u64 (a : Int), .int .u64 (b : Int), .int .u64 W] wo (Cmp2 wo (cmpV 7 w a b) true) := by
  have HA := Lib.hid (fun V => osigned_any a W w hW ha V)
  have HB := Lib.hid (fun V => osigned_any b W w hW hb V)
  have hw : w = 32 ∨ w = 64 := by unfold Wide at hW; omega
  have h1 := Lib.hid (less_sgW a b w hw ha hb)
  have h2 := Lib.hid (less_sgW b a w hw hb ha)
  clear hw hW ha hb
  generalize sgW a w = x at *
  generalize sgW b w = y at *
  go_enter Tryd.func27, Tryd.ntmps27
  go_wp2_with fail
  refine (HA.out _).mono ?_
  rintro e w' ⟨rfl, rfl⟩
  go_wp2_with fail
  refine (HB.out _).mono ?_
  rintro e w' ⟨rfl, rfl⟩
  go_wp2
  go_ret2
  refine cmp_ret ?_
  simp only [cmpV, lessN]
  rw [Bool.eq_iff_iff]; simp; try omega
set_option maxRecDepth 100000 in
theorem cmp_8 (a b w : Nat) (W : Int) (hW : Wide W w) (ha : a < 2 ^ w) (hb : b < 2 ^ w) (wo : World) :
    Calls Tryd.prog 27 #[.int .i64 78, .int .u64 (a : Int), .int .u64 (b : Int), .int .u64 W] wo (Cmp2 wo (cmpV 8 w a b) true) := by
  have HA := Lib.hid (fun V => osigned_any a W w hW ha V)
  have HB := Lib.hid (fun V => osigned_any b W w hW hb V)
  have hw : w = 32 ∨ w = 64 := by unfold Wide at hW; omega
  have h1 := Lib.hid (less_sgW a b w hw ha hb)
  have h2 := Lib.hid (less_sgW b a w hw hb ha)
  clear hw hW ha hb
  generalize sgW a w = x at *
  generalize sgW b w = y at *
  go_enter Tryd.func27, Tryd.ntmps27
  go_wp2_with fail
  refine (HA.out _).mono ?_
  rintro e w' ⟨rfl, rfl⟩
  go_wp2_with fail
  refine (HB.out _).mono ?_
  rintro e w' ⟨rfl, rfl⟩
  go_wp2
  go_ret2
  refine cmp_ret ?_
  simp only [cmpV]
  rw [h1.out, Bool.eq_iff_iff]; simp; try omega
set_option maxRecDepth 100000 in
theorem cmp_9 (a b w : Nat) (W : Int) (hW : Wide W w) (ha : a < 2 ^ w) (hb : b < 2 ^ w) (wo : World) :
    Calls Tryd.prog 27 #[.int .i64 79, .int .u64 (a : Int), .int .u64 (b : Int), .int .u64 W] wo (Cmp2 wo (cmpV 9 w a b) true) := by
  have HA := Lib.hid (fun V => osigned_any a W w hW ha V)
  have HB := Lib.hid (fun V => osigned_any b W w hW hb V)
  have hw : w = 32 ∨ w = 64 := by unfold Wide at hW; omega
  have h1 := Lib.hid (less_sgW a b w hw ha hb)
  have h2 := Lib.hid (less_sgW b a w hw hb ha)
  clear hw hW ha hb
  generalize sgW a w = x at *
  generalize sgW b w = y at *
  go_enter Tryd.func27, Tryd.ntmps27
  go_wp2_with fail
  refine (HA.out _).mono ?_
  rintro e w' ⟨rfl, rfl⟩
  go_wp2_with fail
  refine (HB.out _).mono ?_
  rintro e w' ⟨rfl, rfl⟩
  go_wp2
  go_ret2
  refine cmp_ret ?_
  simp only [cmpV, lessN]
  rw [Bool.eq_iff_iff]; simp; try omega
set_option maxRecDepth 100000 in
theorem cmp_none (c : Int) (a b w : Nat) (W : Int) (hW : Wide W w) (ha : a < 2 ^ w) (hb : b < 2 ^ w) (wo : World) (h : c < 70 ∨ 79 < c) :
    Calls Tryd.prog 27 #[.int .i64 c, .int .u64 (a : Int), .int .u64 (b : Int), .int .u64 W] wo (Cmp2 wo false false) := by
  have HA := Lib.hid (fun V => osigned_any a W w hW ha V)
  have HB := Lib.hid (fun V => osigned_any b W w hW hb V)
  have t70 : (c == 70) = false := by simp; omega
  have t71 : (c == 71) = false := by simp; omega
  have t72 : (c == 72) = false := by simp; omega
  have t73 : (c == 73) = false := by simp; omega
  have t74 : (c == 74) = false := by simp; omega
  have t75 : (c == 75) = false := by simp; omega
  have t76 : (c == 76) = false := by simp; omega
  have t77 : (c == 77) = false := by simp; omega
  have t78 : (c == 78) = false := by simp; omega
  have t79 : (c == 79) = false := by simp; omega
  clear hW ha hb h
  generalize sgW a w = x at *
  generalize sgW b w = y at *
  go_enter Tryd.func27, Tryd.ntmps27
  go_wp2_with fail
  refine (HA.out _).mono ?_
  rintro e w' ⟨rfl, rfl⟩
  go_wp2_with fail
  refine (HB.out _).mono ?_
  rintro e w' ⟨rfl, rfl⟩
  go_wp2
  go_ret2
  exact ⟨rfl, rfl⟩
theorem cmp_any (k a b w : Nat) (W : Int) (hW : Wide W w) (ha : a < 2 ^ w) (hb : b < 2 ^ w) (wo : World) (hk : k < 10) :
    Calls Tryd.prog 27 #[.int .i64 (70 + k : Int), .int .u64 (a : Int), .int .u64 (b : Int), .int .u64 W] wo (Cmp2 wo (cmpV k w a b) true) := by
  match k, hk with
  | 0, _ => exact cmp_0 a b w W hW ha hb wo
  | 1, _ => exact cmp_1 a b w W hW ha hb wo
  | 2, _ => exact cmp_2 a b w W hW ha hb wo
  | 3, _ => exact cmp_3 a b w W hW ha hb wo
  | 4, _ => exact cmp_4 a b w W hW ha hb wo
  | 5, _ => exact cmp_5 a b w W hW ha hb wo
  | 6, _ => exact cmp_6 a b w W hW ha hb wo
  | 7, _ => exact cmp_7 a b w W hW ha hb wo
  | 8, _ => exact cmp_8 a b w W hW ha hb wo
  | 9, _ => exact cmp_9 a b w W hW ha hb wo
end Go.Proofs.YtbgcafkdojoilaaDoor.Num
