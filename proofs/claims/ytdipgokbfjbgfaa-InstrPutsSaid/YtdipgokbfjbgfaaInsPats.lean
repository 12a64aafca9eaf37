/-
  InsPatMath: What follows a code, as a text; the codes of layers 3 and 4. No condition.
  InsPatNamed: trammelref06.Pattern at the codes that it names. No condition.
  InsPat: trammelref06.Pattern: what follows a code, as a text. No condition.
-/
import Derived.Test.YtdipgokbfjbgfaaInsPlain
import Derived.Test.YtdipgokbfjbgfaaNumAll
namespace Go.Proofs.Ytdipgokbfjbgfaa.Ins
open Go.RowKit Leb Typ

def chr : Part → UInt8
  | .t => 116
  | .a => 97
  | .b => 98
  | .l => 108
  | .k => 107
  | .kk => 113
  | .z => 122
/-- What follows, as a text: '.' for nothing. -/
def partChars (qs : List Part) : List UInt8 := if qs = [] then [46] else qs.map chr
def chars (op : Int) : List UInt8 :=
  match pat op with
  | none => []
  | some none => [63]
  | some (some qs) => partChars qs
def patStr (op : Int) : ByteArray := ⟨(chars op).toArray⟩
theorem un_ok (op : Int) (a : Nat) : (Num.unVal op a).2 = decide (op = 69 ∨ op = 80 ∨ (103 ≤ op ∧ op ≤ 105) ∨ (121 ≤ op ∧ op ≤ 123) ∨ op = 167 ∨ op = 172 ∨ op = 173 ∨ (192 ≤ op ∧ op ≤ 196)) := by
  by_cases h : op = 69 ∨ op = 80 ∨ (103 ≤ op ∧ op ≤ 105) ∨ (121 ≤ op ∧ op ≤ 123) ∨ op = 167 ∨ op = 172 ∨ op = 173 ∨ (192 ≤ op ∧ op ≤ 196)
  · rw [decide_eq_true h]
    have hop : op = 69 ∨ op = 80 ∨ op = 103 ∨ op = 104 ∨ op = 105 ∨ op = 121 ∨ op = 122 ∨ op = 123 ∨ op = 167 ∨ op = 172 ∨ op = 173 ∨ op = 192 ∨ op = 193 ∨ op = 194 ∨ op = 195 ∨ op = 196 := by omega
    clear h
    rcases hop with rfl | rfl | rfl | rfl | rfl | rfl | rfl | rfl | rfl | rfl | rfl | rfl | rfl | rfl | rfl | rfl
    all_goals rfl
  · rw [decide_eq_false h]
    unfold Num.unVal
    rw [if_neg (by omega), if_neg (by omega), if_neg (by omega), if_neg (by omega), if_neg (by omega), if_neg (by omega), if_neg (by omega), if_neg (by omega), if_neg (by omega), if_neg (by omega), if_neg (by omega), if_neg (by omega), if_neg (by omega), if_neg (by omega)]
theorem bin_ok (op : Int) (a b : Nat) : (Num.binAll op a b).2.2 = decide ((70 ≤ op ∧ op ≤ 79) ∨ (81 ≤ op ∧ op ≤ 90) ∨ (106 ≤ op ∧ op ≤ 120) ∨ (124 ≤ op ∧ op ≤ 138)) := by
  unfold Num.binAll
  simp only [apply_ite Prod.snd]
  repeat' split
  all_goals first
    | (symm; apply decide_eq_true; omega)
    | (symm; apply decide_eq_false; omega)
theorem typ_ok (op : Int) : (Num.typVal op).2.2 = numOp op := by
  unfold Num.typVal numOp
  rw [un_ok, bin_ok]
  split
  · rename_i h
    have := of_decide_eq_true h
    symm; apply decide_eq_true; omega
  · rename_i h
    have h' := of_decide_eq_false (Bool.eq_false_iff.2 h)
    split
    · rename_i h2
      have := of_decide_eq_true h2
      symm; apply decide_eq_true; omega
    · rename_i h2
      have h2' := of_decide_eq_false (Bool.eq_false_iff.2 h2)
      symm; apply decide_eq_false; omega
theorem kind_ok (op : Int) : (Pack.kindOf op).isSome = accOp op := by
  by_cases h : accOp op = true
  · rw [h]
    have h2 := of_decide_eq_true h
    have hop : op = 40 ∨ op = 41 ∨ op = 44 ∨ op = 45 ∨ op = 46 ∨ op = 47 ∨ op = 48 ∨ op = 49 ∨ op = 50 ∨ op = 51 ∨ op = 52 ∨ op = 53 ∨ op = 54 ∨ op = 55 ∨ op = 58 ∨ op = 59 ∨ op = 60 ∨ op = 61 ∨ op = 62 := by omega
    clear h h2
    rcases hop with rfl | rfl | rfl | rfl | rfl | rfl | rfl | rfl | rfl | rfl | rfl | rfl | rfl | rfl | rfl | rfl | rfl | rfl | rfl
    all_goals rfl
  · have h2 := Bool.eq_false_iff.2 h
    rw [h2, Bool.eq_false_iff]
    intro h3
    unfold Pack.kindOf at h3
    rw [List.find?_isSome] at h3
    obtain ⟨x, hx, he⟩ := h3
    have he' : x.op = op := by simpa using he
    subst he'
    simp only [Pack.kinds, List.mem_cons, List.not_mem_nil, or_false] at hx
    apply h
    clear h h2 he
    rcases hx with rfl | rfl | rfl | rfl | rfl | rfl | rfl | rfl | rfl | rfl | rfl | rfl | rfl | rfl | rfl | rfl | rfl | rfl | rfl
    all_goals rfl
def PatIs (w : World) (s : ByteArray) (e : Ending) (w' : World) : Prop := e = .returned (.string s) ∧ Below w.heap.size w w'
def wrows : List (Int × Int) := [(28, 28), (37, 38), (42, 43), (56, 57), (67, 68), (91, 102), (139, 166), (168, 171), (174, 191), (208, 210), (253, 253), (256, 263), (271, 273)]
def wcells : Array Value := #[.int .i64 28, .int .i64 28, .int .i64 37, .int .i64 38, .int .i64 42, .int .i64 43, .int .i64 56, .int .i64 57, .int .i64 67, .int .i64 68, .int .i64 91, .int .i64 102, .int .i64 139, .int .i64 166, .int .i64 168, .int .i64 171, .int .i64 174, .int .i64 191, .int .i64 208, .int .i64 210, .int .i64 253, .int .i64 253, .int .i64 256, .int .i64 263, .int .i64 271, .int .i64 273]
theorem wcells_at : ∀ j, j < 13 → ∃ r, wrows[j]? = some r ∧ wcells[j * 2]? = some (.int .i64 r.1) ∧ wcells[j * 2 + 1]? = some (.int .i64 r.2) := by
  intro j h
  have hj : j = 0 ∨ j = 1 ∨ j = 2 ∨ j = 3 ∨ j = 4 ∨ j = 5 ∨ j = 6 ∨ j = 7 ∨ j = 8 ∨ j = 9 ∨ j = 10 ∨ j = 11 ∨ j = 12 := by omega
  rcases hj with rfl | rfl | rfl | rfl | rfl | rfl | rfl | rfl | rfl | rfl | rfl | rfl | rfl
  all_goals exact ⟨_, rfl, rfl, rfl⟩
theorem wide_iff (op : Int) : wideOp op = true ↔ ∃ (j : Nat) (r : Int × Int), wrows[j]? = some r ∧ r.1 ≤ op ∧ op ≤ r.2 := by
  unfold wideOp
  rw [decide_eq_true_eq]
  constructor
  · intro h
    rcases h with h | h | h | h | h | h | h | h | h | h | h | h | h
    · exact ⟨0, _, rfl, by simp only; omega, by simp only; omega⟩
    · exact ⟨1, _, rfl, by simp only; omega, by simp only; omega⟩
    · exact ⟨2, _, rfl, by simp only; omega, by simp only; omega⟩
    · exact ⟨3, _, rfl, by simp only; omega, by simp only; omega⟩
    · exact ⟨4, _, rfl, by simp only; omega, by simp only; omega⟩
    · exact ⟨5, _, rfl, by simp only; omega, by simp only; omega⟩
    · exact ⟨6, _, rfl, by simp only; omega, by simp only; omega⟩
    · exact ⟨7, _, rfl, by simp only; omega, by simp only; omega⟩
    · exact ⟨8, _, rfl, by simp only; omega, by simp only; omega⟩
    · exact ⟨9, _, rfl, by simp only; omega, by simp only; omega⟩
    · exact ⟨10, _, rfl, by simp only; omega, by simp only; omega⟩
    · exact ⟨11, _, rfl, by simp only; omega, by simp only; omega⟩
    · exact ⟨12, _, rfl, by simp only; omega, by simp only; omega⟩
  · rintro ⟨j, r, hj, h1, h2⟩
    have hlt : j < 13 := (List.getElem?_eq_some_iff.1 hj).1
    have hj' : j = 0 ∨ j = 1 ∨ j = 2 ∨ j = 3 ∨ j = 4 ∨ j = 5 ∨ j = 6 ∨ j = 7 ∨ j = 8 ∨ j = 9 ∨ j = 10 ∨ j = 11 ∨ j = 12 := by omega
    rcases hj' with rfl | rfl | rfl | rfl | rfl | rfl | rfl | rfl | rfl | rfl | rfl | rfl | rfl
    all_goals
      simp only [wrows, List.getElem?_cons_zero, List.getElem?_cons_succ, Option.some.injEq] at hj
      subst hj
      simp only at h1 h2
      omega
/-- The table lies in block g. -/
structure Tab (w W : World) (g : Nat) : Prop where
  below : Below w.heap.size w W
  size : g < W.heap.size
  at_ : ∀ (j : Nat) (r : Int × Int), wrows[j]? = some r → W.cell? ⟨g, j * 2, none⟩ = some (.int .i64 r.1) ∧ W.cell? ⟨g, j * 2 + 1, none⟩ = some (.int .i64 r.2)
theorem Tab.keep {w W W' : World} {g : Nat} (h : Tab w W g) (hb : Below W.heap.size W W') : Tab w W' g :=
  ⟨h.below.trans (hb.mono h.below.size), Nat.lt_of_lt_of_le h.size hb.size, fun j r hj => ⟨(hb.cell h.size).trans (h.at_ j r hj).1, (hb.cell h.size).trans (h.at_ j r hj).2⟩⟩
theorem tab_of (w : World) (t : TypeId) : Tab w (w.alloc (.cells #[.int .i64 28, .int .i64 28, .int .i64 37, .int .i64 38, .int .i64 42, .int .i64 43, .int .i64 56, .int .i64 57, .int .i64 67, .int .i64 68, .int .i64 91, .int .i64 102, .int .i64 139, .int .i64 166, .int .i64 168, .int .i64 171, .int .i64 174, .int .i64 191, .int .i64 208, .int .i64 210, .int .i64 253, .int .i64 253, .int .i64 256, .int .i64 263, .int .i64 271, .int .i64 273] t)) w.heap.size := by
  refine ⟨(Below.refl _ _).alloc (Nat.le_refl _) _, by simp, fun j r hj => ?_⟩
  have hlt : j < 13 := (List.getElem?_eq_some_iff.1 hj).1
  obtain ⟨r', h1, h2, h3⟩ := wcells_at j hlt
  rw [hj] at h1
  injection h1 with h1
  subst h1
  have hr := (MapKept.heap_alloc w (.cells #[.int .i64 28, .int .i64 28, .int .i64 37, .int .i64 38, .int .i64 42, .int .i64 43, .int .i64 56, .int .i64 57, .int .i64 67, .int .i64 68, .int .i64 91, .int .i64 102, .int .i64 139, .int .i64 166, .int .i64 168, .int .i64 171, .int .i64 174, .int .i64 191, .int .i64 208, .int .i64 210, .int .i64 253, .int .i64 253, .int .i64 256, .int .i64 263, .int .i64 271, .int .i64 273] t)).1
  unfold wcells at h2 h3
  exact ⟨by simp only [World.cell?, hr]; exact h2, by simp only [World.cell?, hr]; exact h3⟩
end Go.Proofs.Ytdipgokbfjbgfaa.Ins
namespace Go.Proofs.Ytdipgokbfjbgfaa.Ins
open Go.RowKit Leb Typ

set_option maxRecDepth 100000 in
theorem pat_0 (w : World) : Calls Try.prog 27 #[.int .i64 0] w (PatIs w ⟨#[46]⟩) := by
  go_enter Try.func27, Try.ntmps27
  go_wp2
  go_ret
  exact ⟨rfl, Below.refl _ _⟩
set_option maxRecDepth 100000 in
theorem pat_1 (w : World) : Calls Try.prog 27 #[.int .i64 1] w (PatIs w ⟨#[46]⟩) := by
  go_enter Try.func27, Try.ntmps27
  go_wp2
  go_ret
  exact ⟨rfl, Below.refl _ _⟩
set_option maxRecDepth 100000 in
theorem pat_5 (w : World) : Calls Try.prog 27 #[.int .i64 5] w (PatIs w ⟨#[46]⟩) := by
  go_enter Try.func27, Try.ntmps27
  go_wp2
  go_ret
  exact ⟨rfl, Below.refl _ _⟩
set_option maxRecDepth 100000 in
theorem pat_11 (w : World) : Calls Try.prog 27 #[.int .i64 11] w (PatIs w ⟨#[46]⟩) := by
  go_enter Try.func27, Try.ntmps27
  go_wp2
  go_ret
  exact ⟨rfl, Below.refl _ _⟩
set_option maxRecDepth 100000 in
theorem pat_15 (w : World) : Calls Try.prog 27 #[.int .i64 15] w (PatIs w ⟨#[46]⟩) := by
  go_enter Try.func27, Try.ntmps27
  go_wp2
  go_ret
  exact ⟨rfl, Below.refl _ _⟩
set_option maxRecDepth 100000 in
theorem pat_26 (w : World) : Calls Try.prog 27 #[.int .i64 26] w (PatIs w ⟨#[46]⟩) := by
  go_enter Try.func27, Try.ntmps27
  go_wp2
  go_ret
  exact ⟨rfl, Below.refl _ _⟩
set_option maxRecDepth 100000 in
theorem pat_27 (w : World) : Calls Try.prog 27 #[.int .i64 27] w (PatIs w ⟨#[46]⟩) := by
  go_enter Try.func27, Try.ntmps27
  go_wp2
  go_ret
  exact ⟨rfl, Below.refl _ _⟩
set_option maxRecDepth 100000 in
theorem pat_2 (w : World) : Calls Try.prog 27 #[.int .i64 2] w (PatIs w ⟨#[116]⟩) := by
  go_enter Try.func27, Try.ntmps27
  go_wp2
  go_ret
  exact ⟨rfl, Below.refl _ _⟩
set_option maxRecDepth 100000 in
theorem pat_3 (w : World) : Calls Try.prog 27 #[.int .i64 3] w (PatIs w ⟨#[116]⟩) := by
  go_enter Try.func27, Try.ntmps27
  go_wp2
  go_ret
  exact ⟨rfl, Below.refl _ _⟩
set_option maxRecDepth 100000 in
theorem pat_4 (w : World) : Calls Try.prog 27 #[.int .i64 4] w (PatIs w ⟨#[116]⟩) := by
  go_enter Try.func27, Try.ntmps27
  go_wp2
  go_ret
  exact ⟨rfl, Below.refl _ _⟩
set_option maxRecDepth 100000 in
theorem pat_12 (w : World) : Calls Try.prog 27 #[.int .i64 12] w (PatIs w ⟨#[97]⟩) := by
  go_enter Try.func27, Try.ntmps27
  go_wp2
  go_ret
  exact ⟨rfl, Below.refl _ _⟩
set_option maxRecDepth 100000 in
theorem pat_13 (w : World) : Calls Try.prog 27 #[.int .i64 13] w (PatIs w ⟨#[97]⟩) := by
  go_enter Try.func27, Try.ntmps27
  go_wp2
  go_ret
  exact ⟨rfl, Below.refl _ _⟩
set_option maxRecDepth 100000 in
theorem pat_16 (w : World) : Calls Try.prog 27 #[.int .i64 16] w (PatIs w ⟨#[97]⟩) := by
  go_enter Try.func27, Try.ntmps27
  go_wp2
  go_ret
  exact ⟨rfl, Below.refl _ _⟩
set_option maxRecDepth 100000 in
theorem pat_32 (w : World) : Calls Try.prog 27 #[.int .i64 32] w (PatIs w ⟨#[97]⟩) := by
  go_enter Try.func27, Try.ntmps27
  go_wp2
  go_ret
  exact ⟨rfl, Below.refl _ _⟩
set_option maxRecDepth 100000 in
theorem pat_33 (w : World) : Calls Try.prog 27 #[.int .i64 33] w (PatIs w ⟨#[97]⟩) := by
  go_enter Try.func27, Try.ntmps27
  go_wp2
  go_ret
  exact ⟨rfl, Below.refl _ _⟩
set_option maxRecDepth 100000 in
theorem pat_34 (w : World) : Calls Try.prog 27 #[.int .i64 34] w (PatIs w ⟨#[97]⟩) := by
  go_enter Try.func27, Try.ntmps27
  go_wp2
  go_ret
  exact ⟨rfl, Below.refl _ _⟩
set_option maxRecDepth 100000 in
theorem pat_35 (w : World) : Calls Try.prog 27 #[.int .i64 35] w (PatIs w ⟨#[97]⟩) := by
  go_enter Try.func27, Try.ntmps27
  go_wp2
  go_ret
  exact ⟨rfl, Below.refl _ _⟩
set_option maxRecDepth 100000 in
theorem pat_36 (w : World) : Calls Try.prog 27 #[.int .i64 36] w (PatIs w ⟨#[97]⟩) := by
  go_enter Try.func27, Try.ntmps27
  go_wp2
  go_ret
  exact ⟨rfl, Below.refl _ _⟩
set_option maxRecDepth 100000 in
theorem pat_265 (w : World) : Calls Try.prog 27 #[.int .i64 265] w (PatIs w ⟨#[97]⟩) := by
  go_enter Try.func27, Try.ntmps27
  go_wp2
  go_ret
  exact ⟨rfl, Below.refl _ _⟩
set_option maxRecDepth 100000 in
theorem pat_269 (w : World) : Calls Try.prog 27 #[.int .i64 269] w (PatIs w ⟨#[97]⟩) := by
  go_enter Try.func27, Try.ntmps27
  go_wp2
  go_ret
  exact ⟨rfl, Below.refl _ _⟩
set_option maxRecDepth 100000 in
theorem pat_14 (w : World) : Calls Try.prog 27 #[.int .i64 14] w (PatIs w ⟨#[108, 97]⟩) := by
  go_enter Try.func27, Try.ntmps27
  go_wp2
  go_ret
  exact ⟨rfl, Below.refl _ _⟩
set_option maxRecDepth 100000 in
theorem pat_17 (w : World) : Calls Try.prog 27 #[.int .i64 17] w (PatIs w ⟨#[97, 98]⟩) := by
  go_enter Try.func27, Try.ntmps27
  go_wp2
  go_ret
  exact ⟨rfl, Below.refl _ _⟩
set_option maxRecDepth 100000 in
theorem pat_268 (w : World) : Calls Try.prog 27 #[.int .i64 268] w (PatIs w ⟨#[97, 98]⟩) := by
  go_enter Try.func27, Try.ntmps27
  go_wp2
  go_ret
  exact ⟨rfl, Below.refl _ _⟩
set_option maxRecDepth 100000 in
theorem pat_270 (w : World) : Calls Try.prog 27 #[.int .i64 270] w (PatIs w ⟨#[97, 98]⟩) := by
  go_enter Try.func27, Try.ntmps27
  go_wp2
  go_ret
  exact ⟨rfl, Below.refl _ _⟩
set_option maxRecDepth 100000 in
theorem pat_63 (w : World) : Calls Try.prog 27 #[.int .i64 63] w (PatIs w ⟨#[122]⟩) := by
  go_enter Try.func27, Try.ntmps27
  go_wp2
  go_ret
  exact ⟨rfl, Below.refl _ _⟩
set_option maxRecDepth 100000 in
theorem pat_64 (w : World) : Calls Try.prog 27 #[.int .i64 64] w (PatIs w ⟨#[122]⟩) := by
  go_enter Try.func27, Try.ntmps27
  go_wp2
  go_ret
  exact ⟨rfl, Below.refl _ _⟩
set_option maxRecDepth 100000 in
theorem pat_267 (w : World) : Calls Try.prog 27 #[.int .i64 267] w (PatIs w ⟨#[122]⟩) := by
  go_enter Try.func27, Try.ntmps27
  go_wp2
  go_ret
  exact ⟨rfl, Below.refl _ _⟩
set_option maxRecDepth 100000 in
theorem pat_266 (w : World) : Calls Try.prog 27 #[.int .i64 266] w (PatIs w ⟨#[122, 122]⟩) := by
  go_enter Try.func27, Try.ntmps27
  go_wp2
  go_ret
  exact ⟨rfl, Below.refl _ _⟩
set_option maxRecDepth 100000 in
theorem pat_65 (w : World) : Calls Try.prog 27 #[.int .i64 65] w (PatIs w ⟨#[107]⟩) := by
  go_enter Try.func27, Try.ntmps27
  go_wp2
  go_ret
  exact ⟨rfl, Below.refl _ _⟩
set_option maxRecDepth 100000 in
theorem pat_66 (w : World) : Calls Try.prog 27 #[.int .i64 66] w (PatIs w ⟨#[113]⟩) := by
  go_enter Try.func27, Try.ntmps27
  go_wp2
  go_ret
  exact ⟨rfl, Below.refl _ _⟩
set_option maxRecDepth 100000 in
theorem pat_264 (w : World) : Calls Try.prog 27 #[.int .i64 264] w (PatIs w ⟨#[97, 122]⟩) := by
  go_enter Try.func27, Try.ntmps27
  go_wp2
  go_ret
  exact ⟨rfl, Below.refl _ _⟩
end Go.Proofs.Ytdipgokbfjbgfaa.Ins
namespace Go.Proofs.Ytdipgokbfjbgfaa.Ins
open Go.RowKit Leb Typ

section
variable (op : Int) (w : World) (t0 : (op == 0) = false) (t1 : (op == 1) = false) (t5 : (op == 5) = false) (t11 : (op == 11) = false) (t15 : (op == 15) = false) (t26 : (op == 26) = false) (t27 : (op == 27) = false) (t2 : (op == 2) = false) (t3 : (op == 3) = false) (t4 : (op == 4) = false) (t12 : (op == 12) = false) (t13 : (op == 13) = false) (t16 : (op == 16) = false) (t32 : (op == 32) = false) (t33 : (op == 33) = false) (t34 : (op == 34) = false) (t35 : (op == 35) = false) (t36 : (op == 36) = false) (t265 : (op == 265) = false) (t269 : (op == 269) = false) (t14 : (op == 14) = false) (t17 : (op == 17) = false) (t268 : (op == 268) = false) (t270 : (op == 270) = false) (t63 : (op == 63) = false) (t64 : (op == 64) = false) (t267 : (op == 267) = false) (t266 : (op == 266) = false) (t65 : (op == 65) = false) (t66 : (op == 66) = false) (t264 : (op == 264) = false)
include t0 t1 t5 t11 t15 t26 t27 t2 t3 t4 t12 t13 t16 t32 t33 t34 t35 t36 t265 t269 t14 t17 t268 t270 t63 t64 t267 t266 t65 t66 t264
set_option maxHeartbeats 4000000 in
set_option maxRecDepth 100000 in
theorem pat_other (s : ByteArray) (acc num : Bool) (hs : Hid (s = if wideOp op then ⟨#[63]⟩ else if acc then ⟨#[97, 98]⟩ else if num then ⟨#[46]⟩ else ⟨#[]⟩))
    (HOf : Hid (∀ W, Calls Try.prog 46 #[.int .i64 op] W fun e w' => ∃ (v0 v1 v2 : Int) (v3 v4 : Bool), e = .returned (.tuple #[.agg #[.int .i64 v0, .int .i64 v1, .int .i64 v2, .bool v3, .bool v4], .bool acc]) ∧ Below W.heap.size W w'))
    (HTy : Hid (∀ W, Calls Try.prog 47 #[.int .i64 op] W fun e w' => ∃ v0 v1, e = .returned (.tuple #[v0, v1, .bool num]) ∧ Below W.heap.size W w')) :
    Calls Try.prog 27 #[.int .i64 op] w (PatIs w s) := by
  have HT := Lib.hid (tab_of w 74)
  go_enter Try.func27, Try.ntmps27
  go_wp2
  generalize w.alloc _ = W at *
  go_loopw [67] (fun i wr => ∃ j : Nat, j ≤ 13 ∧ i = .int .i64 (j : Int) ∧ Hid (Tab w wr w.heap.size) ∧ Hid (∀ (k : Nat) (r : Int × Int), k < j → wrows[k]? = some r → ¬ (r.1 ≤ op ∧ op ≤ r.2))) (fun i _ => 13 - (intOf i).toNat)
  case atStart => exact ⟨0, by omega, rfl, HT, Lib.hid (fun k r hk => by omega)⟩
  case round =>
    obtain ⟨j, hj, rfl, HTj, HN⟩ := hrel
    clear HT
    by_cases hlt : j < 13
    · obtain ⟨r, hr, _, _⟩ := wcells_at j hlt
      obtain ⟨c0, c1⟩ := HTj.out.at_ j r hr
      have hlti : (j : Int) < 13 := by omega
      have HW : Hid (r.1 ≤ op → op ≤ r.2 → wideOp op = true) := Lib.hid fun h1 h2 => (wide_iff op).2 ⟨j, r, hr, h1, h2⟩
      have HX : Hid (¬ (r.1 ≤ op ∧ op ≤ r.2) → ∀ (k : Nat) (r : Int × Int), k < j + 1 → wrows[k]? = some r → ¬ (r.1 ≤ op ∧ op ≤ r.2)) := Lib.hid fun h k r' hk hr' => by
        by_cases hkj : k = j
        · subst hkj
          rw [hr] at hr'
          injection hr' with hr'
          subst hr'
          exact h
        · exact HN.out k r' (by omega) hr'
      obtain ⟨lo, hi⟩ := r
      simp only at c0 c1 HW HX
      have HTA := Lib.hid (HTj.out.keep ((Below.refl _ _).alloc (Nat.le_refl _) (.cells #[.int .i64 lo, .int .i64 hi] 74)))
      clear hr HN HTj
      by_cases h1 : lo ≤ op
      · by_cases h2 : op ≤ hi
        · have HE : Hid (s = ⟨#[63]⟩) := Lib.hid (by rw [hs.out, if_pos (HW.out h1 h2)])
          have hb := HTA.out.below
          clear HTA HW HX
          go_wp2
          go_ret
          rw [HE.out]
          exact ⟨rfl, hb⟩
        · have HN2 := Lib.hid (HX.out (fun h => h2 h.2))
          go_wp2
          go_roundw
          case rel => exact ⟨j + 1, by omega, by go_num, HTA, HN2⟩
          case measure => simp [intOf]; omega
      · have HN2 := Lib.hid (HX.out (fun h => h1 h.1))
        go_wp2
        go_roundw
        case rel => exact ⟨j + 1, by omega, by go_num, HTA, HN2⟩
        case measure => simp [intOf]; omega
    · have hlti : ¬ (j : Int) < 13 := by omega
      obtain rfl : j = 13 := by omega
      have HF : Hid (wideOp op = false) := Lib.hid (Bool.eq_false_iff.2 fun h => by
        obtain ⟨k, r, hk, h1, h2⟩ := (wide_iff op).1 h
        have hk13 : k < 13 := (List.getElem?_eq_some_iff.1 hk).1
        exact HN.out k r hk13 hk ⟨h1, h2⟩)
      have hb := HTj.out.below
      clear HTj HN
      go_wp2_with fail
      refine (HOf.out _).mono ?_
      rintro e w1 ⟨v0, v1, v2, v3, v4, rfl, hb1⟩
      have hb2 := hb.trans (hb1.mono hb.size)
      clear hb hb1 HOf
      have hb3 : Below w.heap.size w (w1.alloc (.cells #[.int .i64 v0, .int .i64 v1, .int .i64 v2, .bool v3, .bool v4] 77)) := hb2.alloc hb2.size _
      cases acc with
      | true =>
        have HE : Hid (s = ⟨#[97, 98]⟩) := Lib.hid (by rw [hs.out, HF.out]; rfl)
        go_wp2
        go_ret
        rw [HE.out]
        exact ⟨rfl, hb3⟩
      | false =>
        go_wp2_with fail
        refine (HTy.out _).mono ?_
        rintro e w4 ⟨u0, u1, rfl, hb4⟩
        have hb5 := hb3.trans (hb4.mono hb3.size)
        clear hb2 hb3 hb4 HTy
        cases num with
        | true =>
          have HE : Hid (s = ⟨#[46]⟩) := Lib.hid (by rw [hs.out, HF.out]; rfl)
          go_wp2
          go_ret
          rw [HE.out]
          exact ⟨rfl, hb5⟩
        | false =>
          have HE : Hid (s = ⟨#[]⟩) := Lib.hid (by rw [hs.out, HF.out]; rfl)
          go_wp2
          go_ret
          rw [HE.out]
          exact ⟨rfl, hb5⟩
end
theorem pattern_any (op : Int) (w : World) : Calls Try.prog 27 #[.int .i64 op] w (PatIs w (patStr op)) := by
  by_cases h0 : op = 0
  · subst h0; exact pat_0 w
  by_cases h1 : op = 1
  · subst h1; exact pat_1 w
  by_cases h5 : op = 5
  · subst h5; exact pat_5 w
  by_cases h11 : op = 11
  · subst h11; exact pat_11 w
  by_cases h15 : op = 15
  · subst h15; exact pat_15 w
  by_cases h26 : op = 26
  · subst h26; exact pat_26 w
  by_cases h27 : op = 27
  · subst h27; exact pat_27 w
  by_cases h2 : op = 2
  · subst h2; exact pat_2 w
  by_cases h3 : op = 3
  · subst h3; exact pat_3 w
  by_cases h4 : op = 4
  · subst h4; exact pat_4 w
  by_cases h12 : op = 12
  · subst h12; exact pat_12 w
  by_cases h13 : op = 13
  · subst h13; exact pat_13 w
  by_cases h16 : op = 16
  · subst h16; exact pat_16 w
  by_cases h32 : op = 32
  · subst h32; exact pat_32 w
  by_cases h33 : op = 33
  · subst h33; exact pat_33 w
  by_cases h34 : op = 34
  · subst h34; exact pat_34 w
  by_cases h35 : op = 35
  · subst h35; exact pat_35 w
  by_cases h36 : op = 36
  · subst h36; exact pat_36 w
  by_cases h265 : op = 265
  · subst h265; exact pat_265 w
  by_cases h269 : op = 269
  · subst h269; exact pat_269 w
  by_cases h14 : op = 14
  · subst h14; exact pat_14 w
  by_cases h17 : op = 17
  · subst h17; exact pat_17 w
  by_cases h268 : op = 268
  · subst h268; exact pat_268 w
  by_cases h270 : op = 270
  · subst h270; exact pat_270 w
  by_cases h63 : op = 63
  · subst h63; exact pat_63 w
  by_cases h64 : op = 64
  · subst h64; exact pat_64 w
  by_cases h267 : op = 267
  · subst h267; exact pat_267 w
  by_cases h266 : op = 266
  · subst h266; exact pat_266 w
  by_cases h65 : op = 65
  · subst h65; exact pat_65 w
  by_cases h66 : op = 66
  · subst h66; exact pat_66 w
  by_cases h264 : op = 264
  · subst h264; exact pat_264 w
  have hn : named op = none := by
    unfold named
    rw [if_neg (by omega), if_neg (by omega), if_neg (by omega), if_neg (by omega), if_neg (by omega), if_neg (by omega), if_neg (by omega), if_neg (by omega), if_neg (by omega), if_neg (by omega)]
  have hp : patStr op = if wideOp op then ⟨#[63]⟩ else if accOp op then ⟨#[97, 98]⟩ else if numOp op then ⟨#[46]⟩ else ⟨#[]⟩ := by
    unfold patStr chars pat
    rw [hn]
    simp only
    cases wideOp op with
    | true => rfl
    | false =>
      cases accOp op with
      | true => rfl
      | false =>
        cases numOp op with
        | true => rfl
        | false => rfl
  refine pat_other op w (by simp [h0]) (by simp [h1]) (by simp [h5]) (by simp [h11]) (by simp [h15]) (by simp [h26]) (by simp [h27]) (by simp [h2]) (by simp [h3]) (by simp [h4]) (by simp [h12]) (by simp [h13]) (by simp [h16]) (by simp [h32]) (by simp [h33]) (by simp [h34]) (by simp [h35]) (by simp [h36]) (by simp [h265]) (by simp [h269]) (by simp [h14]) (by simp [h17]) (by simp [h268]) (by simp [h270]) (by simp [h63]) (by simp [h64]) (by simp [h267]) (by simp [h266]) (by simp [h65]) (by simp [h66]) (by simp [h264]) _ (accOp op) (numOp op) (Lib.hid hp) (Lib.hid fun W => ?_) (Lib.hid fun W => ?_)
  · refine (Pack.of_any op W).mono ?_
    rintro e w' ⟨he, hb⟩
    rw [kind_ok] at he
    exact ⟨_, _, _, _, _, he, hb⟩
  · refine (Num.rtypes_any op W).mono ?_
    rintro e w' ⟨A, he, _, hb⟩
    rw [typ_ok] at he
    exact ⟨_, _, he, hb⟩
end Go.Proofs.Ytdipgokbfjbgfaa.Ins
