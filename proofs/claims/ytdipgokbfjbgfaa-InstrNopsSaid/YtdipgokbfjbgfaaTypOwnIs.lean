/-
  typ.isNumber: what it comes to. No condition.
-/
import Derived.Test.YtdipgokbfjbgfaaTypPlainOwn
namespace Go.Proofs.Ytdipgokbfjbgfaa.Typ
open Go.RowKit Leb

theorem isNum_neg (n : Int) (w : World) (h : ¬ 0 ≤ n) : Calls Try.prog 63 #[.int .i64 n] w (Same1 w (.bool false)) := by
  go_enter Try.func63, Try.ntmps63
  go_wp2
  go_ret
  exact ⟨rfl, rfl⟩
theorem isNum_in (n : Int) (w : World) (h : 0 ≤ n) (h2 : n ≤ 4294967295) : Calls Try.prog 63 #[.int .i64 n] w (Same1 w (.bool true)) := by
  go_enter Try.func63, Try.ntmps63
  go_wp2
  go_ret
  exact ⟨rfl, rfl⟩
theorem isNum_out (n : Int) (w : World) (h : 0 ≤ n) (h2 : ¬ n ≤ 4294967295) : Calls Try.prog 63 #[.int .i64 n] w (Same1 w (.bool false)) := by
  go_enter Try.func63, Try.ntmps63
  go_wp2
  go_ret
  exact ⟨rfl, rfl⟩
theorem isNum_any (n : Int) (w : World) : Calls Try.prog 63 #[.int .i64 n] w (Same1 w (.bool (decide (0 ≤ n ∧ n ≤ 4294967295)))) := by
  by_cases h : 0 ≤ n
  · by_cases h2 : n ≤ 4294967295
    · rw [decide_eq_true ⟨h, h2⟩]; exact isNum_in n w h h2
    · rw [decide_eq_false (fun x => h2 x.2)]; exact isNum_out n w h h2
  · rw [decide_eq_false (fun x => h x.1)]; exact isNum_neg n w h
end Go.Proofs.Ytdipgokbfjbgfaa.Typ
