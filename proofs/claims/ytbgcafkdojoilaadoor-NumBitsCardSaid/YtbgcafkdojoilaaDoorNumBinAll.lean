/-
  trammelref03's Bin, for every code. Condition: both numbers are of 64 bits.
-/
import Derived.Test.YtbgcafkdojoilaaDoorNumArith
import Derived.Test.YtbgcafkdojoilaaDoorNumDiv
import Derived.Test.YtbgcafkdojoilaaDoorNumShift
namespace Go.Proofs.YtbgcafkdojoilaaDoor.Num
open Go.RowKit

/-- What an operation of two numbers answers: the value, the trap, whether there is one. -/
def binAll (op : Int) (a b : Nat) : Nat × Nat × Bool :=
  if 70 ≤ op ∧ op ≤ 79 then ((binVal (op - 70).toNat 32 (cutN a 32) (cutN b 32)).1, (binVal (op - 70).toNat 32 (cutN a 32) (cutN b 32)).2, true)
  else if 81 ≤ op ∧ op ≤ 90 then ((binVal (op - 81).toNat 64 (cutN a 64) (cutN b 64)).1, (binVal (op - 81).toNat 64 (cutN a 64) (cutN b 64)).2, true)
  else if 106 ≤ op ∧ op ≤ 120 then ((binVal ((op - 106).toNat + 10) 32 (cutN a 32) (cutN b 32)).1, (binVal ((op - 106).toNat + 10) 32 (cutN a 32) (cutN b 32)).2, true)
  else if 124 ≤ op ∧ op ≤ 138 then ((binVal ((op - 124).toNat + 10) 64 (cutN a 64) (cutN b 64)).1, (binVal ((op - 124).toNat + 10) 64 (cutN a 64) (cutN b 64)).2, true)
  else (0, 0, false)
set_option maxRecDepth 100000 in
theorem bin_none_0 (op : Int) (a b : Nat) (wo : World) (h : op ≤ 69) :
    Calls Tryd.prog 13 #[.int .i64 op, .int .u64 (a : Int), .int .u64 (b : Int)] wo (Is3 wo 0 0 false) := by
  have g70 : ¬ 70 ≤ op := by omega
  have g81 : ¬ 81 ≤ op := by omega
  have g106 : ¬ 106 ≤ op := by omega
  have g124 : ¬ 124 ≤ op := by omega
  have l79 : op ≤ 79 := by omega
  have l90 : op ≤ 90 := by omega
  have l120 : op ≤ 120 := by omega
  have l138 : op ≤ 138 := by omega
  clear h
  go_enter Tryd.func13, Tryd.ntmps13
  go_wp2
  go_ret3
  exact ⟨rfl, rfl⟩
set_option maxRecDepth 100000 in
theorem bin_none_1 (op : Int) (a b : Nat) (wo : World) (h : 80 ≤ op ∧ op ≤ 80) :
    Calls Tryd.prog 13 #[.int .i64 op, .int .u64 (a : Int), .int .u64 (b : Int)] wo (Is3 wo 0 0 false) := by
  have g70 : 70 ≤ op := by omega
  have g81 : ¬ 81 ≤ op := by omega
  have g106 : ¬ 106 ≤ op := by omega
  have g124 : ¬ 124 ≤ op := by omega
  have l79 : ¬ op ≤ 79 := by omega
  have l90 : op ≤ 90 := by omega
  have l120 : op ≤ 120 := by omega
  have l138 : op ≤ 138 := by omega
  clear h
  go_enter Tryd.func13, Tryd.ntmps13
  go_wp2
  go_ret3
  exact ⟨rfl, rfl⟩
set_option maxRecDepth 100000 in
theorem bin_none_2 (op : Int) (a b : Nat) (wo : World) (h : 91 ≤ op ∧ op ≤ 105) :
    Calls Tryd.prog 13 #[.int .i64 op, .int .u64 (a : Int), .int .u64 (b : Int)] wo (Is3 wo 0 0 false) := by
  have g70 : 70 ≤ op := by omega
  have g81 : 81 ≤ op := by omega
  have g106 : ¬ 106 ≤ op := by omega
  have g124 : ¬ 124 ≤ op := by omega
  have l79 : ¬ op ≤ 79 := by omega
  have l90 : ¬ op ≤ 90 := by omega
  have l120 : op ≤ 120 := by omega
  have l138 : op ≤ 138 := by omega
  clear h
  go_enter Tryd.func13, Tryd.ntmps13
  go_wp2
  go_ret3
  exact ⟨rfl, rfl⟩
set_option maxRecDepth 100000 in
theorem bin_none_3 (op : Int) (a b : Nat) (wo : World) (h : 121 ≤ op ∧ op ≤ 123) :
    Calls Tryd.prog 13 #[.int .i64 op, .int .u64 (a : Int), .int .u64 (b : Int)] wo (Is3 wo 0 0 false) := by
  have g70 : 70 ≤ op := by omega
  have g81 : 81 ≤ op := by omega
  have g106 : 106 ≤ op := by omega
  have g124 : ¬ 124 ≤ op := by omega
  have l79 : ¬ op ≤ 79 := by omega
  have l90 : ¬ op ≤ 90 := by omega
  have l120 : ¬ op ≤ 120 := by omega
  have l138 : op ≤ 138 := by omega
  clear h
  go_enter Tryd.func13, Tryd.ntmps13
  go_wp2
  go_ret3
  exact ⟨rfl, rfl⟩
set_option maxRecDepth 100000 in
theorem bin_none_4 (op : Int) (a b : Nat) (wo : World) (h : 139 ≤ op) :
    Calls Tryd.prog 13 #[.int .i64 op, .int .u64 (a : Int), .int .u64 (b : Int)] wo (Is3 wo 0 0 false) := by
  have g70 : 70 ≤ op := by omega
  have g81 : 81 ≤ op := by omega
  have g106 : 106 ≤ op := by omega
  have g124 : 124 ≤ op := by omega
  have l79 : ¬ op ≤ 79 := by omega
  have l90 : ¬ op ≤ 90 := by omega
  have l120 : ¬ op ≤ 120 := by omega
  have l138 : ¬ op ≤ 138 := by omega
  clear h
  go_enter Tryd.func13, Tryd.ntmps13
  go_wp2
  go_ret3
  exact ⟨rfl, rfl⟩
theorem rbin_any (op : Int) (a b : Nat) (wo : World) (ha : a < 18446744073709551616) (hb : b < 18446744073709551616) :
    Calls Tryd.prog 13 #[.int .i64 op, .int .u64 (a : Int), .int .u64 (b : Int)] wo (Is3 wo (binAll op a b).1 (binAll op a b).2.1 (binAll op a b).2.2) := by
  unfold binAll
  by_cases c0 : 70 ≤ op ∧ op ≤ 79
  · rw [if_pos c0]
    have hc : op = 70 ∨ op = 71 ∨ op = 72 ∨ op = 73 ∨ op = 74 ∨ op = 75 ∨ op = 76 ∨ op = 77 ∨ op = 78 ∨ op = 79 := by omega
    rcases hc with rfl | rfl | rfl | rfl | rfl | rfl | rfl | rfl | rfl | rfl
    · exact bin_70 a b wo ha hb
    · exact bin_71 a b wo ha hb
    · exact bin_72 a b wo ha hb
    · exact bin_73 a b wo ha hb
    · exact bin_74 a b wo ha hb
    · exact bin_75 a b wo ha hb
    · exact bin_76 a b wo ha hb
    · exact bin_77 a b wo ha hb
    · exact bin_78 a b wo ha hb
    · exact bin_79 a b wo ha hb
  rw [if_neg c0]
  by_cases c1 : 81 ≤ op ∧ op ≤ 90
  · rw [if_pos c1]
    have hc : op = 81 ∨ op = 82 ∨ op = 83 ∨ op = 84 ∨ op = 85 ∨ op = 86 ∨ op = 87 ∨ op = 88 ∨ op = 89 ∨ op = 90 := by omega
    rcases hc with rfl | rfl | rfl | rfl | rfl | rfl | rfl | rfl | rfl | rfl
    · exact bin_81 a b wo ha hb
    · exact bin_82 a b wo ha hb
    · exact bin_83 a b wo ha hb
    · exact bin_84 a b wo ha hb
    · exact bin_85 a b wo ha hb
    · exact bin_86 a b wo ha hb
    · exact bin_87 a b wo ha hb
    · exact bin_88 a b wo ha hb
    · exact bin_89 a b wo ha hb
    · exact bin_90 a b wo ha hb
  rw [if_neg c1]
  by_cases c2 : 106 ≤ op ∧ op ≤ 120
  · rw [if_pos c2]
    have hc : op = 106 ∨ op = 107 ∨ op = 108 ∨ op = 109 ∨ op = 110 ∨ op = 111 ∨ op = 112 ∨ op = 113 ∨ op = 114 ∨ op = 115 ∨ op = 116 ∨ op = 117 ∨ op = 118 ∨ op = 119 ∨ op = 120 := by omega
    rcases hc with rfl | rfl | rfl | rfl | rfl | rfl | rfl | rfl | rfl | rfl | rfl | rfl | rfl | rfl | rfl
    · exact bin_106 a b wo ha hb
    · exact bin_107 a b wo ha hb
    · exact bin_108 a b wo ha hb
    · exact bin_109 a b wo ha hb
    · exact bin_110 a b wo ha hb
    · exact bin_111 a b wo ha hb
    · exact bin_112 a b wo ha hb
    · exact bin_113 a b wo ha hb
    · exact bin_114 a b wo ha hb
    · exact bin_115 a b wo ha hb
    · exact bin_116 a b wo ha hb
    · exact bin_117 a b wo ha hb
    · exact bin_118 a b wo ha hb
    · exact bin_119 a b wo ha hb
    · exact bin_120 a b wo ha hb
  rw [if_neg c2]
  by_cases c3 : 124 ≤ op ∧ op ≤ 138
  · rw [if_pos c3]
    have hc : op = 124 ∨ op = 125 ∨ op = 126 ∨ op = 127 ∨ op = 128 ∨ op = 129 ∨ op = 130 ∨ op = 131 ∨ op = 132 ∨ op = 133 ∨ op = 134 ∨ op = 135 ∨ op = 136 ∨ op = 137 ∨ op = 138 := by omega
    rcases hc with rfl | rfl | rfl | rfl | rfl | rfl | rfl | rfl | rfl | rfl | rfl | rfl | rfl | rfl | rfl
    · exact bin_124 a b wo ha hb
    · exact bin_125 a b wo ha hb
    · exact bin_126 a b wo ha hb
    · exact bin_127 a b wo ha hb
    · exact bin_128 a b wo ha hb
    · exact bin_129 a b wo ha hb
    · exact bin_130 a b wo ha hb
    · exact bin_131 a b wo ha hb
    · exact bin_132 a b wo ha hb
    · exact bin_133 a b wo ha hb
    · exact bin_134 a b wo ha hb
    · exact bin_135 a b wo ha hb
    · exact bin_136 a b wo ha hb
    · exact bin_137 a b wo ha hb
    · exact bin_138 a b wo ha hb
  rw [if_neg c3]
  by_cases d0 : op ≤ 69
  · exact bin_none_0 op a b wo d0
  by_cases d1 : op ≤ 80
  · exact bin_none_1 op a b wo (by omega)
  by_cases d2 : op ≤ 105
  · exact bin_none_2 op a b wo (by omega)
  by_cases d3 : op ≤ 123
  · exact bin_none_3 op a b wo (by omega)
  exact bin_none_4 op a b wo (by omega)
end Go.Proofs.YtbgcafkdojoilaaDoor.Num
