/-
  What num's three functions are held to (given as a premise 'Does T': under what T says of the world they answer as the reference does), and with it: trammellaw03.awake and NumDoes answer true. Condition: 'Does T', and T holds of the world.
-/
import Derived.Test.YtbgcafkdojoilaaDoorNumTypes
import Derived.Below
import Derived.Deep.QuietTactic
import Derived.BigQuiet
import Derived.Deep.Draws
namespace Go.Proofs.YtbgcafkdojoilaaDoor.Num
open Go.RowKit

def I64 (n : Int) : Prop := -9223372036854775808 ≤ n ∧ n ≤ 9223372036854775807
def Un2 (w : World) (r : Nat × Bool) (e : Ending) (w' : World) : Prop := e = .returned (.tuple #[.int .u64 (r.1 : Int), .bool r.2]) ∧ Below w.heap.size w w'
def Bin3 (w : World) (r : Nat × Nat × Bool) (e : Ending) (w' : World) : Prop := e = .returned (.tuple #[.int .u64 (r.1 : Int), .int .i64 (r.2.1 : Int), .bool r.2.2]) ∧ Below w.heap.size w w'
def Typ3 (w : World) (r : List Int × Int × Bool) (e : Ending) (w' : World) : Prop :=
  ∃ A c, e = .returned (.tuple #[.slice A r.1.length c, .int .i64 r.2.1, .bool r.2.2]) ∧ IntsAt w' A r.1 ∧ r.1.length ≤ c ∧ Below w.heap.size w w'
/-- num's functions answer as the reference's do. -/
structure Does (T : World → Prop) : Prop where
  keep : ∀ w w', T w → Below w.heap.size w w' → T w'
  un : ∀ (op : Int) (a : Nat) (w : World), I64 op → a < 18446744073709551616 → T w → Calls Tryd.prog 10 #[.int .i64 op, .int .u64 (a : Int)] w (Un2 w (unVal op a))
  bin : ∀ (op : Int) (a b : Nat) (w : World), I64 op → a < 18446744073709551616 → b < 18446744073709551616 → T w → Calls Tryd.prog 12 #[.int .i64 op, .int .u64 (a : Int), .int .u64 (b : Int)] w (Bin3 w (binAll op a b))
  typ : ∀ (op : Int) (w : World), I64 op → T w → Calls Tryd.prog 14 #[.int .i64 op] w (Typ3 w (typVal op))
theorem bin_is {T : World → Prop} (D : Does T) {op : Int} {a b v t : Nat} {ok : Bool} (w : World) (hT : T w) (ho : I64 op) (ha : a < 18446744073709551616) (hb : b < 18446744073709551616) (h : binAll op a b = (v, t, ok)) :
    Calls Tryd.prog 12 #[.int .i64 op, .int .u64 (a : Int), .int .u64 (b : Int)] w fun e w' => e = .returned (.tuple #[.int .u64 (v : Int), .int .i64 (t : Int), .bool ok]) ∧ Below w.heap.size w w' := by
  have := D.bin op a b w ho ha hb hT
  rw [h] at this
  exact this
theorem un_is {T : World → Prop} (D : Does T) {op : Int} {a v : Nat} {ok : Bool} (w : World) (hT : T w) (ho : I64 op) (ha : a < 18446744073709551616) (h : unVal op a = (v, ok)) :
    Calls Tryd.prog 10 #[.int .i64 op, .int .u64 (a : Int)] w fun e w' => e = .returned (.tuple #[.int .u64 (v : Int), .bool ok]) ∧ Below w.heap.size w w' := by
  have := D.un op a w ho ha hT
  rw [h] at this
  exact this
theorem awake_bin : binAll 120 1 33 = (2147483648, 0, true) := by decide +kernel
theorem awake_un : unVal 103 1 = (31, true) := by decide +kernel
theorem below_drewN {B : Nat} {a w : World} (h : Below B a w) (n : Nat) : Below B a (w.drewN n) := ⟨h.os, h.tape, h.output, h.size, h.block⟩
theorem IntsAt.below {w w' : World} {A : Option Addr} {l : List Int} (h : IntsAt w A l) (hb : Below w.heap.size w w') : IntsAt w' A l := by
  intro hl
  obtain ⟨b, rfl, hlt, hc⟩ := h hl
  exact ⟨b, rfl, Nat.lt_of_lt_of_le hlt hb.size, fun j hj => (hb.cell hlt).trans (hc j hj)⟩
theorem typ_len (op : Int) : (typVal op).1.length ≤ 2 := by
  unfold typVal
  split
  · simp
  · split <;> simp
section
variable {T : World → Prop} (D : Does T)
include D
theorem awake_any (w : World) (hT : T w) : Calls Tryd.prog 9 #[] w fun e w' => e = .returned (.bool true) ∧ Below w.heap.size w w' := by
  have HB := Lib.hid (bin_is D w hT ⟨by omega, by omega⟩ (by omega) (by omega) awake_bin)
  have HU := Lib.hid (fun W hW => un_is D W hW ⟨by omega, by omega⟩ (by omega) awake_un)
  have HK := Lib.hid D.keep
  clear D
  go_enter Tryd.func9, Tryd.ntmps9
  go_wp2_with fail
  refine HB.out.mono ?_
  rintro e w1 ⟨rfl, hb1⟩
  go_wp2_with fail
  refine (HU.out _ (HK.out _ _ hT hb1)).mono ?_
  rintro e w2 ⟨rfl, hb2⟩
  go_wp2
  go_ret
  exact ⟨rfl, hb1.trans (hb2.mono hb1.size)⟩
set_option maxHeartbeats 2000000 in
set_option maxRecDepth 100000 in
theorem does_law (op : Int) (a b : Nat) (w : World) (hT : T w) (ho : I64 op) (ha : a < 18446744073709551616) (hb : b < 18446744073709551616) :
    Calls Tryd.prog 3 #[.int .i64 op, .int .u64 (a : Int), .int .u64 (b : Int)] w fun e w' => e = .returned (.bool true) ∧ Below w.heap.size w w' := by
  have HA := Lib.hid (awake_any D w hT)
  have HU := Lib.hid (fun W hW => D.un op a W ho ha hW)
  have HB := Lib.hid (fun W hW => D.bin op a b W ho ha hb hW)
  have HT := Lib.hid (fun W hW => D.typ op W ho hW)
  have HRU := Lib.hid (fun W => run_any op a W ha)
  have HRB := Lib.hid (fun W => rbin_any op a b W ha hb)
  have HRT := Lib.hid (fun W => rtypes_any op W)
  have HK := Lib.hid D.keep
  have hlen := typ_len op
  clear D ha hb ho
  unfold Un2 at HU
  unfold Bin3 at HB
  generalize (unVal op a).1 = u1 at *
  generalize (unVal op a).2 = u2 at *
  generalize (binAll op a b).1 = b1 at *
  generalize (binAll op a b).2.1 = b2 at *
  generalize (binAll op a b).2.2 = b3 at *
  unfold Typ3 at HT
  generalize (typVal op).1 = l at *
  generalize (typVal op).2.1 = t2 at *
  generalize (typVal op).2.2 = t3 at *
  go_enter Tryd.func3, Tryd.ntmps3
  go_wp2_with fail
  refine HA.out.mono ?_
  rintro e w1 ⟨rfl, hb1⟩
  have hT1 := HK.out _ _ hT hb1
  go_wp2_with fail
  refine (HU.out _ hT1).mono ?_
  rintro e w2 ⟨rfl, hb2⟩
  have hT2 := HK.out _ _ hT1 hb2
  have hb3 := hb1.trans (hb2.mono hb1.size)
  clear hT1 hb1 hb2 HA HU
  go_wp2_with fail
  refine (HRU.out _).mono ?_
  rintro e w' ⟨rfl, rfl⟩
  clear HRU
  go_wp2_with fail
  refine (HB.out _ hT2).mono ?_
  rintro e w4 ⟨rfl, hb4⟩
  have hT4 := HK.out _ _ hT2 hb4
  have hb5 := hb3.trans (hb4.mono hb3.size)
  clear hT2 hb3 hb4 HB
  go_wp2_with fail
  refine (HRB.out _).mono ?_
  rintro e w' ⟨rfl, rfl⟩
  clear HRB
  go_wp2_with fail
  refine (HT.out _ hT4).mono ?_
  rintro e w6 ⟨A6, c6, rfl, hI6, hc6, hb6⟩
  have hb7 := hb5.trans (hb6.mono hb5.size)
  clear hT4 hb5 hb6 HT
  go_wp2_with fail
  refine (HRT.out _).mono ?_
  rintro e w8 ⟨A8, rfl, hI8, hb8⟩
  have hb9 := hb7.trans (hb8.mono hb7.size)
  have hI7 := IntsAt.below hI6 hb8
  clear hb7 hb8 hI6 HRT HK hT
  go_wp2
  go_loopw [19] (fun i wr => ∃ j : Nat, j ≤ l.length ∧ i = .int .i64 (j : Int) ∧ IntsAt wr A6 l ∧ IntsAt wr A8 l ∧ Below w.heap.size w wr) (fun i _ => l.length - (intOf i).toNat)
  case atStart => exact ⟨0, by omega, rfl, hI7, hI8, hb9⟩
  case round =>
    obtain ⟨j, hj, rfl, hP, hQ, hbr⟩ := hrel
    clear hI7 hI8 hb9
    by_cases hlt : j < l.length
    · obtain ⟨p, rfl, _, hp⟩ := hP (by omega)
      obtain ⟨q, rfl, _, hq⟩ := hQ (by omega)
      have hcp := hp j hlt
      have hcq := hq j hlt
      have hji : (j : Int) < (l.length : Int) := by omega
      have hjc : (j : Int) < (c6 : Int) := by omega
      generalize l[j] = x at *
      clear hp hq
      have HP := Lib.hid hP
      have HQ := Lib.hid hQ
      clear hP hQ
      go_wp2_with fail
      go_quiet (fail)
      go_wp2
      go_roundw
      case rel => exact ⟨j + 1, by omega, by go_num, HP.out, HQ.out, below_drewN hbr _⟩
      case measure => simp [intOf]; omega
    · have hji : ¬ (j : Int) < (l.length : Int) := by omega
      clear hP hQ
      go_wp2
      go_ret
      exact ⟨rfl, hbr⟩
end
end Go.Proofs.YtbgcafkdojoilaaDoor.Num
