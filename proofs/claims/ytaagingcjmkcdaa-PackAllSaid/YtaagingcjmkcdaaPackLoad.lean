/-
  trammelref04.Load: what it comes to. Condition: the bytes lie in memory as a slice's cells.
-/
import Derived.Test.YtaagingcjmkcdaaPackOf
import Derived.Test.YtaagingcjmkcdaaPackMath
namespace Go.Proofs.Ytaagingcjmkcdaa.Pack
open Go.RowKit Leb

/-- A number and whether there is one; nothing that was there has changed. -/
def Num2 (w : World) (n : Nat) (ok : Bool) (e : Ending) (w' : World) : Prop := e = .returned (.tuple #[.int .u64 (n : Int), .bool ok]) ∧ Below w.heap.size w w'
theorem bel_kind {wo w1 : World} (hb : Below wo.heap.size wo w1) (o : Obj) : Below wo.heap.size wo (w1.alloc o) := hb.alloc hb.size o
section
variable (op o : Int) (bits bytes : Nat) (s st : Bool) (A : Option Addr) (len c : Nat) (wo : World)
set_option maxHeartbeats 1000000 in
set_option maxRecDepth 100000 in
theorem load_none (HO : Hid (Calls Try.prog 8 #[.int .i64 op] wo fun e w' => e = .returned (.tuple #[.agg #[.int .i64 o, .int .i64 (bits : Int), .int .i64 (bytes : Int), .bool s, .bool st], .bool false]) ∧ Below wo.heap.size wo w')) :
    Calls Try.prog 11 #[.int .i64 op, .slice A len c] wo (Num2 wo 0 false) := by
  go_enter Try.func11, Try.ntmps11
  go_wp2_with fail
  refine HO.out.mono ?_
  rintro e w1 ⟨rfl, hb1⟩
  go_wp2
  go_ret2
  exact ⟨rfl, bel_kind hb1 _⟩
set_option maxHeartbeats 1000000 in
set_option maxRecDepth 100000 in
theorem load_store (HO : Hid (Calls Try.prog 8 #[.int .i64 op] wo fun e w' => e = .returned (.tuple #[.agg #[.int .i64 o, .int .i64 (bits : Int), .int .i64 (bytes : Int), .bool s, .bool true], .bool true]) ∧ Below wo.heap.size wo w')) :
    Calls Try.prog 11 #[.int .i64 op, .slice A len c] wo (Num2 wo 0 false) := by
  go_enter Try.func11, Try.ntmps11
  go_wp2_with fail
  refine HO.out.mono ?_
  rintro e w1 ⟨rfl, hb1⟩
  go_wp2
  go_ret2
  exact ⟨rfl, bel_kind hb1 _⟩
set_option maxHeartbeats 1000000 in
set_option maxRecDepth 100000 in
theorem load_len (hl : bytes ≠ len) (HO : Hid (Calls Try.prog 8 #[.int .i64 op] wo fun e w' => e = .returned (.tuple #[.agg #[.int .i64 o, .int .i64 (bits : Int), .int .i64 (bytes : Int), .bool s, .bool false], .bool true]) ∧ Below wo.heap.size wo w')) :
    Calls Try.prog 11 #[.int .i64 op, .slice A len c] wo (Num2 wo 0 false) := by
  have hne : ((bytes : Int) != (len : Int)) = true := by simp; omega
  clear hl
  go_enter Try.func11, Try.ntmps11
  go_wp2_with fail
  refine HO.out.mono ?_
  rintro e w1 ⟨rfl, hb1⟩
  go_wp2
  go_ret2
  exact ⟨rfl, bel_kind hb1 _⟩
end
set_option maxHeartbeats 4000000 in
set_option maxRecDepth 100000 in
theorem load_run (op o : Int) (N : Nat) (s : Bool) (A : Option Addr) (l : List Nat) (c V bits : Nat) (wo : World) (hN : (bits = 32 ∧ N = 4) ∨ (bits = 64 ∧ N = 8)) (h1 : 1 ≤ l.length) (hlN : l.length ≤ N) (hb : Bytes wo wo.heap.size A l) (hV : V = le (full s N l))
    (HO : Hid (Calls Try.prog 8 #[.int .i64 op] wo fun e w' => e = .returned (.tuple #[.agg #[.int .i64 o, .int .i64 (bits : Int), .int .i64 (l.length : Int), .bool s, .bool false], .bool true]) ∧ Below wo.heap.size wo w')) :
    Calls Try.prog 11 #[.int .i64 op, .slice A l.length c] wo (Num2 wo V true) := by
  have h8 : wrap64 ((bits : Int) / 8) = (N : Int) := by rw [IntWalk.wrap64_in ((bits : Int) / 8) (by omega)]; omega
  have h9 : wrap64 ((N : Int) - 1) = (N : Int) - 1 := IntWalk.wrap64_in _ (by omega)
  have hN8 : N ≤ 8 := by omega
  have HV := Lib.hid hV
  have HFL := Lib.hid (full_len s N l hlN)
  have HBY := Lib.hid hb.1
  have HLN := Lib.hid hlN
  obtain ⟨b, off, rfl, hbl, hcs⟩ := hb.2 (by omega)
  have hlast := hcs (l.length - 1) (by omega)
  have hle : (l.length : Int) - 1 = ((l.length - 1 : Nat) : Int) := by omega
  have HCS := Lib.hid hcs
  obtain ⟨y, hy⟩ : ∃ y, y = l[l.length - 1]'(by omega) := ⟨_, rfl⟩
  rw [← hy] at hlast
  have HL := Lib.hid hlast
  have HFI : Hid (fill s l = if s = true ∧ 127 < y then 255 else 0) := Lib.hid (by unfold fill; rw [hy]; simp [List.getD, List.getElem?_eq_getElem (show l.length - 1 < l.length by omega)])
  clear hV hN hb hcs hlast hlN hy
  go_enter Try.func11, Try.ntmps11
  go_wp2_with fail
  refine HO.out.mono ?_
  rintro e w1 ⟨rfl, hb1⟩
  clear HO
  go_wp2
  have hb2 := bel_kind hb1 (.cells #[.int .i64 o, .int .i64 (bits : Int), .int .i64 (l.length : Int), .bool s, .bool false] 26)
  have hsg : (w1.alloc (.cells #[.int .i64 o, .int .i64 (bits : Int), .int .i64 (l.length : Int), .bool s, .bool false] 26)).cell? ⟨w1.heap.size, 3, none⟩ = some (.bool s) := by simp
  have HB2 := Lib.hid hb2
  clear hb1 hb2
  generalize w1.alloc _ = W at *
  generalize w1.heap.size = R at *
  go_loop [8, 9] (fun n i => ∃ (j X : Nat), j ≤ N ∧ i = .int .i64 ((j : Int) - 1) ∧ n = .int .u64 (X : Int) ∧ Hid (X = le ((full s N l).drop j))) (fun _ i => (intOf i + 1).toNat)
  case atStart => exact ⟨N, 0, Nat.le_refl _, rfl, rfl, Lib.hid (by rw [List.drop_of_length_le (by rw [HFL.out]; exact Nat.le_refl _)]; rfl)⟩
  case round =>
    obtain ⟨j, X, hj, rfl, rfl, HX⟩ := hrel
    cases j with
    | zero =>
      obtain rfl : V = X := by rw [HV.out, HX.out]; rfl
      rw [show (((0 : Nat) : Int) - 1) = -1 from rfl]
      clear HX HV HFL HBY HLN HCS HL HFI h8 h9 hle hsg
      go_wp2
      go_ret2
      exact ⟨rfl, HB2.out⟩
    | succ q =>
      rw [show (((q + 1 : Nat) : Int) - 1) = (q : Int) from by omega]
      have hX56 := full_bound s N l q X HBY.out HLN.out hN8 HX.out (by omega)
      have hq : q < N := by omega
      have hqf : q < (full s N l).length := by rw [HFL.out]; exact hq
      by_cases hql : q < l.length
      · have hqi : (q : Int) < (l.length : Int) := by omega
        have hc := (HB2.out.cell (p := ⟨b, off + q, none⟩) hbl).trans (HCS.out q hql)
        have hx := HBY.out _ (List.getElem_mem hql)
        have HN : Hid (X * 256 + l[q] = le ((full s N l).drop q)) := Lib.hid (full_step s N l q _ X hqf (full_low s N l q hql hqf) HX.out)
        clear HX HV HFL HBY HLN HCS HL HFI h8 h9 hle hsg hqf hj
        generalize l[q] = x at *
        have hXi : (X : Int) < 72057594037927936 := by omega
        have hxi : (x : Int) < 256 := by omega
        clear hX56 hx
        go_wp2
        go_round
        case rel => exact ⟨q, X * 256 + x, by omega, by go_num, by go_num, HN⟩
        case measure => simp [intOf]
      · have hqi : ¬ (q : Int) < (l.length : Int) := by omega
        have hc := (HB2.out.cell (p := ⟨b, off + (l.length - 1), none⟩) hbl).trans HL.out
        have HN : Hid (X * 256 + fill s l = le ((full s N l).drop q)) := Lib.hid (full_step s N l q _ X hqf (full_high s N l q hql hqf) HX.out)
        rw [HFI.out] at HN
        have hXi : (X : Int) < 72057594037927936 := by omega
        clear HX HV HFL HBY HCS HL HFI h8 h9 hqf hj hX56
        clear hle HLN
        cases s with
        | false =>
          rw [if_neg (by simp)] at HN
          go_wp2
          go_round
          case rel => exact ⟨q, X * 256 + 0, by omega, by go_num, by go_num, HN⟩
          case measure => simp [intOf]
        | true =>
          by_cases hy : 127 < y
          · have hyi : (127 : Int) < (y : Int) := by omega
            rw [if_pos ⟨rfl, hy⟩] at HN
            clear hy
            go_wp2
            go_round
            case rel => exact ⟨q, X * 256 + 255, by omega, by go_num, by go_num, HN⟩
            case measure => simp [intOf]
          · have hyi : ¬ (127 : Int) < (y : Int) := by omega
            rw [if_neg (fun h => hy h.2)] at HN
            clear hy
            go_wp2
            go_round
            case rel => exact ⟨q, X * 256 + 0, by omega, by go_num, by go_num, HN⟩
            case measure => simp [intOf]
end Go.Proofs.Ytaagingcjmkcdaa.Pack
