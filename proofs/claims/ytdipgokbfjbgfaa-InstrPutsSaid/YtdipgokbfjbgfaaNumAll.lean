/-
  PackOf: trammelref04.Of: the kind of an access, or none. No condition.
  NumMath: Plain arithmetic of numbers as lists of bits: a number that is put together bit by bit, from the highest down; its bits. No condition but those that each lemma names; nothing of the program.
  NumRef: trammelref03's bit, cut, one, less, minus: what each comes to. Conditions as each lemma says.
  NumSpread: trammelref03's spread, turned, moved, each: numbers that are put together bit by bit. Conditions as each lemma says.
  NumDivide: trammelref03's divide: quotient and rest by long division. Condition: the divisor is not 0.
  NumQuot: trammelref03's quotient: quotient and rest, signed and unsigned, with their traps. Conditions: both numbers are of w bits.
  NumUn: trammelref03's Un: what it comes to, code by code. Condition: the number is of 64 bits.
  NumUnAll: trammelref03's Un, for every code. Condition: the number is of 64 bits.
  NumBinVal: trammelref03's quotient for every sign; what the operations of two numbers answer. Conditions as each lemma says.
  NumCmp: trammelref03's Bin: the comparisons, code by code. Condition: both numbers are of 64 bits.
  NumArith: trammelref03's Bin: sums, differences, products, code by code. Condition: both numbers are of 64 bits.
  NumDiv: trammelref03's Bin: quotients and rests, code by code. Condition: both numbers are of 64 bits.
  NumMoved: trammelref03's moved and each: numbers that are put together bit by bit. Conditions as each lemma says.
  NumEach: trammelref03's each: and, or, exclusive or, bit by bit. No condition.
  NumShift: trammelref03's Bin: bits, moves and turns, code by code. Condition: both numbers are of 64 bits.
  NumBinAll: trammelref03's Bin, for every code. Condition: both numbers are of 64 bits.
  NumTypes: trammelref03's func32 and Types, for every code. No condition.
-/
import Derived.Test.YtdipgokbfjbgfaaLebAll
import Derived.Handy
import Derived.WalkKit
import Derived.Test.YtdipgokbfjbgfaaProg
import Derived.Lib.Hide
import Derived.WalkMore
import Derived.Laws.BitsAllLaws
namespace Go.Proofs.Ytdipgokbfjbgfaa.Pack
open Go.RowKit

/-- The kind of an access: its code, the bits of its type, its bytes, signed, a store. -/
structure Kind where
  op : Int
  bits : Nat
  bytes : Nat
  signed : Bool
  store : Bool
  deriving DecidableEq
def kinds : List Kind := [⟨40, 32, 4, false, false⟩, ⟨41, 64, 8, false, false⟩, ⟨44, 32, 1, true, false⟩, ⟨45, 32, 1, false, false⟩, ⟨46, 32, 2, true, false⟩, ⟨47, 32, 2, false, false⟩, ⟨48, 64, 1, true, false⟩, ⟨49, 64, 1, false, false⟩, ⟨50, 64, 2, true, false⟩, ⟨51, 64, 2, false, false⟩, ⟨52, 64, 4, true, false⟩, ⟨53, 64, 4, false, false⟩, ⟨54, 32, 4, false, true⟩, ⟨55, 64, 8, false, true⟩, ⟨58, 32, 1, false, true⟩, ⟨59, 32, 2, false, true⟩, ⟨60, 64, 1, false, true⟩, ⟨61, 64, 2, false, true⟩, ⟨62, 64, 4, false, true⟩]
/-- A kind in memory, as a value. -/
def Kind.val (k : Kind) : Value := .agg #[.int .i64 k.op, .int .i64 k.bits, .int .i64 k.bytes, .bool k.signed, .bool k.store]
def noKind : Kind := ⟨0, 0, 0, false, false⟩
def kindOf (op : Int) : Option Kind := kinds.find? fun k => k.op == op
def tabCells : Array Value := #[.int .i64 40, .int .i64 32, .int .i64 4, .bool false, .bool false, .int .i64 41, .int .i64 64, .int .i64 8, .bool false, .bool false, .int .i64 44, .int .i64 32, .int .i64 1, .bool true, .bool false, .int .i64 45, .int .i64 32, .int .i64 1, .bool false, .bool false, .int .i64 46, .int .i64 32, .int .i64 2, .bool true, .bool false, .int .i64 47, .int .i64 32, .int .i64 2, .bool false, .bool false, .int .i64 48, .int .i64 64, .int .i64 1, .bool true, .bool false, .int .i64 49, .int .i64 64, .int .i64 1, .bool false, .bool false, .int .i64 50, .int .i64 64, .int .i64 2, .bool true, .bool false, .int .i64 51, .int .i64 64, .int .i64 2, .bool false, .bool false, .int .i64 52, .int .i64 64, .int .i64 4, .bool true, .bool false, .int .i64 53, .int .i64 64, .int .i64 4, .bool false, .bool false, .int .i64 54, .int .i64 32, .int .i64 4, .bool false, .bool true, .int .i64 55, .int .i64 64, .int .i64 8, .bool false, .bool true, .int .i64 58, .int .i64 32, .int .i64 1, .bool false, .bool true, .int .i64 59, .int .i64 32, .int .i64 2, .bool false, .bool true, .int .i64 60, .int .i64 64, .int .i64 1, .bool false, .bool true, .int .i64 61, .int .i64 64, .int .i64 2, .bool false, .bool true, .int .i64 62, .int .i64 64, .int .i64 4, .bool false, .bool true]
theorem tab_at : ∀ j, j < 19 → ∃ k, kinds[j]? = some k ∧ tabCells[j * 5]? = some (.int .i64 k.op) ∧ tabCells[j * 5 + 1]? = some (.int .i64 k.bits) ∧ tabCells[j * 5 + 2]? = some (.int .i64 k.bytes) ∧ tabCells[j * 5 + 3]? = some (.bool k.signed) ∧ tabCells[j * 5 + 4]? = some (.bool k.store) := by
  intro j h
  have hj : j = 0 ∨ j = 1 ∨ j = 2 ∨ j = 3 ∨ j = 4 ∨ j = 5 ∨ j = 6 ∨ j = 7 ∨ j = 8 ∨ j = 9 ∨ j = 10 ∨ j = 11 ∨ j = 12 ∨ j = 13 ∨ j = 14 ∨ j = 15 ∨ j = 16 ∨ j = 17 ∨ j = 18 := by omega
  rcases hj with rfl | rfl | rfl | rfl | rfl | rfl | rfl | rfl | rfl | rfl | rfl | rfl | rfl | rfl | rfl | rfl | rfl | rfl | rfl
  · exact ⟨_, rfl, rfl, rfl, rfl, rfl, rfl⟩
  · exact ⟨_, rfl, rfl, rfl, rfl, rfl, rfl⟩
  · exact ⟨_, rfl, rfl, rfl, rfl, rfl, rfl⟩
  · exact ⟨_, rfl, rfl, rfl, rfl, rfl, rfl⟩
  · exact ⟨_, rfl, rfl, rfl, rfl, rfl, rfl⟩
  · exact ⟨_, rfl, rfl, rfl, rfl, rfl, rfl⟩
  · exact ⟨_, rfl, rfl, rfl, rfl, rfl, rfl⟩
  · exact ⟨_, rfl, rfl, rfl, rfl, rfl, rfl⟩
  · exact ⟨_, rfl, rfl, rfl, rfl, rfl, rfl⟩
  · exact ⟨_, rfl, rfl, rfl, rfl, rfl, rfl⟩
  · exact ⟨_, rfl, rfl, rfl, rfl, rfl, rfl⟩
  · exact ⟨_, rfl, rfl, rfl, rfl, rfl, rfl⟩
  · exact ⟨_, rfl, rfl, rfl, rfl, rfl, rfl⟩
  · exact ⟨_, rfl, rfl, rfl, rfl, rfl, rfl⟩
  · exact ⟨_, rfl, rfl, rfl, rfl, rfl, rfl⟩
  · exact ⟨_, rfl, rfl, rfl, rfl, rfl, rfl⟩
  · exact ⟨_, rfl, rfl, rfl, rfl, rfl, rfl⟩
  · exact ⟨_, rfl, rfl, rfl, rfl, rfl, rfl⟩
  · exact ⟨_, rfl, rfl, rfl, rfl, rfl, rfl⟩
/-- What Of has laid when its loop begins. -/
structure OfAt (wo W : World) : Prop where
  size : W.heap.size = wo.heap.size + 2
  below : Below wo.heap.size wo W
  tab : ∀ j, W.cell? ⟨wo.heap.size + 1, j, none⟩ = tabCells[j]?
  res : W.heap[wo.heap.size]? = some (.cells #[.int .i64 0, .int .i64 0, .int .i64 0, .bool false, .bool false] 77)
theorem of_at (wo : World) : OfAt wo ((wo.alloc (.cells #[.int .i64 0, .int .i64 0, .int .i64 0, .bool false, .bool false] 77)).alloc (.cells tabCells 77)) := by
  refine ⟨by simp, ((Below.refl _ _).alloc (Nat.le_refl _) _).alloc (by simp) _, fun j => ?_, ?_⟩
  · have := (MapKept.heap_alloc (wo.alloc (.cells #[.int .i64 0, .int .i64 0, .int .i64 0, .bool false, .bool false] 77)) (.cells tabCells 77)).1
    have hs : (wo.alloc (.cells #[.int .i64 0, .int .i64 0, .int .i64 0, .bool false, .bool false] 77)).heap.size = wo.heap.size + 1 := by simp
    rw [hs] at this
    simp only [World.cell?, this]
    simp
  · rw [Below.heap_alloc _ _ _ (by simp), (MapKept.heap_alloc wo _).1]
/-- What Of answers. -/
def OfIs (w : World) (k : Option Kind) (e : Ending) (w' : World) : Prop := e = .returned (.tuple #[(k.getD noKind).val, .bool k.isSome]) ∧ Below w.heap.size w w'
theorem find_here {op : Int} {j : Nat} {k : Kind} (h : kindOf op = (kinds.drop j).find? fun k => k.op == op) (hk : kinds[j]? = some k) (he : k.op = op) : kindOf op = some k := by
  obtain ⟨hj, rfl⟩ := List.getElem?_eq_some_iff.1 hk
  rw [h, List.drop_eq_getElem_cons hj, List.find?_cons_of_pos (by simp [he])]
theorem find_next {op : Int} {j : Nat} {k : Kind} (h : kindOf op = (kinds.drop j).find? fun k => k.op == op) (hk : kinds[j]? = some k) (he : ¬ k.op = op) : kindOf op = (kinds.drop (j + 1)).find? fun k => k.op == op := by
  obtain ⟨hj, rfl⟩ := List.getElem?_eq_some_iff.1 hk
  rw [h, List.drop_eq_getElem_cons hj, List.find?_cons_of_neg (by simp [he])]
set_option maxHeartbeats 4000000 in
set_option maxRecDepth 100000 in
theorem of_any (op : Int) (wo : World) :
    Calls Try.prog 46 #[.int .i64 op] wo (OfIs wo (kindOf op)) := by
  have hat := of_at wo
  unfold tabCells at hat
  have HAT := Lib.hid hat
  clear hat
  go_enter Try.func46, Try.ntmps46
  go_wp2
  generalize (wo.alloc _).alloc _ = W at *
  have hR := Lib.hid HAT.out.res
  have r0 : W.cell? ⟨wo.heap.size, 0, none⟩ = some (.int .i64 0) := by simp [World.cell?, hR.out]
  have r1 : W.cell? ⟨wo.heap.size, 1, none⟩ = some (.int .i64 0) := by simp [World.cell?, hR.out]
  have r2 : W.cell? ⟨wo.heap.size, 2, none⟩ = some (.int .i64 0) := by simp [World.cell?, hR.out]
  have r3 : W.cell? ⟨wo.heap.size, 3, none⟩ = some (.bool false) := by simp [World.cell?, hR.out]
  have r4 : W.cell? ⟨wo.heap.size, 4, none⟩ = some (.bool false) := by simp [World.cell?, hR.out]
  have z0 : W.frozen? ⟨wo.heap.size, 0, none⟩ = false := by simp [World.frozen?, hR.out]
  have z1 : W.frozen? ⟨wo.heap.size, 1, none⟩ = false := by simp [World.frozen?, hR.out]
  have z2 : W.frozen? ⟨wo.heap.size, 2, none⟩ = false := by simp [World.frozen?, hR.out]
  have z3 : W.frozen? ⟨wo.heap.size, 3, none⟩ = false := by simp [World.frozen?, hR.out]
  have z4 : W.frozen? ⟨wo.heap.size, 4, none⟩ = false := by simp [World.frozen?, hR.out]
  go_loop [5] (fun i => ∃ j : Nat, j ≤ 19 ∧ i = .int .i64 (j : Int) ∧ Hid (kindOf op = (kinds.drop j).find? fun k => k.op == op)) (fun i => 19 - (intOf i).toNat)
  case atStart => exact ⟨0, by omega, rfl, Lib.hid rfl⟩
  case round =>
    obtain ⟨j, hj, rfl, HJ⟩ := hrel
    by_cases hlt : j < 19
    · obtain ⟨k, hk, c0, c1, c2, c3, c4⟩ := tab_at j hlt
      rw [← HAT.out.tab] at c0 c1 c2 c3 c4
      have hlti : (j : Int) < 19 := by omega
      have HK := Lib.hid hk
      clear hk
      by_cases he : k.op = op
      · have hb : (k.op == op) = true := by simp [he]
        have hf := Lib.hid (find_here HJ.out HK.out he)
        go_wp2
        refine bodyPost_ret (v := .tuple #[(Kind.mk op k.bits k.bytes k.signed k.store).val, .bool true]) (by simp [results, Try.results46, go_sem, Kind.val, r0, r1, r2, r3, r4]) rfl ?_
        rw [hf.out]
        refine ⟨?_, ?_⟩
        · subst he; rfl
        · exact ((((HAT.out.below.setCell (Nat.le_refl _) _).setCell (Nat.le_refl _) _).setCell (Nat.le_refl _) _).setCell (Nat.le_refl _) _).setCell (Nat.le_refl _) _
      · have hb : (k.op == op) = false := by simp [he]
        have hf := Lib.hid (find_next HJ.out HK.out he)
        go_wp2
        refine ⟨⟨j + 1, by omega, by go_num, hf⟩, ?_⟩
        simp [intOf]; omega
    · have hlti : ¬ (j : Int) < 19 := by omega
      have hf : Hid (kindOf op = none) := Lib.hid (by have := HJ.out; rw [List.drop_of_length_le (by simp [kinds]; omega)] at this; simpa using this)
      go_wp2
      refine bodyPost_ret (v := .tuple #[noKind.val, .bool false]) (by simp [results, Try.results46, go_sem, Kind.val, noKind, r0, r1, r2, r3, r4]) rfl ?_
      rw [hf.out]
      refine ⟨rfl, ?_⟩
      exact ((((HAT.out.below.setCell (Nat.le_refl _) _).setCell (Nat.le_refl _) _).setCell (Nat.le_refl _) _).setCell (Nat.le_refl _) _).setCell (Nat.le_refl _) _
end Go.Proofs.Ytdipgokbfjbgfaa.Pack
namespace Go.Proofs.Ytdipgokbfjbgfaa.Num

/-- A bit of a number. -/
def bitN (a i : Nat) : Nat := a / 2 ^ i % 2
theorem bitN_le (a i : Nat) : bitN a i ≤ 1 := by unfold bitN; omega
theorem bitN_testBit (a i : Nat) : a.testBit i = decide (bitN a i = 1) := by
  unfold bitN
  rw [Nat.testBit_eq_decide_div_mod_eq]
/-- The number whose lowest n bits are f's. -/
def asm (f : Nat → Nat) : Nat → Nat
  | 0 => 0
  | n + 1 => asm f n + f n * 2 ^ n
theorem asm_cons (f : Nat → Nat) (n : Nat) : asm f (n + 1) = f 0 + 2 * asm (fun t => f (t + 1)) n := by
  induction n with
  | zero => simp [asm]
  | succ n ih =>
    rw [asm, ih, asm, Nat.pow_succ, Nat.mul_add, ← Nat.mul_assoc (f (n + 1)), Nat.mul_comm _ 2]
    omega
/-- The step of a loop from the highest bit down: behind the bits from j + 1 on comes bit j. -/
theorem asm_step (f : Nat → Nat) (j d : Nat) : asm (fun t => f (j + t)) (d + 1) = asm (fun t => f (j + 1 + t)) d * 2 + f j := by
  rw [asm_cons]
  have e : (fun t => f (j + (t + 1))) = fun t => f (j + 1 + t) := by funext t; rw [show j + (t + 1) = j + 1 + t from by omega]
  rw [e, Nat.add_zero]
  omega
theorem asm_congr (f g : Nat → Nat) (n : Nat) (h : ∀ i, i < n → f i = g i) : asm f n = asm g n := by
  induction n with
  | zero => rfl
  | succ n ih => rw [asm, asm, ih (fun i hi => h i (by omega)), h n (by omega)]
theorem asm_lt (f : Nat → Nat) (n : Nat) (h : ∀ i, f i ≤ 1) : asm f n < 2 ^ n := by
  induction n with
  | zero => simp [asm]
  | succ n ih =>
    have h1 := h n
    have h2 : f n * 2 ^ n ≤ 1 * 2 ^ n := Nat.mul_le_mul_right _ h1
    rw [asm, Nat.pow_succ]
    omega
theorem asm_testBit (f : Nat → Nat) (n i : Nat) (h : ∀ i, f i ≤ 1) : (asm f n).testBit i = decide (i < n ∧ f i = 1) := by
  induction n with
  | zero => simp [asm]
  | succ n ih =>
    have hlt := asm_lt f n h
    have h1 := h n
    rw [asm, Nat.add_comm, Nat.mul_comm, Nat.testBit_two_pow_mul_add _ hlt]
    by_cases hi : i < n
    · rw [if_pos hi, ih]
      simp [hi, show i < n + 1 by omega]
    · rw [if_neg hi]
      by_cases he : i = n
      · subst he
        have hf : f i = 0 ∨ f i = 1 := by omega
        rcases hf with hf | hf <;> simp [hf]
      · have hd : i - n = (i - n - 1) + 1 := by omega
        have hf : f n = 0 ∨ f n = 1 := by omega
        rw [hd]
        rcases hf with hf | hf <;> simp [hf, Nat.testBit_succ, show ¬ i < n + 1 by omega]
/-- The bits of a number put it together. -/
theorem asm_bits (a n : Nat) (h : a < 2 ^ n) : asm (bitN a) n = a := by
  apply Nat.eq_of_testBit_eq
  intro i
  rw [asm_testBit _ _ _ (bitN_le a), bitN_testBit]
  by_cases hi : i < n
  · simp [hi]
  · have : bitN a i = 0 := by
      unfold bitN
      rw [Nat.div_eq_of_lt (Nat.lt_of_lt_of_le h (Nat.pow_le_pow_right (by omega) (by omega)))]
    simp [hi, this]
/-- Cut to w bits. -/
def cutN (a w : Nat) : Nat := a % 2 ^ w
/-- The lowest k bits, signed, on w bits. -/
def spreadN (a k w : Nat) : Nat := asm (fun i => bitN a (if k ≤ i then k - 1 else i)) w
/-- The bits, turned up by n. -/
def turnN (a n w : Nat) : Nat := asm (fun i => bitN a ((i + w - n % w) % w)) w
/-- The bits, moved up by n. -/
def upN (a n w : Nat) : Nat := asm (fun i => if i < n then 0 else bitN a (i - n)) w
/-- The bits, moved down by n; what comes in is fill. -/
def downN (a n w fill : Nat) : Nat := asm (fun i => if i + n < w then bitN a (i + n) else fill) w
/-- A bit of and (0), or (1), exclusive or (2). -/
def eachF (a b how i : Nat) : Nat := if how = 0 ∧ bitN a i + bitN b i = 2 ∨ how = 1 ∧ 0 < bitN a i + bitN b i ∨ how = 2 ∧ bitN a i + bitN b i = 1 then 1 else 0
theorem eachF_le (a b how i : Nat) : eachF a b how i ≤ 1 := by unfold eachF; split <;> omega
/-- Bit by bit: and, or, exclusive or. -/
def eachN (a b how : Nat) : Nat := asm (eachF a b how) 64
end Go.Proofs.Ytdipgokbfjbgfaa.Num
namespace Go.Proofs.Ytdipgokbfjbgfaa.Num
open Go.RowKit

theorem ret_u64 {a b : Int} (h : a = b) : Ending.returned (.int .u64 a) = .returned (.int .u64 b) := by rw [h]
theorem ret_bool {a b : Bool} (h : a = b) : Ending.returned (.bool a) = .returned (.bool b) := by rw [h]
theorem bitN_int (a i : Nat) : ((a : Int) / 2 ^ i).tmod 2 = ((bitN a i : Nat) : Int) := by
  have e : (a : Int) / 2 ^ i = ((a / 2 ^ i : Nat) : Int) := by simp
  unfold bitN
  rw [e]
  generalize a / 2 ^ i = n
  rw [Int.tmod_eq_emod_of_nonneg (by omega)]
  omega
theorem bit_any (a i : Nat) (w : World) (hi : i < 64) :
    Calls Try.prog 81 #[.int .u64 (a : Int), .int .i64 (i : Int)] w fun e w' => e = .returned (.int .u64 ((bitN a i : Nat) : Int)) ∧ w = w' := by
  go_enter Try.func81, Try.ntmps81
  go_wp2
  go_ret
  exact ⟨ret_u64 (bitN_int a i), rfl⟩
/-- A number of bits: 32 or 64. -/
def Wide (W : Int) (w : Nat) : Prop := (W = 32 ∧ w = 32) ∨ (W = 64 ∧ w = 64)
theorem cut_any (a : Nat) (W : Int) (w : Nat) (hW : Wide W w) (ha : a < 18446744073709551616) (wo : World) :
    Calls Try.prog 79 #[.int .u64 (a : Int), .int .i64 W] wo fun e w' => e = .returned (.int .u64 ((cutN a w : Nat) : Int)) ∧ wo = w' := by
  rcases hW with ⟨rfl, rfl⟩ | ⟨rfl, rfl⟩
  · go_enter Try.func79, Try.ntmps79
    go_wp2
    go_ret
    exact ⟨ret_u64 (by unfold cutN; omega), rfl⟩
  · go_enter Try.func79, Try.ntmps79
    go_wp2
    go_ret
    exact ⟨ret_u64 (by unfold cutN; omega), rfl⟩
theorem one_any (b : Bool) (wo : World) :
    Calls Try.prog 80 #[.bool b] wo fun e w' => e = .returned (.int .u64 ((b.toNat : Nat) : Int)) ∧ wo = w' := by
  cases b with
  | true =>
    go_enter Try.func80, Try.ntmps80
    go_wp2
    go_ret
    exact ⟨rfl, rfl⟩
  | false =>
    go_enter Try.func80, Try.ntmps80
    go_wp2
    go_ret
    exact ⟨rfl, rfl⟩
/-- The opposite on w bits. -/
def minusN (a w : Nat) : Nat := cutN ((18446744073709551616 - a) % 18446744073709551616) w
theorem minus_any (a : Nat) (W : Int) (w : Nat) (hW : Wide W w) (ha : a < 18446744073709551616) (wo : World) :
    Calls Try.prog 84 #[.int .u64 (a : Int), .int .i64 W] wo fun e w' => e = .returned (.int .u64 ((minusN a w : Nat) : Int)) ∧ wo = w' := by
  go_enter Try.func84, Try.ntmps84
  go_wp2_with fail
  have e : IntKind.u64.wrap (-(a : Int)) = (((18446744073709551616 - a) % 18446744073709551616 : Nat) : Int) := by rw [IntKind.wrap_u64]; omega
  rw [e]
  refine (cut_any _ W w hW (by omega) wo).mono ?_
  rintro e w' ⟨rfl, rfl⟩
  go_wp2
  go_ret
  exact ⟨rfl, rfl⟩
/-- Is a below b? Signed, the highest bit counts the other way. -/
def lessN (a b w : Nat) (signed : Bool) : Bool := if signed then decide (a ^^^ 2 ^ (w - 1) < b ^^^ 2 ^ (w - 1)) else decide (a < b)
theorem less_any (a b : Nat) (W : Int) (w : Nat) (s : Bool) (hW : Wide W w) (ha : a < 18446744073709551616) (hb : b < 18446744073709551616) (wo : World) :
    Calls Try.prog 83 #[.int .u64 (a : Int), .int .u64 (b : Int), .int .i64 W, .bool s] wo fun e w' => e = .returned (.bool (lessN a b w s)) ∧ wo = w' := by
  cases s with
  | false =>
    go_enter Try.func83, Try.ntmps83
    go_wp2
    go_ret
    exact ⟨rfl, rfl⟩
  | true =>
    rcases hW with ⟨rfl, rfl⟩ | ⟨rfl, rfl⟩
    · go_enter Try.func83, Try.ntmps83
      go_wp2
      go_ret
      refine ⟨ret_bool ?_, rfl⟩
      rw [show (2147483648 : Int) = ((2147483648 : Nat) : Int) from rfl, u64_xor_nat a _ ha (by omega), u64_xor_nat b _ hb (by omega)]
      simp [lessN]
    · go_enter Try.func83, Try.ntmps83
      go_wp2
      go_ret
      refine ⟨ret_bool ?_, rfl⟩
      rw [show (9223372036854775808 : Int) = ((9223372036854775808 : Nat) : Int) from rfl, u64_xor_nat a _ ha (by omega), u64_xor_nat b _ hb (by omega)]
      simp [lessN]
end Go.Proofs.Ytdipgokbfjbgfaa.Num
namespace Go.Proofs.Ytdipgokbfjbgfaa.Num
open Go.RowKit

theorem asm_63 (f : Nat → Nat) (q d : Nat) (h : ∀ i, f i ≤ 1) (hd : d ≤ 63) : ((asm (fun t => f (q + 1 + t)) d : Nat) : Int) ≤ 9223372036854775807 := by
  have h1 := asm_lt (fun t => f (q + 1 + t)) d (fun i => h _)
  have h2 : (2 : Nat) ^ d ≤ 2 ^ 63 := Nat.pow_le_pow_right (by omega) hd
  omega
theorem asm_next (f : Nat → Nat) (q w : Nat) (hq : q < w) : asm (fun t => f (q + t)) (w - q) = asm (fun t => f (q + 1 + t)) (w - (q + 1)) * 2 + f q := by
  rw [show w - q = w - (q + 1) + 1 from by omega, asm_step]
theorem asm_all (f : Nat → Nat) (w : Nat) : asm (fun t => f (0 + t)) (w - 0) = asm f w := by
  have e : (fun t => f (0 + t)) = f := by funext t; rw [Nat.zero_add]
  rw [e]; rfl
/-- How far a loop from the highest bit down has come: bits from I + 1 on are there. -/
def Down (f : Nat → Nat) (w : Nat) (I : Int) (X : Nat) : Prop := X = asm (fun t => f ((I + 1).toNat + t)) (w - (I + 1).toNat)
theorem Down.start (f : Nat → Nat) (w : Nat) : Down f w ((w : Int) - 1) 0 := by
  unfold Down
  rw [show ((w : Int) - 1 + 1).toNat = w from by omega, Nat.sub_self]
  rfl
theorem Down.bound {f : Nat → Nat} {w q X : Nat} (h : Down f w (q : Int) X) (hf : ∀ i, f i ≤ 1) (hw : w ≤ 64) : (X : Int) ≤ 9223372036854775807 := by
  unfold Down at h
  rw [show ((q : Int) + 1).toNat = q + 1 from by omega] at h
  rw [h]
  exact asm_63 f q _ hf (by omega)
theorem Down.next {f : Nat → Nat} {w q X : Nat} (h : Down f w (q : Int) X) (hq : q < w) : Down f w ((q : Int) - 1) (X * 2 + f q) := by
  unfold Down at *
  rw [show ((q : Int) + 1).toNat = q + 1 from by omega] at h
  rw [show ((q : Int) - 1 + 1).toNat = q from by omega, h, asm_next f q w hq]
theorem Down.ends {f : Nat → Nat} {w X : Nat} {I : Int} (h : Down f w I X) (hI : -1 ≤ I) (hI2 : ¬ 0 ≤ I) : X = asm f w := by
  unfold Down at h
  rw [show (I + 1).toNat = 0 from by omega, asm_all] at h
  exact h
theorem int_u64 {a b : Int} (h : a = b) : Value.int .u64 a = .int .u64 b := by rw [h]

theorem spread_any (a k w : Nat) (wo : World) (hk : 1 ≤ k) (hk2 : k ≤ 64) (hw : w ≤ 64) :
    Calls Try.prog 82 #[.int .u64 (a : Int), .int .i64 (k : Int), .int .i64 (w : Int)] wo fun e w' => e = .returned (.int .u64 ((spreadN a k w : Nat) : Int)) ∧ wo = w' := by
  go_enter Try.func82, Try.ntmps82
  go_wp2
  go_loop [7, 8] (fun n i => ∃ (I : Int) (X : Nat), -1 ≤ I ∧ I < w ∧ i = .int .i64 I ∧ n = .int .u64 (X : Int) ∧ Hid (Down (fun i => bitN a (if k ≤ i then k - 1 else i)) w I X)) (fun _ i => (intOf i + 1).toNat)
  case atStart => exact ⟨(w : Int) - 1, 0, by omega, by omega, rfl, rfl, Lib.hid (Down.start _ _)⟩
  case round =>
    obtain ⟨I, X, hI1, hI2, rfl, rfl, hD⟩ := hrel
    by_cases hI : 0 ≤ I
    · obtain ⟨q, rfl⟩ := Int.eq_ofNat_of_zero_le hI
      have hX := hD.out.bound (fun i => bitN_le _ _) hw
      have HN := Lib.hid (hD.out.next (by omega))
      clear hD
      by_cases hkq : k ≤ q
      · have hkqi : (k : Int) ≤ (q : Int) := by omega
        have e : ((k : Int) - 1) = ((k - 1 : Nat) : Int) := by omega
        have hB := bit_any a (k - 1)
        rw [← e] at hB
        have HB := Lib.hid (fun W => hB W (by omega))
        have hB1 := bitN_le a (k - 1)
        have HN2 : Hid (Down (fun i => bitN a (if k ≤ i then k - 1 else i)) w ((q : Int) - 1) (X * 2 + bitN a (k - 1))) := Lib.hid (by have := HN.out; simp only [if_pos hkq] at this; exact this)
        clear HN hB e
        generalize bitN a (k - 1) = b at *
        go_wp2_with (go_at_call 81; refine (HB.out _).mono ?_; rintro e w' ⟨rfl, rfl⟩)
        go_round
        case rel => exact ⟨(q : Int) - 1, X * 2 + b, by omega, by omega, rfl, int_u64 (by omega), HN2⟩
        case measure => simp [intOf]
      · have hkqi : ¬ (k : Int) ≤ (q : Int) := by omega
        have HB := Lib.hid (fun W => bit_any a q W (by omega))
        have hB1 := bitN_le a q
        have HN2 : Hid (Down (fun i => bitN a (if k ≤ i then k - 1 else i)) w ((q : Int) - 1) (X * 2 + bitN a q)) := Lib.hid (by have := HN.out; simp only [if_neg hkq] at this; exact this)
        clear HN
        generalize bitN a q = b at *
        go_wp2_with (go_at_call 81; refine (HB.out _).mono ?_; rintro e w' ⟨rfl, rfl⟩)
        go_round
        case rel => exact ⟨(q : Int) - 1, X * 2 + b, by omega, by omega, rfl, int_u64 (by omega), HN2⟩
        case measure => simp [intOf]
    · have HE := Lib.hid (hD.out.ends hI1 hI)
      clear hD
      go_wp2
      go_ret
      exact ⟨ret_u64 (by rw [HE.out]; rfl), rfl⟩
theorem turned_32 (a n : Nat) (wo : World) (hn : n ≤ 64) :
    Calls Try.prog 88 #[.int .u64 (a : Int), .int .i64 (n : Int), .int .i64 32] wo fun e w' => e = .returned (.int .u64 ((turnN a n 32 : Nat) : Int)) ∧ wo = w' := by
  go_enter Try.func88, Try.ntmps88
  go_wp2
  go_loop [7, 8] (fun m i => ∃ (I : Int) (X : Nat), -1 ≤ I ∧ I < 32 ∧ i = .int .i64 I ∧ m = .int .u64 (X : Int) ∧ Hid (Down (fun i => bitN a ((i + 32 - n % 32) % 32)) 32 I X)) (fun _ i => (intOf i + 1).toNat)
  case atStart => exact ⟨31, 0, by omega, by omega, rfl, rfl, Lib.hid (Down.start _ 32)⟩
  case round =>
    obtain ⟨I, X, hI1, hI2, rfl, rfl, hD⟩ := hrel
    by_cases hI : 0 ≤ I
    · obtain ⟨q, rfl⟩ := Int.eq_ofNat_of_zero_le hI
      have hX := hD.out.bound (fun i => bitN_le _ _) (by omega)
      have HN : Hid (Down (fun i => bitN a ((i + 32 - n % 32) % 32)) 32 ((q : Int) - 1) (X * 2 + bitN a ((q + 32 - n % 32) % 32))) := Lib.hid (hD.out.next (by omega))
      clear hD
      have HB := Lib.hid (fun W => bit_any a ((q + 32 - n % 32) % 32) W (by omega))
      have hB1 := bitN_le a ((q + 32 - n % 32) % 32)
      have HQ : Hid (((q : Int) - (n : Int)) % 32 = (((q + 32 - n % 32) % 32 : Nat) : Int)) := Lib.hid (by omega)
      generalize bitN a ((q + 32 - n % 32) % 32) = b at *
      generalize (q + 32 - n % 32) % 32 = p at *
      go_wp2_with fail
      rw [HQ.out]
      refine (HB.out _).mono ?_
      rintro e w' ⟨rfl, rfl⟩
      go_wp2
      go_round
      case rel => exact ⟨(q : Int) - 1, X * 2 + b, by omega, by omega, rfl, int_u64 (by omega), HN⟩
      case measure => simp [intOf]
    · have HE := Lib.hid (hD.out.ends hI1 hI)
      clear hD
      go_wp2
      go_ret
      exact ⟨ret_u64 (by rw [HE.out]; rfl), rfl⟩
theorem turned_64 (a n : Nat) (wo : World) (hn : n ≤ 64) :
    Calls Try.prog 88 #[.int .u64 (a : Int), .int .i64 (n : Int), .int .i64 64] wo fun e w' => e = .returned (.int .u64 ((turnN a n 64 : Nat) : Int)) ∧ wo = w' := by
  go_enter Try.func88, Try.ntmps88
  go_wp2
  go_loop [7, 8] (fun m i => ∃ (I : Int) (X : Nat), -1 ≤ I ∧ I < 64 ∧ i = .int .i64 I ∧ m = .int .u64 (X : Int) ∧ Hid (Down (fun i => bitN a ((i + 64 - n % 64) % 64)) 64 I X)) (fun _ i => (intOf i + 1).toNat)
  case atStart => exact ⟨63, 0, by omega, by omega, rfl, rfl, Lib.hid (Down.start _ 64)⟩
  case round =>
    obtain ⟨I, X, hI1, hI2, rfl, rfl, hD⟩ := hrel
    by_cases hI : 0 ≤ I
    · obtain ⟨q, rfl⟩ := Int.eq_ofNat_of_zero_le hI
      have hX := hD.out.bound (fun i => bitN_le _ _) (by omega)
      have HN : Hid (Down (fun i => bitN a ((i + 64 - n % 64) % 64)) 64 ((q : Int) - 1) (X * 2 + bitN a ((q + 64 - n % 64) % 64))) := Lib.hid (hD.out.next (by omega))
      clear hD
      have HB := Lib.hid (fun W => bit_any a ((q + 64 - n % 64) % 64) W (by omega))
      have hB1 := bitN_le a ((q + 64 - n % 64) % 64)
      have HQ : Hid (((q : Int) - (n : Int)) % 64 = (((q + 64 - n % 64) % 64 : Nat) : Int)) := Lib.hid (by omega)
      generalize bitN a ((q + 64 - n % 64) % 64) = b at *
      generalize (q + 64 - n % 64) % 64 = p at *
      go_wp2_with fail
      rw [HQ.out]
      refine (HB.out _).mono ?_
      rintro e w' ⟨rfl, rfl⟩
      go_wp2
      go_round
      case rel => exact ⟨(q : Int) - 1, X * 2 + b, by omega, by omega, rfl, int_u64 (by omega), HN⟩
      case measure => simp [intOf]
    · have HE := Lib.hid (hD.out.ends hI1 hI)
      clear hD
      go_wp2
      go_ret
      exact ⟨ret_u64 (by rw [HE.out]; rfl), rfl⟩
end Go.Proofs.Ytdipgokbfjbgfaa.Num
namespace Go.Proofs.Ytdipgokbfjbgfaa.Num
open Go.RowKit

/-- The highest bits of a number, one more. -/
theorem div_pow_next (a q : Nat) : a / 2 ^ q = a / 2 ^ (q + 1) * 2 + bitN a q := by
  unfold bitN
  rw [Nat.pow_succ, ← Nat.div_div_eq_div_mul]
  omega
/-- A step of the long division. -/
theorem div_step (A b x : Nat) (hb : 0 < b) (hx : x ≤ 1) :
    (b ≤ A % b * 2 + x → (A * 2 + x) / b = A / b * 2 + 1 ∧ (A * 2 + x) % b = A % b * 2 + x - b) ∧ (¬ b ≤ A % b * 2 + x → (A * 2 + x) / b = A / b * 2 ∧ (A * 2 + x) % b = A % b * 2 + x) := by
  have h1 : b * (A / b) + A % b = A := Nat.div_add_mod A b
  have h2 : A % b < b := Nat.mod_lt A hb
  generalize A / b = Q at *
  generalize A % b = R at *
  have h3 : A * 2 + x = b * (Q * 2) + (R * 2 + x) := by rw [← h1, Nat.add_mul, ← Nat.mul_assoc, Nat.add_assoc]
  constructor
  · intro h
    have h4 : A * 2 + x = b * (Q * 2 + 1) + (R * 2 + x - b) := by rw [h3, Nat.mul_add b, Nat.mul_one]; omega
    rw [h4]
    constructor
    · rw [Nat.mul_add_div hb, Nat.div_eq_of_lt (by omega)]
    · rw [Nat.mul_add_mod, Nat.mod_eq_of_lt (by omega)]
  · intro h
    rw [h3]
    constructor
    · rw [Nat.mul_add_div hb, Nat.div_eq_of_lt (by omega)]; rfl
    · rw [Nat.mul_add_mod, Nat.mod_eq_of_lt (by omega)]
/-- How far the long division has come: the bits from I + 1 on are divided. -/
def DivAt (a b : Nat) (I : Int) (Q R : Nat) : Prop := Q = a / 2 ^ (I + 1).toNat / b ∧ R = a / 2 ^ (I + 1).toNat % b
theorem DivAt.start (a b : Nat) (ha : a < 18446744073709551616) : DivAt a b 63 0 0 := by
  have e : a / 2 ^ ((63 : Int) + 1).toNat = 0 := Nat.div_eq_of_lt ha
  unfold DivAt
  rw [e]
  simp
theorem DivAt.more {a b q Q R : Nat} (h : DivAt a b (q : Int) Q R) (hb : 0 < b) (hle : b ≤ R * 2 + bitN a q) : DivAt a b ((q : Int) - 1) (Q * 2 + 1) (R * 2 + bitN a q - b) := by
  unfold DivAt at *
  rw [show ((q : Int) + 1).toNat = q + 1 from by omega] at h
  rw [show ((q : Int) - 1 + 1).toNat = q from by omega, div_pow_next a q]
  obtain ⟨rfl, rfl⟩ := h
  obtain ⟨h1, h2⟩ := (div_step (a / 2 ^ (q + 1)) b (bitN a q) hb (bitN_le a q)).1 hle
  exact ⟨h1.symm, h2.symm⟩
theorem DivAt.less {a b q Q R : Nat} (h : DivAt a b (q : Int) Q R) (hb : 0 < b) (hle : ¬ b ≤ R * 2 + bitN a q) : DivAt a b ((q : Int) - 1) (Q * 2) (R * 2 + bitN a q) := by
  unfold DivAt at *
  rw [show ((q : Int) + 1).toNat = q + 1 from by omega] at h
  rw [show ((q : Int) - 1 + 1).toNat = q from by omega, div_pow_next a q]
  obtain ⟨rfl, rfl⟩ := h
  obtain ⟨h1, h2⟩ := (div_step (a / 2 ^ (q + 1)) b (bitN a q) hb (bitN_le a q)).2 hle
  exact ⟨h1.symm, h2.symm⟩
theorem DivAt.bound {a b q Q R : Nat} (h : DivAt a b (q : Int) Q R) (hb : 0 < b) (ha : a < 18446744073709551616) : (Q : Int) ≤ 9223372036854775807 ∧ R < b := by
  unfold DivAt at h
  rw [show ((q : Int) + 1).toNat = q + 1 from by omega] at h
  obtain ⟨rfl, rfl⟩ := h
  have h1 : a / 2 ^ (q + 1) / b ≤ a / 2 ^ (q + 1) := Nat.div_le_self _ _
  have h2 : a / 2 ^ (q + 1) ≤ a / 2 := by
    rw [Nat.pow_succ, Nat.mul_comm, ← Nat.div_div_eq_div_mul]
    exact Nat.div_le_self _ _
  exact ⟨by omega, Nat.mod_lt _ hb⟩
theorem DivAt.ends {a b Q R : Nat} {I : Int} (h : DivAt a b I Q R) (h1 : -1 ≤ I) (h2 : ¬ 0 ≤ I) : Q = a / b ∧ R = a % b := by
  unfold DivAt at h
  rw [show (I + 1).toNat = 0 from by omega, Nat.pow_zero, Nat.div_one] at h
  exact h
theorem wrap_thrice (R x b : Nat) (h : 9223372036854775808 ≤ R ∧ R < b ∧ b < 18446744073709551616) (hx : x ≤ 1) :
    IntKind.u64.wrap (IntKind.u64.wrap (IntKind.u64.wrap ((R : Int) * 2) + (x : Int)) - (b : Int)) = ((R * 2 + x - b : Nat) : Int) := by
  rw [IntKind.wrap_u64, IntKind.wrap_u64, IntKind.wrap_u64]
  omega
set_option maxHeartbeats 1000000 in
theorem divide_any (a b u v : Nat) (wo : World) (ha : a < 18446744073709551616) (hb : b < 18446744073709551616) (hb0 : 0 < b) (hu : a / b = u) (hv : a % b = v) :
    Calls Try.prog 99 #[.int .u64 (a : Int), .int .u64 (b : Int)] wo fun e w' => e = .returned (.tuple #[.int .u64 (u : Int), .int .u64 (v : Int)]) ∧ wo = w' := by
  have HS := Lib.hid (DivAt.start a b ha)
  have HA := Lib.hid ha
  have HBB := Lib.hid hb
  have HU := Lib.hid hu
  have HV := Lib.hid hv
  clear ha hb hu hv
  go_enter Try.func99, Try.ntmps99
  go_wp2
  go_loop [6, 7, 8] (fun x r i => ∃ (I : Int) (Q R : Nat), -1 ≤ I ∧ I < 64 ∧ i = .int .i64 I ∧ x = .int .u64 (Q : Int) ∧ r = .int .u64 (R : Int) ∧ Hid (DivAt a b I Q R)) (fun _ _ i => (intOf i + 1).toNat)
  case atStart => exact ⟨63, 0, 0, by omega, by omega, rfl, rfl, rfl, HS⟩
  case round =>
    obtain ⟨I, Q, R, hI1, hI2, rfl, rfl, rfl, hD⟩ := hrel
    clear HS
    by_cases hI : 0 ≤ I
    · obtain ⟨q, rfl⟩ := Int.eq_ofNat_of_zero_le hI
      obtain ⟨hQ, hR⟩ := hD.out.bound hb0 HA.out
      have HB := Lib.hid (fun W => bit_any a q W (by omega))
      have hB1 := bitN_le a q
      have HM := Lib.hid (hD.out.more hb0)
      have HL := Lib.hid (hD.out.less hb0)
      have hbig := HBB.out
      clear hD HA HBB HU HV
      generalize bitN a q = x at *
      by_cases hov : R < 9223372036854775808
      · have hovi : (R : Int) ≤ 9223372036854775807 := by omega
        have hov0 : (R : Int) / 9223372036854775808 = 0 := by omega
        by_cases hle : b ≤ R * 2 + x
        · have hlei : (b : Int) ≤ (R : Int) * 2 + (x : Int) := by omega
          have HN := Lib.hid (HM.out hle)
          clear HM HL hbig
          go_wp2_with fail
          refine (HB.out _).mono ?_
          rintro e w' ⟨rfl, rfl⟩
          go_wp2
          go_round
          case rel => exact ⟨(q : Int) - 1, Q * 2 + 1, R * 2 + x - b, by omega, by omega, rfl, int_u64 (by omega), int_u64 (by omega), HN⟩
          case measure => simp [intOf]
        · have hlei : ¬ (b : Int) ≤ (R : Int) * 2 + (x : Int) := by omega
          have HN := Lib.hid (HL.out hle)
          clear HM HL hbig
          go_wp2_with fail
          refine (HB.out _).mono ?_
          rintro e w' ⟨rfl, rfl⟩
          go_wp2
          go_round
          case rel => exact ⟨(q : Int) - 1, Q * 2, R * 2 + x, by omega, by omega, rfl, int_u64 (by omega), int_u64 (by omega), HN⟩
          case measure => simp [intOf]
      · have hov1 : (R : Int) / 9223372036854775808 = 1 := by omega
        have HN := Lib.hid (HM.out (by omega))
        have HR : Hid (9223372036854775808 ≤ R ∧ R < b ∧ b < 18446744073709551616) := Lib.hid (by omega)
        clear HM HL hbig hov
        go_wp2_with fail
        refine (HB.out _).mono ?_
        rintro e w' ⟨rfl, rfl⟩
        go_wp2
        go_round
        case rel => exact ⟨(q : Int) - 1, Q * 2 + 1, R * 2 + x - b, by omega, by omega, rfl, int_u64 (by omega), int_u64 (wrap_thrice R x b HR.out hB1), HN⟩
        case measure => simp [intOf]
    · obtain ⟨h1, h2⟩ := hD.out.ends hI1 hI
      obtain rfl : Q = u := h1.trans HU.out
      obtain rfl : R = v := h2.trans HV.out
      clear hD h1 h2 HU HV
      go_wp2
      go_ret2
      exact ⟨rfl, rfl⟩
end Go.Proofs.Ytdipgokbfjbgfaa.Num
namespace Go.Proofs.Ytdipgokbfjbgfaa.Num
open Go.RowKit

theorem results_tmp4 {fn : Func} {t u v x : Tmp} (h : fn.results = #[.tmp t, .tmp u, .tmp v, .tmp x]) (tmps : Array Value) (P : Program) (w : World) :
    (results fn tmps).run P w = .ok (.tuple #[tmps.getD t undef, tmps.getD u undef, tmps.getD v undef, tmps.getD x undef]) w := by
  simp [results, h]
/-- What the reference's quotient answers. -/
def Quot4 (w : World) (q r t u : Nat) (e : Ending) (w' : World) : Prop := e = .returned (.tuple #[.int .u64 (q : Int), .int .u64 (r : Int), .int .i64 (t : Int), .int .i64 (u : Int)]) ∧ w = w'
theorem quot_zero (a : Nat) (W : Int) (s : Bool) (wo : World) :
    Calls Try.prog 85 #[.int .u64 (a : Int), .int .u64 0, .int .i64 W, .bool s] wo (Quot4 wo 0 0 6 6) := by
  go_enter Try.func85, Try.ntmps85
  go_wp2
  (try simp only [Exit.inBlock, Exit.then])
  refine bodyPost_ret (results_tmp4 rfl _ _ _) rfl ?_
  exact ⟨rfl, rfl⟩
theorem wide32 : Wide 32 32 := .inl ⟨rfl, rfl⟩
theorem wide64 : Wide 64 64 := .inr ⟨rfl, rfl⟩
theorem minus_lt (a w : Nat) (hw : w ≤ 64) : minusN a w < 18446744073709551616 := by
  unfold minusN cutN
  have h1 : (18446744073709551616 - a) % 18446744073709551616 % 2 ^ w < 2 ^ w := Nat.mod_lt _ (Nat.pow_pos (by omega))
  have h2 : (2 : Nat) ^ w ≤ 2 ^ 64 := Nat.pow_le_pow_right (by omega) hw
  omega
theorem minus_32 (a : Nat) (h : a < 4294967296) (h0 : 0 < a) : minusN a 32 = 4294967296 - a := by unfold minusN cutN; omega
theorem minus_64 (a : Nat) (h : a < 18446744073709551616) (h0 : 0 < a) : minusN a 64 = 18446744073709551616 - a := by unfold minusN cutN; omega
theorem minus_pos_32 (a : Nat) (h : a < 4294967296) (h0 : 0 < a) : 0 < minusN a 32 := by rw [minus_32 a h h0]; omega
theorem minus_pos_64 (a : Nat) (h : a < 18446744073709551616) (h0 : 0 < a) : 0 < minusN a 64 := by rw [minus_64 a h h0]; omega
theorem quot_uns_32 (a b q r : Nat) (wo : World) (ha : a < 18446744073709551616) (hb : b < 18446744073709551616) (hb0 : 0 < b) (hq : a / b = q) (hr : a % b = r) :
    Calls Try.prog 85 #[.int .u64 (a : Int), .int .u64 (b : Int), .int .i64 32, .bool false] wo (Quot4 wo q r 0 0) := by
  have hbz : ((b : Int) == 0) = false := by simp; omega
  have HD := Lib.hid (fun W => divide_any a b q r W ha hb hb0 hq hr)
  clear ha hb hq hr
  go_enter Try.func85, Try.ntmps85
  go_wp2_with (go_at_call 99; refine (HD.out _).mono ?_; rintro e w' ⟨rfl, rfl⟩)
  (try simp only [Exit.inBlock, Exit.then])
  refine bodyPost_ret (results_tmp4 rfl _ _ _) rfl ?_
  exact ⟨rfl, rfl⟩
theorem quot_uns_64 (a b q r : Nat) (wo : World) (ha : a < 18446744073709551616) (hb : b < 18446744073709551616) (hb0 : 0 < b) (hq : a / b = q) (hr : a % b = r) :
    Calls Try.prog 85 #[.int .u64 (a : Int), .int .u64 (b : Int), .int .i64 64, .bool false] wo (Quot4 wo q r 0 0) := by
  have hbz : ((b : Int) == 0) = false := by simp; omega
  have HD := Lib.hid (fun W => divide_any a b q r W ha hb hb0 hq hr)
  clear ha hb hq hr
  go_enter Try.func85, Try.ntmps85
  go_wp2_with (go_at_call 99; refine (HD.out _).mono ?_; rintro e w' ⟨rfl, rfl⟩)
  (try simp only [Exit.inBlock, Exit.then])
  refine bodyPost_ret (results_tmp4 rfl _ _ _) rfl ?_
  exact ⟨rfl, rfl⟩
set_option maxRecDepth 100000 in
theorem quot_np_32 (a b q r : Nat) (wo : World) (ha : a < 4294967296) (hb : b < 4294967296) (hb0 : 0 < b) (hA : (2147483648 : Int) ≤ (a : Int)) (hB : ¬ (2147483648 : Int) ≤ (b : Int)) (hq : (minusN a 32) / (b) = q) (hr : (minusN a 32) % (b) = r) :
    Calls Try.prog 85 #[.int .u64 (a : Int), .int .u64 (b : Int), .int .i64 32, .bool true] wo (Quot4 wo (minusN q 32) (minusN r 32) 0 0) := by
  have hbz : ((b : Int) == 0) = false := by simp; omega
  have hx : minusN a 32 < 18446744073709551616 := minus_lt a 32 (by omega)
  have hy : b < 18446744073709551616 := by omega
  have hy0 : 0 < b := hb0
  have hq64 : q < 18446744073709551616 := by rw [← hq]; exact Nat.lt_of_le_of_lt (Nat.div_le_self _ _) hx
  have hr64 : r < 18446744073709551616 := by rw [← hr]; exact Nat.lt_of_le_of_lt (Nat.mod_le _ _) hx
  have HD := Lib.hid (fun W => divide_any (minusN a 32) (b) q r W hx hy hy0 hq hr)
  have HMA := Lib.hid (fun W => minus_any a 32 32 wide32 (by omega) W)
  have HMR := Lib.hid (fun W => minus_any r 32 32 wide32 hr64 W)
  have HMQ := Lib.hid (fun W => minus_any q 32 32 wide32 hq64 W)
  have hAd : decide ((2147483648 : Int) ≤ (a : Int)) = true := by simpa using hA
  have hBd : decide ((2147483648 : Int) ≤ (b : Int)) = false := by simpa using hB
  clear ha hb hq hr hx hy hy0 hq64 hr64 hA hB
  generalize minusN a 32 = ma at *
  generalize minusN r 32 = mr at *
  generalize minusN q 32 = mq at *
  go_enter Try.func85, Try.ntmps85
  go_wp2_with fail
  refine (HMA.out _).mono ?_
  rintro e w' ⟨rfl, rfl⟩
  go_wp2_with fail
  refine (HD.out _).mono ?_
  rintro e w' ⟨rfl, rfl⟩
  go_wp2_with fail
  refine (HMR.out _).mono ?_
  rintro e w' ⟨rfl, rfl⟩
  go_wp2_with fail
  refine (HMQ.out _).mono ?_
  rintro e w' ⟨rfl, rfl⟩
  go_wp2
  (try simp only [Exit.inBlock, Exit.then])
  refine bodyPost_ret (results_tmp4 rfl _ _ _) rfl ?_
  exact ⟨rfl, rfl⟩
set_option maxRecDepth 100000 in
theorem quot_pn_32 (a b q r : Nat) (wo : World) (ha : a < 4294967296) (hb : b < 4294967296) (hb0 : 0 < b) (hA : ¬ (2147483648 : Int) ≤ (a : Int)) (hB : (2147483648 : Int) ≤ (b : Int)) (hq : (a) / (minusN b 32) = q) (hr : (a) % (minusN b 32) = r) :
    Calls Try.prog 85 #[.int .u64 (a : Int), .int .u64 (b : Int), .int .i64 32, .bool true] wo (Quot4 wo (minusN q 32) (r) 0 0) := by
  have hbz : ((b : Int) == 0) = false := by simp; omega
  have hx : a < 18446744073709551616 := by omega
  have hy : minusN b 32 < 18446744073709551616 := minus_lt b 32 (by omega)
  have hy0 : 0 < minusN b 32 := minus_pos_32 b (by omega) (by omega)
  have hq64 : q < 18446744073709551616 := by rw [← hq]; exact Nat.lt_of_le_of_lt (Nat.div_le_self _ _) hx
  have hr64 : r < 18446744073709551616 := by rw [← hr]; exact Nat.lt_of_le_of_lt (Nat.mod_le _ _) hx
  have HD := Lib.hid (fun W => divide_any (a) (minusN b 32) q r W hx hy hy0 hq hr)
  have HMB := Lib.hid (fun W => minus_any b 32 32 wide32 (by omega) W)
  have HMQ := Lib.hid (fun W => minus_any q 32 32 wide32 hq64 W)
  have hAd : decide ((2147483648 : Int) ≤ (a : Int)) = false := by simpa using hA
  have hBd : decide ((2147483648 : Int) ≤ (b : Int)) = true := by simpa using hB
  clear ha hb hq hr hx hy hy0 hq64 hr64 hA hB
  generalize minusN b 32 = mb at *
  generalize minusN q 32 = mq at *
  go_enter Try.func85, Try.ntmps85
  go_wp2_with fail
  refine (HMB.out _).mono ?_
  rintro e w' ⟨rfl, rfl⟩
  go_wp2_with fail
  refine (HD.out _).mono ?_
  rintro e w' ⟨rfl, rfl⟩
  go_wp2_with fail
  refine (HMQ.out _).mono ?_
  rintro e w' ⟨rfl, rfl⟩
  go_wp2
  (try simp only [Exit.inBlock, Exit.then])
  refine bodyPost_ret (results_tmp4 rfl _ _ _) rfl ?_
  exact ⟨rfl, rfl⟩
set_option maxRecDepth 100000 in
theorem quot_nno_32 (a b q r : Nat) (wo : World) (ha : a < 4294967296) (hb : b < 4294967296) (hb0 : 0 < b) (hA : (2147483648 : Int) ≤ (a : Int)) (hB : (2147483648 : Int) ≤ (b : Int)) (hO : (2147483648 : Int) ≤ (q : Int)) (hq : (minusN a 32) / (minusN b 32) = q) (hr : (minusN a 32) % (minusN b 32) = r) :
    Calls Try.prog 85 #[.int .u64 (a : Int), .int .u64 (b : Int), .int .i64 32, .bool true] wo (Quot4 wo 0 (minusN r 32) 7 0) := by
  have hbz : ((b : Int) == 0) = false := by simp; omega
  have hx : minusN a 32 < 18446744073709551616 := minus_lt a 32 (by omega)
  have hy : minusN b 32 < 18446744073709551616 := minus_lt b 32 (by omega)
  have hy0 : 0 < minusN b 32 := minus_pos_32 b (by omega) (by omega)
  have hq64 : q < 18446744073709551616 := by rw [← hq]; exact Nat.lt_of_le_of_lt (Nat.div_le_self _ _) hx
  have hr64 : r < 18446744073709551616 := by rw [← hr]; exact Nat.lt_of_le_of_lt (Nat.mod_le _ _) hx
  have HD := Lib.hid (fun W => divide_any (minusN a 32) (minusN b 32) q r W hx hy hy0 hq hr)
  have HMA := Lib.hid (fun W => minus_any a 32 32 wide32 (by omega) W)
  have HMB := Lib.hid (fun W => minus_any b 32 32 wide32 (by omega) W)
  have HMR := Lib.hid (fun W => minus_any r 32 32 wide32 hr64 W)
  have hAd : decide ((2147483648 : Int) ≤ (a : Int)) = true := by simpa using hA
  have hBd : decide ((2147483648 : Int) ≤ (b : Int)) = true := by simpa using hB
  have hOd : decide ((2147483648 : Int) ≤ (q : Int)) = true := by simpa using hO
  clear ha hb hq hr hx hy hy0 hq64 hr64 hA hB hO
  generalize minusN a 32 = ma at *
  generalize minusN b 32 = mb at *
  generalize minusN r 32 = mr at *
  go_enter Try.func85, Try.ntmps85
  go_wp2_with fail
  refine (HMA.out _).mono ?_
  rintro e w' ⟨rfl, rfl⟩
  go_wp2_with fail
  refine (HMB.out _).mono ?_
  rintro e w' ⟨rfl, rfl⟩
  go_wp2_with fail
  refine (HD.out _).mono ?_
  rintro e w' ⟨rfl, rfl⟩
  go_wp2_with fail
  refine (HMR.out _).mono ?_
  rintro e w' ⟨rfl, rfl⟩
  go_wp2
  (try simp only [Exit.inBlock, Exit.then])
  refine bodyPost_ret (results_tmp4 rfl _ _ _) rfl ?_
  exact ⟨rfl, rfl⟩
set_option maxRecDepth 100000 in
theorem quot_ppo_32 (a b q r : Nat) (wo : World) (ha : a < 4294967296) (hb : b < 4294967296) (hb0 : 0 < b) (hA : ¬ (2147483648 : Int) ≤ (a : Int)) (hB : ¬ (2147483648 : Int) ≤ (b : Int)) (hO : (2147483648 : Int) ≤ (q : Int)) (hq : (a) / (b) = q) (hr : (a) % (b) = r) :
    Calls Try.prog 85 #[.int .u64 (a : Int), .int .u64 (b : Int), .int .i64 32, .bool true] wo (Quot4 wo 0 (r) 7 0) := by
  have hbz : ((b : Int) == 0) = false := by simp; omega
  have hx : a < 18446744073709551616 := by omega
  have hy : b < 18446744073709551616 := by omega
  have hy0 : 0 < b := hb0
  have hq64 : q < 18446744073709551616 := by rw [← hq]; exact Nat.lt_of_le_of_lt (Nat.div_le_self _ _) hx
  have hr64 : r < 18446744073709551616 := by rw [← hr]; exact Nat.lt_of_le_of_lt (Nat.mod_le _ _) hx
  have HD := Lib.hid (fun W => divide_any (a) (b) q r W hx hy hy0 hq hr)
  have hAd : decide ((2147483648 : Int) ≤ (a : Int)) = false := by simpa using hA
  have hBd : decide ((2147483648 : Int) ≤ (b : Int)) = false := by simpa using hB
  have hOd : decide ((2147483648 : Int) ≤ (q : Int)) = true := by simpa using hO
  clear ha hb hq hr hx hy hy0 hq64 hr64 hA hB hO
  go_enter Try.func85, Try.ntmps85
  go_wp2_with fail
  refine (HD.out _).mono ?_
  rintro e w' ⟨rfl, rfl⟩
  go_wp2
  (try simp only [Exit.inBlock, Exit.then])
  refine bodyPost_ret (results_tmp4 rfl _ _ _) rfl ?_
  exact ⟨rfl, rfl⟩
set_option maxRecDepth 100000 in
theorem quot_nnf_32 (a b q r : Nat) (wo : World) (ha : a < 4294967296) (hb : b < 4294967296) (hb0 : 0 < b) (hA : (2147483648 : Int) ≤ (a : Int)) (hB : (2147483648 : Int) ≤ (b : Int)) (hO : ¬ (2147483648 : Int) ≤ (q : Int)) (hq : (minusN a 32) / (minusN b 32) = q) (hr : (minusN a 32) % (minusN b 32) = r) :
    Calls Try.prog 85 #[.int .u64 (a : Int), .int .u64 (b : Int), .int .i64 32, .bool true] wo (Quot4 wo q (minusN r 32) 0 0) := by
  have hbz : ((b : Int) == 0) = false := by simp; omega
  have hx : minusN a 32 < 18446744073709551616 := minus_lt a 32 (by omega)
  have hy : minusN b 32 < 18446744073709551616 := minus_lt b 32 (by omega)
  have hy0 : 0 < minusN b 32 := minus_pos_32 b (by omega) (by omega)
  have hq64 : q < 18446744073709551616 := by rw [← hq]; exact Nat.lt_of_le_of_lt (Nat.div_le_self _ _) hx
  have hr64 : r < 18446744073709551616 := by rw [← hr]; exact Nat.lt_of_le_of_lt (Nat.mod_le _ _) hx
  have HD := Lib.hid (fun W => divide_any (minusN a 32) (minusN b 32) q r W hx hy hy0 hq hr)
  have HMA := Lib.hid (fun W => minus_any a 32 32 wide32 (by omega) W)
  have HMB := Lib.hid (fun W => minus_any b 32 32 wide32 (by omega) W)
  have HMR := Lib.hid (fun W => minus_any r 32 32 wide32 hr64 W)
  have hAd : decide ((2147483648 : Int) ≤ (a : Int)) = true := by simpa using hA
  have hBd : decide ((2147483648 : Int) ≤ (b : Int)) = true := by simpa using hB
  have hOd : decide ((2147483648 : Int) ≤ (q : Int)) = false := by simpa using hO
  clear ha hb hq hr hx hy hy0 hq64 hr64 hA hB hO
  generalize minusN a 32 = ma at *
  generalize minusN b 32 = mb at *
  generalize minusN r 32 = mr at *
  go_enter Try.func85, Try.ntmps85
  go_wp2_with fail
  refine (HMA.out _).mono ?_
  rintro e w' ⟨rfl, rfl⟩
  go_wp2_with fail
  refine (HMB.out _).mono ?_
  rintro e w' ⟨rfl, rfl⟩
  go_wp2_with fail
  refine (HD.out _).mono ?_
  rintro e w' ⟨rfl, rfl⟩
  go_wp2_with fail
  refine (HMR.out _).mono ?_
  rintro e w' ⟨rfl, rfl⟩
  go_wp2
  (try simp only [Exit.inBlock, Exit.then])
  refine bodyPost_ret (results_tmp4 rfl _ _ _) rfl ?_
  exact ⟨rfl, rfl⟩
set_option maxRecDepth 100000 in
theorem quot_ppf_32 (a b q r : Nat) (wo : World) (ha : a < 4294967296) (hb : b < 4294967296) (hb0 : 0 < b) (hA : ¬ (2147483648 : Int) ≤ (a : Int)) (hB : ¬ (2147483648 : Int) ≤ (b : Int)) (hO : ¬ (2147483648 : Int) ≤ (q : Int)) (hq : (a) / (b) = q) (hr : (a) % (b) = r) :
    Calls Try.prog 85 #[.int .u64 (a : Int), .int .u64 (b : Int), .int .i64 32, .bool true] wo (Quot4 wo q (r) 0 0) := by
  have hbz : ((b : Int) == 0) = false := by simp; omega
  have hx : a < 18446744073709551616 := by omega
  have hy : b < 18446744073709551616 := by omega
  have hy0 : 0 < b := hb0
  have hq64 : q < 18446744073709551616 := by rw [← hq]; exact Nat.lt_of_le_of_lt (Nat.div_le_self _ _) hx
  have hr64 : r < 18446744073709551616 := by rw [← hr]; exact Nat.lt_of_le_of_lt (Nat.mod_le _ _) hx
  have HD := Lib.hid (fun W => divide_any (a) (b) q r W hx hy hy0 hq hr)
  have hAd : decide ((2147483648 : Int) ≤ (a : Int)) = false := by simpa using hA
  have hBd : decide ((2147483648 : Int) ≤ (b : Int)) = false := by simpa using hB
  have hOd : decide ((2147483648 : Int) ≤ (q : Int)) = false := by simpa using hO
  clear ha hb hq hr hx hy hy0 hq64 hr64 hA hB hO
  go_enter Try.func85, Try.ntmps85
  go_wp2_with fail
  refine (HD.out _).mono ?_
  rintro e w' ⟨rfl, rfl⟩
  go_wp2
  (try simp only [Exit.inBlock, Exit.then])
  refine bodyPost_ret (results_tmp4 rfl _ _ _) rfl ?_
  exact ⟨rfl, rfl⟩
set_option maxRecDepth 100000 in
theorem quot_np_64 (a b q r : Nat) (wo : World) (ha : a < 18446744073709551616) (hb : b < 18446744073709551616) (hb0 : 0 < b) (hA : (9223372036854775808 : Int) ≤ (a : Int)) (hB : ¬ (9223372036854775808 : Int) ≤ (b : Int)) (hq : (minusN a 64) / (b) = q) (hr : (minusN a 64) % (b) = r) :
    Calls Try.prog 85 #[.int .u64 (a : Int), .int .u64 (b : Int), .int .i64 64, .bool true] wo (Quot4 wo (minusN q 64) (minusN r 64) 0 0) := by
  have hbz : ((b : Int) == 0) = false := by simp; omega
  have hx : minusN a 64 < 18446744073709551616 := minus_lt a 64 (by omega)
  have hy : b < 18446744073709551616 := by omega
  have hy0 : 0 < b := hb0
  have hq64 : q < 18446744073709551616 := by rw [← hq]; exact Nat.lt_of_le_of_lt (Nat.div_le_self _ _) hx
  have hr64 : r < 18446744073709551616 := by rw [← hr]; exact Nat.lt_of_le_of_lt (Nat.mod_le _ _) hx
  have HD := Lib.hid (fun W => divide_any (minusN a 64) (b) q r W hx hy hy0 hq hr)
  have HMA := Lib.hid (fun W => minus_any a 64 64 wide64 (by omega) W)
  have HMR := Lib.hid (fun W => minus_any r 64 64 wide64 hr64 W)
  have HMQ := Lib.hid (fun W => minus_any q 64 64 wide64 hq64 W)
  have hAd : decide ((9223372036854775808 : Int) ≤ (a : Int)) = true := by simpa using hA
  have hBd : decide ((9223372036854775808 : Int) ≤ (b : Int)) = false := by simpa using hB
  clear ha hb hq hr hx hy hy0 hq64 hr64 hA hB
  generalize minusN a 64 = ma at *
  generalize minusN r 64 = mr at *
  generalize minusN q 64 = mq at *
  go_enter Try.func85, Try.ntmps85
  go_wp2_with fail
  refine (HMA.out _).mono ?_
  rintro e w' ⟨rfl, rfl⟩
  go_wp2_with fail
  refine (HD.out _).mono ?_
  rintro e w' ⟨rfl, rfl⟩
  go_wp2_with fail
  refine (HMR.out _).mono ?_
  rintro e w' ⟨rfl, rfl⟩
  go_wp2_with fail
  refine (HMQ.out _).mono ?_
  rintro e w' ⟨rfl, rfl⟩
  go_wp2
  (try simp only [Exit.inBlock, Exit.then])
  refine bodyPost_ret (results_tmp4 rfl _ _ _) rfl ?_
  exact ⟨rfl, rfl⟩
set_option maxRecDepth 100000 in
theorem quot_pn_64 (a b q r : Nat) (wo : World) (ha : a < 18446744073709551616) (hb : b < 18446744073709551616) (hb0 : 0 < b) (hA : ¬ (9223372036854775808 : Int) ≤ (a : Int)) (hB : (9223372036854775808 : Int) ≤ (b : Int)) (hq : (a) / (minusN b 64) = q) (hr : (a) % (minusN b 64) = r) :
    Calls Try.prog 85 #[.int .u64 (a : Int), .int .u64 (b : Int), .int .i64 64, .bool true] wo (Quot4 wo (minusN q 64) (r) 0 0) := by
  have hbz : ((b : Int) == 0) = false := by simp; omega
  have hx : a < 18446744073709551616 := by omega
  have hy : minusN b 64 < 18446744073709551616 := minus_lt b 64 (by omega)
  have hy0 : 0 < minusN b 64 := minus_pos_64 b (by omega) (by omega)
  have hq64 : q < 18446744073709551616 := by rw [← hq]; exact Nat.lt_of_le_of_lt (Nat.div_le_self _ _) hx
  have hr64 : r < 18446744073709551616 := by rw [← hr]; exact Nat.lt_of_le_of_lt (Nat.mod_le _ _) hx
  have HD := Lib.hid (fun W => divide_any (a) (minusN b 64) q r W hx hy hy0 hq hr)
  have HMB := Lib.hid (fun W => minus_any b 64 64 wide64 (by omega) W)
  have HMQ := Lib.hid (fun W => minus_any q 64 64 wide64 hq64 W)
  have hAd : decide ((9223372036854775808 : Int) ≤ (a : Int)) = false := by simpa using hA
  have hBd : decide ((9223372036854775808 : Int) ≤ (b : Int)) = true := by simpa using hB
  clear ha hb hq hr hx hy hy0 hq64 hr64 hA hB
  generalize minusN b 64 = mb at *
  generalize minusN q 64 = mq at *
  go_enter Try.func85, Try.ntmps85
  go_wp2_with fail
  refine (HMB.out _).mono ?_
  rintro e w' ⟨rfl, rfl⟩
  go_wp2_with fail
  refine (HD.out _).mono ?_
  rintro e w' ⟨rfl, rfl⟩
  go_wp2_with fail
  refine (HMQ.out _).mono ?_
  rintro e w' ⟨rfl, rfl⟩
  go_wp2
  (try simp only [Exit.inBlock, Exit.then])
  refine bodyPost_ret (results_tmp4 rfl _ _ _) rfl ?_
  exact ⟨rfl, rfl⟩
set_option maxRecDepth 100000 in
theorem quot_nno_64 (a b q r : Nat) (wo : World) (ha : a < 18446744073709551616) (hb : b < 18446744073709551616) (hb0 : 0 < b) (hA : (9223372036854775808 : Int) ≤ (a : Int)) (hB : (9223372036854775808 : Int) ≤ (b : Int)) (hO : (9223372036854775808 : Int) ≤ (q : Int)) (hq : (minusN a 64) / (minusN b 64) = q) (hr : (minusN a 64) % (minusN b 64) = r) :
    Calls Try.prog 85 #[.int .u64 (a : Int), .int .u64 (b : Int), .int .i64 64, .bool true] wo (Quot4 wo 0 (minusN r 64) 7 0) := by
  have hbz : ((b : Int) == 0) = false := by simp; omega
  have hx : minusN a 64 < 18446744073709551616 := minus_lt a 64 (by omega)
  have hy : minusN b 64 < 18446744073709551616 := minus_lt b 64 (by omega)
  have hy0 : 0 < minusN b 64 := minus_pos_64 b (by omega) (by omega)
  have hq64 : q < 18446744073709551616 := by rw [← hq]; exact Nat.lt_of_le_of_lt (Nat.div_le_self _ _) hx
  have hr64 : r < 18446744073709551616 := by rw [← hr]; exact Nat.lt_of_le_of_lt (Nat.mod_le _ _) hx
  have HD := Lib.hid (fun W => divide_any (minusN a 64) (minusN b 64) q r W hx hy hy0 hq hr)
  have HMA := Lib.hid (fun W => minus_any a 64 64 wide64 (by omega) W)
  have HMB := Lib.hid (fun W => minus_any b 64 64 wide64 (by omega) W)
  have HMR := Lib.hid (fun W => minus_any r 64 64 wide64 hr64 W)
  have hAd : decide ((9223372036854775808 : Int) ≤ (a : Int)) = true := by simpa using hA
  have hBd : decide ((9223372036854775808 : Int) ≤ (b : Int)) = true := by simpa using hB
  have hOd : decide ((9223372036854775808 : Int) ≤ (q : Int)) = true := by simpa using hO
  clear ha hb hq hr hx hy hy0 hq64 hr64 hA hB hO
  generalize minusN a 64 = ma at *
  generalize minusN b 64 = mb at *
  generalize minusN r 64 = mr at *
  go_enter Try.func85, Try.ntmps85
  go_wp2_with fail
  refine (HMA.out _).mono ?_
  rintro e w' ⟨rfl, rfl⟩
  go_wp2_with fail
  refine (HMB.out _).mono ?_
  rintro e w' ⟨rfl, rfl⟩
  go_wp2_with fail
  refine (HD.out _).mono ?_
  rintro e w' ⟨rfl, rfl⟩
  go_wp2_with fail
  refine (HMR.out _).mono ?_
  rintro e w' ⟨rfl, rfl⟩
  go_wp2
  (try simp only [Exit.inBlock, Exit.then])
  refine bodyPost_ret (results_tmp4 rfl _ _ _) rfl ?_
  exact ⟨rfl, rfl⟩
set_option maxRecDepth 100000 in
theorem quot_ppo_64 (a b q r : Nat) (wo : World) (ha : a < 18446744073709551616) (hb : b < 18446744073709551616) (hb0 : 0 < b) (hA : ¬ (9223372036854775808 : Int) ≤ (a : Int)) (hB : ¬ (9223372036854775808 : Int) ≤ (b : Int)) (hO : (9223372036854775808 : Int) ≤ (q : Int)) (hq : (a) / (b) = q) (hr : (a) % (b) = r) :
    Calls Try.prog 85 #[.int .u64 (a : Int), .int .u64 (b : Int), .int .i64 64, .bool true] wo (Quot4 wo 0 (r) 7 0) := by
  have hbz : ((b : Int) == 0) = false := by simp; omega
  have hx : a < 18446744073709551616 := by omega
  have hy : b < 18446744073709551616 := by omega
  have hy0 : 0 < b := hb0
  have hq64 : q < 18446744073709551616 := by rw [← hq]; exact Nat.lt_of_le_of_lt (Nat.div_le_self _ _) hx
  have hr64 : r < 18446744073709551616 := by rw [← hr]; exact Nat.lt_of_le_of_lt (Nat.mod_le _ _) hx
  have HD := Lib.hid (fun W => divide_any (a) (b) q r W hx hy hy0 hq hr)
  have hAd : decide ((9223372036854775808 : Int) ≤ (a : Int)) = false := by simpa using hA
  have hBd : decide ((9223372036854775808 : Int) ≤ (b : Int)) = false := by simpa using hB
  have hOd : decide ((9223372036854775808 : Int) ≤ (q : Int)) = true := by simpa using hO
  clear ha hb hq hr hx hy hy0 hq64 hr64 hA hB hO
  go_enter Try.func85, Try.ntmps85
  go_wp2_with fail
  refine (HD.out _).mono ?_
  rintro e w' ⟨rfl, rfl⟩
  go_wp2
  (try simp only [Exit.inBlock, Exit.then])
  refine bodyPost_ret (results_tmp4 rfl _ _ _) rfl ?_
  exact ⟨rfl, rfl⟩
set_option maxRecDepth 100000 in
theorem quot_nnf_64 (a b q r : Nat) (wo : World) (ha : a < 18446744073709551616) (hb : b < 18446744073709551616) (hb0 : 0 < b) (hA : (9223372036854775808 : Int) ≤ (a : Int)) (hB : (9223372036854775808 : Int) ≤ (b : Int)) (hO : ¬ (9223372036854775808 : Int) ≤ (q : Int)) (hq : (minusN a 64) / (minusN b 64) = q) (hr : (minusN a 64) % (minusN b 64) = r) :
    Calls Try.prog 85 #[.int .u64 (a : Int), .int .u64 (b : Int), .int .i64 64, .bool true] wo (Quot4 wo q (minusN r 64) 0 0) := by
  have hbz : ((b : Int) == 0) = false := by simp; omega
  have hx : minusN a 64 < 18446744073709551616 := minus_lt a 64 (by omega)
  have hy : minusN b 64 < 18446744073709551616 := minus_lt b 64 (by omega)
  have hy0 : 0 < minusN b 64 := minus_pos_64 b (by omega) (by omega)
  have hq64 : q < 18446744073709551616 := by rw [← hq]; exact Nat.lt_of_le_of_lt (Nat.div_le_self _ _) hx
  have hr64 : r < 18446744073709551616 := by rw [← hr]; exact Nat.lt_of_le_of_lt (Nat.mod_le _ _) hx
  have HD := Lib.hid (fun W => divide_any (minusN a 64) (minusN b 64) q r W hx hy hy0 hq hr)
  have HMA := Lib.hid (fun W => minus_any a 64 64 wide64 (by omega) W)
  have HMB := Lib.hid (fun W => minus_any b 64 64 wide64 (by omega) W)
  have HMR := Lib.hid (fun W => minus_any r 64 64 wide64 hr64 W)
  have hAd : decide ((9223372036854775808 : Int) ≤ (a : Int)) = true := by simpa using hA
  have hBd : decide ((9223372036854775808 : Int) ≤ (b : Int)) = true := by simpa using hB
  have hOd : decide ((9223372036854775808 : Int) ≤ (q : Int)) = false := by simpa using hO
  clear ha hb hq hr hx hy hy0 hq64 hr64 hA hB hO
  generalize minusN a 64 = ma at *
  generalize minusN b 64 = mb at *
  generalize minusN r 64 = mr at *
  go_enter Try.func85, Try.ntmps85
  go_wp2_with fail
  refine (HMA.out _).mono ?_
  rintro e w' ⟨rfl, rfl⟩
  go_wp2_with fail
  refine (HMB.out _).mono ?_
  rintro e w' ⟨rfl, rfl⟩
  go_wp2_with fail
  refine (HD.out _).mono ?_
  rintro e w' ⟨rfl, rfl⟩
  go_wp2_with fail
  refine (HMR.out _).mono ?_
  rintro e w' ⟨rfl, rfl⟩
  go_wp2
  (try simp only [Exit.inBlock, Exit.then])
  refine bodyPost_ret (results_tmp4 rfl _ _ _) rfl ?_
  exact ⟨rfl, rfl⟩
set_option maxRecDepth 100000 in
theorem quot_ppf_64 (a b q r : Nat) (wo : World) (ha : a < 18446744073709551616) (hb : b < 18446744073709551616) (hb0 : 0 < b) (hA : ¬ (9223372036854775808 : Int) ≤ (a : Int)) (hB : ¬ (9223372036854775808 : Int) ≤ (b : Int)) (hO : ¬ (9223372036854775808 : Int) ≤ (q : Int)) (hq : (a) / (b) = q) (hr : (a) % (b) = r) :
    Calls Try.prog 85 #[.int .u64 (a : Int), .int .u64 (b : Int), .int .i64 64, .bool true] wo (Quot4 wo q (r) 0 0) := by
  have hbz : ((b : Int) == 0) = false := by simp; omega
  have hx : a < 18446744073709551616 := by omega
  have hy : b < 18446744073709551616 := by omega
  have hy0 : 0 < b := hb0
  have hq64 : q < 18446744073709551616 := by rw [← hq]; exact Nat.lt_of_le_of_lt (Nat.div_le_self _ _) hx
  have hr64 : r < 18446744073709551616 := by rw [← hr]; exact Nat.lt_of_le_of_lt (Nat.mod_le _ _) hx
  have HD := Lib.hid (fun W => divide_any (a) (b) q r W hx hy hy0 hq hr)
  have hAd : decide ((9223372036854775808 : Int) ≤ (a : Int)) = false := by simpa using hA
  have hBd : decide ((9223372036854775808 : Int) ≤ (b : Int)) = false := by simpa using hB
  have hOd : decide ((9223372036854775808 : Int) ≤ (q : Int)) = false := by simpa using hO
  clear ha hb hq hr hx hy hy0 hq64 hr64 hA hB hO
  go_enter Try.func85, Try.ntmps85
  go_wp2_with fail
  refine (HD.out _).mono ?_
  rintro e w' ⟨rfl, rfl⟩
  go_wp2
  (try simp only [Exit.inBlock, Exit.then])
  refine bodyPost_ret (results_tmp4 rfl _ _ _) rfl ?_
  exact ⟨rfl, rfl⟩
end Go.Proofs.Ytdipgokbfjbgfaa.Num
namespace Go.Proofs.Ytdipgokbfjbgfaa.Num
open Go.RowKit

/-- How many of the lowest w bits, from the highest down, are 0. -/
def lzF (a : Nat) : Nat → Nat
  | 0 => 0
  | w + 1 => if bitN a w = 0 then lzF a w + 1 else 0
/-- How many of d bits, from bit i up, are 0. -/
def tzF (a i : Nat) : Nat → Nat
  | 0 => 0
  | d + 1 => if bitN a i = 0 then tzF a (i + 1) d + 1 else 0
/-- How many of the lowest w bits are 1. -/
def pcF (a : Nat) : Nat → Nat
  | 0 => 0
  | w + 1 => pcF a w + bitN a w
theorem pcF_le (a w : Nat) : pcF a w ≤ w := by
  induction w with
  | zero => simp [pcF]
  | succ w ih => have := bitN_le a w; simp only [pcF]; omega
theorem lzF_zero (a : Nat) : lzF a 0 = 0 := rfl
theorem tzF_zero (a i : Nat) : tzF a i 0 = 0 := rfl
theorem lzF_none (a j : Nat) (h : bitN a j ≠ 0) : lzF a (j + 1) = 0 := by simp only [lzF]; rw [if_neg h]
theorem lzF_one (a j : Nat) (h : bitN a j = 0) : lzF a (j + 1) = lzF a j + 1 := by simp only [lzF]; rw [if_pos h]
theorem tzF_none (a i d : Nat) (h : bitN a i ≠ 0) : tzF a i (d + 1) = 0 := by simp only [tzF]; rw [if_neg h]
theorem tzF_one (a i d : Nat) (h : bitN a i = 0) : tzF a i (d + 1) = tzF a (i + 1) d + 1 := by simp only [tzF]; rw [if_pos h]
/-- What an operation of one number answers. -/
def unVal (op : Int) (a : Nat) : Nat × Bool :=
  if op = 69 then ((((cutN a 32 : Nat) : Int) == 0).toNat, true)
  else if op = 80 then ((((cutN a 64 : Nat) : Int) == 0).toNat, true)
  else if op = 103 then (lzF (cutN a 32) 32, true)
  else if op = 121 then (lzF (cutN a 64) 64, true)
  else if op = 104 then (tzF (cutN a 32) 0 32, true)
  else if op = 122 then (tzF (cutN a 64) 0 64, true)
  else if op = 105 then (pcF (cutN a 32) 32, true)
  else if op = 123 then (pcF (cutN a 64) 64, true)
  else if op = 167 ∨ op = 173 then (cutN a 32, true)
  else if op = 172 ∨ op = 196 then (spreadN a 32 64, true)
  else if op = 192 then (spreadN a 8 32, true)
  else if op = 193 then (spreadN a 16 32, true)
  else if op = 194 then (spreadN a 8 64, true)
  else if op = 195 then (spreadN a 16 64, true)
  else (0, false)
def Is2 (w : World) (v : Nat) (ok : Bool) (e : Ending) (w' : World) : Prop := e = .returned (.tuple #[.int .u64 (v : Int), .bool ok]) ∧ w = w'
set_option maxRecDepth 100000 in
theorem un_69 (a : Nat) (wo : World) (ha : a < 18446744073709551616) :
    Calls Try.prog 66 #[.int .i64 69, .int .u64 (a : Int)] wo (Is2 wo ((((cutN a 32 : Nat) : Int) == 0).toNat) true) := by
  have HC := Lib.hid (fun W => cut_any a 32 32 wide32 ha W)
  clear ha
  generalize cutN a 32 = c at *
  go_enter Try.func66, Try.ntmps66
  go_wp2_with fail
  refine (HC.out _).mono ?_
  rintro e w' ⟨rfl, rfl⟩
  go_wp2_with fail
  refine (one_any _ _).mono ?_
  rintro e w' ⟨rfl, rfl⟩
  go_wp2
  go_ret2
  exact ⟨rfl, rfl⟩
set_option maxRecDepth 100000 in
theorem un_80 (a : Nat) (wo : World) (ha : a < 18446744073709551616) :
    Calls Try.prog 66 #[.int .i64 80, .int .u64 (a : Int)] wo (Is2 wo ((((cutN a 64 : Nat) : Int) == 0).toNat) true) := by
  have HC := Lib.hid (fun W => cut_any a 64 64 wide64 ha W)
  clear ha
  generalize cutN a 64 = c at *
  go_enter Try.func66, Try.ntmps66
  go_wp2_with fail
  refine (HC.out _).mono ?_
  rintro e w' ⟨rfl, rfl⟩
  go_wp2_with fail
  refine (one_any _ _).mono ?_
  rintro e w' ⟨rfl, rfl⟩
  go_wp2
  go_ret2
  exact ⟨rfl, rfl⟩
set_option maxRecDepth 100000 in
theorem un_103 (a : Nat) (wo : World) (ha : a < 18446744073709551616) :
    Calls Try.prog 66 #[.int .i64 103, .int .u64 (a : Int)] wo (Is2 wo (lzF (cutN a 32) 32) true) := by
  have HC := Lib.hid (fun W => cut_any a 32 32 wide32 ha W)
  clear ha
  generalize cutN a 32 = c at *
  obtain ⟨v, hv⟩ : ∃ v, lzF c 32 = v := ⟨_, rfl⟩
  rw [hv]
  have HV := Lib.hid hv
  clear hv
  go_enter Try.func66, Try.ntmps66
  go_wp2_with fail
  refine (HC.out _).mono ?_
  rintro e w' ⟨rfl, rfl⟩
  go_wp2
  go_loop [8, 9] (fun n i => ∃ (j k : Nat), j ≤ 32 ∧ k ≤ 32 ∧ i = .int .i64 ((j : Int) - 1) ∧ n = .int .u64 (k : Int) ∧ Hid (lzF c 32 = k + lzF c j ∧ k + j = 32)) (fun _ i => (intOf i + 1).toNat)
  case atStart => exact ⟨32, 0, by omega, by omega, rfl, rfl, Lib.hid ⟨by omega, by omega⟩⟩
  case round =>
    obtain ⟨j, k, hj, hk, rfl, rfl, hD⟩ := hrel
    cases j with
    | zero =>
      obtain rfl : v = k := by have h1 := hD.out.1; rw [lzF_zero, HV.out] at h1; omega
      clear hD HV
      rw [show (((0 : Nat) : Int) - 1) = -1 from rfl]
      go_wp2
      go_ret2
      exact ⟨rfl, rfl⟩
    | succ q =>
      rw [show (((q + 1 : Nat) : Int) - 1) = (q : Int) from by omega]
      have HB := Lib.hid (fun W => bit_any c q W (by omega))
      have hj' : q ≤ 31 := by omega
      by_cases hb : bitN c q = 0
      · have hbz : ((bitN c q : Int) == 0) = true := by simp [hb]
        have HN : Hid (lzF c 32 = (k + 1) + lzF c q ∧ (k + 1) + q = 32) := Lib.hid (by have h1 := hD.out; rw [lzF_one c q hb] at h1; omega)
        have hk1 : k + 1 ≤ 32 := by have := HN.out.2; omega
        clear hD hj hb
        generalize bitN c q = b at *
        go_wp2_with fail
        refine (HB.out _).mono ?_
        rintro e w' ⟨rfl, rfl⟩
        go_wp2
        go_round
        case rel => exact ⟨q, k + 1, by omega, by omega, rfl, int_u64 (by omega), HN⟩
        case measure => simp [intOf]
      · have hbz : ((bitN c q : Int) == 0) = false := by simp; omega
        obtain rfl : v = k := by have h1 := hD.out.1; rw [lzF_none c q hb, HV.out] at h1; omega
        clear hD hj hb HV
        generalize bitN c q = b at *
        go_wp2_with fail
        refine (HB.out _).mono ?_
        rintro e w' ⟨rfl, rfl⟩
        go_wp2
        go_ret2
        exact ⟨rfl, rfl⟩
set_option maxRecDepth 100000 in
theorem un_121 (a : Nat) (wo : World) (ha : a < 18446744073709551616) :
    Calls Try.prog 66 #[.int .i64 121, .int .u64 (a : Int)] wo (Is2 wo (lzF (cutN a 64) 64) true) := by
  have HC := Lib.hid (fun W => cut_any a 64 64 wide64 ha W)
  clear ha
  generalize cutN a 64 = c at *
  obtain ⟨v, hv⟩ : ∃ v, lzF c 64 = v := ⟨_, rfl⟩
  rw [hv]
  have HV := Lib.hid hv
  clear hv
  go_enter Try.func66, Try.ntmps66
  go_wp2_with fail
  refine (HC.out _).mono ?_
  rintro e w' ⟨rfl, rfl⟩
  go_wp2
  go_loop [8, 9] (fun n i => ∃ (j k : Nat), j ≤ 64 ∧ k ≤ 64 ∧ i = .int .i64 ((j : Int) - 1) ∧ n = .int .u64 (k : Int) ∧ Hid (lzF c 64 = k + lzF c j ∧ k + j = 64)) (fun _ i => (intOf i + 1).toNat)
  case atStart => exact ⟨64, 0, by omega, by omega, rfl, rfl, Lib.hid ⟨by omega, by omega⟩⟩
  case round =>
    obtain ⟨j, k, hj, hk, rfl, rfl, hD⟩ := hrel
    cases j with
    | zero =>
      obtain rfl : v = k := by have h1 := hD.out.1; rw [lzF_zero, HV.out] at h1; omega
      clear hD HV
      rw [show (((0 : Nat) : Int) - 1) = -1 from rfl]
      go_wp2
      go_ret2
      exact ⟨rfl, rfl⟩
    | succ q =>
      rw [show (((q + 1 : Nat) : Int) - 1) = (q : Int) from by omega]
      have HB := Lib.hid (fun W => bit_any c q W (by omega))
      have hj' : q ≤ 63 := by omega
      by_cases hb : bitN c q = 0
      · have hbz : ((bitN c q : Int) == 0) = true := by simp [hb]
        have HN : Hid (lzF c 64 = (k + 1) + lzF c q ∧ (k + 1) + q = 64) := Lib.hid (by have h1 := hD.out; rw [lzF_one c q hb] at h1; omega)
        have hk1 : k + 1 ≤ 64 := by have := HN.out.2; omega
        clear hD hj hb
        generalize bitN c q = b at *
        go_wp2_with fail
        refine (HB.out _).mono ?_
        rintro e w' ⟨rfl, rfl⟩
        go_wp2
        go_round
        case rel => exact ⟨q, k + 1, by omega, by omega, rfl, int_u64 (by omega), HN⟩
        case measure => simp [intOf]
      · have hbz : ((bitN c q : Int) == 0) = false := by simp; omega
        obtain rfl : v = k := by have h1 := hD.out.1; rw [lzF_none c q hb, HV.out] at h1; omega
        clear hD hj hb HV
        generalize bitN c q = b at *
        go_wp2_with fail
        refine (HB.out _).mono ?_
        rintro e w' ⟨rfl, rfl⟩
        go_wp2
        go_ret2
        exact ⟨rfl, rfl⟩
set_option maxRecDepth 100000 in
theorem un_104 (a : Nat) (wo : World) (ha : a < 18446744073709551616) :
    Calls Try.prog 66 #[.int .i64 104, .int .u64 (a : Int)] wo (Is2 wo (tzF (cutN a 32) 0 32) true) := by
  have HC := Lib.hid (fun W => cut_any a 32 32 wide32 ha W)
  clear ha
  generalize cutN a 32 = c at *
  obtain ⟨v, hv⟩ : ∃ v, tzF c 0 32 = v := ⟨_, rfl⟩
  rw [hv]
  have HV := Lib.hid hv
  clear hv
  go_enter Try.func66, Try.ntmps66
  go_wp2_with fail
  refine (HC.out _).mono ?_
  rintro e w' ⟨rfl, rfl⟩
  go_wp2
  go_loop [8, 10] (fun n i => ∃ (k : Nat), k ≤ 32 ∧ i = .int .i64 (k : Int) ∧ n = .int .u64 (k : Int) ∧ Hid (tzF c 0 32 = k + tzF c k (32 - k))) (fun _ i => 32 - (intOf i).toNat)
  case atStart => exact ⟨0, by omega, rfl, rfl, Lib.hid (by simp)⟩
  case round =>
    obtain ⟨k, hk, rfl, rfl, hD⟩ := hrel
    by_cases hlt : k < 32
    · have hlti : (k : Int) < 32 := by omega
      have HB := Lib.hid (fun W => bit_any c k W (by omega))
      have hd : 32 - k = (32 - (k + 1)) + 1 := by omega
      by_cases hb : bitN c k = 0
      · have hbz : ((bitN c k : Int) == 0) = true := by simp [hb]
        have HN : Hid (tzF c 0 32 = (k + 1) + tzF c (k + 1) (32 - (k + 1))) := Lib.hid (by have h1 := hD.out; rw [hd, tzF_one c k _ hb] at h1; omega)
        clear hD hd hb
        generalize bitN c k = b at *
        go_wp2_with fail
        refine (HB.out _).mono ?_
        rintro e w' ⟨rfl, rfl⟩
        go_wp2
        go_round
        case rel => exact ⟨k + 1, by omega, by go_num, int_u64 (by omega), HN⟩
        case measure => simp [intOf]; omega
      · have hbz : ((bitN c k : Int) == 0) = false := by simp; omega
        obtain rfl : v = k := by have h1 := hD.out; rw [hd, tzF_none c k _ hb, HV.out] at h1; omega
        clear hD hd hb HV
        generalize bitN c v = b at *
        go_wp2_with fail
        refine (HB.out _).mono ?_
        rintro e w' ⟨rfl, rfl⟩
        go_wp2
        go_ret2
        exact ⟨rfl, rfl⟩
    · have hlti : ¬ (k : Int) < 32 := by omega
      obtain rfl : v = k := by have h1 := hD.out; rw [show 32 - k = 0 from by omega, tzF_zero, HV.out] at h1; omega
      clear hD HV
      go_wp2
      go_ret2
      exact ⟨rfl, rfl⟩
set_option maxRecDepth 100000 in
theorem un_122 (a : Nat) (wo : World) (ha : a < 18446744073709551616) :
    Calls Try.prog 66 #[.int .i64 122, .int .u64 (a : Int)] wo (Is2 wo (tzF (cutN a 64) 0 64) true) := by
  have HC := Lib.hid (fun W => cut_any a 64 64 wide64 ha W)
  clear ha
  generalize cutN a 64 = c at *
  obtain ⟨v, hv⟩ : ∃ v, tzF c 0 64 = v := ⟨_, rfl⟩
  rw [hv]
  have HV := Lib.hid hv
  clear hv
  go_enter Try.func66, Try.ntmps66
  go_wp2_with fail
  refine (HC.out _).mono ?_
  rintro e w' ⟨rfl, rfl⟩
  go_wp2
  go_loop [8, 10] (fun n i => ∃ (k : Nat), k ≤ 64 ∧ i = .int .i64 (k : Int) ∧ n = .int .u64 (k : Int) ∧ Hid (tzF c 0 64 = k + tzF c k (64 - k))) (fun _ i => 64 - (intOf i).toNat)
  case atStart => exact ⟨0, by omega, rfl, rfl, Lib.hid (by simp)⟩
  case round =>
    obtain ⟨k, hk, rfl, rfl, hD⟩ := hrel
    by_cases hlt : k < 64
    · have hlti : (k : Int) < 64 := by omega
      have HB := Lib.hid (fun W => bit_any c k W (by omega))
      have hd : 64 - k = (64 - (k + 1)) + 1 := by omega
      by_cases hb : bitN c k = 0
      · have hbz : ((bitN c k : Int) == 0) = true := by simp [hb]
        have HN : Hid (tzF c 0 64 = (k + 1) + tzF c (k + 1) (64 - (k + 1))) := Lib.hid (by have h1 := hD.out; rw [hd, tzF_one c k _ hb] at h1; omega)
        clear hD hd hb
        generalize bitN c k = b at *
        go_wp2_with fail
        refine (HB.out _).mono ?_
        rintro e w' ⟨rfl, rfl⟩
        go_wp2
        go_round
        case rel => exact ⟨k + 1, by omega, by go_num, int_u64 (by omega), HN⟩
        case measure => simp [intOf]; omega
      · have hbz : ((bitN c k : Int) == 0) = false := by simp; omega
        obtain rfl : v = k := by have h1 := hD.out; rw [hd, tzF_none c k _ hb, HV.out] at h1; omega
        clear hD hd hb HV
        generalize bitN c v = b at *
        go_wp2_with fail
        refine (HB.out _).mono ?_
        rintro e w' ⟨rfl, rfl⟩
        go_wp2
        go_ret2
        exact ⟨rfl, rfl⟩
    · have hlti : ¬ (k : Int) < 64 := by omega
      obtain rfl : v = k := by have h1 := hD.out; rw [show 64 - k = 0 from by omega, tzF_zero, HV.out] at h1; omega
      clear hD HV
      go_wp2
      go_ret2
      exact ⟨rfl, rfl⟩
set_option maxRecDepth 100000 in
theorem un_105 (a : Nat) (wo : World) (ha : a < 18446744073709551616) :
    Calls Try.prog 66 #[.int .i64 105, .int .u64 (a : Int)] wo (Is2 wo (pcF (cutN a 32) 32) true) := by
  have HC := Lib.hid (fun W => cut_any a 32 32 wide32 ha W)
  clear ha
  generalize cutN a 32 = c at *
  obtain ⟨v, hv⟩ : ∃ v, pcF c 32 = v := ⟨_, rfl⟩
  rw [hv]
  have HV := Lib.hid hv
  clear hv
  go_enter Try.func66, Try.ntmps66
  go_wp2_with fail
  refine (HC.out _).mono ?_
  rintro e w' ⟨rfl, rfl⟩
  go_wp2
  go_loop [8, 11] (fun n i => ∃ (k m : Nat), k ≤ 32 ∧ m ≤ 32 ∧ i = .int .i64 (k : Int) ∧ n = .int .u64 (m : Int) ∧ Hid (m = pcF c k)) (fun _ i => 32 - (intOf i).toNat)
  case atStart => exact ⟨0, 0, by omega, by omega, rfl, rfl, Lib.hid rfl⟩
  case round =>
    obtain ⟨k, m, hk, hm, rfl, rfl, hD⟩ := hrel
    by_cases hlt : k < 32
    · have hlti : (k : Int) < 32 := by omega
      have HB := Lib.hid (fun W => bit_any c k W (by omega))
      have HN : Hid (m + bitN c k = pcF c (k + 1)) := Lib.hid (by simp only [pcF]; rw [hD.out])
      have hmb : m + bitN c k ≤ 32 := by have h1 := HN.out; have h2 := pcF_le c (k + 1); omega
      have hB1 := bitN_le c k
      clear hD
      generalize bitN c k = b at *
      go_wp2_with fail
      refine (HB.out _).mono ?_
      rintro e w' ⟨rfl, rfl⟩
      go_wp2
      go_round
      case rel => exact ⟨k + 1, m + b, by omega, by omega, by go_num, int_u64 (by omega), HN⟩
      case measure => simp [intOf]; omega
    · have hlti : ¬ (k : Int) < 32 := by omega
      obtain rfl : v = m := by rw [hD.out, show k = 32 from by omega, HV.out]
      clear hD HV
      go_wp2
      go_ret2
      exact ⟨rfl, rfl⟩
set_option maxRecDepth 100000 in
theorem un_123 (a : Nat) (wo : World) (ha : a < 18446744073709551616) :
    Calls Try.prog 66 #[.int .i64 123, .int .u64 (a : Int)] wo (Is2 wo (pcF (cutN a 64) 64) true) := by
  have HC := Lib.hid (fun W => cut_any a 64 64 wide64 ha W)
  clear ha
  generalize cutN a 64 = c at *
  obtain ⟨v, hv⟩ : ∃ v, pcF c 64 = v := ⟨_, rfl⟩
  rw [hv]
  have HV := Lib.hid hv
  clear hv
  go_enter Try.func66, Try.ntmps66
  go_wp2_with fail
  refine (HC.out _).mono ?_
  rintro e w' ⟨rfl, rfl⟩
  go_wp2
  go_loop [8, 11] (fun n i => ∃ (k m : Nat), k ≤ 64 ∧ m ≤ 64 ∧ i = .int .i64 (k : Int) ∧ n = .int .u64 (m : Int) ∧ Hid (m = pcF c k)) (fun _ i => 64 - (intOf i).toNat)
  case atStart => exact ⟨0, 0, by omega, by omega, rfl, rfl, Lib.hid rfl⟩
  case round =>
    obtain ⟨k, m, hk, hm, rfl, rfl, hD⟩ := hrel
    by_cases hlt : k < 64
    · have hlti : (k : Int) < 64 := by omega
      have HB := Lib.hid (fun W => bit_any c k W (by omega))
      have HN : Hid (m + bitN c k = pcF c (k + 1)) := Lib.hid (by simp only [pcF]; rw [hD.out])
      have hmb : m + bitN c k ≤ 64 := by have h1 := HN.out; have h2 := pcF_le c (k + 1); omega
      have hB1 := bitN_le c k
      clear hD
      generalize bitN c k = b at *
      go_wp2_with fail
      refine (HB.out _).mono ?_
      rintro e w' ⟨rfl, rfl⟩
      go_wp2
      go_round
      case rel => exact ⟨k + 1, m + b, by omega, by omega, by go_num, int_u64 (by omega), HN⟩
      case measure => simp [intOf]; omega
    · have hlti : ¬ (k : Int) < 64 := by omega
      obtain rfl : v = m := by rw [hD.out, show k = 64 from by omega, HV.out]
      clear hD HV
      go_wp2
      go_ret2
      exact ⟨rfl, rfl⟩
set_option maxRecDepth 100000 in
theorem un_167 (a : Nat) (wo : World) (ha : a < 18446744073709551616) :
    Calls Try.prog 66 #[.int .i64 167, .int .u64 (a : Int)] wo (Is2 wo (cutN a 32) true) := by
  have HC := Lib.hid (fun W => cut_any a 32 32 wide32 ha W)
  clear ha
  go_enter Try.func66, Try.ntmps66
  go_wp2_with fail
  refine (HC.out _).mono ?_
  rintro e w' ⟨rfl, rfl⟩
  go_wp2_with fail
  refine (HC.out _).mono ?_
  rintro e w' ⟨rfl, rfl⟩
  go_wp2
  go_ret2
  exact ⟨rfl, rfl⟩
set_option maxRecDepth 100000 in
theorem un_173 (a : Nat) (wo : World) (ha : a < 18446744073709551616) :
    Calls Try.prog 66 #[.int .i64 173, .int .u64 (a : Int)] wo (Is2 wo (cutN a 32) true) := by
  have HC := Lib.hid (fun W => cut_any a 32 32 wide32 ha W)
  clear ha
  go_enter Try.func66, Try.ntmps66
  go_wp2_with fail
  refine (HC.out _).mono ?_
  rintro e w' ⟨rfl, rfl⟩
  go_wp2_with fail
  refine (HC.out _).mono ?_
  rintro e w' ⟨rfl, rfl⟩
  go_wp2
  go_ret2
  exact ⟨rfl, rfl⟩
set_option maxRecDepth 100000 in
theorem un_172 (a : Nat) (wo : World) (ha : a < 18446744073709551616) :
    Calls Try.prog 66 #[.int .i64 172, .int .u64 (a : Int)] wo (Is2 wo (spreadN a 32 64) true) := by
  have HC := Lib.hid (fun W => cut_any a 32 32 wide32 ha W)
  clear ha
  go_enter Try.func66, Try.ntmps66
  go_wp2_with fail
  refine (HC.out _).mono ?_
  rintro e w' ⟨rfl, rfl⟩
  go_wp2_with fail
  refine (spread_any a 32 64 _ (by omega) (by omega) (by omega)).mono ?_
  rintro e w' ⟨rfl, rfl⟩
  go_wp2
  go_ret2
  exact ⟨rfl, rfl⟩
set_option maxRecDepth 100000 in
theorem un_196 (a : Nat) (wo : World) (ha : a < 18446744073709551616) :
    Calls Try.prog 66 #[.int .i64 196, .int .u64 (a : Int)] wo (Is2 wo (spreadN a 32 64) true) := by
  have HC := Lib.hid (fun W => cut_any a 32 32 wide32 ha W)
  clear ha
  go_enter Try.func66, Try.ntmps66
  go_wp2_with fail
  refine (HC.out _).mono ?_
  rintro e w' ⟨rfl, rfl⟩
  go_wp2_with fail
  refine (spread_any a 32 64 _ (by omega) (by omega) (by omega)).mono ?_
  rintro e w' ⟨rfl, rfl⟩
  go_wp2
  go_ret2
  exact ⟨rfl, rfl⟩
set_option maxRecDepth 100000 in
theorem un_192 (a : Nat) (wo : World) (ha : a < 18446744073709551616) :
    Calls Try.prog 66 #[.int .i64 192, .int .u64 (a : Int)] wo (Is2 wo (spreadN a 8 32) true) := by
  have HC := Lib.hid (fun W => cut_any a 32 32 wide32 ha W)
  clear ha
  go_enter Try.func66, Try.ntmps66
  go_wp2_with fail
  refine (HC.out _).mono ?_
  rintro e w' ⟨rfl, rfl⟩
  go_wp2_with fail
  refine (spread_any a 8 32 _ (by omega) (by omega) (by omega)).mono ?_
  rintro e w' ⟨rfl, rfl⟩
  go_wp2
  go_ret2
  exact ⟨rfl, rfl⟩
set_option maxRecDepth 100000 in
theorem un_193 (a : Nat) (wo : World) (ha : a < 18446744073709551616) :
    Calls Try.prog 66 #[.int .i64 193, .int .u64 (a : Int)] wo (Is2 wo (spreadN a 16 32) true) := by
  have HC := Lib.hid (fun W => cut_any a 32 32 wide32 ha W)
  clear ha
  go_enter Try.func66, Try.ntmps66
  go_wp2_with fail
  refine (HC.out _).mono ?_
  rintro e w' ⟨rfl, rfl⟩
  go_wp2_with fail
  refine (spread_any a 16 32 _ (by omega) (by omega) (by omega)).mono ?_
  rintro e w' ⟨rfl, rfl⟩
  go_wp2
  go_ret2
  exact ⟨rfl, rfl⟩
set_option maxRecDepth 100000 in
theorem un_194 (a : Nat) (wo : World) (ha : a < 18446744073709551616) :
    Calls Try.prog 66 #[.int .i64 194, .int .u64 (a : Int)] wo (Is2 wo (spreadN a 8 64) true) := by
  have HC := Lib.hid (fun W => cut_any a 32 32 wide32 ha W)
  clear ha
  go_enter Try.func66, Try.ntmps66
  go_wp2_with fail
  refine (HC.out _).mono ?_
  rintro e w' ⟨rfl, rfl⟩
  go_wp2_with fail
  refine (spread_any a 8 64 _ (by omega) (by omega) (by omega)).mono ?_
  rintro e w' ⟨rfl, rfl⟩
  go_wp2
  go_ret2
  exact ⟨rfl, rfl⟩
set_option maxRecDepth 100000 in
theorem un_195 (a : Nat) (wo : World) (ha : a < 18446744073709551616) :
    Calls Try.prog 66 #[.int .i64 195, .int .u64 (a : Int)] wo (Is2 wo (spreadN a 16 64) true) := by
  have HC := Lib.hid (fun W => cut_any a 32 32 wide32 ha W)
  clear ha
  go_enter Try.func66, Try.ntmps66
  go_wp2_with fail
  refine (HC.out _).mono ?_
  rintro e w' ⟨rfl, rfl⟩
  go_wp2_with fail
  refine (spread_any a 16 64 _ (by omega) (by omega) (by omega)).mono ?_
  rintro e w' ⟨rfl, rfl⟩
  go_wp2
  go_ret2
  exact ⟨rfl, rfl⟩
end Go.Proofs.Ytdipgokbfjbgfaa.Num
namespace Go.Proofs.Ytdipgokbfjbgfaa.Num
open Go.RowKit

/-- A code that is none of the operations of one number. -/
def NotUn (op : Int) : Prop := op ≠ 69 ∧ op ≠ 80 ∧ op ≠ 103 ∧ op ≠ 121 ∧ op ≠ 104 ∧ op ≠ 122 ∧ op ≠ 105 ∧ op ≠ 123 ∧ op ≠ 167 ∧ op ≠ 173 ∧ op ≠ 172 ∧ op ≠ 196 ∧ op ≠ 192 ∧ op ≠ 193 ∧ op ≠ 194 ∧ op ≠ 195
theorem un_none_low (op : Int) (a : Nat) (wo : World) (ha : a < 18446744073709551616) (ho : NotUn op) (h : ¬ 121 ≤ op) :
    Calls Try.prog 66 #[.int .i64 op, .int .u64 (a : Int)] wo (Is2 wo 0 false) := by
  unfold NotUn at ho
  have HC := Lib.hid (fun W => cut_any a 32 32 wide32 ha W)
  have t69 : (op == 69) = false := by simp; omega
  have t80 : (op == 80) = false := by simp; omega
  have t103 : (op == 103) = false := by simp; omega
  have t121 : (op == 121) = false := by simp; omega
  have t104 : (op == 104) = false := by simp; omega
  have t122 : (op == 122) = false := by simp; omega
  have t105 : (op == 105) = false := by simp; omega
  have t123 : (op == 123) = false := by simp; omega
  have t167 : (op == 167) = false := by simp; omega
  have t173 : (op == 173) = false := by simp; omega
  have t172 : (op == 172) = false := by simp; omega
  have t196 : (op == 196) = false := by simp; omega
  have t192 : (op == 192) = false := by simp; omega
  have t193 : (op == 193) = false := by simp; omega
  have t194 : (op == 194) = false := by simp; omega
  have t195 : (op == 195) = false := by simp; omega
  clear ha ho
  generalize cutN a 32 = c at *
  go_enter Try.func66, Try.ntmps66
  go_wp2_with fail
  refine (HC.out _).mono ?_
  rintro e w' ⟨rfl, rfl⟩
  go_wp2
  go_ret2
  exact ⟨rfl, rfl⟩
theorem un_none_high (op : Int) (a : Nat) (wo : World) (ha : a < 18446744073709551616) (ho : NotUn op) (h : 121 ≤ op) :
    Calls Try.prog 66 #[.int .i64 op, .int .u64 (a : Int)] wo (Is2 wo 0 false) := by
  unfold NotUn at ho
  have HC := Lib.hid (fun W => cut_any a 32 32 wide32 ha W)
  have h2 : ¬ op ≤ 123 := by omega
  have t69 : (op == 69) = false := by simp; omega
  have t80 : (op == 80) = false := by simp; omega
  have t103 : (op == 103) = false := by simp; omega
  have t121 : (op == 121) = false := by simp; omega
  have t104 : (op == 104) = false := by simp; omega
  have t122 : (op == 122) = false := by simp; omega
  have t105 : (op == 105) = false := by simp; omega
  have t123 : (op == 123) = false := by simp; omega
  have t167 : (op == 167) = false := by simp; omega
  have t173 : (op == 173) = false := by simp; omega
  have t172 : (op == 172) = false := by simp; omega
  have t196 : (op == 196) = false := by simp; omega
  have t192 : (op == 192) = false := by simp; omega
  have t193 : (op == 193) = false := by simp; omega
  have t194 : (op == 194) = false := by simp; omega
  have t195 : (op == 195) = false := by simp; omega
  clear ha ho
  generalize cutN a 32 = c at *
  go_enter Try.func66, Try.ntmps66
  go_wp2_with fail
  refine (HC.out _).mono ?_
  rintro e w' ⟨rfl, rfl⟩
  go_wp2
  go_ret2
  exact ⟨rfl, rfl⟩
theorem run_any (op : Int) (a : Nat) (wo : World) (ha : a < 18446744073709551616) :
    Calls Try.prog 66 #[.int .i64 op, .int .u64 (a : Int)] wo (Is2 wo (unVal op a).1 (unVal op a).2) := by
  by_cases h69 : op = 69
  · subst h69; exact un_69 a wo ha
  by_cases h80 : op = 80
  · subst h80; exact un_80 a wo ha
  by_cases h103 : op = 103
  · subst h103; exact un_103 a wo ha
  by_cases h121 : op = 121
  · subst h121; exact un_121 a wo ha
  by_cases h104 : op = 104
  · subst h104; exact un_104 a wo ha
  by_cases h122 : op = 122
  · subst h122; exact un_122 a wo ha
  by_cases h105 : op = 105
  · subst h105; exact un_105 a wo ha
  by_cases h123 : op = 123
  · subst h123; exact un_123 a wo ha
  by_cases h167 : op = 167
  · subst h167; exact un_167 a wo ha
  by_cases h173 : op = 173
  · subst h173; exact un_173 a wo ha
  by_cases h172 : op = 172
  · subst h172; exact un_172 a wo ha
  by_cases h196 : op = 196
  · subst h196; exact un_196 a wo ha
  by_cases h192 : op = 192
  · subst h192; exact un_192 a wo ha
  by_cases h193 : op = 193
  · subst h193; exact un_193 a wo ha
  by_cases h194 : op = 194
  · subst h194; exact un_194 a wo ha
  by_cases h195 : op = 195
  · subst h195; exact un_195 a wo ha
  have hn : NotUn op := ⟨h69, h80, h103, h121, h104, h122, h105, h123, h167, h173, h172, h196, h192, h193, h194, h195⟩
  have hv : unVal op a = (0, false) := by
    unfold unVal
    rw [if_neg h69, if_neg h80, if_neg h103, if_neg h121, if_neg h104, if_neg h122, if_neg h105, if_neg h123, if_neg (by omega), if_neg (by omega), if_neg h192, if_neg h193, if_neg h194, if_neg h195]
  rw [hv]
  by_cases h : 121 ≤ op
  · exact un_none_high op a wo ha hn h
  · exact un_none_low op a wo ha hn h
end Go.Proofs.Ytdipgokbfjbgfaa.Num
namespace Go.Proofs.Ytdipgokbfjbgfaa.Num
open Go.RowKit

/-- How great a signed number is. -/
def absN (a w : Nat) : Nat := if 2 ^ (w - 1) ≤ a then minusN a w else a
/-- Quotient, rest, and the trap of each. -/
def quotN (a b w : Nat) (s : Bool) : Nat × Nat × Nat × Nat :=
  if b = 0 then (0, 0, 6, 6)
  else if s = false then (a / b, a % b, 0, 0)
  else if decide (2 ^ (w - 1) ≤ a) ≠ decide (2 ^ (w - 1) ≤ b) then
    (minusN (absN a w / absN b w) w, if 2 ^ (w - 1) ≤ a then minusN (absN a w % absN b w) w else absN a w % absN b w, 0, 0)
  else if 2 ^ (w - 1) ≤ absN a w / absN b w then (0, if 2 ^ (w - 1) ≤ a then minusN (absN a w % absN b w) w else absN a w % absN b w, 7, 0)
  else (absN a w / absN b w, if 2 ^ (w - 1) ≤ a then minusN (absN a w % absN b w) w else absN a w % absN b w, 0, 0)
def Quots (w : World) (r : Nat × Nat × Nat × Nat) : Ending → World → Prop := Quot4 w r.1 r.2.1 r.2.2.1 r.2.2.2
theorem quot_any_32 (a b : Nat) (s : Bool) (wo : World) (ha : a < 4294967296) (hb : b < 4294967296) :
    Calls Try.prog 85 #[.int .u64 (a : Int), .int .u64 (b : Int), .int .i64 32, .bool s] wo (Quots wo (quotN a b 32 s)) := by
  have ht : (2 : Nat) ^ (32 - 1) = 2147483648 := by decide
  unfold quotN absN
  rw [ht]
  by_cases hb0 : b = 0
  · subst hb0
    rw [if_pos rfl]
    exact quot_zero a 32 s wo
  rw [if_neg hb0]
  cases s with
  | false =>
    rw [if_pos rfl]
    exact quot_uns_32 a b _ _ wo (by omega) (by omega) (by omega) rfl rfl
  | true =>
    rw [if_neg (by simp)]
    by_cases hA : 2147483648 ≤ a
    · by_cases hB : 2147483648 ≤ b
      · rw [if_neg (by simp [hA, hB]), if_pos hA, if_pos hB, if_pos hA]
        by_cases hO : 2147483648 ≤ minusN a 32 / minusN b 32
        · rw [if_pos hO]
          exact quot_nno_32 a b _ _ wo ha hb (by omega) (by omega) (by omega) (by omega) rfl rfl
        · rw [if_neg hO]
          exact quot_nnf_32 a b _ _ wo ha hb (by omega) (by omega) (by omega) (by omega) rfl rfl
      · rw [if_pos (by simp [hA, hB]), if_pos hA, if_neg hB, if_pos hA]
        exact quot_np_32 a b _ _ wo ha hb (by omega) (by omega) (by omega) rfl rfl
    · by_cases hB : 2147483648 ≤ b
      · rw [if_pos (by simp [hA, hB]), if_neg hA, if_pos hB, if_neg hA]
        exact quot_pn_32 a b _ _ wo ha hb (by omega) (by omega) (by omega) rfl rfl
      · rw [if_neg (by simp [hA, hB]), if_neg hA, if_neg hB, if_neg hA]
        by_cases hO : 2147483648 ≤ a / b
        · rw [if_pos hO]
          exact quot_ppo_32 a b _ _ wo ha hb (by omega) (by omega) (by omega) (by omega) rfl rfl
        · rw [if_neg hO]
          exact quot_ppf_32 a b _ _ wo ha hb (by omega) (by omega) (by omega) (by omega) rfl rfl
theorem quot_any_64 (a b : Nat) (s : Bool) (wo : World) (ha : a < 18446744073709551616) (hb : b < 18446744073709551616) :
    Calls Try.prog 85 #[.int .u64 (a : Int), .int .u64 (b : Int), .int .i64 64, .bool s] wo (Quots wo (quotN a b 64 s)) := by
  have ht : (2 : Nat) ^ (64 - 1) = 9223372036854775808 := by decide
  unfold quotN absN
  rw [ht]
  by_cases hb0 : b = 0
  · subst hb0
    rw [if_pos rfl]
    exact quot_zero a 64 s wo
  rw [if_neg hb0]
  cases s with
  | false =>
    rw [if_pos rfl]
    exact quot_uns_64 a b _ _ wo (by omega) (by omega) (by omega) rfl rfl
  | true =>
    rw [if_neg (by simp)]
    by_cases hA : 9223372036854775808 ≤ a
    · by_cases hB : 9223372036854775808 ≤ b
      · rw [if_neg (by simp [hA, hB]), if_pos hA, if_pos hB, if_pos hA]
        by_cases hO : 9223372036854775808 ≤ minusN a 64 / minusN b 64
        · rw [if_pos hO]
          exact quot_nno_64 a b _ _ wo ha hb (by omega) (by omega) (by omega) (by omega) rfl rfl
        · rw [if_neg hO]
          exact quot_nnf_64 a b _ _ wo ha hb (by omega) (by omega) (by omega) (by omega) rfl rfl
      · rw [if_pos (by simp [hA, hB]), if_pos hA, if_neg hB, if_pos hA]
        exact quot_np_64 a b _ _ wo ha hb (by omega) (by omega) (by omega) rfl rfl
    · by_cases hB : 9223372036854775808 ≤ b
      · rw [if_pos (by simp [hA, hB]), if_neg hA, if_pos hB, if_neg hA]
        exact quot_pn_64 a b _ _ wo ha hb (by omega) (by omega) (by omega) rfl rfl
      · rw [if_neg (by simp [hA, hB]), if_neg hA, if_neg hB, if_neg hA]
        by_cases hO : 9223372036854775808 ≤ a / b
        · rw [if_pos hO]
          exact quot_ppo_64 a b _ _ wo ha hb (by omega) (by omega) (by omega) (by omega) rfl rfl
        · rw [if_neg hO]
          exact quot_ppf_64 a b _ _ wo ha hb (by omega) (by omega) (by omega) (by omega) rfl rfl
/-- What operation k of two numbers of w bits answers, and its trap. -/
def binVal (k w a b : Nat) : Nat × Nat :=
  match k with
  | 0 => ((decide (a = b)).toNat, 0)
  | 1 => ((!decide (a = b)).toNat, 0)
  | 2 => ((lessN a b w true).toNat, 0)
  | 3 => ((lessN a b w false).toNat, 0)
  | 4 => ((lessN b a w true).toNat, 0)
  | 5 => ((lessN b a w false).toNat, 0)
  | 6 => ((!lessN b a w true).toNat, 0)
  | 7 => ((!lessN b a w false).toNat, 0)
  | 8 => ((!lessN a b w true).toNat, 0)
  | 9 => ((!lessN a b w false).toNat, 0)
  | 10 => (cutN (a + b) w, 0)
  | 11 => (cutN (a + minusN b w) w, 0)
  | 12 => (cutN (a * b) w, 0)
  | 13 => ((quotN a b w true).1, (quotN a b w true).2.2.1)
  | 14 => ((quotN a b w false).1, (quotN a b w false).2.2.1)
  | 15 => ((quotN a b w true).2.1, (quotN a b w true).2.2.2)
  | 16 => ((quotN a b w false).2.1, (quotN a b w false).2.2.2)
  | 17 => (eachN a b 0, 0)
  | 18 => (eachN a b 1, 0)
  | 19 => (eachN a b 2, 0)
  | 20 => (upN a (b % w) w, 0)
  | 21 => (downN a (b % w) w (bitN a (w - 1)), 0)
  | 22 => (downN a (b % w) w 0, 0)
  | 23 => (turnN a (b % w) w, 0)
  | _ => (turnN a (w - b % w) w, 0)
def Is3 (w : World) (v t : Nat) (ok : Bool) (e : Ending) (w' : World) : Prop := e = .returned (.tuple #[.int .u64 (v : Int), .int .i64 (t : Int), .bool ok]) ∧ w = w'
theorem cut_is (a w : Nat) (h : a < 2 ^ w) : cutN a w = a := Nat.mod_eq_of_lt h
theorem cut_lt (a w : Nat) : cutN a w < 2 ^ w := Nat.mod_lt _ (Nat.pow_pos (by omega))
theorem cut_cut (n w : Nat) (h : w ≤ 64) : cutN (n % 18446744073709551616) w = cutN n w := by
  unfold cutN
  exact Nat.mod_mod_of_dvd n (Nat.pow_dvd_pow 2 (show w ≤ 64 from h))
end Go.Proofs.Ytdipgokbfjbgfaa.Num
namespace Go.Proofs.Ytdipgokbfjbgfaa.Num
open Go.RowKit

theorem ret_3 {a b : Nat} {t : Int} {c : Bool} (h : a = b) : Ending.returned (.tuple #[.int .u64 (a : Int), .int .i64 t, .bool c]) = .returned (.tuple #[.int .u64 (b : Int), .int .i64 t, .bool c]) := by rw [h]
theorem one_eq (x y : Nat) : ((x : Int) == (y : Int)).toNat = (decide (x = y)).toNat := by
  congr 1
  rw [Bool.eq_iff_iff]; simp; omega
theorem one_ne (x y : Nat) : ((x : Int) != (y : Int)).toNat = (!decide (x = y)).toNat := by
  congr 1
  rw [Bool.eq_iff_iff]; simp; omega
set_option maxRecDepth 100000 in
theorem bin_70 (a b : Nat) (wo : World) (ha : a < 18446744073709551616) (hb : b < 18446744073709551616) :
    Calls Try.prog 67 #[.int .i64 70, .int .u64 (a : Int), .int .u64 (b : Int)] wo (Is3 wo (binVal 0 32 (cutN a 32) (cutN b 32)).1 (binVal 0 32 (cutN a 32) (cutN b 32)).2 true) := by
  have HCA := Lib.hid (fun W => cut_any a 32 32 wide32 ha W)
  have HCB := Lib.hid (fun W => cut_any b 32 32 wide32 hb W)
  have hx : cutN a 32 < 4294967296 := cut_lt a 32
  have hy : cutN b 32 < 4294967296 := cut_lt b 32
  clear ha hb
  generalize cutN a 32 = x at *
  generalize cutN b 32 = y at *
  have HX := Lib.hid hx
  have HY := Lib.hid hy
  clear hx hy
  go_enter Try.func67, Try.ntmps67
  go_wp2_with fail
  refine (HCA.out _).mono ?_
  rintro e w' ⟨rfl, rfl⟩
  go_wp2_with fail
  refine (HCB.out _).mono ?_
  rintro e w' ⟨rfl, rfl⟩
  go_wp2_with fail
  refine (one_any _ _).mono ?_
  rintro e w' ⟨rfl, rfl⟩
  go_wp2
  go_ret3
  exact ⟨ret_3 (one_eq x y), rfl⟩
set_option maxRecDepth 100000 in
theorem bin_71 (a b : Nat) (wo : World) (ha : a < 18446744073709551616) (hb : b < 18446744073709551616) :
    Calls Try.prog 67 #[.int .i64 71, .int .u64 (a : Int), .int .u64 (b : Int)] wo (Is3 wo (binVal 1 32 (cutN a 32) (cutN b 32)).1 (binVal 1 32 (cutN a 32) (cutN b 32)).2 true) := by
  have HCA := Lib.hid (fun W => cut_any a 32 32 wide32 ha W)
  have HCB := Lib.hid (fun W => cut_any b 32 32 wide32 hb W)
  have hx : cutN a 32 < 4294967296 := cut_lt a 32
  have hy : cutN b 32 < 4294967296 := cut_lt b 32
  clear ha hb
  generalize cutN a 32 = x at *
  generalize cutN b 32 = y at *
  have HX := Lib.hid hx
  have HY := Lib.hid hy
  clear hx hy
  go_enter Try.func67, Try.ntmps67
  go_wp2_with fail
  refine (HCA.out _).mono ?_
  rintro e w' ⟨rfl, rfl⟩
  go_wp2_with fail
  refine (HCB.out _).mono ?_
  rintro e w' ⟨rfl, rfl⟩
  go_wp2_with fail
  refine (one_any _ _).mono ?_
  rintro e w' ⟨rfl, rfl⟩
  go_wp2
  go_ret3
  exact ⟨ret_3 (one_ne x y), rfl⟩
set_option maxRecDepth 100000 in
theorem bin_72 (a b : Nat) (wo : World) (ha : a < 18446744073709551616) (hb : b < 18446744073709551616) :
    Calls Try.prog 67 #[.int .i64 72, .int .u64 (a : Int), .int .u64 (b : Int)] wo (Is3 wo (binVal 2 32 (cutN a 32) (cutN b 32)).1 (binVal 2 32 (cutN a 32) (cutN b 32)).2 true) := by
  have HCA := Lib.hid (fun W => cut_any a 32 32 wide32 ha W)
  have HCB := Lib.hid (fun W => cut_any b 32 32 wide32 hb W)
  have hx : cutN a 32 < 4294967296 := cut_lt a 32
  have hy : cutN b 32 < 4294967296 := cut_lt b 32
  clear ha hb
  generalize cutN a 32 = x at *
  generalize cutN b 32 = y at *
  have HX := Lib.hid hx
  have HY := Lib.hid hy
  clear hx hy
  have HL := Lib.hid (fun W => less_any x y 32 32 true wide32 (by have := HX.out; have := HY.out; omega) (by have := HX.out; have := HY.out; omega) W)
  obtain ⟨L, hL⟩ : ∃ L, lessN x y 32 true = L := ⟨_, rfl⟩
  rw [hL] at HL
  have HLL := Lib.hid hL
  clear hL
  go_enter Try.func67, Try.ntmps67
  go_wp2_with fail
  refine (HCA.out _).mono ?_
  rintro e w' ⟨rfl, rfl⟩
  go_wp2_with fail
  refine (HCB.out _).mono ?_
  rintro e w' ⟨rfl, rfl⟩
  go_wp2_with fail
  refine (HL.out _).mono ?_
  rintro e w' ⟨rfl, rfl⟩
  go_wp2_with fail
  refine (one_any _ _).mono ?_
  rintro e w' ⟨rfl, rfl⟩
  go_wp2
  go_ret3
  refine ⟨ret_3 ?_, rfl⟩
  rw [← HLL.out]
  rfl
set_option maxRecDepth 100000 in
theorem bin_73 (a b : Nat) (wo : World) (ha : a < 18446744073709551616) (hb : b < 18446744073709551616) :
    Calls Try.prog 67 #[.int .i64 73, .int .u64 (a : Int), .int .u64 (b : Int)] wo (Is3 wo (binVal 3 32 (cutN a 32) (cutN b 32)).1 (binVal 3 32 (cutN a 32) (cutN b 32)).2 true) := by
  have HCA := Lib.hid (fun W => cut_any a 32 32 wide32 ha W)
  have HCB := Lib.hid (fun W => cut_any b 32 32 wide32 hb W)
  have hx : cutN a 32 < 4294967296 := cut_lt a 32
  have hy : cutN b 32 < 4294967296 := cut_lt b 32
  clear ha hb
  generalize cutN a 32 = x at *
  generalize cutN b 32 = y at *
  have HX := Lib.hid hx
  have HY := Lib.hid hy
  clear hx hy
  have HL := Lib.hid (fun W => less_any x y 32 32 false wide32 (by have := HX.out; have := HY.out; omega) (by have := HX.out; have := HY.out; omega) W)
  obtain ⟨L, hL⟩ : ∃ L, lessN x y 32 false = L := ⟨_, rfl⟩
  rw [hL] at HL
  have HLL := Lib.hid hL
  clear hL
  go_enter Try.func67, Try.ntmps67
  go_wp2_with fail
  refine (HCA.out _).mono ?_
  rintro e w' ⟨rfl, rfl⟩
  go_wp2_with fail
  refine (HCB.out _).mono ?_
  rintro e w' ⟨rfl, rfl⟩
  go_wp2_with fail
  refine (HL.out _).mono ?_
  rintro e w' ⟨rfl, rfl⟩
  go_wp2_with fail
  refine (one_any _ _).mono ?_
  rintro e w' ⟨rfl, rfl⟩
  go_wp2
  go_ret3
  refine ⟨ret_3 ?_, rfl⟩
  rw [← HLL.out]
  rfl
set_option maxRecDepth 100000 in
theorem bin_74 (a b : Nat) (wo : World) (ha : a < 18446744073709551616) (hb : b < 18446744073709551616) :
    Calls Try.prog 67 #[.int .i64 74, .int .u64 (a : Int), .int .u64 (b : Int)] wo (Is3 wo (binVal 4 32 (cutN a 32) (cutN b 32)).1 (binVal 4 32 (cutN a 32) (cutN b 32)).2 true) := by
  have HCA := Lib.hid (fun W => cut_any a 32 32 wide32 ha W)
  have HCB := Lib.hid (fun W => cut_any b 32 32 wide32 hb W)
  have hx : cutN a 32 < 4294967296 := cut_lt a 32
  have hy : cutN b 32 < 4294967296 := cut_lt b 32
  clear ha hb
  generalize cutN a 32 = x at *
  generalize cutN b 32 = y at *
  have HX := Lib.hid hx
  have HY := Lib.hid hy
  clear hx hy
  have HL := Lib.hid (fun W => less_any y x 32 32 true wide32 (by have := HX.out; have := HY.out; omega) (by have := HX.out; have := HY.out; omega) W)
  obtain ⟨L, hL⟩ : ∃ L, lessN y x 32 true = L := ⟨_, rfl⟩
  rw [hL] at HL
  have HLL := Lib.hid hL
  clear hL
  go_enter Try.func67, Try.ntmps67
  go_wp2_with fail
  refine (HCA.out _).mono ?_
  rintro e w' ⟨rfl, rfl⟩
  go_wp2_with fail
  refine (HCB.out _).mono ?_
  rintro e w' ⟨rfl, rfl⟩
  go_wp2_with fail
  refine (HL.out _).mono ?_
  rintro e w' ⟨rfl, rfl⟩
  go_wp2_with fail
  refine (one_any _ _).mono ?_
  rintro e w' ⟨rfl, rfl⟩
  go_wp2
  go_ret3
  refine ⟨ret_3 ?_, rfl⟩
  rw [← HLL.out]
  rfl
set_option maxRecDepth 100000 in
theorem bin_75 (a b : Nat) (wo : World) (ha : a < 18446744073709551616) (hb : b < 18446744073709551616) :
    Calls Try.prog 67 #[.int .i64 75, .int .u64 (a : Int), .int .u64 (b : Int)] wo (Is3 wo (binVal 5 32 (cutN a 32) (cutN b 32)).1 (binVal 5 32 (cutN a 32) (cutN b 32)).2 true) := by
  have HCA := Lib.hid (fun W => cut_any a 32 32 wide32 ha W)
  have HCB := Lib.hid (fun W => cut_any b 32 32 wide32 hb W)
  have hx : cutN a 32 < 4294967296 := cut_lt a 32
  have hy : cutN b 32 < 4294967296 := cut_lt b 32
  clear ha hb
  generalize cutN a 32 = x at *
  generalize cutN b 32 = y at *
  have HX := Lib.hid hx
  have HY := Lib.hid hy
  clear hx hy
  have HL := Lib.hid (fun W => less_any y x 32 32 false wide32 (by have := HX.out; have := HY.out; omega) (by have := HX.out; have := HY.out; omega) W)
  obtain ⟨L, hL⟩ : ∃ L, lessN y x 32 false = L := ⟨_, rfl⟩
  rw [hL] at HL
  have HLL := Lib.hid hL
  clear hL
  go_enter Try.func67, Try.ntmps67
  go_wp2_with fail
  refine (HCA.out _).mono ?_
  rintro e w' ⟨rfl, rfl⟩
  go_wp2_with fail
  refine (HCB.out _).mono ?_
  rintro e w' ⟨rfl, rfl⟩
  go_wp2_with fail
  refine (HL.out _).mono ?_
  rintro e w' ⟨rfl, rfl⟩
  go_wp2_with fail
  refine (one_any _ _).mono ?_
  rintro e w' ⟨rfl, rfl⟩
  go_wp2
  go_ret3
  refine ⟨ret_3 ?_, rfl⟩
  rw [← HLL.out]
  rfl
set_option maxRecDepth 100000 in
theorem bin_76 (a b : Nat) (wo : World) (ha : a < 18446744073709551616) (hb : b < 18446744073709551616) :
    Calls Try.prog 67 #[.int .i64 76, .int .u64 (a : Int), .int .u64 (b : Int)] wo (Is3 wo (binVal 6 32 (cutN a 32) (cutN b 32)).1 (binVal 6 32 (cutN a 32) (cutN b 32)).2 true) := by
  have HCA := Lib.hid (fun W => cut_any a 32 32 wide32 ha W)
  have HCB := Lib.hid (fun W => cut_any b 32 32 wide32 hb W)
  have hx : cutN a 32 < 4294967296 := cut_lt a 32
  have hy : cutN b 32 < 4294967296 := cut_lt b 32
  clear ha hb
  generalize cutN a 32 = x at *
  generalize cutN b 32 = y at *
  have HX := Lib.hid hx
  have HY := Lib.hid hy
  clear hx hy
  have HL := Lib.hid (fun W => less_any y x 32 32 true wide32 (by have := HX.out; have := HY.out; omega) (by have := HX.out; have := HY.out; omega) W)
  obtain ⟨L, hL⟩ : ∃ L, lessN y x 32 true = L := ⟨_, rfl⟩
  rw [hL] at HL
  have HLL := Lib.hid hL
  clear hL
  go_enter Try.func67, Try.ntmps67
  go_wp2_with fail
  refine (HCA.out _).mono ?_
  rintro e w' ⟨rfl, rfl⟩
  go_wp2_with fail
  refine (HCB.out _).mono ?_
  rintro e w' ⟨rfl, rfl⟩
  go_wp2_with fail
  refine (HL.out _).mono ?_
  rintro e w' ⟨rfl, rfl⟩
  go_wp2_with fail
  refine (one_any _ _).mono ?_
  rintro e w' ⟨rfl, rfl⟩
  go_wp2
  go_ret3
  refine ⟨ret_3 ?_, rfl⟩
  rw [← HLL.out]
  rfl
set_option maxRecDepth 100000 in
theorem bin_77 (a b : Nat) (wo : World) (ha : a < 18446744073709551616) (hb : b < 18446744073709551616) :
    Calls Try.prog 67 #[.int .i64 77, .int .u64 (a : Int), .int .u64 (b : Int)] wo (Is3 wo (binVal 7 32 (cutN a 32) (cutN b 32)).1 (binVal 7 32 (cutN a 32) (cutN b 32)).2 true) := by
  have HCA := Lib.hid (fun W => cut_any a 32 32 wide32 ha W)
  have HCB := Lib.hid (fun W => cut_any b 32 32 wide32 hb W)
  have hx : cutN a 32 < 4294967296 := cut_lt a 32
  have hy : cutN b 32 < 4294967296 := cut_lt b 32
  clear ha hb
  generalize cutN a 32 = x at *
  generalize cutN b 32 = y at *
  have HX := Lib.hid hx
  have HY := Lib.hid hy
  clear hx hy
  have HL := Lib.hid (fun W => less_any y x 32 32 false wide32 (by have := HX.out; have := HY.out; omega) (by have := HX.out; have := HY.out; omega) W)
  obtain ⟨L, hL⟩ : ∃ L, lessN y x 32 false = L := ⟨_, rfl⟩
  rw [hL] at HL
  have HLL := Lib.hid hL
  clear hL
  go_enter Try.func67, Try.ntmps67
  go_wp2_with fail
  refine (HCA.out _).mono ?_
  rintro e w' ⟨rfl, rfl⟩
  go_wp2_with fail
  refine (HCB.out _).mono ?_
  rintro e w' ⟨rfl, rfl⟩
  go_wp2_with fail
  refine (HL.out _).mono ?_
  rintro e w' ⟨rfl, rfl⟩
  go_wp2_with fail
  refine (one_any _ _).mono ?_
  rintro e w' ⟨rfl, rfl⟩
  go_wp2
  go_ret3
  refine ⟨ret_3 ?_, rfl⟩
  rw [← HLL.out]
  rfl
set_option maxRecDepth 100000 in
theorem bin_78 (a b : Nat) (wo : World) (ha : a < 18446744073709551616) (hb : b < 18446744073709551616) :
    Calls Try.prog 67 #[.int .i64 78, .int .u64 (a : Int), .int .u64 (b : Int)] wo (Is3 wo (binVal 8 32 (cutN a 32) (cutN b 32)).1 (binVal 8 32 (cutN a 32) (cutN b 32)).2 true) := by
  have HCA := Lib.hid (fun W => cut_any a 32 32 wide32 ha W)
  have HCB := Lib.hid (fun W => cut_any b 32 32 wide32 hb W)
  have hx : cutN a 32 < 4294967296 := cut_lt a 32
  have hy : cutN b 32 < 4294967296 := cut_lt b 32
  clear ha hb
  generalize cutN a 32 = x at *
  generalize cutN b 32 = y at *
  have HX := Lib.hid hx
  have HY := Lib.hid hy
  clear hx hy
  have HL := Lib.hid (fun W => less_any x y 32 32 true wide32 (by have := HX.out; have := HY.out; omega) (by have := HX.out; have := HY.out; omega) W)
  obtain ⟨L, hL⟩ : ∃ L, lessN x y 32 true = L := ⟨_, rfl⟩
  rw [hL] at HL
  have HLL := Lib.hid hL
  clear hL
  go_enter Try.func67, Try.ntmps67
  go_wp2_with fail
  refine (HCA.out _).mono ?_
  rintro e w' ⟨rfl, rfl⟩
  go_wp2_with fail
  refine (HCB.out _).mono ?_
  rintro e w' ⟨rfl, rfl⟩
  go_wp2_with fail
  refine (HL.out _).mono ?_
  rintro e w' ⟨rfl, rfl⟩
  go_wp2_with fail
  refine (one_any _ _).mono ?_
  rintro e w' ⟨rfl, rfl⟩
  go_wp2
  go_ret3
  refine ⟨ret_3 ?_, rfl⟩
  rw [← HLL.out]
  rfl
set_option maxRecDepth 100000 in
theorem bin_79 (a b : Nat) (wo : World) (ha : a < 18446744073709551616) (hb : b < 18446744073709551616) :
    Calls Try.prog 67 #[.int .i64 79, .int .u64 (a : Int), .int .u64 (b : Int)] wo (Is3 wo (binVal 9 32 (cutN a 32) (cutN b 32)).1 (binVal 9 32 (cutN a 32) (cutN b 32)).2 true) := by
  have HCA := Lib.hid (fun W => cut_any a 32 32 wide32 ha W)
  have HCB := Lib.hid (fun W => cut_any b 32 32 wide32 hb W)
  have hx : cutN a 32 < 4294967296 := cut_lt a 32
  have hy : cutN b 32 < 4294967296 := cut_lt b 32
  clear ha hb
  generalize cutN a 32 = x at *
  generalize cutN b 32 = y at *
  have HX := Lib.hid hx
  have HY := Lib.hid hy
  clear hx hy
  have HL := Lib.hid (fun W => less_any x y 32 32 false wide32 (by have := HX.out; have := HY.out; omega) (by have := HX.out; have := HY.out; omega) W)
  obtain ⟨L, hL⟩ : ∃ L, lessN x y 32 false = L := ⟨_, rfl⟩
  rw [hL] at HL
  have HLL := Lib.hid hL
  clear hL
  go_enter Try.func67, Try.ntmps67
  go_wp2_with fail
  refine (HCA.out _).mono ?_
  rintro e w' ⟨rfl, rfl⟩
  go_wp2_with fail
  refine (HCB.out _).mono ?_
  rintro e w' ⟨rfl, rfl⟩
  go_wp2_with fail
  refine (HL.out _).mono ?_
  rintro e w' ⟨rfl, rfl⟩
  go_wp2_with fail
  refine (one_any _ _).mono ?_
  rintro e w' ⟨rfl, rfl⟩
  go_wp2
  go_ret3
  refine ⟨ret_3 ?_, rfl⟩
  rw [← HLL.out]
  rfl
set_option maxRecDepth 100000 in
theorem bin_81 (a b : Nat) (wo : World) (ha : a < 18446744073709551616) (hb : b < 18446744073709551616) :
    Calls Try.prog 67 #[.int .i64 81, .int .u64 (a : Int), .int .u64 (b : Int)] wo (Is3 wo (binVal 0 64 (cutN a 64) (cutN b 64)).1 (binVal 0 64 (cutN a 64) (cutN b 64)).2 true) := by
  have HCA := Lib.hid (fun W => cut_any a 64 64 wide64 ha W)
  have HCB := Lib.hid (fun W => cut_any b 64 64 wide64 hb W)
  have hx : cutN a 64 < 18446744073709551616 := cut_lt a 64
  have hy : cutN b 64 < 18446744073709551616 := cut_lt b 64
  clear ha hb
  generalize cutN a 64 = x at *
  generalize cutN b 64 = y at *
  have HX := Lib.hid hx
  have HY := Lib.hid hy
  clear hx hy
  go_enter Try.func67, Try.ntmps67
  go_wp2_with fail
  refine (HCA.out _).mono ?_
  rintro e w' ⟨rfl, rfl⟩
  go_wp2_with fail
  refine (HCB.out _).mono ?_
  rintro e w' ⟨rfl, rfl⟩
  go_wp2_with fail
  refine (one_any _ _).mono ?_
  rintro e w' ⟨rfl, rfl⟩
  go_wp2
  go_ret3
  exact ⟨ret_3 (one_eq x y), rfl⟩
set_option maxRecDepth 100000 in
theorem bin_82 (a b : Nat) (wo : World) (ha : a < 18446744073709551616) (hb : b < 18446744073709551616) :
    Calls Try.prog 67 #[.int .i64 82, .int .u64 (a : Int), .int .u64 (b : Int)] wo (Is3 wo (binVal 1 64 (cutN a 64) (cutN b 64)).1 (binVal 1 64 (cutN a 64) (cutN b 64)).2 true) := by
  have HCA := Lib.hid (fun W => cut_any a 64 64 wide64 ha W)
  have HCB := Lib.hid (fun W => cut_any b 64 64 wide64 hb W)
  have hx : cutN a 64 < 18446744073709551616 := cut_lt a 64
  have hy : cutN b 64 < 18446744073709551616 := cut_lt b 64
  clear ha hb
  generalize cutN a 64 = x at *
  generalize cutN b 64 = y at *
  have HX := Lib.hid hx
  have HY := Lib.hid hy
  clear hx hy
  go_enter Try.func67, Try.ntmps67
  go_wp2_with fail
  refine (HCA.out _).mono ?_
  rintro e w' ⟨rfl, rfl⟩
  go_wp2_with fail
  refine (HCB.out _).mono ?_
  rintro e w' ⟨rfl, rfl⟩
  go_wp2_with fail
  refine (one_any _ _).mono ?_
  rintro e w' ⟨rfl, rfl⟩
  go_wp2
  go_ret3
  exact ⟨ret_3 (one_ne x y), rfl⟩
set_option maxRecDepth 100000 in
theorem bin_83 (a b : Nat) (wo : World) (ha : a < 18446744073709551616) (hb : b < 18446744073709551616) :
    Calls Try.prog 67 #[.int .i64 83, .int .u64 (a : Int), .int .u64 (b : Int)] wo (Is3 wo (binVal 2 64 (cutN a 64) (cutN b 64)).1 (binVal 2 64 (cutN a 64) (cutN b 64)).2 true) := by
  have HCA := Lib.hid (fun W => cut_any a 64 64 wide64 ha W)
  have HCB := Lib.hid (fun W => cut_any b 64 64 wide64 hb W)
  have hx : cutN a 64 < 18446744073709551616 := cut_lt a 64
  have hy : cutN b 64 < 18446744073709551616 := cut_lt b 64
  clear ha hb
  generalize cutN a 64 = x at *
  generalize cutN b 64 = y at *
  have HX := Lib.hid hx
  have HY := Lib.hid hy
  clear hx hy
  have HL := Lib.hid (fun W => less_any x y 64 64 true wide64 (by have := HX.out; have := HY.out; omega) (by have := HX.out; have := HY.out; omega) W)
  obtain ⟨L, hL⟩ : ∃ L, lessN x y 64 true = L := ⟨_, rfl⟩
  rw [hL] at HL
  have HLL := Lib.hid hL
  clear hL
  go_enter Try.func67, Try.ntmps67
  go_wp2_with fail
  refine (HCA.out _).mono ?_
  rintro e w' ⟨rfl, rfl⟩
  go_wp2_with fail
  refine (HCB.out _).mono ?_
  rintro e w' ⟨rfl, rfl⟩
  go_wp2_with fail
  refine (HL.out _).mono ?_
  rintro e w' ⟨rfl, rfl⟩
  go_wp2_with fail
  refine (one_any _ _).mono ?_
  rintro e w' ⟨rfl, rfl⟩
  go_wp2
  go_ret3
  refine ⟨ret_3 ?_, rfl⟩
  rw [← HLL.out]
  rfl
set_option maxRecDepth 100000 in
theorem bin_84 (a b : Nat) (wo : World) (ha : a < 18446744073709551616) (hb : b < 18446744073709551616) :
    Calls Try.prog 67 #[.int .i64 84, .int .u64 (a : Int), .int .u64 (b : Int)] wo (Is3 wo (binVal 3 64 (cutN a 64) (cutN b 64)).1 (binVal 3 64 (cutN a 64) (cutN b 64)).2 true) := by
  have HCA := Lib.hid (fun W => cut_any a 64 64 wide64 ha W)
  have HCB := Lib.hid (fun W => cut_any b 64 64 wide64 hb W)
  have hx : cutN a 64 < 18446744073709551616 := cut_lt a 64
  have hy : cutN b 64 < 18446744073709551616 := cut_lt b 64
  clear ha hb
  generalize cutN a 64 = x at *
  generalize cutN b 64 = y at *
  have HX := Lib.hid hx
  have HY := Lib.hid hy
  clear hx hy
  have HL := Lib.hid (fun W => less_any x y 64 64 false wide64 (by have := HX.out; have := HY.out; omega) (by have := HX.out; have := HY.out; omega) W)
  obtain ⟨L, hL⟩ : ∃ L, lessN x y 64 false = L := ⟨_, rfl⟩
  rw [hL] at HL
  have HLL := Lib.hid hL
  clear hL
  go_enter Try.func67, Try.ntmps67
  go_wp2_with fail
  refine (HCA.out _).mono ?_
  rintro e w' ⟨rfl, rfl⟩
  go_wp2_with fail
  refine (HCB.out _).mono ?_
  rintro e w' ⟨rfl, rfl⟩
  go_wp2_with fail
  refine (HL.out _).mono ?_
  rintro e w' ⟨rfl, rfl⟩
  go_wp2_with fail
  refine (one_any _ _).mono ?_
  rintro e w' ⟨rfl, rfl⟩
  go_wp2
  go_ret3
  refine ⟨ret_3 ?_, rfl⟩
  rw [← HLL.out]
  rfl
set_option maxRecDepth 100000 in
theorem bin_85 (a b : Nat) (wo : World) (ha : a < 18446744073709551616) (hb : b < 18446744073709551616) :
    Calls Try.prog 67 #[.int .i64 85, .int .u64 (a : Int), .int .u64 (b : Int)] wo (Is3 wo (binVal 4 64 (cutN a 64) (cutN b 64)).1 (binVal 4 64 (cutN a 64) (cutN b 64)).2 true) := by
  have HCA := Lib.hid (fun W => cut_any a 64 64 wide64 ha W)
  have HCB := Lib.hid (fun W => cut_any b 64 64 wide64 hb W)
  have hx : cutN a 64 < 18446744073709551616 := cut_lt a 64
  have hy : cutN b 64 < 18446744073709551616 := cut_lt b 64
  clear ha hb
  generalize cutN a 64 = x at *
  generalize cutN b 64 = y at *
  have HX := Lib.hid hx
  have HY := Lib.hid hy
  clear hx hy
  have HL := Lib.hid (fun W => less_any y x 64 64 true wide64 (by have := HX.out; have := HY.out; omega) (by have := HX.out; have := HY.out; omega) W)
  obtain ⟨L, hL⟩ : ∃ L, lessN y x 64 true = L := ⟨_, rfl⟩
  rw [hL] at HL
  have HLL := Lib.hid hL
  clear hL
  go_enter Try.func67, Try.ntmps67
  go_wp2_with fail
  refine (HCA.out _).mono ?_
  rintro e w' ⟨rfl, rfl⟩
  go_wp2_with fail
  refine (HCB.out _).mono ?_
  rintro e w' ⟨rfl, rfl⟩
  go_wp2_with fail
  refine (HL.out _).mono ?_
  rintro e w' ⟨rfl, rfl⟩
  go_wp2_with fail
  refine (one_any _ _).mono ?_
  rintro e w' ⟨rfl, rfl⟩
  go_wp2
  go_ret3
  refine ⟨ret_3 ?_, rfl⟩
  rw [← HLL.out]
  rfl
set_option maxRecDepth 100000 in
theorem bin_86 (a b : Nat) (wo : World) (ha : a < 18446744073709551616) (hb : b < 18446744073709551616) :
    Calls Try.prog 67 #[.int .i64 86, .int .u64 (a : Int), .int .u64 (b : Int)] wo (Is3 wo (binVal 5 64 (cutN a 64) (cutN b 64)).1 (binVal 5 64 (cutN a 64) (cutN b 64)).2 true) := by
  have HCA := Lib.hid (fun W => cut_any a 64 64 wide64 ha W)
  have HCB := Lib.hid (fun W => cut_any b 64 64 wide64 hb W)
  have hx : cutN a 64 < 18446744073709551616 := cut_lt a 64
  have hy : cutN b 64 < 18446744073709551616 := cut_lt b 64
  clear ha hb
  generalize cutN a 64 = x at *
  generalize cutN b 64 = y at *
  have HX := Lib.hid hx
  have HY := Lib.hid hy
  clear hx hy
  have HL := Lib.hid (fun W => less_any y x 64 64 false wide64 (by have := HX.out; have := HY.out; omega) (by have := HX.out; have := HY.out; omega) W)
  obtain ⟨L, hL⟩ : ∃ L, lessN y x 64 false = L := ⟨_, rfl⟩
  rw [hL] at HL
  have HLL := Lib.hid hL
  clear hL
  go_enter Try.func67, Try.ntmps67
  go_wp2_with fail
  refine (HCA.out _).mono ?_
  rintro e w' ⟨rfl, rfl⟩
  go_wp2_with fail
  refine (HCB.out _).mono ?_
  rintro e w' ⟨rfl, rfl⟩
  go_wp2_with fail
  refine (HL.out _).mono ?_
  rintro e w' ⟨rfl, rfl⟩
  go_wp2_with fail
  refine (one_any _ _).mono ?_
  rintro e w' ⟨rfl, rfl⟩
  go_wp2
  go_ret3
  refine ⟨ret_3 ?_, rfl⟩
  rw [← HLL.out]
  rfl
set_option maxRecDepth 100000 in
theorem bin_87 (a b : Nat) (wo : World) (ha : a < 18446744073709551616) (hb : b < 18446744073709551616) :
    Calls Try.prog 67 #[.int .i64 87, .int .u64 (a : Int), .int .u64 (b : Int)] wo (Is3 wo (binVal 6 64 (cutN a 64) (cutN b 64)).1 (binVal 6 64 (cutN a 64) (cutN b 64)).2 true) := by
  have HCA := Lib.hid (fun W => cut_any a 64 64 wide64 ha W)
  have HCB := Lib.hid (fun W => cut_any b 64 64 wide64 hb W)
  have hx : cutN a 64 < 18446744073709551616 := cut_lt a 64
  have hy : cutN b 64 < 18446744073709551616 := cut_lt b 64
  clear ha hb
  generalize cutN a 64 = x at *
  generalize cutN b 64 = y at *
  have HX := Lib.hid hx
  have HY := Lib.hid hy
  clear hx hy
  have HL := Lib.hid (fun W => less_any y x 64 64 true wide64 (by have := HX.out; have := HY.out; omega) (by have := HX.out; have := HY.out; omega) W)
  obtain ⟨L, hL⟩ : ∃ L, lessN y x 64 true = L := ⟨_, rfl⟩
  rw [hL] at HL
  have HLL := Lib.hid hL
  clear hL
  go_enter Try.func67, Try.ntmps67
  go_wp2_with fail
  refine (HCA.out _).mono ?_
  rintro e w' ⟨rfl, rfl⟩
  go_wp2_with fail
  refine (HCB.out _).mono ?_
  rintro e w' ⟨rfl, rfl⟩
  go_wp2_with fail
  refine (HL.out _).mono ?_
  rintro e w' ⟨rfl, rfl⟩
  go_wp2_with fail
  refine (one_any _ _).mono ?_
  rintro e w' ⟨rfl, rfl⟩
  go_wp2
  go_ret3
  refine ⟨ret_3 ?_, rfl⟩
  rw [← HLL.out]
  rfl
set_option maxRecDepth 100000 in
theorem bin_88 (a b : Nat) (wo : World) (ha : a < 18446744073709551616) (hb : b < 18446744073709551616) :
    Calls Try.prog 67 #[.int .i64 88, .int .u64 (a : Int), .int .u64 (b : Int)] wo (Is3 wo (binVal 7 64 (cutN a 64) (cutN b 64)).1 (binVal 7 64 (cutN a 64) (cutN b 64)).2 true) := by
  have HCA := Lib.hid (fun W => cut_any a 64 64 wide64 ha W)
  have HCB := Lib.hid (fun W => cut_any b 64 64 wide64 hb W)
  have hx : cutN a 64 < 18446744073709551616 := cut_lt a 64
  have hy : cutN b 64 < 18446744073709551616 := cut_lt b 64
  clear ha hb
  generalize cutN a 64 = x at *
  generalize cutN b 64 = y at *
  have HX := Lib.hid hx
  have HY := Lib.hid hy
  clear hx hy
  have HL := Lib.hid (fun W => less_any y x 64 64 false wide64 (by have := HX.out; have := HY.out; omega) (by have := HX.out; have := HY.out; omega) W)
  obtain ⟨L, hL⟩ : ∃ L, lessN y x 64 false = L := ⟨_, rfl⟩
  rw [hL] at HL
  have HLL := Lib.hid hL
  clear hL
  go_enter Try.func67, Try.ntmps67
  go_wp2_with fail
  refine (HCA.out _).mono ?_
  rintro e w' ⟨rfl, rfl⟩
  go_wp2_with fail
  refine (HCB.out _).mono ?_
  rintro e w' ⟨rfl, rfl⟩
  go_wp2_with fail
  refine (HL.out _).mono ?_
  rintro e w' ⟨rfl, rfl⟩
  go_wp2_with fail
  refine (one_any _ _).mono ?_
  rintro e w' ⟨rfl, rfl⟩
  go_wp2
  go_ret3
  refine ⟨ret_3 ?_, rfl⟩
  rw [← HLL.out]
  rfl
set_option maxRecDepth 100000 in
theorem bin_89 (a b : Nat) (wo : World) (ha : a < 18446744073709551616) (hb : b < 18446744073709551616) :
    Calls Try.prog 67 #[.int .i64 89, .int .u64 (a : Int), .int .u64 (b : Int)] wo (Is3 wo (binVal 8 64 (cutN a 64) (cutN b 64)).1 (binVal 8 64 (cutN a 64) (cutN b 64)).2 true) := by
  have HCA := Lib.hid (fun W => cut_any a 64 64 wide64 ha W)
  have HCB := Lib.hid (fun W => cut_any b 64 64 wide64 hb W)
  have hx : cutN a 64 < 18446744073709551616 := cut_lt a 64
  have hy : cutN b 64 < 18446744073709551616 := cut_lt b 64
  clear ha hb
  generalize cutN a 64 = x at *
  generalize cutN b 64 = y at *
  have HX := Lib.hid hx
  have HY := Lib.hid hy
  clear hx hy
  have HL := Lib.hid (fun W => less_any x y 64 64 true wide64 (by have := HX.out; have := HY.out; omega) (by have := HX.out; have := HY.out; omega) W)
  obtain ⟨L, hL⟩ : ∃ L, lessN x y 64 true = L := ⟨_, rfl⟩
  rw [hL] at HL
  have HLL := Lib.hid hL
  clear hL
  go_enter Try.func67, Try.ntmps67
  go_wp2_with fail
  refine (HCA.out _).mono ?_
  rintro e w' ⟨rfl, rfl⟩
  go_wp2_with fail
  refine (HCB.out _).mono ?_
  rintro e w' ⟨rfl, rfl⟩
  go_wp2_with fail
  refine (HL.out _).mono ?_
  rintro e w' ⟨rfl, rfl⟩
  go_wp2_with fail
  refine (one_any _ _).mono ?_
  rintro e w' ⟨rfl, rfl⟩
  go_wp2
  go_ret3
  refine ⟨ret_3 ?_, rfl⟩
  rw [← HLL.out]
  rfl
set_option maxRecDepth 100000 in
theorem bin_90 (a b : Nat) (wo : World) (ha : a < 18446744073709551616) (hb : b < 18446744073709551616) :
    Calls Try.prog 67 #[.int .i64 90, .int .u64 (a : Int), .int .u64 (b : Int)] wo (Is3 wo (binVal 9 64 (cutN a 64) (cutN b 64)).1 (binVal 9 64 (cutN a 64) (cutN b 64)).2 true) := by
  have HCA := Lib.hid (fun W => cut_any a 64 64 wide64 ha W)
  have HCB := Lib.hid (fun W => cut_any b 64 64 wide64 hb W)
  have hx : cutN a 64 < 18446744073709551616 := cut_lt a 64
  have hy : cutN b 64 < 18446744073709551616 := cut_lt b 64
  clear ha hb
  generalize cutN a 64 = x at *
  generalize cutN b 64 = y at *
  have HX := Lib.hid hx
  have HY := Lib.hid hy
  clear hx hy
  have HL := Lib.hid (fun W => less_any x y 64 64 false wide64 (by have := HX.out; have := HY.out; omega) (by have := HX.out; have := HY.out; omega) W)
  obtain ⟨L, hL⟩ : ∃ L, lessN x y 64 false = L := ⟨_, rfl⟩
  rw [hL] at HL
  have HLL := Lib.hid hL
  clear hL
  go_enter Try.func67, Try.ntmps67
  go_wp2_with fail
  refine (HCA.out _).mono ?_
  rintro e w' ⟨rfl, rfl⟩
  go_wp2_with fail
  refine (HCB.out _).mono ?_
  rintro e w' ⟨rfl, rfl⟩
  go_wp2_with fail
  refine (HL.out _).mono ?_
  rintro e w' ⟨rfl, rfl⟩
  go_wp2_with fail
  refine (one_any _ _).mono ?_
  rintro e w' ⟨rfl, rfl⟩
  go_wp2
  go_ret3
  refine ⟨ret_3 ?_, rfl⟩
  rw [← HLL.out]
  rfl
end Go.Proofs.Ytdipgokbfjbgfaa.Num
namespace Go.Proofs.Ytdipgokbfjbgfaa.Num
open Go.RowKit

theorem mod_step (y j : Nat) : y % 2 ^ (j + 1) = y % 2 ^ j + bitN y j * 2 ^ j := by
  unfold bitN
  rw [Nat.pow_succ, Nat.mod_mul, Nat.mul_comm (2 ^ j)]
theorem mul_step (x y j X : Nat) (hX : X = (x * (y % 2 ^ j)) % 18446744073709551616) (hb : bitN y j = 1) :
    IntKind.u64.wrap ((X : Int) + IntKind.u64.wrap ((x : Int) * 2 ^ j)) = (((x * (y % 2 ^ (j + 1))) % 18446744073709551616 : Nat) : Int) := by
  have e : (x : Int) * 2 ^ j = ((x * 2 ^ j : Nat) : Int) := by simp
  rw [mod_step, hb, Nat.one_mul, Nat.mul_add, IntKind.wrap_u64, IntKind.wrap_u64, e, hX]
  generalize x * (y % 2 ^ j) = A
  generalize x * 2 ^ j = B
  omega
set_option maxRecDepth 100000 in
theorem bin_106 (a b : Nat) (wo : World) (ha : a < 18446744073709551616) (hb : b < 18446744073709551616) :
    Calls Try.prog 67 #[.int .i64 106, .int .u64 (a : Int), .int .u64 (b : Int)] wo (Is3 wo (binVal 10 32 (cutN a 32) (cutN b 32)).1 (binVal 10 32 (cutN a 32) (cutN b 32)).2 true) := by
  have HCA := Lib.hid (fun W => cut_any a 32 32 wide32 ha W)
  have HCB := Lib.hid (fun W => cut_any b 32 32 wide32 hb W)
  have hx : cutN a 32 < 4294967296 := cut_lt a 32
  have hy : cutN b 32 < 4294967296 := cut_lt b 32
  clear ha hb
  generalize cutN a 32 = x at *
  generalize cutN b 32 = y at *
  have HX := Lib.hid hx
  have HY := Lib.hid hy
  clear hx hy
  go_enter Try.func67, Try.ntmps67
  go_wp2_with fail
  refine (HCA.out _).mono ?_
  rintro e w' ⟨rfl, rfl⟩
  go_wp2_with fail
  refine (HCB.out _).mono ?_
  rintro e w' ⟨rfl, rfl⟩
  go_wp2_with fail
  rw [show IntKind.u64.wrap ((x : Int) + (y : Int)) = (((x + y) % 18446744073709551616 : Nat) : Int) from by rw [IntKind.wrap_u64]; omega]
  refine (cut_any _ 32 32 wide32 (by omega) _).mono ?_
  rintro e w' ⟨rfl, rfl⟩
  go_wp2
  go_ret3
  exact ⟨ret_3 (cut_cut _ 32 (by omega)), rfl⟩
set_option maxRecDepth 100000 in
theorem bin_107 (a b : Nat) (wo : World) (ha : a < 18446744073709551616) (hb : b < 18446744073709551616) :
    Calls Try.prog 67 #[.int .i64 107, .int .u64 (a : Int), .int .u64 (b : Int)] wo (Is3 wo (binVal 11 32 (cutN a 32) (cutN b 32)).1 (binVal 11 32 (cutN a 32) (cutN b 32)).2 true) := by
  have HCA := Lib.hid (fun W => cut_any a 32 32 wide32 ha W)
  have HCB := Lib.hid (fun W => cut_any b 32 32 wide32 hb W)
  have hx : cutN a 32 < 4294967296 := cut_lt a 32
  have hy : cutN b 32 < 4294967296 := cut_lt b 32
  clear ha hb
  generalize cutN a 32 = x at *
  generalize cutN b 32 = y at *
  have HX := Lib.hid hx
  have HY := Lib.hid hy
  clear hx hy
  have HM := Lib.hid (fun W => minus_any y 32 32 wide32 (by have := HY.out; omega) W)
  obtain ⟨m, hm⟩ : ∃ m, minusN y 32 = m := ⟨_, rfl⟩
  rw [hm] at HM
  have HMM := Lib.hid hm
  clear hm
  go_enter Try.func67, Try.ntmps67
  go_wp2_with fail
  refine (HCA.out _).mono ?_
  rintro e w' ⟨rfl, rfl⟩
  go_wp2_with fail
  refine (HCB.out _).mono ?_
  rintro e w' ⟨rfl, rfl⟩
  go_wp2_with fail
  refine (HM.out _).mono ?_
  rintro e w' ⟨rfl, rfl⟩
  go_wp2_with fail
  rw [show IntKind.u64.wrap ((x : Int) + (m : Int)) = (((x + m) % 18446744073709551616 : Nat) : Int) from by rw [IntKind.wrap_u64]; omega]
  refine (cut_any _ 32 32 wide32 (by omega) _).mono ?_
  rintro e w' ⟨rfl, rfl⟩
  go_wp2
  go_ret3
  exact ⟨ret_3 (by rw [cut_cut _ 32 (by omega), ← HMM.out]; rfl), rfl⟩
set_option maxRecDepth 100000 in
theorem bin_124 (a b : Nat) (wo : World) (ha : a < 18446744073709551616) (hb : b < 18446744073709551616) :
    Calls Try.prog 67 #[.int .i64 124, .int .u64 (a : Int), .int .u64 (b : Int)] wo (Is3 wo (binVal 10 64 (cutN a 64) (cutN b 64)).1 (binVal 10 64 (cutN a 64) (cutN b 64)).2 true) := by
  have HCA := Lib.hid (fun W => cut_any a 64 64 wide64 ha W)
  have HCB := Lib.hid (fun W => cut_any b 64 64 wide64 hb W)
  have hx : cutN a 64 < 18446744073709551616 := cut_lt a 64
  have hy : cutN b 64 < 18446744073709551616 := cut_lt b 64
  clear ha hb
  generalize cutN a 64 = x at *
  generalize cutN b 64 = y at *
  have HX := Lib.hid hx
  have HY := Lib.hid hy
  clear hx hy
  go_enter Try.func67, Try.ntmps67
  go_wp2_with fail
  refine (HCA.out _).mono ?_
  rintro e w' ⟨rfl, rfl⟩
  go_wp2_with fail
  refine (HCB.out _).mono ?_
  rintro e w' ⟨rfl, rfl⟩
  go_wp2_with fail
  rw [show IntKind.u64.wrap ((x : Int) + (y : Int)) = (((x + y) % 18446744073709551616 : Nat) : Int) from by rw [IntKind.wrap_u64]; omega]
  refine (cut_any _ 64 64 wide64 (by omega) _).mono ?_
  rintro e w' ⟨rfl, rfl⟩
  go_wp2
  go_ret3
  exact ⟨ret_3 (cut_cut _ 64 (by omega)), rfl⟩
set_option maxRecDepth 100000 in
theorem bin_125 (a b : Nat) (wo : World) (ha : a < 18446744073709551616) (hb : b < 18446744073709551616) :
    Calls Try.prog 67 #[.int .i64 125, .int .u64 (a : Int), .int .u64 (b : Int)] wo (Is3 wo (binVal 11 64 (cutN a 64) (cutN b 64)).1 (binVal 11 64 (cutN a 64) (cutN b 64)).2 true) := by
  have HCA := Lib.hid (fun W => cut_any a 64 64 wide64 ha W)
  have HCB := Lib.hid (fun W => cut_any b 64 64 wide64 hb W)
  have hx : cutN a 64 < 18446744073709551616 := cut_lt a 64
  have hy : cutN b 64 < 18446744073709551616 := cut_lt b 64
  clear ha hb
  generalize cutN a 64 = x at *
  generalize cutN b 64 = y at *
  have HX := Lib.hid hx
  have HY := Lib.hid hy
  clear hx hy
  have HM := Lib.hid (fun W => minus_any y 64 64 wide64 (by have := HY.out; omega) W)
  obtain ⟨m, hm⟩ : ∃ m, minusN y 64 = m := ⟨_, rfl⟩
  rw [hm] at HM
  have HMM := Lib.hid hm
  clear hm
  go_enter Try.func67, Try.ntmps67
  go_wp2_with fail
  refine (HCA.out _).mono ?_
  rintro e w' ⟨rfl, rfl⟩
  go_wp2_with fail
  refine (HCB.out _).mono ?_
  rintro e w' ⟨rfl, rfl⟩
  go_wp2_with fail
  refine (HM.out _).mono ?_
  rintro e w' ⟨rfl, rfl⟩
  go_wp2_with fail
  rw [show IntKind.u64.wrap ((x : Int) + (m : Int)) = (((x + m) % 18446744073709551616 : Nat) : Int) from by rw [IntKind.wrap_u64]; omega]
  refine (cut_any _ 64 64 wide64 (by omega) _).mono ?_
  rintro e w' ⟨rfl, rfl⟩
  go_wp2
  go_ret3
  exact ⟨ret_3 (by rw [cut_cut _ 64 (by omega), ← HMM.out]; rfl), rfl⟩
set_option maxRecDepth 100000 in
theorem bin_108 (a b : Nat) (wo : World) (ha : a < 18446744073709551616) (hb : b < 18446744073709551616) :
    Calls Try.prog 67 #[.int .i64 108, .int .u64 (a : Int), .int .u64 (b : Int)] wo (Is3 wo (binVal 12 32 (cutN a 32) (cutN b 32)).1 (binVal 12 32 (cutN a 32) (cutN b 32)).2 true) := by
  have HCA := Lib.hid (fun W => cut_any a 32 32 wide32 ha W)
  have HCB := Lib.hid (fun W => cut_any b 32 32 wide32 hb W)
  have hx : cutN a 32 < 4294967296 := cut_lt a 32
  have hy : cutN b 32 < 4294967296 := cut_lt b 32
  clear ha hb
  generalize cutN a 32 = x at *
  generalize cutN b 32 = y at *
  have HX := Lib.hid hx
  have HY := Lib.hid hy
  clear hx hy
  go_enter Try.func67, Try.ntmps67
  go_wp2_with fail
  refine (HCA.out _).mono ?_
  rintro e w' ⟨rfl, rfl⟩
  go_wp2_with fail
  refine (HCB.out _).mono ?_
  rintro e w' ⟨rfl, rfl⟩
  go_wp2
  go_loop [12, 13] (fun n i => ∃ (j X : Nat), j ≤ 32 ∧ i = .int .i64 (j : Int) ∧ n = .int .u64 (X : Int) ∧ Hid (X = (x * (y % 2 ^ j)) % 18446744073709551616)) (fun _ i => 32 - (intOf i).toNat)
  case atStart => exact ⟨0, 0, by omega, rfl, rfl, Lib.hid (by rw [Nat.pow_zero, Nat.mod_one, Nat.mul_zero])⟩
  case round =>
    obtain ⟨j, X, hj, rfl, rfl, hD⟩ := hrel
    by_cases hlt : j < 32
    · have hlti : (j : Int) < 32 := by omega
      have HB := Lib.hid (fun W => bit_any y j W (by omega))
      have hB1 := bitN_le y j
      by_cases hbit : bitN y j = 1
      · have hbz : ((bitN y j : Int) == 1) = true := by simp [hbit]
        have HN := Lib.hid (mul_step x y j X hD.out hbit)
        clear hD hbit
        generalize bitN y j = b at *
        go_wp2_with fail
        refine (HB.out _).mono ?_
        rintro e w' ⟨rfl, rfl⟩
        go_wp2
        go_round
        case rel => exact ⟨j + 1, _, by omega, by go_num, int_u64 HN.out, Lib.hid rfl⟩
        case measure => simp [intOf]; omega
      · have hbz : ((bitN y j : Int) == 1) = false := by simp; omega
        have HN : Hid (X = (x * (y % 2 ^ (j + 1))) % 18446744073709551616) := Lib.hid (by rw [hD.out, mod_step y j, show bitN y j = 0 from by omega, Nat.zero_mul, Nat.add_zero])
        clear hD hbit
        generalize bitN y j = b at *
        go_wp2_with fail
        refine (HB.out _).mono ?_
        rintro e w' ⟨rfl, rfl⟩
        go_wp2
        go_round
        case rel => exact ⟨j + 1, X, by omega, by go_num, rfl, HN⟩
        case measure => simp [intOf]; omega
    · have hlti : ¬ (j : Int) < 32 := by omega
      have HX2 : Hid (X < 18446744073709551616) := Lib.hid (by rw [hD.out]; omega)
      have HE : Hid (cutN X 32 = (binVal 12 32 x y).1) := Lib.hid (by
        rw [hD.out, show j = 32 from by omega, Nat.mod_eq_of_lt HY.out, cut_cut _ 32 (by omega)]
        rfl)
      clear hD
      go_wp2_with fail
      refine (cut_any X 32 32 wide32 HX2.out _).mono ?_
      rintro e w' ⟨rfl, rfl⟩
      go_wp2
      go_ret3
      exact ⟨ret_3 HE.out, rfl⟩
set_option maxRecDepth 100000 in
theorem bin_126 (a b : Nat) (wo : World) (ha : a < 18446744073709551616) (hb : b < 18446744073709551616) :
    Calls Try.prog 67 #[.int .i64 126, .int .u64 (a : Int), .int .u64 (b : Int)] wo (Is3 wo (binVal 12 64 (cutN a 64) (cutN b 64)).1 (binVal 12 64 (cutN a 64) (cutN b 64)).2 true) := by
  have HCA := Lib.hid (fun W => cut_any a 64 64 wide64 ha W)
  have HCB := Lib.hid (fun W => cut_any b 64 64 wide64 hb W)
  have hx : cutN a 64 < 18446744073709551616 := cut_lt a 64
  have hy : cutN b 64 < 18446744073709551616 := cut_lt b 64
  clear ha hb
  generalize cutN a 64 = x at *
  generalize cutN b 64 = y at *
  have HX := Lib.hid hx
  have HY := Lib.hid hy
  clear hx hy
  go_enter Try.func67, Try.ntmps67
  go_wp2_with fail
  refine (HCA.out _).mono ?_
  rintro e w' ⟨rfl, rfl⟩
  go_wp2_with fail
  refine (HCB.out _).mono ?_
  rintro e w' ⟨rfl, rfl⟩
  go_wp2
  go_loop [12, 13] (fun n i => ∃ (j X : Nat), j ≤ 64 ∧ i = .int .i64 (j : Int) ∧ n = .int .u64 (X : Int) ∧ Hid (X = (x * (y % 2 ^ j)) % 18446744073709551616)) (fun _ i => 64 - (intOf i).toNat)
  case atStart => exact ⟨0, 0, by omega, rfl, rfl, Lib.hid (by rw [Nat.pow_zero, Nat.mod_one, Nat.mul_zero])⟩
  case round =>
    obtain ⟨j, X, hj, rfl, rfl, hD⟩ := hrel
    by_cases hlt : j < 64
    · have hlti : (j : Int) < 64 := by omega
      have HB := Lib.hid (fun W => bit_any y j W (by omega))
      have hB1 := bitN_le y j
      by_cases hbit : bitN y j = 1
      · have hbz : ((bitN y j : Int) == 1) = true := by simp [hbit]
        have HN := Lib.hid (mul_step x y j X hD.out hbit)
        clear hD hbit
        generalize bitN y j = b at *
        go_wp2_with fail
        refine (HB.out _).mono ?_
        rintro e w' ⟨rfl, rfl⟩
        go_wp2
        go_round
        case rel => exact ⟨j + 1, _, by omega, by go_num, int_u64 HN.out, Lib.hid rfl⟩
        case measure => simp [intOf]; omega
      · have hbz : ((bitN y j : Int) == 1) = false := by simp; omega
        have HN : Hid (X = (x * (y % 2 ^ (j + 1))) % 18446744073709551616) := Lib.hid (by rw [hD.out, mod_step y j, show bitN y j = 0 from by omega, Nat.zero_mul, Nat.add_zero])
        clear hD hbit
        generalize bitN y j = b at *
        go_wp2_with fail
        refine (HB.out _).mono ?_
        rintro e w' ⟨rfl, rfl⟩
        go_wp2
        go_round
        case rel => exact ⟨j + 1, X, by omega, by go_num, rfl, HN⟩
        case measure => simp [intOf]; omega
    · have hlti : ¬ (j : Int) < 64 := by omega
      have HX2 : Hid (X < 18446744073709551616) := Lib.hid (by rw [hD.out]; omega)
      have HE : Hid (cutN X 64 = (binVal 12 64 x y).1) := Lib.hid (by
        rw [hD.out, show j = 64 from by omega, Nat.mod_eq_of_lt HY.out, cut_cut _ 64 (by omega)]
        rfl)
      clear hD
      go_wp2_with fail
      refine (cut_any X 64 64 wide64 HX2.out _).mono ?_
      rintro e w' ⟨rfl, rfl⟩
      go_wp2
      go_ret3
      exact ⟨ret_3 HE.out, rfl⟩
end Go.Proofs.Ytdipgokbfjbgfaa.Num
namespace Go.Proofs.Ytdipgokbfjbgfaa.Num
open Go.RowKit

set_option maxRecDepth 100000 in
theorem bin_109 (a b : Nat) (wo : World) (ha : a < 18446744073709551616) (hb : b < 18446744073709551616) :
    Calls Try.prog 67 #[.int .i64 109, .int .u64 (a : Int), .int .u64 (b : Int)] wo (Is3 wo (binVal 13 32 (cutN a 32) (cutN b 32)).1 (binVal 13 32 (cutN a 32) (cutN b 32)).2 true) := by
  have HCA := Lib.hid (fun W => cut_any a 32 32 wide32 ha W)
  have HCB := Lib.hid (fun W => cut_any b 32 32 wide32 hb W)
  have hx : cutN a 32 < 4294967296 := cut_lt a 32
  have hy : cutN b 32 < 4294967296 := cut_lt b 32
  clear ha hb
  generalize cutN a 32 = x at *
  generalize cutN b 32 = y at *
  have HX := Lib.hid hx
  have HY := Lib.hid hy
  clear hx hy
  have HQ := Lib.hid (fun W => quot_any_32 x y true W HX.out HY.out)
  obtain ⟨q, r, t, u, hR⟩ : ∃ q r t u, (quotN x y 32 true).1 = q ∧ (quotN x y 32 true).2.1 = r ∧ (quotN x y 32 true).2.2.1 = t ∧ (quotN x y 32 true).2.2.2 = u := ⟨_, _, _, _, rfl, rfl, rfl, rfl⟩
  unfold Quots at HQ
  rw [hR.1, hR.2.1, hR.2.2.1, hR.2.2.2] at HQ
  have HR := Lib.hid hR
  clear hR
  go_enter Try.func67, Try.ntmps67
  go_wp2_with fail
  refine (HCA.out _).mono ?_
  rintro e w' ⟨rfl, rfl⟩
  go_wp2_with fail
  refine (HCB.out _).mono ?_
  rintro e w' ⟨rfl, rfl⟩
  go_wp2_with fail
  refine (HQ.out _).mono ?_
  rintro e w' ⟨rfl, rfl⟩
  go_wp2
  go_ret3
  exact ⟨by rw [← HR.out.1, ← HR.out.2.2.1]; rfl, rfl⟩
set_option maxRecDepth 100000 in
theorem bin_110 (a b : Nat) (wo : World) (ha : a < 18446744073709551616) (hb : b < 18446744073709551616) :
    Calls Try.prog 67 #[.int .i64 110, .int .u64 (a : Int), .int .u64 (b : Int)] wo (Is3 wo (binVal 14 32 (cutN a 32) (cutN b 32)).1 (binVal 14 32 (cutN a 32) (cutN b 32)).2 true) := by
  have HCA := Lib.hid (fun W => cut_any a 32 32 wide32 ha W)
  have HCB := Lib.hid (fun W => cut_any b 32 32 wide32 hb W)
  have hx : cutN a 32 < 4294967296 := cut_lt a 32
  have hy : cutN b 32 < 4294967296 := cut_lt b 32
  clear ha hb
  generalize cutN a 32 = x at *
  generalize cutN b 32 = y at *
  have HX := Lib.hid hx
  have HY := Lib.hid hy
  clear hx hy
  have HQ := Lib.hid (fun W => quot_any_32 x y false W HX.out HY.out)
  obtain ⟨q, r, t, u, hR⟩ : ∃ q r t u, (quotN x y 32 false).1 = q ∧ (quotN x y 32 false).2.1 = r ∧ (quotN x y 32 false).2.2.1 = t ∧ (quotN x y 32 false).2.2.2 = u := ⟨_, _, _, _, rfl, rfl, rfl, rfl⟩
  unfold Quots at HQ
  rw [hR.1, hR.2.1, hR.2.2.1, hR.2.2.2] at HQ
  have HR := Lib.hid hR
  clear hR
  go_enter Try.func67, Try.ntmps67
  go_wp2_with fail
  refine (HCA.out _).mono ?_
  rintro e w' ⟨rfl, rfl⟩
  go_wp2_with fail
  refine (HCB.out _).mono ?_
  rintro e w' ⟨rfl, rfl⟩
  go_wp2_with fail
  refine (HQ.out _).mono ?_
  rintro e w' ⟨rfl, rfl⟩
  go_wp2
  go_ret3
  exact ⟨by rw [← HR.out.1, ← HR.out.2.2.1]; rfl, rfl⟩
set_option maxRecDepth 100000 in
theorem bin_111 (a b : Nat) (wo : World) (ha : a < 18446744073709551616) (hb : b < 18446744073709551616) :
    Calls Try.prog 67 #[.int .i64 111, .int .u64 (a : Int), .int .u64 (b : Int)] wo (Is3 wo (binVal 15 32 (cutN a 32) (cutN b 32)).1 (binVal 15 32 (cutN a 32) (cutN b 32)).2 true) := by
  have HCA := Lib.hid (fun W => cut_any a 32 32 wide32 ha W)
  have HCB := Lib.hid (fun W => cut_any b 32 32 wide32 hb W)
  have hx : cutN a 32 < 4294967296 := cut_lt a 32
  have hy : cutN b 32 < 4294967296 := cut_lt b 32
  clear ha hb
  generalize cutN a 32 = x at *
  generalize cutN b 32 = y at *
  have HX := Lib.hid hx
  have HY := Lib.hid hy
  clear hx hy
  have HQ := Lib.hid (fun W => quot_any_32 x y true W HX.out HY.out)
  obtain ⟨q, r, t, u, hR⟩ : ∃ q r t u, (quotN x y 32 true).1 = q ∧ (quotN x y 32 true).2.1 = r ∧ (quotN x y 32 true).2.2.1 = t ∧ (quotN x y 32 true).2.2.2 = u := ⟨_, _, _, _, rfl, rfl, rfl, rfl⟩
  unfold Quots at HQ
  rw [hR.1, hR.2.1, hR.2.2.1, hR.2.2.2] at HQ
  have HR := Lib.hid hR
  clear hR
  go_enter Try.func67, Try.ntmps67
  go_wp2_with fail
  refine (HCA.out _).mono ?_
  rintro e w' ⟨rfl, rfl⟩
  go_wp2_with fail
  refine (HCB.out _).mono ?_
  rintro e w' ⟨rfl, rfl⟩
  go_wp2_with fail
  refine (HQ.out _).mono ?_
  rintro e w' ⟨rfl, rfl⟩
  go_wp2
  go_ret3
  exact ⟨by rw [← HR.out.2.1, ← HR.out.2.2.2]; rfl, rfl⟩
set_option maxRecDepth 100000 in
theorem bin_112 (a b : Nat) (wo : World) (ha : a < 18446744073709551616) (hb : b < 18446744073709551616) :
    Calls Try.prog 67 #[.int .i64 112, .int .u64 (a : Int), .int .u64 (b : Int)] wo (Is3 wo (binVal 16 32 (cutN a 32) (cutN b 32)).1 (binVal 16 32 (cutN a 32) (cutN b 32)).2 true) := by
  have HCA := Lib.hid (fun W => cut_any a 32 32 wide32 ha W)
  have HCB := Lib.hid (fun W => cut_any b 32 32 wide32 hb W)
  have hx : cutN a 32 < 4294967296 := cut_lt a 32
  have hy : cutN b 32 < 4294967296 := cut_lt b 32
  clear ha hb
  generalize cutN a 32 = x at *
  generalize cutN b 32 = y at *
  have HX := Lib.hid hx
  have HY := Lib.hid hy
  clear hx hy
  have HQ := Lib.hid (fun W => quot_any_32 x y false W HX.out HY.out)
  obtain ⟨q, r, t, u, hR⟩ : ∃ q r t u, (quotN x y 32 false).1 = q ∧ (quotN x y 32 false).2.1 = r ∧ (quotN x y 32 false).2.2.1 = t ∧ (quotN x y 32 false).2.2.2 = u := ⟨_, _, _, _, rfl, rfl, rfl, rfl⟩
  unfold Quots at HQ
  rw [hR.1, hR.2.1, hR.2.2.1, hR.2.2.2] at HQ
  have HR := Lib.hid hR
  clear hR
  go_enter Try.func67, Try.ntmps67
  go_wp2_with fail
  refine (HCA.out _).mono ?_
  rintro e w' ⟨rfl, rfl⟩
  go_wp2_with fail
  refine (HCB.out _).mono ?_
  rintro e w' ⟨rfl, rfl⟩
  go_wp2_with fail
  refine (HQ.out _).mono ?_
  rintro e w' ⟨rfl, rfl⟩
  go_wp2
  go_ret3
  exact ⟨by rw [← HR.out.2.1, ← HR.out.2.2.2]; rfl, rfl⟩
set_option maxRecDepth 100000 in
theorem bin_127 (a b : Nat) (wo : World) (ha : a < 18446744073709551616) (hb : b < 18446744073709551616) :
    Calls Try.prog 67 #[.int .i64 127, .int .u64 (a : Int), .int .u64 (b : Int)] wo (Is3 wo (binVal 13 64 (cutN a 64) (cutN b 64)).1 (binVal 13 64 (cutN a 64) (cutN b 64)).2 true) := by
  have HCA := Lib.hid (fun W => cut_any a 64 64 wide64 ha W)
  have HCB := Lib.hid (fun W => cut_any b 64 64 wide64 hb W)
  have hx : cutN a 64 < 18446744073709551616 := cut_lt a 64
  have hy : cutN b 64 < 18446744073709551616 := cut_lt b 64
  clear ha hb
  generalize cutN a 64 = x at *
  generalize cutN b 64 = y at *
  have HX := Lib.hid hx
  have HY := Lib.hid hy
  clear hx hy
  have HQ := Lib.hid (fun W => quot_any_64 x y true W HX.out HY.out)
  obtain ⟨q, r, t, u, hR⟩ : ∃ q r t u, (quotN x y 64 true).1 = q ∧ (quotN x y 64 true).2.1 = r ∧ (quotN x y 64 true).2.2.1 = t ∧ (quotN x y 64 true).2.2.2 = u := ⟨_, _, _, _, rfl, rfl, rfl, rfl⟩
  unfold Quots at HQ
  rw [hR.1, hR.2.1, hR.2.2.1, hR.2.2.2] at HQ
  have HR := Lib.hid hR
  clear hR
  go_enter Try.func67, Try.ntmps67
  go_wp2_with fail
  refine (HCA.out _).mono ?_
  rintro e w' ⟨rfl, rfl⟩
  go_wp2_with fail
  refine (HCB.out _).mono ?_
  rintro e w' ⟨rfl, rfl⟩
  go_wp2_with fail
  refine (HQ.out _).mono ?_
  rintro e w' ⟨rfl, rfl⟩
  go_wp2
  go_ret3
  exact ⟨by rw [← HR.out.1, ← HR.out.2.2.1]; rfl, rfl⟩
set_option maxRecDepth 100000 in
theorem bin_128 (a b : Nat) (wo : World) (ha : a < 18446744073709551616) (hb : b < 18446744073709551616) :
    Calls Try.prog 67 #[.int .i64 128, .int .u64 (a : Int), .int .u64 (b : Int)] wo (Is3 wo (binVal 14 64 (cutN a 64) (cutN b 64)).1 (binVal 14 64 (cutN a 64) (cutN b 64)).2 true) := by
  have HCA := Lib.hid (fun W => cut_any a 64 64 wide64 ha W)
  have HCB := Lib.hid (fun W => cut_any b 64 64 wide64 hb W)
  have hx : cutN a 64 < 18446744073709551616 := cut_lt a 64
  have hy : cutN b 64 < 18446744073709551616 := cut_lt b 64
  clear ha hb
  generalize cutN a 64 = x at *
  generalize cutN b 64 = y at *
  have HX := Lib.hid hx
  have HY := Lib.hid hy
  clear hx hy
  have HQ := Lib.hid (fun W => quot_any_64 x y false W HX.out HY.out)
  obtain ⟨q, r, t, u, hR⟩ : ∃ q r t u, (quotN x y 64 false).1 = q ∧ (quotN x y 64 false).2.1 = r ∧ (quotN x y 64 false).2.2.1 = t ∧ (quotN x y 64 false).2.2.2 = u := ⟨_, _, _, _, rfl, rfl, rfl, rfl⟩
  unfold Quots at HQ
  rw [hR.1, hR.2.1, hR.2.2.1, hR.2.2.2] at HQ
  have HR := Lib.hid hR
  clear hR
  go_enter Try.func67, Try.ntmps67
  go_wp2_with fail
  refine (HCA.out _).mono ?_
  rintro e w' ⟨rfl, rfl⟩
  go_wp2_with fail
  refine (HCB.out _).mono ?_
  rintro e w' ⟨rfl, rfl⟩
  go_wp2_with fail
  refine (HQ.out _).mono ?_
  rintro e w' ⟨rfl, rfl⟩
  go_wp2
  go_ret3
  exact ⟨by rw [← HR.out.1, ← HR.out.2.2.1]; rfl, rfl⟩
set_option maxRecDepth 100000 in
theorem bin_129 (a b : Nat) (wo : World) (ha : a < 18446744073709551616) (hb : b < 18446744073709551616) :
    Calls Try.prog 67 #[.int .i64 129, .int .u64 (a : Int), .int .u64 (b : Int)] wo (Is3 wo (binVal 15 64 (cutN a 64) (cutN b 64)).1 (binVal 15 64 (cutN a 64) (cutN b 64)).2 true) := by
  have HCA := Lib.hid (fun W => cut_any a 64 64 wide64 ha W)
  have HCB := Lib.hid (fun W => cut_any b 64 64 wide64 hb W)
  have hx : cutN a 64 < 18446744073709551616 := cut_lt a 64
  have hy : cutN b 64 < 18446744073709551616 := cut_lt b 64
  clear ha hb
  generalize cutN a 64 = x at *
  generalize cutN b 64 = y at *
  have HX := Lib.hid hx
  have HY := Lib.hid hy
  clear hx hy
  have HQ := Lib.hid (fun W => quot_any_64 x y true W HX.out HY.out)
  obtain ⟨q, r, t, u, hR⟩ : ∃ q r t u, (quotN x y 64 true).1 = q ∧ (quotN x y 64 true).2.1 = r ∧ (quotN x y 64 true).2.2.1 = t ∧ (quotN x y 64 true).2.2.2 = u := ⟨_, _, _, _, rfl, rfl, rfl, rfl⟩
  unfold Quots at HQ
  rw [hR.1, hR.2.1, hR.2.2.1, hR.2.2.2] at HQ
  have HR := Lib.hid hR
  clear hR
  go_enter Try.func67, Try.ntmps67
  go_wp2_with fail
  refine (HCA.out _).mono ?_
  rintro e w' ⟨rfl, rfl⟩
  go_wp2_with fail
  refine (HCB.out _).mono ?_
  rintro e w' ⟨rfl, rfl⟩
  go_wp2_with fail
  refine (HQ.out _).mono ?_
  rintro e w' ⟨rfl, rfl⟩
  go_wp2
  go_ret3
  exact ⟨by rw [← HR.out.2.1, ← HR.out.2.2.2]; rfl, rfl⟩
set_option maxRecDepth 100000 in
theorem bin_130 (a b : Nat) (wo : World) (ha : a < 18446744073709551616) (hb : b < 18446744073709551616) :
    Calls Try.prog 67 #[.int .i64 130, .int .u64 (a : Int), .int .u64 (b : Int)] wo (Is3 wo (binVal 16 64 (cutN a 64) (cutN b 64)).1 (binVal 16 64 (cutN a 64) (cutN b 64)).2 true) := by
  have HCA := Lib.hid (fun W => cut_any a 64 64 wide64 ha W)
  have HCB := Lib.hid (fun W => cut_any b 64 64 wide64 hb W)
  have hx : cutN a 64 < 18446744073709551616 := cut_lt a 64
  have hy : cutN b 64 < 18446744073709551616 := cut_lt b 64
  clear ha hb
  generalize cutN a 64 = x at *
  generalize cutN b 64 = y at *
  have HX := Lib.hid hx
  have HY := Lib.hid hy
  clear hx hy
  have HQ := Lib.hid (fun W => quot_any_64 x y false W HX.out HY.out)
  obtain ⟨q, r, t, u, hR⟩ : ∃ q r t u, (quotN x y 64 false).1 = q ∧ (quotN x y 64 false).2.1 = r ∧ (quotN x y 64 false).2.2.1 = t ∧ (quotN x y 64 false).2.2.2 = u := ⟨_, _, _, _, rfl, rfl, rfl, rfl⟩
  unfold Quots at HQ
  rw [hR.1, hR.2.1, hR.2.2.1, hR.2.2.2] at HQ
  have HR := Lib.hid hR
  clear hR
  go_enter Try.func67, Try.ntmps67
  go_wp2_with fail
  refine (HCA.out _).mono ?_
  rintro e w' ⟨rfl, rfl⟩
  go_wp2_with fail
  refine (HCB.out _).mono ?_
  rintro e w' ⟨rfl, rfl⟩
  go_wp2_with fail
  refine (HQ.out _).mono ?_
  rintro e w' ⟨rfl, rfl⟩
  go_wp2
  go_ret3
  exact ⟨by rw [← HR.out.2.1, ← HR.out.2.2.2]; rfl, rfl⟩
end Go.Proofs.Ytdipgokbfjbgfaa.Num
namespace Go.Proofs.Ytdipgokbfjbgfaa.Num
open Go.RowKit

theorem up_32 (a s : Nat) (wo : World) (hs : s < 32) :
    Calls Try.prog 87 #[.int .u64 (a : Int), .int .i64 (s : Int), .int .i64 32, .int .u64 0] wo fun e w' => e = .returned (.int .u64 ((upN a s 32 : Nat) : Int)) ∧ wo = w' := by
  have hf : ∀ i, (fun i => if i < s then 0 else bitN a (i - s)) i ≤ 1 := fun i => by
    have := bitN_le a (i - s)
    show (if i < s then 0 else bitN a (i - s)) ≤ 1
    split <;> omega
  go_enter Try.func87, Try.ntmps87
  go_wp2
  go_loop [9, 10] (fun m i => ∃ (I : Int) (X : Nat), -1 ≤ I ∧ I < 32 ∧ i = .int .i64 I ∧ m = .int .u64 (X : Int) ∧ Hid (Down (fun i => if i < s then 0 else bitN a (i - s)) 32 I X)) (fun _ i => (intOf i + 1).toNat)
  case atStart => exact ⟨31, 0, by omega, by omega, rfl, rfl, Lib.hid (Down.start _ 32)⟩
  case round =>
    obtain ⟨I, X, hI1, hI2, rfl, rfl, hD⟩ := hrel
    by_cases hI : 0 ≤ I
    · obtain ⟨q, rfl⟩ := Int.eq_ofNat_of_zero_le hI
      have hX := hD.out.bound hf (by omega)
      have HN : Hid (Down (fun i => if i < s then 0 else bitN a (i - s)) 32 ((q : Int) - 1) (X * 2 + if q < s then 0 else bitN a (q - s))) := Lib.hid (hD.out.next (by omega))
      clear hD hf
      by_cases hq : q < s
      · have hqi : ¬ (0 : Int) ≤ (q : Int) - (s : Int) := by omega
        have hqj : ¬ (s : Int) ≤ (q : Int) := by omega
        have hqk : (q : Int) - (s : Int) < 0 := by omega
        have hql : (q : Int) < (s : Int) := by omega
        rw [if_pos hq] at HN
        go_wp2
        go_round
        case rel => exact ⟨(q : Int) - 1, X * 2 + 0, by omega, by omega, rfl, int_u64 (by omega), HN⟩
        case measure => simp [intOf]
      · rw [if_neg hq] at HN
        have HB := Lib.hid (fun W => bit_any a (q - s) W (by omega))
        have HQ : Hid ((q : Int) - (s : Int) = ((q - s : Nat) : Int)) := Lib.hid (by omega)
        have hB1 := bitN_le a (q - s)
        have hqi : (0 : Int) ≤ (q : Int) - (s : Int) := by omega
        have hqj : (s : Int) ≤ (q : Int) := by omega
        have hqk : ¬ (q : Int) - (s : Int) < 0 := by omega
        have hql : ¬ (q : Int) < (s : Int) := by omega
        have hqw : (q : Int) - (s : Int) < 32 := by omega
        generalize bitN a (q - s) = b at *
        generalize q - s = p at *
        go_wp2_with fail
        rw [HQ.out]
        refine (HB.out _).mono ?_
        rintro e w' ⟨rfl, rfl⟩
        go_wp2
        go_round
        case rel => exact ⟨(q : Int) - 1, X * 2 + b, by omega, by omega, rfl, int_u64 (by omega), HN⟩
        case measure => simp [intOf]
    · have HE := Lib.hid (hD.out.ends hI1 hI)
      clear hD
      go_wp2
      go_ret
      exact ⟨ret_u64 (by rw [HE.out]; rfl), rfl⟩
theorem up_64 (a s : Nat) (wo : World) (hs : s < 64) :
    Calls Try.prog 87 #[.int .u64 (a : Int), .int .i64 (s : Int), .int .i64 64, .int .u64 0] wo fun e w' => e = .returned (.int .u64 ((upN a s 64 : Nat) : Int)) ∧ wo = w' := by
  have hf : ∀ i, (fun i => if i < s then 0 else bitN a (i - s)) i ≤ 1 := fun i => by
    have := bitN_le a (i - s)
    show (if i < s then 0 else bitN a (i - s)) ≤ 1
    split <;> omega
  go_enter Try.func87, Try.ntmps87
  go_wp2
  go_loop [9, 10] (fun m i => ∃ (I : Int) (X : Nat), -1 ≤ I ∧ I < 64 ∧ i = .int .i64 I ∧ m = .int .u64 (X : Int) ∧ Hid (Down (fun i => if i < s then 0 else bitN a (i - s)) 64 I X)) (fun _ i => (intOf i + 1).toNat)
  case atStart => exact ⟨63, 0, by omega, by omega, rfl, rfl, Lib.hid (Down.start _ 64)⟩
  case round =>
    obtain ⟨I, X, hI1, hI2, rfl, rfl, hD⟩ := hrel
    by_cases hI : 0 ≤ I
    · obtain ⟨q, rfl⟩ := Int.eq_ofNat_of_zero_le hI
      have hX := hD.out.bound hf (by omega)
      have HN : Hid (Down (fun i => if i < s then 0 else bitN a (i - s)) 64 ((q : Int) - 1) (X * 2 + if q < s then 0 else bitN a (q - s))) := Lib.hid (hD.out.next (by omega))
      clear hD hf
      by_cases hq : q < s
      · have hqi : ¬ (0 : Int) ≤ (q : Int) - (s : Int) := by omega
        have hqj : ¬ (s : Int) ≤ (q : Int) := by omega
        have hqk : (q : Int) - (s : Int) < 0 := by omega
        have hql : (q : Int) < (s : Int) := by omega
        rw [if_pos hq] at HN
        go_wp2
        go_round
        case rel => exact ⟨(q : Int) - 1, X * 2 + 0, by omega, by omega, rfl, int_u64 (by omega), HN⟩
        case measure => simp [intOf]
      · rw [if_neg hq] at HN
        have HB := Lib.hid (fun W => bit_any a (q - s) W (by omega))
        have HQ : Hid ((q : Int) - (s : Int) = ((q - s : Nat) : Int)) := Lib.hid (by omega)
        have hB1 := bitN_le a (q - s)
        have hqi : (0 : Int) ≤ (q : Int) - (s : Int) := by omega
        have hqj : (s : Int) ≤ (q : Int) := by omega
        have hqk : ¬ (q : Int) - (s : Int) < 0 := by omega
        have hql : ¬ (q : Int) < (s : Int) := by omega
        have hqw : (q : Int) - (s : Int) < 64 := by omega
        generalize bitN a (q - s) = b at *
        generalize q - s = p at *
        go_wp2_with fail
        rw [HQ.out]
        refine (HB.out _).mono ?_
        rintro e w' ⟨rfl, rfl⟩
        go_wp2
        go_round
        case rel => exact ⟨(q : Int) - 1, X * 2 + b, by omega, by omega, rfl, int_u64 (by omega), HN⟩
        case measure => simp [intOf]
    · have HE := Lib.hid (hD.out.ends hI1 hI)
      clear hD
      go_wp2
      go_ret
      exact ⟨ret_u64 (by rw [HE.out]; rfl), rfl⟩
theorem down_32 (a s fill : Nat) (wo : World) (hs : s < 32) (hfill : fill ≤ 1) :
    Calls Try.prog 87 #[.int .u64 (a : Int), .int .i64 (-(s : Int)), .int .i64 32, .int .u64 (fill : Int)] wo fun e w' => e = .returned (.int .u64 ((downN a s 32 fill : Nat) : Int)) ∧ wo = w' := by
  have hf : ∀ i, (fun i => if i + s < 32 then bitN a (i + s) else fill) i ≤ 1 := fun i => by
    have := bitN_le a (i + s)
    show (if i + s < 32 then bitN a (i + s) else fill) ≤ 1
    split <;> omega
  go_enter Try.func87, Try.ntmps87
  go_wp2
  go_loop [9, 10] (fun m i => ∃ (I : Int) (X : Nat), -1 ≤ I ∧ I < 32 ∧ i = .int .i64 I ∧ m = .int .u64 (X : Int) ∧ Hid (Down (fun i => if i + s < 32 then bitN a (i + s) else fill) 32 I X)) (fun _ i => (intOf i + 1).toNat)
  case atStart => exact ⟨31, 0, by omega, by omega, rfl, rfl, Lib.hid (Down.start _ 32)⟩
  case round =>
    obtain ⟨I, X, hI1, hI2, rfl, rfl, hD⟩ := hrel
    by_cases hI : 0 ≤ I
    · obtain ⟨q, rfl⟩ := Int.eq_ofNat_of_zero_le hI
      have hX := hD.out.bound hf (by omega)
      have HN : Hid (Down (fun i => if i + s < 32 then bitN a (i + s) else fill) 32 ((q : Int) - 1) (X * 2 + if q + s < 32 then bitN a (q + s) else fill)) := Lib.hid (hD.out.next (by omega))
      clear hD hf
      have hq0 : (0 : Int) ≤ (q : Int) + (s : Int) := by omega
      have hq1 : ¬ (q : Int) + (s : Int) < 0 := by omega
      by_cases hq : q + s < 32
      · rw [if_pos hq] at HN
        have hqi : (q : Int) + (s : Int) < 32 := by omega
        have HB := Lib.hid (fun W => bit_any a (q + s) W (by omega))
        have HQ : Hid ((q : Int) + (s : Int) = ((q + s : Nat) : Int)) := Lib.hid (by omega)
        have hB1 := bitN_le a (q + s)
        generalize bitN a (q + s) = b at *
        generalize q + s = p at *
        go_wp2_with fail
        rw [HQ.out]
        refine (HB.out _).mono ?_
        rintro e w' ⟨rfl, rfl⟩
        go_wp2
        go_round
        case rel => exact ⟨(q : Int) - 1, X * 2 + b, by omega, by omega, rfl, int_u64 (by omega), HN⟩
        case measure => simp [intOf]
      · rw [if_neg hq] at HN
        have hqi : ¬ (q : Int) + (s : Int) < 32 := by omega
        go_wp2
        go_round
        case rel => exact ⟨(q : Int) - 1, X * 2 + fill, by omega, by omega, rfl, int_u64 (by omega), HN⟩
        case measure => simp [intOf]
    · have HE := Lib.hid (hD.out.ends hI1 hI)
      clear hD
      go_wp2
      go_ret
      exact ⟨ret_u64 (by rw [HE.out]; rfl), rfl⟩
theorem down_64 (a s fill : Nat) (wo : World) (hs : s < 64) (hfill : fill ≤ 1) :
    Calls Try.prog 87 #[.int .u64 (a : Int), .int .i64 (-(s : Int)), .int .i64 64, .int .u64 (fill : Int)] wo fun e w' => e = .returned (.int .u64 ((downN a s 64 fill : Nat) : Int)) ∧ wo = w' := by
  have hf : ∀ i, (fun i => if i + s < 64 then bitN a (i + s) else fill) i ≤ 1 := fun i => by
    have := bitN_le a (i + s)
    show (if i + s < 64 then bitN a (i + s) else fill) ≤ 1
    split <;> omega
  go_enter Try.func87, Try.ntmps87
  go_wp2
  go_loop [9, 10] (fun m i => ∃ (I : Int) (X : Nat), -1 ≤ I ∧ I < 64 ∧ i = .int .i64 I ∧ m = .int .u64 (X : Int) ∧ Hid (Down (fun i => if i + s < 64 then bitN a (i + s) else fill) 64 I X)) (fun _ i => (intOf i + 1).toNat)
  case atStart => exact ⟨63, 0, by omega, by omega, rfl, rfl, Lib.hid (Down.start _ 64)⟩
  case round =>
    obtain ⟨I, X, hI1, hI2, rfl, rfl, hD⟩ := hrel
    by_cases hI : 0 ≤ I
    · obtain ⟨q, rfl⟩ := Int.eq_ofNat_of_zero_le hI
      have hX := hD.out.bound hf (by omega)
      have HN : Hid (Down (fun i => if i + s < 64 then bitN a (i + s) else fill) 64 ((q : Int) - 1) (X * 2 + if q + s < 64 then bitN a (q + s) else fill)) := Lib.hid (hD.out.next (by omega))
      clear hD hf
      have hq0 : (0 : Int) ≤ (q : Int) + (s : Int) := by omega
      have hq1 : ¬ (q : Int) + (s : Int) < 0 := by omega
      by_cases hq : q + s < 64
      · rw [if_pos hq] at HN
        have hqi : (q : Int) + (s : Int) < 64 := by omega
        have HB := Lib.hid (fun W => bit_any a (q + s) W (by omega))
        have HQ : Hid ((q : Int) + (s : Int) = ((q + s : Nat) : Int)) := Lib.hid (by omega)
        have hB1 := bitN_le a (q + s)
        generalize bitN a (q + s) = b at *
        generalize q + s = p at *
        go_wp2_with fail
        rw [HQ.out]
        refine (HB.out _).mono ?_
        rintro e w' ⟨rfl, rfl⟩
        go_wp2
        go_round
        case rel => exact ⟨(q : Int) - 1, X * 2 + b, by omega, by omega, rfl, int_u64 (by omega), HN⟩
        case measure => simp [intOf]
      · rw [if_neg hq] at HN
        have hqi : ¬ (q : Int) + (s : Int) < 64 := by omega
        go_wp2
        go_round
        case rel => exact ⟨(q : Int) - 1, X * 2 + fill, by omega, by omega, rfl, int_u64 (by omega), HN⟩
        case measure => simp [intOf]
    · have HE := Lib.hid (hD.out.ends hI1 hI)
      clear hD
      go_wp2
      go_ret
      exact ⟨ret_u64 (by rw [HE.out]; rfl), rfl⟩
end Go.Proofs.Ytdipgokbfjbgfaa.Num
namespace Go.Proofs.Ytdipgokbfjbgfaa.Num
open Go.RowKit

theorem each_0 (a b : Nat) (wo : World) :
    Calls Try.prog 86 #[.int .u64 (a : Int), .int .u64 (b : Int), .int .i64 0] wo fun e w' => e = .returned (.int .u64 ((eachN a b 0 : Nat) : Int)) ∧ wo = w' := by
  go_enter Try.func86, Try.ntmps86
  go_wp2
  go_loop [7, 8] (fun m i => ∃ (I : Int) (X : Nat), -1 ≤ I ∧ I < 64 ∧ i = .int .i64 I ∧ m = .int .u64 (X : Int) ∧ Hid (Down (eachF a b 0) 64 I X)) (fun _ i => (intOf i + 1).toNat)
  case atStart => exact ⟨63, 0, by omega, by omega, rfl, rfl, Lib.hid (Down.start _ 64)⟩
  case round =>
    obtain ⟨I, X, hI1, hI2, rfl, rfl, hD⟩ := hrel
    by_cases hI : 0 ≤ I
    · obtain ⟨q, rfl⟩ := Int.eq_ofNat_of_zero_le hI
      have hX := hD.out.bound (eachF_le a b 0) (by omega)
      have HN := Lib.hid (hD.out.next (by omega))
      have hF : eachF a b 0 q = if 0 = 0 ∧ bitN a q + bitN b q = 2 ∨ 0 = 1 ∧ 0 < bitN a q + bitN b q ∨ 0 = 2 ∧ bitN a q + bitN b q = 1 then 1 else 0 := rfl
      clear hD
      have HA := Lib.hid (fun W => bit_any a q W (by omega))
      have HB := Lib.hid (fun W => bit_any b q W (by omega))
      have hA1 := bitN_le a q
      have hB1 := bitN_le b q
      generalize bitN a q = x at *
      generalize bitN b q = y at *
      by_cases hc : x + y = 2
      · rw [if_pos (by omega)] at hF
        rw [hF] at HN
        clear hF
        have ht : ((x : Int) + (y : Int) == 2) = true := by simp; omega
        go_wp2_with fail
        refine (HA.out _).mono ?_
        rintro e w' ⟨rfl, rfl⟩
        go_wp2_with fail
        refine (HB.out _).mono ?_
        rintro e w' ⟨rfl, rfl⟩
        go_wp2
        go_round
        case rel => exact ⟨(q : Int) - 1, X * 2 + 1, by omega, by omega, rfl, int_u64 (by omega), HN⟩
        case measure => simp [intOf]
      · rw [if_neg (by omega)] at hF
        rw [hF] at HN
        clear hF
        have ht : ((x : Int) + (y : Int) == 2) = false := by simp; omega
        go_wp2_with fail
        refine (HA.out _).mono ?_
        rintro e w' ⟨rfl, rfl⟩
        go_wp2_with fail
        refine (HB.out _).mono ?_
        rintro e w' ⟨rfl, rfl⟩
        go_wp2
        go_round
        case rel => exact ⟨(q : Int) - 1, X * 2 + 0, by omega, by omega, rfl, int_u64 (by omega), HN⟩
        case measure => simp [intOf]
    · have HE := Lib.hid (hD.out.ends hI1 hI)
      clear hD
      go_wp2
      go_ret
      exact ⟨ret_u64 (by rw [HE.out]; rfl), rfl⟩
theorem each_1 (a b : Nat) (wo : World) :
    Calls Try.prog 86 #[.int .u64 (a : Int), .int .u64 (b : Int), .int .i64 1] wo fun e w' => e = .returned (.int .u64 ((eachN a b 1 : Nat) : Int)) ∧ wo = w' := by
  go_enter Try.func86, Try.ntmps86
  go_wp2
  go_loop [7, 8] (fun m i => ∃ (I : Int) (X : Nat), -1 ≤ I ∧ I < 64 ∧ i = .int .i64 I ∧ m = .int .u64 (X : Int) ∧ Hid (Down (eachF a b 1) 64 I X)) (fun _ i => (intOf i + 1).toNat)
  case atStart => exact ⟨63, 0, by omega, by omega, rfl, rfl, Lib.hid (Down.start _ 64)⟩
  case round =>
    obtain ⟨I, X, hI1, hI2, rfl, rfl, hD⟩ := hrel
    by_cases hI : 0 ≤ I
    · obtain ⟨q, rfl⟩ := Int.eq_ofNat_of_zero_le hI
      have hX := hD.out.bound (eachF_le a b 1) (by omega)
      have HN := Lib.hid (hD.out.next (by omega))
      have hF : eachF a b 1 q = if 1 = 0 ∧ bitN a q + bitN b q = 2 ∨ 1 = 1 ∧ 0 < bitN a q + bitN b q ∨ 1 = 2 ∧ bitN a q + bitN b q = 1 then 1 else 0 := rfl
      clear hD
      have HA := Lib.hid (fun W => bit_any a q W (by omega))
      have HB := Lib.hid (fun W => bit_any b q W (by omega))
      have hA1 := bitN_le a q
      have hB1 := bitN_le b q
      generalize bitN a q = x at *
      generalize bitN b q = y at *
      by_cases hc : 0 < x + y
      · rw [if_pos (by omega)] at hF
        rw [hF] at HN
        clear hF
        have ht : (0 : Int) < (x : Int) + (y : Int) := by omega
        go_wp2_with fail
        refine (HA.out _).mono ?_
        rintro e w' ⟨rfl, rfl⟩
        go_wp2_with fail
        refine (HB.out _).mono ?_
        rintro e w' ⟨rfl, rfl⟩
        go_wp2
        go_round
        case rel => exact ⟨(q : Int) - 1, X * 2 + 1, by omega, by omega, rfl, int_u64 (by omega), HN⟩
        case measure => simp [intOf]
      · rw [if_neg (by omega)] at hF
        rw [hF] at HN
        clear hF
        have ht : ¬ (0 : Int) < (x : Int) + (y : Int) := by omega
        go_wp2_with fail
        refine (HA.out _).mono ?_
        rintro e w' ⟨rfl, rfl⟩
        go_wp2_with fail
        refine (HB.out _).mono ?_
        rintro e w' ⟨rfl, rfl⟩
        go_wp2
        go_round
        case rel => exact ⟨(q : Int) - 1, X * 2 + 0, by omega, by omega, rfl, int_u64 (by omega), HN⟩
        case measure => simp [intOf]
    · have HE := Lib.hid (hD.out.ends hI1 hI)
      clear hD
      go_wp2
      go_ret
      exact ⟨ret_u64 (by rw [HE.out]; rfl), rfl⟩
theorem each_2 (a b : Nat) (wo : World) :
    Calls Try.prog 86 #[.int .u64 (a : Int), .int .u64 (b : Int), .int .i64 2] wo fun e w' => e = .returned (.int .u64 ((eachN a b 2 : Nat) : Int)) ∧ wo = w' := by
  go_enter Try.func86, Try.ntmps86
  go_wp2
  go_loop [7, 8] (fun m i => ∃ (I : Int) (X : Nat), -1 ≤ I ∧ I < 64 ∧ i = .int .i64 I ∧ m = .int .u64 (X : Int) ∧ Hid (Down (eachF a b 2) 64 I X)) (fun _ i => (intOf i + 1).toNat)
  case atStart => exact ⟨63, 0, by omega, by omega, rfl, rfl, Lib.hid (Down.start _ 64)⟩
  case round =>
    obtain ⟨I, X, hI1, hI2, rfl, rfl, hD⟩ := hrel
    by_cases hI : 0 ≤ I
    · obtain ⟨q, rfl⟩ := Int.eq_ofNat_of_zero_le hI
      have hX := hD.out.bound (eachF_le a b 2) (by omega)
      have HN := Lib.hid (hD.out.next (by omega))
      have hF : eachF a b 2 q = if 2 = 0 ∧ bitN a q + bitN b q = 2 ∨ 2 = 1 ∧ 0 < bitN a q + bitN b q ∨ 2 = 2 ∧ bitN a q + bitN b q = 1 then 1 else 0 := rfl
      clear hD
      have HA := Lib.hid (fun W => bit_any a q W (by omega))
      have HB := Lib.hid (fun W => bit_any b q W (by omega))
      have hA1 := bitN_le a q
      have hB1 := bitN_le b q
      generalize bitN a q = x at *
      generalize bitN b q = y at *
      by_cases hc : x + y = 1
      · rw [if_pos (by omega)] at hF
        rw [hF] at HN
        clear hF
        have ht : ((x : Int) + (y : Int) == 1) = true := by simp; omega
        go_wp2_with fail
        refine (HA.out _).mono ?_
        rintro e w' ⟨rfl, rfl⟩
        go_wp2_with fail
        refine (HB.out _).mono ?_
        rintro e w' ⟨rfl, rfl⟩
        go_wp2
        go_round
        case rel => exact ⟨(q : Int) - 1, X * 2 + 1, by omega, by omega, rfl, int_u64 (by omega), HN⟩
        case measure => simp [intOf]
      · rw [if_neg (by omega)] at hF
        rw [hF] at HN
        clear hF
        have ht : ((x : Int) + (y : Int) == 1) = false := by simp; omega
        go_wp2_with fail
        refine (HA.out _).mono ?_
        rintro e w' ⟨rfl, rfl⟩
        go_wp2_with fail
        refine (HB.out _).mono ?_
        rintro e w' ⟨rfl, rfl⟩
        go_wp2
        go_round
        case rel => exact ⟨(q : Int) - 1, X * 2 + 0, by omega, by omega, rfl, int_u64 (by omega), HN⟩
        case measure => simp [intOf]
    · have HE := Lib.hid (hD.out.ends hI1 hI)
      clear hD
      go_wp2
      go_ret
      exact ⟨ret_u64 (by rw [HE.out]; rfl), rfl⟩
end Go.Proofs.Ytdipgokbfjbgfaa.Num
namespace Go.Proofs.Ytdipgokbfjbgfaa.Num
open Go.RowKit

set_option maxRecDepth 100000 in
theorem bin_113 (a b : Nat) (wo : World) (ha : a < 18446744073709551616) (hb : b < 18446744073709551616) :
    Calls Try.prog 67 #[.int .i64 113, .int .u64 (a : Int), .int .u64 (b : Int)] wo (Is3 wo (binVal 17 32 (cutN a 32) (cutN b 32)).1 (binVal 17 32 (cutN a 32) (cutN b 32)).2 true) := by
  have HCA := Lib.hid (fun W => cut_any a 32 32 wide32 ha W)
  have HCB := Lib.hid (fun W => cut_any b 32 32 wide32 hb W)
  have hx : cutN a 32 < 4294967296 := cut_lt a 32
  have hy : cutN b 32 < 4294967296 := cut_lt b 32
  clear ha hb
  generalize cutN a 32 = x at *
  generalize cutN b 32 = y at *
  have HX := Lib.hid hx
  have HY := Lib.hid hy
  clear hx hy
  go_enter Try.func67, Try.ntmps67
  go_wp2_with fail
  refine (HCA.out _).mono ?_
  rintro e w' ⟨rfl, rfl⟩
  go_wp2_with fail
  refine (HCB.out _).mono ?_
  rintro e w' ⟨rfl, rfl⟩
  go_wp2_with fail
  refine (each_0 x y _).mono ?_
  rintro e w' ⟨rfl, rfl⟩
  go_wp2
  go_ret3
  exact ⟨rfl, rfl⟩
set_option maxRecDepth 100000 in
theorem bin_114 (a b : Nat) (wo : World) (ha : a < 18446744073709551616) (hb : b < 18446744073709551616) :
    Calls Try.prog 67 #[.int .i64 114, .int .u64 (a : Int), .int .u64 (b : Int)] wo (Is3 wo (binVal 18 32 (cutN a 32) (cutN b 32)).1 (binVal 18 32 (cutN a 32) (cutN b 32)).2 true) := by
  have HCA := Lib.hid (fun W => cut_any a 32 32 wide32 ha W)
  have HCB := Lib.hid (fun W => cut_any b 32 32 wide32 hb W)
  have hx : cutN a 32 < 4294967296 := cut_lt a 32
  have hy : cutN b 32 < 4294967296 := cut_lt b 32
  clear ha hb
  generalize cutN a 32 = x at *
  generalize cutN b 32 = y at *
  have HX := Lib.hid hx
  have HY := Lib.hid hy
  clear hx hy
  go_enter Try.func67, Try.ntmps67
  go_wp2_with fail
  refine (HCA.out _).mono ?_
  rintro e w' ⟨rfl, rfl⟩
  go_wp2_with fail
  refine (HCB.out _).mono ?_
  rintro e w' ⟨rfl, rfl⟩
  go_wp2_with fail
  refine (each_1 x y _).mono ?_
  rintro e w' ⟨rfl, rfl⟩
  go_wp2
  go_ret3
  exact ⟨rfl, rfl⟩
set_option maxRecDepth 100000 in
theorem bin_115 (a b : Nat) (wo : World) (ha : a < 18446744073709551616) (hb : b < 18446744073709551616) :
    Calls Try.prog 67 #[.int .i64 115, .int .u64 (a : Int), .int .u64 (b : Int)] wo (Is3 wo (binVal 19 32 (cutN a 32) (cutN b 32)).1 (binVal 19 32 (cutN a 32) (cutN b 32)).2 true) := by
  have HCA := Lib.hid (fun W => cut_any a 32 32 wide32 ha W)
  have HCB := Lib.hid (fun W => cut_any b 32 32 wide32 hb W)
  have hx : cutN a 32 < 4294967296 := cut_lt a 32
  have hy : cutN b 32 < 4294967296 := cut_lt b 32
  clear ha hb
  generalize cutN a 32 = x at *
  generalize cutN b 32 = y at *
  have HX := Lib.hid hx
  have HY := Lib.hid hy
  clear hx hy
  go_enter Try.func67, Try.ntmps67
  go_wp2_with fail
  refine (HCA.out _).mono ?_
  rintro e w' ⟨rfl, rfl⟩
  go_wp2_with fail
  refine (HCB.out _).mono ?_
  rintro e w' ⟨rfl, rfl⟩
  go_wp2_with fail
  refine (each_2 x y _).mono ?_
  rintro e w' ⟨rfl, rfl⟩
  go_wp2
  go_ret3
  exact ⟨rfl, rfl⟩
set_option maxRecDepth 100000 in
theorem bin_116 (a b : Nat) (wo : World) (ha : a < 18446744073709551616) (hb : b < 18446744073709551616) :
    Calls Try.prog 67 #[.int .i64 116, .int .u64 (a : Int), .int .u64 (b : Int)] wo (Is3 wo (binVal 20 32 (cutN a 32) (cutN b 32)).1 (binVal 20 32 (cutN a 32) (cutN b 32)).2 true) := by
  have HCA := Lib.hid (fun W => cut_any a 32 32 wide32 ha W)
  have HCB := Lib.hid (fun W => cut_any b 32 32 wide32 hb W)
  have hx : cutN a 32 < 4294967296 := cut_lt a 32
  have hy : cutN b 32 < 4294967296 := cut_lt b 32
  clear ha hb
  generalize cutN a 32 = x at *
  generalize cutN b 32 = y at *
  have HX := Lib.hid hx
  have HY := Lib.hid hy
  clear hx hy
  obtain ⟨s, hs⟩ : ∃ s, y % 32 = s := ⟨_, rfl⟩
  have hsl : s < 32 := by omega
  have HS : Hid ((y : Int) % 32 = (s : Int)) := Lib.hid (by omega)
  have HSS := Lib.hid hs
  clear hs
  go_enter Try.func67, Try.ntmps67
  go_wp2_with fail
  refine (HCA.out _).mono ?_
  rintro e w' ⟨rfl, rfl⟩
  go_wp2_with fail
  refine (HCB.out _).mono ?_
  rintro e w' ⟨rfl, rfl⟩
  go_wp2_with fail
  rw [HS.out]
  refine (up_32 x s _ hsl).mono ?_
  rintro e w' ⟨rfl, rfl⟩
  go_wp2
  go_ret3
  exact ⟨ret_3 (by rw [← HSS.out]; rfl), rfl⟩
set_option maxRecDepth 100000 in
theorem bin_117 (a b : Nat) (wo : World) (ha : a < 18446744073709551616) (hb : b < 18446744073709551616) :
    Calls Try.prog 67 #[.int .i64 117, .int .u64 (a : Int), .int .u64 (b : Int)] wo (Is3 wo (binVal 21 32 (cutN a 32) (cutN b 32)).1 (binVal 21 32 (cutN a 32) (cutN b 32)).2 true) := by
  have HCA := Lib.hid (fun W => cut_any a 32 32 wide32 ha W)
  have HCB := Lib.hid (fun W => cut_any b 32 32 wide32 hb W)
  have hx : cutN a 32 < 4294967296 := cut_lt a 32
  have hy : cutN b 32 < 4294967296 := cut_lt b 32
  clear ha hb
  generalize cutN a 32 = x at *
  generalize cutN b 32 = y at *
  have HX := Lib.hid hx
  have HY := Lib.hid hy
  clear hx hy
  obtain ⟨s, hs⟩ : ∃ s, y % 32 = s := ⟨_, rfl⟩
  have hsl : s < 32 := by omega
  have HS : Hid ((y : Int) % 32 = (s : Int)) := Lib.hid (by omega)
  have HSS := Lib.hid hs
  clear hs
  have HB := Lib.hid (fun W => bit_any x 31 W (by omega))
  have hB1 := bitN_le x 31
  obtain ⟨f, hf⟩ : ∃ f, bitN x 31 = f := ⟨_, rfl⟩
  rw [hf] at HB hB1
  have HF := Lib.hid hf
  clear hf
  go_enter Try.func67, Try.ntmps67
  go_wp2_with fail
  refine (HCA.out _).mono ?_
  rintro e w' ⟨rfl, rfl⟩
  go_wp2_with fail
  refine (HCB.out _).mono ?_
  rintro e w' ⟨rfl, rfl⟩
  go_wp2_with fail
  refine (HB.out _).mono ?_
  rintro e w' ⟨rfl, rfl⟩
  go_wp2_with fail
  rw [HS.out]
  refine (down_32 x s f _ hsl hB1).mono ?_
  rintro e w' ⟨rfl, rfl⟩
  go_wp2
  go_ret3
  exact ⟨ret_3 (by rw [← HSS.out, ← HF.out]; rfl), rfl⟩
set_option maxRecDepth 100000 in
theorem bin_118 (a b : Nat) (wo : World) (ha : a < 18446744073709551616) (hb : b < 18446744073709551616) :
    Calls Try.prog 67 #[.int .i64 118, .int .u64 (a : Int), .int .u64 (b : Int)] wo (Is3 wo (binVal 22 32 (cutN a 32) (cutN b 32)).1 (binVal 22 32 (cutN a 32) (cutN b 32)).2 true) := by
  have HCA := Lib.hid (fun W => cut_any a 32 32 wide32 ha W)
  have HCB := Lib.hid (fun W => cut_any b 32 32 wide32 hb W)
  have hx : cutN a 32 < 4294967296 := cut_lt a 32
  have hy : cutN b 32 < 4294967296 := cut_lt b 32
  clear ha hb
  generalize cutN a 32 = x at *
  generalize cutN b 32 = y at *
  have HX := Lib.hid hx
  have HY := Lib.hid hy
  clear hx hy
  obtain ⟨s, hs⟩ : ∃ s, y % 32 = s := ⟨_, rfl⟩
  have hsl : s < 32 := by omega
  have HS : Hid ((y : Int) % 32 = (s : Int)) := Lib.hid (by omega)
  have HSS := Lib.hid hs
  clear hs
  go_enter Try.func67, Try.ntmps67
  go_wp2_with fail
  refine (HCA.out _).mono ?_
  rintro e w' ⟨rfl, rfl⟩
  go_wp2_with fail
  refine (HCB.out _).mono ?_
  rintro e w' ⟨rfl, rfl⟩
  go_wp2_with fail
  rw [HS.out]
  refine (down_32 x s 0 _ hsl (by omega)).mono ?_
  rintro e w' ⟨rfl, rfl⟩
  go_wp2
  go_ret3
  exact ⟨ret_3 (by rw [← HSS.out]; rfl), rfl⟩
set_option maxRecDepth 100000 in
theorem bin_119 (a b : Nat) (wo : World) (ha : a < 18446744073709551616) (hb : b < 18446744073709551616) :
    Calls Try.prog 67 #[.int .i64 119, .int .u64 (a : Int), .int .u64 (b : Int)] wo (Is3 wo (binVal 23 32 (cutN a 32) (cutN b 32)).1 (binVal 23 32 (cutN a 32) (cutN b 32)).2 true) := by
  have HCA := Lib.hid (fun W => cut_any a 32 32 wide32 ha W)
  have HCB := Lib.hid (fun W => cut_any b 32 32 wide32 hb W)
  have hx : cutN a 32 < 4294967296 := cut_lt a 32
  have hy : cutN b 32 < 4294967296 := cut_lt b 32
  clear ha hb
  generalize cutN a 32 = x at *
  generalize cutN b 32 = y at *
  have HX := Lib.hid hx
  have HY := Lib.hid hy
  clear hx hy
  obtain ⟨s, hs⟩ : ∃ s, y % 32 = s := ⟨_, rfl⟩
  have hsl : s < 32 := by omega
  have HS : Hid ((y : Int) % 32 = (s : Int)) := Lib.hid (by omega)
  have HSS := Lib.hid hs
  clear hs
  go_enter Try.func67, Try.ntmps67
  go_wp2_with fail
  refine (HCA.out _).mono ?_
  rintro e w' ⟨rfl, rfl⟩
  go_wp2_with fail
  refine (HCB.out _).mono ?_
  rintro e w' ⟨rfl, rfl⟩
  go_wp2_with fail
  rw [HS.out]
  refine (turned_32 x s _ (by omega)).mono ?_
  rintro e w' ⟨rfl, rfl⟩
  go_wp2
  go_ret3
  exact ⟨ret_3 (by rw [← HSS.out]; rfl), rfl⟩
set_option maxRecDepth 100000 in
theorem bin_120 (a b : Nat) (wo : World) (ha : a < 18446744073709551616) (hb : b < 18446744073709551616) :
    Calls Try.prog 67 #[.int .i64 120, .int .u64 (a : Int), .int .u64 (b : Int)] wo (Is3 wo (binVal 24 32 (cutN a 32) (cutN b 32)).1 (binVal 24 32 (cutN a 32) (cutN b 32)).2 true) := by
  have HCA := Lib.hid (fun W => cut_any a 32 32 wide32 ha W)
  have HCB := Lib.hid (fun W => cut_any b 32 32 wide32 hb W)
  have hx : cutN a 32 < 4294967296 := cut_lt a 32
  have hy : cutN b 32 < 4294967296 := cut_lt b 32
  clear ha hb
  generalize cutN a 32 = x at *
  generalize cutN b 32 = y at *
  have HX := Lib.hid hx
  have HY := Lib.hid hy
  clear hx hy
  obtain ⟨s, hs⟩ : ∃ s, y % 32 = s := ⟨_, rfl⟩
  have hsl : s < 32 := by omega
  have HS : Hid ((y : Int) % 32 = (s : Int)) := Lib.hid (by omega)
  have HSS := Lib.hid hs
  clear hs
  go_enter Try.func67, Try.ntmps67
  go_wp2_with fail
  refine (HCA.out _).mono ?_
  rintro e w' ⟨rfl, rfl⟩
  go_wp2_with fail
  refine (HCB.out _).mono ?_
  rintro e w' ⟨rfl, rfl⟩
  go_wp2_with fail
  rw [HS.out, show ((32 : Int) - (s : Int)) = ((32 - s : Nat) : Int) from by omega]
  refine (turned_32 x (32 - s) _ (by omega)).mono ?_
  rintro e w' ⟨rfl, rfl⟩
  go_wp2
  go_ret3
  exact ⟨ret_3 (by rw [← HSS.out]; rfl), rfl⟩
set_option maxRecDepth 100000 in
theorem bin_131 (a b : Nat) (wo : World) (ha : a < 18446744073709551616) (hb : b < 18446744073709551616) :
    Calls Try.prog 67 #[.int .i64 131, .int .u64 (a : Int), .int .u64 (b : Int)] wo (Is3 wo (binVal 17 64 (cutN a 64) (cutN b 64)).1 (binVal 17 64 (cutN a 64) (cutN b 64)).2 true) := by
  have HCA := Lib.hid (fun W => cut_any a 64 64 wide64 ha W)
  have HCB := Lib.hid (fun W => cut_any b 64 64 wide64 hb W)
  have hx : cutN a 64 < 18446744073709551616 := cut_lt a 64
  have hy : cutN b 64 < 18446744073709551616 := cut_lt b 64
  clear ha hb
  generalize cutN a 64 = x at *
  generalize cutN b 64 = y at *
  have HX := Lib.hid hx
  have HY := Lib.hid hy
  clear hx hy
  go_enter Try.func67, Try.ntmps67
  go_wp2_with fail
  refine (HCA.out _).mono ?_
  rintro e w' ⟨rfl, rfl⟩
  go_wp2_with fail
  refine (HCB.out _).mono ?_
  rintro e w' ⟨rfl, rfl⟩
  go_wp2_with fail
  refine (each_0 x y _).mono ?_
  rintro e w' ⟨rfl, rfl⟩
  go_wp2
  go_ret3
  exact ⟨rfl, rfl⟩
set_option maxRecDepth 100000 in
theorem bin_132 (a b : Nat) (wo : World) (ha : a < 18446744073709551616) (hb : b < 18446744073709551616) :
    Calls Try.prog 67 #[.int .i64 132, .int .u64 (a : Int), .int .u64 (b : Int)] wo (Is3 wo (binVal 18 64 (cutN a 64) (cutN b 64)).1 (binVal 18 64 (cutN a 64) (cutN b 64)).2 true) := by
  have HCA := Lib.hid (fun W => cut_any a 64 64 wide64 ha W)
  have HCB := Lib.hid (fun W => cut_any b 64 64 wide64 hb W)
  have hx : cutN a 64 < 18446744073709551616 := cut_lt a 64
  have hy : cutN b 64 < 18446744073709551616 := cut_lt b 64
  clear ha hb
  generalize cutN a 64 = x at *
  generalize cutN b 64 = y at *
  have HX := Lib.hid hx
  have HY := Lib.hid hy
  clear hx hy
  go_enter Try.func67, Try.ntmps67
  go_wp2_with fail
  refine (HCA.out _).mono ?_
  rintro e w' ⟨rfl, rfl⟩
  go_wp2_with fail
  refine (HCB.out _).mono ?_
  rintro e w' ⟨rfl, rfl⟩
  go_wp2_with fail
  refine (each_1 x y _).mono ?_
  rintro e w' ⟨rfl, rfl⟩
  go_wp2
  go_ret3
  exact ⟨rfl, rfl⟩
set_option maxRecDepth 100000 in
theorem bin_133 (a b : Nat) (wo : World) (ha : a < 18446744073709551616) (hb : b < 18446744073709551616) :
    Calls Try.prog 67 #[.int .i64 133, .int .u64 (a : Int), .int .u64 (b : Int)] wo (Is3 wo (binVal 19 64 (cutN a 64) (cutN b 64)).1 (binVal 19 64 (cutN a 64) (cutN b 64)).2 true) := by
  have HCA := Lib.hid (fun W => cut_any a 64 64 wide64 ha W)
  have HCB := Lib.hid (fun W => cut_any b 64 64 wide64 hb W)
  have hx : cutN a 64 < 18446744073709551616 := cut_lt a 64
  have hy : cutN b 64 < 18446744073709551616 := cut_lt b 64
  clear ha hb
  generalize cutN a 64 = x at *
  generalize cutN b 64 = y at *
  have HX := Lib.hid hx
  have HY := Lib.hid hy
  clear hx hy
  go_enter Try.func67, Try.ntmps67
  go_wp2_with fail
  refine (HCA.out _).mono ?_
  rintro e w' ⟨rfl, rfl⟩
  go_wp2_with fail
  refine (HCB.out _).mono ?_
  rintro e w' ⟨rfl, rfl⟩
  go_wp2_with fail
  refine (each_2 x y _).mono ?_
  rintro e w' ⟨rfl, rfl⟩
  go_wp2
  go_ret3
  exact ⟨rfl, rfl⟩
set_option maxRecDepth 100000 in
theorem bin_134 (a b : Nat) (wo : World) (ha : a < 18446744073709551616) (hb : b < 18446744073709551616) :
    Calls Try.prog 67 #[.int .i64 134, .int .u64 (a : Int), .int .u64 (b : Int)] wo (Is3 wo (binVal 20 64 (cutN a 64) (cutN b 64)).1 (binVal 20 64 (cutN a 64) (cutN b 64)).2 true) := by
  have HCA := Lib.hid (fun W => cut_any a 64 64 wide64 ha W)
  have HCB := Lib.hid (fun W => cut_any b 64 64 wide64 hb W)
  have hx : cutN a 64 < 18446744073709551616 := cut_lt a 64
  have hy : cutN b 64 < 18446744073709551616 := cut_lt b 64
  clear ha hb
  generalize cutN a 64 = x at *
  generalize cutN b 64 = y at *
  have HX := Lib.hid hx
  have HY := Lib.hid hy
  clear hx hy
  obtain ⟨s, hs⟩ : ∃ s, y % 64 = s := ⟨_, rfl⟩
  have hsl : s < 64 := by omega
  have HS : Hid ((y : Int) % 64 = (s : Int)) := Lib.hid (by omega)
  have HSS := Lib.hid hs
  clear hs
  go_enter Try.func67, Try.ntmps67
  go_wp2_with fail
  refine (HCA.out _).mono ?_
  rintro e w' ⟨rfl, rfl⟩
  go_wp2_with fail
  refine (HCB.out _).mono ?_
  rintro e w' ⟨rfl, rfl⟩
  go_wp2_with fail
  rw [HS.out]
  refine (up_64 x s _ hsl).mono ?_
  rintro e w' ⟨rfl, rfl⟩
  go_wp2
  go_ret3
  exact ⟨ret_3 (by rw [← HSS.out]; rfl), rfl⟩
set_option maxRecDepth 100000 in
theorem bin_135 (a b : Nat) (wo : World) (ha : a < 18446744073709551616) (hb : b < 18446744073709551616) :
    Calls Try.prog 67 #[.int .i64 135, .int .u64 (a : Int), .int .u64 (b : Int)] wo (Is3 wo (binVal 21 64 (cutN a 64) (cutN b 64)).1 (binVal 21 64 (cutN a 64) (cutN b 64)).2 true) := by
  have HCA := Lib.hid (fun W => cut_any a 64 64 wide64 ha W)
  have HCB := Lib.hid (fun W => cut_any b 64 64 wide64 hb W)
  have hx : cutN a 64 < 18446744073709551616 := cut_lt a 64
  have hy : cutN b 64 < 18446744073709551616 := cut_lt b 64
  clear ha hb
  generalize cutN a 64 = x at *
  generalize cutN b 64 = y at *
  have HX := Lib.hid hx
  have HY := Lib.hid hy
  clear hx hy
  obtain ⟨s, hs⟩ : ∃ s, y % 64 = s := ⟨_, rfl⟩
  have hsl : s < 64 := by omega
  have HS : Hid ((y : Int) % 64 = (s : Int)) := Lib.hid (by omega)
  have HSS := Lib.hid hs
  clear hs
  have HB := Lib.hid (fun W => bit_any x 63 W (by omega))
  have hB1 := bitN_le x 63
  obtain ⟨f, hf⟩ : ∃ f, bitN x 63 = f := ⟨_, rfl⟩
  rw [hf] at HB hB1
  have HF := Lib.hid hf
  clear hf
  go_enter Try.func67, Try.ntmps67
  go_wp2_with fail
  refine (HCA.out _).mono ?_
  rintro e w' ⟨rfl, rfl⟩
  go_wp2_with fail
  refine (HCB.out _).mono ?_
  rintro e w' ⟨rfl, rfl⟩
  go_wp2_with fail
  refine (HB.out _).mono ?_
  rintro e w' ⟨rfl, rfl⟩
  go_wp2_with fail
  rw [HS.out]
  refine (down_64 x s f _ hsl hB1).mono ?_
  rintro e w' ⟨rfl, rfl⟩
  go_wp2
  go_ret3
  exact ⟨ret_3 (by rw [← HSS.out, ← HF.out]; rfl), rfl⟩
set_option maxRecDepth 100000 in
theorem bin_136 (a b : Nat) (wo : World) (ha : a < 18446744073709551616) (hb : b < 18446744073709551616) :
    Calls Try.prog 67 #[.int .i64 136, .int .u64 (a : Int), .int .u64 (b : Int)] wo (Is3 wo (binVal 22 64 (cutN a 64) (cutN b 64)).1 (binVal 22 64 (cutN a 64) (cutN b 64)).2 true) := by
  have HCA := Lib.hid (fun W => cut_any a 64 64 wide64 ha W)
  have HCB := Lib.hid (fun W => cut_any b 64 64 wide64 hb W)
  have hx : cutN a 64 < 18446744073709551616 := cut_lt a 64
  have hy : cutN b 64 < 18446744073709551616 := cut_lt b 64
  clear ha hb
  generalize cutN a 64 = x at *
  generalize cutN b 64 = y at *
  have HX := Lib.hid hx
  have HY := Lib.hid hy
  clear hx hy
  obtain ⟨s, hs⟩ : ∃ s, y % 64 = s := ⟨_, rfl⟩
  have hsl : s < 64 := by omega
  have HS : Hid ((y : Int) % 64 = (s : Int)) := Lib.hid (by omega)
  have HSS := Lib.hid hs
  clear hs
  go_enter Try.func67, Try.ntmps67
  go_wp2_with fail
  refine (HCA.out _).mono ?_
  rintro e w' ⟨rfl, rfl⟩
  go_wp2_with fail
  refine (HCB.out _).mono ?_
  rintro e w' ⟨rfl, rfl⟩
  go_wp2_with fail
  rw [HS.out]
  refine (down_64 x s 0 _ hsl (by omega)).mono ?_
  rintro e w' ⟨rfl, rfl⟩
  go_wp2
  go_ret3
  exact ⟨ret_3 (by rw [← HSS.out]; rfl), rfl⟩
set_option maxRecDepth 100000 in
theorem bin_137 (a b : Nat) (wo : World) (ha : a < 18446744073709551616) (hb : b < 18446744073709551616) :
    Calls Try.prog 67 #[.int .i64 137, .int .u64 (a : Int), .int .u64 (b : Int)] wo (Is3 wo (binVal 23 64 (cutN a 64) (cutN b 64)).1 (binVal 23 64 (cutN a 64) (cutN b 64)).2 true) := by
  have HCA := Lib.hid (fun W => cut_any a 64 64 wide64 ha W)
  have HCB := Lib.hid (fun W => cut_any b 64 64 wide64 hb W)
  have hx : cutN a 64 < 18446744073709551616 := cut_lt a 64
  have hy : cutN b 64 < 18446744073709551616 := cut_lt b 64
  clear ha hb
  generalize cutN a 64 = x at *
  generalize cutN b 64 = y at *
  have HX := Lib.hid hx
  have HY := Lib.hid hy
  clear hx hy
  obtain ⟨s, hs⟩ : ∃ s, y % 64 = s := ⟨_, rfl⟩
  have hsl : s < 64 := by omega
  have HS : Hid ((y : Int) % 64 = (s : Int)) := Lib.hid (by omega)
  have HSS := Lib.hid hs
  clear hs
  go_enter Try.func67, Try.ntmps67
  go_wp2_with fail
  refine (HCA.out _).mono ?_
  rintro e w' ⟨rfl, rfl⟩
  go_wp2_with fail
  refine (HCB.out _).mono ?_
  rintro e w' ⟨rfl, rfl⟩
  go_wp2_with fail
  rw [HS.out]
  refine (turned_64 x s _ (by omega)).mono ?_
  rintro e w' ⟨rfl, rfl⟩
  go_wp2
  go_ret3
  exact ⟨ret_3 (by rw [← HSS.out]; rfl), rfl⟩
set_option maxRecDepth 100000 in
theorem bin_138 (a b : Nat) (wo : World) (ha : a < 18446744073709551616) (hb : b < 18446744073709551616) :
    Calls Try.prog 67 #[.int .i64 138, .int .u64 (a : Int), .int .u64 (b : Int)] wo (Is3 wo (binVal 24 64 (cutN a 64) (cutN b 64)).1 (binVal 24 64 (cutN a 64) (cutN b 64)).2 true) := by
  have HCA := Lib.hid (fun W => cut_any a 64 64 wide64 ha W)
  have HCB := Lib.hid (fun W => cut_any b 64 64 wide64 hb W)
  have hx : cutN a 64 < 18446744073709551616 := cut_lt a 64
  have hy : cutN b 64 < 18446744073709551616 := cut_lt b 64
  clear ha hb
  generalize cutN a 64 = x at *
  generalize cutN b 64 = y at *
  have HX := Lib.hid hx
  have HY := Lib.hid hy
  clear hx hy
  obtain ⟨s, hs⟩ : ∃ s, y % 64 = s := ⟨_, rfl⟩
  have hsl : s < 64 := by omega
  have HS : Hid ((y : Int) % 64 = (s : Int)) := Lib.hid (by omega)
  have HSS := Lib.hid hs
  clear hs
  go_enter Try.func67, Try.ntmps67
  go_wp2_with fail
  refine (HCA.out _).mono ?_
  rintro e w' ⟨rfl, rfl⟩
  go_wp2_with fail
  refine (HCB.out _).mono ?_
  rintro e w' ⟨rfl, rfl⟩
  go_wp2_with fail
  rw [HS.out, show ((64 : Int) - (s : Int)) = ((64 - s : Nat) : Int) from by omega]
  refine (turned_64 x (64 - s) _ (by omega)).mono ?_
  rintro e w' ⟨rfl, rfl⟩
  go_wp2
  go_ret3
  exact ⟨ret_3 (by rw [← HSS.out]; rfl), rfl⟩
end Go.Proofs.Ytdipgokbfjbgfaa.Num
namespace Go.Proofs.Ytdipgokbfjbgfaa.Num
open Go.RowKit

/-- What an operation of two numbers answers: the value, the trap, whether there is one. -/
def binAll (op : Int) (a b : Nat) : Nat × Nat × Bool :=
  if 70 ≤ op ∧ op ≤ 79 then ((binVal (op - 70).toNat 32 (cutN a 32) (cutN b 32)).1, (binVal (op - 70).toNat 32 (cutN a 32) (cutN b 32)).2, true)
  else if 81 ≤ op ∧ op ≤ 90 then ((binVal (op - 81).toNat 64 (cutN a 64) (cutN b 64)).1, (binVal (op - 81).toNat 64 (cutN a 64) (cutN b 64)).2, true)
  else if 106 ≤ op ∧ op ≤ 120 then ((binVal ((op - 106).toNat + 10) 32 (cutN a 32) (cutN b 32)).1, (binVal ((op - 106).toNat + 10) 32 (cutN a 32) (cutN b 32)).2, true)
  else if 124 ≤ op ∧ op ≤ 138 then ((binVal ((op - 124).toNat + 10) 64 (cutN a 64) (cutN b 64)).1, (binVal ((op - 124).toNat + 10) 64 (cutN a 64) (cutN b 64)).2, true)
  else (0, 0, false)
set_option maxRecDepth 100000 in
theorem bin_none_0 (op : Int) (a b : Nat) (wo : World) (h : op ≤ 69) :
    Calls Try.prog 67 #[.int .i64 op, .int .u64 (a : Int), .int .u64 (b : Int)] wo (Is3 wo 0 0 false) := by
  have g70 : ¬ 70 ≤ op := by omega
  have g81 : ¬ 81 ≤ op := by omega
  have g106 : ¬ 106 ≤ op := by omega
  have g124 : ¬ 124 ≤ op := by omega
  have l79 : op ≤ 79 := by omega
  have l90 : op ≤ 90 := by omega
  have l120 : op ≤ 120 := by omega
  have l138 : op ≤ 138 := by omega
  clear h
  go_enter Try.func67, Try.ntmps67
  go_wp2
  go_ret3
  exact ⟨rfl, rfl⟩
set_option maxRecDepth 100000 in
theorem bin_none_1 (op : Int) (a b : Nat) (wo : World) (h : 80 ≤ op ∧ op ≤ 80) :
    Calls Try.prog 67 #[.int .i64 op, .int .u64 (a : Int), .int .u64 (b : Int)] wo (Is3 wo 0 0 false) := by
  have g70 : 70 ≤ op := by omega
  have g81 : ¬ 81 ≤ op := by omega
  have g106 : ¬ 106 ≤ op := by omega
  have g124 : ¬ 124 ≤ op := by omega
  have l79 : ¬ op ≤ 79 := by omega
  have l90 : op ≤ 90 := by omega
  have l120 : op ≤ 120 := by omega
  have l138 : op ≤ 138 := by omega
  clear h
  go_enter Try.func67, Try.ntmps67
  go_wp2
  go_ret3
  exact ⟨rfl, rfl⟩
set_option maxRecDepth 100000 in
theorem bin_none_2 (op : Int) (a b : Nat) (wo : World) (h : 91 ≤ op ∧ op ≤ 105) :
    Calls Try.prog 67 #[.int .i64 op, .int .u64 (a : Int), .int .u64 (b : Int)] wo (Is3 wo 0 0 false) := by
  have g70 : 70 ≤ op := by omega
  have g81 : 81 ≤ op := by omega
  have g106 : ¬ 106 ≤ op := by omega
  have g124 : ¬ 124 ≤ op := by omega
  have l79 : ¬ op ≤ 79 := by omega
  have l90 : ¬ op ≤ 90 := by omega
  have l120 : op ≤ 120 := by omega
  have l138 : op ≤ 138 := by omega
  clear h
  go_enter Try.func67, Try.ntmps67
  go_wp2
  go_ret3
  exact ⟨rfl, rfl⟩
set_option maxRecDepth 100000 in
theorem bin_none_3 (op : Int) (a b : Nat) (wo : World) (h : 121 ≤ op ∧ op ≤ 123) :
    Calls Try.prog 67 #[.int .i64 op, .int .u64 (a : Int), .int .u64 (b : Int)] wo (Is3 wo 0 0 false) := by
  have g70 : 70 ≤ op := by omega
  have g81 : 81 ≤ op := by omega
  have g106 : 106 ≤ op := by omega
  have g124 : ¬ 124 ≤ op := by omega
  have l79 : ¬ op ≤ 79 := by omega
  have l90 : ¬ op ≤ 90 := by omega
  have l120 : ¬ op ≤ 120 := by omega
  have l138 : op ≤ 138 := by omega
  clear h
  go_enter Try.func67, Try.ntmps67
  go_wp2
  go_ret3
  exact ⟨rfl, rfl⟩
set_option maxRecDepth 100000 in
theorem bin_none_4 (op : Int) (a b : Nat) (wo : World) (h : 139 ≤ op) :
    Calls Try.prog 67 #[.int .i64 op, .int .u64 (a : Int), .int .u64 (b : Int)] wo (Is3 wo 0 0 false) := by
  have g70 : 70 ≤ op := by omega
  have g81 : 81 ≤ op := by omega
  have g106 : 106 ≤ op := by omega
  have g124 : 124 ≤ op := by omega
  have l79 : ¬ op ≤ 79 := by omega
  have l90 : ¬ op ≤ 90 := by omega
  have l120 : ¬ op ≤ 120 := by omega
  have l138 : ¬ op ≤ 138 := by omega
  clear h
  go_enter Try.func67, Try.ntmps67
  go_wp2
  go_ret3
  exact ⟨rfl, rfl⟩
theorem rbin_any (op : Int) (a b : Nat) (wo : World) (ha : a < 18446744073709551616) (hb : b < 18446744073709551616) :
    Calls Try.prog 67 #[.int .i64 op, .int .u64 (a : Int), .int .u64 (b : Int)] wo (Is3 wo (binAll op a b).1 (binAll op a b).2.1 (binAll op a b).2.2) := by
  unfold binAll
  by_cases c0 : 70 ≤ op ∧ op ≤ 79
  · rw [if_pos c0]
    have hc : op = 70 ∨ op = 71 ∨ op = 72 ∨ op = 73 ∨ op = 74 ∨ op = 75 ∨ op = 76 ∨ op = 77 ∨ op = 78 ∨ op = 79 := by omega
    rcases hc with rfl | rfl | rfl | rfl | rfl | rfl | rfl | rfl | rfl | rfl
    · exact bin_70 a b wo ha hb
    · exact bin_71 a b wo ha hb
    · exact bin_72 a b wo ha hb
    · exact bin_73 a b wo ha hb
    · exact bin_74 a b wo ha hb
    · exact bin_75 a b wo ha hb
    · exact bin_76 a b wo ha hb
    · exact bin_77 a b wo ha hb
    · exact bin_78 a b wo ha hb
    · exact bin_79 a b wo ha hb
  rw [if_neg c0]
  by_cases c1 : 81 ≤ op ∧ op ≤ 90
  · rw [if_pos c1]
    have hc : op = 81 ∨ op = 82 ∨ op = 83 ∨ op = 84 ∨ op = 85 ∨ op = 86 ∨ op = 87 ∨ op = 88 ∨ op = 89 ∨ op = 90 := by omega
    rcases hc with rfl | rfl | rfl | rfl | rfl | rfl | rfl | rfl | rfl | rfl
    · exact bin_81 a b wo ha hb
    · exact bin_82 a b wo ha hb
    · exact bin_83 a b wo ha hb
    · exact bin_84 a b wo ha hb
    · exact bin_85 a b wo ha hb
    · exact bin_86 a b wo ha hb
    · exact bin_87 a b wo ha hb
    · exact bin_88 a b wo ha hb
    · exact bin_89 a b wo ha hb
    · exact bin_90 a b wo ha hb
  rw [if_neg c1]
  by_cases c2 : 106 ≤ op ∧ op ≤ 120
  · rw [if_pos c2]
    have hc : op = 106 ∨ op = 107 ∨ op = 108 ∨ op = 109 ∨ op = 110 ∨ op = 111 ∨ op = 112 ∨ op = 113 ∨ op = 114 ∨ op = 115 ∨ op = 116 ∨ op = 117 ∨ op = 118 ∨ op = 119 ∨ op = 120 := by omega
    rcases hc with rfl | rfl | rfl | rfl | rfl | rfl | rfl | rfl | rfl | rfl | rfl | rfl | rfl | rfl | rfl
    · exact bin_106 a b wo ha hb
    · exact bin_107 a b wo ha hb
    · exact bin_108 a b wo ha hb
    · exact bin_109 a b wo ha hb
    · exact bin_110 a b wo ha hb
    · exact bin_111 a b wo ha hb
    · exact bin_112 a b wo ha hb
    · exact bin_113 a b wo ha hb
    · exact bin_114 a b wo ha hb
    · exact bin_115 a b wo ha hb
    · exact bin_116 a b wo ha hb
    · exact bin_117 a b wo ha hb
    · exact bin_118 a b wo ha hb
    · exact bin_119 a b wo ha hb
    · exact bin_120 a b wo ha hb
  rw [if_neg c2]
  by_cases c3 : 124 ≤ op ∧ op ≤ 138
  · rw [if_pos c3]
    have hc : op = 124 ∨ op = 125 ∨ op = 126 ∨ op = 127 ∨ op = 128 ∨ op = 129 ∨ op = 130 ∨ op = 131 ∨ op = 132 ∨ op = 133 ∨ op = 134 ∨ op = 135 ∨ op = 136 ∨ op = 137 ∨ op = 138 := by omega
    rcases hc with rfl | rfl | rfl | rfl | rfl | rfl | rfl | rfl | rfl | rfl | rfl | rfl | rfl | rfl | rfl
    · exact bin_124 a b wo ha hb
    · exact bin_125 a b wo ha hb
    · exact bin_126 a b wo ha hb
    · exact bin_127 a b wo ha hb
    · exact bin_128 a b wo ha hb
    · exact bin_129 a b wo ha hb
    · exact bin_130 a b wo ha hb
    · exact bin_131 a b wo ha hb
    · exact bin_132 a b wo ha hb
    · exact bin_133 a b wo ha hb
    · exact bin_134 a b wo ha hb
    · exact bin_135 a b wo ha hb
    · exact bin_136 a b wo ha hb
    · exact bin_137 a b wo ha hb
    · exact bin_138 a b wo ha hb
  rw [if_neg c3]
  by_cases d0 : op ≤ 69
  · exact bin_none_0 op a b wo d0
  by_cases d1 : op ≤ 80
  · exact bin_none_1 op a b wo (by omega)
  by_cases d2 : op ≤ 105
  · exact bin_none_2 op a b wo (by omega)
  by_cases d3 : op ≤ 123
  · exact bin_none_3 op a b wo (by omega)
  exact bin_none_4 op a b wo (by omega)
end Go.Proofs.Ytdipgokbfjbgfaa.Num
namespace Go.Proofs.Ytdipgokbfjbgfaa.Num
open Go.RowKit

/-- The type of what an operation takes. -/
def inVal (op : Int) : Int := if 80 ≤ op ∧ op ≤ 90 ∨ 121 ≤ op ∧ op ≤ 138 ∨ op = 167 ∨ 194 ≤ op ∧ op ≤ 196 then 126 else 127
theorem func32_0 (op : Int) (wo : World) (h : op ≤ 79) : Calls Try.prog 65 #[.int .i64 op] wo fun e w' => e = .returned (.int .i64 127) ∧ wo = w' := by
  have g80 : ¬ 80 ≤ op := by omega
  have g121 : ¬ 121 ≤ op := by omega
  have g194 : ¬ 194 ≤ op := by omega
  have l90 : op ≤ 90 := by omega
  have l138 : op ≤ 138 := by omega
  have l196 : op ≤ 196 := by omega
  have e167 : (op == 167) = false := by simp; omega
  clear h
  go_enter Try.func65, Try.ntmps65
  go_wp2
  go_ret
  exact ⟨rfl, rfl⟩
theorem func32_1 (op : Int) (wo : World) (h : 80 ≤ op ∧ op ≤ 90) : Calls Try.prog 65 #[.int .i64 op] wo fun e w' => e = .returned (.int .i64 126) ∧ wo = w' := by
  have g80 : 80 ≤ op := by omega
  have g121 : ¬ 121 ≤ op := by omega
  have g194 : ¬ 194 ≤ op := by omega
  have l90 : op ≤ 90 := by omega
  have l138 : op ≤ 138 := by omega
  have l196 : op ≤ 196 := by omega
  have e167 : (op == 167) = false := by simp; omega
  clear h
  go_enter Try.func65, Try.ntmps65
  go_wp2
  go_ret
  exact ⟨rfl, rfl⟩
theorem func32_2 (op : Int) (wo : World) (h : 91 ≤ op ∧ op ≤ 120) : Calls Try.prog 65 #[.int .i64 op] wo fun e w' => e = .returned (.int .i64 127) ∧ wo = w' := by
  have g80 : 80 ≤ op := by omega
  have g121 : ¬ 121 ≤ op := by omega
  have g194 : ¬ 194 ≤ op := by omega
  have l90 : ¬ op ≤ 90 := by omega
  have l138 : op ≤ 138 := by omega
  have l196 : op ≤ 196 := by omega
  have e167 : (op == 167) = false := by simp; omega
  clear h
  go_enter Try.func65, Try.ntmps65
  go_wp2
  go_ret
  exact ⟨rfl, rfl⟩
theorem func32_3 (op : Int) (wo : World) (h : 121 ≤ op ∧ op ≤ 138) : Calls Try.prog 65 #[.int .i64 op] wo fun e w' => e = .returned (.int .i64 126) ∧ wo = w' := by
  have g80 : 80 ≤ op := by omega
  have g121 : 121 ≤ op := by omega
  have g194 : ¬ 194 ≤ op := by omega
  have l90 : ¬ op ≤ 90 := by omega
  have l138 : op ≤ 138 := by omega
  have l196 : op ≤ 196 := by omega
  have e167 : (op == 167) = false := by simp; omega
  clear h
  go_enter Try.func65, Try.ntmps65
  go_wp2
  go_ret
  exact ⟨rfl, rfl⟩
theorem func32_4 (op : Int) (wo : World) (h : 139 ≤ op ∧ op ≤ 166) : Calls Try.prog 65 #[.int .i64 op] wo fun e w' => e = .returned (.int .i64 127) ∧ wo = w' := by
  have g80 : 80 ≤ op := by omega
  have g121 : 121 ≤ op := by omega
  have g194 : ¬ 194 ≤ op := by omega
  have l90 : ¬ op ≤ 90 := by omega
  have l138 : ¬ op ≤ 138 := by omega
  have l196 : op ≤ 196 := by omega
  have e167 : (op == 167) = false := by simp; omega
  clear h
  go_enter Try.func65, Try.ntmps65
  go_wp2
  go_ret
  exact ⟨rfl, rfl⟩
theorem func32_5 (op : Int) (wo : World) (h : 167 ≤ op ∧ op ≤ 167) : Calls Try.prog 65 #[.int .i64 op] wo fun e w' => e = .returned (.int .i64 126) ∧ wo = w' := by
  have g80 : 80 ≤ op := by omega
  have g121 : 121 ≤ op := by omega
  have g194 : ¬ 194 ≤ op := by omega
  have l90 : ¬ op ≤ 90 := by omega
  have l138 : ¬ op ≤ 138 := by omega
  have l196 : op ≤ 196 := by omega
  have e167 : (op == 167) = true := by simp; omega
  clear h
  go_enter Try.func65, Try.ntmps65
  go_wp2
  go_ret
  exact ⟨rfl, rfl⟩
theorem func32_6 (op : Int) (wo : World) (h : 168 ≤ op ∧ op ≤ 193) : Calls Try.prog 65 #[.int .i64 op] wo fun e w' => e = .returned (.int .i64 127) ∧ wo = w' := by
  have g80 : 80 ≤ op := by omega
  have g121 : 121 ≤ op := by omega
  have g194 : ¬ 194 ≤ op := by omega
  have l90 : ¬ op ≤ 90 := by omega
  have l138 : ¬ op ≤ 138 := by omega
  have l196 : op ≤ 196 := by omega
  have e167 : (op == 167) = false := by simp; omega
  clear h
  go_enter Try.func65, Try.ntmps65
  go_wp2
  go_ret
  exact ⟨rfl, rfl⟩
theorem func32_7 (op : Int) (wo : World) (h : 194 ≤ op ∧ op ≤ 196) : Calls Try.prog 65 #[.int .i64 op] wo fun e w' => e = .returned (.int .i64 126) ∧ wo = w' := by
  have g80 : 80 ≤ op := by omega
  have g121 : 121 ≤ op := by omega
  have g194 : 194 ≤ op := by omega
  have l90 : ¬ op ≤ 90 := by omega
  have l138 : ¬ op ≤ 138 := by omega
  have l196 : op ≤ 196 := by omega
  have e167 : (op == 167) = false := by simp; omega
  clear h
  go_enter Try.func65, Try.ntmps65
  go_wp2
  go_ret
  exact ⟨rfl, rfl⟩
theorem func32_8 (op : Int) (wo : World) (h : 197 ≤ op) : Calls Try.prog 65 #[.int .i64 op] wo fun e w' => e = .returned (.int .i64 127) ∧ wo = w' := by
  have g80 : 80 ≤ op := by omega
  have g121 : 121 ≤ op := by omega
  have g194 : 194 ≤ op := by omega
  have l90 : ¬ op ≤ 90 := by omega
  have l138 : ¬ op ≤ 138 := by omega
  have l196 : ¬ op ≤ 196 := by omega
  have e167 : (op == 167) = false := by simp; omega
  clear h
  go_enter Try.func65, Try.ntmps65
  go_wp2
  go_ret
  exact ⟨rfl, rfl⟩
theorem func32_any (op : Int) (wo : World) : Calls Try.prog 65 #[.int .i64 op] wo fun e w' => e = .returned (.int .i64 (inVal op)) ∧ wo = w' := by
  unfold inVal
  by_cases d0 : op ≤ 79
  · rw [if_neg (by omega)]; exact func32_0 op wo (by omega)
  by_cases d1 : op ≤ 90
  · rw [if_pos (by omega)]; exact func32_1 op wo (by omega)
  by_cases d2 : op ≤ 120
  · rw [if_neg (by omega)]; exact func32_2 op wo (by omega)
  by_cases d3 : op ≤ 138
  · rw [if_pos (by omega)]; exact func32_3 op wo (by omega)
  by_cases d4 : op ≤ 166
  · rw [if_neg (by omega)]; exact func32_4 op wo (by omega)
  by_cases d5 : op ≤ 167
  · rw [if_pos (by omega)]; exact func32_5 op wo (by omega)
  by_cases d6 : op ≤ 193
  · rw [if_neg (by omega)]; exact func32_6 op wo (by omega)
  by_cases d7 : op ≤ 196
  · rw [if_pos (by omega)]; exact func32_7 op wo (by omega)
  rw [if_neg (by omega)]; exact func32_8 op wo (by omega)
/-- A slice of ints leads to these. -/
def IntsAt (w : World) (A : Option Addr) (l : List Int) : Prop := 0 < l.length → ∃ b, A = some ⟨b, 0, none⟩ ∧ b < w.heap.size ∧ ∀ j (h : j < l.length), w.cell? ⟨b, j, none⟩ = some (.int .i64 l[j])
def TypesIs (w : World) (l : List Int) (o : Int) (ok : Bool) (e : Ending) (w' : World) : Prop :=
  ∃ A, e = .returned (.tuple #[.slice A l.length l.length, .int .i64 o, .bool ok]) ∧ IntsAt w' A l ∧ Below w.heap.size w w'
/-- The types of an operation: of what it takes, of what it gives; whether there is one. -/
def typVal (op : Int) : List Int × Int × Bool :=
  if (unVal op 0).2 = true then ([inVal op], if 121 ≤ op ∧ op ≤ 123 ∨ op = 172 ∨ op = 173 ∨ 194 ≤ op then 126 else 127, true)
  else if (binAll op 0 1).2.2 = true then ([inVal op, inVal op], if 124 ≤ op then 126 else 127, true)
  else ([], 0, false)
theorem ints_1 (w : World) (x : Int) (t : TypeId) : IntsAt (w.alloc (.cells #[.int .i64 x] t)) (some ⟨w.heap.size, 0, none⟩) [x] := by
  intro _
  refine ⟨w.heap.size, rfl, by simp, fun j hj => ?_⟩
  have h0 : j = 0 := by simpa using hj
  subst h0
  simp
theorem ints_2 (w : World) (x y : Int) (t : TypeId) : IntsAt (w.alloc (.cells #[.int .i64 x, .int .i64 y] t)) (some ⟨w.heap.size, 0, none⟩) [x, y] := by
  intro _
  refine ⟨w.heap.size, rfl, by simp, fun j hj => ?_⟩
  match j, hj with
  | 0, _ => simp
  | 1, _ => simp
theorem types_un_a (op : Int) (wo : World) (hu : (unVal op 0).2 = true) (h : 121 ≤ op ∧ op ≤ 123) : Calls Try.prog 47 #[.int .i64 op] wo (TypesIs wo [inVal op] 126 true) := by
  have HF := Lib.hid (fun W => func32_any op W)
  have HU := Lib.hid (fun W => run_any op 0 W (by omega))
  have HB := Lib.hid (fun W => rbin_any op 0 1 W (by omega) (by omega))
  rw [hu] at HU
  have g121 : 121 ≤ op := by omega
  have l123 : op ≤ 123 := by omega
  clear h hu HB
  generalize (unVal op 0).1 = V at *
  generalize inVal op = I at *
  go_enter Try.func47, Try.ntmps47
  go_wp2_with fail
  refine (HF.out _).mono ?_
  rintro e w' ⟨rfl, rfl⟩
  go_wp2_with fail
  refine (HU.out _).mono ?_
  rintro e w' ⟨rfl, rfl⟩
  go_wp2
  go_ret3
  exact ⟨_, rfl, ints_1 _ _ _, (Below.refl _ _).alloc (Nat.le_refl _) _⟩
theorem types_un_b (op : Int) (wo : World) (hu : (unVal op 0).2 = true) (h : op = 172) : Calls Try.prog 47 #[.int .i64 op] wo (TypesIs wo [inVal op] 126 true) := by
  have HF := Lib.hid (fun W => func32_any op W)
  have HU := Lib.hid (fun W => run_any op 0 W (by omega))
  have HB := Lib.hid (fun W => rbin_any op 0 1 W (by omega) (by omega))
  rw [hu] at HU
  have g121 : 121 ≤ op := by omega
  have l123 : ¬ op ≤ 123 := by omega
  have e172 : (op == 172) = true := by simp; omega
  clear h hu HB
  generalize (unVal op 0).1 = V at *
  generalize inVal op = I at *
  go_enter Try.func47, Try.ntmps47
  go_wp2_with fail
  refine (HF.out _).mono ?_
  rintro e w' ⟨rfl, rfl⟩
  go_wp2_with fail
  refine (HU.out _).mono ?_
  rintro e w' ⟨rfl, rfl⟩
  go_wp2
  go_ret3
  exact ⟨_, rfl, ints_1 _ _ _, (Below.refl _ _).alloc (Nat.le_refl _) _⟩
theorem types_un_c (op : Int) (wo : World) (hu : (unVal op 0).2 = true) (h : op = 173) : Calls Try.prog 47 #[.int .i64 op] wo (TypesIs wo [inVal op] 126 true) := by
  have HF := Lib.hid (fun W => func32_any op W)
  have HU := Lib.hid (fun W => run_any op 0 W (by omega))
  have HB := Lib.hid (fun W => rbin_any op 0 1 W (by omega) (by omega))
  rw [hu] at HU
  have g121 : 121 ≤ op := by omega
  have l123 : ¬ op ≤ 123 := by omega
  have e172 : (op == 172) = false := by simp; omega
  have e173 : (op == 173) = true := by simp; omega
  clear h hu HB
  generalize (unVal op 0).1 = V at *
  generalize inVal op = I at *
  go_enter Try.func47, Try.ntmps47
  go_wp2_with fail
  refine (HF.out _).mono ?_
  rintro e w' ⟨rfl, rfl⟩
  go_wp2_with fail
  refine (HU.out _).mono ?_
  rintro e w' ⟨rfl, rfl⟩
  go_wp2
  go_ret3
  exact ⟨_, rfl, ints_1 _ _ _, (Below.refl _ _).alloc (Nat.le_refl _) _⟩
theorem types_un_d (op : Int) (wo : World) (hu : (unVal op 0).2 = true) (h : 194 ≤ op) : Calls Try.prog 47 #[.int .i64 op] wo (TypesIs wo [inVal op] 126 true) := by
  have HF := Lib.hid (fun W => func32_any op W)
  have HU := Lib.hid (fun W => run_any op 0 W (by omega))
  have HB := Lib.hid (fun W => rbin_any op 0 1 W (by omega) (by omega))
  rw [hu] at HU
  have g121 : 121 ≤ op := by omega
  have l123 : ¬ op ≤ 123 := by omega
  have e172 : (op == 172) = false := by simp; omega
  have e173 : (op == 173) = false := by simp; omega
  have g194 : 194 ≤ op := by omega
  clear h hu HB
  generalize (unVal op 0).1 = V at *
  generalize inVal op = I at *
  go_enter Try.func47, Try.ntmps47
  go_wp2_with fail
  refine (HF.out _).mono ?_
  rintro e w' ⟨rfl, rfl⟩
  go_wp2_with fail
  refine (HU.out _).mono ?_
  rintro e w' ⟨rfl, rfl⟩
  go_wp2
  go_ret3
  exact ⟨_, rfl, ints_1 _ _ _, (Below.refl _ _).alloc (Nat.le_refl _) _⟩
theorem types_un_f (op : Int) (wo : World) (hu : (unVal op 0).2 = true) (h : op < 121) : Calls Try.prog 47 #[.int .i64 op] wo (TypesIs wo [inVal op] 127 true) := by
  have HF := Lib.hid (fun W => func32_any op W)
  have HU := Lib.hid (fun W => run_any op 0 W (by omega))
  have HB := Lib.hid (fun W => rbin_any op 0 1 W (by omega) (by omega))
  rw [hu] at HU
  have g121 : ¬ 121 ≤ op := by omega
  have e172 : (op == 172) = false := by simp; omega
  have e173 : (op == 173) = false := by simp; omega
  have g194 : ¬ 194 ≤ op := by omega
  clear h hu HB
  generalize (unVal op 0).1 = V at *
  generalize inVal op = I at *
  go_enter Try.func47, Try.ntmps47
  go_wp2_with fail
  refine (HF.out _).mono ?_
  rintro e w' ⟨rfl, rfl⟩
  go_wp2_with fail
  refine (HU.out _).mono ?_
  rintro e w' ⟨rfl, rfl⟩
  go_wp2
  go_ret3
  exact ⟨_, rfl, ints_1 _ _ _, (Below.refl _ _).alloc (Nat.le_refl _) _⟩
theorem types_un_g (op : Int) (wo : World) (hu : (unVal op 0).2 = true) (h : 123 < op ∧ op < 194 ∧ op ≠ 172 ∧ op ≠ 173) : Calls Try.prog 47 #[.int .i64 op] wo (TypesIs wo [inVal op] 127 true) := by
  have HF := Lib.hid (fun W => func32_any op W)
  have HU := Lib.hid (fun W => run_any op 0 W (by omega))
  have HB := Lib.hid (fun W => rbin_any op 0 1 W (by omega) (by omega))
  rw [hu] at HU
  have g121 : 121 ≤ op := by omega
  have l123 : ¬ op ≤ 123 := by omega
  have e172 : (op == 172) = false := by simp; omega
  have e173 : (op == 173) = false := by simp; omega
  have g194 : ¬ 194 ≤ op := by omega
  clear h hu HB
  generalize (unVal op 0).1 = V at *
  generalize inVal op = I at *
  go_enter Try.func47, Try.ntmps47
  go_wp2_with fail
  refine (HF.out _).mono ?_
  rintro e w' ⟨rfl, rfl⟩
  go_wp2_with fail
  refine (HU.out _).mono ?_
  rintro e w' ⟨rfl, rfl⟩
  go_wp2
  go_ret3
  exact ⟨_, rfl, ints_1 _ _ _, (Below.refl _ _).alloc (Nat.le_refl _) _⟩
theorem types_bin_a (op : Int) (wo : World) (hu : (unVal op 0).2 = false) (hb : (binAll op 0 1).2.2 = true) (h : 124 ≤ op) : Calls Try.prog 47 #[.int .i64 op] wo (TypesIs wo [inVal op, inVal op] 126 true) := by
  have HF := Lib.hid (fun W => func32_any op W)
  have HU := Lib.hid (fun W => run_any op 0 W (by omega))
  have HB := Lib.hid (fun W => rbin_any op 0 1 W (by omega) (by omega))
  rw [hu] at HU
  rw [hb] at HB
  clear hu hb
  generalize (unVal op 0).1 = V at *
  generalize (binAll op 0 1).1 = X at *
  generalize (binAll op 0 1).2.1 = Y at *
  generalize inVal op = I at *
  go_enter Try.func47, Try.ntmps47
  go_wp2_with fail
  refine (HF.out _).mono ?_
  rintro e w' ⟨rfl, rfl⟩
  go_wp2_with fail
  refine (HU.out _).mono ?_
  rintro e w' ⟨rfl, rfl⟩
  go_wp2_with fail
  refine (HB.out _).mono ?_
  rintro e w' ⟨rfl, rfl⟩
  go_wp2
  go_ret3
  exact ⟨_, rfl, ints_2 _ _ _ _, (Below.refl _ _).alloc (Nat.le_refl _) _⟩
theorem types_bin_b (op : Int) (wo : World) (hu : (unVal op 0).2 = false) (hb : (binAll op 0 1).2.2 = true) (h : ¬ 124 ≤ op) : Calls Try.prog 47 #[.int .i64 op] wo (TypesIs wo [inVal op, inVal op] 127 true) := by
  have HF := Lib.hid (fun W => func32_any op W)
  have HU := Lib.hid (fun W => run_any op 0 W (by omega))
  have HB := Lib.hid (fun W => rbin_any op 0 1 W (by omega) (by omega))
  rw [hu] at HU
  rw [hb] at HB
  clear hu hb
  generalize (unVal op 0).1 = V at *
  generalize (binAll op 0 1).1 = X at *
  generalize (binAll op 0 1).2.1 = Y at *
  generalize inVal op = I at *
  go_enter Try.func47, Try.ntmps47
  go_wp2_with fail
  refine (HF.out _).mono ?_
  rintro e w' ⟨rfl, rfl⟩
  go_wp2_with fail
  refine (HU.out _).mono ?_
  rintro e w' ⟨rfl, rfl⟩
  go_wp2_with fail
  refine (HB.out _).mono ?_
  rintro e w' ⟨rfl, rfl⟩
  go_wp2
  go_ret3
  exact ⟨_, rfl, ints_2 _ _ _ _, (Below.refl _ _).alloc (Nat.le_refl _) _⟩
theorem types_none (op : Int) (wo : World) (hu : (unVal op 0).2 = false) (hb : (binAll op 0 1).2.2 = false) : Calls Try.prog 47 #[.int .i64 op] wo (TypesIs wo [] 0 false) := by
  have HF := Lib.hid (fun W => func32_any op W)
  have HU := Lib.hid (fun W => run_any op 0 W (by omega))
  have HB := Lib.hid (fun W => rbin_any op 0 1 W (by omega) (by omega))
  rw [hu] at HU
  rw [hb] at HB
  clear hu hb
  generalize (unVal op 0).1 = V at *
  generalize (binAll op 0 1).1 = X at *
  generalize (binAll op 0 1).2.1 = Y at *
  generalize inVal op = I at *
  go_enter Try.func47, Try.ntmps47
  go_wp2_with fail
  refine (HF.out _).mono ?_
  rintro e w' ⟨rfl, rfl⟩
  go_wp2_with fail
  refine (HU.out _).mono ?_
  rintro e w' ⟨rfl, rfl⟩
  go_wp2_with fail
  refine (HB.out _).mono ?_
  rintro e w' ⟨rfl, rfl⟩
  go_wp2
  go_ret3
  exact ⟨none, rfl, fun h => by simp at h, Below.refl _ _⟩
theorem rtypes_any (op : Int) (wo : World) : Calls Try.prog 47 #[.int .i64 op] wo (TypesIs wo (typVal op).1 (typVal op).2.1 (typVal op).2.2) := by
  unfold typVal
  cases hu : (unVal op 0).2 with
  | true =>
    rw [if_pos rfl]
    by_cases h1 : 121 ≤ op ∧ op ≤ 123
    · rw [if_pos (by omega)]; exact types_un_a op wo hu h1
    by_cases h2 : op = 172
    · rw [if_pos (by omega)]; exact types_un_b op wo hu h2
    by_cases h3 : op = 173
    · rw [if_pos (by omega)]; exact types_un_c op wo hu h3
    by_cases h4 : 194 ≤ op
    · rw [if_pos (by omega)]; exact types_un_d op wo hu h4
    rw [if_neg (by omega)]
    by_cases h5 : op < 121
    · exact types_un_f op wo hu h5
    · exact types_un_g op wo hu (by omega)
  | false =>
    rw [if_neg (by simp)]
    cases hb : (binAll op 0 1).2.2 with
    | true =>
      rw [if_pos rfl]
      by_cases h : 124 ≤ op
      · rw [if_pos h]; exact types_bin_a op wo hu hb h
      · rw [if_neg h]; exact types_bin_b op wo hu hb h
    | false =>
      rw [if_neg (by simp)]
      exact types_none op wo hu hb
end Go.Proofs.Ytdipgokbfjbgfaa.Num
