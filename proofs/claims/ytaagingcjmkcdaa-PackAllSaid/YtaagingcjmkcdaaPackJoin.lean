/-
  pack.join, pack.split, pack.extend: what each comes to. Conditions: the bytes lie in memory as a slice's cells, at most 8 of them; the number is of 64 bits.
-/
import Derived.Test.YtaagingcjmkcdaaPackFind
import Derived.Laws.BitsAllLaws
namespace Go.Proofs.Ytaagingcjmkcdaa.Pack
open Go.RowKit Leb

theorem le_snoc (l : List Nat) (x : Nat) : le (l ++ [x]) = le l + x * 256 ^ l.length := by
  induction l with
  | nil => simp [le]
  | cons y l ih =>
    simp only [List.cons_append, le, ih, List.length_cons, Nat.pow_succ, Nat.mul_add]
    have : 256 * (x * 256 ^ l.length) = x * (256 ^ l.length * 256) := by
      rw [Nat.mul_comm 256, Nat.mul_assoc]
    omega
theorem le_take (l : List Nat) (k : Nat) (h : k < l.length) : le (l.take (k + 1)) = le (l.take k) + l[k] * 2 ^ (8 * k) := by
  rw [List.take_succ_eq_append_getElem h, le_snoc, List.length_take, Nat.min_eq_left (Nat.le_of_lt h), show (256 : Nat) = 2 ^ 8 from rfl, ← Nat.pow_mul]
theorem le_take_lt (l : List Nat) (k : Nat) (hb : ∀ x ∈ l, x < 256) (h : k ≤ l.length) : le (l.take k) < 2 ^ (8 * k) := by
  have := le_lt (l.take k) (fun x hx => hb x (List.mem_of_mem_take hx))
  rw [List.length_take, Nat.min_eq_left h, show (256 : Nat) = 2 ^ 8 from rfl, ← Nat.pow_mul] at this
  exact this
theorem join_or (l : List Nat) (k x X : Nat) (hb : ∀ x ∈ l, x < 256) (hk : k < l.length) (h8 : l.length ≤ 8) (hx : x = l[k]) (hX : X = le (l.take k)) :
    bits .or .u64 (X : Int) (IntKind.u64.wrap (IntKind.u64.wrap (x : Int) * 2 ^ (8 * k))) = ((le (l.take (k + 1)) : Nat) : Int) := by
  have h1 := le_take_lt l k hb (Nat.le_of_lt hk)
  have h2 := hb _ (List.getElem_mem hk)
  rw [← hx] at h2
  have hxw : IntKind.u64.wrap (x : Int) = (x : Int) := by rw [IntKind.wrap_u64]; omega
  rw [hxw, le_take l k hk, ← hx, ← hX]
  rw [← hX] at h1
  have hp : (2 : Nat) ^ (8 * k) ≤ 2 ^ 56 := Nat.pow_le_pow_right (by omega) (by omega)
  have h3 : x * 2 ^ (8 * k) ≤ 255 * 2 ^ 56 := Nat.mul_le_mul (by omega) hp
  have hw : IntKind.u64.wrap ((x : Int) * 2 ^ (8 * k)) = ((x * 2 ^ (8 * k) : Nat) : Int) := by
    rw [IntKind.wrap_u64]
    have : (x : Int) * 2 ^ (8 * k) = ((x * 2 ^ (8 * k) : Nat) : Int) := by simp
    rw [this]
    omega
  rw [hw, u64_or_nat _ _ (by omega) (by omega), Nat.or_comm, nat_join (8 * k) _ _ (Nat.mul_mod_left _ _) h1]
  congr 1
  omega
set_option maxHeartbeats 1000000 in
theorem join_any (A : Option Addr) (l : List Nat) (c B : Nat) (w : World) (hb : Bytes w B A l) (h8 : l.length ≤ 8) :
    Calls Try.prog 16 #[.slice A l.length c] w fun e w' => e = .returned (.int .u64 ((le l : Nat) : Int)) ∧ w = w' := by
  go_enter Try.func16, Try.ntmps16
  go_wp2
  go_loop [3, 8] (fun n i => ∃ (k X : Nat), k ≤ l.length ∧ i = .int .i64 (k : Int) ∧ n = .int .u64 (X : Int) ∧ Hid (X = le (l.take k))) (fun _ i => l.length - (intOf i).toNat)
  case atStart => exact ⟨0, 0, Nat.zero_le _, rfl, rfl, Lib.hid (by simp [le])⟩
  case round =>
    obtain ⟨k, X, hk, rfl, rfl, HX⟩ := hrel
    by_cases hlt : k < l.length
    · obtain ⟨b, off, rfl, _, hcs⟩ := hb.2 (by omega)
      have hc := hcs k hlt
      have hlti : (k : Int) < (l.length : Int) := by omega
      obtain ⟨x, hxe⟩ : ∃ x, x = l[k] := ⟨_, rfl⟩
      rw [← hxe] at hc
      have HJ := Lib.hid (join_or l k x X hb.1 hlt h8 hxe HX.out)
      clear hcs hxe hb
      go_wp2
      go_round
      case rel => exact ⟨k + 1, le (l.take (k + 1)), by omega, by go_num, by rw [HJ.out], Lib.hid rfl⟩
      case measure => simp [intOf]; omega
    · have hlti : ¬ (k : Int) < (l.length : Int) := by omega
      have HE : Hid (X = le l) := Lib.hid (by rw [HX.out, List.take_of_length_le (by omega)])
      go_wp2
      go_ret
      rw [HE.out]
      exact ⟨rfl, rfl⟩
/-- What split has laid when j bytes are done. -/
def part (size j n : Nat) : List Nat := bytesOf j n ++ List.replicate (size - j) 0
theorem part_len (size j n : Nat) (h : j ≤ size) : (part size j n).length = size := by simp [part, bytesOf_len]; omega
theorem part_set (size j n : Nat) (h : j < size) : (part size j n).set j (n / 256 ^ j % 256) = part size (j + 1) n := by
  unfold part
  rw [List.set_append_right _ _ (by rw [bytesOf_len]; exact Nat.le_refl _), bytesOf_len, Nat.sub_self, show size - j = (size - (j + 1)) + 1 from by omega, List.replicate_succ, List.set_cons_zero, bytesOf_snoc]
  simp
theorem part_start (size n : Nat) : part size 0 n = List.replicate size 0 := by simp [part, bytesOf]
theorem part_end (size n : Nat) : part size size n = bytesOf size n := by simp [part]
theorem made_u8 (n : Nat) : (madeCells (Value.int .u8 0).cells n).toList = (List.replicate n 0).map bv := by
  have hz : (Value.int .u8 0).cells = #[.int .u8 0] := by simp [Value.cells]
  rw [hz]
  unfold madeCells
  apply List.ext_getElem
  · simp
  · intro i h1 h2
    simp [bv, Nat.mod_one]
set_option maxHeartbeats 1000000 in
theorem split_any (n size : Nat) (w : World) (h8 : size ≤ 8) (hn : n < 18446744073709551616) :
    Calls Try.prog 18 #[.int .u64 (n : Int), .int .i64 (size : Int)] w (Gives w (bytesOf size n)) := by
  obtain ⟨i0, hi0, hz0, hz1, hz2⟩ := info_parts u8_info
  have Hi := Lib.hid hz2
  have Hn := Lib.hid hn
  clear hz2 hn
  go_enter Try.func18, Try.ntmps18
  go_wp2_with (at_make; refine wpList_make_full _ rfl _ _ 22 rfl w.heap.size 5 i0 (.int .u8 0) 1 Try.underlying22 hi0 hz0 hz1 _ _ _ _ size rfl rfl rfl rfl (by rw [Hi.out]; omega) (by simp only [maxLen]; omega) (Nat.le_refl _) ?_; intro w1 hown1 hgrow1)
  have hb1 : Below w.heap.size w w1 := (Below.refl _ _).grown hgrow1 (Nat.le_refl _) (fun k h => by cases h)
  have hO : Own w1 w.heap.size (.slice (some ⟨w.heap.size, 0, none⟩) size size) (part size 0 n) := by
    unfold Own
    rw [part_start, List.length_replicate, ← made_u8]
    simpa using hown1
  clear hown1 hgrow1
  go_loopw [11] (fun i wr => ∃ j : Nat, j ≤ size ∧ i = .int .i64 (j : Int) ∧ Own wr w.heap.size (.slice (some ⟨w.heap.size, 0, none⟩) size size) (part size j n) ∧ Below w.heap.size w wr) (fun i _ => size - (intOf i).toNat)
  case atStart => exact ⟨0, Nat.zero_le _, rfl, hO, hb1⟩
  case round =>
    obtain ⟨j, hj, rfl, hown, hbel⟩ := hrel
    by_cases hlt : j < size
    · have hlti : (j : Int) < (size : Int) := by omega
      have ho2 : wr.ownsRow w.heap.size 5 1 (.slice (some ⟨w.heap.size, 0, none⟩) size size) size ((part size j n).map bv) := by
        have := hown
        unfold Own at this
        rw [part_len size j n hj] at this
        exact this
      have hc := ho2.cellAt j (by omega)
      have hf := ho2.frozenAt j
      have hv : ∃ v, wr.cell? ⟨w.heap.size, j, none⟩ = some v := ⟨_, hc.trans (List.getElem?_eq_getElem (by rw [List.length_map, part_len size j n hj]; exact hlt))⟩
      obtain ⟨v0, hv0⟩ := hv
      clear hc
      have HB : Hid ((n : Int) / 2 ^ (8 * j) % 256 = ((n / 256 ^ j % 256 : Nat) : Int)) := Lib.hid (by rw [show (256 : Nat) ^ j = 2 ^ (8 * j) from by rw [show (256 : Nat) = 2 ^ 8 from rfl, ← Nat.pow_mul]]; simp)
      go_wp2
      rw [HB.out]
      obtain ⟨hs1, hs2⟩ := ho2.stored j (bv (n / 256 ^ j % 256))
      have hset : ((part size j n).map bv).set j (bv (n / 256 ^ j % 256)) = (part size (j + 1) n).map bv := by rw [← List.map_set, part_set size j n hlt]
      rw [hset] at hs1
      refine ⟨⟨j + 1, hlt, by go_num, ?_, hbel.setCell (Nat.le_refl _) _⟩, by simp [intOf]; omega⟩
      unfold Own
      rw [part_len size (j + 1) n hlt]
      exact hs1
    · have hlti : ¬ (j : Int) < (size : Int) := by omega
      obtain rfl : j = size := by omega
      rw [part_end] at hown
      go_wp2
      go_ret
      exact ⟨_, rfl, hown, hbel⟩
/-- What is loaded, signed, of s bytes, on N. -/
def extV (s N n : Nat) : Nat := if 2 ^ (8 * s - 1) ≤ n then n + 256 ^ N - 256 ^ s else n
theorem sgn_1 (n : Nat) (h : n < 256) : wrap64 ((n : Int) * 72057594037927936) / 72057594037927936 = if 128 ≤ n then (n : Int) - 256 else (n : Int) := by
  unfold wrap64
  split <;> omega
theorem sgn_2 (n : Nat) (h : n < 65536) : wrap64 ((n : Int) * 281474976710656) / 281474976710656 = if 32768 ≤ n then (n : Int) - 65536 else (n : Int) := by
  unfold wrap64
  split <;> omega
theorem sgn_4 (n : Nat) (h : n < 4294967296) : wrap64 ((n : Int) * 4294967296) / 4294967296 = if 2147483648 ≤ n then (n : Int) - 4294967296 else (n : Int) := by
  unfold wrap64
  split <;> omega
theorem extV_4_1 (n : Nat) (h : n < 256) : IntKind.u64.wrap (wrap64 ((n : Int) * 72057594037927936) / 72057594037927936) % 4294967296 = ((extV 1 4 n : Nat) : Int) := by
  have h1 : (2 : Nat) ^ (8 * 1 - 1) = 128 := by decide
  have h2 : (256 : Nat) ^ 4 = 4294967296 := by decide
  have h3 : (256 : Nat) ^ 1 = 256 := by decide
  rw [sgn_1 n h, IntKind.wrap_u64]
  unfold extV
  rw [h1, h2, h3]
  by_cases hc : 128 ≤ n
  · rw [if_pos hc, if_pos hc]; omega
  · rw [if_neg hc, if_neg hc]; omega
set_option maxHeartbeats 1000000 in
theorem ext_4_1 (n : Nat) (k : Int) (w : World) (h : n < 256) : Calls Try.prog 17 #[.int .u64 (n : Int), .agg #[.int .i64 127, .int .i64 1, .int .i64 k]] w fun e w' => e = .returned (.int .u64 ((extV 1 4 n : Nat) : Int)) ∧ Below w.heap.size w w' := by
  have HE := Lib.hid (extV_4_1 n h)
  have hmul : IntKind.u64.wrap ((n : Int) * 72057594037927936) = (n : Int) * 72057594037927936 := by rw [IntKind.wrap_u64]; omega
  clear h
  go_enter Try.func17, Try.ntmps17
  go_wp2
  go_ret
  exact ⟨ret_int HE.out, (Below.refl _ _).alloc (Nat.le_refl _) _⟩
theorem extV_4_2 (n : Nat) (h : n < 65536) : IntKind.u64.wrap (wrap64 ((n : Int) * 281474976710656) / 281474976710656) % 4294967296 = ((extV 2 4 n : Nat) : Int) := by
  have h1 : (2 : Nat) ^ (8 * 2 - 1) = 32768 := by decide
  have h2 : (256 : Nat) ^ 4 = 4294967296 := by decide
  have h3 : (256 : Nat) ^ 2 = 65536 := by decide
  rw [sgn_2 n h, IntKind.wrap_u64]
  unfold extV
  rw [h1, h2, h3]
  by_cases hc : 32768 ≤ n
  · rw [if_pos hc, if_pos hc]; omega
  · rw [if_neg hc, if_neg hc]; omega
set_option maxHeartbeats 1000000 in
theorem ext_4_2 (n : Nat) (k : Int) (w : World) (h : n < 65536) : Calls Try.prog 17 #[.int .u64 (n : Int), .agg #[.int .i64 127, .int .i64 2, .int .i64 k]] w fun e w' => e = .returned (.int .u64 ((extV 2 4 n : Nat) : Int)) ∧ Below w.heap.size w w' := by
  have HE := Lib.hid (extV_4_2 n h)
  have hmul : IntKind.u64.wrap ((n : Int) * 281474976710656) = (n : Int) * 281474976710656 := by rw [IntKind.wrap_u64]; omega
  clear h
  go_enter Try.func17, Try.ntmps17
  go_wp2
  go_ret
  exact ⟨ret_int HE.out, (Below.refl _ _).alloc (Nat.le_refl _) _⟩
theorem extV_8_1 (n : Nat) (h : n < 256) : IntKind.u64.wrap (wrap64 ((n : Int) * 72057594037927936) / 72057594037927936) = ((extV 1 8 n : Nat) : Int) := by
  have h1 : (2 : Nat) ^ (8 * 1 - 1) = 128 := by decide
  have h2 : (256 : Nat) ^ 8 = 18446744073709551616 := by decide
  have h3 : (256 : Nat) ^ 1 = 256 := by decide
  rw [sgn_1 n h, IntKind.wrap_u64]
  unfold extV
  rw [h1, h2, h3]
  by_cases hc : 128 ≤ n
  · rw [if_pos hc, if_pos hc]; omega
  · rw [if_neg hc, if_neg hc]; omega
set_option maxHeartbeats 1000000 in
theorem ext_8_1 (n : Nat) (k : Int) (w : World) (h : n < 256) : Calls Try.prog 17 #[.int .u64 (n : Int), .agg #[.int .i64 126, .int .i64 1, .int .i64 k]] w fun e w' => e = .returned (.int .u64 ((extV 1 8 n : Nat) : Int)) ∧ Below w.heap.size w w' := by
  have HE := Lib.hid (extV_8_1 n h)
  have hmul : IntKind.u64.wrap ((n : Int) * 72057594037927936) = (n : Int) * 72057594037927936 := by rw [IntKind.wrap_u64]; omega
  clear h
  go_enter Try.func17, Try.ntmps17
  go_wp2
  go_ret
  exact ⟨ret_int HE.out, (Below.refl _ _).alloc (Nat.le_refl _) _⟩
theorem extV_8_2 (n : Nat) (h : n < 65536) : IntKind.u64.wrap (wrap64 ((n : Int) * 281474976710656) / 281474976710656) = ((extV 2 8 n : Nat) : Int) := by
  have h1 : (2 : Nat) ^ (8 * 2 - 1) = 32768 := by decide
  have h2 : (256 : Nat) ^ 8 = 18446744073709551616 := by decide
  have h3 : (256 : Nat) ^ 2 = 65536 := by decide
  rw [sgn_2 n h, IntKind.wrap_u64]
  unfold extV
  rw [h1, h2, h3]
  by_cases hc : 32768 ≤ n
  · rw [if_pos hc, if_pos hc]; omega
  · rw [if_neg hc, if_neg hc]; omega
set_option maxHeartbeats 1000000 in
theorem ext_8_2 (n : Nat) (k : Int) (w : World) (h : n < 65536) : Calls Try.prog 17 #[.int .u64 (n : Int), .agg #[.int .i64 126, .int .i64 2, .int .i64 k]] w fun e w' => e = .returned (.int .u64 ((extV 2 8 n : Nat) : Int)) ∧ Below w.heap.size w w' := by
  have HE := Lib.hid (extV_8_2 n h)
  have hmul : IntKind.u64.wrap ((n : Int) * 281474976710656) = (n : Int) * 281474976710656 := by rw [IntKind.wrap_u64]; omega
  clear h
  go_enter Try.func17, Try.ntmps17
  go_wp2
  go_ret
  exact ⟨ret_int HE.out, (Below.refl _ _).alloc (Nat.le_refl _) _⟩
theorem extV_8_4 (n : Nat) (h : n < 4294967296) : IntKind.u64.wrap (wrap64 ((n : Int) * 4294967296) / 4294967296) = ((extV 4 8 n : Nat) : Int) := by
  have h1 : (2 : Nat) ^ (8 * 4 - 1) = 2147483648 := by decide
  have h2 : (256 : Nat) ^ 8 = 18446744073709551616 := by decide
  have h3 : (256 : Nat) ^ 4 = 4294967296 := by decide
  rw [sgn_4 n h, IntKind.wrap_u64]
  unfold extV
  rw [h1, h2, h3]
  by_cases hc : 2147483648 ≤ n
  · rw [if_pos hc, if_pos hc]; omega
  · rw [if_neg hc, if_neg hc]; omega
set_option maxHeartbeats 1000000 in
theorem ext_8_4 (n : Nat) (k : Int) (w : World) (h : n < 4294967296) : Calls Try.prog 17 #[.int .u64 (n : Int), .agg #[.int .i64 126, .int .i64 4, .int .i64 k]] w fun e w' => e = .returned (.int .u64 ((extV 4 8 n : Nat) : Int)) ∧ Below w.heap.size w w' := by
  have HE := Lib.hid (extV_8_4 n h)
  have hmul : IntKind.u64.wrap ((n : Int) * 4294967296) = (n : Int) * 4294967296 := by rw [IntKind.wrap_u64]; omega
  clear h
  go_enter Try.func17, Try.ntmps17
  go_wp2
  go_ret
  exact ⟨ret_int HE.out, (Below.refl _ _).alloc (Nat.le_refl _) _⟩
end Go.Proofs.Ytaagingcjmkcdaa.Pack
