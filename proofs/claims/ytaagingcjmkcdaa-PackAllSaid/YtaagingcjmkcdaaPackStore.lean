/-
  trammelref04.Store: what it comes to; Load and Store for every code. Conditions as each lemma says.
-/
import Derived.Test.YtaagingcjmkcdaaPackLoad
namespace Go.Proofs.Ytaagingcjmkcdaa.Pack
open Go.RowKit Leb

/-- New bytes, and whether there are any; nothing that was there has changed. -/
def Gives2 (w : World) (l : List Nat) (ok : Bool) (e : Ending) (w' : World) : Prop := ∃ v, e = .returned (.tuple #[v, .bool ok]) ∧ Own w' w.heap.size v l ∧ Below w.heap.size w w'
theorem own_low {w : World} {base base' : Nat} {v : Value} {l : List Nat} (h : Own w base v l) (hb : base' ≤ base) : Own w base' v l := by
  refine ⟨h.1, ?_⟩
  rcases h.2 with ⟨rfl, h0⟩ | ⟨g, cap, cur, rfl, h1, h2, h3, h4, h5⟩
  · exact .inl ⟨rfl, h0⟩
  · exact .inr ⟨g, cap, cur, rfl, Nat.le_trans hb h1, h2, h3, h4, h5⟩
section
variable (op o : Int) (bits bytes : Nat) (s st : Bool) (n : Nat) (wo : World)
set_option maxHeartbeats 1000000 in
set_option maxRecDepth 100000 in
theorem store_none (HO : Hid (Calls Try.prog 8 #[.int .i64 op] wo fun e w' => e = .returned (.tuple #[.agg #[.int .i64 o, .int .i64 (bits : Int), .int .i64 (bytes : Int), .bool s, .bool st], .bool false]) ∧ Below wo.heap.size wo w')) :
    Calls Try.prog 13 #[.int .i64 op, .int .u64 (n : Int)] wo (Gives2 wo [] false) := by
  go_enter Try.func13, Try.ntmps13
  go_wp2_with fail
  refine HO.out.mono ?_
  rintro e w1 ⟨rfl, hb1⟩
  go_wp2
  go_ret2
  exact ⟨_, rfl, Own.nil _ _, bel_kind hb1 _⟩
set_option maxHeartbeats 1000000 in
set_option maxRecDepth 100000 in
theorem store_load (HO : Hid (Calls Try.prog 8 #[.int .i64 op] wo fun e w' => e = .returned (.tuple #[.agg #[.int .i64 o, .int .i64 (bits : Int), .int .i64 (bytes : Int), .bool s, .bool false], .bool true]) ∧ Below wo.heap.size wo w')) :
    Calls Try.prog 13 #[.int .i64 op, .int .u64 (n : Int)] wo (Gives2 wo [] false) := by
  go_enter Try.func13, Try.ntmps13
  go_wp2_with fail
  refine HO.out.mono ?_
  rintro e w1 ⟨rfl, hb1⟩
  go_wp2
  go_ret2
  exact ⟨_, rfl, Own.nil _ _, bel_kind hb1 _⟩
set_option maxHeartbeats 4000000 in
set_option maxRecDepth 100000 in
theorem store_run (hb8 : bytes ≤ 8) (hn : n < 18446744073709551616) (HO : Hid (Calls Try.prog 8 #[.int .i64 op] wo fun e w' => e = .returned (.tuple #[.agg #[.int .i64 o, .int .i64 (bits : Int), .int .i64 (bytes : Int), .bool s, .bool true], .bool true]) ∧ Below wo.heap.size wo w')) :
    Calls Try.prog 13 #[.int .i64 op, .int .u64 (n : Int)] wo (Gives2 wo (bytesOf bytes n) true) := by
  have Hn := Lib.hid hn
  clear hn
  go_enter Try.func13, Try.ntmps13
  go_wp2_with fail
  refine HO.out.mono ?_
  rintro e w1 ⟨rfl, hb1⟩
  clear HO
  go_wp2
  have hb2 := bel_kind hb1 (.cells #[.int .i64 o, .int .i64 (bits : Int), .int .i64 (bytes : Int), .bool s, .bool true] 26)
  have hby : (w1.alloc (.cells #[.int .i64 o, .int .i64 (bits : Int), .int .i64 (bytes : Int), .bool s, .bool true] 26)).cell? ⟨w1.heap.size, 2, none⟩ = some (.int .i64 (bytes : Int)) := by simp
  have hsz : w1.heap.size < (w1.alloc (.cells #[.int .i64 o, .int .i64 (bits : Int), .int .i64 (bytes : Int), .bool s, .bool true] 26)).heap.size := by simp
  have HB2 := Lib.hid hb2
  have HBY := Lib.hid hby
  have HSZ := Lib.hid hsz
  clear hb1 hb2 hby hsz
  generalize w1.alloc _ = W at *
  generalize w1.heap.size = R at *
  go_loopw [1, 8, 9] (fun x v i wr => ∃ j : Nat, j ≤ bytes ∧ x = .int .u64 ((n / 256 ^ j : Nat) : Int) ∧ i = .int .i64 (j : Int) ∧ Own wr W.heap.size v (bytesOf j n) ∧ Below W.heap.size W wr) (fun _ _ i _ => bytes - (intOf i).toNat)
  case atStart => exact ⟨0, Nat.zero_le _, by simp, rfl, Own.nil _ _, Below.refl _ _⟩
  case round =>
    obtain ⟨j, hj, rfl, rfl, hown, hbel⟩ := hrel
    have hc : wr.cell? ⟨R, 2, none⟩ = some (.int .i64 (bytes : Int)) := (hbel.cell (p := ⟨R, 2, none⟩) HSZ.out).trans HBY.out
    by_cases hlt : j < bytes
    · have hlti : (j : Int) < (bytes : Int) := by omega
      have hm : n / 256 ^ j < 18446744073709551616 := Nat.lt_of_le_of_lt (Nat.div_le_self _ _) Hn.out
      have hnx : n / 256 ^ (j + 1) = n / 256 ^ j / 256 := by rw [Nat.pow_succ, Nat.div_div_eq_div_mul]
      have HNX := Lib.hid hnx
      have HSN := Lib.hid (bytesOf_snoc j n)
      have hlen := bytesOf_len j n
      have hsz := hbel.size
      clear hnx
      generalize n / 256 ^ j = m at *
      obtain ⟨y, hy⟩ : ∃ y, y = m % 256 := ⟨_, rfl⟩
      rw [← hy] at HSN
      have hyw : (m : Int) % 256 = (y : Int) := by omega
      have hyl : y < 256 := by omega
      clear hy
      go_wp2_with (at_builtin; refine app_bytes rfl (.tmp 28) (.tmp 32) rfl W.heap.size _ (bytesOf j n) rfl (hown.alloc _) _ [y] 1 _ rfl (bytes_one _ y hyl _) (fun h => by cases h) (by simp; omega) (by simp; omega) ?_; intro v1 w2 hown1 hbel1)
      go_roundw
      case rel => exact ⟨j + 1, by omega, by rw [HNX.out]; go_num, by go_num, by rw [HSN.out]; exact hown1, (hbel.alloc hsz _).trans hbel1⟩
      case measure => simp [intOf]; omega
    · have hlti : ¬ (j : Int) < (bytes : Int) := by omega
      obtain rfl : j = bytes := by omega
      go_wp2
      go_ret2
      exact ⟨_, rfl, own_low hown HB2.out.size, HB2.out.trans (hbel.mono HB2.out.size)⟩
end
end Go.Proofs.Ytaagingcjmkcdaa.Pack
