/-
  PackCut answers true, if pack's functions answer as the reference's do. Condition: that premise.
-/
import Derived.Test.YtaagingcjmkcdaaPackBackLaw
namespace Go.Proofs.Ytaagingcjmkcdaa.Pack
open Go.RowKit Leb

theorem le_zero (l : List Nat) (h : ∀ x ∈ l, x = 0) : le l = 0 := by
  induction l with
  | nil => rfl
  | cons x l ih => simp only [le, h x (by simp), ih (fun y hy => h y (by simp [hy]))]
theorem full_zero (s : Bool) (N k : Nat) : le (full s N (List.replicate k 0)) = 0 := by
  apply le_zero
  intro x hx
  rcases List.mem_append.1 hx with hx | hx
  · exact (List.mem_replicate.1 hx).2
  · rw [(List.mem_replicate.1 hx).2]
    unfold fill
    rw [if_neg]
    rintro ⟨_, h⟩
    simp [List.getD, List.getElem?_replicate] at h
    split at h <;> simp_all
/-- The lowest bytes of one number, the others of another one. -/
def mixN (n m s : Nat) : Nat := (n % 256 ^ s) ||| (m &&& (18446744073709551615 - (2 ^ (8 * s) - 1)))
theorem mix_is (n m s : Nat) (hn : n < 18446744073709551616) (hm : m < 18446744073709551616) (h : 1 ≤ s ∧ s ≤ 8) :
    bits BinOp.or IntKind.u64 (bits BinOp.and IntKind.u64 (n : Int) (18446744073709551615 / 2 ^ (64 - 8 * s))) (bits BinOp.andNot IntKind.u64 (m : Int) (18446744073709551615 / 2 ^ (64 - 8 * s))) = ((mixN n m s : Nat) : Int) ∧ mixN n m s < 18446744073709551616 ∧ mixN n m s % 256 ^ s = n % 256 ^ s := by
  obtain ⟨h1, h2, h3⟩ := mask_int s h
  have hp : 0 < 2 ^ (8 * s) := Nat.pow_pos (by omega)
  have ha : n % 256 ^ s < 18446744073709551616 := Nat.lt_of_le_of_lt (Nat.mod_le _ _) hn
  have hb : m &&& (18446744073709551615 - (2 ^ (8 * s) - 1)) < 18446744073709551616 := Nat.lt_of_le_of_lt Nat.and_le_left hm
  refine ⟨?_, ?_, ?_⟩
  · rw [and_mod n s hn h, h1, u64_andNot_nat m _ hm (by omega), u64_or_nat _ _ ha hb]; rfl
  · exact Nat.or_lt_two_pow (n := 64) ha hb
  · unfold mixN
    have h4 : (18446744073709551615 - (2 ^ (8 * s) - 1)) % 2 ^ (8 * s) = 0 := by
      have hs : s = 1 ∨ s = 2 ∨ s = 3 ∨ s = 4 ∨ s = 5 ∨ s = 6 ∨ s = 7 ∨ s = 8 := by omega
      rcases hs with rfl | rfl | rfl | rfl | rfl | rfl | rfl | rfl <;> decide
    rw [h3, Nat.or_mod_two_pow, Nat.and_mod_two_pow, h4, Nat.and_zero, Nat.or_zero, Nat.mod_mod]
theorem own_zeros {w : World} {base k : Nat} {v : Value} (h : w.ownsRow base 5 1 v k (madeCells (Value.int .u8 0).cells (k * 1)).toList) : Own w base v (List.replicate k 0) := by
  have e : (madeCells (Value.int .u8 0).cells (k * 1)).toList = (List.replicate k 0).map bv := by
    simp [madeCells, Value.cells, bv, Nat.mod_one, List.map_const']
  rw [e] at h
  unfold Own
  rw [List.length_replicate]
  exact h
section
variable {T : World → Prop}
set_option maxHeartbeats 2000000 in
set_option maxRecDepth 100000 in
theorem cut_none (op : Int) (n m width : Nat) (w : World) (hT : T w) (t : Int) (st : Bool)
    (HA : Hid (Calls Try.prog 7 #[] w fun e w' => e = .returned (.bool true) ∧ Below w.heap.size w w')) (HK : Hid (∀ w w', T w → Below w.heap.size w w' → T w'))
    (HX : Hid (∀ W, T W → Calls Try.prog 9 #[.int .i64 op] W (Acc4 W (t, width, st, false)))) :
    Calls Try.prog 5 #[.int .i64 op, .int .u64 (n : Int), .int .u64 (m : Int)] w fun e w' => e = .returned (.bool true) ∧ Below w.heap.size w w' := by
  go_enter Try.func5, Try.ntmps5
  go_wp2_with fail
  refine HA.out.mono ?_
  rintro e w1 ⟨rfl, hb1⟩
  have hT1 := HK.out _ _ hT hb1
  go_wp2_with fail
  refine (HX.out _ hT1).mono ?_
  rintro e w2 ⟨rfl, hb2⟩
  have hb3 := hb1.trans (hb2.mono hb1.size)
  go_wp2
  go_ret
  exact ⟨rfl, hb3⟩
set_option maxHeartbeats 2000000 in
set_option maxRecDepth 100000 in
theorem cut_load (op : Int) (n m width : Nat) (hw : width ≤ 8) (w : World) (hT : T w) (t : Int)
    (HA : Hid (Calls Try.prog 7 #[] w fun e w' => e = .returned (.bool true) ∧ Below w.heap.size w w')) (HK : Hid (∀ w w', T w → Below w.heap.size w w' → T w'))
    (HX : Hid (∀ W, T W → Calls Try.prog 9 #[.int .i64 op] W (Acc4 W (t, width, false, true))))
    (HL : Hid (∀ W A c, Bytes W W.heap.size A (List.replicate width 0) → (A = none → c = 0) → width ≤ c → T W → Calls Try.prog 10 #[.int .i64 op, .slice A width c] W (Num2 W 0 true))) :
    Calls Try.prog 5 #[.int .i64 op, .int .u64 (n : Int), .int .u64 (m : Int)] w fun e w' => e = .returned (.bool true) ∧ Below w.heap.size w w' := by
  obtain ⟨i0, hi0, hz0, hz1, hz2⟩ := info_parts u8_info
  have Hi := Lib.hid hz2
  clear hz2
  go_enter Try.func5, Try.ntmps5
  go_wp2_with fail
  refine HA.out.mono ?_
  rintro e w1 ⟨rfl, hb1⟩
  have hT1 := HK.out _ _ hT hb1
  go_wp2_with fail
  refine (HX.out _ hT1).mono ?_
  rintro e w2 ⟨rfl, hb2⟩
  have hT2 := HK.out _ _ hT1 hb2
  have hb3 := hb1.trans (hb2.mono hb1.size)
  clear hb1 hb2 hT1 HA HX hT
  go_wp2_with (at_make; refine wpList_make_full _ rfl (.tmp 33) (.tmp 33) 22 rfl w2.heap.size 5 i0 (.int .u8 0) 1 Try.underlying22 hi0 hz0 hz1 _ _ _ _ width rfl rfl rfl rfl (by rw [Hi.out]; omega) (by simp only [maxLen]; omega) (Nat.le_refl _) ?_; intro w3 hown3 hg3)
  have hz3 := own_zeros hown3
  have hb4 : Below w2.heap.size w2 w3 := (Below.refl _ _).grown hg3 (Nat.le_refl _) (fun k h => by cases h)
  obtain ⟨A5, c5, he5, hby5, hc5, hn5⟩ := hz3.bytes (fun x hx => by rw [(List.mem_replicate.1 hx).2]; omega)
  rw [List.length_replicate] at he5 hc5
  injection he5 with hA5 _ hcc
  subst hA5 hcc
  have hT4 := HK.out _ _ hT2 hb4
  have hb6 := hb3.trans (hb4.mono hb3.size)
  clear hz3 hb3 hb4 hown3 hg3 hT2 hi0 hz0 hz1 Hi
  refine (HL.out _ _ _ hby5 hn5 hc5 hT4).mono ?_
  rintro e w7 ⟨rfl, hb7⟩
  have hb8 := hb6.trans (hb7.mono hb6.size)
  go_wp2
  go_ret
  exact ⟨rfl, hb8⟩
set_option maxHeartbeats 2000000 in
set_option maxRecDepth 100000 in
theorem cut_store (op : Int) (n m n2 width k : Nat) (hw : 1 ≤ width ∧ width ≤ 8) (hk : k = width) (w : World) (hT : T w) (t : Int) (l : List Nat) (hlk : l.length = k) (ok : Bool)
    (hE : bits BinOp.or IntKind.u64 (bits BinOp.and IntKind.u64 (n : Int) (18446744073709551615 / 2 ^ (64 - 8 * width))) (bits BinOp.andNot IntKind.u64 (m : Int) (18446744073709551615 / 2 ^ (64 - 8 * width))) = (n2 : Int))
    (HA : Hid (Calls Try.prog 7 #[] w fun e w' => e = .returned (.bool true) ∧ Below w.heap.size w w')) (HK : Hid (∀ w w', T w → Below w.heap.size w w' → T w'))
    (HX : Hid (∀ W, T W → Calls Try.prog 9 #[.int .i64 op] W (Acc4 W (t, width, true, true))))
    (HS : Hid (∀ W, T W → Calls Try.prog 12 #[.int .i64 op, .int .u64 (n : Int)] W (GivesS W l ok k)))
    (HS2 : Hid (∀ W, T W → Calls Try.prog 12 #[.int .i64 op, .int .u64 (n2 : Int)] W (GivesS W l ok k))) :
    Calls Try.prog 5 #[.int .i64 op, .int .u64 (n : Int), .int .u64 (m : Int)] w fun e w' => e = .returned (.bool true) ∧ Below w.heap.size w w' := by
  subst hk
  have HLK := Lib.hid hlk
  clear hlk
  go_enter Try.func5, Try.ntmps5
  go_wp2_with fail
  refine HA.out.mono ?_
  rintro e w1 ⟨rfl, hb1⟩
  have hT1 := HK.out _ _ hT hb1
  go_wp2_with fail
  refine (HX.out _ hT1).mono ?_
  rintro e w2 ⟨rfl, hb2⟩
  have hT2 := HK.out _ _ hT1 hb2
  have hb3 := hb1.trans (hb2.mono hb1.size)
  clear hb1 hb2 hT1 HA HX hT
  go_wp2_with fail
  refine (HS.out _ hT2).mono ?_
  rintro e w4 ⟨A4, c4, rfl, hby4, hn4, hk4, hb4⟩
  have hT4 := HK.out _ _ hT2 hb4
  have hb5 := hb3.trans (hb4.mono hb3.size)
  clear hb3 hb4 hT2 HS
  go_wp2_with fail
  refine (HS2.out _ hT4).mono ?_
  rintro e w6 ⟨A6, c6, rfl, hby6, hn6, hk6, hb6⟩
  have hby5 := hby4.below hb6
  have hb7 := hb5.trans (hb6.mono hb5.size)
  clear hb5 hb6 hT4 HS2 HK hby4
  go_wp2_with fail
  refine (same_yes hby5 hby6 HLK.out HLK.out (by omega)).mono ?_
  rintro e w' ⟨rfl, q, rfl⟩
  go_wp2
  go_ret
  exact ⟨rfl, below_drewN hb7 q⟩
end
section
variable {T : World → Prop} (D : Does T)
include D
theorem cut_law (op : Int) (n m : Nat) (w : World) (hT : T w) (ho : I64 op) (hn : n < 18446744073709551616) (hm : m < 18446744073709551616) :
    Calls Try.prog 5 #[.int .i64 op, .int .u64 (n : Int), .int .u64 (m : Int)] w fun e w' => e = .returned (.bool true) ∧ Below w.heap.size w w' := by
  have HA := Lib.hid (awake_any D w hT)
  have HK := Lib.hid D.keep
  have HX := Lib.hid (fun W hW => D.acc op W ho hW)
  cases hk : kindOf op with
  | none =>
    have ha : accVal op = (0, 0, false, false) := by unfold accVal; rw [hk]
    rw [ha] at HX
    exact cut_none op n m _ w hT _ _ HA HK HX
  | some k =>
    have ha : accVal op = (if k.bits = 32 then 127 else 126, k.bytes, k.store, true) := by unfold accVal; rw [hk]
    obtain ⟨r1, r2, r3⟩ := kindOf_right hk
    rw [ha] at HX
    by_cases hst : k.store = true
    · have hs : ∀ N, stVal op N = (bytesOf k.bytes N, true) := fun N => by unfold stVal; rw [hk]; simp [hst]
      rw [hst] at HX
      obtain ⟨e1, e2, e3⟩ := mix_is n m k.bytes hn hm ⟨r1, r2⟩
      have HS := Lib.hid (fun W hW => D.store op n _ W ho hn rfl hW)
      have HS2 := Lib.hid (fun W hW => D.store op (mixN n m k.bytes) _ W ho e2 rfl hW)
      have hmix : bytesOf k.bytes (mixN n m k.bytes) = bytesOf k.bytes n := by rw [← bytesOf_mod, e3, bytesOf_mod]
      rw [hs] at HS HS2
      rw [hmix] at HS2
      exact cut_store op n m _ k.bytes _ ⟨r1, r2⟩ (bytesOf_len _ _) w hT _ _ rfl _ e1 HA HK HX HS HS2
    · have hst : k.store = false := by simpa using hst
      rw [hst] at HX
      have hl : ldVal op (List.replicate k.bytes 0) = (0, true) := by unfold ldVal; rw [hk]; simp [hst, full_zero]
      refine cut_load op n m k.bytes r2 w hT _ HA HK HX (Lib.hid fun W A c h1 h2 h3 h4 => ?_)
      have := D.load op A (List.replicate k.bytes 0) c W ho h1 h2 (by simpa using h3) (by simp; omega) h4
      rw [hl, List.length_replicate] at this
      exact this
end
end Go.Proofs.Ytaagingcjmkcdaa.Pack
