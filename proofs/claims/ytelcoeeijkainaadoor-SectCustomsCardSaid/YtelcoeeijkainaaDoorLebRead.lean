/-
  trammelref01.most, trammelref01.Read: what each comes to: how many bytes, and the bits, the lowest first. Conditions: the bytes lie in memory as a slice's cells.
-/
import Derived.Test.YtelcoeeijkainaaDoorLebOwn
import Derived.Test.YtelcoeeijkainaaDoorLebRefMath
namespace Go.Proofs.YtelcoeeijkainaaDoor.Leb
open Go.RowKit

theorem rmost_any (n : Nat) (w : World) (h : n ≤ 64) : Calls Tryd.prog 34 #[.int .i64 (n : Int)] w fun e w' => e = .returned (.int .i64 ((most n : Nat) : Int)) ∧ w = w' := by
  go_enter Tryd.func34, Tryd.ntmps34
  go_wp2
  go_loop [3] (fun i => ∃ k : Nat, k ≤ most n ∧ i = .int .i64 (k : Int)) (fun i => most n - (intOf i).toNat)
  case atStart => exact ⟨0, Nat.zero_le _, rfl⟩
  case round =>
    obtain ⟨k, hk, rfl⟩ := hrel
    have hmn : most n ≤ 10 := by unfold most; omega
    by_cases hlt : 7 * (k : Int) < (n : Int)
    · go_wp2
      go_round
      case rel => exact ⟨k + 1, by unfold most; omega, by go_num⟩
      case measure =>
        have : k < most n := by unfold most; omega
        simp [intOf]; omega
    · go_wp2
      go_ret
      exact ⟨ret_int (by unfold most at *; omega), rfl⟩
theorem bool_info : (Tryd.prog.info? 4).map (fun i => (i.zero, i.size, i.bytes)) = some (some (.bool false), 1, 1) := by kernel_rfl
/-- The slice value v owns the first n bits of V, in a block from 'base' on. -/
def OwnB (w : World) (base : Nat) (v : Value) (V n : Nat) : Prop := w.ownsRow base 4 1 v n ((bitList V n).map Value.bool)
theorem OwnB.alloc {w : World} {base : Nat} {v : Value} {V n : Nat} (h : OwnB w base v V n) (o : Obj) : OwnB (w.alloc o) base v V n := World.ownsRow.alloc h o
/-- What leads to the first n bits of V. -/
def Bits (w : World) (g V n : Nat) : Prop := g < w.heap.size ∧ ∀ j, j < n → w.cell? ⟨g, j, none⟩ = some (.bool (bitAt V j))
theorem OwnB.bits {w : World} {base : Nat} {v : Value} {V n : Nat} (h : OwnB w base v V n) (hn : 0 < n) : ∃ g cap, v = .slice (some ⟨g, 0, none⟩) n cap ∧ Bits w g V n := by
  have hlt := World.ownsRow.lt h
  rcases h.2 with ⟨rfl, h0⟩ | ⟨g, cap, cur, rfl, h1, h2, h3, h4, h5⟩
  · omega
  · refine ⟨g, cap, rfl, (hlt g rfl).2, fun j hj => ?_⟩
    have hc := World.ownsRow.cellAt h j (by omega)
    rw [hc, List.getElem?_map, bitList_get V n j hj]
    rfl
section
variable {w : World} {ops : Array Oper} {rest : List Oper} {o : Oper} {a : Act} {Q : Exit → Act → World → Prop}
/-- 'append(s, x)' of one bit more. -/
theorem app_bit (hgd : o.guard = none) (s x : Operand) (ho : o.op = .call { callee := .builtin .append, args := #[s, x], argTypes := #[67, 67] })
    (base : Nat) (v : Value) (V n : Nat) (b : Bool) (hs : a.eval s = v) (w0 : World) (hw : w = w0.alloc (.cells #[.bool b] 4)) (hown : OwnB w0 base v V n) (hx : a.eval x = .slice (some ⟨w0.heap.size, 0, none⟩) 1 1) (hbit : b = bitAt V n)
    (hlen : n ≤ 1000000) (hbase : base ≤ w0.heap.size)
    (h : ∀ v' w', OwnB w' base v' V (n + 1) → Below base w0 w' → wpList Tryd.prog ops Q rest (a.put o.dst v') w') : wpList Tryd.prog ops Q (o :: rest) a w := by
  obtain ⟨i0, hi0, hz0, hz1, hz2⟩ := info_parts bool_info
  subst hw
  refine wpList_append_own_at _ hgd s x _ ho base 4 i0 (.bool false) 1 1 Tryd.underlying67 hi0 hz0 hz1 hz2 rfl (by omega) v n _ hs (hown.alloc _) ⟨w0.heap.size, 0, none⟩ 1 1 [.bool b] hx rfl (cell_one_new _ _ _) ?_ (by simp only [maxLen]; omega) (by omega) (by simp; omega) ?_
  · intro u hu; simp at hu; subst hu; rfl
  · intro v' w' h1 h2 _ _
    refine h v' w' ?_ ?_
    · unfold OwnB
      rw [bitList_snoc, List.map_append, ← hbit]
      exact h1
    · exact ((Below.refl _ _).alloc hbase _).trans ((Below.refl _ _).grown h2 (by simp; omega) (fun k hk => (World.ownsRow.lt hown k hk).1))
end
theorem read_arg (A : Option Addr) (len cap : Nat) (n : Int) (w : World) (h : n < 1 ∨ 64 < n) :
    Calls Tryd.prog 31 #[.slice A len cap, .int .i64 n] w fun e w' => e = .returned (.tuple #[.slice none 0 0, .int .i64 0, .int .i64 5]) ∧ w = w' := by
  rcases h with h | h
  · go_enter Tryd.func31, Tryd.ntmps31
    go_wp2
    go_ret3
    exact ⟨rfl, rfl⟩
  · have h' : ¬ n < 1 := by omega
    go_enter Tryd.func31, Tryd.ntmps31
    go_wp2
    go_ret3
    exact ⟨rfl, rfl⟩
theorem bit_eq (l : List Nat) (k q x : Nat) (hk : k < l.length) (hq : q < 7) (hx : x = l[k]) : ((x : Int) / 2 ^ q % 2 == 1) = bitAt (val (l.take (k + 1))) (7 * k + q) := by
  rw [bitAt_val l k q hk hq, ← hx]
  have e : (x : Int) / 2 ^ q % 2 = ((x / 2 ^ q % 2 : Nat) : Int) := by simp
  rw [e, Bool.eq_iff_iff]
  simp only [beq_iff_eq]
  omega
/-- What trammelref01.Read answers: the bits of the bytes up to the last one, or an error. -/
def ReadGives (w : World) (l : List Nat) (m : Nat) (e : Ending) (w' : World) : Prop :=
  (m ≤ lead l ∧ e = .returned (.tuple #[.slice none 0 0, .int .i64 0, .int .i64 2]) ∧ Below w.heap.size w w') ∨
  (lead l < m ∧ lead l = l.length ∧ e = .returned (.tuple #[.slice none 0 0, .int .i64 0, .int .i64 1]) ∧ Below w.heap.size w w') ∨
  (lead l < m ∧ lead l < l.length ∧ ∃ g c, e = .returned (.tuple #[.slice (some ⟨g, 0, none⟩) (7 * (lead l + 1)) c, .int .i64 ((lead l + 1 : Nat) : Int), .int .i64 0]) ∧ Bits w' g (val (l.take (lead l + 1))) (7 * (lead l + 1)) ∧ Below w.heap.size w w')
set_option maxHeartbeats 2000000 in
set_option maxRecDepth 100000 in
theorem read_any (A : Option Addr) (l : List Nat) (cap n : Nat) (w : World) (hb : Bytes w w.heap.size A l) (h0 : 1 ≤ n) (h64 : n ≤ 64) :
    Calls Tryd.prog 31 #[.slice A l.length cap, .int .i64 (n : Int)] w (ReadGives w l (most n)) := by
  have hge : ¬ (n : Int) < 1 := by omega
  have hle : ¬ (64 : Int) < n := by omega
  have hmn : most n ≤ 10 := by unfold most; omega
  go_enter Tryd.func31, Tryd.ntmps31
  go_wp2
  go_loopw [7, 8] (fun v i wr => ∃ k : Nat, k ≤ most n ∧ k ≤ l.length ∧ k ≤ lead l ∧ i = .int .i64 (k : Int) ∧ OwnB wr w.heap.size v (val (l.take k)) (7 * k) ∧ Below w.heap.size w wr) (fun _ i _ => most n - (intOf i).toNat)
  case atStart => exact ⟨0, Nat.zero_le _, Nat.zero_le _, Nat.zero_le _, rfl, World.ownsRow_nil _ _ _ _, Below.refl _ _⟩
  case round =>
    obtain ⟨k, hk, hkl, hkd, rfl, hown, hbel⟩ := hrel
    by_cases hm : k < most n
    · by_cases hl : k < l.length
      · obtain ⟨b, off, rfl, hbB, hcs⟩ := hb.2 (by omega)
        have hc := hcs k hl
        have hx := hb.1 l[k] (List.getElem_mem hl)
        have hown2 : OwnB wr w.heap.size u7 (val (l.take (k + 1))) (7 * k) := by unfold OwnB; rw [← bitList_next l k hl]; exact hown
        have hdl : decide (l.length ≤ k) = false := by simp; omega
        have hlt : (k : Int) < (l.length : Int) := by omega
        clear hown
        obtain ⟨x, hxe⟩ : ∃ x, x = l[k] := ⟨_, rfl⟩
        rw [← hxe] at hc hx
        have HX := Lib.hid hxe
        clear hxe hcs
        go_wp2_with (go_at_call 34; refine (rmost_any n _ h64).mono ?_; rintro e w' ⟨rfl, rfl⟩)
        go_loopw [7, 9] (fun v j wr2 => ∃ q : Nat, q ≤ 7 ∧ j = .int .i64 (q : Int) ∧ OwnB wr2 w.heap.size v (val (l.take (k + 1))) (7 * k + q) ∧ Below w.heap.size w wr2) (fun _ j _ => 7 - (intOf j).toNat)
        case atStart => exact ⟨0, by omega, rfl, hown2, hbel⟩
        case round =>
          obtain ⟨q, hq, rfl, hown3, hbel3⟩ := hrel
          rename_i wr2 _
          have hcell := (hbel3.cell (p := ⟨b, off + k, none⟩) hbB).trans hc
          clear hc hbel hown2
          by_cases hq7 : q < 7
          · have hq7i : (q : Int) < 7 := by omega
            have hsz := hbel3.size
            go_wp2_with (at_builtin; (refine app_bit rfl (.tmp 30) (.tmp 40) rfl w.heap.size _ (val (l.take (k + 1))) (7 * k + q) ((x : Int) / 2 ^ q % 2 == 1) rfl _ rfl hown3 rfl (bit_eq l k q x hl hq7 HX.out) (by omega) hsz ?_); intro v4 w4 hown4 hbel4)
            go_roundw
            case rel => exact ⟨q + 1, by omega, by go_num, hown4, hbel3.trans hbel4⟩
            case measure => simp [intOf]; omega
          · have hq7i : ¬ (q : Int) < 7 := by omega
            obtain rfl : q = 7 := by omega
            by_cases hx7 : x < 128
            · have hx7i : (x : Int) < 128 := by omega
              have hd : lead l = k := (lead_step l k hl hkd).2 (HX.out ▸ hx7)
              obtain ⟨g, c, hv, hbits⟩ := hown3.bits (by omega)
              rw [hv]
              have HD := Lib.hid hd
              clear hd hv hown3
              go_wp2
              go_ret3
              exact .inr (.inr ⟨by rw [HD.out]; omega, by rw [HD.out]; omega, g, c, by rw [HD.out]; rfl, by rw [HD.out]; exact hbits, hbel3⟩)
            · have hx7i : ¬ (x : Int) < 128 := by omega
              go_wp2
              go_roundw
              case rel => exact ⟨k + 1, by omega, by omega, (lead_step l k hl hkd).1 (by rw [← HX.out]; omega), by go_num, hown3, hbel3⟩
              case measure => simp [intOf]; omega
      · have hdl : decide (l.length ≤ k) = true := by simp; omega
        have hd := lead_le l
        have hd1 : lead l < most n := by omega
        have hd2 : Hid (lead l = l.length) := Lib.hid (by omega)
        clear hd hown
        go_wp2_with (go_at_call 34; refine (rmost_any n _ h64).mono ?_; rintro e w' ⟨rfl, rfl⟩)
        go_ret3
        exact .inr (.inl ⟨hd1, hd2.out, rfl, hbel⟩)
    · go_wp2_with (go_at_call 34; refine (rmost_any n _ h64).mono ?_; rintro e w' ⟨rfl, rfl⟩)
      go_ret3
      exact .inl ⟨by omega, rfl, hbel⟩
end Go.Proofs.YtelcoeeijkainaaDoor.Leb
