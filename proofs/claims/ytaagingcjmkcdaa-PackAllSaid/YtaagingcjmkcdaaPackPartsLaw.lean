/-
  PackParts answers true, if pack's functions answer as the reference's do. Condition: that premise.
-/
import Derived.Test.YtaagingcjmkcdaaPackCutLaw
namespace Go.Proofs.Ytaagingcjmkcdaa.Pack
open Go.RowKit Leb

theorem st_55 (n : Nat) : stVal 55 n = (bytesOf 8 n, true) := rfl
theorem st_60 (n : Nat) : stVal 60 n = ([n % 256], true) := rfl
theorem full_same (s : Bool) (l : List Nat) (N : Nat) (h : l.length = N) : full s N l = l := by unfold full; rw [h, Nat.sub_self]; simp
theorem le_app_zero (l : List Nat) (k : Nat) : le (l ++ List.replicate k 0) = le l := by
  induction l with
  | nil => simp only [List.nil_append]; exact le_zero _ (fun x hx => (List.mem_replicate.1 hx).2)
  | cons x l ih => simp only [List.cons_append, le, ih]
theorem ld_41 (l : List Nat) (h : l.length = 8) : ldVal 41 l = (le l, true) := by
  have : kindOf 41 = some ⟨41, 64, 8, false, false⟩ := rfl
  unfold ldVal; rw [this]; simp [h]; rw [full_same _ _ _ h]
theorem ld_40 (l : List Nat) (h : l.length = 4) : ldVal 40 l = (le l, true) := by
  have : kindOf 40 = some ⟨40, 32, 4, false, false⟩ := rfl
  unfold ldVal; rw [this]; simp [h]; rw [full_same _ _ _ h]
theorem ld_53 (l : List Nat) (h : l.length = 4) : ldVal 53 l = (le l, true) := by
  have : kindOf 53 = some ⟨53, 64, 4, false, false⟩ := rfl
  unfold ldVal; rw [this]; simp [h]
  have hf : fill false l = 0 := by unfold fill; simp
  unfold full; rw [hf, le_app_zero]
theorem bytes_take (n : Nat) : (bytesOf 8 n).take 4 = bytesOf 4 n := by simp [bytesOf]
theorem bytes_drop (n : Nat) : (bytesOf 8 n).drop 4 = bytesOf 4 (n / 4294967296) := by simp [bytesOf, Nat.div_div_eq_div_mul]
theorem parts_or (n : Nat) (hn : n < 18446744073709551616) : bits BinOp.or IntKind.u64 ((n % 4294967296 : Nat) : Int) (((n / 4294967296 % 4294967296 : Nat) : Int) * 4294967296) = (n : Int) := by
  rw [show ((n / 4294967296 % 4294967296 : Nat) : Int) * 4294967296 = ((4294967296 * (n / 4294967296) : Nat) : Int) from by omega, u64_or_nat _ _ (by omega) (by omega)]
  have h := Nat.two_pow_add_eq_or_of_lt (i := 32) (b := n % 4294967296) (by omega) (n / 4294967296)
  rw [show (2 : Nat) ^ 32 = 4294967296 from by decide] at h
  rw [Nat.or_comm, ← h]
  omega
theorem bytes_from {w : World} {B b off : Nat} {l : List Nat} (h : Bytes w B (some ⟨b, off, none⟩) l) (k : Nat) : Bytes w B (some ⟨b, off + k, none⟩) (l.drop k) := by
  refine ⟨fun x hx => h.1 x (List.mem_of_mem_drop hx), fun hl => ?_⟩
  have hl' : k < l.length := by simp at hl; omega
  obtain ⟨b', off', e, hb, hc⟩ := h.2 (by omega)
  injection e with e
  injection e with e1 e2 _
  subst e1 e2
  refine ⟨b, off + k, rfl, hb, fun j hj => ?_⟩
  have hj' : k + j < l.length := by simp at hj; omega
  rw [Nat.add_assoc, hc (k + j) hj']
  simp
section
variable {T : World → Prop} (D : Does T)
include D
set_option maxHeartbeats 4000000 in
set_option maxRecDepth 100000 in
theorem parts_law (n : Nat) (w : World) (hT : T w) (hn : n < 18446744073709551616) :
    Calls Try.prog 6 #[.int .u64 (n : Int)] w fun e w' => e = .returned (.bool true) ∧ Below w.heap.size w w' := by
  have HA := Lib.hid (awake_any D w hT)
  have HK := Lib.hid D.keep
  have HS : Hid (∀ W, T W → Calls Try.prog 12 #[.int .i64 55, .int .u64 (n : Int)] W (GivesS W (bytesOf 8 n) true 8)) := Lib.hid fun W hW => D.store 55 n 8 W ⟨by omega, by omega⟩ hn (by rw [st_55]; rfl) hW
  have HS1 : Hid (∀ N : Nat, N < 18446744073709551616 → ∀ W, T W → Calls Try.prog 12 #[.int .i64 60, .int .u64 (N : Int)] W (GivesS W [N % 256] true 1)) := Lib.hid fun N hN W hW => D.store 60 N 1 W ⟨by omega, by omega⟩ hN rfl hW
  have HL41 : Hid (∀ W A l c, l.length = 8 → Bytes W W.heap.size A l → (A = none → c = 0) → 8 ≤ c → T W → Calls Try.prog 10 #[.int .i64 41, .slice A 8 c] W (Num2 W (le l) true)) := Lib.hid fun W A l c h h1 h2 h3 h4 => by
    have := D.load 41 A l c W ⟨by omega, by omega⟩ h1 h2 (by omega) (by omega) h4
    rw [ld_41 l h, h] at this
    exact this
  have HL53 : Hid (∀ W A l c, l.length = 4 → Bytes W W.heap.size A l → (A = none → c = 0) → 4 ≤ c → T W → Calls Try.prog 10 #[.int .i64 53, .slice A 4 c] W (Num2 W (le l) true)) := Lib.hid fun W A l c h h1 h2 h3 h4 => by
    have := D.load 53 A l c W ⟨by omega, by omega⟩ h1 h2 (by omega) (by omega) h4
    rw [ld_53 l h, h] at this
    exact this
  have HL40 : Hid (∀ W A l c, l.length = 4 → Bytes W W.heap.size A l → (A = none → c = 0) → 4 ≤ c → T W → Calls Try.prog 10 #[.int .i64 40, .slice A 4 c] W (Num2 W (le l) true)) := Lib.hid fun W A l c h h1 h2 h3 h4 => by
    have := D.load 40 A l c W ⟨by omega, by omega⟩ h1 h2 (by omega) (by omega) h4
    rw [ld_40 l h, h] at this
    exact this
  have Hn := Lib.hid hn
  clear D hn
  go_enter Try.func6, Try.ntmps6
  go_wp2_with fail
  refine HA.out.mono ?_
  rintro e w1 ⟨rfl, hb1⟩
  have hT1 := HK.out _ _ hT hb1
  go_wp2_with fail
  refine (HS.out _ hT1).mono ?_
  rintro e w2 ⟨A2, c2, rfl, hby, hnil, hcap, hb2⟩
  have hT2 := HK.out _ _ hT1 hb2
  have hb3 := hb1.trans (hb2.mono hb1.size)
  clear hT1 hb1 hb2 HA HS hT
  go_wp2
  go_loopw [5, 6] (fun v i wr => ∃ j : Nat, j ≤ 8 ∧ i = .int .i64 (j : Int) ∧ Own wr w2.heap.size v (bytesOf j n) ∧ Below w2.heap.size w2 wr) (fun _ i _ => 8 - (intOf i).toNat)
  case atStart => exact ⟨0, by omega, rfl, Own.nil _ _, Below.refl _ _⟩
  case round =>
    obtain ⟨j, hj, rfl, hown, hbel⟩ := hrel
    have hTr := HK.out _ _ hT2 hbel
    have hlen := bytesOf_len j n
    by_cases hlt : j < 8
    · have hlti : (j : Int) < 8 := by omega
      have hq : n / 2 ^ (8 * j) < 18446744073709551616 := Nat.lt_of_le_of_lt (Nat.div_le_self _ _) Hn.out
      have hE : (n : Int) / 2 ^ (8 * j) = ((n / 2 ^ (8 * j) : Nat) : Int) := by simp
      have HSN := Lib.hid (bytesOf_snoc j n)
      rw [show (256 : Nat) ^ j = 2 ^ (8 * j) from by rw [Nat.pow_mul]] at HSN
      have HC := Lib.hid (HS1.out _ hq)
      clear hq
      generalize n / 2 ^ (8 * j) = q at *
      go_wp2_with fail
      refine (HC.out _ hTr).mono ?_
      rintro e w4 ⟨A4, c4, rfl, hby4, hn4, hk4, hb4⟩
      have hsz := hbel.size
      have hown4 := hown.keep hb4 hown.lt
      have hb5 := hbel.trans (hb4.mono hsz)
      have hsz5 := hb5.size
      clear hown hbel hTr hb4
      go_wp2_with (at_builtin; refine app_bytes rfl (.tmp 37) (.tmp 38) rfl w2.heap.size _ (bytesOf j n) rfl hown4 A4 [q % 256] c4 w4.heap.size rfl hby4 hn4 (by simp; omega) hsz5 ?_; intro v6 w6 hown6 hbel6)
      go_roundw
      case rel => exact ⟨j + 1, by omega, by go_num, by rw [HSN.out]; exact hown6, hb5.trans hbel6⟩
      case measure => simp [intOf]; omega
    · have hlti : ¬ (j : Int) < 8 := by omega
      obtain rfl : j = 8 := by omega
      have hb4 := hb3.trans (hbel.mono hb3.size)
      have hby3 := (hby.below hbel).more hbel.size
      obtain ⟨A5, c5, rfl, hby5, hk5, hn5⟩ := hown.bytes (bytesOf_byte 8 n)
      rw [hlen] at hk5
      simp only [hlen]
      have hN : le (bytesOf 8 n) = n := by rw [le_bytesOf]; exact Nat.mod_eq_of_lt Hn.out
      obtain ⟨b, off, rfl, _, _⟩ := hby3.2 (by rw [hlen]; omega)
      clear hown hb3 hbel hT2 HS1 hby hnil
      go_wp2_with fail
      refine (same_yes hby3 hby5 hlen hlen (by omega)).mono ?_
      rintro e w6 ⟨rfl, m6, rfl⟩
      have hT6 : T (wr.drewN m6) := HK.out _ _ hTr (below_drewN (Below.refl _ _) m6)
      have hb6 := below_drewN hb4 m6
      have hby6 : Bytes (wr.drewN m6) (wr.drewN m6).heap.size (some ⟨b, off, none⟩) (bytesOf 8 n) := hby3.drewN m6
      have hby7 : Bytes (wr.drewN m6) (wr.drewN m6).heap.size A5 (bytesOf 8 n) := hby5.drewN m6
      clear hTr hb4 hby3 hby5
      generalize wr.drewN m6 = w7 at *
      go_wp2_with fail
      refine (HL41.out _ _ _ _ hlen hby7 hn5 hk5 hT6).mono ?_
      rintro e w8 ⟨rfl, hb8⟩
      rw [hN]
      have hT8 := HK.out _ _ hT6 hb8
      have hby8 := (hby6.below hb8).more hb8.size
      have hb9 := hb6.trans (hb8.mono hb6.size)
      clear hT6 hb8 hby6 hby7 hb6 HL41 hN
      have h4 : (bytesOf 4 n).length = 4 := rfl
      have hlo := bytes_take n ▸ hby8.take 4
      go_wp2_with fail
      refine (HL53.out _ _ _ _ h4 hlo (fun h => by cases h) (by omega) hT8).mono ?_
      rintro e w10 ⟨rfl, hb10⟩
      have hT10 := HK.out _ _ hT8 hb10
      have hby10 := (hby8.below hb10).more hb10.size
      have hb11 := hb9.trans (hb10.mono hb9.size)
      clear hT8 hb10 hby8 hb9 hlo
      have hhi := bytes_drop n ▸ bytes_from hby10 4
      go_wp2_with fail
      refine (HL53.out _ _ _ _ (show (bytesOf 4 (n / 4294967296)).length = 4 from rfl) hhi (fun h => by cases h) (by omega) hT10).mono ?_
      rintro e w12 ⟨rfl, hb12⟩
      have hT12 := HK.out _ _ hT10 hb12
      have hby12 := (hby10.below hb12).more hb12.size
      have hb13 := hb11.trans (hb12.mono hb11.size)
      clear hT10 hb12 hby10 hb11 hhi
      have hlo := bytes_take n ▸ hby12.take 4
      go_wp2_with fail
      refine (HL40.out _ _ _ _ h4 hlo (fun h => by cases h) (by omega) hT12).mono ?_
      rintro e w14 ⟨rfl, hb14⟩
      have hb15 := hb13.trans (hb14.mono hb13.size)
      have e1 : le (bytesOf 4 n) = n % 4294967296 := le_bytesOf 4 n
      have e2 : le (bytesOf 4 (n / 4294967296)) = n / 4294967296 % 4294967296 := le_bytesOf 4 _
      have hO := parts_or n Hn.out
      rw [e1, e2]
      have hh : n / 4294967296 % 4294967296 < 4294967296 := Nat.mod_lt _ (by omega)
      clear hT12 hb14 hby12 hb13 hlo e1 e2 HL53 HL40 HK Hn
      generalize n % 4294967296 = lo at *
      generalize n / 4294967296 % 4294967296 = hi at *
      have hw : IntKind.u64.wrap ((hi : Int) * 4294967296) = (hi : Int) * 4294967296 := by rw [IntKind.wrap_u64]; omega
      clear hh
      go_wp2
      go_ret
      exact ⟨rfl, hb15⟩
end
end Go.Proofs.Ytaagingcjmkcdaa.Pack
