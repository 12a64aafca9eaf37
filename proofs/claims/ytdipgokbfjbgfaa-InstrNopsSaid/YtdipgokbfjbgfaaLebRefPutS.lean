/-
  trammelref01.PutS comes to what leb.PutS puts: the fewest bytes that are read as the number. No condition but that the number has 64 bits.
-/
import Derived.Test.YtdipgokbfjbgfaaLebPutS
import Derived.Test.YtdipgokbfjbgfaaLebRefPut
import Derived.Test.YtdipgokbfjbgfaaLebRefS
import Derived.Test.YtdipgokbfjbgfaaLebBackMath
namespace Go.Proofs.Ytdipgokbfjbgfaa.Leb
open Go.RowKit

/-- A number's lowest t pieces of seven bits, as bytes. -/
def pbr : Nat → Int → List Nat
  | 0, _ => []
  | 1, n => [(n % 128).toNat]
  | t + 2, n => ((n % 128).toNat + 128) :: pbr (t + 1) (n / 128)
def piece (n : Int) (t i : Nat) : Nat := (n / 2 ^ (7 * i) % 128).toNat + if i + 1 < t then 128 else 0
def pbq (n : Int) (t q : Nat) : List Nat := (List.range q).map (piece n t)
theorem pbq_all (t : Nat) (n : Int) : pbq n (t + 1) (t + 1) = pbr (t + 1) n := by
  induction t generalizing n with
  | zero => simp [pbq, pbr, piece, List.range_succ]
  | succ t ih =>
    have h := ih (n / 128)
    unfold pbq at h ⊢
    rw [List.range_succ_eq_map, List.map_cons, List.map_map]
    simp only [pbr]
    rw [← h]
    congr 1
    · simp [piece]
    · apply List.map_congr_left
      intro i _
      simp only [Function.comp, piece]
      rw [show 7 * i.succ = 7 + 7 * i from by omega, Int.pow_add, Int.ediv_ediv_of_nonneg (by omega)]
      by_cases hi : i + 1 < t + 1
      · rw [if_pos hi, if_pos (by omega)]; rfl
      · rw [if_neg hi, if_neg (by omega)]; rfl
theorem pbq_snoc (n : Int) (t q : Nat) : pbq n t (q + 1) = pbq n t q ++ [piece n t q] := by simp [pbq, List.range_succ]
theorem pbr_len (t : Nat) (n : Int) : (pbr t n).length = t := by
  induction t generalizing n with
  | zero => rfl
  | succ t ih => cases t with
    | zero => rfl
    | succ t => simp [pbr, ih]
theorem putSf_pbr (f : Nat) (n : Int) : putSf f n = pbr (putSf f n).length n := by
  induction f generalizing n with
  | zero => simp [putSf, pbr]
  | succ f ih =>
    simp only [putSf]
    split
    · simp [pbr]
    · have h1 := ih (n / 128)
      have h2 := (putSf_len f (n / 128)).1
      obtain ⟨k, hk⟩ : ∃ k, (putSf f (n / 128)).length = k + 1 := ⟨(putSf f (n / 128)).length - 1, by omega⟩
      rw [List.length_cons, hk]
      simp only [pbr]
      rw [hk] at h1
      rw [← h1]
theorem lead_pbr (t : Nat) (n : Int) : lead (pbr (t + 1) n) = t := by
  induction t generalizing n with
  | zero => simp [pbr, lead]; omega
  | succ t ih => simp only [pbr, lead]; rw [if_pos (by omega), ih]
theorem val_pbr (t : Nat) (n : Int) : ((val (pbr t n) : Nat) : Int) = n % 128 ^ t := by
  induction t generalizing n with
  | zero => simp [pbr, val]
  | succ t ih => cases t with
    | zero => simp [pbr, val]; omega
    | succ t =>
      have h := ih (n / 128)
      simp only [pbr, val]
      generalize val (pbr (t + 1) (n / 128)) = v at *
      generalize t + 1 = k at *
      have hp : (0 : Int) < 128 ^ k := Int.pow_pos (by omega)
      have h1 := Int.emod_add_mul_ediv n 128
      have h2 := Int.emod_add_mul_ediv (n / 128) (128 ^ k)
      have h3 := Int.emod_nonneg (n / 128) (show (128 : Int) ^ k ≠ 0 by omega)
      have h4 := Int.emod_lt_of_pos (n / 128) hp
      have h5 : n = (128 * (n / 128 % 128 ^ k) + n % 128) + 128 ^ k * 128 * (n / 128 / 128 ^ k) := by
        rw [Int.mul_comm (128 ^ k) 128, Int.mul_assoc]
        omega
      have h6 : n % (128 ^ k * 128) = 128 * (n / 128 % 128 ^ k) + n % 128 := by
        generalize hr : 128 * (n / 128 % 128 ^ k) + n % 128 = r at *
        rw [h5, Int.add_mul_emod_self_left]
        exact Int.emod_eq_of_lt (by omega) (by omega)
      rw [Int.pow_succ, h6, ← h]
      omega
/-- Fewer bytes are read, but as another number. -/
theorem sRes_fewer (n : Int) (t : Nat) (h1 : 1 ≤ t) (ht : t < (putS n).length) : ∃ x, sRes (pbr t n) 64 = (x, t, 0) ∧ x ≠ n := by
  have hlen := (putSf_len 9 n).2
  have ht9 : t ≤ 9 := by unfold putS at ht; omega
  obtain ⟨k, rfl⟩ : ∃ k, t = k + 1 := ⟨t - 1, by omega⟩
  have hm : most 64 = 10 := rfl
  have hg : gath (pbr (k + 1) n) (most 64) = (gv (pbr (k + 1) n) (k + 1), k + 1, 0) := by
    unfold gath
    rw [lead_pbr, if_neg (by omega), if_neg (by rw [pbr_len]; omega)]
  refine ⟨ext (gv (pbr (k + 1) n) (k + 1) : Nat) (((k + 1 : Nat) : Int) * 7), ?_, ?_⟩
  · unfold sRes
    rw [hg, if_pos rfl, if_neg]
    rintro ⟨h, _⟩
    simp only at h
    omega
  · intro he
    have hv := val_lt (pbr (k + 1) n)
    rw [pbr_len] at hv
    have ht' : (pbr (k + 1) n).take (k + 1) = pbr (k + 1) n := List.take_of_length_le (by rw [pbr_len]; omega)
    have hf := ext_fits (k + 1) (val (pbr (k + 1) n)) (by omega) (by omega) hv
    unfold gv at he
    rw [ht'] at he
    rw [he] at hf
    have := putSf_least 9 n (k + 1) (by omega) hf
    unfold putS at ht
    omega
theorem sRes_just (n : Int) (hn : -9223372036854775808 ≤ n ∧ n ≤ 9223372036854775807) : sRes (putS n) 64 = (n, (putS n).length, 0) := by
  have := sRes_put n 64 [] (by omega) (by omega) (by omega)
  rw [List.append_nil] at this
  exact this
theorem rem_eq (n : Int) (q : Nat) : (IntKind.u64.wrap (n / 2 ^ (7 * q))).tmod 128 = (((n / 2 ^ (7 * q) % 128).toNat : Nat) : Int) := by
  rw [IntKind.wrap_u64, Int.tmod_eq_emod_of_nonneg (by omega)]
  omega
theorem piece_lt (n : Int) (t i : Nat) : piece n t i < 256 := by unfold piece; split <;> omega
set_option maxHeartbeats 2000000 in
set_option maxRecDepth 100000 in
theorem rputS_any (n : Int) (w : World) (hn : -9223372036854775808 ≤ n ∧ n ≤ 9223372036854775807) : Calls Try.prog 37 #[.int .i64 n] w (Gives w (putS n)) := by
  have Hn := Lib.hid hn
  have hlen := (putSf_len 9 n)
  have hl1 : 1 ≤ (putS n).length := hlen.1
  have hl10 : (putS n).length ≤ 10 := hlen.2
  clear hn hlen
  go_enter Try.func37, Try.ntmps37
  go_wp2
  go_loopw [3] (fun x wr => ∃ t : Nat, 1 ≤ t ∧ t ≤ (putS n).length ∧ x = .int .i64 (t : Int) ∧ Below w.heap.size w wr) (fun x _ => 11 - (intOf x).toNat)
  case atStart => exact ⟨1, by omega, hl1, rfl, Below.refl _ _⟩
  case round =>
    obtain ⟨t, ht1, htl, rfl, hbel⟩ := hrel
    go_wp2
    go_loopw [4, 5] (fun v i wr2 => ∃ q : Nat, q ≤ t ∧ i = .int .i64 (q : Int) ∧ Own wr2 w.heap.size v (pbq n t q) ∧ Below w.heap.size w wr2) (fun _ i _ => t - (intOf i).toNat)
    case atStart => exact ⟨0, by omega, rfl, Own.nil _ _, hbel⟩
    case round =>
      obtain ⟨q, hq, rfl, hown, hbel2⟩ := hrel
      clear hbel
      by_cases hqt : q < t
      · have hqti : (q : Int) < (t : Int) := by omega
        have hsz := hbel2.size
        have hrem := rem_eq n q
        obtain ⟨y, hye⟩ : ∃ y, y = (n / 2 ^ (7 * q) % 128).toNat := ⟨_, rfl⟩
        have hy128 : y < 128 := by omega
        have hpc : piece n t q = y + if q + 1 < t then 128 else 0 := by unfold piece; rw [hye]
        rw [← hye] at hrem
        clear hye
        by_cases hq1 : q + 1 < t
        · have hq1i : (q : Int) < (t : Int) - 1 := by omega
          obtain ⟨z, hze⟩ : ∃ z, z = y + 128 := ⟨_, rfl⟩
          have hz' : (y : Int) + 128 = (z : Int) := by omega
          have hz256 : z < 256 := by omega
          rw [if_pos hq1, ← hze] at hpc
          have HP := Lib.hid hpc
          clear hpc hze
          go_wp2_with (at_builtin; refine app_bytes rfl (.tmp 31) (.tmp 33) rfl w.heap.size _ (pbq n t q) rfl (hown.alloc _) _ [z] 1 _ rfl (bytes_one _ z (by omega) _) (fun h => by cases h) (by simp [pbq]; omega) (by simp; omega) ?_; intro v1 w1 hown1 hbel1)
          go_roundw
          case rel => exact ⟨q + 1, by omega, by go_num, by rw [pbq_snoc, HP.out]; exact hown1, (hbel2.alloc hsz _).trans hbel1⟩
          case measure => simp [intOf]; omega
        · have hq1i : ¬ (q : Int) < (t : Int) - 1 := by omega
          rw [if_neg hq1, Nat.add_zero] at hpc
          have HP := Lib.hid hpc
          clear hpc
          go_wp2_with (at_builtin; refine app_bytes rfl (.tmp 31) (.tmp 33) rfl w.heap.size _ (pbq n t q) rfl (hown.alloc _) _ [y] 1 _ rfl (bytes_one _ y (by omega) _) (fun h => by cases h) (by simp [pbq]; omega) (by simp; omega) ?_; intro v1 w1 hown1 hbel1)
          go_roundw
          case rel => exact ⟨q + 1, by omega, by go_num, by rw [pbq_snoc, HP.out]; exact hown1, (hbel2.alloc hsz _).trans hbel1⟩
          case measure => simp [intOf]; omega
      · have hqti : ¬ (q : Int) < (t : Int) := by omega
        obtain rfl : q = t := by omega
        have hlt : ∀ x ∈ pbq n q q, x < 256 := by
          intro x hx
          obtain ⟨i, _, rfl⟩ := List.mem_map.1 hx
          exact piece_lt n q i
        obtain ⟨A, c, hv, hB, _, _⟩ := hown.bytes hlt
        have hql : (pbq n q q).length = q := by simp [pbq]
        have hpb : pbq n q q = pbr q n := by
          obtain ⟨k, rfl⟩ : ∃ k, q = k + 1 := ⟨q - 1, by omega⟩
          exact pbq_all k n
        rw [hql] at hv
        rw [hpb] at hB hown
        rw [hv] at hown ⊢
        have Hown := Lib.hid hown
        clear hown hv hlt hql hpb
        have hS := rS_any A (pbr q n) c 64 wr hB (by omega) (by omega)
        rw [pbr_len] at hS
        by_cases hlast : q = (putS n).length
        · have hp : pbr q n = putS n := by rw [hlast]; exact (putSf_pbr 9 n).symm
          rw [hp, sRes_just n Hn.out, ← hlast] at hS
          have HS := Lib.hid hS
          have HO : Hid (Own wr w.heap.size (.slice A q c) (putS n)) := Lib.hid (by rw [← hp]; exact Hown.out)
          clear hS hp hlast Hown hB
          go_wp2_with (go_at_call 50; refine (HS.out).mono ?_; rintro e w3 ⟨rfl, hb3⟩)
          go_ret
          exact ⟨_, rfl, HO.out.keep hb3 HO.out.lt, hbel2.trans (hb3.mono hbel2.size)⟩
        · obtain ⟨x, hx, hne⟩ := sRes_fewer n q ht1 (by omega)
          rw [hx] at hS
          have HS := Lib.hid hS
          have hneb : (x == n) = false := beq_eq_false_iff_ne.2 hne
          clear hS hx hne Hown hB
          go_wp2_with (go_at_call 50; refine (HS.out).mono ?_; rintro e w3 ⟨rfl, hb3⟩)
          go_roundw
          case rel => exact ⟨q + 1, by omega, by omega, by go_num, hbel2.trans (hb3.mono hbel2.size)⟩
          case measure => simp [intOf]; omega
end Go.Proofs.Ytdipgokbfjbgfaa.Leb
