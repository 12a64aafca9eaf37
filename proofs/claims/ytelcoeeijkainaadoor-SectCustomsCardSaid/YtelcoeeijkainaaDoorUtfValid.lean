/-
  trammelref02.Valid: it tells whether a text's bytes are forms of characters. Condition: the text has at most 2^40 bytes.
-/
import Derived.Test.YtelcoeeijkainaaDoorUtfRef
import Derived.Test.YtelcoeeijkainaaDoorLebSame
import Derived.Lib.ConvBytes
import Derived.Deep.RegionWith
import Derived.Deep.RegionHeld3
import Derived.Deep.QuietTactic
import Derived.BigQuiet
namespace Go.Proofs.YtelcoeeijkainaaDoor.Utf
open Go.RowKit Go.Proofs.YtelcoeeijkainaaDoor.Leb

/-- A text's bytes, as numbers. -/
def bl (s : ByteArray) : List Nat := s.data.toList.map UInt8.toNat
theorem data_len (s : ByteArray) : s.data.toList.length = s.size := by rw [Array.length_toList]; rfl
theorem bl_len (s : ByteArray) : (bl s).length = s.size := by unfold bl; rw [List.length_map, data_len]
theorem bl_byte (s : ByteArray) : ∀ x ∈ bl s, x < 256 := by
  intro x hx
  obtain ⟨b, _, rfl⟩ := List.mem_map.1 hx
  exact UInt8.toNat_lt b
theorem conv_below (w : World) (s : ByteArray) : Below w.heap.size w (Lib.bytesWorld w 5 s) :=
  ⟨rfl, rfl, rfl, by rw [Lib.bytesWorld_size]; omega, fun k hk => Lib.bytesWorld_at_old w _ s k hk⟩
theorem conv_bytes (w : World) (s : ByteArray) : Bytes (Lib.bytesWorld w 5 s) (Lib.bytesWorld w 5 s).heap.size (some ⟨w.heap.size, 0, none⟩) (bl s) := by
  refine ⟨bl_byte s, fun _ => ⟨w.heap.size, 0, rfl, by rw [Lib.bytesWorld_size]; omega, fun j hj => ?_⟩⟩
  rw [bl_len] at hj
  rw [Nat.zero_add, Lib.bytesWorld_cell w _ s j hj]
  have hj' : j < s.data.toList.length := by rw [data_len]; exact hj
  simp [bl, List.getD, List.getElem?_eq_getElem hj']
/-- What is left of bytes behind the first n, as a slice expression leads there. -/
theorem bytes_drop {w : World} {B : Nat} {b off c : Nat} {l : List Nat} (h : Bytes w B (some ⟨b, off, none⟩) l) (n : Nat) (hc : l.length ≤ c) :
    Bytes w B (some (if c = n then ⟨b, off, none⟩ else ⟨b, off + n, none⟩)) (l.drop n) := by
  refine ⟨fun x hx => h.1 x (List.mem_of_mem_drop hx), fun hl => ?_⟩
  have hl' : n < l.length := by simp at hl; omega
  obtain ⟨b', off', he, hb, hcell⟩ := h.2 (by omega)
  injection he with he
  injection he with he1 he2
  subst he1; subst he2
  rw [if_neg (by omega)]
  refine ⟨b, off + n, rfl, hb, fun j hj => ?_⟩
  have hj' : n + j < l.length := by simp at hj; omega
  rw [Nat.add_assoc, hcell (n + j) hj']
  simp
theorem int_eq {k : IntKind} {a b : Int} (h : a = b) : Value.int k a = .int k b := by rw [h]
/-- How long a slice value is. -/
def lenOf : Value → Nat
  | .slice _ n _ => n
  | _ => 0
/-- A character in the making: of the first i bytes, the first one cut by m. -/
def part (l : List Nat) (m : Nat) : Nat → Nat
  | 0 => 0
  | 1 => l.getD 0 0 % m
  | i + 2 => part l m (i + 1) * 64 + l.getD (i + 1) 0 % 64
theorem part_lt (l : List Nat) (m i : Nat) (hm : m ≤ 128) (h0 : 1 ≤ m) : part l m (i + 1) < 128 * 64 ^ i := by
  induction i with
  | zero => simp only [part]; have := Nat.mod_lt (l.getD 0 0) h0; omega
  | succ i ih => simp only [part]; rw [Nat.pow_succ]; have := Nat.mod_lt (l.getD (i + 1) 0) (show 64 > 0 by omega); omega
theorem part_lt4 (l : List Nat) (m i : Nat) (hm : m ≤ 128) (h0 : 1 ≤ m) (hi : i ≤ 4) : ((part l m i : Nat) : Int) ≤ 33554432 := by
  cases i with
  | zero => simp [part]
  | succ i =>
    have h1 := part_lt l m i hm h0
    have h2 : (64 : Nat) ^ i ≤ 64 ^ 3 := Nat.pow_le_pow_right (by omega) (by omega)
    omega
theorem part_next (l : List Nat) (m q : Nat) (h : 1 ≤ q) : part l m (q + 1) = part l m q * 64 + l.getD q 0 % 64 := by
  obtain ⟨i, rfl⟩ : ∃ i, q = i + 1 := ⟨q - 1, by omega⟩
  rfl
/-- The reference's table: by how much the first byte of a form of n bytes is cut. -/
theorem idx (n : Nat) (h1 : 1 ≤ n) (h4 : n ≤ 4) : ∃ m : Nat, 1 ≤ m ∧ m ≤ 128 ∧ (∀ l : List Nat, rsize (l.getD 0 0) = n → rchar l = part l m n ∧ part l m n < 2097152) ∧
    ∀ w : World, (Instr.index 49 (.agg #[.int .i64 0, .int .i64 128, .int .i64 32, .int .i64 16, .int .i64 8]) (.int .i64 (n : Int))).run Tryd.prog w = .ok (.int .i64 (m : Int)) w := by
  have hn : n = 1 ∨ n = 2 ∨ n = 3 ∨ n = 4 := by omega
  rcases hn with rfl | rfl | rfl | rfl
  · refine ⟨128, by omega, by omega, fun l hl => ?_, fun w => by kernel_rfl⟩
    have h : rchar l = part l 128 1 := by unfold rchar; rw [if_pos hl]; rfl
    refine ⟨h, ?_⟩
    simp only [part]; omega
  · refine ⟨32, by omega, by omega, fun l hl => ?_, fun w => by kernel_rfl⟩
    have h : rchar l = part l 32 2 := by unfold rchar; rw [hl, if_neg (by omega), if_pos rfl]; rfl
    refine ⟨h, ?_⟩
    simp only [part]; omega
  · refine ⟨16, by omega, by omega, fun l hl => ?_, fun w => by kernel_rfl⟩
    have h : rchar l = part l 16 3 := by unfold rchar; rw [hl, if_neg (by omega), if_neg (by omega), if_pos rfl]; rfl
    refine ⟨h, ?_⟩
    simp only [part]; omega
  · refine ⟨8, by omega, by omega, fun l hl => ?_, fun w => by kernel_rfl⟩
    have h : rchar l = part l 8 4 := by unfold rchar; rw [hl, if_neg (by omega), if_neg (by omega), if_neg (by omega)]; rfl
    refine ⟨h, ?_⟩
    simp only [part]; omega
theorem rform_len (c : Nat) : (rform c).length ≤ 4 := by
  unfold rform
  repeat' split
  all_goals simp
theorem vld_not (l : List Nat) (h : 0 < l.length) (hb : ∀ x ∈ l, x < 256) (hn : ¬ Taken l) : vld l = false := by
  have hne : l ≠ [] := by rintro rfl; simp at h
  rw [vld_step l hne, (taken_one l hne hb).2 hn]; rfl
theorem vld_next (l : List Nat) (h : 0 < l.length) (hb : ∀ x ∈ l, x < 256) (hn : Taken l) : vld l = vld (l.drop (rsize (l.getD 0 0))) := by
  have hne : l ≠ [] := by rintro rfl; simp at h
  rw [vld_step l hne, (taken_one l hne hb).1 hn, if_neg hn.1]
set_option maxHeartbeats 16000000 in
set_option maxRecDepth 100000 in
theorem valid_any (s : ByteArray) (w : World) (hs : s.size ≤ 1099511627776) : Calls Tryd.prog 9 #[.string s] w fun e w' => e = .returned (.bool (vld (bl s))) ∧ Below w.heap.size w w' := by
  have hconv := fun W => Lib.run_convert_string_bytes (P := Tryd.prog) W 9 22 5 s Tryd.underlying9 Tryd.underlying22 Tryd.underlying5
  go_enter Tryd.func9, Tryd.ntmps9
  go_wp2
  clear hconv
  have hcap := grownCap_ge w s.size 0 5
  have hB0 := conv_bytes w s
  have hb0 := conv_below w s
  have hl0 := bl_len s
  generalize Lib.bytesWorld w 5 s = w0 at *
  generalize grownCap w s.size 0 5 = cap0 at *
  have HV := Lib.hid hl0
  clear hl0
  go_loopw [3] (fun v wr => ∃ (b off c : Nat) (l : List Nat), v = .slice (some ⟨b, off, none⟩) l.length c ∧ l.length ≤ c ∧ l.length ≤ 1099511627776 ∧ Hid (vld l = vld (bl s)) ∧ Bytes wr wr.heap.size (some ⟨b, off, none⟩) l ∧ Below w.heap.size w wr) (fun v _ => lenOf v)
  case atStart => exact ⟨w.heap.size, 0, cap0, bl s, by rw [HV.out], by rw [HV.out]; exact hcap, by rw [HV.out]; exact hs, Lib.hid rfl, hB0, hb0⟩
  case round =>
    obtain ⟨b, off, c, l, rfl, hlc, hl40, hv, hB, hbel⟩ := hrel
    by_cases hl : 0 < l.length
    · have hli : (0 : Int) < (l.length : Int) := by omega
      obtain ⟨b', off', he, hbB, hcs⟩ := hB.2 hl
      injection he with he
      injection he with he1 he2
      subst he1; subst he2
      have hc0 := hcs 0 hl
      rw [Nat.add_zero] at hc0
      have ha : l[0] < 256 := hB.1 _ (List.getElem_mem hl)
      obtain ⟨a, hae⟩ : ∃ a, a = l[0] := ⟨_, rfl⟩
      rw [← hae] at hc0 ha
      have HA := Lib.hid hae
      clear hae hcs
      have hsz := size_any a
      obtain ⟨n, hn⟩ : ∃ n, n = rsize a := ⟨_, rfl⟩
      rw [← hn] at hsz
      have HN := Lib.hid hn
      have HS := Lib.hid (fun W => hsz W ha)
      have hn4 : n ≤ 4 := by rw [hn]; unfold rsize; repeat' split
                             all_goals omega
      clear hn hsz
      have hg0 : l.getD 0 0 = a := by rw [HA.out]; simp [List.getD, List.getElem?_eq_getElem hl]
      have HG0 := Lib.hid hg0
      clear hg0
      by_cases hn0 : n = 0
      · have HF : Hid (vld (bl s) = false) := Lib.hid (by rw [← hv.out]; exact vld_not l hl hB.1 (fun ht => ht.1 (by rw [HG0.out, ← HN.out]; exact hn0)))
        subst hn0
        clear hv hB HA HN HG0
        go_wp2_with (go_at_call 16; refine (HS.out _).mono ?_; rintro e w' ⟨rfl, rfl⟩)
        go_ret
        exact ⟨ret_bool HF.out.symm, hbel⟩
      · have hn0b : ((n : Int) == 0) = false := by simp; omega
        by_cases hnl : l.length < n
        · have hnli : (l.length : Int) < (n : Int) := by omega
          have HF : Hid (vld (bl s) = false) := Lib.hid (by rw [← hv.out]; exact vld_not l hl hB.1 (fun ht => by have := ht.2.1; rw [HG0.out, ← HN.out] at this; omega))
          clear hv hB HA HN HG0
          go_wp2_with (go_at_call 16; refine (HS.out _).mono ?_; rintro e w' ⟨rfl, rfl⟩)
          go_ret
          exact ⟨ret_bool HF.out.symm, hbel⟩
        · have hnli : ¬ (l.length : Int) < (n : Int) := by omega
          have hnd : decide (l.length < n) = false := by simp; omega
          obtain ⟨m, hm1, hm128, hch, hidx⟩ := idx n (by omega) hn4
          have hCH := hch l (by rw [HG0.out]; exact HN.out.symm)
          have HCH := Lib.hid hCH
          have hm0 : ((m : Int) == 0) = false := by simp; omega
          have hpa : (a : Int) % (m : Int) = ((part l m 1 : Nat) : Int) := by simp only [part]; rw [HG0.out]; simp
          clear hch hCH
          go_wp2_with (go_at_call 16; refine (HS.out _).mono ?_; rintro e w' ⟨rfl, rfl⟩)
          go_quiet (fail)
          go_wp2_with fail
          have hbW := below_drewN hbel nq
          have hBW := hB.drewN nq
          have hszW : wr.heap.size = (wr.drewN nq).heap.size := rfl
          rw [hszW] at hBW hbB
          clear hbel hB hc0 hidx hszW
          generalize wr.drewN nq = W at *
          have HPA := Lib.hid hpa
          clear hpa
          go_loop [5, 6] (fun x i => ∃ q : Nat, 1 ≤ q ∧ q ≤ n ∧ i = .int .i64 (q : Int) ∧ x = .int .i64 ((part l m q : Nat) : Int)) (fun _ i => n - (intOf i).toNat)
          case atStart => exact ⟨1, by omega, by omega, rfl, by rw [HPA.out]⟩
          case round =>
            obtain ⟨q, hq1, hqn, rfl, rfl⟩ := hrel
            have hpl := part_lt4 l m q hm128 hm1 (by omega)
            by_cases hq : q < n
            · have hqi : (q : Int) < (n : Int) := by omega
              have hql : q < l.length := by omega
              have hqli : (q : Int) < (l.length : Int) := by omega
              obtain ⟨b2, off2, he, _, hcs⟩ := hBW.2 hl
              injection he with he
              injection he with he1 he2
              subst he1; subst he2
              have hcq := hcs q hql
              have HP := Lib.hid (part_next l m q hq1)
              obtain ⟨y, hye⟩ : ∃ y, y = l[q] := ⟨_, rfl⟩
              have hy : y < 256 := by rw [hye]; exact hBW.1 _ (List.getElem_mem hql)
              have HY : Hid (l.getD q 0 = y) := Lib.hid (by rw [hye]; simp [List.getD, List.getElem?_eq_getElem hql])
              rw [← hye] at hcq
              clear hye hcs
              generalize part l m q = P0 at *
              go_wp2
              go_round
              case rel =>
                refine ⟨q + 1, by omega, by omega, by go_num, ?_⟩
                have h1 := HP.out
                have h2 := HY.out
                rw [h2] at h1
                exact int_eq (by rw [h1]; omega)
              case measure => simp [intOf]; omega
            · have hqi : ¬ (q : Int) < (n : Int) := by omega
              obtain rfl : q = n := by omega
              obtain ⟨hch, hC⟩ := HCH.out
              have HCh := Lib.hid hch
              have HC := Lib.hid hC
              clear HCH hch hC
              generalize part l m q = C at *
              have hB := hBW.1
              have HB := Lib.hid hB
              clear hB
              have HNT : Hid (rsize (l.getD 0 0) = q) := Lib.hid (by rw [HG0.out]; exact HN.out.symm)
              by_cases hc1 : (1114111 : Int) < (C : Int)
              · have HF : Hid (vld (bl s) = false) := Lib.hid (by rw [← hv.out]; exact vld_not l hl HB.out (fun ht => by have := ht.2.2.1; rw [HCh.out] at this; omega))
                clear hv hBW HA HN HG0 HS HCh HC HPA HNT HB hpl
                go_wp2_with fail
                go_quiet (fail)
                go_wp2
                go_ret
                exact ⟨ret_bool HF.out.symm, below_drewN hbW _⟩
              · by_cases hc2 : (55296 : Int) ≤ (C : Int) ∧ (C : Int) ≤ 57343
                · obtain ⟨hc2, hc3⟩ := hc2
                  have HF : Hid (vld (bl s) = false) := Lib.hid (by rw [← hv.out]; exact vld_not l hl HB.out (fun ht => ht.2.2.2.1 (by rw [HCh.out]; omega)))
                  have hc1' : decide ((1114111 : Int) < (C : Int)) = false := by simpa using hc1
                  clear hv hBW HA HN HG0 HS HCh HC HPA HNT HB hpl
                  go_wp2_with fail
                  go_quiet (fail)
                  go_wp2
                  go_ret
                  exact ⟨ret_bool HF.out.symm, below_drewN hbW _⟩
                · have hc1' : decide ((1114111 : Int) < (C : Int)) = false := by simpa using hc1
                  have hBn := hBW.take q
                  have hln : (l.take q).length = q := by simp; omega
                  have HNC : Hid (rchar l ≤ 1114111 ∧ ¬ (55296 ≤ rchar l ∧ rchar l ≤ 57343)) := Lib.hid (by rw [HCh.out]; omega)
                  by_cases hc3 : (55296 : Int) ≤ (C : Int)
                  · have hc4 : ¬ (C : Int) ≤ 57343 := by omega
                    have hc4' : decide ((C : Int) ≤ 57343) = false := by simpa using hc4
                    have HFo : Hid (∀ V, Calls Tryd.prog 17 #[.int .i64 (C : Int)] V (GivesB V (rform C) (rform C).length)) := Lib.hid (fun V => form_any C V HC.out)
                    obtain ⟨r, hr⟩ : ∃ r, r = decide (rform C = l.take q) := ⟨_, rfl⟩
                    have HSa : Hid (∀ V A' c', Below W.heap.size W V → Bytes V V.heap.size A' (rform C) → Calls Tryd.prog 7 #[.slice A' (rform C).length c', .slice (some ⟨b, off, none⟩) q c] V fun e w' => e = .returned (.bool r) ∧ ∃ m, w' = V.drewN m) := Lib.hid (fun V A' c' hV hA => by
                      have h := same_is A' (some ⟨b, off, none⟩) (rform C) (l.take q) c' c _ _ V hA (hBn.below hV) (by have := rform_len C; omega) (by omega)
                      rw [hln, ← hr] at h
                      exact h)
                    have HF : Hid (r = false → vld (bl s) = false) := Lib.hid (fun h => by rw [← hv.out]; exact vld_not l hl HB.out (fun ht => by have := ht.2.2.2.2; rw [HCh.out, HNT.out] at this; rw [h] at hr; exact of_decide_eq_false hr.symm this))
                    have HT : Hid (r = true → vld (l.drop q) = vld (bl s)) := Lib.hid (fun h => by
                      rw [h] at hr
                      rw [← hv.out, vld_next l hl HB.out ⟨by rw [HNT.out]; omega, by rw [HNT.out]; omega, HNC.out.1, HNC.out.2, by rw [HCh.out, HNT.out]; exact of_decide_eq_true hr.symm⟩, HNT.out])
                    have hqc : q ≤ c := by omega
                    clear hpl hBn hln hr hv HA HN HG0 HS HCh HC HPA HNT HB HNC hB0 hb0 hcap HV hs ha hm0 hm128 hm1
                    generalize (rform C).length = k at *
                    go_wp2_with fail
                    go_region_held3 (fun _ => True) (exact trivial) (first
                          | (go_at_call 17; refine (HFo.out _).mono ?_; rintro e w5 ⟨A5, c5, rfl, -, hB5, -, -, hb5⟩)
                          | (go_at_call 7; refine (HSa.out _ _ _ ?_ hB5).mono ?_; exact (Below.refl _ _).drew.trans hb5; rintro e w6 ⟨rfl, d6, rfl⟩))
                    have hb6 : Below W.heap.size W (w5.drewN d6) := below_drewN ((Below.refl _ _).drew.trans hb5) d6
                    have hb7 := hbW.trans (hb6.mono hbW.size)
                    have hB7 := (hBW.below hb6).more hb6.size
                    clear HFo HSa hB5 hb5 hb6 hBW hbW
                    cases r with
                    | false =>
                      clear HT hB7
                      go_wp2
                      go_ret
                      exact ⟨ret_bool (HF.out (by first | rfl | trivial)).symm, hb7⟩
                    | true =>
                      have HB8 := Lib.hid (bytes_drop hB7 q hlc)
                      have HDL : Hid ((l.drop q).length = l.length - q) := Lib.hid (by simp)
                      clear HF hB7
                      have HT2 : Hid (vld (l.drop q) = vld (bl s)) := Lib.hid (HT.out rfl)
                      clear HT
                      by_cases hcq : q = c
                      · subst hcq
                        have HB9 : Hid (Bytes (w5.drewN d6) (w5.drewN d6).heap.size (some ⟨b, off, none⟩) (l.drop q)) := Lib.hid (by have := HB8.out; rw [if_pos rfl] at this; exact this)
                        clear HB8
                        go_wp2
                        go_roundw
                        case rel => exact ⟨b, off, 0, l.drop q, by rw [HDL.out, show l.length - q = 0 from by omega], by rw [HDL.out]; omega, by rw [HDL.out]; omega, HT2, HB9.out, hb7⟩
                        case measure => simp [lenOf]; omega
                      · have HB9 : Hid (Bytes (w5.drewN d6) (w5.drewN d6).heap.size (some ⟨b, off + q, none⟩) (l.drop q)) := Lib.hid (by have := HB8.out; rw [if_neg (fun h => hcq h.symm)] at this; exact this)
                        have hcq' : ¬ c = q := fun h => hcq h.symm
                        clear HB8
                        go_wp2
                        go_roundw
                        case rel => exact ⟨b, off + q, _, l.drop q, by rw [HDL.out], by rw [HDL.out]; omega, by rw [HDL.out]; omega, HT2, HB9.out, hb7⟩
                        case measure => simp [lenOf]; omega
                  · have hc3' : decide ((55296 : Int) ≤ (C : Int)) = false := by simpa using hc3
                    have HFo : Hid (∀ V, Calls Tryd.prog 17 #[.int .i64 (C : Int)] V (GivesB V (rform C) (rform C).length)) := Lib.hid (fun V => form_any C V HC.out)
                    obtain ⟨r, hr⟩ : ∃ r, r = decide (rform C = l.take q) := ⟨_, rfl⟩
                    have HSa : Hid (∀ V A' c', Below W.heap.size W V → Bytes V V.heap.size A' (rform C) → Calls Tryd.prog 7 #[.slice A' (rform C).length c', .slice (some ⟨b, off, none⟩) q c] V fun e w' => e = .returned (.bool r) ∧ ∃ m, w' = V.drewN m) := Lib.hid (fun V A' c' hV hA => by
                      have h := same_is A' (some ⟨b, off, none⟩) (rform C) (l.take q) c' c _ _ V hA (hBn.below hV) (by have := rform_len C; omega) (by omega)
                      rw [hln, ← hr] at h
                      exact h)
                    have HF : Hid (r = false → vld (bl s) = false) := Lib.hid (fun h => by rw [← hv.out]; exact vld_not l hl HB.out (fun ht => by have := ht.2.2.2.2; rw [HCh.out, HNT.out] at this; rw [h] at hr; exact of_decide_eq_false hr.symm this))
                    have HT : Hid (r = true → vld (l.drop q) = vld (bl s)) := Lib.hid (fun h => by
                      rw [h] at hr
                      rw [← hv.out, vld_next l hl HB.out ⟨by rw [HNT.out]; omega, by rw [HNT.out]; omega, HNC.out.1, HNC.out.2, by rw [HCh.out, HNT.out]; exact of_decide_eq_true hr.symm⟩, HNT.out])
                    have hqc : q ≤ c := by omega
                    clear hpl hBn hln hr hv HA HN HG0 HS HCh HC HPA HNT HB HNC hB0 hb0 hcap HV hs ha hm0 hm128 hm1
                    generalize (rform C).length = k at *
                    go_wp2_with fail
                    first
                      | (go_region_with (first
                          | (go_at_call 17; refine (HFo.out _).mono ?_; rintro e w5 ⟨A5, c5, rfl, -, hB5, -, -, hb5⟩)
                          | (go_at_call 7; refine (HSa.out _ _ _ ?_ hB5).mono ?_; exact (Below.refl _ _).drew.trans hb5; rintro e w6 ⟨rfl, d6, rfl⟩)))
                      | fail
                    have hb6 : Below W.heap.size W (w5.drewN d6) := below_drewN ((Below.refl _ _).drew.trans hb5) d6
                    have hb7 := hbW.trans (hb6.mono hbW.size)
                    have hB7 := (hBW.below hb6).more hb6.size
                    clear HFo HSa hB5 hb5 hb6 hBW hbW hc1' hc3'
                    clear hc2 hc1 hc3
                    cases r with
                    | false =>
                      clear HT hB7
                      go_wp2
                      go_ret
                      exact ⟨ret_bool (HF.out (by first | rfl | trivial)).symm, hb7⟩
                    | true =>
                      have HB8 := Lib.hid (bytes_drop hB7 q hlc)
                      have HDL : Hid ((l.drop q).length = l.length - q) := Lib.hid (by simp)
                      clear HF hB7
                      have HT2 : Hid (vld (l.drop q) = vld (bl s)) := Lib.hid (HT.out rfl)
                      clear HT
                      by_cases hcq : q = c
                      · subst hcq
                        have HB9 : Hid (Bytes (w5.drewN d6) (w5.drewN d6).heap.size (some ⟨b, off, none⟩) (l.drop q)) := Lib.hid (by have := HB8.out; rw [if_pos rfl] at this; exact this)
                        clear HB8
                        go_wp2
                        go_roundw
                        case rel => exact ⟨b, off, 0, l.drop q, by rw [HDL.out, show l.length - q = 0 from by omega], by rw [HDL.out]; omega, by rw [HDL.out]; omega, HT2, HB9.out, hb7⟩
                        case measure => simp [lenOf]; omega
                      · have HB9 : Hid (Bytes (w5.drewN d6) (w5.drewN d6).heap.size (some ⟨b, off + q, none⟩) (l.drop q)) := Lib.hid (by have := HB8.out; rw [if_neg (fun h => hcq h.symm)] at this; exact this)
                        have hcq' : ¬ c = q := fun h => hcq h.symm
                        clear HB8
                        go_wp2
                        go_roundw
                        case rel => exact ⟨b, off + q, _, l.drop q, by rw [HDL.out], by rw [HDL.out]; omega, by rw [HDL.out]; omega, HT2, HB9.out, hb7⟩
                        case measure => simp [lenOf]; omega
    · have hli : ¬ (0 : Int) < (l.length : Int) := by omega
      have hnil : l = [] := List.eq_nil_of_length_eq_zero (by omega)
      have HF : Hid (vld (bl s) = true) := Lib.hid (by rw [← hv.out, hnil]; rfl)
      clear hv hB hnil
      go_wp2
      go_ret
      exact ⟨ret_bool HF.out.symm, hbel⟩
end Go.Proofs.YtelcoeeijkainaaDoor.Utf
