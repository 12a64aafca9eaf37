/-
  InsOwnBytes: instr's code and bytesOf: the bytes of an instruction that is formed. Conditions: the numbers fit; at most 64 labels.
  InsOwnBytesL: instr.bytesOf at labels. Conditions: the numbers fit; at most 64 labels.
  InsOwnBo: instr.bytesOf at any instruction that is formed; slices.Clone at bytes. Conditions: the instruction is formed; the slice leads to bytes.
-/
import Derived.Test.YtdipgokbfjbgfaaInsForms
import Derived.Test.YtdipgokbfjbgfaaInsTakenLaw
import Derived.Test.YtdipgokbfjbgfaaTypAll
import Derived.Test.YtdipgokbfjbgfaaInsPlain
namespace Go.Proofs.Ytdipgokbfjbgfaa.Ins
open Go.RowKit Leb Typ

theorem own_len' {w : World} {base : Nat} {A : Option Addr} {n c : Nat} {l : List Nat} (h : Own w base (.slice A n c) l) : l.length = n := by
  rcases h.2 with ⟨e, h0⟩ | ⟨g, cap, cur, e, _⟩
  · injection e with _ e _
    omega
  · injection e with _ e _
    omega
theorem pu_any (l : List Nat) (n kl k : Nat) (hkl : l.length = kl) (hl : kl ≤ 100000) (hlt : ∀ x ∈ l, x < 256) (hn : n < 18446744073709551616) (hk : (l ++ putU n).length = k) (A : Option Addr) (c : Nat) (w : World) (hb : Bytes w w.heap.size A l) (hc : A = none → c = 0) :
    Calls Try.prog 44 #[.slice A kl c, .int .u64 (n : Int)] w (GivesB w (l ++ putU n) k) := by
  subst hkl
  exact gives_b (putU_any A l c n w hb hc (by omega) hn) (fun x hx => (List.mem_append.1 hx).elim (hlt x) (putU_lt n x)) hk
/-- The code's bytes. -/
theorem code_low (o : Nat) (w : World) (ho : (o : Int) < 256) : Calls Try.prog 42 #[.int .i64 (o : Int)] w (GivesB w [o] 1) := by
  have hs := slc_lit w [o] (by simp; omega) 5 #[.int .u8 (o : Int)] 1 rfl (Nat.le_refl _)
  have ho' := own_lit w o
  have HS := Lib.hid hs
  have HO := Lib.hid ho'
  clear hs ho'
  go_enter Try.func42, Try.ntmps42
  go_wp2
  go_ret
  exact ⟨_, _, rfl, HO.out, HS.out.bytes, (fun h => by cases h), Nat.le_refl _, (Below.refl _ _).alloc (Nat.le_refl _) _⟩
theorem code_high (o m k : Nat) (w : World) (ho : (256 : Int) ≤ (o : Int)) (hm : wrap64 ((o : Int) - 256) = (m : Int)) (hm2 : (m : Int) < 1000) (HU : Hid (∀ A c W, Bytes W W.heap.size A [252] → (A = none → c = 0) → Calls Try.prog 44 #[.slice A 1 c, .int .u64 (m : Int)] W (GivesB W ([252] ++ putU m) k))) : Calls Try.prog 42 #[.int .i64 (o : Int)] w (GivesB w ([252] ++ putU m) k) := by
  have hs := slc_lit w [252] (by simp) 5 #[.int .u8 252] 1 rfl (Nat.le_refl _)
  have HS := Lib.hid hs
  have h0 : ¬ (o : Int) < 256 := by omega
  clear hs
  go_enter Try.func42, Try.ntmps42
  go_wp2_with fail
  refine (HU.out _ _ _ HS.out.bytes (fun h => by cases h)).mono ?_
  rintro e w1 ⟨A1, c1, rfl, hown1, hB1, hn1, hc1, hb1⟩
  go_wp2
  go_ret
  exact ⟨A1, c1, rfl, own_from hown1 (by simp), hB1, hn1, hc1, ((Below.refl _ _).alloc (Nat.le_refl _) _).trans (hb1.mono (by simp))⟩
theorem code_gives (o k : Nat) (w : World) (ho : o ≤ 270) (hk : (headBytes (o : Int)).length = k) : Calls Try.prog 42 #[.int .i64 (o : Int)] w (GivesB w (headBytes (o : Int)) k) := by
  unfold headBytes at hk ⊢
  by_cases h : 256 ≤ (o : Int)
  · rw [if_pos h] at hk ⊢
    obtain ⟨m, rfl⟩ : ∃ m : Nat, o = m + 256 := ⟨o - 256, by omega⟩
    have e : (((m + 256 : Nat) : Int) - 256).toNat = m := by omega
    rw [e] at hk ⊢
    exact code_high (m + 256) m k w h (by rw [IntWalk.wrap64_in _ (by omega)]; omega) (by omega) (Lib.hid fun A c W hb hc => pu_any [252] m 1 k rfl (by omega) (by simp) (by omega) hk A c W hb hc)
  · rw [if_neg h] at hk ⊢
    have hk1 : 1 = k := hk
    subst hk1
    exact code_low o w (by omega)
section
variable (w : World) (op a b k : Int) (A : Option Addr) (ln c : Nat) (l0 : List Nat) (k0 : Nat)
  (HC : Hid (∀ W, Calls Try.prog 42 #[.int .i64 op] W (GivesB W l0 k0)))
include HC
set_option maxHeartbeats 2000000 in
set_option maxRecDepth 100000 in
theorem bo_bare (HF : Hid (∀ W, Calls Try.prog 30 #[.int .i64 op] W (FormIs W 2)))  : Calls Try.prog 26 #[.agg #[.int .i64 op, .int .i64 a, .int .i64 b, .int .i64 k, .slice A ln c]] w (GivesB w l0 k0) := by
  have HB := Lib.hid (b5_of (Below.refl w.heap.size w) op a b k A ln c 25)
  go_enter Try.func26, Try.ntmps26
  go_wp2_with fail
  refine (HC.out _).mono ?_
  rintro e w1 ⟨A1, c1, rfl, hown1, hB1, hn1, hc1, hb1⟩
  have HB1 := Lib.hid (HB.out.keep hb1)
  have HO1 := Lib.hid (own_from hown1 (Nat.le_trans HB.out.below.size (Nat.le_refl _)))
  clear HC HB hb1 hown1
  obtain ⟨_, _, q0, q1, q2, q3, q4⟩ := HB1.out
  go_wp2_with fail
  refine (HF.out _).mono ?_
  rintro e w2 ⟨rfl, hb2⟩
  clear q0 q1 q2 q3 q4
  have HB2 := Lib.hid (HB1.out.keep hb2)
  have HO2 := Lib.hid (HO1.out.keep hb2 HO1.out.lt)
  have hB2 : Bytes w2 w2.heap.size A1 l0 := (hB1.below hb2).more hb2.size
  clear HF HB1 HO1 hB1 hb2
  obtain ⟨hbw, hbz, q0, q1, q2, q3, q4⟩ := HB2.out
  go_wp2
  go_ret
  exact ⟨A1, c1, rfl, HO2.out, hB2, hn1, hc1, hbw⟩
set_option maxHeartbeats 2000000 in
set_option maxRecDepth 100000 in
theorem bo_t (HF : Hid (∀ W, Calls Try.prog 30 #[.int .i64 op] W (FormIs W 3))) (l1 : List Nat) (k1 : Nat) (H1 : Hid (∀ A c W, Bytes W W.heap.size A l0 → (A = none → c = 0) → k0 ≤ c → Calls Try.prog 43 #[.slice A k0 c, .int .i64 a] W (PutIs W l1 k1 0))) : Calls Try.prog 26 #[.agg #[.int .i64 op, .int .i64 a, .int .i64 b, .int .i64 k, .slice A ln c]] w (GivesB w l1 k1) := by
  have HB := Lib.hid (b5_of (Below.refl w.heap.size w) op a b k A ln c 25)
  go_enter Try.func26, Try.ntmps26
  go_wp2_with fail
  refine (HC.out _).mono ?_
  rintro e w1 ⟨A1, c1, rfl, hown1, hB1, hn1, hc1, hb1⟩
  have HB1 := Lib.hid (HB.out.keep hb1)
  have HO1 := Lib.hid (own_from hown1 (Nat.le_trans HB.out.below.size (Nat.le_refl _)))
  clear HC HB hb1 hown1
  obtain ⟨_, _, q0, q1, q2, q3, q4⟩ := HB1.out
  go_wp2_with fail
  refine (HF.out _).mono ?_
  rintro e w2 ⟨rfl, hb2⟩
  clear q0 q1 q2 q3 q4
  have HB2 := Lib.hid (HB1.out.keep hb2)
  have HO2 := Lib.hid (HO1.out.keep hb2 HO1.out.lt)
  have hB2 : Bytes w2 w2.heap.size A1 l0 := (hB1.below hb2).more hb2.size
  clear HF HB1 HO1 hB1 hb2
  obtain ⟨hbw, hbz, q0, q1, q2, q3, q4⟩ := HB2.out
  go_wp2_with fail
  refine (H1.out _ _ _ hB2 hn1 hc1).mono ?_
  intro e w3 hp
  obtain ⟨A3, c3, rfl, hown3, hB3, hn3, hc3, hb3⟩ := hp
  clear q0 q1 q2 q3 q4
  have HB3 := Lib.hid (HB2.out.keep hb3)
  have HO3 := Lib.hid (own_from hown3 HB2.out.below.size)
  clear H1 HB2 hown3 hb3 hbw hbz hB2
  obtain ⟨hbw, hbz, q0, q1, q2, q3, q4⟩ := HB3.out
  go_wp2
  go_ret
  exact ⟨A3, c3, rfl, HO3.out, hB3, hn3, hc3, hbw⟩
set_option maxHeartbeats 2000000 in
set_option maxRecDepth 100000 in
theorem bo_a (HF : Hid (∀ W, Calls Try.prog 30 #[.int .i64 op] W (FormIs W 4))) (na : Nat) (hna : (na : Int) ≤ 4294967295) (l1 : List Nat) (k1 : Nat) (H1 : Hid (∀ A c W, Bytes W W.heap.size A l0 → (A = none → c = 0) → Calls Try.prog 44 #[.slice A k0 c, .int .u64 (na : Int)] W (GivesB W l1 k1))) : Calls Try.prog 26 #[.agg #[.int .i64 op, .int .i64 (na : Int), .int .i64 b, .int .i64 k, .slice A ln c]] w (GivesB w l1 k1) := by
  have HB := Lib.hid (b5_of (Below.refl w.heap.size w) op (na : Int) b k A ln c 25)
  go_enter Try.func26, Try.ntmps26
  go_wp2_with fail
  refine (HC.out _).mono ?_
  rintro e w1 ⟨A1, c1, rfl, hown1, hB1, hn1, hc1, hb1⟩
  have HB1 := Lib.hid (HB.out.keep hb1)
  have HO1 := Lib.hid (own_from hown1 (Nat.le_trans HB.out.below.size (Nat.le_refl _)))
  clear HC HB hb1 hown1
  obtain ⟨_, _, q0, q1, q2, q3, q4⟩ := HB1.out
  go_wp2_with fail
  refine (HF.out _).mono ?_
  rintro e w2 ⟨rfl, hb2⟩
  clear q0 q1 q2 q3 q4
  have HB2 := Lib.hid (HB1.out.keep hb2)
  have HO2 := Lib.hid (HO1.out.keep hb2 HO1.out.lt)
  have hB2 : Bytes w2 w2.heap.size A1 l0 := (hB1.below hb2).more hb2.size
  clear HF HB1 HO1 hB1 hb2
  obtain ⟨hbw, hbz, q0, q1, q2, q3, q4⟩ := HB2.out
  go_wp2_with fail
  refine (H1.out _ _ _ hB2 hn1).mono ?_
  rintro e w3 ⟨A3, c3, rfl, hown3, hB3, hn3, hc3, hb3⟩
  clear q0 q1 q2 q3 q4
  have HB3 := Lib.hid (HB2.out.keep hb3)
  have HO3 := Lib.hid (own_from hown3 HB2.out.below.size)
  clear H1 HB2 hown3 hb3 hbw hbz hB2
  obtain ⟨hbw, hbz, q0, q1, q2, q3, q4⟩ := HB3.out
  go_wp2
  go_ret
  exact ⟨A3, c3, rfl, HO3.out, hB3, hn3, hc3, hbw⟩
set_option maxHeartbeats 2000000 in
set_option maxRecDepth 100000 in
theorem bo_ab (HF : Hid (∀ W, Calls Try.prog 30 #[.int .i64 op] W (FormIs W 5))) (na : Nat) (hna : (na : Int) ≤ 4294967295) (l1 : List Nat) (k1 : Nat) (H1 : Hid (∀ A c W, Bytes W W.heap.size A l0 → (A = none → c = 0) → Calls Try.prog 44 #[.slice A k0 c, .int .u64 (na : Int)] W (GivesB W l1 k1))) (nb : Nat) (hnb : (nb : Int) ≤ 4294967295) (l2 : List Nat) (k2 : Nat) (H2 : Hid (∀ A c W, Bytes W W.heap.size A l1 → (A = none → c = 0) → Calls Try.prog 44 #[.slice A k1 c, .int .u64 (nb : Int)] W (GivesB W l2 k2))) : Calls Try.prog 26 #[.agg #[.int .i64 op, .int .i64 (na : Int), .int .i64 (nb : Int), .int .i64 k, .slice A ln c]] w (GivesB w l2 k2) := by
  have HB := Lib.hid (b5_of (Below.refl w.heap.size w) op (na : Int) (nb : Int) k A ln c 25)
  go_enter Try.func26, Try.ntmps26
  go_wp2_with fail
  refine (HC.out _).mono ?_
  rintro e w1 ⟨A1, c1, rfl, hown1, hB1, hn1, hc1, hb1⟩
  have HB1 := Lib.hid (HB.out.keep hb1)
  have HO1 := Lib.hid (own_from hown1 (Nat.le_trans HB.out.below.size (Nat.le_refl _)))
  clear HC HB hb1 hown1
  obtain ⟨_, _, q0, q1, q2, q3, q4⟩ := HB1.out
  go_wp2_with fail
  refine (HF.out _).mono ?_
  rintro e w2 ⟨rfl, hb2⟩
  clear q0 q1 q2 q3 q4
  have HB2 := Lib.hid (HB1.out.keep hb2)
  have HO2 := Lib.hid (HO1.out.keep hb2 HO1.out.lt)
  have hB2 : Bytes w2 w2.heap.size A1 l0 := (hB1.below hb2).more hb2.size
  clear HF HB1 HO1 hB1 hb2
  obtain ⟨hbw, hbz, q0, q1, q2, q3, q4⟩ := HB2.out
  go_wp2_with fail
  refine (H1.out _ _ _ hB2 hn1).mono ?_
  rintro e w3 ⟨A3, c3, rfl, hown3, hB3, hn3, hc3, hb3⟩
  clear q0 q1 q2 q3 q4
  have HB3 := Lib.hid (HB2.out.keep hb3)
  have HO3 := Lib.hid (own_from hown3 HB2.out.below.size)
  clear H1 HB2 hown3 hb3 hbw hbz hB2
  obtain ⟨hbw, hbz, q0, q1, q2, q3, q4⟩ := HB3.out
  go_wp2_with fail
  refine (H2.out _ _ _ hB3 hn3).mono ?_
  rintro e w4 ⟨A4, c4, rfl, hown4, hB4, hn4, hc4, hb4⟩
  clear q0 q1 q2 q3 q4
  have HB4 := Lib.hid (HB3.out.keep hb4)
  have HO4 := Lib.hid (own_from hown4 HB3.out.below.size)
  clear H2 HB3 hown4 hb4 hbw hbz hB3
  obtain ⟨hbw, hbz, q0, q1, q2, q3, q4⟩ := HB4.out
  go_wp2
  go_ret
  exact ⟨A4, c4, rfl, HO4.out, hB4, hn4, hc4, hbw⟩
set_option maxHeartbeats 2000000 in
set_option maxRecDepth 100000 in
theorem bo_z (HF : Hid (∀ W, Calls Try.prog 30 #[.int .i64 op] W (FormIs W 7))) (hk0 : l0.length = k0) (hm0 : k0 ≤ 100000) (hlt0 : ∀ y ∈ l0, y < 256) : Calls Try.prog 26 #[.agg #[.int .i64 op, .int .i64 a, .int .i64 b, .int .i64 k, .slice A ln c]] w (GivesB w (l0 ++ [0]) (k0 + 1)) := by
  have HB := Lib.hid (b5_of (Below.refl w.heap.size w) op a b k A ln c 25)
  have HK := Lib.hid hk0
  have HLT := Lib.hid hlt0
  clear hk0 hlt0
  go_enter Try.func26, Try.ntmps26
  go_wp2_with fail
  refine (HC.out _).mono ?_
  rintro e w1 ⟨A1, c1, rfl, hown1, hB1, hn1, hc1, hb1⟩
  have HB1 := Lib.hid (HB.out.keep hb1)
  have HO1 := Lib.hid (own_from hown1 (Nat.le_trans HB.out.below.size (Nat.le_refl _)))
  clear HC HB hb1 hown1
  obtain ⟨_, _, q0, q1, q2, q3, q4⟩ := HB1.out
  go_wp2_with fail
  refine (HF.out _).mono ?_
  rintro e w2 ⟨rfl, hb2⟩
  clear q0 q1 q2 q3 q4
  have HB2 := Lib.hid (HB1.out.keep hb2)
  have HO2 := Lib.hid (HO1.out.keep hb2 HO1.out.lt)
  have hB2 : Bytes w2 w2.heap.size A1 l0 := (hB1.below hb2).more hb2.size
  clear HF HB1 HO1 hB1 hb2
  obtain ⟨hbw, hbz, q0, q1, q2, q3, q4⟩ := HB2.out
  have hs := slc_lit w2 [0] (by simp) 5 #[.int .u8 0] 1 rfl (Nat.le_refl _)
  have hbl : Below w2.heap.size w2 (w2.alloc (.cells #[.int .u8 0] 5)) := (Below.refl _ _).alloc (Nat.le_refl _) _
  have hown : Own (w2.alloc (.cells #[.int .u8 0] 5)) w.heap.size (.slice A1 k0 c1) l0 := HO2.out.alloc _
  have hba : w.heap.size ≤ (w2.alloc (.cells #[.int .u8 0] 5)).heap.size := Nat.le_trans hbw.size hbl.size
  have HBL := Lib.hid (hbw.trans (hbl.mono hbw.size))
  have HS := Lib.hid hs.bytes
  clear hs hbl q0 q2 q3 q4 hbw hB2
  go_wp2_with (at_builtin; refine app_slice rfl (.tmp 67) (.tmp 68) rfl w.heap.size _ l0 rfl hown HLT.out _ [0] 1 1 _ (k0 + 1) rfl rfl HS.out (fun h => by cases h) (by rw [List.length_append, HK.out]; rfl) (by omega) hba ?_; intro A9 c9 w9 hown9 hB9 hc9 hn9 hb9)
  go_ret
  exact ⟨A9, c9, rfl, hown9, hB9, hn9, hc9, HBL.out.trans hb9⟩
set_option maxHeartbeats 2000000 in
set_option maxRecDepth 100000 in
theorem bo_zz (HF : Hid (∀ W, Calls Try.prog 30 #[.int .i64 op] W (FormIs W 8))) (hk0 : l0.length = k0) (hm0 : k0 ≤ 100000) (hlt0 : ∀ y ∈ l0, y < 256) : Calls Try.prog 26 #[.agg #[.int .i64 op, .int .i64 a, .int .i64 b, .int .i64 k, .slice A ln c]] w (GivesB w (l0 ++ [0, 0]) (k0 + 2)) := by
  have HB := Lib.hid (b5_of (Below.refl w.heap.size w) op a b k A ln c 25)
  have HK := Lib.hid hk0
  have HLT := Lib.hid hlt0
  clear hk0 hlt0
  go_enter Try.func26, Try.ntmps26
  go_wp2_with fail
  refine (HC.out _).mono ?_
  rintro e w1 ⟨A1, c1, rfl, hown1, hB1, hn1, hc1, hb1⟩
  have HB1 := Lib.hid (HB.out.keep hb1)
  have HO1 := Lib.hid (own_from hown1 (Nat.le_trans HB.out.below.size (Nat.le_refl _)))
  clear HC HB hb1 hown1
  obtain ⟨_, _, q0, q1, q2, q3, q4⟩ := HB1.out
  go_wp2_with fail
  refine (HF.out _).mono ?_
  rintro e w2 ⟨rfl, hb2⟩
  clear q0 q1 q2 q3 q4
  have HB2 := Lib.hid (HB1.out.keep hb2)
  have HO2 := Lib.hid (HO1.out.keep hb2 HO1.out.lt)
  have hB2 : Bytes w2 w2.heap.size A1 l0 := (hB1.below hb2).more hb2.size
  clear HF HB1 HO1 hB1 hb2
  obtain ⟨hbw, hbz, q0, q1, q2, q3, q4⟩ := HB2.out
  have hs := slc_lit w2 [0, 0] (by simp) 5 #[.int .u8 0, .int .u8 0] 2 rfl (Nat.le_refl _)
  have hbl : Below w2.heap.size w2 (w2.alloc (.cells #[.int .u8 0, .int .u8 0] 5)) := (Below.refl _ _).alloc (Nat.le_refl _) _
  have hown : Own (w2.alloc (.cells #[.int .u8 0, .int .u8 0] 5)) w.heap.size (.slice A1 k0 c1) l0 := HO2.out.alloc _
  have hba : w.heap.size ≤ (w2.alloc (.cells #[.int .u8 0, .int .u8 0] 5)).heap.size := Nat.le_trans hbw.size hbl.size
  have HBL := Lib.hid (hbw.trans (hbl.mono hbw.size))
  have HS := Lib.hid hs.bytes
  clear hs hbl q0 q2 q3 q4 hbw hB2
  go_wp2_with (at_builtin; refine app_slice rfl (.tmp 72) (.tmp 73) rfl w.heap.size _ l0 rfl hown HLT.out _ [0, 0] 2 2 _ (k0 + 2) rfl rfl HS.out (fun h => by cases h) (by rw [List.length_append, HK.out]; rfl) (by omega) hba ?_; intro A9 c9 w9 hown9 hB9 hc9 hn9 hb9)
  go_ret
  exact ⟨A9, c9, rfl, hown9, hB9, hn9, hc9, HBL.out.trans hb9⟩
set_option maxHeartbeats 2000000 in
set_option maxRecDepth 100000 in
theorem bo_az (HF : Hid (∀ W, Calls Try.prog 30 #[.int .i64 op] W (FormIs W 9))) (na : Nat) (hna : (na : Int) ≤ 4294967295) (l1 : List Nat) (k1 : Nat) (H1 : Hid (∀ A c W, Bytes W W.heap.size A l0 → (A = none → c = 0) → Calls Try.prog 44 #[.slice A k0 c, .int .u64 (na : Int)] W (GivesB W l1 k1))) (hk1 : l1.length = k1) (hm1 : k1 ≤ 100000) (hlt1 : ∀ y ∈ l1, y < 256) : Calls Try.prog 26 #[.agg #[.int .i64 op, .int .i64 (na : Int), .int .i64 b, .int .i64 k, .slice A ln c]] w (GivesB w (l1 ++ [0]) (k1 + 1)) := by
  have HB := Lib.hid (b5_of (Below.refl w.heap.size w) op (na : Int) b k A ln c 25)
  have HK := Lib.hid hk1
  have HLT := Lib.hid hlt1
  clear hk1 hlt1
  go_enter Try.func26, Try.ntmps26
  go_wp2_with fail
  refine (HC.out _).mono ?_
  rintro e w1 ⟨A1, c1, rfl, hown1, hB1, hn1, hc1, hb1⟩
  have HB1 := Lib.hid (HB.out.keep hb1)
  have HO1 := Lib.hid (own_from hown1 (Nat.le_trans HB.out.below.size (Nat.le_refl _)))
  clear HC HB hb1 hown1
  obtain ⟨_, _, q0, q1, q2, q3, q4⟩ := HB1.out
  go_wp2_with fail
  refine (HF.out _).mono ?_
  rintro e w2 ⟨rfl, hb2⟩
  clear q0 q1 q2 q3 q4
  have HB2 := Lib.hid (HB1.out.keep hb2)
  have HO2 := Lib.hid (HO1.out.keep hb2 HO1.out.lt)
  have hB2 : Bytes w2 w2.heap.size A1 l0 := (hB1.below hb2).more hb2.size
  clear HF HB1 HO1 hB1 hb2
  obtain ⟨hbw, hbz, q0, q1, q2, q3, q4⟩ := HB2.out
  go_wp2_with fail
  refine (H1.out _ _ _ hB2 hn1).mono ?_
  rintro e w3 ⟨A3, c3, rfl, hown3, hB3, hn3, hc3, hb3⟩
  clear q0 q1 q2 q3 q4
  have HB3 := Lib.hid (HB2.out.keep hb3)
  have HO3 := Lib.hid (own_from hown3 HB2.out.below.size)
  clear H1 HB2 hown3 hb3 hbw hbz hB2
  obtain ⟨hbw, hbz, q0, q1, q2, q3, q4⟩ := HB3.out
  have hs := slc_lit w3 [0] (by simp) 5 #[.int .u8 0] 1 rfl (Nat.le_refl _)
  have hbl : Below w3.heap.size w3 (w3.alloc (.cells #[.int .u8 0] 5)) := (Below.refl _ _).alloc (Nat.le_refl _) _
  have hown : Own (w3.alloc (.cells #[.int .u8 0] 5)) w.heap.size (.slice A3 k1 c3) l1 := HO3.out.alloc _
  have hba : w.heap.size ≤ (w3.alloc (.cells #[.int .u8 0] 5)).heap.size := Nat.le_trans hbw.size hbl.size
  have HBL := Lib.hid (hbw.trans (hbl.mono hbw.size))
  have HS := Lib.hid hs.bytes
  clear hs hbl q0 q2 q3 q4 hbw hB3
  go_wp2_with (at_builtin; refine app_slice rfl (.tmp 81) (.tmp 82) rfl w.heap.size _ l1 rfl hown HLT.out _ [0] 1 1 _ (k1 + 1) rfl rfl HS.out (fun h => by cases h) (by rw [List.length_append, HK.out]; rfl) (by omega) hba ?_; intro A9 c9 w9 hown9 hB9 hc9 hn9 hb9)
  go_ret
  exact ⟨A9, c9, rfl, hown9, hB9, hn9, hc9, HBL.out.trans hb9⟩
set_option maxHeartbeats 2000000 in
set_option maxRecDepth 100000 in
theorem bo_k (HF : Hid (∀ W, Calls Try.prog 30 #[.int .i64 op] W (FormIs W 10))) (l1 : List Nat) (k1 : Nat) (H1 : Hid (∀ A c W, Bytes W W.heap.size A l0 → (A = none → c = 0) → Calls Try.prog 45 #[.slice A k0 c, .int .i64 k] W (GivesB W l1 k1))) : Calls Try.prog 26 #[.agg #[.int .i64 op, .int .i64 a, .int .i64 b, .int .i64 k, .slice A ln c]] w (GivesB w l1 k1) := by
  have HB := Lib.hid (b5_of (Below.refl w.heap.size w) op a b k A ln c 25)
  go_enter Try.func26, Try.ntmps26
  go_wp2_with fail
  refine (HC.out _).mono ?_
  rintro e w1 ⟨A1, c1, rfl, hown1, hB1, hn1, hc1, hb1⟩
  have HB1 := Lib.hid (HB.out.keep hb1)
  have HO1 := Lib.hid (own_from hown1 (Nat.le_trans HB.out.below.size (Nat.le_refl _)))
  clear HC HB hb1 hown1
  obtain ⟨_, _, q0, q1, q2, q3, q4⟩ := HB1.out
  go_wp2_with fail
  refine (HF.out _).mono ?_
  rintro e w2 ⟨rfl, hb2⟩
  clear q0 q1 q2 q3 q4
  have HB2 := Lib.hid (HB1.out.keep hb2)
  have HO2 := Lib.hid (HO1.out.keep hb2 HO1.out.lt)
  have hB2 : Bytes w2 w2.heap.size A1 l0 := (hB1.below hb2).more hb2.size
  clear HF HB1 HO1 hB1 hb2
  obtain ⟨hbw, hbz, q0, q1, q2, q3, q4⟩ := HB2.out
  go_wp2_with fail
  refine (H1.out _ _ _ hB2 hn1).mono ?_
  rintro e w3 ⟨A3, c3, rfl, hown3, hB3, hn3, hc3, hb3⟩
  clear q0 q1 q2 q3 q4
  have HB3 := Lib.hid (HB2.out.keep hb3)
  have HO3 := Lib.hid (own_from hown3 HB2.out.below.size)
  clear H1 HB2 hown3 hb3 hbw hbz hB2
  obtain ⟨hbw, hbz, q0, q1, q2, q3, q4⟩ := HB3.out
  go_wp2
  go_ret
  exact ⟨A3, c3, rfl, HO3.out, hB3, hn3, hc3, hbw⟩
set_option maxHeartbeats 2000000 in
set_option maxRecDepth 100000 in
theorem bo_kk (HF : Hid (∀ W, Calls Try.prog 30 #[.int .i64 op] W (FormIs W 11))) (l1 : List Nat) (k1 : Nat) (H1 : Hid (∀ A c W, Bytes W W.heap.size A l0 → (A = none → c = 0) → Calls Try.prog 45 #[.slice A k0 c, .int .i64 k] W (GivesB W l1 k1))) : Calls Try.prog 26 #[.agg #[.int .i64 op, .int .i64 a, .int .i64 b, .int .i64 k, .slice A ln c]] w (GivesB w l1 k1) := by
  have HB := Lib.hid (b5_of (Below.refl w.heap.size w) op a b k A ln c 25)
  go_enter Try.func26, Try.ntmps26
  go_wp2_with fail
  refine (HC.out _).mono ?_
  rintro e w1 ⟨A1, c1, rfl, hown1, hB1, hn1, hc1, hb1⟩
  have HB1 := Lib.hid (HB.out.keep hb1)
  have HO1 := Lib.hid (own_from hown1 (Nat.le_trans HB.out.below.size (Nat.le_refl _)))
  clear HC HB hb1 hown1
  obtain ⟨_, _, q0, q1, q2, q3, q4⟩ := HB1.out
  go_wp2_with fail
  refine (HF.out _).mono ?_
  rintro e w2 ⟨rfl, hb2⟩
  clear q0 q1 q2 q3 q4
  have HB2 := Lib.hid (HB1.out.keep hb2)
  have HO2 := Lib.hid (HO1.out.keep hb2 HO1.out.lt)
  have hB2 : Bytes w2 w2.heap.size A1 l0 := (hB1.below hb2).more hb2.size
  clear HF HB1 HO1 hB1 hb2
  obtain ⟨hbw, hbz, q0, q1, q2, q3, q4⟩ := HB2.out
  go_wp2_with fail
  refine (H1.out _ _ _ hB2 hn1).mono ?_
  rintro e w3 ⟨A3, c3, rfl, hown3, hB3, hn3, hc3, hb3⟩
  clear q0 q1 q2 q3 q4
  have HB3 := Lib.hid (HB2.out.keep hb3)
  have HO3 := Lib.hid (own_from hown3 HB2.out.below.size)
  clear H1 HB2 hown3 hb3 hbw hbz hB2
  obtain ⟨hbw, hbz, q0, q1, q2, q3, q4⟩ := HB3.out
  go_wp2
  go_ret
  exact ⟨A3, c3, rfl, HO3.out, hB3, hn3, hc3, hbw⟩
end
end Go.Proofs.Ytdipgokbfjbgfaa.Ins
namespace Go.Proofs.Ytdipgokbfjbgfaa.Ins
open Go.RowKit Leb Typ

def labN (ns : List Nat) : List Nat := ns.flatMap putU
theorem labN_len (ns : List Nat) : (labN ns).length ≤ 10 * ns.length := by
  induction ns with
  | nil => simp [labN]
  | cons n ns ih =>
    have := (putU_len n).2
    simp only [labN, List.flatMap_cons, List.length_append, List.length_cons] at ih ⊢
    omega
theorem labN_next (ns : List Nat) (j : Nat) (h : j < ns.length) : labN (ns.take (j + 1)) = labN (ns.take j) ++ putU ns[j] := by
  unfold labN
  rw [List.take_succ_eq_append_getElem h, List.flatMap_append]
  simp
theorem labN_lt (ns : List Nat) : ∀ y ∈ labN ns, y < 256 := by
  intro y hy
  obtain ⟨n, _, h⟩ := List.mem_flatMap.1 hy
  exact putU_lt n y h
set_option maxHeartbeats 4000000 in
set_option maxRecDepth 100000 in
theorem bo_la (w : World) (op : Int) (na : Nat) (b k : Int) (A : Option Addr) (ln c : Nat) (ns : List Nat) (l0 l1 l2 : List Nat) (k0 k1 k2 : Nat) (hln : ns.length = ln) (hl64 : (ln : Int) ≤ 64) (hna : (na : Int) ≤ 4294967295) (hns : ∀ n ∈ ns, n ≤ 4294967295)
    (hi : Ints w w.heap.size A (ns.map (fun n : Nat => (n : Int)))) (hk1 : l1.length = k1) (hk1m : k1 ≤ 1000) (h1lt : ∀ y ∈ l1, y < 256) (hl2 : l2 = l1 ++ labN ns) (hk2 : l2.length = k2)
    (HC : Hid (∀ W, Calls Try.prog 42 #[.int .i64 op] W (GivesB W l0 k0)))
    (HF : Hid (∀ W, Calls Try.prog 30 #[.int .i64 op] W (FormIs W 6)))
    (H1 : Hid (∀ A c W, Bytes W W.heap.size A l0 → (A = none → c = 0) → Calls Try.prog 44 #[.slice A k0 c, .int .u64 (ln : Int)] W (GivesB W l1 k1)))
    (l3 : List Nat) (k3 : Nat) (H3 : Hid (∀ A c W, Bytes W W.heap.size A l2 → (A = none → c = 0) → Calls Try.prog 44 #[.slice A k2 c, .int .u64 (na : Int)] W (GivesB W l3 k3))) :
    Calls Try.prog 26 #[.agg #[.int .i64 op, .int .i64 (na : Int), .int .i64 b, .int .i64 k, .slice A ln c]] w (GivesB w l3 k3) := by
  have HB := Lib.hid (b5_of (Below.refl w.heap.size w) op (na : Int) b k A ln c 25)
  have HLN := Lib.hid hln
  have HNS := Lib.hid hns
  have HI := Lib.hid hi
  have HK1 := Lib.hid (And.intro hk1 (And.intro hk1m h1lt))
  have HL2 := Lib.hid (And.intro hl2 hk2)
  clear hln hns hi hk1 hk1m h1lt hl2 hk2
  go_enter Try.func26, Try.ntmps26
  go_wp2_with fail
  refine (HC.out _).mono ?_
  rintro e w1 ⟨A1, c1, rfl, hown1, hB1, hn1, hc1, hb1⟩
  have HB1 := Lib.hid (HB.out.keep hb1)
  clear HC HB hb1 hown1
  obtain ⟨_, _, q0, q1, q2, q3, q4⟩ := HB1.out
  go_wp2_with fail
  refine (HF.out _).mono ?_
  rintro e w2 ⟨rfl, hb2⟩
  clear q0 q1 q2 q3 q4
  have HB2 := Lib.hid (HB1.out.keep hb2)
  have hB2 : Bytes w2 w2.heap.size A1 l0 := (hB1.below hb2).more hb2.size
  clear HF HB1 hB1 hb2
  obtain ⟨hbw, hbz, q0, q1, q2, q3, q4⟩ := HB2.out
  go_wp2_with fail
  refine (H1.out _ _ _ hB2 hn1).mono ?_
  rintro e w3 ⟨A3, c3, rfl, hown3, hB3, hn3, hc3, hb3⟩
  clear q0 q1 q2 q3 q4
  have HB3 := Lib.hid (HB2.out.keep hb3)
  have HO3 := Lib.hid (own_from hown3 HB2.out.below.size)
  have HBY3 := Lib.hid (And.intro hB3 (And.intro hn3 hc3))
  clear H1 HB2 hown3 hb3 hbw hbz hB2 hB3 hn3 hc3
  obtain ⟨_, _, q0, q1, q2, q3, q4⟩ := HB3.out
  go_wp2_with fail
  go_loopw [3, 51] (fun x3 x51 wr => ∃ (j : Nat) (Ao : Option Addr) (co ko : Nat), j ≤ ln ∧ x3 = .slice Ao ko co ∧ x51 = .int .i64 (j : Int) ∧ Hid (Own wr w.heap.size (.slice Ao ko co) (l1 ++ labN (ns.take j)) ∧ Bytes wr wr.heap.size Ao (l1 ++ labN (ns.take j)) ∧ (Ao = none → co = 0) ∧ ko ≤ co ∧ (l1 ++ labN (ns.take j)).length = ko) ∧ Hid (B5 w wr w.heap.size op (na : Int) b k A ln c)) (fun _ i _ => ln - (intOf i).toNat)
  case atStart => exact ⟨0, A3, c3, k1, Nat.zero_le _, rfl, by go_num, Lib.hid ⟨by simpa [labN] using HO3.out, by simpa [labN] using HBY3.out.1, HBY3.out.2.1, HBY3.out.2.2, by simpa [labN] using HK1.out.1⟩, HB3⟩
  case round =>
    obtain ⟨j, Ao, co, ko, hj, rfl, rfl, HJ, HBJ⟩ := hrel
    clear q0 q1 q2 q3 q4 HB3 HO3 HBY3
    by_cases hjl : j < ln
    · have hji : (j : Int) < (ln : Int) := by omega
      have hjn : j < ns.length := by have := HLN.out; omega
      obtain ⟨bb, off, rfl, hbb, hc⟩ := HI.out (by simp; omega)
      have hcj := hc j (by simp; omega)
      rw [List.getElem_map] at hcj
      have hwr := (HBJ.out.below.cell (p := ⟨bb, off + j, none⟩) hbb).trans hcj
      have hfit := HNS.out _ (List.getElem_mem hjn)
      obtain ⟨g1, g2, g3, g4, g5⟩ := HJ.out
      have hkb : ko ≤ 1640 := by
        have h1 := labN_len (ns.take j)
        have h2 := HK1.out
        rw [List.length_append] at g5
        rw [List.length_take] at h1
        omega
      obtain ⟨k', hk'⟩ : ∃ k', ((l1 ++ labN (ns.take j)) ++ putU ns[j]).length = k' := ⟨_, rfl⟩
      have HU := Lib.hid (pu_any (l1 ++ labN (ns.take j)) ns[j] ko k' g5 (by omega) (fun y hy => (List.mem_append.1 hy).elim (HK1.out.2.2 y) (labN_lt _ y)) (by omega) hk' Ao co wr g2 g3)
      have HNX : Hid ((l1 ++ labN (ns.take j)) ++ putU ns[j] = l1 ++ labN (ns.take (j + 1))) := Lib.hid (by rw [labN_next ns j hjn, List.append_assoc])
      have HKX := Lib.hid hk'
      have hfi : ((ns[j] : Nat) : Int) ≤ 4294967295 := by omega
      clear hcj hc HJ g1 g2 g3 g4 g5 hk' hfit hkb
      generalize ns[j] = y at *
      go_wp2_with fail
      refine HU.out.mono ?_
      rintro e w4 ⟨A4, c4, rfl, hown4, hB4, hn4, hc4, hb4⟩
      have HBX := Lib.hid (HBJ.out.keep hb4)
      have HOX := Lib.hid (own_from hown4 HBJ.out.below.size)
      clear HU hown4 hb4 hwr HBJ
      go_wp2
      go_roundw
      case rel =>
        refine ⟨j + 1, A4, c4, k', by omega, rfl, by go_num, Lib.hid ?_, HBX⟩
        rw [← HNX.out]
        exact ⟨HOX.out, hB4, hn4, hc4, HKX.out⟩
      case measure => simp [intOf]; omega
    · obtain rfl : j = ln := by omega
      have hji : ¬ (j : Int) < (j : Int) := by omega
      have hall : l1 ++ labN (ns.take j) = l2 := by rw [HL2.out.1, List.take_of_length_le (by have := HLN.out; omega)]
      obtain ⟨g1, g2, g3, g4, g5⟩ := HJ.out
      rw [hall] at g1 g2 g5
      obtain rfl : ko = k2 := by rw [← g5, HL2.out.2]
      obtain ⟨hbw, hbz, q0, q1, q2, q3, q4⟩ := HBJ.out
      have HW := Lib.hid hbw
      clear HJ hall g1 g5 hbw HI
      go_wp2_with fail
      refine (H3.out _ _ _ g2 g3).mono ?_
      rintro e w4 ⟨A4, c4, rfl, hown4, hB4, hn4, hc4, hb4⟩
      have HF4 := Lib.hid (And.intro (own_from hown4 HW.out.size) (HW.out.trans (hb4.mono HW.out.size)))
      clear hown4 hb4 q0 q1 q2 q3 q4
      go_wp2
      go_ret
      exact ⟨A4, c4, rfl, HF4.out.1, hB4, hn4, hc4, HF4.out.2⟩
end Go.Proofs.Ytdipgokbfjbgfaa.Ins
namespace Go.Proofs.Ytdipgokbfjbgfaa.Ins
open Go.RowKit Leb Typ

theorem iclone_none (w : World) : Calls Try.prog 25 #[.slice none 0 0] w (Gives w []) := by
  have q22 : ∀ (w : World) (a : Option Addr) (n c n' c' : Nat), (binOp .eql 22 (.slice a n c) (.slice none n' c')).run Try.prog w = .ok (.bool a.isNone) w := fun w a n c n' c' => Lib.run_eql_slice_nil w _ _ a n c n' c' Try.underlying22
  go_enter Try.func25, Try.ntmps25
  go_wp2
  go_ret
  exact ⟨_, rfl, Own.nil _ _, Below.refl _ _⟩
theorem iclone_some (ad : Addr) (l : List Nat) (c : Nat) (w : World) (hb : Bytes w w.heap.size (some ad) l) (hl : l.length ≤ 70368744177664) : Calls Try.prog 25 #[.slice (some ad) l.length c] w (Gives w l) := by
  have hb1 : Below w.heap.size w (w.alloc (.cells #[] 5)) := (Below.refl _ _).alloc (Nat.le_refl _) _
  have hB := hb.below hb1
  have hO := own_none w
  have hsz := hb1.size
  clear hb
  have q22 : ∀ (w : World) (a : Option Addr) (n c n' c' : Nat), (binOp .eql 22 (.slice a n c) (.slice none n' c')).run Try.prog w = .ok (.bool a.isNone) w := fun w a n c n' c' => Lib.run_eql_slice_nil w _ _ a n c n' c' Try.underlying22
  go_enter Try.func25, Try.ntmps25
  go_wp2_with (at_builtin; refine app_bytes rfl (.tmp 5) (.tmp 6) rfl w.heap.size _ [] rfl hO (some ad) l c _ rfl hB (fun h => by cases h) (by simp; omega) hsz ?_; intro v2 w2 hown2 hbel2)
  go_ret
  exact ⟨v2, rfl, hown2, hb1.trans hbel2⟩
theorem iclone_any (A : Option Addr) (l : List Nat) (c : Nat) (w : World) (hb : Bytes w w.heap.size A l) (hc : A = none → c = 0) (hl : l.length ≤ 70368744177664) : Calls Try.prog 25 #[.slice A l.length c] w (Gives w l) := by
  cases A with
  | none =>
    have hl0 : l = [] := by
      rcases Nat.eq_zero_or_pos l.length with h0 | h0
      · exact List.eq_nil_of_length_eq_zero h0
      · obtain ⟨b, off, he, _⟩ := hb.2 h0
        cases he
    subst hl0
    rw [hc rfl]
    exact iclone_none w
  | some ad => exact iclone_some ad l c w hb hl
theorem head_lt (o : Nat) (ho : o ≤ 270) : ∀ y ∈ headBytes (o : Int), y < 256 := by
  intro y hy
  unfold headBytes at hy
  split at hy
  · rcases List.mem_cons.1 hy with rfl | hy
    · omega
    · exact putU_lt _ y hy
  · have : y = (o : Int).toNat := by simpa using hy
    omega
theorem head_le (o : Nat) : (headBytes (o : Int)).length ≤ 11 := by
  unfold headBytes
  split
  · have := (putU_len ((o : Int) - 256).toNat).2; simp; omega
  · simp
theorem app_lt {l l' : List Nat} (h : ∀ y ∈ l, y < 256) (h' : ∀ y ∈ l', y < 256) : ∀ y ∈ l ++ l', y < 256 := fun y hy => (List.mem_append.1 hy).elim (h y) (h' y)
theorem nats_of (l : List Int) (h : ∀ n ∈ l, fitsU n) : ∃ ns : List Nat, l = ns.map (fun n : Nat => (n : Int)) ∧ ∀ n ∈ ns, n ≤ 4294967295 := by
  induction l with
  | nil => exact ⟨[], rfl, by simp⟩
  | cons n l ih =>
    obtain ⟨ns, rfl, h2⟩ := ih (fun m hm => h m (by simp [hm]))
    have hn := h n (by simp)
    unfold fitsU at hn
    refine ⟨n.toNat :: ns, ?_, fun m hm => ?_⟩
    · simp only [List.map_cons]
      congr 1
      omega
    · rcases List.mem_cons.1 hm with rfl | hm
      · omega
      · exact h2 m hm
theorem labN_is (ns : List Nat) : labelBytes (ns.map (fun n : Nat => (n : Int))) = labN ns := by
  induction ns with
  | nil => rfl
  | cons n ns ih =>
    simp only [labelBytes, labN, List.map_cons, List.flatMap_cons] at ih ⊢
    rw [ih]
    rfl
theorem bytesOf_any (v : Value) (x : Ins) (w : World) (k : Nat) (hv : InsV w v x) (hf : formedI x) (hk : (insBytes x).length = k) : Calls Try.prog 26 #[v] w (GivesB w (insBytes x) k) := by
  obtain ⟨A, c, rfl, hi, hlc, hn⟩ := hv
  obtain ⟨op, a, b, kk, l⟩ := x
  obtain ⟨qs, hp, hfit, hset⟩ := hf
  simp only at hi hlc hp hset ⊢
  have hr := pat_range op qs hp
  obtain ⟨o, rfl⟩ : ∃ o : Nat, op = (o : Int) := ⟨op.toNat, by omega⟩
  have ho : o ≤ 270 := by omega
  have hlt := head_lt o ho
  have hle := head_le o
  obtain ⟨k0, hk0⟩ : ∃ k0, (headBytes (o : Int)).length = k0 := ⟨_, rfl⟩
  have HC := Lib.hid (fun W => code_gives o k0 W ho hk0)
  have HF := Lib.hid (fun W => form_any (o : Int) W)
  unfold formN at HF
  rw [hp] at HF
  have hib : insBytes ⟨(o : Int), a, b, kk, l⟩ = headBytes (o : Int) ++ qs.flatMap (partBytes ⟨(o : Int), a, b, kk, l⟩) := by unfold insBytes; simp only; rw [hp]; rfl
  rw [hib] at hk ⊢
  have hm := pat_mem _ qs hp
  simp only [List.mem_cons, List.not_mem_nil, or_false] at hm
  clear hib hset
  generalize headBytes (o : Int) = l0 at *
  rcases hm with rfl | rfl | rfl | rfl | rfl | rfl | rfl | rfl | rfl | rfl
  · simp only [List.flatMap_nil, List.append_nil] at hk ⊢
    obtain rfl : k0 = k := by rw [← hk0, hk]
    exact bo_bare w _ a b kk A l.length c l0 k0 HC HF
  · have hR : rightBlock a = true := hfit .t (by simp)
    have h64 : I64 a := by have := of_decide_eq_true hR; unfold I64; omega
    simp only [List.flatMap_cons, List.flatMap_nil, List.append_nil, partBytes] at hk ⊢
    refine bo_t w _ a b kk A l.length c l0 k0 HC HF _ _ (Lib.hid fun A c W hb hc hkc => ?_)
    have := oputb_any A l0 c k a W ⟨hb, hc, by omega⟩ (by omega) h64 (by rw [hR]; exact hk)
    rw [hR, hk0] at this
    exact this
  · have ha : fitsU a := hfit .a (by simp)
    unfold fitsU at ha
    obtain ⟨na, rfl⟩ : ∃ na : Nat, a = (na : Int) := ⟨a.toNat, by omega⟩
    simp only [List.flatMap_cons, List.flatMap_nil, List.append_nil, partBytes, Int.toNat_natCast] at hk ⊢
    exact bo_a w _ b kk A l.length c l0 k0 HC HF na (by omega) _ k (Lib.hid fun A c W hb hc => pu_any l0 na k0 k hk0 (by omega) hlt (by omega) hk A c W hb hc)
  · have ha : fitsU a := hfit .a (by simp)
    unfold fitsU at ha
    obtain ⟨na, rfl⟩ : ∃ na : Nat, a = (na : Int) := ⟨a.toNat, by omega⟩
    have hl : l.length ≤ 64 ∧ ∀ n ∈ l, fitsU n := hfit .l (by simp)
    obtain ⟨ns, rfl, hns⟩ := nats_of l hl.2
    simp only [List.flatMap_cons, List.flatMap_nil, List.append_nil, partBytes, Int.toNat_natCast, labN_is, List.length_map] at hk hl hi ⊢
    have hu := (putU_len ns.length).2
    have hln := labN_len ns
    have hl1 : (l0 ++ putU ns.length).length ≤ 21 := by rw [List.length_append]; omega
    have e : l0 ++ ((putU ns.length ++ labN ns) ++ putU na) = ((l0 ++ putU ns.length) ++ labN ns) ++ putU na := by simp only [List.append_assoc]
    rw [e] at hk ⊢
    have hl2 : ((l0 ++ putU ns.length) ++ labN ns).length ≤ 661 := by rw [List.length_append]; omega
    exact bo_la w _ na b kk A ns.length c ns l0 _ _ k0 _ _ rfl (by omega) (by omega) hns hi rfl (by omega) (app_lt hlt (putU_lt _)) rfl rfl HC HF
      (Lib.hid fun A c W hb hc => pu_any l0 ns.length k0 _ hk0 (by omega) hlt (by omega) rfl A c W hb hc) _ k
      (Lib.hid fun A c W hb hc => pu_any _ na _ k rfl (by omega) (app_lt (app_lt hlt (putU_lt _)) (labN_lt _)) (by omega) hk A c W hb hc)
  · have ha : fitsU a := hfit .a (by simp)
    have hb' : fitsU b := hfit .b (by simp)
    unfold fitsU at ha hb'
    obtain ⟨na, rfl⟩ : ∃ na : Nat, a = (na : Int) := ⟨a.toNat, by omega⟩
    obtain ⟨nb, rfl⟩ : ∃ nb : Nat, b = (nb : Int) := ⟨b.toNat, by omega⟩
    simp only [List.flatMap_cons, List.flatMap_nil, List.append_nil, partBytes, Int.toNat_natCast] at hk ⊢
    have hu := (putU_len na).2
    rw [← List.append_assoc] at hk ⊢
    have hl1 : (l0 ++ putU na).length ≤ 21 := by rw [List.length_append]; omega
    exact bo_ab w _ kk A l.length c l0 k0 HC HF na (by omega) _ _ (Lib.hid fun A c W hb hc => pu_any l0 na k0 _ hk0 (by omega) hlt (by omega) rfl A c W hb hc) nb (by omega) _ k
      (Lib.hid fun A c W hb hc => pu_any _ nb _ k rfl (by omega) (app_lt hlt (putU_lt _)) (by omega) hk A c W hb hc)
  · simp only [List.flatMap_cons, List.flatMap_nil, List.append_nil, partBytes] at hk ⊢
    have hkk : k0 + 1 = k := by rw [← hk, List.length_append, hk0]; rfl
    subst hkk
    exact bo_z w _ a b kk A l.length c l0 k0 HC HF hk0 (by omega) hlt
  · simp only [List.flatMap_cons, List.flatMap_nil, List.append_nil, partBytes, List.cons_append, List.nil_append] at hk ⊢
    have hkk : k0 + 2 = k := by rw [← hk, List.length_append, hk0]; rfl
    subst hkk
    exact bo_zz w _ a b kk A l.length c l0 k0 HC HF hk0 (by omega) hlt
  · have hk1 : -2147483648 ≤ kk ∧ kk ≤ 2147483647 := hfit .k (by simp)
    simp only [List.flatMap_cons, List.flatMap_nil, List.append_nil, partBytes] at hk ⊢
    exact bo_k w _ a b kk A l.length c l0 k0 HC HF _ k (Lib.hid fun A c W hb hc => by
      have := gives_b (putS_any A l0 c kk W hb hc (by omega) (by omega)) (app_lt hlt (putS_lt _)) hk
      rw [hk0] at this
      exact this)
  · have hk1 : -9223372036854775808 ≤ kk ∧ kk ≤ 9223372036854775807 := hfit .kk (by simp)
    simp only [List.flatMap_cons, List.flatMap_nil, List.append_nil, partBytes] at hk ⊢
    exact bo_kk w _ a b kk A l.length c l0 k0 HC HF _ k (Lib.hid fun A c W hb hc => by
      have := gives_b (putS_any A l0 c kk W hb hc (by omega) (by omega)) (app_lt hlt (putS_lt _)) hk
      rw [hk0] at this
      exact this)
  · have ha : fitsU a := hfit .a (by simp)
    unfold fitsU at ha
    obtain ⟨na, rfl⟩ : ∃ na : Nat, a = (na : Int) := ⟨a.toNat, by omega⟩
    simp only [List.flatMap_cons, List.flatMap_nil, List.append_nil, partBytes, Int.toNat_natCast] at hk ⊢
    have hu := (putU_len na).2
    rw [← List.append_assoc] at hk ⊢
    have hl1 : (l0 ++ putU na).length ≤ 21 := by rw [List.length_append]; omega
    have hkk : (l0 ++ putU na).length + 1 = k := by simp only [List.length_append, List.length_cons, List.length_nil] at hk ⊢; omega
    subst hkk
    exact bo_az w _ b kk A l.length c l0 k0 HC HF na (by omega) _ _ (Lib.hid fun A c W hb hc => pu_any l0 na k0 _ hk0 (by omega) hlt (by omega) rfl A c W hb hc) rfl (by omega) (app_lt hlt (putU_lt _))
end Go.Proofs.Ytdipgokbfjbgfaa.Ins
