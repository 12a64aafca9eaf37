/-
  trammellaw01.LebPuts, walked: it answers true, whatever bytes and numbers. Condition: the bytes lie in memory as a slice's cells.
-/
import Derived.Test.YtjillijkbmncmaaLebPutS
import Derived.Test.YtjillijkbmncmaaLebAwake
import Derived.Test.YtjillijkbmncmaaLebRefPutS
import Derived.Deep.RegionWith
namespace Go.Proofs.Ytjillijkbmncmaa.Leb
open Go.RowKit
set_option linter.unusedVariables false

section
variable (A : Option Addr) (l' : List Nat) (len cap n j1 j2 k1 k2 : Nat) (m : Int) (w : World)
set_option maxHeartbeats 4000000 in
set_option maxRecDepth 100000 in
theorem puts_small (hl : len ≤ cap) (hk : len ≤ 1000) (hb : Bytes w w.heap.size A l') (HL : Hid (l'.length = len)) (HC : Hid (A = none → cap = 0))
    (HN : Hid (n < 18446744073709551616)) (HM : Hid (-9223372036854775808 ≤ m ∧ m ≤ 9223372036854775807))
    (J1 : Hid ((putU n).length = j1)) (J2 : Hid ((putS m).length = j2)) (K1 : Hid ((l' ++ putU n).length = k1)) (K2 : Hid ((l' ++ putS m).length = k2)) (hk1 : k1 ≤ 2000) (hk2 : k2 ≤ 2000) :
    Calls Try.prog 4 #[.slice A len cap, .int .u64 (n : Int), .int .i64 m] w fun e w' => e = .returned (.bool true) ∧ Below w.heap.size w w' := by
  go_enter Try.func4, Try.ntmps4
  go_wp2_with (go_at_call 9; refine (awake_any _).mono ?_; rintro e w1 ⟨rfl, hb1⟩)
  have hB1 := (hb.below hb1).more hb1.size
  have hc := copy_any A l' cap w1 hB1 HC.out (by rw [HL.out]; omega)
  have hc := gives_b hc hb.1 HL.out
  rw [HL.out] at hc
  refine hc.mono ?_
  clear hc
  rintro e w2 ⟨A2, c2, rfl, ho2, -, -, -, hb2⟩
  go_wp2_with (at_builtin; refine app_slice rfl (.tmp 18) (.tmp 19) rfl _ _ l' rfl (ho2.alloc _) hb.1 _ [77] 1 1 _ (len + 1) rfl rfl (bytes_one _ 77 (by omega) _) (fun h => by cases h) (by rw [List.length_append, HL.out]; rfl) (by omega) (by have := hb2.size; simp; omega) ?_; intro A3 c3 w3 ho3 hB3 hc3 hn3 hb3)
  have hb4 : Below w.heap.size w w3 := hb1.trans ((hb2.mono hb1.size).trans ((((Below.refl _ _).alloc (Nat.le_refl _) _).mono (Nat.le_trans hb1.size hb2.size)).trans (hb3.mono hb1.size)))
  obtain ⟨b3, off3, hA3, hlt3, hcs3⟩ := hB3.2 (by simp)
  rw [hA3] at hB3 ⊢
  have hlast : w3.cell? ⟨b3, off3 + len, none⟩ = some (.int .u8 77) := by
    have h := hcs3 l'.length (by simp)
    rw [← HL.out, h]
    simp
  have hBl : Bytes w3 w3.heap.size (some ⟨b3, off3, none⟩) l' := by
    have h := hB3.take l'.length
    rw [take_put] at h
    exact h
  have HU : Hid (∀ W, Below w3.heap.size w3 W → Calls Try.prog 15 #[.slice (some ⟨b3, off3, none⟩) len c3, .int .u64 (n : Int)] W (GivesB W (l' ++ putU n) k1)) := Lib.hid (fun W hW => by
    have h := gives_b (putU_any (some ⟨b3, off3, none⟩) l' c3 n W ((hBl.below hW).more hW.size) (fun h => by cases h) (by rw [HL.out]; omega) HN.out) (fun y hy => (List.mem_append.1 hy).elim (hb.1 y) (putUf_byte 9 n y)) K1.out
    rw [HL.out] at h
    exact h)
  have HS : Hid (∀ W, Below w3.heap.size w3 W → Calls Try.prog 16 #[.slice (some ⟨b3, off3, none⟩) len c3, .int .i64 m] W (GivesB W (l' ++ putS m) k2)) := Lib.hid (fun W hW => by
    have h := gives_b (putS_any (some ⟨b3, off3, none⟩) l' c3 m W ((hBl.below hW).more hW.size) (fun h => by cases h) (by rw [HL.out]; omega) HM.out) (fun y hy => (List.mem_append.1 hy).elim (hb.1 y) (putSf_byte 9 m y)) K2.out
    rw [HL.out] at h
    exact h)
  have hB1 := Lib.hid hB1
  have hb1 := Lib.hid hb1
  clear ho2 ho3 hA3 hcs3 hn3 hb2 hb3
  have hlc : len ≤ c3 := by omega
  go_region_with (first
    | (go_at_call 15; refine (HU.out _ ?_).mono ?_; exact (Below.refl _ _).drew; rintro e w5 ⟨A5, c5, rfl, ho5, hB5, hn5, hc5, hb5⟩)
    | (go_at_call 16; refine (HS.out _ ?_).mono ?_; exact (Below.refl _ _).drew.trans (hb5.mono (Nat.le_refl _)); rintro e w6 ⟨A6, c6, rfl, ho6, hB6, hn6, hc6, hb6⟩))
  have hb7 : Below w3.heap.size w3 w6 := (Below.refl w3.heap.size w3).drew.trans (hb5.trans (hb6.mono hb5.size))
  have hb8 := hb4.trans (hb7.mono hb4.size)
  have hBx := (hB5.below hb6).more hb6.size
  have hBm := (hBl.below hb7).more hb7.size
  have hlast6 := (hb7.cell (p := ⟨b3, off3 + len, none⟩) hlt3).trans hlast
  have hlt6 : b3 < w6.heap.size := Nat.lt_of_lt_of_le hlt3 hb7.size
  clear hb5 hb6 hb7 hB5 hBl hlast ho5 ho6 HU HS hlt3
  have HCp : Hid (∀ W, Below w.heap.size w W → Calls Try.prog 14 #[.slice A len cap] W (GivesB W l' len)) := Lib.hid (fun W hW => by
    have h := gives_b (copy_any A l' cap W ((hb.below hW).more hW.size) HC.out (by rw [HL.out]; omega)) hb.1 HL.out
    rw [HL.out] at h
    exact h)
  go_wp2_with fail
  refine (HCp.out _ hb8).mono ?_
  rintro e w7 ⟨A7, c7, rfl, ho7, -, -, -, hb9⟩
  go_wp2_with fail
  refine (gives_b (rputU_any n _ HN.out) (putUf_byte 9 n) J1.out).mono ?_
  rintro e w8 ⟨A8, c8, rfl, -, hB8, hn8, -, hb10⟩
  have ho8 := ho7.keep hb10 ho7.lt
  go_wp2_with (at_builtin; refine app_slice rfl (.tmp 35) (.tmp 37) rfl _ _ l' rfl ho8 hb.1 A8 (putU n) j1 c8 _ k1 J1.out rfl hB8 hn8 K1.out (by omega) (by have := hb9.size; have := hb10.size; omega) ?_; intro A9 c9 w9 ho9 hB9 hc9 hn9 hb11)
  have hb12 := hb9.trans ((hb10.mono hb9.size).trans hb11)
  have hs := same_any A5 A9 (l' ++ putU n) c5 c9 _ _ w9 (hBx.below hb12) hB9 (by rw [K1.out]; omega)
  rw [K1.out] at hs
  refine hs.mono ?_
  clear hs
  rintro e w10 ⟨rfl, d1, rfl⟩
  have hb13 := below_drewN hb12 d1
  have hb14 := hb8.trans (hb13.mono hb8.size)
  clear ho7 ho8 ho9 hB8 hB9 hb9 hb10 hb11 hb12
  go_wp2_with fail
  refine (HCp.out _ hb14).mono ?_
  rintro e w11 ⟨A11, c11, rfl, ho11, -, -, -, hb15⟩
  go_wp2_with fail
  refine (gives_b (rputS_any m _ HM.out) (putSf_byte 9 m) J2.out).mono ?_
  rintro e w12 ⟨A12, c12, rfl, -, hB12, hn12, -, hb16⟩
  have ho12 := ho11.keep hb16 ho11.lt
  have hj2 : 0 < j2 := by rw [← J2.out]; exact (putSf_len 9 m).1
  go_wp2_with (at_builtin; (refine app_guarded ?_ (.tmp 43) (.tmp 45) rfl _ _ l' rfl ho12 hb.1 A12 (putS m) j2 c12 _ k2 J2.out rfl hB12 hj2 K2.out (by omega) (by have := hb15.size; have := hb16.size; omega) ?_); rotate_right; intro A13 c13 w13 ho13 hB13 hc13 hn13 hb17)
  have hb18 := hb15.trans ((hb16.mono hb15.size).trans hb17)
  have hb19 := hb13.trans (hb18.mono hb13.size)
  have hs := same_any A6 A13 (l' ++ putS m) c6 c13 _ _ w13 (hB6.below hb19) hB13 (by rw [K2.out]; omega)
  rw [K2.out] at hs
  refine hs.mono ?_
  clear hs
  rintro e w14 ⟨rfl, d2, rfl⟩
  have hb20 := below_drewN hb19 d2
  have hb21 := hb8.trans (hb20.mono hb8.size)
  clear ho11 ho12 ho13 hB12 hB13 hb13 hb15 hb16 hb17 hb18 hb19 hb14 hB6 hBx
  go_wp2_with fail
  have hs := same_any (some ⟨b3, off3, none⟩) A l' c3 cap _ _ _ (hBm.below hb20) (hb.below hb21) (by rw [HL.out]; omega)
  rw [HL.out] at hs
  refine hs.mono ?_
  clear hs
  rintro e w15 ⟨rfl, d3, rfl⟩
  have hcell : w13.cell? ⟨b3, off3 + len, none⟩ = some (.int .u8 77) := (hb20.cell (p := ⟨b3, off3 + len, none⟩) hlt6).trans hlast6
  have hb22 := below_drewN hb21 d3
  have hli : (len : Int) < ((len + 1 : Nat) : Int) := by omega
  clear hlast6 hBm hb20 hb21
  go_wp2
  go_ret
  exact ⟨rfl, by rw [← World.drewN_drewN]; exact hb22⟩
set_option maxHeartbeats 4000000 in
set_option maxRecDepth 100000 in
theorem puts_great (hl : len ≤ cap) (hk : 1000 < len) (hb : Bytes w w.heap.size A l') (HL : Hid (l'.length = 1000)) (HC : Hid (A = none → cap = 0))
    (HN : Hid (n < 18446744073709551616)) (HM : Hid (-9223372036854775808 ≤ m ∧ m ≤ 9223372036854775807))
    (J1 : Hid ((putU n).length = j1)) (J2 : Hid ((putS m).length = j2)) (K1 : Hid ((l' ++ putU n).length = k1)) (K2 : Hid ((l' ++ putS m).length = k2)) (hk1 : k1 ≤ 2000) (hk2 : k2 ≤ 2000) :
    Calls Try.prog 4 #[.slice A len cap, .int .u64 (n : Int), .int .i64 m] w fun e w' => e = .returned (.bool true) ∧ Below w.heap.size w w' := by
  go_enter Try.func4, Try.ntmps4
  go_wp2_with (go_at_call 9; refine (awake_any _).mono ?_; rintro e w1 ⟨rfl, hb1⟩)
  have hB1 := (hb.below hb1).more hb1.size
  have hc := copy_any A l' cap w1 hB1 HC.out (by rw [HL.out]; omega)
  have hc := gives_b hc hb.1 HL.out
  rw [HL.out] at hc
  refine hc.mono ?_
  clear hc
  rintro e w2 ⟨A2, c2, rfl, ho2, -, -, -, hb2⟩
  go_wp2_with (at_builtin; refine app_slice rfl (.tmp 18) (.tmp 19) rfl _ _ l' rfl (ho2.alloc _) hb.1 _ [77] 1 1 _ 1001 rfl rfl (bytes_one _ 77 (by omega) _) (fun h => by cases h) (by rw [List.length_append, HL.out]; rfl) (by omega) (by have := hb2.size; simp; omega) ?_; intro A3 c3 w3 ho3 hB3 hc3 hn3 hb3)
  have hb4 : Below w.heap.size w w3 := hb1.trans ((hb2.mono hb1.size).trans ((((Below.refl _ _).alloc (Nat.le_refl _) _).mono (Nat.le_trans hb1.size hb2.size)).trans (hb3.mono hb1.size)))
  obtain ⟨b3, off3, hA3, hlt3, hcs3⟩ := hB3.2 (by simp)
  rw [hA3] at hB3 ⊢
  have hlast : w3.cell? ⟨b3, off3 + 1000, none⟩ = some (.int .u8 77) := by
    have h := hcs3 l'.length (by simp)
    rw [← HL.out, h]
    simp
  have hBl : Bytes w3 w3.heap.size (some ⟨b3, off3, none⟩) l' := by
    have h := hB3.take l'.length
    rw [take_put] at h
    exact h
  have HU : Hid (∀ W, Below w3.heap.size w3 W → Calls Try.prog 15 #[.slice (some ⟨b3, off3, none⟩) 1000 c3, .int .u64 (n : Int)] W (GivesB W (l' ++ putU n) k1)) := Lib.hid (fun W hW => by
    have h := gives_b (putU_any (some ⟨b3, off3, none⟩) l' c3 n W ((hBl.below hW).more hW.size) (fun h => by cases h) (by rw [HL.out]; omega) HN.out) (fun y hy => (List.mem_append.1 hy).elim (hb.1 y) (putUf_byte 9 n y)) K1.out
    rw [HL.out] at h
    exact h)
  have HS : Hid (∀ W, Below w3.heap.size w3 W → Calls Try.prog 16 #[.slice (some ⟨b3, off3, none⟩) 1000 c3, .int .i64 m] W (GivesB W (l' ++ putS m) k2)) := Lib.hid (fun W hW => by
    have h := gives_b (putS_any (some ⟨b3, off3, none⟩) l' c3 m W ((hBl.below hW).more hW.size) (fun h => by cases h) (by rw [HL.out]; omega) HM.out) (fun y hy => (List.mem_append.1 hy).elim (hb.1 y) (putSf_byte 9 m y)) K2.out
    rw [HL.out] at h
    exact h)
  have hB1 := Lib.hid hB1
  have hb1 := Lib.hid hb1
  clear ho2 ho3 hA3 hcs3 hn3 hb2 hb3
  have hlc : 1000 ≤ c3 := by omega
  have hlci : (1000 : Int) ≤ (c3 : Int) := by omega
  go_region_with (first
    | (go_at_call 15; refine (HU.out _ ?_).mono ?_; exact (Below.refl _ _).drew; rintro e w5 ⟨A5, c5, rfl, ho5, hB5, hn5, hc5, hb5⟩)
    | (go_at_call 16; refine (HS.out _ ?_).mono ?_; exact (Below.refl _ _).drew.trans (hb5.mono (Nat.le_refl _)); rintro e w6 ⟨A6, c6, rfl, ho6, hB6, hn6, hc6, hb6⟩))
  have hb7 : Below w3.heap.size w3 w6 := (Below.refl w3.heap.size w3).drew.trans (hb5.trans (hb6.mono hb5.size))
  have hb8 := hb4.trans (hb7.mono hb4.size)
  have hBx := (hB5.below hb6).more hb6.size
  have hBm := (hBl.below hb7).more hb7.size
  have hlast6 := (hb7.cell (p := ⟨b3, off3 + 1000, none⟩) hlt3).trans hlast
  have hlt6 : b3 < w6.heap.size := Nat.lt_of_lt_of_le hlt3 hb7.size
  clear hb5 hb6 hb7 hB5 hBl hlast ho5 ho6 HU HS hlt3
  have HCp : Hid (∀ W, Below w.heap.size w W → Calls Try.prog 14 #[.slice A 1000 cap] W (GivesB W l' 1000)) := Lib.hid (fun W hW => by
    have h := gives_b (copy_any A l' cap W ((hb.below hW).more hW.size) HC.out (by rw [HL.out]; omega)) hb.1 HL.out
    rw [HL.out] at h
    exact h)
  go_wp2_with fail
  refine (HCp.out _ hb8).mono ?_
  rintro e w7 ⟨A7, c7, rfl, ho7, -, -, -, hb9⟩
  go_wp2_with fail
  refine (gives_b (rputU_any n _ HN.out) (putUf_byte 9 n) J1.out).mono ?_
  rintro e w8 ⟨A8, c8, rfl, -, hB8, hn8, -, hb10⟩
  have ho8 := ho7.keep hb10 ho7.lt
  go_wp2_with (at_builtin; refine app_slice rfl (.tmp 35) (.tmp 37) rfl _ _ l' rfl ho8 hb.1 A8 (putU n) j1 c8 _ k1 J1.out rfl hB8 hn8 K1.out (by omega) (by have := hb9.size; have := hb10.size; omega) ?_; intro A9 c9 w9 ho9 hB9 hc9 hn9 hb11)
  have hb12 := hb9.trans ((hb10.mono hb9.size).trans hb11)
  have hs := same_any A5 A9 (l' ++ putU n) c5 c9 _ _ w9 (hBx.below hb12) hB9 (by rw [K1.out]; omega)
  rw [K1.out] at hs
  refine hs.mono ?_
  clear hs
  rintro e w10 ⟨rfl, d1, rfl⟩
  have hb13 := below_drewN hb12 d1
  have hb14 := hb8.trans (hb13.mono hb8.size)
  clear ho7 ho8 ho9 hB8 hB9 hb9 hb10 hb11 hb12
  go_wp2_with fail
  refine (HCp.out _ hb14).mono ?_
  rintro e w11 ⟨A11, c11, rfl, ho11, -, -, -, hb15⟩
  go_wp2_with fail
  refine (gives_b (rputS_any m _ HM.out) (putSf_byte 9 m) J2.out).mono ?_
  rintro e w12 ⟨A12, c12, rfl, -, hB12, hn12, -, hb16⟩
  have ho12 := ho11.keep hb16 ho11.lt
  have hj2 : 0 < j2 := by rw [← J2.out]; exact (putSf_len 9 m).1
  go_wp2_with (at_builtin; (refine app_guarded ?_ (.tmp 43) (.tmp 45) rfl _ _ l' rfl ho12 hb.1 A12 (putS m) j2 c12 _ k2 J2.out rfl hB12 hj2 K2.out (by omega) (by have := hb15.size; have := hb16.size; omega) ?_); rotate_right; intro A13 c13 w13 ho13 hB13 hc13 hn13 hb17)
  have hb18 := hb15.trans ((hb16.mono hb15.size).trans hb17)
  have hb19 := hb13.trans (hb18.mono hb13.size)
  have hs := same_any A6 A13 (l' ++ putS m) c6 c13 _ _ w13 (hB6.below hb19) hB13 (by rw [K2.out]; omega)
  rw [K2.out] at hs
  refine hs.mono ?_
  clear hs
  rintro e w14 ⟨rfl, d2, rfl⟩
  have hb20 := below_drewN hb19 d2
  have hb21 := hb8.trans (hb20.mono hb8.size)
  clear ho11 ho12 ho13 hB12 hB13 hb13 hb15 hb16 hb17 hb18 hb19 hb14 hB6 hBx
  go_wp2_with fail
  have hs := same_any (some ⟨b3, off3, none⟩) A l' c3 cap _ _ _ (hBm.below hb20) (hb.below hb21) (by rw [HL.out]; omega)
  rw [HL.out] at hs
  refine hs.mono ?_
  clear hs
  rintro e w15 ⟨rfl, d3, rfl⟩
  have hcell : w13.cell? ⟨b3, off3 + 1000, none⟩ = some (.int .u8 77) := (hb20.cell (p := ⟨b3, off3 + 1000, none⟩) hlt6).trans hlast6
  have hb22 := below_drewN hb21 d3
  have hli : (1000 : Int) < (1001 : Int) := by omega
  clear hlast6 hBm hb20 hb21
  go_wp2
  go_ret
  exact ⟨rfl, by rw [← World.drewN_drewN]; exact hb22⟩
end
end Go.Proofs.Ytjillijkbmncmaa.Leb
