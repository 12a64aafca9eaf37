/-
  trammellaw03.NumWidth answers true for every code and every numbers. Condition: 'Does T', and T holds of the world.
-/
import Derived.Test.YtbgcafkdojoilaaDoorNumLaw
import Derived.Test.YtbgcafkdojoilaaDoorNumWide
namespace Go.Proofs.YtbgcafkdojoilaaDoor.Num
open Go.RowKit

/-- The lowest 32 bits of one number, and another one's above them. -/
def mixN (a c : Nat) : Nat := a % 4294967296 + c % 4294967296 * 4294967296
theorem mix_eq (a c : Nat) (ha : a < 18446744073709551616) : bits .or .u64 (bits .and .u64 (a : Int) 4294967295) (IntKind.u64.wrap ((c : Int) * 4294967296)) = ((mixN a c : Nat) : Int) := by
  have h1 : a &&& 4294967295 = a % 4294967296 := Nat.and_two_pow_sub_one_eq_mod a 32
  have h2 : IntKind.u64.wrap ((c : Int) * 4294967296) = ((c % 4294967296 * 4294967296 : Nat) : Int) := by rw [IntKind.wrap_u64]; omega
  have h3 : 2 ^ 32 * (c % 4294967296) + a % 4294967296 = 2 ^ 32 * (c % 4294967296) ||| a % 4294967296 := Nat.two_pow_add_eq_or_of_lt (Nat.mod_lt _ (by omega)) _
  rw [show (4294967295 : Int) = ((4294967295 : Nat) : Int) from rfl, u64_and_nat a 4294967295 ha (by omega), h1, h2, u64_or_nat _ _ (by omega) (by omega)]
  unfold mixN
  rw [show c % 4294967296 * 4294967296 = 2 ^ 32 * (c % 4294967296) from by omega, Nat.or_comm, ← h3]
  congr 1
  omega
theorem mix_mod (a c : Nat) : mixN a c % 2 ^ 32 = a % 2 ^ 32 := by unfold mixN; omega
theorem mix_lt (a c : Nat) : mixN a c < 18446744073709551616 := by unfold mixN; omega
theorem in_cases (op : Int) : inVal op = 126 ∨ inVal op = 127 := by unfold inVal; split <;> simp
theorem typ_un (op : Int) (h : (unVal op 0).2 = true) : ∃ o, typVal op = ([inVal op], o, true) ∧ (o = 126 ∨ o = 127) := by
  unfold typVal
  rw [if_pos h]
  refine ⟨_, rfl, ?_⟩
  split <;> simp
theorem typ_bin (op : Int) (hu : (unVal op 0).2 = false) (h : (binAll op 0 1).2.2 = true) : ∃ o, typVal op = ([inVal op, inVal op], o, true) ∧ (o = 126 ∨ o = 127 ∧ ¬ 124 ≤ op) := by
  unfold typVal
  rw [if_neg (by simp [hu]), if_pos h]
  refine ⟨_, rfl, ?_⟩
  split
  · exact .inl rfl
  · rename_i h; exact .inr ⟨rfl, h⟩
theorem typ_none (op : Int) (hu : (unVal op 0).2 = false) (h : (binAll op 0 1).2.2 = false) : typVal op = ([], 0, false) := by
  unfold typVal
  rw [if_neg (by simp [hu]), if_neg (by simp [h])]
section
variable {T : World → Prop} (D : Does T) (op : Int) (a b c d : Nat) (w : World) (hT : T w) (ho : I64 op) (ha : a < 18446744073709551616) (hb : b < 18446744073709551616)
include D hT ho ha hb
set_option maxRecDepth 100000 in
theorem width_none (ht : typVal op = ([], 0, false)) : Calls Tryd.prog 4 #[.int .i64 op, .int .u64 (a : Int), .int .u64 (b : Int), .int .u64 (c : Int), .int .u64 (d : Int)] w fun e w' => e = .returned (.bool true) ∧ Below w.heap.size w w' := by
  have _HX : Hid True := (fun _ _ => Lib.hid trivial) ha hb
  have HA := Lib.hid (awake_any D w hT)
  have HT := Lib.hid (fun W hW => D.typ op W ho hW)
  unfold Typ3 at HT
  rw [ht] at HT
  have HK := Lib.hid D.keep
  clear D ha hb ho ht
  go_enter Tryd.func4, Tryd.ntmps4
  go_wp2_with fail
  refine HA.out.mono ?_
  rintro e w1 ⟨rfl, hb1⟩
  have hT1 := HK.out _ _ hT hb1
  go_wp2_with fail
  refine (HT.out _ hT1).mono ?_
  rintro e w2 ⟨A2, c2, rfl, hI2, hc2, hb2⟩
  have hT2 := HK.out _ _ hT1 hb2
  have hb3 := hb1.trans (hb2.mono hb1.size)
  clear hT1 hb1 hb2 HA HT
  go_wp2
  go_ret
  exact ⟨rfl, hb3⟩
set_option maxHeartbeats 1000000 in
set_option maxRecDepth 100000 in
theorem width_un_126_126 (hu : (unVal op 0).2 = true) (hin : inVal op = 126) (ht : typVal op = ([126], 126, true)) : Calls Tryd.prog 4 #[.int .i64 op, .int .u64 (a : Int), .int .u64 (b : Int), .int .u64 (c : Int), .int .u64 (d : Int)] w fun e w' => e = .returned (.bool true) ∧ Below w.heap.size w w' := by
  have _HX : Hid True := (fun _ _ _ _ => Lib.hid trivial) ha hb hu hin
  have HA := Lib.hid (awake_any D w hT)
  have HT := Lib.hid (fun W hW => D.typ op W ho hW)
  unfold Typ3 at HT
  rw [ht] at HT
  have HK := Lib.hid D.keep
  have HU := Lib.hid (fun W hW => D.un op a W ho ha hW)
  have HV := Lib.hid (fun W hW => D.un op a W ho ha hW)
  unfold Un2 at HU HV
  generalize (unVal op a).1 = n at *
  generalize (unVal op a).2 = ok at *
  clear D ha hb ho ht hu hin
  go_enter Tryd.func4, Tryd.ntmps4
  go_wp2_with fail
  refine HA.out.mono ?_
  rintro e w1 ⟨rfl, hb1⟩
  have hT1 := HK.out _ _ hT hb1
  go_wp2_with fail
  refine (HT.out _ hT1).mono ?_
  rintro e w2 ⟨A2, c2, rfl, hI2, hc2, hb2⟩
  have hT2 := HK.out _ _ hT1 hb2
  have hb3 := hb1.trans (hb2.mono hb1.size)
  clear hT1 hb1 hb2 HA HT
  obtain ⟨p, rfl, _, hp⟩ := hI2 (by simp)
  have hcell := hp 0 (by simp)
  simp only [List.getElem_cons_zero] at hcell
  clear hp hI2
  go_wp2_with fail
  refine (HU.out _ hT2).mono ?_
  rintro e w4 ⟨rfl, hb4⟩
  have hT4 := HK.out _ _ hT2 hb4
  have hb5 := hb3.trans (hb4.mono hb3.size)
  clear hT2 hb3 hb4 HU hcell
  go_wp2_with fail
  refine (HV.out _ hT4).mono ?_
  rintro e w6 ⟨rfl, hb6⟩
  have hb7 := hb5.trans (hb6.mono hb5.size)
  clear hT4 hb5 hb6 HV
  go_wp2
  go_ret
  exact ⟨rfl, hb7⟩
set_option maxHeartbeats 1000000 in
set_option maxRecDepth 100000 in
theorem width_un_126_127 (hu : (unVal op 0).2 = true) (hin : inVal op = 126) (ht : typVal op = ([126], 127, true)) : Calls Tryd.prog 4 #[.int .i64 op, .int .u64 (a : Int), .int .u64 (b : Int), .int .u64 (c : Int), .int .u64 (d : Int)] w fun e w' => e = .returned (.bool true) ∧ Below w.heap.size w w' := by
  have _HX : Hid True := (fun _ _ _ _ => Lib.hid trivial) ha hb hu hin
  have HA := Lib.hid (awake_any D w hT)
  have HT := Lib.hid (fun W hW => D.typ op W ho hW)
  unfold Typ3 at HT
  rw [ht] at HT
  have HK := Lib.hid D.keep
  have HU := Lib.hid (fun W hW => D.un op a W ho ha hW)
  have HV := Lib.hid (fun W hW => D.un op a W ho ha hW)
  unfold Un2 at HU HV
  have hn : (unVal op a).1 < 4294967296 := un_out op a hu (by rw [ht])
  have hnd : decide ((((unVal op a).1 : Nat) : Int) < 4294967296) = true := by simp; omega
  clear hn
  generalize (unVal op a).1 = n at *
  generalize (unVal op a).2 = ok at *
  clear D ha hb ho ht hu hin
  go_enter Tryd.func4, Tryd.ntmps4
  go_wp2_with fail
  refine HA.out.mono ?_
  rintro e w1 ⟨rfl, hb1⟩
  have hT1 := HK.out _ _ hT hb1
  go_wp2_with fail
  refine (HT.out _ hT1).mono ?_
  rintro e w2 ⟨A2, c2, rfl, hI2, hc2, hb2⟩
  have hT2 := HK.out _ _ hT1 hb2
  have hb3 := hb1.trans (hb2.mono hb1.size)
  clear hT1 hb1 hb2 HA HT
  obtain ⟨p, rfl, _, hp⟩ := hI2 (by simp)
  have hcell := hp 0 (by simp)
  simp only [List.getElem_cons_zero] at hcell
  clear hp hI2
  go_wp2_with fail
  refine (HU.out _ hT2).mono ?_
  rintro e w4 ⟨rfl, hb4⟩
  have hT4 := HK.out _ _ hT2 hb4
  have hb5 := hb3.trans (hb4.mono hb3.size)
  clear hT2 hb3 hb4 HU hcell
  go_wp2_with fail
  refine (HV.out _ hT4).mono ?_
  rintro e w6 ⟨rfl, hb6⟩
  have hb7 := hb5.trans (hb6.mono hb5.size)
  clear hT4 hb5 hb6 HV
  go_wp2
  go_ret
  exact ⟨rfl, hb7⟩
set_option maxHeartbeats 1000000 in
set_option maxRecDepth 100000 in
theorem width_un_127_126 (hu : (unVal op 0).2 = true) (hin : inVal op = 127) (ht : typVal op = ([127], 126, true)) : Calls Tryd.prog 4 #[.int .i64 op, .int .u64 (a : Int), .int .u64 (b : Int), .int .u64 (c : Int), .int .u64 (d : Int)] w fun e w' => e = .returned (.bool true) ∧ Below w.heap.size w w' := by
  have _HX : Hid True := (fun _ _ _ _ => Lib.hid trivial) ha hb hu hin
  have HA := Lib.hid (awake_any D w hT)
  have HT := Lib.hid (fun W hW => D.typ op W ho hW)
  unfold Typ3 at HT
  rw [ht] at HT
  have HK := Lib.hid D.keep
  have HU := Lib.hid (fun W hW => D.un op a W ho ha hW)
  have HV := Lib.hid (fun W hW => D.un op (mixN a c) W ho (mix_lt a c) hW)
  rw [un_width op a (mixN a c) hu hin (mix_mod a c)] at HV
  unfold Un2 at HU HV
  generalize (unVal op a).1 = n at *
  generalize (unVal op a).2 = ok at *
  have HM := Lib.hid (mix_eq a c ha)
  generalize mixN a c = x at *
  clear D ha hb ho ht hu hin
  go_enter Tryd.func4, Tryd.ntmps4
  go_wp2_with fail
  refine HA.out.mono ?_
  rintro e w1 ⟨rfl, hb1⟩
  have hT1 := HK.out _ _ hT hb1
  go_wp2_with fail
  refine (HT.out _ hT1).mono ?_
  rintro e w2 ⟨A2, c2, rfl, hI2, hc2, hb2⟩
  have hT2 := HK.out _ _ hT1 hb2
  have hb3 := hb1.trans (hb2.mono hb1.size)
  clear hT1 hb1 hb2 HA HT
  obtain ⟨p, rfl, _, hp⟩ := hI2 (by simp)
  have hcell := hp 0 (by simp)
  simp only [List.getElem_cons_zero] at hcell
  clear hp hI2
  go_wp2_with fail
  refine (HU.out _ hT2).mono ?_
  rintro e w4 ⟨rfl, hb4⟩
  have hT4 := HK.out _ _ hT2 hb4
  have hb5 := hb3.trans (hb4.mono hb3.size)
  clear hT2 hb3 hb4 HU hcell
  go_wp2_with fail
  rw [HM.out]
  refine (HV.out _ hT4).mono ?_
  rintro e w6 ⟨rfl, hb6⟩
  have hb7 := hb5.trans (hb6.mono hb5.size)
  clear hT4 hb5 hb6 HV
  go_wp2
  go_ret
  exact ⟨rfl, hb7⟩
set_option maxHeartbeats 1000000 in
set_option maxRecDepth 100000 in
theorem width_un_127_127 (hu : (unVal op 0).2 = true) (hin : inVal op = 127) (ht : typVal op = ([127], 127, true)) : Calls Tryd.prog 4 #[.int .i64 op, .int .u64 (a : Int), .int .u64 (b : Int), .int .u64 (c : Int), .int .u64 (d : Int)] w fun e w' => e = .returned (.bool true) ∧ Below w.heap.size w w' := by
  have _HX : Hid True := (fun _ _ _ _ => Lib.hid trivial) ha hb hu hin
  have HA := Lib.hid (awake_any D w hT)
  have HT := Lib.hid (fun W hW => D.typ op W ho hW)
  unfold Typ3 at HT
  rw [ht] at HT
  have HK := Lib.hid D.keep
  have HU := Lib.hid (fun W hW => D.un op a W ho ha hW)
  have HV := Lib.hid (fun W hW => D.un op (mixN a c) W ho (mix_lt a c) hW)
  rw [un_width op a (mixN a c) hu hin (mix_mod a c)] at HV
  unfold Un2 at HU HV
  have hn : (unVal op a).1 < 4294967296 := un_out op a hu (by rw [ht])
  have hnd : decide ((((unVal op a).1 : Nat) : Int) < 4294967296) = true := by simp; omega
  clear hn
  generalize (unVal op a).1 = n at *
  generalize (unVal op a).2 = ok at *
  have HM := Lib.hid (mix_eq a c ha)
  generalize mixN a c = x at *
  clear D ha hb ho ht hu hin
  go_enter Tryd.func4, Tryd.ntmps4
  go_wp2_with fail
  refine HA.out.mono ?_
  rintro e w1 ⟨rfl, hb1⟩
  have hT1 := HK.out _ _ hT hb1
  go_wp2_with fail
  refine (HT.out _ hT1).mono ?_
  rintro e w2 ⟨A2, c2, rfl, hI2, hc2, hb2⟩
  have hT2 := HK.out _ _ hT1 hb2
  have hb3 := hb1.trans (hb2.mono hb1.size)
  clear hT1 hb1 hb2 HA HT
  obtain ⟨p, rfl, _, hp⟩ := hI2 (by simp)
  have hcell := hp 0 (by simp)
  simp only [List.getElem_cons_zero] at hcell
  clear hp hI2
  go_wp2_with fail
  refine (HU.out _ hT2).mono ?_
  rintro e w4 ⟨rfl, hb4⟩
  have hT4 := HK.out _ _ hT2 hb4
  have hb5 := hb3.trans (hb4.mono hb3.size)
  clear hT2 hb3 hb4 HU hcell
  go_wp2_with fail
  rw [HM.out]
  refine (HV.out _ hT4).mono ?_
  rintro e w6 ⟨rfl, hb6⟩
  have hb7 := hb5.trans (hb6.mono hb5.size)
  clear hT4 hb5 hb6 HV
  go_wp2
  go_ret
  exact ⟨rfl, hb7⟩
set_option maxHeartbeats 1000000 in
set_option maxRecDepth 100000 in
theorem width_bin_126_126_t (hu : (binAll op 0 1).2.2 = true) (hin : inVal op = 126) (ht : typVal op = ([126, 126], 126, true)) (htr : (binAll op a b).2.1 ≠ 0) : Calls Tryd.prog 4 #[.int .i64 op, .int .u64 (a : Int), .int .u64 (b : Int), .int .u64 (c : Int), .int .u64 (d : Int)] w fun e w' => e = .returned (.bool true) ∧ Below w.heap.size w w' := by
  have _HX : Hid True := (fun _ _ _ _ => Lib.hid trivial) ha hb hu hin
  have HA := Lib.hid (awake_any D w hT)
  have HT := Lib.hid (fun W hW => D.typ op W ho hW)
  unfold Typ3 at HT
  rw [ht] at HT
  have HK := Lib.hid D.keep
  have HU := Lib.hid (fun W hW => D.bin op a b W ho ha hb hW)
  have HV := Lib.hid (fun W hW => D.bin op a b W ho ha hb hW)
  unfold Bin3 at HU HV
  have hz : (binAll op a b).1 = 0 := (bin_trap op a b).resolve_left htr
  have hzb : ((((binAll op a b).1 : Nat) : Int) == 0) = true := by simp [hz]
  have htb : ((((binAll op a b).2.1 : Nat) : Int) == 0) = false := by simpa using htr
  clear hz htr
  generalize (binAll op a b).1 = n at *
  generalize (binAll op a b).2.1 = t at *
  generalize (binAll op a b).2.2 = ok at *
  clear D ha hb ho ht hu hin
  go_enter Tryd.func4, Tryd.ntmps4
  go_wp2_with fail
  refine HA.out.mono ?_
  rintro e w1 ⟨rfl, hb1⟩
  have hT1 := HK.out _ _ hT hb1
  go_wp2_with fail
  refine (HT.out _ hT1).mono ?_
  rintro e w2 ⟨A2, c2, rfl, hI2, hc2, hb2⟩
  have hT2 := HK.out _ _ hT1 hb2
  have hb3 := hb1.trans (hb2.mono hb1.size)
  clear hT1 hb1 hb2 HA HT
  obtain ⟨p, rfl, _, hp⟩ := hI2 (by simp)
  have hcell := hp 0 (by simp)
  simp only [List.getElem_cons_zero] at hcell
  clear hp hI2
  go_wp2_with fail
  refine (HU.out _ hT2).mono ?_
  rintro e w4 ⟨rfl, hb4⟩
  have hT4 := HK.out _ _ hT2 hb4
  have hb5 := hb3.trans (hb4.mono hb3.size)
  clear hT2 hb3 hb4 HU hcell
  go_wp2_with fail
  refine (HV.out _ hT4).mono ?_
  rintro e w6 ⟨rfl, hb6⟩
  have hb7 := hb5.trans (hb6.mono hb5.size)
  clear hT4 hb5 hb6 HV
  go_wp2
  go_ret
  exact ⟨rfl, hb7⟩
set_option maxHeartbeats 1000000 in
set_option maxRecDepth 100000 in
theorem width_bin_126_126_n (hu : (binAll op 0 1).2.2 = true) (hin : inVal op = 126) (ht : typVal op = ([126, 126], 126, true)) (htr : (binAll op a b).2.1 = 0) : Calls Tryd.prog 4 #[.int .i64 op, .int .u64 (a : Int), .int .u64 (b : Int), .int .u64 (c : Int), .int .u64 (d : Int)] w fun e w' => e = .returned (.bool true) ∧ Below w.heap.size w w' := by
  have _HX : Hid True := (fun _ _ _ _ => Lib.hid trivial) ha hb hu hin
  have HA := Lib.hid (awake_any D w hT)
  have HT := Lib.hid (fun W hW => D.typ op W ho hW)
  unfold Typ3 at HT
  rw [ht] at HT
  have HK := Lib.hid D.keep
  have HU := Lib.hid (fun W hW => D.bin op a b W ho ha hb hW)
  have HV := Lib.hid (fun W hW => D.bin op a b W ho ha hb hW)
  unfold Bin3 at HU HV
  have htb : ((((binAll op a b).2.1 : Nat) : Int) == 0) = true := by simpa using htr
  clear htr
  generalize (binAll op a b).1 = n at *
  generalize (binAll op a b).2.1 = t at *
  generalize (binAll op a b).2.2 = ok at *
  clear D ha hb ho ht hu hin
  go_enter Tryd.func4, Tryd.ntmps4
  go_wp2_with fail
  refine HA.out.mono ?_
  rintro e w1 ⟨rfl, hb1⟩
  have hT1 := HK.out _ _ hT hb1
  go_wp2_with fail
  refine (HT.out _ hT1).mono ?_
  rintro e w2 ⟨A2, c2, rfl, hI2, hc2, hb2⟩
  have hT2 := HK.out _ _ hT1 hb2
  have hb3 := hb1.trans (hb2.mono hb1.size)
  clear hT1 hb1 hb2 HA HT
  obtain ⟨p, rfl, _, hp⟩ := hI2 (by simp)
  have hcell := hp 0 (by simp)
  simp only [List.getElem_cons_zero] at hcell
  clear hp hI2
  go_wp2_with fail
  refine (HU.out _ hT2).mono ?_
  rintro e w4 ⟨rfl, hb4⟩
  have hT4 := HK.out _ _ hT2 hb4
  have hb5 := hb3.trans (hb4.mono hb3.size)
  clear hT2 hb3 hb4 HU hcell
  go_wp2_with fail
  refine (HV.out _ hT4).mono ?_
  rintro e w6 ⟨rfl, hb6⟩
  have hb7 := hb5.trans (hb6.mono hb5.size)
  clear hT4 hb5 hb6 HV
  go_wp2
  go_ret
  exact ⟨rfl, hb7⟩
set_option maxHeartbeats 1000000 in
set_option maxRecDepth 100000 in
theorem width_bin_126_127_t (hu : (binAll op 0 1).2.2 = true) (hin : inVal op = 126) (ht : typVal op = ([126, 126], 127, true)) (h124 : ¬ 124 ≤ op) (htr : (binAll op a b).2.1 ≠ 0) : Calls Tryd.prog 4 #[.int .i64 op, .int .u64 (a : Int), .int .u64 (b : Int), .int .u64 (c : Int), .int .u64 (d : Int)] w fun e w' => e = .returned (.bool true) ∧ Below w.heap.size w w' := by
  have _HX : Hid True := (fun _ _ _ _ => Lib.hid trivial) ha hb hu hin
  have HA := Lib.hid (awake_any D w hT)
  have HT := Lib.hid (fun W hW => D.typ op W ho hW)
  unfold Typ3 at HT
  rw [ht] at HT
  have HK := Lib.hid D.keep
  have HU := Lib.hid (fun W hW => D.bin op a b W ho ha hb hW)
  have HV := Lib.hid (fun W hW => D.bin op a b W ho ha hb hW)
  unfold Bin3 at HU HV
  have hn : (binAll op a b).1 < 4294967296 := bin_out op a b hu h124
  have hnd : decide ((((binAll op a b).1 : Nat) : Int) < 4294967296) = true := by simp; omega
  clear hn h124
  have hz : (binAll op a b).1 = 0 := (bin_trap op a b).resolve_left htr
  have hzb : ((((binAll op a b).1 : Nat) : Int) == 0) = true := by simp [hz]
  have htb : ((((binAll op a b).2.1 : Nat) : Int) == 0) = false := by simpa using htr
  clear hz htr
  generalize (binAll op a b).1 = n at *
  generalize (binAll op a b).2.1 = t at *
  generalize (binAll op a b).2.2 = ok at *
  clear D ha hb ho ht hu hin
  go_enter Tryd.func4, Tryd.ntmps4
  go_wp2_with fail
  refine HA.out.mono ?_
  rintro e w1 ⟨rfl, hb1⟩
  have hT1 := HK.out _ _ hT hb1
  go_wp2_with fail
  refine (HT.out _ hT1).mono ?_
  rintro e w2 ⟨A2, c2, rfl, hI2, hc2, hb2⟩
  have hT2 := HK.out _ _ hT1 hb2
  have hb3 := hb1.trans (hb2.mono hb1.size)
  clear hT1 hb1 hb2 HA HT
  obtain ⟨p, rfl, _, hp⟩ := hI2 (by simp)
  have hcell := hp 0 (by simp)
  simp only [List.getElem_cons_zero] at hcell
  clear hp hI2
  go_wp2_with fail
  refine (HU.out _ hT2).mono ?_
  rintro e w4 ⟨rfl, hb4⟩
  have hT4 := HK.out _ _ hT2 hb4
  have hb5 := hb3.trans (hb4.mono hb3.size)
  clear hT2 hb3 hb4 HU hcell
  go_wp2_with fail
  refine (HV.out _ hT4).mono ?_
  rintro e w6 ⟨rfl, hb6⟩
  have hb7 := hb5.trans (hb6.mono hb5.size)
  clear hT4 hb5 hb6 HV
  go_wp2
  go_ret
  exact ⟨rfl, hb7⟩
set_option maxHeartbeats 1000000 in
set_option maxRecDepth 100000 in
theorem width_bin_126_127_n (hu : (binAll op 0 1).2.2 = true) (hin : inVal op = 126) (ht : typVal op = ([126, 126], 127, true)) (h124 : ¬ 124 ≤ op) (htr : (binAll op a b).2.1 = 0) : Calls Tryd.prog 4 #[.int .i64 op, .int .u64 (a : Int), .int .u64 (b : Int), .int .u64 (c : Int), .int .u64 (d : Int)] w fun e w' => e = .returned (.bool true) ∧ Below w.heap.size w w' := by
  have _HX : Hid True := (fun _ _ _ _ => Lib.hid trivial) ha hb hu hin
  have HA := Lib.hid (awake_any D w hT)
  have HT := Lib.hid (fun W hW => D.typ op W ho hW)
  unfold Typ3 at HT
  rw [ht] at HT
  have HK := Lib.hid D.keep
  have HU := Lib.hid (fun W hW => D.bin op a b W ho ha hb hW)
  have HV := Lib.hid (fun W hW => D.bin op a b W ho ha hb hW)
  unfold Bin3 at HU HV
  have hn : (binAll op a b).1 < 4294967296 := bin_out op a b hu h124
  have hnd : decide ((((binAll op a b).1 : Nat) : Int) < 4294967296) = true := by simp; omega
  clear hn h124
  have htb : ((((binAll op a b).2.1 : Nat) : Int) == 0) = true := by simpa using htr
  clear htr
  generalize (binAll op a b).1 = n at *
  generalize (binAll op a b).2.1 = t at *
  generalize (binAll op a b).2.2 = ok at *
  clear D ha hb ho ht hu hin
  go_enter Tryd.func4, Tryd.ntmps4
  go_wp2_with fail
  refine HA.out.mono ?_
  rintro e w1 ⟨rfl, hb1⟩
  have hT1 := HK.out _ _ hT hb1
  go_wp2_with fail
  refine (HT.out _ hT1).mono ?_
  rintro e w2 ⟨A2, c2, rfl, hI2, hc2, hb2⟩
  have hT2 := HK.out _ _ hT1 hb2
  have hb3 := hb1.trans (hb2.mono hb1.size)
  clear hT1 hb1 hb2 HA HT
  obtain ⟨p, rfl, _, hp⟩ := hI2 (by simp)
  have hcell := hp 0 (by simp)
  simp only [List.getElem_cons_zero] at hcell
  clear hp hI2
  go_wp2_with fail
  refine (HU.out _ hT2).mono ?_
  rintro e w4 ⟨rfl, hb4⟩
  have hT4 := HK.out _ _ hT2 hb4
  have hb5 := hb3.trans (hb4.mono hb3.size)
  clear hT2 hb3 hb4 HU hcell
  go_wp2_with fail
  refine (HV.out _ hT4).mono ?_
  rintro e w6 ⟨rfl, hb6⟩
  have hb7 := hb5.trans (hb6.mono hb5.size)
  clear hT4 hb5 hb6 HV
  go_wp2
  go_ret
  exact ⟨rfl, hb7⟩
set_option maxHeartbeats 1000000 in
set_option maxRecDepth 100000 in
theorem width_bin_127_126_t (hu : (binAll op 0 1).2.2 = true) (hin : inVal op = 127) (ht : typVal op = ([127, 127], 126, true)) (htr : (binAll op a b).2.1 ≠ 0) : Calls Tryd.prog 4 #[.int .i64 op, .int .u64 (a : Int), .int .u64 (b : Int), .int .u64 (c : Int), .int .u64 (d : Int)] w fun e w' => e = .returned (.bool true) ∧ Below w.heap.size w w' := by
  have _HX : Hid True := (fun _ _ _ _ => Lib.hid trivial) ha hb hu hin
  have HA := Lib.hid (awake_any D w hT)
  have HT := Lib.hid (fun W hW => D.typ op W ho hW)
  unfold Typ3 at HT
  rw [ht] at HT
  have HK := Lib.hid D.keep
  have HU := Lib.hid (fun W hW => D.bin op a b W ho ha hb hW)
  have HV := Lib.hid (fun W hW => D.bin op (mixN a c) (mixN b d) W ho (mix_lt a c) (mix_lt b d) hW)
  rw [bin_width op a b (mixN a c) (mixN b d) hu hin (mix_mod a c) (mix_mod b d)] at HV
  unfold Bin3 at HU HV
  have hz : (binAll op a b).1 = 0 := (bin_trap op a b).resolve_left htr
  have hzb : ((((binAll op a b).1 : Nat) : Int) == 0) = true := by simp [hz]
  have htb : ((((binAll op a b).2.1 : Nat) : Int) == 0) = false := by simpa using htr
  clear hz htr
  generalize (binAll op a b).1 = n at *
  generalize (binAll op a b).2.1 = t at *
  generalize (binAll op a b).2.2 = ok at *
  have HM := Lib.hid (mix_eq a c ha)
  have HM2 := Lib.hid (mix_eq b d hb)
  generalize mixN a c = x at *
  generalize mixN b d = y at *
  clear D ha hb ho ht hu hin
  go_enter Tryd.func4, Tryd.ntmps4
  go_wp2_with fail
  refine HA.out.mono ?_
  rintro e w1 ⟨rfl, hb1⟩
  have hT1 := HK.out _ _ hT hb1
  go_wp2_with fail
  refine (HT.out _ hT1).mono ?_
  rintro e w2 ⟨A2, c2, rfl, hI2, hc2, hb2⟩
  have hT2 := HK.out _ _ hT1 hb2
  have hb3 := hb1.trans (hb2.mono hb1.size)
  clear hT1 hb1 hb2 HA HT
  obtain ⟨p, rfl, _, hp⟩ := hI2 (by simp)
  have hcell := hp 0 (by simp)
  simp only [List.getElem_cons_zero] at hcell
  clear hp hI2
  go_wp2_with fail
  refine (HU.out _ hT2).mono ?_
  rintro e w4 ⟨rfl, hb4⟩
  have hT4 := HK.out _ _ hT2 hb4
  have hb5 := hb3.trans (hb4.mono hb3.size)
  clear hT2 hb3 hb4 HU hcell
  go_wp2_with fail
  rw [HM.out, HM2.out]
  refine (HV.out _ hT4).mono ?_
  rintro e w6 ⟨rfl, hb6⟩
  have hb7 := hb5.trans (hb6.mono hb5.size)
  clear hT4 hb5 hb6 HV
  go_wp2
  go_ret
  exact ⟨rfl, hb7⟩
set_option maxHeartbeats 1000000 in
set_option maxRecDepth 100000 in
theorem width_bin_127_126_n (hu : (binAll op 0 1).2.2 = true) (hin : inVal op = 127) (ht : typVal op = ([127, 127], 126, true)) (htr : (binAll op a b).2.1 = 0) : Calls Tryd.prog 4 #[.int .i64 op, .int .u64 (a : Int), .int .u64 (b : Int), .int .u64 (c : Int), .int .u64 (d : Int)] w fun e w' => e = .returned (.bool true) ∧ Below w.heap.size w w' := by
  have _HX : Hid True := (fun _ _ _ _ => Lib.hid trivial) ha hb hu hin
  have HA := Lib.hid (awake_any D w hT)
  have HT := Lib.hid (fun W hW => D.typ op W ho hW)
  unfold Typ3 at HT
  rw [ht] at HT
  have HK := Lib.hid D.keep
  have HU := Lib.hid (fun W hW => D.bin op a b W ho ha hb hW)
  have HV := Lib.hid (fun W hW => D.bin op (mixN a c) (mixN b d) W ho (mix_lt a c) (mix_lt b d) hW)
  rw [bin_width op a b (mixN a c) (mixN b d) hu hin (mix_mod a c) (mix_mod b d)] at HV
  unfold Bin3 at HU HV
  have htb : ((((binAll op a b).2.1 : Nat) : Int) == 0) = true := by simpa using htr
  clear htr
  generalize (binAll op a b).1 = n at *
  generalize (binAll op a b).2.1 = t at *
  generalize (binAll op a b).2.2 = ok at *
  have HM := Lib.hid (mix_eq a c ha)
  have HM2 := Lib.hid (mix_eq b d hb)
  generalize mixN a c = x at *
  generalize mixN b d = y at *
  clear D ha hb ho ht hu hin
  go_enter Tryd.func4, Tryd.ntmps4
  go_wp2_with fail
  refine HA.out.mono ?_
  rintro e w1 ⟨rfl, hb1⟩
  have hT1 := HK.out _ _ hT hb1
  go_wp2_with fail
  refine (HT.out _ hT1).mono ?_
  rintro e w2 ⟨A2, c2, rfl, hI2, hc2, hb2⟩
  have hT2 := HK.out _ _ hT1 hb2
  have hb3 := hb1.trans (hb2.mono hb1.size)
  clear hT1 hb1 hb2 HA HT
  obtain ⟨p, rfl, _, hp⟩ := hI2 (by simp)
  have hcell := hp 0 (by simp)
  simp only [List.getElem_cons_zero] at hcell
  clear hp hI2
  go_wp2_with fail
  refine (HU.out _ hT2).mono ?_
  rintro e w4 ⟨rfl, hb4⟩
  have hT4 := HK.out _ _ hT2 hb4
  have hb5 := hb3.trans (hb4.mono hb3.size)
  clear hT2 hb3 hb4 HU hcell
  go_wp2_with fail
  rw [HM.out, HM2.out]
  refine (HV.out _ hT4).mono ?_
  rintro e w6 ⟨rfl, hb6⟩
  have hb7 := hb5.trans (hb6.mono hb5.size)
  clear hT4 hb5 hb6 HV
  go_wp2
  go_ret
  exact ⟨rfl, hb7⟩
set_option maxHeartbeats 1000000 in
set_option maxRecDepth 100000 in
theorem width_bin_127_127_t (hu : (binAll op 0 1).2.2 = true) (hin : inVal op = 127) (ht : typVal op = ([127, 127], 127, true)) (h124 : ¬ 124 ≤ op) (htr : (binAll op a b).2.1 ≠ 0) : Calls Tryd.prog 4 #[.int .i64 op, .int .u64 (a : Int), .int .u64 (b : Int), .int .u64 (c : Int), .int .u64 (d : Int)] w fun e w' => e = .returned (.bool true) ∧ Below w.heap.size w w' := by
  have _HX : Hid True := (fun _ _ _ _ => Lib.hid trivial) ha hb hu hin
  have HA := Lib.hid (awake_any D w hT)
  have HT := Lib.hid (fun W hW => D.typ op W ho hW)
  unfold Typ3 at HT
  rw [ht] at HT
  have HK := Lib.hid D.keep
  have HU := Lib.hid (fun W hW => D.bin op a b W ho ha hb hW)
  have HV := Lib.hid (fun W hW => D.bin op (mixN a c) (mixN b d) W ho (mix_lt a c) (mix_lt b d) hW)
  rw [bin_width op a b (mixN a c) (mixN b d) hu hin (mix_mod a c) (mix_mod b d)] at HV
  unfold Bin3 at HU HV
  have hn : (binAll op a b).1 < 4294967296 := bin_out op a b hu h124
  have hnd : decide ((((binAll op a b).1 : Nat) : Int) < 4294967296) = true := by simp; omega
  clear hn h124
  have hz : (binAll op a b).1 = 0 := (bin_trap op a b).resolve_left htr
  have hzb : ((((binAll op a b).1 : Nat) : Int) == 0) = true := by simp [hz]
  have htb : ((((binAll op a b).2.1 : Nat) : Int) == 0) = false := by simpa using htr
  clear hz htr
  generalize (binAll op a b).1 = n at *
  generalize (binAll op a b).2.1 = t at *
  generalize (binAll op a b).2.2 = ok at *
  have HM := Lib.hid (mix_eq a c ha)
  have HM2 := Lib.hid (mix_eq b d hb)
  generalize mixN a c = x at *
  generalize mixN b d = y at *
  clear D ha hb ho ht hu hin
  go_enter Tryd.func4, Tryd.ntmps4
  go_wp2_with fail
  refine HA.out.mono ?_
  rintro e w1 ⟨rfl, hb1⟩
  have hT1 := HK.out _ _ hT hb1
  go_wp2_with fail
  refine (HT.out _ hT1).mono ?_
  rintro e w2 ⟨A2, c2, rfl, hI2, hc2, hb2⟩
  have hT2 := HK.out _ _ hT1 hb2
  have hb3 := hb1.trans (hb2.mono hb1.size)
  clear hT1 hb1 hb2 HA HT
  obtain ⟨p, rfl, _, hp⟩ := hI2 (by simp)
  have hcell := hp 0 (by simp)
  simp only [List.getElem_cons_zero] at hcell
  clear hp hI2
  go_wp2_with fail
  refine (HU.out _ hT2).mono ?_
  rintro e w4 ⟨rfl, hb4⟩
  have hT4 := HK.out _ _ hT2 hb4
  have hb5 := hb3.trans (hb4.mono hb3.size)
  clear hT2 hb3 hb4 HU hcell
  go_wp2_with fail
  rw [HM.out, HM2.out]
  refine (HV.out _ hT4).mono ?_
  rintro e w6 ⟨rfl, hb6⟩
  have hb7 := hb5.trans (hb6.mono hb5.size)
  clear hT4 hb5 hb6 HV
  go_wp2
  go_ret
  exact ⟨rfl, hb7⟩
set_option maxHeartbeats 1000000 in
set_option maxRecDepth 100000 in
theorem width_bin_127_127_n (hu : (binAll op 0 1).2.2 = true) (hin : inVal op = 127) (ht : typVal op = ([127, 127], 127, true)) (h124 : ¬ 124 ≤ op) (htr : (binAll op a b).2.1 = 0) : Calls Tryd.prog 4 #[.int .i64 op, .int .u64 (a : Int), .int .u64 (b : Int), .int .u64 (c : Int), .int .u64 (d : Int)] w fun e w' => e = .returned (.bool true) ∧ Below w.heap.size w w' := by
  have _HX : Hid True := (fun _ _ _ _ => Lib.hid trivial) ha hb hu hin
  have HA := Lib.hid (awake_any D w hT)
  have HT := Lib.hid (fun W hW => D.typ op W ho hW)
  unfold Typ3 at HT
  rw [ht] at HT
  have HK := Lib.hid D.keep
  have HU := Lib.hid (fun W hW => D.bin op a b W ho ha hb hW)
  have HV := Lib.hid (fun W hW => D.bin op (mixN a c) (mixN b d) W ho (mix_lt a c) (mix_lt b d) hW)
  rw [bin_width op a b (mixN a c) (mixN b d) hu hin (mix_mod a c) (mix_mod b d)] at HV
  unfold Bin3 at HU HV
  have hn : (binAll op a b).1 < 4294967296 := bin_out op a b hu h124
  have hnd : decide ((((binAll op a b).1 : Nat) : Int) < 4294967296) = true := by simp; omega
  clear hn h124
  have htb : ((((binAll op a b).2.1 : Nat) : Int) == 0) = true := by simpa using htr
  clear htr
  generalize (binAll op a b).1 = n at *
  generalize (binAll op a b).2.1 = t at *
  generalize (binAll op a b).2.2 = ok at *
  have HM := Lib.hid (mix_eq a c ha)
  have HM2 := Lib.hid (mix_eq b d hb)
  generalize mixN a c = x at *
  generalize mixN b d = y at *
  clear D ha hb ho ht hu hin
  go_enter Tryd.func4, Tryd.ntmps4
  go_wp2_with fail
  refine HA.out.mono ?_
  rintro e w1 ⟨rfl, hb1⟩
  have hT1 := HK.out _ _ hT hb1
  go_wp2_with fail
  refine (HT.out _ hT1).mono ?_
  rintro e w2 ⟨A2, c2, rfl, hI2, hc2, hb2⟩
  have hT2 := HK.out _ _ hT1 hb2
  have hb3 := hb1.trans (hb2.mono hb1.size)
  clear hT1 hb1 hb2 HA HT
  obtain ⟨p, rfl, _, hp⟩ := hI2 (by simp)
  have hcell := hp 0 (by simp)
  simp only [List.getElem_cons_zero] at hcell
  clear hp hI2
  go_wp2_with fail
  refine (HU.out _ hT2).mono ?_
  rintro e w4 ⟨rfl, hb4⟩
  have hT4 := HK.out _ _ hT2 hb4
  have hb5 := hb3.trans (hb4.mono hb3.size)
  clear hT2 hb3 hb4 HU hcell
  go_wp2_with fail
  rw [HM.out, HM2.out]
  refine (HV.out _ hT4).mono ?_
  rintro e w6 ⟨rfl, hb6⟩
  have hb7 := hb5.trans (hb6.mono hb5.size)
  clear hT4 hb5 hb6 HV
  go_wp2
  go_ret
  exact ⟨rfl, hb7⟩
theorem width_law : Calls Tryd.prog 4 #[.int .i64 op, .int .u64 (a : Int), .int .u64 (b : Int), .int .u64 (c : Int), .int .u64 (d : Int)] w fun e w' => e = .returned (.bool true) ∧ Below w.heap.size w w' := by
  cases hu : (unVal op 0).2 with
  | true =>
    obtain ⟨o, ht, hoo⟩ := typ_un op hu
    rcases in_cases op with hin | hin
    · rw [hin] at ht
      rcases hoo with rfl | rfl
      · exact width_un_126_126 D op a b c d w hT ho ha hb hu hin ht
      · exact width_un_126_127 D op a b c d w hT ho ha hb hu hin ht
    · rw [hin] at ht
      rcases hoo with rfl | rfl
      · exact width_un_127_126 D op a b c d w hT ho ha hb hu hin ht
      · exact width_un_127_127 D op a b c d w hT ho ha hb hu hin ht
  | false =>
    cases hbn : (binAll op 0 1).2.2 with
    | true =>
      obtain ⟨o, ht, hoo⟩ := typ_bin op hu hbn
      rcases Decidable.em ((binAll op a b).2.1 = 0) with htr | htr
      · rcases in_cases op with hin | hin
        · rw [hin] at ht
          rcases hoo with rfl | ⟨rfl, h124⟩
          · exact width_bin_126_126_n D op a b c d w hT ho ha hb hbn hin ht htr
          · exact width_bin_126_127_n D op a b c d w hT ho ha hb hbn hin ht h124 htr
        · rw [hin] at ht
          rcases hoo with rfl | ⟨rfl, h124⟩
          · exact width_bin_127_126_n D op a b c d w hT ho ha hb hbn hin ht htr
          · exact width_bin_127_127_n D op a b c d w hT ho ha hb hbn hin ht h124 htr
      · rcases in_cases op with hin | hin
        · rw [hin] at ht
          rcases hoo with rfl | ⟨rfl, h124⟩
          · exact width_bin_126_126_t D op a b c d w hT ho ha hb hbn hin ht htr
          · exact width_bin_126_127_t D op a b c d w hT ho ha hb hbn hin ht h124 htr
        · rw [hin] at ht
          rcases hoo with rfl | ⟨rfl, h124⟩
          · exact width_bin_127_126_t D op a b c d w hT ho ha hb hbn hin ht htr
          · exact width_bin_127_127_t D op a b c d w hT ho ha hb hbn hin ht h124 htr
    | false => exact width_none D op a b c d w hT ho ha hb (typ_none op hu hbn)
end
end Go.Proofs.YtbgcafkdojoilaaDoor.Num
