/-
  trammellaw02.UtfNames answers true for every slice of bytes and every text. Conditions: the library's two tables of utf8 hold what they were laid with; the bytes lie in memory as a slice's cells.
-/
import Derived.Test.YteecpjaofekfdaaDoorUtfBackLaw
namespace Go.Proofs.YteecpjaofekfdaaDoor.Utf
open Go.RowKit Go.Proofs.YteecpjaofekfdaaDoor.Leb

theorem same_k (A A' : Option Addr) (l : List Nat) (c c' B B' k : Nat) (w : World) (hb : Bytes w B A l) (hb' : Bytes w B' A' l) (hk : l.length = k) (hlen : k ≤ 140737488355328) :
    Calls Tryd.prog 14 #[.slice A k c, .slice A' k c'] w fun e w' => e = .returned (.bool true) ∧ ∃ m, w' = w.drewN m := by
  subst hk
  exact same_any A A' l c c' B B' w hb hb' hlen
section
variable (A : Option Addr) (l : List Nat) (cap : Nat) (s : ByteArray) (w : World)
set_option maxHeartbeats 4000000 in
set_option maxRecDepth 100000 in
theorem names_form (hT : Tabs w) (hs : s.size ≤ 9223372036854775807) (hb : Bytes w w.heap.size A l) (hl : l.length ≤ cap) (hc : A = none → cap = 0)
    (hf : vld (bl (s.extract 0 (min (s.size : Int) 1000).toNat)) = false) :
    Calls Tryd.prog 4 #[.slice A l.length cap, .string s] w fun e w' => e = .returned (.bool true) ∧ Below w.heap.size w w' := by
  have HA := Lib.hid (awake_any w hT)
  have hB' := hb.take (min l.length 1000)
  have hm : (l.take (min l.length 1000)).length = min l.length 1000 := by rw [List.length_take]; omega
  have hmx : min l.length 1000 ≤ 1000 := Nat.min_le_right _ _
  have hml : min l.length 1000 ≤ l.length := Nat.min_le_left _ _
  have hcl := cut_len l.length 1000
  rw [show (((1000 : Nat) : Int)) = 1000 from rfl] at hcl
  have hsz := cut_size s 1000
  rw [show (((1000 : Nat) : Int)) = 1000 from rfl] at hsz
  generalize l.take (min l.length 1000) = l' at *
  have HL := Lib.hid hm
  have HC := Lib.hid hc
  have HF := Lib.hid hf
  have HCL := Lib.hid hcl
  have HSZ := Lib.hid hsz
  clear hm hb hc hf hcl hsz
  generalize l.length = len at *
  go_enter Tryd.func4, Tryd.ntmps4
  go_wp2_with (go_at_call 8; refine HA.out.mono ?_; rintro e w1 ⟨rfl, hb1⟩)
  go_quiet (fail)
  go_wp2_with fail
  have hcl := HCL.out
  rw [hcl]
  clear hcl HCL
  generalize min len 1000 = m at *
  generalize s.extract 0 (min (s.size : Int) 1000).toNat = s1 at *
  have hb2 := below_drewN hb1 nq
  generalize w1.drewN nq = w2 at *
  clear hb1 HA
  have hN := uname_any A l' cap w2 (hT.below hb2) ((hB'.below hb2).more hb2.size) (by rw [HL.out]; omega) (by rw [HL.out]; omega)
  have hR := fun W (hW : Below w.heap.size w W) => rname_any A l' cap W ((hB'.below hW).more hW.size) (by rw [HL.out]; omega) (by rw [HL.out]; omega)
  rw [HL.out] at hN hR
  unfold TellsN at hN hR
  generalize (nameRes l').1 = X at hN hR
  generalize (nameRes l').2.1 = Y at hN hR
  generalize (nameRes l').2.2 = Z at hN hR
  have HR := Lib.hid hR
  clear hR
  refine hN.mono ?_
  rintro e w3 ⟨rfl, hb3⟩
  have hb4 := hb2.trans (hb3.mono hb2.size)
  clear hN hb2 hb3
  go_wp2_with fail
  refine (HR.out _ hb4).mono ?_
  rintro e w5 ⟨rfl, hb5⟩
  have hb6 := hb4.trans (hb5.mono hb4.size)
  clear HR hb4 hb5
  have hszs : s1.size ≤ 1000 := HSZ.out
  go_wp2_with fail
  have hfa : faultOf (bl s1) = 2 := by unfold faultOf; rw [HF.out]; rfl
  refine (uput_not A m cap 2 s1 w5 (hT.below hb6) (by omega) hfa (by omega)).mono ?_
  rintro e w7 ⟨rfl, hb7⟩
  have hb8 := hb6.trans (hb7.mono hb6.size)
  have hV := valid_any s1 w7 (by omega)
  rw [HF.out] at hV
  clear hfa hb6 hb7
  go_wp2_with fail
  refine hV.mono ?_
  rintro e w9 ⟨rfl, hb9⟩
  have hb10 := hb8.trans (hb9.mono hb8.size)
  clear hV hb8 hb9
  go_wp2
  go_ret
  exact ⟨rfl, hb10⟩
set_option maxHeartbeats 4000000 in
set_option maxRecDepth 100000 in
theorem names_long (hT : Tabs w) (hs : s.size ≤ 9223372036854775807) (hb : Bytes w w.heap.size A l) (hl : l.length ≤ cap) (hc : A = none → cap = 0)
    (hf : vld (bl (s.extract 0 (min (s.size : Int) 1000).toNat)) = true ∧ 64 < (s.extract 0 (min (s.size : Int) 1000).toNat).size) :
    Calls Tryd.prog 4 #[.slice A l.length cap, .string s] w fun e w' => e = .returned (.bool true) ∧ Below w.heap.size w w' := by
  have HA := Lib.hid (awake_any w hT)
  have hB' := hb.take (min l.length 1000)
  have hm : (l.take (min l.length 1000)).length = min l.length 1000 := by rw [List.length_take]; omega
  have hmx : min l.length 1000 ≤ 1000 := Nat.min_le_right _ _
  have hml : min l.length 1000 ≤ l.length := Nat.min_le_left _ _
  have hcl := cut_len l.length 1000
  rw [show (((1000 : Nat) : Int)) = 1000 from rfl] at hcl
  have hsz := cut_size s 1000
  rw [show (((1000 : Nat) : Int)) = 1000 from rfl] at hsz
  generalize l.take (min l.length 1000) = l' at *
  have HL := Lib.hid hm
  have HC := Lib.hid hc
  have HF := Lib.hid hf
  have HCL := Lib.hid hcl
  have HSZ := Lib.hid hsz
  clear hm hb hc hf hcl hsz
  generalize l.length = len at *
  go_enter Tryd.func4, Tryd.ntmps4
  go_wp2_with (go_at_call 8; refine HA.out.mono ?_; rintro e w1 ⟨rfl, hb1⟩)
  go_quiet (fail)
  go_wp2_with fail
  have hcl := HCL.out
  rw [hcl]
  clear hcl HCL
  generalize min len 1000 = m at *
  generalize s.extract 0 (min (s.size : Int) 1000).toNat = s1 at *
  have hb2 := below_drewN hb1 nq
  generalize w1.drewN nq = w2 at *
  clear hb1 HA
  have hN := uname_any A l' cap w2 (hT.below hb2) ((hB'.below hb2).more hb2.size) (by rw [HL.out]; omega) (by rw [HL.out]; omega)
  have hR := fun W (hW : Below w.heap.size w W) => rname_any A l' cap W ((hB'.below hW).more hW.size) (by rw [HL.out]; omega) (by rw [HL.out]; omega)
  rw [HL.out] at hN hR
  unfold TellsN at hN hR
  generalize (nameRes l').1 = X at hN hR
  generalize (nameRes l').2.1 = Y at hN hR
  generalize (nameRes l').2.2 = Z at hN hR
  have HR := Lib.hid hR
  clear hR
  refine hN.mono ?_
  rintro e w3 ⟨rfl, hb3⟩
  have hb4 := hb2.trans (hb3.mono hb2.size)
  clear hN hb2 hb3
  go_wp2_with fail
  refine (HR.out _ hb4).mono ?_
  rintro e w5 ⟨rfl, hb5⟩
  have hb6 := hb4.trans (hb5.mono hb4.size)
  clear HR hb4 hb5
  have hszs : s1.size ≤ 1000 := HSZ.out
  go_wp2_with fail
  have hfa : faultOf (bl s1) = 4 := by unfold faultOf; rw [HF.out.1, bl_len, if_neg (by simp), if_pos HF.out.2]
  refine (uput_not A m cap 4 s1 w5 (hT.below hb6) (by omega) hfa (by omega)).mono ?_
  rintro e w7 ⟨rfl, hb7⟩
  have hb8 := hb6.trans (hb7.mono hb6.size)
  have hV := valid_any s1 w7 (by omega)
  rw [HF.out.1] at hV
  have h64 : (64 : Int) < (s1.size : Int) := by have := HF.out.2; omega
  clear hfa hb6 hb7
  go_wp2_with fail
  refine hV.mono ?_
  rintro e w9 ⟨rfl, hb9⟩
  have hb10 := hb8.trans (hb9.mono hb8.size)
  clear hV hb8 hb9
  go_wp2
  go_ret
  exact ⟨rfl, hb10⟩
set_option maxHeartbeats 4000000 in
set_option maxRecDepth 100000 in
theorem names_good (hT : Tabs w) (hs : s.size ≤ 9223372036854775807) (hb : Bytes w w.heap.size A l) (hl : l.length ≤ cap) (hc : A = none → cap = 0)
    (hf : faultOf (bl (s.extract 0 (min (s.size : Int) 1000).toNat)) = 0) :
    Calls Tryd.prog 4 #[.slice A l.length cap, .string s] w fun e w' => e = .returned (.bool true) ∧ Below w.heap.size w w' := by
  have HA := Lib.hid (awake_any w hT)
  have hB' := hb.take (min l.length 1000)
  have hm : (l.take (min l.length 1000)).length = min l.length 1000 := by rw [List.length_take]; omega
  have hmx : min l.length 1000 ≤ 1000 := Nat.min_le_right _ _
  have hml : min l.length 1000 ≤ l.length := Nat.min_le_left _ _
  have hcl := cut_len l.length 1000
  rw [show (((1000 : Nat) : Int)) = 1000 from rfl] at hcl
  have hsz := cut_size s 1000
  rw [show (((1000 : Nat) : Int)) = 1000 from rfl] at hsz
  generalize l.take (min l.length 1000) = l' at *
  have HL := Lib.hid hm
  have HC := Lib.hid hc
  have HF := Lib.hid hf
  have HCL := Lib.hid hcl
  have HSZ := Lib.hid hsz
  clear hm hb hc hf hcl hsz
  generalize l.length = len at *
  go_enter Tryd.func4, Tryd.ntmps4
  go_wp2_with (go_at_call 8; refine HA.out.mono ?_; rintro e w1 ⟨rfl, hb1⟩)
  go_quiet (fail)
  go_wp2_with fail
  have hcl := HCL.out
  rw [hcl]
  clear hcl HCL
  generalize min len 1000 = m at *
  generalize s.extract 0 (min (s.size : Int) 1000).toNat = s1 at *
  have hb2 := below_drewN hb1 nq
  generalize w1.drewN nq = w2 at *
  clear hb1 HA
  have hN := uname_any A l' cap w2 (hT.below hb2) ((hB'.below hb2).more hb2.size) (by rw [HL.out]; omega) (by rw [HL.out]; omega)
  have hR := fun W (hW : Below w.heap.size w W) => rname_any A l' cap W ((hB'.below hW).more hW.size) (by rw [HL.out]; omega) (by rw [HL.out]; omega)
  rw [HL.out] at hN hR
  unfold TellsN at hN hR
  generalize (nameRes l').1 = X at hN hR
  generalize (nameRes l').2.1 = Y at hN hR
  generalize (nameRes l').2.2 = Z at hN hR
  have HR := Lib.hid hR
  clear hR
  refine hN.mono ?_
  rintro e w3 ⟨rfl, hb3⟩
  have hb4 := hb2.trans (hb3.mono hb2.size)
  clear hN hb2 hb3
  go_wp2_with fail
  refine (HR.out _ hb4).mono ?_
  rintro e w5 ⟨rfl, hb5⟩
  have hb6 := hb4.trans (hb5.mono hb4.size)
  clear HR hb4 hb5
  have hszs : s1.size ≤ 1000 := HSZ.out
  go_wp2_with fail
  obtain ⟨h64, hv⟩ := fault_size s1 HF.out
  obtain ⟨k, hk⟩ : ∃ k, (l' ++ putU s1.size ++ bl s1).length = k := ⟨_, rfl⟩
  have hkb : k ≤ 2000 := by have := (putUf_len 9 s1.size).2; rw [← hk, List.length_append, List.length_append, HL.out, bl_len]; unfold putU; omega
  obtain ⟨q, hq⟩ : ∃ q, (putU s1.size ++ bl s1).length = q := ⟨_, rfl⟩
  have hq0 : 0 < q := by have := (putUf_len 9 s1.size).1; rw [← hq, List.length_append]; unfold putU; omega
  have hP := uput_any A l' cap k s1 w5 (hT.below hb6) ((hB'.below hb6).more hb6.size) HC.out (by rw [HL.out]; omega) (by omega) HF.out hk
  rw [HL.out] at hP
  refine hP.mono ?_
  rintro e w7 ⟨A7, c7, rfl, -, hB7, -, -, hb7⟩
  have hb8 := hb6.trans (hb7.mono hb6.size)
  have hV := valid_any s1 w7 (by omega)
  rw [hv] at hV
  have h64i : ¬ (64 : Int) < (s1.size : Int) := by omega
  have HK := Lib.hid hk
  have HQ := Lib.hid hq
  have HY := Lib.hid (fun W (hW : Below w.heap.size w W) => gives_b (copy_any A l' cap W ((hB'.below hW).more hW.size) HC.out (by rw [HL.out]; omega)) hB'.1 HL.out)
  have hYl := HY.out
  rw [HL.out] at hYl
  have HYL := Lib.hid hYl
  clear hP hb6 hb7 hk hq hYl HY hv
  go_wp2_with fail
  refine hV.mono ?_
  rintro e w9 ⟨rfl, hb9⟩
  have hb10 := hb8.trans (hb9.mono hb8.size)
  have hB9 := (hB7.below hb9).more hb9.size
  clear hV hb8 hb9 hB7
  go_wp2_with fail
  refine (HYL.out _ hb10).mono ?_
  rintro e w11 ⟨A11, c11, rfl, ho11, -, -, -, hb11⟩
  have hb12 := hb10.trans (hb11.mono hb10.size)
  go_wp2_with fail
  refine (rbytes_any s1 q w11 (by omega) HQ.out).mono ?_
  rintro e w13 ⟨A13, c13, rfl, -, hB13, -, -, hb13⟩
  have hb14 := hb12.trans (hb13.mono hb12.size)
  have hb914 := hb11.trans (hb13.mono hb11.size)
  have ho13 := ho11.keep hb13 ho11.lt
  have HKK : Hid ((l' ++ (putU s1.size ++ bl s1)).length = k) := Lib.hid (by rw [← List.append_assoc]; exact HK.out)
  clear ho11 hb11 hb13 hb12 HYL HK
  go_wp2_with (at_builtin; refine app_guarded (by rfl) (.tmp 82) (.tmp 84) rfl _ _ l' rfl ho13 hB'.1 A13 (putU s1.size ++ bl s1) q c13 w13.heap.size k HQ.out rfl hB13 hq0 HKK.out (by omega) hb914.size ?_; intro A15 c15 w15 ho15 hB15 hc15 hn15 hb15)
  have hb16 := hb14.trans (hb15.mono hb10.size)
  have hb916 := hb914.trans hb15
  rw [List.append_assoc] at hB9
  refine (same_k A7 A15 (l' ++ (putU s1.size ++ bl s1)) c7 c15 _ _ k w15 (hB9.below hb916) hB15 HKK.out (by omega)).mono ?_
  rintro e w17 ⟨rfl, d, rfl⟩
  have hb18 := below_drewN hb16 d
  clear ho13 ho15 hB15 hB13 hB9 hb914 hb916 hb15 hb14 hb10 hb16
  go_wp2
  go_ret
  exact ⟨rfl, hb18⟩
theorem names_law (hT : Tabs w) (hs : s.size ≤ 9223372036854775807) (hb : Bytes w w.heap.size A l) (hl : l.length ≤ cap) (hc : A = none → cap = 0) :
    Calls Tryd.prog 4 #[.slice A l.length cap, .string s] w fun e w' => e = .returned (.bool true) ∧ Below w.heap.size w w' := by
  cases hv : vld (bl (s.extract 0 (min (s.size : Int) 1000).toNat)) with
  | false => exact names_form A l cap s w hT hs hb hl hc hv
  | true =>
    by_cases h64 : 64 < (s.extract 0 (min (s.size : Int) 1000).toNat).size
    · exact names_long A l cap s w hT hs hb hl hc ⟨hv, h64⟩
    · exact names_good A l cap s w hT hs hb hl hc (by unfold faultOf; rw [hv, bl_len, if_neg (by simp), if_neg h64])
end
end Go.Proofs.YteecpjaofekfdaaDoor.Utf
