/-
  trammellaw02.UtfBack answers true for every text and every slice of bytes behind it. Conditions: the library's two tables of utf8 hold what they were laid with; the bytes lie in memory as a slice's cells.
-/
import Derived.Test.YteecpjaofekfdaaDoorUtfRightLaw
import Derived.Test.YteecpjaofekfdaaDoorLebBackU
namespace Go.Proofs.YteecpjaofekfdaaDoor.Utf
open Go.RowKit Go.Proofs.YteecpjaofekfdaaDoor.Leb

theorem strOf_bl (s : ByteArray) : strOf (bl s) = s := by
  apply ByteArray.ext
  apply Array.ext'
  unfold strOf
  rw [strOfNums_data]
  unfold bl
  rw [List.map_map, List.map_map]
  conv => rhs; rw [← List.map_id s.data.toList]
  apply List.map_congr_left
  intro x _
  simp [Function.comp]
theorem fault_size (s : ByteArray) (h : faultOf (bl s) = 0) : s.size ≤ 64 ∧ vld (bl s) = true := by
  unfold faultOf at h
  rw [bl_len] at h
  cases hv : vld (bl s) with
  | false => rw [hv, if_pos rfl] at h; omega
  | true =>
    rw [hv, if_neg (by simp)] at h
    by_cases h64 : 64 < s.size
    · rw [if_pos h64] at h; omega
    · exact ⟨by omega, rfl⟩
/-- A name is read as it was put. -/
theorem name_put (s : ByteArray) (more : List Nat) (h : faultOf (bl s) = 0) : nameRes (putU s.size ++ bl s ++ more) = (s, (putU s.size ++ bl s).length, 0) := by
  obtain ⟨h64, hv⟩ := fault_size s h
  have hu := uRes_put s.size 32 (bl s ++ more) (by omega) (by omega) (by omega)
  rw [← List.append_assoc] at hu
  have hd : ((putU s.size ++ bl s ++ more).drop (putU s.size).length).take s.size = bl s := by
    rw [List.append_assoc, List.drop_left, ← bl_len s, List.take_left]
  unfold nameRes
  rw [hu]
  simp only
  rw [hd, if_neg (by simp), if_neg (by simp only [List.length_append, bl_len]; omega), if_neg (by rw [hv]; simp), if_neg (by omega), strOf_bl, List.length_append, bl_len]
set_option maxHeartbeats 2000000 in
theorem back_not (s : ByteArray) (A : Option Addr) (len cap : Nat) (w : World) (hT : Tabs w) (hs : s.size ≤ 9223372036854775807) (hl : len ≤ cap) (hf : faultOf (bl s) ≠ 0) :
    Calls Tryd.prog 5 #[.string s, .slice A len cap] w fun e w' => e = .returned (.bool true) ∧ Below w.heap.size w w' := by
  have HA := Lib.hid (awake_any w hT)
  go_enter Tryd.func5, Tryd.ntmps5
  go_wp2_with (go_at_call 8; refine HA.out.mono ?_; rintro e w1 ⟨rfl, hb1⟩)
  refine (uput_not none 0 0 _ s w1 (hT.below hb1) hs rfl hf).mono ?_
  rintro e w2 ⟨rfl, hb2⟩
  have hb3 := hb1.trans (hb2.mono hb1.size)
  have hne : (((faultOf (bl s) : Nat) : Int) != 0) = true := by simp; omega
  generalize ((faultOf (bl s) : Nat) : Int) = E at *
  clear HA hf
  go_wp2
  go_ret
  exact ⟨rfl, hb3⟩
theorem cut_len (len m : Nat) : (min (len : Int) (m : Int)).toNat = min len m := by omega
set_option maxHeartbeats 2000000 in
theorem back_yes (s : ByteArray) (A : Option Addr) (l : List Nat) (cap k : Nat) (w : World) (hT : Tabs w) (hs : s.size ≤ 9223372036854775807) (hb : Bytes w w.heap.size A l) (hl : l.length ≤ cap) (hc : A = none → cap = 0)
    (hf : faultOf (bl s) = 0) (hk : (putU s.size ++ bl s).length = k) :
    Calls Tryd.prog 5 #[.string s, .slice A l.length cap] w fun e w' => e = .returned (.bool true) ∧ Below w.heap.size w w' := by
  have HA := Lib.hid (awake_any w hT)
  have HN := Lib.hid (fun more => name_put s more hf)
  have hsz := (fault_size s hf).1
  have hkb : k ≤ 100 := by have := (putUf_len 9 s.size).2; rw [← hk, List.length_append, bl_len]; unfold putU; omega
  have hB' := hb.take (min l.length 1000)
  have hm : (l.take (min l.length 1000)).length = min l.length 1000 := by rw [List.length_take]; omega
  have hmx : min l.length 1000 ≤ 1000 := Nat.min_le_right _ _
  have hcl := cut_len l.length 1000
  rw [show (((1000 : Nat) : Int)) = 1000 from rfl] at hcl
  generalize l.take (min l.length 1000) = l' at *
  have HL := Lib.hid hm
  have HC := Lib.hid hc
  have HK := Lib.hid hk
  have HF := Lib.hid hf
  have HCL := Lib.hid hcl
  clear hm hb hc hk hf hcl
  generalize l.length = len at *
  go_enter Tryd.func5, Tryd.ntmps5
  go_wp2_with (go_at_call 8; refine HA.out.mono ?_; rintro e w1 ⟨rfl, hb1⟩)
  have hcl := HCL.out
  rw [hcl]
  clear hcl HCL
  generalize min len 1000 = m at *
  refine (uput_any none [] 0 k s w1 (hT.below hb1) (bytes_nil w1) (fun _ => rfl) (by simp) hs HF.out HK.out).mono ?_
  rintro e w2 ⟨A2, c2, rfl, ho2, hB2, hn2, hc2, hb2⟩
  have hb3 := hb1.trans (hb2.mono hb1.size)
  obtain ⟨q, hq⟩ : ∃ q, q = k + m := ⟨_, rfl⟩
  have HQ : Hid ((putU s.size ++ bl s ++ l').length = q) := Lib.hid (by rw [List.length_append, HK.out, HL.out, hq])
  have hqb : q ≤ 2000 := by omega
  have HB8 : Hid (∀ y ∈ putU s.size ++ bl s, y < 256) := Lib.hid (fun y hy => (List.mem_append.1 hy).elim (putUf_byte 9 s.size y) (bl_byte s y))
  clear hq HA
  go_wp2_with (at_builtin; refine app_slice rfl (.tmp 28) (.tmp 29) rfl _ _ (putU s.size ++ bl s) rfl ho2 HB8.out A l' m cap w.heap.size q HL.out rfl (hB'.below hb3) HC.out HQ.out (by omega) hb2.size ?_; intro A4 c4 w4 ho4 hB4 hc4 hn4 hb4)
  have hb5 := hb3.trans (hb4.mono hb1.size)
  have hN := uname_any A4 (putU s.size ++ bl s ++ l') c4 w4 (hT.below hb5) hB4 (by rw [HQ.out]; exact hc4) (by rw [HQ.out]; omega)
  rw [HN.out, HQ.out, HK.out] at hN
  refine hN.mono ?_
  rintro e w6 ⟨rfl, hb6⟩
  have hb7 := hb5.trans (hb6.mono hb5.size)
  clear hN ho2 ho4 hB2 hB4 hb1 hb2 hb3 hb4 hb5 hb6 hT hB' HN HQ HB8 HK HL HC HF
  go_wp2
  go_ret
  exact ⟨rfl, hb7⟩
theorem back_law (s : ByteArray) (A : Option Addr) (l : List Nat) (cap : Nat) (w : World) (hT : Tabs w) (hs : s.size ≤ 9223372036854775807) (hb : Bytes w w.heap.size A l) (hl : l.length ≤ cap) (hc : A = none → cap = 0) :
    Calls Tryd.prog 5 #[.string s, .slice A l.length cap] w fun e w' => e = .returned (.bool true) ∧ Below w.heap.size w w' := by
  by_cases hf : faultOf (bl s) = 0
  · exact back_yes s A l cap _ w hT hs hb hl hc hf rfl
  · exact back_not s A l.length cap w hT hs hl hf
end Go.Proofs.YteecpjaofekfdaaDoor.Utf
