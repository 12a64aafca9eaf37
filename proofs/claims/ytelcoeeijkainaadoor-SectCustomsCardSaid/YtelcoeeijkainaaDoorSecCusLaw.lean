/-
  trammellaw07.SectCustoms returns true. Conditions: the library's two tables of utf8 hold what they were laid with; the slices lead to bytes. (Written by wip/tools/gencus.py.)
-/
import Derived.Test.YtelcoeeijkainaaDoorSecCus
import Derived.Deep.DeepCutAuto
namespace Go.Proofs.YtelcoeeijkainaaDoor.Sec
open Go.RowKit Leb Utf

theorem Slc.cutC {w : World} {B : Nat} {A : Option Addr} {c : Nat} {l : List Nat} (h : Slc w B A c l) (m : Nat) : Slc w B A c (l.take m) := ⟨h.bytes.take m, h.nil, by have := h.room; simp; omega⟩
theorem cus_put (s : ByteArray) (bs : List Nat) (h : faultOf (bl s) = 0) : cusRes (putU s.size ++ bl s ++ bs) = (s, bs, 0) := by
  unfold cusRes
  rw [name_put s bs h]
  simp only [if_true, List.drop_left]
section
variable (A Ac : Option Addr) (len c nc cc m : Nat) (s : ByteArray) (w : World) (hm : min (len : Int) 3000 = (m : Int))
include hm
set_option maxHeartbeats 1000000 in
set_option maxRecDepth 100000 in
theorem customs_big (hmc : m ≤ c) (h : 1000 < (s.size : Int) ∨ 3000 < (nc : Int)) :
    Calls Tryd.prog 3 #[.slice A len c, .agg #[.string s, .slice Ac nc cc]] w fun e w' => e = .returned (.bool true) ∧ Below w.heap.size w w' := by
  have HA : Hid (Calls Tryd.prog 4 #[] (w.alloc (.cells #[.string s, .slice Ac nc cc] 24)) fun e w' => e = .returned (.bool true) ∧ Below (w.alloc (.cells #[.string s, .slice Ac nc cc] 24)).heap.size (w.alloc (.cells #[.string s, .slice Ac nc cc] 24)) w') := Lib.hid (awake_any _)
  have HB0 : Hid (Below w.heap.size w (w.alloc (.cells #[.string s, .slice Ac nc cc] 24))) := Lib.hid ((Below.refl _ _).alloc (Nat.le_refl _) _)
  have HBX0 := Lib.hid (BoxC.new w 24 (.string s) (.slice Ac nc cc))
  have H := Lib.hid h
  clear h
  go_enter Tryd.func3, Tryd.ntmps3
  go_upto_region 3 with (go_at_call 4; refine HA.out.mono ?_; rintro e w1 ⟨rfl, hb1⟩)
  go_cut [0] (fun s0 wx => s0 = .slice A m c ∧ wx = w1)
  case first =>
    by_cases hs : (len : Int) ≤ 3000
    · obtain rfl : len = m := by omega
      go_wp2
      go_meet
      exact ⟨rfl, rfl⟩
    · obtain rfl : m = 3000 := by omega
      go_wp2
      go_meet
      exact ⟨rfl, rfl⟩
  case rest =>
    obtain ⟨rfl, rfl⟩ := hcut
    have HB1 := Lib.hid (HB0.out.trans (hb1.mono HB0.out.size))
    have HBX1 := Lib.hid (HBX0.out.keep hb1)
    clear hm HA hb1 HB0 HBX0
    obtain ⟨b0, b1, b2, b3, b4⟩ := HBX1.out
    by_cases h1 : (1000 : Int) < (s.size : Int)
    · clear H
      go_wp2
      go_ret
      exact ⟨rfl, HB1.out⟩
    · have h2 := H.out.resolve_left h1
      clear H
      go_wp2
      go_ret
      exact ⟨rfl, HB1.out⟩
variable (hT : Tabs w) (l bs : List Nat) (hl : l.length = m) (hx : m ≤ 3000) (hmc : m ≤ c) (hs : Slc w w.heap.size A c l) (hc : Slc w w.heap.size Ac cc bs) (hnc : bs.length = nc) (hsz : s.size ≤ 1000) (hnl : nc ≤ 3000)
include hT hl hx hmc hs hc hnc hsz hnl
set_option maxHeartbeats 4000000 in
set_option maxRecDepth 100000 in
theorem customs_bad (f : Nat) (hf : faultOf (bl s) = f) (hf0 : f ≠ 0) :
    Calls Tryd.prog 3 #[.slice A len c, .agg #[.string s, .slice Ac nc cc]] w fun e w' => e = .returned (.bool true) ∧ Below w.heap.size w w' := by
  have HP : Hid (∀ W, Below w.heap.size w W → Calls Tryd.prog 8 #[.agg #[.string s, .slice Ac nc cc]] W (PutCIs W [] 0 f)) := Lib.hid fun W hW => putc_not s Ac nc cc f W (hT.below hW) (by omega) hf hf0
  have HV : Hid (∀ W, Calls Tryd.prog 9 #[.string s] W fun e w' => e = .returned (.bool (vld (bl s))) ∧ Below W.heap.size W w') := Lib.hid fun W => valid_any s W (by omega)
  have HF : Hid (vld (bl s) = true → (64 : Int) < (s.size : Int)) := Lib.hid fun h => by
    by_cases h64 : 64 < s.size
    · omega
    · exfalso
      apply hf0
      rw [← hf]
      unfold faultOf
      rw [h, bl_len, if_neg (by simp), if_neg h64]
  have hfne : ((f : Int) != 0) = true := by simp; omega
  generalize vld (bl s) = vb at *
  clear hf hf0
  have HX := Lib.hid hx
  have HA : Hid (Calls Tryd.prog 4 #[] (w.alloc (.cells #[.string s, .slice Ac nc cc] 24)) fun e w' => e = .returned (.bool true) ∧ Below (w.alloc (.cells #[.string s, .slice Ac nc cc] 24)).heap.size (w.alloc (.cells #[.string s, .slice Ac nc cc] 24)) w') := Lib.hid (awake_any _)
  have HB0 : Hid (Below w.heap.size w (w.alloc (.cells #[.string s, .slice Ac nc cc] 24))) := Lib.hid ((Below.refl _ _).alloc (Nat.le_refl _) _)
  have HBX0 := Lib.hid (BoxC.new w 24 (.string s) (.slice Ac nc cc))
  have HTT := Lib.hid hT
  have HS := Lib.hid hs
  have HC := Lib.hid hc
  have hO := fun W (hW : Below w.heap.size w W) => custom_any A l c W (hT.below hW) ((hs.below hW).more hW.size) (by omega)
  have hR := fun W (hW : Below w.heap.size w W) => rcustom_any A l c W ((hs.below hW).more hW.size) (by omega)
  rw [hl] at hO hR
  obtain ⟨x, rb, k, hcr⟩ : ∃ x rb k, cusRes l = (x, rb, k) := ⟨_, _, _, rfl⟩
  rw [hcr] at hO hR
  simp only at hO hR
  obtain ⟨rn, hrn⟩ : ∃ rn, rb.length = rn := ⟨_, rfl⟩
  have hrl : rn ≤ 3000 := by
    have h : rb = (cusRes l).2.1 := by rw [hcr]
    rw [← hrn, h]
    unfold cusRes
    simp only
    split
    · rw [List.length_drop]; omega
    · simp
  rw [hrn] at hO hR
  have HO := Lib.hid hO
  have HR := Lib.hid hR
  have HSM : Hid (∀ W A1 c1 A2 c2, Slc W W.heap.size A1 c1 rb → Slc W W.heap.size A2 c2 rb → Calls Tryd.prog 7 #[.slice A1 rn c1, .slice A2 rn c2] W (fun e w' => e = .returned (.bool true) ∧ ∃ m, w' = W.drewN m)) := Lib.hid fun W A1 c1 A2 c2 h1 h2 => by
    have := same_any A1 A2 rb c1 c2 W.heap.size W.heap.size W h1.bytes h2.bytes (by omega)
    rwa [hrn] at this
  have HNC := Lib.hid hnc
  have hs1 : ¬ (1000 : Int) < (s.size : Int) := by omega
  have hn1 : ¬ (3000 : Int) < (nc : Int) := by omega
  have HSZ : Hid (s.size ≤ 1000 ∧ nc ≤ 3000) := Lib.hid ⟨hsz, hnl⟩
  clear hO hR hcr hrn hs hc hT hl hrl hnc hx hsz hnl
  go_enter Tryd.func3, Tryd.ntmps3
  go_upto_region 3 with (go_at_call 4; refine HA.out.mono ?_; rintro e w1 ⟨rfl, hb1⟩)
  go_cut [0] (fun s0 wx => s0 = .slice A m c ∧ wx = w1)
  case first =>
    by_cases hs : (len : Int) ≤ 3000
    · obtain rfl : len = m := by omega
      go_wp2
      go_meet
      exact ⟨rfl, rfl⟩
    · obtain rfl : m = 3000 := by omega
      go_wp2
      go_meet
      exact ⟨rfl, rfl⟩
  case rest =>
    obtain ⟨rfl, rfl⟩ := hcut
    have HB1 := Lib.hid (HB0.out.trans (hb1.mono HB0.out.size))
    have HBX1 := Lib.hid (HBX0.out.keep hb1)
    clear hm HA hb1 HB0 HBX0
    obtain ⟨b0, b1, b2, b3, b4⟩ := HBX1.out
    go_wp2_with fail
    refine (HO.out _ HB1.out).mono ?_
    rintro e w2 ⟨A2, c2, rfl, hs2, _, hb2⟩
    have hal : Below w2.heap.size w2 (w2.alloc (.cells #[.string x, .slice A2 rn c2] 24)) := (Below.refl _ _).alloc (Nat.le_refl _) _
    have hb3 := hb2.trans (hal.mono hb2.size)
    have HB3 := Lib.hid (HB1.out.trans (hb3.mono HB1.out.size))
    have HBX3 := Lib.hid (HBX1.out.keep hb3)
    have HBY3 := Lib.hid (BoxC.new w2 24 (.string x) (.slice A2 rn c2))
    have HS3 := Lib.hid ((hs2.below hal).more hal.size)
    clear hs2 hb2 hal hb3 HB1 HBX1 HO b0 b1 b2 b3 b4
    go_wp2_with fail
    refine (HR.out _ HB3.out).mono ?_
    rintro e w4 ⟨A4, c4, rfl, hs4, _, hb4⟩
    have HB4 := Lib.hid (HB3.out.trans (hb4.mono HB3.out.size))
    have HBX4 := Lib.hid (HBX3.out.keep hb4)
    have HBY4 := Lib.hid (HBY3.out.keep hb4)
    have HS4 := Lib.hid (And.intro ((HS3.out.below hb4).more hb4.size) hs4)
    clear hs4 hb4 HB3 HBX3 HBY3 HS3 HR
    have hkk : ((k : Int) != (k : Int)) = false := by simp
    obtain ⟨b0, b1, b2, b3, b4⟩ := HBX4.out
    obtain ⟨e0, e1, e2, e3, e4⟩ := HBY4.out
    go_wp2_with fail
    refine (HSM.out _ _ _ _ _ HS4.out.1 HS4.out.2).mono ?_
    rintro e w5 ⟨rfl, m5, rfl⟩
    have hd := below_drewN (Below.refl w4.heap.size w4) m5
    have HB5 := Lib.hid (HB4.out.trans (hd.mono HB4.out.size))
    have HBX5 := Lib.hid (HBX4.out.keep hd)
    clear hd HB4 HBX4 HBY4 HS4 HSM e0 e1 e2 e3 e4 b0 b1 b2 b3 b4
    generalize w4.drewN m5 = w6 at *
    obtain ⟨b0, b1, b2, b3, b4⟩ := HBX5.out
    go_wp2_with fail
    refine (HP.out _ HB5.out).mono ?_
    rintro e w7 ⟨A7, c7, rfl, _, _, hb7⟩
    have HB7 := Lib.hid (HB5.out.trans (hb7.mono HB5.out.size))
    have HBX7 := Lib.hid (HBX5.out.keep hb7)
    clear hb7 HB5 HBX5 HP b0 b1 b2 b3 b4
    obtain ⟨b0, b1, b2, b3, b4⟩ := HBX7.out
    go_wp2_with fail
    refine (HV.out _).mono ?_
    rintro e w8 ⟨rfl, hb8⟩
    have HB8 := Lib.hid (HB7.out.trans (hb8.mono HB7.out.size))
    have HBX8 := Lib.hid (HBX7.out.keep hb8)
    clear hb8 HB7 HBX7 HV b0 b1 b2 b3 b4
    obtain ⟨b0, b1, b2, b3, b4⟩ := HBX8.out
    cases vb with
    | false =>
      go_wp2
      go_ret
      exact ⟨rfl, HB8.out⟩
    | true =>
      have h64 := HF.out rfl
      go_wp2
      go_ret
      exact ⟨rfl, HB8.out⟩
set_option maxHeartbeats 4000000 in
set_option maxRecDepth 100000 in
theorem customs_good (hf : faultOf (bl s) = 0) :
    Calls Tryd.prog 3 #[.slice A len c, .agg #[.string s, .slice Ac nc cc]] w fun e w' => e = .returned (.bool true) ∧ Below w.heap.size w w' := by
  obtain ⟨h64, hv⟩ := fault_size s hf
  obtain ⟨om, hom⟩ : ∃ om, (putU s.size ++ bl s ++ bs).length = om := ⟨_, rfl⟩
  have homb : om ≤ 10000 := by
    have hp := (putUf_len 9 s.size).2
    have : (putU s.size).length ≤ 10 := hp
    rw [← hom, List.length_append, List.length_append, bl_len, hnc]
    omega
  have HP : Hid (∀ W, Below w.heap.size w W → Calls Tryd.prog 8 #[.agg #[.string s, .slice Ac nc cc]] W (PutCIs W (putU s.size ++ bl s ++ bs) om 0)) := Lib.hid fun W hW => putc_ok s Ac bs nc cc om W (hT.below hW) (by omega) hf ((hc.below hW).more hW.size) hnc (by omega) hom
  have HV : Hid (∀ W, Calls Tryd.prog 9 #[.string s] W fun e w' => e = .returned (.bool true) ∧ Below W.heap.size W w') := Lib.hid fun W => by
    have := valid_any s W (by omega)
    rwa [hv] at this
  have HO2 : Hid (∀ W A1 c1, Below w.heap.size w W → Slc W W.heap.size A1 c1 (putU s.size ++ bl s ++ bs) → Calls Tryd.prog 5 #[.slice A1 om c1] W (CusIs W s bs nc 0)) := Lib.hid fun W A1 c1 hW h => by
    have := custom_any A1 _ c1 W (hT.below hW) h (by omega)
    rw [cus_put s bs hf, hom] at this
    simp only [hnc] at this
    exact this
  have HSM2 : Hid (∀ W A1 c1 A2 c2, Slc W W.heap.size A1 c1 bs → Slc W W.heap.size A2 c2 bs → Calls Tryd.prog 7 #[.slice A1 nc c1, .slice A2 nc c2] W (fun e w' => e = .returned (.bool true) ∧ ∃ m, w' = W.drewN m)) := Lib.hid fun W A1 c1 A2 c2 h1 h2 => by
    have := same_any A1 A2 bs c1 c2 W.heap.size W.heap.size W h1.bytes h2.bytes (by omega)
    rwa [hnc] at this
  have h64i : ¬ (64 : Int) < (s.size : Int) := by omega
  generalize putU s.size ++ bl s ++ bs = ob at *
  clear hf hom homb hv h64
  have HX := Lib.hid hx
  have HA : Hid (Calls Tryd.prog 4 #[] (w.alloc (.cells #[.string s, .slice Ac nc cc] 24)) fun e w' => e = .returned (.bool true) ∧ Below (w.alloc (.cells #[.string s, .slice Ac nc cc] 24)).heap.size (w.alloc (.cells #[.string s, .slice Ac nc cc] 24)) w') := Lib.hid (awake_any _)
  have HB0 : Hid (Below w.heap.size w (w.alloc (.cells #[.string s, .slice Ac nc cc] 24))) := Lib.hid ((Below.refl _ _).alloc (Nat.le_refl _) _)
  have HBX0 := Lib.hid (BoxC.new w 24 (.string s) (.slice Ac nc cc))
  have HTT := Lib.hid hT
  have HS := Lib.hid hs
  have HC := Lib.hid hc
  have hO := fun W (hW : Below w.heap.size w W) => custom_any A l c W (hT.below hW) ((hs.below hW).more hW.size) (by omega)
  have hR := fun W (hW : Below w.heap.size w W) => rcustom_any A l c W ((hs.below hW).more hW.size) (by omega)
  rw [hl] at hO hR
  obtain ⟨x, rb, k, hcr⟩ : ∃ x rb k, cusRes l = (x, rb, k) := ⟨_, _, _, rfl⟩
  rw [hcr] at hO hR
  simp only at hO hR
  obtain ⟨rn, hrn⟩ : ∃ rn, rb.length = rn := ⟨_, rfl⟩
  have hrl : rn ≤ 3000 := by
    have h : rb = (cusRes l).2.1 := by rw [hcr]
    rw [← hrn, h]
    unfold cusRes
    simp only
    split
    · rw [List.length_drop]; omega
    · simp
  rw [hrn] at hO hR
  have HO := Lib.hid hO
  have HR := Lib.hid hR
  have HSM : Hid (∀ W A1 c1 A2 c2, Slc W W.heap.size A1 c1 rb → Slc W W.heap.size A2 c2 rb → Calls Tryd.prog 7 #[.slice A1 rn c1, .slice A2 rn c2] W (fun e w' => e = .returned (.bool true) ∧ ∃ m, w' = W.drewN m)) := Lib.hid fun W A1 c1 A2 c2 h1 h2 => by
    have := same_any A1 A2 rb c1 c2 W.heap.size W.heap.size W h1.bytes h2.bytes (by omega)
    rwa [hrn] at this
  have HNC := Lib.hid hnc
  have hs1 : ¬ (1000 : Int) < (s.size : Int) := by omega
  have hn1 : ¬ (3000 : Int) < (nc : Int) := by omega
  have HSZ : Hid (s.size ≤ 1000 ∧ nc ≤ 3000) := Lib.hid ⟨hsz, hnl⟩
  clear hO hR hcr hrn hs hc hT hl hrl hnc hx hsz hnl
  go_enter Tryd.func3, Tryd.ntmps3
  go_upto_region 3 with (go_at_call 4; refine HA.out.mono ?_; rintro e w1 ⟨rfl, hb1⟩)
  go_cut [0] (fun s0 wx => s0 = .slice A m c ∧ wx = w1)
  case first =>
    by_cases hs : (len : Int) ≤ 3000
    · obtain rfl : len = m := by omega
      go_wp2
      go_meet
      exact ⟨rfl, rfl⟩
    · obtain rfl : m = 3000 := by omega
      go_wp2
      go_meet
      exact ⟨rfl, rfl⟩
  case rest =>
    obtain ⟨rfl, rfl⟩ := hcut
    have HB1 := Lib.hid (HB0.out.trans (hb1.mono HB0.out.size))
    have HBX1 := Lib.hid (HBX0.out.keep hb1)
    clear hm HA hb1 HB0 HBX0
    obtain ⟨b0, b1, b2, b3, b4⟩ := HBX1.out
    go_wp2_with fail
    refine (HO.out _ HB1.out).mono ?_
    rintro e w2 ⟨A2, c2, rfl, hs2, _, hb2⟩
    have hal : Below w2.heap.size w2 (w2.alloc (.cells #[.string x, .slice A2 rn c2] 24)) := (Below.refl _ _).alloc (Nat.le_refl _) _
    have hb3 := hb2.trans (hal.mono hb2.size)
    have HB3 := Lib.hid (HB1.out.trans (hb3.mono HB1.out.size))
    have HBX3 := Lib.hid (HBX1.out.keep hb3)
    have HBY3 := Lib.hid (BoxC.new w2 24 (.string x) (.slice A2 rn c2))
    have HS3 := Lib.hid ((hs2.below hal).more hal.size)
    clear hs2 hb2 hal hb3 HB1 HBX1 HO b0 b1 b2 b3 b4
    go_wp2_with fail
    refine (HR.out _ HB3.out).mono ?_
    rintro e w4 ⟨A4, c4, rfl, hs4, _, hb4⟩
    have HB4 := Lib.hid (HB3.out.trans (hb4.mono HB3.out.size))
    have HBX4 := Lib.hid (HBX3.out.keep hb4)
    have HBY4 := Lib.hid (HBY3.out.keep hb4)
    have HS4 := Lib.hid (And.intro ((HS3.out.below hb4).more hb4.size) hs4)
    clear hs4 hb4 HB3 HBX3 HBY3 HS3 HR
    have hkk : ((k : Int) != (k : Int)) = false := by simp
    obtain ⟨b0, b1, b2, b3, b4⟩ := HBX4.out
    obtain ⟨e0, e1, e2, e3, e4⟩ := HBY4.out
    go_wp2_with fail
    refine (HSM.out _ _ _ _ _ HS4.out.1 HS4.out.2).mono ?_
    rintro e w5 ⟨rfl, m5, rfl⟩
    have hd := below_drewN (Below.refl w4.heap.size w4) m5
    have HB5 := Lib.hid (HB4.out.trans (hd.mono HB4.out.size))
    have HBX5 := Lib.hid (HBX4.out.keep hd)
    clear hd HB4 HBX4 HBY4 HS4 HSM e0 e1 e2 e3 e4 b0 b1 b2 b3 b4
    generalize w4.drewN m5 = w6 at *
    obtain ⟨b0, b1, b2, b3, b4⟩ := HBX5.out
    go_wp2_with fail
    refine (HP.out _ HB5.out).mono ?_
    rintro e w7 ⟨A7, c7, rfl, hs7, _, hb7⟩
    have HB7 := Lib.hid (HB5.out.trans (hb7.mono HB5.out.size))
    have HBX7 := Lib.hid (HBX5.out.keep hb7)
    have HS7 := Lib.hid hs7
    clear hb7 hs7 HB5 HBX5 HP b0 b1 b2 b3 b4
    obtain ⟨b0, b1, b2, b3, b4⟩ := HBX7.out
    go_wp2_with fail
    refine (HV.out _).mono ?_
    rintro e w8 ⟨rfl, hb8⟩
    have HB8 := Lib.hid (HB7.out.trans (hb8.mono HB7.out.size))
    have HBX8 := Lib.hid (HBX7.out.keep hb8)
    have HS8 := Lib.hid ((HS7.out.below hb8).more hb8.size)
    clear hb8 HB7 HBX7 HS7 HV b0 b1 b2 b3 b4
    obtain ⟨b0, b1, b2, b3, b4⟩ := HBX8.out
    go_wp2_with fail
    refine (HO2.out _ _ _ HB8.out HS8.out).mono ?_
    rintro e w9 ⟨A9, c9, rfl, hs9, _, hb9⟩
    have hal : Below w9.heap.size w9 (w9.alloc (.cells #[.string s, .slice A9 nc c9] 24)) := (Below.refl _ _).alloc (Nat.le_refl _) _
    have hb10 := hb9.trans (hal.mono hb9.size)
    have HBa := Lib.hid (HB8.out.trans (hb10.mono HB8.out.size))
    have HBXa := Lib.hid (HBX8.out.keep hb10)
    have HBYa := Lib.hid (BoxC.new w9 24 (.string s) (.slice A9 nc c9))
    have HSa := Lib.hid (And.intro ((hs9.below hal).more hal.size) ((HC.out.below HBa.out).more HBa.out.size))
    clear hs9 hb9 hal hb10 HB8 HBX8 HS8 HO2 b0 b1 b2 b3 b4
    obtain ⟨b0, b1, b2, b3, b4⟩ := HBXa.out
    obtain ⟨e0, e1, e2, e3, e4⟩ := HBYa.out
    go_wp2_with fail
    refine (HSM2.out _ _ _ _ _ HSa.out.1 HSa.out.2).mono ?_
    rintro e wb ⟨rfl, mb, rfl⟩
    have HBb := Lib.hid (below_drewN HBa.out mb)
    go_wp2
    go_ret
    exact ⟨rfl, HBb.out⟩
end
theorem customs_law (A Ac : Option Addr) (l0 bs : List Nat) (c cc : Nat) (s : ByteArray) (w : World) (hT : Tabs w) (hs0 : Slc w w.heap.size A c l0) (hc : Slc w w.heap.size Ac cc bs) :
    Calls Tryd.prog 3 #[.slice A l0.length c, .agg #[.string s, .slice Ac bs.length cc]] w fun e w' => e = .returned (.bool true) ∧ Below w.heap.size w w' := by
  have hr := hs0.room
  have hl : (l0.take (min l0.length 3000)).length = min l0.length 3000 := by simp
  by_cases hb : 1000 < (s.size : Int) ∨ 3000 < (bs.length : Int)
  · exact customs_big A Ac l0.length c bs.length cc (min l0.length 3000) s w (by omega) (by omega) hb
  · by_cases hf : faultOf (bl s) = 0
    · exact customs_good A Ac l0.length c bs.length cc (min l0.length 3000) s w (by omega) hT _ bs hl (by omega) (by omega) (hs0.cutC _) hc rfl (by omega) (by omega) hf
    · exact customs_bad A Ac l0.length c bs.length cc (min l0.length 3000) s w (by omega) hT _ bs hl (by omega) (by omega) (hs0.cutC _) hc rfl (by omega) (by omega) _ rfl hf
end Go.Proofs.YtelcoeeijkainaaDoor.Sec
