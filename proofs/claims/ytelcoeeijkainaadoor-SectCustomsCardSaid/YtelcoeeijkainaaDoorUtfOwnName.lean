/-
  utf.Name: what it comes to. Conditions: the library's two tables of utf8 hold what they were laid with; the bytes lie in memory as a slice's cells, and are at most 2^40.
-/
import Derived.Test.YtelcoeeijkainaaDoorUtfOwn
import Derived.Test.YtelcoeeijkainaaDoorUtfName
namespace Go.Proofs.YtelcoeeijkainaaDoor.Utf
open Go.RowKit Go.Proofs.YtelcoeeijkainaaDoor.Leb

theorem nameRes_fault (l : List Nat) (n k : Nat) (e : Nat) (hu : uRes l 32 = (n, k, 0)) (hs : ¬ l.length - k < n) (hl : ((l.drop k).take n).length = n) (he : faultOf ((l.drop k).take n) = e) :
    nameRes l = if e ≠ 0 then (⟨#[]⟩, 0, e) else (strOf ((l.drop k).take n), k + n, 0) := by
  subst he
  unfold nameRes faultOf
  rw [hu]
  simp only
  rw [if_neg (by omega), if_neg hs, hl]
  cases hv : vld ((l.drop k).take n) with
  | false => rw [if_pos rfl, if_pos rfl, if_pos (by omega)]
  | true =>
    by_cases h : 64 < n
    · simp [h]
    · simp [h]
set_option maxHeartbeats 2000000 in
set_option maxRecDepth 100000 in
theorem uname_any (A : Option Addr) (l : List Nat) (cap : Nat) (w : World) (hT : Tabs w) (hb : Bytes w w.heap.size A l) (hcap : l.length ≤ cap) (hl : l.length ≤ 1099511627776) :
    Calls Tryd.prog 12 #[.slice A l.length cap] w (TellsN w (nameRes l)) := by
  have hU := U_any A l cap w.heap.size 32 w hb (by omega) (by omega)
  by_cases he : (uRes l 32).2.2 = 0
  · obtain ⟨hn32, hk1, hkl⟩ := uRes_32 l he
    obtain ⟨n, k, e0, hu⟩ : ∃ n k e, uRes l 32 = (n, k, e) := ⟨_, _, _, rfl⟩
    rw [hu] at hU he hn32 hk1 hkl
    simp only at hU he hn32 hk1 hkl
    subst he
    have HU := Lib.hid hU
    clear hU
    obtain ⟨b, off, rfl, _⟩ := hb.2 (by omega)
    by_cases hs : l.length - k < n
    · have HF : Hid (nameRes l = (⟨#[]⟩, 0, 1)) := Lib.hid (by unfold nameRes; rw [hu]; simp only; rw [if_neg (by omega), if_pos hs])
      clear hu
      by_cases hck : cap = k
      · subst hck
        go_enter Tryd.func12, Tryd.ntmps12
        go_wp2_with (go_at_call 22; refine (HU.out).mono ?_; rintro e w1 ⟨rfl, d, rfl⟩)
        go_ret3
        exact ⟨by rw [HF.out]; rfl, below_drewN (Below.refl _ _) d⟩
      · go_enter Tryd.func12, Tryd.ntmps12
        go_wp2_with (go_at_call 22; refine (HU.out).mono ?_; rintro e w1 ⟨rfl, d, rfl⟩)
        go_ret3
        exact ⟨by rw [HF.out]; rfl, below_drewN (Below.refl _ _) d⟩
    · have hbd := bytes_drop hb k hcap
      have hbt := hbd.take n
      have hlt : ((l.drop k).take n).length = n := by simp; omega
      have hbb : ∀ x ∈ (l.drop k).take n, x < 256 := hbt.1
      have hts := strOf_size ((l.drop k).take n)
      have hbs := bl_strOf _ hbb
      obtain ⟨e, hfe⟩ : ∃ e, faultOf ((l.drop k).take n) = e := ⟨_, rfl⟩
      have HR := Lib.hid (nameRes_fault l n k e hu hs hlt hfe)
      rw [hlt] at hts
      generalize (l.drop k).take n = t at *
      have hV := fault_any (strOf t)
      rw [hbs, hfe] at hV
      have HV := Lib.hid (fun W hW => hV W (by omega) hW)
      clear hV hbs hbb hbd hfe hu
      by_cases hck : cap = k
      · rw [if_pos hck] at hbt
        obtain rfl : n = 0 := by omega
        have HC : Hid (∀ d, (convert 22 9 (.slice (some ⟨b, off, none⟩) 0 0)).run Tryd.prog (w.drewN d) = .ok (.string (strOf t)) (w.drewN d)) := Lib.hid (fun d => by
          have := conv_str (hbt.drewN d) 0
          rw [hlt] at this
          exact this)
        clear hbt hlt
        subst hck
        generalize strOf t = st at *
        have hsz : (st.size : Int) ≤ 0 := by omega
        have HS := Lib.hid hts
        clear hts
        by_cases he : e = 0
        · subst he
          rw [if_neg (by omega)] at HR
          go_enter Tryd.func12, Tryd.ntmps12
          go_wp2_with (go_at_call 22; refine (HU.out).mono ?_; rintro e w1 ⟨rfl, d, rfl⟩; have hconv := HC.out d)
          clear hconv
          refine (HV.out _ (hT.below (below_drewN (Below.refl _ _) d))).mono ?_
          rintro e w2 ⟨rfl, hb2⟩
          have hb3 := (below_drewN (Below.refl _ w) d).trans hb2
          go_wp2
          go_ret3
          have h0 := HS.out
          exact ⟨by rw [HR.out, h0]; rfl, hb3⟩
        · have heb : ((e : Int) != 0) = true := by simp; omega
          rw [if_pos he] at HR
          go_enter Tryd.func12, Tryd.ntmps12
          go_wp2_with (go_at_call 22; refine (HU.out).mono ?_; rintro e w1 ⟨rfl, d, rfl⟩; have hconv := HC.out d)
          clear hconv
          refine (HV.out _ (hT.below (below_drewN (Below.refl _ _) d))).mono ?_
          rintro e w2 ⟨rfl, hb2⟩
          have hb3 := (below_drewN (Below.refl _ w) d).trans hb2
          go_wp2
          go_ret3
          exact ⟨by rw [HR.out]; rfl, hb3⟩
      · rw [if_neg hck] at hbt
        have HC : Hid (∀ d, (convert 22 9 (.slice (some ⟨b, off + k, none⟩) n (cap - k))).run Tryd.prog (w.drewN d) = .ok (.string (strOf t)) (w.drewN d)) := Lib.hid (fun d => by
          have := conv_str (hbt.drewN d) (cap - k)
          rw [hlt] at this
          exact this)
        clear hbt hlt
        generalize strOf t = st at *
        have hsz : (st.size : Int) ≤ 1099511627776 := by omega
        have HS := Lib.hid hts
        clear hts
        by_cases he : e = 0
        · subst he
          rw [if_neg (by omega)] at HR
          go_enter Tryd.func12, Tryd.ntmps12
          go_wp2_with (go_at_call 22; refine (HU.out).mono ?_; rintro e w1 ⟨rfl, d, rfl⟩; have hconv := HC.out d)
          clear hconv
          refine (HV.out _ (hT.below (below_drewN (Below.refl _ _) d))).mono ?_
          rintro e w2 ⟨rfl, hb2⟩
          have hb3 := (below_drewN (Below.refl _ w) d).trans hb2
          go_wp2
          go_ret3
          have h0 := HS.out
          exact ⟨by rw [HR.out, h0]; rfl, hb3⟩
        · have heb : ((e : Int) != 0) = true := by simp; omega
          rw [if_pos he] at HR
          go_enter Tryd.func12, Tryd.ntmps12
          go_wp2_with (go_at_call 22; refine (HU.out).mono ?_; rintro e w1 ⟨rfl, d, rfl⟩; have hconv := HC.out d)
          clear hconv
          refine (HV.out _ (hT.below (below_drewN (Below.refl _ _) d))).mono ?_
          rintro e w2 ⟨rfl, hb2⟩
          have hb3 := (below_drewN (Below.refl _ w) d).trans hb2
          go_wp2
          go_ret3
          exact ⟨by rw [HR.out]; rfl, hb3⟩
  · have hnr : nameRes l = (⟨#[]⟩, 0, (uRes l 32).2.2) := by unfold nameRes; rw [if_pos he]
    generalize (uRes l 32).2.2 = e at *
    generalize (uRes l 32).2.1 = k at *
    generalize (uRes l 32).1 = n at *
    have HU := Lib.hid hU
    have heb : ((e : Int) != 0) = true := by simp; omega
    have HR := Lib.hid hnr
    clear hU hnr he
    go_enter Tryd.func12, Tryd.ntmps12
    go_wp2_with (go_at_call 22; refine (HU.out).mono ?_; rintro e w1 ⟨rfl, d, rfl⟩)
    go_ret3
    exact ⟨by rw [HR.out]; rfl, below_drewN (Below.refl _ _) d⟩
end Go.Proofs.YtelcoeeijkainaaDoor.Utf
