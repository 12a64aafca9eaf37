/-
  trammelref02.Name: what it comes to. Condition: the bytes lie in memory as a slice's cells, and are at most 2^40.
-/
import Derived.Test.YtelcoeeijkainaaDoorUtfBytes
import Derived.Test.YtelcoeeijkainaaDoorLebRefU
import Derived.Laws.BytesArg
namespace Go.Proofs.YtelcoeeijkainaaDoor.Utf
open Go.RowKit Go.Proofs.YtelcoeeijkainaaDoor.Leb

/-- Bytes as a text. -/
def strOf (l : List Nat) : ByteArray := strOfNums (l.map fun x : Nat => (x : Int))
theorem bl_strOf (l : List Nat) (h : ∀ x ∈ l, x < 256) : bl (strOf l) = l := by
  unfold bl strOf
  rw [strOfNums_data, List.map_map, List.map_map]
  conv => rhs; rw [← List.map_id l]
  apply List.map_congr_left
  intro x hx
  have := h x hx
  simp [Function.comp, UInt8.toNat_ofNat']
  omega
theorem strOf_size (l : List Nat) : (strOf l).size = l.length := by unfold strOf; rw [strOfNums_size, List.length_map]
/-- What a name's reading answers: the text, how many bytes it takes, the error. -/
def nameRes (l : List Nat) : ByteArray × Nat × Nat :=
  if (uRes l 32).2.2 ≠ 0 then (⟨#[]⟩, 0, (uRes l 32).2.2)
  else if l.length - (uRes l 32).2.1 < (uRes l 32).1 then (⟨#[]⟩, 0, 1)
  else if vld ((l.drop (uRes l 32).2.1).take (uRes l 32).1) = false then (⟨#[]⟩, 0, 2)
  else if 64 < (uRes l 32).1 then (⟨#[]⟩, 0, 4)
  else (strOf ((l.drop (uRes l 32).2.1).take (uRes l 32).1), (uRes l 32).2.1 + (uRes l 32).1, 0)
def TellsN (w : World) (r : ByteArray × Nat × Nat) (e : Ending) (w' : World) : Prop := e = .returned (.tuple #[.string r.1, .int .i64 (r.2.1 : Int), .int .i64 (r.2.2 : Int)]) ∧ Below w.heap.size w w'
theorem conv_str {w : World} {B : Nat} {b off : Nat} {l : List Nat} (hb : Bytes w B (some ⟨b, off, none⟩) l) (cap : Nat) :
    (convert 22 9 (.slice (some ⟨b, off, none⟩) l.length cap)).run Tryd.prog w = .ok (.string (strOf l)) w := by
  refine run_convert_bytes_arg w 22 5 Tryd.underlying22 Tryd.underlying5 b off l.length cap _ (by simp) ?_ 9 Tryd.underlying9
  intro i hi
  obtain ⟨b', off', he, _, hc⟩ := hb.2 (by omega)
  injection he with he
  injection he with h1 h2
  subst h1; subst h2
  rw [hc i hi]
  simp [List.getD, hi]
set_option maxHeartbeats 2000000 in
set_option maxRecDepth 100000 in
theorem rname_any (A : Option Addr) (l : List Nat) (cap : Nat) (w : World) (hb : Bytes w w.heap.size A l) (hcap : l.length ≤ cap) (hl : l.length ≤ 1099511627776) :
    Calls Tryd.prog 14 #[.slice A l.length cap] w (TellsN w (nameRes l)) := by
  have hU := rU_any A l cap 32 w hb (by omega) (by omega)
  by_cases he : (uRes l 32).2.2 = 0
  · obtain ⟨hn32, hk1, hkl⟩ := uRes_32 l he
    have hnr : nameRes l = if l.length - (uRes l 32).2.1 < (uRes l 32).1 then (⟨#[]⟩, 0, 1)
        else if vld ((l.drop (uRes l 32).2.1).take (uRes l 32).1) = false then (⟨#[]⟩, 0, 2)
        else if 64 < (uRes l 32).1 then (⟨#[]⟩, 0, 4)
        else (strOf ((l.drop (uRes l 32).2.1).take (uRes l 32).1), (uRes l 32).2.1 + (uRes l 32).1, 0) := by unfold nameRes; rw [if_neg (by omega)]
    unfold TellsU at hU
    rw [he] at hU
    generalize (uRes l 32).1 = n at *
    generalize (uRes l 32).2.1 = k at *
    have HU := Lib.hid hU
    have HR := Lib.hid hnr
    clear hU hnr he
    generalize nameRes l = r at *
    obtain ⟨b, off, rfl, _⟩ := hb.2 (by omega)
    by_cases hs : l.length - k < n
    · have HF : Hid (r = (⟨#[]⟩, 0, 1)) := Lib.hid (by rw [HR.out, if_pos hs])
      clear HR
      by_cases hck : cap = k
      · subst hck
        go_enter Tryd.func14, Tryd.ntmps14
        go_wp2_with (go_at_call 24; refine (HU.out).mono ?_; rintro e w1 ⟨rfl, hb1⟩)
        go_ret3
        exact ⟨by rw [HF.out]; rfl, hb1⟩
      · go_enter Tryd.func14, Tryd.ntmps14
        go_wp2_with (go_at_call 24; refine (HU.out).mono ?_; rintro e w1 ⟨rfl, hb1⟩)
        go_ret3
        exact ⟨by rw [HF.out]; rfl, hb1⟩
    · rw [if_neg hs] at HR
      have hbd := bytes_drop hb k hcap
      obtain ⟨A2, hA2⟩ : ∃ A2, A2 = (if cap = k then (⟨b, off, none⟩ : Addr) else ⟨b, off + k, none⟩) := ⟨_, rfl⟩
      have hbt := hbd.take n
      have hlt : ((l.drop k).take n).length = n := by simp; omega
      have hbb : ∀ x ∈ (l.drop k).take n, x < 256 := hbt.1
      have hts := strOf_size ((l.drop k).take n)
      have hbs := bl_strOf _ hbb
      rw [hlt] at hts
      generalize (l.drop k).take n = t at *
      have hV := valid_any (strOf t)
      rw [hbs] at hV
      have HV := Lib.hid (fun W => hV W (by omega))
      clear hV hbs hbb hbd
      by_cases hck : cap = k
      · rw [if_pos hck] at hbt
        obtain rfl : n = 0 := by omega
        have HC : Hid (∀ W, Below w.heap.size w W → (convert 22 9 (.slice (some ⟨b, off, none⟩) 0 0)).run Tryd.prog W = .ok (.string (strOf t)) W) := Lib.hid (fun W hW => by
          have := conv_str (hbt.below hW) 0
          rw [hlt] at this
          exact this)
        clear hbt hlt hts hA2
        subst hck
        generalize strOf t = st at *
        cases hv : vld t with
        | false =>
          rw [hv] at HV HR
          rw [if_pos rfl] at HR
          clear hv
          go_enter Tryd.func14, Tryd.ntmps14
          go_wp2_with (go_at_call 24; refine (HU.out).mono ?_; rintro e w1 ⟨rfl, hb1⟩; have hconv := HC.out _ hb1)
          clear hconv
          refine (HV.out _).mono ?_
          rintro e w2 ⟨rfl, hb2⟩
          have hb3 := hb1.trans (hb2.mono hb1.size)
          go_wp2
          go_ret3
          exact ⟨by rw [HR.out]; rfl, hb3⟩
        | true =>
          rw [hv] at HV HR
          rw [if_neg (by simp), if_neg (by omega)] at HR
          clear hv
          go_enter Tryd.func14, Tryd.ntmps14
          go_wp2_with (go_at_call 24; refine (HU.out).mono ?_; rintro e w1 ⟨rfl, hb1⟩; have hconv := HC.out _ hb1)
          clear hconv
          refine (HV.out _).mono ?_
          rintro e w2 ⟨rfl, hb2⟩
          have hb3 := hb1.trans (hb2.mono hb1.size)
          go_wp2
          go_ret3
          exact ⟨by rw [HR.out]; rfl, hb3⟩
      · rw [if_neg hck] at hbt
        have HC : Hid (∀ W, Below w.heap.size w W → (convert 22 9 (.slice (some ⟨b, off + k, none⟩) n (cap - k))).run Tryd.prog W = .ok (.string (strOf t)) W) := Lib.hid (fun W hW => by
          have := conv_str (hbt.below hW) (cap - k)
          rw [hlt] at this
          exact this)
        clear hbt hlt hts hA2
        generalize strOf t = st at *
        cases hv : vld t with
        | false =>
          rw [hv] at HV HR
          rw [if_pos rfl] at HR
          clear hv
          go_enter Tryd.func14, Tryd.ntmps14
          go_wp2_with (go_at_call 24; refine (HU.out).mono ?_; rintro e w1 ⟨rfl, hb1⟩; have hconv := HC.out _ hb1)
          clear hconv
          refine (HV.out _).mono ?_
          rintro e w2 ⟨rfl, hb2⟩
          have hb3 := hb1.trans (hb2.mono hb1.size)
          go_wp2
          go_ret3
          exact ⟨by rw [HR.out]; rfl, hb3⟩
        | true =>
          rw [hv] at HV HR
          rw [if_neg (by simp)] at HR
          clear hv
          by_cases h64 : 64 < n
          · rw [if_pos h64] at HR
            have h64i : (64 : Int) < (n : Int) := by omega
            go_enter Tryd.func14, Tryd.ntmps14
            go_wp2_with (go_at_call 24; refine (HU.out).mono ?_; rintro e w1 ⟨rfl, hb1⟩; have hconv := HC.out _ hb1)
            clear hconv
            refine (HV.out _).mono ?_
            rintro e w2 ⟨rfl, hb2⟩
            have hb3 := hb1.trans (hb2.mono hb1.size)
            go_wp2
            go_ret3
            exact ⟨by rw [HR.out]; rfl, hb3⟩
          · rw [if_neg h64] at HR
            have h64i : ¬ (64 : Int) < (n : Int) := by omega
            go_enter Tryd.func14, Tryd.ntmps14
            go_wp2_with (go_at_call 24; refine (HU.out).mono ?_; rintro e w1 ⟨rfl, hb1⟩; have hconv := HC.out _ hb1)
            clear hconv
            refine (HV.out _).mono ?_
            rintro e w2 ⟨rfl, hb2⟩
            have hb3 := hb1.trans (hb2.mono hb1.size)
            go_wp2
            go_ret3
            exact ⟨by rw [HR.out]; rfl, hb3⟩
  · have hnr : nameRes l = (⟨#[]⟩, 0, (uRes l 32).2.2) := by unfold nameRes; rw [if_pos he]
    unfold TellsU at hU
    generalize (uRes l 32).2.2 = e at *
    have HU := Lib.hid hU
    have heb : ((e : Int) != 0) = true := by simp; omega
    have HR := Lib.hid hnr
    clear hU hnr he
    go_enter Tryd.func14, Tryd.ntmps14
    go_wp2_with (go_at_call 24; refine (HU.out).mono ?_; rintro e w1 ⟨rfl, hb1⟩)
    go_ret3
    exact ⟨by rw [HR.out]; rfl, hb1⟩
end Go.Proofs.YtelcoeeijkainaaDoor.Utf
