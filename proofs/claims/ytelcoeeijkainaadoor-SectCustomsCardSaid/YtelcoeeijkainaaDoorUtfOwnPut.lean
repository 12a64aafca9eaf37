/-
  utf.PutName: what it comes to. Conditions: the library's two tables of utf8 hold what they were laid with; the bytes lie in memory as a slice's cells, and are at most 2^40; the text has fewer than 2^63 bytes.
-/
import Derived.Test.YtelcoeeijkainaaDoorUtfOwn
import Derived.Test.YtelcoeeijkainaaDoorUtfBytes
namespace Go.Proofs.YtelcoeeijkainaaDoor.Utf
open Go.RowKit Go.Proofs.YtelcoeeijkainaaDoor.Leb

theorem own_from {w : World} {base base' : Nat} {v : Value} {l : List Nat} (h : Own w base v l) (hb : base' ≤ base) : Own w base' v l := by
  refine ⟨h.1, ?_⟩
  rcases h.2 with h0 | ⟨g, cap, cur, rfl, h1, h2, h3, h4, h5⟩
  · exact .inl h0
  · exact .inr ⟨g, cap, cur, rfl, Nat.le_trans hb h1, h2, h3, h4, h5⟩
/-- A name that is not put: no bytes, and why. -/
theorem uput_not (A : Option Addr) (len cap e : Nat) (s : ByteArray) (w : World) (hT : Tabs w) (hs : s.size ≤ 9223372036854775807) (hf : faultOf (bl s) = e) (he : e ≠ 0) :
    Calls Tryd.prog 15 #[.slice A len cap, .string s] w fun r w' => r = .returned (.tuple #[.slice none 0 0, .int .i64 (e : Int)]) ∧ Below w.heap.size w w' := by
  have hF := fault_any s w hs hT
  rw [hf] at hF
  have heb : ((e : Int) != 0) = true := by simp; omega
  have HF := Lib.hid hF
  clear hF hf he
  go_enter Tryd.func15, Tryd.ntmps15
  go_wp2_with (go_at_call 23; refine HF.out.mono ?_; rintro e w1 ⟨rfl, hb1⟩)
  go_ret2
  exact ⟨rfl, hb1⟩
/-- What a call that puts bytes returns: a slice that owns them, and no error. -/
def GivesN (w : World) (l : List Nat) (k : Nat) (e : Ending) (w' : World) : Prop :=
  ∃ A c, e = .returned (.tuple #[.slice A k c, .int .i64 0]) ∧ Own w' w.heap.size (.slice A k c) l ∧ Bytes w' w'.heap.size A l ∧ (A = none → c = 0) ∧ k ≤ c ∧ Below w.heap.size w w'
theorem uput_any (A : Option Addr) (l : List Nat) (cap k : Nat) (s : ByteArray) (w : World) (hT : Tabs w) (hb : Bytes w w.heap.size A l) (hc : A = none → cap = 0) (hl : l.length ≤ 1099511627776) (hs : s.size ≤ 9223372036854775807)
    (hf : faultOf (bl s) = 0) (hk : (l ++ putU s.size ++ bl s).length = k) :
    Calls Tryd.prog 15 #[.slice A l.length cap, .string s] w (GivesN w (l ++ putU s.size ++ bl s) k) := by
  have hF := fault_any s w hs hT
  rw [hf] at hF
  have h64 : s.size ≤ 64 := by
    unfold faultOf at hf
    rw [bl_len] at hf
    by_cases h : 64 < s.size
    · by_cases hv : vld (bl s) = false
      · rw [if_pos hv] at hf; omega
      · rw [if_neg hv, if_pos h] at hf; omega
    · omega
  have hlen := (putUf_len 9 s.size).2
  have hkb : k ≤ 1099511628000 := by rw [← hk, List.length_append, List.length_append, bl_len]; unfold putU; omega
  have hwr : IntKind.u64.wrap (s.size : Int) = (s.size : Int) := by rw [IntKind.wrap_u64]; omega
  have HP := Lib.hid (fun W (hW : Below w.heap.size w W) => putU_any A l cap s.size W ((hb.below hW).more hW.size) hc (by omega) (by omega))
  have HB : Hid (∀ y ∈ l ++ putU s.size, y < 256) := Lib.hid (fun y hy => (List.mem_append.1 hy).elim (hb.1 y) (putUf_byte 9 s.size y))
  have HF := Lib.hid hF
  have HK := Lib.hid hk
  clear hF hf hk hlen hb hc
  go_enter Tryd.func15, Tryd.ntmps15
  go_wp2_with (first
    | (go_at_call 23; refine HF.out.mono ?_; rintro e w1 ⟨rfl, hb1⟩)
    | (go_at_call 19; refine (HP.out _ hb1).mono ?_; rintro e w2 ⟨v2, rfl, ho2, hb2⟩)
    | (at_builtin; refine app_str rfl (.tmp 16) (.tmp 17) rfl _ _ (l ++ putU s.size) rfl ho2 HB.out s k rfl HK.out (by omega) hb2.size ?_; intro A3 c3 w3 ho3 hB3 hc3 hn3 hb3))
  go_ret2
  have hb4 := hb1.trans (hb2.mono hb1.size)
  have hb5 := hb4.trans (hb3.mono hb1.size)
  refine ⟨A3, c3, rfl, ?_, hB3, hn3, hc3, hb5⟩
  exact own_from ho3 hb1.size
end Go.Proofs.YtelcoeeijkainaaDoor.Utf
