/-
  What typ's functions are held to (a premise, 'Does T': under what T says of the world they answer as the reference does); trammellaw05.awake answers true. Condition: that premise.
-/
import Derived.Test.YthhdbjpimjkekaaTypBlock
import Derived.Test.YthhdbjpimjkekaaTypSame
import Derived.Test.YthhdbjpimjkekaaTypLimBytes
import Derived.Test.YthhdbjpimjkekaaLebSame
namespace Go.Proofs.Ythhdbjpimjkekaa.Typ
open Go.RowKit Leb

/-- What Val answers: the type, how many bytes, the error. -/
def valRes (l : List Nat) : Nat × Nat × Nat :=
  if l.length < 1 then (0, 0, 1)
  else if (valOf (l.getD 0 0)).2 = 0 then (l.getD 0 0, 1, 0)
  else (0, 0, (valOf (l.getD 0 0)).2)
def Val3 (w : World) (r : Nat × Nat × Nat) (e : Ending) (w' : World) : Prop := e = .returned (.tuple #[.int .i64 (r.1 : Int), .int .i64 (r.2.1 : Int), .int .i64 (r.2.2 : Int)]) ∧ Below w.heap.size w w'
def I64 (n : Int) : Prop := -9223372036854775808 ≤ n ∧ n ≤ 9223372036854775807
/-- New bytes and an error, told as a slice; nothing that was there has changed. -/
def PutIs (w : World) (l : List Nat) (k er : Nat) (e : Ending) (w' : World) : Prop :=
  ∃ A c, e = .returned (.tuple #[.slice A k c, .int .i64 (er : Int)]) ∧ Own w' w.heap.size (.slice A k c) l ∧ Bytes w' w'.heap.size A l ∧ (A = none → c = 0) ∧ k ≤ c ∧ Below w.heap.size w w'
/-- What PutFunc, PutLimits, PutBlock put: bytes, or the error. -/
def putRes (ok : Bool) (l m : List Nat) : List Nat × Nat := if ok then (l ++ m, 0) else ([], 2)
/-- A slice that came in, or was made: where it leads, how much room it has. -/
structure Slc (w : World) (A : Option Addr) (c : Nat) (l : List Nat) : Prop where
  bytes : Bytes w w.heap.size A l
  nil : A = none → c = 0
  room : l.length ≤ c
theorem Slc.below {w w' : World} {A : Option Addr} {c : Nat} {l : List Nat} (h : Slc w A c l) (hb : Below w.heap.size w w') : Slc w' A c l := ⟨(h.bytes.below hb).more hb.size, h.nil, h.room⟩
/-- typ's functions answer as the reference's do. -/
structure Does (T : World → Prop) : Prop where
  keep : ∀ w w', T w → Below w.heap.size w w' → T w'
  val : ∀ (A : Option Addr) (l : List Nat) (c : Nat) (w : World), Slc w A c l → l.length ≤ 1000 → T w → Calls Try.prog 15 #[.slice A l.length c] w (Val3 w (valRes l))
  func : ∀ (A : Option Addr) (l : List Nat) (c : Nat) (w : World), Slc w A c l → l.length ≤ 1000 → T w → Calls Try.prog 8 #[.slice A l.length c] w (Func3 w (funcRes l))
  limits : ∀ (A : Option Addr) (l : List Nat) (c : Nat) (w : World), Slc w A c l → l.length ≤ 1000 → T w → Calls Try.prog 11 #[.slice A l.length c] w (Lim3 w (limRes l).1 (limRes l).2.1 (limRes l).2.2.1 (limRes l).2.2.2.1 (limRes l).2.2.2.2)
  block : ∀ (A : Option Addr) (l : List Nat) (c : Nat) (w : World), Slc w A c l → l.length ≤ 1000 → T w → Calls Try.prog 13 #[.slice A l.length c] w (Block3 w (blockRes l))
  putFunc : ∀ (A : Option Addr) (l : List Nat) (c k : Nat) (v : Value) (ps rs : List Int) (w : World), Slc w A c l → l.length ≤ 1000 → FType w v ps rs → ps.length ≤ maxLen → rs.length ≤ maxLen → (putRes (rightF ps rs) l (funcBytes ps rs)).1.length = k → T w →
    Calls Try.prog 17 #[.slice A l.length c, v] w (PutIs w (putRes (rightF ps rs) l (funcBytes ps rs)).1 k (putRes (rightF ps rs) l (funcBytes ps rs)).2)
  putLimits : ∀ (A : Option Addr) (l : List Nat) (c k : Nat) (a b : Int) (cap : Bool) (w : World), Slc w A c l → l.length ≤ 1000 → I64 a → I64 b → (putRes (rightLim a cap b) l (limBytes a.toNat cap b.toNat)).1.length = k → T w →
    Calls Try.prog 22 #[.slice A l.length c, limV a cap b] w (PutIs w (putRes (rightLim a cap b) l (limBytes a.toNat cap b.toNat)).1 k (putRes (rightLim a cap b) l (limBytes a.toNat cap b.toNat)).2)
  putBlock : ∀ (A : Option Addr) (l : List Nat) (c k : Nat) (t : Int) (w : World), Slc w A c l → l.length ≤ 1000 → I64 t → (putRes (rightBlock t) l (putS t)).1.length = k → T w →
    Calls Try.prog 25 #[.slice A l.length c, .int .i64 t] w (PutIs w (putRes (rightBlock t) l (putS t)).1 k (putRes (rightBlock t) l (putS t)).2)
theorem bytes_lit (w : World) (l : List Nat) (hl : ∀ x ∈ l, x < 256) (t : TypeId) (vs : Array Value) (hv : vs = (l.map bv).toArray) : Bytes (w.alloc (.cells vs t)) (w.heap.size + 1) (some ⟨w.heap.size, 0, none⟩) l := by
  refine ⟨hl, fun _ => ⟨w.heap.size, 0, rfl, by omega, fun j hj => ?_⟩⟩
  subst hv
  simp [hj, bv]
theorem slc_lit (w : World) (l : List Nat) (hl : ∀ x ∈ l, x < 256) (t : TypeId) (vs : Array Value) (c : Nat) (hv : vs = (l.map bv).toArray) (hc : l.length ≤ c) : Slc (w.alloc (.cells vs t)) (some ⟨w.heap.size, 0, none⟩) c l :=
  ⟨by simpa using bytes_lit w l hl t vs hv, (fun h => by cases h), hc⟩
theorem awake_func : funcRes [96, 2, 127, 126, 1, 127, 9] = ([127, 126], [127], 6, 0) := by decide
theorem awake_block : blockRes [64] = (-64, 1, 0) := by decide
section
variable {T : World → Prop} (D : Does T)
include D
set_option maxHeartbeats 1000000 in
set_option maxRecDepth 100000 in
theorem awake_any (w : World) (hT : T w) : Calls Try.prog 7 #[] w fun e w' => e = .returned (.bool true) ∧ Below w.heap.size w w' := by
  have hal : Below w.heap.size w (w.alloc (.cells #[.int .u8 96, .int .u8 2, .int .u8 127, .int .u8 126, .int .u8 1, .int .u8 127, .int .u8 9] 5)) := (Below.refl _ _).alloc (Nat.le_refl _) _
  have hF := D.func (some ⟨w.heap.size, 0, none⟩) [96, 2, 127, 126, 1, 127, 9] 7 _ (slc_lit w _ (by decide) 5 #[.int .u8 96, .int .u8 2, .int .u8 127, .int .u8 126, .int .u8 1, .int .u8 127, .int .u8 9] 7 rfl (by decide)) (by decide) (D.keep _ _ hT hal)
  rw [awake_func] at hF
  have HF : Hid (Calls Try.prog 8 #[.slice (some ⟨w.heap.size, 0, none⟩) 7 7] (w.alloc (.cells #[.int .u8 96, .int .u8 2, .int .u8 127, .int .u8 126, .int .u8 1, .int .u8 127, .int .u8 9] 5)) (Func3 (w.alloc (.cells #[.int .u8 96, .int .u8 2, .int .u8 127, .int .u8 126, .int .u8 1, .int .u8 127, .int .u8 9] 5)) ([127, 126], [127], 6, 0))) := Lib.hid hF
  have HBL : Hid (∀ W g, W.heap.size = g → T W → Calls Try.prog 13 #[.slice (some ⟨g, 0, none⟩) 1 1] (W.alloc (.cells #[.int .u8 64] 5)) (Block3 (W.alloc (.cells #[.int .u8 64] 5)) (-64, 1, 0))) := Lib.hid fun W g hg hW => by
    subst hg
    have := D.block (some ⟨W.heap.size, 0, none⟩) [64] 1 _ (slc_lit W _ (by decide) 5 #[.int .u8 64] 1 rfl (by decide)) (by decide) (D.keep _ _ hW ((Below.refl _ _).alloc (Nat.le_refl _) _))
    rw [awake_block] at this
    exact this
  have HK := Lib.hid D.keep
  have HAL := Lib.hid hal
  clear D hF hal
  go_enter Try.func7, Try.ntmps7
  go_wp2_with fail
  refine HF.out.mono ?_
  rintro e w1 ⟨v1, rfl, hft, hb1⟩
  have hb2 := HAL.out.trans (hb1.mono HAL.out.size)
  obtain ⟨A1, c1, A2, c2, rfl, hi1, hi2, _, _, _, _⟩ := hft
  obtain ⟨b, off, rfl, hbl, hcs⟩ := hi1 (by simp)
  have hc1 : w1.cell? ⟨b, off + 1, none⟩ = some (.int .i64 126) := hcs 1 (by simp)
  clear hcs hi1 hi2 HF HAL hb1
  simp only [List.length_cons, List.length_nil, Nat.zero_add, Nat.reduceAdd]
  have hbx : Below w1.heap.size w1 (w1.alloc (.cells #[.slice (some ⟨b, off, none⟩) 2 c1, .slice A2 1 c2] 26)) := (Below.refl _ _).alloc (Nat.le_refl _) _
  have hb3 := hb2.trans (hbx.mono hb2.size)
  have hT3 := HK.out _ _ hT hb3
  go_wp2_with fail
  refine (HBL.out _ _ (by simp) hT3).mono ?_
  rintro e w4 ⟨rfl, hb4⟩
  have hbx2 : Below (w1.alloc (.cells #[.slice (some ⟨b, off, none⟩) 2 c1, .slice A2 1 c2] 26)).heap.size (w1.alloc (.cells #[.slice (some ⟨b, off, none⟩) 2 c1, .slice A2 1 c2] 26)) w4 := ((Below.refl _ _).alloc (Nat.le_refl _) (.cells #[.int .u8 64] 5)).trans (hb4.mono (by simp))
  have hb5 := hb3.trans (hbx2.mono hb3.size)
  have q0 : w4.cell? ⟨w1.heap.size, 0, none⟩ = some (.slice (some ⟨b, off, none⟩) 2 c1) := (hbx2.cell (p := ⟨w1.heap.size, 0, none⟩) (by simp)).trans (by simp)
  have q1 : w4.cell? ⟨b, off + 1, none⟩ = some (.int .i64 126) := (hbx2.cell (p := ⟨b, off + 1, none⟩) (by simp; omega)).trans ((hbx.cell (p := ⟨b, off + 1, none⟩) hbl).trans hc1)
  clear hbx hbx2 hb2 hb3 hb4 hT3 HBL HK hc1
  go_wp2
  go_ret
  exact ⟨rfl, hb5⟩
end
end Go.Proofs.Ythhdbjpimjkekaa.Typ
