/-
  InsDoes: What instr's functions are held to (a premise, 'Does T': under what T says of the world they answer as the plain words do); trammellaw06.awake answers true. Condition: that premise.
-/
import Derived.Test.YtdipgokbfjbgfaaInsPlain
import Derived.Deep.DeepCutAuto
namespace Go.Proofs.Ytdipgokbfjbgfaa.Ins
open Go.RowKit Leb Typ

/-- instr's functions answer as the plain words do. -/
structure Does (T : World → Prop) : Prop where
  keep : ∀ w w', T w → Below w.heap.size w w' → T w'
  one : ∀ (A : Option Addr) (l : List Nat) (c : Nat) (w : World), Slc w A c l → l.length ≤ 10000000 → T w → Calls Try.prog 22 #[.slice A l.length c] w (One3 w (oneRes l 0))
  body : ∀ (A : Option Addr) (l : List Nat) (c : Nat) (w : World), Slc w A c l → l.length ≤ 10000000 → T w → Calls Try.prog 24 #[.slice A l.length c] w (Body3 w (bodyRes l))
  formed : ∀ (v : Value) (x : Ins) (w : World), InsV w v x → wide x → x.l.length ≤ 100 → T w → Calls Try.prog 13 #[v] w (Tells w (formedB x))
  closed : ∀ (A : Option Addr) (xs : List Ins) (c : Nat) (w : World), Sli w A c xs → short xs → T w → Calls Try.prog 19 #[.slice A xs.length c] w (Tells w (shutB xs))
  put : ∀ (A : Option Addr) (l : List Nat) (c k : Nat) (v : Value) (x : Ins) (w : World), Slc w A c l → l.length ≤ 1000 → InsV w v x → wide x → x.l.length ≤ 100 → (putRes (formedB x) l (insBytes x)).1.length = k → T w →
    Calls Try.prog 11 #[.slice A l.length c, v] w (PutIs w (putRes (formedB x) l (insBytes x)).1 k (putRes (formedB x) l (insBytes x)).2)
  putBody : ∀ (A A' : Option Addr) (l : List Nat) (xs : List Ins) (c c' k : Nat) (w : World), Slc w A c l → l.length ≤ 1000 → Sli w A' c' xs → short xs → (putRes (shutB xs) l (allBytes xs)).1.length = k → T w →
    Calls Try.prog 17 #[.slice A l.length c, .slice A' xs.length c'] w (PutIs w (putRes (shutB xs) l (allBytes xs)).1 k (putRes (shutB xs) l (allBytes xs)).2)
theorem awake_one : oneRes [65, 127, 5] 0 = ({ zeroIns with op := 65, k := -1 }, 2, 0) := by decide +kernel
theorem awake_body : (bodyRes [2, 64, 11, 11, 0]).1.length = 3 ∧ (bodyRes [2, 64, 11, 11, 0]).2 = (4, 0) := by decide +kernel
section
variable {T : World → Prop} (D : Does T)
include D
set_option maxHeartbeats 1000000 in
set_option maxRecDepth 100000 in
theorem awake_any (w : World) (hT : T w) : Calls Try.prog 8 #[] w fun e w' => e = .returned (.bool true) ∧ Below w.heap.size w w' := by
  have HO : Hid (∀ W g, W.heap.size = g → T W → Calls Try.prog 22 #[.slice (some ⟨g, 0, none⟩) 3 3] (W.alloc (.cells #[.int .u8 65, .int .u8 127, .int .u8 5] 5)) (One3 (W.alloc (.cells #[.int .u8 65, .int .u8 127, .int .u8 5] 5)) ({ zeroIns with op := 65, k := -1 }, 2, 0))) := Lib.hid fun W g hg hW => by
    subst hg
    have := D.one (some ⟨W.heap.size, 0, none⟩) [65, 127, 5] 3 _ (slc_lit W _ (by decide) 5 #[.int .u8 65, .int .u8 127, .int .u8 5] 3 rfl (by decide)) (by decide) (D.keep _ _ hW ((Below.refl _ _).alloc (Nat.le_refl _) _))
    rw [awake_one] at this
    exact this
  have HBL : Hid (∀ W g, W.heap.size = g → T W → Calls Try.prog 24 #[.slice (some ⟨g, 0, none⟩) 5 5] (W.alloc (.cells #[.int .u8 2, .int .u8 64, .int .u8 11, .int .u8 11, .int .u8 0] 5)) (fun e w' => ∃ A c, e = .returned (.tuple #[.slice A 3 c, .int .i64 4, .int .i64 0]) ∧ Below (W.alloc (.cells #[.int .u8 2, .int .u8 64, .int .u8 11, .int .u8 11, .int .u8 0] 5)).heap.size (W.alloc (.cells #[.int .u8 2, .int .u8 64, .int .u8 11, .int .u8 11, .int .u8 0] 5)) w')) := Lib.hid fun W g hg hW => by
    subst hg
    have hb := D.body (some ⟨W.heap.size, 0, none⟩) [2, 64, 11, 11, 0] 5 _ (slc_lit W _ (by decide) 5 #[.int .u8 2, .int .u8 64, .int .u8 11, .int .u8 11, .int .u8 0] 5 rfl (by decide)) (by decide) (D.keep _ _ hW ((Below.refl _ _).alloc (Nat.le_refl _) _))
    have h1 := awake_body.1
    have h2 := awake_body.2
    generalize bodyRes [2, 64, 11, 11, 0] = g at hb h1 h2
    obtain ⟨xs, n, e⟩ := g
    simp only [Prod.mk.injEq] at h1 h2
    obtain ⟨rfl, rfl⟩ := h2
    refine hb.mono ?_
    rintro e w' ⟨A, c, he, _, hb'⟩
    simp only [h1] at he
    exact ⟨A, c, he, hb'⟩
  have HK := Lib.hid D.keep
  clear D
  have hal : Below w.heap.size w (w.alloc (.cells #[.int .u8 65, .int .u8 127, .int .u8 5] 5)) := (Below.refl _ _).alloc (Nat.le_refl _) _
  go_enter Try.func8, Try.ntmps8
  go_wp2_with fail
  refine (HO.out _ _ rfl hT).mono ?_
  rintro e w1 ⟨v1, rfl, hv, hb1⟩
  have hb2 := hal.trans (hb1.mono hal.size)
  obtain ⟨A1, c1, rfl, _, _, _⟩ := hv
  simp only [zeroIns, List.length_nil]
  clear HO hal hb1
  have hbx : Below w1.heap.size w1 (w1.alloc (.cells #[.int .i64 65, .int .i64 0, .int .i64 0, .int .i64 (-1), .slice A1 0 c1] 25)) := (Below.refl _ _).alloc (Nat.le_refl _) _
  have hb3 := hb2.trans (hbx.mono hb2.size)
  have hT3 := HK.out _ _ hT hb3
  have q3 : (w1.alloc (.cells #[.int .i64 65, .int .i64 0, .int .i64 0, .int .i64 (-1), .slice A1 0 c1] 25)).cell? ⟨w1.heap.size, 3, none⟩ = some (.int .i64 (-1)) := by simp
  have hs3 : w1.heap.size < (w1.alloc (.cells #[.int .i64 65, .int .i64 0, .int .i64 0, .int .i64 (-1), .slice A1 0 c1] 25)).heap.size := by simp
  have HS3 := Lib.hid hs3
  have HQ3 := Lib.hid q3
  clear hbx hb2 q3 hs3
  go_wp2_with fail
  refine (HBL.out _ _ (by simp) hT3).mono ?_
  clear HBL hT3
  generalize w1.alloc (.cells #[.int .i64 65, .int .i64 0, .int .i64 0, .int .i64 (-1), .slice A1 0 c1] 25) = W at *
  rintro e w4 ⟨A4, c4, rfl, hb4⟩
  have hb5 : Below W.heap.size W w4 := ((Below.refl _ _).alloc (Nat.le_refl _) _).trans (hb4.mono (by simp))
  have hb6 := hb3.trans (hb5.mono hb3.size)
  have q3 := (hb5.cell (p := ⟨w1.heap.size, 3, none⟩) HS3.out).trans HQ3.out
  clear hb3 hb4 hb5 HK HQ3 HS3
  go_wp2
  go_ret
  exact ⟨rfl, hb6⟩
end
end Go.Proofs.Ytdipgokbfjbgfaa.Ins
