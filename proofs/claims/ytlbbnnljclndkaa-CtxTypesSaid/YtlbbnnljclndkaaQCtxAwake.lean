/-
  CtxAwake: trammellaw09.awake: true. No condition.
-/
import Derived.Test.YtlbbnnljclndkaaQCtxOf
namespace Go.Proofs.Ytlbbnnljclndkaa.Cx
open Go.RowKit Leb
open _root_.Go.Proofs.Ytlbbnnljclndkaa.Mod

def aw1 : GMd := { noG with types := [([127], [])], funcs := [⟨0, [], []⟩] }
def aw2 : GMd := { noG with funcs := [⟨0, [], []⟩] }
def aw1p (b1 b2 : Nat) : Pls := { noPls with A0 := some ⟨b1, 0, none⟩, c0 := 1, A2 := some ⟨b2, 0, none⟩, c2 := 1 }
def aw2p (b2 : Nat) : Pls := { noPls with A2 := some ⟨b2, 0, none⟩, c2 := 1 }
theorem aw1_E : ofE aw1 = 0 := by decide
theorem aw2_E : ofE aw2 = 7 := by decide
def aw1c : GCtx := ⟨[([127], [])], [0], [], [], [], 0, 0, 0, 0, false⟩
theorem aw1_C : ofC aw1 = aw1c := by unfold ofC; rw [if_pos aw1_E]; rfl
theorem aw2_C : ofC aw2 = noC := by unfold ofC; rw [if_neg (by rw [aw2_E]; decide)]
theorem aw_one {α : Type} {R : Rep α} {w : World} {b : Nat} {us : List Value} {x : α} {t : TypeId} {fz : Nat × Nat} (h : w.heap[b]? = some (.cells us.toArray t fz)) (hx : R.at_ w (fun _ => True) us x) : Lst R w (fun _ => True) (some ⟨b, 0, none⟩) 1 [x] := by
  refine ⟨fun _ => ⟨b, 0, rfl, trivial, fun j hj => ⟨us, ?_, fun i hi => ?_⟩⟩, (fun e => by cases e), by simp⟩
  · have : j = 0 := by simpa using hj
    subst this
    exact hx
  · have : j = 0 := by simpa using hj
    subst this
    rw [blk_cell h]
    simp [hi]
theorem aw_fn {w : World} {b : Nat} {t : TypeId} {fz : Nat × Nat} (h : w.heap[b]? = some (.cells #[.int .i64 0, .slice none 0 0, .slice none 0 0] t fz)) : Lst fnR w (fun _ => True) (some ⟨b, 0, none⟩) 1 [⟨0, [], []⟩] :=
  aw_one (us := [.int .i64 0, .slice none 0 0, .slice none 0 0]) h (fnR_at.2 ⟨none, 0, none, 0, rfl, lst_none _ _ _, lst_none _ _ _⟩)
theorem aw1_L {w : World} {b0 b1 b2 : Nat} {t0 t1 t2 : TypeId} {f0 f1 f2 : Nat × Nat} (h0 : w.heap[b0]? = some (.cells #[.int .i64 127] t0 f0)) (h1 : w.heap[b1]? = some (.cells #[.slice (some ⟨b0, 0, none⟩) 1 1, .slice none 0 0] t1 f1)) (h2 : w.heap[b2]? = some (.cells #[.int .i64 0, .slice none 0 0, .slice none 0 0] t2 f2)) : MdL w (fun _ => True) (fun _ => True) (aw1p b1 b2) aw1 :=
  ⟨aw_one (us := [.slice (some ⟨b0, 0, none⟩) 1 1, .slice none 0 0]) h1 (ftR_at.2 ⟨some ⟨b0, 0, none⟩, 1, none, 0, rfl, aw_one (us := [.int .i64 127]) h0 rfl, lst_none _ _ _⟩), lst_none _ _ _, aw_fn h2, lst_none _ _ _, lst_none _ _ _, lst_none _ _ _, lst_none _ _ _, lst_none _ _ _, lst_none _ _ _, lst_none _ _ _, lst_none _ _ _, lst_none _ _ _⟩
theorem aw2_L {w : World} {b2 : Nat} {t2 : TypeId} {f2 : Nat × Nat} (h2 : w.heap[b2]? = some (.cells #[.int .i64 0, .slice none 0 0, .slice none 0 0] t2 f2)) : MdL w (fun _ => True) (fun _ => True) (aw2p b2) aw2 :=
  ⟨lst_none _ _ _, lst_none _ _ _, aw_fn h2, lst_none _ _ _, lst_none _ _ _, lst_none _ _ _, lst_none _ _ _, lst_none _ _ _, lst_none _ _ _, lst_none _ _ _, lst_none _ _ _, lst_none _ _ _⟩
theorem aw1_S : Sm aw1 := by constructor <;> simp [aw1, noG]
theorem aw2_S : Sm aw2 := by constructor <;> simp [aw2, noG]
set_option maxRecDepth 100000 in
set_option maxHeartbeats 8000000 in
theorem awake_any (w : World) : Calls Try.prog 5 #[] w (BoolIs w true) := by
  have HO1 : Hid (∀ (V : World) (b0 b1 b2 : Nat), V.heap[b0]? = some (.cells #[.int .i64 127] 3 (0, 0)) → V.heap[b1]? = some (.cells #[.slice (some ⟨b0, 0, none⟩) 1 1, .slice none 0 0] 46 (0, 0)) → V.heap[b2]? = some (.cells #[.int .i64 0, .slice none 0 0, .slice none 0 0] 55 (0, 0)) → Calls Try.prog 7 #[.agg #[.slice (some ⟨b1, 0, none⟩) 1 1, .slice none 0 0, .slice (some ⟨b2, 0, none⟩) 1 1, .slice none 0 0, .slice none 0 0, .slice none 0 0, .slice none 0 0, .slice none 0 0, .slice none 0 0, .slice none 0 0, .slice none 0 0, .slice none 0 0]] V fun en w' => ∃ q : Plc, en = .returned (.tuple #[.agg #[.slice q.A0 1 q.d0, .slice q.A1 1 q.d1, .slice q.A2 0 q.d2, .slice q.A3 0 q.d3, .slice q.A4 0 q.d4, .int .i64 0, .int .i64 0, .int .i64 0, .int .i64 0, .bool false], .int .i64 0]) ∧ CtxL w' (fun b => V.heap.size ≤ b) q aw1c ∧ Below V.heap.size V w') := Lib.hid fun V b0 b1 b2 h0 h1 h2 => by
    refine (of_any aw1 (aw1p b1 b2) V (aw1_L h0 h1 h2) aw1_S).mono ?_
    rintro en w' ⟨q, e, hq, hb⟩
    rw [aw1_C] at hq
    rw [aw1_E, aw1_C] at e
    exact ⟨q, e, hq, hb⟩
  have HO2 : Hid (∀ (V : World) (b2 : Nat), V.heap[b2]? = some (.cells #[.int .i64 0, .slice none 0 0, .slice none 0 0] 55 (0, 0)) → Calls Try.prog 7 #[.agg #[.slice none 0 0, .slice none 0 0, .slice (some ⟨b2, 0, none⟩) 1 1, .slice none 0 0, .slice none 0 0, .slice none 0 0, .slice none 0 0, .slice none 0 0, .slice none 0 0, .slice none 0 0, .slice none 0 0, .slice none 0 0]] V fun en w' => ∃ q2 : Plc, en = .returned (.tuple #[.agg #[.slice q2.A0 0 q2.d0, .slice q2.A1 0 q2.d1, .slice q2.A2 0 q2.d2, .slice q2.A3 0 q2.d3, .slice q2.A4 0 q2.d4, .int .i64 0, .int .i64 0, .int .i64 0, .int .i64 0, .bool false], .int .i64 7]) ∧ Below V.heap.size V w') := Lib.hid fun V b2 h2 => by
    refine (of_any aw2 (aw2p b2) V (aw2_L h2) aw2_S).mono ?_
    rintro en w' ⟨q, e, hq, hb⟩
    rw [aw2_E, aw2_C] at e
    exact ⟨q, e, hb⟩
  have HTY : Hid (∀ (V : World) (q : Plc) (ok : Nat → Prop), CtxL V ok q aw1c → Calls Try.prog 11 #[.agg #[.slice q.A0 1 q.d0, .slice q.A1 1 q.d1, .slice q.A2 0 q.d2, .slice q.A3 0 q.d3, .slice q.A4 0 q.d4, .int .i64 0, .int .i64 0, .int .i64 0, .int .i64 0, .bool false], .int .i64 0] V fun en w' => ∃ B1 d1 B2 d2, en = .returned (.tuple #[.agg #[.slice B1 1 d1, .slice B2 0 d2], .bool true]) ∧ Below V.heap.size V w') := Lib.hid fun V q ok h => by
    refine (type_any q aw1c V h (fun x hx => by simp [aw1c] at hx; subst hx; simp) 0).mono ?_
    rintro en w' ⟨B1, d1, B2, d2, e, _, _, hb⟩
    exact ⟨B1, d1, B2, d2, e, hb⟩
  go_enter Try.func5, Try.ntmps5
  go_wp2_with fail
  have h2 : (((w.alloc (.cells #[.int .i64 127] 3)).alloc (.cells #[.slice (some ⟨w.heap.size, 0, none⟩) 1 1, .slice none 0 0] 46)).alloc (.cells #[.int .i64 0, .slice none 0 0, .slice none 0 0] 55)).heap[w.heap.size + 1 + 1]? = some (.cells #[.int .i64 0, .slice none 0 0, .slice none 0 0] 55 (0, 0)) := by
    have h := heap_alloc_new ((w.alloc (.cells #[.int .i64 127] 3)).alloc (.cells #[.slice (some ⟨w.heap.size, 0, none⟩) 1 1, .slice none 0 0] 46)) (.cells #[.int .i64 0, .slice none 0 0, .slice none 0 0] 55)
    have e : ((w.alloc (.cells #[.int .i64 127] 3)).alloc (.cells #[.slice (some ⟨w.heap.size, 0, none⟩) 1 1, .slice none 0 0] 46)).heap.size = w.heap.size + 1 + 1 := by simp
    rw [e] at h
    exact h
  have hbA : Below ((w.alloc (.cells #[.int .i64 127] 3)).alloc (.cells #[.slice (some ⟨w.heap.size, 0, none⟩) 1 1, .slice none 0 0] 46)).heap.size ((w.alloc (.cells #[.int .i64 127] 3)).alloc (.cells #[.slice (some ⟨w.heap.size, 0, none⟩) 1 1, .slice none 0 0] 46)) (((w.alloc (.cells #[.int .i64 127] 3)).alloc (.cells #[.slice (some ⟨w.heap.size, 0, none⟩) 1 1, .slice none 0 0] 46)).alloc (.cells #[.int .i64 0, .slice none 0 0, .slice none 0 0] 55)) := (Below.refl _ _).alloc (Nat.le_refl _) _
  have h1 : (((w.alloc (.cells #[.int .i64 127] 3)).alloc (.cells #[.slice (some ⟨w.heap.size, 0, none⟩) 1 1, .slice none 0 0] 46)).alloc (.cells #[.int .i64 0, .slice none 0 0, .slice none 0 0] 55)).heap[w.heap.size + 1]? = some (.cells #[.slice (some ⟨w.heap.size, 0, none⟩) 1 1, .slice none 0 0] 46 (0, 0)) := (hbA.block _ (by simp)).trans (heap2 w _ _ _)
  have h0 : (((w.alloc (.cells #[.int .i64 127] 3)).alloc (.cells #[.slice (some ⟨w.heap.size, 0, none⟩) 1 1, .slice none 0 0] 46)).alloc (.cells #[.int .i64 0, .slice none 0 0, .slice none 0 0] 55)).heap[w.heap.size]? = some (.cells #[.int .i64 127] 3 (0, 0)) := (hbA.block _ (by simp; omega)).trans ((((Below.refl _ _).alloc (Nat.le_refl _) _).block _ (by simp)).trans (heap_alloc_new w _))
  have HA : Hid (Below w.heap.size w (((w.alloc (.cells #[.int .i64 127] 3)).alloc (.cells #[.slice (some ⟨w.heap.size, 0, none⟩) 1 1, .slice none 0 0] 46)).alloc (.cells #[.int .i64 0, .slice none 0 0, .slice none 0 0] 55))) := Lib.hid ((((Below.refl _ _).alloc (Nat.le_refl _) _).alloc (by simp) _).alloc (by simp; omega) _)
  refine (HO1.out _ _ _ _ h0 h1 h2).mono ?_
  clear h0 h1 h2 hbA
  rintro en V1 ⟨q, rfl, hq, hb⟩
  have HB1 := Lib.hid (HA.out.trans (hb.mono HA.out.size))
  have HQ := Lib.hid hq
  have h2 : ((V1.alloc (.cells #[.slice q.A0 1 q.d0, .slice q.A1 1 q.d1, .slice q.A2 0 q.d2, .slice q.A3 0 q.d3, .slice q.A4 0 q.d4, .int .i64 0, .int .i64 0, .int .i64 0, .int .i64 0, .bool false] 38)).alloc (.cells #[.int .i64 0, .slice none 0 0, .slice none 0 0] 55)).heap[V1.heap.size + 1]? = some (.cells #[.int .i64 0, .slice none 0 0, .slice none 0 0] 55 (0, 0)) := heap2 V1 _ _ _
  have HK : Hid (((V1.alloc (.cells #[.slice q.A0 1 q.d0, .slice q.A1 1 q.d1, .slice q.A2 0 q.d2, .slice q.A3 0 q.d3, .slice q.A4 0 q.d4, .int .i64 0, .int .i64 0, .int .i64 0, .int .i64 0, .bool false] 38)).alloc (.cells #[.int .i64 0, .slice none 0 0, .slice none 0 0] 55)).heap[V1.heap.size]? = some (.cells #[.slice q.A0 1 q.d0, .slice q.A1 1 q.d1, .slice q.A2 0 q.d2, .slice q.A3 0 q.d3, .slice q.A4 0 q.d4, .int .i64 0, .int .i64 0, .int .i64 0, .int .i64 0, .bool false] 38 (0, 0)) ∧ ((V1.alloc (.cells #[.slice q.A0 1 q.d0, .slice q.A1 1 q.d1, .slice q.A2 0 q.d2, .slice q.A3 0 q.d3, .slice q.A4 0 q.d4, .int .i64 0, .int .i64 0, .int .i64 0, .int .i64 0, .bool false] 38)).alloc (.cells #[.int .i64 0, .slice none 0 0, .slice none 0 0] 55)).heap.size = V1.heap.size + 2) := Lib.hid ⟨(((Below.refl _ _).alloc (Nat.le_refl _) _).block _ (by simp)).trans (heap_alloc_new V1 _), by simp⟩
  have HBB : Hid (Below V1.heap.size V1 ((V1.alloc (.cells #[.slice q.A0 1 q.d0, .slice q.A1 1 q.d1, .slice q.A2 0 q.d2, .slice q.A3 0 q.d3, .slice q.A4 0 q.d4, .int .i64 0, .int .i64 0, .int .i64 0, .int .i64 0, .bool false] 38)).alloc (.cells #[.int .i64 0, .slice none 0 0, .slice none 0 0] 55))) := Lib.hid (((Below.refl _ _).alloc (Nat.le_refl _) _).alloc (by simp) _)
  clear hb hq HO1 HA
  go_wp2_with fail
  refine (HO2.out _ _ h2).mono ?_
  clear h2
  rintro en V2 ⟨q2, rfl, hb⟩
  have HB2 := Lib.hid (HBB.out.trans (hb.mono HBB.out.size))
  have HBC : Hid (Below V2.heap.size V2 (V2.alloc (.cells #[.slice q2.A0 0 q2.d0, .slice q2.A1 0 q2.d1, .slice q2.A2 0 q2.d2, .slice q2.A3 0 q2.d3, .slice q2.A4 0 q2.d4, .int .i64 0, .int .i64 0, .int .i64 0, .int .i64 0, .bool false] 38))) := Lib.hid ((Below.refl _ _).alloc (Nat.le_refl _) _)
  have hk : (V2.alloc (.cells #[.slice q2.A0 0 q2.d0, .slice q2.A1 0 q2.d1, .slice q2.A2 0 q2.d2, .slice q2.A3 0 q2.d3, .slice q2.A4 0 q2.d4, .int .i64 0, .int .i64 0, .int .i64 0, .int .i64 0, .bool false] 38)).heap[V1.heap.size]? = some (.cells #[.slice q.A0 1 q.d0, .slice q.A1 1 q.d1, .slice q.A2 0 q.d2, .slice q.A3 0 q.d3, .slice q.A4 0 q.d4, .int .i64 0, .int .i64 0, .int .i64 0, .int .i64 0, .bool false] 38 (0, 0)) := (HBC.out.block _ (by have := hb.size; have := HK.out.2; omega)).trans ((hb.block _ (by have := HK.out.2; omega)).trans HK.out.1)
  have HC := Lib.hid (HQ.out.below (HB2.out.trans (HBC.out.mono HB2.out.size)))
  have x0 : (V2.alloc (.cells #[.slice q2.A0 0 q2.d0, .slice q2.A1 0 q2.d1, .slice q2.A2 0 q2.d2, .slice q2.A3 0 q2.d3, .slice q2.A4 0 q2.d4, .int .i64 0, .int .i64 0, .int .i64 0, .int .i64 0, .bool false] 38)).cell? ⟨V1.heap.size, 0, none⟩ = some (.slice q.A0 1 q.d0) := (blk_cell hk 0).trans rfl
  have x1 : (V2.alloc (.cells #[.slice q2.A0 0 q2.d0, .slice q2.A1 0 q2.d1, .slice q2.A2 0 q2.d2, .slice q2.A3 0 q2.d3, .slice q2.A4 0 q2.d4, .int .i64 0, .int .i64 0, .int .i64 0, .int .i64 0, .bool false] 38)).cell? ⟨V1.heap.size, 1, none⟩ = some (.slice q.A1 1 q.d1) := (blk_cell hk 1).trans rfl
  have x2 : (V2.alloc (.cells #[.slice q2.A0 0 q2.d0, .slice q2.A1 0 q2.d1, .slice q2.A2 0 q2.d2, .slice q2.A3 0 q2.d3, .slice q2.A4 0 q2.d4, .int .i64 0, .int .i64 0, .int .i64 0, .int .i64 0, .bool false] 38)).cell? ⟨V1.heap.size, 2, none⟩ = some (.slice q.A2 0 q.d2) := (blk_cell hk 2).trans rfl
  have x3 : (V2.alloc (.cells #[.slice q2.A0 0 q2.d0, .slice q2.A1 0 q2.d1, .slice q2.A2 0 q2.d2, .slice q2.A3 0 q2.d3, .slice q2.A4 0 q2.d4, .int .i64 0, .int .i64 0, .int .i64 0, .int .i64 0, .bool false] 38)).cell? ⟨V1.heap.size, 3, none⟩ = some (.slice q.A3 0 q.d3) := (blk_cell hk 3).trans rfl
  have x4 : (V2.alloc (.cells #[.slice q2.A0 0 q2.d0, .slice q2.A1 0 q2.d1, .slice q2.A2 0 q2.d2, .slice q2.A3 0 q2.d3, .slice q2.A4 0 q2.d4, .int .i64 0, .int .i64 0, .int .i64 0, .int .i64 0, .bool false] 38)).cell? ⟨V1.heap.size, 4, none⟩ = some (.slice q.A4 0 q.d4) := (blk_cell hk 4).trans rfl
  have x5 : (V2.alloc (.cells #[.slice q2.A0 0 q2.d0, .slice q2.A1 0 q2.d1, .slice q2.A2 0 q2.d2, .slice q2.A3 0 q2.d3, .slice q2.A4 0 q2.d4, .int .i64 0, .int .i64 0, .int .i64 0, .int .i64 0, .bool false] 38)).cell? ⟨V1.heap.size, 5, none⟩ = some (.int .i64 0) := (blk_cell hk 5).trans rfl
  have x6 : (V2.alloc (.cells #[.slice q2.A0 0 q2.d0, .slice q2.A1 0 q2.d1, .slice q2.A2 0 q2.d2, .slice q2.A3 0 q2.d3, .slice q2.A4 0 q2.d4, .int .i64 0, .int .i64 0, .int .i64 0, .int .i64 0, .bool false] 38)).cell? ⟨V1.heap.size, 6, none⟩ = some (.int .i64 0) := (blk_cell hk 6).trans rfl
  have x7 : (V2.alloc (.cells #[.slice q2.A0 0 q2.d0, .slice q2.A1 0 q2.d1, .slice q2.A2 0 q2.d2, .slice q2.A3 0 q2.d3, .slice q2.A4 0 q2.d4, .int .i64 0, .int .i64 0, .int .i64 0, .int .i64 0, .bool false] 38)).cell? ⟨V1.heap.size, 7, none⟩ = some (.int .i64 0) := (blk_cell hk 7).trans rfl
  have x8 : (V2.alloc (.cells #[.slice q2.A0 0 q2.d0, .slice q2.A1 0 q2.d1, .slice q2.A2 0 q2.d2, .slice q2.A3 0 q2.d3, .slice q2.A4 0 q2.d4, .int .i64 0, .int .i64 0, .int .i64 0, .int .i64 0, .bool false] 38)).cell? ⟨V1.heap.size, 8, none⟩ = some (.int .i64 0) := (blk_cell hk 8).trans rfl
  have x9 : (V2.alloc (.cells #[.slice q2.A0 0 q2.d0, .slice q2.A1 0 q2.d1, .slice q2.A2 0 q2.d2, .slice q2.A3 0 q2.d3, .slice q2.A4 0 q2.d4, .int .i64 0, .int .i64 0, .int .i64 0, .int .i64 0, .bool false] 38)).cell? ⟨V1.heap.size, 9, none⟩ = some (.bool false) := (blk_cell hk 9).trans rfl
  clear hk hb HO2 HQ HBB HK
  go_wp2_with fail
  refine (HTY.out _ q _ HC.out).mono ?_
  rintro en V3 ⟨B1, d1, B2, d2, rfl, hb⟩
  have HB3 := Lib.hid (HB1.out.trans ((HB2.out.mono HB1.out.size).trans ((HBC.out.mono (Nat.le_trans HB1.out.size HB2.out.size)).trans (hb.mono (Nat.le_trans HB1.out.size (Nat.le_trans HB2.out.size HBC.out.size))))))
  clear hb HTY HC x0 x1 x2 x3 x4 x5 x6 x7 x8 x9
  go_wp2
  go_ret
  exact ⟨rfl, HB3.out.trans (((Below.refl _ _).alloc (Nat.le_refl _) _).mono HB3.out.size)⟩
end Go.Proofs.Ytlbbnnljclndkaa.Cx
