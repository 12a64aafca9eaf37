/-
  trammelref05.Limits: what it comes to. Condition: the bytes lie in memory as a slice's cells, and are fewer than 2^47.
-/
import Derived.Test.YthhdbjpimjkekaaTypVals
import Derived.Handy
namespace Go.Proofs.Ythhdbjpimjkekaa.Typ
open Go.RowKit Leb

/-- A limits' value. -/
def limV (a : Int) (cap : Bool) (b : Int) : Value := .agg #[.int .i64 a, .bool cap, .int .i64 b]
def Lim3 (w : World) (a : Int) (cap : Bool) (b : Int) (n er : Nat) (e : Ending) (w' : World) : Prop := e = .returned (.tuple #[limV a cap b, .int .i64 (n : Int), .int .i64 (er : Int)]) ∧ Below w.heap.size w w'
set_option maxHeartbeats 1000000 in
set_option maxRecDepth 100000 in
theorem lim_short (A : Option Addr) (c : Nat) (w : World) : Calls Try.prog 12 #[.slice A 0 c] w (Lim3 w 0 false 0 0 1) := by
  go_enter Try.func12, Try.ntmps12
  go_wp2
  refine bodyPost_ret (v := .tuple #[limV 0 false 0, .int .i64 0, .int .i64 1]) (by simp [results, Try.results12, go_sem, limV]) rfl ?_
  exact ⟨rfl, (Below.refl _ _).alloc (Nat.le_refl _) _⟩
set_option maxHeartbeats 1000000 in
set_option maxRecDepth 100000 in
theorem lim_first (b off len c x : Nat) (w : World) (hl : 1 ≤ len) (hc : w.cell? ⟨b, off, none⟩ = some (.int .u8 (x : Int))) (hb : b < w.heap.size) (hx : x ≠ 0 ∧ x ≠ 1) : Calls Try.prog 12 #[.slice (some ⟨b, off, none⟩) len c] w (Lim3 w 0 false 0 0 2) := by
  have hbel : Below w.heap.size w (w.alloc (.cells #[.int .i64 0, .bool false, .int .i64 0] 34)) := (Below.refl _ _).alloc (Nat.le_refl _) _
  have hc1 := (hbel.cell (p := ⟨b, off, none⟩) hb).trans hc
  have hx0 : ((x : Int) != 0) = true := by simp; omega
  have hx1 : ((x : Int) != 1) = true := by simp; omega
  have hl1 : ¬ (len : Int) < 1 := by omega
  clear hx hc
  go_enter Try.func12, Try.ntmps12
  go_wp2
  refine bodyPost_ret (v := .tuple #[limV 0 false 0, .int .i64 0, .int .i64 2]) (by simp [results, Try.results12, go_sem, limV]) rfl ?_
  exact ⟨rfl, hbel⟩
/-- What Limits has in memory: the first byte, the result, the two numbers. -/
structure LAt (w W : World) (b off k : Nat) (x0 x1 : Int) : Prop where
  below : Below w.heap.size w W
  size : w.heap.size + 1 < W.heap.size
  first : W.cell? ⟨b, off, none⟩ = some (.int .u8 (k : Int))
  r0 : W.cell? ⟨w.heap.size, 0, none⟩ = some (.int .i64 0)
  r1 : W.cell? ⟨w.heap.size, 1, none⟩ = some (.bool false)
  r2 : W.cell? ⟨w.heap.size, 2, none⟩ = some (.int .i64 0)
  z0 : W.frozen? ⟨w.heap.size, 0, none⟩ = false
  z1 : W.frozen? ⟨w.heap.size, 1, none⟩ = false
  z2 : W.frozen? ⟨w.heap.size, 2, none⟩ = false
  n0 : W.cell? ⟨w.heap.size + 1, 0, none⟩ = some (.int .i64 x0)
  n1 : W.cell? ⟨w.heap.size + 1, 1, none⟩ = some (.int .i64 x1)
  y0 : W.frozen? ⟨w.heap.size + 1, 0, none⟩ = false
  y1 : W.frozen? ⟨w.heap.size + 1, 1, none⟩ = false
theorem LAt.keep {w W W' : World} {b off k : Nat} {x0 x1 : Int} (h : LAt w W b off k x0 x1) (hb : b < w.heap.size) (h' : Below W.heap.size W W') : LAt w W' b off k x0 x1 := by
  have hs := h.size
  have C : ∀ p : Addr, p.block ≤ w.heap.size + 1 → W'.cell? p = W.cell? p := fun p hp => h'.cell (by omega)
  have F : ∀ p : Addr, p.block ≤ w.heap.size + 1 → W'.frozen? p = W.frozen? p := fun p hp => h'.frozen (by omega)
  exact ⟨h.below.trans (h'.mono h.below.size), by have := h'.size; omega, (C _ (by simp; omega)).trans h.first, (C _ (by simp)).trans h.r0, (C _ (by simp)).trans h.r1, (C _ (by simp)).trans h.r2, (F _ (by simp)).trans h.z0, (F _ (by simp)).trans h.z1, (F _ (by simp)).trans h.z2,
    (C _ (by simp)).trans h.n0, (C _ (by simp)).trans h.n1, (F _ (by simp)).trans h.y0, (F _ (by simp)).trans h.y1⟩
theorem LAt.set {w W : World} {b off k : Nat} {x0 x1 : Int} (h : LAt w W b off k x0 x1) (hb : b < w.heap.size) (j : Nat) (v : Int) (hj : j < 2) : LAt w (W.setCell ⟨w.heap.size + 1, j, none⟩ (.int .i64 v)) b off k (if j = 0 then v else x0) (if j = 0 then x1 else v) := by
  have H : ∀ q, q ≠ w.heap.size + 1 → (W.setCell ⟨w.heap.size + 1, j, none⟩ (.int .i64 v)).heap[q]? = W.heap[q]? := fun q hq => Below.heap_setCell _ _ _ _ hq
  have C : ∀ p : Addr, p.block ≠ w.heap.size + 1 → (W.setCell ⟨w.heap.size + 1, j, none⟩ (.int .i64 v)).cell? p = W.cell? p := fun p hp => World.cell?_of_block (H _ hp)
  have F : ∀ p : Addr, p.block ≠ w.heap.size + 1 → (W.setCell ⟨w.heap.size + 1, j, none⟩ (.int .i64 v)).frozen? p = W.frozen? p := fun p hp => World.frozen?_of_block (H _ hp)
  have hs := h.size
  refine ⟨h.below.setCell (by simp) _, by simpa using hs, (C _ (by simp; omega)).trans h.first, (C _ (by simp)).trans h.r0, (C _ (by simp)).trans h.r1, (C _ (by simp)).trans h.r2, (F _ (by simp)).trans h.z0, (F _ (by simp)).trans h.z1, (F _ (by simp)).trans h.z2, ?_, ?_, ?_, ?_⟩
  · match j, hj with
    | 0, _ => exact World.cell?_setCell_same _ _ _ h.n0
    | 1, _ => exact (World.cell?_setCell_other _ _ _ _ (by simp)).trans h.n0
  · match j, hj with
    | 0, _ => exact (World.cell?_setCell_other _ _ _ _ (by simp)).trans h.n1
    | 1, _ => exact World.cell?_setCell_same _ _ _ h.n1
  · simpa using h.y0
  · simpa using h.y1
theorem lat_of (w : World) (b off k : Nat) (t t' : TypeId) (hb : b < w.heap.size) (hc : w.cell? ⟨b, off, none⟩ = some (.int .u8 (k : Int))) :
    LAt w ((w.alloc (.cells #[.int .i64 0, .bool false, .int .i64 0] t)).alloc (.cells #[.int .i64 0, .int .i64 0] t')) b off k 0 0 := by
  have hbel : Below w.heap.size w ((w.alloc (.cells #[.int .i64 0, .bool false, .int .i64 0] t)).alloc (.cells #[.int .i64 0, .int .i64 0] t')) := ((Below.refl _ _).alloc (Nat.le_refl _) _).alloc (by simp) _
  have hs1 : (w.alloc (.cells #[.int .i64 0, .bool false, .int .i64 0] t)).heap.size = w.heap.size + 1 := by simp
  have hh := (MapKept.heap_alloc (w.alloc (.cells #[.int .i64 0, .bool false, .int .i64 0] t)) (.cells #[.int .i64 0, .int .i64 0] t')).1
  have hr := (MapKept.heap_alloc (w.alloc (.cells #[.int .i64 0, .bool false, .int .i64 0] t)) (.cells #[.int .i64 0, .int .i64 0] t')).2 w.heap.size (by omega)
  rw [hs1] at hh
  rw [(MapKept.heap_alloc w _).1] at hr
  refine ⟨hbel, by simp, (hbel.cell (p := ⟨b, off, none⟩) hb).trans hc, ?_, ?_, ?_, ?_, ?_, ?_, ?_, ?_, ?_, ?_⟩
  · simp only [World.cell?, hr]; rfl
  · simp only [World.cell?, hr]; rfl
  · simp only [World.cell?, hr]; rfl
  · simp only [World.frozen?, hr]; rfl
  · simp only [World.frozen?, hr]; rfl
  · simp only [World.frozen?, hr]; rfl
  · simp only [World.cell?, hh]; rfl
  · simp only [World.cell?, hh]; rfl
  · simp only [World.frozen?, hh]; rfl
  · simp only [World.frozen?, hh]; rfl
theorem LAt.at {w W : World} {b off k : Nat} {x0 x1 : Int} (h : LAt w W b off k x0 x1) (j : Nat) (hj : j < 2) : (∃ v, W.cell? ⟨w.heap.size + 1, j, none⟩ = some v) ∧ W.frozen? ⟨w.heap.size + 1, j, none⟩ = false := by
  match j, hj with
  | 0, _ => exact ⟨⟨_, h.n0⟩, h.y0⟩
  | 1, _ => exact ⟨⟨_, h.n1⟩, h.y1⟩
/-- The first number, the second one. -/
def lim1 (l : List Nat) : Nat × Nat × Nat := uRes (l.drop 1) 32
def lim2 (l : List Nat) : Nat × Nat × Nat := uRes (l.drop (1 + (lim1 l).2.1)) 32
/-- What Limits answers: the least, whether there is a most, the most, how many bytes, the error. -/
def limRes (l : List Nat) : Nat × Bool × Nat × Nat × Nat :=
  if l.length < 1 then (0, false, 0, 0, 1)
  else if l.getD 0 0 ≠ 0 ∧ l.getD 0 0 ≠ 1 then (0, false, 0, 0, 2)
  else if (lim1 l).2.2 ≠ 0 then (0, false, 0, 0, (lim1 l).2.2)
  else if l.getD 0 0 = 0 then ((lim1 l).1, false, 0, 1 + (lim1 l).2.1, 0)
  else if (lim2 l).2.2 ≠ 0 then (0, false, 0, 0, (lim2 l).2.2)
  else ((lim1 l).1, true, (lim2 l).1, 1 + (lim1 l).2.1 + (lim2 l).2.1, 0)
/-- What is known ahead of round j: the place, the two numbers. -/
def limAt (l : List Nat) (j p x0 x1 : Nat) : Prop :=
  (j = 0 ∧ p = 1 ∧ x0 = 0 ∧ x1 = 0) ∨ (j = 1 ∧ (lim1 l).2.2 = 0 ∧ p = 1 + (lim1 l).2.1 ∧ x0 = (lim1 l).1 ∧ x1 = 0) ∨
    (j = 2 ∧ (lim1 l).2.2 = 0 ∧ (lim2 l).2.2 = 0 ∧ p = 1 + (lim1 l).2.1 + (lim2 l).2.1 ∧ x0 = (lim1 l).1 ∧ x1 = (lim2 l).1)
/-- One number more is read at place p, ahead of round j. -/
theorem limAt_read {l : List Nat} {j p x0 x1 k : Nat} (h : limAt l j p x0 x1) (hj : j ≤ k) (hk : k ≤ 1) (hl : ¬ l.length < 1) (hf : l.getD 0 0 = k) :
    ((uRes (l.drop p) 32).2.2 ≠ 0 → limRes l = (0, false, 0, 0, (uRes (l.drop p) 32).2.2)) ∧
      ((uRes (l.drop p) 32).2.2 = 0 → limAt l (j + 1) (p + (uRes (l.drop p) 32).2.1) (if j = 0 then (uRes (l.drop p) 32).1 else x0) (if j = 0 then x1 else (uRes (l.drop p) 32).1)) := by
  rcases h with ⟨rfl, rfl, rfl, rfl⟩ | ⟨rfl, h1, rfl, rfl, rfl⟩ | ⟨rfl, _⟩
  · have e : uRes (l.drop 1) 32 = lim1 l := rfl
    rw [e]
    refine ⟨fun h => ?_, fun h => .inr (.inl ⟨rfl, h, rfl, rfl, rfl⟩)⟩
    unfold limRes
    rw [if_neg hl, if_neg (by omega), if_pos h]
  · have e : uRes (l.drop (1 + (lim1 l).2.1)) 32 = lim2 l := rfl
    rw [e]
    refine ⟨fun h => ?_, fun h => .inr (.inr ⟨rfl, h1, h, rfl, rfl, rfl⟩)⟩
    unfold limRes
    rw [if_neg hl, if_neg (by omega), if_neg (by omega), if_neg (by omega), if_pos h]
  · omega
theorem limAt_end {l : List Nat} {j p x0 x1 k : Nat} (h : limAt l j p x0 x1) (hj : j = k + 1) (hk : k ≤ 1) (hl : ¬ l.length < 1) (hf : l.getD 0 0 = k) : limRes l = (x0, decide (k = 1), x1, p, 0) := by
  unfold limRes
  rcases h with ⟨rfl, _⟩ | ⟨rfl, h1, rfl, rfl, rfl⟩ | ⟨rfl, h1, h2, rfl, rfl, rfl⟩
  · omega
  · obtain rfl : k = 0 := by omega
    rw [if_neg hl, if_neg (by omega), if_neg (by omega), if_pos hf]; rfl
  · obtain rfl : k = 1 := by omega
    rw [if_neg hl, if_neg (by omega), if_neg (by omega), if_neg (by omega), if_neg (by omega)]; rfl
theorem bytes_from {w : World} {B : Nat} {b off : Nat} {l : List Nat} (hb : Bytes w B (some ⟨b, off, none⟩) l) (p : Nat) : Bytes w B (some ⟨b, off + p, none⟩) (l.drop p) := by
  refine ⟨fun x hx => hb.1 x (List.mem_of_mem_drop hx), fun hl => ?_⟩
  obtain ⟨b', off', e, hbb, hc⟩ := hb.2 (by simp at hl; omega)
  injection e with e
  injection e with e1 e2 _
  subst e1 e2
  refine ⟨b, off + p, rfl, hbb, fun j hj => ?_⟩
  have hj' : p + j < l.length := by simp at hj; omega
  rw [Nat.add_assoc, hc (p + j) hj']
  simp
set_option maxHeartbeats 4000000 in
set_option maxRecDepth 100000 in
theorem lim_run_0 (b off c : Nat) (l : List Nat) (w : World) (R : Nat × Bool × Nat × Nat × Nat) (hR : limRes l = R) (hl : 1 ≤ l.length) (hlc : l.length ≤ c) (hl47 : l.length ≤ 140737488355328) (hb : Bytes w w.heap.size (some ⟨b, off, none⟩) l) (hbl : b < w.heap.size) (hf : l.getD 0 0 = 0) (hc : w.cell? ⟨b, off, none⟩ = some (.int .u8 ((0 : Nat) : Int))) :
    Calls Try.prog 12 #[.slice (some ⟨b, off, none⟩) l.length c] w (Lim3 w R.1 R.2.1 R.2.2.1 R.2.2.2.1 R.2.2.2.2) := by
  have HAT := Lib.hid (lat_of w b off 0 34 70 hbl hc)
  have hbel0 : Below w.heap.size w (w.alloc (.cells #[.int .i64 0, .bool false, .int .i64 0] 34)) := (Below.refl _ _).alloc (Nat.le_refl _) _
  have hc0 := (hbel0.cell (p := ⟨b, off, none⟩) hbl).trans hc
  have hl1 : ¬ (l.length : Int) < 1 := by omega
  have HF := Lib.hid hf
  have HB := Lib.hid hb
  have HR := Lib.hid hR
  have HL47 := Lib.hid hl47
  have HLC := Lib.hid hlc
  have HB0 := Lib.hid hbl
  clear hc hbel0 hf hb hR hl47 hlc
  go_enter Try.func12, Try.ntmps12
  go_wp2
  generalize (w.alloc _).alloc _ = W at *
  clear hc0
  go_loopw [6, 7] (fun x i wr => ∃ j p x0 x1 : Nat, j ≤ 1 ∧ p ≤ l.length ∧ x = .int .i64 (p : Int) ∧ i = .int .i64 (j : Int) ∧ Hid (LAt w wr b off 0 x0 x1) ∧ Hid (limAt l j p x0 x1)) (fun _ i _ => 1 - (intOf i).toNat)
  case atStart => exact ⟨0, 1, 0, 0, by omega, hl, rfl, rfl, HAT, Lib.hid (.inl ⟨rfl, rfl, rfl, rfl⟩)⟩
  case round =>
    obtain ⟨j, p, x0, x1, hj, hp, rfl, rfl, HAT1, HA⟩ := hrel
    have hfi := HAT1.out.first
    clear HAT
    by_cases hjk : j ≤ 0
    · obtain rfl : j = 0 := by omega
      have hjki : ((0 : Nat) : Int) ≤ 0 := by omega
      have hj2 : 0 < 2 := by omega
      have hj2i : ((0 : Nat) : Int) < 2 := by omega
      obtain ⟨he, ho⟩ := limAt_read HA.out hjk (by omega) (by omega) HF.out
      by_cases hpc : p = c
      · have hpl : p = l.length := by have := HLC.out; omega
        have hcl : c = l.length := by omega
        have hd : l.drop p = [] := List.drop_of_length_le (by omega)
        rw [hd] at he ho
        have HE : Hid (R = (0, false, 0, 0, 1)) := Lib.hid (HR.out.symm.trans (he (by decide)))
        have HU : Hid (∀ A c', Calls Try.prog 33 #[.slice A 0 c', .int .i64 32] wr (TellsU wr (0, 0, 1))) := Lib.hid fun A c' => rU_any A [] c' 32 wr ⟨by simp, by simp⟩ (by omega) (by omega)
        clear he ho hd HB HA HR HF
        subst hpl
        subst hcl
        go_wp2_with fail
        refine (HU.out _ _).mono ?_
        rintro e w1 ⟨rfl, hb1⟩
        have H1 := Lib.hid (HAT1.out.keep HB0.out hb1)
        obtain ⟨q1, q2, q3, q4, q5, q6, q7, q8, q9, q10, q11, q12, q13⟩ := H1.out
        clear HAT1 hb1 q1 q2 hfi
        go_wp2
        refine bodyPost_ret (v := .tuple #[limV 0 false 0, .int .i64 0, .int .i64 1]) (by simp [results, Try.results12, go_sem, limV, q4, q5, q6]) rfl ?_
        rw [HE.out]
        exact ⟨rfl, ((H1.out.below.setCell (Nat.le_refl _) _).setCell (Nat.le_refl _) _).setCell (Nat.le_refl _) _⟩
      · have hpc' : p < c := by have := HLC.out; omega
        have hpi : (p : Int) ≤ (l.length : Int) := by omega
        have hdl : (l.drop p).length = l.length - p := by simp
        have hU := rU_any _ (l.drop p) (c - p) 32 wr ((bytes_from (HB.out.below HAT1.out.below) p).more HAT1.out.below.size) (by omega) (by omega)
        rw [hdl] at hU
        have HU := Lib.hid hU
        have h32 := uRes_32 (l.drop p)
        rw [hdl] at h32
        clear hdl hU hpc
        generalize uRes (l.drop p) 32 = g at *
        obtain ⟨u, s, er⟩ := g
        simp only at he ho h32
        by_cases her : er = 0
        · subst her
          obtain ⟨h1, h2, h3⟩ := h32 rfl
          have HO := Lib.hid (ho rfl)
          have hl47 := HL47.out
          have hui : (u : Int) < 4294967296 := by omega
          have hsw : wrap64 ((p : Int) + (s : Int)) = ((p + s : Nat) : Int) := by rw [IntWalk.wrap64_in _ (by omega)]; omega
          have huw : wrap64 (u : Int) = (u : Int) := IntWalk.wrap64_in _ (by omega)
          have hps : p + s ≤ l.length := by omega
          clear he ho h32 h1 h2 h3 HA HR HB HF hui hl47
          go_wp2_with fail
          refine (HU.out).mono ?_
          rintro e w1 ⟨rfl, hb1⟩
          have h1 := HAT1.out.keep HB0.out hb1
          have H2 := Lib.hid (h1.set HB0.out 0 (u : Int) hj2)
          obtain ⟨⟨v0, hv0⟩, hz0⟩ := h1.at 0 hj2
          clear HAT1 hb1 hfi h1
          go_wp2
          go_roundw
          case rel =>
            exact ⟨1, p + s, u, x1, by omega, hps, by first | rfl | rw [hsw], rfl, Lib.hid (by simpa using H2.out), Lib.hid (by simpa using HO.out)⟩
          case measure => simp [intOf] <;> omega
        · have HE := Lib.hid (HR.out.symm.trans (he her))
          have hne : ((er : Int) != 0) = true := by simp; omega
          clear he ho h32 HA HR HB HF her
          go_wp2_with fail
          refine (HU.out).mono ?_
          rintro e w1 ⟨rfl, hb1⟩
          have H1 := Lib.hid (HAT1.out.keep HB0.out hb1)
          obtain ⟨q1, q2, q3, q4, q5, q6, q7, q8, q9, q10, q11, q12, q13⟩ := H1.out
          clear HAT1 hb1 q1 q2 hfi
          go_wp2
          refine bodyPost_ret (v := .tuple #[limV 0 false 0, .int .i64 0, .int .i64 (er : Int)]) (by simp [results, Try.results12, go_sem, limV, q4, q5, q6]) rfl ?_
          rw [HE.out]
          exact ⟨rfl, ((H1.out.below.setCell (Nat.le_refl _) _).setCell (Nat.le_refl _) _).setCell (Nat.le_refl _) _⟩
    · obtain rfl : j = 1 := by omega
      have hjki : ¬ ((1 : Nat) : Int) ≤ 0 := by omega
      have HE := Lib.hid (HR.out.symm.trans (limAt_end HA.out rfl (by omega) (by omega) HF.out))
      obtain ⟨q1, q2, q3, q4, q5, q6, q7, q8, q9, q10, q11, q12, q13⟩ := HAT1.out
      clear hjk hfi HA HR HB HF q1 q2
      go_wp2
      go_region
      go_wp2
      refine bodyPost_ret (v := .tuple #[limV x0 false x1, .int .i64 (p : Int), .int .i64 0]) (by simp [results, Try.results12, go_sem, limV, q4, q5, q6]) rfl ?_
      rw [HE.out]
      exact ⟨rfl, (((HAT1.out.below.setCell (Nat.le_refl _) _).setCell (Nat.le_refl _) _).setCell (Nat.le_refl _) _).drew⟩
set_option maxHeartbeats 4000000 in
set_option maxRecDepth 100000 in
theorem lim_run_1 (b off c : Nat) (l : List Nat) (w : World) (R : Nat × Bool × Nat × Nat × Nat) (hR : limRes l = R) (hl : 1 ≤ l.length) (hlc : l.length ≤ c) (hl47 : l.length ≤ 140737488355328) (hb : Bytes w w.heap.size (some ⟨b, off, none⟩) l) (hbl : b < w.heap.size) (hf : l.getD 0 0 = 1) (hc : w.cell? ⟨b, off, none⟩ = some (.int .u8 ((1 : Nat) : Int))) :
    Calls Try.prog 12 #[.slice (some ⟨b, off, none⟩) l.length c] w (Lim3 w R.1 R.2.1 R.2.2.1 R.2.2.2.1 R.2.2.2.2) := by
  have HAT := Lib.hid (lat_of w b off 1 34 70 hbl hc)
  have hbel0 : Below w.heap.size w (w.alloc (.cells #[.int .i64 0, .bool false, .int .i64 0] 34)) := (Below.refl _ _).alloc (Nat.le_refl _) _
  have hc0 := (hbel0.cell (p := ⟨b, off, none⟩) hbl).trans hc
  have hl1 : ¬ (l.length : Int) < 1 := by omega
  have HF := Lib.hid hf
  have HB := Lib.hid hb
  have HR := Lib.hid hR
  have HL47 := Lib.hid hl47
  have HLC := Lib.hid hlc
  have HB0 := Lib.hid hbl
  clear hc hbel0 hf hb hR hl47 hlc
  go_enter Try.func12, Try.ntmps12
  go_wp2
  generalize (w.alloc _).alloc _ = W at *
  clear hc0
  go_loopw [6, 7] (fun x i wr => ∃ j p x0 x1 : Nat, j ≤ 2 ∧ p ≤ l.length ∧ x = .int .i64 (p : Int) ∧ i = .int .i64 (j : Int) ∧ Hid (LAt w wr b off 1 x0 x1) ∧ Hid (limAt l j p x0 x1)) (fun _ i _ => 2 - (intOf i).toNat)
  case atStart => exact ⟨0, 1, 0, 0, by omega, hl, rfl, rfl, HAT, Lib.hid (.inl ⟨rfl, rfl, rfl, rfl⟩)⟩
  case round =>
    obtain ⟨j, p, x0, x1, hj, hp, rfl, rfl, HAT1, HA⟩ := hrel
    have hfi := HAT1.out.first
    clear HAT
    by_cases hjk : j ≤ 1
    · skip
      have hjki : ((j : Nat) : Int) ≤ 1 := by omega
      have hj2 : j < 2 := by omega
      have hj2i : ((j : Nat) : Int) < 2 := by omega
      obtain ⟨he, ho⟩ := limAt_read HA.out hjk (by omega) (by omega) HF.out
      by_cases hpc : p = c
      · have hpl : p = l.length := by have := HLC.out; omega
        have hcl : c = l.length := by omega
        have hd : l.drop p = [] := List.drop_of_length_le (by omega)
        rw [hd] at he ho
        have HE : Hid (R = (0, false, 0, 0, 1)) := Lib.hid (HR.out.symm.trans (he (by decide)))
        have HU : Hid (∀ A c', Calls Try.prog 33 #[.slice A 0 c', .int .i64 32] wr (TellsU wr (0, 0, 1))) := Lib.hid fun A c' => rU_any A [] c' 32 wr ⟨by simp, by simp⟩ (by omega) (by omega)
        clear he ho hd HB HA HR HF
        subst hpl
        subst hcl
        go_wp2_with fail
        refine (HU.out _ _).mono ?_
        rintro e w1 ⟨rfl, hb1⟩
        have H1 := Lib.hid (HAT1.out.keep HB0.out hb1)
        obtain ⟨q1, q2, q3, q4, q5, q6, q7, q8, q9, q10, q11, q12, q13⟩ := H1.out
        clear HAT1 hb1 q1 q2 hfi
        go_wp2
        refine bodyPost_ret (v := .tuple #[limV 0 false 0, .int .i64 0, .int .i64 1]) (by simp [results, Try.results12, go_sem, limV, q4, q5, q6]) rfl ?_
        rw [HE.out]
        exact ⟨rfl, ((H1.out.below.setCell (Nat.le_refl _) _).setCell (Nat.le_refl _) _).setCell (Nat.le_refl _) _⟩
      · have hpc' : p < c := by have := HLC.out; omega
        have hpi : (p : Int) ≤ (l.length : Int) := by omega
        have hdl : (l.drop p).length = l.length - p := by simp
        have hU := rU_any _ (l.drop p) (c - p) 32 wr ((bytes_from (HB.out.below HAT1.out.below) p).more HAT1.out.below.size) (by omega) (by omega)
        rw [hdl] at hU
        have HU := Lib.hid hU
        have h32 := uRes_32 (l.drop p)
        rw [hdl] at h32
        clear hdl hU hpc
        generalize uRes (l.drop p) 32 = g at *
        obtain ⟨u, s, er⟩ := g
        simp only at he ho h32
        by_cases her : er = 0
        · subst her
          obtain ⟨h1, h2, h3⟩ := h32 rfl
          have HO := Lib.hid (ho rfl)
          have hl47 := HL47.out
          have hui : (u : Int) < 4294967296 := by omega
          have hsw : wrap64 ((p : Int) + (s : Int)) = ((p + s : Nat) : Int) := by rw [IntWalk.wrap64_in _ (by omega)]; omega
          have huw : wrap64 (u : Int) = (u : Int) := IntWalk.wrap64_in _ (by omega)
          have hps : p + s ≤ l.length := by omega
          clear he ho h32 h1 h2 h3 HA HR HB HF hui hl47
          go_wp2_with fail
          refine (HU.out).mono ?_
          rintro e w1 ⟨rfl, hb1⟩
          have h1 := HAT1.out.keep HB0.out hb1
          have H2 := Lib.hid (h1.set HB0.out j (u : Int) hj2)
          obtain ⟨⟨v0, hv0⟩, hz0⟩ := h1.at j hj2
          clear HAT1 hb1 hfi h1
          go_wp2
          go_roundw
          case rel =>
            refine ⟨j + 1, p + s, _, _, by omega, hps, by first | rfl | rw [hsw], by go_num, Lib.hid ?_, HO⟩
            have h2 := H2.out
            by_cases h0 : j = 0
            · rw [if_pos h0, if_pos h0] at h2 ⊢; exact h2
            · rw [if_neg h0, if_neg h0] at h2 ⊢; exact h2
          case measure => simp [intOf] <;> omega
        · have HE := Lib.hid (HR.out.symm.trans (he her))
          have hne : ((er : Int) != 0) = true := by simp; omega
          clear he ho h32 HA HR HB HF her
          go_wp2_with fail
          refine (HU.out).mono ?_
          rintro e w1 ⟨rfl, hb1⟩
          have H1 := Lib.hid (HAT1.out.keep HB0.out hb1)
          obtain ⟨q1, q2, q3, q4, q5, q6, q7, q8, q9, q10, q11, q12, q13⟩ := H1.out
          clear HAT1 hb1 q1 q2 hfi
          go_wp2
          refine bodyPost_ret (v := .tuple #[limV 0 false 0, .int .i64 0, .int .i64 (er : Int)]) (by simp [results, Try.results12, go_sem, limV, q4, q5, q6]) rfl ?_
          rw [HE.out]
          exact ⟨rfl, ((H1.out.below.setCell (Nat.le_refl _) _).setCell (Nat.le_refl _) _).setCell (Nat.le_refl _) _⟩
    · obtain rfl : j = 2 := by omega
      have hjki : ¬ ((2 : Nat) : Int) ≤ 1 := by omega
      have HE := Lib.hid (HR.out.symm.trans (limAt_end HA.out rfl (by omega) (by omega) HF.out))
      obtain ⟨q1, q2, q3, q4, q5, q6, q7, q8, q9, q10, q11, q12, q13⟩ := HAT1.out
      clear hjk hfi HA HR HB HF q1 q2
      go_wp2
      go_region
      go_wp2
      refine bodyPost_ret (v := .tuple #[limV x0 true x1, .int .i64 (p : Int), .int .i64 0]) (by simp [results, Try.results12, go_sem, limV, q4, q5, q6]) rfl ?_
      rw [HE.out]
      exact ⟨rfl, (((HAT1.out.below.setCell (Nat.le_refl _) _).setCell (Nat.le_refl _) _).setCell (Nat.le_refl _) _).drew⟩
theorem rlim_any (A : Option Addr) (l : List Nat) (c : Nat) (w : World) (hb : Bytes w w.heap.size A l) (hlc : l.length ≤ c) (hl47 : l.length ≤ 140737488355328) :
    Calls Try.prog 12 #[.slice A l.length c] w (Lim3 w (limRes l).1 (limRes l).2.1 (limRes l).2.2.1 (limRes l).2.2.2.1 (limRes l).2.2.2.2) := by
  by_cases h0 : l.length < 1
  · have hl : l.length = 0 := by omega
    have hR : limRes l = (0, false, 0, 0, 1) := by unfold limRes; rw [if_pos h0]
    rw [hR, hl]
    exact lim_short A c w
  obtain ⟨b, off, rfl, hbl, hcs⟩ := hb.2 (by omega)
  have hc := hcs 0 (by omega)
  have hd : l.getD 0 0 = l[0] := by simp [List.getD, List.getElem?_eq_getElem (show 0 < l.length by omega)]
  rw [Nat.add_zero, ← hd] at hc
  by_cases h1 : l.getD 0 0 = 0
  · rw [h1] at hc
    exact lim_run_0 b off c l w _ rfl (by omega) hlc hl47 hb hbl h1 hc
  by_cases h2 : l.getD 0 0 = 1
  · rw [h2] at hc
    exact lim_run_1 b off c l w _ rfl (by omega) hlc hl47 hb hbl h2 hc
  have hR : limRes l = (0, false, 0, 0, 2) := by unfold limRes; rw [if_neg h0, if_pos ⟨h1, h2⟩]
  rw [hR]
  exact lim_first b off l.length c _ w (by omega) hc hbl ⟨h1, h2⟩
end Go.Proofs.Ythhdbjpimjkekaa.Typ
