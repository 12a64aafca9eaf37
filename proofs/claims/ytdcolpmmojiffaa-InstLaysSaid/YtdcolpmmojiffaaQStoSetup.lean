/-
  StoSetup: inst.Setup of one module: a memory of one page, capped at three. Conditions: none.
-/
import Derived.Test.YtdcolpmmojiffaaQStoGrow
namespace Go.Proofs.Ytdcolpmmojiffaa.Sto
open Go.RowKit Leb Typ

theorem made_k {α : Type} (K : Kd α) (n : Nat) : (madeCells (K.v K.z).cells n).toList = (List.replicate n K.z).map K.v := by
  rw [K.zc]
  unfold madeCells
  apply List.ext_getElem
  · simp
  · intro i h1 h2
    simp [Nat.mod_one]
theorem BoxS.set1 {V : World} {b : Nat} {p : PSt} {g : GSt} (h : BoxS V b p g) (c : Int) : BoxS (V.setCell ⟨b, 1, none⟩ (.int .i64 c)) b p { g with cap := c } := by
  unfold BoxS at *
  unfold World.setCell
  simp [Array.getElem?_modify, h]
set_option maxRecDepth 100000 in
set_option maxHeartbeats 4000000 in
theorem memory_any (b n : Nat) (mx : Int) (p : PSt) (g : GSt) (w : World) (hbx : BoxS w b p g) (hn : n ≤ 4) (hmx : 0 ≤ mx ∧ mx ≤ 4) :
    Calls Try.prog 35 #[.pointer (some ⟨b, 0, none⟩), .agg #[.int .i64 (n : Int), .bool true, .int .i64 mx, .int .i64 0, .bool false, .int .u64 0]] w fun e w' => e = .returned (.tuple #[]) ∧ ∃ A c, BoxS w' b { p with A0 := A, c0 := c } { g with mem := List.replicate (n * 65536) 0, cap := mx } ∧ OwnK kB w' w.heap.size (.slice A (n * 65536) c) (List.replicate (n * 65536) 0) ∧ w.grownBy w' (some b) := by
  obtain ⟨i0, hi0, hz0, hz1, hz2⟩ := info_parts u8_info
  have Hi := Lib.hid hz2
  clear hz2
  have HBX := Lib.hid hbx
  clear hbx
  obtain ⟨m, hm⟩ : ∃ m, m = n * 65536 := ⟨_, rfl⟩
  have HM : Hid (m = n * 65536 ∧ m ≤ 262144) := Lib.hid ⟨hm, by omega⟩
  have hw : wrap64 ((n : Int) * 65536) = (m : Int) := by rw [hm]; unfold wrap64; omega
  rw [← hm]
  clear hm hn
  go_enter Try.func35, Try.ntmps35
  have hbl := HBX.out.lt
  go_upto_region 2 with (at_make; refine wpList_make_full _ rfl _ _ 22 rfl (w.heap.size + 1) 5 i0 (.int .u8 0) 1 Try.underlying22 hi0 hz0 hz1 _ _ _ _ m rfl rfl hw hw (by rw [Hi.out]; have := HM.out; omega) (by have := HM.out; simp only [maxLen]; omega) (by simp) ?_; intro w1 hown1 hgrow1; have HO : Hid (OwnK kB w1 (w.heap.size + 1) (.slice (some ⟨w.heap.size + 1, 0, none⟩) m m) (List.replicate m 0)) := Lib.hid (by unfold OwnK; rw [List.length_replicate, show (List.replicate m 0).map kB.v = (madeCells (Value.int .u8 0).cells m).toList from (made_k kB m).symm]; rw [Nat.mul_one] at hown1; simpa [kB] using hown1); have HG1 : Hid (∀ k, k < w.heap.size + 1 → w1.heap[k]? = (w.alloc (.cells #[.int .i64 (n : Int), .bool true, .int .i64 mx, .int .i64 0, .bool false, .int .u64 0] 74)).heap[k]?) := Lib.hid (fun k hk => hgrow1.block k (by simpa using hk) (fun e => by cases e)); have HG2 := Lib.hid hgrow1; have HB1 : Hid (BoxS w1 b p g) := Lib.hid ((HG1.out b (by omega)).trans (boxs_past HBX.out _)); have HB3 : Hid (w1.heap[w.heap.size]? = some (.cells #[.int .i64 (n : Int), .bool true, .int .i64 mx, .int .i64 0, .bool false, .int .u64 0] 74 (0, 0))) := Lib.hid ((HG1.out w.heap.size (by omega)).trans (heap_alloc_new w _)); clear hown1 hgrow1; obtain ⟨k0, k1, k2, k3, k4, k5⟩ := HB1.out.cells; have f0 := HB1.out.free 0; have f1 := HB1.out.free 1)
  clear k0 k1 k2 k3 k4 k5 f0 f1
  have hne : w.heap.size ≠ b := by omega
  have HB4 : Hid (BoxS ((w1.setCell ⟨b, 0, none⟩ (.slice (some ⟨w.heap.size + 1, 0, none⟩) m m)).setCell ⟨b, 1, none⟩ (.int .i64 4)) b { p with A0 := some ⟨w.heap.size + 1, 0, none⟩, c0 := m } { g with mem := List.replicate m 0, cap := 4 }) := Lib.hid (by
    have h1 := HB1.out.set0 (List.replicate m 0) (some ⟨w.heap.size + 1, 0, none⟩) m
    rw [List.length_replicate] at h1
    exact h1.set1 4)
  have HC4 : Hid (((w1.setCell ⟨b, 0, none⟩ (.slice (some ⟨w.heap.size + 1, 0, none⟩) m m)).setCell ⟨b, 1, none⟩ (.int .i64 4)).heap[w.heap.size]? = some (.cells #[.int .i64 (n : Int), .bool true, .int .i64 mx, .int .i64 0, .bool false, .int .u64 0] 74 (0, 0))) := Lib.hid (((Below.heap_setCell _ _ _ _ (by show w.heap.size ≠ b; omega)).trans (Below.heap_setCell _ _ _ _ (by show w.heap.size ≠ b; omega))).trans HB3.out)
  have HO4 : Hid (OwnK kB ((w1.setCell ⟨b, 0, none⟩ (.slice (some ⟨w.heap.size + 1, 0, none⟩) m m)).setCell ⟨b, 1, none⟩ (.int .i64 4)) (w.heap.size + 1) (.slice (some ⟨w.heap.size + 1, 0, none⟩) m m) (List.replicate m 0)) := Lib.hid ((HO.out.setCell _ (by omega)).setCell _ (by omega))
  have HG4 : Hid (w.grownBy ((w1.setCell ⟨b, 0, none⟩ (.slice (some ⟨w.heap.size + 1, 0, none⟩) m m)).setCell ⟨b, 1, none⟩ (.int .i64 4)) (some b)) := Lib.hid ⟨HG2.out.os, HG2.out.tape, HG2.out.output, by have := HG2.out.size; simp at this ⊢; omega, fun k hk hkb => ((Below.heap_setCell _ _ _ _ (by show k ≠ b; exact fun e => hkb (by rw [e]))).trans (Below.heap_setCell _ _ _ _ (by show k ≠ b; exact fun e => hkb (by rw [e])))).trans ((HG1.out k (by omega)).trans (heap_alloc_old w _ hk))⟩
  clear HB1 HB3 HO HG1 HG2
  generalize ((w1.setCell ⟨b, 0, none⟩ (.slice (some ⟨w.heap.size + 1, 0, none⟩) m m)).setCell ⟨b, 1, none⟩ (.int .i64 4)) = w2 at *
  have c0 : w2.cell? ⟨w.heap.size, 0, none⟩ = some (.int .i64 (n : Int)) := by unfold World.cell?; simp [HC4.out]
  have c1 : w2.cell? ⟨w.heap.size, 1, none⟩ = some (.bool true) := by unfold World.cell?; simp [HC4.out]
  have c2 : w2.cell? ⟨w.heap.size, 2, none⟩ = some (.int .i64 mx) := by unfold World.cell?; simp [HC4.out]
  obtain ⟨k0, k1, k2, k3, k4, k5⟩ := HB4.out.cells
  have f1 := HB4.out.free 1
  have hmn : ¬ (4 : Int) < mx := by omega
  have d0 : w2.drew.cell? ⟨b, 1, none⟩ = some (.int .i64 4) := k1
  have d1 : w2.drew.cell? ⟨w.heap.size, 2, none⟩ = some (.int .i64 mx) := c2
  have d2 : w2.drew.frozen? ⟨b, 1, none⟩ = false := f1
  go_wp2_with fail
  go_region
  all_goals
    have hif : (if mx < 4 then mx else 4) = mx := by split <;> omega
    rw [hif]
    refine bodyPost_end (v := .tuple #[]) (by simp [results, Try.results35, go_sem]) rfl ?_
    exact ⟨rfl, some ⟨w.heap.size + 1, 0, none⟩, m, HB4.out.set1 mx, (HO4.out.setCell (n := b) (i := 1) (.int .i64 mx) (by omega)).base (by omega), ⟨HG4.out.os, HG4.out.tape, HG4.out.output, by have := HG4.out.size; simpa using this, fun k hk hkb => (Below.heap_setCell _ _ _ _ (by show k ≠ b; exact fun e => hkb (by rw [e]))).trans (HG4.out.block k hk hkb)⟩⟩
set_option maxRecDepth 100000 in
set_option maxHeartbeats 4000000 in
theorem noFunctions_nil (w : World) : Calls Try.prog 25 #[.slice none 0 0] w fun e w' => e = .returned (.slice none 0 0) ∧ w' = w := by
  go_enter Try.func25, Try.ntmps25
  go_wp2
  go_loopw [3, 8] (fun s i wr => s = .slice none 0 0 ∧ i = .int .i64 0 ∧ wr = w) (fun _ _ _ => 0)
  case atStart => exact ⟨rfl, rfl, rfl⟩
  case round =>
    obtain ⟨rfl, rfl, rfl⟩ := hrel
    go_wp2
    go_ret
    exact ⟨rfl, rfl⟩
set_option maxRecDepth 100000 in
set_option maxHeartbeats 4000000 in
theorem equal_nil (fv : Value) (w : World) : Calls Try.prog 26 #[.slice none 0 0, .slice none 0 0, fv] w fun e w' => e = .returned (.bool true) ∧ w' = w := by
  go_enter Try.func26, Try.ntmps26
  go_wp2
  go_loopw [17] (fun i wr => i = .int .i64 0 ∧ wr = w) (fun _ _ => 0)
  case atStart => exact ⟨rfl, rfl⟩
  case round =>
    obtain ⟨rfl, rfl⟩ := hrel
    go_wp2
    go_ret
    exact ⟨rfl, rfl⟩
def oneM (bm : Nat) : Value := .agg #[.slice none 0 0, .slice none 0 0, .slice none 0 0, .slice none 0 0, .slice (some ⟨bm, 0, none⟩) 1 1, .slice none 0 0, .slice none 0 0, .slice none 0 0, .slice none 0 0, .slice none 0 0, .slice none 0 0, .slice none 0 0]
def oneL : Obj := .cells #[.int .i64 1, .bool true, .int .i64 3] 44
def OwnM (w : World) (B : Nat) (A : Option Addr) (c : Nat) : Prop := OwnK kB w B (.slice A 65536 c) (List.replicate 65536 0)
def oneG : GSt := ⟨List.replicate 65536 0, 3, [], [], [], []⟩
theorem least_one (w : World) : Calls Try.prog 36 #[.agg #[.int .i64 1, .bool true, .int .i64 3]] w fun e w' => e = .returned (.agg #[.int .i64 1, .bool true, .int .i64 3, .int .i64 0, .bool false, .int .u64 0]) ∧ Below w.heap.size w w' := by
  go_enter Try.func36, Try.ntmps36
  go_wp2
  refine bodyPost_ret (v := .agg #[.int .i64 1, .bool true, .int .i64 3, .int .i64 0, .bool false, .int .u64 0]) (by simp [results, Try.results36, go_sem]) rfl ?_
  exact ⟨rfl, ((Below.refl _ _).alloc (Nat.le_refl _) _).alloc (by simp) _⟩
structure BG (w V : World) (bm : Nat) (p : PSt) (g : GSt) : Prop where
  b : Below w.heap.size w V
  m : V.heap[w.heap.size]? = some (.cells (oneM bm).cells 55 (0, 0))
  res : BoxS V (w.heap.size + 1) zeroP zeroG
  s : BoxS V (w.heap.size + 1 + 1) p g
  l : V.heap[bm]? = some oneL
  lt : bm < w.heap.size
theorem BG.keep {w V V' : World} {bm : Nat} {p : PSt} {g : GSt} (h : BG w V bm p g) (hb : Below V.heap.size V V') : BG w V' bm p g where
  b := h.b.trans (hb.mono h.b.size)
  m := (hb.block _ (by have := h.res.lt; omega)).trans h.m
  res := h.res.keep hb h.res.lt
  s := h.s.keep hb h.s.lt
  l := (hb.block _ (by have := h.lt; have := h.res.lt; omega)).trans h.l
  lt := h.lt
set_option maxRecDepth 100000 in
set_option maxHeartbeats 4000000 in
theorem begin_one (bm : Nat) (w : World) (hbm : w.heap[bm]? = some oneL) : Calls Try.prog 28 #[oneM bm, .slice none 0 0, .slice none 0 0] w fun e w' => ∃ A c, e = .returned (vSt { zeroP with A0 := A, c0 := c } oneG) ∧ OwnM w' w.heap.size A c ∧ Below w.heap.size w w' := by
  have hlt : bm < w.heap.size := by
    rcases Nat.lt_or_ge bm w.heap.size with h1 | h1
    · exact h1
    · have : w.heap[bm]? = none := by simp [h1]
      rw [hbm] at this
      cases this
  have HBM := Lib.hid hbm
  have HLT := Lib.hid hlt
  clear hbm hlt
  unfold oneM
  go_enter Try.func28, Try.ntmps28
  go_upto_region 2 with fail
  refine (show ∀ U, BG w U bm zeroP zeroG → Code.wp _ _ _ _ U from fun V0 hF => ?_) _ ?_
  rotate_left
  · have e1 : (w.alloc (.cells (oneM bm).cells 55)).heap.size = w.heap.size + 1 := by simp
    have e2 : ((w.alloc (.cells (oneM bm).cells 55)).alloc (.cells (vSt zeroP zeroG).cells 27)).heap.size = w.heap.size + 1 + 1 := by simp
    have h2 := boxs_new (w.alloc (.cells (oneM bm).cells 55)) zeroP zeroG
    have h3 := boxs_new ((w.alloc (.cells (oneM bm).cells 55)).alloc (.cells (vSt zeroP zeroG).cells 27)) zeroP zeroG
    rw [e1] at h2
    rw [e2] at h3
    refine ⟨(((Below.refl _ _).alloc (Nat.le_refl _) _).alloc (by simp) _).alloc (by simp; omega) _, ?_, boxs_past h2 _, h3, ?_, HLT.out⟩
    · exact (heap_alloc_old _ _ (by simp; omega)).trans ((heap_alloc_old _ _ (by simp)).trans (heap_alloc_new w _))
    · exact (heap_alloc_old _ _ (by have := HLT.out; simp; omega)).trans ((heap_alloc_old _ _ (by have := HLT.out; simp; omega)).trans ((heap_alloc_old _ _ HLT.out).trans HBM.out))
  have HG := Lib.hid hF
  clear hF
  have mc : ∀ (V : World), V.heap[w.heap.size]? = some (.cells (oneM bm).cells 55 (0, 0)) → V.cell? ⟨w.heap.size, 3, none⟩ = some (.slice none 0 0) ∧ V.cell? ⟨w.heap.size, 4, none⟩ = some (.slice (some ⟨bm, 0, none⟩) 1 1) ∧ V.cell? ⟨w.heap.size, 5, none⟩ = some (.slice none 0 0) := fun V h => by
    have e : (oneM bm).cells = #[.slice none 0 0, .slice none 0 0, .slice none 0 0, .slice none 0 0, .slice (some ⟨bm, 0, none⟩) 1 1, .slice none 0 0, .slice none 0 0, .slice none 0 0, .slice none 0 0, .slice none 0 0, .slice none 0 0, .slice none 0 0] := rfl
    rw [e] at h
    refine ⟨?_, ?_, ?_⟩ <;> (unfold World.cell?; simp [h])
  obtain ⟨m3, m4, m5⟩ := mc V0 HG.out.m
  have HMC := Lib.hid mc
  clear mc
  go_wp2
  go_loopw [18] (fun i wr => i = .int .i64 0 ∧ wr = V0) (fun _ _ => 0)
  case atStart => exact ⟨rfl, rfl⟩
  case round =>
  obtain ⟨rfl, rfl⟩ := hrel
  rename World => V0
  go_wp2
  go_loopw [55] (fun i wr => i = .int .i64 0 ∧ wr = V0) (fun _ _ => 0)
  case atStart => exact ⟨rfl, rfl⟩
  case round =>
  obtain ⟨rfl, rfl⟩ := hrel
  rename World => V0
  go_wp2
  clear m3 m4 m5
  go_loopw [66] (fun i wr => (i = .int .i64 0 ∧ wr = V0) ∨ (i = .int .i64 1 ∧ ∃ A c, BG w wr bm { zeroP with A0 := A, c0 := c } oneG ∧ OwnK kB wr (w.heap.size + 1 + 1 + 1) (.slice A 65536 c) (List.replicate 65536 0))) (fun i _ => 1 - (intOf i).toNat)
  case atStart => exact .inl ⟨rfl, rfl⟩
  case round =>
  rcases hrel with ⟨rfl, rfl⟩ | ⟨rfl, A, c, hbg, hown⟩
  · rename World => V0
    have l0 : V0.cell? ⟨bm, 0, none⟩ = some (.int .i64 1) := by unfold World.cell?; simp [HG.out.l, oneL]
    have l1 : V0.cell? ⟨bm, 1, none⟩ = some (.bool true) := by unfold World.cell?; simp [HG.out.l, oneL]
    have l2 : V0.cell? ⟨bm, 2, none⟩ = some (.int .i64 3) := by unfold World.cell?; simp [HG.out.l, oneL]
    go_wp2_with fail
    refine (least_one _).mono ?_
    rintro en V1 ⟨rfl, hb1⟩
    have HG1 : Hid (BG w V1 bm zeroP zeroG) := Lib.hid (HG.out.keep (((Below.refl _ _).alloc (Nat.le_refl _) _).trans (hb1.mono (by simp))))
    clear hb1 l0 l1 l2 HG
    go_wp2_with fail
    refine (show Calls _ _ #[_, .agg #[.int .i64 ((1 : Nat) : Int), .bool true, .int .i64 3, .int .i64 0, .bool false, .int .u64 0]] _ _ from (memory_any (w.heap.size + 1 + 1) 1 3 zeroP zeroG V1 HG1.out.s (by omega) (by omega)).mono ?_)
    rintro en V2 ⟨rfl, A, c, hbx, ho, hg⟩
    have HBX : Hid (BG w V2 bm { zeroP with A0 := A, c0 := c } oneG ∧ OwnK kB V2 (w.heap.size + 1 + 1 + 1) (.slice A 65536 c) (List.replicate 65536 0)) := Lib.hid (by
      have hh := HG1.out
      have hs := hh.s.lt
      refine ⟨⟨⟨hg.os.trans hh.b.os, hg.tape.trans hh.b.tape, hg.output.trans hh.b.output, Nat.le_trans hh.b.size hg.size, fun k hk => (hg.block k (by omega) (fun e => by injection e; omega)).trans (hh.b.block k hk)⟩, (hg.block _ (by omega) (fun e => by injection e; omega)).trans hh.m, (hg.block _ (by omega) (fun e => by injection e; omega)).trans hh.res, hbx, (hg.block _ (by have := hh.lt; omega) (fun e => by have := hh.lt; injection e; omega)).trans hh.l, hh.lt⟩, ho.base (by omega)⟩)
    clear hbx ho hg HG1
    go_wp2
    exact ⟨.inr ⟨rfl, A, c, HBX.out.1, HBX.out.2⟩, by simp [intOf]⟩
  · rename World => V5
    have HG5 := Lib.hid hbg
    have HO5 := Lib.hid hown
    clear hbg hown HG
    obtain ⟨m3, m4, m5⟩ := HMC.out V5 HG5.out.m
    go_wp2
    go_loopw [77] (fun i wr => i = .int .i64 0 ∧ wr = V5) (fun _ _ => 0)
    case atStart => exact ⟨rfl, rfl⟩
    case round =>
    obtain ⟨rfl, rfl⟩ := hrel
    rename World => V5
    obtain ⟨k0, k1, k2, k3, k4, k5⟩ := HG5.out.s.cells
    obtain ⟨r0, r1, r2, r3, r4, r5⟩ := HG5.out.res.cells
    simp only [show zeroG.mem.length = 0 from rfl, show zeroG.tab.length = 0 from rfl, show zeroG.glo.length = 0 from rfl, show zeroG.els.length = 0 from rfl, show zeroG.dat.length = 0 from rfl, show zeroG.cap = 0 from rfl, show zeroP.A0 = none from rfl, show zeroP.c0 = 0 from rfl, show zeroP.A2 = none from rfl, show zeroP.c2 = 0 from rfl, show zeroP.A3 = none from rfl, show zeroP.c3 = 0 from rfl, show zeroP.A4 = none from rfl, show zeroP.c4 = 0 from rfl, show zeroP.A5 = none from rfl, show zeroP.c5 = 0 from rfl] at r0 r1 r2 r3 r4 r5
    have fr' := fun i => HG5.out.res.free i
    have f0 := fr' 0
    have f1 := fr' 1
    have f2 := fr' 2
    have f3 := fr' 3
    have f4 := fr' 4
    have f5 := fr' 5
    clear fr'
    go_wp2
    clear k0 k1 k2 k3 k4 k5 r0 r1 r2 r3 r4 r5 f0 f1 f2 f3 f4 f5
    change bodyPost _ _ _ _ _ (putS V5 (w.heap.size + 1) { zeroP with A0 := A, c0 := c } oneG)
    have HX := Lib.hid (HG5.out.res.put { zeroP with A0 := A, c0 := c } oneG)
    have HZ := Lib.hid (below_put (n := w.heap.size + 1) HG5.out.b { zeroP with A0 := A, c0 := c } oneG (by omega))
    have HO6 := Lib.hid (HO5.out.put (n := w.heap.size + 1) { zeroP with A0 := A, c0 := c } oneG (by omega))
    clear HG5 HO5
    generalize putS V5 (w.heap.size + 1) { zeroP with A0 := A, c0 := c } oneG = V6 at *
    obtain ⟨k0, k1, k2, k3, k4, k5⟩ := HX.out.cells
    refine bodyPost_ret (v := vSt { zeroP with A0 := A, c0 := c } oneG) (by simp [results, Try.results28, go_sem, vSt, k0, k1, k2, k3, k4, k5]) rfl ?_
    exact ⟨A, c, rfl, HO6.out.base (by omega), HZ.out⟩
theorem one_stf {w : World} {B : Nat} {A : Option Addr} {c : Nat} (h : OwnM w B A c) : StF w w.heap.size { zeroP with A0 := A, c0 := c } oneG := by
  obtain ⟨a1, b1, c1⟩ := lead_own h
  have hz := zero_stf w
  exact ⟨⟨lead_bytes (fun x hx => by rw [List.eq_of_mem_replicate hx]; omega) a1, hz.l.tab, hz.l.glo, hz.l.els, hz.l.dat⟩, ⟨b1, hz.r.t, hz.r.n, hz.r.e, hz.r.d, c1, hz.r.t0, hz.r.n0, hz.r.e0, hz.r.d0⟩⟩
theorem oneM_cells (b bm : Nat) (V : World) (h : V.heap[b]? = some (.cells (oneM bm).cells 55 (0, 0))) : V.cell? ⟨b, 0, none⟩ = some (.slice none 0 0) ∧ V.cell? ⟨b, 1, none⟩ = some (.slice none 0 0) ∧ V.cell? ⟨b, 2, none⟩ = some (.slice none 0 0) ∧ V.cell? ⟨b, 3, none⟩ = some (.slice none 0 0) ∧ V.cell? ⟨b, 4, none⟩ = some (.slice (some ⟨bm, 0, none⟩) 1 1) ∧ V.cell? ⟨b, 5, none⟩ = some (.slice none 0 0) ∧ V.cell? ⟨b, 6, none⟩ = some (.slice none 0 0) ∧ V.cell? ⟨b, 7, none⟩ = some (.slice none 0 0) ∧ V.cell? ⟨b, 8, none⟩ = some (.slice none 0 0) ∧ V.cell? ⟨b, 9, none⟩ = some (.slice none 0 0) ∧ V.cell? ⟨b, 10, none⟩ = some (.slice none 0 0) ∧ V.cell? ⟨b, 11, none⟩ = some (.slice none 0 0) := by
  have e : (oneM bm).cells = #[.slice none 0 0, .slice none 0 0, .slice none 0 0, .slice none 0 0, .slice (some ⟨bm, 0, none⟩) 1 1, .slice none 0 0, .slice none 0 0, .slice none 0 0, .slice none 0 0, .slice none 0 0, .slice none 0 0, .slice none 0 0] := rfl
  rw [e] at h
  refine ⟨?_, ?_, ?_, ?_, ?_, ?_, ?_, ?_, ?_, ?_, ?_, ?_⟩ <;> (unfold World.cell?; simp [h])
set_option maxRecDepth 100000 in
set_option maxHeartbeats 4000000 in
theorem fill_none (b bm : Nat) (w : World) : Calls Try.prog 29 #[.pointer (some ⟨b, 0, none⟩), oneM bm] w fun e w' => e = .returned (.int .i64 0) ∧ Below w.heap.size w w' := by
  obtain ⟨m0, m1, m2, m3, m4, m5, m6, m7, m8, m9, m10, m11⟩ := oneM_cells w.heap.size bm (w.alloc (.cells (oneM bm).cells 55)) (heap_alloc_new w _)
  have hB : Below w.heap.size w (w.alloc (.cells (oneM bm).cells 55)) := (Below.refl _ _).alloc (Nat.le_refl _) _
  have HB := Lib.hid hB
  clear hB
  generalize hW : w.alloc (.cells (oneM bm).cells 55) = W at *
  go_enter Try.func29, Try.ntmps29
  go_upto_region 1 with fail
  change Code.wp _ _ _ _ (w.alloc (.cells (oneM bm).cells 55))
  rw [hW]
  go_wp2
  go_loopw [12] (fun i wr => i = .int .i64 0 ∧ wr = W) (fun _ _ => 0)
  case atStart => exact ⟨rfl, rfl⟩
  case round =>
  obtain ⟨rfl, rfl⟩ := hrel
  rename World => W
  go_wp2
  go_loopw [55] (fun i wr => i = .int .i64 0 ∧ wr = W) (fun _ _ => 0)
  case atStart => exact ⟨rfl, rfl⟩
  case round =>
  obtain ⟨rfl, rfl⟩ := hrel
  go_wp2
  go_ret
  exact ⟨rfl, HB.out⟩
end Go.Proofs.Ytdcolpmmojiffaa.Sto
